import Derived.Test.YtdcacoifehkioaaGreatDoorExA3
import Derived.Test.YtdcacoifehkioaaGreatDoorExA26
open Go renaming World->Xh,Addr->YV,Value->Xk,bodyPost_ret->XI,heap_setCell_other->Xt
open Go.RowKit renaming Below->Xm,wrap64->XN
open Option.some renaming injEq->YN
open Go.Addr.mk renaming injEq->afw
open Nat renaming le_trans->Xu,le_refl->Xd
open Array renaming getElem?_eq_some_iff->Xa
open Int renaming tmod_eq_emod_of_nonneg->Zl
set_option maxRecDepth 100000
set_option maxHeartbeats 8000000
set_option linter.unusedVariables false
set_option linter.unusedSimpArgs false
namespace Go.Proofs.YtdcacoifehkioaaGreatDoor
open Go.RowKit Go.Shelf Go.Proofs.Cod
structure DF (Wp:Xh) (lo:Nat) (b0 b1 b2 b3 b4 b5:Option YV) (p1 p2 p3 p4 p5 p6 be:Nat) (r:MS×Ev×Nat) (wx:Xh):Prop where
 rows:Be wx lo b0 b1 b2 b3 b4 b5 r.1 p1 p2 p3 p4 p5 p6
 ev:wx.heap[be]?=some (.cells #[.int .i64 r.2.1.t,.int .i64 r.2.1.k,.int .i64 r.2.1.o,.int .i64 r.2.1.v] 169)
 keep:Ac (λk=>(lo<=k/\k<p6)\/k=be) Wp wx
abbrev IU (w:Xh) (be:Nat) (v0 v1 v2 v3 v4 v5:Xk) (re:Ev) (u:Xh):Prop:=(u.cell? ⟨w.heap.size+1,0,none⟩=some v0/\u.cell? ⟨w.heap.size+1,1,none⟩=some v1/\u.cell? ⟨w.heap.size+1,2,none⟩=some v2/\u.cell? ⟨w.heap.size+1,3,none⟩=some v3/\u.cell? ⟨w.heap.size+1,4,none⟩=some v4/\u.cell? ⟨w.heap.size+1,5,none⟩=some v5)/\u.cell? ⟨be,0,none⟩=some (.int .i64 re.t)/\u.cell? ⟨be,1,none⟩=some (.int .i64 re.k)/\u.cell? ⟨be,2,none⟩=some (.int .i64 re.o)/\u.cell? ⟨be,3,none⟩=some (.int .i64 re.v)
theorem Vh {w R g:Xh} {j Q K N P O D z V e nv nf nl nt nr p q s n u y t T:Nat} {I J G E H:Option YV} {m Y:MS} {c:Ev} {x:Ad} {ln:Int} {wd:Tx} (ad:DF R j I J G (some ⟨e,0,none⟩) E H Q K N P O D z (Au m t x) g) (aq:BF m t x (Au m t x).2.2=T)
 (HM:m.thr.length=nt/\R4 m/\nt*4=nr/\(CD (Af (m.th t) x.aR x.aN)/\CD (Af (m.th t) x.bR x.bN)/\(m.th t).pc<=24)/\True/\m.vars.length=nv/\m.flags.length=nf/\m.locks.length=nl) (HQ:Y=EF (Au m t x).1 t (BF m t x (Au m t x).2.2)/\c=(Au m t x).2.1) (ht:t<nt)
 (aH:R.heap[w.heap.size+1]?=some (.cells #[.slice I nv p,.slice J nf q,.slice G nl s,.slice (some ⟨e,0,none⟩) nt n,.slice E nt u,.slice H nr y] 92)) (bd:R.heap[V]?=some (.cells #[.string (bs x.op),.int .i64 x.r,.bool x.aR,.int .i64 x.aN,.bool x.bR,.int .i64 x.bN,.int .i64 x.x,.int .i64 ln,.string (bs wd)] 177))
 (a9:R.heap[w.heap.size+1+1]?=some (.cells #[.slice none 0 0,.slice none 0 0,.slice none 0 0,.slice none 0 0,.slice none 0 0,.slice none 0 0] 92)) (a2:R.heap[w.heap.size+1+1+1]?=some (.cells #[.int .i64 0,.int .i64 0,.int .i64 0,.int .i64 0] 169)) (F:Xm w.heap.size w R) (bo:w.heap.size+1+1+1<j/\w.heap.size+1+1+1<V/\V<j/\j<=D/\D<=z/\z<R.heap.size) :
 ∃(d M h:Xh) (Z:Nat) (w0 w1 w2 w3 w4 w5 e0 e1 e2 e3:Xk) (c0 c1 c2 c3 c4 c5:Option YV),g.setCell ⟨e,t,none⟩ (.int .i64 (T:Int))=d/\g.cell? ⟨e,t,none⟩=some (.int .i64 (Z:Int))/\g.frozen? ⟨e,t,none⟩=false/\g.cell? ⟨w.heap.size+1,3,none⟩=some (.slice (some ⟨e,0,none⟩) nt n)/\g.cell? ⟨V,0,none⟩=some (.string (bs x.op))/\g.cell? ⟨V,6,none⟩=some (.int .i64 x.x)/\
  Hid (d.drew.setCells (w.heap.size+1+1) 0 (#[Value.slice c0 nv p,.slice c1 nf q,.slice c2 nl s,.slice c3 nt n,.slice c4 nt u,.slice c5 nr y]:Array Xk).toList=M)/\Hid (M.setCells (w.heap.size+1+1+1) 0 (#[Value.int .i64 c.t,.int .i64 c.k,.int .i64 c.o,.int .i64 c.v]:Array Xk).toList=h)/\Hid (IU w z (.slice c0 nv p) (.slice c1 nf q) (.slice c2 nl s) (.slice c3 nt n) (.slice c4 nt u) (.slice c5 nr y) c d.drew)/\Hid (IU w z (.slice c0 nv p) (.slice c1 nf q) (.slice c2 nl s) (.slice c3 nt n) (.slice c4 nt u) (.slice c5 nr y) c M)/\Hid (IU w z (.slice c0 nv p) (.slice c1 nf q) (.slice c2 nl s) (.slice c3 nt n) (.slice c4 nt u) (.slice c5 nr y) c h)/\
  Hid (d.heap[w.heap.size+1+1]?=some (.cells #[w0,w1,w2,w3,w4,w5] 92)/\M.heap[w.heap.size+1+1+1]?=some (.cells #[e0,e1,e2,e3] 169))/\
  Hid (h.heap[w.heap.size+1+1]?=some (.cells #[.slice c0 nv p,.slice c1 nf q,.slice c2 nl s,.slice c3 nt n,.slice c4 nt u,.slice c5 nr y] 92)/\h.heap[w.heap.size+1+1+1]?=some (.cells #[.int .i64 c.t,.int .i64 c.k,.int .i64 c.o,.int .i64 c.v] 169)/\Ci h c0 c1 c2 c3 c4 c5 nv nf nl nt nr Y/\Xm w.heap.size w h/\∃j,w.heap.size<=j/\∃Q K N P O D,Be h j c0 c1 c2 c3 c4 c5 Y Q K N P O D):=by
 obtain⟨ap,aP,a7,-,-,aF,bc,av⟩:=HM;obtain⟨ao,aU⟩:=HQ;have U:=Vf (t:=t) (x:=x) aP;obtain⟨bn,ai,bg,bk,an,aY,aE⟩:=ad.rows.pc (i:=t) (by rw[U.t,ap];exact ht);simp only[YN,afw,and_true] at ai;subst ai;have C:=ad.keep;have zs:=C.size;have ag:g.heap[w.heap.size+1]?=_:=(C.block _ (by omega) (by omega)).trans aH;have aV:g.heap[V]?=_:=(C.block _ (by omega) (by omega)).trans bd;have az:g.heap[w.heap.size+1+1]?=_:=(C.block _ (by omega) (by omega)).trans a9;have key:g.heap[w.heap.size+1+1+1]?=_:=(C.block _ (by omega) (by omega)).trans a2;obtain⟨d,ab⟩:∃d,g.setCell ⟨e,t,none⟩ (.int .i64 (T:Int))=d:=⟨_,rfl⟩;have A:Ac (λk=>k=e) g d:=by rw[<-ab];exact Ac.set (S:=λk=>k=e) (Ac.refl g) (a:=⟨e,t,none⟩) (.inl rfl) _
 have ak:=aE T;rw[ab] at ak;have z8:=A.size;have af:d.heap[w.heap.size+1]?=_:=(A.block _ (by omega) (by omega)).trans ag;have aj:d.heap[w.heap.size+1+1]?=_:=(A.block _ (by omega) (by omega)).trans az;have aW:d.heap[w.heap.size+1+1+1]?=_:=(A.block _ (by omega) (by omega)).trans key;have aa:d.heap[z]?=some (.cells #[.int .i64 c.t,.int .i64 c.k,.int .i64 c.o,.int .i64 c.v] 169):=by rw[aU];exact(A.block _ (by omega) (by omega)).trans ad.ev
 obtain⟨Z,aS⟩:∃v,((Au m t x).1.th t).pc=v:=⟨_,rfl⟩;rw[aS] at an;obtain⟨M,h,a1,aB,ac,B,ay,aZ,aI⟩:=NP (W:=d.drew) (.slice I nv p) (.slice J nf q) (.slice G nl s) (.slice (some ⟨e,0,none⟩) nt n) (.slice E nt u) (.slice H nr y) (.int .i64 c.t) (.int .i64 c.k) (.int .i64 c.o) (.int .i64 c.v) aj aW (by omega);have zd:d.drew.heap.size=d.heap.size:=rfl;have z9:=ac.size;have bh:=B.size;have S8:Hid (IU w z (.slice I nv p) (.slice J nf q) (.slice G nl s) (.slice (some ⟨e,0,none⟩) nt n) (.slice E nt u) (.slice H nr y) c d.drew):=⟨Bk af,Cl aa⟩;have S9:Hid (IU w z (.slice I nv p) (.slice J nf q) (.slice G nl s) (.slice (some ⟨e,0,none⟩) nt n) (.slice E nt u) (.slice H nr y) c M):=⟨Bk ((ac.block _ (by omega) (by omega)).trans af),Cl ((ac.block _ (by omega) (by omega)).trans aa)⟩;have aT:Hid (IU w z (.slice I nv p) (.slice J nf q) (.slice G nl s) (.slice (some ⟨e,0,none⟩) nt n) (.slice E nt u) (.slice H nr y) c h):=⟨Bk ((B.block _ (by omega) (by omega)).trans af),Cl ((B.block _ (by omega) (by omega)).trans aa)⟩;have ah:=ak.keep (w':=h) (λb q1 q2=>B.block b (by omega) (by omega)) B.size;have X:=acV (m1:=(Au m t x).1) (t:=t) U.r T;have ar:=Be.doc (nv:=nv) (nf:=nf) (nl:=nl) (nt:=nt) (nr:=nr) (m:=EF (Au m t x).1 t T) ah (by rw[X.v,U.v];exact aF) (by rw[X.f,U.f];exact bc) (by rw[X.l,U.l];exact av) (by rw[X.t,U.t];exact ap) a7 X.r;rw[<-aq,<-ao] at ar;have am:Be h j I J G (some ⟨e,0,none⟩) E H (EF (Au m t x).1 t T) Q K N P O D:=ah;rw[<-aq,<-ao] at am;have aD:Xm w.heap.size w h:=⟨B.os.trans (A.os.trans (C.os.trans F.os)),B.tape.trans (A.tape.trans (C.tape.trans F.tape)),B.output.trans (A.output.trans (C.output.trans F.output)),Xu F.size (by omega),λk hk=>(B.block k (by have:=F.size;omega) (by omega)).trans ((A.block k (by have:=F.size;omega) (by omega)).trans ((C.block k (by have:=F.size;omega) (by omega)).trans (F.block k hk)))⟩;have ba:∃j,w.heap.size<=j/\∃Q K N P O D,Be h j I J G (some ⟨e,0,none⟩) E H Y Q K N P O D:=⟨j,by omega,Q,K,N,P,O,D,am⟩;have HF:=Aa (⟨aZ,aI,ar,aD,ba⟩:_/\_/\_/\_/\_);obtain⟨-,-,-,a6,-,-⟩:=Bk ag;obtain⟨aw,-,-,-,-,-,aG,-,-⟩:=Dv aV
 exact⟨d,M,h,Z,_,_,_,_,_,_,_,_,_,_,_,_,_,_,_,_,ab,an,aY,a6,aw,aG,a1,aB,S8,S9,aT,⟨aj,ay⟩,HF.out⟩
section
variable {w w':Xh} {a0 a1 a2 a3 a4 a5:Option YV} {nv nf nl nt nr:Nat} {m:MS} {P:RP} {TV:List (Xk×Xk)} {x1 x2 x3 x4:Option YV} {y1 y2 y3 z1 z2 z3 z4:Nat}
theorem Wh {c0 c1 c2 c3 c4 c5:Nat} (hQ:DI w (.slice x1 y1 z1) (.slice x2 y2 z2) (.slice x3 y3 z3) (.slice x4 nt z4) P TV) (dj:P.thr.length=nt) (h:Ci w a0 a1 a2 a3 a4 a5 nv nf nl nt nr m) (hv4:nv<=4) (dL:nf<=4) (eB:nl<=4) (hM:AW nv nf nl (Ai P) m) (hf:Ef nv nf nl (Ai P)) {t:Nat} (ht:t<nt) (eX:(m.th t).ph=1) :
 Calls Tryz.prog 69 #[.agg #[.slice x1 y1 z1,.slice x2 y2 z2,.slice x3 y3 z3,.slice x4 nt z4],.agg #[.slice a0 nv c0,.slice a1 nf c1,.slice a2 nl c2,.slice a3 nt c3,.slice a4 nt c4,.slice a5 nr c5],.int .i64 t] w λe w'=>∃b0 b1 Z b3 b4 b5,(∃d0 d1 d2 d3 d4 d5,e = .returned (.tuple #[.agg #[.slice b0 nv d0,.slice b1 nf d1,.slice Z nl d2,.slice b3 nt d3,.slice b4 nt d4,.slice b5 nr d5],.agg #[.int .i64 (AB true (Ai P) m t).2.t,.int .i64 (AB true (Ai P) m t).2.k,.int .i64 (AB true (Ai P) m t).2.o,.int .i64 (AB true (Ai P) m t).2.v]]))/\(∃H,w.heap.size<=H/\∃p1 p2 p3 p4 p5 J,Be w' H b0 b1 Z b3 b4 b5 (AB true (Ai P) m t).1 p1 p2 p3 p4 p5 J)/\Ci w' b0 b1 Z b3 b4 b5 nv nf nl nt nr (AB true (Ai P) m t).1/\Xm w.heap.size w w':=by
 obtain⟨W,hW⟩:∃W,(((w.alloc (.cells #[.slice x1 y1 z1,.slice x2 y2 z2,.slice x3 y3 z3,.slice x4 nt z4] 28)).alloc (.cells #[.slice a0 nv c0,.slice a1 nf c1,.slice a2 nl c2,.slice a3 nt c3,.slice a4 nt c4,.slice a5 nr c5] 92)).alloc (.cells #[.slice none 0 0,.slice none 0 0,.slice none 0 0,.slice none 0 0,.slice none 0 0,.slice none 0 0] 92)).alloc (.cells #[.int .i64 0,.int .i64 0,.int .i64 0,.int .i64 0] 169)=W:=⟨_,rfl⟩;obtain⟨hB,k1,k2,k3,k4,hz⟩:=adh _ _ _ _ _ hW;have HB:=Aa hB;have ef:(Ai P).length=nt:=by unfold Ai;rw[List.length_map];exact dj
 have eo:m.thr.length=nt:=h.lt;have h4:nt<=4:=by have:=hf.four;omega
 have hT:=hM.th t (by omega);have hN:=MJ (c0:=c0) (c1:=c1) (c2:=c2) (c3:=c3) (c4:=c4) (c5:=c5) (hQ.below hB) dj (h.below hB) ht (hT.pc (by omega));have cz:=OB ((Lm hf (by omega:t<(Ai P).length) (hT.pc (by omega))).imp id And.left);have ek:AB true (Ai P) m (t:Int)=Ba true m t (BA (Ai P) t (m.th t)):=by unfold AB;rw[Int.toNat_natCast]
 rw[ek];rw[ef] at cz;obtain⟨x,ee⟩:∃x,BA (Ai P) t (m.th t)=x:=⟨_,rfl⟩;rw[ee] at hN cz |-;obtain⟨⟨rm,re⟩,co⟩:∃r:MS×Ev,Ba true m t x=r:=⟨_,rfl⟩;rw[co];dsimp only;replace co:=Aa co;have ax:=JD hT cz.a;have aG:=JD hT cz.b;have hD:=h.below hB;have bB:=h.r4;have ed:=h.lr;obtain⟨u0,u1,u2,u3⟩:=Cl k1;obtain⟨s0,s1,s2,s3,Y,s5⟩:=Bk k2;have HK:=Aa (⟨k2,k3,k4,hz⟩:_/\_/\_/\_);have HD:=Aa (⟨hD,cz⟩:_/\_);have dd:=Xu (hT.pc (by omega)) (hf.code _ (CN (d:=[]) (by omega:t<(Ai P).length))).1;have I:=Aa (⟨eo,bB,ed,⟨ax,aG,dd⟩,trivial,h.lv,h.lf,h.ll⟩:_/\_/\_/\(_/\_/\_)/\True/\_/\_/\_);clear h hf hM hQ dj hB k1 k2 k3 k4 hz ef eo hT ek ee cz ax aG hD bB ed eX dd
 go_enter Tryz.func69,Tryz.ntmps69
 go_upto_region 1 with fail
 try rw[hW]
 clear hW
 go_wp2_with fail
 refine hN.mono ?_;rintro e w1 ⟨ln,wd,rfl,c9⟩;unfold Do;clear hN u0 u1 u2 u3 s0 s1 s2 s3 Y s5;obtain⟨W1,cK⟩:∃W1,w1.alloc (.cells (Do x ln wd) 177)=W1:=⟨_,rfl⟩;have dP:Xm w1.heap.size w1 W1:=by rw[<-cK];exact(Below.refl _ _).alloc (Xd _) _
 have ki:W1.heap[w1.heap.size]?=some (.cells (Do x ln wd) 177):=by rw[<-cK];exact World.alloc_heap_new w1 _
 have ch:Xm W.heap.size W W1:=c9.trans (dP.mono c9.size);obtain⟨bi,cV⟩:∃bi,w1.heap.size=bi:=⟨_,rfl⟩;have bE:bi<W1.heap.size/\W.heap.size<=bi:=⟨by rw[<-cV];exact(Xa.1 ki).1,by rw[<-cV];exact c9.size⟩;rw[cV] at ki;obtain⟨hD,hX⟩:=HD.out;have hF:=adz (c0:=c0) (c1:=c1) (c2:=c2) (c3:=c3) (c4:=c4) (c5:=c5) (hD.below ch) h4 ht hX ln wd;have s6:=(ch.block (w.heap.size+1) (by have:=HK.out.2.2.2;omega)).trans HK.out.1;obtain⟨s0,s1,s2,s3,Y,s5⟩:=Bk s6;unfold Do at ki cK hF;obtain⟨i0,i1,i2,i3,i4,i5,i6,i7,i8⟩:=Dv ki;have HI:=Aa (⟨ki,ch,bE⟩:_/\_/\_);clear c9 dP ki ch bE hD hX s6
 go_upto_region 2 with fail
 try rw[cK]
 try rw[cV]
 clear cK cV
 go_wp2_with fail
 refine hF.mono ?_;rintro e w2 ⟨rfl,da⟩;clear hF i0 i1 i2 i3 i4 i5 i6 i7 i8 s0 s1 s2 s3 Y s5;obtain⟨ki,ch,bE⟩:=HI.out;have b9:Xm W.heap.size W w2:=ch.trans (da.mono ch.size);obtain⟨s0,s1,s2,s3,Y,s5⟩:=Bk ((b9.block (w.heap.size+1) (by have:=HK.out.2.2.2;omega)).trans HK.out.1);obtain⟨hD,hX⟩:=HD.out;have bl:=hD.below b9;have hC:=Wf (c0:=c0) (c1:=c1) (c2:=c2) (c3:=c3) (c4:=c4) (c5:=c5) bl.lv bl.v (by omega) bl.lf bl.f (by omega) bl.ll bl.l (by omega) (n3:=nt) (by rw[LX];exact bl.lt) bl.p (by omega) (n4:=nt) (by rw[FI];exact bl.lt) bl.s (by omega) (n5:=nr) (by rw[ML bl.r4,bl.lt];exact bl.lr) bl.r (by have:=bl.lr;omega);have cM:=(da.block bi bE.1).trans ki;have d8:=Aa (⟨cM,b9,(⟨Nat.lt_of_lt_of_le bE.1 da.size,bE.2⟩:bi<w2.heap.size/\W.heap.size<=bi)⟩:_/\_/\_);clear ki ch bE da b9 hD hX bl cM HI
 go_wp2_with fail
 refine hC.mono ?_;rintro e w3 ⟨b0,b1,Z,b3,b4,b5,d0,d1,d2,d3,d4,d5,p1,p2,p3,p4,p5,J,rfl,hR,de⟩;clear hC s0 s1 s2 s3 Y s5;obtain⟨cM,b9,bE⟩:=d8.out;have bP:Xm W.heap.size W w3:=b9.trans (de.mono b9.size);have s6:=(bP.block (w.heap.size+1) (by have:=HK.out.2.2.2;omega)).trans HK.out.1;obtain⟨s0,s1,s2,s3,Y,s5⟩:=Bk s6;have sf:=Ao s6;obtain⟨f0,f1,f2,f3,f4,f5⟩:=(⟨sf 0,sf 1,sf 2,sf 3,sf 4,sf 5⟩:_/\_/\_/\_/\_/\_);obtain⟨W3,c6⟩:∃W3,(((((w3.setCell ⟨w.heap.size+1,0,none⟩ (.slice b0 nv d0)).setCell ⟨w.heap.size+1,1,none⟩ (.slice b1 nf d1)).setCell ⟨w.heap.size+1,2,none⟩ (.slice Z nl d2)).setCell ⟨w.heap.size+1,3,none⟩ (.slice b3 nt d3)).setCell ⟨w.heap.size+1,4,none⟩ (.slice b4 nt d4)).setCell ⟨w.heap.size+1,5,none⟩ (.slice b5 nr d5)=W3:=⟨_,rfl⟩;have bD:Ac (λk=>k=w.heap.size+1) w3 W3:=by rw[<-c6];exact Sd _ _ _ _ _ _ (Ac.refl w3) (.inl rfl)
 have ks:W3.heap[w.heap.size+1]?=some (.cells #[.slice b0 nv d0,.slice b1 nf d1,.slice Z nl d2,.slice b3 nt d3,.slice b4 nt d4,.slice b5 nr d5] 92):=by rw[<-c6];exact JL _ _ _ _ _ _ s6
 have hz:=HK.out.2.2.2;have eC:=b9.size;have dQ:=hR.le;have bz:Be W3 w2.heap.size b0 b1 Z b3 b4 b5 m p1 p2 p3 p4 p5 J:=hR.keep (λb q1 q2=>bD.block b (by omega) (by omega)) bD.size;have eG:=bD.size;have e6:=de.size;have bC:W3.heap[bi]?=_:=(bD.block bi (by omega) (by omega)).trans ((de.block bi bE.1).trans cM);have bF:W3.heap[w.heap.size+1+1]?=_:=(bD.block _ (by omega) (by omega)).trans ((bP.block _ (by omega)).trans HK.out.2.1);have bI:W3.heap[w.heap.size+1+1+1]?=_:=(bD.block _ (by omega) (by omega)).trans ((bP.block _ (by omega)).trans HK.out.2.2.1);have bn:Xm w.heap.size w W3:=⟨bD.os.trans (bP.os.trans HB.out.os),bD.tape.trans (bP.tape.trans HB.out.tape),bD.output.trans (bP.output.trans HB.out.output),Xu HB.out.size (Xu bP.size bD.size),λk hk=>(bD.block k (by have:=bP.size;omega) (by omega)).trans ((bP.block k (by omega)).trans (HB.out.block k hk))⟩;obtain⟨H,d6⟩:∃H,w2.heap.size=H:=⟨_,rfl⟩;rw[d6] at bz dQ bE eC;have bm:w.heap.size+1+1+1<H/\w.heap.size+1+1+1<bi/\bi<H/\H<=J/\J<=W3.heap.size:=⟨by omega,by omega,bE.1,by omega,by omega⟩;have HR:=Aa (⟨bz,ks,bC,bF,bI,bn,bm⟩:_/\_/\_/\_/\_/\_/\_);clear hR de cM b9 bE bP s6 sf bD ks hz eC dQ bz eG e6 bC bF bI bn bm d6 d8 HK HB
 go_upto_region 4 with fail
 try rw[c6]
 clear c6 s0 s1 s2 s3 Y s5 f0 f1 f2 f3 f4 f5;obtain⟨fb,cn⟩:∃fb,Gi m t x=fb:=⟨_,rfl⟩;rw[cn]
 cases fb with
 |true=>
  have hE:=co.out.symm.trans (adC cn);obtain⟨e1,e2⟩:=Prod.mk.inj hE;subst e1 e2;obtain⟨bz,ks,bC,bF,bI,bn,bm⟩:=HR.out;obtain⟨g,eb,T,V,hc,hz,et⟩:=bz.stat (i:=t) (by rw[I.out.1];exact ht);subst eb;obtain⟨W4,c8⟩:∃W4,W3.setCell ⟨g,t,none⟩ (.int .i64 3)=W4:=⟨_,rfl⟩;have bU:Ac (λk=>k=g) W3 W4:=by rw[<-c8];exact Ac.set (S:=λk=>k=g) (Ac.refl W3) (a:=⟨g,t,none⟩) (.inl rfl) _
  have dz:=et 3;rw[c8] at dz;obtain⟨-,-,-,-,Y,-⟩:=Bk ks;have eh:W4.heap[w.heap.size+1]?=_:=(bU.block _ (by omega) (by omega)).trans ks;have ce:W4.heap[w.heap.size+1+1]?=_:=(bU.block _ (by omega) (by omega)).trans bF;have cq:W4.heap[w.heap.size+1+1+1]?=_:=(bU.block _ (by omega) (by omega)).trans bI;obtain⟨t0,t1,t2,t3,t4,t5⟩:=Bk eh;obtain⟨r0,r1,r2,r3,r4,r5⟩:=Bk ce;obtain⟨f0,f1,f2,f3,f4,f5⟩:=(⟨Ao ce 0,Ao ce 1,Ao ce 2,Ao ce 3,Ao ce 4,Ao ce 5⟩:_/\_/\_/\_/\_/\_);obtain⟨v0,v1,v2,v3⟩:=Cl cq;obtain⟨f6,f7,f8,f9⟩:=(⟨Ao cq 0,Ao cq 1,Ao cq 2,Ao cq 3⟩:_/\_/\_/\_);have e9:(t:Int)<(nt:Int):=by omega
  obtain⟨U1,U2,dT,ei,-,b2,cu,dS,el⟩:=adu (.slice b0 nv d0) (.slice b1 nf d1) (.slice Z nl d2) (.slice b3 nt d3) (.slice (some ⟨g,0,none⟩) nt d4) (.slice b5 nr d5) (.int .i64 (t:Int)) (.int .i64 9) (.int .i64 0) (.int .i64 0) ce cq (by omega);have eY:=bU.size;have eM:=b2.size;have dk:Be U2 _ _ _ _ _ _ _ _ _ _ _ _ _ _:=dz.keep (λb q1 q2=>b2.block b (by omega) (by omega)) b2.size;have dK:Xm w.heap.size w U2:=⟨b2.os.trans (bU.os.trans bn.os),b2.tape.trans (bU.tape.trans bn.tape),b2.output.trans (bU.output.trans bn.output),Xu bn.size (Xu bU.size b2.size),λk hk=>(b2.block k (by omega) (by omega)).trans ((bU.block k (by omega) (by omega)).trans (bn.block k hk))⟩;have eD:Ci U2 b0 b1 Z b3 (some ⟨g,0,none⟩) b5 nv nf nl nt nr (m.Ae t {m.th t with ph:=3}):=dk.doc I.out.2.2.2.2.2.1 I.out.2.2.2.2.2.2.1 I.out.2.2.2.2.2.2.2 (by rw[FY];exact I.out.1) I.out.2.2.1 (JX (y:={m.th t with ph:=3}) I.out.2.1 (JW I.out.2.1 t) t);have dW:∃H,w.heap.size<=H/\∃p1 p2 p3 p4 p5 J,Be U2 H b0 b1 Z b3 (some ⟨g,0,none⟩) b5 (m.Ae t {m.th t with ph:=3}) p1 p2 p3 p4 p5 J:=⟨H,by omega,p1,p2,p3,p4,p5,J,dk⟩;have HF:=Aa (⟨dS,el,eD,dK,dW⟩:_/\_/\_/\_/\_);clear dW;obtain⟨o0,o1,o2,o3⟩:=Cl cu;obtain⟨o6,o7,o8,o9⟩:=(⟨Ao cu 0,Ao cu 1,Ao cu 2,Ao cu 3⟩:_/\_/\_/\_);clear v0 v1 v2 v3 f6 f7 f8 f9 cu;clear hE bz ks bC bF bI bn bm et bU dz eh ce cq b2 dS el eY eM dk dK eD HR I HD T V cn co h4 ht hv4 dL eB
  go_upto_region 6 with fail
  try rw[c8]
  clear c8 hc hz Y
  go_wp2_with fail
  obtain⟨k1,k2,k3,k4,k5⟩:=HF.out;exact XI (OR rfl rfl rfl k1 k2) rfl ⟨_,_,_,_,_,_,⟨_,_,_,_,_,_,rfl⟩,k5,k3,k4⟩
 |false=>
  have hX:=HD.out.2;have hE:=co.out.symm.trans (Ve (by rw[I.out.1];exact ht) (by have:=hX.op;simp only[MY,List.mem_cons,List.not_mem_nil,or_false];exact this) cn);have HQ:=Aa (Prod.mk.inj hE);obtain⟨bz,ks,bC,bF,bI,bn,bm⟩:=HR.out;obtain⟨W5,cw⟩:∃W5,W3.alloc (.cells #[.int .i64 (t:Int),.int .i64 0,.int .i64 0,.int .i64 0] 169)=W5:=⟨_,rfl⟩;have bq:Xm W3.heap.size W3 W5:=by rw[<-cw];exact(Below.refl _ _).alloc (Xd _) _
  have b8:W5.heap[W3.heap.size]?=some (.cells #[.int .i64 (t:Int),.int .i64 0,.int .i64 0,.int .i64 0] 169):=by rw[<-cw];exact World.alloc_heap_new W3 _
  obtain⟨z,bx⟩:∃z,W3.heap.size=z:=⟨_,rfl⟩;rw[bx] at bq b8 bm;have cm:=(Xa.1 b8).1;have er:Ci W3 b0 b1 Z b3 b4 b5 nv nf nl nt nr m:=bz.doc I.out.2.2.2.2.2.1 I.out.2.2.2.2.2.2.1 I.out.2.2.2.2.2.2.2 I.out.1 I.out.2.2.1 I.out.2.1;rw[<-bx] at bq;have dD:=er.below bq;rw[bx] at bq;have V1:=KN (c0:=d0) (c1:=d1) (c2:=d2) (c3:=d3) (c4:=d4) (c5:=d5) dD h4 ht hX.a;have VV:=Aa (λu (hu:Xm W5.heap.size W5 u)=>KN (c0:=d0) (c1:=d1) (c2:=d2) (c3:=d3) (c4:=d4) (c5:=d5) (dD.below hu) h4 ht hX.b);obtain⟨s0,s1,s2,s3,Y,s5⟩:=Bk ((bq.block (w.heap.size+1) (by omega)).trans ks);obtain⟨i0,i1,i2,i3,i4,i5,i6,i7,i8⟩:=Dv ((bq.block bi (by omega)).trans bC);obtain⟨va,ax⟩:∃v,Af (m.th t) x.aR x.aN=v:=⟨_,rfl⟩;obtain⟨vb,aG⟩:∃v,Af (m.th t) x.bR x.bN=v:=⟨_,rfl⟩;rw[ax] at V1;simp only[aG] at VV;have HV:=Aa (⟨ax,aG,bx,cm,b8,bq⟩:_/\_/\_/\_/\_/\_);replace cn:=Aa cn;clear hE bz ks bC bF bI bn bm bq b8 cm er dD hX ax aG bx;replace cw:=Aa cw
  go_upto_region 8 with fail
  rw[cw.out];have bx:=HV.out.2.2.1
  try rw[bx]
  clear cw bx
  go_wp2_with fail
  refine V1.mono ?_;rintro e w6 ⟨rfl,cF⟩;have V2:=VV.out w6 cF;obtain⟨bz,ks,bC,bF,bI,bn,bm⟩:=HR.out;obtain⟨ax,aG,bx,cm,b8,bq⟩:=HV.out;rw[bx] at bm;clear V1 VV s0 s1 s2 s3 Y s5 i0 i1 i2 i3 i4 i5 i6 i7 i8;have fd:=cF.size;obtain⟨s0,s1,s2,s3,Y,s5⟩:=Bk ((cF.block (w.heap.size+1) (by omega)).trans ((bq.block (w.heap.size+1) (by omega)).trans ks));obtain⟨i0,i1,i2,i3,i4,i5,i6,i7,i8⟩:=Dv ((cF.block bi (by omega)).trans ((bq.block bi (by omega)).trans bC));have dB:=Aa cF;clear bz ks bC bF bI bn bm ax aG bx cm b8 bq fd cF
  go_wp2_with fail
  refine V2.mono ?_;rintro e B ⟨rfl,ez⟩;obtain⟨bz,ks,bC,bF,bI,bn,bm⟩:=HR.out;obtain⟨ax,aG,bx,cm,b8,bq⟩:=HV.out;rw[bx] at bm;clear V2 s0 s1 s2 s3 Y s5 i0 i1 i2 i3 i4 i5 i6 i7 i8;have c7:Xm W5.heap.size W5 B:=dB.out.trans (ez.mono dB.out.size);have cr:Xm z W3 B:=bq.trans (c7.mono (by omega));have fa:=c7.size;have b6:B.heap[w.heap.size+1]?=_:=(cr.block _ (by omega)).trans ks;have bu:B.heap[bi]?=_:=(cr.block _ (by omega)).trans bC;have cN:B.heap[w.heap.size+1+1]?=_:=(cr.block _ (by omega)).trans bF;have cL:B.heap[w.heap.size+1+1+1]?=_:=(cr.block _ (by omega)).trans bI;have aI:B.heap[z]?=_:=(c7.block z cm).trans b8;have au:Be B H b0 b1 Z b3 b4 b5 m p1 p2 p3 p4 p5 J:=bz.keep (λb q1 q2=>cr.block b (by omega)) (by omega);have cO:Xm w.heap.size w B:=bn.trans (cr.mono (by omega));have dR:w.heap.size+1+1+1<H/\w.heap.size+1+1+1<bi/\bi<H/\H<=J/\J<=z/\z<B.heap.size:=by omega
  have H7:=Aa (⟨au,b6,bu,cN,cL,aI,cO,dR⟩:_/\_/\_/\_/\_/\_/\_/\_);obtain⟨s0,s1,s2,s3,Y,s5⟩:=Bk b6;obtain⟨i0,i1,i2,i3,i4,i5,i6,i7,i8⟩:=Dv bu;obtain⟨g3,eU,-,-,aO,aU,-⟩:=au.pc (i:=t) (by rw[I.out.1];exact ht);subst eU;have hX:=HD.out.2;obtain⟨rn,cT⟩:∃rn:Nat,x.r=rn:=⟨x.r.toNat,by have:=hX.r.1;omega⟩;obtain⟨G,aH⟩:∃G:Nat,x.x=G:=⟨x.x.toNat,by have:=hX.x0;omega⟩;have bB:rn<4:=by have:=hX.r.2;omega
  have bO:x.r.toNat=rn:=by omega
  have bA:x.x.toNat=G:=by omega
  rw[cT] at i1;rw[aH] at i6;obtain⟨k,hk⟩:∃k,t*4+rn=k:=⟨_,rfl⟩;obtain⟨tq,dw⟩:∃q,t*4=q:=⟨_,rfl⟩;obtain⟨pc,ck⟩:∃pc,(m.th t).pc=pc:=⟨_,rfl⟩;obtain⟨ac,cZ⟩:∃q,pc+1=q:=⟨_,rfl⟩;have dd:pc<=24:=by rw[<-ck];exact I.out.2.2.2.1.2.2
  rw[ck] at aO;have fS:XN ((t:Int)*4)=(tq:Int):=by rw[<-dw];have:=Cv (n:=t*4) (by omega);push_cast at this |-;exact this
  have fO:XN ((tq:Int)+(rn:Int))=(k:Int):=by rw[<-hk,dw];have:=Cv (n:=tq+rn) (by omega);push_cast at this |-;exact this
  have fK:XN ((pc:Int)+1)=(ac:Int):=by rw[<-cZ];have:=Cv (n:=pc+1) (by omega);push_cast at this |-;exact this
  have e9:(t:Int)<(nt:Int):=by omega
  have HN:=Aa (⟨ax,aG,cT,aH,bB,bO,bA,hk,ck,cZ,hX⟩:_/\_/\_/\_/\_/\_/\_/\_/\_/\_/\_);clear bz ks bC bF bI bn bm ax aG bx cm b8 bq c7 cr fa b6 bu cN cL aI au cO dR hX cT aH bB bO bA hk dw ck cZ dB ez HV HR dd;have HT:=Aa (⟨ht,h4⟩:_/\_);clear ht h4
  go_upto_region 12 with fail
  have A:=HN.out.2.2.2.2.2.2.2.2.2.2.op
  rcases A with A|A|A|A|A|A|A|A|A|A|A|A|A|A|A|A|A
  all_goals
   obtain⟨ax,aG,cT,aH,bB,bO,bA,hk,ck,cZ,hX⟩:=HN.out;obtain⟨au,b6,bu,cN,cL,aI,cO,bm⟩:=H7.out;rw[A] at i0
  focus
   obtain⟨U,bK,T,V,bk,a9,R⟩:=au.Jd (t:=t) (r:=rn) (by rw[I.out.1];exact HT.out.1) bB I.out.2.1;simp only[hk] at bk a9 R;subst bK;have cU:(k:Int)<(nr:Int):=by have:=I.out.2.2.1;omega
   obtain⟨F,D⟩:∃F,B.setCell ⟨U,k,none⟩ (.int .i64 va)=F:=⟨_,rfl⟩;have aJ:DF B H b0 b1 Z (some ⟨g3,0,none⟩) b4 (some ⟨U,0,none⟩) p1 p2 p3 p4 p5 J z (Au m t x) F:=by
    rw[Ph m t A,bO,ax];refine⟨?_,?_,?_⟩
    ·have q:=R va;rw[D] at q;exact q
    ·rw[<-D,Xt B ⟨U,k,none⟩ z _ (by show z≠U;omega)];exact aI
    ·rw[<-D];exact Ac.set (S:=λk=>(H<=k/\k<J)\/k=z) (Ac.refl B) (a:=⟨U,k,none⟩) (.inl (.inl ⟨T,V⟩)) _
   have aP:BF m t x (Au m t x).2.2=ac:=by rw[EX m t (by rw[A];decide) (by rw[A];decide) (by rw[A];decide),Ph m t A];show (m.th t).pc+1=ac;omega
   clear R T V
  rotate_left
  focus
   obtain⟨U,bK,T,V,bk,a9,R⟩:=au.Jd (t:=t) (r:=rn) (by rw[I.out.1];exact HT.out.1) bB I.out.2.1;simp only[hk] at bk a9 R;subst bK;have cU:(k:Int)<(nr:Int):=by have:=I.out.2.2.1;omega
   obtain⟨⟨bS,bV⟩,⟨bT,cd⟩,-⟩:=I.out.2.2.2.1;rw[ax] at bS bV;rw[aG] at bT cd;obtain⟨vl,bw⟩:∃v,(va+vb) % 1000=v:=⟨_,rfl⟩;have ex:XN vl=vl:=by rw[<-bw];unfold XN;omega
   obtain⟨sm,bL⟩:∃v,va+vb=v:=⟨_,rfl⟩;have eg:XN (va+vb)=sm:=by rw[<-bL];unfold XN;omega
   have dJ:Int.tmod sm 1000=vl:=by rw[<-bw,bL];exact Zl (by omega)
   obtain⟨F,D⟩:∃F,B.setCell ⟨U,k,none⟩ (.int .i64 vl)=F:=⟨_,rfl⟩;have aJ:DF B H b0 b1 Z (some ⟨g3,0,none⟩) b4 (some ⟨U,0,none⟩) p1 p2 p3 p4 p5 J z (Au m t x) F:=by
    rw[Pp m t A,bO,ax,aG,bw];refine⟨?_,?_,?_⟩
    ·have q:=R vl;rw[D] at q;exact q
    ·rw[<-D,Xt B ⟨U,k,none⟩ z _ (by show z≠U;omega)];exact aI
    ·rw[<-D];exact Ac.set (S:=λk=>(H<=k/\k<J)\/k=z) (Ac.refl B) (a:=⟨U,k,none⟩) (.inl (.inl ⟨T,V⟩)) _
   have aP:BF m t x (Au m t x).2.2=ac:=by rw[EX m t (by rw[A];decide) (by rw[A];decide) (by rw[A];decide),Pp m t A];show (m.th t).pc+1=ac;omega
   clear bS bV bT cd bL bw;clear R T V
  rotate_left
  focus
   obtain⟨U,bK,T,V,bk,a9,R⟩:=au.Jd (t:=t) (r:=rn) (by rw[I.out.1];exact HT.out.1) bB I.out.2.1;simp only[hk] at bk a9 R;subst bK;have cU:(k:Int)<(nr:Int):=by have:=I.out.2.2.1;omega
   obtain⟨⟨bS,bV⟩,⟨bT,cd⟩,-⟩:=I.out.2.2.2.1;rw[ax] at bS bV;rw[aG] at bT cd;obtain⟨vl,bw⟩:∃v,(va - vb+1000) % 1000=v:=⟨_,rfl⟩;have ex:XN vl=vl:=by rw[<-bw];unfold XN;omega
   obtain⟨sm,bL⟩:∃v,va - vb=v:=⟨_,rfl⟩;obtain⟨sn,dF⟩:∃v,sm+1000=v:=⟨_,rfl⟩;have eg:XN (va - vb)=sm:=by rw[<-bL];unfold XN;omega
   have fC:XN (sm+1000)=sn:=by rw[<-dF];unfold XN;omega
   have dJ:Int.tmod sn 1000=vl:=by rw[<-bw,<-dF,<-bL];exact Zl (by omega)
   obtain⟨F,D⟩:∃F,B.setCell ⟨U,k,none⟩ (.int .i64 vl)=F:=⟨_,rfl⟩;have aJ:DF B H b0 b1 Z (some ⟨g3,0,none⟩) b4 (some ⟨U,0,none⟩) p1 p2 p3 p4 p5 J z (Au m t x) F:=by
    rw[Pe m t A,bO,ax,aG,bw];refine⟨?_,?_,?_⟩
    ·have q:=R vl;rw[D] at q;exact q
    ·rw[<-D,Xt B ⟨U,k,none⟩ z _ (by show z≠U;omega)];exact aI
    ·rw[<-D];exact Ac.set (S:=λk=>(H<=k/\k<J)\/k=z) (Ac.refl B) (a:=⟨U,k,none⟩) (.inl (.inl ⟨T,V⟩)) _
   have aP:BF m t x (Au m t x).2.2=ac:=by rw[EX m t (by rw[A];decide) (by rw[A];decide) (by rw[A];decide),Pe m t A];show (m.th t).pc+1=ac;omega
   clear bS bV bT cd bL bw dF;clear R T V
  rotate_left
  focus
   obtain⟨U,bK,T,V,bk,a9,R⟩:=au.Jd (t:=t) (r:=rn) (by rw[I.out.1];exact HT.out.1) bB I.out.2.1;simp only[hk] at bk a9 R;subst bK;have cU:(k:Int)<(nr:Int):=by have:=I.out.2.2.1;omega
   obtain⟨⟨bS,bV⟩,⟨bT,cd⟩,-⟩:=I.out.2.2.2.1;rw[ax] at bS bV;rw[aG] at bT cd;obtain⟨vl,bw⟩:∃v,va*vb % 1000=v:=⟨_,rfl⟩;have ex:XN vl=vl:=by rw[<-bw];unfold XN;omega
   have dV:=Int.mul_nonneg bS bT;have dU:=Nf (a:=va) (b:=vb) ⟨bS,bV⟩ ⟨bT,cd⟩;obtain⟨sm,bL⟩:∃v,va*vb=v:=⟨_,rfl⟩;have eg:XN (va*vb)=sm:=by rw[bL] at dV dU |-;unfold XN;omega
   have dJ:Int.tmod sm 1000=vl:=by rw[<-bw,bL];exact Zl (by omega)
   clear dV dU;obtain⟨F,D⟩:∃F,B.setCell ⟨U,k,none⟩ (.int .i64 vl)=F:=⟨_,rfl⟩;have aJ:DF B H b0 b1 Z (some ⟨g3,0,none⟩) b4 (some ⟨U,0,none⟩) p1 p2 p3 p4 p5 J z (Au m t x) F:=by
    rw[Pj m t A,bO,ax,aG,bw];refine⟨?_,?_,?_⟩
    ·have q:=R vl;rw[D] at q;exact q
    ·rw[<-D,Xt B ⟨U,k,none⟩ z _ (by show z≠U;omega)];exact aI
    ·rw[<-D];exact Ac.set (S:=λk=>(H<=k/\k<J)\/k=z) (Ac.refl B) (a:=⟨U,k,none⟩) (.inl (.inl ⟨T,V⟩)) _
   have aP:BF m t x (Au m t x).2.2=ac:=by rw[EX m t (by rw[A];decide) (by rw[A];decide) (by rw[A];decide),Pj m t A];show (m.th t).pc+1=ac;omega
   clear bS bV bT cd bL bw;clear R T V
  rotate_left
  focus
   obtain⟨U,bK,T,V,bk,a9,R⟩:=au.Jd (t:=t) (r:=rn) (by rw[I.out.1];exact HT.out.1) bB I.out.2.1;simp only[hk] at bk a9 R;subst bK;have cU:(k:Int)<(nr:Int):=by have:=I.out.2.2.1;have:=HT.out.1;omega
   have ar:G<m.vars.length:=by rw[I.out.2.2.2.2.2.1];have:=hX.vr (.inl A);omega
   obtain⟨Q,bt,-,-,be,-,-⟩:=au.var (i:=G) ar;subst bt;have cB:(G:Int)<(nv:Int):=by have:=I.out.2.2.2.2.2.1;omega
   obtain⟨lv,bX⟩:∃v,m.vars.getD G 0=v:=⟨_,rfl⟩;rw[bX] at be;obtain⟨E,M⟩:∃E,B.drew.setCell ⟨U,k,none⟩ (.int .i64 lv)=E:=⟨_,rfl⟩;have N:Ac (λk=>(H<=k/\k<J)\/k=z) B E:=by rw[<-M];exact Ac.set (S:=λk=>(H<=k/\k<J)\/k=z) (Ac.refl B).drew (a:=⟨U,k,none⟩) (.inl (.inl ⟨T,V⟩)) _
   have X:Be E H (some ⟨Q,0,none⟩) b1 Z (some ⟨g3,0,none⟩) b4 (some ⟨U,0,none⟩) (m.Ae t {m.th t with regs:=(m.th t).regs.set rn lv}) p1 p2 p3 p4 p5 J:=by
    have q:=R lv;refine q.keep (λc _ _=>?_) ?_
    ·rw[<-M];rfl
    ·rw[<-M];exact Xd _
   have C:E.heap[z]?=some (.cells #[.int .i64 (t:Int),.int .i64 0,.int .i64 0,.int .i64 0] 169):=by
    rw[<-M,Xt B.drew ⟨U,k,none⟩ z _ (by show z≠U;omega)];exact aI
   obtain⟨eH,cR,-,-,cX,-,-⟩:=X.var (i:=G) ar;simp only[YN,afw,and_true] at cR;subst cR;have cP:E.cell? ⟨Q,G,none⟩=some (.int .i64 (m.vars.getD G 0)):=cX;rw[bX] at cP;clear cX;obtain⟨e0,e1,e2,e3⟩:=Cl C;obtain⟨aW,a7,aY,ba⟩:=(⟨Ao C 0,Ao C 1,Ao C 2,Ao C 3⟩:_/\_/\_/\_);obtain⟨j0,j1,j2,j3,j4,j5,j6,j7,j8⟩:=Dv ((N.block bi (by omega) (by omega)).trans bu);rw[aH] at j6;obtain⟨q0,q1,q2,q3,q4,q5⟩:=Bk ((N.block (w.heap.size+1) (by omega) (by omega)).trans b6);obtain⟨F,D⟩:∃F,((((E.setCell ⟨z,0,none⟩ (.int .i64 (t:Int))).setCell ⟨z,1,none⟩ (.int .i64 1)).setCell ⟨z,2,none⟩ (.int .i64 (G:Int))).setCell ⟨z,3,none⟩ (.int .i64 lv)).drew=F:=⟨_,rfl⟩;have O:Ac (λk=>k=z) E F:=by rw[<-D];exact Ac.drew (S:=λk=>k=z) (Hk _ _ _ _ (Ac.refl E) (.inl rfl))
   have zy:=N.size;have aJ:DF B H (some ⟨Q,0,none⟩) b1 Z (some ⟨g3,0,none⟩) b4 (some ⟨U,0,none⟩) p1 p2 p3 p4 p5 J z (Au m t x) F:=by
    rw[Pl m t A,bA,bO,aH,bX];refine⟨X.keep (λb q1 q2=>O.block b (by omega) (by omega)) O.size,?_,?_⟩
    ·rw[<-D];exact GI _ _ _ _ C
    ·exact N.trans (O.mono λk _ e=>.inr e)
   have aP:BF m t x (Au m t x).2.2=ac:=by rw[EX m t (by rw[A];decide) (by rw[A];decide) (by rw[A];decide),Pl m t A];show (m.th t).pc+1=ac;omega
   clear O zy X R T V ar N C bX
  rotate_left
  focus
   have ar:G<m.vars.length:=by rw[I.out.2.2.2.2.2.1];have:=hX.vr (.inr A);omega
   obtain⟨Q,bt,T,V,be,bJ,R⟩:=au.var (i:=G) ar;subst bt;have cB:(G:Int)<(nv:Int):=by have:=I.out.2.2.2.2.2.1;omega
   obtain⟨E,M⟩:∃E,B.setCell ⟨Q,G,none⟩ (.int .i64 va)=E:=⟨_,rfl⟩;have N:Ac (λk=>(H<=k/\k<J)\/k=z) B E:=by rw[<-M];exact Ac.set (S:=λk=>(H<=k/\k<J)\/k=z) (Ac.refl B) (a:=⟨Q,G,none⟩) (.inl (.inl ⟨T,V⟩)) _
   have X:=R va;rw[M] at X;have C:E.heap[z]?=some (.cells #[.int .i64 (t:Int),.int .i64 0,.int .i64 0,.int .i64 0] 169):=by
    rw[<-M,Xt B ⟨Q,G,none⟩ z _ (by show z≠Q;omega)];exact aI
   obtain⟨e0,e1,e2,e3⟩:=Cl C;obtain⟨aW,a7,aY,ba⟩:=(⟨Ao C 0,Ao C 1,Ao C 2,Ao C 3⟩:_/\_/\_/\_);obtain⟨j0,j1,j2,j3,j4,j5,j6,j7,j8⟩:=Dv ((N.block bi (by omega) (by omega)).trans bu);rw[aH] at j6;obtain⟨F,D⟩:∃F,(((E.setCell ⟨z,0,none⟩ (.int .i64 (t:Int))).setCell ⟨z,1,none⟩ (.int .i64 2)).setCell ⟨z,2,none⟩ (.int .i64 (G:Int))).setCell ⟨z,3,none⟩ (.int .i64 va)=F:=⟨_,rfl⟩;have O:Ac (λk=>k=z) E F:=by rw[<-D];exact Hk _ _ _ _ (Ac.refl E) (.inl rfl)
   have zy:=N.size;have aJ:DF B H (some ⟨Q,0,none⟩) b1 Z (some ⟨g3,0,none⟩) b4 b5 p1 p2 p3 p4 p5 J z (Au m t x) F:=by
    rw[Pf m t A,bA,ax,aH];refine⟨X.keep (λb q1 q2=>O.block b (by omega) (by omega)) O.size,?_,?_⟩
    ·rw[<-D];exact GI _ _ _ _ C
    ·exact N.trans (O.mono λk _ e=>.inr e)
   have aP:BF m t x (Au m t x).2.2=ac:=by rw[EX m t (by rw[A];decide) (by rw[A];decide) (by rw[A];decide),Pf m t A];show (m.th t).pc+1=ac;omega
   clear O zy X R T V ar N C
  rotate_left
  focus
   obtain⟨U,bK,T,V,bk,a9,R⟩:=au.Jd (t:=t) (r:=rn) (by rw[I.out.1];exact HT.out.1) bB I.out.2.1;simp only[hk] at bk a9 R;subst bK;have cU:(k:Int)<(nr:Int):=by have:=I.out.2.2.1;have:=HT.out.1;omega
   have ar:G<m.flags.length:=by rw[I.out.2.2.2.2.2.2.1];have:=hX.fl (.inl A);omega
   obtain⟨Q,bt,-,-,be,-,-⟩:=au.flag (i:=G) ar;subst bt;have cB:(G:Int)<(nf:Int):=by have:=I.out.2.2.2.2.2.2.1;omega
   obtain⟨lv,bX⟩:∃v,m.flags.getD G 0=v:=⟨_,rfl⟩;rw[bX] at be;obtain⟨E,M⟩:∃E,B.drew.setCell ⟨U,k,none⟩ (.int .i64 lv)=E:=⟨_,rfl⟩;have N:Ac (λk=>(H<=k/\k<J)\/k=z) B E:=by rw[<-M];exact Ac.set (S:=λk=>(H<=k/\k<J)\/k=z) (Ac.refl B).drew (a:=⟨U,k,none⟩) (.inl (.inl ⟨T,V⟩)) _
   have X:Be E H b0 (some ⟨Q,0,none⟩) Z (some ⟨g3,0,none⟩) b4 (some ⟨U,0,none⟩) (m.Ae t {m.th t with regs:=(m.th t).regs.set rn lv}) p1 p2 p3 p4 p5 J:=by
    have q:=R lv;refine q.keep (λc _ _=>?_) ?_
    ·rw[<-M];rfl
    ·rw[<-M];exact Xd _
   have C:E.heap[z]?=some (.cells #[.int .i64 (t:Int),.int .i64 0,.int .i64 0,.int .i64 0] 169):=by
    rw[<-M,Xt B.drew ⟨U,k,none⟩ z _ (by show z≠U;omega)];exact aI
   obtain⟨eH,cR,-,-,cX,-,-⟩:=X.flag (i:=G) ar;simp only[YN,afw,and_true] at cR;subst cR;have cP:E.cell? ⟨Q,G,none⟩=some (.int .i64 (m.flags.getD G 0)):=cX;rw[bX] at cP;clear cX;obtain⟨e0,e1,e2,e3⟩:=Cl C;obtain⟨aW,a7,aY,ba⟩:=(⟨Ao C 0,Ao C 1,Ao C 2,Ao C 3⟩:_/\_/\_/\_);obtain⟨j0,j1,j2,j3,j4,j5,j6,j7,j8⟩:=Dv ((N.block bi (by omega) (by omega)).trans bu);rw[aH] at j6;obtain⟨q0,q1,q2,q3,q4,q5⟩:=Bk ((N.block (w.heap.size+1) (by omega) (by omega)).trans b6);obtain⟨F,D⟩:∃F,((((E.setCell ⟨z,0,none⟩ (.int .i64 (t:Int))).setCell ⟨z,1,none⟩ (.int .i64 3)).setCell ⟨z,2,none⟩ (.int .i64 (G:Int))).setCell ⟨z,3,none⟩ (.int .i64 lv)).drew=F:=⟨_,rfl⟩;have O:Ac (λk=>k=z) E F:=by rw[<-D];exact Ac.drew (S:=λk=>k=z) (Hk _ _ _ _ (Ac.refl E) (.inl rfl))
   have zy:=N.size;have aJ:DF B H b0 (some ⟨Q,0,none⟩) Z (some ⟨g3,0,none⟩) b4 (some ⟨U,0,none⟩) p1 p2 p3 p4 p5 J z (Au m t x) F:=by
    rw[Pn m t A,bA,bO,aH,bX];refine⟨X.keep (λb q1 q2=>O.block b (by omega) (by omega)) O.size,?_,?_⟩
    ·rw[<-D];exact GI _ _ _ _ C
    ·exact N.trans (O.mono λk _ e=>.inr e)
   have aP:BF m t x (Au m t x).2.2=ac:=by rw[EX m t (by rw[A];decide) (by rw[A];decide) (by rw[A];decide),Pn m t A];show (m.th t).pc+1=ac;omega
   clear O zy X R T V ar N C bX
  rotate_left
  focus
   have ar:G<m.flags.length:=by rw[I.out.2.2.2.2.2.2.1];have:=hX.fl (.inr A);omega
   obtain⟨Q,bt,T,V,be,bJ,R⟩:=au.flag (i:=G) ar;subst bt;have cB:(G:Int)<(nf:Int):=by have:=I.out.2.2.2.2.2.2.1;omega
   obtain⟨E,M⟩:∃E,B.setCell ⟨Q,G,none⟩ (.int .i64 va)=E:=⟨_,rfl⟩;have N:Ac (λk=>(H<=k/\k<J)\/k=z) B E:=by rw[<-M];exact Ac.set (S:=λk=>(H<=k/\k<J)\/k=z) (Ac.refl B) (a:=⟨Q,G,none⟩) (.inl (.inl ⟨T,V⟩)) _
   have X:=R va;rw[M] at X;have C:E.heap[z]?=some (.cells #[.int .i64 (t:Int),.int .i64 0,.int .i64 0,.int .i64 0] 169):=by
    rw[<-M,Xt B ⟨Q,G,none⟩ z _ (by show z≠Q;omega)];exact aI
   obtain⟨e0,e1,e2,e3⟩:=Cl C;obtain⟨aW,a7,aY,ba⟩:=(⟨Ao C 0,Ao C 1,Ao C 2,Ao C 3⟩:_/\_/\_/\_);obtain⟨j0,j1,j2,j3,j4,j5,j6,j7,j8⟩:=Dv ((N.block bi (by omega) (by omega)).trans bu);rw[aH] at j6;obtain⟨F,D⟩:∃F,(((E.setCell ⟨z,0,none⟩ (.int .i64 (t:Int))).setCell ⟨z,1,none⟩ (.int .i64 4)).setCell ⟨z,2,none⟩ (.int .i64 (G:Int))).setCell ⟨z,3,none⟩ (.int .i64 va)=F:=⟨_,rfl⟩;have O:Ac (λk=>k=z) E F:=by rw[<-D];exact Hk _ _ _ _ (Ac.refl E) (.inl rfl)
   have zy:=N.size;have aJ:DF B H b0 (some ⟨Q,0,none⟩) Z (some ⟨g3,0,none⟩) b4 b5 p1 p2 p3 p4 p5 J z (Au m t x) F:=by
    rw[Pi m t A,bA,ax,aH];refine⟨X.keep (λb q1 q2=>O.block b (by omega) (by omega)) O.size,?_,?_⟩
    ·rw[<-D];exact GI _ _ _ _ C
    ·exact N.trans (O.mono λk _ e=>.inr e)
   have aP:BF m t x (Au m t x).2.2=ac:=by rw[EX m t (by rw[A];decide) (by rw[A];decide) (by rw[A];decide),Pi m t A];show (m.th t).pc+1=ac;omega
   clear O zy X R T V ar N C
  rotate_left
  focus
   have ar:G<m.locks.length:=by rw[I.out.2.2.2.2.2.2.2];have:=hX.lk (.inl A);omega
   obtain⟨Q,bt,T,V,be,bJ,R⟩:=au.lock (i:=G) ar;subst bt;have cB:(G:Int)<(nl:Int):=by have:=I.out.2.2.2.2.2.2.2;omega
   obtain⟨E,M⟩:∃E,B.setCell ⟨Q,G,none⟩ (.int .i64 (t:Int))=E:=⟨_,rfl⟩;have N:Ac (λk=>(H<=k/\k<J)\/k=z) B E:=by rw[<-M];exact Ac.set (S:=λk=>(H<=k/\k<J)\/k=z) (Ac.refl B) (a:=⟨Q,G,none⟩) (.inl (.inl ⟨T,V⟩)) _
   have X:=R (t:Int);rw[M] at X;have C:E.heap[z]?=some (.cells #[.int .i64 (t:Int),.int .i64 0,.int .i64 0,.int .i64 0] 169):=by
    rw[<-M,Xt B ⟨Q,G,none⟩ z _ (by show z≠Q;omega)];exact aI
   obtain⟨e0,e1,e2,e3⟩:=Cl C;obtain⟨aW,a7,aY,ba⟩:=(⟨Ao C 0,Ao C 1,Ao C 2,Ao C 3⟩:_/\_/\_/\_);obtain⟨j0,j1,j2,j3,j4,j5,j6,j7,j8⟩:=Dv ((N.block bi (by omega) (by omega)).trans bu);rw[aH] at j6;obtain⟨F,D⟩:∃F,(((E.setCell ⟨z,0,none⟩ (.int .i64 (t:Int))).setCell ⟨z,1,none⟩ (.int .i64 5)).setCell ⟨z,2,none⟩ (.int .i64 (G:Int))).setCell ⟨z,3,none⟩ (.int .i64 0)=F:=⟨_,rfl⟩;have O:Ac (λk=>k=z) E F:=by rw[<-D];exact Hk _ _ _ _ (Ac.refl E) (.inl rfl)
   have zy:=N.size;have aJ:DF B H b0 b1 (some ⟨Q,0,none⟩) (some ⟨g3,0,none⟩) b4 b5 p1 p2 p3 p4 p5 J z (Au m t x) F:=by
    rw[Pk m t A,bA,aH];refine⟨X.keep (λb q1 q2=>O.block b (by omega) (by omega)) O.size,?_,?_⟩
    ·rw[<-D];exact GI _ _ _ _ C
    ·exact N.trans (O.mono λk _ e=>.inr e)
   have aP:BF m t x (Au m t x).2.2=ac:=by rw[EX m t (by rw[A];decide) (by rw[A];decide) (by rw[A];decide),Pk m t A];show (m.th t).pc+1=ac;omega
   clear O zy X R T V ar N C
  rotate_left
  focus
   have ar:G<m.locks.length:=by rw[I.out.2.2.2.2.2.2.2];have:=hX.lk (.inr A);omega
   obtain⟨Q,bt,T,V,be,bJ,R⟩:=au.lock (i:=G) ar;subst bt;have cB:(G:Int)<(nl:Int):=by have:=I.out.2.2.2.2.2.2.2;omega
   obtain⟨E,M⟩:∃E,B.setCell ⟨Q,G,none⟩ (.int .i64 (-1))=E:=⟨_,rfl⟩;have N:Ac (λk=>(H<=k/\k<J)\/k=z) B E:=by rw[<-M];exact Ac.set (S:=λk=>(H<=k/\k<J)\/k=z) (Ac.refl B) (a:=⟨Q,G,none⟩) (.inl (.inl ⟨T,V⟩)) _
   have X:=R (-1);rw[M] at X;have C:E.heap[z]?=some (.cells #[.int .i64 (t:Int),.int .i64 0,.int .i64 0,.int .i64 0] 169):=by
    rw[<-M,Xt B ⟨Q,G,none⟩ z _ (by show z≠Q;omega)];exact aI
   obtain⟨e0,e1,e2,e3⟩:=Cl C;obtain⟨aW,a7,aY,ba⟩:=(⟨Ao C 0,Ao C 1,Ao C 2,Ao C 3⟩:_/\_/\_/\_);obtain⟨j0,j1,j2,j3,j4,j5,j6,j7,j8⟩:=Dv ((N.block bi (by omega) (by omega)).trans bu);rw[aH] at j6;obtain⟨F,D⟩:∃F,(((E.setCell ⟨z,0,none⟩ (.int .i64 (t:Int))).setCell ⟨z,1,none⟩ (.int .i64 6)).setCell ⟨z,2,none⟩ (.int .i64 (G:Int))).setCell ⟨z,3,none⟩ (.int .i64 0)=F:=⟨_,rfl⟩;have O:Ac (λk=>k=z) E F:=by rw[<-D];exact Hk _ _ _ _ (Ac.refl E) (.inl rfl)
   have zy:=N.size;have aJ:DF B H b0 b1 (some ⟨Q,0,none⟩) (some ⟨g3,0,none⟩) b4 b5 p1 p2 p3 p4 p5 J z (Au m t x) F:=by
    rw[Pd m t A,bA,aH];refine⟨X.keep (λb q1 q2=>O.block b (by omega) (by omega)) O.size,?_,?_⟩
    ·rw[<-D];exact GI _ _ _ _ C
    ·exact N.trans (O.mono λk _ e=>.inr e)
   have aP:BF m t x (Au m t x).2.2=ac:=by rw[EX m t (by rw[A];decide) (by rw[A];decide) (by rw[A];decide),Pd m t A];show (m.th t).pc+1=ac;omega
   clear O zy X R T V ar N C
  rotate_left
  focus
   have ar:G<m.thr.length:=by rw[I.out.1];have:=hX.th (.inl A);omega
   obtain⟨Q,bt,T,V,be,bJ,R⟩:=au.stat (i:=G) ar;subst bt;have cB:(G:Int)<(nt:Int):=by have:=I.out.1;omega
   obtain⟨E,M⟩:∃E,B.setCell ⟨Q,G,none⟩ (.int .i64 1)=E:=⟨_,rfl⟩;have N:Ac (λk=>(H<=k/\k<J)\/k=z) B E:=by rw[<-M];exact Ac.set (S:=λk=>(H<=k/\k<J)\/k=z) (Ac.refl B) (a:=⟨Q,G,none⟩) (.inl (.inl ⟨T,V⟩)) _
   have X:=R 1;rw[M] at X;have C:E.heap[z]?=some (.cells #[.int .i64 (t:Int),.int .i64 0,.int .i64 0,.int .i64 0] 169):=by
    rw[<-M,Xt B ⟨Q,G,none⟩ z _ (by show z≠Q;omega)];exact aI
   obtain⟨e0,e1,e2,e3⟩:=Cl C;obtain⟨aW,a7,aY,ba⟩:=(⟨Ao C 0,Ao C 1,Ao C 2,Ao C 3⟩:_/\_/\_/\_);obtain⟨j0,j1,j2,j3,j4,j5,j6,j7,j8⟩:=Dv ((N.block bi (by omega) (by omega)).trans bu);rw[aH] at j6;obtain⟨F,D⟩:∃F,(((E.setCell ⟨z,0,none⟩ (.int .i64 (t:Int))).setCell ⟨z,1,none⟩ (.int .i64 7)).setCell ⟨z,2,none⟩ (.int .i64 (G:Int))).setCell ⟨z,3,none⟩ (.int .i64 0)=F:=⟨_,rfl⟩;have O:Ac (λk=>k=z) E F:=by rw[<-D];exact Hk _ _ _ _ (Ac.refl E) (.inl rfl)
   have zy:=N.size;have aJ:DF B H b0 b1 Z (some ⟨g3,0,none⟩) (some ⟨Q,0,none⟩) b5 p1 p2 p3 p4 p5 J z (Au m t x) F:=by
    rw[Pg m t A,bA,aH];refine⟨X.keep (λb q1 q2=>O.block b (by omega) (by omega)) O.size,?_,?_⟩
    ·rw[<-D];exact GI _ _ _ _ C
    ·exact N.trans (O.mono λk _ e=>.inr e)
   have aP:BF m t x (Au m t x).2.2=ac:=by rw[EX m t (by rw[A];decide) (by rw[A];decide) (by rw[A];decide),Pg m t A];show (m.th t).pc+1=ac;omega
   clear O zy X R T V ar N C
  rotate_left
  focus
   have N:Ac (λk=>(H<=k/\k<J)\/k=z) B B:=Ac.refl B;have X:=au;have C:=aI;obtain⟨e0,e1,e2,e3⟩:=Cl C;obtain⟨aW,a7,aY,ba⟩:=(⟨Ao C 0,Ao C 1,Ao C 2,Ao C 3⟩:_/\_/\_/\_);obtain⟨j0,j1,j2,j3,j4,j5,j6,j7,j8⟩:=Dv ((N.block bi (by omega) (by omega)).trans bu);rw[aH] at j6;obtain⟨F,D⟩:∃F,(((B.setCell ⟨z,0,none⟩ (.int .i64 (t:Int))).setCell ⟨z,1,none⟩ (.int .i64 8)).setCell ⟨z,2,none⟩ (.int .i64 (G:Int))).setCell ⟨z,3,none⟩ (.int .i64 0)=F:=⟨_,rfl⟩;have O:Ac (λk=>k=z) B F:=by rw[<-D];exact Hk _ _ _ _ (Ac.refl B) (.inl rfl)
   have zy:=N.size;have aJ:DF B H b0 b1 Z (some ⟨g3,0,none⟩) b4 b5 p1 p2 p3 p4 p5 J z (Au m t x) F:=by
    rw[Pm m t A,aH];refine⟨X.keep (λb q1 q2=>O.block b (by omega) (by omega)) O.size,?_,?_⟩
    ·rw[<-D];exact GI _ _ _ _ C
    ·exact N.trans (O.mono λk _ e=>.inr e)
   have aP:BF m t x (Au m t x).2.2=ac:=by rw[EX m t (by rw[A];decide) (by rw[A];decide) (by rw[A];decide),Pm m t A];show (m.th t).pc+1=ac;omega
   clear O zy X N C
  rotate_left
  focus
   have aJ:DF B H b0 b1 Z (some ⟨g3,0,none⟩) b4 b5 p1 p2 p3 p4 p5 J z (Au m t x) B:=by
    rw[Vg m t A]
    exact⟨au,aI,Ac.refl B⟩
   have aP:BF m t x (Au m t x).2.2=G:=by rw[UJ m t A];exact bA
  rotate_left
  focus
   by_cases hq:va=vb
   focus
    have aJ:DF B H b0 b1 Z (some ⟨g3,0,none⟩) b4 b5 p1 p2 p3 p4 p5 J z (Au m t x) B:=by
     rw[Mt m t A]
     exact⟨au,aI,Ac.refl B⟩
    have dA:(va == vb)=true:=by simpa using hq
    have aP:BF m t x (Au m t x).2.2=G:=by rw[OV m t A,ax,aG,if_pos hq];exact bA
   rotate_left
   focus
    have aJ:DF B H b0 b1 Z (some ⟨g3,0,none⟩) b4 b5 p1 p2 p3 p4 p5 J z (Au m t x) B:=by
     rw[Mt m t A]
     exact⟨au,aI,Ac.refl B⟩
    have dA:(va == vb)=false:=by simpa using hq
    have aP:BF m t x (Au m t x).2.2=ac:=by rw[OV m t A,ax,aG,if_neg hq,Mt m t A];show (m.th t).pc+1=ac;omega
   rotate_left
  rotate_left 2
  focus
   by_cases hq:va<vb
   focus
    have aJ:DF B H b0 b1 Z (some ⟨g3,0,none⟩) b4 b5 p1 p2 p3 p4 p5 J z (Au m t x) B:=by
     rw[Ms m t A]
     exact⟨au,aI,Ac.refl B⟩
    have dA:decide (va<vb)=true:=by simpa using hq
    have aP:BF m t x (Au m t x).2.2=G:=by rw[OU m t A,ax,aG,if_pos hq];exact bA
   rotate_left
   focus
    have aJ:DF B H b0 b1 Z (some ⟨g3,0,none⟩) b4 b5 p1 p2 p3 p4 p5 J z (Au m t x) B:=by
     rw[Ms m t A]
     exact⟨au,aI,Ac.refl B⟩
    have dA:decide (va<vb)=false:=by simpa using hq
    have aP:BF m t x (Au m t x).2.2=ac:=by rw[OU m t A,ax,aG,if_neg hq,Ms m t A];show (m.th t).pc+1=ac;omega
   rotate_left
  rotate_left 2
  focus
   have aJ:DF B H b0 b1 Z (some ⟨g3,0,none⟩) b4 b5 p1 p2 p3 p4 p5 J z (Au m t x) B:=by
    rw[Po m t A]
    exact⟨au,aI,Ac.refl B⟩
   have aP:BF m t x (Au m t x).2.2=ac:=by rw[EX m t (by rw[A];decide) (by rw[A];decide) (by rw[A];decide),Po m t A];show (m.th t).pc+1=ac;omega
  rotate_left
  focus
   have ar:t<m.thr.length:=by rw[I.out.1];exact HT.out.1
   obtain⟨Q,bt,T,V,be,bJ,R⟩:=au.stat (i:=t) ar;subst bt;obtain⟨E,M⟩:∃E,B.setCell ⟨Q,t,none⟩ (.int .i64 2)=E:=⟨_,rfl⟩;have N:Ac (λk=>(H<=k/\k<J)\/k=z) B E:=by rw[<-M];exact Ac.set (S:=λk=>(H<=k/\k<J)\/k=z) (Ac.refl B) (a:=⟨Q,t,none⟩) (.inl (.inl ⟨T,V⟩)) _
   have X:=R 2;rw[M] at X;have C:E.heap[z]?=some (.cells #[.int .i64 (t:Int),.int .i64 0,.int .i64 0,.int .i64 0] 169):=by
    rw[<-M,Xt B ⟨Q,t,none⟩ z _ (by show z≠Q;omega)];exact aI
   obtain⟨e0,e1,e2,e3⟩:=Cl C;obtain⟨aW,a7,aY,ba⟩:=(⟨Ao C 0,Ao C 1,Ao C 2,Ao C 3⟩:_/\_/\_/\_);obtain⟨j0,j1,j2,j3,j4,j5,j6,j7,j8⟩:=Dv ((N.block bi (by omega) (by omega)).trans bu);rw[aH] at j6;obtain⟨F,D⟩:∃F,(((E.setCell ⟨z,0,none⟩ (.int .i64 (t:Int))).setCell ⟨z,1,none⟩ (.int .i64 10)).setCell ⟨z,2,none⟩ (.int .i64 0)).setCell ⟨z,3,none⟩ (.int .i64 0)=F:=⟨_,rfl⟩;have O:Ac (λk=>k=z) E F:=by rw[<-D];exact Hk _ _ _ _ (Ac.refl E) (.inl rfl)
   have zy:=N.size;have aJ:DF B H b0 b1 Z (some ⟨g3,0,none⟩) (some ⟨Q,0,none⟩) b5 p1 p2 p3 p4 p5 J z (Au m t x) F:=by
    rw[KM m t A];refine⟨X.keep (λb q1 q2=>O.block b (by omega) (by omega)) O.size,?_,?_⟩
    ·rw[<-D];exact GI _ _ _ _ C
    ·exact N.trans (O.mono λk _ e=>.inr e)
   have aP:BF m t x (Au m t x).2.2=pc:=by rw[EX m t (by rw[A];decide) (by rw[A];decide) (by rw[A];decide),KM m t A];exact ck
   obtain⟨fL,ea,-,-,ec,-,-⟩:=aJ.rows.pc (i:=t) (by rw[KM m t A];show t<(m.Ae t _).thr.length;rw[FY,I.out.1];exact HT.out.1);simp only[YN,afw,and_true] at ea;subst ea;have dX:((Au m t x).1.th t).pc=pc:=by rw[KM m t A];show ((m.Ae t {m.th t with ph:=2}).th t).pc=pc;rw[Fr m t t _ ar,if_pos rfl];exact ck
   rw[dX] at ec;have es:=aJ.keep;obtain⟨-,-,-,eL,-,-⟩:=Bk ((es.block (w.heap.size+1) (by omega) (by omega)).trans b6);clear es dX;clear O zy X R T V ar N C
  rotate_left
  all_goals
   obtain⟨W8,U1,U2,pv,w0,fB,fs,fx,fN,fy,fD,fj,fG,fo,c0,c1,c2,c3,c4,c5,dO,eW,e7,eT,dY,d9,dT,ei,S8,S9,ff,HS,HF⟩:=Vh aJ aP I.out HQ.out HT.out.1 b6 bu cN cL cO bm;rw[A] at dY;rw[aH] at d9;clear HQ aJ aP ax aG cT aH bB bO bA hk ck cZ hX au b6 bu cN cL aI cO bm H7 HN I HD HT cn co hv4 dL eB
  focus
   unfold El bs at *
   go_upto_region 48 with fail
   try rw[D]
   clear D aO aU bk a9 s0 s1 s2 s3 Y s5 i0 i1 i2 i3 i4 i5 i6 i7 i8
  rotate_left
  focus
   unfold Eo bs at *
   go_upto_region 48 with fail
   try rw[D]
   clear D aO aU bk a9 s0 s1 s2 s3 Y s5 i0 i1 i2 i3 i4 i5 i6 i7 i8
  rotate_left
  focus
   unfold Ek bs at *
   go_upto_region 48 with fail
   try rw[D]
   clear D aO aU bk a9 s0 s1 s2 s3 Y s5 i0 i1 i2 i3 i4 i5 i6 i7 i8
  rotate_left
  focus
   unfold Em bs at *
   go_upto_region 48 with fail
   try rw[D]
   clear D aO aU bk a9 s0 s1 s2 s3 Y s5 i0 i1 i2 i3 i4 i5 i6 i7 i8
  rotate_left
  focus
   unfold Bq bs at *
   go_upto_region 22 with fail
   go_region
   all_goals
    go_upto_region 23 with fail
    try rw[M]
    clear M aO aU bk a9 be s0 s1 s2 s3 Y s5 i0 i1 i2 i3 i4 i5 i6 i7 i8
    go_region
   all_goals
    go_upto_region 48 with fail
    try rw[D]
    clear D cP e0 e1 e2 e3 aW a7 aY ba j0 j1 j2 j3 j4 j5 j6 j7 j8 q0 q1 q2 q3 q4 q5
  rotate_left
  focus
   unfold AH bs at *
   go_upto_region 26 with fail
   try rw[M]
   clear M aO aU be bJ s0 s1 s2 s3 Y s5 i0 i1 i2 i3 i4 i5 i6 i7 i8
   go_upto_region 48 with fail
   try rw[D]
   clear D e0 e1 e2 e3 aW a7 aY ba j0 j1 j2 j3 j4 j5 j6 j7 j8
  rotate_left
  focus
   unfold DY bs at *
   go_upto_region 28 with fail
   go_region
   all_goals
    go_upto_region 29 with fail
    try rw[M]
    clear M aO aU bk a9 be s0 s1 s2 s3 Y s5 i0 i1 i2 i3 i4 i5 i6 i7 i8
    go_region
   all_goals
    go_upto_region 48 with fail
    try rw[D]
    clear D cP e0 e1 e2 e3 aW a7 aY ba j0 j1 j2 j3 j4 j5 j6 j7 j8 q0 q1 q2 q3 q4 q5
  rotate_left
  focus
   unfold DX bs at *
   go_upto_region 32 with fail
   try rw[M]
   clear M aO aU be bJ s0 s1 s2 s3 Y s5 i0 i1 i2 i3 i4 i5 i6 i7 i8
   go_upto_region 48 with fail
   try rw[D]
   clear D e0 e1 e2 e3 aW a7 aY ba j0 j1 j2 j3 j4 j5 j6 j7 j8
  rotate_left
  focus
   unfold BN bs at *
   go_upto_region 35 with fail
   try rw[M]
   clear M aO aU be bJ s0 s1 s2 s3 Y s5 i0 i1 i2 i3 i4 i5 i6 i7 i8
   go_upto_region 48 with fail
   try rw[D]
   clear D e0 e1 e2 e3 aW a7 aY ba j0 j1 j2 j3 j4 j5 j6 j7 j8
  rotate_left
  focus
   unfold CG bs at *
   go_upto_region 38 with fail
   try rw[M]
   clear M aO aU be bJ s0 s1 s2 s3 Y s5 i0 i1 i2 i3 i4 i5 i6 i7 i8
   go_upto_region 48 with fail
   try rw[D]
   clear D e0 e1 e2 e3 aW a7 aY ba j0 j1 j2 j3 j4 j5 j6 j7 j8
  rotate_left
  focus
   unfold BI bs at *
   go_upto_region 41 with fail
   try rw[M]
   clear M aO aU be bJ s0 s1 s2 s3 Y s5 i0 i1 i2 i3 i4 i5 i6 i7 i8
   go_upto_region 48 with fail
   try rw[D]
   clear D e0 e1 e2 e3 aW a7 aY ba j0 j1 j2 j3 j4 j5 j6 j7 j8
  rotate_left
  focus
   unfold BO bs at *
   go_upto_region 43 with fail
   skip
   clear aO aU s0 s1 s2 s3 Y s5 i0 i1 i2 i3 i4 i5 i6 i7 i8
   go_upto_region 48 with fail
   try rw[D]
   clear D e0 e1 e2 e3 aW a7 aY ba j0 j1 j2 j3 j4 j5 j6 j7 j8
  rotate_left
  focus
   unfold Dg bs at *;clear aO aU s0 s1 s2 s3 Y s5 i1 i2 i3 i4 i5 i7 i8
  rotate_left
  focus
   unfold CV bs at *;clear aO aU s0 s1 s2 s3 Y s5 i1 i2 i3 i4 i5 i7 i8
  rotate_left
  focus
   unfold CV bs at *;clear aO aU s0 s1 s2 s3 Y s5 i1 i2 i3 i4 i5 i7 i8
  rotate_left
  focus
   unfold CU bs at *;clear aO aU s0 s1 s2 s3 Y s5 i1 i2 i3 i4 i5 i7 i8
  rotate_left
  focus
   unfold CU bs at *;clear aO aU s0 s1 s2 s3 Y s5 i1 i2 i3 i4 i5 i7 i8
  rotate_left
  focus
   unfold Dh bs at *;clear aO aU s0 s1 s2 s3 Y s5 i1 i2 i3 i4 i5 i7 i8
  rotate_left
  focus
   unfold En bs at *
   go_upto_region 46 with fail
   try rw[M]
   clear M aO aU be bJ s0 s1 s2 s3 Y s5 i0 i1 i2 i3 i4 i5 i6 i7 i8
   go_upto_region 47 with fail
   try rw[D]
   clear D e0 e1 e2 e3 aW a7 aY ba j0 j1 j2 j3 j4 j5 j6 j7 j8
   go_upto_region 48 with fail
   clear eL ec
  rotate_left
  all_goals
   go_upto_region 51 with fail
   try rw[dO]
   clear dO eW e7 eT dY d9;refine wp_region_held_drew (S:=IU w z (.slice c0 nv d0) (.slice c1 nf d1) (.slice c2 nl d2) (.slice c3 nt d3) (.slice c4 nt d4) (.slice c5 nr d5) re) (by kernel_rfl) S8.out (λdf=>?_);refine tk 0 df ?_;refine tk 1 df ?_;refine rd 2 (λK hK=>?_);refine Fp _ _ _ rfl (w.heap.size+1+1) 0 #[.slice c0 nv d0,.slice c1 nf d1,.slice c2 nl d2,.slice c3 nt d3,.slice c4 nt d4,.slice c5 nr d5] rfl rfl (Mx HS.out.1) (λj _=>Ao HS.out.1 _) Tryz.sizeSt Lk ?_;rw[dT.out];refine hK.out _ _ S9.out (λdf=>?_);clear hK K
   try simp only[Act.put,sq]
   refine rd 3 (λK hK=>?_);refine Fp _ _ _ rfl (w.heap.size+1+1+1) 0 #[.int .i64 re.t,.int .i64 re.k,.int .i64 re.o,.int .i64 re.v] rfl rfl (PH HS.out.2) (λj _=>Ao HS.out.2 _) Tryz.sizeRe Rg ?_;rw[ei.out];refine hK.out _ _ ff.out (λdf=>?_);clear hK K
   try simp only[Act.put,sq]
   refine wpAnyH_done (by kernel_rfl) ?_ _;have eF := ‹∀(a:Act) (w:Xh),Code.wp Tryz.prog Code.ret _ a w->_›;refine eF _ _ (wp_ret ?_);obtain⟨k1,k2,k3,k4,k5⟩:=HF.out;exact XI (OR rfl rfl rfl k1 k2) rfl ⟨_,_,_,_,_,_,⟨_,_,_,_,_,_,rfl⟩,k5,k3,k4⟩
end
end Go.Proofs.YtdcacoifehkioaaGreatDoor
