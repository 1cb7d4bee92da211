import Derived.Test.YtdcacoifehkioaaGreatDoorExH3
import Derived.Test.YtdcacoifehkioaaGreatDoorExH26
open Go renaming World->Xh,Addr->YZ,Value->Xk,bodyPost_ret->XJ,heap_setCell_other->Xt
open Go.RowKit renaming Below->Xm,wrap64->XO
open Option.some renaming injEq->YP
open Go.Addr.mk renaming injEq->afL
open Nat renaming le_trans->Xu,le_refl->Xd
open Array renaming getElem?_eq_some_iff->Xa
open Int renaming tmod_eq_emod_of_nonneg->Zn
set_option maxRecDepth 100000
set_option maxHeartbeats 8000000
set_option linter.unusedVariables false
set_option linter.unusedSimpArgs false
namespace Go.Proofs.YtdcacoifehkioaaGreatDoor
open Go.RowKit Go.Shelf Go.Proofs.Cod
structure DJ (Wp:Xh) (lo:Nat) (b0 b1 b2 b3 b4 b5:Option YZ) (p1 p2 p3 p4 p5 p6 be:Nat) (r:MS×Ev×Nat) (wx:Xh):Prop where
 rows:Bh wx lo b0 b1 b2 b3 b4 b5 r.1 p1 p2 p3 p4 p5 p6
 ev:wx.heap[be]?=some (.cells #[.int .i64 r.2.1.t,.int .i64 r.2.1.k,.int .i64 r.2.1.o,.int .i64 r.2.1.v] 169)
 keep:Ac (λk=>(lo<=k/\k<p6)\/k=be) Wp wx
abbrev IY (w:Xh) (be:Nat) (v0 v1 v2 v3 v4 v5:Xk) (re:Ev) (u:Xh):Prop:=(u.cell? ⟨w.heap.size+1,0,none⟩=some v0/\u.cell? ⟨w.heap.size+1,1,none⟩=some v1/\u.cell? ⟨w.heap.size+1,2,none⟩=some v2/\u.cell? ⟨w.heap.size+1,3,none⟩=some v3/\u.cell? ⟨w.heap.size+1,4,none⟩=some v4/\u.cell? ⟨w.heap.size+1,5,none⟩=some v5)/\u.cell? ⟨be,0,none⟩=some (.int .i64 re.t)/\u.cell? ⟨be,1,none⟩=some (.int .i64 re.k)/\u.cell? ⟨be,2,none⟩=some (.int .i64 re.o)/\u.cell? ⟨be,3,none⟩=some (.int .i64 re.v)
theorem Vv {w O g:Xh} {j M K N P Q A y U e nv nf nl nt nr u s p n q z t R:Nat} {G E I F H:Option YZ} {m Y:MS} {c:Ev} {x:Ad} {ln:Int} {wd:Tx} (ad:DJ O j G E I (some ⟨e,0,none⟩) F H M K N P Q A y (Av m t x) g) (an:BH m t x (Av m t x).2.2=R)
 (HM:m.thr.length=nt/\R4 m/\nt*4=nr/\(Cu (Af (m.th t) x.aR x.aN)/\Cu (Af (m.th t) x.bR x.bN)/\(m.th t).pc<=24)/\True/\m.vars.length=nv/\m.flags.length=nf/\m.locks.length=nl) (HQ:Y=EG (Av m t x).1 t (BH m t x (Av m t x).2.2)/\c=(Av m t x).2.1) (ht:t<nt)
 (aL:O.heap[w.heap.size+1]?=some (.cells #[.slice G nv u,.slice E nf s,.slice I nl p,.slice (some ⟨e,0,none⟩) nt n,.slice F nt q,.slice H nr z] 92)) (av:O.heap[U]?=some (.cells #[.string (bs x.op),.int .i64 x.r,.bool x.aR,.int .i64 x.aN,.bool x.bR,.int .i64 x.bN,.int .i64 x.x,.int .i64 ln,.string (bs wd)] 177))
 (a7:O.heap[w.heap.size+1+1]?=some (.cells #[.slice none 0 0,.slice none 0 0,.slice none 0 0,.slice none 0 0,.slice none 0 0,.slice none 0 0] 92)) (aQ:O.heap[w.heap.size+1+1+1]?=some (.cells #[.int .i64 0,.int .i64 0,.int .i64 0,.int .i64 0] 169)) (J:Xm w.heap.size w O) (bn:w.heap.size+1+1+1<j/\w.heap.size+1+1+1<U/\U<j/\j<=A/\A<=y/\y<O.heap.size) :
 ∃(d T h:Xh) (pv:Nat) (w0 w1 w2 w3 w4 w5 e0 e1 e2 e3:Xk) (c0 c1 c2 c3 c4 c5:Option YZ),g.setCell ⟨e,t,none⟩ (.int .i64 (R:Int))=d/\g.cell? ⟨e,t,none⟩=some (.int .i64 (pv:Int))/\g.frozen? ⟨e,t,none⟩=false/\g.cell? ⟨w.heap.size+1,3,none⟩=some (.slice (some ⟨e,0,none⟩) nt n)/\g.cell? ⟨U,0,none⟩=some (.string (bs x.op))/\g.cell? ⟨U,6,none⟩=some (.int .i64 x.x)/\
  Hid (d.drew.setCells (w.heap.size+1+1) 0 (#[Value.slice c0 nv u,.slice c1 nf s,.slice c2 nl p,.slice c3 nt n,.slice c4 nt q,.slice c5 nr z]:Array Xk).toList=T)/\Hid (T.setCells (w.heap.size+1+1+1) 0 (#[Value.int .i64 c.t,.int .i64 c.k,.int .i64 c.o,.int .i64 c.v]:Array Xk).toList=h)/\Hid (IY w y (.slice c0 nv u) (.slice c1 nf s) (.slice c2 nl p) (.slice c3 nt n) (.slice c4 nt q) (.slice c5 nr z) c d.drew)/\Hid (IY w y (.slice c0 nv u) (.slice c1 nf s) (.slice c2 nl p) (.slice c3 nt n) (.slice c4 nt q) (.slice c5 nr z) c T)/\Hid (IY w y (.slice c0 nv u) (.slice c1 nf s) (.slice c2 nl p) (.slice c3 nt n) (.slice c4 nt q) (.slice c5 nr z) c h)/\
  Hid (d.heap[w.heap.size+1+1]?=some (.cells #[w0,w1,w2,w3,w4,w5] 92)/\T.heap[w.heap.size+1+1+1]?=some (.cells #[e0,e1,e2,e3] 169))/\
  Hid (h.heap[w.heap.size+1+1]?=some (.cells #[.slice c0 nv u,.slice c1 nf s,.slice c2 nl p,.slice c3 nt n,.slice c4 nt q,.slice c5 nr z] 92)/\h.heap[w.heap.size+1+1+1]?=some (.cells #[.int .i64 c.t,.int .i64 c.k,.int .i64 c.o,.int .i64 c.v] 169)/\Cl h c0 c1 c2 c3 c4 c5 nv nf nl nt nr Y/\Xm w.heap.size w h/\∃j,w.heap.size<=j/\∃M K N P Q A,Bh h j c0 c1 c2 c3 c4 c5 Y M K N P Q A):=by
 obtain⟨ag,bd,aG,-,-,a4,au,aH⟩:=HM;obtain⟨am,a8⟩:=HQ;have V:=Vt (t:=t) (x:=x) bd;obtain⟨bl,ar,be,bh,aq,a2,az⟩:=ad.rows.pc (i:=t) (by rw[V.t,ag];exact ht);simp only[YP,afL,and_true] at ar;subst ar;have B:=ad.keep;have zs:=B.size;have aj:g.heap[w.heap.size+1]?=_:=(B.block _ (by omega) (by omega)).trans aL;have a6:g.heap[U]?=_:=(B.block _ (by omega) (by omega)).trans av;have a1:g.heap[w.heap.size+1+1]?=_:=(B.block _ (by omega) (by omega)).trans a7;have key:g.heap[w.heap.size+1+1+1]?=_:=(B.block _ (by omega) (by omega)).trans aQ;obtain⟨d,Z⟩:∃d,g.setCell ⟨e,t,none⟩ (.int .i64 (R:Int))=d:=⟨_,rfl⟩;have C:Ac (λk=>k=e) g d:=by rw[<-Z];exact Ac.set (S:=λk=>k=e) (Ac.refl g) (a:=⟨e,t,none⟩) (.inl rfl) _
 have ap:=az R;rw[Z] at ap;have z8:=C.size;have af:d.heap[w.heap.size+1]?=_:=(C.block _ (by omega) (by omega)).trans aj;have ak:d.heap[w.heap.size+1+1]?=_:=(C.block _ (by omega) (by omega)).trans a1;have aO:d.heap[w.heap.size+1+1+1]?=_:=(C.block _ (by omega) (by omega)).trans key;have ac:d.heap[y]?=some (.cells #[.int .i64 c.t,.int .i64 c.k,.int .i64 c.o,.int .i64 c.v] 169):=by rw[a8];exact(C.block _ (by omega) (by omega)).trans ad.ev
 obtain⟨pv,aJ⟩:∃v,((Av m t x).1.th t).pc=v:=⟨_,rfl⟩;rw[aJ] at aq;obtain⟨T,h,aw,aS,ab,D,aC,aA,aU⟩:=NV (W:=d.drew) (.slice G nv u) (.slice E nf s) (.slice I nl p) (.slice (some ⟨e,0,none⟩) nt n) (.slice F nt q) (.slice H nr z) (.int .i64 c.t) (.int .i64 c.k) (.int .i64 c.o) (.int .i64 c.v) ak aO (by omega);have zd:d.drew.heap.size=d.heap.size:=rfl;have z9:=ab.size;have bm:=D.size;have S8:Hid (IY w y (.slice G nv u) (.slice E nf s) (.slice I nl p) (.slice (some ⟨e,0,none⟩) nt n) (.slice F nt q) (.slice H nr z) c d.drew):=⟨Br af,BK ac⟩;have S9:Hid (IY w y (.slice G nv u) (.slice E nf s) (.slice I nl p) (.slice (some ⟨e,0,none⟩) nt n) (.slice F nt q) (.slice H nr z) c T):=⟨Br ((ab.block _ (by omega) (by omega)).trans af),BK ((ab.block _ (by omega) (by omega)).trans ac)⟩;have aY:Hid (IY w y (.slice G nv u) (.slice E nf s) (.slice I nl p) (.slice (some ⟨e,0,none⟩) nt n) (.slice F nt q) (.slice H nr z) c h):=⟨Br ((D.block _ (by omega) (by omega)).trans af),BK ((D.block _ (by omega) (by omega)).trans ac)⟩;have ao:=ap.keep (w':=h) (λb q1 q2=>D.block b (by omega) (by omega)) D.size;have X:=ac2 (m1:=(Av m t x).1) (t:=t) V.r R;have ai:=Bh.doc (nv:=nv) (nf:=nf) (nl:=nl) (nt:=nt) (nr:=nr) (m:=EG (Av m t x).1 t R) ao (by rw[X.v,V.v];exact a4) (by rw[X.f,V.f];exact au) (by rw[X.l,V.l];exact aH) (by rw[X.t,V.t];exact ag) aG X.r;rw[<-an,<-am] at ai;have ah:Bh h j G E I (some ⟨e,0,none⟩) F H (EG (Av m t x).1 t R) M K N P Q A:=ao;rw[<-an,<-am] at ah;have aM:Xm w.heap.size w h:=⟨D.os.trans (C.os.trans (B.os.trans J.os)),D.tape.trans (C.tape.trans (B.tape.trans J.tape)),D.output.trans (C.output.trans (B.output.trans J.output)),Xu J.size (by omega),λk hk=>(D.block k (by have:=J.size;omega) (by omega)).trans ((C.block k (by have:=J.size;omega) (by omega)).trans ((B.block k (by have:=J.size;omega) (by omega)).trans (J.block k hk)))⟩;have aZ:∃j,w.heap.size<=j/\∃M K N P Q A,Bh h j G E I (some ⟨e,0,none⟩) F H Y M K N P Q A:=⟨j,by omega,M,K,N,P,Q,A,ah⟩;have HF:=Aa (⟨aA,aU,ai,aM,aZ⟩:_/\_/\_/\_/\_);obtain⟨-,-,-,a5,-,-⟩:=Br aj;obtain⟨bc,-,-,-,-,-,aD,-,-⟩:=DA a6
 exact⟨d,T,h,pv,_,_,_,_,_,_,_,_,_,_,_,_,_,_,_,_,Z,aq,a2,a5,bc,aD,aw,aS,S8,S9,aY,⟨ak,aC⟩,HF.out⟩
section
variable {w w':Xh} {a0 a1 a2 a3 a4 a5:Option YZ} {nv nf nl nt nr:Nat} {m:MS} {P:RP} {TV:List (Xk×Xk)} {x1 x2 x3 x4:Option YZ} {y1 y2 y3 z1 z2 z3 z4:Nat}
theorem Wv {c0 c1 c2 c3 c4 c5:Nat} (hQ:DM w (.slice x1 y1 z1) (.slice x2 y2 z2) (.slice x3 y3 z3) (.slice x4 nt z4) P TV) (dz:P.thr.length=nt) (h:Cl w a0 a1 a2 a3 a4 a5 nv nf nl nt nr m) (dX:nv<=4) (eA:nf<=4) (eB:nl<=4) (hM:AZ nv nf nl (Ai P) m) (hf:Ej nv nf nl (Ai P)) {t:Nat} (ht:t<nt) (e6:(m.th t).ph=1) :
 Calls Tryz.prog 69 #[.agg #[.slice x1 y1 z1,.slice x2 y2 z2,.slice x3 y3 z3,.slice x4 nt z4],.agg #[.slice a0 nv c0,.slice a1 nf c1,.slice a2 nl c2,.slice a3 nt c3,.slice a4 nt c4,.slice a5 nr c5],.int .i64 t] w λe w'=>∃b0 b1 b2 b3 b4 b5,(∃d0 d1 d2 d3 d4 d5,e = .returned (.tuple #[.agg #[.slice b0 nv d0,.slice b1 nf d1,.slice b2 nl d2,.slice b3 nt d3,.slice b4 nt d4,.slice b5 nr d5],.agg #[.int .i64 (Ay true (Ai P) m t).2.t,.int .i64 (Ay true (Ai P) m t).2.k,.int .i64 (Ay true (Ai P) m t).2.o,.int .i64 (Ay true (Ai P) m t).2.v]]))/\(∃G,w.heap.size<=G/\∃p1 p2 p3 p4 p5 J,Bh w' G b0 b1 b2 b3 b4 b5 (Ay true (Ai P) m t).1 p1 p2 p3 p4 p5 J)/\Cl w' b0 b1 b2 b3 b4 b5 nv nf nl nt nr (Ay true (Ai P) m t).1/\Xm w.heap.size w w':=by
 obtain⟨W,hW⟩:∃W,(((w.alloc (.cells #[.slice x1 y1 z1,.slice x2 y2 z2,.slice x3 y3 z3,.slice x4 nt z4] 28)).alloc (.cells #[.slice a0 nv c0,.slice a1 nf c1,.slice a2 nl c2,.slice a3 nt c3,.slice a4 nt c4,.slice a5 nr c5] 92)).alloc (.cells #[.slice none 0 0,.slice none 0 0,.slice none 0 0,.slice none 0 0,.slice none 0 0,.slice none 0 0] 92)).alloc (.cells #[.int .i64 0,.int .i64 0,.int .i64 0,.int .i64 0] 169)=W:=⟨_,rfl⟩;obtain⟨hB,k1,k2,k3,k4,hz⟩:=adp _ _ _ _ _ hW;have HB:=Aa hB;have dV:(Ai P).length=nt:=by unfold Ai;rw[List.length_map];exact dz
 have ej:m.thr.length=nt:=h.lt;have h4:nt<=4:=by have:=hf.four;omega
 have hT:=hM.th t (by omega);have hN:=ML (c0:=c0) (c1:=c1) (c2:=c2) (c3:=c3) (c4:=c4) (c5:=c5) (hQ.below hB) dz (h.below hB) ht (hT.pc (by omega));have cu:=OJ ((Lm hf (by omega:t<(Ai P).length) (hT.pc (by omega))).imp id And.left);have ef:Ay true (Ai P) m (t:Int)=Bc true m t (BB (Ai P) t (m.th t)):=by unfold Ay;rw[Int.toNat_natCast]
 rw[ef];rw[dV] at cu;obtain⟨x,dJ⟩:∃x,BB (Ai P) t (m.th t)=x:=⟨_,rfl⟩;rw[dJ] at hN cu |-;obtain⟨⟨rm,re⟩,ct⟩:∃r:MS×Ev,Bc true m t x=r:=⟨_,rfl⟩;rw[ct];dsimp only;replace ct:=Aa ct;have aw:=JH hT cu.a;have aH:=JH hT cu.b;have hD:=h.below hB;have bB:=h.r4;have eD:=h.lr;obtain⟨u0,u1,u2,u3⟩:=BK k1;obtain⟨s0,s1,s2,s3,Y,Z⟩:=Br k2;have HK:=Aa (⟨k2,k3,k4,hz⟩:_/\_/\_/\_);have HD:=Aa (⟨hD,cu⟩:_/\_);have c7:=Xu (hT.pc (by omega)) (hf.code _ (CL (d:=[]) (by omega:t<(Ai P).length))).1;have I:=Aa (⟨ej,bB,eD,⟨aw,aH,c7⟩,trivial,h.lv,h.lf,h.ll⟩:_/\_/\_/\(_/\_/\_)/\True/\_/\_/\_);clear h hf hM hQ dz hB k1 k2 k3 k4 hz dV ej hT ef dJ cu aw aH hD bB eD e6 c7
 go_enter Tryz.func69,Tryz.ntmps69
 go_upto_region 1 with fail
 try rw[hW]
 clear hW
 go_wp2_with fail
 refine hN.mono ?_;rintro e w1 ⟨ln,wd,rfl,da⟩;unfold Dq;clear hN u0 u1 u2 u3 s0 s1 s2 s3 Y Z;obtain⟨W1,c6⟩:∃W1,w1.alloc (.cells (Dq x ln wd) 177)=W1:=⟨_,rfl⟩;have dL:Xm w1.heap.size w1 W1:=by rw[<-c6];exact(Below.refl _ _).alloc (Xd _) _
 have ki:W1.heap[w1.heap.size]?=some (.cells (Dq x ln wd) 177):=by rw[<-c6];exact World.alloc_heap_new w1 _
 have ci:Xm W.heap.size W W1:=da.trans (dL.mono da.size);obtain⟨bi,cU⟩:∃bi,w1.heap.size=bi:=⟨_,rfl⟩;have bD:bi<W1.heap.size/\W.heap.size<=bi:=⟨by rw[<-cU];exact(Xa.1 ki).1,by rw[<-cU];exact da.size⟩;rw[cU] at ki;obtain⟨hD,hX⟩:=HD.out;have hF:=adI (c0:=c0) (c1:=c1) (c2:=c2) (c3:=c3) (c4:=c4) (c5:=c5) (hD.below ci) h4 ht hX ln wd;have s6:=(ci.block (w.heap.size+1) (by have:=HK.out.2.2.2;omega)).trans HK.out.1;obtain⟨s0,s1,s2,s3,Y,Z⟩:=Br s6;unfold Dq at ki c6 hF;obtain⟨i0,i1,i2,i3,i4,i5,i6,i7,i8⟩:=DA ki;have HI:=Aa (⟨ki,ci,bD⟩:_/\_/\_);clear da dL ki ci bD hD hX s6
 go_upto_region 2 with fail
 try rw[c6]
 try rw[cU]
 clear c6 cU
 go_wp2_with fail
 refine hF.mono ?_;rintro e w2 ⟨rfl,c9⟩;clear hF i0 i1 i2 i3 i4 i5 i6 i7 i8 s0 s1 s2 s3 Y Z;obtain⟨ki,ci,bD⟩:=HI.out;have b8:Xm W.heap.size W w2:=ci.trans (c9.mono ci.size);obtain⟨s0,s1,s2,s3,Y,Z⟩:=Br ((b8.block (w.heap.size+1) (by have:=HK.out.2.2.2;omega)).trans HK.out.1);obtain⟨hD,hX⟩:=HD.out;have bm:=hD.below b8;have hC:=Wt (c0:=c0) (c1:=c1) (c2:=c2) (c3:=c3) (c4:=c4) (c5:=c5) bm.lv bm.v (by omega) bm.lf bm.f (by omega) bm.ll bm.l (by omega) (n3:=nt) (by rw[LV];exact bm.lt) bm.p (by omega) (n4:=nt) (by rw[FL];exact bm.lt) bm.s (by omega) (n5:=nr) (by rw[MO bm.r4,bm.lt];exact bm.lr) bm.r (by have:=bm.lr;omega);have cL:=(c9.block bi bD.1).trans ki;have d7:=Aa (⟨cL,b8,(⟨Nat.lt_of_lt_of_le bD.1 c9.size,bD.2⟩:bi<w2.heap.size/\W.heap.size<=bi)⟩:_/\_/\_);clear ki ci bD c9 b8 hD hX bm cL HI
 go_wp2_with fail
 refine hC.mono ?_;rintro e w3 ⟨b0,b1,b2,b3,b4,b5,d0,d1,d2,d3,d4,d5,p1,p2,p3,p4,p5,J,rfl,hR,de⟩;clear hC s0 s1 s2 s3 Y Z;obtain⟨cL,b8,bD⟩:=d7.out;have bO:Xm W.heap.size W w3:=b8.trans (de.mono b8.size);have s6:=(bO.block (w.heap.size+1) (by have:=HK.out.2.2.2;omega)).trans HK.out.1;obtain⟨s0,s1,s2,s3,Y,Z⟩:=Br s6;have sf:=Ap s6;obtain⟨f0,f1,f2,f3,f4,f5⟩:=(⟨sf 0,sf 1,sf 2,sf 3,sf 4,sf 5⟩:_/\_/\_/\_/\_/\_);obtain⟨W3,db⟩:∃W3,(((((w3.setCell ⟨w.heap.size+1,0,none⟩ (.slice b0 nv d0)).setCell ⟨w.heap.size+1,1,none⟩ (.slice b1 nf d1)).setCell ⟨w.heap.size+1,2,none⟩ (.slice b2 nl d2)).setCell ⟨w.heap.size+1,3,none⟩ (.slice b3 nt d3)).setCell ⟨w.heap.size+1,4,none⟩ (.slice b4 nt d4)).setCell ⟨w.heap.size+1,5,none⟩ (.slice b5 nr d5)=W3:=⟨_,rfl⟩;have bH:Ac (λk=>k=w.heap.size+1) w3 W3:=by rw[<-db];exact Sn _ _ _ _ _ _ (Ac.refl w3) (.inl rfl)
 have ks:W3.heap[w.heap.size+1]?=some (.cells #[.slice b0 nv d0,.slice b1 nf d1,.slice b2 nl d2,.slice b3 nt d3,.slice b4 nt d4,.slice b5 nr d5] 92):=by rw[<-db];exact JP _ _ _ _ _ _ s6
 have hz:=HK.out.2.2.2;have dS:=b8.size;have eu:=hR.le;have bz:Bh W3 w2.heap.size b0 b1 b2 b3 b4 b5 m p1 p2 p3 p4 p5 J:=hR.keep (λb q1 q2=>bH.block b (by omega) (by omega)) bH.size;have eX:=bH.size;have eR:=de.size;have bC:W3.heap[bi]?=_:=(bH.block bi (by omega) (by omega)).trans ((de.block bi bD.1).trans cL);have bF:W3.heap[w.heap.size+1+1]?=_:=(bH.block _ (by omega) (by omega)).trans ((bO.block _ (by omega)).trans HK.out.2.1);have bG:W3.heap[w.heap.size+1+1+1]?=_:=(bH.block _ (by omega) (by omega)).trans ((bO.block _ (by omega)).trans HK.out.2.2.1);have bn:Xm w.heap.size w W3:=⟨bH.os.trans (bO.os.trans HB.out.os),bH.tape.trans (bO.tape.trans HB.out.tape),bH.output.trans (bO.output.trans HB.out.output),Xu HB.out.size (Xu bO.size bH.size),λk hk=>(bH.block k (by have:=bO.size;omega) (by omega)).trans ((bO.block k (by omega)).trans (HB.out.block k hk))⟩;obtain⟨G,ex⟩:∃G,w2.heap.size=G:=⟨_,rfl⟩;rw[ex] at bz eu bD dS;have bl:w.heap.size+1+1+1<G/\w.heap.size+1+1+1<bi/\bi<G/\G<=J/\J<=W3.heap.size:=⟨by omega,by omega,bD.1,by omega,by omega⟩;have HR:=Aa (⟨bz,ks,bC,bF,bG,bn,bl⟩:_/\_/\_/\_/\_/\_/\_);clear hR de cL b8 bD bO s6 sf bH ks hz dS eu bz eX eR bC bF bG bn bl ex d7 HK HB
 go_upto_region 4 with fail
 try rw[db]
 clear db s0 s1 s2 s3 Y Z f0 f1 f2 f3 f4 f5;obtain⟨fb,cn⟩:∃fb,Gk m t x=fb:=⟨_,rfl⟩;rw[cn]
 cases fb with
 |true=>
  have hE:=ct.out.symm.trans (adL cn);obtain⟨e1,e2⟩:=Prod.mk.inj hE;subst e1 e2;obtain⟨bz,ks,bC,bF,bG,bn,bl⟩:=HR.out;obtain⟨g,eb,U,T,hc,hz,ek⟩:=bz.stat (i:=t) (by rw[I.out.1];exact ht);subst eb;obtain⟨W4,dg⟩:∃W4,W3.setCell ⟨g,t,none⟩ (.int .i64 3)=W4:=⟨_,rfl⟩;have bP:Ac (λk=>k=g) W3 W4:=by rw[<-dg];exact Ac.set (S:=λk=>k=g) (Ac.refl W3) (a:=⟨g,t,none⟩) (.inl rfl) _
  have dC:=ek 3;rw[dg] at dC;obtain⟨-,-,-,-,Y,-⟩:=Br ks;have dT:W4.heap[w.heap.size+1]?=_:=(bP.block _ (by omega) (by omega)).trans ks;have bZ:W4.heap[w.heap.size+1+1]?=_:=(bP.block _ (by omega) (by omega)).trans bF;have cm:W4.heap[w.heap.size+1+1+1]?=_:=(bP.block _ (by omega) (by omega)).trans bG;obtain⟨t0,t1,t2,t3,t4,t5⟩:=Br dT;obtain⟨r0,r1,r2,r3,r4,r5⟩:=Br bZ;obtain⟨f0,f1,f2,f3,f4,f5⟩:=(⟨Ap bZ 0,Ap bZ 1,Ap bZ 2,Ap bZ 3,Ap bZ 4,Ap bZ 5⟩:_/\_/\_/\_/\_/\_);obtain⟨v0,v1,v2,v3⟩:=BK cm;obtain⟨f6,f7,f8,f9⟩:=(⟨Ap cm 0,Ap cm 1,Ap cm 2,Ap cm 3⟩:_/\_/\_/\_);have e4:(t:Int)<(nt:Int):=by omega
  obtain⟨U1,U2,dY,ep,-,ca,cB,dZ,et⟩:=adD (.slice b0 nv d0) (.slice b1 nf d1) (.slice b2 nl d2) (.slice b3 nt d3) (.slice (some ⟨g,0,none⟩) nt d4) (.slice b5 nr d5) (.int .i64 (t:Int)) (.int .i64 9) (.int .i64 0) (.int .i64 0) bZ cm (by omega);have fa:=bP.size;have e8:=ca.size;have dk:Bh U2 _ _ _ _ _ _ _ _ _ _ _ _ _ _:=dC.keep (λb q1 q2=>ca.block b (by omega) (by omega)) ca.size;have dP:Xm w.heap.size w U2:=⟨ca.os.trans (bP.os.trans bn.os),ca.tape.trans (bP.tape.trans bn.tape),ca.output.trans (bP.output.trans bn.output),Xu bn.size (Xu bP.size ca.size),λk hk=>(ca.block k (by omega) (by omega)).trans ((bP.block k (by omega) (by omega)).trans (bn.block k hk))⟩;have dM:Cl U2 b0 b1 b2 b3 (some ⟨g,0,none⟩) b5 nv nf nl nt nr (m.Ae t {m.th t with ph:=3}):=dk.doc I.out.2.2.2.2.2.1 I.out.2.2.2.2.2.2.1 I.out.2.2.2.2.2.2.2 (by rw[Ga];exact I.out.1) I.out.2.2.1 (Kb (y:={m.th t with ph:=3}) I.out.2.1 (Ka I.out.2.1 t) t);have ed:∃G,w.heap.size<=G/\∃p1 p2 p3 p4 p5 J,Bh U2 G b0 b1 b2 b3 (some ⟨g,0,none⟩) b5 (m.Ae t {m.th t with ph:=3}) p1 p2 p3 p4 p5 J:=⟨G,by omega,p1,p2,p3,p4,p5,J,dk⟩;have HF:=Aa (⟨dZ,et,dM,dP,ed⟩:_/\_/\_/\_/\_);clear ed;obtain⟨o0,o1,o2,o3⟩:=BK cB;obtain⟨o6,o7,o8,o9⟩:=(⟨Ap cB 0,Ap cB 1,Ap cB 2,Ap cB 3⟩:_/\_/\_/\_);clear v0 v1 v2 v3 f6 f7 f8 f9 cB;clear hE bz ks bC bF bG bn bl ek bP dC dT bZ cm ca dZ et fa e8 dk dP dM HR I HD U T cn ct h4 ht dX eA eB
  go_upto_region 6 with fail
  try rw[dg]
  clear dg hc hz Y
  go_wp2_with fail
  obtain⟨k1,k2,k3,k4,k5⟩:=HF.out;exact XJ (OZ rfl rfl rfl k1 k2) rfl ⟨_,_,_,_,_,_,⟨_,_,_,_,_,_,rfl⟩,k5,k3,k4⟩
 |false=>
  have hX:=HD.out.2;have hE:=ct.out.symm.trans (Vs (by rw[I.out.1];exact ht) (by have:=hX.op;simp only[Nc,List.mem_cons,List.not_mem_nil,or_false];exact this) cn);have HQ:=Aa (Prod.mk.inj hE);obtain⟨bz,ks,bC,bF,bG,bn,bl⟩:=HR.out;obtain⟨W5,cH⟩:∃W5,W3.alloc (.cells #[.int .i64 (t:Int),.int .i64 0,.int .i64 0,.int .i64 0] 169)=W5:=⟨_,rfl⟩;have br:Xm W3.heap.size W3 W5:=by rw[<-cH];exact(Below.refl _ _).alloc (Xd _) _
  have cf:W5.heap[W3.heap.size]?=some (.cells #[.int .i64 (t:Int),.int .i64 0,.int .i64 0,.int .i64 0] 169):=by rw[<-cH];exact World.alloc_heap_new W3 _
  obtain⟨z,bA⟩:∃z,W3.heap.size=z:=⟨_,rfl⟩;rw[bA] at br cf bl;have cs:=(Xa.1 cf).1;have es:Cl W3 b0 b1 b2 b3 b4 b5 nv nf nl nt nr m:=bz.doc I.out.2.2.2.2.2.1 I.out.2.2.2.2.2.2.1 I.out.2.2.2.2.2.2.2 I.out.1 I.out.2.2.1 I.out.2.1;rw[<-bA] at br;have dD:=es.below br;rw[bA] at br;have V1:=KP (c0:=d0) (c1:=d1) (c2:=d2) (c3:=d3) (c4:=d4) (c5:=d5) dD h4 ht hX.a;have VV:=Aa (λu (hu:Xm W5.heap.size W5 u)=>KP (c0:=d0) (c1:=d1) (c2:=d2) (c3:=d3) (c4:=d4) (c5:=d5) (dD.below hu) h4 ht hX.b);obtain⟨s0,s1,s2,s3,Y,Z⟩:=Br ((br.block (w.heap.size+1) (by omega)).trans ks);obtain⟨i0,i1,i2,i3,i4,i5,i6,i7,i8⟩:=DA ((br.block bi (by omega)).trans bC);obtain⟨va,aw⟩:∃v,Af (m.th t) x.aR x.aN=v:=⟨_,rfl⟩;obtain⟨vb,aH⟩:∃v,Af (m.th t) x.bR x.bN=v:=⟨_,rfl⟩;rw[aw] at V1;simp only[aH] at VV;have HV:=Aa (⟨aw,aH,bA,cs,cf,br⟩:_/\_/\_/\_/\_/\_);replace cn:=Aa cn;clear hE bz ks bC bF bG bn bl br cf cs es dD hX aw aH bA;replace cH:=Aa cH
  go_upto_region 8 with fail
  rw[cH.out];have bA:=HV.out.2.2.1
  try rw[bA]
  clear cH bA
  go_wp2_with fail
  refine V1.mono ?_;rintro e w6 ⟨rfl,cJ⟩;have V2:=VV.out w6 cJ;obtain⟨bz,ks,bC,bF,bG,bn,bl⟩:=HR.out;obtain⟨aw,aH,bA,cs,cf,br⟩:=HV.out;rw[bA] at bl;clear V1 VV s0 s1 s2 s3 Y Z i0 i1 i2 i3 i4 i5 i6 i7 i8;have eS:=cJ.size;obtain⟨s0,s1,s2,s3,Y,Z⟩:=Br ((cJ.block (w.heap.size+1) (by omega)).trans ((br.block (w.heap.size+1) (by omega)).trans ks));obtain⟨i0,i1,i2,i3,i4,i5,i6,i7,i8⟩:=DA ((cJ.block bi (by omega)).trans ((br.block bi (by omega)).trans bC));have dr:=Aa cJ;clear bz ks bC bF bG bn bl aw aH bA cs cf br eS cJ
  go_wp2_with fail
  refine V2.mono ?_;rintro e B ⟨rfl,ez⟩;obtain⟨bz,ks,bC,bF,bG,bn,bl⟩:=HR.out;obtain⟨aw,aH,bA,cs,cf,br⟩:=HV.out;rw[bA] at bl;clear V2 s0 s1 s2 s3 Y Z i0 i1 i2 i3 i4 i5 i6 i7 i8;have di:Xm W5.heap.size W5 B:=dr.out.trans (ez.mono dr.out.size);have cr:Xm z W3 B:=br.trans (di.mono (by omega));have eP:=di.size;have cb:B.heap[w.heap.size+1]?=_:=(cr.block _ (by omega)).trans ks;have bu:B.heap[bi]?=_:=(cr.block _ (by omega)).trans bC;have cO:B.heap[w.heap.size+1+1]?=_:=(cr.block _ (by omega)).trans bF;have cW:B.heap[w.heap.size+1+1+1]?=_:=(cr.block _ (by omega)).trans bG;have aI:B.heap[z]?=_:=(di.block z cs).trans cf;have ax:Bh B G b0 b1 b2 b3 b4 b5 m p1 p2 p3 p4 p5 J:=bz.keep (λb q1 q2=>cr.block b (by omega)) (by omega);have cT:Xm w.heap.size w B:=bn.trans (cr.mono (by omega));have dU:w.heap.size+1+1+1<G/\w.heap.size+1+1+1<bi/\bi<G/\G<=J/\J<=z/\z<B.heap.size:=by omega
  have H7:=Aa (⟨ax,cb,bu,cO,cW,aI,cT,dU⟩:_/\_/\_/\_/\_/\_/\_/\_);obtain⟨s0,s1,s2,s3,Y,Z⟩:=Br cb;obtain⟨i0,i1,i2,i3,i4,i5,i6,i7,i8⟩:=DA bu;obtain⟨g3,fj,-,-,aP,aS,-⟩:=ax.pc (i:=t) (by rw[I.out.1];exact ht);subst fj;have hX:=HD.out.2;obtain⟨rn,cN⟩:∃rn:Nat,x.r=rn:=⟨x.r.toNat,by have:=hX.r.1;omega⟩;obtain⟨H,aG⟩:∃H:Nat,x.x=H:=⟨x.x.toNat,by have:=hX.x0;omega⟩;have bB:rn<4:=by have:=hX.r.2;omega
  have bM:x.r.toNat=rn:=by omega
  have bw:x.x.toNat=H:=by omega
  rw[cN] at i1;rw[aG] at i6;obtain⟨k,hk⟩:∃k,t*4+rn=k:=⟨_,rfl⟩;obtain⟨tq,dn⟩:∃q,t*4=q:=⟨_,rfl⟩;obtain⟨pc,cl⟩:∃pc,(m.th t).pc=pc:=⟨_,rfl⟩;obtain⟨ab,cX⟩:∃q,pc+1=q:=⟨_,rfl⟩;have c7:pc<=24:=by rw[<-cl];exact I.out.2.2.2.1.2.2
  rw[cl] at aP;have fr:XO ((t:Int)*4)=(tq:Int):=by rw[<-dn];have:=Ct (n:=t*4) (by omega);push_cast at this |-;exact this
  have fB:XO ((tq:Int)+(rn:Int))=(k:Int):=by rw[<-hk,dn];have:=Ct (n:=tq+rn) (by omega);push_cast at this |-;exact this
  have fp:XO ((pc:Int)+1)=(ab:Int):=by rw[<-cX];have:=Ct (n:=pc+1) (by omega);push_cast at this |-;exact this
  have e4:(t:Int)<(nt:Int):=by omega
  have HN:=Aa (⟨aw,aH,cN,aG,bB,bM,bw,hk,cl,cX,hX⟩:_/\_/\_/\_/\_/\_/\_/\_/\_/\_/\_);clear bz ks bC bF bG bn bl aw aH bA cs cf br di cr eP cb bu cO cW aI ax cT dU hX cN aG bB bM bw hk dn cl cX dr ez HV HR c7;have HT:=Aa (⟨ht,h4⟩:_/\_);clear ht h4
  go_upto_region 12 with fail
  have A:=HN.out.2.2.2.2.2.2.2.2.2.2.op
  rcases A with A|A|A|A|A|A|A|A|A|A|A|A|A|A|A|A|A
  all_goals
   obtain⟨aw,aH,cN,aG,bB,bM,bw,hk,cl,cX,hX⟩:=HN.out;obtain⟨ax,cb,bu,cO,cW,aI,cT,bl⟩:=H7.out;rw[A] at i0
  focus
   obtain⟨V,bL,U,T,bd,bk,R⟩:=ax.Jg (t:=t) (r:=rn) (by rw[I.out.1];exact HT.out.1) bB I.out.2.1;simp only[hk] at bd bk R;subst bL;have cQ:(k:Int)<(nr:Int):=by have:=I.out.2.2.1;omega
   obtain⟨F,D⟩:∃F,B.setCell ⟨V,k,none⟩ (.int .i64 va)=F:=⟨_,rfl⟩;have aJ:DJ B G b0 b1 b2 (some ⟨g3,0,none⟩) b4 (some ⟨V,0,none⟩) p1 p2 p3 p4 p5 J z (Av m t x) F:=by
    rw[Pn m t A,bM,aw];refine⟨?_,?_,?_⟩
    ·have q:=R va;rw[D] at q;exact q
    ·rw[<-D,Xt B ⟨V,k,none⟩ z _ (by show z≠V;omega)];exact aI
    ·rw[<-D];exact Ac.set (S:=λk=>(G<=k/\k<J)\/k=z) (Ac.refl B) (a:=⟨V,k,none⟩) (.inl (.inl ⟨U,T⟩)) _
   have aO:BH m t x (Av m t x).2.2=ab:=by rw[EY m t (by rw[A];decide) (by rw[A];decide) (by rw[A];decide),Pn m t A];show (m.th t).pc+1=ab;omega
   clear R U T
  rotate_left
  focus
   obtain⟨V,bL,U,T,bd,bk,R⟩:=ax.Jg (t:=t) (r:=rn) (by rw[I.out.1];exact HT.out.1) bB I.out.2.1;simp only[hk] at bd bk R;subst bL;have cQ:(k:Int)<(nr:Int):=by have:=I.out.2.2.1;omega
   obtain⟨⟨bS,bV⟩,⟨bU,cg⟩,-⟩:=I.out.2.2.2.1;rw[aw] at bS bV;rw[aH] at bU cg;obtain⟨vl,bx⟩:∃v,(va+vb) % 1000=v:=⟨_,rfl⟩;have ee:XO vl=vl:=by rw[<-bx];unfold XO;omega
   obtain⟨sm,bJ⟩:∃v,va+vb=v:=⟨_,rfl⟩;have dO:XO (va+vb)=sm:=by rw[<-bJ];unfold XO;omega
   have eh:Int.tmod sm 1000=vl:=by rw[<-bx,bJ];exact Zn (by omega)
   obtain⟨F,D⟩:∃F,B.setCell ⟨V,k,none⟩ (.int .i64 vl)=F:=⟨_,rfl⟩;have aJ:DJ B G b0 b1 b2 (some ⟨g3,0,none⟩) b4 (some ⟨V,0,none⟩) p1 p2 p3 p4 p5 J z (Av m t x) F:=by
    rw[Pv m t A,bM,aw,aH,bx];refine⟨?_,?_,?_⟩
    ·have q:=R vl;rw[D] at q;exact q
    ·rw[<-D,Xt B ⟨V,k,none⟩ z _ (by show z≠V;omega)];exact aI
    ·rw[<-D];exact Ac.set (S:=λk=>(G<=k/\k<J)\/k=z) (Ac.refl B) (a:=⟨V,k,none⟩) (.inl (.inl ⟨U,T⟩)) _
   have aO:BH m t x (Av m t x).2.2=ab:=by rw[EY m t (by rw[A];decide) (by rw[A];decide) (by rw[A];decide),Pv m t A];show (m.th t).pc+1=ab;omega
   clear bS bV bU cg bJ bx;clear R U T
  rotate_left
  focus
   obtain⟨V,bL,U,T,bd,bk,R⟩:=ax.Jg (t:=t) (r:=rn) (by rw[I.out.1];exact HT.out.1) bB I.out.2.1;simp only[hk] at bd bk R;subst bL;have cQ:(k:Int)<(nr:Int):=by have:=I.out.2.2.1;omega
   obtain⟨⟨bS,bV⟩,⟨bU,cg⟩,-⟩:=I.out.2.2.2.1;rw[aw] at bS bV;rw[aH] at bU cg;obtain⟨vl,bx⟩:∃v,(va - vb+1000) % 1000=v:=⟨_,rfl⟩;have ee:XO vl=vl:=by rw[<-bx];unfold XO;omega
   obtain⟨sm,bJ⟩:∃v,va - vb=v:=⟨_,rfl⟩;obtain⟨sn,dH⟩:∃v,sm+1000=v:=⟨_,rfl⟩;have dO:XO (va - vb)=sm:=by rw[<-bJ];unfold XO;omega
   have fD:XO (sm+1000)=sn:=by rw[<-dH];unfold XO;omega
   have eh:Int.tmod sn 1000=vl:=by rw[<-bx,<-dH,<-bJ];exact Zn (by omega)
   obtain⟨F,D⟩:∃F,B.setCell ⟨V,k,none⟩ (.int .i64 vl)=F:=⟨_,rfl⟩;have aJ:DJ B G b0 b1 b2 (some ⟨g3,0,none⟩) b4 (some ⟨V,0,none⟩) p1 p2 p3 p4 p5 J z (Av m t x) F:=by
    rw[Pk m t A,bM,aw,aH,bx];refine⟨?_,?_,?_⟩
    ·have q:=R vl;rw[D] at q;exact q
    ·rw[<-D,Xt B ⟨V,k,none⟩ z _ (by show z≠V;omega)];exact aI
    ·rw[<-D];exact Ac.set (S:=λk=>(G<=k/\k<J)\/k=z) (Ac.refl B) (a:=⟨V,k,none⟩) (.inl (.inl ⟨U,T⟩)) _
   have aO:BH m t x (Av m t x).2.2=ab:=by rw[EY m t (by rw[A];decide) (by rw[A];decide) (by rw[A];decide),Pk m t A];show (m.th t).pc+1=ab;omega
   clear bS bV bU cg bJ bx dH;clear R U T
  rotate_left
  focus
   obtain⟨V,bL,U,T,bd,bk,R⟩:=ax.Jg (t:=t) (r:=rn) (by rw[I.out.1];exact HT.out.1) bB I.out.2.1;simp only[hk] at bd bk R;subst bL;have cQ:(k:Int)<(nr:Int):=by have:=I.out.2.2.1;omega
   obtain⟨⟨bS,bV⟩,⟨bU,cg⟩,-⟩:=I.out.2.2.2.1;rw[aw] at bS bV;rw[aH] at bU cg;obtain⟨vl,bx⟩:∃v,va*vb % 1000=v:=⟨_,rfl⟩;have ee:XO vl=vl:=by rw[<-bx];unfold XO;omega
   have er:=Int.mul_nonneg bS bU;have dR:=Nj (a:=va) (b:=vb) ⟨bS,bV⟩ ⟨bU,cg⟩;obtain⟨sm,bJ⟩:∃v,va*vb=v:=⟨_,rfl⟩;have dO:XO (va*vb)=sm:=by rw[bJ] at er dR |-;unfold XO;omega
   have eh:Int.tmod sm 1000=vl:=by rw[<-bx,bJ];exact Zn (by omega)
   clear er dR;obtain⟨F,D⟩:∃F,B.setCell ⟨V,k,none⟩ (.int .i64 vl)=F:=⟨_,rfl⟩;have aJ:DJ B G b0 b1 b2 (some ⟨g3,0,none⟩) b4 (some ⟨V,0,none⟩) p1 p2 p3 p4 p5 J z (Av m t x) F:=by
    rw[Pp m t A,bM,aw,aH,bx];refine⟨?_,?_,?_⟩
    ·have q:=R vl;rw[D] at q;exact q
    ·rw[<-D,Xt B ⟨V,k,none⟩ z _ (by show z≠V;omega)];exact aI
    ·rw[<-D];exact Ac.set (S:=λk=>(G<=k/\k<J)\/k=z) (Ac.refl B) (a:=⟨V,k,none⟩) (.inl (.inl ⟨U,T⟩)) _
   have aO:BH m t x (Av m t x).2.2=ab:=by rw[EY m t (by rw[A];decide) (by rw[A];decide) (by rw[A];decide),Pp m t A];show (m.th t).pc+1=ab;omega
   clear bS bV bU cg bJ bx;clear R U T
  rotate_left
  focus
   obtain⟨V,bL,U,T,bd,bk,R⟩:=ax.Jg (t:=t) (r:=rn) (by rw[I.out.1];exact HT.out.1) bB I.out.2.1;simp only[hk] at bd bk R;subst bL;have cQ:(k:Int)<(nr:Int):=by have:=I.out.2.2.1;have:=HT.out.1;omega
   have av:H<m.vars.length:=by rw[I.out.2.2.2.2.2.1];have:=hX.vr (.inl A);omega
   obtain⟨Q,bq,-,-,aX,-,-⟩:=ax.var (i:=H) av;subst bq;have cF:(H:Int)<(nv:Int):=by have:=I.out.2.2.2.2.2.1;omega
   obtain⟨lv,cd⟩:∃v,m.vars.getD H 0=v:=⟨_,rfl⟩;rw[cd] at aX;obtain⟨E,M⟩:∃E,B.drew.setCell ⟨V,k,none⟩ (.int .i64 lv)=E:=⟨_,rfl⟩;have N:Ac (λk=>(G<=k/\k<J)\/k=z) B E:=by rw[<-M];exact Ac.set (S:=λk=>(G<=k/\k<J)\/k=z) (Ac.refl B).drew (a:=⟨V,k,none⟩) (.inl (.inl ⟨U,T⟩)) _
   have X:Bh E G (some ⟨Q,0,none⟩) b1 b2 (some ⟨g3,0,none⟩) b4 (some ⟨V,0,none⟩) (m.Ae t {m.th t with regs:=(m.th t).regs.set rn lv}) p1 p2 p3 p4 p5 J:=by
    have q:=R lv;refine q.keep (λc _ _=>?_) ?_
    ·rw[<-M];rfl
    ·rw[<-M];exact Xd _
   have C:E.heap[z]?=some (.cells #[.int .i64 (t:Int),.int .i64 0,.int .i64 0,.int .i64 0] 169):=by
    rw[<-M,Xt B.drew ⟨V,k,none⟩ z _ (by show z≠V;omega)];exact aI
   obtain⟨eJ,cZ,-,-,cK,-,-⟩:=X.var (i:=H) av;simp only[YP,afL,and_true] at cZ;subst cZ;have cR:E.cell? ⟨Q,H,none⟩=some (.int .i64 (m.vars.getD H 0)):=cK;rw[cd] at cR;clear cK;obtain⟨e0,e1,e2,e3⟩:=BK C;obtain⟨aW,bb,a9,bh⟩:=(⟨Ap C 0,Ap C 1,Ap C 2,Ap C 3⟩:_/\_/\_/\_);obtain⟨j0,j1,j2,j3,j4,j5,j6,j7,j8⟩:=DA ((N.block bi (by omega) (by omega)).trans bu);rw[aG] at j6;obtain⟨q0,q1,q2,q3,q4,q5⟩:=Br ((N.block (w.heap.size+1) (by omega) (by omega)).trans cb);obtain⟨F,D⟩:∃F,((((E.setCell ⟨z,0,none⟩ (.int .i64 (t:Int))).setCell ⟨z,1,none⟩ (.int .i64 1)).setCell ⟨z,2,none⟩ (.int .i64 (H:Int))).setCell ⟨z,3,none⟩ (.int .i64 lv)).drew=F:=⟨_,rfl⟩;have O:Ac (λk=>k=z) E F:=by rw[<-D];exact Ac.drew (S:=λk=>k=z) (Hn _ _ _ _ (Ac.refl E) (.inl rfl))
   have zy:=N.size;have aJ:DJ B G (some ⟨Q,0,none⟩) b1 b2 (some ⟨g3,0,none⟩) b4 (some ⟨V,0,none⟩) p1 p2 p3 p4 p5 J z (Av m t x) F:=by
    rw[Pr m t A,bw,bM,aG,cd];refine⟨X.keep (λb q1 q2=>O.block b (by omega) (by omega)) O.size,?_,?_⟩
    ·rw[<-D];exact GK _ _ _ _ C
    ·exact N.trans (O.mono λk _ e=>.inr e)
   have aO:BH m t x (Av m t x).2.2=ab:=by rw[EY m t (by rw[A];decide) (by rw[A];decide) (by rw[A];decide),Pr m t A];show (m.th t).pc+1=ab;omega
   clear O zy X R U T av N C cd
  rotate_left
  focus
   have av:H<m.vars.length:=by rw[I.out.2.2.2.2.2.1];have:=hX.vr (.inr A);omega
   obtain⟨Q,bq,U,T,aX,bK,R⟩:=ax.var (i:=H) av;subst bq;have cF:(H:Int)<(nv:Int):=by have:=I.out.2.2.2.2.2.1;omega
   obtain⟨E,M⟩:∃E,B.setCell ⟨Q,H,none⟩ (.int .i64 va)=E:=⟨_,rfl⟩;have N:Ac (λk=>(G<=k/\k<J)\/k=z) B E:=by rw[<-M];exact Ac.set (S:=λk=>(G<=k/\k<J)\/k=z) (Ac.refl B) (a:=⟨Q,H,none⟩) (.inl (.inl ⟨U,T⟩)) _
   have X:=R va;rw[M] at X;have C:E.heap[z]?=some (.cells #[.int .i64 (t:Int),.int .i64 0,.int .i64 0,.int .i64 0] 169):=by
    rw[<-M,Xt B ⟨Q,H,none⟩ z _ (by show z≠Q;omega)];exact aI
   obtain⟨e0,e1,e2,e3⟩:=BK C;obtain⟨aW,bb,a9,bh⟩:=(⟨Ap C 0,Ap C 1,Ap C 2,Ap C 3⟩:_/\_/\_/\_);obtain⟨j0,j1,j2,j3,j4,j5,j6,j7,j8⟩:=DA ((N.block bi (by omega) (by omega)).trans bu);rw[aG] at j6;obtain⟨F,D⟩:∃F,(((E.setCell ⟨z,0,none⟩ (.int .i64 (t:Int))).setCell ⟨z,1,none⟩ (.int .i64 2)).setCell ⟨z,2,none⟩ (.int .i64 (H:Int))).setCell ⟨z,3,none⟩ (.int .i64 va)=F:=⟨_,rfl⟩;have O:Ac (λk=>k=z) E F:=by rw[<-D];exact Hn _ _ _ _ (Ac.refl E) (.inl rfl)
   have zy:=N.size;have aJ:DJ B G (some ⟨Q,0,none⟩) b1 b2 (some ⟨g3,0,none⟩) b4 b5 p1 p2 p3 p4 p5 J z (Av m t x) F:=by
    rw[Pl m t A,bw,aw,aG];refine⟨X.keep (λb q1 q2=>O.block b (by omega) (by omega)) O.size,?_,?_⟩
    ·rw[<-D];exact GK _ _ _ _ C
    ·exact N.trans (O.mono λk _ e=>.inr e)
   have aO:BH m t x (Av m t x).2.2=ab:=by rw[EY m t (by rw[A];decide) (by rw[A];decide) (by rw[A];decide),Pl m t A];show (m.th t).pc+1=ab;omega
   clear O zy X R U T av N C
  rotate_left
  focus
   obtain⟨V,bL,U,T,bd,bk,R⟩:=ax.Jg (t:=t) (r:=rn) (by rw[I.out.1];exact HT.out.1) bB I.out.2.1;simp only[hk] at bd bk R;subst bL;have cQ:(k:Int)<(nr:Int):=by have:=I.out.2.2.1;have:=HT.out.1;omega
   have av:H<m.flags.length:=by rw[I.out.2.2.2.2.2.2.1];have:=hX.fl (.inl A);omega
   obtain⟨Q,bq,-,-,aX,-,-⟩:=ax.flag (i:=H) av;subst bq;have cF:(H:Int)<(nf:Int):=by have:=I.out.2.2.2.2.2.2.1;omega
   obtain⟨lv,cd⟩:∃v,m.flags.getD H 0=v:=⟨_,rfl⟩;rw[cd] at aX;obtain⟨E,M⟩:∃E,B.drew.setCell ⟨V,k,none⟩ (.int .i64 lv)=E:=⟨_,rfl⟩;have N:Ac (λk=>(G<=k/\k<J)\/k=z) B E:=by rw[<-M];exact Ac.set (S:=λk=>(G<=k/\k<J)\/k=z) (Ac.refl B).drew (a:=⟨V,k,none⟩) (.inl (.inl ⟨U,T⟩)) _
   have X:Bh E G b0 (some ⟨Q,0,none⟩) b2 (some ⟨g3,0,none⟩) b4 (some ⟨V,0,none⟩) (m.Ae t {m.th t with regs:=(m.th t).regs.set rn lv}) p1 p2 p3 p4 p5 J:=by
    have q:=R lv;refine q.keep (λc _ _=>?_) ?_
    ·rw[<-M];rfl
    ·rw[<-M];exact Xd _
   have C:E.heap[z]?=some (.cells #[.int .i64 (t:Int),.int .i64 0,.int .i64 0,.int .i64 0] 169):=by
    rw[<-M,Xt B.drew ⟨V,k,none⟩ z _ (by show z≠V;omega)];exact aI
   obtain⟨eJ,cZ,-,-,cK,-,-⟩:=X.flag (i:=H) av;simp only[YP,afL,and_true] at cZ;subst cZ;have cR:E.cell? ⟨Q,H,none⟩=some (.int .i64 (m.flags.getD H 0)):=cK;rw[cd] at cR;clear cK;obtain⟨e0,e1,e2,e3⟩:=BK C;obtain⟨aW,bb,a9,bh⟩:=(⟨Ap C 0,Ap C 1,Ap C 2,Ap C 3⟩:_/\_/\_/\_);obtain⟨j0,j1,j2,j3,j4,j5,j6,j7,j8⟩:=DA ((N.block bi (by omega) (by omega)).trans bu);rw[aG] at j6;obtain⟨q0,q1,q2,q3,q4,q5⟩:=Br ((N.block (w.heap.size+1) (by omega) (by omega)).trans cb);obtain⟨F,D⟩:∃F,((((E.setCell ⟨z,0,none⟩ (.int .i64 (t:Int))).setCell ⟨z,1,none⟩ (.int .i64 3)).setCell ⟨z,2,none⟩ (.int .i64 (H:Int))).setCell ⟨z,3,none⟩ (.int .i64 lv)).drew=F:=⟨_,rfl⟩;have O:Ac (λk=>k=z) E F:=by rw[<-D];exact Ac.drew (S:=λk=>k=z) (Hn _ _ _ _ (Ac.refl E) (.inl rfl))
   have zy:=N.size;have aJ:DJ B G b0 (some ⟨Q,0,none⟩) b2 (some ⟨g3,0,none⟩) b4 (some ⟨V,0,none⟩) p1 p2 p3 p4 p5 J z (Av m t x) F:=by
    rw[Pt m t A,bw,bM,aG,cd];refine⟨X.keep (λb q1 q2=>O.block b (by omega) (by omega)) O.size,?_,?_⟩
    ·rw[<-D];exact GK _ _ _ _ C
    ·exact N.trans (O.mono λk _ e=>.inr e)
   have aO:BH m t x (Av m t x).2.2=ab:=by rw[EY m t (by rw[A];decide) (by rw[A];decide) (by rw[A];decide),Pt m t A];show (m.th t).pc+1=ab;omega
   clear O zy X R U T av N C cd
  rotate_left
  focus
   have av:H<m.flags.length:=by rw[I.out.2.2.2.2.2.2.1];have:=hX.fl (.inr A);omega
   obtain⟨Q,bq,U,T,aX,bK,R⟩:=ax.flag (i:=H) av;subst bq;have cF:(H:Int)<(nf:Int):=by have:=I.out.2.2.2.2.2.2.1;omega
   obtain⟨E,M⟩:∃E,B.setCell ⟨Q,H,none⟩ (.int .i64 va)=E:=⟨_,rfl⟩;have N:Ac (λk=>(G<=k/\k<J)\/k=z) B E:=by rw[<-M];exact Ac.set (S:=λk=>(G<=k/\k<J)\/k=z) (Ac.refl B) (a:=⟨Q,H,none⟩) (.inl (.inl ⟨U,T⟩)) _
   have X:=R va;rw[M] at X;have C:E.heap[z]?=some (.cells #[.int .i64 (t:Int),.int .i64 0,.int .i64 0,.int .i64 0] 169):=by
    rw[<-M,Xt B ⟨Q,H,none⟩ z _ (by show z≠Q;omega)];exact aI
   obtain⟨e0,e1,e2,e3⟩:=BK C;obtain⟨aW,bb,a9,bh⟩:=(⟨Ap C 0,Ap C 1,Ap C 2,Ap C 3⟩:_/\_/\_/\_);obtain⟨j0,j1,j2,j3,j4,j5,j6,j7,j8⟩:=DA ((N.block bi (by omega) (by omega)).trans bu);rw[aG] at j6;obtain⟨F,D⟩:∃F,(((E.setCell ⟨z,0,none⟩ (.int .i64 (t:Int))).setCell ⟨z,1,none⟩ (.int .i64 4)).setCell ⟨z,2,none⟩ (.int .i64 (H:Int))).setCell ⟨z,3,none⟩ (.int .i64 va)=F:=⟨_,rfl⟩;have O:Ac (λk=>k=z) E F:=by rw[<-D];exact Hn _ _ _ _ (Ac.refl E) (.inl rfl)
   have zy:=N.size;have aJ:DJ B G b0 (some ⟨Q,0,none⟩) b2 (some ⟨g3,0,none⟩) b4 b5 p1 p2 p3 p4 p5 J z (Av m t x) F:=by
    rw[Po m t A,bw,aw,aG];refine⟨X.keep (λb q1 q2=>O.block b (by omega) (by omega)) O.size,?_,?_⟩
    ·rw[<-D];exact GK _ _ _ _ C
    ·exact N.trans (O.mono λk _ e=>.inr e)
   have aO:BH m t x (Av m t x).2.2=ab:=by rw[EY m t (by rw[A];decide) (by rw[A];decide) (by rw[A];decide),Po m t A];show (m.th t).pc+1=ab;omega
   clear O zy X R U T av N C
  rotate_left
  focus
   have av:H<m.locks.length:=by rw[I.out.2.2.2.2.2.2.2];have:=hX.lk (.inl A);omega
   obtain⟨Q,bq,U,T,aX,bK,R⟩:=ax.lock (i:=H) av;subst bq;have cF:(H:Int)<(nl:Int):=by have:=I.out.2.2.2.2.2.2.2;omega
   obtain⟨E,M⟩:∃E,B.setCell ⟨Q,H,none⟩ (.int .i64 (t:Int))=E:=⟨_,rfl⟩;have N:Ac (λk=>(G<=k/\k<J)\/k=z) B E:=by rw[<-M];exact Ac.set (S:=λk=>(G<=k/\k<J)\/k=z) (Ac.refl B) (a:=⟨Q,H,none⟩) (.inl (.inl ⟨U,T⟩)) _
   have X:=R (t:Int);rw[M] at X;have C:E.heap[z]?=some (.cells #[.int .i64 (t:Int),.int .i64 0,.int .i64 0,.int .i64 0] 169):=by
    rw[<-M,Xt B ⟨Q,H,none⟩ z _ (by show z≠Q;omega)];exact aI
   obtain⟨e0,e1,e2,e3⟩:=BK C;obtain⟨aW,bb,a9,bh⟩:=(⟨Ap C 0,Ap C 1,Ap C 2,Ap C 3⟩:_/\_/\_/\_);obtain⟨j0,j1,j2,j3,j4,j5,j6,j7,j8⟩:=DA ((N.block bi (by omega) (by omega)).trans bu);rw[aG] at j6;obtain⟨F,D⟩:∃F,(((E.setCell ⟨z,0,none⟩ (.int .i64 (t:Int))).setCell ⟨z,1,none⟩ (.int .i64 5)).setCell ⟨z,2,none⟩ (.int .i64 (H:Int))).setCell ⟨z,3,none⟩ (.int .i64 0)=F:=⟨_,rfl⟩;have O:Ac (λk=>k=z) E F:=by rw[<-D];exact Hn _ _ _ _ (Ac.refl E) (.inl rfl)
   have zy:=N.size;have aJ:DJ B G b0 b1 (some ⟨Q,0,none⟩) (some ⟨g3,0,none⟩) b4 b5 p1 p2 p3 p4 p5 J z (Av m t x) F:=by
    rw[Pq m t A,bw,aG];refine⟨X.keep (λb q1 q2=>O.block b (by omega) (by omega)) O.size,?_,?_⟩
    ·rw[<-D];exact GK _ _ _ _ C
    ·exact N.trans (O.mono λk _ e=>.inr e)
   have aO:BH m t x (Av m t x).2.2=ab:=by rw[EY m t (by rw[A];decide) (by rw[A];decide) (by rw[A];decide),Pq m t A];show (m.th t).pc+1=ab;omega
   clear O zy X R U T av N C
  rotate_left
  focus
   have av:H<m.locks.length:=by rw[I.out.2.2.2.2.2.2.2];have:=hX.lk (.inr A);omega
   obtain⟨Q,bq,U,T,aX,bK,R⟩:=ax.lock (i:=H) av;subst bq;have cF:(H:Int)<(nl:Int):=by have:=I.out.2.2.2.2.2.2.2;omega
   obtain⟨E,M⟩:∃E,B.setCell ⟨Q,H,none⟩ (.int .i64 (-1))=E:=⟨_,rfl⟩;have N:Ac (λk=>(G<=k/\k<J)\/k=z) B E:=by rw[<-M];exact Ac.set (S:=λk=>(G<=k/\k<J)\/k=z) (Ac.refl B) (a:=⟨Q,H,none⟩) (.inl (.inl ⟨U,T⟩)) _
   have X:=R (-1);rw[M] at X;have C:E.heap[z]?=some (.cells #[.int .i64 (t:Int),.int .i64 0,.int .i64 0,.int .i64 0] 169):=by
    rw[<-M,Xt B ⟨Q,H,none⟩ z _ (by show z≠Q;omega)];exact aI
   obtain⟨e0,e1,e2,e3⟩:=BK C;obtain⟨aW,bb,a9,bh⟩:=(⟨Ap C 0,Ap C 1,Ap C 2,Ap C 3⟩:_/\_/\_/\_);obtain⟨j0,j1,j2,j3,j4,j5,j6,j7,j8⟩:=DA ((N.block bi (by omega) (by omega)).trans bu);rw[aG] at j6;obtain⟨F,D⟩:∃F,(((E.setCell ⟨z,0,none⟩ (.int .i64 (t:Int))).setCell ⟨z,1,none⟩ (.int .i64 6)).setCell ⟨z,2,none⟩ (.int .i64 (H:Int))).setCell ⟨z,3,none⟩ (.int .i64 0)=F:=⟨_,rfl⟩;have O:Ac (λk=>k=z) E F:=by rw[<-D];exact Hn _ _ _ _ (Ac.refl E) (.inl rfl)
   have zy:=N.size;have aJ:DJ B G b0 b1 (some ⟨Q,0,none⟩) (some ⟨g3,0,none⟩) b4 b5 p1 p2 p3 p4 p5 J z (Av m t x) F:=by
    rw[Pj m t A,bw,aG];refine⟨X.keep (λb q1 q2=>O.block b (by omega) (by omega)) O.size,?_,?_⟩
    ·rw[<-D];exact GK _ _ _ _ C
    ·exact N.trans (O.mono λk _ e=>.inr e)
   have aO:BH m t x (Av m t x).2.2=ab:=by rw[EY m t (by rw[A];decide) (by rw[A];decide) (by rw[A];decide),Pj m t A];show (m.th t).pc+1=ab;omega
   clear O zy X R U T av N C
  rotate_left
  focus
   have av:H<m.thr.length:=by rw[I.out.1];have:=hX.th (.inl A);omega
   obtain⟨Q,bq,U,T,aX,bK,R⟩:=ax.stat (i:=H) av;subst bq;have cF:(H:Int)<(nt:Int):=by have:=I.out.1;omega
   obtain⟨E,M⟩:∃E,B.setCell ⟨Q,H,none⟩ (.int .i64 1)=E:=⟨_,rfl⟩;have N:Ac (λk=>(G<=k/\k<J)\/k=z) B E:=by rw[<-M];exact Ac.set (S:=λk=>(G<=k/\k<J)\/k=z) (Ac.refl B) (a:=⟨Q,H,none⟩) (.inl (.inl ⟨U,T⟩)) _
   have X:=R 1;rw[M] at X;have C:E.heap[z]?=some (.cells #[.int .i64 (t:Int),.int .i64 0,.int .i64 0,.int .i64 0] 169):=by
    rw[<-M,Xt B ⟨Q,H,none⟩ z _ (by show z≠Q;omega)];exact aI
   obtain⟨e0,e1,e2,e3⟩:=BK C;obtain⟨aW,bb,a9,bh⟩:=(⟨Ap C 0,Ap C 1,Ap C 2,Ap C 3⟩:_/\_/\_/\_);obtain⟨j0,j1,j2,j3,j4,j5,j6,j7,j8⟩:=DA ((N.block bi (by omega) (by omega)).trans bu);rw[aG] at j6;obtain⟨F,D⟩:∃F,(((E.setCell ⟨z,0,none⟩ (.int .i64 (t:Int))).setCell ⟨z,1,none⟩ (.int .i64 7)).setCell ⟨z,2,none⟩ (.int .i64 (H:Int))).setCell ⟨z,3,none⟩ (.int .i64 0)=F:=⟨_,rfl⟩;have O:Ac (λk=>k=z) E F:=by rw[<-D];exact Hn _ _ _ _ (Ac.refl E) (.inl rfl)
   have zy:=N.size;have aJ:DJ B G b0 b1 b2 (some ⟨g3,0,none⟩) (some ⟨Q,0,none⟩) b5 p1 p2 p3 p4 p5 J z (Av m t x) F:=by
    rw[Pm m t A,bw,aG];refine⟨X.keep (λb q1 q2=>O.block b (by omega) (by omega)) O.size,?_,?_⟩
    ·rw[<-D];exact GK _ _ _ _ C
    ·exact N.trans (O.mono λk _ e=>.inr e)
   have aO:BH m t x (Av m t x).2.2=ab:=by rw[EY m t (by rw[A];decide) (by rw[A];decide) (by rw[A];decide),Pm m t A];show (m.th t).pc+1=ab;omega
   clear O zy X R U T av N C
  rotate_left
  focus
   have N:Ac (λk=>(G<=k/\k<J)\/k=z) B B:=Ac.refl B;have X:=ax;have C:=aI;obtain⟨e0,e1,e2,e3⟩:=BK C;obtain⟨aW,bb,a9,bh⟩:=(⟨Ap C 0,Ap C 1,Ap C 2,Ap C 3⟩:_/\_/\_/\_);obtain⟨j0,j1,j2,j3,j4,j5,j6,j7,j8⟩:=DA ((N.block bi (by omega) (by omega)).trans bu);rw[aG] at j6;obtain⟨F,D⟩:∃F,(((B.setCell ⟨z,0,none⟩ (.int .i64 (t:Int))).setCell ⟨z,1,none⟩ (.int .i64 8)).setCell ⟨z,2,none⟩ (.int .i64 (H:Int))).setCell ⟨z,3,none⟩ (.int .i64 0)=F:=⟨_,rfl⟩;have O:Ac (λk=>k=z) B F:=by rw[<-D];exact Hn _ _ _ _ (Ac.refl B) (.inl rfl)
   have zy:=N.size;have aJ:DJ B G b0 b1 b2 (some ⟨g3,0,none⟩) b4 b5 p1 p2 p3 p4 p5 J z (Av m t x) F:=by
    rw[Ps m t A,aG];refine⟨X.keep (λb q1 q2=>O.block b (by omega) (by omega)) O.size,?_,?_⟩
    ·rw[<-D];exact GK _ _ _ _ C
    ·exact N.trans (O.mono λk _ e=>.inr e)
   have aO:BH m t x (Av m t x).2.2=ab:=by rw[EY m t (by rw[A];decide) (by rw[A];decide) (by rw[A];decide),Ps m t A];show (m.th t).pc+1=ab;omega
   clear O zy X N C
  rotate_left
  focus
   have aJ:DJ B G b0 b1 b2 (some ⟨g3,0,none⟩) b4 b5 p1 p2 p3 p4 p5 J z (Av m t x) B:=by
    rw[Vu m t A]
    exact⟨ax,aI,Ac.refl B⟩
   have aO:BH m t x (Av m t x).2.2=H:=by rw[UW m t A];exact bw
  rotate_left
  focus
   by_cases hq:va=vb
   focus
    have aJ:DJ B G b0 b1 b2 (some ⟨g3,0,none⟩) b4 b5 p1 p2 p3 p4 p5 J z (Av m t x) B:=by
     rw[Ms m t A]
     exact⟨ax,aI,Ac.refl B⟩
    have du:(va == vb)=true:=by simpa using hq
    have aO:BH m t x (Av m t x).2.2=H:=by rw[Pc m t A,aw,aH,if_pos hq];exact bw
   rotate_left
   focus
    have aJ:DJ B G b0 b1 b2 (some ⟨g3,0,none⟩) b4 b5 p1 p2 p3 p4 p5 J z (Av m t x) B:=by
     rw[Ms m t A]
     exact⟨ax,aI,Ac.refl B⟩
    have du:(va == vb)=false:=by simpa using hq
    have aO:BH m t x (Av m t x).2.2=ab:=by rw[Pc m t A,aw,aH,if_neg hq,Ms m t A];show (m.th t).pc+1=ab;omega
   rotate_left
  rotate_left 2
  focus
   by_cases hq:va<vb
   focus
    have aJ:DJ B G b0 b1 b2 (some ⟨g3,0,none⟩) b4 b5 p1 p2 p3 p4 p5 J z (Av m t x) B:=by
     rw[Mr m t A]
     exact⟨ax,aI,Ac.refl B⟩
    have du:decide (va<vb)=true:=by simpa using hq
    have aO:BH m t x (Av m t x).2.2=H:=by rw[Pb m t A,aw,aH,if_pos hq];exact bw
   rotate_left
   focus
    have aJ:DJ B G b0 b1 b2 (some ⟨g3,0,none⟩) b4 b5 p1 p2 p3 p4 p5 J z (Av m t x) B:=by
     rw[Mr m t A]
     exact⟨ax,aI,Ac.refl B⟩
    have du:decide (va<vb)=false:=by simpa using hq
    have aO:BH m t x (Av m t x).2.2=ab:=by rw[Pb m t A,aw,aH,if_neg hq,Mr m t A];show (m.th t).pc+1=ab;omega
   rotate_left
  rotate_left 2
  focus
   have aJ:DJ B G b0 b1 b2 (some ⟨g3,0,none⟩) b4 b5 p1 p2 p3 p4 p5 J z (Av m t x) B:=by
    rw[Pu m t A]
    exact⟨ax,aI,Ac.refl B⟩
   have aO:BH m t x (Av m t x).2.2=ab:=by rw[EY m t (by rw[A];decide) (by rw[A];decide) (by rw[A];decide),Pu m t A];show (m.th t).pc+1=ab;omega
  rotate_left
  focus
   have av:t<m.thr.length:=by rw[I.out.1];exact HT.out.1
   obtain⟨Q,bq,U,T,aX,bK,R⟩:=ax.stat (i:=t) av;subst bq;obtain⟨E,M⟩:∃E,B.setCell ⟨Q,t,none⟩ (.int .i64 2)=E:=⟨_,rfl⟩;have N:Ac (λk=>(G<=k/\k<J)\/k=z) B E:=by rw[<-M];exact Ac.set (S:=λk=>(G<=k/\k<J)\/k=z) (Ac.refl B) (a:=⟨Q,t,none⟩) (.inl (.inl ⟨U,T⟩)) _
   have X:=R 2;rw[M] at X;have C:E.heap[z]?=some (.cells #[.int .i64 (t:Int),.int .i64 0,.int .i64 0,.int .i64 0] 169):=by
    rw[<-M,Xt B ⟨Q,t,none⟩ z _ (by show z≠Q;omega)];exact aI
   obtain⟨e0,e1,e2,e3⟩:=BK C;obtain⟨aW,bb,a9,bh⟩:=(⟨Ap C 0,Ap C 1,Ap C 2,Ap C 3⟩:_/\_/\_/\_);obtain⟨j0,j1,j2,j3,j4,j5,j6,j7,j8⟩:=DA ((N.block bi (by omega) (by omega)).trans bu);rw[aG] at j6;obtain⟨F,D⟩:∃F,(((E.setCell ⟨z,0,none⟩ (.int .i64 (t:Int))).setCell ⟨z,1,none⟩ (.int .i64 10)).setCell ⟨z,2,none⟩ (.int .i64 0)).setCell ⟨z,3,none⟩ (.int .i64 0)=F:=⟨_,rfl⟩;have O:Ac (λk=>k=z) E F:=by rw[<-D];exact Hn _ _ _ _ (Ac.refl E) (.inl rfl)
   have zy:=N.size;have aJ:DJ B G b0 b1 b2 (some ⟨g3,0,none⟩) (some ⟨Q,0,none⟩) b5 p1 p2 p3 p4 p5 J z (Av m t x) F:=by
    rw[KO m t A];refine⟨X.keep (λb q1 q2=>O.block b (by omega) (by omega)) O.size,?_,?_⟩
    ·rw[<-D];exact GK _ _ _ _ C
    ·exact N.trans (O.mono λk _ e=>.inr e)
   have aO:BH m t x (Av m t x).2.2=pc:=by rw[EY m t (by rw[A];decide) (by rw[A];decide) (by rw[A];decide),KO m t A];exact cl
   obtain⟨fL,d6,-,-,d8,-,-⟩:=aJ.rows.pc (i:=t) (by rw[KO m t A];show t<(m.Ae t _).thr.length;rw[Ga,I.out.1];exact HT.out.1);simp only[YP,afL,and_true] at d6;subst d6;have dW:((Av m t x).1.th t).pc=pc:=by rw[KO m t A];show ((m.Ae t {m.th t with ph:=2}).th t).pc=pc;rw[Fr m t t _ av,if_pos rfl];exact cl
   rw[dW] at d8;have d9:=aJ.keep;obtain⟨-,-,-,eV,-,-⟩:=Br ((d9.block (w.heap.size+1) (by omega) (by omega)).trans cb);clear d9 dW;clear O zy X R U T av N C
  rotate_left
  all_goals
   obtain⟨W8,U1,U2,pv,w0,fq,fK,fk,fN,fy,fu,fs,fS,fw,c0,c1,c2,c3,c4,c5,dK,fd,eK,ff,ei,em,dY,ep,S8,S9,fe,HS,HF⟩:=Vv aJ aO I.out HQ.out HT.out.1 cb bu cO cW cT bl;rw[A] at ei;rw[aG] at em;clear HQ aJ aO aw aH cN aG bB bM bw hk cl cX hX ax cb bu cO cW aI cT bl H7 HN I HD HT cn ct dX eA eB
  focus
   unfold Eo bs at *
   go_upto_region 48 with fail
   try rw[D]
   clear D aP aS bd bk s0 s1 s2 s3 Y Z i0 i1 i2 i3 i4 i5 i6 i7 i8
  rotate_left
  focus
   unfold Er bs at *
   go_upto_region 48 with fail
   try rw[D]
   clear D aP aS bd bk s0 s1 s2 s3 Y Z i0 i1 i2 i3 i4 i5 i6 i7 i8
  rotate_left
  focus
   unfold En bs at *
   go_upto_region 48 with fail
   try rw[D]
   clear D aP aS bd bk s0 s1 s2 s3 Y Z i0 i1 i2 i3 i4 i5 i6 i7 i8
  rotate_left
  focus
   unfold Ep bs at *
   go_upto_region 48 with fail
   try rw[D]
   clear D aP aS bd bk s0 s1 s2 s3 Y Z i0 i1 i2 i3 i4 i5 i6 i7 i8
  rotate_left
  focus
   unfold Bu bs at *
   go_upto_region 22 with fail
   go_region
   all_goals
    go_upto_region 23 with fail
    try rw[M]
    clear M aP aS bd bk aX s0 s1 s2 s3 Y Z i0 i1 i2 i3 i4 i5 i6 i7 i8
    go_region
   all_goals
    go_upto_region 48 with fail
    try rw[D]
    clear D cR e0 e1 e2 e3 aW bb a9 bh j0 j1 j2 j3 j4 j5 j6 j7 j8 q0 q1 q2 q3 q4 q5
  rotate_left
  focus
   unfold AM bs at *
   go_upto_region 26 with fail
   try rw[M]
   clear M aP aS aX bK s0 s1 s2 s3 Y Z i0 i1 i2 i3 i4 i5 i6 i7 i8
   go_upto_region 48 with fail
   try rw[D]
   clear D e0 e1 e2 e3 aW bb a9 bh j0 j1 j2 j3 j4 j5 j6 j7 j8
  rotate_left
  focus
   unfold Ec bs at *
   go_upto_region 28 with fail
   go_region
   all_goals
    go_upto_region 29 with fail
    try rw[M]
    clear M aP aS bd bk aX s0 s1 s2 s3 Y Z i0 i1 i2 i3 i4 i5 i6 i7 i8
    go_region
   all_goals
    go_upto_region 48 with fail
    try rw[D]
    clear D cR e0 e1 e2 e3 aW bb a9 bh j0 j1 j2 j3 j4 j5 j6 j7 j8 q0 q1 q2 q3 q4 q5
  rotate_left
  focus
   unfold Eb bs at *
   go_upto_region 32 with fail
   try rw[M]
   clear M aP aS aX bK s0 s1 s2 s3 Y Z i0 i1 i2 i3 i4 i5 i6 i7 i8
   go_upto_region 48 with fail
   try rw[D]
   clear D e0 e1 e2 e3 aW bb a9 bh j0 j1 j2 j3 j4 j5 j6 j7 j8
  rotate_left
  focus
   unfold BP bs at *
   go_upto_region 35 with fail
   try rw[M]
   clear M aP aS aX bK s0 s1 s2 s3 Y Z i0 i1 i2 i3 i4 i5 i6 i7 i8
   go_upto_region 48 with fail
   try rw[D]
   clear D e0 e1 e2 e3 aW bb a9 bh j0 j1 j2 j3 j4 j5 j6 j7 j8
  rotate_left
  focus
   unfold CI bs at *
   go_upto_region 38 with fail
   try rw[M]
   clear M aP aS aX bK s0 s1 s2 s3 Y Z i0 i1 i2 i3 i4 i5 i6 i7 i8
   go_upto_region 48 with fail
   try rw[D]
   clear D e0 e1 e2 e3 aW bb a9 bh j0 j1 j2 j3 j4 j5 j6 j7 j8
  rotate_left
  focus
   unfold BJ bs at *
   go_upto_region 41 with fail
   try rw[M]
   clear M aP aS aX bK s0 s1 s2 s3 Y Z i0 i1 i2 i3 i4 i5 i6 i7 i8
   go_upto_region 48 with fail
   try rw[D]
   clear D e0 e1 e2 e3 aW bb a9 bh j0 j1 j2 j3 j4 j5 j6 j7 j8
  rotate_left
  focus
   unfold BQ bs at *
   go_upto_region 43 with fail
   skip
   clear aP aS s0 s1 s2 s3 Y Z i0 i1 i2 i3 i4 i5 i6 i7 i8
   go_upto_region 48 with fail
   try rw[D]
   clear D e0 e1 e2 e3 aW bb a9 bh j0 j1 j2 j3 j4 j5 j6 j7 j8
  rotate_left
  focus
   unfold Dg bs at *;clear aP aS s0 s1 s2 s3 Y Z i1 i2 i3 i4 i5 i7 i8
  rotate_left
  focus
   unfold CX bs at *;clear aP aS s0 s1 s2 s3 Y Z i1 i2 i3 i4 i5 i7 i8
  rotate_left
  focus
   unfold CX bs at *;clear aP aS s0 s1 s2 s3 Y Z i1 i2 i3 i4 i5 i7 i8
  rotate_left
  focus
   unfold CW bs at *;clear aP aS s0 s1 s2 s3 Y Z i1 i2 i3 i4 i5 i7 i8
  rotate_left
  focus
   unfold CW bs at *;clear aP aS s0 s1 s2 s3 Y Z i1 i2 i3 i4 i5 i7 i8
  rotate_left
  focus
   unfold Dh bs at *;clear aP aS s0 s1 s2 s3 Y Z i1 i2 i3 i4 i5 i7 i8
  rotate_left
  focus
   unfold Eq bs at *
   go_upto_region 46 with fail
   try rw[M]
   clear M aP aS aX bK s0 s1 s2 s3 Y Z i0 i1 i2 i3 i4 i5 i6 i7 i8
   go_upto_region 47 with fail
   try rw[D]
   clear D e0 e1 e2 e3 aW bb a9 bh j0 j1 j2 j3 j4 j5 j6 j7 j8
   go_upto_region 48 with fail
   clear eV d8
  rotate_left
  all_goals
   go_upto_region 51 with fail
   try rw[dK]
   clear dK fd eK ff ei em;refine wp_region_held_drew (S:=IY w z (.slice c0 nv d0) (.slice c1 nf d1) (.slice c2 nl d2) (.slice c3 nt d3) (.slice c4 nt d4) (.slice c5 nr d5) re) (by kernel_rfl) S8.out (λdh=>?_);refine tk 0 dh ?_;refine tk 1 dh ?_;refine rd 2 (λK hK=>?_);refine Fq _ _ _ rfl (w.heap.size+1+1) 0 #[.slice c0 nv d0,.slice c1 nf d1,.slice c2 nl d2,.slice c3 nt d3,.slice c4 nt d4,.slice c5 nr d5] rfl rfl (Mx HS.out.1) (λj _=>Ap HS.out.1 _) Tryz.sizeSt Lk ?_;rw[dY.out];refine hK.out _ _ S9.out (λdh=>?_);clear hK K
   try simp only[Act.put,sq]
   refine rd 3 (λK hK=>?_);refine Fq _ _ _ rfl (w.heap.size+1+1+1) 0 #[.int .i64 re.t,.int .i64 re.k,.int .i64 re.o,.int .i64 re.v] rfl rfl (PP HS.out.2) (λj _=>Ap HS.out.2 _) Tryz.sizeRe Rq ?_;rw[ep.out];refine hK.out _ _ fe.out (λdh=>?_);clear hK K
   try simp only[Act.put,sq]
   refine wpAnyH_done (by kernel_rfl) ?_ _;have eY := ‹∀(a:Act) (w:Xh),Code.wp Tryz.prog Code.ret _ a w->_›;refine eY _ _ (wp_ret ?_);obtain⟨k1,k2,k3,k4,k5⟩:=HF.out;exact XJ (OZ rfl rfl rfl k1 k2) rfl ⟨_,_,_,_,_,_,⟨_,_,_,_,_,_,rfl⟩,k5,k3,k4⟩
end
end Go.Proofs.YtdcacoifehkioaaGreatDoor
