import Derived.Test.YtdcacoifehkioaaGreatDoorExH3
import Derived.Test.YtdcacoifehkioaaGreatDoorExH32
import Derived.Deep.Cut
import Derived.Deep.DeepCutAuto
open Go renaming World->Xh,Calls->XX,bodyPost_ret->XJ,wp_region_held_drew->Xx,wpAnyH_done->Yd,heap_setCell_other->Xt
open Go.RowKit renaming Below->Xm,wrap64->XO
open Nat renaming le_refl->Xd,zero_le->Xw,sub_lt_sub_left->Xl,lt_succ_self->Xn,le_trans->Xu
open List renaming getElem?_eq_getElem->Xe,mem_of_getElem?->XA,take_of_length_le->XM,length_append->Xb
open Array renaming getElem?_eq_some_iff->Xa
open Go.Act renaming put->XF
set_option maxRecDepth 100000
set_option maxHeartbeats 8000000
set_option linter.unusedVariables false
set_option linter.unusedSimpArgs false
namespace Go.Proofs.YtdcacoifehkioaaGreatDoor
open Go.RowKit Go.Shelf Go.Proofs.Cod
section
variable {w w':Xh} {nv nf nl nt nr:Nat} {P:RP} {TV:List (Value×Value)} {x1 x2 x3 x4:Option Addr} {z1 z2 z3 z4:Nat}
theorem aah {B:Nat} (ht:Ck w B) (hB:B<=w.heap.size) (hQ:DM w (.slice x1 nv z1) (.slice x2 nf z2) (.slice x3 nl z3) (.slice x4 nt z4) P TV) (bq:P.thr.length=nt) (h1:P.vs.length=nv) (h2:P.fs.length=nf) (h3:P.ls.length=nl) (cw:nt*4=nr) (hf:Cs (AD P)) (hN:DX (AD P)) (cC:∀m,BT (AD P) m->(Aj (AD P) m).length<4294967000) {most:Int} (c9 : -9223372036854775808<=most/\most<=9223372036854775807) :
 XX Tryz.prog 9 #[.agg #[.slice x1 nv z1,.slice x2 nf z2,.slice x3 nl z3,.slice x4 nt z4],.int .i64 most] w (IZ w ⟨nv,nf,nl,nt,nr⟩ (AD P) most):=by
 obtain⟨W,hW⟩:∃W,(w.alloc (.cells #[.slice x1 nv z1,.slice x2 nf z2,.slice x3 nl z3,.slice x4 nt z4] 28)).alloc (.cells #[.int .i64 0,.slice none 0 0,.bool false,.bool false,.slice none 0 0] 38)=W:=⟨_,rfl⟩;obtain⟨aZ,k1,k2,hz⟩:=FK _ _ _ hW;obtain⟨y0,y1,y2,y3,y4⟩:=Dr k2;obtain⟨f0,f1,f2,f3,f4⟩:=FO k2
 by_cases bM:BZ most
 rotate_left
 ·have HF:Hid (IZ w ⟨nv,nf,nl,nt,nr⟩ (AD P) most (.returned (.tuple #[.agg (Gb 0 false false),.int .i64 8])) (((((W.setCell ⟨w.heap.size+1,0,none⟩ (.int .i64 0)).setCell ⟨w.heap.size+1,1,none⟩ (.slice none 0 0)).setCell ⟨w.heap.size+1,2,none⟩ (.bool false)).setCell ⟨w.heap.size+1,3,none⟩ (.bool false)).setCell ⟨w.heap.size+1,4,none⟩ (.slice none 0 0))/\(((((W.setCell ⟨w.heap.size+1,0,none⟩ (.int .i64 0)).setCell ⟨w.heap.size+1,1,none⟩ (.slice none 0 0)).setCell ⟨w.heap.size+1,2,none⟩ (.bool false)).setCell ⟨w.heap.size+1,3,none⟩ (.bool false)).setCell ⟨w.heap.size+1,4,none⟩ (.slice none 0 0)).heap[w.heap.size+1]?=some (.cells #[.int .i64 0,.slice none 0 0,.bool false,.bool false,.slice none 0 0] 38)):=⟨⟨Oo _ _ _ _ _ aZ (by omega),.inl ⟨bM,rfl⟩⟩,NS _ _ _ _ _ k2⟩;unfold BZ at bM
  by_cases e1:most<1
  ·clear aZ k1 k2 hz hQ bq h1 h2 h3 cw hf hN cC c9 bM ht hB
   go_enter Tryz.func9,Tryz.ntmps9
   go_upto_region 1 with fail
   try rw[hW]
   clear hW
   go_wp2_with fail
   exact XJ (KW rfl rfl rfl HF.out.2) rfl HF.out.1
  ·have e2:20000<most:=by omega
   clear aZ k1 k2 hz hQ bq h1 h2 h3 cw hf hN cC c9 bM ht hB
   go_enter Tryz.func9,Tryz.ntmps9
   go_upto_region 1 with fail
   try rw[hW]
   clear hW
   go_wp2_with fail
   exact XJ (KW rfl rfl rfl HF.out.2) rfl HF.out.1
 have dZ:=bM;unfold BZ at dZ;obtain⟨mn,rfl⟩:∃mn:Nat,most=mn:=⟨most.toNat,by omega⟩;have m1:¬(mn:Int)<1:=by omega
 have m2:¬(20000:Int)<(mn:Int):=by omega
 have dQ:∀u,Xm (w.heap.size+1) W u->Xm w.heap.size w u:=λu H=>aZ.trans (H.mono (by omega));have dJ:(Ai P).length=nt:=by unfold Ai;rw[List.length_map];exact bq
 have cA:Ej nv nf nl (Ai P):=by
  have:=hf.fit;rw[<-h1,<-h2,<-h3];exact this
 have h4:nt<=4:=by have:=cA.four;omega
 have aO:nv<=4:=by rw[<-h1];exact hf.v
 have bU:∀u,Xm w.heap.size w u->DM u (.slice x1 nv z1) (.slice x2 nf z2) (.slice x3 nl z3) (.slice x4 nt z4) P TV/\Ck u B/\B<=u.heap.size:=λu H=>⟨hQ.below H,ht.keep (H.mono hB),by have:=H.size;omega⟩
 have dr:=Ww (nr:=nr) (ht.keep (aZ.mono hB)) (by have:=aZ.size;omega) (hQ.below aZ) bq h1 h2 h3 cw hf hN (λm U=>Nat.lt_trans (cC m U) (by decide)) (most:=mn) (by omega) (by omega);have d2:Hid (∀(u:Xh) (s:S6) (m:MS),Xm w.heap.size w u->Dl u s ⟨nv,nf,nl,nt,nr⟩ m->AZ nv nf nl (Ai P) m->XX Tryz.prog 33 #[.agg #[.slice x1 nv z1,.slice x2 nf z2,.slice x3 nl z3,.slice x4 nt z4],.agg #[.slice s.a0 nv s.c0,.slice s.a1 nf s.c1,.slice s.a2 nl s.c2,.slice s.a3 nt s.c3,.slice s.a4 nt s.c4,.slice s.a5 nr s.c5]] u λe w'=>∃v,e = .returned v/\w'.ownsRow u.heap.size 3 1 v (AG (Ai P) m).length ((AG (Ai P) m).map Cq)/\Xm u.heap.size u w'):=λu s m H hd hM=>MI (bU u H).1 bq hd.Ip hM cA;have es:Hid (∀(u:Xh) (s:S6) (m:MS),Dl u s ⟨nv,nf,nl,nt,nr⟩ m->XX Tryz.prog 34 #[.agg #[.slice s.a0 nv s.c0,.slice s.a1 nf s.c1,.slice s.a2 nl s.c2,.slice s.a3 nt s.c3,.slice s.a4 nt s.c4,.slice s.a5 nr s.c5]] u λe w'=>e = .returned (.bool (decide (0<Au m)))/\Xm u.heap.size u w'):=λu s m hd=>Qr hd.Ip h4;have dV:Hid (∀(u:Xh) (s:S6) (m:MS),Xm w.heap.size w u->Dl u s ⟨nv,nf,nl,nt,nr⟩ m->AZ nv nf nl (Ai P) m->XX Tryz.prog 36 #[.agg #[.slice x1 nv z1,.slice x2 nf z2,.slice x3 nl z3,.slice x4 nt z4],.agg #[.slice s.a0 nv s.c0,.slice s.a1 nf s.c1,.slice s.a2 nl s.c2,.slice s.a3 nt s.c3,.slice s.a4 nt s.c4,.slice s.a5 nr s.c5]] u λe w'=>e = .returned (.string (bs (Bl (AD P) m)))/\Xm u.heap.size u w'):=λu s m H hd hM=>WF (bU u H).2.1 (bU u H).2.2 (bU u H).1 bq h1 h2 h3 hd.Ip hM hf hN;have dW:Hid (∀(u:Xh) (s:S6) (m:MS) (x:Int),Xm w.heap.size w u->Dl u s ⟨nv,nf,nl,nt,nr⟩ m->AZ nv nf nl (Ai P) m->XX Tryz.prog 37 #[.agg #[.slice x1 nv z1,.slice x2 nf z2,.slice x3 nl z3,.slice x4 nt z4],.agg #[.slice s.a0 nv s.c0,.slice s.a1 nf s.c1,.slice s.a2 nl s.c2,.slice s.a3 nt s.c3,.slice s.a4 nt s.c4,.slice s.a5 nr s.c5],.int .i64 x] u λe w'=>e = .returned (.bool (DY (Ai P) m x))/\Xm u.heap.size u w'):=λu s m x H hd hM=>WB x (bU u H).1 bq hd.Ip hM cA;have cJ:∀m,AZ nv nf nl (Ai P) m->(Bl (AD P) m).length<4294967296:=λm hM=>by
  have cz:BT (AD P) m:=by
   show AZ P.vs.length P.fs.length P.ls.length (Ai P) m;rw[h1,h2,h3];exact hM
  exact aa9 hN cz hf
 have cE:Hid (∀u,Xm (w.heap.size+1) W u->(u.cell? ⟨w.heap.size,0,none⟩=some (.slice x1 nv z1)/\u.cell? ⟨w.heap.size,1,none⟩=some (.slice x2 nf z2)/\u.cell? ⟨w.heap.size,2,none⟩=some (.slice x3 nl z3)/\u.cell? ⟨w.heap.size,3,none⟩=some (.slice x4 nt z4))):=λu H=>BK ((H.block _ (by omega)).trans k1);have dg:(AD P).vs.length=nv:=h1;have cy:(AD P).C=Ai P:=rfl;obtain⟨p,hp⟩:∃p,AD P=p:=⟨_,rfl⟩;obtain⟨C,hC⟩:∃C,Ai P=C:=⟨_,rfl⟩;rw[hp] at cy dr cJ dg |-;rw[hC] at cy dJ cJ;simp only[hp,hC] at d2 dV dW;obtain⟨q0,q1,q2,q3⟩:=cE.out W (Below.refl _ _);have V:=Aa (⟨aZ,hz,dQ,k2,bM⟩:_/\_/\_/\_/\_);have HK:=Aa (⟨cJ,dg,cy,dJ,h4,aO⟩:_/\_/\_/\_/\_/\_);clear aZ k1 k2 hz bM dZ dQ dJ cA h4 aO bU cJ dg cy hp hC hQ bq h1 h2 h3 cw hf hN cC c9 ht hB
 go_enter Tryz.func9,Tryz.ntmps9
 go_upto_region 1 with fail
 try rw[hW]
 clear hW
 go_wp2_with fail
 refine dr.mono ?_;rintro e w1 ⟨bK,h⟩;clear dr q0 q1 q2 q3 y0 y1 y2 y3 y4 f0 f1 f2 f3 f4 m1 m2;have kZ:=(bK.block (w.heap.size+1) (by have:=V.out.2.1;omega)).trans V.out.2.2.2.1
 rcases h with⟨dO,rfl⟩|⟨r,v,S,aB,rfl,hA,ax,an⟩
 ·have HF:Hid (IZ w ⟨nv,nf,nl,nt,nr⟩ p mn (.returned (.tuple #[.agg (Gb 0 false false),.int .i64 4])) (((((w1.setCell ⟨w.heap.size+1,0,none⟩ (.int .i64 0)).setCell ⟨w.heap.size+1,1,none⟩ (.slice none 0 0)).setCell ⟨w.heap.size+1,2,none⟩ (.bool false)).setCell ⟨w.heap.size+1,3,none⟩ (.bool false)).setCell ⟨w.heap.size+1,4,none⟩ (.slice none 0 0))/\(((((w1.setCell ⟨w.heap.size+1,0,none⟩ (.int .i64 0)).setCell ⟨w.heap.size+1,1,none⟩ (.slice none 0 0)).setCell ⟨w.heap.size+1,2,none⟩ (.bool false)).setCell ⟨w.heap.size+1,3,none⟩ (.bool false)).setCell ⟨w.heap.size+1,4,none⟩ (.slice none 0 0)).heap[w.heap.size+1]?=some (.cells #[.int .i64 0,.slice none 0 0,.bool false,.bool false,.slice none 0 0] 38)):=⟨⟨Oo _ _ _ _ _ (V.out.1.trans (bK.mono V.out.1.size)) (by omega),.inr (.inl ⟨V.out.2.2.2.2,by rw[Int.toNat_natCast];exact dO,rfl⟩)⟩,NS _ _ _ _ _ kZ⟩;obtain⟨y0,y1,y2,y3,y4⟩:=Dr kZ;obtain⟨f0,f1,f2,f3,f4⟩:=FO kZ;clear bK dO kZ
  go_wp2_with fail
  exact XJ (KW rfl rfl rfl HF.out.2) rfl HF.out.1
 ·obtain⟨va,ex,rfl⟩:=At hA.row;obtain⟨L,hL⟩:∃L,r.length=L:=⟨_,rfl⟩;rw[hL] at hA ax |-;obtain⟨A,bN⟩:∃A,w1.alloc (.cells #[.int .i64 L,.slice none 0 0,.bool false,.bool false,.slice none 0 0] 38)=A:=⟨_,rfl⟩;have da:Xm w1.heap.size w1 A:=by rw[<-bN];exact(Below.refl _ _).alloc (Xd _) _
  have c:A.heap[w1.heap.size]?=some (.cells #[.int .i64 L,.slice none 0 0,.bool false,.bool false,.slice none 0 0] 38):=by rw[<-bN];exact World.alloc_heap_new w1 _
  have T:A.heap.size=w1.heap.size+1:=by rw[<-bN];show (w1.heap.push _).size=_;simp
  have ai:=hA.below da;obtain⟨rb,hrb⟩:∃rb,w1.heap.size=rb:=⟨_,rfl⟩;rw[hrb] at c T;have bb:=V.out.2.1;have aI:W.heap.size<=rb:=by rw[<-hrb];exact bK.size
  have dn:Xm W.heap.size W A:=bK.trans (da.mono bK.size);have aH:A.heap[w.heap.size+1]?=some (.cells #[.int .i64 0,.slice none 0 0,.bool false,.bool false,.slice none 0 0] 38):=(dn.block _ (by omega)).trans V.out.2.2.2.1;have be:Hid (∀u,Ac (λk=>k=rb) A u->Xm W.heap.size W u/\Xm w.heap.size w u):=λu H=>by
   have q:=dn.trans (H.below (B:=W.heap.size) aI (by omega))
   exact⟨q,V.out.1.trans (q.mono V.out.1.size)⟩
  have HA:=Aa (⟨ai,c,T,aI,ax,an,aB,hL,aH⟩:_/\_/\_/\_/\_/\_/\_/\_/\_);have dU:Hid (∃a z,A.heap[rb]?=some (.cells (Ce L a (Bq p (r.take 0)).length z (BE p.C (r.take 0)) (CG (r.take 0)) none 0 0) 38)/\Ts A a (Bq p (r.take 0))/\Dv w.heap.size a):=⟨none,0,c,(λi hi=>absurd hi (Nat.not_lt_zero i)),.inl rfl⟩;replace hrb:=Aa hrb;replace bN:=Aa bN;clear bK kZ hA ax an aB hL da c T ai bb aI dn aH
  go_wp2_with fail
  rw[bN.out];rw[hrb.out];clear bN
  go_loopw [9] (λiv wr=>∃i:Nat,i<=L/\iv = .int .i64 i/\(∃a z,wr.heap[rb]?=some (.cells (Ce L a (Bq p (r.take i)).length z (BE p.C (r.take i)) (CG (r.take i)) none 0 0) 38)/\Ts wr a (Bq p (r.take i))/\Dv w.heap.size a)/\Ac (λk=>k=rb) A wr) (λiv _=>L - (intOf iv).toNat)
  case atStart=>exact⟨0,Xw _,rfl,dU.out,Ac.refl _⟩
  case round=>
   clear dU;obtain⟨i,hi,rfl,⟨a,z,c,ad,bZ⟩,y⟩:=hrel;replace bZ:=Aa bZ
   by_cases h5:i<L
   ·obtain⟨ai,aS,T,aI,ax,an,aB,hL,aH⟩:=HA.out;obtain⟨m,U⟩:∃m,r[i]?=some m:=⟨_,Xe (by omega)⟩;have b0:AZ nv nf nl C m:=by
     have:=an m (XA U);rw[HK.out.2.2.1] at this;exact this
    obtain⟨g,cap,s,hv,hs,dF,-⟩:=ai.at U;have cX:va=some ⟨g,0,none⟩:=by injection hv
    clear hv;subst cX;obtain⟨a0,a1,a2,a3,a4,a5,c0,c1,c2,c3,c4,c5⟩:=s;have bb:=V.out.2.1;have M:Hid (∀u,Ac (λk=>k=rb) A u->((u.cell? ⟨w.heap.size,0,none⟩=some (.slice x1 nv z1)/\u.cell? ⟨w.heap.size,1,none⟩=some (.slice x2 nf z2)/\u.cell? ⟨w.heap.size,2,none⟩=some (.slice x3 nl z3)/\u.cell? ⟨w.heap.size,3,none⟩=some (.slice x4 nt z4))/\(u.cell? ⟨g,i*6,none⟩=some (.slice a0 nv c0)/\u.cell? ⟨g,i*6+1,none⟩=some (.slice a1 nf c1)/\u.cell? ⟨g,i*6+2,none⟩=some (.slice a2 nl c2)/\u.cell? ⟨g,i*6+3,none⟩=some (.slice a3 nt c3)/\u.cell? ⟨g,i*6+4,none⟩=some (.slice a4 nt c4)/\u.cell? ⟨g,i*6+5,none⟩=some (.slice a5 nr c5)))/\Dl u ⟨a0,a1,a2,a3,a4,a5,c0,c1,c2,c3,c4,c5⟩ ⟨nv,nf,nl,nt,nr⟩ m):=λu H=>by
     obtain⟨-,hd,t0,t1,t2,t3,t4,t5⟩:=(ai.GI aS H).at' hs U
     exact⟨⟨cE.out u ((be.out u H).1.mono (by omega)),t0,t1,t2,t3,t4,t5⟩,hd⟩
    have ez:(i:Int)<(L:Int):=by omega
    have dP:Hid (XO ((i:Int)+1)=(i:Int)+1):=by
     have:=V.out.2.2.2.2;unfold BZ at this;have:=Ct (n:=i+1) (by omega)
     push_cast at this
     exact this
    have bg:Ac (λk=>k=rb) A wr.drew:=y.EM ⟨rfl,rfl,rfl,Xd _,λ_ _=>rfl⟩;have cv:=d2.out wr.drew ⟨a0,a1,a2,a3,a4,a5,c0,c1,c2,c3,c4,c5⟩ m (be.out _ bg).2 (M.out _ bg).2 b0;dsimp only at cv;have dB:Gl p.C m=decide ((AG C m).length=0):=by unfold Gl;rw[HK.out.2.2.1]
    obtain⟨rl,aE⟩:∃rl,AG C m=rl:=⟨_,rfl⟩;rw[aE] at cv dB;obtain⟨bE,cB⟩:∃b,((rl.length:Int) == 0)=b:=⟨_,rfl⟩;have cp:Gl p.C m=bE:=by
     rw[dB,<-cB]
     by_cases e:rl.length=0
     ·rw[e];rfl
     ·rw[decide_eq_false e]
      symm
      simp only[beq_eq_false_iff_ne]
      omega
    have ci:=Aa (M.out _ bg).1;have hF:bE=false->(Bq p (r.take (i+1)))=(Bq p (r.take i))/\(BE p.C (r.take (i+1)))=(BE p.C (r.take i)):=λe=>by
     rw[Tt U];unfold FE BE;rw[cp,KN U,Ho,cp,e]
     exact⟨rfl,by simp⟩
    have hT:bE=true->(Bq p (r.take (i+1)))=Cd (Bl p m) (Bq p (r.take i))/\(BE p.C (r.take (i+1)))=((BE p.C (r.take i))||decide (0<Au m)):=λe=>by
     rw[Tt U];unfold FE BE;rw[cp,KN U,Ho,cp,e]
     exact⟨rfl,by simp⟩
    have d1:(CG (r.take (i+1)))=((CG (r.take i))||Bw m):=by unfold CG;exact KN U
    have cW:=Tu p (r.take i);rw[List.length_take] at cW;have de:=LK p (r.take i);have dI:∀x,x∈(Bq p (r.take i))->x.length<4294967296:=λx hx=>by
     obtain⟨m',eb,-,e⟩:=(Ke p _ x).1 hx;rw[<-e];have cz:=an m' (List.mem_of_mem_take eb);rw[HK.out.2.2.1] at cz;exact HK.out.1 m' cz
    have d0:i<=20000:=by have:=V.out.2.2.2.2;unfold BZ at this;omega
    obtain⟨o,ho⟩:∃o,(Bq p (r.take i))=o:=⟨_,rfl⟩;obtain⟨O,aD⟩:∃b,(BE p.C (r.take i))=b:=⟨_,rfl⟩;obtain⟨fa,az⟩:∃b,(CG (r.take i))=b:=⟨_,rfl⟩;rw[ho,aD,az] at c;rw[ho] at ad hF hT cW de dI;rw[aD] at hF hT;have HO:=Aa (⟨ho,aD,az,hF,hT⟩:_/\_/\_/\_/\_);have N:=Aa (⟨y,ad,cW,de,dI,b0,d1,h5,d0,U⟩:_/\_/\_/\_/\_/\_/\_/\_/\_/\_);obtain⟨v0,v1,v2,v3,v4⟩:=Dr c;replace c:=Aa c;obtain⟨⟨⟨q0,q1,q2,q3⟩,s0,s1,s2,s3,s4,s5⟩,-⟩:=M.out wr y;clear ai aS T aI ax an aB hL aH U hs dF bb bg dB aE cp hF hT d1 cW de dI d0 ho aD az y ad b0 h5 hi;replace cB:=Aa cB
    go_upto_region 10 with fail
    have en:=cB.out;refine Xx (S:=(λu=>(u.cell? ⟨w.heap.size,0,none⟩=some (.slice x1 nv z1)/\u.cell? ⟨w.heap.size,1,none⟩=some (.slice x2 nf z2)/\u.cell? ⟨w.heap.size,2,none⟩=some (.slice x3 nl z3)/\u.cell? ⟨w.heap.size,3,none⟩=some (.slice x4 nt z4))/\(u.cell? ⟨g,i*6,none⟩=some (.slice a0 nv c0)/\u.cell? ⟨g,i*6+1,none⟩=some (.slice a1 nf c1)/\u.cell? ⟨g,i*6+2,none⟩=some (.slice a2 nl c2)/\u.cell? ⟨g,i*6+3,none⟩=some (.slice a3 nt c3)/\u.cell? ⟨g,i*6+4,none⟩=some (.slice a4 nt c4)/\u.cell? ⟨g,i*6+5,none⟩=some (.slice a5 nr c5)))) (by kernel_rfl) ci.out (λd=>?_);refine tk 0 d ?_;refine tk 1 d ?_;refine tk 2 d ?_;refine tk 3 d ?_;refine tk 4 d ?_;refine rd 5 (λK F=>?_)
    go_simp
    go_at_call 33
    refine cv.mono ?_;rintro e w2 ⟨v,rfl,Z,aG⟩;obtain⟨G,I,rfl⟩:=At Z;have bX:Hid (Ac (λk=>k=rb) A w2):=N.out.1.EM ⟨aG.os,aG.tape,aG.output,aG.size,aG.block⟩;have bC:Hid (w2.heap[rb]?=some (.cells (Ce L a o.length z O fa none 0 0) 38)/\Ts w2 a o):=⟨(aG.block rb (Xa.1 c.out).1).trans c.out,N.out.2.1.below ⟨aG.os,aG.tape,aG.output,aG.size,aG.block⟩⟩;have X:=Aa (M.out w2 bX.out).1;clear Z aG
    go_wp2_with fail
    refine F.out _ _ X.out (λd=>?_);clear F K X
    try simp only[XF,sq]
    refine tk 6 d ?_;refine tk 7 d ?_;refine Yd (by kernel_rfl) ?_ _;clear d ci cv en v0 v1 v2 v3 v4 q0 q1 q2 q3 s0 s1 s2 s3 s4 s5
    go_upto_if 47 with fail
    go_cut [] (λwx=>∃a z,wx.heap[rb]?=some (.cells (Ce L a (Bq p (r.take (i+1))).length z (BE p.C (r.take (i+1))) (CG (r.take i)) none 0 0) 38)/\Ts wx a (Bq p (r.take (i+1)))/\Dv w.heap.size a/\Ac (λk=>k=rb) A wx)
    case first=>
     cases bE with
     |false=>
      go_wp2_with fail
      go_meet
      obtain⟨ho,aD,az,hF,hT⟩:=HO.out;obtain⟨e1,e2⟩:=hF (by first|rfl|trivial);rw[e1,e2,az]
      exact⟨a,z,bC.out.1,bC.out.2,bZ.out,bX.out⟩
     |true=>
      have dy:=es.out w2 ⟨a0,a1,a2,a3,a4,a5,c0,c1,c2,c3,c4,c5⟩ m (M.out w2 bX.out).2;dsimp only at dy;obtain⟨⟨-,s0,s1,s2,s3,s4,s5⟩,-⟩:=M.out w2 bX.out
      go_wp2_with fail
      refine dy.mono ?_;rintro e w3 ⟨rfl,cH⟩;have dm:Hid (Ac (λk=>k=rb) A w3):=bX.out.EM cH;have aQ:Hid (w3.heap[rb]?=some (.cells (Ce L a o.length z O fa none 0 0) 38)/\Ts w3 a o):=⟨(cH.block rb (Xa.1 bC.out.1).1).trans bC.out.1,bC.out.2.below cH⟩;obtain⟨sk,dY⟩:∃b,decide (0<Au m)=b:=⟨_,rfl⟩;rw[dY] at HO |-;clear dy s0 s1 s2 s3 s4 s5 cH bC dY
      go_upto_region 12 with fail
      have cS:Hid (Ac (λk=>k=rb) A w3.drew):=dm.out.EM ⟨rfl,rfl,rfl,Xd _,λ_ _=>rfl⟩;have du:=dV.out w3.drew ⟨a0,a1,a2,a3,a4,a5,c0,c1,c2,c3,c4,c5⟩ m (be.out _ cS.out).2 (M.out _ cS.out).2 N.out.2.2.2.2.2.1;dsimp only at du;have em:=Aa (M.out _ cS.out).1;refine Xx (S:=(λu=>(u.cell? ⟨w.heap.size,0,none⟩=some (.slice x1 nv z1)/\u.cell? ⟨w.heap.size,1,none⟩=some (.slice x2 nf z2)/\u.cell? ⟨w.heap.size,2,none⟩=some (.slice x3 nl z3)/\u.cell? ⟨w.heap.size,3,none⟩=some (.slice x4 nt z4))/\(u.cell? ⟨g,i*6,none⟩=some (.slice a0 nv c0)/\u.cell? ⟨g,i*6+1,none⟩=some (.slice a1 nf c1)/\u.cell? ⟨g,i*6+2,none⟩=some (.slice a2 nl c2)/\u.cell? ⟨g,i*6+3,none⟩=some (.slice a3 nt c3)/\u.cell? ⟨g,i*6+4,none⟩=some (.slice a4 nt c4)/\u.cell? ⟨g,i*6+5,none⟩=some (.slice a5 nr c5)))) (by kernel_rfl) em.out (λd=>?_);refine tk 0 d ?_;refine tk 2 d ?_;refine tk 3 d ?_;refine tk 4 d ?_;refine tk 5 d ?_;refine tk 6 d ?_;refine wpAnyH_ready (rs:=[1,7]) (by kernel_rfl) (by simp) ?_;refine AllReadyH.cons rfl (λK F=>?_) (AllReadyH.cons rfl (λK F=>?_) AllReadyH.nil)
      ·have zl:=(Dr aQ.out.1).2.1
       go_simp
       refine F.out _ _ (M.out _ cS.out).1 (λd=>?_);clear F K zl
       try simp only[XF,sq]
       refine rd 7 (λK F=>?_)
       go_simp
       go_at_call 36
       refine du.mono ?_;rintro e w4 ⟨rfl,aw⟩;have bl:Xm w3.heap.size w3 w4:=⟨aw.os,aw.tape,aw.output,aw.size,aw.block⟩;have bo:Hid (Ac (λk=>k=rb) A w4):=dm.out.EM bl;have bu:Hid (w4.heap[rb]?=some (.cells (Ce L a o.length z O fa none 0 0) 38)/\Ts w4 a o):=⟨(bl.block rb (Xa.1 aQ.out.1).1).trans aQ.out.1,aQ.out.2.below bl⟩;have X:=Aa (M.out _ bo.out).1;clear aw bl d
       go_wp2_with fail
       refine F.out _ _ X.out (λd=>?_);clear F K X
       try simp only[XF,sq]
       have bH:=OR (cap:=z) (s:=Bl p m) bu.out.2 N.out.2.2.2.1 (by have:=N.out.2.2.1;have:=N.out.2.2.2.2.2.2.2.2.1;omega) (HK.out.1 m N.out.2.2.2.2.2.1) N.out.2.2.2.2.1;obtain⟨om,cd⟩:∃x,Bl p m=x:=⟨_,rfl⟩;rw[cd] at bH HO |-;clear d cd;refine rd 8 (λK F=>?_)
       go_simp
       go_at_call 35
       refine bH.mono ?_;rintro e D ⟨f,E,rfl,bw,b3,bG⟩;have ct:Hid (Dv w.heap.size f):=by
        rcases b3 with q|q
        ·rw[q];exact bZ.out
        ·exact q.mono (be.out _ bo.out).2.size
       clear b3;obtain⟨J,aL⟩:∃x,(Cd om o).length=x:=⟨_,rfl⟩;rw[aL];replace aL:=Aa aL;have aq:Hid (Ac (λk=>k=rb) A D):=bo.out.EM bG;have Y:D.heap[rb]?=some (.cells (Ce L a o.length z O fa none 0 0) 38):=(bG.block rb (Xa.1 bu.out.1).1).trans bu.out.1;have b2:=Aa bw;have X:=Aa (M.out _ aq.out).1;clear bw bG bH
       go_wp2_with fail
       refine F.out _ _ X.out (λd=>?_);clear F K X
       try simp only[XF,sq]
       refine tk 9 d ?_;have z1:=(Dr Y).2.1;have z2:=(FO Y).2.1;have cc:Hid (Ac (λk=>k=rb) A (D.setCell ⟨rb,1,none⟩ (.slice f J E))):=aq.out.set (.inl rfl) _;refine rd 10 (λK F=>?_)
       go_simp
       refine F.out _ _ (M.out _ cc.out).1 (λd=>?_);clear F K d
       try simp only[XF,sq]
       refine Yd (by kernel_rfl) ?_ _;clear z1 z2 cc
       cases O with
       |true=>
        have R:=Lb Y f J E;obtain⟨v0,v1,v2,v3,v4⟩:=Dr R;obtain⟨f0,f1,f2,f3,f4⟩:=FO R;have aN:=La R true;have aj:Ac (λk=>k=rb) D ((D.setCell ⟨rb,1,none⟩ (.slice f J E)).setCell ⟨rb,2,none⟩ (.bool true)):=(Es D rb 1 _).trans (Es _ rb 2 _);have l:Hid (((D.setCell ⟨rb,1,none⟩ (.slice f J E)).setCell ⟨rb,2,none⟩ (.bool true)).heap[rb]?=some (.cells (Ce L f (Bq p (r.take (i+1))).length E (BE p.C (r.take (i+1))) (CG (r.take i)) none 0 0) 38)/\Ts ((D.setCell ⟨rb,1,none⟩ (.slice f J E)).setCell ⟨rb,2,none⟩ (.bool true)) f (Bq p (r.take (i+1)))/\Dv w.heap.size f/\Ac (λk=>k=rb) A ((D.setCell ⟨rb,1,none⟩ (.slice f J E)).setCell ⟨rb,2,none⟩ (.bool true))):=by
         obtain⟨ag,bF⟩:=HO.out.2.2.2.2 (by first|rfl|trivial);have bx:(BE p.C (r.take (i+1)))=true:=by rw[bF];simp
         refine⟨?_,?_,ct.out,aq.out.trans aj⟩
         ·rw[ag,bx,HO.out.2.2.1,aL.out];exact aN
         ·rw[ag];exact b2.out.GI Y aj
        clear R aN aj Y
        go_wp2_with fail
        go_meet
        exact⟨f,E,l.out⟩
       |false=>
        have R:=Lb Y f J E;obtain⟨v0,v1,v2,v3,v4⟩:=Dr R;obtain⟨f0,f1,f2,f3,f4⟩:=FO R;have aN:=La R sk;have aj:Ac (λk=>k=rb) D ((D.setCell ⟨rb,1,none⟩ (.slice f J E)).setCell ⟨rb,2,none⟩ (.bool sk)):=(Es D rb 1 _).trans (Es _ rb 2 _);have l:Hid (((D.setCell ⟨rb,1,none⟩ (.slice f J E)).setCell ⟨rb,2,none⟩ (.bool sk)).heap[rb]?=some (.cells (Ce L f (Bq p (r.take (i+1))).length E (BE p.C (r.take (i+1))) (CG (r.take i)) none 0 0) 38)/\Ts ((D.setCell ⟨rb,1,none⟩ (.slice f J E)).setCell ⟨rb,2,none⟩ (.bool sk)) f (Bq p (r.take (i+1)))/\Dv w.heap.size f/\Ac (λk=>k=rb) A ((D.setCell ⟨rb,1,none⟩ (.slice f J E)).setCell ⟨rb,2,none⟩ (.bool sk))):=by
         obtain⟨ag,bF⟩:=HO.out.2.2.2.2 (by first|rfl|trivial);have bx:(BE p.C (r.take (i+1)))=sk:=by rw[bF];simp
         refine⟨?_,?_,ct.out,aq.out.trans aj⟩
         ·rw[ag,bx,HO.out.2.2.1,aL.out];exact aN
         ·rw[ag];exact b2.out.GI Y aj
        clear R aN aj Y
        go_wp2_with fail
        go_meet
        exact⟨f,E,l.out⟩
      ·go_simp
       go_at_call 36
       refine du.mono ?_;rintro e w4 ⟨rfl,aw⟩;have bl:Xm w3.heap.size w3 w4:=⟨aw.os,aw.tape,aw.output,aw.size,aw.block⟩;have bo:Hid (Ac (λk=>k=rb) A w4):=dm.out.EM bl;have bu:Hid (w4.heap[rb]?=some (.cells (Ce L a o.length z O fa none 0 0) 38)/\Ts w4 a o):=⟨(bl.block rb (Xa.1 aQ.out.1).1).trans aQ.out.1,aQ.out.2.below bl⟩;have X:=Aa (M.out _ bo.out).1;clear aw bl d
       go_wp2_with fail
       refine F.out _ _ X.out (λd=>?_);clear F K X
       try simp only[XF,sq]
       refine rd 1 (λK F=>?_);have zl:=(Dr bu.out.1).2.1
       go_simp
       refine F.out _ _ (M.out _ bo.out).1 (λd=>?_);clear F K zl
       try simp only[XF,sq]
       have bH:=OR (cap:=z) (s:=Bl p m) bu.out.2 N.out.2.2.2.1 (by have:=N.out.2.2.1;have:=N.out.2.2.2.2.2.2.2.2.1;omega) (HK.out.1 m N.out.2.2.2.2.2.1) N.out.2.2.2.2.1;obtain⟨om,cd⟩:∃x,Bl p m=x:=⟨_,rfl⟩;rw[cd] at bH HO |-;clear d cd;refine rd 8 (λK F=>?_)
       go_simp
       go_at_call 35
       refine bH.mono ?_;rintro e D ⟨f,E,rfl,bw,b3,bG⟩;have ct:Hid (Dv w.heap.size f):=by
        rcases b3 with q|q
        ·rw[q];exact bZ.out
        ·exact q.mono (be.out _ bo.out).2.size
       clear b3;obtain⟨J,aL⟩:∃x,(Cd om o).length=x:=⟨_,rfl⟩;rw[aL];replace aL:=Aa aL;have aq:Hid (Ac (λk=>k=rb) A D):=bo.out.EM bG;have Y:D.heap[rb]?=some (.cells (Ce L a o.length z O fa none 0 0) 38):=(bG.block rb (Xa.1 bu.out.1).1).trans bu.out.1;have b2:=Aa bw;have X:=Aa (M.out _ aq.out).1;clear bw bG bH
       go_wp2_with fail
       refine F.out _ _ X.out (λd=>?_);clear F K X
       try simp only[XF,sq]
       refine tk 9 d ?_;have z1:=(Dr Y).2.1;have z2:=(FO Y).2.1;have cc:Hid (Ac (λk=>k=rb) A (D.setCell ⟨rb,1,none⟩ (.slice f J E))):=aq.out.set (.inl rfl) _;refine rd 10 (λK F=>?_)
       go_simp
       refine F.out _ _ (M.out _ cc.out).1 (λd=>?_);clear F K d
       try simp only[XF,sq]
       refine Yd (by kernel_rfl) ?_ _;clear z1 z2 cc
       cases O with
       |true=>
        have R:=Lb Y f J E;obtain⟨v0,v1,v2,v3,v4⟩:=Dr R;obtain⟨f0,f1,f2,f3,f4⟩:=FO R;have aN:=La R true;have aj:Ac (λk=>k=rb) D ((D.setCell ⟨rb,1,none⟩ (.slice f J E)).setCell ⟨rb,2,none⟩ (.bool true)):=(Es D rb 1 _).trans (Es _ rb 2 _);have l:Hid (((D.setCell ⟨rb,1,none⟩ (.slice f J E)).setCell ⟨rb,2,none⟩ (.bool true)).heap[rb]?=some (.cells (Ce L f (Bq p (r.take (i+1))).length E (BE p.C (r.take (i+1))) (CG (r.take i)) none 0 0) 38)/\Ts ((D.setCell ⟨rb,1,none⟩ (.slice f J E)).setCell ⟨rb,2,none⟩ (.bool true)) f (Bq p (r.take (i+1)))/\Dv w.heap.size f/\Ac (λk=>k=rb) A ((D.setCell ⟨rb,1,none⟩ (.slice f J E)).setCell ⟨rb,2,none⟩ (.bool true))):=by
         obtain⟨ag,bF⟩:=HO.out.2.2.2.2 (by first|rfl|trivial);have bx:(BE p.C (r.take (i+1)))=true:=by rw[bF];simp
         refine⟨?_,?_,ct.out,aq.out.trans aj⟩
         ·rw[ag,bx,HO.out.2.2.1,aL.out];exact aN
         ·rw[ag];exact b2.out.GI Y aj
        clear R aN aj Y
        go_wp2_with fail
        go_meet
        exact⟨f,E,l.out⟩
       |false=>
        have R:=Lb Y f J E;obtain⟨v0,v1,v2,v3,v4⟩:=Dr R;obtain⟨f0,f1,f2,f3,f4⟩:=FO R;have aN:=La R sk;have aj:Ac (λk=>k=rb) D ((D.setCell ⟨rb,1,none⟩ (.slice f J E)).setCell ⟨rb,2,none⟩ (.bool sk)):=(Es D rb 1 _).trans (Es _ rb 2 _);have l:Hid (((D.setCell ⟨rb,1,none⟩ (.slice f J E)).setCell ⟨rb,2,none⟩ (.bool sk)).heap[rb]?=some (.cells (Ce L f (Bq p (r.take (i+1))).length E (BE p.C (r.take (i+1))) (CG (r.take i)) none 0 0) 38)/\Ts ((D.setCell ⟨rb,1,none⟩ (.slice f J E)).setCell ⟨rb,2,none⟩ (.bool sk)) f (Bq p (r.take (i+1)))/\Dv w.heap.size f/\Ac (λk=>k=rb) A ((D.setCell ⟨rb,1,none⟩ (.slice f J E)).setCell ⟨rb,2,none⟩ (.bool sk))):=by
         obtain⟨ag,bF⟩:=HO.out.2.2.2.2 (by first|rfl|trivial);have bx:(BE p.C (r.take (i+1)))=sk:=by rw[bF];simp
         refine⟨?_,?_,ct.out,aq.out.trans aj⟩
         ·rw[ag,bx,HO.out.2.2.1,aL.out];exact aN
         ·rw[ag];exact b2.out.GI Y aj
        clear R aN aj Y
        go_wp2_with fail
        go_meet
        exact⟨f,E,l.out⟩
    case rest=>
     obtain⟨a,z,c,ad,c6,y⟩:=hcut;replace c6:=Aa c6;obtain⟨o1,ag⟩:∃o,(Bq p (r.take (i+1)))=o:=⟨_,rfl⟩;obtain⟨d3,dc⟩:∃o,(BE p.C (r.take (i+1)))=o:=⟨_,rfl⟩;rw[ag,dc,HO.out.2.2.1] at c;rw[ag] at ad;have HR:=Aa (⟨c,ad,y⟩:_/\_/\_);have HQ:=Aa (⟨ag,dc⟩:_/\_);clear c ad y ag dc bC bX
     go_wp2_with fail
     go_loopw [11] (λtv wr=>∃t:Nat,t<=nt/\tv = .int .i64 t/\wr.heap[rb]?=some (.cells (Ce L a o1.length z d3 (fa||(m.thr.take t).any (λth=>th.ph == 3)) none 0 0) 38)/\Ts wr a o1/\Ac (λk=>k=rb) A wr) (λtv _=>nt - (intOf tv).toNat)
     case atStart=>exact⟨0,Xw _,rfl,(by rw[List.take_zero,List.any_nil,Bool.or_false];exact HR.out.1),HR.out.2.1,HR.out.2.2⟩
     case round=>
      rename Xh=>w6
      clear HR;obtain⟨t,ht,rfl,c,ad,y⟩:=hrel;obtain⟨⟨-,t0,t1,t2,t3,t4,t5⟩,hd⟩:=M.out w6 y;have h4:=HK.out.2.2.2.2.1
      by_cases h6:t<nt
      ·have ew:(t:Int)<(nt:Int):=by omega
       have cY:m.thr.length=nt:=hd.lt;have dz:=adK (m:=m) t (by omega);obtain⟨b,eg,e1,eh,ea⟩:=hd.Ip.MZ h6;have e1:a4=some ⟨b,eg,none⟩:=e1;subst e1;obtain⟨ph,dM⟩:∃x,(m.th t).ph=x:=⟨_,rfl⟩;rw[dM] at ea dz;obtain⟨cf,di⟩:∃x,(fa||(m.thr.take t).any (λth=>th.ph == 3))=x:=⟨_,rfl⟩;rw[di] at c;have cs:(fa||(m.thr.take (t+1)).any (λth=>th.ph == 3))=(cf||(ph == 3)):=by rw[dz,<-Bool.or_assoc,di]
       have bW:Hid (XO ((t:Int)+1)=(t:Int)+1):=by
        have:=Ct (n:=t+1) (by omega)
        push_cast at this
        exact this
       obtain⟨v0,v1,v2,v3,v4⟩:=Dr c;obtain⟨f0,f1,f2,f3,f4⟩:=FO c;have l:Hid (∀nb:Bool,(cf||(ph == 3))=nb->t+1<=nt/\(w6.setCell ⟨rb,3,none⟩ (.bool nb)).heap[rb]?=some (.cells (Ce L a o1.length z d3 (fa||(m.thr.take (t+1)).any (λth=>th.ph == 3)) none 0 0) 38)/\Ts (w6.setCell ⟨rb,3,none⟩ (.bool nb)) a o1/\Ac (λk=>k=rb) A (w6.setCell ⟨rb,3,none⟩ (.bool nb))):=λnb e=>by
        rw[cs,e]
        exact⟨h6,aab c nb,ad.GI c (Es w6 rb 3 _),y.trans (Es w6 rb 3 _)⟩
       clear c ad y hd h4 h6 cY dz eh dM di cs ht
       cases cf with
       |true=>
        go_wp2_with fail
        go_roundw
        case rel=>
         (try rw[bW.out])
         obtain⟨q1,q2,q3,q4⟩:=l.out true (by simp)
         exact⟨t+1,q1,rfl,q2,q3,q4⟩
        case measure=>
         (try rw[bW.out])
         exact Xl (l.out true (by simp)).1 (Xn t)
       |false=>
        cases cF:(ph == 3) with
        |true=>
         go_wp2_with fail
         go_roundw
         case rel=>
          (try rw[bW.out])
          obtain⟨q1,q2,q3,q4⟩:=l.out true (by rw[cF];rfl)
          exact⟨t+1,q1,rfl,q2,q3,q4⟩
         case measure=>
          (try rw[bW.out])
          exact Xl (l.out true (by rw[cF];rfl)).1 (Xn t)
        |false=>
         go_wp2_with fail
         go_roundw
         case rel=>
          (try rw[bW.out])
          obtain⟨q1,q2,q3,q4⟩:=l.out false (by rw[cF];rfl)
          exact⟨t+1,q1,rfl,q2,q3,q4⟩
         case measure=>
          (try rw[bW.out])
          exact Xl (l.out false (by rw[cF];rfl)).1 (Xn t)
      ·have er:t=nt:=by omega
       subst er;have cY:m.thr.length=t:=hd.lt;have dT:m.thr.take t=m.thr:=XM (by omega);have l:Hid (i+1<=L/\(∃a z,w6.heap[rb]?=some (.cells (Ce L a (Bq p (r.take (i+1))).length z (BE p.C (r.take (i+1))) (CG (r.take (i+1))) none 0 0) 38)/\Ts w6 a (Bq p (r.take (i+1)))/\Dv w.heap.size a)/\Ac (λk=>k=rb) A w6):=by
        refine⟨N.out.2.2.2.2.2.2.2.1,⟨a,z,?_,?_,c6.out⟩,y⟩
        ·rw[N.out.2.2.2.2.2.2.1,HQ.out.1,HQ.out.2,HO.out.2.2.1];rw[dT] at c;exact c
        ·rw[HQ.out.1];exact ad
       clear c ad y hd h4 h6 cY dT ht
       go_wp2_with fail
       go_roundw
       case rel=>
        (try rw[dP.out])
        exact⟨i+1,l.out.1,rfl,l.out.2.1,l.out.2.2⟩
       case measure=>
        (try rw[dP.out])
        exact Xl l.out.1 (Xn i)
   ·have d8:i=L:=by omega
    obtain⟨ai,aS,T,aI,ax,an,aB,hL,aH⟩:=HA.out;have dS:r.take i=r:=XM (by omega);rw[dS] at c ad;subst d8;obtain⟨o,ho⟩:∃o,Bq p r=o:=⟨_,rfl⟩;obtain⟨O,aD⟩:∃o,BE p.C r=o:=⟨_,rfl⟩;obtain⟨fa,az⟩:∃o,CG r=o:=⟨_,rfl⟩;rw[ho,aD,az] at c;rw[ho] at ad;have bb:=V.out.2.1;have dX:rb<wr.heap.size:=(Xa.1 c).1;have HR:=Aa (⟨c,ad,y,ho,aD,az,dX⟩:_/\_/\_/\_/\_/\_/\_)
    rename Xh=>w3
    have HV:Hid (∀u,Ac (λk=>k=rb) w3 u->u.cell? ⟨w.heap.size,0,none⟩=some (.slice x1 nv z1)):=λu H=>(cE.out u ((be.out u (y.trans H)).1.mono (by omega))).1;clear ai aS T aI ax an aB hL aH dS c ad y ho aD az bb dX hi h5
    go_wp2_with fail
    go_loopw [12] (λxv wr=>∃x:Nat,x<=nv/\xv = .int .i64 x/\(∃G I,wr.heap[rb]?=some (.cells (Ce i a o.length z O fa G (BL p r x).length I) 38)/\wr.ownsRow w3.heap.size 3 1 (.slice G (BL p r x).length I) (BL p r x).length ((BL p r x).map Cq))/\Ac (λk=>k=rb) w3 wr) (λxv _=>nv - (intOf xv).toNat)
    case atStart=>exact⟨0,Xw _,rfl,⟨none,0,HR.out.1,World.ownsRow_nil _ _ _ _⟩,Ac.refl _⟩
    case round=>
     obtain⟨x,hx,rfl,⟨G,I,c,Z⟩,y⟩:=hrel;have ek:=HV.out wr y;have aO:=HK.out.2.2.2.2.2;obtain⟨rs,b6⟩:∃rs,BL p r x=rs:=⟨_,rfl⟩;have ac:=ad0 p r x;have aE:=Tr p r x;rw[b6] at c Z ac aE
     by_cases h6:x<nv
     ·have eu:(x:Int)<(nv:Int):=by omega
      have bP:Hid (XO ((x:Int)+1)=(x:Int)+1):=by
       have:=Ct (n:=x+1) (by omega)
       push_cast at this
       exact this
      have N:=Aa (⟨c,Z,y,ac,aE,h6,aO⟩:_/\_/\_/\_/\_/\_/\_);clear c Z y ac aE h6 aO hx b6
      rename Xh=>w4
      go_wp2_with fail
      clear ek
      go_loopw [13,14] (λbv jv wr=>∃j:Nat,j<=i/\jv = .int .i64 j/\bv = .bool ((r.take j).any λm=>DY p.C m (x:Int))/\Xm w4.heap.size w4 wr) (λ_ jv _=>i - (intOf jv).toNat)
      case atStart=>exact⟨0,Xw _,rfl,rfl,Below.refl _ _⟩
      case round=>
       obtain⟨j,hj,rfl,rfl,Q⟩:=hrel;obtain⟨cq,bd⟩:∃b,((r.take j).any λm=>DY p.C m (x:Int))=b:=⟨_,rfl⟩;rw[bd];have bV:Hid (∀q:Bool,((r.any λm=>DY p.C m (x:Int))=q)->(cq=true\/j=i)->cq=q):=λq e hc=>by
        obtain⟨ai,aS,T,aI,ax,an,aB,hL,aH⟩:=HA.out
        rcases hc with hc|hc
        ·rw[hc] at bd |-;rw[<-e,Vp bd]
        ·rw[<-e,<-bd,hc,XM (by omega)]
       cases a8:decide (j<i) with
       |true=>
        have a8:=of_decide_eq_true a8;have ec:(j:Int)<(i:Int):=by omega
        cases cq with
        |true=>
         have HF:=N.out;obtain⟨rq,br⟩:∃q,(r.any λm=>DY p.C m (x:Int))=q:=⟨_,rfl⟩;have b7:true=rq:=bV.out rq br (.inl rfl);obtain⟨c,Z,y,ac,aE,h6,aO⟩:=N.out;have bh:=(Q.block rb (Xa.1 c).1).trans c;have bz:=EI Z Q;have ab:=y.EM Q;have T:=ab.size;have bt:=HR.out.2.2.2.2.2.2;rw[br] at ac
         cases rq with
         |true=>
          clear b7;obtain⟨g2,a7,w7,df,bc,ah⟩:=QP bz (x:Int) (by omega) T;have a6:=(ah.block rb bt).trans bh;obtain⟨v0,v1,v2,v3,v4⟩:=Dr bh;obtain⟨u0,u1,u2,u3,u4⟩:=Dr a6;obtain⟨f0,f1,f2,f3,f4⟩:=FO a6;have l:Hid (x+1<=nv/\(∃G I,(w7.setCell ⟨rb,4,none⟩ (.slice (some ⟨g2,0,none⟩) (rs.length+1) a7)).heap[rb]?=some (.cells (Ce i a o.length z O fa G (BL p r (x+1)).length I) 38)/\(w7.setCell ⟨rb,4,none⟩ (.slice (some ⟨g2,0,none⟩) (rs.length+1) a7)).ownsRow w3.heap.size 3 1 (.slice G (BL p r (x+1)).length I) (BL p r (x+1)).length ((BL p r (x+1)).map Cq))/\Ac (λk=>k=rb) w3 (w7.setCell ⟨rb,4,none⟩ (.slice (some ⟨g2,0,none⟩) (rs.length+1) a7))):=by
           rw[if_pos rfl] at ac;rw[ac];refine⟨h6,⟨some ⟨g2,0,none⟩,a7,?_,?_⟩,?_⟩
           ·rw[Xb];exact QG a6 _ _ _
           ·rw[Xb] at bc |-;exact Ea bc λb Q=>Xt w7 ⟨rb,4,none⟩ b _ (by have:=(bc.lt b Q).1;show b≠rb;omega)
           ·have q7:Ac (λk=>k=rb) w3 w7:=⟨ah.os.trans ab.os,ah.tape.trans ab.tape,ah.output.trans ab.output,Xu ab.size ah.size,λk hk hs=>(ah.block k hk).trans (ab.block k hk hs)⟩;exact q7.trans (Es w7 rb 4 _)
          clear HF c Z y ac aE h6 aO bh bz ab T bt br bc ah a6 bV bd Q hj a8
          go_wp2_with (at_builtin;refine Dm rfl _ _ _ rfl rfl rfl rfl df ?_)
          go_roundw
          case rel=>
           (try rw[bP.out])
           exact⟨x+1,l.out.1,rfl,l.out.2.1,l.out.2.2⟩
          case measure=>
           (try rw[bP.out])
           exact Xl l.out.1 (Xn x)
         |false=>
          cases b7
        |false=>
         obtain⟨ai,aS,T,aI,ax,an,aB,hL,aH⟩:=HA.out;obtain⟨m,U⟩:∃m,r[j]?=some m:=⟨_,Xe (by omega)⟩;have b0:AZ nv nf nl C m:=by
          have:=an m (XA U);rw[HK.out.2.2.1] at this;exact this
         obtain⟨g,cap,s,hv,hs,dF,-⟩:=ai.at U;have cX:va=some ⟨g,0,none⟩:=by injection hv
         clear hv;subst cX;obtain⟨a0,a1,a2,a3,a4,a5,c0,c1,c2,c3,c4,c5⟩:=s;have bb:=V.out.2.1;have M:Hid (∀u,Ac (λk=>k=rb) A u->((u.cell? ⟨w.heap.size,0,none⟩=some (.slice x1 nv z1)/\u.cell? ⟨w.heap.size,1,none⟩=some (.slice x2 nf z2)/\u.cell? ⟨w.heap.size,2,none⟩=some (.slice x3 nl z3)/\u.cell? ⟨w.heap.size,3,none⟩=some (.slice x4 nt z4))/\(u.cell? ⟨g,j*6,none⟩=some (.slice a0 nv c0)/\u.cell? ⟨g,j*6+1,none⟩=some (.slice a1 nf c1)/\u.cell? ⟨g,j*6+2,none⟩=some (.slice a2 nl c2)/\u.cell? ⟨g,j*6+3,none⟩=some (.slice a3 nt c3)/\u.cell? ⟨g,j*6+4,none⟩=some (.slice a4 nt c4)/\u.cell? ⟨g,j*6+5,none⟩=some (.slice a5 nr c5)))/\Dl u ⟨a0,a1,a2,a3,a4,a5,c0,c1,c2,c3,c4,c5⟩ ⟨nv,nf,nl,nt,nr⟩ m):=λu H=>by
          obtain⟨-,hd,t0,t1,t2,t3,t4,t5⟩:=(ai.GI aS H).at' hs U
          exact⟨⟨cE.out u ((be.out u H).1.mono (by omega)),t0,t1,t2,t3,t4,t5⟩,hd⟩
         have d7:Hid (XO ((j:Int)+1)=(j:Int)+1):=by
          have:=V.out.2.2.2.2;unfold BZ at this;have:=Ct (n:=j+1) (by omega)
          push_cast at this
          exact this
         have y:Ac (λk=>k=rb) A wr:=(HR.out.2.2.1.trans N.out.2.2.1).EM Q;have bg:Ac (λk=>k=rb) A wr.drew:=y.EM ⟨rfl,rfl,rfl,Xd _,λ_ _=>rfl⟩;have dt:=dW.out wr.drew ⟨a0,a1,a2,a3,a4,a5,c0,c1,c2,c3,c4,c5⟩ m x (be.out _ bg).2 (M.out _ bg).2 b0;dsimp only at dt;have cs:((r.take (j+1)).any λm=>DY p.C m (x:Int))=DY C m x:=by rw[KN U,bd,HK.out.2.2.1];rfl
         have ci:=Aa (M.out _ bg).1;obtain⟨⟨⟨q0,q1,q2,q3⟩,s0,s1,s2,s3,s4,s5⟩,-⟩:=M.out wr y;have l:=Aa (⟨a8,cs,Q,y⟩:_/\_/\_/\_);clear ai aS T aI ax an aB hL aH U b0 hs dF bb y bg cs a8 Q hj bd bV
         go_upto_region 25 with fail
         clear q0 q1 q2 q3 s0 s1 s2 s3 s4 s5;refine Xx (S:=(λu=>(u.cell? ⟨w.heap.size,0,none⟩=some (.slice x1 nv z1)/\u.cell? ⟨w.heap.size,1,none⟩=some (.slice x2 nf z2)/\u.cell? ⟨w.heap.size,2,none⟩=some (.slice x3 nl z3)/\u.cell? ⟨w.heap.size,3,none⟩=some (.slice x4 nt z4))/\(u.cell? ⟨g,j*6,none⟩=some (.slice a0 nv c0)/\u.cell? ⟨g,j*6+1,none⟩=some (.slice a1 nf c1)/\u.cell? ⟨g,j*6+2,none⟩=some (.slice a2 nl c2)/\u.cell? ⟨g,j*6+3,none⟩=some (.slice a3 nt c3)/\u.cell? ⟨g,j*6+4,none⟩=some (.slice a4 nt c4)/\u.cell? ⟨g,j*6+5,none⟩=some (.slice a5 nr c5)))) (by kernel_rfl) ci.out (λd=>?_);refine tk 0 d ?_;refine tk 1 d ?_;refine tk 2 d ?_;refine tk 3 d ?_;refine tk 4 d ?_;refine tk 5 d ?_;refine rd 6 (λK F=>?_)
         go_simp
         go_at_call 37
         refine dt.mono ?_;rintro e w8 ⟨rfl,bS⟩;have dL:Xm wr.heap.size wr w8:=⟨bS.os,bS.tape,bS.output,bS.size,bS.block⟩;have eo:Hid (Xm w4.heap.size w4 w8):=l.out.2.2.1.trans (dL.mono l.out.2.2.1.size);have X:=Aa (M.out w8 (l.out.2.2.2.EM dL)).1;clear bS dL
         go_wp2_with fail
         refine F.out _ _ X.out (λd=>?_);clear F K X
         try simp only[XF,sq]
         refine tk 7 d ?_;refine Yd (by kernel_rfl) ?_ _;clear d ci dt
         go_wp2_with fail
         go_roundw
         case rel=>
          (try rw[d7.out])
          exact⟨j+1,l.out.1,rfl,by rw[l.out.2.1],eo.out⟩
         case measure=>
          (try rw[d7.out])
          exact Xl l.out.1 (Xn j)
       |false=>
        have a8:=of_decide_eq_false a8;have dH:j=i:=by omega
        have ec:¬(j:Int)<(i:Int):=by omega
        have HF:=N.out;obtain⟨rq,br⟩:∃q,(r.any λm=>DY p.C m (x:Int))=q:=⟨_,rfl⟩;have b7:cq=rq:=bV.out rq br (.inr dH);obtain⟨c,Z,y,ac,aE,h6,aO⟩:=N.out;have bh:=(Q.block rb (Xa.1 c).1).trans c;have bz:=EI Z Q;have ab:=y.EM Q;have T:=ab.size;have bt:=HR.out.2.2.2.2.2.2;rw[br] at ac
        cases rq with
        |true=>
         subst b7;obtain⟨g2,a7,w7,df,bc,ah⟩:=QP bz (x:Int) (by omega) T;have a6:=(ah.block rb bt).trans bh;obtain⟨v0,v1,v2,v3,v4⟩:=Dr bh;obtain⟨u0,u1,u2,u3,u4⟩:=Dr a6;obtain⟨f0,f1,f2,f3,f4⟩:=FO a6;have l:Hid (x+1<=nv/\(∃G I,(w7.setCell ⟨rb,4,none⟩ (.slice (some ⟨g2,0,none⟩) (rs.length+1) a7)).heap[rb]?=some (.cells (Ce i a o.length z O fa G (BL p r (x+1)).length I) 38)/\(w7.setCell ⟨rb,4,none⟩ (.slice (some ⟨g2,0,none⟩) (rs.length+1) a7)).ownsRow w3.heap.size 3 1 (.slice G (BL p r (x+1)).length I) (BL p r (x+1)).length ((BL p r (x+1)).map Cq))/\Ac (λk=>k=rb) w3 (w7.setCell ⟨rb,4,none⟩ (.slice (some ⟨g2,0,none⟩) (rs.length+1) a7))):=by
          rw[if_pos rfl] at ac;rw[ac];refine⟨h6,⟨some ⟨g2,0,none⟩,a7,?_,?_⟩,?_⟩
          ·rw[Xb];exact QG a6 _ _ _
          ·rw[Xb] at bc |-;exact Ea bc λb Q=>Xt w7 ⟨rb,4,none⟩ b _ (by have:=(bc.lt b Q).1;show b≠rb;omega)
          ·have q7:Ac (λk=>k=rb) w3 w7:=⟨ah.os.trans ab.os,ah.tape.trans ab.tape,ah.output.trans ab.output,Xu ab.size ah.size,λk hk hs=>(ah.block k hk).trans (ab.block k hk hs)⟩;exact q7.trans (Es w7 rb 4 _)
         clear HF c Z y ac aE h6 aO bh bz ab T bt br bc ah a6 bV bd Q hj a8 dH
         go_wp2_with (at_builtin;refine Dm rfl _ _ _ rfl rfl rfl rfl df ?_)
         go_roundw
         case rel=>
          (try rw[bP.out])
          exact⟨x+1,l.out.1,rfl,l.out.2.1,l.out.2.2⟩
         case measure=>
          (try rw[bP.out])
          exact Xl l.out.1 (Xn x)
        |false=>
         subst b7;have l:Hid (x+1<=nv/\(∃G I,wr.heap[rb]?=some (.cells (Ce i a o.length z O fa G (BL p r (x+1)).length I) 38)/\wr.ownsRow w3.heap.size 3 1 (.slice G (BL p r (x+1)).length I) (BL p r (x+1)).length ((BL p r (x+1)).map Cq))/\Ac (λk=>k=rb) w3 wr):=by
          rw[if_neg (by decide),List.append_nil] at ac;rw[ac]
          exact⟨h6,⟨G,I,bh,bz⟩,ab⟩
         clear HF c Z y ac aE h6 aO bh bz ab T bt br bV bd Q hj a8 dH
         go_wp2_with fail
         go_roundw
         case rel=>
          (try rw[bP.out])
          exact⟨x+1,l.out.1,rfl,l.out.2.1,l.out.2.2⟩
         case measure=>
          (try rw[bP.out])
          exact Xl l.out.1 (Xn x)
     ·have c7:x=nv:=by omega
      obtain⟨ai,aS,T,aI,ax,an,aB,hL,aH⟩:=HA.out;obtain⟨aQ,dN,b4,ho,aD,az,bt⟩:=HR.out;have bb:=V.out.2.1;have ch:wr.heap[w.heap.size+1]?=some (.cells (Ce 0 none 0 0 false false none 0 0) 38):=((b4.trans y).block _ (by omega) (by omega)).trans aH;obtain⟨v0,v1,v2,v3,v4⟩:=Dr c;obtain⟨y0,y1,y2,y3,y4⟩:=Dr ch;obtain⟨f0,f1,f2,f3,f4⟩:=FO ch;have aq:=ack wr (w.heap.size+1) (.int .i64 i) (.slice a o.length z) (.bool O) (.bool fa) (.slice G rs.length I);have d4:=NS (.int .i64 i) (.slice a o.length z) (.bool O) (.bool fa) (.slice G rs.length I) ch;have d6:=Oo (B:=w.heap.size) (.int .i64 i) (.slice a o.length z) (.bool O) (.bool fa) (.slice G rs.length I) (be.out _ (b4.trans y)).2 (b:=w.heap.size+1) (by omega);have bw:=(dN.GI aQ y).GI ch aq;have dh:=Ea (w':=(((((wr.setCell ⟨w.heap.size+1,0,none⟩ (.int .i64 i)).setCell ⟨w.heap.size+1,1,none⟩ (.slice a o.length z)).setCell ⟨w.heap.size+1,2,none⟩ (.bool O)).setCell ⟨w.heap.size+1,3,none⟩ (.bool fa)).setCell ⟨w.heap.size+1,4,none⟩ (.slice G rs.length I))) Z λb Q=>aq.block b (Z.lt b Q).2 (by have:=(Z.lt b Q).1;have:=b4.size;omega);obtain⟨d9,ey,e1,dR⟩:=Bf.of dh;have e2:G=d9:=by injection e1
      clear e1;subst e2;have HF:Hid (IZ w ⟨nv,nf,nl,nt,nr⟩ p mn (.returned (.tuple #[.agg #[.int .i64 i,.slice a o.length z,.bool O,.bool fa,.slice G rs.length I],.int .i64 0])) (((((wr.setCell ⟨w.heap.size+1,0,none⟩ (.int .i64 i)).setCell ⟨w.heap.size+1,1,none⟩ (.slice a o.length z)).setCell ⟨w.heap.size+1,2,none⟩ (.bool O)).setCell ⟨w.heap.size+1,3,none⟩ (.bool fa)).setCell ⟨w.heap.size+1,4,none⟩ (.slice G rs.length I))/\(((((wr.setCell ⟨w.heap.size+1,0,none⟩ (.int .i64 i)).setCell ⟨w.heap.size+1,1,none⟩ (.slice a o.length z)).setCell ⟨w.heap.size+1,2,none⟩ (.bool O)).setCell ⟨w.heap.size+1,3,none⟩ (.bool fa)).setCell ⟨w.heap.size+1,4,none⟩ (.slice G rs.length I)).heap[w.heap.size+1]?=some (.cells #[.int .i64 i,.slice a o.length z,.bool O,.bool fa,.slice G rs.length I] 38)):=by
       refine⟨⟨d6,.inr (.inr ⟨V.out.2.2.2.2,r,a,G,z,I,by rw[Int.toNat_natCast];exact aB,?_,?_,?_,bZ.out,(NN dh).mono (by have:=b4.size;have:=V.out.1.size;omega)⟩)⟩,d4⟩
       ·rw[hL,ho,aD,az];show _=Ending.returned (.tuple #[.agg #[_,_,_,_,.slice G (BL p r nv).length I],_]);rw[<-c7,b6]
       ·rw[ho];exact bw
       ·show Is _ G (BL p r nv);rw[<-c7,b6];exact dR.is
      subst c7;clear ai aS T aI ax an aB hL aH aQ dN b4 ho aD az bt bb ch aq d4 d6 bw dh dR c Z y ac aE h6 aO hx b6
      go_wp2_with fail
      exact XJ (KW rfl rfl rfl HF.out.2) rfl HF.out.1
end
end Go.Proofs.YtdcacoifehkioaaGreatDoor
