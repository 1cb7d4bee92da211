import Derived.Test.YtdcacoifehkioaaGreatDoorExA3
import Derived.Test.YtdcacoifehkioaaGreatDoorExA32
import Derived.Deep.Cut
import Derived.Deep.DeepCutAuto
open Go renaming World->Xh,Calls->XY,bodyPost_ret->XI,wp_region_held_drew->Xy,wpAnyH_done->Yd,heap_setCell_other->Xt
open Go.RowKit renaming Below->Xm,wrap64->XN
open Nat renaming le_refl->Xd,zero_le->Xx,sub_lt_sub_left->Xl,lt_succ_self->Xo,le_trans->Xu
open List renaming getElem?_eq_getElem->Xe,mem_of_getElem?->Xz,take_of_length_le->XQ,length_append->Xb
open Array renaming getElem?_eq_some_iff->Xa
open Go.Act renaming put->XG
set_option maxRecDepth 100000
set_option maxHeartbeats 8000000
set_option linter.unusedVariables false
set_option linter.unusedSimpArgs false
namespace Go.Proofs.YtdcacoifehkioaaGreatDoor
open Go.RowKit Go.Shelf Go.Proofs.Cod
section
variable {w w':Xh} {nv nf nl nt nr:Nat} {P:RP} {TV:List (Value×Value)} {x1 x2 x3 x4:Option Addr} {z1 z2 z3 z4:Nat}
theorem WY {B:Nat} (ht:Cn w B) (hB:B<=w.heap.size) (hQ:DI w (.slice x1 nv z1) (.slice x2 nf z2) (.slice x3 nl z3) (.slice x4 nt z4) P TV) (bp:P.thr.length=nt) (h1:P.vs.length=nv) (h2:P.fs.length=nf) (h3:P.ls.length=nl) (cR:nt*4=nr) (hf:CK (AD P)) (hN:Eg (AD P)) (cx:∀m,CY (AD P) m->(Aj (AD P) m).length<4294967000) {most:Int} (dC : -9223372036854775808<=most/\most<=9223372036854775807) :
 XY Tryz.prog 9 #[.agg #[.slice x1 nv z1,.slice x2 nf z2,.slice x3 nl z3,.slice x4 nt z4],.int .i64 most] w (IV w ⟨nv,nf,nl,nt,nr⟩ (AD P) most):=by
 obtain⟨W,hW⟩:∃W,(w.alloc (.cells #[.slice x1 nv z1,.slice x2 nf z2,.slice x3 nl z3,.slice x4 nt z4] 28)).alloc (.cells #[.int .i64 0,.slice none 0 0,.bool false,.bool false,.slice none 0 0] 38)=W:=⟨_,rfl⟩;obtain⟨a9,k1,k2,hz⟩:=FH _ _ _ hW;obtain⟨y0,y1,y2,y3,y4⟩:=BP k2;obtain⟨f0,f1,f2,f3,f4⟩:=FM k2
 by_cases bM:BV most
 rotate_left
 ·have HF:Hid (IV w ⟨nv,nf,nl,nt,nr⟩ (AD P) most (.returned (.tuple #[.agg (FZ 0 false false),.int .i64 8])) (((((W.setCell ⟨w.heap.size+1,0,none⟩ (.int .i64 0)).setCell ⟨w.heap.size+1,1,none⟩ (.slice none 0 0)).setCell ⟨w.heap.size+1,2,none⟩ (.bool false)).setCell ⟨w.heap.size+1,3,none⟩ (.bool false)).setCell ⟨w.heap.size+1,4,none⟩ (.slice none 0 0))/\(((((W.setCell ⟨w.heap.size+1,0,none⟩ (.int .i64 0)).setCell ⟨w.heap.size+1,1,none⟩ (.slice none 0 0)).setCell ⟨w.heap.size+1,2,none⟩ (.bool false)).setCell ⟨w.heap.size+1,3,none⟩ (.bool false)).setCell ⟨w.heap.size+1,4,none⟩ (.slice none 0 0)).heap[w.heap.size+1]?=some (.cells #[.int .i64 0,.slice none 0 0,.bool false,.bool false,.slice none 0 0] 38)):=⟨⟨Oh _ _ _ _ _ a9 (by omega),.inl ⟨bM,rfl⟩⟩,NM _ _ _ _ _ k2⟩;unfold BV at bM
  by_cases e1:most<1
  ·clear a9 k1 k2 hz hQ bp h1 h2 h3 cR hf hN cx dC bM ht hB
   go_enter Tryz.func9,Tryz.ntmps9
   go_upto_region 1 with fail
   try rw[hW]
   clear hW
   go_wp2_with fail
   exact XI (KW rfl rfl rfl HF.out.2) rfl HF.out.1
  ·have e2:20000<most:=by omega
   clear a9 k1 k2 hz hQ bp h1 h2 h3 cR hf hN cx dC bM ht hB
   go_enter Tryz.func9,Tryz.ntmps9
   go_upto_region 1 with fail
   try rw[hW]
   clear hW
   go_wp2_with fail
   exact XI (KW rfl rfl rfl HF.out.2) rfl HF.out.1
 have d2:=bM;unfold BV at d2;obtain⟨mn,rfl⟩:∃mn:Nat,most=mn:=⟨most.toNat,by omega⟩;have m1:¬(mn:Int)<1:=by omega
 have m2:¬(20000:Int)<(mn:Int):=by omega
 have d7:∀u,Xm (w.heap.size+1) W u->Xm w.heap.size w u:=λu H=>a9.trans (H.mono (by omega));have dH:(Ai P).length=nt:=by unfold Ai;rw[List.length_map];exact bp
 have cS:Ef nv nf nl (Ai P):=by
  have:=hf.fit;rw[<-h1,<-h2,<-h3];exact this
 have h4:nt<=4:=by have:=cS.four;omega
 have aJ:nv<=4:=by rw[<-h1];exact hf.v
 have b0:∀u,Xm w.heap.size w u->DI u (.slice x1 nv z1) (.slice x2 nf z2) (.slice x3 nl z3) (.slice x4 nt z4) P TV/\Cn u B/\B<=u.heap.size:=λu H=>⟨hQ.below H,ht.keep (H.mono hB),by have:=H.size;omega⟩
 have dL:=Wi (nr:=nr) (ht.keep (a9.mono hB)) (by have:=a9.size;omega) (hQ.below a9) bp h1 h2 h3 cR hf hN (λm U=>Nat.lt_trans (cx m U) (by decide)) (most:=mn) (by omega) (by omega);have dU:Hid (∀(u:Xh) (s:S6) (m:MS),Xm w.heap.size w u->Dk u s ⟨nv,nf,nl,nt,nr⟩ m->AW nv nf nl (Ai P) m->XY Tryz.prog 33 #[.agg #[.slice x1 nv z1,.slice x2 nf z2,.slice x3 nl z3,.slice x4 nt z4],.agg #[.slice s.a0 nv s.c0,.slice s.a1 nf s.c1,.slice s.a2 nl s.c2,.slice s.a3 nt s.c3,.slice s.a4 nt s.c4,.slice s.a5 nr s.c5]] u λe w'=>∃v,e = .returned v/\w'.ownsRow u.heap.size 3 1 v (AP (Ai P) m).length ((AP (Ai P) m).map Ck)/\Xm u.heap.size u w'):=λu s m H hd hM=>MG (b0 u H).1 bp hd.Im hM cS;have eo:Hid (∀(u:Xh) (s:S6) (m:MS),Dk u s ⟨nv,nf,nl,nt,nr⟩ m->XY Tryz.prog 34 #[.agg #[.slice s.a0 nv s.c0,.slice s.a1 nf s.c1,.slice s.a2 nl s.c2,.slice s.a3 nt s.c3,.slice s.a4 nt s.c4,.slice s.a5 nr s.c5]] u λe w'=>e = .returned (.bool (decide (0<Ay m)))/\Xm u.heap.size u w'):=λu s m hd=>Qn hd.Im h4;have d0:Hid (∀(u:Xh) (s:S6) (m:MS),Xm w.heap.size w u->Dk u s ⟨nv,nf,nl,nt,nr⟩ m->AW nv nf nl (Ai P) m->XY Tryz.prog 36 #[.agg #[.slice x1 nv z1,.slice x2 nf z2,.slice x3 nl z3,.slice x4 nt z4],.agg #[.slice s.a0 nv s.c0,.slice s.a1 nf s.c1,.slice s.a2 nl s.c2,.slice s.a3 nt s.c3,.slice s.a4 nt s.c4,.slice s.a5 nr s.c5]] u λe w'=>e = .returned (.string (bs (Bz (AD P) m)))/\Xm u.heap.size u w'):=λu s m H hd hM=>Wq (b0 u H).2.1 (b0 u H).2.2 (b0 u H).1 bp h1 h2 h3 hd.Im hM hf hN;have dP:Hid (∀(u:Xh) (s:S6) (m:MS) (x:Int),Xm w.heap.size w u->Dk u s ⟨nv,nf,nl,nt,nr⟩ m->AW nv nf nl (Ai P) m->XY Tryz.prog 37 #[.agg #[.slice x1 nv z1,.slice x2 nf z2,.slice x3 nl z3,.slice x4 nt z4],.agg #[.slice s.a0 nv s.c0,.slice s.a1 nf s.c1,.slice s.a2 nl s.c2,.slice s.a3 nt s.c3,.slice s.a4 nt s.c4,.slice s.a5 nr s.c5],.int .i64 x] u λe w'=>e = .returned (.bool (DU (Ai P) m x))/\Xm u.heap.size u w'):=λu s m x H hd hM=>Wl x (b0 u H).1 bp hd.Im hM cS;have cB:∀m,AW nv nf nl (Ai P) m->(Bz (AD P) m).length<4294967296:=λm hM=>by
  have cL:CY (AD P) m:=by
   show AW P.vs.length P.fs.length P.ls.length (Ai P) m;rw[h1,h2,h3];exact hM
  exact aaX hN cL hf
 have cK:Hid (∀u,Xm (w.heap.size+1) W u->(u.cell? ⟨w.heap.size,0,none⟩=some (.slice x1 nv z1)/\u.cell? ⟨w.heap.size,1,none⟩=some (.slice x2 nf z2)/\u.cell? ⟨w.heap.size,2,none⟩=some (.slice x3 nl z3)/\u.cell? ⟨w.heap.size,3,none⟩=some (.slice x4 nt z4))):=λu H=>Cl ((H.block _ (by omega)).trans k1);have dp:(AD P).vs.length=nv:=h1;have cD:(AD P).C=Ai P:=rfl;obtain⟨p,hp⟩:∃p,AD P=p:=⟨_,rfl⟩;obtain⟨C,hC⟩:∃C,Ai P=C:=⟨_,rfl⟩;rw[hp] at cD dL cB dp |-;rw[hC] at cD dH cB;simp only[hp,hC] at dU d0 dP;obtain⟨q0,q1,q2,q3⟩:=cK.out W (Below.refl _ _);have V:=Aa (⟨a9,hz,d7,k2,bM⟩:_/\_/\_/\_/\_);have HK:=Aa (⟨cB,dp,cD,dH,h4,aJ⟩:_/\_/\_/\_/\_/\_);clear a9 k1 k2 hz bM d2 d7 dH cS h4 aJ b0 cB dp cD hp hC hQ bp h1 h2 h3 cR hf hN cx dC ht hB
 go_enter Tryz.func9,Tryz.ntmps9
 go_upto_region 1 with fail
 try rw[hW]
 clear hW
 go_wp2_with fail
 refine dL.mono ?_;rintro e w1 ⟨bA,h⟩;clear dL q0 q1 q2 q3 y0 y1 y2 y3 y4 f0 f1 f2 f3 f4 m1 m2;have kZ:=(bA.block (w.heap.size+1) (by have:=V.out.2.1;omega)).trans V.out.2.2.2.1
 rcases h with⟨dQ,rfl⟩|⟨r,v,S,aG,rfl,hA,aE,an⟩
 ·have HF:Hid (IV w ⟨nv,nf,nl,nt,nr⟩ p mn (.returned (.tuple #[.agg (FZ 0 false false),.int .i64 4])) (((((w1.setCell ⟨w.heap.size+1,0,none⟩ (.int .i64 0)).setCell ⟨w.heap.size+1,1,none⟩ (.slice none 0 0)).setCell ⟨w.heap.size+1,2,none⟩ (.bool false)).setCell ⟨w.heap.size+1,3,none⟩ (.bool false)).setCell ⟨w.heap.size+1,4,none⟩ (.slice none 0 0))/\(((((w1.setCell ⟨w.heap.size+1,0,none⟩ (.int .i64 0)).setCell ⟨w.heap.size+1,1,none⟩ (.slice none 0 0)).setCell ⟨w.heap.size+1,2,none⟩ (.bool false)).setCell ⟨w.heap.size+1,3,none⟩ (.bool false)).setCell ⟨w.heap.size+1,4,none⟩ (.slice none 0 0)).heap[w.heap.size+1]?=some (.cells #[.int .i64 0,.slice none 0 0,.bool false,.bool false,.slice none 0 0] 38)):=⟨⟨Oh _ _ _ _ _ (V.out.1.trans (bA.mono V.out.1.size)) (by omega),.inr (.inl ⟨V.out.2.2.2.2,by rw[Int.toNat_natCast];exact dQ,rfl⟩)⟩,NM _ _ _ _ _ kZ⟩;obtain⟨y0,y1,y2,y3,y4⟩:=BP kZ;obtain⟨f0,f1,f2,f3,f4⟩:=FM kZ;clear bA dQ kZ
  go_wp2_with fail
  exact XI (KW rfl rfl rfl HF.out.2) rfl HF.out.1
 ·obtain⟨va,ew,rfl⟩:=As hA.row;obtain⟨L,hL⟩:∃L,r.length=L:=⟨_,rfl⟩;rw[hL] at hA aE |-;obtain⟨A,bC⟩:∃A,w1.alloc (.cells #[.int .i64 L,.slice none 0 0,.bool false,.bool false,.slice none 0 0] 38)=A:=⟨_,rfl⟩;have dq:Xm w1.heap.size w1 A:=by rw[<-bC];exact(Below.refl _ _).alloc (Xd _) _
  have c:A.heap[w1.heap.size]?=some (.cells #[.int .i64 L,.slice none 0 0,.bool false,.bool false,.slice none 0 0] 38):=by rw[<-bC];exact World.alloc_heap_new w1 _
  have R:A.heap.size=w1.heap.size+1:=by rw[<-bC];show (w1.heap.push _).size=_;simp
  have aj:=hA.below dq;obtain⟨rb,cp⟩:∃rb,w1.heap.size=rb:=⟨_,rfl⟩;rw[cp] at c R;have bc:=V.out.2.1;have aH:W.heap.size<=rb:=by rw[<-cp];exact bA.size
  have dv:Xm W.heap.size W A:=bA.trans (dq.mono bA.size);have ax:A.heap[w.heap.size+1]?=some (.cells #[.int .i64 0,.slice none 0 0,.bool false,.bool false,.slice none 0 0] 38):=(dv.block _ (by omega)).trans V.out.2.2.2.1;have bf:Hid (∀u,Ac (λk=>k=rb) A u->Xm W.heap.size W u/\Xm w.heap.size w u):=λu H=>by
   have q:=dv.trans (H.below (B:=W.heap.size) aH (by omega))
   exact⟨q,V.out.1.trans (q.mono V.out.1.size)⟩
  have HA:=Aa (⟨aj,c,R,aH,aE,an,aG,hL,ax⟩:_/\_/\_/\_/\_/\_/\_/\_/\_);have dM:Hid (∃a z,A.heap[rb]?=some (.cells (Cc L a (Bx p (r.take 0)).length z (BC p.C (r.take 0)) (CE (r.take 0)) none 0 0) 38)/\Ts A a (Bx p (r.take 0))/\CZ w.heap.size a):=⟨none,0,c,(λi hi=>absurd hi (Nat.not_lt_zero i)),.inl rfl⟩;replace cp:=Aa cp;replace bC:=Aa bC;clear bA kZ hA aE an aG hL dq c R aj bc aH dv ax
  go_wp2_with fail
  rw[bC.out];rw[cp.out];clear bC
  go_loopw [9] (λiv wr=>∃i:Nat,i<=L/\iv = .int .i64 i/\(∃a z,wr.heap[rb]?=some (.cells (Cc L a (Bx p (r.take i)).length z (BC p.C (r.take i)) (CE (r.take i)) none 0 0) 38)/\Ts wr a (Bx p (r.take i))/\CZ w.heap.size a)/\Ac (λk=>k=rb) A wr) (λiv _=>L - (intOf iv).toNat)
  case atStart=>exact⟨0,Xx _,rfl,dM.out,Ac.refl _⟩
  case round=>
   clear dM;obtain⟨i,hi,rfl,⟨a,z,c,af,bU⟩,y⟩:=hrel;replace bU:=Aa bU
   by_cases h5:i<L
   ·obtain⟨aj,aT,R,aH,aE,an,aG,hL,ax⟩:=HA.out;obtain⟨m,U⟩:∃m,r[i]?=some m:=⟨_,Xe (by omega)⟩;have bS:AW nv nf nl C m:=by
     have:=an m (Xz U);rw[HK.out.2.2.1] at this;exact this
    obtain⟨g,cap,s,hv,hs,dk,-⟩:=aj.at U;have dJ:va=some ⟨g,0,none⟩:=by injection hv
    clear hv;subst dJ;obtain⟨a0,a1,a2,a3,a4,a5,c0,c1,c2,c3,c4,c5⟩:=s;have bc:=V.out.2.1;have M:Hid (∀u,Ac (λk=>k=rb) A u->((u.cell? ⟨w.heap.size,0,none⟩=some (.slice x1 nv z1)/\u.cell? ⟨w.heap.size,1,none⟩=some (.slice x2 nf z2)/\u.cell? ⟨w.heap.size,2,none⟩=some (.slice x3 nl z3)/\u.cell? ⟨w.heap.size,3,none⟩=some (.slice x4 nt z4))/\(u.cell? ⟨g,i*6,none⟩=some (.slice a0 nv c0)/\u.cell? ⟨g,i*6+1,none⟩=some (.slice a1 nf c1)/\u.cell? ⟨g,i*6+2,none⟩=some (.slice a2 nl c2)/\u.cell? ⟨g,i*6+3,none⟩=some (.slice a3 nt c3)/\u.cell? ⟨g,i*6+4,none⟩=some (.slice a4 nt c4)/\u.cell? ⟨g,i*6+5,none⟩=some (.slice a5 nr c5)))/\Dk u ⟨a0,a1,a2,a3,a4,a5,c0,c1,c2,c3,c4,c5⟩ ⟨nv,nf,nl,nt,nr⟩ m):=λu H=>by
     obtain⟨-,hd,t0,t1,t2,t3,t4,t5⟩:=(aj.GF aT H).at' hs U
     exact⟨⟨cK.out u ((bf.out u H).1.mono (by omega)),t0,t1,t2,t3,t4,t5⟩,hd⟩
    have ex:(i:Int)<(L:Int):=by omega
    have d4:Hid (XN ((i:Int)+1)=(i:Int)+1):=by
     have:=V.out.2.2.2.2;unfold BV at this;have:=Cv (n:=i+1) (by omega)
     push_cast at this
     exact this
    have bg:Ac (λk=>k=rb) A wr.drew:=y.Fq ⟨rfl,rfl,rfl,Xd _,λ_ _=>rfl⟩;have cz:=dU.out wr.drew ⟨a0,a1,a2,a3,a4,a5,c0,c1,c2,c3,c4,c5⟩ m (bf.out _ bg).2 (M.out _ bg).2 bS;dsimp only at cz;have dG:GK p.C m=decide ((AP C m).length=0):=by unfold GK;rw[HK.out.2.2.1]
    obtain⟨rl,aF⟩:∃rl,AP C m=rl:=⟨_,rfl⟩;rw[aF] at cz dG;obtain⟨bE,cU⟩:∃b,((rl.length:Int) == 0)=b:=⟨_,rfl⟩;have cj:GK p.C m=bE:=by
     rw[dG,<-cU]
     by_cases e:rl.length=0
     ·rw[e];rfl
     ·rw[decide_eq_false e]
      symm
      simp only[beq_eq_false_iff_ne]
      omega
    have cc:=Aa (M.out _ bg).1;have hF:bE=false->(Bx p (r.take (i+1)))=(Bx p (r.take i))/\(BC p.C (r.take (i+1)))=(BC p.C (r.take i)):=λe=>by
     rw[Tg U];unfold FD BC;rw[cj,KL U,If,cj,e]
     exact⟨rfl,by simp⟩
    have hT:bE=true->(Bx p (r.take (i+1)))=Cb (Bz p m) (Bx p (r.take i))/\(BC p.C (r.take (i+1)))=((BC p.C (r.take i))||decide (0<Ay m)):=λe=>by
     rw[Tg U];unfold FD BC;rw[cj,KL U,If,cj,e]
     exact⟨rfl,by simp⟩
    have dR:(CE (r.take (i+1)))=((CE (r.take i))||Bt m):=by unfold CE;exact KL U
    have cN:=Th p (r.take i);rw[List.length_take] at cN;have dm:=Kl p (r.take i);have dg:∀x,x∈(Bx p (r.take i))->x.length<4294967296:=λx hx=>by
     obtain⟨m',ec,-,e⟩:=(Ka p _ x).1 hx;rw[<-e];have cL:=an m' (List.mem_of_mem_take ec);rw[HK.out.2.2.1] at cL;exact HK.out.1 m' cL
    have dZ:i<=20000:=by have:=V.out.2.2.2.2;unfold BV at this;omega
    obtain⟨o,ho⟩:∃o,(Bx p (r.take i))=o:=⟨_,rfl⟩;obtain⟨N,ay⟩:∃b,(BC p.C (r.take i))=b:=⟨_,rfl⟩;obtain⟨fa,aB⟩:∃b,(CE (r.take i))=b:=⟨_,rfl⟩;rw[ho,ay,aB] at c;rw[ho] at af hF hT cN dm dg;rw[ay] at hF hT;have HO:=Aa (⟨ho,ay,aB,hF,hT⟩:_/\_/\_/\_/\_);have O:=Aa (⟨y,af,cN,dm,dg,bS,dR,h5,dZ,U⟩:_/\_/\_/\_/\_/\_/\_/\_/\_/\_);obtain⟨v0,v1,v2,v3,v4⟩:=BP c;replace c:=Aa c;obtain⟨⟨⟨q0,q1,q2,q3⟩,s0,s1,s2,s3,s4,s5⟩,-⟩:=M.out wr y;clear aj aT R aH aE an aG hL ax U hs dk bc bg dG aF cj hF hT dR cN dm dg dZ ho ay aB y af bS h5 hi;replace cU:=Aa cU
    go_upto_region 10 with fail
    have eb:=cU.out;refine Xy (S:=(λu=>(u.cell? ⟨w.heap.size,0,none⟩=some (.slice x1 nv z1)/\u.cell? ⟨w.heap.size,1,none⟩=some (.slice x2 nf z2)/\u.cell? ⟨w.heap.size,2,none⟩=some (.slice x3 nl z3)/\u.cell? ⟨w.heap.size,3,none⟩=some (.slice x4 nt z4))/\(u.cell? ⟨g,i*6,none⟩=some (.slice a0 nv c0)/\u.cell? ⟨g,i*6+1,none⟩=some (.slice a1 nf c1)/\u.cell? ⟨g,i*6+2,none⟩=some (.slice a2 nl c2)/\u.cell? ⟨g,i*6+3,none⟩=some (.slice a3 nt c3)/\u.cell? ⟨g,i*6+4,none⟩=some (.slice a4 nt c4)/\u.cell? ⟨g,i*6+5,none⟩=some (.slice a5 nr c5)))) (by kernel_rfl) cc.out (λd=>?_);refine tk 0 d ?_;refine tk 1 d ?_;refine tk 2 d ?_;refine tk 3 d ?_;refine tk 4 d ?_;refine rd 5 (λK F=>?_)
    go_simp
    go_at_call 33
    refine cz.mono ?_;rintro e w2 ⟨v,rfl,Y,aC⟩;obtain⟨G,I,rfl⟩:=As Y;have bR:Hid (Ac (λk=>k=rb) A w2):=O.out.1.Fq ⟨aC.os,aC.tape,aC.output,aC.size,aC.block⟩;have bN:Hid (w2.heap[rb]?=some (.cells (Cc L a o.length z N fa none 0 0) 38)/\Ts w2 a o):=⟨(aC.block rb (Xa.1 c.out).1).trans c.out,O.out.2.1.below ⟨aC.os,aC.tape,aC.output,aC.size,aC.block⟩⟩;have hq:=Aa (M.out w2 bR.out).1;clear Y aC
    go_wp2_with fail
    refine F.out _ _ hq.out (λd=>?_);clear F K hq
    try simp only[XG,sq]
    refine tk 6 d ?_;refine tk 7 d ?_;refine Yd (by kernel_rfl) ?_ _;clear d cc cz eb v0 v1 v2 v3 v4 q0 q1 q2 q3 s0 s1 s2 s3 s4 s5
    go_upto_if 47 with fail
    go_cut [] (λwx=>∃a z,wx.heap[rb]?=some (.cells (Cc L a (Bx p (r.take (i+1))).length z (BC p.C (r.take (i+1))) (CE (r.take i)) none 0 0) 38)/\Ts wx a (Bx p (r.take (i+1)))/\CZ w.heap.size a/\Ac (λk=>k=rb) A wx)
    case first=>
     cases bE with
     |false=>
      go_wp2_with fail
      go_meet
      obtain⟨ho,ay,aB,hF,hT⟩:=HO.out;obtain⟨e1,e2⟩:=hF (by first|rfl|trivial);rw[e1,e2,aB]
      exact⟨a,z,bN.out.1,bN.out.2,bU.out,bR.out⟩
     |true=>
      have df:=eo.out w2 ⟨a0,a1,a2,a3,a4,a5,c0,c1,c2,c3,c4,c5⟩ m (M.out w2 bR.out).2;dsimp only at df;obtain⟨⟨-,s0,s1,s2,s3,s4,s5⟩,-⟩:=M.out w2 bR.out
      go_wp2_with fail
      refine df.mono ?_;rintro e w3 ⟨rfl,cG⟩;have cX:Hid (Ac (λk=>k=rb) A w3):=bR.out.Fq cG;have aS:Hid (w3.heap[rb]?=some (.cells (Cc L a o.length z N fa none 0 0) 38)/\Ts w3 a o):=⟨(cG.block rb (Xa.1 bN.out.1).1).trans bN.out.1,bN.out.2.below cG⟩;obtain⟨sk,dT⟩:∃b,decide (0<Ay m)=b:=⟨_,rfl⟩;rw[dT] at HO |-;clear df s0 s1 s2 s3 s4 s5 cG bN dT
      go_upto_region 12 with fail
      have cF:Hid (Ac (λk=>k=rb) A w3.drew):=cX.out.Fq ⟨rfl,rfl,rfl,Xd _,λ_ _=>rfl⟩;have dy:=d0.out w3.drew ⟨a0,a1,a2,a3,a4,a5,c0,c1,c2,c3,c4,c5⟩ m (bf.out _ cF.out).2 (M.out _ cF.out).2 O.out.2.2.2.2.2.1;dsimp only at dy;have ei:=Aa (M.out _ cF.out).1;refine Xy (S:=(λu=>(u.cell? ⟨w.heap.size,0,none⟩=some (.slice x1 nv z1)/\u.cell? ⟨w.heap.size,1,none⟩=some (.slice x2 nf z2)/\u.cell? ⟨w.heap.size,2,none⟩=some (.slice x3 nl z3)/\u.cell? ⟨w.heap.size,3,none⟩=some (.slice x4 nt z4))/\(u.cell? ⟨g,i*6,none⟩=some (.slice a0 nv c0)/\u.cell? ⟨g,i*6+1,none⟩=some (.slice a1 nf c1)/\u.cell? ⟨g,i*6+2,none⟩=some (.slice a2 nl c2)/\u.cell? ⟨g,i*6+3,none⟩=some (.slice a3 nt c3)/\u.cell? ⟨g,i*6+4,none⟩=some (.slice a4 nt c4)/\u.cell? ⟨g,i*6+5,none⟩=some (.slice a5 nr c5)))) (by kernel_rfl) ei.out (λd=>?_);refine tk 0 d ?_;refine tk 2 d ?_;refine tk 3 d ?_;refine tk 4 d ?_;refine tk 5 d ?_;refine tk 6 d ?_;refine wpAnyH_ready (rs:=[1,7]) (by kernel_rfl) (by simp) ?_;refine AllReadyH.cons rfl (λK F=>?_) (AllReadyH.cons rfl (λK F=>?_) AllReadyH.nil)
      ·have zl:=(BP aS.out.1).2.1
       go_simp
       refine F.out _ _ (M.out _ cF.out).1 (λd=>?_);clear F K zl
       try simp only[XG,sq]
       refine rd 7 (λK F=>?_)
       go_simp
       go_at_call 36
       refine dy.mono ?_;rintro e w4 ⟨rfl,av⟩;have bn:Xm w3.heap.size w3 w4:=⟨av.os,av.tape,av.output,av.size,av.block⟩;have br:Hid (Ac (λk=>k=rb) A w4):=cX.out.Fq bn;have bo:Hid (w4.heap[rb]?=some (.cells (Cc L a o.length z N fa none 0 0) 38)/\Ts w4 a o):=⟨(bn.block rb (Xa.1 aS.out.1).1).trans aS.out.1,aS.out.2.below bn⟩;have hq:=Aa (M.out _ br.out).1;clear av bn d
       go_wp2_with fail
       refine F.out _ _ hq.out (λd=>?_);clear F K hq
       try simp only[XG,sq]
       have bB:=OJ (cap:=z) (s:=Bz p m) bo.out.2 O.out.2.2.2.1 (by have:=O.out.2.2.1;have:=O.out.2.2.2.2.2.2.2.2.1;omega) (HK.out.1 m O.out.2.2.2.2.2.1) O.out.2.2.2.2.1;obtain⟨om,b5⟩:∃x,Bz p m=x:=⟨_,rfl⟩;rw[b5] at bB HO |-;clear d b5;refine rd 8 (λK F=>?_)
       go_simp
       go_at_call 35
       refine bB.mono ?_;rintro e D ⟨f,E,rfl,bq,ci,bz⟩;have ce:Hid (CZ w.heap.size f):=by
        rcases ci with q|q
        ·rw[q];exact bU.out
        ·exact q.mono (bf.out _ br.out).2.size
       clear ci;obtain⟨J,aN⟩:∃x,(Cb om o).length=x:=⟨_,rfl⟩;rw[aN];replace aN:=Aa aN;have aw:Hid (Ac (λk=>k=rb) A D):=br.out.Fq bz;have ac:D.heap[rb]?=some (.cells (Cc L a o.length z N fa none 0 0) 38):=(bz.block rb (Xa.1 bo.out.1).1).trans bo.out.1;have cs:=Aa bq;have hq:=Aa (M.out _ aw.out).1;clear bq bz bB
       go_wp2_with fail
       refine F.out _ _ hq.out (λd=>?_);clear F K hq
       try simp only[XG,sq]
       refine tk 9 d ?_;have z1:=(BP ac).2.1;have z2:=(FM ac).2.1;have b6:Hid (Ac (λk=>k=rb) A (D.setCell ⟨rb,1,none⟩ (.slice f J E))):=aw.out.set (.inl rfl) _;refine rd 10 (λK F=>?_)
       go_simp
       refine F.out _ _ (M.out _ b6.out).1 (λd=>?_);clear F K d
       try simp only[XG,sq]
       refine Yd (by kernel_rfl) ?_ _;clear z1 z2 b6
       cases N with
       |true=>
        have T:=Lb ac f J E;obtain⟨v0,v1,v2,v3,v4⟩:=BP T;obtain⟨f0,f1,f2,f3,f4⟩:=FM T;have aM:=La T true;have ah:Ac (λk=>k=rb) D ((D.setCell ⟨rb,1,none⟩ (.slice f J E)).setCell ⟨rb,2,none⟩ (.bool true)):=(Ep D rb 1 _).trans (Ep _ rb 2 _);have l:Hid (((D.setCell ⟨rb,1,none⟩ (.slice f J E)).setCell ⟨rb,2,none⟩ (.bool true)).heap[rb]?=some (.cells (Cc L f (Bx p (r.take (i+1))).length E (BC p.C (r.take (i+1))) (CE (r.take i)) none 0 0) 38)/\Ts ((D.setCell ⟨rb,1,none⟩ (.slice f J E)).setCell ⟨rb,2,none⟩ (.bool true)) f (Bx p (r.take (i+1)))/\CZ w.heap.size f/\Ac (λk=>k=rb) A ((D.setCell ⟨rb,1,none⟩ (.slice f J E)).setCell ⟨rb,2,none⟩ (.bool true))):=by
         obtain⟨ag,bG⟩:=HO.out.2.2.2.2 (by first|rfl|trivial);have bx:(BC p.C (r.take (i+1)))=true:=by rw[bG];simp
         refine⟨?_,?_,ce.out,aw.out.trans ah⟩
         ·rw[ag,bx,HO.out.2.2.1,aN.out];exact aM
         ·rw[ag];exact cs.out.GF ac ah
        clear T aM ah ac
        go_wp2_with fail
        go_meet
        exact⟨f,E,l.out⟩
       |false=>
        have T:=Lb ac f J E;obtain⟨v0,v1,v2,v3,v4⟩:=BP T;obtain⟨f0,f1,f2,f3,f4⟩:=FM T;have aM:=La T sk;have ah:Ac (λk=>k=rb) D ((D.setCell ⟨rb,1,none⟩ (.slice f J E)).setCell ⟨rb,2,none⟩ (.bool sk)):=(Ep D rb 1 _).trans (Ep _ rb 2 _);have l:Hid (((D.setCell ⟨rb,1,none⟩ (.slice f J E)).setCell ⟨rb,2,none⟩ (.bool sk)).heap[rb]?=some (.cells (Cc L f (Bx p (r.take (i+1))).length E (BC p.C (r.take (i+1))) (CE (r.take i)) none 0 0) 38)/\Ts ((D.setCell ⟨rb,1,none⟩ (.slice f J E)).setCell ⟨rb,2,none⟩ (.bool sk)) f (Bx p (r.take (i+1)))/\CZ w.heap.size f/\Ac (λk=>k=rb) A ((D.setCell ⟨rb,1,none⟩ (.slice f J E)).setCell ⟨rb,2,none⟩ (.bool sk))):=by
         obtain⟨ag,bG⟩:=HO.out.2.2.2.2 (by first|rfl|trivial);have bx:(BC p.C (r.take (i+1)))=sk:=by rw[bG];simp
         refine⟨?_,?_,ce.out,aw.out.trans ah⟩
         ·rw[ag,bx,HO.out.2.2.1,aN.out];exact aM
         ·rw[ag];exact cs.out.GF ac ah
        clear T aM ah ac
        go_wp2_with fail
        go_meet
        exact⟨f,E,l.out⟩
      ·go_simp
       go_at_call 36
       refine dy.mono ?_;rintro e w4 ⟨rfl,av⟩;have bn:Xm w3.heap.size w3 w4:=⟨av.os,av.tape,av.output,av.size,av.block⟩;have br:Hid (Ac (λk=>k=rb) A w4):=cX.out.Fq bn;have bo:Hid (w4.heap[rb]?=some (.cells (Cc L a o.length z N fa none 0 0) 38)/\Ts w4 a o):=⟨(bn.block rb (Xa.1 aS.out.1).1).trans aS.out.1,aS.out.2.below bn⟩;have hq:=Aa (M.out _ br.out).1;clear av bn d
       go_wp2_with fail
       refine F.out _ _ hq.out (λd=>?_);clear F K hq
       try simp only[XG,sq]
       refine rd 1 (λK F=>?_);have zl:=(BP bo.out.1).2.1
       go_simp
       refine F.out _ _ (M.out _ br.out).1 (λd=>?_);clear F K zl
       try simp only[XG,sq]
       have bB:=OJ (cap:=z) (s:=Bz p m) bo.out.2 O.out.2.2.2.1 (by have:=O.out.2.2.1;have:=O.out.2.2.2.2.2.2.2.2.1;omega) (HK.out.1 m O.out.2.2.2.2.2.1) O.out.2.2.2.2.1;obtain⟨om,b5⟩:∃x,Bz p m=x:=⟨_,rfl⟩;rw[b5] at bB HO |-;clear d b5;refine rd 8 (λK F=>?_)
       go_simp
       go_at_call 35
       refine bB.mono ?_;rintro e D ⟨f,E,rfl,bq,ci,bz⟩;have ce:Hid (CZ w.heap.size f):=by
        rcases ci with q|q
        ·rw[q];exact bU.out
        ·exact q.mono (bf.out _ br.out).2.size
       clear ci;obtain⟨J,aN⟩:∃x,(Cb om o).length=x:=⟨_,rfl⟩;rw[aN];replace aN:=Aa aN;have aw:Hid (Ac (λk=>k=rb) A D):=br.out.Fq bz;have ac:D.heap[rb]?=some (.cells (Cc L a o.length z N fa none 0 0) 38):=(bz.block rb (Xa.1 bo.out.1).1).trans bo.out.1;have cs:=Aa bq;have hq:=Aa (M.out _ aw.out).1;clear bq bz bB
       go_wp2_with fail
       refine F.out _ _ hq.out (λd=>?_);clear F K hq
       try simp only[XG,sq]
       refine tk 9 d ?_;have z1:=(BP ac).2.1;have z2:=(FM ac).2.1;have b6:Hid (Ac (λk=>k=rb) A (D.setCell ⟨rb,1,none⟩ (.slice f J E))):=aw.out.set (.inl rfl) _;refine rd 10 (λK F=>?_)
       go_simp
       refine F.out _ _ (M.out _ b6.out).1 (λd=>?_);clear F K d
       try simp only[XG,sq]
       refine Yd (by kernel_rfl) ?_ _;clear z1 z2 b6
       cases N with
       |true=>
        have T:=Lb ac f J E;obtain⟨v0,v1,v2,v3,v4⟩:=BP T;obtain⟨f0,f1,f2,f3,f4⟩:=FM T;have aM:=La T true;have ah:Ac (λk=>k=rb) D ((D.setCell ⟨rb,1,none⟩ (.slice f J E)).setCell ⟨rb,2,none⟩ (.bool true)):=(Ep D rb 1 _).trans (Ep _ rb 2 _);have l:Hid (((D.setCell ⟨rb,1,none⟩ (.slice f J E)).setCell ⟨rb,2,none⟩ (.bool true)).heap[rb]?=some (.cells (Cc L f (Bx p (r.take (i+1))).length E (BC p.C (r.take (i+1))) (CE (r.take i)) none 0 0) 38)/\Ts ((D.setCell ⟨rb,1,none⟩ (.slice f J E)).setCell ⟨rb,2,none⟩ (.bool true)) f (Bx p (r.take (i+1)))/\CZ w.heap.size f/\Ac (λk=>k=rb) A ((D.setCell ⟨rb,1,none⟩ (.slice f J E)).setCell ⟨rb,2,none⟩ (.bool true))):=by
         obtain⟨ag,bG⟩:=HO.out.2.2.2.2 (by first|rfl|trivial);have bx:(BC p.C (r.take (i+1)))=true:=by rw[bG];simp
         refine⟨?_,?_,ce.out,aw.out.trans ah⟩
         ·rw[ag,bx,HO.out.2.2.1,aN.out];exact aM
         ·rw[ag];exact cs.out.GF ac ah
        clear T aM ah ac
        go_wp2_with fail
        go_meet
        exact⟨f,E,l.out⟩
       |false=>
        have T:=Lb ac f J E;obtain⟨v0,v1,v2,v3,v4⟩:=BP T;obtain⟨f0,f1,f2,f3,f4⟩:=FM T;have aM:=La T sk;have ah:Ac (λk=>k=rb) D ((D.setCell ⟨rb,1,none⟩ (.slice f J E)).setCell ⟨rb,2,none⟩ (.bool sk)):=(Ep D rb 1 _).trans (Ep _ rb 2 _);have l:Hid (((D.setCell ⟨rb,1,none⟩ (.slice f J E)).setCell ⟨rb,2,none⟩ (.bool sk)).heap[rb]?=some (.cells (Cc L f (Bx p (r.take (i+1))).length E (BC p.C (r.take (i+1))) (CE (r.take i)) none 0 0) 38)/\Ts ((D.setCell ⟨rb,1,none⟩ (.slice f J E)).setCell ⟨rb,2,none⟩ (.bool sk)) f (Bx p (r.take (i+1)))/\CZ w.heap.size f/\Ac (λk=>k=rb) A ((D.setCell ⟨rb,1,none⟩ (.slice f J E)).setCell ⟨rb,2,none⟩ (.bool sk))):=by
         obtain⟨ag,bG⟩:=HO.out.2.2.2.2 (by first|rfl|trivial);have bx:(BC p.C (r.take (i+1)))=sk:=by rw[bG];simp
         refine⟨?_,?_,ce.out,aw.out.trans ah⟩
         ·rw[ag,bx,HO.out.2.2.1,aN.out];exact aM
         ·rw[ag];exact cs.out.GF ac ah
        clear T aM ah ac
        go_wp2_with fail
        go_meet
        exact⟨f,E,l.out⟩
    case rest=>
     obtain⟨a,z,c,af,du,y⟩:=hcut;replace du:=Aa du;obtain⟨o1,ag⟩:∃o,(Bx p (r.take (i+1)))=o:=⟨_,rfl⟩;obtain⟨d6,dt⟩:∃o,(BC p.C (r.take (i+1)))=o:=⟨_,rfl⟩;rw[ag,dt,HO.out.2.2.1] at c;rw[ag] at af;have HR:=Aa (⟨c,af,y⟩:_/\_/\_);have HQ:=Aa (⟨ag,dt⟩:_/\_);clear c af y ag dt bN bR
     go_wp2_with fail
     go_loopw [11] (λtv wr=>∃t:Nat,t<=nt/\tv = .int .i64 t/\wr.heap[rb]?=some (.cells (Cc L a o1.length z d6 (fa||(m.thr.take t).any (λth=>th.ph == 3)) none 0 0) 38)/\Ts wr a o1/\Ac (λk=>k=rb) A wr) (λtv _=>nt - (intOf tv).toNat)
     case atStart=>exact⟨0,Xx _,rfl,(by rw[List.take_zero,List.any_nil,Bool.or_false];exact HR.out.1),HR.out.2.1,HR.out.2.2⟩
     case round=>
      rename Xh=>w6
      clear HR;obtain⟨t,ht,rfl,c,af,y⟩:=hrel;obtain⟨⟨-,t0,t1,t2,t3,t4,t5⟩,hd⟩:=M.out w6 y;have h4:=HK.out.2.2.2.2.1
      by_cases h6:t<nt
      ·have eu:(t:Int)<(nt:Int):=by omega
       have dF:m.thr.length=nt:=hd.lt;have dw:=adB (m:=m) t (by omega);obtain⟨b,ef,e1,ee,eh⟩:=hd.Im.MW h6;have e1:a4=some ⟨b,ef,none⟩:=e1;subst e1;obtain⟨ph,d3⟩:∃x,(m.th t).ph=x:=⟨_,rfl⟩;rw[d3] at eh dw;obtain⟨cf,dj⟩:∃x,(fa||(m.thr.take t).any (λth=>th.ph == 3))=x:=⟨_,rfl⟩;rw[dj] at c;have ct:(fa||(m.thr.take (t+1)).any (λth=>th.ph == 3))=(cf||(ph == 3)):=by rw[dw,<-Bool.or_assoc,dj]
       have bZ:Hid (XN ((t:Int)+1)=(t:Int)+1):=by
        have:=Cv (n:=t+1) (by omega)
        push_cast at this
        exact this
       obtain⟨v0,v1,v2,v3,v4⟩:=BP c;obtain⟨f0,f1,f2,f3,f4⟩:=FM c;have l:Hid (∀nb:Bool,(cf||(ph == 3))=nb->t+1<=nt/\(w6.setCell ⟨rb,3,none⟩ (.bool nb)).heap[rb]?=some (.cells (Cc L a o1.length z d6 (fa||(m.thr.take (t+1)).any (λth=>th.ph == 3)) none 0 0) 38)/\Ts (w6.setCell ⟨rb,3,none⟩ (.bool nb)) a o1/\Ac (λk=>k=rb) A (w6.setCell ⟨rb,3,none⟩ (.bool nb))):=λnb e=>by
        rw[ct,e]
        exact⟨h6,WQ c nb,af.GF c (Ep w6 rb 3 _),y.trans (Ep w6 rb 3 _)⟩
       clear c af y hd h4 h6 dF dw ee d3 dj ct ht
       cases cf with
       |true=>
        go_wp2_with fail
        go_roundw
        case rel=>
         (try rw[bZ.out])
         obtain⟨q1,q2,q3,q4⟩:=l.out true (by simp)
         exact⟨t+1,q1,rfl,q2,q3,q4⟩
        case measure=>
         (try rw[bZ.out])
         exact Xl (l.out true (by simp)).1 (Xo t)
       |false=>
        cases cv:(ph == 3) with
        |true=>
         go_wp2_with fail
         go_roundw
         case rel=>
          (try rw[bZ.out])
          obtain⟨q1,q2,q3,q4⟩:=l.out true (by rw[cv];rfl)
          exact⟨t+1,q1,rfl,q2,q3,q4⟩
         case measure=>
          (try rw[bZ.out])
          exact Xl (l.out true (by rw[cv];rfl)).1 (Xo t)
        |false=>
         go_wp2_with fail
         go_roundw
         case rel=>
          (try rw[bZ.out])
          obtain⟨q1,q2,q3,q4⟩:=l.out false (by rw[cv];rfl)
          exact⟨t+1,q1,rfl,q2,q3,q4⟩
         case measure=>
          (try rw[bZ.out])
          exact Xl (l.out false (by rw[cv];rfl)).1 (Xo t)
      ·have er:t=nt:=by omega
       subst er;have dF:m.thr.length=t:=hd.lt;have dN:m.thr.take t=m.thr:=XQ (by omega);have l:Hid (i+1<=L/\(∃a z,w6.heap[rb]?=some (.cells (Cc L a (Bx p (r.take (i+1))).length z (BC p.C (r.take (i+1))) (CE (r.take (i+1))) none 0 0) 38)/\Ts w6 a (Bx p (r.take (i+1)))/\CZ w.heap.size a)/\Ac (λk=>k=rb) A w6):=by
        refine⟨O.out.2.2.2.2.2.2.2.1,⟨a,z,?_,?_,du.out⟩,y⟩
        ·rw[O.out.2.2.2.2.2.2.1,HQ.out.1,HQ.out.2,HO.out.2.2.1];rw[dN] at c;exact c
        ·rw[HQ.out.1];exact af
       clear c af y hd h4 h6 dF dN ht
       go_wp2_with fail
       go_roundw
       case rel=>
        (try rw[d4.out])
        exact⟨i+1,l.out.1,rfl,l.out.2.1,l.out.2.2⟩
       case measure=>
        (try rw[d4.out])
        exact Xl l.out.1 (Xo i)
   ·have ep:i=L:=by omega
    obtain⟨aj,aT,R,aH,aE,an,aG,hL,ax⟩:=HA.out;have dO:r.take i=r:=XQ (by omega);rw[dO] at c af;subst ep;obtain⟨o,ho⟩:∃o,Bx p r=o:=⟨_,rfl⟩;obtain⟨N,ay⟩:∃o,BC p.C r=o:=⟨_,rfl⟩;obtain⟨fa,aB⟩:∃o,CE r=o:=⟨_,rfl⟩;rw[ho,ay,aB] at c;rw[ho] at af;have bc:=V.out.2.1;have d5:rb<wr.heap.size:=(Xa.1 c).1;have HR:=Aa (⟨c,af,y,ho,ay,aB,d5⟩:_/\_/\_/\_/\_/\_/\_)
    rename Xh=>w3
    have HV:Hid (∀u,Ac (λk=>k=rb) w3 u->u.cell? ⟨w.heap.size,0,none⟩=some (.slice x1 nv z1)):=λu H=>(cK.out u ((bf.out u (y.trans H)).1.mono (by omega))).1;clear aj aT R aH aE an aG hL ax dO c af y ho ay aB bc d5 hi h5
    go_wp2_with fail
    go_loopw [12] (λxv wr=>∃x:Nat,x<=nv/\xv = .int .i64 x/\(∃G I,wr.heap[rb]?=some (.cells (Cc i a o.length z N fa G (BJ p r x).length I) 38)/\wr.ownsRow w3.heap.size 3 1 (.slice G (BJ p r x).length I) (BJ p r x).length ((BJ p r x).map Ck))/\Ac (λk=>k=rb) w3 wr) (λxv _=>nv - (intOf xv).toNat)
    case atStart=>exact⟨0,Xx _,rfl,⟨none,0,HR.out.1,World.ownsRow_nil _ _ _ _⟩,Ac.refl _⟩
    case round=>
     obtain⟨x,hx,rfl,⟨G,I,c,Y⟩,y⟩:=hrel;have d9:=HV.out wr y;have aJ:=HK.out.2.2.2.2.2;obtain⟨rs,cg⟩:∃rs,BJ p r x=rs:=⟨_,rfl⟩;have Z:=adQ p r x;have aF:=Tf p r x;rw[cg] at c Y Z aF
     by_cases h6:x<nv
     ·have ez:(x:Int)<(nv:Int):=by omega
      have bQ:Hid (XN ((x:Int)+1)=(x:Int)+1):=by
       have:=Cv (n:=x+1) (by omega)
       push_cast at this
       exact this
      have O:=Aa (⟨c,Y,y,Z,aF,h6,aJ⟩:_/\_/\_/\_/\_/\_/\_);clear c Y y Z aF h6 aJ hx cg
      rename Xh=>w4
      go_wp2_with fail
      clear d9
      go_loopw [13,14] (λbv jv wr=>∃j:Nat,j<=i/\jv = .int .i64 j/\bv = .bool ((r.take j).any λm=>DU p.C m (x:Int))/\Xm w4.heap.size w4 wr) (λ_ jv _=>i - (intOf jv).toNat)
      case atStart=>exact⟨0,Xx _,rfl,rfl,Below.refl _ _⟩
      case round=>
       obtain⟨j,hj,rfl,rfl,Q⟩:=hrel;obtain⟨cq,aZ⟩:∃b,((r.take j).any λm=>DU p.C m (x:Int))=b:=⟨_,rfl⟩;rw[aZ];have bW:Hid (∀q:Bool,((r.any λm=>DU p.C m (x:Int))=q)->(cq=true\/j=i)->cq=q):=λq e hc=>by
        obtain⟨aj,aT,R,aH,aE,an,aG,hL,ax⟩:=HA.out
        rcases hc with hc|hc
        ·rw[hc] at aZ |-;rw[<-e,Vb aZ]
        ·rw[<-e,<-aZ,hc,XQ (by omega)]
       cases a7:decide (j<i) with
       |true=>
        have a7:=of_decide_eq_true a7;have eg:(j:Int)<(i:Int):=by omega
        cases cq with
        |true=>
         have HF:=O.out;obtain⟨rq,bt⟩:∃q,(r.any λm=>DU p.C m (x:Int))=q:=⟨_,rfl⟩;have cb:true=rq:=bW.out rq bt (.inl rfl);obtain⟨c,Y,y,Z,aF,h6,aJ⟩:=O.out;have aY:=(Q.block rb (Xa.1 c).1).trans c;have bJ:=EH Y Q;have X:=y.Fq Q;have R:=X.size;have bu:=HR.out.2.2.2.2.2.2;rw[bt] at Z
         cases rq with
         |true=>
          clear cb;obtain⟨g2,bi,w7,c9,a6,ak⟩:=QI bJ (x:Int) (by omega) R;have bm:=(ak.block rb bu).trans aY;obtain⟨v0,v1,v2,v3,v4⟩:=BP aY;obtain⟨u0,u1,u2,u3,u4⟩:=BP bm;obtain⟨f0,f1,f2,f3,f4⟩:=FM bm;have l:Hid (x+1<=nv/\(∃G I,(w7.setCell ⟨rb,4,none⟩ (.slice (some ⟨g2,0,none⟩) (rs.length+1) bi)).heap[rb]?=some (.cells (Cc i a o.length z N fa G (BJ p r (x+1)).length I) 38)/\(w7.setCell ⟨rb,4,none⟩ (.slice (some ⟨g2,0,none⟩) (rs.length+1) bi)).ownsRow w3.heap.size 3 1 (.slice G (BJ p r (x+1)).length I) (BJ p r (x+1)).length ((BJ p r (x+1)).map Ck))/\Ac (λk=>k=rb) w3 (w7.setCell ⟨rb,4,none⟩ (.slice (some ⟨g2,0,none⟩) (rs.length+1) bi))):=by
           rw[if_pos rfl] at Z;rw[Z];refine⟨h6,⟨some ⟨g2,0,none⟩,bi,?_,?_⟩,?_⟩
           ·rw[Xb];exact QB bm _ _ _
           ·rw[Xb] at a6 |-;exact DW a6 λb Q=>Xt w7 ⟨rb,4,none⟩ b _ (by have:=(a6.lt b Q).1;show b≠rb;omega)
           ·have q7:Ac (λk=>k=rb) w3 w7:=⟨ak.os.trans X.os,ak.tape.trans X.tape,ak.output.trans X.output,Xu X.size ak.size,λk hk hs=>(ak.block k hk).trans (X.block k hk hs)⟩;exact q7.trans (Ep w7 rb 4 _)
          clear HF c Y y Z aF h6 aJ aY bJ X R bu bt a6 ak bm bW aZ Q hj a7
          go_wp2_with (at_builtin;refine Dl rfl _ _ _ rfl rfl rfl rfl c9 ?_)
          go_roundw
          case rel=>
           (try rw[bQ.out])
           exact⟨x+1,l.out.1,rfl,l.out.2.1,l.out.2.2⟩
          case measure=>
           (try rw[bQ.out])
           exact Xl l.out.1 (Xo x)
         |false=>
          cases cb
        |false=>
         obtain⟨aj,aT,R,aH,aE,an,aG,hL,ax⟩:=HA.out;obtain⟨m,U⟩:∃m,r[j]?=some m:=⟨_,Xe (by omega)⟩;have bS:AW nv nf nl C m:=by
          have:=an m (Xz U);rw[HK.out.2.2.1] at this;exact this
         obtain⟨g,cap,s,hv,hs,dk,-⟩:=aj.at U;have dJ:va=some ⟨g,0,none⟩:=by injection hv
         clear hv;subst dJ;obtain⟨a0,a1,a2,a3,a4,a5,c0,c1,c2,c3,c4,c5⟩:=s;have bc:=V.out.2.1;have M:Hid (∀u,Ac (λk=>k=rb) A u->((u.cell? ⟨w.heap.size,0,none⟩=some (.slice x1 nv z1)/\u.cell? ⟨w.heap.size,1,none⟩=some (.slice x2 nf z2)/\u.cell? ⟨w.heap.size,2,none⟩=some (.slice x3 nl z3)/\u.cell? ⟨w.heap.size,3,none⟩=some (.slice x4 nt z4))/\(u.cell? ⟨g,j*6,none⟩=some (.slice a0 nv c0)/\u.cell? ⟨g,j*6+1,none⟩=some (.slice a1 nf c1)/\u.cell? ⟨g,j*6+2,none⟩=some (.slice a2 nl c2)/\u.cell? ⟨g,j*6+3,none⟩=some (.slice a3 nt c3)/\u.cell? ⟨g,j*6+4,none⟩=some (.slice a4 nt c4)/\u.cell? ⟨g,j*6+5,none⟩=some (.slice a5 nr c5)))/\Dk u ⟨a0,a1,a2,a3,a4,a5,c0,c1,c2,c3,c4,c5⟩ ⟨nv,nf,nl,nt,nr⟩ m):=λu H=>by
          obtain⟨-,hd,t0,t1,t2,t3,t4,t5⟩:=(aj.GF aT H).at' hs U
          exact⟨⟨cK.out u ((bf.out u H).1.mono (by omega)),t0,t1,t2,t3,t4,t5⟩,hd⟩
         have dS:Hid (XN ((j:Int)+1)=(j:Int)+1):=by
          have:=V.out.2.2.2.2;unfold BV at this;have:=Cv (n:=j+1) (by omega)
          push_cast at this
          exact this
         have y:Ac (λk=>k=rb) A wr:=(HR.out.2.2.1.trans O.out.2.2.1).Fq Q;have bg:Ac (λk=>k=rb) A wr.drew:=y.Fq ⟨rfl,rfl,rfl,Xd _,λ_ _=>rfl⟩;have c8:=dP.out wr.drew ⟨a0,a1,a2,a3,a4,a5,c0,c1,c2,c3,c4,c5⟩ m x (bf.out _ bg).2 (M.out _ bg).2 bS;dsimp only at c8;have ct:((r.take (j+1)).any λm=>DU p.C m (x:Int))=DU C m x:=by rw[KL U,aZ,HK.out.2.2.1];rfl
         have cc:=Aa (M.out _ bg).1;obtain⟨⟨⟨q0,q1,q2,q3⟩,s0,s1,s2,s3,s4,s5⟩,-⟩:=M.out wr y;have l:=Aa (⟨a7,ct,Q,y⟩:_/\_/\_/\_);clear aj aT R aH aE an aG hL ax U bS hs dk bc y bg ct a7 Q hj aZ bW
         go_upto_region 25 with fail
         clear q0 q1 q2 q3 s0 s1 s2 s3 s4 s5;refine Xy (S:=(λu=>(u.cell? ⟨w.heap.size,0,none⟩=some (.slice x1 nv z1)/\u.cell? ⟨w.heap.size,1,none⟩=some (.slice x2 nf z2)/\u.cell? ⟨w.heap.size,2,none⟩=some (.slice x3 nl z3)/\u.cell? ⟨w.heap.size,3,none⟩=some (.slice x4 nt z4))/\(u.cell? ⟨g,j*6,none⟩=some (.slice a0 nv c0)/\u.cell? ⟨g,j*6+1,none⟩=some (.slice a1 nf c1)/\u.cell? ⟨g,j*6+2,none⟩=some (.slice a2 nl c2)/\u.cell? ⟨g,j*6+3,none⟩=some (.slice a3 nt c3)/\u.cell? ⟨g,j*6+4,none⟩=some (.slice a4 nt c4)/\u.cell? ⟨g,j*6+5,none⟩=some (.slice a5 nr c5)))) (by kernel_rfl) cc.out (λd=>?_);refine tk 0 d ?_;refine tk 1 d ?_;refine tk 2 d ?_;refine tk 3 d ?_;refine tk 4 d ?_;refine tk 5 d ?_;refine rd 6 (λK F=>?_)
         go_simp
         go_at_call 37
         refine c8.mono ?_;rintro e w8 ⟨rfl,bT⟩;have da:Xm wr.heap.size wr w8:=⟨bT.os,bT.tape,bT.output,bT.size,bT.block⟩;have et:Hid (Xm w4.heap.size w4 w8):=l.out.2.2.1.trans (da.mono l.out.2.2.1.size);have hq:=Aa (M.out w8 (l.out.2.2.2.Fq da)).1;clear bT da
         go_wp2_with fail
         refine F.out _ _ hq.out (λd=>?_);clear F K hq
         try simp only[XG,sq]
         refine tk 7 d ?_;refine Yd (by kernel_rfl) ?_ _;clear d cc c8
         go_wp2_with fail
         go_roundw
         case rel=>
          (try rw[dS.out])
          exact⟨j+1,l.out.1,rfl,by rw[l.out.2.1],et.out⟩
         case measure=>
          (try rw[dS.out])
          exact Xl l.out.1 (Xo j)
       |false=>
        have a7:=of_decide_eq_false a7;have dn:j=i:=by omega
        have eg:¬(j:Int)<(i:Int):=by omega
        have HF:=O.out;obtain⟨rq,bt⟩:∃q,(r.any λm=>DU p.C m (x:Int))=q:=⟨_,rfl⟩;have cb:cq=rq:=bW.out rq bt (.inr dn);obtain⟨c,Y,y,Z,aF,h6,aJ⟩:=O.out;have aY:=(Q.block rb (Xa.1 c).1).trans c;have bJ:=EH Y Q;have X:=y.Fq Q;have R:=X.size;have bu:=HR.out.2.2.2.2.2.2;rw[bt] at Z
        cases rq with
        |true=>
         subst cb;obtain⟨g2,bi,w7,c9,a6,ak⟩:=QI bJ (x:Int) (by omega) R;have bm:=(ak.block rb bu).trans aY;obtain⟨v0,v1,v2,v3,v4⟩:=BP aY;obtain⟨u0,u1,u2,u3,u4⟩:=BP bm;obtain⟨f0,f1,f2,f3,f4⟩:=FM bm;have l:Hid (x+1<=nv/\(∃G I,(w7.setCell ⟨rb,4,none⟩ (.slice (some ⟨g2,0,none⟩) (rs.length+1) bi)).heap[rb]?=some (.cells (Cc i a o.length z N fa G (BJ p r (x+1)).length I) 38)/\(w7.setCell ⟨rb,4,none⟩ (.slice (some ⟨g2,0,none⟩) (rs.length+1) bi)).ownsRow w3.heap.size 3 1 (.slice G (BJ p r (x+1)).length I) (BJ p r (x+1)).length ((BJ p r (x+1)).map Ck))/\Ac (λk=>k=rb) w3 (w7.setCell ⟨rb,4,none⟩ (.slice (some ⟨g2,0,none⟩) (rs.length+1) bi))):=by
          rw[if_pos rfl] at Z;rw[Z];refine⟨h6,⟨some ⟨g2,0,none⟩,bi,?_,?_⟩,?_⟩
          ·rw[Xb];exact QB bm _ _ _
          ·rw[Xb] at a6 |-;exact DW a6 λb Q=>Xt w7 ⟨rb,4,none⟩ b _ (by have:=(a6.lt b Q).1;show b≠rb;omega)
          ·have q7:Ac (λk=>k=rb) w3 w7:=⟨ak.os.trans X.os,ak.tape.trans X.tape,ak.output.trans X.output,Xu X.size ak.size,λk hk hs=>(ak.block k hk).trans (X.block k hk hs)⟩;exact q7.trans (Ep w7 rb 4 _)
         clear HF c Y y Z aF h6 aJ aY bJ X R bu bt a6 ak bm bW aZ Q hj a7 dn
         go_wp2_with (at_builtin;refine Dl rfl _ _ _ rfl rfl rfl rfl c9 ?_)
         go_roundw
         case rel=>
          (try rw[bQ.out])
          exact⟨x+1,l.out.1,rfl,l.out.2.1,l.out.2.2⟩
         case measure=>
          (try rw[bQ.out])
          exact Xl l.out.1 (Xo x)
        |false=>
         subst cb;have l:Hid (x+1<=nv/\(∃G I,wr.heap[rb]?=some (.cells (Cc i a o.length z N fa G (BJ p r (x+1)).length I) 38)/\wr.ownsRow w3.heap.size 3 1 (.slice G (BJ p r (x+1)).length I) (BJ p r (x+1)).length ((BJ p r (x+1)).map Ck))/\Ac (λk=>k=rb) w3 wr):=by
          rw[if_neg (by decide),List.append_nil] at Z;rw[Z]
          exact⟨h6,⟨G,I,aY,bJ⟩,X⟩
         clear HF c Y y Z aF h6 aJ aY bJ X R bu bt bW aZ Q hj a7 dn
         go_wp2_with fail
         go_roundw
         case rel=>
          (try rw[bQ.out])
          exact⟨x+1,l.out.1,rfl,l.out.2.1,l.out.2.2⟩
         case measure=>
          (try rw[bQ.out])
          exact Xl l.out.1 (Xo x)
     ·have cZ:x=nv:=by omega
      obtain⟨aj,aT,R,aH,aE,an,aG,hL,ax⟩:=HA.out;obtain⟨aS,dW,cr,ho,ay,aB,bu⟩:=HR.out;have bc:=V.out.2.1;have co:wr.heap[w.heap.size+1]?=some (.cells (Cc 0 none 0 0 false false none 0 0) 38):=((cr.trans y).block _ (by omega) (by omega)).trans ax;obtain⟨v0,v1,v2,v3,v4⟩:=BP c;obtain⟨y0,y1,y2,y3,y4⟩:=BP co;obtain⟨f0,f1,f2,f3,f4⟩:=FM co;have aw:=aca wr (w.heap.size+1) (.int .i64 i) (.slice a o.length z) (.bool N) (.bool fa) (.slice G rs.length I);have dX:=NM (.int .i64 i) (.slice a o.length z) (.bool N) (.bool fa) (.slice G rs.length I) co;have d1:=Oh (B:=w.heap.size) (.int .i64 i) (.slice a o.length z) (.bool N) (.bool fa) (.slice G rs.length I) (bf.out _ (cr.trans y)).2 (b:=w.heap.size+1) (by omega);have bq:=(dW.GF aS y).GF co aw;have dc:=DW (w':=(((((wr.setCell ⟨w.heap.size+1,0,none⟩ (.int .i64 i)).setCell ⟨w.heap.size+1,1,none⟩ (.slice a o.length z)).setCell ⟨w.heap.size+1,2,none⟩ (.bool N)).setCell ⟨w.heap.size+1,3,none⟩ (.bool fa)).setCell ⟨w.heap.size+1,4,none⟩ (.slice G rs.length I))) Y λb Q=>aw.block b (Y.lt b Q).2 (by have:=(Y.lt b Q).1;have:=cr.size;omega);obtain⟨el,ey,e1,dV⟩:=AZ.of dc;have e2:G=el:=by injection e1
      clear e1;subst e2;have HF:Hid (IV w ⟨nv,nf,nl,nt,nr⟩ p mn (.returned (.tuple #[.agg #[.int .i64 i,.slice a o.length z,.bool N,.bool fa,.slice G rs.length I],.int .i64 0])) (((((wr.setCell ⟨w.heap.size+1,0,none⟩ (.int .i64 i)).setCell ⟨w.heap.size+1,1,none⟩ (.slice a o.length z)).setCell ⟨w.heap.size+1,2,none⟩ (.bool N)).setCell ⟨w.heap.size+1,3,none⟩ (.bool fa)).setCell ⟨w.heap.size+1,4,none⟩ (.slice G rs.length I))/\(((((wr.setCell ⟨w.heap.size+1,0,none⟩ (.int .i64 i)).setCell ⟨w.heap.size+1,1,none⟩ (.slice a o.length z)).setCell ⟨w.heap.size+1,2,none⟩ (.bool N)).setCell ⟨w.heap.size+1,3,none⟩ (.bool fa)).setCell ⟨w.heap.size+1,4,none⟩ (.slice G rs.length I)).heap[w.heap.size+1]?=some (.cells #[.int .i64 i,.slice a o.length z,.bool N,.bool fa,.slice G rs.length I] 38)):=by
       refine⟨⟨d1,.inr (.inr ⟨V.out.2.2.2.2,r,a,G,z,I,by rw[Int.toNat_natCast];exact aG,?_,?_,?_,bU.out,(NH dc).mono (by have:=cr.size;have:=V.out.1.size;omega)⟩)⟩,dX⟩
       ·rw[hL,ho,ay,aB];show _=Ending.returned (.tuple #[.agg #[_,_,_,_,.slice G (BJ p r nv).length I],_]);rw[<-cZ,cg]
       ·rw[ho];exact bq
       ·show Is _ G (BJ p r nv);rw[<-cZ,cg];exact dV.is
      subst cZ;clear aj aT R aH aE an aG hL ax aS dW cr ho ay aB bu bc co aw dX d1 bq dc dV c Y y Z aF h6 aJ hx cg
      go_wp2_with fail
      exact XI (KW rfl rfl rfl HF.out.2) rfl HF.out.1
end
end Go.Proofs.YtdcacoifehkioaaGreatDoor
