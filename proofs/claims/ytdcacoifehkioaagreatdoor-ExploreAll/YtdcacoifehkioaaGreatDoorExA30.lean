import Derived.Test.YtdcacoifehkioaaGreatDoorExA3
import Derived.Test.YtdcacoifehkioaaGreatDoorExA29
import Derived.Deep.Cut
import Derived.Deep.DeepCutAuto
import Derived.Test.YtdcacoifehkioaaGreatDoorExA20
import Derived.Test.YtdcacoifehkioaaGreatDoorExA24
import Derived.Test.YtdcacoifehkioaaGreatDoorExA19
open Go renaming World->Xh,Value->Xk,Addr->YV,Calls->XY,wp_region_held_drew->Xy,wpAnyH_done->Yd,wpAnyH_ready->Zd,bodyPost_ret->XI
open Go.RowKit renaming Below->Xm,wrap64->XN
open Array renaming getElem?_eq_some_iff->Xa
open Go.RowKit.Below renaming refl->Xq
open Nat renaming le_refl->Xd,le_trans->Xu,zero_le->Xx,sub_lt_sub_left->Xl,lt_succ_self->Xo
open Go.World renaming alloc_heap_new->Xi
open List renaming length_map->Xp,mem_singleton->XT,getElem?_eq_getElem->Xe,mem_of_getElem?->Xz,getD_eq_getElem?_getD->Xc,getElem?_eq_some_iff->Xf,length_append->Xb,take_add_one->Yo
open Go.AllReadyH renaming cons->X9,nil->Y4
open Go.Lib renaming join->YU
set_option maxRecDepth 100000
set_option maxHeartbeats 8000000
set_option linter.unusedVariables false
set_option linter.unusedSimpArgs false
namespace Go.Proofs.YtdcacoifehkioaaGreatDoor
open Go.RowKit Go.Shelf Go.Proofs.Cod
def Om (w:Xh) (d:D5) (p:PD) (most:Nat) (e:Ending) (w':Xh):Prop:=
 Xm w.heap.size w w'/\((Cq (Aj p) (By true p.C) most (most+1) [AJ d.nv d.nf d.nl d.nt] 0=none/\e = .returned (.tuple #[.slice none 0 0,.bool false]))\/
  ∃l v S,Cq (Aj p) (By true p.C) most (most+1) [AJ d.nv d.nf d.nl d.nt] 0=some l/\e = .returned (.tuple #[v,.bool true])/\Ds w' w.heap.size d v S l/\l.length<=most/\∀m,m∈l->AW d.nv d.nf d.nl p.C m)
section
variable {w w':Xh} {nv nf nl nt nr:Nat} {P:RP} {TV:List (Xk×Xk)} {x1 x2 x3 x4:Option YV} {z1 z2 z3 z4:Nat}
theorem AZ.acd {v Z:Xh} {S:Nat->Prop} {c q:Nat} {b:Option YV} {l:List Int} (p:Ac S v Z) (o:∀k,S k->∃cs T,v.heap[k]?=some (.cells cs T)/\T≠3) (h:AZ v c q b l):AZ Z c q b l:=by
 rcases h with h|⟨b,N,f,e,i,n,⟨cs,a,j⟩,r⟩
 ·exact .inl h
 ·refine .inr ⟨b,N,f,e,i,n,⟨cs,(p.block b (Xa.1 a).1 (λd=>?_)).trans a,j⟩,r⟩;obtain⟨s,T,m,g⟩:=o b d;rw[m] at a;injection a with a
  injection a with _ a
  exact g a
abbrev Z4:Array Xk := #[.int .i64 0,.int .i64 0,.int .i64 0,.int .i64 0]
abbrev RW (w v:Xh) (b0 b1 b2 b3 b4 b5:Option YV) (m:MS):Prop:=∃lo,w.heap.size<=lo/\∃p1 p2 p3 p4 p5 p6,Be v lo b0 b1 b2 b3 b4 b5 m p1 p2 p3 p4 p5 p6
theorem Qi {w v j:Xh} {g k e f a i:Option YV} {m:MS} (h:RW w v g k e f a i m) (c:Xm v.heap.size v j):RW w j g k e f a i m:=by
 obtain⟨s,o,r,p,l,t,q,n,d⟩:=h;have u:=d.le
 exact⟨s,o,r,p,l,t,q,n,Bu.keep d (λb y x=>c.block b (by omega)) c.size⟩
structure ZE (w v:Xh) (x y:Option Nat) (z:Bool):Prop where
 b:Xm w.heap.size w v
 a:∀a,x=some a->w.heap.size<=a/\v.heap[a]?=some (.cells Z6 92)
 e:∀a,y=some a->w.heap.size<=a/\v.heap[a]?=some (.cells Z4 169)
theorem ZE.go {w v d:Xh} {x y:Option Nat} {z:Bool} (f:Bool) (h:ZE w v x y z) (c:Xm v.heap.size v d):ZE w d x y f:=
 ⟨h.b.trans (c.mono h.b.size),λa q=>⟨(h.a a q).1,(c.block a (Xa.1 (h.a a q).2).1).trans (h.a a q).2⟩,λa q=>⟨(h.e a q).1,(c.block a (Xa.1 (h.e a q).2).1).trans (h.e a q).2⟩⟩
theorem ZE.al {w v u:Xh} {y:Option Nat} {z:Bool} (h:ZE w v none y z) (d:v.alloc (.cells Z6 92)=u):ZE w u (some v.heap.size) y z/\Xm v.heap.size v u:=by
 subst d;have c:Xm v.heap.size v (v.alloc (.cells Z6 92)):=(Xq _ _).alloc (Xd _) _
 exact⟨⟨(h.go z c).b,λa e=>by cases e;exact⟨h.b.size,Xi v _⟩,(h.go z c).e⟩,c⟩
theorem ZE.ae {w v u:Xh} {x:Option Nat} {z:Bool} (h:ZE w v x none z) (d:v.alloc (.cells Z4 169)=u):ZE w u x (some v.heap.size) z/\Xm v.heap.size v u:=by
 subst d;have c:Xm v.heap.size v (v.alloc (.cells Z4 169)):=(Xq _ _).alloc (Xd _) _
 exact⟨⟨(h.go z c).b,(h.go z c).a,λa e=>by cases e;exact⟨h.b.size,Xi v _⟩⟩,c⟩
theorem ZE.fin {w v:Xh} {g d n0 n1 n2 n3 n4 n5:Nat} {x A s u r y:Option YV} {m:MS} (e:Ev) (I F G J H D:Nat) {z:Bool} (h:ZE w v (some g) (some d) z) (hr:RW w v x A s u r y m) :
 ∃p c,v.setCells g 0 (#[Value.slice x n0 I,.slice A n1 F,.slice s n2 G,.slice u n3 J,.slice r n4 H,.slice y n5 D]:Array Xk).toList=p/\p.setCells d 0 (#[Value.int .i64 e.t,.int .i64 e.k,.int .i64 e.o,.int .i64 e.v]:Array Xk).toList=c/\Hid (Xm w.heap.size w p)/\p.heap[d]?=some (.cells Z4 169)/\Hid (c.heap[g]?=some (.cells #[.slice x n0 I,.slice A n1 F,.slice s n2 G,.slice u n3 J,.slice r n4 H,.slice y n5 D] 92)/\c.heap[d]?=some (.cells #[.int .i64 e.t,.int .i64 e.k,.int .i64 e.o,.int .i64 e.v] 169)/\w.heap.size<=g/\w.heap.size<=d/\RW w c x A s u r y m/\Xm w.heap.size w c):=by
 obtain⟨V,f⟩:=h.a g rfl;obtain⟨he,E⟩:=h.e d rfl;have n:=h.b;have Y:g≠d:=λq=>by
  rw[q,E] at f;injection f with f
  injection f with _ f
  exact absurd f (by decide)
 obtain⟨p,c,aa,O,ad,M,af,P,S⟩:=NP (.slice x n0 I) (.slice A n1 F) (.slice s n2 G) (.slice u n3 J) (.slice r n4 H) (.slice y n5 D) (.int .i64 e.t) (.int .i64 e.k) (.int .i64 e.o) (.int .i64 e.v) f E Y;have N:∀{Z:Xh},Ac (λk=>k=g\/k=d) v Z->Xm w.heap.size w Z:=λq=>⟨q.os.trans n.os,q.tape.trans n.tape,q.output.trans n.output,Xu n.size q.size,λk B=>(q.block k (Nat.lt_of_lt_of_le B n.size) (by omega)).trans (n.block k B)⟩
 obtain⟨C,T,X,U,Q,p4,W,R,j⟩:=hr;have K:∀{C q:Nat} {b:Option YV} {l:List Int},AZ v C q b l->AZ c C q b l:=AZ.acd M (λk B=>by
  rcases B with rfl|rfl
  ·exact⟨_,_,f,by decide⟩
  ·exact⟨_,_,E,by decide⟩)
 have i:=j.le
 exact⟨p,c,aa,O,N ad,af,P,S,V,he,⟨C,T,X,U,Q,p4,W,R,K j.r0,K j.r1,K j.r2,K j.r3,K j.r4,K j.r5,i.1,i.2.1,i.2.2.1,i.2.2.2.1,i.2.2.2.2.1,i.2.2.2.2.2.1,Xu i.2.2.2.2.2.2 M.size⟩,N M⟩
theorem Wi {B:Nat} (ht:Cn w B) (hB:B<=w.heap.size) (hQ:DI w (.slice x1 nv z1) (.slice x2 nf z2) (.slice x3 nl z3) (.slice x4 nt z4) P TV) (bZ:P.thr.length=nt) (h1:P.vs.length=nv) (h2:P.fs.length=nf) (h3:P.ls.length=nl) (bt:nt*4=nr) (hf:CK (AD P)) (hN:Eg (AD P)) (cZ:∀m,CY (AD P) m->(Aj (AD P) m).length<4294967296) {most:Nat} (aK:1<=most) (dN:most<=20000) :
 XY Tryz.prog 32 #[.agg #[.slice x1 nv z1,.slice x2 nf z2,.slice x3 nl z3,.slice x4 nt z4],.int .i64 most] w (Om w ⟨nv,nf,nl,nt,nr⟩ (AD P) most):=by
 obtain⟨W,hW⟩:∃W,(w.alloc (.cells #[.slice x1 nv z1,.slice x2 nf z2,.slice x3 nl z3,.slice x4 nt z4] 28)).alloc (.cells #[.slice none 0 0] 167)=W:=⟨_,rfl⟩;obtain⟨cM,k1,k2,hz⟩:=FH _ _ _ hW;have cb:(Ai P).length=nt:=by unfold Ai;rw[Xp];exact bZ
 have aV:(AD P).C=Ai P:=rfl;have aZ:Ef nv nf nl (Ai P):=by
  have:=hf.fit;rw[<-h1,<-h2,<-h3];exact this
 have h4:nt<=4:=by have:=aZ.four;omega
 have cI:nv<=4:=by rw[<-h1];exact hf.v
 have cD:nf<=4:=by rw[<-h2];exact hf.f
 have ap:nl<=4:=by rw[<-h3];exact hf.l
 have bd:AW nv nf nl (Ai P) (AJ nv nf nl nt):=by have:=JZ nv nf nl (Ai P);rw[cb] at this;exact this
 have bu:∀m,AW nv nf nl (Ai P) m->(Aj (AD P) m).length<4294967296:=λm O=>cZ m (by
  show AW P.vs.length P.fs.length P.ls.length (Ai P) m;rw[h1,h2,h3];exact O)
 have bY:Hid (∀u,Xm (w.heap.size+1) W u->u.cell? ⟨w.heap.size,0,none⟩=some (.slice x1 nv z1)/\u.cell? ⟨w.heap.size,1,none⟩=some (.slice x2 nf z2)/\u.cell? ⟨w.heap.size,2,none⟩=some (.slice x3 nl z3)/\u.cell? ⟨w.heap.size,3,none⟩=some (.slice x4 nt z4)):=λu c=>Cl ((c.block _ (by omega)).trans k1);have bN:∀u,Xm (w.heap.size+1) W u->Xm w.heap.size w u:=λu c=>cM.trans (c.mono (by omega));have HQ:Hid (∀u,Xm (w.heap.size+1) W u->DI u (.slice x1 nv z1) (.slice x2 nf z2) (.slice x3 nl z3) (.slice x4 nt z4) P TV/\Cn u B/\B<=u.heap.size):=λu c=>⟨hQ.below (bN u c),ht.keep ((bN u c).mono hB),by have:=(bN u c).size;omega⟩
 have dL:=WX (nv:=nv) (nf:=nf) (nl:=nl) (nt:=nt) (nr:=nr) (x1:=x1) (x2:=x2) (x3:=x3) (x4:=x4) (z1:=z1) (z2:=z2) (z3:=z3) (z4:=z4) W cI cD ap h4 bt;have HR:Hid (∀(u:Xh) (s:S6) (m:MS),Xm (w.heap.size+1) W u->Dk u s ⟨nv,nf,nl,nt,nr⟩ m->AW nv nf nl (Ai P) m->XY Tryz.prog 33 #[.agg #[.slice x1 nv z1,.slice x2 nf z2,.slice x3 nl z3,.slice x4 nt z4],.agg #[.slice s.a0 nv s.c0,.slice s.a1 nf s.c1,.slice s.a2 nl s.c2,.slice s.a3 nt s.c3,.slice s.a4 nt s.c4,.slice s.a5 nr s.c5]] u λe w'=>∃v,e = .returned v/\w'.ownsRow u.heap.size 3 1 v (AP (Ai P) m).length ((AP (Ai P) m).map Ck)/\Xm u.heap.size u w'):=λu s m c V hM=>MG (HQ.out u c).1 bZ V.Im hM aZ;have cG:Hid (∀(u:Xh) (G J F H E I:Option YV) (d0 d1 d2 d3 d4 d5:Nat) (m:MS),Xm (w.heap.size+1) W u->Ci u G J F H E I nv nf nl nt nr m->AW nv nf nl (Ai P) m->XY Tryz.prog 68 #[.agg #[.slice x1 nv z1,.slice x2 nf z2,.slice x3 nl z3,.slice x4 nt z4],.agg #[.slice G nv d0,.slice J nf d1,.slice F nl d2,.slice H nt d3,.slice E nt d4,.slice I nr d5]] u λe w'=>e = .returned (.string (bs (Aj (AD P) m)))/\Xm u.heap.size u w'):=λu G J F H E I d0 d1 d2 d3 d4 d5 m c V hM=>Wk (HQ.out u c).2.1 (HQ.out u c).2.2 (HQ.out u c).1 bZ h1 h2 h3 V hM hf hN;have dl:Hid (∀(u:Xh) (s:S6) (m:MS) (t:Nat),Xm (w.heap.size+1) W u->Dk u s ⟨nv,nf,nl,nt,nr⟩ m->AW nv nf nl (Ai P) m->AV (Ai P) m t=0->XY Tryz.prog 69 #[.agg #[.slice x1 nv z1,.slice x2 nf z2,.slice x3 nl z3,.slice x4 nt z4],.agg #[.slice s.a0 nv s.c0,.slice s.a1 nf s.c1,.slice s.a2 nl s.c2,.slice s.a3 nt s.c3,.slice s.a4 nt s.c4,.slice s.a5 nr s.c5],.int .i64 t] u λe w'=>∃G J F H E I,(∃d0 d1 d2 d3 d4 d5,e = .returned (.tuple #[.agg #[.slice G nv d0,.slice J nf d1,.slice F nl d2,.slice H nt d3,.slice E nt d4,.slice I nr d5],.agg #[.int .i64 (AB true (Ai P) m t).2.t,.int .i64 (AB true (Ai P) m t).2.k,.int .i64 (AB true (Ai P) m t).2.o,.int .i64 (AB true (Ai P) m t).2.v]]))/\(∃lo,u.heap.size<=lo/\∃p1 p2 p3 p4 p5 p6,Be w' lo G J F H E I (AB true (Ai P) m t).1 p1 p2 p3 p4 p5 p6)/\Ci w' G J F H E I nv nf nl nt nr (AB true (Ai P) m t).1/\Xm u.heap.size u w'):=λu s m t c V hM hc=>by
  obtain⟨t',e,eC,em,-,-⟩:=GM aZ hM hc;have e:t=t':=by omega
  subst e;exact Wh (HQ.out u c).1 bZ V.Im cI cD ap hM aZ (t:=t) (by omega) em
 have bG:∀m t,AW nv nf nl (Ai P) m->AV (Ai P) m t=0->AW nv nf nl (Ai P) (AB true (Ai P) m t).1:=λm t hM hc=>ac6 aZ hM hc;have ai:∀m t,AW nv nf nl (Ai P) m->t∈AP (Ai P) m->∃u:Nat,t=u/\AV (Ai P) m u=0:=λm t hM O=>by
  obtain⟨u,e,-⟩:=GM aZ hM (Ia O)
  exact⟨u,e,by rw[<-e];exact Ia O⟩
 have bL:∀m,AW nv nf nl (Ai P) m->(AP (Ai P) m).length<=4:=λm hM=>by
  have q:=Je (Ai P) m m.thr.length;have:=hM.tl;unfold AP
  omega
 have du:Fl W (w.heap.size+1) (w.heap.size+1) []:=.inl ⟨k2,Xd _,rfl⟩;obtain⟨p,hp⟩:∃p,AD P=p:=⟨_,rfl⟩;obtain⟨C,hC⟩:∃C,Ai P=C:=⟨_,rfl⟩;rw[hp] at aV bu |-;rw[hC] at aV bu bd bG ai bL cb;simp only[hp,hC] at cG HR dl;have ep:most<1048576:=by omega
 have T:=Aa (⟨aV,bu,bd,bG,ai,bL,bt,aK,dN,cb⟩:_/\_/\_/\_/\_/\_/\_/\_/\_/\_);have HB:=Aa (⟨cM,hz,bN,du⟩:_/\_/\_/\_);obtain⟨q0,q1,q2,q3⟩:=bY.out W (Xq _ _);clear cM k1 k2 hz cb aV aZ h4 cI cD ap bd bu bN bG ai bL du hp hC hQ bZ h1 h2 h3 bt hf hN cZ aK dN ep HQ ht hB
 go_enter Tryz.func32,Tryz.ntmps32
 go_upto_region 2 with fail
 try rw[hW]
 clear hW
 go_wp2_with fail
 refine dL.mono ?_;rintro e w1 ⟨a0,X,a2,a3,Z,a5,⟨c0,c1,c2,c3,c4,c5,rfl⟩,⟨lo,bo,p1,p2,p3,p4,p5,p6,c6⟩,dA,cU⟩;obtain⟨W1,cm⟩:∃W1,w1.alloc (.cells #[.slice a0 nv c0,.slice X nf c1,.slice a2 nl c2,.slice a3 nt c3,.slice Z nt c4,.slice a5 nr c5] 92)=W1:=⟨_,rfl⟩;have cK:Xm w1.heap.size w1 W1:=by rw[<-cm];exact(Xq _ _).alloc (Xd _) _
 have aR:W1.heap[w1.heap.size]?=some (.cells #[.slice a0 nv c0,.slice X nf c1,.slice a2 nl c2,.slice a3 nt c3,.slice Z nt c4,.slice a5 nr c5] 92):=by rw[<-cm];exact Xi w1 _
 have aH:Xm W.heap.size W W1:=cU.trans (cK.mono cU.size);have dw:Dk w1 ⟨a0,X,a2,a3,Z,a5,c0,c1,c2,c3,c4,c5⟩ ⟨nv,nf,nl,nt,nr⟩ (AJ nv nf nl nt):=Dk.of c6 dA;have aA:=dw.keep (DH.below cK);obtain⟨sS,bV⟩:∃sS,w1.heap.size=sS:=⟨_,rfl⟩;rw[bV] at aR;obtain⟨r0,r1,r2,r3,r4,r5⟩:=Bk aR;have cW:Xm (w.heap.size+1) W W1:=aH.mono (by have:=HB.out.2.1;omega);obtain⟨q0,q1,q2,q3⟩:=bY.out W1 cW;have b1:=cG.out W1 a0 X a2 a3 Z a5 c0 c1 c2 c3 c4 c5 _ cW aA.Im T.out.2.2.1;have H1:=Aa (⟨aH,aR,aA⟩:_/\_/\_);clear dL c6 dA cU cK aR aH dw aA bo cW;replace bV:=Aa bV
 go_upto_region 3 with fail
 try rw[cm]
 try rw[bV.out]
 clear cm bV
 go_wp2_with fail
 refine b1.mono ?_;rintro e d ⟨rfl,aE⟩;obtain⟨aH,aR,aA⟩:=H1.out;have Y:=HB.out.2.1;have bg:=aH.trans (aE.mono aH.size);have el:=bg.size;have cX:=HB.out.2.2.2.below (bg);have bM:=Qh (s:=Aj p (AJ nv nf nl nt)) (T.out.2.1 _ T.out.2.2.1) cX (by omega) (by decide);have bk:=(aE.block sS (Xa.1 aR).1).trans aR;have bO:=aA.keep (DH.below aE);have H2:=Aa (⟨bg,bk,bO⟩:_/\_/\_);clear b1 H1 aH aR aA Y aE bg el cX bk bO q0 q1 q2 q3 r0 r1 r2 r3 r4 r5
 go_wp2_with fail
 refine bM.mono ?_;rintro e w3 ⟨rfl,hs3,an⟩;obtain⟨bg,bk,bO⟩:=H2.out;have Y:=HB.out.2.1;have dC:=(an.other _ _ _ bk (by decide) (by decide) (by decide)).trans bk;have dQ:=bO.keep an.Lx;have cR:Xm (w.heap.size+1) W w3:=(bg.mono (by omega)).trans an.bel;obtain⟨r0,r1,r2,r3,r4,r5⟩:=Bk dC;obtain⟨W3,bq⟩:∃W3,w3.alloc (.cells #[.slice a0 nv c0,.slice X nf c1,.slice a2 nl c2,.slice a3 nt c3,.slice Z nt c4,.slice a5 nr c5] 92)=W3:=⟨_,rfl⟩;have ck:Xm w3.heap.size w3 W3:=by rw[<-bq];exact(Xq _ _).alloc (Xd _) _
 have k3:W3.heap[w3.heap.size]?=some (.cells #[.slice a0 nv c0,.slice X nf c1,.slice a2 nl c2,.slice a3 nt c3,.slice Z nt c4,.slice a5 nr c5] 92):=by rw[<-bq];exact Xi w3 _
 have ea:=cR.size;have dK:Ds W3 (w.heap.size+1) ⟨nv,nf,nl,nt,nr⟩ (.slice (some ⟨w3.heap.size,0,none⟩) 1 1) [⟨a0,X,a2,a3,Z,a5,c0,c1,c2,c3,c4,c5⟩] [AJ nv nf nl nt]:=by
  refine⟨⟨rfl,.inr ⟨w3.heap.size,1,_,rfl,by omega,k3,Xd _,by decide,rfl,rfl⟩⟩,rfl,λi s m e1 e2=>?_⟩
  cases i with
  |zero=>
   cases e1
   cases e2
   exact dQ.keep (DH.below ck)
  |succ i=>cases e1
 have dt:Fl W3 (w.heap.size+1) (w.heap.size+1) ([AJ nv nf nl nt].map (Aj p)):=by
  rw[if_neg (by simp)] at hs3;exact hs3.below ck
 have dH:Hid (GS W (w.heap.size+1) (w.heap.size+1) ⟨nv,nf,nl,nt,nr⟩ p W3 (.slice (some ⟨w3.heap.size,0,none⟩) 1 1) [AJ nv nf nl nt] most):=by
  obtain⟨aV,-,bd,-,-,-,-,aK,-⟩:=T.out;refine⟨⟨_,dK⟩,dt,cR.trans (ck.mono (by omega)),aK,λm O=>?_⟩;rw[XT.1 O,aV];exact bd
 clear bM H2 bg bk bO Y dC dQ cR ck k3 ea dK dt hs3 an;replace bq:=Aa bq
 go_wp2_with fail
 try rw[bq.out]
 obtain⟨res,b5⟩:∃r,Cq (Aj p) (By true p.C) most (most+1) [AJ nv nf nl nt] 0=r:=⟨_,rfl⟩;have b5:=Aa b5
 go_loopw [8,9] (λav iv wr=>∃(i n:Nat) (ms:List MS),i<=ms.length/\iv = .int .i64 i/\GS W (w.heap.size+1) (w.heap.size+1) ⟨nv,nf,nl,nt,nr⟩ p wr av ms most/\n+i=most+1/\Cq (Aj p) (By true p.C) most n ms i=res) (λ_ iv _=>most - (intOf iv).toNat)
 case atStart=>exact⟨0,most+1,[AJ nv nf nl nt],Xx _,rfl,dH.out,rfl,b5.out⟩
 case round=>
  clear dH bq r0 r1 r2 r3 r4 r5;obtain⟨i,n,ms,hi,rfl,N,hn,aq⟩:=hrel;obtain⟨S,hA⟩:=N.all;obtain⟨va,et,dh⟩:=As hA.row;have aM:=N.le;have aO:=T.out.2.2.2.2.2.2.2.2.1
  by_cases h5:i<ms.length
  ·obtain⟨m,O⟩:∃m,ms[i]?=some m:=⟨_,Xe h5⟩;have U:=N.ok m (Xz O);rw[T.out.1] at U;have U:AW nv nf nl C m:=U;obtain⟨g,cap,s,hv,hs,ac,b4,t0,t1,t2,t3,t4,t5⟩:=hA.at O;subst hv;obtain⟨a0,X,a2,a3,Z,a5,c0,c1,c2,c3,c4,c5⟩:=s;dsimp only at t0 t1 t2 t3 t4 t5;have en:(i:Int)<(ms.length:Int):=by omega
   have dU:Hid (XN ((i:Int)+1)=(i:Int)+1):=by
    have:=Cv (n:=i+1) (by omega)
    push_cast at this
    exact this
   have V:Xm wr.heap.size wr wr.drew:=⟨rfl,rfl,rfl,Xd _,λ_ _=>rfl⟩;have aI:w.heap.size+1<=wr.heap.size:=by have:=N.bel.size;have:=HB.out.2.1;omega
   have HD:Hid (∀u,Xm wr.heap.size wr u->(u.cell? ⟨w.heap.size,0,none⟩=some (.slice x1 nv z1)/\u.cell? ⟨w.heap.size,1,none⟩=some (.slice x2 nf z2)/\u.cell? ⟨w.heap.size,2,none⟩=some (.slice x3 nl z3)/\u.cell? ⟨w.heap.size,3,none⟩=some (.slice x4 nt z4))/\u.cell? ⟨g,i*6,none⟩=some (.slice a0 nv c0)/\u.cell? ⟨g,i*6+1,none⟩=some (.slice X nf c1)/\u.cell? ⟨g,i*6+2,none⟩=some (.slice a2 nl c2)/\u.cell? ⟨g,i*6+3,none⟩=some (.slice a3 nt c3)/\u.cell? ⟨g,i*6+4,none⟩=some (.slice Z nt c4)/\u.cell? ⟨g,i*6+5,none⟩=some (.slice a5 nr c5)):=λu c=>⟨bY.out u (N.bel.trans (c.mono aI)),(c.cell (p:=⟨g,i*6,none⟩) ac).trans t0,(c.cell (p:=⟨g,i*6+1,none⟩) ac).trans t1,(c.cell (p:=⟨g,i*6+2,none⟩) ac).trans t2,(c.cell (p:=⟨g,i*6+3,none⟩) ac).trans t3,(c.cell (p:=⟨g,i*6+4,none⟩) ac).trans t4,(c.cell (p:=⟨g,i*6+5,none⟩) ac).trans t5⟩
   have cd:=HR.out wr.drew ⟨a0,X,a2,a3,Z,a5,c0,c1,c2,c3,c4,c5⟩ m (N.bel.trans (V.mono aI)) (b4.keep (DH.below V)) U;dsimp only at cd;obtain⟨A,ax⟩:∃A,AP C m=A:=⟨_,rfl⟩;rw[ax] at cd;have ap:=T.out.2.2.2.2.2.1 m U;have ai:=T.out.2.2.2.2.1 m;rw[ax] at ap ai;have dp:=Aa (HD.out wr.drew V);obtain⟨G,J,F,H,E,I,b6⟩:=HD.out wr (Xq _ _);obtain⟨L,hL⟩:∃L,ms.length=L:=⟨_,rfl⟩;have HJ:=Aa (⟨hi,N,hn,aq,h5,O,U,aI,aM,aO,ap,ai,ax,hL⟩:_/\_/\_/\_/\_/\_/\_/\_/\_/\_/\_/\_/\_/\_);rw[hL] at en |-;clear hi N hn aq h5 O U aI aM aO ap ai ax hL hA hs ac b4 t0 t1 t2 t3 t4 t5 dh
   go_upto_region 8 with fail
   clear G J F H E I b6;refine Xy (S:=(λu=>(u.cell? ⟨w.heap.size,0,none⟩=some (.slice x1 nv z1)/\u.cell? ⟨w.heap.size,1,none⟩=some (.slice x2 nf z2)/\u.cell? ⟨w.heap.size,2,none⟩=some (.slice x3 nl z3)/\u.cell? ⟨w.heap.size,3,none⟩=some (.slice x4 nt z4))/\u.cell? ⟨g,i*6,none⟩=some (.slice a0 nv c0)/\u.cell? ⟨g,i*6+1,none⟩=some (.slice X nf c1)/\u.cell? ⟨g,i*6+2,none⟩=some (.slice a2 nl c2)/\u.cell? ⟨g,i*6+3,none⟩=some (.slice a3 nt c3)/\u.cell? ⟨g,i*6+4,none⟩=some (.slice Z nt c4)/\u.cell? ⟨g,i*6+5,none⟩=some (.slice a5 nr c5))) (by kernel_rfl) dp.out (λy=>?_);refine tk 0 y ?_;refine tk 1 y ?_;refine tk 2 y ?_;refine tk 3 y ?_;refine tk 4 y ?_;refine rd 5 (λK z=>?_)
   go_simp
   go_at_call 33
   refine cd.mono ?_;rintro e d ⟨v,rfl,c9,aE⟩;replace aE:Xm wr.heap.size wr d:=V.trans aE;have hq:=Aa (HD.out d aE);obtain⟨ra,rc,rfl,dE⟩:=AZ.of c9;have dD:=Aa (⟨_,_,dE⟩:ET d ra A);replace aE:=Aa aE;clear c9 dE
   go_wp2_with fail
   refine z.out _ _ hq.out (λy=>?_);clear z K hq
   try simp only[Act.put,sq]
   refine tk 6 y ?_;refine Yd (by kernel_rfl) ?_ _;clear y dp cd V;have dg:Hid (GS W (w.heap.size+1) (w.heap.size+1) ⟨nv,nf,nl,nt,nr⟩ p d (.slice (some ⟨g,0,none⟩) L cap) ms most):=by
    obtain⟨hi,N,hn,aq,h5,O,U,aI,aM,aO,ap,ai,ax,hL⟩:=HJ.out;rw[hL] at N;exact N.below (by have:=HB.out.2.1;omega) aE.out
   rename Xh=>wq
   go_wp2_with fail
   go_loopw [8,11] (λav kv wr=>∃k:Nat,k<=A.length/\kv = .int .i64 k/\GS W (w.heap.size+1) (w.heap.size+1) ⟨nv,nf,nl,nt,nr⟩ p wr av (Fb p ms m A k) most/\ET wr ra A) (λ_ kv _=>A.length - (intOf kv).toNat)
   case atStart=>exact⟨0,Xx _,rfl,dg.out,dD.out⟩
   case round=>
    clear dg dD HD
    rename Xh=>d
    obtain⟨k,hk,rfl,M,am⟩:=hrel;obtain⟨S3,bC⟩:=M.all
    by_cases h6:k<A.length
    ·obtain⟨hi,N,hn,aq,h5,O,U,aI,aM,aO,ap,ai,ax,hL⟩:=HJ.out;obtain⟨t,cp⟩:∃t,A[k]?=some t:=⟨_,Xe h6⟩;obtain⟨tn,rfl,cx⟩:=ai t U (Xz cp);obtain⟨eb,cg⟩:=aaM p ms m A k;have ay:(Fb p ms m A k)[i]?=some m:=by rw[cg,List.getElem?_append_left h5];exact O
     have R:=aaL (p:=p) (ms:=ms) (m:=m) cp;obtain⟨g,cap,s,hv,hs,ac,b4,t0,t1,t2,t3,t4,t5⟩:=bC.at ay;subst hv;obtain⟨a0,X,a2,a3,Z,a5,c0,c1,c2,c3,c4,c5⟩:=s;dsimp only at t0 t1 t2 t3 t4 t5;obtain⟨rb,ro,e1,dM,cr⟩:=am.is k h6;subst e1;have dP:A.getD k 0=(tn:Int):=by rw[Xc,cp];rfl
     rw[dP] at cr;have Y:=HB.out.2.1;have aD:w.heap.size+1<=d.heap.size:=by have:=M.bel.size;omega
     have aS:Hid (∀u,Xm d.heap.size d u->(u.cell? ⟨w.heap.size,0,none⟩=some (.slice x1 nv z1)/\u.cell? ⟨w.heap.size,1,none⟩=some (.slice x2 nf z2)/\u.cell? ⟨w.heap.size,2,none⟩=some (.slice x3 nl z3)/\u.cell? ⟨w.heap.size,3,none⟩=some (.slice x4 nt z4))/\(u.cell? ⟨g,i*6,none⟩=some (.slice a0 nv c0)/\u.cell? ⟨g,i*6+1,none⟩=some (.slice X nf c1)/\u.cell? ⟨g,i*6+2,none⟩=some (.slice a2 nl c2)/\u.cell? ⟨g,i*6+3,none⟩=some (.slice a3 nt c3)/\u.cell? ⟨g,i*6+4,none⟩=some (.slice Z nt c4)/\u.cell? ⟨g,i*6+5,none⟩=some (.slice a5 nr c5))/\u.cell? ⟨rb,ro+k,none⟩=some (.int .i64 (tn:Int))):=λu c=>⟨bY.out u (M.bel.trans (c.mono aD)),⟨(c.cell (p:=⟨g,i*6,none⟩) ac).trans t0,(c.cell (p:=⟨g,i*6+1,none⟩) ac).trans t1,(c.cell (p:=⟨g,i*6+2,none⟩) ac).trans t2,(c.cell (p:=⟨g,i*6+3,none⟩) ac).trans t3,(c.cell (p:=⟨g,i*6+4,none⟩) ac).trans t4,(c.cell (p:=⟨g,i*6+5,none⟩) ac).trans t5⟩,(c.cell (p:=⟨rb,ro+k,none⟩) dM).trans cr⟩
     have cn:=Aa (λu (c:Xm d.heap.size d u)=>dl.out u ⟨a0,X,a2,a3,Z,a5,c0,c1,c2,c3,c4,c5⟩ m tn (M.bel.trans (c.mono aD)) (b4.keep (DH.below c)) U cx);dsimp only at cn;obtain⟨m1,aK⟩:∃q,(AB true C m tn).1=q:=⟨_,rfl⟩;obtain⟨e1,dy⟩:∃q,(AB true C m tn).2=q:=⟨_,rfl⟩;simp only[aK,dy] at cn;have Q:=T.out.2.2.2.1 m tn U cx;rw[aK] at Q;rw[T.out.1,aK] at R;have V:Xm d.heap.size d d.drew:=⟨rfl,rfl,rfl,Xd _,λ_ _=>rfl⟩;have cw:=Aa (aS.out d.drew V);obtain⟨L3,aa⟩:∃x,(Fb p ms m A k).length=x:=⟨_,rfl⟩;have ex:(i:Int)<(L3:Int):=by have:=(Xf.1 ay).1;omega
     have eA:(k:Int)<(A.length:Int):=by omega
     have hwk:Hid (XN ((k:Int)+1)=(k:Int)+1):=by
      have:=Cv (n:=k+1) (by omega)
      push_cast at this
      exact this
     rw[aa] at M |-;obtain⟨⟨G,J,F,H⟩,⟨E,I,b6,b7,b8,b9⟩,d6⟩:=aS.out d (Xq _ _);have HN:=Aa (⟨M,am,R,Q,h6,aD,aa,ay⟩:_/\_/\_/\_/\_/\_/\_/\_);clear hi N hn aq h5 O U aI aM aO ap ai ax hL cp cx cg ay R hs ac b4 t0 t1 t2 t3 t4 t5 dM cr dP Y aD aK dy Q aa M am bC h6 hk
     go_upto_region 12 with fail
     clear G J F H E I b6 b7 b8 b9 d6
     go_cut [12,13] (λp9 ee wx=>∃sa se G J F H E I d0 d1 d2 d3 d4 d5,p9 = .pointer (some ⟨sa,0,none⟩)/\ee = .pointer (some ⟨se,0,none⟩)/\wx.heap[sa]?=some (.cells #[.slice G nv d0,.slice J nf d1,.slice F nl d2,.slice H nt d3,.slice E nt d4,.slice I nr d5] 92)/\wx.heap[se]?=some (.cells #[.int .i64 e1.t,.int .i64 e1.k,.int .i64 e1.o,.int .i64 e1.v] 169)/\d.heap.size<=sa/\d.heap.size<=se/\(∃lo,d.heap.size<=lo/\∃p1 p2 p3 p4 p5 p6,Be wx lo G J F H E I m1 p1 p2 p3 p4 p5 p6)/\Xm d.heap.size d wx)
     case first=>
      refine Xy (S:=(λu=>(u.cell? ⟨w.heap.size,0,none⟩=some (.slice x1 nv z1)/\u.cell? ⟨w.heap.size,1,none⟩=some (.slice x2 nf z2)/\u.cell? ⟨w.heap.size,2,none⟩=some (.slice x3 nl z3)/\u.cell? ⟨w.heap.size,3,none⟩=some (.slice x4 nt z4))/\(u.cell? ⟨g,i*6,none⟩=some (.slice a0 nv c0)/\u.cell? ⟨g,i*6+1,none⟩=some (.slice X nf c1)/\u.cell? ⟨g,i*6+2,none⟩=some (.slice a2 nl c2)/\u.cell? ⟨g,i*6+3,none⟩=some (.slice a3 nt c3)/\u.cell? ⟨g,i*6+4,none⟩=some (.slice Z nt c4)/\u.cell? ⟨g,i*6+5,none⟩=some (.slice a5 nr c5))/\u.cell? ⟨rb,ro+k,none⟩=some (.int .i64 (tn:Int)))) (by kernel_rfl) cw.out (λy=>?_);obtain⟨v,hv⟩:∃v,d.drew=v:=⟨_,rfl⟩;have D:Hid (ZE d v none none false):=by rw[<-hv];exact⟨V,λ_ e=>(by cases e),λ_ e=>(by cases e)⟩
      rw[hv] at y |-;clear hv V cw;refine tk 0 y ?_;refine tk 1 y ?_;refine tk 2 y ?_;refine tk 3 y ?_;refine tk 4 y ?_;refine tk 5 y ?_;refine tk 6 y ?_;refine tk 7 y ?_;refine tk 8 y ?_
      iterate 3
       all_goals first
        |have h:Hid (ZE d v none none false):=D
         refine Zd (rs:=[9,13,14]) (by kernel_rfl) (by simp) (X9 rfl (λK z=>?_) (X9 rfl (λK z=>?_) (X9 rfl (λK z=>?_) Y4)))
         all_goals clear h
        |have h:Hid (ZE d v none none true):=D
         refine Zd (rs:=[13,14]) (by kernel_rfl) (by simp) (X9 rfl (λK z=>?_) (X9 rfl (λK z=>?_) Y4))
         all_goals clear h
        |have h:Hid (ZE d v (some _) none false):=D
         refine Zd (rs:=[9,14]) (by kernel_rfl) (by simp) (X9 rfl (λK z=>?_) (X9 rfl (λK z=>?_) Y4))
         all_goals clear h
        |have h:Hid (ZE d v none (some _) false):=D
         refine Zd (rs:=[9,13]) (by kernel_rfl) (by simp) (X9 rfl (λK z=>?_) (X9 rfl (λK z=>?_) Y4))
         all_goals clear h
        |have h:Hid (ZE d v (some _) (some _) false):=D
         refine rd 9 (λK z=>?_);clear h
        |have h:Hid (ZE d v none (some _) true):=D
         refine rd 13 (λK z=>?_);clear h
        |have h:Hid (ZE d v (some _) none true):=D
         refine rd 14 (λK z=>?_);clear h
       all_goals
        go_simp
        first
        |obtain⟨v,c⟩:∃u,v.alloc (.cells Z6 92)=u:=⟨_,rfl⟩
         rw[c];obtain⟨hZ,hb⟩:=D.out.al c;replace D:=Aa hZ
         try replace HW:=Aa (Qi HW.out hb)
         clear c hZ hb;refine z.out _ _ (aS.out v D.out.b) (λy=>?_);clear z K
         try simp only[Act.put,sq]
        |obtain⟨v,c⟩:∃u,v.alloc (.cells Z4 169)=u:=⟨_,rfl⟩
         rw[c];obtain⟨hZ,hb⟩:=D.out.ae c;replace D:=Aa hZ
         try replace HW:=Aa (Qi HW.out hb)
         clear c hZ hb;refine z.out _ _ (aS.out v D.out.b) (λy=>?_);clear z K
         try simp only[Act.put,sq]
        |go_at_call 69
         refine(cn.out _ D.out.b).mono ?_;rintro e v ⟨G,J,F,H,E,I,⟨d0,d1,d2,d3,d4,d5,rfl⟩,⟨lo,bo,bw⟩,-,hb⟩;have HW:Hid (RW d v G J F H E I m1):=⟨lo,Xu D.out.b.size bo,bw⟩;replace D:=Aa (D.out.go true hb);clear bo bw hb
         go_wp2_with fail
         refine z.out _ _ (aS.out v D.out.b) (λy=>?_);clear z K
         try simp only[Act.put,sq]
         refine tk 10 y ?_;refine tk 11 y ?_;refine tk 12 y ?_
      all_goals
       obtain⟨Z1,Z2,c8,de,aH,kE,HF⟩:=D.out.fin e1 d0 d1 d2 d3 d4 d5 HW.out (n0:=nv) (n1:=nf) (n2:=nl) (n3:=nt) (n4:=nt) (n5:=nr);refine rd 15 (λK z=>?_);refine Fp _ _ _ rfl _ 0 #[.slice G nv d0,.slice J nf d1,.slice F nl d2,.slice H nt d3,.slice E nt d4,.slice I nr d5] rfl rfl (Mx (D.out.a _ rfl).2) (λj _=>Ao (D.out.a _ rfl).2 _) Tryz.sizeSt Lk ?_;rw[c8];refine z.out _ _ (aS.out Z1 aH.out) (λy=>?_);clear z K
       try simp only[Act.put,sq]
       refine rd 16 (λK z=>?_);refine Fp _ _ _ rfl _ 0 #[.int .i64 e1.t,.int .i64 e1.k,.int .i64 e1.o,.int .i64 e1.v] rfl rfl (PH kE) (λj _=>Ao kE _) Tryz.sizeRe Rg ?_;rw[de];refine z.out _ _ (aS.out Z2 HF.out.2.2.2.2.2) (λy=>?_);clear z K
       try simp only[Act.put,sq]
       refine Yd (by kernel_rfl) ?_ _;clear y c8 de aH kE D HW
       go_wp2_with fail
       go_meet
       exact⟨_,_,_,_,_,_,_,_,_,_,_,_,_,_,rfl,rfl,HF.out⟩
     case rest=>
      obtain⟨sa,se,G,J,F,H,E,I,d0,d1,d2,d3,d4,d5,rfl,rfl,kA,-,-,-,⟨lo,bo,p1,p2,p3,p4,p5,p6,bw⟩,cB⟩:=hcut;obtain⟨M,am,R,Q,h6,aD,aa,ay⟩:=HN.out;obtain⟨aV,bu,bd,bG,-,bL,bt,dY,a4,dv⟩:=T.out;have Y:=HB.out.2.1;have cC:Ci wc G J F H E I nv nf nl nt nr m1:=bw.doc Q.vl Q.fl Q.ll (Q.tl.trans dv) bt (ae7 Q);have aA:Dk wc ⟨G,J,F,H,E,I,d0,d1,d2,d3,d4,d5⟩ ⟨nv,nf,nl,nt,nr⟩ m1:=Dk.of bw cC;have a8:=M.below (by omega) cB;have b1:=cG.out wc G J F H E I d0 d1 d2 d3 d4 d5 m1 a8.bel cC Q;obtain⟨y0,y1,y2,y3⟩:=bY.out wc a8.bel;obtain⟨r0,r1,r2,r3,r4,r5⟩:=Bk kA;have HC:=Aa (⟨a8,am.keep (DH.below cB),aA,kA⟩:_/\_/\_/\_);clear M am R Q h6 aD aa ay aV bu bd bG bL bt dY a4 dv Y cC aA a8 bo bw cB kA aS cn cw
      go_wp2_with fail
      refine b1.mono ?_;rintro e w4 ⟨rfl,bF⟩;obtain⟨a8,dV,aA,kA⟩:=HC.out;obtain⟨M,am,R,Q,h6,aD,aa,ay⟩:=HN.out;have Y:=HB.out.2.1;have ak:=a8.below (by omega) bF;have a4:=T.out.2.2.2.2.2.2.2.2.1;have bM:=Qh (s:=Aj p m1) (T.out.2.1 _ Q) ak.seen (by have:=ak.bel.size;omega) (by rw[Xp];have:=ak.le;omega);have dm:=Aa (⟨ak,dV.keep (DH.below bF),aA.keep (DH.below bF),(bF.block sa (Xa.1 kA).1).trans kA⟩:_/\_/\_/\_);clear a8 dV aA kA M am R Q h6 aD aa ay Y ak a4 bF b1 HC y0 y1 y2 y3 r0 r1 r2 r3 r4 r5
      go_wp2_with fail
      refine bM.mono ?_;rintro e w5 ⟨rfl,aU,an⟩;obtain⟨ak,ca,cl,bT⟩:=dm.out;obtain⟨M,am,R,Q,h6,aD,aa,ay⟩:=HN.out;obtain⟨S4,ch⟩:=ak.all;have bA:=ch.keepN an;have b2:=ca.keep an.Lx;have co:=cl.keep an.Lx;have kA5:=(an.other _ _ _ bT (by decide) (by decide) (by decide)).trans bT;have aW:=ak.bel.trans an.bel;have Y:=HB.out.2.1;have a4:=T.out.2.2.2.2.2.2.2.2.1;have bH:=ak.le;have bX:=ak.ok;obtain⟨ky,bE⟩:∃x,Aj p m1=x:=⟨_,rfl⟩;obtain⟨kl,aQ⟩:∃x,(Fb p ms m A k).map (Aj p)=x:=⟨_,rfl⟩;unfold DS at R;rw[bE,aQ] at aU R |-;clear bM dm
      by_cases aX:ky∈kl
      ·have bl:decide (ky∉kl)=false:=decide_eq_false (λq=>q aX);rw[bl];rw[if_pos aX] at aU R;have HX:Hid (k+1<=A.length/\GS W (w.heap.size+1) (w.heap.size+1) ⟨nv,nf,nl,nt,nr⟩ p w5 (.slice (some ⟨g,0,none⟩) L3 cap) (Fb p ms m A (k+1)) most/\ET w5 (some ⟨rb,ro,none⟩) A):=by
        rw[R]
        exact⟨h6,⟨⟨S4,bA⟩,by rw[aQ];exact aU,aW,bH,bX⟩,b2⟩
       clear ak ca cl bT M am R Q h6 aD aa ay ch bA b2 co kA5 aW Y a4 bH bX bE aQ aX bl aU an
       go_wp2_with fail
       go_roundw
       case rel=>
        (try rw[hwk.out])
        exact⟨k+1,HX.out.1,rfl,HX.out.2.1,HX.out.2.2⟩
       case measure=>
        (try rw[hwk.out])
        exact Xl HX.out.1 (Xo k)
      ·have bl:decide (ky∉kl)=true:=decide_eq_true aX;rw[bl];rw[if_neg aX] at aU R
       by_cases dq:L3=most
       ·have HF:Hid (Om w ⟨nv,nf,nl,nt,nr⟩ p most (.returned (.tuple #[.slice none 0 0,.bool false])) w5):=by
         obtain⟨hi,N,hn,aq,h5,O,U,aI,aM,aO,ap,ai,ax,hL⟩:=HJ.out;have hrl':AP p.C m=A:=by rw[T.out.1];exact ax
         have cv:=aaN (p:=p) (ms:=ms) hrl' (k+1);rw[R,Xb,aa] at cv;have cv:L3+1<=(DE (Aj p) (By true p.C) ms m).length:=cv
         exact⟨HB.out.2.2.1 w5 aW,.inl ⟨b5.out.trans (adL O (by omega) aq),rfl⟩⟩
        subst dq;clear ak ca cl bT M am R Q h6 aD aa ay ch bA b2 co kA5 aW Y a4 bH bX bE aQ aX bl aU an
        go_wp2_with fail
        refine XI (results_tmp2 rfl _ _ _) rfl ?_;exact HF.out
       ·have eB:((L3:Int) == (most:Int))=false:=by simp only[beq_eq_false_iff_ne];omega
        obtain⟨r0,r1,r2,r3,r4,r5⟩:=Bk kA5;rw[aa] at bH;have eo:=bA;obtain⟨g6,ef,w6,cP,cA,dx,cy⟩:=bA.push (by have:=aW.size;omega) co (by omega);rw[aa] at cP cA;dsimp only at cP;have HX:Hid (k+1<=A.length/\GS W (w.heap.size+1) (w.heap.size+1) ⟨nv,nf,nl,nt,nr⟩ p w6 (.slice (some ⟨g6,0,none⟩) (L3+1) ef) (Fb p ms m A (k+1)) most/\ET w6 (some ⟨rb,ro,none⟩) A):=by
         rw[R];refine⟨h6,⟨⟨_,cA⟩,?_,aW.trans dx,?_,λx hx=>?_⟩,b2.keep λb cs e=>cy b cs _ e (by decide)⟩
         ·rw[List.map_append,aQ];show Fl w6 _ _ (kl++[Aj p m1]);rw[bE];exact aU.keep cy
         ·rw[Xb,aa];show L3+1<=most;omega
         ·rcases List.mem_append.1 hx with hx|hx
          ·exact bX x hx
          ·rw[XT.1 hx,T.out.1];exact Q
        clear ak ca cl bT M am R Q h6 aD aa ay ch bA b2 co kA5 aW Y a4 bH bX bE aQ aX bl aU an cA dx cy eo dq
        go_wp2_with (at_builtin;refine Dl rfl _ _ _ rfl rfl rfl rfl cP ?_)
        go_roundw
        case rel=>
         (try rw[hwk.out])
         exact⟨k+1,HX.out.1,rfl,HX.out.2.1,HX.out.2.2⟩
        case measure=>
         (try rw[hwk.out])
         exact Xl HX.out.1 (Xo k)
    ·obtain⟨hi,N,hn,aq,h5,O,U,aI,aM,aO,ap,ai,ax,hL⟩:=HJ.out;have aQ:k=A.length:=by omega
     have hrl':AP p.C m=A:=by rw[T.out.1];exact ax
     have da:=Lj (p:=p) (ms:=ms) hrl' (k:=k) (by omega);rw[da] at M bC;obtain⟨fa,fc,ei⟩:=As bC.row;subst ei;have HX:Hid (i+1<=most/\i+1<=(DE (Aj p) (By true p.C) ms m).length/\GS W (w.heap.size+1) (w.heap.size+1) ⟨nv,nf,nl,nt,nr⟩ p d (.slice fa (DE (Aj p) (By true p.C) ms m).length fc) (DE (Aj p) (By true p.C) ms m) most/\n - 1+(i+1)=most+1/\Cq (Aj p) (By true p.C) most (n - 1) (DE (Aj p) (By true p.C) ms m) (i+1)=res):=by
      obtain⟨eb,cg⟩:=ac5 (key:=Aj p) (succ:=By true p.C) ms m;have ez:ms.length<=(DE (Aj p) (By true p.C) ms m).length:=by rw[cg,Xb];exact Nat.le_add_right _ _
      refine⟨by omega,by omega,M,by omega,adK (by omega) O M.le aq⟩
     subst aQ;clear hi N hn aq h5 O U aI aM aO ap ai ax hL hrl' da M bC am h6 hk
     go_wp2_with fail
     go_roundw
     case rel=>
      (try rw[dU.out])
      exact⟨i+1,n - 1,_,HX.out.2.1,rfl,HX.out.2.2.1,HX.out.2.2.2.1,HX.out.2.2.2.2⟩
     case measure=>
      (try rw[dU.out])
      exact Xl HX.out.1 (Xo i)
  ·have di:i=ms.length:=by omega
   have df:0<n:=by omega
   rw[di] at aq;have hR:=adM df aq;subst dh;have Y:=HB.out.2.1;have HF:Hid (Om w ⟨nv,nf,nl,nt,nr⟩ p most (.returned (.tuple #[.slice va ms.length et,.bool true])) wr):=⟨HB.out.2.2.1 wr N.bel,.inr ⟨ms,_,S,b5.out.trans hR,rfl,⟨Dq hA.row (by omega),hA.len,hA.doc⟩,N.le,N.ok⟩⟩;subst di;clear hi N hn aq h5 aM aO hA hR df Y
   go_wp2_with fail
   refine XI (results_tmp2 rfl _ _ _) rfl ?_;exact HF.out
end
theorem Sj {l:List Tx} (x:Tx) (h:l≠[]):YU (l++[x]) [32]=YU l [32]++[32]++x:=by
 cases l with
 |nil=>exact absurd rfl h
 |cons y r=>
  rw[List.cons_append,Lib.join_cons,Lib.join_cons];simp[Lib.joinTail,List.append_assoc]
theorem acf {l:List Tx} {x:Tx} (h:l[0]?=some x):YU (l.take 1) [32]=x:=by
 rw[Yo,h];simp[Lib.join_one]
theorem ace {l:List Tx} {i:Nat} {x:Tx} (a:0<i) (h:l[i]?=some x):YU (l.take (i+1)) [32]=YU (l.take i) [32]++[32]++x:=by
 rw[Yo,h];refine Sj x (λe=>?_);have b:=(Xf.1 h).1;have:=congrArg List.length e;rw[List.length_take,List.length_nil] at this
 omega
theorem ach {l:List Tx} (h:∀x,x∈l->x≠[]) (a:l≠[]):YU l [32]≠[]:=by
 cases l with
 |nil=>exact absurd rfl a
 |cons y r=>
  rw[Lib.join_cons];intro e;exact h y (by simp) (List.append_eq_nil_iff.1 e).1
theorem ac1 {m:MS} {t:Nat} (a:t<m.thr.length) (h:(m.th t).ph=1):0<Ay m:=by
 unfold Ay;refine List.countP_pos_iff.2 ⟨m.thr.getD t AC,CN a,?_⟩;have h:(m.thr.getD t AC).ph=1:=h;rw[h];rfl
theorem ac0 {m:MS} (h:∀t,t<m.thr.length->(m.th t).ph≠1):Ay m=0:=by
 unfold Ay;refine List.countP_eq_zero.2 λth b=>?_;obtain⟨j,a⟩:=List.mem_iff_getElem?.1 b;have c:=(Xf.1 a).1;have:=h j c;have e:m.th j=th:=by unfold MS.th;rw[Xc,a];rfl
 rw[e] at this
 simpa using this
theorem Qn {w:Xh} {u p r v c a5:Option YV} {nv nf nl nt nr:Nat} {m:MS} {c0 c1 c2 c3 c4 c5:Nat} (h:Ci w u p r v c a5 nv nf nl nt nr m) (D:nt<=4) :
 XY Tryz.prog 34 #[.agg #[.slice u nv c0,.slice p nf c1,.slice r nl c2,.slice v nt c3,.slice c nt c4,.slice a5 nr c5]] w λe w'=>e = .returned (.bool (decide (0<Ay m)))/\Xm w.heap.size w w':=by
 obtain⟨W,a⟩:∃W,w.alloc (.cells #[.slice u nv c0,.slice p nf c1,.slice r nl c2,.slice v nt c3,.slice c nt c4,.slice a5 nr c5] 92)=W:=⟨_,rfl⟩;have A:Xm w.heap.size w W:=by rw[<-a];exact(Xq _ _).alloc (Xd _) _
 have H:W.heap[w.heap.size]?=some (.cells #[.slice u nv c0,.slice p nf c1,.slice r nl c2,.slice v nt c3,.slice c nt c4,.slice a5 nr c5] 92):=by rw[<-a];exact Xi w _
 obtain⟨Z,o⟩:∃x,w.heap.size=x:=⟨_,rfl⟩;have S:W.cell? ⟨Z,4,none⟩=some (.slice c nt c4):=by rw[<-o];simp[World.cell?,H]
 have y:m.thr.length=nt:=h.lt;have q:Hid (∀i,i<nt->∃b d,c=some ⟨b,d,none⟩/\W.cell? ⟨b,d+i,none⟩=some (.int .i64 (m.th i).ph)):=λi l=>by
  obtain⟨b,d,N,R,F⟩:=(h.below A).s i (by rw[FI];omega);rw[Jc m (by omega)] at F
  exact⟨b,d,N,F⟩
 have I:=Aa A;replace a:=Aa a;replace o:=Aa o;replace y:=Aa y;replace D:=Aa D;clear h A H
 go_enter Tryz.func34,Tryz.ntmps34
 go_upto_region 1 with fail
 rw[a.out,o.out];clear a
 go_wp2_with fail
 go_loopw [3] (λE wr=>∃i:Nat,i<=nt/\E = .int .i64 i/\(∀j,j<i->(m.th j).ph≠1)/\wr=W) (λE _=>nt - (intOf E).toNat)
 case atStart=>exact⟨0,Xx _,rfl,(λj G=>absurd G (Nat.not_lt_zero j)),rfl⟩
 case round=>
  obtain⟨i,l,rfl,k,rfl⟩:=hrel
  by_cases f:i<nt
  ·obtain⟨b,d,rfl,O⟩:=q.out i f;have Q:(i:Int)<(nt:Int):=by omega
   have J:XN ((i:Int)+1)=(i:Int)+1:=by have:=D.out;unfold XN;omega
   obtain⟨x,g⟩:∃x,(m.th i).ph=x:=⟨_,rfl⟩;rw[g] at O
   by_cases n:x=1
   ·subst n;have C:Hid (decide (0<Ay m)=true):=decide_eq_true (ac1 (by rw[y.out];exact f) g);clear k l q g
    go_wp2_with fail
    go_ret
    rw[C.out]
    exact⟨rfl,I.out⟩
   ·have P:(x == 1)=false:=by simpa using n
    have B:Hid (i+1<=nt/\∀j,j<i+1->(m.th j).ph≠1):=⟨f,λj G=>by
     by_cases z:j=i
     ·rw[z,g];exact n
     ·exact k j (by omega)⟩
    clear k l q g f n
    go_wp2_with fail
    go_roundw
    case rel=>
     (try rw[J])
     exact⟨i+1,B.out.1,rfl,B.out.2,by first|rfl|trivial⟩
    case measure=>
     (try rw[J])
     exact Xl B.out.1 (Xo i)
  ·have K:i=nt:=by omega
   have C:Hid (decide (0<Ay m)=false):=decide_eq_false (by rw[ac0 (λt M=>k t (by rw[y.out] at M;omega))];exact Nat.lt_irrefl _);subst K;clear k l q f
   go_wp2_with fail
   go_ret
   rw[C.out]
   exact⟨rfl,I.out⟩
end Go.Proofs.YtdcacoifehkioaaGreatDoor
