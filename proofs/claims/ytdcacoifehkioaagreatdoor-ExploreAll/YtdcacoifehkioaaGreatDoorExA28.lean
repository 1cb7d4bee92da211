import Derived.Test.YtdcacoifehkioaaGreatDoorExA3
import Derived.Test.YtdcacoifehkioaaGreatDoorExA26
import Derived.Test.YtdcacoifehkioaaGreatDoorExA24
import Derived.Test.YtdcacoifehkioaaGreatDoorExA15
open List renaming replicate->Xr,length_append->Xb,length_replicate->Yx,ext_getElem?->Y3,getElem?_map->Xs,getElem?_replicate->ZG,getElem?_range->Zo,getElem?_eq_none->XU,length_range->ZX
open Nat renaming le_refl->Xd,sub_self->YR,le_trans->Xu,zero_le->Xx,sub_lt_sub_left->Xl,lt_succ_self->Xo
open Go renaming World->Xh,Addr->YV,Value->Xk,wp_region_held_drew->Xy,wpAnyH_ready->Zd,wpAnyH_done->Yd,heap_setCell_other->Xt,bodyPost_ret->XI
open Array renaming getElem?_eq_some_iff->Xa
open Go.RowKit renaming Below->Xm,wrap64->XN
open Go.AllReadyH renaming cons->X9,nil->Y4
open Go.Act renaming put->XG
open Go.Lib renaming itoa->Yh
set_option maxRecDepth 100000
set_option maxHeartbeats 16000000
set_option linter.unusedVariables false
set_option linter.unusedSimpArgs false
namespace Go.Proofs.YtdcacoifehkioaaGreatDoor
open Go.RowKit Go.Shelf Go.Proofs.Cod
def Hi (nl i:Nat):List Int:=Xr i (-1)++Xr (nl - i) 0
theorem abM {nl i:Nat} (h:i<=nl):(Hi nl i).length=nl:=by unfold Hi;rw[Xb,Yx,Yx];omega
theorem abL {nl i:Nat} (h:i<nl):(Hi nl i).set i (-1)=Hi nl (i+1):=by
 unfold Hi;have e:nl - i=(nl - (i+1))+1:=by omega
 rw[List.set_append_right _ _ (by rw[Yx];exact Xd _),Yx,YR,e,List.replicate_succ,List.set_cons_zero,List.replicate_succ',List.append_assoc];rfl
theorem abN (nl:Nat):Hi nl nl=Xr nl (-1):=by unfold Hi;rw[YR];exact List.append_nil _
theorem Rr {W:Xh} {sb g i T n0 n1 n2 n3 n4 n5 h m o k p b:Nat} {c l d f j a5:Option YV} {n:Int} (ks:W.heap[sb]?=some (.cells #[.slice c n0 h,.slice l n1 m,.slice d n2 o,.slice f n3 k,.slice j n4 p,.slice a5 n5 b] T)) (a:W.cell? ⟨g,i,none⟩=some (.int .i64 n)):g≠sb:=by
 intro e;subst e;obtain⟨c0,c1,c2,c3,c4,c5⟩:=Bk ks;have r:i<6:=by
  have q:(#[Value.slice c n0 h,.slice l n1 m,.slice d n2 o,.slice f n3 k,.slice j n4 p,.slice a5 n5 b]:Array Xk)[i]?=some (.int .i64 n):=by simpa [World.cell?,ks] using a
  exact(Xa.1 q).1
 match i,r with
 |0,_=>rw[c0] at a;cases a
 |1,_=>rw[c1] at a;cases a
 |2,_=>rw[c2] at a;cases a
 |3,_=>rw[c3] at a;cases a
 |4,_=>rw[c4] at a;cases a
 |5,_=>rw[c5] at a;cases a
section
variable (nv nf nl nt:Nat)
theorem aba:Ee (AJ nv nf nl nt)=Xr nt 0:=by
 unfold Ee AJ;dsimp only
 apply Y3
 intro i;rw[Xs,Xs,ZG]
 by_cases h:i<nt
 ·rw[Zo h,if_pos h]
  by_cases e:i=0
  ·simp[e,AC]
  ·simp[e,AC]
 ·rw[XU (by rw[ZX];omega),if_neg h];rfl
theorem aa6:CR (AJ nv nf nl nt)=(Xr nt 0).set 0 1:=by
 unfold CR AJ;dsimp only
 apply Y3
 intro i;rw[Xs,Xs,List.getElem?_set,Yx,ZG]
 by_cases h:i<nt
 ·rw[Zo h]
  by_cases e:i=0
  ·subst e;simp[h]
  ·rw[if_neg (λq=>e q.symm),if_pos h];simp[e,AC]
 ·rw[XU (by rw[ZX];omega)]
  by_cases e:i=0
  ·subst e;simp[h]
  ·rw[if_neg (λq=>e q.symm),if_neg h];rfl
theorem aa7:EN (AJ nv nf nl nt)=Xr (nt*4) 0:=by
 unfold EN AJ;dsimp only;have:∀l:List Nat,((l.map λt=>if t=0 then({AC with ph:=1}:TS) else AC).flatMap λth=>th.regs)=Xr (l.length*4) 0:=by
  intro l
  induction l with
  |nil=>rfl
  |cons a r b=>
   rw[List.map_cons,List.flatMap_cons,b,List.length_cons,show (r.length+1)*4=4+r.length*4 by omega,<-List.replicate_append_replicate]
   congr 1
   by_cases e:a=0
   ·rw[if_pos e];rfl
   ·rw[if_neg e];rfl
 rw[this,ZX]
theorem aa9:R4 (AJ nv nf nl nt):=λth a=>by
 unfold AJ at a;obtain⟨t,-,rfl⟩:=List.mem_map.1 a
 by_cases e:t=0
 ·rw[if_pos e];rfl
 ·rw[if_neg e];rfl
end
section
variable {w w':Xh} {nv nf nl nt nr:Nat} {x1 x2 x3 x4:Option YV} {z1 z2 z3 z4:Nat}
abbrev Z6:Array Xk := #[.slice none 0 0,.slice none 0 0,.slice none 0 0,.slice none 0 0,.slice none 0 0,.slice none 0 0]
def RL (v:Xh):Nat->List (Option YV×Nat×Nat)->Prop
 |lo,[]=>lo<=v.heap.size
 |lo,(b,n,q)::l=>AZ v lo q b (Xr n 0)/\lo<=q/\RL v q l
theorem RL.le {v:Xh} {l:List (Option YV×Nat×Nat)}:∀{a:Nat},RL v a l->a<=v.heap.size:=by
 induction l with
 |nil=>exact id
 |cons x l b=>intro a h;have:=b h.2.2;have:=h.2.1;omega
theorem RL.go {v c:Xh} {l:List (Option YV×Nat×Nat)} (b:Xm v.heap.size v c):∀{a:Nat},RL v a l->RL c a l:=by
 induction l with
 |nil=>intro a h;exact Xu h b.size
 |cons x l d=>intro a h;exact⟨h.1.below h.2.2.le b,h.2.1,d h.2.2⟩
theorem RL.new {v a:Xh} {b:Option YV} {n:Nat} (e:AZ a v.heap.size a.heap.size b (Xr n 0)) (d:Xm v.heap.size v a) {l:List (Option YV×Nat×Nat)}:∀{c:Nat},RL v c l->RL a c (l++[(b,n,a.heap.size)]):=by
 induction l with
 |nil=>intro c h;exact⟨e.mono h (Xd _),Xu h d.size,Xd _⟩
 |cons x l f=>intro c h;exact⟨h.1.below h.2.2.le d,h.2.1,f h.2.2⟩
structure ZB (W v:Xh) (x:Option Nat) (l:List (Option YV×Nat×Nat)):Prop where
 b:Xm W.heap.size W v
 r:RL v W.heap.size l
 k:∀a,x=some a->W.heap.size<=a/\v.heap[a]?=some (.cells Z6 92)
theorem ZB.go {W v c:Xh} {x:Option Nat} {l:List (Option YV×Nat×Nat)} {b:Option YV} {n:Nat} (h:ZB W v x l) (f:AZ c v.heap.size c.heap.size b (Xr n 0)) (d:Xm v.heap.size v c):ZB W c x (l++[(b,n,c.heap.size)]):=
 ⟨h.b.trans (d.mono h.b.size),h.r.new f d,λa e=>⟨(h.k a e).1,(d.block a (Xa.1 (h.k a e).2).1).trans (h.k a e).2⟩⟩
theorem ZB.al {W v A:Xh} {l:List (Option YV×Nat×Nat)} (h:ZB W v none l) (d:v.alloc (.cells Z6 92)=A):ZB W A (some v.heap.size) l:=by
 subst d;have c:Xm v.heap.size v (v.alloc (.cells Z6 92)):=(Below.refl _ _).alloc (Xd _) _
 exact⟨h.b.trans (c.mono h.b.size),h.r.go c,λa e=>by cases e;exact⟨h.b.size,World.alloc_heap_new v _⟩⟩
theorem ZB.fin {W v:Xh} {a n0 n1 n2 n3 n4 n5 F D H E J G:Nat} {j o m n i g:Option YV} (y z x w A u:Nat) (h:ZB W v (some a) [(j,n0,F),(o,n1,D),(m,n2,H),(n,n3,E),(i,n4,J),(g,n5,G)]) :
 ∃Z,v.setCells a 0 (#[Value.slice j n0 y,.slice o n1 z,.slice m n2 x,.slice n n3 w,.slice i n4 A,.slice g n5 u]:Array Xk).toList=Z/\Z.heap[a]?=some (.cells #[.slice j n0 y,.slice o n1 z,.slice m n2 x,.slice n n3 w,.slice i n4 A,.slice g n5 u] 92)/\Bu Z W.heap.size j o m n i g (Xr n0 0) (Xr n1 0) (Xr n2 0) (Xr n3 0) (Xr n4 0) (Xr n5 0) F D H E J G/\W.heap.size<=a/\Xm W.heap.size W Z:=by
 obtain⟨d,⟨R,V,s1,Q,O,T,M,Y,P,l4,s5,X,l6⟩,r⟩:=h;obtain⟨ha,r⟩:=r a rfl;obtain⟨Z,t⟩:∃Z,v.setCells a 0 (#[Value.slice j n0 y,.slice o n1 z,.slice m n2 x,.slice n n3 w,.slice i n4 A,.slice g n5 u]:Array Xk).toList=Z:=⟨_,rfl⟩;have c:Ac (λk=>k=a) v Z:=by rw[<-t];exact EZ (S:=λk=>k=a) _ 0 (Ac.refl v) (.inl rfl)
 have C:=c.size;have K:∀{I q:Nat} {b:Option YV} {l:List Int},AZ v I q b l->AZ Z I q b l:=λh=>by
  rcases h with h|⟨b,N,f,e,h1,U,⟨cs,p,q2⟩,h3⟩
  ·exact .inl h
  ·refine .inr ⟨b,N,f,e,h1,U,⟨cs,(c.block b (Xa.1 p).1 (λs=>?_)).trans p,q2⟩,h3⟩;have s:b=a:=s;rw[s,r] at p
   cases p
 exact⟨Z,t,by rw[<-t];exact JL _ _ _ _ _ _ r,⟨K R,K s1,K O,K M,K P,K s5,V,Q,T,Y,l4,X,Xu l6 C⟩,ha,⟨c.os.trans d.os,c.tape.trans d.tape,c.output.trans d.output,Xu d.size C,λk B=>(c.block k (Nat.lt_of_lt_of_le B d.size) (λe=>by have e:k=a:=e;omega)).trans (d.block k B)⟩⟩
theorem WX (w:Xh) (ag:nv<=4) (af:nf<=4) (ah:nl<=4) (ad:nt<=4) (X:nt*4=nr) :
 Calls Tryz.prog 66 #[.agg #[.slice x1 nv z1,.slice x2 nf z2,.slice x3 nl z3,.slice x4 nt z4]] w λe w'=>∃s q l r h o,(∃D E G F H I,e = .returned (.agg #[.slice s nv D,.slice q nf E,.slice l nl G,.slice r nt F,.slice h nt H,.slice o nr I]))/\(∃lo,w.heap.size<=lo/\∃Q M N P O R,Be w' lo s q l r h o (AJ nv nf nl nt) Q M N P O R)/\Ci w' s q l r h o nv nf nl nt nr (AJ nv nf nl nt)/\Xm w.heap.size w w':=by
 obtain⟨W,hW⟩:∃W,(w.alloc (.cells #[.slice x1 nv z1,.slice x2 nf z2,.slice x3 nl z3,.slice x4 nt z4] 28)).alloc (.cells #[.slice none 0 0,.slice none 0 0,.slice none 0 0,.slice none 0 0,.slice none 0 0,.slice none 0 0] 92)=W:=⟨_,rfl⟩;obtain⟨J,k1,k2,hz⟩:=FH _ _ _ hW;have x:Hid (∀u,Xm W.heap.size W u->u.cell? ⟨w.heap.size,0,none⟩=some (.slice x1 nv z1)/\u.cell? ⟨w.heap.size,1,none⟩=some (.slice x2 nf z2)/\u.cell? ⟨w.heap.size,2,none⟩=some (.slice x3 nl z3)/\u.cell? ⟨w.heap.size,3,none⟩=some (.slice x4 nt z4)):=λu hu=>Cl ((hu.block _ (by omega)).trans k1);have a5:=Aa (fun(u:Xh)=>IW (n:=nv) u (by omega));have a3:=Aa (fun(u:Xh)=>IW (n:=nf) u (by omega));have aW:=Aa (fun(u:Xh)=>IW (n:=nl) u (by omega));have aR:=Aa (fun(u:Xh)=>IW (n:=nt) u (by omega));have aO:=Aa (fun(u:Xh)=>IW (n:=nt) u (by omega));have aQ:=Aa (fun(u:Xh)=>IW (n:=nr) u (by omega));have HP:=Aa (⟨J,hz,k2⟩:_/\_/\_);have hd:Xm W.heap.size W W.drew:=⟨rfl,rfl,rfl,Xd _,λ_ _=>rfl⟩;have aV:XN ((nt:Int)*4)=(nr:Int):=by rw[<-X];have:=Cv (n:=nt*4) (by omega);push_cast at this |-;exact this
 have bf:IntKind.i64.wrap ((nt:Int)*4)=(nr:Int):=(IntWalk.i64_left _).trans aV;have HN:=Aa (⟨ag,af,ah,ad,X⟩:_/\_/\_/\_/\_);obtain⟨q0,q1,q2,q3⟩:=x.out W (Below.refl _ _);clear J k1 k2 hz ag af ah ad X
 go_enter Tryz.func66,Tryz.ntmps66
 go_upto_region 1 with fail
 try rw[hW]
 clear hW
 go_wp2_with fail
 clear q0 q1 q2 q3
 go_cut [4] (λp wx=>∃sb s q l r h o D E G F H I Q M N P O R,p = .pointer (some ⟨sb,0,none⟩)/\wx.heap[sb]?=some (.cells #[.slice s nv D,.slice q nf E,.slice l nl G,.slice r nt F,.slice h nt H,.slice o nr I] 92)/\Bu wx W.heap.size s q l r h o (Xr nv 0) (Xr nf 0) (Xr nl 0) (Xr nt 0) (Xr nt 0) (Xr nr 0) Q M N P O R/\W.heap.size<=sb/\Xm W.heap.size W wx)
 case first=>
  refine Xy (S:=(λu=>u.cell? ⟨w.heap.size,0,none⟩=some (.slice x1 nv z1)/\u.cell? ⟨w.heap.size,1,none⟩=some (.slice x2 nf z2)/\u.cell? ⟨w.heap.size,2,none⟩=some (.slice x3 nl z3)/\u.cell? ⟨w.heap.size,3,none⟩=some (.slice x4 nt z4))) (by kernel_rfl) (x.out _ hd) (λf=>?_);obtain⟨v,hv⟩:∃v,W.drew=v:=⟨_,rfl⟩;have c:Hid (ZB W v none []):=by rw[<-hv];exact⟨hd,Xd _,λ_ e=>by cases e⟩
  rw[hv] at f |-;clear hv;refine tk 0 f ?_;refine tk 1 f ?_;refine tk 2 f ?_;refine tk 4 f ?_;refine tk 5 f ?_;refine tk 6 f ?_;refine tk 8 f ?_;refine tk 9 f ?_;refine tk 10 f ?_;refine tk 12 f ?_;refine tk 14 f ?_;refine tk 16 f ?_;refine tk 17 f ?_;clear hd
  focus
   refine Zd (rs:=[3,20]) (by kernel_rfl) (by simp) ?_;refine X9 rfl (λK a=>?_) (X9 rfl (λK a=>?_) Y4)
   rotate_left
   go_simp
   obtain⟨A,d⟩:∃A,v.alloc (.cells Z6 92)=A:=⟨_,rfl⟩
   try rw[d]
   replace c:=Aa (c.out.al d);clear d;refine a.out _ _ (x.out A c.out.b) (λf=>?_);clear a K
   try simp only[XG,sq]
   refine rd 3 (λK a=>?_)
   rotate_left
  all_goals
   go_simp
   go_at_call 128
   refine(a5.out _).mono ?_;rintro e v0 ⟨s,D,rfl,y,C⟩;replace c:=Aa (c.out.go y C);have B:=Aa (x.out v0 c.out.b);clear y C
   go_wp2_with fail
   refine a.out _ _ B.out (λf=>?_);clear a K B
   try simp only[XG,sq]
  focus
   refine Zd (rs:=[7,20]) (by kernel_rfl) (by simp) ?_;refine X9 rfl (λK a=>?_) (X9 rfl (λK a=>?_) Y4)
   rotate_left
   go_simp
   obtain⟨A,d⟩:∃A,v0.alloc (.cells Z6 92)=A:=⟨_,rfl⟩
   try rw[d]
   replace c:=Aa (c.out.al d);clear d;refine a.out _ _ (x.out A c.out.b) (λf=>?_);clear a K
   try simp only[XG,sq]
   refine rd 7 (λK a=>?_)
   rotate_left
  all_goals try refine rd 7 (λK a=>?_)
  all_goals
   go_simp
   go_at_call 128
   refine(a3.out _).mono ?_;rintro e v1 ⟨q,E,rfl,y,C⟩;replace c:=Aa (c.out.go y C);have B:=Aa (x.out v1 c.out.b);clear y C
   go_wp2_with fail
   refine a.out _ _ B.out (λf=>?_);clear a K B
   try simp only[XG,sq]
  focus
   refine Zd (rs:=[11,20]) (by kernel_rfl) (by simp) ?_;refine X9 rfl (λK a=>?_) (X9 rfl (λK a=>?_) Y4)
   rotate_left
   go_simp
   obtain⟨A,d⟩:∃A,v1.alloc (.cells Z6 92)=A:=⟨_,rfl⟩
   try rw[d]
   replace c:=Aa (c.out.al d);clear d;refine a.out _ _ (x.out A c.out.b) (λf=>?_);clear a K
   try simp only[XG,sq]
   refine rd 11 (λK a=>?_)
   rotate_left
  all_goals try refine rd 11 (λK a=>?_)
  all_goals
   go_simp
   go_at_call 128
   refine(aW.out _).mono ?_;rintro e v2 ⟨l,G,rfl,y,C⟩;replace c:=Aa (c.out.go y C);have B:=Aa (x.out v2 c.out.b);clear y C
   go_wp2_with fail
   refine a.out _ _ B.out (λf=>?_);clear a K B
   try simp only[XG,sq]
  focus
   refine Zd (rs:=[13,20]) (by kernel_rfl) (by simp) ?_;refine X9 rfl (λK a=>?_) (X9 rfl (λK a=>?_) Y4)
   rotate_left
   go_simp
   obtain⟨A,d⟩:∃A,v2.alloc (.cells Z6 92)=A:=⟨_,rfl⟩
   try rw[d]
   replace c:=Aa (c.out.al d);clear d;refine a.out _ _ (x.out A c.out.b) (λf=>?_);clear a K
   try simp only[XG,sq]
   refine rd 13 (λK a=>?_)
   rotate_left
  all_goals try refine rd 13 (λK a=>?_)
  all_goals
   go_simp
   go_at_call 128
   refine(aR.out _).mono ?_;rintro e v3 ⟨r,F,rfl,y,C⟩;replace c:=Aa (c.out.go y C);have B:=Aa (x.out v3 c.out.b);clear y C
   go_wp2_with fail
   refine a.out _ _ B.out (λf=>?_);clear a K B
   try simp only[XG,sq]
  focus
   refine Zd (rs:=[15,20]) (by kernel_rfl) (by simp) ?_;refine X9 rfl (λK a=>?_) (X9 rfl (λK a=>?_) Y4)
   rotate_left
   go_simp
   obtain⟨A,d⟩:∃A,v3.alloc (.cells Z6 92)=A:=⟨_,rfl⟩
   try rw[d]
   replace c:=Aa (c.out.al d);clear d;refine a.out _ _ (x.out A c.out.b) (λf=>?_);clear a K
   try simp only[XG,sq]
   refine rd 15 (λK a=>?_)
   rotate_left
  all_goals try refine rd 15 (λK a=>?_)
  all_goals
   go_simp
   go_at_call 128
   refine(aO.out _).mono ?_;rintro e v4 ⟨h,H,rfl,y,C⟩;replace c:=Aa (c.out.go y C);have B:=Aa (x.out v4 c.out.b);clear y C
   go_wp2_with fail
   refine a.out _ _ B.out (λf=>?_);clear a K B
   try simp only[XG,sq]
  focus
   refine Zd (rs:=[18,20]) (by kernel_rfl) (by simp) ?_;refine X9 rfl (λK a=>?_) (X9 rfl (λK a=>?_) Y4)
   rotate_left
   go_simp
   obtain⟨A,d⟩:∃A,v4.alloc (.cells Z6 92)=A:=⟨_,rfl⟩
   try rw[d]
   replace c:=Aa (c.out.al d);clear d;refine a.out _ _ (x.out A c.out.b) (λf=>?_);clear a K
   try simp only[XG,sq]
   refine rd 18 (λK a=>?_)
   rotate_left
  all_goals try refine rd 18 (λK a=>?_)
  all_goals
   go_simp
   go_at_call 128
   refine(aQ.out _).mono ?_;rintro e v5 ⟨o,I,rfl,y,C⟩;replace c:=Aa (c.out.go y C);have B:=Aa (x.out v5 c.out.b);clear y C
   go_wp2_with fail
   refine a.out _ _ B.out (λf=>?_);clear a K B
   try simp only[XG,sq]
  focus
   refine Zd (rs:=[19,20]) (by kernel_rfl) (by simp) ?_;refine X9 rfl (λK a=>?_) (X9 rfl (λK a=>?_) Y4)
   rotate_left
   go_simp
   obtain⟨A,d⟩:∃A,v5.alloc (.cells Z6 92)=A:=⟨_,rfl⟩
   try rw[d]
   replace c:=Aa (c.out.al d);clear d;refine a.out _ _ (x.out A c.out.b) (λf=>?_);clear a K
   try simp only[XG,sq]
   refine rd 19 (λK a=>?_)
   rotate_left
  all_goals try refine rd 19 (λK a=>?_)
  all_goals
   refine JC _ _ rfl [(0,.slice s nv D),(1,.slice q nf E),(2,.slice l nl G),(3,.slice r nt F),(4,.slice h nt H),(5,.slice o nr I)] rfl #[.slice s nv D,.slice q nf E,.slice l nl G,.slice r nt F,.slice h nt H,.slice o nr I] (by rfl) ?_;refine a.out _ _ (x.out _ c.out.b) (λf=>?_);clear a K
   try simp only[XG,sq]
  focus
   refine rd 20 (λK a=>?_)
   go_simp
   obtain⟨A,d⟩:∃A,v5.alloc (.cells Z6 92)=A:=⟨_,rfl⟩
   try rw[d]
   replace c:=Aa (c.out.al d);clear d;refine a.out _ _ (x.out A c.out.b) (λf=>?_);clear a K
   try simp only[XG,sq]
  all_goals
   refine rd 21 (λK a=>?_);obtain⟨Z,hZ,z⟩:=c.out.fin D E G F H I;refine Fp _ _ _ rfl _ 0 #[.slice s nv D,.slice q nf E,.slice l nl G,.slice r nt F,.slice h nt H,.slice o nr I] rfl rfl (Mx (c.out.k _ rfl).2) (λj _=>Ao (c.out.k _ rfl).2 _) Tryz.sizeSt Lk ?_;replace z:=Aa z;rw[hZ];refine a.out _ _ (x.out Z z.out.2.2.2) (λf=>?_);clear a K hZ c
   try simp only[XG,sq]
   refine Yd (by kernel_rfl) ?_ _;clear f
   go_wp2_with fail
   go_meet
   exact⟨_,_,_,_,_,_,_,_,_,_,_,_,_,_,_,_,_,_,_,rfl,z.out.1,z.out.2.1,z.out.2.2.1,z.out.2.2.2⟩
 case rest=>
  obtain⟨sb,s,q,l,r,h,o,D,E,G,F,H,I,Q,M,N,P,O,R,rfl,ks,Y,aU,J⟩:=hcut;have HR:=Aa (⟨ks,Y,J⟩:_/\_/\_);replace aU:=Aa aU;clear ks Y J hd bf aV a5 a3 aW aR aO aQ x
  go_wp2_with fail
  go_loopw [5] (λiv wr=>∃i:Nat,i<=nl/\iv = .int .i64 i/\wr.heap[sb]?=some (.cells #[.slice s nv D,.slice q nf E,.slice l nl G,.slice r nt F,.slice h nt H,.slice o nr I] 92)/\Bu wr W.heap.size s q l r h o (Xr nv 0) (Xr nf 0) (Hi nl i) (Xr nt 0) (Xr nt 0) (Xr nr 0) Q M N P O R/\Xm W.heap.size W wr) (λiv _=>nl - (intOf iv).toNat)
  case atStart=>exact⟨0,Xx _,rfl,HR.out.1,HR.out.2.1,HR.out.2.2⟩
  case round=>
   obtain⟨i,hi,rfl,ks,Y,J⟩:=hrel;clear HR;obtain⟨s0,s1,s2,s3,s4,s5⟩:=Bk ks
   by_cases h5:i<nl
   ·obtain⟨ag,af,ah,ad,X⟩:=HN.out;have bG:(i:Int)<(nl:Int):=by omega
    obtain⟨g,eb,g1,g2,hc,hf,aa⟩:=Y.Qg (i:=i) (by rw[abM hi];exact h5);subst eb;have az:=Rr ks hc;have a8:XN ((i:Int)+1)=(i:Int)+1:=Hz (by omega);have aL:=aa (-1);rw[abL h5] at aL;have a6:(wr.setCell ⟨g,i,none⟩ (.int .i64 (-1))).heap[sb]?=_:=(Xt wr ⟨g,i,none⟩ sb _ (λe=>az e.symm)).trans ks;obtain⟨lv,aw⟩:∃v,(Hi nl i).getD i 0=v:=⟨_,rfl⟩;rw[aw] at hc;have HJ:=Aa (⟨a6,aL,(show Xm W.heap.size W (wr.setCell ⟨g,i,none⟩ (.int .i64 (-1))) from J.setCell g1 _),h5⟩:_/\_/\_/\_);clear ag af ah ad X hi h5 ks Y J aa aL a6 aw g1 g2 az
    go_wp2_with fail
    go_roundw
    case rel=>
     (try rw[a8])
     exact⟨i+1,HJ.out.2.2.2,rfl,HJ.out.1,HJ.out.2.1,HJ.out.2.2.1⟩
    case measure=>
     (try rw[a8])
     exact Xl HJ.out.2.2.2 (Xo i)
   ·have bq:nl=i:=by omega
    subst bq;rw[abN] at Y;obtain⟨ag,af,ah,ad,X⟩:=HN.out;have hz:=HP.out.2.1;have aC:∀T:Xh,T.heap[sb]?=some (.cells #[.slice s nv D,.slice q nf E,.slice l nl G,.slice r nt F,.slice h nt H,.slice o nr I] 92)->Bu T W.heap.size s q l r h o (Xr nv 0) (Xr nf 0) (Xr nl (-1)) (Xr nt 0) ((Xr nt 0).set 0 1) (Xr nr 0) Q M N P O R->Xm W.heap.size W T->∃U,((((((T.setCell ⟨w.heap.size+1,0,none⟩ (.slice s nv D)).setCell ⟨w.heap.size+1,1,none⟩ (.slice q nf E)).setCell ⟨w.heap.size+1,2,none⟩ (.slice l nl G)).setCell ⟨w.heap.size+1,3,none⟩ (.slice r nt F)).setCell ⟨w.heap.size+1,4,none⟩ (.slice h nt H)).setCell ⟨w.heap.size+1,5,none⟩ (.slice o nr I))=U/\U.heap[w.heap.size+1]?=some (.cells #[.slice s nv D,.slice q nf E,.slice l nl G,.slice r nt F,.slice h nt H,.slice o nr I] 92)/\((∃lo,w.heap.size<=lo/\∃Q M N P O R,Be U lo s q l r h o (AJ nv nf nl nt) Q M N P O R)/\Ci U s q l r h o nv nf nl nt nr (AJ nv nf nl nt))/\Xm w.heap.size w U/\T.heap[w.heap.size+1]?=some (.cells #[.slice none 0 0,.slice none 0 0,.slice none 0 0,.slice none 0 0,.slice none 0 0,.slice none 0 0] 92):=by
     intro T kz aj V;have t:T.heap[w.heap.size+1]?=some (.cells #[.slice none 0 0,.slice none 0 0,.slice none 0 0,.slice none 0 0,.slice none 0 0,.slice none 0 0] 92):=(V.block _ (by omega)).trans HP.out.2.2;have ac:Ac (λk=>k=w.heap.size+1) T ((((((T.setCell ⟨w.heap.size+1,0,none⟩ (.slice s nv D)).setCell ⟨w.heap.size+1,1,none⟩ (.slice q nf E)).setCell ⟨w.heap.size+1,2,none⟩ (.slice l nl G)).setCell ⟨w.heap.size+1,3,none⟩ (.slice r nt F)).setCell ⟨w.heap.size+1,4,none⟩ (.slice h nt H)).setCell ⟨w.heap.size+1,5,none⟩ (.slice o nr I)):=Sd _ _ _ _ _ _ (Ac.refl T) (.inl rfl);have bI:=aj.le;have bc:=aj.keep (λb q1 q2=>ac.block b (by omega) (by omega)) ac.size;refine⟨_,rfl,JL _ _ _ _ _ _ t,?_,?_,t⟩
     ·refine(fun(aT:Be _ W.heap.size s q l r h o (AJ nv nf nl nt) Q M N P O R)=>⟨⟨W.heap.size,(by omega),Q,M,N,P,O,R,aT⟩,Be.doc (m:=AJ nv nf nl nt) aT (by show (Xr nv (0:Int)).length=nv;rw[Yx]) (by show (Xr nf (0:Int)).length=nf;rw[Yx]) (by show (Xr nl (-1:Int)).length=nl;rw[Yx]) (by unfold AJ;simp) X (aa9 _ _ _ _)⟩) ?_;unfold Be;rw[aba,aa6,aa7,X];exact bc
     ·have am:=HP.out.1
      exact⟨ac.os.trans (V.os.trans am.os),ac.tape.trans (V.tape.trans am.tape),ac.output.trans (V.output.trans am.output),Xu am.size (Xu V.size ac.size),λk hk=>(ac.block k (by have:=V.size;omega) (by omega)).trans ((V.block k (by omega)).trans (am.block k hk))⟩
    rcases Nat.eq_zero_or_pos nt with h0|h0
    ·have g0:decide (0<nt)=false:=by simp[h0]
     have aa:Bu wr W.heap.size s q l r h o (Xr nv 0) (Xr nf 0) (Xr nl (-1)) (Xr nt 0) ((Xr nt 0).set 0 1) (Xr nr 0) Q M N P O R:=by
      have e:(Xr nt (0:Int)).set 0 1=Xr nt 0:=by rw[h0];rfl
      rw[e];exact Y
     obtain⟨U,hU,kU,aA,an,t⟩:=aC wr ks aa J;obtain⟨r0,r1,r2,r3,r4,r5⟩:=Bk t;obtain⟨f0,f1,f2,f3,f4,f5⟩:=(⟨Ao t 0,Ao t 1,Ao t 2,Ao t 3,Ao t 4,Ao t 5⟩:_/\_/\_/\_/\_/\_);have z:=Aa (⟨kU,aA,an⟩:_/\_/\_);clear aC Y aa ks J hi h5 ag af ah ad X hz h0 kU aA an t HN HP
     go_wp2_with fail
     exact XI (My rfl rfl z.out.1) rfl ⟨_,_,_,_,_,_,⟨_,_,_,_,_,_,rfl⟩,z.out.2.1.1,z.out.2.1.2,z.out.2.2⟩
    ·have g0:decide (0<nt)=true:=by simp[h0]
     have bL:(0:Int)<(nt:Int):=by omega
     obtain⟨g,eb,g1,g2,hc,hf,aa⟩:=Y.Qf (i:=0) (by rw[Yx];exact h0);subst eb;have az:=Rr ks hc;obtain⟨Wz,ay⟩:∃Wz,wr.setCell ⟨g,0,none⟩ (.int .i64 1)=Wz:=⟨_,rfl⟩;have aj:=aa 1;rw[ay] at aj;have kz:=(show Wz.heap[sb]?=wr.heap[sb]? by rw[<-ay];exact Xt wr ⟨g,0,none⟩ sb _ (λe=>az e.symm)).trans ks;have V:Xm W.heap.size W Wz:=by rw[<-ay];exact J.setCell g1 _
     obtain⟨U,hU,kU,aA,an,t⟩:=aC Wz kz aj V;obtain⟨r0,r1,r2,r3,r4,r5⟩:=Bk t;obtain⟨f0,f1,f2,f3,f4,f5⟩:=(⟨Ao t 0,Ao t 1,Ao t 2,Ao t 3,Ao t 4,Ao t 5⟩:_/\_/\_/\_/\_/\_);obtain⟨t0,t1,t2,t3,t4,t5⟩:=Bk kz;obtain⟨lv,aw⟩:∃v,(Xr nt (0:Int)).getD 0 0=v:=⟨_,rfl⟩;rw[aw] at hc;have z:=Aa (⟨kU,aA,an⟩:_/\_/\_);clear aC Y aa aj ks J V hi h5 ag af ah ad X hz h0 kU aA an t kz az g1 g2 aw HN HP
     go_upto_region 9 with fail
     try rw[ay]
     clear ay hc hf s0 s1 s2 s3 s4 s5
     go_wp2_with fail
     exact XI (My rfl rfl z.out.1) rfl ⟨_,_,_,_,_,_,⟨_,_,_,_,_,_,rfl⟩,z.out.2.1.1,z.out.2.1.2,z.out.2.2⟩
end
theorem Dz {x:Tx} {n:Nat} (h:x.length+n<=4611686018427387904):¬9223372036854775807<(bs x).size+n:=by rw[Bg];omega
theorem EY {x y:Tx} (h:x.length+y.length<=4611686018427387904):¬9223372036854775807<(bs x).size+(bs y).size:=by rw[Bg,Bg];omega
section
variable {w w':Xh} {a:Option YV} {l:List Int} {ns:List Tx}
theorem OL {B base:Nat} (ht:Cn w B) (Q:B<=w.heap.size) {nv:Xk} {n cap:Nat} (N:w.ownsRow base 9 1 nv ns.length (ns.map BS)) (g:ns.length=n) (f:∀k,(ns.getD k []).length<=8) (r:Is w a l) (C:l.length=n) (V:n<=4) (hv:∀v,v∈l->CD v) :
 Calls Tryz.prog 129 #[nv,.slice a n cap] w λe w'=>e = .returned (.string (bs (Bf Yh ns l n)))/\Xm w.heap.size w w':=by
 rw[g] at N;obtain⟨na,nc,rfl,s⟩:=IF N g;have d:∀k,CD (l.getD k 0):=λk=>by
  by_cases e:k<l.length
  ·exact hv _ (CN e)
  ·rw[List.getD_eq_getElem?_getD,XU (by omega)];exact⟨by decide,by decide⟩
 have HI:=Aa (λu (D:Xm w.heap.size w u) (x:Int) (h:CD x)=>IM x (by have:=h.1;omega) (by have:=h.2;omega) u (ht.keep (D.mono Q)));have H:=Aa (⟨s,r,d,f,C,g⟩:_/\_/\_/\_/\_/\_);clear N s r hv d f C g ht Q
 go_enter Tryz.func129,Tryz.ntmps129
 go_wp2_with fail
 go_loopw [5,6] (λtv M wr=>∃i:Nat,i<=n/\M = .int .i64 i/\tv = .string (bs (Bf Yh ns l i))/\Xm w.heap.size w wr) (λ_ M _=>n - (intOf M).toNat)
 case atStart=>exact⟨0,Xx _,rfl,rfl,Below.refl _ _⟩
 case round=>
  obtain⟨i,X,rfl,rfl,o⟩:=hrel
  by_cases F:i<n
  ·obtain⟨s,r,d,f,C,g⟩:=H.out;have az:(i:Int)<(n:Int):=by omega
   obtain⟨G,go,e1,Y,c1⟩:=s i (by omega);subst e1;obtain⟨lb,P,e2,U,c2⟩:=r i (by omega);subst e2;have A:Xm w.heap.size w wr.drew:=o.trans ⟨rfl,rfl,rfl,Xd _,λ_ _=>rfl⟩;have y:Hid (∀u,Xm w.heap.size w u->u.cell? ⟨G,go+i,none⟩=some (.string (bs (ns.getD i [])))/\u.cell? ⟨lb,P+i,none⟩=some (.int .i64 (l.getD i 0))):=λu D=>⟨(D.cell (p:=⟨G,go+i,none⟩) Y).trans c1,(D.cell (p:=⟨lb,P+i,none⟩) U).trans c2⟩
   have z:=HI.out wr.drew A _ (d i);have hL:=FA Yh ns l i f (λk=>Dw (d k).1 (d k).2);have ai:=Dw (d i).1 (d i).2;have ab:=f i;have t:=Ke Yh ns l i;obtain⟨T,I⟩:∃T,Bf Yh ns l i=T:=⟨_,rfl⟩;obtain⟨nm,J⟩:∃x,ns.getD i []=x:=⟨_,rfl⟩;obtain⟨c,E⟩:∃x,Yh (l.getD i 0)=x:=⟨_,rfl⟩;obtain⟨lv,O⟩:∃x,l.getD i 0=x:=⟨_,rfl⟩;rw[I] at hL t;rw[J] at ab t;rw[E] at ai t;rw[E] at z;rw[O] at z;simp only[J,O] at y;have z1:¬9223372036854775807<(bs T).size+(bs nm).size:=EY (by omega);have a1:bs T++bs nm=bs (T++nm):=BE _ _;have Z:(T++nm).length=T.length+nm.length:=Xb;have z2:¬9223372036854775807<(bs (T++nm)).size+1:=Dz (by omega);have a2:bs (T++nm)++⟨#[61]⟩=bs (T++nm++[61]):=BE _ [61];have e4:(T++nm++[61]).length=T.length+nm.length+1:=by rw[Xb,Z];rfl
   have z3:¬9223372036854775807<(bs (T++nm++[61])).size+(bs c).size:=EY (by omega);have a3:bs (T++nm++[61])++bs c=bs (T++nm++[61]++c):=BE _ _;have e5:(T++nm++[61]++c).length=T.length+nm.length+1+c.length:=by rw[Xb,e4]
   have z4:¬9223372036854775807<(bs (T++nm++[61]++c)).size+1:=Dz (by omega);have a4:bs (T++nm++[61]++c)++⟨#[10]⟩=bs (T++nm++[61]++c++[10]):=BE _ [10];have hV:T++nm++[61]++c++[10]=Bf Yh ns l (i+1):=by rw[t];unfold GD;simp
   generalize T++nm++[61]++c++[10]=V4 at *;generalize T++nm++[61]++c=V3 at *;generalize T++nm++[61]=V2 at *;generalize T++nm=V1 at *;have W:XN ((i:Int)+1)=(i:Int)+1:=Hz (by omega);obtain⟨s1,s2⟩:=y.out wr o;have hS:=Aa (y.out wr.drew A);have m:=Aa (⟨hV,F,A⟩:_/\_/\_);rw[I];clear o X F s r d f C g Y c1 U c2 hL ai ab t I J E O Z e4 e5 hV V A
   go_upto_region 5 with fail
   refine Xy (S:=(λu=>u.cell? ⟨G,go+i,none⟩=some (.string (bs nm))/\u.cell? ⟨lb,P+i,none⟩=some (.int .i64 lv))) (by kernel_rfl) hS.out (λb=>?_);refine tk 0 b ?_;refine tk 1 b ?_;refine tk 2 b ?_;refine tk 3 b ?_;refine tk 4 b ?_;refine tk 5 b ?_;refine tk 6 b ?_;refine tk 7 b ?_;refine tk 8 b ?_;refine tk 9 b ?_;refine tk 10 b ?_;refine rd 11 (λK hK=>?_)
   go_simp
   go_at_call 72
   refine z.mono ?_;rintro e R ⟨rfl,j⟩;replace j:Xm w.heap.size w R:=m.out.2.2.trans (j.mono m.out.2.2.size);have q:=Aa (y.out R j);have ao:=Aa j;clear j b s1 s2 z
   go_wp2_with fail
   refine hK.out _ _ q.out (λb=>?_);clear hK K
   try simp only[XG,sq]
   refine tk 12 b ?_;refine tk 13 b ?_;refine tk 14 b ?_;refine Yd (by kernel_rfl) ?_ _;clear b q
   go_wp2_with fail
   go_roundw
   case rel=>
    (try rw[W])
    exact⟨i+1,m.out.2.1,rfl,by rw[m.out.1],ao.out⟩
   case measure=>
    (try rw[W])
    exact Xl m.out.2.1 (Xo i)
  ·have aw:i=n:=by omega
   subst aw;have HB:=Aa o;clear o X F H HI V
   go_wp2_with fail
   go_ret
   exact⟨rfl,HB.out⟩
end
end Go.Proofs.YtdcacoifehkioaaGreatDoor
