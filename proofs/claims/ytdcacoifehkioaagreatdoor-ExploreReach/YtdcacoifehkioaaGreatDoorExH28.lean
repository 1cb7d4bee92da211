import Derived.Test.YtdcacoifehkioaaGreatDoorExH3
import Derived.Test.YtdcacoifehkioaaGreatDoorExH26
import Derived.Test.YtdcacoifehkioaaGreatDoorExH24
import Derived.Test.YtdcacoifehkioaaGreatDoorExH15
open List renaming replicate->Xr,length_append->Xb,length_replicate->Yy,ext_getElem?->Y3,getElem?_map->Xs,getElem?_replicate->ZJ,getElem?_range->Zr,getElem?_eq_none->XU,length_range->ZZ
open Nat renaming le_refl->Xd,sub_self->YK,le_trans->Xu,zero_le->Xw,sub_lt_sub_left->Xl,lt_succ_self->Xn
open Go renaming World->Xh,Addr->YZ,Value->Xk,wp_region_held_drew->Xx,wpAnyH_ready->Zd,wpAnyH_done->Yd,heap_setCell_other->Xt,bodyPost_ret->XJ
open Array renaming getElem?_eq_some_iff->Xa
open Go.RowKit renaming Below->Xm,wrap64->XO
open Go.AllReadyH renaming cons->Yb,nil->Y4
open Go.Act renaming put->XF
open Go.Lib renaming itoa->Yj
set_option maxRecDepth 100000
set_option maxHeartbeats 16000000
set_option linter.unusedVariables false
set_option linter.unusedSimpArgs false
namespace Go.Proofs.YtdcacoifehkioaaGreatDoor
open Go.RowKit Go.Shelf Go.Proofs.Cod
def Hl (nl i:Nat):List Int:=Xr i (-1)++Xr (nl - i) 0
theorem abV {nl i:Nat} (h:i<=nl):(Hl nl i).length=nl:=by unfold Hl;rw[Xb,Yy,Yy];omega
theorem abU {nl i:Nat} (h:i<nl):(Hl nl i).set i (-1)=Hl nl (i+1):=by
 unfold Hl;have e:nl - i=(nl - (i+1))+1:=by omega
 rw[List.set_append_right _ _ (by rw[Yy];exact Xd _),Yy,YK,e,List.replicate_succ,List.set_cons_zero,List.replicate_succ',List.append_assoc];rfl
theorem abW (nl:Nat):Hl nl nl=Xr nl (-1):=by unfold Hl;rw[YK];exact List.append_nil _
theorem RB {W:Xh} {sb g i T n0 n1 n2 n3 n4 n5 j m d c f b:Nat} {k o l h p a5:Option YZ} {n:Int} (ks:W.heap[sb]?=some (.cells #[.slice k n0 j,.slice o n1 m,.slice l n2 d,.slice h n3 c,.slice p n4 f,.slice a5 n5 b] T)) (a:W.cell? ⟨g,i,none⟩=some (.int .i64 n)):g≠sb:=by
 intro e;subst e;obtain⟨c0,c1,c2,c3,c4,c5⟩:=Br ks;have r:i<6:=by
  have q:(#[Value.slice k n0 j,.slice o n1 m,.slice l n2 d,.slice h n3 c,.slice p n4 f,.slice a5 n5 b]:Array Xk)[i]?=some (.int .i64 n):=by simpa [World.cell?,ks] using a
  exact(Xa.1 q).1
 match i,r with
 |0,_=>rw[c0] at a;cases a
 |1,_=>rw[c1] at a;cases a
 |2,_=>rw[c2] at a;cases a
 |3,_=>rw[c3] at a;cases a
 |4,_=>rw[c4] at a;cases a
 |5,_=>rw[c5] at a;cases a
section
variable (nv nf nl nt:Nat)
theorem abk:Ei (AH nv nf nl nt)=Xr nt 0:=by
 unfold Ei AH;dsimp only
 apply Y3
 intro i;rw[Xs,Xs,ZJ]
 by_cases h:i<nt
 ·rw[Zr h,if_pos h]
  by_cases e:i=0
  ·simp[e,AC]
  ·simp[e,AC]
 ·rw[XU (by rw[ZZ];omega),if_neg h];rfl
theorem abf:CS (AH nv nf nl nt)=(Xr nt 0).set 0 1:=by
 unfold CS AH;dsimp only
 apply Y3
 intro i;rw[Xs,Xs,List.getElem?_set,Yy,ZJ]
 by_cases h:i<nt
 ·rw[Zr h]
  by_cases e:i=0
  ·subst e;simp[h]
  ·rw[if_neg (λq=>e q.symm),if_pos h];simp[e,AC]
 ·rw[XU (by rw[ZZ];omega)]
  by_cases e:i=0
  ·subst e;simp[h]
  ·rw[if_neg (λq=>e q.symm),if_neg h];rfl
theorem abg:EO (AH nv nf nl nt)=Xr (nt*4) 0:=by
 unfold EO AH;dsimp only;have:∀l:List Nat,((l.map λt=>if t=0 then({AC with ph:=1}:TS) else AC).flatMap λth=>th.regs)=Xr (l.length*4) 0:=by
  intro l
  induction l with
  |nil=>rfl
  |cons a r b=>
   rw[List.map_cons,List.flatMap_cons,b,List.length_cons,show (r.length+1)*4=4+r.length*4 by omega,<-List.replicate_append_replicate]
   congr 1
   by_cases e:a=0
   ·rw[if_pos e];rfl
   ·rw[if_neg e];rfl
 rw[this,ZZ]
theorem abi:R4 (AH nv nf nl nt):=λth a=>by
 unfold AH at a;obtain⟨t,-,rfl⟩:=List.mem_map.1 a
 by_cases e:t=0
 ·rw[if_pos e];rfl
 ·rw[if_neg e];rfl
end
section
variable {w w':Xh} {nv nf nl nt nr:Nat} {x1 x2 x3 x4:Option YZ} {z1 z2 z3 z4:Nat}
abbrev Z6:Array Xk := #[.slice none 0 0,.slice none 0 0,.slice none 0 0,.slice none 0 0,.slice none 0 0,.slice none 0 0]
def RL (v:Xh):Nat->List (Option YZ×Nat×Nat)->Prop
 |lo,[]=>lo<=v.heap.size
 |lo,(b,n,q)::l=>Bf v lo q b (Xr n 0)/\lo<=q/\RL v q l
theorem RL.le {v:Xh} {l:List (Option YZ×Nat×Nat)}:∀{a:Nat},RL v a l->a<=v.heap.size:=by
 induction l with
 |nil=>exact id
 |cons x l b=>intro a h;have:=b h.2.2;have:=h.2.1;omega
theorem RL.go {v c:Xh} {l:List (Option YZ×Nat×Nat)} (b:Xm v.heap.size v c):∀{a:Nat},RL v a l->RL c a l:=by
 induction l with
 |nil=>intro a h;exact Xu h b.size
 |cons x l d=>intro a h;exact⟨h.1.below h.2.2.le b,h.2.1,d h.2.2⟩
theorem RL.new {v a:Xh} {b:Option YZ} {n:Nat} (f:Bf a v.heap.size a.heap.size b (Xr n 0)) (d:Xm v.heap.size v a) {l:List (Option YZ×Nat×Nat)}:∀{c:Nat},RL v c l->RL a c (l++[(b,n,a.heap.size)]):=by
 induction l with
 |nil=>intro c h;exact⟨f.mono h (Xd _),Xu h d.size,Xd _⟩
 |cons x l e=>intro c h;exact⟨h.1.below h.2.2.le d,h.2.1,e h.2.2⟩
structure ZB (W v:Xh) (x:Option Nat) (l:List (Option YZ×Nat×Nat)):Prop where
 b:Xm W.heap.size W v
 r:RL v W.heap.size l
 k:∀a,x=some a->W.heap.size<=a/\v.heap[a]?=some (.cells Z6 92)
theorem ZB.go {W v c:Xh} {x:Option Nat} {l:List (Option YZ×Nat×Nat)} {b:Option YZ} {n:Nat} (h:ZB W v x l) (f:Bf c v.heap.size c.heap.size b (Xr n 0)) (d:Xm v.heap.size v c):ZB W c x (l++[(b,n,c.heap.size)]):=
 ⟨h.b.trans (d.mono h.b.size),h.r.new f d,λa e=>⟨(h.k a e).1,(d.block a (Xa.1 (h.k a e).2).1).trans (h.k a e).2⟩⟩
theorem ZB.al {W v A:Xh} {l:List (Option YZ×Nat×Nat)} (h:ZB W v none l) (d:v.alloc (.cells Z6 92)=A):ZB W A (some v.heap.size) l:=by
 subst d;have c:Xm v.heap.size v (v.alloc (.cells Z6 92)):=(Below.refl _ _).alloc (Xd _) _
 exact⟨h.b.trans (c.mono h.b.size),h.r.go c,λa e=>by cases e;exact⟨h.b.size,World.alloc_heap_new v _⟩⟩
theorem ZB.fin {W v:Xh} {a n0 n1 n2 n3 n4 n5 J C D I H B:Nat} {i g n m o j:Option YZ} (A t s y u w:Nat) (h:ZB W v (some a) [(i,n0,J),(g,n1,C),(n,n2,D),(m,n3,I),(o,n4,H),(j,n5,B)]) :
 ∃Z,v.setCells a 0 (#[Value.slice i n0 A,.slice g n1 t,.slice n n2 s,.slice m n3 y,.slice o n4 u,.slice j n5 w]:Array Xk).toList=Z/\Z.heap[a]?=some (.cells #[.slice i n0 A,.slice g n1 t,.slice n n2 s,.slice m n3 y,.slice o n4 u,.slice j n5 w] 92)/\By Z W.heap.size i g n m o j (Xr n0 0) (Xr n1 0) (Xr n2 0) (Xr n3 0) (Xr n4 0) (Xr n5 0) J C D I H B/\W.heap.size<=a/\Xm W.heap.size W Z:=by
 obtain⟨c,⟨M,l0,V,O,s2,Q,s3,U,Y,P,T,R,l6⟩,p⟩:=h;obtain⟨ha,p⟩:=p a rfl;obtain⟨Z,x⟩:∃Z,v.setCells a 0 (#[Value.slice i n0 A,.slice g n1 t,.slice n n2 s,.slice m n3 y,.slice o n4 u,.slice j n5 w]:Array Xk).toList=Z:=⟨_,rfl⟩;have d:Ac (λk=>k=a) v Z:=by rw[<-x];exact Fa (S:=λk=>k=a) _ 0 (Ac.refl v) (.inl rfl)
 have E:=d.size;have K:∀{G q:Nat} {b:Option YZ} {l:List Int},Bf v G q b l->Bf Z G q b l:=λh=>by
  rcases h with h|⟨b,N,f,e,X,h2,⟨cs,r,q2⟩,h3⟩
  ·exact .inl h
  ·refine .inr ⟨b,N,f,e,X,h2,⟨cs,(d.block b (Xa.1 r).1 (λz=>?_)).trans r,q2⟩,h3⟩;have z:b=a:=z;rw[z,p] at r
   cases r
 exact⟨Z,x,by rw[<-x];exact JP _ _ _ _ _ _ p,⟨K M,K V,K s2,K s3,K Y,K T,l0,O,Q,U,P,R,Xu l6 E⟩,ha,⟨d.os.trans c.os,d.tape.trans c.tape,d.output.trans c.output,Xu c.size E,λk F=>(d.block k (Nat.lt_of_lt_of_le F c.size) (λe=>by have e:k=a:=e;omega)).trans (c.block k F)⟩⟩
theorem aag (w:Xh) (ah:nv<=4) (ab:nf<=4) (ac:nl<=4) (af:nt<=4) (T:nt*4=nr) :
 Calls Tryz.prog 66 #[.agg #[.slice x1 nv z1,.slice x2 nf z2,.slice x3 nl z3,.slice x4 nt z4]] w λe w'=>∃q h s l o r,(∃H F D G E I,e = .returned (.agg #[.slice q nv H,.slice h nf F,.slice s nl D,.slice l nt G,.slice o nt E,.slice r nr I]))/\(∃lo,w.heap.size<=lo/\∃N M O P R Q,Bh w' lo q h s l o r (AH nv nf nl nt) N M O P R Q)/\Cl w' q h s l o r nv nf nl nt nr (AH nv nf nl nt)/\Xm w.heap.size w w':=by
 obtain⟨W,hW⟩:∃W,(w.alloc (.cells #[.slice x1 nv z1,.slice x2 nf z2,.slice x3 nl z3,.slice x4 nt z4] 28)).alloc (.cells #[.slice none 0 0,.slice none 0 0,.slice none 0 0,.slice none 0 0,.slice none 0 0,.slice none 0 0] 92)=W:=⟨_,rfl⟩;obtain⟨J,k1,k2,hz⟩:=FK _ _ _ hW;have x:Hid (∀u,Xm W.heap.size W u->u.cell? ⟨w.heap.size,0,none⟩=some (.slice x1 nv z1)/\u.cell? ⟨w.heap.size,1,none⟩=some (.slice x2 nf z2)/\u.cell? ⟨w.heap.size,2,none⟩=some (.slice x3 nl z3)/\u.cell? ⟨w.heap.size,3,none⟩=some (.slice x4 nt z4)):=λu hu=>BK ((hu.block _ (by omega)).trans k1);have aW:=Aa (fun(u:Xh)=>Ja (n:=nv) u (by omega));have aZ:=Aa (fun(u:Xh)=>Ja (n:=nf) u (by omega));have a5:=Aa (fun(u:Xh)=>Ja (n:=nl) u (by omega));have aT:=Aa (fun(u:Xh)=>Ja (n:=nt) u (by omega));have a1:=Aa (fun(u:Xh)=>Ja (n:=nt) u (by omega));have aP:=Aa (fun(u:Xh)=>Ja (n:=nr) u (by omega));have HP:=Aa (⟨J,hz,k2⟩:_/\_/\_);have hd:Xm W.heap.size W W.drew:=⟨rfl,rfl,rfl,Xd _,λ_ _=>rfl⟩;have a8:XO ((nt:Int)*4)=(nr:Int):=by rw[<-T];have:=Ct (n:=nt*4) (by omega);push_cast at this |-;exact this
 have bc:IntKind.i64.wrap ((nt:Int)*4)=(nr:Int):=(IntWalk.i64_left _).trans a8;have HN:=Aa (⟨ah,ab,ac,af,T⟩:_/\_/\_/\_/\_);obtain⟨q0,q1,q2,q3⟩:=x.out W (Below.refl _ _);clear J k1 k2 hz ah ab ac af T
 go_enter Tryz.func66,Tryz.ntmps66
 go_upto_region 1 with fail
 try rw[hW]
 clear hW
 go_wp2_with fail
 clear q0 q1 q2 q3
 go_cut [4] (λp wx=>∃sb q h s l o r H F D G E I N M O P R Q,p = .pointer (some ⟨sb,0,none⟩)/\wx.heap[sb]?=some (.cells #[.slice q nv H,.slice h nf F,.slice s nl D,.slice l nt G,.slice o nt E,.slice r nr I] 92)/\By wx W.heap.size q h s l o r (Xr nv 0) (Xr nf 0) (Xr nl 0) (Xr nt 0) (Xr nt 0) (Xr nr 0) N M O P R Q/\W.heap.size<=sb/\Xm W.heap.size W wx)
 case first=>
  refine Xx (S:=(λu=>u.cell? ⟨w.heap.size,0,none⟩=some (.slice x1 nv z1)/\u.cell? ⟨w.heap.size,1,none⟩=some (.slice x2 nf z2)/\u.cell? ⟨w.heap.size,2,none⟩=some (.slice x3 nl z3)/\u.cell? ⟨w.heap.size,3,none⟩=some (.slice x4 nt z4))) (by kernel_rfl) (x.out _ hd) (λd=>?_);obtain⟨v,hv⟩:∃v,W.drew=v:=⟨_,rfl⟩;have c:Hid (ZB W v none []):=by rw[<-hv];exact⟨hd,Xd _,λ_ e=>by cases e⟩
  rw[hv] at d |-;clear hv;refine tk 0 d ?_;refine tk 1 d ?_;refine tk 2 d ?_;refine tk 4 d ?_;refine tk 5 d ?_;refine tk 6 d ?_;refine tk 8 d ?_;refine tk 9 d ?_;refine tk 10 d ?_;refine tk 12 d ?_;refine tk 14 d ?_;refine tk 16 d ?_;refine tk 17 d ?_;clear hd
  focus
   refine Zd (rs:=[3,20]) (by kernel_rfl) (by simp) ?_;refine Yb rfl (λK a=>?_) (Yb rfl (λK a=>?_) Y4)
   rotate_left
   go_simp
   obtain⟨A,f⟩:∃A,v.alloc (.cells Z6 92)=A:=⟨_,rfl⟩
   try rw[f]
   replace c:=Aa (c.out.al f);clear f;refine a.out _ _ (x.out A c.out.b) (λd=>?_);clear a K
   try simp only[XF,sq]
   refine rd 3 (λK a=>?_)
   rotate_left
  all_goals
   go_simp
   go_at_call 128
   refine(aW.out _).mono ?_;rintro e v0 ⟨q,H,rfl,C,z⟩;replace c:=Aa (c.out.go C z);have y:=Aa (x.out v0 c.out.b);clear C z
   go_wp2_with fail
   refine a.out _ _ y.out (λd=>?_);clear a K y
   try simp only[XF,sq]
  focus
   refine Zd (rs:=[7,20]) (by kernel_rfl) (by simp) ?_;refine Yb rfl (λK a=>?_) (Yb rfl (λK a=>?_) Y4)
   rotate_left
   go_simp
   obtain⟨A,f⟩:∃A,v0.alloc (.cells Z6 92)=A:=⟨_,rfl⟩
   try rw[f]
   replace c:=Aa (c.out.al f);clear f;refine a.out _ _ (x.out A c.out.b) (λd=>?_);clear a K
   try simp only[XF,sq]
   refine rd 7 (λK a=>?_)
   rotate_left
  all_goals try refine rd 7 (λK a=>?_)
  all_goals
   go_simp
   go_at_call 128
   refine(aZ.out _).mono ?_;rintro e v1 ⟨h,F,rfl,C,z⟩;replace c:=Aa (c.out.go C z);have y:=Aa (x.out v1 c.out.b);clear C z
   go_wp2_with fail
   refine a.out _ _ y.out (λd=>?_);clear a K y
   try simp only[XF,sq]
  focus
   refine Zd (rs:=[11,20]) (by kernel_rfl) (by simp) ?_;refine Yb rfl (λK a=>?_) (Yb rfl (λK a=>?_) Y4)
   rotate_left
   go_simp
   obtain⟨A,f⟩:∃A,v1.alloc (.cells Z6 92)=A:=⟨_,rfl⟩
   try rw[f]
   replace c:=Aa (c.out.al f);clear f;refine a.out _ _ (x.out A c.out.b) (λd=>?_);clear a K
   try simp only[XF,sq]
   refine rd 11 (λK a=>?_)
   rotate_left
  all_goals try refine rd 11 (λK a=>?_)
  all_goals
   go_simp
   go_at_call 128
   refine(a5.out _).mono ?_;rintro e v2 ⟨s,D,rfl,C,z⟩;replace c:=Aa (c.out.go C z);have y:=Aa (x.out v2 c.out.b);clear C z
   go_wp2_with fail
   refine a.out _ _ y.out (λd=>?_);clear a K y
   try simp only[XF,sq]
  focus
   refine Zd (rs:=[13,20]) (by kernel_rfl) (by simp) ?_;refine Yb rfl (λK a=>?_) (Yb rfl (λK a=>?_) Y4)
   rotate_left
   go_simp
   obtain⟨A,f⟩:∃A,v2.alloc (.cells Z6 92)=A:=⟨_,rfl⟩
   try rw[f]
   replace c:=Aa (c.out.al f);clear f;refine a.out _ _ (x.out A c.out.b) (λd=>?_);clear a K
   try simp only[XF,sq]
   refine rd 13 (λK a=>?_)
   rotate_left
  all_goals try refine rd 13 (λK a=>?_)
  all_goals
   go_simp
   go_at_call 128
   refine(aT.out _).mono ?_;rintro e v3 ⟨l,G,rfl,C,z⟩;replace c:=Aa (c.out.go C z);have y:=Aa (x.out v3 c.out.b);clear C z
   go_wp2_with fail
   refine a.out _ _ y.out (λd=>?_);clear a K y
   try simp only[XF,sq]
  focus
   refine Zd (rs:=[15,20]) (by kernel_rfl) (by simp) ?_;refine Yb rfl (λK a=>?_) (Yb rfl (λK a=>?_) Y4)
   rotate_left
   go_simp
   obtain⟨A,f⟩:∃A,v3.alloc (.cells Z6 92)=A:=⟨_,rfl⟩
   try rw[f]
   replace c:=Aa (c.out.al f);clear f;refine a.out _ _ (x.out A c.out.b) (λd=>?_);clear a K
   try simp only[XF,sq]
   refine rd 15 (λK a=>?_)
   rotate_left
  all_goals try refine rd 15 (λK a=>?_)
  all_goals
   go_simp
   go_at_call 128
   refine(a1.out _).mono ?_;rintro e v4 ⟨o,E,rfl,C,z⟩;replace c:=Aa (c.out.go C z);have y:=Aa (x.out v4 c.out.b);clear C z
   go_wp2_with fail
   refine a.out _ _ y.out (λd=>?_);clear a K y
   try simp only[XF,sq]
  focus
   refine Zd (rs:=[18,20]) (by kernel_rfl) (by simp) ?_;refine Yb rfl (λK a=>?_) (Yb rfl (λK a=>?_) Y4)
   rotate_left
   go_simp
   obtain⟨A,f⟩:∃A,v4.alloc (.cells Z6 92)=A:=⟨_,rfl⟩
   try rw[f]
   replace c:=Aa (c.out.al f);clear f;refine a.out _ _ (x.out A c.out.b) (λd=>?_);clear a K
   try simp only[XF,sq]
   refine rd 18 (λK a=>?_)
   rotate_left
  all_goals try refine rd 18 (λK a=>?_)
  all_goals
   go_simp
   go_at_call 128
   refine(aP.out _).mono ?_;rintro e v5 ⟨r,I,rfl,C,z⟩;replace c:=Aa (c.out.go C z);have y:=Aa (x.out v5 c.out.b);clear C z
   go_wp2_with fail
   refine a.out _ _ y.out (λd=>?_);clear a K y
   try simp only[XF,sq]
  focus
   refine Zd (rs:=[19,20]) (by kernel_rfl) (by simp) ?_;refine Yb rfl (λK a=>?_) (Yb rfl (λK a=>?_) Y4)
   rotate_left
   go_simp
   obtain⟨A,f⟩:∃A,v5.alloc (.cells Z6 92)=A:=⟨_,rfl⟩
   try rw[f]
   replace c:=Aa (c.out.al f);clear f;refine a.out _ _ (x.out A c.out.b) (λd=>?_);clear a K
   try simp only[XF,sq]
   refine rd 19 (λK a=>?_)
   rotate_left
  all_goals try refine rd 19 (λK a=>?_)
  all_goals
   refine JG _ _ rfl [(0,.slice q nv H),(1,.slice h nf F),(2,.slice s nl D),(3,.slice l nt G),(4,.slice o nt E),(5,.slice r nr I)] rfl #[.slice q nv H,.slice h nf F,.slice s nl D,.slice l nt G,.slice o nt E,.slice r nr I] (by rfl) ?_;refine a.out _ _ (x.out _ c.out.b) (λd=>?_);clear a K
   try simp only[XF,sq]
  focus
   refine rd 20 (λK a=>?_)
   go_simp
   obtain⟨A,f⟩:∃A,v5.alloc (.cells Z6 92)=A:=⟨_,rfl⟩
   try rw[f]
   replace c:=Aa (c.out.al f);clear f;refine a.out _ _ (x.out A c.out.b) (λd=>?_);clear a K
   try simp only[XF,sq]
  all_goals
   refine rd 21 (λK a=>?_);obtain⟨Z,hZ,B⟩:=c.out.fin H F D G E I;refine Fq _ _ _ rfl _ 0 #[.slice q nv H,.slice h nf F,.slice s nl D,.slice l nt G,.slice o nt E,.slice r nr I] rfl rfl (Mx (c.out.k _ rfl).2) (λj _=>Ap (c.out.k _ rfl).2 _) Tryz.sizeSt Lk ?_;replace B:=Aa B;rw[hZ];refine a.out _ _ (x.out Z B.out.2.2.2) (λd=>?_);clear a K hZ c
   try simp only[XF,sq]
   refine Yd (by kernel_rfl) ?_ _;clear d
   go_wp2_with fail
   go_meet
   exact⟨_,_,_,_,_,_,_,_,_,_,_,_,_,_,_,_,_,_,_,rfl,B.out.1,B.out.2.1,B.out.2.2.1,B.out.2.2.2⟩
 case rest=>
  obtain⟨sb,q,h,s,l,o,r,H,F,D,G,E,I,N,M,O,P,R,Q,rfl,ks,Y,a2,J⟩:=hcut;have HR:=Aa (⟨ks,Y,J⟩:_/\_/\_);replace a2:=Aa a2;clear ks Y J hd bc a8 aW aZ a5 aT a1 aP x
  go_wp2_with fail
  go_loopw [5] (λiv wr=>∃i:Nat,i<=nl/\iv = .int .i64 i/\wr.heap[sb]?=some (.cells #[.slice q nv H,.slice h nf F,.slice s nl D,.slice l nt G,.slice o nt E,.slice r nr I] 92)/\By wr W.heap.size q h s l o r (Xr nv 0) (Xr nf 0) (Hl nl i) (Xr nt 0) (Xr nt 0) (Xr nr 0) N M O P R Q/\Xm W.heap.size W wr) (λiv _=>nl - (intOf iv).toNat)
  case atStart=>exact⟨0,Xw _,rfl,HR.out.1,HR.out.2.1,HR.out.2.2⟩
  case round=>
   obtain⟨i,hi,rfl,ks,Y,J⟩:=hrel;clear HR;obtain⟨s0,s1,s2,s3,s4,s5⟩:=Br ks
   by_cases h5:i<nl
   ·obtain⟨ah,ab,ac,af,T⟩:=HN.out;have bK:(i:Int)<(nl:Int):=by omega
    obtain⟨g,eb,g1,g2,hc,hf,aa⟩:=Y.Qk (i:=i) (by rw[abV hi];exact h5);subst eb;have au:=RB ks hc;have aX:XO ((i:Int)+1)=(i:Int)+1:=Ia (by omega);have aI:=aa (-1);rw[abU h5] at aI;have aQ:(wr.setCell ⟨g,i,none⟩ (.int .i64 (-1))).heap[sb]?=_:=(Xt wr ⟨g,i,none⟩ sb _ (λe=>au e.symm)).trans ks;obtain⟨lv,ay⟩:∃v,(Hl nl i).getD i 0=v:=⟨_,rfl⟩;rw[ay] at hc;have HJ:=Aa (⟨aQ,aI,(show Xm W.heap.size W (wr.setCell ⟨g,i,none⟩ (.int .i64 (-1))) from J.setCell g1 _),h5⟩:_/\_/\_/\_);clear ah ab ac af T hi h5 ks Y J aa aI aQ ay g1 g2 au
    go_wp2_with fail
    go_roundw
    case rel=>
     (try rw[aX])
     exact⟨i+1,HJ.out.2.2.2,rfl,HJ.out.1,HJ.out.2.1,HJ.out.2.2.1⟩
    case measure=>
     (try rw[aX])
     exact Xl HJ.out.2.2.2 (Xn i)
   ·have ba:nl=i:=by omega
    subst ba;rw[abW] at Y;obtain⟨ah,ab,ac,af,T⟩:=HN.out;have hz:=HP.out.2.1;have aD:∀X:Xh,X.heap[sb]?=some (.cells #[.slice q nv H,.slice h nf F,.slice s nl D,.slice l nt G,.slice o nt E,.slice r nr I] 92)->By X W.heap.size q h s l o r (Xr nv 0) (Xr nf 0) (Xr nl (-1)) (Xr nt 0) ((Xr nt 0).set 0 1) (Xr nr 0) N M O P R Q->Xm W.heap.size W X->∃U,((((((X.setCell ⟨w.heap.size+1,0,none⟩ (.slice q nv H)).setCell ⟨w.heap.size+1,1,none⟩ (.slice h nf F)).setCell ⟨w.heap.size+1,2,none⟩ (.slice s nl D)).setCell ⟨w.heap.size+1,3,none⟩ (.slice l nt G)).setCell ⟨w.heap.size+1,4,none⟩ (.slice o nt E)).setCell ⟨w.heap.size+1,5,none⟩ (.slice r nr I))=U/\U.heap[w.heap.size+1]?=some (.cells #[.slice q nv H,.slice h nf F,.slice s nl D,.slice l nt G,.slice o nt E,.slice r nr I] 92)/\((∃lo,w.heap.size<=lo/\∃N M O P R Q,Bh U lo q h s l o r (AH nv nf nl nt) N M O P R Q)/\Cl U q h s l o r nv nf nl nt nr (AH nv nf nl nt))/\Xm w.heap.size w U/\X.heap[w.heap.size+1]?=some (.cells #[.slice none 0 0,.slice none 0 0,.slice none 0 0,.slice none 0 0,.slice none 0 0,.slice none 0 0] 92):=by
     intro X kz aj V;have t:X.heap[w.heap.size+1]?=some (.cells #[.slice none 0 0,.slice none 0 0,.slice none 0 0,.slice none 0 0,.slice none 0 0,.slice none 0 0] 92):=(V.block _ (by omega)).trans HP.out.2.2;have ag:Ac (λk=>k=w.heap.size+1) X ((((((X.setCell ⟨w.heap.size+1,0,none⟩ (.slice q nv H)).setCell ⟨w.heap.size+1,1,none⟩ (.slice h nf F)).setCell ⟨w.heap.size+1,2,none⟩ (.slice s nl D)).setCell ⟨w.heap.size+1,3,none⟩ (.slice l nt G)).setCell ⟨w.heap.size+1,4,none⟩ (.slice o nt E)).setCell ⟨w.heap.size+1,5,none⟩ (.slice r nr I)):=Sn _ _ _ _ _ _ (Ac.refl X) (.inl rfl);have bE:=aj.le;have bv:=aj.keep (λb q1 q2=>ag.block b (by omega) (by omega)) ag.size;refine⟨_,rfl,JP _ _ _ _ _ _ t,?_,?_,t⟩
     ·refine(fun(a0:Bh _ W.heap.size q h s l o r (AH nv nf nl nt) N M O P R Q)=>⟨⟨W.heap.size,(by omega),N,M,O,P,R,Q,a0⟩,Bh.doc (m:=AH nv nf nl nt) a0 (by show (Xr nv (0:Int)).length=nv;rw[Yy]) (by show (Xr nf (0:Int)).length=nf;rw[Yy]) (by show (Xr nl (-1:Int)).length=nl;rw[Yy]) (by unfold AH;simp) T (abi _ _ _ _)⟩) ?_;unfold Bh;rw[abk,abf,abg,T];exact bv
     ·have az:=HP.out.1
      exact⟨ag.os.trans (V.os.trans az.os),ag.tape.trans (V.tape.trans az.tape),ag.output.trans (V.output.trans az.output),Xu az.size (Xu V.size ag.size),λk hk=>(ag.block k (by have:=V.size;omega) (by omega)).trans ((V.block k (by omega)).trans (az.block k hk))⟩
    rcases Nat.eq_zero_or_pos nt with h0|h0
    ·have g0:decide (0<nt)=false:=by simp[h0]
     have aa:By wr W.heap.size q h s l o r (Xr nv 0) (Xr nf 0) (Xr nl (-1)) (Xr nt 0) ((Xr nt 0).set 0 1) (Xr nr 0) N M O P R Q:=by
      have e:(Xr nt (0:Int)).set 0 1=Xr nt 0:=by rw[h0];rfl
      rw[e];exact Y
     obtain⟨U,hU,kU,aq,ax,t⟩:=aD wr ks aa J;obtain⟨r0,r1,r2,r3,r4,r5⟩:=Br t;obtain⟨f0,f1,f2,f3,f4,f5⟩:=(⟨Ap t 0,Ap t 1,Ap t 2,Ap t 3,Ap t 4,Ap t 5⟩:_/\_/\_/\_/\_/\_);have B:=Aa (⟨kU,aq,ax⟩:_/\_/\_);clear aD Y aa ks J hi h5 ah ab ac af T hz h0 kU aq ax t HN HP
     go_wp2_with fail
     exact XJ (My rfl rfl B.out.1) rfl ⟨_,_,_,_,_,_,⟨_,_,_,_,_,_,rfl⟩,B.out.2.1.1,B.out.2.1.2,B.out.2.2⟩
    ·have g0:decide (0<nt)=true:=by simp[h0]
     have bI:(0:Int)<(nt:Int):=by omega
     obtain⟨g,eb,g1,g2,hc,hf,aa⟩:=Y.Qj (i:=0) (by rw[Yy];exact h0);subst eb;have au:=RB ks hc;obtain⟨Wz,am⟩:∃Wz,wr.setCell ⟨g,0,none⟩ (.int .i64 1)=Wz:=⟨_,rfl⟩;have aj:=aa 1;rw[am] at aj;have kz:=(show Wz.heap[sb]?=wr.heap[sb]? by rw[<-am];exact Xt wr ⟨g,0,none⟩ sb _ (λe=>au e.symm)).trans ks;have V:Xm W.heap.size W Wz:=by rw[<-am];exact J.setCell g1 _
     obtain⟨U,hU,kU,aq,ax,t⟩:=aD Wz kz aj V;obtain⟨r0,r1,r2,r3,r4,r5⟩:=Br t;obtain⟨f0,f1,f2,f3,f4,f5⟩:=(⟨Ap t 0,Ap t 1,Ap t 2,Ap t 3,Ap t 4,Ap t 5⟩:_/\_/\_/\_/\_/\_);obtain⟨t0,t1,t2,t3,t4,t5⟩:=Br kz;obtain⟨lv,ay⟩:∃v,(Xr nt (0:Int)).getD 0 0=v:=⟨_,rfl⟩;rw[ay] at hc;have B:=Aa (⟨kU,aq,ax⟩:_/\_/\_);clear aD Y aa aj ks J V hi h5 ah ab ac af T hz h0 kU aq ax t kz au g1 g2 ay HN HP
     go_upto_region 9 with fail
     try rw[am]
     clear am hc hf s0 s1 s2 s3 s4 s5
     go_wp2_with fail
     exact XJ (My rfl rfl B.out.1) rfl ⟨_,_,_,_,_,_,⟨_,_,_,_,_,_,rfl⟩,B.out.2.1.1,B.out.2.1.2,B.out.2.2⟩
end
theorem Dn {x:Tx} {n:Nat} (h:x.length+n<=4611686018427387904):¬9223372036854775807<(bs x).size+n:=by rw[Ba];omega
theorem EZ {x y:Tx} (h:x.length+y.length<=4611686018427387904):¬9223372036854775807<(bs x).size+(bs y).size:=by rw[Ba,Ba];omega
section
variable {w w':Xh} {a:Option YZ} {l:List Int} {ns:List Tx}
theorem OT {B base:Nat} (ht:Ck w B) (W:B<=w.heap.size) {nv:Xk} {n cap:Nat} (I:w.ownsRow base 9 1 nv ns.length (ns.map BV)) (g:ns.length=n) (f:∀k,(ns.getD k []).length<=8) (o:Is w a l) (D:l.length=n) (X:n<=4) (R:∀v,v∈l->Cu v) :
 Calls Tryz.prog 129 #[nv,.slice a n cap] w λe w'=>e = .returned (.string (bs (Bi Yj ns l n)))/\Xm w.heap.size w w':=by
 rw[g] at I;obtain⟨na,nc,rfl,t⟩:=IH I g;have d:∀k,Cu (l.getD k 0):=λk=>by
  by_cases e:k<l.length
  ·exact R _ (CL e)
  ·rw[List.getD_eq_getElem?_getD,XU (by omega)];exact⟨by decide,by decide⟩
 have HI:=Aa (λu (A:Xm w.heap.size w u) (x:Int) (h:Cu x)=>IP x (by have:=h.1;omega) (by have:=h.2;omega) u (ht.keep (A.mono W)));have H:=Aa (⟨t,o,d,f,D,g⟩:_/\_/\_/\_/\_/\_);clear I t o R d f D g ht W
 go_enter Tryz.func129,Tryz.ntmps129
 go_wp2_with fail
 go_loopw [5,6] (λtv N wr=>∃i:Nat,i<=n/\N = .int .i64 i/\tv = .string (bs (Bi Yj ns l i))/\Xm w.heap.size w wr) (λ_ N _=>n - (intOf N).toNat)
 case atStart=>exact⟨0,Xw _,rfl,rfl,Below.refl _ _⟩
 case round=>
  obtain⟨i,Y,rfl,rfl,m⟩:=hrel
  by_cases E:i<n
  ·obtain⟨t,o,d,f,D,g⟩:=H.out;have aE:(i:Int)<(n:Int):=by omega
   obtain⟨G,go,e1,gl,c1⟩:=t i (by omega);subst e1;obtain⟨lb,F,e2,ll,c2⟩:=o i (by omega);subst e2;have z:Xm w.heap.size w wr.drew:=m.trans ⟨rfl,rfl,rfl,Xd _,λ_ _=>rfl⟩;have C:Hid (∀u,Xm w.heap.size w u->u.cell? ⟨G,go+i,none⟩=some (.string (bs (ns.getD i [])))/\u.cell? ⟨lb,F+i,none⟩=some (.int .i64 (l.getD i 0))):=λu A=>⟨(A.cell (p:=⟨G,go+i,none⟩) gl).trans c1,(A.cell (p:=⟨lb,F+i,none⟩) ll).trans c2⟩
   have y:=HI.out wr.drew z _ (d i);have Q:=FB Yj ns l i f (λk=>DB (d k).1 (d k).2);have U:=DB (d i).1 (d i).2;have af:=f i;have s:=Ki Yj ns l i;obtain⟨T,J⟩:∃T,Bi Yj ns l i=T:=⟨_,rfl⟩;obtain⟨nm,P⟩:∃x,ns.getD i []=x:=⟨_,rfl⟩;obtain⟨c,O⟩:∃x,Yj (l.getD i 0)=x:=⟨_,rfl⟩;obtain⟨lv,M⟩:∃x,l.getD i 0=x:=⟨_,rfl⟩;rw[J] at Q s;rw[P] at af s;rw[O] at U s;rw[O] at y;rw[M] at y;simp only[P,M] at C;have z1:¬9223372036854775807<(bs T).size+(bs nm).size:=EZ (by omega);have a1:bs T++bs nm=bs (T++nm):=Bx _ _;have V:(T++nm).length=T.length+nm.length:=Xb;have z2:¬9223372036854775807<(bs (T++nm)).size+1:=Dn (by omega);have a2:bs (T++nm)++⟨#[61]⟩=bs (T++nm++[61]):=Bx _ [61];have e4:(T++nm++[61]).length=T.length+nm.length+1:=by rw[Xb,V];rfl
   have z3:¬9223372036854775807<(bs (T++nm++[61])).size+(bs c).size:=EZ (by omega);have a3:bs (T++nm++[61])++bs c=bs (T++nm++[61]++c):=Bx _ _;have e5:(T++nm++[61]++c).length=T.length+nm.length+1+c.length:=by rw[Xb,e4]
   have z4:¬9223372036854775807<(bs (T++nm++[61]++c)).size+1:=Dn (by omega);have a4:bs (T++nm++[61]++c)++⟨#[10]⟩=bs (T++nm++[61]++c++[10]):=Bx _ [10];have hV:T++nm++[61]++c++[10]=Bi Yj ns l (i+1):=by rw[s];unfold GF;simp
   generalize T++nm++[61]++c++[10]=V4 at *;generalize T++nm++[61]++c=V3 at *;generalize T++nm++[61]=V2 at *;generalize T++nm=V1 at *;have aj:XO ((i:Int)+1)=(i:Int)+1:=Ia (by omega);obtain⟨s1,s2⟩:=C.out wr m;have hS:=Aa (C.out wr.drew z);have j:=Aa (⟨hV,E,z⟩:_/\_/\_);rw[J];clear m Y E t o d f D g gl c1 ll c2 Q U af s J P O M V e4 e5 hV X z
   go_upto_region 5 with fail
   refine Xx (S:=(λu=>u.cell? ⟨G,go+i,none⟩=some (.string (bs nm))/\u.cell? ⟨lb,F+i,none⟩=some (.int .i64 lv))) (by kernel_rfl) hS.out (λb=>?_);refine tk 0 b ?_;refine tk 1 b ?_;refine tk 2 b ?_;refine tk 3 b ?_;refine tk 4 b ?_;refine tk 5 b ?_;refine tk 6 b ?_;refine tk 7 b ?_;refine tk 8 b ?_;refine tk 9 b ?_;refine tk 10 b ?_;refine rd 11 (λK Z=>?_)
   go_simp
   go_at_call 72
   refine y.mono ?_;rintro e w8 ⟨rfl,r⟩;replace r:Xm w.heap.size w w8:=j.out.2.2.trans (r.mono j.out.2.2.size);have q:=Aa (C.out w8 r);have av:=Aa r;clear r b s1 s2 y
   go_wp2_with fail
   refine Z.out _ _ q.out (λb=>?_);clear Z K
   try simp only[XF,sq]
   refine tk 12 b ?_;refine tk 13 b ?_;refine tk 14 b ?_;refine Yd (by kernel_rfl) ?_ _;clear b q
   go_wp2_with fail
   go_roundw
   case rel=>
    (try rw[aj])
    exact⟨i+1,j.out.2.1,rfl,by rw[j.out.1],av.out⟩
   case measure=>
    (try rw[aj])
    exact Xl j.out.2.1 (Xn i)
  ·have ak:i=n:=by omega
   subst ak;have HB:=Aa m;clear m Y E H HI X
   go_wp2_with fail
   go_ret
   exact⟨rfl,HB.out⟩
end
end Go.Proofs.YtdcacoifehkioaaGreatDoor
