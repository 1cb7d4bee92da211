import Derived.Test.YtdcacoifehkioaaGreatDoorExH20
import Derived.RangeFuncNested
import Derived.RangeFuncBound
import Derived.RangeFuncCalls
import Derived.RangeFuncLeaves
import Derived.Below
open Go renaming World->Xh,Value->Xk,heap_setCell_same->Xj,heap_setCell_other->Xt,Program->Zm,grownBy_putObj'->ZO
open List renaming getElem?_eq_some_iff->Xf,getElem?_map->Xs,take_add_one->Yh,getElem?_append_left->Xz,getElem?_append_right->XD,length_append->Xb,map_append->XI,take_of_length_le->XM,getElem?_eq_getElem->Xe,length_map->Xp
open Nat renaming lt_irrefl->afI,sub_self->YK,le_refl->Xd,le_trans->Xu,lt_of_lt_of_le->XK
open Go.World renaming size_alloc->Yr,alloc_heap_new->Xi,putObj_heap_same->afv
open Array renaming getElem?_eq_some_iff->Xa
set_option linter.unusedVariables false
set_option linter.unusedSimpArgs false
namespace Go.Proofs.YtdcacoifehkioaaGreatDoor
open Go.RowKit Go.Shelf Go.Proofs.Cod
section
variable {w w':Xh} {p:PD} {base fb kb i k:Nat} {R:List Ag} {r:Ag}
def Ag.Fh (q o:Ag):Prop:=q.b=o.b/\q.m=o.m/\q.mb=o.mb/\q.fr=o.fr/\q.y=o.y
theorem Ag.Fh.refl (q:Ag):q.Fh q:=⟨rfl,rfl,rfl,rfl,rfl⟩
theorem Ag.Fh.trans {a b c:Ag} (h:a.Fh b) (d:b.Fh c):a.Fh c:=⟨h.1.trans d.1,h.2.1.trans d.2.1,h.2.2.1.trans d.2.2.1,h.2.2.2.1.trans d.2.2.2.1,h.2.2.2.2.trans d.2.2.2.2⟩
theorem IG (a:R[i]?=some r) (v:Xk) (j:Nat):(R.set i {r with mo:=v})[j]?=if j=i then some {r with mo:=v} else R[j]?:=by
 rw[List.getElem?_set]
 by_cases e:i=j
 ·subst e;rw[if_pos rfl,if_pos rfl,if_pos (Xf.1 a).1]
 ·rw[if_neg e,if_neg (λq=>e q.symm)]
theorem FZ (a:R[i]?=some r) (v:Xk) {j:Nat} {q:Ag} (h:(R.set i {r with mo:=v})[j]?=some q):∃o:Ag,R[j]?=some o/\q.Fh o/\((j=i/\q.mo=v)\/(j≠i/\q=o)):=by
 rw[IG a] at h
 by_cases e:j=i
 ·rw[if_pos e] at h
  cases h
  exact⟨r,by rw[e];exact a,Ag.Fh.refl _,.inl ⟨e,rfl⟩⟩
 ·rw[if_neg e] at h
  exact⟨q,h,Ag.Fh.refl _,.inr ⟨e,rfl⟩⟩
theorem MB (a:R[i]?=some r) (v:Xk) {j:Nat} {o:Ag} (h:R[j]?=some o):∃q,(R.set i {r with mo:=v})[j]?=some q/\q.Fh o:=by
 rw[IG a]
 by_cases e:j=i
 ·rw[if_pos e];subst e;rw[a] at h
  cases h
  exact⟨_,rfl,Ag.Fh.refl _⟩
 ·rw[if_neg e]
  exact⟨o,h,Ag.Fh.refl _⟩
theorem MD {α:Type} (f:Ag->α) (a:R[i]?=some r) (v:Xk) (b:f {r with mo:=v}=f r):(R.set i {r with mo:=v}).map f=R.map f:=by
 apply List.ext_getElem?
 intro j;rw[Xs,Xs,IG a]
 by_cases e:j=i
 ·rw[if_pos e,e,a];show some (f {r with mo:=v})=some (f r);rw[b]
 ·rw[if_neg e]
theorem We (a:R[i]?=some r) (v:Xk) (j:Nat):Ff (R.set i {r with mo:=v}) j=Ff R j:=by
 unfold Ff;rw[<-Xs,<-Xs,MD Ag.b a v rfl]
theorem abs {C:List (List Ad)} {i k k' j:Nat} (m:MS) (h:j≠i):Fy C i k j m=Fy C i k' j m:=by
 unfold Fy
 by_cases e:j<i
 ·rw[if_pos e,if_pos e]
 ·rw[if_neg e,if_neg e,if_neg h,if_neg h]
theorem Ni (C:List (List Ad)) (i k:Nat) (m:MS):Fy C i k i m=(Bj C m).take k:=by
 unfold Fy;rw[if_neg (afI _),if_pos rfl]
theorem FW.push (h:FW w p base fb kb R i k) (d:R[i]?=some r) {e:Ev} (he:(Bj p.C r.m)[k]?=some e) {V:Xh} {nv:Xk} (Q:Ac (λx=>r.mo.ownBlock=some x) w V) (an:V.ownsRow base 48 4 nv ((Bj p.C r.m).take k++[e]).length (((Bj p.C r.m).take k++[e]).flatMap Ef)) (Y:∀x,nv.ownBlock=some x->r.mo.ownBlock=some x\/w.heap.size<=x) :
 FW (V.setCell ⟨r.b,4,none⟩ nv) p base fb kb (R.set i {r with mo:=nv}) i (k+1)/\Ac (λx=>x=r.b\/r.mo.ownBlock=some x) w (V.setCell ⟨r.b,4,none⟩ nv):=by
 obtain⟨aH,G,y,aF⟩:=h.kinds;have M:Ac (λx=>x=r.b\/r.mo.ownBlock=some x) w (V.setCell ⟨r.b,4,none⟩ nv):=(Q.mono (S':=λx=>x=r.b\/r.mo.ownBlock=some x) λ_ _ q=>.inr q).set (a:=⟨r.b,4,none⟩) (.inl (.inl rfl)) nv;refine⟨?_,M⟩;have az:DK fb kb R i r.b:=.inr (.inr ⟨i,r,d,.inl rfl⟩);have ak:=h.lt az;have ai:V.heap[r.b]?=w.heap[r.b]?:=Q.block r.b ak (λq=>((y i i r r d d).2 _ q).1 rfl);have B:∀x,DK fb kb R i x->x≠r.b->r.mo.ownBlock≠some x->(V.setCell ⟨r.b,4,none⟩ nv).heap[x]?=w.heap[x]?:=λx g u E=>M.block x (h.lt g) (λq=>q.elim u E);generalize S:V.setCell ⟨r.b,4,none⟩ nv=V' at B M |-;have W:(R.set i {r with mo:=nv}).length=R.length:=List.length_set ..;have aB:∀x,nv.ownBlock=some x->x≠r.b:=λx g e=>by
  rcases Y x g with q|q
  ·exact((y i i r r d d).2 x q).1 e
  ·omega
 refine⟨?_,?_,λj q l=>?_,λj q l H=>?_,λj q l=>?_,λj q l aa=>?_,λj q l=>?_,λj A q O l N e=>?_,λj A q O x l N g t=>?_,⟨h.lo.1,h.lo.2.1,λj q l=>?_⟩,λj q l=>?_⟩
 ·obtain⟨r0,rl,h0,u,hF⟩:=h.fo;obtain⟨K,g0,l0⟩:=MB d nv h0;obtain⟨ql,gl,ll⟩:=MB d nv u;refine⟨K,ql,g0,by rw[W];exact gl,?_⟩;rw[l0.1,ll.1]
  exact(B fb (.inl rfl) (λe=>(G i r d).1 e.symm) (λe=>((G i r d).2.2 _ e).1 rfl)).trans hF
 ·obtain⟨fk,hK,u,E⟩:=h.km;refine⟨fk,?_,u,?_⟩
  ·rw[W];exact hK.same (B kb (.inr (.inl rfl)) (λe=>(G i r d).2.1 e.symm) (λe=>((G i r d).2.2 _ e).2 rfl))
  ·have:Gg p (R.set i {r with mo:=nv})=Gg p R:=MD (λr=>Aj p r.m) d nv rfl;rw[this];exact E
 ·obtain⟨o,c,f,n⟩:=FZ d nv l;rw[We d];have D:=h.st j o c;rw[<-f.1,<-f.2.1,<-f.2.2.1,<-f.2.2.2.1,<-f.2.2.2.2] at D
  rcases n with⟨rfl,v⟩|⟨s,rfl⟩
  ·rw[d] at c
   cases c
   rw[v];rw[f.1] at D |-;rw[<-S];unfold Bb at D |-
   exact(Xj V r.b 4 _ _ nv (ai.trans D)).trans rfl
  ·have nb:q.b≠r.b:=λe=>s (h.ap j i q r c d e);unfold Bb at D |-
   exact(B q.b (.inr (.inr ⟨j,q,c,.inl rfl⟩)) nb (λe=>((y j i q r c d).2 _ e).1 rfl)).trans D
 ·obtain⟨o,c,f,n⟩:=FZ d nv l;rw[f.2.1,f.2.2.1]
  exact(h.ma j o c H).same (B o.mb (.inr (.inr ⟨j,o,c,.inr (.inl ⟨H,rfl⟩)⟩)) (λe=>(y i j r o d c).1 H e.symm) (λe=>((y j i o r c d).2 _ e).2 H rfl))
 ·obtain⟨o,c,f,n⟩:=FZ d nv l
  rcases n with⟨rfl,v⟩|⟨s,rfl⟩
  ·rw[d] at c
   cases c
   rw[v,f.2.1,Ni];have ht:(Bj p.C r.m).take (k+1)=(Bj p.C r.m).take k++[e]:=by rw[Yh,he];rfl
   rw[ht];exact Ea an (λx g=>by rw[<-S];exact Xt V ⟨r.b,4,none⟩ x _ (aB x g))
  ·rw[abs q.m s (k':=k)];exact Ea (h.mo j q c) (λx g=>B x (.inr (.inr ⟨j,q,c,.inr (.inr g)⟩)) (((y i j r q d c).2 x g).1) (λe=>s (h.am j i q r x c d g e)))
 ·obtain⟨o,c,f,n⟩:=FZ d nv l
  rcases n with⟨rfl,v⟩|⟨s,rfl⟩
  ·rcases aa with q|⟨-,q⟩
   ·exact absurd q (afI _)
   ·omega
  ·refine h.mn j q c ?_
   rcases aa with q|⟨q,-⟩
   ·exact .inl q
   ·exact absurd q s
 ·obtain⟨o,c,f,n⟩:=FZ d nv l;rw[f.2.1];exact h.ok j o c
 ·obtain⟨o,c,f,-⟩:=FZ d nv l;obtain⟨F,I,T,-⟩:=FZ d nv N;exact h.ap j A o F c I (by rw[<-f.1,<-T.1];exact e)
 ·obtain⟨o,c,f,n⟩:=FZ d nv l;obtain⟨F,I,T,U⟩:=FZ d nv N;have key:∀j (o:Ag) x,j≠i->R[j]?=some o->o.mo.ownBlock=some x->nv.ownBlock=some x->False:=λj o x s c g t=>by
   rcases Y x t with q|q
   ·exact s (h.am j i o r x c d g q)
   ·have:=((h.mo j o c).lt x g).2
    omega
  rcases n with⟨J,v⟩|⟨s,J⟩
  ·rcases U with⟨z,X⟩|⟨Z,z⟩
   ·rw[J,z]
   ·rw[z] at t;rw[v] at g
    exact(key A F x Z I t g).elim
  ·rcases U with⟨z,X⟩|⟨Z,z⟩
   ·rw[J] at g;rw[X] at t
    exact(key j o x s c g t).elim
   ·rw[J] at g;rw[z] at t;exact h.am j A o F x c I g t
 ·obtain⟨o,c,f,n⟩:=FZ d nv l;rw[f.1,f.2.2.1];exact h.lo.2.2 j o c
 ·obtain⟨o,c,f,n⟩:=FZ d nv l
  rcases h.way j o c with⟨K,q1,q2⟩|⟨A,r',hj,af,u,E,h3⟩
  ·exact .inl ⟨K,f.2.2.2.1.trans q1,f.2.1.trans q2⟩
  ·obtain⟨O,gq,P⟩:=MB d nv af;refine .inr ⟨A,O,hj,gq,?_,?_,?_⟩
   ·rw[f.2.2.2.1,u,P.1]
   ·rw[P.2.1,f.2.2.2.2];exact E
   ·rw[f.2.1,h3,P.2.1,f.2.2.2.2]
theorem FW.more (h:FW w p base fb kb R i k) (X:R[i]?=some r) {c:Ag} (D:R[R.length - 1]?=some c) {K:Tx->Option Xk} (hU:∀x u,K x=some u->u = .agg #[]) (hK:∀x,(K x).isSome=true↔x∈Gg p R) {q mB:Nat} {m:MS} {t:Int} {T:Xk} (ao:∀B:Ag,R[0]?=some B->T=Ab B.b)
 (hc:AO p.C r.m t=0) (hm:m=(Ay false p.C r.m t).1) (ah:BT p m) (hq:w.heap.size<=q) (M:AP w mB p m) (au:base<=mB) (ac:base<=w.heap.size)
 (ay:Bb w' q (Ab mB) (Aj p m) (Au m) (Bw m) (.slice none 0 0) (Ab r.b) t (.pointer none))
 (aG:Bb w' c.b (if R.length - 1<i then .pointer none else Ab c.mb) (Aj p c.m) (Au c.m) (Bw c.m) c.mo (DO c.fr) c.y (Ab q))
 (hF:Ek w' fb T q kb) (az:AB sk w' kb (Bz K (Aj p m) (.agg #[])) (R.length+1)) (Y:Ac (λx=>x=fb\/x=c.b\/x=kb) w w') :
 FW w' p base fb kb (R++[⟨q,m,mB,some r.b,t,.slice none 0 0⟩]) i k:=by
 obtain⟨aM,G,V,Q⟩:=h.kinds;have af:=(Xf.1 X).1;have l:∀(j:Nat) (o:Ag),(R++[⟨q,m,mB,some r.b,t,.slice none 0 0⟩])[j]?=some o->(j<R.length/\R[j]?=some o)\/(j=R.length/\o=⟨q,m,mB,some r.b,t,.slice none 0 0⟩):=λj o a=>by
  by_cases e:j<R.length
  ·rw[Xz e] at a;exact .inl ⟨e,a⟩
  ·rw[XD (by omega)] at a
   by_cases W:j=R.length
   ·rw[W,YK] at a
    cases a
    exact .inr ⟨W,rfl⟩
   ·obtain⟨d,hd⟩:∃d,j - R.length=d+1:=⟨j - R.length - 1,by omega⟩;rw[hd] at a
    cases a
 have J:∀(j:Nat) (o:Ag),R[j]?=some o->(R++[⟨q,m,mB,some r.b,t,.slice none 0 0⟩])[j]?=some o:=λj o a=>by
  rw[Xz (Xf.1 a).1];exact a
 have S:(R++[⟨q,m,mB,some r.b,t,.slice none 0 0⟩])[R.length]?=some ⟨q,m,mB,some r.b,t,.slice none 0 0⟩:=by
  rw[XD (Xd _),YK];rfl
 have aB:∀j,j+1<R.length->Ff (R++[⟨q,m,mB,some r.b,t,.slice none 0 0⟩]) j=Ff R j:=λj n=>by
  unfold Ff;rw[Xz n]
 have ab:Ff (R++[⟨q,m,mB,some r.b,t,.slice none 0 0⟩]) (R.length - 1)=Ab q:=by
  unfold Ff;rw[show R.length - 1+1=R.length by omega,S];rfl
 have aD:Ff (R++[⟨q,m,mB,some r.b,t,.slice none 0 0⟩]) R.length = .pointer none:=by
  unfold Ff;rw[List.getElem?_eq_none (by rw[Xb];exact Xd _)];rfl
 have N:∀x,DK fb kb R i x->x≠fb->x≠c.b->x≠kb->w'.heap[x]?=w.heap[x]?:=λx f H h2 h3=>Y.block x (h.lt f) (λe=>by rcases e with e|e|e;exact H e;exact h2 e;exact h3 e);have aN:=h.lt (.inr (.inr ⟨_,c,D,.inl rfl⟩):DK fb kb R i c.b);have aH:=h.lt (.inl rfl:DK fb kb R i fb);have aJ:=h.lt (.inr (.inl rfl):DK fb kb R i kb);have ax:=M.lt;have I:mB≠fb/\mB≠c.b/\mB≠kb:=by
  obtain⟨cs,g,-⟩:=M;obtain⟨B,aE,-,-,O⟩:=h.fo;obtain⟨aI,⟨es,aK,gK,-⟩,-⟩:=h.km;have P:=h.st _ c D;unfold Ek at O;unfold Bb at P;refine⟨λe=>?_,λe=>?_,λe=>?_⟩
  ·rw[e,O] at g;injection g with g
   injection g with _ g
   exact absurd g (by decide)
  ·rw[e,P] at g;injection g with g
   injection g with _ g
   exact absurd g (by decide)
  ·rw[e,gK] at g;cases g
 refine⟨?_,?_,λj o a=>?_,λj o a E=>?_,λj o a=>?_,λj o a aq=>?_,λj o a=>?_,λj v o A a s e=>?_,λj v o A x a s f Z=>?_,⟨h.lo.1,h.lo.2.1,λj o a=>?_⟩,λj o a=>?_⟩
 ·obtain⟨B,aE,U,H,aL⟩:=h.fo;refine⟨B,_,J 0 B U,by rw[Xb];exact S,?_⟩;rw[<-ao B U];exact hF
 ·refine⟨_,by rw[Xb];exact az,λx u f=>?_,λx=>?_⟩
  ·unfold Bz at f
   by_cases e:x=Aj p m
   ·rw[if_pos e] at f;cases f;rfl
   ·rw[if_neg e] at f;exact hU x u f
  ·have ak:Gg p (R++[⟨q,m,mB,some r.b,t,.slice none 0 0⟩])=Gg p R++[Aj p m]:=by unfold Gg;rw[XI];rfl
   rw[ak,List.mem_append,List.mem_singleton,<-hK x];unfold Bz
   by_cases e:x=Aj p m
   ·rw[if_pos e];exact⟨λ_=>.inr e,λ_=>rfl⟩
   ·rw[if_neg e];exact⟨λz=>.inl z,λz=>z.elim id (λz=>absurd z e)⟩
 ·rcases l j o a with⟨n,a⟩|⟨rfl,rfl⟩
  ·by_cases e:j=R.length - 1
   ·subst e;rw[D] at a
    cases a
    rw[ab];exact aG
   ·rw[aB j (by omega)];have hS:=h.st j o a;unfold Bb at hS |-
    exact(N o.b (.inr (.inr ⟨j,o,a,.inl rfl⟩)) (G j o a).1 (λz=>e (h.ap j _ o c a D z)) (G j o a).2.1).trans hS
  ·rw[aD,if_neg (by omega)];exact ay
 ·rcases l j o a with⟨n,a⟩|⟨rfl,rfl⟩
  ·exact(h.ma j o a E).same (N o.mb (.inr (.inr ⟨j,o,a,.inr (.inl ⟨E,rfl⟩)⟩)) (Q j o a E).1 (λz=>(V _ j c o D a).1 E z.symm) (Q j o a E).2)
  ·exact M.same (Y.block mB ax (λz=>by rcases z with z|z|z;exact I.1 z;exact I.2.1 z;exact I.2.2 z))
 ·rcases l j o a with⟨n,a⟩|⟨rfl,rfl⟩
  ·exact Ea (h.mo j o a) (λx f=>N x (.inr (.inr ⟨j,o,a,.inr (.inr f)⟩)) ((G j o a).2.2 x f).1 (((V _ j c o D a).2 x f).1) ((G j o a).2.2 x f).2)
  ·have:Fy p.C i k R.length m=[]:=by unfold Fy;rw[if_neg (by omega),if_neg (by omega)]
   rw[this];exact World.ownsRow_nil w' base 48 4
 ·rcases l j o a with⟨n,a⟩|⟨rfl,rfl⟩
  ·exact h.mn j o a aq
  ·rfl
 ·rcases l j o a with⟨n,a⟩|⟨rfl,rfl⟩
  ·exact h.ok j o a
  ·exact ah
 ·rcases l j o a with⟨n,a⟩|⟨rfl,rfl⟩
  ·have:=h.lt (.inr (.inr ⟨j,o,a,.inl rfl⟩):DK fb kb R i o.b)
   rcases l v A s with⟨F,s⟩|⟨rfl,rfl⟩
   ·exact h.ap j v o A a s e
   ·have e:o.b=q:=e
    omega
  ·rcases l v A s with⟨F,s⟩|⟨rfl,rfl⟩
   ·have:=h.lt (.inr (.inr ⟨v,A,s,.inl rfl⟩):DK fb kb R i A.b);have e:q=A.b:=e
    omega
   ·rfl
 ·rcases l j o a with⟨n,a⟩|⟨rfl,rfl⟩
  ·rcases l v A s with⟨F,s⟩|⟨rfl,rfl⟩
   ·exact h.am j v o A x a s f Z
   ·cases Z
  ·cases f
 ·rcases l j o a with⟨n,a⟩|⟨rfl,rfl⟩
  ·exact h.lo.2.2 j o a
  ·exact⟨Xu ac hq,au⟩
 ·rcases l j o a with⟨n,a⟩|⟨rfl,rfl⟩
  ·rcases h.way j o a with z|⟨v,r',F,ai,H⟩
   ·exact .inl z
   ·exact .inr ⟨v,r',F,J v r' ai,H⟩
  ·exact .inr ⟨i,r,af,J i r X,rfl,hc,hm⟩
theorem FW.shut (h:FW w p base fb kb R i k) (c:R[i]?=some r) (G:(Bj p.C r.m).length<=k):FW (w.setCell ⟨r.b,0,none⟩ (.pointer none)) p base fb kb R (i+1) 0:=by
 obtain⟨K,s,t,I⟩:=h.kinds;have f:∀x,x≠r.b->(w.setCell ⟨r.b,0,none⟩ (.pointer none)).heap[x]?=w.heap[x]?:=λx l=>Xt w ⟨r.b,0,none⟩ x _ l;have y:∀j m,(j=i->m=r.m)->Fy p.C (i+1) 0 j m=Fy p.C i k j m:=λj m D=>by
  unfold Fy
  by_cases e:j<i
  ·rw[if_pos e,if_pos (by omega)]
  ·rw[if_neg e]
   by_cases d:j=i
   ·rw[if_pos (by omega),if_pos d,D d,XM G]
   ·rw[if_neg (by omega),if_neg d]
    by_cases q:j=i+1
    ·rw[if_pos q,List.take_zero]
    ·rw[if_neg q]
 refine⟨?_,?_,λj o a=>?_,λj o a J=>(h.ma j o a (by omega)).same (f o.mb (λe=>(t i j r o c a).1 (by omega) e.symm)),λj o a=>?_,λj o a H=>h.mn j o a (.inl (by omega)),h.ok,h.ap,h.am,h.lo,h.way⟩
 ·obtain⟨u,E,B,n,F⟩:=h.fo
  exact⟨u,E,B,n,(f fb (λe=>(s i r c).1 e.symm)).trans F⟩
 ·obtain⟨v,A,n⟩:=h.km
  exact⟨v,A.same (f kb (λe=>(s i r c).2.1 e.symm)),n⟩
 ·have g:=h.st j o a
  by_cases e:j=i
  ·subst e;rw[c] at a
   cases a
   rw[if_neg (afI _)] at g;rw[if_pos (Nat.lt_succ_self _)];unfold Bb at g |-
   exact(Xj w r.b 0 _ _ _ g).trans rfl
  ·have d:(j<i+1)=(j<i):=by apply propext;omega
   rw[show (if j<i+1 then Value.pointer none else Ab o.mb)=(if j<i then Value.pointer none else Ab o.mb) by simp only[d]];unfold Bb at g |-
   exact(f o.b (λz=>e (h.ap j i o r a c z))).trans g
 ·rw[y j o.m (λe=>by subst e;rw[c] at a;cases a;rfl)];exact Ea (h.mo j o a) (λx l=>f x (((t i j r o c a).2 x l).1))
end
theorem Rb {nv nf nl:Nat} {C:List (List Ad)} {s:MS} (g:Ej nv nf nl C) (h:AZ nv nf nl C s) {t:Int} (i:AO C s t=0):Ky s (Ay false C s t).1 (Ay false C s t).2/\AZ nv nf nl C (Ay false C s t).1:=by
 obtain⟨u,rfl,c,f,a,b⟩:=Gq g h i;unfold Ay;rw[Int.toNat_natCast];refine⟨aaQ (by rw[h.tl];exact c) f (λe=>?_),JN false h c f a b⟩;have l:(s.th (BB C u (s.th u)).x.toNat).ph=0:=by
  unfold BG at a;rw[e] at a;rw[if_neg (by decide),if_neg (by decide),if_pos rfl] at a
  simpa using a
 refine⟨?_,l⟩;rw[h.tl]
 rcases b with j|⟨b,-⟩
 ·rw[j] at e;exact absurd e (by decide)
 ·obtain⟨q,d,k,x1,x2,x3,x4,n⟩:=b.ex;have m:=b.x0;rw[k] at e;simp only[Bd,List.mem_cons,List.not_mem_nil,or_false] at d
  rcases d with rfl|rfl|rfl|rfl|rfl|rfl|rfl|rfl|rfl|rfl|rfl|rfl|rfl|rfl|rfl|rfl|rfl<;>first|(have:=x4 (by decide);omega)|exact absurd e (by decide)
theorem SA {c:Prop} [Decidable c] {a b:MS×Ev} {t:Int} (e:a.2.t=t) (d:b.2.t=t):(if c then a else b).2.t=t:=by
 by_cases h:c
 ·rw[if_pos h];exact e
 ·rw[if_neg h];exact d
theorem Vz (k:Bool) (s:MS) (t:Nat) (x:Ad):(Bc k s t x).2.t=t:=by
 unfold Bc;dsimp only
 repeat' first|exact SA rfl rfl|refine SA ?_ ?_|rfl
theorem adc {C:List (List Ad)} {s:MS} {t:Int} (h:0<=t):(Ay false C s t).2.t=t:=by
 unfold Ay;rw[Vz]
 omega
theorem ada {nv nf nl:Nat} {C:List (List Ad)} {s:MS} (h:AZ nv nf nl C s) (a:C.length<=4):0<=(Au s:Int)/\(Au s:Int)<=4:=by
 have:=List.countP_le_length (p:=λth:TS=>th.ph == 1) (l:=s.thr);rw[h.tl] at this;unfold Au
 omega
theorem Ac.aeL {S:Nat->Prop} {B:Nat} {w w':Xh} (h:Ac S w w') (a:∀x,S x->B<=x) (b:B<=w.heap.size):Below B w w':=
 ⟨h.os,h.tape,h.output,h.size,λx c=>h.block x (by omega) (λq=>by have:=a x q;omega)⟩
structure Gw (R R':List Ag) (i Z:Nat):Prop where
 old:∀(j:Nat) (o:Ag),R[j]?=some o->∃q:Ag,R'[j]?=some q/\q.Fh o/\(j≠i->q=o)
 new:∀(j:Nat) (q:Ag),R'[j]?=some q->(∃o:Ag,R[j]?=some o)\/(Z<=q.b/\Z<=q.mb/\q.mo = .slice none 0 0)
theorem Gw.refl (R:List Ag) (i Z:Nat):Gw R R i Z:=⟨λ_ o h=>⟨o,h,Ag.Fh.refl _,λ_=>rfl⟩,λ_ q h=>.inl ⟨q,h⟩⟩
theorem Gw.set {R R':List Ag} {i Z:Nat} {r:Ag} (h:Gw R R' i Z) (f:i<R.length) (b:R'[i]?=some r) (v:Xk):Gw R (R'.set i {r with mo:=v}) i Z:=by
 refine⟨λj o g=>?_,λj q a=>?_⟩
 ·obtain⟨q,a,c,d⟩:=h.old j o g;rw[IG b]
  by_cases e:j=i
  ·subst e;rw[if_pos rfl];rw[b] at a
   cases a
   exact⟨_,rfl,c,λz=>absurd rfl z⟩
  ·rw[if_neg e]
   exact⟨q,a,c,d⟩
 ·rw[IG b] at a
  by_cases e:j=i
  ·subst e;exact .inl ⟨R[j],Xe f⟩
  ·rw[if_neg e] at a;exact h.new j q a
theorem Gw.push {R R':List Ag} {i Z:Nat} (h:Gw R R' i Z) {x:Ag} (l:Z<=x.b/\Z<=x.mb/\x.mo = .slice none 0 0):Gw R (R'++[x]) i Z:=by
 refine⟨λj o k=>?_,λj q a=>?_⟩
 ·obtain⟨q,a,f⟩:=h.old j o k
  exact⟨q,by rw[Xz (Xf.1 a).1];exact a,f⟩
 ·by_cases e:j<R'.length
  ·rw[Xz e] at a;exact h.new j q a
  ·rw[XD (by omega)] at a
   by_cases c:j=R'.length
   ·rw[c,YK] at a
    cases a
    exact .inr l
   ·obtain⟨d,g⟩:∃d,j - R'.length=d+1:=⟨j - R'.length - 1,by omega⟩;rw[g] at a
    cases a
def Um (fb kb:Nat) (R:List Ag) (x:Nat):Prop:=x=fb\/x=kb\/∃(j:Nat) (q:Ag),R[j]?=some q/\x=q.b
structure LI (w1 wr:Xh) (p:PD) (base fb kb:Nat) (R:List Ag) (i:Nat) (m:MS) (k ks:Nat) (R':List Ag):Prop where
 fw:FW wr p base fb kb R' i k
 ms:R'.map Ag.m=((BC false p.C m).take ks).foldl (DV (Aj p)) (R.map Ag.m)
 ext:Gw R R' i w1.heap.size
 mo:∀(q:Ag) (x:Nat),R'[i]?=some q->q.mo.ownBlock=some x->w1.heap.size<=x
 kp:Ac (Um fb kb R) w1 wr
structure Hz (w w':Xh) (p:PD) (base fb kb:Nat) (R:List Ag) (i:Nat) (m:MS) (R':List Ag):Prop where
 fw:FW w' p base fb kb R' (i+1) 0
 ms:R'.map Ag.m=DI (Aj p) (BC false p.C) (R.map Ag.m) m
 ext:Gw R R' i w.heap.size
 mo:∀(q:Ag) (x:Nat),R'[i]?=some q->q.mo.ownBlock=some x->w.heap.size<=x
 kp:Ac (Um fb kb R) w w'
theorem Nk (C:List (List Ad)) (m:MS):(Bj C m).length=(AG C m).length:=by unfold Bj;rw[Xp]
theorem abt {C:List (List Ad)} {m:MS} {k:Nat} {t:Int} (h:(AG C m)[k]?=some t):(Bj C m)[k]?=some (Ay false C m t).2:=by unfold Bj;rw[Xs,h];rfl
theorem Vy {C:List (List Ad)} {m:MS} {k:Nat} {t:Int} (h:(AG C m)[k]?=some t):(BC false C m).take (k+1)=(BC false C m).take k++[(Ay false C m t).1]:=by
 rw[Yh];unfold BC;rw[Xs,h];rfl
section
variable {w1 V V6:Xh} {p:PD} {base fb kb:Nat} {R R':List Ag} {i k ks:Nat} {r:Ag} {t:Int}
theorem LI.below (h:LI w1 V p base fb kb R i r.m k ks R') (a:Below V.heap.size V V6):LI w1 V6 p base fb kb R i r.m k ks R':=⟨h.fw.below a,h.ms,h.ext,h.mo,h.kp.trans (Ac.DG a)⟩
theorem LI.push (h:LI w1 V p base fb kb R i r.m k ks R') (a:R'[i]?=some r) (d:i<R.length) {e:Ev} (n:(Bj p.C r.m)[k]?=some e) {g:Xh} {nv:Xk} (v:Ac (λx=>r.mo.ownBlock=some x) V g) (t:g.ownsRow base 48 4 nv ((Bj p.C r.m).take k++[e]).length (((Bj p.C r.m).take k++[e]).flatMap Ef)) (j:∀x,nv.ownBlock=some x->r.mo.ownBlock=some x\/V.heap.size<=x) :
 LI w1 (g.setCell ⟨r.b,4,none⟩ nv) p base fb kb R i r.m (k+1) ks (R'.set i {r with mo:=nv}):=by
 obtain⟨u,o⟩:=h.fw.push a n v t j;refine⟨u,by rw[MD Ag.m a nv rfl];exact h.ms,h.ext.set d a nv,λq x c l=>?_,h.kp.then o (λx l f=>?_)⟩
 ·rw[IG a,if_pos rfl] at c
  cases c
  rcases j x l with z|z
  ·exact h.mo r x a z
  ·exact Xu h.kp.size z
 ·rcases f with rfl|f
  ·obtain⟨q,c,s,-⟩:=h.ext.old i R[i] (Xe d);rw[a] at c
   cases c
   exact .inr (.inr ⟨i,R[i],Xe d,s.1⟩)
  ·have:=h.mo r x a f
   omega
theorem LI.add (h:LI w1 V p base fb kb R i r.m k ks R') (P:Cs p) (l:R'[i]?=some r) (G:(AG p.C r.m)[ks]?=some t) (ag:base<=w1.heap.size) {a v:Ag} (g:R'[R'.length - 1]?=some a) (S:R'[0]?=some v) {d:Tx->Option Xk} (N:∀x u,d x=some u->u = .agg #[]) (j:∀x,(d x).isSome=true↔x∈Gg p R') {mB:Nat} (X:AP V mB p (Ay false p.C r.m t).1) (ac:w1.heap.size<=mB)
 (K:Ml V V6 fb a.b kb r.b mB (Ab v.b) d R'.length (Aj p (Ay false p.C r.m t).1) (Au r.m) (Bw r.m) (if R'.length - 1<i then .pointer none else Ab a.mb) a.mo (DO a.fr) (Aj p a.m) (Au a.m) a.y (Bw a.m) (Ay false p.C r.m t).2):∃M,LI w1 V6 p base fb kb R i r.m k (ks+1) M:=by
 have f:=Ie (List.mem_of_getElem? G);obtain⟨w,O⟩:=Rb P.fit (h.fw.ok i r l) f;have J:((BC false p.C r.m).take (ks+1)).foldl (DV (Aj p)) (R.map Ag.m)=DV (Aj p) (R'.map Ag.m) (Ay false p.C r.m t).1:=by
  rw[Vy G,List.foldl_append,<-h.ms];rfl
 have E:(R'.map Ag.m).map (Aj p)=Gg p R':=by rw[List.map_map];rfl
 rcases K with⟨s,D⟩|⟨s,q,hq,n,af,W,Y,F⟩
 ·refine⟨R',h.fw.below D,?_,h.ext,h.mo,h.kp.trans (Ac.DG D)⟩;rw[J];unfold DV;rw[E,if_pos ((j _).1 s)]
 ·have Q:Aj p (Ay false p.C r.m t).1∉Gg p R':=λe=>by
   have:=(j _).2 e;rw[s] at this
   cases this
  have Z:(Au (Ay false p.C r.m t).1:Int)=Gj (Au r.m) (Ay false p.C r.m t).2.k:=w.going;have T:=w.failed;rw[<-Z,<-T] at n;have ab:0<=t:=by obtain⟨u,rfl,-⟩:=TN f;omega
  rw[adc ab] at n;have hz:=h.kp.size;refine⟨_,h.fw.more l g N j (λai H=>by rw[S] at H;cases H;rfl) f rfl O hq X (by omega) (by omega) n af W Y F,?_,h.ext.push ⟨by show _<=q;omega,ac,rfl⟩,λI x c A=>?_,h.kp.then F (λx A hS=>?_)⟩
  ·rw[J,XI];unfold DV;rw[E,if_neg Q]
   rfl
  ·rw[Xz (Xf.1 l).1] at c;exact h.mo I x c A
  ·rcases hS with e|e|e
   ·exact .inl e
   ·rcases h.ext.new _ a g with⟨o,B⟩|z
    ·obtain⟨I,c,U,-⟩:=h.ext.old _ o B;rw[g] at c
     cases c
     exact .inr (.inr ⟨_,o,B,e.trans U.1⟩)
    ·omega
   ·exact .inr (.inl e)
theorem LI.done (h:LI w1 V p base fb kb R i r.m k ks R') (d:R'[i]?=some r) (f:i<R.length) (o:(AG p.C r.m).length<=k) (n:(AG p.C r.m).length<=ks) {w:Xh} (g:Below w.heap.size w w1):Hz w (V.setCell ⟨r.b,0,none⟩ (.pointer none)) p base fb kb R i r.m R':=by
 have s:=g.size;refine⟨h.fw.shut d (by rw[Nk];exact o),?_,⟨h.ext.old,λj q c=>(h.ext.new j q c).imp id λz=>⟨by omega,by omega,z.2.2⟩⟩,λq x c t=>Xu s (h.mo q x c t),?_⟩
 ·rw[h.ms];unfold DI;have e:(BC false p.C r.m).take ks=BC false p.C r.m:=XM (by unfold BC;rw[Xp];exact n);rw[e]
 ·refine((Ac.DG g).trans (h.kp.mono λ_ _ z=>z)).set (a:=⟨r.b,0,none⟩) (.inl ?_) _;obtain⟨q,c,l,-⟩:=h.ext.old i R[i] (Xe f);rw[d] at c
  cases c
  exact .inr (.inr ⟨i,R[i],Xe f,l.1⟩)
end
end Go.Proofs.YtdcacoifehkioaaGreatDoor
namespace Go.Proofs.YtdcacoifehkioaaGreatDoor
open Go.RowKit
abbrev AS:=Nat->Prop
structure Steps (O:AS) (W:Xh) (O':AS) (W':Xh):Prop where
 os:W'.os=W.os
 tape:W'.tape=W.tape
 output:W'.output=W.output
 size:W.heap.size<=W'.heap.size
 grows:∀b,O b->O' b
 fresh:∀b,O' b->O b\/W.heap.size<=b
 rest:∀b,b<W.heap.size->¬O b->W'.heap[b]?=W.heap[b]?
theorem Steps.refl (O:AS) (W:Xh):Steps O W O W:=⟨rfl,rfl,rfl,Xd _,λ_ h=>h,λ_ h=>.inl h,λ_ _ _=>rfl⟩
theorem Steps.trans {O f g:AS} {W e c:Xh} (h:Steps O W f e) (k:Steps f e g c):Steps O W g c:=
 ⟨k.os.trans h.os,k.tape.trans h.tape,k.output.trans h.output,Xu h.size k.size,λb a=>k.grows b (h.grows b a),
  λb a=>(k.fresh b a).elim (h.fresh b) (λd=>.inr (Xu h.size d)),
  λb a i=>(k.rest b (XK a h.size) (λj=>(h.fresh b j).elim i (λd=>by omega))).trans (h.rest b a i)⟩
def GS {β:Type} (J:β->AS->Xh->Prop):Prop:=
 ∀s O W W',J s O W->W.heap.size<=W'.heap.size->W'.os=W.os->W'.tape=W.tape->W'.output=W.output->(∀b,O b->W'.heap[b]?=W.heap[b]?)->J s O W'
def IS {α:Type} (I:List α->AS->Xh->Prop) (Ix:Code->List α->AS->Xh->Prop) (xs:List α) (O:AS) (W:Xh):Exit->Act->Xh->Prop
 |.normal,_,W'=>∃O',Steps O W O' W'/\I xs O' W'
 |.ret,_,W'=>∃O',Steps O W O' W'/\Ix .ret xs O' W'
 |.exit id,_,W'=>∃O',Steps O W O' W'/\Ix (.exit id) xs O' W'
 |.goto t,_,W'=>∃O',Steps O W O' W'/\Ix (.goto t) xs O' W'
 |.panic _,_,_=>False
 |.outgrown,_,_=>False
variable {F:Fence} {n:Nat} {P:Zm}
def IV {α:Type} (F:Fence) (n:Nat) (P:Zm) (g:Nat) (lb:Array Xk) (encs:α->Array Xk) (Base:AS) (E:List α->α->AS->Xh->Prop) (S:List α->AS->Xh->Prop) (Sp:List α->Prop) (w:Xh):Prop:=
 ∀(l:Nat) (J Jx:List α->AS->Xh->Prop) (W:Xh),Below w.heap.size w W->GS J->GS Jx->(∀pre O W1,J pre O W1->∀b,O b->b<W1.heap.size)->
  (∀pre O W1,J pre O W1->∀b,Base b->O b/\W1.heap[b]?=W.heap[b]?)->
  (∀pre x O W1,J pre O W1->E pre x O W1->YieldAt F (n - 1) P l (encs x) W1 λe W'=>∃O',Steps O W1 O' W'/\
    ((e = .returned (.bool true)/\J (pre++[x]) O' W')\/(e = .returned (.bool false)/\Jx (pre++[x]) O' W')))->
  J [] (λb=>b<W.heap.size) W->
  CallsIn F n P g (#[.func (.yield l) #[] #[]]++lb) W λe W'=>(∃v,e = .returned v)/\∃O',((∃xs,S xs O' W'/\J xs O' W')\/(∃pre,Sp pre/\Jx pre O' W'))
variable {F:Fence} {n:Nat} {P:Zm}
theorem OL {α:Type} {g:Operand} {ps:Array Tmp} {assign body:Code} {Q:Exit->Act->Xh->Prop} {a:Act} {w:Xh}
 (bl:F.round=none) (h1:1<=n) {gf:Nat} {lb:Array Xk} (hg:a.eval g = .func (.func gf) #[] lb) (be:F.fn gf) (eg:∀args w,(callFunc gf args).run P w = .ok (.enter gf args) w)
 {aI:α->Array Xk} {aO:AS} {E:List α->α->AS->Xh->Prop} {S:List α->AS->Xh->Prop} {Sp:List α->Prop} {w0:Xh} (bk:IV F (n - 1) P gf lb aI aO E S Sp w0) (aY:Below w0.heap.size w0 w) (bj:∀x,(aI x).size=ps.size)
 (hE:∀f x O W C z,E f x O W->Steps O W C z->E f x C z) (aZ:∀f x (O C:AS) W,E f x O W->(∀b,C b->O b)->E f x C W)
 (bb:∀A (O:AS) W z,S A O W->W.heap.size<=z.heap.size->(∀b,b<W.heap.size->¬O b->z.heap[b]?=W.heap[b]?)->S A O z) (bB:∀A (O C:AS) W,S A O W->(∀b,C b->O b)->S A C W)
 (I:List α->AS->Xh->Prop) (Ix:Code->List α->AS->Xh->Prop) (hI:GS I) (aB:∀c,GS (Ix c)) (aK:∀f O W,I f O W->∀b,O b->b<W.heap.size) (aE:∀c f O W,Ix c f O W->∀b,O b->b<W.heap.size)
 (bd:∀f O W,I f O W->∀b,aO b->O b/\W.heap[b]?=w.heap[b]?) (a2:∀b,aO b->b<w.heap.size) (h0:I [] (λb=>b<w.heap.size) w)
 (Ax:List α->α->Act->AS->Xh->Prop) (bp:∀f x a',GS (fun(_:Unit)=>Ax f x a'))
 (bv:∀(l:Nat) (f:List α) (x:α) (O:AS) (W:Xh) (K:Act->Xh->Prop),I f O W->E f x O W->(∀a' C z,Steps O W C z->I f C z->Ax f x a' C z->K a' z)->
   assign.wpIn (F.inRound l) (n - 1 - 1) P (Exit.then K (λ_ _ _=>False)) {tmps:=(ps.zip (aI x)).foldl (λt (p,v)=>t.setIfInBounds p v) a.tmps,defers:=[]} W)
 (bi:∀(l:Nat) (f:List α) (x:α) (a':Act) (O:AS) (W:Xh),(∃r,W.heap[l]?=some (.loop r))->¬O l->I f O W->E f x O W->Ax f x a' O W->body.wpIn (F.inRound l) (n - 1 - 1) P (IS I Ix (f++[x]) O W) a' W)
 (a1:∀(A:List α) (O:AS) (W:Xh),S A O W->I A O W->¬O w.heap.size->W.heap[w.heap.size]?=some (.deferred (some []))->Q .normal {a with defers:={target:=.collected w.heap.size,args := #[]}::a.defers} W)
 (hstop:∀(c:Code) (f:List α) (O:AS) (W:Xh),Sp f->Ix c f O W->¬O w.heap.size->W.heap[w.heap.size]?=some (.deferred (some []))->c.wpIn F n P Q {a with defers:={target:=.collected w.heap.size,args := #[]}::a.defers} W) :
 (Code.rangeFunc g ps assign body).wpIn F n P Q a w:=by
 refine wpIn_rangeFunc λfn bG=>?_;rw[bl];obtain⟨D,hD⟩:∃D,w.heap.size=D:=⟨_,rfl⟩;obtain⟨J,aj⟩:∃J:LoopState->Option Code->Loop,J=λst pe=>{state:=st,pending:=pe,fn,tmps:=a.tmps,params:=ps,assign,body,defers:=D}:=⟨_,rfl⟩;obtain⟨N,aD⟩:∃N,(w.alloc (.deferred (some []))).alloc (.loop (J .ready none))=N:=⟨_,rfl⟩;have bt:N.heap.size=D+2:=by rw[<-aD,Yr,Yr,hD]
 have bH:N.heap[D+1]?=some (.loop (J .ready none)):=by
  rw[<-aD,<-hD];have:=Xi (w.alloc (.deferred (some []))) (.loop (J .ready none));rwa [Yr] at this
 have bw:N.heap[D]?=some (.deferred (some [])):=by
  rw[<-aD,<-hD];exact(Below.heap_alloc _ _ _ (by simp)).trans (Xi w _)
 have ac:Below w.heap.size w N:=by rw[<-aD];exact((Below.refl _ w).alloc (Xd _) _).alloc (by simp) _
 have aF:(Instr.enterLoop fn a.tmps ps assign body none).run P w = .ok (D+1,[{target:=.collected D,args := #[]}]) N:=by
  rw[run_enterLoop_outer,<-aD,aj,hD]
 refine⟨D+1,[{target:=.collected D,args := #[]}],N,{target:=.fn (.func gf) lb,args := #[.func (.yield (D+1)) #[] #[]]},N,gf,#[.func (.yield (D+1)) #[] #[]]++lb,N,aF,?_,?_,?_,λ_=>h1,?_⟩
 ·simp only[resolve,hg];simp[go_sem]
 ·intro f' aS;simp[Target.leads] at aS;subst aS;exact be
 ·simp[invoke,go_sem,eg]
 rw[hD] at h0 a1 hstop ac a2;obtain⟨Gu,av⟩:∃Gu:AS->AS->Prop,Gu=λj O=>(∀b,O b↔(j b\/b=D\/b=D+1))/\¬j D/\¬j (D+1):=⟨_,rfl⟩;refine(bk (D+1)
  (λf O W=>∃j,Gu j O/\I f j W/\W.heap[D+1]?=some (.loop (J .ready none))/\W.heap[D]?=some (.deferred (some [])))
  (λf O W=>∃j c,Gu j O/\Ix c f j W/\W.heap[D+1]?=some (.loop (J .done (some c)))/\W.heap[D]?=some (.deferred (some [])))
  N (aY.trans (by rw[<-hD] at ac;exact ac.mono aY.size)) ?_ ?_ ?_ ?_ ?_ ?_).mono ?_
 ·rintro f O W z ⟨j,s,B,G,H⟩ aL V Z X am;have ad:=s;rw[av] at ad
  exact⟨j,s,hI f j W z B aL V Z X (λb d=>am b ((ad.1 b).2 (.inl d))),(am _ ((ad.1 _).2 (.inr (.inr rfl)))).trans G,(am _ ((ad.1 _).2 (.inr (.inl rfl)))).trans H⟩
 ·rintro f O W z ⟨j,c,s,B,G,H⟩ aL V Z X am;have ad:=s;rw[av] at ad
  exact⟨j,c,s,aB c f j W z B aL V Z X (λb d=>am b ((ad.1 b).2 (.inl d))),(am _ ((ad.1 _).2 (.inr (.inr rfl)))).trans G,(am _ ((ad.1 _).2 (.inr (.inl rfl)))).trans H⟩
 ·rintro f O W ⟨j,s,B,G,H⟩ b d;rw[av] at s
  rcases (s.1 b).1 d with h|rfl|rfl
  ·exact aK f j W B b h
  ·exact(Xa.1 H).1
  ·exact(Xa.1 G).1
 ·rintro f O W ⟨j,s,B,G,H⟩ b d;rw[av] at s;obtain⟨h2,h3⟩:=bd f j W B b d
  exact⟨(s.1 b).2 (.inl h2),h3.trans (ac.block b (a2 b d)).symm⟩
 ·
  rintro f x O W ⟨j,s,B,G,H⟩ he;rw[av] at s |-;obtain⟨hO,ay,az⟩:=s;have a8:D+1<W.heap.size:=(Xa.1 G).1;have hy:=run_yield (P:=P) (args:=aI x) G (by rw[aj];exact bj x);rw[aj] at hy;refine⟨fn,_,assign,body,hy,roundIn_of_wpIn bG (bv _ f x j W _ B (aZ f x O j W he (λb d=>(hO b).2 (.inl d))) ?_)⟩;clear hy;intro a' M u T aU bn;have ba:=(T.rest (D+1) a8 az).trans G;have a6:=(T.rest D (by omega) ay).trans H;have aH:¬M (D+1):=λh=>(T.fresh _ h).elim az (λh=>by omega);have a7:¬M D:=λh=>(T.fresh _ h).elim ay (λh=>by omega);refine⟨_,run_beginRound ba (by rw[aj]),?_⟩;obtain⟨q,aJ⟩:∃q,u.putObj (D+1) (.loop {J .ready none with state:=.busy})=q:=⟨_,rfl⟩;have y:u.grownBy q (some (D+1)):=by rw[<-aJ];exact ZO _ _ _
  have bJ:q.heap.size=u.heap.size:=by rw[<-aJ];simp[World.putObj]
  have aN:q.heap[D+1]?=some (.loop {J .ready none with state:=.busy}):=by rw[<-aJ];exact afv (Xa.1 ba).1
  have aV:∀b,M b->q.heap[b]?=u.heap[b]?:=λb d=>y.block b (aK f M u aU b d) (λe=>by cases e;exact aH d);have bh:q.heap[D]?=some (.deferred (some [])):=(y.block D (Xa.1 a6).1 (by simp)).trans a6;rw[aJ];have bq:I f M q:=hI f M u q aU y.size y.os y.tape y.output aV;have bD:Ax f x a' M q:=bp f x a' () M u q bn y.size y.os y.tape y.output aV;have a5:Steps O W (λb=>M b\/b=D\/b=D+1) q:=by
   refine⟨y.os.trans T.os,y.tape.trans T.tape,y.output.trans T.output,Xu T.size y.size,λb d=>((hO b).1 d).imp (T.grows b) id,λb d=>?_,λb d hn=>?_⟩
   ·rcases d with d|d
    ·exact(T.fresh b d).imp (λh=>(hO b).2 (.inl h)) id
    ·exact .inl ((hO b).2 (.inr d))
   ·have aP:b≠D+1:=λe=>hn ((hO b).2 (.inr (.inr e)))
    exact(y.block b (XK d T.size) (λe=>by cases e;exact aP rfl)).trans (T.rest b d (λh=>hn ((hO b).2 (.inl h))))
  have bz:E f x M q:=aZ f x _ M q (hE f x O W _ q he a5) (λb d=>.inl d);refine wpIn_mono (bi _ f x a' M q ⟨_,aN⟩ aH bq bz bD) ?_;have bg:D+1<q.heap.size:=(Xa.1 aN).1;have fin:∀(ab:Option Code) (k:AS) (o:Xh),Steps M q k o->∃i,(Instr.endRound (D+1) ab).run P o = .ok (.bool ab.isNone) i/\
   i.heap[D+1]?=some (.loop (J (if ab.isNone then .ready else .done) ab))/\i.heap[D]?=some (.deferred (some []))/\¬k D/\¬k (D+1)/\Steps O W (λb=>k b\/b=D\/b=D+1) i/\
   o.heap.size<=i.heap.size/\i.os=o.os/\i.tape=o.tape/\i.output=o.output/\(∀b,b<o.heap.size->k b->i.heap[b]?=o.heap[b]?):=λab k o R=>by
   have aW:=(R.rest (D+1) bg aH).trans aN;have a4:=(R.rest D (by omega) a7).trans bh;have bf:=(Xa.1 aW).1;have a9:¬k (D+1):=λh=>(R.fresh _ h).elim aH (λh=>by omega);have bc:¬k D:=λh=>(R.fresh _ h).elim a7 (λh=>by omega);have aF:=run_endRound (P:=P) ab aW;obtain⟨i,af⟩:∃i,o.putObj (D+1) (.loop {({J .ready none with state:=.busy}:Loop) with state:=if ab.isNone then .ready else .done,pending:=ab})=i:=⟨_,rfl⟩;rw[af] at aF;have m:o.grownBy i (some (D+1)):=by rw[<-af];exact ZO _ _ _
   have ai:i.heap[D+1]?=some (.loop (J (if ab.isNone then .ready else .done) ab)):=by rw[<-af,afv bf,aj]
   refine⟨i,aF,ai,(m.block D (Xa.1 a4).1 (by simp)).trans a4,bc,a9,a5.trans ?_,m.size,m.os,m.tape,m.output,λb d h=>m.block b d (λe=>by cases e;exact a9 h)⟩;refine⟨m.os.trans R.os,m.tape.trans R.tape,m.output.trans R.output,Xu R.size m.size,λb d=>d.imp (R.grows b) id,λb d=>?_,λb d hn=>?_⟩
   ·rcases d with d|d
    ·exact(R.fresh b d).imp Or.inl id
    ·exact .inl (.inr d)
   ·have aP:b≠D+1:=λe=>hn (.inr (.inr e))
    exact(m.block b (XK d R.size) (λe=>by cases e;exact aP rfl)).trans (R.rest b d (λh=>hn (.inl h)))
  rintro e a3 o hp
  cases e with
  |normal=>
   obtain⟨k,aq,Y⟩:=hp;obtain⟨i,U,ai,ap,ak,au,hS,hz,V,Z,X,an⟩:=fin none k o aq
   exact⟨_,_,U,_,hS,.inl ⟨rfl,k,⟨λb=>Iff.rfl,ak,au⟩,hI _ k o i Y hz V Z X (λb d=>an b (aK _ k o Y b d) d),ai,ap⟩⟩
  |ret=>
   obtain⟨k,aq,Y⟩:=hp;obtain⟨i,U,ai,ap,ak,au,hS,hz,V,Z,X,an⟩:=fin (some .ret) k o aq
   exact⟨_,_,U,_,hS,.inr ⟨rfl,k,_,⟨λb=>Iff.rfl,ak,au⟩,aB _ _ k o i Y hz V Z X (λb d=>an b (aE _ _ k o Y b d) d),ai,ap⟩⟩
  |exit id=>
   obtain⟨k,aq,Y⟩:=hp;obtain⟨i,U,ai,ap,ak,au,hS,hz,V,Z,X,an⟩:=fin (some (.exit id)) k o aq
   exact⟨_,_,U,_,hS,.inr ⟨rfl,k,_,⟨λb=>Iff.rfl,ak,au⟩,aB _ _ k o i Y hz V Z X (λb d=>an b (aE _ _ k o Y b d) d),ai,ap⟩⟩
  |goto t=>
   obtain⟨k,aq,Y⟩:=hp;obtain⟨i,U,ai,ap,ak,au,hS,hz,V,Z,X,an⟩:=fin (some (.goto t)) k o aq
   exact⟨_,_,U,_,hS,.inr ⟨rfl,k,_,⟨λb=>Iff.rfl,ak,au⟩,aB _ _ k o i Y hz V Z X (λb d=>an b (aE _ _ k o Y b d) d),ai,ap⟩⟩
  |panic ch=>exact hp.elim
  |outgrown=>exact hp.elim
 ·rw[av];refine⟨λb=>b<D,⟨λb=>by rw[bt];omega,by omega,by omega⟩,?_,bH,bw⟩;exact hI [] _ w N h0 ac.size ac.os ac.tape ac.output (λb d=>ac.block b d)
 ·rintro e u ⟨⟨v,rfl⟩,C,(⟨A,hS,j,s,B,G,H⟩|⟨f,bx,j,c,s,B,G,H⟩)⟩
  all_goals
   rw[av] at s;obtain⟨hO,ay,az⟩:=s;have a8:=(Xa.1 G).1;have U:=run_endLoop (P:=P) G (by rw[aj];simp)
  ·obtain⟨i,af⟩:∃i,u.putObj (D+1) (.loop {J .ready none with state:=.exhausted})=i:=⟨_,rfl⟩;rw[af] at U;have m:u.grownBy i (some (D+1)):=by rw[<-af];exact ZO _ _ _
   have aM:=hI A j u i B m.size m.os m.tape m.output (λb d=>m.block b (aK A j u B b d) (λe=>by cases e;exact az d));have bo:S A j i:=bB A C j i (bb A C u i hS m.size (λb d hn=>m.block b d (λe=>by cases e;exact hn ((hO _).2 (.inr (.inr rfl)))))) (λb d=>(hO b).2 (.inl d))
   exact⟨none,i,by rw[U,aj],a1 A j i bo aM ay ((m.block D (Xa.1 H).1 (by simp)).trans H)⟩
  ·obtain⟨i,af⟩:∃i,u.putObj (D+1) (.loop {J .done (some c) with state:=.exhausted})=i:=⟨_,rfl⟩;rw[af] at U;have m:u.grownBy i (some (D+1)):=by rw[<-af];exact ZO _ _ _
   have aM:=aB c f j u i B m.size m.os m.tape m.output (λb d=>m.block b (aE c f j u B b d) (λe=>by cases e;exact az d))
   exact⟨some c,i,by rw[U,aj],hstop c f j i bx aM ay ((m.block D (Xa.1 H).1 (by simp)).trans H)⟩
end Go.Proofs.YtdcacoifehkioaaGreatDoor
