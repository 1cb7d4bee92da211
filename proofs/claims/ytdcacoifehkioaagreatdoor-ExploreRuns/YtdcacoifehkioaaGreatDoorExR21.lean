import Derived.Test.YtdcacoifehkioaaGreatDoorExR20
import Derived.RangeFuncNested
import Derived.RangeFuncBound
import Derived.RangeFuncCalls
import Derived.RangeFuncLeaves
import Derived.Below
open Go renaming World->Xg,Value->Xj,heap_setCell_same->Xk,heap_setCell_other->XC,Program->Y4,grownBy_putObj'->Zt
open List renaming getElem?_eq_some_iff->Xe,getElem?_map->Xp,take_add_one->YY,getElem?_append_left->Xv,getElem?_append_right->XI,length_append->Xd,map_append->XH,take_of_length_le->XY,getElem?_eq_getElem->Xc,length_map->Xm
open Nat renaming lt_irrefl->ada,sub_self->YO,le_refl->Xf,le_trans->Xu,lt_of_lt_of_le->XF
open Go.World renaming size_alloc->Yj,alloc_heap_new->Xi,putObj_heap_same->ZR
open Array renaming getElem?_eq_some_iff->Xa
set_option linter.unusedVariables false
set_option linter.unusedSimpArgs false
namespace Go.Proofs.YtdcacoifehkioaaGreatDoor
open Go.RowKit Go.Shelf Go.Proofs.Cod
section
variable {w w':Xg} {p:PD} {base fb kb i k:Nat} {R:List Ad} {r:Ad}
def Ad.DT (q o:Ad):Prop:=q.b=o.b/\q.m=o.m/\q.mb=o.mb/\q.fr=o.fr/\q.y=o.y
theorem Ad.DT.refl (q:Ad):q.DT q:=⟨rfl,rfl,rfl,rfl,rfl⟩
theorem Ad.DT.trans {a b c:Ad} (h:a.DT b) (d:b.DT c):a.DT c:=⟨h.1.trans d.1,h.2.1.trans d.2.1,h.2.2.1.trans d.2.2.1,h.2.2.2.1.trans d.2.2.2.1,h.2.2.2.2.trans d.2.2.2.2⟩
theorem Hi (a:R[i]?=some r) (v:Xj) (j:Nat):(R.set i {r with mo:=v})[j]?=if j=i then some {r with mo:=v} else R[j]?:=by
 rw[List.getElem?_set]
 by_cases e:i=j
 ·subst e;rw[if_pos rfl,if_pos rfl,if_pos (Xe.1 a).1]
 ·rw[if_neg e,if_neg (λq=>e q.symm)]
theorem ET (a:R[i]?=some r) (v:Xj) {j:Nat} {q:Ad} (h:(R.set i {r with mo:=v})[j]?=some q):∃o:Ad,R[j]?=some o/\q.DT o/\((j=i/\q.mo=v)\/(j≠i/\q=o)):=by
 rw[Hi a] at h
 by_cases e:j=i
 ·rw[if_pos e] at h
  cases h
  exact⟨r,by rw[e];exact a,Ad.DT.refl _,.inl ⟨e,rfl⟩⟩
 ·rw[if_neg e] at h
  exact⟨q,h,Ad.DT.refl _,.inr ⟨e,rfl⟩⟩
theorem Li (a:R[i]?=some r) (v:Xj) {j:Nat} {o:Ad} (h:R[j]?=some o):∃q,(R.set i {r with mo:=v})[j]?=some q/\q.DT o:=by
 rw[Hi a]
 by_cases e:j=i
 ·rw[if_pos e];subst e;rw[a] at h
  cases h
  exact⟨_,rfl,Ad.DT.refl _⟩
 ·rw[if_neg e]
  exact⟨o,h,Ad.DT.refl _⟩
theorem Lk {α:Type} (f:Ad->α) (a:R[i]?=some r) (v:Xj) (b:f {r with mo:=v}=f r):(R.set i {r with mo:=v}).map f=R.map f:=by
 apply List.ext_getElem?
 intro j;rw[Xp,Xp,Hi a]
 by_cases e:j=i
 ·rw[if_pos e,e,a];show some (f {r with mo:=v})=some (f r);rw[b]
 ·rw[if_neg e]
theorem TQ (a:R[i]?=some r) (v:Xj) (j:Nat):DR (R.set i {r with mo:=v}) j=DR R j:=by
 unfold DR;rw[<-Xp,<-Xp,Lk Ad.b a v rfl]
theorem VT {C:List (List Ac)} {i k k' j:Nat} (m:MS) (h:j≠i):Eh C i k j m=Eh C i k' j m:=by
 unfold Eh
 by_cases e:j<i
 ·rw[if_pos e,if_pos e]
 ·rw[if_neg e,if_neg e,if_neg h,if_neg h]
theorem LN (C:List (List Ac)) (i k:Nat) (m:MS):Eh C i k i m=(AU C m).take k:=by
 unfold Eh;rw[if_neg (ada _),if_pos rfl]
theorem FW.push (h:FW w p base fb kb R i k) (c:R[i]?=some r) {e:Ev} (he:(AU p.C r.m)[k]?=some e) {V:Xg} {f:Xj} (X:Ae (λx=>r.mo.ownBlock=some x) w V) (af:V.ownsRow base 48 4 f ((AU p.C r.m).take k++[e]).length (((AU p.C r.m).take k++[e]).flatMap Dg)) (W:∀x,f.ownBlock=some x->r.mo.ownBlock=some x\/w.heap.size<=x) :
 FW (V.setCell ⟨r.b,4,none⟩ f) p base fb kb (R.set i {r with mo:=f}) i (k+1)/\Ae (λx=>x=r.b\/r.mo.ownBlock=some x) w (V.setCell ⟨r.b,4,none⟩ f):=by
 obtain⟨aH,H,A,aG⟩:=h.kinds;have Q:Ae (λx=>x=r.b\/r.mo.ownBlock=some x) w (V.setCell ⟨r.b,4,none⟩ f):=(X.mono (S':=λx=>x=r.b\/r.mo.ownBlock=some x) λ_ _ q=>.inr q).set (a:=⟨r.b,4,none⟩) (.inl (.inl rfl)) f;refine⟨?_,Q⟩;have aC:CP fb kb R i r.b:=.inr (.inr ⟨i,r,c,.inl rfl⟩);have aq:=h.lt aC;have an:V.heap[r.b]?=w.heap[r.b]?:=X.block r.b aq (λq=>((A i i r r c c).2 _ q).1 rfl);have y:∀x,CP fb kb R i x->x≠r.b->r.mo.ownBlock≠some x->(V.setCell ⟨r.b,4,none⟩ f).heap[x]?=w.heap[x]?:=λx l v F=>Q.block x (h.lt l) (λq=>q.elim v F);generalize U:V.setCell ⟨r.b,4,none⟩ f=V' at y Q |-;have T:(R.set i {r with mo:=f}).length=R.length:=List.length_set ..;have ag:∀x,f.ownBlock=some x->x≠r.b:=λx l e=>by
  rcases W x l with q|q
  ·exact((A i i r r c c).2 x q).1 e
  ·omega
 refine⟨?_,?_,λj q n=>?_,λj q n J=>?_,λj q n=>?_,λj q n aa=>?_,λj q n=>?_,λj D q P n M e=>?_,λj D q P x n M l u=>?_,⟨h.lo.1,h.lo.2.1,λj q n=>?_⟩,λj q n=>?_⟩
 ·obtain⟨r0,rl,h0,v,hF⟩:=h.fo;obtain⟨N,g0,l0⟩:=Li c f h0;obtain⟨ql,gl,ll⟩:=Li c f v;refine⟨N,ql,g0,by rw[T];exact gl,?_⟩;rw[l0.1,ll.1]
  exact(y fb (.inl rfl) (λe=>(H i r c).1 e.symm) (λe=>((H i r c).2.2 _ e).1 rfl)).trans hF
 ·obtain⟨fk,hK,v,F⟩:=h.km;refine⟨fk,?_,v,?_⟩
  ·rw[T];exact hK.same (y kb (.inr (.inl rfl)) (λe=>(H i r c).2.1 e.symm) (λe=>((H i r c).2.2 _ e).2 rfl))
  ·have:EY p (R.set i {r with mo:=f})=EY p R:=Lk (λr=>Aj p r.m) c f rfl;rw[this];exact F
 ·obtain⟨o,d,g,s⟩:=ET c f n;rw[TQ c];have E:=h.st j o d;rw[<-g.1,<-g.2.1,<-g.2.2.1,<-g.2.2.2.1,<-g.2.2.2.2] at E
  rcases s with⟨rfl,z⟩|⟨t,rfl⟩
  ·rw[c] at d
   cases d
   rw[z];rw[g.1] at E |-;rw[<-U];unfold AP at E |-
   exact(Xk V r.b 4 _ _ f (an.trans E)).trans rfl
  ·have nb:q.b≠r.b:=λe=>t (h.ap j i q r d c e);unfold AP at E |-
   exact(y q.b (.inr (.inr ⟨j,q,d,.inl rfl⟩)) nb (λe=>((A j i q r d c).2 _ e).1 rfl)).trans E
 ·obtain⟨o,d,g,s⟩:=ET c f n;rw[g.2.1,g.2.2.1]
  exact(h.ma j o d J).same (y o.mb (.inr (.inr ⟨j,o,d,.inr (.inl ⟨J,rfl⟩)⟩)) (λe=>(A i j r o c d).1 J e.symm) (λe=>((A j i o r d c).2 _ e).2 J rfl))
 ·obtain⟨o,d,g,s⟩:=ET c f n
  rcases s with⟨rfl,z⟩|⟨t,rfl⟩
  ·rw[c] at d
   cases d
   rw[z,g.2.1,LN];have ht:(AU p.C r.m).take (k+1)=(AU p.C r.m).take k++[e]:=by rw[YY,he];rfl
   rw[ht];exact Eu af (λx l=>by rw[<-U];exact XC V ⟨r.b,4,none⟩ x _ (ag x l))
  ·rw[VT q.m t (k':=k)];exact Eu (h.mo j q d) (λx l=>y x (.inr (.inr ⟨j,q,d,.inr (.inr l)⟩)) (((A i j r q c d).2 x l).1) (λe=>t (h.am j i q r x d c l e)))
 ·obtain⟨o,d,g,s⟩:=ET c f n
  rcases s with⟨rfl,z⟩|⟨t,rfl⟩
  ·rcases aa with q|⟨-,q⟩
   ·exact absurd q (ada _)
   ·omega
  ·refine h.mn j q d ?_
   rcases aa with q|⟨q,-⟩
   ·exact .inl q
   ·exact absurd q t
 ·obtain⟨o,d,g,s⟩:=ET c f n;rw[g.2.1];exact h.ok j o d
 ·obtain⟨o,d,g,-⟩:=ET c f n;obtain⟨G,K,ab,-⟩:=ET c f M;exact h.ap j D o G d K (by rw[<-g.1,<-ab.1];exact e)
 ·obtain⟨o,d,g,s⟩:=ET c f n;obtain⟨G,K,ab,Y⟩:=ET c f M;have key:∀j (o:Ad) x,j≠i->R[j]?=some o->o.mo.ownBlock=some x->f.ownBlock=some x->False:=λj o x t d l u=>by
   rcases W x u with q|q
   ·exact t (h.am j i o r x d c l q)
   ·have:=((h.mo j o d).lt x l).2
    omega
  rcases s with⟨I,z⟩|⟨t,I⟩
  ·rcases Y with⟨B,S⟩|⟨Z,B⟩
   ·rw[I,B]
   ·rw[B] at u;rw[z] at l
    exact(key D G x Z K u l).elim
  ·rcases Y with⟨B,S⟩|⟨Z,B⟩
   ·rw[I] at l;rw[S] at u
    exact(key j o x t d l u).elim
   ·rw[I] at l;rw[B] at u;exact h.am j D o G x d K l u
 ·obtain⟨o,d,g,s⟩:=ET c f n;rw[g.1,g.2.2.1];exact h.lo.2.2 j o d
 ·obtain⟨o,d,g,s⟩:=ET c f n
  rcases h.way j o d with⟨N,q1,q2⟩|⟨D,r',hj,aj,v,F,h3⟩
  ·exact .inl ⟨N,g.2.2.2.1.trans q1,g.2.1.trans q2⟩
  ·obtain⟨P,gq,O⟩:=Li c f aj;refine .inr ⟨D,P,hj,gq,?_,?_,?_⟩
   ·rw[g.2.2.2.1,v,O.1]
   ·rw[O.2.1,g.2.2.2.2];exact F
   ·rw[g.2.1,h3,O.2.1,g.2.2.2.2]
theorem FW.more (h:FW w p base fb kb R i k) (Q:R[i]?=some r) {c:Ad} (D:R[R.length - 1]?=some c) {N:Tx->Option Xj} (hU:∀x u,N x=some u->u = .agg #[]) (hK:∀x,(N x).isSome=true↔x∈EY p R) {q mB:Nat} {m:MS} {t:Int} {P:Xj} (az:∀B:Ad,R[0]?=some B->P=Ab B.b)
 (hc:AK p.C r.m t=0) (hm:m=(AO false p.C r.m t).1) (ao:Bt p m) (hq:w.heap.size<=q) (K:AD w mB p m) (av:base<=mB) (aC:base<=w.heap.size)
 (aq:AP w' q (Ab mB) (Aj p m) (AB m) (Bf m) (.slice none 0 0) (Ab r.b) t (.pointer none))
 (aE:AP w' c.b (if R.length - 1<i then .pointer none else Ab c.mb) (Aj p c.m) (AB c.m) (Bf c.m) c.mo (CR c.fr) c.y (Ab q))
 (hF:Dj w' fb P q kb) (ae:Av sk w' kb (Be N (Aj p m) (.agg #[])) (R.length+1)) (Y:Ae (λx=>x=fb\/x=c.b\/x=kb) w w') :
 FW w' p base fb kb (R++[⟨q,m,mB,some r.b,t,.slice none 0 0⟩]) i k:=by
 obtain⟨aJ,G,T,S⟩:=h.kinds;have aw:=(Xe.1 Q).1;have l:∀(j:Nat) (o:Ad),(R++[⟨q,m,mB,some r.b,t,.slice none 0 0⟩])[j]?=some o->(j<R.length/\R[j]?=some o)\/(j=R.length/\o=⟨q,m,mB,some r.b,t,.slice none 0 0⟩):=λj o a=>by
  by_cases e:j<R.length
  ·rw[Xv e] at a;exact .inl ⟨e,a⟩
  ·rw[XI (by omega)] at a
   by_cases X:j=R.length
   ·rw[X,YO] at a
    cases a
    exact .inr ⟨X,rfl⟩
   ·obtain⟨d,hd⟩:∃d,j - R.length=d+1:=⟨j - R.length - 1,by omega⟩;rw[hd] at a
    cases a
 have I:∀(j:Nat) (o:Ad),R[j]?=some o->(R++[⟨q,m,mB,some r.b,t,.slice none 0 0⟩])[j]?=some o:=λj o a=>by
  rw[Xv (Xe.1 a).1];exact a
 have W:(R++[⟨q,m,mB,some r.b,t,.slice none 0 0⟩])[R.length]?=some ⟨q,m,mB,some r.b,t,.slice none 0 0⟩:=by
  rw[XI (Xf _),YO];rfl
 have ah:∀j,j+1<R.length->DR (R++[⟨q,m,mB,some r.b,t,.slice none 0 0⟩]) j=DR R j:=λj n=>by
  unfold DR;rw[Xv n]
 have aD:DR (R++[⟨q,m,mB,some r.b,t,.slice none 0 0⟩]) (R.length - 1)=Ab q:=by
  unfold DR;rw[show R.length - 1+1=R.length by omega,W];rfl
 have ar:DR (R++[⟨q,m,mB,some r.b,t,.slice none 0 0⟩]) R.length = .pointer none:=by
  unfold DR;rw[List.getElem?_eq_none (by rw[Xd];exact Xf _)];rfl
 have J:∀x,CP fb kb R i x->x≠fb->x≠c.b->x≠kb->w'.heap[x]?=w.heap[x]?:=λx f F h2 h3=>Y.block x (h.lt f) (λe=>by rcases e with e|e|e;exact F e;exact h2 e;exact h3 e);have aK:=h.lt (.inr (.inr ⟨_,c,D,.inl rfl⟩):CP fb kb R i c.b);have aM:=h.lt (.inl rfl:CP fb kb R i fb);have aN:=h.lt (.inr (.inl rfl):CP fb kb R i kb);have ay:=K.lt;have M:mB≠fb/\mB≠c.b/\mB≠kb:=by
  obtain⟨cs,g,-⟩:=K;obtain⟨B,aj,-,-,V⟩:=h.fo;obtain⟨aH,⟨es,aG,gK,-⟩,-⟩:=h.km;have O:=h.st _ c D;unfold Dj at V;unfold AP at O;refine⟨λe=>?_,λe=>?_,λe=>?_⟩
  ·rw[e,V] at g;injection g with g
   injection g with _ g
   exact absurd g (by decide)
  ·rw[e,O] at g;injection g with g
   injection g with _ g
   exact absurd g (by decide)
  ·rw[e,gK] at g;cases g
 refine⟨?_,?_,λj o a=>?_,λj o a E=>?_,λj o a=>?_,λj o a aA=>?_,λj o a=>?_,λj s o A a v e=>?_,λj s o A x a v f U=>?_,⟨h.lo.1,h.lo.2.1,λj o a=>?_⟩,λj o a=>?_⟩
 ·obtain⟨B,aj,Z,F,aI⟩:=h.fo;refine⟨B,_,I 0 B Z,by rw[Xd];exact W,?_⟩;rw[<-az B Z];exact hF
 ·refine⟨_,by rw[Xd];exact ae,λx u f=>?_,λx=>?_⟩
  ·unfold Be at f
   by_cases e:x=Aj p m
   ·rw[if_pos e] at f;cases f;rfl
   ·rw[if_neg e] at f;exact hU x u f
  ·have ag:EY p (R++[⟨q,m,mB,some r.b,t,.slice none 0 0⟩])=EY p R++[Aj p m]:=by unfold EY;rw[XH];rfl
   rw[ag,List.mem_append,List.mem_singleton,<-hK x];unfold Be
   by_cases e:x=Aj p m
   ·rw[if_pos e];exact⟨λ_=>.inr e,λ_=>rfl⟩
   ·rw[if_neg e];exact⟨λz=>.inl z,λz=>z.elim id (λz=>absurd z e)⟩
 ·rcases l j o a with⟨n,a⟩|⟨rfl,rfl⟩
  ·by_cases e:j=R.length - 1
   ·subst e;rw[D] at a
    cases a
    rw[aD];exact aE
   ·rw[ah j (by omega)];have hS:=h.st j o a;unfold AP at hS |-
    exact(J o.b (.inr (.inr ⟨j,o,a,.inl rfl⟩)) (G j o a).1 (λz=>e (h.ap j _ o c a D z)) (G j o a).2.1).trans hS
  ·rw[ar,if_neg (by omega)];exact aq
 ·rcases l j o a with⟨n,a⟩|⟨rfl,rfl⟩
  ·exact(h.ma j o a E).same (J o.mb (.inr (.inr ⟨j,o,a,.inr (.inl ⟨E,rfl⟩)⟩)) (S j o a E).1 (λz=>(T _ j c o D a).1 E z.symm) (S j o a E).2)
  ·exact K.same (Y.block mB ay (λz=>by rcases z with z|z|z;exact M.1 z;exact M.2.1 z;exact M.2.2 z))
 ·rcases l j o a with⟨n,a⟩|⟨rfl,rfl⟩
  ·exact Eu (h.mo j o a) (λx f=>J x (.inr (.inr ⟨j,o,a,.inr (.inr f)⟩)) ((G j o a).2.2 x f).1 (((T _ j c o D a).2 x f).1) ((G j o a).2.2 x f).2)
  ·have:Eh p.C i k R.length m=[]:=by unfold Eh;rw[if_neg (by omega),if_neg (by omega)]
   rw[this];exact World.ownsRow_nil w' base 48 4
 ·rcases l j o a with⟨n,a⟩|⟨rfl,rfl⟩
  ·exact h.mn j o a aA
  ·rfl
 ·rcases l j o a with⟨n,a⟩|⟨rfl,rfl⟩
  ·exact h.ok j o a
  ·exact ao
 ·rcases l j o a with⟨n,a⟩|⟨rfl,rfl⟩
  ·have:=h.lt (.inr (.inr ⟨j,o,a,.inl rfl⟩):CP fb kb R i o.b)
   rcases l s A v with⟨H,v⟩|⟨rfl,rfl⟩
   ·exact h.ap j s o A a v e
   ·have e:o.b=q:=e
    omega
  ·rcases l s A v with⟨H,v⟩|⟨rfl,rfl⟩
   ·have:=h.lt (.inr (.inr ⟨s,A,v,.inl rfl⟩):CP fb kb R i A.b);have e:q=A.b:=e
    omega
   ·rfl
 ·rcases l j o a with⟨n,a⟩|⟨rfl,rfl⟩
  ·rcases l s A v with⟨H,v⟩|⟨rfl,rfl⟩
   ·exact h.am j s o A x a v f U
   ·cases U
  ·cases f
 ·rcases l j o a with⟨n,a⟩|⟨rfl,rfl⟩
  ·exact h.lo.2.2 j o a
  ·exact⟨Xu aC hq,av⟩
 ·rcases l j o a with⟨n,a⟩|⟨rfl,rfl⟩
  ·rcases h.way j o a with z|⟨s,r',H,af,F⟩
   ·exact .inl z
   ·exact .inr ⟨s,r',H,I s r' af,F⟩
  ·exact .inr ⟨i,r,aw,I i r Q,rfl,hc,hm⟩
theorem FW.shut (h:FW w p base fb kb R i k) (c:R[i]?=some r) (E:(AU p.C r.m).length<=k):FW (w.setCell ⟨r.b,0,none⟩ (.pointer none)) p base fb kb R (i+1) 0:=by
 obtain⟨J,q,s,H⟩:=h.kinds;have d:∀x,x≠r.b->(w.setCell ⟨r.b,0,none⟩ (.pointer none)).heap[x]?=w.heap[x]?:=λx n=>XC w ⟨r.b,0,none⟩ x _ n;have u:∀j m,(j=i->m=r.m)->Eh p.C (i+1) 0 j m=Eh p.C i k j m:=λj m A=>by
  unfold Eh
  by_cases e:j<i
  ·rw[if_pos e,if_pos (by omega)]
  ·rw[if_neg e]
   by_cases f:j=i
   ·rw[if_pos (by omega),if_pos f,A f,XY E]
   ·rw[if_neg (by omega),if_neg f]
    by_cases t:j=i+1
    ·rw[if_pos t,List.take_zero]
    ·rw[if_neg t]
 refine⟨?_,?_,λj o a=>?_,λj o a K=>(h.ma j o a (by omega)).same (d o.mb (λe=>(s i j r o c a).1 (by omega) e.symm)),λj o a=>?_,λj o a I=>h.mn j o a (.inl (by omega)),h.ok,h.ap,h.am,h.lo,h.way⟩
 ·obtain⟨y,v,G,l,B⟩:=h.fo
  exact⟨y,v,G,l,(d fb (λe=>(q i r c).1 e.symm)).trans B⟩
 ·obtain⟨D,F,l⟩:=h.km
  exact⟨D,F.same (d kb (λe=>(q i r c).2.1 e.symm)),l⟩
 ·have g:=h.st j o a
  by_cases e:j=i
  ·subst e;rw[c] at a
   cases a
   rw[if_neg (ada _)] at g;rw[if_pos (Nat.lt_succ_self _)];unfold AP at g |-
   exact(Xk w r.b 0 _ _ _ g).trans rfl
  ·have f:(j<i+1)=(j<i):=by apply propext;omega
   rw[show (if j<i+1 then Value.pointer none else Ab o.mb)=(if j<i then Value.pointer none else Ab o.mb) by simp only[f]];unfold AP at g |-
   exact(d o.b (λz=>e (h.ap j i o r a c z))).trans g
 ·rw[u j o.m (λe=>by subst e;rw[c] at a;cases a;rfl)];exact Eu (h.mo j o a) (λx n=>d x (((s i j r o c a).2 x n).1))
end
theorem OY {c d nl:Nat} {C:List (List Ac)} {s:MS} (m:IE c d nl C) (h:CG c d nl C s) {t:Int} (n:AK C s t=0):Js s (AO false C s t).1 (AO false C s t).2/\CG c d nl C (AO false C s t).1:=by
 obtain⟨u,rfl,i,g,a,b⟩:=Hy m h n;unfold AO;rw[Int.toNat_natCast];refine⟨Vj (by rw[h.tl];exact i) g (λe=>?_),Lc false h i g a b⟩;have k:(s.th (Ci C u (s.th u)).x.toNat).ph=0:=by
  unfold Cc at a;rw[e] at a;rw[if_neg (by decide),if_neg (by decide),if_pos rfl] at a
  simpa using a
 refine⟨?_,k⟩;rw[h.tl]
 rcases b with l|⟨b,-⟩
 ·rw[l] at e;exact absurd e (by decide)
 ·obtain⟨q,f,j,v,r,y,o,w⟩:=b.ex;have p:=b.x0;rw[j] at e;simp only[AQ,List.mem_cons,List.not_mem_nil,or_false] at f
  rcases f with rfl|rfl|rfl|rfl|rfl|rfl|rfl|rfl|rfl|rfl|rfl|rfl|rfl|rfl|rfl|rfl|rfl<;>first|(have:=o (by decide);omega)|exact absurd e (by decide)
theorem Qs {c:Prop} [Decidable c] {a b:MS×Ev} {t:Int} (e:a.2.t=t) (d:b.2.t=t):(if c then a else b).2.t=t:=by
 by_cases h:c
 ·rw[if_pos h];exact e
 ·rw[if_neg h];exact d
theorem Th (k:Bool) (s:MS) (t:Nat) (x:Ac):(AT k s t x).2.t=t:=by
 unfold AT;dsimp only
 repeat' first|exact Qs rfl rfl|refine Qs ?_ ?_|rfl
theorem aaU {C:List (List Ac)} {s:MS} {t:Int} (h:0<=t):(AO false C s t).2.t=t:=by
 unfold AO;rw[Th]
 omega
theorem aaS {a b nl:Nat} {C:List (List Ac)} {s:MS} (h:CG a b nl C s) (c:C.length<=4):0<=(AB s:Int)/\(AB s:Int)<=4:=by
 have:=List.countP_le_length (p:=λth:TS=>th.ph == 1) (l:=s.thr);rw[h.tl] at this;unfold AB
 omega
theorem Ae.acl {S:Nat->Prop} {B:Nat} {w w':Xg} (h:Ae S w w') (a:∀x,S x->B<=x) (c:B<=w.heap.size):Below B w w':=
 ⟨h.os,h.tape,h.output,h.size,λx b=>h.block x (by omega) (λq=>by have:=a x q;omega)⟩
structure Fo (R R':List Ad) (i Z:Nat):Prop where
 old:∀(j:Nat) (o:Ad),R[j]?=some o->∃q:Ad,R'[j]?=some q/\q.DT o/\(j≠i->q=o)
 new:∀(j:Nat) (q:Ad),R'[j]?=some q->(∃o:Ad,R[j]?=some o)\/(Z<=q.b/\Z<=q.mb/\q.mo = .slice none 0 0)
theorem Fo.refl (R:List Ad) (i Z:Nat):Fo R R i Z:=⟨λ_ o h=>⟨o,h,Ad.DT.refl _,λ_=>rfl⟩,λ_ q h=>.inl ⟨q,h⟩⟩
theorem Fo.set {R R':List Ad} {i Z:Nat} {r:Ad} (h:Fo R R' i Z) (d:i<R.length) (b:R'[i]?=some r) (v:Xj):Fo R (R'.set i {r with mo:=v}) i Z:=by
 refine⟨λj o g=>?_,λj q a=>?_⟩
 ·obtain⟨q,a,c,f⟩:=h.old j o g;rw[Hi b]
  by_cases e:j=i
  ·subst e;rw[if_pos rfl];rw[b] at a
   cases a
   exact⟨_,rfl,c,λz=>absurd rfl z⟩
  ·rw[if_neg e]
   exact⟨q,a,c,f⟩
 ·rw[Hi b] at a
  by_cases e:j=i
  ·subst e;exact .inl ⟨R[j],Xc d⟩
  ·rw[if_neg e] at a;exact h.new j q a
theorem Fo.push {R R':List Ad} {i Z:Nat} (h:Fo R R' i Z) {x:Ad} (f:Z<=x.b/\Z<=x.mb/\x.mo = .slice none 0 0):Fo R (R'++[x]) i Z:=by
 refine⟨λj o k=>?_,λj q a=>?_⟩
 ·obtain⟨q,a,l⟩:=h.old j o k
  exact⟨q,by rw[Xv (Xe.1 a).1];exact a,l⟩
 ·by_cases e:j<R'.length
  ·rw[Xv e] at a;exact h.new j q a
  ·rw[XI (by omega)] at a
   by_cases g:j=R'.length
   ·rw[g,YO] at a
    cases a
    exact .inr f
   ·obtain⟨d,c⟩:∃d,j - R'.length=d+1:=⟨j - R'.length - 1,by omega⟩;rw[c] at a
    cases a
def Sc (fb kb:Nat) (R:List Ad) (x:Nat):Prop:=x=fb\/x=kb\/∃(j:Nat) (q:Ad),R[j]?=some q/\x=q.b
structure LI (w1 wr:Xg) (p:PD) (base fb kb:Nat) (R:List Ad) (i:Nat) (m:MS) (k ks:Nat) (R':List Ad):Prop where
 fw:FW wr p base fb kb R' i k
 ms:R'.map Ad.m=((Dl false p.C m).take ks).foldl (Ds (Aj p)) (R.map Ad.m)
 ext:Fo R R' i w1.heap.size
 mo:∀(q:Ad) (x:Nat),R'[i]?=some q->q.mo.ownBlock=some x->w1.heap.size<=x
 kp:Ae (Sc fb kb R) w1 wr
structure Gz (w w':Xg) (p:PD) (base fb kb:Nat) (R:List Ad) (i:Nat) (m:MS) (R':List Ad):Prop where
 fw:FW w' p base fb kb R' (i+1) 0
 ms:R'.map Ad.m=It (Aj p) (Dl false p.C) (R.map Ad.m) m
 ext:Fo R R' i w.heap.size
 mo:∀(q:Ad) (x:Nat),R'[i]?=some q->q.mo.ownBlock=some x->w.heap.size<=x
 kp:Ae (Sc fb kb R) w w'
theorem LO (C:List (List Ac)) (m:MS):(AU C m).length=(Bj C m).length:=by unfold AU;rw[Xm]
theorem VU {C:List (List Ac)} {m:MS} {k:Nat} {t:Int} (h:(Bj C m)[k]?=some t):(AU C m)[k]?=some (AO false C m t).2:=by unfold AU;rw[Xp,h];rfl
theorem Tg {C:List (List Ac)} {m:MS} {k:Nat} {t:Int} (h:(Bj C m)[k]?=some t):(Dl false C m).take (k+1)=(Dl false C m).take k++[(AO false C m t).1]:=by
 rw[YY];unfold Dl;rw[Xp,h];rfl
section
variable {w1 V V6:Xg} {p:PD} {base fb kb:Nat} {R R':List Ad} {i k ks:Nat} {r:Ad} {t:Int}
theorem LI.below (h:LI w1 V p base fb kb R i r.m k ks R') (a:Below V.heap.size V V6):LI w1 V6 p base fb kb R i r.m k ks R':=⟨h.fw.below a,h.ms,h.ext,h.mo,h.kp.trans (Ae.CK a)⟩
theorem LI.push (h:LI w1 V p base fb kb R i r.m k ks R') (a:R'[i]?=some r) (f:i<R.length) {e:Ev} (o:(AU p.C r.m)[k]?=some e) {g:Xg} {c:Xj} (t:Ae (λx=>r.mo.ownBlock=some x) V g) (v:g.ownsRow base 48 4 c ((AU p.C r.m).take k++[e]).length (((AU p.C r.m).take k++[e]).flatMap Dg)) (n:∀x,c.ownBlock=some x->r.mo.ownBlock=some x\/V.heap.size<=x) :
 LI w1 (g.setCell ⟨r.b,4,none⟩ c) p base fb kb R i r.m (k+1) ks (R'.set i {r with mo:=c}):=by
 obtain⟨s,u⟩:=h.fw.push a o t v n;refine⟨s,by rw[Lk Ad.m a c rfl];exact h.ms,h.ext.set f a c,λq x d l=>?_,h.kp.then u (λx l j=>?_)⟩
 ·rw[Hi a,if_pos rfl] at d
  cases d
  rcases n x l with z|z
  ·exact h.mo r x a z
  ·exact Xu h.kp.size z
 ·rcases j with rfl|j
  ·obtain⟨q,d,w,-⟩:=h.ext.old i R[i] (Xc f);rw[a] at d
   cases d
   exact .inr (.inr ⟨i,R[i],Xc f,w.1⟩)
  ·have:=h.mo r x a j
   omega
theorem LI.add (h:LI w1 V p base fb kb R i r.m k ks R') (S:BL p) (d:R'[i]?=some r) (H:(Bj p.C r.m)[ks]?=some t) (ah:base<=w1.heap.size) {a B:Ad} (f:R'[R'.length - 1]?=some a) (h0:R'[0]?=some B) {l:Tx->Option Xj} (P:∀x u,l x=some u->u = .agg #[]) (s:∀x,(l x).isSome=true↔x∈EY p R') {mB:Nat} (M:AD V mB p (AO false p.C r.m t).1) (T:w1.heap.size<=mB)
 (N:KT V V6 fb a.b kb r.b mB (Ab B.b) l R'.length (Aj p (AO false p.C r.m t).1) (AB r.m) (Bf r.m) (if R'.length - 1<i then .pointer none else Ab a.mb) a.mo (CR a.fr) (Aj p a.m) (AB a.m) a.y (Bf a.m) (AO false p.C r.m t).2):∃U,LI w1 V6 p base fb kb R i r.m k (ks+1) U:=by
 have g:=Lw (List.mem_of_getElem? H);obtain⟨A,W⟩:=OY S.fit (h.fw.ok i r d) g;have w:((Dl false p.C r.m).take (ks+1)).foldl (Ds (Aj p)) (R.map Ad.m)=Ds (Aj p) (R'.map Ad.m) (AO false p.C r.m t).1:=by
  rw[Tg H,List.foldl_append,<-h.ms];rfl
 have v:(R'.map Ad.m).map (Aj p)=EY p R':=by rw[List.map_map];rfl
 rcases N with⟨n,I⟩|⟨n,q,K,j,ad,X,O,F⟩
 ·refine⟨R',h.fw.below I,?_,h.ext,h.mo,h.kp.trans (Ae.CK I)⟩;rw[w];unfold Ds;rw[v,if_pos ((s _).1 n)]
 ·have Y:Aj p (AO false p.C r.m t).1∉EY p R':=λe=>by
   have:=(s _).2 e;rw[n] at this
   cases this
  have Q:(AB (AO false p.C r.m t).1:Int)=Fb (AB r.m) (AO false p.C r.m t).2.k:=A.going;have Z:=A.failed;rw[<-Q,<-Z] at j;have ae:0<=t:=by obtain⟨u,rfl,-⟩:=RA g;omega
  rw[aaU ae] at j;have hz:=h.kp.size;refine⟨_,h.fw.more d f P s (λaf D=>by rw[h0] at D;cases D;rfl) g rfl W K M (by omega) (by omega) j ad X O F,?_,h.ext.push ⟨by show _<=q;omega,T,rfl⟩,λE x c G=>?_,h.kp.then F (λx G hS=>?_)⟩
  ·rw[w,XH];unfold Ds;rw[v,if_neg Y]
   rfl
  ·rw[Xv (Xe.1 d).1] at c;exact h.mo E x c G
  ·rcases hS with e|e|e
   ·exact .inl e
   ·rcases h.ext.new _ a f with⟨o,J⟩|z
    ·obtain⟨E,c,ab,-⟩:=h.ext.old _ o J;rw[f] at c
     cases c
     exact .inr (.inr ⟨_,o,J,e.trans ab.1⟩)
    ·omega
   ·exact .inr (.inl e)
theorem LI.done (h:LI w1 V p base fb kb R i r.m k ks R') (f:R'[i]?=some r) (g:i<R.length) (s:(Bj p.C r.m).length<=k) (o:(Bj p.C r.m).length<=ks) {w:Xg} (d:Below w.heap.size w w1):Gz w (V.setCell ⟨r.b,0,none⟩ (.pointer none)) p base fb kb R i r.m R':=by
 have l:=d.size;refine⟨h.fw.shut f (by rw[LO];exact s),?_,⟨h.ext.old,λj q c=>(h.ext.new j q c).imp id λz=>⟨by omega,by omega,z.2.2⟩⟩,λq x c n=>Xu l (h.mo q x c n),?_⟩
 ·rw[h.ms];unfold It;have e:(Dl false p.C r.m).take ks=Dl false p.C r.m:=XY (by unfold Dl;rw[Xm];exact o);rw[e]
 ·refine((Ae.CK d).trans (h.kp.mono λ_ _ z=>z)).set (a:=⟨r.b,0,none⟩) (.inl ?_) _;obtain⟨q,c,t,-⟩:=h.ext.old i R[i] (Xc g);rw[f] at c
  cases c
  exact .inr (.inr ⟨i,R[i],Xc g,t.1⟩)
end
end Go.Proofs.YtdcacoifehkioaaGreatDoor
namespace Go.Proofs.YtdcacoifehkioaaGreatDoor
open Go.RowKit
abbrev AF:=Nat->Prop
structure Steps (O:AF) (W:Xg) (O':AF) (W':Xg):Prop where
 os:W'.os=W.os
 tape:W'.tape=W.tape
 output:W'.output=W.output
 size:W.heap.size<=W'.heap.size
 grows:∀b,O b->O' b
 fresh:∀b,O' b->O b\/W.heap.size<=b
 rest:∀b,b<W.heap.size->¬O b->W'.heap[b]?=W.heap[b]?
theorem Steps.refl (O:AF) (W:Xg):Steps O W O W:=⟨rfl,rfl,rfl,Xf _,λ_ h=>h,λ_ h=>.inl h,λ_ _ _=>rfl⟩
theorem Steps.trans {O d e:AF} {W i f:Xg} (h:Steps O W d i) (k:Steps d i e f):Steps O W e f:=
 ⟨k.os.trans h.os,k.tape.trans h.tape,k.output.trans h.output,Xu h.size k.size,λb a=>k.grows b (h.grows b a),
  λb a=>(k.fresh b a).elim (h.fresh b) (λc=>.inr (Xu h.size c)),
  λb a g=>(k.rest b (XF a h.size) (λj=>(h.fresh b j).elim g (λc=>by omega))).trans (h.rest b a g)⟩
def FK {β:Type} (J:β->AF->Xg->Prop):Prop:=
 ∀s O W W',J s O W->W.heap.size<=W'.heap.size->W'.os=W.os->W'.tape=W.tape->W'.output=W.output->(∀b,O b->W'.heap[b]?=W.heap[b]?)->J s O W'
def Hv {α:Type} (I:List α->AF->Xg->Prop) (Ix:Code->List α->AF->Xg->Prop) (xs:List α) (O:AF) (W:Xg):Exit->Act->Xg->Prop
 |.normal,_,W'=>∃O',Steps O W O' W'/\I xs O' W'
 |.ret,_,W'=>∃O',Steps O W O' W'/\Ix .ret xs O' W'
 |.exit id,_,W'=>∃O',Steps O W O' W'/\Ix (.exit id) xs O' W'
 |.goto t,_,W'=>∃O',Steps O W O' W'/\Ix (.goto t) xs O' W'
 |.panic _,_,_=>False
 |.outgrown,_,_=>False
variable {F:Fence} {n:Nat} {P:Y4}
def Ia {α:Type} (F:Fence) (n:Nat) (P:Y4) (g:Nat) (lb:Array Xj) (encs:α->Array Xj) (Base:AF) (E:List α->α->AF->Xg->Prop) (S:List α->AF->Xg->Prop) (Sp:List α->Prop) (w:Xg):Prop:=
 ∀(l:Nat) (J Jx:List α->AF->Xg->Prop) (W:Xg),Below w.heap.size w W->FK J->FK Jx->(∀pre O W1,J pre O W1->∀b,O b->b<W1.heap.size)->
  (∀pre O W1,J pre O W1->∀b,Base b->O b/\W1.heap[b]?=W.heap[b]?)->
  (∀pre x O W1,J pre O W1->E pre x O W1->YieldAt F (n - 1) P l (encs x) W1 λe W'=>∃O',Steps O W1 O' W'/\
    ((e = .returned (.bool true)/\J (pre++[x]) O' W')\/(e = .returned (.bool false)/\Jx (pre++[x]) O' W')))->
  J [] (λb=>b<W.heap.size) W->
  CallsIn F n P g (#[.func (.yield l) #[] #[]]++lb) W λe W'=>(∃v,e = .returned v)/\∃O',((∃xs,S xs O' W'/\J xs O' W')\/(∃pre,Sp pre/\Jx pre O' W'))
variable {F:Fence} {n:Nat} {P:Y4}
theorem Ni {α:Type} {g:Operand} {ps:Array Tmp} {assign body:Code} {Q:Exit->Act->Xg->Prop} {a:Act} {w:Xg}
 (bf:F.round=none) (h1:1<=n) {gf:Nat} {lb:Array Xj} (hg:a.eval g = .func (.func gf) #[] lb) (bB:F.fn gf) (eg:∀args w,(callFunc gf args).run P w = .ok (.enter gf args) w)
 {aH:α->Array Xj} {aL:AF} {E:List α->α->AF->Xg->Prop} {S:List α->AF->Xg->Prop} {Sp:List α->Prop} {w0:Xg} (bd:Ia F (n - 1) P gf lb aH aL E S Sp w0) (aU:Below w0.heap.size w0 w) (bH:∀x,(aH x).size=ps.size)
 (hE:∀f x O W C A,E f x O W->Steps O W C A->E f x C A) (hEa:∀f x (O C:AF) W,E f x O W->(∀b,C b->O b)->E f x C W)
 (bC:∀z (O:AF) W A,S z O W->W.heap.size<=A.heap.size->(∀b,b<W.heap.size->¬O b->A.heap[b]?=W.heap[b]?)->S z O A) (bg:∀z (O C:AF) W,S z O W->(∀b,C b->O b)->S z C W)
 (I:List α->AF->Xg->Prop) (Ix:Code->List α->AF->Xg->Prop) (hI:FK I) (az:∀c,FK (Ix c)) (aF:∀f O W,I f O W->∀b,O b->b<W.heap.size) (aE:∀c f O W,Ix c f O W->∀b,O b->b<W.heap.size)
 (be:∀f O W,I f O W->∀b,aL b->O b/\W.heap[b]?=w.heap[b]?) (aT:∀b,aL b->b<w.heap.size) (h0:I [] (λb=>b<w.heap.size) w)
 (Ax:List α->α->Act->AF->Xg->Prop) (bE:∀f x V,FK (fun(_:Unit)=>Ax f x V))
 (bF:∀(l:Nat) (f:List α) (x:α) (O:AF) (W:Xg) (K:Act->Xg->Prop),I f O W->E f x O W->(∀V C A,Steps O W C A->I f C A->Ax f x V C A->K V A)->
   assign.wpIn (F.inRound l) (n - 1 - 1) P (Exit.then K (λ_ _ _=>False)) {tmps:=(ps.zip (aH x)).foldl (λt (p,v)=>t.setIfInBounds p v) a.tmps,defers:=[]} W)
 (bc:∀(l:Nat) (f:List α) (x:α) (V:Act) (O:AF) (W:Xg),(∃r,W.heap[l]?=some (.loop r))->¬O l->I f O W->E f x O W->Ax f x V O W->body.wpIn (F.inRound l) (n - 1 - 1) P (Hv I Ix (f++[x]) O W) V W)
 (aY:∀(z:List α) (O:AF) (W:Xg),S z O W->I z O W->¬O w.heap.size->W.heap[w.heap.size]?=some (.deferred (some []))->Q .normal {a with defers:={target:=.collected w.heap.size,args := #[]}::a.defers} W)
 (aS:∀(c:Code) (f:List α) (O:AF) (W:Xg),Sp f->Ix c f O W->¬O w.heap.size->W.heap[w.heap.size]?=some (.deferred (some []))->c.wpIn F n P Q {a with defers:={target:=.collected w.heap.size,args := #[]}::a.defers} W) :
 (Code.rangeFunc g ps assign body).wpIn F n P Q a w:=by
 refine wpIn_rangeFunc λfn bw=>?_;rw[bf];obtain⟨D,hD⟩:∃D,w.heap.size=D:=⟨_,rfl⟩;obtain⟨J,ai⟩:∃J:LoopState->Option Code->Loop,J=λst pe=>{state:=st,pending:=pe,fn,tmps:=a.tmps,params:=ps,assign,body,defers:=D}:=⟨_,rfl⟩;obtain⟨U,ax⟩:∃U,(w.alloc (.deferred (some []))).alloc (.loop (J .ready none))=U:=⟨_,rfl⟩;have bh:U.heap.size=D+2:=by rw[<-ax,Yj,Yj,hD]
 have bA:U.heap[D+1]?=some (.loop (J .ready none)):=by
  rw[<-ax,<-hD];have:=Xi (w.alloc (.deferred (some []))) (.loop (J .ready none));rwa [Yj] at this
 have bq:U.heap[D]?=some (.deferred (some [])):=by
  rw[<-ax,<-hD];exact(Below.heap_alloc _ _ _ (by simp)).trans (Xi w _)
 have af:Below w.heap.size w U:=by rw[<-ax];exact((Below.refl _ w).alloc (Xf _) _).alloc (by simp) _
 have aJ:(Instr.enterLoop fn a.tmps ps assign body none).run P w = .ok (D+1,[{target:=.collected D,args := #[]}]) U:=by
  rw[run_enterLoop_outer,<-ax,ai,hD]
 refine⟨D+1,[{target:=.collected D,args := #[]}],U,{target:=.fn (.func gf) lb,args := #[.func (.yield (D+1)) #[] #[]]},U,gf,#[.func (.yield (D+1)) #[] #[]]++lb,U,aJ,?_,?_,?_,λ_=>h1,?_⟩
 ·simp only[resolve,hg];simp[go_sem]
 ·intro f' aW;simp[Target.leads] at aW;subst aW;exact bB
 ·simp[invoke,go_sem,eg]
 rw[hD] at h0 aY aS af aT;obtain⟨Fj,aj⟩:∃Fj:AF->AF->Prop,Fj=λj O=>(∀b,O b↔(j b\/b=D\/b=D+1))/\¬j D/\¬j (D+1):=⟨_,rfl⟩;refine(bd (D+1)
  (λf O W=>∃j,Fj j O/\I f j W/\W.heap[D+1]?=some (.loop (J .ready none))/\W.heap[D]?=some (.deferred (some [])))
  (λf O W=>∃j c,Fj j O/\Ix c f j W/\W.heap[D+1]?=some (.loop (J .done (some c)))/\W.heap[D]?=some (.deferred (some [])))
  U (aU.trans (by rw[<-hD] at af;exact af.mono aU.size)) ?_ ?_ ?_ ?_ ?_ ?_).mono ?_
 ·rintro f O W A ⟨j,s,B,H,G⟩ aO ho X Z ap;have ac:=s;rw[aj] at ac
  exact⟨j,s,hI f j W A B aO ho X Z (λb d=>ap b ((ac.1 b).2 (.inl d))),(ap _ ((ac.1 _).2 (.inr (.inr rfl)))).trans H,(ap _ ((ac.1 _).2 (.inr (.inl rfl)))).trans G⟩
 ·rintro f O W A ⟨j,c,s,B,H,G⟩ aO ho X Z ap;have ac:=s;rw[aj] at ac
  exact⟨j,c,s,az c f j W A B aO ho X Z (λb d=>ap b ((ac.1 b).2 (.inl d))),(ap _ ((ac.1 _).2 (.inr (.inr rfl)))).trans H,(ap _ ((ac.1 _).2 (.inr (.inl rfl)))).trans G⟩
 ·rintro f O W ⟨j,s,B,H,G⟩ b d;rw[aj] at s
  rcases (s.1 b).1 d with h|rfl|rfl
  ·exact aF f j W B b h
  ·exact(Xa.1 G).1
  ·exact(Xa.1 H).1
 ·rintro f O W ⟨j,s,B,H,G⟩ b d;rw[aj] at s;obtain⟨h2,h3⟩:=be f j W B b d
  exact⟨(s.1 b).2 (.inl h2),h3.trans (af.block b (aT b d)).symm⟩
 ·
  rintro f x O W ⟨j,s,B,H,G⟩ he;rw[aj] at s |-;obtain⟨hO,aB,aA⟩:=s;have a1:D+1<W.heap.size:=(Xa.1 H).1;have hy:=run_yield (P:=P) (args:=aH x) H (by rw[ai];exact bH x);rw[ai] at hy;refine⟨fn,_,assign,body,hy,roundIn_of_wpIn bw (bF _ f x j W _ B (hEa f x O j W he (λb d=>(hO b).2 (.inl d))) ?_)⟩;clear hy;intro V M u T aV bi;have a7:=(T.rest (D+1) a1 aA).trans H;have a6:=(T.rest D (by omega) aB).trans G;have aD:¬M (D+1):=λh=>(T.fresh _ h).elim aA (λh=>by omega);have a9:¬M D:=λh=>(T.fresh _ h).elim aB (λh=>by omega);refine⟨_,run_beginRound a7 (by rw[ai]),?_⟩;obtain⟨q,aI⟩:∃q,u.putObj (D+1) (.loop {J .ready none with state:=.busy})=q:=⟨_,rfl⟩;have y:u.grownBy q (some (D+1)):=by rw[<-aI];exact Zt _ _ _
  have bI:q.heap.size=u.heap.size:=by rw[<-aI];simp[World.putObj]
  have aN:q.heap[D+1]?=some (.loop {J .ready none with state:=.busy}):=by rw[<-aI];exact ZR (Xa.1 a7).1
  have a4:∀b,M b->q.heap[b]?=u.heap[b]?:=λb d=>y.block b (aF f M u aV b d) (λe=>by cases e;exact aD d);have bD:q.heap[D]?=some (.deferred (some [])):=(y.block D (Xa.1 a6).1 (by simp)).trans a6;rw[aI];have bn:I f M q:=hI f M u q aV y.size y.os y.tape y.output a4;have bk:Ax f x V M q:=bE f x V () M u q bi y.size y.os y.tape y.output a4;have a0:Steps O W (λb=>M b\/b=D\/b=D+1) q:=by
   refine⟨y.os.trans T.os,y.tape.trans T.tape,y.output.trans T.output,Xu T.size y.size,λb d=>((hO b).1 d).imp (T.grows b) id,λb d=>?_,λb d hn=>?_⟩
   ·rcases d with d|d
    ·exact(T.fresh b d).imp (λh=>(hO b).2 (.inl h)) id
    ·exact .inl ((hO b).2 (.inr d))
   ·have aK:b≠D+1:=λe=>hn ((hO b).2 (.inr (.inr e)))
    exact(y.block b (XF d T.size) (λe=>by cases e;exact aK rfl)).trans (T.rest b d (λh=>hn ((hO b).2 (.inl h))))
  have bj:E f x M q:=hEa f x _ M q (hE f x O W _ q he a0) (λb d=>.inl d);refine wpIn_mono (bc _ f x V M q ⟨_,aN⟩ aD bn bj bk) ?_;have bp:D+1<q.heap.size:=(Xa.1 aN).1;have fin:∀(ab:Option Code) (k:AF) (o:Xg),Steps M q k o->∃i,(Instr.endRound (D+1) ab).run P o = .ok (.bool ab.isNone) i/\
   i.heap[D+1]?=some (.loop (J (if ab.isNone then .ready else .done) ab))/\i.heap[D]?=some (.deferred (some []))/\¬k D/\¬k (D+1)/\Steps O W (λb=>k b\/b=D\/b=D+1) i/\
   o.heap.size<=i.heap.size/\i.os=o.os/\i.tape=o.tape/\i.output=o.output/\(∀b,b<o.heap.size->k b->i.heap[b]?=o.heap[b]?):=λab k o N=>by
   have a2:=(N.rest (D+1) bp aD).trans aN;have aX:=(N.rest D (by omega) a9).trans bD;have ba:=(Xa.1 a2).1;have aR:¬k (D+1):=λh=>(N.fresh _ h).elim aD (λh=>by omega);have bz:¬k D:=λh=>(N.fresh _ h).elim a9 (λh=>by omega);have aJ:=run_endRound (P:=P) ab a2;obtain⟨i,ag⟩:∃i,o.putObj (D+1) (.loop {({J .ready none with state:=.busy}:Loop) with state:=if ab.isNone then .ready else .done,pending:=ab})=i:=⟨_,rfl⟩;rw[ag] at aJ;have m:o.grownBy i (some (D+1)):=by rw[<-ag];exact Zt _ _ _
   have ad:i.heap[D+1]?=some (.loop (J (if ab.isNone then .ready else .done) ab)):=by rw[<-ag,ZR ba,ai]
   refine⟨i,aJ,ad,(m.block D (Xa.1 aX).1 (by simp)).trans aX,bz,aR,a0.trans ?_,m.size,m.os,m.tape,m.output,λb d h=>m.block b d (λe=>by cases e;exact aR h)⟩;refine⟨m.os.trans N.os,m.tape.trans N.tape,m.output.trans N.output,Xu N.size m.size,λb d=>d.imp (N.grows b) id,λb d=>?_,λb d hn=>?_⟩
   ·rcases d with d|d
    ·exact(N.fresh b d).imp Or.inl id
    ·exact .inl (.inr d)
   ·have aK:b≠D+1:=λe=>hn (.inr (.inr e))
    exact(m.block b (XF d N.size) (λe=>by cases e;exact aK rfl)).trans (N.rest b d (λh=>hn (.inl h)))
  rintro e a3 o hp
  cases e with
  |normal=>
   obtain⟨k,ao,Y⟩:=hp;obtain⟨i,R,ad,au,aq,ak,hS,hz,ho,X,Z,an⟩:=fin none k o ao
   exact⟨_,_,R,_,hS,.inl ⟨rfl,k,⟨λb=>Iff.rfl,aq,ak⟩,hI _ k o i Y hz ho X Z (λb d=>an b (aF _ k o Y b d) d),ad,au⟩⟩
  |ret=>
   obtain⟨k,ao,Y⟩:=hp;obtain⟨i,R,ad,au,aq,ak,hS,hz,ho,X,Z,an⟩:=fin (some .ret) k o ao
   exact⟨_,_,R,_,hS,.inr ⟨rfl,k,_,⟨λb=>Iff.rfl,aq,ak⟩,az _ _ k o i Y hz ho X Z (λb d=>an b (aE _ _ k o Y b d) d),ad,au⟩⟩
  |exit id=>
   obtain⟨k,ao,Y⟩:=hp;obtain⟨i,R,ad,au,aq,ak,hS,hz,ho,X,Z,an⟩:=fin (some (.exit id)) k o ao
   exact⟨_,_,R,_,hS,.inr ⟨rfl,k,_,⟨λb=>Iff.rfl,aq,ak⟩,az _ _ k o i Y hz ho X Z (λb d=>an b (aE _ _ k o Y b d) d),ad,au⟩⟩
  |goto t=>
   obtain⟨k,ao,Y⟩:=hp;obtain⟨i,R,ad,au,aq,ak,hS,hz,ho,X,Z,an⟩:=fin (some (.goto t)) k o ao
   exact⟨_,_,R,_,hS,.inr ⟨rfl,k,_,⟨λb=>Iff.rfl,aq,ak⟩,az _ _ k o i Y hz ho X Z (λb d=>an b (aE _ _ k o Y b d) d),ad,au⟩⟩
  |panic ch=>exact hp.elim
  |outgrown=>exact hp.elim
 ·rw[aj];refine⟨λb=>b<D,⟨λb=>by rw[bh];omega,by omega,by omega⟩,?_,bA,bq⟩;exact hI [] _ w U h0 af.size af.os af.tape af.output (λb d=>af.block b d)
 ·rintro e u ⟨⟨v,rfl⟩,C,(⟨z,hS,j,s,B,H,G⟩|⟨f,bo,j,c,s,B,H,G⟩)⟩
  all_goals
   rw[aj] at s;obtain⟨hO,aB,aA⟩:=s;have a1:=(Xa.1 H).1;have R:=run_endLoop (P:=P) H (by rw[ai];simp)
  ·obtain⟨i,ag⟩:∃i,u.putObj (D+1) (.loop {J .ready none with state:=.exhausted})=i:=⟨_,rfl⟩;rw[ag] at R;have m:u.grownBy i (some (D+1)):=by rw[<-ag];exact Zt _ _ _
   have aQ:=hI z j u i B m.size m.os m.tape m.output (λb d=>m.block b (aF z j u B b d) (λe=>by cases e;exact aA d));have bb:S z j i:=bg z C j i (bC z C u i hS m.size (λb d hn=>m.block b d (λe=>by cases e;exact hn ((hO _).2 (.inr (.inr rfl)))))) (λb d=>(hO b).2 (.inl d))
   exact⟨none,i,by rw[R,ai],aY z j i bb aQ aB ((m.block D (Xa.1 G).1 (by simp)).trans G)⟩
  ·obtain⟨i,ag⟩:∃i,u.putObj (D+1) (.loop {J .done (some c) with state:=.exhausted})=i:=⟨_,rfl⟩;rw[ag] at R;have m:u.grownBy i (some (D+1)):=by rw[<-ag];exact Zt _ _ _
   have aQ:=az c f j u i B m.size m.os m.tape m.output (λb d=>m.block b (aE c f j u B b d) (λe=>by cases e;exact aA d))
   exact⟨some c,i,by rw[R,ai],aS c f j i bo aQ aB ((m.block D (Xa.1 G).1 (by simp)).trans G)⟩
end Go.Proofs.YtdcacoifehkioaaGreatDoor
