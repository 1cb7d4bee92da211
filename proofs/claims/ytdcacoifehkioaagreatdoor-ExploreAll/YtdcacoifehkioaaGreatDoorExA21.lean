import Derived.Test.YtdcacoifehkioaaGreatDoorExA20
import Derived.RangeFuncNested
import Derived.RangeFuncBound
import Derived.RangeFuncCalls
import Derived.RangeFuncLeaves
import Derived.Below
open Go renaming World->Xh,Value->Xk,heap_setCell_same->Xj,heap_setCell_other->Xt,Program->Zk,grownBy_putObj'->ZM
open List renaming getElem?_eq_some_iff->Xf,getElem?_map->Xs,take_add_one->Yo,getElem?_append_left->XC,getElem?_append_right->XK,length_append->Xb,map_append->XH,take_of_length_le->XQ,getElem?_eq_getElem->Xe,length_map->Xp
open Nat renaming lt_irrefl->aft,sub_self->YR,le_refl->Xd,le_trans->Xu,lt_of_lt_of_le->XF
open Go.World renaming size_alloc->Yq,alloc_heap_new->Xi,putObj_heap_same->afh
open Array renaming getElem?_eq_some_iff->Xa
set_option linter.unusedVariables false
set_option linter.unusedSimpArgs false
namespace Go.Proofs.YtdcacoifehkioaaGreatDoor
open Go.RowKit Go.Shelf Go.Proofs.Cod
section
variable {w w':Xh} {p:PD} {base fb kb i k:Nat} {R:List Ag} {r:Ag}
def Ag.Fg (q o:Ag):Prop:=q.b=o.b/\q.m=o.m/\q.mb=o.mb/\q.fr=o.fr/\q.y=o.y
theorem Ag.Fg.refl (q:Ag):q.Fg q:=⟨rfl,rfl,rfl,rfl,rfl⟩
theorem Ag.Fg.trans {a b c:Ag} (h:a.Fg b) (d:b.Fg c):a.Fg c:=⟨h.1.trans d.1,h.2.1.trans d.2.1,h.2.2.1.trans d.2.2.1,h.2.2.2.1.trans d.2.2.2.1,h.2.2.2.2.trans d.2.2.2.2⟩
theorem IE (a:R[i]?=some r) (v:Xk) (j:Nat):(R.set i {r with mo:=v})[j]?=if j=i then some {r with mo:=v} else R[j]?:=by
 rw[List.getElem?_set]
 by_cases e:i=j
 ·subst e;rw[if_pos rfl,if_pos rfl,if_pos (Xf.1 a).1]
 ·rw[if_neg e,if_neg (λq=>e q.symm)]
theorem FX (a:R[i]?=some r) (v:Xk) {j:Nat} {q:Ag} (h:(R.set i {r with mo:=v})[j]?=some q):∃o:Ag,R[j]?=some o/\q.Fg o/\((j=i/\q.mo=v)\/(j≠i/\q=o)):=by
 rw[IE a] at h
 by_cases e:j=i
 ·rw[if_pos e] at h
  cases h
  exact⟨r,by rw[e];exact a,Ag.Fg.refl _,.inl ⟨e,rfl⟩⟩
 ·rw[if_neg e] at h
  exact⟨q,h,Ag.Fg.refl _,.inr ⟨e,rfl⟩⟩
theorem Mz (a:R[i]?=some r) (v:Xk) {j:Nat} {o:Ag} (h:R[j]?=some o):∃q,(R.set i {r with mo:=v})[j]?=some q/\q.Fg o:=by
 rw[IE a]
 by_cases e:j=i
 ·rw[if_pos e];subst e;rw[a] at h
  cases h
  exact⟨_,rfl,Ag.Fg.refl _⟩
 ·rw[if_neg e]
  exact⟨o,h,Ag.Fg.refl _⟩
theorem MB {α:Type} (f:Ag->α) (a:R[i]?=some r) (v:Xk) (b:f {r with mo:=v}=f r):(R.set i {r with mo:=v}).map f=R.map f:=by
 apply List.ext_getElem?
 intro j;rw[Xs,Xs,IE a]
 by_cases e:j=i
 ·rw[if_pos e,e,a];show some (f {r with mo:=v})=some (f r);rw[b]
 ·rw[if_neg e]
theorem VQ (a:R[i]?=some r) (v:Xk) (j:Nat):Fe (R.set i {r with mo:=v}) j=Fe R j:=by
 unfold Fe;rw[<-Xs,<-Xs,MB Ag.b a v rfl]
theorem abj {C:List (List Ad)} {i k k' j:Nat} (m:MS) (h:j≠i):Fx C i k j m=Fx C i k' j m:=by
 unfold Fx
 by_cases e:j<i
 ·rw[if_pos e,if_pos e]
 ·rw[if_neg e,if_neg e,if_neg h,if_neg h]
theorem Nd (C:List (List Ad)) (i k:Nat) (m:MS):Fx C i k i m=(Bh C m).take k:=by
 unfold Fx;rw[if_neg (aft _),if_pos rfl]
theorem FW.push (h:FW w p base fb kb R i k) (c:R[i]?=some r) {e:Ev} (he:(Bh p.C r.m)[k]?=some e) {V:Xh} {nv:Xk} (Z:Ac (λx=>r.mo.ownBlock=some x) w V) (aA:V.ownsRow base 48 4 nv ((Bh p.C r.m).take k++[e]).length (((Bh p.C r.m).take k++[e]).flatMap Eb)) (W:∀x,nv.ownBlock=some x->r.mo.ownBlock=some x\/w.heap.size<=x) :
 FW (V.setCell ⟨r.b,4,none⟩ nv) p base fb kb (R.set i {r with mo:=nv}) i (k+1)/\Ac (λx=>x=r.b\/r.mo.ownBlock=some x) w (V.setCell ⟨r.b,4,none⟩ nv):=by
 obtain⟨aH,G,v,aF⟩:=h.kinds;have O:Ac (λx=>x=r.b\/r.mo.ownBlock=some x) w (V.setCell ⟨r.b,4,none⟩ nv):=(Z.mono (S':=λx=>x=r.b\/r.mo.ownBlock=some x) λ_ _ q=>.inr q).set (a:=⟨r.b,4,none⟩) (.inl (.inl rfl)) nv;refine⟨?_,O⟩;have au:DG fb kb R i r.b:=.inr (.inr ⟨i,r,c,.inl rfl⟩);have ag:=h.lt au;have ac:V.heap[r.b]?=w.heap[r.b]?:=Z.block r.b ag (λq=>((v i i r r c c).2 _ q).1 rfl);have A:∀x,DG fb kb R i x->x≠r.b->r.mo.ownBlock≠some x->(V.setCell ⟨r.b,4,none⟩ nv).heap[x]?=w.heap[x]?:=λx g u E=>O.block x (h.lt g) (λq=>q.elim u E);generalize T:V.setCell ⟨r.b,4,none⟩ nv=V' at A O |-;have Q:(R.set i {r with mo:=nv}).length=R.length:=List.length_set ..;have an:∀x,nv.ownBlock=some x->x≠r.b:=λx g e=>by
  rcases W x g with q|q
  ·exact((v i i r r c c).2 x q).1 e
  ·omega
 refine⟨?_,?_,λj q l=>?_,λj q l I=>?_,λj q l=>?_,λj q l X=>?_,λj q l=>?_,λj y q K l P e=>?_,λj y q K x l P g t=>?_,⟨h.lo.1,h.lo.2.1,λj q l=>?_⟩,λj q l=>?_⟩
 ·obtain⟨r0,rl,h0,u,hF⟩:=h.fo;obtain⟨M,g0,l0⟩:=Mz c nv h0;obtain⟨ql,gl,ll⟩:=Mz c nv u;refine⟨M,ql,g0,by rw[Q];exact gl,?_⟩;rw[l0.1,ll.1]
  exact(A fb (.inl rfl) (λe=>(G i r c).1 e.symm) (λe=>((G i r c).2.2 _ e).1 rfl)).trans hF
 ·obtain⟨fk,hK,u,E⟩:=h.km;refine⟨fk,?_,u,?_⟩
  ·rw[Q];exact hK.same (A kb (.inr (.inl rfl)) (λe=>(G i r c).2.1 e.symm) (λe=>((G i r c).2.2 _ e).2 rfl))
  ·have:Ge p (R.set i {r with mo:=nv})=Ge p R:=MB (λr=>Aj p r.m) c nv rfl;rw[this];exact E
 ·obtain⟨o,d,f,n⟩:=FX c nv l;rw[VQ c];have B:=h.st j o d;rw[<-f.1,<-f.2.1,<-f.2.2.1,<-f.2.2.2.1,<-f.2.2.2.2] at B
  rcases n with⟨rfl,D⟩|⟨s,rfl⟩
  ·rw[c] at d
   cases d
   rw[D];rw[f.1] at B |-;rw[<-T];unfold AY at B |-
   exact(Xj V r.b 4 _ _ nv (ac.trans B)).trans rfl
  ·have nb:q.b≠r.b:=λe=>s (h.ap j i q r d c e);unfold AY at B |-
   exact(A q.b (.inr (.inr ⟨j,q,d,.inl rfl⟩)) nb (λe=>((v j i q r d c).2 _ e).1 rfl)).trans B
 ·obtain⟨o,d,f,n⟩:=FX c nv l;rw[f.2.1,f.2.2.1]
  exact(h.ma j o d I).same (A o.mb (.inr (.inr ⟨j,o,d,.inr (.inl ⟨I,rfl⟩)⟩)) (λe=>(v i j r o c d).1 I e.symm) (λe=>((v j i o r d c).2 _ e).2 I rfl))
 ·obtain⟨o,d,f,n⟩:=FX c nv l
  rcases n with⟨rfl,D⟩|⟨s,rfl⟩
  ·rw[c] at d
   cases d
   rw[D,f.2.1,Nd];have ht:(Bh p.C r.m).take (k+1)=(Bh p.C r.m).take k++[e]:=by rw[Yo,he];rfl
   rw[ht];exact DW aA (λx g=>by rw[<-T];exact Xt V ⟨r.b,4,none⟩ x _ (an x g))
  ·rw[abj q.m s (k':=k)];exact DW (h.mo j q d) (λx g=>A x (.inr (.inr ⟨j,q,d,.inr (.inr g)⟩)) (((v i j r q c d).2 x g).1) (λe=>s (h.am j i q r x d c g e)))
 ·obtain⟨o,d,f,n⟩:=FX c nv l
  rcases n with⟨rfl,D⟩|⟨s,rfl⟩
  ·rcases X with q|⟨-,q⟩
   ·exact absurd q (aft _)
   ·omega
  ·refine h.mn j q d ?_
   rcases X with q|⟨q,-⟩
   ·exact .inl q
   ·exact absurd q s
 ·obtain⟨o,d,f,n⟩:=FX c nv l;rw[f.2.1];exact h.ok j o d
 ·obtain⟨o,d,f,-⟩:=FX c nv l;obtain⟨F,H,U,-⟩:=FX c nv P;exact h.ap j y o F d H (by rw[<-f.1,<-U.1];exact e)
 ·obtain⟨o,d,f,n⟩:=FX c nv l;obtain⟨F,H,U,S⟩:=FX c nv P;have key:∀j (o:Ag) x,j≠i->R[j]?=some o->o.mo.ownBlock=some x->nv.ownBlock=some x->False:=λj o x s d g t=>by
   rcases W x t with q|q
   ·exact s (h.am j i o r x d c g q)
   ·have:=((h.mo j o d).lt x g).2
    omega
  rcases n with⟨J,D⟩|⟨s,J⟩
  ·rcases S with⟨z,aa⟩|⟨Y,z⟩
   ·rw[J,z]
   ·rw[z] at t;rw[D] at g
    exact(key y F x Y H t g).elim
  ·rcases S with⟨z,aa⟩|⟨Y,z⟩
   ·rw[J] at g;rw[aa] at t
    exact(key j o x s d g t).elim
   ·rw[J] at g;rw[z] at t;exact h.am j y o F x d H g t
 ·obtain⟨o,d,f,n⟩:=FX c nv l;rw[f.1,f.2.2.1];exact h.lo.2.2 j o d
 ·obtain⟨o,d,f,n⟩:=FX c nv l
  rcases h.way j o d with⟨M,q1,q2⟩|⟨y,r',hj,ah,u,E,h3⟩
  ·exact .inl ⟨M,f.2.2.2.1.trans q1,f.2.1.trans q2⟩
  ·obtain⟨K,gq,N⟩:=Mz c nv ah;refine .inr ⟨y,K,hj,gq,?_,?_,?_⟩
   ·rw[f.2.2.2.1,u,N.1]
   ·rw[N.2.1,f.2.2.2.2];exact E
   ·rw[f.2.1,h3,N.2.1,f.2.2.2.2]
theorem FW.more (h:FW w p base fb kb R i k) (Q:R[i]?=some r) {c:Ag} (D:R[R.length - 1]?=some c) {I:Tx->Option Xk} (hU:∀x u,I x=some u->u = .agg #[]) (hK:∀x,(I x).isSome=true↔x∈Ge p R) {q mB:Nat} {m:MS} {t:Int} {T:Xk} (ak:∀B:Ag,R[0]?=some B->T=Ab B.b)
 (hc:AV p.C r.m t=0) (hm:m=(AB false p.C r.m t).1) (aw:CY p m) (hq:w.heap.size<=q) (M:Bn w mB p m) (ai:base<=mB) (ax:base<=w.heap.size)
 (ac:AY w' q (Ab mB) (Aj p m) (Ay m) (Bt m) (.slice none 0 0) (Ab r.b) t (.pointer none))
 (ab:AY w' c.b (if R.length - 1<i then .pointer none else Ab c.mb) (Aj p c.m) (Ay c.m) (Bt c.m) c.mo (DL c.fr) c.y (Ab q))
 (hF:Eh w' fb T q kb) (ah:AA sk w' kb (Bv I (Aj p m) (.agg #[])) (R.length+1)) (U:Ac (λx=>x=fb\/x=c.b\/x=kb) w w') :
 FW w' p base fb kb (R++[⟨q,m,mB,some r.b,t,.slice none 0 0⟩]) i k:=by
 obtain⟨aN,F,P,W⟩:=h.kinds;have aC:=(Xf.1 Q).1;have l:∀(j:Nat) (o:Ag),(R++[⟨q,m,mB,some r.b,t,.slice none 0 0⟩])[j]?=some o->(j<R.length/\R[j]?=some o)\/(j=R.length/\o=⟨q,m,mB,some r.b,t,.slice none 0 0⟩):=λj o a=>by
  by_cases e:j<R.length
  ·rw[XC e] at a;exact .inl ⟨e,a⟩
  ·rw[XK (by omega)] at a
   by_cases V:j=R.length
   ·rw[V,YR] at a
    cases a
    exact .inr ⟨V,rfl⟩
   ·obtain⟨d,hd⟩:∃d,j - R.length=d+1:=⟨j - R.length - 1,by omega⟩;rw[hd] at a
    cases a
 have J:∀(j:Nat) (o:Ag),R[j]?=some o->(R++[⟨q,m,mB,some r.b,t,.slice none 0 0⟩])[j]?=some o:=λj o a=>by
  rw[XC (Xf.1 a).1];exact a
 have S:(R++[⟨q,m,mB,some r.b,t,.slice none 0 0⟩])[R.length]?=some ⟨q,m,mB,some r.b,t,.slice none 0 0⟩:=by
  rw[XK (Xd _),YR];rfl
 have ar:∀j,j+1<R.length->Fe (R++[⟨q,m,mB,some r.b,t,.slice none 0 0⟩]) j=Fe R j:=λj n=>by
  unfold Fe;rw[XC n]
 have az:Fe (R++[⟨q,m,mB,some r.b,t,.slice none 0 0⟩]) (R.length - 1)=Ab q:=by
  unfold Fe;rw[show R.length - 1+1=R.length by omega,S];rfl
 have ad:Fe (R++[⟨q,m,mB,some r.b,t,.slice none 0 0⟩]) R.length = .pointer none:=by
  unfold Fe;rw[List.getElem?_eq_none (by rw[Xb];exact Xd _)];rfl
 have N:∀x,DG fb kb R i x->x≠fb->x≠c.b->x≠kb->w'.heap[x]?=w.heap[x]?:=λx f G h2 h3=>U.block x (h.lt f) (λe=>by rcases e with e|e|e;exact G e;exact h2 e;exact h3 e);have aO:=h.lt (.inr (.inr ⟨_,c,D,.inl rfl⟩):DG fb kb R i c.b);have aK:=h.lt (.inl rfl:DG fb kb R i fb);have aI:=h.lt (.inr (.inl rfl):DG fb kb R i kb);have aE:=M.lt;have K:mB≠fb/\mB≠c.b/\mB≠kb:=by
  obtain⟨cs,g,-⟩:=M;obtain⟨B,ag,-,-,gF⟩:=h.fo;obtain⟨aL,⟨es,aJ,gK,-⟩,-⟩:=h.km;have X:=h.st _ c D;unfold Eh at gF;unfold AY at X;refine⟨λe=>?_,λe=>?_,λe=>?_⟩
  ·rw[e,gF] at g;injection g with g
   injection g with _ g
   exact absurd g (by decide)
  ·rw[e,X] at g;injection g with g
   injection g with _ g
   exact absurd g (by decide)
  ·rw[e,gK] at g;cases g
 refine⟨?_,?_,λj o a=>?_,λj o a E=>?_,λj o a=>?_,λj o a ao=>?_,λj o a=>?_,λj v o A a s e=>?_,λj v o A x a s f Y=>?_,⟨h.lo.1,h.lo.2.1,λj o a=>?_⟩,λj o a=>?_⟩
 ·obtain⟨B,ag,O,G,aM⟩:=h.fo;refine⟨B,_,J 0 B O,by rw[Xb];exact S,?_⟩;rw[<-ak B O];exact hF
 ·refine⟨_,by rw[Xb];exact ah,λx u f=>?_,λx=>?_⟩
  ·unfold Bv at f
   by_cases e:x=Aj p m
   ·rw[if_pos e] at f;cases f;rfl
   ·rw[if_neg e] at f;exact hU x u f
  ·have aG:Ge p (R++[⟨q,m,mB,some r.b,t,.slice none 0 0⟩])=Ge p R++[Aj p m]:=by unfold Ge;rw[XH];rfl
   rw[aG,List.mem_append,List.mem_singleton,<-hK x];unfold Bv
   by_cases e:x=Aj p m
   ·rw[if_pos e];exact⟨λ_=>.inr e,λ_=>rfl⟩
   ·rw[if_neg e];exact⟨λz=>.inl z,λz=>z.elim id (λz=>absurd z e)⟩
 ·rcases l j o a with⟨n,a⟩|⟨rfl,rfl⟩
  ·by_cases e:j=R.length - 1
   ·subst e;rw[D] at a
    cases a
    rw[az];exact ab
   ·rw[ar j (by omega)];have Z:=h.st j o a;unfold AY at Z |-
    exact(N o.b (.inr (.inr ⟨j,o,a,.inl rfl⟩)) (F j o a).1 (λz=>e (h.ap j _ o c a D z)) (F j o a).2.1).trans Z
  ·rw[ad,if_neg (by omega)];exact ac
 ·rcases l j o a with⟨n,a⟩|⟨rfl,rfl⟩
  ·exact(h.ma j o a E).same (N o.mb (.inr (.inr ⟨j,o,a,.inr (.inl ⟨E,rfl⟩)⟩)) (W j o a E).1 (λz=>(P _ j c o D a).1 E z.symm) (W j o a E).2)
  ·exact M.same (U.block mB aE (λz=>by rcases z with z|z|z;exact K.1 z;exact K.2.1 z;exact K.2.2 z))
 ·rcases l j o a with⟨n,a⟩|⟨rfl,rfl⟩
  ·exact DW (h.mo j o a) (λx f=>N x (.inr (.inr ⟨j,o,a,.inr (.inr f)⟩)) ((F j o a).2.2 x f).1 (((P _ j c o D a).2 x f).1) ((F j o a).2.2 x f).2)
  ·have:Fx p.C i k R.length m=[]:=by unfold Fx;rw[if_neg (by omega),if_neg (by omega)]
   rw[this];exact World.ownsRow_nil w' base 48 4
 ·rcases l j o a with⟨n,a⟩|⟨rfl,rfl⟩
  ·exact h.mn j o a ao
  ·rfl
 ·rcases l j o a with⟨n,a⟩|⟨rfl,rfl⟩
  ·exact h.ok j o a
  ·exact aw
 ·rcases l j o a with⟨n,a⟩|⟨rfl,rfl⟩
  ·have:=h.lt (.inr (.inr ⟨j,o,a,.inl rfl⟩):DG fb kb R i o.b)
   rcases l v A s with⟨H,s⟩|⟨rfl,rfl⟩
   ·exact h.ap j v o A a s e
   ·have e:o.b=q:=e
    omega
  ·rcases l v A s with⟨H,s⟩|⟨rfl,rfl⟩
   ·have:=h.lt (.inr (.inr ⟨v,A,s,.inl rfl⟩):DG fb kb R i A.b);have e:q=A.b:=e
    omega
   ·rfl
 ·rcases l j o a with⟨n,a⟩|⟨rfl,rfl⟩
  ·rcases l v A s with⟨H,s⟩|⟨rfl,rfl⟩
   ·exact h.am j v o A x a s f Y
   ·cases Y
  ·cases f
 ·rcases l j o a with⟨n,a⟩|⟨rfl,rfl⟩
  ·exact h.lo.2.2 j o a
  ·exact⟨Xu ax hq,ai⟩
 ·rcases l j o a with⟨n,a⟩|⟨rfl,rfl⟩
  ·rcases h.way j o a with z|⟨v,r',H,af,G⟩
   ·exact .inl z
   ·exact .inr ⟨v,r',H,J v r' af,G⟩
  ·exact .inr ⟨i,r,aC,J i r Q,rfl,hc,hm⟩
theorem FW.shut (h:FW w p base fb kb R i k) (c:R[i]?=some r) (F:(Bh p.C r.m).length<=k):FW (w.setCell ⟨r.b,0,none⟩ (.pointer none)) p base fb kb R (i+1) 0:=by
 obtain⟨K,q,s,J⟩:=h.kinds;have f:∀x,x≠r.b->(w.setCell ⟨r.b,0,none⟩ (.pointer none)).heap[x]?=w.heap[x]?:=λx n=>Xt w ⟨r.b,0,none⟩ x _ n;have B:∀j m,(j=i->m=r.m)->Fx p.C (i+1) 0 j m=Fx p.C i k j m:=λj m G=>by
  unfold Fx
  by_cases e:j<i
  ·rw[if_pos e,if_pos (by omega)]
  ·rw[if_neg e]
   by_cases d:j=i
   ·rw[if_pos (by omega),if_pos d,G d,XQ F]
   ·rw[if_neg (by omega),if_neg d]
    by_cases t:j=i+1
    ·rw[if_pos t,List.take_zero]
    ·rw[if_neg t]
 refine⟨?_,?_,λj o a=>?_,λj o a I=>(h.ma j o a (by omega)).same (f o.mb (λe=>(s i j r o c a).1 (by omega) e.symm)),λj o a=>?_,λj o a H=>h.mn j o a (.inl (by omega)),h.ok,h.ap,h.am,h.lo,h.way⟩
 ·obtain⟨E,u,v,l,D⟩:=h.fo
  exact⟨E,u,v,l,(f fb (λe=>(q i r c).1 e.symm)).trans D⟩
 ·obtain⟨y,A,l⟩:=h.km
  exact⟨y,A.same (f kb (λe=>(q i r c).2.1 e.symm)),l⟩
 ·have g:=h.st j o a
  by_cases e:j=i
  ·subst e;rw[c] at a
   cases a
   rw[if_neg (aft _)] at g;rw[if_pos (Nat.lt_succ_self _)];unfold AY at g |-
   exact(Xj w r.b 0 _ _ _ g).trans rfl
  ·have d:(j<i+1)=(j<i):=by apply propext;omega
   rw[show (if j<i+1 then Value.pointer none else Ab o.mb)=(if j<i then Value.pointer none else Ab o.mb) by simp only[d]];unfold AY at g |-
   exact(f o.b (λz=>e (h.ap j i o r a c z))).trans g
 ·rw[B j o.m (λe=>by subst e;rw[c] at a;cases a;rfl)];exact DW (h.mo j o a) (λx n=>f x (((s i j r o c a).2 x n).1))
end
theorem QU {nv nf nl:Nat} {C:List (List Ad)} {s:MS} (g:Ef nv nf nl C) (h:AW nv nf nl C s) {t:Int} (j:AV C s t=0):Kw s (AB false C s t).1 (AB false C s t).2/\AW nv nf nl C (AB false C s t).1:=by
 obtain⟨u,rfl,f,d,a,b⟩:=GM g h j;unfold AB;rw[Int.toNat_natCast];refine⟨aaE (by rw[h.tl];exact f) d (λe=>?_),KO false h f d a b⟩;have i:(s.th (BA C u (s.th u)).x.toNat).ph=0:=by
  unfold BH at a;rw[e] at a;rw[if_neg (by decide),if_neg (by decide),if_pos rfl] at a
  simpa using a
 refine⟨?_,i⟩;rw[h.tl]
 rcases b with k|⟨b,-⟩
 ·rw[k] at e;exact absurd e (by decide)
 ·obtain⟨q,c,l,x1,x2,x3,x4,m⟩:=b.ex;have n:=b.x0;rw[l] at e;simp only[Bb,List.mem_cons,List.not_mem_nil,or_false] at c
  rcases c with rfl|rfl|rfl|rfl|rfl|rfl|rfl|rfl|rfl|rfl|rfl|rfl|rfl|rfl|rfl|rfl|rfl<;>first|(have:=x4 (by decide);omega)|exact absurd e (by decide)
theorem Sm {c:Prop} [Decidable c] {a b:MS×Ev} {t:Int} (d:a.2.t=t) (e:b.2.t=t):(if c then a else b).2.t=t:=by
 by_cases h:c
 ·rw[if_pos h];exact d
 ·rw[if_neg h];exact e
theorem Vl (k:Bool) (s:MS) (t:Nat) (x:Ad):(Ba k s t x).2.t=t:=by
 unfold Ba;dsimp only
 repeat' first|exact Sm rfl rfl|refine Sm ?_ ?_|rfl
theorem ac4 {C:List (List Ad)} {s:MS} {t:Int} (h:0<=t):(AB false C s t).2.t=t:=by
 unfold AB;rw[Vl]
 omega
theorem ac3 {nv nf nl:Nat} {C:List (List Ad)} {s:MS} (h:AW nv nf nl C s) (a:C.length<=4):0<=(Ay s:Int)/\(Ay s:Int)<=4:=by
 have:=List.countP_le_length (p:=λth:TS=>th.ph == 1) (l:=s.thr);rw[h.tl] at this;unfold Ay
 omega
theorem Ac.aeB {S:Nat->Prop} {B:Nat} {w w':Xh} (h:Ac S w w') (a:∀x,S x->B<=x) (b:B<=w.heap.size):Below B w w':=
 ⟨h.os,h.tape,h.output,h.size,λx c=>h.block x (by omega) (λq=>by have:=a x q;omega)⟩
structure Gs (R R':List Ag) (i Z:Nat):Prop where
 old:∀(j:Nat) (o:Ag),R[j]?=some o->∃q:Ag,R'[j]?=some q/\q.Fg o/\(j≠i->q=o)
 new:∀(j:Nat) (q:Ag),R'[j]?=some q->(∃o:Ag,R[j]?=some o)\/(Z<=q.b/\Z<=q.mb/\q.mo = .slice none 0 0)
theorem Gs.refl (R:List Ag) (i Z:Nat):Gs R R i Z:=⟨λ_ o h=>⟨o,h,Ag.Fg.refl _,λ_=>rfl⟩,λ_ q h=>.inl ⟨q,h⟩⟩
theorem Gs.set {R R':List Ag} {i Z:Nat} {r:Ag} (h:Gs R R' i Z) (d:i<R.length) (b:R'[i]?=some r) (v:Xk):Gs R (R'.set i {r with mo:=v}) i Z:=by
 refine⟨λj o f=>?_,λj q a=>?_⟩
 ·obtain⟨q,a,c,g⟩:=h.old j o f;rw[IE b]
  by_cases e:j=i
  ·subst e;rw[if_pos rfl];rw[b] at a
   cases a
   exact⟨_,rfl,c,λz=>absurd rfl z⟩
  ·rw[if_neg e]
   exact⟨q,a,c,g⟩
 ·rw[IE b] at a
  by_cases e:j=i
  ·subst e;exact .inl ⟨R[j],Xe d⟩
  ·rw[if_neg e] at a;exact h.new j q a
theorem Gs.push {R R':List Ag} {i Z:Nat} (h:Gs R R' i Z) {x:Ag} (k:Z<=x.b/\Z<=x.mb/\x.mo = .slice none 0 0):Gs R (R'++[x]) i Z:=by
 refine⟨λj o g=>?_,λj q a=>?_⟩
 ·obtain⟨q,a,f⟩:=h.old j o g
  exact⟨q,by rw[XC (Xf.1 a).1];exact a,f⟩
 ·by_cases e:j<R'.length
  ·rw[XC e] at a;exact h.new j q a
  ·rw[XK (by omega)] at a
   by_cases c:j=R'.length
   ·rw[c,YR] at a
    cases a
    exact .inr k
   ·obtain⟨d,l⟩:∃d,j - R'.length=d+1:=⟨j - R'.length - 1,by omega⟩;rw[l] at a
    cases a
def Ua (fb kb:Nat) (R:List Ag) (x:Nat):Prop:=x=fb\/x=kb\/∃(j:Nat) (q:Ag),R[j]?=some q/\x=q.b
structure LI (w1 wr:Xh) (p:PD) (base fb kb:Nat) (R:List Ag) (i:Nat) (m:MS) (k ks:Nat) (R':List Ag):Prop where
 fw:FW wr p base fb kb R' i k
 ms:R'.map Ag.m=((By false p.C m).take ks).foldl (DS (Aj p)) (R.map Ag.m)
 ext:Gs R R' i w1.heap.size
 mo:∀(q:Ag) (x:Nat),R'[i]?=some q->q.mo.ownBlock=some x->w1.heap.size<=x
 kp:Ac (Ua fb kb R) w1 wr
structure Hx (w w':Xh) (p:PD) (base fb kb:Nat) (R:List Ag) (i:Nat) (m:MS) (R':List Ag):Prop where
 fw:FW w' p base fb kb R' (i+1) 0
 ms:R'.map Ag.m=DE (Aj p) (By false p.C) (R.map Ag.m) m
 ext:Gs R R' i w.heap.size
 mo:∀(q:Ag) (x:Nat),R'[i]?=some q->q.mo.ownBlock=some x->w.heap.size<=x
 kp:Ac (Ua fb kb R) w w'
theorem Ng (C:List (List Ad)) (m:MS):(Bh C m).length=(AP C m).length:=by unfold Bh;rw[Xp]
theorem abk {C:List (List Ad)} {m:MS} {k:Nat} {t:Int} (h:(AP C m)[k]?=some t):(Bh C m)[k]?=some (AB false C m t).2:=by unfold Bh;rw[Xs,h];rfl
theorem Vk {C:List (List Ad)} {m:MS} {k:Nat} {t:Int} (h:(AP C m)[k]?=some t):(By false C m).take (k+1)=(By false C m).take k++[(AB false C m t).1]:=by
 rw[Yo];unfold By;rw[Xs,h];rfl
section
variable {w1 V V6:Xh} {p:PD} {base fb kb:Nat} {R R':List Ag} {i k ks:Nat} {r:Ag} {t:Int}
theorem LI.below (h:LI w1 V p base fb kb R i r.m k ks R') (a:Below V.heap.size V V6):LI w1 V6 p base fb kb R i r.m k ks R':=⟨h.fw.below a,h.ms,h.ext,h.mo,h.kp.trans (Ac.DM a)⟩
theorem LI.push (h:LI w1 V p base fb kb R i r.m k ks R') (a:R'[i]?=some r) (f:i<R.length) {e:Ev} (n:(Bh p.C r.m)[k]?=some e) {g:Xh} {nv:Xk} (u:Ac (λx=>r.mo.ownBlock=some x) V g) (v:g.ownsRow base 48 4 nv ((Bh p.C r.m).take k++[e]).length (((Bh p.C r.m).take k++[e]).flatMap Eb)) (l:∀x,nv.ownBlock=some x->r.mo.ownBlock=some x\/V.heap.size<=x) :
 LI w1 (g.setCell ⟨r.b,4,none⟩ nv) p base fb kb R i r.m (k+1) ks (R'.set i {r with mo:=nv}):=by
 obtain⟨s,o⟩:=h.fw.push a n u v l;refine⟨s,by rw[MB Ag.m a nv rfl];exact h.ms,h.ext.set f a nv,λq x c j=>?_,h.kp.then o (λx j d=>?_)⟩
 ·rw[IE a,if_pos rfl] at c
  cases c
  rcases l x j with z|z
  ·exact h.mo r x a z
  ·exact Xu h.kp.size z
 ·rcases d with rfl|d
  ·obtain⟨q,c,t,-⟩:=h.ext.old i R[i] (Xe f);rw[a] at c
   cases c
   exact .inr (.inr ⟨i,R[i],Xe f,t.1⟩)
  ·have:=h.mo r x a d
   omega
theorem LI.add (h:LI w1 V p base fb kb R i r.m k ks R') (K:CK p) (f:R'[i]?=some r) (F:(AP p.C r.m)[ks]?=some t) (ai:base<=w1.heap.size) {a H:Ag} (j:R'[R'.length - 1]?=some a) (N:R'[0]?=some H) {g:Tx->Option Xk} (hU:∀x u,g x=some u->u = .agg #[]) (n:∀x,(g x).isSome=true↔x∈Ge p R') {mB:Nat} (hM:Bn V mB p (AB false p.C r.m t).1) (X:w1.heap.size<=mB)
 (Q:Mm V V6 fb a.b kb r.b mB (Ab H.b) g R'.length (Aj p (AB false p.C r.m t).1) (Ay r.m) (Bt r.m) (if R'.length - 1<i then .pointer none else Ab a.mb) a.mo (DL a.fr) (Aj p a.m) (Ay a.m) a.y (Bt a.m) (AB false p.C r.m t).2):∃S,LI w1 V6 p base fb kb R i r.m k (ks+1) S:=by
 have l:=Ia (List.mem_of_getElem? F);obtain⟨A,Z⟩:=QU K.fit (h.fw.ok i r f) l;have B:((By false p.C r.m).take (ks+1)).foldl (DS (Aj p)) (R.map Ag.m)=DS (Aj p) (R'.map Ag.m) (AB false p.C r.m t).1:=by
  rw[Vk F,List.foldl_append,<-h.ms];rfl
 have G:(R'.map Ag.m).map (Aj p)=Ge p R':=by rw[List.map_map];rfl
 rcases Q with⟨s,E⟩|⟨s,q,hq,d,M,hF,O,D⟩
 ·refine⟨R',h.fw.below E,?_,h.ext,h.mo,h.kp.trans (Ac.DM E)⟩;rw[B];unfold DS;rw[G,if_pos ((n _).1 s)]
 ·have Y:Aj p (AB false p.C r.m t).1∉Ge p R':=λe=>by
   have:=(n _).2 e;rw[s] at this
   cases this
  have U:(Ay (AB false p.C r.m t).1:Int)=Gh (Ay r.m) (AB false p.C r.m t).2.k:=A.going;have W:=A.failed;rw[<-U,<-W] at d;have P:0<=t:=by obtain⟨u,rfl,-⟩:=Ty l;omega
  rw[ac4 P] at d;have hz:=h.kp.size;refine⟨_,h.fw.more f j hU n (λag w=>by rw[N] at w;cases w;rfl) l rfl Z hq hM (by omega) (by omega) d M hF O D,?_,h.ext.push ⟨by show _<=q;omega,X,rfl⟩,λv x c J=>?_,h.kp.then D (λx J hS=>?_)⟩
  ·rw[B,XH];unfold DS;rw[G,if_neg Y]
   rfl
  ·rw[XC (Xf.1 f).1] at c;exact h.mo v x c J
  ·rcases hS with e|e|e
   ·exact .inl e
   ·rcases h.ext.new _ a j with⟨o,I⟩|z
    ·obtain⟨v,c,T,-⟩:=h.ext.old _ o I;rw[j] at c
     cases c
     exact .inr (.inr ⟨_,o,I,e.trans T.1⟩)
    ·omega
   ·exact .inr (.inl e)
theorem LI.done (h:LI w1 V p base fb kb R i r.m k ks R') (g:R'[i]?=some r) (f:i<R.length) (o:(AP p.C r.m).length<=k) (l:(AP p.C r.m).length<=ks) {w:Xh} (d:Below w.heap.size w w1):Hx w (V.setCell ⟨r.b,0,none⟩ (.pointer none)) p base fb kb R i r.m R':=by
 have s:=d.size;refine⟨h.fw.shut g (by rw[Ng];exact o),?_,⟨h.ext.old,λj q c=>(h.ext.new j q c).imp id λz=>⟨by omega,by omega,z.2.2⟩⟩,λq x c t=>Xu s (h.mo q x c t),?_⟩
 ·rw[h.ms];unfold DE;have e:(By false p.C r.m).take ks=By false p.C r.m:=XQ (by unfold By;rw[Xp];exact l);rw[e]
 ·refine((Ac.DM d).trans (h.kp.mono λ_ _ z=>z)).set (a:=⟨r.b,0,none⟩) (.inl ?_) _;obtain⟨q,c,n,-⟩:=h.ext.old i R[i] (Xe f);rw[g] at c
  cases c
  exact .inr (.inr ⟨i,R[i],Xe f,n.1⟩)
end
end Go.Proofs.YtdcacoifehkioaaGreatDoor
namespace Go.Proofs.YtdcacoifehkioaaGreatDoor
open Go.RowKit
abbrev AO:=Nat->Prop
structure Steps (O:AO) (W:Xh) (O':AO) (W':Xh):Prop where
 os:W'.os=W.os
 tape:W'.tape=W.tape
 output:W'.output=W.output
 size:W.heap.size<=W'.heap.size
 grows:∀b,O b->O' b
 fresh:∀b,O' b->O b\/W.heap.size<=b
 rest:∀b,b<W.heap.size->¬O b->W'.heap[b]?=W.heap[b]?
theorem Steps.refl (O:AO) (W:Xh):Steps O W O W:=⟨rfl,rfl,rfl,Xd _,λ_ h=>h,λ_ h=>.inl h,λ_ _ _=>rfl⟩
theorem Steps.trans {O g i:AO} {W f e:Xh} (h:Steps O W g f) (k:Steps g f i e):Steps O W i e:=
 ⟨k.os.trans h.os,k.tape.trans h.tape,k.output.trans h.output,Xu h.size k.size,λb a=>k.grows b (h.grows b a),
  λb a=>(k.fresh b a).elim (h.fresh b) (λd=>.inr (Xu h.size d)),
  λb a c=>(k.rest b (XF a h.size) (λj=>(h.fresh b j).elim c (λd=>by omega))).trans (h.rest b a c)⟩
def GR {β:Type} (J:β->AO->Xh->Prop):Prop:=
 ∀s O W W',J s O W->W.heap.size<=W'.heap.size->W'.os=W.os->W'.tape=W.tape->W'.output=W.output->(∀b,O b->W'.heap[b]?=W.heap[b]?)->J s O W'
def IP {α:Type} (I:List α->AO->Xh->Prop) (Ix:Code->List α->AO->Xh->Prop) (xs:List α) (O:AO) (W:Xh):Exit->Act->Xh->Prop
 |.normal,_,W'=>∃O',Steps O W O' W'/\I xs O' W'
 |.ret,_,W'=>∃O',Steps O W O' W'/\Ix .ret xs O' W'
 |.exit id,_,W'=>∃O',Steps O W O' W'/\Ix (.exit id) xs O' W'
 |.goto t,_,W'=>∃O',Steps O W O' W'/\Ix (.goto t) xs O' W'
 |.panic _,_,_=>False
 |.outgrown,_,_=>False
variable {F:Fence} {n:Nat} {P:Zk}
def IS {α:Type} (F:Fence) (n:Nat) (P:Zk) (g:Nat) (lb:Array Xk) (encs:α->Array Xk) (Base:AO) (E:List α->α->AO->Xh->Prop) (S:List α->AO->Xh->Prop) (Sp:List α->Prop) (w:Xh):Prop:=
 ∀(l:Nat) (J Jx:List α->AO->Xh->Prop) (W:Xh),Below w.heap.size w W->GR J->GR Jx->(∀pre O W1,J pre O W1->∀b,O b->b<W1.heap.size)->
  (∀pre O W1,J pre O W1->∀b,Base b->O b/\W1.heap[b]?=W.heap[b]?)->
  (∀pre x O W1,J pre O W1->E pre x O W1->YieldAt F (n - 1) P l (encs x) W1 λe W'=>∃O',Steps O W1 O' W'/\
    ((e = .returned (.bool true)/\J (pre++[x]) O' W')\/(e = .returned (.bool false)/\Jx (pre++[x]) O' W')))->
  J [] (λb=>b<W.heap.size) W->
  CallsIn F n P g (#[.func (.yield l) #[] #[]]++lb) W λe W'=>(∃v,e = .returned v)/\∃O',((∃xs,S xs O' W'/\J xs O' W')\/(∃pre,Sp pre/\Jx pre O' W'))
variable {F:Fence} {n:Nat} {P:Zk}
theorem OD {α:Type} {g:Operand} {ps:Array Tmp} {assign body:Code} {Q:Exit->Act->Xh->Prop} {a:Act} {w:Xh}
 (bl:F.round=none) (h1:1<=n) {gf:Nat} {lb:Array Xk} (hg:a.eval g = .func (.func gf) #[] lb) (bw:F.fn gf) (eg:∀args w,(callFunc gf args).run P w = .ok (.enter gf args) w)
 {aI:α->Array Xk} {aL:AO} {E:List α->α->AO->Xh->Prop} {S:List α->AO->Xh->Prop} {Sp:List α->Prop} {w0:Xh} (br:IS F (n - 1) P gf lb aI aL E S Sp w0) (a4:Below w0.heap.size w0 w) (bm:∀x,(aI x).size=ps.size)
 (hE:∀f x O W A z,E f x O W->Steps O W A z->E f x A z) (a2:∀f x (O A:AO) W,E f x O W->(∀b,A b->O b)->E f x A W)
 (bo:∀y (O:AO) W z,S y O W->W.heap.size<=z.heap.size->(∀b,b<W.heap.size->¬O b->z.heap[b]?=W.heap[b]?)->S y O z) (bp:∀y (O A:AO) W,S y O W->(∀b,A b->O b)->S y A W)
 (I:List α->AO->Xh->Prop) (Ix:Code->List α->AO->Xh->Prop) (hI:GR I) (aD:∀c,GR (Ix c)) (aJ:∀f O W,I f O W->∀b,O b->b<W.heap.size) (aK:∀c f O W,Ix c f O W->∀b,O b->b<W.heap.size)
 (bb:∀f O W,I f O W->∀b,aL b->O b/\W.heap[b]?=w.heap[b]?) (a9:∀b,aL b->b<w.heap.size) (h0:I [] (λb=>b<w.heap.size) w)
 (Ax:List α->α->Act->AO->Xh->Prop) (bu:∀f x Y,GR (fun(_:Unit)=>Ax f x Y))
 (bF:∀(l:Nat) (f:List α) (x:α) (O:AO) (W:Xh) (K:Act->Xh->Prop),I f O W->E f x O W->(∀Y A z,Steps O W A z->I f A z->Ax f x Y A z->K Y z)->
   assign.wpIn (F.inRound l) (n - 1 - 1) P (Exit.then K (λ_ _ _=>False)) {tmps:=(ps.zip (aI x)).foldl (λt (p,v)=>t.setIfInBounds p v) a.tmps,defers:=[]} W)
 (be:∀(l:Nat) (f:List α) (x:α) (Y:Act) (O:AO) (W:Xh),(∃r,W.heap[l]?=some (.loop r))->¬O l->I f O W->E f x O W->Ax f x Y O W->body.wpIn (F.inRound l) (n - 1 - 1) P (IP I Ix (f++[x]) O W) Y W)
 (aZ:∀(y:List α) (O:AO) (W:Xh),S y O W->I y O W->¬O w.heap.size->W.heap[w.heap.size]?=some (.deferred (some []))->Q .normal {a with defers:={target:=.collected w.heap.size,args := #[]}::a.defers} W)
 (aY:∀(c:Code) (f:List α) (O:AO) (W:Xh),Sp f->Ix c f O W->¬O w.heap.size->W.heap[w.heap.size]?=some (.deferred (some []))->c.wpIn F n P Q {a with defers:={target:=.collected w.heap.size,args := #[]}::a.defers} W) :
 (Code.rangeFunc g ps assign body).wpIn F n P Q a w:=by
 refine wpIn_rangeFunc λfn bq=>?_;rw[bl];obtain⟨D,hD⟩:∃D,w.heap.size=D:=⟨_,rfl⟩;obtain⟨J,aj⟩:∃J:LoopState->Option Code->Loop,J=λst pe=>{state:=st,pending:=pe,fn,tmps:=a.tmps,params:=ps,assign,body,defers:=D}:=⟨_,rfl⟩;obtain⟨U,aB⟩:∃U,(w.alloc (.deferred (some []))).alloc (.loop (J .ready none))=U:=⟨_,rfl⟩;have bt:U.heap.size=D+2:=by rw[<-aB,Yq,Yq,hD]
 have bz:U.heap[D+1]?=some (.loop (J .ready none)):=by
  rw[<-aB,<-hD];have:=Xi (w.alloc (.deferred (some []))) (.loop (J .ready none));rwa [Yq] at this
 have bD:U.heap[D]?=some (.deferred (some [])):=by
  rw[<-aB,<-hD];exact(Below.heap_alloc _ _ _ (by simp)).trans (Xi w _)
 have ad:Below w.heap.size w U:=by rw[<-aB];exact((Below.refl _ w).alloc (Xd _) _).alloc (by simp) _
 have aF:(Instr.enterLoop fn a.tmps ps assign body none).run P w = .ok (D+1,[{target:=.collected D,args := #[]}]) U:=by
  rw[run_enterLoop_outer,<-aB,aj,hD]
 refine⟨D+1,[{target:=.collected D,args := #[]}],U,{target:=.fn (.func gf) lb,args := #[.func (.yield (D+1)) #[] #[]]},U,gf,#[.func (.yield (D+1)) #[] #[]]++lb,U,aF,?_,?_,?_,λ_=>h1,?_⟩
 ·simp only[resolve,hg];simp[go_sem]
 ·intro f' ba;simp[Target.leads] at ba;subst ba;exact bw
 ·simp[invoke,go_sem,eg]
 rw[hD] at h0 aZ aY ad a9;obtain⟨Gp,au⟩:∃Gp:AO->AO->Prop,Gp=λj O=>(∀b,O b↔(j b\/b=D\/b=D+1))/\¬j D/\¬j (D+1):=⟨_,rfl⟩;refine(br (D+1)
  (λf O W=>∃j,Gp j O/\I f j W/\W.heap[D+1]?=some (.loop (J .ready none))/\W.heap[D]?=some (.deferred (some [])))
  (λf O W=>∃j c,Gp j O/\Ix c f j W/\W.heap[D+1]?=some (.loop (J .done (some c)))/\W.heap[D]?=some (.deferred (some [])))
  U (a4.trans (by rw[<-hD] at ad;exact ad.mono a4.size)) ?_ ?_ ?_ ?_ ?_ ?_).mono ?_
 ·rintro f O W z ⟨j,q,C,G,H⟩ aN X Z hu ao;have ah:=q;rw[au] at ah
  exact⟨j,q,hI f j W z C aN X Z hu (λb d=>ao b ((ah.1 b).2 (.inl d))),(ao _ ((ah.1 _).2 (.inr (.inr rfl)))).trans G,(ao _ ((ah.1 _).2 (.inr (.inl rfl)))).trans H⟩
 ·rintro f O W z ⟨j,c,q,C,G,H⟩ aN X Z hu ao;have ah:=q;rw[au] at ah
  exact⟨j,c,q,aD c f j W z C aN X Z hu (λb d=>ao b ((ah.1 b).2 (.inl d))),(ao _ ((ah.1 _).2 (.inr (.inr rfl)))).trans G,(ao _ ((ah.1 _).2 (.inr (.inl rfl)))).trans H⟩
 ·rintro f O W ⟨j,q,C,G,H⟩ b d;rw[au] at q
  rcases (q.1 b).1 d with h|rfl|rfl
  ·exact aJ f j W C b h
  ·exact(Xa.1 H).1
  ·exact(Xa.1 G).1
 ·rintro f O W ⟨j,q,C,G,H⟩ b d;rw[au] at q;obtain⟨h2,h3⟩:=bb f j W C b d
  exact⟨(q.1 b).2 (.inl h2),h3.trans (ad.block b (a9 b d)).symm⟩
 ·
  rintro f x O W ⟨j,q,C,G,H⟩ he;rw[au] at q |-;obtain⟨hO,aC,ay⟩:=q;have aV:D+1<W.heap.size:=(Xa.1 G).1;have hy:=run_yield (P:=P) (args:=aI x) G (by rw[aj];exact bm x);rw[aj] at hy;refine⟨fn,_,assign,body,hy,roundIn_of_wpIn bq (bF _ f x j W _ C (a2 f x O j W he (λb d=>(hO b).2 (.inl d))) ?_)⟩;clear hy;intro Y M u R aW bv;have a0:=(R.rest (D+1) aV ay).trans G;have a6:=(R.rest D (by omega) aC).trans H;have aG:¬M (D+1):=λh=>(R.fresh _ h).elim ay (λh=>by omega);have a7:¬M D:=λh=>(R.fresh _ h).elim aC (λh=>by omega);refine⟨_,run_beginRound a0 (by rw[aj]),?_⟩;obtain⟨s,aH⟩:∃s,u.putObj (D+1) (.loop {J .ready none with state:=.busy})=s:=⟨_,rfl⟩;have B:u.grownBy s (some (D+1)):=by rw[<-aH];exact ZM _ _ _
  have bL:s.heap.size=u.heap.size:=by rw[<-aH];simp[World.putObj]
  have aO:s.heap[D+1]?=some (.loop {J .ready none with state:=.busy}):=by rw[<-aH];exact afh (Xa.1 a0).1
  have a8:∀b,M b->s.heap[b]?=u.heap[b]?:=λb d=>B.block b (aJ f M u aW b d) (λe=>by cases e;exact aG d);have bB:s.heap[D]?=some (.deferred (some [])):=(B.block D (Xa.1 a6).1 (by simp)).trans a6;rw[aH];have bg:I f M s:=hI f M u s aW B.size B.os B.tape B.output a8;have bn:Ax f x Y M s:=bu f x Y () M u s bv B.size B.os B.tape B.output a8;have aX:Steps O W (λb=>M b\/b=D\/b=D+1) s:=by
   refine⟨B.os.trans R.os,B.tape.trans R.tape,B.output.trans R.output,Xu R.size B.size,λb d=>((hO b).1 d).imp (R.grows b) id,λb d=>?_,λb d hn=>?_⟩
   ·rcases d with d|d
    ·exact(R.fresh b d).imp (λh=>(hO b).2 (.inl h)) id
    ·exact .inl ((hO b).2 (.inr d))
   ·have aQ:b≠D+1:=λe=>hn ((hO b).2 (.inr (.inr e)))
    exact(B.block b (XF d R.size) (λe=>by cases e;exact aQ rfl)).trans (R.rest b d (λh=>hn ((hO b).2 (.inl h))))
  have bk:E f x M s:=a2 f x _ M s (hE f x O W _ s he aX) (λb d=>.inl d);refine wpIn_mono (be _ f x Y M s ⟨_,aO⟩ aG bg bk bn) ?_;have bj:D+1<s.heap.size:=(Xa.1 aO).1;have fin:∀(ab:Option Code) (k:AO) (o:Xh),Steps M s k o->∃i,(Instr.endRound (D+1) ab).run P o = .ok (.bool ab.isNone) i/\
   i.heap[D+1]?=some (.loop (J (if ab.isNone then .ready else .done) ab))/\i.heap[D]?=some (.deferred (some []))/\¬k D/\¬k (D+1)/\Steps O W (λb=>k b\/b=D\/b=D+1) i/\
   o.heap.size<=i.heap.size/\i.os=o.os/\i.tape=o.tape/\i.output=o.output/\(∀b,b<o.heap.size->k b->i.heap[b]?=o.heap[b]?):=λab k o T=>by
   have hl4:=(T.rest (D+1) bj aG).trans aO;have a1:=(T.rest D (by omega) a7).trans bB;have bG:=(Xa.1 hl4).1;have a5:¬k (D+1):=λh=>(T.fresh _ h).elim aG (λh=>by omega);have bh:¬k D:=λh=>(T.fresh _ h).elim a7 (λh=>by omega);have aF:=run_endRound (P:=P) ab hl4;obtain⟨i,af⟩:∃i,o.putObj (D+1) (.loop {({J .ready none with state:=.busy}:Loop) with state:=if ab.isNone then .ready else .done,pending:=ab})=i:=⟨_,rfl⟩;rw[af] at aF;have m:o.grownBy i (some (D+1)):=by rw[<-af];exact ZM _ _ _
   have ai:i.heap[D+1]?=some (.loop (J (if ab.isNone then .ready else .done) ab)):=by rw[<-af,afh bG,aj]
   refine⟨i,aF,ai,(m.block D (Xa.1 a1).1 (by simp)).trans a1,bh,a5,aX.trans ?_,m.size,m.os,m.tape,m.output,λb d h=>m.block b d (λe=>by cases e;exact a5 h)⟩;refine⟨m.os.trans T.os,m.tape.trans T.tape,m.output.trans T.output,Xu T.size m.size,λb d=>d.imp (T.grows b) id,λb d=>?_,λb d hn=>?_⟩
   ·rcases d with d|d
    ·exact(T.fresh b d).imp Or.inl id
    ·exact .inl (.inr d)
   ·have aQ:b≠D+1:=λe=>hn (.inr (.inr e))
    exact(m.block b (XF d T.size) (λe=>by cases e;exact aQ rfl)).trans (T.rest b d (λh=>hn (.inl h)))
  rintro e a3 o hp
  cases e with
  |normal=>
   obtain⟨k,am,V⟩:=hp;obtain⟨i,N,ai,ar,an,av,hS,hz,X,Z,hu,ap⟩:=fin none k o am
   exact⟨_,_,N,_,hS,.inl ⟨rfl,k,⟨λb=>Iff.rfl,an,av⟩,hI _ k o i V hz X Z hu (λb d=>ap b (aJ _ k o V b d) d),ai,ar⟩⟩
  |ret=>
   obtain⟨k,am,V⟩:=hp;obtain⟨i,N,ai,ar,an,av,hS,hz,X,Z,hu,ap⟩:=fin (some .ret) k o am
   exact⟨_,_,N,_,hS,.inr ⟨rfl,k,_,⟨λb=>Iff.rfl,an,av⟩,aD _ _ k o i V hz X Z hu (λb d=>ap b (aK _ _ k o V b d) d),ai,ar⟩⟩
  |exit id=>
   obtain⟨k,am,V⟩:=hp;obtain⟨i,N,ai,ar,an,av,hS,hz,X,Z,hu,ap⟩:=fin (some (.exit id)) k o am
   exact⟨_,_,N,_,hS,.inr ⟨rfl,k,_,⟨λb=>Iff.rfl,an,av⟩,aD _ _ k o i V hz X Z hu (λb d=>ap b (aK _ _ k o V b d) d),ai,ar⟩⟩
  |goto t=>
   obtain⟨k,am,V⟩:=hp;obtain⟨i,N,ai,ar,an,av,hS,hz,X,Z,hu,ap⟩:=fin (some (.goto t)) k o am
   exact⟨_,_,N,_,hS,.inr ⟨rfl,k,_,⟨λb=>Iff.rfl,an,av⟩,aD _ _ k o i V hz X Z hu (λb d=>ap b (aK _ _ k o V b d) d),ai,ar⟩⟩
  |panic ch=>exact hp.elim
  |outgrown=>exact hp.elim
 ·rw[au];refine⟨λb=>b<D,⟨λb=>by rw[bt];omega,by omega,by omega⟩,?_,bz,bD⟩;exact hI [] _ w U h0 ad.size ad.os ad.tape ad.output (λb d=>ad.block b d)
 ·rintro e u ⟨⟨v,rfl⟩,A,(⟨y,hS,j,q,C,G,H⟩|⟨f,bd,j,c,q,C,G,H⟩)⟩
  all_goals
   rw[au] at q;obtain⟨hO,aC,ay⟩:=q;have aV:=(Xa.1 G).1;have N:=run_endLoop (P:=P) G (by rw[aj];simp)
  ·obtain⟨i,af⟩:∃i,u.putObj (D+1) (.loop {J .ready none with state:=.exhausted})=i:=⟨_,rfl⟩;rw[af] at N;have m:u.grownBy i (some (D+1)):=by rw[<-af];exact ZM _ _ _
   have aP:=hI y j u i C m.size m.os m.tape m.output (λb d=>m.block b (aJ y j u C b d) (λe=>by cases e;exact ay d));have bc:S y j i:=bp y A j i (bo y A u i hS m.size (λb d hn=>m.block b d (λe=>by cases e;exact hn ((hO _).2 (.inr (.inr rfl)))))) (λb d=>(hO b).2 (.inl d))
   exact⟨none,i,by rw[N,aj],aZ y j i bc aP aC ((m.block D (Xa.1 H).1 (by simp)).trans H)⟩
  ·obtain⟨i,af⟩:∃i,u.putObj (D+1) (.loop {J .done (some c) with state:=.exhausted})=i:=⟨_,rfl⟩;rw[af] at N;have m:u.grownBy i (some (D+1)):=by rw[<-af];exact ZM _ _ _
   have aP:=aD c f j u i C m.size m.os m.tape m.output (λb d=>m.block b (aK c f j u C b d) (λe=>by cases e;exact ay d))
   exact⟨some c,i,by rw[N,aj],aY c f j i bd aP aC ((m.block D (Xa.1 H).1 (by simp)).trans H)⟩
end Go.Proofs.YtdcacoifehkioaaGreatDoor
