import Derived.Test.YtdcacoifehkioaaGreatDoorExR3
import Derived.Test.YtdcacoifehkioaaGreatDoorExR26
import Derived.Test.YtdcacoifehkioaaGreatDoorExR24
import Derived.Test.YtdcacoifehkioaaGreatDoorExR15
open Go renaming World->Xg,Addr->Y7
open List renaming replicate->XJ
open Nat renaming le_trans->Xu,le_refl->Xf
open Array renaming getElem?_eq_some_iff->Xa
set_option linter.unusedVariables false
set_option linter.unusedSimpArgs false
namespace Go.Proofs.YtdcacoifehkioaaGreatDoor
open Go.RowKit Go.Shelf Go.Proofs.Cod
section
variable (nv nf nl nt:Nat)
end
section
variable {w w':Xg} {nv nf nl nt nr:Nat} {x1 x2 x3 x4:Option Y7} {z1 z2 z3 z4:Nat}
abbrev Z6:Array Value := #[.slice none 0 0,.slice none 0 0,.slice none 0 0,.slice none 0 0,.slice none 0 0,.slice none 0 0]
def RL (v:Xg):Nat->List (Option Y7×Nat×Nat)->Prop
 |lo,[]=>lo<=v.heap.size
 |lo,(b,n,q)::l=>BG v lo q b (XJ n 0)/\lo<=q/\RL v q l
theorem RL.le {v:Xg} {l:List (Option Y7×Nat×Nat)}:∀{a:Nat},RL v a l->a<=v.heap.size:=by
 induction l with
 |nil=>exact id
 |cons x l b=>intro a h;have:=b h.2.2;have:=h.2.1;omega
theorem RL.go {v b:Xg} {l:List (Option Y7×Nat×Nat)} (c:Below v.heap.size v b):∀{a:Nat},RL v a l->RL b a l:=by
 induction l with
 |nil=>intro a h;exact Xu h c.size
 |cons x l d=>intro a h;exact⟨h.1.below h.2.2.le c,h.2.1,d h.2.2⟩
theorem RL.new {v a:Xg} {b:Option Y7} {n:Nat} (e:BG a v.heap.size a.heap.size b (XJ n 0)) (d:Below v.heap.size v a) {l:List (Option Y7×Nat×Nat)}:∀{c:Nat},RL v c l->RL a c (l++[(b,n,a.heap.size)]):=by
 induction l with
 |nil=>intro c h;exact⟨e.mono h (Xf _),Xu h d.size,Xf _⟩
 |cons x l f=>intro c h;exact⟨h.1.below h.2.2.le d,h.2.1,f h.2.2⟩
structure ZB (W v:Xg) (x:Option Nat) (l:List (Option Y7×Nat×Nat)):Prop where
 b:Below W.heap.size W v
 r:RL v W.heap.size l
 k:∀a,x=some a->W.heap.size<=a/\v.heap[a]?=some (.cells Z6 92)
theorem ZB.go {W v c:Xg} {x:Option Nat} {l:List (Option Y7×Nat×Nat)} {b:Option Y7} {n:Nat} (h:ZB W v x l) (f:BG c v.heap.size c.heap.size b (XJ n 0)) (d:Below v.heap.size v c):ZB W c x (l++[(b,n,c.heap.size)]):=
 ⟨h.b.trans (d.mono h.b.size),h.r.new f d,λa e=>⟨(h.k a e).1,(d.block a (Xa.1 (h.k a e).2).1).trans (h.k a e).2⟩⟩
theorem ZB.al {W v A:Xg} {l:List (Option Y7×Nat×Nat)} (h:ZB W v none l) (d:v.alloc (.cells Z6 92)=A):ZB W A (some v.heap.size) l:=by
 subst d;have c:Below v.heap.size v (v.alloc (.cells Z6 92)):=(Below.refl _ _).alloc (Xf _) _
 exact⟨h.b.trans (c.mono h.b.size),h.r.go c,λa e=>by cases e;exact⟨h.b.size,World.alloc_heap_new v _⟩⟩
theorem ZB.fin {W v:Xg} {a o r n i j s T O I J H P:Nat} {u g w m p t:Option Y7} (E C A G F D:Nat) (h:ZB W v (some a) [(u,o,T),(g,r,O),(w,n,I),(m,i,J),(p,j,H),(t,s,P)]) :
 ∃Z,v.setCells a 0 (#[Value.slice u o E,.slice g r C,.slice w n A,.slice m i G,.slice p j F,.slice t s D]:Array Value).toList=Z/\Z.heap[a]?=some (.cells #[.slice u o E,.slice g r C,.slice w n A,.slice m i G,.slice p j F,.slice t s D] 92)/\GV Z W.heap.size u g w m p t (XJ o 0) (XJ r 0) (XJ n 0) (XJ i 0) (XJ j 0) (XJ s 0) T O I J H P/\W.heap.size<=a/\Below W.heap.size W Z:=by
 obtain⟨d,⟨s0,l0,s1,l1,V,l2,s3,l3,U,Y,X,l5,l6⟩,x⟩:=h;obtain⟨ha,x⟩:=x a rfl;obtain⟨Z,B⟩:∃Z,v.setCells a 0 (#[Value.slice u o E,.slice g r C,.slice w n A,.slice m i G,.slice p j F,.slice t s D]:Array Value).toList=Z:=⟨_,rfl⟩;have c:Ae (λk=>k=a) v Z:=by rw[<-B];exact Fx (S:=λk=>k=a) _ 0 (Ae.refl v) (.inl rfl)
 have M:=c.size;have K:∀{R q:Nat} {b:Option Y7} {l:List Int},BG v R q b l->BG Z R q b l:=λh=>by
  rcases h with h|⟨b,N,f,e,h1,h2,⟨cs,y,q2⟩,h3⟩
  ·exact .inl h
  ·refine .inr ⟨b,N,f,e,h1,h2,⟨cs,(c.block b (Xa.1 y).1 (λz=>?_)).trans y,q2⟩,h3⟩;have z:b=a:=z;rw[z,x] at y
   cases y
 exact⟨Z,B,by rw[<-B];exact TK _ _ _ _ _ _ x,⟨K s0,K s1,K V,K s3,K U,K X,l0,l1,l2,l3,Y,l5,Xu l6 M⟩,ha,⟨c.os.trans d.os,c.tape.trans d.tape,c.output.trans d.output,Xu d.size M,λk Q=>(c.block k (Nat.lt_of_lt_of_le Q d.size) (λe=>by have e:k=a:=e;omega)).trans (d.block k Q)⟩⟩
end
theorem NJ {x:Tx} {n:Nat} (h:x.length+n<=4611686018427387904):¬9223372036854775807<(bs x).size+n:=by rw[AY];omega
section
variable {w w':Xg} {a:Option Y7} {l:List Int} {ns:List Tx}
end
end Go.Proofs.YtdcacoifehkioaaGreatDoor
