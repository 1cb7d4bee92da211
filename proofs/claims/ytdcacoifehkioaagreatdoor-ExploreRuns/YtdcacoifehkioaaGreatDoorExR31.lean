import Derived.Test.YtdcacoifehkioaaGreatDoorExR20
import Derived.Test.YtdcacoifehkioaaGreatDoorExR24
import Derived.Test.YtdcacoifehkioaaGreatDoorExR19
import Derived.Test.YtdcacoifehkioaaGreatDoorExR3
import Derived.Test.YtdcacoifehkioaaGreatDoorExR29
import Derived.Test.YtdcacoifehkioaaGreatDoorExR26
open Go.Lib renaming join->YP
open List renaming append_assoc->Xx,take_add_one->YY,length_take->X2,length_append->Xd,mem_map->Yg
set_option linter.unusedVariables false
set_option linter.unusedSimpArgs false
namespace Go.Proofs.YtdcacoifehkioaaGreatDoor
open Go.RowKit Go.Shelf Go.Proofs.Cod
theorem Qq {l:List Tx} (x:Tx) (h:l≠[]):YP (l++[x]) [32]=YP l [32]++[32]++x:=by
 cases l with
 |nil=>exact absurd rfl h
 |cons y r=>
  rw[List.cons_append,Lib.join_cons,Lib.join_cons];simp[Lib.joinTail,Xx]
theorem WV {l:List Tx} {x:Tx} (h:l[0]?=some x):YP (l.take 1) [32]=x:=by
 rw[YY,h];simp[Lib.join_one]
theorem WU {l:List Tx} {i:Nat} {x:Tx} (a:0<i) (h:l[i]?=some x):YP (l.take (i+1)) [32]=YP (l.take i) [32]++[32]++x:=by
 rw[YY,h];refine Qq x (λe=>?_);have b:=(List.getElem?_eq_some_iff.1 h).1;have:=congrArg List.length e;rw[X2,List.length_nil] at this
 omega
theorem WX {l:List Tx} (h:∀x,x∈l->x≠[]) (a:l≠[]):YP l [32]≠[]:=by
 cases l with
 |nil=>exact absurd rfl a
 |cons y r=>
  rw[Lib.join_cons];intro e;exact h y (by simp) (List.append_eq_nil_iff.1 e).1
theorem WW {l:List Tx} {i:Nat} {x:Tx} (h:l[i]?=some x):YP (l.take (i+1)) [32]=(if 0<i then YP (l.take i) [32]++[32] else [])++x:=by
 by_cases e:0<i
 ·rw[if_pos e,WU e h]
 ·have:i=0:=by omega
  subst this;rw[if_neg e,WV h];rfl
theorem QO:∀(l:List Tx),(∀x,x∈l->x.length<=30)->(l.flatMap (λx=>x++[10])).length<=l.length*31
 |[],_=>Nat.le_refl _
 |a::l,h=>by
  have c:=h a (List.mem_cons_self ..);have d:=QO l λx b=>h x (List.mem_cons_of_mem _ b);rw[List.flatMap_cons,Xd,Xd];show a.length+1+_<=(l.length+1)*31
  omega
theorem Vl {p:PD} {m:MS} (b:DK p) (c:∀k,CZ (m.vars.getD k 0)) (d:∀k,CZ (m.flags.getD k 0)):∀x,x∈Bb p m->x.length<=30/\x≠[]:=by
 intro x a;unfold Bb GF LX at a;rw[List.mem_append,Yg,Yg] at a
 rcases a with⟨k,-,rfl⟩|⟨k,-,rfl⟩
 ·have e:=b.v k;have g:=EH (c k).1 (c k).2;refine⟨?_,by simp⟩;rw[Xd,Xd];have:([61]:Tx).length=1:=rfl
  omega
 ·have e:=b.f k;have g:=EH (d k).1 (d k).2;refine⟨?_,by simp⟩;rw[Xd,Xd];have:([61]:Tx).length=1:=rfl
  omega
theorem WY {l:List Tx} (h:∀x,x∈l->x.length<=30) (i:Nat):(YP (l.take i) [32]).length<=i*31:=by
 refine Nat.le_trans (Kh _) (Nat.le_trans (QO _ λx a=>h x (List.mem_of_mem_take a)) ?_);exact Nat.mul_le_mul_right 31 (by rw[X2];omega)
theorem VA {p:PD} {m:MS} (h:¬0<AB m):BD p m=YP (Bb p m) [32]:=by unfold BD;rw[if_neg h,List.append_nil]
theorem Vz {p:PD} {m:MS} (h:0<AB m) (a:Bb p m≠[]):BD p m=YP (Bb p m) [32]++[32,115,116,117,99,107]:=by
 unfold BD;rw[if_pos h,Qq _ a,Xx]
 rfl
theorem VB {p:PD} {m:MS} (h:0<AB m) (a:Bb p m=[]):BD p m=[115,116,117,99,107]:=by
 unfold BD;rw[if_pos h,a];exact Lib.join_one _ _
section
variable {w w':World} {a0 a1 a2 a3 a4 a5:Option Addr} {nv nf nl nt nr:Nat} {m:MS} {P:RP} {TV:List (Value×Value)} {x1 x2 x3 x4:Option Addr} {z1 z2 z3 z4:Nat}
end
section
variable {w w':World} {a0 a1 a2 a3 a4 a5:Option Addr} {nv nf nl nt nr:Nat} {m:MS} {P:RP} {TV:List (Value×Value)} {x1 x2 x3 x4:Option Addr} {y1 y2 y3 z1 z2 z3 z4:Nat}
end
end Go.Proofs.YtdcacoifehkioaaGreatDoor
