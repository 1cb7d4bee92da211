import Derived.Test.YtdcacoifehkioaaGreatDoorExR3
import Derived.Test.YtdcacoifehkioaaGreatDoorExR28
import Derived.Test.YtdcacoifehkioaaGreatDoorExR25
import Derived.BigQuiet
import Derived.Test.YtdcacoifehkioaaGreatDoorExR24
import Derived.Test.YtdcacoifehkioaaGreatDoorExR26
import Derived.Test.YtdcacoifehkioaaGreatDoorExR27
open Go renaming World->Xg,Value->Xj
set_option linter.unusedVariables false
set_option linter.unusedSimpArgs false
namespace Go.Proofs.YtdcacoifehkioaaGreatDoor
open Go.RowKit Go.Shelf Go.Proofs.Cod
def OZ (P:RP):PD:=⟨P.vs,P.fs,P.ls,P.names,Kv P⟩
section
variable {w w':Xg} {a0 a1 a2 a3 a4 a5:Option Addr} {nv nf nl nt nr:Nat} {m:MS} {P:RP} {TV:List (Xj×Xj)} {x1 x2 x3 x4:Option Addr} {z1 z2 z3 z4:Nat}
end
section
variable {w w':Xg} {a0 a1 a2 a3 a4 a5:Option Addr} {nv nf nl nt nr:Nat} {m:MS} {P:RP} {TV:List (Xj×Xj)} {x1 x2 x3 x4:Option Addr} {y1 y2 y3 z1 z2 z3 z4:Nat}
end
section
variable {S:Type} {key:S->Tx} {succ:S->List S} {most n i:Nat} {ms:List S} {m:S} {res:Option (List S)}
end
structure MU (W0:Xg) (base sb:Nat) (d:D5) (p:PD) (wr:Xg) (av:Xj) (ms:List MS) (most:Nat):Prop where
 all:∃S,FS wr base d av S ms
 seen:Ic wr base sb (ms.map (Aj p))
 bel:Below base W0 wr
 le:ms.length<=most
 ok:∀m,m∈ms->CG d.nv d.nf d.nl p.C m
section
variable {W0 wr wr':Xg} {base sb most:Nat} {d:D5} {p:PD} {av:Xj} {ms:List MS}
theorem Ic.below {w w':Xg} {a:List Tx} (h:Ic w base sb a) (b:Below w.heap.size w w'):Ic w' base sb a:=by
 rcases h with⟨c,e,d⟩|⟨g,f,L,h⟩
 ·exact .inl ⟨(b.block _ (Array.getElem?_eq_some_iff.1 c).1).trans c,e,d⟩
 ·exact .inr ⟨g,f,L,h.below b⟩
theorem Ic.keep {w w':Xg} {a:List Tx} (h:Ic w base sb a) (c:∀(b:Nat) (cs:Array Xj) (T:Nat),w.heap[b]?=some (.cells cs T)->T≠92->w'.heap[b]?=w.heap[b]?):Ic w' base sb a:=by
 rcases h with⟨d,i,e⟩|⟨g,f,L,h⟩
 ·exact .inl ⟨(c _ _ _ d (by decide)).trans d,i,e⟩
 ·exact .inr ⟨g,f,L,h.keep c⟩
theorem MU.below (h:MU W0 base sb d p wr av ms most) (c:base<=W0.heap.size) (a:Below wr.heap.size wr wr'):MU W0 base sb d p wr' av ms most:=by
 obtain⟨S,b⟩:=h.all
 exact⟨⟨S,b.below a⟩,h.seen.below a,h.bel.trans (a.mono (by have:=h.bel.size;omega)),h.le,h.ok⟩
end
end Go.Proofs.YtdcacoifehkioaaGreatDoor
