import Derived.Test.YtcfpedjfofpnkaaGreatDoorChecked
import Derived.WalkKit
import Derived.ProofKit
set_option linter.unusedVariables false
set_option linter.unusedSimpArgs false
namespace Go.Proofs.Ord
structure Ev where
 thread : Int
 kind : Int
 obj : Int
 value : Int
def Ev.zero : Ev := ⟨0, 0, 0, 0⟩
def ev (l : List Ev) (k : Nat) : Ev := l.getD k Ev.zero
def leads (a b : Ev) : Bool :=
 a.thread == b.thread || (a.kind == 6 && b.kind == 5 && a.obj == b.obj) || (a.kind == 4 && b.kind == 3 && a.obj == b.obj) || (a.kind == 7 && a.obj == b.thread) || (b.kind == 8 && b.obj == a.thread)
def row (l : Nat → Ev) (i : Nat) : Nat → List Bool
 | 0 => []
 | n + 1 => row l i n ++ [decide (i < n) && (leads (l i) (l n) || (List.range n).any fun k => decide (i < k) && ((row l i n).getD k false && leads (l k) (l n)))]
def bef (l : Nat → Ev) (i j : Nat) : Bool := (row l i (j + 1)).getD j false
def part (l : Nat → Ev) (i j k : Nat) : Bool := leads (l i) (l j) || (List.range k).any fun q => decide (i < q) && (bef l i q && leads (l q) (l j))
end Go.Proofs.Ord
namespace Go.Proofs.YtcfpedjfofpnkaaGreatDoor
open Go.RowKit Go.Proofs.Ord
theorem o_hide {p : Prop} (h : p) : Hid p := h
end Go.Proofs.YtcfpedjfofpnkaaGreatDoor
