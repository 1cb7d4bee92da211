import Derived.Test.YtiaedjnedoemoabDoorOrdGen
import Derived.Test.YtiaedjnedoemoabDoorDjMath
import Derived.Test.YtiaedjnedoemoabDoorSlBase
namespace Go.Proofs.YtiaedjnedoemoabDoor
open Go.RowKit Go.Proofs.Ord

/-- Truths lie here. -/
def BoolS (w : World) (a : Option Addr) (n : Nat) (f : Nat → Bool) : Prop :=
  ∀ i, i < n → ∃ b off, a = some ⟨b, off, none⟩ ∧ b < w.heap.size ∧ w.cell? ⟨b, off + i, none⟩ = some (.bool (f i))
theorem BoolS.below {w w' : World} {a : Option Addr} {n : Nat} {f : Nat → Bool} (h : BoolS w a n f) (hb : Below w.heap.size w w') : BoolS w' a n f := by
  intro i hi
  obtain ⟨b, off, e1, e2, e3⟩ := h i hi
  exact ⟨b, off, e1, by have := hb.size; omega, (hb.cell (p := ⟨b, off + i, none⟩) e2).trans e3⟩
theorem Tells.boolS {w : World} {B g n : Nat} {f : Nat → Bool} (h : Tells w B g n f) : BoolS w (some ⟨g, 0, none⟩) n f :=
  fun i hi => ⟨g, 0, rfl, (World.ownsRow.lt h _ rfl).2, by rw [Nat.zero_add]; exact h.cell hi⟩
theorem take_any (P : List (Nat × Nat)) (i : Nat) (hi : i < P.length) (q : Nat) : ((P.take (i + 1)).any fun p => p.2 == q) = (((P.take i).any fun p => p.2 == q) || (P.getD i (0, 0)).2 == q) := by
  rw [List.take_succ_eq_append_getElem hi, List.any_append]
  have : P.getD i (0, 0) = P[i] := by simp [hi]
  rw [this]; simp
end Go.Proofs.YtiaedjnedoemoabDoor
