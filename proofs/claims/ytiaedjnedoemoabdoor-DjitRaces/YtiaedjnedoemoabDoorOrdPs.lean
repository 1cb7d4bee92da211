import Derived.Test.YtiaedjnedoemoabDoorOrdLaw
import Derived.Test.YtiaedjnedoemoabDoorOrdPc
namespace Go.Proofs.YtiaedjnedoemoabDoor
open Go.RowKit Go.Proofs.Ord

/-- Whether event i is before event j, for any numbers. -/
def befI (l : List Ev) (i j : Int) : Bool := decide (0 ≤ i ∧ i < l.length ∧ 0 ≤ j ∧ j < l.length) && bef (ev l) i.toNat j.toNat
theorem pairCells_getElem (l : List (Nat × Nat)) : ∀ i, i < l.length → (pairCells l)[2 * i]? = some (.int .i64 ((l.getD i (0, 0)).1 : Int)) ∧ (pairCells l)[2 * i + 1]? = some (.int .i64 ((l.getD i (0, 0)).2 : Int)) := by
  induction l with
  | nil => intro i hi; simp at hi
  | cons e r ih =>
    intro i hi
    match i with
    | 0 => exact ⟨rfl, rfl⟩
    | j + 1 =>
      have h := ih j (by simpa using hi)
      have e1 : pairCells (e :: r) = .int .i64 (e.1 : Int) :: .int .i64 (e.2 : Int) :: pairCells r := rfl
      have e2 : (e :: r).getD (j + 1) (0, 0) = r.getD j (0, 0) := rfl
      rw [e1, e2, show 2 * (j + 1) = 2 * j + 2 from by omega, show 2 * j + 2 + 1 = 2 * j + 1 + 2 from by omega]
      exact h
/-- Pairs lie here. -/
def PairS (w : World) (a : Option Addr) (ps : List (Nat × Nat)) : Prop :=
  ∀ i, i < ps.length → ∃ b off, a = some ⟨b, off, none⟩ ∧ b < w.heap.size ∧ w.cell? ⟨b, off + i * 2, none⟩ = some (.int .i64 ((ps.getD i (0, 0)).1 : Int)) ∧ w.cell? ⟨b, off + i * 2 + 1, none⟩ = some (.int .i64 ((ps.getD i (0, 0)).2 : Int))
theorem PairS.below {w w' : World} {a : Option Addr} {ps : List (Nat × Nat)} (h : PairS w a ps) (hb : Below w.heap.size w w') : PairS w' a ps := by
  intro i hi
  obtain ⟨b, off, ha, hlt, h1, h2⟩ := h i hi
  exact ⟨b, off, ha, by have := hb.size; omega, (hb.cell (p := ⟨b, off + i * 2, none⟩) hlt).trans h1, (hb.cell (p := ⟨b, off + i * 2 + 1, none⟩) hlt).trans h2⟩
theorem pairS_of_owns {w : World} {B t n : Nat} {v : Value} {ps : List (Nat × Nat)} (h : w.ownsRow B t 2 v n (pairCells ps)) : ∃ a cap, v = .slice a n cap ∧ ps.length = n ∧ n ≤ cap ∧ cap ≤ maxLen ∧ PairS w a ps := by
  have hl : ps.length = n := by have := h.1; rw [pairCells_length] at this; omega
  rcases h.2 with ⟨rfl, h0⟩ | ⟨g, cap, cur, rfl, hB, hg, hc, hm, _, _⟩
  · subst h0
    exact ⟨none, 0, rfl, hl, Nat.le_refl _, by unfold maxLen; omega, fun i hi => absurd hi (by omega)⟩
  · refine ⟨_, cap, rfl, hl, hc, hm, fun i hi => ⟨g, 0, rfl, (Array.getElem?_eq_some_iff.1 hg).1, ?_, ?_⟩⟩
    · rw [show 0 + i * 2 = 2 * i from by omega, h.cellAt _ (by omega)]; exact (pairCells_getElem ps i hi).1
    · rw [show 0 + i * 2 + 1 = 2 * i + 1 from by omega, h.cellAt _ (by omega)]; exact (pairCells_getElem ps i hi).2
end Go.Proofs.YtiaedjnedoemoabDoor
