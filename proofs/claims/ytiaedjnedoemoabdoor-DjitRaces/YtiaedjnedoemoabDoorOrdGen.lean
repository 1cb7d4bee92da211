import Derived.Test.YtiaedjnedoemoabDoorOrdPs
import Derived.Test.YtiaedjnedoemoabDoorOrdLaw
namespace Go.Proofs.YtiaedjnedoemoabDoor
open Go.RowKit Go.Proofs.Ord

/-- Pairs in new memory, which can be written. -/
def PairNew (B : Nat) (w : World) (v : Value) (ps : List (Nat × Nat)) : Prop :=
  ∃ a cap, v = .slice a ps.length cap ∧ ps.length ≤ cap ∧ cap ≤ maxLen ∧
    ∀ i, i < ps.length → ∃ b off, a = some ⟨b, off, none⟩ ∧ B ≤ b ∧ b < w.heap.size ∧ w.cell? ⟨b, off + i * 2, none⟩ = some (.int .i64 ((ps.getD i (0, 0)).1 : Int)) ∧ w.cell? ⟨b, off + i * 2 + 1, none⟩ = some (.int .i64 ((ps.getD i (0, 0)).2 : Int)) ∧
      w.frozen? ⟨b, off + i * 2, none⟩ = false ∧ w.frozen? ⟨b, off + i * 2 + 1, none⟩ = false
theorem PairNew.pairS {B : Nat} {w : World} {a : Option Addr} {n cap : Nat} {ps : List (Nat × Nat)} (h : PairNew B w (.slice a n cap) ps) : ps.length = n ∧ PairS w a ps := by
  obtain ⟨a', cap', e, _, _, h3⟩ := h
  cases e
  exact ⟨rfl, fun i hi => by obtain ⟨b, off, e1, _, e3, e4, e5, _, _⟩ := h3 i hi; exact ⟨b, off, e1, e3, e4, e5⟩⟩
theorem evS_lit (w : World) (t : Nat) (l : List Ev) (hl : l.length ≤ 1000) : EvS (w.alloc (.cells (evCells l).toArray t)) (some ⟨w.heap.size, 0, none⟩) l := by
  have h := World.ownsRow_lit (base := w.heap.size) (e := t) (size := 4) w (evCells l).toArray l.length (Nat.le_refl _) (by unfold maxLen; omega) (by simp [evCells_length]; omega)
  obtain ⟨a, cap, e, _, _, _, h2⟩ := evS_of_owns (l := l) (v := .slice (some ⟨w.heap.size, 0, none⟩) l.length l.length) (by simpa using h)
  cases e
  exact h2
theorem PairNew.below {B B' : Nat} {w w' : World} {v : Value} {ps : List (Nat × Nat)} (h : PairNew B w v ps) (hb : Below w.heap.size w w') (hB : B' ≤ B) : PairNew B' w' v ps := by
  obtain ⟨a, cap, e, h1, h2, h3⟩ := h
  refine ⟨a, cap, e, h1, h2, fun i hi => ?_⟩
  obtain ⟨b, off, e1, e2, e3, e4, e5, e6, e7⟩ := h3 i hi
  exact ⟨b, off, e1, by omega, by have := hb.size; omega, (hb.cell (p := ⟨b, off + i * 2, none⟩) e3).trans e4, (hb.cell (p := ⟨b, off + i * 2 + 1, none⟩) e3).trans e5, (hb.frozen (p := ⟨b, off + i * 2, none⟩) e3).trans e6, (hb.frozen (p := ⟨b, off + i * 2 + 1, none⟩) e3).trans e7⟩
theorem size_setCell (w : World) (a : Addr) (u : Value) : (w.setCell a u).heap.size = w.heap.size := by
  have h := (Below.refl 0 w).setCell (p := a) (Nat.zero_le _) u
  simp
theorem PairNew.setCell {B b o : Nat} {w : World} {v : Value} {ps : List (Nat × Nat)} (h : PairNew B w v ps) (hb : b < B) (u : Value) : PairNew B (w.setCell ⟨b, o, none⟩ u) v ps := by
  obtain ⟨a, cap, e, h1, h2, h3⟩ := h
  refine ⟨a, cap, e, h1, h2, fun i hi => ?_⟩
  obtain ⟨b', off, e1, e2, e3, e4, e5, e6, e7⟩ := h3 i hi
  refine ⟨b', off, e1, e2, by rw [size_setCell]; exact e3, ?_, ?_, ?_, ?_⟩
  · rw [World.cell?_setCell_other _ _ _ _ (by intro e; cases e; omega)]; exact e4
  · rw [World.cell?_setCell_other _ _ _ _ (by intro e; cases e; omega)]; exact e5
  · rw [World.frozen?_setCell]; exact e6
  · rw [World.frozen?_setCell]; exact e7
theorem pairNew_of_owns {w : World} {B t n : Nat} {v : Value} {ps : List (Nat × Nat)} (h : w.ownsRow B t 2 v n (pairCells ps)) : PairNew B w v ps := by
  have hl : ps.length = n := by have := h.1; rw [pairCells_length] at this; omega
  rcases h.2 with ⟨rfl, h0⟩ | ⟨g, cap, cur, rfl, hB, hg, hc, hm, _, _⟩
  · subst h0
    exact ⟨none, 0, by rw [hl], by omega, by unfold maxLen; omega, fun i hi => absurd hi (by omega)⟩
  · refine ⟨_, cap, by rw [hl], by omega, hm, fun i hi => ⟨g, 0, rfl, hB, (Array.getElem?_eq_some_iff.1 hg).1, ?_, ?_, h.frozenAt _, h.frozenAt _⟩⟩
    · rw [show 0 + i * 2 = 2 * i from by omega, h.cellAt _ (by omega)]; exact (pairCells_getElem ps i hi).1
    · rw [show 0 + i * 2 + 1 = 2 * i + 1 from by omega, h.cellAt _ (by omega)]; exact (pairCells_getElem ps i hi).2
/-- The first numbers of pairs can be written, in blocks from B to C. -/
def PairOpen (B C : Nat) (w : World) (a : Option Addr) (m : Nat) : Prop :=
  ∀ j, j < m → ∃ b off, a = some ⟨b, off, none⟩ ∧ B ≤ b ∧ b < C ∧ (w.cell? ⟨b, off + j * 2, none⟩).isSome = true ∧ w.frozen? ⟨b, off + j * 2, none⟩ = false
theorem PairNew.opened {B : Nat} {w : World} {a : Option Addr} {n cap : Nat} {ps : List (Nat × Nat)} (h : PairNew B w (.slice a n cap) ps) : PairOpen B w.heap.size w a n := by
  obtain ⟨a', cap', e, _, _, h3⟩ := h
  cases e
  intro j hj
  obtain ⟨b, off, e1, e2, e3, e4, e5, e6, e7⟩ := h3 j hj
  exact ⟨b, off, e1, e2, e3, by rw [e4]; rfl, e6⟩
theorem PairOpen.below {B C m : Nat} {w w' : World} {a : Option Addr} (h : PairOpen B C w a m) (hb : Below C w w') : PairOpen B C w' a m := by
  intro j hj
  obtain ⟨b, off, e1, e2, e3, e4, e5⟩ := h j hj
  exact ⟨b, off, e1, e2, e3, by rw [hb.cell (p := ⟨b, off + j * 2, none⟩) e3]; exact e4, (hb.frozen (p := ⟨b, off + j * 2, none⟩) e3).trans e5⟩
theorem isSome_setCell {w : World} {p q : Addr} {u : Value} (h : (w.cell? q).isSome = true) : ((w.setCell p u).cell? q).isSome = true := by
  obtain ⟨x, hx⟩ := Option.isSome_iff_exists.1 h
  by_cases e : q = p
  · subst e
    rw [World.cell?_setCell_same w q u hx]; rfl
  · rw [World.cell?_setCell_other _ _ _ _ (fun h => e h.symm)]; exact h
theorem PairOpen.setCell {B C m : Nat} {w : World} {a : Option Addr} (h : PairOpen B C w a m) (p : Addr) (u : Value) : PairOpen B C (w.setCell p u) a m := by
  intro j hj
  obtain ⟨b, off, e1, e2, e3, e4, e5⟩ := h j hj
  exact ⟨b, off, e1, e2, e3, isSome_setCell e4, by rw [World.frozen?_setCell]; exact e5⟩
theorem beq_self_bool (b : Bool) : (b == b) = true := by cases b <;> rfl
end Go.Proofs.YtiaedjnedoemoabDoor
