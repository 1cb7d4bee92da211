import Derived.Test.YtiaedjnedoemoabOrdLaw
import Derived.Test.YtiaedjnedoemoabOrdRaces
namespace Go.Proofs.Ytiaedjnedoemoab
open Go.RowKit Go.Proofs.Ord

/-- Whether event i is before event j, for any numbers. -/
def befI (l : List Ev) (i j : Int) : Bool := decide (0 ≤ i ∧ i < l.length ∧ 0 ≤ j ∧ j < l.length) && bef (ev l) i.toNat j.toNat

set_option maxHeartbeats 1000000 in
theorem kept_true (a : Option Addr) (n cap : Nat) (a' : Option Addr) (cap' : Nat) (l : List Ev) (w : World) (hn : l.length = n) (hs : EvS w a l) (hs' : EvS w a' l) (hb : n * 32 ≤ 140737488351232) :
    Calls Try.prog 29 #[.slice a n cap, .slice a' n cap'] w fun e w' => e = .returned (.bool true) ∧ Below w.heap.size w w' := by
  go_enter Try.func29, Try.ntmps29
  go_wp2
  go_loopw [5] (fun i wr => ∃ k : Nat, k ≤ n ∧ i = .int .i64 k ∧ Below w.heap.size w wr) (fun i _ => n - (intOf i).toNat)
  case atStart => exact ⟨0, Nat.zero_le _, rfl, Below.refl _ _⟩
  case round =>
    obtain ⟨k, hk, rfl, hbel⟩ := hrel
    by_cases h5 : k < n
    · obtain ⟨b, off, rfl, hlt, _⟩ := hs k (by omega)
      obtain ⟨b', off', rfl, hlt', _⟩ := hs' k (by omega)
      obtain ⟨t1, k1, o1, v1, HE1, c0, c1, c2, c3⟩ := hs.at hbel (i := k) (by omega)
      obtain ⟨t2, k2, o2, v2, HE2, d0, d1, d2, d3⟩ := hs'.at hbel (i := k) (by omega)
      have e := HE1.out.symm.trans HE2.out
      cases e
      have hkn : (k : Int) < (n : Int) := by omega
      have f1 : (t1 != t1) = false := by simp
      have f2 : (k1 != k1) = false := by simp
      have f3 : (o1 != o1) = false := by simp
      have f4 : (v1 != v1) = false := by simp
      clear HE1 HE2
      go_wp2_with fail
      go_quiet (fail)
      go_wp2
      go_roundw
      case rel => exact ⟨k + 1, by omega, by go_num, o_drewN hbel _⟩
      case measure => simp [intOf]; omega
    · go_wp2
      go_ret
      exact ⟨rfl, hbel⟩

theorem pairCells_getElem (l : List (Nat × Nat)) : ∀ i, i < l.length → (pairCells l)[2 * i]? = some (.int .i64 ((l.getD i (0, 0)).1 : Int)) ∧ (pairCells l)[2 * i + 1]? = some (.int .i64 ((l.getD i (0, 0)).2 : Int)) := by
  induction l with
  | nil => intro i hi; simp at hi
  | cons e r ih =>
    intro i hi
    match i with
    | 0 => exact ⟨rfl, rfl⟩
    | j + 1 =>
      have h := ih j (by simpa using hi)
      have e1 : pairCells (e :: r) = .int .i64 (e.1 : Int) :: .int .i64 (e.2 : Int) :: pairCells r := rfl
      have e2 : (e :: r).getD (j + 1) (0, 0) = r.getD j (0, 0) := rfl
      rw [e1, e2, show 2 * (j + 1) = 2 * j + 2 from by omega, show 2 * j + 2 + 1 = 2 * j + 1 + 2 from by omega]
      exact h

/-- Pairs lie here. -/
def PairS (w : World) (a : Option Addr) (ps : List (Nat × Nat)) : Prop :=
  ∀ i, i < ps.length → ∃ b off, a = some ⟨b, off, none⟩ ∧ b < w.heap.size ∧ w.cell? ⟨b, off + i * 2, none⟩ = some (.int .i64 ((ps.getD i (0, 0)).1 : Int)) ∧ w.cell? ⟨b, off + i * 2 + 1, none⟩ = some (.int .i64 ((ps.getD i (0, 0)).2 : Int))

theorem PairS.below {w w' : World} {a : Option Addr} {ps : List (Nat × Nat)} (h : PairS w a ps) (hb : Below w.heap.size w w') : PairS w' a ps := by
  intro i hi
  obtain ⟨b, off, ha, hlt, h1, h2⟩ := h i hi
  exact ⟨b, off, ha, by have := hb.size; omega, (hb.cell (p := ⟨b, off + i * 2, none⟩) hlt).trans h1, (hb.cell (p := ⟨b, off + i * 2 + 1, none⟩) hlt).trans h2⟩

theorem pairS_of_owns {w : World} {B t n : Nat} {v : Value} {ps : List (Nat × Nat)} (h : w.ownsRow B t 2 v n (pairCells ps)) : ∃ a cap, v = .slice a n cap ∧ ps.length = n ∧ n ≤ cap ∧ cap ≤ maxLen ∧ PairS w a ps := by
  have hl : ps.length = n := by have := h.1; rw [pairCells_length] at this; omega
  rcases h.2 with ⟨rfl, h0⟩ | ⟨g, cap, cur, rfl, hB, hg, hc, hm, _, _⟩
  · subst h0
    exact ⟨none, 0, rfl, hl, Nat.le_refl _, by unfold maxLen; omega, fun i hi => absurd hi (by omega)⟩
  · refine ⟨_, cap, rfl, hl, hc, hm, fun i hi => ⟨g, 0, rfl, (Array.getElem?_eq_some_iff.1 hg).1, ?_, ?_⟩⟩
    · rw [show 0 + i * 2 = 2 * i from by omega, h.cellAt _ (by omega)]; exact (pairCells_getElem ps i hi).1
    · rw [show 0 + i * 2 + 1 = 2 * i + 1 from by omega, h.cellAt _ (by omega)]; exact (pairCells_getElem ps i hi).2

end Go.Proofs.Ytiaedjnedoemoab
