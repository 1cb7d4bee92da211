import Derived.Test.YtohnhfopigjpmaaDoorOrdLaw
import Derived.Test.YtohnhfopigjpmaaDoorOrdRaces
namespace Go.Proofs.YtohnhfopigjpmaaDoor
open Go.RowKit Go.Proofs.Ord

/-- Whether event i is before event j, for any numbers. -/
def befI (l : List Ev) (i j : Int) : Bool := decide (0 ≤ i ∧ i < l.length ∧ 0 ≤ j ∧ j < l.length) && bef (ev l) i.toNat j.toNat

set_option maxHeartbeats 1000000 in
theorem kept_true (a : Option Addr) (n cap : Nat) (a' : Option Addr) (cap' : Nat) (l : List Ev) (w : World) (hn : l.length = n) (hs : EvS w a l) (hs' : EvS w a' l) (hb : n * 32 ≤ 140737488351232) :
    Calls Tryd.prog 11 #[.slice a n cap, .slice a' n cap'] w fun e w' => e = .returned (.bool true) ∧ Below w.heap.size w w' := by
  go_enter Tryd.func11, Tryd.ntmps11
  go_wp2
  go_loopw [5] (fun i wr => ∃ k : Nat, k ≤ n ∧ i = .int .i64 k ∧ Below w.heap.size w wr) (fun i _ => n - (intOf i).toNat)
  case atStart => exact ⟨0, Nat.zero_le _, rfl, Below.refl _ _⟩
  case round =>
    obtain ⟨k, hk, rfl, hbel⟩ := hrel
    by_cases h5 : k < n
    · obtain ⟨b, off, rfl, hlt, _⟩ := hs k (by omega)
      obtain ⟨b', off', rfl, hlt', _⟩ := hs' k (by omega)
      obtain ⟨t1, k1, o1, v1, HE1, c0, c1, c2, c3⟩ := hs.at hbel (i := k) (by omega)
      obtain ⟨t2, k2, o2, v2, HE2, d0, d1, d2, d3⟩ := hs'.at hbel (i := k) (by omega)
      have e := HE1.out.symm.trans HE2.out
      cases e
      have hkn : (k : Int) < (n : Int) := by omega
      have f1 : (t1 != t1) = false := by simp
      have f2 : (k1 != k1) = false := by simp
      have f3 : (o1 != o1) = false := by simp
      have f4 : (v1 != v1) = false := by simp
      clear HE1 HE2
      go_wp2_with fail
      go_quiet (fail)
      go_wp2
      go_roundw
      case rel => exact ⟨k + 1, by omega, by go_num, o_drewN hbel _⟩
      case measure => simp [intOf]; omega
    · go_wp2
      go_ret
      exact ⟨rfl, hbel⟩

theorem pairCells_getElem (l : List (Nat × Nat)) : ∀ i, i < l.length → (pairCells l)[2 * i]? = some (.int .i64 ((l.getD i (0, 0)).1 : Int)) ∧ (pairCells l)[2 * i + 1]? = some (.int .i64 ((l.getD i (0, 0)).2 : Int)) := by
  induction l with
  | nil => intro i hi; simp at hi
  | cons e r ih =>
    intro i hi
    match i with
    | 0 => exact ⟨rfl, rfl⟩
    | j + 1 =>
      have h := ih j (by simpa using hi)
      have e1 : pairCells (e :: r) = .int .i64 (e.1 : Int) :: .int .i64 (e.2 : Int) :: pairCells r := rfl
      have e2 : (e :: r).getD (j + 1) (0, 0) = r.getD j (0, 0) := rfl
      rw [e1, e2, show 2 * (j + 1) = 2 * j + 2 from by omega, show 2 * j + 2 + 1 = 2 * j + 1 + 2 from by omega]
      exact h

/-- Pairs lie here. -/
def PairS (w : World) (a : Option Addr) (ps : List (Nat × Nat)) : Prop :=
  ∀ i, i < ps.length → ∃ b off, a = some ⟨b, off, none⟩ ∧ b < w.heap.size ∧ w.cell? ⟨b, off + i * 2, none⟩ = some (.int .i64 ((ps.getD i (0, 0)).1 : Int)) ∧ w.cell? ⟨b, off + i * 2 + 1, none⟩ = some (.int .i64 ((ps.getD i (0, 0)).2 : Int))

theorem PairS.below {w w' : World} {a : Option Addr} {ps : List (Nat × Nat)} (h : PairS w a ps) (hb : Below w.heap.size w w') : PairS w' a ps := by
  intro i hi
  obtain ⟨b, off, ha, hlt, h1, h2⟩ := h i hi
  exact ⟨b, off, ha, by have := hb.size; omega, (hb.cell (p := ⟨b, off + i * 2, none⟩) hlt).trans h1, (hb.cell (p := ⟨b, off + i * 2 + 1, none⟩) hlt).trans h2⟩

theorem pairS_of_owns {w : World} {B t n : Nat} {v : Value} {ps : List (Nat × Nat)} (h : w.ownsRow B t 2 v n (pairCells ps)) : ∃ a cap, v = .slice a n cap ∧ ps.length = n ∧ n ≤ cap ∧ cap ≤ maxLen ∧ PairS w a ps := by
  have hl : ps.length = n := by have := h.1; rw [pairCells_length] at this; omega
  rcases h.2 with ⟨rfl, h0⟩ | ⟨g, cap, cur, rfl, hB, hg, hc, hm, _, _⟩
  · subst h0
    exact ⟨none, 0, rfl, hl, Nat.le_refl _, by unfold maxLen; omega, fun i hi => absurd hi (by omega)⟩
  · refine ⟨_, cap, rfl, hl, hc, hm, fun i hi => ⟨g, 0, rfl, (Array.getElem?_eq_some_iff.1 hg).1, ?_, ?_⟩⟩
    · rw [show 0 + i * 2 = 2 * i from by omega, h.cellAt _ (by omega)]; exact (pairCells_getElem ps i hi).1
    · rw [show 0 + i * 2 + 1 = 2 * i + 1 from by omega, h.cellAt _ (by omega)]; exact (pairCells_getElem ps i hi).2

set_option maxHeartbeats 1000000 in
theorem pairs_true (a : Option Addr) (n cap : Nat) (a' : Option Addr) (cap' : Nat) (ps : List (Nat × Nat)) (w : World) (hn : ps.length = n) (hs : PairS w a ps) (hs' : PairS w a' ps) (hb : n ≤ 9223372036854775806) :
    Calls Tryd.prog 10 #[.slice a n cap, .slice a' n cap'] w fun e w' => e = .returned (.bool true) ∧ Below w.heap.size w w' := by
  go_enter Tryd.func10, Tryd.ntmps10
  go_wp2
  go_loopw [5] (fun i wr => ∃ k : Nat, k ≤ n ∧ i = .int .i64 k ∧ Below w.heap.size w wr) (fun i _ => n - (intOf i).toNat)
  case atStart => exact ⟨0, Nat.zero_le _, rfl, Below.refl _ _⟩
  case round =>
    obtain ⟨k, hk, rfl, hbel⟩ := hrel
    by_cases h5 : k < n
    · obtain ⟨b, off, rfl, hlt, c0, c1⟩ := (hs.below hbel) k (by omega)
      obtain ⟨b', off', rfl, hlt', d0, d1⟩ := (hs'.below hbel) k (by omega)
      generalize (ps.getD k (0, 0)).1 = x at c0 d0
      generalize (ps.getD k (0, 0)).2 = y at c1 d1
      have hkn : (k : Int) < (n : Int) := by omega
      have f1 : ((x : Int) != (x : Int)) = false := by simp
      have f2 : ((y : Int) != (y : Int)) = false := by simp
      go_wp2_with fail
      go_quiet (fail)
      go_wp2
      go_roundw
      case rel => exact ⟨k + 1, by omega, by go_num, o_drewN hbel _⟩
      case measure => simp [intOf]; omega
    · go_wp2
      go_ret
      exact ⟨rfl, hbel⟩

set_option maxHeartbeats 1000000 in
theorem rBefore_any (a : Option Addr) (n cap : Nat) (l : List Ev) (i j : Int) (w : World) (hn : l.length = n) (hs : EvS w a l) (hb : n * 32 ≤ 140737488351232) :
    Calls Tryd.prog 12 #[.slice a n cap, .int .i64 i, .int .i64 j] w fun e w' => e = .returned (.bool (befI l i j)) ∧ Below w.heap.size w w' := by
  by_cases h : 0 ≤ i ∧ i < n ∧ 0 ≤ j ∧ j < n
  · obtain ⟨h1, h2, h3, h4⟩ := h
    obtain ⟨p, rfl⟩ := Int.eq_ofNat_of_zero_le h1
    obtain ⟨q, rfl⟩ := Int.eq_ofNat_of_zero_le h3
    have HR : Hid (befI l p q = bef (ev l) p q) := by
      unfold Hid befI
      rw [decide_eq_true (by omega), Bool.true_and]; rfl
    have n1 : ¬ (p : Int) < 0 := by omega
    have n2 : ¬ (q : Int) < 0 := by omega
    have n3 : ¬ (n : Int) ≤ (p : Int) := by omega
    have n4 : ¬ (n : Int) ≤ (q : Int) := by omega
    go_enter Tryd.func12, Tryd.ntmps12
    go_wp2_with (go_at_call 21; refine (rAfter_any _ _ _ _ _ _ hn hs hb (by omega)).mono ?_; rintro e w2 ⟨rfl, ht2, hbel2⟩; have hcq := ht2.cell (j := q) (by omega))
    go_ret
    exact ⟨o_ret_bool HR.out.symm, hbel2⟩
  · have HR : Hid (befI l i j = false) := by
      unfold Hid befI
      rw [decide_eq_false (by omega), Bool.false_and]
    by_cases h1 : i < 0
    · go_enter Tryd.func12, Tryd.ntmps12
      go_wp2
      go_ret
      exact ⟨o_ret_bool HR.out.symm, Below.refl _ _⟩
    · by_cases h2 : (n : Int) ≤ i
      · go_enter Tryd.func12, Tryd.ntmps12
        go_wp2
        go_ret
        exact ⟨o_ret_bool HR.out.symm, Below.refl _ _⟩
      · by_cases h3 : j < 0
        · go_enter Tryd.func12, Tryd.ntmps12
          go_wp2
          go_ret
          exact ⟨o_ret_bool HR.out.symm, Below.refl _ _⟩
        · have h4 : (n : Int) ≤ j := by omega
          clear h
          go_enter Tryd.func12, Tryd.ntmps12
          go_wp2
          go_ret
          exact ⟨o_ret_bool HR.out.symm, Below.refl _ _⟩
end Go.Proofs.YtohnhfopigjpmaaDoor
