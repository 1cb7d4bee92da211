import Derived.Test.YtiaedjnedoemoabDoorOrdMath
import Derived.Test.YtiaedjnedoemoabDoorVecMath
/-
  The plain mathematics of chapter 5: stamps.
-/
namespace Go.Proofs.Ord
open Go.Proofs

/-- Is event i of thread t, and event j or before it? -/
def upto (L : Nat → Ev) (j : Nat) (t : Int) (i : Nat) : Bool := (L i).thread == t && (i == j || bef L i j)
/-- How many of the first n events are. -/
def cnt (L : Nat → Ev) (j : Nat) (t : Int) : Nat → Nat
  | 0 => 0
  | n + 1 => cnt L j t n + if upto L j t n then 1 else 0

theorem cnt_le (L : Nat → Ev) (j : Nat) (t : Int) (n : Nat) : cnt L j t n ≤ n := by
  induction n with
  | zero => simp [cnt]
  | succ n ih => rw [cnt]; split <;> omega
theorem cnt_past (L : Nat → Ev) (j : Nat) (t : Int) : ∀ n, j + 1 ≤ n → cnt L j t n = cnt L j t (j + 1) := by
  intro n
  induction n with
  | zero => intro h; omega
  | succ n ih =>
    intro h
    by_cases e : j = n
    · subst e; rfl
    · have hf : upto L j t n = false := by
        unfold upto
        have h1 : (n == j) = false := by simp; omega
        rw [h1, bef_ge (by omega)]; simp
      rw [cnt, hf, ih (by omega)]; simp

/-- The stamp of event j: of threads below th. -/
def full (L : Nat → Ev) (th : Nat) (j n : Nat) : List Int := (List.range th).map fun (t : Nat) => (cnt L j (t : Int) n : Int)
def stamp (L : Nat → Ev) (th : Nat) (j : Nat) : List Int := Vec.trim (full L th j (j + 1))
theorem full_length (L : Nat → Ev) (th j n : Nat) : (full L th j n).length = th := by simp [full]
theorem full_getD (L : Nat → Ev) (th j n t : Nat) (h : t < th) : (full L th j n).getD t 0 = cnt L j (t : Int) n := by simp [full, h]
theorem full_past (L : Nat → Ev) (th j n : Nat) (h : j + 1 ≤ n) : full L th j n = full L th j (j + 1) := by
  unfold full
  apply List.map_congr_left
  intro t _
  rw [cnt_past L j t n h]
theorem stamp_length (L : Nat → Ev) (th j : Nat) : (stamp L th j).length ≤ th := by
  have := Vec.trim_len (full L th j (j + 1))
  rw [full_length] at this
  exact this
theorem stamp_getD (L : Nat → Ev) (th j t : Nat) : (stamp L th j).getD t 0 = if t < th then (cnt L j (t : Int) (j + 1) : Int) else 0 := by
  unfold stamp
  rw [Vec.trim_getD]
  by_cases h : t < th
  · rw [if_pos h, full_getD L th j _ t h]
  · rw [if_neg h]; exact Vec.getD_past _ _ (by rw [full_length]; omega)

/-- Which event of its thread an event is: how many up to it. -/
def nth (L : Nat → Ev) (i : Nat) : Nat → Nat
  | 0 => 0
  | n + 1 => nth L i n + if (L n).thread == (L i).thread then 1 else 0

/-- What is before something is before all that this is before: so counts rise. -/
theorem upto_mono {L : Nat → Ev} {i j : Nat} (h : bef L i j = true) (t : Int) (m : Nat) (hm : upto L i t m = true) : upto L j t m = true := by
  unfold upto at *
  rw [Bool.and_eq_true, Bool.or_eq_true] at *
  refine ⟨hm.1, .inr ?_⟩
  rcases hm.2 with e | e
  · have : m = i := by simpa using e
    subst this; exact h
  · exact bef_trans e j h
theorem cnt_mono {L : Nat → Ev} {i j : Nat} (h : bef L i j = true) (t : Int) (n : Nat) : cnt L i t n ≤ cnt L j t n := by
  induction n with
  | zero => simp [cnt]
  | succ n ih =>
    rw [cnt, cnt]
    by_cases hu : upto L i t n = true
    · rw [if_pos hu, if_pos (upto_mono h t n hu)]; omega
    · rw [if_neg hu]; split <;> omega
theorem cnt_step (L : Nat → Ev) (j : Nat) (t : Int) {n m : Nat} (h : n ≤ m) : cnt L j t n ≤ cnt L j t m := by
  induction m with
  | zero => obtain rfl : n = 0 := by omega
            exact Nat.le_refl _
  | succ m ih =>
    by_cases e : n = m + 1
    · subst e; exact Nat.le_refl _
    · have := ih (by omega)
      rw [cnt]; omega
/-- Of its own thread all events up to it are before it, or itself. -/
theorem cnt_own (L : Nat → Ev) (i n : Nat) (h : n ≤ i + 1) : cnt L i (L i).thread n = nth L i n := by
  induction n with
  | zero => rfl
  | succ n ih =>
    rw [cnt, nth, ih (by omega)]
    congr 1
    by_cases e : ((L n).thread == (L i).thread) = true
    · have hu : upto L i (L i).thread n = true := by
        unfold upto
        rw [e, Bool.true_and, Bool.or_eq_true]
        by_cases e2 : n = i
        · left; simpa using e2
        · right; exact bef_thread (by omega) (by simpa using e)
      rw [if_pos hu, if_pos e]
    · have hu : ¬ upto L i (L i).thread n = true := by
        unfold upto
        rw [Bool.and_eq_true]
        exact fun h => e h.1
      rw [if_neg hu, if_neg e]
/-- If event i is not before event j behind it, j has fewer of i's thread than i is. -/
theorem cnt_less {L : Nat → Ev} {i j : Nat} (hij : i < j) (h : bef L i j = false) : cnt L j (L i).thread (j + 1) < nth L i (i + 1) := by
  -- all that is counted lies below i
  have h1 : ∀ n, i ≤ n → n ≤ j + 1 → cnt L j (L i).thread n = cnt L j (L i).thread i := by
    intro n
    induction n with
    | zero => intro h0 _; obtain rfl : i = 0 := by omega
              rfl
    | succ n ih =>
      intro hn hn2
      by_cases e : i = n + 1
      · rw [e]
      · have hu : upto L j (L i).thread n = false := by
          cases hu : upto L j (L i).thread n with
          | false => rfl
          | true =>
            unfold upto at hu
            rw [Bool.and_eq_true, Bool.or_eq_true] at hu
            exfalso
            have ht : (L n).thread = (L i).thread := by simpa using hu.1
            rcases hu.2 with e2 | e2
            · have e2' : n = j := by simpa using e2
              subst e2'
              have := bef_thread (l := L) hij ht.symm
              rw [h] at this; cases this
            · by_cases e3 : n = i
              · subst e3; rw [h] at e2; cases e2
              · have h3 := bef_thread (l := L) (i := i) (j := n) (by omega) ht.symm
                have := bef_trans h3 j e2
                rw [h] at this; cases this
        rw [cnt, hu, ih (by omega) (by omega)]; simp
  have h2 : ∀ n, n ≤ i → cnt L j (L i).thread n ≤ nth L i n := by
    intro n
    induction n with
    | zero => intro _; simp [cnt]
    | succ n ih =>
      intro hn
      rw [cnt, nth]
      have := ih (by omega)
      by_cases hu : upto L j (L i).thread n = true
      · have e : ((L n).thread == (L i).thread) = true := by unfold upto at hu; rw [Bool.and_eq_true] at hu; exact hu.1
        rw [if_pos hu, if_pos e]; omega
      · rw [if_neg hu]; split <;> omega
  have h3 : nth L i (i + 1) = nth L i i + 1 := by rw [nth]; simp
  have := h1 (j + 1) (by omega) (Nat.le_refl _)
  have := h2 i (Nat.le_refl _)
  omega
theorem cnt_more {L : Nat → Ev} {i j : Nat} (h : bef L i j = true) : nth L i (i + 1) ≤ cnt L j (L i).thread (j + 1) := by
  have hij := bef_lt h
  rw [← cnt_own L i (i + 1) (Nat.le_refl _)]
  exact Nat.le_trans (cnt_mono h _ _) (cnt_step L j _ (by omega))

/-- THE THEOREM of the stamps. -/
theorem tells {L : Nat → Ev} {i j th : Nat} (hij : i < j) (h0 : 0 ≤ (L i).thread) (h1 : (L i).thread < th) : bef L i j = decide ((nth L i (i + 1) : Int) ≤ Vec.at_ (stamp L th j) (L i).thread) := by
  obtain ⟨t, ht⟩ := Int.eq_ofNat_of_zero_le h0
  have e : Vec.at_ (stamp L th j) (L i).thread = (cnt L j (L i).thread (j + 1) : Int) := by
    rw [ht, Vec.at_nat, stamp_getD, if_pos (by omega)]
  rw [e]
  cases h : bef L i j with
  | true => have := cnt_more h; rw [decide_eq_true (by omega)]
  | false => have := cnt_less hij h; rw [decide_eq_false (by omega)]
theorem stamp_leq {L : Nat → Ev} {i j th : Nat} (h : bef L i j = true) : Vec.leq (stamp L th i) (stamp L th j) = true := by
  rw [Vec.leq_iff]
  intro t
  rw [stamp_getD, stamp_getD]
  have hij := bef_lt h
  split
  · have h1 := cnt_mono h (t : Int) (i + 1)
    have h2 := cnt_step L j (t : Int) (n := i + 1) (m := j + 1) (by omega)
    omega
  · exact Int.le_refl _
theorem stamp_not_leq {L : Nat → Ev} {i j th : Nat} (hij : i < j) (h0 : 0 ≤ (L i).thread) (h1 : (L i).thread < th) (h : bef L i j = false) : Vec.leq (stamp L th i) (stamp L th j) = false := by
  obtain ⟨t, ht⟩ := Int.eq_ofNat_of_zero_le h0
  apply Vec.leq_no t
  rw [stamp_getD, stamp_getD, if_pos (by omega), if_pos (by omega), ← ht]
  have h2 := cnt_less hij h
  have h3 := cnt_own L i (i + 1) (Nat.le_refl _)
  omega
theorem stamp_leq_bef {L : Nat → Ev} {i j th : Nat} (hij : i < j) (h0 : 0 ≤ (L i).thread) (h1 : (L i).thread < th) : Vec.leq (stamp L th i) (stamp L th j) = bef L i j := by
  cases h : bef L i j with
  | true => exact stamp_leq h
  | false => exact stamp_not_leq hij h0 h1 h

/-- Racy just if the second one of a race. -/
theorem any_races (L : Nat → Ev) (n j : Nat) (h : j < n) : ((racesTo L n).any fun p => p.2 == j) = racy L j := by
  rw [Bool.eq_iff_iff, List.any_eq_true, racy_iff]
  constructor
  · rintro ⟨⟨i, j'⟩, hm, e⟩
    have e' : j' = j := by simpa using e
    subst e'
    obtain ⟨_, h2, h3⟩ := (mem_racesTo L n i j').1 hm
    exact ⟨i, h2, h3⟩
  · rintro ⟨i, h2, h3⟩
    exact ⟨(i, j), (mem_racesTo L n i j).2 ⟨h, h2, h3⟩, by simp⟩

/-- The threads are numbers that an int can be. -/
def ThR (l : List Ev) : Prop := ∀ i, i < l.length → -9223372036854775808 ≤ (ev l i).thread ∧ (ev l i).thread ≤ 9223372036854775807
end Go.Proofs.Ord
