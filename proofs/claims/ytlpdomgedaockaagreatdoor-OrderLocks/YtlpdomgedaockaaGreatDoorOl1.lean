import Derived.Test.YtlpdomgedaockaaGreatDoorChecked
import Derived.WalkKit
import Derived.ProofKit
set_option linter.unusedVariables false
set_option linter.unusedSimpArgs false
/-
  The plain mathematics of chapter 3: what is before what, and what races.
-/
namespace Go.Proofs.Ord

structure Ev where
  thread : Int
  kind : Int
  obj : Int
  value : Int

def Ev.zero : Ev := ⟨0, 0, 0, 0⟩
/-- Event k of a list. -/
def ev (l : List Ev) (k : Nat) : Ev := l.getD k Ev.zero

/-- Event a leads to event b behind it. -/
def leads (a b : Ev) : Bool :=
  a.thread == b.thread || (a.kind == 6 && b.kind == 5 && a.obj == b.obj) || (a.kind == 4 && b.kind == 3 && a.obj == b.obj) || (a.kind == 7 && a.obj == b.thread) || (b.kind == 8 && b.obj == a.thread)

/-- Of the first n events: whether event i is before each. -/
def row (l : Nat → Ev) (i : Nat) : Nat → List Bool
  | 0 => []
  | n + 1 => row l i n ++ [decide (i < n) && (leads (l i) (l n) || (List.range n).any fun k => decide (i < k) && ((row l i n).getD k false && leads (l k) (l n)))]

theorem row_length (l : Nat → Ev) (i n : Nat) : (row l i n).length = n := by
  induction n with
  | zero => rfl
  | succ n ih => simp [row, ih]

def bef (l : Nat → Ev) (i j : Nat) : Bool := (row l i (j + 1)).getD j false

theorem row_getD (l : Nat → Ev) (i n j : Nat) (h : j < n) : (row l i n).getD j false = bef l i j := by
  induction n with
  | zero => omega
  | succ n ih =>
    by_cases hj : j = n
    · subst hj; rfl
    · have : j < n := by omega
      rw [← ih this]
      rw [row, List.getD_eq_getElem?_getD, List.getD_eq_getElem?_getD, List.getElem?_append_left (by rw [row_length]; exact this)]

theorem bef_iff (l : Nat → Ev) (i j : Nat) : bef l i j = true ↔ i < j ∧ (leads (l i) (l j) = true ∨ ∃ k, i < k ∧ k < j ∧ bef l i k = true ∧ leads (l k) (l j) = true) := by
  have e : bef l i j = (decide (i < j) && (leads (l i) (l j) || (List.range j).any fun k => decide (i < k) && ((row l i j).getD k false && leads (l k) (l j)))) := by
    unfold bef
    rw [row, List.getD_eq_getElem?_getD, List.getElem?_append_right (by rw [row_length]; exact Nat.le_refl _), row_length]
    simp
  rw [e, Bool.and_eq_true, Bool.or_eq_true, decide_eq_true_eq, List.any_eq_true]
  constructor
  · rintro ⟨h1, h2 | ⟨k, hk, hh⟩⟩
    · exact ⟨h1, .inl h2⟩
    · rw [List.mem_range] at hk
      rw [Bool.and_eq_true, Bool.and_eq_true, decide_eq_true_eq, row_getD l i j k hk] at hh
      exact ⟨h1, .inr ⟨k, hh.1, hk, hh.2.1, hh.2.2⟩⟩
  · rintro ⟨h1, h2 | ⟨k, h3, h4, h5, h6⟩⟩
    · exact ⟨h1, .inl h2⟩
    · refine ⟨h1, .inr ⟨k, List.mem_range.2 h4, ?_⟩⟩
      rw [Bool.and_eq_true, Bool.and_eq_true, decide_eq_true_eq, row_getD l i j k h4]
      exact ⟨h3, h5, h6⟩

theorem bef_lt {l : Nat → Ev} {i j : Nat} (h : bef l i j = true) : i < j := ((bef_iff l i j).1 h).1
theorem bef_ge {l : Nat → Ev} {i j : Nat} (h : j ≤ i) : bef l i j = false := by
  cases e : bef l i j with
  | false => rfl
  | true => have := bef_lt e; omega
theorem bef_leads {l : Nat → Ev} {i j : Nat} (h : i < j) (hl : leads (l i) (l j) = true) : bef l i j = true := (bef_iff l i j).2 ⟨h, .inl hl⟩
theorem bef_thread {l : Nat → Ev} {i j : Nat} (h : i < j) (ht : (l i).thread = (l j).thread) : bef l i j = true :=
  bef_leads h (by simp [leads, ht])

theorem bef_trans {l : Nat → Ev} {i j : Nat} (h : bef l i j = true) : ∀ k, bef l j k = true → bef l i k = true := by
  intro k
  induction k using Nat.strongRecOn with
  | ind k ih =>
    intro hk
    have hij := bef_lt h
    obtain ⟨hjk, h2 | ⟨m, h3, h4, h5, h6⟩⟩ := (bef_iff l j k).1 hk
    · exact (bef_iff l i k).2 ⟨by omega, .inr ⟨j, hij, hjk, h, h2⟩⟩
    · exact (bef_iff l i k).2 ⟨by omega, .inr ⟨m, by omega, h4, ih m h4 h5, h6⟩⟩

/-- What comes behind changes nothing ahead of it. -/
theorem bef_congr {l m : Nat → Ev} {i : Nat} : ∀ j, (∀ k, k ≤ j → l k = m k) → bef l i j = bef m i j := by
  intro j
  induction j using Nat.strongRecOn with
  | ind j ih =>
    intro h
    rw [Bool.eq_iff_iff, bef_iff, bef_iff]
    constructor
    · rintro ⟨h1, h2 | ⟨k, h3, h4, h5, h6⟩⟩
      · exact ⟨h1, .inl (by rw [← h i (by omega), ← h j (by omega)]; exact h2)⟩
      · exact ⟨h1, .inr ⟨k, h3, h4, by rw [← ih k h4 (fun q hq => h q (by omega))]; exact h5, by rw [← h k (by omega), ← h j (by omega)]; exact h6⟩⟩
    · rintro ⟨h1, h2 | ⟨k, h3, h4, h5, h6⟩⟩
      · exact ⟨h1, .inl (by rw [h i (by omega), h j (by omega)]; exact h2)⟩
      · exact ⟨h1, .inr ⟨k, h3, h4, by rw [ih k h4 (fun q hq => h q (by omega))]; exact h5, by rw [h k (by omega), h j (by omega)]; exact h6⟩⟩

/-- Whether event i is before event j, as far as events below k tell. -/
def part (l : Nat → Ev) (i j k : Nat) : Bool := leads (l i) (l j) || (List.range k).any fun q => decide (i < q) && (bef l i q && leads (l q) (l j))
theorem part_start (l : Nat → Ev) (i j : Nat) : part l i j (i + 1) = leads (l i) (l j) := by
  unfold part
  have : ((List.range (i + 1)).any fun q => decide (i < q) && (bef l i q && leads (l q) (l j))) = false := by
    rw [List.any_eq_false]
    intro q hq
    rw [List.mem_range] at hq
    simp; omega
  rw [this, Bool.or_false]
theorem part_succ (l : Nat → Ev) (i j k : Nat) (h : i < k) : part l i j (k + 1) = (part l i j k || (bef l i k && leads (l k) (l j))) := by
  unfold part
  rw [List.range_succ, List.any_append]
  simp [h, Bool.or_assoc]
theorem part_all (l : Nat → Ev) (i j : Nat) (h : i < j) : part l i j j = bef l i j := by
  have e : ∀ q, q ∈ List.range j → (decide (i < q) && (bef l i q && leads (l q) (l j))) = (decide (i < q) && ((row l i j).getD q false && leads (l q) (l j))) := by
    intro q hq
    rw [row_getD l i j q (List.mem_range.1 hq)]
  unfold bef
  rw [row, List.getD_eq_getElem?_getD, List.getElem?_append_right (by rw [row_length]; exact Nat.le_refl _), row_length]
  unfold part
  simp only [Nat.sub_self, List.getElem?_cons_zero, Option.getD_some, h, decide_true, Bool.true_and]
  rw [Bool.eq_iff_iff, Bool.or_eq_true, Bool.or_eq_true, List.any_eq_true, List.any_eq_true]
  constructor
  · rintro (h | ⟨q, h1, h2⟩)
    · exact .inl h
    · exact .inr ⟨q, h1, by rw [← e q h1]; exact h2⟩
  · rintro (h | ⟨q, h1, h2⟩)
    · exact .inl h
    · exact .inr ⟨q, h1, by rw [e q h1]; exact h2⟩

def access (e : Ev) : Bool := e.kind == 1 || e.kind == 2
def conflict (a b : Ev) : Bool := access a && access b && a.obj == b.obj && a.thread != b.thread && (a.kind == 2 || b.kind == 2)
def race (l : Nat → Ev) (i j : Nat) : Bool := conflict (l i) (l j) && !bef l i j

/-- The races whose second event is j, of the first i events. -/
def racesOf (l : Nat → Ev) (j i : Nat) : List (Nat × Nat) := ((List.range i).filter fun q => race l q j).map fun q => (q, j)
/-- All races whose second event is below n. -/
def racesTo (l : Nat → Ev) : Nat → List (Nat × Nat)
  | 0 => []
  | n + 1 => racesTo l n ++ racesOf l n n

theorem racesOf_succ (l : Nat → Ev) (j i : Nat) : racesOf l j (i + 1) = racesOf l j i ++ if race l i j then [(i, j)] else [] := by
  unfold racesOf
  rw [List.range_succ, List.filter_append, List.map_append]
  cases h : race l i j <;> simp [h]
theorem racesOf_length (l : Nat → Ev) (j i : Nat) : (racesOf l j i).length ≤ i := by
  unfold racesOf
  rw [List.length_map]
  have := List.length_filter_le (fun q => race l q j) (List.range i)
  simpa using this
theorem racesTo_length (l : Nat → Ev) (n : Nat) : (racesTo l n).length ≤ n * n := by
  induction n with
  | zero => simp [racesTo]
  | succ n ih =>
    rw [racesTo, List.length_append]
    have := racesOf_length l n n
    have e : (n + 1) * (n + 1) = n * n + 2 * n + 1 := by rw [Nat.add_mul, Nat.mul_add]; omega
    omega
theorem mem_racesTo (l : Nat → Ev) (n i j : Nat) : (i, j) ∈ racesTo l n ↔ j < n ∧ i < j ∧ race l i j = true := by
  induction n with
  | zero => simp [racesTo]
  | succ n ih =>
    rw [racesTo, List.mem_append, ih]
    unfold racesOf
    simp only [List.mem_map, List.mem_filter, List.mem_range, Prod.mk.injEq]
    constructor
    · rintro (⟨h1, h2, h3⟩ | ⟨q, ⟨h1, h2⟩, rfl, rfl⟩)
      · exact ⟨by omega, h2, h3⟩
      · exact ⟨by omega, h1, h2⟩
    · rintro ⟨h1, h2, h3⟩
      by_cases e : j = n
      · subst e; exact .inr ⟨i, ⟨h2, h3⟩, rfl, rfl⟩
      · exact .inl ⟨by omega, h2, h3⟩
theorem racesTo_congr {l m : Nat → Ev} (n : Nat) (h : ∀ k, k < n → l k = m k) : racesTo l n = racesTo m n := by
  induction n with
  | zero => rfl
  | succ n ih =>
    rw [racesTo, racesTo, ih (fun k hk => h k (by omega))]
    congr 1
    unfold racesOf
    congr 1
    apply List.filter_congr
    intro q hq
    rw [List.mem_range] at hq
    unfold race
    rw [h q (by omega), h n (by omega), bef_congr (l := l) (m := m) n (fun k hk => h k (by omega))]
/-- Those of a beginning are those of the whole that lie in it. -/
theorem racesTo_filter (l : Nat → Ev) (n : Nat) : ∀ m, n ≤ m → (racesTo l m).filter (fun p => decide (p.2 < n)) = racesTo l n := by
  intro m
  induction m with
  | zero => intro h; obtain rfl : n = 0 := by omega
            rfl
  | succ m ih =>
    intro h
    by_cases e : n = m + 1
    · subst e
      apply List.filter_eq_self.2
      intro p hp
      have := (mem_racesTo l (m + 1) p.1 p.2).1 hp
      simp; omega
    · rw [racesTo, List.filter_append, ih (by omega)]
      have : (racesOf l m m).filter (fun p => decide (p.2 < n)) = [] := by
        apply List.filter_eq_nil_iff.2
        intro p hp
        unfold racesOf at hp
        obtain ⟨q, _, rfl⟩ := List.mem_map.1 hp
        simp; omega
      rw [this, List.append_nil]

/-- Racy: the second event of a race. -/
def racy (l : Nat → Ev) (j : Nat) : Bool := (List.range j).any fun i => race l i j
theorem racy_iff (l : Nat → Ev) (j : Nat) : racy l j = true ↔ ∃ i, i < j ∧ race l i j = true := by
  unfold racy
  rw [List.any_eq_true]
  exact ⟨fun ⟨i, h1, h2⟩ => ⟨i, List.mem_range.1 h1, h2⟩, fun ⟨i, h1, h2⟩ => ⟨i, List.mem_range.2 h1, h2⟩⟩

end Go.Proofs.Ord
namespace Go.Proofs.YtlpdomgedaockaaGreatDoor
open Go.RowKit Go.Proofs.Ord

theorem o_hide {p : Prop} (h : p) : Hid p := h
theorem o_ret_bool {a b : Bool} (h : a = b) : Ending.returned (.bool a) = .returned (.bool b) := by rw [h]

/-- An event as a value. -/
def evV (e : Ev) : Value := .agg #[.int .i64 e.thread, .int .i64 e.kind, .int .i64 e.obj, .int .i64 e.value]

theorem leads_mk (t k o v t' k' o' v' : Int) : leads ⟨t, k, o, v⟩ ⟨t', k', o', v'⟩ = (t == t' || (k == 6 && k' == 5 && o == o') || (k == 4 && k' == 3 && o == o') || (k == 7 && o == t') || (k' == 8 && o' == t)) := rfl

theorem access_mk (t k o v : Int) : access ⟨t, k, o, v⟩ = (k == 1 || k == 2) := rfl
theorem conflict_mk (t k o v t' k' o' v' : Int) : conflict ⟨t, k, o, v⟩ ⟨t', k', o', v'⟩ = (access ⟨t, k, o, v⟩ && access ⟨t', k', o', v'⟩ && o == o' && t != t' && (k == 2 || k' == 2)) := rfl

end Go.Proofs.YtlpdomgedaockaaGreatDoor
