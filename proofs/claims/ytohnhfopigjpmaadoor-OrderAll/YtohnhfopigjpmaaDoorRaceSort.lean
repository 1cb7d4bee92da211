import Derived.Test.YtohnhfopigjpmaaDoorRaceCmp
namespace Go.Proofs.YtohnhfopigjpmaaDoor
open Go.RowKit Go.Proofs.Ord Go.Sort

/-- The races of the first m spans. -/
def spans (l : Nat → Ev) (n m : Nat) : List (Nat × Nat) := (List.range m).flatMap fun c => rf l (c * 16384) 16384 (n - c * 16384)
theorem spans_succ (l : Nat → Ev) (n m : Nat) : spans l n (m + 1) = spans l n m ++ rf l (m * 16384) 16384 (n - m * 16384) := by simp [spans, List.range_succ]

def ltp (x y : Nat × Nat) : Prop := x.2 < y.2 ∨ (x.2 = y.2 ∧ x.1 < y.1)
theorem lt_iff (x y : Nat × Nat) : ltOf cmpP x y = true ↔ ltp x y := by
  obtain ⟨x1, x2⟩ := x
  obtain ⟨y1, y2⟩ := y
  unfold ltOf cmpP cmpI ltp
  dsimp only
  rw [decide_eq_true_iff]
  repeat' split
  all_goals omega
theorem lt_not (x y : Nat × Nat) : ltOf cmpP x y = false ↔ ¬ ltp x y := by
  rw [← lt_iff]; simp
theorem swoP : SWO (ltOf cmpP) where
  irrefl x := by rw [lt_not]; unfold ltp; omega
  trans x y z h1 h2 := by rw [lt_iff] at *; unfold ltp at *; omega
  ntrans x y z h1 h2 := by rw [lt_not] at *; unfold ltp at *; omega
theorem totP (x y : Nat × Nat) (h1 : ltOf cmpP x y = false) (h2 : ltOf cmpP y x = false) : x = y := by
  rw [lt_not] at *
  obtain ⟨x1, x2⟩ := x
  obtain ⟨y1, y2⟩ := y
  unfold ltp at *
  dsimp only at *
  have e1 : x1 = y1 := by omega
  have e2 : x2 = y2 := by omega
  rw [e1, e2]

theorem mem_rf (l : Nat → Ev) (p K m i j : Nat) : (i, j) ∈ rf l p K m ↔ p ≤ i ∧ i < p + K ∧ i < j ∧ j < p + m ∧ race l i j = true := by
  unfold rf rfOne
  simp only [List.mem_flatMap, List.mem_range, List.mem_map, List.mem_filter, Prod.mk.injEq]
  constructor
  · rintro ⟨j', h1, i', ⟨h2, h3⟩, rfl, rfl⟩
    exact ⟨by omega, by omega, by omega, by omega, h3⟩
  · rintro ⟨h1, h2, h3, h4, h5⟩
    refine ⟨j - p, by omega, i - p, ⟨by omega, ?_⟩, by omega, by omega⟩
    rw [show p + (i - p) = i by omega, show p + (j - p) = j by omega]; exact h5

theorem mem_spans (l : Nat → Ev) (n m : Nat) (hm : n ≤ m * 16384) (x : Nat × Nat) : x ∈ spans l n m ↔ x ∈ racesTo l n := by
  obtain ⟨i, j⟩ := x
  rw [mem_racesTo]
  unfold spans
  simp only [List.mem_flatMap, List.mem_range, mem_rf]
  constructor
  · rintro ⟨c, h1, h2, h3, h4, h5, h6⟩
    exact ⟨by omega, h4, h6⟩
  · rintro ⟨h1, h2, h3⟩
    exact ⟨i / 16384, by omega, by omega, by omega, h2, by omega, h3⟩

theorem rf_ltp (l : Nat → Ev) (p K m : Nat) : (rf l p K m).Pairwise ltp := by
  unfold rf
  rw [List.pairwise_flatMap]
  refine ⟨fun j _ => ?_, ?_⟩
  · unfold rfOne
    rw [List.pairwise_map]
    exact (List.pairwise_lt_range.filter _).imp fun h => .inr ⟨rfl, by dsimp only; omega⟩
  · refine List.pairwise_lt_range.imp fun {a b} h => ?_
    rintro ⟨x1, x2⟩ hx ⟨y1, y2⟩ hy
    unfold rfOne at hx hy
    simp only [List.mem_map, Prod.mk.injEq] at hx hy
    obtain ⟨_, _, _, rfl⟩ := hx
    obtain ⟨_, _, _, rfl⟩ := hy
    exact .inl (by dsimp only; omega)
theorem ltp_ne {x y : Nat × Nat} (h : ltp x y) : x ≠ y := fun e => by subst e; unfold ltp at h; omega

theorem spans_nodup (l : Nat → Ev) (n m : Nat) : (spans l n m).Nodup := by
  unfold spans List.Nodup
  rw [List.pairwise_flatMap]
  refine ⟨fun c _ => (rf_ltp _ _ _ _).imp ltp_ne, List.pairwise_lt_range.imp fun {a b} h => ?_⟩
  rintro ⟨x1, x2⟩ hx ⟨y1, y2⟩ hy e
  cases e
  rw [mem_rf] at hx hy
  omega

theorem racesTo_ltp (l : Nat → Ev) (n : Nat) : (racesTo l n).Pairwise ltp := by
  induction n with
  | zero => exact .nil
  | succ n ih =>
    rw [racesTo, List.pairwise_append]
    refine ⟨ih, ?_, ?_⟩
    · unfold racesOf
      rw [List.pairwise_map]
      exact (List.pairwise_lt_range.filter _).imp fun h => .inr ⟨rfl, h⟩
    · rintro ⟨x1, x2⟩ hx ⟨y1, y2⟩ hy
      rw [mem_racesTo] at hx
      unfold racesOf at hy
      simp only [List.mem_map, Prod.mk.injEq] at hy
      obtain ⟨_, _, _, rfl⟩ := hy
      exact .inl (by dsimp only; omega)

theorem spans_perm (l : Nat → Ev) (n m : Nat) (hm : n ≤ m * 16384) : (spans l n m).Perm (racesTo l n) :=
  (List.perm_ext_iff_of_nodup (spans_nodup l n m) ((racesTo_ltp l n).imp ltp_ne)).2 fun x => mem_spans l n m hm x

theorem spans_sorted (l : Nat → Ev) (n m : Nat) (hm : n ≤ m * 16384) : (spans l n m).mergeSort (fun x y => !(ltOf cmpP) y x) = racesTo l n := by
  refine List.Perm.eq_of_pairwise (le := fun a b => (!ltOf cmpP b a) = true) (fun a b _ _ h1 h2 => totP a b (by simpa using h2) (by simpa using h1)) (List.pairwise_mergeSort (fun a b c h1 h2 => ?_) (fun a b => ?_) _) ((racesTo_ltp l n).imp fun {a b} h => ?_) ((List.mergeSort_perm _ _).trans (spans_perm l n m hm))
  · have h1 : ltOf cmpP b a = false := by simpa using h1
    have h2 : ltOf cmpP c b = false := by simpa using h2
    rw [swoP.ntrans c b a h2 h1]; rfl
  · cases h : ltOf cmpP b a with
    | false => rfl
    | true =>
      cases h2 : ltOf cmpP a b with
      | false => rfl
      | true => have := swoP.trans a b a h2 h; rw [swoP.irrefl] at this; cases this
  · have : ltOf cmpP b a = false := by rw [lt_not]; unfold ltp at *; omega
    rw [this]; rfl
theorem spans_len (l : Nat → Ev) (n m : Nat) (hm : n ≤ m * 16384) : (spans l n m).length = (racesTo l n).length := (spans_perm l n m hm).length_eq
end Go.Proofs.YtohnhfopigjpmaaDoor
