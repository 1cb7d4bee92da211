import Derived.Test.YtbajfapfpcjenaaGreatDoorFc0
import Derived.Test.YtbajfapfpcjenaaGreatDoorChecked
import Derived.WalkKit
import Derived.ProofKit
import Derived.Laws.AppendOwnNone
import Derived.Deep.QuietTactic
import Derived.BigQuiet
import Derived.Maps.AppendAt
import Derived.Deep.AppendLies
/-
  The plain mathematics of chapter 5: stamps.
-/
namespace Go.Proofs.Ord
open Go.Proofs

/-- Is event i of thread t, and event j or before it? -/
def upto (L : Nat → Ev) (j : Nat) (t : Int) (i : Nat) : Bool := (L i).thread == t && (i == j || bef L i j)
/-- How many of the first n events are. -/
def cnt (L : Nat → Ev) (j : Nat) (t : Int) : Nat → Nat
  | 0 => 0
  | n + 1 => cnt L j t n + if upto L j t n then 1 else 0

theorem cnt_le (L : Nat → Ev) (j : Nat) (t : Int) (n : Nat) : cnt L j t n ≤ n := by
  induction n with
  | zero => simp [cnt]
  | succ n ih => rw [cnt]; split <;> omega
theorem cnt_past (L : Nat → Ev) (j : Nat) (t : Int) : ∀ n, j + 1 ≤ n → cnt L j t n = cnt L j t (j + 1) := by
  intro n
  induction n with
  | zero => intro h; omega
  | succ n ih =>
    intro h
    by_cases e : j = n
    · subst e; rfl
    · have hf : upto L j t n = false := by
        unfold upto
        have h1 : (n == j) = false := by simp; omega
        rw [h1, bef_ge (by omega)]; simp
      rw [cnt, hf, ih (by omega)]; simp

/-- The stamp of event j: of threads below th. -/
def full (L : Nat → Ev) (th : Nat) (j n : Nat) : List Int := (List.range th).map fun (t : Nat) => (cnt L j (t : Int) n : Int)
def stamp (L : Nat → Ev) (th : Nat) (j : Nat) : List Int := Vec.trim (full L th j (j + 1))
theorem full_length (L : Nat → Ev) (th j n : Nat) : (full L th j n).length = th := by simp [full]
theorem full_getD (L : Nat → Ev) (th j n t : Nat) (h : t < th) : (full L th j n).getD t 0 = cnt L j (t : Int) n := by simp [full, h]
theorem full_past (L : Nat → Ev) (th j n : Nat) (h : j + 1 ≤ n) : full L th j n = full L th j (j + 1) := by
  unfold full
  apply List.map_congr_left
  intro t _
  rw [cnt_past L j t n h]
theorem stamp_length (L : Nat → Ev) (th j : Nat) : (stamp L th j).length ≤ th := by
  have := Vec.trim_len (full L th j (j + 1))
  rw [full_length] at this
  exact this
theorem stamp_getD (L : Nat → Ev) (th j t : Nat) : (stamp L th j).getD t 0 = if t < th then (cnt L j (t : Int) (j + 1) : Int) else 0 := by
  unfold stamp
  rw [Vec.trim_getD]
  by_cases h : t < th
  · rw [if_pos h, full_getD L th j _ t h]
  · rw [if_neg h]; exact Vec.getD_past _ _ (by rw [full_length]; omega)

/-- Which event of its thread an event is: how many up to it. -/
def nth (L : Nat → Ev) (i : Nat) : Nat → Nat
  | 0 => 0
  | n + 1 => nth L i n + if (L n).thread == (L i).thread then 1 else 0

/-- What is before something is before all that this is before: so counts rise. -/
theorem upto_mono {L : Nat → Ev} {i j : Nat} (h : bef L i j = true) (t : Int) (m : Nat) (hm : upto L i t m = true) : upto L j t m = true := by
  unfold upto at *
  rw [Bool.and_eq_true, Bool.or_eq_true] at *
  refine ⟨hm.1, .inr ?_⟩
  rcases hm.2 with e | e
  · have : m = i := by simpa using e
    subst this; exact h
  · exact bef_trans e j h
theorem cnt_mono {L : Nat → Ev} {i j : Nat} (h : bef L i j = true) (t : Int) (n : Nat) : cnt L i t n ≤ cnt L j t n := by
  induction n with
  | zero => simp [cnt]
  | succ n ih =>
    rw [cnt, cnt]
    by_cases hu : upto L i t n = true
    · rw [if_pos hu, if_pos (upto_mono h t n hu)]; omega
    · rw [if_neg hu]; split <;> omega
theorem cnt_step (L : Nat → Ev) (j : Nat) (t : Int) {n m : Nat} (h : n ≤ m) : cnt L j t n ≤ cnt L j t m := by
  induction m with
  | zero => obtain rfl : n = 0 := by omega
            exact Nat.le_refl _
  | succ m ih =>
    by_cases e : n = m + 1
    · subst e; exact Nat.le_refl _
    · have := ih (by omega)
      rw [cnt]; omega
/-- Of its own thread all events up to it are before it, or itself. -/
theorem cnt_own (L : Nat → Ev) (i n : Nat) (h : n ≤ i + 1) : cnt L i (L i).thread n = nth L i n := by
  induction n with
  | zero => rfl
  | succ n ih =>
    rw [cnt, nth, ih (by omega)]
    congr 1
    by_cases e : ((L n).thread == (L i).thread) = true
    · have hu : upto L i (L i).thread n = true := by
        unfold upto
        rw [e, Bool.true_and, Bool.or_eq_true]
        by_cases e2 : n = i
        · left; simpa using e2
        · right; exact bef_thread (by omega) (by simpa using e)
      rw [if_pos hu, if_pos e]
    · have hu : ¬ upto L i (L i).thread n = true := by
        unfold upto
        rw [Bool.and_eq_true]
        exact fun h => e h.1
      rw [if_neg hu, if_neg e]
/-- If event i is not before event j behind it, j has fewer of i's thread than i is. -/
theorem cnt_less {L : Nat → Ev} {i j : Nat} (hij : i < j) (h : bef L i j = false) : cnt L j (L i).thread (j + 1) < nth L i (i + 1) := by
  -- all that is counted lies below i
  have h1 : ∀ n, i ≤ n → n ≤ j + 1 → cnt L j (L i).thread n = cnt L j (L i).thread i := by
    intro n
    induction n with
    | zero => intro h0 _; obtain rfl : i = 0 := by omega
              rfl
    | succ n ih =>
      intro hn hn2
      by_cases e : i = n + 1
      · rw [e]
      · have hu : upto L j (L i).thread n = false := by
          cases hu : upto L j (L i).thread n with
          | false => rfl
          | true =>
            unfold upto at hu
            rw [Bool.and_eq_true, Bool.or_eq_true] at hu
            exfalso
            have ht : (L n).thread = (L i).thread := by simpa using hu.1
            rcases hu.2 with e2 | e2
            · have e2' : n = j := by simpa using e2
              subst e2'
              have := bef_thread (l := L) hij ht.symm
              rw [h] at this; cases this
            · by_cases e3 : n = i
              · subst e3; rw [h] at e2; cases e2
              · have h3 := bef_thread (l := L) (i := i) (j := n) (by omega) ht.symm
                have := bef_trans h3 j e2
                rw [h] at this; cases this
        rw [cnt, hu, ih (by omega) (by omega)]; simp
  have h2 : ∀ n, n ≤ i → cnt L j (L i).thread n ≤ nth L i n := by
    intro n
    induction n with
    | zero => intro _; simp [cnt]
    | succ n ih =>
      intro hn
      rw [cnt, nth]
      have := ih (by omega)
      by_cases hu : upto L j (L i).thread n = true
      · have e : ((L n).thread == (L i).thread) = true := by unfold upto at hu; rw [Bool.and_eq_true] at hu; exact hu.1
        rw [if_pos hu, if_pos e]; omega
      · rw [if_neg hu]; split <;> omega
  have h3 : nth L i (i + 1) = nth L i i + 1 := by rw [nth]; simp
  have := h1 (j + 1) (by omega) (Nat.le_refl _)
  have := h2 i (Nat.le_refl _)
  omega
theorem cnt_more {L : Nat → Ev} {i j : Nat} (h : bef L i j = true) : nth L i (i + 1) ≤ cnt L j (L i).thread (j + 1) := by
  have hij := bef_lt h
  rw [← cnt_own L i (i + 1) (Nat.le_refl _)]
  exact Nat.le_trans (cnt_mono h _ _) (cnt_step L j _ (by omega))

/-- THE THEOREM of the stamps. -/
theorem tells {L : Nat → Ev} {i j th : Nat} (hij : i < j) (h0 : 0 ≤ (L i).thread) (h1 : (L i).thread < th) : bef L i j = decide ((nth L i (i + 1) : Int) ≤ Vec.at_ (stamp L th j) (L i).thread) := by
  obtain ⟨t, ht⟩ := Int.eq_ofNat_of_zero_le h0
  have e : Vec.at_ (stamp L th j) (L i).thread = (cnt L j (L i).thread (j + 1) : Int) := by
    rw [ht, Vec.at_nat, stamp_getD, if_pos (by omega)]
  rw [e]
  cases h : bef L i j with
  | true => have := cnt_more h; rw [decide_eq_true (by omega)]
  | false => have := cnt_less hij h; rw [decide_eq_false (by omega)]
theorem stamp_leq {L : Nat → Ev} {i j th : Nat} (h : bef L i j = true) : Vec.leq (stamp L th i) (stamp L th j) = true := by
  rw [Vec.leq_iff]
  intro t
  rw [stamp_getD, stamp_getD]
  have hij := bef_lt h
  split
  · have h1 := cnt_mono h (t : Int) (i + 1)
    have h2 := cnt_step L j (t : Int) (n := i + 1) (m := j + 1) (by omega)
    omega
  · exact Int.le_refl _
theorem stamp_not_leq {L : Nat → Ev} {i j th : Nat} (hij : i < j) (h0 : 0 ≤ (L i).thread) (h1 : (L i).thread < th) (h : bef L i j = false) : Vec.leq (stamp L th i) (stamp L th j) = false := by
  obtain ⟨t, ht⟩ := Int.eq_ofNat_of_zero_le h0
  apply Vec.leq_no t
  rw [stamp_getD, stamp_getD, if_pos (by omega), if_pos (by omega), ← ht]
  have h2 := cnt_less hij h
  have h3 := cnt_own L i (i + 1) (Nat.le_refl _)
  omega
theorem stamp_leq_bef {L : Nat → Ev} {i j th : Nat} (hij : i < j) (h0 : 0 ≤ (L i).thread) (h1 : (L i).thread < th) : Vec.leq (stamp L th i) (stamp L th j) = bef L i j := by
  cases h : bef L i j with
  | true => exact stamp_leq h
  | false => exact stamp_not_leq hij h0 h1 h

/-- Racy just if the second one of a race. -/
theorem any_races (L : Nat → Ev) (n j : Nat) (h : j < n) : ((racesTo L n).any fun p => p.2 == j) = racy L j := by
  rw [Bool.eq_iff_iff, List.any_eq_true, racy_iff]
  constructor
  · rintro ⟨⟨i, j'⟩, hm, e⟩
    have e' : j' = j := by simpa using e
    subst e'
    obtain ⟨_, h2, h3⟩ := (mem_racesTo L n i j').1 hm
    exact ⟨i, h2, h3⟩
  · rintro ⟨i, h2, h3⟩
    exact ⟨(i, j), (mem_racesTo L n i j).2 ⟨h, h2, h3⟩, by simp⟩

/-- The threads are numbers that an int can be. -/
def ThR (l : List Ev) : Prop := ∀ i, i < l.length → -9223372036854775808 ≤ (ev l i).thread ∧ (ev l i).thread ≤ 9223372036854775807
end Go.Proofs.Ord
namespace Go.Proofs.Ord

/-- Is event j racy, and of this variable? -/
def hits (L : Nat → Ev) (obj : Int) (j : Nat) : Bool := racy L j && (L j).obj == obj
/-- The first racy event of a variable among the first n; -1: there is none. -/
def firstOf (L : Nat → Ev) (obj : Int) : Nat → Int
  | 0 => -1
  | n + 1 => if firstOf L obj n < 0 then (if hits L obj n then (n : Int) else -1) else firstOf L obj n
/-- Is event j the first racy one of its variable? -/
def isFirst (L : Nat → Ev) (j : Nat) : Bool := racy L j && !(List.range j).any fun i => hits L (L j).obj i

theorem firstOf_none {L : Nat → Ev} {obj : Int} {n : Nat} (h : ∀ j, j < n → hits L obj j = false) : firstOf L obj n = -1 := by
  induction n with
  | zero => rfl
  | succ n ih =>
    rw [firstOf, ih (fun j hj => h j (by omega)), if_pos (by decide), h n (by omega)]
    rfl
theorem firstOf_some {L : Nat → Ev} {obj : Int} {n j : Nat} (hj : j < n) (h : ∀ q, q < j → hits L obj q = false) (ht : hits L obj j = true) : firstOf L obj n = j := by
  induction n with
  | zero => omega
  | succ n ih =>
    by_cases e : j < n
    · rw [firstOf, ih e, if_neg (by omega)]
    · obtain rfl : j = n := by omega
      rw [firstOf, firstOf_none h, if_pos (by decide), ht]
      rfl
/-- Either none hits, or the first that does is told. -/
theorem firstOf_cases (L : Nat → Ev) (obj : Int) (n : Nat) : ((∀ j, j < n → hits L obj j = false) ∧ firstOf L obj n = -1) ∨ ∃ j, j < n ∧ (∀ q, q < j → hits L obj q = false) ∧ hits L obj j = true ∧ firstOf L obj n = j := by
  induction n with
  | zero => exact .inl ⟨fun j hj => absurd hj (by omega), rfl⟩
  | succ n ih =>
    rcases ih with ⟨h1, h2⟩ | ⟨j, h1, h2, h3, h4⟩
    · cases h : hits L obj n with
      | false => exact .inl ⟨fun j hj => by
          by_cases e : j < n
          · exact h1 j e
          · obtain rfl : j = n := by omega
            exact h, by rw [firstOf, h2, if_pos (by decide), h]; rfl⟩
      | true => exact .inr ⟨n, by omega, h1, h, by rw [firstOf, h2, if_pos (by decide), h]; rfl⟩
    · exact .inr ⟨j, by omega, h2, h3, by rw [firstOf, h4, if_neg (by omega)]⟩
theorem isFirst_iff (L : Nat → Ev) (j : Nat) : isFirst L j = true ↔ racy L j = true ∧ ∀ q, q < j → hits L (L j).obj q = false := by
  unfold isFirst
  rw [Bool.and_eq_true, Bool.not_eq_true', List.any_eq_false]
  constructor
  · rintro ⟨h1, h2⟩
    exact ⟨h1, fun q hq => by have := h2 q (List.mem_range.2 hq); simpa using this⟩
  · rintro ⟨h1, h2⟩
    exact ⟨h1, fun q hq => by simp [h2 q (List.mem_range.1 hq)]⟩
/-- A first race is the first of its variable, and the other way round. -/
theorem firstOf_isFirst {L : Nat → Ev} {n j : Nat} (hj : j < n) (h : isFirst L j = true) : firstOf L (L j).obj n = j := by
  obtain ⟨h1, h2⟩ := (isFirst_iff L j).1 h
  exact firstOf_some hj h2 (by simp [hits, h1])

/-- One number more of those that are gone through: x is laid ahead of the first greater one. -/
def insStep (x : Int) (s : List Int × Bool) (y : Int) : List Int × Bool := if !s.2 && decide (x < y) then (s.1 ++ [x] ++ [y], true) else (s.1 ++ [y], s.2)
def insTo (x : Int) (out : List Int) : Nat → List Int × Bool
  | 0 => ([], false)
  | i + 1 => insStep x (insTo x out i) (out.getD i 0)
def ins (x : Int) (out : List Int) : List Int := if (insTo x out out.length).2 then (insTo x out out.length).1 else (insTo x out out.length).1 ++ [x]
/-- The variables of the events below n that f tells of, rising. -/
def varsTo (L : Nat → Ev) (f : Nat → Bool) : Nat → List Int
  | 0 => []
  | j + 1 => if f j then ins (L j).obj (varsTo L f j) else varsTo L f j

theorem insTo_length (x : Int) (out : List Int) (i : Nat) : (insTo x out i).1.length = i + if (insTo x out i).2 then 1 else 0 := by
  induction i with
  | zero => rfl
  | succ i ih =>
    rw [insTo, insStep]
    generalize out.getD i 0 = y
    cases h : (insTo x out i).2 <;> rw [h] at ih <;> by_cases e : x < y <;> simp [e] <;> simp at ih <;> omega
theorem ins_length (x : Int) (out : List Int) : (ins x out).length = out.length + 1 := by
  have h := insTo_length x out out.length
  unfold ins
  cases e : (insTo x out out.length).2 <;> rw [e] at h <;> simp at h ⊢ <;> omega
theorem varsTo_length (L : Nat → Ev) (f : Nat → Bool) (n : Nat) : (varsTo L f n).length ≤ n := by
  induction n with
  | zero => simp [varsTo]
  | succ n ih =>
    rw [varsTo]
    split
    · rw [ins_length]; omega
    · omega
/-- A number that an int can be. -/
def NumR (t : Int) : Prop := -9223372036854775808 ≤ t ∧ t ≤ 9223372036854775807
/-- Threads and objects are such. -/
def EvR (l : List Ev) : Prop := ∀ i, i < l.length → NumR (ev l i).thread ∧ NumR (ev l i).obj
theorem EvR.at {l : List Ev} (h : EvR l) {i : Nat} (hi : i < l.length) {t k o v : Int} (e : ev l i = ⟨t, k, o, v⟩) : NumR t ∧ NumR o := by
  have := h i hi
  rw [e] at this; exact this
end Go.Proofs.Ord
namespace Go.Proofs.YtbajfapfpcjenaaGreatDoor
open Go.RowKit

/-- The first cells that a slice leads to hold these numbers. -/
def Sl (w : World) (a : Option Addr) (zs : List Int) : Prop :=
  ∀ i, i < zs.length → ∃ b off, a = some ⟨b, off, none⟩ ∧ b < w.heap.size ∧ w.cell? ⟨b, off + i, none⟩ = some (.int .i64 (zs.getD i 0))
theorem hide {p : Prop} (h : p) : Hid p := h
theorem ret_int {k : IntKind} {a b : Int} (h : a = b) : Ending.returned (.int k a) = .returned (.int k b) := by rw [h]
theorem ret_bool {a b : Bool} (h : a = b) : Ending.returned (.bool a) = .returned (.bool b) := by rw [h]
theorem Tryz.info3 : (Tryz.prog.info? 3).map (fun i => (i.zero, i.size, i.bytes)) = some (some (.int .i64 0), 1, 8) := by kernel_rfl
theorem Sl.below {w w' : World} {a : Option Addr} {zs : List Int} (h : Sl w a zs) (hb : Below w.heap.size w w') : Sl w' a zs := by
  intro i hi
  obtain ⟨b, off, ha, hlt, hc⟩ := h i hi
  exact ⟨b, off, ha, by have := hb.size; omega, (hb.cell (p := ⟨b, off + i, none⟩) hlt).trans hc⟩
/-- A slice in memory that is new (from block B on), which can be written. -/
def New (B : Nat) (w : World) (v : Value) (zs : List Int) : Prop :=
  ∃ a cap, v = .slice a zs.length cap ∧ zs.length ≤ cap ∧ cap ≤ 9223372036854775807 ∧ (a = none → cap = 0) ∧
    ∀ i, i < zs.length → ∃ b off, a = some ⟨b, off, none⟩ ∧ B ≤ b ∧ b < w.heap.size ∧ w.cell? ⟨b, off + i, none⟩ = some (.int .i64 (zs.getD i 0)) ∧ w.frozen? ⟨b, off + i, none⟩ = false
theorem map_getElem {zs : List Int} {i : Nat} (h : i < zs.length) : (zs.map (Value.int .i64))[i]? = some (.int .i64 (zs.getD i 0)) := by
  simp [h]
/-- What is owned, cut to a beginning. -/
theorem New.of_owns {B : Nat} {w : World} {v : Value} {n : Nat} {zs : List Int} (h : w.ownsRow B 3 1 v n (zs.map (Value.int .i64))) :
    ∃ a cap, v = .slice a n cap ∧ n = zs.length ∧ n ≤ cap ∧ cap ≤ 9223372036854775807 ∧ (a = none → cap = 0) ∧
      ∀ i, i < n → ∃ b off, a = some ⟨b, off, none⟩ ∧ B ≤ b ∧ b < w.heap.size ∧ w.cell? ⟨b, off + i, none⟩ = some (.int .i64 (zs.getD i 0)) ∧ w.frozen? ⟨b, off + i, none⟩ = false := by
  have hl : n = zs.length := by have := h.1; simp at this; omega
  rcases h.2 with ⟨rfl, h0⟩ | ⟨g, cap, cur, rfl, hB, hg, hc, hm, _, _⟩
  · subst h0
    exact ⟨none, 0, rfl, hl, Nat.le_refl _, by omega, fun _ => rfl, fun i hi => absurd hi (by omega)⟩
  · refine ⟨_, cap, rfl, hl, hc, hm, (fun e => by cases e), fun i hi => ⟨g, 0, rfl, hB, (Array.getElem?_eq_some_iff.1 hg).1, ?_, ?_⟩⟩
    · rw [Nat.zero_add, h.cellAt i (by omega)]; exact map_getElem (by omega)
    · rw [Nat.zero_add]; exact h.frozenAt i
theorem trim_pref (l : List Int) : ∀ i, i < (Vec.trim l).length → (Vec.trim l).getD i 0 = l.getD i 0 := fun i _ => Vec.trim_getD l i
theorem New.sl {B : Nat} {w : World} {a : Option Addr} {n cap : Nat} {zs : List Int} (h : New B w (.slice a n cap) zs) : zs.length = n ∧ n ≤ cap ∧ cap ≤ 9223372036854775807 ∧ Sl w a zs := by
  obtain ⟨a', cap', e, h1, h2, _, h3⟩ := h
  cases e
  exact ⟨rfl, h1, h2, fun i hi => by obtain ⟨b, off, e1, _, e3, e4, _⟩ := h3 i hi; exact ⟨b, off, e1, e3, e4⟩⟩
/-- A slice as a value that came in, or that a call made. -/
def SlV (w : World) (a : Option Addr) (n cap : Nat) (zs : List Int) : Prop := zs.length = n ∧ n ≤ cap ∧ cap ≤ 9223372036854775807 ∧ (a = none → cap = 0) ∧ Sl w a zs ∧ n * 8 ≤ 140737488351232
theorem New.slV {B : Nat} {w : World} {a : Option Addr} {n cap : Nat} {zs : List Int} (h : New B w (.slice a n cap) zs) (hb : zs.length * 8 ≤ 140737488351232) : SlV w a n cap zs := by
  have h' := h.sl
  obtain ⟨a', cap', e, h1, h2, h4, h3⟩ := h
  cases e
  exact ⟨rfl, h1, h2, h4, h'.2.2.2, hb⟩
theorem SlV.below {w w' : World} {a : Option Addr} {n cap : Nat} {zs : List Int} (h : SlV w a n cap zs) (hb : Below w.heap.size w w') : SlV w' a n cap zs :=
  ⟨h.1, h.2.1, h.2.2.1, h.2.2.2.1, h.2.2.2.2.1.below hb, h.2.2.2.2.2⟩
/-- A new slice stays what it is where what lies below B' is kept. -/
theorem New.below {B B' : Nat} {w w' : World} {v : Value} {zs : List Int} (h : New B w v zs) (hb : Below w.heap.size w w') (hB : B' ≤ B) : New B' w' v zs := by
  obtain ⟨a, cap, e, h1, h2, h2', h3⟩ := h
  refine ⟨a, cap, e, h1, h2, h2', fun i hi => ?_⟩
  obtain ⟨b, off, e1, e2, e3, e4, e5⟩ := h3 i hi
  exact ⟨b, off, e1, by omega, by have := hb.size; omega, (hb.cell (p := ⟨b, off + i, none⟩) e3).trans e4, (hb.frozen (p := ⟨b, off + i, none⟩) e3).trans e5⟩
theorem one_new (w : World) (x : Value) (t : Nat) : ∀ j u, [x][j]? = some u → (w.alloc (.cells #[x] t)).cell? (Addr.add ⟨w.heap.size, 0, none⟩ j) = some u := by
  intro j u hj
  match j, hj with
  | 0, hj => simp at hj; subst hj; simp [Addr.add]
/-- What is owned, cut where only zeros are left: new memory. -/
theorem New.trimmed {B : Nat} {w : World} {a : Option Addr} {n cap : Nat} {zs : List Int} (hn : n = zs.length) (h2 : n ≤ cap) (h3 : cap ≤ 9223372036854775807) (h3' : a = none → cap = 0)
    (h4 : ∀ i, i < n → ∃ b off, a = some ⟨b, off, none⟩ ∧ B ≤ b ∧ b < w.heap.size ∧ w.cell? ⟨b, off + i, none⟩ = some (.int .i64 (zs.getD i 0)) ∧ w.frozen? ⟨b, off + i, none⟩ = false) :
    New B w (.slice a (Vec.trim zs).length cap) (Vec.trim zs) := by
  have hl := Vec.trim_len zs
  refine ⟨a, cap, rfl, by omega, h3, h3', fun i hi => ?_⟩
  obtain ⟨b, off, e1, e2', e3, e4, e5⟩ := h4 i (by omega)
  exact ⟨b, off, e1, e2', e3, by rw [e4, Vec.trim_getD], e5⟩
theorem sl_of_new {B : Nat} {w : World} {a : Option Addr} {n : Nat} {zs : List Int} (hn : n = zs.length)
    (h4 : ∀ i, i < n → ∃ b off, a = some ⟨b, off, none⟩ ∧ B ≤ b ∧ b < w.heap.size ∧ w.cell? ⟨b, off + i, none⟩ = some (.int .i64 (zs.getD i 0)) ∧ w.frozen? ⟨b, off + i, none⟩ = false) : Sl w a zs :=
  fun i hi => by obtain ⟨b, off, e1, _, e3, e4, _⟩ := h4 i (by omega); exact ⟨b, off, e1, e3, e4⟩
theorem ext_getD {xs ys : List Int} (hl : xs.length = ys.length) (h : ∀ j, j < xs.length → xs.getD j 0 = ys.getD j 0) : xs = ys := by
  apply List.ext_getElem hl
  intro i h1 h2
  have := h i h1
  simpa [h1, h2] using this
theorem drewN_below {B : Nat} {w0 w : World} (h : Below B w0 w) (n : Nat) : Below B w0 (w.drewN n) := h.trans ⟨rfl, rfl, rfl, Nat.le_refl _, fun _ _ => rfl⟩
theorem append_cells {w : World} {a : Addr} {zs : List Int} (h : Sl w (some a) zs) : ∀ j u, (zs.map (Value.int .i64))[j]? = some u → w.cell? (a.add j) = some u := by
  intro j u hj
  have hlt : j < zs.length := by have := (List.getElem?_eq_some_iff.1 hj).1; simpa using this
  obtain ⟨b, off, e, _, hc⟩ := h j hlt
  cases e
  rw [map_getElem hlt] at hj
  cases hj
  by_cases h0 : j = 0
  · subst h0; simpa [Addr.add] using hc
  · simpa [Addr.add, h0] using hc
/-- What the program's calls answer. -/
def AtSaid : Prop := ∀ (a : Option Addr) (n cap : Nat) (xs : List Int) (t : Int) (w : World), SlV w a n cap xs →
  Calls Tryz.prog 51 #[.slice a n cap, .int .i64 t] w fun e w' => e = .returned (.int .i64 (Vec.at_ xs t)) ∧ Below w.heap.size w w'
def LeqSaid : Prop := ∀ (a : Option Addr) (n cap : Nat) (xs : List Int) (a' : Option Addr) (n' cap' : Nat) (ys : List Int) (w : World), SlV w a n cap xs → SlV w a' n' cap' ys →
  Calls Tryz.prog 49 #[.slice a n cap, .slice a' n' cap'] w fun e w' => e = .returned (.bool (Vec.leq xs ys)) ∧ Below w.heap.size w w'
def MaxSaid : Prop := ∀ (a : Option Addr) (n cap : Nat) (xs : List Int) (a' : Option Addr) (n' cap' : Nat) (ys : List Int) (w : World), SlV w a n cap xs → SlV w a' n' cap' ys →
  Calls Tryz.prog 99 #[.slice a n cap, .slice a' n' cap'] w fun e w' => ∃ v, e = .returned v ∧ New w.heap.size w' v (Vec.maxV xs ys) ∧ Below w.heap.size w w'
def TickSaid : Prop := ∀ (a : Option Addr) (n cap : Nat) (xs : List Int) (t : Int) (w : World), SlV w a n cap xs →
  Calls Tryz.prog 72 #[.slice a n cap, .int .i64 t] w fun e w' => ∃ v, e = .returned v ∧ New w.heap.size w' v (Vec.tickV wrap64 xs t) ∧ Below w.heap.size w w'
theorem New.parts {B : Nat} {w : World} {v : Value} {zs : List Int} (h : New B w v zs) (hb : zs.length * 8 ≤ 140737488351232) : ∃ a cap, v = .slice a zs.length cap ∧ SlV w a zs.length cap zs := by
  obtain ⟨a, cap, rfl, _⟩ := id h
  exact ⟨a, cap, rfl, h.slV hb⟩
theorem slV_lit (w : World) (x : Array Value) (zs : List Int) (t : Nat) (h : x.toList = zs.map (Value.int .i64)) (hl : zs.length ≤ 1000) : SlV (w.alloc (.cells x t)) (some ⟨w.heap.size, 0, none⟩) zs.length zs.length zs := by
  refine ⟨rfl, Nat.le_refl _, by omega, (fun e => by cases e), fun i hi => ⟨w.heap.size, 0, rfl, by simp, ?_⟩, by omega⟩
  rw [World.cell?_alloc_mark w x t (0, 0) (0 + i), Nat.zero_add]
  have e : x[i]? = x.toList[i]? := by simp
  rw [e, h]
  exact map_getElem hi
theorem slV_nil (w : World) : SlV w none 0 0 [] := ⟨rfl, Nat.le_refl _, by omega, fun _ => rfl, fun i hi => absurd hi (by simp), by omega⟩
/-- Numbers that can be written, in blocks from B on. -/
def IntOpen (B : Nat) (w : World) (a : Option Addr) (m : Nat) : Prop :=
  ∀ j, j < m → ∃ b off, a = some ⟨b, off, none⟩ ∧ B ≤ b ∧ (w.cell? ⟨b, off + j, none⟩).isSome = true ∧ w.frozen? ⟨b, off + j, none⟩ = false ∧ b < w.heap.size
theorem New.opened {B : Nat} {w : World} {a : Option Addr} {n cap : Nat} {zs : List Int} (h : New B w (.slice a n cap) zs) : IntOpen B w a n := by
  obtain ⟨a', cap', e, _, _, _, h3⟩ := h
  cases e
  intro j hj
  obtain ⟨b, off, e1, e2, e3, e4, e5⟩ := h3 j hj
  exact ⟨b, off, e1, e2, by rw [e4]; rfl, e5, e3⟩
theorem IntOpen.below {B m : Nat} {w w' : World} {a : Option Addr} (h : IntOpen B w a m) (hb : Below w.heap.size w w') : IntOpen B w' a m := by
  intro j hj
  obtain ⟨b, off, e1, e2, e4, e5, e3⟩ := h j hj
  exact ⟨b, off, e1, e2, by rw [hb.cell (p := ⟨b, off + j, none⟩) e3]; exact e4, (hb.frozen (p := ⟨b, off + j, none⟩) e3).trans e5, by have := hb.size; omega⟩
theorem IntOpen.mono {B B' m : Nat} {w : World} {a : Option Addr} (h : IntOpen B w a m) (hB : B' ≤ B) : IntOpen B' w a m := by
  intro j hj
  obtain ⟨b, off, e1, e2, r⟩ := h j hj
  exact ⟨b, off, e1, by omega, r⟩
theorem isSome_stored {w : World} {p q : Addr} {u : Value} (h : (w.cell? q).isSome = true) : ((w.setCell p u).cell? q).isSome = true := by
  obtain ⟨x, hx⟩ := Option.isSome_iff_exists.1 h
  by_cases e : q = p
  · subst e
    rw [World.cell?_setCell_same w q u hx]; rfl
  · rw [World.cell?_setCell_other _ _ _ _ (fun h => e h.symm)]; exact h
theorem IntOpen.setCell {B m : Nat} {w : World} {a : Option Addr} (h : IntOpen B w a m) (p : Addr) (u : Value) : IntOpen B (w.setCell p u) a m := by
  intro j hj
  obtain ⟨b, off, e1, e2, e4, e5, e3⟩ := h j hj
  exact ⟨b, off, e1, e2, isSome_stored e4, by rw [World.frozen?_setCell]; exact e5, by simpa using e3⟩
theorem SlV.isNone {w : World} {a : Option Addr} {n cap : Nat} {zs : List Int} (h : SlV w a n cap zs) : a = none → n = 0 ∧ cap = 0 := fun e => by
  have := h.2.2.2.1 e
  have := h.2.1
  omega
end Go.Proofs.YtbajfapfpcjenaaGreatDoor
namespace Go.Proofs.YtbajfapfpcjenaaGreatDoor
open Go.RowKit Go.Proofs.Ord

theorem ownsRow_base {w : World} {base base' e size n : Nat} {v : Value} {xs : List Value} (h : w.ownsRow base e size v n xs) (hb : base' ≤ base) : w.ownsRow base' e size v n xs := by
  refine ⟨h.1, ?_⟩
  rcases h.2 with hn | ⟨g, cap, cur, hv, h1, rest⟩
  · exact .inl hn
  · exact .inr ⟨g, cap, cur, hv, by omega, rest⟩
/-- Pairs as cells. -/
def pairCells (ps : List (Nat × Nat)) : List Value := ps.flatMap fun p => [.int .i64 (p.1 : Int), .int .i64 (p.2 : Int)]
theorem pairCells_snoc (ps : List (Nat × Nat)) (i j : Nat) : pairCells (ps ++ [(i, j)]) = pairCells ps ++ [.int .i64 (i : Int), .int .i64 (j : Int)] := by
  simp [pairCells]
theorem pairCells_length (ps : List (Nat × Nat)) : (pairCells ps).length = 2 * ps.length := by
  induction ps with
  | nil => rfl
  | cons p r ih => simp [pairCells] at *; omega
theorem two_new (w : World) (x y : Value) (t : Nat) : ∀ j u, [x, y][j]? = some u → (w.alloc (.cells #[x, y] t)).cell? (Addr.add ⟨w.heap.size, 0, none⟩ j) = some u := by
  intro j u hj
  match j, hj with
  | 0, hj => simp at hj; subst hj; simp [Addr.add]
  | 1, hj => simp at hj; subst hj; simp [Addr.add]
end Go.Proofs.YtbajfapfpcjenaaGreatDoor
namespace Go.Proofs.YtbajfapfpcjenaaGreatDoor
open Go.RowKit Go.Proofs.Ord

/-- Whether event i is before event j, for any numbers. -/
def befI (l : List Ev) (i j : Int) : Bool := decide (0 ≤ i ∧ i < l.length ∧ 0 ≤ j ∧ j < l.length) && bef (ev l) i.toNat j.toNat
theorem pairCells_getElem (l : List (Nat × Nat)) : ∀ i, i < l.length → (pairCells l)[2 * i]? = some (.int .i64 ((l.getD i (0, 0)).1 : Int)) ∧ (pairCells l)[2 * i + 1]? = some (.int .i64 ((l.getD i (0, 0)).2 : Int)) := by
  induction l with
  | nil => intro i hi; simp at hi
  | cons e r ih =>
    intro i hi
    match i with
    | 0 => exact ⟨rfl, rfl⟩
    | j + 1 =>
      have h := ih j (by simpa using hi)
      have e1 : pairCells (e :: r) = .int .i64 (e.1 : Int) :: .int .i64 (e.2 : Int) :: pairCells r := rfl
      have e2 : (e :: r).getD (j + 1) (0, 0) = r.getD j (0, 0) := rfl
      rw [e1, e2, show 2 * (j + 1) = 2 * j + 2 from by omega, show 2 * j + 2 + 1 = 2 * j + 1 + 2 from by omega]
      exact h
/-- Pairs lie here. -/
def PairS (w : World) (a : Option Addr) (ps : List (Nat × Nat)) : Prop :=
  ∀ i, i < ps.length → ∃ b off, a = some ⟨b, off, none⟩ ∧ b < w.heap.size ∧ w.cell? ⟨b, off + i * 2, none⟩ = some (.int .i64 ((ps.getD i (0, 0)).1 : Int)) ∧ w.cell? ⟨b, off + i * 2 + 1, none⟩ = some (.int .i64 ((ps.getD i (0, 0)).2 : Int))
theorem PairS.below {w w' : World} {a : Option Addr} {ps : List (Nat × Nat)} (h : PairS w a ps) (hb : Below w.heap.size w w') : PairS w' a ps := by
  intro i hi
  obtain ⟨b, off, ha, hlt, h1, h2⟩ := h i hi
  exact ⟨b, off, ha, by have := hb.size; omega, (hb.cell (p := ⟨b, off + i * 2, none⟩) hlt).trans h1, (hb.cell (p := ⟨b, off + i * 2 + 1, none⟩) hlt).trans h2⟩
theorem pairS_of_owns {w : World} {B t n : Nat} {v : Value} {ps : List (Nat × Nat)} (h : w.ownsRow B t 2 v n (pairCells ps)) : ∃ a cap, v = .slice a n cap ∧ ps.length = n ∧ n ≤ cap ∧ cap ≤ maxLen ∧ PairS w a ps := by
  have hl : ps.length = n := by have := h.1; rw [pairCells_length] at this; omega
  rcases h.2 with ⟨rfl, h0⟩ | ⟨g, cap, cur, rfl, hB, hg, hc, hm, _, _⟩
  · subst h0
    exact ⟨none, 0, rfl, hl, Nat.le_refl _, by unfold maxLen; omega, fun i hi => absurd hi (by omega)⟩
  · refine ⟨_, cap, rfl, hl, hc, hm, fun i hi => ⟨g, 0, rfl, (Array.getElem?_eq_some_iff.1 hg).1, ?_, ?_⟩⟩
    · rw [show 0 + i * 2 = 2 * i from by omega, h.cellAt _ (by omega)]; exact (pairCells_getElem ps i hi).1
    · rw [show 0 + i * 2 + 1 = 2 * i + 1 from by omega, h.cellAt _ (by omega)]; exact (pairCells_getElem ps i hi).2
end Go.Proofs.YtbajfapfpcjenaaGreatDoor
namespace Go.Proofs.YtbajfapfpcjenaaGreatDoor
open Go.RowKit Go.Proofs.Ord

/-- Pairs in new memory, which can be written. -/
def PairNew (B : Nat) (w : World) (v : Value) (ps : List (Nat × Nat)) : Prop :=
  ∃ a cap, v = .slice a ps.length cap ∧ ps.length ≤ cap ∧ cap ≤ maxLen ∧
    ∀ i, i < ps.length → ∃ b off, a = some ⟨b, off, none⟩ ∧ B ≤ b ∧ b < w.heap.size ∧ w.cell? ⟨b, off + i * 2, none⟩ = some (.int .i64 ((ps.getD i (0, 0)).1 : Int)) ∧ w.cell? ⟨b, off + i * 2 + 1, none⟩ = some (.int .i64 ((ps.getD i (0, 0)).2 : Int)) ∧
      w.frozen? ⟨b, off + i * 2, none⟩ = false ∧ w.frozen? ⟨b, off + i * 2 + 1, none⟩ = false
theorem PairNew.pairS {B : Nat} {w : World} {a : Option Addr} {n cap : Nat} {ps : List (Nat × Nat)} (h : PairNew B w (.slice a n cap) ps) : ps.length = n ∧ PairS w a ps := by
  obtain ⟨a', cap', e, _, _, h3⟩ := h
  cases e
  exact ⟨rfl, fun i hi => by obtain ⟨b, off, e1, _, e3, e4, e5, _, _⟩ := h3 i hi; exact ⟨b, off, e1, e3, e4, e5⟩⟩
theorem evS_lit (w : World) (t : Nat) (l : List Ev) (hl : l.length ≤ 1000) : EvS (w.alloc (.cells (evCells l).toArray t)) (some ⟨w.heap.size, 0, none⟩) l := by
  have h := World.ownsRow_lit (base := w.heap.size) (e := t) (size := 4) w (evCells l).toArray l.length (Nat.le_refl _) (by unfold maxLen; omega) (by simp [evCells_length]; omega)
  obtain ⟨a, cap, e, _, _, _, h2⟩ := evS_of_owns (l := l) (v := .slice (some ⟨w.heap.size, 0, none⟩) l.length l.length) (by simpa using h)
  cases e
  exact h2
theorem PairNew.below {B B' : Nat} {w w' : World} {v : Value} {ps : List (Nat × Nat)} (h : PairNew B w v ps) (hb : Below w.heap.size w w') (hB : B' ≤ B) : PairNew B' w' v ps := by
  obtain ⟨a, cap, e, h1, h2, h3⟩ := h
  refine ⟨a, cap, e, h1, h2, fun i hi => ?_⟩
  obtain ⟨b, off, e1, e2, e3, e4, e5, e6, e7⟩ := h3 i hi
  exact ⟨b, off, e1, by omega, by have := hb.size; omega, (hb.cell (p := ⟨b, off + i * 2, none⟩) e3).trans e4, (hb.cell (p := ⟨b, off + i * 2 + 1, none⟩) e3).trans e5, (hb.frozen (p := ⟨b, off + i * 2, none⟩) e3).trans e6, (hb.frozen (p := ⟨b, off + i * 2 + 1, none⟩) e3).trans e7⟩
theorem size_setCell (w : World) (a : Addr) (u : Value) : (w.setCell a u).heap.size = w.heap.size := by
  have h := (Below.refl 0 w).setCell (p := a) (Nat.zero_le _) u
  simp
theorem PairNew.setCell {B b o : Nat} {w : World} {v : Value} {ps : List (Nat × Nat)} (h : PairNew B w v ps) (hb : b < B) (u : Value) : PairNew B (w.setCell ⟨b, o, none⟩ u) v ps := by
  obtain ⟨a, cap, e, h1, h2, h3⟩ := h
  refine ⟨a, cap, e, h1, h2, fun i hi => ?_⟩
  obtain ⟨b', off, e1, e2, e3, e4, e5, e6, e7⟩ := h3 i hi
  refine ⟨b', off, e1, e2, by rw [size_setCell]; exact e3, ?_, ?_, ?_, ?_⟩
  · rw [World.cell?_setCell_other _ _ _ _ (by intro e; cases e; omega)]; exact e4
  · rw [World.cell?_setCell_other _ _ _ _ (by intro e; cases e; omega)]; exact e5
  · rw [World.frozen?_setCell]; exact e6
  · rw [World.frozen?_setCell]; exact e7
theorem pairNew_of_owns {w : World} {B t n : Nat} {v : Value} {ps : List (Nat × Nat)} (h : w.ownsRow B t 2 v n (pairCells ps)) : PairNew B w v ps := by
  have hl : ps.length = n := by have := h.1; rw [pairCells_length] at this; omega
  rcases h.2 with ⟨rfl, h0⟩ | ⟨g, cap, cur, rfl, hB, hg, hc, hm, _, _⟩
  · subst h0
    exact ⟨none, 0, by rw [hl], by omega, by unfold maxLen; omega, fun i hi => absurd hi (by omega)⟩
  · refine ⟨_, cap, by rw [hl], by omega, hm, fun i hi => ⟨g, 0, rfl, hB, (Array.getElem?_eq_some_iff.1 hg).1, ?_, ?_, h.frozenAt _, h.frozenAt _⟩⟩
    · rw [show 0 + i * 2 = 2 * i from by omega, h.cellAt _ (by omega)]; exact (pairCells_getElem ps i hi).1
    · rw [show 0 + i * 2 + 1 = 2 * i + 1 from by omega, h.cellAt _ (by omega)]; exact (pairCells_getElem ps i hi).2
/-- The first numbers of pairs can be written, in blocks from B to C. -/
def PairOpen (B C : Nat) (w : World) (a : Option Addr) (m : Nat) : Prop :=
  ∀ j, j < m → ∃ b off, a = some ⟨b, off, none⟩ ∧ B ≤ b ∧ b < C ∧ (w.cell? ⟨b, off + j * 2, none⟩).isSome = true ∧ w.frozen? ⟨b, off + j * 2, none⟩ = false
theorem PairNew.opened {B : Nat} {w : World} {a : Option Addr} {n cap : Nat} {ps : List (Nat × Nat)} (h : PairNew B w (.slice a n cap) ps) : PairOpen B w.heap.size w a n := by
  obtain ⟨a', cap', e, _, _, h3⟩ := h
  cases e
  intro j hj
  obtain ⟨b, off, e1, e2, e3, e4, e5, e6, e7⟩ := h3 j hj
  exact ⟨b, off, e1, e2, e3, by rw [e4]; rfl, e6⟩
theorem PairOpen.below {B C m : Nat} {w w' : World} {a : Option Addr} (h : PairOpen B C w a m) (hb : Below C w w') : PairOpen B C w' a m := by
  intro j hj
  obtain ⟨b, off, e1, e2, e3, e4, e5⟩ := h j hj
  exact ⟨b, off, e1, e2, e3, by rw [hb.cell (p := ⟨b, off + j * 2, none⟩) e3]; exact e4, (hb.frozen (p := ⟨b, off + j * 2, none⟩) e3).trans e5⟩
theorem isSome_setCell {w : World} {p q : Addr} {u : Value} (h : (w.cell? q).isSome = true) : ((w.setCell p u).cell? q).isSome = true := by
  obtain ⟨x, hx⟩ := Option.isSome_iff_exists.1 h
  by_cases e : q = p
  · subst e
    rw [World.cell?_setCell_same w q u hx]; rfl
  · rw [World.cell?_setCell_other _ _ _ _ (fun h => e h.symm)]; exact h
theorem PairOpen.setCell {B C m : Nat} {w : World} {a : Option Addr} (h : PairOpen B C w a m) (p : Addr) (u : Value) : PairOpen B C (w.setCell p u) a m := by
  intro j hj
  obtain ⟨b, off, e1, e2, e3, e4, e5⟩ := h j hj
  exact ⟨b, off, e1, e2, e3, isSome_setCell e4, by rw [World.frozen?_setCell]; exact e5⟩
theorem beq_self_bool (b : Bool) : (b == b) = true := by cases b <;> rfl
end Go.Proofs.YtbajfapfpcjenaaGreatDoor
namespace Go.Proofs.YtbajfapfpcjenaaGreatDoor
open Go.RowKit Go.Proofs.Ord

/-- Nothing is changed but blocks of F, and new ones. -/
structure Only (F : Nat → Prop) (w w' : World) : Prop where
  os : w'.os = w.os
  tape : w'.tape = w.tape
  output : w'.output = w.output
  size : w.heap.size ≤ w'.heap.size
  block : ∀ k, k < w.heap.size → ¬ F k → w'.heap[k]? = w.heap[k]?

theorem Only.below {F : Nat → Prop} {B : Nat} {w w' : World} (h : Only F w w') (hB : B ≤ w.heap.size) (hF : ∀ k, F k → B ≤ k) : Below B w w' :=
  ⟨h.os, h.tape, h.output, h.size, fun k hk => h.block k (by omega) (fun e => by have := hF k e; omega)⟩
theorem Only.cell {F : Nat → Prop} {w w' : World} (h : Only F w w') {p : Addr} (hp : p.block < w.heap.size) (hF : ¬ F p.block) : w'.cell? p = w.cell? p := World.cell?_of_block (w := w) (h.block p.block hp hF)
theorem Only.frozen {F : Nat → Prop} {w w' : World} (h : Only F w w') {p : Addr} (hp : p.block < w.heap.size) (hF : ¬ F p.block) : w'.frozen? p = w.frozen? p := World.frozen?_of_block (w := w) (h.block p.block hp hF)

/-- What the program's detector keeps to. Det: what stands in memory when these events have been seen; F: the blocks that it is kept in. -/
structure DetSaid (Det : World → (Nat → Prop) → Addr → List Ev → Prop) : Prop where
  /-- It hangs on its own blocks alone. -/
  own : ∀ {w w' : World} {F : Nat → Prop} {p : Addr} {l : List Ev}, Det w F p l → (∀ k, F k → w'.heap[k]? = w.heap[k]?) → w.heap.size ≤ w'.heap.size → w'.os = w.os → w'.tape = w.tape → w'.output = w.output → Det w' F p l
  lt : ∀ {w : World} {F : Nat → Prop} {p : Addr} {l : List Ev}, Det w F p l → ∀ k, F k → k < w.heap.size
  new : ∀ (w : World), Calls Tryz.prog 5 #[] w fun e w' => ∃ p F, e = .returned (.pointer (some p)) ∧ Det w' F p [] ∧ (∀ k, F k → w.heap.size ≤ k) ∧ Below w.heap.size w w'
  see : ∀ (w : World) (F : Nat → Prop) (p : Addr) (l : List Ev) (x : Ev), Det w F p l → l.length < 1048576 → NumR x.thread → NumR x.obj →
    Calls Tryz.prog 8 #[.pointer (some p), .agg #[.int .i64 x.thread, .int .i64 x.kind, .int .i64 x.obj, .int .i64 x.value]] w fun e w' => ∃ F', e = .returned (.bool (isFirst (ev (l ++ [x])) l.length)) ∧ Det w' F' p (l ++ [x]) ∧ (∀ k, k < w.heap.size → F' k → F k) ∧ Only F w w'
  racy : ∀ (w : World) (F : Nat → Prop) (p : Addr) (l : List Ev), Det w F p l → l.length ≤ 1048576 →
    Calls Tryz.prog 10 #[.pointer (some p)] w fun e w' => ∃ v, e = .returned v ∧ New w.heap.size w' v (varsTo (ev l) (isFirst (ev l)) l.length) ∧ Below w.heap.size w w'
def FastSaid : Prop := ∃ Det, DetSaid Det

def FirstSaid : Prop := ∀ (a : Option Addr) (n cap : Nat) (l : List Ev) (obj : Int) (w : World), l.length = n → EvS w a l → n ≤ cap → cap ≤ maxLen → n ≤ 1048576 → EvR l →
  Calls Tryz.prog 9 #[.slice a n cap, .int .i64 obj] w fun e w' => e = .returned (.int .i64 (firstOf (ev l) obj n)) ∧ Below w.heap.size w w'

theorem first6a : isFirst (ev ([] ++ [⟨0, 2, 3, 0⟩])) 0 = false := by decide +kernel
theorem first6b : isFirst (ev ([] ++ [⟨0, 2, 3, 0⟩] ++ [⟨1, 2, 3, 0⟩])) 1 = true := by decide +kernel
theorem first6c : isFirst (ev ([] ++ [⟨0, 2, 3, 0⟩] ++ [⟨1, 2, 3, 0⟩] ++ [⟨2, 1, 3, 0⟩])) 2 = false := by decide +kernel
theorem vars6 : varsTo (ev ([] ++ [⟨0, 2, 3, 0⟩] ++ [⟨1, 2, 3, 0⟩] ++ [⟨2, 1, 3, 0⟩])) (isFirst (ev ([] ++ [⟨0, 2, 3, 0⟩] ++ [⟨1, 2, 3, 0⟩] ++ [⟨2, 1, 3, 0⟩]))) 3 = [3] := by decide +kernel

set_option maxRecDepth 100000 in
set_option maxHeartbeats 1000000 in
theorem alive6_true (hF : FastSaid) (w : World) : Calls Tryz.prog 11 #[] w fun e w' => e = .returned (.bool true) ∧ Below w.heap.size w w' := by
  obtain ⟨Det, hD⟩ := hF
  go_enter Tryz.func11, Tryz.ntmps11
  go_wp2_with fail
  refine (hD.new _).mono ?_
  rintro e w1 ⟨p, F, rfl, hd1, hF1, hb1⟩
  go_wp2_with fail
  refine (hD.see _ _ _ _ ⟨0, 2, 3, 0⟩ hd1 (by simp) (by unfold NumR; decide) (by unfold NumR; decide)).mono ?_
  rintro e w2 ⟨F2, rfl, hd2, hF2, ho2⟩
  rw [show ([] : List Ev).length = 0 from rfl, first6a]
  have hb2 : Below w.heap.size w w2 := hb1.trans (ho2.below hb1.size hF1)
  have hF2' : ∀ k, F2 k → w.heap.size ≤ k := fun k hk => by
    by_cases e : k < w1.heap.size
    · exact hF1 k (hF2 k e hk)
    · have := hb1.size; omega
  clear hd1 hF1 hb1 hF2 ho2
  go_wp2_with fail
  refine (hD.see _ _ _ _ ⟨1, 2, 3, 0⟩ hd2 (by simp) (by unfold NumR; decide) (by unfold NumR; decide)).mono ?_
  rintro e w3 ⟨F3, rfl, hd3, hF3, ho3⟩
  rw [show ([] ++ [⟨0, 2, 3, 0⟩] : List Ev).length = 1 from rfl, first6b]
  have hb3 : Below w.heap.size w w3 := hb2.trans (ho3.below hb2.size hF2')
  have hF3' : ∀ k, F3 k → w.heap.size ≤ k := fun k hk => by
    by_cases e : k < w2.heap.size
    · exact hF2' k (hF3 k e hk)
    · have := hb2.size; omega
  clear hd2 hF2' hb2 hF3 ho3
  go_wp2_with fail
  refine (hD.see _ _ _ _ ⟨2, 1, 3, 0⟩ hd3 (by simp) (by unfold NumR; decide) (by unfold NumR; decide)).mono ?_
  rintro e w4 ⟨F4, rfl, hd4, hF4, ho4⟩
  rw [show ([] ++ [⟨0, 2, 3, 0⟩] ++ [⟨1, 2, 3, 0⟩] : List Ev).length = 2 from rfl, first6c]
  have hb4 : Below w.heap.size w w4 := hb3.trans (ho4.below hb3.size hF3')
  clear hd3 hF3' hb3 hF4 ho4
  go_wp2_with fail
  refine (hD.racy _ _ _ _ hd4 (by simp)).mono ?_
  rintro e w5 ⟨v, rfl, hv, hb5⟩
  rw [show ([] ++ [⟨0, 2, 3, 0⟩] ++ [⟨1, 2, 3, 0⟩] ++ [⟨2, 1, 3, 0⟩] : List Ev).length = 3 from rfl, vars6] at hv
  obtain ⟨a5, c5, rfl, _, _, _, h5⟩ := hv
  obtain ⟨b, off, rfl, _, _, e4, _⟩ := h5 0 (by simp)
  simp only [List.getD_cons_zero, Nat.add_zero, List.length_cons, List.length_nil, Nat.zero_add] at e4 ⊢
  have hk := o_hide (hb4.trans (hb5.mono hb4.size))
  clear h5 hb4 hb5 hd4
  go_wp2
  go_ret
  exact ⟨rfl, hk.out⟩
end Go.Proofs.YtbajfapfpcjenaaGreatDoor
namespace Go.Proofs.YtbajfapfpcjenaaGreatDoor
open Go.RowKit Go.Proofs.Ord

/-- Truths lie here. -/
def BoolS (w : World) (a : Option Addr) (n : Nat) (f : Nat → Bool) : Prop :=
  ∀ i, i < n → ∃ b off, a = some ⟨b, off, none⟩ ∧ b < w.heap.size ∧ w.cell? ⟨b, off + i, none⟩ = some (.bool (f i))
theorem BoolS.below {w w' : World} {a : Option Addr} {n : Nat} {f : Nat → Bool} (h : BoolS w a n f) (hb : Below w.heap.size w w') : BoolS w' a n f := by
  intro i hi
  obtain ⟨b, off, e1, e2, e3⟩ := h i hi
  exact ⟨b, off, e1, by have := hb.size; omega, (hb.cell (p := ⟨b, off + i, none⟩) e2).trans e3⟩
theorem Tells.boolS {w : World} {B g n : Nat} {f : Nat → Bool} (h : Tells w B g n f) : BoolS w (some ⟨g, 0, none⟩) n f :=
  fun i hi => ⟨g, 0, rfl, (World.ownsRow.lt h _ rfl).2, by rw [Nat.zero_add]; exact h.cell hi⟩
theorem take_any (P : List (Nat × Nat)) (i : Nat) (hi : i < P.length) (q : Nat) : ((P.take (i + 1)).any fun p => p.2 == q) = (((P.take i).any fun p => p.2 == q) || (P.getD i (0, 0)).2 == q) := by
  rw [List.take_succ_eq_append_getElem hi, List.any_append]
  have : P.getD i (0, 0) = P[i] := by simp [hi]
  rw [this]; simp
end Go.Proofs.YtbajfapfpcjenaaGreatDoor
