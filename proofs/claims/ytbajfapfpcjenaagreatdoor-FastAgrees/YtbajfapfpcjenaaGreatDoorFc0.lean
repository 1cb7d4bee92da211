import Derived.Test.YtbajfapfpcjenaaGreatDoorChecked
import Derived.WalkKit
import Derived.ProofKit
import Derived.Deep.RegionHeld3
import Derived.Deep.DrawnRows
import Derived.Deep.QuietTactic
import Derived.BigQuiet
import Derived.Deep.AppendLies
import Derived.WalkSpells
import Derived.StillTactics
import Derived.OwnWalk
import Derived.Laws.Pointers
import Derived.Test.YtbajfapfpcjenaaGreatDoorRows
import Derived.Deep.Slices
import Derived.Lib.SmallJoins
import Derived.OpenShut
import Derived.SizedLaws
import Derived.ShutString
import Derived.ChangeOld
import Derived.JoinedCond
/-
  The plain mathematics of chapter 3: what is before what, and what races.
-/
namespace Go.Proofs.Ord

structure Ev where
  thread : Int
  kind : Int
  obj : Int
  value : Int

def Ev.zero : Ev := ⟨0, 0, 0, 0⟩
/-- Event k of a list. -/
def ev (l : List Ev) (k : Nat) : Ev := l.getD k Ev.zero

/-- Event a leads to event b behind it. -/
def leads (a b : Ev) : Bool :=
  a.thread == b.thread || (a.kind == 6 && b.kind == 5 && a.obj == b.obj) || (a.kind == 4 && b.kind == 3 && a.obj == b.obj) || (a.kind == 7 && a.obj == b.thread) || (b.kind == 8 && b.obj == a.thread)

/-- Of the first n events: whether event i is before each. -/
def row (l : Nat → Ev) (i : Nat) : Nat → List Bool
  | 0 => []
  | n + 1 => row l i n ++ [decide (i < n) && (leads (l i) (l n) || (List.range n).any fun k => decide (i < k) && ((row l i n).getD k false && leads (l k) (l n)))]

theorem row_length (l : Nat → Ev) (i n : Nat) : (row l i n).length = n := by
  induction n with
  | zero => rfl
  | succ n ih => simp [row, ih]

def bef (l : Nat → Ev) (i j : Nat) : Bool := (row l i (j + 1)).getD j false

theorem row_getD (l : Nat → Ev) (i n j : Nat) (h : j < n) : (row l i n).getD j false = bef l i j := by
  induction n with
  | zero => omega
  | succ n ih =>
    by_cases hj : j = n
    · subst hj; rfl
    · have : j < n := by omega
      rw [← ih this]
      rw [row, List.getD_eq_getElem?_getD, List.getD_eq_getElem?_getD, List.getElem?_append_left (by rw [row_length]; exact this)]

theorem bef_iff (l : Nat → Ev) (i j : Nat) : bef l i j = true ↔ i < j ∧ (leads (l i) (l j) = true ∨ ∃ k, i < k ∧ k < j ∧ bef l i k = true ∧ leads (l k) (l j) = true) := by
  have e : bef l i j = (decide (i < j) && (leads (l i) (l j) || (List.range j).any fun k => decide (i < k) && ((row l i j).getD k false && leads (l k) (l j)))) := by
    unfold bef
    rw [row, List.getD_eq_getElem?_getD, List.getElem?_append_right (by rw [row_length]; exact Nat.le_refl _), row_length]
    simp
  rw [e, Bool.and_eq_true, Bool.or_eq_true, decide_eq_true_eq, List.any_eq_true]
  constructor
  · rintro ⟨h1, h2 | ⟨k, hk, hh⟩⟩
    · exact ⟨h1, .inl h2⟩
    · rw [List.mem_range] at hk
      rw [Bool.and_eq_true, Bool.and_eq_true, decide_eq_true_eq, row_getD l i j k hk] at hh
      exact ⟨h1, .inr ⟨k, hh.1, hk, hh.2.1, hh.2.2⟩⟩
  · rintro ⟨h1, h2 | ⟨k, h3, h4, h5, h6⟩⟩
    · exact ⟨h1, .inl h2⟩
    · refine ⟨h1, .inr ⟨k, List.mem_range.2 h4, ?_⟩⟩
      rw [Bool.and_eq_true, Bool.and_eq_true, decide_eq_true_eq, row_getD l i j k h4]
      exact ⟨h3, h5, h6⟩

theorem bef_lt {l : Nat → Ev} {i j : Nat} (h : bef l i j = true) : i < j := ((bef_iff l i j).1 h).1
theorem bef_ge {l : Nat → Ev} {i j : Nat} (h : j ≤ i) : bef l i j = false := by
  cases e : bef l i j with
  | false => rfl
  | true => have := bef_lt e; omega
theorem bef_leads {l : Nat → Ev} {i j : Nat} (h : i < j) (hl : leads (l i) (l j) = true) : bef l i j = true := (bef_iff l i j).2 ⟨h, .inl hl⟩
theorem bef_thread {l : Nat → Ev} {i j : Nat} (h : i < j) (ht : (l i).thread = (l j).thread) : bef l i j = true :=
  bef_leads h (by simp [leads, ht])

theorem bef_trans {l : Nat → Ev} {i j : Nat} (h : bef l i j = true) : ∀ k, bef l j k = true → bef l i k = true := by
  intro k
  induction k using Nat.strongRecOn with
  | ind k ih =>
    intro hk
    have hij := bef_lt h
    obtain ⟨hjk, h2 | ⟨m, h3, h4, h5, h6⟩⟩ := (bef_iff l j k).1 hk
    · exact (bef_iff l i k).2 ⟨by omega, .inr ⟨j, hij, hjk, h, h2⟩⟩
    · exact (bef_iff l i k).2 ⟨by omega, .inr ⟨m, by omega, h4, ih m h4 h5, h6⟩⟩

/-- What comes behind changes nothing ahead of it. -/
theorem bef_congr {l m : Nat → Ev} {i : Nat} : ∀ j, (∀ k, k ≤ j → l k = m k) → bef l i j = bef m i j := by
  intro j
  induction j using Nat.strongRecOn with
  | ind j ih =>
    intro h
    rw [Bool.eq_iff_iff, bef_iff, bef_iff]
    constructor
    · rintro ⟨h1, h2 | ⟨k, h3, h4, h5, h6⟩⟩
      · exact ⟨h1, .inl (by rw [← h i (by omega), ← h j (by omega)]; exact h2)⟩
      · exact ⟨h1, .inr ⟨k, h3, h4, by rw [← ih k h4 (fun q hq => h q (by omega))]; exact h5, by rw [← h k (by omega), ← h j (by omega)]; exact h6⟩⟩
    · rintro ⟨h1, h2 | ⟨k, h3, h4, h5, h6⟩⟩
      · exact ⟨h1, .inl (by rw [h i (by omega), h j (by omega)]; exact h2)⟩
      · exact ⟨h1, .inr ⟨k, h3, h4, by rw [ih k h4 (fun q hq => h q (by omega))]; exact h5, by rw [h k (by omega), h j (by omega)]; exact h6⟩⟩

/-- Whether event i is before event j, as far as events below k tell. -/
def part (l : Nat → Ev) (i j k : Nat) : Bool := leads (l i) (l j) || (List.range k).any fun q => decide (i < q) && (bef l i q && leads (l q) (l j))
theorem part_start (l : Nat → Ev) (i j : Nat) : part l i j (i + 1) = leads (l i) (l j) := by
  unfold part
  have : ((List.range (i + 1)).any fun q => decide (i < q) && (bef l i q && leads (l q) (l j))) = false := by
    rw [List.any_eq_false]
    intro q hq
    rw [List.mem_range] at hq
    simp; omega
  rw [this, Bool.or_false]
theorem part_succ (l : Nat → Ev) (i j k : Nat) (h : i < k) : part l i j (k + 1) = (part l i j k || (bef l i k && leads (l k) (l j))) := by
  unfold part
  rw [List.range_succ, List.any_append]
  simp [h, Bool.or_assoc]
theorem part_all (l : Nat → Ev) (i j : Nat) (h : i < j) : part l i j j = bef l i j := by
  have e : ∀ q, q ∈ List.range j → (decide (i < q) && (bef l i q && leads (l q) (l j))) = (decide (i < q) && ((row l i j).getD q false && leads (l q) (l j))) := by
    intro q hq
    rw [row_getD l i j q (List.mem_range.1 hq)]
  unfold bef
  rw [row, List.getD_eq_getElem?_getD, List.getElem?_append_right (by rw [row_length]; exact Nat.le_refl _), row_length]
  unfold part
  simp only [Nat.sub_self, List.getElem?_cons_zero, Option.getD_some, h, decide_true, Bool.true_and]
  rw [Bool.eq_iff_iff, Bool.or_eq_true, Bool.or_eq_true, List.any_eq_true, List.any_eq_true]
  constructor
  · rintro (h | ⟨q, h1, h2⟩)
    · exact .inl h
    · exact .inr ⟨q, h1, by rw [← e q h1]; exact h2⟩
  · rintro (h | ⟨q, h1, h2⟩)
    · exact .inl h
    · exact .inr ⟨q, h1, by rw [e q h1]; exact h2⟩

def access (e : Ev) : Bool := e.kind == 1 || e.kind == 2
def conflict (a b : Ev) : Bool := access a && access b && a.obj == b.obj && a.thread != b.thread && (a.kind == 2 || b.kind == 2)
def race (l : Nat → Ev) (i j : Nat) : Bool := conflict (l i) (l j) && !bef l i j

/-- The races whose second event is j, of the first i events. -/
def racesOf (l : Nat → Ev) (j i : Nat) : List (Nat × Nat) := ((List.range i).filter fun q => race l q j).map fun q => (q, j)
/-- All races whose second event is below n. -/
def racesTo (l : Nat → Ev) : Nat → List (Nat × Nat)
  | 0 => []
  | n + 1 => racesTo l n ++ racesOf l n n

theorem racesOf_succ (l : Nat → Ev) (j i : Nat) : racesOf l j (i + 1) = racesOf l j i ++ if race l i j then [(i, j)] else [] := by
  unfold racesOf
  rw [List.range_succ, List.filter_append, List.map_append]
  cases h : race l i j <;> simp [h]
theorem racesOf_length (l : Nat → Ev) (j i : Nat) : (racesOf l j i).length ≤ i := by
  unfold racesOf
  rw [List.length_map]
  have := List.length_filter_le (fun q => race l q j) (List.range i)
  simpa using this
theorem racesTo_length (l : Nat → Ev) (n : Nat) : (racesTo l n).length ≤ n * n := by
  induction n with
  | zero => simp [racesTo]
  | succ n ih =>
    rw [racesTo, List.length_append]
    have := racesOf_length l n n
    have e : (n + 1) * (n + 1) = n * n + 2 * n + 1 := by rw [Nat.add_mul, Nat.mul_add]; omega
    omega
theorem mem_racesTo (l : Nat → Ev) (n i j : Nat) : (i, j) ∈ racesTo l n ↔ j < n ∧ i < j ∧ race l i j = true := by
  induction n with
  | zero => simp [racesTo]
  | succ n ih =>
    rw [racesTo, List.mem_append, ih]
    unfold racesOf
    simp only [List.mem_map, List.mem_filter, List.mem_range, Prod.mk.injEq]
    constructor
    · rintro (⟨h1, h2, h3⟩ | ⟨q, ⟨h1, h2⟩, rfl, rfl⟩)
      · exact ⟨by omega, h2, h3⟩
      · exact ⟨by omega, h1, h2⟩
    · rintro ⟨h1, h2, h3⟩
      by_cases e : j = n
      · subst e; exact .inr ⟨i, ⟨h2, h3⟩, rfl, rfl⟩
      · exact .inl ⟨by omega, h2, h3⟩
theorem racesTo_congr {l m : Nat → Ev} (n : Nat) (h : ∀ k, k < n → l k = m k) : racesTo l n = racesTo m n := by
  induction n with
  | zero => rfl
  | succ n ih =>
    rw [racesTo, racesTo, ih (fun k hk => h k (by omega))]
    congr 1
    unfold racesOf
    congr 1
    apply List.filter_congr
    intro q hq
    rw [List.mem_range] at hq
    unfold race
    rw [h q (by omega), h n (by omega), bef_congr (l := l) (m := m) n (fun k hk => h k (by omega))]
/-- Those of a beginning are those of the whole that lie in it. -/
theorem racesTo_filter (l : Nat → Ev) (n : Nat) : ∀ m, n ≤ m → (racesTo l m).filter (fun p => decide (p.2 < n)) = racesTo l n := by
  intro m
  induction m with
  | zero => intro h; obtain rfl : n = 0 := by omega
            rfl
  | succ m ih =>
    intro h
    by_cases e : n = m + 1
    · subst e
      apply List.filter_eq_self.2
      intro p hp
      have := (mem_racesTo l (m + 1) p.1 p.2).1 hp
      simp; omega
    · rw [racesTo, List.filter_append, ih (by omega)]
      have : (racesOf l m m).filter (fun p => decide (p.2 < n)) = [] := by
        apply List.filter_eq_nil_iff.2
        intro p hp
        unfold racesOf at hp
        obtain ⟨q, _, rfl⟩ := List.mem_map.1 hp
        simp; omega
      rw [this, List.append_nil]

/-- Racy: the second event of a race. -/
def racy (l : Nat → Ev) (j : Nat) : Bool := (List.range j).any fun i => race l i j
theorem racy_iff (l : Nat → Ev) (j : Nat) : racy l j = true ↔ ∃ i, i < j ∧ race l i j = true := by
  unfold racy
  rw [List.any_eq_true]
  exact ⟨fun ⟨i, h1, h2⟩ => ⟨i, List.mem_range.1 h1, h2⟩, fun ⟨i, h1, h2⟩ => ⟨i, List.mem_range.2 h1, h2⟩⟩

end Go.Proofs.Ord
namespace Go.Proofs.YtbajfapfpcjenaaGreatDoor
open Go.RowKit Go.Proofs.Ord

theorem o_hide {p : Prop} (h : p) : Hid p := h
theorem o_ret_bool {a b : Bool} (h : a = b) : Ending.returned (.bool a) = .returned (.bool b) := by rw [h]

/-- An event as a value. -/
def evV (e : Ev) : Value := .agg #[.int .i64 e.thread, .int .i64 e.kind, .int .i64 e.obj, .int .i64 e.value]

theorem leads_mk (t k o v t' k' o' v' : Int) : leads ⟨t, k, o, v⟩ ⟨t', k', o', v'⟩ = (t == t' || (k == 6 && k' == 5 && o == o') || (k == 4 && k' == 3 && o == o') || (k == 7 && o == t') || (k' == 8 && o' == t)) := rfl

theorem access_mk (t k o v : Int) : access ⟨t, k, o, v⟩ = (k == 1 || k == 2) := rfl
theorem conflict_mk (t k o v t' k' o' v' : Int) : conflict ⟨t, k, o, v⟩ ⟨t', k', o', v'⟩ = (access ⟨t, k, o, v⟩ && access ⟨t', k', o', v'⟩ && o == o' && t != t' && (k == 2 || k' == 2)) := rfl

end Go.Proofs.YtbajfapfpcjenaaGreatDoor
namespace Go.Proofs.YtbajfapfpcjenaaGreatDoor
open Go.RowKit Go.Proofs.Ord

/-- An event lies here. -/
def EvAt (w : World) (b o : Nat) (e : Ev) : Prop :=
  w.cell? ⟨b, o, none⟩ = some (.int .i64 e.thread) ∧ w.cell? ⟨b, o + 1, none⟩ = some (.int .i64 e.kind) ∧ w.cell? ⟨b, o + 2, none⟩ = some (.int .i64 e.obj) ∧ w.cell? ⟨b, o + 3, none⟩ = some (.int .i64 e.value)
/-- The first cells that a slice leads to hold these events. -/
def EvS (w : World) (a : Option Addr) (l : List Ev) : Prop :=
  ∀ i, i < l.length → ∃ b off, a = some ⟨b, off, none⟩ ∧ b < w.heap.size ∧ EvAt w b (off + i * 4) (Ord.ev l i)
theorem EvAt.below {B : Nat} {w w' : World} {b o : Nat} {e : Ev} (h : EvAt w b o e) (hb : Below B w w') (hlt : b < B) : EvAt w' b o e :=
  ⟨(hb.cell (p := ⟨b, o, none⟩) hlt).trans h.1, (hb.cell (p := ⟨b, o + 1, none⟩) hlt).trans h.2.1, (hb.cell (p := ⟨b, o + 2, none⟩) hlt).trans h.2.2.1, (hb.cell (p := ⟨b, o + 3, none⟩) hlt).trans h.2.2.2⟩
theorem EvS.below {w w' : World} {a : Option Addr} {l : List Ev} (h : EvS w a l) (hb : Below w.heap.size w w') : EvS w' a l := by
  intro i hi
  obtain ⟨b, off, ha, hlt, hc⟩ := h i hi
  exact ⟨b, off, ha, by have := hb.size; omega, hc.below hb hlt⟩
theorem EvS.at {w w' : World} {b off : Nat} {l : List Ev} (h : EvS w (some ⟨b, off, none⟩) l) (hb : Below w.heap.size w w') {i : Nat} (hi : i < l.length) :
    ∃ t k o v, Hid (Ord.ev l i = ⟨t, k, o, v⟩) ∧ w'.cell? ⟨b, off + i * 4, none⟩ = some (.int .i64 t) ∧ w'.cell? ⟨b, off + i * 4 + 1, none⟩ = some (.int .i64 k) ∧ w'.cell? ⟨b, off + i * 4 + 2, none⟩ = some (.int .i64 o) ∧ w'.cell? ⟨b, off + i * 4 + 3, none⟩ = some (.int .i64 v) := by
  obtain ⟨b', off', e, hlt, hc⟩ := h i hi
  cases e
  have h2 := hc.below hb hlt
  exact ⟨_, _, _, _, o_hide rfl, h2.1, h2.2.1, h2.2.2.1, h2.2.2.2⟩
theorem o_drewN {B : Nat} {w0 w : World} (h : Below B w0 w) (n : Nat) : Below B w0 (w.drewN n) := h.trans ⟨rfl, rfl, rfl, Nat.le_refl _, fun _ _ => rfl⟩
theorem Tryz.infob : (Tryz.prog.info? 4).map (fun i => (i.zero, i.size, i.bytes)) = some (some (.bool false), 1, 1) := by kernel_rfl
theorem bcell {W w1 : World} (hb : Below W.heap.size W w1) : (∀ b o, b < W.heap.size → w1.cell? ⟨b, o, none⟩ = W.cell? ⟨b, o, none⟩) ∧ (∀ b o, b < W.heap.size → w1.frozen? ⟨b, o, none⟩ = W.frozen? ⟨b, o, none⟩) :=
  ⟨fun b o h => hb.cell (p := ⟨b, o, none⟩) h, fun b o h => hb.frozen (p := ⟨b, o, none⟩) h⟩
/-- What a row of truths is, told by a function: what is owned is n cells. -/
def Tells (w : World) (B g : Nat) (n : Nat) (f : Nat → Bool) : Prop :=
  w.ownsRow B 4 1 (.slice (some ⟨g, 0, none⟩) n n) n ((List.range n).map fun q => Value.bool (f q))
theorem Tells.cell {w : World} {B g n : Nat} {f : Nat → Bool} (h : Tells w B g n f) {j : Nat} (hj : j < n) : w.cell? ⟨g, j, none⟩ = some (.bool (f j)) := by
  rw [World.ownsRow.cellAt h j (by omega)]; simp [hj]
theorem Tells.frozen {w : World} {B g n : Nat} {f : Nat → Bool} (h : Tells w B g n f) (j : Nat) : w.frozen? ⟨g, j, none⟩ = false := World.ownsRow.frozenAt h j
theorem ownsRow_below {B base e size n : Nat} {w w' : World} {v : Value} {xs : List Value} (h : w.ownsRow base e size v n xs) (hb : Below B w w') (hB : ∀ g, v.ownBlock = some g → g < B) : w'.ownsRow base e size v n xs := by
  refine ⟨h.1, ?_⟩
  rcases h.2 with hn | ⟨g, cap, cur, rfl, h1, hgg, rest⟩
  · exact .inl hn
  · refine .inr ⟨g, cap, cur, rfl, h1, ?_, rest⟩
    rw [hb.block g (hB g rfl)]; exact hgg
theorem Tells.below {B B' g n : Nat} {f : Nat → Bool} {w w' : World} (h : Tells w B g n f) (hb : Below B' w w') (hB : g < B') : Tells w' B g n f :=
  ownsRow_below h hb (fun q e => by simp [Value.ownBlock] at e; omega)
theorem Tells.congr {B g n : Nat} {f f' : Nat → Bool} {w : World} (h : Tells w B g n f) (e : ∀ q, q < n → f q = f' q) : Tells w B g n f' := by
  unfold Tells at *
  have : ((List.range n).map fun q => Value.bool (f q)) = (List.range n).map fun q => Value.bool (f' q) := by
    apply List.map_congr_left
    intro q hq
    rw [e q (List.mem_range.1 hq)]
  rw [← this]; exact h
theorem Tells.stored {B g n : Nat} {f : Nat → Bool} {w : World} (h : Tells w B g n f) (j : Nat) (x : Bool) : Tells (w.setCell ⟨g, j, none⟩ (.bool x)) B g n (fun q => if q = j then x else f q) := by
  have h1 := (World.ownsRow.stored h j (.bool x)).1
  unfold Tells
  have e : ((List.range n).map fun q => Value.bool (if q = j then x else f q)) = ((List.range n).map fun q => Value.bool (f q)).set j (.bool x) := by
    apply List.ext_getElem?
    intro q
    rw [List.getElem?_set]
    by_cases hq : q < n
    · by_cases e : j = q
      · subst e; simp [hq]
      · have e' : ¬ q = j := fun h => e h.symm
        simp [hq, e, e']
    · simp [hq]
      intro e; omega
  rw [e]; exact h1
end Go.Proofs.YtbajfapfpcjenaaGreatDoor
namespace Go.Proofs.YtbajfapfpcjenaaGreatDoor
open Go.RowKit Go.Proofs.Ord
attribute [local go_sem ↓] Go.wp_at_zero Go.wp_at_succ

theorem Tryz.infoe : (Tryz.prog.info? 33).map (fun i => (i.zero, i.size, i.bytes)) = some (some (.agg #[.int .i64 0, .int .i64 0, .int .i64 0, .int .i64 0]), 4, 32) := by kernel_rfl

/-- Events as cells. -/
def evCells (l : List Ev) : List Value := l.flatMap fun e => [.int .i64 e.thread, .int .i64 e.kind, .int .i64 e.obj, .int .i64 e.value]
theorem evCells_length (l : List Ev) : (evCells l).length = 4 * l.length := by
  induction l with
  | nil => rfl
  | cons p r ih => simp [evCells] at *; omega
theorem evCells_getElem (l : List Ev) : ∀ i, i < l.length → (evCells l)[4 * i]? = some (.int .i64 (ev l i).thread) ∧ (evCells l)[4 * i + 1]? = some (.int .i64 (ev l i).kind) ∧ (evCells l)[4 * i + 2]? = some (.int .i64 (ev l i).obj) ∧ (evCells l)[4 * i + 3]? = some (.int .i64 (ev l i).value) := by
  induction l with
  | nil => intro i hi; simp at hi
  | cons e r ih =>
    intro i hi
    match i with
    | 0 => exact ⟨rfl, rfl, rfl, rfl⟩
    | j + 1 =>
      have h := ih j (by simpa using hi)
      have e1 : evCells (e :: r) = .int .i64 e.thread :: .int .i64 e.kind :: .int .i64 e.obj :: .int .i64 e.value :: evCells r := rfl
      have e2 : ev (e :: r) (j + 1) = ev r j := rfl
      rw [e1, e2, show 4 * (j + 1) = 4 * j + 4 from by omega, show 4 * j + 4 + 1 = 4 * j + 1 + 4 from by omega, show 4 * j + 4 + 2 = 4 * j + 2 + 4 from by omega, show 4 * j + 4 + 3 = 4 * j + 3 + 4 from by omega]
      exact h

/-- What is owned as events' cells is events. -/
theorem evS_of_owns {w : World} {B t n : Nat} {v : Value} {l : List Ev} (h : w.ownsRow B t 4 v n (evCells l)) : ∃ a cap, v = .slice a n cap ∧ l.length = n ∧ n ≤ cap ∧ cap ≤ maxLen ∧ EvS w a l := by
  have hl : l.length = n := by have := h.1; rw [evCells_length] at this; omega
  rcases h.2 with ⟨rfl, h0⟩ | ⟨g, cap, cur, rfl, hB, hg, hc, hm, _, _⟩
  · subst h0
    exact ⟨none, 0, rfl, hl, Nat.le_refl _, by unfold maxLen; omega, fun i hi => absurd hi (by omega)⟩
  · refine ⟨_, cap, rfl, hl, hc, hm, fun i hi => ⟨g, 0, rfl, (Array.getElem?_eq_some_iff.1 hg).1, ?_⟩⟩
    obtain ⟨c0, c1, c2, c3⟩ := evCells_getElem l i hi
    refine ⟨?_, ?_, ?_, ?_⟩
    · rw [show 0 + i * 4 = 4 * i from by omega, h.cellAt _ (by omega)]; exact c0
    · rw [show 0 + i * 4 + 1 = 4 * i + 1 from by omega, h.cellAt _ (by omega)]; exact c1
    · rw [show 0 + i * 4 + 2 = 4 * i + 2 from by omega, h.cellAt _ (by omega)]; exact c2
    · rw [show 0 + i * 4 + 3 = 4 * i + 3 from by omega, h.cellAt _ (by omega)]; exact c3

theorem evCells_take (l : List Ev) (k : Nat) (h : k < l.length) (t ki o v : Int) (e : ev l k = ⟨t, ki, o, v⟩) : evCells (l.take (k + 1)) = evCells (l.take k) ++ [.int .i64 t, .int .i64 ki, .int .i64 o, .int .i64 v] := by
  rw [List.take_succ_eq_append_getElem h]
  have : l[k] = ⟨t, ki, o, v⟩ := by rw [← e]; unfold ev; simp [h]
  simp [evCells, this]

theorem four_new (w : World) (x y z u : Value) (t : Nat) : ∀ j c, [x, y, z, u][j]? = some c → (w.alloc (.cells #[x, y, z, u] t)).cell? (Addr.add ⟨w.heap.size, 0, none⟩ j) = some c := by
  intro j c hj
  match j, hj with
  | 0, hj => simp at hj; subst hj; simp [Addr.add]
  | 1, hj => simp at hj; subst hj; simp [Addr.add]
  | 2, hj => simp at hj; subst hj; simp [Addr.add]
  | 3, hj => simp at hj; subst hj; simp [Addr.add]

set_option maxRecDepth 100000 in
set_option maxHeartbeats 3200000 in
theorem given_any (a : Option Addr) (n cap : Nat) (l : List Ev) (w : World) (hn : l.length = n) (hs : EvS w a l) (hb : n * 32 ≤ 140737488351232) :
    Calls Tryz.prog 4 #[.slice a n cap] w fun e w' => ∃ v, e = .returned v ∧ w'.ownsRow w.heap.size 33 4 v n (evCells l) ∧ Below w.heap.size w w' := by
  obtain ⟨i0, hi0, hz0, hz1, hz2⟩ := info_parts Tryz.infoe
  go_enter Tryz.func4, Tryz.ntmps4
  go_wp2
  go_loopw [3, 4] (fun v i wr => ∃ k : Nat, k ≤ n ∧ i = .int .i64 k ∧ wr.ownsRow w.heap.size 33 4 v k (evCells (l.take k)) ∧ Below w.heap.size w wr) (fun _ i _ => n - (intOf i).toNat)
  case atStart => exact ⟨0, Nat.zero_le _, rfl, World.ownsRow_nil _ _ _ _, Below.refl _ _⟩
  case round =>
    obtain ⟨k, hk, rfl, hown, hbel⟩ := hrel
    have hsz := hbel.size
    by_cases h5 : k < n
    · obtain ⟨b, off, rfl, hlt, _⟩ := hs k (by omega)
      obtain ⟨t1, k1, o1, v1, HE1, c0, c1, c2, c3⟩ := hs.at hbel (i := k) (by omega)
      have HT : Hid (evCells (l.take (k + 1)) = evCells (l.take k) ++ [.int .i64 t1, .int .i64 k1, .int .i64 o1, .int .i64 v1]) := evCells_take l k (by omega) _ _ _ _ HE1.out
      have hkn : (k : Int) < (n : Int) := by omega
      have hk0 : (0 : Int) ≤ (k : Int) := Int.natCast_nonneg _
      have hblt : b < wr.heap.size := by omega
      have ag : u3.ownBlock ≠ some b := fun e => by have := (hown.lt b e).1; omega
      clear HE1
      go_wp2_with fail
      go_region_held3 (fun w' => w'.cell? ⟨b, off + k * 4, none⟩ = some (.int .i64 t1) ∧ w'.cell? ⟨b, off + k * 4 + 1, none⟩ = some (.int .i64 k1) ∧ w'.cell? ⟨b, off + k * 4 + 2, none⟩ = some (.int .i64 o1) ∧ w'.cell? ⟨b, off + k * 4 + 3, none⟩ = some (.int .i64 v1))
        (first
          | go_keep
          | (go_split_ands
             refine ⟨?_, ?_, ?_, ?_⟩
             · (rw [hgrow.cell_far _ (by simp; omega) (Ne.symm ag)]; assumption)
             · (rw [hgrow.cell_far _ (by simp; omega) (Ne.symm ag)]; assumption)
             · (rw [hgrow.cell_far _ (by simp; omega) (Ne.symm ag)]; assumption)
             · (rw [hgrow.cell_far _ (by simp; omega) (Ne.symm ag)]; assumption)))
        ((refine step_append_lies _ (by rfl) _ _ _ (by rfl) w.heap.size 33 i0 _ 4 32 Tryz.underlying23 hi0 hz0 hz1 hz2 rfl (by omega) u3 k (evCells (l.take k)) (by rfl) ((hown.alloc _).drew)
            ⟨wr.heap.size, 0, none⟩ 1 1 [.int .i64 t1, .int .i64 k1, .int .i64 o1, .int .i64 v1] (by rfl) (by rfl) (World.news_of_block (cs := #[.int .i64 t1, .int .i64 k1, .int .i64 o1, .int .i64 v1]) (t := 33) (fr := (0, 0)) (heap_alloc_new wr _)) (by simp [Value.oneCell'])
            (by omega) (by unfold maxLen; omega) (by omega) (by simp; omega) (wr.heap.size + 1) (by simp) ?_; intro gg cap2 w1 hown1 hgrow hat hlt1))
      have hown2 : w1.ownsRow w.heap.size 33 4 (.slice (some ⟨gg, 0, none⟩) (k + 1) cap2) (k + 1) (evCells (l.take (k + 1))) := by rw [HT.out]; exact hown1
      have hbel2 : Below w.heap.size w w1 := Below.grown ((hbel.alloc hbel.size _).drew) hgrow (by simp; omega) (fun q e => (hown.lt q e).1)
      clear hown1 hgrow hown hbel hat
      go_wp2
      go_roundw
      case rel => exact ⟨k + 1, by omega, by go_num, hown2, hbel2⟩
      case measure => simp [intOf]; omega
    · have hkn : k = n := by omega
      have hfin : Hid (wr.ownsRow w.heap.size 33 4 u3 n (evCells l)) := by
        have e : l.take k = l := List.take_of_length_le (by omega)
        rw [e] at hown
        rw [← hkn]; exact hown
      clear hkn hown
      go_wp2
      go_ret
      exact ⟨_, rfl, hfin.out, hbel⟩
end Go.Proofs.YtbajfapfpcjenaaGreatDoor
namespace Go.Proofs.YtbajfapfpcjenaaGreatDoor
open Go.RowKit Go.Proofs.Ord Go.ChangeShapes Go.WideShapes Go.Deep

theorem Tryz.cellsEv : Tryz.prog.cellsOf 41 = 4 := by kernel_rfl

theorem Tryz.cellsI : Tryz.prog.cellsOf 3 = 1 := by kernel_rfl

theorem list4 {α : Type} {l : List α} (h : l.length = 4) : ∃ c0 c1 c2 c3, l = [c0, c1, c2, c3] := by
  match l, h with
  | [c0, c1, c2, c3], _ => exact ⟨c0, c1, c2, c3, rfl⟩

theorem choose_ev {n : Nat} {p : Nat → Ev → Prop} (h : ∀ i, i < n → ∃ x, p i x) : ∃ f : Nat → Ev, ∀ i, i < n → p i (f i) := by
  refine ⟨fun i => if hi : i < n then Classical.choose (h i hi) else Ev.zero, fun i hi => ?_⟩
  simp only [dif_pos hi]
  exact Classical.choose_spec (h i hi)

theorem spot_of_cells {w : World} {base : Nat} {a : Addr} {x : Value} {xs : List Value} (h : w.cells? base (a.add (0 * 4)) 4 = some (x :: xs)) : a.spot = none := by
  have h0 := (World.cells?_some h).2.2 0 (by omega)
  obtain ⟨b, off, spot⟩ := a
  have h1 : w.cell? ⟨b, off, spot⟩ = some x := by simpa [Addr.add] using h0
  exact World.cell?_spot h1

theorem evAt_of_cells {w : World} {base b off i : Nat} {e : Ev} (h : w.cells? base ((⟨b, off, none⟩ : Addr).add (i * 4)) 4 = some [.int .i64 e.thread, .int .i64 e.kind, .int .i64 e.obj, .int .i64 e.value]) : b < w.heap.size ∧ EvAt w b (off + i * 4) e := by
  have hall : ∀ j, j < 4 → w.cell? (((⟨b, off, none⟩ : Addr).add (i * 4)).add j) = [Value.int .i64 e.thread, .int .i64 e.kind, .int .i64 e.obj, .int .i64 e.value][j]? := (World.cells?_some h).2.2
  have e0 : ∀ k, (⟨b, off, none⟩ : Addr).add k = ⟨b, off + k, none⟩ := fun k => by unfold Addr.add; split <;> simp_all
  have e1 : ∀ j, ((⟨b, off, none⟩ : Addr).add (i * 4)).add j = ⟨b, off + i * 4 + j, none⟩ := fun j => by rw [add_add, e0, Nat.add_assoc]
  have h0 := hall 0 (by omega)
  have h1 := hall 1 (by omega)
  have h2 := hall 2 (by omega)
  have h3 := hall 3 (by omega)
  rw [e1] at h0 h1 h2 h3
  exact ⟨World.block_lt_of_cell? w ⟨b, off + i * 4 + 0, none⟩ h0, h0, h1, h2, h3⟩

section
variable {H : Type} {enc : TypeId × Value → H} {w : World} {base : Nat} {spare : Nat → Bool} {held : Bool}

theorem wf_range {t : Int} (h : (Lit.int .i64 t).wf = true) : -9223372036854775808 ≤ t ∧ t ≤ 9223372036854775807 := by
  simp [Lit.wf, IntKind.min, IntKind.max, IntKind.bits, IntKind.signed] at h
  omega

/-- Four cells that read as an event are four numbers. -/
theorem open_event {fuel : Nat} {cs : List Value} {x : DataW H × List MemPlace} (h : DataW.trod enc Tryz.prog w base spare held fuel 41 cs = some x) :
    ∃ e : Ev, cs = [.int .i64 e.thread, .int .i64 e.kind, .int .i64 e.obj, .int .i64 e.value] ∧ x.1 = .agg [.lit (.int .i64 e.thread), .lit (.int .i64 e.kind), .lit (.int .i64 e.obj), .lit (.int .i64 e.value)] ∧ (-9223372036854775808 ≤ e.thread ∧ e.thread ≤ 9223372036854775807) ∧ -9223372036854775808 ≤ e.obj ∧ e.obj ≤ 9223372036854775807 := by
  obtain ⟨y0, y1, y2, y3, n, hx, hlen, h0, h1, h2, h3⟩ := Go.Joins.trod_struct4 Tryz.underlying41 h
  rw [Tryz.cellsEv] at hlen
  obtain ⟨c0, c1, c2, c3, rfl⟩ := list4 hlen
  obtain ⟨t, e0, f0, hwf⟩ := DataW.trod_int Tryz.underlying3 h0
  obtain ⟨k, e1, f1, _⟩ := DataW.trod_int Tryz.underlying3 h1
  obtain ⟨o, e2, f2, hwo⟩ := DataW.trod_int Tryz.underlying3 h2
  obtain ⟨v, e3, f3, _⟩ := DataW.trod_int Tryz.underlying3 h3
  simp [Tryz.cellsI] at e0 e1 e2 e3
  subst e0 e1 e2 e3
  refine ⟨⟨t, k, o, v⟩, rfl, by rw [hx, f0, f1, f2, f3], ?_⟩
  exact ⟨wf_range hwf, wf_range hwo⟩

/-- A slice that reads as events: its cells are. -/
theorem open_events_f {fuel : Nat} {a : Option Addr} {len cap : Nat} {x : DataW H × List MemPlace} (h : DataW.trod enc Tryz.prog w base spare held fuel 22 [.slice a len cap] = some x) :
    ∃ l : List Ev, l.length = len ∧ EvS w a l ∧ len ≤ cap ∧ cap ≤ maxLen ∧ (a = none → len = 0 ∧ cap = 0) ∧ ((x.1 = .nil ∧ len = 0) ∨ ∃ sp, x.1 = .slice (l.map fun e => .agg [.lit (.int .i64 e.thread), .lit (.int .i64 e.kind), .lit (.int .i64 e.obj), .lit (.int .i64 e.value)]) sp) ∧ ∀ i, i < l.length → (-9223372036854775808 ≤ (ev l i).thread ∧ (ev l i).thread ≤ 9223372036854775807) ∧ -9223372036854775808 ≤ (ev l i).obj ∧ (ev l i).obj ≤ 9223372036854775807 := by
  rcases open_slice Tryz.underlying22 h with ⟨hcs, hx⟩ | ⟨x', len', cap', m, n, D, Pl, hcs, _, hl, hm, hmm, hx, hel⟩
  · simp at hcs
    obtain ⟨rfl, rfl, rfl⟩ := hcs
    exact ⟨[], rfl, fun i hi => absurd hi (by simp), Nat.le_refl _, by unfold maxLen; omega, fun _ => ⟨rfl, rfl⟩, .inl ⟨by rw [hx], rfl⟩, fun i hi => absurd hi (by simp)⟩
  · simp at hcs
    obtain ⟨rfl, rfl, rfl⟩ := hcs
    have hlm : len ≤ m := by rw [hmm]; split <;> omega
    have hall : ∀ i, i < len → ∃ e : Ev, w.cells? base (x'.add (i * 4)) 4 = some [.int .i64 e.thread, .int .i64 e.kind, .int .i64 e.obj, .int .i64 e.value] ∧ D i = .agg [.lit (.int .i64 e.thread), .lit (.int .i64 e.kind), .lit (.int .i64 e.obj), .lit (.int .i64 e.value)] ∧ (-9223372036854775808 ≤ e.thread ∧ e.thread ≤ 9223372036854775807) ∧ -9223372036854775808 ≤ e.obj ∧ e.obj ≤ 9223372036854775807 := by
      intro i hi
      obtain ⟨cs', h1, h2⟩ := hel i (by omega)
      rw [Tryz.cellsEv] at h1
      obtain ⟨e, rfl, h3, h4⟩ := open_event h2
      exact ⟨e, h1, h3, h4⟩
    obtain ⟨f, hf⟩ := choose_ev hall
    refine ⟨(List.range len).map f, by simp, ?_, hl, hm, (fun e => by cases e), .inr ⟨(List.range (m - len)).map fun j => D (len + j), ?_⟩, ?_⟩
    · intro i hi
      simp at hi
      have hfi := (hf i hi).1
      have e' : ((List.range len).map f).getD i Ev.zero = f i := by simp [hi]
      have hspot := spot_of_cells (hf 0 (by omega)).1
      obtain ⟨b, off, spot⟩ := x'
      simp only at hspot
      subst hspot
      obtain ⟨h1, h2⟩ := evAt_of_cells hfi
      refine ⟨b, off, rfl, h1, ?_⟩
      rw [show Ord.ev ((List.range len).map f) i = f i from e']
      exact h2
    · rw [hx, List.map_map]
      have e : (List.range len).map D = (List.range len).map ((fun e : Ev => DataW.agg (H := H) [.lit (.int .i64 e.thread), .lit (.int .i64 e.kind), .lit (.int .i64 e.obj), .lit (.int .i64 e.value)]) ∘ f) := by
        apply List.map_congr_left
        intro q hq
        exact (hf q (List.mem_range.1 hq)).2.1
      rw [e]
    · intro i hi
      simp at hi
      have e' : Ord.ev ((List.range len).map f) i = f i := by simp [Ord.ev, hi]
      rw [e']
      exact (hf i hi).2.2
theorem open_events_r {fuel : Nat} {a : Option Addr} {len cap : Nat} {x : DataW H × List MemPlace} (h : DataW.trod enc Tryz.prog w base spare held fuel 22 [.slice a len cap] = some x) :
    ∃ l : List Ev, l.length = len ∧ EvS w a l ∧ len ≤ cap ∧ cap ≤ maxLen ∧ (a = none → len = 0 ∧ cap = 0) ∧ ((x.1 = .nil ∧ len = 0) ∨ ∃ sp, x.1 = .slice (l.map fun e => .agg [.lit (.int .i64 e.thread), .lit (.int .i64 e.kind), .lit (.int .i64 e.obj), .lit (.int .i64 e.value)]) sp) ∧ ∀ i, i < l.length → -9223372036854775808 ≤ (ev l i).thread ∧ (ev l i).thread ≤ 9223372036854775807 := by
  obtain ⟨l, h1, h2, h3, h4, h5, h6, h7⟩ := open_events_f h
  exact ⟨l, h1, h2, h3, h4, h5, h6, fun i hi => (h7 i hi).1⟩
theorem open_events {fuel : Nat} {a : Option Addr} {len cap : Nat} {x : DataW H × List MemPlace} (h : DataW.trod enc Tryz.prog w base spare held fuel 22 [.slice a len cap] = some x) :
    ∃ l : List Ev, l.length = len ∧ EvS w a l ∧ len ≤ cap ∧ cap ≤ maxLen ∧ (a = none → len = 0 ∧ cap = 0) ∧ ((x.1 = .nil ∧ len = 0) ∨ ∃ sp, x.1 = .slice (l.map fun e => .agg [.lit (.int .i64 e.thread), .lit (.int .i64 e.kind), .lit (.int .i64 e.obj), .lit (.int .i64 e.value)]) sp) := by
  obtain ⟨l, h1, h2, h3, h4, h5, h6, _⟩ := open_events_r h
  exact ⟨l, h1, h2, h3, h4, h5, h6⟩
end
end Go.Proofs.YtbajfapfpcjenaaGreatDoor
namespace Go.Proofs.YtbajfapfpcjenaaGreatDoor
open Go.ChangeShapes Go.WideShapes Go.ChangeAt Go.RowKit Go.Proofs.Ord

theorem Tryz.own : ownKnob Tryz.prog.godebug = none := by kernel_rfl
theorem Tryz.laidOut : laidOutB Tryz.prog = true := by kernel_rfl
theorem Tryz.bytesEv : Tryz.prog.bytesOf 41 = 32 := by kernel_rfl

/-- The bound gives a slice's length. -/
theorem bulk_one {H : Type} (d : DataW H) : 1 ≤ Rows.uptoBulk d := by
  cases d with
  | lit l => cases l <;> simp [Rows.uptoBulk]
  | nil => simp [Rows.uptoBulk]
  | ptr d => simp [Rows.uptoBulk]
  | slice elems spare => simp [Rows.uptoBulk]
  | agg parts => simp [Rows.uptoBulk]
  | iface t d => simp [Rows.uptoBulk]
  | map entries => simp [Rows.uptoBulk]
  | held h => simp [Rows.uptoBulk]
theorem bulk_length {H : Type} (l : List (DataW H)) : l.length ≤ Rows.uptoBulkAll l := by
  induction l with
  | nil => simp [Rows.uptoBulkAll]
  | cons x r ih => have := bulk_one x; simp only [Rows.uptoBulkAll, List.length_cons]; omega
theorem bulk_slice {H : Type} (elems spare : List (DataW H)) : elems.length ≤ Rows.uptoBulk (.slice elems spare) := by
  have h1 := bulk_length elems
  simp only [Rows.uptoBulk]
  omega
theorem bulk_head {H : Type} {d : DataW H} {l : List (DataW H)} (hk : Rows.uptoSmall H (d :: l) = true) : Rows.uptoBulk d ≤ 1048576 := by
  have h : Rows.uptoBulkAll (d :: l) ≤ 1048576 := of_decide_eq_true hk
  simp only [Rows.uptoBulkAll] at h
  omega

end Go.Proofs.YtbajfapfpcjenaaGreatDoor
/-
  The plain mathematics of vectors: numbers behind the end are 0.
-/
namespace Go.Proofs.Vec

/-- The number of place t (0 where there is none). -/
def at_ (zs : List Int) (t : Int) : Int := if t < 0 then 0 else zs.getD t.toNat 0

theorem at_neg (zs : List Int) (t : Int) (h : t < 0) : at_ zs t = 0 := by simp [at_, h]
theorem at_past (zs : List Int) (t : Int) (h : (zs.length : Int) ≤ t) : at_ zs t = 0 := by
  unfold at_
  by_cases h0 : t < 0
  · simp [h0]
  · simp only [h0, if_false]
    rw [List.getD_eq_getElem?_getD, List.getElem?_eq_none (by omega)]; rfl
theorem at_nat (zs : List Int) (k : Nat) : at_ zs (k : Int) = zs.getD k 0 := by
  unfold at_
  have : ¬ (k : Int) < 0 := by omega
  simp [this]
theorem getD_past (zs : List Int) (k : Nat) (h : zs.length ≤ k) : zs.getD k 0 = 0 := by
  rw [List.getD_eq_getElem?_getD, List.getElem?_eq_none (by omega)]; rfl

/-- Nowhere above. -/
def leq (xs ys : List Int) : Bool := (List.range (max xs.length ys.length)).all fun t => decide (xs.getD t 0 ≤ ys.getD t 0)

theorem leq_iff (xs ys : List Int) : leq xs ys = true ↔ ∀ t, xs.getD t 0 ≤ ys.getD t 0 := by
  unfold leq
  rw [List.all_eq_true]
  constructor
  · intro h t
    by_cases ht : t < max xs.length ys.length
    · exact of_decide_eq_true (h t (List.mem_range.2 ht))
    · rw [getD_past xs t (by omega), getD_past ys t (by omega)]; exact Int.le_refl _
  · intro h t _
    exact decide_eq_true (h t)
theorem leq_yes {xs ys : List Int} (h : ∀ t, t < max xs.length ys.length → xs.getD t 0 ≤ ys.getD t 0) : leq xs ys = true := by
  rw [leq_iff]
  intro t
  by_cases ht : t < max xs.length ys.length
  · exact h t ht
  · rw [getD_past xs t (by omega), getD_past ys t (by omega)]; exact Int.le_refl _
theorem leq_no {xs ys : List Int} (t : Nat) (h : ys.getD t 0 < xs.getD t 0) : leq xs ys = false := by
  cases e : leq xs ys with
  | false => rfl
  | true => have := (leq_iff xs ys).1 e t; omega

/-- The same everywhere. -/
def same (xs ys : List Int) : Bool := leq xs ys && leq ys xs
theorem same_iff (xs ys : List Int) : same xs ys = true ↔ ∀ t, xs.getD t 0 = ys.getD t 0 := by
  unfold same
  rw [Bool.and_eq_true, leq_iff, leq_iff]
  exact ⟨fun h t => Int.le_antisymm (h.1 t) (h.2 t), fun h => ⟨fun t => by rw [h t]; exact Int.le_refl _, fun t => by rw [h t]; exact Int.le_refl _⟩⟩
theorem same_no {xs ys : List Int} (t : Nat) (h : xs.getD t 0 ≠ ys.getD t 0) : same xs ys = false := by
  cases e : same xs ys with
  | false => rfl
  | true => exact absurd ((same_iff xs ys).1 e t) h

/-- Without zeros at its end. -/
def trim : List Int → List Int
  | [] => []
  | x :: r => if x = 0 ∧ trim r = [] then [] else x :: trim r

theorem trim_eq (l : List Int) : ∀ n, n ≤ l.length → (∀ j, n ≤ j → l.getD j 0 = 0) → (n = 0 ∨ l.getD (n - 1) 0 ≠ 0) → trim l = l.take n := by
  induction l with
  | nil => intro n _ _ _; simp [trim]
  | cons x r ih =>
    intro n hn hz hl
    match n with
    | 0 =>
      have hr : trim r = r.take 0 := ih 0 (Nat.zero_le _) (fun j _ => by have := hz (j + 1) (by omega); simpa using this) (.inl rfl)
      have hx : x = 0 := by simpa using hz 0 (Nat.le_refl _)
      simp [trim, hx, hr]
    | m + 1 =>
      have hr : trim r = r.take m := ih m (by simpa using hn) (fun j hj => by have := hz (j + 1) (by omega); simpa using this) (by
        match m, hl with
        | 0, _ => exact .inl rfl
        | q + 1, hl => right; simpa using hl)
      rw [trim, hr]
      have : ¬ (x = 0 ∧ r.take m = []) := by
        rintro ⟨hx, hm⟩
        match m, hl, hn with
        | 0, hl, _ => simp [hx] at hl
        | q + 1, _, hn => 
          have : (r.take (q + 1)).length = 0 := by rw [hm]; rfl
          simp at hn; rw [List.length_take] at this; omega
      rw [if_neg this]; rfl

theorem trim_len (l : List Int) : (trim l).length ≤ l.length := by
  induction l with
  | nil => simp [trim]
  | cons x r ih =>
    rw [trim]
    split
    · simp
    · simpa using ih
theorem trim_getD (l : List Int) : ∀ t, (trim l).getD t 0 = l.getD t 0 := by
  induction l with
  | nil => intro t; rfl
  | cons x r ih =>
    intro t
    rw [trim]
    split
    · rename_i h
      match t with
      | 0 => simpa using h.1.symm
      | q + 1 =>
        have := ih q
        rw [h.2] at this
        simpa using this
    · match t with
      | 0 => rfl
      | q + 1 => simpa using ih q

/-- Of each place the higher number: the first n places. -/
def maxUpto (xs ys : List Int) (n : Nat) : List Int := (List.range n).map fun t => max (xs.getD t 0) (ys.getD t 0)
def maxV (xs ys : List Int) : List Int := trim (maxUpto xs ys (max xs.length ys.length))
theorem maxUpto_len (xs ys : List Int) (n : Nat) : (maxUpto xs ys n).length = n := by simp [maxUpto]
theorem maxUpto_succ (xs ys : List Int) (n : Nat) : maxUpto xs ys (n + 1) = maxUpto xs ys n ++ [max (xs.getD n 0) (ys.getD n 0)] := by
  simp [maxUpto, List.range_succ]
theorem maxUpto_getD (xs ys : List Int) (n t : Nat) (h : t < n) : (maxUpto xs ys n).getD t 0 = max (xs.getD t 0) (ys.getD t 0) := by
  simp [maxUpto, h]
theorem maxV_getD (xs ys : List Int) (t : Nat) : (maxV xs ys).getD t 0 = max (xs.getD t 0) (ys.getD t 0) := by
  unfold maxV
  rw [trim_getD]
  by_cases h : t < max xs.length ys.length
  · exact maxUpto_getD _ _ _ _ h
  · rw [getD_past _ t (by rw [maxUpto_len]; omega), getD_past xs t (by omega), getD_past ys t (by omega)]; rfl
theorem maxV_len (xs ys : List Int) : (maxV xs ys).length ≤ max xs.length ys.length := by
  unfold maxV
  have := trim_len (maxUpto xs ys (max xs.length ys.length))
  rw [maxUpto_len] at this
  exact this

/-- One higher at t, the numbers of n places; f: how a sum is told. -/
def tickUpto (f : Int → Int) (xs : List Int) (t : Int) (n : Nat) : List Int := (List.range n).map fun (i : Nat) => if (i : Int) = t ∧ t ≤ 1000 then f (xs.getD i 0 + 1) else xs.getD i 0
def tickLen (xs : List Int) (t : Int) : Nat := if t ≤ 1000 then max xs.length (t + 1).toNat else xs.length
def tickV (f : Int → Int) (xs : List Int) (t : Int) : List Int := trim (tickUpto f xs t (tickLen xs t))
theorem tickUpto_len (f : Int → Int) (xs : List Int) (t : Int) (n : Nat) : (tickUpto f xs t n).length = n := by simp [tickUpto]
theorem tickUpto_succ (f : Int → Int) (xs : List Int) (t : Int) (n : Nat) : tickUpto f xs t (n + 1) = tickUpto f xs t n ++ [if (n : Int) = t ∧ t ≤ 1000 then f (xs.getD n 0 + 1) else xs.getD n 0] := by
  simp [tickUpto, List.range_succ]
theorem tickUpto_getD (f : Int → Int) (xs : List Int) (t : Int) (n i : Nat) (h : i < n) : (tickUpto f xs t n).getD i 0 = if (i : Int) = t ∧ t ≤ 1000 then f (xs.getD i 0 + 1) else xs.getD i 0 := by
  simp [tickUpto, h]
theorem tickV_getD (f : Int → Int) (xs : List Int) (t : Int) (i : Nat) : (tickV f xs t).getD i 0 = if (i : Int) = t ∧ t ≤ 1000 then f (xs.getD i 0 + 1) else xs.getD i 0 := by
  unfold tickV
  rw [trim_getD]
  by_cases h : i < tickLen xs t
  · exact tickUpto_getD _ _ _ _ _ h
  · rw [getD_past _ i (by rw [tickUpto_len]; omega)]
    unfold tickLen at h
    by_cases ht : t ≤ 1000
    · simp only [ht, if_true] at h
      have : ¬ ((i : Int) = t ∧ t ≤ 1000) := by omega
      rw [if_neg this, getD_past xs i (by omega)]
    · simp only [ht, if_false] at h
      rw [if_neg (by omega), getD_past xs i (by omega)]
theorem tickV_len (f : Int → Int) (xs : List Int) (t : Int) : (tickV f xs t).length ≤ max xs.length 1001 := by
  unfold tickV
  have h := trim_len (tickUpto f xs t (tickLen xs t))
  rw [tickUpto_len] at h
  have k : tickLen xs t ≤ max xs.length 1001 := by unfold tickLen; split <;> omega
  omega

theorem leq_refl (xs : List Int) : leq xs xs = true := (leq_iff _ _).2 fun _ => Int.le_refl _
theorem leq_trans {xs ys zs : List Int} (h1 : leq xs ys = true) (h2 : leq ys zs = true) : leq xs zs = true :=
  (leq_iff _ _).2 fun t => Int.le_trans ((leq_iff _ _).1 h1 t) ((leq_iff _ _).1 h2 t)
theorem leq_max_left (xs ys : List Int) : leq xs (maxV xs ys) = true := (leq_iff _ _).2 fun t => by rw [maxV_getD]; omega
theorem leq_max_right (xs ys : List Int) : leq ys (maxV xs ys) = true := (leq_iff _ _).2 fun t => by rw [maxV_getD]; omega
theorem max_leq {xs ys zs : List Int} (h1 : leq xs zs = true) (h2 : leq ys zs = true) : leq (maxV xs ys) zs = true :=
  (leq_iff _ _).2 fun t => by have := (leq_iff _ _).1 h1 t; have := (leq_iff _ _).1 h2 t; rw [maxV_getD]; omega
theorem same_max_comm (xs ys : List Int) : same (maxV xs ys) (maxV ys xs) = true := (same_iff _ _).2 fun t => by rw [maxV_getD, maxV_getD]; omega
theorem same_max_assoc (xs ys zs : List Int) : same (maxV (maxV xs ys) zs) (maxV xs (maxV ys zs)) = true := (same_iff _ _).2 fun t => by simp only [maxV_getD]; omega
theorem same_max_self (xs : List Int) : same (maxV xs xs) xs = true := (same_iff _ _).2 fun t => by rw [maxV_getD]; omega
theorem same_max_leq (xs ys : List Int) : same (maxV xs ys) ys = leq xs ys := by
  rw [Bool.eq_iff_iff, same_iff, leq_iff]
  constructor
  · intro h t; have := h t; rw [maxV_getD] at this; omega
  · intro h t; have := h t; rw [maxV_getD]; omega
theorem at_tick (f : Int → Int) (xs : List Int) (t : Int) (h0 : 0 ≤ t) (h1 : t ≤ 1000) : at_ (tickV f xs t) t = f (at_ xs t + 1) := by
  obtain ⟨k, rfl⟩ := Int.eq_ofNat_of_zero_le h0
  rw [at_nat, at_nat, tickV_getD, if_pos ⟨rfl, h1⟩]
theorem leq_tick (f : Int → Int) (xs : List Int) (t : Int) (h0 : 0 ≤ t) (hf : f (at_ xs t + 1) = at_ xs t + 1) : leq xs (tickV f xs t) = true := by
  obtain ⟨k, rfl⟩ := Int.eq_ofNat_of_zero_le h0
  rw [at_nat] at hf
  refine (leq_iff _ _).2 fun i => ?_
  rw [tickV_getD]
  split
  · rename_i h
    have : i = k := by omega
    subst this
    rw [hf]; omega
  · exact Int.le_refl _
theorem tick_not_leq (f : Int → Int) (xs : List Int) (t : Int) (h0 : 0 ≤ t) (h1 : t ≤ 1000) (hf : f (at_ xs t + 1) = at_ xs t + 1) : leq (tickV f xs t) xs = false := by
  obtain ⟨k, rfl⟩ := Int.eq_ofNat_of_zero_le h0
  rw [at_nat] at hf
  refine leq_no k ?_
  rw [tickV_getD, if_pos ⟨rfl, h1⟩, hf]; omega
theorem at_mem (xs : List Int) (t : Int) : at_ xs t = 0 ∨ at_ xs t ∈ xs := by
  unfold at_
  by_cases h : t < 0
  · simp [h]
  · by_cases h2 : t.toNat < xs.length
    · right; simp [h, h2]
    · left; simp only [h, if_false]; exact getD_past _ _ (by omega)

end Go.Proofs.Vec
