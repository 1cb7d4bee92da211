import Derived.Test.YtlpdomgedaockaaGreatDoorChecked
import Derived.WalkKit
import Derived.ProofKit
import Derived.Below
import Derived.Laws.AppendOwn
set_option linter.unusedVariables false
set_option linter.unusedSimpArgs false
namespace Go.Proofs.Ord
structure Ev where
  thread : Int
  kind : Int
  obj : Int
  value : Int
def Ev.zero : Ev := ⟨0, 0, 0, 0⟩
def ev (l : List Ev) (k : Nat) : Ev := l.getD k Ev.zero
def leads (a b : Ev) : Bool :=
  a.thread == b.thread || (a.kind == 6 && b.kind == 5 && a.obj == b.obj) || (a.kind == 4 && b.kind == 3 && a.obj == b.obj) || (a.kind == 7 && a.obj == b.thread) || (b.kind == 8 && b.obj == a.thread)
def row (l : Nat → Ev) (i : Nat) : Nat → List Bool
  | 0 => []
  | n + 1 => row l i n ++ [decide (i < n) && (leads (l i) (l n) || (List.range n).any fun k => decide (i < k) && ((row l i n).getD k false && leads (l k) (l n)))]
theorem row_length (l : Nat → Ev) (i n : Nat) : (row l i n).length = n := by
  induction n with
  | zero => rfl
  | succ n ih => simp [row, ih]
def bef (l : Nat → Ev) (i j : Nat) : Bool := (row l i (j + 1)).getD j false
theorem row_getD (l : Nat → Ev) (i n j : Nat) (h : j < n) : (row l i n).getD j false = bef l i j := by
  induction n with
  | zero => omega
  | succ n ih =>
    by_cases hj : j = n
    · subst hj; rfl
    · have : j < n := by omega
      rw [← ih this]
      rw [row, List.getD_eq_getElem?_getD, List.getD_eq_getElem?_getD, List.getElem?_append_left (by rw [row_length]; exact this)]
theorem bef_iff (l : Nat → Ev) (i j : Nat) : bef l i j = true ↔ i < j ∧ (leads (l i) (l j) = true ∨ ∃ k, i < k ∧ k < j ∧ bef l i k = true ∧ leads (l k) (l j) = true) := by
  have e : bef l i j = (decide (i < j) && (leads (l i) (l j) || (List.range j).any fun k => decide (i < k) && ((row l i j).getD k false && leads (l k) (l j)))) := by
    unfold bef
    rw [row, List.getD_eq_getElem?_getD, List.getElem?_append_right (by rw [row_length]; exact Nat.le_refl _), row_length]
    simp
  rw [e, Bool.and_eq_true, Bool.or_eq_true, decide_eq_true_eq, List.any_eq_true]
  constructor
  · rintro ⟨h1, h2 | ⟨k, hk, hh⟩⟩
    · exact ⟨h1, .inl h2⟩
    · rw [List.mem_range] at hk
      rw [Bool.and_eq_true, Bool.and_eq_true, decide_eq_true_eq, row_getD l i j k hk] at hh
      exact ⟨h1, .inr ⟨k, hh.1, hk, hh.2.1, hh.2.2⟩⟩
  · rintro ⟨h1, h2 | ⟨k, h3, h4, h5, h6⟩⟩
    · exact ⟨h1, .inl h2⟩
    · refine ⟨h1, .inr ⟨k, List.mem_range.2 h4, ?_⟩⟩
      rw [Bool.and_eq_true, Bool.and_eq_true, decide_eq_true_eq, row_getD l i j k h4]
      exact ⟨h3, h5, h6⟩
theorem bef_lt {l : Nat → Ev} {i j : Nat} (h : bef l i j = true) : i < j := ((bef_iff l i j).1 h).1
theorem bef_ge {l : Nat → Ev} {i j : Nat} (h : j ≤ i) : bef l i j = false := by
  cases e : bef l i j with
  | false => rfl
  | true => have := bef_lt e; omega
theorem bef_leads {l : Nat → Ev} {i j : Nat} (h : i < j) (hl : leads (l i) (l j) = true) : bef l i j = true := (bef_iff l i j).2 ⟨h, .inl hl⟩
theorem bef_thread {l : Nat → Ev} {i j : Nat} (h : i < j) (ht : (l i).thread = (l j).thread) : bef l i j = true :=
  bef_leads h (by simp [leads, ht])
theorem bef_trans {l : Nat → Ev} {i j : Nat} (h : bef l i j = true) : ∀ k, bef l j k = true → bef l i k = true := by
  intro k
  induction k using Nat.strongRecOn with
  | ind k ih =>
    intro hk
    have hij := bef_lt h
    obtain ⟨hjk, h2 | ⟨m, h3, h4, h5, h6⟩⟩ := (bef_iff l j k).1 hk
    · exact (bef_iff l i k).2 ⟨by omega, .inr ⟨j, hij, hjk, h, h2⟩⟩
    · exact (bef_iff l i k).2 ⟨by omega, .inr ⟨m, by omega, h4, ih m h4 h5, h6⟩⟩
theorem bef_congr {l m : Nat → Ev} {i : Nat} : ∀ j, (∀ k, k ≤ j → l k = m k) → bef l i j = bef m i j := by
  intro j
  induction j using Nat.strongRecOn with
  | ind j ih =>
    intro h
    rw [Bool.eq_iff_iff, bef_iff, bef_iff]
    constructor
    · rintro ⟨h1, h2 | ⟨k, h3, h4, h5, h6⟩⟩
      · exact ⟨h1, .inl (by rw [← h i (by omega), ← h j (by omega)]; exact h2)⟩
      · exact ⟨h1, .inr ⟨k, h3, h4, by rw [← ih k h4 (fun q hq => h q (by omega))]; exact h5, by rw [← h k (by omega), ← h j (by omega)]; exact h6⟩⟩
    · rintro ⟨h1, h2 | ⟨k, h3, h4, h5, h6⟩⟩
      · exact ⟨h1, .inl (by rw [h i (by omega), h j (by omega)]; exact h2)⟩
      · exact ⟨h1, .inr ⟨k, h3, h4, by rw [ih k h4 (fun q hq => h q (by omega))]; exact h5, by rw [h k (by omega), h j (by omega)]; exact h6⟩⟩
def part (l : Nat → Ev) (i j k : Nat) : Bool := leads (l i) (l j) || (List.range k).any fun q => decide (i < q) && (bef l i q && leads (l q) (l j))
theorem part_start (l : Nat → Ev) (i j : Nat) : part l i j (i + 1) = leads (l i) (l j) := by
  unfold part
  have : ((List.range (i + 1)).any fun q => decide (i < q) && (bef l i q && leads (l q) (l j))) = false := by
    rw [List.any_eq_false]
    intro q hq
    rw [List.mem_range] at hq
    simp; omega
  rw [this, Bool.or_false]
theorem part_succ (l : Nat → Ev) (i j k : Nat) (h : i < k) : part l i j (k + 1) = (part l i j k || (bef l i k && leads (l k) (l j))) := by
  unfold part
  rw [List.range_succ, List.any_append]
  simp [h, Bool.or_assoc]
theorem part_all (l : Nat → Ev) (i j : Nat) (h : i < j) : part l i j j = bef l i j := by
  have e : ∀ q, q ∈ List.range j → (decide (i < q) && (bef l i q && leads (l q) (l j))) = (decide (i < q) && ((row l i j).getD q false && leads (l q) (l j))) := by
    intro q hq
    rw [row_getD l i j q (List.mem_range.1 hq)]
  unfold bef
  rw [row, List.getD_eq_getElem?_getD, List.getElem?_append_right (by rw [row_length]; exact Nat.le_refl _), row_length]
  unfold part
  simp only [Nat.sub_self, List.getElem?_cons_zero, Option.getD_some, h, decide_true, Bool.true_and]
  rw [Bool.eq_iff_iff, Bool.or_eq_true, Bool.or_eq_true, List.any_eq_true, List.any_eq_true]
  constructor
  · rintro (h | ⟨q, h1, h2⟩)
    · exact .inl h
    · exact .inr ⟨q, h1, by rw [← e q h1]; exact h2⟩
  · rintro (h | ⟨q, h1, h2⟩)
    · exact .inl h
    · exact .inr ⟨q, h1, by rw [e q h1]; exact h2⟩
def access (e : Ev) : Bool := e.kind == 1 || e.kind == 2
def conflict (a b : Ev) : Bool := access a && access b && a.obj == b.obj && a.thread != b.thread && (a.kind == 2 || b.kind == 2)
def race (l : Nat → Ev) (i j : Nat) : Bool := conflict (l i) (l j) && !bef l i j
def racesOf (l : Nat → Ev) (j i : Nat) : List (Nat × Nat) := ((List.range i).filter fun q => race l q j).map fun q => (q, j)
def racesTo (l : Nat → Ev) : Nat → List (Nat × Nat)
  | 0 => []
  | n + 1 => racesTo l n ++ racesOf l n n
theorem racesOf_succ (l : Nat → Ev) (j i : Nat) : racesOf l j (i + 1) = racesOf l j i ++ if race l i j then [(i, j)] else [] := by
  unfold racesOf
  rw [List.range_succ, List.filter_append, List.map_append]
  cases h : race l i j <;> simp [h]
theorem racesOf_length (l : Nat → Ev) (j i : Nat) : (racesOf l j i).length ≤ i := by
  unfold racesOf
  rw [List.length_map]
  have := List.length_filter_le (fun q => race l q j) (List.range i)
  simpa using this
theorem racesTo_length (l : Nat → Ev) (n : Nat) : (racesTo l n).length ≤ n * n := by
  induction n with
  | zero => simp [racesTo]
  | succ n ih =>
    rw [racesTo, List.length_append]
    have := racesOf_length l n n
    have e : (n + 1) * (n + 1) = n * n + 2 * n + 1 := by rw [Nat.add_mul, Nat.mul_add]; omega
    omega
theorem mem_racesTo (l : Nat → Ev) (n i j : Nat) : (i, j) ∈ racesTo l n ↔ j < n ∧ i < j ∧ race l i j = true := by
  induction n with
  | zero => simp [racesTo]
  | succ n ih =>
    rw [racesTo, List.mem_append, ih]
    unfold racesOf
    simp only [List.mem_map, List.mem_filter, List.mem_range, Prod.mk.injEq]
    constructor
    · rintro (⟨h1, h2, h3⟩ | ⟨q, ⟨h1, h2⟩, rfl, rfl⟩)
      · exact ⟨by omega, h2, h3⟩
      · exact ⟨by omega, h1, h2⟩
    · rintro ⟨h1, h2, h3⟩
      by_cases e : j = n
      · subst e; exact .inr ⟨i, ⟨h2, h3⟩, rfl, rfl⟩
      · exact .inl ⟨by omega, h2, h3⟩
theorem racesTo_congr {l m : Nat → Ev} (n : Nat) (h : ∀ k, k < n → l k = m k) : racesTo l n = racesTo m n := by
  induction n with
  | zero => rfl
  | succ n ih =>
    rw [racesTo, racesTo, ih (fun k hk => h k (by omega))]
    congr 1
    unfold racesOf
    congr 1
    apply List.filter_congr
    intro q hq
    rw [List.mem_range] at hq
    unfold race
    rw [h q (by omega), h n (by omega), bef_congr (l := l) (m := m) n (fun k hk => h k (by omega))]
theorem racesTo_filter (l : Nat → Ev) (n : Nat) : ∀ m, n ≤ m → (racesTo l m).filter (fun p => decide (p.2 < n)) = racesTo l n := by
  intro m
  induction m with
  | zero => intro h; obtain rfl : n = 0 := by omega
            rfl
  | succ m ih =>
    intro h
    by_cases e : n = m + 1
    · subst e
      apply List.filter_eq_self.2
      intro p hp
      have := (mem_racesTo l (m + 1) p.1 p.2).1 hp
      simp; omega
    · rw [racesTo, List.filter_append, ih (by omega)]
      have : (racesOf l m m).filter (fun p => decide (p.2 < n)) = [] := by
        apply List.filter_eq_nil_iff.2
        intro p hp
        unfold racesOf at hp
        obtain ⟨q, _, rfl⟩ := List.mem_map.1 hp
        simp; omega
      rw [this, List.append_nil]
def racy (l : Nat → Ev) (j : Nat) : Bool := (List.range j).any fun i => race l i j
theorem racy_iff (l : Nat → Ev) (j : Nat) : racy l j = true ↔ ∃ i, i < j ∧ race l i j = true := by
  unfold racy
  rw [List.any_eq_true]
  exact ⟨fun ⟨i, h1, h2⟩ => ⟨i, List.mem_range.1 h1, h2⟩, fun ⟨i, h1, h2⟩ => ⟨i, List.mem_range.2 h1, h2⟩⟩
end Go.Proofs.Ord
namespace Go.Proofs.YtlpdomgedaockaaGreatDoor
open Go.RowKit Go.Proofs.Ord
theorem o_hide {p : Prop} (h : p) : Hid p := h
theorem o_ret_bool {a b : Bool} (h : a = b) : Ending.returned (.bool a) = .returned (.bool b) := by rw [h]
def evV (e : Ev) : Value := .agg #[.int .i64 e.thread, .int .i64 e.kind, .int .i64 e.obj, .int .i64 e.value]
theorem leads_mk (t k o v t' k' o' v' : Int) : leads ⟨t, k, o, v⟩ ⟨t', k', o', v'⟩ = (t == t' || (k == 6 && k' == 5 && o == o') || (k == 4 && k' == 3 && o == o') || (k == 7 && o == t') || (k' == 8 && o' == t)) := rfl
theorem access_mk (t k o v : Int) : access ⟨t, k, o, v⟩ = (k == 1 || k == 2) := rfl
theorem conflict_mk (t k o v t' k' o' v' : Int) : conflict ⟨t, k, o, v⟩ ⟨t', k', o', v'⟩ = (access ⟨t, k, o, v⟩ && access ⟨t', k', o', v'⟩ && o == o' && t != t' && (k == 2 || k' == 2)) := rfl
end Go.Proofs.YtlpdomgedaockaaGreatDoor
namespace Go.Proofs.YtlpdomgedaockaaGreatDoor
open Go.RowKit
theorem zeroCells_one (z : Value) (n : Nat) : (Builtin.zeroCells #[z] n).toList = List.replicate n z := by
  apply List.ext_getElem
  · simp [Builtin.zeroCells]
  · intro i h1 h2
    simp [Builtin.zeroCells, Nat.mod_one]
theorem heap_new_z (w : World) (o : Obj) : (w.alloc o).heap[w.heap.size]? = some o := by
  show (w.heap.push o)[w.heap.size]? = some o
  exact Array.getElem?_push_size
section
variable {P : Program} (w : World)
theorem run_append_zeros_own (base : Nat) (t u ty e : TypeId) (i : TypeInfo) (z : Value) (bytes : Nat) (ht : P.underlying t = some (.slice e)) (hu : P.underlying u = some (.int .i64)) (hi : P.info? e = some i) (hz : i.zero = some z)
    (hsize : i.size = 1) (hby : i.bytes = bytes) (hzs : z.cells = #[z]) (hz1 : z.oneCell' = true)
    (v : Value) (n : Nat) (xs : List Value) (hown : w.ownsRow base e 1 v n xs) (m : Nat) (hm : 0 < m) (h63 : n + m ≤ maxLen) (hbytes : (n + m) * bytes ≤ 140737488355328) (hbase : base ≤ w.heap.size) :
    ∃ v' w', (Builtin.append_ #[t, u] ty #[v, .int .i64 m]).run P w = .ok v' w' ∧ w'.ownsRow base e 1 v' (n + m) (xs ++ List.replicate m z) ∧ w.grownBy w' v.ownBlock ∧ (v'.ownBlock = v.ownBlock ∨ (v'.ownBlock = some w.heap.size ∧ w.grownBy w' none)) := by
  subst hby
  have hsmall : n + m ≤ 9223372036854775807 := by simp only [maxLen] at h63; omega
  have hlen : (xs ++ List.replicate m z).length = (n + m) * 1 := by rw [List.length_append, hown.1, List.length_replicate]; omega
  have hwrap : IntKind.i64.wrap (m : Int) = (m : Int) := by rw [IntKind.wrap_i64]; omega
  have hmb : m * i.bytes ≤ 140737488355328 := Nat.le_trans (Nat.mul_le_mul_right _ (by omega)) hbytes
  have hzc : ∀ k, Builtin.zeroCells #[z] k = (List.replicate k z).toArray := fun k => by rw [← zeroCells_one]
  have grown : ∀ (old : Nat), old < n + m → ∀ (row : Option Nat),
      (w.drew.alloc (.cells (xs.toArray ++ (List.replicate m z).toArray ++ (List.replicate (grownCap w (n + m) old e - (n + m)) z).toArray) e)).ownsRow base e 1
        (.slice (some ⟨w.heap.size, 0, none⟩) (n + m) (grownCap w (n + m) old e)) (n + m) (xs ++ List.replicate m z) ∧
      w.grownBy (w.drew.alloc (.cells (xs.toArray ++ (List.replicate m z).toArray ++ (List.replicate (grownCap w (n + m) old e - (n + m)) z).toArray) e)) row := by
    intro old ho row
    have hge := grownCap_ge w (n + m) old e
    have hcm : grownCap w (n + m) old e ≤ maxLen := grownCap_le_maxLen w (n + m) old e h63
    refine ⟨⟨hlen, .inr ⟨w.heap.size, _, _, rfl, hbase, heap_new_z w.drew _, hge, hcm, ?_, ?_⟩⟩, ⟨rfl, rfl, rfl, by simp, fun k hk _ => Below.heap_alloc w.drew _ k hk⟩⟩
    · have := hown.1
      simp; omega
    · rw [← hlen, Array.toList_append, Array.toList_append]
      exact List.take_left
  have h48'' : ¬ (281474976710656 < (m : Int) * (i.bytes : Int)) := by
    have : ((m * i.bytes : Nat) : Int) = (m : Int) * (i.bytes : Int) := by simp
    omega
  have hneg : ¬ ((m : Int) < 0) := by omega
  have hm0 : m ≠ 0 := by omega
  rcases hown.2 with ⟨rfl, rfl⟩ | ⟨g, cap, cur, rfl, hbg, hg, hnc, hcm, hcs, htake⟩
  · have hx : xs = [] := List.eq_nil_of_length_eq_zero (by simpa using hown.1)
    subst hx
    have hgr := grown 0 (by omega) (Value.ownBlock (.slice none 0 0))
    refine ⟨_, _, ?_, hgr.1, hgr.2, .inr ⟨rfl, (grown 0 (by omega) none).2⟩⟩
    have h48' : ¬ (281474976710656 < Builtin.nextslicecap m 0 * i.bytes) := by rw [nextslicecap_zero hm]; omega
    have h63' : ¬ (9223372036854775807 < (m : Int)) := by omega
    simp [Builtin.append_, run_underlying ht, run_underlying hu, sizeOf, typeInfo, zeroValue, hi, hz, hsize, hzs, hzc, asInt, asIntOf, hwrap, h48', h48'', h63', hneg, hm0, Question.forced, run_firstCells_none, newRow, grownCap]
  · by_cases hroom : n + m ≤ cap
    · have hfit : n + (List.replicate m z).length ≤ cur.size := by rw [hcs, List.length_replicate]; omega
      have hst := run_storeCells_at P g n e (List.replicate m z) 0 cur w hg (by simpa using hfit) (fun u hu => by rw [List.eq_of_mem_replicate hu]; exact hz1)
      simp only [Nat.add_zero] at hst
      refine ⟨.slice (some ⟨g, 0, none⟩) (n + m) cap, _, ?_, ⟨hlen, .inr ⟨g, cap, _, rfl, hbg, setRow_heap w g cur (cur.toList.take n ++ List.replicate m z ++ cur.toList.drop (n + (List.replicate m z).length)).toArray e _ hg, hroom, hcm, ?_, ?_⟩⟩, ⟨rfl, rfl, rfl, by simp, fun k _ hk => setRow_other w g k _ (fun e => hk (by simp [Value.ownBlock, e]))⟩, .inl rfl⟩
      · simp [Builtin.append_, run_underlying ht, run_underlying hu, sizeOf, typeInfo, zeroValue, hi, hz, hsize, hzs, hzc, asInt, asIntOf, hwrap, h48'', hneg, hm0, hroom, Addr.add_lit]
        rw [hst]; simp
      · simp; omega
      · have ht2 : cur.toList.take n = xs := by simpa using htake
        rw [ht2, ← hlen]
        exact List.take_left
    · have holds : ∀ j u, xs[j]? = some u → w.cell? ((⟨g, 0, none⟩ : Addr).add j) = some u := hown.cells (g := g) rfl
      have hgr := grown cap (by omega) (Value.ownBlock (.slice (some ⟨g, 0, none⟩) n cap))
      refine ⟨_, _, ?_, hgr.1, hgr.2, .inr ⟨rfl, (grown cap (by omega) none).2⟩⟩
      have hf := run_firstCells_some (P := P) w.drew i.size n ⟨g, 0, none⟩ n cap xs (by rw [hsize]; exact hown.1) (by simpa using holds)
      rw [hsize] at hf
      have h48' : ¬ (281474976710656 < Builtin.nextslicecap (n + m) cap * i.bytes) := by have := growslice_fits (old := cap) (by omega) hbytes; omega
      have h63' : ¬ (9223372036854775807 < ((n : Int) + (m : Int))) := by omega
      simp [Builtin.append_, run_underlying ht, run_underlying hu, sizeOf, typeInfo, zeroValue, hi, hz, hsize, hzs, hzc, asInt, asIntOf, hwrap, h48', h48'', h63', hneg, hm0, hroom, Question.forced, newRow, grownCap, hf]
theorem wpList_append_zeros_own {ops : Array Oper} {rest : List Oper} {o : Oper} {a : Act} {Q : Exit → Act → World → Prop} (hgd : o.guard = none) (s x : Operand) (t u : TypeId)
    (ho : o.op = .call { callee := .builtin .append, args := #[s, x], argTypes := #[t, u] })
    (base : Nat) (e : TypeId) (i : TypeInfo) (z : Value) (bytes : Nat) (ht : P.underlying t = some (.slice e)) (hu : P.underlying u = some (.int .i64)) (hi : P.info? e = some i) (hz : i.zero = some z)
    (hsize : i.size = 1) (hby : i.bytes = bytes) (hzs : z.cells = #[z]) (hz1 : z.oneCell' = true)
    (v : Value) (n : Nat) (xs : List Value) (hs : a.eval s = v) (hown : w.ownsRow base e 1 v n xs) (m : Nat) (hx : a.eval x = .int .i64 m) (hm : 0 < m) (h63 : n + m ≤ maxLen) (hbytes : (n + m) * bytes ≤ 140737488355328) (hbase : base ≤ w.heap.size)
    (h : ∀ v' w', w'.ownsRow base e 1 v' (n + m) (xs ++ List.replicate m z) → w.grownBy w' v.ownBlock → (v'.ownBlock = v.ownBlock ∨ (v'.ownBlock = some w.heap.size ∧ w.grownBy w' none)) → wpList P ops Q rest (a.put o.dst v') w') : wpList P ops Q (o :: rest) a w :=
  wpList_plain hgd fun _ hK => by
    obtain ⟨v', w', hr, h2, h3, h4⟩ := run_append_zeros_own (P := P) w base t u o.type e i z bytes ht hu hi hz hsize hby hzs hz1 v n xs hown m hm h63 hbytes hbase
    unfold Oper.wp execOp
    simp only [ho, resolve, invoke, builtin, Sem.run_bind, Sem.run_pure, Result.andThen_ok, List.map_toArray, List.map_cons, List.map_nil, hs, hx, hr]
    exact hK _ _ (h v' w' h2 h3 h4)
end
end Go.Proofs.YtlpdomgedaockaaGreatDoor
namespace Go.Proofs.YtlpdomgedaockaaGreatDoor
open Go.RowKit
def encU (x : Nat) : Value := .int .u64 (x : Int)
def SetR (w : World) (a : Option Addr) (ws : List Nat) : Prop :=
  ∀ i, i < ws.length → ∃ b off, a = some ⟨b, off, none⟩ ∧ b < w.heap.size ∧ w.cell? ⟨b, off + i, none⟩ = some (encU (ws.getD i 0))
def bitOf (ws : List Nat) (n : Nat) : Bool := (ws.getD (n / 64) 0).testBit (n % 64)
theorem wrap_u64_small {x : Nat} (h : x < 18446744073709551616) : IntKind.u64.wrap (x : Int) = (x : Int) := by rw [IntKind.wrap_u64]; omega
theorem ofInt_nat (x : Nat) : BitVec.ofInt IntKind.u64.bits (x : Int) = BitVec.ofNat 64 x := by
  show BitVec.ofInt 64 (x : Int) = BitVec.ofNat 64 x
  exact BitVec.ofInt_natCast 64 x
theorem bits_and {x y : Nat} (hx : x < 18446744073709551616) (hy : y < 18446744073709551616) : bits .and .u64 (x : Int) (y : Int) = ((x &&& y : Nat) : Int) := by
  have h : (BitVec.ofNat 64 x &&& BitVec.ofNat 64 y).toNat = x &&& y := by
    rw [BitVec.toNat_and, BitVec.toNat_ofNat, BitVec.toNat_ofNat, Nat.mod_eq_of_lt hx, Nat.mod_eq_of_lt hy]
  have hl : x &&& y < 18446744073709551616 := Nat.lt_of_le_of_lt Nat.and_le_left hx
  simp only [bits, ofInt_nat]
  exact (congrArg (fun n : Nat => IntKind.u64.wrap (n : Int)) h).trans (wrap_u64_small hl)
theorem bits_or {x y : Nat} (hx : x < 18446744073709551616) (hy : y < 18446744073709551616) : bits .or .u64 (x : Int) (y : Int) = ((x ||| y : Nat) : Int) := by
  have h : (BitVec.ofNat 64 x ||| BitVec.ofNat 64 y).toNat = x ||| y := by
    rw [BitVec.toNat_or, BitVec.toNat_ofNat, BitVec.toNat_ofNat, Nat.mod_eq_of_lt hx, Nat.mod_eq_of_lt hy]
  have hl : x ||| y < 18446744073709551616 := Nat.or_lt_two_pow (n := 64) hx hy
  simp only [bits, ofInt_nat]
  exact (congrArg (fun n : Nat => IntKind.u64.wrap (n : Int)) h).trans (wrap_u64_small hl)
theorem hide' {p : Prop} (h : p) : Hid p := h
theorem retb {a b : Bool} (h : a = b) : Ending.returned (.bool a) = .returned (.bool b) := by rw [h]
theorem and_one (x : Nat) : x &&& 1 = x % 2 := Nat.and_one_is_mod x
def wordsL (ws : List Nat) (n : Nat) : List Nat := ws ++ List.replicate (n - ws.length) 0
theorem wordsL_len (ws : List Nat) (n : Nat) : (wordsL ws n).length = max ws.length n := by simp [wordsL]; omega
theorem wordsL_getD (ws : List Nat) (n i : Nat) : (wordsL ws n).getD i 0 = ws.getD i 0 := by
  unfold wordsL
  by_cases hi : i < ws.length
  · simp [List.getElem?_append_left hi]
  · rw [List.getD_eq_getElem?_getD, List.getD_eq_getElem?_getD, List.getElem?_append_right (by omega), List.getElem?_replicate, List.getElem?_eq_none (by omega : ws.length ≤ i)]
    split <;> rfl
theorem wordsL_mem {ws : List Nat} {n x : Nat} (h : x ∈ wordsL ws n) : x ∈ ws ∨ x = 0 := by
  rcases List.mem_append.1 h with h | h
  · exact .inl h
  · exact .inr (List.eq_of_mem_replicate h)
theorem Tryz.infoU : (Tryz.prog.info? 165).map (fun i => (i.zero, i.size, i.bytes)) = some (some (.int .u64 0), 1, 8) := by kernel_rfl
theorem map_encU {ws : List Nat} {i : Nat} (h : i < ws.length) : (ws.map encU)[i]? = some (encU (ws.getD i 0)) := by simp [h]
def SetO (B : Nat) (w : World) (v : Value) (ws : List Nat) : Prop := w.ownsRow B 165 1 v ws.length (ws.map encU) ∧ ∀ x, x ∈ ws → x < 18446744073709551616
theorem SetO.parts {B : Nat} {w : World} {v : Value} {ws : List Nat} (h : SetO B w v ws) : ∃ a cap, v = .slice a ws.length cap ∧ ws.length ≤ cap ∧ cap ≤ 9223372036854775807 ∧ SetR w a ws := by
  rcases h.1.2 with ⟨rfl, h0⟩ | ⟨g, cap, cur, rfl, hB, hg, hc, hm, _, _⟩
  · exact ⟨none, 0, by rw [h0], by omega, by omega, fun i hi => absurd hi (by omega)⟩
  · refine ⟨_, cap, rfl, hc, hm, fun i hi => ⟨g, 0, rfl, (Array.getElem?_eq_some_iff.1 hg).1, ?_⟩⟩
    rw [Nat.zero_add, h.1.cellAt i (by omega)]
    simp [hi]
theorem setO_pos {B : Nat} {w : World} {v : Value} {ws : List Nat} (h : SetO B w v ws) (h0 : 0 < ws.length) : ∃ g c, v = .slice (some ⟨g, 0, none⟩) ws.length c ∧ B ≤ g ∧ ws.length ≤ c ∧ c ≤ 9223372036854775807 := by
  rcases h.1.2 with ⟨_, h1⟩ | ⟨g, cap, cur, rfl, hb, _, hc, hm, _, _⟩
  · omega
  · exact ⟨g, cap, rfl, hb, hc, hm⟩
set_option maxRecDepth 100000 in
set_option maxHeartbeats 400000 in
theorem words_any (B : Nat) (v : Value) (ws : List Nat) (n : Nat) (w : World) (hB : B ≤ w.heap.size) (h : SetO B w v ws) (hn : n ≤ 1048576) :
    Calls Tryz.prog 91 #[v, .int .i64 n] w fun e w' => ∃ v', e = .returned v' ∧ SetO B w' v' (wordsL ws n) ∧ w.grownBy w' v.ownBlock ∧ (v'.ownBlock = v.ownBlock ∨ (v'.ownBlock = some w.heap.size ∧ w.grownBy w' none)) ∧ (n ≤ ws.length → w' = w ∧ v' = v) := by
  obtain ⟨i0, hi, hz0, hz1, hz2⟩ := info_parts Tryz.infoU
  obtain ⟨k, hk⟩ : ∃ k, ws.length = k := ⟨_, rfl⟩
  obtain ⟨a, cap, rfl, hc, hm, hr⟩ := h.parts
  have hown := h.1
  rw [hk] at hown hc h ⊢
  clear hr
  by_cases hle : n ≤ k
  · have e : wordsL ws n = ws := by unfold wordsL; rw [Nat.sub_eq_zero_of_le (by omega)]; simp
    rw [e]
    go_enter Tryz.func91, Tryz.ntmps91
    go_wp2
    go_ret
    exact ⟨_, rfl, h, ⟨rfl, rfl, rfl, Nat.le_refl _, fun _ _ _ => rfl⟩, .inl rfl, fun _ => ⟨rfl, rfl⟩⟩
  · obtain ⟨m, hm⟩ : ∃ m, n = k + m := ⟨n - k, by omega⟩
    have hm0 : 0 < m := by omega
    have hnum : ((n : Int) - (k : Int)) = (m : Int) := by omega
    have hbb : (k + m) * 8 ≤ 140737488355328 := by omega
    have hml : k + m ≤ maxLen := by unfold maxLen; omega
    have hfin : Hid (∀ (v' : Value) (w' : World), w'.ownsRow B 165 1 v' (k + m) (ws.map encU ++ List.replicate m (.int .u64 0)) → SetO B w' v' (wordsL ws n)) := by
      intro v' w' ho
      refine ⟨?_, fun x hx => (wordsL_mem hx).elim (h.2 x) (fun e => by omega)⟩
      rw [wordsL_len, show max ws.length n = k + m by omega, wordsL, List.map_append, List.map_replicate, show n - ws.length = m by omega]
      exact ho
    clear hm h
    go_enter Tryz.func91, Tryz.ntmps91
    go_wp2_with (at_builtin; refine wpList_append_zeros_own _ rfl _ _ 79 3 rfl B 165 i0 (.int .u64 0) 8 Tryz.underlying79 Tryz.underlying3 hi hz0 hz1 hz2 rfl rfl _ k _ rfl hown m rfl hm0 hml hbb hB ?_; intro v' w1 hown' hgrow hblk)
    go_ret
    exact ⟨v', rfl, hfin.out _ _ hown', hgrow, hblk, fun h => absurd h hle⟩
def withL (ws : List Nat) (n : Nat) : List Nat := (wordsL ws (n / 64 + 1)).set (n / 64) (ws.getD (n / 64) 0 ||| 2 ^ (n % 64))
theorem withL_len (ws : List Nat) (n : Nat) : (withL ws n).length = max ws.length (n / 64 + 1) := by rw [withL, List.length_set, wordsL_len]
theorem grownBy_trans {w w1 w2 : World} {r r' : Option Nat} (h : w.grownBy w1 r) (h' : w1.grownBy w2 r') (hr : ∀ g, r' = some g → r = some g ∨ w.heap.size ≤ g) : w.grownBy w2 r :=
  ⟨h'.os.trans h.os, h'.tape.trans h.tape, h'.output.trans h.output, Nat.le_trans h.size h'.size, fun k hk hne => by
    have := h.size
    refine (h'.block k (by omega) (fun e => ?_)).trans (h.block k hk hne)
    rcases hr k e.symm with h1 | h1
    · exact hne h1.symm
    · omega⟩
set_option maxRecDepth 100000 in
set_option maxHeartbeats 400000 in
theorem with_any (B : Nat) (v : Value) (ws : List Nat) (n : Nat) (w : World) (hB : B ≤ w.heap.size) (h : SetO B w v ws) (hn : n ≤ 1048576) (hlen : ws.length ≤ 1048576) :
    Calls Tryz.prog 41 #[v, .int .i64 n] w fun e w' => ∃ v', e = .returned v' ∧ SetO B w' v' (withL ws n) ∧ w.grownBy w' v.ownBlock ∧ (v'.ownBlock = v.ownBlock ∨ (v'.ownBlock = some w.heap.size ∧ w.grownBy w' none)) := by
  obtain ⟨q, r, hr, rfl⟩ : ∃ q r, r < 64 ∧ n = 64 * q + r := ⟨n / 64, n % 64, Nat.mod_lt _ (by decide), (Nat.div_add_mod n 64).symm⟩
  have e1 : (64 * q + r) / 64 = q := by omega
  have e2 : (64 * q + r) % 64 = r := by omega
  have hW := words_any B v ws (q + 1) w hB h (by omega)
  have hcast : (((q + 1 : Nat)) : Int) = (q : Int) + 1 := by simp
  rw [hcast] at hW
  have hwl : withL ws (64 * q + r) = (wordsL ws (q + 1)).set q (ws.getD q 0 ||| 2 ^ r) := by unfold withL; rw [e1, e2]
  rw [hwl]
  obtain ⟨us, hus⟩ : ∃ us, wordsL ws (q + 1) = us := ⟨_, rfl⟩
  have hul : Hid (us.length = max ws.length (q + 1)) := by rw [← hus]; exact wordsL_len _ _
  have hlt : q < us.length := by have := hul.out; omega
  have hul8 : us.length ≤ 1048577 := by have := hul.out; omega
  have hgd : ws.getD q 0 = us.getD q 0 := by rw [← hus, wordsL_getD]
  rw [hgd]
  rw [hus] at hW ⊢
  obtain ⟨x, hx⟩ : ∃ x, Hid (us.getD q 0 = x) := ⟨_, rfl⟩
  rw [hx.out]
  clear hwl hgd hcast h hus
  have i1 : (64 * (q : Int) + (r : Int)) / 64 = (q : Int) := by omega
  have i2 : (64 * (q : Int) + (r : Int)) % 64 = (r : Int) := by omega
  go_enter Tryz.func41, Tryz.ntmps41
  go_wp2_with (go_at_call 91; refine hW.mono ?_; clear hW; rintro e w1 ⟨v1, rfl, hS1, hg1, hb1, -⟩; obtain ⟨g, c1, rfl, -, hc2, hc3⟩ := setO_pos hS1 (by omega); have hcell := (hS1.1.cellAt q (by omega)).trans (map_encU hlt); have hfr := hS1.1.frozenAt q)
  rw [hx.out] at hcell
  unfold encU at hcell
  have hmix : Tryz.prog.follows Departure.mixedOrders = true := by kernel_rfl
  have hxl : x < 18446744073709551616 := by
    rw [← hx.out]; exact hS1.2 _ (by rw [List.getD_eq_getElem?_getD, List.getElem?_eq_getElem hlt]; exact List.getElem_mem _)
  have hpl : 2 ^ r < 18446744073709551616 := Nat.pow_lt_pow_right (by decide) hr
  have hol : x ||| 2 ^ r < 18446744073709551616 := Nat.or_lt_two_pow (n := 64) hxl hpl
  have hval : bits BinOp.or IntKind.u64 (x : Int) (IntKind.u64.wrap (2 ^ r)) = ((x ||| 2 ^ r : Nat) : Int) := by
    have e3 : ((2 : Int) ^ r) = ((2 ^ r : Nat) : Int) := by simp
    rw [e3, wrap_u64_small hpl, bits_or hxl hpl]
  have hst := hS1.1.stored q (encU (x ||| 2 ^ r))
  have hfin : Hid (SetO B (w1.setCell ⟨g, q, none⟩ (encU (x ||| 2 ^ r))).drew (.slice (some ⟨g, 0, none⟩) us.length c1) (us.set q (x ||| 2 ^ r)) ∧ w.grownBy (w1.setCell ⟨g, q, none⟩ (encU (x ||| 2 ^ r))).drew v.ownBlock ∧
      (Value.ownBlock (.slice (some ⟨g, 0, none⟩) us.length c1) = v.ownBlock ∨ (Value.ownBlock (.slice (some ⟨g, 0, none⟩) us.length c1) = some w.heap.size ∧ w.grownBy (w1.setCell ⟨g, q, none⟩ (encU (x ||| 2 ^ r))).drew none))) := by
    refine ⟨⟨?_, fun y hy => ?_⟩, ?_, ?_⟩
    · rw [List.length_set, List.map_set]; exact hst.1
    · rcases List.mem_or_eq_of_mem_set hy with h1 | h1
      · exact hS1.2 y h1
      · omega
    · have hgs := grownBy_trans hg1 hst.2 (fun g' e => by
        cases e
        rcases hb1 with h1 | ⟨h1, _⟩
        · exact .inl (h1.symm.trans rfl)
        · cases h1; exact .inr (Nat.le_refl _))
      exact ⟨hgs.os, hgs.tape, hgs.output, hgs.size, hgs.block⟩
    · rcases hb1 with h1 | ⟨h1, h2⟩
      · exact .inl h1
      · refine .inr ⟨h1, ?_⟩
        have hgs := grownBy_trans h2 hst.2 (fun g' e => by cases e; cases h1; exact .inr (Nat.le_refl _))
        exact ⟨hgs.os, hgs.tape, hgs.output, hgs.size, hgs.block⟩
  have Hv := hide' hval
  clear hst hval
  go_big_region
  rw [Hv.out]
  go_wp2
  go_ret
  exact ⟨_, rfl, hfin.out.1, hfin.out.2.1, hfin.out.2.2⟩
end Go.Proofs.YtlpdomgedaockaaGreatDoor
namespace Go.Proofs.YtlpdomgedaockaaGreatDoor
open Go.RowKit
def joinUpto (s o : List Nat) (k : Nat) : List Nat := (List.range (max s.length o.length)).map fun i => if i < k then s.getD i 0 ||| o.getD i 0 else s.getD i 0
def joinL (s o : List Nat) : List Nat := joinUpto s o o.length
theorem joinUpto_len (s o : List Nat) (k : Nat) : (joinUpto s o k).length = max s.length o.length := by simp [joinUpto]
theorem joinL_len (s o : List Nat) : (joinL s o).length = max s.length o.length := joinUpto_len _ _ _
theorem getDN_eq {l : List Nat} {i : Nat} (h : i < l.length) : l.getD i 0 = l[i] := by simp [h]
theorem getDN_past {l : List Nat} {i : Nat} (h : l.length ≤ i) : l.getD i 0 = 0 := by simp [h]
theorem joinUpto_getD (s o : List Nat) (k i : Nat) (h : i < max s.length o.length) : (joinUpto s o k).getD i 0 = if i < k then s.getD i 0 ||| o.getD i 0 else s.getD i 0 := by
  rw [getDN_eq (by rw [joinUpto_len]; exact h)]
  simp [joinUpto]
theorem joinL_getD (s o : List Nat) (i : Nat) : (joinL s o).getD i 0 = s.getD i 0 ||| o.getD i 0 := by
  by_cases h : i < max s.length o.length
  · rw [joinL, joinUpto_getD _ _ _ _ h]
    split
    · rfl
    · rw [getDN_past (l := o) (by omega)]; simp
  · rw [getDN_past (by rw [joinL_len]; omega), getDN_past (by omega), getDN_past (by omega)]; rfl
theorem extN {l l' : List Nat} (hl : l.length = l'.length) (h : ∀ i, i < l.length → l.getD i 0 = l'.getD i 0) : l = l' := by
  apply List.ext_getElem hl
  intro i h1 h2
  have := h i h1
  rwa [getDN_eq h1, getDN_eq h2] at this
theorem joinUpto_zero (s o : List Nat) : joinUpto s o 0 = wordsL s o.length := by
  refine extN (by rw [joinUpto_len, wordsL_len]) fun i hi => ?_
  rw [joinUpto_len] at hi
  rw [joinUpto_getD _ _ _ _ hi, wordsL_getD, if_neg (by omega)]
theorem joinUpto_succ (s o : List Nat) (k : Nat) (hk : k < o.length) : joinUpto s o (k + 1) = (joinUpto s o k).set k (s.getD k 0 ||| o.getD k 0) := by
  refine extN (by rw [joinUpto_len, List.length_set, joinUpto_len]) fun i hi => ?_
  rw [joinUpto_len] at hi
  rw [joinUpto_getD _ _ _ _ hi]
  by_cases e : i = k
  · subst e
    have hl : i < ((joinUpto s o i).set i (s.getD i 0 ||| o.getD i 0)).length := by rw [List.length_set, joinUpto_len]; exact hi
    rw [if_pos (by omega), getDN_eq hl, List.getElem_set_self]
  · have h1 : ((joinUpto s o k).set k (s.getD k 0 ||| o.getD k 0)).getD i 0 = (joinUpto s o k).getD i 0 := by
      rw [List.getD_eq_getElem?_getD, List.getElem?_set_ne (fun h => e h.symm), ← List.getD_eq_getElem?_getD]
    rw [h1, joinUpto_getD _ _ _ _ hi]
    by_cases h2 : i < k
    · rw [if_pos (by omega), if_pos h2]
    · rw [if_neg (by omega), if_neg h2]
theorem bit_join (s o : List Nat) (n : Nat) : bitOf (joinL s o) n = (bitOf s n || bitOf o n) := by
  unfold bitOf; rw [joinL_getD, Nat.testBit_or]
theorem bit_with (ws : List Nat) (n m : Nat) : bitOf (withL ws n) m = (bitOf ws m || decide (m = n)) := by
  have hl := withL_len ws n
  unfold bitOf
  by_cases e : m / 64 = n / 64
  · have h1 : (withL ws n).getD (m / 64) 0 = ws.getD (n / 64) 0 ||| 2 ^ (n % 64) := by
      rw [e, getDN_eq (by rw [hl]; omega)]; unfold withL; rw [List.getElem_set_self]
    rw [h1, Nat.testBit_or, e, Nat.testBit_two_pow]
    have : decide (n % 64 = m % 64) = decide (m = n) := decide_eq_decide.2 (by omega)
    rw [this]
  · have h1 : (withL ws n).getD (m / 64) 0 = ws.getD (m / 64) 0 := by
      unfold withL
      rw [List.getD_eq_getElem?_getD, List.getElem?_set_ne (fun h => e h.symm), ← List.getD_eq_getElem?_getD, wordsL_getD]
    have h2 : decide (m = n) = false := decide_eq_false (fun h => e (by rw [h]))
    rw [h1, h2, Bool.or_false]
theorem bit_nil (n : Nat) : bitOf [] n = false := by simp [bitOf]
theorem joinUpto_lt {s o : List Nat} (hs : ∀ x, x ∈ s → x < 18446744073709551616) (ho : ∀ x, x ∈ o → x < 18446744073709551616) (k : Nat) : ∀ x, x ∈ joinUpto s o k → x < 18446744073709551616 := by
  intro x hx
  have hd : ∀ (l : List Nat), (∀ x, x ∈ l → x < 18446744073709551616) → ∀ i, l.getD i 0 < 18446744073709551616 := fun l hl i => by
    by_cases h : i < l.length
    · rw [getDN_eq h]; exact hl _ (List.getElem_mem _)
    · rw [getDN_past (by omega)]; decide
  obtain ⟨i, _, rfl⟩ := List.mem_map.1 hx
  show (if i < k then _ else _) < _
  split
  · exact Nat.or_lt_two_pow (n := 64) (hd s hs i) (hd o ho i)
  · exact hd s hs i
def Beside (v : Value) (s : List Nat) (ao : Option Addr) (o : List Nat) : Prop :=
  (∀ b, ao = some b → v.ownBlock ≠ some b.block) ∨ (∃ g c, v = .slice (some ⟨g, 0, none⟩) s.length c ∧ ao = some ⟨g, 0, none⟩ ∧ o.length ≤ s.length ∧ ∀ i, i < o.length → o.getD i 0 = s.getD i 0)
set_option maxRecDepth 100000 in
set_option maxHeartbeats 400000 in
theorem join_any (B : Nat) (v : Value) (s : List Nat) (ao : Option Addr) (co : Nat) (o : List Nat) (w : World) (hB : B ≤ w.heap.size) (h : SetO B w v s) (hlen : s.length ≤ 1048576) (hlo : o.length ≤ 1048576)
    (hco : o.length ≤ co) (ho : SetR w ao o) (hob : ∀ x, x ∈ o → x < 18446744073709551616) (hne : Beside v s ao o) :
    Calls Tryz.prog 58 #[v, .slice ao o.length co] w fun e w' => ∃ v', e = .returned v' ∧ SetO B w' v' (joinL s o) ∧ w.grownBy w' v.ownBlock ∧ (v'.ownBlock = v.ownBlock ∨ (v'.ownBlock = some w.heap.size ∧ w.grownBy w' none)) := by
  have hW := words_any B v s o.length w hB h hlo
  rw [← joinUpto_zero] at hW
  obtain ⟨m, hm⟩ : ∃ m, o.length = m := ⟨_, rfl⟩
  obtain ⟨M, hM⟩ : ∃ M, max s.length o.length = M := ⟨_, rfl⟩
  have hread : Hid (∀ (v1 : Value) (k : Nat) (wr : World), (m ≤ s.length → v1 = v) → k < m → SetO B wr v1 (joinUpto s o k) → w.grownBy wr v.ownBlock → ∃ b off, ao = some ⟨b, off, none⟩ ∧ wr.cell? ⟨b, off + k, none⟩ = some (encU (o.getD k 0))) := by
    intro v1 k wr hv1 hk hS hg
    rcases hne with hne | ⟨g, c, rfl, rfl, hle, heq⟩
    · obtain ⟨b, off, rfl, hb, hc⟩ := ho k (by omega)
      exact ⟨b, off, rfl, hg.cell hc (fun e => hne _ rfl e.symm)⟩
    · obtain rfl := hv1 (by omega)
      refine ⟨g, 0, rfl, ?_⟩
      have h1 : max s.length o.length = s.length := by omega
      have h2 := hS.1
      rw [joinUpto_len, h1] at h2
      rw [Nat.zero_add, h2.cellAt k (by omega), map_encU (by rw [joinUpto_len]; omega), joinUpto_getD _ _ _ _ (by omega), if_neg (by omega), heq k (by omega)]
  have hjl : joinL s o = joinUpto s o m := by rw [← hm]; rfl
  rw [hjl]
  have HM := hide' hM
  rw [hm] at hW hco hlo ⊢
  have Hm := hide' hm
  have hM8 : M ≤ 1048576 := by omega
  have hmM : m ≤ M := by omega
  have hbl : ∀ k x, x ∈ joinUpto s o k → x < 18446744073709551616 := joinUpto_lt h.2 hob
  have Hbl := hide' hbl
  clear hm hM hjl hne hbl ho
  go_enter Tryz.func58, Tryz.ntmps58
  go_wp2_with (go_at_call 91; refine hW.mono ?_; clear hW; rintro e w1 ⟨v1, rfl, hS1, hg1, hb1, hsm⟩)
  have Hsm : Hid (m ≤ s.length → v1 = v) := fun h => (hsm h).2
  clear hsm
  go_loopw [13] (fun i wr => ∃ k : Nat, k ≤ m ∧ i = .int .i64 k ∧ SetO B wr v1 (joinUpto s o k) ∧ w.grownBy wr v.ownBlock ∧ (v1.ownBlock = v.ownBlock ∨ (v1.ownBlock = some w.heap.size ∧ w.grownBy wr none))) (fun i _ => m - (intOf i).toNat)
  case atStart => exact ⟨0, Nat.zero_le _, rfl, hS1, hg1, hb1⟩
  case round =>
    obtain ⟨k, hk, rfl, hS, hg, hbk⟩ := hrel
    clear hb1
    by_cases hlt : k < m
    · have hjl : (joinUpto s o k).length = M := (joinUpto_len _ _ _).trans HM.out
      obtain ⟨b, off, rfl, hco1⟩ := hread.out v1 k wr Hsm.out hlt hS hg
      obtain ⟨g, c1, hv1, -, hc2, hc3⟩ := setO_pos hS (by omega)
      rw [hjl] at hv1 hc2
      subst hv1
      have hown := hS.1
      rw [hjl] at hown
      have hcell := (hown.cellAt k (by omega)).trans (map_encU (by omega))
      have hfr := hown.frozenAt k
      rw [joinUpto_getD _ _ _ _ (by have := HM.out; omega), if_neg (by omega)] at hcell
      obtain ⟨x, hx⟩ : ∃ x, Hid (s.getD k 0 = x) := ⟨_, rfl⟩
      obtain ⟨y, hy⟩ : ∃ y, Hid (o.getD k 0 = y) := ⟨_, rfl⟩
      rw [hx.out] at hcell
      rw [hy.out] at hco1
      have hxl : x < 18446744073709551616 := by
        have h1 := Hbl.out k ((joinUpto s o k).getD k 0) (by rw [getDN_eq (by omega)]; exact List.getElem_mem _)
        rwa [joinUpto_getD _ _ _ _ (by have := HM.out; omega), if_neg (by omega), hx.out] at h1
      have hyl : y < 18446744073709551616 := by
        rw [← hy.out, getDN_eq (by have := Hm.out; omega)]; exact hob _ (List.getElem_mem _)
      have hval : Hid (bits BinOp.or IntKind.u64 (x : Int) (y : Int) = ((x ||| y : Nat) : Int)) := bits_or hxl hyl
      have hst := hown.stored k (encU (x ||| y))
      have hfin : Hid (SetO B (wr.setCell ⟨g, k, none⟩ (encU (x ||| y))) (.slice (some ⟨g, 0, none⟩) M c1) (joinUpto s o (k + 1)) ∧ w.grownBy (wr.setCell ⟨g, k, none⟩ (encU (x ||| y))) v.ownBlock ∧
          (Value.ownBlock (.slice (some ⟨g, 0, none⟩) M c1) = v.ownBlock ∨ (Value.ownBlock (.slice (some ⟨g, 0, none⟩) M c1) = some w.heap.size ∧ w.grownBy (wr.setCell ⟨g, k, none⟩ (encU (x ||| y))) none))) := by
        refine ⟨⟨?_, Hbl.out (k + 1)⟩, ?_, ?_⟩
        · rw [joinUpto_len, HM.out, joinUpto_succ _ _ _ (by have := Hm.out; omega), List.map_set, hx.out, hy.out]; exact hst.1
        · refine grownBy_trans hg hst.2 (fun g' e => ?_)
          cases e
          rcases hbk with h1 | ⟨h1, _⟩
          · exact .inl (h1.symm.trans rfl)
          · cases h1; exact .inr (Nat.le_refl _)
        · rcases hbk with h1 | ⟨h1, h2⟩
          · exact .inl h1
          · exact .inr ⟨h1, grownBy_trans h2 hst.2 (fun g' e => by cases e; cases h1; exact .inr (Nat.le_refl _))⟩
      unfold encU at hcell hco1
      clear hst hown hS hg hjl hbk
      go_wp2
      rw [hval.out]
      go_roundw
      case rel => exact ⟨k + 1, by omega, by go_num, hfin.out.1, hfin.out.2.1, hfin.out.2.2⟩
      case measure => simp [intOf]; omega
    · obtain rfl : k = m := by omega
      go_wp2
      go_ret
      exact ⟨_, rfl, hS, hg, hbk⟩
end Go.Proofs.YtlpdomgedaockaaGreatDoor
