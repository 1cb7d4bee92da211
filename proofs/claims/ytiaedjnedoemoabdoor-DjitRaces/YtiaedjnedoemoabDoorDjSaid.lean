import Derived.Test.YtiaedjnedoemoabDoorDjGen
namespace Go.Proofs.YtiaedjnedoemoabDoor
open Go.RowKit Go.Proofs.Ord

/-- Rows of numbers in new memory: A, C: where each lies, and its room. No two share a cell, nor lies one where the rows' list lies. -/
def RowsNew (B : Nat) (w : World) (a : Option Addr) (cap : Nat) (A : Nat → Option Addr) (C : Nat → Nat) (rows : List (List Int)) : Prop :=
  rows.length ≤ cap ∧ cap ≤ maxLen ∧
  (∀ i, i < rows.length → ∃ b off, a = some ⟨b, off, none⟩ ∧ B ≤ b ∧ b < w.heap.size ∧ w.cell? ⟨b, off + i, none⟩ = some (.slice (A i) (rows.getD i []).length (C i)) ∧ ∀ j bj oj, j < rows.length → A j = some ⟨bj, oj, none⟩ → 0 < (rows.getD j []).length → bj ≠ b) ∧
  (∀ i, i < rows.length → New B w (.slice (A i) (rows.getD i []).length (C i)) (rows.getD i [])) ∧
  ∀ i j, i < rows.length → j < rows.length → i ≠ j → ∀ bi oi bj oj ki kj, A i = some ⟨bi, oi, none⟩ → A j = some ⟨bj, oj, none⟩ → ki < (rows.getD i []).length → kj < (rows.getD j []).length → ¬ (bi = bj ∧ oi + ki = oj + kj)

def stampRows (l : List Ev) (th : Nat) : List (List Int) := (List.range l.length).map (stamp (ev l) th)
theorem stampRows_length (l : List Ev) (th : Nat) : (stampRows l th).length = l.length := by simp [stampRows]
theorem stampRows_getD (l : List Ev) (th j : Nat) (h : j < l.length) : (stampRows l th).getD j [] = stamp (ev l) th j := by simp [stampRows, h]

/-- What the program's Stamps and Racy answer. -/
def StampsSaid : Prop := ∀ (a : Option Addr) (n cap : Nat) (l : List Ev) (th : Nat) (w : World), l.length = n → EvS w a l → n ≤ cap → cap ≤ maxLen → n * 32 ≤ 140737488351232 → th ≤ 64 → ThR l →
  Calls Tryd.prog 17 #[.slice a n cap, .int .i64 (th : Int)] w fun e w' => ∃ a' cap' A C, e = .returned (.slice a' n cap') ∧ RowsNew w.heap.size w' a' cap' A C (stampRows l th) ∧ Below w.heap.size w w'
def RacyDSaid : Prop := ∀ (a : Option Addr) (n cap : Nat) (l : List Ev) (w : World), l.length = n → EvS w a l → n ≤ cap → cap ≤ maxLen → n ≤ 1048576 → ThR l →
  Calls Tryd.prog 5 #[.slice a n cap] w fun e w' => ∃ a' cap', e = .returned (.slice a' n cap') ∧ BoolS w' a' n (racy (ev l)) ∧ Below w.heap.size w w'

/-- One row, as it stands in a later world. -/
theorem RowsNew.row {B cap : Nat} {w w' : World} {a : Option Addr} {A : Nat → Option Addr} {C : Nat → Nat} {rows : List (List Int)} (h : RowsNew B w a cap A C rows) (hb : Below w.heap.size w w') (h8 : ∀ i, i < rows.length → (rows.getD i []).length ≤ 64) {i : Nat} (hi : i < rows.length) :
    ∃ b off, a = some ⟨b, off, none⟩ ∧ b < w'.heap.size ∧ w'.cell? ⟨b, off + i, none⟩ = some (.slice (A i) (rows.getD i []).length (C i)) ∧ SlV w' (A i) (rows.getD i []).length (C i) (rows.getD i []) := by
  obtain ⟨b, off, e1, e2, e3, e4, _⟩ := h.2.2.1 i hi
  have hs := (h.2.2.2.1 i hi).slV (by have := h8 i hi; omega)
  exact ⟨b, off, e1, by have := hb.size; omega, (hb.cell (p := ⟨b, off + i, none⟩) e3).trans e4, hs.below hb⟩

def l3 : List Ev := [⟨0, 2, 0, 0⟩, ⟨1, 2, 0, 0⟩, ⟨0, 0, 0, 0⟩]
theorem thr3 : ThR l3 := by unfold ThR; decide +kernel
theorem rows3 : stampRows l3 2 = [[1], [0, 1], [2]] := by decide +kernel
theorem racy3a : racy (ev l3) 0 = false := by decide +kernel
theorem racy3b : racy (ev l3) 1 = true := by decide +kernel

set_option maxRecDepth 100000 in
set_option maxHeartbeats 1000000 in
theorem alive5_true (hSt : StampsSaid) (hRa : RacyDSaid) (w : World) : Calls Tryd.prog 7 #[] w fun e w' => e = .returned (.bool true) ∧ Below w.heap.size w w' := by
  have hs : EvS (w.alloc (.cells #[.int .i64 0, .int .i64 2, .int .i64 0, .int .i64 0, .int .i64 1, .int .i64 2, .int .i64 0, .int .i64 0, .int .i64 0, .int .i64 0, .int .i64 0, .int .i64 0] 35)) (some ⟨w.heap.size, 0, none⟩) l3 := evS_lit w _ l3 (by decide)
  have hb0 : Below w.heap.size w (w.alloc (.cells #[.int .i64 0, .int .i64 2, .int .i64 0, .int .i64 0, .int .i64 1, .int .i64 2, .int .i64 0, .int .i64 0, .int .i64 0, .int .i64 0, .int .i64 0, .int .i64 0] 35)) := (Below.refl _ _).alloc (Nat.le_refl _) _
  go_enter Tryd.func7, Tryd.ntmps7
  go_wp2_with fail
  refine (hSt _ 3 3 l3 2 _ rfl hs (by omega) (by unfold maxLen; omega) (by omega) (by omega) thr3).mono ?_
  rintro e w1 ⟨a1, cap1, A, C, rfl, hr, hb1⟩
  rw [rows3] at hr
  have hk1 : Below w.heap.size w w1 := hb0.trans (hb1.mono hb0.size)
  go_wp2_with fail
  refine (hRa _ 3 3 l3 _ rfl (hs.below hb1) (by omega) (by unfold maxLen; omega) (by omega) thr3).mono ?_
  rintro e w2 ⟨a2, cap2, rfl, hq, hb2⟩
  have hk2 : Hid (Below w.heap.size w w2) := hk1.trans (hb2.mono hk1.size)
  have h8 : ∀ i, i < [[(1 : Int)], [0, 1], [2]].length → ([[(1 : Int)], [0, 1], [2]].getD i []).length ≤ 64 := by decide
  obtain ⟨b, off, rfl, _, c0, s0⟩ := hr.row hb2 h8 (i := 0) (by decide)
  obtain ⟨b', off', e', _, c1, s1⟩ := hr.row hb2 h8 (i := 1) (by decide)
  cases e'
  obtain ⟨b', off', e', _, c2, s2⟩ := hr.row hb2 h8 (i := 2) (by decide)
  cases e'
  obtain ⟨bb, ob, rfl, _, q0⟩ := hq 0 (by omega)
  obtain ⟨b', off', e', _, q1⟩ := hq 1 (by omega)
  cases e'
  rw [racy3a] at q0
  rw [racy3b] at q1
  simp only [List.getD_cons_zero, List.getD_cons_succ, List.length_cons, List.length_nil, Nat.zero_add, Nat.reduceAdd, Nat.add_zero] at c0 c1 c2 s0 s1 s2 q0
  obtain ⟨b1, o1, hA1, _, d0⟩ := s1.2.2.2.2.1 0 (by simp)
  obtain ⟨b', off', e', _, d1⟩ := s1.2.2.2.2.1 1 (by simp)
  obtain ⟨b2, o2, hA2, _, d2⟩ := s2.2.2.2.2.1 0 (by simp)
  rw [hA1] at e' c1
  rw [hA2] at c2
  cases e'
  simp only [List.getD_cons_zero, List.getD_cons_succ, Nat.add_zero] at d0 d1 d2
  clear hs hb0 hb1 hb2 hr hq hk1 h8 s0 s1 s2 hA1 hA2
  go_wp2
  go_ret
  exact ⟨rfl, hk2.out⟩
theorem Tryd.infoi : (Tryd.prog.info? 3).map (fun i => (i.zero, i.size, i.bytes)) = some (some (.int .i64 0), 1, 8) := by kernel_rfl
theorem Tryd.infois : (Tryd.prog.info? 47).map (fun i => (i.zero, i.size, i.bytes)) = some (some (.slice none 0 0), 1, 24) := by kernel_rfl
/-- What the program's Stamps answers for numbers of threads that there are none of. -/
def StampsNoSaid : Prop := ∀ (a : Option Addr) (n cap : Nat) (l : List Ev) (th : Int) (w : World), l.length = n → EvS w a l → n ≤ cap → cap ≤ maxLen → n * 32 ≤ 140737488351232 → (th < 0 ∨ 64 < th) →
  Calls Tryd.prog 17 #[.slice a n cap, .int .i64 th] w fun e w' => e = .returned (.slice none 0 0) ∧ Below w.heap.size w w'
end Go.Proofs.YtiaedjnedoemoabDoor
