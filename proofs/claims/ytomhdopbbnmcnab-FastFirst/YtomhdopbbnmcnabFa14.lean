import Derived.Test.YtomhdopbbnmcnabFa12
import Derived.Test.YtomhdopbbnmcnabFa13
import Derived.Test.YtomhdopbbnmcnabFa2
import Derived.Test.YtomhdopbbnmcnabFa5
import Derived.Test.YtomhdopbbnmcnabFa0
import Derived.Deep.RegionHeld3
import Derived.Deep.DrawnRows
import Derived.Deep.QuietTactic
import Derived.BigQuiet
import Derived.Maps.AppendAt
import Derived.Deep.RegionWith
import Derived.Deep.AppendLies
namespace Go.Proofs.Ytomhdopbbnmcnab
open Go.RowKit Go.Proofs.Ord

/-- What stands in memory when a detector has seen these events. -/
def DetOf (w : World) (F : Nat → Prop) (p : Addr) (l : List Ev) : Prop :=
  ∃ tag bd bf bk br S K R T, p = ⟨bd, 0, none⟩ ∧ (∀ b, F b ↔ tag b ≠ .o) ∧ DetW w tag bd bf bk br S K R T (ev l) l.length l.length
theorem ev_same (l : List Ev) (x : Ev) : (∀ q, q < l.length → ev l q = ev (l ++ [x]) q) ∧ ev (l ++ [x]) l.length = x := by
  refine ⟨fun q hq => ?_, ?_⟩
  · unfold ev
    rw [List.getD_eq_getElem?_getD, List.getD_eq_getElem?_getD, List.getElem?_append_left hq]
  · simp [ev]

theorem det_said : DetSaid DetOf where
  own := by
    rintro w w' F p l ⟨tag, bd, bf, bk, br, S, K, R, T, rfl, hF, hD⟩ hb hs _ _ _
    exact ⟨tag, bd, bf, bk, br, S, K, R, T, rfl, hF, hD.own (fun b e => hb b ((hF b).2 e)) hs⟩
  lt := by
    rintro w F p l ⟨tag, bd, bf, bk, br, S, K, R, T, rfl, hF, hD⟩ b hb
    exact hD.tlt b ((hF b).1 hb)
  new := by
    intro w
    refine (newF_any w (ev [])).mono ?_
    rintro e w' ⟨rfl, hD, hb⟩
    exact ⟨_, fun b => tag0 w.heap.size b ≠ .o, rfl, ⟨_, _, _, _, _, _, _, _, _, rfl, fun _ => Iff.rfl, hD⟩, fun b hb => (tag0_new hb).1, hb⟩
  see := by
    rintro w F p l ⟨t, kd, o, v⟩ ⟨tag, bd, bf, bk, br, S, K, R, T, rfl, hF, hD⟩ hl ht ho
    obtain ⟨h1, h2⟩ := ev_same l ⟨t, kd, o, v⟩
    refine (see_any t kd o v w (hD.sameL h1) h2 ht ho hl).mono ?_
    rintro e w' ⟨rfl, tag', S', K', R', T', hD', h3, h4⟩
    refine ⟨fun b => tag' b ≠ .o, rfl, ⟨tag', bd, bf, bk, br, S', K', R', T', rfl, fun _ => Iff.rfl, ?_⟩, fun b hb hn => (hF b).2 (h3 b hb hn), ⟨h4.os, h4.tape, h4.output, h4.size, fun b hb hn => h4.block b hb (fun e => hn ((hF b).2 e))⟩⟩
    rw [List.length_append]
    exact hD'
  racy := by
    rintro w F p l ⟨tag, bd, bf, bk, br, S, K, R, T, rfl, hF, hD⟩ hl
    exact racyF_any w hD hl
theorem fast_said : FastSaid := ⟨DetOf, det_said⟩
theorem first_said : FirstSaid := fun a n cap l obj w hn hs _ _ hb hr => firstF_any a n cap l obj w hn hs hb hr
end Go.Proofs.Ytomhdopbbnmcnab
namespace Go.Proofs.Ytomhdopbbnmcnab
open Go.RowKit Go.Proofs.Ord

/-- Truths lie here. -/
def BoolS (w : World) (a : Option Addr) (n : Nat) (f : Nat → Bool) : Prop :=
  ∀ i, i < n → ∃ b off, a = some ⟨b, off, none⟩ ∧ b < w.heap.size ∧ w.cell? ⟨b, off + i, none⟩ = some (.bool (f i))
theorem BoolS.below {w w' : World} {a : Option Addr} {n : Nat} {f : Nat → Bool} (h : BoolS w a n f) (hb : Below w.heap.size w w') : BoolS w' a n f := by
  intro i hi
  obtain ⟨b, off, e1, e2, e3⟩ := h i hi
  exact ⟨b, off, e1, by have := hb.size; omega, (hb.cell (p := ⟨b, off + i, none⟩) e2).trans e3⟩
theorem Tells.boolS {w : World} {B g n : Nat} {f : Nat → Bool} (h : Tells w B g n f) : BoolS w (some ⟨g, 0, none⟩) n f :=
  fun i hi => ⟨g, 0, rfl, (World.ownsRow.lt h _ rfl).2, by rw [Nat.zero_add]; exact h.cell hi⟩
theorem take_any (P : List (Nat × Nat)) (i : Nat) (hi : i < P.length) (q : Nat) : ((P.take (i + 1)).any fun p => p.2 == q) = (((P.take i).any fun p => p.2 == q) || (P.getD i (0, 0)).2 == q) := by
  rw [List.take_succ_eq_append_getElem hi, List.any_append]
  have : P.getD i (0, 0) = P[i] := by simp [hi]
  rw [this]; simp
end Go.Proofs.Ytomhdopbbnmcnab
namespace Go.Proofs.Ytomhdopbbnmcnab
open Go.RowKit Go.Proofs.Ord

/-- What the program's Racy answers. -/
def RacyDSaid : Prop := ∀ (a : Option Addr) (n cap : Nat) (l : List Ev) (w : World), l.length = n → EvS w a l → n ≤ cap → cap ≤ maxLen → n ≤ 1048576 → ThR l →
  Calls Try.prog 30 #[.slice a n cap] w fun e w' => ∃ a' cap', e = .returned (.slice a' n cap') ∧ BoolS w' a' n (racy (ev l)) ∧ Below w.heap.size w w'
/-- It lies in no block below B. -/
def NewAt (B : Nat) (a : Option Addr) : Prop := ∀ b off, a = some ⟨b, off, none⟩ → B ≤ b
/-- The same, and that what is answered is new. -/
def RacyNSaid : Prop := ∀ (a : Option Addr) (n cap : Nat) (l : List Ev) (w : World), l.length = n → EvS w a l → n ≤ cap → cap ≤ maxLen → n ≤ 1048576 → ThR l →
  Calls Try.prog 30 #[.slice a n cap] w fun e w' => ∃ a' cap', e = .returned (.slice a' n cap') ∧ BoolS w' a' n (racy (ev l)) ∧ NewAt w.heap.size a' ∧ Below w.heap.size w w'
theorem RacyNSaid.racy (h : RacyNSaid) : RacyDSaid := fun a n cap l w h1 h2 h3 h4 h5 h6 => (h a n cap l w h1 h2 h3 h4 h5 h6).mono fun _ _ ⟨a', cap', e1, e2, _, e3⟩ => ⟨a', cap', e1, e2, e3⟩
end Go.Proofs.Ytomhdopbbnmcnab
namespace Go.Proofs.Ytomhdopbbnmcnab
open Go.RowKit Go.Proofs.Ord

/-- Rows of numbers in new memory: A, C: where each lies, and its room. No two share a cell, nor lies one where the rows' list lies. -/
def RowsNew (B : Nat) (w : World) (a : Option Addr) (cap : Nat) (A : Nat → Option Addr) (C : Nat → Nat) (rows : List (List Int)) : Prop :=
  rows.length ≤ cap ∧ cap ≤ maxLen ∧
  (∀ i, i < rows.length → ∃ b off, a = some ⟨b, off, none⟩ ∧ B ≤ b ∧ b < w.heap.size ∧ w.cell? ⟨b, off + i, none⟩ = some (.slice (A i) (rows.getD i []).length (C i)) ∧ ∀ j bj oj, j < rows.length → A j = some ⟨bj, oj, none⟩ → 0 < (rows.getD j []).length → bj ≠ b) ∧
  (∀ i, i < rows.length → New B w (.slice (A i) (rows.getD i []).length (C i)) (rows.getD i [])) ∧
  ∀ i j, i < rows.length → j < rows.length → i ≠ j → ∀ bi oi bj oj ki kj, A i = some ⟨bi, oi, none⟩ → A j = some ⟨bj, oj, none⟩ → ki < (rows.getD i []).length → kj < (rows.getD j []).length → ¬ (bi = bj ∧ oi + ki = oj + kj)

def stampRows (l : List Ev) (th : Nat) : List (List Int) := (List.range l.length).map (stamp (ev l) th)
theorem stampRows_length (l : List Ev) (th : Nat) : (stampRows l th).length = l.length := by simp [stampRows]
theorem stampRows_getD (l : List Ev) (th j : Nat) (h : j < l.length) : (stampRows l th).getD j [] = stamp (ev l) th j := by simp [stampRows, h]

/-- What the program's Stamps answers. -/
def StampsSaid : Prop := ∀ (a : Option Addr) (n cap : Nat) (l : List Ev) (th : Nat) (w : World), l.length = n → EvS w a l → n ≤ cap → cap ≤ maxLen → n * 32 ≤ 140737488351232 → th ≤ 64 → ThR l →
  Calls Try.prog 24 #[.slice a n cap, .int .i64 (th : Int)] w fun e w' => ∃ a' cap' A C, e = .returned (.slice a' n cap') ∧ RowsNew w.heap.size w' a' cap' A C (stampRows l th) ∧ Below w.heap.size w w'

/-- One row, as it stands in a later world. -/
theorem RowsNew.row {B cap : Nat} {w w' : World} {a : Option Addr} {A : Nat → Option Addr} {C : Nat → Nat} {rows : List (List Int)} (h : RowsNew B w a cap A C rows) (hb : Below w.heap.size w w') (h8 : ∀ i, i < rows.length → (rows.getD i []).length ≤ 64) {i : Nat} (hi : i < rows.length) :
    ∃ b off, a = some ⟨b, off, none⟩ ∧ b < w'.heap.size ∧ w'.cell? ⟨b, off + i, none⟩ = some (.slice (A i) (rows.getD i []).length (C i)) ∧ SlV w' (A i) (rows.getD i []).length (C i) (rows.getD i []) := by
  obtain ⟨b, off, e1, e2, e3, e4, _⟩ := h.2.2.1 i hi
  have hs := (h.2.2.2.1 i hi).slV (by have := h8 i hi; omega)
  exact ⟨b, off, e1, by have := hb.size; omega, (hb.cell (p := ⟨b, off + i, none⟩) e3).trans e4, hs.below hb⟩

def l3 : List Ev := [⟨0, 2, 0, 0⟩, ⟨1, 2, 0, 0⟩, ⟨0, 0, 0, 0⟩]
theorem thr3 : ThR l3 := by unfold ThR; decide +kernel
theorem rows3 : stampRows l3 2 = [[1], [0, 1], [2]] := by decide +kernel
theorem racy3a : racy (ev l3) 0 = false := by decide +kernel
theorem racy3b : racy (ev l3) 1 = true := by decide +kernel

set_option maxRecDepth 100000 in
set_option maxHeartbeats 1000000 in
theorem alive5_true (hSt : StampsSaid) (hRa : RacyDSaid) (w : World) : Calls Try.prog 25 #[] w fun e w' => e = .returned (.bool true) ∧ Below w.heap.size w w' := by
  have hs : EvS (w.alloc (.cells #[.int .i64 0, .int .i64 2, .int .i64 0, .int .i64 0, .int .i64 1, .int .i64 2, .int .i64 0, .int .i64 0, .int .i64 0, .int .i64 0, .int .i64 0, .int .i64 0] 48)) (some ⟨w.heap.size, 0, none⟩) l3 := evS_lit w _ l3 (by decide)
  have hb0 : Below w.heap.size w (w.alloc (.cells #[.int .i64 0, .int .i64 2, .int .i64 0, .int .i64 0, .int .i64 1, .int .i64 2, .int .i64 0, .int .i64 0, .int .i64 0, .int .i64 0, .int .i64 0, .int .i64 0] 48)) := (Below.refl _ _).alloc (Nat.le_refl _) _
  go_enter Try.func25, Try.ntmps25
  go_wp2_with fail
  refine (hSt _ 3 3 l3 2 _ rfl hs (by omega) (by unfold maxLen; omega) (by omega) (by omega) thr3).mono ?_
  rintro e w1 ⟨a1, cap1, A, C, rfl, hr, hb1⟩
  rw [rows3] at hr
  have hk1 : Below w.heap.size w w1 := hb0.trans (hb1.mono hb0.size)
  go_wp2_with fail
  refine (hRa _ 3 3 l3 _ rfl (hs.below hb1) (by omega) (by unfold maxLen; omega) (by omega) thr3).mono ?_
  rintro e w2 ⟨a2, cap2, rfl, hq, hb2⟩
  have hk2 : Hid (Below w.heap.size w w2) := hk1.trans (hb2.mono hk1.size)
  have h8 : ∀ i, i < [[(1 : Int)], [0, 1], [2]].length → ([[(1 : Int)], [0, 1], [2]].getD i []).length ≤ 64 := by decide
  obtain ⟨b, off, rfl, _, c0, s0⟩ := hr.row hb2 h8 (i := 0) (by decide)
  obtain ⟨b', off', e', _, c1, s1⟩ := hr.row hb2 h8 (i := 1) (by decide)
  cases e'
  obtain ⟨b', off', e', _, c2, s2⟩ := hr.row hb2 h8 (i := 2) (by decide)
  cases e'
  obtain ⟨bb, ob, rfl, _, q0⟩ := hq 0 (by omega)
  obtain ⟨b', off', e', _, q1⟩ := hq 1 (by omega)
  cases e'
  rw [racy3a] at q0
  rw [racy3b] at q1
  simp only [List.getD_cons_zero, List.getD_cons_succ, List.length_cons, List.length_nil, Nat.zero_add, Nat.reduceAdd, Nat.add_zero] at c0 c1 c2 s0 s1 s2 q0
  obtain ⟨b1, o1, hA1, _, d0⟩ := s1.2.2.2.2.1 0 (by simp)
  obtain ⟨b', off', e', _, d1⟩ := s1.2.2.2.2.1 1 (by simp)
  obtain ⟨b2, o2, hA2, _, d2⟩ := s2.2.2.2.2.1 0 (by simp)
  rw [hA1] at e' c1
  rw [hA2] at c2
  cases e'
  simp only [List.getD_cons_zero, List.getD_cons_succ, Nat.add_zero] at d0 d1 d2
  clear hs hb0 hb1 hb2 hr hq hk1 h8 s0 s1 s2 hA1 hA2
  go_wp2
  go_ret
  exact ⟨rfl, hk2.out⟩
theorem Try.infoi : (Try.prog.info? 3).map (fun i => (i.zero, i.size, i.bytes)) = some (some (.int .i64 0), 1, 8) := by kernel_rfl
theorem Try.infois : (Try.prog.info? 22).map (fun i => (i.zero, i.size, i.bytes)) = some (some (.slice none 0 0), 1, 24) := by kernel_rfl
/-- What the program's Stamps answers for numbers of threads that there are none of. -/
def StampsNoSaid : Prop := ∀ (a : Option Addr) (n cap : Nat) (l : List Ev) (th : Int) (w : World), l.length = n → EvS w a l → n ≤ cap → cap ≤ maxLen → n * 32 ≤ 140737488351232 → (th < 0 ∨ 64 < th) →
  Calls Try.prog 24 #[.slice a n cap, .int .i64 th] w fun e w' => e = .returned (.slice none 0 0) ∧ Below w.heap.size w w'
end Go.Proofs.Ytomhdopbbnmcnab
namespace Go.Proofs.Ytomhdopbbnmcnab
open Go.RowKit Go.Proofs.Ord

set_option maxHeartbeats 1000000 in
theorem rLeads_any (t k o v t' k' o' v' : Int) (w : World) :
    Calls Try.prog 69 #[.agg #[.int .i64 t, .int .i64 k, .int .i64 o, .int .i64 v], .agg #[.int .i64 t', .int .i64 k', .int .i64 o', .int .i64 v']] w fun e w' =>
      e = .returned (.bool (leads ⟨t, k, o, v⟩ ⟨t', k', o', v'⟩)) ∧ Below w.heap.size w w' := by
  have hb : Hid (∀ x y, Below w.heap.size w ((w.alloc x).alloc y)) := fun x y => ((Below.refl _ _).alloc (Nat.le_refl _) _).alloc (by simp) _
  rw [leads_mk]
  go_enter Try.func69, Try.ntmps69
  go_wp2
  all_goals
    go_ret
    exact ⟨o_ret_bool (by simp [*]), hb.out _ _⟩
theorem rAccess_any (t k o v : Int) (w : World) :
    Calls Try.prog 90 #[.agg #[.int .i64 t, .int .i64 k, .int .i64 o, .int .i64 v]] w fun e w' =>
      e = .returned (.bool (access ⟨t, k, o, v⟩)) ∧ Below w.heap.size w w' := by
  have hb : Hid (∀ x, Below w.heap.size w (w.alloc x)) := fun x => (Below.refl _ _).alloc (Nat.le_refl _) _
  rw [access_mk]
  go_enter Try.func90, Try.ntmps90
  go_wp2
  all_goals
    go_ret
    exact ⟨o_ret_bool (by simp [*]), hb.out _⟩
end Go.Proofs.Ytomhdopbbnmcnab
namespace Go.Proofs.Ytomhdopbbnmcnab
open Go.RowKit Go.Proofs.Ord
attribute [local go_sem ↓] Go.wp_at_zero Go.wp_at_succ

set_option maxHeartbeats 1000000 in
theorem rAfter_any (a : Option Addr) (n cap : Nat) (l : List Ev) (i : Nat) (w : World) (hn : l.length = n) (hs : EvS w a l) (hb : n * 32 ≤ 140737488351232) (hi : i < n) :
    Calls Try.prog 50 #[.slice a n cap, .int .i64 i] w fun e w' => e = .returned (.slice (some ⟨w.heap.size, 0, none⟩) n n) ∧ Tells w' w.heap.size w.heap.size n (bef (Ord.ev l) i) ∧ Below w.heap.size w w' := by
  obtain ⟨i0, hi0, hz0, hz1, hz2⟩ := info_parts Try.infob
  obtain ⟨b, off, rfl, hlt, _⟩ := hs i (by omega)
  go_enter Try.func50, Try.ntmps50
  go_wp2_with (at_make; refine wpList_make_full _ rfl _ _ 40 rfl w.heap.size 4 i0 (.bool false) 1 Try.underlying40 hi0 hz0 hz1 _ _ _ _ n rfl rfl (by first | rfl | simp) (by first | rfl | simp) (by rw [hz2]; omega) (by unfold maxLen; omega) (Nat.le_refl _) ?_; intro w1 hown hgrow)
  have ht1 : Hid (Tells w1 w.heap.size w.heap.size n (fun _ => false)) := by
    unfold Hid Tells
    have e : ((List.range n).map fun _ => Value.bool false) = (madeCells (Value.bool false).cells (n * 1)).toList := by
      rw [show (Value.bool false).cells = #[Value.bool false] from rfl, toList_madeCells_one, Nat.mul_one, List.map_const', List.length_range]
    rw [e]; exact hown
  have hb1 : Hid (Below w.heap.size w w1) := (Below.refl _ _).grown hgrow (Nat.le_refl _) (fun q e => by cases e)
  clear hown hgrow
  go_loopw [6] (fun jv wr => ∃ j : Nat, i + 1 ≤ j ∧ j ≤ n ∧ jv = .int .i64 j ∧ Tells wr w.heap.size w.heap.size n (fun q => decide (q < j) && bef (Ord.ev l) i q) ∧ Below w.heap.size w wr) (fun jv _ => n - (intOf jv).toNat)
  case atStart =>
    refine ⟨i + 1, Nat.le_refl _, by omega, by go_num, ht1.out.congr (fun q _ => ?_), hb1.out⟩
    by_cases hq : q < i + 1
    · rw [bef_ge (by omega), Bool.and_false]
    · simp [hq]
  case round =>
    obtain ⟨j, hj1, hj2, rfl, ht, hbel⟩ := hrel
    by_cases h5 : j < n
    · obtain ⟨t1, k1, o1, v1, HE1, c0, c1, c2, c3⟩ := hs.at hbel (i := i) (by omega)
      obtain ⟨t2, k2, o2, v2, HE2, d0, d1, d2, d3⟩ := hs.at hbel (i := j) (by omega)
      have hsz := hbel.size
      have hBlt : w.heap.size < wr.heap.size := (World.ownsRow.lt ht _ rfl).2
      have hcj := ht.cell h5
      have hfj := ht.frozen j
      have hset : ∀ (W : World) (x : Value) (o : Nat), (W.setCell ⟨w.heap.size, j, none⟩ x).cell? ⟨b, o, none⟩ = W.cell? ⟨b, o, none⟩ := fun W x o => World.cell?_setCell_other _ _ _ _ (by intro e; cases e; omega)
      go_wp2_with fail
      go_region_held3 (fun w' => w'.cell? ⟨b, off + i * 4, none⟩ = some (.int .i64 t1) ∧ w'.cell? ⟨b, off + i * 4 + 1, none⟩ = some (.int .i64 k1) ∧ w'.cell? ⟨b, off + i * 4 + 2, none⟩ = some (.int .i64 o1) ∧ w'.cell? ⟨b, off + i * 4 + 3, none⟩ = some (.int .i64 v1) ∧ w'.cell? ⟨b, off + j * 4, none⟩ = some (.int .i64 t2) ∧ w'.cell? ⟨b, off + j * 4 + 1, none⟩ = some (.int .i64 k2) ∧ w'.cell? ⟨b, off + j * 4 + 2, none⟩ = some (.int .i64 o2) ∧ w'.cell? ⟨b, off + j * 4 + 3, none⟩ = some (.int .i64 v2)) (go_keep) ((go_at_call 69; refine (rLeads_any _ _ _ _ _ _ _ _ _).mono ?_; rintro e w2 ⟨rfl, hbel2⟩; obtain ⟨hcc, hff⟩ := bcell hbel2; have hcb := fun o => hcc b o (by simp; omega); have hcg := fun o => hcc w.heap.size o (by simp; omega); have hfg := fun o => hff w.heap.size o (by simp; omega); clear hcc hff))
      have hbel3 : Below w.heap.size w w2 := hbel.drew.trans (hbel2.mono (by simp; omega))
      have ht3 : Tells w2 w.heap.size w.heap.size n (fun q => decide (q < j) && bef (Ord.ev l) i q) := Tells.below (B' := wr.heap.size) ht (Below.trans (Below.refl _ wr).drew hbel2) hBlt
      have ht4 : Hid (Tells (w2.setCell ⟨w.heap.size, j, none⟩ (.bool (leads ⟨t1, k1, o1, v1⟩ ⟨t2, k2, o2, v2⟩))) w.heap.size w.heap.size n (fun q => if q = j then Ord.part (Ord.ev l) i j (i + 1) else decide (q < j) && bef (Ord.ev l) i q)) := by
        refine (ht3.stored j _).congr (fun q _ => ?_)
        rw [part_start, HE1.out, HE2.out]
      have hb4 : Hid (Below w.heap.size w (w2.setCell ⟨w.heap.size, j, none⟩ (.bool (leads ⟨t1, k1, o1, v1⟩ ⟨t2, k2, o2, v2⟩)))) := hbel3.setCell (Nat.le_refl _) _
      clear ht ht3 hbel hbel2 hbel3 c0 c1 c2 c3 d0 d1 d2 d3 hcj hfj hset hcb hcg hfg HE1
      go_wp2
      go_loopw [7] (fun kv wr => ∃ k : Nat, i + 1 ≤ k ∧ k ≤ j ∧ kv = .int .i64 k ∧ Tells wr w.heap.size w.heap.size n (fun q => if q = j then Ord.part (Ord.ev l) i j k else decide (q < j) && bef (Ord.ev l) i q) ∧ Below w.heap.size w wr) (fun kv _ => j - (intOf kv).toNat)
      case atStart => exact ⟨i + 1, Nat.le_refl _, hj1, by go_num, ht4.out, hb4.out⟩
      case round =>
        obtain ⟨k, hk1, hk2, rfl, ht, hbel⟩ := hrel
        have hsz := hbel.size
        have hBlt : w.heap.size < wr.heap.size := (World.ownsRow.lt ht _ rfl).2
        by_cases h6 : k < j
        · have hck := ht.cell (j := k) (by omega)
          have ek : (if k = j then Ord.part (Ord.ev l) i j k else decide (k < j) && bef (Ord.ev l) i k) = bef (Ord.ev l) i k := by
            rw [if_neg (by omega)]; simp [h6]
          rw [ek] at hck
          clear ek
          obtain ⟨t3, k3, o3, v3, HE3, c0, c1, c2, c3⟩ := hs.at hbel (i := k) (by omega)
          obtain ⟨t4, k4, o4, v4, HE4, d0, d1, d2, d3⟩ := hs.at hbel (i := j) (by omega)
          have HP := o_hide (part_succ (Ord.ev l) i j k (by omega))
          cases hbk : bef (Ord.ev l) i k with
          | false =>
            rw [hbk] at hck
            have ht5 : Hid (Tells wr w.heap.size w.heap.size n (fun q => if q = j then Ord.part (Ord.ev l) i j (k + 1) else decide (q < j) && bef (Ord.ev l) i q)) := by
              refine ht.congr (fun q _ => ?_)
              rw [HP.out, hbk, Bool.false_and, Bool.or_false]
            clear hbk HP ht
            go_wp2_with fail
            go_quiet (fail)
            go_wp2
            go_roundw
            case rel => exact ⟨k + 1, by omega, by omega, by go_num, ht5.out, o_drewN hbel _⟩
            case measure => simp [intOf]; omega
          | true =>
            rw [hbk] at hck
            have hcj := ht.cell h5
            have hfj := ht.frozen j
            have e1 : Hid (Ord.part (Ord.ev l) i j (k + 1) = (Ord.part (Ord.ev l) i j k || leads ⟨t3, k3, o3, v3⟩ ⟨t4, k4, o4, v4⟩)) := by
              unfold Hid; rw [HP.out, hbk, Bool.true_and, HE3.out, HE4.out]
            clear hbk HP HE3 HE4
            have hkn : (k : Int) < (n : Int) := by omega
            have hjn : (j : Int) < (n : Int) := by omega
            go_wp2_with fail
            go_region_held3 (fun w' => w'.cell? ⟨w.heap.size, k, none⟩ = some (.bool true) ∧ w'.cell? ⟨b, off + k * 4, none⟩ = some (.int .i64 t3) ∧ w'.cell? ⟨b, off + k * 4 + 1, none⟩ = some (.int .i64 k3) ∧ w'.cell? ⟨b, off + k * 4 + 2, none⟩ = some (.int .i64 o3) ∧ w'.cell? ⟨b, off + k * 4 + 3, none⟩ = some (.int .i64 v3) ∧ w'.cell? ⟨b, off + j * 4, none⟩ = some (.int .i64 t4) ∧ w'.cell? ⟨b, off + j * 4 + 1, none⟩ = some (.int .i64 k4) ∧ w'.cell? ⟨b, off + j * 4 + 2, none⟩ = some (.int .i64 o4) ∧ w'.cell? ⟨b, off + j * 4 + 3, none⟩ = some (.int .i64 v4)) (go_keep) ((go_at_call 69; refine (rLeads_any _ _ _ _ _ _ _ _ _).mono ?_; rintro e w2 ⟨rfl, hbel2⟩; obtain ⟨hcc, hff⟩ := bcell hbel2; have hcb := fun o => hcc b o (by simp; omega); have hcg := fun o => hcc w.heap.size o (by simp; omega); have hfg := fun o => hff w.heap.size o (by simp; omega); clear hcc hff))
            have hbel3 : Below w.heap.size w w2 := hbel.drew.trans (hbel2.mono (by simp; omega))
            have ht3 := Tells.below (B' := wr.heap.size) ht (Below.trans (Below.refl _ wr).drew hbel2) hBlt
            cases hL : leads ⟨t3, k3, o3, v3⟩ ⟨t4, k4, o4, v4⟩ with
            | true =>
              have ht4 : Hid (Tells (w2.setCell ⟨w.heap.size, j, none⟩ (.bool true)) w.heap.size w.heap.size n (fun q => if q = j then Ord.part (Ord.ev l) i j (k + 1) else decide (q < j) && bef (Ord.ev l) i q)) := by
                refine (ht3.stored j true).congr (fun q _ => ?_)
                rw [e1.out, hL, Bool.or_true]
                by_cases e : q = j <;> simp [e]
              have hb4 : Hid (Below w.heap.size w (w2.setCell ⟨w.heap.size, j, none⟩ (.bool true))) := hbel3.setCell (Nat.le_refl _) _
              clear ht ht3 hbel hbel2 hbel3 c0 c1 c2 c3 d0 d1 d2 d3
              go_wp2
              go_roundw
              case rel => exact ⟨k + 1, by omega, by omega, by go_num, ht4.out, hb4.out⟩
              case measure => simp [intOf]; omega
            | false =>
              have ht4 : Hid (Tells w2 w.heap.size w.heap.size n (fun q => if q = j then Ord.part (Ord.ev l) i j (k + 1) else decide (q < j) && bef (Ord.ev l) i q)) := by
                refine ht3.congr (fun q _ => ?_)
                rw [e1.out, hL, Bool.or_false]
              have hb4 : Hid (Below w.heap.size w w2) := hbel3
              clear ht ht3 hbel hbel2 hbel3 c0 c1 c2 c3 d0 d1 d2 d3 hcj hfj
              go_wp2
              go_roundw
              case rel => exact ⟨k + 1, by omega, by omega, by go_num, ht4.out, hb4.out⟩
              case measure => simp [intOf]; omega
        · have hkj : k = j := by omega
          have ht5 : Hid (Tells wr w.heap.size w.heap.size n (fun q => decide (q < j + 1) && bef (Ord.ev l) i q)) := by
            refine ht.congr (fun q _ => ?_)
            by_cases e : q = j
            · subst e; rw [if_pos rfl, hkj, part_all _ _ _ (by omega)]; simp
            · rw [if_neg e]
              have : decide (q < j) = decide (q < j + 1) := by by_cases h : q < j <;> simp [h] <;> omega
              rw [this]
          clear hkj ht
          go_wp2
          go_roundw
          case rel => exact ⟨j + 1, by omega, by omega, by go_num, ht5.out, hbel⟩
          case measure => simp [intOf]; omega
    · have hjn : j = n := by omega
      have hfin : Hid (Tells wr w.heap.size w.heap.size n (bef (Ord.ev l) i)) := ht.congr (fun q hq => by simp; intro; omega)
      clear hjn ht
      go_wp2
      go_ret
      exact ⟨rfl, hfin.out, hbel⟩
end Go.Proofs.Ytomhdopbbnmcnab
namespace Go.Proofs.Ytomhdopbbnmcnab
open Go.RowKit Go.Proofs.Ord

set_option maxHeartbeats 1000000 in
theorem rConflict_any (t k o v t' k' o' v' : Int) (w : World) :
    Calls Try.prog 74 #[.agg #[.int .i64 t, .int .i64 k, .int .i64 o, .int .i64 v], .agg #[.int .i64 t', .int .i64 k', .int .i64 o', .int .i64 v']] w fun e w' =>
      e = .returned (.bool (conflict ⟨t, k, o, v⟩ ⟨t', k', o', v'⟩)) ∧ Below w.heap.size w w' := by
  have hb2 : Hid (∀ x y z, Below w.heap.size w (((w.alloc x).alloc y).alloc z)) := fun x y z => (((Below.refl _ _).alloc (Nat.le_refl _) _).alloc (by simp) _).alloc (by simp; omega) _
  have hb3 : Hid (∀ x y z u, Below w.heap.size w ((((w.alloc x).alloc y).alloc z).alloc u)) := fun x y z u => ((((Below.refl _ _).alloc (Nat.le_refl _) _).alloc (by simp) _).alloc (by simp; omega) _).alloc (by simp; omega) _
  rw [conflict_mk, access_mk, access_mk]
  go_enter Try.func74, Try.ntmps74
  go_wp2
  all_goals
    go_ret
    refine ⟨o_ret_bool (by simp [*]), ?_⟩
    first | exact hb2.out _ _ _ | exact hb3.out _ _ _ _
end Go.Proofs.Ytomhdopbbnmcnab
namespace Go.Proofs.Ytomhdopbbnmcnab
open Go.RowKit Go.Proofs.Ord
attribute [local go_sem ↓] Go.wp_at_zero Go.wp_at_succ

theorem Try.infobs : (Try.prog.info? 40).map (fun i => (i.zero, i.size, i.bytes)) = some (some (.slice none 0 0), 1, 24) := by kernel_rfl
theorem Try.infop : (Try.prog.info? 71).map (fun i => (i.zero, i.size, i.bytes)) = some (some (.agg #[.int .i64 0, .int .i64 0]), 2, 16) := by kernel_rfl

/-- Row q tells which events event q is before. -/
def Befs (w : World) (B n : Nat) (L : Nat → Ev) (v : Value) (k : Nat) (g : Nat → Nat) : Prop :=
  w.ownsRow B 40 1 v k ((List.range k).map fun q => Value.slice (some ⟨g q, 0, none⟩) n n) ∧ ∀ q, q < k → Tells w B (g q) n (bef L q) ∧ v.ownBlock ≠ some (g q)

theorem Befs.start (w : World) (B n : Nat) (L : Nat → Ev) : Befs w B n L (.slice none 0 0) 0 (fun _ => 0) :=
  ⟨World.ownsRow_nil _ _ _ _, fun q hq => absurd hq (by omega)⟩

theorem Befs.step {B n k : Nat} {L : Nat → Ev} {wr w2 w3 : World} {v v' : Value} {g : Nat → Nat} {o : Obj} (h : Befs wr B n L v k g) (hb : Below wr.heap.size wr w2) (ht : Tells w2 wr.heap.size wr.heap.size n (bef L k)) (hB : B ≤ wr.heap.size)
    (hown : w3.ownsRow B 40 1 v' (k + 1) (((List.range k).map fun q => Value.slice (some ⟨g q, 0, none⟩) n n) ++ [.slice (some ⟨wr.heap.size, 0, none⟩) n n])) (hg : (w2.alloc o).grownBy w3 v.ownBlock) (hat : v'.ownBlock = v.ownBlock ∨ v'.ownBlock = some (w2.alloc o).heap.size) :
    Befs w3 B n L v' (k + 1) (fun q => if q = k then wr.heap.size else g q) := by
  have hv : ∀ x, v.ownBlock = some x → x < wr.heap.size := fun x e => (h.1.lt x e).2
  have hlt2 : wr.heap.size < w2.heap.size := (World.ownsRow.lt ht _ rfl).2
  have hsz2 : (w2.alloc o).heap.size = w2.heap.size + 1 := by simp
  have hgq : ∀ q, q < k → g q < wr.heap.size := fun q hq => (World.ownsRow.lt (h.2 q hq).1 _ rfl).2
  refine ⟨?_, fun q hq => ?_⟩
  · have e : ((List.range (k + 1)).map fun q => Value.slice (some ⟨if q = k then wr.heap.size else g q, 0, none⟩) n n) = ((List.range k).map fun q => Value.slice (some ⟨g q, 0, none⟩) n n) ++ [.slice (some ⟨wr.heap.size, 0, none⟩) n n] := by
      rw [List.range_succ, List.map_append]
      congr 1
      · apply List.map_congr_left
        intro q hq
        rw [List.mem_range] at hq
        rw [if_neg (by omega)]
      · simp
    rw [e]; exact hown
  · by_cases e : q = k
    · subst e
      simp only [if_true]
      refine ⟨?_, ?_⟩
      · have h1 := ownsRow_base ht hB
        have h2 := h1.alloc o
        exact h2.kept hg (.inr (fun e => by have := hv wr.heap.size (by rw [← e]; rfl); omega))
      · rcases hat with e | e
        · rw [e]; intro e2; have := hv _ e2; omega
        · rw [e]; intro e2; have := Option.some.inj e2; omega
    · simp only [e, if_false]
      have hq' : q < k := by omega
      obtain ⟨h1, h2⟩ := h.2 q hq'
      refine ⟨?_, ?_⟩
      · exact World.ownsRow.kept (World.ownsRow.alloc (Tells.below h1 hb (hgq q hq')) o) hg (.inr (fun e => h2 e.symm))
      · rcases hat with e | e
        · rw [e]; exact h2
        · rw [e]; intro e2; have := Option.some.inj e2; have := hgq q hq'; omega

theorem Befs.below {B B' n k : Nat} {L : Nat → Ev} {w w' : World} {v : Value} {g : Nat → Nat} (h : Befs w B n L v k g) (hb : Below B' w w') (hB : w.heap.size ≤ B') : Befs w' B n L v k g :=
  ⟨ownsRow_below h.1 hb (fun x e => Nat.lt_of_lt_of_le (h.1.lt x e).2 hB), fun q hq => ⟨Tells.below (h.2 q hq).1 hb (Nat.lt_of_lt_of_le (World.ownsRow.lt (h.2 q hq).1 _ rfl).2 hB), (h.2 q hq).2⟩⟩

theorem Befs.cell {B n k ga ca : Nat} {L : Nat → Ev} {w : World} {g : Nat → Nat} (h : Befs w B n L (.slice (some ⟨ga, 0, none⟩) k ca) k g) {q : Nat} (hq : q < k) : w.cell? ⟨ga, q, none⟩ = some (.slice (some ⟨g q, 0, none⟩) n n) := by
  rw [World.ownsRow.cellAt h.1 q (by omega)]
  simp [hq]

theorem rConflict_as {t k o v t' k' o' v' : Int} {c : Bool} (h : conflict ⟨t, k, o, v⟩ ⟨t', k', o', v'⟩ = c) (w : World) :
    Calls Try.prog 74 #[.agg #[.int .i64 t, .int .i64 k, .int .i64 o, .int .i64 v], .agg #[.int .i64 t', .int .i64 k', .int .i64 o', .int .i64 v']] w fun e w' =>
      e = .returned (.bool c) ∧ Below w.heap.size w w' := by
  rw [← h]; exact rConflict_any _ _ _ _ _ _ _ _ _

set_option maxRecDepth 100000 in
set_option maxHeartbeats 2000000 in
theorem rRaces_any (a : Option Addr) (n cap : Nat) (l : List Ev) (w : World) (hn : l.length = n) (hs : EvS w a l) (hb : n ≤ 1048576) :
    Calls Try.prog 55 #[.slice a n cap] w fun e w' => ∃ v, e = .returned v ∧ w'.ownsRow w.heap.size 71 2 v (racesTo (Ord.ev l) n).length (pairCells (racesTo (Ord.ev l) n)) ∧ Below w.heap.size w w' := by
  obtain ⟨i0, hi0, hz0, hz1, hz2⟩ := info_parts Try.infobs
  obtain ⟨i1, hi1, hy0, hy1, hy2⟩ := info_parts Try.infop
  go_enter Try.func55, Try.ntmps55
  go_wp2
  go_loopw [3, 4, 5] (fun v i _ wr => ∃ (k : Nat) (g : Nat → Nat), k ≤ n ∧ i = .int .i64 k ∧ Befs wr w.heap.size n (Ord.ev l) v k g ∧ Below w.heap.size w wr) (fun _ i _ _ => n - (intOf i).toNat)
  case atStart => exact ⟨0, _, Nat.zero_le _, rfl, Befs.start _ _ _ _, Below.refl _ _⟩
  case round =>
    obtain ⟨k, g, hk, rfl, hf, hbel⟩ := hrel
    have hsz := hbel.size
    by_cases h5 : k < n
    · have hs2 := hs.below hbel
      have hown := hf.1
      go_wp2_with (first | (go_at_call 50; refine (rAfter_any _ _ _ _ _ _ hn hs2 (by omega) h5).mono ?_; rintro e w2 ⟨rfl, ht2, hbel2⟩; have hown2 := ownsRow_below hown hbel2 (fun q e => (hown.lt q e).2); have hsz2 := hbel2.size) | (at_builtin; refine wpList_append_own_at _ rfl _ _ 107 rfl w.heap.size 40 i0 (.slice none 0 0) 1 24 Try.underlying107 hi0 hz0 hz1 hz2 rfl (by decide) _ _ _ rfl (hown2.alloc _) ⟨_, 0, none⟩ 1 1 [_] rfl rfl (cell_one_new _ _ _) (by simp [Value.oneCell']) (by unfold maxLen; omega) (by omega) (by simp; omega) ?_; intro v' w3 hown' hgrow _ hat))
      have hf2 := hf.step hbel2 ht2 hsz hown' hgrow hat
      have hbel3 : Below w.heap.size w w3 := ((hbel.trans (hbel2.mono hsz)).alloc (by omega) _).grown hgrow (by simp; omega) (fun q e => (hown.lt q e).1)
      go_roundw
      case rel => exact ⟨k + 1, _, by omega, by go_num, hf2, hbel3⟩
      case measure => simp [intOf]; omega
    · obtain rfl : k = n := by omega
      rename World => w4
      obtain ⟨B2, hB2⟩ : ∃ B2, Hid (B2 = w4.heap.size) := ⟨_, rfl⟩
      have hsz2 : w.heap.size ≤ B2 := by rw [hB2.out]; exact hsz
      go_wp2
      go_loopw [6, 7, 8] (fun v jv _ w5 => ∃ j : Nat, j ≤ k ∧ jv = .int .i64 j ∧ w5.ownsRow B2 71 2 v (racesTo (Ord.ev l) j).length (pairCells (racesTo (Ord.ev l) j)) ∧ Below B2 w4 w5) (fun _ jv _ _ => k - (intOf jv).toNat)
      case atStart => exact ⟨0, Nat.zero_le _, rfl, World.ownsRow_nil _ _ _ _, Below.refl _ _⟩
      case round =>
        obtain ⟨j, hj, rfl, hp, hbj⟩ := hrel
        by_cases h6 : j < k
        · obtain ⟨ga, ca, rfl, _, hga⟩ := hf.1.form (by omega)
          obtain ⟨b, off, rfl, hlt, _⟩ := hs j (by omega)
          have hl1 := racesTo_length (Ord.ev l) j
          have hl2 : (racesTo (Ord.ev l) j).length ≤ 1099511627776 := Nat.le_trans hl1 (Nat.le_trans (Nat.mul_le_mul (by omega) (by omega) : j * j ≤ 1048576 * 1048576) (by omega))
          clear hl1
          go_wp2
          go_loopw [6, 8] (fun v iv w5 => ∃ q : Nat, q ≤ j ∧ iv = .int .i64 q ∧ w5.ownsRow B2 71 2 v ((racesTo (Ord.ev l) j).length + (racesOf (Ord.ev l) j q).length) (pairCells (racesTo (Ord.ev l) j ++ racesOf (Ord.ev l) j q)) ∧ Below B2 w4 w5) (fun _ iv _ => j - (intOf iv).toNat)
          case atStart => exact ⟨0, Nat.zero_le _, rfl, by simpa [racesOf] using hp, hbj⟩
          case round =>
            clear hp hbj
            obtain ⟨q, hq, rfl, hp, hbj⟩ := hrel
            have hszj := hbj.size
            have hszB : B2 ≤ wr.heap.size := by rw [hB2.out]; exact hszj
            by_cases h7 : q < j
            · have hbw : Below w.heap.size w wr := hbel.trans (hbj.mono hsz2)
              have hfj := hf.below hbj (by rw [hB2.out]; exact Nat.le_refl _)
              have hall := hfj.cell (q := q) (by omega)
              have hbit := (hfj.2 q (by omega)).1.cell (j := j) h6
              obtain ⟨t1, k1, o1, v1, HE1, c0, c1, c2, c3⟩ := hs.at hbw (i := q) (by omega)
              obtain ⟨t2, k2, o2, v2, HE2, d0, d1, d2, d3⟩ := hs.at hbw (i := j) (by omega)
              have HR := o_hide (racesOf_succ (Ord.ev l) j q)
              have HC : Hid (race (Ord.ev l) q j = (conflict ⟨t1, k1, o1, v1⟩ ⟨t2, k2, o2, v2⟩ && !bef (Ord.ev l) q j)) := by unfold Hid race; rw [HE1.out, HE2.out]
              have hqk : (q : Int) < (k : Int) := by omega
              have hjk : (j : Int) < (k : Int) := by omega
              have hgq : g q < wr.heap.size := (World.ownsRow.lt (hfj.2 q (by omega)).1 _ rfl).2
              have hgalt : ga < wr.heap.size := (hfj.1.lt _ rfl).2
              have hblt : b < wr.heap.size := by omega
              clear hfj hbw HE1 HE2
              cases hc : conflict ⟨t1, k1, o1, v1⟩ ⟨t2, k2, o2, v2⟩ with
              | false =>
                rw [hc, Bool.false_and] at HC
                have hp2 : Hid (∀ w2 : World, Below wr.heap.size wr w2 → w2.ownsRow B2 71 2 u6 ((racesTo (Ord.ev l) j).length + (racesOf (Ord.ev l) j (q + 1)).length) (pairCells (racesTo (Ord.ev l) j ++ racesOf (Ord.ev l) j (q + 1)))) := by
                  intro w2 hb2
                  rw [HR.out, HC.out]
                  simp only [Bool.false_eq_true, if_false, List.append_nil]
                  exact ownsRow_below hp hb2 (fun x e => (hp.lt x e).2)
                have HCF := o_hide hc
                clear HC HR hp hbit hall hc
                go_wp2_with fail
                first | (go_region_with (go_at_call 74; refine (rConflict_as HCF.out _).mono ?_; rintro e w2 ⟨rfl, hbel2⟩)) | fail
                all_goals
                  have hb3 : Below wr.heap.size wr w2 := Below.trans (Below.refl _ wr).drew hbel2
                  have hp3 := hp2.out _ hb3
                  have hb4 : Below B2 w4 w2 := hbj.trans (hb3.mono hszB)
                  clear hbel2 hb3 hbj hp2 c0 c1 c2 c3 d0 d1 d2 d3
                  go_wp2
                  go_roundw
                  case rel => exact ⟨q + 1, by omega, by go_num, hp3, hb4⟩
                  case measure => simp [intOf]; omega
              | true =>
                rw [hc, Bool.true_and] at HC
                cases hbt : bef (Ord.ev l) q j with
                | true =>
                  rw [hbt] at hbit HC
                  have hp2 : Hid (∀ w2 : World, Below wr.heap.size wr w2 → w2.ownsRow B2 71 2 u6 ((racesTo (Ord.ev l) j).length + (racesOf (Ord.ev l) j (q + 1)).length) (pairCells (racesTo (Ord.ev l) j ++ racesOf (Ord.ev l) j (q + 1)))) := by
                    intro w2 hb2
                    rw [HR.out, HC.out]
                    simp only [Bool.not_true, Bool.false_eq_true, if_false, List.append_nil]
                    exact ownsRow_below hp hb2 (fun x e => (hp.lt x e).2)
                  have HCF := o_hide hc
                  clear HC HR hp hc hbt
                  go_wp2_with fail
                  go_region_held3 (fun w' => w'.cell? ⟨ga, q, none⟩ = some (.slice (some ⟨g q, 0, none⟩) k k) ∧ w'.cell? ⟨g q, j, none⟩ = some (.bool true) ∧ w'.cell? ⟨b, off + q * 4, none⟩ = some (.int .i64 t1) ∧ w'.cell? ⟨b, off + q * 4 + 1, none⟩ = some (.int .i64 k1) ∧ w'.cell? ⟨b, off + q * 4 + 2, none⟩ = some (.int .i64 o1) ∧ w'.cell? ⟨b, off + q * 4 + 3, none⟩ = some (.int .i64 v1) ∧ w'.cell? ⟨b, off + j * 4, none⟩ = some (.int .i64 t2) ∧ w'.cell? ⟨b, off + j * 4 + 1, none⟩ = some (.int .i64 k2) ∧ w'.cell? ⟨b, off + j * 4 + 2, none⟩ = some (.int .i64 o2) ∧ w'.cell? ⟨b, off + j * 4 + 3, none⟩ = some (.int .i64 v2)) (go_keep) ((go_at_call 74; refine (rConflict_as HCF.out _).mono ?_; rintro e w2 ⟨rfl, hbel2⟩; obtain ⟨hcc, hff⟩ := bcell hbel2; have hcb := fun o => hcc b o (by simp; omega); have hca := fun o => hcc ga o (by simp; omega); have hcg := fun o => hcc (g q) o (by simp; omega); clear hcc hff))
                  have hb3 : Below wr.heap.size wr w2 := Below.trans (Below.refl _ wr).drew hbel2
                  have hp3 := hp2.out _ hb3
                  have hb4 : Below B2 w4 w2 := hbj.trans (hb3.mono hszB)
                  clear hbel2 hb3 hbj hp2 c0 c1 c2 c3 d0 d1 d2 d3 hcb hca hcg hall hbit
                  go_wp2
                  go_roundw
                  case rel => exact ⟨q + 1, by omega, by go_num, hp3, hb4⟩
                  case measure => simp [intOf]; omega
                | false =>
                  rw [hbt] at hbit HC
                  have hol := racesOf_length (Ord.ev l) j q
                  have hp2 : Hid (∀ (v' : Value) (w3 : World), w3.ownsRow B2 71 2 v' ((racesTo (Ord.ev l) j).length + (racesOf (Ord.ev l) j q).length + 1) (pairCells (racesTo (Ord.ev l) j ++ racesOf (Ord.ev l) j q) ++ [.int .i64 (q : Int), .int .i64 (j : Int)]) → w3.ownsRow B2 71 2 v' ((racesTo (Ord.ev l) j).length + (racesOf (Ord.ev l) j (q + 1)).length) (pairCells (racesTo (Ord.ev l) j ++ racesOf (Ord.ev l) j (q + 1)))) := by
                    intro v' w3 h
                    rw [HR.out, HC.out]
                    simp only [Bool.not_false, if_true]
                    rw [← List.append_assoc, pairCells_snoc, List.length_append]
                    exact h
                  have HCF := o_hide hc
                  clear HC HR hc hbt
                  go_wp2_with fail
                  go_region_held3 (fun w' => w'.cell? ⟨ga, q, none⟩ = some (.slice (some ⟨g q, 0, none⟩) k k) ∧ w'.cell? ⟨g q, j, none⟩ = some (.bool false) ∧ w'.cell? ⟨b, off + q * 4, none⟩ = some (.int .i64 t1) ∧ w'.cell? ⟨b, off + q * 4 + 1, none⟩ = some (.int .i64 k1) ∧ w'.cell? ⟨b, off + q * 4 + 2, none⟩ = some (.int .i64 o1) ∧ w'.cell? ⟨b, off + q * 4 + 3, none⟩ = some (.int .i64 v1) ∧ w'.cell? ⟨b, off + j * 4, none⟩ = some (.int .i64 t2) ∧ w'.cell? ⟨b, off + j * 4 + 1, none⟩ = some (.int .i64 k2) ∧ w'.cell? ⟨b, off + j * 4 + 2, none⟩ = some (.int .i64 o2) ∧ w'.cell? ⟨b, off + j * 4 + 3, none⟩ = some (.int .i64 v2)) (go_keep) ((go_at_call 74; refine (rConflict_as HCF.out _).mono ?_; rintro e w2 ⟨rfl, hbel2⟩; obtain ⟨hcc, hff⟩ := bcell hbel2; have hcb := fun o => hcc b o (by simp; omega); have hca := fun o => hcc ga o (by simp; omega); have hcg := fun o => hcc (g q) o (by simp; omega); clear hcc hff))
                  have hb3 : Below wr.heap.size wr w2 := Below.trans (Below.refl _ wr).drew hbel2
                  have hp3 := ownsRow_below hp hb3 (fun x e => (hp.lt x e).2)
                  have hb4 : Below B2 w4 w2 := hbj.trans (hb3.mono hszB)
                  have hsz3 := hb3.size
                  clear hbel2 hb3 hbj c0 c1 c2 c3 d0 d1 d2 d3 hcb hca hcg hall hbit
                  go_wp2_with (at_builtin; refine wpList_append_own _ rfl _ _ 68 rfl B2 71 i1 (.agg #[.int .i64 0, .int .i64 0]) 2 16 Try.underlying68 hi1 hy0 hy1 hy2 rfl (by decide) _ _ _ rfl (hp3.alloc _) ⟨_, 0, none⟩ 1 1 [_, _] rfl rfl (two_new _ _ _ _) (by simp [Value.oneCell']) (by unfold maxLen; omega) (by omega) (by simp; omega) ?_; intro v' w3 hown' hgrow _)
                  have hp4 := hp2.out _ _ hown'
                  have hb5 : Below B2 w4 w3 := (hb4.alloc (by omega) _).grown hgrow (by simp; omega) (fun x e => (hp3.lt x e).1)
                  clear hown' hgrow hp3 hp2 hb4 hp
                  go_wp2
                  go_roundw
                  case rel => exact ⟨q + 1, by omega, by go_num, hp4, hb5⟩
                  case measure => simp [intOf]; omega
            · obtain rfl : q = j := by omega
              have e : Hid (racesTo (Ord.ev l) (q + 1) = racesTo (Ord.ev l) q ++ racesOf (Ord.ev l) q q) := rfl
              have hp2 : Hid (wr.ownsRow B2 71 2 u6 (racesTo (Ord.ev l) (q + 1)).length (pairCells (racesTo (Ord.ev l) (q + 1)))) := by
                unfold Hid; rw [e.out, List.length_append]; exact hp
              clear hp e
              go_wp2
              go_roundw
              case rel => exact ⟨q + 1, by omega, by go_num, hp2.out, hbj⟩
              case measure => simp [intOf]; omega
        · obtain rfl : j = k := by omega
          have hfin : Hid (Below w.heap.size w wr) := hbel.trans (hbj.mono hsz2)
          go_wp2
          go_ret
          exact ⟨_, rfl, ownsRow_base hp hsz2, hfin.out⟩
end Go.Proofs.Ytomhdopbbnmcnab
namespace Go.Proofs.Ytomhdopbbnmcnab
open Go.RowKit Go.Proofs.Ord

set_option maxHeartbeats 1000000 in
theorem kept_true (a : Option Addr) (n cap : Nat) (a' : Option Addr) (cap' : Nat) (l : List Ev) (w : World) (hn : l.length = n) (hs : EvS w a l) (hs' : EvS w a' l) (hb : n * 32 ≤ 140737488351232) :
    Calls Try.prog 29 #[.slice a n cap, .slice a' n cap'] w fun e w' => e = .returned (.bool true) ∧ Below w.heap.size w w' := by
  go_enter Try.func29, Try.ntmps29
  go_wp2
  go_loopw [5] (fun i wr => ∃ k : Nat, k ≤ n ∧ i = .int .i64 k ∧ Below w.heap.size w wr) (fun i _ => n - (intOf i).toNat)
  case atStart => exact ⟨0, Nat.zero_le _, rfl, Below.refl _ _⟩
  case round =>
    obtain ⟨k, hk, rfl, hbel⟩ := hrel
    by_cases h5 : k < n
    · obtain ⟨b, off, rfl, hlt, _⟩ := hs k (by omega)
      obtain ⟨b', off', rfl, hlt', _⟩ := hs' k (by omega)
      obtain ⟨t1, k1, o1, v1, HE1, c0, c1, c2, c3⟩ := hs.at hbel (i := k) (by omega)
      obtain ⟨t2, k2, o2, v2, HE2, d0, d1, d2, d3⟩ := hs'.at hbel (i := k) (by omega)
      have e := HE1.out.symm.trans HE2.out
      cases e
      have hkn : (k : Int) < (n : Int) := by omega
      have f1 : (t1 != t1) = false := by simp
      have f2 : (k1 != k1) = false := by simp
      have f3 : (o1 != o1) = false := by simp
      have f4 : (v1 != v1) = false := by simp
      clear HE1 HE2
      go_wp2_with fail
      go_quiet (fail)
      go_wp2
      go_roundw
      case rel => exact ⟨k + 1, by omega, by go_num, o_drewN hbel _⟩
      case measure => simp [intOf]; omega
    · go_wp2
      go_ret
      exact ⟨rfl, hbel⟩

end Go.Proofs.Ytomhdopbbnmcnab
