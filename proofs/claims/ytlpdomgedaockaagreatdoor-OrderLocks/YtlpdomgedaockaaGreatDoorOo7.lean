import Derived.Test.YtlpdomgedaockaaGreatDoorOo4
import Derived.Deep.RegionHeld3
import Derived.Sort.Statements
import Derived.Shelf.SlSortCmp.Insertion
import Derived.Test.YtlpdomgedaockaaGreatDoorOo5
import Derived.Test.YtlpdomgedaockaaGreatDoorOo6
import Derived.Deep.Upon
import Derived.Shelf.SlSortCmp.NoneTotal
import Derived.Shelf.Lay
import Derived.Ground.SlsfProg
import Derived.Test.YtlpdomgedaockaaGreatDoorOo0
set_option linter.unusedVariables false
set_option linter.unusedSimpArgs false
namespace Go.Proofs.YtlpdomgedaockaaGreatDoor
open Go.RowKit Go.Proofs.Ord Go.Sort
def cmpI (x y : Int) : Int := if x < y then -1 else if y < x then 1 else 0
theorem nan_any (x : Int) (w : World) : Calls Tryz.prog 44 #[.int .i64 x] w fun e w' => e = .returned (.bool false) ∧ w' = w := by
  have h : (x != x) = false := by simp
  go_enter Tryz.func44, Tryz.ntmps44
  go_wp2
  go_ret
  simp
theorem compare_any (x y : Int) (w : World) : Calls Tryz.prog 20 #[.int .i64 x, .int .i64 y] w fun e w' => e = .returned (.int .i64 (cmpI x y)) ∧ w' = w := by
  go_enter Tryz.func20, Tryz.ntmps20
  by_cases h1 : x < y
  · have h : cmpI x y = -1 := if_pos h1
    rw [h]
    have hd : decide (x < y) = true := decide_eq_true h1
    go_wp2_with (go_at_call 44; refine (nan_any _ _).mono ?_; rintro e w' ⟨rfl, rfl⟩)
    go_ret
    exact ⟨rfl, rfl⟩
  · have hd : decide (x < y) = false := decide_eq_false h1
    by_cases h2 : y < x
    · have h : cmpI x y = 1 := by unfold cmpI; rw [if_neg h1, if_pos h2]
      rw [h]
      have hd2 : decide (y < x) = true := decide_eq_true h2
      go_wp2_with (go_at_call 44; refine (nan_any _ _).mono ?_; rintro e w' ⟨rfl, rfl⟩)
      go_ret
      exact ⟨rfl, rfl⟩
    · have h : cmpI x y = 0 := by unfold cmpI; rw [if_neg h1, if_neg h2]
      rw [h]
      have hd2 : decide (y < x) = false := decide_eq_false h2
      go_wp2_with (go_at_call 44; refine (nan_any _ _).mono ?_; rintro e w' ⟨rfl, rfl⟩)
      go_ret
      exact ⟨rfl, rfl⟩
set_option maxHeartbeats 1000000 in
theorem or_any (B : Nat) (x y : Int) (w : World) (hx : w.cell? ⟨B, 0, none⟩ = some (.int .i64 x)) (hy : w.cell? ⟨B, 1, none⟩ = some (.int .i64 y)) :
    Calls Tryz.prog 19 #[.slice (some ⟨B, 0, none⟩) 2 2] w fun e w' => e = .returned (.int .i64 (if x = 0 then y else x)) ∧ w' = w := by
  go_enter Tryz.func19, Tryz.ntmps19
  by_cases h0 : x = 0
  · rw [if_pos h0]
    subst h0
    by_cases h1 : y = 0
    · subst h1
      go_wp2
      refine wp_loop_rounds 3 ?_
      rw [rounds_succ]
      go_wp2
      rw [rounds_succ]
      go_wp2
      rw [rounds_succ]
      go_wp2
      go_ret
      exact ⟨rfl, rfl⟩
    · have hd : (y != 0) = true := by simpa using h1
      go_wp2
      refine wp_loop_rounds 2 ?_
      rw [rounds_succ]
      go_wp2
      rw [rounds_succ]
      go_wp2
      go_ret
      exact ⟨rfl, rfl⟩
  · rw [if_neg h0]
    have hd : (x != 0) = true := by simpa using h0
    go_wp2
    refine wp_loop_rounds 1 ?_
    rw [rounds_succ]
    go_wp2
    go_ret
    exact ⟨rfl, rfl⟩
def cmpP (x y : Nat × Nat) : Int := if cmpI x.2 y.2 = 0 then cmpI x.1 y.1 else cmpI x.2 y.2
def encP (x : Nat × Nat) : List Value := [.int .i64 (x.1 : Int), .int .i64 (x.2 : Int)]
theorem cell_third (W : World) (o1 o2 : Obj) (x y : Int) (t : TypeId) : (((W.alloc o1).alloc o2).drew.alloc (.cells #[.int .i64 x, .int .i64 y] t)).cell? ⟨W.heap.size + 1 + 1, 0, none⟩ = some (.int .i64 x) ∧
    (((W.alloc o1).alloc o2).drew.alloc (.cells #[.int .i64 x, .int .i64 y] t)).cell? ⟨W.heap.size + 1 + 1, 1, none⟩ = some (.int .i64 y) := by
  have hz : W.heap.size + 1 + 1 = ((W.alloc o1).alloc o2).drew.heap.size := by show _ = ((W.alloc o1).alloc o2).heap.size; simp
  rw [hz]
  generalize ((W.alloc o1).alloc o2).drew = X
  simp
set_option maxHeartbeats 2000000 in
theorem closure_any (x y : Nat × Nat) (W : World) : Calls Tryz.prog 18 #[.agg #[.int .i64 (x.1 : Int), .int .i64 (x.2 : Int)], .agg #[.int .i64 (y.1 : Int), .int .i64 (y.2 : Int)]] W fun e w' => e = .returned (.int .i64 (cmpP x y)) ∧ ∃ q os', w' = grow (W.drewN q) os' := by
  obtain ⟨x1, x2⟩ := x
  obtain ⟨y1, y2⟩ := y
  have hc1 := fun W' => compare_any (x2 : Int) (y2 : Int) W'
  have hc2 := fun W' => compare_any (x1 : Int) (y1 : Int) W'
  unfold cmpP
  dsimp only
  generalize cmpI (x2 : Int) (y2 : Int) = r2 at hc1 ⊢
  generalize cmpI (x1 : Int) (y1 : Int) = r1 at hc2 ⊢
  have hor := fun B W' h1 h2 => or_any B r2 r1 W' h1 h2
  generalize (if r2 = 0 then r1 else r2) = r at hor ⊢
  have hmix : Tryz.prog.follows Departure.mixedOrders = true := by kernel_rfl
  go_enter Tryz.func18, Tryz.ntmps18
  go_wp2_with fail
  refine wp_region_held_drew (S := (fun w' => w'.cell? ⟨W.heap.size, 0, none⟩ = some (.int .i64 x1) ∧ w'.cell? ⟨W.heap.size, 1, none⟩ = some (.int .i64 x2) ∧ w'.cell? ⟨W.heap.size + 1, 0, none⟩ = some (.int .i64 y1) ∧ w'.cell? ⟨W.heap.size + 1, 1, none⟩ = some (.int .i64 y2))) (by kernel_rfl) ?_ (fun hHeld => ?_)
  · go_keep
  refine wpAnyH_take (i := 0) (v := ?_) rfl (by kernel_rfl) (by kernel_rfl) (by kernel_rfl) (fun _ _ _ h => h) (Or.inl ⟨by rfl, ?_⟩) hHeld ?_
  rotate_left
  · intro w9 hSw; (try dsimp only at hSw); go_simp; try with_reducible rfl
  simp only [Act.put]
  refine wpAnyH_take (i := 1) (v := ?_) rfl (by kernel_rfl) (by kernel_rfl) (by kernel_rfl) (fun _ _ _ h => h) (Or.inl ⟨by rfl, ?_⟩) hHeld ?_
  rotate_left
  · intro w9 hSw; (try dsimp only at hSw); go_simp; try with_reducible rfl
  simp only [Act.put]
  refine wpAnyH_take (i := 2) (v := ?_) rfl (by kernel_rfl) (by kernel_rfl) (by kernel_rfl) (fun _ _ _ h => h) (Or.inl ⟨by rfl, ?_⟩) hHeld ?_
  rotate_left
  · intro w9 hSw; (try dsimp only at hSw); go_simp; try with_reducible rfl
  simp only [Act.put]
  refine wpAnyH_take (i := 3) (v := ?_) rfl (by kernel_rfl) (by kernel_rfl) (by kernel_rfl) (fun _ _ _ h => h) (Or.inl ⟨by rfl, ?_⟩) hHeld ?_
  rotate_left
  · intro w9 hSw; (try dsimp only at hSw); go_simp; try with_reducible rfl
  simp only [Act.put]
  refine wpAnyH_take (i := 5) (v := ?_) rfl (by kernel_rfl) (by kernel_rfl) (by kernel_rfl) (fun _ _ _ h => h) (Or.inl ⟨by rfl, ?_⟩) hHeld ?_
  rotate_left
  · intro w9 hSw; (try dsimp only at hSw); go_simp; try with_reducible rfl
  simp only [Act.put]
  refine wpAnyH_take (i := 6) (v := ?_) rfl (by kernel_rfl) (by kernel_rfl) (by kernel_rfl) (fun _ _ _ h => h) (Or.inl ⟨by rfl, ?_⟩) hHeld ?_
  rotate_left
  · intro w9 hSw; (try dsimp only at hSw); go_simp; try with_reducible rfl
  simp only [Act.put]
  refine wpAnyH_take (i := 7) (v := ?_) rfl (by kernel_rfl) (by kernel_rfl) (by kernel_rfl) (fun _ _ _ h => h) (Or.inl ⟨by rfl, ?_⟩) hHeld ?_
  rotate_left
  · intro w9 hSw; (try dsimp only at hSw); go_simp; try with_reducible rfl
  simp only [Act.put]
  refine wpAnyH_take (i := 8) (v := ?_) rfl (by kernel_rfl) (by kernel_rfl) (by kernel_rfl) (fun _ _ _ h => h) (Or.inl ⟨by rfl, ?_⟩) hHeld ?_
  rotate_left
  · intro w9 hSw; (try dsimp only at hSw); go_simp; try with_reducible rfl
  simp only [Act.put]
  refine wpAnyH_ready (rs := [4]) (by kernel_rfl) (by simp) ?_
  refine AllReadyH.cons rfl (fun K hK => ?_) AllReadyH.nil
  go_simp
  go_at_call 20
  refine (hc1 _).mono ?_
  rintro e w1 ⟨rfl, rfl⟩
  go_wp2_with fail
  refine hK.out _ _ hHeld (fun _ => ?_)
  clear hK K
  refine wpAnyH_ready (rs := [9]) (by kernel_rfl) (by simp) ?_
  refine AllReadyH.cons rfl (fun K hK => ?_) AllReadyH.nil
  go_simp
  go_at_call 20
  refine (hc2 _).mono ?_
  rintro e w1 ⟨rfl, rfl⟩
  go_wp2_with fail
  refine hK.out _ _ hHeld (fun _ => ?_)
  clear hK K
  refine wpAnyH_ready (rs := [10]) (by kernel_rfl) (by simp) ?_
  refine AllReadyH.cons rfl (fun K hK => ?_) AllReadyH.nil
  go_simp
  refine hK.out _ _ (by go_keep) (fun hHeld2 => ?_)
  clear hK K
  refine wpAnyH_ready (rs := [11]) (by kernel_rfl) (by simp) ?_
  refine AllReadyH.cons rfl (fun K hK => ?_) AllReadyH.nil
  go_simp
  go_at_call 19
  refine (hor _ _ (cell_third _ _ _ _ _ _).1 (cell_third _ _ _ _ _ _).2).mono ?_
  rintro e w1 ⟨rfl, rfl⟩
  go_wp2_with fail
  refine hK.out _ _ hHeld2 (fun _ => ?_)
  clear hK K
  refine wpAnyH_ready (rs := [12]) (by kernel_rfl) (by simp) ?_
  refine AllReadyH.cons rfl (fun K hK => ?_) AllReadyH.nil
  go_simp
  refine hK.out _ _ hHeld2 (fun _ => ?_)
  clear hK K
  refine wpAnyH_done (by kernel_rfl) ?_ _
  clear hHeld hHeld2
  go_wp2_with fail
  go_ret
  exact ⟨rfl, 1, #[.cells #[.int .i64 x1, .int .i64 x2] 40, .cells #[.int .i64 y1, .int .i64 y2] 40, .cells #[.int .i64 r2, .int .i64 r1] 3], by rw [alloc_eq_grow, alloc_eq_grow, alloc_eq_grow, grow_grow, grow_grow]; rfl⟩
end Go.Proofs.YtlpdomgedaockaaGreatDoor
namespace Go.Proofs.YtlpdomgedaockaaGreatDoor
open Go.RowKit Go.Proofs.Ord Go.Sort
def spans (l : Nat → Ev) (n m : Nat) : List (Nat × Nat) := (List.range m).flatMap fun c => rf l (c * 16384) 16384 (n - c * 16384)
theorem spans_succ (l : Nat → Ev) (n m : Nat) : spans l n (m + 1) = spans l n m ++ rf l (m * 16384) 16384 (n - m * 16384) := by simp [spans, List.range_succ]
def ltp (x y : Nat × Nat) : Prop := x.2 < y.2 ∨ (x.2 = y.2 ∧ x.1 < y.1)
theorem lt_iff (x y : Nat × Nat) : ltOf cmpP x y = true ↔ ltp x y := by
  obtain ⟨x1, x2⟩ := x
  obtain ⟨y1, y2⟩ := y
  unfold ltOf cmpP cmpI ltp
  dsimp only
  rw [decide_eq_true_iff]
  repeat' split
  all_goals omega
theorem lt_not (x y : Nat × Nat) : ltOf cmpP x y = false ↔ ¬ ltp x y := by
  rw [← lt_iff]; simp
theorem swoP : SWO (ltOf cmpP) where
  irrefl x := by rw [lt_not]; unfold ltp; omega
  trans x y z h1 h2 := by rw [lt_iff] at *; unfold ltp at *; omega
  ntrans x y z h1 h2 := by rw [lt_not] at *; unfold ltp at *; omega
theorem totP (x y : Nat × Nat) (h1 : ltOf cmpP x y = false) (h2 : ltOf cmpP y x = false) : x = y := by
  rw [lt_not] at *
  obtain ⟨x1, x2⟩ := x
  obtain ⟨y1, y2⟩ := y
  unfold ltp at *
  dsimp only at *
  have e1 : x1 = y1 := by omega
  have e2 : x2 = y2 := by omega
  rw [e1, e2]
theorem mem_rf (l : Nat → Ev) (p K m i j : Nat) : (i, j) ∈ rf l p K m ↔ p ≤ i ∧ i < p + K ∧ i < j ∧ j < p + m ∧ race l i j = true := by
  unfold rf rfOne
  simp only [List.mem_flatMap, List.mem_range, List.mem_map, List.mem_filter, Prod.mk.injEq]
  constructor
  · rintro ⟨j', h1, i', ⟨h2, h3⟩, rfl, rfl⟩
    exact ⟨by omega, by omega, by omega, by omega, h3⟩
  · rintro ⟨h1, h2, h3, h4, h5⟩
    refine ⟨j - p, by omega, i - p, ⟨by omega, ?_⟩, by omega, by omega⟩
    rw [show p + (i - p) = i by omega, show p + (j - p) = j by omega]; exact h5
theorem mem_spans (l : Nat → Ev) (n m : Nat) (hm : n ≤ m * 16384) (x : Nat × Nat) : x ∈ spans l n m ↔ x ∈ racesTo l n := by
  obtain ⟨i, j⟩ := x
  rw [mem_racesTo]
  unfold spans
  simp only [List.mem_flatMap, List.mem_range, mem_rf]
  constructor
  · rintro ⟨c, h1, h2, h3, h4, h5, h6⟩
    exact ⟨by omega, h4, h6⟩
  · rintro ⟨h1, h2, h3⟩
    exact ⟨i / 16384, by omega, by omega, by omega, h2, by omega, h3⟩
theorem rf_ltp (l : Nat → Ev) (p K m : Nat) : (rf l p K m).Pairwise ltp := by
  unfold rf
  rw [List.pairwise_flatMap]
  refine ⟨fun j _ => ?_, ?_⟩
  · unfold rfOne
    rw [List.pairwise_map]
    exact (List.pairwise_lt_range.filter _).imp fun h => .inr ⟨rfl, by dsimp only; omega⟩
  · refine List.pairwise_lt_range.imp fun {a b} h => ?_
    rintro ⟨x1, x2⟩ hx ⟨y1, y2⟩ hy
    unfold rfOne at hx hy
    simp only [List.mem_map, Prod.mk.injEq] at hx hy
    obtain ⟨_, _, _, rfl⟩ := hx
    obtain ⟨_, _, _, rfl⟩ := hy
    exact .inl (by dsimp only; omega)
theorem ltp_ne {x y : Nat × Nat} (h : ltp x y) : x ≠ y := fun e => by subst e; unfold ltp at h; omega
theorem spans_nodup (l : Nat → Ev) (n m : Nat) : (spans l n m).Nodup := by
  unfold spans List.Nodup
  rw [List.pairwise_flatMap]
  refine ⟨fun c _ => (rf_ltp _ _ _ _).imp ltp_ne, List.pairwise_lt_range.imp fun {a b} h => ?_⟩
  rintro ⟨x1, x2⟩ hx ⟨y1, y2⟩ hy e
  cases e
  rw [mem_rf] at hx hy
  omega
theorem racesTo_ltp (l : Nat → Ev) (n : Nat) : (racesTo l n).Pairwise ltp := by
  induction n with
  | zero => exact .nil
  | succ n ih =>
    rw [racesTo, List.pairwise_append]
    refine ⟨ih, ?_, ?_⟩
    · unfold racesOf
      rw [List.pairwise_map]
      exact (List.pairwise_lt_range.filter _).imp fun h => .inr ⟨rfl, h⟩
    · rintro ⟨x1, x2⟩ hx ⟨y1, y2⟩ hy
      rw [mem_racesTo] at hx
      unfold racesOf at hy
      simp only [List.mem_map, Prod.mk.injEq] at hy
      obtain ⟨_, _, _, rfl⟩ := hy
      exact .inl (by dsimp only; omega)
theorem spans_perm (l : Nat → Ev) (n m : Nat) (hm : n ≤ m * 16384) : (spans l n m).Perm (racesTo l n) :=
  (List.perm_ext_iff_of_nodup (spans_nodup l n m) ((racesTo_ltp l n).imp ltp_ne)).2 fun x => mem_spans l n m hm x
theorem spans_sorted (l : Nat → Ev) (n m : Nat) (hm : n ≤ m * 16384) : (spans l n m).mergeSort (fun x y => !(ltOf cmpP) y x) = racesTo l n := by
  refine List.Perm.eq_of_pairwise (le := fun a b => (!ltOf cmpP b a) = true) (fun a b _ _ h1 h2 => totP a b (by simpa using h2) (by simpa using h1)) (List.pairwise_mergeSort (fun a b c h1 h2 => ?_) (fun a b => ?_) _) ((racesTo_ltp l n).imp fun {a b} h => ?_) ((List.mergeSort_perm _ _).trans (spans_perm l n m hm))
  · have h1 : ltOf cmpP b a = false := by simpa using h1
    have h2 : ltOf cmpP c b = false := by simpa using h2
    rw [swoP.ntrans c b a h2 h1]; rfl
  · cases h : ltOf cmpP b a with
    | false => rfl
    | true =>
      cases h2 : ltOf cmpP a b with
      | false => rfl
      | true => have := swoP.trans a b a h2 h; rw [swoP.irrefl] at this; cases this
  · have : ltOf cmpP b a = false := by rw [lt_not]; unfold ltp at *; omega
    rw [this]; rfl
theorem spans_len (l : Nat → Ev) (n m : Nat) (hm : n ≤ m * 16384) : (spans l n m).length = (racesTo l n).length := (spans_perm l n m hm).length_eq
end Go.Proofs.YtlpdomgedaockaaGreatDoor
namespace Go.Proofs.YtlpdomgedaockaaGreatDoor
open Go.RowKit Go.Proofs.Ord
def RacesSaid : Prop := ∀ (a : Option Addr) (n cap : Nat) (l : List Ev) (w : World), l.length = n → EvS w a l → n ≤ cap → cap ≤ maxLen → n ≤ 1048576 → Tab w →
  Calls Tryz.prog 7 #[.slice a n cap] w fun e w' => ∃ v, e = .returned v ∧ PairNew w.heap.size w' v (racesTo (ev l) n) ∧ Below w.heap.size w w'
end Go.Proofs.YtlpdomgedaockaaGreatDoor
namespace Go.Proofs.YtlpdomgedaockaaGreatDoor
open Go.RowKit Go.Shelf Go.Proofs.Ord Go.Sort
theorem run_append_rows {P : Program} (w : World) (base base' : Nat) (t ty e : TypeId) (i : TypeInfo) (z : Value) (size bytes : Nat) (ht : P.underlying t = some (.slice e)) (hi : P.info? e = some i) (hz : i.zero = some z)
    (hsize : i.size = size) (hby : i.bytes = bytes) (hzs : z.cells.size = size) (v : Value) (n : Nat) (xs : List Value) (hown : w.ownsRow base e size v n xs) (u : Value) (m : Nat) (ys : List Value) (hu : w.ownsRow base' e size u m ys)
    (h1 : ∀ y ∈ ys, y.oneCell' = true) (h63 : n + m ≤ maxLen) (hbytes : (n + m) * bytes ≤ 140737488355328) (hbase : base ≤ w.heap.size) :
    ∃ v' w', (Builtin.append_ #[t, t] ty #[v, u]).run P w = .ok v' w' ∧ w'.ownsRow base e size v' (n + m) (xs ++ ys) ∧ w.grownBy w' v.ownBlock := by
  by_cases h0 : m = 0
  · subst h0
    have hys : ys = [] := List.eq_nil_of_length_eq_zero (by have := hu.1; omega)
    subst hys
    have hsrc : Src P i.size t u 0 [] w := by
      rcases hu.2 with ⟨rfl, _⟩ | ⟨g, cap, cur, rfl, _, hg, _, _, _, _⟩
      · exact Src.ofNil w ht 0
      · exact Src.ofSlice w ht ⟨g, 0, none⟩ 0 cap [] (by simp) (fun j u h => by simp at h) (fun _ h => by cases h)
    refine ⟨v, w, ?_, by simpa using hown, World.grownBy.refl _ _⟩
    rcases hown.2 with ⟨rfl, rfl⟩ | ⟨g, cap, cur, rfl, _, _, hnc, _, _, _⟩
    · exact run_append_nothing w t t ty e i ht hi none 0 0 (Nat.le_refl _) u hsrc
    · exact run_append_nothing w t t ty e i ht hi (some ⟨g, 0, none⟩) n cap hnc u hsrc
  · rcases hu.2 with ⟨rfl, h⟩ | ⟨g, cap, cur, rfl, _, hg, _, _, _, _⟩
    · omega
    · obtain ⟨v', w', a1, a2, a3, _⟩ := run_append_blk w base t ty e i z size bytes ht hi hz hsize hby hzs v n xs hown ⟨g, 0, none⟩ m cap ys (by omega) hu.1 (hu.cells (g := g) rfl) h1 h63 hbytes hbase
      exact ⟨v', w', a1, a2, a3⟩
theorem wpList_append_rows {P : Program} (w : World) {ops : Array Oper} {rest : List Oper} {o : Oper} {a : Act} {Q : Exit → Act → World → Prop} (hgd : o.guard = none) (s x : Operand) (t : TypeId)
    (ho : o.op = .call { callee := .builtin .append, args := #[s, x], argTypes := #[t, t] }) (base base' : Nat) (e : TypeId) (i : TypeInfo) (z : Value) (size bytes : Nat) (ht : P.underlying t = some (.slice e)) (hi : P.info? e = some i) (hz : i.zero = some z)
    (hsize : i.size = size) (hby : i.bytes = bytes) (hzs : z.cells.size = size) (v : Value) (n : Nat) (xs : List Value) (hs : a.eval s = v) (hown : w.ownsRow base e size v n xs) (u : Value) (m : Nat) (ys : List Value) (hx : a.eval x = u) (hu : w.ownsRow base' e size u m ys)
    (h1 : ∀ y ∈ ys, y.oneCell' = true) (h63 : n + m ≤ maxLen) (hbytes : (n + m) * bytes ≤ 140737488355328) (hbase : base ≤ w.heap.size)
    (h : ∀ v' w', w'.ownsRow base e size v' (n + m) (xs ++ ys) → w.grownBy w' v.ownBlock → wpList P ops Q rest (a.put o.dst v') w') : wpList P ops Q (o :: rest) a w :=
  wpList_plain hgd fun K hK => by
    obtain ⟨v', w', hr, r1, r2⟩ := run_append_rows (P := P) w base base' t o.type e i z size bytes ht hi hz hsize hby hzs v n xs hown u m ys hu h1 h63 hbytes hbase
    simp [Oper.wp, Oper.upon, execOp, ho, resolve, invoke, builtin, hs, hx, hr, Result.andThen]
    exact hK _ _ (h v' w' r1 r2)
theorem spans_le (l : Nat → Ev) (n m : Nat) : (spans l n m).length ≤ n * n := by
  have h : ∀ k, (spans l n m).length ≤ (spans l n (m + k)).length := fun k => by
    induction k with
    | zero => exact Nat.le_refl _
    | succ k ih => rw [← Nat.add_assoc, spans_succ, List.length_append]; omega
  have h1 := h n
  rw [spans_len l n (m + n) (by omega)] at h1
  exact Nat.le_trans h1 (racesTo_length l n)
def SortSaid : Prop := ∀ (w : World) (B : Nat) (v : Value) (ps : List (Nat × Nat)), B ≤ w.heap.size → w.ownsRow B 40 2 v ps.length (prs ps) → ps.length < 4611686018427387904 →
  Calls Tryz.prog 17 #[v, .func (.func 18) #[] #[]] w fun e w' => e = .returned (.tuple #[]) ∧ PairNew B w' v (ps.mergeSort fun x y => !(ltOf cmpP) y x) ∧ Below B w w'
theorem prs_one (ps : List (Nat × Nat)) : ∀ y ∈ prs ps, y.oneCell' = true := by
  intro y hy
  unfold prs at hy
  rw [List.mem_flatMap] at hy
  obtain ⟨p, _, hp⟩ := hy
  simp at hp
  rcases hp with rfl | rfl <;> rfl
set_option maxRecDepth 100000 in
set_option maxHeartbeats 500000 in
theorem races_any (hS : SortSaid) (a : Option Addr) (n cap : Nat) (l : List Ev) (w : World) (hlen : l.length = n) (hs : EvS w a l) (hc : n ≤ cap) (hm : cap ≤ maxLen) (hn : n ≤ 1048576) (hT : Tab w) :
    Calls Tryz.prog 7 #[.slice a n cap] w fun e w' => ∃ v, e = .returned v ∧ PairNew w.heap.size w' v (racesTo (ev l) n) ∧ Below w.heap.size w w' := by
  have hcap : cap ≤ 9223372036854775807 := hm
  have hF : Hid (∀ (p : Nat) (w7 : World), p < n → Below w.heap.size w w7 → Calls Tryz.prog 16 #[.slice a n cap, .int .i64 p] w7 fun e w' => ∃ v, e = .returned v ∧ w'.ownsRow w7.heap.size 40 2 v (rf (ev l) p 16384 (n - p)).length (prs (rf (ev l) p 16384 (n - p))) ∧ Below w7.heap.size w7 w') := fun p w7 hp hb => by
    obtain ⟨b, off, rfl, _⟩ := hs 0 (by omega)
    exact racesFrom_any b off n cap l p w7 hlen (hs.below hb) hc hm hn hp (tab_below hT hb)
  have hsl : Hid (∀ m, (spans (ev l) n m).length ≤ 1099511627776) := fun m => Nat.le_trans (spans_le _ _ _) (Nat.mul_le_mul hn hn)
  have HS := hide' hS
  obtain ⟨i0, hi0, hi1⟩ := Option.map_eq_some_iff.1 Tryz.infoP
  obtain ⟨hz0, hz1, hz2⟩ : i0.zero = some (.agg #[.int .i64 0, .int .i64 0]) ∧ i0.size = 2 ∧ i0.bytes = 16 := by simpa using hi1
  clear hi1
  have Hhs := hide' hs
  have HT := hide' hT
  clear hS hs hT
  go_enter Tryz.func7, Tryz.ntmps7
  go_wp2_with fail
  go_loopw [3, 4] (fun r i w7 => ∃ m p : Nat, p = m * 16384 ∧ (m = 0 ∨ p < n + 16384) ∧ i = .int .i64 p ∧ w7.ownsRow w.heap.size 40 2 r (spans (ev l) n m).length (prs (spans (ev l) n m)) ∧ Below w.heap.size w w7) (fun _ i _ => n + 16384 - (intOf i).toNat)
  case atStart => exact ⟨0, 0, rfl, .inl rfl, rfl, ⟨rfl, .inl ⟨rfl, rfl⟩⟩, Below.refl _ _⟩
  case round =>
    obtain ⟨m, p, hpm, hm0, rfl, hr, hbr⟩ := hrel
    by_cases hp : p < n
    · have Hr := hide' hr
      have Hb := hide' hbr
      have Hp := hide' hp
      have hd : decide ((p : Int) < (n : Int)) = true := decide_eq_true (by omega)
      clear hr hbr hm0
      have hlen9 : Hid ((spans (ev l) n m).length + (rf (ev l) p 16384 (n - p)).length = (spans (ev l) n (m + 1)).length ∧ prs (spans (ev l) n m) ++ prs (rf (ev l) p 16384 (n - p)) = prs (spans (ev l) n (m + 1))) := by
        rw [spans_succ, ← hpm, prs_append, List.length_append]; exact ⟨rfl, rfl⟩
      have Hpm := hide' hpm
      have Hlen := hide' hlen
      clear hpm hlen hp
      go_wp2_with (first | (go_at_call 16; refine (hF.out p _ Hp.out Hb.out).mono ?_; rintro e w8 ⟨v, rfl, hv, hb8⟩; have Hv := hide' hv; have Hb8 := hide' hb8; clear hv hb8) | (at_builtin; refine wpList_append_rows _ rfl _ _ 36 rfl w.heap.size _ 40 i0 (.agg #[.int .i64 0, .int .i64 0]) 2 16 Tryz.underlying36 hi0 hz0 hz1 hz2 rfl _ _ _ rfl (ownsRow_below Hr.out Hb8.out (fun g e => (Hr.out.lt g e).2)) _ _ _ rfl Hv.out (prs_one _) (by rw [hlen9.out.1]; have := hsl.out (m + 1); unfold maxLen; omega) (by rw [hlen9.out.1]; have := hsl.out (m + 1); omega) (by have := Hb.out.size; have := Hb8.out.size; omega) ?_; intro v' w1 hown' hgrow))
      have hg : w8.grownBy w1 u3.ownBlock := hgrow
      rw [hlen9.out.1, hlen9.out.2] at hown'
      have h1 := Hpm.out
      have h2 := Hp.out
      refine ⟨⟨m + 1, p + 16384, by omega, .inr (by omega), by rw [Int.natCast_add]; rfl, hown', (Hb.out.trans (Hb8.out.mono Hb.out.size)).grown hg (Nat.le_trans Hb.out.size Hb8.out.size) fun g e => (Hr.out.lt g e).1⟩, ?_⟩
      simp [intOf]
      omega
    · have Hr := hide' hr
      have Hb := hide' hbr
      have Hnm : Hid (n ≤ m * 16384) := by show n ≤ m * 16384; omega
      have Hlen := hide' hlen
      have hd : decide (p < n) = false := decide_eq_false (by omega)
      clear hr hbr hm0 hpm hlen hp
      go_wp2_with (go_at_call 17; refine (HS.out _ w.heap.size _ (spans (ev l) n m) Hb.out.size Hr.out (by have := hsl.out m; omega)).mono ?_; rintro e w8 ⟨rfl, hP, hB⟩; rw [spans_sorted (ev l) n m Hnm.out] at hP; have HP := hide' hP; have HB := hide' hB; clear hP hB)
      go_ret
      exact ⟨_, rfl, HP.out, Hb.out.trans HB.out⟩
end Go.Proofs.YtlpdomgedaockaaGreatDoor
namespace Go.Proofs
open Go.Shelf Go.RowKit Go.Lib Go.Sort
shelf_lay_g SlLaysF0.n6 Slsf 6 at Tryz 17 as Tryz.sortP
end Go.Proofs
namespace Go.Proofs.YtlpdomgedaockaaGreatDoor
open Go.RowKit Go.Shelf Go.Proofs.Ord Go.Sort
theorem prs_get (ps : List (Nat × Nat)) (j c : Nat) (hj : j < ps.length) (hc : c < 2) : (prs ps)[j * 2 + c]? = some ((encP (ps.getD j (0, 0)))[c]!) := by
  induction ps generalizing j with
  | nil => simp at hj
  | cons p ps ih =>
    cases j with
    | zero => rcases c with _ | _ | c <;> first | rfl | omega
    | succ j =>
      have h := ih j (by simpa using hj)
      have e : (j + 1) * 2 + c = j * 2 + c + 1 + 1 := by omega
      rw [e]
      simpa [prs] using h
theorem arr_getD (ps : List (Nat × Nat)) (j : Nat) : ps.toArray[j]! = ps.getD j (0, 0) := by
  simp [List.getD_eq_getElem?_getD, getElem!_def]
  cases ps[j]? <;> rfl
set_option maxHeartbeats 1000000 in
theorem sort_said : SortSaid := by
  intro w B v ps hB hv hlen
  rcases hv.2 with ⟨rfl, h0⟩ | ⟨g, cap, cur, rfl, hBg, hg, hnc, hcm, hcs, htake⟩
  · have hnil : ps = [] := List.eq_nil_of_length_eq_zero h0
    subst hnil
    refine (AnyF.slices_SortFunc_none { Tryz.sortP with } none 0 _ w).mono ?_
    rintro e w' ⟨rfl, rfl⟩
    exact ⟨rfl, ⟨none, 0, by simp, by simp, by unfold maxLen; omega, fun i hi => by simp at hi⟩, Below.refl _ _⟩
  · have hgl : g < w.heap.size := (hv.lt g rfl).2
    have hH : HoldsK encP 2 w g 0 ps.toArray := by
      intro t ht
      rw [size_flatK] at ht
      have ht' : t < ps.length * 2 := by simpa using ht
      have hcell := hv.cells (g := g) rfl t ((encP (ps.getD (t / 2) (0, 0)))[t % 2]!) (by
        have := prs_get ps (t / 2) (t % 2) (by omega) (by omega)
        rwa [show t / 2 * 2 + t % 2 = t by omega] at this)
      refine ⟨?_, ?_⟩
      · rw [get_flatK encP 2 _ t ht, arr_getD]; rw [Nat.zero_add]; by_cases h : t = 0
        · subst h; simpa [Addr.add] using hcell
        · simpa [Addr.add, h] using hcell
      · simp [World.frozen?, hg]
    have eg : ∀ args w, (callFunc 18 args).run Tryz.prog w = .ok (.enter 18 args) w := enters_of Tryz.func18 (by kernel_rfl) rfl
    have hcon := AnyQ.slices_SortFunc_total Tryz.sortP 2 Tryz.isAgg40 Tryz.sizeOf40 encP (fun _ => rfl) (fun x v hv => by simp [encP] at hv; rcases hv with rfl | rfl <;> rfl) cmpP swoP 18 #[] g 0 cap ps.toArray w eg (fun _ _ _ _ x y => closure_any x y _) hH hgl (by simpa using hlen) totP
    have hml : (ps.mergeSort fun x y => !(ltOf cmpP) y x).length = ps.length := (List.mergeSort_perm _ _).length_eq
    refine hcon.mono ?_
    rintro e w' ⟨rfl, n', os, rfl⟩
    have hH2 := holdsK_sortWorldK encP 2 w g 0 n' ps.toArray (ps.mergeSort fun x y => !(ltOf cmpP) y x).toArray os hgl hH (by simp [hml])
    generalize (ps.mergeSort fun x y => !(ltOf cmpP) y x) = qs at hml hH2 ⊢
    refine ⟨rfl, ⟨some ⟨g, 0, none⟩, cap, by rw [hml], by omega, hcm, fun i hi => ⟨g, 0, rfl, hBg, lt_sortWorldK encP 2 w g 0 n' _ os hgl, ?_⟩⟩, ?_⟩
    · have e0 := hH2 (i * 2) (by rw [size_flatK]; simp; omega)
      have e1 := hH2 (i * 2 + 1) (by rw [size_flatK]; simp; omega)
      rw [get_flatK encP 2 _ _ (by simp; omega), arr_getD, show i * 2 / 2 = i by omega, show i * 2 % 2 = 0 by omega] at e0
      rw [get_flatK encP 2 _ _ (by simp; omega), arr_getD, show (i * 2 + 1) / 2 = i by omega, show (i * 2 + 1) % 2 = 1 by omega] at e1
      exact ⟨e0.1, e1.1, e0.2, e1.2⟩
    · refine ⟨rfl, rfl, rfl, size_sortWorldK_c encP 2 w g 0 n' _ os, fun b hb => ?_⟩
      have hb1 : b < w.heap.size := by omega
      have hb2 : b ≠ g := by omega
      show ((w.heap.modify g _) ++ os)[b]? = w.heap[b]?
      rw [Array.getElem?_append_left (by rw [Array.size_modify]; exact hb1), Array.getElem?_modify, if_neg (Ne.symm hb2)]
theorem races_said : RacesSaid := fun a n cap l w hlen hs hc hm hn hT => races_any sort_said a n cap l w hlen hs hc hm hn hT
end Go.Proofs.YtlpdomgedaockaaGreatDoor
namespace Go.Proofs.YtlpdomgedaockaaGreatDoor
open Go.RowKit
set_option maxRecDepth 100000 in
set_option maxHeartbeats 400000 in
theorem has_any (a : Option Addr) (k cap n : Nat) (ws : List Nat) (w : World) (hk : ws.length = k) (hs : SetR w a ws) (hw : ∀ x, x ∈ ws → x < 18446744073709551616) (hn : n < 9223372036854775808) :
    Calls Tryz.prog 28 #[.slice a k cap, .int .i64 n] w fun e w' => e = .returned (.bool (bitOf ws n)) ∧ w' = w := by
  obtain ⟨q, r, hr, rfl⟩ : ∃ q r, r < 64 ∧ n = 64 * q + r := ⟨n / 64, n % 64, Nat.mod_lt _ (by decide), (Nat.div_add_mod n 64).symm⟩
  have e1 : (64 * q + r) / 64 = q := by omega
  have e2 : (64 * q + r) % 64 = r := by omega
  by_cases hlt : q < k
  · obtain ⟨b, off, rfl, hb, hc⟩ := hs q (by omega)
    obtain ⟨x, hx⟩ : ∃ x, ws.getD q 0 = x := ⟨_, rfl⟩
    have hxl : x < 18446744073709551616 := by rw [← hx]; exact hw _ (by rw [List.getD_eq_getElem?_getD, List.getElem?_eq_getElem (by omega)]; exact List.getElem_mem _)
    have hB : Hid (bitOf ws (64 * q + r) = x.testBit r) := by unfold bitOf; rw [e1, e2, hx]; rfl
    have hval : Hid ((bits BinOp.and IntKind.u64 ((x : Int) / 2 ^ (r % 64)) 1 == 1) = x.testBit r) := by
      have e3 : r % 64 = r := Nat.mod_eq_of_lt hr
      have e4 : ((x : Int) / 2 ^ r) = ((x >>> r : Nat) : Int) := by rw [Nat.shiftRight_eq_div_pow]; simp
      have e5 : x >>> r < 18446744073709551616 := Nat.lt_of_le_of_lt (Nat.shiftRight_le x r) hxl
      have e6 := bits_and (x := x >>> r) (y := 1) e5 (by decide)
      unfold Hid
      rw [e3, e4, show (1 : Int) = ((1 : Nat) : Int) from rfl, e6, Nat.testBit, Nat.and_comm]
      by_cases h : 1 &&& (x >>> r) = 1
      · simp [h]
      · have : 1 &&& (x >>> r) = 0 := by have := Nat.and_one_is_mod (x >>> r); rw [Nat.and_comm] at this; omega
        simp [this]
    unfold encU at hc
    rw [hx] at hc
    clear hx
    go_enter Tryz.func28, Tryz.ntmps28
    go_wp2
    go_ret
    exact ⟨retb (hval.out.trans hB.out.symm), rfl⟩
  · have hB : Hid (bitOf ws (64 * q + r) = false) := by
      unfold bitOf; rw [e1, List.getD_eq_getElem?_getD, List.getElem?_eq_none (by omega)]; simp [Hid]
    go_enter Tryz.func28, Tryz.ntmps28
    go_wp2
    go_ret
    exact ⟨retb hB.out.symm, rfl⟩
end Go.Proofs.YtlpdomgedaockaaGreatDoor
namespace Go.Proofs.YtlpdomgedaockaaGreatDoor
open Go.RowKit Go.Proofs.Ord
def BeforeSaid : Prop := ∀ (a : Option Addr) (n cap : Nat) (l : List Ev) (i j : Int) (w : World), l.length = n → EvS w a l → n ≤ cap → cap ≤ maxLen → n * 32 ≤ 140737488351232 →
  Calls Tryz.prog 12 #[.slice a n cap, .int .i64 i, .int .i64 j] w fun e w' => e = .returned (.bool (befI l i j)) ∧ Below w.heap.size w w'
theorem befI_nat (l : List Ev) (p q : Nat) (hp : p < l.length) (hq : q < l.length) : befI l p q = bef (ev l) p q := by
  unfold befI
  rw [decide_eq_true (by omega), Bool.true_and]; rfl
theorem BeforeSaid.as (hB : BeforeSaid) {a : Option Addr} {n cap : Nat} {l : List Ev} {p q : Nat} {c : Bool} (hc : bef (ev l) p q = c) (w : World) (hn : l.length = n) (hs : EvS w a l) (h1 : n ≤ cap) (h2 : cap ≤ maxLen) (h3 : n * 32 ≤ 140737488351232) (hp : p < n) (hq : q < n) :
    Calls Tryz.prog 12 #[.slice a n cap, .int .i64 (p : Int), .int .i64 (q : Int)] w fun e w' => e = .returned (.bool c) ∧ Below w.heap.size w w' := by
  rw [← hc, ← befI_nat l p q (by omega) (by omega)]
  exact hB a n cap l p q w hn hs h1 h2 h3
end Go.Proofs.YtlpdomgedaockaaGreatDoor
namespace Go.Proofs.YtlpdomgedaockaaGreatDoor
open Go.RowKit Go.Shelf Go.Proofs.Ord
attribute [local go_sem] Oper.semAt_some
theorem befI_no {l : List Ev} {i j : Int} (h : ¬ (0 ≤ i ∧ i < j ∧ j < (l.length : Int))) : befI l i j = false := by
  unfold befI
  by_cases h1 : 0 ≤ i ∧ i < l.length ∧ 0 ≤ j ∧ j < l.length
  · rw [bef_ge (by omega), Bool.and_false]
  · rw [decide_eq_false h1, Bool.false_and]
set_option maxRecDepth 100000 in
set_option maxHeartbeats 1000000 in
theorem before_no (a : Option Addr) (n cap : Nat) (i j : Int) (w : World) (h : ¬ (0 ≤ i ∧ i < j ∧ j < n)) :
    Calls Tryz.prog 12 #[.slice a n cap, .int .i64 i, .int .i64 j] w fun e w' => e = .returned (.bool false) ∧ Below w.heap.size w w' := by
  have hb : Hid (∀ x y z, Below w.heap.size w (((w.alloc x).alloc y).alloc z)) := fun x y z => (((Below.refl _ _).alloc (Nat.le_refl _) _).alloc (by simp) _).alloc (by simp; omega) _
  by_cases h1 : i < 0
  · go_enter Tryz.func12, Tryz.ntmps12
    go_wp2
    refine bodyPost_ret (v := .bool false) (by simp [results, Tryz.f12, go_sem]) rfl ⟨rfl, hb.out _ _ _⟩
  · by_cases h2 : j ≤ i
    · go_enter Tryz.func12, Tryz.ntmps12
      go_wp2
      refine bodyPost_ret (v := .bool false) (by simp [results, Tryz.f12, go_sem]) rfl ⟨rfl, hb.out _ _ _⟩
    · have h3 : (n : Int) ≤ j := by omega
      go_enter Tryz.func12, Tryz.ntmps12
      go_wp2
      refine bodyPost_ret (v := .bool false) (by simp [results, Tryz.f12, go_sem]) rfl ⟨rfl, hb.out _ _ _⟩
def Still (W0 : World) (but : Option Nat) (O : Side) (W : World) : Prop :=
  (∀ b, b < W0.heap.size → O b ∧ (some b ≠ but → W.heap[b]? = W0.heap[b]?)) ∧ (∀ b, O b → b < W.heap.size) ∧ W.os = W0.os ∧ W.tape = W0.tape ∧ W.output = W0.output ∧ W0.heap.size ≤ W.heap.size
theorem Still.stable {W0 : World} {but : Option Nat} {O : Side} {W W' : World} (h : Still W0 but O W) (hs : W.heap.size ≤ W'.heap.size) (ho : W'.os = W.os) (ht : W'.tape = W.tape) (hu : W'.output = W.output) (hsame : ∀ b, O b → W'.heap[b]? = W.heap[b]?) : Still W0 but O W' :=
  ⟨fun b hb => ⟨(h.1 b hb).1, fun hne => (hsame b (h.1 b hb).1).trans ((h.1 b hb).2 hne)⟩, fun b hb => Nat.lt_of_lt_of_le (h.2.1 b hb) hs, ho.trans h.2.2.1, ht.trans h.2.2.2.1, hu.trans h.2.2.2.2.1, Nat.le_trans h.2.2.2.2.2 hs⟩
set_option maxRecDepth 100000 in
set_option maxHeartbeats 2000000 in
theorem before_yes (b off n cap : Nat) (l : List Ev) (p q : Nat) (w : World) (hlen : l.length = n) (hs : EvS w (some ⟨b, off, none⟩) l) (hc : n ≤ cap) (hm : cap ≤ maxLen) (hn : n * 32 ≤ 140737488351232) (hpq : p < q) (hq : q < n) :
    Calls Tryz.prog 12 #[.slice (some ⟨b, off, none⟩) n cap, .int .i64 p, .int .i64 q] w fun e w' => e = .returned (.bool (bef (ev l) p q)) ∧ Below w.heap.size w w' := by
  have hcap : cap ≤ 9223372036854775807 := hm
  have hp0 : decide ((p : Int) < 0) = false := decide_eq_false (by omega)
  refine (callsIn_wide (n := 4)).1 ?_
  refine callsIn_of_wp_marks Tryz.func12 rfl trivial ?_ rfl
  simp only [Tryz.ntmps12, List.size_toArray, List.length_cons, List.length_nil, Nat.reduceAdd, Nat.reduceSub, Array.replicate_succ, Array.replicate_zero, List.push_toArray, List.append_toArray, List.nil_append, List.cons_append]
  gi_wp2_with (refine ⟨trivial, ?_⟩; gi_at_call 27; refine (pasts_in _ _ _ _ _ _).mono ?_; rintro e w' ⟨rfl, rfl⟩)
  clear hp0
  obtain ⟨Z, hZ⟩ : ∃ Z, w.heap.size = Z := ⟨_, rfl⟩
  obtain ⟨W0, hW0⟩ : ∃ W0, ((((w.alloc (.cells #[.int .i64 p] 3)).alloc (.cells #[.int .i64 q] 3)).alloc (.cells #[.bool false] 4)).alloc (.cells #[.slice (some ⟨b, off + p * 4, none⟩) (q + 1 - p) (cap - p)] 33)).alloc (.cells #[.int .i64 1] 3) = W0 := ⟨_, rfl⟩
  have hz0 : W0.heap.size = Z + 5 := by rw [← hW0, ← hZ]; simp
  have hBW : Below w.heap.size w W0 := by rw [← hW0]; exact (((((Below.refl _ w).alloc (Nat.le_refl _) _).alloc (by simp) _).alloc (by simp; omega) _).alloc (by simp; omega) _).alloc (by simp; omega) _
  have b0 : Boxed W0 Z 3 (.int .i64 p) := by
    rw [← hW0, ← hZ]; exact ((((Boxed.new w 3 _).alloc _).alloc _).alloc _).alloc _
  have b1 : Boxed W0 (Z + 1) 3 (.int .i64 q) := by
    rw [← hW0, ← hZ]; have := Boxed.new (w.alloc (.cells #[.int .i64 p] 3)) 3 (.int .i64 q); rw [World.size_alloc] at this; exact ((this.alloc _).alloc _).alloc _
  have b2 : Boxed W0 (Z + 1 + 1) 4 (.bool false) := by
    rw [← hW0, ← hZ]; have := Boxed.new ((w.alloc (.cells #[.int .i64 p] 3)).alloc (.cells #[.int .i64 q] 3)) 4 (.bool false); rw [World.size_alloc, World.size_alloc] at this; exact (this.alloc _).alloc _
  have b3 : Boxed W0 (Z + 1 + 1 + 1) 33 (.slice (some ⟨b, off + p * 4, none⟩) (q + 1 - p) (cap - p)) := by
    rw [← hW0, ← hZ]; have := Boxed.new (((w.alloc (.cells #[.int .i64 p] 3)).alloc (.cells #[.int .i64 q] 3)).alloc (.cells #[.bool false] 4)) 33 (.slice (some ⟨b, off + p * 4, none⟩) (q + 1 - p) (cap - p)); rw [World.size_alloc, World.size_alloc, World.size_alloc] at this; exact this.alloc _
  have b4 : Boxed W0 (Z + 1 + 1 + 1 + 1) 3 (.int .i64 ((1 : Nat) : Int)) := by
    rw [← hW0, ← hZ]; have := Boxed.new ((((w.alloc (.cells #[.int .i64 p] 3)).alloc (.cells #[.int .i64 q] 3)).alloc (.cells #[.bool false] 4)).alloc (.cells #[.slice (some ⟨b, off + p * 4, none⟩) (q + 1 - p) (cap - p)] 33)) 3 (.int .i64 1); rw [World.size_alloc, World.size_alloc, World.size_alloc, World.size_alloc] at this; exact this
  have hsub : ((l.drop p).take (q + 1 - p)).length = q + 1 - p := by rw [List.length_take, List.length_drop]; omega
  have hes := (hs.below hBW).sub p (q + 1 - p)
  rw [hW0, hZ]
  refine wpIn_rangeFunc_frame rfl (by decide) (gf := 56) (lb := #[.pointer (some ⟨Z + 1 + 1 + 1, 0, none⟩), .pointer (some ⟨Z + 1 + 1 + 1 + 1, 0, none⟩)]) rfl trivial (enters_of Tryz.func56 (by kernel_rfl) rfl)
    (pasts_seq (Z + 1 + 1 + 1) (Z + 1 + 1 + 1 + 1) (q + 1 - p) 1 (some ⟨b, off + p * 4, none⟩) (cap - p) ((l.drop p).take (q + 1 - p)) W0 (by omega) (by omega) hsub b3 b4 hes) (Below.refl _ _) (fun _ => rfl) pastE_steps pastE_anti
    (fun pre O W => pre.length ≤ q - p ∧ Still W0 none O W)
    (fun c _ O W => c = .ret ∧ Still W0 (some (Z + 1 + 1)) O W ∧ Boxed W (Z + 1 + 1) 4 (.bool (bef (ev l) p q)))
    (fun pre O W W' h hs ho ht hu hsame => ⟨h.1, h.2.stable hs ho ht hu hsame⟩)
    (fun c pre O W W' h hs ho ht hu hsame => ⟨h.1, h.2.1.stable hs ho ht hu hsame, (hsame _ (h.2.1.1 _ (by omega)).1).trans h.2.2⟩)
    (fun pre O W h => h.2.2.1) (fun c pre O W h => h.2.1.2.1)
    (fun pre O W h b' hb' => by
      have hlt := pastBase_lt b3.lt b4.lt hsub hes b' hb'
      exact ⟨(h.2.1 b' hlt).1, (h.2.1 b' hlt).2 (by simp)⟩)
    (pastBase_lt b3.lt b4.lt hsub hes)
    ⟨Nat.zero_le _, fun b' hb' => ⟨hb', fun _ => rfl⟩, fun b' hb' => hb', rfl, rfl, rfl, Nat.le_refl _⟩
    (fun _ x a' _ _ => a' = { tmps := #[.slice (some ⟨b, off, none⟩) n cap, .int .i64 p, .int .i64 q, undef, .pointer (some ⟨Z, 0, none⟩), .pointer (some ⟨Z + 1, 0, none⟩), .pointer (some ⟨Z + 1 + 1, 0, none⟩), .int .i64 x.1, x.2, .int .i64 p, .bool false, .bool false, .int .i64 p, .int .i64 q, .bool false, .bool false, .bool false, .int .i64 q, .slice (some ⟨b, off, none⟩) n cap, .int .i64 n, .bool false, .bool false, .slice (some ⟨b, off, none⟩) n cap, .int .i64 p, .int .i64 q, .int .i64 (q + 1), .slice (some ⟨b, off + p * 4, none⟩) (q + 1 - p) (cap - p), .func (.func 56) #[] #[.pointer (some ⟨Z + 1 + 1 + 1, 0, none⟩), .pointer (some ⟨Z + 1 + 1 + 1 + 1, 0, none⟩)], .int .i64 x.1, x.2, undef, undef, undef, undef, undef, undef, undef], defers := [] })
    (fun _ _ _ _ _ _ _ h _ _ _ _ _ => h) ?assign ?body ?done ?stop
  case assign =>
    intro l' pre x O W K hi hE hK
    gi_wp2
    exact hK _ O W (Steps.refl _ _) hi rfl
  case body =>
    rintro l' pre ⟨k, v⟩ a' O W ⟨r, hr⟩ hnl ⟨hpl, hst⟩ ⟨hk, hkn, ⟨B, ws, hset, hh⟩, hnO⟩ rfl
    have hc0 : W.cell? ⟨Z, 0, none⟩ = some (.int .i64 p) := (World.cell?_of_block (w := W0) (a := ⟨Z, 0, none⟩) ((hst.1 Z (by omega)).2 (by simp))).trans b0.cell
    have hc1 : W.cell? ⟨Z + 1, 0, none⟩ = some (.int .i64 q) := (World.cell?_of_block (w := W0) (a := ⟨Z + 1, 0, none⟩) ((hst.1 (Z + 1) (by omega)).2 (by simp))).trans b1.cell
    have hB2 : Boxed W (Z + 1 + 1) 4 (.bool false) := ((hst.1 (Z + 1 + 1) (by omega)).2 (by simp)).trans b2
    have hc2 := hB2.cell
    have hf2 := hB2.frozen
    simp only at hk
    by_cases hkq : k = q - p
    · obtain ⟨a2, c2, rfl, hc2', hc3, hR⟩ := hset.parts
      have hres : Hid (bitOf ws 0 = bef (ev l) p q) := by
        apply Bool.eq_iff_iff.2
        rw [hh.1 0]
        show 0 < 1 ∧ bef (ev ((l.drop p).take (q + 1 - p))) 0 k = true ↔ _
        rw [bef_sub _ _ _ _ _ (by omega), hkq, Nat.zero_add, show q - p + p = q by omega]
        exact ⟨fun h => h.2, fun h => ⟨by omega, h⟩⟩
      have hhas := has_any a2 ws.length c2 0 ws W rfl hR hset.2 (by decide)
      rw [hres.out] at hhas
      have Hh := hide' hhas
      have hnum : ((k : Int) == (q : Int) - (p : Int)) = true := by rw [beq_iff_eq]; omega
      clear hhas hkq hc3
      gi_wp2_with (refine ⟨trivial, ?_⟩; gi_at_call 28; refine (CallsIn.inRound l' (callsIn_wide.2 Hh.out)).mono ?_; rintro e w' ⟨rfl, rfl⟩)
      refine ⟨O, ?_, rfl, ?_, hB2.set _⟩
      · exact ⟨rfl, rfl, rfl, by simp [World.setCell], fun _ h => h, fun _ h => .inl h, fun b' hb' hO => Below.heap_setCell _ _ _ _ (fun e => hO (by rw [e]; exact (hst.1 (Z + 1 + 1) (by omega)).1))⟩
      · exact ⟨fun b' hb' => ⟨(hst.1 b' hb').1, fun hne => (Below.heap_setCell _ _ _ _ (fun e => hne (by rw [e]))).trans ((hst.1 b' hb').2 (by simp))⟩, fun b' hb' => by have := hst.2.1 b' hb'; simp [World.setCell]; omega, hst.2.2.1, hst.2.2.2.1, hst.2.2.2.2.1, by have := hst.2.2.2.2.2; simp [World.setCell]; omega⟩
    · have hnum : ((k : Int) == (q : Int) - (p : Int)) = false := by rw [beq_eq_false_iff_ne]; omega
      gi_wp2
      exact ⟨O, Steps.refl _ _, by simp; omega, hst⟩
  case done =>
    rintro xs O W hS ⟨hl, _⟩ _ _
    omega
  case stop =>
    rintro c pre O W _ ⟨rfl, hst, hB⟩ hnD hK
    gi_wp2
    refine ⟨by simp, .inl ⟨_, _, rfl, run_takeDeferred hK, ?_⟩⟩
    have hc5 := cell_kept hB.cell (grownBy_putObj' _ W0.heap.size (.deferred none)) (fun r e => by cases e; exact ⟨_, hK, rfl⟩)
    refine ⟨.bool (bef (ev l) p q), ?_, rfl, ?_⟩
    · simp [results, Tryz.f12, go_sem, hc5]
    · refine Below.trans (b := W) ⟨hst.2.2.1.trans hBW.os, hst.2.2.2.1.trans hBW.tape, hst.2.2.2.2.1.trans hBW.output, Nat.le_trans hBW.size hst.2.2.2.2.2, fun b' hb' => ((hst.1 b' (by omega)).2 (fun e => by cases e; omega)).trans (hBW.block b' hb')⟩ (belowK_b (w := w) (Nat.le_refl _) _ W0.heap.size _ _ (by omega) hK rfl rfl)
theorem before_said : BeforeSaid := by
  intro a n cap l i j w hlen hs hc hm hn
  by_cases h : 0 ≤ i ∧ i < j ∧ j < (n : Int)
  · obtain ⟨h1, h2, h3⟩ := h
    obtain ⟨p, rfl⟩ := Int.eq_ofNat_of_zero_le h1
    obtain ⟨q, rfl⟩ := Int.eq_ofNat_of_zero_le (by omega : 0 ≤ j)
    obtain ⟨b, off, rfl, _, _⟩ := hs p (by omega)
    have e : befI l p q = bef (ev l) p q := by
      unfold befI
      rw [decide_eq_true (by omega), Bool.true_and]; rfl
    rw [e]
    exact before_yes b off n cap l p q w hlen hs hc hm hn (by omega) (by omega)
  · rw [befI_no (by rw [hlen]; exact h)]
    exact before_no a n cap i j w h
end Go.Proofs.YtlpdomgedaockaaGreatDoor
