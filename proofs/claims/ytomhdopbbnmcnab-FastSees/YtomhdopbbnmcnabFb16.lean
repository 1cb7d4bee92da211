import Derived.Test.YtomhdopbbnmcnabFb14
import Derived.Test.YtomhdopbbnmcnabFb15
namespace Go.Proofs.Ytomhdopbbnmcnab
open Go.RowKit Go.Proofs.Ord

theorem full_zero (L : Nat → Ev) (th q : Nat) : full L th q 0 = List.replicate th 0 := by
  unfold full
  rw [show (fun (t : Nat) => ((cnt L q (t : Int) 0 : Nat) : Int)) = fun _ => 0 from rfl, List.map_const', List.length_range]
theorem full_same {L : Nat → Ev} {th q i : Nat} (h : ∀ t : Nat, t < th → upto L q (t : Int) i = false) : full L th q (i + 1) = full L th q i := by
  unfold full
  apply List.map_congr_left
  intro t ht
  rw [cnt, h t (List.mem_range.1 ht)]; simp
theorem full_up {L : Nat → Ev} {th q i t0 : Nat} (ht : (L i).thread = t0) (h0 : t0 < th) (hu : (i == q || bef L i q) = true) : full L th q (i + 1) = (full L th q i).set t0 ((full L th q i).getD t0 0 + 1) := by
  apply List.ext_getElem?
  intro k
  rw [List.getElem?_set, full_length, full_getD L th q i t0 h0]
  by_cases hk : k < th
  · by_cases e : t0 = k
    · subst e
      have hy : upto L q (t0 : Int) i = true := by unfold upto; rw [ht, hu]; simp
      simp [full, hk, cnt, hy]
    · have hno : upto L q (k : Int) i = false := by
        unfold upto
        have : ((L i).thread == (k : Int)) = false := by rw [ht]; simp; omega
        rw [this, Bool.false_and]
      simp [full, hk, cnt, hno, e]
  · have e : ¬ t0 = k := by omega
    simp [full, hk, e]

theorem owns_none {w w' : World} {base e size n : Nat} {v : Value} {xs : List Value} (h : w.ownsRow base e size v n xs) (hg : w.grownBy w' none) : w'.ownsRow base e size v n xs := by
  refine h.kept hg ?_
  cases hv : v.ownBlock with
  | none => exact .inl rfl
  | some x => right; intro e; cases e

/-- Rows of th numbers each, of which the first are told as theirs; no two in one block. -/
structure IRows (w : World) (B th : Nat) (v : Value) (k : Nat) (g len : Nat → Nat) (F : Nat → List Int) : Prop where
  own : w.ownsRow B 22 1 v k ((List.range k).map fun q => Value.slice (some ⟨g q, 0, none⟩) (len q) th)
  row : ∀ q, q < k → (F q).length = th ∧ w.ownsRow B 3 1 (.slice (some ⟨g q, 0, none⟩) th th) th ((F q).map (Value.int .i64)) ∧ v.ownBlock ≠ some (g q)
  apart : ∀ q q', q < k → q' < k → q ≠ q' → g q ≠ g q'

theorem IRows.below {w w' : World} {B B' th k : Nat} {v : Value} {g len : Nat → Nat} {F : Nat → List Int} (h : IRows w B th v k g len F) (hb : Below B' w w') (hB : w.heap.size ≤ B') : IRows w' B th v k g len F :=
  ⟨ownsRow_below h.own hb (fun x e => Nat.lt_of_lt_of_le (h.own.lt x e).2 hB), fun q hq => ⟨(h.row q hq).1, ownsRow_below (h.row q hq).2.1 hb (fun x e => Nat.lt_of_lt_of_le ((h.row q hq).2.1.lt x e).2 hB), (h.row q hq).2.2⟩, h.apart⟩
theorem IRows.congr {w : World} {B th k : Nat} {v : Value} {g len : Nat → Nat} {F F' : Nat → List Int} (h : IRows w B th v k g len F) (e : ∀ q, q < k → F q = F' q) : IRows w B th v k g len F' :=
  ⟨h.own, fun q hq => by rw [← e q hq]; exact h.row q hq, h.apart⟩
theorem IRows.lens {w : World} {B th k : Nat} {v : Value} {g len len' : Nat → Nat} {F : Nat → List Int} (h : IRows w B th v k g len F) (e : ∀ q, q < k → len q = len' q) : IRows w B th v k g len' F := by
  have hown := h.own
  have e : ((List.range k).map fun q => Value.slice (some ⟨g q, 0, none⟩) (len q) th) = (List.range k).map fun q => Value.slice (some ⟨g q, 0, none⟩) (len' q) th := by
    apply List.map_congr_left
    intro q hq
    rw [e q (List.mem_range.1 hq)]
  rw [e] at hown
  exact ⟨hown, h.row, h.apart⟩
theorem IRows.cell {w : World} {B th k gv cv : Nat} {g len : Nat → Nat} {F : Nat → List Int} (h : IRows w B th (.slice (some ⟨gv, 0, none⟩) k cv) k g len F) {q : Nat} (hq : q < k) : w.cell? ⟨gv, q, none⟩ = some (.slice (some ⟨g q, 0, none⟩) (len q) th) := by
  rw [World.ownsRow.cellAt h.own q (by omega)]; simp [hq]
theorem IRows.num {w : World} {B th k : Nat} {v : Value} {g len : Nat → Nat} {F : Nat → List Int} (h : IRows w B th v k g len F) {q t : Nat} (hq : q < k) (ht : t < th) : w.cell? ⟨g q, t, none⟩ = some (.int .i64 ((F q).getD t 0)) := by
  obtain ⟨h1, h2, _⟩ := h.row q hq
  rw [World.ownsRow.cellAt h2 t (by omega)]; exact map_getElem (by omega)

theorem setCell_grown (w : World) (g o : Nat) (u : Value) : w.grownBy (w.setCell ⟨g, o, none⟩ u) (some g) := by
  have h := (Below.refl 0 w).setCell (p := ⟨g, o, none⟩) (Nat.zero_le _) u
  exact ⟨h.os, h.tape, h.output, h.size, fun k _ hne => Below.heap_setCell w _ u k (fun e => hne (by rw [e]))⟩

/-- One number of one row is written. -/
theorem IRows.stored {w : World} {B th k : Nat} {v : Value} {g len : Nat → Nat} {F : Nat → List Int} (h : IRows w B th v k g len F) {j t : Nat} (hj : j < k) (x : Int) :
    IRows (w.setCell ⟨g j, t, none⟩ (.int .i64 x)) B th v k g len (fun q => if q = j then (F j).set t x else F q) := by
  have hg := setCell_grown w (g j) t (.int .i64 x)
  refine ⟨h.own.kept hg (.inr (h.row j hj).2.2), fun q hq => ?_, h.apart⟩
  by_cases e : q = j
  · subst e
    simp only [if_true]
    refine ⟨by rw [List.length_set]; exact (h.row q hq).1, ?_, (h.row q hq).2.2⟩
    have := ((h.row q hq).2.1.stored t (.int .i64 x)).1
    rw [← List.map_set] at this
    exact this
  · simp only [e, if_false]
    refine ⟨(h.row q hq).1, (h.row q hq).2.1.kept hg (.inr (fun e2 => ?_)), (h.row q hq).2.2⟩
    have e3 : some (g q) = some (g j) := e2
    exact h.apart q j hq hj e (Option.some.inj e3)

/-- One row's slice is cut. -/
theorem IRows.cut {w : World} {B th k gv cv : Nat} {g len : Nat → Nat} {F : Nat → List Int} (h : IRows w B th (.slice (some ⟨gv, 0, none⟩) k cv) k g len F) {j : Nat} (hj : j < k) (m : Nat) :
    IRows (w.setCell ⟨gv, j, none⟩ (.slice (some ⟨g j, 0, none⟩) m th)) B th (.slice (some ⟨gv, 0, none⟩) k cv) k g (fun q => if q = j then m else len q) F := by
  have hg := setCell_grown w gv j (.slice (some ⟨g j, 0, none⟩) m th)
  refine ⟨?_, fun q hq => ⟨(h.row q hq).1, (h.row q hq).2.1.kept hg (.inr (fun e => (h.row q hq).2.2 e.symm)), (h.row q hq).2.2⟩, h.apart⟩
  have h1 := (h.own.stored j (.slice (some ⟨g j, 0, none⟩) m th)).1
  have e : ((List.range k).map fun q => Value.slice (some ⟨g q, 0, none⟩) (if q = j then m else len q) th) = ((List.range k).map fun q => Value.slice (some ⟨g q, 0, none⟩) (len q) th).set j (.slice (some ⟨g j, 0, none⟩) m th) := by
    apply List.ext_getElem?
    intro q
    rw [List.getElem?_set]
    by_cases hq : q < k
    · by_cases e : j = q
      · subst e; simp [hq]
      · have e' : ¬ q = j := fun h => e h.symm
        simp [hq, e, e']
    · simp [hq]
      intro e; omega
  rw [e]; exact h1

theorem IRows.start (w : World) (B th : Nat) (len : Nat → Nat) (F : Nat → List Int) : IRows w B th (.slice none 0 0) 0 (fun _ => 0) len F :=
  ⟨World.ownsRow_nil _ _ _ _, fun q hq => absurd hq (by omega), fun q q' hq => absurd hq (by omega)⟩

/-- A new row is appended. -/
theorem IRows.step {B th k : Nat} {wr w2 w3 : World} {v v' : Value} {g : Nat → Nat} {F : Nat → List Int} {o : Obj} (h : IRows wr B th v k g (fun _ => th) F) (hgr : wr.grownBy w2 none) (hB : B ≤ wr.heap.size) (hk : (F k).length = th)
    (hnew : w2.ownsRow wr.heap.size 3 1 (.slice (some ⟨wr.heap.size, 0, none⟩) th th) th ((F k).map (Value.int .i64)))
    (hown : w3.ownsRow B 22 1 v' (k + 1) (((List.range k).map fun q => Value.slice (some ⟨g q, 0, none⟩) th th) ++ [.slice (some ⟨wr.heap.size, 0, none⟩) th th])) (hg : (w2.alloc o).grownBy w3 v.ownBlock) (hat : v'.ownBlock = v.ownBlock ∨ v'.ownBlock = some (w2.alloc o).heap.size) :
    IRows w3 B th v' (k + 1) (fun q => if q = k then wr.heap.size else g q) (fun _ => th) F := by
  have hv : ∀ x, v.ownBlock = some x → x < wr.heap.size := fun x e => (h.own.lt x e).2
  have hlt2 : wr.heap.size < w2.heap.size := (hnew.lt _ rfl).2
  have hsz2 : (w2.alloc o).heap.size = w2.heap.size + 1 := by simp
  have hgq : ∀ q, q < k → g q < wr.heap.size := fun q hq => ((h.row q hq).2.1.lt _ rfl).2
  refine ⟨?_, fun q hq => ?_, fun q q' hq hq' hne => ?_⟩
  · have e : ((List.range (k + 1)).map fun q => Value.slice (some ⟨if q = k then wr.heap.size else g q, 0, none⟩) th th) = ((List.range k).map fun q => Value.slice (some ⟨g q, 0, none⟩) th th) ++ [.slice (some ⟨wr.heap.size, 0, none⟩) th th] := by
      rw [List.range_succ, List.map_append]
      congr 1
      · apply List.map_congr_left
        intro q hq
        rw [List.mem_range] at hq
        rw [if_neg (by omega)]
      · simp
    rw [e]; exact hown
  · by_cases e : q = k
    · subst e
      simp only [if_true]
      refine ⟨hk, ?_, ?_⟩
      · exact ((ownsRow_base hnew hB).alloc o).kept hg (.inr (fun e => by have := hv wr.heap.size (by rw [← e]; rfl); omega))
      · rcases hat with e | e
        · rw [e]; intro e2; have := hv _ e2; omega
        · rw [e]; intro e2; have := Option.some.inj e2; omega
    · simp only [e, if_false]
      have hq' : q < k := by omega
      obtain ⟨h1, h2, h3⟩ := h.row q hq'
      refine ⟨h1, ?_, ?_⟩
      · exact ((h2.kept hgr (.inr (by intro e; cases e))).alloc o).kept hg (.inr (fun e => h3 e.symm))
      · rcases hat with e | e
        · rw [e]; exact h3
        · rw [e]; intro e2; have := Option.some.inj e2; have := hgq q hq'; omega
  · by_cases e : q = k
    · by_cases e' : q' = k
      · omega
      · simp only [e, e', if_true, if_false]
        have := hgq q' (by omega); omega
    · by_cases e' : q' = k
      · simp only [e, e', if_true, if_false]
        have := hgq q (by omega); omega
      · simp only [e, e', if_false]
        exact h.apart q q' (by omega) (by omega) hne

set_option maxRecDepth 100000 in
set_option maxHeartbeats 2000000 in
theorem rStamps_any (a : Option Addr) (n cap : Nat) (l : List Ev) (th : Nat) (w : World) (hn : l.length = n) (hs : EvS w a l) (hb : n * 32 ≤ 140737488351232) (hth : th ≤ 64) :
    Calls Try.prog 26 #[.slice a n cap, .int .i64 (th : Int)] w fun e w' => ∃ v g, e = .returned v ∧ IRows w' w.heap.size th v n g (fun q => (stamp (ev l) th q).length) (fun q => full (ev l) th q (q + 1)) ∧ Below w.heap.size w w' := by
  obtain ⟨i0, hi0, hz0, hz1, hz2⟩ := info_parts Try.infoi
  obtain ⟨i1, hi1, hy0, hy1, hy2⟩ := info_parts Try.infois
  go_enter Try.func26, Try.ntmps26
  go_wp2_with fail
  go_loopw [5, 6] (fun v jv wr => ∃ (k : Nat) (g : Nat → Nat), k ≤ n ∧ jv = .int .i64 k ∧ IRows wr w.heap.size th v k g (fun _ => th) (fun q => full (ev l) th q 0) ∧ Below w.heap.size w wr) (fun _ jv _ => n - (intOf jv).toNat)
  case atStart => exact ⟨0, _, Nat.zero_le _, rfl, IRows.start _ _ _ _ _, Below.refl _ _⟩
  case round =>
    obtain ⟨k, g, hk, rfl, hf, hbel⟩ := hrel
    have hsz := hbel.size
    by_cases h5 : k < n
    · have hown := hf.own
      go_wp2_with (first | (at_make; refine wpList_make_full _ rfl _ _ 22 rfl wr.heap.size 3 i0 (.int .i64 0) 1 Try.underlying22 hi0 hz0 hz1 _ _ _ _ th rfl rfl (by first | rfl | simp) (by first | rfl | simp) (by rw [hz2]; omega) (by unfold maxLen; omega) (Nat.le_refl _) ?_; intro w2 hrow hgr; have hown2 := owns_none hown hgr; have hsz2 := hgr.size) | (at_builtin; refine wpList_append_own_at _ rfl _ _ 34 rfl w.heap.size 22 i1 (.slice none 0 0) 1 24 Try.underlying34 hi1 hy0 hy1 hy2 rfl (by decide) _ _ _ rfl (hown2.alloc _) ⟨_, 0, none⟩ 1 1 [_] rfl rfl (cell_one_new _ _ _) (by simp [Value.oneCell']) (by unfold maxLen; omega) (by omega) (by simp; omega) ?_; intro v' w3 hown' hgrow _ hat))
      have hrow2 : w2.ownsRow wr.heap.size 3 1 (.slice (some ⟨wr.heap.size, 0, none⟩) th th) th ((full (ev l) th k 0).map (Value.int .i64)) := by
        have e : (madeCells (Value.int IntKind.i64 0).cells (th * 1)).toList = (full (ev l) th k 0).map (Value.int .i64) := by
          rw [show (Value.int IntKind.i64 0).cells = #[Value.int IntKind.i64 0] from rfl, toList_madeCells_one, Nat.mul_one, full_zero, List.map_replicate]
        rw [← e]; exact hrow
      have hf2 := hf.step (F := fun q => full (ev l) th q 0) hgr hsz (full_length _ _ _ _) hrow2 hown' hgrow hat
      have hbel3 : Below w.heap.size w w3 := (((hbel.grown hgr hsz (fun q e => by cases e))).alloc (by omega) _).grown hgrow (by simp; omega) (fun q e => (hown.lt q e).1)
      clear hrow hrow2 hown' hgrow hown hown2 hf hbel hgr hat
      go_wp2_with fail
      go_roundw
      case rel => exact ⟨k + 1, _, by omega, by go_num, hf2, hbel3⟩
      case measure => simp [intOf]; omega
    · obtain rfl : k = n := by omega
      have hs4 := hs
      go_wp2_with fail
      go_loopw [7, 8, 9, 10] (fun iv _ _ _ wr => ∃ i : Nat, i ≤ k ∧ iv = .int .i64 i ∧ IRows wr w.heap.size th u5 k g (fun _ => th) (fun q => full (ev l) th q i) ∧ Below w.heap.size w wr) (fun iv _ _ _ _ => k - (intOf iv).toNat)
      case atStart => exact ⟨0, Nat.zero_le _, rfl, hf, hbel⟩
      case round =>
        clear hf hbel hsz
        obtain ⟨i, hi, rfl, hf, hbel⟩ := hrel
        have hsz := hbel.size
        by_cases h6 : i < k
        · obtain ⟨b, off, rfl, hlt, _⟩ := hs i (by omega)
          obtain ⟨t1, k1, o1, v1, HE1, c0, _, _, _⟩ := hs.at hbel (i := i) (by omega)
          by_cases ht0 : t1 < 0
          · have hf2 : Hid (IRows wr w.heap.size th u5 k g (fun _ => th) (fun q => full (ev l) th q (i + 1))) := hf.congr (fun q _ => (full_same (fun t _ => by
              unfold upto
              rw [HE1.out]
              have : (t1 == (t : Int)) = false := by simp; omega
              rw [this, Bool.false_and])).symm)
            clear hf HE1
            go_wp2_with fail
            go_roundw
            case rel => exact ⟨i + 1, by omega, by go_num, hf2.out, hbel⟩
            case measure => simp [intOf]; omega
          · by_cases ht1 : (th : Int) ≤ t1
            · have hf2 : Hid (IRows wr w.heap.size th u5 k g (fun _ => th) (fun q => full (ev l) th q (i + 1))) := hf.congr (fun q _ => (full_same (fun t ht => by
                unfold upto
                rw [HE1.out]
                have : (t1 == (t : Int)) = false := by simp; omega
                rw [this, Bool.false_and])).symm)
              clear hf HE1
              go_wp2_with fail
              go_roundw
              case rel => exact ⟨i + 1, by omega, by go_num, hf2.out, hbel⟩
              case measure => simp [intOf]; omega
            · obtain ⟨t, rfl⟩ := Int.eq_ofNat_of_zero_le (by omega : 0 ≤ t1)
              have htt : t < th := by omega
              have HTh : Hid ((ev l i).thread = (t : Int)) := by unfold Hid; rw [HE1.out]
              clear HE1
              go_wp2_with fail
              refine (rAfter_any _ _ _ _ _ _ hn (hs.below hbel) hb h6).mono ?_
              rintro e w2 ⟨rfl, htl, hb2⟩
              have hf2 := hf.below hb2 (Nat.le_refl _)
              have hbel2 : Below w.heap.size w w2 := hbel.trans (hb2.mono hsz)
              have hgq0 : ∀ q, q < k → g q < wr.heap.size := fun q hq => ((hf.row q hq).2.1.lt _ rfl).2
              have hgvv : ∀ x, u5.ownBlock = some x → x < wr.heap.size := fun x e => (hf.own.lt x e).2
              clear hf hbel hb2 c0
              obtain ⟨gv, cv, rfl, _, hgv⟩ := hf2.own.form (by omega)
              have hgq : Hid (∀ q, q < k → g q < wr.heap.size) := hgq0
              have hgv0 : gv < wr.heap.size := hgvv gv rfl
              generalize wr.heap.size = G at *
              go_wp2_with fail
              go_loopw [10] (fun jv w5 => ∃ j : Nat, i ≤ j ∧ j ≤ k ∧ jv = .int .i64 j ∧ IRows w5 w.heap.size th (.slice (some ⟨gv, 0, none⟩) k cv) k g (fun _ => th) (fun q => if q < j then full (ev l) th q (i + 1) else full (ev l) th q i) ∧ Tells w5 G G k (bef (ev l) i) ∧ Below w.heap.size w w5) (fun jv _ => k - (intOf jv).toNat)
              case atStart =>
                refine ⟨i, Nat.le_refl _, hi, rfl, hf2.congr (fun q hq => ?_), htl, hbel2⟩
                split
                · rename_i hqi
                  refine (full_same (fun t' _ => ?_)).symm
                  unfold upto
                  have e1 : (i == q) = false := by simp; omega
                  rw [e1, bef_ge (by omega)]; simp
                · rfl
              case round =>
                clear hf2 hbel2 htl
                obtain ⟨j, hij, hj, rfl, hf, htl, hbel⟩ := hrel
                by_cases h7 : j < k
                · have hcj := hf.cell h7
                  have hnum := hf.num h7 htt
                  rw [if_neg (by omega)] at hnum
                  have hcb := htl.cell h7
                  have hfz := (hf.row j h7).2.1.frozenAt t
                  have hxc : (full (ev l) th j i).getD t 0 = (cnt (ev l) j (t : Int) i : Int) := full_getD _ _ _ _ _ htt
                  have hcl := cnt_le (ev l) j (t : Int) i
                  have HX := o_hide hxc
                  generalize hgx : (full (ev l) th j i).getD t 0 = x at *
                  have HGX := o_hide hgx
                  have hx0 : 0 ≤ x := by rw [hxc]; omega
                  have hx1 : x ≤ 4398046511104 := by rw [hxc]; omega
                  clear hgx hxc hcl
                  have htn : (t : Int) < (th : Int) := by omega
                  have hjn : (j : Int) < (k : Int) := by omega
                  cases hu : (i == j || bef (ev l) i j) with
                  | true =>
                    have hf2 : Hid (IRows (wr.setCell ⟨g j, t, none⟩ (.int .i64 (x + 1))) w.heap.size th (.slice (some ⟨gv, 0, none⟩) k cv) k g (fun _ => th) (fun q => if q < j + 1 then full (ev l) th q (i + 1) else full (ev l) th q i)) := by
                      refine (hf.stored h7 (x + 1)).congr (fun q _ => ?_)
                      by_cases e : q = j
                      · subst e
                        rw [if_pos rfl, if_neg (by omega), if_pos (by omega), full_up HTh.out htt hu, HGX.out]
                      · rw [if_neg e]
                        by_cases e2 : q < j
                        · rw [if_pos e2, if_pos (by omega)]
                        · rw [if_neg e2, if_neg (by omega)]
                    have hgj := hgq.out j h7
                    have ht2 : Hid (Tells (wr.setCell ⟨g j, t, none⟩ (.int .i64 (x + 1))) G G k (bef (ev l) i)) := World.ownsRow.kept htl (setCell_grown wr (g j) t _) (.inr (by intro e; have e3 : G = g j := Option.some.inj e; omega))
                    have hb2 : Hid (Below w.heap.size w (wr.setCell ⟨g j, t, none⟩ (.int .i64 (x + 1)))) := hbel.setCell (p := ⟨g j, t, none⟩) (((hf.row j h7).2.1.lt _ rfl).1) _
                    by_cases hji : ((j : Int) == (i : Int)) = true
                    · clear hf htl hbel hu
                      go_wp2
                      go_roundw
                      case rel => exact ⟨j + 1, by omega, by omega, by go_num, hf2.out, ht2.out, hb2.out⟩
                      case measure => simp [intOf]; omega
                    · have hji2 : ((j : Int) == (i : Int)) = false := by simpa using hji
                      have hbt : bef (ev l) i j = true := by
                        rw [Bool.or_eq_true] at hu
                        rcases hu with e | e
                        · have e' : i = j := by simpa using e
                          subst e'; simp at hji
                        · exact e
                      rw [hbt] at hcb
                      clear hf htl hbel hu hji hbt
                      go_wp2
                      go_roundw
                      case rel => exact ⟨j + 1, by omega, by omega, by go_num, hf2.out, ht2.out, hb2.out⟩
                      case measure => simp [intOf]; omega
                  | false =>
                    have hf2 : Hid (IRows wr w.heap.size th (.slice (some ⟨gv, 0, none⟩) k cv) k g (fun _ => th) (fun q => if q < j + 1 then full (ev l) th q (i + 1) else full (ev l) th q i)) := by
                      refine hf.congr (fun q _ => ?_)
                      by_cases e : q = j
                      · subst e
                        rw [if_neg (by omega), if_pos (by omega)]
                        refine (full_same (fun t' _ => ?_)).symm
                        unfold upto
                        rw [hu, Bool.and_false]
                      · by_cases e2 : q < j
                        · rw [if_pos e2, if_pos (by omega)]
                        · rw [if_neg e2, if_neg (by omega)]
                    rw [Bool.or_eq_false_iff] at hu
                    have hji2 : ((j : Int) == (i : Int)) = false := by
                      have := hu.1
                      simp at this ⊢; omega
                    rw [hu.2] at hcb
                    clear hf hu
                    go_wp2
                    go_roundw
                    case rel => exact ⟨j + 1, by omega, by omega, by go_num, hf2.out, htl, hbel⟩
                    case measure => simp [intOf]; omega
                · have hf2 : Hid (IRows wr w.heap.size th (.slice (some ⟨gv, 0, none⟩) k cv) k g (fun _ => th) (fun q => full (ev l) th q (i + 1))) := hf.congr (fun q hq => by rw [if_pos (by omega)])
                  clear hf htl
                  go_wp2_with fail
                  go_roundw
                  case rel => exact ⟨i + 1, by omega, by go_num, hf2.out, hbel⟩
                  case measure => simp [intOf]; omega
        · have hf2 : IRows wr w.heap.size th u5 k g (fun _ => th) (fun q => full (ev l) th q (q + 1)) := hf.congr (fun q hq => by
            have e : i = k := by omega
            rw [e]; exact full_past _ _ _ _ (by omega))
          clear hf
          by_cases hk0 : k = 0
          · subst hk0
            have hl0 : u5 = .slice none 0 0 ∨ ∃ gv cv, u5 = .slice (some ⟨gv, 0, none⟩) 0 cv := by
              rcases hf2.own.2 with ⟨e, _⟩ | ⟨gv, cv, _, e, _⟩
              · exact .inl e
              · exact .inr ⟨gv, cv, e⟩
            have hres : Hid (IRows wr w.heap.size th u5 0 g (fun q => (stamp (ev l) th q).length) (fun q => full (ev l) th q (q + 1))) :=
              ⟨by simpa using hf2.own, fun q hq => absurd hq (by omega), fun q q' hq => absurd hq (by omega)⟩
            rcases hl0 with rfl | ⟨gv, cv, rfl⟩
            all_goals
              clear hf2
              go_wp2_with fail
              go_loopw [11, 12] (fun jv _ w5 => jv = .int .i64 0 ∧ w5 = wr) (fun _ _ _ => 0)
              case atStart => exact ⟨rfl, rfl⟩
              case round =>
                obtain ⟨rfl, hw5⟩ := hrel
                subst hw5
                go_wp2_with fail
                go_ret
                exact ⟨_, g, rfl, hres.out, hbel⟩
          · obtain ⟨gv, cv, rfl, _, hgv⟩ := hf2.own.form (by omega)
            go_wp2_with fail
            go_loopw [11, 12] (fun jv _ w5 => ∃ j : Nat, j ≤ k ∧ jv = .int .i64 j ∧ IRows w5 w.heap.size th (.slice (some ⟨gv, 0, none⟩) k cv) k g (fun q => if q < j then (stamp (ev l) th q).length else th) (fun q => full (ev l) th q (q + 1)) ∧ Below w.heap.size w w5) (fun jv _ _ => k - (intOf jv).toNat)
            case atStart => exact ⟨0, Nat.zero_le _, rfl, by simpa using hf2, hbel⟩
            case round =>
              clear hf2 hbel
              obtain ⟨j, hj, rfl, hf, hbel⟩ := hrel
              by_cases h7 : j < k
              · have hcj := hf.cell h7
                rw [if_neg (by omega)] at hcj
                go_wp2_with fail
                go_loopw [12] (fun nv w5 => ∃ m : Nat, m ≤ th ∧ nv = .int .i64 m ∧ w5 = wr ∧ ∀ q, m ≤ q → (full (ev l) th j (j + 1)).getD q 0 = 0) (fun nv _ => (intOf nv).toNat)
                case atStart => exact ⟨th, Nat.le_refl _, rfl, rfl, fun q hq => Vec.getD_past _ _ (by rw [full_length]; exact hq)⟩
                case round =>
                  obtain ⟨m, hm, rfl, hw5, hall⟩ := hrel
                  subst hw5
                  have HA := o_hide hall
                  clear hall
                  have hexit : Hid ((m = 0 ∨ (full (ev l) th j (j + 1)).getD (m - 1) 0 ≠ 0) → IRows (wr.setCell ⟨gv, j, none⟩ (.slice (some ⟨g j, 0, none⟩) m th)) w.heap.size th (.slice (some ⟨gv, 0, none⟩) k cv) k g (fun q => if q < j + 1 then (stamp (ev l) th q).length else th) (fun q => full (ev l) th q (q + 1))) := by
                    intro hor
                    refine (hf.cut h7 m).lens (fun q _ => ?_)
                    by_cases e : q = j
                    · subst e
                      rw [if_pos rfl, if_pos (by omega)]
                      unfold stamp
                      rw [Vec.trim_eq _ m (by rw [full_length]; exact hm) HA.out hor, List.length_take, full_length]
                      omega
                    · rw [if_neg e]
                      by_cases e2 : q < j
                      · rw [if_pos e2, if_pos (by omega)]
                      · rw [if_neg e2, if_neg (by omega)]
                  have hfz := World.ownsRow.frozenAt hf.own j
                  have hb2 : Hid (Below w.heap.size w (wr.setCell ⟨gv, j, none⟩ (.slice (some ⟨g j, 0, none⟩) m th))) := hbel.setCell (p := ⟨gv, j, none⟩) ((hf.own.lt _ rfl).1) _
                  have hjn : (j : Int) < (k : Int) := by omega
                  by_cases hm0 : m = 0
                  · have hfin := o_hide (hexit.out (.inl hm0))
                    subst hm0
                    clear hexit hf
                    go_wp2
                    go_roundw
                    case rel => exact ⟨j + 1, by omega, by go_num, hfin.out, hb2.out⟩
                    case measure => simp [intOf]; omega
                  · obtain ⟨q, rfl⟩ : ∃ q, m = q + 1 := ⟨m - 1, by omega⟩
                    have hnum := hf.num h7 (t := q) (by omega)
                    have hqt : (q : Int) < (th : Int) := by omega
                    generalize hx : (full (ev l) th j (j + 1)).getD q 0 = x at hnum
                    have HX := o_hide hx
                    clear hx hm0
                    by_cases hx0 : x = 0
                    · have hxb : (x == 0) = true := by simpa using hx0
                      have HA2 : Hid (∀ q', q ≤ q' → (full (ev l) th j (j + 1)).getD q' 0 = 0) := by
                        intro q' hq'
                        by_cases e : q' = q
                        · subst e; rw [HX.out]; exact hx0
                        · exact HA.out q' (by omega)
                      clear hx0 hexit hb2
                      go_wp2
                      go_roundw
                      case rel => exact ⟨q, by omega, by go_num, by first | rfl | trivial, HA2.out⟩
                      case measure => simp [intOf]
                    · have hxb : (x == 0) = false := by simpa using hx0
                      have hfin := o_hide (hexit.out (.inr (by rw [Nat.add_sub_cancel, HX.out]; exact hx0)))
                      clear hx0 hexit hf
                      go_wp2
                      go_roundw
                      case rel => exact ⟨j + 1, by omega, by go_num, hfin.out, hb2.out⟩
                      case measure => simp [intOf]; omega
              · have hres : Hid (IRows wr w.heap.size th (.slice (some ⟨gv, 0, none⟩) k cv) k g (fun q => (stamp (ev l) th q).length) (fun q => full (ev l) th q (q + 1))) := by
                  have hown := hf.own
                  have e : ((List.range k).map fun q => Value.slice (some ⟨g q, 0, none⟩) (if q < j then (stamp (ev l) th q).length else th) th) = (List.range k).map fun q => Value.slice (some ⟨g q, 0, none⟩) (stamp (ev l) th q).length th := by
                    apply List.map_congr_left
                    intro q hq
                    rw [if_pos (by have := List.mem_range.1 hq; omega)]
                  rw [e] at hown
                  exact ⟨hown, hf.row, hf.apart⟩
                clear hf
                go_wp2_with fail
                go_ret
                exact ⟨_, g, rfl, hres.out, hbel⟩
end Go.Proofs.Ytomhdopbbnmcnab
namespace Go.Proofs.Ytomhdopbbnmcnab
open Go.RowKit Go.Proofs.Ord

set_option maxRecDepth 100000 in
set_option maxHeartbeats 1000000 in
theorem rRacy6_any (a : Option Addr) (n cap : Nat) (l : List Ev) (af : Option Addr) (nf cf : Nat) (f : Nat → Bool) (m : Nat) (w : World) (hn : l.length = n) (hs : EvS w a l) (hb : n ≤ 1048576) (hf : BoolS w af n f) (hm : m ≤ n) (hnf : nf = n) :
    Calls Try.prog 39 #[.slice a n cap, .slice af nf cf, .int .i64 (m : Int)] w fun e w' => ∃ v, e = .returned v ∧ New w.heap.size w' v (varsTo (ev l) f m) ∧ Below w.heap.size w w' := by
  obtain ⟨i0, hi, hz0, hz1, hz2⟩ := info_parts Try.info3
  subst hnf
  go_enter Try.func39, Try.ntmps39
  go_wp2
  go_loopw [7, 8, 9, 10, 11] (fun ov jv _ _ _ wr => ∃ j : Nat, j ≤ m ∧ jv = .int .i64 j ∧ wr.ownsRow w.heap.size 3 1 ov (varsTo (ev l) f j).length ((varsTo (ev l) f j).map (Value.int .i64)) ∧ Below w.heap.size w wr) (fun _ jv _ _ _ _ => m - (intOf jv).toNat)
  case atStart => exact ⟨0, Nat.zero_le _, rfl, World.ownsRow_nil _ _ _ _, Below.refl _ _⟩
  case round =>
    obtain ⟨j, hj, rfl, hout, hbel⟩ := hrel
    have hsz := hbel.size
    by_cases h5 : j < m
    · obtain ⟨bf, of, rfl, _, d0⟩ := (hf.below hbel) j (by omega)
      obtain ⟨b, off, rfl, hlt, _⟩ := hs j (by omega)
      obtain ⟨t1, k1, x, v1, HE1, _, _, c2, _⟩ := hs.at hbel (i := j) (by omega)
      have hjn : (j : Int) < (nf : Int) := by omega
      have hjm : (j : Int) < (m : Int) := by omega
      have hltw : b < wr.heap.size := by omega
      have HV : Hid (varsTo (ev l) f (j + 1) = if f j then ins x (varsTo (ev l) f j) else varsTo (ev l) f j) := by
        unfold Hid; rw [varsTo, HE1.out]
      have hvl := varsTo_length (ev l) f j
      clear HE1
      cases hfj : f j with
      | false =>
        rw [hfj] at HV d0
        have hout2 : Hid (wr.ownsRow w.heap.size 3 1 u7 (varsTo (ev l) f (j + 1)).length ((varsTo (ev l) f (j + 1)).map (Value.int .i64))) := by
          unfold Hid; rw [HV.out]; exact hout
        clear hout
        go_wp2_with fail
        go_roundw
        case rel => exact ⟨j + 1, by omega, by go_num, hout2.out, hbel⟩
        case measure => simp [intOf]; omega
      | true =>
        rw [hfj] at HV d0
        simp only [if_true] at HV
        generalize varsTo (ev l) f j = out at *
        obtain ⟨ao, co, rfl, hlo, h2, h3, h3', h4⟩ := New.of_owns hout
        obtain ⟨wo, hwo⟩ : ∃ z, z = wr := ⟨wr, rfl⟩
        subst hwo
        have hsl : Sl wo ao out := fun i hi => by obtain ⟨b, off, e1, _, e3, e4, _⟩ := h4 i (by omega); exact ⟨b, off, e1, e3, e4⟩
        clear h4 h3' hlo hout
        go_wp2_with fail
        clear d0
        go_loopw [9, 10, 11] (fun nv dv iv wi => ∃ i : Nat, i ≤ out.length ∧ iv = .int .i64 i ∧ dv = .bool (insTo x out i).2 ∧ wi.ownsRow wo.heap.size 3 1 nv (insTo x out i).1.length ((insTo x out i).1.map (Value.int .i64)) ∧ Below wo.heap.size wo wi) (fun _ _ iv _ => out.length - (intOf iv).toNat)
        case atStart => exact ⟨0, Nat.zero_le _, rfl, rfl, World.ownsRow_nil _ _ _ _, Below.refl _ _⟩
        case round =>
          obtain ⟨i, hi2, rfl, rfl, hown, hbi⟩ := hrel
          have hszi := hbi.size
          have HL := insTo_length x out i
          have c2i := (hbi.cell (p := ⟨b, off + j * 4 + 2, none⟩) hltw).trans c2
          by_cases h6 : i < out.length
          · obtain ⟨bo, oo, rfl, hlto, c0⟩ := hsl i h6
            have c0i := (hbi.cell (p := ⟨bo, oo + i, none⟩) hlto).trans c0
            have h6a : (i : Int) < (out.length : Int) := by omega
            have HI : Hid (insTo x out (i + 1) = insStep x (insTo x out i) (out.getD i 0)) := rfl
            generalize out.getD i 0 = y at *
            generalize hst : insTo x out i = st at *
            obtain ⟨nx, dn⟩ := st
            simp only at HL hown
            have hnx : nx.length ≤ 1048577 := by split at HL <;> omega
            cases dn with
            | true =>
              have R : Hid (∀ (v' : Value) (w1 : World), w1.ownsRow wo.heap.size 3 1 v' (nx.length + 1) (nx.map (Value.int .i64) ++ [.int .i64 y]) → (w1.ownsRow wo.heap.size 3 1 v' (insTo x out (i + 1)).1.length ((insTo x out (i + 1)).1.map (Value.int .i64)) ∧ (insTo x out (i + 1)).2 = true)) := by
                intro v' w1 h; rw [HI.out]; simpa [insStep] using h
              clear HI HL c2 c0
              go_wp2_with fail
              go_quiet (fail)
              have hownq := ownsRow_below hown (o_drewN (Below.refl wr.heap.size wr) nq) (fun q e => (hown.lt q e).2)
              have hbq := o_drewN hbi nq
              clear hown hbi
              go_wp2_with (at_builtin; refine wpList_append_own _ rfl _ _ 22 rfl wo.heap.size 3 i0 (.int .i64 0) 1 8 Try.underlying22 hi hz0 hz1 hz2 rfl (by decide) _ _ _ rfl (hownq.alloc _) ⟨_, 0, none⟩ 1 1 [_] rfl rfl (one_new _ _ _) (by simp [Value.oneCell']) (by unfold maxLen; omega) (by omega) (by simp; omega) ?_; intro v' w1 hown' hgrow _)
              have hown2 := R.out _ _ hown'
              have hbel2 := (hbq.alloc hbq.size _).grown hgrow (by simp; omega) (fun q e => (hownq.lt q e).1)
              clear hown' hgrow hownq hbq R
              go_wp2
              go_roundw
              case rel => exact ⟨i + 1, by omega, by go_num, by rw [hown2.2], hown2.1, hbel2⟩
              case measure => simp [intOf]; omega
            | false =>
              by_cases hxy : x < y
              · have R : Hid (∀ (v' : Value) (w1 : World), w1.ownsRow wo.heap.size 3 1 v' (nx.length + 1 + 1) (nx.map (Value.int .i64) ++ [.int .i64 x] ++ [.int .i64 y]) → (w1.ownsRow wo.heap.size 3 1 v' (insTo x out (i + 1)).1.length ((insTo x out (i + 1)).1.map (Value.int .i64)) ∧ (insTo x out (i + 1)).2 = true)) := by
                  intro v' w1 h; rw [HI.out]; simpa [insStep, hxy] using h
                clear HI HL c2
                go_wp2_with fail
                go_quiet (fail)
                have hownq := ownsRow_below hown (o_drewN (Below.refl wr.heap.size wr) nq) (fun q e => (hown.lt q e).2)
                have hbq := o_drewN hbi nq
                clear hown hbi
                go_wp2_with (first | (at_builtin; refine wpList_append_own _ rfl _ _ 22 rfl wo.heap.size 3 i0 (.int .i64 0) 1 8 Try.underlying22 hi hz0 hz1 hz2 rfl (by decide) _ _ _ rfl (hown'.alloc _) ⟨_, 0, none⟩ 1 1 [_] rfl rfl (one_new _ _ _) (by simp [Value.oneCell']) (by unfold maxLen; omega) (by omega) (by simp; omega) ?_; intro v'' w2 hown'' hgrow' _) | (at_builtin; refine wpList_append_own _ rfl _ _ 22 rfl wo.heap.size 3 i0 (.int .i64 0) 1 8 Try.underlying22 hi hz0 hz1 hz2 rfl (by decide) _ _ _ rfl (hownq.alloc _) ⟨_, 0, none⟩ 1 1 [_] rfl rfl (one_new _ _ _) (by simp [Value.oneCell']) (by unfold maxLen; omega) (by omega) (by simp; omega) ?_; intro v' w1 hown' hgrow _; have hb1 := (hbq.alloc hbq.size _).grown hgrow (by simp; omega) (fun q e => (hownq.lt q e).1); have hs1 := hb1.size; have c01 := (hb1.cell (p := ⟨bo, oo + i, none⟩) hlto).trans c0))
                have hown2 := R.out _ _ hown''
                have hbel2 := (hb1.alloc hb1.size _).grown hgrow' (by simp; omega) (fun q e => (hown'.lt q e).1)
                clear hown'' hgrow' hown' hgrow hownq hbq R
                go_wp2
                go_roundw
                case rel => exact ⟨i + 1, by omega, by go_num, by rw [hown2.2], hown2.1, hbel2⟩
                case measure => simp [intOf]; omega
              · have R : Hid (∀ (v' : Value) (w1 : World), w1.ownsRow wo.heap.size 3 1 v' (nx.length + 1) (nx.map (Value.int .i64) ++ [.int .i64 y]) → (w1.ownsRow wo.heap.size 3 1 v' (insTo x out (i + 1)).1.length ((insTo x out (i + 1)).1.map (Value.int .i64)) ∧ (insTo x out (i + 1)).2 = false)) := by
                  intro v' w1 h; rw [HI.out]; simpa [insStep, hxy] using h
                clear HI HL c2 c0
                go_wp2_with fail
                go_quiet (fail)
                have hownq := ownsRow_below hown (o_drewN (Below.refl wr.heap.size wr) nq) (fun q e => (hown.lt q e).2)
                have hbq := o_drewN hbi nq
                clear hown hbi
                go_wp2_with (at_builtin; refine wpList_append_own _ rfl _ _ 22 rfl wo.heap.size 3 i0 (.int .i64 0) 1 8 Try.underlying22 hi hz0 hz1 hz2 rfl (by decide) _ _ _ rfl (hownq.alloc _) ⟨_, 0, none⟩ 1 1 [_] rfl rfl (one_new _ _ _) (by simp [Value.oneCell']) (by unfold maxLen; omega) (by omega) (by simp; omega) ?_; intro v' w1 hown' hgrow _)
                have hown2 := R.out _ _ hown'
                have hbel2 := (hbq.alloc hbq.size _).grown hgrow (by simp; omega) (fun q e => (hownq.lt q e).1)
                clear hown' hgrow hownq hbq R
                go_wp2
                go_roundw
                case rel => exact ⟨i + 1, by omega, by go_num, by rw [hown2.2], hown2.1, hbel2⟩
                case measure => simp [intOf]; omega
          · obtain rfl : i = out.length := by omega
            have HI : Hid (ins x out = if (insTo x out out.length).2 then (insTo x out out.length).1 else (insTo x out out.length).1 ++ [x]) := rfl
            generalize hst : insTo x out out.length = st at *
            obtain ⟨nx, dn⟩ := st
            simp only at HL hown HI
            have hnx : nx.length ≤ 1048577 := by split at HL <;> omega
            cases dn with
            | true =>
              have hown2 : Hid (wr.ownsRow w.heap.size 3 1 u9 (varsTo (ev l) f (j + 1)).length ((varsTo (ev l) f (j + 1)).map (Value.int .i64))) := by
                unfold Hid; rw [HV.out, HI.out]; exact ownsRow_base hown hsz
              have hbel2 := o_hide (hbel.trans (hbi.mono hsz))
              clear HI HL hown hbi
              go_wp2_with fail
              go_roundw
              case rel => exact ⟨j + 1, by omega, by go_num, hown2.out, hbel2.out⟩
              case measure => simp [intOf]; omega
            | false =>
              have R : Hid (∀ (v' : Value) (w1 : World), w1.ownsRow wo.heap.size 3 1 v' (nx.length + 1) (nx.map (Value.int .i64) ++ [.int .i64 x]) → w1.ownsRow w.heap.size 3 1 v' (varsTo (ev l) f (j + 1)).length ((varsTo (ev l) f (j + 1)).map (Value.int .i64))) := by
                intro v' w1 h; rw [HV.out, HI.out]; have h9 := ownsRow_base h hsz; simpa using h9
              clear HI HL
              go_wp2_with (at_builtin; refine wpList_append_own _ rfl _ _ 22 rfl wo.heap.size 3 i0 (.int .i64 0) 1 8 Try.underlying22 hi hz0 hz1 hz2 rfl (by decide) _ _ _ rfl (hown.alloc _) ⟨_, 0, none⟩ 1 1 [_] rfl rfl (one_new _ _ _) (by simp [Value.oneCell']) (by unfold maxLen; omega) (by omega) (by simp; omega) ?_; intro v' w1 hown' hgrow _)
              have hown2 := R.out _ _ hown'
              have hbel2 := o_hide (hbel.trans (((hbi.alloc hbi.size _).grown hgrow (by simp; omega) (fun q e => (hown.lt q e).1)).mono hsz))
              clear hown' hgrow hown hbi R
              go_wp2
              go_roundw
              case rel => exact ⟨j + 1, by omega, by go_num, hown2, hbel2.out⟩
              case measure => simp [intOf]; omega
    · obtain ⟨ao, co, rfl, hlo, h2, h3, h3', h4⟩ := New.of_owns hout
      obtain rfl : j = m := by omega
      have hfin : Hid (New w.heap.size wr (.slice ao (varsTo (ev l) f j).length co) (varsTo (ev l) f j)) := ⟨ao, co, rfl, h2, h3, h3', fun i hi => h4 i (by omega)⟩
      clear h4 hout
      go_wp2_with fail
      go_ret
      exact ⟨_, rfl, hfin.out, hbel⟩
end Go.Proofs.Ytomhdopbbnmcnab
