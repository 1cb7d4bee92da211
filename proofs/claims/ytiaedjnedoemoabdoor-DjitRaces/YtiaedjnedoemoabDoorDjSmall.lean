import Derived.Test.YtiaedjnedoemoabDoorStNext
import Derived.Test.YtiaedjnedoemoabDoorLastMath
import Derived.Test.YtiaedjnedoemoabDoorOrdEv
namespace Go.Proofs.YtiaedjnedoemoabDoor
open Go.RowKit Go.Proofs.Ord

set_option maxHeartbeats 400000 in
theorem isAccess_any (t k o v : Int) (w : World) :
    Calls Tryd.prog 11 #[evV ⟨t, k, o, v⟩] w fun e w' => e = .returned (.bool (access ⟨t, k, o, v⟩)) ∧ Below w.heap.size w w' := by
  have hb : Hid (∀ x, Below w.heap.size w (w.alloc x)) := fun x => (Below.refl _ _).alloc (Nat.le_refl _) _
  rw [access_mk]
  unfold evV
  go_enter Tryd.func11, Tryd.ntmps11
  go_wp2
  all_goals
    go_ret
    exact ⟨o_ret_bool (by simp [*]), hb.out _⟩

/-- A slice of pairs that is there. -/
def DoorV (w : World) (u : Value) (ds : List (Int × Int)) : Prop := ∃ a cap, u = .slice a ds.length cap ∧ ds.length ≤ cap ∧ cap ≤ 9223372036854775807 ∧ DoorS w a ds
theorem doorV_one (W : World) (d : Int × Int) (t : TypeId) : DoorV (W.alloc (.cells #[.int .i64 d.1, .int .i64 d.2] t)) (.slice (some ⟨W.heap.size, 0, none⟩) 1 1) [d] := by
  refine ⟨_, _, rfl, Nat.le_refl _, by omega, fun i hi => ⟨W.heap.size, rfl, by simp, ?_⟩⟩
  obtain rfl : i = 0 := by simpa using hi
  have h := cells_two (w := W.alloc (.cells #[.int .i64 d.1, .int .i64 d.2] t)) (heap_alloc_new W _)
  exact h
theorem cells_four {w : World} {b : Nat} {x y z u : Value} {T : TypeId} {fr : Nat × Nat} (h : w.heap[b]? = some (.cells #[x, y, z, u] T fr)) : w.cell? ⟨b, 0, none⟩ = some x ∧ w.cell? ⟨b, 1, none⟩ = some y ∧ w.cell? ⟨b, 2, none⟩ = some z ∧ w.cell? ⟨b, 3, none⟩ = some u := by
  refine ⟨?_, ?_, ?_, ?_⟩ <;> simp [World.cell?, h]
theorem doorV_two (W : World) (d d' : Int × Int) (t : TypeId) : DoorV (W.alloc (.cells #[.int .i64 d.1, .int .i64 d.2, .int .i64 d'.1, .int .i64 d'.2] t)) (.slice (some ⟨W.heap.size, 0, none⟩) 2 2) [d, d'] := by
  refine ⟨_, _, rfl, Nat.le_refl _, by omega, fun i hi => ⟨W.heap.size, rfl, by simp, ?_⟩⟩
  have h := cells_four (w := W.alloc (.cells #[.int .i64 d.1, .int .i64 d.2, .int .i64 d'.1, .int .i64 d'.2] t)) (heap_alloc_new W _)
  have hi2 : i < 2 := hi
  match i, hi2 with
  | 0, _ => exact ⟨h.1, h.2.1⟩
  | 1, _ => exact ⟨h.2.2.1, h.2.2.2⟩

set_option maxRecDepth 100000 in
set_option maxHeartbeats 1000000 in
theorem rivals_any (t k o v : Int) (w : World) :
    Calls Tryd.prog 19 #[evV ⟨t, k, o, v⟩] w fun e w' => ∃ u, e = .returned u ∧ DoorV w' u (rivalsOf ⟨t, k, o, v⟩) ∧ (∀ b off n cap, u = .slice (some ⟨b, off, none⟩) n cap → w.heap.size ≤ b) ∧ Below w.heap.size w w' := by
  have hb1 : Hid (∀ x, Below w.heap.size w (w.alloc x)) := fun x => (Below.refl _ _).alloc (Nat.le_refl _) _
  have hb2 : Hid (∀ x y, Below w.heap.size w ((w.alloc x).alloc y)) := fun x y => ((Below.refl _ _).alloc (Nat.le_refl _) _).alloc (by simp) _
  have hm1 : Hid (∀ x d, DoorV ((w.alloc x).alloc (.cells #[.int .i64 d.1, .int .i64 d.2] 58)) (.slice (some ⟨w.heap.size + 1, 0, none⟩) 1 1) [d]) := fun x d => by
    have := doorV_one (w.alloc x) d 58; rwa [World.size_alloc] at this
  have hm2 : Hid (∀ x d d', DoorV ((w.alloc x).alloc (.cells #[.int .i64 d.1, .int .i64 d.2, .int .i64 d'.1, .int .i64 d'.2] 58)) (.slice (some ⟨w.heap.size + 1, 0, none⟩) 2 2) [d, d']) := fun x d d' => by
    have := doorV_two (w.alloc x) d d' 58; rwa [World.size_alloc] at this
  unfold evV rivalsOf
  by_cases h1 : k = 1
  · subst h1
    go_enter Tryd.func19, Tryd.ntmps19
    go_wp2
    go_ret
    exact ⟨_, rfl, hm1.out _ (2, o), (fun b off n cap e => by cases e; omega), hb2.out _ _⟩
  · by_cases h2 : k = 2
    · subst h2
      go_enter Tryd.func19, Tryd.ntmps19
      go_wp2
      go_ret
      exact ⟨_, rfl, hm2.out _ (1, o) (2, o), (fun b off n cap e => by cases e; omega), hb2.out _ _⟩
    · rw [if_neg h1, if_neg h2]
      have k1 : (k == 1) = false := beq_eq_false_iff_ne.2 h1
      have k2 : (k == 2) = false := beq_eq_false_iff_ne.2 h2
      clear h1 h2
      go_enter Tryd.func19, Tryd.ntmps19
      go_wp2
      go_ret
      exact ⟨_, rfl, ⟨none, 0, rfl, Nat.le_refl _, by omega, fun i hi => absurd hi (by simp)⟩, (fun b off n cap e => by cases e), hb1.out _⟩

/-- The numbers of threads, in a map. -/
structure NumsW (w : World) (M : Nat) (f : Int → Option Value) (m : Nat) (nu : Int → Int) : Prop where
  map : KMap ik w M f m
  val : ∀ t, (f t).getD (.int .i64 0) = .int .i64 (nu t)
theorem NumsW.same {w w' : World} {M : Nat} {f : Int → Option Value} {m : Nat} {nu : Int → Int} (h : NumsW w M f m nu) (hb : w'.heap[M]? = w.heap[M]?) : NumsW w' M f m nu := ⟨h.map.same hb, h.val⟩
theorem zero_int (w : World) : (zeroValue 3).run Tryd.prog w = .ok (.int .i64 0) w := by kernel_rfl

/-- Which events count while those of some threads are looked at. -/
def cf (nu : Int → Int) (fr : Int) (x : Ev) : Bool := access x && (decide (fr ≤ nu x.thread) && decide (nu x.thread < fr + 16384))

set_option maxRecDepth 100000 in
set_option maxHeartbeats 1000000 in
/-- The function that tells which events count. -/
theorem counts_any (t k o v : Int) (w : World) (b4 b5 M m : Nat) (f : Int → Option Value) (nu : Int → Int) (fr : Int) (hN : NumsW w M f m nu) (h4 : w.cell? ⟨b4, 0, none⟩ = some (.map (some M))) (h5 : w.cell? ⟨b5, 0, none⟩ = some (.int .i64 fr)) (hl4 : b4 < w.heap.size) (hl5 : b5 < w.heap.size) (hf0 : 0 ≤ fr) (hf : fr ≤ 1073741824) :
    Calls Tryd.prog 10 #[evV ⟨t, k, o, v⟩, .pointer (some ⟨b4, 0, none⟩), .pointer (some ⟨b5, 0, none⟩)] w fun e w' => e = .returned (.bool (cf nu fr ⟨t, k, o, v⟩)) ∧ Below w.heap.size w w' := by
  have hev : evV ⟨t, k, o, v⟩ = .agg #[.int .i64 t, .int .i64 k, .int .i64 o, .int .i64 v] := rfl
  obtain ⟨W, hW⟩ : ∃ W, w.alloc (.cells #[.int .i64 t, .int .i64 k, .int .i64 o, .int .i64 v] 35) = W := ⟨_, rfl⟩
  have hbW : Below w.heap.size w W := by rw [← hW]; exact (Below.refl _ _).alloc (Nat.le_refl _) _
  have d := cells_four (w := W) (b := w.heap.size) (by rw [← hW]; exact heap_alloc_new w _)
  obtain ⟨d0, d1, d2, d3⟩ := d
  have g4 := (hbW.cell (p := ⟨b4, 0, none⟩) hl4).trans h4
  have g5 := (hbW.cell (p := ⟨b5, 0, none⟩) hl5).trans h5
  have hlk0 := (hN.map.same (hbW.block _ hN.map.lt)).look stamp_key Tryd.underlying36 (zero_int W) t
  rw [hN.val t] at hlk0
  have hlk : Sem.run Tryd.prog (Instr.lookup 36 (.map (some M)) (.int .i64 t) false) W = .ok (.int .i64 (nu t)) W := hlk0
  have hcf : Hid (cf nu fr ⟨t, k, o, v⟩ = (access ⟨t, k, o, v⟩ && (decide (fr ≤ nu t) && decide (nu t < fr + 16384)))) := rfl
  rw [hcf.out]
  obtain ⟨nt, hnt⟩ : ∃ nt, nu t = nt := ⟨_, rfl⟩
  rw [hnt] at hlk ⊢
  obtain ⟨acc, hacc⟩ : ∃ acc, access ⟨t, k, o, v⟩ = acc := ⟨_, rfl⟩
  rw [hacc]
  have HA := hide (isAccess_any t k o v W)
  rw [hacc] at HA
  clear hacc hnt hlk0 hN h4 h5
  rw [hev] at HA ⊢
  go_enter Tryd.func10, Tryd.ntmps10
  go_wp2_with fail
  refine HA.out.mono ?_
  rintro e w2 ⟨rfl, hb2⟩
  have k5 := (hb2.cell (p := ⟨b5, 0, none⟩) (by have := hbW.size; show b5 < W.heap.size; omega)).trans g5
  have hB := hbW.trans (hb2.mono hbW.size)
  clear d0 d1 d2 d3 g4 g5 hlk HA hb2 hbW hW
  cases acc with
  | false =>
    go_wp2
    go_ret
    exact ⟨rfl, hB⟩
  | true =>
    by_cases h1 : fr ≤ nt
    · have e1 : decide (fr ≤ nt) = true := decide_eq_true h1
      by_cases h2 : nt < fr + 16384
      · have e2 : decide (nt < fr + 16384) = true := decide_eq_true h2
        go_wp2
        go_ret
        exact ⟨o_ret_bool (by simp [h1, h2]), hB⟩
      · have e2 : decide (nt < fr + 16384) = false := decide_eq_false h2
        go_wp2
        go_ret
        exact ⟨o_ret_bool (by simp [h2]), hB⟩
    · have e1 : decide (fr ≤ nt) = false := decide_eq_false h1
      go_wp2
      go_ret
      exact ⟨o_ret_bool (by rw [e1]; rfl), hB⟩

/-- numbered: every thread with an access has a number below how many there are. -/
structure NumberedW (w : World) (M : Nat) (L : Nat → Ev) (k : Nat) (f : Int → Option Value) (m : Nat) : Prop where
  map : KMap ik w M f m
  val : ∀ t v, f t = some v → ∃ j : Nat, j < m ∧ v = .int .i64 j
  has : ∀ i, i < k → access (L i) = true → (f (L i).thread).isSome = true
  le : m ≤ k

set_option maxRecDepth 100000 in
set_option maxHeartbeats 1000000 in
theorem numbered_any (a : Option Addr) (n cap : Nat) (l : List Ev) (w : World) (hn : l.length = n) (hs : EvS w a l) (hb : n ≤ 1048576) :
    Calls Tryd.prog 8 #[.slice a n cap] w fun e w' => ∃ M f m, e = .returned (.map (some M)) ∧ w.heap.size ≤ M ∧ NumberedW w' M (ev l) n f m ∧ Below w.heap.size w w' := by
  have hmm := @run_makeMap Tryd.prog
  go_enter Tryd.func8, Tryd.ntmps8
  go_wp2_with fail
  go_loopw [5, 6, 7, 11] (fun _ _ _ kv wr => ∃ (k : Nat) (f : Int → Option Value) (m : Nat), k ≤ n ∧ kv = .int .i64 k ∧ NumberedW wr w.heap.size (ev l) k f m ∧ Below w.heap.size w wr) (fun _ _ _ kv _ => n - (intOf kv).toNat)
  case atStart => exact ⟨0, _, 0, Nat.zero_le _, rfl, ⟨KMap.made w, (fun t v h => by cases h), fun i hi => absurd hi (by omega), Nat.le_refl _⟩, (Below.refl _ _).alloc (Nat.le_refl _) _⟩
  case round =>
    obtain ⟨k, f, m, hk, rfl, hN, hbel⟩ := hrel
    have hsz := hbel.size
    by_cases h5 : k < n
    · obtain ⟨b, off, rfl, hlt, _⟩ := hs k (by omega)
      obtain ⟨t, kd, o, v, HE, c0, c1, c2, c3⟩ := hs.at hbel (i := k) (by omega)
      obtain ⟨W1, hW1⟩ : ∃ W1, wr.alloc (.cells #[.int .i64 t, .int .i64 kd, .int .i64 o, .int .i64 v] 35) = W1 := ⟨_, rfl⟩
      have hbW : Below wr.heap.size wr W1 := by rw [← hW1]; exact (Below.refl _ _).alloc (Nat.le_refl _) _
      obtain ⟨d0, d1, d2, d3⟩ := cells_four (w := W1) (b := wr.heap.size) (by rw [← hW1]; exact heap_alloc_new wr _)
      have hM1 := hN.map.same (hbW.block _ hN.map.lt)
      have hlk : Sem.run Tryd.prog (Instr.lookup 36 (.map (some w.heap.size)) (.int .i64 t) true) W1 = .ok (.tuple #[(f t).getD (.int .i64 0), .bool (f t).isSome]) W1 := hM1.lookOk stamp_key Tryd.underlying36 (zero_int W1) t
      have hskip : Hid (∀ W, KMap ik W w.heap.size f m → ((f t).isSome = true ∨ access ⟨t, kd, o, v⟩ = false) → NumberedW W w.heap.size (ev l) (k + 1) f m) := fun W hM h => ⟨hM, hN.val, fun i hi ha => by
        by_cases e : i = k
        · subst e; rw [HE.out] at ha ⊢; exact h.elim id fun h => by rw [h] at ha; cases ha
        · exact hN.has i (by omega) ha, by have := hN.le; omega⟩
      have hM1' := hide hM1
      have hbW1 : Below w.heap.size w W1 := hbel.trans (hbW.mono hsz)
      cases hf : f t with
      | some u =>
        rw [hf] at hlk
        obtain ⟨j, hj, rfl⟩ := hN.val t u hf
        have hfin := hide (hskip.out W1 hM1 (.inl (by rw [hf]; rfl)))
        clear hN hM1 hskip hM1' hf
        go_wp2_with fail
        go_roundw
        case rel => exact ⟨k + 1, f, m, by omega, by go_num, hfin.out, hbW1⟩
        case measure => simp [intOf]; omega
      | none =>
        rw [hf] at hlk
        have HA := hide (isAccess_any t kd o v W1)
        have hev : evV ⟨t, kd, o, v⟩ = .agg #[.int .i64 t, .int .i64 kd, .int .i64 o, .int .i64 v] := rfl
        rw [hev] at HA
        obtain ⟨acc, hacc⟩ : ∃ acc, Hid (access ⟨t, kd, o, v⟩ = acc) := ⟨_, rfl⟩
        rw [hacc.out] at HA
        have hput : Hid (∀ W, KMap ik W w.heap.size f m → ∃ W', Sem.run Tryd.prog (Instr.mapUpdate 36 (.map (some w.heap.size)) (.int .i64 t) (.int .i64 (m : Int))) W = .ok () W' ∧ NumberedW W' w.heap.size (ev l) (k + 1) (putK f t (.int .i64 (m : Int))) (m + 1) ∧ W.grownBy W' (some w.heap.size)) := fun W hM => by
          obtain ⟨W', hr, hM', hg, _⟩ := hM.put stamp_key Tryd.underlying36 t (.int .i64 (m : Int))
          rw [hf] at hM'
          refine ⟨W', hr, ⟨hM', fun x u hx => ?_, fun i hi ha => ?_, by have := hN.le; omega⟩, hg⟩
          · by_cases e : x = t
            · subst e; rw [putK_same] at hx; cases hx; exact ⟨m, by omega, rfl⟩
            · rw [putK_other _ e] at hx; obtain ⟨j, hj, h⟩ := hN.val x u hx; exact ⟨j, by omega, h⟩
          · by_cases e : (ev l i).thread = t
            · rw [e, putK_same]; rfl
            · rw [putK_other _ e]
              by_cases e2 : i = k
              · subst e2; rw [HE.out] at e; exact absurd rfl e
              · exact hN.has i (by omega) ha
        have hm20 : m ≤ 1048576 := by have := hN.le; omega
        clear hN hM1 hf
        cases acc with
        | false =>
          go_wp2_with (go_at_call 11; refine HA.out.mono ?_; rintro e W2 ⟨rfl, hb2⟩)
          have hfin := hide (hskip.out W2 (hM1'.out.same (hb2.block _ hM1'.out.lt)) (.inr hacc.out))
          go_roundw
          case rel => exact ⟨k + 1, f, m, by omega, by go_num, hfin.out, hbW1.trans (hb2.mono hbW1.size)⟩
          case measure => simp [intOf]; omega
        | true =>
          go_wp2_with (go_at_call 11; refine HA.out.mono ?_; rintro e W2 ⟨rfl, hb2⟩; have hM2 := hM1'.out.same (hb2.block _ hM1'.out.lt); obtain ⟨W3, hr3, hN3, hg3⟩ := hput.out W2 hM2; have hln : Sem.run Tryd.prog (Builtin.len_ #[36] 3 #[.map (some w.heap.size)]) W2 = .ok (.int .i64 (m : Int)) W2 := hM2.len Tryd.underlying36 3; have f0 := (hb2.cell (p := ⟨wr.heap.size, 0, none⟩) (by have := World.block_lt_of_cell? _ _ d0; exact this)).trans d0; have HN3 := hide hN3; clear hM2 hN3)
          have hbf : Below w.heap.size w W3 := (hbW1.trans (hb2.mono hbW1.size)).grown hg3 (by have := hbW1.size; have := hb2.size; omega) (fun q e => by cases e; exact Nat.le_refl _)
          go_roundw
          case rel => exact ⟨k + 1, _, m + 1, by omega, by go_num, HN3.out, hbf⟩
          case measure => simp [intOf]; omega
    · obtain rfl : k = n := by omega
      have HN := hide hN
      clear hN
      go_wp2_with fail
      go_ret
      exact ⟨w.heap.size, f, m, rfl, Nat.le_refl _, HN.out, hbel⟩
end Go.Proofs.YtiaedjnedoemoabDoor
