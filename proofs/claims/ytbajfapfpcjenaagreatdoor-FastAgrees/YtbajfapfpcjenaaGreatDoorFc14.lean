import Derived.Test.YtbajfapfpcjenaaGreatDoorFc13
import Derived.Test.YtbajfapfpcjenaaGreatDoorFc1
import Derived.Test.YtbajfapfpcjenaaGreatDoorFc9
import Derived.Test.YtbajfapfpcjenaaGreatDoorFc4
import Derived.Test.YtbajfapfpcjenaaGreatDoorFc0
namespace Go.Proofs.YtbajfapfpcjenaaGreatDoor
open Go.RowKit Go.Proofs.Ord

/-- Ahead of round i of First: the detector has seen the events ahead, with the other variables' accesses as local ones, and none was a race. -/
def FirstW (w : World) (bd bf bk br : Nat) (L : Nat → Ev) (x : Int) (i : Nat) (w' : World) : Prop :=
  (∃ tag S K R T, DetW w' tag bd bf bk br S K R T (calmL L x) i i ∧ ∀ b, tag b ≠ .o → w.heap.size ≤ b) ∧ Below w.heap.size w w' ∧ ∀ q, q < i → hits L x q = false

theorem SeeFin.below {w w' w2 : World} {bd bf bk br : Nat} {L : Nat → Ev} {i : Nat} {tag : Nat → Tag} (hs : SeeFin w' tag bd bf bk br L i w2) (hw : Below w.heap.size w w') (htag : ∀ b, tag b ≠ .o → w.heap.size ≤ b) : Below w.heap.size w w2 := by
  obtain ⟨tag', S', K', R', T', h1, h2, h3⟩ := hs
  exact ⟨h3.os.trans hw.os, h3.tape.trans hw.tape, h3.output.trans hw.output, Nat.le_trans hw.size h3.size, fun b hb => (h3.block b (by have := hw.size; omega) (fun e => by have := htag b e; omega)).trans (hw.block b hb)⟩
theorem hide_frozen (w : World) (x y z u : Value) (T : TypeId) (i : Nat) : (w.alloc (.cells #[x, y, z, u] T)).frozen? ⟨w.heap.size, i, none⟩ = false := by
  have e := heap_alloc_new w (.cells #[x, y, z, u] T)
  generalize w.alloc (.cells #[x, y, z, u] T) = W at e
  simp [World.frozen?, e]
theorem FirstW.see {w w' w2 : World} {bd bf bk br : Nat} {L : Nat → Ev} {x : Int} {i : Nat} {tag : Nat → Tag} (hw : Below w.heap.size w w') (htag : ∀ b, tag b ≠ .o → w.heap.size ≤ b) (hno : ∀ q, q < i → hits L x q = false)
    (hs : SeeFin w' tag bd bf bk br (calmL L x) i w2) (hf : isFirst (calmL L x) i = false) : FirstW w bd bf bk br L x (i + 1) w2 := by
  have hbel := hs.below hw htag
  obtain ⟨tag', S', K', R', T', h1, h2, h3⟩ := hs
  refine ⟨⟨tag', S', K', R', T', h1, fun b hb => ?_⟩, hbel, fun q hq => ?_⟩
  · by_cases e : b < w'.heap.size
    · exact htag b (h2 b e hb)
    · have := hw.size; omega
  · by_cases e : q < i
    · exact hno q e
    · obtain rfl : q = i := by omega
      cases hh : hits L x q with
      | false => rfl
      | true => rw [(calm_first L x q).2 ⟨hh, hno⟩] at hf; cases hf

set_option maxRecDepth 100000 in
set_option maxHeartbeats 1000000 in
theorem firstF_any (a : Option Addr) (n cap : Nat) (l : List Ev) (x : Int) (w : World) (hn : l.length = n) (hs : EvS w a l) (hb : n ≤ 1048576) (hr : EvR l) :
    Calls Tryz.prog 9 #[.slice a n cap, .int .i64 x] w fun e w' => e = .returned (.int .i64 (firstOf (ev l) x n)) ∧ Below w.heap.size w w' := by
  have HR := hide hr
  clear hr
  go_enter Tryz.func9, Tryz.ntmps9
  go_wp2_with fail
  refine (newF_any w (calmL (ev l) x)).mono ?_
  rintro e w1 ⟨rfl, hD, hb1⟩
  have hF1 : Hid (FirstW w (w.heap.size + 3) w.heap.size (w.heap.size + 1) (w.heap.size + 2) (ev l) x 0 w1) := ⟨⟨_, _, _, _, _, hD, fun b hb => (tag0_new hb).1⟩, hb1, fun q hq => absurd hq (by omega)⟩
  have hs1 := hs.below hb1
  obtain ⟨bd, hbd⟩ : ∃ x, w.heap.size + 3 = x := ⟨_, rfl⟩
  obtain ⟨bk, hbk⟩ : ∃ x, w.heap.size + 1 = x := ⟨_, rfl⟩
  obtain ⟨br, hbr⟩ : ∃ x, w.heap.size + 2 = x := ⟨_, rfl⟩
  rw [hbd, hbk, hbr] at hF1
  rw [hbd]
  have HB := hide (⟨hbd, hbk, hbr⟩ : _ ∧ _ ∧ _)
  clear hD hb1 hbd hbk hbr
  go_wp2_with fail
  go_loopw [11] (fun iv wr => ∃ i : Nat, i ≤ n ∧ iv = .int .i64 i ∧ FirstW w bd w.heap.size bk br (ev l) x i wr) (fun iv _ => n - (intOf iv).toNat)
  case atStart => exact ⟨0, Nat.zero_le _, rfl, hF1.out⟩
  case round =>
    obtain ⟨i, hi, rfl, ⟨tag, S, K, R, T, hD, htag⟩, hbr', hno⟩ := hrel
    have HN := hide hno
    have HD := hide hD
    have HT := hide htag
    clear hno hD htag
    by_cases h5 : i < n
    · obtain ⟨b, off, rfl, hlt, _⟩ := hs i (by omega)
      obtain ⟨t1, k1, o1, v1, HE1, c0, c1, c2, c3⟩ := hs.at hbr' (i := i) (by omega)
      have hin : (i : Int) < (n : Int) := by omega
      obtain ⟨W, hW⟩ : ∃ W, wr.alloc (.cells #[.int .i64 t1, .int .i64 k1, .int .i64 o1, .int .i64 v1] 33) = W := ⟨_, rfl⟩
      have hbW : Hid (Below wr.heap.size wr W) := by rw [← hW]; exact (Below.refl _ _).alloc (Nat.le_refl _) _
      have hzW : Hid (W.heap.size = wr.heap.size + 1) := by rw [← hW]; unfold Hid; simp
      obtain ⟨g0, g1, g2, g3⟩ := cells_ev (w := W) (b := wr.heap.size) (by rw [← hW]; exact heap_alloc_new wr _)
      have hfz : Hid (W.frozen? ⟨wr.heap.size, 1, none⟩ = false) := by rw [← hW]; exact hide_frozen wr _ _ _ _ _ _
      have hnum := HR.out.at (i := i) (by omega) HE1.out
      have HNum := hide hnum
      clear hnum
      go_wp2_with fail
      refine (isAccessF_any t1 k1 o1 v1 W).mono ?_
      rintro e w2 ⟨rfl, hb2⟩
      have hl2 : wr.heap.size < W.heap.size := by have := hzW.out; omega
      have e0 := (hb2.cell (p := ⟨wr.heap.size, 0, none⟩) hl2).trans g0
      have e1 := (hb2.cell (p := ⟨wr.heap.size, 1, none⟩) hl2).trans g1
      have e2 := (hb2.cell (p := ⟨wr.heap.size, 2, none⟩) hl2).trans g2
      have e3 := (hb2.cell (p := ⟨wr.heap.size, 3, none⟩) hl2).trans g3
      have hz2 : Hid (wr.heap.size < w2.heap.size) := Nat.lt_of_lt_of_le hl2 hb2.size
      have hf2 : w2.frozen? ⟨wr.heap.size, 1, none⟩ = false := (hb2.frozen (p := ⟨wr.heap.size, 1, none⟩) hl2).trans hfz.out
      have hbr2 : Hid (Below wr.heap.size wr w2) := hbW.out.trans (hb2.mono hbW.out.size)
      have hBS : Hid (Below w.heap.size w w2) := hbr'.trans (hbr2.out.mono hbr'.size)
      have HD2 := hide (HD.out.below hbr2.out)
      clear g0 g1 g2 g3 hb2 hW
      obtain ⟨ac, hac⟩ : ∃ ac, Hid (access ⟨t1, k1, o1, v1⟩ = ac) := ⟨_, rfl⟩
      rw [hac.out]
      have hcE : Hid (calmL (ev l) x i = calmE x ⟨t1, k1, o1, v1⟩) := by unfold Hid calmL; rw [HE1.out]
      cases ac with
      | false =>
        have hx' : calmL (ev l) x i = ⟨t1, k1, o1, v1⟩ := by rw [hcE.out]; unfold calmE; rw [hac.out]; rfl
        have HSee := hide (see_any t1 k1 o1 v1 w2 HD2.out hx' HNum.out.1 HNum.out.2 (by omega))
        clear hx'
        go_wp2_with fail
        refine HSee.out.mono ?_
        rintro e w4 ⟨rfl, hfin⟩
        have HNx := hide (fun hf => FirstW.see hBS.out HT.out HN.out hfin hf)
        have HBx := hide (hfin.below hBS.out HT.out)
        obtain ⟨fb, hfb⟩ : ∃ fb, Hid (isFirst (calmL (ev l) x) i = fb) := ⟨_, rfl⟩
        rw [hfb.out]
        clear hfin HSee
        cases fb with
        | false =>
          go_wp2_with fail
          go_roundw
          case rel => exact ⟨i + 1, by omega, by go_num, HNx.out hfb.out⟩
          case measure => simp [intOf]; omega
        | true =>
          have hfi : Hid (firstOf (ev l) x n = i) := by
            obtain ⟨h1, h2⟩ := (calm_first (ev l) x i).1 hfb.out
            exact firstOf_some h5 h2 h1
          go_wp2_with fail
          go_ret
          exact ⟨by rw [hfi.out]; rfl, HBx.out⟩
      | true =>
        by_cases hox : o1 = x
        · subst hox
          have hx' : calmL (ev l) o1 i = ⟨t1, k1, o1, v1⟩ := by rw [hcE.out]; unfold calmE; rw [hac.out]; simp
          have HSee := hide (see_any t1 k1 o1 v1 w2 HD2.out hx' HNum.out.1 HNum.out.2 (by omega))
          clear hx'
          go_wp2_with fail
          refine HSee.out.mono ?_
          rintro e w4 ⟨rfl, hfin⟩
          have HNx := hide (fun hf => FirstW.see hBS.out HT.out HN.out hfin hf)
          have HBx := hide (hfin.below hBS.out HT.out)
          obtain ⟨fb, hfb⟩ : ∃ fb, Hid (isFirst (calmL (ev l) o1) i = fb) := ⟨_, rfl⟩
          rw [hfb.out]
          clear hfin HSee
          cases fb with
          | false =>
            go_wp2_with fail
            go_roundw
            case rel => exact ⟨i + 1, by omega, by go_num, HNx.out hfb.out⟩
            case measure => simp [intOf]; omega
          | true =>
            have hfi : Hid (firstOf (ev l) o1 n = i) := by
              obtain ⟨h1, h2⟩ := (calm_first (ev l) o1 i).1 hfb.out
              exact firstOf_some h5 h2 h1
            go_wp2_with fail
            go_ret
            exact ⟨by rw [hfi.out]; rfl, HBx.out⟩
        · have hx' : calmL (ev l) x i = ⟨t1, 0, o1, v1⟩ := by
            have hob : (o1 == x) = false := by simpa using hox
            rw [hcE.out]; unfold calmE; rw [hac.out]; simp [hob]
          obtain ⟨w3, hw3⟩ : ∃ w3, w2.setCell ⟨wr.heap.size, 1, none⟩ (.int .i64 0) = w3 := ⟨_, rfl⟩
          have hz3 : w3.heap.size = w2.heap.size := by rw [← hw3]; simp
          have hbl3 : ∀ b, b ≠ wr.heap.size → w3.heap[b]? = w2.heap[b]? := fun b hb => by rw [← hw3]; exact Below.heap_setCell w2 ⟨wr.heap.size, 1, none⟩ _ b hb
          have hD3 := HD2.out.own (w' := w3) (fun b hb => hbl3 b (by have := HD.out.tlt b hb; omega)) (by omega)
          have hBS : Hid (Below w.heap.size w w3) := by rw [← hw3]; exact hBS.out.setCell (p := ⟨wr.heap.size, 1, none⟩) hbr'.size _
          have HSee := hide (see_any t1 0 o1 v1 w3 hD3 hx' HNum.out.1 HNum.out.2 (by omega))
          have hzz := hz2.out
          have f0 : w3.cell? ⟨wr.heap.size, 0, none⟩ = some (.int .i64 t1) := by rw [← hw3, World.cell?_setCell_other _ _ _ _ (by simp)]; exact e0
          have f1 : w3.cell? ⟨wr.heap.size, 1, none⟩ = some (.int .i64 0) := by rw [← hw3]; exact World.cell?_setCell_same _ _ _ e1
          have f2 : w3.cell? ⟨wr.heap.size, 2, none⟩ = some (.int .i64 o1) := by rw [← hw3, World.cell?_setCell_other _ _ _ _ (by simp)]; exact e2
          have f3 : w3.cell? ⟨wr.heap.size, 3, none⟩ = some (.int .i64 v1) := by rw [← hw3, World.cell?_setCell_other _ _ _ _ (by simp)]; exact e3
          clear hx' hz3 hbl3 hD3
          go_wp2_with fail
          refine HSee.out.mono ?_
          rintro e w4 ⟨rfl, hfin⟩
          have HNx := hide (fun hf => FirstW.see hBS.out HT.out HN.out hfin hf)
          have HBx := hide (hfin.below hBS.out HT.out)
          obtain ⟨fb, hfb⟩ : ∃ fb, Hid (isFirst (calmL (ev l) x) i = fb) := ⟨_, rfl⟩
          rw [hfb.out]
          clear hfin HSee
          cases fb with
          | false =>
            go_wp2_with fail
            go_roundw
            case rel => exact ⟨i + 1, by omega, by go_num, HNx.out hfb.out⟩
            case measure => simp [intOf]; omega
          | true =>
            have hfi : Hid (firstOf (ev l) x n = i) := by
              obtain ⟨h1, h2⟩ := (calm_first (ev l) x i).1 hfb.out
              exact firstOf_some h5 h2 h1
            go_wp2_with fail
            go_ret
            exact ⟨by rw [hfi.out]; rfl, HBx.out⟩
    · have hfi : Hid (firstOf (ev l) x n = -1) := firstOf_none (fun j hj => HN.out j (by omega))
      go_wp2_with fail
      go_ret
      exact ⟨by rw [hfi.out]; rfl, hbr'⟩
end Go.Proofs.YtbajfapfpcjenaaGreatDoor
namespace Go.Proofs.YtbajfapfpcjenaaGreatDoor
open Go.RowKit Go.Proofs.Ord

/-- What stands in memory when a detector has seen these events. -/
def DetOf (w : World) (F : Nat → Prop) (p : Addr) (l : List Ev) : Prop :=
  ∃ tag bd bf bk br S K R T, p = ⟨bd, 0, none⟩ ∧ (∀ b, F b ↔ tag b ≠ .o) ∧ DetW w tag bd bf bk br S K R T (ev l) l.length l.length
theorem ev_same (l : List Ev) (x : Ev) : (∀ q, q < l.length → ev l q = ev (l ++ [x]) q) ∧ ev (l ++ [x]) l.length = x := by
  refine ⟨fun q hq => ?_, ?_⟩
  · unfold ev
    rw [List.getD_eq_getElem?_getD, List.getD_eq_getElem?_getD, List.getElem?_append_left hq]
  · simp [ev]

theorem det_said : DetSaid DetOf where
  own := by
    rintro w w' F p l ⟨tag, bd, bf, bk, br, S, K, R, T, rfl, hF, hD⟩ hb hs _ _ _
    exact ⟨tag, bd, bf, bk, br, S, K, R, T, rfl, hF, hD.own (fun b e => hb b ((hF b).2 e)) hs⟩
  lt := by
    rintro w F p l ⟨tag, bd, bf, bk, br, S, K, R, T, rfl, hF, hD⟩ b hb
    exact hD.tlt b ((hF b).1 hb)
  new := by
    intro w
    refine (newF_any w (ev [])).mono ?_
    rintro e w' ⟨rfl, hD, hb⟩
    exact ⟨_, fun b => tag0 w.heap.size b ≠ .o, rfl, ⟨_, _, _, _, _, _, _, _, _, rfl, fun _ => Iff.rfl, hD⟩, fun b hb => (tag0_new hb).1, hb⟩
  see := by
    rintro w F p l ⟨t, kd, o, v⟩ ⟨tag, bd, bf, bk, br, S, K, R, T, rfl, hF, hD⟩ hl ht ho
    obtain ⟨h1, h2⟩ := ev_same l ⟨t, kd, o, v⟩
    refine (see_any t kd o v w (hD.sameL h1) h2 ht ho hl).mono ?_
    rintro e w' ⟨rfl, tag', S', K', R', T', hD', h3, h4⟩
    refine ⟨fun b => tag' b ≠ .o, rfl, ⟨tag', bd, bf, bk, br, S', K', R', T', rfl, fun _ => Iff.rfl, ?_⟩, fun b hb hn => (hF b).2 (h3 b hb hn), ⟨h4.os, h4.tape, h4.output, h4.size, fun b hb hn => h4.block b hb (fun e => hn ((hF b).2 e))⟩⟩
    rw [List.length_append]
    exact hD'
  racy := by
    rintro w F p l ⟨tag, bd, bf, bk, br, S, K, R, T, rfl, hF, hD⟩ hl
    exact racyF_any w hD hl
theorem fast_said : FastSaid := ⟨DetOf, det_said⟩
theorem first_said : FirstSaid := fun a n cap l obj w hn hs _ _ hb hr => firstF_any a n cap l obj w hn hs hb hr
end Go.Proofs.YtbajfapfpcjenaaGreatDoor
namespace Go.Proofs.YtbajfapfpcjenaaGreatDoor
open Go.RowKit Go.Proofs.Ord

set_option maxHeartbeats 400000 in
theorem isAccess_any (t k o v : Int) (w : World) :
    Calls Tryz.prog 15 #[evV ⟨t, k, o, v⟩] w fun e w' => e = .returned (.bool (access ⟨t, k, o, v⟩)) ∧ Below w.heap.size w w' := by
  have hb : Hid (∀ x, Below w.heap.size w (w.alloc x)) := fun x => (Below.refl _ _).alloc (Nat.le_refl _) _
  rw [access_mk]
  unfold evV
  go_enter Tryz.func15, Tryz.ntmps15
  go_wp2
  all_goals
    go_ret
    exact ⟨o_ret_bool (by simp [*]), hb.out _⟩

/-- A slice of pairs that is there. -/
def DoorV (w : World) (u : Value) (ds : List (Int × Int)) : Prop := ∃ a cap, u = .slice a ds.length cap ∧ ds.length ≤ cap ∧ cap ≤ 9223372036854775807 ∧ DoorS w a ds
theorem doorV_one (W : World) (d : Int × Int) (t : TypeId) : DoorV (W.alloc (.cells #[.int .i64 d.1, .int .i64 d.2] t)) (.slice (some ⟨W.heap.size, 0, none⟩) 1 1) [d] := by
  refine ⟨_, _, rfl, Nat.le_refl _, by omega, fun i hi => ⟨W.heap.size, rfl, by simp, ?_⟩⟩
  obtain rfl : i = 0 := by simpa using hi
  have h := cells_two (w := W.alloc (.cells #[.int .i64 d.1, .int .i64 d.2] t)) (heap_alloc_new W _)
  exact h
theorem cells_four {w : World} {b : Nat} {x y z u : Value} {T : TypeId} {fr : Nat × Nat} (h : w.heap[b]? = some (.cells #[x, y, z, u] T fr)) : w.cell? ⟨b, 0, none⟩ = some x ∧ w.cell? ⟨b, 1, none⟩ = some y ∧ w.cell? ⟨b, 2, none⟩ = some z ∧ w.cell? ⟨b, 3, none⟩ = some u := by
  refine ⟨?_, ?_, ?_, ?_⟩ <;> simp [World.cell?, h]
theorem doorV_two (W : World) (d d' : Int × Int) (t : TypeId) : DoorV (W.alloc (.cells #[.int .i64 d.1, .int .i64 d.2, .int .i64 d'.1, .int .i64 d'.2] t)) (.slice (some ⟨W.heap.size, 0, none⟩) 2 2) [d, d'] := by
  refine ⟨_, _, rfl, Nat.le_refl _, by omega, fun i hi => ⟨W.heap.size, rfl, by simp, ?_⟩⟩
  have h := cells_four (w := W.alloc (.cells #[.int .i64 d.1, .int .i64 d.2, .int .i64 d'.1, .int .i64 d'.2] t)) (heap_alloc_new W _)
  have hi2 : i < 2 := hi
  match i, hi2 with
  | 0, _ => exact ⟨h.1, h.2.1⟩
  | 1, _ => exact ⟨h.2.2.1, h.2.2.2⟩

set_option maxRecDepth 100000 in
set_option maxHeartbeats 1000000 in
theorem rivals_any (t k o v : Int) (w : World) :
    Calls Tryz.prog 27 #[evV ⟨t, k, o, v⟩] w fun e w' => ∃ u, e = .returned u ∧ DoorV w' u (rivalsOf ⟨t, k, o, v⟩) ∧ (∀ b off n cap, u = .slice (some ⟨b, off, none⟩) n cap → w.heap.size ≤ b) ∧ Below w.heap.size w w' := by
  have hb1 : Hid (∀ x, Below w.heap.size w (w.alloc x)) := fun x => (Below.refl _ _).alloc (Nat.le_refl _) _
  have hb2 : Hid (∀ x y, Below w.heap.size w ((w.alloc x).alloc y)) := fun x y => ((Below.refl _ _).alloc (Nat.le_refl _) _).alloc (by simp) _
  have hm1 : Hid (∀ x d, DoorV ((w.alloc x).alloc (.cells #[.int .i64 d.1, .int .i64 d.2] 72)) (.slice (some ⟨w.heap.size + 1, 0, none⟩) 1 1) [d]) := fun x d => by
    have := doorV_one (w.alloc x) d 72; rwa [World.size_alloc] at this
  have hm2 : Hid (∀ x d d', DoorV ((w.alloc x).alloc (.cells #[.int .i64 d.1, .int .i64 d.2, .int .i64 d'.1, .int .i64 d'.2] 72)) (.slice (some ⟨w.heap.size + 1, 0, none⟩) 2 2) [d, d']) := fun x d d' => by
    have := doorV_two (w.alloc x) d d' 72; rwa [World.size_alloc] at this
  unfold evV rivalsOf
  by_cases h1 : k = 1
  · subst h1
    go_enter Tryz.func27, Tryz.ntmps27
    go_wp2
    go_ret
    exact ⟨_, rfl, hm1.out _ (2, o), (fun b off n cap e => by cases e; omega), hb2.out _ _⟩
  · by_cases h2 : k = 2
    · subst h2
      go_enter Tryz.func27, Tryz.ntmps27
      go_wp2
      go_ret
      exact ⟨_, rfl, hm2.out _ (1, o) (2, o), (fun b off n cap e => by cases e; omega), hb2.out _ _⟩
    · rw [if_neg h1, if_neg h2]
      have k1 : (k == 1) = false := beq_eq_false_iff_ne.2 h1
      have k2 : (k == 2) = false := beq_eq_false_iff_ne.2 h2
      clear h1 h2
      go_enter Tryz.func27, Tryz.ntmps27
      go_wp2
      go_ret
      exact ⟨_, rfl, ⟨none, 0, rfl, Nat.le_refl _, by omega, fun i hi => absurd hi (by simp)⟩, (fun b off n cap e => by cases e), hb1.out _⟩

/-- The numbers of threads, in a map. -/
structure NumsW (w : World) (M : Nat) (f : Int → Option Value) (m : Nat) (nu : Int → Int) : Prop where
  map : KMap ik w M f m
  val : ∀ t, (f t).getD (.int .i64 0) = .int .i64 (nu t)
theorem NumsW.same {w w' : World} {M : Nat} {f : Int → Option Value} {m : Nat} {nu : Int → Int} (h : NumsW w M f m nu) (hb : w'.heap[M]? = w.heap[M]?) : NumsW w' M f m nu := ⟨h.map.same hb, h.val⟩
theorem zero_int (w : World) : (zeroValue 3).run Tryz.prog w = .ok (.int .i64 0) w := by kernel_rfl

/-- Which events count while those of some threads are looked at. -/
def cf (nu : Int → Int) (fr : Int) (x : Ev) : Bool := access x && (decide (fr ≤ nu x.thread) && decide (nu x.thread < fr + 16384))

set_option maxRecDepth 100000 in
set_option maxHeartbeats 1000000 in
/-- The function that tells which events count. -/
theorem counts_any (t k o v : Int) (w : World) (b4 b5 M m : Nat) (f : Int → Option Value) (nu : Int → Int) (fr : Int) (hN : NumsW w M f m nu) (h4 : w.cell? ⟨b4, 0, none⟩ = some (.map (some M))) (h5 : w.cell? ⟨b5, 0, none⟩ = some (.int .i64 fr)) (hl4 : b4 < w.heap.size) (hl5 : b5 < w.heap.size) (hf0 : 0 ≤ fr) (hf : fr ≤ 1073741824) :
    Calls Tryz.prog 14 #[evV ⟨t, k, o, v⟩, .pointer (some ⟨b4, 0, none⟩), .pointer (some ⟨b5, 0, none⟩)] w fun e w' => e = .returned (.bool (cf nu fr ⟨t, k, o, v⟩)) ∧ Below w.heap.size w w' := by
  have hev : evV ⟨t, k, o, v⟩ = .agg #[.int .i64 t, .int .i64 k, .int .i64 o, .int .i64 v] := rfl
  obtain ⟨W, hW⟩ : ∃ W, w.alloc (.cells #[.int .i64 t, .int .i64 k, .int .i64 o, .int .i64 v] 33) = W := ⟨_, rfl⟩
  have hbW : Below w.heap.size w W := by rw [← hW]; exact (Below.refl _ _).alloc (Nat.le_refl _) _
  have d := cells_four (w := W) (b := w.heap.size) (by rw [← hW]; exact heap_alloc_new w _)
  obtain ⟨d0, d1, d2, d3⟩ := d
  have g4 := (hbW.cell (p := ⟨b4, 0, none⟩) hl4).trans h4
  have g5 := (hbW.cell (p := ⟨b5, 0, none⟩) hl5).trans h5
  have hlk0 := (hN.map.same (hbW.block _ hN.map.lt)).look stamp_key Tryz.underlying49 (zero_int W) t
  rw [hN.val t] at hlk0
  have hlk : Sem.run Tryz.prog (Instr.lookup 49 (.map (some M)) (.int .i64 t) false) W = .ok (.int .i64 (nu t)) W := hlk0
  have hcf : Hid (cf nu fr ⟨t, k, o, v⟩ = (access ⟨t, k, o, v⟩ && (decide (fr ≤ nu t) && decide (nu t < fr + 16384)))) := rfl
  rw [hcf.out]
  obtain ⟨nt, hnt⟩ : ∃ nt, nu t = nt := ⟨_, rfl⟩
  rw [hnt] at hlk ⊢
  obtain ⟨acc, hacc⟩ : ∃ acc, access ⟨t, k, o, v⟩ = acc := ⟨_, rfl⟩
  rw [hacc]
  have HA := hide (isAccess_any t k o v W)
  rw [hacc] at HA
  clear hacc hnt hlk0 hN h4 h5
  rw [hev] at HA ⊢
  go_enter Tryz.func14, Tryz.ntmps14
  go_wp2_with fail
  refine HA.out.mono ?_
  rintro e w2 ⟨rfl, hb2⟩
  have k5 := (hb2.cell (p := ⟨b5, 0, none⟩) (by have := hbW.size; show b5 < W.heap.size; omega)).trans g5
  have hB := hbW.trans (hb2.mono hbW.size)
  clear d0 d1 d2 d3 g4 g5 hlk HA hb2 hbW hW
  cases acc with
  | false =>
    go_wp2
    go_ret
    exact ⟨rfl, hB⟩
  | true =>
    by_cases h1 : fr ≤ nt
    · have e1 : decide (fr ≤ nt) = true := decide_eq_true h1
      by_cases h2 : nt < fr + 16384
      · have e2 : decide (nt < fr + 16384) = true := decide_eq_true h2
        go_wp2
        go_ret
        exact ⟨o_ret_bool (by simp [h1, h2]), hB⟩
      · have e2 : decide (nt < fr + 16384) = false := decide_eq_false h2
        go_wp2
        go_ret
        exact ⟨o_ret_bool (by simp [h2]), hB⟩
    · have e1 : decide (fr ≤ nt) = false := decide_eq_false h1
      go_wp2
      go_ret
      exact ⟨o_ret_bool (by rw [e1]; rfl), hB⟩

/-- numbered: every thread with an access has a number below how many there are. -/
structure NumberedW (w : World) (M : Nat) (L : Nat → Ev) (k : Nat) (f : Int → Option Value) (m : Nat) : Prop where
  map : KMap ik w M f m
  val : ∀ t v, f t = some v → ∃ j : Nat, j < m ∧ v = .int .i64 j
  has : ∀ i, i < k → access (L i) = true → (f (L i).thread).isSome = true
  le : m ≤ k

set_option maxRecDepth 100000 in
set_option maxHeartbeats 1000000 in
theorem numbered_any (a : Option Addr) (n cap : Nat) (l : List Ev) (w : World) (hn : l.length = n) (hs : EvS w a l) (hb : n ≤ 1048576) :
    Calls Tryz.prog 12 #[.slice a n cap] w fun e w' => ∃ M f m, e = .returned (.map (some M)) ∧ w.heap.size ≤ M ∧ NumberedW w' M (ev l) n f m ∧ Below w.heap.size w w' := by
  have hmm := @run_makeMap Tryz.prog
  go_enter Tryz.func12, Tryz.ntmps12
  go_wp2_with fail
  go_loopw [5, 6, 7, 11] (fun _ _ _ kv wr => ∃ (k : Nat) (f : Int → Option Value) (m : Nat), k ≤ n ∧ kv = .int .i64 k ∧ NumberedW wr w.heap.size (ev l) k f m ∧ Below w.heap.size w wr) (fun _ _ _ kv _ => n - (intOf kv).toNat)
  case atStart => exact ⟨0, _, 0, Nat.zero_le _, rfl, ⟨KMap.made w, (fun t v h => by cases h), fun i hi => absurd hi (by omega), Nat.le_refl _⟩, (Below.refl _ _).alloc (Nat.le_refl _) _⟩
  case round =>
    obtain ⟨k, f, m, hk, rfl, hN, hbel⟩ := hrel
    have hsz := hbel.size
    by_cases h5 : k < n
    · obtain ⟨b, off, rfl, hlt, _⟩ := hs k (by omega)
      obtain ⟨t, kd, o, v, HE, c0, c1, c2, c3⟩ := hs.at hbel (i := k) (by omega)
      obtain ⟨W1, hW1⟩ : ∃ W1, wr.alloc (.cells #[.int .i64 t, .int .i64 kd, .int .i64 o, .int .i64 v] 33) = W1 := ⟨_, rfl⟩
      have hbW : Below wr.heap.size wr W1 := by rw [← hW1]; exact (Below.refl _ _).alloc (Nat.le_refl _) _
      obtain ⟨d0, d1, d2, d3⟩ := cells_four (w := W1) (b := wr.heap.size) (by rw [← hW1]; exact heap_alloc_new wr _)
      have hM1 := hN.map.same (hbW.block _ hN.map.lt)
      have hlk : Sem.run Tryz.prog (Instr.lookup 49 (.map (some w.heap.size)) (.int .i64 t) true) W1 = .ok (.tuple #[(f t).getD (.int .i64 0), .bool (f t).isSome]) W1 := hM1.lookOk stamp_key Tryz.underlying49 (zero_int W1) t
      have hskip : Hid (∀ W, KMap ik W w.heap.size f m → ((f t).isSome = true ∨ access ⟨t, kd, o, v⟩ = false) → NumberedW W w.heap.size (ev l) (k + 1) f m) := fun W hM h => ⟨hM, hN.val, fun i hi ha => by
        by_cases e : i = k
        · subst e; rw [HE.out] at ha ⊢; exact h.elim id fun h => by rw [h] at ha; cases ha
        · exact hN.has i (by omega) ha, by have := hN.le; omega⟩
      have hM1' := hide hM1
      have hbW1 : Below w.heap.size w W1 := hbel.trans (hbW.mono hsz)
      cases hf : f t with
      | some u =>
        rw [hf] at hlk
        obtain ⟨j, hj, rfl⟩ := hN.val t u hf
        have hfin := hide (hskip.out W1 hM1 (.inl (by rw [hf]; rfl)))
        clear hN hM1 hskip hM1' hf
        go_wp2_with fail
        go_roundw
        case rel => exact ⟨k + 1, f, m, by omega, by go_num, hfin.out, hbW1⟩
        case measure => simp [intOf]; omega
      | none =>
        rw [hf] at hlk
        have HA := hide (isAccess_any t kd o v W1)
        have hev : evV ⟨t, kd, o, v⟩ = .agg #[.int .i64 t, .int .i64 kd, .int .i64 o, .int .i64 v] := rfl
        rw [hev] at HA
        obtain ⟨acc, hacc⟩ : ∃ acc, Hid (access ⟨t, kd, o, v⟩ = acc) := ⟨_, rfl⟩
        rw [hacc.out] at HA
        have hput : Hid (∀ W, KMap ik W w.heap.size f m → ∃ W', Sem.run Tryz.prog (Instr.mapUpdate 49 (.map (some w.heap.size)) (.int .i64 t) (.int .i64 (m : Int))) W = .ok () W' ∧ NumberedW W' w.heap.size (ev l) (k + 1) (putK f t (.int .i64 (m : Int))) (m + 1) ∧ W.grownBy W' (some w.heap.size)) := fun W hM => by
          obtain ⟨W', hr, hM', hg, _⟩ := hM.put stamp_key Tryz.underlying49 t (.int .i64 (m : Int))
          rw [hf] at hM'
          refine ⟨W', hr, ⟨hM', fun x u hx => ?_, fun i hi ha => ?_, by have := hN.le; omega⟩, hg⟩
          · by_cases e : x = t
            · subst e; rw [putK_same] at hx; cases hx; exact ⟨m, by omega, rfl⟩
            · rw [putK_other _ e] at hx; obtain ⟨j, hj, h⟩ := hN.val x u hx; exact ⟨j, by omega, h⟩
          · by_cases e : (ev l i).thread = t
            · rw [e, putK_same]; rfl
            · rw [putK_other _ e]
              by_cases e2 : i = k
              · subst e2; rw [HE.out] at e; exact absurd rfl e
              · exact hN.has i (by omega) ha
        have hm20 : m ≤ 1048576 := by have := hN.le; omega
        clear hN hM1 hf
        cases acc with
        | false =>
          go_wp2_with (go_at_call 15; refine HA.out.mono ?_; rintro e W2 ⟨rfl, hb2⟩)
          have hfin := hide (hskip.out W2 (hM1'.out.same (hb2.block _ hM1'.out.lt)) (.inr hacc.out))
          go_roundw
          case rel => exact ⟨k + 1, f, m, by omega, by go_num, hfin.out, hbW1.trans (hb2.mono hbW1.size)⟩
          case measure => simp [intOf]; omega
        | true =>
          go_wp2_with (go_at_call 15; refine HA.out.mono ?_; rintro e W2 ⟨rfl, hb2⟩; have hM2 := hM1'.out.same (hb2.block _ hM1'.out.lt); obtain ⟨W3, hr3, hN3, hg3⟩ := hput.out W2 hM2; have hln : Sem.run Tryz.prog (Builtin.len_ #[49] 3 #[.map (some w.heap.size)]) W2 = .ok (.int .i64 (m : Int)) W2 := hM2.len Tryz.underlying49 3; have f0 := (hb2.cell (p := ⟨wr.heap.size, 0, none⟩) (by have := World.block_lt_of_cell? _ _ d0; exact this)).trans d0; have HN3 := hide hN3; clear hM2 hN3)
          have hbf : Below w.heap.size w W3 := (hbW1.trans (hb2.mono hbW1.size)).grown hg3 (by have := hbW1.size; have := hb2.size; omega) (fun q e => by cases e; exact Nat.le_refl _)
          go_roundw
          case rel => exact ⟨k + 1, _, m + 1, by omega, by go_num, HN3.out, hbf⟩
          case measure => simp [intOf]; omega
    · obtain rfl : k = n := by omega
      have HN := hide hN
      clear hN
      go_wp2_with fail
      go_ret
      exact ⟨w.heap.size, f, m, rfl, Nat.le_refl _, HN.out, hbel⟩
end Go.Proofs.YtbajfapfpcjenaaGreatDoor
namespace Go.Proofs.YtbajfapfpcjenaaGreatDoor
open Go.RowKit Go.Proofs.Ord

theorem flowW_made {w : World} (L : Nat → Ev) (c : Nat → Bool) : FlowW (fun _ => False) (w.alloc (.map #[] 0)) w.heap.size L c 0 :=
  ⟨id, fun x h => h.elim, _, _, _, KMap.made w, ⟨(fun d v h => by cases h), fun d _ u => rfl⟩, flowN_zero L c⟩
theorem FlowW.kept {S : Nat → Prop} {w w' : World} {F : Nat} {L : Nat → Ev} {c : Nat → Bool} {k : Nat} (h : FlowW S w F L c k) (hs : w.heap.size ≤ w'.heap.size) (hF : w'.heap[F]? = w.heap[F]?) (hb : ∀ b, S b → w'.heap[b]? = w.heap[b]?) : FlowW S w' F L c k := by
  obtain ⟨h1, h2, f, n, R, h3, h4, h5⟩ := h
  exact ⟨h1, fun x hx => by have := h2 x hx; omega, f, n, R, h3.same hF, h4.kept hs hb, h5⟩
theorem FlowW.below {S : Nat → Prop} {w w' : World} {F : Nat} {L : Nat → Ev} {c : Nat → Bool} {k : Nat} (h : FlowW S w F L c k) (hb : Below w.heap.size w w') : FlowW S w' F L c k :=
  h.kept hb.size (by obtain ⟨_, _, f, n, R, h3, _⟩ := h; exact hb.block _ h3.lt) fun b hS => hb.block b (h.lt b hS)
theorem FlowW.mapLt {S : Nat → Prop} {w : World} {F : Nat} {L : Nat → Ev} {c : Nat → Bool} {k : Nat} (h : FlowW S w F L c k) : F < w.heap.size := by
  obtain ⟨_, _, f, n, R, h3, _⟩ := h; exact h3.lt
end Go.Proofs.YtbajfapfpcjenaaGreatDoor
