import Derived.Test.YtbajfapfpcjenaaGreatDoorFc11
import Derived.Test.YtbajfapfpcjenaaGreatDoorFc5
namespace Go.Proofs.YtbajfapfpcjenaaGreatDoor
open Go.RowKit Go.Proofs.Ord

/-- What is kept of a variable, as a value. -/
def varV (wt wn rt rn : Int) (rv : Value) (room : Int) : Value := .agg #[.int .i64 wt, .int .i64 wn, .int .i64 rt, .int .i64 rn, rv, .int .i64 room]
theorem zero_var (w : World) : (zeroValue 103).run Tryz.prog w = .ok (varV 0 0 0 0 (.map none) 0) w := by kernel_rfl

theorem below_set {n : Nat} {w w' : World} (h : Below n w w') (b i : Nat) (u : Value) (hb : n ≤ b) : Below n w (w'.setCell ⟨b, i, none⟩ u) :=
  ⟨h.os, h.tape, h.output, by simpa using h.size, fun k hk => (Below.heap_setCell w' ⟨b, i, none⟩ u k (fun e => by have : k = b := e; omega)).trans (h.block k hk)⟩
theorem cells_ev {w : World} {b : Nat} {x y z u : Value} {T : TypeId} {fr : Nat × Nat} (h : w.heap[b]? = some (.cells #[x, y, z, u] T fr)) : w.cell? ⟨b, 0, none⟩ = some x ∧ w.cell? ⟨b, 1, none⟩ = some y ∧ w.cell? ⟨b, 2, none⟩ = some z ∧ w.cell? ⟨b, 3, none⟩ = some u := by
  refine ⟨?_, ?_, ?_, ?_⟩ <;> simp [World.cell?, h]
/-- What take answers, and what it leaves. -/
def TakeQ (w : World) (bk : Nat) (F : Int → Option Value) (o t kd wt wn rt rn : Int) (rv : Value) (rs : Int → Option Int) (g : Int → Int) (e : Ending) (w' : World) : Prop :=
  ∃ c : Bool, e = .returned (.bool c) ∧ (c = true ↔ wn ≤ g wt ∧ (kd = 1 ∨ (rn ≤ g rt ∧ ∀ t' n', rs t' = some n' → n' ≤ g t'))) ∧ (c = false → Below w.heap.size w w') ∧ (c = true → ((kd = 1 ∧ ∃ rv' rs' room' nk', KMap ik w' bk (putK F o (varV wt wn t (g t) rv' room')) nk' ∧ ReadV w' rv' rs' ∧ NextR rs rs' g rt rn ∧ (rv' = rv ∨ (rv = .map none ∧ ∃ br, rv' = .map (some br) ∧ w.heap.size ≤ br ∧ br < w'.heap.size))) ∨ (kd ≠ 1 ∧ ∃ nk', KMap ik w' bk (putK F o (varV t (g t) 0 0 (.map none) 0)) nk')) ∧ Chg (fun x => x = bk ∨ rv = .map (some x)) w w')

set_option maxRecDepth 100000 in
set_option maxHeartbeats 1000000 in
theorem takeF_any {S : Nat → Prop} {v : Value} {g : Int → Int} {rs : Int → Option Int} {wt wn rt rn room : Int} {rv : Value} {bk nk : Nat} {F : Int → Option Value} (t kd o vl : Int) (w : World) (hM : KMap ik w bk F nk) (hF : (F o).getD (varV 0 0 0 0 (.map none) 0) = varV wt wn rt rn rv room) (hr : ReadV w rv rs) (hin : RsIn rs) (hwt : In64 wt) (hrt : In64 rt) (ht : In64 t) (hne : rv ≠ .map (some bk)) (h : StampV S w v g) (hS : ∀ x, S x → x < w.heap.size ∧ x ≠ bk ∧ rv ≠ .map (some x)) :
    Calls Tryz.prog 24 #[.map (some bk), .agg #[.int .i64 t, .int .i64 kd, .int .i64 o, .int .i64 vl], v] w fun e w' => TakeQ w bk F o t kd wt wn rt rn rv rs g e w' := by
  obtain ⟨mo, rfl⟩ : ∃ mo, rv = .map mo := by
    rcases hr with ⟨e, _⟩ | ⟨b', _, _, e, _⟩
    · exact ⟨_, e⟩
    · exact ⟨_, e⟩
  obtain ⟨W, hW⟩ : ∃ W, w.alloc (.cells #[.int .i64 t, .int .i64 kd, .int .i64 o, .int .i64 vl] 33) = W := ⟨_, rfl⟩
  have hbW : Below w.heap.size w W := by rw [← hW]; exact (Below.refl _ _).alloc (Nat.le_refl _) _
  have hzW : W.heap.size = w.heap.size + 1 := by rw [← hW]; simp
  have hMW := hM.same (hbW.block _ hM.lt)
  have hlk : Sem.run Tryz.prog (Instr.lookup 45 (.map (some bk)) (.int .i64 o) false) W = .ok (varV wt wn rt rn (.map mo) room) W := by
    rw [← hF]; exact hMW.look stamp_key Tryz.underlying45 (zero_var _) o
  unfold varV at hlk
  obtain ⟨W2, hW2⟩ : ∃ W2, W.alloc (.cells #[.int .i64 wt, .int .i64 wn, .int .i64 rt, .int .i64 rn, .map mo, .int .i64 room] 103) = W2 := ⟨_, rfl⟩
  have hb2 : Below w.heap.size w W2 := by rw [← hW2]; exact hbW.alloc (by omega) _
  have hb2' : Below W.heap.size W W2 := by rw [← hW2]; exact (Below.refl _ _).alloc (Nat.le_refl _) _
  have hz2 : W2.heap.size = w.heap.size + 2 := by rw [← hW2]; simp; omega
  have hE := cells_ev (w := W) (b := w.heap.size) (by rw [← hW]; exact heap_alloc_new w _)
  have q0 : W2.cell? ⟨w.heap.size, 0, none⟩ = some (.int .i64 t) := (hb2'.cell (p := ⟨w.heap.size, 0, none⟩) (show w.heap.size < W.heap.size by omega)).trans hE.1
  have q1 : W2.cell? ⟨w.heap.size, 1, none⟩ = some (.int .i64 kd) := (hb2'.cell (p := ⟨w.heap.size, 1, none⟩) (show w.heap.size < W.heap.size by omega)).trans hE.2.1
  have q2 : W2.cell? ⟨w.heap.size, 2, none⟩ = some (.int .i64 o) := (hb2'.cell (p := ⟨w.heap.size, 2, none⟩) (show w.heap.size < W.heap.size by omega)).trans hE.2.2.1
  have HOF := hide (fun (wx : World) (hx : Below W2.heap.size W2 wx) => of_any t wx ht (h.any (hb2.trans (hx.mono hb2.size))))
  rw [← hW] at hlk
  have HW := hide hW
  have HZ := hide hzW
  have HB := hide hbW
  have HM := hide hMW
  have HW2 := hide hW2
  have HB2 := hide hb2
  have HZ2 := hide hz2
  have HE := hide hE
  clear hW hzW hbW hMW hW2 hb2 hb2' hz2 hE
  go_enter Tryz.func24, Tryz.ntmps24
  go_upto_region 2 with fail
  rw [HW.out, HW2.out]
  clear hlk
  go_cut [8] (fun p wx => ∃ bo, p = .pointer (some ⟨bo, 0, none⟩) ∧ wx.cell? ⟨bo, 0, none⟩ = some (.int .i64 t) ∧ wx.cell? ⟨bo, 1, none⟩ = some (.int .i64 (g t)) ∧ W2.heap.size ≤ bo ∧ bo < wx.heap.size ∧ Below W2.heap.size W2 wx)
  case first =>
    have q0d : W2.drew.cell? ⟨w.heap.size, 0, none⟩ = some (.int .i64 t) := q0
    refine wp_region_held_drew (S := (fun w' => w'.cell? ⟨w.heap.size, 0, none⟩ = some (.int .i64 t))) (by kernel_rfl) q0d (fun hHeld => ?_)
    refine wpAnyH_take (i := 0) (v := ?_) rfl (by kernel_rfl) (by kernel_rfl) (by kernel_rfl) (fun _ _ _ h => h) (Or.inl ⟨by rfl, ?_⟩) hHeld ?_
    rotate_left
    · intro w9 hSw; (try dsimp only at hSw); go_simp; try with_reducible rfl
    simp only [Act.put, List.getElem_toArray, List.getElem_cons_zero, List.setIfInBounds_toArray, List.set_cons_succ, List.set_cons_zero]
    refine wpAnyH_take (i := 1) (v := ?_) rfl (by kernel_rfl) (by kernel_rfl) (by kernel_rfl) (fun _ _ _ h => h) (Or.inl ⟨by rfl, ?_⟩) hHeld ?_
    rotate_left
    · intro w9 hSw; (try dsimp only at hSw); go_simp; try with_reducible rfl
    simp only [Act.put, List.getElem_toArray, List.getElem_cons_zero, List.getElem_cons_succ, List.setIfInBounds_toArray, List.set_cons_succ, List.set_cons_zero]
    refine wpAnyH_take (i := 2) (v := ?_) rfl (by kernel_rfl) (by kernel_rfl) (by kernel_rfl) (fun _ _ _ h => h) (Or.inl ⟨by rfl, ?_⟩) hHeld ?_
    rotate_left
    · intro w9 hSw; (try dsimp only at hSw); go_simp; try with_reducible rfl
    simp only [Act.put, List.getElem_toArray, List.getElem_cons_zero, List.getElem_cons_succ, List.setIfInBounds_toArray, List.set_cons_succ, List.set_cons_zero]
    refine wpAnyH_take (i := 3) (v := ?_) rfl (by kernel_rfl) (by kernel_rfl) (by kernel_rfl) (fun _ _ _ h => h) (Or.inl ⟨by rfl, ?_⟩) hHeld ?_
    rotate_left
    · intro w9 hSw; (try dsimp only at hSw); go_simp; try with_reducible rfl
    simp only [Act.put, List.getElem_toArray, List.getElem_cons_zero, List.getElem_cons_succ, List.setIfInBounds_toArray, List.set_cons_succ, List.set_cons_zero]
    refine wpAnyH_take (i := 4) (v := ?_) rfl (by kernel_rfl) (by kernel_rfl) (by kernel_rfl) (fun _ _ _ h => h) (Or.inl ⟨by rfl, ?_⟩) hHeld ?_
    rotate_left
    · intro w9 hSw; (try dsimp only at hSw); go_simp; try with_reducible rfl
    simp only [Act.put, List.getElem_toArray, List.getElem_cons_zero, List.getElem_cons_succ, List.setIfInBounds_toArray, List.set_cons_succ, List.set_cons_zero]
    refine wpAnyH_ready (rs := [5, 7]) (by kernel_rfl) (by simp) ?_
    refine AllReadyH.cons rfl (fun K hK => ?_) (AllReadyH.cons rfl (fun K hK => ?_) AllReadyH.nil)
    · go_simp
      refine (HOF.out W2.drew (Below.refl _ _).drew).mono ?_
      rintro e w1 ⟨rfl, hb1⟩
      have hh1 : w1.cell? ⟨w.heap.size, 0, none⟩ = some (.int .i64 t) := (hb1.cell (p := ⟨w.heap.size, 0, none⟩) (show w.heap.size < W2.heap.size by have := HZ2.out; omega)).trans q0d
      have hb1' : Hid (Below W2.heap.size W2 w1) := (Below.refl _ _).drew.trans hb1
      clear hb1
      refine hK.out _ _ hh1 (fun _ => ?_)
      clear hK K
      refine wpAnyH_take (i := 6) (v := ?_) rfl (by kernel_rfl) (by kernel_rfl) (by kernel_rfl) (fun _ _ _ h => h) (Or.inl ⟨by rfl, ?_⟩) hh1 ?_
      rotate_left
      · intro w9 hSw; (try dsimp only at hSw); go_simp; try with_reducible rfl
      simp only [Act.put, List.getElem_toArray, List.getElem_cons_zero, List.getElem_cons_succ, List.setIfInBounds_toArray, List.set_cons_succ, List.set_cons_zero]
      refine wpAnyH_ready (rs := [7]) (by kernel_rfl) (by simp) ?_
      refine AllReadyH.cons rfl (fun K hK => ?_) AllReadyH.nil
      go_simp
      refine hK.out _ _ ?_ (fun _ => ?_)
      · exact (((Below.refl _ w1).alloc (Nat.le_refl _) _).cell (p := ⟨w.heap.size, 0, none⟩) (show w.heap.size < w1.heap.size by have := HZ2.out; have := hb1'.out.size; omega)).trans hh1
      clear hK K
      refine wpAnyH_ready (rs := [8]) (by kernel_rfl) (by simp) ?_
      refine AllReadyH.cons rfl (fun K hK => ?_) AllReadyH.nil
      go_simp
      refine hK.out _ _ ?_ (fun _ => ?_)
      · exact (((Below.refl _ w1).alloc (Nat.le_refl _) _).cell (p := ⟨w.heap.size, 0, none⟩) (show w.heap.size < w1.heap.size by have := HZ2.out; have := hb1'.out.size; omega)).trans hh1
      clear hK K
      refine wpAnyH_done (by kernel_rfl) ?_ _
      have hc := hide (cells_two (w := w1.alloc (.cells #[.int .i64 t, .int .i64 (g t)] 100)) (b := w1.heap.size) (heap_alloc_new w1 _))
      clear hHeld hh1 q0d q0
      go_wp2_with fail
      go_meet
      exact ⟨_, rfl, hc.out.1, hc.out.2, hb1'.out.size, by simp, hb1'.out.alloc hb1'.out.size _⟩
    · go_simp
      refine hK.out _ _ ?_ (fun _ => ?_)
      · exact (((Below.refl _ W2.drew).alloc (Nat.le_refl _) _).cell (p := ⟨w.heap.size, 0, none⟩) (show w.heap.size < W2.heap.size by have := HZ2.out; omega)).trans q0d
      clear hK K
      refine wpAnyH_ready (rs := [5]) (by kernel_rfl) (by simp) ?_
      refine AllReadyH.cons rfl (fun K hK => ?_) AllReadyH.nil
      go_simp
      refine (HOF.out _ ((Below.refl _ W2).drew.alloc (Nat.le_refl _) _)).mono ?_
      rintro e w1 ⟨rfl, hb1⟩
      have hblk : w1.heap[W2.heap.size]? = some (.cells #[.int .i64 0, .int .i64 0] 100) := (hb1.block W2.heap.size (by simp)).trans (heap_alloc_new W2.drew _)
      have hx1 : W2.heap.size + 1 ≤ w1.heap.size := by have := hb1.size; simpa using this
      obtain ⟨z0, z1⟩ := cells_two hblk
      have f0 : w1.frozen? ⟨W2.heap.size, 0, none⟩ = false := by simp [World.frozen?, hblk]
      have f1 : w1.frozen? ⟨W2.heap.size, 1, none⟩ = false := by simp [World.frozen?, hblk]
      have hb1' : Hid (Below W2.heap.size W2 w1) := ((Below.refl _ W2).drew.alloc (Nat.le_refl _) _).trans (hb1.mono (by simp))
      have hh1 : w1.cell? ⟨w.heap.size, 0, none⟩ = some (.int .i64 t) := (hb1'.out.cell (p := ⟨w.heap.size, 0, none⟩) (show w.heap.size < W2.heap.size by have := HZ2.out; omega)).trans q0
      obtain ⟨w3, hw3⟩ : ∃ w3, (w1.setCell ⟨W2.heap.size, 0, none⟩ (.int .i64 t)).setCell ⟨W2.heap.size, 1, none⟩ (.int .i64 (g t)) = w3 := ⟨_, rfl⟩
      have hb3 : Hid (Below W2.heap.size W2 w3) := by rw [← hw3]; exact below_set (below_set hb1'.out W2.heap.size 0 _ (Nat.le_refl _)) W2.heap.size 1 _ (Nat.le_refl _)
      have hh3 : Hid (w3.cell? ⟨w.heap.size, 0, none⟩ = some (.int .i64 t)) := (hb3.out.cell (p := ⟨w.heap.size, 0, none⟩) (show w.heap.size < W2.heap.size by have := HZ2.out; omega)).trans q0
      have y0 : Hid (w3.cell? ⟨W2.heap.size, 0, none⟩ = some (.int .i64 t)) := by rw [← hw3, World.cell?_setCell_other _ _ _ _ (by simp)]; exact World.cell?_setCell_same _ _ _ z0
      have y1 : Hid (w3.cell? ⟨W2.heap.size, 1, none⟩ = some (.int .i64 (g t))) := by rw [← hw3]; exact World.cell?_setCell_same _ _ _ ((World.cell?_setCell_other _ _ _ _ (by simp)).trans z1)
      have hz3 : Hid (W2.heap.size < w3.heap.size) := hide (by rw [← hw3]; simp; omega)
      have HW3 := hide hw3
      clear hb1 hblk hx1 hw3
      refine hK.out _ _ hh1 (fun _ => ?_)
      clear hK K
      refine wpAnyH_take (i := 6) (v := ?_) rfl (by kernel_rfl) (by kernel_rfl) (by kernel_rfl) (fun _ _ _ h => h) (Or.inl ⟨by rfl, ?_⟩) hh1 ?_
      rotate_left
      · intro w9 hSw; (try dsimp only at hSw); go_simp; try with_reducible rfl
      simp only [Act.put, List.getElem_toArray, List.getElem_cons_zero, List.getElem_cons_succ, List.setIfInBounds_toArray, List.set_cons_succ, List.set_cons_zero]
      refine wpAnyH_ready (rs := [8]) (by kernel_rfl) (by simp) ?_
      refine AllReadyH.cons rfl (fun K hK => ?_) AllReadyH.nil
      go_simp
      rw [HW3.out]
      refine hK.out _ _ hh3.out (fun _ => ?_)
      clear hK K
      refine wpAnyH_done (by kernel_rfl) ?_ _
      clear hHeld hh1 q0d q0 z0 z1 f0 f1
      go_wp2_with fail
      go_meet
      exact ⟨_, rfl, y0.out, y1.out, Nat.le_refl _, hz3.out, hb3.out⟩
  case rest =>
    obtain ⟨bo, rfl, p0, p1, hbo, hbox, hbx⟩ := hcut
    have hvc : VarC wc (w.heap.size + 1) wt wn rt rn (.map mo) room := by
      have hk : w.heap.size + 1 < W2.heap.size := by have := HZ2.out; omega
      have h2 : VarC W2 (w.heap.size + 1) wt wn rt rn (.map mo) room := by
        have e : W2.heap[w.heap.size + 1]? = some (.cells #[.int .i64 wt, .int .i64 wn, .int .i64 rt, .int .i64 rn, .map mo, .int .i64 room] 103) := by
          have := heap_alloc_new W (.cells #[.int .i64 wt, .int .i64 wn, .int .i64 rt, .int .i64 rn, .map mo, .int .i64 room] 103)
          rw [HW2.out, HZ.out] at this
          exact this
        refine ⟨hk, ?_, ?_, ?_, ?_, ?_, ?_, fun i => ?_⟩ <;> simp [World.cell?, World.frozen?, e]
      exact h2.kept hbx.size (hbx.block _ hk)
    have x1 : wc.cell? ⟨w.heap.size, 1, none⟩ = some (.int .i64 kd) := (hbx.cell (p := ⟨w.heap.size, 1, none⟩) (show w.heap.size < W2.heap.size by have := HZ2.out; omega)).trans q1
    have x2 : wc.cell? ⟨w.heap.size, 2, none⟩ = some (.int .i64 o) := (hbx.cell (p := ⟨w.heap.size, 2, none⟩) (show w.heap.size < W2.heap.size by have := HZ2.out; omega)).trans q2
    have HEB := hide (fun (wx : World) (hx : Below wc.heap.size wc wx) => epB_any wt wn wx hwt ((h.any (HB2.out.trans (hbx.mono HB2.out.size))).any hx))
    have HVC := hide hvc
    have HBX := hide hbx
    obtain ⟨_, k0, k1, k2, k3, k4, k5, kf⟩ := hvc
    have HBO := hide (⟨hbo, hbox⟩ : W2.heap.size ≤ bo ∧ bo < wc.heap.size)
    clear hbx q0 q1 q2 hbo hbox
    have hwz : Hid (w.heap.size + 2 ≤ wc.heap.size ∧ bo < wc.heap.size ∧ W2.heap.size ≤ bo) := ⟨by have := HZ2.out; have := HBX.out.size; omega, HBO.out.2, HBO.out.1⟩
    go_wp2_with fail
    refine (HEB.out wc (Below.refl _ _)).mono ?_
    rintro e w1 ⟨rfl, hb1⟩
    have hv1 := HVC.out.kept hb1.size (hb1.block _ (by have := hwz.out; omega))
    have y1 := (hb1.cell (p := ⟨w.heap.size, 1, none⟩) (show w.heap.size < wc.heap.size by have := hwz.out; omega)).trans x1
    have y2 := (hb1.cell (p := ⟨w.heap.size, 2, none⟩) (show w.heap.size < wc.heap.size by have := hwz.out; omega)).trans x2
    have r0 := (hb1.cell (p := ⟨bo, 0, none⟩) hwz.out.2.1).trans p0
    have r1 := (hb1.cell (p := ⟨bo, 1, none⟩) hwz.out.2.1).trans p1
    have HV1 := hide hv1
    have HB1 : Hid (Below w.heap.size w w1) := (HB2.out.trans (HBX.out.mono HB2.out.size)).trans (hb1.mono (by have := hwz.out; omega))
    have HC1 := hide hb1
    obtain ⟨_, j0, j1, j2, j3, j4, j5, jf⟩ := hv1
    clear HVC k0 k1 k2 k3 k4 k5 kf x1 x2 p0 p1 hb1
    have HR1 : Hid (ReadV w1 (.map mo) rs ∧ StampV S w1 v g ∧ Value.map mo ≠ .map (some (w.heap.size + 1)) ∧ ∀ x, S x → x < w1.heap.size ∧ x ≠ w.heap.size + 1 ∧ Value.map mo ≠ .map (some x)) := by
      have hmo : ∀ x, Value.map mo = .map (some x) → x < w.heap.size := fun x e => by
        rcases hr with ⟨e', _⟩ | ⟨b', f, m, e', hM', _⟩
        · rw [e'] at e; cases e
        · rw [e'] at e; cases e; exact hM'.lt
      exact ⟨hr.kept fun x e => HB1.out.block x (hmo x e), h.any HB1.out, fun e => by have := hmo _ e; omega, fun x hx => ⟨by have := (hS x hx).1; have := HB1.out.size; omega, by have := (hS x hx).1; omega, (hS x hx).2.2⟩⟩
    have HRL : Hid (∀ x, Value.map mo = .map (some x) → x < w.heap.size) := fun x e => by
      rcases hr with ⟨e', _⟩ | ⟨b', f, m, e', hM', _⟩
      · rw [e'] at e; cases e
      · rw [e'] at e; cases e; exact hM'.lt
    obtain ⟨le, hle⟩ : ∃ le, Hid (decide (wn ≤ g wt) = le) := ⟨_, rfl⟩
    rw [hle.out]
    cases le with
    | false =>
      go_wp2_with fail
      go_ret
      have hnle : ¬ wn ≤ g wt := of_decide_eq_false hle.out
      exact ⟨false, rfl, ⟨(fun e => by cases e), fun e => absurd e.1 hnle⟩, fun _ => HB1.out, (fun e => by cases e)⟩
    | true =>
      by_cases hk : kd = 1
      · subst hk
        have HA := hide (addRead_any t (g t) w1 HV1.out HR1.out.1 hin hrt HR1.out.2.2.1 HR1.out.2.1 HR1.out.2.2.2)
        go_wp2_with fail
        refine HA.out.mono ?_
        rintro e w2 ⟨rfl, ⟨rv', rs', room', hv2, hr2, hN, hrv⟩, hch⟩
        obtain ⟨mo', rfl⟩ : ∃ mo', rv' = .map mo' := by
          rcases hr2 with ⟨e, _⟩ | ⟨b', _, _, e, _⟩
          · exact ⟨_, e⟩
          · exact ⟨_, e⟩
        have hz1 : w.heap.size + 2 ≤ w1.heap.size := by have := hwz.out; have := HC1.out.size; omega
        have hmo : ∀ x, Value.map mo = .map (some x) → x < w.heap.size := fun x e => by
          rcases hr with ⟨e', _⟩ | ⟨b', f, m, e', hM', _⟩
          · rw [e'] at e; cases e
          · rw [e'] at e; cases e; exact hM'.lt
        have hM2 : KMap ik w2 bk F nk := hM.same ((hch.block bk (by have := hM.lt; omega) (fun e => e.elim (fun e => by have := hM.lt; omega) hne)).trans (HB1.out.block bk hM.lt))
        have s2 := (World.cell?_of_block (w := w1) (w' := w2) (a := ⟨w.heap.size, 2, none⟩) (hch.block w.heap.size (by omega) (fun e => e.elim (fun e => by omega) (fun e => by have := hmo _ e; omega)))).trans y2
        obtain ⟨W', hrun, hM', hg', hz'⟩ := hM2.put stamp_key Tryz.underlying45 o (varV wt wn t (g t) (.map mo') room')
        have hrun' : Sem.run Tryz.prog (Instr.mapUpdate 45 (.map (some bk)) (.int .i64 o) (.agg #[.int .i64 wt, .int .i64 wn, .int .i64 t, .int .i64 (g t), .map mo', .int .i64 room'])) w2 = .ok () W' := hrun
        have HM' := hide hM'
        have HR2 := hide (⟨hr2, hN, hrv, hch, hg', hz'⟩ : _ ∧ _ ∧ _ ∧ _ ∧ _ ∧ _)
        obtain ⟨_, i0, i1, i2, i3, i4, i5, if_⟩ := hv2
        have HL : Hid (w.heap.size + 2 ≤ w1.heap.size ∧ ∀ x, Value.map mo = .map (some x) → x < w.heap.size) := ⟨hz1, hmo⟩
        clear j0 j1 j2 j3 j4 j5 jf y1 y2 r0 r1 hM' hr2 hN hrv hch hg' hz' hM2 hrun if_ HA hz1 hmo
        go_wp2_with fail
        go_ret
        obtain ⟨hr2, hN, hrv, hch, hg', hz'⟩ := HR2.out
        obtain ⟨hz1, hmo⟩ := HL.out
        have hbk := hM.lt
        refine ⟨true, rfl, ⟨fun _ => ⟨of_decide_eq_true hle.out, .inl rfl⟩, fun _ => rfl⟩, (fun e => by cases e), fun _ => ⟨.inl ⟨rfl, .map mo', rs', room', _, HM'.out, ?_, hN, ?_⟩, ?_⟩⟩
        · have hlt : ∀ x, Value.map mo' = .map (some x) → x < w2.heap.size := fun x e => by
            rcases hr2 with ⟨e', _⟩ | ⟨b', f, m, e', hM', _⟩
            · rw [e'] at e; cases e
            · rw [e'] at e; cases e; exact hM'.lt
          refine hr2.kept fun x e => hg'.block x (hlt x e) (fun e' => ?_)
          cases e'
          rcases hrv with h1 | ⟨_, br, h1, h2, _⟩
          · exact hne (h1.symm.trans e)
          · rw [h1] at e; cases e; omega
        · rcases hrv with h1 | ⟨h0, br, h1, h2, h3⟩
          · exact .inl h1
          · exact .inr ⟨h0, br, h1, by omega, by omega⟩
        · have c1 : Chg (fun x => x = bk ∨ Value.map mo = .map (some x)) w w2 := (chg_below HB1.out).trans hch (fun k hk e => e.elim (fun e => by omega) .inr)
          exact c1.trans (chg_grown hg') (fun k _ e => .inl (by cases e; rfl))
      · have hkb : (kd == 1) = false := by simp [hk]
        have hkd : decide (kd = 1) = false := decide_eq_false hk
        have HE2 := hide (epB_any rt rn w1 hrt HR1.out.2.1)
        go_wp2_with fail
        refine HE2.out.mono ?_
        rintro e w2 ⟨rfl, hb2⟩
        have hz1 : w.heap.size + 2 ≤ w1.heap.size ∧ bo < w1.heap.size := by have := hwz.out; have := HC1.out.size; omega
        have hv2 := HV1.out.kept hb2.size (hb2.block _ (by omega))
        have z2 := (hb2.cell (p := ⟨w.heap.size, 2, none⟩) (show w.heap.size < w1.heap.size by omega)).trans y2
        have t0 := (hb2.cell (p := ⟨bo, 0, none⟩) hz1.2).trans r0
        have t1 := (hb2.cell (p := ⟨bo, 1, none⟩) hz1.2).trans r1
        have HB2x : Hid (Below w.heap.size w w2) := HB1.out.trans (hb2.mono (by omega))
        have HD2 := hide hb2
        obtain ⟨_, i0, i1, i2, i3, i4, i5, if_⟩ := hv2
        clear j0 j1 j2 j3 j4 j5 jf y1 y2 r0 r1 hb2 HE2 if_ hz1
        obtain ⟨le2, hle2⟩ : ∃ le2, Hid (decide (rn ≤ g rt) = le2) := ⟨_, rfl⟩
        rw [hle2.out]
        cases le2 with
        | false =>
          go_wp2_with fail
          go_ret
          have hnle : ¬ rn ≤ g rt := of_decide_eq_false hle2.out
          exact ⟨false, rfl, ⟨(fun e => by cases e), fun e => absurd (e.2.resolve_left hk).1 hnle⟩, fun _ => HB2x.out, (fun e => by cases e)⟩
        | true =>
          have HRB := hide (rsB_any w2 (HR1.out.1.kept (w' := w2) fun x e => HD2.out.block x (by have := HRL.out x e; have := HB1.out.size; omega)) hin (HR1.out.2.1.any HD2.out))
          go_wp2_with fail
          refine HRB.out.mono ?_
          rintro e w3 ⟨c, rfl, hc, hb3⟩
          have hz2 : w.heap.size + 2 ≤ w2.heap.size ∧ bo < w2.heap.size := by have := hwz.out; have := HC1.out.size; have := HD2.out.size; omega
          have z3 := (hb3.cell (p := ⟨w.heap.size, 2, none⟩) (show w.heap.size < w2.heap.size by omega)).trans z2
          have s0 := (hb3.cell (p := ⟨bo, 0, none⟩) hz2.2).trans t0
          have s1 := (hb3.cell (p := ⟨bo, 1, none⟩) hz2.2).trans t1
          have HB3 : Hid (Below w.heap.size w w3) := HB2x.out.trans (hb3.mono (by omega))
          have HC := hide hc
          clear i0 i1 i2 i3 i4 i5 z2 t0 t1 hb3 HRB hz2 hc
          cases c with
          | false =>
            go_wp2_with fail
            go_ret
            exact ⟨false, rfl, ⟨(fun e => by cases e), fun e => absurd (HC.out.2 (e.2.resolve_left hk).2) (by simp)⟩, fun _ => HB3.out, (fun e => by cases e)⟩
          | true =>
            obtain ⟨W', hrun, hM', hg', hz'⟩ := (hM.same (HB3.out.block bk hM.lt)).put stamp_key Tryz.underlying45 o (varV t (g t) 0 0 (.map none) 0)
            have hrun' : Sem.run Tryz.prog (Instr.mapUpdate 45 (.map (some bk)) (.int .i64 o) (.agg #[.int .i64 t, .int .i64 (g t), .int .i64 0, .int .i64 0, .map none, .int .i64 0])) w3 = .ok () W' := hrun
            have HM' := hide hM'
            have HG' := hide hg'
            clear hM' hg' hz' hrun
            go_wp2_with fail
            go_ret
            refine ⟨true, rfl, ⟨fun _ => ⟨of_decide_eq_true hle.out, .inr ⟨of_decide_eq_true hle2.out, HC.out.1 trivial⟩⟩, fun _ => rfl⟩, (fun e => by cases e), fun _ => ⟨.inr ⟨hk, _, HM'.out⟩, ?_⟩⟩
            exact (chg_below HB3.out).trans (chg_grown HG'.out) (fun k _ e => .inl (by cases e; rfl))
end Go.Proofs.YtbajfapfpcjenaaGreatDoor
namespace Go.Proofs.YtbajfapfpcjenaaGreatDoor
open Go.RowKit Go.Proofs.Ord

theorem zero_unit (w : World) : (zeroValue 62).run Tryz.prog w = .ok (.agg #[]) w := by kernel_rfl

set_option maxRecDepth 100000 in
set_option maxHeartbeats 400000 in
theorem hadRace_any {bd br nr : Nat} {R : Int → Option Value} (o : Int) (w : World) (hd : w.cell? ⟨bd, 2, none⟩ = some (.map (some br))) (hR : KMap ik w br R nr) (hu : (R o).getD (.agg #[]) = .agg #[]) :
    Calls Tryz.prog 22 #[.pointer (some ⟨bd, 0, none⟩), .int .i64 o] w fun e w' => e = .returned (.bool (R o).isSome) ∧ Below w.heap.size w w' := by
  have hlk : Sem.run Tryz.prog (Instr.lookup 46 (.map (some br)) (.int .i64 o) true) w = .ok (.tuple #[.agg #[], .bool (R o).isSome]) w := by
    rw [← hu]; exact hR.lookOk stamp_key Tryz.underlying46 (zero_unit _) o
  have hst : Sem.run Tryz.prog (storeCells ⟨w.heap.size, 0, none⟩ []) (w.alloc (.cells #[] 62)) = .ok () (w.alloc (.cells #[] 62)) := rfl
  clear hu
  go_enter Tryz.func22, Tryz.ntmps22
  go_wp2_with fail
  go_ret
  exact ⟨rfl, (Below.refl _ _).alloc (Nat.le_refl _) _⟩


set_option maxRecDepth 100000 in
set_option maxHeartbeats 400000 in
theorem new_any (w : World) :
    Calls Tryz.prog 5 #[] w fun e w' => e = .returned (.pointer (some ⟨w.heap.size + 3, 0, none⟩)) ∧ w' = (((w.alloc (.map #[] 0)).alloc (.map #[] 0)).alloc (.map #[] 0)).alloc (.cells #[.map (some w.heap.size), .map (some (w.heap.size + 1)), .map (some (w.heap.size + 2))] 48) := by
  have m1 : Sem.run Tryz.prog (Instr.makeMap 43 none) w = .ok (.map (some w.heap.size)) (w.alloc (.map #[] 0)) := by kernel_rfl
  have m2 : Sem.run Tryz.prog (Instr.makeMap 45 none) (w.alloc (.map #[] 0)) = .ok (.map (some (w.heap.size + 1))) ((w.alloc (.map #[] 0)).alloc (.map #[] 0)) := by
    have : Sem.run Tryz.prog (Instr.makeMap 45 none) (w.alloc (.map #[] 0)) = .ok (.map (some (w.alloc (.map #[] 0)).heap.size)) ((w.alloc (.map #[] 0)).alloc (.map #[] 0)) := by kernel_rfl
    rw [this]; simp
  have m3 : Sem.run Tryz.prog (Instr.makeMap 46 none) ((w.alloc (.map #[] 0)).alloc (.map #[] 0)) = .ok (.map (some (w.heap.size + 2))) (((w.alloc (.map #[] 0)).alloc (.map #[] 0)).alloc (.map #[] 0)) := by
    have : Sem.run Tryz.prog (Instr.makeMap 46 none) ((w.alloc (.map #[] 0)).alloc (.map #[] 0)) = .ok (.map (some ((w.alloc (.map #[] 0)).alloc (.map #[] 0)).heap.size)) (((w.alloc (.map #[] 0)).alloc (.map #[] 0)).alloc (.map #[] 0)) := by kernel_rfl
    rw [this]; simp
  go_enter Tryz.func5, Tryz.ntmps5
  go_wp2_with fail
  go_ret
  exact ⟨rfl, rfl⟩
end Go.Proofs.YtbajfapfpcjenaaGreatDoor
/-
  What a detector holds: in which blocks, and what they tell.
-/
namespace Go.Proofs.YtbajfapfpcjenaaGreatDoor
open Go.RowKit Go.Proofs.Ord

/-- What a block is for: nothing (o), the detector (d), its flow (f), what is kept (k), what raced (r), stamps (s), the reads of a variable (t). -/
inductive Tag where
  | o | d | f | k | r | s
  | t (x : Int)

/-- What is kept of one variable. -/
def VarOk (w : World) (L : Nat → Ev) (k : Nat) (x : Int) (v : Value) (rb : Option Nat) : Prop :=
  ∃ wt wn rt rn rs room, v = varV wt wn rt rn (.map rb) room ∧ ReadV w (.map rb) rs ∧ VarS L k x wt wn rt rn rs ∧ In64 wt ∧ In64 rt ∧ RsIn rs
theorem VarOk.kept {w w' : World} {L : Nat → Ev} {k : Nat} {x : Int} {v : Value} {rb : Option Nat} (h : VarOk w L k x v rb) (hb : ∀ b, rb = some b → w'.heap[b]? = w.heap[b]?) : VarOk w' L k x v rb := by
  obtain ⟨wt, wn, rt, rn, rs, room, h1, h2, h3⟩ := h
  exact ⟨wt, wn, rt, rn, rs, room, h1, h2.kept (fun b e => hb b (by cases e; rfl)), h3⟩
theorem VarOk.same {w : World} {L L' : Nat → Ev} {k : Nat} {x : Int} {v : Value} {rb : Option Nat} (h : VarOk w L k x v rb) (hL : ∀ q, q < k → L q = L' q) : VarOk w L' k x v rb := by
  obtain ⟨wt, wn, rt, rn, rs, room, h1, h2, h3, h4⟩ := h
  exact ⟨wt, wn, rt, rn, rs, room, h1, h2, h3.same hL, h4⟩
theorem VarOk.skip {w : World} {L : Nat → Ev} {k : Nat} {x : Int} {v : Value} {rb : Option Nat} (h : VarOk w L k x v rb) (hno : ¬ isW L x k ∧ ¬ isR L x k) : VarOk w L (k + 1) x v rb := by
  obtain ⟨wt, wn, rt, rn, rs, room, h1, h2, h3, h4⟩ := h
  exact ⟨wt, wn, rt, rn, rs, room, h1, h2, h3.skip hno, h4⟩

theorem FlowW.keptF {S : Nat → Prop} {w w' : World} {F : Nat} {L : Nat → Ev} {c : Nat → Bool} {k : Nat} (h : FlowW S w F L c k) (hs : w.heap.size ≤ w'.heap.size) (hb : ∀ b, S b ∨ b = F → w'.heap[b]? = w.heap[b]?) : FlowW S w' F L c k := by
  obtain ⟨h1, h2, f, n, R, h3, h4, h5⟩ := h
  exact ⟨h1, fun x hx => by have := h2 x hx; omega, f, n, R, h3.same (hb F (.inr rfl)), h4.kept hs (fun b hS => hb b (.inl hS)), h5⟩
theorem FlowW.sameF {S : Nat → Prop} {w : World} {F : Nat} {L L' : Nat → Ev} {k : Nat} (h : FlowW S w F L (cF L) k) (hL : ∀ q, q < k → L q = L' q) : FlowW S w F L' (cF L') k := by
  obtain ⟨h1, h2, f, n, R, h3, h4, h5⟩ := h
  exact ⟨h1, h2, f, n, R, h3, h4, h5.same hL⟩

structure DetW (w : World) (tag : Nat → Tag) (bd bf bk br : Nat) (S : Nat → Prop) (K R : Int → Option Value) (T : Int → Option Nat) (L : Nat → Ev) (kf k : Nat) : Prop where
  cd : w.heap[bd]? = some (.cells #[.map (some bf), .map (some bk), .map (some br)] 48)
  flow : FlowW S w bf L (cF L) kf
  kept : ∃ n, KMap ik w bk K n
  raced : ∃ n, n ≤ k ∧ KMap ik w br R n
  vars : ∀ x v, K x = some v → Clean L x k ∧ VarOk w L k x v (T x)
  novar : ∀ x, K x = none → T x = none ∧ (Clean L x k → ∀ i, i < k → ¬ isW L x i ∧ ¬ isR L x i)
  races : ∀ x, (R x = none ∧ Clean L x k) ∨ (R x = some (.agg #[]) ∧ ¬ Clean L x k)
  rin : ∀ x, R x ≠ none → In64 x
  td : tag bd = .d
  tf : tag bf = .f
  tk : tag bk = .k
  tr : tag br = .r
  ts : ∀ b, S b → tag b = .s
  tt : ∀ x b, T x = some b → tag b = .t x
  tlt : ∀ b, tag b ≠ .o → b < w.heap.size

section
variable {w w' : World} {tag : Nat → Tag} {bd bf bk br : Nat} {S : Nat → Prop} {K R : Int → Option Value} {T : Int → Option Nat} {L L' : Nat → Ev} {kf k : Nat}

theorem DetW.own (h : DetW w tag bd bf bk br S K R T L kf k) (hb : ∀ b, tag b ≠ .o → w'.heap[b]? = w.heap[b]?) (hs : w.heap.size ≤ w'.heap.size) : DetW w' tag bd bf bk br S K R T L kf k := by
  obtain ⟨n, hK⟩ := h.kept
  obtain ⟨m, hm, hR⟩ := h.raced
  refine ⟨(hb bd (by rw [h.td]; simp)).trans h.cd, h.flow.keptF hs fun b e => hb b ?_, ⟨n, hK.same (hb bk (by rw [h.tk]; simp))⟩, ⟨m, hm, hR.same (hb br (by rw [h.tr]; simp))⟩, fun x v hv => ⟨(h.vars x v hv).1, (h.vars x v hv).2.kept fun b e => hb b (by rw [h.tt x b e]; simp)⟩, h.novar, h.races, h.rin, h.td, h.tf, h.tk, h.tr, h.ts, h.tt, fun b e => by have := h.tlt b e; omega⟩
  rcases e with e | rfl
  · rw [h.ts b e]; simp
  · rw [h.tf]; simp
theorem DetW.below (h : DetW w tag bd bf bk br S K R T L kf k) (hb : Below w.heap.size w w') : DetW w' tag bd bf bk br S K R T L kf k := h.own (fun b e => hb.block b (h.tlt b e)) hb.size
theorem DetW.sameL (h : DetW w tag bd bf bk br S K R T L k k) (hL : ∀ q, q < k → L q = L' q) : DetW w tag bd bf bk br S K R T L' k k := by
  have hL' : ∀ q, q < k → L' q = L q := fun q hq => (hL q hq).symm
  refine ⟨h.cd, h.flow.sameF hL, h.kept, h.raced, fun x v hv => ⟨clean_same hL (h.vars x v hv).1, (h.vars x v hv).2.same hL⟩, fun x hx => ⟨(h.novar x hx).1, fun hc i hi => ?_⟩, fun x => ?_, h.rin, h.td, h.tf, h.tk, h.tr, h.ts, h.tt, h.tlt⟩
  · have := (h.novar x hx).2 (clean_same hL' hc) i hi
    exact ⟨fun g => this.1 ((isW_same (hL i hi)).2 g), fun g => this.2 ((isR_same (hL i hi)).2 g)⟩
  · exact (h.races x).imp (fun g => ⟨g.1, clean_same hL g.2⟩) (fun g => ⟨g.1, fun hc => g.2 (clean_same hL' hc)⟩)

/-- New blocks are of stamps. -/
def tagN (tag : Nat → Tag) (w w' : World) (b : Nat) : Tag := if w.heap.size ≤ b ∧ b < w'.heap.size then .s else tag b
theorem tagN_old {b : Nat} (h : b < w.heap.size) : tagN tag w w' b = tag b := by unfold tagN; rw [if_neg (by omega)]

/-- Behind Next. -/
theorem DetW.next {k' : Nat} (h : DetW w tag bd bf bk br S K R T L kf k) (hg : w.grownBy w' (some bf)) (hF : FlowW (SN S w w') w' bf L (cF L) k') : DetW w' (tagN tag w w') bd bf bk br (SN S w w') K R T L k' k := by
  have hsz := hg.size
  have hlt : ∀ {b : Nat} {g : Tag}, tag b = g → g ≠ .o → b < w.heap.size := fun e hn => h.tlt _ (by rw [e]; exact hn)
  have hb : ∀ {b : Nat} {g : Tag}, tag b = g → g ≠ .o → g ≠ .f → w'.heap[b]? = w.heap[b]? := fun {b g} e h1 h2 => hg.block b (hlt e h1) (fun e' => by cases e'; rw [h.tf] at e; exact h2 e.symm)
  have tag' : ∀ {b : Nat} {g : Tag}, tag b = g → g ≠ .o → tagN tag w w' b = g := fun e hn => (tagN_old (hlt e hn)).trans e
  obtain ⟨n, hK⟩ := h.kept
  obtain ⟨m, hm, hR⟩ := h.raced
  refine ⟨(hb h.td (by simp) (by simp)).trans h.cd, hF, ⟨n, hK.same (hb h.tk (by simp) (by simp))⟩, ⟨m, hm, hR.same (hb h.tr (by simp) (by simp))⟩, fun x v hv => ⟨(h.vars x v hv).1, (h.vars x v hv).2.kept fun b e => hb (h.tt x b e) (by simp) (by simp)⟩, h.novar, h.races, h.rin, tag' h.td (by simp), tag' h.tf (by simp), tag' h.tk (by simp), tag' h.tr (by simp), fun b e => ?_, fun x b e => tag' (h.tt x b e) (by simp), fun b e => ?_⟩
  · rcases e with e | e
    · exact tag' (h.ts b e) (by simp)
    · unfold tagN; rw [if_pos e]
  · unfold tagN at e
    split at e
    · omega
    · have := h.tlt b e; omega

/-- An event that does not count. -/
theorem DetW.quiet (h : DetW w tag bd bf bk br S K R T L kf k) (hc : cF L k = false) : DetW w tag bd bf bk br S K R T L kf (k + 1) := by
  have hno : ∀ x, Clean L x k → ((L k).obj ≠ x ∨ access (L k) = false) := fun x hcl => by
    by_cases e : (L k).obj = x
    · right
      cases ha : access (L k) with
      | false => rfl
      | true =>
        have : cF L k = true := (cF_iff L k).2 ⟨ha, by rw [e]; exact hcl⟩
        rw [hc] at this; cases this
    · exact .inl e
  have hcl : ∀ x, Clean L x (k + 1) ↔ Clean L x k := fun x => by
    rw [clean_succ]
    exact ⟨fun g => g.1, fun g => ⟨g, hits_no (hno x g)⟩⟩
  obtain ⟨m, hm, hR⟩ := h.raced
  refine ⟨h.cd, h.flow, h.kept, ⟨m, by omega, hR⟩, fun x v hv => ?_, fun x hx => ⟨(h.novar x hx).1, fun g i hi => ?_⟩, fun x => by rw [hcl]; exact h.races x, h.rin, h.td, h.tf, h.tk, h.tr, h.ts, h.tt, h.tlt⟩
  · obtain ⟨h1, h2⟩ := h.vars x v hv
    exact ⟨(hcl x).2 h1, h2.skip (not_acc (hno x h1))⟩
  · rw [hcl] at g
    by_cases e : i = k
    · subst e; exact not_acc (hno x g)
    · exact (h.novar x hx).2 g i (by omega)

/-- What is kept of the variable that is asked for, or nothing. -/
theorem DetW.find (h : DetW w tag bd bf bk br S K R T L kf k) (o : Int) (hcl : Clean L o k) : ∃ wt wn rt rn rs room, (K o).getD (varV 0 0 0 0 (.map none) 0) = varV wt wn rt rn (.map (T o)) room ∧ ReadV w (.map (T o)) rs ∧ VarS L k o wt wn rt rn rs ∧ In64 wt ∧ In64 rt ∧ RsIn rs := by
  cases hK : K o with
  | some v =>
    obtain ⟨wt, wn, rt, rn, rs, room, h1, h2⟩ := (h.vars o v hK).2
    exact ⟨wt, wn, rt, rn, rs, room, h1, h2⟩
  | none =>
    obtain ⟨h1, h2⟩ := h.novar o hK
    rw [h1]
    exact ⟨0, 0, 0, 0, fun _ => none, 0, rfl, .inl ⟨rfl, fun _ => rfl⟩, varS_none L k o (h2 hcl), by unfold In64; omega, by unfold In64; omega, fun t n e => by cases e⟩

/-- One variable's blocks become others. -/
noncomputable def tagT (tag : Nat → Tag) (o : Int) (mo : Option Nat) (b : Nat) : Tag := open Classical in if mo = some b then .t o else if tag b = .t o then .o else tag b
theorem tagT_other {o : Int} {mo : Option Nat} {b : Nat} {g : Tag} (e : tag b = g) (h1 : g ≠ .t o) (h2 : mo ≠ some b) : tagT tag o mo b = g := by
  unfold tagT; rw [if_neg h2, if_neg (by rw [e]; exact h1)]; exact e
/-- Behind an access that counts: what is kept of its variable, or that it raced, is new. -/
theorem DetW.step {o : Int} {mo : Option Nat} {K' R' : Int → Option Value} {nk nr : Nat} (h : DetW w tag bd bf bk br S K R T L kf k) (ho : (L k).obj = o) (hoi : In64 o) (hnr : nr ≤ k + 1)
    (hch : Chg (fun x => x = bk ∨ x = br ∨ T o = some x) w w') (hmo : ∀ b, mo = some b → (T o = some b ∨ w.heap.size ≤ b) ∧ b < w'.heap.size)
    (hK : KMap ik w' bk K' nk) (hR : KMap ik w' br R' nr) (hK' : ∀ x, x ≠ o → K' x = K x) (hR' : ∀ x, x ≠ o → R' x = R x)
    (hv : ∀ v, K' o = some v → Clean L o (k + 1) ∧ VarOk w' L (k + 1) o v mo) (hn : K' o = none → mo = none ∧ ¬ Clean L o (k + 1))
    (hr : (R' o = none ∧ Clean L o (k + 1)) ∨ (R' o = some (.agg #[]) ∧ ¬ Clean L o (k + 1))) :
    DetW w' (tagT tag o mo) bd bf bk br S K' R' (fun x => if x = o then mo else T x) L kf (k + 1) := by
  have hsz := hch.size
  have hlt : ∀ {b : Nat} {g : Tag}, tag b = g → g ≠ .o → b < w.heap.size := fun e hn => h.tlt _ (by rw [e]; exact hn)
  have hmo' : ∀ {b : Nat} {g : Tag}, tag b = g → g ≠ .o → g ≠ .t o → mo ≠ some b := fun {b g} e h1 h2 e' => by
    rcases (hmo b e').1 with h3 | h3
    · exact h2 (e.symm.trans (h.tt o b h3))
    · have := hlt e h1; omega
  have tag' : ∀ {b : Nat} {g : Tag}, tag b = g → g ≠ .o → g ≠ .t o → tagT tag o mo b = g := fun e h1 h2 => tagT_other e h2 (hmo' e h1 h2)
  have hb : ∀ {b : Nat} {g : Tag}, tag b = g → g ≠ .o → g ≠ .k → g ≠ .r → g ≠ .t o → w'.heap[b]? = w.heap[b]? := fun {b g} e h1 h2 h3 h4 => hch.block b (hlt e h1) (fun e' => by
    rcases e' with e' | e' | e'
    · rw [e', h.tk] at e; exact h2 e.symm
    · rw [e', h.tr] at e; exact h3 e.symm
    · exact h4 (e.symm.trans (h.tt o b e')))
  have hto : ∀ x b, x ≠ o → T x = some b → tag b = .t x ∧ Tag.t x ≠ .o ∧ Tag.t x ≠ .t o := fun x b hx e => ⟨h.tt x b e, by simp, fun e' => hx (by cases e'; rfl)⟩
  have hno : ∀ x, x ≠ o → (L k).obj ≠ x := fun x hx e => hx (e.symm.trans ho)
  have hcl : ∀ x, x ≠ o → (Clean L x (k + 1) ↔ Clean L x k) := fun x hx => by
    rw [clean_succ]
    exact ⟨fun g => g.1, fun g => ⟨g, hits_no (.inl (hno x hx))⟩⟩
  refine ⟨(hb h.td (by simp) (by simp) (by simp) (by simp)).trans h.cd, h.flow.keptF hsz fun b e => ?_, ⟨nk, hK⟩, ⟨nr, hnr, hR⟩, fun x v hx => ?_, fun x hx => ?_, fun x => ?_, fun x hx => ?_, tag' h.td (by simp) (by simp), tag' h.tf (by simp) (by simp), tag' h.tk (by simp) (by simp), tag' h.tr (by simp) (by simp), fun b e => tag' (h.ts b e) (by simp) (by simp), fun x b e => ?_, fun b e => ?_⟩
  · rcases e with e | rfl
    · exact hb (h.ts b e) (by simp) (by simp) (by simp) (by simp)
    · exact hb h.tf (by simp) (by simp) (by simp) (by simp)
  · by_cases e : x = o
    · subst e; rw [if_pos rfl]; exact hv v hx
    · rw [if_neg e]
      rw [hK' x e] at hx
      obtain ⟨h1, h2⟩ := h.vars x v hx
      exact ⟨(hcl x e).2 h1, (h2.kept fun b eb => by obtain ⟨g1, g2, g3⟩ := hto x b e eb; exact hb g1 g2 (by simp) (by simp) g3).skip (not_acc (.inl (hno x e)))⟩
  · by_cases e : x = o
    · subst e; rw [if_pos rfl]; exact ⟨(hn hx).1, fun g => absurd g (hn hx).2⟩
    · rw [if_neg e]
      rw [hK' x e] at hx
      obtain ⟨h1, h2⟩ := h.novar x hx
      refine ⟨h1, fun g i hi => ?_⟩
      rw [hcl x e] at g
      by_cases ei : i = k
      · subst ei; exact not_acc (.inl (hno x e))
      · exact h2 g i (by omega)
  · by_cases e : x = o
    · subst e; exact hr
    · rw [hR' x e, hcl x e]; exact h.races x
  · by_cases e : x = o
    · subst e; exact hoi
    · rw [hR' x e] at hx; exact h.rin x hx
  · by_cases ex : x = o
    · subst ex
      rw [if_pos rfl] at e
      unfold tagT; rw [if_pos e]
    · rw [if_neg ex] at e
      obtain ⟨g1, g2, g3⟩ := hto x b ex e
      exact tag' g1 g2 g3
  · unfold tagT at e
    split at e
    · rename_i g; exact (hmo b g).2
    · split at e
      · exact absurd rfl e
      · have := h.tlt b e; omega
end

theorem tagT_old {tag : Nat → Tag} {o : Int} {mo : Option Nat} {b : Nat} (hmo : mo = some b → tag b = .t o) (h : tagT tag o mo b ≠ .o) : tag b ≠ .o := by
  unfold tagT at h
  split at h
  · rename_i g; rw [hmo g]; simp
  · split at h
    · exact absurd rfl h
    · exact h
end Go.Proofs.YtbajfapfpcjenaaGreatDoor
