import Derived.Test.YtlpdomgedaockaaGreatDoorOl22
import Derived.BigRegion
import Derived.BigQuiet
set_option linter.unusedVariables false
set_option linter.unusedSimpArgs false
namespace Go.Proofs.YtlpdomgedaockaaGreatDoor
open Go.RowKit Go.Proofs.Cod
section
variable {w w' : World} {b sb : Nat} {p : PD} {s : MS} {t : Nat} {x : In7} {e : Ev}
theorem mach_reg (h : RowF w b 101 856 (mcF p s)) {t m : Nat} (ht : t < 4) (hm : m < 4) : w.cell? ⟨b, 27 + t * 207 + 3 + m, none⟩ = some (.int .i64 ((s.th t).regs.getD m 0)) := by
  rw [show 27 + t * 207 + 3 + m = 27 + t * 207 + (3 + m) by omega, h.cell (by omega), mc_thr p s ht (by omega)]
  unfold thrF
  rw [if_neg (by omega), if_neg (by omega), if_neg (by omega), if_pos (by omega), show 3 + m - 3 = m by omega]
theorem tmod_mod {n : Int} (h : -1000 ≤ n) : Int.tmod (n + 1000) 1000 = (n + 1000) % 1000 := Int.tmod_eq_emod_of_nonneg (by omega)
set_option maxRecDepth 100000 in
set_option maxHeartbeats 1000000 in
theorem assign_any (h : StV w b sb p s t x e) (ht : t < 4) (htl : t < s.thr.length) (hrl : (s.th t).regs.length = 4) (hr : 0 ≤ x.r ∧ x.r < 4) (n : Int) (hn : -1000 ≤ n) (hn2 : n < 2000000) :
    Calls Tryz.prog 61 #[ptrV sb, .int .i64 n] w fun r w' => r = .returned (.tuple #[]) ∧ StR w w' b sb p (s.setT t { s.th t with regs := (s.th t).regs.set x.r.toNat (n % 1000) }) t x e := by
  obtain ⟨m, hm⟩ : ∃ m : Nat, x.r = m := ⟨x.r.toNat, by omega⟩
  have hm4 : m < 4 := by omega
  have hmi : (m : Int) < 4 := by omega
  obtain ⟨-, c1⟩ := h.ptrs
  obtain ⟨-, c3, -, -, -, -, -⟩ := h.ins
  rw [hm] at c3
  obtain ⟨f1, f2⟩ := h.frz
  have c2 := mach_reg h.m ht hm4
  have hw1 : wrap64 (n + 1000) = n + 1000 := by unfold wrap64; omega
  have hmod := tmod_mod hn
  have hw2 : wrap64 ((n + 1000) % 1000) = (n + 1000) % 1000 := by unfold wrap64; omega
  have hne := h.ne
  have H := hide h
  replace hm : Hid (x.r.toNat = m) := by unfold Hid; omega
  generalize hv : (s.th t).regs.getD m 0 = v at *
  clear h hr hv
  unfold ptrV
  go_enter Tryz.func61, Tryz.ntmps61
  go_wp2_with fail
  go_region
  all_goals
    go_wp2_with fail
    go_end0
    refine ⟨rfl, .of ?_ ((KeepS.refl _).drew.set (.inl (.inl rfl)) _)⟩
    rw [hm.out]
    have := H.out.setM (fun j => mc_setReg ht htl hm4 hrl (n % 1000) (k := j))
    rw [show 27 + t * 207 + (3 + m) = 27 + t * 207 + 3 + m by omega] at this
    exact this.same rfl
theorem keepS1 (w : World) (b sb i : Nat) (v : Value) : KeepS (fun k => k = b ∨ k = sb) w (w.setCell ⟨sb, i, none⟩ v) := (KeepS.refl _).set (.inl (.inr rfl)) _
theorem keepM1 (w : World) (b sb i : Nat) (v : Value) : KeepS (fun k => k = b ∨ k = sb) w (w.setCell ⟨b, i, none⟩ v) := (KeepS.refl _).set (.inl (.inl rfl)) _
theorem keepN (w : World) (b sb q : Nat) : KeepS (fun k => k = b ∨ k = sb) w (w.drewN q) := ⟨rfl, rfl, rfl, Nat.le_refl _, fun _ _ _ => rfl⟩
theorem keepSS (w : World) (b sb i j : Nat) (v u : Value) : KeepS (fun k => k = b ∨ k = sb) w (((w.setCell ⟨sb, i, none⟩ v).drew.setCell ⟨b, j, none⟩ u).drew) := ((keepS1 w b sb i v).drew.trans (keepM1 _ b sb j u)).drew
theorem mach_cell (h : RowF w b 101 856 (mcF p s)) {o n : Nat} (hn : n < 4) (ho : o = 0 ∨ o = 9) : w.cell? ⟨b, o + n * 2 + 1, none⟩ = some (.int .i64 ((if o = 0 then s.vars else s.flags).getD n 0)) := by
  rcases ho with rfl | rfl
  · rw [h.cell (by omega), show 0 + n * 2 + 1 = n * 2 + 1 by omega, mc_var p s hn]; rfl
  · rw [h.cell (by omega), show 9 + n * 2 + 1 = 9 + (n * 2 + 1) by omega, mc_flag p s hn]; rfl
def setSh (s : MS) (o n : Nat) (v : Int) : MS := if o = 0 then { s with vars := s.vars.set n v } else { s with flags := s.flags.set n v }
theorem mc_setSh {o n : Nat} (hn : n < 4) (ho : o = 0 ∨ o = 9) (hl : n < (if o = 0 then s.vars else s.flags).length) (v : Int) {k : Nat} : (if k = o + n * 2 + 1 then Value.int .i64 v else mcF p s k) = mcF p (setSh s o n v) k := by
  rcases ho with rfl | rfl
  · rw [show 0 + n * 2 + 1 = n * 2 + 1 by omega]
    exact mc_setVar hn hl v
  · rw [show 9 + n * 2 + 1 = 9 + (n * 2 + 1) by omega]
    exact mc_setFlag hn hl v
set_option maxRecDepth 100000 in
set_option maxHeartbeats 1000000 in
theorem fetch_any (h : StV w b sb p s t x e) (ht : t < 4) (htl : t < s.thr.length) (hrl : (s.th t).regs.length = 4) (hr : 0 ≤ x.r ∧ x.r < 4) (hx : 0 ≤ x.x ∧ x.x < 4) (kd : Int) {o : Nat} (ho : o = 0 ∨ o = 9) :
    Calls Tryz.prog 67 #[ptrV sb, .int .i64 kd, .pointer (some ⟨b, o, none⟩)] w fun r w' => r = .returned (.tuple #[]) ∧ StR w w' b sb p (s.setT t { s.th t with regs := (s.th t).regs.set x.r.toNat ((if o = 0 then s.vars else s.flags).getD x.x.toNat 0) }) t x { e with k := kd, o := x.x, v := (if o = 0 then s.vars else s.flags).getD x.x.toNat 0 } := by
  obtain ⟨m, hm⟩ : ∃ m : Nat, x.r = m := ⟨x.r.toNat, by omega⟩
  obtain ⟨n, hn⟩ : ∃ n : Nat, x.x = n := ⟨x.x.toNat, by omega⟩
  have hm4 : m < 4 := by omega
  have hmi : (m : Int) < 4 := by omega
  have hn4 : n < 4 := by omega
  have hni : (n : Int) < 4 := by omega
  have T := tell_any h kd
  have hm' : Hid (x.r.toNat = m) := by unfold Hid; omega
  have hn' : Hid (x.x.toNat = n) := by unfold Hid; omega
  have hne := h.ne
  clear h
  rw [hn'.out, hm'.out]
  obtain ⟨v, hv⟩ : ∃ v, (if o = 0 then s.vars else s.flags).getD n 0 = v := ⟨_, rfl⟩
  rw [hv]
  replace hv := hide hv
  unfold ptrV at *
  go_enter Tryz.func67, Tryz.ntmps67
  go_wp2_with fail
  refine T.mono ?_
  rintro e1 w1 ⟨rfl, h1, hk1⟩
  obtain ⟨-, c1⟩ := h1.ptrs
  obtain ⟨-, c3, -, -, -, -, c8⟩ := h1.ins
  obtain ⟨-, -, -, c12⟩ := h1.evs
  rw [hm] at c3
  rw [hn] at c8
  obtain ⟨f1, f2⟩ := h1.frz
  have c2 := mach_reg h1.m ht hm4
  have c4 := mach_cell h1.m hn4 ho
  rw [hv.out] at c4
  generalize (s.th t).regs.getD m 0 = v0 at *
  have H := hide h1
  have HK := hide hk1
  clear h1 hk1 T hr hx hm hn ho
  go_wp2_with fail
  go_region
  all_goals
    go_wp2_with fail
    go_region
    all_goals
      go_wp2_with fail
      go_end0
      refine ⟨rfl, .of ?_ (HK.out.trans (keepSS w1 b sb _ _ _ _))⟩
      have := (H.out.setV v).setM (fun j => mc_setReg ht htl hm4 hrl v (k := j))
      rw [show 27 + t * 207 + (3 + m) = 27 + t * 207 + 3 + m by omega] at this
      exact this.same rfl
set_option maxRecDepth 100000 in
set_option maxHeartbeats 1000000 in
theorem keep_any (h : StV w b sb p s t x e) (ht : t < 4) (hrl : (s.th t).regs.length = 4) (ha : argB4 x.aR x.aN) (hx : 0 ≤ x.x ∧ x.x < 4) (kd : Int) {o : Nat} (ho : o = 0 ∨ o = 9) (hl : x.x.toNat < (if o = 0 then s.vars else s.flags).length) :
    Calls Tryz.prog 69 #[ptrV sb, .int .i64 kd, .pointer (some ⟨b, o, none⟩)] w fun r w' => r = .returned (.tuple #[]) ∧ StR w w' b sb p (setSh s o x.x.toNat (vlM (s.th t) x.aR x.aN)) t x { e with k := kd, o := x.x, v := vlM (s.th t) x.aR x.aN } := by
  obtain ⟨n, hn⟩ : ∃ n : Nat, x.x = n := ⟨x.x.toNat, by omega⟩
  have hn4 : n < 4 := by omega
  have hni : (n : Int) < 4 := by omega
  have T := tell_any h kd
  have hn' : Hid (x.x.toNat = n) := by unfold Hid; omega
  have hne := h.ne
  clear h
  rw [hn'.out] at hl ⊢
  obtain ⟨v, hv⟩ : ∃ v, vlM (s.th t) x.aR x.aN = v := ⟨_, rfl⟩
  rw [hv]
  replace hv := hide hv
  unfold ptrV at *
  go_enter Tryz.func69, Tryz.ntmps69
  go_wp2_with fail
  refine T.mono ?_
  rintro e1 w1 ⟨rfl, h1, hk1⟩
  obtain ⟨-, -, c4, c5, -, -, -⟩ := h1.ins
  have V := value_any h1 ht hrl _ _ ha
  rw [hv.out] at V
  have H := hide h1
  have HK := hide hk1
  clear h1 hk1 T hx
  unfold ptrV at V
  go_wp2_with fail
  refine V.mono ?_
  rintro e2 w2 ⟨rfl, hb2⟩
  have h2 := H.out.below hb2
  replace HK := hide (HK.out.trans (KeepS.ofBelow hb2))
  obtain ⟨-, -, -, -, -, -, c8⟩ := h2.ins
  obtain ⟨-, -, -, c12⟩ := h2.evs
  rw [hn] at c8
  obtain ⟨f1, f2⟩ := h2.frz
  have c9 := mach_cell h2.m hn4 ho
  generalize (if o = 0 then s.vars else s.flags).getD n 0 = v0 at *
  have H2 := hide h2
  have HO := hide ho
  have HL := hide hl
  clear h2 H V c4 c5 hb2 hn ho hl
  go_wp2_with fail
  go_region
  all_goals
    go_wp2_with fail
    go_end0
    refine ⟨rfl, .of ?_ (HK.out.trans ((keepS1 w2 b sb _ _).trans (keepM1 _ b sb _ _)).drew)⟩
    exact ((H2.out.setV v).setM (fun j => mc_setSh hn4 HO.out HL.out v (k := j))).same rfl
theorem mach_lck (h : RowF w b 101 856 (mcF p s)) {n : Nat} (hn : n < 4) : w.cell? ⟨b, 18 + n * 2 + 1, none⟩ = some (.int .i64 (s.locks.getD n 0)) := by
  rw [show 18 + n * 2 + 1 = 18 + (n * 2 + 1) by omega, h.cell (by omega), mc_lock p s hn]
theorem mc_setLck {n : Nat} (hn : n < 4) (hl : n < s.locks.length) (v : Int) {k : Nat} : (if k = 18 + n * 2 + 1 then Value.int .i64 v else mcF p s k) = mcF p { s with locks := s.locks.set n v } k := by
  rw [show 18 + n * 2 + 1 = 18 + (n * 2 + 1) by omega]
  exact mc_setLock hn hl v
set_option maxRecDepth 100000 in
set_option maxHeartbeats 1000000 in
theorem acquire_any (h : StV w b sb p s t x e) (hx : 0 ≤ x.x ∧ x.x < 4) (hl : x.x.toNat < s.locks.length) :
    Calls Tryz.prog 72 #[ptrV sb] w fun r w' => r = .returned (.tuple #[]) ∧ StR w w' b sb p { s with locks := s.locks.set x.x.toNat e.t } t x { e with k := 5, o := x.x } := by
  obtain ⟨n, hn⟩ : ∃ n : Nat, x.x = n := ⟨x.x.toNat, by omega⟩
  have hn4 : n < 4 := by omega
  have hni : (n : Int) < 4 := by omega
  have T := tell_any h 5
  have hn' : Hid (x.x.toNat = n) := by unfold Hid; omega
  have hne := h.ne
  clear h
  rw [hn'.out] at hl ⊢
  unfold ptrV at *
  go_enter Tryz.func72, Tryz.ntmps72
  go_wp2_with fail
  refine T.mono ?_
  rintro e1 w1 ⟨rfl, h1, hk1⟩
  obtain ⟨c0, -⟩ := h1.ptrs
  obtain ⟨-, -, -, -, -, -, c8⟩ := h1.ins
  rw [hn] at c8
  obtain ⟨c9, -, -, -⟩ := h1.evs
  obtain ⟨f1, f2⟩ := h1.frz
  have c4 := mach_lck h1.m hn4
  generalize s.locks.getD n 0 = v0 at *
  have H := hide h1
  have HK := hide hk1
  have HL := hide hl
  clear h1 hk1 T hx hl hn
  go_wp2_with fail
  go_region
  all_goals
    go_wp2_with fail
    go_end0
    refine ⟨rfl, .of ?_ (HK.out.trans (keepM1 w1 b sb _ _).drew)⟩
    exact (H.out.setM (fun j => mc_setLck hn4 HL.out e.t (k := j))).same rfl
set_option maxRecDepth 100000 in
set_option maxHeartbeats 1000000 in
theorem release_any (h : StV w b sb p s t x e) (ht : t < 4) (htl : t < s.thr.length) (hx : 0 ≤ x.x ∧ x.x < 4) (hl : x.x.toNat < s.locks.length) :
    Calls Tryz.prog 73 #[ptrV sb] w fun r w' => r = .returned (.tuple #[]) ∧
      if s.locks.getD x.x.toNat 0 ≠ e.t then StR w w' b sb p (s.setT t { s.th t with ph := 3 }) t x { e with k := 9 } else StR w w' b sb p { s with locks := s.locks.set x.x.toNat (-1) } t x { e with k := 6, o := x.x } := by
  obtain ⟨n, hn⟩ : ∃ n : Nat, x.x = n := ⟨x.x.toNat, by omega⟩
  have hn4 : n < 4 := by omega
  have hni : (n : Int) < 4 := by omega
  have hn' : Hid (x.x.toNat = n) := by unfold Hid; omega
  have hne := h.ne
  obtain ⟨c0, -⟩ := h.ptrs
  obtain ⟨-, -, -, -, -, -, c8⟩ := h.ins
  rw [hn] at c8
  obtain ⟨c9, -, -, -⟩ := h.evs
  have c4 := mach_lck h.m hn4
  rw [hn'.out] at hl ⊢
  have h' : ∀ q, StV (w.drewN q) b sb p s t x e := fun q => h.same rfl
  have T := fun q => tell_any (h' q) 6
  have F := fun q => fail_any (h' q) ht htl
  generalize s.locks.getD n 0 = v0 at *
  have H := hide h
  have HL := hide hl
  clear h hx hl hn h'
  unfold ptrV at *
  by_cases hv : v0 = e.t
  · have hite : (v0 ≠ e.t) = False := by simp [hv]
    simp only [hite, if_false]
    clear hite
    have hv' : (v0 != e.t) = false := by simp [hv]
    clear F
    go_enter Tryz.func73, Tryz.ntmps73
    go_wp2_with fail
    go_quiet (fail)
    go_wp2_with fail
    go_quiet (fail)
    go_wp2_with fail
    refine (T _).mono ?_
    rintro e1 w1 ⟨rfl, h1, hk1⟩
    replace hk1 := (keepN w b sb _).trans hk1
    have d4 := mach_lck h1.m hn4
    obtain ⟨f1, f2⟩ := h1.frz
    have H1 := hide h1
    have HK := hide hk1
    clear h1 hk1 T c0 c4 c8 c9
    go_wp2_with fail
    go_end0
    refine ⟨rfl, .of ?_ (HK.out.trans (keepM1 w1 b sb _ _))⟩
    exact H1.out.setM (fun j => mc_setLck hn4 HL.out (-1) (k := j))
  · have hite : (v0 ≠ e.t) = True := by simp [hv]
    simp only [hite, if_true]
    clear hite
    have hv' : (v0 != e.t) = true := by simp [hv]
    clear T
    go_enter Tryz.func73, Tryz.ntmps73
    go_wp2_with fail
    go_quiet (fail)
    go_wp2_with fail
    go_quiet (fail)
    go_wp2_with fail
    refine (F _).mono ?_
    rintro e1 w1 ⟨rfl, h1, hk1⟩
    replace hk1 := (keepN w b sb _).trans hk1
    have HK := hide hk1
    have H1 := hide h1
    clear h1 hk1 F
    go_wp2_with fail
    refine bodyPost_ret (results_none rfl _ _ _) rfl ?_
    exact ⟨rfl, .of H1.out HK.out⟩
set_option maxRecDepth 100000 in
set_option maxHeartbeats 1000000 in
theorem spawn_any (h : StV w b sb p s t x e) (hx : 0 ≤ x.x ∧ x.x < 4) (hl : x.x.toNat < s.thr.length) :
    Calls Tryz.prog 74 #[ptrV sb] w fun r w' => r = .returned (.tuple #[]) ∧ StR w w' b sb p (s.setT x.x.toNat { s.th x.x.toNat with ph := 1 }) t x { e with k := 7, o := x.x } := by
  obtain ⟨n, hn⟩ : ∃ n : Nat, x.x = n := ⟨x.x.toNat, by omega⟩
  have hn4 : n < 4 := by omega
  have hni : (n : Int) < 4 := by omega
  have T := tell_any h 7
  have hn' : Hid (x.x.toNat = n) := by unfold Hid; omega
  have hne := h.ne
  clear h
  rw [hn'.out] at hl ⊢
  unfold ptrV at *
  go_enter Tryz.func74, Tryz.ntmps74
  go_wp2_with fail
  refine T.mono ?_
  rintro e1 w1 ⟨rfl, h1, hk1⟩
  obtain ⟨c0, -⟩ := h1.ptrs
  obtain ⟨-, -, -, -, -, -, c8⟩ := h1.ins
  rw [hn] at c8
  obtain ⟨f1, f2⟩ := h1.frz
  have c4 : w1.cell? ⟨b, 27 + n * 207 + 1, none⟩ = some (.int .i64 (s.th n).ph) := by rw [h1.m.cell (by omega), mc_thr p s hn4 (by omega)]; rfl
  have H := hide h1
  have HK := hide hk1
  have HL := hide hl
  clear h1 hk1 T hx hl hn
  go_wp2_with fail
  go_region
  all_goals
    go_wp2_with fail
    go_end0
    refine ⟨rfl, .of ?_ (HK.out.trans (keepM1 w1 b sb _ _).drew)⟩
    exact (H.out.setM (fun j => mc_setPh hn4 HL.out 1 (k := j))).same rfl
end
end Go.Proofs.YtlpdomgedaockaaGreatDoor
namespace Go.Proofs.YtlpdomgedaockaaGreatDoor
open Go.RowKit Go.Proofs.Cod
section
variable {w w' : World} {b sb : Nat} {p : PD} {s : MS} {t : Nat} {x : In7} {e : Ev}
structure DFit (s : MS) (t : Nat) (x : In7) : Prop where
  t4 : t < 4
  tl : t < s.thr.length
  rl : (s.th t).regs.length = 4
  rv : ∀ v, v ∈ (s.th t).regs → val3 v
  r : 0 ≤ x.r ∧ x.r < 4
  a : argB4 x.aR x.aN
  b : argB4 x.bR x.bN
  x0 : 0 ≤ x.x
theorem DFit.va (h : DFit s t x) : val3 (vlM (s.th t) x.aR x.aN) := by
  unfold vlM
  split
  · rename_i q
    have := h.a.2.2 q
    have h0 := h.a.1
    exact h.rv _ (getD_mem (by rw [h.rl]; omega))
  · exact ⟨h.a.1, h.a.2.1⟩
theorem DFit.vb (h : DFit s t x) : val3 (vlM (s.th t) x.bR x.bN) := by
  unfold vlM
  split
  · rename_i q
    have := h.b.2.2 q
    have h0 := h.b.1
    exact h.rv _ (getD_mem (by rw [h.rl]; omega))
  · exact ⟨h.b.1, h.b.2.1⟩
theorem mul_bnd {a b : Int} (ha : val3 a) (hb : val3 b) : a * b < 2000000 := by
  have h1 : a * b ≤ 999 * b := Int.mul_le_mul_of_nonneg_right (by have := ha.2; omega) hb.1
  have := hb.2
  omega
set_option maxRecDepth 100000 in
set_option maxHeartbeats 1000000 in
theorem dSet_any (h : StV w b sb p s t x e) (hf : DFit s t x) :
    Calls Tryz.prog 60 #[ptrV sb] w fun r w' => r = .returned (.tuple #[]) ∧ StR w w' b sb p (s.setT t { s.th t with regs := (s.th t).regs.set x.r.toNat (vlM (s.th t) x.aR x.aN % 1000) }) t x e := by
  obtain ⟨-, -, c4, c5, -, -, -⟩ := h.ins
  have V := value_any h hf.t4 hf.rl _ _ hf.a
  have A : ∀ w', Below w.heap.size w w' → _ := fun w' hb => assign_any (h.below hb) hf.t4 hf.tl hf.rl hf.r (vlM (s.th t) x.aR x.aN) (by have := hf.va.1; omega) (by have := hf.va.2; omega)
  replace A := hide A
  obtain ⟨v, hv⟩ : ∃ v, vlM (s.th t) x.aR x.aN = v := ⟨_, rfl⟩
  rw [hv] at V A ⊢
  clear h hf hv
  unfold ptrV at *
  go_enter Tryz.func60, Tryz.ntmps60
  go_wp2_with fail
  refine V.mono ?_
  rintro e1 w1 ⟨rfl, hb⟩
  have A1 := A.out w1 hb
  have HB := hide hb
  clear A V hb
  go_wp2_with fail
  refine A1.mono ?_
  rintro e2 w2 ⟨rfl, h2⟩
  have H2 := hide h2
  clear h2 A1
  go_wp2_with fail
  go_end0
  exact ⟨rfl, H2.out.v, (KeepS.ofBelow HB.out).trans H2.out.k⟩
set_option maxRecDepth 100000 in
set_option maxHeartbeats 1000000 in
theorem dAdd_any (h : StV w b sb p s t x e) (hf : DFit s t x) :
    Calls Tryz.prog 63 #[ptrV sb] w fun r w' => r = .returned (.tuple #[]) ∧ StR w w' b sb p (s.setT t { s.th t with regs := (s.th t).regs.set x.r.toNat ((vlM (s.th t) x.aR x.aN + vlM (s.th t) x.bR x.bN) % 1000) }) t x e := by
  obtain ⟨-, -, c4, c5, c6, c7, -⟩ := h.ins
  have V := hide (fun w' (hb : Below w.heap.size w w') => value_any (h.below hb) hf.t4 hf.rl _ _ hf.a)
  have V2 := hide (fun w' (hb : Below w.heap.size w w') => value_any (h.below hb) hf.t4 hf.rl _ _ hf.b)
  have hva := hf.va
  have hvb := hf.vb
  have H := hide h
  have hd : Below w.heap.size w w.drew := ⟨rfl, rfl, rfl, Nat.le_refl _, fun _ _ => rfl⟩
  have A := hide (fun w' (hb : Below w.heap.size w w') => assign_any (h.below hb) hf.t4 hf.tl hf.rl hf.r (vlM (s.th t) x.aR x.aN + vlM (s.th t) x.bR x.bN) (by have := hva.1; have := hvb.1; have := hva.2; have := hvb.2; omega) (by have := hva.2; have := hvb.2; have := hva.1; have := hvb.1; omega))
  obtain ⟨v, hv⟩ : ∃ v, vlM (s.th t) x.aR x.aN = v := ⟨_, rfl⟩
  obtain ⟨u, hu⟩ : ∃ u, vlM (s.th t) x.bR x.bN = u := ⟨_, rfl⟩
  rw [hv] at hva
  rw [hu] at hvb
  simp only [hv, hu] at V V2 A ⊢
  obtain ⟨s', hs'⟩ : ∃ s' : MS, s.setT t { s.th t with regs := (s.th t).regs.set x.r.toNat ((v + u) % 1000) } = s' := ⟨_, rfl⟩
  simp only [hs'] at A ⊢
  clear hs'
  obtain ⟨hv0, hv1⟩ := hva
  obtain ⟨hu0, hu1⟩ := hvb
  have hwr0 : wrap64 (v + u) = v + u := by unfold wrap64; omega
  have hwr : IntKind.i64.wrap (v + u) = v + u := (IntWalk.i64_left _).trans hwr0
  clear hwr0
  clear h hf hv hu hv0 hv1 hu0 hu1
  unfold ptrV at *
  go_enter Tryz.func63, Tryz.ntmps63
  go_wp2_with fail
  refine wp_region_held_drew (S := (fun w' => w'.cell? ⟨sb, 4, none⟩ = some (.bool x.aR) ∧ w'.cell? ⟨sb, 5, none⟩ = some (.int .i64 x.aN) ∧ w'.cell? ⟨sb, 6, none⟩ = some (.bool x.bR) ∧ w'.cell? ⟨sb, 7, none⟩ = some (.int .i64 x.bN))) (by kernel_rfl) ⟨c4, c5, c6, c7⟩ (fun hHeld => ?_)
  refine wpAnyH_take (i := 0) (v := ?_) rfl (by kernel_rfl) (by kernel_rfl) (by kernel_rfl) (fun _ _ _ h => h) (Or.inl ⟨by rfl, ?_⟩) hHeld ?_
  rotate_left
  · intro w9 hSw; (try dsimp only at hSw); go_simp; try with_reducible rfl
  simp only [Act.put, List.getElem_toArray, List.getElem_cons_zero, List.getElem_cons_succ, List.setIfInBounds_toArray, List.set_cons_succ, List.set_cons_zero]
  refine wpAnyH_take (i := 1) (v := ?_) rfl (by kernel_rfl) (by kernel_rfl) (by kernel_rfl) (fun _ _ _ h => h) (Or.inl ⟨by rfl, ?_⟩) hHeld ?_
  rotate_left
  · intro w9 hSw; (try dsimp only at hSw); go_simp; try with_reducible rfl
  simp only [Act.put, List.getElem_toArray, List.getElem_cons_zero, List.getElem_cons_succ, List.setIfInBounds_toArray, List.set_cons_succ, List.set_cons_zero]
  refine wpAnyH_take (i := 2) (v := ?_) rfl (by kernel_rfl) (by kernel_rfl) (by kernel_rfl) (fun _ _ _ h => h) (Or.inl ⟨by rfl, ?_⟩) hHeld ?_
  rotate_left
  · intro w9 hSw; (try dsimp only at hSw); go_simp; try with_reducible rfl
  simp only [Act.put, List.getElem_toArray, List.getElem_cons_zero, List.getElem_cons_succ, List.setIfInBounds_toArray, List.set_cons_succ, List.set_cons_zero]
  refine wpAnyH_take (i := 3) (v := ?_) rfl (by kernel_rfl) (by kernel_rfl) (by kernel_rfl) (fun _ _ _ h => h) (Or.inl ⟨by rfl, ?_⟩) hHeld ?_
  rotate_left
  · intro w9 hSw; (try dsimp only at hSw); go_simp; try with_reducible rfl
  simp only [Act.put, List.getElem_toArray, List.getElem_cons_zero, List.getElem_cons_succ, List.setIfInBounds_toArray, List.set_cons_succ, List.set_cons_zero]
  refine wpAnyH_take (i := 4) (v := ?_) rfl (by kernel_rfl) (by kernel_rfl) (by kernel_rfl) (fun _ _ _ h => h) (Or.inl ⟨by rfl, ?_⟩) hHeld ?_
  rotate_left
  · intro w9 hSw; (try dsimp only at hSw); go_simp; try with_reducible rfl
  simp only [Act.put, List.getElem_toArray, List.getElem_cons_zero, List.getElem_cons_succ, List.setIfInBounds_toArray, List.set_cons_succ, List.set_cons_zero]
  refine wpAnyH_take (i := 5) (v := ?_) rfl (by kernel_rfl) (by kernel_rfl) (by kernel_rfl) (fun _ _ _ h => h) (Or.inl ⟨by rfl, ?_⟩) hHeld ?_
  rotate_left
  · intro w9 hSw; (try dsimp only at hSw); go_simp; try with_reducible rfl
  simp only [Act.put, List.getElem_toArray, List.getElem_cons_zero, List.getElem_cons_succ, List.setIfInBounds_toArray, List.set_cons_succ, List.set_cons_zero]
  refine wpAnyH_take (i := 6) (v := ?_) rfl (by kernel_rfl) (by kernel_rfl) (by kernel_rfl) (fun _ _ _ h => h) (Or.inl ⟨by rfl, ?_⟩) hHeld ?_
  rotate_left
  · intro w9 hSw; (try dsimp only at hSw); go_simp; try with_reducible rfl
  simp only [Act.put, List.getElem_toArray, List.getElem_cons_zero, List.getElem_cons_succ, List.setIfInBounds_toArray, List.set_cons_succ, List.set_cons_zero]
  refine wpAnyH_take (i := 8) (v := ?_) rfl (by kernel_rfl) (by kernel_rfl) (by kernel_rfl) (fun _ _ _ h => h) (Or.inl ⟨by rfl, ?_⟩) hHeld ?_
  rotate_left
  · intro w9 hSw; (try dsimp only at hSw); go_simp; try with_reducible rfl
  simp only [Act.put, List.getElem_toArray, List.getElem_cons_zero, List.getElem_cons_succ, List.setIfInBounds_toArray, List.set_cons_succ, List.set_cons_zero]
  refine wpAnyH_take (i := 9) (v := ?_) rfl (by kernel_rfl) (by kernel_rfl) (by kernel_rfl) (fun _ _ _ h => h) (Or.inl ⟨by rfl, ?_⟩) hHeld ?_
  rotate_left
  · intro w9 hSw; (try dsimp only at hSw); go_simp; try with_reducible rfl
  simp only [Act.put, List.getElem_toArray, List.getElem_cons_zero, List.getElem_cons_succ, List.setIfInBounds_toArray, List.set_cons_succ, List.set_cons_zero]
  refine wpAnyH_take (i := 10) (v := ?_) rfl (by kernel_rfl) (by kernel_rfl) (by kernel_rfl) (fun _ _ _ h => h) (Or.inl ⟨by rfl, ?_⟩) hHeld ?_
  rotate_left
  · intro w9 hSw; (try dsimp only at hSw); go_simp; try with_reducible rfl
  simp only [Act.put, List.getElem_toArray, List.getElem_cons_zero, List.getElem_cons_succ, List.setIfInBounds_toArray, List.set_cons_succ, List.set_cons_zero]
  refine wpAnyH_take (i := 11) (v := ?_) rfl (by kernel_rfl) (by kernel_rfl) (by kernel_rfl) (fun _ _ _ h => h) (Or.inl ⟨by rfl, ?_⟩) hHeld ?_
  rotate_left
  · intro w9 hSw; (try dsimp only at hSw); go_simp; try with_reducible rfl
  simp only [Act.put, List.getElem_toArray, List.getElem_cons_zero, List.getElem_cons_succ, List.setIfInBounds_toArray, List.set_cons_succ, List.set_cons_zero]
  refine wpAnyH_take (i := 12) (v := ?_) rfl (by kernel_rfl) (by kernel_rfl) (by kernel_rfl) (fun _ _ _ h => h) (Or.inl ⟨by rfl, ?_⟩) hHeld ?_
  rotate_left
  · intro w9 hSw; (try dsimp only at hSw); go_simp; try with_reducible rfl
  simp only [Act.put, List.getElem_toArray, List.getElem_cons_zero, List.getElem_cons_succ, List.setIfInBounds_toArray, List.set_cons_succ, List.set_cons_zero]
  refine wpAnyH_take (i := 13) (v := ?_) rfl (by kernel_rfl) (by kernel_rfl) (by kernel_rfl) (fun _ _ _ h => h) (Or.inl ⟨by rfl, ?_⟩) hHeld ?_
  rotate_left
  · intro w9 hSw; (try dsimp only at hSw); go_simp; try with_reducible rfl
  simp only [Act.put, List.getElem_toArray, List.getElem_cons_zero, List.getElem_cons_succ, List.setIfInBounds_toArray, List.set_cons_succ, List.set_cons_zero]
  refine wpAnyH_ready (rs := [7]) (by kernel_rfl) (by simp) ?_
  refine AllReadyH.cons rfl (fun K hK => ?_) AllReadyH.nil
  go_simp
  go_at_call 62
  refine (V.out _ hd).mono ?_
  rintro e1 w1 ⟨rfl, hb1⟩
  replace hb1 : Below w.heap.size w w1 := hd.trans hb1
  obtain ⟨-, -, d4, d5, d6, d7, -⟩ := (H.out.below hb1).ins
  have V3 := V2.out w1 hb1
  have HB1 := hide hb1
  clear hb1
  go_wp2_with fail
  refine hK.out _ _ ⟨d4, d5, d6, d7⟩ (fun hHeld => ?_)
  clear hK K d4 d5 d6 d7
  try simp only [Act.put, List.getElem_toArray, List.getElem_cons_zero, List.getElem_cons_succ, List.setIfInBounds_toArray, List.set_cons_succ, List.set_cons_zero]
  refine wpAnyH_ready (rs := [14]) (by kernel_rfl) (by simp) ?_
  refine AllReadyH.cons rfl (fun K hK => ?_) AllReadyH.nil
  go_simp
  go_at_call 62
  refine V3.mono ?_
  rintro e2 w2 ⟨rfl, hb2⟩
  replace hb2 : Below w.heap.size w w2 := HB1.out.trans (hb2.mono HB1.out.size)
  obtain ⟨-, -, d4, d5, d6, d7, -⟩ := (H.out.below hb2).ins
  have HB2 := hide hb2
  clear hb2 V3 HB1
  go_wp2_with fail
  refine hK.out _ _ ⟨d4, d5, d6, d7⟩ (fun hHeld => ?_)
  clear hK K
  try simp only [Act.put, List.getElem_toArray, List.getElem_cons_zero, List.getElem_cons_succ, List.setIfInBounds_toArray, List.set_cons_succ, List.set_cons_zero]
  refine wpAnyH_ready (rs := [15]) (by kernel_rfl) (by simp) ?_
  refine AllReadyH.cons rfl (fun K hK => ?_) AllReadyH.nil
  go_simp
  refine hK.out _ _ ⟨d4, d5, d6, d7⟩ (fun hHeld => ?_)
  clear hK K d4 d5 d6 d7
  try simp only [Act.put, List.getElem_toArray, List.getElem_cons_zero, List.getElem_cons_succ, List.setIfInBounds_toArray, List.set_cons_succ, List.set_cons_zero]
  refine wpAnyH_ready (rs := [16]) (by kernel_rfl) (by simp) ?_
  refine AllReadyH.cons rfl (fun K hK => ?_) AllReadyH.nil
  go_simp
  go_at_call 61
  try rw [hwr]
  refine (A.out w2 HB2.out).mono ?_
  rintro e3 w3 ⟨rfl, h3⟩
  obtain ⟨-, -, d4, d5, d6, d7, -⟩ := h3.v.ins
  have H3 := hide h3
  clear h3 A
  go_wp2_with fail
  refine hK.out _ _ ⟨d4, d5, d6, d7⟩ (fun hHeld => ?_)
  clear hK K d4 d5 d6 d7
  try simp only [Act.put, List.getElem_toArray, List.getElem_cons_zero, List.getElem_cons_succ, List.setIfInBounds_toArray, List.set_cons_succ, List.set_cons_zero]
  refine wpAnyH_done (by kernel_rfl) ?_ _
  go_wp2_with fail
  go_end0
  exact ⟨rfl, H3.out.v, (KeepS.ofBelow HB2.out).trans H3.out.k⟩
set_option maxRecDepth 100000 in
set_option maxHeartbeats 1000000 in
theorem dSub_any (h : StV w b sb p s t x e) (hf : DFit s t x) :
    Calls Tryz.prog 64 #[ptrV sb] w fun r w' => r = .returned (.tuple #[]) ∧ StR w w' b sb p (s.setT t { s.th t with regs := (s.th t).regs.set x.r.toNat ((vlM (s.th t) x.aR x.aN - vlM (s.th t) x.bR x.bN) % 1000) }) t x e := by
  obtain ⟨-, -, c4, c5, c6, c7, -⟩ := h.ins
  have V := hide (fun w' (hb : Below w.heap.size w w') => value_any (h.below hb) hf.t4 hf.rl _ _ hf.a)
  have V2 := hide (fun w' (hb : Below w.heap.size w w') => value_any (h.below hb) hf.t4 hf.rl _ _ hf.b)
  have hva := hf.va
  have hvb := hf.vb
  have H := hide h
  have hd : Below w.heap.size w w.drew := ⟨rfl, rfl, rfl, Nat.le_refl _, fun _ _ => rfl⟩
  have A := hide (fun w' (hb : Below w.heap.size w w') => assign_any (h.below hb) hf.t4 hf.tl hf.rl hf.r (vlM (s.th t) x.aR x.aN - vlM (s.th t) x.bR x.bN) (by have := hva.1; have := hvb.1; have := hva.2; have := hvb.2; omega) (by have := hva.2; have := hvb.2; have := hva.1; have := hvb.1; omega))
  obtain ⟨v, hv⟩ : ∃ v, vlM (s.th t) x.aR x.aN = v := ⟨_, rfl⟩
  obtain ⟨u, hu⟩ : ∃ u, vlM (s.th t) x.bR x.bN = u := ⟨_, rfl⟩
  rw [hv] at hva
  rw [hu] at hvb
  simp only [hv, hu] at V V2 A ⊢
  obtain ⟨s', hs'⟩ : ∃ s' : MS, s.setT t { s.th t with regs := (s.th t).regs.set x.r.toNat ((v - u) % 1000) } = s' := ⟨_, rfl⟩
  simp only [hs'] at A ⊢
  clear hs'
  obtain ⟨hv0, hv1⟩ := hva
  obtain ⟨hu0, hu1⟩ := hvb
  have hwr0 : wrap64 (v - u) = v - u := by unfold wrap64; omega
  have hwr : IntKind.i64.wrap (v - u) = v - u := (IntWalk.i64_left _).trans hwr0
  clear hwr0
  clear h hf hv hu hv0 hv1 hu0 hu1
  unfold ptrV at *
  go_enter Tryz.func64, Tryz.ntmps64
  go_wp2_with fail
  refine wp_region_held_drew (S := (fun w' => w'.cell? ⟨sb, 4, none⟩ = some (.bool x.aR) ∧ w'.cell? ⟨sb, 5, none⟩ = some (.int .i64 x.aN) ∧ w'.cell? ⟨sb, 6, none⟩ = some (.bool x.bR) ∧ w'.cell? ⟨sb, 7, none⟩ = some (.int .i64 x.bN))) (by kernel_rfl) ⟨c4, c5, c6, c7⟩ (fun hHeld => ?_)
  refine wpAnyH_take (i := 0) (v := ?_) rfl (by kernel_rfl) (by kernel_rfl) (by kernel_rfl) (fun _ _ _ h => h) (Or.inl ⟨by rfl, ?_⟩) hHeld ?_
  rotate_left
  · intro w9 hSw; (try dsimp only at hSw); go_simp; try with_reducible rfl
  simp only [Act.put, List.getElem_toArray, List.getElem_cons_zero, List.getElem_cons_succ, List.setIfInBounds_toArray, List.set_cons_succ, List.set_cons_zero]
  refine wpAnyH_take (i := 1) (v := ?_) rfl (by kernel_rfl) (by kernel_rfl) (by kernel_rfl) (fun _ _ _ h => h) (Or.inl ⟨by rfl, ?_⟩) hHeld ?_
  rotate_left
  · intro w9 hSw; (try dsimp only at hSw); go_simp; try with_reducible rfl
  simp only [Act.put, List.getElem_toArray, List.getElem_cons_zero, List.getElem_cons_succ, List.setIfInBounds_toArray, List.set_cons_succ, List.set_cons_zero]
  refine wpAnyH_take (i := 2) (v := ?_) rfl (by kernel_rfl) (by kernel_rfl) (by kernel_rfl) (fun _ _ _ h => h) (Or.inl ⟨by rfl, ?_⟩) hHeld ?_
  rotate_left
  · intro w9 hSw; (try dsimp only at hSw); go_simp; try with_reducible rfl
  simp only [Act.put, List.getElem_toArray, List.getElem_cons_zero, List.getElem_cons_succ, List.setIfInBounds_toArray, List.set_cons_succ, List.set_cons_zero]
  refine wpAnyH_take (i := 3) (v := ?_) rfl (by kernel_rfl) (by kernel_rfl) (by kernel_rfl) (fun _ _ _ h => h) (Or.inl ⟨by rfl, ?_⟩) hHeld ?_
  rotate_left
  · intro w9 hSw; (try dsimp only at hSw); go_simp; try with_reducible rfl
  simp only [Act.put, List.getElem_toArray, List.getElem_cons_zero, List.getElem_cons_succ, List.setIfInBounds_toArray, List.set_cons_succ, List.set_cons_zero]
  refine wpAnyH_take (i := 4) (v := ?_) rfl (by kernel_rfl) (by kernel_rfl) (by kernel_rfl) (fun _ _ _ h => h) (Or.inl ⟨by rfl, ?_⟩) hHeld ?_
  rotate_left
  · intro w9 hSw; (try dsimp only at hSw); go_simp; try with_reducible rfl
  simp only [Act.put, List.getElem_toArray, List.getElem_cons_zero, List.getElem_cons_succ, List.setIfInBounds_toArray, List.set_cons_succ, List.set_cons_zero]
  refine wpAnyH_take (i := 5) (v := ?_) rfl (by kernel_rfl) (by kernel_rfl) (by kernel_rfl) (fun _ _ _ h => h) (Or.inl ⟨by rfl, ?_⟩) hHeld ?_
  rotate_left
  · intro w9 hSw; (try dsimp only at hSw); go_simp; try with_reducible rfl
  simp only [Act.put, List.getElem_toArray, List.getElem_cons_zero, List.getElem_cons_succ, List.setIfInBounds_toArray, List.set_cons_succ, List.set_cons_zero]
  refine wpAnyH_take (i := 6) (v := ?_) rfl (by kernel_rfl) (by kernel_rfl) (by kernel_rfl) (fun _ _ _ h => h) (Or.inl ⟨by rfl, ?_⟩) hHeld ?_
  rotate_left
  · intro w9 hSw; (try dsimp only at hSw); go_simp; try with_reducible rfl
  simp only [Act.put, List.getElem_toArray, List.getElem_cons_zero, List.getElem_cons_succ, List.setIfInBounds_toArray, List.set_cons_succ, List.set_cons_zero]
  refine wpAnyH_take (i := 8) (v := ?_) rfl (by kernel_rfl) (by kernel_rfl) (by kernel_rfl) (fun _ _ _ h => h) (Or.inl ⟨by rfl, ?_⟩) hHeld ?_
  rotate_left
  · intro w9 hSw; (try dsimp only at hSw); go_simp; try with_reducible rfl
  simp only [Act.put, List.getElem_toArray, List.getElem_cons_zero, List.getElem_cons_succ, List.setIfInBounds_toArray, List.set_cons_succ, List.set_cons_zero]
  refine wpAnyH_take (i := 9) (v := ?_) rfl (by kernel_rfl) (by kernel_rfl) (by kernel_rfl) (fun _ _ _ h => h) (Or.inl ⟨by rfl, ?_⟩) hHeld ?_
  rotate_left
  · intro w9 hSw; (try dsimp only at hSw); go_simp; try with_reducible rfl
  simp only [Act.put, List.getElem_toArray, List.getElem_cons_zero, List.getElem_cons_succ, List.setIfInBounds_toArray, List.set_cons_succ, List.set_cons_zero]
  refine wpAnyH_take (i := 10) (v := ?_) rfl (by kernel_rfl) (by kernel_rfl) (by kernel_rfl) (fun _ _ _ h => h) (Or.inl ⟨by rfl, ?_⟩) hHeld ?_
  rotate_left
  · intro w9 hSw; (try dsimp only at hSw); go_simp; try with_reducible rfl
  simp only [Act.put, List.getElem_toArray, List.getElem_cons_zero, List.getElem_cons_succ, List.setIfInBounds_toArray, List.set_cons_succ, List.set_cons_zero]
  refine wpAnyH_take (i := 11) (v := ?_) rfl (by kernel_rfl) (by kernel_rfl) (by kernel_rfl) (fun _ _ _ h => h) (Or.inl ⟨by rfl, ?_⟩) hHeld ?_
  rotate_left
  · intro w9 hSw; (try dsimp only at hSw); go_simp; try with_reducible rfl
  simp only [Act.put, List.getElem_toArray, List.getElem_cons_zero, List.getElem_cons_succ, List.setIfInBounds_toArray, List.set_cons_succ, List.set_cons_zero]
  refine wpAnyH_take (i := 12) (v := ?_) rfl (by kernel_rfl) (by kernel_rfl) (by kernel_rfl) (fun _ _ _ h => h) (Or.inl ⟨by rfl, ?_⟩) hHeld ?_
  rotate_left
  · intro w9 hSw; (try dsimp only at hSw); go_simp; try with_reducible rfl
  simp only [Act.put, List.getElem_toArray, List.getElem_cons_zero, List.getElem_cons_succ, List.setIfInBounds_toArray, List.set_cons_succ, List.set_cons_zero]
  refine wpAnyH_take (i := 13) (v := ?_) rfl (by kernel_rfl) (by kernel_rfl) (by kernel_rfl) (fun _ _ _ h => h) (Or.inl ⟨by rfl, ?_⟩) hHeld ?_
  rotate_left
  · intro w9 hSw; (try dsimp only at hSw); go_simp; try with_reducible rfl
  simp only [Act.put, List.getElem_toArray, List.getElem_cons_zero, List.getElem_cons_succ, List.setIfInBounds_toArray, List.set_cons_succ, List.set_cons_zero]
  refine wpAnyH_ready (rs := [7]) (by kernel_rfl) (by simp) ?_
  refine AllReadyH.cons rfl (fun K hK => ?_) AllReadyH.nil
  go_simp
  go_at_call 62
  refine (V.out _ hd).mono ?_
  rintro e1 w1 ⟨rfl, hb1⟩
  replace hb1 : Below w.heap.size w w1 := hd.trans hb1
  obtain ⟨-, -, d4, d5, d6, d7, -⟩ := (H.out.below hb1).ins
  have V3 := V2.out w1 hb1
  have HB1 := hide hb1
  clear hb1
  go_wp2_with fail
  refine hK.out _ _ ⟨d4, d5, d6, d7⟩ (fun hHeld => ?_)
  clear hK K d4 d5 d6 d7
  try simp only [Act.put, List.getElem_toArray, List.getElem_cons_zero, List.getElem_cons_succ, List.setIfInBounds_toArray, List.set_cons_succ, List.set_cons_zero]
  refine wpAnyH_ready (rs := [14]) (by kernel_rfl) (by simp) ?_
  refine AllReadyH.cons rfl (fun K hK => ?_) AllReadyH.nil
  go_simp
  go_at_call 62
  refine V3.mono ?_
  rintro e2 w2 ⟨rfl, hb2⟩
  replace hb2 : Below w.heap.size w w2 := HB1.out.trans (hb2.mono HB1.out.size)
  obtain ⟨-, -, d4, d5, d6, d7, -⟩ := (H.out.below hb2).ins
  have HB2 := hide hb2
  clear hb2 V3 HB1
  go_wp2_with fail
  refine hK.out _ _ ⟨d4, d5, d6, d7⟩ (fun hHeld => ?_)
  clear hK K
  try simp only [Act.put, List.getElem_toArray, List.getElem_cons_zero, List.getElem_cons_succ, List.setIfInBounds_toArray, List.set_cons_succ, List.set_cons_zero]
  refine wpAnyH_ready (rs := [15]) (by kernel_rfl) (by simp) ?_
  refine AllReadyH.cons rfl (fun K hK => ?_) AllReadyH.nil
  go_simp
  refine hK.out _ _ ⟨d4, d5, d6, d7⟩ (fun hHeld => ?_)
  clear hK K d4 d5 d6 d7
  try simp only [Act.put, List.getElem_toArray, List.getElem_cons_zero, List.getElem_cons_succ, List.setIfInBounds_toArray, List.set_cons_succ, List.set_cons_zero]
  refine wpAnyH_ready (rs := [16]) (by kernel_rfl) (by simp) ?_
  refine AllReadyH.cons rfl (fun K hK => ?_) AllReadyH.nil
  go_simp
  go_at_call 61
  try rw [hwr]
  refine (A.out w2 HB2.out).mono ?_
  rintro e3 w3 ⟨rfl, h3⟩
  obtain ⟨-, -, d4, d5, d6, d7, -⟩ := h3.v.ins
  have H3 := hide h3
  clear h3 A
  go_wp2_with fail
  refine hK.out _ _ ⟨d4, d5, d6, d7⟩ (fun hHeld => ?_)
  clear hK K d4 d5 d6 d7
  try simp only [Act.put, List.getElem_toArray, List.getElem_cons_zero, List.getElem_cons_succ, List.setIfInBounds_toArray, List.set_cons_succ, List.set_cons_zero]
  refine wpAnyH_done (by kernel_rfl) ?_ _
  go_wp2_with fail
  go_end0
  exact ⟨rfl, H3.out.v, (KeepS.ofBelow HB2.out).trans H3.out.k⟩
set_option maxRecDepth 100000 in
set_option maxHeartbeats 1000000 in
theorem dMul_any (h : StV w b sb p s t x e) (hf : DFit s t x) :
    Calls Tryz.prog 65 #[ptrV sb] w fun r w' => r = .returned (.tuple #[]) ∧ StR w w' b sb p (s.setT t { s.th t with regs := (s.th t).regs.set x.r.toNat ((vlM (s.th t) x.aR x.aN * vlM (s.th t) x.bR x.bN) % 1000) }) t x e := by
  obtain ⟨-, -, c4, c5, c6, c7, -⟩ := h.ins
  have V := hide (fun w' (hb : Below w.heap.size w w') => value_any (h.below hb) hf.t4 hf.rl _ _ hf.a)
  have V2 := hide (fun w' (hb : Below w.heap.size w w') => value_any (h.below hb) hf.t4 hf.rl _ _ hf.b)
  have hva := hf.va
  have hvb := hf.vb
  have H := hide h
  have hd : Below w.heap.size w w.drew := ⟨rfl, rfl, rfl, Nat.le_refl _, fun _ _ => rfl⟩
  have A := hide (fun w' (hb : Below w.heap.size w w') => assign_any (h.below hb) hf.t4 hf.tl hf.rl hf.r (vlM (s.th t) x.aR x.aN * vlM (s.th t) x.bR x.bN) (by have := Int.mul_nonneg hva.1 hvb.1; omega) (mul_bnd hva hvb))
  obtain ⟨v, hv⟩ : ∃ v, vlM (s.th t) x.aR x.aN = v := ⟨_, rfl⟩
  obtain ⟨u, hu⟩ : ∃ u, vlM (s.th t) x.bR x.bN = u := ⟨_, rfl⟩
  rw [hv] at hva
  rw [hu] at hvb
  simp only [hv, hu] at V V2 A ⊢
  obtain ⟨s', hs'⟩ : ∃ s' : MS, s.setT t { s.th t with regs := (s.th t).regs.set x.r.toNat ((v * u) % 1000) } = s' := ⟨_, rfl⟩
  simp only [hs'] at A ⊢
  clear hs'
  obtain ⟨hv0, hv1⟩ := hva
  obtain ⟨hu0, hu1⟩ := hvb
  have hwr0 : wrap64 (v * u) = v * u := by have := Int.mul_nonneg hv0 hu0; have := mul_bnd (a := v) (b := u) ⟨hv0, hv1⟩ ⟨hu0, hu1⟩; unfold wrap64; omega
  have hwr : IntKind.i64.wrap (v * u) = v * u := (IntWalk.i64_left _).trans hwr0
  clear hwr0
  clear h hf hv hu hv0 hv1 hu0 hu1
  unfold ptrV at *
  go_enter Tryz.func65, Tryz.ntmps65
  go_wp2_with fail
  refine wp_region_held_drew (S := (fun w' => w'.cell? ⟨sb, 4, none⟩ = some (.bool x.aR) ∧ w'.cell? ⟨sb, 5, none⟩ = some (.int .i64 x.aN) ∧ w'.cell? ⟨sb, 6, none⟩ = some (.bool x.bR) ∧ w'.cell? ⟨sb, 7, none⟩ = some (.int .i64 x.bN))) (by kernel_rfl) ⟨c4, c5, c6, c7⟩ (fun hHeld => ?_)
  refine wpAnyH_take (i := 0) (v := ?_) rfl (by kernel_rfl) (by kernel_rfl) (by kernel_rfl) (fun _ _ _ h => h) (Or.inl ⟨by rfl, ?_⟩) hHeld ?_
  rotate_left
  · intro w9 hSw; (try dsimp only at hSw); go_simp; try with_reducible rfl
  simp only [Act.put, List.getElem_toArray, List.getElem_cons_zero, List.getElem_cons_succ, List.setIfInBounds_toArray, List.set_cons_succ, List.set_cons_zero]
  refine wpAnyH_take (i := 1) (v := ?_) rfl (by kernel_rfl) (by kernel_rfl) (by kernel_rfl) (fun _ _ _ h => h) (Or.inl ⟨by rfl, ?_⟩) hHeld ?_
  rotate_left
  · intro w9 hSw; (try dsimp only at hSw); go_simp; try with_reducible rfl
  simp only [Act.put, List.getElem_toArray, List.getElem_cons_zero, List.getElem_cons_succ, List.setIfInBounds_toArray, List.set_cons_succ, List.set_cons_zero]
  refine wpAnyH_take (i := 2) (v := ?_) rfl (by kernel_rfl) (by kernel_rfl) (by kernel_rfl) (fun _ _ _ h => h) (Or.inl ⟨by rfl, ?_⟩) hHeld ?_
  rotate_left
  · intro w9 hSw; (try dsimp only at hSw); go_simp; try with_reducible rfl
  simp only [Act.put, List.getElem_toArray, List.getElem_cons_zero, List.getElem_cons_succ, List.setIfInBounds_toArray, List.set_cons_succ, List.set_cons_zero]
  refine wpAnyH_take (i := 3) (v := ?_) rfl (by kernel_rfl) (by kernel_rfl) (by kernel_rfl) (fun _ _ _ h => h) (Or.inl ⟨by rfl, ?_⟩) hHeld ?_
  rotate_left
  · intro w9 hSw; (try dsimp only at hSw); go_simp; try with_reducible rfl
  simp only [Act.put, List.getElem_toArray, List.getElem_cons_zero, List.getElem_cons_succ, List.setIfInBounds_toArray, List.set_cons_succ, List.set_cons_zero]
  refine wpAnyH_take (i := 4) (v := ?_) rfl (by kernel_rfl) (by kernel_rfl) (by kernel_rfl) (fun _ _ _ h => h) (Or.inl ⟨by rfl, ?_⟩) hHeld ?_
  rotate_left
  · intro w9 hSw; (try dsimp only at hSw); go_simp; try with_reducible rfl
  simp only [Act.put, List.getElem_toArray, List.getElem_cons_zero, List.getElem_cons_succ, List.setIfInBounds_toArray, List.set_cons_succ, List.set_cons_zero]
  refine wpAnyH_take (i := 5) (v := ?_) rfl (by kernel_rfl) (by kernel_rfl) (by kernel_rfl) (fun _ _ _ h => h) (Or.inl ⟨by rfl, ?_⟩) hHeld ?_
  rotate_left
  · intro w9 hSw; (try dsimp only at hSw); go_simp; try with_reducible rfl
  simp only [Act.put, List.getElem_toArray, List.getElem_cons_zero, List.getElem_cons_succ, List.setIfInBounds_toArray, List.set_cons_succ, List.set_cons_zero]
  refine wpAnyH_take (i := 6) (v := ?_) rfl (by kernel_rfl) (by kernel_rfl) (by kernel_rfl) (fun _ _ _ h => h) (Or.inl ⟨by rfl, ?_⟩) hHeld ?_
  rotate_left
  · intro w9 hSw; (try dsimp only at hSw); go_simp; try with_reducible rfl
  simp only [Act.put, List.getElem_toArray, List.getElem_cons_zero, List.getElem_cons_succ, List.setIfInBounds_toArray, List.set_cons_succ, List.set_cons_zero]
  refine wpAnyH_take (i := 8) (v := ?_) rfl (by kernel_rfl) (by kernel_rfl) (by kernel_rfl) (fun _ _ _ h => h) (Or.inl ⟨by rfl, ?_⟩) hHeld ?_
  rotate_left
  · intro w9 hSw; (try dsimp only at hSw); go_simp; try with_reducible rfl
  simp only [Act.put, List.getElem_toArray, List.getElem_cons_zero, List.getElem_cons_succ, List.setIfInBounds_toArray, List.set_cons_succ, List.set_cons_zero]
  refine wpAnyH_take (i := 9) (v := ?_) rfl (by kernel_rfl) (by kernel_rfl) (by kernel_rfl) (fun _ _ _ h => h) (Or.inl ⟨by rfl, ?_⟩) hHeld ?_
  rotate_left
  · intro w9 hSw; (try dsimp only at hSw); go_simp; try with_reducible rfl
  simp only [Act.put, List.getElem_toArray, List.getElem_cons_zero, List.getElem_cons_succ, List.setIfInBounds_toArray, List.set_cons_succ, List.set_cons_zero]
  refine wpAnyH_take (i := 10) (v := ?_) rfl (by kernel_rfl) (by kernel_rfl) (by kernel_rfl) (fun _ _ _ h => h) (Or.inl ⟨by rfl, ?_⟩) hHeld ?_
  rotate_left
  · intro w9 hSw; (try dsimp only at hSw); go_simp; try with_reducible rfl
  simp only [Act.put, List.getElem_toArray, List.getElem_cons_zero, List.getElem_cons_succ, List.setIfInBounds_toArray, List.set_cons_succ, List.set_cons_zero]
  refine wpAnyH_take (i := 11) (v := ?_) rfl (by kernel_rfl) (by kernel_rfl) (by kernel_rfl) (fun _ _ _ h => h) (Or.inl ⟨by rfl, ?_⟩) hHeld ?_
  rotate_left
  · intro w9 hSw; (try dsimp only at hSw); go_simp; try with_reducible rfl
  simp only [Act.put, List.getElem_toArray, List.getElem_cons_zero, List.getElem_cons_succ, List.setIfInBounds_toArray, List.set_cons_succ, List.set_cons_zero]
  refine wpAnyH_take (i := 12) (v := ?_) rfl (by kernel_rfl) (by kernel_rfl) (by kernel_rfl) (fun _ _ _ h => h) (Or.inl ⟨by rfl, ?_⟩) hHeld ?_
  rotate_left
  · intro w9 hSw; (try dsimp only at hSw); go_simp; try with_reducible rfl
  simp only [Act.put, List.getElem_toArray, List.getElem_cons_zero, List.getElem_cons_succ, List.setIfInBounds_toArray, List.set_cons_succ, List.set_cons_zero]
  refine wpAnyH_take (i := 13) (v := ?_) rfl (by kernel_rfl) (by kernel_rfl) (by kernel_rfl) (fun _ _ _ h => h) (Or.inl ⟨by rfl, ?_⟩) hHeld ?_
  rotate_left
  · intro w9 hSw; (try dsimp only at hSw); go_simp; try with_reducible rfl
  simp only [Act.put, List.getElem_toArray, List.getElem_cons_zero, List.getElem_cons_succ, List.setIfInBounds_toArray, List.set_cons_succ, List.set_cons_zero]
  refine wpAnyH_ready (rs := [7]) (by kernel_rfl) (by simp) ?_
  refine AllReadyH.cons rfl (fun K hK => ?_) AllReadyH.nil
  go_simp
  go_at_call 62
  refine (V.out _ hd).mono ?_
  rintro e1 w1 ⟨rfl, hb1⟩
  replace hb1 : Below w.heap.size w w1 := hd.trans hb1
  obtain ⟨-, -, d4, d5, d6, d7, -⟩ := (H.out.below hb1).ins
  have V3 := V2.out w1 hb1
  have HB1 := hide hb1
  clear hb1
  go_wp2_with fail
  refine hK.out _ _ ⟨d4, d5, d6, d7⟩ (fun hHeld => ?_)
  clear hK K d4 d5 d6 d7
  try simp only [Act.put, List.getElem_toArray, List.getElem_cons_zero, List.getElem_cons_succ, List.setIfInBounds_toArray, List.set_cons_succ, List.set_cons_zero]
  refine wpAnyH_ready (rs := [14]) (by kernel_rfl) (by simp) ?_
  refine AllReadyH.cons rfl (fun K hK => ?_) AllReadyH.nil
  go_simp
  go_at_call 62
  refine V3.mono ?_
  rintro e2 w2 ⟨rfl, hb2⟩
  replace hb2 : Below w.heap.size w w2 := HB1.out.trans (hb2.mono HB1.out.size)
  obtain ⟨-, -, d4, d5, d6, d7, -⟩ := (H.out.below hb2).ins
  have HB2 := hide hb2
  clear hb2 V3 HB1
  go_wp2_with fail
  refine hK.out _ _ ⟨d4, d5, d6, d7⟩ (fun hHeld => ?_)
  clear hK K
  try simp only [Act.put, List.getElem_toArray, List.getElem_cons_zero, List.getElem_cons_succ, List.setIfInBounds_toArray, List.set_cons_succ, List.set_cons_zero]
  refine wpAnyH_ready (rs := [15]) (by kernel_rfl) (by simp) ?_
  refine AllReadyH.cons rfl (fun K hK => ?_) AllReadyH.nil
  go_simp
  refine hK.out _ _ ⟨d4, d5, d6, d7⟩ (fun hHeld => ?_)
  clear hK K d4 d5 d6 d7
  try simp only [Act.put, List.getElem_toArray, List.getElem_cons_zero, List.getElem_cons_succ, List.setIfInBounds_toArray, List.set_cons_succ, List.set_cons_zero]
  refine wpAnyH_ready (rs := [16]) (by kernel_rfl) (by simp) ?_
  refine AllReadyH.cons rfl (fun K hK => ?_) AllReadyH.nil
  go_simp
  go_at_call 61
  try rw [hwr]
  refine (A.out w2 HB2.out).mono ?_
  rintro e3 w3 ⟨rfl, h3⟩
  obtain ⟨-, -, d4, d5, d6, d7, -⟩ := h3.v.ins
  have H3 := hide h3
  clear h3 A
  go_wp2_with fail
  refine hK.out _ _ ⟨d4, d5, d6, d7⟩ (fun hHeld => ?_)
  clear hK K d4 d5 d6 d7
  try simp only [Act.put, List.getElem_toArray, List.getElem_cons_zero, List.getElem_cons_succ, List.setIfInBounds_toArray, List.set_cons_succ, List.set_cons_zero]
  refine wpAnyH_done (by kernel_rfl) ?_ _
  go_wp2_with fail
  go_end0
  exact ⟨rfl, H3.out.v, (KeepS.ofBelow HB2.out).trans H3.out.k⟩
set_option maxRecDepth 100000 in
set_option maxHeartbeats 1000000 in
theorem dJeq_any (h : StV w b sb p s t x e) (hf : DFit s t x) :
    Calls Tryz.prog 79 #[ptrV sb] w fun r w' => r = .returned (.tuple #[]) ∧ StR w w' b sb p (if (vlM (s.th t) x.aR x.aN == vlM (s.th t) x.bR x.bN) = true then s.setT t { s.th t with pc := x.x.toNat } else s) t x e := by
  obtain ⟨-, -, c4, c5, c6, c7, -⟩ := h.ins
  have V := hide (fun w' (hb : Below w.heap.size w w') => value_any (h.below hb) hf.t4 hf.rl _ _ hf.a)
  have V2 := hide (fun w' (hb : Below w.heap.size w w') => value_any (h.below hb) hf.t4 hf.rl _ _ hf.b)
  have hva := hf.va
  have hvb := hf.vb
  have H := hide h
  have hd : Below w.heap.size w w.drew := ⟨rfl, rfl, rfl, Nat.le_refl _, fun _ _ => rfl⟩
  have A := hide (fun w' (hb : Below w.heap.size w w') => jumpIf_any (h.below hb) hf.t4 hf.tl hf.x0 (vlM (s.th t) x.aR x.aN == vlM (s.th t) x.bR x.bN))
  obtain ⟨v, hv⟩ : ∃ v, vlM (s.th t) x.aR x.aN = v := ⟨_, rfl⟩
  obtain ⟨u, hu⟩ : ∃ u, vlM (s.th t) x.bR x.bN = u := ⟨_, rfl⟩
  rw [hv] at hva
  rw [hu] at hvb
  simp only [hv, hu] at V V2 A ⊢
  obtain ⟨g, hg⟩ : ∃ g : Bool, (v == u) = g := ⟨_, rfl⟩
  simp only [hg] at A ⊢
  obtain ⟨s', hs'⟩ : ∃ s' : MS, (if g = true then s.setT t { s.th t with pc := x.x.toNat } else s) = s' := ⟨_, rfl⟩
  simp only [hs'] at A ⊢
  clear hs'
  obtain ⟨hv0, hv1⟩ := hva
  obtain ⟨hu0, hu1⟩ := hvb
  clear h hf hv hu hv0 hv1 hu0 hu1
  unfold ptrV at *
  go_enter Tryz.func79, Tryz.ntmps79
  go_wp2_with fail
  refine wp_region_held_drew (S := (fun w' => w'.cell? ⟨sb, 4, none⟩ = some (.bool x.aR) ∧ w'.cell? ⟨sb, 5, none⟩ = some (.int .i64 x.aN) ∧ w'.cell? ⟨sb, 6, none⟩ = some (.bool x.bR) ∧ w'.cell? ⟨sb, 7, none⟩ = some (.int .i64 x.bN))) (by kernel_rfl) ⟨c4, c5, c6, c7⟩ (fun hHeld => ?_)
  refine wpAnyH_take (i := 0) (v := ?_) rfl (by kernel_rfl) (by kernel_rfl) (by kernel_rfl) (fun _ _ _ h => h) (Or.inl ⟨by rfl, ?_⟩) hHeld ?_
  rotate_left
  · intro w9 hSw; (try dsimp only at hSw); go_simp; try with_reducible rfl
  simp only [Act.put, List.getElem_toArray, List.getElem_cons_zero, List.getElem_cons_succ, List.setIfInBounds_toArray, List.set_cons_succ, List.set_cons_zero]
  refine wpAnyH_take (i := 1) (v := ?_) rfl (by kernel_rfl) (by kernel_rfl) (by kernel_rfl) (fun _ _ _ h => h) (Or.inl ⟨by rfl, ?_⟩) hHeld ?_
  rotate_left
  · intro w9 hSw; (try dsimp only at hSw); go_simp; try with_reducible rfl
  simp only [Act.put, List.getElem_toArray, List.getElem_cons_zero, List.getElem_cons_succ, List.setIfInBounds_toArray, List.set_cons_succ, List.set_cons_zero]
  refine wpAnyH_take (i := 2) (v := ?_) rfl (by kernel_rfl) (by kernel_rfl) (by kernel_rfl) (fun _ _ _ h => h) (Or.inl ⟨by rfl, ?_⟩) hHeld ?_
  rotate_left
  · intro w9 hSw; (try dsimp only at hSw); go_simp; try with_reducible rfl
  simp only [Act.put, List.getElem_toArray, List.getElem_cons_zero, List.getElem_cons_succ, List.setIfInBounds_toArray, List.set_cons_succ, List.set_cons_zero]
  refine wpAnyH_take (i := 3) (v := ?_) rfl (by kernel_rfl) (by kernel_rfl) (by kernel_rfl) (fun _ _ _ h => h) (Or.inl ⟨by rfl, ?_⟩) hHeld ?_
  rotate_left
  · intro w9 hSw; (try dsimp only at hSw); go_simp; try with_reducible rfl
  simp only [Act.put, List.getElem_toArray, List.getElem_cons_zero, List.getElem_cons_succ, List.setIfInBounds_toArray, List.set_cons_succ, List.set_cons_zero]
  refine wpAnyH_take (i := 4) (v := ?_) rfl (by kernel_rfl) (by kernel_rfl) (by kernel_rfl) (fun _ _ _ h => h) (Or.inl ⟨by rfl, ?_⟩) hHeld ?_
  rotate_left
  · intro w9 hSw; (try dsimp only at hSw); go_simp; try with_reducible rfl
  simp only [Act.put, List.getElem_toArray, List.getElem_cons_zero, List.getElem_cons_succ, List.setIfInBounds_toArray, List.set_cons_succ, List.set_cons_zero]
  refine wpAnyH_take (i := 5) (v := ?_) rfl (by kernel_rfl) (by kernel_rfl) (by kernel_rfl) (fun _ _ _ h => h) (Or.inl ⟨by rfl, ?_⟩) hHeld ?_
  rotate_left
  · intro w9 hSw; (try dsimp only at hSw); go_simp; try with_reducible rfl
  simp only [Act.put, List.getElem_toArray, List.getElem_cons_zero, List.getElem_cons_succ, List.setIfInBounds_toArray, List.set_cons_succ, List.set_cons_zero]
  refine wpAnyH_take (i := 6) (v := ?_) rfl (by kernel_rfl) (by kernel_rfl) (by kernel_rfl) (fun _ _ _ h => h) (Or.inl ⟨by rfl, ?_⟩) hHeld ?_
  rotate_left
  · intro w9 hSw; (try dsimp only at hSw); go_simp; try with_reducible rfl
  simp only [Act.put, List.getElem_toArray, List.getElem_cons_zero, List.getElem_cons_succ, List.setIfInBounds_toArray, List.set_cons_succ, List.set_cons_zero]
  refine wpAnyH_take (i := 8) (v := ?_) rfl (by kernel_rfl) (by kernel_rfl) (by kernel_rfl) (fun _ _ _ h => h) (Or.inl ⟨by rfl, ?_⟩) hHeld ?_
  rotate_left
  · intro w9 hSw; (try dsimp only at hSw); go_simp; try with_reducible rfl
  simp only [Act.put, List.getElem_toArray, List.getElem_cons_zero, List.getElem_cons_succ, List.setIfInBounds_toArray, List.set_cons_succ, List.set_cons_zero]
  refine wpAnyH_take (i := 9) (v := ?_) rfl (by kernel_rfl) (by kernel_rfl) (by kernel_rfl) (fun _ _ _ h => h) (Or.inl ⟨by rfl, ?_⟩) hHeld ?_
  rotate_left
  · intro w9 hSw; (try dsimp only at hSw); go_simp; try with_reducible rfl
  simp only [Act.put, List.getElem_toArray, List.getElem_cons_zero, List.getElem_cons_succ, List.setIfInBounds_toArray, List.set_cons_succ, List.set_cons_zero]
  refine wpAnyH_take (i := 10) (v := ?_) rfl (by kernel_rfl) (by kernel_rfl) (by kernel_rfl) (fun _ _ _ h => h) (Or.inl ⟨by rfl, ?_⟩) hHeld ?_
  rotate_left
  · intro w9 hSw; (try dsimp only at hSw); go_simp; try with_reducible rfl
  simp only [Act.put, List.getElem_toArray, List.getElem_cons_zero, List.getElem_cons_succ, List.setIfInBounds_toArray, List.set_cons_succ, List.set_cons_zero]
  refine wpAnyH_take (i := 11) (v := ?_) rfl (by kernel_rfl) (by kernel_rfl) (by kernel_rfl) (fun _ _ _ h => h) (Or.inl ⟨by rfl, ?_⟩) hHeld ?_
  rotate_left
  · intro w9 hSw; (try dsimp only at hSw); go_simp; try with_reducible rfl
  simp only [Act.put, List.getElem_toArray, List.getElem_cons_zero, List.getElem_cons_succ, List.setIfInBounds_toArray, List.set_cons_succ, List.set_cons_zero]
  refine wpAnyH_take (i := 12) (v := ?_) rfl (by kernel_rfl) (by kernel_rfl) (by kernel_rfl) (fun _ _ _ h => h) (Or.inl ⟨by rfl, ?_⟩) hHeld ?_
  rotate_left
  · intro w9 hSw; (try dsimp only at hSw); go_simp; try with_reducible rfl
  simp only [Act.put, List.getElem_toArray, List.getElem_cons_zero, List.getElem_cons_succ, List.setIfInBounds_toArray, List.set_cons_succ, List.set_cons_zero]
  refine wpAnyH_take (i := 13) (v := ?_) rfl (by kernel_rfl) (by kernel_rfl) (by kernel_rfl) (fun _ _ _ h => h) (Or.inl ⟨by rfl, ?_⟩) hHeld ?_
  rotate_left
  · intro w9 hSw; (try dsimp only at hSw); go_simp; try with_reducible rfl
  simp only [Act.put, List.getElem_toArray, List.getElem_cons_zero, List.getElem_cons_succ, List.setIfInBounds_toArray, List.set_cons_succ, List.set_cons_zero]
  refine wpAnyH_ready (rs := [7]) (by kernel_rfl) (by simp) ?_
  refine AllReadyH.cons rfl (fun K hK => ?_) AllReadyH.nil
  go_simp
  go_at_call 62
  refine (V.out _ hd).mono ?_
  rintro e1 w1 ⟨rfl, hb1⟩
  replace hb1 : Below w.heap.size w w1 := hd.trans hb1
  obtain ⟨-, -, d4, d5, d6, d7, -⟩ := (H.out.below hb1).ins
  have V3 := V2.out w1 hb1
  have HB1 := hide hb1
  clear hb1
  go_wp2_with fail
  refine hK.out _ _ ⟨d4, d5, d6, d7⟩ (fun hHeld => ?_)
  clear hK K d4 d5 d6 d7
  try simp only [Act.put, List.getElem_toArray, List.getElem_cons_zero, List.getElem_cons_succ, List.setIfInBounds_toArray, List.set_cons_succ, List.set_cons_zero]
  refine wpAnyH_ready (rs := [14]) (by kernel_rfl) (by simp) ?_
  refine AllReadyH.cons rfl (fun K hK => ?_) AllReadyH.nil
  go_simp
  go_at_call 62
  refine V3.mono ?_
  rintro e2 w2 ⟨rfl, hb2⟩
  replace hb2 : Below w.heap.size w w2 := HB1.out.trans (hb2.mono HB1.out.size)
  obtain ⟨-, -, d4, d5, d6, d7, -⟩ := (H.out.below hb2).ins
  have HB2 := hide hb2
  clear hb2 V3 HB1
  go_wp2_with fail
  refine hK.out _ _ ⟨d4, d5, d6, d7⟩ (fun hHeld => ?_)
  clear hK K d4 d5 d6 d7
  try simp only [Act.put, List.getElem_toArray, List.getElem_cons_zero, List.getElem_cons_succ, List.setIfInBounds_toArray, List.set_cons_succ, List.set_cons_zero]
  refine wpAnyH_take (i := 15) (v := ?_) rfl (by kernel_rfl) (by kernel_rfl) (by kernel_rfl) (fun _ _ _ h => h) (Or.inl ⟨by rfl, ?_⟩) hHeld ?_
  rotate_left
  · intro w9 hSw; (try dsimp only at hSw); go_simp; try with_reducible rfl
  simp only [Act.put, List.getElem_toArray, List.getElem_cons_zero, List.getElem_cons_succ, List.setIfInBounds_toArray, List.set_cons_succ, List.set_cons_zero]
  refine wpAnyH_ready (rs := [16]) (by kernel_rfl) (by simp) ?_
  refine AllReadyH.cons rfl (fun K hK => ?_) AllReadyH.nil
  go_simp
  go_at_call 78
  refine (A.out w2 HB2.out).mono ?_
  rintro e3 w3 ⟨rfl, h3⟩
  obtain ⟨-, -, d4, d5, d6, d7, -⟩ := h3.v.ins
  have H3 := hide h3
  clear h3 A
  go_wp2_with fail
  refine hK.out _ _ ⟨d4, d5, d6, d7⟩ (fun hHeld => ?_)
  clear hK K d4 d5 d6 d7
  try simp only [Act.put, List.getElem_toArray, List.getElem_cons_zero, List.getElem_cons_succ, List.setIfInBounds_toArray, List.set_cons_succ, List.set_cons_zero]
  refine wpAnyH_done (by kernel_rfl) ?_ _
  go_wp2_with fail
  go_end0
  exact ⟨rfl, H3.out.v, (KeepS.ofBelow HB2.out).trans H3.out.k⟩
set_option maxRecDepth 100000 in
set_option maxHeartbeats 1000000 in
theorem dJlt_any (h : StV w b sb p s t x e) (hf : DFit s t x) :
    Calls Tryz.prog 80 #[ptrV sb] w fun r w' => r = .returned (.tuple #[]) ∧ StR w w' b sb p (if (decide (vlM (s.th t) x.aR x.aN < vlM (s.th t) x.bR x.bN)) = true then s.setT t { s.th t with pc := x.x.toNat } else s) t x e := by
  obtain ⟨-, -, c4, c5, c6, c7, -⟩ := h.ins
  have V := hide (fun w' (hb : Below w.heap.size w w') => value_any (h.below hb) hf.t4 hf.rl _ _ hf.a)
  have V2 := hide (fun w' (hb : Below w.heap.size w w') => value_any (h.below hb) hf.t4 hf.rl _ _ hf.b)
  have hva := hf.va
  have hvb := hf.vb
  have H := hide h
  have hd : Below w.heap.size w w.drew := ⟨rfl, rfl, rfl, Nat.le_refl _, fun _ _ => rfl⟩
  have A := hide (fun w' (hb : Below w.heap.size w w') => jumpIf_any (h.below hb) hf.t4 hf.tl hf.x0 (decide (vlM (s.th t) x.aR x.aN < vlM (s.th t) x.bR x.bN)))
  obtain ⟨v, hv⟩ : ∃ v, vlM (s.th t) x.aR x.aN = v := ⟨_, rfl⟩
  obtain ⟨u, hu⟩ : ∃ u, vlM (s.th t) x.bR x.bN = u := ⟨_, rfl⟩
  rw [hv] at hva
  rw [hu] at hvb
  simp only [hv, hu] at V V2 A ⊢
  obtain ⟨g, hg⟩ : ∃ g : Bool, decide (v < u) = g := ⟨_, rfl⟩
  simp only [hg] at A ⊢
  obtain ⟨s', hs'⟩ : ∃ s' : MS, (if g = true then s.setT t { s.th t with pc := x.x.toNat } else s) = s' := ⟨_, rfl⟩
  simp only [hs'] at A ⊢
  clear hs'
  obtain ⟨hv0, hv1⟩ := hva
  obtain ⟨hu0, hu1⟩ := hvb
  clear h hf hv hu hv0 hv1 hu0 hu1
  unfold ptrV at *
  go_enter Tryz.func80, Tryz.ntmps80
  go_wp2_with fail
  refine wp_region_held_drew (S := (fun w' => w'.cell? ⟨sb, 4, none⟩ = some (.bool x.aR) ∧ w'.cell? ⟨sb, 5, none⟩ = some (.int .i64 x.aN) ∧ w'.cell? ⟨sb, 6, none⟩ = some (.bool x.bR) ∧ w'.cell? ⟨sb, 7, none⟩ = some (.int .i64 x.bN))) (by kernel_rfl) ⟨c4, c5, c6, c7⟩ (fun hHeld => ?_)
  refine wpAnyH_take (i := 0) (v := ?_) rfl (by kernel_rfl) (by kernel_rfl) (by kernel_rfl) (fun _ _ _ h => h) (Or.inl ⟨by rfl, ?_⟩) hHeld ?_
  rotate_left
  · intro w9 hSw; (try dsimp only at hSw); go_simp; try with_reducible rfl
  simp only [Act.put, List.getElem_toArray, List.getElem_cons_zero, List.getElem_cons_succ, List.setIfInBounds_toArray, List.set_cons_succ, List.set_cons_zero]
  refine wpAnyH_take (i := 1) (v := ?_) rfl (by kernel_rfl) (by kernel_rfl) (by kernel_rfl) (fun _ _ _ h => h) (Or.inl ⟨by rfl, ?_⟩) hHeld ?_
  rotate_left
  · intro w9 hSw; (try dsimp only at hSw); go_simp; try with_reducible rfl
  simp only [Act.put, List.getElem_toArray, List.getElem_cons_zero, List.getElem_cons_succ, List.setIfInBounds_toArray, List.set_cons_succ, List.set_cons_zero]
  refine wpAnyH_take (i := 2) (v := ?_) rfl (by kernel_rfl) (by kernel_rfl) (by kernel_rfl) (fun _ _ _ h => h) (Or.inl ⟨by rfl, ?_⟩) hHeld ?_
  rotate_left
  · intro w9 hSw; (try dsimp only at hSw); go_simp; try with_reducible rfl
  simp only [Act.put, List.getElem_toArray, List.getElem_cons_zero, List.getElem_cons_succ, List.setIfInBounds_toArray, List.set_cons_succ, List.set_cons_zero]
  refine wpAnyH_take (i := 3) (v := ?_) rfl (by kernel_rfl) (by kernel_rfl) (by kernel_rfl) (fun _ _ _ h => h) (Or.inl ⟨by rfl, ?_⟩) hHeld ?_
  rotate_left
  · intro w9 hSw; (try dsimp only at hSw); go_simp; try with_reducible rfl
  simp only [Act.put, List.getElem_toArray, List.getElem_cons_zero, List.getElem_cons_succ, List.setIfInBounds_toArray, List.set_cons_succ, List.set_cons_zero]
  refine wpAnyH_take (i := 4) (v := ?_) rfl (by kernel_rfl) (by kernel_rfl) (by kernel_rfl) (fun _ _ _ h => h) (Or.inl ⟨by rfl, ?_⟩) hHeld ?_
  rotate_left
  · intro w9 hSw; (try dsimp only at hSw); go_simp; try with_reducible rfl
  simp only [Act.put, List.getElem_toArray, List.getElem_cons_zero, List.getElem_cons_succ, List.setIfInBounds_toArray, List.set_cons_succ, List.set_cons_zero]
  refine wpAnyH_take (i := 5) (v := ?_) rfl (by kernel_rfl) (by kernel_rfl) (by kernel_rfl) (fun _ _ _ h => h) (Or.inl ⟨by rfl, ?_⟩) hHeld ?_
  rotate_left
  · intro w9 hSw; (try dsimp only at hSw); go_simp; try with_reducible rfl
  simp only [Act.put, List.getElem_toArray, List.getElem_cons_zero, List.getElem_cons_succ, List.setIfInBounds_toArray, List.set_cons_succ, List.set_cons_zero]
  refine wpAnyH_take (i := 6) (v := ?_) rfl (by kernel_rfl) (by kernel_rfl) (by kernel_rfl) (fun _ _ _ h => h) (Or.inl ⟨by rfl, ?_⟩) hHeld ?_
  rotate_left
  · intro w9 hSw; (try dsimp only at hSw); go_simp; try with_reducible rfl
  simp only [Act.put, List.getElem_toArray, List.getElem_cons_zero, List.getElem_cons_succ, List.setIfInBounds_toArray, List.set_cons_succ, List.set_cons_zero]
  refine wpAnyH_take (i := 8) (v := ?_) rfl (by kernel_rfl) (by kernel_rfl) (by kernel_rfl) (fun _ _ _ h => h) (Or.inl ⟨by rfl, ?_⟩) hHeld ?_
  rotate_left
  · intro w9 hSw; (try dsimp only at hSw); go_simp; try with_reducible rfl
  simp only [Act.put, List.getElem_toArray, List.getElem_cons_zero, List.getElem_cons_succ, List.setIfInBounds_toArray, List.set_cons_succ, List.set_cons_zero]
  refine wpAnyH_take (i := 9) (v := ?_) rfl (by kernel_rfl) (by kernel_rfl) (by kernel_rfl) (fun _ _ _ h => h) (Or.inl ⟨by rfl, ?_⟩) hHeld ?_
  rotate_left
  · intro w9 hSw; (try dsimp only at hSw); go_simp; try with_reducible rfl
  simp only [Act.put, List.getElem_toArray, List.getElem_cons_zero, List.getElem_cons_succ, List.setIfInBounds_toArray, List.set_cons_succ, List.set_cons_zero]
  refine wpAnyH_take (i := 10) (v := ?_) rfl (by kernel_rfl) (by kernel_rfl) (by kernel_rfl) (fun _ _ _ h => h) (Or.inl ⟨by rfl, ?_⟩) hHeld ?_
  rotate_left
  · intro w9 hSw; (try dsimp only at hSw); go_simp; try with_reducible rfl
  simp only [Act.put, List.getElem_toArray, List.getElem_cons_zero, List.getElem_cons_succ, List.setIfInBounds_toArray, List.set_cons_succ, List.set_cons_zero]
  refine wpAnyH_take (i := 11) (v := ?_) rfl (by kernel_rfl) (by kernel_rfl) (by kernel_rfl) (fun _ _ _ h => h) (Or.inl ⟨by rfl, ?_⟩) hHeld ?_
  rotate_left
  · intro w9 hSw; (try dsimp only at hSw); go_simp; try with_reducible rfl
  simp only [Act.put, List.getElem_toArray, List.getElem_cons_zero, List.getElem_cons_succ, List.setIfInBounds_toArray, List.set_cons_succ, List.set_cons_zero]
  refine wpAnyH_take (i := 12) (v := ?_) rfl (by kernel_rfl) (by kernel_rfl) (by kernel_rfl) (fun _ _ _ h => h) (Or.inl ⟨by rfl, ?_⟩) hHeld ?_
  rotate_left
  · intro w9 hSw; (try dsimp only at hSw); go_simp; try with_reducible rfl
  simp only [Act.put, List.getElem_toArray, List.getElem_cons_zero, List.getElem_cons_succ, List.setIfInBounds_toArray, List.set_cons_succ, List.set_cons_zero]
  refine wpAnyH_take (i := 13) (v := ?_) rfl (by kernel_rfl) (by kernel_rfl) (by kernel_rfl) (fun _ _ _ h => h) (Or.inl ⟨by rfl, ?_⟩) hHeld ?_
  rotate_left
  · intro w9 hSw; (try dsimp only at hSw); go_simp; try with_reducible rfl
  simp only [Act.put, List.getElem_toArray, List.getElem_cons_zero, List.getElem_cons_succ, List.setIfInBounds_toArray, List.set_cons_succ, List.set_cons_zero]
  refine wpAnyH_ready (rs := [7]) (by kernel_rfl) (by simp) ?_
  refine AllReadyH.cons rfl (fun K hK => ?_) AllReadyH.nil
  go_simp
  go_at_call 62
  refine (V.out _ hd).mono ?_
  rintro e1 w1 ⟨rfl, hb1⟩
  replace hb1 : Below w.heap.size w w1 := hd.trans hb1
  obtain ⟨-, -, d4, d5, d6, d7, -⟩ := (H.out.below hb1).ins
  have V3 := V2.out w1 hb1
  have HB1 := hide hb1
  clear hb1
  go_wp2_with fail
  refine hK.out _ _ ⟨d4, d5, d6, d7⟩ (fun hHeld => ?_)
  clear hK K d4 d5 d6 d7
  try simp only [Act.put, List.getElem_toArray, List.getElem_cons_zero, List.getElem_cons_succ, List.setIfInBounds_toArray, List.set_cons_succ, List.set_cons_zero]
  refine wpAnyH_ready (rs := [14]) (by kernel_rfl) (by simp) ?_
  refine AllReadyH.cons rfl (fun K hK => ?_) AllReadyH.nil
  go_simp
  go_at_call 62
  refine V3.mono ?_
  rintro e2 w2 ⟨rfl, hb2⟩
  replace hb2 : Below w.heap.size w w2 := HB1.out.trans (hb2.mono HB1.out.size)
  obtain ⟨-, -, d4, d5, d6, d7, -⟩ := (H.out.below hb2).ins
  have HB2 := hide hb2
  clear hb2 V3 HB1
  go_wp2_with fail
  refine hK.out _ _ ⟨d4, d5, d6, d7⟩ (fun hHeld => ?_)
  clear hK K d4 d5 d6 d7
  try simp only [Act.put, List.getElem_toArray, List.getElem_cons_zero, List.getElem_cons_succ, List.setIfInBounds_toArray, List.set_cons_succ, List.set_cons_zero]
  refine wpAnyH_take (i := 15) (v := ?_) rfl (by kernel_rfl) (by kernel_rfl) (by kernel_rfl) (fun _ _ _ h => h) (Or.inl ⟨by rfl, ?_⟩) hHeld ?_
  rotate_left
  · intro w9 hSw; (try dsimp only at hSw); go_simp; try with_reducible rfl
  simp only [Act.put, List.getElem_toArray, List.getElem_cons_zero, List.getElem_cons_succ, List.setIfInBounds_toArray, List.set_cons_succ, List.set_cons_zero]
  refine wpAnyH_ready (rs := [16]) (by kernel_rfl) (by simp) ?_
  refine AllReadyH.cons rfl (fun K hK => ?_) AllReadyH.nil
  go_simp
  go_at_call 78
  refine (A.out w2 HB2.out).mono ?_
  rintro e3 w3 ⟨rfl, h3⟩
  obtain ⟨-, -, d4, d5, d6, d7, -⟩ := h3.v.ins
  have H3 := hide h3
  clear h3 A
  go_wp2_with fail
  refine hK.out _ _ ⟨d4, d5, d6, d7⟩ (fun hHeld => ?_)
  clear hK K d4 d5 d6 d7
  try simp only [Act.put, List.getElem_toArray, List.getElem_cons_zero, List.getElem_cons_succ, List.setIfInBounds_toArray, List.set_cons_succ, List.set_cons_zero]
  refine wpAnyH_done (by kernel_rfl) ?_ _
  go_wp2_with fail
  go_end0
  exact ⟨rfl, H3.out.v, (KeepS.ofBelow HB2.out).trans H3.out.k⟩
set_option maxRecDepth 100000 in
set_option maxHeartbeats 1000000 in
theorem check_any (h : StV w b sb p s t x e) (hf : DFit s t x) :
    Calls Tryz.prog 81 #[ptrV sb] w fun r w' => r = .returned (.tuple #[]) ∧ (if vlM (s.th t) x.aR x.aN ≠ vlM (s.th t) x.bR x.bN then StR w w' b sb p (s.setT t { s.th t with ph := 3 }) t x { e with k := 9 } else StR w w' b sb p s t x e) := by
  obtain ⟨-, -, c4, c5, c6, c7, -⟩ := h.ins
  have V := hide (fun w' (hb : Below w.heap.size w w') => value_any (h.below hb) hf.t4 hf.rl _ _ hf.a)
  have V2 := hide (fun w' (hb : Below w.heap.size w w') => value_any (h.below hb) hf.t4 hf.rl _ _ hf.b)
  have hva := hf.va
  have hvb := hf.vb
  have H := hide h
  have hd : Below w.heap.size w w.drew := ⟨rfl, rfl, rfl, Nat.le_refl _, fun _ _ => rfl⟩
  have A := hide (fun w' (hb : Below w.heap.size w w') => fail_any (h.below hb) hf.t4 hf.tl)
  obtain ⟨v, hv⟩ : ∃ v, vlM (s.th t) x.aR x.aN = v := ⟨_, rfl⟩
  obtain ⟨u, hu⟩ : ∃ u, vlM (s.th t) x.bR x.bN = u := ⟨_, rfl⟩
  rw [hv] at hva
  rw [hu] at hvb
  simp only [hv, hu] at V V2 ⊢
  obtain ⟨hv0, hv1⟩ := hva
  obtain ⟨hu0, hu1⟩ := hvb
  by_cases hq : v = u
  · have hite : (v ≠ u) = False := by simp [hq]
    simp only [hite, if_false]
    have hq' : (v != u) = false := by simp [hq]
    clear hite hq
    clear h hf hv hu hv0 hv1 hu0 hu1
    unfold ptrV at *
    go_enter Tryz.func81, Tryz.ntmps81
    go_wp2_with fail
    refine wp_region_held_drew (S := (fun w' => w'.cell? ⟨sb, 4, none⟩ = some (.bool x.aR) ∧ w'.cell? ⟨sb, 5, none⟩ = some (.int .i64 x.aN) ∧ w'.cell? ⟨sb, 6, none⟩ = some (.bool x.bR) ∧ w'.cell? ⟨sb, 7, none⟩ = some (.int .i64 x.bN))) (by kernel_rfl) ⟨c4, c5, c6, c7⟩ (fun hHeld => ?_)
    refine wpAnyH_take (i := 0) (v := ?_) rfl (by kernel_rfl) (by kernel_rfl) (by kernel_rfl) (fun _ _ _ h => h) (Or.inl ⟨by rfl, ?_⟩) hHeld ?_
    rotate_left
    · intro w9 hSw; (try dsimp only at hSw); go_simp; try with_reducible rfl
    simp only [Act.put, List.getElem_toArray, List.getElem_cons_zero, List.getElem_cons_succ, List.setIfInBounds_toArray, List.set_cons_succ, List.set_cons_zero]
    refine wpAnyH_take (i := 1) (v := ?_) rfl (by kernel_rfl) (by kernel_rfl) (by kernel_rfl) (fun _ _ _ h => h) (Or.inl ⟨by rfl, ?_⟩) hHeld ?_
    rotate_left
    · intro w9 hSw; (try dsimp only at hSw); go_simp; try with_reducible rfl
    simp only [Act.put, List.getElem_toArray, List.getElem_cons_zero, List.getElem_cons_succ, List.setIfInBounds_toArray, List.set_cons_succ, List.set_cons_zero]
    refine wpAnyH_take (i := 2) (v := ?_) rfl (by kernel_rfl) (by kernel_rfl) (by kernel_rfl) (fun _ _ _ h => h) (Or.inl ⟨by rfl, ?_⟩) hHeld ?_
    rotate_left
    · intro w9 hSw; (try dsimp only at hSw); go_simp; try with_reducible rfl
    simp only [Act.put, List.getElem_toArray, List.getElem_cons_zero, List.getElem_cons_succ, List.setIfInBounds_toArray, List.set_cons_succ, List.set_cons_zero]
    refine wpAnyH_take (i := 3) (v := ?_) rfl (by kernel_rfl) (by kernel_rfl) (by kernel_rfl) (fun _ _ _ h => h) (Or.inl ⟨by rfl, ?_⟩) hHeld ?_
    rotate_left
    · intro w9 hSw; (try dsimp only at hSw); go_simp; try with_reducible rfl
    simp only [Act.put, List.getElem_toArray, List.getElem_cons_zero, List.getElem_cons_succ, List.setIfInBounds_toArray, List.set_cons_succ, List.set_cons_zero]
    refine wpAnyH_take (i := 4) (v := ?_) rfl (by kernel_rfl) (by kernel_rfl) (by kernel_rfl) (fun _ _ _ h => h) (Or.inl ⟨by rfl, ?_⟩) hHeld ?_
    rotate_left
    · intro w9 hSw; (try dsimp only at hSw); go_simp; try with_reducible rfl
    simp only [Act.put, List.getElem_toArray, List.getElem_cons_zero, List.getElem_cons_succ, List.setIfInBounds_toArray, List.set_cons_succ, List.set_cons_zero]
    refine wpAnyH_take (i := 5) (v := ?_) rfl (by kernel_rfl) (by kernel_rfl) (by kernel_rfl) (fun _ _ _ h => h) (Or.inl ⟨by rfl, ?_⟩) hHeld ?_
    rotate_left
    · intro w9 hSw; (try dsimp only at hSw); go_simp; try with_reducible rfl
    simp only [Act.put, List.getElem_toArray, List.getElem_cons_zero, List.getElem_cons_succ, List.setIfInBounds_toArray, List.set_cons_succ, List.set_cons_zero]
    refine wpAnyH_take (i := 7) (v := ?_) rfl (by kernel_rfl) (by kernel_rfl) (by kernel_rfl) (fun _ _ _ h => h) (Or.inl ⟨by rfl, ?_⟩) hHeld ?_
    rotate_left
    · intro w9 hSw; (try dsimp only at hSw); go_simp; try with_reducible rfl
    simp only [Act.put, List.getElem_toArray, List.getElem_cons_zero, List.getElem_cons_succ, List.setIfInBounds_toArray, List.set_cons_succ, List.set_cons_zero]
    refine wpAnyH_take (i := 8) (v := ?_) rfl (by kernel_rfl) (by kernel_rfl) (by kernel_rfl) (fun _ _ _ h => h) (Or.inl ⟨by rfl, ?_⟩) hHeld ?_
    rotate_left
    · intro w9 hSw; (try dsimp only at hSw); go_simp; try with_reducible rfl
    simp only [Act.put, List.getElem_toArray, List.getElem_cons_zero, List.getElem_cons_succ, List.setIfInBounds_toArray, List.set_cons_succ, List.set_cons_zero]
    refine wpAnyH_take (i := 9) (v := ?_) rfl (by kernel_rfl) (by kernel_rfl) (by kernel_rfl) (fun _ _ _ h => h) (Or.inl ⟨by rfl, ?_⟩) hHeld ?_
    rotate_left
    · intro w9 hSw; (try dsimp only at hSw); go_simp; try with_reducible rfl
    simp only [Act.put, List.getElem_toArray, List.getElem_cons_zero, List.getElem_cons_succ, List.setIfInBounds_toArray, List.set_cons_succ, List.set_cons_zero]
    refine wpAnyH_take (i := 10) (v := ?_) rfl (by kernel_rfl) (by kernel_rfl) (by kernel_rfl) (fun _ _ _ h => h) (Or.inl ⟨by rfl, ?_⟩) hHeld ?_
    rotate_left
    · intro w9 hSw; (try dsimp only at hSw); go_simp; try with_reducible rfl
    simp only [Act.put, List.getElem_toArray, List.getElem_cons_zero, List.getElem_cons_succ, List.setIfInBounds_toArray, List.set_cons_succ, List.set_cons_zero]
    refine wpAnyH_take (i := 11) (v := ?_) rfl (by kernel_rfl) (by kernel_rfl) (by kernel_rfl) (fun _ _ _ h => h) (Or.inl ⟨by rfl, ?_⟩) hHeld ?_
    rotate_left
    · intro w9 hSw; (try dsimp only at hSw); go_simp; try with_reducible rfl
    simp only [Act.put, List.getElem_toArray, List.getElem_cons_zero, List.getElem_cons_succ, List.setIfInBounds_toArray, List.set_cons_succ, List.set_cons_zero]
    refine wpAnyH_take (i := 12) (v := ?_) rfl (by kernel_rfl) (by kernel_rfl) (by kernel_rfl) (fun _ _ _ h => h) (Or.inl ⟨by rfl, ?_⟩) hHeld ?_
    rotate_left
    · intro w9 hSw; (try dsimp only at hSw); go_simp; try with_reducible rfl
    simp only [Act.put, List.getElem_toArray, List.getElem_cons_zero, List.getElem_cons_succ, List.setIfInBounds_toArray, List.set_cons_succ, List.set_cons_zero]
    refine wpAnyH_ready (rs := [6]) (by kernel_rfl) (by simp) ?_
    refine AllReadyH.cons rfl (fun K hK => ?_) AllReadyH.nil
    go_simp
    go_at_call 62
    refine (V.out _ hd).mono ?_
    rintro e1 w1 ⟨rfl, hb1⟩
    replace hb1 : Below w.heap.size w w1 := hd.trans hb1
    obtain ⟨-, -, d4, d5, d6, d7, -⟩ := (H.out.below hb1).ins
    have V3 := V2.out w1 hb1
    have HB1 := hide hb1
    clear hb1
    go_wp2_with fail
    refine hK.out _ _ ⟨d4, d5, d6, d7⟩ (fun hHeld => ?_)
    clear hK K d4 d5 d6 d7
    try simp only [Act.put, List.getElem_toArray, List.getElem_cons_zero, List.getElem_cons_succ, List.setIfInBounds_toArray, List.set_cons_succ, List.set_cons_zero]
    refine wpAnyH_ready (rs := [13]) (by kernel_rfl) (by simp) ?_
    refine AllReadyH.cons rfl (fun K hK => ?_) AllReadyH.nil
    go_simp
    go_at_call 62
    refine V3.mono ?_
    rintro e2 w2 ⟨rfl, hb2⟩
    replace hb2 : Below w.heap.size w w2 := HB1.out.trans (hb2.mono HB1.out.size)
    obtain ⟨-, -, d4, d5, d6, d7, -⟩ := (H.out.below hb2).ins
    have HB2 := hide hb2
    clear hb2 V3 HB1
    go_wp2_with fail
    refine hK.out _ _ ⟨d4, d5, d6, d7⟩ (fun hHeld => ?_)
    clear hK K d4 d5 d6 d7
    try simp only [Act.put, List.getElem_toArray, List.getElem_cons_zero, List.getElem_cons_succ, List.setIfInBounds_toArray, List.set_cons_succ, List.set_cons_zero]
    refine wpAnyH_take (i := 14) (v := ?_) rfl (by kernel_rfl) (by kernel_rfl) (by kernel_rfl) (fun _ _ _ h => h) (Or.inl ⟨by rfl, ?_⟩) hHeld ?_
    rotate_left
    · intro w9 hSw; (try dsimp only at hSw); go_simp; try with_reducible rfl
    simp only [Act.put, List.getElem_toArray, List.getElem_cons_zero, List.getElem_cons_succ, List.setIfInBounds_toArray, List.set_cons_succ, List.set_cons_zero]
    refine wpAnyH_done (by kernel_rfl) ?_ _
    clear hHeld
    go_wp2_with fail
    go_end0
    exact ⟨rfl, H.out.below HB2.out, KeepS.ofBelow HB2.out⟩
  · have hite : (v ≠ u) = True := by simp [hq]
    simp only [hite, if_true]
    have hq' : (v != u) = true := by simp [hq]
    clear hite hq
    clear h hf hv hu hv0 hv1 hu0 hu1
    unfold ptrV at *
    go_enter Tryz.func81, Tryz.ntmps81
    go_wp2_with fail
    refine wp_region_held_drew (S := (fun w' => w'.cell? ⟨sb, 4, none⟩ = some (.bool x.aR) ∧ w'.cell? ⟨sb, 5, none⟩ = some (.int .i64 x.aN) ∧ w'.cell? ⟨sb, 6, none⟩ = some (.bool x.bR) ∧ w'.cell? ⟨sb, 7, none⟩ = some (.int .i64 x.bN))) (by kernel_rfl) ⟨c4, c5, c6, c7⟩ (fun hHeld => ?_)
    refine wpAnyH_take (i := 0) (v := ?_) rfl (by kernel_rfl) (by kernel_rfl) (by kernel_rfl) (fun _ _ _ h => h) (Or.inl ⟨by rfl, ?_⟩) hHeld ?_
    rotate_left
    · intro w9 hSw; (try dsimp only at hSw); go_simp; try with_reducible rfl
    simp only [Act.put, List.getElem_toArray, List.getElem_cons_zero, List.getElem_cons_succ, List.setIfInBounds_toArray, List.set_cons_succ, List.set_cons_zero]
    refine wpAnyH_take (i := 1) (v := ?_) rfl (by kernel_rfl) (by kernel_rfl) (by kernel_rfl) (fun _ _ _ h => h) (Or.inl ⟨by rfl, ?_⟩) hHeld ?_
    rotate_left
    · intro w9 hSw; (try dsimp only at hSw); go_simp; try with_reducible rfl
    simp only [Act.put, List.getElem_toArray, List.getElem_cons_zero, List.getElem_cons_succ, List.setIfInBounds_toArray, List.set_cons_succ, List.set_cons_zero]
    refine wpAnyH_take (i := 2) (v := ?_) rfl (by kernel_rfl) (by kernel_rfl) (by kernel_rfl) (fun _ _ _ h => h) (Or.inl ⟨by rfl, ?_⟩) hHeld ?_
    rotate_left
    · intro w9 hSw; (try dsimp only at hSw); go_simp; try with_reducible rfl
    simp only [Act.put, List.getElem_toArray, List.getElem_cons_zero, List.getElem_cons_succ, List.setIfInBounds_toArray, List.set_cons_succ, List.set_cons_zero]
    refine wpAnyH_take (i := 3) (v := ?_) rfl (by kernel_rfl) (by kernel_rfl) (by kernel_rfl) (fun _ _ _ h => h) (Or.inl ⟨by rfl, ?_⟩) hHeld ?_
    rotate_left
    · intro w9 hSw; (try dsimp only at hSw); go_simp; try with_reducible rfl
    simp only [Act.put, List.getElem_toArray, List.getElem_cons_zero, List.getElem_cons_succ, List.setIfInBounds_toArray, List.set_cons_succ, List.set_cons_zero]
    refine wpAnyH_take (i := 4) (v := ?_) rfl (by kernel_rfl) (by kernel_rfl) (by kernel_rfl) (fun _ _ _ h => h) (Or.inl ⟨by rfl, ?_⟩) hHeld ?_
    rotate_left
    · intro w9 hSw; (try dsimp only at hSw); go_simp; try with_reducible rfl
    simp only [Act.put, List.getElem_toArray, List.getElem_cons_zero, List.getElem_cons_succ, List.setIfInBounds_toArray, List.set_cons_succ, List.set_cons_zero]
    refine wpAnyH_take (i := 5) (v := ?_) rfl (by kernel_rfl) (by kernel_rfl) (by kernel_rfl) (fun _ _ _ h => h) (Or.inl ⟨by rfl, ?_⟩) hHeld ?_
    rotate_left
    · intro w9 hSw; (try dsimp only at hSw); go_simp; try with_reducible rfl
    simp only [Act.put, List.getElem_toArray, List.getElem_cons_zero, List.getElem_cons_succ, List.setIfInBounds_toArray, List.set_cons_succ, List.set_cons_zero]
    refine wpAnyH_take (i := 7) (v := ?_) rfl (by kernel_rfl) (by kernel_rfl) (by kernel_rfl) (fun _ _ _ h => h) (Or.inl ⟨by rfl, ?_⟩) hHeld ?_
    rotate_left
    · intro w9 hSw; (try dsimp only at hSw); go_simp; try with_reducible rfl
    simp only [Act.put, List.getElem_toArray, List.getElem_cons_zero, List.getElem_cons_succ, List.setIfInBounds_toArray, List.set_cons_succ, List.set_cons_zero]
    refine wpAnyH_take (i := 8) (v := ?_) rfl (by kernel_rfl) (by kernel_rfl) (by kernel_rfl) (fun _ _ _ h => h) (Or.inl ⟨by rfl, ?_⟩) hHeld ?_
    rotate_left
    · intro w9 hSw; (try dsimp only at hSw); go_simp; try with_reducible rfl
    simp only [Act.put, List.getElem_toArray, List.getElem_cons_zero, List.getElem_cons_succ, List.setIfInBounds_toArray, List.set_cons_succ, List.set_cons_zero]
    refine wpAnyH_take (i := 9) (v := ?_) rfl (by kernel_rfl) (by kernel_rfl) (by kernel_rfl) (fun _ _ _ h => h) (Or.inl ⟨by rfl, ?_⟩) hHeld ?_
    rotate_left
    · intro w9 hSw; (try dsimp only at hSw); go_simp; try with_reducible rfl
    simp only [Act.put, List.getElem_toArray, List.getElem_cons_zero, List.getElem_cons_succ, List.setIfInBounds_toArray, List.set_cons_succ, List.set_cons_zero]
    refine wpAnyH_take (i := 10) (v := ?_) rfl (by kernel_rfl) (by kernel_rfl) (by kernel_rfl) (fun _ _ _ h => h) (Or.inl ⟨by rfl, ?_⟩) hHeld ?_
    rotate_left
    · intro w9 hSw; (try dsimp only at hSw); go_simp; try with_reducible rfl
    simp only [Act.put, List.getElem_toArray, List.getElem_cons_zero, List.getElem_cons_succ, List.setIfInBounds_toArray, List.set_cons_succ, List.set_cons_zero]
    refine wpAnyH_take (i := 11) (v := ?_) rfl (by kernel_rfl) (by kernel_rfl) (by kernel_rfl) (fun _ _ _ h => h) (Or.inl ⟨by rfl, ?_⟩) hHeld ?_
    rotate_left
    · intro w9 hSw; (try dsimp only at hSw); go_simp; try with_reducible rfl
    simp only [Act.put, List.getElem_toArray, List.getElem_cons_zero, List.getElem_cons_succ, List.setIfInBounds_toArray, List.set_cons_succ, List.set_cons_zero]
    refine wpAnyH_take (i := 12) (v := ?_) rfl (by kernel_rfl) (by kernel_rfl) (by kernel_rfl) (fun _ _ _ h => h) (Or.inl ⟨by rfl, ?_⟩) hHeld ?_
    rotate_left
    · intro w9 hSw; (try dsimp only at hSw); go_simp; try with_reducible rfl
    simp only [Act.put, List.getElem_toArray, List.getElem_cons_zero, List.getElem_cons_succ, List.setIfInBounds_toArray, List.set_cons_succ, List.set_cons_zero]
    refine wpAnyH_ready (rs := [6]) (by kernel_rfl) (by simp) ?_
    refine AllReadyH.cons rfl (fun K hK => ?_) AllReadyH.nil
    go_simp
    go_at_call 62
    refine (V.out _ hd).mono ?_
    rintro e1 w1 ⟨rfl, hb1⟩
    replace hb1 : Below w.heap.size w w1 := hd.trans hb1
    obtain ⟨-, -, d4, d5, d6, d7, -⟩ := (H.out.below hb1).ins
    have V3 := V2.out w1 hb1
    have HB1 := hide hb1
    clear hb1
    go_wp2_with fail
    refine hK.out _ _ ⟨d4, d5, d6, d7⟩ (fun hHeld => ?_)
    clear hK K d4 d5 d6 d7
    try simp only [Act.put, List.getElem_toArray, List.getElem_cons_zero, List.getElem_cons_succ, List.setIfInBounds_toArray, List.set_cons_succ, List.set_cons_zero]
    refine wpAnyH_ready (rs := [13]) (by kernel_rfl) (by simp) ?_
    refine AllReadyH.cons rfl (fun K hK => ?_) AllReadyH.nil
    go_simp
    go_at_call 62
    refine V3.mono ?_
    rintro e2 w2 ⟨rfl, hb2⟩
    replace hb2 : Below w.heap.size w w2 := HB1.out.trans (hb2.mono HB1.out.size)
    obtain ⟨-, -, d4, d5, d6, d7, -⟩ := (H.out.below hb2).ins
    have HB2 := hide hb2
    clear hb2 V3 HB1
    go_wp2_with fail
    refine hK.out _ _ ⟨d4, d5, d6, d7⟩ (fun hHeld => ?_)
    clear hK K d4 d5 d6 d7
    try simp only [Act.put, List.getElem_toArray, List.getElem_cons_zero, List.getElem_cons_succ, List.setIfInBounds_toArray, List.set_cons_succ, List.set_cons_zero]
    refine wpAnyH_take (i := 14) (v := ?_) rfl (by kernel_rfl) (by kernel_rfl) (by kernel_rfl) (fun _ _ _ h => h) (Or.inl ⟨by rfl, ?_⟩) hHeld ?_
    rotate_left
    · intro w9 hSw; (try dsimp only at hSw); go_simp; try with_reducible rfl
    simp only [Act.put, List.getElem_toArray, List.getElem_cons_zero, List.getElem_cons_succ, List.setIfInBounds_toArray, List.set_cons_succ, List.set_cons_zero]
    refine wpAnyH_done (by kernel_rfl) ?_ _
    clear hHeld
    have F := A.out w2 HB2.out
    clear A
    go_wp2_with fail
    refine F.mono ?_
    rintro e3 w3 ⟨rfl, h3⟩
    have H3 := hide h3
    clear h3 F
    go_wp2_with fail
    go_end0
    exact ⟨rfl, H3.out.v, (KeepS.ofBelow HB2.out).trans H3.out.k⟩
end
end Go.Proofs.YtlpdomgedaockaaGreatDoor
