import Derived.Test.YtlpdomgedaockaaGreatDoorOl24
import Derived.BigQuiet
set_option linter.unusedVariables false
set_option linter.unusedSimpArgs false
/-
  The deeds themselves.
-/
namespace Go.Proofs.YtlpdomgedaockaaGreatDoor
open Go.RowKit Go.Proofs.Cod

section
variable {w w' : World} {b sb : Nat} {p : PD} {s : MS} {t : Nat} {x : In7} {e : Ev}
/-- What the deeds ask. -/
structure DFit (s : MS) (t : Nat) (x : In7) : Prop where
  t4 : t < 4
  tl : t < s.thr.length
  rl : (s.th t).regs.length = 4
  rv : ∀ v, v ∈ (s.th t).regs → val3 v
  r : 0 ≤ x.r ∧ x.r < 4
  a : argB4 x.aR x.aN
  b : argB4 x.bR x.bN
  x0 : 0 ≤ x.x
theorem DFit.va (h : DFit s t x) : val3 (vlM (s.th t) x.aR x.aN) := by
  unfold vlM
  split
  · rename_i q
    have := h.a.2.2 q
    have h0 := h.a.1
    exact h.rv _ (getD_mem (by rw [h.rl]; omega))
  · exact ⟨h.a.1, h.a.2.1⟩
theorem DFit.vb (h : DFit s t x) : val3 (vlM (s.th t) x.bR x.bN) := by
  unfold vlM
  split
  · rename_i q
    have := h.b.2.2 q
    have h0 := h.b.1
    exact h.rv _ (getD_mem (by rw [h.rl]; omega))
  · exact ⟨h.b.1, h.b.2.1⟩
theorem mul_bnd {a b : Int} (ha : val3 a) (hb : val3 b) : a * b < 2000000 := by
  have h1 : a * b ≤ 999 * b := Int.mul_le_mul_of_nonneg_right (by have := ha.2; omega) hb.1
  have := hb.2
  omega
set_option maxRecDepth 100000 in
set_option maxHeartbeats 1000000 in
theorem dSet_any (h : StV w b sb p s t x e) (hf : DFit s t x) :
    Calls Tryz.prog 60 #[ptrV sb] w fun r w' => r = .returned (.tuple #[]) ∧ StR w w' b sb p (s.setT t { s.th t with regs := (s.th t).regs.set x.r.toNat (vlM (s.th t) x.aR x.aN % 1000) }) t x e := by
  obtain ⟨-, -, c4, c5, -, -, -⟩ := h.ins
  have V := value_any h hf.t4 hf.rl _ _ hf.a
  have A : ∀ w', Below w.heap.size w w' → _ := fun w' hb => assign_any (h.below hb) hf.t4 hf.tl hf.rl hf.r (vlM (s.th t) x.aR x.aN) (by have := hf.va.1; omega) (by have := hf.va.2; omega)
  replace A := hide A
  obtain ⟨v, hv⟩ : ∃ v, vlM (s.th t) x.aR x.aN = v := ⟨_, rfl⟩
  rw [hv] at V A ⊢
  clear h hf hv
  unfold ptrV at *
  go_enter Tryz.func60, Tryz.ntmps60
  go_wp2_with fail
  refine V.mono ?_
  rintro e1 w1 ⟨rfl, hb⟩
  have A1 := A.out w1 hb
  have HB := hide hb
  clear A V hb
  go_wp2_with fail
  refine A1.mono ?_
  rintro e2 w2 ⟨rfl, h2⟩
  have H2 := hide h2
  clear h2 A1
  go_wp2_with fail
  go_end0
  exact ⟨rfl, H2.out.v, (KeepS.ofBelow HB.out).trans H2.out.k⟩
set_option maxRecDepth 100000 in
set_option maxHeartbeats 1000000 in
theorem dAdd_any (h : StV w b sb p s t x e) (hf : DFit s t x) :
    Calls Tryz.prog 63 #[ptrV sb] w fun r w' => r = .returned (.tuple #[]) ∧ StR w w' b sb p (s.setT t { s.th t with regs := (s.th t).regs.set x.r.toNat ((vlM (s.th t) x.aR x.aN + vlM (s.th t) x.bR x.bN) % 1000) }) t x e := by
  obtain ⟨-, -, c4, c5, c6, c7, -⟩ := h.ins
  have V := hide (fun w' (hb : Below w.heap.size w w') => value_any (h.below hb) hf.t4 hf.rl _ _ hf.a)
  have V2 := hide (fun w' (hb : Below w.heap.size w w') => value_any (h.below hb) hf.t4 hf.rl _ _ hf.b)
  have hva := hf.va
  have hvb := hf.vb
  have H := hide h
  have hd : Below w.heap.size w w.drew := ⟨rfl, rfl, rfl, Nat.le_refl _, fun _ _ => rfl⟩
  have A := hide (fun w' (hb : Below w.heap.size w w') => assign_any (h.below hb) hf.t4 hf.tl hf.rl hf.r (vlM (s.th t) x.aR x.aN + vlM (s.th t) x.bR x.bN) (by have := hva.1; have := hvb.1; have := hva.2; have := hvb.2; omega) (by have := hva.2; have := hvb.2; have := hva.1; have := hvb.1; omega))
  obtain ⟨v, hv⟩ : ∃ v, vlM (s.th t) x.aR x.aN = v := ⟨_, rfl⟩
  obtain ⟨u, hu⟩ : ∃ u, vlM (s.th t) x.bR x.bN = u := ⟨_, rfl⟩
  rw [hv] at hva
  rw [hu] at hvb
  simp only [hv, hu] at V V2 A ⊢
  obtain ⟨s', hs'⟩ : ∃ s' : MS, s.setT t { s.th t with regs := (s.th t).regs.set x.r.toNat ((v + u) % 1000) } = s' := ⟨_, rfl⟩
  simp only [hs'] at A ⊢
  clear hs'
  obtain ⟨hv0, hv1⟩ := hva
  obtain ⟨hu0, hu1⟩ := hvb
  have hwr0 : wrap64 (v + u) = v + u := by unfold wrap64; omega
  have hwr : IntKind.i64.wrap (v + u) = v + u := (IntWalk.i64_left _).trans hwr0
  clear hwr0
  clear h hf hv hu hv0 hv1 hu0 hu1
  unfold ptrV at *
  go_enter Tryz.func63, Tryz.ntmps63
  go_wp2_with fail
  refine wp_region_held_drew (S := (fun w' => w'.cell? ⟨sb, 4, none⟩ = some (.bool x.aR) ∧ w'.cell? ⟨sb, 5, none⟩ = some (.int .i64 x.aN) ∧ w'.cell? ⟨sb, 6, none⟩ = some (.bool x.bR) ∧ w'.cell? ⟨sb, 7, none⟩ = some (.int .i64 x.bN))) (by kernel_rfl) ⟨c4, c5, c6, c7⟩ (fun hHeld => ?_)
  refine wpAnyH_take (i := 0) (v := ?_) rfl (by kernel_rfl) (by kernel_rfl) (by kernel_rfl) (fun _ _ _ h => h) (Or.inl ⟨by rfl, ?_⟩) hHeld ?_
  rotate_left
  · intro w9 hSw; (try dsimp only at hSw); go_simp; try with_reducible rfl
  simp only [Act.put, List.getElem_toArray, List.getElem_cons_zero, List.getElem_cons_succ, List.setIfInBounds_toArray, List.set_cons_succ, List.set_cons_zero]
  refine wpAnyH_take (i := 1) (v := ?_) rfl (by kernel_rfl) (by kernel_rfl) (by kernel_rfl) (fun _ _ _ h => h) (Or.inl ⟨by rfl, ?_⟩) hHeld ?_
  rotate_left
  · intro w9 hSw; (try dsimp only at hSw); go_simp; try with_reducible rfl
  simp only [Act.put, List.getElem_toArray, List.getElem_cons_zero, List.getElem_cons_succ, List.setIfInBounds_toArray, List.set_cons_succ, List.set_cons_zero]
  refine wpAnyH_take (i := 2) (v := ?_) rfl (by kernel_rfl) (by kernel_rfl) (by kernel_rfl) (fun _ _ _ h => h) (Or.inl ⟨by rfl, ?_⟩) hHeld ?_
  rotate_left
  · intro w9 hSw; (try dsimp only at hSw); go_simp; try with_reducible rfl
  simp only [Act.put, List.getElem_toArray, List.getElem_cons_zero, List.getElem_cons_succ, List.setIfInBounds_toArray, List.set_cons_succ, List.set_cons_zero]
  refine wpAnyH_take (i := 3) (v := ?_) rfl (by kernel_rfl) (by kernel_rfl) (by kernel_rfl) (fun _ _ _ h => h) (Or.inl ⟨by rfl, ?_⟩) hHeld ?_
  rotate_left
  · intro w9 hSw; (try dsimp only at hSw); go_simp; try with_reducible rfl
  simp only [Act.put, List.getElem_toArray, List.getElem_cons_zero, List.getElem_cons_succ, List.setIfInBounds_toArray, List.set_cons_succ, List.set_cons_zero]
  refine wpAnyH_take (i := 4) (v := ?_) rfl (by kernel_rfl) (by kernel_rfl) (by kernel_rfl) (fun _ _ _ h => h) (Or.inl ⟨by rfl, ?_⟩) hHeld ?_
  rotate_left
  · intro w9 hSw; (try dsimp only at hSw); go_simp; try with_reducible rfl
  simp only [Act.put, List.getElem_toArray, List.getElem_cons_zero, List.getElem_cons_succ, List.setIfInBounds_toArray, List.set_cons_succ, List.set_cons_zero]
  refine wpAnyH_take (i := 5) (v := ?_) rfl (by kernel_rfl) (by kernel_rfl) (by kernel_rfl) (fun _ _ _ h => h) (Or.inl ⟨by rfl, ?_⟩) hHeld ?_
  rotate_left
  · intro w9 hSw; (try dsimp only at hSw); go_simp; try with_reducible rfl
  simp only [Act.put, List.getElem_toArray, List.getElem_cons_zero, List.getElem_cons_succ, List.setIfInBounds_toArray, List.set_cons_succ, List.set_cons_zero]
  refine wpAnyH_take (i := 6) (v := ?_) rfl (by kernel_rfl) (by kernel_rfl) (by kernel_rfl) (fun _ _ _ h => h) (Or.inl ⟨by rfl, ?_⟩) hHeld ?_
  rotate_left
  · intro w9 hSw; (try dsimp only at hSw); go_simp; try with_reducible rfl
  simp only [Act.put, List.getElem_toArray, List.getElem_cons_zero, List.getElem_cons_succ, List.setIfInBounds_toArray, List.set_cons_succ, List.set_cons_zero]
  refine wpAnyH_take (i := 8) (v := ?_) rfl (by kernel_rfl) (by kernel_rfl) (by kernel_rfl) (fun _ _ _ h => h) (Or.inl ⟨by rfl, ?_⟩) hHeld ?_
  rotate_left
  · intro w9 hSw; (try dsimp only at hSw); go_simp; try with_reducible rfl
  simp only [Act.put, List.getElem_toArray, List.getElem_cons_zero, List.getElem_cons_succ, List.setIfInBounds_toArray, List.set_cons_succ, List.set_cons_zero]
  refine wpAnyH_take (i := 9) (v := ?_) rfl (by kernel_rfl) (by kernel_rfl) (by kernel_rfl) (fun _ _ _ h => h) (Or.inl ⟨by rfl, ?_⟩) hHeld ?_
  rotate_left
  · intro w9 hSw; (try dsimp only at hSw); go_simp; try with_reducible rfl
  simp only [Act.put, List.getElem_toArray, List.getElem_cons_zero, List.getElem_cons_succ, List.setIfInBounds_toArray, List.set_cons_succ, List.set_cons_zero]
  refine wpAnyH_take (i := 10) (v := ?_) rfl (by kernel_rfl) (by kernel_rfl) (by kernel_rfl) (fun _ _ _ h => h) (Or.inl ⟨by rfl, ?_⟩) hHeld ?_
  rotate_left
  · intro w9 hSw; (try dsimp only at hSw); go_simp; try with_reducible rfl
  simp only [Act.put, List.getElem_toArray, List.getElem_cons_zero, List.getElem_cons_succ, List.setIfInBounds_toArray, List.set_cons_succ, List.set_cons_zero]
  refine wpAnyH_take (i := 11) (v := ?_) rfl (by kernel_rfl) (by kernel_rfl) (by kernel_rfl) (fun _ _ _ h => h) (Or.inl ⟨by rfl, ?_⟩) hHeld ?_
  rotate_left
  · intro w9 hSw; (try dsimp only at hSw); go_simp; try with_reducible rfl
  simp only [Act.put, List.getElem_toArray, List.getElem_cons_zero, List.getElem_cons_succ, List.setIfInBounds_toArray, List.set_cons_succ, List.set_cons_zero]
  refine wpAnyH_take (i := 12) (v := ?_) rfl (by kernel_rfl) (by kernel_rfl) (by kernel_rfl) (fun _ _ _ h => h) (Or.inl ⟨by rfl, ?_⟩) hHeld ?_
  rotate_left
  · intro w9 hSw; (try dsimp only at hSw); go_simp; try with_reducible rfl
  simp only [Act.put, List.getElem_toArray, List.getElem_cons_zero, List.getElem_cons_succ, List.setIfInBounds_toArray, List.set_cons_succ, List.set_cons_zero]
  refine wpAnyH_take (i := 13) (v := ?_) rfl (by kernel_rfl) (by kernel_rfl) (by kernel_rfl) (fun _ _ _ h => h) (Or.inl ⟨by rfl, ?_⟩) hHeld ?_
  rotate_left
  · intro w9 hSw; (try dsimp only at hSw); go_simp; try with_reducible rfl
  simp only [Act.put, List.getElem_toArray, List.getElem_cons_zero, List.getElem_cons_succ, List.setIfInBounds_toArray, List.set_cons_succ, List.set_cons_zero]
  refine wpAnyH_ready (rs := [7]) (by kernel_rfl) (by simp) ?_
  refine AllReadyH.cons rfl (fun K hK => ?_) AllReadyH.nil
  go_simp
  go_at_call 62
  refine (V.out _ hd).mono ?_
  rintro e1 w1 ⟨rfl, hb1⟩
  replace hb1 : Below w.heap.size w w1 := hd.trans hb1
  obtain ⟨-, -, d4, d5, d6, d7, -⟩ := (H.out.below hb1).ins
  have V3 := V2.out w1 hb1
  have HB1 := hide hb1
  clear hb1
  go_wp2_with fail
  refine hK.out _ _ ⟨d4, d5, d6, d7⟩ (fun hHeld => ?_)
  clear hK K d4 d5 d6 d7
  try simp only [Act.put, List.getElem_toArray, List.getElem_cons_zero, List.getElem_cons_succ, List.setIfInBounds_toArray, List.set_cons_succ, List.set_cons_zero]
  refine wpAnyH_ready (rs := [14]) (by kernel_rfl) (by simp) ?_
  refine AllReadyH.cons rfl (fun K hK => ?_) AllReadyH.nil
  go_simp
  go_at_call 62
  refine V3.mono ?_
  rintro e2 w2 ⟨rfl, hb2⟩
  replace hb2 : Below w.heap.size w w2 := HB1.out.trans (hb2.mono HB1.out.size)
  obtain ⟨-, -, d4, d5, d6, d7, -⟩ := (H.out.below hb2).ins
  have HB2 := hide hb2
  clear hb2 V3 HB1
  go_wp2_with fail
  refine hK.out _ _ ⟨d4, d5, d6, d7⟩ (fun hHeld => ?_)
  clear hK K
  try simp only [Act.put, List.getElem_toArray, List.getElem_cons_zero, List.getElem_cons_succ, List.setIfInBounds_toArray, List.set_cons_succ, List.set_cons_zero]
  refine wpAnyH_ready (rs := [15]) (by kernel_rfl) (by simp) ?_
  refine AllReadyH.cons rfl (fun K hK => ?_) AllReadyH.nil
  go_simp
  refine hK.out _ _ ⟨d4, d5, d6, d7⟩ (fun hHeld => ?_)
  clear hK K d4 d5 d6 d7
  try simp only [Act.put, List.getElem_toArray, List.getElem_cons_zero, List.getElem_cons_succ, List.setIfInBounds_toArray, List.set_cons_succ, List.set_cons_zero]
  refine wpAnyH_ready (rs := [16]) (by kernel_rfl) (by simp) ?_
  refine AllReadyH.cons rfl (fun K hK => ?_) AllReadyH.nil
  go_simp
  go_at_call 61
  try rw [hwr]
  refine (A.out w2 HB2.out).mono ?_
  rintro e3 w3 ⟨rfl, h3⟩
  obtain ⟨-, -, d4, d5, d6, d7, -⟩ := h3.v.ins
  have H3 := hide h3
  clear h3 A
  go_wp2_with fail
  refine hK.out _ _ ⟨d4, d5, d6, d7⟩ (fun hHeld => ?_)
  clear hK K d4 d5 d6 d7
  try simp only [Act.put, List.getElem_toArray, List.getElem_cons_zero, List.getElem_cons_succ, List.setIfInBounds_toArray, List.set_cons_succ, List.set_cons_zero]
  refine wpAnyH_done (by kernel_rfl) ?_ _
  go_wp2_with fail
  go_end0
  exact ⟨rfl, H3.out.v, (KeepS.ofBelow HB2.out).trans H3.out.k⟩
set_option maxRecDepth 100000 in
set_option maxHeartbeats 1000000 in
theorem dSub_any (h : StV w b sb p s t x e) (hf : DFit s t x) :
    Calls Tryz.prog 64 #[ptrV sb] w fun r w' => r = .returned (.tuple #[]) ∧ StR w w' b sb p (s.setT t { s.th t with regs := (s.th t).regs.set x.r.toNat ((vlM (s.th t) x.aR x.aN - vlM (s.th t) x.bR x.bN) % 1000) }) t x e := by
  obtain ⟨-, -, c4, c5, c6, c7, -⟩ := h.ins
  have V := hide (fun w' (hb : Below w.heap.size w w') => value_any (h.below hb) hf.t4 hf.rl _ _ hf.a)
  have V2 := hide (fun w' (hb : Below w.heap.size w w') => value_any (h.below hb) hf.t4 hf.rl _ _ hf.b)
  have hva := hf.va
  have hvb := hf.vb
  have H := hide h
  have hd : Below w.heap.size w w.drew := ⟨rfl, rfl, rfl, Nat.le_refl _, fun _ _ => rfl⟩
  have A := hide (fun w' (hb : Below w.heap.size w w') => assign_any (h.below hb) hf.t4 hf.tl hf.rl hf.r (vlM (s.th t) x.aR x.aN - vlM (s.th t) x.bR x.bN) (by have := hva.1; have := hvb.1; have := hva.2; have := hvb.2; omega) (by have := hva.2; have := hvb.2; have := hva.1; have := hvb.1; omega))
  obtain ⟨v, hv⟩ : ∃ v, vlM (s.th t) x.aR x.aN = v := ⟨_, rfl⟩
  obtain ⟨u, hu⟩ : ∃ u, vlM (s.th t) x.bR x.bN = u := ⟨_, rfl⟩
  rw [hv] at hva
  rw [hu] at hvb
  simp only [hv, hu] at V V2 A ⊢
  obtain ⟨s', hs'⟩ : ∃ s' : MS, s.setT t { s.th t with regs := (s.th t).regs.set x.r.toNat ((v - u) % 1000) } = s' := ⟨_, rfl⟩
  simp only [hs'] at A ⊢
  clear hs'
  obtain ⟨hv0, hv1⟩ := hva
  obtain ⟨hu0, hu1⟩ := hvb
  have hwr0 : wrap64 (v - u) = v - u := by unfold wrap64; omega
  have hwr : IntKind.i64.wrap (v - u) = v - u := (IntWalk.i64_left _).trans hwr0
  clear hwr0
  clear h hf hv hu hv0 hv1 hu0 hu1
  unfold ptrV at *
  go_enter Tryz.func64, Tryz.ntmps64
  go_wp2_with fail
  refine wp_region_held_drew (S := (fun w' => w'.cell? ⟨sb, 4, none⟩ = some (.bool x.aR) ∧ w'.cell? ⟨sb, 5, none⟩ = some (.int .i64 x.aN) ∧ w'.cell? ⟨sb, 6, none⟩ = some (.bool x.bR) ∧ w'.cell? ⟨sb, 7, none⟩ = some (.int .i64 x.bN))) (by kernel_rfl) ⟨c4, c5, c6, c7⟩ (fun hHeld => ?_)
  refine wpAnyH_take (i := 0) (v := ?_) rfl (by kernel_rfl) (by kernel_rfl) (by kernel_rfl) (fun _ _ _ h => h) (Or.inl ⟨by rfl, ?_⟩) hHeld ?_
  rotate_left
  · intro w9 hSw; (try dsimp only at hSw); go_simp; try with_reducible rfl
  simp only [Act.put, List.getElem_toArray, List.getElem_cons_zero, List.getElem_cons_succ, List.setIfInBounds_toArray, List.set_cons_succ, List.set_cons_zero]
  refine wpAnyH_take (i := 1) (v := ?_) rfl (by kernel_rfl) (by kernel_rfl) (by kernel_rfl) (fun _ _ _ h => h) (Or.inl ⟨by rfl, ?_⟩) hHeld ?_
  rotate_left
  · intro w9 hSw; (try dsimp only at hSw); go_simp; try with_reducible rfl
  simp only [Act.put, List.getElem_toArray, List.getElem_cons_zero, List.getElem_cons_succ, List.setIfInBounds_toArray, List.set_cons_succ, List.set_cons_zero]
  refine wpAnyH_take (i := 2) (v := ?_) rfl (by kernel_rfl) (by kernel_rfl) (by kernel_rfl) (fun _ _ _ h => h) (Or.inl ⟨by rfl, ?_⟩) hHeld ?_
  rotate_left
  · intro w9 hSw; (try dsimp only at hSw); go_simp; try with_reducible rfl
  simp only [Act.put, List.getElem_toArray, List.getElem_cons_zero, List.getElem_cons_succ, List.setIfInBounds_toArray, List.set_cons_succ, List.set_cons_zero]
  refine wpAnyH_take (i := 3) (v := ?_) rfl (by kernel_rfl) (by kernel_rfl) (by kernel_rfl) (fun _ _ _ h => h) (Or.inl ⟨by rfl, ?_⟩) hHeld ?_
  rotate_left
  · intro w9 hSw; (try dsimp only at hSw); go_simp; try with_reducible rfl
  simp only [Act.put, List.getElem_toArray, List.getElem_cons_zero, List.getElem_cons_succ, List.setIfInBounds_toArray, List.set_cons_succ, List.set_cons_zero]
  refine wpAnyH_take (i := 4) (v := ?_) rfl (by kernel_rfl) (by kernel_rfl) (by kernel_rfl) (fun _ _ _ h => h) (Or.inl ⟨by rfl, ?_⟩) hHeld ?_
  rotate_left
  · intro w9 hSw; (try dsimp only at hSw); go_simp; try with_reducible rfl
  simp only [Act.put, List.getElem_toArray, List.getElem_cons_zero, List.getElem_cons_succ, List.setIfInBounds_toArray, List.set_cons_succ, List.set_cons_zero]
  refine wpAnyH_take (i := 5) (v := ?_) rfl (by kernel_rfl) (by kernel_rfl) (by kernel_rfl) (fun _ _ _ h => h) (Or.inl ⟨by rfl, ?_⟩) hHeld ?_
  rotate_left
  · intro w9 hSw; (try dsimp only at hSw); go_simp; try with_reducible rfl
  simp only [Act.put, List.getElem_toArray, List.getElem_cons_zero, List.getElem_cons_succ, List.setIfInBounds_toArray, List.set_cons_succ, List.set_cons_zero]
  refine wpAnyH_take (i := 6) (v := ?_) rfl (by kernel_rfl) (by kernel_rfl) (by kernel_rfl) (fun _ _ _ h => h) (Or.inl ⟨by rfl, ?_⟩) hHeld ?_
  rotate_left
  · intro w9 hSw; (try dsimp only at hSw); go_simp; try with_reducible rfl
  simp only [Act.put, List.getElem_toArray, List.getElem_cons_zero, List.getElem_cons_succ, List.setIfInBounds_toArray, List.set_cons_succ, List.set_cons_zero]
  refine wpAnyH_take (i := 8) (v := ?_) rfl (by kernel_rfl) (by kernel_rfl) (by kernel_rfl) (fun _ _ _ h => h) (Or.inl ⟨by rfl, ?_⟩) hHeld ?_
  rotate_left
  · intro w9 hSw; (try dsimp only at hSw); go_simp; try with_reducible rfl
  simp only [Act.put, List.getElem_toArray, List.getElem_cons_zero, List.getElem_cons_succ, List.setIfInBounds_toArray, List.set_cons_succ, List.set_cons_zero]
  refine wpAnyH_take (i := 9) (v := ?_) rfl (by kernel_rfl) (by kernel_rfl) (by kernel_rfl) (fun _ _ _ h => h) (Or.inl ⟨by rfl, ?_⟩) hHeld ?_
  rotate_left
  · intro w9 hSw; (try dsimp only at hSw); go_simp; try with_reducible rfl
  simp only [Act.put, List.getElem_toArray, List.getElem_cons_zero, List.getElem_cons_succ, List.setIfInBounds_toArray, List.set_cons_succ, List.set_cons_zero]
  refine wpAnyH_take (i := 10) (v := ?_) rfl (by kernel_rfl) (by kernel_rfl) (by kernel_rfl) (fun _ _ _ h => h) (Or.inl ⟨by rfl, ?_⟩) hHeld ?_
  rotate_left
  · intro w9 hSw; (try dsimp only at hSw); go_simp; try with_reducible rfl
  simp only [Act.put, List.getElem_toArray, List.getElem_cons_zero, List.getElem_cons_succ, List.setIfInBounds_toArray, List.set_cons_succ, List.set_cons_zero]
  refine wpAnyH_take (i := 11) (v := ?_) rfl (by kernel_rfl) (by kernel_rfl) (by kernel_rfl) (fun _ _ _ h => h) (Or.inl ⟨by rfl, ?_⟩) hHeld ?_
  rotate_left
  · intro w9 hSw; (try dsimp only at hSw); go_simp; try with_reducible rfl
  simp only [Act.put, List.getElem_toArray, List.getElem_cons_zero, List.getElem_cons_succ, List.setIfInBounds_toArray, List.set_cons_succ, List.set_cons_zero]
  refine wpAnyH_take (i := 12) (v := ?_) rfl (by kernel_rfl) (by kernel_rfl) (by kernel_rfl) (fun _ _ _ h => h) (Or.inl ⟨by rfl, ?_⟩) hHeld ?_
  rotate_left
  · intro w9 hSw; (try dsimp only at hSw); go_simp; try with_reducible rfl
  simp only [Act.put, List.getElem_toArray, List.getElem_cons_zero, List.getElem_cons_succ, List.setIfInBounds_toArray, List.set_cons_succ, List.set_cons_zero]
  refine wpAnyH_take (i := 13) (v := ?_) rfl (by kernel_rfl) (by kernel_rfl) (by kernel_rfl) (fun _ _ _ h => h) (Or.inl ⟨by rfl, ?_⟩) hHeld ?_
  rotate_left
  · intro w9 hSw; (try dsimp only at hSw); go_simp; try with_reducible rfl
  simp only [Act.put, List.getElem_toArray, List.getElem_cons_zero, List.getElem_cons_succ, List.setIfInBounds_toArray, List.set_cons_succ, List.set_cons_zero]
  refine wpAnyH_ready (rs := [7]) (by kernel_rfl) (by simp) ?_
  refine AllReadyH.cons rfl (fun K hK => ?_) AllReadyH.nil
  go_simp
  go_at_call 62
  refine (V.out _ hd).mono ?_
  rintro e1 w1 ⟨rfl, hb1⟩
  replace hb1 : Below w.heap.size w w1 := hd.trans hb1
  obtain ⟨-, -, d4, d5, d6, d7, -⟩ := (H.out.below hb1).ins
  have V3 := V2.out w1 hb1
  have HB1 := hide hb1
  clear hb1
  go_wp2_with fail
  refine hK.out _ _ ⟨d4, d5, d6, d7⟩ (fun hHeld => ?_)
  clear hK K d4 d5 d6 d7
  try simp only [Act.put, List.getElem_toArray, List.getElem_cons_zero, List.getElem_cons_succ, List.setIfInBounds_toArray, List.set_cons_succ, List.set_cons_zero]
  refine wpAnyH_ready (rs := [14]) (by kernel_rfl) (by simp) ?_
  refine AllReadyH.cons rfl (fun K hK => ?_) AllReadyH.nil
  go_simp
  go_at_call 62
  refine V3.mono ?_
  rintro e2 w2 ⟨rfl, hb2⟩
  replace hb2 : Below w.heap.size w w2 := HB1.out.trans (hb2.mono HB1.out.size)
  obtain ⟨-, -, d4, d5, d6, d7, -⟩ := (H.out.below hb2).ins
  have HB2 := hide hb2
  clear hb2 V3 HB1
  go_wp2_with fail
  refine hK.out _ _ ⟨d4, d5, d6, d7⟩ (fun hHeld => ?_)
  clear hK K
  try simp only [Act.put, List.getElem_toArray, List.getElem_cons_zero, List.getElem_cons_succ, List.setIfInBounds_toArray, List.set_cons_succ, List.set_cons_zero]
  refine wpAnyH_ready (rs := [15]) (by kernel_rfl) (by simp) ?_
  refine AllReadyH.cons rfl (fun K hK => ?_) AllReadyH.nil
  go_simp
  refine hK.out _ _ ⟨d4, d5, d6, d7⟩ (fun hHeld => ?_)
  clear hK K d4 d5 d6 d7
  try simp only [Act.put, List.getElem_toArray, List.getElem_cons_zero, List.getElem_cons_succ, List.setIfInBounds_toArray, List.set_cons_succ, List.set_cons_zero]
  refine wpAnyH_ready (rs := [16]) (by kernel_rfl) (by simp) ?_
  refine AllReadyH.cons rfl (fun K hK => ?_) AllReadyH.nil
  go_simp
  go_at_call 61
  try rw [hwr]
  refine (A.out w2 HB2.out).mono ?_
  rintro e3 w3 ⟨rfl, h3⟩
  obtain ⟨-, -, d4, d5, d6, d7, -⟩ := h3.v.ins
  have H3 := hide h3
  clear h3 A
  go_wp2_with fail
  refine hK.out _ _ ⟨d4, d5, d6, d7⟩ (fun hHeld => ?_)
  clear hK K d4 d5 d6 d7
  try simp only [Act.put, List.getElem_toArray, List.getElem_cons_zero, List.getElem_cons_succ, List.setIfInBounds_toArray, List.set_cons_succ, List.set_cons_zero]
  refine wpAnyH_done (by kernel_rfl) ?_ _
  go_wp2_with fail
  go_end0
  exact ⟨rfl, H3.out.v, (KeepS.ofBelow HB2.out).trans H3.out.k⟩
set_option maxRecDepth 100000 in
set_option maxHeartbeats 1000000 in
theorem dMul_any (h : StV w b sb p s t x e) (hf : DFit s t x) :
    Calls Tryz.prog 65 #[ptrV sb] w fun r w' => r = .returned (.tuple #[]) ∧ StR w w' b sb p (s.setT t { s.th t with regs := (s.th t).regs.set x.r.toNat ((vlM (s.th t) x.aR x.aN * vlM (s.th t) x.bR x.bN) % 1000) }) t x e := by
  obtain ⟨-, -, c4, c5, c6, c7, -⟩ := h.ins
  have V := hide (fun w' (hb : Below w.heap.size w w') => value_any (h.below hb) hf.t4 hf.rl _ _ hf.a)
  have V2 := hide (fun w' (hb : Below w.heap.size w w') => value_any (h.below hb) hf.t4 hf.rl _ _ hf.b)
  have hva := hf.va
  have hvb := hf.vb
  have H := hide h
  have hd : Below w.heap.size w w.drew := ⟨rfl, rfl, rfl, Nat.le_refl _, fun _ _ => rfl⟩
  have A := hide (fun w' (hb : Below w.heap.size w w') => assign_any (h.below hb) hf.t4 hf.tl hf.rl hf.r (vlM (s.th t) x.aR x.aN * vlM (s.th t) x.bR x.bN) (by have := Int.mul_nonneg hva.1 hvb.1; omega) (mul_bnd hva hvb))
  obtain ⟨v, hv⟩ : ∃ v, vlM (s.th t) x.aR x.aN = v := ⟨_, rfl⟩
  obtain ⟨u, hu⟩ : ∃ u, vlM (s.th t) x.bR x.bN = u := ⟨_, rfl⟩
  rw [hv] at hva
  rw [hu] at hvb
  simp only [hv, hu] at V V2 A ⊢
  obtain ⟨s', hs'⟩ : ∃ s' : MS, s.setT t { s.th t with regs := (s.th t).regs.set x.r.toNat ((v * u) % 1000) } = s' := ⟨_, rfl⟩
  simp only [hs'] at A ⊢
  clear hs'
  obtain ⟨hv0, hv1⟩ := hva
  obtain ⟨hu0, hu1⟩ := hvb
  have hwr0 : wrap64 (v * u) = v * u := by have := Int.mul_nonneg hv0 hu0; have := mul_bnd (a := v) (b := u) ⟨hv0, hv1⟩ ⟨hu0, hu1⟩; unfold wrap64; omega
  have hwr : IntKind.i64.wrap (v * u) = v * u := (IntWalk.i64_left _).trans hwr0
  clear hwr0
  clear h hf hv hu hv0 hv1 hu0 hu1
  unfold ptrV at *
  go_enter Tryz.func65, Tryz.ntmps65
  go_wp2_with fail
  refine wp_region_held_drew (S := (fun w' => w'.cell? ⟨sb, 4, none⟩ = some (.bool x.aR) ∧ w'.cell? ⟨sb, 5, none⟩ = some (.int .i64 x.aN) ∧ w'.cell? ⟨sb, 6, none⟩ = some (.bool x.bR) ∧ w'.cell? ⟨sb, 7, none⟩ = some (.int .i64 x.bN))) (by kernel_rfl) ⟨c4, c5, c6, c7⟩ (fun hHeld => ?_)
  refine wpAnyH_take (i := 0) (v := ?_) rfl (by kernel_rfl) (by kernel_rfl) (by kernel_rfl) (fun _ _ _ h => h) (Or.inl ⟨by rfl, ?_⟩) hHeld ?_
  rotate_left
  · intro w9 hSw; (try dsimp only at hSw); go_simp; try with_reducible rfl
  simp only [Act.put, List.getElem_toArray, List.getElem_cons_zero, List.getElem_cons_succ, List.setIfInBounds_toArray, List.set_cons_succ, List.set_cons_zero]
  refine wpAnyH_take (i := 1) (v := ?_) rfl (by kernel_rfl) (by kernel_rfl) (by kernel_rfl) (fun _ _ _ h => h) (Or.inl ⟨by rfl, ?_⟩) hHeld ?_
  rotate_left
  · intro w9 hSw; (try dsimp only at hSw); go_simp; try with_reducible rfl
  simp only [Act.put, List.getElem_toArray, List.getElem_cons_zero, List.getElem_cons_succ, List.setIfInBounds_toArray, List.set_cons_succ, List.set_cons_zero]
  refine wpAnyH_take (i := 2) (v := ?_) rfl (by kernel_rfl) (by kernel_rfl) (by kernel_rfl) (fun _ _ _ h => h) (Or.inl ⟨by rfl, ?_⟩) hHeld ?_
  rotate_left
  · intro w9 hSw; (try dsimp only at hSw); go_simp; try with_reducible rfl
  simp only [Act.put, List.getElem_toArray, List.getElem_cons_zero, List.getElem_cons_succ, List.setIfInBounds_toArray, List.set_cons_succ, List.set_cons_zero]
  refine wpAnyH_take (i := 3) (v := ?_) rfl (by kernel_rfl) (by kernel_rfl) (by kernel_rfl) (fun _ _ _ h => h) (Or.inl ⟨by rfl, ?_⟩) hHeld ?_
  rotate_left
  · intro w9 hSw; (try dsimp only at hSw); go_simp; try with_reducible rfl
  simp only [Act.put, List.getElem_toArray, List.getElem_cons_zero, List.getElem_cons_succ, List.setIfInBounds_toArray, List.set_cons_succ, List.set_cons_zero]
  refine wpAnyH_take (i := 4) (v := ?_) rfl (by kernel_rfl) (by kernel_rfl) (by kernel_rfl) (fun _ _ _ h => h) (Or.inl ⟨by rfl, ?_⟩) hHeld ?_
  rotate_left
  · intro w9 hSw; (try dsimp only at hSw); go_simp; try with_reducible rfl
  simp only [Act.put, List.getElem_toArray, List.getElem_cons_zero, List.getElem_cons_succ, List.setIfInBounds_toArray, List.set_cons_succ, List.set_cons_zero]
  refine wpAnyH_take (i := 5) (v := ?_) rfl (by kernel_rfl) (by kernel_rfl) (by kernel_rfl) (fun _ _ _ h => h) (Or.inl ⟨by rfl, ?_⟩) hHeld ?_
  rotate_left
  · intro w9 hSw; (try dsimp only at hSw); go_simp; try with_reducible rfl
  simp only [Act.put, List.getElem_toArray, List.getElem_cons_zero, List.getElem_cons_succ, List.setIfInBounds_toArray, List.set_cons_succ, List.set_cons_zero]
  refine wpAnyH_take (i := 6) (v := ?_) rfl (by kernel_rfl) (by kernel_rfl) (by kernel_rfl) (fun _ _ _ h => h) (Or.inl ⟨by rfl, ?_⟩) hHeld ?_
  rotate_left
  · intro w9 hSw; (try dsimp only at hSw); go_simp; try with_reducible rfl
  simp only [Act.put, List.getElem_toArray, List.getElem_cons_zero, List.getElem_cons_succ, List.setIfInBounds_toArray, List.set_cons_succ, List.set_cons_zero]
  refine wpAnyH_take (i := 8) (v := ?_) rfl (by kernel_rfl) (by kernel_rfl) (by kernel_rfl) (fun _ _ _ h => h) (Or.inl ⟨by rfl, ?_⟩) hHeld ?_
  rotate_left
  · intro w9 hSw; (try dsimp only at hSw); go_simp; try with_reducible rfl
  simp only [Act.put, List.getElem_toArray, List.getElem_cons_zero, List.getElem_cons_succ, List.setIfInBounds_toArray, List.set_cons_succ, List.set_cons_zero]
  refine wpAnyH_take (i := 9) (v := ?_) rfl (by kernel_rfl) (by kernel_rfl) (by kernel_rfl) (fun _ _ _ h => h) (Or.inl ⟨by rfl, ?_⟩) hHeld ?_
  rotate_left
  · intro w9 hSw; (try dsimp only at hSw); go_simp; try with_reducible rfl
  simp only [Act.put, List.getElem_toArray, List.getElem_cons_zero, List.getElem_cons_succ, List.setIfInBounds_toArray, List.set_cons_succ, List.set_cons_zero]
  refine wpAnyH_take (i := 10) (v := ?_) rfl (by kernel_rfl) (by kernel_rfl) (by kernel_rfl) (fun _ _ _ h => h) (Or.inl ⟨by rfl, ?_⟩) hHeld ?_
  rotate_left
  · intro w9 hSw; (try dsimp only at hSw); go_simp; try with_reducible rfl
  simp only [Act.put, List.getElem_toArray, List.getElem_cons_zero, List.getElem_cons_succ, List.setIfInBounds_toArray, List.set_cons_succ, List.set_cons_zero]
  refine wpAnyH_take (i := 11) (v := ?_) rfl (by kernel_rfl) (by kernel_rfl) (by kernel_rfl) (fun _ _ _ h => h) (Or.inl ⟨by rfl, ?_⟩) hHeld ?_
  rotate_left
  · intro w9 hSw; (try dsimp only at hSw); go_simp; try with_reducible rfl
  simp only [Act.put, List.getElem_toArray, List.getElem_cons_zero, List.getElem_cons_succ, List.setIfInBounds_toArray, List.set_cons_succ, List.set_cons_zero]
  refine wpAnyH_take (i := 12) (v := ?_) rfl (by kernel_rfl) (by kernel_rfl) (by kernel_rfl) (fun _ _ _ h => h) (Or.inl ⟨by rfl, ?_⟩) hHeld ?_
  rotate_left
  · intro w9 hSw; (try dsimp only at hSw); go_simp; try with_reducible rfl
  simp only [Act.put, List.getElem_toArray, List.getElem_cons_zero, List.getElem_cons_succ, List.setIfInBounds_toArray, List.set_cons_succ, List.set_cons_zero]
  refine wpAnyH_take (i := 13) (v := ?_) rfl (by kernel_rfl) (by kernel_rfl) (by kernel_rfl) (fun _ _ _ h => h) (Or.inl ⟨by rfl, ?_⟩) hHeld ?_
  rotate_left
  · intro w9 hSw; (try dsimp only at hSw); go_simp; try with_reducible rfl
  simp only [Act.put, List.getElem_toArray, List.getElem_cons_zero, List.getElem_cons_succ, List.setIfInBounds_toArray, List.set_cons_succ, List.set_cons_zero]
  refine wpAnyH_ready (rs := [7]) (by kernel_rfl) (by simp) ?_
  refine AllReadyH.cons rfl (fun K hK => ?_) AllReadyH.nil
  go_simp
  go_at_call 62
  refine (V.out _ hd).mono ?_
  rintro e1 w1 ⟨rfl, hb1⟩
  replace hb1 : Below w.heap.size w w1 := hd.trans hb1
  obtain ⟨-, -, d4, d5, d6, d7, -⟩ := (H.out.below hb1).ins
  have V3 := V2.out w1 hb1
  have HB1 := hide hb1
  clear hb1
  go_wp2_with fail
  refine hK.out _ _ ⟨d4, d5, d6, d7⟩ (fun hHeld => ?_)
  clear hK K d4 d5 d6 d7
  try simp only [Act.put, List.getElem_toArray, List.getElem_cons_zero, List.getElem_cons_succ, List.setIfInBounds_toArray, List.set_cons_succ, List.set_cons_zero]
  refine wpAnyH_ready (rs := [14]) (by kernel_rfl) (by simp) ?_
  refine AllReadyH.cons rfl (fun K hK => ?_) AllReadyH.nil
  go_simp
  go_at_call 62
  refine V3.mono ?_
  rintro e2 w2 ⟨rfl, hb2⟩
  replace hb2 : Below w.heap.size w w2 := HB1.out.trans (hb2.mono HB1.out.size)
  obtain ⟨-, -, d4, d5, d6, d7, -⟩ := (H.out.below hb2).ins
  have HB2 := hide hb2
  clear hb2 V3 HB1
  go_wp2_with fail
  refine hK.out _ _ ⟨d4, d5, d6, d7⟩ (fun hHeld => ?_)
  clear hK K
  try simp only [Act.put, List.getElem_toArray, List.getElem_cons_zero, List.getElem_cons_succ, List.setIfInBounds_toArray, List.set_cons_succ, List.set_cons_zero]
  refine wpAnyH_ready (rs := [15]) (by kernel_rfl) (by simp) ?_
  refine AllReadyH.cons rfl (fun K hK => ?_) AllReadyH.nil
  go_simp
  refine hK.out _ _ ⟨d4, d5, d6, d7⟩ (fun hHeld => ?_)
  clear hK K d4 d5 d6 d7
  try simp only [Act.put, List.getElem_toArray, List.getElem_cons_zero, List.getElem_cons_succ, List.setIfInBounds_toArray, List.set_cons_succ, List.set_cons_zero]
  refine wpAnyH_ready (rs := [16]) (by kernel_rfl) (by simp) ?_
  refine AllReadyH.cons rfl (fun K hK => ?_) AllReadyH.nil
  go_simp
  go_at_call 61
  try rw [hwr]
  refine (A.out w2 HB2.out).mono ?_
  rintro e3 w3 ⟨rfl, h3⟩
  obtain ⟨-, -, d4, d5, d6, d7, -⟩ := h3.v.ins
  have H3 := hide h3
  clear h3 A
  go_wp2_with fail
  refine hK.out _ _ ⟨d4, d5, d6, d7⟩ (fun hHeld => ?_)
  clear hK K d4 d5 d6 d7
  try simp only [Act.put, List.getElem_toArray, List.getElem_cons_zero, List.getElem_cons_succ, List.setIfInBounds_toArray, List.set_cons_succ, List.set_cons_zero]
  refine wpAnyH_done (by kernel_rfl) ?_ _
  go_wp2_with fail
  go_end0
  exact ⟨rfl, H3.out.v, (KeepS.ofBelow HB2.out).trans H3.out.k⟩
set_option maxRecDepth 100000 in
set_option maxHeartbeats 1000000 in
theorem dJeq_any (h : StV w b sb p s t x e) (hf : DFit s t x) :
    Calls Tryz.prog 79 #[ptrV sb] w fun r w' => r = .returned (.tuple #[]) ∧ StR w w' b sb p (if (vlM (s.th t) x.aR x.aN == vlM (s.th t) x.bR x.bN) = true then s.setT t { s.th t with pc := x.x.toNat } else s) t x e := by
  obtain ⟨-, -, c4, c5, c6, c7, -⟩ := h.ins
  have V := hide (fun w' (hb : Below w.heap.size w w') => value_any (h.below hb) hf.t4 hf.rl _ _ hf.a)
  have V2 := hide (fun w' (hb : Below w.heap.size w w') => value_any (h.below hb) hf.t4 hf.rl _ _ hf.b)
  have hva := hf.va
  have hvb := hf.vb
  have H := hide h
  have hd : Below w.heap.size w w.drew := ⟨rfl, rfl, rfl, Nat.le_refl _, fun _ _ => rfl⟩
  have A := hide (fun w' (hb : Below w.heap.size w w') => jumpIf_any (h.below hb) hf.t4 hf.tl hf.x0 (vlM (s.th t) x.aR x.aN == vlM (s.th t) x.bR x.bN))
  obtain ⟨v, hv⟩ : ∃ v, vlM (s.th t) x.aR x.aN = v := ⟨_, rfl⟩
  obtain ⟨u, hu⟩ : ∃ u, vlM (s.th t) x.bR x.bN = u := ⟨_, rfl⟩
  rw [hv] at hva
  rw [hu] at hvb
  simp only [hv, hu] at V V2 A ⊢
  obtain ⟨g, hg⟩ : ∃ g : Bool, (v == u) = g := ⟨_, rfl⟩
  simp only [hg] at A ⊢
  obtain ⟨s', hs'⟩ : ∃ s' : MS, (if g = true then s.setT t { s.th t with pc := x.x.toNat } else s) = s' := ⟨_, rfl⟩
  simp only [hs'] at A ⊢
  clear hs'
  obtain ⟨hv0, hv1⟩ := hva
  obtain ⟨hu0, hu1⟩ := hvb
  clear h hf hv hu hv0 hv1 hu0 hu1
  unfold ptrV at *
  go_enter Tryz.func79, Tryz.ntmps79
  go_wp2_with fail
  refine wp_region_held_drew (S := (fun w' => w'.cell? ⟨sb, 4, none⟩ = some (.bool x.aR) ∧ w'.cell? ⟨sb, 5, none⟩ = some (.int .i64 x.aN) ∧ w'.cell? ⟨sb, 6, none⟩ = some (.bool x.bR) ∧ w'.cell? ⟨sb, 7, none⟩ = some (.int .i64 x.bN))) (by kernel_rfl) ⟨c4, c5, c6, c7⟩ (fun hHeld => ?_)
  refine wpAnyH_take (i := 0) (v := ?_) rfl (by kernel_rfl) (by kernel_rfl) (by kernel_rfl) (fun _ _ _ h => h) (Or.inl ⟨by rfl, ?_⟩) hHeld ?_
  rotate_left
  · intro w9 hSw; (try dsimp only at hSw); go_simp; try with_reducible rfl
  simp only [Act.put, List.getElem_toArray, List.getElem_cons_zero, List.getElem_cons_succ, List.setIfInBounds_toArray, List.set_cons_succ, List.set_cons_zero]
  refine wpAnyH_take (i := 1) (v := ?_) rfl (by kernel_rfl) (by kernel_rfl) (by kernel_rfl) (fun _ _ _ h => h) (Or.inl ⟨by rfl, ?_⟩) hHeld ?_
  rotate_left
  · intro w9 hSw; (try dsimp only at hSw); go_simp; try with_reducible rfl
  simp only [Act.put, List.getElem_toArray, List.getElem_cons_zero, List.getElem_cons_succ, List.setIfInBounds_toArray, List.set_cons_succ, List.set_cons_zero]
  refine wpAnyH_take (i := 2) (v := ?_) rfl (by kernel_rfl) (by kernel_rfl) (by kernel_rfl) (fun _ _ _ h => h) (Or.inl ⟨by rfl, ?_⟩) hHeld ?_
  rotate_left
  · intro w9 hSw; (try dsimp only at hSw); go_simp; try with_reducible rfl
  simp only [Act.put, List.getElem_toArray, List.getElem_cons_zero, List.getElem_cons_succ, List.setIfInBounds_toArray, List.set_cons_succ, List.set_cons_zero]
  refine wpAnyH_take (i := 3) (v := ?_) rfl (by kernel_rfl) (by kernel_rfl) (by kernel_rfl) (fun _ _ _ h => h) (Or.inl ⟨by rfl, ?_⟩) hHeld ?_
  rotate_left
  · intro w9 hSw; (try dsimp only at hSw); go_simp; try with_reducible rfl
  simp only [Act.put, List.getElem_toArray, List.getElem_cons_zero, List.getElem_cons_succ, List.setIfInBounds_toArray, List.set_cons_succ, List.set_cons_zero]
  refine wpAnyH_take (i := 4) (v := ?_) rfl (by kernel_rfl) (by kernel_rfl) (by kernel_rfl) (fun _ _ _ h => h) (Or.inl ⟨by rfl, ?_⟩) hHeld ?_
  rotate_left
  · intro w9 hSw; (try dsimp only at hSw); go_simp; try with_reducible rfl
  simp only [Act.put, List.getElem_toArray, List.getElem_cons_zero, List.getElem_cons_succ, List.setIfInBounds_toArray, List.set_cons_succ, List.set_cons_zero]
  refine wpAnyH_take (i := 5) (v := ?_) rfl (by kernel_rfl) (by kernel_rfl) (by kernel_rfl) (fun _ _ _ h => h) (Or.inl ⟨by rfl, ?_⟩) hHeld ?_
  rotate_left
  · intro w9 hSw; (try dsimp only at hSw); go_simp; try with_reducible rfl
  simp only [Act.put, List.getElem_toArray, List.getElem_cons_zero, List.getElem_cons_succ, List.setIfInBounds_toArray, List.set_cons_succ, List.set_cons_zero]
  refine wpAnyH_take (i := 6) (v := ?_) rfl (by kernel_rfl) (by kernel_rfl) (by kernel_rfl) (fun _ _ _ h => h) (Or.inl ⟨by rfl, ?_⟩) hHeld ?_
  rotate_left
  · intro w9 hSw; (try dsimp only at hSw); go_simp; try with_reducible rfl
  simp only [Act.put, List.getElem_toArray, List.getElem_cons_zero, List.getElem_cons_succ, List.setIfInBounds_toArray, List.set_cons_succ, List.set_cons_zero]
  refine wpAnyH_take (i := 8) (v := ?_) rfl (by kernel_rfl) (by kernel_rfl) (by kernel_rfl) (fun _ _ _ h => h) (Or.inl ⟨by rfl, ?_⟩) hHeld ?_
  rotate_left
  · intro w9 hSw; (try dsimp only at hSw); go_simp; try with_reducible rfl
  simp only [Act.put, List.getElem_toArray, List.getElem_cons_zero, List.getElem_cons_succ, List.setIfInBounds_toArray, List.set_cons_succ, List.set_cons_zero]
  refine wpAnyH_take (i := 9) (v := ?_) rfl (by kernel_rfl) (by kernel_rfl) (by kernel_rfl) (fun _ _ _ h => h) (Or.inl ⟨by rfl, ?_⟩) hHeld ?_
  rotate_left
  · intro w9 hSw; (try dsimp only at hSw); go_simp; try with_reducible rfl
  simp only [Act.put, List.getElem_toArray, List.getElem_cons_zero, List.getElem_cons_succ, List.setIfInBounds_toArray, List.set_cons_succ, List.set_cons_zero]
  refine wpAnyH_take (i := 10) (v := ?_) rfl (by kernel_rfl) (by kernel_rfl) (by kernel_rfl) (fun _ _ _ h => h) (Or.inl ⟨by rfl, ?_⟩) hHeld ?_
  rotate_left
  · intro w9 hSw; (try dsimp only at hSw); go_simp; try with_reducible rfl
  simp only [Act.put, List.getElem_toArray, List.getElem_cons_zero, List.getElem_cons_succ, List.setIfInBounds_toArray, List.set_cons_succ, List.set_cons_zero]
  refine wpAnyH_take (i := 11) (v := ?_) rfl (by kernel_rfl) (by kernel_rfl) (by kernel_rfl) (fun _ _ _ h => h) (Or.inl ⟨by rfl, ?_⟩) hHeld ?_
  rotate_left
  · intro w9 hSw; (try dsimp only at hSw); go_simp; try with_reducible rfl
  simp only [Act.put, List.getElem_toArray, List.getElem_cons_zero, List.getElem_cons_succ, List.setIfInBounds_toArray, List.set_cons_succ, List.set_cons_zero]
  refine wpAnyH_take (i := 12) (v := ?_) rfl (by kernel_rfl) (by kernel_rfl) (by kernel_rfl) (fun _ _ _ h => h) (Or.inl ⟨by rfl, ?_⟩) hHeld ?_
  rotate_left
  · intro w9 hSw; (try dsimp only at hSw); go_simp; try with_reducible rfl
  simp only [Act.put, List.getElem_toArray, List.getElem_cons_zero, List.getElem_cons_succ, List.setIfInBounds_toArray, List.set_cons_succ, List.set_cons_zero]
  refine wpAnyH_take (i := 13) (v := ?_) rfl (by kernel_rfl) (by kernel_rfl) (by kernel_rfl) (fun _ _ _ h => h) (Or.inl ⟨by rfl, ?_⟩) hHeld ?_
  rotate_left
  · intro w9 hSw; (try dsimp only at hSw); go_simp; try with_reducible rfl
  simp only [Act.put, List.getElem_toArray, List.getElem_cons_zero, List.getElem_cons_succ, List.setIfInBounds_toArray, List.set_cons_succ, List.set_cons_zero]
  refine wpAnyH_ready (rs := [7]) (by kernel_rfl) (by simp) ?_
  refine AllReadyH.cons rfl (fun K hK => ?_) AllReadyH.nil
  go_simp
  go_at_call 62
  refine (V.out _ hd).mono ?_
  rintro e1 w1 ⟨rfl, hb1⟩
  replace hb1 : Below w.heap.size w w1 := hd.trans hb1
  obtain ⟨-, -, d4, d5, d6, d7, -⟩ := (H.out.below hb1).ins
  have V3 := V2.out w1 hb1
  have HB1 := hide hb1
  clear hb1
  go_wp2_with fail
  refine hK.out _ _ ⟨d4, d5, d6, d7⟩ (fun hHeld => ?_)
  clear hK K d4 d5 d6 d7
  try simp only [Act.put, List.getElem_toArray, List.getElem_cons_zero, List.getElem_cons_succ, List.setIfInBounds_toArray, List.set_cons_succ, List.set_cons_zero]
  refine wpAnyH_ready (rs := [14]) (by kernel_rfl) (by simp) ?_
  refine AllReadyH.cons rfl (fun K hK => ?_) AllReadyH.nil
  go_simp
  go_at_call 62
  refine V3.mono ?_
  rintro e2 w2 ⟨rfl, hb2⟩
  replace hb2 : Below w.heap.size w w2 := HB1.out.trans (hb2.mono HB1.out.size)
  obtain ⟨-, -, d4, d5, d6, d7, -⟩ := (H.out.below hb2).ins
  have HB2 := hide hb2
  clear hb2 V3 HB1
  go_wp2_with fail
  refine hK.out _ _ ⟨d4, d5, d6, d7⟩ (fun hHeld => ?_)
  clear hK K d4 d5 d6 d7
  try simp only [Act.put, List.getElem_toArray, List.getElem_cons_zero, List.getElem_cons_succ, List.setIfInBounds_toArray, List.set_cons_succ, List.set_cons_zero]
  refine wpAnyH_take (i := 15) (v := ?_) rfl (by kernel_rfl) (by kernel_rfl) (by kernel_rfl) (fun _ _ _ h => h) (Or.inl ⟨by rfl, ?_⟩) hHeld ?_
  rotate_left
  · intro w9 hSw; (try dsimp only at hSw); go_simp; try with_reducible rfl
  simp only [Act.put, List.getElem_toArray, List.getElem_cons_zero, List.getElem_cons_succ, List.setIfInBounds_toArray, List.set_cons_succ, List.set_cons_zero]
  refine wpAnyH_ready (rs := [16]) (by kernel_rfl) (by simp) ?_
  refine AllReadyH.cons rfl (fun K hK => ?_) AllReadyH.nil
  go_simp
  go_at_call 78
  refine (A.out w2 HB2.out).mono ?_
  rintro e3 w3 ⟨rfl, h3⟩
  obtain ⟨-, -, d4, d5, d6, d7, -⟩ := h3.v.ins
  have H3 := hide h3
  clear h3 A
  go_wp2_with fail
  refine hK.out _ _ ⟨d4, d5, d6, d7⟩ (fun hHeld => ?_)
  clear hK K d4 d5 d6 d7
  try simp only [Act.put, List.getElem_toArray, List.getElem_cons_zero, List.getElem_cons_succ, List.setIfInBounds_toArray, List.set_cons_succ, List.set_cons_zero]
  refine wpAnyH_done (by kernel_rfl) ?_ _
  go_wp2_with fail
  go_end0
  exact ⟨rfl, H3.out.v, (KeepS.ofBelow HB2.out).trans H3.out.k⟩
set_option maxRecDepth 100000 in
set_option maxHeartbeats 1000000 in
theorem dJlt_any (h : StV w b sb p s t x e) (hf : DFit s t x) :
    Calls Tryz.prog 80 #[ptrV sb] w fun r w' => r = .returned (.tuple #[]) ∧ StR w w' b sb p (if (decide (vlM (s.th t) x.aR x.aN < vlM (s.th t) x.bR x.bN)) = true then s.setT t { s.th t with pc := x.x.toNat } else s) t x e := by
  obtain ⟨-, -, c4, c5, c6, c7, -⟩ := h.ins
  have V := hide (fun w' (hb : Below w.heap.size w w') => value_any (h.below hb) hf.t4 hf.rl _ _ hf.a)
  have V2 := hide (fun w' (hb : Below w.heap.size w w') => value_any (h.below hb) hf.t4 hf.rl _ _ hf.b)
  have hva := hf.va
  have hvb := hf.vb
  have H := hide h
  have hd : Below w.heap.size w w.drew := ⟨rfl, rfl, rfl, Nat.le_refl _, fun _ _ => rfl⟩
  have A := hide (fun w' (hb : Below w.heap.size w w') => jumpIf_any (h.below hb) hf.t4 hf.tl hf.x0 (decide (vlM (s.th t) x.aR x.aN < vlM (s.th t) x.bR x.bN)))
  obtain ⟨v, hv⟩ : ∃ v, vlM (s.th t) x.aR x.aN = v := ⟨_, rfl⟩
  obtain ⟨u, hu⟩ : ∃ u, vlM (s.th t) x.bR x.bN = u := ⟨_, rfl⟩
  rw [hv] at hva
  rw [hu] at hvb
  simp only [hv, hu] at V V2 A ⊢
  obtain ⟨g, hg⟩ : ∃ g : Bool, decide (v < u) = g := ⟨_, rfl⟩
  simp only [hg] at A ⊢
  obtain ⟨s', hs'⟩ : ∃ s' : MS, (if g = true then s.setT t { s.th t with pc := x.x.toNat } else s) = s' := ⟨_, rfl⟩
  simp only [hs'] at A ⊢
  clear hs'
  obtain ⟨hv0, hv1⟩ := hva
  obtain ⟨hu0, hu1⟩ := hvb
  clear h hf hv hu hv0 hv1 hu0 hu1
  unfold ptrV at *
  go_enter Tryz.func80, Tryz.ntmps80
  go_wp2_with fail
  refine wp_region_held_drew (S := (fun w' => w'.cell? ⟨sb, 4, none⟩ = some (.bool x.aR) ∧ w'.cell? ⟨sb, 5, none⟩ = some (.int .i64 x.aN) ∧ w'.cell? ⟨sb, 6, none⟩ = some (.bool x.bR) ∧ w'.cell? ⟨sb, 7, none⟩ = some (.int .i64 x.bN))) (by kernel_rfl) ⟨c4, c5, c6, c7⟩ (fun hHeld => ?_)
  refine wpAnyH_take (i := 0) (v := ?_) rfl (by kernel_rfl) (by kernel_rfl) (by kernel_rfl) (fun _ _ _ h => h) (Or.inl ⟨by rfl, ?_⟩) hHeld ?_
  rotate_left
  · intro w9 hSw; (try dsimp only at hSw); go_simp; try with_reducible rfl
  simp only [Act.put, List.getElem_toArray, List.getElem_cons_zero, List.getElem_cons_succ, List.setIfInBounds_toArray, List.set_cons_succ, List.set_cons_zero]
  refine wpAnyH_take (i := 1) (v := ?_) rfl (by kernel_rfl) (by kernel_rfl) (by kernel_rfl) (fun _ _ _ h => h) (Or.inl ⟨by rfl, ?_⟩) hHeld ?_
  rotate_left
  · intro w9 hSw; (try dsimp only at hSw); go_simp; try with_reducible rfl
  simp only [Act.put, List.getElem_toArray, List.getElem_cons_zero, List.getElem_cons_succ, List.setIfInBounds_toArray, List.set_cons_succ, List.set_cons_zero]
  refine wpAnyH_take (i := 2) (v := ?_) rfl (by kernel_rfl) (by kernel_rfl) (by kernel_rfl) (fun _ _ _ h => h) (Or.inl ⟨by rfl, ?_⟩) hHeld ?_
  rotate_left
  · intro w9 hSw; (try dsimp only at hSw); go_simp; try with_reducible rfl
  simp only [Act.put, List.getElem_toArray, List.getElem_cons_zero, List.getElem_cons_succ, List.setIfInBounds_toArray, List.set_cons_succ, List.set_cons_zero]
  refine wpAnyH_take (i := 3) (v := ?_) rfl (by kernel_rfl) (by kernel_rfl) (by kernel_rfl) (fun _ _ _ h => h) (Or.inl ⟨by rfl, ?_⟩) hHeld ?_
  rotate_left
  · intro w9 hSw; (try dsimp only at hSw); go_simp; try with_reducible rfl
  simp only [Act.put, List.getElem_toArray, List.getElem_cons_zero, List.getElem_cons_succ, List.setIfInBounds_toArray, List.set_cons_succ, List.set_cons_zero]
  refine wpAnyH_take (i := 4) (v := ?_) rfl (by kernel_rfl) (by kernel_rfl) (by kernel_rfl) (fun _ _ _ h => h) (Or.inl ⟨by rfl, ?_⟩) hHeld ?_
  rotate_left
  · intro w9 hSw; (try dsimp only at hSw); go_simp; try with_reducible rfl
  simp only [Act.put, List.getElem_toArray, List.getElem_cons_zero, List.getElem_cons_succ, List.setIfInBounds_toArray, List.set_cons_succ, List.set_cons_zero]
  refine wpAnyH_take (i := 5) (v := ?_) rfl (by kernel_rfl) (by kernel_rfl) (by kernel_rfl) (fun _ _ _ h => h) (Or.inl ⟨by rfl, ?_⟩) hHeld ?_
  rotate_left
  · intro w9 hSw; (try dsimp only at hSw); go_simp; try with_reducible rfl
  simp only [Act.put, List.getElem_toArray, List.getElem_cons_zero, List.getElem_cons_succ, List.setIfInBounds_toArray, List.set_cons_succ, List.set_cons_zero]
  refine wpAnyH_take (i := 6) (v := ?_) rfl (by kernel_rfl) (by kernel_rfl) (by kernel_rfl) (fun _ _ _ h => h) (Or.inl ⟨by rfl, ?_⟩) hHeld ?_
  rotate_left
  · intro w9 hSw; (try dsimp only at hSw); go_simp; try with_reducible rfl
  simp only [Act.put, List.getElem_toArray, List.getElem_cons_zero, List.getElem_cons_succ, List.setIfInBounds_toArray, List.set_cons_succ, List.set_cons_zero]
  refine wpAnyH_take (i := 8) (v := ?_) rfl (by kernel_rfl) (by kernel_rfl) (by kernel_rfl) (fun _ _ _ h => h) (Or.inl ⟨by rfl, ?_⟩) hHeld ?_
  rotate_left
  · intro w9 hSw; (try dsimp only at hSw); go_simp; try with_reducible rfl
  simp only [Act.put, List.getElem_toArray, List.getElem_cons_zero, List.getElem_cons_succ, List.setIfInBounds_toArray, List.set_cons_succ, List.set_cons_zero]
  refine wpAnyH_take (i := 9) (v := ?_) rfl (by kernel_rfl) (by kernel_rfl) (by kernel_rfl) (fun _ _ _ h => h) (Or.inl ⟨by rfl, ?_⟩) hHeld ?_
  rotate_left
  · intro w9 hSw; (try dsimp only at hSw); go_simp; try with_reducible rfl
  simp only [Act.put, List.getElem_toArray, List.getElem_cons_zero, List.getElem_cons_succ, List.setIfInBounds_toArray, List.set_cons_succ, List.set_cons_zero]
  refine wpAnyH_take (i := 10) (v := ?_) rfl (by kernel_rfl) (by kernel_rfl) (by kernel_rfl) (fun _ _ _ h => h) (Or.inl ⟨by rfl, ?_⟩) hHeld ?_
  rotate_left
  · intro w9 hSw; (try dsimp only at hSw); go_simp; try with_reducible rfl
  simp only [Act.put, List.getElem_toArray, List.getElem_cons_zero, List.getElem_cons_succ, List.setIfInBounds_toArray, List.set_cons_succ, List.set_cons_zero]
  refine wpAnyH_take (i := 11) (v := ?_) rfl (by kernel_rfl) (by kernel_rfl) (by kernel_rfl) (fun _ _ _ h => h) (Or.inl ⟨by rfl, ?_⟩) hHeld ?_
  rotate_left
  · intro w9 hSw; (try dsimp only at hSw); go_simp; try with_reducible rfl
  simp only [Act.put, List.getElem_toArray, List.getElem_cons_zero, List.getElem_cons_succ, List.setIfInBounds_toArray, List.set_cons_succ, List.set_cons_zero]
  refine wpAnyH_take (i := 12) (v := ?_) rfl (by kernel_rfl) (by kernel_rfl) (by kernel_rfl) (fun _ _ _ h => h) (Or.inl ⟨by rfl, ?_⟩) hHeld ?_
  rotate_left
  · intro w9 hSw; (try dsimp only at hSw); go_simp; try with_reducible rfl
  simp only [Act.put, List.getElem_toArray, List.getElem_cons_zero, List.getElem_cons_succ, List.setIfInBounds_toArray, List.set_cons_succ, List.set_cons_zero]
  refine wpAnyH_take (i := 13) (v := ?_) rfl (by kernel_rfl) (by kernel_rfl) (by kernel_rfl) (fun _ _ _ h => h) (Or.inl ⟨by rfl, ?_⟩) hHeld ?_
  rotate_left
  · intro w9 hSw; (try dsimp only at hSw); go_simp; try with_reducible rfl
  simp only [Act.put, List.getElem_toArray, List.getElem_cons_zero, List.getElem_cons_succ, List.setIfInBounds_toArray, List.set_cons_succ, List.set_cons_zero]
  refine wpAnyH_ready (rs := [7]) (by kernel_rfl) (by simp) ?_
  refine AllReadyH.cons rfl (fun K hK => ?_) AllReadyH.nil
  go_simp
  go_at_call 62
  refine (V.out _ hd).mono ?_
  rintro e1 w1 ⟨rfl, hb1⟩
  replace hb1 : Below w.heap.size w w1 := hd.trans hb1
  obtain ⟨-, -, d4, d5, d6, d7, -⟩ := (H.out.below hb1).ins
  have V3 := V2.out w1 hb1
  have HB1 := hide hb1
  clear hb1
  go_wp2_with fail
  refine hK.out _ _ ⟨d4, d5, d6, d7⟩ (fun hHeld => ?_)
  clear hK K d4 d5 d6 d7
  try simp only [Act.put, List.getElem_toArray, List.getElem_cons_zero, List.getElem_cons_succ, List.setIfInBounds_toArray, List.set_cons_succ, List.set_cons_zero]
  refine wpAnyH_ready (rs := [14]) (by kernel_rfl) (by simp) ?_
  refine AllReadyH.cons rfl (fun K hK => ?_) AllReadyH.nil
  go_simp
  go_at_call 62
  refine V3.mono ?_
  rintro e2 w2 ⟨rfl, hb2⟩
  replace hb2 : Below w.heap.size w w2 := HB1.out.trans (hb2.mono HB1.out.size)
  obtain ⟨-, -, d4, d5, d6, d7, -⟩ := (H.out.below hb2).ins
  have HB2 := hide hb2
  clear hb2 V3 HB1
  go_wp2_with fail
  refine hK.out _ _ ⟨d4, d5, d6, d7⟩ (fun hHeld => ?_)
  clear hK K d4 d5 d6 d7
  try simp only [Act.put, List.getElem_toArray, List.getElem_cons_zero, List.getElem_cons_succ, List.setIfInBounds_toArray, List.set_cons_succ, List.set_cons_zero]
  refine wpAnyH_take (i := 15) (v := ?_) rfl (by kernel_rfl) (by kernel_rfl) (by kernel_rfl) (fun _ _ _ h => h) (Or.inl ⟨by rfl, ?_⟩) hHeld ?_
  rotate_left
  · intro w9 hSw; (try dsimp only at hSw); go_simp; try with_reducible rfl
  simp only [Act.put, List.getElem_toArray, List.getElem_cons_zero, List.getElem_cons_succ, List.setIfInBounds_toArray, List.set_cons_succ, List.set_cons_zero]
  refine wpAnyH_ready (rs := [16]) (by kernel_rfl) (by simp) ?_
  refine AllReadyH.cons rfl (fun K hK => ?_) AllReadyH.nil
  go_simp
  go_at_call 78
  refine (A.out w2 HB2.out).mono ?_
  rintro e3 w3 ⟨rfl, h3⟩
  obtain ⟨-, -, d4, d5, d6, d7, -⟩ := h3.v.ins
  have H3 := hide h3
  clear h3 A
  go_wp2_with fail
  refine hK.out _ _ ⟨d4, d5, d6, d7⟩ (fun hHeld => ?_)
  clear hK K d4 d5 d6 d7
  try simp only [Act.put, List.getElem_toArray, List.getElem_cons_zero, List.getElem_cons_succ, List.setIfInBounds_toArray, List.set_cons_succ, List.set_cons_zero]
  refine wpAnyH_done (by kernel_rfl) ?_ _
  go_wp2_with fail
  go_end0
  exact ⟨rfl, H3.out.v, (KeepS.ofBelow HB2.out).trans H3.out.k⟩
set_option maxRecDepth 100000 in
set_option maxHeartbeats 1000000 in
theorem check_any (h : StV w b sb p s t x e) (hf : DFit s t x) :
    Calls Tryz.prog 81 #[ptrV sb] w fun r w' => r = .returned (.tuple #[]) ∧ (if vlM (s.th t) x.aR x.aN ≠ vlM (s.th t) x.bR x.bN then StR w w' b sb p (s.setT t { s.th t with ph := 3 }) t x { e with k := 9 } else StR w w' b sb p s t x e) := by
  obtain ⟨-, -, c4, c5, c6, c7, -⟩ := h.ins
  have V := hide (fun w' (hb : Below w.heap.size w w') => value_any (h.below hb) hf.t4 hf.rl _ _ hf.a)
  have V2 := hide (fun w' (hb : Below w.heap.size w w') => value_any (h.below hb) hf.t4 hf.rl _ _ hf.b)
  have hva := hf.va
  have hvb := hf.vb
  have H := hide h
  have hd : Below w.heap.size w w.drew := ⟨rfl, rfl, rfl, Nat.le_refl _, fun _ _ => rfl⟩
  have A := hide (fun w' (hb : Below w.heap.size w w') => fail_any (h.below hb) hf.t4 hf.tl)
  obtain ⟨v, hv⟩ : ∃ v, vlM (s.th t) x.aR x.aN = v := ⟨_, rfl⟩
  obtain ⟨u, hu⟩ : ∃ u, vlM (s.th t) x.bR x.bN = u := ⟨_, rfl⟩
  rw [hv] at hva
  rw [hu] at hvb
  simp only [hv, hu] at V V2 ⊢
  obtain ⟨hv0, hv1⟩ := hva
  obtain ⟨hu0, hu1⟩ := hvb
  by_cases hq : v = u
  · have hite : (v ≠ u) = False := by simp [hq]
    simp only [hite, if_false]
    have hq' : (v != u) = false := by simp [hq]
    clear hite hq
    clear h hf hv hu hv0 hv1 hu0 hu1
    unfold ptrV at *
    go_enter Tryz.func81, Tryz.ntmps81
    go_wp2_with fail
    refine wp_region_held_drew (S := (fun w' => w'.cell? ⟨sb, 4, none⟩ = some (.bool x.aR) ∧ w'.cell? ⟨sb, 5, none⟩ = some (.int .i64 x.aN) ∧ w'.cell? ⟨sb, 6, none⟩ = some (.bool x.bR) ∧ w'.cell? ⟨sb, 7, none⟩ = some (.int .i64 x.bN))) (by kernel_rfl) ⟨c4, c5, c6, c7⟩ (fun hHeld => ?_)
    refine wpAnyH_take (i := 0) (v := ?_) rfl (by kernel_rfl) (by kernel_rfl) (by kernel_rfl) (fun _ _ _ h => h) (Or.inl ⟨by rfl, ?_⟩) hHeld ?_
    rotate_left
    · intro w9 hSw; (try dsimp only at hSw); go_simp; try with_reducible rfl
    simp only [Act.put, List.getElem_toArray, List.getElem_cons_zero, List.getElem_cons_succ, List.setIfInBounds_toArray, List.set_cons_succ, List.set_cons_zero]
    refine wpAnyH_take (i := 1) (v := ?_) rfl (by kernel_rfl) (by kernel_rfl) (by kernel_rfl) (fun _ _ _ h => h) (Or.inl ⟨by rfl, ?_⟩) hHeld ?_
    rotate_left
    · intro w9 hSw; (try dsimp only at hSw); go_simp; try with_reducible rfl
    simp only [Act.put, List.getElem_toArray, List.getElem_cons_zero, List.getElem_cons_succ, List.setIfInBounds_toArray, List.set_cons_succ, List.set_cons_zero]
    refine wpAnyH_take (i := 2) (v := ?_) rfl (by kernel_rfl) (by kernel_rfl) (by kernel_rfl) (fun _ _ _ h => h) (Or.inl ⟨by rfl, ?_⟩) hHeld ?_
    rotate_left
    · intro w9 hSw; (try dsimp only at hSw); go_simp; try with_reducible rfl
    simp only [Act.put, List.getElem_toArray, List.getElem_cons_zero, List.getElem_cons_succ, List.setIfInBounds_toArray, List.set_cons_succ, List.set_cons_zero]
    refine wpAnyH_take (i := 3) (v := ?_) rfl (by kernel_rfl) (by kernel_rfl) (by kernel_rfl) (fun _ _ _ h => h) (Or.inl ⟨by rfl, ?_⟩) hHeld ?_
    rotate_left
    · intro w9 hSw; (try dsimp only at hSw); go_simp; try with_reducible rfl
    simp only [Act.put, List.getElem_toArray, List.getElem_cons_zero, List.getElem_cons_succ, List.setIfInBounds_toArray, List.set_cons_succ, List.set_cons_zero]
    refine wpAnyH_take (i := 4) (v := ?_) rfl (by kernel_rfl) (by kernel_rfl) (by kernel_rfl) (fun _ _ _ h => h) (Or.inl ⟨by rfl, ?_⟩) hHeld ?_
    rotate_left
    · intro w9 hSw; (try dsimp only at hSw); go_simp; try with_reducible rfl
    simp only [Act.put, List.getElem_toArray, List.getElem_cons_zero, List.getElem_cons_succ, List.setIfInBounds_toArray, List.set_cons_succ, List.set_cons_zero]
    refine wpAnyH_take (i := 5) (v := ?_) rfl (by kernel_rfl) (by kernel_rfl) (by kernel_rfl) (fun _ _ _ h => h) (Or.inl ⟨by rfl, ?_⟩) hHeld ?_
    rotate_left
    · intro w9 hSw; (try dsimp only at hSw); go_simp; try with_reducible rfl
    simp only [Act.put, List.getElem_toArray, List.getElem_cons_zero, List.getElem_cons_succ, List.setIfInBounds_toArray, List.set_cons_succ, List.set_cons_zero]
    refine wpAnyH_take (i := 7) (v := ?_) rfl (by kernel_rfl) (by kernel_rfl) (by kernel_rfl) (fun _ _ _ h => h) (Or.inl ⟨by rfl, ?_⟩) hHeld ?_
    rotate_left
    · intro w9 hSw; (try dsimp only at hSw); go_simp; try with_reducible rfl
    simp only [Act.put, List.getElem_toArray, List.getElem_cons_zero, List.getElem_cons_succ, List.setIfInBounds_toArray, List.set_cons_succ, List.set_cons_zero]
    refine wpAnyH_take (i := 8) (v := ?_) rfl (by kernel_rfl) (by kernel_rfl) (by kernel_rfl) (fun _ _ _ h => h) (Or.inl ⟨by rfl, ?_⟩) hHeld ?_
    rotate_left
    · intro w9 hSw; (try dsimp only at hSw); go_simp; try with_reducible rfl
    simp only [Act.put, List.getElem_toArray, List.getElem_cons_zero, List.getElem_cons_succ, List.setIfInBounds_toArray, List.set_cons_succ, List.set_cons_zero]
    refine wpAnyH_take (i := 9) (v := ?_) rfl (by kernel_rfl) (by kernel_rfl) (by kernel_rfl) (fun _ _ _ h => h) (Or.inl ⟨by rfl, ?_⟩) hHeld ?_
    rotate_left
    · intro w9 hSw; (try dsimp only at hSw); go_simp; try with_reducible rfl
    simp only [Act.put, List.getElem_toArray, List.getElem_cons_zero, List.getElem_cons_succ, List.setIfInBounds_toArray, List.set_cons_succ, List.set_cons_zero]
    refine wpAnyH_take (i := 10) (v := ?_) rfl (by kernel_rfl) (by kernel_rfl) (by kernel_rfl) (fun _ _ _ h => h) (Or.inl ⟨by rfl, ?_⟩) hHeld ?_
    rotate_left
    · intro w9 hSw; (try dsimp only at hSw); go_simp; try with_reducible rfl
    simp only [Act.put, List.getElem_toArray, List.getElem_cons_zero, List.getElem_cons_succ, List.setIfInBounds_toArray, List.set_cons_succ, List.set_cons_zero]
    refine wpAnyH_take (i := 11) (v := ?_) rfl (by kernel_rfl) (by kernel_rfl) (by kernel_rfl) (fun _ _ _ h => h) (Or.inl ⟨by rfl, ?_⟩) hHeld ?_
    rotate_left
    · intro w9 hSw; (try dsimp only at hSw); go_simp; try with_reducible rfl
    simp only [Act.put, List.getElem_toArray, List.getElem_cons_zero, List.getElem_cons_succ, List.setIfInBounds_toArray, List.set_cons_succ, List.set_cons_zero]
    refine wpAnyH_take (i := 12) (v := ?_) rfl (by kernel_rfl) (by kernel_rfl) (by kernel_rfl) (fun _ _ _ h => h) (Or.inl ⟨by rfl, ?_⟩) hHeld ?_
    rotate_left
    · intro w9 hSw; (try dsimp only at hSw); go_simp; try with_reducible rfl
    simp only [Act.put, List.getElem_toArray, List.getElem_cons_zero, List.getElem_cons_succ, List.setIfInBounds_toArray, List.set_cons_succ, List.set_cons_zero]
    refine wpAnyH_ready (rs := [6]) (by kernel_rfl) (by simp) ?_
    refine AllReadyH.cons rfl (fun K hK => ?_) AllReadyH.nil
    go_simp
    go_at_call 62
    refine (V.out _ hd).mono ?_
    rintro e1 w1 ⟨rfl, hb1⟩
    replace hb1 : Below w.heap.size w w1 := hd.trans hb1
    obtain ⟨-, -, d4, d5, d6, d7, -⟩ := (H.out.below hb1).ins
    have V3 := V2.out w1 hb1
    have HB1 := hide hb1
    clear hb1
    go_wp2_with fail
    refine hK.out _ _ ⟨d4, d5, d6, d7⟩ (fun hHeld => ?_)
    clear hK K d4 d5 d6 d7
    try simp only [Act.put, List.getElem_toArray, List.getElem_cons_zero, List.getElem_cons_succ, List.setIfInBounds_toArray, List.set_cons_succ, List.set_cons_zero]
    refine wpAnyH_ready (rs := [13]) (by kernel_rfl) (by simp) ?_
    refine AllReadyH.cons rfl (fun K hK => ?_) AllReadyH.nil
    go_simp
    go_at_call 62
    refine V3.mono ?_
    rintro e2 w2 ⟨rfl, hb2⟩
    replace hb2 : Below w.heap.size w w2 := HB1.out.trans (hb2.mono HB1.out.size)
    obtain ⟨-, -, d4, d5, d6, d7, -⟩ := (H.out.below hb2).ins
    have HB2 := hide hb2
    clear hb2 V3 HB1
    go_wp2_with fail
    refine hK.out _ _ ⟨d4, d5, d6, d7⟩ (fun hHeld => ?_)
    clear hK K d4 d5 d6 d7
    try simp only [Act.put, List.getElem_toArray, List.getElem_cons_zero, List.getElem_cons_succ, List.setIfInBounds_toArray, List.set_cons_succ, List.set_cons_zero]
    refine wpAnyH_take (i := 14) (v := ?_) rfl (by kernel_rfl) (by kernel_rfl) (by kernel_rfl) (fun _ _ _ h => h) (Or.inl ⟨by rfl, ?_⟩) hHeld ?_
    rotate_left
    · intro w9 hSw; (try dsimp only at hSw); go_simp; try with_reducible rfl
    simp only [Act.put, List.getElem_toArray, List.getElem_cons_zero, List.getElem_cons_succ, List.setIfInBounds_toArray, List.set_cons_succ, List.set_cons_zero]
    refine wpAnyH_done (by kernel_rfl) ?_ _
    clear hHeld
    go_wp2_with fail
    go_end0
    exact ⟨rfl, H.out.below HB2.out, KeepS.ofBelow HB2.out⟩
  · have hite : (v ≠ u) = True := by simp [hq]
    simp only [hite, if_true]
    have hq' : (v != u) = true := by simp [hq]
    clear hite hq
    clear h hf hv hu hv0 hv1 hu0 hu1
    unfold ptrV at *
    go_enter Tryz.func81, Tryz.ntmps81
    go_wp2_with fail
    refine wp_region_held_drew (S := (fun w' => w'.cell? ⟨sb, 4, none⟩ = some (.bool x.aR) ∧ w'.cell? ⟨sb, 5, none⟩ = some (.int .i64 x.aN) ∧ w'.cell? ⟨sb, 6, none⟩ = some (.bool x.bR) ∧ w'.cell? ⟨sb, 7, none⟩ = some (.int .i64 x.bN))) (by kernel_rfl) ⟨c4, c5, c6, c7⟩ (fun hHeld => ?_)
    refine wpAnyH_take (i := 0) (v := ?_) rfl (by kernel_rfl) (by kernel_rfl) (by kernel_rfl) (fun _ _ _ h => h) (Or.inl ⟨by rfl, ?_⟩) hHeld ?_
    rotate_left
    · intro w9 hSw; (try dsimp only at hSw); go_simp; try with_reducible rfl
    simp only [Act.put, List.getElem_toArray, List.getElem_cons_zero, List.getElem_cons_succ, List.setIfInBounds_toArray, List.set_cons_succ, List.set_cons_zero]
    refine wpAnyH_take (i := 1) (v := ?_) rfl (by kernel_rfl) (by kernel_rfl) (by kernel_rfl) (fun _ _ _ h => h) (Or.inl ⟨by rfl, ?_⟩) hHeld ?_
    rotate_left
    · intro w9 hSw; (try dsimp only at hSw); go_simp; try with_reducible rfl
    simp only [Act.put, List.getElem_toArray, List.getElem_cons_zero, List.getElem_cons_succ, List.setIfInBounds_toArray, List.set_cons_succ, List.set_cons_zero]
    refine wpAnyH_take (i := 2) (v := ?_) rfl (by kernel_rfl) (by kernel_rfl) (by kernel_rfl) (fun _ _ _ h => h) (Or.inl ⟨by rfl, ?_⟩) hHeld ?_
    rotate_left
    · intro w9 hSw; (try dsimp only at hSw); go_simp; try with_reducible rfl
    simp only [Act.put, List.getElem_toArray, List.getElem_cons_zero, List.getElem_cons_succ, List.setIfInBounds_toArray, List.set_cons_succ, List.set_cons_zero]
    refine wpAnyH_take (i := 3) (v := ?_) rfl (by kernel_rfl) (by kernel_rfl) (by kernel_rfl) (fun _ _ _ h => h) (Or.inl ⟨by rfl, ?_⟩) hHeld ?_
    rotate_left
    · intro w9 hSw; (try dsimp only at hSw); go_simp; try with_reducible rfl
    simp only [Act.put, List.getElem_toArray, List.getElem_cons_zero, List.getElem_cons_succ, List.setIfInBounds_toArray, List.set_cons_succ, List.set_cons_zero]
    refine wpAnyH_take (i := 4) (v := ?_) rfl (by kernel_rfl) (by kernel_rfl) (by kernel_rfl) (fun _ _ _ h => h) (Or.inl ⟨by rfl, ?_⟩) hHeld ?_
    rotate_left
    · intro w9 hSw; (try dsimp only at hSw); go_simp; try with_reducible rfl
    simp only [Act.put, List.getElem_toArray, List.getElem_cons_zero, List.getElem_cons_succ, List.setIfInBounds_toArray, List.set_cons_succ, List.set_cons_zero]
    refine wpAnyH_take (i := 5) (v := ?_) rfl (by kernel_rfl) (by kernel_rfl) (by kernel_rfl) (fun _ _ _ h => h) (Or.inl ⟨by rfl, ?_⟩) hHeld ?_
    rotate_left
    · intro w9 hSw; (try dsimp only at hSw); go_simp; try with_reducible rfl
    simp only [Act.put, List.getElem_toArray, List.getElem_cons_zero, List.getElem_cons_succ, List.setIfInBounds_toArray, List.set_cons_succ, List.set_cons_zero]
    refine wpAnyH_take (i := 7) (v := ?_) rfl (by kernel_rfl) (by kernel_rfl) (by kernel_rfl) (fun _ _ _ h => h) (Or.inl ⟨by rfl, ?_⟩) hHeld ?_
    rotate_left
    · intro w9 hSw; (try dsimp only at hSw); go_simp; try with_reducible rfl
    simp only [Act.put, List.getElem_toArray, List.getElem_cons_zero, List.getElem_cons_succ, List.setIfInBounds_toArray, List.set_cons_succ, List.set_cons_zero]
    refine wpAnyH_take (i := 8) (v := ?_) rfl (by kernel_rfl) (by kernel_rfl) (by kernel_rfl) (fun _ _ _ h => h) (Or.inl ⟨by rfl, ?_⟩) hHeld ?_
    rotate_left
    · intro w9 hSw; (try dsimp only at hSw); go_simp; try with_reducible rfl
    simp only [Act.put, List.getElem_toArray, List.getElem_cons_zero, List.getElem_cons_succ, List.setIfInBounds_toArray, List.set_cons_succ, List.set_cons_zero]
    refine wpAnyH_take (i := 9) (v := ?_) rfl (by kernel_rfl) (by kernel_rfl) (by kernel_rfl) (fun _ _ _ h => h) (Or.inl ⟨by rfl, ?_⟩) hHeld ?_
    rotate_left
    · intro w9 hSw; (try dsimp only at hSw); go_simp; try with_reducible rfl
    simp only [Act.put, List.getElem_toArray, List.getElem_cons_zero, List.getElem_cons_succ, List.setIfInBounds_toArray, List.set_cons_succ, List.set_cons_zero]
    refine wpAnyH_take (i := 10) (v := ?_) rfl (by kernel_rfl) (by kernel_rfl) (by kernel_rfl) (fun _ _ _ h => h) (Or.inl ⟨by rfl, ?_⟩) hHeld ?_
    rotate_left
    · intro w9 hSw; (try dsimp only at hSw); go_simp; try with_reducible rfl
    simp only [Act.put, List.getElem_toArray, List.getElem_cons_zero, List.getElem_cons_succ, List.setIfInBounds_toArray, List.set_cons_succ, List.set_cons_zero]
    refine wpAnyH_take (i := 11) (v := ?_) rfl (by kernel_rfl) (by kernel_rfl) (by kernel_rfl) (fun _ _ _ h => h) (Or.inl ⟨by rfl, ?_⟩) hHeld ?_
    rotate_left
    · intro w9 hSw; (try dsimp only at hSw); go_simp; try with_reducible rfl
    simp only [Act.put, List.getElem_toArray, List.getElem_cons_zero, List.getElem_cons_succ, List.setIfInBounds_toArray, List.set_cons_succ, List.set_cons_zero]
    refine wpAnyH_take (i := 12) (v := ?_) rfl (by kernel_rfl) (by kernel_rfl) (by kernel_rfl) (fun _ _ _ h => h) (Or.inl ⟨by rfl, ?_⟩) hHeld ?_
    rotate_left
    · intro w9 hSw; (try dsimp only at hSw); go_simp; try with_reducible rfl
    simp only [Act.put, List.getElem_toArray, List.getElem_cons_zero, List.getElem_cons_succ, List.setIfInBounds_toArray, List.set_cons_succ, List.set_cons_zero]
    refine wpAnyH_ready (rs := [6]) (by kernel_rfl) (by simp) ?_
    refine AllReadyH.cons rfl (fun K hK => ?_) AllReadyH.nil
    go_simp
    go_at_call 62
    refine (V.out _ hd).mono ?_
    rintro e1 w1 ⟨rfl, hb1⟩
    replace hb1 : Below w.heap.size w w1 := hd.trans hb1
    obtain ⟨-, -, d4, d5, d6, d7, -⟩ := (H.out.below hb1).ins
    have V3 := V2.out w1 hb1
    have HB1 := hide hb1
    clear hb1
    go_wp2_with fail
    refine hK.out _ _ ⟨d4, d5, d6, d7⟩ (fun hHeld => ?_)
    clear hK K d4 d5 d6 d7
    try simp only [Act.put, List.getElem_toArray, List.getElem_cons_zero, List.getElem_cons_succ, List.setIfInBounds_toArray, List.set_cons_succ, List.set_cons_zero]
    refine wpAnyH_ready (rs := [13]) (by kernel_rfl) (by simp) ?_
    refine AllReadyH.cons rfl (fun K hK => ?_) AllReadyH.nil
    go_simp
    go_at_call 62
    refine V3.mono ?_
    rintro e2 w2 ⟨rfl, hb2⟩
    replace hb2 : Below w.heap.size w w2 := HB1.out.trans (hb2.mono HB1.out.size)
    obtain ⟨-, -, d4, d5, d6, d7, -⟩ := (H.out.below hb2).ins
    have HB2 := hide hb2
    clear hb2 V3 HB1
    go_wp2_with fail
    refine hK.out _ _ ⟨d4, d5, d6, d7⟩ (fun hHeld => ?_)
    clear hK K d4 d5 d6 d7
    try simp only [Act.put, List.getElem_toArray, List.getElem_cons_zero, List.getElem_cons_succ, List.setIfInBounds_toArray, List.set_cons_succ, List.set_cons_zero]
    refine wpAnyH_take (i := 14) (v := ?_) rfl (by kernel_rfl) (by kernel_rfl) (by kernel_rfl) (fun _ _ _ h => h) (Or.inl ⟨by rfl, ?_⟩) hHeld ?_
    rotate_left
    · intro w9 hSw; (try dsimp only at hSw); go_simp; try with_reducible rfl
    simp only [Act.put, List.getElem_toArray, List.getElem_cons_zero, List.getElem_cons_succ, List.setIfInBounds_toArray, List.set_cons_succ, List.set_cons_zero]
    refine wpAnyH_done (by kernel_rfl) ?_ _
    clear hHeld
    have F := A.out w2 HB2.out
    clear A
    go_wp2_with fail
    refine F.mono ?_
    rintro e3 w3 ⟨rfl, h3⟩
    have H3 := hide h3
    clear h3 F
    go_wp2_with fail
    go_end0
    exact ⟨rfl, H3.out.v, (KeepS.ofBelow HB2.out).trans H3.out.k⟩
end
end Go.Proofs.YtlpdomgedaockaaGreatDoor
/-
  The deeds themselves (2): those of one call.
-/
namespace Go.Proofs.YtlpdomgedaockaaGreatDoor
open Go.RowKit Go.Proofs.Cod

section
variable {w w' : World} {b sb : Nat} {p : PD} {s : MS} {t : Nat} {x : In7} {e : Ev}
set_option maxRecDepth 100000 in
theorem dLoad_any (h : StV w b sb p s t x e) (ht : t < 4) (htl : t < s.thr.length) (hrl : (s.th t).regs.length = 4) (hr : 0 ≤ x.r ∧ x.r < 4) (hx : 0 ≤ x.x ∧ x.x < 4) :
    Calls Tryz.prog 66 #[ptrV sb] w fun r w' => r = .returned (.tuple #[]) ∧ StR w w' b sb p (s.setT t { s.th t with regs := (s.th t).regs.set x.r.toNat (s.vars.getD x.x.toNat 0) }) t x { e with k := 1, o := x.x, v := s.vars.getD x.x.toNat 0 } := by
  obtain ⟨c0, -⟩ := h.ptrs
  have A : Calls Tryz.prog 67 #[ptrV sb, .int .i64 1, .pointer (some ⟨b, 0, none⟩)] w fun r w' => r = .returned (.tuple #[]) ∧ StR w w' b sb p (s.setT t { s.th t with regs := (s.th t).regs.set x.r.toNat (s.vars.getD x.x.toNat 0) }) t x { e with k := 1, o := x.x, v := s.vars.getD x.x.toNat 0 } := fetch_any h ht htl hrl hr hx 1 (o := 0) (.inl rfl)
  obtain ⟨s', hs'⟩ : ∃ s' : MS, (s.setT t { s.th t with regs := (s.th t).regs.set x.r.toNat (s.vars.getD x.x.toNat 0) }) = s' := ⟨_, rfl⟩
  obtain ⟨e', he'⟩ : ∃ e' : Ev, ({ e with k := 1, o := x.x, v := s.vars.getD x.x.toNat 0 } : Ev) = e' := ⟨_, rfl⟩
  simp only [hs', he'] at A ⊢
  clear h hs' he'
  unfold ptrV at *
  go_enter Tryz.func66, Tryz.ntmps66
  go_wp2_with fail
  refine A.mono ?_
  rintro e1 w1 ⟨rfl, h1⟩
  have H1 := hide h1
  clear A h1
  go_wp2_with fail
  go_end0
  exact ⟨rfl, H1.out⟩
set_option maxRecDepth 100000 in
theorem dStore_any (h : StV w b sb p s t x e) (ht : t < 4) (hrl : (s.th t).regs.length = 4) (ha : argB4 x.aR x.aN) (hx : 0 ≤ x.x ∧ x.x < 4) (hl : x.x.toNat < s.vars.length) :
    Calls Tryz.prog 68 #[ptrV sb] w fun r w' => r = .returned (.tuple #[]) ∧ StR w w' b sb p { s with vars := s.vars.set x.x.toNat (vlM (s.th t) x.aR x.aN) } t x { e with k := 2, o := x.x, v := vlM (s.th t) x.aR x.aN } := by
  obtain ⟨c0, -⟩ := h.ptrs
  have A : Calls Tryz.prog 69 #[ptrV sb, .int .i64 2, .pointer (some ⟨b, 0, none⟩)] w fun r w' => r = .returned (.tuple #[]) ∧ StR w w' b sb p { s with vars := s.vars.set x.x.toNat (vlM (s.th t) x.aR x.aN) } t x { e with k := 2, o := x.x, v := vlM (s.th t) x.aR x.aN } := keep_any h ht hrl ha hx 2 (o := 0) (.inl rfl) hl
  obtain ⟨s', hs'⟩ : ∃ s' : MS, { s with vars := s.vars.set x.x.toNat (vlM (s.th t) x.aR x.aN) } = s' := ⟨_, rfl⟩
  obtain ⟨e', he'⟩ : ∃ e' : Ev, ({ e with k := 2, o := x.x, v := vlM (s.th t) x.aR x.aN } : Ev) = e' := ⟨_, rfl⟩
  simp only [hs', he'] at A ⊢
  clear h hs' he'
  unfold ptrV at *
  go_enter Tryz.func68, Tryz.ntmps68
  go_wp2_with fail
  refine A.mono ?_
  rintro e1 w1 ⟨rfl, h1⟩
  have H1 := hide h1
  clear A h1
  go_wp2_with fail
  go_end0
  exact ⟨rfl, H1.out⟩
set_option maxRecDepth 100000 in
theorem dGet_any (h : StV w b sb p s t x e) (ht : t < 4) (htl : t < s.thr.length) (hrl : (s.th t).regs.length = 4) (hr : 0 ≤ x.r ∧ x.r < 4) (hx : 0 ≤ x.x ∧ x.x < 4) :
    Calls Tryz.prog 70 #[ptrV sb] w fun r w' => r = .returned (.tuple #[]) ∧ StR w w' b sb p (s.setT t { s.th t with regs := (s.th t).regs.set x.r.toNat (s.flags.getD x.x.toNat 0) }) t x { e with k := 3, o := x.x, v := s.flags.getD x.x.toNat 0 } := by
  obtain ⟨c0, -⟩ := h.ptrs
  have A : Calls Tryz.prog 67 #[ptrV sb, .int .i64 3, .pointer (some ⟨b, 9, none⟩)] w fun r w' => r = .returned (.tuple #[]) ∧ StR w w' b sb p (s.setT t { s.th t with regs := (s.th t).regs.set x.r.toNat (s.flags.getD x.x.toNat 0) }) t x { e with k := 3, o := x.x, v := s.flags.getD x.x.toNat 0 } := fetch_any h ht htl hrl hr hx 3 (o := 9) (.inr rfl)
  obtain ⟨s', hs'⟩ : ∃ s' : MS, (s.setT t { s.th t with regs := (s.th t).regs.set x.r.toNat (s.flags.getD x.x.toNat 0) }) = s' := ⟨_, rfl⟩
  obtain ⟨e', he'⟩ : ∃ e' : Ev, ({ e with k := 3, o := x.x, v := s.flags.getD x.x.toNat 0 } : Ev) = e' := ⟨_, rfl⟩
  simp only [hs', he'] at A ⊢
  clear h hs' he'
  unfold ptrV at *
  go_enter Tryz.func70, Tryz.ntmps70
  go_wp2_with fail
  refine A.mono ?_
  rintro e1 w1 ⟨rfl, h1⟩
  have H1 := hide h1
  clear A h1
  go_wp2_with fail
  go_end0
  exact ⟨rfl, H1.out⟩
set_option maxRecDepth 100000 in
theorem dPut_any (h : StV w b sb p s t x e) (ht : t < 4) (hrl : (s.th t).regs.length = 4) (ha : argB4 x.aR x.aN) (hx : 0 ≤ x.x ∧ x.x < 4) (hl : x.x.toNat < s.flags.length) :
    Calls Tryz.prog 71 #[ptrV sb] w fun r w' => r = .returned (.tuple #[]) ∧ StR w w' b sb p { s with flags := s.flags.set x.x.toNat (vlM (s.th t) x.aR x.aN) } t x { e with k := 4, o := x.x, v := vlM (s.th t) x.aR x.aN } := by
  obtain ⟨c0, -⟩ := h.ptrs
  have A : Calls Tryz.prog 69 #[ptrV sb, .int .i64 4, .pointer (some ⟨b, 9, none⟩)] w fun r w' => r = .returned (.tuple #[]) ∧ StR w w' b sb p { s with flags := s.flags.set x.x.toNat (vlM (s.th t) x.aR x.aN) } t x { e with k := 4, o := x.x, v := vlM (s.th t) x.aR x.aN } := keep_any h ht hrl ha hx 4 (o := 9) (.inr rfl) hl
  obtain ⟨s', hs'⟩ : ∃ s' : MS, { s with flags := s.flags.set x.x.toNat (vlM (s.th t) x.aR x.aN) } = s' := ⟨_, rfl⟩
  obtain ⟨e', he'⟩ : ∃ e' : Ev, ({ e with k := 4, o := x.x, v := vlM (s.th t) x.aR x.aN } : Ev) = e' := ⟨_, rfl⟩
  simp only [hs', he'] at A ⊢
  clear h hs' he'
  unfold ptrV at *
  go_enter Tryz.func71, Tryz.ntmps71
  go_wp2_with fail
  refine A.mono ?_
  rintro e1 w1 ⟨rfl, h1⟩
  have H1 := hide h1
  clear A h1
  go_wp2_with fail
  go_end0
  exact ⟨rfl, H1.out⟩
set_option maxRecDepth 100000 in
theorem dJoin_any (h : StV w b sb p s t x e) :
    Calls Tryz.prog 75 #[ptrV sb] w fun r w' => r = .returned (.tuple #[]) ∧ StR w w' b sb p s t x { e with k := 8, o := x.x } := by
  have A := tell_any h 8
  clear h
  unfold ptrV at *
  go_enter Tryz.func75, Tryz.ntmps75
  go_wp2_with fail
  refine A.mono ?_
  rintro e1 w1 ⟨rfl, h1⟩
  have H1 := hide h1
  clear A h1
  go_wp2_with fail
  go_end0
  exact ⟨rfl, H1.out⟩
set_option maxRecDepth 100000 in
theorem dJump_any (h : StV w b sb p s t x e) (ht : t < 4) (htl : t < s.thr.length) (hx : 0 ≤ x.x) :
    Calls Tryz.prog 77 #[ptrV sb] w fun r w' => r = .returned (.tuple #[]) ∧ StR w w' b sb p (s.setT t { s.th t with pc := x.x.toNat }) t x e := by
  have A := jumpIf_any h ht htl hx true
  clear h
  unfold ptrV at *
  go_enter Tryz.func77, Tryz.ntmps77
  go_wp2_with fail
  refine A.mono ?_
  rintro e1 w1 ⟨rfl, h1⟩
  have H1 := hide h1
  clear A h1
  go_wp2_with fail
  go_end0
  exact ⟨rfl, H1.out⟩
end
end Go.Proofs.YtlpdomgedaockaaGreatDoor
