import Derived.Test.YtcfpedjfofpnkaaGreatDoorRv5
import Derived.Test.YtcfpedjfofpnkaaGreatDoorRv24
import Derived.BigQuiet
import Derived.Test.YtcfpedjfofpnkaaGreatDoorRv21
set_option linter.unusedVariables false
set_option linter.unusedSimpArgs false
namespace Go.Proofs.YtcfpedjfofpnkaaGreatDoor
open Go.RowKit Go.Proofs.Cod
section
variable {w w' : World} {b sb : Nat} {p : PD} {s : MS} {t : Nat} {x : In7} {e : Ev}
structure DFit (s : MS) (t : Nat) (x : In7) : Prop where
 t4 : t < 4
 tl : t < s.thr.length
 rl : (s.th t).regs.length = 4
 rv : ∀ v, v ∈ (s.th t).regs → val3 v
 r : 0 ≤ x.r ∧ x.r < 4
 a : argB4 x.aR x.aN
 b : argB4 x.bR x.bN
 x0 : 0 ≤ x.x
theorem DFit.va (h : DFit s t x) : val3 (vlM (s.th t) x.aR x.aN) := by
 unfold vlM
 split
 ·rename_i q
  have := h.a.2.2 q
  have h0 := h.a.1
  exact h.rv _ (getD_mem (by rw [h.rl]; omega))
 ·exact ⟨h.a.1, h.a.2.1⟩
theorem DFit.vb (h : DFit s t x) : val3 (vlM (s.th t) x.bR x.bN) := by
 unfold vlM
 split
 ·rename_i q
  have := h.b.2.2 q
  have h0 := h.b.1
  exact h.rv _ (getD_mem (by rw [h.rl]; omega))
 ·exact ⟨h.b.1, h.b.2.1⟩
theorem mul_bnd {a b : Int} (ha : val3 a) (hb : val3 b) : a * b < 2000000 := by
 have h1 : a * b ≤ 999 * b := Int.mul_le_mul_of_nonneg_right (by have := ha.2; omega) hb.1
 have := hb.2
 omega
set_option maxRecDepth 100000 in
set_option maxHeartbeats 1000000 in
theorem dSet_any (h : StV w b sb p s t x e) (hf : DFit s t x) :
 Calls Tryz.prog 49 #[ptrV sb] w fun r w' => r = .returned (.tuple #[]) ∧ StR w w' b sb p (s.setT t { s.th t with regs := (s.th t).regs.set x.r.toNat (vlM (s.th t) x.aR x.aN % 1000) }) t x e := by
 obtain ⟨-, -, c4, c5, -, -, -⟩ := h.ins
 have V := value_any h hf.t4 hf.rl _ _ hf.a
 have A : ∀ w', Below w.heap.size w w' → _ := fun w' hb => assign_any (h.below hb) hf.t4 hf.tl hf.rl hf.r (vlM (s.th t) x.aR x.aN) (by have := hf.va.1; omega) (by have := hf.va.2; omega)
 replace A := hide A
 obtain ⟨v, hv⟩ : ∃ v, vlM (s.th t) x.aR x.aN = v := ⟨_, rfl⟩
 rw [hv] at V A ⊢
 clear h hf hv
 unfold ptrV at *
 go_enter Tryz.func49, Tryz.ntmps49
 go_wp2_with fail
 refine V.mono ?_
 rintro e1 w1 ⟨rfl, hb⟩
 have A1 := A.out w1 hb
 have HB := hide hb
 clear A V hb
 go_wp2_with fail
 refine A1.mono ?_
 rintro e2 w2 ⟨rfl, h2⟩
 have H2 := hide h2
 clear h2 A1
 go_wp2_with fail
 go_end0
 exact ⟨rfl, H2.out.v, (KeepS.ofBelow HB.out).trans H2.out.k⟩
set_option maxRecDepth 100000 in
set_option maxHeartbeats 1000000 in
theorem dAdd_any (h : StV w b sb p s t x e) (hf : DFit s t x) :
 Calls Tryz.prog 52 #[ptrV sb] w fun r w' => r = .returned (.tuple #[]) ∧ StR w w' b sb p (s.setT t { s.th t with regs := (s.th t).regs.set x.r.toNat ((vlM (s.th t) x.aR x.aN + vlM (s.th t) x.bR x.bN) % 1000) }) t x e := by
 obtain ⟨-, -, c4, c5, c6, c7, -⟩ := h.ins
 have V := hide (fun w' (hb : Below w.heap.size w w') => value_any (h.below hb) hf.t4 hf.rl _ _ hf.a)
 have V2 := hide (fun w' (hb : Below w.heap.size w w') => value_any (h.below hb) hf.t4 hf.rl _ _ hf.b)
 have hva := hf.va
 have hvb := hf.vb
 have H := hide h
 have hd : Below w.heap.size w w.drew := ⟨rfl, rfl, rfl, Nat.le_refl _, fun _ _ => rfl⟩
 have A := hide (fun w' (hb : Below w.heap.size w w') => assign_any (h.below hb) hf.t4 hf.tl hf.rl hf.r (vlM (s.th t) x.aR x.aN + vlM (s.th t) x.bR x.bN) (by have := hva.1; have := hvb.1; have := hva.2; have := hvb.2; omega) (by have := hva.2; have := hvb.2; have := hva.1; have := hvb.1; omega))
 obtain ⟨v, hv⟩ : ∃ v, vlM (s.th t) x.aR x.aN = v := ⟨_, rfl⟩
 obtain ⟨u, hu⟩ : ∃ u, vlM (s.th t) x.bR x.bN = u := ⟨_, rfl⟩
 rw [hv] at hva
 rw [hu] at hvb
 simp only [hv, hu] at V V2 A ⊢
 obtain ⟨s', hs'⟩ : ∃ s' : MS, s.setT t { s.th t with regs := (s.th t).regs.set x.r.toNat ((v + u) % 1000) } = s' := ⟨_, rfl⟩
 simp only [hs'] at A ⊢
 clear hs'
 obtain ⟨hv0, hv1⟩ := hva
 obtain ⟨hu0, hu1⟩ := hvb
 have hwr0 : wrap64 (v + u) = v + u := by unfold wrap64; omega
 have hwr : IntKind.i64.wrap (v + u) = v + u := (IntWalk.i64_left _).trans hwr0
 clear hwr0
 clear h hf hv hu hv0 hv1 hu0 hu1
 unfold ptrV at *
 go_enter Tryz.func52, Tryz.ntmps52
 go_wp2_with fail
 refine wp_region_held_drew (S := (fun w' => w'.cell? ⟨sb, 4, none⟩ = some (.bool x.aR) ∧ w'.cell? ⟨sb, 5, none⟩ = some (.int .i64 x.aN) ∧ w'.cell? ⟨sb, 6, none⟩ = some (.bool x.bR) ∧ w'.cell? ⟨sb, 7, none⟩ = some (.int .i64 x.bN))) (by kernel_rfl) ⟨c4, c5, c6, c7⟩ (fun hHeld => ?_)
 refine tk 0 hHeld ?_
 refine tk 1 hHeld ?_
 refine tk 2 hHeld ?_
 refine tk 3 hHeld ?_
 refine tk 4 hHeld ?_
 refine tk 5 hHeld ?_
 refine tk 6 hHeld ?_
 refine tk 8 hHeld ?_
 refine tk 9 hHeld ?_
 refine tk 10 hHeld ?_
 refine tk 11 hHeld ?_
 refine tk 12 hHeld ?_
 refine tk 13 hHeld ?_
 refine rd 7 (fun K hK => ?_)
 go_simp
 go_at_call 51
 refine (V.out _ hd).mono ?_
 rintro e1 w1 ⟨rfl, hb1⟩
 replace hb1 : Below w.heap.size w w1 := hd.trans hb1
 obtain ⟨-, -, d4, d5, d6, d7, -⟩ := (H.out.below hb1).ins
 have V3 := V2.out w1 hb1
 have HB1 := hide hb1
 clear hb1
 go_wp2_with fail
 refine hK.out _ _ ⟨d4, d5, d6, d7⟩ (fun hHeld => ?_)
 clear hK K d4 d5 d6 d7
 try simp only [Act.put, sq]
 refine rd 14 (fun K hK => ?_)
 go_simp
 go_at_call 51
 refine V3.mono ?_
 rintro e2 w2 ⟨rfl, hb2⟩
 replace hb2 : Below w.heap.size w w2 := HB1.out.trans (hb2.mono HB1.out.size)
 obtain ⟨-, -, d4, d5, d6, d7, -⟩ := (H.out.below hb2).ins
 have HB2 := hide hb2
 clear hb2 V3 HB1
 go_wp2_with fail
 refine hK.out _ _ ⟨d4, d5, d6, d7⟩ (fun hHeld => ?_)
 clear hK K
 try simp only [Act.put, sq]
 refine rd 15 (fun K hK => ?_)
 go_simp
 refine hK.out _ _ ⟨d4, d5, d6, d7⟩ (fun hHeld => ?_)
 clear hK K d4 d5 d6 d7
 try simp only [Act.put, sq]
 refine rd 16 (fun K hK => ?_)
 go_simp
 go_at_call 50
 try rw [hwr]
 refine (A.out w2 HB2.out).mono ?_
 rintro e3 w3 ⟨rfl, h3⟩
 obtain ⟨-, -, d4, d5, d6, d7, -⟩ := h3.v.ins
 have H3 := hide h3
 clear h3 A
 go_wp2_with fail
 refine hK.out _ _ ⟨d4, d5, d6, d7⟩ (fun hHeld => ?_)
 clear hK K d4 d5 d6 d7
 try simp only [Act.put, sq]
 refine wpAnyH_done (by kernel_rfl) ?_ _
 go_wp2_with fail
 go_end0
 exact ⟨rfl, H3.out.v, (KeepS.ofBelow HB2.out).trans H3.out.k⟩
set_option maxRecDepth 100000 in
set_option maxHeartbeats 1000000 in
theorem dSub_any (h : StV w b sb p s t x e) (hf : DFit s t x) :
 Calls Tryz.prog 53 #[ptrV sb] w fun r w' => r = .returned (.tuple #[]) ∧ StR w w' b sb p (s.setT t { s.th t with regs := (s.th t).regs.set x.r.toNat ((vlM (s.th t) x.aR x.aN - vlM (s.th t) x.bR x.bN) % 1000) }) t x e := by
 obtain ⟨-, -, c4, c5, c6, c7, -⟩ := h.ins
 have V := hide (fun w' (hb : Below w.heap.size w w') => value_any (h.below hb) hf.t4 hf.rl _ _ hf.a)
 have V2 := hide (fun w' (hb : Below w.heap.size w w') => value_any (h.below hb) hf.t4 hf.rl _ _ hf.b)
 have hva := hf.va
 have hvb := hf.vb
 have H := hide h
 have hd : Below w.heap.size w w.drew := ⟨rfl, rfl, rfl, Nat.le_refl _, fun _ _ => rfl⟩
 have A := hide (fun w' (hb : Below w.heap.size w w') => assign_any (h.below hb) hf.t4 hf.tl hf.rl hf.r (vlM (s.th t) x.aR x.aN - vlM (s.th t) x.bR x.bN) (by have := hva.1; have := hvb.1; have := hva.2; have := hvb.2; omega) (by have := hva.2; have := hvb.2; have := hva.1; have := hvb.1; omega))
 obtain ⟨v, hv⟩ : ∃ v, vlM (s.th t) x.aR x.aN = v := ⟨_, rfl⟩
 obtain ⟨u, hu⟩ : ∃ u, vlM (s.th t) x.bR x.bN = u := ⟨_, rfl⟩
 rw [hv] at hva
 rw [hu] at hvb
 simp only [hv, hu] at V V2 A ⊢
 obtain ⟨s', hs'⟩ : ∃ s' : MS, s.setT t { s.th t with regs := (s.th t).regs.set x.r.toNat ((v - u) % 1000) } = s' := ⟨_, rfl⟩
 simp only [hs'] at A ⊢
 clear hs'
 obtain ⟨hv0, hv1⟩ := hva
 obtain ⟨hu0, hu1⟩ := hvb
 have hwr0 : wrap64 (v - u) = v - u := by unfold wrap64; omega
 have hwr : IntKind.i64.wrap (v - u) = v - u := (IntWalk.i64_left _).trans hwr0
 clear hwr0
 clear h hf hv hu hv0 hv1 hu0 hu1
 unfold ptrV at *
 go_enter Tryz.func53, Tryz.ntmps53
 go_wp2_with fail
 refine wp_region_held_drew (S := (fun w' => w'.cell? ⟨sb, 4, none⟩ = some (.bool x.aR) ∧ w'.cell? ⟨sb, 5, none⟩ = some (.int .i64 x.aN) ∧ w'.cell? ⟨sb, 6, none⟩ = some (.bool x.bR) ∧ w'.cell? ⟨sb, 7, none⟩ = some (.int .i64 x.bN))) (by kernel_rfl) ⟨c4, c5, c6, c7⟩ (fun hHeld => ?_)
 refine tk 0 hHeld ?_
 refine tk 1 hHeld ?_
 refine tk 2 hHeld ?_
 refine tk 3 hHeld ?_
 refine tk 4 hHeld ?_
 refine tk 5 hHeld ?_
 refine tk 6 hHeld ?_
 refine tk 8 hHeld ?_
 refine tk 9 hHeld ?_
 refine tk 10 hHeld ?_
 refine tk 11 hHeld ?_
 refine tk 12 hHeld ?_
 refine tk 13 hHeld ?_
 refine rd 7 (fun K hK => ?_)
 go_simp
 go_at_call 51
 refine (V.out _ hd).mono ?_
 rintro e1 w1 ⟨rfl, hb1⟩
 replace hb1 : Below w.heap.size w w1 := hd.trans hb1
 obtain ⟨-, -, d4, d5, d6, d7, -⟩ := (H.out.below hb1).ins
 have V3 := V2.out w1 hb1
 have HB1 := hide hb1
 clear hb1
 go_wp2_with fail
 refine hK.out _ _ ⟨d4, d5, d6, d7⟩ (fun hHeld => ?_)
 clear hK K d4 d5 d6 d7
 try simp only [Act.put, sq]
 refine rd 14 (fun K hK => ?_)
 go_simp
 go_at_call 51
 refine V3.mono ?_
 rintro e2 w2 ⟨rfl, hb2⟩
 replace hb2 : Below w.heap.size w w2 := HB1.out.trans (hb2.mono HB1.out.size)
 obtain ⟨-, -, d4, d5, d6, d7, -⟩ := (H.out.below hb2).ins
 have HB2 := hide hb2
 clear hb2 V3 HB1
 go_wp2_with fail
 refine hK.out _ _ ⟨d4, d5, d6, d7⟩ (fun hHeld => ?_)
 clear hK K
 try simp only [Act.put, sq]
 refine rd 15 (fun K hK => ?_)
 go_simp
 refine hK.out _ _ ⟨d4, d5, d6, d7⟩ (fun hHeld => ?_)
 clear hK K d4 d5 d6 d7
 try simp only [Act.put, sq]
 refine rd 16 (fun K hK => ?_)
 go_simp
 go_at_call 50
 try rw [hwr]
 refine (A.out w2 HB2.out).mono ?_
 rintro e3 w3 ⟨rfl, h3⟩
 obtain ⟨-, -, d4, d5, d6, d7, -⟩ := h3.v.ins
 have H3 := hide h3
 clear h3 A
 go_wp2_with fail
 refine hK.out _ _ ⟨d4, d5, d6, d7⟩ (fun hHeld => ?_)
 clear hK K d4 d5 d6 d7
 try simp only [Act.put, sq]
 refine wpAnyH_done (by kernel_rfl) ?_ _
 go_wp2_with fail
 go_end0
 exact ⟨rfl, H3.out.v, (KeepS.ofBelow HB2.out).trans H3.out.k⟩
set_option maxRecDepth 100000 in
set_option maxHeartbeats 1000000 in
theorem dMul_any (h : StV w b sb p s t x e) (hf : DFit s t x) :
 Calls Tryz.prog 54 #[ptrV sb] w fun r w' => r = .returned (.tuple #[]) ∧ StR w w' b sb p (s.setT t { s.th t with regs := (s.th t).regs.set x.r.toNat ((vlM (s.th t) x.aR x.aN * vlM (s.th t) x.bR x.bN) % 1000) }) t x e := by
 obtain ⟨-, -, c4, c5, c6, c7, -⟩ := h.ins
 have V := hide (fun w' (hb : Below w.heap.size w w') => value_any (h.below hb) hf.t4 hf.rl _ _ hf.a)
 have V2 := hide (fun w' (hb : Below w.heap.size w w') => value_any (h.below hb) hf.t4 hf.rl _ _ hf.b)
 have hva := hf.va
 have hvb := hf.vb
 have H := hide h
 have hd : Below w.heap.size w w.drew := ⟨rfl, rfl, rfl, Nat.le_refl _, fun _ _ => rfl⟩
 have A := hide (fun w' (hb : Below w.heap.size w w') => assign_any (h.below hb) hf.t4 hf.tl hf.rl hf.r (vlM (s.th t) x.aR x.aN * vlM (s.th t) x.bR x.bN) (by have := Int.mul_nonneg hva.1 hvb.1; omega) (mul_bnd hva hvb))
 obtain ⟨v, hv⟩ : ∃ v, vlM (s.th t) x.aR x.aN = v := ⟨_, rfl⟩
 obtain ⟨u, hu⟩ : ∃ u, vlM (s.th t) x.bR x.bN = u := ⟨_, rfl⟩
 rw [hv] at hva
 rw [hu] at hvb
 simp only [hv, hu] at V V2 A ⊢
 obtain ⟨s', hs'⟩ : ∃ s' : MS, s.setT t { s.th t with regs := (s.th t).regs.set x.r.toNat ((v * u) % 1000) } = s' := ⟨_, rfl⟩
 simp only [hs'] at A ⊢
 clear hs'
 obtain ⟨hv0, hv1⟩ := hva
 obtain ⟨hu0, hu1⟩ := hvb
 have hwr0 : wrap64 (v * u) = v * u := by have := Int.mul_nonneg hv0 hu0; have := mul_bnd (a := v) (b := u) ⟨hv0, hv1⟩ ⟨hu0, hu1⟩; unfold wrap64; omega
 have hwr : IntKind.i64.wrap (v * u) = v * u := (IntWalk.i64_left _).trans hwr0
 clear hwr0
 clear h hf hv hu hv0 hv1 hu0 hu1
 unfold ptrV at *
 go_enter Tryz.func54, Tryz.ntmps54
 go_wp2_with fail
 refine wp_region_held_drew (S := (fun w' => w'.cell? ⟨sb, 4, none⟩ = some (.bool x.aR) ∧ w'.cell? ⟨sb, 5, none⟩ = some (.int .i64 x.aN) ∧ w'.cell? ⟨sb, 6, none⟩ = some (.bool x.bR) ∧ w'.cell? ⟨sb, 7, none⟩ = some (.int .i64 x.bN))) (by kernel_rfl) ⟨c4, c5, c6, c7⟩ (fun hHeld => ?_)
 refine tk 0 hHeld ?_
 refine tk 1 hHeld ?_
 refine tk 2 hHeld ?_
 refine tk 3 hHeld ?_
 refine tk 4 hHeld ?_
 refine tk 5 hHeld ?_
 refine tk 6 hHeld ?_
 refine tk 8 hHeld ?_
 refine tk 9 hHeld ?_
 refine tk 10 hHeld ?_
 refine tk 11 hHeld ?_
 refine tk 12 hHeld ?_
 refine tk 13 hHeld ?_
 refine rd 7 (fun K hK => ?_)
 go_simp
 go_at_call 51
 refine (V.out _ hd).mono ?_
 rintro e1 w1 ⟨rfl, hb1⟩
 replace hb1 : Below w.heap.size w w1 := hd.trans hb1
 obtain ⟨-, -, d4, d5, d6, d7, -⟩ := (H.out.below hb1).ins
 have V3 := V2.out w1 hb1
 have HB1 := hide hb1
 clear hb1
 go_wp2_with fail
 refine hK.out _ _ ⟨d4, d5, d6, d7⟩ (fun hHeld => ?_)
 clear hK K d4 d5 d6 d7
 try simp only [Act.put, sq]
 refine rd 14 (fun K hK => ?_)
 go_simp
 go_at_call 51
 refine V3.mono ?_
 rintro e2 w2 ⟨rfl, hb2⟩
 replace hb2 : Below w.heap.size w w2 := HB1.out.trans (hb2.mono HB1.out.size)
 obtain ⟨-, -, d4, d5, d6, d7, -⟩ := (H.out.below hb2).ins
 have HB2 := hide hb2
 clear hb2 V3 HB1
 go_wp2_with fail
 refine hK.out _ _ ⟨d4, d5, d6, d7⟩ (fun hHeld => ?_)
 clear hK K
 try simp only [Act.put, sq]
 refine rd 15 (fun K hK => ?_)
 go_simp
 refine hK.out _ _ ⟨d4, d5, d6, d7⟩ (fun hHeld => ?_)
 clear hK K d4 d5 d6 d7
 try simp only [Act.put, sq]
 refine rd 16 (fun K hK => ?_)
 go_simp
 go_at_call 50
 try rw [hwr]
 refine (A.out w2 HB2.out).mono ?_
 rintro e3 w3 ⟨rfl, h3⟩
 obtain ⟨-, -, d4, d5, d6, d7, -⟩ := h3.v.ins
 have H3 := hide h3
 clear h3 A
 go_wp2_with fail
 refine hK.out _ _ ⟨d4, d5, d6, d7⟩ (fun hHeld => ?_)
 clear hK K d4 d5 d6 d7
 try simp only [Act.put, sq]
 refine wpAnyH_done (by kernel_rfl) ?_ _
 go_wp2_with fail
 go_end0
 exact ⟨rfl, H3.out.v, (KeepS.ofBelow HB2.out).trans H3.out.k⟩
set_option maxRecDepth 100000 in
set_option maxHeartbeats 1000000 in
theorem dJeq_any (h : StV w b sb p s t x e) (hf : DFit s t x) :
 Calls Tryz.prog 68 #[ptrV sb] w fun r w' => r = .returned (.tuple #[]) ∧ StR w w' b sb p (if (vlM (s.th t) x.aR x.aN == vlM (s.th t) x.bR x.bN) = true then s.setT t { s.th t with pc := x.x.toNat } else s) t x e := by
 obtain ⟨-, -, c4, c5, c6, c7, -⟩ := h.ins
 have V := hide (fun w' (hb : Below w.heap.size w w') => value_any (h.below hb) hf.t4 hf.rl _ _ hf.a)
 have V2 := hide (fun w' (hb : Below w.heap.size w w') => value_any (h.below hb) hf.t4 hf.rl _ _ hf.b)
 have hva := hf.va
 have hvb := hf.vb
 have H := hide h
 have hd : Below w.heap.size w w.drew := ⟨rfl, rfl, rfl, Nat.le_refl _, fun _ _ => rfl⟩
 have A := hide (fun w' (hb : Below w.heap.size w w') => jumpIf_any (h.below hb) hf.t4 hf.tl hf.x0 (vlM (s.th t) x.aR x.aN == vlM (s.th t) x.bR x.bN))
 obtain ⟨v, hv⟩ : ∃ v, vlM (s.th t) x.aR x.aN = v := ⟨_, rfl⟩
 obtain ⟨u, hu⟩ : ∃ u, vlM (s.th t) x.bR x.bN = u := ⟨_, rfl⟩
 rw [hv] at hva
 rw [hu] at hvb
 simp only [hv, hu] at V V2 A ⊢
 obtain ⟨g, hg⟩ : ∃ g : Bool, (v == u) = g := ⟨_, rfl⟩
 simp only [hg] at A ⊢
 obtain ⟨s', hs'⟩ : ∃ s' : MS, (if g = true then s.setT t { s.th t with pc := x.x.toNat } else s) = s' := ⟨_, rfl⟩
 simp only [hs'] at A ⊢
 clear hs'
 obtain ⟨hv0, hv1⟩ := hva
 obtain ⟨hu0, hu1⟩ := hvb
 clear h hf hv hu hv0 hv1 hu0 hu1
 unfold ptrV at *
 go_enter Tryz.func68, Tryz.ntmps68
 go_wp2_with fail
 refine wp_region_held_drew (S := (fun w' => w'.cell? ⟨sb, 4, none⟩ = some (.bool x.aR) ∧ w'.cell? ⟨sb, 5, none⟩ = some (.int .i64 x.aN) ∧ w'.cell? ⟨sb, 6, none⟩ = some (.bool x.bR) ∧ w'.cell? ⟨sb, 7, none⟩ = some (.int .i64 x.bN))) (by kernel_rfl) ⟨c4, c5, c6, c7⟩ (fun hHeld => ?_)
 refine tk 0 hHeld ?_
 refine tk 1 hHeld ?_
 refine tk 2 hHeld ?_
 refine tk 3 hHeld ?_
 refine tk 4 hHeld ?_
 refine tk 5 hHeld ?_
 refine tk 6 hHeld ?_
 refine tk 8 hHeld ?_
 refine tk 9 hHeld ?_
 refine tk 10 hHeld ?_
 refine tk 11 hHeld ?_
 refine tk 12 hHeld ?_
 refine tk 13 hHeld ?_
 refine rd 7 (fun K hK => ?_)
 go_simp
 go_at_call 51
 refine (V.out _ hd).mono ?_
 rintro e1 w1 ⟨rfl, hb1⟩
 replace hb1 : Below w.heap.size w w1 := hd.trans hb1
 obtain ⟨-, -, d4, d5, d6, d7, -⟩ := (H.out.below hb1).ins
 have V3 := V2.out w1 hb1
 have HB1 := hide hb1
 clear hb1
 go_wp2_with fail
 refine hK.out _ _ ⟨d4, d5, d6, d7⟩ (fun hHeld => ?_)
 clear hK K d4 d5 d6 d7
 try simp only [Act.put, sq]
 refine rd 14 (fun K hK => ?_)
 go_simp
 go_at_call 51
 refine V3.mono ?_
 rintro e2 w2 ⟨rfl, hb2⟩
 replace hb2 : Below w.heap.size w w2 := HB1.out.trans (hb2.mono HB1.out.size)
 obtain ⟨-, -, d4, d5, d6, d7, -⟩ := (H.out.below hb2).ins
 have HB2 := hide hb2
 clear hb2 V3 HB1
 go_wp2_with fail
 refine hK.out _ _ ⟨d4, d5, d6, d7⟩ (fun hHeld => ?_)
 clear hK K d4 d5 d6 d7
 try simp only [Act.put, sq]
 refine tk 15 hHeld ?_
 refine rd 16 (fun K hK => ?_)
 go_simp
 go_at_call 67
 refine (A.out w2 HB2.out).mono ?_
 rintro e3 w3 ⟨rfl, h3⟩
 obtain ⟨-, -, d4, d5, d6, d7, -⟩ := h3.v.ins
 have H3 := hide h3
 clear h3 A
 go_wp2_with fail
 refine hK.out _ _ ⟨d4, d5, d6, d7⟩ (fun hHeld => ?_)
 clear hK K d4 d5 d6 d7
 try simp only [Act.put, sq]
 refine wpAnyH_done (by kernel_rfl) ?_ _
 go_wp2_with fail
 go_end0
 exact ⟨rfl, H3.out.v, (KeepS.ofBelow HB2.out).trans H3.out.k⟩
set_option maxRecDepth 100000 in
set_option maxHeartbeats 1000000 in
theorem dJlt_any (h : StV w b sb p s t x e) (hf : DFit s t x) :
 Calls Tryz.prog 69 #[ptrV sb] w fun r w' => r = .returned (.tuple #[]) ∧ StR w w' b sb p (if (decide (vlM (s.th t) x.aR x.aN < vlM (s.th t) x.bR x.bN)) = true then s.setT t { s.th t with pc := x.x.toNat } else s) t x e := by
 obtain ⟨-, -, c4, c5, c6, c7, -⟩ := h.ins
 have V := hide (fun w' (hb : Below w.heap.size w w') => value_any (h.below hb) hf.t4 hf.rl _ _ hf.a)
 have V2 := hide (fun w' (hb : Below w.heap.size w w') => value_any (h.below hb) hf.t4 hf.rl _ _ hf.b)
 have hva := hf.va
 have hvb := hf.vb
 have H := hide h
 have hd : Below w.heap.size w w.drew := ⟨rfl, rfl, rfl, Nat.le_refl _, fun _ _ => rfl⟩
 have A := hide (fun w' (hb : Below w.heap.size w w') => jumpIf_any (h.below hb) hf.t4 hf.tl hf.x0 (decide (vlM (s.th t) x.aR x.aN < vlM (s.th t) x.bR x.bN)))
 obtain ⟨v, hv⟩ : ∃ v, vlM (s.th t) x.aR x.aN = v := ⟨_, rfl⟩
 obtain ⟨u, hu⟩ : ∃ u, vlM (s.th t) x.bR x.bN = u := ⟨_, rfl⟩
 rw [hv] at hva
 rw [hu] at hvb
 simp only [hv, hu] at V V2 A ⊢
 obtain ⟨g, hg⟩ : ∃ g : Bool, decide (v < u) = g := ⟨_, rfl⟩
 simp only [hg] at A ⊢
 obtain ⟨s', hs'⟩ : ∃ s' : MS, (if g = true then s.setT t { s.th t with pc := x.x.toNat } else s) = s' := ⟨_, rfl⟩
 simp only [hs'] at A ⊢
 clear hs'
 obtain ⟨hv0, hv1⟩ := hva
 obtain ⟨hu0, hu1⟩ := hvb
 clear h hf hv hu hv0 hv1 hu0 hu1
 unfold ptrV at *
 go_enter Tryz.func69, Tryz.ntmps69
 go_wp2_with fail
 refine wp_region_held_drew (S := (fun w' => w'.cell? ⟨sb, 4, none⟩ = some (.bool x.aR) ∧ w'.cell? ⟨sb, 5, none⟩ = some (.int .i64 x.aN) ∧ w'.cell? ⟨sb, 6, none⟩ = some (.bool x.bR) ∧ w'.cell? ⟨sb, 7, none⟩ = some (.int .i64 x.bN))) (by kernel_rfl) ⟨c4, c5, c6, c7⟩ (fun hHeld => ?_)
 refine tk 0 hHeld ?_
 refine tk 1 hHeld ?_
 refine tk 2 hHeld ?_
 refine tk 3 hHeld ?_
 refine tk 4 hHeld ?_
 refine tk 5 hHeld ?_
 refine tk 6 hHeld ?_
 refine tk 8 hHeld ?_
 refine tk 9 hHeld ?_
 refine tk 10 hHeld ?_
 refine tk 11 hHeld ?_
 refine tk 12 hHeld ?_
 refine tk 13 hHeld ?_
 refine rd 7 (fun K hK => ?_)
 go_simp
 go_at_call 51
 refine (V.out _ hd).mono ?_
 rintro e1 w1 ⟨rfl, hb1⟩
 replace hb1 : Below w.heap.size w w1 := hd.trans hb1
 obtain ⟨-, -, d4, d5, d6, d7, -⟩ := (H.out.below hb1).ins
 have V3 := V2.out w1 hb1
 have HB1 := hide hb1
 clear hb1
 go_wp2_with fail
 refine hK.out _ _ ⟨d4, d5, d6, d7⟩ (fun hHeld => ?_)
 clear hK K d4 d5 d6 d7
 try simp only [Act.put, sq]
 refine rd 14 (fun K hK => ?_)
 go_simp
 go_at_call 51
 refine V3.mono ?_
 rintro e2 w2 ⟨rfl, hb2⟩
 replace hb2 : Below w.heap.size w w2 := HB1.out.trans (hb2.mono HB1.out.size)
 obtain ⟨-, -, d4, d5, d6, d7, -⟩ := (H.out.below hb2).ins
 have HB2 := hide hb2
 clear hb2 V3 HB1
 go_wp2_with fail
 refine hK.out _ _ ⟨d4, d5, d6, d7⟩ (fun hHeld => ?_)
 clear hK K d4 d5 d6 d7
 try simp only [Act.put, sq]
 refine tk 15 hHeld ?_
 refine rd 16 (fun K hK => ?_)
 go_simp
 go_at_call 67
 refine (A.out w2 HB2.out).mono ?_
 rintro e3 w3 ⟨rfl, h3⟩
 obtain ⟨-, -, d4, d5, d6, d7, -⟩ := h3.v.ins
 have H3 := hide h3
 clear h3 A
 go_wp2_with fail
 refine hK.out _ _ ⟨d4, d5, d6, d7⟩ (fun hHeld => ?_)
 clear hK K d4 d5 d6 d7
 try simp only [Act.put, sq]
 refine wpAnyH_done (by kernel_rfl) ?_ _
 go_wp2_with fail
 go_end0
 exact ⟨rfl, H3.out.v, (KeepS.ofBelow HB2.out).trans H3.out.k⟩
set_option maxRecDepth 100000 in
set_option maxHeartbeats 1000000 in
theorem check_any (h : StV w b sb p s t x e) (hf : DFit s t x) :
 Calls Tryz.prog 70 #[ptrV sb] w fun r w' => r = .returned (.tuple #[]) ∧ (if vlM (s.th t) x.aR x.aN ≠ vlM (s.th t) x.bR x.bN then StR w w' b sb p (s.setT t { s.th t with ph := 3 }) t x { e with k := 9 } else StR w w' b sb p s t x e) := by
 obtain ⟨-, -, c4, c5, c6, c7, -⟩ := h.ins
 have V := hide (fun w' (hb : Below w.heap.size w w') => value_any (h.below hb) hf.t4 hf.rl _ _ hf.a)
 have V2 := hide (fun w' (hb : Below w.heap.size w w') => value_any (h.below hb) hf.t4 hf.rl _ _ hf.b)
 have hva := hf.va
 have hvb := hf.vb
 have H := hide h
 have hd : Below w.heap.size w w.drew := ⟨rfl, rfl, rfl, Nat.le_refl _, fun _ _ => rfl⟩
 have A := hide (fun w' (hb : Below w.heap.size w w') => fail_any (h.below hb) hf.t4 hf.tl)
 obtain ⟨v, hv⟩ : ∃ v, vlM (s.th t) x.aR x.aN = v := ⟨_, rfl⟩
 obtain ⟨u, hu⟩ : ∃ u, vlM (s.th t) x.bR x.bN = u := ⟨_, rfl⟩
 rw [hv] at hva
 rw [hu] at hvb
 simp only [hv, hu] at V V2 ⊢
 obtain ⟨hv0, hv1⟩ := hva
 obtain ⟨hu0, hu1⟩ := hvb
 by_cases hq : v = u
 ·have hite : (v ≠ u) = False := by simp [hq]
  simp only [hite, if_false]
  have hq' : (v != u) = false := by simp [hq]
  clear hite hq
  clear h hf hv hu hv0 hv1 hu0 hu1
  unfold ptrV at *
  go_enter Tryz.func70, Tryz.ntmps70
  go_wp2_with fail
  refine wp_region_held_drew (S := (fun w' => w'.cell? ⟨sb, 4, none⟩ = some (.bool x.aR) ∧ w'.cell? ⟨sb, 5, none⟩ = some (.int .i64 x.aN) ∧ w'.cell? ⟨sb, 6, none⟩ = some (.bool x.bR) ∧ w'.cell? ⟨sb, 7, none⟩ = some (.int .i64 x.bN))) (by kernel_rfl) ⟨c4, c5, c6, c7⟩ (fun hHeld => ?_)
  refine tk 0 hHeld ?_
  refine tk 1 hHeld ?_
  refine tk 2 hHeld ?_
  refine tk 3 hHeld ?_
  refine tk 4 hHeld ?_
  refine tk 5 hHeld ?_
  refine tk 7 hHeld ?_
  refine tk 8 hHeld ?_
  refine tk 9 hHeld ?_
  refine tk 10 hHeld ?_
  refine tk 11 hHeld ?_
  refine tk 12 hHeld ?_
  refine rd 6 (fun K hK => ?_)
  go_simp
  go_at_call 51
  refine (V.out _ hd).mono ?_
  rintro e1 w1 ⟨rfl, hb1⟩
  replace hb1 : Below w.heap.size w w1 := hd.trans hb1
  obtain ⟨-, -, d4, d5, d6, d7, -⟩ := (H.out.below hb1).ins
  have V3 := V2.out w1 hb1
  have HB1 := hide hb1
  clear hb1
  go_wp2_with fail
  refine hK.out _ _ ⟨d4, d5, d6, d7⟩ (fun hHeld => ?_)
  clear hK K d4 d5 d6 d7
  try simp only [Act.put, sq]
  refine rd 13 (fun K hK => ?_)
  go_simp
  go_at_call 51
  refine V3.mono ?_
  rintro e2 w2 ⟨rfl, hb2⟩
  replace hb2 : Below w.heap.size w w2 := HB1.out.trans (hb2.mono HB1.out.size)
  obtain ⟨-, -, d4, d5, d6, d7, -⟩ := (H.out.below hb2).ins
  have HB2 := hide hb2
  clear hb2 V3 HB1
  go_wp2_with fail
  refine hK.out _ _ ⟨d4, d5, d6, d7⟩ (fun hHeld => ?_)
  clear hK K d4 d5 d6 d7
  try simp only [Act.put, sq]
  refine tk 14 hHeld ?_
  refine wpAnyH_done (by kernel_rfl) ?_ _
  clear hHeld
  go_wp2_with fail
  go_end0
  exact ⟨rfl, H.out.below HB2.out, KeepS.ofBelow HB2.out⟩
 ·have hite : (v ≠ u) = True := by simp [hq]
  simp only [hite, if_true]
  have hq' : (v != u) = true := by simp [hq]
  clear hite hq
  clear h hf hv hu hv0 hv1 hu0 hu1
  unfold ptrV at *
  go_enter Tryz.func70, Tryz.ntmps70
  go_wp2_with fail
  refine wp_region_held_drew (S := (fun w' => w'.cell? ⟨sb, 4, none⟩ = some (.bool x.aR) ∧ w'.cell? ⟨sb, 5, none⟩ = some (.int .i64 x.aN) ∧ w'.cell? ⟨sb, 6, none⟩ = some (.bool x.bR) ∧ w'.cell? ⟨sb, 7, none⟩ = some (.int .i64 x.bN))) (by kernel_rfl) ⟨c4, c5, c6, c7⟩ (fun hHeld => ?_)
  refine tk 0 hHeld ?_
  refine tk 1 hHeld ?_
  refine tk 2 hHeld ?_
  refine tk 3 hHeld ?_
  refine tk 4 hHeld ?_
  refine tk 5 hHeld ?_
  refine tk 7 hHeld ?_
  refine tk 8 hHeld ?_
  refine tk 9 hHeld ?_
  refine tk 10 hHeld ?_
  refine tk 11 hHeld ?_
  refine tk 12 hHeld ?_
  refine rd 6 (fun K hK => ?_)
  go_simp
  go_at_call 51
  refine (V.out _ hd).mono ?_
  rintro e1 w1 ⟨rfl, hb1⟩
  replace hb1 : Below w.heap.size w w1 := hd.trans hb1
  obtain ⟨-, -, d4, d5, d6, d7, -⟩ := (H.out.below hb1).ins
  have V3 := V2.out w1 hb1
  have HB1 := hide hb1
  clear hb1
  go_wp2_with fail
  refine hK.out _ _ ⟨d4, d5, d6, d7⟩ (fun hHeld => ?_)
  clear hK K d4 d5 d6 d7
  try simp only [Act.put, sq]
  refine rd 13 (fun K hK => ?_)
  go_simp
  go_at_call 51
  refine V3.mono ?_
  rintro e2 w2 ⟨rfl, hb2⟩
  replace hb2 : Below w.heap.size w w2 := HB1.out.trans (hb2.mono HB1.out.size)
  obtain ⟨-, -, d4, d5, d6, d7, -⟩ := (H.out.below hb2).ins
  have HB2 := hide hb2
  clear hb2 V3 HB1
  go_wp2_with fail
  refine hK.out _ _ ⟨d4, d5, d6, d7⟩ (fun hHeld => ?_)
  clear hK K d4 d5 d6 d7
  try simp only [Act.put, sq]
  refine tk 14 hHeld ?_
  refine wpAnyH_done (by kernel_rfl) ?_ _
  clear hHeld
  have F := A.out w2 HB2.out
  clear A
  go_wp2_with fail
  refine F.mono ?_
  rintro e3 w3 ⟨rfl, h3⟩
  have H3 := hide h3
  clear h3 F
  go_wp2_with fail
  go_end0
  exact ⟨rfl, H3.out.v, (KeepS.ofBelow HB2.out).trans H3.out.k⟩
end
section
variable {w w' : World} {b sb : Nat} {p : PD} {s : MS} {t : Nat} {x : In7} {e : Ev}
set_option maxRecDepth 100000 in
theorem dLoad_any (h : StV w b sb p s t x e) (ht : t < 4) (htl : t < s.thr.length) (hrl : (s.th t).regs.length = 4) (hr : 0 ≤ x.r ∧ x.r < 4) (hx : 0 ≤ x.x ∧ x.x < 4) :
 Calls Tryz.prog 55 #[ptrV sb] w fun r w' => r = .returned (.tuple #[]) ∧ StR w w' b sb p (s.setT t { s.th t with regs := (s.th t).regs.set x.r.toNat (s.vars.getD x.x.toNat 0) }) t x { e with k := 1, o := x.x, v := s.vars.getD x.x.toNat 0 } := by
 obtain ⟨c0, -⟩ := h.ptrs
 have A : Calls Tryz.prog 56 #[ptrV sb, .int .i64 1, .pointer (some ⟨b, 0, none⟩)] w fun r w' => r = .returned (.tuple #[]) ∧ StR w w' b sb p (s.setT t { s.th t with regs := (s.th t).regs.set x.r.toNat (s.vars.getD x.x.toNat 0) }) t x { e with k := 1, o := x.x, v := s.vars.getD x.x.toNat 0 } := fetch_any h ht htl hrl hr hx 1 (o := 0) (.inl rfl)
 obtain ⟨s', hs'⟩ : ∃ s' : MS, (s.setT t { s.th t with regs := (s.th t).regs.set x.r.toNat (s.vars.getD x.x.toNat 0) }) = s' := ⟨_, rfl⟩
 obtain ⟨e', he'⟩ : ∃ e' : Ev, ({ e with k := 1, o := x.x, v := s.vars.getD x.x.toNat 0 } : Ev) = e' := ⟨_, rfl⟩
 simp only [hs', he'] at A ⊢
 clear h hs' he'
 unfold ptrV at *
 go_enter Tryz.func55, Tryz.ntmps55
 go_wp2_with fail
 refine A.mono ?_
 rintro e1 w1 ⟨rfl, h1⟩
 have H1 := hide h1
 clear A h1
 go_wp2_with fail
 go_end0
 exact ⟨rfl, H1.out⟩
set_option maxRecDepth 100000 in
theorem dStore_any (h : StV w b sb p s t x e) (ht : t < 4) (hrl : (s.th t).regs.length = 4) (ha : argB4 x.aR x.aN) (hx : 0 ≤ x.x ∧ x.x < 4) (hl : x.x.toNat < s.vars.length) :
 Calls Tryz.prog 57 #[ptrV sb] w fun r w' => r = .returned (.tuple #[]) ∧ StR w w' b sb p { s with vars := s.vars.set x.x.toNat (vlM (s.th t) x.aR x.aN) } t x { e with k := 2, o := x.x, v := vlM (s.th t) x.aR x.aN } := by
 obtain ⟨c0, -⟩ := h.ptrs
 have A : Calls Tryz.prog 58 #[ptrV sb, .int .i64 2, .pointer (some ⟨b, 0, none⟩)] w fun r w' => r = .returned (.tuple #[]) ∧ StR w w' b sb p { s with vars := s.vars.set x.x.toNat (vlM (s.th t) x.aR x.aN) } t x { e with k := 2, o := x.x, v := vlM (s.th t) x.aR x.aN } := keep_any h ht hrl ha hx 2 (o := 0) (.inl rfl) hl
 obtain ⟨s', hs'⟩ : ∃ s' : MS, { s with vars := s.vars.set x.x.toNat (vlM (s.th t) x.aR x.aN) } = s' := ⟨_, rfl⟩
 obtain ⟨e', he'⟩ : ∃ e' : Ev, ({ e with k := 2, o := x.x, v := vlM (s.th t) x.aR x.aN } : Ev) = e' := ⟨_, rfl⟩
 simp only [hs', he'] at A ⊢
 clear h hs' he'
 unfold ptrV at *
 go_enter Tryz.func57, Tryz.ntmps57
 go_wp2_with fail
 refine A.mono ?_
 rintro e1 w1 ⟨rfl, h1⟩
 have H1 := hide h1
 clear A h1
 go_wp2_with fail
 go_end0
 exact ⟨rfl, H1.out⟩
set_option maxRecDepth 100000 in
theorem dGet_any (h : StV w b sb p s t x e) (ht : t < 4) (htl : t < s.thr.length) (hrl : (s.th t).regs.length = 4) (hr : 0 ≤ x.r ∧ x.r < 4) (hx : 0 ≤ x.x ∧ x.x < 4) :
 Calls Tryz.prog 59 #[ptrV sb] w fun r w' => r = .returned (.tuple #[]) ∧ StR w w' b sb p (s.setT t { s.th t with regs := (s.th t).regs.set x.r.toNat (s.flags.getD x.x.toNat 0) }) t x { e with k := 3, o := x.x, v := s.flags.getD x.x.toNat 0 } := by
 obtain ⟨c0, -⟩ := h.ptrs
 have A : Calls Tryz.prog 56 #[ptrV sb, .int .i64 3, .pointer (some ⟨b, 9, none⟩)] w fun r w' => r = .returned (.tuple #[]) ∧ StR w w' b sb p (s.setT t { s.th t with regs := (s.th t).regs.set x.r.toNat (s.flags.getD x.x.toNat 0) }) t x { e with k := 3, o := x.x, v := s.flags.getD x.x.toNat 0 } := fetch_any h ht htl hrl hr hx 3 (o := 9) (.inr rfl)
 obtain ⟨s', hs'⟩ : ∃ s' : MS, (s.setT t { s.th t with regs := (s.th t).regs.set x.r.toNat (s.flags.getD x.x.toNat 0) }) = s' := ⟨_, rfl⟩
 obtain ⟨e', he'⟩ : ∃ e' : Ev, ({ e with k := 3, o := x.x, v := s.flags.getD x.x.toNat 0 } : Ev) = e' := ⟨_, rfl⟩
 simp only [hs', he'] at A ⊢
 clear h hs' he'
 unfold ptrV at *
 go_enter Tryz.func59, Tryz.ntmps59
 go_wp2_with fail
 refine A.mono ?_
 rintro e1 w1 ⟨rfl, h1⟩
 have H1 := hide h1
 clear A h1
 go_wp2_with fail
 go_end0
 exact ⟨rfl, H1.out⟩
set_option maxRecDepth 100000 in
theorem dPut_any (h : StV w b sb p s t x e) (ht : t < 4) (hrl : (s.th t).regs.length = 4) (ha : argB4 x.aR x.aN) (hx : 0 ≤ x.x ∧ x.x < 4) (hl : x.x.toNat < s.flags.length) :
 Calls Tryz.prog 60 #[ptrV sb] w fun r w' => r = .returned (.tuple #[]) ∧ StR w w' b sb p { s with flags := s.flags.set x.x.toNat (vlM (s.th t) x.aR x.aN) } t x { e with k := 4, o := x.x, v := vlM (s.th t) x.aR x.aN } := by
 obtain ⟨c0, -⟩ := h.ptrs
 have A : Calls Tryz.prog 58 #[ptrV sb, .int .i64 4, .pointer (some ⟨b, 9, none⟩)] w fun r w' => r = .returned (.tuple #[]) ∧ StR w w' b sb p { s with flags := s.flags.set x.x.toNat (vlM (s.th t) x.aR x.aN) } t x { e with k := 4, o := x.x, v := vlM (s.th t) x.aR x.aN } := keep_any h ht hrl ha hx 4 (o := 9) (.inr rfl) hl
 obtain ⟨s', hs'⟩ : ∃ s' : MS, { s with flags := s.flags.set x.x.toNat (vlM (s.th t) x.aR x.aN) } = s' := ⟨_, rfl⟩
 obtain ⟨e', he'⟩ : ∃ e' : Ev, ({ e with k := 4, o := x.x, v := vlM (s.th t) x.aR x.aN } : Ev) = e' := ⟨_, rfl⟩
 simp only [hs', he'] at A ⊢
 clear h hs' he'
 unfold ptrV at *
 go_enter Tryz.func60, Tryz.ntmps60
 go_wp2_with fail
 refine A.mono ?_
 rintro e1 w1 ⟨rfl, h1⟩
 have H1 := hide h1
 clear A h1
 go_wp2_with fail
 go_end0
 exact ⟨rfl, H1.out⟩
set_option maxRecDepth 100000 in
theorem dJoin_any (h : StV w b sb p s t x e) :
 Calls Tryz.prog 64 #[ptrV sb] w fun r w' => r = .returned (.tuple #[]) ∧ StR w w' b sb p s t x { e with k := 8, o := x.x } := by
 have A := tell_any h 8
 clear h
 unfold ptrV at *
 go_enter Tryz.func64, Tryz.ntmps64
 go_wp2_with fail
 refine A.mono ?_
 rintro e1 w1 ⟨rfl, h1⟩
 have H1 := hide h1
 clear A h1
 go_wp2_with fail
 go_end0
 exact ⟨rfl, H1.out⟩
set_option maxRecDepth 100000 in
theorem dJump_any (h : StV w b sb p s t x e) (ht : t < 4) (htl : t < s.thr.length) (hx : 0 ≤ x.x) :
 Calls Tryz.prog 66 #[ptrV sb] w fun r w' => r = .returned (.tuple #[]) ∧ StR w w' b sb p (s.setT t { s.th t with pc := x.x.toNat }) t x e := by
 have A := jumpIf_any h ht htl hx true
 clear h
 unfold ptrV at *
 go_enter Tryz.func66, Tryz.ntmps66
 go_wp2_with fail
 refine A.mono ?_
 rintro e1 w1 ⟨rfl, h1⟩
 have H1 := hide h1
 clear A h1
 go_wp2_with fail
 go_end0
 exact ⟨rfl, H1.out⟩
end
section
variable {w w' : World} {b sb : Nat} {p : PD} {s : MS} {t : Nat} {x : In7} {e : Ev}
theorem set_twice (s : MS) (t : Nat) (a c : TS) : (s.setT t a).setT t c = s.setT t c := by unfold MS.setT; simp
theorem th_self (s : MS) {t : Nat} (h : t < s.thr.length) (a : TS) : (s.setT t a).th t = a := by rw [th_set s t t a h, if_pos rfl]
def DeedR (w : World) (f b sb : Nat) (p : PD) (t : Nat) (x : In7) (s' : MS) (e' : Ev) : Prop := Calls Tryz.prog f #[ptrV sb] w fun r w' => r = .returned (.tuple #[]) ∧ StR w w' b sb p s' t x e'
theorem deed_any {nv nf nl : Nat} (hv4 : nv ≤ 4) (hf4 : nf ≤ 4) (hl4 : nl ≤ 4) (hf : PFit nv nf nl p.C) (h : MOk nv nf nl p.C s) (ht : t < p.C.length) (hph : (s.th t).ph = 1) (hw : waitsM s x = false) (hx : x = endI ∨ (InsX nv nf nl p.C.length (p.C.getD t []).length x ∧ (s.th t).pc < (p.C.getD t []).length)) :
 ∃ f, doV x.op = .func (.func f) #[] #[] ∧ ∀ w, StV w b sb p (s.setT t { s.th t with pc := (s.th t).pc + 1 }) t x ⟨t, 0, 0, 0⟩ → DeedR w f b sb p t x (stpM false s t x).1 (stpM false s t x).2 := by
 have hT := h.th t ht
 have ht4 : t < 4 := by have := hf.four; omega
 have htl : t < s.thr.length := by rw [h.tl]; exact ht
 have hs1 : (s.setT t { s.th t with pc := (s.th t).pc + 1 }).th t = { s.th t with pc := (s.th t).pc + 1 } := th_self s htl _
 have hl1 : (s.setT t { s.th t with pc := (s.th t).pc + 1 }).thr.length = s.thr.length := by show (s.thr.set t _).length = _; rw [List.length_set]
 have hst : ∀ y, (s.setT t { s.th t with pc := (s.th t).pc + 1 }).setT t y = s.setT t y := fun y => set_twice s t _ y
 have hmod : ∀ {v : Int}, val3 v → v % 1000 = v := fun {v} q => by have := q.1; have := q.2; omega
 have fend : ∀ w, StV w b sb p (s.setT t { s.th t with pc := (s.th t).pc + 1 }) t endI ⟨t, 0, 0, 0⟩ → DeedR w 71 b sb p t endI (stpM false s t endI).1 (stpM false s t endI).2 := fun w q => by
  have := end_any q ht4 (by rw [hl1]; exact htl)
  rw [hs1, hst] at this
  exact this
 rcases hx with rfl | ⟨hx, hlt⟩
 ·exact ⟨71, rfl, fend⟩
 ·have va := vlM_ok hT hx.sm.2.1
  have hD : DFit (s.setT t { s.th t with pc := (s.th t).pc + 1 }) t x := ⟨ht4, by rw [hl1]; exact htl, by rw [hs1]; exact hT.rl, by rw [hs1]; exact hT.rv, hx.sm.1, hx.sm.2.1, hx.sm.2.2, hx.x0⟩
  have hvl : ∀ r n, vlM ((s.setT t { s.th t with pc := (s.th t).pc + 1 }).th t) r n = vlM (s.th t) r n := fun r n => by rw [hs1]; rfl
  obtain ⟨q, hq, hop, x1, x2, x3, x4, x5⟩ := hx.ex
  have hx0 := hx.x0
  simp only [shapeT, List.mem_cons, List.not_mem_nil, or_false] at hq
  rcases hq with rfl | rfl | rfl | rfl | rfl | rfl | rfl | rfl | rfl | rfl | rfl | rfl | rfl | rfl | rfl | rfl | rfl <;> rw [hop]
  ·refine ⟨49, rfl, fun w q => ?_⟩
   have := dSet_any q hD
   rw [hst, hvl, hs1, hmod va] at this
   unfold stpM; rw [hop]; exact this
  ·refine ⟨52, rfl, fun w q => ?_⟩
   have := dAdd_any q hD
   rw [hst, hvl, hvl, hs1] at this
   unfold stpM; rw [hop]; exact this
  ·refine ⟨53, rfl, fun w q => ?_⟩
   have := dSub_any q hD
   rw [hst, hvl, hvl, hs1] at this
   rw [show (vlM (s.th t) x.aR x.aN - vlM (s.th t) x.bR x.bN) % 1000 = (vlM (s.th t) x.aR x.aN - vlM (s.th t) x.bR x.bN + 1000) % 1000 by omega] at this
   unfold stpM; rw [hop]; exact this
  ·refine ⟨54, rfl, fun w q => ?_⟩
   have := dMul_any q hD
   rw [hst, hvl, hvl, hs1] at this
   unfold stpM; rw [hop]; exact this
  ·refine ⟨55, rfl, fun w q => ?_⟩
   have hv := x1 (by decide)
   have := dLoad_any q ht4 hD.tl hD.rl hD.r ⟨hx0, by omega⟩
   rw [hst, hs1] at this
   unfold stpM; rw [hop]; exact this
  ·refine ⟨57, rfl, fun w q => ?_⟩
   have hv := x1 (by decide)
   have := dStore_any q ht4 hD.rl hD.a ⟨hx0, by omega⟩ (by show x.x.toNat < s.vars.length; rw [h.vl]; omega)
   rw [hvl] at this
   unfold stpM; rw [hop]; exact this
  ·refine ⟨59, rfl, fun w q => ?_⟩
   have hv := x2 (by decide)
   have := dGet_any q ht4 hD.tl hD.rl hD.r ⟨hx0, by omega⟩
   rw [hst, hs1] at this
   unfold stpM; rw [hop]; exact this
  ·refine ⟨60, rfl, fun w q => ?_⟩
   have hv := x2 (by decide)
   have := dPut_any q ht4 hD.rl hD.a ⟨hx0, by omega⟩ (by show x.x.toNat < s.flags.length; rw [h.fl]; omega)
   rw [hvl] at this
   unfold stpM; rw [hop]; exact this
  ·refine ⟨61, rfl, fun w q => ?_⟩
   have hv := x3 (by decide)
   have := acquire_any q ⟨hx0, by omega⟩ (by show x.x.toNat < s.locks.length; rw [h.ll]; omega)
   unfold stpM; rw [hop]; exact this
  ·refine ⟨62, rfl, fun w q => ?_⟩
   have hv := x3 (by decide)
   have := release_any q ht4 hD.tl ⟨hx0, by omega⟩ (by show x.x.toNat < s.locks.length; rw [h.ll]; omega)
   rw [hst, hs1] at this
   refine this.mono ?_
   rintro r w' ⟨rfl, q2⟩
   refine ⟨rfl, ?_⟩
   unfold stpM; rw [hop]
   show StR w w' b sb p (Prod.fst (if s.locks.getD x.x.toNat 0 ≠ t then _ else _ : MS × Ev)) t x (Prod.snd (if s.locks.getD x.x.toNat 0 ≠ t then _ else _ : MS × Ev))
   have q2 : if s.locks.getD x.x.toNat 0 ≠ (t : Int) then _ else _ := q2
   by_cases d : s.locks.getD x.x.toNat 0 ≠ t
   ·rw [if_pos d] at q2 ⊢; exact q2
   ·rw [if_neg d] at q2 ⊢; exact q2
  ·refine ⟨63, rfl, fun w q => ?_⟩
   have hv := x4 (by decide)
   have := hf.four
   have := spawn_any q ⟨hx0, by omega⟩ (by rw [hl1, h.tl]; omega)
   unfold stpM; rw [hop]; exact this
  ·refine ⟨64, rfl, fun w q => ?_⟩
   have := dJoin_any q
   unfold stpM; rw [hop]; exact this
  ·refine ⟨66, rfl, fun w q => ?_⟩
   have := dJump_any q ht4 hD.tl hx0
   rw [hst, hs1] at this
   unfold stpM; rw [hop]; exact this
  ·refine ⟨68, rfl, fun w q => ?_⟩
   have := dJeq_any q hD
   rw [hst, hvl, hvl, hs1] at this
   unfold stpM; rw [hop]
   refine this.mono ?_
   rintro r w' ⟨rfl, q2⟩
   refine ⟨rfl, ?_⟩
   show StR w w' b sb p (s.setT t { s.th t with pc := if vlM (s.th t) x.aR x.aN = vlM (s.th t) x.bR x.bN then x.x.toNat else (s.th t).pc + 1 }) t x _
   by_cases d : vlM (s.th t) x.aR x.aN = vlM (s.th t) x.bR x.bN
   ·rw [if_pos (by simp [d])] at q2; rw [if_pos d]; exact q2
   ·rw [if_neg (by simp [d])] at q2; rw [if_neg d]; exact q2
  ·refine ⟨69, rfl, fun w q => ?_⟩
   have := dJlt_any q hD
   rw [hst, hvl, hvl, hs1] at this
   unfold stpM; rw [hop]
   refine this.mono ?_
   rintro r w' ⟨rfl, q2⟩
   refine ⟨rfl, ?_⟩
   show StR w w' b sb p (s.setT t { s.th t with pc := if vlM (s.th t) x.aR x.aN < vlM (s.th t) x.bR x.bN then x.x.toNat else (s.th t).pc + 1 }) t x _
   by_cases d : vlM (s.th t) x.aR x.aN < vlM (s.th t) x.bR x.bN
   ·rw [if_pos (by simp [d])] at q2; rw [if_pos d]; exact q2
   ·rw [if_neg (by simp [d])] at q2; rw [if_neg d]; exact q2
  ·refine ⟨70, rfl, fun w q => ?_⟩
   have := check_any q hD
   rw [hst, hvl, hvl, hs1] at this
   unfold stpM; rw [hop]
   refine this.mono ?_
   rintro r w' ⟨rfl, q2⟩
   refine ⟨rfl, ?_⟩
   show StR w w' b sb p (Prod.fst (if vlM _ _ _ ≠ vlM _ _ _ then _ else _ : MS × Ev)) t x (Prod.snd (if vlM _ _ _ ≠ vlM _ _ _ then _ else _ : MS × Ev))
   by_cases d : vlM (s.th t) x.aR x.aN ≠ vlM (s.th t) x.bR x.bN
   ·rw [if_pos d] at q2 ⊢; exact q2
   ·rw [if_neg d] at q2 ⊢; exact q2
  ·refine ⟨71, rfl, fun w q => ?_⟩
   have := end_any q ht4 (by rw [hl1]; exact htl)
   rw [hs1, hst] at this
   unfold stpM; rw [hop]; exact this
end
end Go.Proofs.YtcfpedjfofpnkaaGreatDoor
