import Derived.Test.YtcfpedjfofpnkaaGreatDoorRv5
import Derived.Test.YtcfpedjfofpnkaaGreatDoorRv23
import Derived.Test.YtcfpedjfofpnkaaGreatDoorRv19
import Derived.Test.YtcfpedjfofpnkaaGreatDoorRv21
import Derived.Test.YtcfpedjfofpnkaaGreatDoorRv20
import Derived.BigQuiet
import Derived.BigRegion
set_option linter.unusedVariables false
set_option linter.unusedSimpArgs false
namespace Go.Proofs.YtcfpedjfofpnkaaGreatDoor
open Go.RowKit Go.Proofs.Cod
section
variable {w w' : World} {b : Nat}
def pdOf (vs fs ls : List Tx) (L : List (Tx × Value)) (C : List (List In7)) : PD := ⟨vs, fs, ls, L.map Prod.fst, C⟩
structure NewB (vs fs ls : List Tx) (L : List (Tx × Value)) (C : List (List In7)) : Prop where
 v : vs.length ≤ 4
 f : fs.length ≤ 4
 l : ls.length ≤ 4
 t : L.length ≤ 4
 c : ∀ c, c ∈ C → c.length ≤ 24
set_option maxRecDepth 100000 in
set_option maxHeartbeats 2000000 in
theorem new_any {base : Nat} {vV fV lV thV : Value} {vs fs ls : List Tx} {L : List (Tx × Value)} {C : List (List In7)} (hp : ProgW w base vV fV lV thV vs fs ls L C) (hb : NewB vs fs ls L C) :
 Calls Tryz.prog 9 #[.agg #[vV, fV, lV, thV]] w fun e w' => ∃ b, e = .returned (ptrV b) ∧ w.heap.size ≤ b ∧ MachW w' b (pdOf vs fs ls L C) (newM vs.length fs.length ls.length L.length) ∧ Below w.heap.size w w' := by
 obtain ⟨va, vc, hv, hvs⟩ := row_ws0 hp.v rfl
 obtain ⟨fa, fc, hf, hfs⟩ := row_ws0 hp.f rfl
 obtain ⟨la, lc, hl, hls⟩ := row_ws0 hp.l rfl
 obtain ⟨ta, tc, hth⟩ := owns_len hp.t
 subst hv hf hl hth
 obtain ⟨W1, hW1⟩ : ∃ W1, w.alloc (.cells #[.slice va vs.length vc, .slice fa fs.length fc, .slice la ls.length lc, .slice ta L.length tc] 26) = W1 := ⟨_, rfl⟩
 have hB1 : Below w.heap.size w W1 := by rw [← hW1]; exact (Below.refl _ _).alloc (Nat.le_refl _) _
 have hk1 : W1.heap[w.heap.size]? = some (.cells #[.slice va vs.length vc, .slice fa fs.length fc, .slice la ls.length lc, .slice ta L.length tc] 26) := by rw [← hW1]; exact World.alloc_heap_new w _
 have hz1 : W1.heap.size = w.heap.size + 1 := by rw [← hW1]; show (w.heap.push _).size = _; simp
 have hcl : ∀ w2, Below W1.heap.size W1 w2 → w2.cell? ⟨w.heap.size, 0, none⟩ = some (.slice va vs.length vc) ∧ w2.cell? ⟨w.heap.size, 1, none⟩ = some (.slice fa fs.length fc) ∧ w2.cell? ⟨w.heap.size, 2, none⟩ = some (.slice la ls.length lc) ∧ w2.cell? ⟨w.heap.size, 3, none⟩ = some (.slice ta L.length tc) := fun w2 h2 => by
  have q := (h2.block w.heap.size (by omega)).trans hk1
  exact ⟨by simp [World.cell?, q], by simp [World.cell?, q], by simp [World.cell?, q], by simp [World.cell?, q]⟩
 have hN1 := fun w2 (h2 : Below W1.heap.size W1 w2) => newCells_any (cap := vc) rfl (hvs.below (hB1.trans (h2.mono hB1.size))) hb.v 0
 have hN2 := fun w2 (h2 : Below W1.heap.size W1 w2) => newCells_any (cap := fc) rfl (hfs.below (hB1.trans (h2.mono hB1.size))) hb.f 0
 have hN3 := fun w2 (h2 : Below W1.heap.size W1 w2) => newCells_any (cap := lc) rfl (hls.below (hB1.trans (h2.mono hB1.size))) hb.l (-1)
 obtain ⟨R1, hR1⟩ : ∃ R, rowA 9 (cellsF vs (List.replicate vs.length 0)) = R := ⟨_, rfl⟩
 obtain ⟨R2, hR2⟩ : ∃ R, rowA 9 (cellsF fs (List.replicate fs.length 0)) = R := ⟨_, rfl⟩
 obtain ⟨R3, hR3⟩ : ∃ R, rowA 9 (cellsF ls (List.replicate ls.length (-1))) = R := ⟨_, rfl⟩
 obtain ⟨M, hM⟩ : ∃ M, rowA 856 (mcI (pdOf vs fs ls L C) 0) = M := ⟨_, rfl⟩
 have hbu : Tryz.prog.built 92 [(0, .agg R1), (1, .agg R2), (2, .agg R3), (4, .int .i64 L.length)] = some M := by
  have q := mach_raw (fun k => if k < 9 then cellsF vs (List.replicate vs.length 0) k else if k < 18 then cellsF fs (List.replicate fs.length 0) (k - 9) else cellsF ls (List.replicate ls.length (-1)) (k - 18)) L.length
  rw [← hR1, ← hR2, ← hR3, ← hM, ← mcI_zero]
  rw [show (pdOf vs fs ls L C).ts.length = L.length from List.length_map _]
  exact q
 simp only [hR1] at hN1
 simp only [hR2] at hN2
 simp only [hR3] at hN3
 have HP := hide (⟨hp, hb, hB1, hz1, hk1⟩ : _ ∧ _ ∧ _ ∧ _ ∧ _)
 replace hN1 := hide hN1
 replace hN2 := hide hN2
 replace hN3 := hide hN3
 replace hcl := hide hcl
 replace hbu := hide hbu
 replace hM := hide hM
 obtain ⟨c0, c1, c2, c3⟩ := hcl.out W1.drew (⟨rfl, rfl, rfl, Nat.le_refl _, fun _ _ => rfl⟩)
 clear hp hb hB1 hk1 hz1 hR1 hR2 hR3 hvs hfs hls
 go_enter Tryz.func9, Tryz.ntmps9
 go_wp2_with fail
 try rw [hW1]
 replace hW1 := hide hW1
 have hd : Below W1.heap.size W1 W1.drew := ⟨rfl, rfl, rfl, Nat.le_refl _, fun _ _ => rfl⟩
 refine wp_region_held_drew (S := (fun w' => w'.cell? ⟨w.heap.size, 0, none⟩ = some (.slice va vs.length vc) ∧ w'.cell? ⟨w.heap.size, 1, none⟩ = some (.slice fa fs.length fc) ∧ w'.cell? ⟨w.heap.size, 2, none⟩ = some (.slice la ls.length lc) ∧ w'.cell? ⟨w.heap.size, 3, none⟩ = some (.slice ta L.length tc))) (by kernel_rfl) ⟨c0, c1, c2, c3⟩ (fun hHeld => ?_)
 clear c0 c1 c2 c3
 refine tk 0 hHeld ?_
 refine tk 1 hHeld ?_
 refine tk 3 hHeld ?_
 refine tk 4 hHeld ?_
 refine tk 6 hHeld ?_
 refine tk 7 hHeld ?_
 refine tk 9 hHeld ?_
 refine tk 10 hHeld ?_
 refine tk 11 hHeld ?_
 refine rd 2 (fun K hK => ?_)
 go_simp
 go_at_call 27
 refine (hN1.out _ hd).mono ?_
 rintro e v1 ⟨rfl, hbv1⟩
 replace hbv1 : Below W1.heap.size W1 v1 := hd.trans (hbv1.mono hd.size)
 obtain ⟨c0, c1, c2, c3⟩ := hcl.out v1 hbv1
 replace hbv1 := hide hbv1
 go_wp2_with fail
 refine hK.out _ _ ⟨c0, c1, c2, c3⟩ (fun hHeld => ?_)
 clear hK K c0 c1 c2 c3
 try simp only [Act.put, sq]
 refine rd 5 (fun K hK => ?_)
 go_simp
 go_at_call 27
 refine (hN2.out _ hbv1.out).mono ?_
 rintro e v2 ⟨rfl, hbv2⟩
 replace hbv2 : Below W1.heap.size W1 v2 := hbv1.out.trans (hbv2.mono hbv1.out.size)
 obtain ⟨c0, c1, c2, c3⟩ := hcl.out v2 hbv2
 replace hbv2 := hide hbv2
 go_wp2_with fail
 refine hK.out _ _ ⟨c0, c1, c2, c3⟩ (fun hHeld => ?_)
 clear hK K c0 c1 c2 c3
 try simp only [Act.put, sq]
 refine rd 8 (fun K hK => ?_)
 go_simp
 go_at_call 27
 refine (hN3.out _ hbv2.out).mono ?_
 rintro e v3 ⟨rfl, hbv3⟩
 replace hbv3 : Below W1.heap.size W1 v3 := hbv2.out.trans (hbv3.mono hbv2.out.size)
 obtain ⟨c0, c1, c2, c3⟩ := hcl.out v3 hbv3
 replace hbv3 := hide hbv3
 go_wp2_with fail
 refine hK.out _ _ ⟨c0, c1, c2, c3⟩ (fun hHeld => ?_)
 clear hK K c0 c1 c2 c3
 try simp only [Act.put, sq]
 refine rd 12 (fun K hK => ?_)
 refine wp_build_at _ _ rfl [(0, .agg R1), (1, .agg R2), (2, .agg R3), (4, .int .i64 L.length)] rfl M hbu.out ?_
 obtain ⟨c0, c1, c2, c3⟩ := hcl.out v3 hbv3.out
 refine hK.out _ _ ⟨c0, c1, c2, c3⟩ (fun hHeld => ?_)
 clear hK K
 try simp only [Act.put, sq]
 refine rd 13 (fun K hK => ?_)
 refine wp_box_any _ _ rfl M rfl ?_
 obtain ⟨W4, hW4⟩ : ∃ W4, v3.alloc (.cells M 92) = W4 := ⟨_, rfl⟩
 rw [hW4]
 have hb4 : Below v3.heap.size v3 W4 := by rw [← hW4]; exact (Below.refl _ _).alloc (Nat.le_refl _) _
 replace hb4 : Below W1.heap.size W1 W4 := hbv3.out.trans (hb4.mono hbv3.out.size)
 have hm4 : RowF W4 v3.heap.size 92 856 (mcI (pdOf vs fs ls L C) 0) := by
  have q := RowF.new (f := mcI (pdOf vs fs ls L C) 0) v3 M 92 (fun k hk => by rw [← hM.out] at hk ⊢; rw [rowA_size] at hk; simp [rowA, hk])
  rw [hW4, ← hM.out, rowA_size] at q
  exact q
 obtain ⟨c0, c1, c2, c3⟩ := hcl.out W4 hb4
 refine hK.out _ _ ⟨c0, c1, c2, c3⟩ (fun hHeld => ?_)
 clear hK K
 try simp only [Act.put, sq]
 refine tk 14 hHeld ?_
 refine wpAnyH_done (by kernel_rfl) ?_ _
 have hD := deeds_any W4
 have HQ := hide (⟨hb4, hm4, hbv3.out⟩ : _ ∧ _ ∧ _)
 clear hHeld hb4 hm4 hbv1 hbv2 hbv3 hd hW4 hbu hN1 hN2 hN3 hM c0 c1 c2 c3
 go_wp2_with fail
 refine hD.mono ?_
 rintro e W5 ⟨rfl, hd5, hb5⟩
 obtain ⟨hb4, hm4, hbv3⟩ := HQ.out
 obtain ⟨hp, hb, hB1, hz1, hk1⟩ := HP.out
 have hb15 : Below W1.heap.size W1 W5 := hb4.trans (hb5.mono hb4.size)
 obtain ⟨-, -, -, c3⟩ := hcl.out W5 hb15
 have hlt4 := hm4.lt
 have hm5 := hm4.below hb5
 have hB5 : Below w.heap.size w W5 := hB1.trans (hb15.mono hB1.size)
 have hmb : w.heap.size < v3.heap.size := by have := hbv3.size; omega
 have HR := hide (⟨hm5, hd5, hB5, hmb, hlt4, hp, hb⟩ : _ ∧ _ ∧ _ ∧ _ ∧ _ ∧ _ ∧ _)
 clear hb4 hm4 hbv3 hp hb hB1 hz1 hk1 hb15 hm5 hB5 hmb HQ HP hD hd5 hb5 hcl hlt4
 obtain ⟨mb, hmbq⟩ : ∃ mb, v3.heap.size = mb := ⟨_, rfl⟩
 obtain ⟨m, hmq⟩ : ∃ m, W4.heap.size = m := ⟨_, rfl⟩
 rw [hmbq, hmq] at HR
 go_wp2_with fail
 try rw [hmbq]
 try rw [hmq]
 clear hmbq hmq
 go_loopw [25] (fun iv wr => ∃ i : Nat, i ≤ L.length ∧ iv = .int .i64 i ∧ RowF wr mb 92 856 (mcI (pdOf vs fs ls L C) i) ∧ KeepS (fun k => k = mb) W5 wr) (fun iv _ => L.length - (intOf iv).toNat)
 case atStart => exact ⟨0, Nat.zero_le _, rfl, HR.out.1, KeepS.refl _⟩
 case round =>
  obtain ⟨i, hi, rfl, hM, hK⟩ := hrel
  obtain ⟨hm5, hd5, hB5, hmb, hlt4, hp, hb⟩ := HR.out
  have hmlt := hd5.lt
  have hBr : Below w.heap.size w wr := ⟨hK.os.trans hB5.os, hK.tape.trans hB5.tape, hK.output.trans hB5.output, Nat.le_trans hB5.size hK.size, fun k hk => (hK.block k (by have := hB5.size; omega) (by omega)).trans (hB5.block k hk)⟩
  have hpr := hp.below hBr
  have hdr : Deeds wr m := hd5.same (hK.block m hmlt (by omega))
  by_cases h5 : i < L.length
  ·obtain ⟨q, hq⟩ : ∃ q, L[i]? = some q := ⟨_, List.getElem?_eq_getElem h5⟩
   obtain ⟨c, hc⟩ : ∃ c, C[i]? = some c := ⟨_, List.getElem?_eq_getElem (by rw [hp.len]; exact h5)⟩
   have hi4 : i < 4 := by have := hb.t; omega
   have hii : (i : Int) < 4 := by omega
   have hlt : (i : Int) < (L.length : Int) := by omega
   have hc24 := hb.c c (List.mem_of_getElem? hc)
   obtain ⟨g, cap, hgv, hgl, t0, t1⟩ := hpr.thrAt hq
   injection hgv with hta hn1 hcap
   subst hta
   clear hn1 hcap
   have hrow := hpr.c i q c hq hc
   have hth : thrF ((pdOf vs fs ls L C).ts.getD i []) ((pdOf vs fs ls L C).C[i]?) ts0 = thrF q.1 (some c) ts0 := by
    show thrF ((L.map Prod.fst).getD i []) (C[i]?) ts0 = _
    rw [hc, List.getD_eq_getElem?_getD, List.getElem?_map, hq]; rfl
   obtain ⟨nm, cv⟩ := q
   dsimp only at t0 t1 hrow hth
   obtain ⟨ca, ccap, hcv⟩ := owns_len hrow
   subst hcv
   obtain ⟨Wa, hWa⟩ : ∃ Wa, wr.alloc (.cells #[.string (bs nm), .slice ca c.length ccap] 63) = Wa := ⟨_, rfl⟩
   have hBa : Below wr.heap.size wr Wa.drew := by rw [← hWa]; exact ((Below.refl _ _).alloc (Nat.le_refl _) _).drew
   have hka : Wa.drew.heap[wr.heap.size]? = some (.cells #[.string (bs nm), .slice ca c.length ccap] 63) := by rw [← hWa]; exact World.alloc_heap_new wr _
   have hNt := newThread_any nm (c_belowS hrow hBa) hc24 (hdr.same (hBa.block m hdr.lt))
   have s0 : Wa.drew.cell? ⟨wr.heap.size, 0, none⟩ = some (.string (bs nm)) := by simp [World.cell?, hka]
   have s1 : Wa.drew.cell? ⟨wr.heap.size, 1, none⟩ = some (.slice ca c.length ccap) := by simp [World.cell?, hka]
   obtain ⟨R, hR⟩ : ∃ R, rowA 207 (thrF nm (some c) ts0) = R := ⟨_, rfl⟩
   rw [hR] at hNt
   have hRs : R.size = 207 := by rw [← hR, rowA_size]
   have hR1 : ∀ x ∈ R.toList, x.oneCell' = true := by rw [← hR]; exact range_all _ 207 (thrF_one _ _ _)
   have hRi : (Tryz.prog.info? 89).map (·.size) = some R.size := by rw [hRs]; exact Tryz.sizeTh
   have HF : Hid (∀ w6, Below Wa.drew.heap.size Wa.drew w6 → (w6.cell? ⟨wr.heap.size, 0, none⟩ = some (.string (bs nm)) ∧ w6.cell? ⟨wr.heap.size, 1, none⟩ = some (.slice ca c.length ccap)) ∧ (∀ j, j < R.size → (w6.cell? ⟨mb, 27 + i * 207 + j, none⟩).isSome = true) ∧ (∀ j, j < R.size → w6.frozen? ⟨mb, 27 + i * 207 + j, none⟩ = false) ∧ RowF (w6.setCells mb (27 + i * 207) R.toList) mb 92 856 (mcI (pdOf vs fs ls L C) (i + 1)) ∧ KeepS (fun k => k = mb) W5 (w6.setCells mb (27 + i * 207) R.toList) ∧ ((w6.setCells mb (27 + i * 207) R.toList).cell? ⟨wr.heap.size, 0, none⟩ = some (.string (bs nm)) ∧ (w6.setCells mb (27 + i * 207) R.toList).cell? ⟨wr.heap.size, 1, none⟩ = some (.slice ca c.length ccap))) := fun w6 h6 => by
    have hza : wr.heap.size < Wa.drew.heap.size := (Array.getElem?_eq_some_iff.1 hka).1
    have q6 := (h6.block _ hza).trans hka
    have hM6 : RowF w6 mb 92 856 (mcI (pdOf vs fs ls L C) i) := hM.below (hBa.trans (h6.mono hBa.size))
    have hkk := setCells_keep (S := fun k => k = mb) (w := w6) (b := mb) R.toList (27 + i * 207) (KeepS.refl w6) (.inl rfl)
    have hmw := hM.lt
    have q7 := (hkk.block wr.heap.size (by have := h6.size; omega) (by omega)).trans q6
    refine ⟨⟨by simp [World.cell?, q6], by simp [World.cell?, q6]⟩, fun j hj => by rw [hM6.cell (by omega)]; rfl, fun j _ => hM6.frozen _, ?_, ?_, ⟨by simp [World.cell?, q7], by simp [World.cell?, q7]⟩⟩
    ·have q := hM6.putThr hi4
     rw [hth, hR] at q
     exact q
    ·exact (hK.trans (KeepS.ofBelow (hBa.trans (h6.mono hBa.size)))).trans hkk
   have HR1 := hide (⟨hR1, hRi, h5⟩ : _ ∧ _ ∧ _)
   have hwi : wrap64 ((i : Int) + 1) = (i : Int) + 1 := by unfold wrap64; omega
   clear hM hK hm5 hd5 hB5 hmb hlt4 hp hb hmlt hBr hpr hdr hq hc hc24 hgl hrow hth hBa hka hR hRs hR1 hRi h5 hi HR
   go_wp2_with fail
   try rw [hWa]
   refine wp_region_held_drew (S := (fun w' => w'.cell? ⟨wr.heap.size, 0, none⟩ = some (.string (bs nm)) ∧ w'.cell? ⟨wr.heap.size, 1, none⟩ = some (.slice ca c.length ccap))) (by kernel_rfl) ⟨s0, s1⟩ (fun hHeld => ?_)
   clear s0 s1
   refine tk 0 hHeld ?_
   refine tk 1 hHeld ?_
   refine tk 2 hHeld ?_
   refine tk 3 hHeld ?_
   refine tk 5 hHeld ?_
   refine tk 6 hHeld ?_
   refine rd 4 (fun K hK => ?_)
   go_simp
   go_at_call 29
   refine hNt.mono ?_
   rintro e w6 ⟨rfl, h6⟩
   obtain ⟨g1, g2, g3, g4, g5, g6⟩ := HF.out w6 h6
   replace g2 := hide g2
   replace g3 := hide g3
   replace g4 := hide g4
   replace g5 := hide g5
   go_wp2_with fail
   refine hK.out _ _ g1 (fun hHeld => ?_)
   clear hK K h6 hNt HF
   try simp only [Act.put, sq]
   refine tk 7 hHeld ?_
   refine rd 8 (fun K hK => ?_)
   refine wp_store_sub _ _ _ rfl mb (27 + i * 207) R rfl rfl g2.out g3.out HR1.out.2.1 HR1.out.1 ?_
   refine hK.out _ _ g6 (fun hHeld => ?_)
   clear hK K
   try simp only [Act.put, sq]
   refine wpAnyH_done (by kernel_rfl) ?_ _
   clear hHeld g1 g6
   go_wp2_with fail
   go_roundw
   case rel =>
    (try rw [hwi])
    exact ⟨i + 1, HR1.out.2.2, rfl, g4.out, g5.out⟩
   case measure =>
    (try rw [hwi])
    exact Nat.sub_lt_sub_left HR1.out.2.2 (Nat.lt_succ_self i)
  ·have hil : i = L.length := by omega
   subst hil
   have hpl : (pdOf vs fs ls L C).ts.length = L.length := List.length_map _
   have hM2 : RowF wr mb 92 856 (mcF (pdOf vs fs ls L C) (begS (pdOf vs fs ls L C))) := hM.congr fun k hk => by rw [← hpl]; exact mcI_full _ (by show C.length = _; rw [hpl]; exact hp.len) k hk
   have d1 := mach_cnt hM2
   rw [hpl] at d1
   have f1 := hM2.frozen
   by_cases h0 : 0 < L.length
   ·have d2 : wr.cell? ⟨mb, 28, none⟩ = some (.int .i64 0) := by
     have q := mach_ph hM2 (t := 0) (by omega)
     rw [begS_th] at q
     exact q
    have g0 : decide (0 < (L.length : Int)) = true := by simpa using h0
    have g0n : decide (0 < L.length) = true := by simpa using h0
    have hfin : RowF (wr.setCell ⟨mb, 28, none⟩ (.int .i64 1)) mb 92 856 (mcF (pdOf vs fs ls L C) (newM vs.length fs.length ls.length L.length)) := by
     refine (hM2.set 28 (.int .i64 1)).congr fun k _ => ?_
     have q := mc_setPh (p := pdOf vs fs ls L C) (s := begS (pdOf vs fs ls L C)) (t := 0) (by omega) (by unfold begS; simp [hpl]; exact h0) 1 (k := k)
     rw [beg_new_eq _ k (by rw [hpl]; exact h0), hpl] at q
     exact q
    have hset : Below w.heap.size w (wr.setCell ⟨mb, 28, none⟩ (.int .i64 1)) := hBr.setCell (show w.heap.size ≤ mb by omega) _
    have HE := hide (⟨hfin, hset, hmb⟩ : _ ∧ _ ∧ _)
    clear hM hK hm5 hd5 hB5 hmb hlt4 hp hb hmlt hBr hpr hdr h5 hi HR hM2 hpl hfin h0
    try clear hset
    go_wp2_with fail
    go_ret
    exact ⟨mb, rfl, by have := HE.out.2.2; omega, HE.out.1, HE.out.2.1⟩
   ·have h00 : L = [] := List.length_eq_zero_iff.1 (by omega)
    subst h00
    have hfin : RowF wr mb 92 856 (mcF (pdOf vs fs ls [] C) (newM vs.length fs.length ls.length 0)) := hM2.congr fun k _ => beg_none_eq _ k rfl
    have HE := hide (⟨hfin, hBr, hmb⟩ : _ ∧ _ ∧ _)
    clear hM hK hm5 hd5 hB5 hmb hlt4 hp hb hmlt hBr hpr hdr h5 hi HR hM2 hpl hfin h0
    try clear hset
    go_wp2_with fail
    go_ret
    exact ⟨mb, rfl, by have := HE.out.2.2; omega, HE.out.1, HE.out.2.1⟩
end
def stF (b t : Nat) (x : In7) (e : Ev) (j : Nat) : Value := if j = 0 then .pointer (some ⟨b, 0, none⟩) else if j = 1 then .pointer (some ⟨b, 27 + t * 207, none⟩) else if j < 9 then insF x (j - 2) else if j = 9 then .int .i64 e.t else if j = 10 then .int .i64 e.k else if j = 11 then .int .i64 e.o else .int .i64 e.v
structure StV (w : World) (b sb : Nat) (p : PD) (s : MS) (t : Nat) (x : In7) (e : Ev) : Prop where
 m : RowF w b 92 856 (mcF p s)
 st : RowF w sb 119 13 (stF b t x e)
 ne : b ≠ sb
section
variable {w w' : World} {b sb : Nat} {p : PD} {s : MS} {t : Nat} {x : In7} {e : Ev}
theorem StV.below (h : StV w b sb p s t x e) (hb : Below w.heap.size w w') : StV w' b sb p s t x e := ⟨h.m.below hb, h.st.below hb, h.ne⟩
theorem StV.same (h : StV w b sb p s t x e) (h1 : w'.heap = w.heap) : StV w' b sb p s t x e := ⟨h.m.same (by rw [h1]), h.st.same (by rw [h1]), h.ne⟩
theorem StV.ptrs (h : StV w b sb p s t x e) : w.cell? ⟨sb, 0, none⟩ = some (.pointer (some ⟨b, 0, none⟩)) ∧ w.cell? ⟨sb, 1, none⟩ = some (.pointer (some ⟨b, 27 + t * 207, none⟩)) := ⟨h.st.cell (by omega), h.st.cell (by omega)⟩
theorem StV.ins (h : StV w b sb p s t x e) : w.cell? ⟨sb, 2, none⟩ = some (.string (bs x.op)) ∧ w.cell? ⟨sb, 3, none⟩ = some (.int .i64 x.r) ∧ w.cell? ⟨sb, 4, none⟩ = some (.bool x.aR) ∧ w.cell? ⟨sb, 5, none⟩ = some (.int .i64 x.aN) ∧ w.cell? ⟨sb, 6, none⟩ = some (.bool x.bR) ∧ w.cell? ⟨sb, 7, none⟩ = some (.int .i64 x.bN) ∧ w.cell? ⟨sb, 8, none⟩ = some (.int .i64 x.x) :=
 ⟨h.st.cell (by omega), h.st.cell (by omega), h.st.cell (by omega), h.st.cell (by omega), h.st.cell (by omega), h.st.cell (by omega), h.st.cell (by omega)⟩
theorem StV.evs (h : StV w b sb p s t x e) : w.cell? ⟨sb, 9, none⟩ = some (.int .i64 e.t) ∧ w.cell? ⟨sb, 10, none⟩ = some (.int .i64 e.k) ∧ w.cell? ⟨sb, 11, none⟩ = some (.int .i64 e.o) ∧ w.cell? ⟨sb, 12, none⟩ = some (.int .i64 e.v) :=
 ⟨h.st.cell (by omega), h.st.cell (by omega), h.st.cell (by omega), h.st.cell (by omega)⟩
theorem StV.setK (h : StV w b sb p s t x e) (v : Int) : StV (w.setCell ⟨sb, 10, none⟩ (.int .i64 v)) b sb p s t x { e with k := v } :=
 ⟨h.m.other h.ne _, (h.st.set 10 _).congr fun j _ => by
  by_cases ej : j = 10
  ·subst ej; rfl
  ·unfold stF; rw [if_neg ej, if_neg ej, if_neg ej], h.ne⟩
theorem StV.setO (h : StV w b sb p s t x e) (v : Int) : StV (w.setCell ⟨sb, 11, none⟩ (.int .i64 v)) b sb p s t x { e with o := v } :=
 ⟨h.m.other h.ne _, (h.st.set 11 _).congr fun j _ => by
  by_cases ej : j = 11
  ·subst ej; rfl
  ·unfold stF; rw [if_neg ej, if_neg ej, if_neg ej], h.ne⟩
theorem StV.setV (h : StV w b sb p s t x e) (v : Int) : StV (w.setCell ⟨sb, 12, none⟩ (.int .i64 v)) b sb p s t x { e with v := v } :=
 ⟨h.m.other h.ne _, (h.st.set 12 _).congr fun j hj => by
  by_cases ej : j = 12
  ·subst ej; rfl
  ·unfold stF
   rw [if_neg ej]
   by_cases e1 : j = 0
   ·rw [if_pos e1, if_pos e1]
   ·rw [if_neg e1, if_neg e1]
    by_cases e1 : j = 1
    ·rw [if_pos e1, if_pos e1]
    ·rw [if_neg e1, if_neg e1]
     by_cases e1 : j < 9
     ·rw [if_pos e1, if_pos e1]
     ·rw [if_neg e1, if_neg e1]
      by_cases e1 : j = 9
      ·rw [if_pos e1, if_pos e1]
      ·rw [if_neg e1, if_neg e1]
       by_cases e1 : j = 10
       ·rw [if_pos e1, if_pos e1]
       ·rw [if_neg e1, if_neg e1, if_pos (by omega), if_pos (by omega)], h.ne⟩
theorem StV.setM (h : StV w b sb p s t x e) {k : Nat} {v : Value} {s' : MS} (he : ∀ j, (if j = k then v else mcF p s j) = mcF p s' j) : StV (w.setCell ⟨b, k, none⟩ v) b sb p s' t x e :=
 ⟨(h.m.set k v).congr fun j _ => he j, h.st.other (fun e' => h.ne e'.symm) _, h.ne⟩
end
section
variable {w w' : World} {b sb : Nat} {p : PD} {s : MS} {t : Nat} {x : In7} {e : Ev}
set_option maxRecDepth 100000 in
theorem value_any (h : StV w b sb p s t x e) (ht : t < 4) (hr : (s.th t).regs.length = 4) (r : Bool) (n : Int) (ha : argB4 r n) :
 Calls Tryz.prog 51 #[ptrV sb, .agg #[.bool r, .int .i64 n]] w fun e' w' => e' = .returned (.int .i64 (vlM (s.th t) r n)) ∧ Below w.heap.size w w' := by
 have hB : ∀ o, Below w.heap.size w (w.alloc o) := fun o => (Below.refl _ _).alloc (Nat.le_refl _) o
 obtain ⟨m, rfl⟩ : ∃ m : Nat, n = m := ⟨n.toNat, by have := ha.1; omega⟩
 have h2 := h.below (hB (.cells #[.bool r, .int .i64 m] 65))
 obtain ⟨-, c1⟩ := h2.ptrs
 unfold ptrV
 cases r with
 | false =>
  have HB := hide (hB (.cells #[.bool false, .int .i64 m] 65))
  clear hB h h2
  go_enter Tryz.func51, Tryz.ntmps51
  go_wp2_with fail
  go_ret
  exact ⟨rfl, HB.out⟩
 | true =>
  have hm : m < 4 := by have := ha.2.2 rfl; omega
  have hcR : (w.alloc (.cells #[.bool true, .int .i64 m] 65)).cell? ⟨b, 27 + t * 207 + 3 + m, none⟩ = some (.int .i64 ((s.th t).regs.getD m 0)) := by
   rw [show 27 + t * 207 + 3 + m = 27 + t * 207 + (3 + m) by omega, h2.m.cell (by omega), mc_thr p s ht (by omega)]
   unfold thrF
   rw [if_neg (by omega), if_neg (by omega), if_neg (by omega), if_pos (by omega), show 3 + m - 3 = m by omega]
  have hm4 : (m : Int) < 4 := by omega
  have HB := hide (hB (.cells #[.bool true, .int .i64 m] 65))
  have hv : Hid (vlM (s.th t) true (m : Int) = (s.th t).regs.getD m 0) := rfl
  clear hB h h2 ha hr ht
  generalize (s.th t).regs.getD m 0 = v at *
  go_enter Tryz.func51, Tryz.ntmps51
  go_wp2_with fail
  go_quiet (fail)
  go_wp2_with fail
  go_ret
  exact ⟨by rw [hv.out]; rfl, HB.out.trans ⟨rfl, rfl, rfl, Nat.le_refl _, fun _ _ => rfl⟩⟩
end
section
variable {w w' : World} {b sb : Nat} {p : PD} {s : MS} {t : Nat} {x : In7} {e : Ev}
structure StR (w w' : World) (b sb : Nat) (p : PD) (s : MS) (t : Nat) (x : In7) (e : Ev) : Prop where
 v : StV w' b sb p s t x e
 k : KeepS (fun k => k = b ∨ k = sb) w w'
theorem StR.of (v : StV w' b sb p s t x e) (k : KeepS (fun k => k = b ∨ k = sb) w w') : StR w w' b sb p s t x e := ⟨v, k⟩
theorem StR.then {w'' : World} {s' : MS} {e' : Ev} (h : StR w w' b sb p s t x e) (h' : StR w' w'' b sb p s' t x e') : StR w w'' b sb p s' t x e' := ⟨h'.v, h.k.trans h'.k⟩
theorem StV.frz (h : StV w b sb p s t x e) : (∀ i, w.frozen? ⟨sb, i, none⟩ = false) ∧ ∀ i, w.frozen? ⟨b, i, none⟩ = false := ⟨h.st.frozen, h.m.frozen⟩
set_option maxRecDepth 100000 in
theorem tell_any (h : StV w b sb p s t x e) (k : Int) :
 Calls Tryz.prog 65 #[ptrV sb, .int .i64 k] w fun r w' => r = .returned (.tuple #[]) ∧ StR w w' b sb p s t x { e with k := k, o := x.x } := by
 obtain ⟨-, -, -, -, -, -, c8⟩ := h.ins
 obtain ⟨-, c10, c11, -⟩ := h.evs
 obtain ⟨f1, -⟩ := h.frz
 have H := hide h
 clear h
 unfold ptrV
 go_enter Tryz.func65, Tryz.ntmps65
 go_wp2_with fail
 go_end0
 refine ⟨rfl, .of ((H.out.setK k).setO x.x) (((KeepS.refl _).set ?_ _).set ?_ _)⟩
 ·exact .inl (.inr rfl)
 ·exact .inl (.inr rfl)
set_option maxRecDepth 100000 in
theorem fail_any (h : StV w b sb p s t x e) (ht : t < 4) (htl : t < s.thr.length) :
 Calls Tryz.prog 90 #[ptrV sb] w fun r w' => r = .returned (.tuple #[]) ∧ StR w w' b sb p (s.setT t { s.th t with ph := 3 }) t x { e with k := 9 } := by
 obtain ⟨-, c1⟩ := h.ptrs
 obtain ⟨-, c10, -, -⟩ := h.evs
 obtain ⟨f1, f2⟩ := h.frz
 have c2 : w.cell? ⟨b, 27 + t * 207 + 1, none⟩ = some (.int .i64 (s.th t).ph) := by rw [h.m.cell (by omega), mc_thr p s ht (by omega)]; rfl
 have hne := h.ne
 have H := hide h
 clear h
 unfold ptrV
 go_enter Tryz.func90, Tryz.ntmps90
 go_wp2_with fail
 go_end0
 refine ⟨rfl, .of ((H.out.setK 9).setM (fun j => mc_setPh ht htl 3)) (((KeepS.refl _).set ?_ _).set ?_ _)⟩
 ·exact .inl (.inr rfl)
 ·exact .inl (.inl rfl)
set_option maxRecDepth 100000 in
theorem end_any (h : StV w b sb p s t x e) (ht : t < 4) (htl : t < s.thr.length) :
 Calls Tryz.prog 71 #[ptrV sb] w fun r w' => r = .returned (.tuple #[]) ∧ StR w w' b sb p (s.setT t { s.th t with ph := 2 }) t x { e with k := 10 } := by
 obtain ⟨-, c1⟩ := h.ptrs
 obtain ⟨-, c10, -, -⟩ := h.evs
 obtain ⟨f1, f2⟩ := h.frz
 have c2 : w.cell? ⟨b, 27 + t * 207 + 1, none⟩ = some (.int .i64 (s.th t).ph) := by rw [h.m.cell (by omega), mc_thr p s ht (by omega)]; rfl
 have hne := h.ne
 have H := hide h
 clear h
 unfold ptrV
 go_enter Tryz.func71, Tryz.ntmps71
 go_wp2_with fail
 go_end0
 refine ⟨rfl, .of ((H.out.setK 10).setM (fun j => mc_setPh ht htl 2)) (((KeepS.refl _).set ?_ _).set ?_ _)⟩
 ·exact .inl (.inr rfl)
 ·exact .inl (.inl rfl)
set_option maxRecDepth 100000 in
theorem jumpIf_any (h : StV w b sb p s t x e) (ht : t < 4) (htl : t < s.thr.length) (hx : 0 ≤ x.x) (g : Bool) :
 Calls Tryz.prog 67 #[ptrV sb, .bool g] w fun r w' => r = .returned (.tuple #[]) ∧ StR w w' b sb p (if g then s.setT t { s.th t with pc := x.x.toNat } else s) t x e := by
 obtain ⟨n, hn⟩ : ∃ n : Nat, x.x = n := ⟨x.x.toNat, by omega⟩
 obtain ⟨-, c1⟩ := h.ptrs
 obtain ⟨-, -, -, -, -, -, c8⟩ := h.ins
 rw [hn] at c8
 obtain ⟨f1, f2⟩ := h.frz
 have c2 : w.cell? ⟨b, 27 + t * 207 + 2, none⟩ = some (.int .i64 (s.th t).pc) := by rw [h.m.cell (by omega), mc_thr p s ht (by omega)]; rfl
 have hne := h.ne
 have H := hide h
 replace hn : Hid (x.x.toNat = n) := by unfold Hid; omega
 clear h hx
 unfold ptrV
 cases g with
 | false =>
  go_enter Tryz.func67, Tryz.ntmps67
  go_wp2_with fail
  go_end0
  exact ⟨rfl, .of H.out (KeepS.refl _)⟩
 | true =>
  go_enter Tryz.func67, Tryz.ntmps67
  go_wp2_with fail
  go_region
  all_goals
   go_wp2_with fail
   go_end0
   refine ⟨rfl, .of ?_ ((KeepS.refl _).drew.set (.inl (.inl rfl)) _)⟩
   rw [hn.out]
   exact (StV.same (w' := w.drew) H.out rfl).setM (fun j => mc_setPc ht htl n)
end
section
variable {w w' : World} {b sb : Nat} {p : PD} {s : MS} {t : Nat} {x : In7} {e : Ev}
theorem mach_reg (h : RowF w b 92 856 (mcF p s)) {t m : Nat} (ht : t < 4) (hm : m < 4) : w.cell? ⟨b, 27 + t * 207 + 3 + m, none⟩ = some (.int .i64 ((s.th t).regs.getD m 0)) := by
 rw [show 27 + t * 207 + 3 + m = 27 + t * 207 + (3 + m) by omega, h.cell (by omega), mc_thr p s ht (by omega)]
 unfold thrF
 rw [if_neg (by omega), if_neg (by omega), if_neg (by omega), if_pos (by omega), show 3 + m - 3 = m by omega]
theorem tmod_mod {n : Int} (h : -1000 ≤ n) : Int.tmod (n + 1000) 1000 = (n + 1000) % 1000 := Int.tmod_eq_emod_of_nonneg (by omega)
set_option maxRecDepth 100000 in
set_option maxHeartbeats 1000000 in
theorem assign_any (h : StV w b sb p s t x e) (ht : t < 4) (htl : t < s.thr.length) (hrl : (s.th t).regs.length = 4) (hr : 0 ≤ x.r ∧ x.r < 4) (n : Int) (hn : -1000 ≤ n) (hn2 : n < 2000000) :
 Calls Tryz.prog 50 #[ptrV sb, .int .i64 n] w fun r w' => r = .returned (.tuple #[]) ∧ StR w w' b sb p (s.setT t { s.th t with regs := (s.th t).regs.set x.r.toNat (n % 1000) }) t x e := by
 obtain ⟨m, hm⟩ : ∃ m : Nat, x.r = m := ⟨x.r.toNat, by omega⟩
 have hm4 : m < 4 := by omega
 have hmi : (m : Int) < 4 := by omega
 obtain ⟨-, c1⟩ := h.ptrs
 obtain ⟨-, c3, -, -, -, -, -⟩ := h.ins
 rw [hm] at c3
 obtain ⟨f1, f2⟩ := h.frz
 have c2 := mach_reg h.m ht hm4
 have hw1 : wrap64 (n + 1000) = n + 1000 := by unfold wrap64; omega
 have hmod := tmod_mod hn
 have hw2 : wrap64 ((n + 1000) % 1000) = (n + 1000) % 1000 := by unfold wrap64; omega
 have hne := h.ne
 have H := hide h
 replace hm : Hid (x.r.toNat = m) := by unfold Hid; omega
 generalize hv : (s.th t).regs.getD m 0 = v at *
 clear h hr hv
 unfold ptrV
 go_enter Tryz.func50, Tryz.ntmps50
 go_wp2_with fail
 go_region
 all_goals
  go_wp2_with fail
  go_end0
  refine ⟨rfl, .of ?_ ((KeepS.refl _).drew.set (.inl (.inl rfl)) _)⟩
  rw [hm.out]
  have := H.out.setM (fun j => mc_setReg ht htl hm4 hrl (n % 1000) (k := j))
  rw [show 27 + t * 207 + (3 + m) = 27 + t * 207 + 3 + m by omega] at this
  exact this.same rfl
theorem keepS1 (w : World) (b sb i : Nat) (v : Value) : KeepS (fun k => k = b ∨ k = sb) w (w.setCell ⟨sb, i, none⟩ v) := (KeepS.refl _).set (.inl (.inr rfl)) _
theorem keepM1 (w : World) (b sb i : Nat) (v : Value) : KeepS (fun k => k = b ∨ k = sb) w (w.setCell ⟨b, i, none⟩ v) := (KeepS.refl _).set (.inl (.inl rfl)) _
theorem keepN (w : World) (b sb q : Nat) : KeepS (fun k => k = b ∨ k = sb) w (w.drewN q) := ⟨rfl, rfl, rfl, Nat.le_refl _, fun _ _ _ => rfl⟩
theorem keepSS (w : World) (b sb i j : Nat) (v u : Value) : KeepS (fun k => k = b ∨ k = sb) w (((w.setCell ⟨sb, i, none⟩ v).drew.setCell ⟨b, j, none⟩ u).drew) := ((keepS1 w b sb i v).drew.trans (keepM1 _ b sb j u)).drew
theorem mach_cell (h : RowF w b 92 856 (mcF p s)) {o n : Nat} (hn : n < 4) (ho : o = 0 ∨ o = 9) : w.cell? ⟨b, o + n * 2 + 1, none⟩ = some (.int .i64 ((if o = 0 then s.vars else s.flags).getD n 0)) := by
 rcases ho with rfl | rfl
 ·rw [h.cell (by omega), show 0 + n * 2 + 1 = n * 2 + 1 by omega, mc_var p s hn]; rfl
 ·rw [h.cell (by omega), show 9 + n * 2 + 1 = 9 + (n * 2 + 1) by omega, mc_flag p s hn]; rfl
def setSh (s : MS) (o n : Nat) (v : Int) : MS := if o = 0 then { s with vars := s.vars.set n v } else { s with flags := s.flags.set n v }
theorem mc_setSh {o n : Nat} (hn : n < 4) (ho : o = 0 ∨ o = 9) (hl : n < (if o = 0 then s.vars else s.flags).length) (v : Int) {k : Nat} : (if k = o + n * 2 + 1 then Value.int .i64 v else mcF p s k) = mcF p (setSh s o n v) k := by
 rcases ho with rfl | rfl
 ·rw [show 0 + n * 2 + 1 = n * 2 + 1 by omega]
  exact mc_setVar hn hl v
 ·rw [show 9 + n * 2 + 1 = 9 + (n * 2 + 1) by omega]
  exact mc_setFlag hn hl v
set_option maxRecDepth 100000 in
set_option maxHeartbeats 1000000 in
theorem fetch_any (h : StV w b sb p s t x e) (ht : t < 4) (htl : t < s.thr.length) (hrl : (s.th t).regs.length = 4) (hr : 0 ≤ x.r ∧ x.r < 4) (hx : 0 ≤ x.x ∧ x.x < 4) (kd : Int) {o : Nat} (ho : o = 0 ∨ o = 9) :
 Calls Tryz.prog 56 #[ptrV sb, .int .i64 kd, .pointer (some ⟨b, o, none⟩)] w fun r w' => r = .returned (.tuple #[]) ∧ StR w w' b sb p (s.setT t { s.th t with regs := (s.th t).regs.set x.r.toNat ((if o = 0 then s.vars else s.flags).getD x.x.toNat 0) }) t x { e with k := kd, o := x.x, v := (if o = 0 then s.vars else s.flags).getD x.x.toNat 0 } := by
 obtain ⟨m, hm⟩ : ∃ m : Nat, x.r = m := ⟨x.r.toNat, by omega⟩
 obtain ⟨n, hn⟩ : ∃ n : Nat, x.x = n := ⟨x.x.toNat, by omega⟩
 have hm4 : m < 4 := by omega
 have hmi : (m : Int) < 4 := by omega
 have hn4 : n < 4 := by omega
 have hni : (n : Int) < 4 := by omega
 have T := tell_any h kd
 have hm' : Hid (x.r.toNat = m) := by unfold Hid; omega
 have hn' : Hid (x.x.toNat = n) := by unfold Hid; omega
 have hne := h.ne
 clear h
 rw [hn'.out, hm'.out]
 obtain ⟨v, hv⟩ : ∃ v, (if o = 0 then s.vars else s.flags).getD n 0 = v := ⟨_, rfl⟩
 rw [hv]
 replace hv := hide hv
 unfold ptrV at *
 go_enter Tryz.func56, Tryz.ntmps56
 go_wp2_with fail
 refine T.mono ?_
 rintro e1 w1 ⟨rfl, h1, hk1⟩
 obtain ⟨-, c1⟩ := h1.ptrs
 obtain ⟨-, c3, -, -, -, -, c8⟩ := h1.ins
 obtain ⟨-, -, -, c12⟩ := h1.evs
 rw [hm] at c3
 rw [hn] at c8
 obtain ⟨f1, f2⟩ := h1.frz
 have c2 := mach_reg h1.m ht hm4
 have c4 := mach_cell h1.m hn4 ho
 rw [hv.out] at c4
 generalize (s.th t).regs.getD m 0 = v0 at *
 have H := hide h1
 have HK := hide hk1
 clear h1 hk1 T hr hx hm hn ho
 go_wp2_with fail
 go_region
 all_goals
  go_wp2_with fail
  go_region
  all_goals
   go_wp2_with fail
   go_end0
   refine ⟨rfl, .of ?_ (HK.out.trans (keepSS w1 b sb _ _ _ _))⟩
   have := (H.out.setV v).setM (fun j => mc_setReg ht htl hm4 hrl v (k := j))
   rw [show 27 + t * 207 + (3 + m) = 27 + t * 207 + 3 + m by omega] at this
   exact this.same rfl
set_option maxRecDepth 100000 in
set_option maxHeartbeats 1000000 in
theorem keep_any (h : StV w b sb p s t x e) (ht : t < 4) (hrl : (s.th t).regs.length = 4) (ha : argB4 x.aR x.aN) (hx : 0 ≤ x.x ∧ x.x < 4) (kd : Int) {o : Nat} (ho : o = 0 ∨ o = 9) (hl : x.x.toNat < (if o = 0 then s.vars else s.flags).length) :
 Calls Tryz.prog 58 #[ptrV sb, .int .i64 kd, .pointer (some ⟨b, o, none⟩)] w fun r w' => r = .returned (.tuple #[]) ∧ StR w w' b sb p (setSh s o x.x.toNat (vlM (s.th t) x.aR x.aN)) t x { e with k := kd, o := x.x, v := vlM (s.th t) x.aR x.aN } := by
 obtain ⟨n, hn⟩ : ∃ n : Nat, x.x = n := ⟨x.x.toNat, by omega⟩
 have hn4 : n < 4 := by omega
 have hni : (n : Int) < 4 := by omega
 have T := tell_any h kd
 have hn' : Hid (x.x.toNat = n) := by unfold Hid; omega
 have hne := h.ne
 clear h
 rw [hn'.out] at hl ⊢
 obtain ⟨v, hv⟩ : ∃ v, vlM (s.th t) x.aR x.aN = v := ⟨_, rfl⟩
 rw [hv]
 replace hv := hide hv
 unfold ptrV at *
 go_enter Tryz.func58, Tryz.ntmps58
 go_wp2_with fail
 refine T.mono ?_
 rintro e1 w1 ⟨rfl, h1, hk1⟩
 obtain ⟨-, -, c4, c5, -, -, -⟩ := h1.ins
 have V := value_any h1 ht hrl _ _ ha
 rw [hv.out] at V
 have H := hide h1
 have HK := hide hk1
 clear h1 hk1 T hx
 unfold ptrV at V
 go_wp2_with fail
 refine V.mono ?_
 rintro e2 w2 ⟨rfl, hb2⟩
 have h2 := H.out.below hb2
 replace HK := hide (HK.out.trans (KeepS.ofBelow hb2))
 obtain ⟨-, -, -, -, -, -, c8⟩ := h2.ins
 obtain ⟨-, -, -, c12⟩ := h2.evs
 rw [hn] at c8
 obtain ⟨f1, f2⟩ := h2.frz
 have c9 := mach_cell h2.m hn4 ho
 generalize (if o = 0 then s.vars else s.flags).getD n 0 = v0 at *
 have H2 := hide h2
 have HO := hide ho
 have HL := hide hl
 clear h2 H V c4 c5 hb2 hn ho hl
 go_wp2_with fail
 go_region
 all_goals
  go_wp2_with fail
  go_end0
  refine ⟨rfl, .of ?_ (HK.out.trans ((keepS1 w2 b sb _ _).trans (keepM1 _ b sb _ _)).drew)⟩
  exact ((H2.out.setV v).setM (fun j => mc_setSh hn4 HO.out HL.out v (k := j))).same rfl
theorem mach_lck (h : RowF w b 92 856 (mcF p s)) {n : Nat} (hn : n < 4) : w.cell? ⟨b, 18 + n * 2 + 1, none⟩ = some (.int .i64 (s.locks.getD n 0)) := by
 rw [show 18 + n * 2 + 1 = 18 + (n * 2 + 1) by omega, h.cell (by omega), mc_lock p s hn]
theorem mc_setLck {n : Nat} (hn : n < 4) (hl : n < s.locks.length) (v : Int) {k : Nat} : (if k = 18 + n * 2 + 1 then Value.int .i64 v else mcF p s k) = mcF p { s with locks := s.locks.set n v } k := by
 rw [show 18 + n * 2 + 1 = 18 + (n * 2 + 1) by omega]
 exact mc_setLock hn hl v
set_option maxRecDepth 100000 in
set_option maxHeartbeats 1000000 in
theorem acquire_any (h : StV w b sb p s t x e) (hx : 0 ≤ x.x ∧ x.x < 4) (hl : x.x.toNat < s.locks.length) :
 Calls Tryz.prog 61 #[ptrV sb] w fun r w' => r = .returned (.tuple #[]) ∧ StR w w' b sb p { s with locks := s.locks.set x.x.toNat e.t } t x { e with k := 5, o := x.x } := by
 obtain ⟨n, hn⟩ : ∃ n : Nat, x.x = n := ⟨x.x.toNat, by omega⟩
 have hn4 : n < 4 := by omega
 have hni : (n : Int) < 4 := by omega
 have T := tell_any h 5
 have hn' : Hid (x.x.toNat = n) := by unfold Hid; omega
 have hne := h.ne
 clear h
 rw [hn'.out] at hl ⊢
 unfold ptrV at *
 go_enter Tryz.func61, Tryz.ntmps61
 go_wp2_with fail
 refine T.mono ?_
 rintro e1 w1 ⟨rfl, h1, hk1⟩
 obtain ⟨c0, -⟩ := h1.ptrs
 obtain ⟨-, -, -, -, -, -, c8⟩ := h1.ins
 rw [hn] at c8
 obtain ⟨c9, -, -, -⟩ := h1.evs
 obtain ⟨f1, f2⟩ := h1.frz
 have c4 := mach_lck h1.m hn4
 generalize s.locks.getD n 0 = v0 at *
 have H := hide h1
 have HK := hide hk1
 have HL := hide hl
 clear h1 hk1 T hx hl hn
 go_wp2_with fail
 go_region
 all_goals
  go_wp2_with fail
  go_end0
  refine ⟨rfl, .of ?_ (HK.out.trans (keepM1 w1 b sb _ _).drew)⟩
  exact (H.out.setM (fun j => mc_setLck hn4 HL.out e.t (k := j))).same rfl
set_option maxRecDepth 100000 in
set_option maxHeartbeats 1000000 in
theorem release_any (h : StV w b sb p s t x e) (ht : t < 4) (htl : t < s.thr.length) (hx : 0 ≤ x.x ∧ x.x < 4) (hl : x.x.toNat < s.locks.length) :
 Calls Tryz.prog 62 #[ptrV sb] w fun r w' => r = .returned (.tuple #[]) ∧
  if s.locks.getD x.x.toNat 0 ≠ e.t then StR w w' b sb p (s.setT t { s.th t with ph := 3 }) t x { e with k := 9 } else StR w w' b sb p { s with locks := s.locks.set x.x.toNat (-1) } t x { e with k := 6, o := x.x } := by
 obtain ⟨n, hn⟩ : ∃ n : Nat, x.x = n := ⟨x.x.toNat, by omega⟩
 have hn4 : n < 4 := by omega
 have hni : (n : Int) < 4 := by omega
 have hn' : Hid (x.x.toNat = n) := by unfold Hid; omega
 have hne := h.ne
 obtain ⟨c0, -⟩ := h.ptrs
 obtain ⟨-, -, -, -, -, -, c8⟩ := h.ins
 rw [hn] at c8
 obtain ⟨c9, -, -, -⟩ := h.evs
 have c4 := mach_lck h.m hn4
 rw [hn'.out] at hl ⊢
 have h' : ∀ q, StV (w.drewN q) b sb p s t x e := fun q => h.same rfl
 have T := fun q => tell_any (h' q) 6
 have F := fun q => fail_any (h' q) ht htl
 generalize s.locks.getD n 0 = v0 at *
 have H := hide h
 have HL := hide hl
 clear h hx hl hn h'
 unfold ptrV at *
 by_cases hv : v0 = e.t
 ·have hite : (v0 ≠ e.t) = False := by simp [hv]
  simp only [hite, if_false]
  clear hite
  have hv' : (v0 != e.t) = false := by simp [hv]
  clear F
  go_enter Tryz.func62, Tryz.ntmps62
  go_wp2_with fail
  go_quiet (fail)
  go_wp2_with fail
  go_quiet (fail)
  go_wp2_with fail
  refine (T _).mono ?_
  rintro e1 w1 ⟨rfl, h1, hk1⟩
  replace hk1 := (keepN w b sb _).trans hk1
  have d4 := mach_lck h1.m hn4
  obtain ⟨f1, f2⟩ := h1.frz
  have H1 := hide h1
  have HK := hide hk1
  clear h1 hk1 T c0 c4 c8 c9
  go_wp2_with fail
  go_end0
  refine ⟨rfl, .of ?_ (HK.out.trans (keepM1 w1 b sb _ _))⟩
  exact H1.out.setM (fun j => mc_setLck hn4 HL.out (-1) (k := j))
 ·have hite : (v0 ≠ e.t) = True := by simp [hv]
  simp only [hite, if_true]
  clear hite
  have hv' : (v0 != e.t) = true := by simp [hv]
  clear T
  go_enter Tryz.func62, Tryz.ntmps62
  go_wp2_with fail
  go_quiet (fail)
  go_wp2_with fail
  go_quiet (fail)
  go_wp2_with fail
  refine (F _).mono ?_
  rintro e1 w1 ⟨rfl, h1, hk1⟩
  replace hk1 := (keepN w b sb _).trans hk1
  have HK := hide hk1
  have H1 := hide h1
  clear h1 hk1 F
  go_wp2_with fail
  refine bodyPost_ret (results_none rfl _ _ _) rfl ?_
  exact ⟨rfl, .of H1.out HK.out⟩
set_option maxRecDepth 100000 in
set_option maxHeartbeats 1000000 in
theorem spawn_any (h : StV w b sb p s t x e) (hx : 0 ≤ x.x ∧ x.x < 4) (hl : x.x.toNat < s.thr.length) :
 Calls Tryz.prog 63 #[ptrV sb] w fun r w' => r = .returned (.tuple #[]) ∧ StR w w' b sb p (s.setT x.x.toNat { s.th x.x.toNat with ph := 1 }) t x { e with k := 7, o := x.x } := by
 obtain ⟨n, hn⟩ : ∃ n : Nat, x.x = n := ⟨x.x.toNat, by omega⟩
 have hn4 : n < 4 := by omega
 have hni : (n : Int) < 4 := by omega
 have T := tell_any h 7
 have hn' : Hid (x.x.toNat = n) := by unfold Hid; omega
 have hne := h.ne
 clear h
 rw [hn'.out] at hl ⊢
 unfold ptrV at *
 go_enter Tryz.func63, Tryz.ntmps63
 go_wp2_with fail
 refine T.mono ?_
 rintro e1 w1 ⟨rfl, h1, hk1⟩
 obtain ⟨c0, -⟩ := h1.ptrs
 obtain ⟨-, -, -, -, -, -, c8⟩ := h1.ins
 rw [hn] at c8
 obtain ⟨f1, f2⟩ := h1.frz
 have c4 : w1.cell? ⟨b, 27 + n * 207 + 1, none⟩ = some (.int .i64 (s.th n).ph) := by rw [h1.m.cell (by omega), mc_thr p s hn4 (by omega)]; rfl
 have H := hide h1
 have HK := hide hk1
 have HL := hide hl
 clear h1 hk1 T hx hl hn
 go_wp2_with fail
 go_region
 all_goals
  go_wp2_with fail
  go_end0
  refine ⟨rfl, .of ?_ (HK.out.trans (keepM1 w1 b sb _ _).drew)⟩
  exact (H.out.setM (fun j => mc_setPh hn4 HL.out 1 (k := j))).same rfl
end
end Go.Proofs.YtcfpedjfofpnkaaGreatDoor
