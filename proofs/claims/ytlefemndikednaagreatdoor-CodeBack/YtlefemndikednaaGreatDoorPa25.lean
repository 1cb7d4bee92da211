import Derived.Test.YtlefemndikednaaGreatDoorPa23
set_option linter.unusedVariables false
set_option linter.unusedSimpArgs false
/-
  The document's Print.
-/
namespace Go.Proofs.YtlefemndikednaaGreatDoor
open Go.RowKit Go.Shelf Go.Proofs.Cod

section
variable {w w' : World} {B : Nat} {vd fd ld td : Value} {P : RP} {TV : List (Value × Value)}
set_option maxRecDepth 100000 in
set_option maxHeartbeats 4000000 in
theorem rPrint_any (hd : DView w vd fd ld td P TV) (ht : Tabs w B) (hB : B ≤ w.heap.size) (hsl : ∀ (j : Nat) (p : Value × Value), TV[j]? = some p → ∃ a n c, p.2 = .slice a n c) (hok : PrOk P.vs P.fs P.ls P.names (P.thr.map fun th => th.code.map RI.i)) :
    Calls Tryz.prog 12 #[.agg #[vd, fd, ld, td]] w fun e w' => e = .returned (.string (bs (printW P.vs P.fs P.ls P.names (P.thr.map fun th => th.code.map RI.i)))) ∧ Below w.heap.size w w' := by
  obtain ⟨dv, cv, edv, wsv⟩ := row_ws0 hd.v rfl
  obtain ⟨df, cf, edf, wsf⟩ := row_ws0 hd.f rfl
  obtain ⟨dl, cl, edl, wsl⟩ := row_ws0 hd.l rfl
  obtain ⟨dt, ct, edt⟩ := owns_len hd.t
  subst edv edf edl edt
  have hb0 : Below w.heap.size w (w.alloc (.cells #[.slice dv P.vs.length cv, .slice df P.fs.length cf, .slice dl P.ls.length cl, .slice dt P.thr.length ct] 31)) := (Below.refl _ _).alloc (Nat.le_refl _) _
  have hkA : (w.alloc (.cells #[.slice dv P.vs.length cv, .slice df P.fs.length cf, .slice dl P.ls.length cl, .slice dt P.thr.length ct] 31)).heap[w.heap.size]? = some (.cells #[.slice dv P.vs.length cv, .slice df P.fs.length cf, .slice dl P.ls.length cl, .slice dt P.thr.length ct] 31) := World.alloc_heap_new w _
  have hpr : (headsW P.vs P.fs P.ls 3).length + (thrsW (nmP P.vs P.fs P.ls P.names) P.names (P.thr.map fun th => th.code.map RI.i) P.names.length).length ≤ maxT := by
    have h := hok.len
    unfold printW at h
    rw [List.length_append] at h
    exact h
  have hheads : headsW P.vs P.fs P.ls 3 = hdL tVar P.vs ++ hdL tFlag P.fs ++ hdL tLock P.ls := by simp [headsW]
  have hhl : (hdL tVar P.vs).length + (hdL tFlag P.fs).length + (hdL tLock P.ls).length ≤ maxT := by
    rw [hheads, List.length_append, List.length_append] at hpr
    omega
  have d : ∀ o, Below (w.alloc o).heap.size (w.alloc o) (w.alloc o).drew := fun o => ⟨rfl, rfl, rfl, Nat.le_refl _, fun _ _ => rfl⟩
  have hN1 := rNames_any (c := cv) tVar (n := P.vs.length) rfl ((wsv.below hb0).below (d _)) hok.few.1 (by omega)
  have hN2 := rNames_any (c := cf) tFlag (n := P.fs.length) rfl ((wsf.below hb0).below (d _)) hok.few.2.1 (by omega)
  have hN3 := rNames_any (c := cl) tLock (n := P.ls.length) rfl ((wsl.below hb0).below (d _)) hok.few.2.2 (by omega)
  have z1 : ¬ 9223372036854775807 < (bs (hdL tVar P.vs)).size + (bs (hdL tFlag P.fs)).size := cat_sz (by omega)
  have a1 : bs (hdL tVar P.vs) ++ bs (hdL tFlag P.fs) = bs (hdL tVar P.vs ++ hdL tFlag P.fs) := bs_append _ _
  have z2 : ¬ 9223372036854775807 < (bs (hdL tVar P.vs ++ hdL tFlag P.fs)).size + (bs (hdL tLock P.ls)).size := cat_sz (by rw [List.length_append]; omega)
  have a2 : bs (hdL tVar P.vs ++ hdL tFlag P.fs) ++ bs (hdL tLock P.ls) = bs (headsW P.vs P.fs P.ls 3) := by rw [hheads]; exact bs_append _ _
  obtain ⟨c0, c1, c2, c3⟩ := box_cells hkA
  have HW := hide (⟨hd.below hb0, ht.keep (hb0.mono hB), hb0, hkA, hok, hpr⟩ : _ ∧ _ ∧ _ ∧ _ ∧ _ ∧ _)
  replace hB := hide hB
  replace hsl := hide hsl
  clear hd ht hb0 hkA hok hpr hheads hhl wsv wsf wsl d
  replace hN1 : Calls Tryz.prog 25 #[.string ⟨#[118, 97, 114]⟩, _] _ _ := hN1
  replace hN2 : Calls Tryz.prog 25 #[.string ⟨#[102, 108, 97, 103]⟩, _] _ _ := hN2
  replace hN3 : Calls Tryz.prog 25 #[.string ⟨#[108, 111, 99, 107]⟩, _] _ _ := hN3
  generalize hy1 : hdL tVar P.vs = y1 at *
  generalize hy2 : hdL tFlag P.fs = y2 at *
  generalize hy3 : hdL tLock P.ls = y3 at *
  generalize hy4 : headsW P.vs P.fs P.ls 3 = y4 at *
  go_enter Tryz.func12, Tryz.ntmps12
  go_wp2_with fail
  refine wp_region_held_drew (S := (fun w' => w'.cell? ⟨w.heap.size, 0, none⟩ = some (.slice dv P.vs.length cv) ∧ w'.cell? ⟨w.heap.size, 1, none⟩ = some (.slice df P.fs.length cf) ∧ w'.cell? ⟨w.heap.size, 2, none⟩ = some (.slice dl P.ls.length cl))) (by kernel_rfl) ⟨c0, c1, c2⟩ (fun hHeld => ?_)
  refine wpAnyH_take (i := 0) (v := ?_) rfl (by kernel_rfl) (by kernel_rfl) (by kernel_rfl) (fun _ _ _ h => h) (Or.inl ⟨by rfl, ?_⟩) hHeld ?_
  rotate_left
  · intro w9 hSw; (try dsimp only at hSw); go_simp; try with_reducible rfl
  simp only [Act.put, List.getElem_toArray, List.getElem_cons_zero, List.getElem_cons_succ, List.setIfInBounds_toArray, List.set_cons_succ, List.set_cons_zero]
  refine wpAnyH_take (i := 1) (v := ?_) rfl (by kernel_rfl) (by kernel_rfl) (by kernel_rfl) (fun _ _ _ h => h) (Or.inl ⟨by rfl, ?_⟩) hHeld ?_
  rotate_left
  · intro w9 hSw; (try dsimp only at hSw); go_simp; try with_reducible rfl
  simp only [Act.put, List.getElem_toArray, List.getElem_cons_zero, List.getElem_cons_succ, List.setIfInBounds_toArray, List.set_cons_succ, List.set_cons_zero]
  refine wpAnyH_take (i := 3) (v := ?_) rfl (by kernel_rfl) (by kernel_rfl) (by kernel_rfl) (fun _ _ _ h => h) (Or.inl ⟨by rfl, ?_⟩) hHeld ?_
  rotate_left
  · intro w9 hSw; (try dsimp only at hSw); go_simp; try with_reducible rfl
  simp only [Act.put, List.getElem_toArray, List.getElem_cons_zero, List.getElem_cons_succ, List.setIfInBounds_toArray, List.set_cons_succ, List.set_cons_zero]
  refine wpAnyH_take (i := 4) (v := ?_) rfl (by kernel_rfl) (by kernel_rfl) (by kernel_rfl) (fun _ _ _ h => h) (Or.inl ⟨by rfl, ?_⟩) hHeld ?_
  rotate_left
  · intro w9 hSw; (try dsimp only at hSw); go_simp; try with_reducible rfl
  simp only [Act.put, List.getElem_toArray, List.getElem_cons_zero, List.getElem_cons_succ, List.setIfInBounds_toArray, List.set_cons_succ, List.set_cons_zero]
  refine wpAnyH_take (i := 7) (v := ?_) rfl (by kernel_rfl) (by kernel_rfl) (by kernel_rfl) (fun _ _ _ h => h) (Or.inl ⟨by rfl, ?_⟩) hHeld ?_
  rotate_left
  · intro w9 hSw; (try dsimp only at hSw); go_simp; try with_reducible rfl
  simp only [Act.put, List.getElem_toArray, List.getElem_cons_zero, List.getElem_cons_succ, List.setIfInBounds_toArray, List.set_cons_succ, List.set_cons_zero]
  refine wpAnyH_take (i := 8) (v := ?_) rfl (by kernel_rfl) (by kernel_rfl) (by kernel_rfl) (fun _ _ _ h => h) (Or.inl ⟨by rfl, ?_⟩) hHeld ?_
  rotate_left
  · intro w9 hSw; (try dsimp only at hSw); go_simp; try with_reducible rfl
  simp only [Act.put, List.getElem_toArray, List.getElem_cons_zero, List.getElem_cons_succ, List.setIfInBounds_toArray, List.set_cons_succ, List.set_cons_zero]
  refine wpAnyH_ready (rs := [2]) (by kernel_rfl) (by simp) ?_
  refine AllReadyH.cons rfl (fun K hK => ?_) AllReadyH.nil
  go_simp
  go_at_call 25
  refine hN1.mono ?_
  rintro e w5 ⟨rfl, rfl⟩
  go_wp2_with fail
  clear hHeld
  refine hK.out _ _ ⟨c0, c1, c2⟩ (fun hHeld => ?_)
  clear hK K
  try simp only [Act.put, List.getElem_toArray, List.getElem_cons_zero, List.getElem_cons_succ, List.setIfInBounds_toArray, List.set_cons_succ, List.set_cons_zero]
  refine wpAnyH_ready (rs := [5]) (by kernel_rfl) (by simp) ?_
  refine AllReadyH.cons rfl (fun K hK => ?_) AllReadyH.nil
  go_simp
  go_at_call 25
  refine hN2.mono ?_
  rintro e w5 ⟨rfl, rfl⟩
  go_wp2_with fail
  clear hHeld
  refine hK.out _ _ ⟨c0, c1, c2⟩ (fun hHeld => ?_)
  clear hK K
  try simp only [Act.put, List.getElem_toArray, List.getElem_cons_zero, List.getElem_cons_succ, List.setIfInBounds_toArray, List.set_cons_succ, List.set_cons_zero]
  refine wpAnyH_take (i := 6) (v := ?_) rfl (by kernel_rfl) (by kernel_rfl) (by kernel_rfl) (fun _ _ _ h => h) (Or.inl ⟨by rfl, ?_⟩) hHeld ?_
  rotate_left
  · intro w9 hSw; (try dsimp only at hSw); go_simp; try with_reducible rfl
  simp only [Act.put, List.getElem_toArray, List.getElem_cons_zero, List.getElem_cons_succ, List.setIfInBounds_toArray, List.set_cons_succ, List.set_cons_zero]
  refine wpAnyH_ready (rs := [9]) (by kernel_rfl) (by simp) ?_
  refine AllReadyH.cons rfl (fun K hK => ?_) AllReadyH.nil
  go_simp
  go_at_call 25
  refine hN3.mono ?_
  rintro e w5 ⟨rfl, rfl⟩
  go_wp2_with fail
  clear hHeld
  refine hK.out _ _ ⟨c0, c1, c2⟩ (fun hHeld => ?_)
  clear hK K
  try simp only [Act.put, List.getElem_toArray, List.getElem_cons_zero, List.getElem_cons_succ, List.setIfInBounds_toArray, List.set_cons_succ, List.set_cons_zero]
  refine wpAnyH_take (i := 10) (v := ?_) rfl (by kernel_rfl) (by kernel_rfl) (by kernel_rfl) (fun _ _ _ h => h) (Or.inl ⟨by rfl, ?_⟩) hHeld ?_
  rotate_left
  · intro w9 hSw; (try dsimp only at hSw); go_simp; try with_reducible rfl
  simp only [Act.put, List.getElem_toArray, List.getElem_cons_zero, List.getElem_cons_succ, List.setIfInBounds_toArray, List.set_cons_succ, List.set_cons_zero]
  refine wpAnyH_take (i := 11) (v := ?_) rfl (by kernel_rfl) (by kernel_rfl) (by kernel_rfl) (fun _ _ _ h => h) (Or.inl ⟨by rfl, ?_⟩) hHeld ?_
  rotate_left
  · intro w9 hSw; (try dsimp only at hSw); go_simp; try with_reducible rfl
  simp only [Act.put, List.getElem_toArray, List.getElem_cons_zero, List.getElem_cons_succ, List.setIfInBounds_toArray, List.set_cons_succ, List.set_cons_zero]
  refine wpAnyH_done (by kernel_rfl) ?_ _
  clear hHeld c0 c1 c2 c3 hN1 hN2 hN3 z1 a1 z2 a2 hy1 hy2 hy3
  obtain ⟨hd, ht, hb0, hkA, hok, hpr⟩ := HW.out
  have hdr : Below (w.alloc (.cells #[.slice dv P.vs.length cv, .slice df P.fs.length cf, .slice dl P.ls.length cl, .slice dt P.thr.length ct] 31)).heap.size (w.alloc (.cells #[.slice dv P.vs.length cv, .slice df P.fs.length cf, .slice dl P.ls.length cl, .slice dt P.thr.length ct] 31)) (w.alloc (.cells #[.slice dv P.vs.length cv, .slice df P.fs.length cf, .slice dl P.ls.length cl, .slice dt P.thr.length ct] 31)).drew := ⟨rfl, rfl, rfl, Nat.le_refl _, fun _ _ => rfl⟩
  have hdW := hd.below hdr
  have htW := ht.keep (hdr.mono (Nat.le_trans hB.out hb0.size))
  have hbW := hb0.trans (hdr.mono hb0.size)
  have hkW := (hdr.block _ (Array.getElem?_eq_some_iff.1 hkA).1).trans hkA
  have hBW := Nat.le_trans hB.out hbW.size
  generalize World.drew _ = W at *
  have HK := hide (⟨hdW, htW, hbW, hkW, hok, hpr, hBW⟩ : _ ∧ _ ∧ _ ∧ _ ∧ _ ∧ _ ∧ _)
  clear hd ht hb0 hkA hok hpr hdr hdW htW hbW hkW hBW HW
  replace hy4 := hide hy4
  have hnl : P.names.length = P.thr.length := by simp [RP.names]
  replace hnl := hide hnl
  go_wp2_with fail
  go_loopw [3, 4] (fun sv iv wr => ∃ i : Nat, i ≤ P.thr.length ∧ iv = .int .i64 i ∧ sv = .string (bs (y4 ++ thrsW (nmP P.vs P.fs P.ls P.names) P.names (P.thr.map fun th => th.code.map RI.i) i)) ∧ Below W.heap.size W wr) (fun _ iv _ => P.thr.length - (intOf iv).toNat)
  case atStart => exact ⟨0, Nat.zero_le _, rfl, by rw [show thrsW (nmP P.vs P.fs P.ls P.names) P.names (P.thr.map fun th => th.code.map RI.i) 0 = [] from rfl, List.append_nil], Below.refl _ _⟩
  case round =>
    obtain ⟨i, hi, rfl, rfl, hbw⟩ := hrel
    obtain ⟨hd, ht, hb0, hkA, hok, hpr, hBW⟩ := HK.out
    have hkr := (hbw.block _ (Array.getElem?_eq_some_iff.1 hkA).1).trans hkA
    obtain ⟨-, -, -, c3⟩ := box_cells hkr
    by_cases h5 : i < P.thr.length
    · have hlt : (i : Int) < (P.thr.length : Int) := by omega
      obtain ⟨th, hth⟩ : ∃ th, P.thr[i]? = some th := ⟨_, List.getElem?_eq_getElem h5⟩
      obtain ⟨p, hp⟩ : ∃ p, TV[i]? = some p := ⟨_, List.getElem?_eq_getElem (by rw [hd.len]; exact h5)⟩
      have hdr := hd.below hbw
      obtain ⟨gt, tcap, e, t0, t1, t2⟩ := hdr.thrAt3 hth hp
      cases e
      obtain ⟨ca, cc, ec⟩ := owns_len (hdr.c i th p hth hp)
      obtain ⟨la, ln, lc, el⟩ := hsl.out i p hp
      rw [ec] at t1
      rw [el] at t2
      have hgn : P.names.getD i [] = th.name := by rw [List.getD_eq_getElem?_getD, RP.names, List.getElem?_map, hth]; rfl
      have hgc : (P.thr.map fun th => th.code.map RI.i).getD i [] = th.code.map RI.i := by rw [List.getD_eq_getElem?_getD, List.getElem?_map, hth]; rfl
      have hsu := thrsW_succ (nmP P.vs P.fs P.ls P.names) P.names (P.thr.map fun th => th.code.map RI.i) i
      rw [hgn, hgc] at hsu
      have hle := thrsW_le (nmP P.vs P.fs P.ls P.names) P.names (P.thr.map fun th => th.code.map RI.i) (show i + 1 ≤ P.names.length by rw [hnl.out]; exact h5)
      rw [hsu, List.length_append] at hle
      have hcode := hok.code (th.code.map RI.i) (List.mem_map.2 ⟨th, List.mem_of_getElem? hth, rfl⟩)
      generalize hX : y4 ++ thrsW (nmP P.vs P.fs P.ls P.names) P.names (P.thr.map fun th => th.code.map RI.i) i = X at *
      have hXl : X.length + (thrW (nmP P.vs P.fs P.ls P.names) th.name (th.code.map RI.i)).length ≤ maxT := by
        rw [← hX, List.length_append]
        exact ar8 hpr hle
      have hkt := kW_thr (N := nmP P.vs P.fs P.ls P.names) (is := th.code.map RI.i) (nm := th.name)
      rw [← hkt, List.length_append, line_thr] at hXl
      have hXl2 : X.length + ((tThread ++ [32] ++ th.name ++ [10]).length + (kW (nmP P.vs P.fs P.ls P.names) (th.code.map RI.i) ((th.code.map RI.i).length + 1)).length) ≤ maxT := hXl
      have e7 : (tThread ++ [32] ++ th.name ++ [10]).length = 7 + th.name.length + 1 := by simp [tThread]; omega
      have z1 : ¬ 9223372036854775807 < (bs X).size + 7 := zn (by omega)
      have a1 : bs X ++ ⟨#[116, 104, 114, 101, 97, 100, 32]⟩ = bs (X ++ (tThread ++ [32])) := bs_append _ _
      have z2 : ¬ 9223372036854775807 < (bs (X ++ (tThread ++ [32]))).size + (bs th.name).size := cat_sz (by rw [List.length_append]; simp only [tThread, List.length_append, List.length_cons, List.length_nil]; omega)
      have a2 : bs (X ++ (tThread ++ [32])) ++ bs th.name = bs (X ++ (tThread ++ [32]) ++ th.name) := bs_append _ _
      have z3 : ¬ 9223372036854775807 < (bs (X ++ (tThread ++ [32]) ++ th.name)).size + 1 := zn (by rw [List.length_append, List.length_append]; simp only [tThread, List.length_append, List.length_cons, List.length_nil]; omega)
      have a3 : bs (X ++ (tThread ++ [32]) ++ th.name) ++ ⟨#[10]⟩ = bs (X ++ lineW [tThread, th.name]) := by
        rw [line_thr]
        show bs _ ++ bs [10] = _
        rw [bs_append]; simp
      generalize X ++ (tThread ++ [32]) ++ th.name = X2 at z3 a2 a3
      generalize X ++ (tThread ++ [32]) = X1 at a1 z2 a2
      have hYl : Hid ((X ++ lineW [tThread, th.name]).length + (kW (nmP P.vs P.fs P.ls P.names) (th.code.map RI.i) ((th.code.map RI.i).length + 1)).length ≤ maxT) := by
        unfold Hid
        rw [List.length_append, line_thr]; omega
      have hba : Below wr.heap.size wr (wr.alloc (.cells #[.string (bs th.name), .slice ca th.code.length cc, .slice la ln lc] 67)) := (Below.refl _ _).alloc (Nat.le_refl _) _
      have hkB : (wr.alloc (.cells #[.string (bs th.name), .slice ca th.code.length cc, .slice la ln lc] 67)).heap[wr.heap.size]? = some (.cells #[.string (bs th.name), .slice ca th.code.length cc, .slice la ln lc] 67) := World.alloc_heap_new wr _
      have hd4 := hdr.below hba
      have ht4 := (ht.keep (hbw.mono hBW)).keep (hba.mono (Nat.le_trans hBW hbw.size))
      have hk4 := (hba.block _ (Array.getElem?_eq_some_iff.1 hkr).1).trans hkr
      have hbW4 := hbw.trans (hba.mono hbw.size)
      have hB4 := Nat.le_trans hBW hbW4.size
      have hrow4 := hd4.c i th p hth hp
      rw [ec] at hrow4
      have H4 := hide (⟨hd4, ht4, hk4, hbW4, hB4, hrow4, hkB, hcode, hsu, h5⟩ : _ ∧ _ ∧ _ ∧ _ ∧ _ ∧ _ ∧ _ ∧ _ ∧ _ ∧ _)
      replace hX := hide hX
      replace hkt := hide hkt
      replace hth := hide hth
      replace hp := hide hp
      clear hd ht hb0 hkA hok hpr hBW hkr hdr ec el hgn hgc hsu hle hcode hXl hXl2 e7 hba hkB hd4 ht4 hk4 hbW4 hB4 hrow4 hbw hi h5
      obtain ⟨Y, hY⟩ : ∃ Y, X ++ lineW [tThread, th.name] = Y := ⟨_, rfl⟩
      rw [hY] at a3 hYl
      replace hY := hide hY
      rename World => w3
      go_wp2_with fail
      clear z1 a1 z2 a2 z3 a3 t0 t1 t2 c3 hlt
      generalize World.alloc w3 _ = w4 at *
      generalize w3.heap.size = tb at *
      go_loopw [3, 6] (fun sv kv wr => ∃ k : Nat, k ≤ th.code.length + 1 ∧ kv = .int .i64 k ∧ sv = .string (bs (Y ++ kW (nmP P.vs P.fs P.ls P.names) (th.code.map RI.i) k)) ∧ Below w4.heap.size w4 wr) (fun _ kv _ => th.code.length + 1 - (intOf kv).toNat)
      case atStart => exact ⟨0, Nat.zero_le _, rfl, by rw [show kW (nmP P.vs P.fs P.ls P.names) (th.code.map RI.i) 0 = [] from by simp [kW, preW], List.append_nil], Below.refl _ _⟩
      case round =>
        obtain ⟨k, hk, rfl, rfl, hb5⟩ := hrel
        obtain ⟨hd4, ht4, hk4, hbW4, hB4, hrow4, hkB, hcode, hsu, h5⟩ := H4.out
        have hkB5 := (hb5.block _ (Array.getElem?_eq_some_iff.1 hkB).1).trans hkB
        have t1 : wr.cell? ⟨tb, 1, none⟩ = some (.slice ca th.code.length cc) := by rw [Lib.cell_of_heap hkB5]; rfl
        have hrow5 := c_belowS hrow4 hb5
        have hml : (th.code.map RI.i).length = th.code.length := List.length_map ..
        by_cases h6 : k ≤ th.code.length
        · have hlek : (k : Int) ≤ (th.code.length : Int) := by omega
          have hmem : ∀ (j : Nat) (r : RI), th.code[j]? = some r → (th.code.map RI.i)[j]? = some r.i := fun j r h => by rw [List.getElem?_map, h]; rfl
          obtain ⟨S0, hS0⟩ : ∃ S0, Y ++ kW (nmP P.vs P.fs P.ls P.names) (th.code.map RI.i) k = S0 := ⟨_, rfl⟩
          rw [hS0]
          have hlek2 : k < 1000 := by have := hcode.1; rw [hml] at this; omega
          have H5 := hide (⟨hb5, hkB5, hrow5, h6, hlek2⟩ : _ ∧ _ ∧ _ ∧ _ ∧ _)
          replace hS0 := hide hS0
          clear hd4 ht4 hk4 hbW4 hB4 hrow4 hkB hcode hsu h5 hb5 hkB5 hrow5 hml h6 hk hlek2
          rename World => w5
          go_wp2_with fail
          clear t1 hlek
          go_loopw [7, 8] (fun lv jv wr => ∃ j : Nat, j ≤ th.code.length ∧ jv = .int .i64 j ∧ lv = .bool (((th.code.map RI.i).take j).any fun i => isJ i && decide (i.x = (k : Int))) ∧ wr = w5) (fun _ jv _ => th.code.length - (intOf jv).toNat)
          case atStart => exact ⟨0, Nat.zero_le _, rfl, rfl, rfl⟩
          case round =>
            obtain ⟨j, hj, rfl, rfl, rfl⟩ := hrel
            obtain ⟨hb5, hkB5, hrow5, h6, hlek2⟩ := H5.out
            have t1 : wr.cell? ⟨tb, 1, none⟩ = some (.slice ca th.code.length cc) := by rw [Lib.cell_of_heap hkB5]; rfl
            by_cases h7 : j < th.code.length
            · have hlt : (j : Int) < (th.code.length : Int) := by omega
              obtain ⟨r, hr⟩ : ∃ r, th.code[j]? = some r := ⟨_, List.getElem?_eq_getElem h7⟩
              obtain ⟨cg, ccap, e, -, I9⟩ := i9_at hrow5 hr
              rw [e] at t1
              have x0 := I9.c0
              have x6 := I9.c6
              have hForm := rForm_any r.i.op wr
              have hstep := any_take (hmem j r hr) (fun i => isJ i && decide (i.x = (k : Int)))
              have hisJ := isJ_form r.i
              have hwj : wrap64 ((j : Int) + 1) = (j : Int) + 1 := IntWalk.wrap64_in _ (by have := (H4.out).2.2.2.2.2.2.2.1.1; rw [List.length_map] at this; omega)
              generalize ((th.code.map RI.i).take j).any (fun i => isJ i && decide (i.x = (k : Int))) = lb at *
              have hF2 := bs_lit (formT r.i.op) [108]
              have hF3 := bs_lit (formT r.i.op) [97, 98, 108]
              have HJ := hide (⟨hstep, h7⟩ : _ ∧ _)
              replace hr := hide hr
              have hJv : isJ r.i = ((formT r.i.op == [108]) || (formT r.i.op == [97, 98, 108])) := hisJ
              replace hJv := hide hJv
              clear hb5 hkB5 hrow5 h6 hlek2 I9 hstep hisJ hj h7 hmem
              generalize formT r.i.op = F at *
              generalize hg2 : (F == [108]) = g2 at *
              generalize hg3 : (F == [97, 98, 108]) = g3 at *
              replace hg2 := hide hg2
              replace hg3 := hide hg3
              rw [e]
              cases lb with
              | true =>
                go_wp2_with fail
                refine hForm.mono ?_
                rintro e w6 ⟨rfl, rfl⟩
                go_wp2_with fail
                go_roundw
                case rel =>
                  (try rw [hwj])
                  exact ⟨j + 1, HJ.out.2, rfl, by rw [HJ.out.1]; rfl, by trivial⟩
                case measure =>
                  (try rw [hwj])
                  exact Nat.sub_lt_sub_left HJ.out.2 (Nat.lt_succ_self j)
              | false =>
                by_cases hxk : r.i.x = (k : Int)
                · have hxb : (r.i.x == (k : Int)) = true := by simpa using hxk
                  have hxd : Hid (decide (r.i.x = (k : Int)) = true) := by unfold Hid; simpa using hxk
                  cases g2 <;> cases g3 <;>
                    (go_wp2_with fail
                     refine hForm.mono ?_
                     rintro e w6 ⟨rfl, rfl⟩
                     go_wp2_with fail
                     go_roundw
                     case rel =>
                       (try rw [hwj])
                       exact ⟨j + 1, HJ.out.2, rfl, by rw [HJ.out.1, hJv.out, hxd.out]; rfl, by trivial⟩
                     case measure =>
                       (try rw [hwj])
                       exact Nat.sub_lt_sub_left HJ.out.2 (Nat.lt_succ_self j))
                · have hxb : (r.i.x == (k : Int)) = false := by simpa using hxk
                  have hxd : Hid (decide (r.i.x = (k : Int)) = false) := by unfold Hid; simpa using hxk
                  cases g2 <;> cases g3 <;>
                    (go_wp2_with fail
                     refine hForm.mono ?_
                     rintro e w6 ⟨rfl, rfl⟩
                     go_wp2_with fail
                     go_roundw
                     case rel =>
                       (try rw [hwj])
                       exact ⟨j + 1, HJ.out.2, rfl, by rw [HJ.out.1, hJv.out, hxd.out]; rfl, by trivial⟩
                     case measure =>
                       (try rw [hwj])
                       exact Nat.sub_lt_sub_left HJ.out.2 (Nat.lt_succ_self j))
            · have hjl : j = th.code.length := Nat.le_antisymm hj (Nat.le_of_not_lt h7)
              subst hjl
              obtain ⟨hd4, ht4, hk4, hbW4, hB4, hrow4, hkB, hcode, hsu, h5⟩ := H4.out
              have hml : (th.code.map RI.i).length = th.code.length := List.length_map ..
              have htk : ((th.code.map RI.i).take th.code.length).any (fun i => isJ i && decide (i.x = (k : Int))) = (targL (th.code.map RI.i) ((th.code.map RI.i).length + 1)).getD k false := by
                rw [targ_at _ (by rw [hml]; exact h6), ← hml, List.take_length]
              obtain ⟨Z, hZ⟩ : ∃ Z, Y ++ kW (nmP P.vs P.fs P.ls P.names) (th.code.map RI.i) k ++ labLn (targL (th.code.map RI.i) ((th.code.map RI.i).length + 1)) k = Z := ⟨_, rfl⟩
              have hlab : labLn (targL (th.code.map RI.i) ((th.code.map RI.i).length + 1)) k = if ((th.code.map RI.i).take th.code.length).any (fun i => isJ i && decide (i.x = (k : Int))) then lineW [labW (k : Int) ++ [58]] else [] := by unfold labLn; rw [htk]
              have hZS : S0 ++ labLn (targL (th.code.map RI.i) ((th.code.map RI.i).length + 1)) k = Z := by rw [← hS0.out]; exact hZ
              rw [hlab] at hZS
              have hgej : ¬ (th.code.length : Int) < (th.code.length : Int) := by omega
              replace hZ := hide hZ
              generalize ((th.code.map RI.i).take th.code.length).any (fun i => isJ i && decide (i.x = (k : Int))) = lb at *
              cases lb with
              | false =>
                have hZS : Z = S0 := by simpa using hZS.symm
                subst hZS
                have HQ := hide hb5
                obtain ⟨wq, hwq⟩ : ∃ wq, wq = wr := ⟨_, rfl⟩
                subst hwq
                clear hb5 hkB5 hrow5 htk hlab hj h7 t1
                by_cases h7 : k < th.code.length
                · have hltk : (k : Int) < (th.code.length : Int) := by omega
                  obtain ⟨r, hr⟩ : ∃ r, th.code[k]? = some r := ⟨_, List.getElem?_eq_getElem h7⟩
                  have hri : (th.code.map RI.i)[k]? = some r.i := by rw [List.getElem?_map, hr]; rfl
                  obtain ⟨cg, ccap, e, -, I9⟩ := i9_at (c_belowS hrow4 HQ.out) hr
                  have hForm := rForm_any r.i.op wq
                  obtain ⟨hfit, ⟨ps, hps, hl8, hxok⟩, -⟩ := hcode.2 r.i (List.mem_of_getElem? hri)
                  have hform : formT r.i.op = ps.map letX := by unfold formT; rw [hps]
                  have hwk : wrap64 ((k : Int) + 1) = (k : Int) + 1 := IntWalk.wrap64_in _ (by have := hcode.1; rw [hml] at this; omega)
                  have hksu := kW_succ (N := nmP P.vs P.fs P.ls P.names) hri
                  have hins : insLn (nmP P.vs P.fs P.ls P.names) r.i = catN r.i.op (ps.map fun c => wordW (nmP P.vs P.fs P.ls P.names) r.i (c.toNat : Int)) ps.length ++ [10] := by
                    unfold insLn insW
                    rw [hps]
                    show lineW (r.i.op :: ps.map _) = _
                    rw [line_cat, List.length_map]
                  have hnext : Y ++ kW (nmP P.vs P.fs P.ls P.names) (th.code.map RI.i) (k + 1) = Z ++ catN r.i.op (ps.map fun c => wordW (nmP P.vs P.fs P.ls P.names) r.i (c.toNat : Int)) ps.length ++ [10] := by
                    rw [hksu, hins, ← hZ.out]; simp
                  have hkle := kW_le (N := nmP P.vs P.fs P.ls P.names) (is := th.code.map RI.i) (k := k + 1) (by rw [hml]; exact Nat.succ_le_succ (Nat.le_of_lt h7))
                  have hZl : Z.length + ((catN r.i.op (ps.map fun c => wordW (nmP P.vs P.fs P.ls P.names) r.i (c.toNat : Int)) ps.length).length + 1) ≤ maxT := by
                    have h1 := congrArg List.length hnext
                    rw [List.length_append, List.length_append, List.length_append] at h1
                    have h2 := hYl.out
                    have h3 : ([10] : Tx).length = 1 := rfl
                    omega
                  have hpl3 := partsT_mem hps
                  have hfl : (bs (ps.map letX)).size = ps.length := by rw [bs_size, List.length_map]
                  have hcat : ∀ j, j ≤ ps.length → (catN r.i.op (ps.map fun c => wordW (nmP P.vs P.fs P.ls P.names) r.i (c.toNat : Int)) j).length ≤ (catN r.i.op (ps.map fun c => wordW (nmP P.vs P.fs P.ls P.names) r.i (c.toNat : Int)) ps.length).length := fun j hj => by
                    have := catN_le (k := r.i.op) (ns := ps.map fun c => wordW (nmP P.vs P.fs P.ls P.names) r.i (c.toNat : Int)) (i := j) (by rw [List.length_map]; exact hj)
                    rw [List.length_map] at this
                    exact this
                  have hc0 : catN r.i.op (ps.map fun c => wordW (nmP P.vs P.fs P.ls P.names) r.i (c.toNat : Int)) 0 = r.i.op := by simp [catN]
                  have hop : Z.length + r.i.op.length ≤ maxT := by
                    have := hcat 0 (Nat.zero_le _)
                    rw [hc0] at this
                    omega
                  have z1 : ¬ 9223372036854775807 < (bs Z).size + (bs r.i.op).size := cat_sz hop
                  have a1 : bs Z ++ bs r.i.op = bs (Z ++ r.i.op) := bs_append _ _
                  obtain ⟨Z1, hZ1⟩ : ∃ Z1, Z ++ r.i.op = Z1 := ⟨_, rfl⟩
                  rw [hZ1] at a1
                  rw [hform] at hForm
                  have hkB5 := (HQ.out.block _ (Array.getElem?_eq_some_iff.1 hkB).1).trans hkB
                  rw [e] at hkB5
                  have t1 : wq.cell? ⟨tb, 1, none⟩ = some (.slice (some ⟨cg, 0, none⟩) th.code.length ccap) := by rw [Lib.cell_of_heap hkB5]; rfl
                  have t0 := I9.c0
                  have HA := hide (⟨hnext, hZl, hcat, hc0, hZ1, hr, e, hfit, hl8, hxok, h7, hpl3⟩ : _ ∧ _ ∧ _ ∧ _ ∧ _ ∧ _ ∧ _ ∧ _ ∧ _ ∧ _ ∧ _ ∧ _)
                  have hk7 := hide h7
                  rw [e]
                  clear hd4 ht4 hk4 hbW4 hB4 hrow4 hkB hcode hsu h5 hkB5 hml hri I9 hfit hps hl8 hxok hform hksu hins hnext hkle hZl hpl3 hcat hc0 hop hZ1 hr e h7 h6
                  go_wp2_with fail
                  refine hForm.mono ?_
                  clear hForm
                  rintro e w6 ⟨rfl, rfl⟩
                  go_wp2_with fail
                  clear t0 t1 z1 a1 hltk
                  have hcells : Hid (∀ wz, Below w4.heap.size w4 wz → (wz.cell? ⟨tb, 1, none⟩ = some (.slice (some ⟨cg, 0, none⟩) th.code.length ccap) ∧ wz.cell? ⟨cg, k * 9, none⟩ = some (.string (bs r.i.op)) ∧ wz.cell? ⟨cg, k * 9 + 1, none⟩ = some (.int .i64 r.i.r) ∧ wz.cell? ⟨cg, k * 9 + 2, none⟩ = some (.bool r.i.aR) ∧ wz.cell? ⟨cg, k * 9 + 3, none⟩ = some (.int .i64 r.i.aN) ∧ wz.cell? ⟨cg, k * 9 + 4, none⟩ = some (.bool r.i.bR) ∧ wz.cell? ⟨cg, k * 9 + 5, none⟩ = some (.int .i64 r.i.bN) ∧ wz.cell? ⟨cg, k * 9 + 6, none⟩ = some (.int .i64 r.i.x) ∧ wz.cell? ⟨cg, k * 9 + 7, none⟩ = some (.int .i64 r.line) ∧ wz.cell? ⟨cg, k * 9 + 8, none⟩ = some (.string (bs r.word)))) := by
                    intro wz hbz
                    obtain ⟨hd4, ht4, hk4, hbW4, hB4, hrow4, hkB, hcode, hsu, h5⟩ := H4.out
                    obtain ⟨hnext, hZl, hcat, hc0, hZ1, hr, e, hfit, hl8, hxok, h7, hpl3⟩ := HA.out
                    have hkz := (hbz.block _ (Array.getElem?_eq_some_iff.1 hkB).1).trans hkB
                    rw [e] at hkz
                    obtain ⟨cg', cc', e', -, I9⟩ := i9_at (c_belowS hrow4 hbz) hr
                    rw [e] at e'
                    cases e'
                    exact ⟨by rw [Lib.cell_of_heap hkz]; rfl, I9.c0, I9.c1, I9.c2, I9.c3, I9.c4, I9.c5, I9.c6, I9.c7, I9.c8⟩
                  go_loopw [3, 11] (fun sv jv wr => ∃ j : Nat, j ≤ ps.length ∧ jv = .int .i64 j ∧ sv = .string (bs (Z ++ catN r.i.op (ps.map fun c => wordW (nmP P.vs P.fs P.ls P.names) r.i (c.toNat : Int)) j)) ∧ Below w4.heap.size w4 wr) (fun _ jv _ => ps.length - (intOf jv).toNat)
                  case atStart => exact ⟨0, Nat.zero_le _, rfl, by rw [HA.out.2.2.2.1, HA.out.2.2.2.2.1], HQ.out⟩
                  case round =>
                    obtain ⟨j, hj, rfl, rfl, hb7⟩ := hrel
                    obtain ⟨hnext, hZl, hcat, hc0, hZ1, hr, e, hfit, hl8, hxok, h7, hpl3⟩ := HA.out
                    by_cases h8 : j < ps.length
                    · obtain ⟨hd4, ht4, hk4, hbW4, hB4, hrow4, hkB, hcode, hsu, h5⟩ := H4.out
                      have hltj : (j : Int) < (ps.length : Int) := by omega
                      have hcm : ps[j] ∈ ps := List.getElem_mem h8
                      have hjz : j < (bs (ps.map letX)).size := by rw [hfl]; exact h8
                      have hgk : (bs (ps.map letX))[j]'hjz = letX ps[j] := by rw [bs_get _ j hjz]; simp
                      have hbd : Below w4.heap.size w4 wr.drew := hb7.drew
                      have hkd := (hbd.block _ (Array.getElem?_eq_some_iff.1 hk4).1).trans hk4
                      have hWd := rWordD_any hkd (hd4.below hbd) (ht4.keep (hbd.mono hB4)) (Nat.le_trans hB4 hbd.size) r hfit ps[j] (hl8 _ hcm) (hxok _ hcm)
                      unfold ptrV riC at hWd
                      have hwi : wrap64 ((j : Int) + 1) = (j : Int) + 1 := IntWalk.wrap64_in _ (by omega)
                      have hsu2 := catN_succ (k := r.i.op) (ns := (ps.map fun c => wordW (nmP P.vs P.fs P.ls P.names) r.i (c.toNat : Int))) (i := j) (by rw [List.length_map]; exact h8)
                      have hgd : ((ps.map fun c => wordW (nmP P.vs P.fs P.ls P.names) r.i (c.toNat : Int))).getD j [] = wordW (nmP P.vs P.fs P.ls P.names) r.i (ps[j].toNat : Int) := by
                        rw [List.getD_eq_getElem?_getD, List.getElem?_map, List.getElem?_eq_getElem h8]; rfl
                      rw [hgd] at hsu2
                      generalize wordW (nmP P.vs P.fs P.ls P.names) r.i (ps[j].toNat : Int) = y at *
                      have hcj := hcat (j + 1) h8
                      rw [hsu2, List.length_append, List.length_append] at hcj
                      have h32 : ([32] : Tx).length = 1 := rfl
                      obtain ⟨V0, hV0⟩ : ∃ V0, Z ++ catN r.i.op (ps.map fun c => wordW (nmP P.vs P.fs P.ls P.names) r.i (c.toNat : Int)) j = V0 := ⟨_, rfl⟩
                      have hV0l : V0.length = Z.length + (catN r.i.op (ps.map fun c => wordW (nmP P.vs P.fs P.ls P.names) r.i (c.toNat : Int)) j).length := by rw [← hV0, List.length_append]
                      have z1 : ¬ 9223372036854775807 < (bs V0).size + 1 := zn (by omega)
                      have a1 : bs V0 ++ ⟨#[32]⟩ = bs (V0 ++ [32]) := bs_append _ [32]
                      have hV1l : (V0 ++ [32]).length = V0.length + 1 := by simp
                      have z2 : ¬ 9223372036854775807 < (bs (V0 ++ [32])).size + (bs y).size := cat_sz (by omega)
                      have a2 : bs (V0 ++ [32]) ++ bs y = bs (V0 ++ [32] ++ y) := bs_append _ _
                      have hV2 : V0 ++ [32] ++ y = Z ++ catN r.i.op (ps.map fun c => wordW (nmP P.vs P.fs P.ls P.names) r.i (c.toNat : Int)) (j + 1) := by rw [hsu2, ← hV0]; simp
                      generalize V0 ++ [32] ++ y = V2 at *
                      generalize V0 ++ [32] = V1 at *
                      obtain ⟨s1, s2, s3, s4, s5, s6, s7, s8, s9, s10⟩ := hcells.out wr hb7
                      have HJ := hide (⟨hV2, h8, hb7⟩ : _ ∧ _ ∧ _)
                      rw [hV0]
                      have hkn := hk7.out
                      generalize hcc : letX ps[j] = sg at *
                      clear hnext hZl hcat hc0 hZ1 hr e hfit hl8 hxok h7 hpl3 hd4 ht4 hk4 hbW4 hB4 hrow4 hkB hcode hsu h5 hcm hbd hkd hsu2 hgd hcj hV0 hV0l hV1l hV2 h8 hj hb7 hcc
                      go_wp2_with fail
                      refine wp_region_held_drew (S := (fun wz => (wz.cell? ⟨tb, 1, none⟩ = some (.slice (some ⟨cg, 0, none⟩) th.code.length ccap) ∧ wz.cell? ⟨cg, k * 9, none⟩ = some (.string (bs r.i.op)) ∧ wz.cell? ⟨cg, k * 9 + 1, none⟩ = some (.int .i64 r.i.r) ∧ wz.cell? ⟨cg, k * 9 + 2, none⟩ = some (.bool r.i.aR) ∧ wz.cell? ⟨cg, k * 9 + 3, none⟩ = some (.int .i64 r.i.aN) ∧ wz.cell? ⟨cg, k * 9 + 4, none⟩ = some (.bool r.i.bR) ∧ wz.cell? ⟨cg, k * 9 + 5, none⟩ = some (.int .i64 r.i.bN) ∧ wz.cell? ⟨cg, k * 9 + 6, none⟩ = some (.int .i64 r.i.x) ∧ wz.cell? ⟨cg, k * 9 + 7, none⟩ = some (.int .i64 r.line) ∧ wz.cell? ⟨cg, k * 9 + 8, none⟩ = some (.string (bs r.word))))) (by kernel_rfl) ⟨s1, s2, s3, s4, s5, s6, s7, s8, s9, s10⟩ (fun hHeld => ?_)
                      refine wpAnyH_take (i := 0) (v := ?_) rfl (by kernel_rfl) (by kernel_rfl) (by kernel_rfl) (fun _ _ _ h => h) (Or.inl ⟨by rfl, ?_⟩) hHeld ?_
                      rotate_left
                      · intro w9 hSw; (try dsimp only at hSw); go_simp; try with_reducible rfl
                      simp only [Act.put, List.getElem_toArray, List.getElem_cons_zero, List.getElem_cons_succ, List.setIfInBounds_toArray, List.set_cons_succ, List.set_cons_zero]
                      refine wpAnyH_take (i := 1) (v := ?_) rfl (by kernel_rfl) (by kernel_rfl) (by kernel_rfl) (fun _ _ _ h => h) (Or.inl ⟨by rfl, ?_⟩) hHeld ?_
                      rotate_left
                      · intro w9 hSw; (try dsimp only at hSw); go_simp; try with_reducible rfl
                      simp only [Act.put, List.getElem_toArray, List.getElem_cons_zero, List.getElem_cons_succ, List.setIfInBounds_toArray, List.set_cons_succ, List.set_cons_zero]
                      refine wpAnyH_take (i := 2) (v := ?_) rfl (by kernel_rfl) (by kernel_rfl) (by kernel_rfl) (fun _ _ _ h => h) (Or.inl ⟨by rfl, ?_⟩) hHeld ?_
                      rotate_left
                      · intro w9 hSw; (try dsimp only at hSw); go_simp; try with_reducible rfl
                      simp only [Act.put, List.getElem_toArray, List.getElem_cons_zero, List.getElem_cons_succ, List.setIfInBounds_toArray, List.set_cons_succ, List.set_cons_zero]
                      refine wpAnyH_take (i := 3) (v := ?_) rfl (by kernel_rfl) (by kernel_rfl) (by kernel_rfl) (fun _ _ _ h => h) (Or.inl ⟨by rfl, ?_⟩) hHeld ?_
                      rotate_left
                      · intro w9 hSw; (try dsimp only at hSw); go_simp; try with_reducible rfl
                      simp only [Act.put, List.getElem_toArray, List.getElem_cons_zero, List.getElem_cons_succ, List.setIfInBounds_toArray, List.set_cons_succ, List.set_cons_zero]
                      refine wpAnyH_take (i := 4) (v := ?_) rfl (by kernel_rfl) (by kernel_rfl) (by kernel_rfl) (fun _ _ _ h => h) (Or.inl ⟨by rfl, ?_⟩) hHeld ?_
                      rotate_left
                      · intro w9 hSw; (try dsimp only at hSw); go_simp; try with_reducible rfl
                      simp only [Act.put, List.getElem_toArray, List.getElem_cons_zero, List.getElem_cons_succ, List.setIfInBounds_toArray, List.set_cons_succ, List.set_cons_zero]
                      refine wpAnyH_take (i := 5) (v := ?_) rfl (by kernel_rfl) (by kernel_rfl) (by kernel_rfl) (fun _ _ _ h => h) (Or.inl ⟨by rfl, ?_⟩) hHeld ?_
                      rotate_left
                      · intro w9 hSw; (try dsimp only at hSw); go_simp; try with_reducible rfl
                      simp only [Act.put, List.getElem_toArray, List.getElem_cons_zero, List.getElem_cons_succ, List.setIfInBounds_toArray, List.set_cons_succ, List.set_cons_zero]
                      refine wpAnyH_take (i := 6) (v := ?_) rfl (by kernel_rfl) (by kernel_rfl) (by kernel_rfl) (fun _ _ _ h => h) (Or.inl ⟨by rfl, ?_⟩) hHeld ?_
                      rotate_left
                      · intro w9 hSw; (try dsimp only at hSw); go_simp; try with_reducible rfl
                      simp only [Act.put, List.getElem_toArray, List.getElem_cons_zero, List.getElem_cons_succ, List.setIfInBounds_toArray, List.set_cons_succ, List.set_cons_zero]
                      refine wpAnyH_take (i := 7) (v := ?_) rfl (by kernel_rfl) (by kernel_rfl) (by kernel_rfl) (fun _ _ _ h => h) (Or.inl ⟨by rfl, ?_⟩) hHeld ?_
                      rotate_left
                      · intro w9 hSw; (try dsimp only at hSw); go_simp; try with_reducible rfl
                      simp only [Act.put, List.getElem_toArray, List.getElem_cons_zero, List.getElem_cons_succ, List.setIfInBounds_toArray, List.set_cons_succ, List.set_cons_zero]
                      refine wpAnyH_ready (rs := [8]) (by kernel_rfl) (by simp) ?_
                      refine AllReadyH.cons rfl (fun K hK => ?_) AllReadyH.nil
                      go_simp
                      go_at_call 28
                      refine hWd.mono ?_
                      clear hWd
                      rintro e w8 ⟨rfl, hB8⟩
                      have hb8 : Below w4.heap.size w4 w8 := HJ.out.2.2.trans ((show Below w4.heap.size wr wr.drew from ⟨rfl, rfl, rfl, Nat.le_refl _, fun _ _ => rfl⟩).trans (hB8.mono HJ.out.2.2.size))
                      have q := hcells.out w8 hb8
                      have Hb8 := hide hb8
                      clear hB8 hb8 hHeld s1 s2 s3 s4 s5 s6 s7 s8 s9 s10
                      go_wp2_with fail
                      refine hK.out _ _ q (fun hHeld => ?_)
                      clear hK K
                      try simp only [Act.put, List.getElem_toArray, List.getElem_cons_zero, List.getElem_cons_succ, List.setIfInBounds_toArray, List.set_cons_succ, List.set_cons_zero]
                      refine wpAnyH_take (i := 9) (v := ?_) rfl (by kernel_rfl) (by kernel_rfl) (by kernel_rfl) (fun _ _ _ h => h) (Or.inl ⟨by rfl, ?_⟩) hHeld ?_
                      rotate_left
                      · intro w9 hSw; (try dsimp only at hSw); go_simp; try with_reducible rfl
                      simp only [Act.put, List.getElem_toArray, List.getElem_cons_zero, List.getElem_cons_succ, List.setIfInBounds_toArray, List.set_cons_succ, List.set_cons_zero]
                      refine wpAnyH_done (by kernel_rfl) ?_ _
                      clear hHeld q
                      go_wp2_with fail
                      go_roundw
                      case rel =>
                        (try rw [hwi])
                        exact ⟨j + 1, HJ.out.2.1, rfl, by rw [HJ.out.1], Hb8.out⟩
                      case measure =>
                        (try rw [hwi])
                        exact Nat.sub_lt_sub_left HJ.out.2.1 (Nat.lt_succ_self j)
                    · have hjl : j = ps.length := Nat.le_antisymm hj (Nat.le_of_not_lt h8)
                      subst hjl
                      have hge : ¬ (ps.length : Int) < (ps.length : Int) := by omega
                      obtain ⟨V0, hV0⟩ : ∃ V0, Z ++ catN r.i.op (ps.map fun c => wordW (nmP P.vs P.fs P.ls P.names) r.i (c.toNat : Int)) ps.length = V0 := ⟨_, rfl⟩
                      have hV0l : V0.length = Z.length + (catN r.i.op (ps.map fun c => wordW (nmP P.vs P.fs P.ls P.names) r.i (c.toNat : Int)) ps.length).length := by rw [← hV0, List.length_append]
                      have z1 : ¬ 9223372036854775807 < (bs V0).size + 1 := zn (by omega)
                      have a1 : bs V0 ++ ⟨#[10]⟩ = bs (V0 ++ [10]) := bs_append _ [10]
                      have hV2 : V0 ++ [10] = Y ++ kW (nmP P.vs P.fs P.ls P.names) (th.code.map RI.i) (k + 1) := by rw [hnext, ← hV0]
                      rw [hV0]
                      generalize V0 ++ [10] = V2 at *
                      have HJ := hide (⟨hV2, hb7⟩ : _ ∧ _)
                      clear hnext hZl hcat hc0 hZ1 hr e hfit hl8 hxok h7 hpl3 hV0 hV0l hV2 h8 hj hb7 hcells
                      go_wp2_with fail
                      rw [← HA.out.2.2.2.2.2.2.1]
                      go_roundw
                      case rel =>
                        (try rw [hwk])
                        exact ⟨k + 1, Nat.succ_le_succ (Nat.le_of_lt hk7.out), rfl, by rw [HJ.out.1], HJ.out.2⟩
                      case measure =>
                        (try rw [hwk])
                        exact Nat.sub_lt_sub_left (Nat.lt_succ_of_lt hk7.out) (Nat.lt_succ_self k)
                · have hkl : k = th.code.length := Nat.le_antisymm h6 (Nat.le_of_not_lt h7)
                  have hgek : ¬ (k : Int) < (th.code.length : Int) := by omega
                  have hkB5 := (HQ.out.block _ (Array.getElem?_eq_some_iff.1 hkB).1).trans hkB
                  have t1 : wq.cell? ⟨tb, 1, none⟩ = some (.slice ca th.code.length cc) := by rw [Lib.cell_of_heap hkB5]; rfl
                  have hwk : wrap64 ((k : Int) + 1) = (k : Int) + 1 := IntWalk.wrap64_in _ (by have := hcode.1; rw [hml] at this; omega)
                  have hnext : Y ++ kW (nmP P.vs P.fs P.ls P.names) (th.code.map RI.i) (k + 1) = Z := by
                    have hke := kW_end (N := nmP P.vs P.fs P.ls P.names) (is := th.code.map RI.i)
                    rw [hml] at hke
                    rw [← hZ.out, hkl, hke, hml]; simp
                  have HJ := hide (⟨hnext, h6⟩ : _ ∧ _)
                  clear hd4 ht4 hk4 hbW4 hB4 hrow4 hkB hcode hsu h5 hkB5 hml hnext h6 h7 hkl
                  go_wp2_with fail
                  go_roundw
                  case rel =>
                    (try rw [hwk])
                    exact ⟨k + 1, Nat.succ_le_succ HJ.out.2, rfl, by rw [HJ.out.1], HQ.out⟩
                  case measure =>
                    (try rw [hwk])
                    exact Nat.sub_lt_sub_left (Nat.lt_succ_of_le HJ.out.2) (Nat.lt_succ_self k)
              | true =>
                have hlk : (k : Int) ≤ 1000 := by omega
                have hZS : S0 ++ lineW [labW (k : Int) ++ [58]] = Z := by simpa using hZS
                rw [line_lab] at hZS
                have hI := itoa_any (k : Int) (by omega) (by omega) wr (ht4.keep (hb5.mono hB4))
                have hkle := kW_le (N := nmP P.vs P.fs P.ls P.names) (is := th.code.map RI.i) (k := k + 1) (by rw [hml]; exact Nat.succ_le_succ h6)
                have hkz : (Y ++ kW (nmP P.vs P.fs P.ls P.names) (th.code.map RI.i) k ++ labLn (targL (th.code.map RI.i) ((th.code.map RI.i).length + 1)) k).length ≤ (Y ++ kW (nmP P.vs P.fs P.ls P.names) (th.code.map RI.i) (k + 1)).length := by
                  by_cases hkn : k < th.code.length
                  · obtain ⟨r, hr⟩ : ∃ r, th.code[k]? = some r := ⟨_, List.getElem?_eq_getElem hkn⟩
                    rw [kW_succ (hmem k r hr)]
                    simp only [List.length_append]; omega
                  · have hkn : k = th.code.length := by omega
                    have hke := kW_end (N := nmP P.vs P.fs P.ls P.names) (is := th.code.map RI.i)
                    rw [hml] at hke
                    rw [hkn, hke, hml]
                    simp only [List.length_append]; omega
                have hZl : S0.length + (1 + (Lib.itoa (k : Int)).length + 2) ≤ maxT := by
                  have h1 := congrArg List.length hZS
                  have h2 := hYl.out
                  rw [hZ.out] at hkz
                  simp only [List.length_append, List.length_cons, List.length_nil] at h1 hkz
                  omega
                generalize Lib.itoa (k : Int) = it at *
                have z1 : ¬ 9223372036854775807 < (bs S0).size + 1 := zn (by omega)
                have a1 : bs S0 ++ ⟨#[108]⟩ = bs (S0 ++ [108]) := bs_append _ [108]
                have l1 : (S0 ++ [108]).length = S0.length + 1 := by simp
                have z2 : ¬ 9223372036854775807 < (bs (S0 ++ [108])).size + (bs it).size := cat_sz (by omega)
                have a2 : bs (S0 ++ [108]) ++ bs it = bs (S0 ++ [108] ++ it) := bs_append _ _
                have l2 : (S0 ++ [108] ++ it).length = S0.length + 1 + it.length := by simp; omega
                have z3 : ¬ 9223372036854775807 < (bs (S0 ++ [108] ++ it)).size + 2 := zn (by omega)
                have a3 : bs (S0 ++ [108] ++ it) ++ ⟨#[58, 10]⟩ = bs Z := by
                  rw [← hZS]
                  show bs _ ++ bs [58, 10] = _
                  rw [bs_append]; simp
                generalize S0 ++ [108] ++ it = V2 at *
                generalize S0 ++ [108] = V1 at *
                have H6 := hide (⟨hb5, h6⟩ : _ ∧ _)
                clear hd4 ht4 hk4 hbW4 hB4 hrow4 hkB hcode hsu h5 hb5 hkB5 hrow5 htk hlab hj h7 hkle hkz hZl hZS l1 l2 hml h6 hlk hlek2
                go_wp2_with fail
                refine hI.mono ?_
                clear hI
                rintro e wq ⟨rfl, hBq⟩
                have HQ := hide (H6.out.1.trans (hBq.mono H6.out.1.size))
                have h6 := H6.out.2
                obtain ⟨hd4, ht4, hk4, hbW4, hB4, hrow4, hkB, hcode, hsu, h5⟩ := H4.out
                have hml : (th.code.map RI.i).length = th.code.length := List.length_map ..
                clear hBq t1
                by_cases h7 : k < th.code.length
                · have hltk : (k : Int) < (th.code.length : Int) := by omega
                  obtain ⟨r, hr⟩ : ∃ r, th.code[k]? = some r := ⟨_, List.getElem?_eq_getElem h7⟩
                  have hri : (th.code.map RI.i)[k]? = some r.i := by rw [List.getElem?_map, hr]; rfl
                  obtain ⟨cg, ccap, e, -, I9⟩ := i9_at (c_belowS hrow4 HQ.out) hr
                  have hForm := rForm_any r.i.op wq
                  obtain ⟨hfit, ⟨ps, hps, hl8, hxok⟩, -⟩ := hcode.2 r.i (List.mem_of_getElem? hri)
                  have hform : formT r.i.op = ps.map letX := by unfold formT; rw [hps]
                  have hwk : wrap64 ((k : Int) + 1) = (k : Int) + 1 := IntWalk.wrap64_in _ (by have := hcode.1; rw [hml] at this; omega)
                  have hksu := kW_succ (N := nmP P.vs P.fs P.ls P.names) hri
                  have hins : insLn (nmP P.vs P.fs P.ls P.names) r.i = catN r.i.op (ps.map fun c => wordW (nmP P.vs P.fs P.ls P.names) r.i (c.toNat : Int)) ps.length ++ [10] := by
                    unfold insLn insW
                    rw [hps]
                    show lineW (r.i.op :: ps.map _) = _
                    rw [line_cat, List.length_map]
                  have hnext : Y ++ kW (nmP P.vs P.fs P.ls P.names) (th.code.map RI.i) (k + 1) = Z ++ catN r.i.op (ps.map fun c => wordW (nmP P.vs P.fs P.ls P.names) r.i (c.toNat : Int)) ps.length ++ [10] := by
                    rw [hksu, hins, ← hZ.out]; simp
                  have hkle := kW_le (N := nmP P.vs P.fs P.ls P.names) (is := th.code.map RI.i) (k := k + 1) (by rw [hml]; exact Nat.succ_le_succ (Nat.le_of_lt h7))
                  have hZl : Z.length + ((catN r.i.op (ps.map fun c => wordW (nmP P.vs P.fs P.ls P.names) r.i (c.toNat : Int)) ps.length).length + 1) ≤ maxT := by
                    have h1 := congrArg List.length hnext
                    rw [List.length_append, List.length_append, List.length_append] at h1
                    have h2 := hYl.out
                    have h3 : ([10] : Tx).length = 1 := rfl
                    omega
                  have hpl3 := partsT_mem hps
                  have hfl : (bs (ps.map letX)).size = ps.length := by rw [bs_size, List.length_map]
                  have hcat : ∀ j, j ≤ ps.length → (catN r.i.op (ps.map fun c => wordW (nmP P.vs P.fs P.ls P.names) r.i (c.toNat : Int)) j).length ≤ (catN r.i.op (ps.map fun c => wordW (nmP P.vs P.fs P.ls P.names) r.i (c.toNat : Int)) ps.length).length := fun j hj => by
                    have := catN_le (k := r.i.op) (ns := ps.map fun c => wordW (nmP P.vs P.fs P.ls P.names) r.i (c.toNat : Int)) (i := j) (by rw [List.length_map]; exact hj)
                    rw [List.length_map] at this
                    exact this
                  have hc0 : catN r.i.op (ps.map fun c => wordW (nmP P.vs P.fs P.ls P.names) r.i (c.toNat : Int)) 0 = r.i.op := by simp [catN]
                  have hop : Z.length + r.i.op.length ≤ maxT := by
                    have := hcat 0 (Nat.zero_le _)
                    rw [hc0] at this
                    omega
                  have z1 : ¬ 9223372036854775807 < (bs Z).size + (bs r.i.op).size := cat_sz hop
                  have a1 : bs Z ++ bs r.i.op = bs (Z ++ r.i.op) := bs_append _ _
                  obtain ⟨Z1, hZ1⟩ : ∃ Z1, Z ++ r.i.op = Z1 := ⟨_, rfl⟩
                  rw [hZ1] at a1
                  rw [hform] at hForm
                  have hkB5 := (HQ.out.block _ (Array.getElem?_eq_some_iff.1 hkB).1).trans hkB
                  rw [e] at hkB5
                  have t1 : wq.cell? ⟨tb, 1, none⟩ = some (.slice (some ⟨cg, 0, none⟩) th.code.length ccap) := by rw [Lib.cell_of_heap hkB5]; rfl
                  have t0 := I9.c0
                  have HA := hide (⟨hnext, hZl, hcat, hc0, hZ1, hr, e, hfit, hl8, hxok, h7, hpl3⟩ : _ ∧ _ ∧ _ ∧ _ ∧ _ ∧ _ ∧ _ ∧ _ ∧ _ ∧ _ ∧ _ ∧ _)
                  have hk7 := hide h7
                  rw [e]
                  clear hd4 ht4 hk4 hbW4 hB4 hrow4 hkB hcode hsu h5 hkB5 hml hri I9 hfit hps hl8 hxok hform hksu hins hnext hkle hZl hpl3 hcat hc0 hop hZ1 hr e h7 h6
                  go_wp2_with fail
                  refine hForm.mono ?_
                  clear hForm
                  rintro e w6 ⟨rfl, rfl⟩
                  go_wp2_with fail
                  clear t0 t1 z1 a1 hltk
                  have hcells : Hid (∀ wz, Below w4.heap.size w4 wz → (wz.cell? ⟨tb, 1, none⟩ = some (.slice (some ⟨cg, 0, none⟩) th.code.length ccap) ∧ wz.cell? ⟨cg, k * 9, none⟩ = some (.string (bs r.i.op)) ∧ wz.cell? ⟨cg, k * 9 + 1, none⟩ = some (.int .i64 r.i.r) ∧ wz.cell? ⟨cg, k * 9 + 2, none⟩ = some (.bool r.i.aR) ∧ wz.cell? ⟨cg, k * 9 + 3, none⟩ = some (.int .i64 r.i.aN) ∧ wz.cell? ⟨cg, k * 9 + 4, none⟩ = some (.bool r.i.bR) ∧ wz.cell? ⟨cg, k * 9 + 5, none⟩ = some (.int .i64 r.i.bN) ∧ wz.cell? ⟨cg, k * 9 + 6, none⟩ = some (.int .i64 r.i.x) ∧ wz.cell? ⟨cg, k * 9 + 7, none⟩ = some (.int .i64 r.line) ∧ wz.cell? ⟨cg, k * 9 + 8, none⟩ = some (.string (bs r.word)))) := by
                    intro wz hbz
                    obtain ⟨hd4, ht4, hk4, hbW4, hB4, hrow4, hkB, hcode, hsu, h5⟩ := H4.out
                    obtain ⟨hnext, hZl, hcat, hc0, hZ1, hr, e, hfit, hl8, hxok, h7, hpl3⟩ := HA.out
                    have hkz := (hbz.block _ (Array.getElem?_eq_some_iff.1 hkB).1).trans hkB
                    rw [e] at hkz
                    obtain ⟨cg', cc', e', -, I9⟩ := i9_at (c_belowS hrow4 hbz) hr
                    rw [e] at e'
                    cases e'
                    exact ⟨by rw [Lib.cell_of_heap hkz]; rfl, I9.c0, I9.c1, I9.c2, I9.c3, I9.c4, I9.c5, I9.c6, I9.c7, I9.c8⟩
                  go_loopw [3, 11] (fun sv jv wr => ∃ j : Nat, j ≤ ps.length ∧ jv = .int .i64 j ∧ sv = .string (bs (Z ++ catN r.i.op (ps.map fun c => wordW (nmP P.vs P.fs P.ls P.names) r.i (c.toNat : Int)) j)) ∧ Below w4.heap.size w4 wr) (fun _ jv _ => ps.length - (intOf jv).toNat)
                  case atStart => exact ⟨0, Nat.zero_le _, rfl, by rw [HA.out.2.2.2.1, HA.out.2.2.2.2.1], HQ.out⟩
                  case round =>
                    obtain ⟨j, hj, rfl, rfl, hb7⟩ := hrel
                    obtain ⟨hnext, hZl, hcat, hc0, hZ1, hr, e, hfit, hl8, hxok, h7, hpl3⟩ := HA.out
                    by_cases h8 : j < ps.length
                    · obtain ⟨hd4, ht4, hk4, hbW4, hB4, hrow4, hkB, hcode, hsu, h5⟩ := H4.out
                      have hltj : (j : Int) < (ps.length : Int) := by omega
                      have hcm : ps[j] ∈ ps := List.getElem_mem h8
                      have hjz : j < (bs (ps.map letX)).size := by rw [hfl]; exact h8
                      have hgk : (bs (ps.map letX))[j]'hjz = letX ps[j] := by rw [bs_get _ j hjz]; simp
                      have hbd : Below w4.heap.size w4 wr.drew := hb7.drew
                      have hkd := (hbd.block _ (Array.getElem?_eq_some_iff.1 hk4).1).trans hk4
                      have hWd := rWordD_any hkd (hd4.below hbd) (ht4.keep (hbd.mono hB4)) (Nat.le_trans hB4 hbd.size) r hfit ps[j] (hl8 _ hcm) (hxok _ hcm)
                      unfold ptrV riC at hWd
                      have hwi : wrap64 ((j : Int) + 1) = (j : Int) + 1 := IntWalk.wrap64_in _ (by omega)
                      have hsu2 := catN_succ (k := r.i.op) (ns := (ps.map fun c => wordW (nmP P.vs P.fs P.ls P.names) r.i (c.toNat : Int))) (i := j) (by rw [List.length_map]; exact h8)
                      have hgd : ((ps.map fun c => wordW (nmP P.vs P.fs P.ls P.names) r.i (c.toNat : Int))).getD j [] = wordW (nmP P.vs P.fs P.ls P.names) r.i (ps[j].toNat : Int) := by
                        rw [List.getD_eq_getElem?_getD, List.getElem?_map, List.getElem?_eq_getElem h8]; rfl
                      rw [hgd] at hsu2
                      generalize wordW (nmP P.vs P.fs P.ls P.names) r.i (ps[j].toNat : Int) = y at *
                      have hcj := hcat (j + 1) h8
                      rw [hsu2, List.length_append, List.length_append] at hcj
                      have h32 : ([32] : Tx).length = 1 := rfl
                      obtain ⟨V0, hV0⟩ : ∃ V0, Z ++ catN r.i.op (ps.map fun c => wordW (nmP P.vs P.fs P.ls P.names) r.i (c.toNat : Int)) j = V0 := ⟨_, rfl⟩
                      have hV0l : V0.length = Z.length + (catN r.i.op (ps.map fun c => wordW (nmP P.vs P.fs P.ls P.names) r.i (c.toNat : Int)) j).length := by rw [← hV0, List.length_append]
                      have z1 : ¬ 9223372036854775807 < (bs V0).size + 1 := zn (by omega)
                      have a1 : bs V0 ++ ⟨#[32]⟩ = bs (V0 ++ [32]) := bs_append _ [32]
                      have hV1l : (V0 ++ [32]).length = V0.length + 1 := by simp
                      have z2 : ¬ 9223372036854775807 < (bs (V0 ++ [32])).size + (bs y).size := cat_sz (by omega)
                      have a2 : bs (V0 ++ [32]) ++ bs y = bs (V0 ++ [32] ++ y) := bs_append _ _
                      have hV2 : V0 ++ [32] ++ y = Z ++ catN r.i.op (ps.map fun c => wordW (nmP P.vs P.fs P.ls P.names) r.i (c.toNat : Int)) (j + 1) := by rw [hsu2, ← hV0]; simp
                      generalize V0 ++ [32] ++ y = V2 at *
                      generalize V0 ++ [32] = V1 at *
                      obtain ⟨s1, s2, s3, s4, s5, s6, s7, s8, s9, s10⟩ := hcells.out wr hb7
                      have HJ := hide (⟨hV2, h8, hb7⟩ : _ ∧ _ ∧ _)
                      rw [hV0]
                      have hkn := hk7.out
                      generalize hcc : letX ps[j] = sg at *
                      clear hnext hZl hcat hc0 hZ1 hr e hfit hl8 hxok h7 hpl3 hd4 ht4 hk4 hbW4 hB4 hrow4 hkB hcode hsu h5 hcm hbd hkd hsu2 hgd hcj hV0 hV0l hV1l hV2 h8 hj hb7 hcc
                      go_wp2_with fail
                      refine wp_region_held_drew (S := (fun wz => (wz.cell? ⟨tb, 1, none⟩ = some (.slice (some ⟨cg, 0, none⟩) th.code.length ccap) ∧ wz.cell? ⟨cg, k * 9, none⟩ = some (.string (bs r.i.op)) ∧ wz.cell? ⟨cg, k * 9 + 1, none⟩ = some (.int .i64 r.i.r) ∧ wz.cell? ⟨cg, k * 9 + 2, none⟩ = some (.bool r.i.aR) ∧ wz.cell? ⟨cg, k * 9 + 3, none⟩ = some (.int .i64 r.i.aN) ∧ wz.cell? ⟨cg, k * 9 + 4, none⟩ = some (.bool r.i.bR) ∧ wz.cell? ⟨cg, k * 9 + 5, none⟩ = some (.int .i64 r.i.bN) ∧ wz.cell? ⟨cg, k * 9 + 6, none⟩ = some (.int .i64 r.i.x) ∧ wz.cell? ⟨cg, k * 9 + 7, none⟩ = some (.int .i64 r.line) ∧ wz.cell? ⟨cg, k * 9 + 8, none⟩ = some (.string (bs r.word))))) (by kernel_rfl) ⟨s1, s2, s3, s4, s5, s6, s7, s8, s9, s10⟩ (fun hHeld => ?_)
                      refine wpAnyH_take (i := 0) (v := ?_) rfl (by kernel_rfl) (by kernel_rfl) (by kernel_rfl) (fun _ _ _ h => h) (Or.inl ⟨by rfl, ?_⟩) hHeld ?_
                      rotate_left
                      · intro w9 hSw; (try dsimp only at hSw); go_simp; try with_reducible rfl
                      simp only [Act.put, List.getElem_toArray, List.getElem_cons_zero, List.getElem_cons_succ, List.setIfInBounds_toArray, List.set_cons_succ, List.set_cons_zero]
                      refine wpAnyH_take (i := 1) (v := ?_) rfl (by kernel_rfl) (by kernel_rfl) (by kernel_rfl) (fun _ _ _ h => h) (Or.inl ⟨by rfl, ?_⟩) hHeld ?_
                      rotate_left
                      · intro w9 hSw; (try dsimp only at hSw); go_simp; try with_reducible rfl
                      simp only [Act.put, List.getElem_toArray, List.getElem_cons_zero, List.getElem_cons_succ, List.setIfInBounds_toArray, List.set_cons_succ, List.set_cons_zero]
                      refine wpAnyH_take (i := 2) (v := ?_) rfl (by kernel_rfl) (by kernel_rfl) (by kernel_rfl) (fun _ _ _ h => h) (Or.inl ⟨by rfl, ?_⟩) hHeld ?_
                      rotate_left
                      · intro w9 hSw; (try dsimp only at hSw); go_simp; try with_reducible rfl
                      simp only [Act.put, List.getElem_toArray, List.getElem_cons_zero, List.getElem_cons_succ, List.setIfInBounds_toArray, List.set_cons_succ, List.set_cons_zero]
                      refine wpAnyH_take (i := 3) (v := ?_) rfl (by kernel_rfl) (by kernel_rfl) (by kernel_rfl) (fun _ _ _ h => h) (Or.inl ⟨by rfl, ?_⟩) hHeld ?_
                      rotate_left
                      · intro w9 hSw; (try dsimp only at hSw); go_simp; try with_reducible rfl
                      simp only [Act.put, List.getElem_toArray, List.getElem_cons_zero, List.getElem_cons_succ, List.setIfInBounds_toArray, List.set_cons_succ, List.set_cons_zero]
                      refine wpAnyH_take (i := 4) (v := ?_) rfl (by kernel_rfl) (by kernel_rfl) (by kernel_rfl) (fun _ _ _ h => h) (Or.inl ⟨by rfl, ?_⟩) hHeld ?_
                      rotate_left
                      · intro w9 hSw; (try dsimp only at hSw); go_simp; try with_reducible rfl
                      simp only [Act.put, List.getElem_toArray, List.getElem_cons_zero, List.getElem_cons_succ, List.setIfInBounds_toArray, List.set_cons_succ, List.set_cons_zero]
                      refine wpAnyH_take (i := 5) (v := ?_) rfl (by kernel_rfl) (by kernel_rfl) (by kernel_rfl) (fun _ _ _ h => h) (Or.inl ⟨by rfl, ?_⟩) hHeld ?_
                      rotate_left
                      · intro w9 hSw; (try dsimp only at hSw); go_simp; try with_reducible rfl
                      simp only [Act.put, List.getElem_toArray, List.getElem_cons_zero, List.getElem_cons_succ, List.setIfInBounds_toArray, List.set_cons_succ, List.set_cons_zero]
                      refine wpAnyH_take (i := 6) (v := ?_) rfl (by kernel_rfl) (by kernel_rfl) (by kernel_rfl) (fun _ _ _ h => h) (Or.inl ⟨by rfl, ?_⟩) hHeld ?_
                      rotate_left
                      · intro w9 hSw; (try dsimp only at hSw); go_simp; try with_reducible rfl
                      simp only [Act.put, List.getElem_toArray, List.getElem_cons_zero, List.getElem_cons_succ, List.setIfInBounds_toArray, List.set_cons_succ, List.set_cons_zero]
                      refine wpAnyH_take (i := 7) (v := ?_) rfl (by kernel_rfl) (by kernel_rfl) (by kernel_rfl) (fun _ _ _ h => h) (Or.inl ⟨by rfl, ?_⟩) hHeld ?_
                      rotate_left
                      · intro w9 hSw; (try dsimp only at hSw); go_simp; try with_reducible rfl
                      simp only [Act.put, List.getElem_toArray, List.getElem_cons_zero, List.getElem_cons_succ, List.setIfInBounds_toArray, List.set_cons_succ, List.set_cons_zero]
                      refine wpAnyH_ready (rs := [8]) (by kernel_rfl) (by simp) ?_
                      refine AllReadyH.cons rfl (fun K hK => ?_) AllReadyH.nil
                      go_simp
                      go_at_call 28
                      refine hWd.mono ?_
                      clear hWd
                      rintro e w8 ⟨rfl, hB8⟩
                      have hb8 : Below w4.heap.size w4 w8 := HJ.out.2.2.trans ((show Below w4.heap.size wr wr.drew from ⟨rfl, rfl, rfl, Nat.le_refl _, fun _ _ => rfl⟩).trans (hB8.mono HJ.out.2.2.size))
                      have q := hcells.out w8 hb8
                      have Hb8 := hide hb8
                      clear hB8 hb8 hHeld s1 s2 s3 s4 s5 s6 s7 s8 s9 s10
                      go_wp2_with fail
                      refine hK.out _ _ q (fun hHeld => ?_)
                      clear hK K
                      try simp only [Act.put, List.getElem_toArray, List.getElem_cons_zero, List.getElem_cons_succ, List.setIfInBounds_toArray, List.set_cons_succ, List.set_cons_zero]
                      refine wpAnyH_take (i := 9) (v := ?_) rfl (by kernel_rfl) (by kernel_rfl) (by kernel_rfl) (fun _ _ _ h => h) (Or.inl ⟨by rfl, ?_⟩) hHeld ?_
                      rotate_left
                      · intro w9 hSw; (try dsimp only at hSw); go_simp; try with_reducible rfl
                      simp only [Act.put, List.getElem_toArray, List.getElem_cons_zero, List.getElem_cons_succ, List.setIfInBounds_toArray, List.set_cons_succ, List.set_cons_zero]
                      refine wpAnyH_done (by kernel_rfl) ?_ _
                      clear hHeld q
                      go_wp2_with fail
                      go_roundw
                      case rel =>
                        (try rw [hwi])
                        exact ⟨j + 1, HJ.out.2.1, rfl, by rw [HJ.out.1], Hb8.out⟩
                      case measure =>
                        (try rw [hwi])
                        exact Nat.sub_lt_sub_left HJ.out.2.1 (Nat.lt_succ_self j)
                    · have hjl : j = ps.length := Nat.le_antisymm hj (Nat.le_of_not_lt h8)
                      subst hjl
                      have hge : ¬ (ps.length : Int) < (ps.length : Int) := by omega
                      obtain ⟨V0, hV0⟩ : ∃ V0, Z ++ catN r.i.op (ps.map fun c => wordW (nmP P.vs P.fs P.ls P.names) r.i (c.toNat : Int)) ps.length = V0 := ⟨_, rfl⟩
                      have hV0l : V0.length = Z.length + (catN r.i.op (ps.map fun c => wordW (nmP P.vs P.fs P.ls P.names) r.i (c.toNat : Int)) ps.length).length := by rw [← hV0, List.length_append]
                      have z1 : ¬ 9223372036854775807 < (bs V0).size + 1 := zn (by omega)
                      have a1 : bs V0 ++ ⟨#[10]⟩ = bs (V0 ++ [10]) := bs_append _ [10]
                      have hV2 : V0 ++ [10] = Y ++ kW (nmP P.vs P.fs P.ls P.names) (th.code.map RI.i) (k + 1) := by rw [hnext, ← hV0]
                      rw [hV0]
                      generalize V0 ++ [10] = V2 at *
                      have HJ := hide (⟨hV2, hb7⟩ : _ ∧ _)
                      clear hnext hZl hcat hc0 hZ1 hr e hfit hl8 hxok h7 hpl3 hV0 hV0l hV2 h8 hj hb7 hcells
                      go_wp2_with fail
                      rw [← HA.out.2.2.2.2.2.2.1]
                      go_roundw
                      case rel =>
                        (try rw [hwk])
                        exact ⟨k + 1, Nat.succ_le_succ (Nat.le_of_lt hk7.out), rfl, by rw [HJ.out.1], HJ.out.2⟩
                      case measure =>
                        (try rw [hwk])
                        exact Nat.sub_lt_sub_left (Nat.lt_succ_of_lt hk7.out) (Nat.lt_succ_self k)
                · have hkl : k = th.code.length := Nat.le_antisymm h6 (Nat.le_of_not_lt h7)
                  have hgek : ¬ (k : Int) < (th.code.length : Int) := by omega
                  have hkB5 := (HQ.out.block _ (Array.getElem?_eq_some_iff.1 hkB).1).trans hkB
                  have t1 : wq.cell? ⟨tb, 1, none⟩ = some (.slice ca th.code.length cc) := by rw [Lib.cell_of_heap hkB5]; rfl
                  have hwk : wrap64 ((k : Int) + 1) = (k : Int) + 1 := IntWalk.wrap64_in _ (by have := hcode.1; rw [hml] at this; omega)
                  have hnext : Y ++ kW (nmP P.vs P.fs P.ls P.names) (th.code.map RI.i) (k + 1) = Z := by
                    have hke := kW_end (N := nmP P.vs P.fs P.ls P.names) (is := th.code.map RI.i)
                    rw [hml] at hke
                    rw [← hZ.out, hkl, hke, hml]; simp
                  have HJ := hide (⟨hnext, h6⟩ : _ ∧ _)
                  clear hd4 ht4 hk4 hbW4 hB4 hrow4 hkB hcode hsu h5 hkB5 hml hnext h6 h7 hkl
                  go_wp2_with fail
                  go_roundw
                  case rel =>
                    (try rw [hwk])
                    exact ⟨k + 1, Nat.succ_le_succ HJ.out.2, rfl, by rw [HJ.out.1], HQ.out⟩
                  case measure =>
                    (try rw [hwk])
                    exact Nat.sub_lt_sub_left (Nat.lt_succ_of_le HJ.out.2) (Nat.lt_succ_self k)
        · have hkl : k = th.code.length + 1 := by omega
          subst hkl
          have hgek : ¬ ((th.code.length + 1 : Nat) : Int) ≤ (th.code.length : Int) := by omega
          have hgek2 : ¬ ((th.code.length : Int) + 1) ≤ (th.code.length : Int) := by omega
          have hwi : wrap64 ((i : Int) + 1) = (i : Int) + 1 := IntWalk.wrap64_in _ (by have := (HK.out).2.2.2.2.1.thr; rw [hnl.out] at this; omega)
          have hnx : Y ++ kW (nmP P.vs P.fs P.ls P.names) (th.code.map RI.i) (th.code.length + 1) = y4 ++ thrsW (nmP P.vs P.fs P.ls P.names) P.names (P.thr.map fun th => th.code.map RI.i) (i + 1) := by
            rw [hsu, ← hkt.out, ← hY.out, ← hX.out, hml]; simp
          rw [hnx]
          have HJ := hide (⟨h5, hbW4.trans (hb5.mono hbW4.size)⟩ : _ ∧ _)
          clear hd4 ht4 hk4 hbW4 hB4 hrow4 hkB hcode hsu h5 hb5 hkB5 hrow5 hml h6 hk hnx
          go_wp2_with fail
          go_roundw
          case rel =>
            (try rw [hwi])
            exact ⟨i + 1, HJ.out.1, rfl, rfl, HJ.out.2⟩
          case measure =>
            (try rw [hwi])
            exact Nat.sub_lt_sub_left HJ.out.1 (Nat.lt_succ_self i)
    · have hil : i = P.thr.length := Nat.le_antisymm hi (Nat.le_of_not_lt h5)
      subst hil
      have hge : ¬ (P.thr.length : Int) < (P.thr.length : Int) := by omega
      have HB := hide (hb0.trans (hbw.mono hb0.size))
      have hpw : printW P.vs P.fs P.ls P.names (P.thr.map fun th => th.code.map RI.i) = y4 ++ thrsW (nmP P.vs P.fs P.ls P.names) P.names (P.thr.map fun th => th.code.map RI.i) P.thr.length := by
        unfold printW
        rw [hy4.out, hnl.out]
      replace hpw := hide hpw
      clear hd ht hb0 hkA hok hpr hBW hkr hbw hi h5
      go_wp2_with fail
      go_ret
      exact ⟨by rw [hpw.out]; rfl, HB.out⟩
end
end Go.Proofs.YtlefemndikednaaGreatDoor
