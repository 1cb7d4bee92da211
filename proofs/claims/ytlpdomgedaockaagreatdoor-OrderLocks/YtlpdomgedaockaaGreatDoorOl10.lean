import Derived.Test.YtlpdomgedaockaaGreatDoorOl9
set_option linter.unusedVariables false
set_option linter.unusedSimpArgs false
namespace Go.Proofs.YtlpdomgedaockaaGreatDoor
open Go.RowKit Go.Proofs.Cod
theorem argV_form (t : Tx) : ∃ a n, argV t = .agg #[.bool a, .int .i64 n] ∧ (argB t = true → a = isReg t ∧ n = (argN t : Int)) := by
  unfold argV
  cases h : argB t with
  | true => exact ⟨_, _, rfl, fun _ => ⟨rfl, rfl⟩⟩
  | false => exact ⟨false, 0, rfl, fun e => by cases e⟩
theorem getD_tail (f : Tx) (ts : List Tx) (i : Nat) : (f :: ts).getD (i + 1) [] = ts.getD i [] := by simp
theorem u8_ne {c : UInt8} {n : Nat} (h : c ≠ UInt8.ofNat n) (hn : n < 256) : ((c.toNat : Int) == (n : Int)) = false := by
  rw [beq_eq_false_iff_ne]
  intro e
  apply h
  have : c.toNat = n := by omega
  exact UInt8.toNat_inj.1 (by rw [this]; simp; omega)
set_option maxRecDepth 100000 in
set_option maxHeartbeats 2000000 in
theorem rInstr_any {w : World} {tag : Nat → RT} {base pb : Nat} {P : RP} {U : RV} (h : RfW w tag base pb P U) (b off n cap : Nat) (f : Tx) (ts : List Tx) (hn : ts.length + 1 = n) (hs : Ws w (some ⟨b, off, none⟩) (f :: ts)) (hnb : n < 4000) (hl : ∀ k, (P.get k).length < 1000) (line : Int) :
    Calls Tryz.prog 53 #[ptrV pb, .slice (some ⟨b, off, none⟩) n cap, .int .i64 line] w fun e w' => e = .returned (rInstrV (rInstrT P line f ts)) ∧ Below w.heap.size w w' := by
  have hfm := fun u => rForm_any f u
  have hzf := bs_size (formT f)
  have cf : w.cell? ⟨b, off, none⟩ = some (.string (bs f)) := by
    obtain ⟨b', o', e1, e2, e3⟩ := hs 0 (by simp)
    cases e1; exact e3
  have hbl : b < w.heap.size := by
    obtain ⟨b', o', e1, e2, e3⟩ := hs 0 (by simp)
    cases e1; exact e2
  have hn0 : (0 : Int) < (n : Int) := by omega
  have HB : Hid (∀ x, Below w.heap.size w (w.alloc x)) := fun x => (Below.refl _ _).alloc (Nat.le_refl _) _
  obtain ⟨w1, hw1⟩ : ∃ w1, w.alloc (.cells zeroRI.toArray 152) = w1 := ⟨_, rfl⟩
  have hk1 : w1.heap[w.heap.size]? = some (.cells zeroRI.toArray 152) := by rw [← hw1]; exact World.alloc_heap_new w _
  by_cases hq : partsT f = none
  · have hf : formT f = [63] := by unfold formT; rw [hq]
    have hv : Hid (rInstrT P line f ts = none) := by unfold Hid rInstrT; rw [if_pos (.inl hq)]
    have hcmp : ((bs (formT f)).toList == [63]) = true := by rw [bs_toList, hf]; rfl
    unfold ptrV
    clear h hs hf
    generalize formT f = fm at hfm hzf hcmp
    go_enter Tryz.func53, Tryz.ntmps53
    go_wp2_with fail
    refine (hfm _).mono ?_
    rintro e w2 ⟨rfl, rfl⟩
    go_wp2_with fail
    refine bodyPost_ret (instr_val rfl rfl rfl (World.alloc_heap_new w _)) rfl ⟨by rw [hv.out]; rfl, HB.out _⟩
  · have hcmp : ((bs (formT f)).toList == [63]) = false := by
      rw [bs_toList]
      rcases parts_cases f with ⟨p, hp, ht, hs'⟩ | ⟨hn', _⟩
      · have hf : formT f = p.2.map letX := by unfold formT; rw [hs']
        rw [hf]
        have : ∀ q, q ∈ shapeT → (q.2.map letX == [63]) = false := by decide
        exact this p hp
      · exact absurd hn' hq
    by_cases hlen : ts.length = (formT f).length
    · have hz : (bs (formT f)).size = ts.length := by omega
      have hne2 : ((n : Int) != (ts.length : Int) + 1) = false := by simp; omega
      have hwr : wrap64 ((ts.length : Int) + 1) = (ts.length : Int) + 1 := IntWalk.wrap64_in _ (by omega)
      have hv : Hid (rInstrT P line f ts = rGo P (ri0 f line) 0 ((formT f).zip ts)) := by unfold Hid rInstrT; rw [if_neg (by simp [hq, hlen])]
      have hK0 : Hid (InsK w ((w.alloc (.cells zeroRI.toArray 152)).alloc (.cells (riC (ri0 f line)).toArray 152)) (ri0 f line)) := by
        refine ⟨((Below.refl _ _).alloc (Nat.le_refl _) _).alloc (by simp) _, ?_, ⟨?_⟩⟩
        · exact (Below.heap_alloc _ _ _ (by simp)).trans (World.alloc_heap_new w _)
        · have := World.alloc_heap_new (w.alloc (.cells zeroRI.toArray 152)) (.cells (riC (ri0 f line)).toArray 152)
          rw [World.size_alloc] at this; exact this
      have hgf : ∀ i, (h : i < (bs (formT f)).size) → (bs (formT f))[i]'h = (formT f)[i]'(by rw [bs_size] at h; exact h) := fun i h => bs_get _ i h
      replace hgf := hide hgf
      obtain ⟨a0, d0', r0, s0⟩ := row_ws (h.rows 118 (by simp [isN]))
      obtain ⟨a1, d1', r1, s1⟩ := row_ws (h.rows 102 (by simp [isN]))
      obtain ⟨a2, d2', r2, s2⟩ := row_ws (h.rows 109 (by simp [isN]))
      have hpl : Hid (pb < w.heap.size) := h.lt h.tp (by simp)
      have hrowsP : Hid (w.heap[pb]? = some (.cells #[.slice a0 P.vs.length d0', .slice a1 P.fs.length d1', .slice a2 P.ls.length d2', U.tV] 29) ∧ Ws w a0 P.vs ∧ Ws w a1 P.fs ∧ Ws w a2 P.ls) := ⟨by have e := h.cell; rw [r0, r1, r2] at e; exact e, s0, s1, s2⟩
      clear r0 r1 r2 s0 s1 s2
      have H := hide h
      have hsO := hide hs
      have hlenO := hide hlen
      replace hn := hide hn
      unfold ptrV
      clear h hs hzf hlen hw1 hk1
      generalize hfe : formT f = fm at hfm hcmp hz hv hgf hlenO
      go_enter Tryz.func53, Tryz.ntmps53
      go_wp2_with fail
      refine (hfm _).mono ?_
      rintro e w2 ⟨rfl, rfl⟩
      go_wp2_with fail
      go_loopw [10, 11] (fun ev iv wr => ∃ (i : Nat) (r : RI) (e : Int), i ≤ ts.length ∧ iv = .int .i64 i ∧ ev = .int .i64 e ∧ rGo P (ri0 f line) 0 (fm.zip ts) = rGo P r e ((fm.zip ts).drop i) ∧ InsK w wr r) (fun _ iv _ => ts.length - (intOf iv).toNat)
      case atStart => exact ⟨0, ri0 f line, 0, Nat.zero_le _, rfl, rfl, by simp, hK0.out⟩
      case round =>
        clear hK0 cf hfm hwr hne2
        obtain ⟨i, r, e, hi, rfl, rfl, hgo, hK⟩ := hrel
        by_cases h5 : i < ts.length
        · have hlt : (i : Int) < (ts.length : Int) := by omega
          have hip : i < fm.length := by have := hlenO.out; omega
          have hg := hgf.out i (by omega)
          have hdrop : (fm.zip ts).drop i = (fm[i], ts.getD i []) :: (fm.zip ts).drop (i + 1) := by
            have hl' : i < (fm.zip ts).length := by rw [List.length_zip]; omega
            rw [List.drop_eq_getElem_cons hl', List.getElem_zip, List.getD_eq_getElem?_getD, List.getElem?_eq_getElem h5]; rfl
          rw [hdrop, rGo_cons] at hgo
          have hwl := hK.low.size
          have ct : wr.cell? ⟨b, off + (i + 1), none⟩ = some (.string (bs (ts.getD i []))) := by
            obtain ⟨b', o', e1, e2, e3⟩ := (hsO.out.below hK.low) (i + 1) (by simp; omega)
            cases e1
            rw [getD_tail] at e3; exact e3
          have hwi : wrap64 ((i : Int) + 1) = (i : Int) + 1 := IntWalk.wrap64_in _ (by have := hn.out; omega)
          have hi0 : (0 : Int) ≤ (i : Int) + 1 := by omega
          have hin : (i : Int) + 1 < (n : Int) := by have := hn.out; omega
          generalize hce : fm[i] = c at hg hgo
          generalize hte : ts.getD i [] = t at ct hgo
          replace hce := hide hce
          replace hte := hide hte
          replace hdrop := hide hdrop
          have hA := fun u => rArg_any t u
          obtain ⟨aR, aN, hav, hav2⟩ := argV_form t
          rw [hav] at hA
          have hRz := fun u => rReg_any t u
          rw [regZ_is] at hRz
          replace hav2 := hide hav2
          have HE := hide (⟨hgo, hK⟩ : _ ∧ _)
          clear hgo hK hav
          go_wp2_with fail
          refine (rIsName_any t _).mono ?_
          rintro e' w3 ⟨rfl, rfl⟩
          go_wp2_with fail
          refine (hA _).mono ?_
          rintro e' w4 ⟨rfl, hb4⟩
          obtain ⟨W5, hW5⟩ : ∃ W5, w4.alloc (.cells #[.bool aR, .int .i64 aN] 150) = W5 := ⟨_, rfl⟩
          have hb5 : Below w3.heap.size w3 W5 := by rw [← hW5]; exact hb4.alloc hb4.size _
          have hK5 := HE.out.2.below hb5
          have hk4 : W5.heap[w4.heap.size]? = some (.cells #[.bool aR, .int .i64 aN] 150) := by rw [← hW5]; exact World.alloc_heap_new w4 _
          have d0 : W5.cell? ⟨w4.heap.size, 0, none⟩ = some (.bool aR) := by simp [World.cell?, hk4]
          have d1 : W5.cell? ⟨w4.heap.size, 1, none⟩ = some (.int .i64 aN) := by simp [World.cell?, hk4]
          obtain ⟨x0, x1, x2, x3, x4, x5, x6, x7, x8⟩ := hK5.x.cells
          have fz := hK5.x.fz
          have HK5 := hide hK5
          replace hW5 := hide hW5
          clear hK5 hk4 hb4 hb5
          go_wp2_with fail
          rw [hW5.out]
          refine (hRz _).mono ?_
          rintro e' w6 ⟨rfl, rfl⟩
          by_cases c1 : c = 114
          · subst c1
            have hc8 : (((114 : UInt8).toNat : Int) == 114) = true := rfl
            cases hr : isReg t with
            | true =>
              have hge : (0 : Int) ≤ (regN t : Int) := by omega
              simp only [if_true]
              by_cases hx : r.i.x < 0
              · go_wp2_with fail
                go_roundw
                case rel =>
                  refine ⟨i + 1, rSet P r 114 t, 5, by omega, by go_num, rfl, ?_, ?_⟩
                  · rw [HE.out.1, if_pos (by simp [rFit, hr]), if_pos (by simpa [rSet] using hx)]
                  · exact HK5.out.wr (by simp [rSet, riC])
                case measure => simp [intOf]; omega
              · go_wp2_with fail
                go_roundw
                case rel =>
                  refine ⟨i + 1, rSet P r 114 t, e, by omega, by go_num, rfl, ?_, ?_⟩
                  · rw [HE.out.1, if_pos (by simp [rFit, hr]), if_neg (by simpa [rSet] using hx)]
                  · exact HK5.out.wr (by simp [rSet, riC])
                case measure => simp [intOf]; omega
            | false =>
              simp only [Bool.false_eq_true, if_false]
              obtain ⟨z0, z1, z2, z3, z4, z5, z6, z7, z8⟩ := HK5.out.zcells
              have zf := HK5.out.zfz
              go_wp2_with fail
              have hK7 := (HK5.out.wr (k := 1) (v := .int .i64 0) (r' := { r with i := { r.i with r := 0 } }) (by simp [riC]))
              refine bodyPost_ret (instr_val rfl rfl rfl (nine _ _ _ _ _ _ _ _ _ hK7.z)) rfl ⟨?_, below_nine _ _ _ _ _ _ _ _ _ hK7.low (Nat.le_refl _)⟩
              rw [hv.out, HE.out.1, if_neg (by simp [rFit, hr])]; rfl
          · have n114 : ((c.toNat : Int) == 114) = false := u8_ne (n := 114) c1 (by omega)
            generalize (if isReg t = true then (regN t : Int) else -1) = rz
            by_cases c97 : c = 97
            · subst c97
              cases hb : argB t with
              | true =>
                by_cases hx : r.i.x < 0
                · go_wp2_with fail
                  go_roundw
                  case rel =>
                    refine ⟨i + 1, rSet P r 97 t, 5, by omega, by go_num, rfl, ?_, ?_⟩
                    · rw [HE.out.1, if_pos (by simp [rFit, hb]), if_pos (by simpa [rSet] using hx)]
                    · have hK7 := ((HK5.out.wr (k := 2) (v := .bool aR) (r' := { r with i := { r.i with aR := aR } }) (by simp [riC])).wr (k := 3) (v := .int .i64 aN) (r' := { r with i := { r.i with aR := aR, aN := aN } }) (by simp [riC]))
                      rw [(hav2.out hb).1, (hav2.out hb).2] at hK7 ⊢
                      have e7 : rSet P r 97 t = { r with i := { r.i with aR := isReg t, aN := (argN t : Int) } } := by simp [rSet]
                      rw [e7]; exact hK7
                  case measure => simp [intOf]; omega
                · go_wp2_with fail
                  go_roundw
                  case rel =>
                    refine ⟨i + 1, rSet P r 97 t, e, by omega, by go_num, rfl, ?_, ?_⟩
                    · rw [HE.out.1, if_pos (by simp [rFit, hb]), if_neg (by simpa [rSet] using hx)]
                    · have hK7 := ((HK5.out.wr (k := 2) (v := .bool aR) (r' := { r with i := { r.i with aR := aR } }) (by simp [riC])).wr (k := 3) (v := .int .i64 aN) (r' := { r with i := { r.i with aR := aR, aN := aN } }) (by simp [riC]))
                      rw [(hav2.out hb).1, (hav2.out hb).2] at hK7 ⊢
                      have e7 : rSet P r 97 t = { r with i := { r.i with aR := isReg t, aN := (argN t : Int) } } := by simp [rSet]
                      rw [e7]; exact hK7
                  case measure => simp [intOf]; omega
              | false =>
                obtain ⟨z0, z1, z2, z3, z4, z5, z6, z7, z8⟩ := HK5.out.zcells
                have zf := HK5.out.zfz
                go_wp2_with fail
                have hK7 := ((HK5.out.wr (k := 2) (v := .bool aR) (r' := { r with i := { r.i with aR := aR } }) (by simp [riC])).wr (k := 3) (v := .int .i64 aN) (r' := { r with i := { r.i with aR := aR, aN := aN } }) (by simp [riC]))
                refine bodyPost_ret (instr_val rfl rfl rfl (nine _ _ _ _ _ _ _ _ _ hK7.z)) rfl ⟨?_, below_nine _ _ _ _ _ _ _ _ _ hK7.low (Nat.le_refl _)⟩
                rw [hv.out, HE.out.1, if_neg (by simp [rFit, hb])]; rfl
            · have n97 : ((c.toNat : Int) == 97) = false := u8_ne (n := 97) c97 (by omega)
              by_cases c98 : c = 98
              · subst c98
                cases hb : argB t with
                | true =>
                  by_cases hx : r.i.x < 0
                  · go_wp2_with fail
                    go_roundw
                    case rel =>
                      refine ⟨i + 1, rSet P r 98 t, 5, by omega, by go_num, rfl, ?_, ?_⟩
                      · rw [HE.out.1, if_pos (by simp [rFit, hb]), if_pos (by simpa [rSet] using hx)]
                      · have hK7 := ((HK5.out.wr (k := 4) (v := .bool aR) (r' := { r with i := { r.i with bR := aR } }) (by simp [riC])).wr (k := 5) (v := .int .i64 aN) (r' := { r with i := { r.i with bR := aR, bN := aN } }) (by simp [riC]))
                        rw [(hav2.out hb).1, (hav2.out hb).2] at hK7 ⊢
                        have e7 : rSet P r 98 t = { r with i := { r.i with bR := isReg t, bN := (argN t : Int) } } := by simp [rSet]
                        rw [e7]; exact hK7
                    case measure => simp [intOf]; omega
                  · go_wp2_with fail
                    go_roundw
                    case rel =>
                      refine ⟨i + 1, rSet P r 98 t, e, by omega, by go_num, rfl, ?_, ?_⟩
                      · rw [HE.out.1, if_pos (by simp [rFit, hb]), if_neg (by simpa [rSet] using hx)]
                      · have hK7 := ((HK5.out.wr (k := 4) (v := .bool aR) (r' := { r with i := { r.i with bR := aR } }) (by simp [riC])).wr (k := 5) (v := .int .i64 aN) (r' := { r with i := { r.i with bR := aR, bN := aN } }) (by simp [riC]))
                        rw [(hav2.out hb).1, (hav2.out hb).2] at hK7 ⊢
                        have e7 : rSet P r 98 t = { r with i := { r.i with bR := isReg t, bN := (argN t : Int) } } := by simp [rSet]
                        rw [e7]; exact hK7
                    case measure => simp [intOf]; omega
                | false =>
                  obtain ⟨z0, z1, z2, z3, z4, z5, z6, z7, z8⟩ := HK5.out.zcells
                  have zf := HK5.out.zfz
                  go_wp2_with fail
                  have hK7 := ((HK5.out.wr (k := 4) (v := .bool aR) (r' := { r with i := { r.i with bR := aR } }) (by simp [riC])).wr (k := 5) (v := .int .i64 aN) (r' := { r with i := { r.i with bR := aR, bN := aN } }) (by simp [riC]))
                  refine bodyPost_ret (instr_val rfl rfl rfl (nine _ _ _ _ _ _ _ _ _ hK7.z)) rfl ⟨?_, below_nine _ _ _ _ _ _ _ _ _ hK7.low (Nat.le_refl _)⟩
                  rw [hv.out, HE.out.1, if_neg (by simp [rFit, hb])]; rfl
              · have n98 : ((c.toNat : Int) == 98) = false := u8_ne (n := 98) c98 (by omega)
                cases hnm : isNam t with
                | false =>
                  obtain ⟨z0, z1, z2, z3, z4, z5, z6, z7, z8⟩ := HK5.out.zcells
                  have zf := HK5.out.zfz
                  go_wp2_with fail
                  have hK7 := (HK5.out.wr (k := 8) (v := .string (bs t)) (r' := { r with word := t }) (by simp [riC]))
                  refine bodyPost_ret (instr_val rfl rfl rfl (nine _ _ _ _ _ _ _ _ _ hK7.z)) rfl ⟨?_, below_nine _ _ _ _ _ _ _ _ _ hK7.low (Nat.le_refl _)⟩
                  rw [hv.out, HE.out.1, if_neg (by simp [rFit, c1, c97, c98, hnm])]; rfl
                | true =>
                  by_cases c120 : c = 120
                  · subst c120
                    have hb7 := (HK5.out.wr (k := 8) (v := .string (bs t)) (r' := { r with word := t }) (by simp [riC])).low
                    have q0 : (w6.setCell ⟨w.heap.size + 1, 8, none⟩ (.string (bs t))).cell? ⟨pb, 0, none⟩ = some (.slice a0 P.vs.length d0') := by
                      unfold World.cell?
                      rw [hb7.block pb hpl.out, hrowsP.out.1]; rfl
                    have hF := rFind_any a0 P.vs.length d0' P.vs t (w6.setCell ⟨w.heap.size + 1, 8, none⟩ (.string (bs t))) rfl (hrowsP.out.2.1.below hb7) (by have := hl 118; change P.vs.length < 1000 at this; omega)
                    clear hb7
                    go_wp2_with fail
                    refine hF.mono ?_
                    rintro e' w8 ⟨rfl, rfl⟩
                    by_cases hx : findZ P.vs t < 0
                    · go_wp2_with fail
                      go_roundw
                      case rel =>
                        refine ⟨i + 1, rSet P r 120 t, 5, by omega, by go_num, rfl, ?_, ?_⟩
                        · rw [HE.out.1, if_pos (by simp [rFit, hnm]), if_pos (by simpa [rSet] using hx)]
                        · have e7 : rSet P r 120 t = { r with i := { r.i with x := findZ P.vs t }, word := t } := by simp [rSet]
                          rw [e7]; exact ((HK5.out.wr (k := 8) (v := .string (bs t)) (r' := { r with word := t }) (by simp [riC])).wr (k := 6) (v := .int .i64 (findZ P.vs t)) (r' := { r with i := { r.i with x := findZ P.vs t }, word := t }) (by simp [riC]))
                      case measure => simp [intOf]; omega
                    · go_wp2_with fail
                      go_roundw
                      case rel =>
                        refine ⟨i + 1, rSet P r 120 t, e, by omega, by go_num, rfl, ?_, ?_⟩
                        · rw [HE.out.1, if_pos (by simp [rFit, hnm]), if_neg (by simpa [rSet] using hx)]
                        · have e7 : rSet P r 120 t = { r with i := { r.i with x := findZ P.vs t }, word := t } := by simp [rSet]
                          rw [e7]; exact ((HK5.out.wr (k := 8) (v := .string (bs t)) (r' := { r with word := t }) (by simp [riC])).wr (k := 6) (v := .int .i64 (findZ P.vs t)) (r' := { r with i := { r.i with x := findZ P.vs t }, word := t }) (by simp [riC]))
                      case measure => simp [intOf]; omega
                  · have n120 : ((c.toNat : Int) == 120) = false := u8_ne (n := 120) c120 (by omega)
                    by_cases c102 : c = 102
                    · subst c102
                      have hb7 := (HK5.out.wr (k := 8) (v := .string (bs t)) (r' := { r with word := t }) (by simp [riC])).low
                      have q0 : (w6.setCell ⟨w.heap.size + 1, 8, none⟩ (.string (bs t))).cell? ⟨pb, 1, none⟩ = some (.slice a1 P.fs.length d1') := by
                        unfold World.cell?
                        rw [hb7.block pb hpl.out, hrowsP.out.1]; rfl
                      have hF := rFind_any a1 P.fs.length d1' P.fs t (w6.setCell ⟨w.heap.size + 1, 8, none⟩ (.string (bs t))) rfl (hrowsP.out.2.2.1.below hb7) (by have := hl 102; change P.fs.length < 1000 at this; omega)
                      clear hb7
                      go_wp2_with fail
                      refine hF.mono ?_
                      rintro e' w8 ⟨rfl, rfl⟩
                      by_cases hx : findZ P.fs t < 0
                      · go_wp2_with fail
                        go_roundw
                        case rel =>
                          refine ⟨i + 1, rSet P r 102 t, 5, by omega, by go_num, rfl, ?_, ?_⟩
                          · rw [HE.out.1, if_pos (by simp [rFit, hnm]), if_pos (by simpa [rSet] using hx)]
                          · have e7 : rSet P r 102 t = { r with i := { r.i with x := findZ P.fs t }, word := t } := by simp [rSet]
                            rw [e7]; exact ((HK5.out.wr (k := 8) (v := .string (bs t)) (r' := { r with word := t }) (by simp [riC])).wr (k := 6) (v := .int .i64 (findZ P.fs t)) (r' := { r with i := { r.i with x := findZ P.fs t }, word := t }) (by simp [riC]))
                        case measure => simp [intOf]; omega
                      · go_wp2_with fail
                        go_roundw
                        case rel =>
                          refine ⟨i + 1, rSet P r 102 t, e, by omega, by go_num, rfl, ?_, ?_⟩
                          · rw [HE.out.1, if_pos (by simp [rFit, hnm]), if_neg (by simpa [rSet] using hx)]
                          · have e7 : rSet P r 102 t = { r with i := { r.i with x := findZ P.fs t }, word := t } := by simp [rSet]
                            rw [e7]; exact ((HK5.out.wr (k := 8) (v := .string (bs t)) (r' := { r with word := t }) (by simp [riC])).wr (k := 6) (v := .int .i64 (findZ P.fs t)) (r' := { r with i := { r.i with x := findZ P.fs t }, word := t }) (by simp [riC]))
                        case measure => simp [intOf]; omega
                    · have n102 : ((c.toNat : Int) == 102) = false := u8_ne (n := 102) c102 (by omega)
                      by_cases c109 : c = 109
                      · subst c109
                        have hb7 := (HK5.out.wr (k := 8) (v := .string (bs t)) (r' := { r with word := t }) (by simp [riC])).low
                        have q0 : (w6.setCell ⟨w.heap.size + 1, 8, none⟩ (.string (bs t))).cell? ⟨pb, 2, none⟩ = some (.slice a2 P.ls.length d2') := by
                          unfold World.cell?
                          rw [hb7.block pb hpl.out, hrowsP.out.1]; rfl
                        have hF := rFind_any a2 P.ls.length d2' P.ls t (w6.setCell ⟨w.heap.size + 1, 8, none⟩ (.string (bs t))) rfl (hrowsP.out.2.2.2.below hb7) (by have := hl 109; change P.ls.length < 1000 at this; omega)
                        clear hb7
                        go_wp2_with fail
                        refine hF.mono ?_
                        rintro e' w8 ⟨rfl, rfl⟩
                        by_cases hx : findZ P.ls t < 0
                        · go_wp2_with fail
                          go_roundw
                          case rel =>
                            refine ⟨i + 1, rSet P r 109 t, 5, by omega, by go_num, rfl, ?_, ?_⟩
                            · rw [HE.out.1, if_pos (by simp [rFit, hnm]), if_pos (by simpa [rSet] using hx)]
                            · have e7 : rSet P r 109 t = { r with i := { r.i with x := findZ P.ls t }, word := t } := by simp [rSet]
                              rw [e7]; exact ((HK5.out.wr (k := 8) (v := .string (bs t)) (r' := { r with word := t }) (by simp [riC])).wr (k := 6) (v := .int .i64 (findZ P.ls t)) (r' := { r with i := { r.i with x := findZ P.ls t }, word := t }) (by simp [riC]))
                          case measure => simp [intOf]; omega
                        · go_wp2_with fail
                          go_roundw
                          case rel =>
                            refine ⟨i + 1, rSet P r 109 t, e, by omega, by go_num, rfl, ?_, ?_⟩
                            · rw [HE.out.1, if_pos (by simp [rFit, hnm]), if_neg (by simpa [rSet] using hx)]
                            · have e7 : rSet P r 109 t = { r with i := { r.i with x := findZ P.ls t }, word := t } := by simp [rSet]
                              rw [e7]; exact ((HK5.out.wr (k := 8) (v := .string (bs t)) (r' := { r with word := t }) (by simp [riC])).wr (k := 6) (v := .int .i64 (findZ P.ls t)) (r' := { r with i := { r.i with x := findZ P.ls t }, word := t }) (by simp [riC]))
                          case measure => simp [intOf]; omega
                      · have n109 : ((c.toNat : Int) == 109) = false := u8_ne (n := 109) c109 (by omega)
                        have e6 : (rSet P r c t).i.x = r.i.x := by simp [rSet, c1, c97, c98, c120, c102, c109]
                        replace e6 := hide e6
                        by_cases hx : r.i.x < 0
                        · go_wp2_with fail
                          go_roundw
                          case rel =>
                            refine ⟨i + 1, rSet P r c t, 5, by omega, by go_num, rfl, ?_, ?_⟩
                            · rw [HE.out.1, if_pos (by simp [rFit, c1, c97, c98, hnm]), if_pos (by rw [e6.out]; exact hx)]
                            · have e7 : rSet P r c t = { r with word := t } := by simp [rSet, c1, c97, c98, c120, c102, c109]
                              rw [e7]; exact (HK5.out.wr (k := 8) (v := .string (bs t)) (r' := { r with word := t }) (by simp [riC]))
                          case measure => simp [intOf]; omega
                        · go_wp2_with fail
                          go_roundw
                          case rel =>
                            refine ⟨i + 1, rSet P r c t, e, by omega, by go_num, rfl, ?_, ?_⟩
                            · rw [HE.out.1, if_pos (by simp [rFit, c1, c97, c98, hnm]), if_neg (by rw [e6.out]; omega)]
                            · have e7 : rSet P r c t = { r with word := t } := by simp [rSet, c1, c97, c98, c120, c102, c109]
                              rw [e7]; exact (HK5.out.wr (k := 8) (v := .string (bs t)) (r' := { r with word := t }) (by simp [riC]))
                          case measure => simp [intOf]; omega
        · have hie : i = ts.length := by omega
          have hlt : ¬ ((i : Int) < (ts.length : Int)) := by omega
          have hge : decide ((i : Int) < (ts.length : Int)) = false := by simp; omega
          obtain ⟨z0, z1, z2, z3, z4, z5, z6, z7, z8⟩ := hK.zcells
          have zf := hK.zfz
          obtain ⟨x0, x1, x2, x3, x4, x5, x6, x7, x8⟩ := hK.x.cells
          have hd : (fm.zip ts).drop i = [] := List.drop_eq_nil_of_le (by rw [List.length_zip]; omega)
          rw [hd] at hgo
          have HE := hide (⟨hgo, hK⟩ : _ ∧ _)
          clear hgo hK hd hie
          go_wp2_with fail
          refine bodyPost_ret (instr_val rfl rfl rfl (nine _ _ _ _ _ _ _ _ _ HE.out.2.z)) rfl ⟨?_, below_nine _ _ _ _ _ _ _ _ _ HE.out.2.low (Nat.le_refl _)⟩
          rw [hv.out, HE.out.1]; rfl
    · have hv : Hid (rInstrT P line f ts = none) := by unfold Hid rInstrT; rw [if_pos (.inr hlen)]
      have hne : ((n : Int) == ((formT f).length : Int) + 1) = false := by simp; omega
      have hne2 : ((n : Int) != ((formT f).length : Int) + 1) = true := by simp; omega
      have hwr : wrap64 (((formT f).length : Int) + 1) = ((formT f).length : Int) + 1 := by
        have : (formT f).length ≤ 3 := by
          rcases parts_cases f with ⟨p, hp, ht, hs'⟩ | ⟨hn', _⟩
          · have hf : formT f = p.2.map letX := by unfold formT; rw [hs']
            rw [hf, List.length_map]
            have : ∀ q, q ∈ shapeT → q.2.length ≤ 3 := by decide
            exact this p hp
          · exact absurd hn' hq
        exact IntWalk.wrap64_in _ (by omega)
      unfold ptrV
      clear h hs
      go_enter Tryz.func53, Tryz.ntmps53
      go_wp2_with fail
      refine (hfm _).mono ?_
      rintro e w2 ⟨rfl, rfl⟩
      go_wp2_with fail
      refine bodyPost_ret (instr_val rfl rfl rfl (World.alloc_heap_new w _)) rfl ⟨by rw [hv.out]; rfl, HB.out _⟩
end Go.Proofs.YtlpdomgedaockaaGreatDoor
namespace Go.Proofs.YtlpdomgedaockaaGreatDoor
open Go.RowKit Go.Proofs.Cod
def RIns (P : RP) (k : Nat) (th : RTh) (line : Int) (f : Tx) (ts : List Tx) (e : Int) (P' : RP) : Prop :=
  match rInstrT P line f ts with
  | none => e = 2
  | some (r, e') => (e' = 2 ∧ e = 2) ∨ (e' ≠ 2 ∧ ((th.code.length = 24 ∧ e = 4) ∨ (th.code.length ≠ 24 ∧ e = e' ∧ P' = { P with thr := P.thr.set k { th with code := th.code ++ [r] } })))
set_option maxRecDepth 100000 in
set_option maxHeartbeats 2000000 in
theorem rLine_ins {w : World} {tag : Nat → RT} {base pb : Nat} {P : RP} {U : RV} (h : RfW w tag base pb P U) (b off n cap : Nat) (f : Tx) (ts : List Tx) (hn : ts.length + 1 = n) (hs : WsT w tag (some ⟨b, off, none⟩) (f :: ts)) (hnb : n < 4000) (hl : ∀ k, (P.get k).length < 1000) (k : Nat) (th : RTh) (hk : P.thr.length = k + 1) (hth : P.thr[k]? = some th) (hb : P.thr.length < 1000) (hcd : th.code.length < 4000) (line : Int) (hf2 : f ≠ [116, 104, 114, 101, 97, 100]) (hf0 : f ≠ []) (hfl : f.length < 4000) (hlab : ts ≠ [] ∨ f.getLast? ≠ some 58) :
    Calls Tryz.prog 25 #[ptrV pb, .slice (some ⟨b, off, none⟩) n cap, .int .i64 line] w (ROut w tag base pb (RIns P k th line f ts)) := by
  obtain ⟨p, hp⟩ : ∃ p, U.TV[k]? = some p := ⟨_, List.getElem?_eq_getElem (by rw [h.len]; omega)⟩
  obtain ⟨gt, tcap, hV⟩ := h.thrForm hth
  have c3 := h.thrV
  rw [hV, hk] at c3
  have t1 : w.cell? ⟨gt, k * 3 + 1, none⟩ = some p.1 := h.thrCell hth hp (r := 1) (by omega) hV
  obtain ⟨ca, cc, hp1⟩ := owns_len (h.ths k th p hth hp).code
  rw [hp1] at t1
  have cf := hs.at (i := 0) (by simp)
  have cf : w.cell? ⟨b, off, none⟩ = some (.string (bs f)) := cf
  have hn0 : (0 : Int) < (n : Int) := by omega
  have b4 := bs_eq f [116, 104, 114, 101, 97, 100]
  rw [decide_eq_false hf2] at b4
  have hd : Ext w tag w.drew tag := ⟨rfl, rfl, rfl, Nat.le_refl _, fun _ _ => rfl, fun _ _ _ => rfl⟩
  have hRd := RfW.keep (w' := w.drew) h (fun _ _ => rfl) hd
  have hI := rInstr_any hRd b off n cap f ts hn (hs.ext hd).ws hnb hl line
  have HD := hide (⟨hRd, hd⟩ : _ ∧ _)
  have hwk : wrap64 (k : Int) = (k : Int) := IntWalk.wrap64_in _ (by omega)
  unfold ptrV at hI ⊢
  replace hp := hide hp
  replace hth := hide hth
  replace hp1 := hide hp1
  replace hV := hide hV
  replace hb := hide hb
  have hbl : Hid (b < w.heap.size) := by obtain ⟨b', o', e1, e2, _⟩ := hs 0 (by simp); cases e1; exact e2
  obtain ⟨m, hm⟩ : ∃ m, f.length = m + 1 := ⟨f.length - 1, by have : f.length ≠ 0 := fun e => hf0 (List.length_eq_zero_iff.1 e); omega⟩
  have hzf : (bs f).size = m + 1 := by rw [bs_size, hm]
  have hxl : m < (bs f).size := by omega
  have hwx : wrap64 (m : Int) = (m : Int) := IntWalk.wrap64_in _ (by omega)
  have hv := hide (rfl : rInstrT P line f ts = rInstrT P line f ts)
  by_cases hn1 : ((n : Int) == 1) = true
  · have h58 : ((((bs f)[m]'hxl).toNat : Int) == 58) = false := by
      have ht : ts = [] := List.length_eq_zero_iff.1 (by simp at hn1; omega)
      have hg : f.getLast? ≠ some 58 := by rcases hlab with h | h; exact absurd ht h; exact h
      apply u8_ne (n := 58) _ (by omega)
      intro e
      apply hg
      rw [List.getLast?_eq_getElem?, hm, Nat.add_sub_cancel, List.getElem?_eq_getElem (by omega), ← bs_get f m hxl, e]; rfl
    clear h hs hd hRd hf2 hf0 hlab hk hm hn hl hnb
    go_enter Tryz.func25, Tryz.ntmps25
    go_wp2_with fail
    go_region
    go_wp2_with fail
    refine hI.mono ?_
    rintro en w2 ⟨rfl, hb2⟩
    clear c3 cf hI
    cases hr : rInstrT P line f ts with
    | none =>
      have H2 := hide (⟨HD.out.1.below (w' := w2.alloc (.cells zeroRI.toArray 152)) (hb2.alloc hb2.size _), HD.out.2.trans (.of_below (hb2.alloc hb2.size (.cells zeroRI.toArray 152))), hr⟩ : _ ∧ _ ∧ _)
      clear hb2 t1 hr
      unfold rInstrV zeroRI
      go_wp2_with fail
      go_ret
      exact ⟨2, tag, P, U, rfl, H2.out.1, H2.out.2.1, by unfold RIns; rw [H2.out.2.2]⟩
    | some q =>
      obtain ⟨r, e'⟩ := q
      obtain ⟨W5, hW5⟩ : ∃ W5, w2.alloc (.cells #[.string (bs r.i.op), .int .i64 r.i.r, .bool r.i.aR, .int .i64 r.i.aN, .bool r.i.bR, .int .i64 r.i.bN, .int .i64 r.i.x, .int .i64 r.line, .string (bs r.word)] 152) = W5 := ⟨_, rfl⟩
      have hb5 : Below w.drew.heap.size w.drew W5 := by rw [← hW5]; exact hb2.alloc hb2.size _
      have hR5 := HD.out.1.below hb5
      have hX5 := HD.out.2.trans (.of_below hb5)
      have s1 : W5.cell? ⟨gt, k * 3 + 1, none⟩ = some (.slice ca th.code.length cc) := by have e := hR5.thrCell hth.out hp.out (r := 1) (by omega) hV.out; rw [show (thC (th, p))[1]? = some p.1 from rfl, hp1.out] at e; exact e
      have hB : InsB W5 w2.heap.size r := ⟨by rw [← hW5]; exact World.alloc_heap_new w2 _⟩
      obtain ⟨x0, x1, x2, x3, x4, x5, x6, x7, x8⟩ := hB.cells
      have s1b := s1
      rw [← hW5] at s1b
      replace hW5 := hide hW5
      have H2 := hide (⟨hR5, hX5, hr⟩ : _ ∧ _ ∧ _)
      unfold rInstrV riC
      by_cases e2 : e' = 2
      · subst e2
        clear hb2 t1 hr hb5 hR5 hX5 hB
        go_wp2_with fail
        go_ret
        rw [hW5.out]
        exact ⟨2, tag, P, U, rfl, H2.out.1, H2.out.2.1, by unfold RIns; rw [H2.out.2.2]; exact .inl ⟨rfl, rfl⟩⟩
      · have e2' : (e' == 2) = false := by simpa using e2
        replace e2 := hide e2
        by_cases h24 : th.code.length = 24
        · have h24' : ((th.code.length : Int) == 24) = true := by simp; omega
          replace h24 := hide h24
          clear hb2 t1 hr hb5 hR5 hX5 hB
          go_wp2_with fail
          go_ret
          rw [hW5.out]
          exact ⟨4, tag, P, U, rfl, H2.out.1, H2.out.2.1, by unfold RIns; rw [H2.out.2.2]; exact .inr ⟨e2.out, .inl ⟨h24.out, rfl⟩⟩⟩
        · have h24' : ((th.code.length : Int) == 24) = false := by simp; omega
          have hd : Ext W5 tag W5.drew tag := ⟨rfl, rfl, rfl, Nat.le_refl _, fun _ _ => rfl, fun _ _ _ => rfl⟩
          have hRd := RfW.keep (w' := W5.drew) hR5 (fun _ _ => rfl) hd
          obtain ⟨g, cap', w3, hrun, cV3, fV3, tag3, hR3, hX3⟩ := hRd.addI hth.out hp.out r (by omega) hV.out
          rw [hp1.out] at hrun cV3
          have hrun : (Builtin.append_ #[143, 143] 143 #[.slice ca th.code.length cc, .slice (some ⟨W5.heap.size, 0, none⟩) 1 1]).run Tryz.prog (W5.alloc (.cells #[.string (bs r.i.op), .int .i64 r.i.r, .bool r.i.aR, .int .i64 r.i.aN, .bool r.i.bR, .int .i64 r.i.bN, .int .i64 r.i.x, .int .i64 r.line, .string (bs r.word)] 152)).drew = .ok (.slice (some ⟨g, 0, none⟩) (th.code.length + 1) cap') w3 := hrun
          have hgl : gt < W5.heap.size := hR5.lt (hR5.tt gt (by rw [hV.out]; rfl)) (by simp)
          have s1a : (W5.alloc (.cells #[.string (bs r.i.op), .int .i64 r.i.r, .bool r.i.aR, .int .i64 r.i.aN, .bool r.i.bR, .int .i64 r.i.bN, .int .i64 r.i.x, .int .i64 r.line, .string (bs r.word)] 152)).cell? ⟨gt, k * 3 + 1, none⟩ = some (.slice ca th.code.length cc) := (World.cell?_of_block (w := W5) (a := ⟨gt, k * 3 + 1, none⟩) (Below.heap_alloc W5 _ gt hgl)).trans s1
          replace h24 := hide h24
          have HN := hide (⟨hR3, (hX5.trans hd).trans hX3⟩ : _ ∧ _)
          clear hb2 t1 hr hb5 hR5 hX5 hB hgl hd hRd hR3 hX3
          go_wp2_with fail
          rw [hW5.out]
          go_region_law (refine step_append_run rfl _ _ _ rfl rfl rfl rfl hrun ?_)
          all_goals
            go_wp2_with fail
            go_ret
            exact ⟨e', tag3, _, _, rfl, HN.out.1, HN.out.2, by unfold RIns; rw [H2.out.2.2]; exact .inr ⟨e2.out, .inr ⟨h24.out, rfl, rfl⟩⟩⟩
  · rw [Bool.not_eq_true] at hn1
    clear hzf hxl hwx
    clear h hs hd hRd hf2 hf0 hlab hk hm hn hl hnb
    go_enter Tryz.func25, Tryz.ntmps25
    go_wp2_with fail
    go_region
    go_wp2_with fail
    refine hI.mono ?_
    rintro en w2 ⟨rfl, hb2⟩
    clear c3 cf hI
    cases hr : rInstrT P line f ts with
    | none =>
      have H2 := hide (⟨HD.out.1.below (w' := w2.alloc (.cells zeroRI.toArray 152)) (hb2.alloc hb2.size _), HD.out.2.trans (.of_below (hb2.alloc hb2.size (.cells zeroRI.toArray 152))), hr⟩ : _ ∧ _ ∧ _)
      clear hb2 t1 hr
      unfold rInstrV zeroRI
      go_wp2_with fail
      go_ret
      exact ⟨2, tag, P, U, rfl, H2.out.1, H2.out.2.1, by unfold RIns; rw [H2.out.2.2]⟩
    | some q =>
      obtain ⟨r, e'⟩ := q
      obtain ⟨W5, hW5⟩ : ∃ W5, w2.alloc (.cells #[.string (bs r.i.op), .int .i64 r.i.r, .bool r.i.aR, .int .i64 r.i.aN, .bool r.i.bR, .int .i64 r.i.bN, .int .i64 r.i.x, .int .i64 r.line, .string (bs r.word)] 152) = W5 := ⟨_, rfl⟩
      have hb5 : Below w.drew.heap.size w.drew W5 := by rw [← hW5]; exact hb2.alloc hb2.size _
      have hR5 := HD.out.1.below hb5
      have hX5 := HD.out.2.trans (.of_below hb5)
      have s1 : W5.cell? ⟨gt, k * 3 + 1, none⟩ = some (.slice ca th.code.length cc) := by have e := hR5.thrCell hth.out hp.out (r := 1) (by omega) hV.out; rw [show (thC (th, p))[1]? = some p.1 from rfl, hp1.out] at e; exact e
      have hB : InsB W5 w2.heap.size r := ⟨by rw [← hW5]; exact World.alloc_heap_new w2 _⟩
      obtain ⟨x0, x1, x2, x3, x4, x5, x6, x7, x8⟩ := hB.cells
      have s1b := s1
      rw [← hW5] at s1b
      replace hW5 := hide hW5
      have H2 := hide (⟨hR5, hX5, hr⟩ : _ ∧ _ ∧ _)
      unfold rInstrV riC
      by_cases e2 : e' = 2
      · subst e2
        clear hb2 t1 hr hb5 hR5 hX5 hB
        go_wp2_with fail
        go_ret
        rw [hW5.out]
        exact ⟨2, tag, P, U, rfl, H2.out.1, H2.out.2.1, by unfold RIns; rw [H2.out.2.2]; exact .inl ⟨rfl, rfl⟩⟩
      · have e2' : (e' == 2) = false := by simpa using e2
        replace e2 := hide e2
        by_cases h24 : th.code.length = 24
        · have h24' : ((th.code.length : Int) == 24) = true := by simp; omega
          replace h24 := hide h24
          clear hb2 t1 hr hb5 hR5 hX5 hB
          go_wp2_with fail
          go_ret
          rw [hW5.out]
          exact ⟨4, tag, P, U, rfl, H2.out.1, H2.out.2.1, by unfold RIns; rw [H2.out.2.2]; exact .inr ⟨e2.out, .inl ⟨h24.out, rfl⟩⟩⟩
        · have h24' : ((th.code.length : Int) == 24) = false := by simp; omega
          have hd : Ext W5 tag W5.drew tag := ⟨rfl, rfl, rfl, Nat.le_refl _, fun _ _ => rfl, fun _ _ _ => rfl⟩
          have hRd := RfW.keep (w' := W5.drew) hR5 (fun _ _ => rfl) hd
          obtain ⟨g, cap', w3, hrun, cV3, fV3, tag3, hR3, hX3⟩ := hRd.addI hth.out hp.out r (by omega) hV.out
          rw [hp1.out] at hrun cV3
          have hrun : (Builtin.append_ #[143, 143] 143 #[.slice ca th.code.length cc, .slice (some ⟨W5.heap.size, 0, none⟩) 1 1]).run Tryz.prog (W5.alloc (.cells #[.string (bs r.i.op), .int .i64 r.i.r, .bool r.i.aR, .int .i64 r.i.aN, .bool r.i.bR, .int .i64 r.i.bN, .int .i64 r.i.x, .int .i64 r.line, .string (bs r.word)] 152)).drew = .ok (.slice (some ⟨g, 0, none⟩) (th.code.length + 1) cap') w3 := hrun
          have hgl : gt < W5.heap.size := hR5.lt (hR5.tt gt (by rw [hV.out]; rfl)) (by simp)
          have s1a : (W5.alloc (.cells #[.string (bs r.i.op), .int .i64 r.i.r, .bool r.i.aR, .int .i64 r.i.aN, .bool r.i.bR, .int .i64 r.i.bN, .int .i64 r.i.x, .int .i64 r.line, .string (bs r.word)] 152)).cell? ⟨gt, k * 3 + 1, none⟩ = some (.slice ca th.code.length cc) := (World.cell?_of_block (w := W5) (a := ⟨gt, k * 3 + 1, none⟩) (Below.heap_alloc W5 _ gt hgl)).trans s1
          replace h24 := hide h24
          have HN := hide (⟨hR3, (hX5.trans hd).trans hX3⟩ : _ ∧ _)
          clear hb2 t1 hr hb5 hR5 hX5 hB hgl hd hRd hR3 hX3
          go_wp2_with fail
          rw [hW5.out]
          go_region_law (refine step_append_run rfl _ _ _ rfl rfl rfl rfl hrun ?_)
          all_goals
            go_wp2_with fail
            go_ret
            exact ⟨e', tag3, _, _, rfl, HN.out.1, HN.out.2, by unfold RIns; rw [H2.out.2.2]; exact .inr ⟨e2.out, .inr ⟨h24.out, rfl, rfl⟩⟩⟩
end Go.Proofs.YtlpdomgedaockaaGreatDoor
