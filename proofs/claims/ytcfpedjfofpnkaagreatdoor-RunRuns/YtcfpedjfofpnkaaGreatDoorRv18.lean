import Derived.Test.YtcfpedjfofpnkaaGreatDoorRv17
import Derived.BigQuiet
set_option linter.unusedVariables false
set_option linter.unusedSimpArgs false
namespace Go.Proofs.YtcfpedjfofpnkaaGreatDoor
open Go.RowKit Go.Proofs.Cod
theorem bs_lit (s t : Tx) : ((bs s).toList == t) = (s == t) := by rw [bs_toList]
set_option maxRecDepth 100000 in
set_option maxHeartbeats 2000000 in
theorem rRes_any {w : World} {tag : Nat → RT} {base pb : Nat} {P : RP} {U : RV} (h : RfW w tag base pb P U) (hb : P.thr.length < 1000) (hcd : ∀ th, th ∈ P.thr → th.code.length < 4000 ∧ th.labs.length < 4000) :
 Calls Tryz.prog 48 #[ptrV pb] w fun e w' => Ext w tag w' tag ∧ ((∃ n, badT P P.thr = some n ∧ e = .returned (.int .i64 n)) ∨ (badT P P.thr = none ∧ e = .returned (.int .i64 0) ∧ RfW w' tag base pb { P with thr := P.thr.map (rsT P) } U)) := by
 have HX := hide (Ext.refl w tag)
 have H := hide h
 replace hcd := hide hcd
 replace hb := hide hb
 unfold ptrV
 clear h
 go_enter Tryz.func48, Tryz.ntmps48
 go_wp2_with fail
 go_loopw [3] (fun iv wr => ∃ i : Nat, i ≤ P.thr.length ∧ iv = .int .i64 i ∧ badT P (P.thr.take i) = none ∧ RfW wr tag base pb (P.res i) U ∧ Ext w tag wr tag) (fun iv _ => P.thr.length - (intOf iv).toNat)
 case atStart => exact ⟨0, Nat.zero_le _, rfl, rfl, by rw [res_zero]; exact H.out, HX.out⟩
 case round =>
  obtain ⟨i, hi, rfl, hbad, hR, hX⟩ := hrel
  clear HX H
  have c3 := hR.thrV
  by_cases h5 : i < P.thr.length
  ·obtain ⟨th, hth⟩ : ∃ th, P.thr[i]? = some th := ⟨_, List.getElem?_eq_getElem h5⟩
   obtain ⟨p, hp⟩ : ∃ p, U.TV[i]? = some p := ⟨_, List.getElem?_eq_getElem (by rw [hR.len, res_len]; exact h5)⟩
   have hth' := res_at hth
   obtain ⟨gt, tcap, hV⟩ := hR.thrForm hth'
   rw [hV, res_len] at c3
   have hlt : (i : Int) < (P.thr.length : Int) := by omega
   have t0 : wr.cell? ⟨gt, i * 3, none⟩ = some (.string (bs th.name)) := hR.thrCell hth' hp (r := 0) (by omega) hV
   have t1 : wr.cell? ⟨gt, i * 3 + 1, none⟩ = some p.1 := hR.thrCell hth' hp (r := 1) (by omega) hV
   have t2 : wr.cell? ⟨gt, i * 3 + 2, none⟩ = some p.2 := hR.thrCell hth' hp (r := 2) (by omega) hV
   obtain ⟨ca, cc, hp1⟩ := owns_len (hR.ths i th p hth' hp).code
   obtain ⟨la, lc, hp2⟩ := owns_len (hR.ths i th p hth' hp).labs
   rw [hp1] at t1
   rw [hp2] at t2
   have hsm := hcd.out th (List.mem_of_getElem? hth)
   have HR := hide (⟨hR, hX, hbad, hsm⟩ : _ ∧ _ ∧ _ ∧ _)
   have hgl : gt < wr.heap.size := World.block_lt_of_cell? wr ⟨gt, i * 3, none⟩ t0
   replace hgl := hide hgl
   replace hth := hide hth
   replace hp := hide hp
   replace hp1 := hide hp1
   replace hp2 := hide hp2
   replace hi := hide hi
   replace h5 := hide h5
   clear hR hX hbad hsm hth' hV
   rename World => wo
   go_wp2_with fail
   have hbl := World.alloc_heap_new wo (.cells #[.string (bs th.name), .slice ca th.code.length cc, .slice la th.labs.length lc] 111)
   have hBi : Below wo.heap.size wo (wo.alloc (.cells #[.string (bs th.name), .slice ca th.code.length cc, .slice la th.labs.length lc] 111)) := (Below.refl _ _).alloc (Nat.le_refl _) _
   have hszi : wo.heap.size < (wo.alloc (.cells #[.string (bs th.name), .slice ca th.code.length cc, .slice la th.labs.length lc] 111)).heap.size := by simp
   have hto : tag wo.heap.size = .o := by
    cases ht : tag wo.heap.size with
    | o => rfl
    | _ => exact absurd (HR.out.1.tlt wo.heap.size (by rw [ht]; simp)).2 (by omega)
   have hRi : RfW (wo.alloc (.cells #[.string (bs th.name), .slice ca th.code.length cc, .slice la th.labs.length lc] 111)) tag base pb (P.resAt i 0 th) U := by rw [resAt_zero hth.out]; exact HR.out.1.below hBi
   have hXi : Ext w tag (wo.alloc (.cells #[.string (bs th.name), .slice ca th.code.length cc, .slice la th.labs.length lc] 111)) tag := HR.out.2.1.trans (.of_below hBi)
   have hbad := hide HR.out.2.2.1
   have hsm := hide HR.out.2.2.2
   clear HR hBi t0 t1 t2 c3 hlt
   generalize wo.alloc (.cells #[.string (bs th.name), .slice ca th.code.length cc, .slice la th.labs.length lc] 111) = wi at *
   generalize wo.heap.size = tb at *
   replace hbl := hide hbl
   replace hszi := hide hszi
   replace hto := hide hto
   have HRi := hide hRi
   replace hXi := hide hXi
   clear hRi hgl
   go_loopw [5] (fun iv wr => ∃ k : Nat, k ≤ th.code.length ∧ iv = .int .i64 k ∧ badC P th (th.code.take k) = none ∧ RfW wr tag base pb (P.resAt i k th) U ∧ Ext wi tag wr tag) (fun iv _ => th.code.length - (intOf iv).toNat)
   case atStart => exact ⟨0, Nat.zero_le _, rfl, rfl, HRi.out, Ext.refl _ _⟩
   case round =>
    obtain ⟨k, hk, rfl, hbc, hR2, hX2⟩ := hrel
    clear HRi
    have hb2 : wr.heap[tb]? = some (.cells #[.string (bs th.name), .slice ca th.code.length cc, .slice la th.labs.length lc] 111) := (hX2.block tb hszi.out hto.out).trans hbl.out
    have d1 : wr.cell? ⟨tb, 1, none⟩ = some (.slice ca th.code.length cc) := by simp [World.cell?, hb2]
    by_cases h6 : k < th.code.length
    ·have hltk : (k : Int) < (th.code.length : Int) := by omega
     obtain ⟨r, hr⟩ : ∃ r, th.code[k]? = some r := ⟨_, List.getElem?_eq_getElem h6⟩
     rw [resV_start hr] at hR2
     obtain ⟨gc, ccap, e⟩ := resV_form hR2 hth.out hp.out hr
     have e2 := hp1.out
     rw [e] at e2
     cases e2
     obtain ⟨k0, k6, k7, k8, kf⟩ := resV_cells hR2 hth.out hp.out hr e
     have hwk : wrap64 ((k : Int) + 1) = (k : Int) + 1 := IntWalk.wrap64_in _ (by have := hsm.out.1; omega)
     have HI := hide (⟨hbc, hX2, e, hr, h6, hk⟩ : _ ∧ _ ∧ _ ∧ _ ∧ _ ∧ _)
     have HR2 := hide hR2
     replace hb2 := hide hb2
     clear hbc hX2 e hr h6 hk hR2
     have hF1 := bs_lit (formT r.i.op) [116]
     have hF2 := bs_lit (formT r.i.op) [108]
     have hF3 := bs_lit (formT r.i.op) [97, 98, 108]
     by_cases q1 : formT r.i.op = [116]
     ·have hrx : Hid (rX P th r = findZ P.names r.word) := by unfold Hid rX; rw [if_pos q1]
      rw [q1] at hF1 hF2 hF3
      have hF1 : ((bs (formT r.i.op)).toList == [116]) = true := by rw [q1]; exact hF1.trans (by decide)
      have hF2 : ((bs (formT r.i.op)).toList == [108]) = false := by rw [q1]; exact hF2.trans (by decide)
      have hF3 : ((bs (formT r.i.op)).toList == [97, 98, 108]) = false := by rw [q1]; exact hF3.trans (by decide)
      clear q1
      have hForm := rForm_any r.i.op wr
      have hT := rThread_any HR2.out r.word (by rw [resV_len]; have := hb.out; omega)
      rw [resV_names hth.out] at hT
      unfold ptrV at hT
      generalize formT r.i.op = F at *
      generalize findZ P.names r.word = v at *
      obtain ⟨hR3, hX3⟩ := resV_step HR2.out hth.out hp.out HI.out.2.2.2.1 HI.out.2.2.1 v
      obtain ⟨-, m6, m7, -, -⟩ := resV_cells hR3 hth.out hp.out HI.out.2.2.2.1 HI.out.2.2.1
      have HR3 := hide (⟨hR3, hX3⟩ : _ ∧ _)
      clear hR3 hX3
      by_cases hv : v < 0
      ·go_wp2_with fail
       refine hForm.mono ?_
       rintro e w2 ⟨rfl, rfl⟩
       go_wp2_with fail
       refine hT.mono ?_
       rintro e w2 ⟨rfl, rfl⟩
       go_wp2_with fail
       go_ret
       obtain ⟨hbc, hX2, e, hr, h6, hk⟩ := HI.out
       exact ⟨(hXi.out.trans hX2).trans HR3.out.2, .inl ⟨r.line, badT_no hth.out hbad.out (badC_no hr hbc (by rw [hrx.out]; exact hv)), rfl⟩⟩
      ·go_wp2_with fail
       refine hForm.mono ?_
       rintro e w2 ⟨rfl, rfl⟩
       go_wp2_with fail
       refine hT.mono ?_
       rintro e w2 ⟨rfl, rfl⟩
       go_wp2_with fail
       go_roundw
       case rel =>
        rw [hwk]
        obtain ⟨hbc, hX2, e, hr, h6, hk⟩ := HI.out
        exact ⟨k + 1, h6, rfl, badC_ok hr hbc (by rw [hrx.out]; omega), by rw [← resV_end hr, hrx.out]; exact HR3.out.1, hX2.trans HR3.out.2⟩
       case measure =>
        rw [hwk]
        exact Nat.sub_lt_sub_left HI.out.2.2.2.2.1 (Nat.lt_succ_self k)
     ·by_cases q2 : isL (formT r.i.op) = true
      ·have hrx : Hid (rX P th r = labGo r.word th.labs (-1)) := by unfold Hid rX; rw [if_neg q1, if_pos q2]
       have g1 : (formT r.i.op == [116]) = false := by simpa using q1
       rw [g1] at hF1
       have hForm := rForm_any r.i.op wr
       have d2 : wr.cell? ⟨tb, 2, none⟩ = some (.slice la th.labs.length lc) := by simp [World.cell?, hb2.out]
       obtain ⟨hR3, hX3⟩ := resV_step HR2.out hth.out hp.out HI.out.2.2.2.1 HI.out.2.2.1 (-1)
       have HR3 := hide (⟨hR3, hX3⟩ : _ ∧ _)
       have hX4 := hide (HI.out.2.1.trans hX3)
       have hL : (formT r.i.op == [108]) = true ∨ ((formT r.i.op == [108]) = false ∧ (formT r.i.op == [97, 98, 108]) = true) := by
        cases g2 : (formT r.i.op == [108]) with
        | true => exact .inl rfl
        | false => simp [isL, g2] at q2; exact .inr ⟨rfl, by simp [q2]⟩
       clear hR3 hX3 q1 q2 g1
       generalize formT r.i.op = F at *
       rcases hL with hL | ⟨hL, hL3⟩
       ·rw [hL] at hF2
        clear hF3 hL
        go_wp2_with fail
        refine hForm.mono ?_
        rintro e w2 ⟨rfl, rfl⟩
        go_wp2_with fail
        generalize hw4 : World.setCell _ _ _ = w4
        have HR4 : Hid (RfW w4 tag base pb (P.resV i k th r (-1)) U) := by rw [← hw4]; exact HR3.out.1
        have hX4 : Hid (Ext wi tag w4 tag) := by rw [← hw4]; exact hX4.out
        clear hw4 HR3 d1 d2 k0 k6 k7 k8 kf hForm HR2 hb2 hF1 hF2 hwk hltk
        go_loopw [8] (fun iv wr => ∃ j : Nat, j ≤ th.labs.length ∧ iv = .int .i64 j ∧ RfW wr tag base pb (P.resV i k th r (labGo r.word (th.labs.take j) (-1))) U ∧ Ext w4 tag wr tag) (fun iv _ => th.labs.length - (intOf iv).toNat)
        case atStart => exact ⟨0, Nat.zero_le _, rfl, HR4.out, Ext.refl _ _⟩
        case round =>
         obtain ⟨j, hj, rfl, hR5, hX5⟩ := hrel
         clear HR4
         have hb5 : wr.heap[tb]? = some (.cells #[.string (bs th.name), .slice (some ⟨gc, 0, none⟩) th.code.length cc, .slice la th.labs.length lc] 111) := ((hX4.out.trans hX5).block tb hszi.out hto.out).trans hbl.out
         have d2 : wr.cell? ⟨tb, 2, none⟩ = some (.slice la th.labs.length lc) := by simp [World.cell?, hb5]
         obtain ⟨-, m6, m7, m8, mf⟩ := resV_cells hR5 hth.out hp.out HI.out.2.2.2.1 HI.out.2.2.1
         replace hb5 := hide hb5
         by_cases h7 : j < th.labs.length
         ·have hltj : (j : Int) < (th.labs.length : Int) := by omega
          obtain ⟨l, hl⟩ : ∃ l, th.labs[j]? = some l := ⟨_, List.getElem?_eq_getElem h7⟩
          obtain ⟨gl, lcap, e, l0, l1⟩ := resV_lab hR5 hth.out hp.out hl
          have e2 := hp2.out
          rw [e] at e2
          cases e2
          have hwj : wrap64 ((j : Int) + 1) = (j : Int) + 1 := IntWalk.wrap64_in _ (by have := hsm.out.2; omega)
          have hF : ((bs l.1).toList == (bs r.word).toList) = decide (l.1 = r.word) := by
           rw [bs_toList, bs_toList]
           by_cases e : l.1 = r.word <;> simp [e]
          have hd : Ext wr tag wr.drew tag := ⟨rfl, rfl, rfl, Nat.le_refl _, fun _ _ => rfl, fun _ _ _ => rfl⟩
          have hRd := RfW.keep (w' := wr.drew) hR5 (fun _ _ => rfl) hd
          obtain ⟨hR6, hX6⟩ := resV_step hRd hth.out hp.out HI.out.2.2.2.1 HI.out.2.2.1 (l.2 : Int)
          have hg := labGo_succ (x := r.word) hl (-1)
          have HJ := hide (⟨hRd, hR6, hX5.trans hd, (hX5.trans hd).trans hX6, hg, h7⟩ : _ ∧ _ ∧ _ ∧ _ ∧ _ ∧ _)
          clear hRd hR6 hX6 hd hg hR5 hX5 h7 hj hl e
          by_cases e : l.1 = r.word
          ·rw [decide_eq_true e] at hF
           replace e := hide e
           go_wp2_with fail
           go_region
           all_goals
            go_wp2_with fail
            go_roundw
            case rel =>
             rw [hwj]
             obtain ⟨hRd, hR6, hXd, hX6, hg, h7⟩ := HJ.out
             exact ⟨j + 1, h7, rfl, by rw [hg, if_pos e.out]; exact hR6, hX6⟩
            case measure =>
             rw [hwj]
             exact Nat.sub_lt_sub_left HJ.out.2.2.2.2.2 (Nat.lt_succ_self j)
          ·rw [decide_eq_false e] at hF
           replace e := hide e
           go_wp2_with fail
           go_region
           all_goals
            go_wp2_with fail
            go_roundw
            case rel =>
             rw [hwj]
             obtain ⟨hRd, hR6, hXd, hX6, hg, h7⟩ := HJ.out
             exact ⟨j + 1, h7, rfl, by rw [hg, if_neg e.out]; exact hRd, hXd⟩
            case measure =>
             rw [hwj]
             exact Nat.sub_lt_sub_left HJ.out.2.2.2.2.2 (Nat.lt_succ_self j)
         ·have hjl : j = th.labs.length := by omega
          subst hjl
          rw [List.take_length] at hR5 m6
          have HJ := hide (⟨hR5, hX5⟩ : _ ∧ _)
          have hwk : wrap64 ((k : Int) + 1) = (k : Int) + 1 := IntWalk.wrap64_in _ (by have := hsm.out.1; have := HI.out.2.2.2.2.1; omega)
          generalize labGo r.word th.labs (-1) = v at *
          clear hR5 hX5 h7 hj
          by_cases hv : v < 0
          ·go_wp2_with fail
           go_ret
           obtain ⟨hbc, hX2, e, hr, h6, hk⟩ := HI.out
           exact ⟨(hXi.out.trans hX4.out).trans HJ.out.2, .inl ⟨r.line, badT_no hth.out hbad.out (badC_no hr hbc (by rw [hrx.out]; exact hv)), rfl⟩⟩
          ·go_wp2_with fail
           go_roundw
           case rel =>
            rw [hwk]
            obtain ⟨hbc, hX2, e, hr, h6, hk⟩ := HI.out
            exact ⟨k + 1, h6, rfl, badC_ok hr hbc (by rw [hrx.out]; omega), by rw [← resV_end hr, hrx.out]; exact HJ.out.1, hX4.out.trans HJ.out.2⟩
           case measure =>
            rw [hwk]
            exact Nat.sub_lt_sub_left HI.out.2.2.2.2.1 (Nat.lt_succ_self k)
       ·rw [hL] at hF2
        rw [hL3] at hF3
        clear hL hL3
        go_wp2_with fail
        refine hForm.mono ?_
        rintro e w2 ⟨rfl, rfl⟩
        go_wp2_with fail
        generalize hw4 : World.setCell _ _ _ = w4
        have HR4 : Hid (RfW w4 tag base pb (P.resV i k th r (-1)) U) := by rw [← hw4]; exact HR3.out.1
        have hX4 : Hid (Ext wi tag w4 tag) := by rw [← hw4]; exact hX4.out
        clear hw4 HR3 d1 d2 k0 k6 k7 k8 kf hForm HR2 hb2 hF1 hF2 hF3 hwk hltk
        go_loopw [8] (fun iv wr => ∃ j : Nat, j ≤ th.labs.length ∧ iv = .int .i64 j ∧ RfW wr tag base pb (P.resV i k th r (labGo r.word (th.labs.take j) (-1))) U ∧ Ext w4 tag wr tag) (fun iv _ => th.labs.length - (intOf iv).toNat)
        case atStart => exact ⟨0, Nat.zero_le _, rfl, HR4.out, Ext.refl _ _⟩
        case round =>
         obtain ⟨j, hj, rfl, hR5, hX5⟩ := hrel
         clear HR4
         have hb5 : wr.heap[tb]? = some (.cells #[.string (bs th.name), .slice (some ⟨gc, 0, none⟩) th.code.length cc, .slice la th.labs.length lc] 111) := ((hX4.out.trans hX5).block tb hszi.out hto.out).trans hbl.out
         have d2 : wr.cell? ⟨tb, 2, none⟩ = some (.slice la th.labs.length lc) := by simp [World.cell?, hb5]
         obtain ⟨-, m6, m7, m8, mf⟩ := resV_cells hR5 hth.out hp.out HI.out.2.2.2.1 HI.out.2.2.1
         replace hb5 := hide hb5
         by_cases h7 : j < th.labs.length
         ·have hltj : (j : Int) < (th.labs.length : Int) := by omega
          obtain ⟨l, hl⟩ : ∃ l, th.labs[j]? = some l := ⟨_, List.getElem?_eq_getElem h7⟩
          obtain ⟨gl, lcap, e, l0, l1⟩ := resV_lab hR5 hth.out hp.out hl
          have e2 := hp2.out
          rw [e] at e2
          cases e2
          have hwj : wrap64 ((j : Int) + 1) = (j : Int) + 1 := IntWalk.wrap64_in _ (by have := hsm.out.2; omega)
          have hF : ((bs l.1).toList == (bs r.word).toList) = decide (l.1 = r.word) := by
           rw [bs_toList, bs_toList]
           by_cases e : l.1 = r.word <;> simp [e]
          have hd : Ext wr tag wr.drew tag := ⟨rfl, rfl, rfl, Nat.le_refl _, fun _ _ => rfl, fun _ _ _ => rfl⟩
          have hRd := RfW.keep (w' := wr.drew) hR5 (fun _ _ => rfl) hd
          obtain ⟨hR6, hX6⟩ := resV_step hRd hth.out hp.out HI.out.2.2.2.1 HI.out.2.2.1 (l.2 : Int)
          have hg := labGo_succ (x := r.word) hl (-1)
          have HJ := hide (⟨hRd, hR6, hX5.trans hd, (hX5.trans hd).trans hX6, hg, h7⟩ : _ ∧ _ ∧ _ ∧ _ ∧ _ ∧ _)
          clear hRd hR6 hX6 hd hg hR5 hX5 h7 hj hl e
          by_cases e : l.1 = r.word
          ·rw [decide_eq_true e] at hF
           replace e := hide e
           go_wp2_with fail
           go_region
           all_goals
            go_wp2_with fail
            go_roundw
            case rel =>
             rw [hwj]
             obtain ⟨hRd, hR6, hXd, hX6, hg, h7⟩ := HJ.out
             exact ⟨j + 1, h7, rfl, by rw [hg, if_pos e.out]; exact hR6, hX6⟩
            case measure =>
             rw [hwj]
             exact Nat.sub_lt_sub_left HJ.out.2.2.2.2.2 (Nat.lt_succ_self j)
          ·rw [decide_eq_false e] at hF
           replace e := hide e
           go_wp2_with fail
           go_region
           all_goals
            go_wp2_with fail
            go_roundw
            case rel =>
             rw [hwj]
             obtain ⟨hRd, hR6, hXd, hX6, hg, h7⟩ := HJ.out
             exact ⟨j + 1, h7, rfl, by rw [hg, if_neg e.out]; exact hRd, hXd⟩
            case measure =>
             rw [hwj]
             exact Nat.sub_lt_sub_left HJ.out.2.2.2.2.2 (Nat.lt_succ_self j)
         ·have hjl : j = th.labs.length := by omega
          subst hjl
          rw [List.take_length] at hR5 m6
          have HJ := hide (⟨hR5, hX5⟩ : _ ∧ _)
          have hwk : wrap64 ((k : Int) + 1) = (k : Int) + 1 := IntWalk.wrap64_in _ (by have := hsm.out.1; have := HI.out.2.2.2.2.1; omega)
          generalize labGo r.word th.labs (-1) = v at *
          clear hR5 hX5 h7 hj
          by_cases hv : v < 0
          ·go_wp2_with fail
           go_ret
           obtain ⟨hbc, hX2, e, hr, h6, hk⟩ := HI.out
           exact ⟨(hXi.out.trans hX4.out).trans HJ.out.2, .inl ⟨r.line, badT_no hth.out hbad.out (badC_no hr hbc (by rw [hrx.out]; exact hv)), rfl⟩⟩
          ·go_wp2_with fail
           go_roundw
           case rel =>
            rw [hwk]
            obtain ⟨hbc, hX2, e, hr, h6, hk⟩ := HI.out
            exact ⟨k + 1, h6, rfl, badC_ok hr hbc (by rw [hrx.out]; omega), by rw [← resV_end hr, hrx.out]; exact HJ.out.1, hX4.out.trans HJ.out.2⟩
           case measure =>
            rw [hwk]
            exact Nat.sub_lt_sub_left HI.out.2.2.2.2.1 (Nat.lt_succ_self k)
      ·have hrx : Hid (rX P th r = r.i.x) := by unfold Hid rX; rw [if_neg q1, if_neg q2]
       have g1 : (formT r.i.op == [116]) = false := by simpa using q1
       have g2 : (formT r.i.op == [108]) = false := by simp [isL] at q2; simpa using q2.1
       have g3 : (formT r.i.op == [97, 98, 108]) = false := by simp [isL] at q2; simpa using q2.2
       rw [g1] at hF1
       rw [g2] at hF2
       rw [g3] at hF3
       clear q1 q2 g1 g2 g3
       have hForm := rForm_any r.i.op wr
       generalize formT r.i.op = F at *
       by_cases hv : r.i.x < 0
       ·go_wp2_with fail
        refine hForm.mono ?_
        rintro e w2 ⟨rfl, rfl⟩
        go_wp2_with fail
        go_ret
        obtain ⟨hbc, hX2, e, hr, h6, hk⟩ := HI.out
        exact ⟨hXi.out.trans hX2, .inl ⟨r.line, badT_no hth.out hbad.out (badC_no hr hbc (by rw [hrx.out]; exact hv)), rfl⟩⟩
       ·go_wp2_with fail
        refine hForm.mono ?_
        rintro e w2 ⟨rfl, rfl⟩
        go_wp2_with fail
        go_roundw
        case rel =>
         rw [hwk]
         obtain ⟨hbc, hX2, e, hr, h6, hk⟩ := HI.out
         exact ⟨k + 1, h6, rfl, badC_ok hr hbc (by rw [hrx.out]; omega), by rw [← resV_end hr, hrx.out]; exact HR2.out, hX2⟩
        case measure =>
         rw [hwk]
         exact Nat.sub_lt_sub_left HI.out.2.2.2.2.1 (Nat.lt_succ_self k)
    ·have hkl : k = th.code.length := by omega
     subst hkl
     have HI := hide (⟨hbc, hX2, hR2⟩ : _ ∧ _ ∧ _)
     have hwi : wrap64 ((i : Int) + 1) = (i : Int) + 1 := IntWalk.wrap64_in _ (by have := hb.out; have := h5.out; omega)
     clear hbc hX2 hR2 h6 hk hb2
     go_wp2_with fail
     go_roundw
     case rel =>
      rw [hwi]
      obtain ⟨hbc, hX2, hR2⟩ := HI.out
      rw [List.take_length] at hbc
      exact ⟨i + 1, h5.out, rfl, badT_ok hth.out hbad.out hbc, by rw [← resAt_all hth.out]; exact hR2, hXi.out.trans hX2⟩
     case measure =>
      rw [hwi]
      exact Nat.sub_lt_sub_left h5.out (Nat.lt_succ_self i)
  ·have hil : i = P.thr.length := by omega
   subst hil
   have HR := hide (⟨hX, hbad, hR⟩ : _ ∧ _ ∧ _)
   obtain ⟨ta, tcap, hV⟩ := owns_len hR.trow
   rw [hV, res_len] at c3
   clear hR hX hbad hV hi h5
   go_wp2_with fail
   go_ret
   refine ⟨HR.out.1, .inr ⟨?_, rfl, ?_⟩⟩
   ·have := HR.out.2.1; rw [List.take_length] at this; exact this
   ·rw [← res_all_is]; exact HR.out.2.2
theorem rprog_val {w : World} {fn : Func} {tmps : Array Value} {b : Nat} {x y a0 a1 a2 a3 : Value} (hr : fn.results = #[.cell 2 29, .tmp 3, .tmp 4]) (ht : tmps[2]? = some (.pointer (some ⟨b, 0, none⟩))) (h3 : tmps[3]? = some x) (h4 : tmps[4]? = some y) (hc : w.heap[b]? = some (.cells #[a0, a1, a2, a3] 29)) : (results fn tmps).run Tryz.prog w = .ok (.tuple #[.agg #[a0, a1, a2, a3], x, y]) w := by
 have c0 : w.cell? ⟨b, 0, none⟩ = some a0 := by simp [World.cell?, hc]
 have c1 : w.cell? ⟨b, 1, none⟩ = some a1 := by simp [World.cell?, hc]
 have c2 : w.cell? ⟨b, 2, none⟩ = some a2 := by simp [World.cell?, hc]
 have c3 : w.cell? ⟨b, 3, none⟩ = some a3 := by simp [World.cell?, hc]
 simp [results, hr, ht, h3, h4, go_sem, c0, c1, c2, c3]
def RV.new : RV := ⟨fun _ => .slice none 0 0, .slice none 0 0, []⟩
def tag1 (n : Nat) : Nat → RT := fun b => if b = n then .rd else .o
theorem RfW.new {w : World} {base pb : Nat} (hc : w.heap[pb]? = some (.cells #[.slice none 0 0, .slice none 0 0, .slice none 0 0, .slice none 0 0] 29)) (hb : base ≤ pb) : RfW w (tag1 pb) base pb RP.new RV.new := by
 have hl : pb < w.heap.size := (Array.getElem?_eq_some_iff.1 hc).1
 refine ⟨hc, fun k hk => ⟨?_, fun g e => by cases e⟩, World.ownsRow_nil _ _ _ _, (fun g e => by cases e), rfl, (fun j th p h => by cases h), by simp [tag1], fun b hb' => ?_, by omega⟩
 ·have e : RP.new.get k = [] := by simp [RP.get, RP.new]
  rw [e]; exact World.ownsRow_nil _ _ _ _
 ·unfold tag1 at hb'
  split at hb'
  ·rename_i e; subst e; exact ⟨hb, hl⟩
  ·exact absurd rfl hb'
def RParseR (w : World) (t : Tx) (e : Ending) (w' : World) : Prop := Below w.heap.size w w' ∧ ((∃ er ln, parseT t = .error (er, ln) ∧ e = .returned (.tuple #[.agg #[.slice none 0 0, .slice none 0 0, .slice none 0 0, .slice none 0 0], .int .i64 er, .int .i64 ln])) ∨
 (∃ s C tag pb P U, parseT t = .ok (s, C) ∧ e = .returned (.tuple #[.agg #[U.V 118, U.V 102, U.V 109, U.tV], .int .i64 0, .int .i64 0]) ∧ RfW w' tag w.heap.size pb P U ∧ (∀ k, isK k → s.nms k = getK P k) ∧ C = P.thr.map fun th => th.code.map RI.i))
structure RLn (w2 : World) (tag0 : Nat → RT) (base pb : Nat) (t : Tx) (i : Nat) (wr : World) (tag : Nat → RT) (s : PS) (P : RP) (U : RV) : Prop where
 ln : linesT ((splitT 10 t).take i) 0 PS.new = .ok s
 pl : PL P s
 labs : LabsB P i
 rf : RfW wr tag base pb P U
 ext : Ext w2 tag0 wr tag
theorem ext_below {w w1 w' : World} {tag tag' : Nat → RT} {n : Nat} (hb : Below n w w1) (hx : Ext w1 tag w' tag') (ho : ∀ b, b < n → tag b = .o) (hn : n ≤ w1.heap.size) : Below n w w' :=
 ⟨hx.os.trans hb.os, hx.tape.trans hb.tape, hx.output.trans hb.output, Nat.le_trans hb.size hx.size, fun b hl => (hx.block b (by omega) (ho b hl)).trans (hb.block b hl)⟩
theorem two_made (w : World) (A B : Obj) : ((w.alloc A).alloc B).heap[w.heap.size]? = some A ∧ ((w.alloc A).alloc B).heap[w.heap.size + 1]? = some B ∧ Below w.heap.size w ((w.alloc A).alloc B) ∧ ((w.alloc A).alloc B).heap.size = w.heap.size + 2 := by
 refine ⟨?_, ?_, ?_, by simp⟩
 ·rw [Below.heap_alloc _ B _ (by simp)]; exact World.alloc_heap_new w A
 ·have := World.alloc_heap_new (w.alloc A) B
  rw [World.size_alloc] at this; exact this
 ·exact ((Below.refl _ _).alloc (Nat.le_refl _) _).alloc (by simp) _
theorem four_set0 {w : World} {n T : Nat} {a0 a1 a2 a3 : Value} (hk : w.heap[n]? = some (.cells #[a0, a1, a2, a3] T)) (v0 v1 v2 v3 : Value) : ∃ W, (((w.setCell ⟨n, 0, none⟩ v0).setCell ⟨n, 1, none⟩ v1).setCell ⟨n, 2, none⟩ v2).setCell ⟨n, 3, none⟩ v3 = W ∧ W.heap[n]? = some (.cells #[v0, v1, v2, v3] T) ∧ (∀ b, b ≠ n → W.heap[b]? = w.heap[b]?) ∧ W.heap.size = w.heap.size ∧ W.os = w.os ∧ W.tape = w.tape ∧ W.output = w.output := by
 refine ⟨_, rfl, ?_, fun b hb => ?_, by simp, rfl, rfl, rfl⟩
 ·have h0 := (heap_setCell_same _ n 0 _ _ v0 hk).trans (show _ = some (Obj.cells #[v0, a1, a2, a3] T) from rfl)
  have h1 := (heap_setCell_same _ n 1 _ _ v1 h0).trans (show _ = some (Obj.cells #[v0, v1, a2, a3] T) from rfl)
  have h2 := (heap_setCell_same _ n 2 _ _ v2 h1).trans (show _ = some (Obj.cells #[v0, v1, v2, a3] T) from rfl)
  exact (heap_setCell_same _ n 3 _ _ v3 h2).trans (show _ = some (Obj.cells #[v0, v1, v2, v3] T) from rfl)
 ·rw [Below.heap_setCell _ ⟨n, 3, none⟩ _ b hb, Below.heap_setCell _ ⟨n, 2, none⟩ _ b hb, Below.heap_setCell _ ⟨n, 1, none⟩ _ b hb, Below.heap_setCell _ ⟨n, 0, none⟩ _ b hb]
theorem nilN_cells {w : World} {n : Nat} (hk : w.heap[n]? = some (.cells #[.slice none 0 0, .slice none 0 0, .slice none 0 0, .slice none 0 0] 29)) : (w.cell? ⟨n, 0, none⟩ = some (.slice none 0 0) ∧ w.cell? ⟨n, 1, none⟩ = some (.slice none 0 0) ∧ w.cell? ⟨n, 2, none⟩ = some (.slice none 0 0) ∧ w.cell? ⟨n, 3, none⟩ = some (.slice none 0 0)) ∧ ∀ i, w.frozen? ⟨n, i, none⟩ = false := by
 refine ⟨⟨?_, ?_, ?_, ?_⟩, fun i => ?_⟩
 ·simp [World.cell?, hk]
 ·simp [World.cell?, hk]
 ·simp [World.cell?, hk]
 ·simp [World.cell?, hk]
 ·simp [World.frozen?, hk]
set_option maxRecDepth 100000 in
set_option maxHeartbeats 2000000 in
theorem rParse_any (t : Tx) (w : World) (hlen : t.length < 140737488355328) : Calls Tryz.prog 26 #[.string (bs t)] w (RParseR w t) := by
 have hz := bs_size t
 by_cases h3 : 3000 < t.length
 ·have hP : Hid (parseT t = .error (1, 0)) := by unfold Hid parseT; rw [if_pos h3]
  have h3' : (3000 : Int) < (t.length : Int) := by omega
  go_enter Tryz.func26, Tryz.ntmps26
  go_wp2_with fail
  exact bodyPost_ret (rprog_val rfl rfl rfl rfl (World.alloc_heap_new w _)) rfl ⟨(Below.refl _ _).alloc (Nat.le_refl _) _, .inl ⟨1, 0, hP.out, rfl⟩⟩
 ·have hP : Hid (parseT t = parseL t) := by unfold Hid parseT; rw [if_neg h3]
  have h3' : ¬ (3000 : Int) < (t.length : Int) := by omega
  have ht3 : Hid (t.length ≤ 3000) := by unfold Hid; omega
  go_enter Tryz.func26, Tryz.ntmps26
  go_wp2_with fail
  obtain ⟨kA, kB, hB1, hz1⟩ := two_made w (.cells #[.slice none 0 0, .slice none 0 0, .slice none 0 0, .slice none 0 0] 29) (.cells #[.slice none 0 0, .slice none 0 0, .slice none 0 0, .slice none 0 0] 29)
  generalize World.alloc (World.alloc w _) _ = w1 at *
  have hN := RfW.new (base := w.heap.size) kB (by omega)
  refine (rLines_any t w1 (by have := ht3.out; omega)).mono ?_
  rintro e w2 ⟨v, rfl, hS⟩
  obtain ⟨la, lcap, hv⟩ := owns_len hS.row
  obtain ⟨m, hm⟩ : ∃ m, (splitT 10 t).length = m + 1 := ⟨(splitT 10 t).length - 1, by have := List.length_pos_iff.2 (splitT_ne 10 t); omega⟩
  have hrow := hS.row
  have hrow2 := hrow
  rw [hm] at hrow2
  obtain ⟨lg, lcap2, hv2⟩ := ownsRow_succ hrow2
  rw [← hm] at hv2
  subst hv2
  cases hv
  have hlg := hrow.lt lg rfl
  have hR2 := hN.below hS.low
  have hA2 : w2.heap[w.heap.size]? = some (.cells #[.slice none 0 0, .slice none 0 0, .slice none 0 0, .slice none 0 0] 29) := (hS.low.block _ (by omega)).trans kA
  have hB2 : Below w.heap.size w w2 := hB1.trans (hS.low.mono (by omega))
  have hcl : ∀ i l, (splitT 10 t)[i]? = some l → w2.cell? ⟨lg, i, none⟩ = some (.string (bs l)) := fun i l hl => by
   rw [hrow.cellAt i (by have := (List.getElem?_eq_some_iff.1 hl).1; omega), List.getElem?_map, hl]; rfl
  have hll : (splitT 10 t).length ≤ 3001 := by have := splitT_len 10 t; have := ht3.out; omega
  have to1 : tag1 (w.heap.size + 1) lg = .o := by unfold tag1; rw [if_neg (by omega)]
  have to2 : tag1 (w.heap.size + 1) w.heap.size = .o := by unfold tag1; rw [if_neg (by omega)]
  have to3 : ∀ b, b < w.heap.size → tag1 (w.heap.size + 1) b = .o := fun b hb => by unfold tag1; rw [if_neg (by omega)]
  have hrl : w.heap.size < w2.heap.size := (Array.getElem?_eq_some_iff.1 hA2).1
  have HC := hide (⟨hlg, hA2, hB2, hcl, hll, to1, to2, to3, hrl⟩ : _ ∧ _ ∧ _ ∧ _ ∧ _ ∧ _ ∧ _ ∧ _ ∧ _)
  have HR2 := hide hR2
  clear hlg hA2 hB2 hcl to1 to2 to3 hrl hR2 hN kA kB hB1 hz1 hS hrow hrow2 hm hz h3 hlen
  obtain ⟨L, hL⟩ : ∃ L, splitT 10 t = L := ⟨_, rfl⟩
  rw [hL] at HC hll
  rw [hL]
  replace hL := hide hL
  replace hll := hide hll
  generalize hpb : w.heap.size + 1 = pb at *
  replace hpb := hide hpb
  go_wp2_with fail
  go_loopw [7] (fun iv wr => ∃ i : Nat, i ≤ L.length ∧ iv = .int .i64 i ∧ ∃ tag s P U, RLn w2 (tag1 pb) w.heap.size pb t i wr tag s P U) (fun iv _ => L.length - (intOf iv).toNat)
  case atStart => exact ⟨0, Nat.zero_le _, rfl, tag1 pb, PS.new, RP.new, RV.new, rfl, PL.new, (fun th h => by cases h), HR2.out, Ext.refl _ _⟩
  case round =>
   obtain ⟨i, hi, rfl, tag, s, P, U, hJ⟩ := hrel
   clear HR2
   obtain ⟨hlg, hA2, hB2, hcl, hll', to1, to2, to3, hrl⟩ := HC.out
   have hAr := (hJ.ext.block w.heap.size hrl to2).trans hA2
   by_cases h5 : i < L.length
   ·have hlt : (i : Int) < (L.length : Int) := by omega
    obtain ⟨l, hl⟩ : ∃ l, L[i]? = some l := ⟨_, List.getElem?_eq_getElem h5⟩
    have c0 : wr.cell? ⟨lg, i, none⟩ = some (.string (bs l)) := (World.cell?_of_block (w := w2) (a := ⟨lg, i, none⟩) (hJ.ext.block lg hlg.2 to1)).trans (hcl i l hl)
    have hl3 : l.length ≤ 3000 := by
     have hl' := hl
     rw [← hL.out] at hl'
     have := piece_len hl'
     have := ht3.out
     omega
    have hW := rWords_any l wr (by omega)
    have hwi : wrap64 ((i : Int) + 1) = (i : Int) + 1 := IntWalk.wrap64_in _ (by omega)
    have HJ := hide (⟨hJ, h5, hl, hl3, hAr⟩ : _ ∧ _ ∧ _ ∧ _ ∧ _)
    clear hJ hl hi h5 hAr hl3 hlg hA2 hB2 hcl hll' to1 to2 to3 hrl
    go_wp2_with fail
    refine hW.mono ?_
    clear hW c0
    rintro e w3 ⟨v, rfl, hS3⟩
    obtain ⟨wa, wcap, hv⟩ := owns_len hS3.row
    have hR3 := HJ.out.1.rf.below hS3.low
    have hX3 : Ext wr tag w3 tag := .of_below hS3.low
    obtain ⟨hJ, h5, hl, hl3, hAr⟩ := HJ.out
    cases hws : wordsT l with
    | nil =>
     rw [hws] at hv
     subst hv
     have hlT : ∀ n, lineT n l s = .ok s := fun n => by unfold lineT; rw [hws]
     have HN : Hid (RLn w2 (tag1 pb) w.heap.size pb t (i + 1) w3 tag s P U) := by
      refine ⟨(linesT_take (ls := splitT 10 t) (by rw [hL.out]; exact hl) hJ.ln).1 s (hlT _), hJ.pl, labs_up hJ.labs, hR3, hJ.ext.trans hX3⟩
     replace h5 := hide h5
     clear hJ hl hl3 hAr hS3 hR3 hX3 hlT HJ HC
     go_wp2_with fail
     go_roundw
     case rel =>
      rw [hwi]
      exact ⟨i + 1, h5.out, rfl, tag, s, P, U, HN.out⟩
     case measure =>
      rw [hwi]
      exact Nat.sub_lt_sub_left h5.out (Nat.lt_succ_self i)
    | cons f ts =>
     have hrow3 := hS3.row
     rw [hws] at hv hrow3
     subst hv
     obtain ⟨wg, wcap2, e⟩ := ownsRow_succ (k := ts.length) (by simpa using hrow3)
     have e : Value.slice wa (ts.length + 1) wcap = .slice (some ⟨wg, 0, none⟩) (ts.length + 1) wcap2 := e
     cases e
     have hwg := hrow3.lt wg rfl
     have hmem : ∀ x, x ∈ f :: ts → x ∈ wordsT l := fun x hx => by rw [hws]; exact hx
     have hwle := words_le l
     rw [hws] at hwle
     have hwle : ts.length + 1 ≤ l.length + 1 := by simpa using hwle
     have hfl := word_len (hmem f (by simp))
     have htg : tag wg = .o := by
      cases hq : tag wg with
      | o => rfl
      | _ => exact absurd (hJ.rf.tlt wg (by rw [hq]; simp)).2 (by omega)
     have hcapw : ts.length + 1 ≤ wcap := by
      rcases hrow3.2 with ⟨h1, _⟩ | ⟨g, cap, cur, h1, h2⟩
      ·cases h1
      ·cases h1
       exact h2.2.2.1
     have hWs : WsT w3 tag (some ⟨wg, 0, none⟩) (f :: ts) := fun j hj => ⟨wg, 0, rfl, hwg.2, by
      rw [Nat.zero_add, hrow3.cellAt j (by simpa using hj), List.getElem?_map, List.getElem?_eq_getElem hj, List.getD_eq_getElem?_getD, List.getElem?_eq_getElem hj]; rfl, htg⟩
     have hLn := rLine_any hR3 hJ.pl hJ.labs (by have := hll.out; omega) wg 0 (ts.length + 1) wcap f ts rfl hWs hcapw (by omega) ((i : Int) + 1) (by omega) (words_ne (hmem f (by simp))) (by omega)
     unfold ptrV at hLn
     have hlT : ∀ n, lineT n l s = stepT n f ts s := fun n => by unfold lineT; rw [hws]
     have hlt1 := linesT_take (ls := splitT 10 t) (by rw [hL.out]; exact hl) hJ.ln
     rw [hlT, Int.zero_add] at hlt1
     have hn0 : (((ts.length + 1 : Nat) : Int) == 0) = false := by simp; omega
     have hn0' : (((ts.length : Int) + 1) == 0) = false := by simp; omega
     have htg0 : tag w.heap.size = .o := (hJ.ext.tags _ HC.out.2.2.2.2.2.2.2.2).trans HC.out.2.2.2.2.2.2.1
     have hrl3 : w.heap.size < wr.heap.size := (Array.getElem?_eq_some_iff.1 hAr).1
     have HN := hide (⟨hlt1, hJ.ext.trans hX3, h5, (hX3.block _ hrl3 htg0).trans hAr, htg0⟩ : _ ∧ _ ∧ _ ∧ _ ∧ _)
     clear hJ hl hl3 hAr hS3 hR3 hX3 hlT HJ hrow3 hwg hmem hwle hfl htg hWs hcapw hlt1 h5 hws htg0 hrl3
     go_wp2_with fail
     refine hLn.mono ?_
     clear hLn
     rintro en w4 ⟨e, tag', P', U', rfl, hR4, hX4, hBo⟩
     obtain ⟨hlt1, hX3, h5, hA3, htg0⟩ := HN.out
     rcases hBo with ⟨he, ho⟩ | ⟨rfl, ⟨s', ho, hpl⟩, hlb⟩
     ·have he' : (e != 0) = true := by simpa using he
      have hA4 := (hX4.block _ (Array.getElem?_eq_some_iff.1 hA3).1 htg0).trans hA3
      obtain ⟨⟨a0, a1, a2, a3⟩, af⟩ := nilN_cells hA4
      have hPe : Hid (parseT t = .error (e, (i : Int) + 1)) := by rw [hP.out]; exact parse_err1 (hlt1.2 e ho)
      have hBw : Hid (Below w.heap.size w w4) := ext_below HC.out.2.2.1 (hX3.trans hX4) HC.out.2.2.2.2.2.2.2.1 (Nat.le_of_lt HC.out.2.2.2.2.2.2.2.2)
      replace hA4 := hide hA4
      clear hlt1 hX3 h5 hA3 htg0 HN hR4 hX4 ho HC he
      go_wp2_with fail
      obtain ⟨W, hW, k1, k2, k3, k4, k5, k6⟩ := four_set0 hA4.out (.slice none 0 0) (.slice none 0 0) (.slice none 0 0) (.slice none 0 0)
      rw [hW]
      have hB := hBw.out
      exact bodyPost_ret (rprog_val rfl rfl rfl rfl k1) rfl ⟨⟨k4.trans hB.os, k5.trans hB.tape, k6.trans hB.output, by have := hB.size; omega, fun b hb => (k2 b (by omega)).trans (hB.block b hb)⟩, .inl ⟨e, (i : Int) + 1, hPe.out, by show Ending.returned (.tuple #[_, .int .i64 e, .int .i64 (wrap64 ((i : Int) + 1))]) = _; rw [hwi]⟩⟩
     ·have HM : Hid (RLn w2 (tag1 pb) w.heap.size pb t (i + 1) w4 tag' s' P' U') := ⟨hlt1.1 s' ho, hpl, hlb, hR4, hX3.trans hX4⟩
      replace h5 := hide h5
      clear hlt1 hX3 hA3 htg0 HN hR4 hX4 ho HC hpl hlb
      go_wp2_with fail
      go_roundw
      case rel =>
       rw [hwi]
       exact ⟨i + 1, h5.out, rfl, tag', s', P', U', HM.out⟩
      case measure =>
       rw [hwi]
       exact Nat.sub_lt_sub_left h5.out (Nat.lt_succ_self i)
   ·have hil : i = L.length := by omega
    subst hil
    have hln := hJ.ln
    rw [hL.out, List.take_length, ← hL.out] at hln
    have hthr4 : P.thr.length ≤ 4 := by
     have := hJ.pl.few 116 (by simp [isK])
     have g4 : getK P 116 = P.names := by simp [getK]
     rw [g4] at this
     simpa [RP.names] using this
    have hRs := rRes_any hJ.rf (by omega) (fun th hth => by
     have h1 := hJ.pl.code th hth
     have h2 := hJ.labs th hth
     exact ⟨by omega, by omega⟩)
    unfold ptrV at hRs
    have hra := res_all hJ.pl P.thr (fun th hth r hr => (hJ.pl.pos th hth r hr).1)
    rw [← hJ.pl.bod] at hra
    have htg0 : tag w.heap.size = .o := (hJ.ext.tags _ hrl).trans to2
    have HN := hide (⟨hln, hra, hJ, hAr, htg0⟩ : _ ∧ _ ∧ _ ∧ _ ∧ _)
    clear hJ hAr hln hra hthr4 htg0 hi h5 hlg hA2 hB2 hcl hll' to1 to2 to3 hrl
    go_wp2_with fail
    refine hRs.mono ?_
    clear hRs
    obtain ⟨hln, hra, hJ, hAr, htg0⟩ := HN.out
    rintro en w4 ⟨hX4, (⟨n, hbn, rfl⟩ | ⟨hbn, rfl, hR4⟩)⟩
    ·have hn : 0 < n := badT_pos (fun th hth r hr => (hJ.pl.pos th hth r hr).2) hbn
     rw [hbn] at hra
     have hA4 := (hX4.block _ (Array.getElem?_eq_some_iff.1 hAr).1 htg0).trans hAr
     obtain ⟨⟨a0, a1, a2, a3⟩, af⟩ := nilN_cells hA4
     have hPe : Hid (parseT t = .error (5, n)) := by rw [hP.out]; exact parse_err2 hln hra
     have hBw : Hid (Below w.heap.size w w4) := ext_below HC.out.2.2.1 (hJ.ext.trans hX4) HC.out.2.2.2.2.2.2.2.1 (Nat.le_of_lt HC.out.2.2.2.2.2.2.2.2)
     replace hA4 := hide hA4
     clear hln hra hJ hAr htg0 HN hX4 HC hbn
     go_wp2_with fail
     obtain ⟨W, hW, k1, k2, k3, k4, k5, k6⟩ := four_set0 hA4.out (.slice none 0 0) (.slice none 0 0) (.slice none 0 0) (.slice none 0 0)
     rw [hW]
     have hB := hBw.out
     exact bodyPost_ret (rprog_val rfl rfl rfl rfl k1) rfl ⟨⟨k4.trans hB.os, k5.trans hB.tape, k6.trans hB.output, by have := hB.size; omega, fun b hb => (k2 b (by omega)).trans (hB.block b hb)⟩, .inl ⟨5, n, hPe.out, rfl⟩⟩
    ·rw [hbn] at hra
     have hA4 := (hX4.block _ (Array.getElem?_eq_some_iff.1 hAr).1 htg0).trans hAr
     obtain ⟨⟨a0, a1, a2, a3⟩, af⟩ := nilN_cells hA4
     have hPe : Hid (parseT t = .ok (s, P.thr.map fun th => (rsT P th).code.map RI.i)) := by rw [hP.out]; exact parse_ok hln hra
     have hBw : Hid (Below w.heap.size w w4) := ext_below HC.out.2.2.1 (hJ.ext.trans hX4) HC.out.2.2.2.2.2.2.2.1 (Nat.le_of_lt HC.out.2.2.2.2.2.2.2.2)
     have p0 : w4.cell? ⟨pb, 0, none⟩ = some (U.V 118) := hR4.rowC (k := 118) (by simp [isN])
     have p1 : w4.cell? ⟨pb, 1, none⟩ = some (U.V 102) := hR4.rowC (k := 102) (by simp [isN])
     have p2 : w4.cell? ⟨pb, 2, none⟩ = some (U.V 109) := hR4.rowC (k := 109) (by simp [isN])
     have p3 := hR4.thrV
     obtain ⟨x0, n0, y0, e0⟩ : ∃ x n y, U.V 118 = .slice x n y := by obtain ⟨x, y, e⟩ := rowV_len (hR4.rows 118 (by simp [isN])); exact ⟨x, _, y, e⟩
     obtain ⟨x1, n1, y1, e1⟩ : ∃ x n y, U.V 102 = .slice x n y := by obtain ⟨x, y, e⟩ := rowV_len (hR4.rows 102 (by simp [isN])); exact ⟨x, _, y, e⟩
     obtain ⟨x2, n2, y2, e2⟩ : ∃ x n y, U.V 109 = .slice x n y := by obtain ⟨x, y, e⟩ := rowV_len (hR4.rows 109 (by simp [isN])); exact ⟨x, _, y, e⟩
     obtain ⟨x3, n3, y3, e3⟩ : ∃ x n y, U.tV = .slice x n y := by obtain ⟨x, y, e⟩ := owns_len hR4.trow; exact ⟨x, _, y, e⟩
     have hg : ∀ k, isK k → s.nms k = getK { P with thr := P.thr.map (rsT P) } k := fun k hk => by
      rw [hJ.pl.nms k hk]
      unfold getK
      have e : ({ P with thr := P.thr.map (rsT P) } : RP).names = P.names := by
       show (P.thr.map (rsT P)).map RTh.name = P.thr.map RTh.name
       rw [List.map_map]; rfl
      rw [e]; rfl
     have HR4 := hide (⟨hR4, hg, htg0, e0, e1, e2, e3⟩ : _ ∧ _ ∧ _ ∧ _ ∧ _ ∧ _ ∧ _)
     rw [e0] at p0
     rw [e1] at p1
     rw [e2] at p2
     rw [e3] at p3
     replace hA4 := hide hA4
     clear hln hra hJ hAr htg0 HN hX4 HC hbn hR4 hg e0 e1 e2 e3
     go_wp2_with fail
     obtain ⟨W, hW, k1, k2, k3, k4, k5, k6⟩ := four_set0 hA4.out (U.V 118) (U.V 102) (U.V 109) U.tV
     obtain ⟨hR4, hg, htg0, e0, e1, e2, e3⟩ := HR4.out
     rw [e0, e1, e2, e3] at hW k1
     rw [hW]
     have hB := hBw.out
     refine bodyPost_ret (rprog_val rfl rfl rfl rfl k1) rfl ⟨⟨k4.trans hB.os, k5.trans hB.tape, k6.trans hB.output, by have := hB.size; omega, fun b hb => (k2 b (by omega)).trans (hB.block b hb)⟩, .inr ⟨s, _, tag, pb, _, U, hPe.out, by rw [e0, e1, e2, e3]; rfl, hR4.keepO (fun b hb => k2 b (fun e => hb (by rw [e]; exact htg0))) (by omega), hg, ?_⟩⟩
     show _ = (P.thr.map (rsT P)).map _
     rw [List.map_map]; rfl
end Go.Proofs.YtcfpedjfofpnkaaGreatDoor
