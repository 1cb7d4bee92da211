import Derived.Test.YtlefemndikednaaGreatDoorPa24
import Derived.Test.YtlefemndikednaaGreatDoorPa25
set_option linter.unusedVariables false
set_option linter.unusedSimpArgs false
/-
  CodePrints.
-/
namespace Go.Proofs.YtlefemndikednaaGreatDoor
open Go.RowKit Go.Shelf Go.Proofs.Cod

theorem rparse_told2 {w : World} {t : Tx} {e : Ending} {w' : World} (h : RParseR w t e w') : Below w.heap.size w w' ∧ ∃ er ln vV fV lV tV P TV, e = .returned (.tuple #[.agg #[vV, fV, lV, tV], .int .i64 er, .int .i64 ln]) ∧ QView w' w.heap.size vV fV lV tV P TV ∧ PV t er ln P.vs P.fs P.ls P.names (P.thr.map fun th => th.code.map RI.i) ∧ ∀ (j : Nat) (p : Value × Value), TV[j]? = some p → ∃ a n c, p.2 = .slice a n c := by
  obtain ⟨hB, (⟨er, ln, he, rfl⟩ | ⟨s, C, tag, pb, P, U, he, rfl, hW, hK, hC⟩)⟩ := h
  · exact ⟨hB, er, ln, _, _, _, _, RP.new, [], rfl, QView.nil _ _, by unfold PV; rw [he]; exact ⟨rfl, rfl, rfl, rfl, rfl, rfl, rfl⟩, fun j p hp => by cases hp⟩
  · refine ⟨hB, 0, 0, _, _, _, _, P, U.TV, rfl, hW.qview, ?_, fun j p hp => ?_⟩
    · unfold PV
      rw [he]
      have k1 := hK 118 (by simp [isK])
      have k2 := hK 102 (by simp [isK])
      have k3 := hK 109 (by simp [isK])
      have k4 := hK 116 (by simp [isK])
      exact ⟨rfl, rfl, k1.symm, k2.symm, k3.symm, k4.symm, hC.symm⟩
    · have hl : j < P.thr.length := by rw [← hW.len]; exact (List.getElem?_eq_some_iff.1 hp).1
      obtain ⟨th, hth⟩ : ∃ th, P.thr[j]? = some th := ⟨_, List.getElem?_eq_getElem hl⟩
      obtain ⟨a, c, e⟩ := owns_len (hW.ths j th p hth hp).labs
      exact ⟨a, _, c, e⟩
theorem parse_er {t : Tx} {p : Int × Int} (h : parseT t = .error p) : p.1 ≠ 0 := by
  unfold parseT at h
  split at h
  · cases h; decide
  · exact parseL_err (e := p.1) (l := p.2) h
theorem PV.cases {t : Tx} {er ln : Int} {vs fs ls ts : List Tx} {C : List (List In7)} (h : PV t er ln vs fs ls ts C) : er ≠ 0 ∨ (er = 0 ∧ PrOk vs fs ls ts C) := by
  unfold PV at h
  split at h
  · rename_i p hp
    left
    rw [h.1]; exact parse_er hp
  · rename_i p hp
    obtain ⟨a1, a2, a3, a4, a5, a6, a7⟩ := h
    subst a3 a4 a5 a6 a7
    exact .inr ⟨a1, (parse_pr (s := p.1) (C := p.2) hp).1⟩
set_option maxRecDepth 100000 in
set_option maxHeartbeats 2000000 in
theorem codePrints_any (t : Tx) (w : World) {B : Nat} (ht : Tabs w B) (hB : B ≤ w.heap.size) :
    Calls Tryz.prog 4 #[.string (bs t)] w fun e w' => e = .returned (.bool true) ∧ Below w.heap.size w w' := by
  have hl3 := ht.lt
  have hpa := parse_full t w ht.heads ht.shapes (by show 0 < _; omega) (by show 1 < _; omega)
  have hrp := hide (fun wr => rParse_full t wr)
  have hal : Hid (∀ wr, Below B w wr → Calls Tryz.prog 10 #[] wr fun e w' => e = .returned (.bool true) ∧ Below wr.heap.size wr w') := fun wr hb => alive_any (ht.keep hb) (Nat.le_trans hB hb.size)
  have HT := hide (⟨ht, hB⟩ : _ ∧ _)
  clear ht hl3 hB
  go_enter Tryz.func4, Tryz.ntmps4
  go_wp2_with fail
  refine hpa.mono ?_
  clear hpa
  intro e w1 hr
  obtain ⟨hB1, er, ln, va, fa, la, ta, vs, fs, ls, L, C, rfl, hPW, hPV⟩ := parse_told hr
  clear hr
  obtain ⟨av, cv, ev⟩ := owns_len hPW.v
  obtain ⟨af, cf, ef⟩ := owns_len hPW.f
  obtain ⟨al, cl, el⟩ := owns_len hPW.l
  obtain ⟨at', ct, et⟩ := owns_len hPW.t
  subst ev ef el et
  have H1 := hide (⟨hB1, hPW, hPV⟩ : _ ∧ _ ∧ _)
  have h2 := hrp.out (w1.alloc (.cells #[.slice av vs.length cv, .slice af fs.length cf, .slice al ls.length cl, .slice at' L.length ct] 25))
  clear hB1 hPW hPV
  go_wp2_with fail
  refine h2.mono ?_
  clear h2
  intro e w2 hr
  obtain ⟨hB2, er', ln', vd, fd, ld, td, P, TV, rfl, hQ, hPV', hsl⟩ := rparse_told2 hr
  clear hr hrp
  obtain ⟨hB1, hPW, hPV⟩ := H1.out
  obtain ⟨rfl, rfl, q1, q2, q3, q4, q5⟩ := hPV.eq hPV'
  obtain ⟨dv, ev', edv⟩ := owns_len hQ.v
  obtain ⟨df, ef', edf⟩ := owns_len hQ.f
  obtain ⟨dl, el', edl⟩ := owns_len hQ.l
  obtain ⟨dt, et', edt⟩ := owns_len hQ.t
  subst edv edf edl edt
  have hba : Below w1.heap.size w1 (w1.alloc (.cells #[.slice av vs.length cv, .slice af fs.length cf, .slice al ls.length cl, .slice at' L.length ct] 25)) := (Below.refl _ _).alloc (Nat.le_refl _) _
  have hkA : (w1.alloc (.cells #[.slice av vs.length cv, .slice af fs.length cf, .slice al ls.length cl, .slice at' L.length ct] 25)).heap[w1.heap.size]? = some (.cells #[.slice av vs.length cv, .slice af fs.length cf, .slice al ls.length cl, .slice at' L.length ct] 25) := World.alloc_heap_new w1 _
  generalize w1.alloc (.cells #[.slice av vs.length cv, .slice af fs.length cf, .slice al ls.length cl, .slice at' L.length ct] 25) = wa at *
  have hbb : Below w2.heap.size w2 (w2.alloc (.cells #[.slice dv P.vs.length ev', .slice df P.fs.length ef', .slice dl P.ls.length el', .slice dt P.thr.length et'] 31)) := (Below.refl _ _).alloc (Nat.le_refl _) _
  have hkB : (w2.alloc (.cells #[.slice dv P.vs.length ev', .slice df P.fs.length ef', .slice dl P.ls.length el', .slice dt P.thr.length et'] 31)).heap[w2.heap.size]? = some (.cells #[.slice dv P.vs.length ev', .slice df P.fs.length ef', .slice dl P.ls.length el', .slice dt P.thr.length et'] 31) := World.alloc_heap_new w2 _
  generalize hwb : w2.alloc (.cells #[.slice dv P.vs.length ev', .slice df P.fs.length ef', .slice dl P.ls.length el', .slice dt P.thr.length et'] 31) = wb at *
  have hB2' : Below w1.heap.size w1 w2 := hba.trans (hB2.mono hba.size)
  have hBb : Below w1.heap.size w1 wb := hB2'.trans (hbb.mono hB2'.size)
  have hn1a : w1.heap.size < wa.heap.size := (Array.getElem?_eq_some_iff.1 hkA).1
  have hkA2 := (hB2.block _ hn1a).trans hkA
  have hkAb := (hbb.block _ (Array.getElem?_eq_some_iff.1 hkA2).1).trans hkA2
  have hPb := hPW.below hBb
  have hDb := hQ.view.below hbb
  have hB0 := hB1.trans (hBb.mono hB1.size)
  obtain ⟨ht, hB⟩ := HT.out
  replace hwb := hide hwb
  rcases hPV.cases with hne | ⟨rfl, hok⟩
  · have hneb : (er != 0) = true := by simpa using hne
    have hA := hal.out wb (hB0.mono hB)
    have HB0 := hide hB0
    clear hB1 hPW hPV hPV' q1 q2 q3 q4 q5 hba hkA hbb hkB hB2' hBb hn1a hkA2 hkAb hPb hDb hB0 hQ hB2 H1 hsl ht hB hne
    go_wp2_with fail
    rw [hwb.out]
    clear hwb
    refine (lwNum_any er _).mono ?_
    rintro e w4 ⟨rfl, rfl⟩
    go_wp2_with fail
    refine (lwNum_any er _).mono ?_
    rintro e w4 ⟨rfl, rfl⟩
    go_wp2_with fail
    refine hA.mono ?_
    clear hA
    rintro e w8 ⟨rfl, hB8⟩
    have HF := hide (HB0.out.trans (hB8.mono HB0.out.size))
    clear hB8
    go_wp2_with fail
    go_ret
    exact ⟨rfl, HF.out⟩
  · have htb := ht.keep (hB0.mono hB)
    have hBb' := Nat.le_trans hB hB0.size
    have hPr := print_any hPb htb hBb' hok
    have hokR : PrOk P.vs P.fs P.ls P.names (P.thr.map fun th => th.code.map RI.i) := by rw [← q1, ← q2, ← q3, ← q4, ← q5]; exact hok
    have heq : printW vs fs ls (L.map Prod.fst) C = printW P.vs P.fs P.ls P.names (P.thr.map fun th => th.code.map RI.i) := by rw [q1, q2, q3, q4, q5]
    rw [heq] at hPr
    obtain ⟨a0, a1, a2, a3⟩ := box_cells hkAb
    obtain ⟨d0, d1, d2, d3⟩ := box_cells hkB
    have H2 := hide (⟨hPb, hDb, htb, hBb', hokR, hkAb, hkB, hB0, hsl, q1, q2, q3, q4, q5⟩ : _ ∧ _ ∧ _ ∧ _ ∧ _ ∧ _ ∧ _ ∧ _ ∧ _ ∧ _ ∧ _ ∧ _ ∧ _ ∧ _)
    clear hB1 hPW hPV hPV' q1 q2 q3 q4 q5 hba hkA hbb hkB hB2' hBb hn1a hkA2 hkAb hPb hDb hB0 hQ hB2 H1 hsl ht hB htb hBb' hok hokR heq
    generalize htx : printW P.vs P.fs P.ls P.names (P.thr.map fun th => th.code.map RI.i) = tx at hPr
    replace htx := hide htx
    go_wp2_with fail
    rw [hwb.out]
    clear hwb
    refine (lwNum_any 0 _).mono ?_
    rintro e w4 ⟨rfl, rfl⟩
    go_wp2_with fail
    refine hPr.mono ?_
    clear hPr a0 a1 a2 a3 d0 d1 d2 d3
    rintro e w3 ⟨rfl, hB3⟩
    obtain ⟨hPb, hDb, htb, hBb', hokR, hkAb, hkB, hB0, hsl, q1, q2, q3, q4, q5⟩ := H2.out
    have hkA3 := (hB3.block _ (Array.getElem?_eq_some_iff.1 hkAb).1).trans hkAb
    have hkB3 := (hB3.block _ (Array.getElem?_eq_some_iff.1 hkB).1).trans hkB
    have hD3 := hDb.below hB3
    have hSm := lwSame_any (hPb.below hB3) hD3 q1 q2 q3 q4 q5
    have ht3 := htb.keep (hB3.mono hBb')
    have hB03 := hB0.trans (hB3.mono hB0.size)
    obtain ⟨a0, a1, a2, a3⟩ := box_cells hkA3
    obtain ⟨d0, d1, d2, d3⟩ := box_cells hkB3
    have H3 := hide (⟨hD3, ht3, hokR, hkB3, hB03, hsl, Nat.le_trans hBb' hB3.size⟩ : _ ∧ _ ∧ _ ∧ _ ∧ _ ∧ _ ∧ _)
    clear hPb hDb htb hBb' hokR hkAb hkB hB0 hsl q1 q2 q3 q4 q5 hkA3 hkB3 hD3 ht3 hB03 hB3 H2
    go_wp2_with fail
    refine hSm.mono ?_
    clear hSm a0 a1 a2 a3 d0 d1 d2 d3
    rintro e w5 ⟨rfl, hB5⟩
    obtain ⟨hD3, ht3, hokR, hkB3, hB03, hsl, hBB⟩ := H3.out
    have hkB5 := (hB5.block _ (Array.getElem?_eq_some_iff.1 hkB3).1).trans hkB3
    obtain ⟨d0, d1, d2, d3⟩ := box_cells hkB5
    have hR := rPrint_any (hD3.below hB5) (ht3.keep (hB5.mono hBB)) (Nat.le_trans hBB hB5.size) hsl hokR
    rw [htx.out] at hR
    have hB05 := hB03.trans (hB5.mono hB03.size)
    have HB5 := hide hB05
    clear hD3 ht3 hokR hkB3 hB03 hsl hBB hkB5 hB5 hB05 H3
    have hteq : ((bs tx).toList == (bs tx).toList) = true := by simp
    go_wp2_with fail
    refine hR.mono ?_
    clear hR d0 d1 d2 d3
    rintro e w6 ⟨rfl, hB6⟩
    have hB06 := HB5.out.trans (hB6.mono HB5.out.size)
    have hA := hal.out w6 (hB06.mono HT.out.2)
    have HB6 := hide hB06
    clear hB6 hB06
    go_wp2_with fail
    refine hA.mono ?_
    clear hA
    rintro e w8 ⟨rfl, hB8⟩
    have HF := hide (HB6.out.trans (hB8.mono HB6.out.size))
    clear hB8
    go_wp2_with fail
    go_ret
    exact ⟨rfl, HF.out⟩
end Go.Proofs.YtlefemndikednaaGreatDoor
