import Derived.Test.YtlpdomgedaockaaGreatDoorOl8
set_option linter.unusedVariables false
set_option linter.unusedSimpArgs false
namespace Go.Proofs.YtlpdomgedaockaaGreatDoor
open Go.RowKit Go.Proofs.Cod
def isDeclW (f : Tx) : Bool := f == [118, 97, 114] || f == [102, 108, 97, 103] || f == [108, 111, 99, 107]
def RThread (P : RP) (ts : List Tx) (e : Int) (P' : RP) : Prop :=
  ((ts.length ≠ 1 ∨ isNam (ts.getD 0 []) = false) ∧ e = 2) ∨ ((ts.length = 1 ∧ isNam (ts.getD 0 []) = true) ∧ ((hasP P (ts.getD 0 []) = true ∧ e = 3) ∨ (hasP P (ts.getD 0 []) = false ∧ ((P.thr.length = 4 ∧ e = 4) ∨ (P.thr.length ≠ 4 ∧ e = 0 ∧ P' = { P with thr := P.thr ++ [⟨ts.getD 0 [], [], []⟩] })))))
set_option maxRecDepth 100000 in
set_option maxHeartbeats 2000000 in
theorem rLine_decl {w : World} {tag : Nat → RT} {base pb : Nat} {P : RP} {U : RV} (h : RfW w tag base pb P U) (b off n cap : Nat) (f : Tx) (ts : List Tx) (hn : ts.length + 1 = n) (hs : WsT w tag (some ⟨b, off, none⟩) (f :: ts)) (hcap : n ≤ cap) (hb : P.thr.length = 0) (hl : ∀ k, (P.get k).length ≤ 4) (hnb : n < 4000) (line : Int) (hf : isDeclW f = true) :
    Calls Tryz.prog 25 #[ptrV pb, .slice (some ⟨b, off, none⟩) n cap, .int .i64 line] w (ROut w tag base pb (RDecl P f ts)) := by
  have hD := rDeclare_any h b off n cap f ts hn hs hcap (by omega) hl hnb
  have c3 := h.thrV
  obtain ⟨ta, tcap, hV⟩ := owns_len h.trow
  rw [hV, hb] at c3
  have cf := hs.at (i := 0) (by simp)
  have cf : w.cell? ⟨b, off, none⟩ = some (.string (bs f)) := cf
  have hn0 : (0 : Int) < (n : Int) := by omega
  have b1 := bs_eq f [118, 97, 114]
  have b2 := bs_eq f [102, 108, 97, 103]
  have b3 := bs_eq f [108, 111, 99, 107]
  unfold ptrV at hD ⊢
  clear h hs hV hn hcap hb hl hnb
  go_enter Tryz.func25, Tryz.ntmps25
  by_cases f1 : f = [118, 97, 114]
  · rw [decide_eq_true f1] at b1
    clear hf b2 b3
    replace f1 := hide f1
    go_wp2_with fail
    refine hD.mono ?_
    rintro e w2 ⟨er, tag', P', U', rfl, hW, hX, hR⟩
    have HE := hide (⟨hW, hX, hR⟩ : _ ∧ _ ∧ _)
    clear hW hX hR
    go_wp2_with fail
    go_ret
    exact ⟨er, tag', P', U', rfl, HE.out.1, HE.out.2.1, HE.out.2.2⟩
  · rw [decide_eq_false f1] at b1
    by_cases f2 : f = [102, 108, 97, 103]
    · rw [decide_eq_true f2] at b2
      clear hf b3
      replace f1 := hide f1
      replace f2 := hide f2
      go_wp2_with fail
      refine hD.mono ?_
      rintro e w2 ⟨er, tag', P', U', rfl, hW, hX, hR⟩
      have HE := hide (⟨hW, hX, hR⟩ : _ ∧ _ ∧ _)
      clear hW hX hR
      go_wp2_with fail
      go_ret
      exact ⟨er, tag', P', U', rfl, HE.out.1, HE.out.2.1, HE.out.2.2⟩
    · rw [decide_eq_false f2] at b2
      have f3 : f = [108, 111, 99, 107] := by simpa [isDeclW, f1, f2] using hf
      rw [decide_eq_true f3] at b3
      clear hf
      replace f1 := hide f1
      replace f2 := hide f2
      replace f3 := hide f3
      go_wp2_with fail
      refine hD.mono ?_
      rintro e w2 ⟨er, tag', P', U', rfl, hW, hX, hR⟩
      have HE := hide (⟨hW, hX, hR⟩ : _ ∧ _ ∧ _)
      clear hW hX hR
      go_wp2_with fail
      go_ret
      exact ⟨er, tag', P', U', rfl, HE.out.1, HE.out.2.1, HE.out.2.2⟩
theorem notDecl {f : Tx} (hf : isDeclW f = false) : f ≠ [118, 97, 114] ∧ f ≠ [102, 108, 97, 103] ∧ f ≠ [108, 111, 99, 107] := by
  refine ⟨?_, ?_, ?_⟩ <;> rintro rfl <;> cases hf
set_option maxRecDepth 100000 in
set_option maxHeartbeats 2000000 in
theorem rLine_thread {w : World} {tag : Nat → RT} {base pb : Nat} {P : RP} {U : RV} (h : RfW w tag base pb P U) (b off n cap : Nat) (f : Tx) (ts : List Tx) (hn : ts.length + 1 = n) (hs : WsT w tag (some ⟨b, off, none⟩) (f :: ts)) (hb : P.thr.length < 1000) (hl : ∀ k, (P.get k).length ≤ 4) (hnb : n < 4000) (line : Int) (hf : f = [116, 104, 114, 101, 97, 100]) :
    Calls Tryz.prog 25 #[ptrV pb, .slice (some ⟨b, off, none⟩) n cap, .int .i64 line] w (ROut w tag base pb (RThread P ts)) := by
  have c3 := h.thrV
  obtain ⟨ta, tcap, hV⟩ := owns_len h.trow
  rw [hV] at c3
  have cf := hs.at (i := 0) (by simp)
  have cf : w.cell? ⟨b, off, none⟩ = some (.string (bs f)) := cf
  have hn0 : (0 : Int) < (n : Int) := by omega
  have b1 : ((bs f).toList == [118, 97, 114]) = false := by rw [bs_toList, hf]; rfl
  have b2 : ((bs f).toList == [102, 108, 97, 103]) = false := by rw [bs_toList, hf]; rfl
  have b3 : ((bs f).toList == [108, 111, 99, 107]) = false := by rw [bs_toList, hf]; rfl
  have b4 : ((bs f).toList == [116, 104, 114, 101, 97, 100]) = true := by rw [bs_toList, hf]; rfl
  have HX := hide (Ext.refl w tag)
  have H := hide h
  have hd : Ext w tag w.drew tag := ⟨rfl, rfl, rfl, Nat.le_refl _, fun _ _ => rfl, fun _ _ _ => rfl⟩
  have hRd := RfW.keep (w' := w.drew) h (fun _ _ => rfl) hd
  have hpl := h.lt h.tp (by simp)
  have hbl : b < w.heap.size := by obtain ⟨b', o', e1, e2, _⟩ := hs 0 (by simp); cases e1; exact e2
  unfold ptrV
  by_cases h1 : ts.length = 1
  · have hn1 : (1 : Int) < (n : Int) := by omega
    have hne : ((n : Int) != 2) = false := by simp; omega
    have c1 := hs.at (i := 1) (by simp; omega)
    have hgd : (f :: ts).getD 1 [] = ts.getD 0 [] := by simp
    rw [hgd] at c1
    have hN := fun u => rIsName_any (ts.getD 0 []) u
    have hH := rHas_any h (ts.getD 0 []) (by omega) (fun k => by have := hl k; omega)
    unfold ptrV at hH
    obtain ⟨g, cap', w3, hrun, cV3, fV3, tag3, hR3, hX3⟩ := hRd.thread (ts.getD 0 []) (by omega)
    rw [hV] at hrun cV3
    have hrun : (Builtin.append_ #[27, 27] 27 #[.slice ta P.thr.length tcap, .slice (some ⟨w.heap.size, 0, none⟩) 1 1]).run Tryz.prog (w.alloc (.cells #[.string (bs (ts.getD 0 [])), .slice none 0 0, .slice none 0 0] 146)).drew = .ok (.slice (some ⟨g, 0, none⟩) (P.thr.length + 1) cap') w3 := hrun
    have HN := hide (⟨hR3, hd.trans hX3⟩ : _ ∧ _)
    replace h1 := hide h1
    have hx0 : Hid (∀ e P', RThread P ts e P' ↔ RThread P ts e P') := fun _ _ => Iff.rfl
    clear h hs hV hn hRd hR3 hX3 hd hgd hl hnb hf
    generalize hxe : ts.getD 0 [] = x at c1 hN hH hrun
    replace hxe := hide hxe
    cases hnm : isNam x with
    | false =>
      rw [hnm] at hN
      go_enter Tryz.func25, Tryz.ntmps25
      cases hg0 : decide (0 < P.thr.length)
      all_goals
        go_wp2_with fail
        refine (hN _).mono ?_
        rintro e w2 ⟨rfl, rfl⟩
        go_wp2_with fail
        go_ret
        exact ⟨2, tag, P, U, rfl, H.out, HX.out, .inl ⟨.inr (by rw [hxe.out]; exact hnm), rfl⟩⟩
    | true =>
      rw [hnm] at hN
      go_enter Tryz.func25, Tryz.ntmps25
      cases hh : hasP P x with
      | true =>
        rw [hh] at hH
        replace hh := hide hh
        cases hg0 : decide (0 < P.thr.length)
        all_goals
          go_wp2_with fail
          refine (hN _).mono ?_
          rintro e w2 ⟨rfl, rfl⟩
          go_wp2_with fail
          refine hH.mono ?_
          rintro e w2 ⟨rfl, rfl⟩
          go_wp2_with fail
          go_ret
          exact ⟨3, tag, P, U, rfl, H.out, HX.out, .inr ⟨⟨h1.out, by rw [hxe.out]; exact hnm⟩, .inl ⟨by rw [hxe.out]; exact hh.out, rfl⟩⟩⟩
      | false =>
        rw [hh] at hH
        replace hh := hide hh
        by_cases h4 : P.thr.length = 4
        · have h4' : ((P.thr.length : Int) == 4) = true := by simp; omega
          have hg0 : decide (0 < P.thr.length) = true := by simp; omega
          replace h4 := hide h4
          go_wp2_with fail
          refine (hN _).mono ?_
          rintro e w2 ⟨rfl, rfl⟩
          go_wp2_with fail
          refine hH.mono ?_
          rintro e w2 ⟨rfl, rfl⟩
          go_wp2_with fail
          go_ret
          exact ⟨4, tag, P, U, rfl, H.out, HX.out, .inr ⟨⟨h1.out, by rw [hxe.out]; exact hnm⟩, .inr ⟨by rw [hxe.out]; exact hh.out, .inl ⟨h4.out, rfl⟩⟩⟩⟩
        · have h4' : ((P.thr.length : Int) == 4) = false := by simp; omega
          replace h4 := hide h4
          cases hg0 : decide (0 < P.thr.length)
          all_goals
            go_wp2_with fail
            refine (hN _).mono ?_
            rintro e w2 ⟨rfl, rfl⟩
            go_wp2_with fail
            refine hH.mono ?_
            rintro e w2 ⟨rfl, rfl⟩
            go_wp2_with fail
            go_region_law (refine step_append_run rfl _ _ _ rfl rfl rfl rfl hrun ?_)
            all_goals
              go_wp2_with fail
              go_ret
              exact ⟨0, tag3, _, _, rfl, HN.out.1, HN.out.2, .inr ⟨⟨h1.out, by rw [hxe.out]; exact hnm⟩, .inr ⟨by rw [hxe.out]; exact hh.out, .inr ⟨h4.out, rfl, rfl⟩⟩⟩⟩
  · have hne : ((n : Int) != 2) = true := by simp; omega
    replace h1 := hide h1
    clear h hs hV hn hRd hd hl hnb hf
    go_enter Tryz.func25, Tryz.ntmps25
    cases hg0 : decide (0 < P.thr.length)
    all_goals
      go_wp2_with fail
      go_ret
      exact ⟨2, tag, P, U, rfl, H.out, HX.out, .inl ⟨.inl h1.out, rfl⟩⟩
set_option maxRecDepth 100000 in
set_option maxHeartbeats 2000000 in
theorem rLine_none {w : World} {tag : Nat → RT} {base pb : Nat} {P : RP} {U : RV} (h : RfW w tag base pb P U) (b off n cap : Nat) (f : Tx) (ts : List Tx) (hn : ts.length + 1 = n) (hs : WsT w tag (some ⟨b, off, none⟩) (f :: ts)) (hb : P.thr.length = 0) (line : Int) (hf : isDeclW f = false) (hf2 : f ≠ [116, 104, 114, 101, 97, 100]) :
    Calls Tryz.prog 25 #[ptrV pb, .slice (some ⟨b, off, none⟩) n cap, .int .i64 line] w (ROut w tag base pb (fun e _ => e = 2)) := by
  have c3 := h.thrV
  obtain ⟨ta, tcap, hV⟩ := owns_len h.trow
  rw [hV, hb] at c3
  have cf := hs.at (i := 0) (by simp)
  have cf : w.cell? ⟨b, off, none⟩ = some (.string (bs f)) := cf
  have hn0 : (0 : Int) < (n : Int) := by omega
  obtain ⟨f1, f2, f3⟩ := notDecl hf
  have b1 := bs_eq f [118, 97, 114]
  have b2 := bs_eq f [102, 108, 97, 103]
  have b3 := bs_eq f [108, 111, 99, 107]
  have b4 := bs_eq f [116, 104, 114, 101, 97, 100]
  rw [decide_eq_false f1] at b1
  rw [decide_eq_false f2] at b2
  rw [decide_eq_false f3] at b3
  rw [decide_eq_false hf2] at b4
  have HX := hide (Ext.refl w tag)
  have H := hide h
  unfold ptrV
  clear h hs hV hn hb hf hf2 f1 f2 f3
  go_enter Tryz.func25, Tryz.ntmps25
  go_wp2_with fail
  go_ret
  exact ⟨2, tag, P, U, rfl, H.out, HX.out, rfl⟩
end Go.Proofs.YtlpdomgedaockaaGreatDoor
namespace Go.Proofs.YtlpdomgedaockaaGreatDoor
open Go.RowKit Go.Proofs.Cod
def RLabel (P : RP) (k : Nat) (th : RTh) (x : Tx) (e : Int) (P' : RP) : Prop :=
  (isNam x = false ∧ e = 2) ∨ (isNam x = true ∧ (((∃ i, i < th.labs.length ∧ (th.labs.map Prod.fst).getD i [] = x) ∧ e = 3) ∨ ((∀ i, i < th.labs.length → (th.labs.map Prod.fst).getD i [] ≠ x) ∧ e = 0 ∧ P' = { P with thr := P.thr.set k { th with labs := th.labs ++ [(x, th.code.length)] } })))
set_option maxRecDepth 100000 in
set_option maxHeartbeats 2000000 in
theorem rLine_label {w : World} {tag : Nat → RT} {base pb : Nat} {P : RP} {U : RV} (h : RfW w tag base pb P U) (b off cap : Nat) (f : Tx) (hs : WsT w tag (some ⟨b, off, none⟩) [f]) (k : Nat) (th : RTh) (hk : P.thr.length = k + 1) (hth : P.thr[k]? = some th) (hb : P.thr.length < 1000) (hlb : th.labs.length < 4000) (hcd : th.code.length < 4000) (hfl : f.length < 4000) (line : Int) (x : Tx) (hx : f = x ++ [58]) (hf2 : f ≠ [116, 104, 114, 101, 97, 100]) :
    Calls Tryz.prog 25 #[ptrV pb, .slice (some ⟨b, off, none⟩) 1 cap, .int .i64 line] w (ROut w tag base pb (RLabel P k th x)) := by
  obtain ⟨p, hp⟩ : ∃ p, U.TV[k]? = some p := ⟨_, List.getElem?_eq_getElem (by rw [h.len]; omega)⟩
  obtain ⟨gt, tcap, hV⟩ := h.thrForm hth
  have c3 := h.thrV
  rw [hV, hk] at c3
  have t1 : w.cell? ⟨gt, k * 3 + 1, none⟩ = some p.1 := h.thrCell hth hp (r := 1) (by omega) hV
  have t2 : w.cell? ⟨gt, k * 3 + 2, none⟩ = some p.2 := h.thrCell hth hp (r := 2) (by omega) hV
  obtain ⟨ca, cc, hp1⟩ := owns_len (h.ths k th p hth hp).code
  obtain ⟨la, lc, hp2⟩ := owns_len (h.ths k th p hth hp).labs
  rw [hp1] at t1
  rw [hp2] at t2
  have cf := hs.at (i := 0) (by simp)
  have cf : w.cell? ⟨b, off, none⟩ = some (.string (bs f)) := cf
  have b4 := bs_eq f [116, 104, 114, 101, 97, 100]
  rw [decide_eq_false hf2] at b4
  have hzf : (bs f).size = x.length + 1 := by rw [bs_size, hx]; simp
  have hlast : ∀ hi : x.length < (bs f).size, (bs f)[x.length]'hi = 58 := fun hi => by
    rw [bs_get f x.length hi]; simp [hx]
  have hext : (bs f).extract 0 x.length = bs x := by rw [bs_extract, hx]; simp
  have hN := fun u => rIsName_any x u
  have HX := hide (Ext.refl w tag)
  have H := hide h
  have hd : Ext w tag w.drew tag := ⟨rfl, rfl, rfl, Nat.le_refl _, fun _ _ => rfl, fun _ _ _ => rfl⟩
  have HD := hide (⟨RfW.keep (w' := w.drew) h (fun _ _ => rfl) hd, hd⟩ : _ ∧ _)
  have hwk : wrap64 (k : Int) = (k : Int) := IntWalk.wrap64_in _ (by omega)
  have hwx : wrap64 (x.length : Int) = (x.length : Int) := IntWalk.wrap64_in _ (by rw [hx] at hfl; simp at hfl; omega)
  have hxl : x.length < (bs f).size := by omega
  have hl58 := hlast hxl
  unfold ptrV
  replace hp := hide hp
  replace hth := hide hth
  replace hp1 := hide hp1
  replace hp2 := hide hp2
  replace hV := hide hV
  replace hb := hide hb
  replace hlb := hide hlb
  clear h hs hlast hx hf2 hk hd
  go_enter Tryz.func25, Tryz.ntmps25
  go_wp2_with fail
  go_region
  go_wp2_with fail
  refine (hN _).mono ?_
  rintro e w2 ⟨rfl, hw2⟩
  have hR2 : RfW w2 tag base pb P U := by rw [hw2]; exact HD.out.1
  have hX2 : Ext w tag w2 tag := by rw [hw2]; exact HD.out.2
  have s1 : w2.cell? ⟨gt, k * 3 + 1, none⟩ = some (.slice ca th.code.length cc) := by rw [hw2]; exact t1
  have s2 : w2.cell? ⟨gt, k * 3 + 2, none⟩ = some (.slice la th.labs.length lc) := by rw [hw2]; exact t2
  have H2 := hide (⟨hR2, hX2⟩ : _ ∧ _)
  clear hw2 t1 t2 c3 cf hR2 hX2 hN
  cases hnm : isNam x with
  | false =>
    go_wp2_with fail
    go_ret
    exact ⟨2, tag, P, U, rfl, H2.out.1, H2.out.2, .inl ⟨hnm, rfl⟩⟩
  | true =>
    go_wp2_with fail
    go_loopw [12] (fun iv wr => ∃ i : Nat, i ≤ th.labs.length ∧ iv = .int .i64 i ∧ (∀ j : Nat, j < i → (th.labs.map Prod.fst).getD j [] ≠ x) ∧ wr = w2) (fun iv _ => th.labs.length - (intOf iv).toNat)
    case atStart => exact ⟨0, Nat.zero_le _, rfl, fun j hj => by omega, rfl⟩
    case round =>
      clear hwk hwx hzf hext hxl hl58 b4 hcd hfl
      obtain ⟨i, hi, rfl, hall, rfl⟩ := hrel
      by_cases h5 : i < th.labs.length
      · have hlt : (i : Int) < (th.labs.length : Int) := by omega
        obtain ⟨q, hq⟩ : ∃ q, th.labs[i]? = some q := ⟨_, List.getElem?_eq_getElem h5⟩
        have hT := (H2.out.1.ths k th p hth.out hp.out).labs
        have hT2 := hT
        obtain ⟨m, hm⟩ : ∃ m, th.labs.length = m + 1 := ⟨th.labs.length - 1, by omega⟩
        rw [hm] at hT2
        obtain ⟨lg, lc', hl'⟩ := ownsRow_succ hT2
        rw [← hm] at hl'
        have hla : la = some ⟨lg, 0, none⟩ := by have e := hp2.out; rw [hl'] at e; cases e; rfl
        subst hla
        have cN : wr.cell? ⟨lg, i * 2, none⟩ = some (.string (bs q.1)) := by
          rw [hl'] at hT
          have e := hT.cellAt (i * 2 + 0) (by have := h5; omega)
          exact e.trans (flat_at (m := 2) (r := 0) labC_len hq (by omega))
        have hgd : (th.labs.map Prod.fst).getD i [] = q.1 := by rw [List.getD_eq_getElem?_getD, List.getElem?_map, hq]; rfl
        have hwi : wrap64 ((i : Int) + 1) = (i : Int) + 1 := IntWalk.wrap64_in _ (by have := hlb.out; omega)
        have hF : ((bs q.1).toList == (bs x).toList) = decide (q.1 = x) := by
          rw [bs_toList, bs_toList]
          by_cases e : q.1 = x <;> simp [e]
        have HA := hide (⟨hall, hgd, h5⟩ : _ ∧ _ ∧ _)
        clear hall hgd hT hT2 hm hl' hq
        clear s1 hp1 hi HX H HD hb hlb
        by_cases e : q.1 = x
        · rw [decide_eq_true e] at hF
          replace e := hide e
          go_wp2_with fail
          go_ret
          exact ⟨3, tag, P, U, rfl, H2.out.1, H2.out.2, .inr ⟨hnm, .inl ⟨⟨i, HA.out.2.2, HA.out.2.1.trans e.out⟩, rfl⟩⟩⟩
        · rw [decide_eq_false e] at hF
          replace e := hide e
          go_wp2_with fail
          go_roundw
          case rel =>
            rw [hwi]
            exact ⟨i + 1, HA.out.2.2, rfl, fun j hj => if h6 : j = i then by subst h6; rw [HA.out.2.1]; exact e.out else HA.out.1 j (Nat.lt_of_le_of_ne (Nat.le_of_lt_succ hj) h6), trivial⟩
          case measure =>
            rw [hwi]
            exact Nat.sub_lt_sub_left HA.out.2.2 (Nat.lt_succ_self i)
      · have hge : decide ((i : Int) < (th.labs.length : Int)) = false := by simp; omega
        have hge2 : ¬ ((i : Int) < (th.labs.length : Int)) := by omega
        have hd : Ext wr tag wr.drew tag := ⟨rfl, rfl, rfl, Nat.le_refl _, fun _ _ => rfl, fun _ _ _ => rfl⟩
        have hRd := RfW.keep (w' := wr.drew) H2.out.1 (fun _ _ => rfl) hd
        obtain ⟨g, cap', w3, hrun, cV3, fV3, tag3, hR3, hX3⟩ := hRd.label hth.out hp.out x th.code.length (by have := hlb.out; omega) hV.out
        rw [hp2.out] at hrun cV3
        have hrun : (Builtin.append_ #[144, 144] 144 #[.slice la th.labs.length lc, .slice (some ⟨wr.heap.size, 0, none⟩) 1 1]).run Tryz.prog (wr.alloc (.cells #[.string (bs x), .int .i64 th.code.length] 149)).drew = .ok (.slice (some ⟨g, 0, none⟩) (th.labs.length + 1) cap') w3 := hrun
        have hgl : gt < wr.heap.size := H2.out.1.lt (H2.out.1.tt gt (by rw [hV.out]; rfl)) (by simp)
        have s2a : (wr.alloc (.cells #[.string (bs x), .int .i64 th.code.length] 149)).cell? ⟨gt, k * 3 + 2, none⟩ = some (.slice la th.labs.length lc) := (World.cell?_of_block (w := wr) (a := ⟨gt, k * 3 + 2, none⟩) (Below.heap_alloc wr _ gt hgl)).trans s2
        replace hgl := hide hgl
        have HN := hide (⟨hR3, (H2.out.2.trans hd).trans hX3, fun j hj => hall j (by omega)⟩ : _ ∧ _ ∧ (∀ j, j < th.labs.length → _))
        clear hall hd hRd hR3 hX3
        go_wp2_with fail
        go_region_law (refine step_append_run rfl _ _ _ rfl rfl rfl rfl hrun ?_)
        all_goals
          go_wp2_with fail
          go_ret
          exact ⟨0, tag3, _, _, rfl, HN.out.1, HN.out.2.1, .inr ⟨hnm, .inr ⟨HN.out.2.2, rfl, rfl⟩⟩⟩
end Go.Proofs.YtlpdomgedaockaaGreatDoor
namespace Go.Proofs.YtlpdomgedaockaaGreatDoor
open Go.RowKit Go.Proofs.Cod
def rFit (c : UInt8) (t : Tx) : Bool := if c = 114 then isReg t else if c = 97 ∨ c = 98 then argB t else isNam t
def rSet (P : RP) (r : RI) (c : UInt8) (t : Tx) : RI :=
  if c = 114 then { r with i := { r.i with r := (regN t : Int) } } else if c = 97 then { r with i := { r.i with aR := isReg t, aN := (argN t : Int) } } else if c = 98 then { r with i := { r.i with bR := isReg t, bN := (argN t : Int) } }
  else if c = 120 then { r with i := { r.i with x := findZ P.vs t }, word := t } else if c = 102 then { r with i := { r.i with x := findZ P.fs t }, word := t } else if c = 109 then { r with i := { r.i with x := findZ P.ls t }, word := t } else { r with word := t }
def rGo (P : RP) : RI → Int → List (UInt8 × Tx) → Option (RI × Int)
  | r, e, [] => some (r, e)
  | r, e, p :: l => if rFit p.1 p.2 then rGo P (rSet P r p.1 p.2) (if (rSet P r p.1 p.2).i.x < 0 then 5 else e) l else none
theorem rGo_cons {P : RP} {r : RI} {e : Int} {c : UInt8} {t : Tx} {l : List (UInt8 × Tx)} : rGo P r e ((c, t) :: l) = if rFit c t then rGo P (rSet P r c t) (if (rSet P r c t).i.x < 0 then 5 else e) l else none := rfl
def ri0 (f : Tx) (line : Int) : RI := ⟨newIns f, line, []⟩
def zeroRI : List Value := [.string ByteArray.empty, .int .i64 0, .bool false, .int .i64 0, .bool false, .int .i64 0, .int .i64 0, .int .i64 0, .string ByteArray.empty]
def rInstrT (P : RP) (line : Int) (f : Tx) (ts : List Tx) : Option (RI × Int) := if partsT f = none ∨ ts.length ≠ (formT f).length then none else rGo P (ri0 f line) 0 ((formT f).zip ts)
def rInstrV (o : Option (RI × Int)) : Value := match o with
  | some (r, e) => .tuple #[.agg (riC r).toArray, .int .i64 e]
  | none => .tuple #[.agg zeroRI.toArray, .int .i64 2]
theorem instr_val {w : World} {fn : Func} {tmps : Array Value} {b : Nat} {x a0 a1 a2 a3 a4 a5 a6 a7 a8 : Value} (hr : fn.results = #[.cell 6 152, .tmp 7]) (ht : tmps[6]? = some (.pointer (some ⟨b, 0, none⟩))) (h3 : tmps[7]? = some x) (hc : w.heap[b]? = some (.cells #[a0, a1, a2, a3, a4, a5, a6, a7, a8] 152)) : (results fn tmps).run Tryz.prog w = .ok (.tuple #[.agg #[a0, a1, a2, a3, a4, a5, a6, a7, a8], x]) w := by
  have c0 : w.cell? ⟨b, 0, none⟩ = some a0 := by simp [World.cell?, hc]
  have c1 : w.cell? ⟨b, 1, none⟩ = some a1 := by simp [World.cell?, hc]
  have c2 : w.cell? ⟨b, 2, none⟩ = some a2 := by simp [World.cell?, hc]
  have c3 : w.cell? ⟨b, 3, none⟩ = some a3 := by simp [World.cell?, hc]
  have c4 : w.cell? ⟨b, 4, none⟩ = some a4 := by simp [World.cell?, hc]
  have c5 : w.cell? ⟨b, 5, none⟩ = some a5 := by simp [World.cell?, hc]
  have c6 : w.cell? ⟨b, 6, none⟩ = some a6 := by simp [World.cell?, hc]
  have c7 : w.cell? ⟨b, 7, none⟩ = some a7 := by simp [World.cell?, hc]
  have c8 : w.cell? ⟨b, 8, none⟩ = some a8 := by simp [World.cell?, hc]
  simp [results, hr, ht, h3, go_sem, c0, c1, c2, c3, c4, c5, c6, c7, c8]
structure InsB (w : World) (b : Nat) (r : RI) : Prop where
  c : w.heap[b]? = some (.cells (riC r).toArray 152)
theorem InsB.cells {w : World} {b : Nat} {r : RI} (h : InsB w b r) : w.cell? ⟨b, 0, none⟩ = some (.string (bs r.i.op)) ∧ w.cell? ⟨b, 1, none⟩ = some (.int .i64 r.i.r) ∧ w.cell? ⟨b, 2, none⟩ = some (.bool r.i.aR) ∧ w.cell? ⟨b, 3, none⟩ = some (.int .i64 r.i.aN) ∧ w.cell? ⟨b, 4, none⟩ = some (.bool r.i.bR) ∧ w.cell? ⟨b, 5, none⟩ = some (.int .i64 r.i.bN) ∧ w.cell? ⟨b, 6, none⟩ = some (.int .i64 r.i.x) ∧ w.cell? ⟨b, 7, none⟩ = some (.int .i64 r.line) ∧ w.cell? ⟨b, 8, none⟩ = some (.string (bs r.word)) := by
  simp [World.cell?, h.c, riC]
theorem InsB.fz {w : World} {b : Nat} {r : RI} (h : InsB w b r) (i : Nat) : w.frozen? ⟨b, i, none⟩ = false := by simp [World.frozen?, h.c]
structure InsK (w : World) (wr : World) (r : RI) : Prop where
  low : Below w.heap.size w wr
  z : wr.heap[w.heap.size]? = some (.cells zeroRI.toArray 152)
  x : InsB wr (w.heap.size + 1) r
theorem InsK.set {w wr wr' : World} {r r' : RI} (h : InsK w wr r) (hx : InsB wr' (w.heap.size + 1) r') (ho : ∀ b, b < wr.heap.size → b ≠ w.heap.size + 1 → wr'.heap[b]? = wr.heap[b]?) (hs : wr.heap.size ≤ wr'.heap.size) (h1 : wr'.os = wr.os) (h2 : wr'.tape = wr.tape) (h3 : wr'.output = wr.output) : InsK w wr' r' := by
  have hl := h.low.size
  have hz : w.heap.size < wr.heap.size := (Array.getElem?_eq_some_iff.1 h.z).1
  exact ⟨⟨h1.trans h.low.os, h2.trans h.low.tape, h3.trans h.low.output, by omega, fun b hb => (ho b (by omega) (by omega)).trans (h.low.block b hb)⟩, (ho _ hz (by omega)).trans h.z, hx⟩
theorem InsK.below {w wr wr' : World} {r : RI} (h : InsK w wr r) (hb : Below wr.heap.size wr wr') : InsK w wr' r := by
  have hxl : w.heap.size + 1 < wr.heap.size := (Array.getElem?_eq_some_iff.1 h.x.c).1
  exact h.set ⟨(hb.block _ hxl).trans h.x.c⟩ (fun b hl _ => hb.block b hl) hb.size hb.os hb.tape hb.output
theorem nine {v : World} {b : Nat} {T : TypeId} {c0 c1 c2 c3 c4 c5 c6 c7 c8 : Value} (a0 a1 a2 a3 a4 a5 a6 a7 a8 : Value) (h : v.heap[b]? = some (.cells #[c0, c1, c2, c3, c4, c5, c6, c7, c8] T)) :
    (((((((((v.setCell ⟨b, 0, none⟩ a0).setCell ⟨b, 1, none⟩ a1).setCell ⟨b, 2, none⟩ a2).setCell ⟨b, 3, none⟩ a3).setCell ⟨b, 4, none⟩ a4).setCell ⟨b, 5, none⟩ a5).setCell ⟨b, 6, none⟩ a6).setCell ⟨b, 7, none⟩ a7).setCell ⟨b, 8, none⟩ a8).heap[b]? = some (.cells #[a0, a1, a2, a3, a4, a5, a6, a7, a8] T) := by
  have h0 := (heap_setCell_same _ b 0 _ _ a0 h).trans (show _ = some (.cells #[a0, c1, c2, c3, c4, c5, c6, c7, c8] T) from rfl)
  have h1 := (heap_setCell_same _ b 1 _ _ a1 h0).trans (show _ = some (.cells #[a0, a1, c2, c3, c4, c5, c6, c7, c8] T) from rfl)
  have h2 := (heap_setCell_same _ b 2 _ _ a2 h1).trans (show _ = some (.cells #[a0, a1, a2, c3, c4, c5, c6, c7, c8] T) from rfl)
  have h3 := (heap_setCell_same _ b 3 _ _ a3 h2).trans (show _ = some (.cells #[a0, a1, a2, a3, c4, c5, c6, c7, c8] T) from rfl)
  have h4 := (heap_setCell_same _ b 4 _ _ a4 h3).trans (show _ = some (.cells #[a0, a1, a2, a3, a4, c5, c6, c7, c8] T) from rfl)
  have h5 := (heap_setCell_same _ b 5 _ _ a5 h4).trans (show _ = some (.cells #[a0, a1, a2, a3, a4, a5, c6, c7, c8] T) from rfl)
  have h6 := (heap_setCell_same _ b 6 _ _ a6 h5).trans (show _ = some (.cells #[a0, a1, a2, a3, a4, a5, a6, c7, c8] T) from rfl)
  have h7 := (heap_setCell_same _ b 7 _ _ a7 h6).trans (show _ = some (.cells #[a0, a1, a2, a3, a4, a5, a6, a7, c8] T) from rfl)
  have h8 := (heap_setCell_same _ b 8 _ _ a8 h7).trans (show _ = some (.cells #[a0, a1, a2, a3, a4, a5, a6, a7, a8] T) from rfl)
  exact h8
theorem below_nine {B : Nat} {u v : World} {b : Nat} (a0 a1 a2 a3 a4 a5 a6 a7 a8 : Value) (h : Below B u v) (hb : B ≤ b) :
    Below B u (((((((((v.setCell ⟨b, 0, none⟩ a0).setCell ⟨b, 1, none⟩ a1).setCell ⟨b, 2, none⟩ a2).setCell ⟨b, 3, none⟩ a3).setCell ⟨b, 4, none⟩ a4).setCell ⟨b, 5, none⟩ a5).setCell ⟨b, 6, none⟩ a6).setCell ⟨b, 7, none⟩ a7).setCell ⟨b, 8, none⟩ a8) :=
  ((((((((h.setCell hb _).setCell hb _).setCell hb _).setCell hb _).setCell hb _).setCell hb _).setCell hb _).setCell hb _).setCell hb _
theorem InsK.zcells {w wr : World} {r : RI} (h : InsK w wr r) : wr.cell? ⟨w.heap.size, 0, none⟩ = some (.string ByteArray.empty) ∧ wr.cell? ⟨w.heap.size, 1, none⟩ = some (.int .i64 0) ∧ wr.cell? ⟨w.heap.size, 2, none⟩ = some (.bool false) ∧ wr.cell? ⟨w.heap.size, 3, none⟩ = some (.int .i64 0) ∧ wr.cell? ⟨w.heap.size, 4, none⟩ = some (.bool false) ∧ wr.cell? ⟨w.heap.size, 5, none⟩ = some (.int .i64 0) ∧ wr.cell? ⟨w.heap.size, 6, none⟩ = some (.int .i64 0) ∧ wr.cell? ⟨w.heap.size, 7, none⟩ = some (.int .i64 0) ∧ wr.cell? ⟨w.heap.size, 8, none⟩ = some (.string ByteArray.empty) := by
  simp [World.cell?, h.z, zeroRI]
theorem InsK.zfz {w wr : World} {r : RI} (h : InsK w wr r) (i : Nat) : wr.frozen? ⟨w.heap.size, i, none⟩ = false := by simp [World.frozen?, h.z]
theorem InsK.wr {w wr : World} {r r' : RI} {k : Nat} {v : Value} (h : InsK w wr r) (hx : (.cells ((riC r).toArray.set! k v) 152 : Obj) = .cells (riC r').toArray 152) : InsK w (wr.setCell ⟨w.heap.size + 1, k, none⟩ v) r' :=
  h.set ⟨(heap_setCell_same _ _ k _ _ _ h.x.c).trans (congrArg some hx)⟩ (fun b' _ hb => heap_setCell_other _ _ _ _ hb) (by simp) rfl rfl rfl
end Go.Proofs.YtlpdomgedaockaaGreatDoor
