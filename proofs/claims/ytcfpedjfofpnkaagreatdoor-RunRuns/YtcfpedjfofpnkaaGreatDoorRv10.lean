import Derived.Test.YtcfpedjfofpnkaaGreatDoorRv5
import Derived.Test.YtcfpedjfofpnkaaGreatDoorRv9
import Derived.Deep.RegionHeld3
set_option linter.unusedVariables false
set_option linter.unusedSimpArgs false
namespace Go.Proofs.YtcfpedjfofpnkaaGreatDoor
open Go.RowKit Go.Proofs.Cod
def DupAt (P : RP) (ts : List Tx) (i : Nat) : Prop := hasP P (ts.getD i []) = true ∨ ∃ j, j < i ∧ ts.getD j [] = ts.getD i []
def RP.puts (P : RP) (k : Int) (ts : List Tx) : RP := ts.foldl (fun P x => P.put k x) P
def kindW (f : Tx) : Int := if f = tVar then 118 else if f = tFlag then 102 else 109
theorem kindW_ok (f : Tx) : isN (kindW f) := by
 unfold kindW isN
 split
 ·simp
 ·split <;> simp
theorem Ws.tail {w : World} {b off : Nat} {f : Tx} {ts : List Tx} (h : Ws w (some ⟨b, off, none⟩) (f :: ts)) (i : Nat) (hi : i ≤ ts.length) : Ws w (some ⟨b, off + 1, none⟩) (ts.take i) := fun j hj => by
 rw [List.length_take] at hj
 obtain ⟨b', off', e1, e2, e3⟩ := h (j + 1) (by simp; omega)
 cases e1
 refine ⟨b, off + 1, rfl, e2, ?_⟩
 have e4 : (ts.take i).getD j [] = (f :: ts).getD (j + 1) [] := by
  rw [List.getD_eq_getElem?_getD, List.getElem?_take, if_pos (by omega), List.getD_eq_getElem?_getD, List.getElem?_cons_succ]
 rw [e4, show off + 1 + j = off + (j + 1) by omega]; exact e3
theorem puts_take {P : RP} {k : Int} {ts : List Tx} {i : Nat} (h : i < ts.length) : P.puts k (ts.take (i + 1)) = (P.puts k (ts.take i)).put k (ts.getD i []) := by
 unfold RP.puts
 rw [List.take_succ_eq_append_getElem h, List.foldl_append, List.getD_eq_getElem?_getD, List.getElem?_eq_getElem h]; rfl
theorem put_get {P : RP} {k : Int} (hk : isN k) (x : Tx) : (P.put k x).get k = P.get k ++ [x] := by
 rcases hk with rfl | rfl | rfl <;> simp [RP.put, RP.get]
theorem puts_get {k : Int} (hk : isN k) : ∀ (ts : List Tx) (P : RP), (P.puts k ts).get k = P.get k ++ ts
 | [], P => by simp [RP.puts]
 | x :: ts, P => by
  show ((P.put k x).puts k ts).get k = _
  rw [puts_get hk ts, put_get hk]; simp
theorem find_take {ts : List Tx} {i : Nat} (hi : i < ts.length) : 0 ≤ findZ (ts.take i) (ts.getD i []) ↔ ∃ j, j < i ∧ ts.getD j [] = ts.getD i [] := by
 have hl : (ts.take i).length = i := by rw [List.length_take]; omega
 have hg : ∀ j, j < i → (ts.take i).getD j [] = ts.getD j [] := fun j hj => by
  rw [List.getD_eq_getElem?_getD, List.getElem?_take, if_pos hj, List.getD_eq_getElem?_getD]
 constructor
 ·intro h
  by_cases hex : ∃ j, j < i ∧ ts.getD j [] = ts.getD i []
  ·exact hex
  ·rw [findZ_no (fun j hj => by rw [hg j (by omega)]; exact fun e => hex ⟨j, by omega, e⟩)] at h
   omega
 ·rintro ⟨j, hj, e⟩
  have hmin : ∃ k, k < i ∧ ts.getD k [] = ts.getD i [] ∧ ∀ m, m < k → ts.getD m [] ≠ ts.getD i [] := by
   induction j using Nat.strongRecOn with
   | ind j ih =>
    by_cases hm : ∃ m, m < j ∧ ts.getD m [] = ts.getD i []
    ·obtain ⟨m, hm1, hm2⟩ := hm
     exact ih m hm1 (by omega) hm2
    ·exact ⟨j, hj, e, fun m hm1 hm2 => hm ⟨m, hm1, hm2⟩⟩
  obtain ⟨k, hk, e1, e2⟩ := hmin
  rw [findZ_at (i := k) (by omega) (fun m hm => by rw [hg m (by omega)]; exact e2 m hm) (by rw [hg k hk]; exact e1)]
  omega
def ROut (w : World) (tag : Nat → RT) (base pb : Nat) (R : Int → RP → Prop) (en : Ending) (w' : World) : Prop :=
 ∃ e tag' P' U', en = .returned (.int .i64 e) ∧ RfW w' tag' base pb P' U' ∧ Ext w tag w' tag' ∧ R e P'
def RDecl (P : RP) (f : Tx) (ts : List Tx) (e : Int) (P' : RP) : Prop :=
 ((ts = [] ∨ ts.all isNam = false) ∧ e = 2) ∨ ((ts ≠ [] ∧ ts.all isNam = true) ∧ (((∃ i, i < ts.length ∧ DupAt P ts i) ∧ e = 3) ∨ ((∀ i, i < ts.length → ¬ DupAt P ts i) ∧ P' = P.puts (kindW f) ts ∧ ((4 < P'.vs.length ∨ 4 < P'.fs.length ∨ 4 < P'.ls.length) ∧ e = 4 ∨ (P'.vs.length ≤ 4 ∧ P'.fs.length ≤ 4 ∧ P'.ls.length ≤ 4) ∧ e = 0))))
theorem WsT.at {w : World} {tag : Nat → RT} {b off : Nat} {ws : List Tx} (h : WsT w tag (some ⟨b, off, none⟩) ws) {i : Nat} (hi : i < ws.length) : w.cell? ⟨b, off + i, none⟩ = some (.string (bs (ws.getD i []))) := by
 obtain ⟨b', off', e1, _, e3, _⟩ := h i hi
 cases e1; exact e3
theorem bs_eq (s t : Tx) : ((bs s).toList == t) = decide (s = t) := by
 rw [bs_toList]
 by_cases e : s = t <;> simp [e]
set_option maxRecDepth 100000 in
set_option maxHeartbeats 2000000 in
theorem rDeclare_any {w : World} {tag : Nat → RT} {base pb : Nat} {P : RP} {U : RV} (h : RfW w tag base pb P U) (b off n cap : Nat) (f : Tx) (ts : List Tx) (hn : ts.length + 1 = n) (hs : WsT w tag (some ⟨b, off, none⟩) (f :: ts)) (hcap : n ≤ cap) (hb : P.thr.length < 1000) (hl : ∀ k, (P.get k).length ≤ 4) (hnb : n < 4000) :
 Calls Tryz.prog 84 #[ptrV pb, .slice (some ⟨b, off, none⟩) n cap] w (ROut w tag base pb (RDecl P f ts)) := by
 have HX := hide (Ext.refl w tag)
 have H := hide h
 have hsO := hide hs
 have hnO := hide hn
 unfold ptrV
 go_enter Tryz.func84, Tryz.ntmps84
 clear h hs hn
 go_wp2_with fail
 go_loopw [5] (fun iv wr => ∃ i : Nat, 1 ≤ i ∧ i ≤ n ∧ iv = .int .i64 i ∧ (ts.take (i - 1)).all isNam = true ∧ wr = w) (fun iv _ => n - (intOf iv).toNat)
 case atStart => exact ⟨1, by omega, by have := hnO.out; omega, rfl, by simp, rfl⟩
 case round =>
  obtain ⟨i, hi1, hi, rfl, hall, rfl⟩ := hrel
  by_cases h5 : i < n
  ·have hlt : (i : Int) < (n : Int) := by omega
   obtain ⟨m, rfl⟩ : ∃ m, i = m + 1 := ⟨i - 1, by omega⟩
   have hml : m < ts.length := by have := hnO.out; omega
   have c0 := hsO.out.at (i := m + 1) (by simp; omega)
   have hgd : (f :: ts).getD (m + 1) [] = ts.getD m [] := by simp
   rw [hgd] at c0
   have HA := hide (⟨allT_take (p := isNam) hml, allT_no (p := isNam) hml, hall⟩ : _ ∧ _ ∧ _)
   generalize ts.getD m [] = t at c0 HA
   clear hall hgd
   go_wp2_with fail
   refine (rIsName_any t _).mono ?_
   rintro e w2 ⟨rfl, rfl⟩
   cases hd : isNam t with
   | true =>
    go_wp2_with fail
    go_roundw
    case rel => exact ⟨m + 1 + 1, by omega, by omega, by go_num, by show (ts.take (m + 1)).all isNam = true; rw [HA.out.1, hd]; have := HA.out.2.2; simp only [Nat.add_sub_cancel] at this; rw [this]; rfl, by trivial⟩
    case measure => simp [intOf]; omega
   | false =>
    go_wp2_with fail
    go_ret
    exact ⟨2, tag, P, U, rfl, H.out, HX.out, .inl ⟨.inr (HA.out.2.1 hd), rfl⟩⟩
  ·have hin : i = n := by omega
   subst hin
   have hall' : Hid (ts.all isNam = true) := by
    rw [List.take_of_length_le (by have := hnO.out; omega)] at hall; exact hall
   clear hall
   by_cases h1 : i = 1
   ·subst h1
    have ht : Hid (ts = []) := List.eq_nil_of_length_eq_zero (by have := hnO.out; omega)
    go_wp2_with fail
    go_ret
    exact ⟨2, tag, P, U, rfl, H.out, HX.out, .inl ⟨.inl ht.out, rfl⟩⟩
   ·have h1' : ((i : Int) == 1) = false := by simp; omega
    have hne : Hid (ts ≠ []) := fun e => h1 (by have := hnO.out; rw [e] at this; simp at this; omega)
    have hi2 : 2 ≤ i := by omega
    rename World => w0
    go_wp2_with fail
    go_loopw [7] (fun iv wr => ∃ k : Nat, 1 ≤ k ∧ k ≤ i ∧ iv = .int .i64 k ∧ (∀ m, m + 1 < k → ¬ DupAt P ts m) ∧ Below w0.heap.size w0 wr) (fun iv _ => i - (intOf iv).toNat)
    case atStart => exact ⟨1, by omega, by omega, rfl, fun m hm => by omega, Below.refl _ _⟩
    case round =>
     obtain ⟨k, hk1, hk, rfl, hdup, hB⟩ := hrel
     have hW := H.out.below hB
     have hX : Ext w0 tag wr tag := .of_below hB
     have hS := hsO.out.ext hX
     by_cases h6 : k < i
     ·have hlt : (k : Int) < (i : Int) := by omega
      obtain ⟨m, rfl⟩ : ∃ m, k = m + 1 := ⟨k - 1, by omega⟩
      have hml : m < ts.length := by have := hnO.out; omega
      have c0 := hS.at (i := m + 1) (by simp; omega)
      have hgd : (f :: ts).getD (m + 1) [] = ts.getD m [] := by simp
      rw [hgd] at c0
      have hd : Ext wr tag wr.drew tag := ⟨rfl, rfl, rfl, Nat.le_refl _, fun _ _ => rfl, fun _ _ _ => rfl⟩
      have hWd := RfW.keep (w' := wr.drew) hW (fun _ _ => rfl) hd
      have hH := rHas_any hWd (ts.getD m []) (by omega) (fun k => by have := hl k; omega)
      have hF := rFind_any (some ⟨b, off + 1, none⟩) m (cap - 1) (ts.take m) (ts.getD m []) wr.drew (by rw [List.length_take]; omega) (Ws.tail (WsT.ext (w' := wr.drew) hS hd).ws m (by omega)) (by omega)
      have hft := find_take hml
      have hDA : Hid (DupAt P ts m ↔ (hasP P (ts.getD m []) = true ∨ 0 ≤ findZ (ts.take m) (ts.getD m []))) := by
       unfold Hid DupAt; rw [hft]
      unfold ptrV at hH
      generalize findZ (ts.take m) (ts.getD m []) = z at hF hDA
      have HE := hide (⟨hW, hX, hdup, hB⟩ : _ ∧ _ ∧ _ ∧ _)
      have hcap1 : ¬ (cap = 1) := by omega
      have hm0 : (0 : Int) ≤ (m : Int) + 1 := by omega
      have hm1 : (1 : Int) ≤ (m : Int) + 1 := by omega
      have hm2 : (m : Int) + 1 ≤ (cap : Int) := by omega
      generalize hxe : ts.getD m [] = x at c0 hH hDA hF
      replace hxe := hide hxe
      clear hW hX hS hgd hft hWd hdup hB hd
      cases hhas : hasP P x with
      | true =>
       rw [hhas] at hH
       have hDup : Hid (DupAt P ts m) := hDA.out.2 (.inl hhas)
       go_wp2_with fail
       refine wp_region_held_drew (S := (fun w' => w'.cell? ⟨b, off + (m + 1), none⟩ = some (.string (bs x)))) (by kernel_rfl) c0 (fun hHeld => ?_)
       refine tk 0 hHeld ?_
       refine tk 1 hHeld ?_
       refine tk 2 hHeld ?_
       refine tk 3 hHeld ?_
       refine tk 4 hHeld ?_
       refine rd 5 (fun K hK => ?_)
       go_simp
       go_at_call 86
       refine hH.mono ?_
       rintro e w5 ⟨rfl, rfl⟩
       go_wp2_with fail
       refine hK.out _ _ c0 (fun hHeld => ?_)
       clear hK K
       try simp only [Act.put, sq]
       refine tk 6 hHeld ?_
       refine tn 7 hHeld ?_
       refine tn 8 hHeld ?_
       refine tn 9 hHeld ?_
       refine tn 10 hHeld ?_
       refine tn 11 hHeld ?_
       refine tn 12 hHeld ?_
       refine tn 13 hHeld ?_
       refine tn 14 hHeld ?_
       refine tn 15 hHeld ?_
       refine tk 16 hHeld ?_
       refine wpAnyH_done (by kernel_rfl) ?_ _
       clear hHeld
       go_wp2_with fail
       go_ret
       obtain ⟨hW, hX, hdup, hB⟩ := HE.out
       exact ⟨3, tag, P, U, rfl, RfW.keep (w' := wr.drew) hW (fun _ _ => rfl) ⟨rfl, rfl, rfl, Nat.le_refl _, fun _ _ => rfl, fun _ _ _ => rfl⟩, hX.trans ⟨rfl, rfl, rfl, Nat.le_refl _, fun _ _ => rfl, fun _ _ _ => rfl⟩, .inr ⟨⟨hne.out, hall'.out⟩, .inl ⟨⟨m, hml, hDup.out⟩, rfl⟩⟩⟩
      | false =>
       rw [hhas] at hH
       go_wp2_with fail
       refine wp_region_held_drew (S := (fun w' => w'.cell? ⟨b, off + (m + 1), none⟩ = some (.string (bs x)))) (by kernel_rfl) c0 (fun hHeld => ?_)
       refine tk 0 hHeld ?_
       refine tk 1 hHeld ?_
       refine tk 2 hHeld ?_
       refine tk 3 hHeld ?_
       refine tk 4 hHeld ?_
       refine rd 5 (fun K hK => ?_)
       go_simp
       go_at_call 86
       refine hH.mono ?_
       rintro e w5 ⟨rfl, rfl⟩
       go_wp2_with fail
       refine hK.out _ _ c0 (fun hHeld => ?_)
       clear hK K
       try simp only [Act.put, sq]
       refine tk 6 hHeld ?_
       refine tk 7 hHeld ?_
       refine tk 8 hHeld ?_
       refine tk 9 hHeld ?_
       refine tk 10 hHeld ?_
       refine tk 11 hHeld ?_
       refine tk 12 hHeld ?_
       refine tk 13 hHeld ?_
       refine rd 14 (fun K hK => ?_)
       go_simp
       go_at_call 101
       refine hF.mono ?_
       rintro e w6 ⟨rfl, rfl⟩
       go_wp2_with fail
       refine hK.out _ _ c0 (fun hHeld => ?_)
       clear hK K
       try simp only [Act.put, sq]
       refine tk 15 hHeld ?_
       refine tk 16 hHeld ?_
       refine wpAnyH_done (by kernel_rfl) ?_ _
       clear hHeld
       by_cases hz : 0 ≤ z
       ·have hz' : decide (0 ≤ z) = true := decide_eq_true hz
        have hDup : Hid (DupAt P ts m) := hDA.out.2 (.inr hz)
        go_wp2_with fail
        go_ret
        obtain ⟨hW, hX, hdup, hB⟩ := HE.out
        exact ⟨3, tag, P, U, rfl, RfW.keep (w' := wr.drew) hW (fun _ _ => rfl) ⟨rfl, rfl, rfl, Nat.le_refl _, fun _ _ => rfl, fun _ _ _ => rfl⟩, hX.trans ⟨rfl, rfl, rfl, Nat.le_refl _, fun _ _ => rfl, fun _ _ _ => rfl⟩, .inr ⟨⟨hne.out, hall'.out⟩, .inl ⟨⟨m, hml, hDup.out⟩, rfl⟩⟩⟩
       ·have hz' : decide (0 ≤ z) = false := decide_eq_false hz
        have hND : Hid (¬ DupAt P ts m) := fun hD => by
         rcases hDA.out.1 hD with e | e
         ·rw [hhas] at e; cases e
         ·exact hz e
        go_wp2_with fail
        go_roundw
        case rel =>
         obtain ⟨hW, hX, hdup, hB⟩ := HE.out
         refine ⟨m + 1 + 1, by omega, by omega, by go_num, fun m' hm' => ?_, hB.trans ⟨rfl, rfl, rfl, Nat.le_refl _, fun _ _ => rfl⟩⟩
         by_cases e : m' = m
         ·subst e; exact hND.out
         ·exact hdup m' (by omega)
        case measure => simp [intOf]; omega
     ·have hki : k = i := by omega
      subst hki
      have hdup' : Hid (∀ m, m < ts.length → ¬ DupAt P ts m) := fun m hm => hdup m (by have := hnO.out; omega)
      have HE := hide (⟨hW, hX⟩ : _ ∧ _)
      clear hW hX hS hdup hB
      rename World => w1
      go_wp2_with fail
      go_loopw [8] (fun iv wr => ∃ (q : Nat) (tr : Nat → RT) (Ur : RV), 1 ≤ q ∧ q ≤ k ∧ iv = .int .i64 q ∧ RfW wr tr base pb (P.puts (kindW f) (ts.take (q - 1))) Ur ∧ Ext w0 tag wr tr) (fun iv _ => k - (intOf iv).toNat)
      case atStart => exact ⟨1, tag, U, by omega, by omega, rfl, by simpa [RP.puts] using HE.out.1, HE.out.2⟩
      case round =>
       clear HE
       obtain ⟨q, tr, Ur, hq1, hq, rfl, hR, hxr⟩ := hrel
       by_cases h7 : q < k
       ·have hlt : (q : Int) < (k : Int) := by omega
        obtain ⟨m, rfl⟩ : ∃ m, q = m + 1 := ⟨q - 1, by omega⟩
        have hml : m < ts.length := by have := hnO.out; omega
        have hS := hsO.out.ext hxr
        have c0 := hS.at (i := m + 1) (by simp; omega)
        have cf := hS.at (i := 0) (by simp)
        have hgd : (f :: ts).getD (m + 1) [] = ts.getD m [] := by simp
        rw [hgd] at c0
        have cf : wr.cell? ⟨b, off, none⟩ = some (.string (bs f)) := cf
        simp only [Nat.add_sub_cancel] at hR
        have hm0 : (0 : Int) ≤ (m : Int) + 1 := by omega
        have hk0 : (0 : Int) < (k : Int) := by omega
        have b1 := bs_eq f [118, 97, 114]
        have b2 := bs_eq f [102, 108, 97, 103]
        have hpl := hR.lt hR.tp (by simp)
        have hbl : b < wr.heap.size := by obtain ⟨b', o', e1, e2, _⟩ := hS 0 (by simp); cases e1; exact e2
        have hgl : ∀ KK, isN KK → ((P.puts KK (ts.take m)).get KK).length < 1048576 := fun KK hK => by
         rw [puts_get hK, List.length_append, List.length_take]; have := hl KK; omega
        have hd : Ext wr tr wr.drew tr := ⟨rfl, rfl, rfl, Nat.le_refl _, fun _ _ => rfl, fun _ _ _ => rfl⟩
        have hRd := RfW.keep (w' := wr.drew) hR (fun _ _ => rfl) hd
        generalize hxe : ts.getD m [] = x at c0
        replace hxe := hide hxe
        by_cases f1 : f = tVar
        ·have hkd : kindW f = 118 := by unfold kindW; rw [if_pos f1]
         rw [hkd] at hR hRd
         rw [show decide (f = [118, 97, 114]) = true from decide_eq_true f1] at b1
         obtain ⟨g, cap', w3, hrun, cV3, fV3, tag3, hR3, hX3⟩ := hRd.name (k := 118) (.inl rfl) x (hgl 118 (.inl rfl))
         have cV := hR.rowC (k := 118) (.inl rfl)
         obtain ⟨va, vc, hVV, _⟩ := row_ws (hR.rows 118 (.inl rfl))
         have HN := hide (⟨hR3, hX3, hxr.trans hd, hkd⟩ : _ ∧ _ ∧ _ ∧ _)
         clear hR hRd hR3 hX3 hS hgd hd hgl hxr hkd f1
         have hrun : (Builtin.append_ #[23, 23] 23 #[Ur.V 118, .slice (some ⟨wr.heap.size, 0, none⟩) 1 1]).run Tryz.prog (wr.alloc (.cells #[.string (bs x)] 9)).drew = .ok (.slice (some ⟨g, 0, none⟩) (((P.puts 118 (ts.take m)).get 118).length + 1) cap') w3 := hrun
         rw [hVV] at hrun cV cV3
         have cV : wr.cell? ⟨pb, 0, none⟩ = some (.slice va ((P.puts 118 (ts.take m)).get 118).length vc) := cV
         have cV3 : w3.cell? ⟨pb, 0, none⟩ = some (.slice va ((P.puts 118 (ts.take m)).get 118).length vc) := cV3
         have fV3 : w3.frozen? ⟨pb, 0, none⟩ = false := fV3
         replace hVV := hide hVV
         go_wp2_with fail
         go_region_law (refine step_append_run rfl _ _ _ rfl rfl rfl rfl hrun ?_)
         all_goals
          go_wp2_with fail
          go_roundw
          case rel =>
           obtain ⟨hR3, hX3, hxr, hkd⟩ := HN.out
           have e : P.puts (kindW f) (ts.take (m + 1)) = (P.puts (kindW f) (ts.take m)).put (kindW f) x := by rw [puts_take hml, hxe.out]
           refine ⟨m + 1 + 1, tag3, { Ur with V := putZ Ur.V (kindW f) (.slice (some ⟨g, 0, none⟩) (((P.puts (kindW f) (ts.take m)).get (kindW f)).length + 1) cap') }, by omega, by omega, by go_num, ?_, hxr.trans hX3⟩
           show RfW _ _ _ _ (P.puts (kindW f) (ts.take (m + 1))) _
           rw [e, hkd]
           exact hR3
          case measure => simp [intOf]; omega
        ·rw [show decide (f = [118, 97, 114]) = false from decide_eq_false f1] at b1
         by_cases f2 : f = tFlag
         ·have hkd : kindW f = 102 := by unfold kindW; rw [if_neg f1, if_pos f2]
          rw [hkd] at hR hRd
          rw [show decide (f = [102, 108, 97, 103]) = true from decide_eq_true f2] at b2
          obtain ⟨g, cap', w3, hrun, cV3, fV3, tag3, hR3, hX3⟩ := hRd.name (k := 102) (.inr (.inl rfl)) x (hgl 102 (.inr (.inl rfl)))
          have cV := hR.rowC (k := 102) (.inr (.inl rfl))
          obtain ⟨va, vc, hVV, _⟩ := row_ws (hR.rows 102 (.inr (.inl rfl)))
          have HN := hide (⟨hR3, hX3, hxr.trans hd, hkd⟩ : _ ∧ _ ∧ _ ∧ _)
          clear hR hRd hR3 hX3 hS hgd hd hgl hxr hkd f1 f2
          have hrun : (Builtin.append_ #[23, 23] 23 #[Ur.V 102, .slice (some ⟨wr.heap.size, 0, none⟩) 1 1]).run Tryz.prog (wr.alloc (.cells #[.string (bs x)] 9)).drew = .ok (.slice (some ⟨g, 0, none⟩) (((P.puts 102 (ts.take m)).get 102).length + 1) cap') w3 := hrun
          rw [hVV] at hrun cV cV3
          have cV : wr.cell? ⟨pb, 1, none⟩ = some (.slice va ((P.puts 102 (ts.take m)).get 102).length vc) := cV
          have cV3 : w3.cell? ⟨pb, 1, none⟩ = some (.slice va ((P.puts 102 (ts.take m)).get 102).length vc) := cV3
          have fV3 : w3.frozen? ⟨pb, 1, none⟩ = false := fV3
          replace hVV := hide hVV
          go_wp2_with fail
          go_region_law (refine step_append_run rfl _ _ _ rfl rfl rfl rfl hrun ?_)
          all_goals
           go_wp2_with fail
           go_roundw
           case rel =>
            obtain ⟨hR3, hX3, hxr, hkd⟩ := HN.out
            have e : P.puts (kindW f) (ts.take (m + 1)) = (P.puts (kindW f) (ts.take m)).put (kindW f) x := by rw [puts_take hml, hxe.out]
            refine ⟨m + 1 + 1, tag3, { Ur with V := putZ Ur.V (kindW f) (.slice (some ⟨g, 0, none⟩) (((P.puts (kindW f) (ts.take m)).get (kindW f)).length + 1) cap') }, by omega, by omega, by go_num, ?_, hxr.trans hX3⟩
            show RfW _ _ _ _ (P.puts (kindW f) (ts.take (m + 1))) _
            rw [e, hkd]
            exact hR3
           case measure => simp [intOf]; omega
         ·have hkd : kindW f = 109 := by unfold kindW; rw [if_neg f1, if_neg f2]
          rw [hkd] at hR hRd
          rw [show decide (f = [102, 108, 97, 103]) = false from decide_eq_false f2] at b2
          obtain ⟨g, cap', w3, hrun, cV3, fV3, tag3, hR3, hX3⟩ := hRd.name (k := 109) (.inr (.inr rfl)) x (hgl 109 (.inr (.inr rfl)))
          have cV := hR.rowC (k := 109) (.inr (.inr rfl))
          obtain ⟨va, vc, hVV, _⟩ := row_ws (hR.rows 109 (.inr (.inr rfl)))
          have HN := hide (⟨hR3, hX3, hxr.trans hd, hkd⟩ : _ ∧ _ ∧ _ ∧ _)
          clear hR hRd hR3 hX3 hS hgd hd hgl hxr hkd f1 f2
          have hrun : (Builtin.append_ #[23, 23] 23 #[Ur.V 109, .slice (some ⟨wr.heap.size, 0, none⟩) 1 1]).run Tryz.prog (wr.alloc (.cells #[.string (bs x)] 9)).drew = .ok (.slice (some ⟨g, 0, none⟩) (((P.puts 109 (ts.take m)).get 109).length + 1) cap') w3 := hrun
          rw [hVV] at hrun cV cV3
          have cV : wr.cell? ⟨pb, 2, none⟩ = some (.slice va ((P.puts 109 (ts.take m)).get 109).length vc) := cV
          have cV3 : w3.cell? ⟨pb, 2, none⟩ = some (.slice va ((P.puts 109 (ts.take m)).get 109).length vc) := cV3
          have fV3 : w3.frozen? ⟨pb, 2, none⟩ = false := fV3
          replace hVV := hide hVV
          go_wp2_with fail
          go_region_law (refine step_append_run rfl _ _ _ rfl rfl rfl rfl hrun ?_)
          all_goals
           go_wp2_with fail
           go_roundw
           case rel =>
            obtain ⟨hR3, hX3, hxr, hkd⟩ := HN.out
            have e : P.puts (kindW f) (ts.take (m + 1)) = (P.puts (kindW f) (ts.take m)).put (kindW f) x := by rw [puts_take hml, hxe.out]
            refine ⟨m + 1 + 1, tag3, { Ur with V := putZ Ur.V (kindW f) (.slice (some ⟨g, 0, none⟩) (((P.puts (kindW f) (ts.take m)).get (kindW f)).length + 1) cap') }, by omega, by omega, by go_num, ?_, hxr.trans hX3⟩
            show RfW _ _ _ _ (P.puts (kindW f) (ts.take (m + 1))) _
            rw [e, hkd]
            exact hR3
           case measure => simp [intOf]; omega
       ·have hqk : q = k := by omega
        subst hqk
        have hts : ts.take (q - 1) = ts := List.take_of_length_le (by have := hnO.out; omega)
        rw [hts] at hR
        have cV0 := hR.rowC (k := 118) (.inl rfl)
        have cV1 := hR.rowC (k := 102) (.inr (.inl rfl))
        have cV2 := hR.rowC (k := 109) (.inr (.inr rfl))
        obtain ⟨a0, d0, e0, _⟩ := row_ws (hR.rows 118 (.inl rfl))
        obtain ⟨a1, d1, e1, _⟩ := row_ws (hR.rows 102 (.inr (.inl rfl)))
        obtain ⟨a2, d2, e2, _⟩ := row_ws (hR.rows 109 (.inr (.inr rfl)))
        rw [e0] at cV0
        rw [e1] at cV1
        rw [e2] at cV2
        have cV0 : wr.cell? ⟨pb, 0, none⟩ = some (.slice a0 (P.puts (kindW f) ts).vs.length d0) := cV0
        have cV1 : wr.cell? ⟨pb, 1, none⟩ = some (.slice a1 (P.puts (kindW f) ts).fs.length d1) := cV1
        have cV2 : wr.cell? ⟨pb, 2, none⟩ = some (.slice a2 (P.puts (kindW f) ts).ls.length d2) := cV2
        have HN := hide (⟨hR, hxr⟩ : _ ∧ _)
        generalize hPe : P.puts (kindW f) ts = P' at *
        replace hPe := hide hPe
        clear hR hxr e0 e1 e2 hts
        by_cases k0 : 4 < P'.vs.length
        ·have k0' : (4 : Int) < (P'.vs.length : Int) := by omega
         go_wp2_with fail
         go_ret
         exact ⟨4, tr, P', Ur, rfl, HN.out.1, HN.out.2, .inr ⟨⟨hne.out, hall'.out⟩, .inr ⟨hdup'.out, hPe.out.symm, .inl ⟨.inl k0, rfl⟩⟩⟩⟩
        ·have k0' : ¬ (4 : Int) < (P'.vs.length : Int) := by omega
         by_cases k1 : 4 < P'.fs.length
         ·have k1' : (4 : Int) < (P'.fs.length : Int) := by omega
          go_wp2_with fail
          go_ret
          exact ⟨4, tr, P', Ur, rfl, HN.out.1, HN.out.2, .inr ⟨⟨hne.out, hall'.out⟩, .inr ⟨hdup'.out, hPe.out.symm, .inl ⟨.inr (.inl k1), rfl⟩⟩⟩⟩
         ·have k1' : ¬ (4 : Int) < (P'.fs.length : Int) := by omega
          by_cases k2 : 4 < P'.ls.length
          ·have k2' : (4 : Int) < (P'.ls.length : Int) := by omega
           go_wp2_with fail
           go_ret
           exact ⟨4, tr, P', Ur, rfl, HN.out.1, HN.out.2, .inr ⟨⟨hne.out, hall'.out⟩, .inr ⟨hdup'.out, hPe.out.symm, .inl ⟨.inr (.inr k2), rfl⟩⟩⟩⟩
          ·have k2' : ¬ (4 : Int) < (P'.ls.length : Int) := by omega
           go_wp2_with fail
           go_ret
           exact ⟨0, tr, P', Ur, rfl, HN.out.1, HN.out.2, .inr ⟨⟨hne.out, hall'.out⟩, .inr ⟨hdup'.out, hPe.out.symm, .inr ⟨⟨by omega, by omega, by omega⟩, rfl⟩⟩⟩⟩
def isDeclW (f : Tx) : Bool := f == [118, 97, 114] || f == [102, 108, 97, 103] || f == [108, 111, 99, 107]
def RThread (P : RP) (ts : List Tx) (e : Int) (P' : RP) : Prop :=
 ((ts.length ≠ 1 ∨ isNam (ts.getD 0 []) = false) ∧ e = 2) ∨ ((ts.length = 1 ∧ isNam (ts.getD 0 []) = true) ∧ ((hasP P (ts.getD 0 []) = true ∧ e = 3) ∨ (hasP P (ts.getD 0 []) = false ∧ ((P.thr.length = 4 ∧ e = 4) ∨ (P.thr.length ≠ 4 ∧ e = 0 ∧ P' = { P with thr := P.thr ++ [⟨ts.getD 0 [], [], []⟩] })))))
set_option maxRecDepth 100000 in
set_option maxHeartbeats 2000000 in
theorem rLine_decl {w : World} {tag : Nat → RT} {base pb : Nat} {P : RP} {U : RV} (h : RfW w tag base pb P U) (b off n cap : Nat) (f : Tx) (ts : List Tx) (hn : ts.length + 1 = n) (hs : WsT w tag (some ⟨b, off, none⟩) (f :: ts)) (hcap : n ≤ cap) (hb : P.thr.length = 0) (hl : ∀ k, (P.get k).length ≤ 4) (hnb : n < 4000) (line : Int) (hf : isDeclW f = true) :
 Calls Tryz.prog 47 #[ptrV pb, .slice (some ⟨b, off, none⟩) n cap, .int .i64 line] w (ROut w tag base pb (RDecl P f ts)) := by
 have hD := rDeclare_any h b off n cap f ts hn hs hcap (by omega) hl hnb
 have c3 := h.thrV
 obtain ⟨ta, tcap, hV⟩ := owns_len h.trow
 rw [hV, hb] at c3
 have cf := hs.at (i := 0) (by simp)
 have cf : w.cell? ⟨b, off, none⟩ = some (.string (bs f)) := cf
 have hn0 : (0 : Int) < (n : Int) := by omega
 have b1 := bs_eq f [118, 97, 114]
 have b2 := bs_eq f [102, 108, 97, 103]
 have b3 := bs_eq f [108, 111, 99, 107]
 unfold ptrV at hD ⊢
 clear h hs hV hn hcap hb hl hnb
 go_enter Tryz.func47, Tryz.ntmps47
 by_cases f1 : f = [118, 97, 114]
 ·rw [decide_eq_true f1] at b1
  clear hf b2 b3
  replace f1 := hide f1
  go_wp2_with fail
  refine hD.mono ?_
  rintro e w2 ⟨er, tag', P', U', rfl, hW, hX, hR⟩
  have HE := hide (⟨hW, hX, hR⟩ : _ ∧ _ ∧ _)
  clear hW hX hR
  go_wp2_with fail
  go_ret
  exact ⟨er, tag', P', U', rfl, HE.out.1, HE.out.2.1, HE.out.2.2⟩
 ·rw [decide_eq_false f1] at b1
  by_cases f2 : f = [102, 108, 97, 103]
  ·rw [decide_eq_true f2] at b2
   clear hf b3
   replace f1 := hide f1
   replace f2 := hide f2
   go_wp2_with fail
   refine hD.mono ?_
   rintro e w2 ⟨er, tag', P', U', rfl, hW, hX, hR⟩
   have HE := hide (⟨hW, hX, hR⟩ : _ ∧ _ ∧ _)
   clear hW hX hR
   go_wp2_with fail
   go_ret
   exact ⟨er, tag', P', U', rfl, HE.out.1, HE.out.2.1, HE.out.2.2⟩
  ·rw [decide_eq_false f2] at b2
   have f3 : f = [108, 111, 99, 107] := by simpa [isDeclW, f1, f2] using hf
   rw [decide_eq_true f3] at b3
   clear hf
   replace f1 := hide f1
   replace f2 := hide f2
   replace f3 := hide f3
   go_wp2_with fail
   refine hD.mono ?_
   rintro e w2 ⟨er, tag', P', U', rfl, hW, hX, hR⟩
   have HE := hide (⟨hW, hX, hR⟩ : _ ∧ _ ∧ _)
   clear hW hX hR
   go_wp2_with fail
   go_ret
   exact ⟨er, tag', P', U', rfl, HE.out.1, HE.out.2.1, HE.out.2.2⟩
theorem notDecl {f : Tx} (hf : isDeclW f = false) : f ≠ [118, 97, 114] ∧ f ≠ [102, 108, 97, 103] ∧ f ≠ [108, 111, 99, 107] := by
 refine ⟨?_, ?_, ?_⟩ <;> rintro rfl <;> cases hf
set_option maxRecDepth 100000 in
set_option maxHeartbeats 2000000 in
theorem rLine_thread {w : World} {tag : Nat → RT} {base pb : Nat} {P : RP} {U : RV} (h : RfW w tag base pb P U) (b off n cap : Nat) (f : Tx) (ts : List Tx) (hn : ts.length + 1 = n) (hs : WsT w tag (some ⟨b, off, none⟩) (f :: ts)) (hb : P.thr.length < 1000) (hl : ∀ k, (P.get k).length ≤ 4) (hnb : n < 4000) (line : Int) (hf : f = [116, 104, 114, 101, 97, 100]) :
 Calls Tryz.prog 47 #[ptrV pb, .slice (some ⟨b, off, none⟩) n cap, .int .i64 line] w (ROut w tag base pb (RThread P ts)) := by
 have c3 := h.thrV
 obtain ⟨ta, tcap, hV⟩ := owns_len h.trow
 rw [hV] at c3
 have cf := hs.at (i := 0) (by simp)
 have cf : w.cell? ⟨b, off, none⟩ = some (.string (bs f)) := cf
 have hn0 : (0 : Int) < (n : Int) := by omega
 have b1 : ((bs f).toList == [118, 97, 114]) = false := by rw [bs_toList, hf]; rfl
 have b2 : ((bs f).toList == [102, 108, 97, 103]) = false := by rw [bs_toList, hf]; rfl
 have b3 : ((bs f).toList == [108, 111, 99, 107]) = false := by rw [bs_toList, hf]; rfl
 have b4 : ((bs f).toList == [116, 104, 114, 101, 97, 100]) = true := by rw [bs_toList, hf]; rfl
 have HX := hide (Ext.refl w tag)
 have H := hide h
 have hd : Ext w tag w.drew tag := ⟨rfl, rfl, rfl, Nat.le_refl _, fun _ _ => rfl, fun _ _ _ => rfl⟩
 have hRd := RfW.keep (w' := w.drew) h (fun _ _ => rfl) hd
 have hpl := h.lt h.tp (by simp)
 have hbl : b < w.heap.size := by obtain ⟨b', o', e1, e2, _⟩ := hs 0 (by simp); cases e1; exact e2
 unfold ptrV
 by_cases h1 : ts.length = 1
 ·have hn1 : (1 : Int) < (n : Int) := by omega
  have hne : ((n : Int) != 2) = false := by simp; omega
  have c1 := hs.at (i := 1) (by simp; omega)
  have hgd : (f :: ts).getD 1 [] = ts.getD 0 [] := by simp
  rw [hgd] at c1
  have hN := fun u => rIsName_any (ts.getD 0 []) u
  have hH := rHas_any h (ts.getD 0 []) (by omega) (fun k => by have := hl k; omega)
  unfold ptrV at hH
  obtain ⟨g, cap', w3, hrun, cV3, fV3, tag3, hR3, hX3⟩ := hRd.thread (ts.getD 0 []) (by omega)
  rw [hV] at hrun cV3
  have hrun : (Builtin.append_ #[27, 27] 27 #[.slice ta P.thr.length tcap, .slice (some ⟨w.heap.size, 0, none⟩) 1 1]).run Tryz.prog (w.alloc (.cells #[.string (bs (ts.getD 0 [])), .slice none 0 0, .slice none 0 0] 111)).drew = .ok (.slice (some ⟨g, 0, none⟩) (P.thr.length + 1) cap') w3 := hrun
  have HN := hide (⟨hR3, hd.trans hX3⟩ : _ ∧ _)
  replace h1 := hide h1
  have hx0 : Hid (∀ e P', RThread P ts e P' ↔ RThread P ts e P') := fun _ _ => Iff.rfl
  clear h hs hV hn hRd hR3 hX3 hd hgd hl hnb hf
  generalize hxe : ts.getD 0 [] = x at c1 hN hH hrun
  replace hxe := hide hxe
  cases hnm : isNam x with
  | false =>
   rw [hnm] at hN
   go_enter Tryz.func47, Tryz.ntmps47
   cases hg0 : decide (0 < P.thr.length)
   all_goals
    go_wp2_with fail
    refine (hN _).mono ?_
    rintro e w2 ⟨rfl, rfl⟩
    go_wp2_with fail
    go_ret
    exact ⟨2, tag, P, U, rfl, H.out, HX.out, .inl ⟨.inr (by rw [hxe.out]; exact hnm), rfl⟩⟩
  | true =>
   rw [hnm] at hN
   go_enter Tryz.func47, Tryz.ntmps47
   cases hh : hasP P x with
   | true =>
    rw [hh] at hH
    replace hh := hide hh
    cases hg0 : decide (0 < P.thr.length)
    all_goals
     go_wp2_with fail
     refine (hN _).mono ?_
     rintro e w2 ⟨rfl, rfl⟩
     go_wp2_with fail
     refine hH.mono ?_
     rintro e w2 ⟨rfl, rfl⟩
     go_wp2_with fail
     go_ret
     exact ⟨3, tag, P, U, rfl, H.out, HX.out, .inr ⟨⟨h1.out, by rw [hxe.out]; exact hnm⟩, .inl ⟨by rw [hxe.out]; exact hh.out, rfl⟩⟩⟩
   | false =>
    rw [hh] at hH
    replace hh := hide hh
    by_cases h4 : P.thr.length = 4
    ·have h4' : ((P.thr.length : Int) == 4) = true := by simp; omega
     have hg0 : decide (0 < P.thr.length) = true := by simp; omega
     replace h4 := hide h4
     go_wp2_with fail
     refine (hN _).mono ?_
     rintro e w2 ⟨rfl, rfl⟩
     go_wp2_with fail
     refine hH.mono ?_
     rintro e w2 ⟨rfl, rfl⟩
     go_wp2_with fail
     go_ret
     exact ⟨4, tag, P, U, rfl, H.out, HX.out, .inr ⟨⟨h1.out, by rw [hxe.out]; exact hnm⟩, .inr ⟨by rw [hxe.out]; exact hh.out, .inl ⟨h4.out, rfl⟩⟩⟩⟩
    ·have h4' : ((P.thr.length : Int) == 4) = false := by simp; omega
     replace h4 := hide h4
     cases hg0 : decide (0 < P.thr.length)
     all_goals
      go_wp2_with fail
      refine (hN _).mono ?_
      rintro e w2 ⟨rfl, rfl⟩
      go_wp2_with fail
      refine hH.mono ?_
      rintro e w2 ⟨rfl, rfl⟩
      go_wp2_with fail
      go_region_law (refine step_append_run rfl _ _ _ rfl rfl rfl rfl hrun ?_)
      all_goals
       go_wp2_with fail
       go_ret
       exact ⟨0, tag3, _, _, rfl, HN.out.1, HN.out.2, .inr ⟨⟨h1.out, by rw [hxe.out]; exact hnm⟩, .inr ⟨by rw [hxe.out]; exact hh.out, .inr ⟨h4.out, rfl, rfl⟩⟩⟩⟩
 ·have hne : ((n : Int) != 2) = true := by simp; omega
  replace h1 := hide h1
  clear h hs hV hn hRd hd hl hnb hf
  go_enter Tryz.func47, Tryz.ntmps47
  cases hg0 : decide (0 < P.thr.length)
  all_goals
   go_wp2_with fail
   go_ret
   exact ⟨2, tag, P, U, rfl, H.out, HX.out, .inl ⟨.inl h1.out, rfl⟩⟩
set_option maxRecDepth 100000 in
set_option maxHeartbeats 2000000 in
theorem rLine_none {w : World} {tag : Nat → RT} {base pb : Nat} {P : RP} {U : RV} (h : RfW w tag base pb P U) (b off n cap : Nat) (f : Tx) (ts : List Tx) (hn : ts.length + 1 = n) (hs : WsT w tag (some ⟨b, off, none⟩) (f :: ts)) (hb : P.thr.length = 0) (line : Int) (hf : isDeclW f = false) (hf2 : f ≠ [116, 104, 114, 101, 97, 100]) :
 Calls Tryz.prog 47 #[ptrV pb, .slice (some ⟨b, off, none⟩) n cap, .int .i64 line] w (ROut w tag base pb (fun e _ => e = 2)) := by
 have c3 := h.thrV
 obtain ⟨ta, tcap, hV⟩ := owns_len h.trow
 rw [hV, hb] at c3
 have cf := hs.at (i := 0) (by simp)
 have cf : w.cell? ⟨b, off, none⟩ = some (.string (bs f)) := cf
 have hn0 : (0 : Int) < (n : Int) := by omega
 obtain ⟨f1, f2, f3⟩ := notDecl hf
 have b1 := bs_eq f [118, 97, 114]
 have b2 := bs_eq f [102, 108, 97, 103]
 have b3 := bs_eq f [108, 111, 99, 107]
 have b4 := bs_eq f [116, 104, 114, 101, 97, 100]
 rw [decide_eq_false f1] at b1
 rw [decide_eq_false f2] at b2
 rw [decide_eq_false f3] at b3
 rw [decide_eq_false hf2] at b4
 have HX := hide (Ext.refl w tag)
 have H := hide h
 unfold ptrV
 clear h hs hV hn hb hf hf2 f1 f2 f3
 go_enter Tryz.func47, Tryz.ntmps47
 go_wp2_with fail
 go_ret
 exact ⟨2, tag, P, U, rfl, H.out, HX.out, rfl⟩
def RLabel (P : RP) (k : Nat) (th : RTh) (x : Tx) (e : Int) (P' : RP) : Prop :=
 (isNam x = false ∧ e = 2) ∨ (isNam x = true ∧ (((∃ i, i < th.labs.length ∧ (th.labs.map Prod.fst).getD i [] = x) ∧ e = 3) ∨ ((∀ i, i < th.labs.length → (th.labs.map Prod.fst).getD i [] ≠ x) ∧ e = 0 ∧ P' = { P with thr := P.thr.set k { th with labs := th.labs ++ [(x, th.code.length)] } })))
set_option maxRecDepth 100000 in
set_option maxHeartbeats 2000000 in
theorem rLine_label {w : World} {tag : Nat → RT} {base pb : Nat} {P : RP} {U : RV} (h : RfW w tag base pb P U) (b off cap : Nat) (f : Tx) (hs : WsT w tag (some ⟨b, off, none⟩) [f]) (k : Nat) (th : RTh) (hk : P.thr.length = k + 1) (hth : P.thr[k]? = some th) (hb : P.thr.length < 1000) (hlb : th.labs.length < 4000) (hcd : th.code.length < 4000) (hfl : f.length < 4000) (line : Int) (x : Tx) (hx : f = x ++ [58]) (hf2 : f ≠ [116, 104, 114, 101, 97, 100]) :
 Calls Tryz.prog 47 #[ptrV pb, .slice (some ⟨b, off, none⟩) 1 cap, .int .i64 line] w (ROut w tag base pb (RLabel P k th x)) := by
 obtain ⟨p, hp⟩ : ∃ p, U.TV[k]? = some p := ⟨_, List.getElem?_eq_getElem (by rw [h.len]; omega)⟩
 obtain ⟨gt, tcap, hV⟩ := h.thrForm hth
 have c3 := h.thrV
 rw [hV, hk] at c3
 have t1 : w.cell? ⟨gt, k * 3 + 1, none⟩ = some p.1 := h.thrCell hth hp (r := 1) (by omega) hV
 have t2 : w.cell? ⟨gt, k * 3 + 2, none⟩ = some p.2 := h.thrCell hth hp (r := 2) (by omega) hV
 obtain ⟨ca, cc, hp1⟩ := owns_len (h.ths k th p hth hp).code
 obtain ⟨la, lc, hp2⟩ := owns_len (h.ths k th p hth hp).labs
 rw [hp1] at t1
 rw [hp2] at t2
 have cf := hs.at (i := 0) (by simp)
 have cf : w.cell? ⟨b, off, none⟩ = some (.string (bs f)) := cf
 have b4 := bs_eq f [116, 104, 114, 101, 97, 100]
 rw [decide_eq_false hf2] at b4
 have hzf : (bs f).size = x.length + 1 := by rw [bs_size, hx]; simp
 have hlast : ∀ hi : x.length < (bs f).size, (bs f)[x.length]'hi = 58 := fun hi => by
  rw [bs_get f x.length hi]; simp [hx]
 have hext : (bs f).extract 0 x.length = bs x := by rw [bs_extract, hx]; simp
 have hN := fun u => rIsName_any x u
 have HX := hide (Ext.refl w tag)
 have H := hide h
 have hd : Ext w tag w.drew tag := ⟨rfl, rfl, rfl, Nat.le_refl _, fun _ _ => rfl, fun _ _ _ => rfl⟩
 have HD := hide (⟨RfW.keep (w' := w.drew) h (fun _ _ => rfl) hd, hd⟩ : _ ∧ _)
 have hwk : wrap64 (k : Int) = (k : Int) := IntWalk.wrap64_in _ (by omega)
 have hwx : wrap64 (x.length : Int) = (x.length : Int) := IntWalk.wrap64_in _ (by rw [hx] at hfl; simp at hfl; omega)
 have hxl : x.length < (bs f).size := by omega
 have hl58 := hlast hxl
 unfold ptrV
 replace hp := hide hp
 replace hth := hide hth
 replace hp1 := hide hp1
 replace hp2 := hide hp2
 replace hV := hide hV
 replace hb := hide hb
 replace hlb := hide hlb
 clear h hs hlast hx hf2 hk hd
 go_enter Tryz.func47, Tryz.ntmps47
 go_wp2_with fail
 go_region
 go_wp2_with fail
 refine (hN _).mono ?_
 rintro e w2 ⟨rfl, hw2⟩
 have hR2 : RfW w2 tag base pb P U := by rw [hw2]; exact HD.out.1
 have hX2 : Ext w tag w2 tag := by rw [hw2]; exact HD.out.2
 have s1 : w2.cell? ⟨gt, k * 3 + 1, none⟩ = some (.slice ca th.code.length cc) := by rw [hw2]; exact t1
 have s2 : w2.cell? ⟨gt, k * 3 + 2, none⟩ = some (.slice la th.labs.length lc) := by rw [hw2]; exact t2
 have H2 := hide (⟨hR2, hX2⟩ : _ ∧ _)
 clear hw2 t1 t2 c3 cf hR2 hX2 hN
 cases hnm : isNam x with
 | false =>
  go_wp2_with fail
  go_ret
  exact ⟨2, tag, P, U, rfl, H2.out.1, H2.out.2, .inl ⟨hnm, rfl⟩⟩
 | true =>
  go_wp2_with fail
  go_loopw [12] (fun iv wr => ∃ i : Nat, i ≤ th.labs.length ∧ iv = .int .i64 i ∧ (∀ j : Nat, j < i → (th.labs.map Prod.fst).getD j [] ≠ x) ∧ wr = w2) (fun iv _ => th.labs.length - (intOf iv).toNat)
  case atStart => exact ⟨0, Nat.zero_le _, rfl, fun j hj => by omega, rfl⟩
  case round =>
   clear hwk hwx hzf hext hxl hl58 b4 hcd hfl
   obtain ⟨i, hi, rfl, hall, rfl⟩ := hrel
   by_cases h5 : i < th.labs.length
   ·have hlt : (i : Int) < (th.labs.length : Int) := by omega
    obtain ⟨q, hq⟩ : ∃ q, th.labs[i]? = some q := ⟨_, List.getElem?_eq_getElem h5⟩
    have hT := (H2.out.1.ths k th p hth.out hp.out).labs
    have hT2 := hT
    obtain ⟨m, hm⟩ : ∃ m, th.labs.length = m + 1 := ⟨th.labs.length - 1, by omega⟩
    rw [hm] at hT2
    obtain ⟨lg, lc', hl'⟩ := ownsRow_succ hT2
    rw [← hm] at hl'
    have hla : la = some ⟨lg, 0, none⟩ := by have e := hp2.out; rw [hl'] at e; cases e; rfl
    subst hla
    have cN : wr.cell? ⟨lg, i * 2, none⟩ = some (.string (bs q.1)) := by
     rw [hl'] at hT
     have e := hT.cellAt (i * 2 + 0) (by have := h5; omega)
     exact e.trans (flat_at (m := 2) (r := 0) labC_len hq (by omega))
    have hgd : (th.labs.map Prod.fst).getD i [] = q.1 := by rw [List.getD_eq_getElem?_getD, List.getElem?_map, hq]; rfl
    have hwi : wrap64 ((i : Int) + 1) = (i : Int) + 1 := IntWalk.wrap64_in _ (by have := hlb.out; omega)
    have hF : ((bs q.1).toList == (bs x).toList) = decide (q.1 = x) := by
     rw [bs_toList, bs_toList]
     by_cases e : q.1 = x <;> simp [e]
    have HA := hide (⟨hall, hgd, h5⟩ : _ ∧ _ ∧ _)
    clear hall hgd hT hT2 hm hl' hq
    clear s1 hp1 hi HX H HD hb hlb
    by_cases e : q.1 = x
    ·rw [decide_eq_true e] at hF
     replace e := hide e
     go_wp2_with fail
     go_ret
     exact ⟨3, tag, P, U, rfl, H2.out.1, H2.out.2, .inr ⟨hnm, .inl ⟨⟨i, HA.out.2.2, HA.out.2.1.trans e.out⟩, rfl⟩⟩⟩
    ·rw [decide_eq_false e] at hF
     replace e := hide e
     go_wp2_with fail
     go_roundw
     case rel =>
      rw [hwi]
      exact ⟨i + 1, HA.out.2.2, rfl, fun j hj => if h6 : j = i then by subst h6; rw [HA.out.2.1]; exact e.out else HA.out.1 j (Nat.lt_of_le_of_ne (Nat.le_of_lt_succ hj) h6), trivial⟩
     case measure =>
      rw [hwi]
      exact Nat.sub_lt_sub_left HA.out.2.2 (Nat.lt_succ_self i)
   ·have hge : decide ((i : Int) < (th.labs.length : Int)) = false := by simp; omega
    have hge2 : ¬ ((i : Int) < (th.labs.length : Int)) := by omega
    have hd : Ext wr tag wr.drew tag := ⟨rfl, rfl, rfl, Nat.le_refl _, fun _ _ => rfl, fun _ _ _ => rfl⟩
    have hRd := RfW.keep (w' := wr.drew) H2.out.1 (fun _ _ => rfl) hd
    obtain ⟨g, cap', w3, hrun, cV3, fV3, tag3, hR3, hX3⟩ := hRd.label hth.out hp.out x th.code.length (by have := hlb.out; omega) hV.out
    rw [hp2.out] at hrun cV3
    have hrun : (Builtin.append_ #[109, 109] 109 #[.slice la th.labs.length lc, .slice (some ⟨wr.heap.size, 0, none⟩) 1 1]).run Tryz.prog (wr.alloc (.cells #[.string (bs x), .int .i64 th.code.length] 162)).drew = .ok (.slice (some ⟨g, 0, none⟩) (th.labs.length + 1) cap') w3 := hrun
    have hgl : gt < wr.heap.size := H2.out.1.lt (H2.out.1.tt gt (by rw [hV.out]; rfl)) (by simp)
    have s2a : (wr.alloc (.cells #[.string (bs x), .int .i64 th.code.length] 162)).cell? ⟨gt, k * 3 + 2, none⟩ = some (.slice la th.labs.length lc) := (World.cell?_of_block (w := wr) (a := ⟨gt, k * 3 + 2, none⟩) (Below.heap_alloc wr _ gt hgl)).trans s2
    replace hgl := hide hgl
    have HN := hide (⟨hR3, (H2.out.2.trans hd).trans hX3, fun j hj => hall j (by omega)⟩ : _ ∧ _ ∧ (∀ j, j < th.labs.length → _))
    clear hall hd hRd hR3 hX3
    go_wp2_with fail
    go_region_law (refine step_append_run rfl _ _ _ rfl rfl rfl rfl hrun ?_)
    all_goals
     go_wp2_with fail
     go_ret
     exact ⟨0, tag3, _, _, rfl, HN.out.1, HN.out.2.1, .inr ⟨hnm, .inr ⟨HN.out.2.2, rfl, rfl⟩⟩⟩
end Go.Proofs.YtcfpedjfofpnkaaGreatDoor
