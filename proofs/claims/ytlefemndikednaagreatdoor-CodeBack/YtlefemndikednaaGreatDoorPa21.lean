import Derived.Test.YtlefemndikednaaGreatDoorPa20
import Derived.Test.YtlefemndikednaaGreatDoorPa18
set_option linter.unusedVariables false
set_option linter.unusedSimpArgs false
/-
  code.Print.
-/
namespace Go.Proofs.YtlefemndikednaaGreatDoor
open Go.RowKit Go.Shelf Go.Proofs.Cod

def thrsW (N : Int → List Tx) (ts : List Tx) (C : List (List In7)) (k : Nat) : Tx := (List.range k).flatMap fun j => thrW N (ts.getD j []) (C.getD j [])
theorem thrsW_succ (N : Int → List Tx) (ts : List Tx) (C : List (List In7)) (k : Nat) : thrsW N ts C (k + 1) = thrsW N ts C k ++ thrW N (ts.getD k []) (C.getD k []) := by
  unfold thrsW
  rw [List.range_succ, List.flatMap_append]; simp
theorem thrsW_le (N : Int → List Tx) (ts : List Tx) (C : List (List In7)) {k n : Nat} (h : k ≤ n) : (thrsW N ts C k).length ≤ (thrsW N ts C n).length := by
  induction n with
  | zero => have : k = 0 := by omega
            subst this; exact Nat.le_refl _
  | succ n ih =>
    by_cases e : k = n + 1
    · subst e; exact Nat.le_refl _
    · have := ih (by omega)
      rw [thrsW_succ, List.length_append]; omega
/-- The plain text of a program. -/
def printW (vs fs ls ts : List Tx) (C : List (List In7)) : Tx := headsW vs fs ls 3 ++ thrsW (nmP vs fs ls ts) ts C ts.length
structure PrOk (vs fs ls ts : List Tx) (C : List (List In7)) : Prop where
  few : vs.length ≤ 1000 ∧ fs.length ≤ 1000 ∧ ls.length ≤ 1000
  thr : ts.length < 1000
  code : ∀ is, is ∈ C → is.length < 1000 ∧ ∀ i, i ∈ is → InsOk (nmP vs fs ls ts) is.length i
  len : (printW vs fs ls ts C).length ≤ 140737488355328
theorem ar7 {h t M : Nat} (q : h + t ≤ M) : 0 + h ≤ M := by omega
theorem ar8 {h t a x M : Nat} (q : h + t ≤ M) (q2 : a + x ≤ t) : h + a + x ≤ M := by omega
section
variable {w w' : World} {base0 B : Nat} {v f l t : Value} {vs fs ls : List Tx} {L : List (Tx × Value)} {C : List (List In7)}
set_option maxRecDepth 100000 in
set_option maxHeartbeats 1000000 in
theorem print_any (hp : ProgW w base0 v f l t vs fs ls L C) (ht : Tabs w B) (hB : B ≤ w.heap.size) (hok : PrOk vs fs ls (L.map Prod.fst) C) :
    Calls Tryz.prog 11 #[.agg #[v, f, l, t]] w fun e w' => e = .returned (.string (bs (printW vs fs ls (L.map Prod.fst) C))) ∧ Below w.heap.size w w' := by
  obtain ⟨av, cv, ev⟩ := owns_len hp.v
  obtain ⟨af, cf, ef⟩ := owns_len hp.f
  obtain ⟨al, cl, el⟩ := owns_len hp.l
  obtain ⟨at', ct, et⟩ := owns_len hp.t
  subst ev ef el et
  obtain ⟨kA, kB, hB1, hz1⟩ := two_made w (.cells #[.slice av vs.length cv, .slice af fs.length cf, .slice al ls.length cl, .slice at' L.length ct] 25) (.cells #[.slice av vs.length cv, .slice af fs.length cf, .slice al ls.length cl, .slice at' L.length ct, .pointer none, .slice none 0 0] 77)
  have hpr := hok.len
  unfold printW at hpr
  rw [List.length_append, List.length_map] at hpr
  replace hpr : Hid (_ ≤ maxT) := hpr
  generalize hw1 : (w.alloc (.cells #[.slice av vs.length cv, .slice af fs.length cf, .slice al ls.length cl, .slice at' L.length ct] 25)).alloc (.cells #[.slice av vs.length cv, .slice af fs.length cf, .slice al ls.length cl, .slice at' L.length ct, .pointer none, .slice none 0 0] 77) = w1 at *
  have hW1 : WrW w1 (w.heap.size + 1) (w.heap.size + 1) (.slice av vs.length cv) (.slice af fs.length cf) (.slice al ls.length cl) (.slice at' L.length ct) (.slice none 0 0) [] := ⟨⟨_, .inl rfl, kB⟩, World.ownsRow_nil _ _ _ _, (fun e => by cases e), Nat.le_refl _, fun _ => rfl⟩
  have hp1 := (hp.below hB1).base (Nat.zero_le _)
  have ht1 := ht.keep (hB1.mono hB)
  have hHd := wrHeads_any hW1 hp1 ht1 (Nat.le_succ_of_le hB) (by omega) hok.few (show _ ≤ maxT from ar7 hpr.out)
  rw [List.nil_append] at hHd
  unfold ptrV at hHd
  have HW := hide (⟨hW1, hp1, ht1, kA, hB1, hz1⟩ : _ ∧ _ ∧ _ ∧ _ ∧ _ ∧ _)
  replace hw1 := hide hw1
  have hok0 := hide hok
  replace hB := hide hB
  clear hp ht kA kB hB1 hz1 hW1 hp1 ht1 hok
  go_enter Tryz.func11, Tryz.ntmps11
  go_wp2_with fail
  rw [hw1.out]
  refine hHd.mono ?_
  clear hHd
  rintro e w2 ⟨rfl, buf2, hW2, hK2⟩
  obtain ⟨hW1, hp1, ht1, kA, hB1, hz1⟩ := HW.out
  have hbx2 := box_wkeep kA hK2 (by omega) (by decide)
  have d3 : w2.cell? ⟨w.heap.size, 3, none⟩ = some (.slice at' L.length ct) := by rw [Lib.cell_of_heap hbx2]; rfl
  have H2 := hide (⟨hW2, hK2⟩ : _ ∧ _)
  clear hW2 hK2 hW1 hp1 ht1 kA hB1 hz1 hbx2
  go_wp2_with fail
  clear d3
  go_loopw [12] (fun iv wr => ∃ (k : Nat) (bufk : Value), k ≤ L.length ∧ iv = .int .i64 k ∧ WrW wr (w.heap.size + 1) (w.heap.size + 1) (.slice av vs.length cv) (.slice af fs.length cf) (.slice al ls.length cl) (.slice at' L.length ct) bufk (headsW vs fs ls 3 ++ thrsW (nmP vs fs ls (L.map Prod.fst)) (L.map Prod.fst) C k) ∧ WKeep (w.heap.size + 1) (w.heap.size + 1) w1 wr) (fun iv _ => L.length - (intOf iv).toNat)
  case atStart => exact ⟨0, buf2, Nat.zero_le _, rfl, by rw [show thrsW (nmP vs fs ls (L.map Prod.fst)) (L.map Prod.fst) C 0 = [] from rfl, List.append_nil]; exact H2.out.1, H2.out.2⟩
  case round =>
    obtain ⟨k, bufk, hk, rfl, hWk, hKk⟩ := hrel
    obtain ⟨hW1, hp1, ht1, kA, hB1, hz1⟩ := HW.out
    have hpk := hp1.wkeep hW1 hKk
    have htk := ht1.wkeep hKk (Nat.le_succ_of_le hB.out)
    have hbk : w.heap.size + 1 ≤ wr.heap.size := Nat.le_trans (by omega) hKk.size
    have hsmk : L.length < 1000 := by have := hok0.out.thr; rw [List.length_map] at this; exact this
    by_cases h5 : k < L.length
    · have hlt : (k : Int) < (L.length : Int) := by omega
      obtain ⟨q, hq⟩ : ∃ q, L[k]? = some q := ⟨_, List.getElem?_eq_getElem h5⟩
      obtain ⟨is, his⟩ : ∃ is, C[k]? = some is := ⟨_, List.getElem?_eq_getElem (by rw [hpk.len]; exact h5)⟩
      obtain ⟨g, cap, e, hg, g0, g1⟩ := hpk.thrAt hq
      cases e
      have hrow := hpk.c k q is hq his
      obtain ⟨ka, kc, ek⟩ := owns_len hrow
      rw [ek] at g1
      have hba : Below wr.heap.size wr (wr.alloc (.cells #[.string (bs q.1), .slice ka is.length kc] 38)) := (Below.refl _ _).alloc (Nat.le_refl _) _
      have hgn : (L.map Prod.fst).getD k [] = q.1 := by rw [List.getD_eq_getElem?_getD, List.getElem?_map, hq]; rfl
      have hgi : C.getD k [] = is := by rw [List.getD_eq_getElem?_getD, his]; rfl
      have hsucc := thrsW_succ (nmP vs fs ls (L.map Prod.fst)) (L.map Prod.fst) C k
      rw [hgn, hgi] at hsucc
      have hle := thrsW_le (nmP vs fs ls (L.map Prod.fst)) (L.map Prod.fst) C (show k + 1 ≤ L.length from h5)
      rw [hsucc, List.length_append] at hle
      obtain ⟨hi1, hi2⟩ := hok0.out.code is (List.mem_of_getElem? his)
      have hrow' : (wr.alloc (.cells #[.string (bs q.1), .slice ka is.length kc] 38)).ownsRow 0 42 7 (.slice ka is.length kc) is.length (codeC is) := by
        rw [ek] at hrow
        exact c_belowS hrow hba
      have hT := wrThr_any (hWk.below hba) (hpk.below hba) (htk.keep (hba.mono (Nat.le_trans hB.out (by omega)))) (Nat.le_succ_of_le hB.out) (Nat.le_trans hbk hba.size) q.1 hrow' hi1 hi2 (show _ ≤ maxT from by rw [List.length_append]; exact ar8 hpr.out hle)
      unfold ptrV at hT
      have hwk : wrap64 ((k : Int) + 1) = (k : Int) + 1 := IntWalk.wrap64_in _ (by omega)
      have HN := hide (⟨hsucc, hKk.trans (WKeep.of_below (b := w.heap.size + 1) hba hbk), h5⟩ : _ ∧ _ ∧ _)
      replace hg := hide hg
      clear hWk hKk hW1 hp1 ht1 kA hB1 hz1 hpk htk hbk hsmk hq his hrow ek hba hgn hgi hsucc hle hi1 hi2 hrow' h5 hk H2
      go_wp2_with fail
      refine hT.mono ?_
      clear hT
      rintro e w5 ⟨rfl, buf5, hW5, hK5⟩
      have HF := hide (⟨hW5, hK5⟩ : _ ∧ _)
      clear hW5 hK5 g0 g1
      go_wp2_with fail
      go_roundw
      case rel =>
        (try rw [hwk])
        obtain ⟨q1, q2, q3⟩ := HN.out
        exact ⟨k + 1, buf5, q3, rfl, by rw [q1, ← List.append_assoc]; exact HF.out.1, q2.trans HF.out.2⟩
      case measure =>
        (try rw [hwk])
        exact Nat.sub_lt_sub_left HN.out.2.2 (Nat.lt_succ_self k)
    · have hkl : k = L.length := Nat.le_antisymm hk (Nat.le_of_not_lt h5)
      subst hkl
      have hT := wrText_any hWk
      have hpw : printW vs fs ls (L.map Prod.fst) C = headsW vs fs ls 3 ++ thrsW (nmP vs fs ls (L.map Prod.fst)) (L.map Prod.fst) C L.length := by unfold printW; rw [List.length_map]
      rw [← hpw] at hT
      have HN := hide (hB1.trans ((hKk.below).mono (Nat.le_succ _)))
      clear hWk hKk hW1 hp1 ht1 kA hB1 hz1 hpk htk hbk hsmk h5 hk H2 hpw
      go_wp2_with fail
      refine hT.mono ?_
      rintro e w5 ⟨rfl, hB5⟩
      have HF := hide (HN.out.trans (hB5.mono (Nat.le_succ _)))
      clear hB5 hT
      go_wp2_with fail
      go_ret
      exact ⟨rfl, HF.out⟩
end
end Go.Proofs.YtlefemndikednaaGreatDoor
/-
  The law's Same.
-/
namespace Go.Proofs.YtlefemndikednaaGreatDoor
open Go.RowKit Go.Proofs.Cod

theorem row_lt {w : World} {base e size n : Nat} {v : Value} {xs : List Value} (h : w.ownsRow base e size v n xs) : n < 9223372036854775808 := by
  rcases h.2 with ⟨_, h2⟩ | ⟨g, cap, cur, h1, h2, h3, h4, h5, _⟩
  · omega
  · unfold maxLen at h5; omega
theorem box_cells {w : World} {b T : Nat} {a0 a1 a2 a3 : Value} (h : w.heap[b]? = some (.cells #[a0, a1, a2, a3] T)) : w.cell? ⟨b, 0, none⟩ = some a0 ∧ w.cell? ⟨b, 1, none⟩ = some a1 ∧ w.cell? ⟨b, 2, none⟩ = some a2 ∧ w.cell? ⟨b, 3, none⟩ = some a3 := by
  simp [World.cell?, h]
/-- What Same finds, whatever lies above. -/
structure SameF (W : World) (ba bb : Nat) (va fa la ta vd fd ld td : Value) (vs fs ls : List Tx) (L : List (Tx × Value)) (C : List (List In7)) (P : RP) (TV : List (Value × Value)) : Prop where
  a : W.heap[ba]? = some (.cells #[va, fa, la, ta] 25)
  b : W.heap[bb]? = some (.cells #[vd, fd, ld, td] 31)
  pa : ProgW W 0 va fa la ta vs fs ls L C
  pd : DView W vd fd ld td P TV
theorem SameF.below {W W' : World} {ba bb : Nat} {va fa la ta vd fd ld td : Value} {vs fs ls : List Tx} {L : List (Tx × Value)} {C : List (List In7)} {P : RP} {TV : List (Value × Value)} (h : SameF W ba bb va fa la ta vd fd ld td vs fs ls L C P TV) (hb : Below W.heap.size W W') : SameF W' ba bb va fa la ta vd fd ld td vs fs ls L C P TV :=
  ⟨(hb.block _ (Array.getElem?_eq_some_iff.1 h.a).1).trans h.a, (hb.block _ (Array.getElem?_eq_some_iff.1 h.b).1).trans h.b, h.pa.below hb, h.pd.below hb⟩

set_option maxRecDepth 100000 in
set_option maxHeartbeats 2000000 in
theorem lwSame_any {w : World} {base : Nat} {va fa la ta vd fd ld td : Value} {vs fs ls : List Tx} {L : List (Tx × Value)} {C : List (List In7)} {P : RP} {TV : List (Value × Value)} (hpa : ProgW w base va fa la ta vs fs ls L C) (hpd : DView w vd fd ld td P TV) (q1 : vs = P.vs) (q2 : fs = P.fs) (q3 : ls = P.ls) (q4 : L.map Prod.fst = P.names) (q5 : C = P.thr.map fun th => th.code.map RI.i) :
    Calls Tryz.prog 8 #[.agg #[va, fa, la, ta], .agg #[vd, fd, ld, td]] w fun e w' => e = .returned (.bool true) ∧ Below w.heap.size w w' := by
  subst q1 q2 q3
  have hLl : L.length = P.thr.length := by have := congrArg List.length q4; simpa [RP.names] using this
  obtain ⟨av, cv, ev, wsv⟩ := row_ws0 hpa.v rfl
  obtain ⟨af, cf, ef, wsf⟩ := row_ws0 hpa.f rfl
  obtain ⟨al, cl, el, wsl⟩ := row_ws0 hpa.l rfl
  obtain ⟨at', ct, et⟩ := owns_len hpa.t
  obtain ⟨dv, ev', edv, wdv⟩ := row_ws0 hpd.v rfl
  obtain ⟨df, ef', edf, wdf⟩ := row_ws0 hpd.f rfl
  obtain ⟨dl, el', edl, wdl⟩ := row_ws0 hpd.l rfl
  obtain ⟨dt, et', edt⟩ := owns_len hpd.t
  have hnv := row_lt hpd.v
  have hnf := row_lt hpd.f
  have hnl := row_lt hpd.l
  have hnt := row_lt hpd.t
  rw [hLl] at et
  subst ev ef el et edv edf edl edt
  obtain ⟨kA, kB, hB1, hz1⟩ := two_made w (.cells #[.slice av P.vs.length cv, .slice af P.fs.length cf, .slice al P.ls.length cl, .slice at' P.thr.length ct] 25) (.cells #[.slice dv P.vs.length ev', .slice df P.fs.length ef', .slice dl P.ls.length el', .slice dt P.thr.length et'] 31)
  have HF0 := SameF.mk kA kB ((hpa.below hB1).base (Nat.zero_le _)) (hpd.below hB1)
  go_enter Tryz.func8, Tryz.ntmps8
  have hx := fun wr h => lwWords_any (w := wr) (a := av) (b := dv) (n := P.vs.length) (ca := cv) (cb := ev') rfl (wsv.below h) (wdv.below h) hnv
  have hy := fun wr h => lwWords_any (w := wr) (a := af) (b := df) (n := P.fs.length) (ca := cf) (cb := ef') rfl (wsf.below h) (wdf.below h) hnf
  have hz := fun wr h => lwWords_any (w := wr) (a := al) (b := dl) (n := P.ls.length) (ca := cl) (cb := el') rfl (wsl.below h) (wdl.below h) hnl
  replace hx := hide hx
  replace hy := hide hy
  replace hz := hide hz
  replace hB1 := hide hB1
  replace HF0 := hide HF0
  replace hz1 := hide hz1
  replace q4 := hide q4
  replace q5 := hide q5
  replace hLl := hide hLl
  clear kA kB hpa hpd wsv wsf wsl wdv wdf wdl hnv hnf hnl
  go_wp2_with fail
  have hBw := hB1
  generalize World.alloc (World.alloc w _) _ = W at *
  refine (hx.out W hBw.out).mono ?_
  rintro e w2 ⟨rfl, hQ2⟩
  have HF2 := HF0.out.below hQ2.low
  have hBw2 := hide (hBw.out.trans (hQ2.low.mono hBw.out.size))
  have hW2 := hide hQ2.low
  obtain ⟨a0, a1, a2, a3⟩ := box_cells HF2.a
  obtain ⟨d0, d1, d2, d3⟩ := box_cells HF2.b
  clear hQ2 hx HF2
  go_wp2_with fail
  refine (hy.out w2 hBw2.out).mono ?_
  rintro e w3 ⟨rfl, hQ3⟩
  have hW3 := hide (hW2.out.trans (hQ3.low.mono hW2.out.size))
  have hBw3 := hide (hBw2.out.trans (hQ3.low.mono hBw2.out.size))
  have HF3 := HF0.out.below hW3.out
  clear a0 a1 a2 a3 d0 d1 d2 d3 hQ3 hy hBw2 hW2
  obtain ⟨a0, a1, a2, a3⟩ := box_cells HF3.a
  obtain ⟨d0, d1, d2, d3⟩ := box_cells HF3.b
  clear HF3
  go_wp2_with fail
  refine (hz.out w3 hBw3.out).mono ?_
  rintro e w4 ⟨rfl, hQ4⟩
  have hW4 := hide (hW3.out.trans (hQ4.low.mono hW3.out.size))
  have HF4 := HF0.out.below hW4.out
  clear a0 a1 a2 a3 d0 d1 d2 d3 hQ4 hz hBw3 hW3
  obtain ⟨a0, a1, a2, a3⟩ := box_cells HF4.a
  obtain ⟨d0, d1, d2, d3⟩ := box_cells HF4.b
  clear HF4
  go_wp2_with fail
  go_loopw [8] (fun iv wr => ∃ i : Nat, i ≤ P.thr.length ∧ iv = .int .i64 i ∧ Below W.heap.size W wr) (fun iv _ => P.thr.length - (intOf iv).toNat)
  case atStart => exact ⟨0, Nat.zero_le _, rfl, hW4.out⟩
  case round =>
    obtain ⟨i, hi, rfl, hW5⟩ := hrel
    clear a0 a1 a2 a3 d0 d1 d2 d3 hW4
    have HF5 := HF0.out.below hW5
    obtain ⟨a0, a1, a2, a3⟩ := box_cells HF5.a
    obtain ⟨d0, d1, d2, d3⟩ := box_cells HF5.b
    by_cases h5 : i < P.thr.length
    · have hlt : (i : Int) < (P.thr.length : Int) := by omega
      obtain ⟨th, hth⟩ : ∃ th, P.thr[i]? = some th := ⟨_, List.getElem?_eq_getElem h5⟩
      obtain ⟨p, hp⟩ : ∃ p, TV[i]? = some p := ⟨_, List.getElem?_eq_getElem (by rw [HF5.pd.len]; exact h5)⟩
      obtain ⟨lp, hlp⟩ : ∃ lp, L[i]? = some lp := ⟨_, List.getElem?_eq_getElem (by rw [hLl.out]; exact h5)⟩
      have hCi : C[i]? = some (th.code.map RI.i) := by rw [q5.out, List.getElem?_map, hth]; rfl
      have hnm : lp.1 = th.name := by
        have e1 : (L.map Prod.fst)[i]? = some lp.1 := by rw [List.getElem?_map, hlp]; rfl
        rw [q4.out, RP.names, List.getElem?_map, hth] at e1
        exact (Option.some.inj e1).symm
      obtain ⟨ga, ca, e1, ga1, g0, g1⟩ := HF5.pa.thrAt hlp
      obtain ⟨gd, cd, e2, gd1, h0, h1⟩ := HF5.pd.thrAt hth hp
      rw [hLl.out] at e1
      cases e1
      cases e2
      obtain ⟨ka, kc, ek⟩ := owns_len (HF5.pa.c i lp _ hlp hCi)
      obtain ⟨kd, kc', ek'⟩ := owns_len (HF5.pd.c i th p hth hp)
      rw [List.length_map] at ek
      rw [ek] at g1
      rw [ek'] at h1
      rw [hnm] at g0
      have hcl := row_lt (HF5.pd.c i th p hth hp)
      have HH := hide (⟨hth, hp, hlp, hCi, h5, hW5, ek, ek', hcl⟩ : _ ∧ _ ∧ _ ∧ _ ∧ _ ∧ _ ∧ _ ∧ _ ∧ _)
      replace ga1 := hide ga1
      replace gd1 := hide gd1
      clear hth hp hlp hCi hnm h5 hi HF5 hW5 ek ek' hcl
      generalize hm : th.code.length = m at g1 h1
      replace hm := hide hm
      rename World => wo
      go_wp2_with fail
      go_quiet (fail)
      have HW5 := hide (HH.out.2.2.2.2.2.1.trans (show Below W.heap.size wo (wo.drewN nq) from ⟨rfl, rfl, rfl, Nat.le_refl _, fun _ _ => rfl⟩))
      clear a0 a1 a2 a3 d0 d1 d2 d3 g0 h0 g1 h1 hlt ga1 gd1
      generalize World.drewN wo nq = w5 at *
      go_wp2_with fail
      go_loopw [9] (fun iv wr => ∃ k : Nat, k ≤ m ∧ iv = .int .i64 k ∧ Below W.heap.size W wr) (fun iv _ => m - (intOf iv).toNat)
      case atStart => exact ⟨0, Nat.zero_le _, rfl, HW5.out⟩
      case round =>
        obtain ⟨k, hk, rfl, hW6⟩ := hrel
        clear HW5
        obtain ⟨hth, hp, hlp, hCi, h5, hW5, ek, ek', hcl⟩ := HH.out
        have HF6 := HF0.out.below hW6
        obtain ⟨-, -, -, a3⟩ := box_cells HF6.a
        obtain ⟨-, -, -, d3⟩ := box_cells HF6.b
        obtain ⟨ga2, ca2, e1, -, -, g1⟩ := HF6.pa.thrAt hlp
        obtain ⟨gd2, cd2, e2, -, -, h1⟩ := HF6.pd.thrAt hth hp
        rw [hLl.out] at e1
        cases e1
        cases e2
        rw [ek, hm.out] at g1
        rw [ek', hm.out] at h1
        by_cases h6 : k < m
        · have hltk : (k : Int) < (m : Int) := by omega
          have hlti : (i : Int) < (P.thr.length : Int) := by omega
          obtain ⟨r, hr⟩ : ∃ r, th.code[k]? = some r := ⟨_, List.getElem?_eq_getElem (by rw [hm.out]; exact h6)⟩
          have hr7 : (th.code.map RI.i)[k]? = some r.i := by rw [List.getElem?_map, hr]; rfl
          obtain ⟨cg, cc, x1, x2, I7⟩ := i7_at (HF6.pa.c i lp _ hlp hCi) hr7
          obtain ⟨dg, dc, y1, y2, I9⟩ := i9_at (HF6.pd.c i th p hth hp) hr
          rw [ek, List.length_map] at x1
          rw [ek'] at y1
          cases x1
          cases y1
          obtain ⟨i0, i1, i2, i3, i4, i5, i6⟩ := I7
          obtain ⟨j0, j1, j2, j3, j4, j5, j6, j7, j8⟩ := I9
          have hwk : wrap64 ((k : Int) + 1) = (k : Int) + 1 := IntWalk.wrap64_in _ (by have := hm.out; omega)
          have hI := fun v => lwInstr_any r v
          unfold insC riC at hI
          have HW6 := hide (⟨hW6, h6⟩ : _ ∧ _)
          clear hW6 HF6 h6 hk hr hr7 x2 y2 hth hp hlp hCi h5 hW5 ek ek' hcl HH hnt
          go_wp2_with fail
          go_region_with (go_at_call 21; refine (hI _).mono ?_; rintro e w7 ⟨rfl, hB7⟩)
          all_goals
            have HB7 := hide (HW6.out.1.trans ((show Below W.heap.size wr wr.drew from ⟨rfl, rfl, rfl, Nat.le_refl _, fun _ _ => rfl⟩).trans (hB7.mono HW6.out.1.size)))
            clear hB7 a3 d3 g1 h1 i0 i1 i2 i3 i4 i5 i6 j0 j1 j2 j3 j4 j5 j6 j7 j8 hI
            go_wp2_with fail
            go_roundw
            case rel =>
              (try rw [hwk])
              exact ⟨k + 1, HW6.out.2, rfl, HB7.out⟩
            case measure =>
              (try rw [hwk])
              exact Nat.sub_lt_sub_left HW6.out.2 (Nat.lt_succ_self k)
        · have HW6 := hide hW6
          have hlti : (i : Int) < (P.thr.length : Int) := by omega
          have hwi : wrap64 ((i : Int) + 1) = (i : Int) + 1 := IntWalk.wrap64_in _ (by omega)
          replace h5 := hide h5
          clear hW6 HF6 hk hth hp hlp hCi hW5 ek ek' hcl HH hnt
          go_wp2_with fail
          go_roundw
          case rel =>
            (try rw [hwi])
            exact ⟨i + 1, h5.out, rfl, HW6.out⟩
          case measure =>
            (try rw [hwi])
            exact Nat.sub_lt_sub_left h5.out (Nat.lt_succ_self i)
    · have HW := hide (hB1.out.trans (hW5.mono hB1.out.size))
      clear hW5 HF5
      go_wp2_with fail
      go_ret
      exact ⟨rfl, HW.out⟩
end Go.Proofs.YtlefemndikednaaGreatDoor
/-
  The law's alive: a plain program.
-/
namespace Go.Proofs.YtlefemndikednaaGreatDoor
open Go.RowKit Go.Shelf Go.Proofs.Cod

def aliveT : Tx := [118, 97, 114, 32, 120, 10, 116, 104, 114, 101, 97, 100, 32, 109, 97, 105, 110, 10, 115, 101, 116, 32, 114, 49, 32, 55, 32, 35, 32, 115, 101, 118, 101, 110, 10, 98, 97, 99, 107, 58, 10, 115, 116, 111, 114, 101, 32, 120, 32, 114, 49, 10, 106, 117, 109, 112, 32, 98, 97, 99, 107]
def aliveO : Tx := [118, 97, 114, 32, 120, 10, 116, 104, 114, 101, 97, 100, 32, 109, 97, 105, 110, 10, 115, 101, 116, 32, 114, 49, 32, 55, 10, 108, 49, 58, 10, 115, 116, 111, 114, 101, 32, 120, 32, 114, 49, 10, 106, 117, 109, 112, 32, 108, 49, 10]
def alI1 : In7 := ⟨[115, 101, 116], 1, false, 7, false, 0, 0⟩
def alI2 : In7 := ⟨[115, 116, 111, 114, 101], 0, true, 1, false, 0, 0⟩
def alI3 : In7 := ⟨[106, 117, 109, 112], 0, false, 0, false, 0, 1⟩
def aliveC : List (List In7) := [[alI1, alI2, alI3]]
def aliveS : PS := match parseT aliveT with | .ok p => p.1 | .error _ => PS.new
set_option maxRecDepth 100000 in
theorem alive_parse : parseT aliveT = .ok (aliveS, aliveC) := by kernel_rfl
set_option maxRecDepth 100000 in
theorem alive_nms : aliveS.nms 118 = [[120]] ∧ aliveS.nms 102 = [] ∧ aliveS.nms 109 = [] ∧ aliveS.nms 116 = [[109, 97, 105, 110]] := ⟨by kernel_rfl, by kernel_rfl, by kernel_rfl, by kernel_rfl⟩
theorem itoa1 : Lib.itoa 1 = [49] := by kernel_rfl
theorem itoa7 : Lib.itoa 7 = [55] := by kernel_rfl
set_option maxRecDepth 100000 in
theorem alive_print : printW [[120]] [] [] [[109, 97, 105, 110]] aliveC = aliveO := by kernel_rfl
theorem fit_small {n : Int} (h : 0 ≤ n) (h2 : n ≤ 1000) : fitI n := ⟨by omega, by omega⟩
theorem alive_ok : PrOk [[120]] [] [] [[109, 97, 105, 110]] aliveC := by
  refine ⟨by decide, by decide, fun is his => ?_, by rw [alive_print]; decide⟩
  obtain rfl := List.mem_singleton.1 his
  refine ⟨by decide, fun i hi => ?_⟩
  have hi : i = alI1 ∨ i = alI2 ∨ i = alI3 := by simpa using hi
  rcases hi with rfl | rfl | rfl
  · refine ⟨⟨fit_small (by decide) (by decide), fit_small (by decide) (by decide), fit_small (by decide) (by decide), fit_small (by decide) (by decide)⟩, ⟨[114, 97], by kernel_rfl, by decide, fun c hc hk => ?_⟩, by decide⟩
    have hc : c = 114 ∨ c = 97 := by simpa using hc
    rcases hc with rfl | rfl <;> exact absurd hk (by unfold isK; decide)
  · refine ⟨⟨fit_small (by decide) (by decide), fit_small (by decide) (by decide), fit_small (by decide) (by decide), fit_small (by decide) (by decide)⟩, ⟨[118, 97], by kernel_rfl, by decide, fun c hc hk => ?_⟩, by decide⟩
    have hc : c = 118 ∨ c = 97 := by simpa using hc
    rcases hc with rfl | rfl
    · exact ⟨by decide, by decide⟩
    · exact absurd hk (by unfold isK; decide)
  · refine ⟨⟨fit_small (by decide) (by decide), fit_small (by decide) (by decide), fit_small (by decide) (by decide), fit_small (by decide) (by decide)⟩, ⟨[108], by kernel_rfl, by decide, fun c hc hk => ?_⟩, by decide⟩
    have hc : c = 108 := by simpa using hc
    subst hc
    exact absurd hk (by unfold isK; decide)
set_option maxRecDepth 100000 in
theorem lwNum_any (n : Int) (w : World) : Calls Tryz.prog 9 #[.int .i64 n] w fun e w' => e = .returned (.int .i64 n) ∧ w' = w := by
  go_enter Tryz.func9, Tryz.ntmps9
  go_wp2_with fail
  go_ret
  exact ⟨rfl, rfl⟩
set_option maxRecDepth 100000 in
set_option maxHeartbeats 1000000 in
theorem alive_any {w : World} {B : Nat} (ht : Tabs w B) (hB : B ≤ w.heap.size) : Calls Tryz.prog 10 #[] w fun e w' => e = .returned (.bool true) ∧ Below w.heap.size w w' := by
  have hl3 := ht.lt
  have hPa := parse_any aliveT w ht.heads ht.shapes (by show 0 < _; omega) (by show 1 < _; omega) (by decide)
  have hPa : Calls Tryz.prog 6 #[.string ⟨#[118, 97, 114, 32, 120, 10, 116, 104, 114, 101, 97, 100, 32, 109, 97, 105, 110, 10, 115, 101, 116, 32, 114, 49, 32, 55, 32, 35, 32, 115, 101, 118, 101, 110, 10, 98, 97, 99, 107, 58, 10, 115, 116, 111, 114, 101, 32, 120, 32, 114, 49, 10, 106, 117, 109, 112, 32, 98, 97, 99, 107]⟩] w (ParseR w aliveT) := hPa
  have HT := hide (⟨ht, hB⟩ : _ ∧ _)
  clear ht hB hl3
  go_enter Tryz.func10, Tryz.ntmps10
  go_wp2_with fail
  refine hPa.mono ?_
  clear hPa
  rintro e w2 ⟨hB2, (⟨er, ln, he, rfl⟩ | ⟨s, C, vV, fV, lV, thV, L, he, rfl, hPW, hLn⟩)⟩
  · rw [alive_parse] at he; cases he
  · rw [alive_parse] at he
    cases he
    obtain ⟨n1, n2, n3, n4⟩ := alive_nms
    rw [n1, n2, n3] at hPW
    rw [n4] at hLn
    obtain ⟨ht, hB⟩ := HT.out
    obtain ⟨⟨nm, cv⟩, rfl⟩ : ∃ q, L = [q] := by
      have hl : L.length = 1 := by have := congrArg List.length hLn; simpa using this
      exact List.length_eq_one_iff.1 hl
    obtain ⟨av, cvv, ev⟩ := owns_len hPW.v
    obtain ⟨af, cf, ef⟩ := owns_len hPW.f
    obtain ⟨al, cl, el⟩ := owns_len hPW.l
    obtain ⟨g, cap, e, hg, g0, g1⟩ := hPW.thrAt (j := 0) rfl
    subst ev ef el e
    obtain ⟨cg, cc, ec, hcg, I7⟩ := i7_at (hPW.c 0 _ _ rfl rfl) (k := 2) (i := alI3) rfl
    have ec : cv = .slice (some ⟨cg, 0, none⟩) 3 cc := ec
    subst ec
    have x6 := I7.c6
    have g1 : w2.cell? ⟨g, 1, none⟩ = some (.slice (some ⟨cg, 0, none⟩) 3 cc) := g1
    have x6 : w2.cell? ⟨cg, 20, none⟩ = some (.int .i64 1) := x6
    have hba : Below w2.heap.size w2 (w2.alloc (.cells #[.slice av 1 cvv, .slice af 0 cf, .slice al 0 cl, .slice (some ⟨g, 0, none⟩) 1 cap] 25)) := (Below.refl _ _).alloc (Nat.le_refl _) _
    have g1' : (w2.alloc (.cells #[.slice av 1 cvv, .slice af 0 cf, .slice al 0 cl, .slice (some ⟨g, 0, none⟩) 1 cap] 25)).cell? ⟨g, 1, none⟩ = some (.slice (some ⟨cg, 0, none⟩) 3 cc) := (hba.cell (p := ⟨g, 1, none⟩) hg).trans g1
    have x6' : (w2.alloc (.cells #[.slice av 1 cvv, .slice af 0 cf, .slice al 0 cl, .slice (some ⟨g, 0, none⟩) 1 cap] 25)).cell? ⟨cg, 20, none⟩ = some (.int .i64 1) := (hba.cell (p := ⟨cg, 20, none⟩) hcg).trans x6
    have hPr := print_any (hPW.below hba) ((ht.keep (hB2.mono hB)).keep (hba.mono (Nat.le_trans hB hB2.size))) (Nat.le_trans hB (Nat.le_trans hB2.size hba.size)) (by rw [hLn]; exact alive_ok)
    rw [hLn, alive_print] at hPr
    have HBB := hide (hB2.trans (hba.mono hB2.size))
    replace hPr : Calls Tryz.prog 11 #[.agg #[.slice av 1 cvv, .slice af 0 cf, .slice al 0 cl, .slice (some ⟨g, 0, none⟩) 1 cap]] (w2.alloc (.cells #[.slice av 1 cvv, .slice af 0 cf, .slice al 0 cl, .slice (some ⟨g, 0, none⟩) 1 cap] 25)) _ := hPr
    have hlit : ((bs aliveO).toList == aliveO) = true := by rw [bs_toList]; exact beq_self_eq_true _
    unfold aliveO at hlit hPr
    clear hPW hLn ht hB hg hcg g0 g1 x6 I7 hB2 n1 n2 n3 n4 hba
    go_wp2_with fail
    refine (lwNum_any 0 _).mono ?_
    rintro e w4 ⟨rfl, rfl⟩
    go_wp2_with fail
    refine hPr.mono ?_
    clear hPr
    rintro e w5 ⟨rfl, hB5⟩
    have HF := hide (HBB.out.trans (hB5.mono HBB.out.size))
    clear hB5 g1' x6'
    go_wp2_with fail
    go_ret
    exact ⟨rfl, HF.out⟩
end Go.Proofs.YtlefemndikednaaGreatDoor
/-
  What CodeParses does to the program that it was answered.
-/
namespace Go.Proofs.YtlefemndikednaaGreatDoor
open Go.RowKit Go.Shelf Go.Proofs.Cod

/-- What a text's program is, told as lists. -/
def PV (t : Tx) (er ln : Int) (vs fs ls ts : List Tx) (C : List (List In7)) : Prop := match parseT t with
  | .error p => er = p.1 ∧ ln = p.2 ∧ vs = [] ∧ fs = [] ∧ ls = [] ∧ ts = [] ∧ C = []
  | .ok p => er = 0 ∧ ln = 0 ∧ vs = p.1.nms 118 ∧ fs = p.1.nms 102 ∧ ls = p.1.nms 109 ∧ ts = p.1.nms 116 ∧ C = p.2
theorem PV.eq {t : Tx} {er ln er' ln' : Int} {vs fs ls ts vs' fs' ls' ts' : List Tx} {C C' : List (List In7)} (h : PV t er ln vs fs ls ts C) (h' : PV t er' ln' vs' fs' ls' ts' C') : er = er' ∧ ln = ln' ∧ vs = vs' ∧ fs = fs' ∧ ls = ls' ∧ ts = ts' ∧ C = C' := by
  unfold PV at h h'
  split at h <;> rename_i p hp <;> rw [hp] at h'
  · obtain ⟨a1, a2, a3, a4, a5, a6, a7⟩ := h
    obtain ⟨b1, b2, b3, b4, b5, b6, b7⟩ := h'
    exact ⟨a1.trans b1.symm, a2.trans b2.symm, a3.trans b3.symm, a4.trans b4.symm, a5.trans b5.symm, a6.trans b6.symm, a7.trans b7.symm⟩
  · obtain ⟨a1, a2, a3, a4, a5, a6, a7⟩ := h
    obtain ⟨b1, b2, b3, b4, b5, b6, b7⟩ := h'
    exact ⟨a1.trans b1.symm, a2.trans b2.symm, a3.trans b3.symm, a4.trans b4.symm, a5.trans b5.symm, a6.trans b6.symm, a7.trans b7.symm⟩
theorem parse_told {w : World} {t : Tx} {e : Ending} {w' : World} (h : ParseR w t e w') : Below w.heap.size w w' ∧ ∃ er ln vV fV lV thV vs fs ls L C, e = .returned (.tuple #[.agg #[vV, fV, lV, thV], .int .i64 er, .int .i64 ln]) ∧ ProgW w' w.heap.size vV fV lV thV vs fs ls L C ∧ PV t er ln vs fs ls (L.map Prod.fst) C := by
  obtain ⟨hB, (⟨er, ln, he, rfl⟩ | ⟨s, C, vV, fV, lV, thV, L, he, rfl, hPW, hLn⟩)⟩ := h
  · exact ⟨hB, er, ln, _, _, _, _, [], [], [], [], [], rfl, ProgW.nil _ _, by unfold PV; rw [he]; exact ⟨rfl, rfl, rfl, rfl, rfl, rfl, rfl⟩⟩
  · exact ⟨hB, 0, 0, _, _, _, _, _, _, _, L, C, rfl, hPW, by unfold PV; rw [he]; exact ⟨rfl, rfl, rfl, rfl, rfl, hLn, rfl⟩⟩
/-- The document's program, its blocks from base on. -/
structure QView (w : World) (base : Nat) (vV fV lV tV : Value) (P : RP) (TV : List (Value × Value)) : Prop where
  v : w.ownsRow base 9 1 vV P.vs.length (P.vs.map strW)
  f : w.ownsRow base 9 1 fV P.fs.length (P.fs.map strW)
  l : w.ownsRow base 9 1 lV P.ls.length (P.ls.map strW)
  t : w.ownsRow base 67 3 tV P.thr.length ((P.thr.zip TV).flatMap thC)
  len : TV.length = P.thr.length
  c : ∀ (j : Nat) (th : RTh) (p : Value × Value), P.thr[j]? = some th → TV[j]? = some p → w.ownsRow base 71 9 p.1 th.code.length (th.code.flatMap riC)
theorem QView.view {w : World} {base : Nat} {vV fV lV tV : Value} {P : RP} {TV : List (Value × Value)} (h : QView w base vV fV lV tV P TV) : DView w vV fV lV tV P TV :=
  ⟨c_base h.v (Nat.zero_le _), c_base h.f (Nat.zero_le _), c_base h.l (Nat.zero_le _), c_base h.t (Nat.zero_le _), h.len, fun j th p h1 h2 => c_base (h.c j th p h1 h2) (Nat.zero_le _)⟩
theorem c_above {w w' : World} {base e size n : Nat} {v : Value} {xs : List Value} (h : w.ownsRow base e size v n xs) (hb : ∀ k, base ≤ k → k < w.heap.size → w'.heap[k]? = w.heap[k]?) : w'.ownsRow base e size v n xs := owns_same h fun g e => hb g (h.lt g e).1 (h.lt g e).2
theorem QView.above {w w' : World} {base : Nat} {vV fV lV tV : Value} {P : RP} {TV : List (Value × Value)} (h : QView w base vV fV lV tV P TV) (hb : ∀ k, base ≤ k → k < w.heap.size → w'.heap[k]? = w.heap[k]?) : QView w' base vV fV lV tV P TV :=
  ⟨c_above h.v hb, c_above h.f hb, c_above h.l hb, c_above h.t hb, h.len, fun j th p h1 h2 => c_above (h.c j th p h1 h2) hb⟩
theorem RfW.qview {w : World} {tag : Nat → RT} {base pb : Nat} {P : RP} {U : RV} (h : RfW w tag base pb P U) : QView w base (U.V 118) (U.V 102) (U.V 109) U.tV P U.TV := by
  have hl : ∀ {k : Int}, isN k → w.ownsRow base 9 1 (U.V k) (P.get k).length ((P.get k).map strW) := fun hk => by
    have := (h.rows _ hk).row
    rw [List.length_map] at this
    exact this
  exact ⟨hl (k := 118) (by simp [isN]), hl (k := 102) (by simp [isN]), hl (k := 109) (by simp [isN]), h.trow, h.len, fun j th p h1 h2 => (h.ths j th p h1 h2).code⟩
theorem QView.nil (w : World) (base : Nat) : QView w base (.slice none 0 0) (.slice none 0 0) (.slice none 0 0) (.slice none 0 0) RP.new [] :=
  ⟨World.ownsRow_nil _ _ _ _, World.ownsRow_nil _ _ _ _, World.ownsRow_nil _ _ _ _, World.ownsRow_nil _ _ _ _, rfl, (fun j th p h => by cases h)⟩
theorem rparse_told {w : World} {t : Tx} {e : Ending} {w' : World} (h : RParseR w t e w') : Below w.heap.size w w' ∧ ∃ er ln vV fV lV tV P TV, e = .returned (.tuple #[.agg #[vV, fV, lV, tV], .int .i64 er, .int .i64 ln]) ∧ QView w' w.heap.size vV fV lV tV P TV ∧ PV t er ln P.vs P.fs P.ls P.names (P.thr.map fun th => th.code.map RI.i) := by
  obtain ⟨hB, (⟨er, ln, he, rfl⟩ | ⟨s, C, tag, pb, P, U, he, rfl, hW, hK, hC⟩)⟩ := h
  · exact ⟨hB, er, ln, _, _, _, _, RP.new, [], rfl, QView.nil _ _, by unfold PV; rw [he]; exact ⟨rfl, rfl, rfl, rfl, rfl, rfl, rfl⟩⟩
  · refine ⟨hB, 0, 0, _, _, _, _, P, U.TV, rfl, hW.qview, ?_⟩
    unfold PV
    rw [he]
    have k1 := hK 118 (by simp [isK])
    have k2 := hK 102 (by simp [isK])
    have k3 := hK 109 (by simp [isK])
    have k4 := hK 116 (by simp [isK])
    exact ⟨rfl, rfl, k1.symm, k2.symm, k3.symm, k4.symm, hC.symm⟩
/-- The program's own rows while they are turned: b0: the first of its blocks, n1: behind the last. -/
structure MutP (W : World) (b0 n1 : Nat) (va ta : Value) (nv : Nat) (L : List (Tx × Value)) (C : List (List In7)) (vs' : List Tx) (L' : List (Tx × Value)) (wr : World) : Prop where
  v : wr.ownsRow b0 9 1 va nv (vs'.map strW)
  t : wr.ownsRow b0 38 2 ta L.length (thrC L')
  c : ∀ (j : Nat) (q : Tx × Value) (is : List In7), L[j]? = some q → C[j]? = some is → ∃ is', is'.length = is.length ∧ wr.ownsRow b0 42 7 q.2 is.length (codeC is')
  out : ∀ k, k < b0 ∨ n1 ≤ k → wr.heap[k]? = W.heap[k]?
  size : wr.heap.size = W.heap.size
  os : wr.os = W.os
  tape : wr.tape = W.tape
  output : wr.output = W.output
  vl : vs'.length = nv
  tl : L'.length = L.length
  low : ∀ g, (va.ownBlock = some g ∨ ta.ownBlock = some g ∨ ∃ (j : Nat) (q : Tx × Value), L[j]? = some q ∧ q.2.ownBlock = some g) → g < n1
/-- A write into a row of one type leaves rows of another as they are. -/
theorem c_other {w : World} {base e size n base' e' size' n' : Nat} {v v' : Value} {xs xs' : List Value} (h : w.ownsRow base e size v n xs) (h' : w.ownsRow base' e' size' v' n' xs') {g : Nat} (hg : v'.ownBlock = some g) (hne : e ≠ e') (j : Nat) (u : Value) : (w.setCell ⟨g, j, none⟩ u).ownsRow base e size v n xs := by
  refine owns_same h fun g2 e2 => Below.heap_setCell _ ⟨g, j, none⟩ _ g2 ?_
  rintro rfl
  rcases h.2 with ⟨q, _⟩ | ⟨g1, cap, cur, q, _, q2, _⟩
  · rw [q] at e2; cases e2
  · rw [q] at e2
    have e2 : some g1 = some g2 := e2
    cases e2
    rcases h'.2 with ⟨p, _⟩ | ⟨g3, cap', cur', p, _, p2, _⟩
    · rw [p] at hg; cases hg
    · rw [p] at hg
      have hg : some g3 = some _ := hg
      cases hg
      rw [q2] at p2
      cases p2
      exact hne rfl
/-- A write into an instruction's first cell. -/
theorem c_code {w : World} {base : Nat} {v : Value} {is : List In7} {n : Nat} (hn : is.length = n) (h : w.ownsRow base 42 7 v n (codeC is)) (g k : Nat) (x : Tx) : ∃ is', is'.length = n ∧ (w.setCell ⟨g, k * 7, none⟩ (.string (bs x))).ownsRow base 42 7 v n (codeC is') := by
  by_cases hg : v.ownBlock = some g
  · rcases h.2 with ⟨q, _⟩ | ⟨g1, cap, cur, q, _⟩
    · rw [q] at hg; cases hg
    · subst q
      have hg : some g1 = some g := hg
      cases hg
      have hs := (h.stored (k * 7) (.string (bs x))).1
      by_cases hk : k < is.length
      · obtain ⟨i, hi⟩ : ∃ i, is[k]? = some i := ⟨_, List.getElem?_eq_getElem hk⟩
        have e := flat_set (f := fun i : In7 => (insC i).toList) (m := 7) (r := 0) (y := { i with op := x }) (u := .string (bs x)) insL_len hi (by omega) rfl
        rw [Nat.add_zero] at e
        refine ⟨is.set k { i with op := x }, by rw [List.length_set]; exact hn, ?_⟩
        unfold codeC at hs ⊢
        rw [e] at hs; exact hs
      · refine ⟨is, hn, ?_⟩
        rw [List.set_eq_of_length_le (by rw [codeC_len]; omega)] at hs
        exact hs
  · exact ⟨is, hn, owns_same h fun g2 e2 => Below.heap_setCell _ ⟨g, k * 7, none⟩ _ g2 (fun e => hg (by rw [e2, e]))⟩
section
variable {W : World} {b0 n1 : Nat} {va ta : Value} {nv : Nat} {L : List (Tx × Value)} {C : List (List In7)} {vs' : List Tx} {L' : List (Tx × Value)} {wr : World}
theorem MutP.setV (h : MutP W b0 n1 va ta nv L C vs' L' wr) {g cap i : Nat} (hv : va = .slice (some ⟨g, 0, none⟩) nv cap) (hi : i < nv) (x : Tx) : MutP W b0 n1 va ta nv L C (vs'.set i x) L' (wr.setCell ⟨g, i, none⟩ (.string (bs x))) := by
  have hg : va.ownBlock = some g := by rw [hv]; rfl
  refine ⟨?_, c_other h.t h.v hg (by decide) _ _, fun j q is h1 h2 => ?_, fun k hk => ?_, by rw [World.size_setCell]; exact h.size, h.os, h.tape, h.output, by rw [List.length_set]; exact h.vl, h.tl, h.low⟩
  · have hr := h.v
    rw [hv] at hr ⊢
    have := (hr.stored i (.string (bs x))).1
    rw [List.map_set]; exact this
  · obtain ⟨is', e1, e2⟩ := h.c j q is h1 h2
    exact ⟨is', e1, c_other e2 h.v hg (by decide) _ _⟩
  · rw [Below.heap_setCell _ ⟨g, i, none⟩ _ k (fun e => ?_)]
    · exact h.out k hk
    · have e : k = g := e
      have h1 := (h.v.lt g hg).1
      have h2 := h.low g (.inl hg)
      omega
theorem MutP.setT (h : MutP W b0 n1 va ta nv L C vs' L' wr) {g cap i : Nat} (ht : ta = .slice (some ⟨g, 0, none⟩) L.length cap) {q : Tx × Value} (hi : L'[i]? = some q) (x : Tx) : MutP W b0 n1 va ta nv L C vs' (L'.set i (x, q.2)) (wr.setCell ⟨g, i * 2, none⟩ (.string (bs x))) := by
  have hg : ta.ownBlock = some g := by rw [ht]; rfl
  refine ⟨c_other h.v h.t hg (by decide) _ _, ?_, fun j q is h1 h2 => ?_, fun k hk => ?_, by rw [World.size_setCell]; exact h.size, h.os, h.tape, h.output, h.vl, by rw [List.length_set]; exact h.tl, h.low⟩
  · have hr := h.t
    rw [ht] at hr ⊢
    have hs := (hr.stored (i * 2) (.string (bs x))).1
    have e := flat_set (f := fun p : Tx × Value => [Value.string (bs p.1), p.2]) (m := 2) (r := 0) (y := (x, q.2)) (u := .string (bs x)) thrL_len hi (by omega) rfl
    rw [Nat.add_zero] at e
    unfold thrC at hs ⊢
    rw [e] at hs; exact hs
  · obtain ⟨is', e1, e2⟩ := h.c j q is h1 h2
    exact ⟨is', e1, c_other e2 h.t hg (by decide) _ _⟩
  · rw [Below.heap_setCell _ ⟨g, i * 2, none⟩ _ k (fun e => ?_)]
    · exact h.out k hk
    · have e : k = g := e
      have h1 := (h.t.lt g hg).1
      have h2 := h.low g (.inr (.inl hg))
      omega
theorem MutP.setC (h : MutP W b0 n1 va ta nv L C vs' L' wr) {j : Nat} {q : Tx × Value} {is : List In7} (hj : L[j]? = some q) (hC : C[j]? = some is) {g : Nat} (hg : q.2.ownBlock = some g) (k : Nat) (x : Tx) : MutP W b0 n1 va ta nv L C vs' L' (wr.setCell ⟨g, k * 7, none⟩ (.string (bs x))) := by
  obtain ⟨is0, e0, hr0⟩ := h.c j q is hj hC
  refine ⟨c_other h.v hr0 hg (by decide) _ _, c_other h.t hr0 hg (by decide) _ _, fun j' q' is' h1 h2 => ?_, fun k' hk => ?_, by rw [World.size_setCell]; exact h.size, h.os, h.tape, h.output, h.vl, h.tl, h.low⟩
  · obtain ⟨is1, e1, e2⟩ := h.c j' q' is' h1 h2
    exact c_code e1 e2 g k x
  · rw [Below.heap_setCell _ ⟨g, k * 7, none⟩ _ k' (fun e => ?_)]
    · exact h.out k' hk
    · have e : k' = g := e
      have h1 := (hr0.lt g hg).1
      have h2 := h.low g (.inr (.inr ⟨j, q, hj, hg⟩))
      omega
end
end Go.Proofs.YtlefemndikednaaGreatDoor
