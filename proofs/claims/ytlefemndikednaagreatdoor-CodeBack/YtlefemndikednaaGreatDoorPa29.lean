import Derived.Test.YtlefemndikednaaGreatDoorPa22
import Derived.Test.YtlefemndikednaaGreatDoorPa26
import Derived.Test.YtlefemndikednaaGreatDoorPa28
set_option linter.unusedVariables false
set_option linter.unusedSimpArgs false
/-
  CodeBack.
-/
namespace Go.Proofs.YtlefemndikednaaGreatDoor
open Go.RowKit Go.Shelf Go.Proofs.Cod

theorem PV.back {t : Tx} {ln : Int} {vs fs ls ts : List Tx} {C : List (List In7)} (h : PV t 0 ln vs fs ls ts C) {U : Tx} (hl : U.length ≤ 3000) (hU : ((splitT 10 U).map wordsT).filter ne1 = ((splitT 10 (printW vs fs ls ts C)).map wordsT).filter ne1) {er' ln' : Int} {vs' fs' ls' ts' : List Tx} {C' : List (List In7)} (h' : PV U er' ln' vs' fs' ls' ts' C') : er' = 0 ∧ vs = vs' ∧ fs = fs' ∧ ls = ls' ∧ ts = ts' ∧ C = C' := by
  unfold PV at h
  split at h
  · rename_i p hp
    exact absurd h.1.symm (parse_er hp)
  · rename_i p hp
    obtain ⟨a1, a2, a3, a4, a5, a6, a7⟩ := h
    subst a3 a4 a5 a6 a7
    obtain ⟨s', g1, g2⟩ := back_any (s := p.1) (C := p.2) hp hl hU
    unfold PV at h'
    rw [g1] at h'
    obtain ⟨b1, b2, b3, b4, b5, b6, b7⟩ := h'
    have k1 := g2 118 (by simp [isK])
    have k2 := g2 102 (by simp [isK])
    have k3 := g2 109 (by simp [isK])
    have k4 := g2 116 (by simp [isK])
    exact ⟨b1, by rw [b3]; exact k1.symm, by rw [b4]; exact k2.symm, by rw [b5]; exact k3.symm, by rw [b6]; exact k4.symm, b7.symm⟩
theorem zb {x : Tx} {n : Nat} (h : x.length + n ≤ 4611686018427387904) : ¬ 9223372036854775807 < (bs x).size + n := by
  rw [bs_size]; omega
theorem mo_len (t : Tx) : (t.flatMap moB).length ≤ t.length * 8 := by
  induction t with
  | nil => simp
  | cons c t ih =>
    rw [List.flatMap_cons, List.length_append, List.length_cons]
    have : (moB c).length ≤ 8 := by
      unfold moB
      split
      · simp
      · split <;> simp
    omega
theorem mo_sz {t : Tx} (h : t.length ≤ 140737488355328) (i : Nat) : (more0 ++ (t.take i).flatMap moB).length + 8 ≤ 4611686018427387904 := by
  rw [List.length_append]
  have h1 := mo_len (t.take i)
  have h2 : (t.take i).length ≤ t.length := by rw [List.length_take]; omega
  have h3 : more0.length = 12 := rfl
  omega
theorem mo_succ {t : Tx} {i : Nat} (h : i < t.length) : more0 ++ (t.take (i + 1)).flatMap moB = (more0 ++ (t.take i).flatMap moB) ++ moB t[i] := by
  rw [List.take_succ_eq_append_getElem h, List.flatMap_append, List.flatMap_cons, List.flatMap_nil, List.append_nil, List.append_assoc]
theorem ext_one {T : Tx} {i : Nat} (h : i < T.length) : (bs T).extract i (i + 1) = bs [T[i]] := by
  rw [bs_extract, List.take_succ_eq_append_getElem h, List.drop_left' (by rw [List.length_take]; omega)]
theorem c32_no {c : UInt8} (h : c ≠ 32) : ((c.toNat : Int) == 32) = false := by
  cases hb : ((c.toNat : Int) == 32) with
  | false => rfl
  | true =>
    have h1 : (c.toNat : Int) = 32 := by simpa using hb
    exact absurd (UInt8.toNat_inj.1 (show c.toNat = 32 by omega)) h
theorem c10_no {c : UInt8} (h : c ≠ 10) : ((c.toNat : Int) == 10) = false := by
  cases hb : ((c.toNat : Int) == 10) with
  | false => rfl
  | true =>
    have h1 : (c.toNat : Int) = 10 := by simpa using hb
    exact absurd (UInt8.toNat_inj.1 (show c.toNat = 10 by omega)) h
theorem wi_of {i n : Nat} (h : i < n) (hn : n ≤ 140737488355328) : wrap64 ((i : Int) + 1) = (i : Int) + 1 := IntWalk.wrap64_in _ (by omega)
set_option maxRecDepth 100000 in
set_option maxHeartbeats 4000000 in
theorem codeBack_any (t : Tx) (w : World) {B : Nat} (ht : Tabs w B) (hB : B ≤ w.heap.size) :
    Calls Tryz.prog 5 #[.string (bs t)] w fun e w' => e = .returned (.bool true) ∧ Below w.heap.size w w' := by
  have hl3 := ht.lt
  have hpa : Hid (∀ (u : Tx) (wr : World), Below B w wr → Calls Tryz.prog 6 #[.string (bs u)] wr (ParseR wr u)) := fun u wr hb => by
    have h' := ht.keep hb
    exact parse_full u wr h'.heads h'.shapes (by show 0 < _; have := hb.size; omega) (by show 1 < _; have := hb.size; omega)
  have hpa0 := hpa.out t w (Below.refl _ _)
  have hrp := hide (fun wr => rParse_full t wr)
  have hal : Hid (∀ wr, Below B w wr → Calls Tryz.prog 10 #[] wr fun e w' => e = .returned (.bool true) ∧ Below wr.heap.size wr w') := fun wr hb => alive_any (ht.keep hb) (Nat.le_trans hB hb.size)
  have HT := hide (⟨ht, hB⟩ : _ ∧ _)
  clear ht hl3 hB
  go_enter Tryz.func5, Tryz.ntmps5
  go_wp2_with fail
  refine hpa0.mono ?_
  clear hpa0
  intro e w1 hr
  obtain ⟨hB1, er, ln, va, fa, la, ta, vs, fs, ls, L, C, rfl, hPW, hPV⟩ := parse_told hr
  clear hr
  obtain ⟨av, cv, ev⟩ := owns_len hPW.v
  obtain ⟨af, cf, ef⟩ := owns_len hPW.f
  obtain ⟨al, cl, el⟩ := owns_len hPW.l
  obtain ⟨at', ct, et⟩ := owns_len hPW.t
  subst ev ef el et
  have H1 := hide (⟨hB1, hPW, hPV⟩ : _ ∧ _ ∧ _)
  have h2 := hrp.out (w1.alloc (.cells #[.slice av vs.length cv, .slice af fs.length cf, .slice al ls.length cl, .slice at' L.length ct] 25))
  clear hB1 hPW hPV
  go_wp2_with fail
  refine h2.mono ?_
  clear h2
  intro e w2 hr
  obtain ⟨hB2, er', ln', vd, fd, ld, td, P, TV, rfl, hQ, hPV', -⟩ := rparse_told2 hr
  clear hr hrp
  obtain ⟨hB1, hPW, hPV⟩ := H1.out
  obtain ⟨rfl, rfl, -, -, -, -, -⟩ := hPV.eq hPV'
  obtain ⟨dv, ev', edv⟩ := owns_len hQ.v
  obtain ⟨df, ef', edf⟩ := owns_len hQ.f
  obtain ⟨dl, el', edl⟩ := owns_len hQ.l
  obtain ⟨dt, et', edt⟩ := owns_len hQ.t
  subst edv edf edl edt
  have hba : Below w1.heap.size w1 (w1.alloc (.cells #[.slice av vs.length cv, .slice af fs.length cf, .slice al ls.length cl, .slice at' L.length ct] 25)) := (Below.refl _ _).alloc (Nat.le_refl _) _
  have hkA : (w1.alloc (.cells #[.slice av vs.length cv, .slice af fs.length cf, .slice al ls.length cl, .slice at' L.length ct] 25)).heap[w1.heap.size]? = some (.cells #[.slice av vs.length cv, .slice af fs.length cf, .slice al ls.length cl, .slice at' L.length ct] 25) := World.alloc_heap_new w1 _
  generalize w1.alloc (.cells #[.slice av vs.length cv, .slice af fs.length cf, .slice al ls.length cl, .slice at' L.length ct] 25) = wa at *
  have hbb : Below w2.heap.size w2 (w2.alloc (.cells #[.slice dv P.vs.length ev', .slice df P.fs.length ef', .slice dl P.ls.length el', .slice dt P.thr.length et'] 31)) := (Below.refl _ _).alloc (Nat.le_refl _) _
  generalize hwb : w2.alloc (.cells #[.slice dv P.vs.length ev', .slice df P.fs.length ef', .slice dl P.ls.length el', .slice dt P.thr.length et'] 31) = wb at *
  have hB2' : Below w1.heap.size w1 w2 := hba.trans (hB2.mono hba.size)
  have hBb : Below w1.heap.size w1 wb := hB2'.trans (hbb.mono hB2'.size)
  have hn1a : w1.heap.size < wa.heap.size := (Array.getElem?_eq_some_iff.1 hkA).1
  have hkA2 := (hB2.block _ hn1a).trans hkA
  have hkAb := (hbb.block _ (Array.getElem?_eq_some_iff.1 hkA2).1).trans hkA2
  have hPb := hPW.below hBb
  have hB0 := hB1.trans (hBb.mono hB1.size)
  obtain ⟨ht, hB⟩ := HT.out
  replace hwb := hide hwb
  rcases hPV.cases with hne | ⟨rfl, hok⟩
  · have hneb : (er != 0) = true := by simpa using hne
    have hA := hal.out wb (hB0.mono hB)
    have HB0 := hide hB0
    clear hB1 hPW hPV hPV' hba hkA hbb hB2' hBb hn1a hkA2 hkAb hPb hB0 hQ hB2 H1 ht hB hne
    go_wp2_with fail
    rw [hwb.out]
    clear hwb
    refine (lwNum_any er _).mono ?_
    rintro e w4 ⟨rfl, rfl⟩
    go_wp2_with fail
    refine (lwNum_any er _).mono ?_
    rintro e w4 ⟨rfl, rfl⟩
    go_wp2_with fail
    refine hA.mono ?_
    clear hA
    rintro e w8 ⟨rfl, hB8⟩
    have HF := hide (HB0.out.trans (hB8.mono HB0.out.size))
    clear hB8
    go_wp2_with fail
    go_ret
    exact ⟨rfl, HF.out⟩
  · have htb := ht.keep (hB0.mono hB)
    have hBb' := Nat.le_trans hB hB0.size
    have hPr := print_any hPb htb hBb' hok
    have hTl := hok.len
    obtain ⟨a0, a1, a2, a3⟩ := box_cells hkAb
    have H2 := hide (⟨hPb, htb, hBb', hok, hkAb, hB0, hPV⟩ : _ ∧ _ ∧ _ ∧ _ ∧ _ ∧ _ ∧ _)
    generalize htx : printW vs fs ls (L.map Prod.fst) C = T at hPr hTl
    replace htx := hide htx
    replace hTl := hide hTl
    clear hB1 hPW hPV hPV' hba hkA hbb hB2' hBb hn1a hkA2 hkAb hPb hB0 hQ hB2 H1 ht hB htb hBb' hok
    go_wp2_with fail
    rw [hwb.out]
    clear hwb
    refine (lwNum_any 0 _).mono ?_
    rintro e w4 ⟨rfl, rfl⟩
    go_wp2_with fail
    refine hPr.mono ?_
    clear hPr a0 a1 a2 a3
    rintro e w3 ⟨rfl, hB3⟩
    obtain ⟨hPb, htb, hBb', hok, hkAb, hB0, hPV⟩ := H2.out
    have hkA3 := (hB3.block _ (Array.getElem?_eq_some_iff.1 hkAb).1).trans hkAb
    have hP3 := hPb.below hB3
    have ht3 := htb.keep (hB3.mono hBb')
    have hB03 := hB0.trans (hB3.mono hB0.size)
    have H3 := hide (⟨hP3, ht3, hok, hkA3, hB03, Nat.le_trans hBb' hB3.size, hPV⟩ : _ ∧ _ ∧ _ ∧ _ ∧ _ ∧ _ ∧ _)
    clear hPb htb hBb' hok hkAb hB0 hPV hkA3 hP3 ht3 hB03 hB3 H2
    have hTz := bs_size T
    go_wp2_with fail
    generalize hT0 : T.length = n at *
    replace hT0 := hide hT0
    have hm0 : Hid ((⟨#[35, 32, 97, 32, 114, 101, 109, 97, 114, 107, 10, 10]⟩ : ByteArray) = bs (more0 ++ (T.take 0).flatMap moB)) := rfl
    go_loopw [10, 11] (fun mv iv wr => ∃ i : Nat, i ≤ n ∧ iv = .int .i64 i ∧ mv = .string (bs (more0 ++ (T.take i).flatMap moB)) ∧ wr = w3) (fun _ iv _ => n - (intOf iv).toNat)
    case atStart => exact ⟨0, Nat.zero_le _, rfl, by rw [← hm0.out], rfl⟩
    case round =>
      obtain ⟨i, hi, rfl, rfl, rfl⟩ := hrel
      clear hm0
      by_cases h5 : i < n
      · have hlt : (i : Int) < (n : Int) := by omega
        have hwi : wrap64 ((i : Int) + 1) = (i : Int) + 1 := wi_of h5 hTl.out
        have hiT : i < T.length := by rw [hT0.out]; exact h5
        have hiz : i < (bs T).size := by rw [hTz]; exact h5
        have hgk : (bs T)[i]'hiz = T[i] := bs_get T i hiz
        have hX := mo_sz (t := T) (by rw [hT0.out]; exact hTl.out) i
        have hsu := mo_succ hiT
        have hext := ext_one hiT
        generalize more0 ++ (T.take i).flatMap moB = X at *
        generalize T[i] = c at *
        have HN := hide (⟨hsu, h5⟩ : _ ∧ _)
        by_cases c32 : c = 32
        · have hcb : ((c.toNat : Int) == 32) = true := by subst c32; rfl
          have z1 : ¬ 9223372036854775807 < (bs X).size + 2 := zb (by omega)
          have a1 : bs X ++ ⟨#[32, 32]⟩ = bs (X ++ [32, 32]) := bs_append X [32, 32]
          have hmo : Hid (moB c = [32, 32]) := by unfold Hid moB; rw [if_pos c32]
          clear hX hsu hext h5 hi hiT c32
          go_wp2_with fail
          go_roundw
          case rel =>
            (try rw [hwi])
            exact ⟨i + 1, HN.out.2, rfl, by rw [HN.out.1, hmo.out], by trivial⟩
          case measure =>
            (try rw [hwi])
            exact Nat.sub_lt_sub_left HN.out.2 (Nat.lt_succ_self i)
        · have hcb : ((c.toNat : Int) == 32) = false := c32_no c32
          by_cases c10 : c = 10
          · have hcb2 : ((c.toNat : Int) == 10) = true := by subst c10; rfl
            have z1 : ¬ 9223372036854775807 < (bs X).size + 8 := zb hX
            have a1 : bs X ++ ⟨#[32, 35, 32, 115, 111, 10, 32, 10]⟩ = bs (X ++ [32, 35, 32, 115, 111, 10, 32, 10]) := bs_append X [32, 35, 32, 115, 111, 10, 32, 10]
            have hmo : Hid (moB c = [32, 35, 32, 115, 111, 10, 32, 10]) := by unfold Hid moB; rw [if_neg c32, if_pos c10]
            clear hX hsu hext h5 hi hiT c32 c10
            go_wp2_with fail
            go_roundw
            case rel =>
              (try rw [hwi])
              exact ⟨i + 1, HN.out.2, rfl, by rw [HN.out.1, hmo.out], by trivial⟩
            case measure =>
              (try rw [hwi])
              exact Nat.sub_lt_sub_left HN.out.2 (Nat.lt_succ_self i)
          · have hcb2 : ((c.toNat : Int) == 10) = false := c10_no c10
            have z1 : ¬ 9223372036854775807 < (bs X).size + (bs [c]).size := zb (by rw [bs_size]; simp; omega)
            have a1 : bs X ++ bs [c] = bs (X ++ [c]) := bs_append X [c]
            have hmo : Hid (moB c = [c]) := by unfold Hid moB; rw [if_neg c32, if_neg c10]
            have hl1 : (i : Int) ≤ (i : Int) + 1 := by omega
            have hl2 : (i : Int) + 1 ≤ (n : Int) := by omega
            clear hX hsu h5 hi hiT c32 c10
            go_wp2_with fail
            go_roundw
            case rel =>
              (try rw [hwi])
              exact ⟨i + 1, HN.out.2, rfl, by rw [HN.out.1, hmo.out], by trivial⟩
            case measure =>
              (try rw [hwi])
              exact Nat.sub_lt_sub_left HN.out.2 (Nat.lt_succ_self i)
      · have hin : i = n := Nat.le_antisymm hi (Nat.le_of_not_lt h5)
        subst hin
        have hge : ¬ (i : Int) < (i : Int) := by omega
        have htk : T.take i = T := by rw [← hT0.out, List.take_length]
        rw [htk]
        have hmw := more_words T
        have hMl : Hid ((more0 ++ T.flatMap moB).length ≥ T.length) := by
          unfold Hid
          clear hpa hal HT
          have hle : T.length ≤ (T.flatMap moB).length := by
            clear hmw htk hge h5 hi hTz hTl H3 hT0 htx
            induction T with
            | nil => simp
            | cons c T ih =>
              rw [List.flatMap_cons, List.length_append, List.length_cons]
              have : 1 ≤ (moB c).length := by
                unfold moB
                split
                · simp
                · split <;> simp
              omega
          rw [List.length_append]; omega
        have hmw : Hid (((splitT 10 (more0 ++ T.flatMap moB)).map wordsT).filter ne1 = ((splitT 10 T).map wordsT).filter ne1) := hmw
        generalize more0 ++ T.flatMap moB = Mo at *
        have hMz := bs_size Mo
        generalize hM0 : Mo.length = mo at *
        replace hM0 := hide hM0
        clear htk h5 hi
        by_cases hT3 : 3000 < i
        · have hMo3 : (3000 : Int) < (mo : Int) := by have := hMl.out; rw [hT0.out] at this; omega
          have hT3' : (3000 : Int) < (i : Int) := by omega
          obtain ⟨hP3, ht3, hok, hkA3, hB03, hBB, hPV⟩ := H3.out
          have hA := hal.out wr (hB03.mono HT.out.2)
          have HB0 := hide hB03
          clear hP3 ht3 hok hkA3 hB03 hBB hPV hT3
          go_wp2_with fail
          refine hA.mono ?_
          clear hA
          rintro e w8 ⟨rfl, hB8⟩
          have HF := hide (HB0.out.trans (hB8.mono HB0.out.size))
          clear hB8
          go_wp2_with fail
          go_ret
          exact ⟨rfl, HF.out⟩
        · have hT3' : ¬ (3000 : Int) < (i : Int) := by omega
          have hTle : Hid (T.length ≤ 3000) := by unfold Hid; rw [hT0.out]; omega
          clear hT3
          by_cases hMo : 3000 < mo
          · have hMo3 : (3000 : Int) < (mo : Int) := by omega
            have hUl : Hid (T.length ≤ 3000) := hTle
            clear hMo
            obtain ⟨hP3, ht3, hok, hkA3, hB03, hBB, hPV⟩ := H3.out
            have hPq := hpa.out T wr (hB03.mono HT.out.2)
            clear hP3 ht3 hok hkA3 hB03 hBB hPV
            go_wp2_with fail
            refine hPq.mono ?_
            clear hPq hT3' hMo3 hge
            intro e w5 hr
            obtain ⟨hB5, er5, ln5, v5, f5, l5, t5, vs5, fs5, ls5, L5, C5, rfl, hPW5, hPV5⟩ := parse_told hr
            clear hr
            obtain ⟨hP3, ht3, hok, hkA3, hB03, hBB, hPV⟩ := H3.out
            obtain ⟨rfl, rfl, rfl, rfl, q4, rfl⟩ := hPV.back hTle.out (by rw [htx.out]) hPV5
            obtain ⟨av5, cv5, ev5⟩ := owns_len hPW5.v
            obtain ⟨af5, cf5, ef5⟩ := owns_len hPW5.f
            obtain ⟨al5, cl5, el5⟩ := owns_len hPW5.l
            obtain ⟨at5, ct5, et5⟩ := owns_len hPW5.t
            subst ev5 ef5 el5 et5
            have hb6 : Below w5.heap.size w5 (w5.alloc (.cells #[.slice av5 vs.length cv5, .slice af5 fs.length cf5, .slice al5 ls.length cl5, .slice at5 L5.length ct5] 25)) := (Below.refl _ _).alloc (Nat.le_refl _) _
            have hk6 : (w5.alloc (.cells #[.slice av5 vs.length cv5, .slice af5 fs.length cf5, .slice al5 ls.length cl5, .slice at5 L5.length ct5] 25)).heap[w5.heap.size]? = some (.cells #[.slice av5 vs.length cv5, .slice af5 fs.length cf5, .slice al5 ls.length cl5, .slice at5 L5.length ct5] 25) := World.alloc_heap_new w5 _
            have hB6 := hB5.trans (hb6.mono hB5.size)
            have hB06 := hB03.trans (hB6.mono hB03.size)
            have hPr' := hpa.out T _ (hB06.mono HT.out.2)
            have H6 := hide (⟨hP3.below hB6, ht3.keep (hB6.mono hBB), (hB6.block _ (Array.getElem?_eq_some_iff.1 hkA3).1).trans hkA3, hB06, Nat.le_trans hBB hB6.size, hPW5.below hb6, hk6⟩ : _ ∧ _ ∧ _ ∧ _ ∧ _ ∧ _ ∧ _)
            clear hP3 ht3 hok hkA3 hB03 hBB hPV hB5 hPW5 hPV5 hb6 hk6 hB6 hB06
            go_wp2_with fail
            refine hPr'.mono ?_
            clear hPr'
            intro e w7 hr
            obtain ⟨hB7, er7, ln7, v7, f7, l7, t7, vs7, fs7, ls7, L7, C7, rfl, hPW7, hPV7⟩ := parse_told hr
            clear hr
            obtain ⟨-, -, hok, -, -, -, hPV⟩ := H3.out
            obtain ⟨rfl, rfl, rfl, rfl, q4', rfl⟩ := hPV.back hUl.out (by rw [htx.out]) hPV7
            obtain ⟨hP6, ht6, hkA6, hB06, hBB, hPW6, hk6⟩ := H6.out
            obtain ⟨av7, cv7, ev7⟩ := owns_len hPW7.v
            obtain ⟨af7, cf7, ef7⟩ := owns_len hPW7.f
            obtain ⟨al7, cl7, el7⟩ := owns_len hPW7.l
            obtain ⟨at7, ct7, et7⟩ := owns_len hPW7.t
            subst ev7 ef7 el7 et7
            generalize World.alloc w5 (.cells #[.slice av5 vs.length cv5, .slice af5 fs.length cf5, .slice al5 ls.length cl5, .slice at5 L5.length ct5] 25) = w6 at *
            have hb8 : Below w7.heap.size w7 (w7.alloc (.cells #[.slice av7 vs.length cv7, .slice af7 fs.length cf7, .slice al7 ls.length cl7, .slice at7 L7.length ct7] 25)) := (Below.refl _ _).alloc (Nat.le_refl _) _
            have hk8 : (w7.alloc (.cells #[.slice av7 vs.length cv7, .slice af7 fs.length cf7, .slice al7 ls.length cl7, .slice at7 L7.length ct7] 25)).heap[w7.heap.size]? = some (.cells #[.slice av7 vs.length cv7, .slice af7 fs.length cf7, .slice al7 ls.length cl7, .slice at7 L7.length ct7] 25) := World.alloc_heap_new w7 _
            have hB8 := hB7.trans (hb8.mono hB7.size)
            have hB08 := hB06.trans (hB8.mono hB06.size)
            have hP8 := hP6.below hB8
            have hq8 := hPW6.below hB8
            have hr8 := hPW7.below hb8
            have ht8 := ht6.keep (hB8.mono hBB)
            have hBB8 := Nat.le_trans hBB hB8.size
            have hkA8 := (hB8.block _ (Array.getElem?_eq_some_iff.1 hkA6).1).trans hkA6
            have hk68 := (hB8.block _ (Array.getElem?_eq_some_iff.1 hk6).1).trans hk6
            have hAl := lwAlike_any hP8 hq8 q4
            obtain ⟨a0, a1, a2, a3⟩ := box_cells hkA8
            obtain ⟨d0, d1, d2, d3⟩ := box_cells hk68
            have H8 := hide (⟨hP8, hq8, hr8, ht8, hBB8, hkA8, hk68, hk8, hB08, hok⟩ : _ ∧ _ ∧ _ ∧ _ ∧ _ ∧ _ ∧ _ ∧ _ ∧ _ ∧ _)
            replace q4 := hide q4
            replace q4' := hide q4'
            clear hok hPV hP6 ht6 hkA6 hB06 hBB hPW6 hk6 hPW7 hPV7 hb8 hB8 hB08 hP8 hq8 hr8 ht8 hBB8 hkA8 hk68 hk8 hB7 H6
            go_wp2_with fail
            refine hAl.mono ?_
            clear hAl a0 a1 a2 a3 d0 d1 d2 d3
            rintro e w9 ⟨rfl, hB9⟩
            obtain ⟨hP8, hq8, hr8, ht8, hBB8, hkA8, hk68, hk8, hB08, hok⟩ := H8.out
            generalize World.alloc w7 (.cells #[.slice av7 vs.length cv7, .slice af7 fs.length cf7, .slice al7 ls.length cl7, .slice at7 L7.length ct7] 25) = w8 at *
            have hP9 := hP8.below hB9
            have hq9 := hq8.below hB9
            have hr9 := hr8.below hB9
            have ht9 := ht8.keep (hB9.mono hBB8)
            have hBB9 := Nat.le_trans hBB8 hB9.size
            have hkA9 := (hB9.block _ (Array.getElem?_eq_some_iff.1 hkA8).1).trans hkA8
            have hk69 := (hB9.block _ (Array.getElem?_eq_some_iff.1 hk68).1).trans hk68
            have hk89 := (hB9.block _ (Array.getElem?_eq_some_iff.1 hk8).1).trans hk8
            have hB09 := hB08.trans (hB9.mono hB08.size)
            have hAl := lwAlike_any hP9 hr9 q4'.out
            obtain ⟨a0, a1, a2, a3⟩ := box_cells hkA9
            obtain ⟨d0, d1, d2, d3⟩ := box_cells hk89
            have H9 := hide (⟨hq9, ht9, hBB9, hk69, hB09, hok⟩ : _ ∧ _ ∧ _ ∧ _ ∧ _ ∧ _)
            clear hok hP8 hq8 hr8 ht8 hBB8 hkA8 hk68 hk8 hB08 hP9 hq9 hr9 ht9 hBB9 hkA9 hk69 hk89 hB09 hB9 H8
            go_wp2_with fail
            refine hAl.mono ?_
            clear hAl a0 a1 a2 a3 d0 d1 d2 d3
            rintro e w10 ⟨rfl, hB10⟩
            obtain ⟨hq9, ht9, hBB9, hk69, hB09, hok⟩ := H9.out
            have hq10 := hq9.below hB10
            have ht10 := ht9.keep (hB10.mono hBB9)
            have hBB10 := Nat.le_trans hBB9 hB10.size
            have hk610 := (hB10.block _ (Array.getElem?_eq_some_iff.1 hk69).1).trans hk69
            have hB010 := hB09.trans (hB10.mono hB09.size)
            have hPp := print_any hq10 ht10 hBB10 (by rw [← q4.out]; exact hok)
            rw [← q4.out, htx.out] at hPp
            obtain ⟨d0, d1, d2, d3⟩ := box_cells hk610
            have hteq : ((bs T).toList == (bs T).toList) = true := by simp
            have HB0 := hide hB010
            clear hok hq9 ht9 hBB9 hk69 hB09 hq10 ht10 hBB10 hk610 hB010 hB10 H9
            go_wp2_with fail
            refine (lwNum_any 0 _).mono ?_
            rintro e w4 ⟨rfl, rfl⟩
            go_wp2_with fail
            refine (lwNum_any 0 _).mono ?_
            rintro e w4 ⟨rfl, rfl⟩
            go_wp2_with fail
            refine hPp.mono ?_
            clear hPp d0 d1 d2 d3
            rintro e w11 ⟨rfl, hB11⟩
            have hB011 := HB0.out.trans (hB11.mono HB0.out.size)
            have hA := hal.out w11 (hB011.mono HT.out.2)
            have HB1 := hide hB011
            clear hB11 hB011
            go_wp2_with fail
            refine hA.mono ?_
            clear hA
            rintro e w12 ⟨rfl, hB12⟩
            have HF := hide (HB1.out.trans (hB12.mono HB1.out.size))
            clear hB12
            go_wp2_with fail
            go_ret
            exact ⟨rfl, HF.out⟩
          · have hMo3 : ¬ (3000 : Int) < (mo : Int) := by omega
            have hUw := hmw
            have hUl : Hid (Mo.length ≤ 3000) := by unfold Hid; rw [hM0.out]; omega
            clear hMo
            obtain ⟨hP3, ht3, hok, hkA3, hB03, hBB, hPV⟩ := H3.out
            have hPq := hpa.out T wr (hB03.mono HT.out.2)
            clear hP3 ht3 hok hkA3 hB03 hBB hPV
            go_wp2_with fail
            refine hPq.mono ?_
            clear hPq hT3' hMo3 hge
            intro e w5 hr
            obtain ⟨hB5, er5, ln5, v5, f5, l5, t5, vs5, fs5, ls5, L5, C5, rfl, hPW5, hPV5⟩ := parse_told hr
            clear hr
            obtain ⟨hP3, ht3, hok, hkA3, hB03, hBB, hPV⟩ := H3.out
            obtain ⟨rfl, rfl, rfl, rfl, q4, rfl⟩ := hPV.back hTle.out (by rw [htx.out]) hPV5
            obtain ⟨av5, cv5, ev5⟩ := owns_len hPW5.v
            obtain ⟨af5, cf5, ef5⟩ := owns_len hPW5.f
            obtain ⟨al5, cl5, el5⟩ := owns_len hPW5.l
            obtain ⟨at5, ct5, et5⟩ := owns_len hPW5.t
            subst ev5 ef5 el5 et5
            have hb6 : Below w5.heap.size w5 (w5.alloc (.cells #[.slice av5 vs.length cv5, .slice af5 fs.length cf5, .slice al5 ls.length cl5, .slice at5 L5.length ct5] 25)) := (Below.refl _ _).alloc (Nat.le_refl _) _
            have hk6 : (w5.alloc (.cells #[.slice av5 vs.length cv5, .slice af5 fs.length cf5, .slice al5 ls.length cl5, .slice at5 L5.length ct5] 25)).heap[w5.heap.size]? = some (.cells #[.slice av5 vs.length cv5, .slice af5 fs.length cf5, .slice al5 ls.length cl5, .slice at5 L5.length ct5] 25) := World.alloc_heap_new w5 _
            have hB6 := hB5.trans (hb6.mono hB5.size)
            have hB06 := hB03.trans (hB6.mono hB03.size)
            have hPr' := hpa.out Mo _ (hB06.mono HT.out.2)
            have H6 := hide (⟨hP3.below hB6, ht3.keep (hB6.mono hBB), (hB6.block _ (Array.getElem?_eq_some_iff.1 hkA3).1).trans hkA3, hB06, Nat.le_trans hBB hB6.size, hPW5.below hb6, hk6⟩ : _ ∧ _ ∧ _ ∧ _ ∧ _ ∧ _ ∧ _)
            clear hP3 ht3 hok hkA3 hB03 hBB hPV hB5 hPW5 hPV5 hb6 hk6 hB6 hB06
            go_wp2_with fail
            refine hPr'.mono ?_
            clear hPr'
            intro e w7 hr
            obtain ⟨hB7, er7, ln7, v7, f7, l7, t7, vs7, fs7, ls7, L7, C7, rfl, hPW7, hPV7⟩ := parse_told hr
            clear hr
            obtain ⟨-, -, hok, -, -, -, hPV⟩ := H3.out
            obtain ⟨rfl, rfl, rfl, rfl, q4', rfl⟩ := hPV.back hUl.out (hUw.out.trans (by rw [htx.out])) hPV7
            obtain ⟨hP6, ht6, hkA6, hB06, hBB, hPW6, hk6⟩ := H6.out
            obtain ⟨av7, cv7, ev7⟩ := owns_len hPW7.v
            obtain ⟨af7, cf7, ef7⟩ := owns_len hPW7.f
            obtain ⟨al7, cl7, el7⟩ := owns_len hPW7.l
            obtain ⟨at7, ct7, et7⟩ := owns_len hPW7.t
            subst ev7 ef7 el7 et7
            generalize World.alloc w5 (.cells #[.slice av5 vs.length cv5, .slice af5 fs.length cf5, .slice al5 ls.length cl5, .slice at5 L5.length ct5] 25) = w6 at *
            have hb8 : Below w7.heap.size w7 (w7.alloc (.cells #[.slice av7 vs.length cv7, .slice af7 fs.length cf7, .slice al7 ls.length cl7, .slice at7 L7.length ct7] 25)) := (Below.refl _ _).alloc (Nat.le_refl _) _
            have hk8 : (w7.alloc (.cells #[.slice av7 vs.length cv7, .slice af7 fs.length cf7, .slice al7 ls.length cl7, .slice at7 L7.length ct7] 25)).heap[w7.heap.size]? = some (.cells #[.slice av7 vs.length cv7, .slice af7 fs.length cf7, .slice al7 ls.length cl7, .slice at7 L7.length ct7] 25) := World.alloc_heap_new w7 _
            have hB8 := hB7.trans (hb8.mono hB7.size)
            have hB08 := hB06.trans (hB8.mono hB06.size)
            have hP8 := hP6.below hB8
            have hq8 := hPW6.below hB8
            have hr8 := hPW7.below hb8
            have ht8 := ht6.keep (hB8.mono hBB)
            have hBB8 := Nat.le_trans hBB hB8.size
            have hkA8 := (hB8.block _ (Array.getElem?_eq_some_iff.1 hkA6).1).trans hkA6
            have hk68 := (hB8.block _ (Array.getElem?_eq_some_iff.1 hk6).1).trans hk6
            have hAl := lwAlike_any hP8 hq8 q4
            obtain ⟨a0, a1, a2, a3⟩ := box_cells hkA8
            obtain ⟨d0, d1, d2, d3⟩ := box_cells hk68
            have H8 := hide (⟨hP8, hq8, hr8, ht8, hBB8, hkA8, hk68, hk8, hB08, hok⟩ : _ ∧ _ ∧ _ ∧ _ ∧ _ ∧ _ ∧ _ ∧ _ ∧ _ ∧ _)
            replace q4 := hide q4
            replace q4' := hide q4'
            clear hok hPV hP6 ht6 hkA6 hB06 hBB hPW6 hk6 hPW7 hPV7 hb8 hB8 hB08 hP8 hq8 hr8 ht8 hBB8 hkA8 hk68 hk8 hB7 H6
            go_wp2_with fail
            refine hAl.mono ?_
            clear hAl a0 a1 a2 a3 d0 d1 d2 d3
            rintro e w9 ⟨rfl, hB9⟩
            obtain ⟨hP8, hq8, hr8, ht8, hBB8, hkA8, hk68, hk8, hB08, hok⟩ := H8.out
            generalize World.alloc w7 (.cells #[.slice av7 vs.length cv7, .slice af7 fs.length cf7, .slice al7 ls.length cl7, .slice at7 L7.length ct7] 25) = w8 at *
            have hP9 := hP8.below hB9
            have hq9 := hq8.below hB9
            have hr9 := hr8.below hB9
            have ht9 := ht8.keep (hB9.mono hBB8)
            have hBB9 := Nat.le_trans hBB8 hB9.size
            have hkA9 := (hB9.block _ (Array.getElem?_eq_some_iff.1 hkA8).1).trans hkA8
            have hk69 := (hB9.block _ (Array.getElem?_eq_some_iff.1 hk68).1).trans hk68
            have hk89 := (hB9.block _ (Array.getElem?_eq_some_iff.1 hk8).1).trans hk8
            have hB09 := hB08.trans (hB9.mono hB08.size)
            have hAl := lwAlike_any hP9 hr9 q4'.out
            obtain ⟨a0, a1, a2, a3⟩ := box_cells hkA9
            obtain ⟨d0, d1, d2, d3⟩ := box_cells hk89
            have H9 := hide (⟨hq9, ht9, hBB9, hk69, hB09, hok⟩ : _ ∧ _ ∧ _ ∧ _ ∧ _ ∧ _)
            clear hok hP8 hq8 hr8 ht8 hBB8 hkA8 hk68 hk8 hB08 hP9 hq9 hr9 ht9 hBB9 hkA9 hk69 hk89 hB09 hB9 H8
            go_wp2_with fail
            refine hAl.mono ?_
            clear hAl a0 a1 a2 a3 d0 d1 d2 d3
            rintro e w10 ⟨rfl, hB10⟩
            obtain ⟨hq9, ht9, hBB9, hk69, hB09, hok⟩ := H9.out
            have hq10 := hq9.below hB10
            have ht10 := ht9.keep (hB10.mono hBB9)
            have hBB10 := Nat.le_trans hBB9 hB10.size
            have hk610 := (hB10.block _ (Array.getElem?_eq_some_iff.1 hk69).1).trans hk69
            have hB010 := hB09.trans (hB10.mono hB09.size)
            have hPp := print_any hq10 ht10 hBB10 (by rw [← q4.out]; exact hok)
            rw [← q4.out, htx.out] at hPp
            obtain ⟨d0, d1, d2, d3⟩ := box_cells hk610
            have hteq : ((bs T).toList == (bs T).toList) = true := by simp
            have HB0 := hide hB010
            clear hok hq9 ht9 hBB9 hk69 hB09 hq10 ht10 hBB10 hk610 hB010 hB10 H9
            go_wp2_with fail
            refine (lwNum_any 0 _).mono ?_
            rintro e w4 ⟨rfl, rfl⟩
            go_wp2_with fail
            refine (lwNum_any 0 _).mono ?_
            rintro e w4 ⟨rfl, rfl⟩
            go_wp2_with fail
            refine hPp.mono ?_
            clear hPp d0 d1 d2 d3
            rintro e w11 ⟨rfl, hB11⟩
            have hB011 := HB0.out.trans (hB11.mono HB0.out.size)
            have hA := hal.out w11 (hB011.mono HT.out.2)
            have HB1 := hide hB011
            clear hB11 hB011
            go_wp2_with fail
            refine hA.mono ?_
            clear hA
            rintro e w12 ⟨rfl, hB12⟩
            have HF := hide (HB1.out.trans (hB12.mono HB1.out.size))
            clear hB12
            go_wp2_with fail
            go_ret
            exact ⟨rfl, HF.out⟩
end Go.Proofs.YtlefemndikednaaGreatDoor
