import Derived.Test.YtlpdomgedaockaaGreatDoorOl25
import Derived.Test.YtlpdomgedaockaaGreatDoorOo8
import Derived.Test.YtlpdomgedaockaaGreatDoorOo7
import Derived.Test.YtlpdomgedaockaaGreatDoorOl26
import Derived.Test.YtlpdomgedaockaaGreatDoorOl27
import Derived.Test.YtlpdomgedaockaaGreatDoorOl18
set_option linter.unusedVariables false
set_option linter.unusedSimpArgs false
namespace Go.Proofs.YtlpdomgedaockaaGreatDoor
open Go.RowKit Go.Shelf Go.Proofs.Cod
theorem evs_read {w : World} {base : Nat} {a : Option Addr} {n c : Nat} {l : List Ev} (hn : l.length = n) (h : w.ownsRow base 49 4 (.slice a n c) l.length (l.flatMap evL)) : EvS w a (l.map toO) ∧ n ≤ c ∧ c ≤ maxLen := by
  constructor
  · intro i hi
    rw [List.length_map] at hi
    obtain ⟨e, he⟩ : ∃ e, l[i]? = some e := ⟨_, List.getElem?_eq_getElem hi⟩
    obtain ⟨g, cap, q1, hg, hc⟩ := row_form h hi
    injection q1 with q1 _ _
    subst q1
    have key : ∀ q, q < 4 → w.cell? ⟨g, i * 4 + q, none⟩ = (evL e)[q]? := fun q hq => by
      rw [hc (i * 4 + q) (by omega)]; exact flat_at evL_len he hq
    refine ⟨g, 0, rfl, hg, ?_⟩
    rw [Nat.zero_add, ev_toO he]
    exact ⟨key 0 (by omega), key 1 (by omega), key 2 (by omega), key 3 (by omega)⟩
  · rcases h.2 with ⟨q, q2⟩ | ⟨g, cap, cur, q, _, _, q3, q4, _⟩
    · have q6 : c = 0 := by injection q
      have q5 : n = 0 := by injection q
      exact ⟨by omega, by unfold maxLen; omega⟩
    · have q6 : c = cap := by injection q
      exact ⟨by omega, by omega⟩
theorem four_c {w : World} {b T : Nat} {v0 v1 v2 v3 : Value} (h : w.heap[b]? = some (.cells #[v0, v1, v2, v3] T)) : w.cell? ⟨b, 0, none⟩ = some v0 ∧ w.cell? ⟨b, 1, none⟩ = some v1 ∧ w.cell? ⟨b, 2, none⟩ = some v2 ∧ w.cell? ⟨b, 3, none⟩ = some v3 := by
  refine ⟨?_, ?_, ?_, ?_⟩ <;> simp [World.cell?, h]
theorem ol_len (C : List (List In7)) (s : MS) (l : List Int) : (playM false C s l).2.length ≤ l.length := by
  have : ∀ (r : List Int) (x : MS × List Ev), (r.foldl (plM false C) x).2.length ≤ x.2.length + r.length := by
    intro r
    induction r with
    | nil => intro x; exact Nat.le_refl _
    | cons t r ih =>
      intro x
      have := ih (plM false C x t)
      have h2 : (plM false C x t).2.length ≤ x.2.length + 1 := by
        unfold plM
        by_cases e : canM C x.1 t = 0
        · rw [if_pos e]; simp
        · rw [if_neg e]; omega
      rw [List.foldl_cons, List.length_cons]
      omega
  have q := this l (s, [])
  simp only [List.length_nil, Nat.zero_add] at q
  exact q
set_option maxRecDepth 100000 in
set_option maxHeartbeats 8000000 in
theorem orderLocks_any (t : Tx) {w : World} {B : Nat} (ht : Tabs w B) (hB : B ≤ w.heap.size) (hTab : Tab w) {a : Option Addr} {n cap : Nat} {l : List Int} (hn : l.length = n) (hl : Is w a l) (hn1 : n < 1048576) :
    Calls Tryz.prog 3 #[.string (bs t), .slice a n cap] w fun e w' => e = .returned (.bool true) ∧ Below w.heap.size w w' := by
  have hL := load_any t ht hB
  have HA := hide (fun (w' : World) (hb : Below w.heap.size w w') => alive3_true before_said races_said w' (tab_below hTab hb))
  have HT := hide (⟨ht, hl, hn, hn1, hTab⟩ : _ ∧ _ ∧ _ ∧ _ ∧ _)
  clear ht hl hn hn1 hTab
  go_enter Tryz.func3, Tryz.ntmps3
  go_wp2_with fail
  refine hL.mono ?_
  clear hL
  rintro e w1 ⟨hb1, (rfl | ⟨s, C, vV, fV, lV, thV, L, qv, qf, ql, qt, P, TV, he, rfl, hPW, hLn, hQ, -⟩)⟩
  · have hB2 : ∀ o1 o2, Below w.heap.size w ((w1.alloc o1).alloc o2) := fun o1 o2 => (hb1.alloc hb1.size o1).alloc (by show w.heap.size ≤ (w1.heap.push o1).size; have := hb1.size; simp; omega) o2
    have hAl := HA.out _ (hB2 (.cells #[.slice none 0 0, .slice none 0 0, .slice none 0 0, .slice none 0 0] 26) (.cells #[.slice none 0 0, .slice none 0 0, .slice none 0 0, .slice none 0 0] 29))
    have HB2 := hide (hB2 (.cells #[.slice none 0 0, .slice none 0 0, .slice none 0 0, .slice none 0 0] 26) (.cells #[.slice none 0 0, .slice none 0 0, .slice none 0 0, .slice none 0 0] 29))
    unfold nilV
    clear hb1 hB2 HA HT
    go_wp2_with fail
    refine hAl.mono ?_
    rintro e w2 ⟨rfl, hb2⟩
    have HN := hide (HB2.out.trans (hb2.mono HB2.out.size))
    clear hAl hb2 HB2
    go_wp2_with fail
    go_ret
    exact ⟨rfl, HN.out⟩
  · obtain ⟨⟨x1, y1, z1, rfl⟩, ⟨x2, y2, z2, rfl⟩, ⟨x3, y3, z3, rfl⟩, ⟨x4, y4, z4, rfl⟩⟩ : (∃ a n c, qv = .slice a n c) ∧ (∃ a n c, qf = .slice a n c) ∧ (∃ a n c, ql = .slice a n c) ∧ (∃ a n c, qt = .slice a n c) := by
      obtain ⟨u1, v1, e1⟩ := owns_len hQ.v
      obtain ⟨u2, v2, e2⟩ := owns_len hQ.f
      obtain ⟨u3, v3, e3⟩ := owns_len hQ.l
      obtain ⟨u4, v4, e4⟩ := owns_len hQ.t
      exact ⟨⟨_, _, _, e1⟩, ⟨_, _, _, e2⟩, ⟨_, _, _, e3⟩, ⟨_, _, _, e4⟩⟩
    obtain ⟨fn1, fn2, fn3⟩ := fit_of he hLn
    clear hQ
    generalize s.nms 118 = vs at hPW fn1 fn2 fn3
    generalize s.nms 102 = fs at hPW fn1 fn2 fn3
    generalize s.nms 109 = ls at hPW fn1 fn2 fn3
    clear he hLn
    obtain ⟨va, vc, ev⟩ := owns_len hPW.v
    obtain ⟨fa, fc, ef⟩ := owns_len hPW.f
    obtain ⟨la, lc, el⟩ := owns_len hPW.l
    obtain ⟨ta, tc, et⟩ := owns_len hPW.t
    obtain ⟨nv, hnv⟩ : ∃ x, vs.length = x := ⟨_, rfl⟩
    obtain ⟨nf, hnf⟩ : ∃ x, fs.length = x := ⟨_, rfl⟩
    obtain ⟨nl, hnl⟩ : ∃ x, ls.length = x := ⟨_, rfl⟩
    obtain ⟨nt, hnt⟩ : ∃ x, L.length = x := ⟨_, rfl⟩
    rw [hnv] at ev
    rw [hnf] at ef
    rw [hnl] at el
    rw [hnt] at et
    subst ev ef el et
    obtain ⟨ht, hl, hn, hn1, hTab⟩ := HT.out
    obtain ⟨W2, hW2⟩ : ∃ W2, (w1.alloc (.cells #[.slice va nv vc, .slice fa nf fc, .slice la nl lc, .slice ta nt tc] 26)).alloc (.cells #[.slice x1 y1 z1, .slice x2 y2 z2, .slice x3 y3 z3, .slice x4 y4 z4] 29) = W2 := ⟨_, rfl⟩
    have hza : (w1.alloc (.cells #[.slice va nv vc, .slice fa nf fc, .slice la nl lc, .slice ta nt tc] 26)).heap.size = w1.heap.size + 1 := by show (w1.heap.push _).size = _; simp
    have hb2 : Below w1.heap.size w1 W2 := by rw [← hW2]; exact ((Below.refl _ _).alloc (Nat.le_refl _) _).alloc (by rw [hza]; omega) _
    have hk2 : W2.heap[w1.heap.size]? = some (.cells #[.slice va nv vc, .slice fa nf fc, .slice la nl lc, .slice ta nt tc] 26) := by
      rw [← hW2, Below.heap_alloc _ _ _ (by rw [hza]; omega)]; exact World.alloc_heap_new w1 _
    have hB2 := hb1.trans (hb2.mono hb1.size)
    have hP2 := hPW.below hb2
    have hR := run_any (cap := cap) hP2 fn1 fn2 fn3 (ht.keep (hB2.mono hB)) (by have := hB2.size; omega) hn (hl.below hB2) hn1
    have hCl : C.length = nt := hP2.len.trans hnt
    rw [hnv, hnf, hnl, hnt] at hR
    have hft : PFit nv nf nl C := by
      have q := fn2.fit
      have q : PFit vs.length fs.length ls.length C := q
      rw [hnv, hnf, hnl] at q
      exact q
    have hok0 : MOk nv nf nl C (newM nv nf nl nt) := by
      have := newM_ok nv nf nl C
      rw [hCl] at this
      exact this
    have hLk := play_lk hft hok0 (fun j hj => new_lk j hj) l
    have hLen : (playM false C (newM nv nf nl nt) l).2.length ≤ n := by
      have q := ol_len C (newM nv nf nl nt) l
      omega
    have hls4 : nl ≤ 4 := by rw [← hnl]; exact fn1.l
    generalize showM (pdOf vs fs ls L C) (playM false C (newM nv nf nl nt) l).1 = sh at hR
    generalize (playM false C (newM nv nf nl nt) l).2 = evs at hR hLk hLen
    obtain ⟨q0, q1, q2, q3⟩ := four_c hk2
    have HK := hide (⟨hLk, hLen, hls4, hn1, hB2, hk2, tab_below hTab hB2⟩ : _ ∧ _ ∧ _ ∧ _ ∧ _ ∧ _ ∧ _)
    replace hW2 := hide hW2
    clear hb1 hza hb2 hk2 hB2 hPW fn1 fn2 fn3 hP2 hCl hft hok0 hLk hLen hls4 hnl hnv hnf hnt ht hl hn hn1 hTab HT
    go_upto_region 4 with fail
    rw [hW2.out]
    clear hW2
    go_wp2_with fail
    refine hR.mono ?_
    rintro e w4 ⟨v, rfl, hrow, hb4⟩
    clear hR q0 q1 q2 q3
    obtain ⟨ea, ec, rfl⟩ := owns_len hrow
    obtain ⟨m, hm⟩ : ∃ x, evs.length = x := ⟨_, rfl⟩
    obtain ⟨hLk, hLen, hls4, hn1, hB2, hk2, hTab2⟩ := HK.out
    rw [hm] at hLen
    have hrow2 := hrow
    rw [hm] at hrow2 ⊢
    obtain ⟨hS4, hc1, hc2⟩ := evs_read hm (by rw [hm]; exact hrow2)
    have hRc := races_said ea m ec (evs.map toO) w4 (by rw [List.length_map]; exact hm) hS4 hc1 hc2 (by omega) (tab_below hTab2 hb4)
    have H4 := hide (⟨hS4, hb4, hm⟩ : _ ∧ _ ∧ _)
    clear hrow hrow2 hS4 hc1 hc2 hb4 hm hLk hLen hls4 hn1 hB2 hk2 hTab2
    go_wp2_with fail
    refine hRc.mono ?_
    rintro e w5 ⟨v, rfl, hPr, hb5⟩
    clear hRc
    obtain ⟨pa, pcap, rfl, -, -, hpc⟩ := hPr
    obtain ⟨hS4, hb4, hm⟩ := H4.out
    obtain ⟨hLk, hLen, hls4, hn1, hB2, hk2, hTab2⟩ := HK.out
    have hmem : ∀ i, i < (Ord.racesTo (Ord.ev (evs.map toO)) m).length → (Ord.racesTo (Ord.ev (evs.map toO)) m).getD i (0, 0) ∈ Ord.racesTo (Ord.ev (evs.map toO)) m := fun i hi => by
      have e : (Ord.racesTo (Ord.ev (evs.map toO)) m).getD i (0, 0) = (Ord.racesTo (Ord.ev (evs.map toO)) m)[i] := by simp [hi]
      rw [e]
      exact List.getElem_mem hi
    have hRL : Hid (∀ i, i < (Ord.racesTo (Ord.ev (evs.map toO)) m).length → ∃ x y : Ev, evs[((Ord.racesTo (Ord.ev (evs.map toO)) m).getD i (0, 0)).1]? = some x ∧ evs[((Ord.racesTo (Ord.ev (evs.map toO)) m).getD i (0, 0)).2]? = some y ∧ ∀ j, j < nl → (has x.t j (evs.take ((Ord.racesTo (Ord.ev (evs.map toO)) m).getD i (0, 0)).1) && has y.t j (evs.take ((Ord.racesTo (Ord.ev (evs.map toO)) m).getD i (0, 0)).2)) = false) := fun i hi => by
      have hm1 := hmem i hi
      generalize (Ord.racesTo (Ord.ev (evs.map toO)) m).getD i (0, 0) = pr at hm1 ⊢
      obtain ⟨pi, pj⟩ := pr
      obtain ⟨r1, r2, -⟩ := (Ord.mem_racesTo _ m pi pj).1 hm1
      have e1 : evs[pi]? = some evs[pi] := List.getElem?_eq_getElem (by omega)
      have e2 : evs[pj]? = some evs[pj] := List.getElem?_eq_getElem (by omega)
      exact ⟨_, _, e1, e2, fun j hj => races_locks hLk hm1 hm.symm e1 e2 hj⟩
    have hplen : (Ord.racesTo (Ord.ev (evs.map toO)) m).length ≤ 1099511627776 := Nat.le_trans (Ord.racesTo_length _ m) (Nat.le_trans (Nat.mul_le_mul (by omega : m ≤ 1048576) (by omega : m ≤ 1048576)) (by omega))
    generalize Ord.racesTo (Ord.ev (evs.map toO)) m = prs at hpc hRL hplen ⊢
    clear hmem
    obtain ⟨np, hnp⟩ : ∃ x, prs.length = x := ⟨_, rfl⟩
    rw [hnp] at hpc hRL hplen ⊢
    have hbW5 : Below W2.heap.size W2 w5 := hb4.trans (hb5.mono hb4.size)
    have hk5 := (hbW5.block w1.heap.size (Array.getElem?_eq_some_iff.1 hk2).1).trans hk2
    have HS : Hid (∀ u, Below w5.heap.size w5 u → EvS u ea (evs.map toO) ∧ u.cell? ⟨w1.heap.size, 2, none⟩ = some (.slice la nl lc)) := fun u hu => ⟨(hS4.below hb5).below hu, (four_c ((hu.block _ (Array.getElem?_eq_some_iff.1 hk5).1).trans hk5)).2.2.1⟩
    have HP : Hid (∀ i, i < np → ∃ b off, pa = some ⟨b, off, none⟩ ∧ ∀ u, Below w5.heap.size w5 u → u.cell? ⟨b, off + i * 2, none⟩ = some (.int .i64 ((prs.getD i (0, 0)).1 : Int)) ∧ u.cell? ⟨b, off + i * 2 + 1, none⟩ = some (.int .i64 ((prs.getD i (0, 0)).2 : Int))) := fun i hi => by
      obtain ⟨b, off, e1, _, hlt, c0, c1, _, _⟩ := hpc i hi
      exact ⟨b, off, e1, fun u hu => ⟨(hu.cell (p := ⟨b, off + i * 2, none⟩) hlt).trans c0, (hu.cell (p := ⟨b, off + i * 2 + 1, none⟩) hlt).trans c1⟩⟩
    have hB5 := hB2.trans (hbW5.mono hB2.size)
    have HQ := hide (⟨hm, hplen, hls4, hB5, (show m ≤ 1048576 by omega)⟩ : _ ∧ _ ∧ _ ∧ _ ∧ _)
    clear hpc hS4 hb4 hm hLk hLen hls4 hn1 hB2 hk2 hTab2 hb5 hplen hnp hbW5 hk5 hB5 H4 HK
    go_wp2_with fail
    go_loopw [11] (fun iv wr => ∃ i : Nat, i ≤ np ∧ iv = .int .i64 i ∧ Below w5.heap.size w5 wr) (fun iv _ => np - (intOf iv).toNat)
    case atStart => exact ⟨0, Nat.zero_le _, rfl, Below.refl _ _⟩
    case round =>
      rename World => U
      obtain ⟨i, hi, rfl, hBU⟩ := hrel
      by_cases h5 : i < np
      · obtain ⟨pb, poff, e1, hpc⟩ := HP.out i h5
        subst e1
        obtain ⟨x, y, hx, hy, hxy⟩ := hRL.out i h5
        generalize prs.getD i (0, 0) = pr at hpc hx hy hxy
        obtain ⟨pi, pj⟩ := pr
        dsimp only at hpc hx hy hxy
        have hlt : (i : Int) < (np : Int) := by omega
        have hwi : Hid (wrap64 ((i : Int) + 1) = (i : Int) + 1) := by
          have := HQ.out.2.1
          show wrap64 _ = _
          unfold wrap64
          omega
        have HJ := hide (⟨h5, hBU, hpc, hx, hy, hxy⟩ : _ ∧ _ ∧ _ ∧ _ ∧ _ ∧ _)
        clear hi h5 hBU hpc hx hy hxy
        go_wp2_with fail
        go_loopw [12] (fun kv wr => ∃ k : Nat, k ≤ nl ∧ kv = .int .i64 k ∧ Below w5.heap.size w5 wr) (fun kv _ => nl - (intOf kv).toNat)
        case atStart => exact ⟨0, Nat.zero_le _, rfl, HJ.out.2.1⟩
        case round =>
          obtain ⟨k, hk, rfl, hBr⟩ := hrel
          obtain ⟨hSr, cL⟩ := HS.out wr hBr
          by_cases h6 : k < nl
          · obtain ⟨h5, hBU, hpc, hx, hy, hxy⟩ := HJ.out
            obtain ⟨hm, hplen, hls4, hB5, hm1⟩ := HQ.out
            obtain ⟨c0, c1⟩ := hpc wr hBr
            have hH1 := holds_any (ec := ec) hm hSr hx k hm1
            have hkl : (k : Int) < (nl : Int) := by omega
            have hwk : Hid (wrap64 ((k : Int) + 1) = (k : Int) + 1) := wrap_lt (by omega)
            have hand := hxy k h6
            have hH2 := hide (fun u (hu : Below w5.heap.size w5 u) => holds_any (ec := ec) hm (HS.out u hu).1 hy k hm1)
            generalize has x.t k (evs.take pi) = b1 at hH1 hand
            generalize has y.t k (evs.take pj) = b2 at hH2 hand
            have HL := hide (⟨h6, hBr⟩ : _ ∧ _)
            have HC1 := hide (fun u (hu : Below w5.heap.size w5 u) => (hpc u hu).2)
            clear hk h6 hBr h5 hBU hpc hx hy hxy hm hplen hls4 hB5 hm1 hSr
            go_wp2_with fail
            refine hH1.mono ?_
            rintro e w6 ⟨rfl, hb6⟩
            clear hH1 c0 c1
            have hB6 : Below w5.heap.size w5 w6 := HL.out.2.trans (hb6.mono HL.out.2.size)
            have hC := hH2.out w6 hB6
            have c1 := HC1.out w6 hB6
            replace hB6 := hide hB6
            clear hb6
            go_wp2_with fail
            refine hC.mono ?_
            rintro e w7 ⟨rfl, hb7⟩
            clear hC c1
            have HF := hide (⟨HL.out.1, hB6.out.trans (hb7.mono hB6.out.size)⟩ : _ ∧ _)
            clear hb7 hB6 HL HC1 hH2 cL
            have hwk := hwk.out
            cases b1 with
            | false =>
              go_wp2_with fail
              go_roundw
              case rel =>
                (try rw [hwk])
                exact ⟨k + 1, HF.out.1, rfl, HF.out.2⟩
              case measure =>
                (try rw [hwk])
                exact Nat.sub_lt_sub_left HF.out.1 (Nat.lt_succ_self k)
            | true =>
              cases b2 with
              | true => cases hand
              | false =>
                go_wp2_with fail
                go_roundw
                case rel =>
                  (try rw [hwk])
                  exact ⟨k + 1, HF.out.1, rfl, HF.out.2⟩
                case measure =>
                  (try rw [hwk])
                  exact Nat.sub_lt_sub_left HF.out.1 (Nat.lt_succ_self k)
          · have hkl : nl = k := by omega
            subst hkl
            have HF := hide (⟨HJ.out.1, hBr⟩ : _ ∧ _)
            clear hk h6 hBr HJ hSr
            have hwi := hwi.out
            go_wp2_with fail
            go_roundw
            case rel =>
              (try rw [hwi])
              exact ⟨i + 1, HF.out.1, rfl, HF.out.2⟩
            case measure =>
              (try rw [hwi])
              exact Nat.sub_lt_sub_left HF.out.1 (Nat.lt_succ_self i)
      · have hil : np = i := by omega
        subst hil
        have hBw := HQ.out.2.2.2.1.trans (hBU.mono HQ.out.2.2.2.1.size)
        have hAl := HA.out U hBw
        have HBf := hide hBw
        clear hi h5 hBU hBw HA
        go_wp2_with fail
        refine hAl.mono ?_
        rintro e w10 ⟨rfl, hb10⟩
        have HN := hide (HBf.out.trans (hb10.mono HBf.out.size))
        clear hAl hb10 HBf
        go_wp2_with fail
        go_ret
        exact ⟨rfl, HN.out⟩
end Go.Proofs.YtlpdomgedaockaaGreatDoor
namespace Go.Proofs.YtlpdomgedaockaaGreatDoor
open Go.ChangeShapes Go.WideShapes Go.ChangeAt Go.RowKit Go.Proofs.Cod
set_option linter.unusedVariables false
def zs64 : List Int := Lib.deBruijn64tab.map fun (n : Nat) => (n : Int)
theorem gTab : Tryz.prog.globalNamed "math/bits.deBruijn64tab" = some 0 := by kernel_rfl
theorem gTabType : (Tryz.prog.globals[0]?).map (·.type) = some 208 := by kernel_rfl
theorem cells64 : Tryz.prog.cellsOf 208 = 64 := by kernel_rfl
theorem cells8 : Tryz.prog.cellsOf 5 = 1 := by kernel_rfl
theorem datum64 : Rows.laid_math_bits_deBruijn64tab (H := Unit) = Lib.tabData .u8 zs64 := by kernel_rfl
theorem getD_cast (l : List Nat) (j : Nat) : (l.map fun (n : Nat) => (n : Int)).getD j 0 = ((l.getD j 0 : Nat) : Int) := by
  simp only [List.getD_eq_getElem?_getD, List.getElem?_map]
  cases l[j]? <;> rfl
theorem tab64_of {W : World} (h : laidMetH Tryz.prog laidAll W) : Tab W := by
  have hM : laidMet Tryz.prog laidAll W := h
  have h1 : laidMet Tryz.prog [("math/bits.deBruijn64tab", Rows.laid_math_bits_deBruijn64tab)] W := hM.filter (fun x => x.1 == "math/bits.deBruijn64tab")
  rw [datum64] at h1
  have ht : Lib.TabIs Tryz.prog W "math/bits.deBruijn64tab" .u8 zs64 := Lib.tabIs_of_head (rest := []) gTab gTabType Tryz.underlying208 Tryz.underlying5 cells8 cells64 h1
  intro j hj
  rw [ht.cell gTab j (by unfold zs64; rw [List.length_map]; exact hj), ← getD_cast]
  rfl
end Go.Proofs.YtlpdomgedaockaaGreatDoor
