import Derived.Test.YtcfpedjfofpnkaaGreatDoorRuS0
import Derived.Deep.Cut
import Derived.Deep.CutRange
import Derived.Deep.DeepCutAuto
set_option linter.unusedVariables false
set_option linter.unusedSimpArgs false
/-
  RunSound.
-/
namespace Go.Proofs.YtcfpedjfofpnkaaGreatDoor
open Go.RowKit Go.Shelf Go.Proofs.Cod

theorem sm_bytes {n : Nat} (h : n ≤ 4) : 1 * n ≤ 281474976710656 := by omega
theorem sm_bytes8 {n : Nat} (h : n ≤ 4) : 8 * n ≤ 281474976710656 := by omega
theorem sm_max {n : Nat} (h : n ≤ 4) : n ≤ maxLen := by unfold maxLen; omega
theorem below_dN (B : Nat) (w : World) (q : Nat) : Below B w (w.drewN q) := ⟨rfl, rfl, rfl, Nat.le_refl _, fun _ _ => rfl⟩
set_option maxRecDepth 100000 in
set_option maxHeartbeats 8000000 in
theorem runSound_any (t : Tx) {w : World} {B : Nat} (ht : Tabs w B) (hB : B ≤ w.heap.size) {a : Option Addr} {n cap : Nat} {l : List Int} (hn : l.length = n) (hl : Is w a l) (hn1 : n < 1048576) :
    Calls Tryz.prog 6 #[.string (bs t), .slice a n cap] w fun e w' => e = .returned (.bool true) ∧ Below w.heap.size w w' := by
  have hL := load_any t ht hB
  have HA := hide (fun (w' : World) (hb : Below w.heap.size w w') => alive_any (ht.keep (hb.mono hB)) (by have := hb.size; omega))
  have HT := hide (⟨ht, hl, hn⟩ : _ ∧ _ ∧ _)
  clear ht hl hn
  go_enter Tryz.func6, Tryz.ntmps6
  go_wp2_with fail
  refine hL.mono ?_
  clear hL
  rintro e w1 ⟨hb1, (rfl | ⟨s, C, vV, fV, lV, thV, L, qv, qf, ql, qt, P, TV, he, rfl, hPW, hLn, hQ, -⟩)⟩
  · have hB2 : ∀ o1 o2, Below w.heap.size w ((w1.alloc o1).alloc o2) := fun o1 o2 => (hb1.alloc hb1.size o1).alloc (by show w.heap.size ≤ (w1.heap.push o1).size; have := hb1.size; simp; omega) o2
    have hAl := HA.out _ (hB2 (.cells #[.slice none 0 0, .slice none 0 0, .slice none 0 0, .slice none 0 0] 26) (.cells #[.slice none 0 0, .slice none 0 0, .slice none 0 0, .slice none 0 0] 29))
    have HB2 := hide (hB2 (.cells #[.slice none 0 0, .slice none 0 0, .slice none 0 0, .slice none 0 0] 26) (.cells #[.slice none 0 0, .slice none 0 0, .slice none 0 0, .slice none 0 0] 29))
    unfold nilV
    clear hb1 hB2 HA HT
    go_wp2_with fail
    refine hAl.mono ?_
    rintro e w2 ⟨rfl, hb2⟩
    have HN := hide (HB2.out.trans (hb2.mono HB2.out.size))
    clear hAl hb2 HB2
    go_wp2_with fail
    go_ret
    exact ⟨rfl, HN.out⟩
  · obtain ⟨⟨x1, y1, z1, rfl⟩, ⟨x2, y2, z2, rfl⟩, ⟨x3, y3, z3, rfl⟩, ⟨x4, y4, z4, rfl⟩⟩ : (∃ a n c, qv = .slice a n c) ∧ (∃ a n c, qf = .slice a n c) ∧ (∃ a n c, ql = .slice a n c) ∧ (∃ a n c, qt = .slice a n c) := by
      obtain ⟨u1, v1, e1⟩ := owns_len hQ.v
      obtain ⟨u2, v2, e2⟩ := owns_len hQ.f
      obtain ⟨u3, v3, e3⟩ := owns_len hQ.l
      obtain ⟨u4, v4, e4⟩ := owns_len hQ.t
      exact ⟨⟨_, _, _, e1⟩, ⟨_, _, _, e2⟩, ⟨_, _, _, e3⟩, ⟨_, _, _, e4⟩⟩
    obtain ⟨va, vc, ev⟩ := owns_len hPW.v
    obtain ⟨fa, fc, ef⟩ := owns_len hPW.f
    obtain ⟨la, lc, el⟩ := owns_len hPW.l
    obtain ⟨ta, tc, et⟩ := owns_len hPW.t
    subst ev ef el et
    obtain ⟨fn1, fn2, fn3⟩ := fit_of he hLn
    obtain ⟨ht, hl, hn⟩ := HT.out
    obtain ⟨W2, hW2⟩ : ∃ W2, (w1.alloc (.cells #[.slice va (s.nms 118).length vc, .slice fa (s.nms 102).length fc, .slice la (s.nms 109).length lc, .slice ta L.length tc] 26)).alloc (.cells #[.slice x1 y1 z1, .slice x2 y2 z2, .slice x3 y3 z3, .slice x4 y4 z4] 29) = W2 := ⟨_, rfl⟩
    have hza : (w1.alloc (.cells #[.slice va (s.nms 118).length vc, .slice fa (s.nms 102).length fc, .slice la (s.nms 109).length lc, .slice ta L.length tc] 26)).heap.size = w1.heap.size + 1 := by show (w1.heap.push _).size = _; simp
    have hb2 : Below w1.heap.size w1 W2 := by rw [← hW2]; exact ((Below.refl _ _).alloc (Nat.le_refl _) _).alloc (by rw [hza]; omega) _
    have hk2 : W2.heap[w1.heap.size]? = some (.cells #[.slice va (s.nms 118).length vc, .slice fa (s.nms 102).length fc, .slice la (s.nms 109).length lc, .slice ta L.length tc] 26) := by
      rw [← hW2, Below.heap_alloc _ _ _ (by rw [hza]; omega)]; exact World.alloc_heap_new w1 _
    have hl2 : w1.heap.size < W2.heap.size := (Array.getElem?_eq_some_iff.1 hk2).1
    have hB2 := hb1.trans (hb2.mono hb1.size)
    have hR := run_any (hPW.below hb2) fn1 fn2 fn3 (ht.keep (hB2.mono hB)) (by have := hB2.size; omega) (cap := cap) hn (hl.below hB2) hn1
    have hcl : ∀ u, Below W2.heap.size W2 u → u.cell? ⟨w1.heap.size, 0, none⟩ = some (.slice va (s.nms 118).length vc) ∧ u.cell? ⟨w1.heap.size, 1, none⟩ = some (.slice fa (s.nms 102).length fc) ∧ u.cell? ⟨w1.heap.size, 2, none⟩ = some (.slice la (s.nms 109).length lc) ∧ u.cell? ⟨w1.heap.size, 3, none⟩ = some (.slice ta L.length tc) := fun u hu => by
      have q := (hu.block _ hl2).trans hk2
      exact ⟨by simp [World.cell?, q], by simp [World.cell?, q], by simp [World.cell?, q], by simp [World.cell?, q]⟩
    have hb_v := fn1.v
    have hb_f := fn1.f
    have hb_l := fn1.l
    have hb_t := fn1.t
    have hCL : C.length = L.length := hPW.len
    have hok0 : MOkP (pdOf (s.nms 118) (s.nms 102) (s.nms 109) L C) (newM (s.nms 118).length (s.nms 102).length (s.nms 109).length L.length) := by
      have := newM_ok (s.nms 118).length (s.nms 102).length (s.nms 109).length C
      rw [hCL] at this
      exact this
    have htr : Tr (s.nms 118).length (s.nms 102).length (s.nms 109).length C _ _ _ := play_tr (C := C) fn2.fit hok0 (fun q => by
      have q : L.length ≠ 0 := by rw [← hCL]; exact q
      have e0 : (newM (s.nms 118).length (s.nms 102).length (s.nms 109).length L.length).th 0 = { ts0 with ph := 1 } := by
        unfold MS.th newM
        dsimp only
        rw [List.getD_eq_getElem?_getD, List.getElem?_map, List.getElem?_range (by omega)]; rfl
      rw [e0]; show (1 : Int) ≠ 0; decide) l
    obtain ⟨st, hst0, -, hst⟩ := tr_seq htr
    have hnl : (newM (s.nms 118).length (s.nms 102).length (s.nms 109).length L.length).thr.length = L.length := by unfold newM; simp
    have hlk0 : ∀ k, lkN (st 0) k = if k < (s.nms 109).length then 0 else 1 := fun k => by
      rw [hst0]
      unfold lkN newM
      dsimp only
      rw [List.getD_eq_getElem?_getD, List.getElem?_replicate]
      split <;> rfl
    have hevl : (playM false C (newM (s.nms 118).length (s.nms 102).length (s.nms 109).length L.length) l).2.length < 1048576 := by
      have q := play_len C (newM (s.nms 118).length (s.nms 102).length (s.nms 109).length L.length) l
      omega
    rw [hnl] at hst
    have hbe0 : begM (st 0) = List.replicate L.length false ∧ endM (st 0) = List.replicate L.length false ∧ (st 0).vars = List.replicate (s.nms 118).length 0 ∧ (st 0).flags = List.replicate (s.nms 102).length 0 := by
      rw [hst0]
      exact ⟨beg_new0 _ _ _ _, end_new0 _ _ _ _, rfl, rfl⟩
    obtain ⟨nv, hnv⟩ : ∃ nv, (s.nms 118).length = nv := ⟨_, rfl⟩
    obtain ⟨nf, hnf⟩ : ∃ nf, (s.nms 102).length = nf := ⟨_, rfl⟩
    obtain ⟨nl, hnlq⟩ : ∃ nl, (s.nms 109).length = nl := ⟨_, rfl⟩
    obtain ⟨evs, hevs⟩ : ∃ evs, (playM false C (newM (s.nms 118).length (s.nms 102).length (s.nms 109).length L.length) l).2 = evs := ⟨_, rfl⟩
    rw [hevs] at hR hst hevl
    obtain ⟨sh, hsh⟩ : ∃ sh, showM (pdOf (s.nms 118) (s.nms 102) (s.nms 109) L C) (playM false C (newM (s.nms 118).length (s.nms 102).length (s.nms 109).length L.length) l).1 = sh := ⟨_, rfl⟩
    rw [hsh] at hR
    simp only [hnv, hnf, hnlq] at hR hst hlk0 hcl hb_v hb_f hb_l hbe0
    have HK := hide (⟨hst, hlk0, hbe0, hevl⟩ : _ ∧ _ ∧ _ ∧ _)
    have HC := hide hcl
    have HW := hide hB2
    obtain ⟨ibl, hbi, hbz, hbs, hby⟩ := info_parts Tryz.infoBool
    obtain ⟨iil, hii, hiz, his, hiy⟩ := info_parts Tryz.infoInt
    rw [hnv, hnf, hnlq] at hW2
    simp only [hnv, hnf, hnlq]
    clear hPW hQ hLn he fn1 fn2 fn3 ht hl hn hb1 hza hb2 hk2 hl2 hB2 hcl hCL hok0 htr hst0 hst hnl hlk0 hevl hevs hsh hbe0 hnv hnf hnlq HT
    obtain ⟨k0, k1, k2, k3⟩ := HC.out W2 (Below.refl _ _)
    go_wp2_with fail
    try rw [hW2]
    refine hR.mono ?_
    rintro e w3 ⟨v, rfl, hrow, hb3⟩
    obtain ⟨ea, ec, hv⟩ := owns_len hrow
    subst hv
    have hB3 := HW.out.trans (hb3.mono HW.out.size)
    have HX := hide (fun (u : World) (hu : Below w3.heap.size w3 u) => HC.out u (hb3.trans (hu.mono hb3.size)))
    obtain ⟨d0, d1, d2, d3⟩ := HX.out w3 (Below.refl _ _)
    have HR := hide (⟨hrow, hB3⟩ : _ ∧ _)
    clear hR hrow hb3 hB3 k0 k1 k2 k3 HW HC hW2
    go_wp2_with fail
    go_loopw [10] (fun iv wr => ∃ i : Nat, i ≤ nl ∧ iv = .int .i64 i ∧ w3 = wr) (fun iv _ => nl - (intOf iv).toNat)
    case atStart => exact ⟨0, Nat.zero_le _, rfl, rfl⟩
    case round =>
      obtain ⟨i, hi, rfl, rfl⟩ := hrel
      by_cases h5 : i < nl
      · have hlt : (i : Int) < (nl : Int) := by omega
        obtain ⟨hst, hlk0, -, hevl⟩ := HK.out
        have hH := holders_any HR.out.1 hevl h5 (by rw [hlk0, if_pos h5]) (fun j e q => (hst j e q).1) (L.length : Int)
        have HN := hide h5
        have hi4 : i < 4 := by omega
        clear hst hlk0 hevl h5 hi
        go_wp2_with fail
        refine hH.mono ?_
        rintro e w4 ⟨⟨r, rfl, hr⟩, rfl⟩
        have hr' : decide (r < 0) = false := by simp only [decide_eq_false_iff_not]; omega
        have hwi := wrap_sm (i := i) (by omega)
        clear hH hr hi4
        go_wp2_with fail
        go_roundw
        case rel =>
          (try rw [hwi])
          exact ⟨i + 1, HN.out, rfl, by trivial⟩
        case measure =>
          (try rw [hwi])
          exact Nat.sub_lt_sub_left HN.out (Nat.lt_succ_self i)
      · have hil : i = nl := by omega
        subst hil
        clear hi h5
        obtain ⟨u1, q1, o1, g1⟩ := run_make_full (P := Tryz.prog) w3 w3.heap.size 73 4 ibl (.bool false) 1 Tryz.underlying73 hbi hbz hbs .i64 .i64 L.length (by rw [hby]; exact sm_bytes hb_t) (sm_max hb_t) (Nat.le_refl _)
        have G1 := grown_below (Nat.le_refl _) g1
        obtain ⟨u2, q2, o2, g2⟩ := run_make_full (P := Tryz.prog) u1 u1.heap.size 73 4 ibl (.bool false) 1 Tryz.underlying73 hbi hbz hbs .i64 .i64 L.length (by rw [hby]; exact sm_bytes hb_t) (sm_max hb_t) (Nat.le_refl _)
        have G2 := grown_trans G1 g2
        obtain ⟨u3, q3, o3, g3⟩ := run_make_full (P := Tryz.prog) u2 u2.heap.size 22 3 iil (.int .i64 0) 1 Tryz.underlying22 hii hiz his .i64 .i64 nv (by rw [hiy]; exact sm_bytes8 hb_v) (sm_max hb_v) (Nat.le_refl _)
        have G3 := grown_trans G2 g3
        obtain ⟨u4, q4, o4, g4⟩ := run_make_full (P := Tryz.prog) u3 u3.heap.size 22 3 iil (.int .i64 0) 1 Tryz.underlying22 hii hiz his .i64 .i64 nf (by rw [hiy]; exact sm_bytes8 hb_f) (sm_max hb_f) (Nat.le_refl _)
        have G4 := grown_trans G3 g4
        obtain ⟨-, -, -, e13⟩ := HX.out u1 G1
        obtain ⟨e20, -, -, -⟩ := HX.out u2 G2
        obtain ⟨-, e31, -, -⟩ := HX.out u3 G3
        have hS0 := snd_start o1 o2 o3 o4 g2 g3 g4 HK.out.2.2.1
        obtain ⟨gb, hgb⟩ : ∃ g, w3.heap.size = g := ⟨_, rfl⟩
        obtain ⟨ge, hge⟩ : ∃ g, u1.heap.size = g := ⟨_, rfl⟩
        obtain ⟨gv, hgv⟩ : ∃ g, u2.heap.size = g := ⟨_, rfl⟩
        obtain ⟨gf, hgf⟩ : ∃ g, u3.heap.size = g := ⟨_, rfl⟩
        have HP := hide (fun (u : World) (hu : Below gb w3 u) => HX.out u (by rw [hgb]; exact hu))
        rw [hgb] at q1 hS0 G4
        rw [hge] at q2 hS0
        rw [hgv] at q3 hS0
        rw [hgf] at q4 hS0
        have hgs : gb < ge ∧ ge < gv ∧ gv < gf := ⟨hS0.2.1, hS0.2.2.1, hS0.2.2.2.1⟩
        have HS := hide (⟨hS0.1, G4⟩ : _ ∧ _)
        replace hgb := hide hgb
        have HL0 : Hid (Lens L.length nv nf (st 0)) := by
          obtain ⟨b1, b2, b3, b4⟩ := HK.out.2.2.1
          refine ⟨by rw [b3, List.length_replicate], by rw [b4, List.length_replicate], ?_⟩
          have q := begM_len (st 0)
          rw [b1, List.length_replicate] at q
          exact q.symm
        replace hgs := hide hgs
        clear hS0 o1 o2 o3 o4 g1 g2 g3 g4 G1 G2 G3 G4 hge hgv hgf hbi hbz hbs hby hii hiz his hiy HX
        go_wp2_with fail
        clear q1 q2 q3 q4 e13 e20 e31 d0 d1 d2 d3
        go_loopw [15] (fun iv wr => ∃ i : Nat, i ≤ evs.length ∧ iv = .int .i64 i ∧ SndW wr gb ge gv gf L.length nv nf (st i) ∧ Lens L.length nv nf (st i) ∧ Below gb w3 wr) (fun iv _ => evs.length - (intOf iv).toNat)
        case atStart => exact ⟨0, Nat.zero_le _, rfl, HS.out.1, HL0.out, HS.out.2⟩
        case round =>
          obtain ⟨i, hi, rfl, hS, hLn, hBw⟩ := hrel
          clear HS HL0
          by_cases h5 : i < evs.length
          · obtain ⟨e, he⟩ : ∃ e, evs[i]? = some e := ⟨_, List.getElem?_eq_getElem h5⟩
            obtain ⟨hE, htl⟩ := HK.out.1 i e he
            have hevl := HK.out.2.2.2
            have hrow : wr.ownsRow _ 45 4 _ evs.length (evs.flatMap evL) := owns_same HR.out.1 fun g e => hBw.block g (by rw [← hgb.out]; exact (HR.out.1.lt g e).2)
            obtain ⟨g, cap, hgvq, hgl, hEv⟩ := ev_at hrow he
            injection hgvq with hga _ hcq
            subst hga
            clear hcq
            have hlt : (i : Int) < (evs.length : Int) := by omega
            obtain ⟨tn, htn⟩ : ∃ tn : Nat, e.t = tn := ⟨e.t.toNat, by have := hE.t0; omega⟩
            obtain ⟨on, hon⟩ : ∃ on : Nat, e.o = on := ⟨e.o.toNat, by have := hE.o0; omega⟩
            obtain ⟨ek, hek⟩ : ∃ k, e.k = k := ⟨_, rfl⟩
            obtain ⟨ev, hev⟩ : ∃ v, e.v = v := ⟨_, rfl⟩
            obtain ⟨c0, c1, c2, c3⟩ := hEv
            rw [htn] at c0
            rw [hek] at c1
            rw [hon] at c2
            rw [hev] at c3
            obtain ⟨W, hW⟩ : ∃ W, wr.alloc (.cells #[.int .i64 tn, .int .i64 ek, .int .i64 on, .int .i64 ev] 45) = W := ⟨_, rfl⟩
            have hbW : Below wr.heap.size wr W := by rw [← hW]; exact (Below.refl _ _).alloc (Nat.le_refl _) _
            have hkW : W.heap[wr.heap.size]? = some (.cells #[.int .i64 tn, .int .i64 ek, .int .i64 on, .int .i64 ev] 45) := by rw [← hW]; exact World.alloc_heap_new wr _
            obtain ⟨b0, b1, b2, b3⟩ : W.cell? ⟨wr.heap.size, 0, none⟩ = some (.int .i64 tn) ∧ W.cell? ⟨wr.heap.size, 1, none⟩ = some (.int .i64 ek) ∧ W.cell? ⟨wr.heap.size, 2, none⟩ = some (.int .i64 on) ∧ W.cell? ⟨wr.heap.size, 3, none⟩ = some (.int .i64 ev) := ⟨by simp [World.cell?, hkW], by simp [World.cell?, hkW], by simp [World.cell?, hkW], by simp [World.cell?, hkW]⟩
            have hSW := hS.below hbW
            have hBW : Below gb w3 W := hBw.trans (hbW.mono (by have := hS.b.lt; omega))
            obtain ⟨-, -, -, x3⟩ := HP.out W hBW
            have htn1 : tn < L.length := by have := hE.tn; rw [htn, htl] at this; omega
            have htn2 : (tn : Int) < (L.length : Int) := by omega
            have htn3 : decide (L.length ≤ tn) = false := by simp only [decide_eq_false_iff_not]; omega
            have htn4 : decide ((tn : Int) < 0) = false := by simp only [decide_eq_false_iff_not]; omega
            have cE : W.cell? ⟨ge, tn, none⟩ = some (.bool false) := by
              have q := hE.live
              rw [htn, Int.toNat_natCast] at q
              rw [hSW.e.cell htn1, boolV_is q]
            have cB : Hid (0 < tn → W.cell? ⟨gb, tn, none⟩ = some (.bool true)) := by
              intro h0
              have q := hE.begun (by rw [htn]; omega)
              rw [htn, Int.toNat_natCast] at q
              rw [hSW.b.cell htn1, boolV_is q]
            have hv0 : decide (ev < 0) = false := by have := hE.v.1; rw [hev] at this; simp only [decide_eq_false_iff_not]; omega
            have hv1 : decide (1000 ≤ ev) = false := by have := hE.v.2; rw [hev] at this; simp only [decide_eq_false_iff_not]; omega
            have hL2 := hLn.next hE
            have HN := hide (⟨h5, hBW, hL2⟩ : _ ∧ _ ∧ _)
            have HE := hide (⟨hE, hLn, htl, htn, hon, hek, hev⟩ : _ ∧ _ ∧ _ ∧ _ ∧ _ ∧ _ ∧ _)
            replace hSW := hide hSW
            have hBZ : Hid (gb < W.heap.size ∧ ge < W.heap.size ∧ gv < W.heap.size ∧ gf < W.heap.size) := ⟨hSW.out.b.lt, hSW.out.e.lt, hSW.out.v.lt, hSW.out.f.lt⟩
            clear hE hLn htl htn hon hek hev he hrow hgl hbW hkW hBW hL2 hS h5 hi hBw HP HR
            go_upto_region 18 with fail
            try rw [hW]
            clear hW c0 c1 c2 c3
            go_cut [112] from 62 to 181 (fun p wx => p = .bool false ∧ wx = W)
            case first =>
              rcases Nat.eq_zero_or_pos tn with h0 | h0
              · have g0 : decide (0 < tn) = false := by simp [h0]
                clear h0
                go_wp2_with fail
                go_meet
                exact ⟨rfl, rfl⟩
              · have c := cB.out h0
                have h0' : (0 : Int) < (tn : Int) := by omega
                go_wp2_with fail
                go_meet
                exact ⟨rfl, rfl⟩
            case rest =>
              obtain ⟨hp, hw⟩ := hcut
              subst hp
              have hw' := hw.symm
              subst hw'
              clear hw
              have hk : ek = 0 ∨ ek = 1 ∨ ek = 2 ∨ ek = 3 ∨ ek = 4 ∨ ek = 5 ∨ ek = 6 ∨ ek = 7 ∨ ek = 8 ∨ ek = 9 ∨ ek = 10 := by have := HE.out.1.k; rw [HE.out.2.2.2.2.2.1] at this; omega
              rcases hk with rfl | rfl | rfl | rfl | rfl | rfl | rfl | rfl | rfl | rfl | rfl
              · -- kind 0
                obtain ⟨hE, hLn, htl, htn, hon, hek, hev⟩ := HE.out
                have HS1 := hide (hSW.out.stay hE (by rw [hek]; decide) (by rw [hek]; decide) (by rw [hek]; decide) (by rw [hek]; decide) (by rw [hek]; decide))
                clear hE hLn htl htn hon hek hev HE hSW hBZ cB HK hn1 hb_t hb_v hb_f hb_l
                have hwi := wrap_lt (i := i) (by omega)
                go_wp2_with fail
                go_roundw
                case rel =>
                  (try rw [hwi])
                  exact ⟨i + 1, HN.out.1, rfl, HS1.out, HN.out.2.2, HN.out.2.1⟩
                case measure =>
                  (try rw [hwi])
                  exact Nat.sub_lt_sub_left HN.out.1 (Nat.lt_succ_self i)
              · -- kind 1
                obtain ⟨hE, hLn, htl, htn, hon, hek, hev⟩ := HE.out
                have HS1 := hide (hSW.out.stay hE (by rw [hek]; decide) (by rw [hek]; decide) (by rw [hek]; decide) (by rw [hek]; decide) (by rw [hek]; decide))
                have hon1 := hE.read hek
                rw [hon, hev] at hon1
                have hon2 : (on : Int) < (nv : Int) := hon1.1
                have cV : W.cell? ⟨gv, on, none⟩ = some (.int .i64 ev) := by
                  rw [hSW.out.v.cell (by omega)]
                  have q := hon1.2
                  rw [Int.toNat_natCast] at q
                  unfold numV
                  rw [q]
                clear hon1
                clear hE hLn htl htn hon hek hev HE hSW hBZ cB HK hn1 hb_t hb_v hb_f hb_l
                have hwi := wrap_lt (i := i) (by omega)
                go_wp2_with fail
                go_quiet (fail)
                go_wp2_with fail
                go_roundw
                case rel =>
                  (try rw [hwi])
                  exact ⟨i + 1, HN.out.1, rfl, HS1.out.below (below_dN _ _ _), HN.out.2.2, HN.out.2.1.trans (below_dN _ _ _)⟩
                case measure =>
                  (try rw [hwi])
                  exact Nat.sub_lt_sub_left HN.out.1 (Nat.lt_succ_self i)
              · -- kind 2
                obtain ⟨hE, hLn, htl, htn, hon, hek, hev⟩ := HE.out
                have HS1 := hide (hSW.out.write hLn hE hek (by have := hgs.out; omega) (by have := hgs.out; omega) (by have := hgs.out; omega) hon)
                rw [hev] at HS1
                have hon1 := hE.write hek
                rw [hon] at hon1
                have hon2 : (on : Int) < (nv : Int) := hon1
                have cV := hSW.out.v.cell (k := on) (by omega)
                have fV := hSW.out.v.frozen on
                unfold numV at cV
                clear hon1
                clear hE hLn htl htn hon hek hev HE hSW hBZ cB HK hn1 hb_t hb_v hb_f hb_l
                have hwi := wrap_lt (i := i) (by omega)
                go_wp2_with fail
                go_roundw
                case rel =>
                  (try rw [hwi])
                  exact ⟨i + 1, HN.out.1, rfl, HS1.out, HN.out.2.2, HN.out.2.1.setCell (show gb ≤ _ by have := hgs.out; dsimp only; omega) _⟩
                case measure =>
                  (try rw [hwi])
                  exact Nat.sub_lt_sub_left HN.out.1 (Nat.lt_succ_self i)
              · -- kind 3
                obtain ⟨hE, hLn, htl, htn, hon, hek, hev⟩ := HE.out
                have HS1 := hide (hSW.out.stay hE (by rw [hek]; decide) (by rw [hek]; decide) (by rw [hek]; decide) (by rw [hek]; decide) (by rw [hek]; decide))
                have hon1 := hE.get hek
                rw [hon, hev] at hon1
                have hon2 : (on : Int) < (nf : Int) := hon1.1
                have cV : W.cell? ⟨gf, on, none⟩ = some (.int .i64 ev) := by
                  rw [hSW.out.f.cell (by omega)]
                  have q := hon1.2
                  rw [Int.toNat_natCast] at q
                  unfold numV
                  rw [q]
                clear hon1
                clear hE hLn htl htn hon hek hev HE hSW hBZ cB HK hn1 hb_t hb_v hb_f hb_l
                have hwi := wrap_lt (i := i) (by omega)
                go_wp2_with fail
                go_quiet (fail)
                go_wp2_with fail
                go_roundw
                case rel =>
                  (try rw [hwi])
                  exact ⟨i + 1, HN.out.1, rfl, HS1.out.below (below_dN _ _ _), HN.out.2.2, HN.out.2.1.trans (below_dN _ _ _)⟩
                case measure =>
                  (try rw [hwi])
                  exact Nat.sub_lt_sub_left HN.out.1 (Nat.lt_succ_self i)
              · -- kind 4
                obtain ⟨hE, hLn, htl, htn, hon, hek, hev⟩ := HE.out
                have HS1 := hide (hSW.out.put hLn hE hek (by have := hgs.out; omega) (by have := hgs.out; omega) (by have := hgs.out; omega) hon)
                rw [hev] at HS1
                have hon1 := hE.put hek
                rw [hon] at hon1
                have hon2 : (on : Int) < (nf : Int) := hon1
                have cV := hSW.out.f.cell (k := on) (by omega)
                have fV := hSW.out.f.frozen on
                unfold numV at cV
                clear hon1
                clear hE hLn htl htn hon hek hev HE hSW hBZ cB HK hn1 hb_t hb_v hb_f hb_l
                have hwi := wrap_lt (i := i) (by omega)
                go_wp2_with fail
                go_roundw
                case rel =>
                  (try rw [hwi])
                  exact ⟨i + 1, HN.out.1, rfl, HS1.out, HN.out.2.2, HN.out.2.1.setCell (show gb ≤ _ by have := hgs.out; dsimp only; omega) _⟩
                case measure =>
                  (try rw [hwi])
                  exact Nat.sub_lt_sub_left HN.out.1 (Nat.lt_succ_self i)
              · -- kind 5
                obtain ⟨hE, hLn, htl, htn, hon, hek, hev⟩ := HE.out
                have HS1 := hide (hSW.out.stay hE (by rw [hek]; decide) (by rw [hek]; decide) (by rw [hek]; decide) (by rw [hek]; decide) (by rw [hek]; decide))
                clear hE hLn htl htn hon hek hev HE hSW hBZ cB HK hn1 hb_t hb_v hb_f hb_l
                have hwi := wrap_lt (i := i) (by omega)
                go_wp2_with fail
                go_roundw
                case rel =>
                  (try rw [hwi])
                  exact ⟨i + 1, HN.out.1, rfl, HS1.out, HN.out.2.2, HN.out.2.1⟩
                case measure =>
                  (try rw [hwi])
                  exact Nat.sub_lt_sub_left HN.out.1 (Nat.lt_succ_self i)
              · -- kind 6
                obtain ⟨hE, hLn, htl, htn, hon, hek, hev⟩ := HE.out
                have HS1 := hide (hSW.out.stay hE (by rw [hek]; decide) (by rw [hek]; decide) (by rw [hek]; decide) (by rw [hek]; decide) (by rw [hek]; decide))
                clear hE hLn htl htn hon hek hev HE hSW hBZ cB HK hn1 hb_t hb_v hb_f hb_l
                have hwi := wrap_lt (i := i) (by omega)
                go_wp2_with fail
                go_roundw
                case rel =>
                  (try rw [hwi])
                  exact ⟨i + 1, HN.out.1, rfl, HS1.out, HN.out.2.2, HN.out.2.1⟩
                case measure =>
                  (try rw [hwi])
                  exact Nat.sub_lt_sub_left HN.out.1 (Nat.lt_succ_self i)
              · -- kind 7
                obtain ⟨hE, hLn, htl, htn, hon, hek, hev⟩ := HE.out
                have HS1 := hide (hSW.out.spawn hLn hE hek (by have := hgs.out; omega) (by have := hgs.out; omega) (by have := hgs.out; omega) hon)
                obtain ⟨hon0, hon1, hon3⟩ := hE.spawn hek
                rw [hon] at hon0 hon1 hon3
                rw [Int.toNat_natCast] at hon3
                rw [htl] at hon1
                have hon2 : (on : Int) < (L.length : Int) := hon1
                have hon4 : (on == 0) = false := by simp only [beq_eq_false_iff_ne]; omega
                have hon5 : ((on : Int) == 0) = false := by simp only [beq_eq_false_iff_ne]; omega
                have cV : W.cell? ⟨gb, on, none⟩ = some (.bool false) := by rw [hSW.out.b.cell (by omega), boolV_is hon3]
                have fV := hSW.out.b.frozen on
                clear hon1 hon0 hon3
                clear hE hLn htl htn hon hek hev HE hSW hBZ cB HK hn1 hb_t hb_v hb_f hb_l
                have hwi := wrap_lt (i := i) (by omega)
                go_wp2_with fail
                go_roundw
                case rel =>
                  (try rw [hwi])
                  exact ⟨i + 1, HN.out.1, rfl, HS1.out, HN.out.2.2, HN.out.2.1.setCell (Nat.le_refl gb) _⟩
                case measure =>
                  (try rw [hwi])
                  exact Nat.sub_lt_sub_left HN.out.1 (Nat.lt_succ_self i)
              · -- kind 8
                obtain ⟨hE, hLn, htl, htn, hon, hek, hev⟩ := HE.out
                have HS1 := hide (hSW.out.stay hE (by rw [hek]; decide) (by rw [hek]; decide) (by rw [hek]; decide) (by rw [hek]; decide) (by rw [hek]; decide))
                obtain ⟨hon1, hon3⟩ := hE.join hek
                rw [hon] at hon1 hon3
                rw [Int.toNat_natCast] at hon3
                rw [htl] at hon1
                have hon2 : (on : Int) < (L.length : Int) := hon1
                have cV : W.cell? ⟨ge, on, none⟩ = some (.bool true) := by rw [hSW.out.e.cell (by omega), boolV_is hon3]
                clear hon1 hon3
                clear hE hLn htl htn hon hek hev HE hSW hBZ cB HK hn1 hb_t hb_v hb_f hb_l
                have hwi := wrap_lt (i := i) (by omega)
                go_wp2_with fail
                go_roundw
                case rel =>
                  (try rw [hwi])
                  exact ⟨i + 1, HN.out.1, rfl, HS1.out, HN.out.2.2, HN.out.2.1⟩
                case measure =>
                  (try rw [hwi])
                  exact Nat.sub_lt_sub_left HN.out.1 (Nat.lt_succ_self i)
              · -- kind 9
                obtain ⟨hE, hLn, htl, htn, hon, hek, hev⟩ := HE.out
                have HS1 := hide (hSW.out.over hE (by rw [hek]; decide) (by have := hgs.out; omega) (by have := hgs.out; omega) (by have := hgs.out; omega) htn)
                have fV := hSW.out.e.frozen tn
                clear hE hLn htl htn hon hek hev HE hSW hBZ cB HK hn1 hb_t hb_v hb_f hb_l
                have hwi := wrap_lt (i := i) (by omega)
                go_wp2_with fail
                go_roundw
                case rel =>
                  (try rw [hwi])
                  exact ⟨i + 1, HN.out.1, rfl, HS1.out, HN.out.2.2, HN.out.2.1.setCell (show gb ≤ _ by have := hgs.out; dsimp only; omega) _⟩
                case measure =>
                  (try rw [hwi])
                  exact Nat.sub_lt_sub_left HN.out.1 (Nat.lt_succ_self i)
              · -- kind 10
                obtain ⟨hE, hLn, htl, htn, hon, hek, hev⟩ := HE.out
                have HS1 := hide (hSW.out.over hE (by rw [hek]; decide) (by have := hgs.out; omega) (by have := hgs.out; omega) (by have := hgs.out; omega) htn)
                have fV := hSW.out.e.frozen tn
                clear hE hLn htl htn hon hek hev HE hSW hBZ cB HK hn1 hb_t hb_v hb_f hb_l
                have hwi := wrap_lt (i := i) (by omega)
                go_wp2_with fail
                go_roundw
                case rel =>
                  (try rw [hwi])
                  exact ⟨i + 1, HN.out.1, rfl, HS1.out, HN.out.2.2, HN.out.2.1.setCell (show gb ≤ _ by have := hgs.out; dsimp only; omega) _⟩
                case measure =>
                  (try rw [hwi])
                  exact Nat.sub_lt_sub_left HN.out.1 (Nat.lt_succ_self i)
          · have hil : i = evs.length := by omega
            subst hil
            have hAl := HA.out wr (HR.out.2.trans (hBw.mono (by rw [← hgb.out]; exact HR.out.2.size)))
            have HBf := hide (HR.out.2.trans (hBw.mono (by rw [← hgb.out]; exact HR.out.2.size)))
            clear HA HR HK HP hS hLn hBw
            go_wp2_with fail
            refine hAl.mono ?_
            rintro e w9 ⟨rfl, hb9⟩
            have HN := hide (HBf.out.trans (hb9.mono HBf.out.size))
            clear hAl hb9 HBf
            go_wp2_with fail
            go_ret
            exact ⟨rfl, HN.out⟩
end Go.Proofs.YtcfpedjfofpnkaaGreatDoor
