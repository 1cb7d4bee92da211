import Derived.Test.YtiaedjnedoemoabDjRows
namespace Go.Proofs.Ytiaedjnedoemoab
open Go.RowKit Go.Proofs.Ord
attribute [local go_sem ↓] Go.wp_at_zero Go.wp_at_succ

/-- What the program's Stamps answers for numbers of threads that there are none of. -/
def StampsNoSaid : Prop := ∀ (a : Option Addr) (n cap : Nat) (l : List Ev) (th : Int) (w : World), l.length = n → EvS w a l → n ≤ cap → cap ≤ maxLen → n * 32 ≤ 140737488351232 → (th < 0 ∨ 64 < th) →
  Calls Try.prog 24 #[.slice a n cap, .int .i64 th] w fun e w' => e = .returned (.slice none 0 0) ∧ Below w.heap.size w w'

theorem rows_nil (u : World) : Sem.run Try.prog (binOp BinOp.eql 34 (.slice Option.none 0 0) (.slice Option.none 0 0)) u = .ok (.bool true) u := by kernel_rfl

/-- The rows from i on stand as they were answered. -/
def SRem (B D i : Nat) (w : World) (a : Option Addr) (A : Nat → Option Addr) (C : Nat → Nat) (rows : List (List Int)) : Prop :=
  ∀ q, i ≤ q → q < rows.length → (∃ b off, a = some ⟨b, off, none⟩ ∧ B ≤ b ∧ b < D ∧ b < w.heap.size ∧ w.cell? ⟨b, off + q, none⟩ = some (.slice (A q) (rows.getD q []).length (C q)) ∧ ∀ j bj oj, j < rows.length → A j = some ⟨bj, oj, none⟩ → 0 < (rows.getD j []).length → bj ≠ b) ∧
    New B w (.slice (A q) (rows.getD q []).length (C q)) (rows.getD q []) ∧ ∀ t, t < (rows.getD q []).length → ∃ b off, A q = some ⟨b, off, none⟩ ∧ b < D

theorem sRem_of {B cap : Nat} {w : World} {a : Option Addr} {A : Nat → Option Addr} {C : Nat → Nat} {rows : List (List Int)} (h : RowsNew B w a cap A C rows) : SRem B w.heap.size 0 w a A C rows := by
  intro q _ hq
  obtain ⟨b, off, e1, e2, e3, e4, e5⟩ := h.2.2.1 q hq
  refine ⟨⟨b, off, e1, e2, e3, e3, e4, e5⟩, h.2.2.2.1 q hq, fun t ht => ?_⟩
  obtain ⟨a', cap', e, _, _, _, h3⟩ := h.2.2.2.1 q hq
  cases e
  obtain ⟨b, off, e1, _, e3, _⟩ := h3 t ht
  exact ⟨b, off, e1, e3⟩
theorem SRem.below {B D i : Nat} {w w' : World} {a : Option Addr} {A : Nat → Option Addr} {C : Nat → Nat} {rows : List (List Int)} (h : SRem B D i w a A C rows) (hb : Below w.heap.size w w') : SRem B D i w' a A C rows := by
  intro q h1 h2
  obtain ⟨⟨b, off, e1, e2, e3, e4, e5, e6⟩, h3, h4⟩ := h q h1 h2
  exact ⟨⟨b, off, e1, e2, e3, by have := hb.size; omega, (hb.cell (p := ⟨b, off + q, none⟩) e4).trans e5, e6⟩, h3.below hb (Nat.le_refl _), h4⟩
theorem SRem.mono {B D i i' : Nat} {w : World} {a : Option Addr} {A : Nat → Option Addr} {C : Nat → Nat} {rows : List (List Int)} (h : SRem B D i w a A C rows) (hi : i ≤ i') : SRem B D i' w a A C rows :=
  fun q h1 h2 => h q (by omega) h2

/-- A number of row i is written: the rows behind it stand. -/
theorem SRem.setCell {B D i : Nat} {w : World} {a : Option Addr} {A : Nat → Option Addr} {C : Nat → Nat} {rows : List (List Int)} (h : SRem B D (i + 1) w a A C rows)
    (hdis : ∀ i j, i < rows.length → j < rows.length → i ≠ j → ∀ bi oi bj oj ki kj, A i = some ⟨bi, oi, none⟩ → A j = some ⟨bj, oj, none⟩ → ki < (rows.getD i []).length → kj < (rows.getD j []).length → ¬ (bi = bj ∧ oi + ki = oj + kj))
    (hi : i < rows.length) {b o t : Nat} (hA : A i = some ⟨b, o, none⟩) (ht : t < (rows.getD i []).length) (u : Value) : SRem B D (i + 1) (w.setCell ⟨b, o + t, none⟩ u) a A C rows := by
  intro q h1 h2
  obtain ⟨⟨bq, off, e1, e2, e3, e4, e5, e6⟩, h3, h4⟩ := h q h1 h2
  refine ⟨⟨bq, off, e1, e2, e3, by simpa using e4, ?_, e6⟩, ?_, h4⟩
  · rw [World.cell?_setCell_other _ _ _ _ (by intro e; have h9 := e6 i b o hi hA (by omega); exact h9 (congrArg Addr.block e))]; exact e5
  · obtain ⟨a', cap', e, f1, f2, f3, f4⟩ := h3
    cases e
    refine ⟨_, _, rfl, f1, f2, f3, fun k hk => ?_⟩
    obtain ⟨bk, ok, g1, g2, g3, g4, g5⟩ := f4 k hk
    refine ⟨bk, ok, g1, g2, by simpa using g3, ?_, by rw [World.frozen?_setCell]; exact g5⟩
    rw [World.cell?_setCell_other _ _ _ _ (by
      intro e
      have hd := hdis i q hi h2 (by omega) b o bk ok t k hA g1 ht hk
      exact hd ⟨congrArg Addr.block e, congrArg Addr.off e⟩)]
    exact g4

theorem IRows.setCell {w : World} {B th k b o : Nat} {v : Value} {g len : Nat → Nat} {F : Nat → List Int} (h : IRows w B th v k g len F) (hb : b < B) (u : Value) : IRows (w.setCell ⟨b, o, none⟩ u) B th v k g len F :=
  ⟨ownsRow_setCell_below h.own hb u, fun q hq => ⟨(h.row q hq).1, ownsRow_setCell_below (h.row q hq).2.1 hb u, (h.row q hq).2.2⟩, h.apart⟩

set_option maxRecDepth 100000 in
set_option maxHeartbeats 4000000 in
theorem djitStamps_walk (hSt : StampsSaid) (hNo : StampsNoSaid) (hRa : RacyDSaid) (a : Option Addr) (n cap : Nat) (l : List Ev) (th : Int) (w : World) (hn : l.length = n) (hs : EvS w a l) (hb : n * 32 ≤ 140737488351232) (hthr : Hid (ThR l)) :
    Calls Try.prog 5 #[.slice a n cap, .int .i64 th] w fun e w' => e = .returned (.bool true) ∧ Below w.heap.size w w' := by
  by_cases hout : th < 0 ∨ 64 < th
  · have hlt : (th < 0) ∨ (¬ th < 0 ∧ 64 < th) := by omega
    rcases hlt with h0 | ⟨h0, h1⟩
    all_goals
      go_enter Try.func5, Try.ntmps5
      go_wp2_with fail
      refine (given_any _ _ _ _ _ hn hs hb).mono ?_
      rintro e w1 ⟨v, rfl, hown, hb1⟩
      obtain ⟨a1, cap1, rfl, _, hc1, hm1, hs1⟩ := evS_of_owns hown
      clear hown
      go_wp2_with fail
      refine (hNo _ _ _ _ _ _ hn hs1 hc1 hm1 hb hout).mono ?_
      rintro e w2 ⟨rfl, hb2⟩
      have hk2 : Below w.heap.size w w2 := hb1.trans (hb2.mono hb1.size)
      clear hb1 hb2 hs1 hout
      have hnil := rows_nil
      go_wp2_with fail
      refine (alive5_true hSt hRa _).mono ?_
      rintro e w6 ⟨rfl, hb6⟩
      go_wp2_with fail
      go_ret
      exact ⟨rfl, hk2.trans (hb6.mono hk2.size)⟩
  · obtain ⟨th, rfl⟩ := Int.eq_ofNat_of_zero_le (by omega : 0 ≤ th)
    have hth : th ≤ 64 := by omega
    have hlr := stampRows_length l th
    rw [hn] at hlr
    go_enter Try.func5, Try.ntmps5
    go_wp2_with fail
    refine (given_any _ _ _ _ _ hn hs hb).mono ?_
    rintro e w1 ⟨v, rfl, hown, hb1⟩
    obtain ⟨a1, cap1, rfl, _, hc1, hm1, hs1⟩ := evS_of_owns hown
    clear hown
    have hl1 := hs.below hb1
    go_wp2_with fail
    refine (hSt _ _ _ _ _ _ hn hs1 hc1 hm1 hb hth hthr.out).mono ?_
    rintro e w2 ⟨sa, sc, A, C, rfl, hr, hb2⟩
    have hk2 : Below w.heap.size w w2 := hb1.trans (hb2.mono hb1.size)
    have hl2 := hl1.below hb2
    have hdis := o_hide hr.2.2.2.2
    have hsr := sRem_of hr
    have hrs := rowS_of_new hr hth
    go_wp2_with fail
    refine (rStamps_any _ _ _ _ _ _ hn hl2 hb hth).mono ?_
    rintro e w3 ⟨v, g, rfl, hir, hb3⟩
    have hform : ∃ aw cw, v = .slice aw n cw := by
      rcases hir.own.2 with ⟨e, e0⟩ | ⟨gv, cv, _, e, _⟩
      · exact ⟨Option.none, 0, by rw [e, e0]⟩
      · exact ⟨_, _, e⟩
    obtain ⟨aw, cw, rfl⟩ := hform
    have hbel3 : Below w1.heap.size w1 w3 := hb2.trans (hb3.mono hb2.size)
    go_wp2_with fail
    refine (stamps5_true _ _ _ _ _ _ _ _ _ _ _ hlr (hrs.below hb3) (rowS_of_irows hn hth hir) (by omega)).mono ?_
    rintro e w4 ⟨rfl, hb4⟩
    have hsr4 := (hsr.below hb3).below hb4
    have hir4 := hir.below hb4 (Nat.le_refl _)
    have hbel4 : Below w1.heap.size w1 w4 := hbel3.trans (hb4.mono hbel3.size)
    have hz2 := hb2.size
    clear hr hsr hrs hir hbel3 hb3 hb4 hl2 hb2
    go_wp2_with fail
    go_loopw [9, 10, 11] (fun iv _ _ wr => ∃ i : Nat, i ≤ n ∧ iv = .int .i64 i ∧ SRem w1.heap.size w2.heap.size i wr sa A C (stampRows l th) ∧ IRows wr w2.heap.size th (.slice aw n cw) n g (fun q => (stamp (ev l) th q).length) (fun q => full (ev l) th q (q + 1)) ∧ Below w1.heap.size w1 wr) (fun iv _ _ _ => n - (intOf iv).toNat)
    case atStart => exact ⟨0, Nat.zero_le _, rfl, hsr4, hir4, hbel4⟩
    case round =>
      clear hsr4 hir4 hbel4
      obtain ⟨i, hi, rfl, hsr, hir, hbel⟩ := hrel
      by_cases h5 : i < n
      · obtain ⟨⟨b, off, rfl, hB1, hD1, hlt, c0, hne⟩, hnew, hin⟩ := hsr i (Nat.le_refl _) (by omega)
        obtain ⟨b', off', rfl, hlt', d0, t0⟩ := (rowS_of_irows hn hth hir) i (by omega)
        have hlen64 : ((stampRows l th).getD i []).length ≤ 64 := by
          rw [stampRows_getD l th i (by omega)]
          exact Nat.le_trans (stamp_length (ev l) th i) hth
        have s0 := hnew.slV (by omega)
        have HO := o_hide (New.opened hnew)
        have HNE := o_hide (fun (bj oj : Nat) (hA : A i = some ⟨bj, oj, none⟩) (h0 : 0 < ((stampRows l th).getD i []).length) => hne i bj oj (by omega) hA h0)
        have HDI := o_hide (fun (hi2 : i < (stampRows l th).length) (bi oi t : Nat) (u : Value) (wx : World) (hh : SRem w1.heap.size w2.heap.size (i + 1) wx (some ⟨b, off, none⟩) A C (stampRows l th)) (hA : A i = some ⟨bi, oi, none⟩) (ht : t < ((stampRows l th).getD i []).length) => hh.setCell hdis.out hi2 hA ht u)
        have HIN := o_hide hin
        have hsr1 := hsr.mono (Nat.le_succ i)
        have hinn : (i : Int) < (n : Int) := by omega
        clear hnew hne hin hsr
        generalize (stampRows l th).getD i [] = r at *
        go_wp2_with fail
        go_region_held3 (fun w' => w'.cell? ⟨b, off + i, none⟩ = some (.slice (A i) r.length (C i)) ∧ w'.cell? ⟨b', off' + i, none⟩ = some (.slice (some ⟨g i, 0, none⟩) r.length th)) (first | exact ⟨c5, d5⟩ | go_keep) ((go_at_call 28; refine (ints5_same (xs := r) ?_ ?_).mono ?_; exact s0.below (Below.refl _ _).drew; exact t0.below (Below.refl _ _).drew; rintro e w5 ⟨rfl, hb5⟩; have hB5 := hbel.drew.trans (hb5.mono hbel.size); have c5 := (hb5.cell (p := ⟨b, off + i, none⟩) hlt).trans c0; have d5 := (hb5.cell (p := ⟨b', off' + i, none⟩) hlt').trans d0; have hK5 : Below wr.heap.size wr w5 := Below.trans (Below.refl _ wr).drew hb5; clear hb5))
        have hsr5 := hsr1.below hK5
        have hir5 := hir.below hK5 (Nat.le_refl _)
        have ho5 := HO.out.below hK5
        clear c0 d0 s0 t0 hbel hsr1 hir HO d5 hK5
        go_wp2_with fail
        go_loopw [11] (fun kv wr => ∃ k : Nat, k ≤ r.length ∧ kv = .int .i64 k ∧ SRem w1.heap.size w2.heap.size (i + 1) wr (some ⟨b, off, none⟩) A C (stampRows l th) ∧ wr.cell? ⟨b, off + i, none⟩ = some (.slice (A i) r.length (C i)) ∧ IntOpen w1.heap.size wr (A i) r.length ∧ IRows wr w2.heap.size th (.slice (some ⟨b', off', none⟩) n cw) n g (fun q => (stamp (ev l) th q).length) (fun q => full (ev l) th q (q + 1)) ∧ Below w1.heap.size w1 wr) (fun kv _ => r.length - (intOf kv).toNat)
        case atStart => exact ⟨0, Nat.zero_le _, rfl, hsr5, c5, ho5, hir5, hB5⟩
        case round =>
          clear hsr5 c5 ho5 hir5 hB5
          obtain ⟨k, hk, rfl, hsr, c0, ho, hir, hbel⟩ := hrel
          by_cases h6 : k < r.length
          · obtain ⟨bi, oi, hA, hBi, hcs, hfz, _⟩ := ho k h6
            obtain ⟨x, hx⟩ := Option.isSome_iff_exists.1 hcs
            obtain ⟨bi', oi', hA', hDi⟩ := HIN.out k h6
            rw [hA] at hA'
            cases hA'
            have hbne := HNE.out bi oi hA (by omega)
            have hsr2 := HDI.out (by omega) bi oi k (.int .i64 (-7)) wr hsr hA h6
            have hc2 : (wr.setCell ⟨bi, oi + k, none⟩ (.int .i64 (-7))).cell? ⟨b, off + i, none⟩ = some (.slice (A i) r.length (C i)) := by
              rw [World.cell?_setCell_other _ _ _ _ (fun e => hbne (congrArg Addr.block e))]; exact c0
            have ho2 := ho.setCell ⟨bi, oi + k, none⟩ (.int .i64 (-7))
            have hir2 := hir.setCell (o := oi + k) hDi (.int .i64 (-7))
            have hb2 := hbel.setCell (p := ⟨bi, oi + k, none⟩) hBi (.int .i64 (-7))
            have hkr : (k : Int) < (r.length : Int) := by omega
            have c0' := c0
            rw [hA] at c0'
            clear hsr ho hir hbel hcs c0 hbne
            have HA := o_hide hA
            clear hA
            go_wp2
            go_roundw
            case rel => exact ⟨k + 1, by omega, by go_num, hsr2, hc2, ho2, hir2, hb2⟩
            case measure => simp [intOf]; omega
          · go_wp2_with fail
            go_roundw
            case rel => exact ⟨i + 1, by omega, by go_num, hsr, hir, hbel⟩
            case measure => simp [intOf]; omega
      · have hs5 := hs1.below hbel
        have hl5 := hl1.below hbel
        have hz5 := hbel.size
        clear hsr
        go_wp2_with fail
        refine (hSt _ _ _ _ _ _ hn hs5 hc1 hm1 hb hth hthr.out).mono ?_
        rintro e w6 ⟨sa6, sc6, A6, C6, rfl, hr6, hb6⟩
        have hrs6 := rowS_of_new hr6 hth
        have hir6 := hir.below hb6 (Nat.le_refl _)
        have hbel6 : Below w1.heap.size w1 w6 := hbel.trans (hb6.mono hz5)
        clear hr6 hb6 hir hbel hs5 hl5
        go_wp2_with fail
        refine (stamps5_true _ _ _ _ _ _ _ _ _ _ _ hlr hrs6 (rowS_of_irows hn hth hir6) (by omega)).mono ?_
        rintro e w7 ⟨rfl, hb7⟩
        have hbel7 : Below w1.heap.size w1 w7 := hbel6.trans (hb7.mono hbel6.size)
        clear hrs6 hir6 hbel6 hb7
        go_wp2_with fail
        refine (kept_true _ _ _ _ _ _ _ hn (hs1.below hbel7) (hl1.below hbel7) hb).mono ?_
        rintro e w8 ⟨rfl, hb8⟩
        have hbel8 : Below w1.heap.size w1 w8 := hbel7.trans (hb8.mono hbel7.size)
        clear hbel7 hb8
        go_wp2_with fail
        refine (alive5_true hSt hRa _).mono ?_
        rintro e w9 ⟨rfl, hb9⟩
        go_wp2_with fail
        go_ret
        exact ⟨rfl, hb1.trans ((hbel8.trans (hb9.mono hbel8.size)).mono hb1.size)⟩
end Go.Proofs.Ytiaedjnedoemoab
