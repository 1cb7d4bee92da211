import Derived.Test.YtohnhfopigjpmaaDoorOrdSaid
namespace Go.Proofs.YtohnhfopigjpmaaDoor
open Go.RowKit Go.Proofs.Ord

theorem PairNew.below {B B' : Nat} {w w' : World} {v : Value} {ps : List (Nat × Nat)} (h : PairNew B w v ps) (hb : Below w.heap.size w w') (hB : B' ≤ B) : PairNew B' w' v ps := by
  obtain ⟨a, cap, e, h1, h2, h3⟩ := h
  refine ⟨a, cap, e, h1, h2, fun i hi => ?_⟩
  obtain ⟨b, off, e1, e2, e3, e4, e5, e6, e7⟩ := h3 i hi
  exact ⟨b, off, e1, by omega, by have := hb.size; omega, (hb.cell (p := ⟨b, off + i * 2, none⟩) e3).trans e4, (hb.cell (p := ⟨b, off + i * 2 + 1, none⟩) e3).trans e5, (hb.frozen (p := ⟨b, off + i * 2, none⟩) e3).trans e6, (hb.frozen (p := ⟨b, off + i * 2 + 1, none⟩) e3).trans e7⟩

theorem size_setCell (w : World) (a : Addr) (u : Value) : (w.setCell a u).heap.size = w.heap.size := by
  have h := (Below.refl 0 w).setCell (p := a) (Nat.zero_le _) u
  simp

theorem PairNew.setCell {B b o : Nat} {w : World} {v : Value} {ps : List (Nat × Nat)} (h : PairNew B w v ps) (hb : b < B) (u : Value) : PairNew B (w.setCell ⟨b, o, none⟩ u) v ps := by
  obtain ⟨a, cap, e, h1, h2, h3⟩ := h
  refine ⟨a, cap, e, h1, h2, fun i hi => ?_⟩
  obtain ⟨b', off, e1, e2, e3, e4, e5, e6, e7⟩ := h3 i hi
  refine ⟨b', off, e1, e2, by rw [size_setCell]; exact e3, ?_, ?_, ?_, ?_⟩
  · rw [World.cell?_setCell_other _ _ _ _ (by intro e; cases e; omega)]; exact e4
  · rw [World.cell?_setCell_other _ _ _ _ (by intro e; cases e; omega)]; exact e5
  · rw [World.frozen?_setCell]; exact e6
  · rw [World.frozen?_setCell]; exact e7

theorem pairNew_of_owns {w : World} {B t n : Nat} {v : Value} {ps : List (Nat × Nat)} (h : w.ownsRow B t 2 v n (pairCells ps)) : PairNew B w v ps := by
  have hl : ps.length = n := by have := h.1; rw [pairCells_length] at this; omega
  rcases h.2 with ⟨rfl, h0⟩ | ⟨g, cap, cur, rfl, hB, hg, hc, hm, _, _⟩
  · subst h0
    exact ⟨none, 0, by rw [hl], by omega, by unfold maxLen; omega, fun i hi => absurd hi (by omega)⟩
  · refine ⟨_, cap, by rw [hl], by omega, hm, fun i hi => ⟨g, 0, rfl, hB, (Array.getElem?_eq_some_iff.1 hg).1, ?_, ?_, h.frozenAt _, h.frozenAt _⟩⟩
    · rw [show 0 + i * 2 = 2 * i from by omega, h.cellAt _ (by omega)]; exact (pairCells_getElem ps i hi).1
    · rw [show 0 + i * 2 + 1 = 2 * i + 1 from by omega, h.cellAt _ (by omega)]; exact (pairCells_getElem ps i hi).2

/-- The first numbers of pairs can be written, in blocks from B to C. -/
def PairOpen (B C : Nat) (w : World) (a : Option Addr) (m : Nat) : Prop :=
  ∀ j, j < m → ∃ b off, a = some ⟨b, off, none⟩ ∧ B ≤ b ∧ b < C ∧ (w.cell? ⟨b, off + j * 2, none⟩).isSome = true ∧ w.frozen? ⟨b, off + j * 2, none⟩ = false

theorem PairNew.opened {B : Nat} {w : World} {a : Option Addr} {n cap : Nat} {ps : List (Nat × Nat)} (h : PairNew B w (.slice a n cap) ps) : PairOpen B w.heap.size w a n := by
  obtain ⟨a', cap', e, _, _, h3⟩ := h
  cases e
  intro j hj
  obtain ⟨b, off, e1, e2, e3, e4, e5, e6, e7⟩ := h3 j hj
  exact ⟨b, off, e1, e2, e3, by rw [e4]; rfl, e6⟩
theorem PairOpen.below {B C m : Nat} {w w' : World} {a : Option Addr} (h : PairOpen B C w a m) (hb : Below C w w') : PairOpen B C w' a m := by
  intro j hj
  obtain ⟨b, off, e1, e2, e3, e4, e5⟩ := h j hj
  exact ⟨b, off, e1, e2, e3, by rw [hb.cell (p := ⟨b, off + j * 2, none⟩) e3]; exact e4, (hb.frozen (p := ⟨b, off + j * 2, none⟩) e3).trans e5⟩
theorem isSome_setCell {w : World} {p q : Addr} {u : Value} (h : (w.cell? q).isSome = true) : ((w.setCell p u).cell? q).isSome = true := by
  obtain ⟨x, hx⟩ := Option.isSome_iff_exists.1 h
  by_cases e : q = p
  · subst e
    rw [World.cell?_setCell_same w q u hx]; rfl
  · rw [World.cell?_setCell_other _ _ _ _ (fun h => e h.symm)]; exact h
theorem PairOpen.setCell {B C m : Nat} {w : World} {a : Option Addr} (h : PairOpen B C w a m) (p : Addr) (u : Value) : PairOpen B C (w.setCell p u) a m := by
  intro j hj
  obtain ⟨b, off, e1, e2, e3, e4, e5⟩ := h j hj
  exact ⟨b, off, e1, e2, e3, isSome_setCell e4, by rw [World.frozen?_setCell]; exact e5⟩

theorem beq_self_bool (b : Bool) : (b == b) = true := by cases b <;> rfl

set_option maxRecDepth 100000 in
set_option maxHeartbeats 2000000 in
theorem orderAll_walk (hB : BeforeSaid) (hR : RacesSaid) (a : Option Addr) (n cap : Nat) (l : List Ev) (i j : Int) (w : World) (hn : l.length = n) (hs : EvS w a l) (hb : n ≤ 1048576) (hTab : Hid (Tab w)) :
    Calls Tryd.prog 3 #[.slice a n cap, .int .i64 i, .int .i64 j] w fun e w' => e = .returned (.bool true) ∧ Below w.heap.size w w' := by
  have hlen := racesTo_length (ev l) n
  have hlen2 : (racesTo (ev l) n).length ≤ 1099511627776 := Nat.le_trans hlen (Nat.le_trans (Nat.mul_le_mul hb hb) (by omega))
  clear hlen
  go_enter Tryd.func3, Tryd.ntmps3
  go_wp2_with fail
  refine (given_any _ _ _ _ _ hn hs (by omega)).mono ?_
  rintro e w1 ⟨v, rfl, hown, hb1⟩
  obtain ⟨a1, cap1, rfl, _, hc1, hm1, hs1⟩ := evS_of_owns hown
  clear hown
  go_wp2_with fail
  refine (hB _ _ _ _ _ _ _ hn hs1 hc1 hm1 (by omega)).mono ?_
  rintro e w2 ⟨rfl, hb2⟩
  have hs2 := hs1.below hb2
  have hw2 : Below w.heap.size w w2 := hb1.trans (hb2.mono hb1.size)
  have hl2 := hs.below hw2
  clear hb1 hb2 hs1
  go_wp2_with fail
  refine (hR _ _ _ _ _ hn hs2 hc1 hm1 hb (tab_below hTab.out hw2)).mono ?_
  rintro e w3 ⟨vp, rfl, hp, hb3⟩
  obtain ⟨ap, cp, rfl, hp1, hp2, _⟩ := id hp
  have hw3 : Below w.heap.size w w3 := hw2.trans (hb3.mono hw2.size)
  go_wp2_with fail
  refine (rRaces_any _ _ _ _ _ hn (hl2.below hb3) hb).mono ?_
  rintro e w4 ⟨vw, rfl, hown, hb4⟩
  have hq := pairNew_of_owns hown
  obtain ⟨aw, cw, rfl, hq1, hq2, _⟩ := id hq
  have hp4 := hp.below hb4 (Nat.le_refl _)
  clear hown
  go_wp2_with fail
  refine (pairs_true _ _ _ _ _ _ _ rfl hp4.pairS.2 hq.pairS.2 (by omega)).mono ?_
  rintro e w5 ⟨rfl, hb5⟩
  have ho5 := (hp.opened.below hb4).below (hb5.mono hb4.size)
  have hq5 := hq.below hb5 (Nat.le_refl _)
  have hk5 : Below w2.heap.size w2 w5 := hb3.trans ((hb4.mono hb3.size).trans (hb5.mono (Nat.le_trans hb3.size hb4.size)))
  have hsz3 := hb3.size
  clear hp hp4 hq hb4 hb5
  go_wp2_with fail
  go_loopw [12] (fun kv wr => ∃ k : Nat, k ≤ (racesTo (ev l) n).length ∧ kv = .int .i64 k ∧ Below w2.heap.size w2 wr ∧ PairNew w3.heap.size wr (.slice aw (racesTo (ev l) n).length cw) (racesTo (ev l) n) ∧ PairOpen w2.heap.size w3.heap.size wr ap (racesTo (ev l) n).length) (fun kv _ => (racesTo (ev l) n).length - (intOf kv).toNat)
  case atStart => exact ⟨0, Nat.zero_le _, rfl, hk5, hq5, ho5⟩
  case round =>
    clear hk5 hq5 ho5
    obtain ⟨k, hk, rfl, hkr, hqr, hor⟩ := hrel
    by_cases h5 : k < (racesTo (ev l) n).length
    · obtain ⟨b, off, rfl, hB1, hB2, hcs, hfz⟩ := hor k h5
      obtain ⟨x, hx⟩ := Option.isSome_iff_exists.1 hcs
      have hkr2 := hkr.setCell (p := ⟨b, off + k * 2, none⟩) hB1 (.int .i64 (-1))
      have hqr2 := hqr.setCell (o := off + k * 2) hB2 (.int .i64 (-1))
      have hor2 := hor.setCell ⟨b, off + k * 2, none⟩ (.int .i64 (-1))
      clear hkr hqr hor hcs
      go_wp2
      go_roundw
      case rel => exact ⟨k + 1, by omega, by go_num, hkr2, hqr2, hor2⟩
      case measure => simp [intOf]; omega
    · have hsz2 := hkr.size
      go_wp2_with fail
      refine (hR _ _ _ _ _ hn (hs2.below hkr) hc1 hm1 hb (tab_below (tab_below hTab.out hw2) hkr)).mono ?_
      rintro e w6 ⟨vp, rfl, hp, hb6⟩
      obtain ⟨ap6, cp6, rfl, hp61, hp62, _⟩ := id hp
      have hq6 := hqr.below hb6 (Nat.le_refl _)
      have hk6 := hkr.trans (hb6.mono hsz2)
      clear hkr hqr hor hb6
      go_wp2_with fail
      refine (pairs_true _ _ _ _ _ _ _ rfl hp.pairS.2 hq6.pairS.2 (by omega)).mono ?_
      rintro e w7 ⟨rfl, hb7⟩
      have hk7 := hk6.trans (hb7.mono hk6.size)
      clear hp hq6 hk6 hb7
      go_wp2_with fail
      refine (kept_true _ _ _ _ _ _ _ hn (hs2.below hk7) (hl2.below hk7) (by omega)).mono ?_
      rintro e w8 ⟨rfl, hb8⟩
      have hk8 := hk7.trans (hb8.mono hk7.size)
      clear hk7 hb8
      go_wp2_with fail
      refine (rBefore_any _ _ _ _ _ _ _ hn (hl2.below hk8) (by omega)).mono ?_
      rintro e w9 ⟨rfl, hb9⟩
      have hk9 := hk8.trans (hb9.mono hk8.size)
      have hbb := beq_self_bool (befI l i j)
      clear hk8 hb9
      go_wp2_with fail
      refine (alive3_true hB hR _ (tab_below (tab_below hTab.out hw2) hk9)).mono ?_
      rintro e w10 ⟨rfl, hb10⟩
      go_wp2_with fail
      go_ret
      exact ⟨rfl, hw2.trans ((hk9.trans (hb10.mono hk9.size)).mono hw2.size)⟩
end Go.Proofs.YtohnhfopigjpmaaDoor
