import Derived.Test.YtohnhfopigjpmaaDoorOrdAll
namespace Go.Proofs.YtohnhfopigjpmaaDoor
open Go.RowKit Go.Proofs.Ord

theorem filter_at {α : Type} (p : List α) (f : α → Bool) (d : α) (i : Nat) (hi : i < p.length) (h : f (p.getD i d) = true) :
    ((p.take i).filter f).length < (p.filter f).length ∧ (p.filter f).getD ((p.take i).filter f).length d = p.getD i d ∧ ((p.take (i + 1)).filter f).length = ((p.take i).filter f).length + 1 := by
  have e1 : p.getD i d = p[i] := by simp [hi]
  rw [e1] at h ⊢
  have e2 : p.take (i + 1) = p.take i ++ [p[i]] := List.take_succ_eq_append_getElem hi
  have e3 : p.filter f = (p.take i).filter f ++ (p[i] :: (p.drop (i + 1)).filter f) := by
    have : p = p.take i ++ p[i] :: p.drop (i + 1) := by
      rw [← List.drop_eq_getElem_cons hi, List.take_append_drop]
    rw (occs := .pos [1]) [this]
    rw [List.filter_append, List.filter_cons, if_pos h]
  refine ⟨?_, ?_, ?_⟩
  · rw [e3, List.length_append, List.length_cons]; omega
  · rw [e3, List.getD_eq_getElem?_getD, List.getElem?_append_right (Nat.le_refl _), Nat.sub_self]; rfl
  · rw [e2, List.filter_append, List.length_append]; simp [h]
theorem filter_not {α : Type} (p : List α) (f : α → Bool) (d : α) (i : Nat) (hi : i < p.length) (h : f (p.getD i d) = false) :
    ((p.take (i + 1)).filter f).length = ((p.take i).filter f).length := by
  have e1 : p.getD i d = p[i] := by simp [hi]
  rw [e1] at h
  rw [List.take_succ_eq_append_getElem hi, List.filter_append, List.length_append]; simp [h]

theorem EvS.take {w : World} {a : Option Addr} {l : List Ev} (h : EvS w a l) (m : Nat) : EvS w a (l.take m) := by
  intro i hi
  have hi2 : i < l.length := by rw [List.length_take] at hi; omega
  have hi3 : i < m := by rw [List.length_take] at hi; omega
  obtain ⟨b, off, e1, e2, e3⟩ := h i hi2
  have e : Ord.ev (l.take m) i = Ord.ev l i := by unfold Ord.ev; simp [hi2, hi3]
  exact ⟨b, off, e1, e2, by rw [e]; exact e3⟩
theorem races_take (l : List Ev) (m : Nat) (h : m ≤ l.length) : racesTo (ev (l.take m)) m = racesTo (ev l) m := by
  apply racesTo_congr
  intro k hk
  unfold ev
  have : k < l.length := by omega
  simp [hk, this]

set_option maxRecDepth 100000 in
set_option maxHeartbeats 2000000 in
theorem orderAhead_walk (hB : BeforeSaid) (hR : RacesSaid) (a : Option Addr) (n cap : Nat) (l : List Ev) (m : Int) (w : World) (hn : l.length = n) (hs : EvS w a l) (hb : n ≤ 1048576) (hTab : Hid (Tab w)) :
    Calls Tryd.prog 5 #[.slice a n cap, .int .i64 m] w fun e w' => e = .returned (.bool true) ∧ Below w.heap.size w w' := by
  by_cases hm0 : m < 0
  · go_enter Tryd.func5, Tryd.ntmps5
    go_wp2_with fail
    refine (given_any _ _ _ _ _ hn hs (by omega)).mono ?_
    rintro e w1 ⟨v, rfl, hown, hb1⟩
    obtain ⟨a1, cap1, rfl, _, hc1, hm1, hs1⟩ := evS_of_owns hown
    clear hown
    go_wp2_with fail
    refine (alive3_true hB hR _ (tab_below hTab.out hb1)).mono ?_
    rintro e w2 ⟨rfl, hb2⟩
    go_wp2_with fail
    go_ret
    exact ⟨rfl, hb1.trans (hb2.mono hb1.size)⟩
  · by_cases hm2 : (n : Int) < m
    · go_enter Tryd.func5, Tryd.ntmps5
      go_wp2_with fail
      refine (given_any _ _ _ _ _ hn hs (by omega)).mono ?_
      rintro e w1 ⟨v, rfl, hown, hb1⟩
      obtain ⟨a1, cap1, rfl, _, hc1, hm1, hs1⟩ := evS_of_owns hown
      clear hown
      go_wp2_with fail
      refine (alive3_true hB hR _ (tab_below hTab.out hb1)).mono ?_
      rintro e w2 ⟨rfl, hb2⟩
      go_wp2_with fail
      go_ret
      exact ⟨rfl, hb1.trans (hb2.mono hb1.size)⟩
    · obtain ⟨m, rfl⟩ := Int.eq_ofNat_of_zero_le (by omega : 0 ≤ m)
      have hmn : m ≤ n := by omega
      have hlen := racesTo_length (ev l) n
      have hlen2 : (racesTo (ev l) n).length ≤ 1099511627776 := Nat.le_trans hlen (Nat.le_trans (Nat.mul_le_mul hb hb) (by omega))
      clear hlen
      have hlen3 : (racesTo (ev l) m).length ≤ 1099511627776 := Nat.le_trans (racesTo_length (ev l) m) (Nat.le_trans (Nat.mul_le_mul (Nat.le_trans hmn hb) (Nat.le_trans hmn hb)) (by omega))
      have HT := o_hide (races_take l m (by omega))
      have HF := o_hide (racesTo_filter (ev l) m n hmn)
      go_enter Tryd.func5, Tryd.ntmps5
      go_wp2_with fail
      refine (given_any _ _ _ _ _ hn hs (by omega)).mono ?_
      rintro e w1 ⟨v, rfl, hown, hb1⟩
      obtain ⟨a1, cap1, rfl, _, hc1, hm1, hs1⟩ := evS_of_owns hown
      have hm1' : (cap1 : Int) ≤ 9223372036854775807 := by unfold maxLen at hm1; omega
      clear hown
      go_wp2_with fail
      refine (hR _ _ _ _ _ hn hs1 hc1 hm1 hb (tab_below hTab.out hb1)).mono ?_
      rintro e w2 ⟨vp, rfl, hp, hb2⟩
      obtain ⟨ap, cp, rfl, hp1, hp2, _⟩ := id hp
      have hs2 := (hs1.below hb2).take m
      have hk2 : Below w.heap.size w w2 := hb1.trans (hb2.mono hb1.size)
      go_wp2_with fail
      refine (hR _ m _ _ _ (by rw [List.length_take]; omega) hs2 (by omega) hm1 (by omega) (tab_below hTab.out hk2)).mono ?_
      rintro e w3 ⟨vq, rfl, hq, hb3⟩
      rw [HT.out] at hq
      obtain ⟨aq, cq, rfl, hq1, hq2, _⟩ := id hq
      have hp3 := (hp.below hb3 (Nat.le_refl _)).pairS.2
      have hq3 := hq.pairS.2
      have hk3 : Below w.heap.size w w3 := hk2.trans (hb3.mono hk2.size)
      have hqe : Hid (racesTo (ev l) m = (racesTo (ev l) n).filter (fun p => decide (p.2 < m))) := HF.out.symm
      clear hp hq hb3 hk2 hb2 hb1 hs1 hs2 HT HF
      generalize racesTo (ev l) n = P at *
      generalize racesTo (ev l) m = Q at *
      go_wp2_with fail
      go_loopw [8, 9] (fun kv iv wr => ∃ i : Nat, i ≤ P.length ∧ iv = .int .i64 i ∧ kv = .int .i64 ((P.take i).filter (fun p => decide (p.2 < m))).length ∧ Below w3.heap.size w3 wr) (fun _ iv _ => P.length - (intOf iv).toNat)
      case atStart => exact ⟨0, Nat.zero_le _, rfl, rfl, Below.refl _ _⟩
      case round =>
        obtain ⟨i, hi, rfl, rfl, hbr⟩ := hrel
        by_cases h5 : i < P.length
        · obtain ⟨b, off, rfl, _, c0, c1⟩ := (hp3.below hbr) i h5
          by_cases h6 : (P.getD i (0, 0)).2 < m
          · obtain ⟨f1, f2, f3⟩ := filter_at P (fun p => decide (p.2 < m)) (0, 0) i h5 (by simpa using h6)
            rw [← hqe.out] at f1 f2
            obtain ⟨b', off', rfl, _, d0, d1⟩ := (hq3.below hbr) _ f1
            rw [f2] at d0 d1
            have F3 := o_hide f3
            clear f2 f3
            generalize (P.getD i (0, 0)).1 = x at c0 d0
            generalize (P.getD i (0, 0)).2 = y at c1 d1 h6
            generalize ((P.take i).filter (fun p => decide (p.2 < m))).length = k at f1 d0 d1 F3
            have h6a : ¬ (m : Int) ≤ (y : Int) := by omega
            have h7 : ¬ (Q.length : Int) ≤ (k : Int) := by omega
            have h7b : decide (Q.length ≤ k) = false := decide_eq_false (by omega)
            go_wp2_with fail
            go_quiet (fail)
            go_wp2_with fail
            go_roundw
            case rel => exact ⟨i + 1, by omega, by go_num, by rw [F3.out]; go_num, o_drewN hbr _⟩
            case measure => simp [intOf]; omega
          · have F3 := o_hide (filter_not P (fun p => decide (p.2 < m)) (0, 0) i h5 (by simpa using h6))
            generalize (P.getD i (0, 0)).1 = x at c0
            generalize (P.getD i (0, 0)).2 = y at c1 h6
            have h6a : (m : Int) ≤ (y : Int) := by omega
            clear c0
            go_wp2_with fail
            go_roundw
            case rel => exact ⟨i + 1, by omega, by go_num, by rw [F3.out], hbr⟩
            case measure => simp [intOf]; omega
        · have e1 : P.take i = P := List.take_of_length_le (by omega)
          rw [e1, ← hqe.out]
          clear e1
          have hqq : ((Q.length : Int) == (Q.length : Int)) = true := by simp
          have hfin : Hid (Below w.heap.size w wr) := hk3.trans (hbr.mono hk3.size)
          go_wp2_with fail
          refine (alive3_true hB hR _ (tab_below hTab.out hfin.out)).mono ?_
          rintro e w5 ⟨rfl, hb5⟩
          go_wp2_with fail
          go_ret
          exact ⟨rfl, hfin.out.trans (hb5.mono hfin.out.size)⟩
end Go.Proofs.YtohnhfopigjpmaaDoor
