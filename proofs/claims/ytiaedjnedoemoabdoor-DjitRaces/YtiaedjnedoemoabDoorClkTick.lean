import Derived.Test.YtiaedjnedoemoabDoorClkMax
import Derived.Test.YtiaedjnedoemoabDoorZeros
namespace Go.Proofs.YtiaedjnedoemoabDoor
open Go.RowKit

theorem clone_nil (w : World) : Sem.run Tryd.prog (binOp .eql 47 (.slice none 0 0) (.slice none 0 0)) w = .ok (.bool true) w := by kernel_rfl
theorem clone_some (ad : Addr) (n cap : Nat) (w : World) : Sem.run Tryd.prog (binOp .eql 47 (.slice (some ad) n cap) (.slice none 0 0)) w = .ok (.bool false) w := by kernel_rfl

set_option maxRecDepth 100000 in
set_option maxHeartbeats 400000 in
/-- slices.Clone: the same numbers in memory of the call's own. -/
theorem pClone_any (a : Option Addr) (n cap : Nat) (xs : List Int) (w : World) (hs : SlV w a n cap xs) :
    Calls Tryd.prog 70 #[.slice a n cap] w fun e w' => ∃ v, e = .returned v ∧ w'.ownsRow w.heap.size 3 1 v n (xs.map (Value.int .i64)) ∧ Below w.heap.size w w' := by
  obtain ⟨i0, hi, hz0, hz1, hz2⟩ := info_parts Tryd.info3
  obtain ⟨hn, hc, hm, ha, hsl, hb⟩ := hs
  match a, ha, hsl with
  | none, ha, _ =>
    obtain rfl := ha rfl
    obtain rfl : n = 0 := by omega
    obtain rfl : xs = [] := List.eq_nil_of_length_eq_zero hn
    go_enter Tryd.func70, Tryd.ntmps70
    have h := clone_nil w
    go_wp2
    go_ret
    exact ⟨_, rfl, World.ownsRow_nil _ _ _ _, Below.refl _ _⟩
  | some ad, _, hsl =>
    go_enter Tryd.func70, Tryd.ntmps70
    have h := clone_some ad n cap w
    have hsl2 := hsl.below ((Below.refl _ w).alloc (Nat.le_refl _) (.cells #[] 3))
    go_wp2_with (at_builtin; refine wpList_append_own _ rfl _ _ 47 rfl w.heap.size 3 i0 (.int .i64 0) 1 8 Tryd.underlying47 hi hz0 hz1 hz2 rfl (by decide) _ 0 [] rfl (World.ownsRow_made _ _ 0 (Nat.le_refl _) (by unfold maxLen; omega) rfl) ad n cap (xs.map (Value.int .i64)) rfl (by simp [hn]) (append_cells hsl2) (by simp [Value.oneCell']) (by unfold maxLen; omega) (by omega) (by simp) ?_; intro v' w1 hown' hgrow _)
    go_ret
    have h0 : 0 + n = n := by omega
    rw [h0, List.nil_append] at hown'
    exact ⟨v', rfl, hown', ((Below.refl _ w).alloc (Nat.le_refl _) _).grown hgrow (by simp) (fun q e => by cases e; exact Nat.le_refl _)⟩

set_option maxRecDepth 100000 in
set_option maxHeartbeats 400000 in
/-- reaching: so many zeros behind it that it has a number of t. -/
theorem pReach_any (v : Value) (n : Nat) (xs : List Int) (t : Nat) (w : World) (B : Nat) (hB : B ≤ w.heap.size) (hn8 : n * 8 ≤ 140737488351232) (ht : t ≤ 1000) (hown : w.ownsRow B 3 1 v n (xs.map (Value.int .i64))) :
    Calls Tryd.prog 71 #[v, .int .i64 t] w fun e w' => ∃ v', e = .returned v' ∧ w'.ownsRow B 3 1 v' (max n (t + 1)) ((xs ++ List.replicate (max n (t + 1) - n) 0).map (Value.int .i64)) ∧ Below B w w' := by
  obtain ⟨i0, hi, hz0, hz1, hz2⟩ := info_parts Tryd.info3
  obtain ⟨a2, c2, rfl, hl2, h2, h3, h3', h4⟩ := New.of_owns hown
  clear h4
  by_cases hlt : t < n
  · go_enter Tryd.func71, Tryd.ntmps71
    go_wp2
    go_ret
    have e : max n (t + 1) = n := by omega
    rw [e, Nat.sub_self, List.replicate_zero, List.append_nil]
    exact ⟨_, rfl, hown, Below.refl _ _⟩
  · obtain ⟨m, hm⟩ : ∃ m, t + 1 = n + m := ⟨t + 1 - n, by omega⟩
    have hm0 : 0 < m := by omega
    have hnum : ((t : Int) + 1 - (n : Int)) = (m : Int) := by omega
    have e1 : max n (t + 1) = n + m := by omega
    have e2 : n + m - n = m := by omega
    have hbb : (n + m) * 8 ≤ 140737488355328 := by omega
    have hml : n + m ≤ maxLen := by unfold maxLen; omega
    rw [e1, e2, List.map_append, List.map_replicate]
    clear hl2 hm e1 e2 h3'
    go_enter Tryd.func71, Tryd.ntmps71
    go_wp2_with (at_builtin; refine wpList_append_zeros_own _ rfl _ _ 47 3 rfl B 3 i0 (.int .i64 0) 8 Tryd.underlying47 Tryd.underlying3 hi hz0 hz1 hz2 rfl rfl _ n _ rfl hown m rfl hm0 hml hbb hB ?_; intro v' w1 hown' hgrow _)
    go_ret
    exact ⟨v', rfl, hown', (Below.refl _ w).grown hgrow hB (fun q e => (hown.lt q e).1)⟩

theorem getD_set_self {l : List Int} {k : Nat} {x : Int} (h : k < l.length) : (l.set k x).getD k 0 = x := by simp [h]
theorem getD_set_ne {l : List Int} {k j : Nat} {x : Int} (h : k ≠ j) : (l.set k x).getD j 0 = l.getD j 0 := by simp [List.getElem?_set_ne h]

theorem tick_out (f : Int → Int) (xs : List Int) (t : Int) (h : t < 0 ∨ 1000 < t) : Vec.tickV f xs t = Vec.trim xs := by
  unfold Vec.tickV
  have e : Vec.tickLen xs t = xs.length := by unfold Vec.tickLen; split <;> omega
  rw [e]
  congr 1
  refine ext_getD (by rw [Vec.tickUpto_len]) fun j hj => ?_
  rw [Vec.tickUpto_len] at hj
  rw [Vec.tickUpto_getD _ _ _ _ _ hj, if_neg (by omega)]

theorem tick_in (f : Int → Int) (xs : List Int) (k : Nat) (h : k ≤ 1000) :
    Vec.tickV f xs k = Vec.trim ((xs ++ List.replicate (max xs.length (k + 1) - xs.length) 0).set k (f ((xs ++ List.replicate (max xs.length (k + 1) - xs.length) 0).getD k 0 + 1))) := by
  unfold Vec.tickV
  have e : Vec.tickLen xs k = max xs.length (k + 1) := by unfold Vec.tickLen; rw [if_pos (by omega)]; omega
  have hg : ∀ j, (xs ++ List.replicate (max xs.length (k + 1) - xs.length) 0).getD j 0 = xs.getD j 0 := fun j => by
    by_cases hj : j < xs.length
    · simp [List.getElem?_append_left hj]
    · rw [Vec.getD_past xs j (by omega)]
      simp only [List.getD_eq_getElem?_getD, List.getElem?_append_right (by omega : xs.length ≤ j), List.getElem?_replicate]
      split <;> rfl
  rw [e]
  congr 1
  refine ext_getD (by rw [Vec.tickUpto_len]; simp; omega) fun j hj => ?_
  rw [Vec.tickUpto_len] at hj
  rw [Vec.tickUpto_getD _ _ _ _ _ hj, hg]
  by_cases hjk : j = k
  · subst hjk
    rw [if_pos ⟨rfl, by omega⟩, getD_set_self (by simp; omega)]
  · rw [if_neg (by omega), getD_set_ne (fun e => hjk e.symm), hg]

theorem owns_pos {B : Nat} {w : World} {v : Value} {n : Nat} {e : TypeId} {xs : List Value} (h : w.ownsRow B e 1 v n xs) (h0 : 0 < n) : ∃ g c, v = .slice (some ⟨g, 0, none⟩) n c ∧ B ≤ g ∧ n ≤ c ∧ c ≤ 9223372036854775807 := by
  rcases h.2 with ⟨_, h1⟩ | ⟨g, cap, cur, rfl, hb, _, hc, hm, _, _⟩
  · omega
  · exact ⟨g, cap, rfl, hb, hc, hm⟩

/-- What is owned goes through trimmed. -/
theorem trim_owned {w0 w1 : World} {v : Value} {n : Nat} {us : List Int} (hown : w1.ownsRow w0.heap.size 3 1 v n (us.map (Value.int .i64))) (hb : Below w0.heap.size w0 w1) :
    Calls Tryd.prog 67 #[v] w1 fun e w' => ∃ u, e = .returned u ∧ New w0.heap.size w' u (Vec.trim us) ∧ Below w0.heap.size w0 w' := by
  obtain ⟨a2, c2, rfl, hl2, h2, h3, h3', h4⟩ := New.of_owns hown
  refine (pTrim_any a2 n c2 us w1 hl2.symm (sl_of_new hl2 h4) h2 h3).mono ?_
  rintro e w' ⟨⟨u, rfl, hu⟩, rfl⟩
  exact ⟨u, rfl, new_trim hown (hu.imp id fun e => ⟨_, _, rfl, e⟩), hb⟩

set_option maxRecDepth 100000 in
set_option maxHeartbeats 1000000 in
theorem tick_said : TickSaid := by
  intro a n cap xs t w hs
  have hn := Hid.out hs.1
  have hn8 := hs.2.2.2.2.2
  have hC := pClone_any a n cap xs w hs
  clear hs
  by_cases ht : t < 0 ∨ 1000 < t
  · rw [tick_out wrap64 xs t ht]
    have hg : ¬ (0 ≤ t ∧ t ≤ 1000) := by omega
    go_enter Tryd.func60, Tryd.ntmps60
    rcases ht with ht | ht
    all_goals
      go_wp2_with (first | (go_at_call 70; refine hC.mono ?_; clear hC; rintro e w1 ⟨v, rfl, hown, hb1⟩) | (go_at_call 67; refine (trim_owned hown hb1).mono ?_; rintro e w2 ⟨u, rfl, hnew, hb2⟩))
      go_ret
      exact ⟨u, rfl, hnew, hb2⟩
  · obtain ⟨k, rfl⟩ := Int.eq_ofNat_of_zero_le (by omega : 0 ≤ t)
    have hk : k ≤ 1000 := by omega
    have hV : Hid (Vec.tickV wrap64 xs k = _) := tick_in wrap64 xs k hk
    rw [hn] at hV
    have hR : ∀ (v : Value) (w1 : World), w1.ownsRow w.heap.size 3 1 v n (xs.map (Value.int .i64)) → Below w.heap.size w w1 → _ := fun v w1 hown hb1 => pReach_any v n xs k w1 w.heap.size hb1.size hn8 hk hown
    have hul : Hid ((xs ++ List.replicate (max n (k + 1) - n) 0).length = max n (k + 1)) := by unfold Hid; rw [List.length_append, List.length_replicate, hn]; omega
    have hkM : k < max n (k + 1) := by omega
    have hM8 : max n (k + 1) * 8 ≤ 140737488355328 := by omega
    generalize xs ++ List.replicate (max n (k + 1) - n) 0 = us at hV hR hul
    generalize max n (k + 1) = M at hR hul hkM hM8
    go_enter Tryd.func60, Tryd.ntmps60
    go_wp2_with (first | (go_at_call 70; refine hC.mono ?_; clear hC; rintro e w1 ⟨v, rfl, hown, hb1⟩) | (go_at_call 71; refine (hR _ _ hown hb1).mono ?_; clear hR; rintro e w2 ⟨v2, rfl, hown2, hb2⟩; obtain ⟨g, c2, rfl, hBg, hc2, hc3⟩ := owns_pos hown2 (by omega); have hcell := (hown2.cellAt k (by omega)).trans (map_getElem (by have := hul.out; omega)); have hfr := hown2.frozenAt k))
    have hst := hown2.stored k (.int .i64 (wrap64 (us[k]?.getD 0 + 1)))
    have hown3 : (w2.setCell ⟨g, k, none⟩ (.int .i64 (wrap64 (us[k]?.getD 0 + 1)))).ownsRow w.heap.size 3 1 (.slice (some ⟨g, 0, none⟩) M c2) M ((us.set k (wrap64 (us.getD k 0 + 1))).map (Value.int .i64)) := by
      rw [List.map_set, List.getD_eq_getElem?_getD]; exact hst.1
    refine (trim_owned hown3 ((hb1.trans hb2).setCell (p := ⟨g, k, none⟩) hBg _)).mono ?_
    rintro e w3 ⟨u, rfl, hnew, hb4⟩
    rw [← hV.out] at hnew
    clear hst hown3 hown2 hown hcell hfr
    go_wp2
    go_ret
    exact ⟨u, rfl, hnew, hb4⟩
end Go.Proofs.YtiaedjnedoemoabDoor
