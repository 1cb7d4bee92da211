import Derived.Test.YtohnhfopigjpmabVecTick
namespace Go.Proofs.Ytohnhfopigjpmab
open Go.RowKit

theorem ext_getD {xs ys : List Int} (hl : xs.length = ys.length) (h : ∀ j, j < xs.length → xs.getD j 0 = ys.getD j 0) : xs = ys := by
  apply List.ext_getElem hl
  intro i h1 h2
  have := h i h1
  simpa [h1, h2] using this

theorem drewN_below {B : Nat} {w0 w : World} (h : Below B w0 w) (n : Nat) : Below B w0 (w.drewN n) := h.trans ⟨rfl, rfl, rfl, Nat.le_refl _, fun _ _ => rfl⟩

set_option maxRecDepth 100000 in
set_option maxHeartbeats 400000 in
theorem ints_any (a : Option Addr) (n cap : Nat) (xs : List Int) (a' : Option Addr) (n' cap' : Nat) (ys : List Int) (w : World) (hn : xs.length = n) (hs : Sl w a xs) (hb : n * 8 ≤ 140737488351232) (hn' : ys.length = n') (hs' : Sl w a' ys) :
    Calls Try.prog 8 #[.slice a n cap, .slice a' n' cap'] w fun e w' => e = .returned (.bool (decide (xs = ys))) ∧ Below w.heap.size w w' := by
  by_cases hne : n = n'
  · subst hne
    go_enter Try.func8, Try.ntmps8
    go_wp2
    go_loopw [5] (fun i wr => ∃ k : Nat, k ≤ n ∧ i = .int .i64 k ∧ (∀ j, j < k → xs.getD j 0 = ys.getD j 0) ∧ Below w.heap.size w wr) (fun i _ => n - (intOf i).toNat)
    case atStart => exact ⟨0, Nat.zero_le _, rfl, fun j hj => absurd hj (by omega), Below.refl _ _⟩
    case round =>
      obtain ⟨k, hk, rfl, hall, hbel⟩ := hrel
      have H := hide hall
      clear hall
      by_cases h5 : k < n
      · obtain ⟨b, off, rfl, hlt, hc⟩ := (hs.below hbel) k (by omega)
        obtain ⟨b', off', rfl, hlt', hc'⟩ := (hs'.below hbel) k (by omega)
        generalize hx : xs.getD k 0 = x at hc
        generalize hy : ys.getD k 0 = y at hc'
        have HX := hide hx
        have HY := hide hy
        clear hx hy
        by_cases h6 : x = y
        · have h7 : (x != y) = false := by simpa using h6
          have H2 : Hid (∀ j, j < k + 1 → xs.getD j 0 = ys.getD j 0) := fun j hj => by
            by_cases e : j < k
            · exact H.out j e
            · obtain rfl : j = k := by omega
              rw [HX.out, HY.out]; exact h6
          clear h6
          go_wp2
          go_quiet (fail)
          go_wp2
          go_roundw
          case rel => exact ⟨k + 1, by omega, by go_num, H2.out, drewN_below hbel _⟩
          case measure => simp [intOf]; omega
        · have h7 : (x != y) = true := by simpa using h6
          have hres : Hid (decide (xs = ys) = false) := by
            apply decide_eq_false; intro e; apply h6; rw [← HX.out, ← HY.out, e]
          clear h6
          go_wp2
          go_quiet (fail)
          go_wp2
          go_ret
          exact ⟨ret_bool hres.out.symm, drewN_below hbel _⟩
      · have hres : Hid (decide (xs = ys) = true) := decide_eq_true (ext_getD (by omega) (fun j hj => H.out j (by omega)))
        go_wp2
        go_ret
        exact ⟨ret_bool hres.out.symm, hbel⟩
  · have hres : Hid (decide (xs = ys) = false) := by
      apply decide_eq_false; intro e; subst e; omega
    have h7 : ((n : Int) != (n' : Int)) = true := bne_iff_ne.2 (by omega)
    go_enter Try.func8, Try.ntmps8
    go_wp2
    go_ret
    exact ⟨ret_bool hres.out.symm, Below.refl _ _⟩

theorem append_cells {w : World} {a : Addr} {zs : List Int} (h : Sl w (some a) zs) : ∀ j u, (zs.map (Value.int .i64))[j]? = some u → w.cell? (a.add j) = some u := by
  intro j u hj
  have hlt : j < zs.length := by have := (List.getElem?_eq_some_iff.1 hj).1; simpa using this
  obtain ⟨b, off, e, _, hc⟩ := h j hlt
  cases e
  rw [map_getElem hlt] at hj
  cases hj
  by_cases h0 : j = 0
  · subst h0; simpa [Addr.add] using hc
  · simpa [Addr.add, h0] using hc

set_option maxRecDepth 100000 in
set_option maxHeartbeats 400000 in
theorem copied_any (a : Option Addr) (n cap : Nat) (xs : List Int) (w : World) (hn : xs.length = n) (hs : Sl w a xs) (hb : n * 8 ≤ 140737488351232) (ha : a = none → n = 0 ∧ cap = 0) :
    Calls Try.prog 5 #[.slice a n cap] w fun e w' => ∃ v, e = .returned v ∧ New w.heap.size w' v xs ∧ Below w.heap.size w w' := by
  obtain ⟨i0, hi, hz0, hz1, hz2⟩ := info_parts Try.info3
  match a, ha, hs with
  | none, ha, _ =>
    obtain ⟨rfl, rfl⟩ := ha rfl
    obtain rfl : xs = [] := List.eq_nil_of_length_eq_zero hn
    go_enter Try.func5, Try.ntmps5
    go_wp2_with (at_builtin; refine wpList_append_own_none rfl _ _ 22 rfl w.heap.size 3 i0 1 Try.underlying22 hi _ 0 [] rfl (World.ownsRow_nil _ _ _ _) rfl ?_)
    go_ret
    exact ⟨_, rfl, ⟨none, 0, rfl, by simp, by omega, fun _ => rfl, fun i hi => absurd hi (by simp)⟩, Below.refl _ _⟩
  | some ad, _, hs =>
    go_enter Try.func5, Try.ntmps5
    go_wp2_with (at_builtin; refine wpList_append_own _ rfl _ _ 22 rfl w.heap.size 3 i0 (.int .i64 0) 1 8 Try.underlying22 hi hz0 hz1 hz2 rfl (by decide) _ 0 [] rfl (World.ownsRow_nil _ _ _ _) ad n cap (xs.map (Value.int .i64)) rfl (by simp [hn]) (append_cells hs) (by simp [Value.oneCell']) (by unfold maxLen; omega) (by omega) (Nat.le_refl _) ?_; intro v' w1 hown' hgrow _)
    go_wp2
    go_ret
    have h0 : 0 + n = n := by omega
    rw [h0, List.nil_append] at hown'
    obtain ⟨a2, c2, rfl, hl2, h2, h3, h3', h4⟩ := New.of_owns hown'
    exact ⟨.slice a2 n c2, rfl, ⟨a2, c2, by rw [hn], by omega, h3, h3', fun i hi => h4 i (by omega)⟩, (Below.refl _ _).grown hgrow (Nat.le_refl _) (fun q e => by cases e)⟩
end Go.Proofs.Ytohnhfopigjpmab
