import Derived.Test.YtohnhfopigjpmabVecBase
namespace Go.Proofs.Ytohnhfopigjpmab
open Go.RowKit

set_option maxRecDepth 100000 in
set_option maxHeartbeats 400000 in
theorem rLeq_any (a : Option Addr) (n cap : Nat) (xs : List Int) (a' : Option Addr) (n' cap' : Nat) (ys : List Int) (w : World) (hn : xs.length = n) (hs : Sl w a xs) (hb : n * 8 ≤ 140737488351232) (hn' : ys.length = n') (hs' : Sl w a' ys) (hb' : n' * 8 ≤ 140737488351232) :
    Calls Try.prog 14 #[.slice a n cap, .slice a' n' cap'] w fun e w' => e = .returned (.bool (Vec.leq xs ys)) ∧ w' = w := by
  go_enter Try.func14, Try.ntmps14
  go_wp2
  go_loop [5] (fun i => ∃ k : Nat, k ≤ max n n' ∧ i = .int .i64 k ∧ ∀ j, j < k → xs.getD j 0 ≤ ys.getD j 0) (fun i => max n n' - (intOf i).toNat)
  case atStart => exact ⟨0, Nat.zero_le _, rfl, fun j hj => absurd hj (by omega)⟩
  case round =>
    obtain ⟨k, hk, rfl, hall⟩ := hrel
    have H := hide hall
    clear hall
    by_cases h3 : ys.getD k 0 < xs.getD k 0
    · have hres := hide (Vec.leq_no (xs := xs) (ys := ys) k h3)
      have h4 : Vec.at_ ys k < Vec.at_ xs k := by rw [Vec.at_nat, Vec.at_nat]; exact h3
      have h5 : k < n ∨ k < n' := by
        by_cases h1 : k < n
        · exact .inl h1
        · by_cases h2 : k < n'
          · exact .inr h2
          · rw [Vec.getD_past xs k (by omega), Vec.getD_past ys k (by omega)] at h3; omega
      clear h3
      by_cases h1 : k < n
      all_goals
        go_wp2_with (go_at_call 12; refine (rAt_any _ _ _ _ _ _ (by assumption) (by assumption)).mono ?_; rintro e w' ⟨rfl, rfl⟩)
        go_ret
        exact ⟨ret_bool hres.out.symm, rfl⟩
    · have h4 : Vec.at_ xs k ≤ Vec.at_ ys k := by rw [Vec.at_nat, Vec.at_nat]; omega
      by_cases h5 : k < max n n'
      · have H2 : Hid (∀ j, j < k + 1 → xs.getD j 0 ≤ ys.getD j 0) := fun j hj => by
          by_cases e : j < k
          · exact H.out j e
          · obtain rfl : j = k := by omega
            omega
        clear h3
        by_cases h1 : k < n
        all_goals
          go_wp2_with (go_at_call 12; refine (rAt_any _ _ _ _ _ _ (by assumption) (by assumption)).mono ?_; rintro e w' ⟨rfl, rfl⟩)
          go_round
          case rel => exact ⟨k + 1, by omega, by go_num, H2.out⟩
          case measure => simp [intOf]; omega
      · have hres := hide (Vec.leq_yes (xs := xs) (ys := ys) (fun t ht => H.out t (by omega)))
        clear h3
        have h1 : ¬ k < n := by omega
        have h2 : ¬ k < n' := by omega
        go_wp2_with (go_at_call 12; refine (rAt_any _ _ _ _ _ _ (by assumption) (by assumption)).mono ?_; rintro e w' ⟨rfl, rfl⟩)
        go_ret
        exact ⟨ret_bool hres.out.symm, rfl⟩
end Go.Proofs.Ytohnhfopigjpmab
