import Derived.Test.YtohnhfopigjpmabVecLeq
namespace Go.Proofs.Ytohnhfopigjpmab
open Go.RowKit

set_option maxRecDepth 100000 in
set_option maxHeartbeats 400000 in
theorem rTrim_any (a : Option Addr) (n cap : Nat) (xs : List Int) (w : World) (hn : xs.length = n) (hs : Sl w a xs) (hc : n ≤ cap) (hm : cap ≤ 9223372036854775807) :
    Calls Try.prog 22 #[.slice a n cap] w fun e w' => e = .returned (.slice a (Vec.trim xs).length cap) ∧ w' = w := by
  go_enter Try.func22, Try.ntmps22
  go_wp2
  go_loop [3] (fun i => ∃ k : Nat, k ≤ n ∧ i = .int .i64 k ∧ ∀ j, k ≤ j → xs.getD j 0 = 0) (fun i => (intOf i).toNat)
  case atStart => exact ⟨n, Nat.le_refl _, rfl, fun j hj => Vec.getD_past _ _ (by omega)⟩
  case round =>
    obtain ⟨k, hk, rfl, hall⟩ := hrel
    have H := hide hall
    clear hall
    by_cases h0 : k = 0
    · subst h0
      have hres : Hid (Vec.trim xs = xs.take 0) := Vec.trim_eq xs 0 (Nat.zero_le _) H.out (.inl rfl)
      go_wp2
      go_ret
      exact ⟨by rw [hres.out]; rfl, rfl⟩
    · obtain ⟨q, rfl⟩ : ∃ q, k = q + 1 := ⟨k - 1, by omega⟩
      obtain ⟨b, off, rfl, hlt, hcell⟩ := hs q (by omega)
      clear h0
      by_cases h1 : xs.getD q 0 = 0
      · have H2 : Hid (∀ j, q ≤ j → xs.getD j 0 = 0) := fun j hj => by
          by_cases e : j = q
          · subst e; exact h1
          · exact H.out j (by omega)
        have hb : (xs[q]?.getD 0 == 0) = true := by rw [← List.getD_eq_getElem?_getD, h1]; rfl
        clear h1
        go_wp2
        go_round
        case rel => exact ⟨q, by omega, by go_num, H2.out⟩
        case measure => simp [intOf]
      · have hres : Hid (Vec.trim xs = xs.take (q + 1)) := Vec.trim_eq xs (q + 1) (by omega) H.out (.inr (by simpa using h1))
        have hb : (xs[q]?.getD 0 == 0) = false := by rw [← List.getD_eq_getElem?_getD]; exact beq_eq_false_iff_ne.2 h1
        clear h1
        go_wp2
        go_ret
        exact ⟨by rw [hres.out, List.length_take]; simp; omega, rfl⟩
end Go.Proofs.Ytohnhfopigjpmab
