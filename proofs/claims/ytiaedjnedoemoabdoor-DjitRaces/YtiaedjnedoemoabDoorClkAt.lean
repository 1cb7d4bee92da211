import Derived.Test.YtiaedjnedoemoabDoorSlBase
namespace Go.Proofs.YtiaedjnedoemoabDoor
open Go.RowKit

set_option maxRecDepth 100000 in
set_option maxHeartbeats 400000 in
theorem pAt_any (a : Option Addr) (n cap : Nat) (zs : List Int) (t : Int) (w : World) (hn : zs.length = n) (hs : Sl w a zs) :
    Calls Tryd.prog 38 #[.slice a n cap, .int .i64 t] w fun e w' => e = .returned (.int .i64 (Vec.at_ zs t)) ∧ w' = w := by
  by_cases h0 : t < 0
  · go_enter Tryd.func38, Tryd.ntmps38
    go_wp2
    go_ret
    exact ⟨ret_int (Vec.at_neg _ _ h0).symm, rfl⟩
  · by_cases h1 : (n : Int) ≤ t
    · go_enter Tryd.func38, Tryd.ntmps38
      go_wp2
      go_ret
      exact ⟨ret_int (Vec.at_past _ _ (by omega)).symm, rfl⟩
    · obtain ⟨k, rfl⟩ := Int.eq_ofNat_of_zero_le (by omega : 0 ≤ t)
      obtain ⟨b, off, rfl, hlt, hc⟩ := hs k (by omega)
      go_enter Tryd.func38, Tryd.ntmps38
      go_wp2
      go_ret
      exact ⟨ret_int (by rw [Vec.at_nat]; simp), rfl⟩

theorem at_said : AtSaid := fun a n cap xs t w h => (pAt_any a n cap xs t w h.1 h.2.2.2.2.1).mono (by rintro e w' ⟨rfl, rfl⟩; exact ⟨rfl, Below.refl _ _⟩)

set_option maxRecDepth 100000 in
set_option maxHeartbeats 400000 in
/-- trimmed: the zeros at the end are left away; nil, if nothing is left. -/
theorem pTrim_any (a : Option Addr) (n cap : Nat) (xs : List Int) (w : World) (hn : xs.length = n) (hs : Sl w a xs) (hc : n ≤ cap) (hm : cap ≤ 9223372036854775807) :
    Calls Tryd.prog 67 #[.slice a n cap] w fun e w' => (∃ v, e = .returned v ∧ ((v = .slice none 0 0 ∧ Vec.trim xs = []) ∨ v = .slice a (Vec.trim xs).length cap)) ∧ w' = w := by
  go_enter Tryd.func67, Tryd.ntmps67
  go_wp2
  go_loop [3] (fun i => ∃ k : Nat, k ≤ n ∧ i = .int .i64 k ∧ ∀ j, k ≤ j → xs.getD j 0 = 0) (fun i => (intOf i).toNat)
  case atStart => exact ⟨n, Nat.le_refl _, rfl, fun j hj => Vec.getD_past _ _ (by omega)⟩
  case round =>
    obtain ⟨k, hk, rfl, hall⟩ := hrel
    have H := hide hall
    clear hall
    by_cases h0 : k = 0
    · subst h0
      have hres : Hid (Vec.trim xs = xs.take 0) := Vec.trim_eq xs 0 (Nat.zero_le _) H.out (.inl rfl)
      go_wp2
      go_ret
      exact ⟨⟨_, rfl, .inl ⟨rfl, by rw [hres.out]; rfl⟩⟩, rfl⟩
    · obtain ⟨q, rfl⟩ : ∃ q, k = q + 1 := ⟨k - 1, by omega⟩
      obtain ⟨b, off, rfl, hlt, hcell⟩ := hs q (by omega)
      clear h0
      by_cases h1 : xs.getD q 0 = 0
      · have H2 : Hid (∀ j, q ≤ j → xs.getD j 0 = 0) := fun j hj => by
          by_cases e : j = q
          · subst e; exact h1
          · exact H.out j (by omega)
        have hb : (xs[q]?.getD 0 == 0) = true := by rw [← List.getD_eq_getElem?_getD, h1]; rfl
        clear h1
        go_wp2
        go_round
        case rel => exact ⟨q, by omega, by go_num, H2.out⟩
        case measure => simp [intOf]
      · have hres : Hid (Vec.trim xs = xs.take (q + 1)) := Vec.trim_eq xs (q + 1) (by omega) H.out (.inr (by simpa using h1))
        have hb : (xs[q]?.getD 0 == 0) = false := by rw [← List.getD_eq_getElem?_getD]; exact beq_eq_false_iff_ne.2 h1
        have hz : (((q : Int) + 1) == 0) = false := beq_eq_false_iff_ne.2 (by omega)
        clear h1
        go_wp2
        go_ret
        exact ⟨⟨_, rfl, .inr (by rw [hres.out, List.length_take]; simp; omega)⟩, rfl⟩
end Go.Proofs.YtiaedjnedoemoabDoor
