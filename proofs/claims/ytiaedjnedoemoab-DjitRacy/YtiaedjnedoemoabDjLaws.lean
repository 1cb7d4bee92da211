import Derived.Test.YtiaedjnedoemoabDjSaid
namespace Go.Proofs.Ytiaedjnedoemoab
open Go.RowKit Go.Proofs.Ord

set_option maxRecDepth 100000 in
set_option maxHeartbeats 1000000 in
theorem djitRacy_walk (hSt : StampsSaid) (hRa : RacyDSaid) (a : Option Addr) (n cap : Nat) (l : List Ev) (w : World) (hn : l.length = n) (hs : EvS w a l) (hb : n ≤ 1048576) (hthr : Hid (ThR l)) :
    Calls Try.prog 6 #[.slice a n cap] w fun e w' => e = .returned (.bool true) ∧ Below w.heap.size w w' := by
  go_enter Try.func6, Try.ntmps6
  go_wp2_with fail
  refine (given_any _ _ _ _ _ hn hs (by omega)).mono ?_
  rintro e w1 ⟨v, rfl, hown, hb1⟩
  obtain ⟨a1, cap1, rfl, _, hc1, hm1, hs1⟩ := evS_of_owns hown
  clear hown
  have hl1 := hs.below hb1
  go_wp2_with fail
  refine (hRa _ _ _ _ _ hn hs1 hc1 hm1 hb hthr.out).mono ?_
  rintro e w2 ⟨a2, cap2, rfl, hq, hb2⟩
  have hk2 : Below w.heap.size w w2 := hb1.trans (hb2.mono hb1.size)
  have hs2 := hs1.below hb2
  have hl2 := hl1.below hb2
  clear hb1 hb2 hs1 hl1
  go_wp2_with fail
  refine (rRacy5_any _ _ _ _ _ hn hl2 hb).mono ?_
  rintro e w3 ⟨rfl, ht, hb3⟩
  have hk3 : Below w.heap.size w w3 := hk2.trans (hb3.mono hk2.size)
  have hq3 := hq.below hb3
  have hr3 := ht.boolS
  have hs3 := hs2.below hb3
  have hl3 := hl2.below hb3
  clear hk2 hb3 hq ht hs2 hl2
  go_wp2_with fail
  go_loopw [6] (fun iv wr => ∃ i : Nat, i ≤ n ∧ iv = .int .i64 i ∧ Below w3.heap.size w3 wr) (fun iv _ => n - (intOf iv).toNat)
  case atStart => exact ⟨0, Nat.zero_le _, rfl, Below.refl _ _⟩
  case round =>
    obtain ⟨i, hi, rfl, hbr⟩ := hrel
    by_cases h5 : i < n
    · obtain ⟨b, off, rfl, _, c0⟩ := (hq3.below hbr) i h5
      obtain ⟨b', off', e', _, d0⟩ := (hr3.below hbr) i h5
      cases e'
      rw [Nat.zero_add] at d0
      generalize racy (ev l) i = x at c0 d0
      have hx : (x != x) = false := by cases x <;> rfl
      have hin : (i : Int) < (n : Int) := by omega
      go_wp2_with fail
      go_quiet (fail)
      go_wp2_with fail
      go_roundw
      case rel => exact ⟨i + 1, by omega, by go_num, o_drewN hbr _⟩
      case measure => simp [intOf]; omega
    · have hs4 := hs3.below hbr
      have hl4 := hl3.below hbr
      have hk4 : Below w.heap.size w wr := hk3.trans (hbr.mono hk3.size)
      clear hbr
      go_wp2_with fail
      refine (kept_true _ _ _ _ _ _ _ hn hs4 hl4 (by omega)).mono ?_
      rintro e w5 ⟨rfl, hb5⟩
      have hk5 := hk4.trans (hb5.mono hk4.size)
      clear hb5 hk4
      go_wp2_with fail
      refine (alive5_true hSt hRa _).mono ?_
      rintro e w6 ⟨rfl, hb6⟩
      go_wp2_with fail
      go_ret
      exact ⟨rfl, hk5.trans (hb6.mono hk5.size)⟩

end Go.Proofs.Ytiaedjnedoemoab
