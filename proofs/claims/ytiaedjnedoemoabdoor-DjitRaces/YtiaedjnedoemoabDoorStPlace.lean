import Derived.Test.YtiaedjnedoemoabDoorStBase
import Derived.Test.YtiaedjnedoemoabDoorClkAt
import Derived.Laws.BitsLemmas
namespace Go.Proofs.YtiaedjnedoemoabDoor
open Go.RowKit Go.Proofs.Ord

theorem i64_and63 (t : Int) : bits .and .i64 t 63 = t % 64 := by
  have h1 : (BitVec.ofInt 64 t &&& BitVec.ofInt 64 63).toNat = (t % 64).toNat := by
    rw [BitVec.toNat_and]
    have e : (BitVec.ofInt 64 63).toNat = 2 ^ 6 - 1 := by decide
    rw [e, Nat.and_two_pow_sub_one_eq_mod, BitVec.toNat_ofInt]
    omega
  show IntKind.i64.wrap ((BitVec.ofInt 64 t &&& BitVec.ofInt 64 63).toNat : Int) = _
  rw [h1, IntKind.wrap_i64]
  omega

set_option maxHeartbeats 400000 in
/-- place: a thread's page, and where on it. -/
theorem place_any (t : Int) (w : World) (ht : In64 t) : Calls Tryd.prog 37 #[.int .i64 t] w fun e w' => e = .returned (.tuple #[.int .i64 (t / 64), .int .i64 (t % 64)]) ∧ w' = w := by
  have h63 := i64_and63 t
  obtain ⟨h1, h2⟩ := ht
  go_enter Tryd.func37, Tryd.ntmps37
  go_wp2
  go_ret2
  have hd : (t - t % 64).tdiv 64 = t / 64 := by
    rw [show t - t % 64 = 64 * (t / 64) from by omega]; exact Int.mul_tdiv_cancel_left _ (by decide)
  refine ⟨?_, rfl⟩
  rw [← hd]
  rfl
end Go.Proofs.YtiaedjnedoemoabDoor
