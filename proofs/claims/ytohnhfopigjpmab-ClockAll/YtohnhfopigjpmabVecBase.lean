import Derived.Test.YtohnhfopigjpmabChecked
import Derived.Test.YtohnhfopigjpmabVecMath
import Derived.WalkKit
import Derived.ProofKit
namespace Go.Proofs.Ytohnhfopigjpmab
open Go.RowKit

/-- The first cells that a slice leads to hold these numbers. -/
def Sl (w : World) (a : Option Addr) (zs : List Int) : Prop :=
  ∀ i, i < zs.length → ∃ b off, a = some ⟨b, off, none⟩ ∧ b < w.heap.size ∧ w.cell? ⟨b, off + i, none⟩ = some (.int .i64 (zs.getD i 0))

theorem hide {p : Prop} (h : p) : Hid p := h
theorem ret_int {k : IntKind} {a b : Int} (h : a = b) : Ending.returned (.int k a) = .returned (.int k b) := by rw [h]
theorem ret_bool {a b : Bool} (h : a = b) : Ending.returned (.bool a) = .returned (.bool b) := by rw [h]

set_option maxRecDepth 100000 in
set_option maxHeartbeats 400000 in
theorem rAt_any (a : Option Addr) (n cap : Nat) (zs : List Int) (t : Int) (w : World) (hn : zs.length = n) (hs : Sl w a zs) :
    Calls Try.prog 12 #[.slice a n cap, .int .i64 t] w fun e w' => e = .returned (.int .i64 (Vec.at_ zs t)) ∧ w' = w := by
  by_cases h0 : t < 0
  · go_enter Try.func12, Try.ntmps12
    go_wp2
    go_ret
    exact ⟨ret_int (Vec.at_neg _ _ h0).symm, rfl⟩
  · by_cases h1 : (n : Int) ≤ t
    · go_enter Try.func12, Try.ntmps12
      go_wp2
      go_ret
      exact ⟨ret_int (Vec.at_past _ _ (by omega)).symm, rfl⟩
    · obtain ⟨k, rfl⟩ := Int.eq_ofNat_of_zero_le (by omega : 0 ≤ t)
      obtain ⟨b, off, rfl, hlt, hc⟩ := hs k (by omega)
      go_enter Try.func12, Try.ntmps12
      go_wp2
      go_ret
      exact ⟨ret_int (by rw [Vec.at_nat]; simp), rfl⟩
end Go.Proofs.Ytohnhfopigjpmab
