import Derived.Test.YtiaedjnedoemoabDoorSetJoin
import Derived.Test.YtiaedjnedoemoabDoorTab
import Derived.Lib.TrailingZeros
import Derived.Laws.Bits64b
import Derived.Shelf.Spec.TrailingZeros
import Derived.RangeFuncNested
import Derived.RangeFuncBound
import Derived.RangeFuncCalls
import Derived.RangeFuncLeaves
import Derived.Shelf.Abstract
import Derived.Shelf.RegionOpen
import Derived.WalkKit
import Derived.OwnWalkIn
import Derived.TacticsInMore
import Derived.LoopNIn
import Derived.LoopIn
namespace Go.Proofs.YtiaedjnedoemoabDoor
open Go.RowKit Go.Shelf

attribute [local go_sem] Oper.semAt_some

/-- The bits of a word, rising. -/
def bl (x : Nat) : List Nat := (List.range 64).filter fun i => x.testBit i
theorem bl_zero : bl 0 = [] := by simp [bl]

theorem filter_first (P : Nat → Bool) (c : Nat) (h0 : ∀ j, j < c → P j = false) (h1 : P c = true) : ∀ n, c < n → (List.range n).filter P = c :: (List.range n).filter (fun j => P j && decide (j ≠ c)) := by
  intro n
  induction n with
  | zero => intro h; omega
  | succ n ih =>
    intro h
    rw [List.range_succ, List.filter_append, List.filter_append]
    by_cases hc : c < n
    · rw [ih hc]
      have e : decide (n ≠ c) = true := decide_eq_true (by omega)
      simp only [List.filter_cons, List.filter_nil, e, Bool.and_true, List.cons_append]
    · obtain rfl : c = n := by omega
      have e1 : (List.range c).filter P = [] := List.filter_eq_nil_iff.2 fun j hj => by rw [h0 j (List.mem_range.1 hj)]; simp
      have e2 : (List.range c).filter (fun j => P j && decide (j ≠ c)) = [] := List.filter_eq_nil_iff.2 fun j hj => by rw [h0 j (List.mem_range.1 hj)]; simp
      rw [e1, e2]
      simp [h1]

theorem low_bits {x : Nat} (h0 : 0 < x) (hx : x < 18446744073709551616) : Lib.ctz 64 x < 64 ∧ x.testBit (Lib.ctz 64 x) = true ∧ (∀ j, j < Lib.ctz 64 x → x.testBit j = false) ∧ ∀ j, (x &&& (x - 1)).testBit j = (x.testBit j && decide (j ≠ Lib.ctz 64 x)) := by
  have hc : Lib.ctz 64 x = Lib.ctzFrom 64 x := by unfold Lib.ctz; rw [if_neg (by omega)]
  obtain ⟨m, hm, hlt⟩ := Lib.ctzFrom_spec 64 x h0 hx
  rw [hc]
  generalize Lib.ctzFrom 64 x = c at hm hlt
  have hp : 2 ^ (c + 1) = 2 ^ c * 2 := Nat.pow_succ 2 c
  have hpos : 0 < 2 ^ c := Nat.two_pow_pos c
  have e1 : x = 2 ^ (c + 1) * m + 2 ^ c := by rw [hm, hp, Nat.mul_add, Nat.mul_one, Nat.mul_assoc]
  have e2 : x - 1 = 2 ^ (c + 1) * m + (2 ^ c - 1) := by omega
  have t1 : ∀ j, x.testBit j = if j < c + 1 then (2 ^ c).testBit j else m.testBit (j - (c + 1)) := fun j => by
    rw [e1]; exact Nat.testBit_two_pow_mul_add m (by omega) j
  have t2 : ∀ j, (x - 1).testBit j = if j < c + 1 then (2 ^ c - 1).testBit j else m.testBit (j - (c + 1)) := fun j => by
    rw [e2]; exact Nat.testBit_two_pow_mul_add m (by omega) j
  refine ⟨hlt, ?_, fun j hj => ?_, fun j => ?_⟩
  · rw [t1, if_pos (by omega)]; simp
  · rw [t1, if_pos (by omega), Nat.testBit_two_pow]; exact decide_eq_false (by omega)
  · rw [Nat.testBit_and, t2, t1]
    by_cases hj : j < c + 1
    · rw [if_pos hj, if_pos hj, Nat.testBit_two_pow, Nat.testBit_two_pow_sub_one]
      by_cases hjc : j = c
      · subst hjc; simp
      · have : decide (c = j) = false := decide_eq_false (fun e => hjc e.symm)
        rw [this]; simp
    · rw [if_neg hj, if_neg hj]
      have : decide (j ≠ c) = true := decide_eq_true (by omega)
      rw [this]; simp

theorem bl_next {x : Nat} (h0 : 0 < x) (hx : x < 18446744073709551616) : bl x = Lib.ctz 64 x :: bl (x &&& (x - 1)) := by
  obtain ⟨h1, h2, h3, h4⟩ := low_bits h0 hx
  unfold bl
  rw [filter_first (fun i => x.testBit i) _ h3 h2 64 h1]
  congr 1
  exact List.filter_congr fun j _ => (h4 j).symm

/-- The words of what is in the one set and not in the other. -/
def diffN (x y : Nat) : Nat := (BitVec.ofNat 64 x &&& ~~~ BitVec.ofNat 64 y).toNat
theorem diffN_lt (x y : Nat) : diffN x y < 18446744073709551616 := (BitVec.ofNat 64 x &&& ~~~ BitVec.ofNat 64 y).isLt
theorem bits_andNot (x y : Nat) : bits .andNot .u64 (x : Int) (y : Int) = ((diffN x y : Nat) : Int) := by
  simp only [bits, ofInt_nat]
  exact wrap_u64_small (diffN_lt x y)
theorem diffN_bit (x y : Nat) {j : Nat} (hj : j < 64) : (diffN x y).testBit j = (x.testBit j && !y.testBit j) := by
  unfold diffN
  rw [BitVec.testBit_toNat, BitVec.getLsbD_and, BitVec.getLsbD_not, BitVec.getLsbD_ofNat, BitVec.getLsbD_ofNat]
  simp [hj]
theorem diffN_zero {x : Nat} (hx : x < 18446744073709551616) : diffN x 0 = x := by
  unfold diffN
  have : ~~~ BitVec.ofNat 64 0 = BitVec.allOnes 64 := by decide
  rw [this, BitVec.and_allOnes, BitVec.toNat_ofNat]
  exact Nat.mod_eq_of_lt hx

/-- All that is in the one set and not in the other, word by word. -/
def allW (s o : List Nat) (n : Nat) : List Nat := (List.range n).flatMap fun k => (bl (diffN (s.getD k 0) (o.getD k 0))).map fun b => 64 * k + b
theorem allW_succ (s o : List Nat) (n : Nat) : allW s o (n + 1) = allW s o n ++ (bl (diffN (s.getD n 0) (o.getD n 0))).map fun b => 64 * n + b := by simp [allW, List.range_succ]
theorem allW_split (s o : List Nat) (k : Nat) : ∀ n, k ≤ n → ∃ R, allW s o n = allW s o k ++ R := by
  intro n
  induction n with
  | zero => intro h; obtain rfl : k = 0 := by omega
            exact ⟨[], by simp⟩
  | succ n ih =>
    intro h
    by_cases hk : k = n + 1
    · subst hk; exact ⟨[], by simp⟩
    · obtain ⟨R, hR⟩ := ih (by omega)
      exact ⟨R ++ _, by rw [allW_succ, hR, List.append_assoc]⟩


set_option maxHeartbeats 1000000 in
theorem tz_core (x k idx : Nat) (w : World) (hx0 : ((x : Int) == 0) = false)
    (key : IntKind.u64.wrap (bits BinOp.and IntKind.u64 (x : Int) (IntKind.u64.wrap (-(x : Int))) * 285870213051353865) / 288230376151711744 = (idx : Int))
    (hi : idx < 64) (hk : k < 64) (hcell : w.cell? ⟨0, idx, none⟩ = some (.int .u8 k)) :
    Calls Tryd.prog 44 #[.int .u64 x] w fun e w' => e = .returned (.int .i64 k) ∧ w' = w := by
  go_enter Tryd.func44, Tryd.ntmps44
  go_wp2_with (simp only [key])
  go_ret
  exact ⟨rfl, rfl⟩

theorem tz_any (x : Nat) (h0 : 0 < x) (hx : x < 18446744073709551616) (w : World) (hT : Tab w) :
    Calls Tryd.prog 44 #[.int .u64 x] w fun e w' => e = .returned (.int .i64 (Lib.ctz 64 x)) ∧ w' = w := by
  obtain ⟨hlow, hk⟩ := Lib.lowest_bit 64 x (by omega) hx
  obtain ⟨hi, htab⟩ := Lib.deBruijn64_at _ hk
  have hcell := hT _ hi
  rw [htab] at hcell
  exact tz_core x _ _ w (by simp; omega) (tz64_key x _ hx (by omega) hlow) hi hk hcell
end Go.Proofs.YtiaedjnedoemoabDoor
