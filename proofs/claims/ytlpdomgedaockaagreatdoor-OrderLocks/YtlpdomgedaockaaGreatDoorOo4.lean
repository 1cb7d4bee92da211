import Derived.Test.YtlpdomgedaockaaGreatDoorOo3
import Derived.Lib.TrailingZeros
import Derived.Shelf.Spec.TrailingZeros
import Derived.WalkKit
import Derived.ProofKit
import Derived.Test.YtlpdomgedaockaaGreatDoorOo0
import Derived.Laws.Bits64b
import Derived.RangeFuncNested
import Derived.RangeFuncBound
import Derived.RangeFuncCalls
import Derived.RangeFuncLeaves
import Derived.Shelf.Abstract
import Derived.Shelf.RegionOpen
import Derived.OwnWalkIn
import Derived.TacticsInMore
import Derived.LoopNIn
import Derived.LoopIn
import Derived.Test.YtlpdomgedaockaaGreatDoorOo2
import Derived.Deep.AppendLies
import Derived.WalkSpells
import Derived.StillTactics
import Derived.OwnWalk
import Derived.Laws.Pointers
import Derived.Maps.AppendAt
set_option linter.unusedVariables false
set_option linter.unusedSimpArgs false
namespace Go.Proofs.YtlpdomgedaockaaGreatDoor
open Go.RowKit Go.Shelf Go.Proofs.Ord
attribute [local go_sem] Oper.semAt_some
set_option maxHeartbeats 1000000 in
theorem pasts_in (m : Nat) (a : Option Addr) (n cap : Nat) (K : Int) (w : World) :
    CallsIn Fence.wide m Tryz.prog 27 #[.slice a n cap, .int .i64 K] w fun e w' =>
      e = .returned (.func (.func 56) #[] #[.pointer (some ⟨w.heap.size, 0, none⟩), .pointer (some ⟨w.heap.size + 1, 0, none⟩)]) ∧ w' = (w.alloc (.cells #[.slice a n cap] 33)).alloc (.cells #[.int .i64 K] 3) := by
  refine callsIn_of_wp Tryz.func27 rfl trivial ?_ rfl
  simp only [Tryz.ntmps27, List.size_toArray, List.length_cons, List.length_nil, Nat.reduceAdd, Nat.reduceSub, Array.replicate_succ, Array.replicate_zero, List.push_toArray, List.append_toArray, List.nil_append, List.cons_append]
  gi_wp2
  go_ret
  exact ⟨by simp, rfl⟩
def pastBase (Bl Bk n : Nat) (a : Option Addr) : Side := fun b => b = Bl ∨ b = Bk ∨ ∃ ad, a = some ad ∧ 0 < n ∧ b = ad.block
def pastE (es : List Ev) (n K : Nat) (pre : List (Nat × Value)) (x : Nat × Value) (O : Side) (W : World) : Prop :=
  x.1 = pre.length ∧ pre.length < n ∧ (∃ B ws, SetO B W x.2 ws ∧ Holds ws K (fun i => bef (ev es) i x.1 = true)) ∧ ∀ b, x.2.ownBlock = some b → ¬ O b
theorem pastE_steps {es : List Ev} {n K : Nat} (pre : List (Nat × Value)) (x : Nat × Value) (O : Side) (W : World) (O' : Side) (W' : World) (h : pastE es n K pre x O W) (hs : Steps O W O' W') : pastE es n K pre x O' W' := by
  obtain ⟨h1, h2, ⟨B, ws, h3, h4⟩, h5⟩ := h
  refine ⟨h1, h2, ⟨B, ws, h3.kept fun b hb => hs.rest b (h3.lt b hb).2 (h5 b hb), h4⟩, fun b hb hO => ?_⟩
  rcases hs.fresh b hO with h | h
  · exact h5 b hb h
  · have := (h3.lt b hb).2; omega
theorem pastE_anti {es : List Ev} {n K : Nat} (pre : List (Nat × Value)) (x : Nat × Value) (O O' : Side) (W : World) (h : pastE es n K pre x O W) (hs : ∀ b, O' b → O b) : pastE es n K pre x O' W :=
  ⟨h.1, h.2.1, h.2.2.1, fun b hb hO => h.2.2.2 b hb (hs b hO)⟩
theorem pasts_seq (Bl Bk n K : Nat) (a : Option Addr) (cap : Nat) (es : List Ev) (w : World) (hK : K ≤ 1048576) (hn : n * 32 ≤ 140737488351232) (hlen : es.length = n) (hcl : Boxed w Bl 33 (.slice a n cap)) (hck : Boxed w Bk 3 (.int .i64 K)) (hes : EvS w a es) :
    SeqF Fence.wide 3 Tryz.prog 56 #[.pointer (some ⟨Bl, 0, none⟩), .pointer (some ⟨Bk, 0, none⟩)] (fun x : Nat × Value => #[.int .i64 x.1, x.2]) (pastBase Bl Bk n a) (pastE es n K) (fun xs => xs.length = n) (fun pre => pre.length ≤ n) w :=
  fun l J Jx W hW hJ _ hin hbase hY h0 => pasts1_in l Bl Bk n K a cap es J Jx W hJ hin hK hn hlen ((hW.block Bl hcl.lt).trans hcl) ((hW.block Bk hck.lt).trans hck) (hes.below hW)
    (fun pre O W1 hj => ⟨(hbase pre O W1 hj Bl (.inl rfl)).1, (hbase pre O W1 hj Bl (.inl rfl)).2, (hbase pre O W1 hj Bk (.inr (.inl rfl))).1, (hbase pre O W1 hj Bk (.inr (.inl rfl))).2, fun b hb h0 => hbase pre O W1 hj b.block (.inr (.inr ⟨b, hb, h0, rfl⟩))⟩)
    hY h0
theorem pastBase_lt {Bl Bk n : Nat} {a : Option Addr} {es : List Ev} {w : World} (h1 : Bl < w.heap.size) (h2 : Bk < w.heap.size) (hlen : es.length = n) (hes : EvS w a es) : ∀ b, pastBase Bl Bk n a b → b < w.heap.size := by
  rintro b (rfl | rfl | ⟨ad, rfl, h0, rfl⟩)
  · exact h1
  · exact h2
  · obtain ⟨b, off, e, hlt, _⟩ := hes 0 (by omega)
    cases e; exact hlt
theorem bef_shift (l : Nat → Ev) (i : Nat) : ∀ b a, bef (fun k => l (k + i)) a b = true ↔ bef l (a + i) (b + i) = true := by
  intro b
  induction b using Nat.strongRecOn with
  | ind b ih =>
    intro a
    rw [bef_iff, bef_iff]
    constructor
    · rintro ⟨h1, h | ⟨k, h2, h3, h4, h5⟩⟩
      · exact ⟨by omega, .inl h⟩
      · exact ⟨by omega, .inr ⟨k + i, by omega, by omega, (ih k h3 a).1 h4, h5⟩⟩
    · rintro ⟨h1, h | ⟨k, h2, h3, h4, h5⟩⟩
      · exact ⟨by omega, .inl h⟩
      · obtain ⟨k', rfl⟩ : ∃ k', k = k' + i := ⟨k - i, by omega⟩
        exact ⟨by omega, .inr ⟨k', by omega, by omega, (ih k' (by omega) a).2 h4, h5⟩⟩
theorem ev_sub (l : List Ev) (i m k : Nat) (h : k < m) : ev ((l.drop i).take m) k = ev l (k + i) := by
  unfold ev
  rw [List.getD_eq_getElem?_getD, List.getElem?_take, if_pos h, List.getElem?_drop, List.getD_eq_getElem?_getD, Nat.add_comm]
theorem bef_sub (l : List Ev) (i m a b : Nat) (h : b < m) : bef (ev ((l.drop i).take m)) a b = true ↔ bef (ev l) (a + i) (b + i) = true := by
  rw [← bef_shift (ev l) i b a, bef_congr (m := fun k => ev l (k + i)) b (fun k hk => ev_sub l i m k (by omega))]
theorem EvS.sub {w : World} {b off : Nat} {l : List Ev} (h : EvS w (some ⟨b, off, none⟩) l) (i m : Nat) : EvS w (some ⟨b, off + i * 4, none⟩) ((l.drop i).take m) := fun k hk => by
  rw [List.length_take, List.length_drop] at hk
  obtain ⟨b', off', e, hlt, hc⟩ := h (k + i) (by omega)
  cases e
  refine ⟨b, off + i * 4, rfl, hlt, ?_⟩
  rw [ev_sub _ _ _ _ (by omega)]
  have e : off + i * 4 + k * 4 = off + (k + i) * 4 := by omega
  rw [e]; exact hc
end Go.Proofs.YtlpdomgedaockaaGreatDoor
namespace Go.Proofs.YtlpdomgedaockaaGreatDoor
open Go.RowKit Go.Shelf
def Tab (w : World) : Prop := TabAt 0 Lib.deBruijn64tab w
theorem tab_below {w w' : World} (hT : Tab w) (hb : Below w.heap.size w w') : Tab w' := fun j hj => (hb.cell (p := ⟨0, j, none⟩) (World.block_lt_of_cell? _ _ (hT j hj))).trans (hT j hj)
end Go.Proofs.YtlpdomgedaockaaGreatDoor
namespace Go.Proofs.YtlpdomgedaockaaGreatDoor
open Go.RowKit Go.Shelf
attribute [local go_sem] Oper.semAt_some
def bl (x : Nat) : List Nat := (List.range 64).filter fun i => x.testBit i
theorem bl_zero : bl 0 = [] := by simp [bl]
theorem filter_first (P : Nat → Bool) (c : Nat) (h0 : ∀ j, j < c → P j = false) (h1 : P c = true) : ∀ n, c < n → (List.range n).filter P = c :: (List.range n).filter (fun j => P j && decide (j ≠ c)) := by
  intro n
  induction n with
  | zero => intro h; omega
  | succ n ih =>
    intro h
    rw [List.range_succ, List.filter_append, List.filter_append]
    by_cases hc : c < n
    · rw [ih hc]
      have e : decide (n ≠ c) = true := decide_eq_true (by omega)
      simp only [List.filter_cons, List.filter_nil, e, Bool.and_true, List.cons_append]
    · obtain rfl : c = n := by omega
      have e1 : (List.range c).filter P = [] := List.filter_eq_nil_iff.2 fun j hj => by rw [h0 j (List.mem_range.1 hj)]; simp
      have e2 : (List.range c).filter (fun j => P j && decide (j ≠ c)) = [] := List.filter_eq_nil_iff.2 fun j hj => by rw [h0 j (List.mem_range.1 hj)]; simp
      rw [e1, e2]
      simp [h1]
theorem low_bits {x : Nat} (h0 : 0 < x) (hx : x < 18446744073709551616) : Lib.ctz 64 x < 64 ∧ x.testBit (Lib.ctz 64 x) = true ∧ (∀ j, j < Lib.ctz 64 x → x.testBit j = false) ∧ ∀ j, (x &&& (x - 1)).testBit j = (x.testBit j && decide (j ≠ Lib.ctz 64 x)) := by
  have hc : Lib.ctz 64 x = Lib.ctzFrom 64 x := by unfold Lib.ctz; rw [if_neg (by omega)]
  obtain ⟨m, hm, hlt⟩ := Lib.ctzFrom_spec 64 x h0 hx
  rw [hc]
  generalize Lib.ctzFrom 64 x = c at hm hlt
  have hp : 2 ^ (c + 1) = 2 ^ c * 2 := Nat.pow_succ 2 c
  have hpos : 0 < 2 ^ c := Nat.two_pow_pos c
  have e1 : x = 2 ^ (c + 1) * m + 2 ^ c := by rw [hm, hp, Nat.mul_add, Nat.mul_one, Nat.mul_assoc]
  have e2 : x - 1 = 2 ^ (c + 1) * m + (2 ^ c - 1) := by omega
  have t1 : ∀ j, x.testBit j = if j < c + 1 then (2 ^ c).testBit j else m.testBit (j - (c + 1)) := fun j => by
    rw [e1]; exact Nat.testBit_two_pow_mul_add m (by omega) j
  have t2 : ∀ j, (x - 1).testBit j = if j < c + 1 then (2 ^ c - 1).testBit j else m.testBit (j - (c + 1)) := fun j => by
    rw [e2]; exact Nat.testBit_two_pow_mul_add m (by omega) j
  refine ⟨hlt, ?_, fun j hj => ?_, fun j => ?_⟩
  · rw [t1, if_pos (by omega)]; simp
  · rw [t1, if_pos (by omega), Nat.testBit_two_pow]; exact decide_eq_false (by omega)
  · rw [Nat.testBit_and, t2, t1]
    by_cases hj : j < c + 1
    · rw [if_pos hj, if_pos hj, Nat.testBit_two_pow, Nat.testBit_two_pow_sub_one]
      by_cases hjc : j = c
      · subst hjc; simp
      · have : decide (c = j) = false := decide_eq_false (fun e => hjc e.symm)
        rw [this]; simp
    · rw [if_neg hj, if_neg hj]
      have : decide (j ≠ c) = true := decide_eq_true (by omega)
      rw [this]; simp
theorem bl_next {x : Nat} (h0 : 0 < x) (hx : x < 18446744073709551616) : bl x = Lib.ctz 64 x :: bl (x &&& (x - 1)) := by
  obtain ⟨h1, h2, h3, h4⟩ := low_bits h0 hx
  unfold bl
  rw [filter_first (fun i => x.testBit i) _ h3 h2 64 h1]
  congr 1
  exact List.filter_congr fun j _ => (h4 j).symm
def diffN (x y : Nat) : Nat := (BitVec.ofNat 64 x &&& ~~~ BitVec.ofNat 64 y).toNat
theorem diffN_lt (x y : Nat) : diffN x y < 18446744073709551616 := (BitVec.ofNat 64 x &&& ~~~ BitVec.ofNat 64 y).isLt
theorem bits_andNot (x y : Nat) : bits .andNot .u64 (x : Int) (y : Int) = ((diffN x y : Nat) : Int) := by
  simp only [bits, ofInt_nat]
  exact wrap_u64_small (diffN_lt x y)
theorem diffN_bit (x y : Nat) {j : Nat} (hj : j < 64) : (diffN x y).testBit j = (x.testBit j && !y.testBit j) := by
  unfold diffN
  rw [BitVec.testBit_toNat, BitVec.getLsbD_and, BitVec.getLsbD_not, BitVec.getLsbD_ofNat, BitVec.getLsbD_ofNat]
  simp [hj]
theorem diffN_zero {x : Nat} (hx : x < 18446744073709551616) : diffN x 0 = x := by
  unfold diffN
  have : ~~~ BitVec.ofNat 64 0 = BitVec.allOnes 64 := by decide
  rw [this, BitVec.and_allOnes, BitVec.toNat_ofNat]
  exact Nat.mod_eq_of_lt hx
def allW (s o : List Nat) (n : Nat) : List Nat := (List.range n).flatMap fun k => (bl (diffN (s.getD k 0) (o.getD k 0))).map fun b => 64 * k + b
theorem allW_succ (s o : List Nat) (n : Nat) : allW s o (n + 1) = allW s o n ++ (bl (diffN (s.getD n 0) (o.getD n 0))).map fun b => 64 * n + b := by simp [allW, List.range_succ]
theorem allW_split (s o : List Nat) (k : Nat) : ∀ n, k ≤ n → ∃ R, allW s o n = allW s o k ++ R := by
  intro n
  induction n with
  | zero => intro h; obtain rfl : k = 0 := by omega
            exact ⟨[], by simp⟩
  | succ n ih =>
    intro h
    by_cases hk : k = n + 1
    · subst hk; exact ⟨[], by simp⟩
    · obtain ⟨R, hR⟩ := ih (by omega)
      exact ⟨R ++ _, by rw [allW_succ, hR, List.append_assoc]⟩
set_option maxHeartbeats 1000000 in
theorem tz_core (x k idx : Nat) (w : World) (hx0 : ((x : Int) == 0) = false)
    (key : IntKind.u64.wrap (bits BinOp.and IntKind.u64 (x : Int) (IntKind.u64.wrap (-(x : Int))) * 285870213051353865) / 288230376151711744 = (idx : Int))
    (hi : idx < 64) (hk : k < 64) (hcell : w.cell? ⟨0, idx, none⟩ = some (.int .u8 k)) :
    Calls Tryz.prog 90 #[.int .u64 x] w fun e w' => e = .returned (.int .i64 k) ∧ w' = w := by
  go_enter Tryz.func90, Tryz.ntmps90
  go_wp2_with (simp only [key])
  go_ret
  exact ⟨rfl, rfl⟩
theorem tz_any (x : Nat) (h0 : 0 < x) (hx : x < 18446744073709551616) (w : World) (hT : Tab w) :
    Calls Tryz.prog 90 #[.int .u64 x] w fun e w' => e = .returned (.int .i64 (Lib.ctz 64 x)) ∧ w' = w := by
  obtain ⟨hlow, hk⟩ := Lib.lowest_bit 64 x (by omega) hx
  obtain ⟨hi, htab⟩ := Lib.deBruijn64_at _ hk
  have hcell := hT _ hi
  rw [htab] at hcell
  exact tz_core x _ _ w (by simp; omega) (tz64_key x _ hx (by omega) hlow) hi hk hcell
end Go.Proofs.YtlpdomgedaockaaGreatDoor
namespace Go.Proofs.YtlpdomgedaockaaGreatDoor
open Go.RowKit Go.Shelf
attribute [local go_sem] Oper.semAt_some
def KeptOn (Kb : Side) (W W' : World) : Prop := ∀ b, Kb b → W'.heap[b]? = W.heap[b]?
theorem KeptOn.refl (Kb : Side) (W : World) : KeptOn Kb W W := fun _ _ => rfl
theorem KeptOn.trans {Kb : Side} {A B C : World} (h : KeptOn Kb A B) (k : KeptOn Kb B C) : KeptOn Kb A C := fun b hb => (k b hb).trans (h b hb)
set_option maxRecDepth 100000 in
set_option maxHeartbeats 2000000 in
theorem without1_in (l Bs Bo : Nat) (a1 : Option Addr) (cs : Nat) (s : List Nat) (ao : Option Addr) (co : Nat) (o : List Nat) (Kb : Side) (J Jx : List Nat → World → Prop) (W : World)
    (hY : ∀ pre x W1, J pre W1 → pre.length < (allW s o s.length).length → YieldAt Fence.wide (3 - 1) Tryz.prog l #[.int .i64 (x : Nat)] W1 fun e W' => (e = .returned (.bool true) ∧ J (pre ++ [x]) W' ∧ KeptOn Kb W1 W') ∨ (e = .returned (.bool false) ∧ Jx (pre ++ [x]) W'))
    (hBs : W.cell? ⟨Bs, 0, none⟩ = some (.slice a1 s.length cs)) (hBo : W.cell? ⟨Bo, 0, none⟩ = some (.slice ao o.length co)) (hk2 : Kb Bo) (hk3 : ∀ b, a1 = some b → Kb b.block) (hk4 : ∀ b, ao = some b → Kb b.block) (hk5 : Kb 0)
    (hs : SetR W a1 s) (ho : SetR W ao o) (hsb : ∀ x, x ∈ s → x < 18446744073709551616) (hsl : s.length ≤ 1048576) (_hol : o.length ≤ 1048576) (hT : Tab W) (h0 : J [] W) :
    CallsIn Fence.wide 3 Tryz.prog 89 #[.func (.yield l) #[] #[], .pointer (some ⟨Bs, 0, none⟩), .pointer (some ⟨Bo, 0, none⟩)] W fun e W' => (∃ v, e = .returned v) ∧
      ((∃ ys, ys = allW s o s.length ∧ J ys W') ∨ (∃ pre, (∃ R, allW s o s.length = pre ++ R) ∧ Jx pre W')) := by
  refine callsIn_of_wp Tryz.func89 rfl trivial ?_ rfl
  simp only [Tryz.ntmps89, List.size_toArray, List.length_cons, List.length_nil, Nat.reduceAdd, Nat.reduceSub, Array.replicate_succ, Array.replicate_zero, List.push_toArray, List.append_toArray, List.nil_append, List.cons_append]
  obtain ⟨n, hn⟩ : ∃ n, s.length = n := ⟨_, rfl⟩
  obtain ⟨m, hm⟩ : ∃ m, o.length = m := ⟨_, rfl⟩
  have Hn := hide' hn
  have Hm := hide' hm
  rw [hn] at hBs hsl hY ⊢
  rw [hm] at hBo _hol
  clear hn hm
  have hcell : Hid (∀ (wr : World), KeptOn Kb W wr → ∀ b x, Kb b → wr.cell? ⟨b, x, none⟩ = W.cell? ⟨b, x, none⟩) := fun wr hk b x hb => World.cell?_of_block (w := W) (a := ⟨b, x, none⟩) (hk b hb)
  gi_wp2
  gi_loopw [8] (fun i wr => ∃ k : Nat, k ≤ n ∧ i = .int .i64 k ∧ J (allW s o k) wr ∧ KeptOn Kb W wr) (fun i _ => n - (intOf i).toNat)
  case atStart => exact ⟨0, Nat.zero_le _, rfl, h0, KeptOn.refl _ _⟩
  case round =>
    obtain ⟨k, hk, rfl, hJs, hkp⟩ := hrel
    by_cases hlt : k < n
    · obtain ⟨b, off, rfl, hbl, hc⟩ := hs k (by have := Hn.out; omega)
      have hc' := (hcell.out wr hkp b (off + k) (hk3 _ rfl)).trans hc
      have hbo := (hcell.out wr hkp Bo 0 hk2).trans hBo
      obtain ⟨x, hx⟩ : ∃ x, Hid (s.getD k 0 = x) := ⟨_, rfl⟩
      rw [hx.out] at hc'
      unfold encU at hc'
      have hxl : x < 18446744073709551616 := by rw [← hx.out, getDN_eq (by have := Hn.out; omega)]; exact hsb _ (List.getElem_mem _)
      obtain ⟨y, hy⟩ : ∃ y, Hid (diffN (s.getD k 0) (o.getD k 0) = y) := ⟨_, rfl⟩
      have hyl : y < 18446744073709551616 := by rw [← hy.out]; exact diffN_lt _ _
      obtain ⟨wo, hwo⟩ : ∃ z, z = wr := ⟨wr, rfl⟩
      subst hwo
      have hinner : Hid (∃ R, allW s o n = allW s o k ++ (bl y).map (fun b => 64 * k + b) ++ R) := by
        obtain ⟨R, hR⟩ := allW_split s o (k + 1) n (by omega)
        exact ⟨R, by rw [hR, allW_succ, hy.out]⟩
      by_cases hko : k < m
      · obtain ⟨b2, off2, rfl, hbl2, hc2⟩ := ho k (by have := Hm.out; omega)
        have hc2' := (hcell.out wo hkp b2 (off2 + k) (hk4 _ rfl)).trans hc2
        obtain ⟨z, hz⟩ : ∃ z, Hid (o.getD k 0 = z) := ⟨_, rfl⟩
        rw [hz.out] at hc2'
        unfold encU at hc2'
        have hval : bits BinOp.andNot IntKind.u64 (x : Int) (z : Int) = (y : Int) := by rw [bits_andNot, ← hy.out, hx.out, hz.out]
        gi_wp2
        gi_loopw [5] (fun u w1 => ∃ (x' : Nat) (dn : List Nat), u = .int .u64 x' ∧ x' < 18446744073709551616 ∧ Hid (bl y = dn ++ bl x') ∧ J (allW s o k ++ dn.map (fun b => 64 * k + b)) w1 ∧ KeptOn Kb W w1) (fun u _ => (intOf u).toNat)
        case atStart => exact ⟨y, [], rfl, hyl, rfl, by simpa using hJs, hkp⟩
        case round =>
          obtain ⟨x', dn, rfl, hxl', hbl', hJi, hki⟩ := hrel
          by_cases hz0 : x' = 0
          · subst hz0
            have hfin : Hid (J (allW s o (k + 1)) wr) := by
              unfold Hid
              rw [allW_succ, hy.out, hbl'.out, bl_zero, List.append_nil]; exact hJi
            clear hJi
            gi_wp2
            go_roundw
            case rel => exact ⟨k + 1, by omega, by go_num, hfin.out, hki⟩
            case measure => simp [intOf]; omega
          · have hx0 : 0 < x' := by omega
            have hT' : Tab wr := fun j hj => (hcell.out wr hki 0 j hk5).trans (hT j hj)
            have htz := tz_any x' hx0 hxl' wr hT'
            have hnext := bl_next hx0 hxl'
            have hc64 := (low_bits hx0 hxl').1
            obtain ⟨c, hcq⟩ : ∃ c, Lib.ctz 64 x' = c := ⟨_, rfl⟩
            rw [hcq] at htz hnext hc64
            have Htz := hide' htz
            have Hnext := hide' hnext
            have hplen : (allW s o k ++ dn.map (fun b => 64 * k + b)).length < (allW s o n).length := by
              obtain ⟨R, hR⟩ := hinner.out
              rw [hR, hbl'.out, hnext]; simp only [List.length_append, List.length_map, List.length_cons]; omega
            have hY2 : YieldAt Fence.wide (3 - 1) Tryz.prog l #[.int .i64 ((k : Int) * 64 + (c : Int))] wr fun e W' => ∃ bb, e = .returned (.bool bb) ∧ ((bb = true ∧ J (allW s o k ++ dn.map (fun b => 64 * k + b) ++ [64 * k + c]) W' ∧ KeptOn Kb wr W') ∨ (bb = false ∧ Jx (allW s o k ++ dn.map (fun b => 64 * k + b) ++ [64 * k + c]) W')) := by
              have h := hY _ (64 * k + c) wr hJi hplen
              rw [show ((64 * k + c : Nat) : Int) = (k : Int) * 64 + (c : Int) by omega] at h
              exact h.mono fun e W' h => h.elim (fun h => ⟨true, h.1, .inl ⟨rfl, h.2⟩⟩) (fun h => ⟨false, h.1, .inr ⟨rfl, h.2⟩⟩)
            obtain ⟨fn, tmps, assign, body, hyr, hR⟩ := hY2
            have hne : ((x' : Int) != 0) = true := by rw [bne_iff_ne]; omega
            have hw1 : IntKind.u64.wrap ((x' : Int) - 1) = ((x' - 1 : Nat) : Int) := by rw [IntKind.wrap_u64]; omega
            have hv2 : bits BinOp.and IntKind.u64 (x' : Int) ((x' - 1 : Nat) : Int) = ((x' &&& (x' - 1) : Nat) : Int) := bits_and hxl' (by omega)
            have hpre : Hid (∃ R, allW s o n = allW s o k ++ dn.map (fun b => 64 * k + b) ++ [64 * k + c] ++ R) := by
              obtain ⟨R, hR⟩ := hinner.out
              refine ⟨(bl (x' &&& (x' - 1))).map (fun b => 64 * k + b) ++ R, ?_⟩
              rw [hR, hbl'.out, Hnext.out]; simp
            clear htz hnext hcq hJi hplen
            gi_wp2_with (refine ⟨trivial, ?_⟩; gi_at_call 90; refine (callsIn_wide.2 Htz.out).mono ?_; rintro e w' ⟨rfl, rfl⟩)
            refine hR.mono ?_
            clear hR hyr
            rintro e W3 ⟨bb, rfl, ⟨rfl, hJ3, hk3⟩ | ⟨rfl, hJx3⟩⟩
            · gi_wp2
              go_roundw
              case rel => exact ⟨x' &&& (x' - 1), dn ++ [c], rfl, Nat.lt_of_le_of_lt Nat.and_le_left hxl', by unfold Hid; rw [hbl'.out, Hnext.out]; simp, by rw [List.map_append, ← List.append_assoc]; exact hJ3, hki.trans hk3⟩
              case measure => have := Nat.and_le_right (n := x') (m := x' - 1); simp [intOf]; omega
            · gi_wp2
              refine bodyPost_ret (results_none rfl _ _ _) rfl ?_
              exact ⟨⟨_, rfl⟩, .inr ⟨_, hpre.out, hJx3⟩⟩
      · have hxy : Hid (x = y) := by
          have : o.getD k 0 = 0 := getDN_past (by have := Hm.out; omega)
          unfold Hid; rw [← hy.out, this, hx.out, diffN_zero hxl]
        have hyx : y = x := hxy.out.symm
        clear hxy
        subst hyx
        gi_wp2
        gi_loopw [5] (fun u w1 => ∃ (x' : Nat) (dn : List Nat), u = .int .u64 x' ∧ x' < 18446744073709551616 ∧ Hid (bl y = dn ++ bl x') ∧ J (allW s o k ++ dn.map (fun b => 64 * k + b)) w1 ∧ KeptOn Kb W w1) (fun u _ => (intOf u).toNat)
        case atStart => exact ⟨y, [], rfl, hyl, rfl, by simpa using hJs, hkp⟩
        case round =>
          obtain ⟨x', dn, rfl, hxl', hbl', hJi, hki⟩ := hrel
          by_cases hz0 : x' = 0
          · subst hz0
            have hfin : Hid (J (allW s o (k + 1)) wr) := by
              unfold Hid
              rw [allW_succ, hy.out, hbl'.out, bl_zero, List.append_nil]; exact hJi
            clear hJi
            gi_wp2
            go_roundw
            case rel => exact ⟨k + 1, by omega, by go_num, hfin.out, hki⟩
            case measure => simp [intOf]; omega
          · have hx0 : 0 < x' := by omega
            have hT' : Tab wr := fun j hj => (hcell.out wr hki 0 j hk5).trans (hT j hj)
            have htz := tz_any x' hx0 hxl' wr hT'
            have hnext := bl_next hx0 hxl'
            have hc64 := (low_bits hx0 hxl').1
            obtain ⟨c, hcq⟩ : ∃ c, Lib.ctz 64 x' = c := ⟨_, rfl⟩
            rw [hcq] at htz hnext hc64
            have Htz := hide' htz
            have Hnext := hide' hnext
            have hplen : (allW s o k ++ dn.map (fun b => 64 * k + b)).length < (allW s o n).length := by
              obtain ⟨R, hR⟩ := hinner.out
              rw [hR, hbl'.out, hnext]; simp only [List.length_append, List.length_map, List.length_cons]; omega
            have hY2 : YieldAt Fence.wide (3 - 1) Tryz.prog l #[.int .i64 ((k : Int) * 64 + (c : Int))] wr fun e W' => ∃ bb, e = .returned (.bool bb) ∧ ((bb = true ∧ J (allW s o k ++ dn.map (fun b => 64 * k + b) ++ [64 * k + c]) W' ∧ KeptOn Kb wr W') ∨ (bb = false ∧ Jx (allW s o k ++ dn.map (fun b => 64 * k + b) ++ [64 * k + c]) W')) := by
              have h := hY _ (64 * k + c) wr hJi hplen
              rw [show ((64 * k + c : Nat) : Int) = (k : Int) * 64 + (c : Int) by omega] at h
              exact h.mono fun e W' h => h.elim (fun h => ⟨true, h.1, .inl ⟨rfl, h.2⟩⟩) (fun h => ⟨false, h.1, .inr ⟨rfl, h.2⟩⟩)
            obtain ⟨fn, tmps, assign, body, hyr, hR⟩ := hY2
            have hne : ((x' : Int) != 0) = true := by rw [bne_iff_ne]; omega
            have hw1 : IntKind.u64.wrap ((x' : Int) - 1) = ((x' - 1 : Nat) : Int) := by rw [IntKind.wrap_u64]; omega
            have hv2 : bits BinOp.and IntKind.u64 (x' : Int) ((x' - 1 : Nat) : Int) = ((x' &&& (x' - 1) : Nat) : Int) := bits_and hxl' (by omega)
            have hpre : Hid (∃ R, allW s o n = allW s o k ++ dn.map (fun b => 64 * k + b) ++ [64 * k + c] ++ R) := by
              obtain ⟨R, hR⟩ := hinner.out
              refine ⟨(bl (x' &&& (x' - 1))).map (fun b => 64 * k + b) ++ R, ?_⟩
              rw [hR, hbl'.out, Hnext.out]; simp
            clear htz hnext hcq hJi hplen
            gi_wp2_with (refine ⟨trivial, ?_⟩; gi_at_call 90; refine (callsIn_wide.2 Htz.out).mono ?_; rintro e w' ⟨rfl, rfl⟩)
            refine hR.mono ?_
            clear hR hyr
            rintro e W3 ⟨bb, rfl, ⟨rfl, hJ3, hk3⟩ | ⟨rfl, hJx3⟩⟩
            · gi_wp2
              go_roundw
              case rel => exact ⟨x' &&& (x' - 1), dn ++ [c], rfl, Nat.lt_of_le_of_lt Nat.and_le_left hxl', by unfold Hid; rw [hbl'.out, Hnext.out]; simp, by rw [List.map_append, ← List.append_assoc]; exact hJ3, hki.trans hk3⟩
              case measure => have := Nat.and_le_right (n := x') (m := x' - 1); simp [intOf]; omega
            · gi_wp2
              refine bodyPost_ret (results_none rfl _ _ _) rfl ?_
              exact ⟨⟨_, rfl⟩, .inr ⟨_, hpre.out, hJx3⟩⟩
    · obtain rfl : k = n := by omega
      gi_wp2
      go_end0
      exact ⟨⟨_, rfl⟩, .inl ⟨_, rfl, hJs⟩⟩
set_option maxHeartbeats 1000000 in
theorem without_in (m : Nat) (a : Option Addr) (n cap : Nat) (a' : Option Addr) (n' cap' : Nat) (w : World) :
    CallsIn Fence.wide m Tryz.prog 39 #[.slice a n cap, .slice a' n' cap'] w fun e w' =>
      e = .returned (.func (.func 89) #[] #[.pointer (some ⟨w.heap.size, 0, none⟩), .pointer (some ⟨w.heap.size + 1, 0, none⟩)]) ∧ w' = (w.alloc (.cells #[.slice a n cap] 79)).alloc (.cells #[.slice a' n' cap'] 79) := by
  refine callsIn_of_wp Tryz.func39 rfl trivial ?_ rfl
  simp only [Tryz.ntmps39, List.size_toArray, List.length_cons, List.length_nil, Nat.reduceAdd, Nat.reduceSub, Array.replicate_succ, Array.replicate_zero, List.push_toArray, List.append_toArray, List.nil_append, List.cons_append]
  gi_wp2
  go_ret
  exact ⟨by simp, rfl⟩
theorem without_stops (Bs Bo : Nat) (a1 : Option Addr) (cs : Nat) (s : List Nat) (ao : Option Addr) (co : Nat) (o : List Nat) (Kb : Side) (w : World) (hKb : ∀ b, Kb b → b < w.heap.size)
    (hBs : w.cell? ⟨Bs, 0, none⟩ = some (.slice a1 s.length cs)) (hBo : w.cell? ⟨Bo, 0, none⟩ = some (.slice ao o.length co)) (hk1 : Kb Bs) (hk2 : Kb Bo) (hk3 : ∀ b, a1 = some b → Kb b.block) (hk4 : ∀ b, ao = some b → Kb b.block) (hk5 : Kb 0)
    (hs : SetR w a1 s) (ho : SetR w ao o) (hsb : ∀ x, x ∈ s → x < 18446744073709551616) (hsl : s.length ≤ 1048576) (hol : o.length ≤ 1048576) (hT : Tab w) :
    SeqStopsK Fence.wide 3 Tryz.prog 89 #[.pointer (some ⟨Bs, 0, none⟩), .pointer (some ⟨Bo, 0, none⟩)] (fun x : Nat => #[Value.int .i64 (x : Int)]) (KeptOn Kb) (fun ys => ys = allW s o s.length) (fun pre => ∃ R, allW s o s.length = pre ++ R) (allW s o s.length).length w :=
  fun l J Jx W hW _ _ hY h0 => without1_in l Bs Bo a1 cs s ao co o Kb J Jx W hY ((hW.cell (p := ⟨Bs, 0, none⟩) (hKb _ hk1)).trans hBs) ((hW.cell (p := ⟨Bo, 0, none⟩) (hKb _ hk2)).trans hBo) hk2 hk3 hk4 hk5
    (hs.kept hW.size fun b hb => hW.block _ (hKb _ (hk3 b hb))) (ho.kept hW.size fun b hb => hW.block _ (hKb _ (hk4 b hb))) hsb hsl hol (fun j hj => (hW.cell (p := ⟨0, j, none⟩) (hKb _ hk5)).trans (hT j hj)) h0
end Go.Proofs.YtlpdomgedaockaaGreatDoor
namespace Go.Proofs.YtlpdomgedaockaaGreatDoor
open Go.RowKit Go.Proofs.Ord
def rivals (e : Ev) : List (Int × Int) := if e.kind = 1 then [(2, e.obj)] else if e.kind = 2 then [(1, e.obj), (2, e.obj)] else []
theorem acc_made (w : World) (B : Nat) (hB : B ≤ w.heap.size) (ds : List (Int × Int)) (hl : ds.length ≤ 1000) : (w.alloc (.cells (dcells ds).toArray 127)).ownsRow B 127 2 (.slice (some ⟨w.heap.size, 0, none⟩) ds.length ds.length) ds.length (dcells ds) :=
  ⟨dcells_len ds, .inr ⟨w.heap.size, ds.length, _, rfl, hB, heap_new_z w _, Nat.le_refl _, by unfold maxLen; omega, by simp [dcells_len], by rw [List.take_of_length_le (by simp [dcells_len])]⟩⟩
set_option maxRecDepth 100000 in
set_option maxHeartbeats 1000000 in
theorem rival_any (t k o v : Int) (w : World) :
    Calls Tryz.prog 40 #[evV ⟨t, k, o, v⟩] w fun e w' => ∃ u, e = .returned u ∧ w'.ownsRow w.heap.size 127 2 u (rivals ⟨t, k, o, v⟩).length (dcells (rivals ⟨t, k, o, v⟩)) ∧ Below w.heap.size w w' := by
  have hb1 : Hid (∀ x, Below w.heap.size w (w.alloc x)) := fun x => (Below.refl _ _).alloc (Nat.le_refl _) _
  have hb2 : Hid (∀ x y, Below w.heap.size w ((w.alloc x).alloc y)) := fun x y => ((Below.refl _ _).alloc (Nat.le_refl _) _).alloc (by simp) _
  have hm : Hid (∀ x ds, ds.length ≤ 1000 → ((w.alloc x).alloc (.cells (dcells ds).toArray 127)).ownsRow w.heap.size 127 2 (.slice (some ⟨w.heap.size + 1, 0, none⟩) ds.length ds.length) ds.length (dcells ds)) := fun x ds hl => by
    have := acc_made (w.alloc x) w.heap.size (by simp) ds hl
    rwa [World.size_alloc] at this
  unfold evV rivals
  by_cases h1 : k = 1
  · subst h1
    go_enter Tryz.func40, Tryz.ntmps40
    go_wp2
    go_ret
    exact ⟨_, rfl, hm.out _ [(2, o)] (by simp), hb2.out _ _⟩
  · by_cases h2 : k = 2
    · subst h2
      go_enter Tryz.func40, Tryz.ntmps40
      go_wp2
      go_ret
      exact ⟨_, rfl, hm.out _ [(1, o), (2, o)] (by simp), hb2.out _ _⟩
    · rw [if_neg h1, if_neg h2]
      have k1 : (k == 1) = false := beq_eq_false_iff_ne.2 h1
      have k2 : (k == 2) = false := beq_eq_false_iff_ne.2 h2
      clear h1 h2
      go_enter Tryz.func40, Tryz.ntmps40
      go_wp2
      go_ret
      exact ⟨_, rfl, World.ownsRow_nil _ _ _ _, hb1.out _⟩
theorem rivals_mem (a : Ev) (k o : Int) : (k, o) ∈ rivals a ↔ (a.kind = 1 ∧ k = 2 ∧ o = a.obj) ∨ (a.kind = 2 ∧ (k = 1 ∨ k = 2) ∧ o = a.obj) := by
  unfold rivals
  split
  · rename_i h; simp [h]
  · split
    · rename_i h1 h; simp [h]; constructor
      · rintro (⟨rfl, rfl⟩ | ⟨rfl, rfl⟩)
        · exact ⟨.inl rfl, rfl⟩
        · exact ⟨.inr rfl, rfl⟩
      · rintro ⟨rfl | rfl, rfl⟩
        · exact .inl ⟨rfl, rfl⟩
        · exact .inr ⟨rfl, rfl⟩
    · rename_i h1 h2; simp [h1, h2]
theorem race_iff (l : Nat → Ev) {i j : Nat} (h : i < j) : race l i j = true ↔ ((l j).kind, (l j).obj) ∈ rivals (l i) ∧ bef l i j = false := by
  unfold race
  rw [Bool.and_eq_true, Bool.not_eq_true', rivals_mem]
  constructor
  · rintro ⟨hc, hb⟩
    refine ⟨?_, hb⟩
    simp only [conflict, access, Bool.and_eq_true, Bool.or_eq_true, beq_iff_eq, bne_iff_ne] at hc
    obtain ⟨⟨⟨⟨h1, h2⟩, h3⟩, _⟩, h4⟩ := hc
    rcases h1 with h1 | h1
    · refine .inl ⟨h1, ?_, h3.symm⟩
      rcases h4 with h4 | h4
      · omega
      · exact h4
    · exact .inr ⟨h1, h2, h3.symm⟩
  · rintro ⟨hr, hb⟩
    refine ⟨?_, hb⟩
    have ht : (l i).thread ≠ (l j).thread := fun e => by rw [bef_thread h e] at hb; cases hb
    simp only [conflict, access, Bool.and_eq_true, Bool.or_eq_true, beq_iff_eq, bne_iff_ne]
    rcases hr with ⟨h1, h2, h3⟩ | ⟨h1, h2, h3⟩
    · exact ⟨⟨⟨⟨.inl h1, .inr h2⟩, h3.symm⟩, ht⟩, .inr h2⟩
    · exact ⟨⟨⟨⟨.inr h1, h2⟩, h3.symm⟩, ht⟩, .inl h1⟩
theorem filter_range_ext {P : Nat → Bool} {n m : Nat} (hn : ∀ i, P i = true → i < n) (hm : ∀ i, P i = true → i < m) : (List.range n).filter P = (List.range m).filter P := by
  have key : ∀ a b, a ≤ b → (∀ i, P i = true → i < a) → (List.range b).filter P = (List.range a).filter P := fun a b hab ha => by
    obtain ⟨c, rfl⟩ := Nat.exists_eq_add_of_le hab
    rw [List.range_add, List.filter_append]
    have e : ((List.range c).map (a + ·)).filter P = [] := List.filter_eq_nil_iff.2 fun x hx hp => by
      obtain ⟨y, _, rfl⟩ := List.mem_map.1 hx
      have := ha _ hp; omega
    rw [e, List.append_nil]
  rcases Nat.le_total n m with h | h
  · exact (key n m h hn).symm
  · exact key m n h hm
theorem allW_filter (s o : List Nat) : ∀ n, allW s o n = (List.range (64 * n)).filter fun i => bitOf s i && !bitOf o i := by
  intro n
  induction n with
  | zero => rfl
  | succ n ih =>
    rw [allW_succ, ih, show 64 * (n + 1) = 64 * n + 64 by omega, List.range_add, List.filter_append]
    congr 1
    unfold bl
    rw [List.filter_map]
    congr 1
    apply List.filter_congr
    intro b hb
    have hb64 := List.mem_range.1 hb
    have e1 : (64 * n + b) / 64 = n := by omega
    have e2 : (64 * n + b) % 64 = b := by omega
    rw [diffN_bit _ _ hb64]
    simp only [Function.comp, bitOf, e1, e2]
end Go.Proofs.YtlpdomgedaockaaGreatDoor
namespace Go.Proofs.YtlpdomgedaockaaGreatDoor
open Go.RowKit Go.Proofs.Ord
theorem yield_any {m : Nat} (m' : Nat) {P : Program} {l : Nat} {args : Array Value} {W : World} {R : Ending → World → Prop} (h : YieldAt Fence.wide m P l args W R) : YieldAt Fence.wide m' P l args W R := by
  obtain ⟨fn, tmps, assign, body, hy, hR⟩ := h
  exact ⟨fn, tmps, assign, body, hy, hR.1, fun c cs _ => hR.2 c cs (room_wide _)⟩
theorem SeqF.any {α : Type} {n : Nat} (m : Nat) {P : Program} {g : Nat} {lb : Array Value} {encs : α → Array Value} {Base : Side} {E : List α → α → Side → World → Prop} {S Sp : List α → Prop} {w : World} (h : SeqF Fence.wide n P g lb encs Base E S Sp w) : SeqF Fence.wide m P g lb encs Base E S Sp w :=
  fun l J Jx W hW hJ hJx hin hbase hY h0 => callsIn_wide.2 (callsIn_wide.1 (h l J Jx W hW hJ hJx hin hbase (fun pre x O W1 hj he => yield_any _ (hY pre x O W1 hj he)) h0))
theorem stops_any {α : Type} {n : Nat} (m : Nat) {P : Program} {g : Nat} {lb : Array Value} {encs : α → Array Value} {Kp : World → World → Prop} {S Sp : List α → Prop} {N : Nat} {w : World} (h : SeqStopsK Fence.wide n P g lb encs Kp S Sp N w) : SeqStopsK Fence.wide m P g lb encs Kp S Sp N w :=
  fun l J Jx W hW hJ hJx hY h0 => callsIn_wide.2 (callsIn_wide.1 (h l J Jx W hW hJ hJx (fun pre x W1 hj hl => yield_any _ (hY pre x W1 hj hl)) h0))
def rfOne (l : Nat → Ev) (from_ K j : Nat) : List (Nat × Nat) := ((List.range (min j K)).filter fun i => race l (from_ + i) (from_ + j)).map fun i => (from_ + i, from_ + j)
def rf (l : Nat → Ev) (from_ K n : Nat) : List (Nat × Nat) := (List.range n).flatMap (rfOne l from_ K)
theorem rf_succ (l : Nat → Ev) (from_ K n : Nat) : rf l from_ K (n + 1) = rf l from_ K n ++ rfOne l from_ K n := by simp [rf, List.range_succ]
theorem rfOne_len (l : Nat → Ev) (from_ K j : Nat) : (rfOne l from_ K j).length ≤ j := by
  unfold rfOne
  rw [List.length_map]
  have := List.length_filter_le (fun i => race l (from_ + i) (from_ + j)) (List.range (min j K))
  rw [List.length_range] at this
  omega
theorem rf_len (l : Nat → Ev) (from_ K n : Nat) : (rf l from_ K n).length ≤ n * n := by
  induction n with
  | zero => simp [rf]
  | succ n ih =>
    rw [rf_succ, List.length_append]
    have := rfOne_len l from_ K n
    have e : (n + 1) * (n + 1) = n * n + n + (n + 1) := by rw [Nat.add_mul, Nat.mul_add]; omega
    omega
def prs (ps : List (Nat × Nat)) : List Value := ps.flatMap fun p => [.int .i64 (p.1 : Int), .int .i64 (p.2 : Int)]
theorem prs_len (ps : List (Nat × Nat)) : (prs ps).length = ps.length * 2 := by
  induction ps with
  | nil => rfl
  | cons d ds ih => simp only [prs, List.flatMap_cons, List.length_append, List.length_cons, List.length_nil] at ih ⊢; omega
theorem prs_append (ps qs : List (Nat × Nat)) : prs (ps ++ qs) = prs ps ++ prs qs := by simp [prs]
theorem Tryz.infoP : (Tryz.prog.info? 40).map (fun i => (i.zero, i.size, i.bytes)) = some (some (.agg #[.int .i64 0, .int .i64 0]), 2, 16) := by kernel_rfl
theorem rivals_without {s o : List Nat} {K k from_ : Nat} {l : List Ev}
    (hs : Holds s K (fun i => i < k ∧ ((ev l (from_ + k)).kind, (ev l (from_ + k)).obj) ∈ rivals (ev l (from_ + i)))) (ho : Holds o K (fun i => bef (ev l) (from_ + i) (from_ + k) = true)) :
    (allW s o s.length).map (fun i => (from_ + i, from_ + k)) = rfOne (ev l) from_ K k := by
  unfold rfOne
  congr 1
  rw [allW_filter]
  have hP : ∀ i, (bitOf s i && !bitOf o i) = true ↔ i < min k K ∧ race (ev l) (from_ + i) (from_ + k) = true := fun i => by
    rw [Bool.and_eq_true, Bool.not_eq_true']
    constructor
    · rintro ⟨h1, h2⟩
      obtain ⟨h3, h4, h5⟩ := (hs.1 i).1 h1
      refine ⟨by omega, (race_iff _ (by omega)).2 ⟨h5, ?_⟩⟩
      cases hb : bef (ev l) (from_ + i) (from_ + k) with
      | false => rfl
      | true => rw [(ho.1 i).2 ⟨h3, hb⟩] at h2; cases h2
    · rintro ⟨h1, h2⟩
      obtain ⟨h3, h4⟩ := (race_iff _ (by omega)).1 h2
      refine ⟨(hs.1 i).2 ⟨by omega, by omega, h3⟩, ?_⟩
      cases hb : bitOf o i with
      | false => rfl
      | true => have h5 : bef (ev l) (from_ + i) (from_ + k) = true := ((ho.1 i).1 hb).2
                rw [h4] at h5; cases h5
  have hlen : ∀ i, (bitOf s i && !bitOf o i) = true → i < 64 * s.length := fun i h => by
    rw [Bool.and_eq_true] at h
    by_cases hi : i / 64 < s.length
    · omega
    · have := h.1; unfold bitOf at this; rw [getDN_past (by omega)] at this; simp at this
  rw [filter_range_ext hlen (m := min k K) (fun i h => ((hP i).1 h).1)]
  apply List.filter_congr
  intro i hi
  apply Bool.eq_iff_iff.2
  rw [hP i]
  exact ⟨fun h => h.2, fun h => ⟨List.mem_range.1 hi, h⟩⟩
theorem access_key : KeyT 127 := by
  refine ⟨fun e d w => ?_, fun d d' w => ?_, ⟨_, Tryz.underlying127⟩⟩
  · cases e <;> kernel_rfl
  · have u3 := Tryz.underlying3
    have a3 := Tryz.isAgg3
    have z3 := Tryz.sizeOf3
    unfold Op.equal Op.maxDepth dk
    rw [show (10000 : Nat) = 9999 + 1 from rfl, run_equalIn_struct (P := Tryz.prog) w 9999 127 _ _ (by kernel_rfl) (by kernel_rfl)]
    simp only [Program.fieldsOf, Tryz.underlying127]
    go_simp
    by_cases h1 : d.fst = d'.fst <;> by_cases h2 : d.snd = d'.snd <;> simp [h1, h2]
end Go.Proofs.YtlpdomgedaockaaGreatDoor
namespace Go.Proofs.YtlpdomgedaockaaGreatDoor
open Go.RowKit Go.Proofs.Ord
attribute [local go_sem ↓] Go.wp_at_zero Go.wp_at_succ
theorem Tryz.infoe : (Tryz.prog.info? 49).map (fun i => (i.zero, i.size, i.bytes)) = some (some (.agg #[.int .i64 0, .int .i64 0, .int .i64 0, .int .i64 0]), 4, 32) := by kernel_rfl
def evCells (l : List Ev) : List Value := l.flatMap fun e => [.int .i64 e.thread, .int .i64 e.kind, .int .i64 e.obj, .int .i64 e.value]
theorem evCells_length (l : List Ev) : (evCells l).length = 4 * l.length := by
  induction l with
  | nil => rfl
  | cons p r ih => simp [evCells] at *; omega
theorem evCells_getElem (l : List Ev) : ∀ i, i < l.length → (evCells l)[4 * i]? = some (.int .i64 (ev l i).thread) ∧ (evCells l)[4 * i + 1]? = some (.int .i64 (ev l i).kind) ∧ (evCells l)[4 * i + 2]? = some (.int .i64 (ev l i).obj) ∧ (evCells l)[4 * i + 3]? = some (.int .i64 (ev l i).value) := by
  induction l with
  | nil => intro i hi; simp at hi
  | cons e r ih =>
    intro i hi
    match i with
    | 0 => exact ⟨rfl, rfl, rfl, rfl⟩
    | j + 1 =>
      have h := ih j (by simpa using hi)
      have e1 : evCells (e :: r) = .int .i64 e.thread :: .int .i64 e.kind :: .int .i64 e.obj :: .int .i64 e.value :: evCells r := rfl
      have e2 : ev (e :: r) (j + 1) = ev r j := rfl
      rw [e1, e2, show 4 * (j + 1) = 4 * j + 4 from by omega, show 4 * j + 4 + 1 = 4 * j + 1 + 4 from by omega, show 4 * j + 4 + 2 = 4 * j + 2 + 4 from by omega, show 4 * j + 4 + 3 = 4 * j + 3 + 4 from by omega]
      exact h
theorem evS_of_owns {w : World} {B t n : Nat} {v : Value} {l : List Ev} (h : w.ownsRow B t 4 v n (evCells l)) : ∃ a cap, v = .slice a n cap ∧ l.length = n ∧ n ≤ cap ∧ cap ≤ maxLen ∧ EvS w a l := by
  have hl : l.length = n := by have := h.1; rw [evCells_length] at this; omega
  rcases h.2 with ⟨rfl, h0⟩ | ⟨g, cap, cur, rfl, hB, hg, hc, hm, _, _⟩
  · subst h0
    exact ⟨none, 0, rfl, hl, Nat.le_refl _, by unfold maxLen; omega, fun i hi => absurd hi (by omega)⟩
  · refine ⟨_, cap, rfl, hl, hc, hm, fun i hi => ⟨g, 0, rfl, (Array.getElem?_eq_some_iff.1 hg).1, ?_⟩⟩
    obtain ⟨c0, c1, c2, c3⟩ := evCells_getElem l i hi
    refine ⟨?_, ?_, ?_, ?_⟩
    · rw [show 0 + i * 4 = 4 * i from by omega, h.cellAt _ (by omega)]; exact c0
    · rw [show 0 + i * 4 + 1 = 4 * i + 1 from by omega, h.cellAt _ (by omega)]; exact c1
    · rw [show 0 + i * 4 + 2 = 4 * i + 2 from by omega, h.cellAt _ (by omega)]; exact c2
    · rw [show 0 + i * 4 + 3 = 4 * i + 3 from by omega, h.cellAt _ (by omega)]; exact c3
theorem evCells_take (l : List Ev) (k : Nat) (h : k < l.length) (t ki o v : Int) (e : ev l k = ⟨t, ki, o, v⟩) : evCells (l.take (k + 1)) = evCells (l.take k) ++ [.int .i64 t, .int .i64 ki, .int .i64 o, .int .i64 v] := by
  rw [List.take_succ_eq_append_getElem h]
  have : l[k] = ⟨t, ki, o, v⟩ := by rw [← e]; unfold ev; simp [h]
  simp [evCells, this]
theorem four_newO (w : World) (x y z u : Value) (t : Nat) : ∀ j c, [x, y, z, u][j]? = some c → (w.alloc (.cells #[x, y, z, u] t)).cell? (Addr.add ⟨w.heap.size, 0, none⟩ j) = some c := by
  intro j c hj
  match j, hj with
  | 0, hj => simp at hj; subst hj; simp [Addr.add]
  | 1, hj => simp at hj; subst hj; simp [Addr.add]
  | 2, hj => simp at hj; subst hj; simp [Addr.add]
  | 3, hj => simp at hj; subst hj; simp [Addr.add]
end Go.Proofs.YtlpdomgedaockaaGreatDoor
namespace Go.Proofs.YtlpdomgedaockaaGreatDoor
open Go.RowKit Go.Proofs.Ord
theorem ownsRow_base {w : World} {base base' e size n : Nat} {v : Value} {xs : List Value} (h : w.ownsRow base e size v n xs) (hb : base' ≤ base) : w.ownsRow base' e size v n xs := by
  refine ⟨h.1, ?_⟩
  rcases h.2 with hn | ⟨g, cap, cur, hv, h1, rest⟩
  · exact .inl hn
  · exact .inr ⟨g, cap, cur, hv, by omega, rest⟩
def pairCells (ps : List (Nat × Nat)) : List Value := ps.flatMap fun p => [.int .i64 (p.1 : Int), .int .i64 (p.2 : Int)]
theorem pairCells_snoc (ps : List (Nat × Nat)) (i j : Nat) : pairCells (ps ++ [(i, j)]) = pairCells ps ++ [.int .i64 (i : Int), .int .i64 (j : Int)] := by
  simp [pairCells]
theorem pairCells_length (ps : List (Nat × Nat)) : (pairCells ps).length = 2 * ps.length := by
  induction ps with
  | nil => rfl
  | cons p r ih => simp [pairCells] at *; omega
theorem two_new (w : World) (x y : Value) (t : Nat) : ∀ j u, [x, y][j]? = some u → (w.alloc (.cells #[x, y] t)).cell? (Addr.add ⟨w.heap.size, 0, none⟩ j) = some u := by
  intro j u hj
  match j, hj with
  | 0, hj => simp at hj; subst hj; simp [Addr.add]
  | 1, hj => simp at hj; subst hj; simp [Addr.add]
end Go.Proofs.YtlpdomgedaockaaGreatDoor
