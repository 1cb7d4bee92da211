import Derived.Test.YtiaedjnedoemoabDoorClkAt
import Derived.RangeFuncNested
import Derived.RangeFuncBound
import Derived.RangeFuncCalls
import Derived.RangeFuncLeaves
import Derived.Shelf.Abstract
import Derived.Shelf.RegionOpen
import Derived.WalkKit
import Derived.OwnWalkIn
import Derived.TacticsInMore
import Derived.LoopNIn
import Derived.LoopIn
namespace Go.Proofs.YtiaedjnedoemoabDoor
open Go.RowKit Go.Shelf

attribute [local go_sem] Oper.semAt_some

/-- The numbers of two vectors at k. -/
def two (xs ys : List Int) (k : Nat) : Int × Int := (Vec.at_ xs k, Vec.at_ ys k)
def upto2 (xs ys : List Int) (k : Nat) : List (Int × Int) := (List.range k).map (two xs ys)
theorem upto2_succ (xs ys : List Int) (k : Nat) : upto2 xs ys (k + 1) = upto2 xs ys k ++ [two xs ys k] := by simp [upto2, List.range_succ]
theorem upto2_length (xs ys : List Int) (k : Nat) : (upto2 xs ys k).length = k := by simp [upto2]

theorem abides_drewN {α : Type} {B : Nat} {J : List α → World → Prop} (h : AbidesFrom B J) {s : List α} {W : World} (q : Nat) (hs : J s W) : J s (W.drewN q) :=
  h s W _ none hs ⟨rfl, rfl, rfl, Nat.le_refl _, fun _ _ _ => rfl⟩ (fun r e => by cases e)

/-- What a round keeps: all that lay below n₀, and two boxes. -/
structure Keeps2 (n₀ Ba Bb : Nat) (W W' : World) : Prop where
  below : Below n₀ W W'
  sa : W'.heap[Ba]? = W.heap[Ba]?
  sb : W'.heap[Bb]? = W.heap[Bb]?
theorem Keeps2.refl (n₀ Ba Bb : Nat) (W : World) : Keeps2 n₀ Ba Bb W W := ⟨Below.refl _ _, rfl, rfl⟩
theorem Keeps2.trans {n₀ Ba Bb : Nat} {A B C : World} (h : Keeps2 n₀ Ba Bb A B) (k : Keeps2 n₀ Ba Bb B C) : Keeps2 n₀ Ba Bb A C := ⟨h.below.trans k.below, k.sa.trans h.sa, k.sb.trans h.sb⟩
theorem Keeps2.drewN {n₀ Ba Bb : Nat} {A B : World} (h : Keeps2 n₀ Ba Bb A B) (q : Nat) : Keeps2 n₀ Ba Bb A (B.drewN q) := ⟨h.below.trans ⟨rfl, rfl, rfl, Nat.le_refl _, fun _ _ => rfl⟩, h.sa, h.sb⟩
theorem keeps2_b {n₀ Ba Bb : Nat} {w : World} (hn : n₀ ≤ w.heap.size) (ha : Ba < w.heap.size) (hb : Bb < w.heap.size) (W : World) (l : Nat) (o o' : Obj) (hl : w.heap.size ≤ l) (h : W.heap[l]? = some o) (hc : o.isCells = false) (hw : o.isWalk = false) : Keeps2 n₀ Ba Bb W (W.putObj l o') :=
  ⟨belowK_b hn W l o o' hl h hc hw, World.putObj_heap_other (by omega), World.putObj_heap_other (by omega)⟩

/-- What a vector's numbers lie in is below n₀. -/
def Low (n₀ : Nat) (a : Option Addr) (zs : List Int) : Prop := ∀ b, a = some b → 0 < zs.length → b.block < n₀
theorem SlV.isLow {w : World} {a : Option Addr} {n cap : Nat} {zs : List Int} (h : SlV w a n cap zs) : Low w.heap.size a zs := fun b hb hz => by
  obtain ⟨b', off, ha, hlt, _⟩ := h.2.2.2.2.1 0 hz
  rw [ha] at hb; cases hb; exact hlt

theorem SlV.low {n₀ : Nat} {w w' : World} {a : Option Addr} {n cap : Nat} {zs : List Int} (h : SlV w a n cap zs) (hlow : Low n₀ a zs) (hb : Below n₀ w w') : SlV w' a n cap zs := by
  refine ⟨h.1, h.2.1, h.2.2.1, h.2.2.2.1, fun i hi => ?_, h.2.2.2.2.2⟩
  obtain ⟨b, off, ha, hlt, hc⟩ := h.2.2.2.2.1 i hi
  have hbl := hlow _ ha (by omega)
  exact ⟨b, off, ha, by have := hb.size; omega, (hb.cell (p := ⟨b, off + i, none⟩) hbl).trans hc⟩

set_option maxRecDepth 100000 in
set_option maxHeartbeats 2000000 in
theorem beside1_in (l Ba Bb n₀ : Nat) (a : Option Addr) (n cap : Nat) (xs : List Int) (a' : Option Addr) (n' cap' : Nat) (ys : List Int) (J Jx : List (Int × Int) → World → Prop)
    (W : World) (hJ : AbidesFrom W.heap.size J)
    (hY : ∀ pre x W1, J pre W1 → pre.length < max n n' → YieldAt Fence.wide (3 - 1) Tryd.prog l #[.int .i64 x.1, .int .i64 x.2] W1 fun e W' =>
      (e = .returned (.bool true) ∧ J (pre ++ [x]) W' ∧ Keeps2 n₀ Ba Bb W1 W') ∨ (e = .returned (.bool false) ∧ Jx (pre ++ [x]) W'))
    (hca : W.cell? ⟨Ba, 0, none⟩ = some (.slice a n cap)) (hcb : W.cell? ⟨Bb, 0, none⟩ = some (.slice a' n' cap'))
    (hs : SlV W a n cap xs) (hs' : SlV W a' n' cap' ys) (hlow : Low n₀ a xs) (hlow' : Low n₀ a' ys) (h0 : J [] W) :
    CallsIn Fence.wide 3 Tryd.prog 72 #[.func (.yield l) #[] #[], .pointer (some ⟨Ba, 0, none⟩), .pointer (some ⟨Bb, 0, none⟩)] W fun e W' => (∃ v, e = .returned v) ∧
      ((∃ zs, zs = upto2 xs ys (max n n') ∧ J zs W') ∨ (∃ pre, (∃ k, k ≤ max n n' ∧ pre = upto2 xs ys k) ∧ Jx pre W')) := by
  obtain ⟨m, hm, hmn⟩ : ∃ m, m = max n n' ∧ ((n < n' ∧ m = n') ∨ (¬ n < n' ∧ m = n)) := ⟨_, rfl, by omega⟩
  have hbig : m * 8 ≤ 140737488351232 := by have h1 := hs.2.2.2.2.2; have h2 := hs'.2.2.2.2.2; omega
  rw [← hm]
  simp only [← hm] at hY
  clear hm
  have hmix : Tryd.prog.follows Departure.mixedOrders = true := by kernel_rfl
  rcases hmn with ⟨h, rfl⟩ | ⟨h, rfl⟩
  all_goals
    refine callsIn_of_wp Tryd.func72 rfl trivial ?_ rfl
    simp only [Tryd.ntmps72, List.size_toArray, List.length_cons, List.length_nil, Nat.reduceAdd, Nat.reduceSub, Array.replicate_succ, Array.replicate_zero, List.push_toArray, List.append_toArray, List.nil_append, List.cons_append]
    gi_wp2
    gi_loopw [10] (fun i wr => ∃ k : Nat, k ≤ m ∧ i = .int .i64 k ∧ J (upto2 xs ys k) wr ∧ Keeps2 n₀ Ba Bb W wr) (fun i _ => m - (intOf i).toNat)
    case atStart => exact ⟨0, Nat.zero_le _, rfl, h0, Keeps2.refl _ _ _ _⟩
    case round =>
      obtain ⟨k, hk, rfl, hJs, hnx⟩ := hrel
      have hca' := (World.cell?_of_block (w := W) (a := ⟨Ba, 0, none⟩) hnx.sa).trans hca
      have hcb' := (World.cell?_of_block (w := W) (a := ⟨Bb, 0, none⟩) hnx.sb).trans hcb
      have hsr := hs.low hlow hnx.below
      have hsr' := hs'.low hlow' hnx.below
      have hl1 := hsr.1
      have hl2 := hsr'.1
      by_cases hlt : k < m
      · have hY2 : YieldAt Fence.wide (3 - 1) Tryd.prog l #[.int .i64 (two xs ys k).1, .int .i64 (two xs ys k).2] wr.drew fun e W' => ∃ b, e = .returned (.bool b) ∧ ((b = true ∧ J (upto2 xs ys k ++ [two xs ys k]) W' ∧ Keeps2 n₀ Ba Bb wr.drew W') ∨ (b = false ∧ Jx (upto2 xs ys k ++ [two xs ys k]) W')) :=
          (hY _ (two xs ys k) wr.drew (abides_drewN hJ 1 hJs) (by rw [upto2_length]; exact hlt)).mono fun e W' h => h.elim (fun h => ⟨true, h.1, .inl ⟨rfl, h.2⟩⟩) (fun h => ⟨false, h.1, .inr ⟨rfl, h.2⟩⟩)
        obtain ⟨fn, tmps, assign, body, hy, hR⟩ := hY2
        simp only [two] at hy
        gi_wp2_with fail
        gi_region_with_o (first | (refine hR.mono ?_; rintro e W3 ⟨b, rfl, hp⟩) | (refine ⟨trivial, ?_⟩; gi_at_call 38; refine (callsIn_wide.2 (pAt_any _ _ _ _ _ _ (by assumption) (by first | exact hsr.2.2.2.2.1 | exact hsr'.2.2.2.2.1))).mono ?_; rintro e w' ⟨rfl, rfl⟩))
        all_goals
          rcases hp with ⟨rfl, hJ3, hk3⟩ | ⟨rfl, hJx3⟩
          · gi_wp2
            go_roundw
            case rel => exact ⟨k + 1, by omega, by go_num, by rw [upto2_succ]; exact hJ3, hnx.trans ((Keeps2.refl _ _ _ _).drewN 1 |>.trans hk3)⟩
            case measure => simp [intOf]; omega
          · gi_wp2
            refine bodyPost_ret (results_none rfl _ _ _) rfl ?_
            exact ⟨⟨_, rfl⟩, .inr ⟨_, ⟨k + 1, by omega, (upto2_succ _ _ _).symm⟩, hJx3⟩⟩
      · obtain rfl : k = m := by omega
        gi_wp2
        go_end0
        exact ⟨⟨_, rfl⟩, .inl ⟨_, rfl, hJs⟩⟩

set_option maxHeartbeats 1000000 in
/-- beside: both vectors are boxed; the function value captures the boxes. -/
theorem beside_in (m : Nat) (a : Option Addr) (n cap : Nat) (a' : Option Addr) (n' cap' : Nat) (w : World) :
    CallsIn Fence.wide m Tryd.prog 61 #[.slice a n cap, .slice a' n' cap'] w fun e w' =>
      e = .returned (.func (.func 72) #[] #[.pointer (some ⟨w.heap.size, 0, none⟩), .pointer (some ⟨w.heap.size + 1, 0, none⟩)]) ∧ w' = (w.alloc (.cells #[.slice a n cap] 47)).alloc (.cells #[.slice a' n' cap'] 47) := by
  refine callsIn_of_wp Tryd.func61 rfl trivial ?_ rfl
  simp only [Tryd.ntmps61, List.size_toArray, List.length_cons, List.length_nil, Nat.reduceAdd, Nat.reduceSub, Array.replicate_succ, Array.replicate_zero, List.push_toArray, List.append_toArray, List.nil_append, List.cons_append]
  gi_wp2
  go_ret
  exact ⟨by simp, rfl⟩

theorem beside_stops (Ba Bb n₀ : Nat) (a : Option Addr) (n cap : Nat) (xs : List Int) (a' : Option Addr) (n' cap' : Nat) (ys : List Int) (w : World) (hn₀ : n₀ ≤ w.heap.size) (hBa : Boxed w Ba 47 (.slice a n cap)) (hBb : Boxed w Bb 47 (.slice a' n' cap'))
    (hs : SlV w a n cap xs) (hs' : SlV w a' n' cap' ys) (hlow : Low n₀ a xs) (hlow' : Low n₀ a' ys) :
    SeqStopsK Fence.wide 3 Tryd.prog 72 #[.pointer (some ⟨Ba, 0, none⟩), .pointer (some ⟨Bb, 0, none⟩)] (fun x : Int × Int => #[Value.int .i64 x.1, Value.int .i64 x.2]) (Keeps2 n₀ Ba Bb) (fun zs => zs = upto2 xs ys (max n n')) (fun pre => ∃ k, k ≤ max n n' ∧ pre = upto2 xs ys k) (max n n') w :=
  fun l J Jx W hW hJ _ hY h0 => beside1_in l Ba Bb n₀ a n cap xs a' n' cap' ys J Jx W hJ hY ((hW.cell (p := ⟨Ba, 0, none⟩) hBa.lt).trans hBa.cell) ((hW.cell (p := ⟨Bb, 0, none⟩) hBb.lt).trans hBb.cell) (hs.low hlow (hW.mono hn₀)) (hs'.low hlow' (hW.mono hn₀)) hlow hlow' h0
end Go.Proofs.YtiaedjnedoemoabDoor
