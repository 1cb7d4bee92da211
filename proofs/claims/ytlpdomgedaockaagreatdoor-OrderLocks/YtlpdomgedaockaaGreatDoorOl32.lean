import Derived.Test.YtlpdomgedaockaaGreatDoorOl31
import Derived.Test.YtlpdomgedaockaaGreatDoorOl28
import Derived.Test.YtlpdomgedaockaaGreatDoorOl27
import Derived.Lib.TrailingZeros
import Derived.Laws.Bits64b
import Derived.Shelf.Spec.TrailingZeros
import Derived.RangeFuncNested
import Derived.RangeFuncBound
import Derived.RangeFuncCalls
import Derived.RangeFuncLeaves
import Derived.Shelf.Abstract
import Derived.Shelf.RegionOpen
import Derived.WalkKit
import Derived.OwnWalkIn
import Derived.TacticsInMore
import Derived.LoopNIn
import Derived.LoopIn
import Derived.Test.YtlpdomgedaockaaGreatDoorOl30
set_option linter.unusedVariables false
set_option linter.unusedSimpArgs false
namespace Go.Proofs.YtlpdomgedaockaaGreatDoor
open Go.RowKit Go.Shelf Go.Proofs.Ord

attribute [local go_sem] Oper.semAt_some

set_option maxHeartbeats 1000000 in
/-- pasts: the list and the number are boxed; the function value captures the boxes. -/
theorem pasts_in (m : Nat) (a : Option Addr) (n cap : Nat) (K : Int) (w : World) :
    CallsIn Fence.wide m Tryz.prog 27 #[.slice a n cap, .int .i64 K] w fun e w' =>
      e = .returned (.func (.func 56) #[] #[.pointer (some ⟨w.heap.size, 0, none⟩), .pointer (some ⟨w.heap.size + 1, 0, none⟩)]) ∧ w' = (w.alloc (.cells #[.slice a n cap] 33)).alloc (.cells #[.int .i64 K] 3) := by
  refine callsIn_of_wp Tryz.func27 rfl trivial ?_ rfl
  simp only [Tryz.ntmps27, List.size_toArray, List.length_cons, List.length_nil, Nat.reduceAdd, Nat.reduceSub, Array.replicate_succ, Array.replicate_zero, List.push_toArray, List.append_toArray, List.nil_append, List.cons_append]
  gi_wp2
  go_ret
  exact ⟨by simp, rfl⟩

/-- What is read of what was there. -/
def pastBase (Bl Bk n : Nat) (a : Option Addr) : Side := fun b => b = Bl ∨ b = Bk ∨ ∃ ad, a = some ad ∧ 0 < n ∧ b = ad.block
/-- What is handed over: the event's number, and the set of those before it among the first K. -/
def pastE (es : List Ev) (n K : Nat) (pre : List (Nat × Value)) (x : Nat × Value) (O : Side) (W : World) : Prop :=
  x.1 = pre.length ∧ pre.length < n ∧ (∃ B ws, SetO B W x.2 ws ∧ Holds ws K (fun i => bef (ev es) i x.1 = true)) ∧ ∀ b, x.2.ownBlock = some b → ¬ O b

theorem pastE_steps {es : List Ev} {n K : Nat} (pre : List (Nat × Value)) (x : Nat × Value) (O : Side) (W : World) (O' : Side) (W' : World) (h : pastE es n K pre x O W) (hs : Steps O W O' W') : pastE es n K pre x O' W' := by
  obtain ⟨h1, h2, ⟨B, ws, h3, h4⟩, h5⟩ := h
  refine ⟨h1, h2, ⟨B, ws, h3.kept fun b hb => hs.rest b (h3.lt b hb).2 (h5 b hb), h4⟩, fun b hb hO => ?_⟩
  rcases hs.fresh b hO with h | h
  · exact h5 b hb h
  · have := (h3.lt b hb).2; omega
theorem pastE_anti {es : List Ev} {n K : Nat} (pre : List (Nat × Value)) (x : Nat × Value) (O O' : Side) (W : World) (h : pastE es n K pre x O W) (hs : ∀ b, O' b → O b) : pastE es n K pre x O' W :=
  ⟨h.1, h.2.1, h.2.2.1, fun b hb hO => h.2.2.2 b hb (hs b hO)⟩

theorem pasts_seq (Bl Bk n K : Nat) (a : Option Addr) (cap : Nat) (es : List Ev) (w : World) (hK : K ≤ 1048576) (hn : n * 32 ≤ 140737488351232) (hlen : es.length = n) (hcl : Boxed w Bl 33 (.slice a n cap)) (hck : Boxed w Bk 3 (.int .i64 K)) (hes : EvS w a es) :
    SeqF Fence.wide 3 Tryz.prog 56 #[.pointer (some ⟨Bl, 0, none⟩), .pointer (some ⟨Bk, 0, none⟩)] (fun x : Nat × Value => #[.int .i64 x.1, x.2]) (pastBase Bl Bk n a) (pastE es n K) (fun xs => xs.length = n) (fun pre => pre.length ≤ n) w :=
  fun l J Jx W hW hJ _ hin hbase hY h0 => pasts1_in l Bl Bk n K a cap es J Jx W hJ hin hK hn hlen ((hW.block Bl hcl.lt).trans hcl) ((hW.block Bk hck.lt).trans hck) (hes.below hW)
    (fun pre O W1 hj => ⟨(hbase pre O W1 hj Bl (.inl rfl)).1, (hbase pre O W1 hj Bl (.inl rfl)).2, (hbase pre O W1 hj Bk (.inr (.inl rfl))).1, (hbase pre O W1 hj Bk (.inr (.inl rfl))).2, fun b hb h0 => hbase pre O W1 hj b.block (.inr (.inr ⟨b, hb, h0, rfl⟩))⟩)
    hY h0

theorem pastBase_lt {Bl Bk n : Nat} {a : Option Addr} {es : List Ev} {w : World} (h1 : Bl < w.heap.size) (h2 : Bk < w.heap.size) (hlen : es.length = n) (hes : EvS w a es) : ∀ b, pastBase Bl Bk n a b → b < w.heap.size := by
  rintro b (rfl | rfl | ⟨ad, rfl, h0, rfl⟩)
  · exact h1
  · exact h2
  · obtain ⟨b, off, e, hlt, _⟩ := hes 0 (by omega)
    cases e; exact hlt

/-- Events later on in a list, told from one of them on. -/
theorem bef_shift (l : Nat → Ev) (i : Nat) : ∀ b a, bef (fun k => l (k + i)) a b = true ↔ bef l (a + i) (b + i) = true := by
  intro b
  induction b using Nat.strongRecOn with
  | ind b ih =>
    intro a
    rw [bef_iff, bef_iff]
    constructor
    · rintro ⟨h1, h | ⟨k, h2, h3, h4, h5⟩⟩
      · exact ⟨by omega, .inl h⟩
      · exact ⟨by omega, .inr ⟨k + i, by omega, by omega, (ih k h3 a).1 h4, h5⟩⟩
    · rintro ⟨h1, h | ⟨k, h2, h3, h4, h5⟩⟩
      · exact ⟨by omega, .inl h⟩
      · obtain ⟨k', rfl⟩ : ∃ k', k = k' + i := ⟨k - i, by omega⟩
        exact ⟨by omega, .inr ⟨k', by omega, by omega, (ih k' (by omega) a).2 h4, h5⟩⟩

theorem ev_sub (l : List Ev) (i m k : Nat) (h : k < m) : ev ((l.drop i).take m) k = ev l (k + i) := by
  unfold ev
  rw [List.getD_eq_getElem?_getD, List.getElem?_take, if_pos h, List.getElem?_drop, List.getD_eq_getElem?_getD, Nat.add_comm]

theorem bef_sub (l : List Ev) (i m a b : Nat) (h : b < m) : bef (ev ((l.drop i).take m)) a b = true ↔ bef (ev l) (a + i) (b + i) = true := by
  rw [← bef_shift (ev l) i b a, bef_congr (m := fun k => ev l (k + i)) b (fun k hk => ev_sub l i m k (by omega))]

theorem EvS.sub {w : World} {b off : Nat} {l : List Ev} (h : EvS w (some ⟨b, off, none⟩) l) (i m : Nat) : EvS w (some ⟨b, off + i * 4, none⟩) ((l.drop i).take m) := fun k hk => by
  rw [List.length_take, List.length_drop] at hk
  obtain ⟨b', off', e, hlt, hc⟩ := h (k + i) (by omega)
  cases e
  refine ⟨b, off + i * 4, rfl, hlt, ?_⟩
  rw [ev_sub _ _ _ _ (by omega)]
  have e : off + i * 4 + k * 4 = off + (k + i) * 4 := by omega
  rw [e]; exact hc
end Go.Proofs.YtlpdomgedaockaaGreatDoor
namespace Go.Proofs.YtlpdomgedaockaaGreatDoor
open Go.RowKit

set_option maxRecDepth 100000 in
set_option maxHeartbeats 400000 in
theorem has_any (a : Option Addr) (k cap n : Nat) (ws : List Nat) (w : World) (hk : ws.length = k) (hs : SetR w a ws) (hw : ∀ x, x ∈ ws → x < 18446744073709551616) (hn : n < 9223372036854775808) :
    Calls Tryz.prog 28 #[.slice a k cap, .int .i64 n] w fun e w' => e = .returned (.bool (bitOf ws n)) ∧ w' = w := by
  obtain ⟨q, r, hr, rfl⟩ : ∃ q r, r < 64 ∧ n = 64 * q + r := ⟨n / 64, n % 64, Nat.mod_lt _ (by decide), (Nat.div_add_mod n 64).symm⟩
  have e1 : (64 * q + r) / 64 = q := by omega
  have e2 : (64 * q + r) % 64 = r := by omega
  by_cases hlt : q < k
  · obtain ⟨b, off, rfl, hb, hc⟩ := hs q (by omega)
    obtain ⟨x, hx⟩ : ∃ x, ws.getD q 0 = x := ⟨_, rfl⟩
    have hxl : x < 18446744073709551616 := by rw [← hx]; exact hw _ (by rw [List.getD_eq_getElem?_getD, List.getElem?_eq_getElem (by omega)]; exact List.getElem_mem _)
    have hB : Hid (bitOf ws (64 * q + r) = x.testBit r) := by unfold bitOf; rw [e1, e2, hx]; rfl
    have hval : Hid ((bits BinOp.and IntKind.u64 ((x : Int) / 2 ^ (r % 64)) 1 == 1) = x.testBit r) := by
      have e3 : r % 64 = r := Nat.mod_eq_of_lt hr
      have e4 : ((x : Int) / 2 ^ r) = ((x >>> r : Nat) : Int) := by rw [Nat.shiftRight_eq_div_pow]; simp
      have e5 : x >>> r < 18446744073709551616 := Nat.lt_of_le_of_lt (Nat.shiftRight_le x r) hxl
      have e6 := bits_and (x := x >>> r) (y := 1) e5 (by decide)
      unfold Hid
      rw [e3, e4, show (1 : Int) = ((1 : Nat) : Int) from rfl, e6, Nat.testBit, Nat.and_comm]
      by_cases h : 1 &&& (x >>> r) = 1
      · simp [h]
      · have : 1 &&& (x >>> r) = 0 := by have := Nat.and_one_is_mod (x >>> r); rw [Nat.and_comm] at this; omega
        simp [this]
    unfold encU at hc
    rw [hx] at hc
    clear hx
    go_enter Tryz.func28, Tryz.ntmps28
    go_wp2
    go_ret
    exact ⟨retb (hval.out.trans hB.out.symm), rfl⟩
  · have hB : Hid (bitOf ws (64 * q + r) = false) := by
      unfold bitOf; rw [e1, List.getD_eq_getElem?_getD, List.getElem?_eq_none (by omega)]; simp [Hid]
    go_enter Tryz.func28, Tryz.ntmps28
    go_wp2
    go_ret
    exact ⟨retb hB.out.symm, rfl⟩
end Go.Proofs.YtlpdomgedaockaaGreatDoor
namespace Go.Proofs.YtlpdomgedaockaaGreatDoor
open Go.RowKit Go.Shelf Go.Proofs.Ord

attribute [local go_sem] Oper.semAt_some

theorem befI_no {l : List Ev} {i j : Int} (h : ¬ (0 ≤ i ∧ i < j ∧ j < (l.length : Int))) : befI l i j = false := by
  unfold befI
  by_cases h1 : 0 ≤ i ∧ i < l.length ∧ 0 ≤ j ∧ j < l.length
  · rw [bef_ge (by omega), Bool.and_false]
  · rw [decide_eq_false h1, Bool.false_and]

set_option maxRecDepth 100000 in
set_option maxHeartbeats 1000000 in
theorem before_no (a : Option Addr) (n cap : Nat) (i j : Int) (w : World) (h : ¬ (0 ≤ i ∧ i < j ∧ j < n)) :
    Calls Tryz.prog 12 #[.slice a n cap, .int .i64 i, .int .i64 j] w fun e w' => e = .returned (.bool false) ∧ Below w.heap.size w w' := by
  have hb : Hid (∀ x y z, Below w.heap.size w (((w.alloc x).alloc y).alloc z)) := fun x y z => (((Below.refl _ _).alloc (Nat.le_refl _) _).alloc (by simp) _).alloc (by simp; omega) _
  by_cases h1 : i < 0
  · go_enter Tryz.func12, Tryz.ntmps12
    go_wp2
    refine bodyPost_ret (v := .bool false) (by simp [results, Tryz.f12, go_sem]) rfl ⟨rfl, hb.out _ _ _⟩
  · by_cases h2 : j ≤ i
    · go_enter Tryz.func12, Tryz.ntmps12
      go_wp2
      refine bodyPost_ret (v := .bool false) (by simp [results, Tryz.f12, go_sem]) rfl ⟨rfl, hb.out _ _ _⟩
    · have h3 : (n : Int) ≤ j := by omega
      go_enter Tryz.func12, Tryz.ntmps12
      go_wp2
      refine bodyPost_ret (v := .bool false) (by simp [results, Tryz.f12, go_sem]) rfl ⟨rfl, hb.out _ _ _⟩

/-- Nothing of W0 has turned, but for one block maybe. -/
def Still (W0 : World) (but : Option Nat) (O : Side) (W : World) : Prop :=
  (∀ b, b < W0.heap.size → O b ∧ (some b ≠ but → W.heap[b]? = W0.heap[b]?)) ∧ (∀ b, O b → b < W.heap.size) ∧ W.os = W0.os ∧ W.tape = W0.tape ∧ W.output = W0.output ∧ W0.heap.size ≤ W.heap.size
theorem Still.stable {W0 : World} {but : Option Nat} {O : Side} {W W' : World} (h : Still W0 but O W) (hs : W.heap.size ≤ W'.heap.size) (ho : W'.os = W.os) (ht : W'.tape = W.tape) (hu : W'.output = W.output) (hsame : ∀ b, O b → W'.heap[b]? = W.heap[b]?) : Still W0 but O W' :=
  ⟨fun b hb => ⟨(h.1 b hb).1, fun hne => (hsame b (h.1 b hb).1).trans ((h.1 b hb).2 hne)⟩, fun b hb => Nat.lt_of_lt_of_le (h.2.1 b hb) hs, ho.trans h.2.2.1, ht.trans h.2.2.2.1, hu.trans h.2.2.2.2.1, Nat.le_trans h.2.2.2.2.2 hs⟩

set_option maxRecDepth 100000 in
set_option maxHeartbeats 2000000 in
theorem before_yes (b off n cap : Nat) (l : List Ev) (p q : Nat) (w : World) (hlen : l.length = n) (hs : EvS w (some ⟨b, off, none⟩) l) (hc : n ≤ cap) (hm : cap ≤ maxLen) (hn : n * 32 ≤ 140737488351232) (hpq : p < q) (hq : q < n) :
    Calls Tryz.prog 12 #[.slice (some ⟨b, off, none⟩) n cap, .int .i64 p, .int .i64 q] w fun e w' => e = .returned (.bool (bef (ev l) p q)) ∧ Below w.heap.size w w' := by
  have hcap : cap ≤ 9223372036854775807 := hm
  have hp0 : decide ((p : Int) < 0) = false := decide_eq_false (by omega)
  refine (callsIn_wide (n := 4)).1 ?_
  refine callsIn_of_wp_marks Tryz.func12 rfl trivial ?_ rfl
  simp only [Tryz.ntmps12, List.size_toArray, List.length_cons, List.length_nil, Nat.reduceAdd, Nat.reduceSub, Array.replicate_succ, Array.replicate_zero, List.push_toArray, List.append_toArray, List.nil_append, List.cons_append]
  gi_wp2_with (refine ⟨trivial, ?_⟩; gi_at_call 27; refine (pasts_in _ _ _ _ _ _).mono ?_; rintro e w' ⟨rfl, rfl⟩)
  clear hp0
  obtain ⟨Z, hZ⟩ : ∃ Z, w.heap.size = Z := ⟨_, rfl⟩
  obtain ⟨W0, hW0⟩ : ∃ W0, ((((w.alloc (.cells #[.int .i64 p] 3)).alloc (.cells #[.int .i64 q] 3)).alloc (.cells #[.bool false] 4)).alloc (.cells #[.slice (some ⟨b, off + p * 4, none⟩) (q + 1 - p) (cap - p)] 33)).alloc (.cells #[.int .i64 1] 3) = W0 := ⟨_, rfl⟩
  have hz0 : W0.heap.size = Z + 5 := by rw [← hW0, ← hZ]; simp
  have hBW : Below w.heap.size w W0 := by rw [← hW0]; exact (((((Below.refl _ w).alloc (Nat.le_refl _) _).alloc (by simp) _).alloc (by simp; omega) _).alloc (by simp; omega) _).alloc (by simp; omega) _
  have b0 : Boxed W0 Z 3 (.int .i64 p) := by
    rw [← hW0, ← hZ]; exact ((((Boxed.new w 3 _).alloc _).alloc _).alloc _).alloc _
  have b1 : Boxed W0 (Z + 1) 3 (.int .i64 q) := by
    rw [← hW0, ← hZ]; have := Boxed.new (w.alloc (.cells #[.int .i64 p] 3)) 3 (.int .i64 q); rw [World.size_alloc] at this; exact ((this.alloc _).alloc _).alloc _
  have b2 : Boxed W0 (Z + 1 + 1) 4 (.bool false) := by
    rw [← hW0, ← hZ]; have := Boxed.new ((w.alloc (.cells #[.int .i64 p] 3)).alloc (.cells #[.int .i64 q] 3)) 4 (.bool false); rw [World.size_alloc, World.size_alloc] at this; exact (this.alloc _).alloc _
  have b3 : Boxed W0 (Z + 1 + 1 + 1) 33 (.slice (some ⟨b, off + p * 4, none⟩) (q + 1 - p) (cap - p)) := by
    rw [← hW0, ← hZ]; have := Boxed.new (((w.alloc (.cells #[.int .i64 p] 3)).alloc (.cells #[.int .i64 q] 3)).alloc (.cells #[.bool false] 4)) 33 (.slice (some ⟨b, off + p * 4, none⟩) (q + 1 - p) (cap - p)); rw [World.size_alloc, World.size_alloc, World.size_alloc] at this; exact this.alloc _
  have b4 : Boxed W0 (Z + 1 + 1 + 1 + 1) 3 (.int .i64 ((1 : Nat) : Int)) := by
    rw [← hW0, ← hZ]; have := Boxed.new ((((w.alloc (.cells #[.int .i64 p] 3)).alloc (.cells #[.int .i64 q] 3)).alloc (.cells #[.bool false] 4)).alloc (.cells #[.slice (some ⟨b, off + p * 4, none⟩) (q + 1 - p) (cap - p)] 33)) 3 (.int .i64 1); rw [World.size_alloc, World.size_alloc, World.size_alloc, World.size_alloc] at this; exact this
  have hsub : ((l.drop p).take (q + 1 - p)).length = q + 1 - p := by rw [List.length_take, List.length_drop]; omega
  have hes := (hs.below hBW).sub p (q + 1 - p)
  rw [hW0, hZ]
  refine wpIn_rangeFunc_frame rfl (by decide) (gf := 56) (lb := #[.pointer (some ⟨Z + 1 + 1 + 1, 0, none⟩), .pointer (some ⟨Z + 1 + 1 + 1 + 1, 0, none⟩)]) rfl trivial (enters_of Tryz.func56 (by kernel_rfl) rfl)
    (pasts_seq (Z + 1 + 1 + 1) (Z + 1 + 1 + 1 + 1) (q + 1 - p) 1 (some ⟨b, off + p * 4, none⟩) (cap - p) ((l.drop p).take (q + 1 - p)) W0 (by omega) (by omega) hsub b3 b4 hes) (Below.refl _ _) (fun _ => rfl) pastE_steps pastE_anti
    (fun pre O W => pre.length ≤ q - p ∧ Still W0 none O W)
    (fun c _ O W => c = .ret ∧ Still W0 (some (Z + 1 + 1)) O W ∧ Boxed W (Z + 1 + 1) 4 (.bool (bef (ev l) p q)))
    (fun pre O W W' h hs ho ht hu hsame => ⟨h.1, h.2.stable hs ho ht hu hsame⟩)
    (fun c pre O W W' h hs ho ht hu hsame => ⟨h.1, h.2.1.stable hs ho ht hu hsame, (hsame _ (h.2.1.1 _ (by omega)).1).trans h.2.2⟩)
    (fun pre O W h => h.2.2.1) (fun c pre O W h => h.2.1.2.1)
    (fun pre O W h b' hb' => by
      have hlt := pastBase_lt b3.lt b4.lt hsub hes b' hb'
      exact ⟨(h.2.1 b' hlt).1, (h.2.1 b' hlt).2 (by simp)⟩)
    (pastBase_lt b3.lt b4.lt hsub hes)
    ⟨Nat.zero_le _, fun b' hb' => ⟨hb', fun _ => rfl⟩, fun b' hb' => hb', rfl, rfl, rfl, Nat.le_refl _⟩
    (fun _ x a' _ _ => a' = { tmps := #[.slice (some ⟨b, off, none⟩) n cap, .int .i64 p, .int .i64 q, undef, .pointer (some ⟨Z, 0, none⟩), .pointer (some ⟨Z + 1, 0, none⟩), .pointer (some ⟨Z + 1 + 1, 0, none⟩), .int .i64 x.1, x.2, .int .i64 p, .bool false, .bool false, .int .i64 p, .int .i64 q, .bool false, .bool false, .bool false, .int .i64 q, .slice (some ⟨b, off, none⟩) n cap, .int .i64 n, .bool false, .bool false, .slice (some ⟨b, off, none⟩) n cap, .int .i64 p, .int .i64 q, .int .i64 (q + 1), .slice (some ⟨b, off + p * 4, none⟩) (q + 1 - p) (cap - p), .func (.func 56) #[] #[.pointer (some ⟨Z + 1 + 1 + 1, 0, none⟩), .pointer (some ⟨Z + 1 + 1 + 1 + 1, 0, none⟩)], .int .i64 x.1, x.2, undef, undef, undef, undef, undef, undef, undef], defers := [] })
    (fun _ _ _ _ _ _ _ h _ _ _ _ _ => h) ?assign ?body ?done ?stop
  case assign =>
    intro l' pre x O W K hi hE hK
    gi_wp2
    exact hK _ O W (Steps.refl _ _) hi rfl
  case body =>
    rintro l' pre ⟨k, v⟩ a' O W ⟨r, hr⟩ hnl ⟨hpl, hst⟩ ⟨hk, hkn, ⟨B, ws, hset, hh⟩, hnO⟩ rfl
    have hc0 : W.cell? ⟨Z, 0, none⟩ = some (.int .i64 p) := (World.cell?_of_block (w := W0) (a := ⟨Z, 0, none⟩) ((hst.1 Z (by omega)).2 (by simp))).trans b0.cell
    have hc1 : W.cell? ⟨Z + 1, 0, none⟩ = some (.int .i64 q) := (World.cell?_of_block (w := W0) (a := ⟨Z + 1, 0, none⟩) ((hst.1 (Z + 1) (by omega)).2 (by simp))).trans b1.cell
    have hB2 : Boxed W (Z + 1 + 1) 4 (.bool false) := ((hst.1 (Z + 1 + 1) (by omega)).2 (by simp)).trans b2
    have hc2 := hB2.cell
    have hf2 := hB2.frozen
    simp only at hk
    by_cases hkq : k = q - p
    · obtain ⟨a2, c2, rfl, hc2', hc3, hR⟩ := hset.parts
      have hres : Hid (bitOf ws 0 = bef (ev l) p q) := by
        apply Bool.eq_iff_iff.2
        rw [hh.1 0]
        show 0 < 1 ∧ bef (ev ((l.drop p).take (q + 1 - p))) 0 k = true ↔ _
        rw [bef_sub _ _ _ _ _ (by omega), hkq, Nat.zero_add, show q - p + p = q by omega]
        exact ⟨fun h => h.2, fun h => ⟨by omega, h⟩⟩
      have hhas := has_any a2 ws.length c2 0 ws W rfl hR hset.2 (by decide)
      rw [hres.out] at hhas
      have Hh := hide' hhas
      have hnum : ((k : Int) == (q : Int) - (p : Int)) = true := by rw [beq_iff_eq]; omega
      clear hhas hkq hc3
      gi_wp2_with (refine ⟨trivial, ?_⟩; gi_at_call 28; refine (CallsIn.inRound l' (callsIn_wide.2 Hh.out)).mono ?_; rintro e w' ⟨rfl, rfl⟩)
      refine ⟨O, ?_, rfl, ?_, hB2.set _⟩
      · exact ⟨rfl, rfl, rfl, by simp [World.setCell], fun _ h => h, fun _ h => .inl h, fun b' hb' hO => Below.heap_setCell _ _ _ _ (fun e => hO (by rw [e]; exact (hst.1 (Z + 1 + 1) (by omega)).1))⟩
      · exact ⟨fun b' hb' => ⟨(hst.1 b' hb').1, fun hne => (Below.heap_setCell _ _ _ _ (fun e => hne (by rw [e]))).trans ((hst.1 b' hb').2 (by simp))⟩, fun b' hb' => by have := hst.2.1 b' hb'; simp [World.setCell]; omega, hst.2.2.1, hst.2.2.2.1, hst.2.2.2.2.1, by have := hst.2.2.2.2.2; simp [World.setCell]; omega⟩
    · have hnum : ((k : Int) == (q : Int) - (p : Int)) = false := by rw [beq_eq_false_iff_ne]; omega
      gi_wp2
      exact ⟨O, Steps.refl _ _, by simp; omega, hst⟩
  case done =>
    rintro xs O W hS ⟨hl, _⟩ _ _
    omega
  case stop =>
    rintro c pre O W _ ⟨rfl, hst, hB⟩ hnD hK
    gi_wp2
    refine ⟨by simp, .inl ⟨_, _, rfl, run_takeDeferred hK, ?_⟩⟩
    have hc5 := cell_kept hB.cell (grownBy_putObj' _ W0.heap.size (.deferred none)) (fun r e => by cases e; exact ⟨_, hK, rfl⟩)
    refine ⟨.bool (bef (ev l) p q), ?_, rfl, ?_⟩
    · simp [results, Tryz.f12, go_sem, hc5]
    · refine Below.trans (b := W) ⟨hst.2.2.1.trans hBW.os, hst.2.2.2.1.trans hBW.tape, hst.2.2.2.2.1.trans hBW.output, Nat.le_trans hBW.size hst.2.2.2.2.2, fun b' hb' => ((hst.1 b' (by omega)).2 (fun e => by cases e; omega)).trans (hBW.block b' hb')⟩ (belowK_b (w := w) (Nat.le_refl _) _ W0.heap.size _ _ (by omega) hK rfl rfl)

theorem before_said : BeforeSaid := by
  intro a n cap l i j w hlen hs hc hm hn
  by_cases h : 0 ≤ i ∧ i < j ∧ j < (n : Int)
  · obtain ⟨h1, h2, h3⟩ := h
    obtain ⟨p, rfl⟩ := Int.eq_ofNat_of_zero_le h1
    obtain ⟨q, rfl⟩ := Int.eq_ofNat_of_zero_le (by omega : 0 ≤ j)
    obtain ⟨b, off, rfl, _, _⟩ := hs p (by omega)
    have e : befI l p q = bef (ev l) p q := by
      unfold befI
      rw [decide_eq_true (by omega), Bool.true_and]; rfl
    rw [e]
    exact before_yes b off n cap l p q w hlen hs hc hm hn (by omega) (by omega)
  · rw [befI_no (by rw [hlen]; exact h)]
    exact before_no a n cap i j w h
end Go.Proofs.YtlpdomgedaockaaGreatDoor
namespace Go.Proofs.YtlpdomgedaockaaGreatDoor
open Go.RowKit Go.Shelf

attribute [local go_sem] Oper.semAt_some

/-- The bits of a word, rising. -/
def bl (x : Nat) : List Nat := (List.range 64).filter fun i => x.testBit i
theorem bl_zero : bl 0 = [] := by simp [bl]

theorem filter_first (P : Nat → Bool) (c : Nat) (h0 : ∀ j, j < c → P j = false) (h1 : P c = true) : ∀ n, c < n → (List.range n).filter P = c :: (List.range n).filter (fun j => P j && decide (j ≠ c)) := by
  intro n
  induction n with
  | zero => intro h; omega
  | succ n ih =>
    intro h
    rw [List.range_succ, List.filter_append, List.filter_append]
    by_cases hc : c < n
    · rw [ih hc]
      have e : decide (n ≠ c) = true := decide_eq_true (by omega)
      simp only [List.filter_cons, List.filter_nil, e, Bool.and_true, List.cons_append]
    · obtain rfl : c = n := by omega
      have e1 : (List.range c).filter P = [] := List.filter_eq_nil_iff.2 fun j hj => by rw [h0 j (List.mem_range.1 hj)]; simp
      have e2 : (List.range c).filter (fun j => P j && decide (j ≠ c)) = [] := List.filter_eq_nil_iff.2 fun j hj => by rw [h0 j (List.mem_range.1 hj)]; simp
      rw [e1, e2]
      simp [h1]

theorem low_bits {x : Nat} (h0 : 0 < x) (hx : x < 18446744073709551616) : Lib.ctz 64 x < 64 ∧ x.testBit (Lib.ctz 64 x) = true ∧ (∀ j, j < Lib.ctz 64 x → x.testBit j = false) ∧ ∀ j, (x &&& (x - 1)).testBit j = (x.testBit j && decide (j ≠ Lib.ctz 64 x)) := by
  have hc : Lib.ctz 64 x = Lib.ctzFrom 64 x := by unfold Lib.ctz; rw [if_neg (by omega)]
  obtain ⟨m, hm, hlt⟩ := Lib.ctzFrom_spec 64 x h0 hx
  rw [hc]
  generalize Lib.ctzFrom 64 x = c at hm hlt
  have hp : 2 ^ (c + 1) = 2 ^ c * 2 := Nat.pow_succ 2 c
  have hpos : 0 < 2 ^ c := Nat.two_pow_pos c
  have e1 : x = 2 ^ (c + 1) * m + 2 ^ c := by rw [hm, hp, Nat.mul_add, Nat.mul_one, Nat.mul_assoc]
  have e2 : x - 1 = 2 ^ (c + 1) * m + (2 ^ c - 1) := by omega
  have t1 : ∀ j, x.testBit j = if j < c + 1 then (2 ^ c).testBit j else m.testBit (j - (c + 1)) := fun j => by
    rw [e1]; exact Nat.testBit_two_pow_mul_add m (by omega) j
  have t2 : ∀ j, (x - 1).testBit j = if j < c + 1 then (2 ^ c - 1).testBit j else m.testBit (j - (c + 1)) := fun j => by
    rw [e2]; exact Nat.testBit_two_pow_mul_add m (by omega) j
  refine ⟨hlt, ?_, fun j hj => ?_, fun j => ?_⟩
  · rw [t1, if_pos (by omega)]; simp
  · rw [t1, if_pos (by omega), Nat.testBit_two_pow]; exact decide_eq_false (by omega)
  · rw [Nat.testBit_and, t2, t1]
    by_cases hj : j < c + 1
    · rw [if_pos hj, if_pos hj, Nat.testBit_two_pow, Nat.testBit_two_pow_sub_one]
      by_cases hjc : j = c
      · subst hjc; simp
      · have : decide (c = j) = false := decide_eq_false (fun e => hjc e.symm)
        rw [this]; simp
    · rw [if_neg hj, if_neg hj]
      have : decide (j ≠ c) = true := decide_eq_true (by omega)
      rw [this]; simp

theorem bl_next {x : Nat} (h0 : 0 < x) (hx : x < 18446744073709551616) : bl x = Lib.ctz 64 x :: bl (x &&& (x - 1)) := by
  obtain ⟨h1, h2, h3, h4⟩ := low_bits h0 hx
  unfold bl
  rw [filter_first (fun i => x.testBit i) _ h3 h2 64 h1]
  congr 1
  exact List.filter_congr fun j _ => (h4 j).symm

/-- The words of what is in the one set and not in the other. -/
def diffN (x y : Nat) : Nat := (BitVec.ofNat 64 x &&& ~~~ BitVec.ofNat 64 y).toNat
theorem diffN_lt (x y : Nat) : diffN x y < 18446744073709551616 := (BitVec.ofNat 64 x &&& ~~~ BitVec.ofNat 64 y).isLt
theorem bits_andNot (x y : Nat) : bits .andNot .u64 (x : Int) (y : Int) = ((diffN x y : Nat) : Int) := by
  simp only [bits, ofInt_nat]
  exact wrap_u64_small (diffN_lt x y)
theorem diffN_bit (x y : Nat) {j : Nat} (hj : j < 64) : (diffN x y).testBit j = (x.testBit j && !y.testBit j) := by
  unfold diffN
  rw [BitVec.testBit_toNat, BitVec.getLsbD_and, BitVec.getLsbD_not, BitVec.getLsbD_ofNat, BitVec.getLsbD_ofNat]
  simp [hj]
theorem diffN_zero {x : Nat} (hx : x < 18446744073709551616) : diffN x 0 = x := by
  unfold diffN
  have : ~~~ BitVec.ofNat 64 0 = BitVec.allOnes 64 := by decide
  rw [this, BitVec.and_allOnes, BitVec.toNat_ofNat]
  exact Nat.mod_eq_of_lt hx

/-- All that is in the one set and not in the other, word by word. -/
def allW (s o : List Nat) (n : Nat) : List Nat := (List.range n).flatMap fun k => (bl (diffN (s.getD k 0) (o.getD k 0))).map fun b => 64 * k + b
theorem allW_succ (s o : List Nat) (n : Nat) : allW s o (n + 1) = allW s o n ++ (bl (diffN (s.getD n 0) (o.getD n 0))).map fun b => 64 * n + b := by simp [allW, List.range_succ]
theorem allW_split (s o : List Nat) (k : Nat) : ∀ n, k ≤ n → ∃ R, allW s o n = allW s o k ++ R := by
  intro n
  induction n with
  | zero => intro h; obtain rfl : k = 0 := by omega
            exact ⟨[], by simp⟩
  | succ n ih =>
    intro h
    by_cases hk : k = n + 1
    · subst hk; exact ⟨[], by simp⟩
    · obtain ⟨R, hR⟩ := ih (by omega)
      exact ⟨R ++ _, by rw [allW_succ, hR, List.append_assoc]⟩


set_option maxHeartbeats 1000000 in
theorem tz_core (x k idx : Nat) (w : World) (hx0 : ((x : Int) == 0) = false)
    (key : IntKind.u64.wrap (bits BinOp.and IntKind.u64 (x : Int) (IntKind.u64.wrap (-(x : Int))) * 285870213051353865) / 288230376151711744 = (idx : Int))
    (hi : idx < 64) (hk : k < 64) (hcell : w.cell? ⟨0, idx, none⟩ = some (.int .u8 k)) :
    Calls Tryz.prog 90 #[.int .u64 x] w fun e w' => e = .returned (.int .i64 k) ∧ w' = w := by
  go_enter Tryz.func90, Tryz.ntmps90
  go_wp2_with (simp only [key])
  go_ret
  exact ⟨rfl, rfl⟩

theorem tz_any (x : Nat) (h0 : 0 < x) (hx : x < 18446744073709551616) (w : World) (hT : Tab w) :
    Calls Tryz.prog 90 #[.int .u64 x] w fun e w' => e = .returned (.int .i64 (Lib.ctz 64 x)) ∧ w' = w := by
  obtain ⟨hlow, hk⟩ := Lib.lowest_bit 64 x (by omega) hx
  obtain ⟨hi, htab⟩ := Lib.deBruijn64_at _ hk
  have hcell := hT _ hi
  rw [htab] at hcell
  exact tz_core x _ _ w (by simp; omega) (tz64_key x _ hx (by omega) hlow) hi hk hcell
end Go.Proofs.YtlpdomgedaockaaGreatDoor
namespace Go.Proofs.YtlpdomgedaockaaGreatDoor
open Go.RowKit Go.Shelf

attribute [local go_sem] Oper.semAt_some

/-- Blocks that are kept. -/
def KeptOn (Kb : Side) (W W' : World) : Prop := ∀ b, Kb b → W'.heap[b]? = W.heap[b]?
theorem KeptOn.refl (Kb : Side) (W : World) : KeptOn Kb W W := fun _ _ => rfl
theorem KeptOn.trans {Kb : Side} {A B C : World} (h : KeptOn Kb A B) (k : KeptOn Kb B C) : KeptOn Kb A C := fun b hb => (k b hb).trans (h b hb)

set_option maxRecDepth 100000 in
set_option maxHeartbeats 2000000 in
theorem without1_in (l Bs Bo : Nat) (a1 : Option Addr) (cs : Nat) (s : List Nat) (ao : Option Addr) (co : Nat) (o : List Nat) (Kb : Side) (J Jx : List Nat → World → Prop) (W : World)
    (hY : ∀ pre x W1, J pre W1 → pre.length < (allW s o s.length).length → YieldAt Fence.wide (3 - 1) Tryz.prog l #[.int .i64 (x : Nat)] W1 fun e W' => (e = .returned (.bool true) ∧ J (pre ++ [x]) W' ∧ KeptOn Kb W1 W') ∨ (e = .returned (.bool false) ∧ Jx (pre ++ [x]) W'))
    (hBs : W.cell? ⟨Bs, 0, none⟩ = some (.slice a1 s.length cs)) (hBo : W.cell? ⟨Bo, 0, none⟩ = some (.slice ao o.length co)) (hk2 : Kb Bo) (hk3 : ∀ b, a1 = some b → Kb b.block) (hk4 : ∀ b, ao = some b → Kb b.block) (hk5 : Kb 0)
    (hs : SetR W a1 s) (ho : SetR W ao o) (hsb : ∀ x, x ∈ s → x < 18446744073709551616) (hsl : s.length ≤ 1048576) (_hol : o.length ≤ 1048576) (hT : Tab W) (h0 : J [] W) :
    CallsIn Fence.wide 3 Tryz.prog 89 #[.func (.yield l) #[] #[], .pointer (some ⟨Bs, 0, none⟩), .pointer (some ⟨Bo, 0, none⟩)] W fun e W' => (∃ v, e = .returned v) ∧
      ((∃ ys, ys = allW s o s.length ∧ J ys W') ∨ (∃ pre, (∃ R, allW s o s.length = pre ++ R) ∧ Jx pre W')) := by
  refine callsIn_of_wp Tryz.func89 rfl trivial ?_ rfl
  simp only [Tryz.ntmps89, List.size_toArray, List.length_cons, List.length_nil, Nat.reduceAdd, Nat.reduceSub, Array.replicate_succ, Array.replicate_zero, List.push_toArray, List.append_toArray, List.nil_append, List.cons_append]
  obtain ⟨n, hn⟩ : ∃ n, s.length = n := ⟨_, rfl⟩
  obtain ⟨m, hm⟩ : ∃ m, o.length = m := ⟨_, rfl⟩
  have Hn := hide' hn
  have Hm := hide' hm
  rw [hn] at hBs hsl hY ⊢
  rw [hm] at hBo _hol
  clear hn hm
  have hcell : Hid (∀ (wr : World), KeptOn Kb W wr → ∀ b x, Kb b → wr.cell? ⟨b, x, none⟩ = W.cell? ⟨b, x, none⟩) := fun wr hk b x hb => World.cell?_of_block (w := W) (a := ⟨b, x, none⟩) (hk b hb)
  gi_wp2
  gi_loopw [8] (fun i wr => ∃ k : Nat, k ≤ n ∧ i = .int .i64 k ∧ J (allW s o k) wr ∧ KeptOn Kb W wr) (fun i _ => n - (intOf i).toNat)
  case atStart => exact ⟨0, Nat.zero_le _, rfl, h0, KeptOn.refl _ _⟩
  case round =>
    obtain ⟨k, hk, rfl, hJs, hkp⟩ := hrel
    by_cases hlt : k < n
    · obtain ⟨b, off, rfl, hbl, hc⟩ := hs k (by have := Hn.out; omega)
      have hc' := (hcell.out wr hkp b (off + k) (hk3 _ rfl)).trans hc
      have hbo := (hcell.out wr hkp Bo 0 hk2).trans hBo
      obtain ⟨x, hx⟩ : ∃ x, Hid (s.getD k 0 = x) := ⟨_, rfl⟩
      rw [hx.out] at hc'
      unfold encU at hc'
      have hxl : x < 18446744073709551616 := by rw [← hx.out, getDN_eq (by have := Hn.out; omega)]; exact hsb _ (List.getElem_mem _)
      obtain ⟨y, hy⟩ : ∃ y, Hid (diffN (s.getD k 0) (o.getD k 0) = y) := ⟨_, rfl⟩
      have hyl : y < 18446744073709551616 := by rw [← hy.out]; exact diffN_lt _ _
      obtain ⟨wo, hwo⟩ : ∃ z, z = wr := ⟨wr, rfl⟩
      subst hwo
      have hinner : Hid (∃ R, allW s o n = allW s o k ++ (bl y).map (fun b => 64 * k + b) ++ R) := by
        obtain ⟨R, hR⟩ := allW_split s o (k + 1) n (by omega)
        exact ⟨R, by rw [hR, allW_succ, hy.out]⟩
      by_cases hko : k < m
      · obtain ⟨b2, off2, rfl, hbl2, hc2⟩ := ho k (by have := Hm.out; omega)
        have hc2' := (hcell.out wo hkp b2 (off2 + k) (hk4 _ rfl)).trans hc2
        obtain ⟨z, hz⟩ : ∃ z, Hid (o.getD k 0 = z) := ⟨_, rfl⟩
        rw [hz.out] at hc2'
        unfold encU at hc2'
        have hval : bits BinOp.andNot IntKind.u64 (x : Int) (z : Int) = (y : Int) := by rw [bits_andNot, ← hy.out, hx.out, hz.out]
        gi_wp2
        gi_loopw [5] (fun u w1 => ∃ (x' : Nat) (dn : List Nat), u = .int .u64 x' ∧ x' < 18446744073709551616 ∧ Hid (bl y = dn ++ bl x') ∧ J (allW s o k ++ dn.map (fun b => 64 * k + b)) w1 ∧ KeptOn Kb W w1) (fun u _ => (intOf u).toNat)
        case atStart => exact ⟨y, [], rfl, hyl, rfl, by simpa using hJs, hkp⟩
        case round =>
          obtain ⟨x', dn, rfl, hxl', hbl', hJi, hki⟩ := hrel
          by_cases hz0 : x' = 0
          · subst hz0
            have hfin : Hid (J (allW s o (k + 1)) wr) := by
              unfold Hid
              rw [allW_succ, hy.out, hbl'.out, bl_zero, List.append_nil]; exact hJi
            clear hJi
            gi_wp2
            go_roundw
            case rel => exact ⟨k + 1, by omega, by go_num, hfin.out, hki⟩
            case measure => simp [intOf]; omega
          · have hx0 : 0 < x' := by omega
            have hT' : Tab wr := fun j hj => (hcell.out wr hki 0 j hk5).trans (hT j hj)
            have htz := tz_any x' hx0 hxl' wr hT'
            have hnext := bl_next hx0 hxl'
            have hc64 := (low_bits hx0 hxl').1
            obtain ⟨c, hcq⟩ : ∃ c, Lib.ctz 64 x' = c := ⟨_, rfl⟩
            rw [hcq] at htz hnext hc64
            have Htz := hide' htz
            have Hnext := hide' hnext
            have hplen : (allW s o k ++ dn.map (fun b => 64 * k + b)).length < (allW s o n).length := by
              obtain ⟨R, hR⟩ := hinner.out
              rw [hR, hbl'.out, hnext]; simp only [List.length_append, List.length_map, List.length_cons]; omega
            have hY2 : YieldAt Fence.wide (3 - 1) Tryz.prog l #[.int .i64 ((k : Int) * 64 + (c : Int))] wr fun e W' => ∃ bb, e = .returned (.bool bb) ∧ ((bb = true ∧ J (allW s o k ++ dn.map (fun b => 64 * k + b) ++ [64 * k + c]) W' ∧ KeptOn Kb wr W') ∨ (bb = false ∧ Jx (allW s o k ++ dn.map (fun b => 64 * k + b) ++ [64 * k + c]) W')) := by
              have h := hY _ (64 * k + c) wr hJi hplen
              rw [show ((64 * k + c : Nat) : Int) = (k : Int) * 64 + (c : Int) by omega] at h
              exact h.mono fun e W' h => h.elim (fun h => ⟨true, h.1, .inl ⟨rfl, h.2⟩⟩) (fun h => ⟨false, h.1, .inr ⟨rfl, h.2⟩⟩)
            obtain ⟨fn, tmps, assign, body, hyr, hR⟩ := hY2
            have hne : ((x' : Int) != 0) = true := by rw [bne_iff_ne]; omega
            have hw1 : IntKind.u64.wrap ((x' : Int) - 1) = ((x' - 1 : Nat) : Int) := by rw [IntKind.wrap_u64]; omega
            have hv2 : bits BinOp.and IntKind.u64 (x' : Int) ((x' - 1 : Nat) : Int) = ((x' &&& (x' - 1) : Nat) : Int) := bits_and hxl' (by omega)
            have hpre : Hid (∃ R, allW s o n = allW s o k ++ dn.map (fun b => 64 * k + b) ++ [64 * k + c] ++ R) := by
              obtain ⟨R, hR⟩ := hinner.out
              refine ⟨(bl (x' &&& (x' - 1))).map (fun b => 64 * k + b) ++ R, ?_⟩
              rw [hR, hbl'.out, Hnext.out]; simp
            clear htz hnext hcq hJi hplen
            gi_wp2_with (refine ⟨trivial, ?_⟩; gi_at_call 90; refine (callsIn_wide.2 Htz.out).mono ?_; rintro e w' ⟨rfl, rfl⟩)
            refine hR.mono ?_
            clear hR hyr
            rintro e W3 ⟨bb, rfl, ⟨rfl, hJ3, hk3⟩ | ⟨rfl, hJx3⟩⟩
            · gi_wp2
              go_roundw
              case rel => exact ⟨x' &&& (x' - 1), dn ++ [c], rfl, Nat.lt_of_le_of_lt Nat.and_le_left hxl', by unfold Hid; rw [hbl'.out, Hnext.out]; simp, by rw [List.map_append, ← List.append_assoc]; exact hJ3, hki.trans hk3⟩
              case measure => have := Nat.and_le_right (n := x') (m := x' - 1); simp [intOf]; omega
            · gi_wp2
              refine bodyPost_ret (results_none rfl _ _ _) rfl ?_
              exact ⟨⟨_, rfl⟩, .inr ⟨_, hpre.out, hJx3⟩⟩
      · have hxy : Hid (x = y) := by
          have : o.getD k 0 = 0 := getDN_past (by have := Hm.out; omega)
          unfold Hid; rw [← hy.out, this, hx.out, diffN_zero hxl]
        have hyx : y = x := hxy.out.symm
        clear hxy
        subst hyx
        gi_wp2
        gi_loopw [5] (fun u w1 => ∃ (x' : Nat) (dn : List Nat), u = .int .u64 x' ∧ x' < 18446744073709551616 ∧ Hid (bl y = dn ++ bl x') ∧ J (allW s o k ++ dn.map (fun b => 64 * k + b)) w1 ∧ KeptOn Kb W w1) (fun u _ => (intOf u).toNat)
        case atStart => exact ⟨y, [], rfl, hyl, rfl, by simpa using hJs, hkp⟩
        case round =>
          obtain ⟨x', dn, rfl, hxl', hbl', hJi, hki⟩ := hrel
          by_cases hz0 : x' = 0
          · subst hz0
            have hfin : Hid (J (allW s o (k + 1)) wr) := by
              unfold Hid
              rw [allW_succ, hy.out, hbl'.out, bl_zero, List.append_nil]; exact hJi
            clear hJi
            gi_wp2
            go_roundw
            case rel => exact ⟨k + 1, by omega, by go_num, hfin.out, hki⟩
            case measure => simp [intOf]; omega
          · have hx0 : 0 < x' := by omega
            have hT' : Tab wr := fun j hj => (hcell.out wr hki 0 j hk5).trans (hT j hj)
            have htz := tz_any x' hx0 hxl' wr hT'
            have hnext := bl_next hx0 hxl'
            have hc64 := (low_bits hx0 hxl').1
            obtain ⟨c, hcq⟩ : ∃ c, Lib.ctz 64 x' = c := ⟨_, rfl⟩
            rw [hcq] at htz hnext hc64
            have Htz := hide' htz
            have Hnext := hide' hnext
            have hplen : (allW s o k ++ dn.map (fun b => 64 * k + b)).length < (allW s o n).length := by
              obtain ⟨R, hR⟩ := hinner.out
              rw [hR, hbl'.out, hnext]; simp only [List.length_append, List.length_map, List.length_cons]; omega
            have hY2 : YieldAt Fence.wide (3 - 1) Tryz.prog l #[.int .i64 ((k : Int) * 64 + (c : Int))] wr fun e W' => ∃ bb, e = .returned (.bool bb) ∧ ((bb = true ∧ J (allW s o k ++ dn.map (fun b => 64 * k + b) ++ [64 * k + c]) W' ∧ KeptOn Kb wr W') ∨ (bb = false ∧ Jx (allW s o k ++ dn.map (fun b => 64 * k + b) ++ [64 * k + c]) W')) := by
              have h := hY _ (64 * k + c) wr hJi hplen
              rw [show ((64 * k + c : Nat) : Int) = (k : Int) * 64 + (c : Int) by omega] at h
              exact h.mono fun e W' h => h.elim (fun h => ⟨true, h.1, .inl ⟨rfl, h.2⟩⟩) (fun h => ⟨false, h.1, .inr ⟨rfl, h.2⟩⟩)
            obtain ⟨fn, tmps, assign, body, hyr, hR⟩ := hY2
            have hne : ((x' : Int) != 0) = true := by rw [bne_iff_ne]; omega
            have hw1 : IntKind.u64.wrap ((x' : Int) - 1) = ((x' - 1 : Nat) : Int) := by rw [IntKind.wrap_u64]; omega
            have hv2 : bits BinOp.and IntKind.u64 (x' : Int) ((x' - 1 : Nat) : Int) = ((x' &&& (x' - 1) : Nat) : Int) := bits_and hxl' (by omega)
            have hpre : Hid (∃ R, allW s o n = allW s o k ++ dn.map (fun b => 64 * k + b) ++ [64 * k + c] ++ R) := by
              obtain ⟨R, hR⟩ := hinner.out
              refine ⟨(bl (x' &&& (x' - 1))).map (fun b => 64 * k + b) ++ R, ?_⟩
              rw [hR, hbl'.out, Hnext.out]; simp
            clear htz hnext hcq hJi hplen
            gi_wp2_with (refine ⟨trivial, ?_⟩; gi_at_call 90; refine (callsIn_wide.2 Htz.out).mono ?_; rintro e w' ⟨rfl, rfl⟩)
            refine hR.mono ?_
            clear hR hyr
            rintro e W3 ⟨bb, rfl, ⟨rfl, hJ3, hk3⟩ | ⟨rfl, hJx3⟩⟩
            · gi_wp2
              go_roundw
              case rel => exact ⟨x' &&& (x' - 1), dn ++ [c], rfl, Nat.lt_of_le_of_lt Nat.and_le_left hxl', by unfold Hid; rw [hbl'.out, Hnext.out]; simp, by rw [List.map_append, ← List.append_assoc]; exact hJ3, hki.trans hk3⟩
              case measure => have := Nat.and_le_right (n := x') (m := x' - 1); simp [intOf]; omega
            · gi_wp2
              refine bodyPost_ret (results_none rfl _ _ _) rfl ?_
              exact ⟨⟨_, rfl⟩, .inr ⟨_, hpre.out, hJx3⟩⟩
    · obtain rfl : k = n := by omega
      gi_wp2
      go_end0
      exact ⟨⟨_, rfl⟩, .inl ⟨_, rfl, hJs⟩⟩

set_option maxHeartbeats 1000000 in
/-- without: both sets are boxed; the function value captures the boxes. -/
theorem without_in (m : Nat) (a : Option Addr) (n cap : Nat) (a' : Option Addr) (n' cap' : Nat) (w : World) :
    CallsIn Fence.wide m Tryz.prog 39 #[.slice a n cap, .slice a' n' cap'] w fun e w' =>
      e = .returned (.func (.func 89) #[] #[.pointer (some ⟨w.heap.size, 0, none⟩), .pointer (some ⟨w.heap.size + 1, 0, none⟩)]) ∧ w' = (w.alloc (.cells #[.slice a n cap] 79)).alloc (.cells #[.slice a' n' cap'] 79) := by
  refine callsIn_of_wp Tryz.func39 rfl trivial ?_ rfl
  simp only [Tryz.ntmps39, List.size_toArray, List.length_cons, List.length_nil, Nat.reduceAdd, Nat.reduceSub, Array.replicate_succ, Array.replicate_zero, List.push_toArray, List.append_toArray, List.nil_append, List.cons_append]
  gi_wp2
  go_ret
  exact ⟨by simp, rfl⟩

/-- What without ranges over. -/
theorem without_stops (Bs Bo : Nat) (a1 : Option Addr) (cs : Nat) (s : List Nat) (ao : Option Addr) (co : Nat) (o : List Nat) (Kb : Side) (w : World) (hKb : ∀ b, Kb b → b < w.heap.size)
    (hBs : w.cell? ⟨Bs, 0, none⟩ = some (.slice a1 s.length cs)) (hBo : w.cell? ⟨Bo, 0, none⟩ = some (.slice ao o.length co)) (hk1 : Kb Bs) (hk2 : Kb Bo) (hk3 : ∀ b, a1 = some b → Kb b.block) (hk4 : ∀ b, ao = some b → Kb b.block) (hk5 : Kb 0)
    (hs : SetR w a1 s) (ho : SetR w ao o) (hsb : ∀ x, x ∈ s → x < 18446744073709551616) (hsl : s.length ≤ 1048576) (hol : o.length ≤ 1048576) (hT : Tab w) :
    SeqStopsK Fence.wide 3 Tryz.prog 89 #[.pointer (some ⟨Bs, 0, none⟩), .pointer (some ⟨Bo, 0, none⟩)] (fun x : Nat => #[Value.int .i64 (x : Int)]) (KeptOn Kb) (fun ys => ys = allW s o s.length) (fun pre => ∃ R, allW s o s.length = pre ++ R) (allW s o s.length).length w :=
  fun l J Jx W hW _ _ hY h0 => without1_in l Bs Bo a1 cs s ao co o Kb J Jx W hY ((hW.cell (p := ⟨Bs, 0, none⟩) (hKb _ hk1)).trans hBs) ((hW.cell (p := ⟨Bo, 0, none⟩) (hKb _ hk2)).trans hBo) hk2 hk3 hk4 hk5
    (hs.kept hW.size fun b hb => hW.block _ (hKb _ (hk3 b hb))) (ho.kept hW.size fun b hb => hW.block _ (hKb _ (hk4 b hb))) hsb hsl hol (fun j hj => (hW.cell (p := ⟨0, j, none⟩) (hKb _ hk5)).trans (hT j hj)) h0
end Go.Proofs.YtlpdomgedaockaaGreatDoor
