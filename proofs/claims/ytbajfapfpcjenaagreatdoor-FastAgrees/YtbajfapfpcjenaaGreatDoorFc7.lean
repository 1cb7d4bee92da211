import Derived.Test.YtbajfapfpcjenaaGreatDoorKMap
import Derived.Test.YtbajfapfpcjenaaGreatDoorFc1
import Derived.Test.YtbajfapfpcjenaaGreatDoorFc4
import Derived.Laws.BitsLemmas
import Derived.RangeFuncNested
import Derived.RangeFuncBound
import Derived.RangeFuncCalls
import Derived.RangeFuncLeaves
import Derived.Shelf.Abstract
import Derived.Shelf.RegionOpen
import Derived.WalkKit
import Derived.OwnWalkIn
import Derived.TacticsInMore
import Derived.LoopNIn
import Derived.LoopIn
import Derived.Maps.AppendAt
namespace Go.Proofs.YtbajfapfpcjenaaGreatDoor
open Go.RowKit Go.Proofs.Ord

/-- A number that an int can be. -/
def In64 (t : Int) : Prop := -9223372036854775808 ≤ t ∧ t ≤ 9223372036854775807

/-- A page, in blocks of S. -/
def PageV (S : Nat → Prop) (w : World) (v : Value) (zs : List Int) : Prop :=
  ∃ a cap, v = .slice a zs.length cap ∧ SlV w a zs.length cap zs ∧ zs.length ≤ 64 ∧ ∀ b off, a = some ⟨b, off, none⟩ → 0 < zs.length → S b

/-- The number of thread u, on pages. -/
def pageAt (pg : Int → List Int) (u : Int) : Int := (pg (u / 64)).getD (u % 64).toNat 0

structure Pages (S : Nat → Prop) (w : World) (f : Int → Option Value) (pg : Int → List Int) : Prop where
  some_ : ∀ p v, f p = some v → PageV S w v (pg p)
  none_ : ∀ p, f p = none → pg p = []

/-- A stamp of these pages, in blocks of S. -/
def StampP (S : Nat → Prop) (w : World) (v : Value) (pg : Int → List Int) : Prop :=
  (v = .map none ∧ ∀ p, pg p = []) ∨ ∃ b f n, v = .map (some b) ∧ S b ∧ KMap ik w b f n ∧ Pages S w f pg
/-- A stamp of these numbers. -/
def StampV (S : Nat → Prop) (w : World) (v : Value) (g : Int → Int) : Prop := ∃ pg, (∀ u, g u = pageAt pg u) ∧ StampP S w v pg

theorem pageV_nil (S : Nat → Prop) (w : World) : PageV S w (.slice none 0 0) [] := ⟨none, 0, rfl, ⟨rfl, Nat.le_refl _, by omega, fun _ => rfl, fun i hi => absurd hi (by simp), by simp⟩, by simp, fun b off h => by cases h⟩

theorem slV_keptB {w w' : World} {a : Option Addr} {n cap : Nat} {zs : List Int} (h : SlV w a n cap zs) (hs : w.heap.size ≤ w'.heap.size) (hb : ∀ b off, a = some ⟨b, off, none⟩ → 0 < zs.length → w'.heap[b]? = w.heap[b]?) : SlV w' a n cap zs := by
  refine ⟨h.1, h.2.1, h.2.2.1, h.2.2.2.1, fun i hi => ?_, h.2.2.2.2.2⟩
  obtain ⟨b, off, ha, hlt, hc⟩ := h.2.2.2.2.1 i hi
  exact ⟨b, off, ha, by omega, (World.cell?_of_block (w := w) (a := ⟨b, off + i, none⟩) (hb b off ha (by omega))).trans hc⟩
theorem PageV.kept {S : Nat → Prop} {w w' : World} {v : Value} {zs : List Int} (h : PageV S w v zs) (hs : w.heap.size ≤ w'.heap.size) (hb : ∀ b, S b → w'.heap[b]? = w.heap[b]?) : PageV S w' v zs := by
  obtain ⟨a, cap, e, h1, h2, h3⟩ := h
  exact ⟨a, cap, e, slV_keptB h1 hs (fun b off ha h0 => hb b (h3 b off ha h0)), h2, h3⟩
theorem PageV.mono {S S' : Nat → Prop} {w : World} {v : Value} {zs : List Int} (h : PageV S w v zs) (hS : ∀ b, b < w.heap.size → S b → S' b) : PageV S' w v zs := by
  obtain ⟨a, cap, e, h1, h2, h3⟩ := h
  refine ⟨a, cap, e, h1, h2, fun b off ha h0 => hS b ?_ (h3 b off ha h0)⟩
  obtain ⟨b', off', ha', hlt, _⟩ := h1.2.2.2.2.1 0 h0
  rw [ha] at ha'; cases ha'; exact hlt
/-- A new page. -/
theorem New.page {S : Nat → Prop} {B : Nat} {w : World} {v : Value} {zs : List Int} (h : New B w v zs) (hl : zs.length ≤ 64) (hS : ∀ b, B ≤ b → b < w.heap.size → S b) : PageV S w v zs := by
  obtain ⟨a, cap, rfl, h1, h2, h3, h4⟩ := id h
  refine ⟨a, cap, rfl, h.slV (by omega), hl, fun b off ha h0 => ?_⟩
  obtain ⟨b', off', ha', hB, hlt, _⟩ := h4 0 h0
  rw [ha] at ha'; cases ha'; exact hS b hB hlt
theorem Pages.kept {S : Nat → Prop} {w w' : World} {f : Int → Option Value} {pg : Int → List Int} (h : Pages S w f pg) (hs : w.heap.size ≤ w'.heap.size) (hb : ∀ b, S b → w'.heap[b]? = w.heap[b]?) : Pages S w' f pg :=
  ⟨fun p v hf => (h.some_ p v hf).kept hs hb, h.none_⟩
theorem Pages.mono {S S' : Nat → Prop} {w : World} {f : Int → Option Value} {pg : Int → List Int} (h : Pages S w f pg) (hS : ∀ b, b < w.heap.size → S b → S' b) : Pages S' w f pg :=
  ⟨fun p v hf => (h.some_ p v hf).mono hS, h.none_⟩
theorem Pages.at {S : Nat → Prop} {w : World} {f : Int → Option Value} {pg : Int → List Int} (h : Pages S w f pg) (p : Int) : PageV S w ((f p).getD (.slice none 0 0)) (pg p) := by
  cases hf : f p with
  | none => rw [h.none_ p hf]; exact pageV_nil S w
  | some v => exact h.some_ p v hf
theorem Pages.put {S : Nat → Prop} {w : World} {f : Int → Option Value} {pg : Int → List Int} (h : Pages S w f pg) (p : Int) {v : Value} {zs : List Int} (hv : PageV S w v zs) : Pages S w (putK f p v) (fun q => if q = p then zs else pg q) := by
  refine ⟨fun q u hq => ?_, fun q hq => ?_⟩
  · by_cases e : q = p
    · subst e; rw [putK_same] at hq; cases hq; rw [if_pos rfl]; exact hv
    · rw [putK_other v e] at hq; rw [if_neg e]; exact h.some_ q u hq
  · by_cases e : q = p
    · subst e; rw [putK_same] at hq; cases hq
    · rw [putK_other v e] at hq; rw [if_neg e]; exact h.none_ q hq
theorem pages_none (S : Nat → Prop) (w : World) : Pages S w (fun _ => none) (fun _ => []) := ⟨(fun p v h => by cases h), fun _ _ => rfl⟩

theorem StampP.kept {S : Nat → Prop} {w w' : World} {v : Value} {pg : Int → List Int} (h : StampP S w v pg) (hs : w.heap.size ≤ w'.heap.size) (hb : ∀ b, S b → w'.heap[b]? = w.heap[b]?) : StampP S w' v pg := by
  rcases h with ⟨h1, h2⟩ | ⟨b, f, n, h1, h2, h3, h4⟩
  · exact .inl ⟨h1, h2⟩
  · exact .inr ⟨b, f, n, h1, h2, h3.same (hb b h2), h4.kept hs hb⟩
theorem StampP.mono {S S' : Nat → Prop} {w : World} {v : Value} {pg : Int → List Int} (h : StampP S w v pg) (hS : ∀ b, b < w.heap.size → S b → S' b) : StampP S' w v pg := by
  rcases h with ⟨h1, h2⟩ | ⟨b, f, n, h1, h2, h3, h4⟩
  · exact .inl ⟨h1, h2⟩
  · exact .inr ⟨b, f, n, h1, hS b h3.lt h2, h3, h4.mono hS⟩
theorem StampV.kept {S : Nat → Prop} {w w' : World} {v : Value} {g : Int → Int} (h : StampV S w v g) (hs : w.heap.size ≤ w'.heap.size) (hb : ∀ b, S b → w'.heap[b]? = w.heap[b]?) : StampV S w' v g := by
  obtain ⟨pg, h1, h2⟩ := h; exact ⟨pg, h1, h2.kept hs hb⟩
theorem StampV.mono {S S' : Nat → Prop} {w : World} {v : Value} {g : Int → Int} (h : StampV S w v g) (hS : ∀ b, b < w.heap.size → S b → S' b) : StampV S' w v g := by
  obtain ⟨pg, h1, h2⟩ := h; exact ⟨pg, h1, h2.mono hS⟩
theorem StampV.congr {S : Nat → Prop} {w : World} {v : Value} {g g' : Int → Int} (h : StampV S w v g) (hg : ∀ u, g' u = g u) : StampV S w v g' := by
  obtain ⟨pg, h1, h2⟩ := h; exact ⟨pg, fun u => (hg u).trans (h1 u), h2⟩
theorem stampV_nil (S : Nat → Prop) (w : World) : StampV S w (.map none) (fun _ => 0) := ⟨fun _ => [], fun u => by simp [pageAt], .inl ⟨rfl, fun _ => rfl⟩⟩
theorem StampP.shape {S : Nat → Prop} {w : World} {v : Value} {pg : Int → List Int} (h : StampP S w v pg) : ∃ m, v = .map m := by
  rcases h with ⟨h1, _⟩ | ⟨b, _, _, h1, _⟩
  · exact ⟨_, h1⟩
  · exact ⟨_, h1⟩
theorem StampP.len64 {S : Nat → Prop} {w : World} {v : Value} {pg : Int → List Int} (h : StampP S w v pg) (p : Int) : (pg p).length ≤ 64 := by
  rcases h with ⟨_, h2⟩ | ⟨b, f, n, _, _, _, h4⟩
  · rw [h2 p]; simp
  · obtain ⟨_, _, _, _, h, _⟩ := h4.at p; exact h
/-- What holds in blocks below the heap's end. -/
theorem StampV.any {S : Nat → Prop} {w w' : World} {v : Value} {g : Int → Int} (h : StampV S w v g) (hb : Below w.heap.size w w') : StampV S w' v g := by
  have h1 : StampV (fun b => S b ∧ b < w.heap.size) w v g := h.mono fun b hb hS => ⟨hS, hb⟩
  exact (h1.kept hb.size fun b hS => hb.block b hS.2).mono fun b _ hS => hS.1
theorem StampP.any {S : Nat → Prop} {w w' : World} {v : Value} {pg : Int → List Int} (h : StampP S w v pg) (hb : Below w.heap.size w w') : StampP S w' v pg := by
  have h1 : StampP (fun b => S b ∧ b < w.heap.size) w v pg := h.mono fun b hb hS => ⟨hS, hb⟩
  exact (h1.kept hb.size fun b hS => hb.block b hS.2).mono fun b _ hS => hS.1
theorem PageV.any {S : Nat → Prop} {w w' : World} {v : Value} {zs : List Int} (h : PageV S w v zs) (hb : Below w.heap.size w w') : PageV S w' v zs := by
  have h1 : PageV (fun b => S b ∧ b < w.heap.size) w v zs := h.mono fun b hb hS => ⟨hS, hb⟩
  exact (h1.kept hb.size fun b hS => hb.block b hS.2).mono fun b _ hS => hS.1
theorem Pages.any {S : Nat → Prop} {w w' : World} {f : Int → Option Value} {pg : Int → List Int} (h : Pages S w f pg) (hb : Below w.heap.size w w') : Pages S w' f pg :=
  ⟨fun p v hf => (h.some_ p v hf).any hb, h.none_⟩

theorem page_of (p : Int) (i : Nat) (h : i < 64) : (64 * p + i) / 64 = p ∧ ((64 * p + i) % 64).toNat = i := by omega
theorem pageAt_at (pg : Int → List Int) (p : Int) (i : Nat) (h : i < 64) : pageAt pg (64 * p + i) = (pg p).getD i 0 := by
  unfold pageAt; rw [(page_of p i h).1, (page_of p i h).2]
/-- Nowhere above, page by page. -/
theorem pages_leq {pg pg' : Int → List Int} (h : ∀ p, (pg p).length ≤ 64) (h' : ∀ p, (pg' p).length ≤ 64) : (∀ u, pageAt pg u ≤ pageAt pg' u) ↔ ∀ p, Vec.leq (pg p) (pg' p) = true := by
  constructor
  · intro ha p
    rw [Vec.leq_iff]
    intro i
    by_cases hi : i < 64
    · have := ha (64 * p + i); rwa [pageAt_at _ _ _ hi, pageAt_at _ _ _ hi] at this
    · rw [Vec.getD_past _ _ (by have := h p; omega), Vec.getD_past _ _ (by have := h' p; omega)]; exact Int.le_refl _
  · exact fun ha u => (Vec.leq_iff _ _).1 (ha _) _
theorem tickV_len64 (f : Int → Int) (xs : List Int) (t : Nat) (h : xs.length ≤ 64) (ht : t < 64) : (Vec.tickV f xs t).length ≤ 64 := by
  unfold Vec.tickV
  have h1 := Vec.trim_len (Vec.tickUpto f xs t (Vec.tickLen xs t))
  rw [Vec.tickUpto_len] at h1
  have h2 : Vec.tickLen xs t ≤ 64 := by unfold Vec.tickLen; split <;> omega
  omega
end Go.Proofs.YtbajfapfpcjenaaGreatDoor
namespace Go.Proofs.YtbajfapfpcjenaaGreatDoor
open Go.RowKit

set_option maxRecDepth 100000 in
set_option maxHeartbeats 400000 in
theorem pAt_any (a : Option Addr) (n cap : Nat) (zs : List Int) (t : Int) (w : World) (hn : zs.length = n) (hs : Sl w a zs) :
    Calls Tryz.prog 51 #[.slice a n cap, .int .i64 t] w fun e w' => e = .returned (.int .i64 (Vec.at_ zs t)) ∧ w' = w := by
  by_cases h0 : t < 0
  · go_enter Tryz.func51, Tryz.ntmps51
    go_wp2
    go_ret
    exact ⟨ret_int (Vec.at_neg _ _ h0).symm, rfl⟩
  · by_cases h1 : (n : Int) ≤ t
    · go_enter Tryz.func51, Tryz.ntmps51
      go_wp2
      go_ret
      exact ⟨ret_int (Vec.at_past _ _ (by omega)).symm, rfl⟩
    · obtain ⟨k, rfl⟩ := Int.eq_ofNat_of_zero_le (by omega : 0 ≤ t)
      obtain ⟨b, off, rfl, hlt, hc⟩ := hs k (by omega)
      go_enter Tryz.func51, Tryz.ntmps51
      go_wp2
      go_ret
      exact ⟨ret_int (by rw [Vec.at_nat]; simp), rfl⟩

theorem at_said : AtSaid := fun a n cap xs t w h => (pAt_any a n cap xs t w h.1 h.2.2.2.2.1).mono (by rintro e w' ⟨rfl, rfl⟩; exact ⟨rfl, Below.refl _ _⟩)

set_option maxRecDepth 100000 in
set_option maxHeartbeats 400000 in
/-- trimmed: the zeros at the end are left away; nil, if nothing is left. -/
theorem pTrim_any (a : Option Addr) (n cap : Nat) (xs : List Int) (w : World) (hn : xs.length = n) (hs : Sl w a xs) (hc : n ≤ cap) (hm : cap ≤ 9223372036854775807) :
    Calls Tryz.prog 87 #[.slice a n cap] w fun e w' => (∃ v, e = .returned v ∧ ((v = .slice none 0 0 ∧ Vec.trim xs = []) ∨ v = .slice a (Vec.trim xs).length cap)) ∧ w' = w := by
  go_enter Tryz.func87, Tryz.ntmps87
  go_wp2
  go_loop [3] (fun i => ∃ k : Nat, k ≤ n ∧ i = .int .i64 k ∧ ∀ j, k ≤ j → xs.getD j 0 = 0) (fun i => (intOf i).toNat)
  case atStart => exact ⟨n, Nat.le_refl _, rfl, fun j hj => Vec.getD_past _ _ (by omega)⟩
  case round =>
    obtain ⟨k, hk, rfl, hall⟩ := hrel
    have H := hide hall
    clear hall
    by_cases h0 : k = 0
    · subst h0
      have hres : Hid (Vec.trim xs = xs.take 0) := Vec.trim_eq xs 0 (Nat.zero_le _) H.out (.inl rfl)
      go_wp2
      go_ret
      exact ⟨⟨_, rfl, .inl ⟨rfl, by rw [hres.out]; rfl⟩⟩, rfl⟩
    · obtain ⟨q, rfl⟩ : ∃ q, k = q + 1 := ⟨k - 1, by omega⟩
      obtain ⟨b, off, rfl, hlt, hcell⟩ := hs q (by omega)
      clear h0
      by_cases h1 : xs.getD q 0 = 0
      · have H2 : Hid (∀ j, q ≤ j → xs.getD j 0 = 0) := fun j hj => by
          by_cases e : j = q
          · subst e; exact h1
          · exact H.out j (by omega)
        have hb : (xs[q]?.getD 0 == 0) = true := by rw [← List.getD_eq_getElem?_getD, h1]; rfl
        clear h1
        go_wp2
        go_round
        case rel => exact ⟨q, by omega, by go_num, H2.out⟩
        case measure => simp [intOf]
      · have hres : Hid (Vec.trim xs = xs.take (q + 1)) := Vec.trim_eq xs (q + 1) (by omega) H.out (.inr (by simpa using h1))
        have hb : (xs[q]?.getD 0 == 0) = false := by rw [← List.getD_eq_getElem?_getD]; exact beq_eq_false_iff_ne.2 h1
        have hz : (((q : Int) + 1) == 0) = false := beq_eq_false_iff_ne.2 (by omega)
        clear h1
        go_wp2
        go_ret
        exact ⟨⟨_, rfl, .inr (by rw [hres.out, List.length_take]; simp; omega)⟩, rfl⟩
end Go.Proofs.YtbajfapfpcjenaaGreatDoor
namespace Go.Proofs.YtbajfapfpcjenaaGreatDoor
open Go.RowKit Go.Proofs.Ord

theorem i64_and63 (t : Int) : bits .and .i64 t 63 = t % 64 := by
  have h1 : (BitVec.ofInt 64 t &&& BitVec.ofInt 64 63).toNat = (t % 64).toNat := by
    rw [BitVec.toNat_and]
    have e : (BitVec.ofInt 64 63).toNat = 2 ^ 6 - 1 := by decide
    rw [e, Nat.and_two_pow_sub_one_eq_mod, BitVec.toNat_ofInt]
    omega
  show IntKind.i64.wrap ((BitVec.ofInt 64 t &&& BitVec.ofInt 64 63).toNat : Int) = _
  rw [h1, IntKind.wrap_i64]
  omega

set_option maxHeartbeats 400000 in
/-- place: a thread's page, and where on it. -/
theorem place_any (t : Int) (w : World) (ht : In64 t) : Calls Tryz.prog 50 #[.int .i64 t] w fun e w' => e = .returned (.tuple #[.int .i64 (t / 64), .int .i64 (t % 64)]) ∧ w' = w := by
  have h63 := i64_and63 t
  obtain ⟨h1, h2⟩ := ht
  go_enter Tryz.func50, Tryz.ntmps50
  go_wp2
  go_ret2
  have hd : (t - t % 64).tdiv 64 = t / 64 := by
    rw [show t - t % 64 = 64 * (t / 64) from by omega]; exact Int.mul_tdiv_cancel_left _ (by decide)
  refine ⟨?_, rfl⟩
  rw [← hd]
  rfl
end Go.Proofs.YtbajfapfpcjenaaGreatDoor
namespace Go.Proofs.YtbajfapfpcjenaaGreatDoor
open Go.RowKit Go.Shelf

attribute [local go_sem] Oper.semAt_some

/-- The numbers of two vectors at k. -/
def two (xs ys : List Int) (k : Nat) : Int × Int := (Vec.at_ xs k, Vec.at_ ys k)
def upto2 (xs ys : List Int) (k : Nat) : List (Int × Int) := (List.range k).map (two xs ys)
theorem upto2_succ (xs ys : List Int) (k : Nat) : upto2 xs ys (k + 1) = upto2 xs ys k ++ [two xs ys k] := by simp [upto2, List.range_succ]
theorem upto2_length (xs ys : List Int) (k : Nat) : (upto2 xs ys k).length = k := by simp [upto2]

theorem abides_drewN {α : Type} {B : Nat} {J : List α → World → Prop} (h : AbidesFrom B J) {s : List α} {W : World} (q : Nat) (hs : J s W) : J s (W.drewN q) :=
  h s W _ none hs ⟨rfl, rfl, rfl, Nat.le_refl _, fun _ _ _ => rfl⟩ (fun r e => by cases e)

/-- What a round keeps: all that lay below n₀, and two boxes. -/
structure Keeps2 (n₀ Ba Bb : Nat) (W W' : World) : Prop where
  below : Below n₀ W W'
  sa : W'.heap[Ba]? = W.heap[Ba]?
  sb : W'.heap[Bb]? = W.heap[Bb]?
theorem Keeps2.refl (n₀ Ba Bb : Nat) (W : World) : Keeps2 n₀ Ba Bb W W := ⟨Below.refl _ _, rfl, rfl⟩
theorem Keeps2.trans {n₀ Ba Bb : Nat} {A B C : World} (h : Keeps2 n₀ Ba Bb A B) (k : Keeps2 n₀ Ba Bb B C) : Keeps2 n₀ Ba Bb A C := ⟨h.below.trans k.below, k.sa.trans h.sa, k.sb.trans h.sb⟩
theorem Keeps2.drewN {n₀ Ba Bb : Nat} {A B : World} (h : Keeps2 n₀ Ba Bb A B) (q : Nat) : Keeps2 n₀ Ba Bb A (B.drewN q) := ⟨h.below.trans ⟨rfl, rfl, rfl, Nat.le_refl _, fun _ _ => rfl⟩, h.sa, h.sb⟩
theorem keeps2_b {n₀ Ba Bb : Nat} {w : World} (hn : n₀ ≤ w.heap.size) (ha : Ba < w.heap.size) (hb : Bb < w.heap.size) (W : World) (l : Nat) (o o' : Obj) (hl : w.heap.size ≤ l) (h : W.heap[l]? = some o) (hc : o.isCells = false) (hw : o.isWalk = false) : Keeps2 n₀ Ba Bb W (W.putObj l o') :=
  ⟨belowK_b hn W l o o' hl h hc hw, World.putObj_heap_other (by omega), World.putObj_heap_other (by omega)⟩

/-- What a vector's numbers lie in is below n₀. -/
def Low (n₀ : Nat) (a : Option Addr) (zs : List Int) : Prop := ∀ b, a = some b → 0 < zs.length → b.block < n₀
theorem SlV.isLow {w : World} {a : Option Addr} {n cap : Nat} {zs : List Int} (h : SlV w a n cap zs) : Low w.heap.size a zs := fun b hb hz => by
  obtain ⟨b', off, ha, hlt, _⟩ := h.2.2.2.2.1 0 hz
  rw [ha] at hb; cases hb; exact hlt

theorem SlV.low {n₀ : Nat} {w w' : World} {a : Option Addr} {n cap : Nat} {zs : List Int} (h : SlV w a n cap zs) (hlow : Low n₀ a zs) (hb : Below n₀ w w') : SlV w' a n cap zs := by
  refine ⟨h.1, h.2.1, h.2.2.1, h.2.2.2.1, fun i hi => ?_, h.2.2.2.2.2⟩
  obtain ⟨b, off, ha, hlt, hc⟩ := h.2.2.2.2.1 i hi
  have hbl := hlow _ ha (by omega)
  exact ⟨b, off, ha, by have := hb.size; omega, (hb.cell (p := ⟨b, off + i, none⟩) hbl).trans hc⟩

set_option maxRecDepth 100000 in
set_option maxHeartbeats 2000000 in
theorem beside1_in (l Ba Bb n₀ : Nat) (a : Option Addr) (n cap : Nat) (xs : List Int) (a' : Option Addr) (n' cap' : Nat) (ys : List Int) (J Jx : List (Int × Int) → World → Prop)
    (W : World) (hJ : AbidesFrom W.heap.size J)
    (hY : ∀ pre x W1, J pre W1 → pre.length < max n n' → YieldAt Fence.wide (3 - 1) Tryz.prog l #[.int .i64 x.1, .int .i64 x.2] W1 fun e W' =>
      (e = .returned (.bool true) ∧ J (pre ++ [x]) W' ∧ Keeps2 n₀ Ba Bb W1 W') ∨ (e = .returned (.bool false) ∧ Jx (pre ++ [x]) W'))
    (hca : W.cell? ⟨Ba, 0, none⟩ = some (.slice a n cap)) (hcb : W.cell? ⟨Bb, 0, none⟩ = some (.slice a' n' cap'))
    (hs : SlV W a n cap xs) (hs' : SlV W a' n' cap' ys) (hlow : Low n₀ a xs) (hlow' : Low n₀ a' ys) (h0 : J [] W) :
    CallsIn Fence.wide 3 Tryz.prog 97 #[.func (.yield l) #[] #[], .pointer (some ⟨Ba, 0, none⟩), .pointer (some ⟨Bb, 0, none⟩)] W fun e W' => (∃ v, e = .returned v) ∧
      ((∃ zs, zs = upto2 xs ys (max n n') ∧ J zs W') ∨ (∃ pre, (∃ k, k ≤ max n n' ∧ pre = upto2 xs ys k) ∧ Jx pre W')) := by
  obtain ⟨m, hm, hmn⟩ : ∃ m, m = max n n' ∧ ((n < n' ∧ m = n') ∨ (¬ n < n' ∧ m = n)) := ⟨_, rfl, by omega⟩
  have hbig : m * 8 ≤ 140737488351232 := by have h1 := hs.2.2.2.2.2; have h2 := hs'.2.2.2.2.2; omega
  rw [← hm]
  simp only [← hm] at hY
  clear hm
  have hmix : Tryz.prog.follows Departure.mixedOrders = true := by kernel_rfl
  rcases hmn with ⟨h, rfl⟩ | ⟨h, rfl⟩
  all_goals
    refine callsIn_of_wp Tryz.func97 rfl trivial ?_ rfl
    simp only [Tryz.ntmps97, List.size_toArray, List.length_cons, List.length_nil, Nat.reduceAdd, Nat.reduceSub, Array.replicate_succ, Array.replicate_zero, List.push_toArray, List.append_toArray, List.nil_append, List.cons_append]
    gi_wp2
    gi_loopw [10] (fun i wr => ∃ k : Nat, k ≤ m ∧ i = .int .i64 k ∧ J (upto2 xs ys k) wr ∧ Keeps2 n₀ Ba Bb W wr) (fun i _ => m - (intOf i).toNat)
    case atStart => exact ⟨0, Nat.zero_le _, rfl, h0, Keeps2.refl _ _ _ _⟩
    case round =>
      obtain ⟨k, hk, rfl, hJs, hnx⟩ := hrel
      have hca' := (World.cell?_of_block (w := W) (a := ⟨Ba, 0, none⟩) hnx.sa).trans hca
      have hcb' := (World.cell?_of_block (w := W) (a := ⟨Bb, 0, none⟩) hnx.sb).trans hcb
      have hsr := hs.low hlow hnx.below
      have hsr' := hs'.low hlow' hnx.below
      have hl1 := hsr.1
      have hl2 := hsr'.1
      by_cases hlt : k < m
      · have hY2 : YieldAt Fence.wide (3 - 1) Tryz.prog l #[.int .i64 (two xs ys k).1, .int .i64 (two xs ys k).2] wr.drew fun e W' => ∃ b, e = .returned (.bool b) ∧ ((b = true ∧ J (upto2 xs ys k ++ [two xs ys k]) W' ∧ Keeps2 n₀ Ba Bb wr.drew W') ∨ (b = false ∧ Jx (upto2 xs ys k ++ [two xs ys k]) W')) :=
          (hY _ (two xs ys k) wr.drew (abides_drewN hJ 1 hJs) (by rw [upto2_length]; exact hlt)).mono fun e W' h => h.elim (fun h => ⟨true, h.1, .inl ⟨rfl, h.2⟩⟩) (fun h => ⟨false, h.1, .inr ⟨rfl, h.2⟩⟩)
        obtain ⟨fn, tmps, assign, body, hy, hR⟩ := hY2
        simp only [two] at hy
        gi_wp2_with fail
        gi_region_with_o (first | (refine hR.mono ?_; rintro e W3 ⟨b, rfl, hp⟩) | (refine ⟨trivial, ?_⟩; gi_at_call 51; refine (callsIn_wide.2 (pAt_any _ _ _ _ _ _ (by assumption) (by first | exact hsr.2.2.2.2.1 | exact hsr'.2.2.2.2.1))).mono ?_; rintro e w' ⟨rfl, rfl⟩))
        all_goals
          rcases hp with ⟨rfl, hJ3, hk3⟩ | ⟨rfl, hJx3⟩
          · gi_wp2
            go_roundw
            case rel => exact ⟨k + 1, by omega, by go_num, by rw [upto2_succ]; exact hJ3, hnx.trans ((Keeps2.refl _ _ _ _).drewN 1 |>.trans hk3)⟩
            case measure => simp [intOf]; omega
          · gi_wp2
            refine bodyPost_ret (results_none rfl _ _ _) rfl ?_
            exact ⟨⟨_, rfl⟩, .inr ⟨_, ⟨k + 1, by omega, (upto2_succ _ _ _).symm⟩, hJx3⟩⟩
      · obtain rfl : k = m := by omega
        gi_wp2
        go_end0
        exact ⟨⟨_, rfl⟩, .inl ⟨_, rfl, hJs⟩⟩

set_option maxHeartbeats 1000000 in
/-- beside: both vectors are boxed; the function value captures the boxes. -/
theorem beside_in (m : Nat) (a : Option Addr) (n cap : Nat) (a' : Option Addr) (n' cap' : Nat) (w : World) :
    CallsIn Fence.wide m Tryz.prog 77 #[.slice a n cap, .slice a' n' cap'] w fun e w' =>
      e = .returned (.func (.func 97) #[] #[.pointer (some ⟨w.heap.size, 0, none⟩), .pointer (some ⟨w.heap.size + 1, 0, none⟩)]) ∧ w' = (w.alloc (.cells #[.slice a n cap] 35)).alloc (.cells #[.slice a' n' cap'] 35) := by
  refine callsIn_of_wp Tryz.func77 rfl trivial ?_ rfl
  simp only [Tryz.ntmps77, List.size_toArray, List.length_cons, List.length_nil, Nat.reduceAdd, Nat.reduceSub, Array.replicate_succ, Array.replicate_zero, List.push_toArray, List.append_toArray, List.nil_append, List.cons_append]
  gi_wp2
  go_ret
  exact ⟨by simp, rfl⟩

theorem beside_stops (Ba Bb n₀ : Nat) (a : Option Addr) (n cap : Nat) (xs : List Int) (a' : Option Addr) (n' cap' : Nat) (ys : List Int) (w : World) (hn₀ : n₀ ≤ w.heap.size) (hBa : Boxed w Ba 35 (.slice a n cap)) (hBb : Boxed w Bb 35 (.slice a' n' cap'))
    (hs : SlV w a n cap xs) (hs' : SlV w a' n' cap' ys) (hlow : Low n₀ a xs) (hlow' : Low n₀ a' ys) :
    SeqStopsK Fence.wide 3 Tryz.prog 97 #[.pointer (some ⟨Ba, 0, none⟩), .pointer (some ⟨Bb, 0, none⟩)] (fun x : Int × Int => #[Value.int .i64 x.1, Value.int .i64 x.2]) (Keeps2 n₀ Ba Bb) (fun zs => zs = upto2 xs ys (max n n')) (fun pre => ∃ k, k ≤ max n n' ∧ pre = upto2 xs ys k) (max n n') w :=
  fun l J Jx W hW hJ _ hY h0 => beside1_in l Ba Bb n₀ a n cap xs a' n' cap' ys J Jx W hJ hY ((hW.cell (p := ⟨Ba, 0, none⟩) hBa.lt).trans hBa.cell) ((hW.cell (p := ⟨Bb, 0, none⟩) hBb.lt).trans hBb.cell) (hs.low hlow (hW.mono hn₀)) (hs'.low hlow' (hW.mono hn₀)) hlow hlow' h0
end Go.Proofs.YtbajfapfpcjenaaGreatDoor
namespace Go.Proofs.YtbajfapfpcjenaaGreatDoor
open Go.RowKit Go.Shelf

attribute [local go_sem] Oper.semAt_some

theorem two_mem {xs ys : List Int} {k : Nat} {p : Int × Int} (h : p ∈ upto2 xs ys k) : ∃ t, t < k ∧ p = (xs.getD t 0, ys.getD t 0) := by
  obtain ⟨t, ht, rfl⟩ := List.mem_map.1 h
  exact ⟨t, List.mem_range.1 ht, by simp [two, Vec.at_nat]⟩
theorem mem_two {xs ys : List Int} {k t : Nat} (h : t < k) : (xs.getD t 0, ys.getD t 0) ∈ upto2 xs ys k :=
  List.mem_map.2 ⟨t, List.mem_range.2 h, by simp [two, Vec.at_nat]⟩

def Every (Q : Int × Int → Prop) (l : List (Int × Int)) : Prop := ∀ p, p ∈ l → Q p
def Any (Q : Int × Int → Prop) (l : List (Int × Int)) : Prop := ∃ p, p ∈ l ∧ Q p
theorem Every.nil (Q : Int × Int → Prop) : Every Q [] := fun _ h => by cases h
theorem Every.snoc {Q : Int × Int → Prop} {l : List (Int × Int)} {x : Int × Int} (h : Every Q l) (hx : Q x) : Every Q (l ++ [x]) := fun p hp => by
  rcases List.mem_append.1 hp with h1 | h1
  · exact h p h1
  · obtain rfl : p = x := by simpa using h1
    exact hx
theorem Any.snoc {Q : Int × Int → Prop} (l : List (Int × Int)) {x : Int × Int} (hx : Q x) : Any Q (l ++ [x]) := ⟨x, by simp, hx⟩

set_option maxRecDepth 100000 in
set_option maxHeartbeats 2000000 in
theorem leq_said : LeqSaid := by
  intro a n cap xs a' n' cap' ys w hs hs'
  refine (callsIn_wide (n := 4)).1 ?_
  refine callsIn_of_wp_marks Tryz.func49 rfl trivial ?_ rfl
  simp only [Tryz.ntmps49, List.size_toArray, List.length_cons, List.length_nil, Nat.reduceAdd, Nat.reduceSub, Array.replicate_succ, Array.replicate_zero, List.push_toArray, List.append_toArray, List.nil_append, List.cons_append]
  gi_wp2_with (refine ⟨trivial, ?_⟩; gi_at_call 77; refine (beside_in _ _ _ _ _ _ _ _).mono ?_; rintro e w' ⟨rfl, rfl⟩)
  obtain ⟨W0, hW0⟩ : ∃ W0, ((w.alloc (.cells #[.bool false] 4)).alloc (.cells #[.slice a n cap] 35)).alloc (.cells #[.slice a' n' cap'] 35) = W0 := ⟨_, rfl⟩
  have hs0 : W0.heap.size = w.heap.size + 3 := by rw [← hW0]; simp
  have bR : Boxed W0 w.heap.size 4 (.bool false) := by rw [← hW0]; exact ((Boxed.new w 4 (.bool false)).alloc _).alloc _
  have bA : Boxed W0 (w.heap.size + 1) 35 (.slice a n cap) := by
    rw [← hW0]; have := Boxed.new (w.alloc (.cells #[.bool false] 4)) 35 (.slice a n cap); rw [World.size_alloc] at this; exact this.alloc _
  have bB : Boxed W0 (w.heap.size + 1 + 1) 35 (.slice a' n' cap') := by
    rw [← hW0]; have := Boxed.new ((w.alloc (.cells #[.bool false] 4)).alloc (.cells #[.slice a n cap] 35)) 35 (.slice a' n' cap'); rw [World.size_alloc, World.size_alloc] at this; exact this
  have hBW : Below w.heap.size w W0 := by rw [← hW0]; exact (((Below.refl _ w).alloc (Nat.le_refl _) _).alloc (by simp) _).alloc (by simp; omega) _
  rw [hW0]
  refine wpIn_rangeFunc_ownF rfl (by decide) (gf := 97) (lb := #[.pointer (some ⟨w.heap.size + 1, 0, none⟩), .pointer (some ⟨w.heap.size + 1 + 1, 0, none⟩)]) rfl trivial (enters_of Tryz.func97 (by kernel_rfl) rfl)
    (beside_stops (w.heap.size + 1) (w.heap.size + 1 + 1) w.heap.size a n cap xs a' n' cap' ys W0 (by omega) bA bB (hs.below hBW) (hs'.below hBW) hs.isLow hs'.isLow) Keeps2.trans (keeps2_b (by omega) (by omega) (by omega)) (Below.refl _ _) (fun _ => rfl)
    (fun pre W => (Every (fun p => p.1 ≤ p.2) pre ∧ Boxed W w.heap.size 4 (.bool false)) ∧ Below w.heap.size w W)
    (fun c pre W => (c = .ret ∧ Any (fun p => p.2 < p.1) pre ∧ Boxed W w.heap.size 4 (.bool false)) ∧ Below w.heap.size w W)
    (OwnFrom.and (Own.from (fun s A B row h hg hr => ⟨h.1, boxed_own w.heap.size 4 (fun _ => .bool false) s A B row h.2 hg hr⟩) _) (ownFrom_below (Nat.le_refl _) (by omega)))
    (fun c => OwnFrom.and (Own.from (fun s A B row h hg hr => ⟨h.1, h.2.1, boxed_own w.heap.size 4 (fun _ => .bool false) s A B row h.2.2 hg hr⟩) _) (ownFrom_below (Nat.le_refl _) (by omega)))
    ⟨⟨Every.nil _, bR⟩, hBW⟩
    (fun x => { tmps := #[.slice a n cap, .slice a' n' cap', undef, undef, .pointer (some ⟨w.heap.size, 0, none⟩), .int .i64 x.1, .int .i64 x.2, .slice a n cap, .slice a' n' cap', .func (.func 97) #[] #[.pointer (some ⟨w.heap.size + 1, 0, none⟩), .pointer (some ⟨w.heap.size + 1 + 1, 0, none⟩)], .int .i64 x.1, .int .i64 x.2, undef, undef, undef], defers := [] }) ?assign ?body ?done ?stop
  case assign =>
    intro l x W K hK
    gi_wp2
    exact hK
  case body =>
    rintro l pre x W ⟨⟨hp, hb⟩, hB⟩ _
    have hc := hb.cell
    have hf := hb.frozen
    by_cases hx : x.2 < x.1
    · have hx' : x.2 < x.1 := hx
      gi_wp2
      exact ⟨KeepsOthers.setCell _ _ _, ⟨rfl, Any.snoc _ hx, hb.set _⟩, hB.setCell (p := ⟨w.heap.size, 0, none⟩) (Nat.le_refl _) _⟩
    · have hx' : x.1 ≤ x.2 := by omega
      gi_wp2
      exact ⟨KeepsOthers.refl _, Keeps2.refl _ _ _ _, ⟨hp.snoc (by omega), hb⟩, hB⟩
  case done =>
    rintro D zs W hD rfl ⟨⟨hall, hb⟩, hB⟩ hK
    have hc := hb.cell
    have hf := hb.frozen
    have hres : Hid (Vec.leq xs ys = true) := Vec.leq_yes fun t ht => hall _ (mem_two (by rw [hs.1, hs'.1] at ht; exact ht))
    clear hall
    gi_wp2
    have hK' := (KeepsOthers.setCell W ⟨w.heap.size, 0, none⟩ (.bool true)).same D _ hK rfl
    refine ⟨by simp, .inl ⟨_, _, rfl, run_takeDeferred hK', ?_⟩⟩
    have hc5 := cell_kept (hb.set (.bool true)).cell (grownBy_putObj' _ D (.deferred none)) (fun r e => by cases e; exact ⟨_, hK', rfl⟩)
    refine ⟨.bool true, ?_, ret_bool hres.out.symm, (hB.setCell (p := ⟨w.heap.size, 0, none⟩) (Nat.le_refl _) _).trans (belowK_b (w := w) (Nat.le_refl _) _ D _ _ (by omega) hK' rfl rfl)⟩
    simp [results, Tryz.f49, go_sem, hc5]
  case stop =>
    rintro D c pre W hD ⟨k, hk, rfl⟩ ⟨⟨rfl, ⟨p, hp, hlt⟩, hb⟩, hB⟩ hK
    obtain ⟨t, ht, rfl⟩ := two_mem hp
    have hres : Hid (Vec.leq xs ys = false) := Vec.leq_no t hlt
    clear hp hlt
    gi_wp2
    refine ⟨by simp, .inl ⟨_, _, rfl, run_takeDeferred hK, ?_⟩⟩
    have hc5 := cell_kept hb.cell (grownBy_putObj' _ D (.deferred none)) (fun r e => by cases e; exact ⟨_, hK, rfl⟩)
    refine ⟨.bool false, ?_, ret_bool hres.out.symm, hB.trans (belowK_b (w := w) (Nat.le_refl _) W D _ _ (by omega) hK rfl rfl)⟩
    simp [results, Tryz.f49, go_sem, hc5]

end Go.Proofs.YtbajfapfpcjenaaGreatDoor
namespace Go.Proofs.YtbajfapfpcjenaaGreatDoor
open Go.RowKit Go.Shelf

attribute [local go_sem] Oper.semAt_some

theorem new_trim {B : Nat} {w : World} {v u : Value} {n : Nat} {zs : List Int} (h : w.ownsRow B 3 1 v n (zs.map (Value.int .i64)))
    (hu : (u = .slice none 0 0 ∧ Vec.trim zs = []) ∨ (∃ a cap, v = .slice a n cap ∧ u = .slice a (Vec.trim zs).length cap)) : New B w u (Vec.trim zs) := by
  obtain ⟨a, cap, rfl, hl, h2, h3, h3', h4⟩ := New.of_owns h
  rcases hu with ⟨rfl, e⟩ | ⟨a', cap', e, rfl⟩
  · rw [e]; exact ⟨none, 0, rfl, Nat.le_refl _, by omega, fun _ => rfl, fun i hi => absurd hi (by simp)⟩
  · cases e; exact New.trimmed hl h2 h3 h3' h4

def higher (l : List (Int × Int)) : List Int := l.map fun p => max p.1 p.2
theorem higher_len (l : List (Int × Int)) : (higher l).length = l.length := by simp [higher]
theorem higher_snoc (l : List (Int × Int)) (x : Int × Int) : higher (l ++ [x]) = higher l ++ [max x.1 x.2] := by simp [higher]
theorem higher_upto (xs ys : List Int) (k : Nat) : higher (upto2 xs ys k) = Vec.maxUpto xs ys k := by
  simp [higher, upto2, Vec.maxUpto, two, Vec.at_nat]

theorem Boxed.set_other {W : World} {B B' : Nat} {t : TypeId} {v : Value} (h : Boxed W B t v) (hne : B ≠ B') (u : Value) : Boxed (W.setCell ⟨B', 0, none⟩ u) B t v :=
  h.kept (grownBy_setCell' W B' u) (fun e => hne (by simpa using e))

set_option maxRecDepth 100000 in
set_option maxHeartbeats 1000000 in
theorem max_said : MaxSaid := by
  intro a n cap xs a' n' cap' ys w hs hs'
  obtain ⟨i0, hi, hz0, hz1, hz2⟩ := info_parts Tryz.info3
  have hbn : max n n' * 8 ≤ 140737488351232 := by have h1 := hs.2.2.2.2.2; have h2 := hs'.2.2.2.2.2; omega
  refine (callsIn_wide (n := 4)).1 ?_
  refine callsIn_of_wp_marks Tryz.func99 rfl trivial ?_ rfl
  simp only [Tryz.ntmps99, List.size_toArray, List.length_cons, List.length_nil, Nat.reduceAdd, Nat.reduceSub, Array.replicate_succ, Array.replicate_zero, List.push_toArray, List.append_toArray, List.nil_append, List.cons_append]
  gi_wp2_with (refine ⟨trivial, ?_⟩; gi_at_call 77; refine (beside_in _ _ _ _ _ _ _ _).mono ?_; rintro e w' ⟨rfl, rfl⟩)
  obtain ⟨W0, hW0⟩ : ∃ W0, ((w.alloc (.cells #[.slice none 0 0] 35)).alloc (.cells #[.slice a n cap] 35)).alloc (.cells #[.slice a' n' cap'] 35) = W0 := ⟨_, rfl⟩
  have hs0 : W0.heap.size = w.heap.size + 3 := by rw [← hW0]; simp
  have bR : Boxed W0 w.heap.size 35 (.slice none 0 0) := by rw [← hW0]; exact ((Boxed.new w 35 (.slice none 0 0)).alloc _).alloc _
  have bA : Boxed W0 (w.heap.size + 1) 35 (.slice a n cap) := by
    rw [← hW0]; have := Boxed.new (w.alloc (.cells #[.slice none 0 0] 35)) 35 (.slice a n cap); rw [World.size_alloc] at this; exact this.alloc _
  have bB : Boxed W0 (w.heap.size + 1 + 1) 35 (.slice a' n' cap') := by
    rw [← hW0]; have := Boxed.new ((w.alloc (.cells #[.slice none 0 0] 35)).alloc (.cells #[.slice a n cap] 35)) 35 (.slice a' n' cap'); rw [World.size_alloc, World.size_alloc] at this; exact this
  have hBW : Below w.heap.size w W0 := by rw [← hW0]; exact (((Below.refl _ w).alloc (Nat.le_refl _) _).alloc (by simp) _).alloc (by simp; omega) _
  rw [hW0]
  refine wpIn_rangeFunc_ownF rfl (by decide) (gf := 97) (lb := #[.pointer (some ⟨w.heap.size + 1, 0, none⟩), .pointer (some ⟨w.heap.size + 1 + 1, 0, none⟩)]) rfl trivial (enters_of Tryz.func97 (by kernel_rfl) rfl)
    (beside_stops (w.heap.size + 1) (w.heap.size + 1 + 1) w.heap.size a n cap xs a' n' cap' ys W0 (by omega) bA bB (hs.below hBW) (hs'.below hBW) hs.isLow hs'.isLow) Keeps2.trans (keeps2_b (by omega) (by omega) (by omega)) (Below.refl _ _) (fun _ => rfl)
    (fun pre W => ((∃ v, Boxed W w.heap.size 35 v ∧ W.ownsRow w.heap.size 3 1 v (higher pre).length ((higher pre).map (Value.int .i64)) ∧ True) ∧ Boxed W (w.heap.size + 1) 35 (.slice a n cap) ∧ Boxed W (w.heap.size + 1 + 1) 35 (.slice a' n' cap')) ∧ Below w.heap.size w W)
    (fun _ _ _ => False)
    (OwnFrom.and (Own.from (fun s A B row h hg hr => ⟨holdsRow_own w.heap.size w.heap.size 35 3 1 (fun pre => (higher pre).length) (fun pre => (higher pre).map (Value.int .i64)) (fun _ _ => True) s A B row h.1 hg hr,
      boxed_own (w.heap.size + 1) 35 (fun _ => .slice a n cap) s A B row h.2.1 hg hr, boxed_own (w.heap.size + 1 + 1) 35 (fun _ => .slice a' n' cap') s A B row h.2.2 hg hr⟩) _) (ownFrom_below (Nat.le_refl _) (by omega)))
    (fun _ _ _ _ _ hs _ _ => hs)
    ⟨⟨⟨_, bR, World.ownsRow_nil _ _ _ _, trivial⟩, bA, bB⟩, hBW⟩
    (fun x => { tmps := #[.slice a n cap, .slice a' n' cap', undef, undef, .slice none 0 0, .pointer (some ⟨w.heap.size, 0, none⟩), .int .i64 x.1, .int .i64 x.2, .slice a n cap, .slice a' n' cap', .func (.func 97) #[] #[.pointer (some ⟨w.heap.size + 1, 0, none⟩), .pointer (some ⟨w.heap.size + 1 + 1, 0, none⟩)], .int .i64 x.1, .int .i64 x.2, undef, undef, undef, undef, undef, undef, undef, undef], defers := [] }) ?assign ?body ?done ?stop
  case assign =>
    intro l x W K hK
    gi_wp2
    exact hK
  case body =>
    rintro l pre x W ⟨⟨⟨v, hv, hrow, -⟩, hA, hC⟩, hB⟩ hlt
    have hc := hv.cell
    have hpl := higher_len pre
    obtain ⟨k, hk⟩ : ∃ k, (higher pre).length = k := ⟨_, rfl⟩
    rw [hk] at hrow
    have hkb : (k + 1) * 8 ≤ 140737488355328 := by omega
    clear hpl
    obtain ⟨y, hy, hmx⟩ : ∃ y, Hid (y = max x.1 x.2) ∧ ((x.2 ≤ x.1 ∧ y = x.1) ∨ (x.1 < x.2 ∧ y = x.2)) := ⟨_, hide rfl, by omega⟩
    have hwide : ∀ (w1 : World) (v' : Value), w1.ownsRow w.heap.size 3 1 v' (k + 1) ((higher pre).map (Value.int .i64) ++ [.int .i64 y]) → w1.ownsRow w.heap.size 3 1 v' (higher (pre ++ [x])).length ((higher (pre ++ [x])).map (Value.int .i64)) := by
      intro w1 v' h; rw [higher_snoc, ← hy.out]; simpa [hk] using h
    have Hw := hide hwide
    clear hwide hy
    rcases hmx with ⟨hmx, rfl⟩ | ⟨hmx, rfl⟩
    all_goals
      gi_wp2_with (gi_at_builtin; refine wpListIn_append_own _ rfl _ _ 35 rfl w.heap.size 3 i0 (.int .i64 0) 1 8 Tryz.underlying35 hi hz0 hz1 hz2 rfl (by decide) _ _ _ rfl (hrow.alloc _) ⟨W.heap.size, 0, none⟩ 1 1 [.int .i64 _] rfl rfl (cell_one_new _ _ _) (by simp [Value.oneCell']) (by unfold maxLen; omega) (by omega) (by have := hB.size; simp; omega) ?_; intro v' w1 hown' hgrow _; obtain ⟨g', cap', rfl⟩ := ownsRow_succ hown'; obtain ⟨hv1, hv2, hr2, hk2, hb2⟩ := hv.appended (by decide) hrow hB.size (Nat.le_refl _) hown' hgrow; have hc1 := hv1.cell; have hf1 := hv1.frozen)
      have hg : (W.alloc (.cells #[.int .i64 _] 3)).grownBy w1 v.ownBlock := hgrow
      have hA2 := Boxed.set_other (B' := w.heap.size) ((hA.alloc _).kept hg (hA.not_row (by decide) hrow)) (by omega) (.slice (some ⟨g', 0, none⟩) (k + 1) cap')
      have hC2 := Boxed.set_other (B' := w.heap.size) ((hC.alloc _).kept hg (hC.not_row (by decide) hrow)) (by omega) (.slice (some ⟨g', 0, none⟩) (k + 1) cap')
      exact ⟨hk2, ⟨hb2, hA2.trans hA.symm, hC2.trans hC.symm⟩, ⟨⟨_, hv2, Hw.out _ _ hr2, trivial⟩, hA2, hC2⟩, hB.trans hb2⟩
  case done =>
    rintro D zs W hD rfl ⟨⟨⟨v, hv, hrow, -⟩, hA, hC⟩, hB⟩ hK
    have hc := hv.cell
    rw [higher_upto, Vec.maxUpto_len] at hrow
    have hV : Hid (Vec.maxV xs ys = Vec.trim (Vec.maxUpto xs ys (max n n'))) := by unfold Vec.maxV; rw [hs.1, hs'.1]; rfl
    have hlk : Hid ((Vec.maxUpto xs ys (max n n')).length = max n n') := Vec.maxUpto_len xs ys (max n n')
    generalize Vec.maxUpto xs ys (max n n') = us at hrow hV hlk
    generalize max n n' = m at hrow hlk
    have hrow2 := ownsRow_putObj hrow (.deferred none) hK rfl
    obtain ⟨a2, c2, rfl, hl2, h2, h3, h3', h4⟩ := New.of_owns hrow
    have hsl := sl_of_new hl2 h4
    have hfin : Hid (∀ u, ((u = Value.slice none 0 0 ∧ Vec.trim us = []) ∨ u = .slice a2 (Vec.trim us).length c2) → New w.heap.size (W.putObj D (.deferred none)) u (Vec.maxV xs ys)) := fun u hu => by
      rw [hV.out]; exact new_trim hrow2 (hu.imp id fun e => ⟨_, _, rfl, e⟩)
    have hT := callsIn_wide (n := 3) |>.2 (pTrim_any a2 m c2 us W hlk.out hsl h2 h3)
    clear hrow2 h4 h3' hrow hl2 hsl
    gi_wp2_with (refine ⟨trivial, ?_⟩; gi_at_call 87; refine hT.mono ?_; rintro e w' ⟨⟨u, rfl, hu⟩, rfl⟩)
    refine ⟨by simp, .inl ⟨_, _, rfl, run_takeDeferred hK, ?_⟩⟩
    exact ⟨_, results_tmp rfl _ _ _, u, rfl, hfin.out u hu, hB.trans (belowK_b (w := w) (Nat.le_refl _) _ D _ _ (by omega) hK rfl rfl)⟩
  case stop =>
    rintro D c pre W _ _ h _
    exact h.elim
end Go.Proofs.YtbajfapfpcjenaaGreatDoor
