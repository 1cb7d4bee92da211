import Derived.Test.YtohnhfopigjpmabVecTrim
import Derived.Laws.AppendOwnNone
import Derived.Deep.QuietTactic
import Derived.BigQuiet
namespace Go.Proofs.Ytohnhfopigjpmab
open Go.RowKit

theorem Try.info3 : (Try.prog.info? 3).map (fun i => (i.zero, i.size, i.bytes)) = some (some (.int .i64 0), 1, 8) := by kernel_rfl

theorem Sl.below {w w' : World} {a : Option Addr} {zs : List Int} (h : Sl w a zs) (hb : Below w.heap.size w w') : Sl w' a zs := by
  intro i hi
  obtain ⟨b, off, ha, hlt, hc⟩ := h i hi
  exact ⟨b, off, ha, by have := hb.size; omega, (hb.cell (p := ⟨b, off + i, none⟩) hlt).trans hc⟩

/-- A slice in memory that is new (from block B on), which can be written. -/
def New (B : Nat) (w : World) (v : Value) (zs : List Int) : Prop :=
  ∃ a cap, v = .slice a zs.length cap ∧ zs.length ≤ cap ∧ cap ≤ 9223372036854775807 ∧ (a = none → cap = 0) ∧
    ∀ i, i < zs.length → ∃ b off, a = some ⟨b, off, none⟩ ∧ B ≤ b ∧ b < w.heap.size ∧ w.cell? ⟨b, off + i, none⟩ = some (.int .i64 (zs.getD i 0)) ∧ w.frozen? ⟨b, off + i, none⟩ = false

theorem map_getElem {zs : List Int} {i : Nat} (h : i < zs.length) : (zs.map (Value.int .i64))[i]? = some (.int .i64 (zs.getD i 0)) := by
  simp [h]

/-- What is owned, cut to a beginning. -/
theorem New.of_owns {B : Nat} {w : World} {v : Value} {n : Nat} {zs : List Int} (h : w.ownsRow B 3 1 v n (zs.map (Value.int .i64))) :
    ∃ a cap, v = .slice a n cap ∧ n = zs.length ∧ n ≤ cap ∧ cap ≤ 9223372036854775807 ∧ (a = none → cap = 0) ∧
      ∀ i, i < n → ∃ b off, a = some ⟨b, off, none⟩ ∧ B ≤ b ∧ b < w.heap.size ∧ w.cell? ⟨b, off + i, none⟩ = some (.int .i64 (zs.getD i 0)) ∧ w.frozen? ⟨b, off + i, none⟩ = false := by
  have hl : n = zs.length := by have := h.1; simp at this; omega
  rcases h.2 with ⟨rfl, h0⟩ | ⟨g, cap, cur, rfl, hB, hg, hc, hm, _, _⟩
  · subst h0
    exact ⟨none, 0, rfl, hl, Nat.le_refl _, by omega, fun _ => rfl, fun i hi => absurd hi (by omega)⟩
  · refine ⟨_, cap, rfl, hl, hc, hm, (fun e => by cases e), fun i hi => ⟨g, 0, rfl, hB, (Array.getElem?_eq_some_iff.1 hg).1, ?_, ?_⟩⟩
    · rw [Nat.zero_add, h.cellAt i (by omega)]; exact map_getElem (by omega)
    · rw [Nat.zero_add]; exact h.frozenAt i

theorem trim_pref (l : List Int) : ∀ i, i < (Vec.trim l).length → (Vec.trim l).getD i 0 = l.getD i 0 := fun i _ => Vec.trim_getD l i

theorem New.sl {B : Nat} {w : World} {a : Option Addr} {n cap : Nat} {zs : List Int} (h : New B w (.slice a n cap) zs) : zs.length = n ∧ n ≤ cap ∧ cap ≤ 9223372036854775807 ∧ Sl w a zs := by
  obtain ⟨a', cap', e, h1, h2, _, h3⟩ := h
  cases e
  exact ⟨rfl, h1, h2, fun i hi => by obtain ⟨b, off, e1, _, e3, e4, _⟩ := h3 i hi; exact ⟨b, off, e1, e3, e4⟩⟩

/-- A slice as a value that came in, or that a call made. -/
def SlV (w : World) (a : Option Addr) (n cap : Nat) (zs : List Int) : Prop := zs.length = n ∧ n ≤ cap ∧ cap ≤ 9223372036854775807 ∧ (a = none → cap = 0) ∧ Sl w a zs ∧ n * 8 ≤ 140737488351232
theorem New.slV {B : Nat} {w : World} {a : Option Addr} {n cap : Nat} {zs : List Int} (h : New B w (.slice a n cap) zs) (hb : zs.length * 8 ≤ 140737488351232) : SlV w a n cap zs := by
  have h' := h.sl
  obtain ⟨a', cap', e, h1, h2, h4, h3⟩ := h
  cases e
  exact ⟨rfl, h1, h2, h4, h'.2.2.2, hb⟩
theorem SlV.below {w w' : World} {a : Option Addr} {n cap : Nat} {zs : List Int} (h : SlV w a n cap zs) (hb : Below w.heap.size w w') : SlV w' a n cap zs :=
  ⟨h.1, h.2.1, h.2.2.1, h.2.2.2.1, h.2.2.2.2.1.below hb, h.2.2.2.2.2⟩

/-- A new slice stays what it is where what lies below B' is kept. -/
theorem New.below {B B' : Nat} {w w' : World} {v : Value} {zs : List Int} (h : New B w v zs) (hb : Below w.heap.size w w') (hB : B' ≤ B) : New B' w' v zs := by
  obtain ⟨a, cap, e, h1, h2, h2', h3⟩ := h
  refine ⟨a, cap, e, h1, h2, h2', fun i hi => ?_⟩
  obtain ⟨b, off, e1, e2, e3, e4, e5⟩ := h3 i hi
  exact ⟨b, off, e1, by omega, by have := hb.size; omega, (hb.cell (p := ⟨b, off + i, none⟩) e3).trans e4, (hb.frozen (p := ⟨b, off + i, none⟩) e3).trans e5⟩

theorem one_new (w : World) (x : Value) (t : Nat) : ∀ j u, [x][j]? = some u → (w.alloc (.cells #[x] t)).cell? (Addr.add ⟨w.heap.size, 0, none⟩ j) = some u := by
  intro j u hj
  match j, hj with
  | 0, hj => simp at hj; subst hj; simp [Addr.add]

set_option maxRecDepth 100000 in
set_option maxHeartbeats 400000 in
theorem rMax_any (a : Option Addr) (n cap : Nat) (xs : List Int) (a' : Option Addr) (n' cap' : Nat) (ys : List Int) (w : World) (hn : xs.length = n) (hs : Sl w a xs) (hb : n * 8 ≤ 140737488351232) (hn' : ys.length = n') (hs' : Sl w a' ys) (hb' : n' * 8 ≤ 140737488351232) :
    Calls Try.prog 9 #[.slice a n cap, .slice a' n' cap'] w fun e w' => ∃ v, e = .returned v ∧ New w.heap.size w' v (Vec.maxV xs ys) ∧ Below w.heap.size w w' := by
  obtain ⟨i0, hi, hz0, hz1, hz2⟩ := info_parts Try.info3
  go_enter Try.func9, Try.ntmps9
  go_wp2
  go_loopw [5, 6] (fun v i wr => ∃ k : Nat, k ≤ max n n' ∧ i = .int .i64 k ∧ wr.ownsRow w.heap.size 3 1 v k ((Vec.maxUpto xs ys k).map (Value.int .i64)) ∧ Below w.heap.size w wr) (fun _ i _ => max n n' - (intOf i).toNat)
  case atStart => exact ⟨0, Nat.zero_le _, rfl, World.ownsRow_nil _ _ _ _, Below.refl _ _⟩
  case round =>
    obtain ⟨k, hk, rfl, hown, hbel⟩ := hrel
    have hsr := hs.below hbel
    have hsr' := hs'.below hbel
    have hsz := hbel.size
    by_cases h5 : k < max n n'
    · obtain ⟨x, hx, hmx⟩ : ∃ x, Hid (x = max (xs.getD k 0) (ys.getD k 0)) ∧ ((Vec.at_ ys k ≤ Vec.at_ xs k ∧ x = Vec.at_ xs k) ∨ (Vec.at_ xs k < Vec.at_ ys k ∧ x = Vec.at_ ys k)) :=
        ⟨_, hide rfl, by rw [Vec.at_nat, Vec.at_nat]; omega⟩
      have R : Hid (∀ (v' : Value) (w1 : World), w1.ownsRow w.heap.size 3 1 v' (k + 1) ((Vec.maxUpto xs ys k).map (Value.int .i64) ++ [.int .i64 x]) → w1.ownsRow w.heap.size 3 1 v' (k + 1) ((Vec.maxUpto xs ys (k + 1)).map (Value.int .i64))) := by
        intro v' w1 h; rw [Vec.maxUpto_succ, ← hx.out]; simpa using h
      clear hx
      rcases hmx with ⟨hmx, rfl⟩ | ⟨hmx, rfl⟩ <;> by_cases h1 : k < n
      all_goals
        go_wp2_with (first | (go_at_call 12; refine (rAt_any _ _ _ _ _ _ (by assumption) (by assumption)).mono ?_; rintro e w' ⟨rfl, rfl⟩) | (at_builtin; refine wpList_append_own _ rfl _ _ 22 rfl w.heap.size 3 i0 (.int .i64 0) 1 8 Try.underlying22 hi hz0 hz1 hz2 rfl (by decide) _ _ _ rfl (hown.alloc _) ⟨_, 0, none⟩ 1 1 [_] rfl rfl (one_new _ _ _) (by simp [Value.oneCell']) (by unfold maxLen; omega) (by omega) (by simp; omega) ?_; intro v' w1 hown' hgrow _))
        have hown2 := R.out _ _ hown'
        have hbel2 := (hbel.alloc hbel.size _).grown hgrow (by simp; omega) (fun q e => (hown.lt q e).1)
        clear hown' hgrow hown hbel hsr hsr'
        go_wp2
        go_roundw
        case rel => exact ⟨k + 1, by omega, by go_num, hown2, hbel2⟩
        case measure => simp [intOf]; omega
    · obtain ⟨a2, c2, rfl, hl2, h2, h3, h3', h4⟩ := New.of_owns hown
      have hk2 : k = max n n' := by omega
      have e2 : Hid (Vec.trim (Vec.maxUpto xs ys k) = Vec.maxV xs ys) := by unfold Vec.maxV; rw [hk2, hn, hn']; rfl
      have hsl : Sl wr a2 (Vec.maxUpto xs ys k) := fun i hi => by obtain ⟨b, off, e1, _, e3, e4, _⟩ := h4 i (by omega); exact ⟨b, off, e1, e3, e4⟩
      have hfin : Hid (New w.heap.size wr (.slice a2 (Vec.trim (Vec.maxUpto xs ys k)).length c2) (Vec.maxV xs ys)) := by
        refine ⟨a2, c2, by rw [e2.out], ?_, h3, h3', fun i hi => ?_⟩
        · have := Vec.trim_len (Vec.maxUpto xs ys k); rw [e2.out] at this; omega
        · have := Vec.trim_len (Vec.maxUpto xs ys k); rw [e2.out] at this
          obtain ⟨b, off, e1, e2', e3, e4, e5⟩ := h4 i (by omega)
          refine ⟨b, off, e1, e2', e3, ?_, e5⟩
          rw [e4, ← e2.out, Vec.trim_getD]
      have h1 : ¬ k < n := by omega
      have h1' : ¬ k < n' := by omega
      have hl3 := Vec.maxUpto_len xs ys k
      clear hk2 h5 h4 e2 hown hl2 h3'
      go_wp2_with (go_at_call 22; refine (rTrim_any _ _ _ _ _ hl3 hsl h2 h3).mono ?_; rintro e w' ⟨rfl, rfl⟩)
      go_ret
      exact ⟨_, rfl, hfin.out, hbel⟩
end Go.Proofs.Ytohnhfopigjpmab
