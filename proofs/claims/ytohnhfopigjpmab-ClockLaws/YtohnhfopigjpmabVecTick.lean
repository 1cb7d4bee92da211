import Derived.Test.YtohnhfopigjpmabVecNew
namespace Go.Proofs.Ytohnhfopigjpmab
open Go.RowKit

/-- What is owned, cut where only zeros are left: new memory. -/
theorem New.trimmed {B : Nat} {w : World} {a : Option Addr} {n cap : Nat} {zs : List Int} (hn : n = zs.length) (h2 : n ≤ cap) (h3 : cap ≤ 9223372036854775807) (h3' : a = none → cap = 0)
    (h4 : ∀ i, i < n → ∃ b off, a = some ⟨b, off, none⟩ ∧ B ≤ b ∧ b < w.heap.size ∧ w.cell? ⟨b, off + i, none⟩ = some (.int .i64 (zs.getD i 0)) ∧ w.frozen? ⟨b, off + i, none⟩ = false) :
    New B w (.slice a (Vec.trim zs).length cap) (Vec.trim zs) := by
  have hl := Vec.trim_len zs
  refine ⟨a, cap, rfl, by omega, h3, h3', fun i hi => ?_⟩
  obtain ⟨b, off, e1, e2', e3, e4, e5⟩ := h4 i (by omega)
  exact ⟨b, off, e1, e2', e3, by rw [e4, Vec.trim_getD], e5⟩

theorem sl_of_new {B : Nat} {w : World} {a : Option Addr} {n : Nat} {zs : List Int} (hn : n = zs.length)
    (h4 : ∀ i, i < n → ∃ b off, a = some ⟨b, off, none⟩ ∧ B ≤ b ∧ b < w.heap.size ∧ w.cell? ⟨b, off + i, none⟩ = some (.int .i64 (zs.getD i 0)) ∧ w.frozen? ⟨b, off + i, none⟩ = false) : Sl w a zs :=
  fun i hi => by obtain ⟨b, off, e1, _, e3, e4, _⟩ := h4 i (by omega); exact ⟨b, off, e1, e3, e4⟩

set_option maxRecDepth 100000 in
set_option maxHeartbeats 400000 in
theorem rTick_any (a : Option Addr) (n cap : Nat) (xs : List Int) (t : Int) (w : World) (hn : xs.length = n) (hs : Sl w a xs) (hb : n * 8 ≤ 140737488351232) :
    Calls Try.prog 10 #[.slice a n cap, .int .i64 t] w fun e w' => ∃ v, e = .returned v ∧ New w.heap.size w' v (Vec.tickV wrap64 xs t) ∧ Below w.heap.size w w' := by
  obtain ⟨i0, hi, hz0, hz1, hz2⟩ := info_parts Try.info3
  obtain ⟨L, hL⟩ : ∃ L, L = Vec.tickLen xs t := ⟨_, rfl⟩
  have hL1 : L ≤ max n 1001 := by rw [hL]; unfold Vec.tickLen; split <;> omega
  have hL2 : ∀ k : Nat, k < L ↔ k < n ∨ (t ≤ 1000 ∧ (k : Int) ≤ t) := fun k => by rw [hL]; unfold Vec.tickLen; split <;> omega
  have HL := hide hL
  have HL2 := hide hL2
  clear hL hL2
  go_enter Try.func10, Try.ntmps10
  go_wp2
  go_loopw [5, 6] (fun v i wr => ∃ k : Nat, k ≤ L ∧ i = .int .i64 k ∧ wr.ownsRow w.heap.size 3 1 v k ((Vec.tickUpto wrap64 xs t k).map (Value.int .i64)) ∧ Below w.heap.size w wr) (fun _ i _ => L - (intOf i).toNat)
  case atStart => exact ⟨0, Nat.zero_le _, rfl, World.ownsRow_nil _ _ _ _, Below.refl _ _⟩
  case round =>
    obtain ⟨k, hk, rfl, hown, hbel⟩ := hrel
    have hsr := hs.below hbel
    have hsz := hbel.size
    by_cases h5 : k < L
    · obtain ⟨x, hx, hmx⟩ : ∃ x, Hid (x = if (k : Int) = t ∧ t ≤ 1000 then wrap64 (xs.getD k 0 + 1) else xs.getD k 0) ∧ ((((k : Int) == t) = true ∧ t ≤ 1000 ∧ x = wrap64 (Vec.at_ xs k + 1)) ∨ (((k : Int) == t) = true ∧ ¬ t ≤ 1000 ∧ x = Vec.at_ xs k) ∨ (((k : Int) == t) = false ∧ x = Vec.at_ xs k)) := by
        refine ⟨_, hide rfl, ?_⟩
        rw [Vec.at_nat]
        by_cases e : (k : Int) = t
        · by_cases e2 : t ≤ 1000
          · left; exact ⟨by simpa using e, e2, by rw [if_pos ⟨e, e2⟩]⟩
          · right; left; exact ⟨by simpa using e, e2, by rw [if_neg (by omega)]⟩
        · right; right; exact ⟨by simpa using e, by rw [if_neg (by omega)]⟩
      have R : Hid (∀ (v' : Value) (w1 : World), w1.ownsRow w.heap.size 3 1 v' (k + 1) ((Vec.tickUpto wrap64 xs t k).map (Value.int .i64) ++ [.int .i64 x]) → w1.ownsRow w.heap.size 3 1 v' (k + 1) ((Vec.tickUpto wrap64 xs t (k + 1)).map (Value.int .i64))) := by
        intro v' w1 h; rw [Vec.tickUpto_succ, ← hx.out]; simpa using h
      clear hx
      have h6 := (HL2.out k).1 h5
      have h7 : (k < n) ∨ (¬ k < n ∧ t ≤ 1000 ∧ (k : Int) ≤ t) := by omega
      clear h6
      rcases hmx with ⟨hq1, hq2, rfl⟩ | ⟨hq1, hq2, rfl⟩ | ⟨hq1, rfl⟩ <;> rcases h7 with h1 | ⟨h1, h1', h1''⟩
      all_goals try (exact absurd h1' hq2)
      all_goals
        go_wp2_with (first | (go_at_call 12; refine (rAt_any _ _ _ _ _ _ (by assumption) (by assumption)).mono ?_; rintro e w' ⟨rfl, rfl⟩) | (at_builtin; refine wpList_append_own _ rfl _ _ 22 rfl w.heap.size 3 i0 (.int .i64 0) 1 8 Try.underlying22 hi hz0 hz1 hz2 rfl (by decide) _ _ _ rfl (hown.alloc _) ⟨_, 0, none⟩ 1 1 [_] rfl rfl (one_new _ _ _) (by simp [Value.oneCell']) (by unfold maxLen; omega) (by omega) (by simp; omega) ?_; intro v' w1 hown' hgrow _))
        have hown2 := R.out _ _ hown'
        have hbel2 := (hbel.alloc hbel.size _).grown hgrow (by simp; omega) (fun q e => (hown.lt q e).1)
        clear hown' hgrow hown hbel hsr
        go_wp2
        go_roundw
        case rel => exact ⟨k + 1, by omega, by go_num, hown2, hbel2⟩
        case measure => simp [intOf]; omega
    · obtain ⟨a2, c2, rfl, hl2, h2, h3, h3', h4⟩ := New.of_owns hown
      have hk2 : k = L := by omega
      have hfin := New.trimmed hl2 h2 h3 h3' h4
      have hsl := sl_of_new hl2 h4
      have Hf : Hid (New w.heap.size wr (.slice a2 (Vec.trim (Vec.tickUpto wrap64 xs t k)).length c2) (Vec.tickV wrap64 xs t)) := by
        have e : Vec.tickV wrap64 xs t = Vec.trim (Vec.tickUpto wrap64 xs t k) := by unfold Vec.tickV; rw [hk2, HL.out]
        rw [e]; exact hfin
      have h6 := mt (HL2.out k).2 h5
      have h1 : ¬ k < n := by omega
      have hl3 := Vec.tickUpto_len wrap64 xs t k
      clear hk2 h5 h4 hown hl2 hfin h3'
      by_cases hq : t ≤ 1000
      · have h1' : ¬ (k : Int) ≤ t := by omega
        clear h6
        go_wp2_with (go_at_call 22; refine (rTrim_any _ _ _ _ _ hl3 hsl h2 h3).mono ?_; rintro e w' ⟨rfl, rfl⟩)
        go_ret
        exact ⟨_, rfl, Hf.out, hbel⟩
      · clear h6
        go_wp2_with (go_at_call 22; refine (rTrim_any _ _ _ _ _ hl3 hsl h2 h3).mono ?_; rintro e w' ⟨rfl, rfl⟩)
        go_ret
        exact ⟨_, rfl, Hf.out, hbel⟩

set_option maxRecDepth 100000 in
set_option maxHeartbeats 400000 in
theorem rSame_any (a : Option Addr) (n cap : Nat) (xs : List Int) (a' : Option Addr) (n' cap' : Nat) (ys : List Int) (w : World) (hn : xs.length = n) (hs : Sl w a xs) (hb : n * 8 ≤ 140737488351232) (hn' : ys.length = n') (hs' : Sl w a' ys) (hb' : n' * 8 ≤ 140737488351232) :
    Calls Try.prog 16 #[.slice a n cap, .slice a' n' cap'] w fun e w' => e = .returned (.bool (Vec.same xs ys)) ∧ w' = w := by
  cases h1 : Vec.leq xs ys
  all_goals
    have H1 := hide h1
    go_enter Try.func16, Try.ntmps16
    go_wp2_with (go_at_call 14; refine (rLeq_any _ _ _ _ _ _ _ _ _ (by assumption) (by assumption) (by assumption) (by assumption) (by assumption) (by assumption)).mono ?_; rintro e w' ⟨rfl, rfl⟩)
    go_ret
    exact ⟨ret_bool (by unfold Vec.same; rw [H1.out]; simp), rfl⟩
end Go.Proofs.Ytohnhfopigjpmab
