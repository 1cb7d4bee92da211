import Derived.Test.YtiaedjnedoemoabDoorClkLeq
import Derived.Maps.AppendAt
namespace Go.Proofs.YtiaedjnedoemoabDoor
open Go.RowKit Go.Shelf

attribute [local go_sem] Oper.semAt_some

theorem new_trim {B : Nat} {w : World} {v u : Value} {n : Nat} {zs : List Int} (h : w.ownsRow B 3 1 v n (zs.map (Value.int .i64)))
    (hu : (u = .slice none 0 0 ∧ Vec.trim zs = []) ∨ (∃ a cap, v = .slice a n cap ∧ u = .slice a (Vec.trim zs).length cap)) : New B w u (Vec.trim zs) := by
  obtain ⟨a, cap, rfl, hl, h2, h3, h3', h4⟩ := New.of_owns h
  rcases hu with ⟨rfl, e⟩ | ⟨a', cap', e, rfl⟩
  · rw [e]; exact ⟨none, 0, rfl, Nat.le_refl _, by omega, fun _ => rfl, fun i hi => absurd hi (by simp)⟩
  · cases e; exact New.trimmed hl h2 h3 h3' h4

def higher (l : List (Int × Int)) : List Int := l.map fun p => max p.1 p.2
theorem higher_len (l : List (Int × Int)) : (higher l).length = l.length := by simp [higher]
theorem higher_snoc (l : List (Int × Int)) (x : Int × Int) : higher (l ++ [x]) = higher l ++ [max x.1 x.2] := by simp [higher]
theorem higher_upto (xs ys : List Int) (k : Nat) : higher (upto2 xs ys k) = Vec.maxUpto xs ys k := by
  simp [higher, upto2, Vec.maxUpto, two, Vec.at_nat]

theorem Boxed.set_other {W : World} {B B' : Nat} {t : TypeId} {v : Value} (h : Boxed W B t v) (hne : B ≠ B') (u : Value) : Boxed (W.setCell ⟨B', 0, none⟩ u) B t v :=
  h.kept (grownBy_setCell' W B' u) (fun e => hne (by simpa using e))

set_option maxRecDepth 100000 in
set_option maxHeartbeats 1000000 in
theorem max_said : MaxSaid := by
  intro a n cap xs a' n' cap' ys w hs hs'
  obtain ⟨i0, hi, hz0, hz1, hz2⟩ := info_parts Tryd.info3
  have hbn : max n n' * 8 ≤ 140737488351232 := by have h1 := hs.2.2.2.2.2; have h2 := hs'.2.2.2.2.2; omega
  refine (callsIn_wide (n := 4)).1 ?_
  refine callsIn_of_wp_marks Tryd.func56 rfl trivial ?_ rfl
  simp only [Tryd.ntmps56, List.size_toArray, List.length_cons, List.length_nil, Nat.reduceAdd, Nat.reduceSub, Array.replicate_succ, Array.replicate_zero, List.push_toArray, List.append_toArray, List.nil_append, List.cons_append]
  gi_wp2_with (refine ⟨trivial, ?_⟩; gi_at_call 61; refine (beside_in _ _ _ _ _ _ _ _).mono ?_; rintro e w' ⟨rfl, rfl⟩)
  obtain ⟨W0, hW0⟩ : ∃ W0, ((w.alloc (.cells #[.slice none 0 0] 47)).alloc (.cells #[.slice a n cap] 47)).alloc (.cells #[.slice a' n' cap'] 47) = W0 := ⟨_, rfl⟩
  have hs0 : W0.heap.size = w.heap.size + 3 := by rw [← hW0]; simp
  have bR : Boxed W0 w.heap.size 47 (.slice none 0 0) := by rw [← hW0]; exact ((Boxed.new w 47 (.slice none 0 0)).alloc _).alloc _
  have bA : Boxed W0 (w.heap.size + 1) 47 (.slice a n cap) := by
    rw [← hW0]; have := Boxed.new (w.alloc (.cells #[.slice none 0 0] 47)) 47 (.slice a n cap); rw [World.size_alloc] at this; exact this.alloc _
  have bB : Boxed W0 (w.heap.size + 1 + 1) 47 (.slice a' n' cap') := by
    rw [← hW0]; have := Boxed.new ((w.alloc (.cells #[.slice none 0 0] 47)).alloc (.cells #[.slice a n cap] 47)) 47 (.slice a' n' cap'); rw [World.size_alloc, World.size_alloc] at this; exact this
  have hBW : Below w.heap.size w W0 := by rw [← hW0]; exact (((Below.refl _ w).alloc (Nat.le_refl _) _).alloc (by simp) _).alloc (by simp; omega) _
  rw [hW0]
  refine wpIn_rangeFunc_ownF rfl (by decide) (gf := 72) (lb := #[.pointer (some ⟨w.heap.size + 1, 0, none⟩), .pointer (some ⟨w.heap.size + 1 + 1, 0, none⟩)]) rfl trivial (enters_of Tryd.func72 (by kernel_rfl) rfl)
    (beside_stops (w.heap.size + 1) (w.heap.size + 1 + 1) w.heap.size a n cap xs a' n' cap' ys W0 (by omega) bA bB (hs.below hBW) (hs'.below hBW) hs.isLow hs'.isLow) Keeps2.trans (keeps2_b (by omega) (by omega) (by omega)) (Below.refl _ _) (fun _ => rfl)
    (fun pre W => ((∃ v, Boxed W w.heap.size 47 v ∧ W.ownsRow w.heap.size 3 1 v (higher pre).length ((higher pre).map (Value.int .i64)) ∧ True) ∧ Boxed W (w.heap.size + 1) 47 (.slice a n cap) ∧ Boxed W (w.heap.size + 1 + 1) 47 (.slice a' n' cap')) ∧ Below w.heap.size w W)
    (fun _ _ _ => False)
    (OwnFrom.and (Own.from (fun s A B row h hg hr => ⟨holdsRow_own w.heap.size w.heap.size 47 3 1 (fun pre => (higher pre).length) (fun pre => (higher pre).map (Value.int .i64)) (fun _ _ => True) s A B row h.1 hg hr,
      boxed_own (w.heap.size + 1) 47 (fun _ => .slice a n cap) s A B row h.2.1 hg hr, boxed_own (w.heap.size + 1 + 1) 47 (fun _ => .slice a' n' cap') s A B row h.2.2 hg hr⟩) _) (ownFrom_below (Nat.le_refl _) (by omega)))
    (fun _ _ _ _ _ hs _ _ => hs)
    ⟨⟨⟨_, bR, World.ownsRow_nil _ _ _ _, trivial⟩, bA, bB⟩, hBW⟩
    (fun x => { tmps := #[.slice a n cap, .slice a' n' cap', undef, undef, .slice none 0 0, .pointer (some ⟨w.heap.size, 0, none⟩), .int .i64 x.1, .int .i64 x.2, .slice a n cap, .slice a' n' cap', .func (.func 72) #[] #[.pointer (some ⟨w.heap.size + 1, 0, none⟩), .pointer (some ⟨w.heap.size + 1 + 1, 0, none⟩)], .int .i64 x.1, .int .i64 x.2, undef, undef, undef, undef, undef, undef, undef, undef], defers := [] }) ?assign ?body ?done ?stop
  case assign =>
    intro l x W K hK
    gi_wp2
    exact hK
  case body =>
    rintro l pre x W ⟨⟨⟨v, hv, hrow, -⟩, hA, hC⟩, hB⟩ hlt
    have hc := hv.cell
    have hpl := higher_len pre
    obtain ⟨k, hk⟩ : ∃ k, (higher pre).length = k := ⟨_, rfl⟩
    rw [hk] at hrow
    have hkb : (k + 1) * 8 ≤ 140737488355328 := by omega
    clear hpl
    obtain ⟨y, hy, hmx⟩ : ∃ y, Hid (y = max x.1 x.2) ∧ ((x.2 ≤ x.1 ∧ y = x.1) ∨ (x.1 < x.2 ∧ y = x.2)) := ⟨_, hide rfl, by omega⟩
    have hwide : ∀ (w1 : World) (v' : Value), w1.ownsRow w.heap.size 3 1 v' (k + 1) ((higher pre).map (Value.int .i64) ++ [.int .i64 y]) → w1.ownsRow w.heap.size 3 1 v' (higher (pre ++ [x])).length ((higher (pre ++ [x])).map (Value.int .i64)) := by
      intro w1 v' h; rw [higher_snoc, ← hy.out]; simpa [hk] using h
    have Hw := hide hwide
    clear hwide hy
    rcases hmx with ⟨hmx, rfl⟩ | ⟨hmx, rfl⟩
    all_goals
      gi_wp2_with (gi_at_builtin; refine wpListIn_append_own _ rfl _ _ 47 rfl w.heap.size 3 i0 (.int .i64 0) 1 8 Tryd.underlying47 hi hz0 hz1 hz2 rfl (by decide) _ _ _ rfl (hrow.alloc _) ⟨W.heap.size, 0, none⟩ 1 1 [.int .i64 _] rfl rfl (cell_one_new _ _ _) (by simp [Value.oneCell']) (by unfold maxLen; omega) (by omega) (by have := hB.size; simp; omega) ?_; intro v' w1 hown' hgrow _; obtain ⟨g', cap', rfl⟩ := ownsRow_succ hown'; obtain ⟨hv1, hv2, hr2, hk2, hb2⟩ := hv.appended (by decide) hrow hB.size (Nat.le_refl _) hown' hgrow; have hc1 := hv1.cell; have hf1 := hv1.frozen)
      have hg : (W.alloc (.cells #[.int .i64 _] 3)).grownBy w1 v.ownBlock := hgrow
      have hA2 := Boxed.set_other (B' := w.heap.size) ((hA.alloc _).kept hg (hA.not_row (by decide) hrow)) (by omega) (.slice (some ⟨g', 0, none⟩) (k + 1) cap')
      have hC2 := Boxed.set_other (B' := w.heap.size) ((hC.alloc _).kept hg (hC.not_row (by decide) hrow)) (by omega) (.slice (some ⟨g', 0, none⟩) (k + 1) cap')
      exact ⟨hk2, ⟨hb2, hA2.trans hA.symm, hC2.trans hC.symm⟩, ⟨⟨_, hv2, Hw.out _ _ hr2, trivial⟩, hA2, hC2⟩, hB.trans hb2⟩
  case done =>
    rintro D zs W hD rfl ⟨⟨⟨v, hv, hrow, -⟩, hA, hC⟩, hB⟩ hK
    have hc := hv.cell
    rw [higher_upto, Vec.maxUpto_len] at hrow
    have hV : Hid (Vec.maxV xs ys = Vec.trim (Vec.maxUpto xs ys (max n n'))) := by unfold Vec.maxV; rw [hs.1, hs'.1]; rfl
    have hlk : Hid ((Vec.maxUpto xs ys (max n n')).length = max n n') := Vec.maxUpto_len xs ys (max n n')
    generalize Vec.maxUpto xs ys (max n n') = us at hrow hV hlk
    generalize max n n' = m at hrow hlk
    have hrow2 := ownsRow_putObj hrow (.deferred none) hK rfl
    obtain ⟨a2, c2, rfl, hl2, h2, h3, h3', h4⟩ := New.of_owns hrow
    have hsl := sl_of_new hl2 h4
    have hfin : Hid (∀ u, ((u = Value.slice none 0 0 ∧ Vec.trim us = []) ∨ u = .slice a2 (Vec.trim us).length c2) → New w.heap.size (W.putObj D (.deferred none)) u (Vec.maxV xs ys)) := fun u hu => by
      rw [hV.out]; exact new_trim hrow2 (hu.imp id fun e => ⟨_, _, rfl, e⟩)
    have hT := callsIn_wide (n := 3) |>.2 (pTrim_any a2 m c2 us W hlk.out hsl h2 h3)
    clear hrow2 h4 h3' hrow hl2 hsl
    gi_wp2_with (refine ⟨trivial, ?_⟩; gi_at_call 67; refine hT.mono ?_; rintro e w' ⟨⟨u, rfl, hu⟩, rfl⟩)
    refine ⟨by simp, .inl ⟨_, _, rfl, run_takeDeferred hK, ?_⟩⟩
    exact ⟨_, results_tmp rfl _ _ _, u, rfl, hfin.out u hu, hB.trans (belowK_b (w := w) (Nat.le_refl _) _ D _ _ (by omega) hK rfl rfl)⟩
  case stop =>
    rintro D c pre W _ _ h _
    exact h.elim
end Go.Proofs.YtiaedjnedoemoabDoor
