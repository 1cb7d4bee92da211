import Derived.Test.YtiaedjnedoemoabDoorClkIter
namespace Go.Proofs.YtiaedjnedoemoabDoor
open Go.RowKit Go.Shelf

attribute [local go_sem] Oper.semAt_some

theorem two_mem {xs ys : List Int} {k : Nat} {p : Int × Int} (h : p ∈ upto2 xs ys k) : ∃ t, t < k ∧ p = (xs.getD t 0, ys.getD t 0) := by
  obtain ⟨t, ht, rfl⟩ := List.mem_map.1 h
  exact ⟨t, List.mem_range.1 ht, by simp [two, Vec.at_nat]⟩
theorem mem_two {xs ys : List Int} {k t : Nat} (h : t < k) : (xs.getD t 0, ys.getD t 0) ∈ upto2 xs ys k :=
  List.mem_map.2 ⟨t, List.mem_range.2 h, by simp [two, Vec.at_nat]⟩

def Every (Q : Int × Int → Prop) (l : List (Int × Int)) : Prop := ∀ p, p ∈ l → Q p
def Any (Q : Int × Int → Prop) (l : List (Int × Int)) : Prop := ∃ p, p ∈ l ∧ Q p
theorem Every.nil (Q : Int × Int → Prop) : Every Q [] := fun _ h => by cases h
theorem Every.snoc {Q : Int × Int → Prop} {l : List (Int × Int)} {x : Int × Int} (h : Every Q l) (hx : Q x) : Every Q (l ++ [x]) := fun p hp => by
  rcases List.mem_append.1 hp with h1 | h1
  · exact h p h1
  · obtain rfl : p = x := by simpa using h1
    exact hx
theorem Any.snoc {Q : Int × Int → Prop} (l : List (Int × Int)) {x : Int × Int} (hx : Q x) : Any Q (l ++ [x]) := ⟨x, by simp, hx⟩

set_option maxRecDepth 100000 in
set_option maxHeartbeats 2000000 in
theorem leq_said : LeqSaid := by
  intro a n cap xs a' n' cap' ys w hs hs'
  refine (callsIn_wide (n := 4)).1 ?_
  refine callsIn_of_wp_marks Tryd.func36 rfl trivial ?_ rfl
  simp only [Tryd.ntmps36, List.size_toArray, List.length_cons, List.length_nil, Nat.reduceAdd, Nat.reduceSub, Array.replicate_succ, Array.replicate_zero, List.push_toArray, List.append_toArray, List.nil_append, List.cons_append]
  gi_wp2_with (refine ⟨trivial, ?_⟩; gi_at_call 61; refine (beside_in _ _ _ _ _ _ _ _).mono ?_; rintro e w' ⟨rfl, rfl⟩)
  obtain ⟨W0, hW0⟩ : ∃ W0, ((w.alloc (.cells #[.bool false] 4)).alloc (.cells #[.slice a n cap] 47)).alloc (.cells #[.slice a' n' cap'] 47) = W0 := ⟨_, rfl⟩
  have hs0 : W0.heap.size = w.heap.size + 3 := by rw [← hW0]; simp
  have bR : Boxed W0 w.heap.size 4 (.bool false) := by rw [← hW0]; exact ((Boxed.new w 4 (.bool false)).alloc _).alloc _
  have bA : Boxed W0 (w.heap.size + 1) 47 (.slice a n cap) := by
    rw [← hW0]; have := Boxed.new (w.alloc (.cells #[.bool false] 4)) 47 (.slice a n cap); rw [World.size_alloc] at this; exact this.alloc _
  have bB : Boxed W0 (w.heap.size + 1 + 1) 47 (.slice a' n' cap') := by
    rw [← hW0]; have := Boxed.new ((w.alloc (.cells #[.bool false] 4)).alloc (.cells #[.slice a n cap] 47)) 47 (.slice a' n' cap'); rw [World.size_alloc, World.size_alloc] at this; exact this
  have hBW : Below w.heap.size w W0 := by rw [← hW0]; exact (((Below.refl _ w).alloc (Nat.le_refl _) _).alloc (by simp) _).alloc (by simp; omega) _
  rw [hW0]
  refine wpIn_rangeFunc_ownF rfl (by decide) (gf := 72) (lb := #[.pointer (some ⟨w.heap.size + 1, 0, none⟩), .pointer (some ⟨w.heap.size + 1 + 1, 0, none⟩)]) rfl trivial (enters_of Tryd.func72 (by kernel_rfl) rfl)
    (beside_stops (w.heap.size + 1) (w.heap.size + 1 + 1) w.heap.size a n cap xs a' n' cap' ys W0 (by omega) bA bB (hs.below hBW) (hs'.below hBW) hs.isLow hs'.isLow) Keeps2.trans (keeps2_b (by omega) (by omega) (by omega)) (Below.refl _ _) (fun _ => rfl)
    (fun pre W => (Every (fun p => p.1 ≤ p.2) pre ∧ Boxed W w.heap.size 4 (.bool false)) ∧ Below w.heap.size w W)
    (fun c pre W => (c = .ret ∧ Any (fun p => p.2 < p.1) pre ∧ Boxed W w.heap.size 4 (.bool false)) ∧ Below w.heap.size w W)
    (OwnFrom.and (Own.from (fun s A B row h hg hr => ⟨h.1, boxed_own w.heap.size 4 (fun _ => .bool false) s A B row h.2 hg hr⟩) _) (ownFrom_below (Nat.le_refl _) (by omega)))
    (fun c => OwnFrom.and (Own.from (fun s A B row h hg hr => ⟨h.1, h.2.1, boxed_own w.heap.size 4 (fun _ => .bool false) s A B row h.2.2 hg hr⟩) _) (ownFrom_below (Nat.le_refl _) (by omega)))
    ⟨⟨Every.nil _, bR⟩, hBW⟩
    (fun x => { tmps := #[.slice a n cap, .slice a' n' cap', undef, undef, .pointer (some ⟨w.heap.size, 0, none⟩), .int .i64 x.1, .int .i64 x.2, .slice a n cap, .slice a' n' cap', .func (.func 72) #[] #[.pointer (some ⟨w.heap.size + 1, 0, none⟩), .pointer (some ⟨w.heap.size + 1 + 1, 0, none⟩)], .int .i64 x.1, .int .i64 x.2, undef, undef, undef], defers := [] }) ?assign ?body ?done ?stop
  case assign =>
    intro l x W K hK
    gi_wp2
    exact hK
  case body =>
    rintro l pre x W ⟨⟨hp, hb⟩, hB⟩ _
    have hc := hb.cell
    have hf := hb.frozen
    by_cases hx : x.2 < x.1
    · have hx' : x.2 < x.1 := hx
      gi_wp2
      exact ⟨KeepsOthers.setCell _ _ _, ⟨rfl, Any.snoc _ hx, hb.set _⟩, hB.setCell (p := ⟨w.heap.size, 0, none⟩) (Nat.le_refl _) _⟩
    · have hx' : x.1 ≤ x.2 := by omega
      gi_wp2
      exact ⟨KeepsOthers.refl _, Keeps2.refl _ _ _ _, ⟨hp.snoc (by omega), hb⟩, hB⟩
  case done =>
    rintro D zs W hD rfl ⟨⟨hall, hb⟩, hB⟩ hK
    have hc := hb.cell
    have hf := hb.frozen
    have hres : Hid (Vec.leq xs ys = true) := Vec.leq_yes fun t ht => hall _ (mem_two (by rw [hs.1, hs'.1] at ht; exact ht))
    clear hall
    gi_wp2
    have hK' := (KeepsOthers.setCell W ⟨w.heap.size, 0, none⟩ (.bool true)).same D _ hK rfl
    refine ⟨by simp, .inl ⟨_, _, rfl, run_takeDeferred hK', ?_⟩⟩
    have hc5 := cell_kept (hb.set (.bool true)).cell (grownBy_putObj' _ D (.deferred none)) (fun r e => by cases e; exact ⟨_, hK', rfl⟩)
    refine ⟨.bool true, ?_, ret_bool hres.out.symm, (hB.setCell (p := ⟨w.heap.size, 0, none⟩) (Nat.le_refl _) _).trans (belowK_b (w := w) (Nat.le_refl _) _ D _ _ (by omega) hK' rfl rfl)⟩
    simp [results, Tryd.f36, go_sem, hc5]
  case stop =>
    rintro D c pre W hD ⟨k, hk, rfl⟩ ⟨⟨rfl, ⟨p, hp, hlt⟩, hb⟩, hB⟩ hK
    obtain ⟨t, ht, rfl⟩ := two_mem hp
    have hres : Hid (Vec.leq xs ys = false) := Vec.leq_no t hlt
    clear hp hlt
    gi_wp2
    refine ⟨by simp, .inl ⟨_, _, rfl, run_takeDeferred hK, ?_⟩⟩
    have hc5 := cell_kept hb.cell (grownBy_putObj' _ D (.deferred none)) (fun r e => by cases e; exact ⟨_, hK, rfl⟩)
    refine ⟨.bool false, ?_, ret_bool hres.out.symm, hB.trans (belowK_b (w := w) (Nat.le_refl _) W D _ _ (by omega) hK rfl rfl)⟩
    simp [results, Tryd.f36, go_sem, hc5]

end Go.Proofs.YtiaedjnedoemoabDoor
