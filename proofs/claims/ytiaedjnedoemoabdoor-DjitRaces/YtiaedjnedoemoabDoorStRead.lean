import Derived.Test.YtiaedjnedoemoabDoorStPlace
import Derived.Test.YtiaedjnedoemoabDoorClkTick
namespace Go.Proofs.YtiaedjnedoemoabDoor
open Go.RowKit Go.Proofs.Ord

theorem stamp_key : KeyL ik 3 := int_key Tryd.underlying3
theorem zero_page (w : World) : (zeroValue 47).run Tryd.prog w = .ok (.slice none 0 0) w := by kernel_rfl

/-- A page of a stamp is looked up. -/
theorem StampP.look {S : Nat → Prop} {w : World} {v : Value} {pg : Int → List Int} (h : StampP S w v pg) (p : Int) : ∃ u, Sem.run Tryd.prog (Instr.lookup 53 v (.int .i64 p) false) w = .ok u w ∧ PageV S w u (pg p) := by
  rcases h with ⟨rfl, h0⟩ | ⟨b, f, n, rfl, hS, hM, hP⟩
  · exact ⟨_, look_nil stamp_key Tryd.underlying53 w (zero_page w) p, by rw [h0 p]; exact pageV_nil S w⟩
  · exact ⟨_, hM.look stamp_key Tryd.underlying53 (zero_page w) p, hP.at p⟩

set_option maxHeartbeats 400000 in
/-- Of: a thread's number. -/
theorem of_any {S : Nat → Prop} {v : Value} {g : Int → Int} (t : Int) (w : World) (ht : In64 t) (h : StampV S w v g) : Calls Tryd.prog 22 #[v, .int .i64 t] w fun e w' => e = .returned (.int .i64 (g t)) ∧ Below w.heap.size w w' := by
  obtain ⟨pg, hg, hp⟩ := h
  obtain ⟨u, hlk, a, cap, rfl, hsl, _, _⟩ := hp.look (t / 64)
  have hat : Hid (Vec.at_ (pg (t / 64)) (t % 64) = g t) := by
    rw [hg t]; unfold pageAt Vec.at_; rw [if_neg (by omega)]; rfl
  clear hp hg
  go_enter Tryd.func22, Tryd.ntmps22
  go_wp2_with (first | (go_at_call 37; refine (place_any _ _ ht).mono ?_; rintro e w' ⟨rfl, rfl⟩) | (go_at_call 38; refine (at_said _ _ _ _ _ _ hsl).mono ?_; rintro e w1 ⟨rfl, hb1⟩))
  go_ret
  exact ⟨ret_int hat.out, hb1⟩

set_option maxHeartbeats 400000 in
/-- Vector: the first page's numbers, in memory of its own. -/
theorem vector_any {S : Nat → Prop} {v : Value} {pg : Int → List Int} (w : World) (h : StampP S w v pg) : Calls Tryd.prog 30 #[v] w fun e w' => ∃ u, e = .returned u ∧ New w.heap.size w' u (Vec.maxV (pg 0) []) ∧ Below w.heap.size w w' := by
  obtain ⟨u, hlk, a, cap, rfl, hsl, _, _⟩ := h.look 0
  clear h
  go_enter Tryd.func30, Tryd.ntmps30
  go_wp2_with (go_at_call 56; refine (max_said _ _ _ _ _ _ _ _ _ hsl (slV_nil _)).mono ?_; rintro e w1 ⟨u, rfl, hn, hb1⟩)
  go_ret
  exact ⟨_, rfl, hn, hb1⟩

set_option maxRecDepth 100000 in
set_option maxHeartbeats 400000 in
/-- higher: the higher one of each; one of the two, where that is enough. -/
theorem higher_any {S : Nat → Prop} {u v : Value} {xs ys : List Int} (w : World) (hu : PageV S w u xs) (hv : PageV S w v ys) : Calls Tryd.prog 69 #[u, v] w fun e w' => ∃ r zs, e = .returned r ∧ (∀ i, zs.getD i 0 = max (xs.getD i 0) (ys.getD i 0)) ∧ PageV (fun b => S b ∨ (w.heap.size ≤ b ∧ b < w'.heap.size)) w' r zs ∧ Below w.heap.size w w' := by
  obtain ⟨a, cap, rfl, hs, h64, hS⟩ := id hu
  obtain ⟨a', cap', rfl, hs', h64', hS'⟩ := id hv
  cases h1 : Vec.leq ys xs with
  | true =>
    have HL := hide ((Vec.leq_iff _ _).1 h1)
    go_enter Tryd.func69, Tryd.ntmps69
    go_wp2_with fail
    refine (leq_said _ _ _ _ _ _ _ _ _ hs' hs).mono ?_
    rw [h1]; rintro e w1 ⟨rfl, hb1⟩
    go_wp2_with fail
    go_ret
    exact ⟨_, xs, rfl, fun i => by have := HL.out i; omega, (hu.any hb1).mono fun b _ h => .inl h, hb1⟩
  | false =>
    go_enter Tryd.func69, Tryd.ntmps69
    go_wp2_with fail
    refine (leq_said _ _ _ _ _ _ _ _ _ hs' hs).mono ?_
    rw [h1]; rintro e w1 ⟨rfl, hb1⟩
    go_wp2_with fail
    refine (leq_said _ _ _ _ _ _ _ _ _ (hs.below hb1) (hs'.below hb1)).mono ?_
    cases h2 : Vec.leq xs ys with
    | true =>
      have HL := hide ((Vec.leq_iff _ _).1 h2)
      rintro e w2 ⟨rfl, hb2⟩
      have hb := hb1.trans (hb2.mono hb1.size)
      go_wp2_with fail
      go_ret
      exact ⟨_, ys, rfl, fun i => by have := HL.out i; omega, (hv.any hb).mono fun b _ h => .inl h, hb⟩
    | false =>
      rintro e w2 ⟨rfl, hb2⟩
      have hb := hb1.trans (hb2.mono hb1.size)
      go_wp2_with fail
      refine (max_said _ _ _ _ _ _ _ _ _ (hs.below hb) (hs'.below hb)).mono ?_
      rintro e w3 ⟨r, rfl, hn, hb3⟩
      have hbb := hb.trans (hb3.mono hb.size)
      have hlen := Vec.maxV_len xs ys
      go_wp2_with fail
      go_ret
      exact ⟨_, _, rfl, Vec.maxV_getD xs ys, hn.page (by omega) fun b h1 h2 => .inr ⟨by have := hb.size; omega, h2⟩, hbb⟩
end Go.Proofs.YtiaedjnedoemoabDoor
