import Derived.Test.YtiaedjnedoemoabDoorStRead
namespace Go.Proofs.YtiaedjnedoemoabDoor
open Go.RowKit Go.Proofs.Ord

set_option maxRecDepth 100000 in
set_option maxHeartbeats 1000000 in
/-- Leq: nowhere above. -/
theorem leq_any {S S' : Nat → Prop} {v v' : Value} {g g' : Int → Int} (w : World) (h : StampV S w v g) (h' : StampV S' w v' g') (hn : ∀ u, 0 ≤ g' u) : Calls Tryd.prog 20 #[v, v'] w fun e w' => ∃ c, e = .returned (.bool c) ∧ (c = true ↔ ∀ u, g u ≤ g' u) ∧ Below w.heap.size w w' := by
  obtain ⟨pg, hg, hp⟩ := h
  obtain ⟨pg', hg', hp'⟩ := h'
  have h64 := hide hp.len64
  have h64' := hide hp'.len64
  have hiff : Hid ((∀ u, g u ≤ g' u) ↔ ∀ p, Vec.leq (pg p) (pg' p) = true) := by
    have := pages_leq h64.out h64'.out
    constructor
    · intro h; exact this.1 fun u => by rw [← hg u, ← hg' u]; exact h u
    · intro h u; rw [hg u, hg' u]; exact this.2 h u
  have hn' : Hid (∀ p i, 0 ≤ (pg' p).getD i 0) := fun p i => by
    by_cases hi : i < 64
    · have := hn (64 * p + i); rw [hg', pageAt_at _ _ _ hi] at this; exact this
    · rw [Vec.getD_past _ _ (by have := h64'.out p; omega)]; exact Int.le_refl _
  clear hn hg hg'
  rcases hp with ⟨rfl, h0⟩ | ⟨b, f, n, rfl, hS, hM, hP⟩
  · have hall : Hid (∀ u, g u ≤ g' u) := by
      refine hiff.out.2 fun p => ?_
      rw [h0 p, Vec.leq_iff]
      intro i; simpa using hn'.out p i
    have hr := run_range_nilMap (P := Tryd.prog) w 53 _ _ Tryd.underlying53
    clear h0 hn' hiff hp' h64 h64'
    go_enter Tryd.func20, Tryd.ntmps20
    go_wp2_with fail
    have hx := run_next_nilMap (P := Tryd.prog) w 0 0 0 #[]
    refine wp_loop_rounds 1 ?_
    rw [rounds_succ]
    go_wp2
    go_ret
    exact ⟨true, rfl, by simp [hall.out], (Below.refl _ _).alloc (Nat.le_refl _) _⟩
  · obtain ⟨W0, hr, hit, hb0, hz0⟩ := hM.range stamp_key Tryd.underlying53
    have hz := hb0.size
    go_enter Tryd.func20, Tryd.ntmps20
    clear hM
    go_wp2_with fail
    go_loopw [5, 6, 9, 10, 11, 12, 13, 14, 15, 16, 17, 18, 19] (fun _ _ _ _ _ _ _ _ _ _ _ _ _ wr => ∃ left : Int → Prop, KIter ik wr w.heap.size b f left ∧ (∀ p, (f p).isSome → ¬ left p → Vec.leq (pg p) (pg' p) = true) ∧ Below w.heap.size w wr) (fun _ _ _ _ _ _ _ _ _ _ _ _ _ wr => leftN wr w.heap.size b)
    case atStart => exact ⟨_, hit, fun p h1 h2 => absurd h1 h2, hb0⟩
    case round =>
      clear hit hb0 hr
      obtain ⟨left, hit, hseen, hbel⟩ := hrel
      rcases hit.next stamp_key 0 with ⟨hnone, hnx⟩ | ⟨p, u, w1, hl, hf, hnx, hit1, hlt, hg1, hz1, hen⟩
      · have hall : Hid (∀ u, g u ≤ g' u) := by
          refine hiff.out.2 fun p => ?_
          cases hf : f p with
          | none =>
            rw [hP.none_ p hf, Vec.leq_iff]
            intro i; simpa using hn'.out p i
          | some v => exact hseen p (by rw [hf]; rfl) (hnone p)
        clear hseen hnone hit
        go_wp2
        go_ret
        exact ⟨true, rfl, by simp [hall.out], hbel⟩
      · have hb1 : Below w.heap.size w w1 := hbel.grown hg1 hbel.size (fun q e => by cases e; exact Nat.le_refl _)
        obtain ⟨a, cap, rfl, hsl, _, _⟩ := (hP.any hb1).some_ p u hf
        obtain ⟨u', hlk, a', cap', rfl, hsl', _, _⟩ := (hp'.any hb1).look p
        have HI := hide hit1
        have HS := hide hseen
        have HL := hide hlt
        have HF := hide hf
        have hpk : ik p = .int .i64 p := rfl
        rw [hpk] at hnx hen
        clear hit1 hseen hlt hit hl hg1 hz1 hbel hf
        have hq : Hid (∀ (w2 : World), Below w1.heap.size w1 w2 → KIter ik w2 w.heap.size b f (fun x => left x ∧ x ≠ p) ∧ leftN w2 w.heap.size b < leftN wr w.heap.size b ∧ Below w.heap.size w w2) := fun w2 hb2 => by
          have hlt1 := HI.out.lt
          obtain ⟨_, hM1⟩ := HI.out.map
          have hlt2 := hM1.lt
          exact ⟨HI.out.same (hb2.block _ hlt1) (hb2.block _ hlt2), by rw [leftN_same (hb2.block _ hlt1) (hb2.block _ hlt2)]; exact HL.out, hb1.trans (hb2.mono hb1.size)⟩
        cases hc : Vec.leq (pg p) (pg' p) with
        | true =>
          go_wp2_with (go_at_call 36; refine (leq_said _ _ _ _ _ _ _ _ _ hsl hsl').mono ?_; rw [hc]; rintro e w2 ⟨rfl, hb2⟩)
          obtain ⟨q1, q2, q3⟩ := hq.out w2 hb2
          go_roundw
          case rel =>
            refine ⟨_, q1, fun p' h1 h2 => ?_, q3⟩
            by_cases e : p' = p
            · subst e; exact hc
            · exact HS.out p' h1 fun h => h2 ⟨h, e⟩
          case measure => exact q2
        | false =>
          have hno : Hid (¬ ∀ u, g u ≤ g' u) := fun h => by rw [hiff.out.1 h p] at hc; cases hc
          go_wp2_with (go_at_call 36; refine (leq_said _ _ _ _ _ _ _ _ _ hsl hsl').mono ?_; rw [hc]; rintro e w2 ⟨rfl, hb2⟩)
          go_ret
          exact ⟨false, rfl, by simp [hno.out], (hq.out w2 hb2).2.2⟩
end Go.Proofs.YtiaedjnedoemoabDoor
