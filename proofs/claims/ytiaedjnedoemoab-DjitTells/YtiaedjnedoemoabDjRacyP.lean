import Derived.Test.YtiaedjnedoemoabDjMarkW
namespace Go.Proofs.Ytiaedjnedoemoab
open Go.RowKit Go.Proofs.Ord

/-- The number of a thread, as the map tells it. -/
def nuOf (f : Int → Option Value) (t : Int) : Int := match f t with
  | some (.int _ j) => j
  | _ => 0
theorem NumberedW.nums {w : World} {M : Nat} {L : Nat → Ev} {k : Nat} {f : Int → Option Value} {m : Nat} (h : NumberedW w M L k f m) : NumsW w M f m (nuOf f) := by
  refine ⟨h.map, fun t => ?_⟩
  unfold nuOf
  cases hf : f t with
  | none => rfl
  | some v => obtain ⟨j, _, rfl⟩ := h.val t v hf; rfl
theorem NumberedW.nonneg {w : World} {M : Nat} {L : Nat → Ev} {k : Nat} {f : Int → Option Value} {m : Nat} (h : NumberedW w M L k f m) (t : Int) : 0 ≤ nuOf f t := by
  unfold nuOf
  cases hf : f t with
  | none => exact Int.le_refl _
  | some v => obtain ⟨j, _, rfl⟩ := h.val t v hf; show (0 : Int) ≤ (j : Int); omega
theorem NumberedW.below {w : World} {M : Nat} {L : Nat → Ev} {k : Nat} {f : Int → Option Value} {m : Nat} (h : NumberedW w M L k f m) {i : Nat} (hi : i < k) (ha : access (L i) = true) : nuOf f (L i).thread < m := by
  unfold nuOf
  obtain ⟨v, hv⟩ := Option.isSome_iff_exists.1 (h.has i hi ha)
  rw [hv]
  obtain ⟨j, hj, rfl⟩ := h.val _ v hv
  show (j : Int) < (m : Int); omega

/-- The accesses of threads whose number is below fr. -/
def upTo (L : Nat → Ev) (nu : Int → Int) (fr : Int) (i : Nat) : Bool := access (L i) && decide (nu (L i).thread < fr)

theorem any_or_pred {α : Type} (l : List α) (p q : α → Bool) : (l.any p || l.any q) = l.any (fun x => p x || q x) := by
  induction l with
  | nil => rfl
  | cons x l ih =>
    simp only [List.any_cons]
    rw [← ih]
    cases p x <;> cases q x <;> simp
theorem mark_step (L : Nat → Ev) (nu : Int → Int) (fr : Int) (k : Nat) : (mark L (upTo L nu fr) k || mark L (cfs L nu fr) k) = mark L (upTo L nu (fr + 16384)) k := by
  unfold mark
  rw [any_or_pred]
  congr 1
  funext i
  have e : (upTo L nu fr i || cfs L nu fr i) = upTo L nu (fr + 16384) i := by
    unfold upTo cfs cf
    cases access (L i) with
    | false => rfl
    | true =>
      simp only [Bool.true_and]
      rw [Bool.eq_iff_iff]
      simp only [Bool.or_eq_true, Bool.and_eq_true, decide_eq_true_eq]
      omega
  rw [← e]
  cases upTo L nu fr i <;> cases cfs L nu fr i <;> simp
theorem mark_none (L : Nat → Ev) (nu : Int → Int) (k : Nat) (h0 : ∀ t, 0 ≤ nu t) : mark L (upTo L nu 0) k = false := by
  unfold mark
  rw [List.any_eq_false]
  intro i _
  have : decide (nu (L i).thread < 0) = false := decide_eq_false (by have := h0 (L i).thread; omega)
  unfold upTo
  rw [this]; simp
theorem mark_all (L : Nat → Ev) (nu : Int → Int) (fr : Int) (k : Nat) (h : ∀ i, i < k → access (L i) = true → nu (L i).thread < fr) : mark L (upTo L nu fr) k = racy L k := by
  rw [Bool.eq_iff_iff, mark_iff, racy_iff]
  constructor
  · rintro ⟨i, h1, _, h3⟩; exact ⟨i, h1, h3⟩
  · rintro ⟨i, h1, h3⟩
    have ha : access (L i) = true := by
      unfold race at h3
      rw [Bool.and_eq_true, conflict_iff] at h3
      unfold access
      rcases h3.1.1 with h | h <;> simp [h]
    exact ⟨i, h1, by unfold upTo; rw [ha, decide_eq_true (h i h1 ha)]; rfl, h3⟩

/-- The number in a variable. -/
def intAt (p : Value) (w : World) : Int := match p with
  | .pointer (some a) => (match w.cell? a with | some (.int _ x) => x | _ => 0)
  | _ => 0
theorem intAt_is {w : World} {a : Addr} {k : IntKind} {x : Int} (h : w.cell? a = some (.int k x)) : intAt (.pointer (some a)) w = x := by simp [intAt, h]

set_option maxRecDepth 100000 in
set_option maxHeartbeats 2000000 in
theorem racy_said : RacyDSaid := by
  intro a n cap l w hn hs hc hm hb hthr
  obtain ⟨i0, hi0, hz0, hz1, hz2⟩ := info_parts Try.infob
  by_cases hn0 : n = 0
  · subst hn0
    go_enter Try.func30, Try.ntmps30
    go_wp2
    go_ret
    exact ⟨none, 0, rfl, fun i hi => absurd hi (by omega), Below.refl _ _⟩
  · have hthr := hide hthr
    have hne : ((n : Int) == 0) = false := beq_eq_false_iff_ne.2 (by omega)
    go_enter Try.func30, Try.ntmps30
    go_wp2_with (at_make; refine wpList_make_full _ rfl _ _ 40 rfl w.heap.size 4 i0 (.bool false) 1 Try.underlying40 hi0 hz0 hz1 _ _ _ _ n rfl rfl (by first | rfl | simp) (by first | rfl | simp) (by rw [hz2]; omega) (by unfold maxLen; omega) (Nat.le_refl _) ?_; intro w1 hown hgrow)
    have ht1 : Tells w1 w.heap.size w.heap.size n (fun _ => false) := by
      unfold Tells
      have e : ((List.range n).map fun _ => Value.bool false) = (madeCells (Value.bool false).cells (n * 1)).toList := by
        rw [show (Value.bool false).cells = #[Value.bool false] from rfl, toList_madeCells_one, Nat.mul_one, List.map_const', List.length_range]
      rw [e]; exact hown
    have hb1 : Below w.heap.size w w1 := (Below.refl _ _).grown hgrow (Nat.le_refl _) (fun q e => by cases e)
    have hlt1 : w.heap.size < w1.heap.size := (World.ownsRow.lt ht1 _ rfl).2
    clear hown hgrow
    refine (numbered_any _ _ _ _ _ hn (hs.below hb1) hb).mono ?_
    rintro e w2 ⟨M, f, m, rfl, hM, hNu, hb2⟩
    have ht2 := ht1.below hb2 hlt1
    have hz2' := hb2.size
    obtain ⟨nu, hnu⟩ : ∃ nu, nuOf f = nu := ⟨_, rfl⟩
    have hNs := hNu.nums
    have h0 : Hid (∀ t, 0 ≤ nu t) := fun t => by rw [← hnu]; exact hNu.nonneg t
    have hall : Hid (∀ i, i < n → access (ev l i) = true → nu (ev l i).thread < m) := fun i hi ha => by rw [← hnu]; exact hNu.below hi ha
    have hmn : m ≤ n := hNu.le
    rw [hnu] at hNs
    have HNs := hide hNs
    have hMl := hNs.map.lt
    clear hNu hNs hnu
    obtain ⟨w4, hw4⟩ : ∃ w4, (w2.alloc (.cells #[.map (some M)] 65)).alloc (.cells #[.int .i64 0] 3) = w4 := ⟨_, rfl⟩
    have hb4 : Below w2.heap.size w2 w4 := by rw [← hw4]; exact ((Below.refl _ _).alloc (Nat.le_refl _) _).alloc (by simp) _
    have hz4 : w4.heap.size = w2.heap.size + 2 := by rw [← hw4]; simp
    have hc4 : w4.cell? ⟨w2.heap.size, 0, none⟩ = some (.map (some M)) := by rw [← hw4]; simp
    have hc5 : w4.cell? ⟨w2.heap.size + 1, 0, none⟩ = some (.int .i64 0) := by
      have e := heap_two w2 (.cells #[.map (some M)] 65) (.cells #[.int .i64 0] 3)
      rw [hw4] at e
      simp [World.cell?, e]
    have ht4 := ht2.below hb4 (by omega)
    have hbw4 : Below w.heap.size w w4 := (hb1.trans (hb2.mono hb1.size)).trans (hb4.mono (by omega))
    have hstart : Hid (w4.heap[M]? = w2.heap[M]? ∧ Tells w4 w.heap.size w.heap.size n (mark (ev l) (upTo (ev l) nu 0)) ∧ Below w.heap.size w w4) := ⟨hb4.block _ hMl, ht4.congr (fun q _ => (mark_none (ev l) nu q h0.out).symm), hbw4⟩
    have hzw : w.heap.size < w2.heap.size := by omega
    have hMg : M ≠ w.heap.size := by omega
    have HW4 := hide hw4
    clear ht1 ht2 ht4 hbw4 hb4 hb2 hb1 hw4
    go_wp2_with fail
    rw [HW4.out]
    go_loopw [5] (fun p5 wr => ∃ (fr : Int) (b5 : Nat), p5 = .pointer (some ⟨b5, 0, none⟩) ∧ 0 ≤ fr ∧ fr ≤ (m : Int) + 16384 ∧ wr.cell? ⟨b5, 0, none⟩ = some (.int .i64 fr) ∧ w2.heap.size ≤ b5 ∧ b5 < wr.heap.size ∧ wr.cell? ⟨w2.heap.size, 0, none⟩ = some (.map (some M)) ∧ wr.heap[M]? = w2.heap[M]? ∧ Tells wr w.heap.size w.heap.size n (mark (ev l) (upTo (ev l) nu fr)) ∧ w2.heap.size < wr.heap.size ∧ Below w.heap.size w wr) (fun p5 wr => ((m : Int) + 32768 - intAt p5 wr).toNat)
    case atStart => exact ⟨0, _, rfl, Int.le_refl _, by omega, hc5, by omega, by omega, hc4, hstart.out.1, hstart.out.2.1, by omega, hstart.out.2.2⟩
    case round =>
      clear hc4 hc5 hstart HW4 hz4
      obtain ⟨fr, b5, rfl, hf0, hf1, hc5, hb5, hl5, hc4, hMw, hT, hzr, hbel⟩ := hrel
      have hNr := HNs.out.same hMw
      have hln : Sem.run Try.prog (Builtin.len_ #[65] 3 #[.map (some M)]) wr = .ok (.int .i64 (m : Int)) wr := hNr.map.len Try.underlying65 3
      have hia := intAt_is hc5
      have HIA := hide hia
      clear hia
      by_cases hlt : fr < (m : Int)
      · have HM := hide (markRaces_any a n cap l wr w.heap.size w.heap.size w2.heap.size b5 M m f nu fr _ hn (hs.below hbel) hb hthr.out hNr hc4 hc5 hzr hl5 hf0 (by omega) hT (by omega) (by omega) hMg (fun b off e => by obtain ⟨b', off', e', hl', _⟩ := hs 0 (by omega); rw [e] at e'; cases e'; omega))
        have hnext : Hid (∀ w5, Tells w5 w.heap.size w.heap.size n (fun j => mark (ev l) (upTo (ev l) nu fr) j || mark (ev l) (cfs (ev l) nu fr) j) → wr.grownBy w5 (some w.heap.size) → w5.cell? ⟨b5, 0, none⟩ = some (.int .i64 fr) ∧ ∀ W, w5.alloc (.cells #[.int .i64 (fr + 16384)] 3) = W → W.cell? ⟨w5.heap.size, 0, none⟩ = some (.int .i64 (fr + 16384)) ∧ w2.heap.size ≤ w5.heap.size ∧ w5.heap.size < W.heap.size ∧ W.cell? ⟨w2.heap.size, 0, none⟩ = some (.map (some M)) ∧ W.heap[M]? = w2.heap[M]? ∧ Tells W w.heap.size w.heap.size n (mark (ev l) (upTo (ev l) nu (fr + 16384))) ∧ w2.heap.size < W.heap.size ∧ Below w.heap.size w W) := fun w5 hT5 hg5 => by
          have hz5 := hg5.size
          refine ⟨(World.cell?_of_block (w := wr) (a := ⟨b5, 0, none⟩) (hg5.block b5 hl5 (by simp; omega))).trans hc5, fun W hW => ?_⟩
          have hbW : Below w5.heap.size w5 W := by rw [← hW]; exact (Below.refl _ _).alloc (Nat.le_refl _) _
          have hzW : W.heap.size = w5.heap.size + 1 := by rw [← hW]; simp
          refine ⟨by rw [← hW]; simp, by omega, by omega, (World.cell?_of_block (w := wr) (a := ⟨w2.heap.size, 0, none⟩) ((hbW.block w2.heap.size (by omega)).trans (hg5.block w2.heap.size hzr (by simp; omega)))).trans hc4, (hbW.block M (by omega)).trans ((hg5.block M (by omega) (by simpa using hMg)).trans hMw), (hT5.below hbW (by omega)).congr (fun q _ => mark_step (ev l) nu fr q), by omega, ?_⟩
          exact (hbel.grown hg5 hbel.size (fun q e => by cases e; exact Nat.le_refl _)).trans (hbW.mono (by omega))
        clear hNr hT hMw
        go_wp2_with fail
        refine HM.out.mono ?_
        rintro e w5 ⟨rfl, hT5, hg5⟩
        obtain ⟨k5, hfin⟩ := hnext.out w5 hT5 hg5
        have HF := hide hfin
        clear hfin hT5 hg5 HM hnext
        go_wp2_with fail
        obtain ⟨q1, q2, q3, q4, q5, q6, q7, q8⟩ := HF.out _ rfl
        have hia2 := intAt_is q1
        go_roundw
        case rel => exact ⟨fr + 16384, w5.heap.size, rfl, by omega, by omega, q1, q2, q3, q4, q5, q6, q7, q8⟩
        case measure => rw [hia2, HIA.out]; omega
      · have hge : decide (fr < (m : Int)) = false := decide_eq_false hlt
        have hfin : Hid (Tells wr w.heap.size w.heap.size n (racy (ev l))) := hT.congr (fun q hq => mark_all (ev l) nu fr q (fun i hi ha => by have := hall.out i (by omega) ha; omega))
        clear hNr hT hMw
        go_wp2_with fail
        go_ret
        exact ⟨_, ⟨_, rfl⟩, hfin.out.boolS, hbel⟩
end Go.Proofs.Ytiaedjnedoemoab
