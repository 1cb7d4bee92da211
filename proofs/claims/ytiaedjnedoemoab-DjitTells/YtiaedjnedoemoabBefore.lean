import Derived.Test.YtiaedjnedoemoabPastsSeq
import Derived.Test.YtiaedjnedoemoabOrdBef
namespace Go.Proofs.Ytiaedjnedoemoab
open Go.RowKit Go.Shelf Go.Proofs.Ord

attribute [local go_sem] Oper.semAt_some

theorem befI_no {l : List Ev} {i j : Int} (h : ¬ (0 ≤ i ∧ i < j ∧ j < (l.length : Int))) : befI l i j = false := by
  unfold befI
  by_cases h1 : 0 ≤ i ∧ i < l.length ∧ 0 ≤ j ∧ j < l.length
  · rw [bef_ge (by omega), Bool.and_false]
  · rw [decide_eq_false h1, Bool.false_and]

set_option maxRecDepth 100000 in
set_option maxHeartbeats 1000000 in
theorem before_no (a : Option Addr) (n cap : Nat) (i j : Int) (w : World) (h : ¬ (0 ≤ i ∧ i < j ∧ j < n)) :
    Calls Try.prog 33 #[.slice a n cap, .int .i64 i, .int .i64 j] w fun e w' => e = .returned (.bool false) ∧ Below w.heap.size w w' := by
  have hb : Hid (∀ x y z, Below w.heap.size w (((w.alloc x).alloc y).alloc z)) := fun x y z => (((Below.refl _ _).alloc (Nat.le_refl _) _).alloc (by simp) _).alloc (by simp; omega) _
  by_cases h1 : i < 0
  · go_enter Try.func33, Try.ntmps33
    go_wp2
    refine bodyPost_ret (v := .bool false) (by simp [results, Try.f33, go_sem]) rfl ⟨rfl, hb.out _ _ _⟩
  · by_cases h2 : j ≤ i
    · go_enter Try.func33, Try.ntmps33
      go_wp2
      refine bodyPost_ret (v := .bool false) (by simp [results, Try.f33, go_sem]) rfl ⟨rfl, hb.out _ _ _⟩
    · have h3 : (n : Int) ≤ j := by omega
      go_enter Try.func33, Try.ntmps33
      go_wp2
      refine bodyPost_ret (v := .bool false) (by simp [results, Try.f33, go_sem]) rfl ⟨rfl, hb.out _ _ _⟩

/-- Nothing of W0 has turned, but for one block maybe. -/
def Still (W0 : World) (but : Option Nat) (O : Side) (W : World) : Prop :=
  (∀ b, b < W0.heap.size → O b ∧ (some b ≠ but → W.heap[b]? = W0.heap[b]?)) ∧ (∀ b, O b → b < W.heap.size) ∧ W.os = W0.os ∧ W.tape = W0.tape ∧ W.output = W0.output ∧ W0.heap.size ≤ W.heap.size
theorem Still.stable {W0 : World} {but : Option Nat} {O : Side} {W W' : World} (h : Still W0 but O W) (hs : W.heap.size ≤ W'.heap.size) (ho : W'.os = W.os) (ht : W'.tape = W.tape) (hu : W'.output = W.output) (hsame : ∀ b, O b → W'.heap[b]? = W.heap[b]?) : Still W0 but O W' :=
  ⟨fun b hb => ⟨(h.1 b hb).1, fun hne => (hsame b (h.1 b hb).1).trans ((h.1 b hb).2 hne)⟩, fun b hb => Nat.lt_of_lt_of_le (h.2.1 b hb) hs, ho.trans h.2.2.1, ht.trans h.2.2.2.1, hu.trans h.2.2.2.2.1, Nat.le_trans h.2.2.2.2.2 hs⟩

set_option maxRecDepth 100000 in
set_option maxHeartbeats 2000000 in
theorem before_yes (b off n cap : Nat) (l : List Ev) (p q : Nat) (w : World) (hlen : l.length = n) (hs : EvS w (some ⟨b, off, none⟩) l) (hc : n ≤ cap) (hm : cap ≤ maxLen) (hn : n * 32 ≤ 140737488351232) (hpq : p < q) (hq : q < n) :
    Calls Try.prog 33 #[.slice (some ⟨b, off, none⟩) n cap, .int .i64 p, .int .i64 q] w fun e w' => e = .returned (.bool (bef (ev l) p q)) ∧ Below w.heap.size w w' := by
  have hcap : cap ≤ 9223372036854775807 := hm
  have hp0 : decide ((p : Int) < 0) = false := decide_eq_false (by omega)
  refine (callsIn_wide (n := 4)).1 ?_
  refine callsIn_of_wp_marks Try.func33 rfl trivial ?_ rfl
  simp only [Try.ntmps33, List.size_toArray, List.length_cons, List.length_nil, Nat.reduceAdd, Nat.reduceSub, Array.replicate_succ, Array.replicate_zero, List.push_toArray, List.append_toArray, List.nil_append, List.cons_append]
  gi_wp2_with (refine ⟨trivial, ?_⟩; gi_at_call 56; refine (pasts_in _ _ _ _ _ _).mono ?_; rintro e w' ⟨rfl, rfl⟩)
  clear hp0
  obtain ⟨Z, hZ⟩ : ∃ Z, w.heap.size = Z := ⟨_, rfl⟩
  obtain ⟨W0, hW0⟩ : ∃ W0, ((((w.alloc (.cells #[.int .i64 p] 3)).alloc (.cells #[.int .i64 q] 3)).alloc (.cells #[.bool false] 4)).alloc (.cells #[.slice (some ⟨b, off + p * 4, none⟩) (q + 1 - p) (cap - p)] 32)).alloc (.cells #[.int .i64 1] 3) = W0 := ⟨_, rfl⟩
  have hz0 : W0.heap.size = Z + 5 := by rw [← hW0, ← hZ]; simp
  have hBW : Below w.heap.size w W0 := by rw [← hW0]; exact (((((Below.refl _ w).alloc (Nat.le_refl _) _).alloc (by simp) _).alloc (by simp; omega) _).alloc (by simp; omega) _).alloc (by simp; omega) _
  have b0 : Boxed W0 Z 3 (.int .i64 p) := by
    rw [← hW0, ← hZ]; exact ((((Boxed.new w 3 _).alloc _).alloc _).alloc _).alloc _
  have b1 : Boxed W0 (Z + 1) 3 (.int .i64 q) := by
    rw [← hW0, ← hZ]; have := Boxed.new (w.alloc (.cells #[.int .i64 p] 3)) 3 (.int .i64 q); rw [World.size_alloc] at this; exact ((this.alloc _).alloc _).alloc _
  have b2 : Boxed W0 (Z + 1 + 1) 4 (.bool false) := by
    rw [← hW0, ← hZ]; have := Boxed.new ((w.alloc (.cells #[.int .i64 p] 3)).alloc (.cells #[.int .i64 q] 3)) 4 (.bool false); rw [World.size_alloc, World.size_alloc] at this; exact (this.alloc _).alloc _
  have b3 : Boxed W0 (Z + 1 + 1 + 1) 32 (.slice (some ⟨b, off + p * 4, none⟩) (q + 1 - p) (cap - p)) := by
    rw [← hW0, ← hZ]; have := Boxed.new (((w.alloc (.cells #[.int .i64 p] 3)).alloc (.cells #[.int .i64 q] 3)).alloc (.cells #[.bool false] 4)) 32 (.slice (some ⟨b, off + p * 4, none⟩) (q + 1 - p) (cap - p)); rw [World.size_alloc, World.size_alloc, World.size_alloc] at this; exact this.alloc _
  have b4 : Boxed W0 (Z + 1 + 1 + 1 + 1) 3 (.int .i64 ((1 : Nat) : Int)) := by
    rw [← hW0, ← hZ]; have := Boxed.new ((((w.alloc (.cells #[.int .i64 p] 3)).alloc (.cells #[.int .i64 q] 3)).alloc (.cells #[.bool false] 4)).alloc (.cells #[.slice (some ⟨b, off + p * 4, none⟩) (q + 1 - p) (cap - p)] 32)) 3 (.int .i64 1); rw [World.size_alloc, World.size_alloc, World.size_alloc, World.size_alloc] at this; exact this
  have hsub : ((l.drop p).take (q + 1 - p)).length = q + 1 - p := by rw [List.length_take, List.length_drop]; omega
  have hes := (hs.below hBW).sub p (q + 1 - p)
  rw [hW0, hZ]
  refine wpIn_rangeFunc_frame rfl (by decide) (gf := 75) (lb := #[.pointer (some ⟨Z + 1 + 1 + 1, 0, none⟩), .pointer (some ⟨Z + 1 + 1 + 1 + 1, 0, none⟩)]) rfl trivial (enters_of Try.func75 (by kernel_rfl) rfl)
    (pasts_seq (Z + 1 + 1 + 1) (Z + 1 + 1 + 1 + 1) (q + 1 - p) 1 (some ⟨b, off + p * 4, none⟩) (cap - p) ((l.drop p).take (q + 1 - p)) W0 (by omega) (by omega) hsub b3 b4 hes) (Below.refl _ _) (fun _ => rfl) pastE_steps pastE_anti
    (fun pre O W => pre.length ≤ q - p ∧ Still W0 none O W)
    (fun c _ O W => c = .ret ∧ Still W0 (some (Z + 1 + 1)) O W ∧ Boxed W (Z + 1 + 1) 4 (.bool (bef (ev l) p q)))
    (fun pre O W W' h hs ho ht hu hsame => ⟨h.1, h.2.stable hs ho ht hu hsame⟩)
    (fun c pre O W W' h hs ho ht hu hsame => ⟨h.1, h.2.1.stable hs ho ht hu hsame, (hsame _ (h.2.1.1 _ (by omega)).1).trans h.2.2⟩)
    (fun pre O W h => h.2.2.1) (fun c pre O W h => h.2.1.2.1)
    (fun pre O W h b' hb' => by
      have hlt := pastBase_lt b3.lt b4.lt hsub hes b' hb'
      exact ⟨(h.2.1 b' hlt).1, (h.2.1 b' hlt).2 (by simp)⟩)
    (pastBase_lt b3.lt b4.lt hsub hes)
    ⟨Nat.zero_le _, fun b' hb' => ⟨hb', fun _ => rfl⟩, fun b' hb' => hb', rfl, rfl, rfl, Nat.le_refl _⟩
    (fun _ x a' _ _ => a' = { tmps := #[.slice (some ⟨b, off, none⟩) n cap, .int .i64 p, .int .i64 q, undef, .pointer (some ⟨Z, 0, none⟩), .pointer (some ⟨Z + 1, 0, none⟩), .pointer (some ⟨Z + 1 + 1, 0, none⟩), .int .i64 x.1, x.2, .int .i64 p, .bool false, .bool false, .int .i64 p, .int .i64 q, .bool false, .bool false, .bool false, .int .i64 q, .slice (some ⟨b, off, none⟩) n cap, .int .i64 n, .bool false, .bool false, .slice (some ⟨b, off, none⟩) n cap, .int .i64 p, .int .i64 q, .int .i64 (q + 1), .slice (some ⟨b, off + p * 4, none⟩) (q + 1 - p) (cap - p), .func (.func 75) #[] #[.pointer (some ⟨Z + 1 + 1 + 1, 0, none⟩), .pointer (some ⟨Z + 1 + 1 + 1 + 1, 0, none⟩)], .int .i64 x.1, x.2, undef, undef, undef, undef, undef, undef, undef], defers := [] })
    (fun _ _ _ _ _ _ _ h _ _ _ _ _ => h) ?assign ?body ?done ?stop
  case assign =>
    intro l' pre x O W K hi hE hK
    gi_wp2
    exact hK _ O W (Steps.refl _ _) hi rfl
  case body =>
    rintro l' pre ⟨k, v⟩ a' O W ⟨r, hr⟩ hnl ⟨hpl, hst⟩ ⟨hk, hkn, ⟨B, ws, hset, hh⟩, hnO⟩ rfl
    have hc0 : W.cell? ⟨Z, 0, none⟩ = some (.int .i64 p) := (World.cell?_of_block (w := W0) (a := ⟨Z, 0, none⟩) ((hst.1 Z (by omega)).2 (by simp))).trans b0.cell
    have hc1 : W.cell? ⟨Z + 1, 0, none⟩ = some (.int .i64 q) := (World.cell?_of_block (w := W0) (a := ⟨Z + 1, 0, none⟩) ((hst.1 (Z + 1) (by omega)).2 (by simp))).trans b1.cell
    have hB2 : Boxed W (Z + 1 + 1) 4 (.bool false) := ((hst.1 (Z + 1 + 1) (by omega)).2 (by simp)).trans b2
    have hc2 := hB2.cell
    have hf2 := hB2.frozen
    simp only at hk
    by_cases hkq : k = q - p
    · obtain ⟨a2, c2, rfl, hc2', hc3, hR⟩ := hset.parts
      have hres : Hid (bitOf ws 0 = bef (ev l) p q) := by
        apply Bool.eq_iff_iff.2
        rw [hh.1 0]
        show 0 < 1 ∧ bef (ev ((l.drop p).take (q + 1 - p))) 0 k = true ↔ _
        rw [bef_sub _ _ _ _ _ (by omega), hkq, Nat.zero_add, show q - p + p = q by omega]
        exact ⟨fun h => h.2, fun h => ⟨by omega, h⟩⟩
      have hhas := has_any a2 ws.length c2 0 ws W rfl hR hset.2 (by decide)
      rw [hres.out] at hhas
      have Hh := hide' hhas
      have hnum : ((k : Int) == (q : Int) - (p : Int)) = true := by rw [beq_iff_eq]; omega
      clear hhas hkq hc3
      gi_wp2_with (refine ⟨trivial, ?_⟩; gi_at_call 57; refine (CallsIn.inRound l' (callsIn_wide.2 Hh.out)).mono ?_; rintro e w' ⟨rfl, rfl⟩)
      refine ⟨O, ?_, rfl, ?_, hB2.set _⟩
      · exact ⟨rfl, rfl, rfl, by simp [World.setCell], fun _ h => h, fun _ h => .inl h, fun b' hb' hO => Below.heap_setCell _ _ _ _ (fun e => hO (by rw [e]; exact (hst.1 (Z + 1 + 1) (by omega)).1))⟩
      · exact ⟨fun b' hb' => ⟨(hst.1 b' hb').1, fun hne => (Below.heap_setCell _ _ _ _ (fun e => hne (by rw [e]))).trans ((hst.1 b' hb').2 (by simp))⟩, fun b' hb' => by have := hst.2.1 b' hb'; simp [World.setCell]; omega, hst.2.2.1, hst.2.2.2.1, hst.2.2.2.2.1, by have := hst.2.2.2.2.2; simp [World.setCell]; omega⟩
    · have hnum : ((k : Int) == (q : Int) - (p : Int)) = false := by rw [beq_eq_false_iff_ne]; omega
      gi_wp2
      exact ⟨O, Steps.refl _ _, by simp; omega, hst⟩
  case done =>
    rintro xs O W hS ⟨hl, _⟩ _ _
    omega
  case stop =>
    rintro c pre O W _ ⟨rfl, hst, hB⟩ hnD hK
    gi_wp2
    refine ⟨by simp, .inl ⟨_, _, rfl, run_takeDeferred hK, ?_⟩⟩
    have hc5 := cell_kept hB.cell (grownBy_putObj' _ W0.heap.size (.deferred none)) (fun r e => by cases e; exact ⟨_, hK, rfl⟩)
    refine ⟨.bool (bef (ev l) p q), ?_, rfl, ?_⟩
    · simp [results, Try.f33, go_sem, hc5]
    · refine Below.trans (b := W) ⟨hst.2.2.1.trans hBW.os, hst.2.2.2.1.trans hBW.tape, hst.2.2.2.2.1.trans hBW.output, Nat.le_trans hBW.size hst.2.2.2.2.2, fun b' hb' => ((hst.1 b' (by omega)).2 (fun e => by cases e; omega)).trans (hBW.block b' hb')⟩ (belowK_b (w := w) (Nat.le_refl _) _ W0.heap.size _ _ (by omega) hK rfl rfl)

theorem before_said : BeforeSaid := by
  intro a n cap l i j w hlen hs hc hm hn
  by_cases h : 0 ≤ i ∧ i < j ∧ j < (n : Int)
  · obtain ⟨h1, h2, h3⟩ := h
    obtain ⟨p, rfl⟩ := Int.eq_ofNat_of_zero_le h1
    obtain ⟨q, rfl⟩ := Int.eq_ofNat_of_zero_le (by omega : 0 ≤ j)
    obtain ⟨b, off, rfl, _, _⟩ := hs p (by omega)
    have e : befI l p q = bef (ev l) p q := by
      unfold befI
      rw [decide_eq_true (by omega), Bool.true_and]; rfl
    rw [e]
    exact before_yes b off n cap l p q w hlen hs hc hm hn (by omega) (by omega)
  · rw [befI_no (by rw [hlen]; exact h)]
    exact before_no a n cap i j w h
end Go.Proofs.Ytiaedjnedoemoab
