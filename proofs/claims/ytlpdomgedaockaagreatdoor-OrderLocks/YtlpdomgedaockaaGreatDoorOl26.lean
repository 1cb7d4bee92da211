import Derived.Test.YtlpdomgedaockaaGreatDoorOl25
import Derived.Test.YtlpdomgedaockaaGreatDoorOl15
set_option linter.unusedVariables false
set_option linter.unusedSimpArgs false
namespace Go.Proofs.YtlpdomgedaockaaGreatDoor
open Go.RowKit Go.Shelf Go.Proofs.Cod
theorem parseT_err {t : Tx} {er ln : Int} (h : parseT t = .error (er, ln)) : er ≠ 0 := by
  unfold parseT at h
  split at h
  · cases h; decide
  · exact parseL_err h
theorem one4 {a b c d : Option Addr} {n1 n2 n3 n4 m1 m2 m3 m4 : Nat} : ∀ v ∈ (#[Value.slice a n1 m1, .slice b n2 m2, .slice c n3 m3, .slice d n4 m4] : Array Value).toList, v.oneCell' = true := by
  intro v hv
  simp only [List.mem_cons, List.not_mem_nil, or_false] at hv
  rcases hv with rfl | rfl | rfl | rfl <;> rfl
set_option maxRecDepth 100000 in
set_option maxHeartbeats 2000000 in
theorem load_any (t : Tx) {w : World} {B : Nat} (ht : Tabs w B) (hB : B ≤ w.heap.size) : Calls Tryz.prog 4 #[.string (bs t)] w (LoadR w t) := by
  obtain ⟨W1, hW1⟩ : ∃ W1, (w.alloc (.cells #[.slice none 0 0, .slice none 0 0, .slice none 0 0, .slice none 0 0] 26)).alloc (.cells #[.slice none 0 0, .slice none 0 0, .slice none 0 0, .slice none 0 0] 29) = W1 := ⟨_, rfl⟩
  have hz1 : W1.heap.size = w.heap.size + 1 + 1 := by rw [← hW1]; show ((w.heap.push _).push _).size = _; simp
  have hza : (w.alloc (.cells #[.slice none 0 0, .slice none 0 0, .slice none 0 0, .slice none 0 0] 26)).heap.size = w.heap.size + 1 := by show (w.heap.push _).size = _; simp
  have hB1 : Below w.heap.size w W1 := by rw [← hW1]; exact ((Below.refl _ _).alloc (Nat.le_refl _) _).alloc (by rw [hza]; omega) _
  have hk1 : W1.heap[w.heap.size]? = some (.cells #[.slice none 0 0, .slice none 0 0, .slice none 0 0, .slice none 0 0] 26) := by
    rw [← hW1, Below.heap_alloc _ _ _ (by rw [hza]; omega)]; exact World.alloc_heap_new w _
  have hk2 : W1.heap[w.heap.size + 1]? = some (.cells #[.slice none 0 0, .slice none 0 0, .slice none 0 0, .slice none 0 0] 29) := by
    have q := World.alloc_heap_new (w.alloc (.cells #[.slice none 0 0, .slice none 0 0, .slice none 0 0, .slice none 0 0] 26)) (.cells #[.slice none 0 0, .slice none 0 0, .slice none 0 0, .slice none 0 0] 29)
    rw [hza, hW1] at q
    exact q
  have ht1 := ht.keep (hB1.mono hB)
  have hlt := ht.lt
  have hP := parse_full t W1 ht1.heads ht1.shapes (by show 1 < _; omega) (by show 2 < _; omega)
  have H1 := hide (⟨hz1, hB1, hk1, hk2⟩ : _ ∧ _ ∧ _ ∧ _)
  clear ht hB hz1 hza hB1 hk1 hk2 ht1 hlt
  go_enter Tryz.func4, Tryz.ntmps4
  go_wp2_with fail
  try rw [hW1]
  refine hP.mono ?_
  intro e w2 hr
  obtain ⟨hb2, er, ln, vV, fV, lV, thV, vs, fs, ls, L, C, rfl, hPW, hpv⟩ := parse_told hr
  obtain ⟨⟨a1, n1, c1, rfl⟩, ⟨a2, n2, c2, rfl⟩, ⟨a3, n3, c3, rfl⟩, ⟨a4, n4, c4, rfl⟩⟩ : (∃ a n c, vV = .slice a n c) ∧ (∃ a n c, fV = .slice a n c) ∧ (∃ a n c, lV = .slice a n c) ∧ (∃ a n c, thV = .slice a n c) := by
    obtain ⟨x1, y1, e1⟩ := owns_len hPW.v
    obtain ⟨x2, y2, e2⟩ := owns_len hPW.f
    obtain ⟨x3, y3, e3⟩ := owns_len hPW.l
    obtain ⟨x4, y4, e4⟩ := owns_len hPW.t
    exact ⟨⟨_, _, _, e1⟩, ⟨_, _, _, e2⟩, ⟨_, _, _, e3⟩, ⟨_, _, _, e4⟩⟩
  obtain ⟨W3, hW3⟩ : ∃ W3, w2.alloc (.cells #[.slice a1 n1 c1, .slice a2 n2 c2, .slice a3 n3 c3, .slice a4 n4 c4] 26) = W3 := ⟨_, rfl⟩
  have hb3 : Below w2.heap.size w2 W3 := by rw [← hW3]; exact (Below.refl _ _).alloc (Nat.le_refl _) _
  have hk3 : W3.heap[w2.heap.size]? = some (.cells #[.slice a1 n1 c1, .slice a2 n2 c2, .slice a3 n3 c3, .slice a4 n4 c4] 26) := by rw [← hW3]; exact World.alloc_heap_new w2 _
  have hQ := rParse_full t W3
  have H3 := hide (⟨hb2, hPW.below hb3, hpv, hb3, hk3, hr⟩ : _ ∧ _ ∧ _ ∧ _ ∧ _ ∧ _)
  clear hP hr hb2 hPW hpv hb3 hk3 hW1
  go_wp2_with fail
  try rw [hW3]
  refine hQ.mono ?_
  intro e w4 hr
  obtain ⟨hb4, er', ln', qv, qf, ql, qt, P, TV, rfl, hQW, hpv'⟩ := rparse_told hr
  obtain ⟨⟨x1, y1, z1, rfl⟩, ⟨x2, y2, z2, rfl⟩, ⟨x3, y3, z3, rfl⟩, ⟨x4, y4, z4, rfl⟩⟩ : (∃ a n c, qv = .slice a n c) ∧ (∃ a n c, qf = .slice a n c) ∧ (∃ a n c, ql = .slice a n c) ∧ (∃ a n c, qt = .slice a n c) := by
    obtain ⟨x1, y1, e1⟩ := owns_len hQW.v
    obtain ⟨x2, y2, e2⟩ := owns_len hQW.f
    obtain ⟨x3, y3, e3⟩ := owns_len hQW.l
    obtain ⟨x4, y4, e4⟩ := owns_len hQW.t
    exact ⟨⟨_, _, _, e1⟩, ⟨_, _, _, e2⟩, ⟨_, _, _, e3⟩, ⟨_, _, _, e4⟩⟩
  obtain ⟨W5, hW5⟩ : ∃ W5, w4.alloc (.cells #[.slice x1 y1 z1, .slice x2 y2 z2, .slice x3 y3 z3, .slice x4 y4 z4] 29) = W5 := ⟨_, rfl⟩
  have hb5 : Below w4.heap.size w4 W5 := by rw [← hW5]; exact (Below.refl _ _).alloc (Nat.le_refl _) _
  have hk5 : W5.heap[w4.heap.size]? = some (.cells #[.slice x1 y1 z1, .slice x2 y2 z2, .slice x3 y3 z3, .slice x4 y4 z4] 29) := by rw [← hW5]; exact World.alloc_heap_new w4 _
  obtain ⟨hz1, hB1, hk1, hk2⟩ := H1.out
  obtain ⟨hb2, hPW, hpv, hb3, hk3, hr0⟩ := H3.out
  obtain ⟨rfl, -, e1, e2, e3, e4, e5⟩ := hpv.eq hpv'
  have s2 := hb2.size
  have s3 := hb3.size
  have s4 := hb4.size
  have s5 := hb5.size
  have l3 : w2.heap.size < W3.heap.size := (Array.getElem?_eq_some_iff.1 hk3).1
  have l5 : w4.heap.size < W5.heap.size := (Array.getElem?_eq_some_iff.1 hk5).1
  have b15 : Below W1.heap.size W1 W5 := ((hb2.trans (hb3.mono s2)).trans (hb4.mono (by omega))).trans (hb5.mono (by omega))
  have g1 : W5.heap[w.heap.size]? = _ := (b15.block _ (by omega)).trans hk1
  have g2 : W5.heap[w.heap.size + 1]? = _ := (b15.block _ (by omega)).trans hk2
  have g3 : W5.heap[w2.heap.size]? = _ := (hb5.block _ (by omega)).trans ((hb4.block _ l3).trans hk3)
  have r1 := four_new g1
  have r2 := four_new g2
  have r3 := four_new g3
  have r5 := four_new hk5
  have hst : ∃ W6 W7, (W5.drew.setCells w.heap.size 0 [.slice a1 n1 c1, .slice a2 n2 c2, .slice a3 n3 c3, .slice a4 n4 c4]) = W6 ∧ (W6.setCells (w.heap.size + 1) 0 [.slice x1 y1 z1, .slice x2 y2 z2, .slice x3 y3 z3, .slice x4 y4 z4]) = W7 ∧ RowF W6 (w.heap.size + 1) 29 4 (four (.slice none 0 0) (.slice none 0 0) (.slice none 0 0) (.slice none 0 0)) ∧ RowF W7 w.heap.size 26 4 (four (.slice a1 n1 c1) (.slice a2 n2 c2) (.slice a3 n3 c3) (.slice a4 n4 c4)) ∧ RowF W7 (w.heap.size + 1) 29 4 (four (.slice x1 y1 z1) (.slice x2 y2 z2) (.slice x3 y3 z3) (.slice x4 y4 z4)) ∧ KeepS (fun k => k = w.heap.size ∨ k = w.heap.size + 1) W5 W6 ∧ KeepS (fun k => k = w.heap.size ∨ k = w.heap.size + 1) W5 W7 := by
    have rd1 : RowF W5.drew w.heap.size 26 4 _ := r1.same rfl
    have rd2 : RowF W5.drew (w.heap.size + 1) 29 4 _ := r2.same rfl
    have q1 := rd1.fill (f := four (.slice a1 n1 c1) (.slice a2 n2 c2) (.slice a3 n3 c3) (.slice a4 n4 c4))
    have k1 := setCells_keep (S := fun k => k = w.heap.size ∨ k = w.heap.size + 1) (w := W5) (b := w.heap.size) [.slice a1 n1 c1, .slice a2 n2 c2, .slice a3 n3 c3, .slice a4 n4 c4] 0 (KeepS.refl W5).drew (.inl (.inl rfl))
    have q2 : RowF (W5.drew.setCells w.heap.size 0 [.slice a1 n1 c1, .slice a2 n2 c2, .slice a3 n3 c3, .slice a4 n4 c4]) (w.heap.size + 1) 29 4 _ := rd2.same (setCells_other _ 0 (by omega))
    have q3 := q2.fill (f := four (.slice x1 y1 z1) (.slice x2 y2 z2) (.slice x3 y3 z3) (.slice x4 y4 z4))
    have q4 : RowF ((W5.drew.setCells w.heap.size 0 [.slice a1 n1 c1, .slice a2 n2 c2, .slice a3 n3 c3, .slice a4 n4 c4]).setCells (w.heap.size + 1) 0 [.slice x1 y1 z1, .slice x2 y2 z2, .slice x3 y3 z3, .slice x4 y4 z4]) w.heap.size 26 4 _ := RowF.same q1 (setCells_other _ 0 (by omega))
    have k2 := setCells_keep (S := fun k => k = w.heap.size ∨ k = w.heap.size + 1) (w := W5) (b := w.heap.size + 1) [.slice x1 y1 z1, .slice x2 y2 z2, .slice x3 y3 z3, .slice x4 y4 z4] 0 k1 (.inl (.inr rfl))
    exact ⟨_, _, rfl, rfl, q2, q4, q3, k1, k2⟩
  obtain ⟨W6, W7, hW6, hW7, t6, t7, t8, k6, k7⟩ := hst
  have c30 : ∀ (W : World), KeepS (fun k => k = w.heap.size ∨ k = w.heap.size + 1) W5 W → (W.cell? ⟨w2.heap.size, 0, none⟩ = some (.slice a1 n1 c1) ∧ W.cell? ⟨w2.heap.size, 1, none⟩ = some (.slice a2 n2 c2) ∧ W.cell? ⟨w2.heap.size, 2, none⟩ = some (.slice a3 n3 c3) ∧ W.cell? ⟨w2.heap.size, 3, none⟩ = some (.slice a4 n4 c4)) ∧ (W.cell? ⟨w4.heap.size, 0, none⟩ = some (.slice x1 y1 z1) ∧ W.cell? ⟨w4.heap.size, 1, none⟩ = some (.slice x2 y2 z2) ∧ W.cell? ⟨w4.heap.size, 2, none⟩ = some (.slice x3 y3 z3) ∧ W.cell? ⟨w4.heap.size, 3, none⟩ = some (.slice x4 y4 z4)) := fun W hk => by
    have u3 := r3.keep hk (by omega)
    have u5 := r5.keep hk (by omega)
    exact ⟨⟨u3.cell (by omega), u3.cell (by omega), u3.cell (by omega), u3.cell (by omega)⟩, ⟨u5.cell (by omega), u5.cell (by omega), u5.cell (by omega), u5.cell (by omega)⟩⟩
  have hL1 := run_loadVar_sub (P := Tryz.prog) W7 w.heap.size 0 4 26 _ _ (fun j hj => by rw [Nat.zero_add]; exact t7.cell hj) Tryz.underlying26 rfl Tryz.sizePg
  have hL2 := run_loadVar_sub (P := Tryz.prog) W7 (w.heap.size + 1) 0 4 29 _ _ (fun j hj => by rw [Nat.zero_add]; exact t8.cell hj) Tryz.underlying29 rfl Tryz.sizeRg
  rw [four_row] at hL1 hL2
  have hBF : Below w.heap.size w W7 := ⟨k7.os.trans (b15.os.trans hB1.os), k7.tape.trans (b15.tape.trans hB1.tape), k7.output.trans (b15.output.trans hB1.output), Nat.le_trans hB1.size (Nat.le_trans b15.size k7.size), fun k hk => (k7.block k (by have := hB1.size; omega) (by omega)).trans ((b15.block k (by have := hB1.size; omega)).trans (hB1.block k hk))⟩
  have hPF : ProgW W7 w.heap.size (.slice a1 n1 c1) (.slice a2 n2 c2) (.slice a3 n3 c3) (.slice a4 n4 c4) vs fs ls L C := by
    have q := hPW.below ((hb4.mono (Nat.le_refl _)).trans (hb5.mono s4))
    exact (q.sameAt fun k h1 h2 => k7.block k h2 (by omega)).base (by omega)
  have hQF : QView W7 w.heap.size (.slice x1 y1 z1) (.slice x2 y2 z2) (.slice x3 y3 z3) (.slice x4 y4 z4) P TV := ((hQW.belowW hb5).above fun k h1 h2 => k7.block k h2 (by omega)).base (by omega)
  have hend : ∀ g : Bool, g = (er == 0) → LoadR w t (.returned (.tuple #[.agg #[.slice a1 n1 c1, .slice a2 n2 c2, .slice a3 n3 c3, .slice a4 n4 c4], .agg #[.slice x1 y1 z1, .slice x2 y2 z2, .slice x3 y3 z3, .slice x4 y4 z4], .bool g])) W7 := fun g hg => by
    refine ⟨hBF, ?_⟩
    obtain ⟨-, (⟨er2, ln2, he, q⟩ | ⟨s, C2, v1, v2, v3, v4, L2, he, q, -, hL2n⟩)⟩ := hr0
    · left
      have q : Value.tuple #[.agg #[.slice a1 n1 c1, .slice a2 n2 c2, .slice a3 n3 c3, .slice a4 n4 c4], .int .i64 er, .int .i64 ln] = Value.tuple #[.agg #[.slice none 0 0, .slice none 0 0, .slice none 0 0, .slice none 0 0], .int .i64 er2, .int .i64 ln2] := by injection q
      simp only [Value.tuple.injEq, Array.mk.injEq, List.cons.injEq, Value.agg.injEq, Value.int.injEq, and_true, true_and] at q
      obtain ⟨⟨q1, q2, q3, q4⟩, q5, -⟩ := q
      have hne := parseT_err he
      obtain ⟨-, (⟨er3, ln3, he3, q'⟩ | ⟨s3, C3, tg3, pb3, P3, U3, he3, -⟩)⟩ := hr
      · have q' : Value.tuple #[.agg #[.slice x1 y1 z1, .slice x2 y2 z2, .slice x3 y3 z3, .slice x4 y4 z4], .int .i64 er, .int .i64 ln'] = Value.tuple #[.agg #[.slice none 0 0, .slice none 0 0, .slice none 0 0, .slice none 0 0], .int .i64 er3, .int .i64 ln3] := by injection q'
        simp only [Value.tuple.injEq, Array.mk.injEq, List.cons.injEq, Value.agg.injEq, Value.int.injEq, and_true, true_and] at q'
        obtain ⟨⟨p1, p2, p3, p4⟩, -, -⟩ := q'
        rw [q1, q2, q3, q4, p1, p2, p3, p4, hg, q5, show (er2 == 0) = false by simpa using hne]
        rfl
      · rw [he] at he3; cases he3
    · right
      have q : Value.tuple #[.agg #[.slice a1 n1 c1, .slice a2 n2 c2, .slice a3 n3 c3, .slice a4 n4 c4], .int .i64 er, .int .i64 ln] = Value.tuple #[.agg #[v1, v2, v3, v4], .int .i64 0, .int .i64 0] := by injection q
      simp only [Value.tuple.injEq, Array.mk.injEq, List.cons.injEq, Value.int.injEq, and_true, true_and] at q
      have hv := hpv
      unfold PV at hv
      rw [he] at hv
      obtain ⟨-, -, u1, u2, u3, u4, u5⟩ := hv
      refine ⟨s, C2, .slice a1 n1 c1, .slice a2 n2 c2, .slice a3 n3 c3, .slice a4 n4 c4, L, _, _, _, _, P, TV, he, ?_, ?_, u4, hQF, e1.symm.trans u1, e2.symm.trans u2, e3.symm.trans u3, e4.symm.trans u4, e5.symm.trans u5⟩
      · rw [hg, q.2.1]; rfl
      · have u5 : C = C2 := u5
        subst u5
        rw [← u1, ← u2, ← u3]; exact hPF
  have p1 : ∀ j, j < 4 → (W5.drew.cell? ⟨w.heap.size, 0 + j, none⟩).isSome = true := fun j hj => by rw [Nat.zero_add]; have := (RowF.same (w' := W5.drew) r1 rfl).cell hj; rw [this]; rfl
  have p2 : ∀ j, j < 4 → W5.drew.frozen? ⟨w.heap.size, 0 + j, none⟩ = false := fun j _ => (RowF.same (w' := W5.drew) r1 rfl).frozen _
  have p3 : ∀ j, j < 4 → (W6.cell? ⟨w.heap.size + 1, 0 + j, none⟩).isSome = true := fun j hj => by rw [Nat.zero_add, t6.cell hj]; rfl
  have p4 : ∀ j, j < 4 → W6.frozen? ⟨w.heap.size + 1, 0 + j, none⟩ = false := fun j _ => t6.frozen _
  have HS := hide (⟨p1, p2, p3, p4⟩ : _ ∧ _ ∧ _ ∧ _)
  have HE := hide (⟨hL1, hL2, hend⟩ : _ ∧ _ ∧ _)
  have HC6 := hide (c30 W6 k6)
  have HC7 := hide (c30 W7 k7)
  have hS0 := c30 W5.drew (KeepS.refl W5).drew
  replace hW6 := hide hW6
  replace hW7 := hide hW7
  have hNm := num_any er W5.drew
  clear hQ hr hb4 hQW hpv' hb5 hk5 hz1 hB1 hk1 hk2 hb2 hPW hpv hb3 hk3 hr0 e1 e2 e3 e4 e5 s2 s3 s4 s5 l3 l5 b15 g1 g2 g3 r1 r2 r3 r5 t6 t7 t8 k6 k7 c30 hL1 hL2 hBF hPF hQF hend p1 p2 p3 p4 H1 H3 hW3
  cases hg : (er == 0) with
  | false =>
    have GG : Hid (false = (er == 0)) := hg.symm
    go_wp2_with fail
    try rw [hW5]
    refine wp_region_held_drew (S := (fun w' => (w'.cell? ⟨w2.heap.size, 0, none⟩ = some (.slice a1 n1 c1) ∧ w'.cell? ⟨w2.heap.size, 1, none⟩ = some (.slice a2 n2 c2) ∧ w'.cell? ⟨w2.heap.size, 2, none⟩ = some (.slice a3 n3 c3) ∧ w'.cell? ⟨w2.heap.size, 3, none⟩ = some (.slice a4 n4 c4)) ∧ (w'.cell? ⟨w4.heap.size, 0, none⟩ = some (.slice x1 y1 z1) ∧ w'.cell? ⟨w4.heap.size, 1, none⟩ = some (.slice x2 y2 z2) ∧ w'.cell? ⟨w4.heap.size, 2, none⟩ = some (.slice x3 y3 z3) ∧ w'.cell? ⟨w4.heap.size, 3, none⟩ = some (.slice x4 y4 z4)))) (by kernel_rfl) hS0 (fun hHeld => ?_)
    clear hS0
    refine wpAnyH_take (i := 0) (v := ?_) rfl (by kernel_rfl) (by kernel_rfl) (by kernel_rfl) (fun _ _ _ h => h) (Or.inl ⟨by rfl, ?_⟩) hHeld ?_
    rotate_left
    · intro w9 hSw; (try dsimp only at hSw); go_simp; try with_reducible rfl
    simp only [Act.put, List.getElem_toArray, List.getElem_cons_zero, List.getElem_cons_succ, List.setIfInBounds_toArray, List.set_cons_succ, List.set_cons_zero]
    refine wpAnyH_take (i := 1) (v := ?_) rfl (by kernel_rfl) (by kernel_rfl) (by kernel_rfl) (fun _ _ _ h => h) (Or.inl ⟨by rfl, ?_⟩) hHeld ?_
    rotate_left
    · intro w9 hSw; (try dsimp only at hSw); go_simp; try with_reducible rfl
    simp only [Act.put, List.getElem_toArray, List.getElem_cons_zero, List.getElem_cons_succ, List.setIfInBounds_toArray, List.set_cons_succ, List.set_cons_zero]
    refine wpAnyH_take (i := 2) (v := ?_) rfl (by kernel_rfl) (by kernel_rfl) (by kernel_rfl) (fun _ _ _ h => h) (Or.inl ⟨by rfl, ?_⟩) hHeld ?_
    rotate_left
    · intro w9 hSw; (try dsimp only at hSw); go_simp; try with_reducible rfl
    simp only [Act.put, List.getElem_toArray, List.getElem_cons_zero, List.getElem_cons_succ, List.setIfInBounds_toArray, List.set_cons_succ, List.set_cons_zero]
    refine wpAnyH_take (i := 3) (v := ?_) rfl (by kernel_rfl) (by kernel_rfl) (by kernel_rfl) (fun _ _ _ h => h) (Or.inl ⟨by rfl, ?_⟩) hHeld ?_
    rotate_left
    · intro w9 hSw; (try dsimp only at hSw); go_simp; try with_reducible rfl
    simp only [Act.put, List.getElem_toArray, List.getElem_cons_zero, List.getElem_cons_succ, List.setIfInBounds_toArray, List.set_cons_succ, List.set_cons_zero]
    refine wpAnyH_take (i := 4) (v := ?_) rfl (by kernel_rfl) (by kernel_rfl) (by kernel_rfl) (fun _ _ _ h => h) (Or.inl ⟨by rfl, ?_⟩) hHeld ?_
    rotate_left
    · intro w9 hSw; (try dsimp only at hSw); go_simp; try with_reducible rfl
    simp only [Act.put, List.getElem_toArray, List.getElem_cons_zero, List.getElem_cons_succ, List.setIfInBounds_toArray, List.set_cons_succ, List.set_cons_zero]
    refine wpAnyH_take (i := 5) (v := undef) rfl (by kernel_rfl) (by kernel_rfl) (by kernel_rfl) (fun _ _ _ h => h) (Or.inr ⟨by rfl, rfl⟩) hHeld ?_
    simp only [Act.put, List.getElem_toArray, List.getElem_cons_zero, List.getElem_cons_succ, List.setIfInBounds_toArray, List.set_cons_succ, List.set_cons_zero]
    refine wpAnyH_take (i := 6) (v := undef) rfl (by kernel_rfl) (by kernel_rfl) (by kernel_rfl) (fun _ _ _ h => h) (Or.inr ⟨by rfl, rfl⟩) hHeld ?_
    simp only [Act.put, List.getElem_toArray, List.getElem_cons_zero, List.getElem_cons_succ, List.setIfInBounds_toArray, List.set_cons_succ, List.set_cons_zero]
    refine wpAnyH_take (i := 7) (v := undef) rfl (by kernel_rfl) (by kernel_rfl) (by kernel_rfl) (fun _ _ _ h => h) (Or.inr ⟨by rfl, rfl⟩) hHeld ?_
    simp only [Act.put, List.getElem_toArray, List.getElem_cons_zero, List.getElem_cons_succ, List.setIfInBounds_toArray, List.set_cons_succ, List.set_cons_zero]
    refine wpAnyH_take (i := 8) (v := ?_) rfl (by kernel_rfl) (by kernel_rfl) (by kernel_rfl) (fun _ _ _ h => h) (Or.inl ⟨by rfl, ?_⟩) hHeld ?_
    rotate_left
    · intro w9 hSw; (try dsimp only at hSw); go_simp; try with_reducible rfl
    simp only [Act.put, List.getElem_toArray, List.getElem_cons_zero, List.getElem_cons_succ, List.setIfInBounds_toArray, List.set_cons_succ, List.set_cons_zero]
    refine wpAnyH_ready (rs := [9]) (by kernel_rfl) (by simp) ?_
    refine AllReadyH.cons rfl (fun K hK => ?_) AllReadyH.nil
    refine wp_store_sub _ _ _ rfl w.heap.size 0 #[.slice a1 n1 c1, .slice a2 n2 c2, .slice a3 n3 c3, .slice a4 n4 c4] rfl rfl HS.out.1 HS.out.2.1 Tryz.sizePg one4 ?_
    rw [show (#[Value.slice a1 n1 c1, .slice a2 n2 c2, .slice a3 n3 c3, .slice a4 n4 c4] : Array Value).toList = [.slice a1 n1 c1, .slice a2 n2 c2, .slice a3 n3 c3, .slice a4 n4 c4] from rfl, hW6.out]
    refine hK.out _ _ HC6.out (fun hHeld => ?_)
    clear hK K
    try simp only [Act.put, List.getElem_toArray, List.getElem_cons_zero, List.getElem_cons_succ, List.setIfInBounds_toArray, List.set_cons_succ, List.set_cons_zero]
    refine wpAnyH_ready (rs := [10]) (by kernel_rfl) (by simp) ?_
    refine AllReadyH.cons rfl (fun K hK => ?_) AllReadyH.nil
    refine wp_store_sub _ _ _ rfl (w.heap.size + 1) 0 #[.slice x1 y1 z1, .slice x2 y2 z2, .slice x3 y3 z3, .slice x4 y4 z4] rfl rfl HS.out.2.2.1 HS.out.2.2.2 Tryz.sizeRg one4 ?_
    rw [show (#[Value.slice x1 y1 z1, .slice x2 y2 z2, .slice x3 y3 z3, .slice x4 y4 z4] : Array Value).toList = [.slice x1 y1 z1, .slice x2 y2 z2, .slice x3 y3 z3, .slice x4 y4 z4] from rfl, hW7.out]
    refine hK.out _ _ HC7.out (fun hHeld => ?_)
    clear hK K
    try simp only [Act.put, List.getElem_toArray, List.getElem_cons_zero, List.getElem_cons_succ, List.setIfInBounds_toArray, List.set_cons_succ, List.set_cons_zero]
    refine wpAnyH_take (i := 11) (v := ?_) rfl (by kernel_rfl) (by kernel_rfl) (by kernel_rfl) (fun _ _ _ h => h) (Or.inl ⟨by rfl, ?_⟩) hHeld ?_
    rotate_left
    · intro w9 hSw; (try dsimp only at hSw); go_simp; try with_reducible rfl
    simp only [Act.put, List.getElem_toArray, List.getElem_cons_zero, List.getElem_cons_succ, List.setIfInBounds_toArray, List.set_cons_succ, List.set_cons_zero]
    refine wpAnyH_done (by kernel_rfl) ?_ _
    clear hHeld
    go_wp2_with fail
    exact bodyPost_ret (load_val rfl rfl rfl rfl HE.out.1 HE.out.2.1) rfl (HE.out.2.2 _ GG.out)
  | true =>
    have GG : Hid (true = (er == 0)) := hg.symm
    go_wp2_with fail
    try rw [hW5]
    refine wp_region_held_drew (S := (fun w' => (w'.cell? ⟨w2.heap.size, 0, none⟩ = some (.slice a1 n1 c1) ∧ w'.cell? ⟨w2.heap.size, 1, none⟩ = some (.slice a2 n2 c2) ∧ w'.cell? ⟨w2.heap.size, 2, none⟩ = some (.slice a3 n3 c3) ∧ w'.cell? ⟨w2.heap.size, 3, none⟩ = some (.slice a4 n4 c4)) ∧ (w'.cell? ⟨w4.heap.size, 0, none⟩ = some (.slice x1 y1 z1) ∧ w'.cell? ⟨w4.heap.size, 1, none⟩ = some (.slice x2 y2 z2) ∧ w'.cell? ⟨w4.heap.size, 2, none⟩ = some (.slice x3 y3 z3) ∧ w'.cell? ⟨w4.heap.size, 3, none⟩ = some (.slice x4 y4 z4)))) (by kernel_rfl) hS0 (fun hHeld => ?_)
    refine wpAnyH_take (i := 0) (v := ?_) rfl (by kernel_rfl) (by kernel_rfl) (by kernel_rfl) (fun _ _ _ h => h) (Or.inl ⟨by rfl, ?_⟩) hHeld ?_
    rotate_left
    · intro w9 hSw; (try dsimp only at hSw); go_simp; try with_reducible rfl
    simp only [Act.put, List.getElem_toArray, List.getElem_cons_zero, List.getElem_cons_succ, List.setIfInBounds_toArray, List.set_cons_succ, List.set_cons_zero]
    refine wpAnyH_take (i := 1) (v := ?_) rfl (by kernel_rfl) (by kernel_rfl) (by kernel_rfl) (fun _ _ _ h => h) (Or.inl ⟨by rfl, ?_⟩) hHeld ?_
    rotate_left
    · intro w9 hSw; (try dsimp only at hSw); go_simp; try with_reducible rfl
    simp only [Act.put, List.getElem_toArray, List.getElem_cons_zero, List.getElem_cons_succ, List.setIfInBounds_toArray, List.set_cons_succ, List.set_cons_zero]
    refine wpAnyH_take (i := 2) (v := ?_) rfl (by kernel_rfl) (by kernel_rfl) (by kernel_rfl) (fun _ _ _ h => h) (Or.inl ⟨by rfl, ?_⟩) hHeld ?_
    rotate_left
    · intro w9 hSw; (try dsimp only at hSw); go_simp; try with_reducible rfl
    simp only [Act.put, List.getElem_toArray, List.getElem_cons_zero, List.getElem_cons_succ, List.setIfInBounds_toArray, List.set_cons_succ, List.set_cons_zero]
    refine wpAnyH_take (i := 3) (v := ?_) rfl (by kernel_rfl) (by kernel_rfl) (by kernel_rfl) (fun _ _ _ h => h) (Or.inl ⟨by rfl, ?_⟩) hHeld ?_
    rotate_left
    · intro w9 hSw; (try dsimp only at hSw); go_simp; try with_reducible rfl
    simp only [Act.put, List.getElem_toArray, List.getElem_cons_zero, List.getElem_cons_succ, List.setIfInBounds_toArray, List.set_cons_succ, List.set_cons_zero]
    refine wpAnyH_take (i := 4) (v := ?_) rfl (by kernel_rfl) (by kernel_rfl) (by kernel_rfl) (fun _ _ _ h => h) (Or.inl ⟨by rfl, ?_⟩) hHeld ?_
    rotate_left
    · intro w9 hSw; (try dsimp only at hSw); go_simp; try with_reducible rfl
    simp only [Act.put, List.getElem_toArray, List.getElem_cons_zero, List.getElem_cons_succ, List.setIfInBounds_toArray, List.set_cons_succ, List.set_cons_zero]
    refine wpAnyH_take (i := 5) (v := ?_) rfl (by kernel_rfl) (by kernel_rfl) (by kernel_rfl) (fun _ _ _ h => h) (Or.inl ⟨by rfl, ?_⟩) hHeld ?_
    rotate_left
    · intro w9 hSw; (try dsimp only at hSw); go_simp; try with_reducible rfl
    simp only [Act.put, List.getElem_toArray, List.getElem_cons_zero, List.getElem_cons_succ, List.setIfInBounds_toArray, List.set_cons_succ, List.set_cons_zero]
    refine wpAnyH_ready (rs := [6]) (by kernel_rfl) (by simp) ?_
    refine AllReadyH.cons rfl (fun K hK => ?_) AllReadyH.nil
    go_simp
    go_at_call 11
    refine hNm.mono ?_
    rintro e w6 ⟨rfl, rfl⟩
    go_wp2_with fail
    refine hK.out _ _ hS0 (fun hHeld => ?_)
    clear hK K hNm hS0
    try simp only [Act.put, List.getElem_toArray, List.getElem_cons_zero, List.getElem_cons_succ, List.setIfInBounds_toArray, List.set_cons_succ, List.set_cons_zero]
    refine wpAnyH_take (i := 7) (v := ?_) rfl (by kernel_rfl) (by kernel_rfl) (by kernel_rfl) (fun _ _ _ h => h) (Or.inl ⟨by rfl, ?_⟩) hHeld ?_
    rotate_left
    · intro w9 hSw; (try dsimp only at hSw); go_simp; try with_reducible rfl
    simp only [Act.put, List.getElem_toArray, List.getElem_cons_zero, List.getElem_cons_succ, List.setIfInBounds_toArray, List.set_cons_succ, List.set_cons_zero]
    refine wpAnyH_take (i := 8) (v := ?_) rfl (by kernel_rfl) (by kernel_rfl) (by kernel_rfl) (fun _ _ _ h => h) (Or.inl ⟨by rfl, ?_⟩) hHeld ?_
    rotate_left
    · intro w9 hSw; (try dsimp only at hSw); go_simp; try with_reducible rfl
    simp only [Act.put, List.getElem_toArray, List.getElem_cons_zero, List.getElem_cons_succ, List.setIfInBounds_toArray, List.set_cons_succ, List.set_cons_zero]
    refine wpAnyH_ready (rs := [9]) (by kernel_rfl) (by simp) ?_
    refine AllReadyH.cons rfl (fun K hK => ?_) AllReadyH.nil
    refine wp_store_sub _ _ _ rfl w.heap.size 0 #[.slice a1 n1 c1, .slice a2 n2 c2, .slice a3 n3 c3, .slice a4 n4 c4] rfl rfl HS.out.1 HS.out.2.1 Tryz.sizePg one4 ?_
    rw [show (#[Value.slice a1 n1 c1, .slice a2 n2 c2, .slice a3 n3 c3, .slice a4 n4 c4] : Array Value).toList = [.slice a1 n1 c1, .slice a2 n2 c2, .slice a3 n3 c3, .slice a4 n4 c4] from rfl, hW6.out]
    refine hK.out _ _ HC6.out (fun hHeld => ?_)
    clear hK K
    try simp only [Act.put, List.getElem_toArray, List.getElem_cons_zero, List.getElem_cons_succ, List.setIfInBounds_toArray, List.set_cons_succ, List.set_cons_zero]
    refine wpAnyH_ready (rs := [10]) (by kernel_rfl) (by simp) ?_
    refine AllReadyH.cons rfl (fun K hK => ?_) AllReadyH.nil
    refine wp_store_sub _ _ _ rfl (w.heap.size + 1) 0 #[.slice x1 y1 z1, .slice x2 y2 z2, .slice x3 y3 z3, .slice x4 y4 z4] rfl rfl HS.out.2.2.1 HS.out.2.2.2 Tryz.sizeRg one4 ?_
    rw [show (#[Value.slice x1 y1 z1, .slice x2 y2 z2, .slice x3 y3 z3, .slice x4 y4 z4] : Array Value).toList = [.slice x1 y1 z1, .slice x2 y2 z2, .slice x3 y3 z3, .slice x4 y4 z4] from rfl, hW7.out]
    refine hK.out _ _ HC7.out (fun hHeld => ?_)
    clear hK K
    try simp only [Act.put, List.getElem_toArray, List.getElem_cons_zero, List.getElem_cons_succ, List.setIfInBounds_toArray, List.set_cons_succ, List.set_cons_zero]
    refine wpAnyH_take (i := 11) (v := ?_) rfl (by kernel_rfl) (by kernel_rfl) (by kernel_rfl) (fun _ _ _ h => h) (Or.inl ⟨by rfl, ?_⟩) hHeld ?_
    rotate_left
    · intro w9 hSw; (try dsimp only at hSw); go_simp; try with_reducible rfl
    simp only [Act.put, List.getElem_toArray, List.getElem_cons_zero, List.getElem_cons_succ, List.setIfInBounds_toArray, List.set_cons_succ, List.set_cons_zero]
    refine wpAnyH_done (by kernel_rfl) ?_ _
    clear hHeld
    go_wp2_with fail
    exact bodyPost_ret (load_val rfl rfl rfl rfl HE.out.1 HE.out.2.1) rfl (HE.out.2.2 _ GG.out)
end Go.Proofs.YtlpdomgedaockaaGreatDoor
namespace Go.Proofs.YtlpdomgedaockaaGreatDoor
open Go.RowKit Go.Shelf Go.Proofs.Cod
def sm (i : In7) : Prop := (0 ≤ i.r ∧ i.r ≤ 1000) ∧ (0 ≤ i.aN ∧ i.aN ≤ 1000) ∧ (0 ≤ i.bN ∧ i.bN ≤ 1000) ∧ (0 ≤ i.x ∧ i.x ≤ 1000)
theorem sm_new (f : Tx) : sm (newIns f) := by unfold sm newIns; simp
theorem reg_small {t : Tx} (h : isReg t = true) : regN t ≤ 3 := by
  obtain ⟨a, b, rfl, h1, h2⟩ := isReg_is h
  show b.toNat - 48 ≤ 3
  omega
theorem arg_small {t : Tx} (h : (isReg t || isNum t) = true) : argN t ≤ 1000 := by
  unfold argN
  by_cases hr : isReg t = true
  · rw [if_pos hr]
    have := reg_small hr
    omega
  · rw [if_neg hr]
    have hn : isNum t = true := by simpa [hr] using h
    unfold isNum at hn
    simp only [Bool.and_eq_true, decide_eq_true_eq] at hn
    have := num_small hn.2
    have h3 : 10 ^ t.length ≤ 10 ^ 3 := Nat.pow_le_pow_right (by omega) hn.1.2
    omega
section
variable {N : Tx → Option (Int × Nat)} {len : Int → Nat}
def isNb (c : Int) : Bool := c == 118 || c == 102 || c == 109
def lastN : List (Int × Tx) → Option Int
  | [] => none
  | p :: l => match lastN l with
    | some c => some c
    | none => if isNb p.1 then some p.1 else none
theorem fill_nm (hN : ∀ t k n, N t = some (k, n) → n < len k) (hl : ∀ k, len k ≤ 4) {i i' : In7} {t : Tx} {c : Int} (hi : sm i) (h : (match N t with | some (k, n) => if k = c then some { i with x := (n : Int) } else none | none => none) = some i') : sm i' ∧ i'.op = i.op ∧ 0 ≤ i'.x ∧ i'.x < len c := by
  cases hNt : N t with
  | none => rw [hNt] at h; cases h
  | some q =>
    obtain ⟨k, n⟩ := q
    rw [hNt] at h
    have h : (if k = c then some { i with x := (n : Int) } else none) = some i' := h
    by_cases hk : k = c
    · subst hk
      rw [if_pos rfl] at h
      cases h
      have h6 := hN t k n hNt
      have h7 := hl k
      exact ⟨⟨hi.1, hi.2.1, hi.2.2.1, ⟨by show (0 : Int) ≤ (n : Int); omega, by show (n : Int) ≤ 1000; omega⟩⟩, rfl, by show (0 : Int) ≤ (n : Int); omega, by show (n : Int) < (len k : Int); omega⟩
    · rw [if_neg hk] at h; cases h
theorem fillOne_sm (hN : ∀ t k n, N t = some (k, n) → n < len k) (hl : ∀ k, len k ≤ 4) {i i' : In7} {c : UInt8} {t : Tx} (hc : c ∈ letters) (hi : sm i) (hp : fitsP t (c.toNat : Int) = true) (h : fillOne N i ((c.toNat : Int), t) = some i') : sm i' ∧ i'.op = i.op ∧ (isNb (c.toNat : Int) = false → i'.x = i.x) ∧ (isNb (c.toNat : Int) = true → 0 ≤ i'.x ∧ i'.x < len (c.toNat : Int)) := by
  rcases letters_or hc with rfl | rfl | rfl | rfl | rfl | rfl | rfl | rfl
  · have h : some { i with r := (regN t : Int) } = some i' := h
    cases h
    have hr : isReg t = true := hp
    have := reg_small hr
    exact ⟨⟨⟨by show (0 : Int) ≤ (regN t : Int); omega, by show (regN t : Int) ≤ 1000; omega⟩, hi.2.1, hi.2.2.1, hi.2.2.2⟩, rfl, fun _ => rfl, fun e => absurd e (by decide)⟩
  · have h : some { i with aR := isReg t, aN := (argN t : Int) } = some i' := h
    cases h
    have ha : (isReg t || isNum t) = true := hp
    have := arg_small ha
    exact ⟨⟨hi.1, ⟨by show (0 : Int) ≤ (argN t : Int); omega, by show (argN t : Int) ≤ 1000; omega⟩, hi.2.2.1, hi.2.2.2⟩, rfl, fun _ => rfl, fun e => absurd e (by decide)⟩
  · have h : some { i with bR := isReg t, bN := (argN t : Int) } = some i' := h
    cases h
    have ha : (isReg t || isNum t) = true := hp
    have := arg_small ha
    exact ⟨⟨hi.1, hi.2.1, ⟨by show (0 : Int) ≤ (argN t : Int); omega, by show (argN t : Int) ≤ 1000; omega⟩, hi.2.2.2⟩, rfl, fun _ => rfl, fun e => absurd e (by decide)⟩
  · obtain ⟨q1, q2, q3⟩ := fill_nm hN hl (c := 118) hi h
    exact ⟨q1, q2, fun e => absurd e (by decide), fun _ => q3⟩
  · obtain ⟨q1, q2, q3⟩ := fill_nm hN hl (c := 102) hi h
    exact ⟨q1, q2, fun e => absurd e (by decide), fun _ => q3⟩
  · obtain ⟨q1, q2, q3⟩ := fill_nm hN hl (c := 109) hi h
    exact ⟨q1, q2, fun e => absurd e (by decide), fun _ => q3⟩
  · have h : some i = some i' := h
    cases h
    exact ⟨hi, rfl, fun _ => rfl, fun e => absurd e (by decide)⟩
  · have h : some i = some i' := h
    cases h
    exact ⟨hi, rfl, fun _ => rfl, fun e => absurd e (by decide)⟩
theorem fillAll_sm (hN : ∀ t k n, N t = some (k, n) → n < len k) (hl : ∀ k, len k ≤ 4) : ∀ (ps : Tx) (ts : List Tx) (i i' : In7), (∀ c, c ∈ ps → c ∈ letters) → fitsT ts ps = true → sm i → fillAll N i (zipP ps ts) = some i' → sm i' ∧ i'.op = i.op ∧ (lastN (zipP ps ts) = none → i'.x = i.x) ∧ (∀ c, lastN (zipP ps ts) = some c → 0 ≤ i'.x ∧ i'.x < len c)
  | [], [], i, i', _, _, hi, h => by
    have h : some i = some i' := h
    cases h
    exact ⟨hi, rfl, fun _ => rfl, fun c e => by cases e⟩
  | [], _ :: _, _, _, _, h, _, _ => by cases h
  | _ :: _, [], _, _, _, h, _, _ => by cases h
  | c :: ps, t :: ts, i, i', hc, hf, hi, h => by
    have hf : (fitsP t (c.toNat : Int) && fitsT ts ps) = true := hf
    rw [Bool.and_eq_true] at hf
    have hz : zipP (c :: ps) (t :: ts) = ((c.toNat : Int), t) :: zipP ps ts := rfl
    rw [hz] at h ⊢
    cases h1 : fillOne N i ((c.toNat : Int), t) with
    | none =>
      unfold fillAll at h
      rw [h1] at h; cases h
    | some i1 =>
      have h : fillAll N i1 (zipP ps ts) = some i' := by
        unfold fillAll at h
        rw [h1] at h; exact h
      obtain ⟨a1, a2, a3, a4⟩ := fillOne_sm hN hl (hc c (by simp)) hi hf.1 h1
      obtain ⟨b1, b2, b3, b4⟩ := fillAll_sm hN hl ps ts i1 i' (fun c' h' => hc c' (by simp [h'])) hf.2 a1 h
      refine ⟨b1, b2.trans a2, fun e => ?_, fun d e => ?_⟩
      · unfold lastN at e
        cases hl2 : lastN (zipP ps ts) with
        | some d => rw [hl2] at e; cases e
        | none =>
          rw [hl2] at e
          have e : (if isNb (c.toNat : Int) then some (c.toNat : Int) else none) = none := e
          have hb : isNb (c.toNat : Int) = false := by
            cases hb : isNb (c.toNat : Int) with
            | false => rfl
            | true => rw [hb] at e; cases e
          rw [b3 hl2, a3 hb]
      · unfold lastN at e
        cases hl2 : lastN (zipP ps ts) with
        | some d' =>
          rw [hl2] at e
          have e : some d' = some d := e
          cases e
          exact b4 _ hl2
        | none =>
          rw [hl2] at e
          have e : (if isNb (c.toNat : Int) then some (c.toNat : Int) else none) = some d := e
          cases hb : isNb (c.toNat : Int) with
          | false => rw [hb] at e; cases e
          | true =>
            rw [hb] at e
            have e : some (c.toNat : Int) = some d := e
            cases e
            rw [b3 hl2]; exact a4 hb
end
structure ShP (q : Tx × Tx) (ts : List Tx) : Prop where
  n : ∀ c, c ∈ q.2 → isNb (c.toNat : Int) = true → lastN (zipP q.2 ts) = some (c.toNat : Int) ∧ (116 : UInt8) ∉ q.2 ∧ (108 : UInt8) ∉ q.2
  t : (116 : UInt8) ∈ q.2 → ∃ x, offP (zipP q.2 ts) = [(116, x)]
  l : (108 : UInt8) ∈ q.2 → ∃ x, offP (zipP q.2 ts) = [(108, x)]
  o : (116 : UInt8) ∉ q.2 → (108 : UInt8) ∉ q.2 → offP (zipP q.2 ts) = []
theorem shape_parts {q : Tx × Tx} (hq : q ∈ shapeT) {ts : List Tx} (hl : ts.length = q.2.length) : ShP q ts := by
  simp only [shapeT, List.mem_cons, List.not_mem_nil, or_false] at hq
  rcases hq with rfl | rfl | rfl | rfl | rfl | rfl | rfl | rfl | rfl | rfl | rfl | rfl | rfl | rfl | rfl | rfl | rfl <;>
    (first
      | (obtain rfl := List.length_eq_zero_iff.1 hl)
      | (obtain ⟨a, rfl⟩ := List.length_eq_one_iff.1 hl)
      | (obtain ⟨a, b, rfl⟩ := len2 hl)
      | (obtain ⟨a, b, c, rfl⟩ := len3 hl)) <;>
    (refine ⟨fun d hd hb => ?_, fun h => ?_, fun h => ?_, fun h1 h2 => ?_⟩
     · first
         | (exact absurd hd List.not_mem_nil)
         | (simp at hd; rcases hd with rfl | rfl | rfl <;> first | (exact ⟨rfl, by decide, by decide⟩) | (exact absurd hb (by decide)))
         | (simp at hd; rcases hd with rfl | rfl <;> first | (exact ⟨rfl, by decide, by decide⟩) | (exact absurd hb (by decide)))
         | (simp at hd; subst hd; first | (exact ⟨rfl, by decide, by decide⟩) | (exact absurd hb (by decide)))
     · first
         | (exact ⟨_, rfl⟩)
         | (exact absurd h (by decide))
     · first
         | (exact ⟨_, rfl⟩)
         | (exact absurd h (by decide))
     · first
         | rfl
         | (exact absurd (by decide) h1)
         | (exact absurd (by decide) h2))
end Go.Proofs.YtlpdomgedaockaaGreatDoor
namespace Go.Proofs.YtlpdomgedaockaaGreatDoor
open Go.RowKit Go.Shelf Go.Proofs.Cod
structure PIok (len : Int → Nat) (p : PI) : Prop where
  ex : ∃ q ts, q ∈ shapeT ∧ p.i.op = q.1 ∧ ts.length = q.2.length ∧ p.off = offP (zipP q.2 ts) ∧ sm p.i ∧ ∀ c, c ∈ q.2 → isNb (c.toNat : Int) = true → 0 ≤ p.i.x ∧ p.i.x < len (c.toNat : Int)
theorem PIok.mono {len len' : Int → Nat} {p : PI} (h : PIok len p) (hl : ∀ k, len k ≤ len' k) : PIok len' p := by
  obtain ⟨q, ts, h1, h2, h3, h4, h5, h6⟩ := h.ex
  refine ⟨q, ts, h1, h2, h3, h4, h5, fun c hc hb => ?_⟩
  have := h6 c hc hb
  have := hl (c.toNat : Int)
  omega
structure PW (s : PS) : Prop where
  nlt : ∀ t k n, s.N t = some (k, n) → n < (s.nms k).length
  few : ∀ k, (s.nms k).length ≤ 4
  nm8 : ∀ k x, x ∈ s.nms k → x.length ≤ 8
  thr : (s.nms 116).length = s.bod.length
  bod : ∀ b, b ∈ s.bod → b.code.length ≤ 24 ∧ (∀ t n, b.labs t = some n → n ≤ b.code.length) ∧ ∀ p, p ∈ b.code → PIok (fun k => (s.nms k).length) p
theorem PW.new : PW PS.new := ⟨(fun t k n h => by cases h), (fun k => by simp [PS.new]), (fun k x h => by cases h), rfl, (fun b h => by cases h)⟩
theorem declAll_nlt {kd : Int} {len : Int → Nat} : ∀ (ts : List Tx) (N : Tx → Option (Int × Nat)) (l : List Tx) (p : (Tx → Option (Int × Nat)) × List Tx), (∀ t k n, N t = some (k, n) → n < (if k = kd then l.length else len k)) → declAll kd N l ts = some p → ∀ t k n, p.1 t = some (k, n) → n < (if k = kd then p.2.length else len k)
  | [], N, l, p, h, e => by
    have e : some (N, l) = some p := e
    cases e
    exact h
  | t :: ts, N, l, p, h, e => by
    cases hN : N t with
    | some q => simp [declAll, hN] at e
    | none =>
      have e : declAll kd (putT N t (kd, l.length)) (l ++ [t]) ts = some p := by
        simp only [declAll, hN] at e; exact e
      refine declAll_nlt ts _ _ p (fun x k n hx => ?_) e
      unfold putT at hx
      split at hx
      · have hx : some (kd, l.length) = some (k, n) := hx
        cases hx
        rw [if_pos rfl, List.length_append]; simp
      · have := h x k n hx
        split
        · rename_i hk
          rw [if_pos hk] at this
          rw [List.length_append]; omega
        · rename_i hk
          rw [if_neg hk] at this
          exact this
theorem nam8 {t : Tx} (h : isNam t = true) : t.length ≤ 8 := by
  unfold isNam at h
  simp only [Bool.and_eq_true, decide_eq_true_eq] at h
  omega
section
variable {s s' : PS}
theorem decl_pw {kd : Int} {ts : List Tx} (h : PW s) (e : declT kd ts s = .ok s') : (∀ t k n, s'.N t = some (k, n) → n < (s'.nms k).length) ∧ (∀ k, (s'.nms k).length ≤ 4) ∧ (∀ k x, x ∈ s'.nms k → x.length ≤ 8) ∧ s'.bod = s.bod ∧ (∀ k, (s.nms k).length ≤ (s'.nms k).length) ∧ (∀ k, k ≠ kd → s'.nms k = s.nms k) ∧ s'.nms kd = s.nms kd ++ ts := by
  unfold declT at e
  split at e
  · cases e
  · rename_i hc
    split at e
    · cases e
    · rename_i p hp
      split at e
      · cases e
      · rename_i hl
        cases e
        have hlen := declAll_len hp
        have hnl := declAll_nlt (len := fun k => (s.nms k).length) ts s.N (s.nms kd) p (fun t k n hN => by
          have := h.nlt t k n hN
          split
          · rename_i hk; subst hk; exact this
          · exact this) hp
        refine ⟨fun t k n hN => ?_, fun k => ?_, fun k x hx => ?_, rfl, fun k => ?_, fun k hk => putZ_other _ hk, ?_⟩
        · have := hnl t k n hN
          show n < (putZ s.nms kd p.2 k).length
          by_cases hk : k = kd
          · subst hk; rw [putZ_same]; rw [if_pos rfl] at this; exact this
          · rw [putZ_other _ hk]; rw [if_neg hk] at this; exact this
        · show (putZ s.nms kd p.2 k).length ≤ 4
          by_cases hk : k = kd
          · subst hk; rw [putZ_same]; omega
          · rw [putZ_other _ hk]; exact h.few k
        · have hx : x ∈ putZ s.nms kd p.2 k := hx
          by_cases hk : k = kd
          · subst hk
            rw [putZ_same, hlen] at hx
            rcases List.mem_append.1 hx with hx | hx
            · exact h.nm8 k x hx
            · have hall : ts.all isNam = true := by
                cases hb : ts.all isNam with
                | true => rfl
                | false => exact absurd (.inr (.inr hb)) hc
              exact nam8 (List.all_eq_true.1 hall x hx)
          · rw [putZ_other _ hk] at hx
            exact h.nm8 k x hx
        · show (s.nms k).length ≤ (putZ s.nms kd p.2 k).length
          by_cases hk : k = kd
          · subst hk; rw [putZ_same, hlen, List.length_append]; omega
          · rw [putZ_other _ hk]; exact Nat.le_refl _
        · show putZ s.nms kd p.2 kd = _
          rw [putZ_same, hlen]
theorem set_pw (h : PW s) {b b' : PB} (hb : s.bod.getLast? = some b) (hb' : b'.code.length ≤ 24 ∧ (∀ t n, b'.labs t = some n → n ≤ b'.code.length) ∧ ∀ p, p ∈ b'.code → PIok (fun k => (s.nms k).length) p) : PW (setLast s b') := by
  refine ⟨h.nlt, h.few, h.nm8, ?_, fun x hx => ?_⟩
  · show (s.nms 116).length = (s.bod.dropLast ++ [b']).length
    have hne : s.bod ≠ [] := fun e => by rw [e] at hb; cases hb
    have := List.length_pos_iff.2 hne
    rw [List.length_append, List.length_dropLast, h.thr]; simp; omega
  · have hx : x ∈ s.bod.dropLast ++ [b'] := hx
    rcases List.mem_append.1 hx with hx | hx
    · exact h.bod x (List.dropLast_subset _ hx)
    · obtain rfl := List.mem_singleton.1 hx
      exact hb'
theorem instr_pw {line : Int} {f : Tx} {ts : List Tx} {b : PB} (h : PW s) (hb : s.bod.getLast? = some b) (e : instrT line f ts s b = .ok s') : PW s' := by
  unfold instrT at e
  split at e
  · cases e
  · rename_i ps hps
    split at e
    · cases e
    · rename_i hf
      split at e
      · cases e
      · rename_i hl
        split at e
        · cases e
        · rename_i i hi
          cases e
          have hbm := h.bod b (List.mem_of_getLast? hb)
          have hft : fitsT ts ps = true := by
            cases hb2 : fitsT ts ps with
            | true => rfl
            | false => exact absurd hb2 hf
          rcases parts_cases f with ⟨q, hq, hq1, hq2⟩ | ⟨hn, -⟩
          · rw [hps] at hq2
            cases hq2
            have htl : ts.length = q.2.length := by
              by_cases hh : ts.length = q.2.length
              · exact hh
              · rw [fitsT_len hh] at hft; cases hft
            obtain ⟨g1, g2, g3, g4⟩ := fillAll_sm (len := fun k => (s.nms k).length) h.nlt h.few q.2 ts (newIns f) i (shape_letters hq) hft (sm_new f) hi
            refine set_pw h hb ⟨by show (b.code ++ [_]).length ≤ 24; rw [List.length_append]; simp; omega, fun t n hn => ?_, fun p hp => ?_⟩
            · have := hbm.2.1 t n hn
              show n ≤ (b.code ++ [_]).length
              rw [List.length_append]; omega
            · have hp : p ∈ b.code ++ [⟨i, line, offP (zipP q.2 ts)⟩] := hp
              rcases List.mem_append.1 hp with hp | hp
              · exact hbm.2.2 p hp
              · obtain rfl := List.mem_singleton.1 hp
                exact ⟨q, ts, hq, g2.trans hq1, htl, rfl, g1, fun c hc hb3 => g4 _ ((shape_parts hq htl).n c hc hb3).1⟩
          · rw [hps] at hn; cases hn
theorem step_pw {line : Int} {f : Tx} {ts : List Tx} (h : PW s) (e : stepT line f ts s = .ok s') : PW s' := by
  unfold stepT at e
  split at e
  · split at e
    · rename_i hl
      cases hd : declT 116 ts s with
      | error x => rw [hd] at e; cases e
      | ok s1 =>
        rw [hd] at e
        cases e
        obtain ⟨d1, d2, d3, d4, d5, d6, d7⟩ := decl_pw h hd
        refine ⟨d1, d2, d3, ?_, fun b hb => ?_⟩
        · show (s1.nms 116).length = (s1.bod ++ [_]).length
          rw [d7, List.length_append, List.length_append, h.thr, d4, hl]; rfl
        · have hb : b ∈ s1.bod ++ [⟨[], fun _ => none⟩] := hb
          rcases List.mem_append.1 hb with hb | hb
          · rw [d4] at hb
            obtain ⟨b1, b2, b3⟩ := h.bod b hb
            exact ⟨b1, b2, fun p hp => (b3 p hp).mono d5⟩
          · obtain rfl := List.mem_singleton.1 hb
            exact ⟨by simp, (fun t n hn => by cases hn), (fun p hp => by cases hp)⟩
    · cases e
  · rename_i hT
    split at e
    · rename_i hnone
      have hb0 : s.bod = [] := by
        cases hb : s.bod with
        | nil => rfl
        | cons a l => rw [hb] at hnone; simp at hnone
      obtain ⟨d1, d2, d3, d4, d5, d6, d7⟩ := decl_pw h e
      have hne : (116 : Int) ≠ headK f := by
        unfold headK
        split
        · decide
        · split
          · decide
          · split <;> decide
      refine ⟨d1, d2, d3, ?_, fun b hb => ?_⟩
      · rw [d6 116 hne, d4]; exact h.thr
      · rw [d4, hb0] at hb; cases hb
    · rename_i b hb
      split at e
      · unfold markT at e
        split at e
        · cases e
        · split at e
          · cases e
          · cases e
            obtain ⟨b1, b2, b3⟩ := h.bod b (List.mem_of_getLast? hb)
            refine set_pw h hb ⟨b1, fun t n hn => ?_, b3⟩
            have hn : putT b.labs f.dropLast b.code.length t = some n := hn
            unfold putT at hn
            split at hn
            · cases hn; exact Nat.le_refl _
            · exact b2 t n hn
      · exact instr_pw h hb e
theorem lines_pw : ∀ (ls : List Tx) (n : Int) (s s' : PS), PW s → linesT ls n s = .ok s' → PW s'
  | [], _, s, s', h, e => by
    have e : Except.ok s = Except.ok s' := e
    cases e; exact h
  | l :: ls, n, s, s', h, e => by
    unfold linesT at e
    cases hl : lineT (n + 1) l s with
    | error x => rw [hl] at e; cases e
    | ok s1 =>
      rw [hl] at e
      refine lines_pw ls (n + 1) s1 s' ?_ e
      unfold lineT at hl
      split at hl
      · cases hl; exact h
      · exact step_pw h hl
end
end Go.Proofs.YtlpdomgedaockaaGreatDoor
