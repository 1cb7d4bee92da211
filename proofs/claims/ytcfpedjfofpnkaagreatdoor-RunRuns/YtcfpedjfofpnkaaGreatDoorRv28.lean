import Derived.Test.YtcfpedjfofpnkaaGreatDoorRv5
import Derived.Test.YtcfpedjfofpnkaaGreatDoorRv27
import Derived.Test.YtcfpedjfofpnkaaGreatDoorRv22
import Derived.Test.YtcfpedjfofpnkaaGreatDoorRv24
import Derived.Test.YtcfpedjfofpnkaaGreatDoorRv26
set_option linter.unusedVariables false
set_option linter.unusedSimpArgs false
namespace Go.Proofs.YtcfpedjfofpnkaaGreatDoor
open Go.RowKit Go.Shelf Go.Proofs.Cod
theorem parseT_err {t : Tx} {er ln : Int} (h : parseT t = .error (er, ln)) : er ≠ 0 := by
 unfold parseT at h
 split at h
 ·cases h; decide
 ·exact parseL_err h
theorem one4 {a b c d : Option Addr} {n1 n2 n3 n4 m1 m2 m3 m4 : Nat} : ∀ v ∈ (#[Value.slice a n1 m1, .slice b n2 m2, .slice c n3 m3, .slice d n4 m4] : Array Value).toList, v.oneCell' = true := by
 intro v hv
 simp only [List.mem_cons, List.not_mem_nil, or_false] at hv
 rcases hv with rfl | rfl | rfl | rfl <;> rfl
set_option maxRecDepth 100000 in
set_option maxHeartbeats 2000000 in
theorem load_any (t : Tx) {w : World} {B : Nat} (ht : Tabs w B) (hB : B ≤ w.heap.size) : Calls Tryz.prog 7 #[.string (bs t)] w (LoadR w t) := by
 obtain ⟨W1, hW1⟩ : ∃ W1, (w.alloc (.cells #[.slice none 0 0, .slice none 0 0, .slice none 0 0, .slice none 0 0] 26)).alloc (.cells #[.slice none 0 0, .slice none 0 0, .slice none 0 0, .slice none 0 0] 29) = W1 := ⟨_, rfl⟩
 have hz1 : W1.heap.size = w.heap.size + 1 + 1 := by rw [← hW1]; show ((w.heap.push _).push _).size = _; simp
 have hza : (w.alloc (.cells #[.slice none 0 0, .slice none 0 0, .slice none 0 0, .slice none 0 0] 26)).heap.size = w.heap.size + 1 := by show (w.heap.push _).size = _; simp
 have hB1 : Below w.heap.size w W1 := by rw [← hW1]; exact ((Below.refl _ _).alloc (Nat.le_refl _) _).alloc (by rw [hza]; omega) _
 have hk1 : W1.heap[w.heap.size]? = some (.cells #[.slice none 0 0, .slice none 0 0, .slice none 0 0, .slice none 0 0] 26) := by
  rw [← hW1, Below.heap_alloc _ _ _ (by rw [hza]; omega)]; exact World.alloc_heap_new w _
 have hk2 : W1.heap[w.heap.size + 1]? = some (.cells #[.slice none 0 0, .slice none 0 0, .slice none 0 0, .slice none 0 0] 29) := by
  have q := World.alloc_heap_new (w.alloc (.cells #[.slice none 0 0, .slice none 0 0, .slice none 0 0, .slice none 0 0] 26)) (.cells #[.slice none 0 0, .slice none 0 0, .slice none 0 0, .slice none 0 0] 29)
  rw [hza, hW1] at q
  exact q
 have ht1 := ht.keep (hB1.mono hB)
 have hlt := ht.lt
 have hP := parse_full t W1 ht1.heads ht1.shapes (by show 0 < _; omega) (by show 2 < _; omega)
 have H1 := hide (⟨hz1, hB1, hk1, hk2⟩ : _ ∧ _ ∧ _ ∧ _)
 clear ht hB hz1 hza hB1 hk1 hk2 ht1 hlt
 go_enter Tryz.func7, Tryz.ntmps7
 go_wp2_with fail
 try rw [hW1]
 refine hP.mono ?_
 intro e w2 hr
 obtain ⟨hb2, er, ln, vV, fV, lV, thV, vs, fs, ls, L, C, rfl, hPW, hpv⟩ := parse_told hr
 obtain ⟨⟨a1, n1, c1, rfl⟩, ⟨a2, n2, c2, rfl⟩, ⟨a3, n3, c3, rfl⟩, ⟨a4, n4, c4, rfl⟩⟩ : (∃ a n c, vV = .slice a n c) ∧ (∃ a n c, fV = .slice a n c) ∧ (∃ a n c, lV = .slice a n c) ∧ (∃ a n c, thV = .slice a n c) := by
  obtain ⟨x1, y1, e1⟩ := owns_len hPW.v
  obtain ⟨x2, y2, e2⟩ := owns_len hPW.f
  obtain ⟨x3, y3, e3⟩ := owns_len hPW.l
  obtain ⟨x4, y4, e4⟩ := owns_len hPW.t
  exact ⟨⟨_, _, _, e1⟩, ⟨_, _, _, e2⟩, ⟨_, _, _, e3⟩, ⟨_, _, _, e4⟩⟩
 obtain ⟨W3, hW3⟩ : ∃ W3, w2.alloc (.cells #[.slice a1 n1 c1, .slice a2 n2 c2, .slice a3 n3 c3, .slice a4 n4 c4] 26) = W3 := ⟨_, rfl⟩
 have hb3 : Below w2.heap.size w2 W3 := by rw [← hW3]; exact (Below.refl _ _).alloc (Nat.le_refl _) _
 have hk3 : W3.heap[w2.heap.size]? = some (.cells #[.slice a1 n1 c1, .slice a2 n2 c2, .slice a3 n3 c3, .slice a4 n4 c4] 26) := by rw [← hW3]; exact World.alloc_heap_new w2 _
 have hQ := rParse_full t W3
 have H3 := hide (⟨hb2, hPW.below hb3, hpv, hb3, hk3, hr⟩ : _ ∧ _ ∧ _ ∧ _ ∧ _ ∧ _)
 clear hP hr hb2 hPW hpv hb3 hk3 hW1
 go_wp2_with fail
 try rw [hW3]
 refine hQ.mono ?_
 intro e w4 hr
 obtain ⟨hb4, er', ln', qv, qf, ql, qt, P, TV, rfl, hQW, hpv'⟩ := rparse_told hr
 obtain ⟨⟨x1, y1, z1, rfl⟩, ⟨x2, y2, z2, rfl⟩, ⟨x3, y3, z3, rfl⟩, ⟨x4, y4, z4, rfl⟩⟩ : (∃ a n c, qv = .slice a n c) ∧ (∃ a n c, qf = .slice a n c) ∧ (∃ a n c, ql = .slice a n c) ∧ (∃ a n c, qt = .slice a n c) := by
  obtain ⟨x1, y1, e1⟩ := owns_len hQW.v
  obtain ⟨x2, y2, e2⟩ := owns_len hQW.f
  obtain ⟨x3, y3, e3⟩ := owns_len hQW.l
  obtain ⟨x4, y4, e4⟩ := owns_len hQW.t
  exact ⟨⟨_, _, _, e1⟩, ⟨_, _, _, e2⟩, ⟨_, _, _, e3⟩, ⟨_, _, _, e4⟩⟩
 obtain ⟨W5, hW5⟩ : ∃ W5, w4.alloc (.cells #[.slice x1 y1 z1, .slice x2 y2 z2, .slice x3 y3 z3, .slice x4 y4 z4] 29) = W5 := ⟨_, rfl⟩
 have hb5 : Below w4.heap.size w4 W5 := by rw [← hW5]; exact (Below.refl _ _).alloc (Nat.le_refl _) _
 have hk5 : W5.heap[w4.heap.size]? = some (.cells #[.slice x1 y1 z1, .slice x2 y2 z2, .slice x3 y3 z3, .slice x4 y4 z4] 29) := by rw [← hW5]; exact World.alloc_heap_new w4 _
 obtain ⟨hz1, hB1, hk1, hk2⟩ := H1.out
 obtain ⟨hb2, hPW, hpv, hb3, hk3, hr0⟩ := H3.out
 obtain ⟨rfl, -, e1, e2, e3, e4, e5⟩ := hpv.eq hpv'
 have s2 := hb2.size
 have s3 := hb3.size
 have s4 := hb4.size
 have s5 := hb5.size
 have l3 : w2.heap.size < W3.heap.size := (Array.getElem?_eq_some_iff.1 hk3).1
 have l5 : w4.heap.size < W5.heap.size := (Array.getElem?_eq_some_iff.1 hk5).1
 have b15 : Below W1.heap.size W1 W5 := ((hb2.trans (hb3.mono s2)).trans (hb4.mono (by omega))).trans (hb5.mono (by omega))
 have g1 : W5.heap[w.heap.size]? = _ := (b15.block _ (by omega)).trans hk1
 have g2 : W5.heap[w.heap.size + 1]? = _ := (b15.block _ (by omega)).trans hk2
 have g3 : W5.heap[w2.heap.size]? = _ := (hb5.block _ (by omega)).trans ((hb4.block _ l3).trans hk3)
 have r1 := four_new g1
 have r2 := four_new g2
 have r3 := four_new g3
 have r5 := four_new hk5
 have hst : ∃ W6 W7, (W5.drew.setCells w.heap.size 0 [.slice a1 n1 c1, .slice a2 n2 c2, .slice a3 n3 c3, .slice a4 n4 c4]) = W6 ∧ (W6.setCells (w.heap.size + 1) 0 [.slice x1 y1 z1, .slice x2 y2 z2, .slice x3 y3 z3, .slice x4 y4 z4]) = W7 ∧ RowF W6 (w.heap.size + 1) 29 4 (four (.slice none 0 0) (.slice none 0 0) (.slice none 0 0) (.slice none 0 0)) ∧ RowF W7 w.heap.size 26 4 (four (.slice a1 n1 c1) (.slice a2 n2 c2) (.slice a3 n3 c3) (.slice a4 n4 c4)) ∧ RowF W7 (w.heap.size + 1) 29 4 (four (.slice x1 y1 z1) (.slice x2 y2 z2) (.slice x3 y3 z3) (.slice x4 y4 z4)) ∧ KeepS (fun k => k = w.heap.size ∨ k = w.heap.size + 1) W5 W6 ∧ KeepS (fun k => k = w.heap.size ∨ k = w.heap.size + 1) W5 W7 := by
  have rd1 : RowF W5.drew w.heap.size 26 4 _ := r1.same rfl
  have rd2 : RowF W5.drew (w.heap.size + 1) 29 4 _ := r2.same rfl
  have q1 := rd1.fill (f := four (.slice a1 n1 c1) (.slice a2 n2 c2) (.slice a3 n3 c3) (.slice a4 n4 c4))
  have k1 := setCells_keep (S := fun k => k = w.heap.size ∨ k = w.heap.size + 1) (w := W5) (b := w.heap.size) [.slice a1 n1 c1, .slice a2 n2 c2, .slice a3 n3 c3, .slice a4 n4 c4] 0 (KeepS.refl W5).drew (.inl (.inl rfl))
  have q2 : RowF (W5.drew.setCells w.heap.size 0 [.slice a1 n1 c1, .slice a2 n2 c2, .slice a3 n3 c3, .slice a4 n4 c4]) (w.heap.size + 1) 29 4 _ := rd2.same (setCells_other _ 0 (by omega))
  have q3 := q2.fill (f := four (.slice x1 y1 z1) (.slice x2 y2 z2) (.slice x3 y3 z3) (.slice x4 y4 z4))
  have q4 : RowF ((W5.drew.setCells w.heap.size 0 [.slice a1 n1 c1, .slice a2 n2 c2, .slice a3 n3 c3, .slice a4 n4 c4]).setCells (w.heap.size + 1) 0 [.slice x1 y1 z1, .slice x2 y2 z2, .slice x3 y3 z3, .slice x4 y4 z4]) w.heap.size 26 4 _ := RowF.same q1 (setCells_other _ 0 (by omega))
  have k2 := setCells_keep (S := fun k => k = w.heap.size ∨ k = w.heap.size + 1) (w := W5) (b := w.heap.size + 1) [.slice x1 y1 z1, .slice x2 y2 z2, .slice x3 y3 z3, .slice x4 y4 z4] 0 k1 (.inl (.inr rfl))
  exact ⟨_, _, rfl, rfl, q2, q4, q3, k1, k2⟩
 obtain ⟨W6, W7, hW6, hW7, t6, t7, t8, k6, k7⟩ := hst
 have c30 : ∀ (W : World), KeepS (fun k => k = w.heap.size ∨ k = w.heap.size + 1) W5 W → (W.cell? ⟨w2.heap.size, 0, none⟩ = some (.slice a1 n1 c1) ∧ W.cell? ⟨w2.heap.size, 1, none⟩ = some (.slice a2 n2 c2) ∧ W.cell? ⟨w2.heap.size, 2, none⟩ = some (.slice a3 n3 c3) ∧ W.cell? ⟨w2.heap.size, 3, none⟩ = some (.slice a4 n4 c4)) ∧ (W.cell? ⟨w4.heap.size, 0, none⟩ = some (.slice x1 y1 z1) ∧ W.cell? ⟨w4.heap.size, 1, none⟩ = some (.slice x2 y2 z2) ∧ W.cell? ⟨w4.heap.size, 2, none⟩ = some (.slice x3 y3 z3) ∧ W.cell? ⟨w4.heap.size, 3, none⟩ = some (.slice x4 y4 z4)) := fun W hk => by
  have u3 := r3.keep hk (by omega)
  have u5 := r5.keep hk (by omega)
  exact ⟨⟨u3.cell (by omega), u3.cell (by omega), u3.cell (by omega), u3.cell (by omega)⟩, ⟨u5.cell (by omega), u5.cell (by omega), u5.cell (by omega), u5.cell (by omega)⟩⟩
 have hL1 := run_loadVar_sub (P := Tryz.prog) W7 w.heap.size 0 4 26 _ _ (fun j hj => by rw [Nat.zero_add]; exact t7.cell hj) Tryz.underlying26 rfl Tryz.sizePg
 have hL2 := run_loadVar_sub (P := Tryz.prog) W7 (w.heap.size + 1) 0 4 29 _ _ (fun j hj => by rw [Nat.zero_add]; exact t8.cell hj) Tryz.underlying29 rfl Tryz.sizeRg
 rw [four_row] at hL1 hL2
 have hBF : Below w.heap.size w W7 := ⟨k7.os.trans (b15.os.trans hB1.os), k7.tape.trans (b15.tape.trans hB1.tape), k7.output.trans (b15.output.trans hB1.output), Nat.le_trans hB1.size (Nat.le_trans b15.size k7.size), fun k hk => (k7.block k (by have := hB1.size; omega) (by omega)).trans ((b15.block k (by have := hB1.size; omega)).trans (hB1.block k hk))⟩
 have hPF : ProgW W7 w.heap.size (.slice a1 n1 c1) (.slice a2 n2 c2) (.slice a3 n3 c3) (.slice a4 n4 c4) vs fs ls L C := by
  have q := hPW.below ((hb4.mono (Nat.le_refl _)).trans (hb5.mono s4))
  exact (q.sameAt fun k h1 h2 => k7.block k h2 (by omega)).base (by omega)
 have hQF : QView W7 w.heap.size (.slice x1 y1 z1) (.slice x2 y2 z2) (.slice x3 y3 z3) (.slice x4 y4 z4) P TV := ((hQW.belowW hb5).above fun k h1 h2 => k7.block k h2 (by omega)).base (by omega)
 have hend : ∀ g : Bool, g = (er == 0) → LoadR w t (.returned (.tuple #[.agg #[.slice a1 n1 c1, .slice a2 n2 c2, .slice a3 n3 c3, .slice a4 n4 c4], .agg #[.slice x1 y1 z1, .slice x2 y2 z2, .slice x3 y3 z3, .slice x4 y4 z4], .bool g])) W7 := fun g hg => by
  refine ⟨hBF, ?_⟩
  obtain ⟨-, (⟨er2, ln2, he, q⟩ | ⟨s, C2, v1, v2, v3, v4, L2, he, q, -, hL2n⟩)⟩ := hr0
  ·left
   have q : Value.tuple #[.agg #[.slice a1 n1 c1, .slice a2 n2 c2, .slice a3 n3 c3, .slice a4 n4 c4], .int .i64 er, .int .i64 ln] = Value.tuple #[.agg #[.slice none 0 0, .slice none 0 0, .slice none 0 0, .slice none 0 0], .int .i64 er2, .int .i64 ln2] := by injection q
   simp only [Value.tuple.injEq, Array.mk.injEq, List.cons.injEq, Value.agg.injEq, Value.int.injEq, and_true, true_and] at q
   obtain ⟨⟨q1, q2, q3, q4⟩, q5, -⟩ := q
   have hne := parseT_err he
   obtain ⟨-, (⟨er3, ln3, he3, q'⟩ | ⟨s3, C3, tg3, pb3, P3, U3, he3, -⟩)⟩ := hr
   ·have q' : Value.tuple #[.agg #[.slice x1 y1 z1, .slice x2 y2 z2, .slice x3 y3 z3, .slice x4 y4 z4], .int .i64 er, .int .i64 ln'] = Value.tuple #[.agg #[.slice none 0 0, .slice none 0 0, .slice none 0 0, .slice none 0 0], .int .i64 er3, .int .i64 ln3] := by injection q'
    simp only [Value.tuple.injEq, Array.mk.injEq, List.cons.injEq, Value.agg.injEq, Value.int.injEq, and_true, true_and] at q'
    obtain ⟨⟨p1, p2, p3, p4⟩, -, -⟩ := q'
    rw [q1, q2, q3, q4, p1, p2, p3, p4, hg, q5, show (er2 == 0) = false by simpa using hne]
    rfl
   ·rw [he] at he3; cases he3
  ·right
   have q : Value.tuple #[.agg #[.slice a1 n1 c1, .slice a2 n2 c2, .slice a3 n3 c3, .slice a4 n4 c4], .int .i64 er, .int .i64 ln] = Value.tuple #[.agg #[v1, v2, v3, v4], .int .i64 0, .int .i64 0] := by injection q
   simp only [Value.tuple.injEq, Array.mk.injEq, List.cons.injEq, Value.int.injEq, and_true, true_and] at q
   have hv := hpv
   unfold PV at hv
   rw [he] at hv
   obtain ⟨-, -, u1, u2, u3, u4, u5⟩ := hv
   refine ⟨s, C2, .slice a1 n1 c1, .slice a2 n2 c2, .slice a3 n3 c3, .slice a4 n4 c4, L, _, _, _, _, P, TV, he, ?_, ?_, u4, hQF, e1.symm.trans u1, e2.symm.trans u2, e3.symm.trans u3, e4.symm.trans u4, e5.symm.trans u5⟩
   ·rw [hg, q.2.1]; rfl
   ·have u5 : C = C2 := u5
    subst u5
    rw [← u1, ← u2, ← u3]; exact hPF
 have p1 : ∀ j, j < 4 → (W5.drew.cell? ⟨w.heap.size, 0 + j, none⟩).isSome = true := fun j hj => by rw [Nat.zero_add]; have := (RowF.same (w' := W5.drew) r1 rfl).cell hj; rw [this]; rfl
 have p2 : ∀ j, j < 4 → W5.drew.frozen? ⟨w.heap.size, 0 + j, none⟩ = false := fun j _ => (RowF.same (w' := W5.drew) r1 rfl).frozen _
 have p3 : ∀ j, j < 4 → (W6.cell? ⟨w.heap.size + 1, 0 + j, none⟩).isSome = true := fun j hj => by rw [Nat.zero_add, t6.cell hj]; rfl
 have p4 : ∀ j, j < 4 → W6.frozen? ⟨w.heap.size + 1, 0 + j, none⟩ = false := fun j _ => t6.frozen _
 have HS := hide (⟨p1, p2, p3, p4⟩ : _ ∧ _ ∧ _ ∧ _)
 have HE := hide (⟨hL1, hL2, hend⟩ : _ ∧ _ ∧ _)
 have HC6 := hide (c30 W6 k6)
 have HC7 := hide (c30 W7 k7)
 have hS0 := c30 W5.drew (KeepS.refl W5).drew
 replace hW6 := hide hW6
 replace hW7 := hide hW7
 have hNm := num_any er W5.drew
 clear hQ hr hb4 hQW hpv' hb5 hk5 hz1 hB1 hk1 hk2 hb2 hPW hpv hb3 hk3 hr0 e1 e2 e3 e4 e5 s2 s3 s4 s5 l3 l5 b15 g1 g2 g3 r1 r2 r3 r5 t6 t7 t8 k6 k7 c30 hL1 hL2 hBF hPF hQF hend p1 p2 p3 p4 H1 H3 hW3
 cases hg : (er == 0) with
 | false =>
  have GG : Hid (false = (er == 0)) := hg.symm
  go_wp2_with fail
  try rw [hW5]
  refine wp_region_held_drew (S := (fun w' => (w'.cell? ⟨w2.heap.size, 0, none⟩ = some (.slice a1 n1 c1) ∧ w'.cell? ⟨w2.heap.size, 1, none⟩ = some (.slice a2 n2 c2) ∧ w'.cell? ⟨w2.heap.size, 2, none⟩ = some (.slice a3 n3 c3) ∧ w'.cell? ⟨w2.heap.size, 3, none⟩ = some (.slice a4 n4 c4)) ∧ (w'.cell? ⟨w4.heap.size, 0, none⟩ = some (.slice x1 y1 z1) ∧ w'.cell? ⟨w4.heap.size, 1, none⟩ = some (.slice x2 y2 z2) ∧ w'.cell? ⟨w4.heap.size, 2, none⟩ = some (.slice x3 y3 z3) ∧ w'.cell? ⟨w4.heap.size, 3, none⟩ = some (.slice x4 y4 z4)))) (by kernel_rfl) hS0 (fun hHeld => ?_)
  clear hS0
  refine tk 0 hHeld ?_
  refine tk 1 hHeld ?_
  refine tk 2 hHeld ?_
  refine tk 3 hHeld ?_
  refine tk 4 hHeld ?_
  refine tn 5 hHeld ?_
  refine tn 6 hHeld ?_
  refine tn 7 hHeld ?_
  refine tk 8 hHeld ?_
  refine rd 9 (fun K hK => ?_)
  refine wp_store_sub _ _ _ rfl w.heap.size 0 #[.slice a1 n1 c1, .slice a2 n2 c2, .slice a3 n3 c3, .slice a4 n4 c4] rfl rfl HS.out.1 HS.out.2.1 Tryz.sizePg one4 ?_
  rw [show (#[Value.slice a1 n1 c1, .slice a2 n2 c2, .slice a3 n3 c3, .slice a4 n4 c4] : Array Value).toList = [.slice a1 n1 c1, .slice a2 n2 c2, .slice a3 n3 c3, .slice a4 n4 c4] from rfl, hW6.out]
  refine hK.out _ _ HC6.out (fun hHeld => ?_)
  clear hK K
  try simp only [Act.put, sq]
  refine rd 10 (fun K hK => ?_)
  refine wp_store_sub _ _ _ rfl (w.heap.size + 1) 0 #[.slice x1 y1 z1, .slice x2 y2 z2, .slice x3 y3 z3, .slice x4 y4 z4] rfl rfl HS.out.2.2.1 HS.out.2.2.2 Tryz.sizeRg one4 ?_
  rw [show (#[Value.slice x1 y1 z1, .slice x2 y2 z2, .slice x3 y3 z3, .slice x4 y4 z4] : Array Value).toList = [.slice x1 y1 z1, .slice x2 y2 z2, .slice x3 y3 z3, .slice x4 y4 z4] from rfl, hW7.out]
  refine hK.out _ _ HC7.out (fun hHeld => ?_)
  clear hK K
  try simp only [Act.put, sq]
  refine tk 11 hHeld ?_
  refine wpAnyH_done (by kernel_rfl) ?_ _
  clear hHeld
  go_wp2_with fail
  exact bodyPost_ret (load_val rfl rfl rfl rfl HE.out.1 HE.out.2.1) rfl (HE.out.2.2 _ GG.out)
 | true =>
  have GG : Hid (true = (er == 0)) := hg.symm
  go_wp2_with fail
  try rw [hW5]
  refine wp_region_held_drew (S := (fun w' => (w'.cell? ⟨w2.heap.size, 0, none⟩ = some (.slice a1 n1 c1) ∧ w'.cell? ⟨w2.heap.size, 1, none⟩ = some (.slice a2 n2 c2) ∧ w'.cell? ⟨w2.heap.size, 2, none⟩ = some (.slice a3 n3 c3) ∧ w'.cell? ⟨w2.heap.size, 3, none⟩ = some (.slice a4 n4 c4)) ∧ (w'.cell? ⟨w4.heap.size, 0, none⟩ = some (.slice x1 y1 z1) ∧ w'.cell? ⟨w4.heap.size, 1, none⟩ = some (.slice x2 y2 z2) ∧ w'.cell? ⟨w4.heap.size, 2, none⟩ = some (.slice x3 y3 z3) ∧ w'.cell? ⟨w4.heap.size, 3, none⟩ = some (.slice x4 y4 z4)))) (by kernel_rfl) hS0 (fun hHeld => ?_)
  refine tk 0 hHeld ?_
  refine tk 1 hHeld ?_
  refine tk 2 hHeld ?_
  refine tk 3 hHeld ?_
  refine tk 4 hHeld ?_
  refine tk 5 hHeld ?_
  refine rd 6 (fun K hK => ?_)
  go_simp
  go_at_call 18
  refine hNm.mono ?_
  rintro e w6 ⟨rfl, rfl⟩
  go_wp2_with fail
  refine hK.out _ _ hS0 (fun hHeld => ?_)
  clear hK K hNm hS0
  try simp only [Act.put, sq]
  refine tk 7 hHeld ?_
  refine tk 8 hHeld ?_
  refine rd 9 (fun K hK => ?_)
  refine wp_store_sub _ _ _ rfl w.heap.size 0 #[.slice a1 n1 c1, .slice a2 n2 c2, .slice a3 n3 c3, .slice a4 n4 c4] rfl rfl HS.out.1 HS.out.2.1 Tryz.sizePg one4 ?_
  rw [show (#[Value.slice a1 n1 c1, .slice a2 n2 c2, .slice a3 n3 c3, .slice a4 n4 c4] : Array Value).toList = [.slice a1 n1 c1, .slice a2 n2 c2, .slice a3 n3 c3, .slice a4 n4 c4] from rfl, hW6.out]
  refine hK.out _ _ HC6.out (fun hHeld => ?_)
  clear hK K
  try simp only [Act.put, sq]
  refine rd 10 (fun K hK => ?_)
  refine wp_store_sub _ _ _ rfl (w.heap.size + 1) 0 #[.slice x1 y1 z1, .slice x2 y2 z2, .slice x3 y3 z3, .slice x4 y4 z4] rfl rfl HS.out.2.2.1 HS.out.2.2.2 Tryz.sizeRg one4 ?_
  rw [show (#[Value.slice x1 y1 z1, .slice x2 y2 z2, .slice x3 y3 z3, .slice x4 y4 z4] : Array Value).toList = [.slice x1 y1 z1, .slice x2 y2 z2, .slice x3 y3 z3, .slice x4 y4 z4] from rfl, hW7.out]
  refine hK.out _ _ HC7.out (fun hHeld => ?_)
  clear hK K
  try simp only [Act.put, sq]
  refine tk 11 hHeld ?_
  refine wpAnyH_done (by kernel_rfl) ?_ _
  clear hHeld
  go_wp2_with fail
  exact bodyPost_ret (load_val rfl rfl rfl rfl HE.out.1 HE.out.2.1) rfl (HE.out.2.2 _ GG.out)
theorem getD_len8 {l : List Tx} (h : ∀ x, x ∈ l → x.length ≤ 8) (k : Nat) : (l.getD k []).length ≤ 8 := by
 by_cases e : k < l.length
 ·exact h _ (getD_mem e)
 ·rw [List.getD_eq_getElem?_getD, List.getElem?_eq_none (by omega)]; decide
theorem fit_of {t : Tx} {s : PS} {C : List (List In7)} {L : List (Tx × Value)} (h : parseT t = .ok (s, C)) (hL : L.map Prod.fst = s.nms 116) : NewB (s.nms 118) (s.nms 102) (s.nms 109) L C ∧ PFit4 (pdOf (s.nms 118) (s.nms 102) (s.nms 109) L C) ∧ Nm8 (pdOf (s.nms 118) (s.nms 102) (s.nms 109) L C) := by
 have q := parse_fit h
 have hl : L.length = (s.nms 116).length := by rw [← hL, List.length_map]
 have hc : C.length = L.length := q.len.trans hl.symm
 refine ⟨⟨q.v, q.f, q.l, by rw [hl]; exact q.t, fun c hc => (q.code c hc).1⟩, ⟨⟨by show C.length ≤ 4; have := q.t; omega, fun c hc => ?_⟩, q.v, q.f, q.l, by show (L.map Prod.fst).length = C.length; rw [List.length_map]; exact hc.symm⟩, ⟨getD_len8 q.v8, getD_len8 q.f8, getD_len8 q.l8, by show ∀ k, ((L.map Prod.fst).getD k []).length ≤ 8; rw [hL]; exact getD_len8 q.t8⟩⟩
 have := q.code c hc
 rw [← q.len] at this
 exact this
section
variable {w w' : World} {b B0 base : Nat}
set_option maxRecDepth 100000 in
set_option maxHeartbeats 800000 in
theorem run_any {vV fV lV thV : Value} {vs fs ls : List Tx} {L : List (Tx × Value)} {C : List (List In7)} (hp : ProgW w base vV fV lV thV vs fs ls L C) (hb : NewB vs fs ls L C) (hf : PFit4 (pdOf vs fs ls L C)) (hN : Nm8 (pdOf vs fs ls L C)) (ht : Tabs w B0) (hB0 : B0 ≤ w.heap.size) {a : Option Addr} {n cap : Nat} {l : List Int} (hn : l.length = n) (hl : Is w a l) (hn1 : n < 1048576) :
 Calls Tryz.prog 21 #[.agg #[vV, fV, lV, thV], .slice a n cap] w fun e w' => ∃ v, e = .returned (.tuple #[v, .string (bs (showM (pdOf vs fs ls L C) (playM false C (newM vs.length fs.length ls.length L.length) l).1))]) ∧ w'.ownsRow w.heap.size 45 4 v (playM false C (newM vs.length fs.length ls.length L.length) l).2.length ((playM false C (newM vs.length fs.length ls.length L.length) l).2.flatMap evL) ∧ Below w.heap.size w w' := by
 subst hn
 obtain ⟨va, vc, hv⟩ := owns_len hp.v
 obtain ⟨fa, fc, hfv⟩ := owns_len hp.f
 obtain ⟨la, lc, hlv⟩ := owns_len hp.l
 obtain ⟨ta, tc, hth⟩ := owns_len hp.t
 subst hv hfv hlv hth
 have hCL : C.length = L.length := hp.len
 have hB1 : Below w.heap.size w (w.alloc (.cells #[.slice va vs.length vc, .slice fa fs.length fc, .slice la ls.length lc, .slice ta L.length tc] 26)) := (Below.refl _ _).alloc (Nat.le_refl _) _
 have hA := new_any (hp.below hB1) hb
 have hok0 : MOkP (pdOf vs fs ls L C) (newM vs.length fs.length ls.length L.length) := by
  have := newM_ok vs.length fs.length ls.length C
  rw [hCL] at this
  exact this
 have hpl : ∀ i, i ≤ l.length → (playM false C (newM vs.length fs.length ls.length L.length) (l.take i)).2.length ≤ i := fun i _ => by
  have : ∀ (r : List Int) (x : MS × List Ev), (r.foldl (plM false C) x).2.length ≤ x.2.length + r.length := by
   intro r
   induction r with
   | nil => intro x; exact Nat.le_refl _
   | cons t r ih =>
    intro x
    have := ih (plM false C x t)
    have h2 : (plM false C x t).2.length ≤ x.2.length + 1 := by
     rw [pl_trn]; dsimp only; split
     ·simp
     ·omega
    rw [List.foldl_cons, List.length_cons]
    omega
  have q := this (l.take i) (newM vs.length fs.length ls.length L.length, [])
  have e : (l.take i).length ≤ i := by rw [List.length_take]; omega
  exact Nat.le_trans q (by simp only [List.length_nil]; omega)
 obtain ⟨s0, hs0⟩ : ∃ s0, newM vs.length fs.length ls.length L.length = s0 := ⟨_, rfl⟩
 rw [hs0] at hA hok0 hpl ⊢
 obtain ⟨p, hpd⟩ : ∃ p, pdOf vs fs ls L C = p := ⟨_, rfl⟩
 have hpC : p.C = C := by rw [← hpd]; rfl
 rw [hpd] at hA hok0 hf hN ⊢
 rw [← hpC] at hpl ⊢
 have HK := hide (⟨hf, hN, ht, hl, hok0, hB1, hpl⟩ : _ ∧ _ ∧ _ ∧ _ ∧ _ ∧ _ ∧ _)
 clear hp hb hf hN ht hl hok0 hB1 hCL hpl hs0 hpd hpC
 go_enter Tryz.func21, Tryz.ntmps21
 go_wp2_with fail
 refine hA.mono ?_
 rintro e w1 ⟨b, rfl, hbl, hm1, hb1⟩
 have hB1 : Below w.heap.size w w1 := HK.out.2.2.2.2.2.1.trans (hb1.mono HK.out.2.2.2.2.2.1.size)
 have hbw : w.heap.size < b := by
  have : (w.alloc (.cells #[.slice va vs.length vc, .slice fa fs.length fc, .slice la ls.length lc, .slice ta L.length tc] 26)).heap.size = w.heap.size + 1 := by show (w.heap.push _).size = _; simp
  omega
 have H1 := hide (⟨hm1, hB1, hbw⟩ : _ ∧ _ ∧ _)
 clear hA hbl hm1 hb1 hB1 hbw
 unfold ptrV
 go_wp2_with fail
 go_loopw [7, 16] (fun ev iv wr => ∃ i : Nat, i ≤ l.length ∧ iv = .int .i64 i ∧ MachW wr b p (playM false p.C s0 (l.take i)).1 ∧ wr.ownsRow w.heap.size 45 4 ev (playM false p.C s0 (l.take i)).2.length ((playM false p.C s0 (l.take i)).2.flatMap evL) ∧ Below w.heap.size w wr) (fun _ iv _ => l.length - (intOf iv).toNat)
 case atStart => exact ⟨0, Nat.zero_le _, rfl, H1.out.1, World.ownsRow_nil _ _ _ _, H1.out.2.1⟩
 case round =>
  obtain ⟨i, hi, rfl, hM, hrow, hB⟩ := hrel
  obtain ⟨hf, hN, ht, hl, hok0, -, hpl⟩ := HK.out
  have hokS : MOkP p (playM false p.C s0 (l.take i)).1 := play_ok false hf.fit hok0 (l.take i)
  have hli := hpl i hi
  have hpt : i < l.length → playM false p.C s0 (l.take (i + 1)) = plM false p.C (playM false p.C s0 (l.take i)) (l.getD i 0) := fun q => play_take false p.C s0 l q
  obtain ⟨x, hx⟩ : ∃ x, playM false p.C s0 (l.take i) = x := ⟨_, rfl⟩
  rw [hx] at hM hrow hokS hli hpt
  replace hx := hide hx
  obtain ⟨s, evs⟩ := x
  dsimp only at hM hrow hokS hli
  obtain ⟨ea, ec, rfl⟩ := owns_len hrow
  have hbw := H1.out.2.2
  by_cases h5 : i < l.length
  ·obtain ⟨lb, off, ha, hlb, c0⟩ := hl i h5
   subst ha
   have c0 : wr.cell? ⟨lb, off + i, none⟩ = _ := (hB.cell (p := ⟨lb, off + i, none⟩) hlb).trans c0
   have hlt : (i : Int) < (l.length : Int) := by omega
   replace hpt := hpt h5
   obtain ⟨t, htq⟩ : ∃ t, l.getD i 0 = t := ⟨_, rfl⟩
   rw [htq] at c0 hpt
   have hS := step_any hM hf hokS t
   rw [pl_trn] at hpt
   dsimp only at hpt
   have hwi : wrap64 ((i : Int) + 1) = (i : Int) + 1 := wrap_lt (by omega)
   have HO := hide (⟨hM, hrow, hB, h5, hli, hpt⟩ : _ ∧ _ ∧ _ ∧ _ ∧ _ ∧ _)
   replace htq := hide htq
   clear hM hrow hB hokS hli hpt hi hf hN ht hl hok0 hpl hlb h5
   unfold ptrV at hS
   go_wp2_with fail
   refine hS.mono ?_
   rintro e w2 ⟨rfl, hm2, hk2⟩
   obtain ⟨hM, hrow, hB, h5, hli, hpt⟩ := HO.out
   have hrow2 := row_keepS hrow hM (by decide) hk2
   have hB2 : Below w.heap.size w w2 := ⟨hk2.os.trans hB.os, hk2.tape.trans hB.tape, hk2.output.trans hB.output, Nat.le_trans hB.size hk2.size, fun k hk => (hk2.block k (by have := hB.size; omega) (by omega)).trans (hB.block k hk)⟩
   obtain ⟨er, her⟩ : ∃ er, canM p.C s t = er := ⟨_, rfl⟩
   rw [her] at hpt ⊢
   obtain ⟨y, hy⟩ : ∃ y, trn p.C s t = y := ⟨_, rfl⟩
   rw [hy] at hm2 hpt ⊢
   obtain ⟨s', et, ek, eo, ev⟩ := y
   unfold evC
   dsimp only at hm2 hpt ⊢
   by_cases hz : er = 0
   ·subst hz
    rw [if_pos rfl] at hpt
    have hbA : Below w2.heap.size w2 (w2.alloc (.cells #[.int .i64 et, .int .i64 ek, .int .i64 eo, .int .i64 ev] 45)) := (Below.refl _ _).alloc (Nat.le_refl _) _
    have hrowA := c_belowS hrow2 hbA
    have hmA := hm2.below hbA
    obtain ⟨g, cap2, w4, hrun, hrow4, hb4, hk4⟩ := evs_push hrowA ⟨et, ek, eo, ev⟩ (by omega) (by have := hB2.size; have := hbA.size; omega)
    have hm4 : MachW w4 b p s' := hmA.same (hk4 b hmA.lt (row_ne hrowA hmA (by decide)))
    have hB4 : Below w.heap.size w w4 := (hB2.trans (hbA.mono hB2.size)).trans (hb4 _ (Nat.le_refl _))
    have HN := hide (⟨hm4, hrow4, hB4, h5, hpt⟩ : _ ∧ _ ∧ _ ∧ _ ∧ _)
    have hsz : (w2.alloc (.cells #[.int .i64 et, .int .i64 ek, .int .i64 eo, .int .i64 ev] 45)).heap.size = w2.heap.size + 1 := by show (w2.heap.push _).size = _; simp
    unfold evC at hrun
    rw [hsz] at hrun
    clear hsz
    clear hM hrow hB h5 hli hpt hrow2 hB2 her hy hm2 hk2 hbA hrowA hmA hrow4 hb4 hk4 hm4 hB4 HO HK H1 hS c0
    go_wp2_with (at_builtin; refine wpList_append_run rfl _ _ _ rfl rfl rfl rfl hrun ?_)
    go_roundw
    case rel =>
     (try rw [hwi])
     obtain ⟨hm4, hrow4, hB4, h5, hpt⟩ := HN.out
     refine ⟨i + 1, h5, rfl, ?_, ?_, hB4⟩
     ·rw [hpt]; exact hm4
     ·rw [hpt]; exact hrow4
    case measure =>
     (try rw [hwi])
     exact Nat.sub_lt_sub_left HN.out.2.2.2.1 (Nat.lt_succ_self i)
   ·have hz' : (er == 0) = false := by simpa using hz
    rw [if_neg hz] at hpt
    have hbA : Below w2.heap.size w2 (w2.alloc (.cells #[.int .i64 et, .int .i64 ek, .int .i64 eo, .int .i64 ev] 45)) := (Below.refl _ _).alloc (Nat.le_refl _) _
    have HN := hide (⟨hm2.below hbA, c_belowS hrow2 hbA, hB2.trans (hbA.mono hB2.size), h5, hpt⟩ : _ ∧ _ ∧ _ ∧ _ ∧ _)
    clear hM hrow hB h5 hli hpt hrow2 hB2 her hy hm2 hk2 hbA HO HK H1 hS c0
    go_wp2_with fail
    go_roundw
    case rel =>
     (try rw [hwi])
     obtain ⟨hm4, hrow4, hB4, h5, hpt⟩ := HN.out
     refine ⟨i + 1, h5, rfl, ?_, ?_, hB4⟩
     ·rw [hpt]; exact hm4
     ·rw [hpt]; exact hrow4
    case measure =>
     (try rw [hwi])
     exact Nat.sub_lt_sub_left HN.out.2.2.2.1 (Nat.lt_succ_self i)
  ·have hil : i = l.length := by omega
   have hx2 : playM false p.C s0 l = (s, evs) := by
    have q := hx.out
    rw [hil, List.take_length] at q
    exact q
   have hS := show_any hM hf hokS hN (ht.keep (hB.mono hB0)) (by have := hB.size; omega)
   have HN := hide (⟨hrow, hB, hx2⟩ : _ ∧ _ ∧ _)
   subst hil
   clear hM hrow hB hokS hli hpt hi hf hN ht hl hok0 hpl h5 hx2 HK H1 hx hbw
   unfold ptrV at hS
   go_wp2_with fail
   refine hS.mono ?_
   rintro e w2 ⟨rfl, hb2⟩
   obtain ⟨hrow, hB, hx2⟩ := HN.out
   have HE := hide (⟨c_belowS hrow hb2, hB.trans (hb2.mono hB.size), hx2⟩ : _ ∧ _ ∧ _)
   clear hrow hB hx2 HN hb2 hS
   go_wp2_with fail
   go_ret2
   obtain ⟨hrow, hB, hx2⟩ := HE.out
   rw [hx2]
   exact ⟨_, rfl, hrow, hB⟩
end
def alT : Tx := [118, 97, 114, 32, 120, 10, 116, 104, 114, 101, 97, 100, 32, 97, 10, 115, 101, 116, 32, 114, 48, 32, 55, 10, 115, 116, 111, 114, 101, 32, 120, 32, 114, 48]
def alC : List (List In7) := [[⟨[115, 101, 116], 0, false, 7, false, 0, 0⟩, ⟨[115, 116, 111, 114, 101], 0, true, 0, false, 0, 0⟩]]
def alS : PS := match parseT alT with | .ok p => p.1 | .error _ => PS.new
set_option maxRecDepth 100000 in
theorem al_parse : parseT alT = .ok (alS, alC) := by kernel_rfl
set_option maxRecDepth 100000 in
theorem al_nms : alS.nms 118 = [[120]] ∧ alS.nms 102 = [] ∧ alS.nms 109 = [] ∧ alS.nms 116 = [[97]] := ⟨by kernel_rfl, by kernel_rfl, by kernel_rfl, by kernel_rfl⟩
theorem al_evs : (playM false alC (newM 1 0 0 1) [0, 0, 0]).2 = [⟨0, 0, 0, 0⟩, ⟨0, 2, 0, 7⟩, ⟨0, 10, 0, 0⟩] := by kernel_rfl
theorem al_show (v : Value) : showM (pdOf [[120]] [] [] [([97], v)] alC) (playM false alC (newM 1 0 0 1) [0, 0, 0]).1 = [120, 61, 55, 10, 97, 32, 101, 110, 100, 101, 100, 32, 55, 32, 48, 32, 48, 32, 48, 10] := by kernel_rfl
set_option maxRecDepth 100000 in
set_option maxHeartbeats 2000000 in
theorem alive_any {w : World} {B : Nat} (ht : Tabs w B) (hB : B ≤ w.heap.size) : Calls Tryz.prog 8 #[] w fun e w' => e = .returned (.bool true) ∧ Below w.heap.size w w' := by
 have hlt := ht.lt
 have hP := parse_full alT w ht.heads ht.shapes (by show 0 < _; omega) (by show 2 < _; omega)
 have hP : Calls Tryz.prog 23 #[.string ⟨#[118, 97, 114, 32, 120, 10, 116, 104, 114, 101, 97, 100, 32, 97, 10, 115, 101, 116, 32, 114, 48, 32, 55, 10, 115, 116, 111, 114, 101, 32, 120, 32, 114, 48]⟩] w (ParseR w alT) := hP
 have HT := hide (⟨ht, hB⟩ : _ ∧ _)
 clear ht hB hlt
 go_enter Tryz.func8, Tryz.ntmps8
 go_wp2_with fail
 refine hP.mono ?_
 clear hP
 rintro e w2 ⟨hB2, (⟨er, ln, he, rfl⟩ | ⟨s, C, vV, fV, lV, thV, L, he, rfl, hPW, hLn⟩)⟩
 ·rw [al_parse] at he; cases he
 ·rw [al_parse] at he
  cases he
  obtain ⟨fn1, fn2, fn3⟩ := fit_of al_parse hLn
  obtain ⟨n1, n2, n3, n4⟩ := al_nms
  rw [n1, n2, n3] at hPW fn1 fn2 fn3
  rw [n4] at hLn
  obtain ⟨⟨nm, cv⟩, rfl⟩ : ∃ q, L = [q] := by
   have hl : L.length = 1 := by have := congrArg List.length hLn; simpa using this
   exact List.length_eq_one_iff.1 hl
  have hnm : nm = [97] := by simpa using hLn
  subst hnm
  obtain ⟨ht, hB⟩ := HT.out
  obtain ⟨av, cvv, ev⟩ := owns_len hPW.v
  obtain ⟨af, cf, ef⟩ := owns_len hPW.f
  obtain ⟨al, cl, el⟩ := owns_len hPW.l
  obtain ⟨at_, ct, et⟩ := owns_len hPW.t
  subst ev ef el et
  obtain ⟨W3, hW3⟩ : ∃ W3, (w2.alloc (.cells #[.slice av 1 cvv, .slice af 0 cf, .slice al 0 cl, .slice at_ 1 ct] 26)).alloc (.cells #[.int .i64 0, .int .i64 0, .int .i64 0] 3) = W3 := ⟨_, rfl⟩
  have hza : (w2.alloc (.cells #[.slice av 1 cvv, .slice af 0 cf, .slice al 0 cl, .slice at_ 1 ct] 26)).heap.size = w2.heap.size + 1 := by show (w2.heap.push _).size = _; simp
  have hb3 : Below w2.heap.size w2 W3 := by rw [← hW3]; exact ((Below.refl _ _).alloc (Nat.le_refl _) _).alloc (by rw [hza]; omega) _
  have hk3 : W3.heap[w2.heap.size + 1]? = some (.cells #[.int .i64 0, .int .i64 0, .int .i64 0] 3) := by
   have q := World.alloc_heap_new (w2.alloc (.cells #[.slice av 1 cvv, .slice af 0 cf, .slice al 0 cl, .slice at_ 1 ct] 26)) (.cells #[.int .i64 0, .int .i64 0, .int .i64 0] 3)
   rw [hza, hW3] at q
   exact q
  have hIs : Is W3 (some ⟨w2.heap.size + 1, 0, none⟩) [0, 0, 0] := fun i hi => by
   refine ⟨w2.heap.size + 1, 0, rfl, (Array.getElem?_eq_some_iff.1 hk3).1, ?_⟩
   have hi : i < 3 := hi
   have : i = 0 ∨ i = 1 ∨ i = 2 := by omega
   rcases this with rfl | rfl | rfl <;> simp [World.cell?, hk3]
  have hB3 := hB2.trans (hb3.mono hB2.size)
  have hR := run_any (hPW.below hb3) fn1 fn2 fn3 (ht.keep (hB3.mono hB)) (by have := hB3.size; omega) (cap := 3) rfl hIs (by decide)
  have hsz : ([[120]] : List Tx).length = 1 ∧ ([] : List Tx).length = 0 ∧ ([(([97] : Tx), cv)] : List (Tx × Value)).length = 1 ∧ ([0, 0, 0] : List Int).length = 3 := ⟨rfl, rfl, rfl, rfl⟩
  rw [hsz.1, hsz.2.1, hsz.2.2.1, hsz.2.2.2, al_evs, al_show] at hR
  have HB := hide hB3
  clear hsz fn1 fn2 fn3 n1 n2 n3 n4 hLn ht hB hB2 hPW hza hb3 hk3 hIs hB3 HT
  go_wp2_with fail
  try rw [hW3]
  refine hR.mono ?_
  rintro e w4 ⟨v, rfl, hrow, hb4⟩
  obtain ⟨g, cap, hv, hg, hc⟩ := row_form hrow (k := 0) (by decide)
  have k4 : w4.cell? ⟨g, 4, none⟩ = some (.int .i64 0) := hc 4 (by decide)
  have k5 : w4.cell? ⟨g, 5, none⟩ = some (.int .i64 2) := hc 5 (by decide)
  have k6 : w4.cell? ⟨g, 6, none⟩ = some (.int .i64 0) := hc 6 (by decide)
  have k7 : w4.cell? ⟨g, 7, none⟩ = some (.int .i64 7) := hc 7 (by decide)
  have k9 : w4.cell? ⟨g, 9, none⟩ = some (.int .i64 10) := hc 9 (by decide)
  have hv : v = .slice (some ⟨g, 0, none⟩) 3 cap := hv
  subst hv
  have HN := hide (HB.out.trans (hb4.mono HB.out.size))
  clear hR hrow hb4 hg hc HB hW3
  unfold bs
  go_wp2_with fail
  go_ret
  exact ⟨rfl, HN.out⟩
end Go.Proofs.YtcfpedjfofpnkaaGreatDoor
