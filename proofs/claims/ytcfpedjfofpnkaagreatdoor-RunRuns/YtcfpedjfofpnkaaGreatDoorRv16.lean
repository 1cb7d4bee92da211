import Derived.Test.YtcfpedjfofpnkaaGreatDoorRv15
import Derived.Test.YtcfpedjfofpnkaaGreatDoorRv9
import Derived.Test.YtcfpedjfofpnkaaGreatDoorRv12
set_option linter.unusedVariables false
set_option linter.unusedSimpArgs false
namespace Go.Proofs.YtcfpedjfofpnkaaGreatDoor
open Go.RowKit Go.Shelf Go.Proofs.Cod
theorem declT_err {kd : Int} {ts : List Tx} {s : PS} {e : Int} (h : declT kd ts s = .error e) : e ≠ 0 := by
 unfold declT at h
 split at h
 ·cases h; decide
 ·split at h
  ·cases h; decide
  ·split at h
   ·cases h; decide
   ·cases h
theorem stepT_err {n : Int} {f : Tx} {ts : List Tx} {s : PS} {e : Int} (h : stepT n f ts s = .error e) : e ≠ 0 := by
 unfold stepT at h
 split at h
 ·split at h
  ·cases hd : declT 116 ts s with
   | error e' => rw [hd] at h; cases h; exact declT_err hd
   | ok s' => rw [hd] at h; cases h
  ·cases h; decide
 ·split at h
  ·exact declT_err h
  ·split at h
   ·unfold markT at h
    split at h
    ·cases h; decide
    ·split at h
     ·cases h; decide
     ·cases h
   ·unfold instrT at h
    split at h
    ·cases h; decide
    ·split at h
     ·cases h; decide
     ·split at h
      ·cases h; decide
      ·split at h
       ·cases h; decide
       ·cases h
theorem linesT_err {ls : List Tx} {n : Int} {s : PS} {p : Int × Int} (h : linesT ls n s = .error p) : p.1 ≠ 0 := by
 induction ls generalizing n s with
 | nil => cases h
 | cons l ls ih =>
  unfold linesT at h
  split at h
  ·exact ih h
  ·rename_i e he
   cases h
   unfold lineT at he
   split at he
   ·cases he
   ·exact stepT_err he
theorem parseL_err {t : Tx} {e l : Int} (h : parseL t = .error (e, l)) : e ≠ 0 := by
 unfold parseL at h
 split at h
 ·rename_i p hp
  cases h
  exact linesT_err hp
 ·split at h
  ·cases h; decide
  ·cases h
def parseT (t : Tx) : Except (Int × Int) (PS × List (List In7)) := if 3000 < t.length then .error (1, 0) else parseL t
def ParseR (w : World) (t : Tx) (e : Ending) (w' : World) : Prop := Below w.heap.size w w' ∧ ((∃ er ln, parseT t = .error (er, ln) ∧ e = .returned (.tuple #[.agg #[.slice none 0 0, .slice none 0 0, .slice none 0 0, .slice none 0 0], .int .i64 er, .int .i64 ln])) ∨
 (∃ s C vV fV lV thV L, parseT t = .ok (s, C) ∧ e = .returned (.tuple #[.agg #[vV, fV, lV, thV], .int .i64 0, .int .i64 0]) ∧ ProgW w' w.heap.size vV fV lV thV (s.nms 118) (s.nms 102) (s.nms 109) L C ∧ L.map Prod.fst = s.nms 116))
theorem prog_val {w : World} {fn : Func} {tmps : Array Value} {b : Nat} {x y a0 a1 a2 a3 : Value} (hr : fn.results = #[.cell 2 26, .tmp 3, .tmp 4]) (ht : tmps[2]? = some (.pointer (some ⟨b, 0, none⟩))) (h3 : tmps[3]? = some x) (h4 : tmps[4]? = some y) (hc : w.heap[b]? = some (.cells #[a0, a1, a2, a3] 26)) : (results fn tmps).run Tryz.prog w = .ok (.tuple #[.agg #[a0, a1, a2, a3], x, y]) w := by
 have c0 : w.cell? ⟨b, 0, none⟩ = some a0 := by simp [World.cell?, hc]
 have c1 : w.cell? ⟨b, 1, none⟩ = some a1 := by simp [World.cell?, hc]
 have c2 : w.cell? ⟨b, 2, none⟩ = some a2 := by simp [World.cell?, hc]
 have c3 : w.cell? ⟨b, 3, none⟩ = some a3 := by simp [World.cell?, hc]
 simp [results, hr, ht, h3, h4, go_sem, c0, c1, c2, c3]
theorem four_set {w : World} {n T : Nat} {a0 a1 a2 a3 : Value} (hk : w.heap[n]? = some (.cells #[a0, a1, a2, a3] T)) (v0 v1 v2 v3 : Value) (o : Obj) : ∃ W, (((((w.setCell ⟨n, 0, none⟩ v0).setCell ⟨n, 1, none⟩ v1).setCell ⟨n, 2, none⟩ v2).setCell ⟨n, 3, none⟩ v3).alloc o) = W ∧ W.heap[n]? = some (.cells #[v0, v1, v2, v3] T) ∧ (∀ b, b < w.heap.size → b ≠ n → W.heap[b]? = w.heap[b]?) ∧ w.heap.size ≤ W.heap.size ∧ W.os = w.os ∧ W.tape = w.tape ∧ W.output = w.output := by
 have hl : n < w.heap.size := (Array.getElem?_eq_some_iff.1 hk).1
 refine ⟨_, rfl, ?_, fun b hb hn => ?_, by simp, rfl, rfl, rfl⟩
 ·rw [Below.heap_alloc _ _ n (by simpa using hl), heap_setCell_same _ _ 3 _ _ _ (heap_setCell_same _ _ 2 _ _ _ (heap_setCell_same _ _ 1 _ _ _ (heap_setCell_same _ _ 0 _ _ _ hk)))]
  rfl
 ·rw [Below.heap_alloc _ _ b (by simpa using hb), Below.heap_setCell _ ⟨n, 3, none⟩ _ b hn, Below.heap_setCell _ ⟨n, 2, none⟩ _ b hn, Below.heap_setCell _ ⟨n, 1, none⟩ _ b hn, Below.heap_setCell _ ⟨n, 0, none⟩ _ b hn]
theorem ProgW.base {w : World} {base base' : Nat} {vV fV lV thV : Value} {vs fs ls : List Tx} {L : List (Tx × Value)} {C : List (List In7)} (h : ProgW w base vV fV lV thV vs fs ls L C) (hb : base' ≤ base) : ProgW w base' vV fV lV thV vs fs ls L C :=
 ⟨c_base h.v hb, c_base h.f hb, c_base h.l hb, c_base h.t hb, fun i p is h1 h2 => c_base (h.c i p is h1 h2) hb, h.len⟩
set_option maxRecDepth 100000 in
set_option maxHeartbeats 1000000 in
theorem parse_any (t : Tx) (w : World) (hh : Heads w) (hs : Shapes w) (h1 : 0 < w.heap.size) (h2 : 2 < w.heap.size) (hlen : t.length < 140737488355328) :
 Calls Tryz.prog 23 #[.string (bs t)] w (ParseR w t) := by
 have hz := bs_size t
 by_cases hl : 3000 < t.length
 ·have hl' : (3000 : Int) < (t.length : Int) := by omega
  have hP : Hid (parseT t = .error (1, 0)) := by unfold Hid parseT; rw [if_pos hl]
  have HB : Hid (∀ x, Below w.heap.size w (w.alloc x)) := fun x => (Below.refl _ _).alloc (Nat.le_refl _) _
  go_enter Tryz.func23, Tryz.ntmps23
  go_wp2_with fail
  exact bodyPost_ret (prog_val rfl rfl rfl rfl (World.alloc_heap_new w _)) rfl ⟨HB.out _, .inl ⟨1, 0, hP.out, rfl⟩⟩
 ·have hl' : ¬ (3000 : Int) < (t.length : Int) := by omega
  have hP : Hid (parseT t = parseL t) := by unfold Hid parseT; rw [if_neg hl]
  obtain ⟨w1, hw1⟩ : ∃ w1, w.alloc (.cells #[.slice none 0 0, .slice none 0 0, .slice none 0 0, .slice none 0 0] 26) = w1 := ⟨_, rfl⟩
  have hz1 : w1.heap.size = w.heap.size + 1 := by rw [← hw1]; simp
  have hb1 : Below w.heap.size w w1 := by rw [← hw1]; exact (Below.refl _ _).alloc (Nat.le_refl _) _
  have hk1 : w1.heap[w.heap.size]? = some (.cells #[.slice none 0 0, .slice none 0 0, .slice none 0 0, .slice none 0 0] 26) := by rw [← hw1]; exact World.alloc_heap_new w _
  have hN := newReader_any w1 (hh.kept (hb1.block _ h1)) (hs.kept (hb1.block _ h2)) (by omega) (by omega)
  have HR : Hid (∀ (u : World) (tag : Nat → RT), RdW u tag w1.heap.size (w1.heap.size + 1) w1.heap.size (w1.heap.size + 1 + 1) RG.new → Ext w1 (fun _ => .o) u tag → Calls Tryz.prog 44 #[.pointer (some ⟨w1.heap.size + 1, 0, none⟩), .string (bs t)] u fun e u' => Below w.heap.size w u' ∧ u'.heap[w.heap.size]? = some (.cells #[.slice none 0 0, .slice none 0 0, .slice none 0 0, .slice none 0 0] 26) ∧ ((∃ er ln, parseL t = .error (er, ln) ∧ e = .returned (.agg #[.int .i64 er, .int .i64 ln])) ∨ (∃ s C, parseL t = .ok (s, C) ∧ e = .returned (.agg #[.int .i64 0, .int .i64 0]) ∧ ReadOk u' w1.heap.size (w1.heap.size + 1) s C))) := fun u tag hR hX => by
   refine (read_any hR t (by omega)).mono ?_
   rintro e u' ⟨hB, hcase⟩
   have hbu : ∀ b, b < w1.heap.size → u'.heap[b]? = w1.heap[b]? := fun b hb => (hB.block b hb).trans (hX.block b hb rfl)
   have := hX.size
   exact ⟨⟨hB.os.trans (hX.os.trans hb1.os), hB.tape.trans (hX.tape.trans hb1.tape), hB.output.trans (hX.output.trans hb1.output), by have := hB.size; omega, fun b hb => (hbu b (by omega)).trans (hb1.block b hb)⟩, (hbu _ (by omega)).trans hk1, hcase⟩
  replace hw1 := hide hw1
  replace hz1 := hide hz1
  unfold ptrV at hN
  clear hh hs h1 h2
  go_enter Tryz.func23, Tryz.ntmps23
  go_wp2_with fail
  rw [hw1.out]
  refine hN.mono ?_
  rintro e w2 ⟨rfl, tag, hR, hX⟩
  have hRd := HR.out w2 tag hR hX
  clear HR hN hR hX
  go_wp2_with fail
  refine hRd.mono ?_
  rintro e w3 ⟨hB, hk3, (⟨er, ln, he, rfl⟩ | ⟨s, C, hok, rfl, hO⟩)⟩
  ·have her := parseL_err he
   have her' : (er != 0) = true := by simpa using her
   have hnl : w.heap.size < w3.heap.size := (Array.getElem?_eq_some_iff.1 hk3).1
   have c0 : w3.cell? ⟨w.heap.size, 0, none⟩ = some (.slice none 0 0) := by simp [World.cell?, hk3]
   have c1 : w3.cell? ⟨w.heap.size, 1, none⟩ = some (.slice none 0 0) := by simp [World.cell?, hk3]
   have c2 : w3.cell? ⟨w.heap.size, 2, none⟩ = some (.slice none 0 0) := by simp [World.cell?, hk3]
   have c3 : w3.cell? ⟨w.heap.size, 3, none⟩ = some (.slice none 0 0) := by simp [World.cell?, hk3]
   have f0 : ∀ i, w3.frozen? ⟨w.heap.size, i, none⟩ = false := fun i => by simp [World.frozen?, hk3]
   have HB := hide hB
   replace hk3 := hide hk3
   replace he := hide he
   clear hB
   go_wp2_with fail
   go_region
   all_goals
    go_wp2_with fail
    obtain ⟨W, hW, k1, k2, k3, k4, k5, k6⟩ := four_set hk3.out (.slice none 0 0) (.slice none 0 0) (.slice none 0 0) (.slice none 0 0) (.cells #[.int .i64 er, .int .i64 ln] 127)
    rw [hW]
    have hB := HB.out
    exact bodyPost_ret (prog_val rfl rfl rfl rfl k1) rfl ⟨⟨k4.trans hB.os, k5.trans hB.tape, k6.trans hB.output, by have := hB.size; show _ ≤ W.heap.size; omega, fun b hb => (k2 b (by have := hB.size; omega) (by omega)).trans (hB.block b hb)⟩, .inl ⟨er, ln, by rw [hP.out]; exact he.out, rfl⟩⟩
  ·obtain ⟨vV, fV, lV, thV, L, r1, r2, r3, r4, hPW, hLn⟩ := hO.ex
   have hrl : w1.heap.size + 1 < w3.heap.size := World.block_lt_of_cell? w3 ⟨w1.heap.size + 1, 1, none⟩ r1
   have hnl : w.heap.size < w3.heap.size := (Array.getElem?_eq_some_iff.1 hk3).1
   have c0 : w3.cell? ⟨w.heap.size, 0, none⟩ = some (.slice none 0 0) := by simp [World.cell?, hk3]
   have c1 : w3.cell? ⟨w.heap.size, 1, none⟩ = some (.slice none 0 0) := by simp [World.cell?, hk3]
   have c2 : w3.cell? ⟨w.heap.size, 2, none⟩ = some (.slice none 0 0) := by simp [World.cell?, hk3]
   have c3 : w3.cell? ⟨w.heap.size, 3, none⟩ = some (.slice none 0 0) := by simp [World.cell?, hk3]
   have f0 : ∀ i, w3.frozen? ⟨w.heap.size, i, none⟩ = false := fun i => by simp [World.frozen?, hk3]
   have hsv : (∃ a n c, vV = .slice a n c) ∧ (∃ a n c, fV = .slice a n c) ∧ (∃ a n c, lV = .slice a n c) ∧ (∃ a n c, thV = .slice a n c) := by
    obtain ⟨a1, b1, e1⟩ := owns_len hPW.v
    obtain ⟨a2, b2, e2⟩ := owns_len hPW.f
    obtain ⟨a3, b3, e3⟩ := owns_len hPW.l
    obtain ⟨a4, b4, e4⟩ := owns_len hPW.t
    exact ⟨⟨_, _, _, e1⟩, ⟨_, _, _, e2⟩, ⟨_, _, _, e3⟩, ⟨_, _, _, e4⟩⟩
   have HB := hide (⟨hB, hPW, hLn, hok⟩ : _ ∧ _ ∧ _ ∧ _)
   replace hk3 := hide hk3
   obtain ⟨⟨x1, y1, z1, rfl⟩, ⟨x2, y2, z2, rfl⟩, ⟨x3, y3, z3, rfl⟩, ⟨x4, y4, z4, rfl⟩⟩ := hsv
   clear hB hPW hLn hok hO
   go_wp2_with fail
   obtain ⟨W, hW, k1, k2, k3, k4, k5, k6⟩ := four_set hk3.out (.slice x1 y1 z1) (.slice x2 y2 z2) (.slice x3 y3 z3) (.slice x4 y4 z4) (.cells #[.int .i64 0, .int .i64 0] 127)
   rw [hW]
   obtain ⟨hB, hPW, hLn, hok⟩ := HB.out
   refine bodyPost_ret (prog_val rfl rfl rfl rfl k1) rfl ⟨⟨k4.trans hB.os, k5.trans hB.tape, k6.trans hB.output, by have := hB.size; omega, fun b hb => (k2 b (by have := hB.size; omega) (by omega)).trans (hB.block b hb)⟩, .inr ⟨s, C, _, _, _, _, L, by rw [hP.out]; exact hok, rfl, ?_, hLn⟩⟩
   exact (hPW.kept fun b hb hbl hno => k2 b hbl (by have := hz1.out; omega)).base (by have := hz1.out; omega)
end Go.Proofs.YtcfpedjfofpnkaaGreatDoor
namespace Go.Proofs.YtcfpedjfofpnkaaGreatDoor
open Go.RowKit Go.Proofs.Cod
theorem findZ_app (l : List Tx) (t x : Tx) : findZ (l ++ [t]) x = if findZ l x = -1 then (if t = x then (l.length : Int) else -1) else findZ l x := by
 induction l with
 | nil => simp [findZ]
 | cons y l ih =>
  have hge := findZ_ge l x
  rw [List.cons_append]
  unfold findZ
  rw [ih]
  by_cases h1 : y = x
  ·simp [h1]
  ·simp only [if_neg h1]
   by_cases h2 : findZ l x = -1
   ·simp only [h2, if_true]
    by_cases h3 : t = x
    ·simp only [h3, if_true, List.length_cons]
     rw [if_neg (by omega)]; omega
    ·simp [h3]
   ·have h3 : ¬ findZ l x + 1 = -1 := by omega
    simp [h2, h3]
def NOk (N : Tx → Option (Int × Nat)) (G : Int → List Tx) : Prop := ∀ t k n, N t = some (k, n) ↔ isK k ∧ findZ (G k) t = (n : Int)
def hasG (G : Int → List Tx) (t : Tx) : Prop := ∃ k, isK k ∧ findZ (G k) t ≠ -1
theorem NOk.free {N : Tx → Option (Int × Nat)} {G : Int → List Tx} (h : NOk N G) (t : Tx) : N t = none ↔ ¬ hasG G t := by
 constructor
 ·rintro e ⟨k, hk, hf⟩
  have hge := findZ_ge (G k) t
  have := (h t k (findZ (G k) t).toNat).2 ⟨hk, by omega⟩
  rw [e] at this; cases this
 ·intro e
  cases hN : N t with
  | none => rfl
  | some p =>
   obtain ⟨k, n⟩ := p
   have := (h t k n).1 hN
   exact absurd ⟨k, this.1, by omega⟩ e
theorem NOk.put {N : Tx → Option (Int × Nat)} {G : Int → List Tx} (h : NOk N G) {t : Tx} (hn : N t = none) {kd : Int} (hk : isK kd) : NOk (putT N t (kd, (G kd).length)) (putZ G kd (G kd ++ [t])) := by
 have hno := (h.free t).1 hn
 intro x k n
 by_cases hx : x = t
 ·subst hx
  have e1 : putT N x (kd, (G kd).length) x = some (kd, (G kd).length) := by simp [putT]
  rw [e1]
  by_cases e : k = kd
  ·subst e
   rw [putZ_same, findZ_app]
   have : findZ (G k) x = -1 := by
    by_cases q : findZ (G k) x = -1
    ·exact q
    ·exact absurd ⟨k, hk, q⟩ hno
   rw [if_pos this, if_pos rfl]
   simp only [Option.some.injEq, Prod.mk.injEq, true_and]
   exact ⟨fun q => ⟨hk, by omega⟩, fun q => by omega⟩
  ·rw [putZ_other _ e]
   constructor
   ·intro q
    simp only [Option.some.injEq, Prod.mk.injEq] at q
    exact absurd q.1.symm e
   ·rintro ⟨q1, q2⟩
    exact absurd ⟨k, q1, by omega⟩ hno
 ·have e1 : putT N t (kd, (G kd).length) x = N x := by simp [putT, hx]
  rw [e1, h x k n]
  by_cases e : k = kd
  ·subst e
   have hx' : ¬ t = x := fun e => hx e.symm
   rw [putZ_same, findZ_app]
   by_cases q : findZ (G k) x = -1
   ·rw [if_pos q, if_neg hx', q]
   ·rw [if_neg q]
  ·rw [putZ_other _ e]
def DupG (G : Int → List Tx) (ts : List Tx) (i : Nat) : Prop := hasG G (ts.getD i []) ∨ ∃ j, j < i ∧ ts.getD j [] = ts.getD i []
theorem hasG_put {G : Int → List Tx} {kd : Int} (hk : isK kd) (t x : Tx) : hasG (putZ G kd (G kd ++ [t])) x ↔ hasG G x ∨ t = x := by
 constructor
 ·rintro ⟨k, h1, h2⟩
  by_cases e : k = kd
  ·subst e
   rw [putZ_same, findZ_app] at h2
   by_cases q : findZ (G k) x = -1
   ·rw [if_pos q] at h2
    by_cases q2 : t = x
    ·exact .inr q2
    ·rw [if_neg q2] at h2; exact absurd rfl h2
   ·exact .inl ⟨k, h1, q⟩
  ·rw [putZ_other _ e] at h2
   exact .inl ⟨k, h1, h2⟩
 ·rintro (⟨k, h1, h2⟩ | rfl)
  ·refine ⟨k, h1, ?_⟩
   by_cases e : k = kd
   ·subst e
    rw [putZ_same, findZ_app, if_neg h2]; exact h2
   ·rw [putZ_other _ e]; exact h2
  ·refine ⟨kd, hk, ?_⟩
   rw [putZ_same, findZ_app]
   by_cases q : findZ (G kd) t = -1
   ·rw [if_pos q, if_pos rfl]; omega
   ·rw [if_neg q]; exact q
theorem dup_cons {G : Int → List Tx} {kd : Int} (hk : isK kd) (t : Tx) (ts : List Tx) (i : Nat) : DupG G (t :: ts) (i + 1) ↔ DupG (putZ G kd (G kd ++ [t])) ts i := by
 unfold DupG
 rw [hasG_put hk]
 have e1 : (t :: ts).getD (i + 1) [] = ts.getD i [] := by simp
 rw [e1]
 constructor
 ·rintro (h | ⟨j, hj, e⟩)
  ·exact .inl (.inl h)
  ·cases j with
   | zero => exact .inl (.inr (by simpa using e))
   | succ j => exact .inr ⟨j, by omega, by simpa using e⟩
 ·rintro ((h | h) | ⟨j, hj, e⟩)
  ·exact .inl h
  ·exact .inr ⟨0, by omega, by simpa using h⟩
  ·exact .inr ⟨j + 1, by omega, by simpa using e⟩
theorem dup_zero {G : Int → List Tx} (t : Tx) (ts : List Tx) : DupG G (t :: ts) 0 ↔ hasG G t := by
 unfold DupG
 constructor
 ·rintro (h | ⟨j, hj, _⟩)
  ·simpa using h
  ·omega
 ·exact fun h => .inl (by simpa using h)
theorem putZ_put {G : Int → List Tx} {kd : Int} (t : Tx) (ts : List Tx) : putZ (putZ G kd (G kd ++ [t])) kd ((putZ G kd (G kd ++ [t])) kd ++ ts) = putZ G kd (G kd ++ (t :: ts)) := by
 funext k
 by_cases e : k = kd
 ·subst e; simp [putZ]
 ·simp [putZ, e]
theorem decl_all {kd : Int} (hk : isK kd) : ∀ (ts : List Tx) (G : Int → List Tx) (N : Tx → Option (Int × Nat)), NOk N G →
 ((∃ i, i < ts.length ∧ DupG G ts i) → declAll kd N (G kd) ts = none) ∧ ((∀ i, i < ts.length → ¬ DupG G ts i) → ∃ N', declAll kd N (G kd) ts = some (N', G kd ++ ts) ∧ NOk N' (putZ G kd (G kd ++ ts)))
 | [], G, N, h => by
  refine ⟨?_, fun _ => ⟨N, by simp [declAll], ?_⟩⟩
  ·rintro ⟨i, hi, _⟩; simp at hi
  ·have e : putZ G kd (G kd ++ []) = G := by
    funext k
    by_cases e : k = kd
    ·subst e; simp [putZ]
    ·simp [putZ, e]
   rw [e]; exact h
 | t :: ts, G, N, h => by
  cases hN : N t with
  | some p =>
   have hd : declAll kd N (G kd) (t :: ts) = none := by simp [declAll, hN]
   refine ⟨fun _ => hd, fun hall => ?_⟩
   exfalso
   apply hall 0 (by simp)
   rw [dup_zero]
   by_cases q : hasG G t
   ·exact q
   ·rw [(h.free t).2 q] at hN; cases hN
  | none =>
   have hp := h.put hN hk
   have ih := decl_all hk ts _ _ hp
   rw [putZ_same] at ih
   have hd : declAll kd N (G kd) (t :: ts) = declAll kd (putT N t (kd, (G kd).length)) (G kd ++ [t]) ts := by
    conv => lhs; unfold declAll
    rw [hN]
   have hno := (h.free t).1 hN
   rw [hd]
   refine ⟨?_, fun hall => ?_⟩
   ·rintro ⟨i, hi, hdup⟩
    cases i with
    | zero => rw [dup_zero] at hdup; exact absurd hdup hno
    | succ i => exact ih.1 ⟨i, by simpa using hi, (dup_cons hk t ts i).1 hdup⟩
   ·obtain ⟨N', h1, h2⟩ := ih.2 (fun i hi hdup => hall (i + 1) (by simpa using hi) ((dup_cons hk t ts i).2 hdup))
    refine ⟨N', by rw [h1]; simp, ?_⟩
    have := putZ_put (G := G) (kd := kd) t ts
    rw [putZ_same] at this
    rw [← this]; exact h2
def getK (P : RP) (k : Int) : List Tx := if k = 116 then P.names else P.get k
def offW (r : RI) : List (Int × Tx) := if formT r.i.op = [116] then [(116, r.word)] else if isL (formT r.i.op) then [(108, r.word)] else []
def piOf (r : RI) : PI := ⟨r.i, r.line, offW r⟩
def labF (l : List (Tx × Nat)) : Tx → Option Nat := fun x => l.foldl (fun a p => if p.1 = x then some p.2 else a) none
def pbOf (th : RTh) : PB := ⟨th.code.map piOf, labF th.labs⟩
structure PL (P : RP) (s : PS) : Prop where
 N : NOk s.N (getK P)
 nms : ∀ k, isK k → s.nms k = getK P k
 bod : s.bod = P.thr.map pbOf
 pos : ∀ th, th ∈ P.thr → ∀ r, r ∈ th.code → 0 ≤ r.i.x ∧ 0 < r.line
 few : ∀ k, isK k → (getK P k).length ≤ 4
 code : ∀ th, th ∈ P.thr → th.code.length ≤ 24
def RP.new : RP := ⟨[], [], [], []⟩
theorem getK_new (k : Int) : getK RP.new k = [] := by simp [getK, RP.names, RP.get, RP.new]
theorem PL.new : PL RP.new PS.new := by
 refine ⟨fun t k n => ?_, fun k _ => ?_, rfl, (fun th h => by cases h), fun k _ => ?_, (fun th h => by cases h)⟩
 ·rw [getK_new]
  constructor
  ·intro h; cases h
  ·rintro ⟨_, h⟩
   simp [findZ] at h
 ·rw [getK_new]; rfl
 ·rw [getK_new]; simp
theorem isK_of {k : Int} (h : isN k) : isK k := by rcases h with rfl | rfl | rfl <;> simp [isK]
theorem hasP_iff (P : RP) (t : Tx) : hasP P t = true ↔ hasG (getK P) t := by
 have g1 : getK P 118 = P.vs := by simp [getK, RP.get]
 have g2 : getK P 102 = P.fs := by simp [getK, RP.get]
 have g3 : getK P 109 = P.ls := by simp [getK, RP.get]
 have g4 : getK P 116 = P.names := by simp [getK]
 have z1 := findZ_ge P.vs t
 have z2 := findZ_ge P.fs t
 have z3 := findZ_ge P.ls t
 have z4 := findZ_ge P.names t
 unfold hasP hasG
 simp only [Bool.or_eq_true, decide_eq_true_eq]
 constructor
 ·rintro (((h | h) | h) | h)
  ·exact ⟨118, by simp [isK], by rw [g1]; omega⟩
  ·exact ⟨102, by simp [isK], by rw [g2]; omega⟩
  ·exact ⟨109, by simp [isK], by rw [g3]; omega⟩
  ·exact ⟨116, by simp [isK], by rw [g4]; omega⟩
 ·rintro ⟨k, hk, h⟩
  have hk : k = 118 ∨ k = 102 ∨ k = 109 ∨ k = 116 := by simpa [isK] using hk
  rcases hk with rfl | rfl | rfl | rfl
  ·rw [g1] at h; exact .inl (.inl (.inl (by omega)))
  ·rw [g2] at h; exact .inl (.inl (.inr (by omega)))
  ·rw [g3] at h; exact .inl (.inr (by omega))
  ·rw [g4] at h; exact .inr (by omega)
theorem dupAt_iff (P : RP) (ts : List Tx) (i : Nat) : DupAt P ts i ↔ DupG (getK P) ts i := by
 unfold DupAt DupG
 rw [hasP_iff]
theorem NOk.congr {N : Tx → Option (Int × Nat)} {G G' : Int → List Tx} (h : NOk N G) (hg : ∀ k, isK k → G' k = G k) : NOk N G' := fun t k n => by
 rw [h t k n]
 constructor
 ·rintro ⟨h1, h2⟩; exact ⟨h1, by rw [hg k h1]; exact h2⟩
 ·rintro ⟨h1, h2⟩; exact ⟨h1, by rw [hg k h1] at h2; exact h2⟩
theorem put_thr {P : RP} {k : Int} (x : Tx) : (P.put k x).thr = P.thr := by
 unfold RP.put
 split
 ·rfl
 ·split <;> rfl
theorem puts_thr {k : Int} : ∀ (ts : List Tx) (P : RP), (P.puts k ts).thr = P.thr
 | [], P => rfl
 | x :: ts, P => by
  show ((P.put k x).puts k ts).thr = _
  rw [puts_thr ts, put_thr]
theorem put_other {P : RP} {k k' : Int} (hk : isN k) (hk' : isN k') (hn : k' ≠ k) (x : Tx) : (P.put k x).get k' = P.get k' := by
 rcases hk with rfl | rfl | rfl <;> rcases hk' with rfl | rfl | rfl <;> simp_all [RP.put, RP.get]
theorem puts_other {k k' : Int} (hk : isN k) (hk' : isN k') (hn : k' ≠ k) : ∀ (ts : List Tx) (P : RP), (P.puts k ts).get k' = P.get k'
 | [], P => rfl
 | x :: ts, P => by
  show ((P.put k x).puts k ts).get k' = _
  rw [puts_other hk hk' hn ts, put_other hk hk' hn]
theorem getK_N {P : RP} {k : Int} (h : isN k) : getK P k = P.get k := by rcases h with rfl | rfl | rfl <;> simp [getK]
theorem isK_cases {k : Int} (h : isK k) : isN k ∨ k = 116 := by
 rcases h with h | h | h | h
 ·exact .inl (.inl h)
 ·exact .inl (.inr (.inl h))
 ·exact .inl (.inr (.inr h))
 ·exact .inr h
theorem puts_getK {P : RP} {k k' : Int} (hk : isN k) (hk' : isK k') (ts : List Tx) : getK (P.puts k ts) k' = putZ (getK P) k (getK P k ++ ts) k' := by
 rcases isK_cases hk' with h | h
 ·by_cases e : k' = k
  ·subst e
   rw [putZ_same, getK_N hk, getK_N hk, puts_get hk]
  ·rw [putZ_other _ e, getK_N h, getK_N h, puts_other hk h e]
 ·subst h
  rw [putZ_other _ (by rcases hk with rfl | rfl | rfl <;> decide)]
  show (P.puts k ts).names = P.names
  unfold RP.names
  rw [puts_thr]
theorem kind_head {f : Tx} (hf : isDeclW f = true) : headK f = kindW f := by
 unfold isDeclW at hf
 simp only [Bool.or_eq_true, beq_iff_eq] at hf
 rcases hf with (rfl | rfl) | rfl <;> decide
theorem head_none {f : Tx} (hf : isDeclW f = false) : headK f = 0 := by
 obtain ⟨h1, h2, h3⟩ := notDecl hf
 unfold headK
 rw [if_neg (fun e => h1 e.symm), if_neg (fun e => h2 e.symm), if_neg (fun e => h3 e.symm)]
section
variable {P P' : RP} {s : PS} {f : Tx} {ts : List Tx} {e : Int}
def Both (o : Except Int PS) (e : Int) (P' : RP) : Prop := (e ≠ 0 ∧ o = .error e) ∨ (e = 0 ∧ ∃ s', o = .ok s' ∧ PL P' s')
theorem pl_decl (h : PL P s) (hf : isDeclW f = true) (hR : RDecl P f ts e P') : Both (declT (headK f) ts s) e P' := by
 rw [kind_head hf]
 unfold RDecl at hR
 have hN := kindW_ok f
 have hK := isK_of hN
 generalize kindW f = kd at hR hN hK ⊢
 have h0 : kd ≠ 0 := by rcases hN with rfl | rfl | rfl <;> decide
 rcases hR with ⟨h1, rfl⟩ | ⟨⟨h1, h2⟩, hR⟩
 ·left
  refine ⟨by decide, ?_⟩
  unfold declT
  rw [if_pos (.inr h1)]
 ·have hd := decl_all hK ts (getK P) s.N h.N
  have hu : declT kd ts s = match declAll kd s.N (getK P kd) ts with
   | none => .error 3
   | some p => if 4 < p.2.length then .error 4 else .ok { s with N := p.1, nms := putZ s.nms kd p.2 } := by
   unfold declT
   rw [if_neg (by simp [h0, h1, h2]), h.nms kd hK]
   cases declAll kd s.N (getK P kd) ts <;> rfl
  rw [hu]
  rcases hR with ⟨⟨i, hi, hdup⟩, rfl⟩ | ⟨hno, rfl, hR⟩
  ·left
   refine ⟨by decide, ?_⟩
   rw [hd.1 ⟨i, hi, (dupAt_iff P ts i).1 hdup⟩]
  ·obtain ⟨N', d1, d2⟩ := hd.2 (fun i hi hdup => hno i hi ((dupAt_iff P ts i).2 hdup))
   rw [d1]
   show Both (if 4 < (getK P kd ++ ts).length then _ else _) e _
   have hg : ∀ k, isK k → (getK (P.puts kd ts) k) = putZ (getK P) kd (getK P kd ++ ts) k := fun k hk => puts_getK hN hk ts
   have hf' : ∀ k, isK k → k ≠ kd → (getK (P.puts kd ts) k).length ≤ 4 := fun k hk hn => by
    rw [hg k hk, putZ_other _ hn]; exact h.few k hk
   have hkd : getK (P.puts kd ts) kd = getK P kd ++ ts := by rw [hg kd hK, putZ_same]
   have g1 : getK (P.puts kd ts) 118 = (P.puts kd ts).vs := by simp [getK, RP.get]
   have g2 : getK (P.puts kd ts) 102 = (P.puts kd ts).fs := by simp [getK, RP.get]
   have g3 : getK (P.puts kd ts) 109 = (P.puts kd ts).ls := by simp [getK, RP.get]
   have a1 := hf' 118 (by simp [isK])
   have a2 := hf' 102 (by simp [isK])
   have a3 := hf' 109 (by simp [isK])
   rw [g1] at a1; rw [g2] at a2; rw [g3] at a3
   have hall : 4 < (P.puts kd ts).vs.length ∨ 4 < (P.puts kd ts).fs.length ∨ 4 < (P.puts kd ts).ls.length ↔ 4 < (getK P kd ++ ts).length := by
    rw [← hkd]
    rcases hN with rfl | rfl | rfl
    ·rw [g1]; have a2 := a2 (by decide); have a3 := a3 (by decide); omega
    ·rw [g2]; have a1 := a1 (by decide); have a3 := a3 (by decide); omega
    ·rw [g3]; have a2 := a2 (by decide); have a1 := a1 (by decide); omega
   rcases hR with ⟨h4, rfl⟩ | ⟨h4, rfl⟩
   ·left
    exact ⟨by decide, by rw [if_pos (hall.1 h4)]⟩
   ·right
    have hle : ¬ 4 < (getK P kd ++ ts).length := fun q => by have := hall.2 q; omega
    refine ⟨rfl, _, by rw [if_neg hle], ?_⟩
    refine ⟨d2.congr hg, fun k hk => ?_, ?_, ?_, fun k hk => ?_, ?_⟩
    ·show putZ s.nms kd (getK P kd ++ ts) k = _
     rw [hg k hk]
     by_cases e : k = kd
     ·subst e; rw [putZ_same, putZ_same]
     ·rw [putZ_other _ e, putZ_other _ e]; exact h.nms k hk
    ·rw [puts_thr]; exact h.bod
    ·rw [puts_thr]; exact h.pos
    ·by_cases e : k = kd
     ·subst e; rw [hkd]; omega
     ·exact hf' k hk e
    ·rw [puts_thr]; exact h.code
theorem pl_thread (h : PL P s) (hR : RThread P ts e P') : Both (if ts.length = 1 then (declT 116 ts s).map addBody else .error 2) e P' := by
 have hK : isK 116 := by simp [isK]
 rcases hR with ⟨h1, rfl⟩ | ⟨⟨h1, h2⟩, hR⟩
 ·left
  refine ⟨by decide, ?_⟩
  by_cases q : ts.length = 1
  ·rw [if_pos q]
   rcases h1 with h1 | h1
   ·exact absurd q h1
   ·match ts, q, h1 with
    | [t], _, h1 =>
     unfold declT
     rw [if_pos (by simpa using h1)]; rfl
  ·rw [if_neg q]
 ·rw [if_pos h1]
  match ts, h1, h2, hR with
  | [t], _, h2, hR =>
   have h2 : isNam t = true := h2
   have hR : (hasP P t = true ∧ e = 3) ∨ (hasP P t = false ∧ ((P.thr.length = 4 ∧ e = 4) ∨ (P.thr.length ≠ 4 ∧ e = 0 ∧ P' = { P with thr := P.thr ++ [⟨t, [], []⟩] }))) := hR
   have hu : declT 116 [t] s = match declAll 116 s.N (getK P 116) [t] with
    | none => .error 3
    | some p => if 4 < p.2.length then .error 4 else .ok { s with N := p.1, nms := putZ s.nms 116 p.2 } := by
    unfold declT
    rw [if_neg (by simp [h2]), h.nms 116 hK]
    cases declAll 116 s.N (getK P 116) [t] <;> rfl
   rw [hu]
   have g4 : getK P 116 = P.names := by simp [getK]
   have hlen : (getK P 116).length = P.thr.length := by rw [g4]; simp [RP.names]
   have hfew := h.few 116 hK
   rcases hR with ⟨hh, rfl⟩ | ⟨hh, hR⟩
   ·left
    refine ⟨by decide, ?_⟩
    cases hN : s.N t with
    | none => exact absurd ((hasP_iff P t).1 hh) ((h.N.free t).1 hN)
    | some p => simp only [declAll, hN]; rfl
   ·have hN : s.N t = none := (h.N.free t).2 (fun q => by rw [(hasP_iff P t).2 q] at hh; cases hh)
    have hd : declAll 116 s.N (getK P 116) [t] = some (putT s.N t (116, (getK P 116).length), getK P 116 ++ [t]) := by simp [declAll, hN]
    rw [hd]
    show Both (Except.map addBody (if 4 < (getK P 116 ++ [t]).length then _ else _)) e _
    rcases hR with ⟨h4, rfl⟩ | ⟨h4, rfl, rfl⟩
    ·left
     refine ⟨by decide, ?_⟩
     rw [if_pos (by rw [List.length_append, hlen, h4]; simp)]; rfl
    ·right
     refine ⟨rfl, _, by rw [if_neg (by rw [List.length_append, hlen]; simp; omega)]; rfl, ?_⟩
     have hg : ∀ k, isK k → getK { P with thr := P.thr ++ [⟨t, [], []⟩] } k = putZ (getK P) 116 (getK P 116 ++ [t]) k := fun k hk => by
      rcases isK_cases hk with hk | hk
      ·rw [putZ_other _ (by rcases hk with rfl | rfl | rfl <;> decide), getK_N hk, getK_N hk]; rfl
      ·subst hk
       rw [putZ_same, g4]; simp [getK, RP.names]
     refine ⟨(h.N.put hN hK).congr hg, fun k hk => ?_, ?_, ?_, fun k hk => ?_, ?_⟩
     ·show putZ s.nms 116 (getK P 116 ++ [t]) k = _
      rw [hg k hk]
      by_cases e : k = 116
      ·subst e; rw [putZ_same, putZ_same]
      ·rw [putZ_other _ e, putZ_other _ e]; exact h.nms k hk
     ·show s.bod ++ [_] = (P.thr ++ [_]).map pbOf
      rw [h.bod, List.map_append]; rfl
     ·intro th hth r hr
      rcases List.mem_append.1 hth with q | q
      ·exact h.pos th q r hr
      ·obtain rfl := List.mem_singleton.1 q
       cases hr
     ·rw [hg k hk]
      by_cases e : k = 116
      ·subst e; rw [putZ_same, List.length_append, hlen]; simp; omega
      ·rw [putZ_other _ e]; exact h.few k hk
     ·intro th hth
      rcases List.mem_append.1 hth with q | q
      ·exact h.code th q
      ·obtain rfl := List.mem_singleton.1 q
       simp
theorem labF_app (l : List (Tx × Nat)) (x : Tx) (n : Nat) : labF (l ++ [(x, n)]) = putT (labF l) x n := by
 funext y
 unfold labF putT
 rw [List.foldl_append]
 show (if x = y then some n else _) = _
 by_cases q : x = y
 ·rw [if_pos q, if_pos q.symm]
 ·rw [if_neg q, if_neg (fun q' => q q'.symm)]
theorem labF_none (l : List (Tx × Nat)) (x : Tx) : labF l x = none ↔ ∀ i, i < l.length → (l.map Prod.fst).getD i [] ≠ x := by
 rcases List.eq_nil_or_concat l with q | ⟨l0, p, q⟩
 ·subst q; simp [labF]
 ·rw [List.concat_eq_append] at q
  have ih := labF_none l0 x
  subst q
  obtain ⟨y, n⟩ := p
  rw [labF_app]
  have hg : ∀ i, i < l0.length → ((l0 ++ [(y, n)]).map Prod.fst).getD i [] = (l0.map Prod.fst).getD i [] := fun i hi => by
   rw [List.getD_eq_getElem?_getD, List.getD_eq_getElem?_getD, List.map_append, List.getElem?_append_left (by simpa using hi)]
  have hl : ((l0 ++ [(y, n)]).map Prod.fst).getD l0.length [] = y := by
   rw [List.getD_eq_getElem?_getD, List.map_append, List.getElem?_append_right (by simp)]; simp
  unfold putT
  by_cases q : x = y
  ·rw [if_pos q]
   constructor
   ·intro q2; cases q2
   ·intro q2; exact absurd (hl.trans q.symm) (q2 l0.length (by simp))
  ·rw [if_neg q, ih]
   constructor
   ·intro q2 i hi
    by_cases q3 : i < l0.length
    ·rw [hg i q3]; exact q2 i q3
    ·have : i = l0.length := by simp at hi; omega
     subst this
     rw [hl]; exact fun q4 => q q4.symm
   ·intro q2 i hi
    rw [← hg i hi]; exact q2 i (by simp; omega)
termination_by l.length
decreasing_by subst q; simp
theorem last_set {α β : Type} (g : α → β) {l : List α} {k : Nat} (hk : l.length = k + 1) (x : α) : (l.map g).dropLast ++ [g x] = (l.set k x).map g := by
 rcases List.eq_nil_or_concat l with q | ⟨l0, p, q⟩
 ·subst q; simp at hk
 ·rw [List.concat_eq_append] at q
  subst q
  have : k = l0.length := by simp at hk; omega
  subst this
  rw [List.set_append_right _ _ (Nat.le_refl _)]
  simp
theorem last_is {α β : Type} (g : α → β) {l : List α} {k : Nat} {x : α} (hk : l.length = k + 1) (hx : l[k]? = some x) : (l.map g).getLast? = some (g x) := by
 rw [List.getLast?_map, List.getLast?_eq_getElem?, hk]
 simp [hx]
theorem names_set {P : RP} {k : Nat} {th th' : RTh} (hth : P.thr[k]? = some th) (hn : th'.name = th.name) : ({ P with thr := P.thr.set k th' } : RP).names = P.names := by
 unfold RP.names
 apply List.ext_getElem?
 intro m
 rw [List.getElem?_map, List.getElem?_map]
 by_cases q : m = k
 ·subst q
  show Option.map _ ((P.thr.set m th')[m]?) = _
  rw [List.getElem?_set_self (List.getElem?_eq_some_iff.1 hth).1, hth]
  simp [hn]
 ·show Option.map _ ((P.thr.set k th')[m]?) = _
  rw [List.getElem?_set_ne (fun q' => q q'.symm)]
theorem PL.setTh (h : PL P s) {k : Nat} {th th' : RTh} (hk : P.thr.length = k + 1) (hth : P.thr[k]? = some th) (hn : th'.name = th.name) (hp : ∀ r, r ∈ th'.code → 0 ≤ r.i.x ∧ 0 < r.line) (hc : th'.code.length ≤ 24) : PL { P with thr := P.thr.set k th' } (setLast s (pbOf th')) := by
 have hg : ∀ k', getK { P with thr := P.thr.set k th' } k' = getK P k' := fun k' => by
  unfold getK
  rw [names_set hth hn]; rfl
 refine ⟨h.N.congr fun k' _ => hg k', fun k' hk' => by rw [hg]; exact h.nms k' hk', ?_, ?_, fun k' hk' => by rw [hg]; exact h.few k' hk', ?_⟩
 ·show s.bod.dropLast ++ [pbOf th'] = (P.thr.set k th').map pbOf
  rw [h.bod]; exact last_set pbOf hk th'
 ·intro th2 h2 r hr
  rcases List.mem_or_eq_of_mem_set h2 with q | q
  ·exact h.pos th2 q r hr
  ·subst q; exact hp r hr
 ·intro th2 h2
  rcases List.mem_or_eq_of_mem_set h2 with q | q
  ·exact h.code th2 q
  ·subst q; exact hc
theorem pl_label (h : PL P s) {k : Nat} {th : RTh} {x : Tx} (hk : P.thr.length = k + 1) (hth : P.thr[k]? = some th) (hx : f = x ++ [58]) (hR : RLabel P k th x e P') : Both (markT f s (pbOf th)) e P' := by
 have hd : f.dropLast = x := by rw [hx]; simp
 unfold markT
 rw [hd]
 have hmem := List.mem_of_getElem? hth
 rcases hR with ⟨h1, rfl⟩ | ⟨h1, hR⟩
 ·exact .inl ⟨by decide, by rw [if_pos h1]⟩
 ·rw [if_neg (by rw [h1]; simp)]
  show Both (match labF th.labs x with | some _ => _ | none => _) e P'
  rcases hR with ⟨⟨i, hi, q⟩, rfl⟩ | ⟨hno, rfl, rfl⟩
  ·left
   refine ⟨by decide, ?_⟩
   cases hl : labF th.labs x with
   | none => exact absurd q ((labF_none _ _).1 hl i hi)
   | some n => rfl
  ·right
   refine ⟨rfl, _, by rw [(labF_none _ _).2 hno], ?_⟩
   have := h.setTh hk hth (th' := { th with labs := th.labs ++ [(x, th.code.length)] }) rfl (h.pos th hmem) (h.code th hmem)
   have e1 : ({ pbOf th with labs := putT (pbOf th).labs x (pbOf th).code.length } : PB) = pbOf { th with labs := th.labs ++ [(x, th.code.length)] } := by
    unfold pbOf
    show PB.mk _ (putT (labF th.labs) x (th.code.map piOf).length) = PB.mk _ (labF (th.labs ++ [(x, th.code.length)]))
    rw [labF_app, List.length_map]
   rw [e1]; exact this
end
end Go.Proofs.YtcfpedjfofpnkaaGreatDoor
