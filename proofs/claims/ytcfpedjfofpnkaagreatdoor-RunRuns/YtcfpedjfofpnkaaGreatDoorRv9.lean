import Derived.Test.YtcfpedjfofpnkaaGreatDoorRv8
set_option linter.unusedVariables false
set_option linter.unusedSimpArgs false
namespace Go.Proofs.YtcfpedjfofpnkaaGreatDoor
open Go.RowKit Go.Proofs.Cod
theorem rowN_push {w : World} {tag : Nat → RT} {base e size n : Nat} {gt : RT} {v : Value} {xs : List Value} {T : TypeId} {i : TypeInfo} {z : Value} {bytes : Nat} (hrow : w.ownsRow base e size v n xs) (htg : ∀ g, v.ownBlock = some g → tag g = gt) (hgt : gt ≠ .o) (ht : Tryz.prog.underlying T = some (.slice e)) (hi : Tryz.prog.info? e = some i) (hz : i.zero = some z) (hs : i.size = size) (hy : i.bytes = bytes) (hzs : z.cells.size = size) (hby : bytes ≤ 128)
 (xc : List Value) (hxl : xc.length = size) (hx : ∀ u ∈ xc, u.oneCell' = true) (ty : TypeId) (hlen : n < 1048576) (hbase : base ≤ w.heap.size) (hto : ∀ b, tag b ≠ .o → b < w.heap.size) :
 ∃ (g cap : Nat) (w' : World) (tag' : Nat → RT), (Builtin.append_ #[T, T] ty #[v, .slice (some ⟨w.heap.size, 0, none⟩) 1 1]).run Tryz.prog (w.alloc (.cells xc.toArray e)) = .ok (.slice (some ⟨g, 0, none⟩) (n + 1) cap) w' ∧
  w'.ownsRow base e size (.slice (some ⟨g, 0, none⟩) (n + 1) cap) (n + 1) (xs ++ xc) ∧ tag' g = gt ∧ w'.os = w.os ∧ w'.tape = w.tape ∧ w'.output = w.output ∧ w.heap.size + 1 ≤ w'.heap.size ∧
  (∀ b, b < w.heap.size → tag b ≠ gt → w'.heap[b]? = w.heap[b]?) ∧ (∀ b, b ≤ w.heap.size → tag' b = tag b) ∧ (∀ b, w.heap.size ≤ b → tag' b ≠ .o → b < w'.heap.size) := by
 obtain ⟨v', w', hr, r1, r2, r3⟩ := run_append_blk (P := Tryz.prog) (w.alloc (.cells xc.toArray e)) base T ty e i z size bytes ht hi hz hs hy hzs v n xs (hrow.alloc _) ⟨w.heap.size, 0, none⟩ 1 1 xc (by omega) (by simp [hxl])
  (fun j u hu => cell_at (World.alloc_heap_new w _) (by simpa using hu)) hx (by unfold maxLen; omega)
  (by have : (n + 1) * bytes ≤ 1048576 * 128 := Nat.mul_le_mul (by omega) hby
      omega) (by simp; omega)
 obtain ⟨g, cap, rfl⟩ := ownsRow_succ r1
 have hgl := r1.lt g rfl
 have rg : v.ownBlock = some g ∨ g = w.heap.size + 1 := by
  rcases r3 with r3 | r3
  ·exact .inl r3.symm
  ·right
   have r3 : some g = some (w.alloc (.cells xc.toArray e)).heap.size := r3
   rw [World.size_alloc] at r3
   exact Option.some.inj r3
 have rb : ∀ b, b < w.heap.size → v.ownBlock ≠ some b → w'.heap[b]? = w.heap[b]? := fun b hb hn => (r2.block b (by simp; omega) (fun e => hn e.symm)).trans (Below.heap_alloc w _ b hb)
 refine ⟨g, cap, w', tagRow tag (w.heap.size + 1) gt (.slice (some ⟨g, 0, none⟩) (n + 1) cap), hr, r1, ?_, r2.os, r2.tape, r2.output, by have := r2.size; simpa using this, fun b hb hn => rb b hb (fun e => hn (htg b e)), fun b hb => tagRow_old (by omega), fun b hb hn => ?_⟩
 ·rcases rg with e | e
  ·have := hto g (by rw [htg g e]; exact hgt)
   rw [tagRow_old (by omega)]; exact htg g e
  ·subst e; exact tagRow_is rfl
 ·by_cases e : b = w.heap.size + 1
  ·subst e
   by_cases e2 : g = w.heap.size + 1
   ·rw [← e2]; exact hgl.2
   ·exfalso; apply hn
    unfold tagRow; rw [tagAt_new, if_neg]
    intro e3
    have e3 : some g = some (w.heap.size + 1) := e3
    exact e2 (Option.some.inj e3)
  ·rw [tagRow_old e] at hn
   have := hto b hn; omega
theorem Tryz.infoRT : (Tryz.prog.info? 111).map (fun i => (i.zero, i.size, i.bytes)) = some (some (.agg #[.string ByteArray.empty, .slice none 0 0, .slice none 0 0]), 3, 64) := by kernel_rfl
theorem Tryz.infoRI : (Tryz.prog.info? 114).map (fun i => (i.zero, i.size, i.bytes)) = some (some (.agg #[.string ByteArray.empty, .int .i64 0, .bool false, .int .i64 0, .bool false, .int .i64 0, .int .i64 0, .int .i64 0, .string ByteArray.empty]), 9, 88) := by kernel_rfl
theorem Tryz.infoRL : (Tryz.prog.info? 162).map (fun i => (i.zero, i.size, i.bytes)) = some (some (.agg #[.string ByteArray.empty, .int .i64 0]), 2, 24) := by kernel_rfl
theorem riC_len (x : RI) : (riC x).length = 9 := rfl
theorem labC_len (x : Tx × Nat) : (labC x).length = 2 := rfl
theorem thC_len (x : RTh × (Value × Value)) : (thC x).length = 3 := rfl
section
variable {w w' : World} {tag tag' : Nat → RT} {base pb : Nat} {P : RP} {U : RV}
theorem RfW.thread (h : RfW w tag base pb P U) (x : Tx) (hlen : P.thr.length < 1048576) :
 ∃ g cap w3, (Builtin.append_ #[27, 27] 27 #[U.tV, .slice (some ⟨w.heap.size, 0, none⟩) 1 1]).run Tryz.prog (w.alloc (.cells #[.string (bs x), .slice none 0 0, .slice none 0 0] 111)) = .ok (.slice (some ⟨g, 0, none⟩) (P.thr.length + 1) cap) w3 ∧ w3.cell? ⟨pb, 3, none⟩ = some U.tV ∧ w3.frozen? ⟨pb, 3, none⟩ = false ∧
  ∃ tag', RfW (w3.setCell ⟨pb, 3, none⟩ (.slice (some ⟨g, 0, none⟩) (P.thr.length + 1) cap)) tag' base pb { P with thr := P.thr ++ [⟨x, [], []⟩] } { U with tV := .slice (some ⟨g, 0, none⟩) (P.thr.length + 1) cap, TV := U.TV ++ [(.slice none 0 0, .slice none 0 0)] } ∧ Ext w tag (w3.setCell ⟨pb, 3, none⟩ (.slice (some ⟨g, 0, none⟩) (P.thr.length + 1) cap)) tag' := by
 have hto : ∀ b, tag b ≠ .o → b < w.heap.size := fun b hb => (h.tlt b hb).2
 have hpl := h.lt h.tp (by simp)
 have hg3 := h.g3
 obtain ⟨i0, hi, hy0, hy1, hy2⟩ := info_parts Tryz.infoRT
 obtain ⟨g, cap, w3, tag3, hr3, hrow3, htg3, o3, t3, p3, z3, b3, old3, new3⟩ := rowN_push h.trow h.tt (by simp) Tryz.underlying27 hi hy0 hy1 hy2 rfl (by omega) [.string (bs x), .slice none 0 0, .slice none 0 0] rfl (by simp [Value.oneCell']) 27 hlen (by omega) hto
 have hp3 : w3.heap[pb]? = w.heap[pb]? := b3 pb hpl (by rw [h.tp]; simp)
 have hother : ∀ b, b < w.heap.size → tag b ≠ .row 116 → b ≠ pb → (w3.setCell ⟨pb, 3, none⟩ (.slice (some ⟨g, 0, none⟩) (P.thr.length + 1) cap)).heap[b]? = w.heap[b]? := fun b hb h1 h2 => (Below.heap_setCell w3 ⟨pb, 3, none⟩ _ b h2).trans (b3 b hb h1)
 have hx : Ext w tag (w3.setCell ⟨pb, 3, none⟩ (.slice (some ⟨g, 0, none⟩) (P.thr.length + 1) cap)) tag3 := ⟨o3, t3, p3, by simp; omega, fun b hb => old3 b (by omega), fun b hb hbo => hother b hb (by rw [hbo]; simp) (ne_tag hbo h.tp (by simp))⟩
 refine ⟨g, cap, w3, hr3, (World.cell?_of_block (w := w) (a := ⟨pb, 3, none⟩) hp3).trans h.thrV, (World.frozen?_of_block (w := w) (a := ⟨pb, 3, none⟩) hp3).trans (h.frz _), tag3, ?_, hx⟩
 refine h.step (fun x => x = .row 116 ∨ x = .rd) hx (fun b hb h1 h2 => hother b hb (fun e => h2 (.inl e)) (fun e => h2 (by rw [e]; exact .inr h.tp))) (fun b hb hn => by simp only [World.size_setCell]; exact new3 b hb hn) ?_ (fun k' hk' => .inl ⟨rfl, rfl, ?_⟩) (.inr ⟨?_, fun g' e => ?_, by simp [h.len]⟩) (fun j th p h1 h2 => ?_)
 ·rw [heap_setCell_same w3 pb 3 _ _ _ (hp3.trans h.cell)]; rfl
 ·rcases hk' with rfl | rfl | rfl <;> simp
 ·show World.ownsRow _ _ _ _ _ (P.thr ++ [(⟨x, [], []⟩ : RTh)]).length (((P.thr ++ [(⟨x, [], []⟩ : RTh)]).zip (U.TV ++ [(Value.slice none 0 0, Value.slice none 0 0)])).flatMap thC)
  rw [List.length_append, List.zip_append h.len.symm, List.flatMap_append]
  refine owns_same hrow3 fun y hy => ?_
  have hy : some g = some y := hy
  cases hy
  exact Below.heap_setCell w3 ⟨pb, 3, none⟩ _ g (ne_tag htg3 ((old3 pb (by omega)).trans h.tp) (by simp))
 ·have e : some g = some g' := e
  cases e
  exact htg3
 ·have h1 : (P.thr ++ [⟨x, [], []⟩])[j]? = some th := h1
  have h2 : (U.TV ++ [(.slice none 0 0, .slice none 0 0)])[j]? = some p := h2
  by_cases e : j < P.thr.length
  ·rw [List.getElem?_append_left e] at h1
   rw [List.getElem?_append_left (by rw [h.len]; exact e)] at h2
   exact .inl ⟨h1, h2, by simp, by simp⟩
  ·right
   have hjl := (List.getElem?_eq_some_iff.1 h1).1
   simp at hjl
   have ej : j = P.thr.length := by omega
   subst ej
   rw [List.getElem?_append_right (Nat.le_refl _), Nat.sub_self] at h1
   rw [← h.len, List.getElem?_append_right (Nat.le_refl _), Nat.sub_self] at h2
   cases h1; cases h2
   exact ⟨World.ownsRow_nil _ _ _ _, (fun g e => by cases e), World.ownsRow_nil _ _ _ _, (fun g e => by cases e)⟩
theorem set_zip {th th' : RTh} {p p' : Value × Value} {j : Nat} (l : List RTh) (m : List (Value × Value)) : (l.zip m).set j (th', p') = (l.set j th').zip (m.set j p') := by
 induction l generalizing j m with
 | nil => simp
 | cons a l ih =>
  cases m with
  | nil => simp
  | cons b m =>
   cases j with
   | zero => simp
   | succ j => simp [ih]
theorem RfW.turn {w3 : World} {tag3 : Nat → RT} {j r gt tcap : Nat} {th th' : RTh} {p p' : Value × Value} {v : Value} {gk : RT} (h : RfW w tag base pb P U) (hj : P.thr[j]? = some th) (hp : U.TV[j]? = some p) (hr : r < 3) (hset : thC (th', p') = (thC (th, p)).set r v) (hgk : gk = .cd j ∨ gk = .lb j)
 (hV : U.tV = .slice (some ⟨gt, 0, none⟩) P.thr.length tcap) (hsz : w.heap.size + 1 ≤ w3.heap.size) (ho : w3.os = w.os) (ht : w3.tape = w.tape) (hpp : w3.output = w.output)
 (b3 : ∀ b, b < w.heap.size → tag b ≠ gk → w3.heap[b]? = w.heap[b]?) (old3 : ∀ b, b ≤ w.heap.size → tag3 b = tag b) (new3 : ∀ b, w.heap.size ≤ b → tag3 b ≠ .o → b < w3.heap.size)
 (hth : ∀ w4 : World, (∀ b, b ≠ gt → w4.heap[b]? = w3.heap[b]?) → ThOk w4 tag3 base j th' p') :
 w3.cell? ⟨gt, j * 3 + r, none⟩ = (thC (th, p))[r]? ∧ w3.frozen? ⟨gt, j * 3 + r, none⟩ = false ∧ RfW (w3.setCell ⟨gt, j * 3 + r, none⟩ v) tag3 base pb { P with thr := P.thr.set j th' } { U with TV := U.TV.set j p' } ∧ Ext w tag (w3.setCell ⟨gt, j * 3 + r, none⟩ v) tag3 := by
 have hpl := h.lt h.tp (by simp)
 have hgt : tag gt = .row 116 := h.tt gt (by rw [hV]; rfl)
 have hgl := h.lt hgt (by simp)
 have hjl := (List.getElem?_eq_some_iff.1 hj).1
 have hgk0 : gk ≠ .o ∧ gk ≠ .row 116 ∧ gk ≠ .rd ∧ ∀ k, gk ≠ .row k := by rcases hgk with rfl | rfl <;> simp
 have htrow := h.trow
 rw [hV] at htrow
 have hrow3 : w3.ownsRow base 111 3 (.slice (some ⟨gt, 0, none⟩) P.thr.length tcap) P.thr.length ((P.thr.zip U.TV).flatMap thC) := owns_same htrow fun x hx => by
  have hx : some gt = some x := hx
  cases hx
  exact b3 gt hgl (by rw [hgt]; exact fun e => hgk0.2.1 e.symm)
 have hzj : (P.thr.zip U.TV)[j]? = some (th, p) := by
  rw [List.getElem?_zip_eq_some]; exact ⟨hj, hp⟩
 have hother : ∀ b, b < w.heap.size → tag b ≠ gk → b ≠ gt → (w3.setCell ⟨gt, j * 3 + r, none⟩ v).heap[b]? = w.heap[b]? := fun b hb h1 h2 => (Below.heap_setCell w3 ⟨gt, j * 3 + r, none⟩ _ b h2).trans (b3 b hb h1)
 have hx : Ext w tag (w3.setCell ⟨gt, j * 3 + r, none⟩ v) tag3 := ⟨ho, ht, hpp, by simp; omega, fun b hb => old3 b (by omega), fun b hb hbo => hother b hb (by rw [hbo]; exact fun e => hgk0.1 e.symm) (ne_tag hbo hgt (by simp))⟩
 refine ⟨?_, hrow3.frozenAt _, ?_, hx⟩
 ·rw [hrow3.cellAt (j * 3 + r) (by omega)]
  exact flat_at thC_len hzj hr
 refine h.step (fun x => x = gk ∨ x = .row 116) hx (fun b hb h1 h2 => hother b hb (fun e => h2 (.inl e)) (fun e => h2 (by rw [e]; exact .inr hgt))) (fun b hb hn => by simp only [World.size_setCell]; exact new3 b hb hn) ?_ (fun k' hk' => .inl ⟨rfl, rfl, ?_⟩) (.inr ⟨?_, fun g' e => ?_, by simp [h.len]⟩) (fun i th2 p2 h1 h2 => ?_)
 ·exact (hother pb hpl (by rw [h.tp]; exact fun e => hgk0.2.2.1 e.symm) (ne_tag h.tp hgt (by simp))).trans h.cell
 ·rintro (e | e)
  ·exact hgk0.2.2.2 k' e.symm
  ·rcases hk' with rfl | rfl | rfl <;> cases e
 ·show World.ownsRow _ _ _ _ U.tV (P.thr.set j th').length (((P.thr.set j th').zip (U.TV.set j p')).flatMap thC)
  rw [List.length_set, ← set_zip (th := th) (p := p), hV, ← flat_set thC_len hzj hr hset]
  exact (hrow3.stored (j * 3 + r) v).1
 ·have e : U.tV.ownBlock = some g' := e
  rw [hV] at e
  have e : some gt = some g' := e
  cases e
  exact (old3 gt (by omega)).trans hgt
 ·have h1 : (P.thr.set j th')[i]? = some th2 := h1
  have h2 : (U.TV.set j p')[i]? = some p2 := h2
  by_cases e : i = j
  ·subst e
   right
   rw [List.getElem?_set_self hjl] at h1
   rw [List.getElem?_set_self (by rw [h.len]; exact hjl)] at h2
   cases h1; cases h2
   exact hth _ (fun b hb => Below.heap_setCell w3 ⟨gt, i * 3 + r, none⟩ _ b hb)
  ·rw [List.getElem?_set_ne (fun e' => e e'.symm)] at h1 h2
   refine .inl ⟨h1, h2, ?_, ?_⟩
   ·rintro (e' | e')
    ·rcases hgk with rfl | rfl
     ·cases e'; exact e rfl
     ·cases e'
    ·cases e'
   ·rintro (e' | e')
    ·rcases hgk with rfl | rfl
     ·cases e'
     ·cases e'; exact e rfl
    ·cases e'
end
section
variable {w w' : World} {tag tag' : Nat → RT} {base pb : Nat} {P : RP} {U : RV}
theorem RfW.thrForm (h : RfW w tag base pb P U) {j : Nat} {th : RTh} (hj : P.thr[j]? = some th) : ∃ gt tcap, U.tV = .slice (some ⟨gt, 0, none⟩) P.thr.length tcap := by
 have hjl := (List.getElem?_eq_some_iff.1 hj).1
 obtain ⟨m, hm⟩ : ∃ m, P.thr.length = m + 1 := ⟨P.thr.length - 1, by omega⟩
 have := h.trow
 rw [hm] at this ⊢
 exact ownsRow_succ this
theorem RfW.label (h : RfW w tag base pb P U) {j : Nat} {th : RTh} {p : Value × Value} (hj : P.thr[j]? = some th) (hp : U.TV[j]? = some p) (x : Tx) (n : Nat) (hlen : th.labs.length < 1048576) {gt tcap : Nat} (hV : U.tV = .slice (some ⟨gt, 0, none⟩) P.thr.length tcap) :
 ∃ g cap w3, (Builtin.append_ #[109, 109] 109 #[p.2, .slice (some ⟨w.heap.size, 0, none⟩) 1 1]).run Tryz.prog (w.alloc (.cells #[.string (bs x), .int .i64 n] 162)) = .ok (.slice (some ⟨g, 0, none⟩) (th.labs.length + 1) cap) w3 ∧ w3.cell? ⟨gt, j * 3 + 2, none⟩ = some p.2 ∧ w3.frozen? ⟨gt, j * 3 + 2, none⟩ = false ∧
  ∃ tag', RfW (w3.setCell ⟨gt, j * 3 + 2, none⟩ (.slice (some ⟨g, 0, none⟩) (th.labs.length + 1) cap)) tag' base pb { P with thr := P.thr.set j { th with labs := th.labs ++ [(x, n)] } } { U with TV := U.TV.set j (p.1, .slice (some ⟨g, 0, none⟩) (th.labs.length + 1) cap) } ∧ Ext w tag (w3.setCell ⟨gt, j * 3 + 2, none⟩ (.slice (some ⟨g, 0, none⟩) (th.labs.length + 1) cap)) tag' := by
 have hto : ∀ b, tag b ≠ .o → b < w.heap.size := fun b hb => (h.tlt b hb).2
 have hg3 := h.g3
 have hT := h.ths j th p hj hp
 have hgt : tag gt = .row 116 := h.tt gt (by rw [hV]; rfl)
 obtain ⟨i0, hi, hy0, hy1, hy2⟩ := info_parts Tryz.infoRL
 obtain ⟨g, cap, w3, tag3, hr3, hrow3, htg3, o3, t3, p3, z3, b3, old3, new3⟩ := rowN_push hT.labs hT.tl (by simp) Tryz.underlying109 hi hy0 hy1 hy2 rfl (by omega) [.string (bs x), .int .i64 n] rfl (by simp [Value.oneCell']) 109 hlen (by omega) hto
 obtain ⟨q1, q2, q3, q4⟩ := h.turn (w3 := w3) (tag3 := tag3) (r := 2) (th' := { th with labs := th.labs ++ [(x, n)] }) (p' := (p.1, .slice (some ⟨g, 0, none⟩) (th.labs.length + 1) cap)) (v := .slice (some ⟨g, 0, none⟩) (th.labs.length + 1) cap) (gk := .lb j) hj hp (by omega) rfl (.inr rfl) hV z3 o3 t3 p3 b3 old3 new3 (fun w4 h4 => by
  refine ⟨owns_same hT.code fun y hy => ?_, fun y hy => (old3 y (by have := hto y (by rw [hT.tc y hy]; simp); omega)).trans (hT.tc y hy), ?_, fun y hy => ?_⟩
  ·rw [h4 y (ne_tag (hT.tc y hy) hgt (by simp))]
   exact b3 y (hto y (by rw [hT.tc y hy]; simp)) (by rw [hT.tc y hy]; simp)
  ·show World.ownsRow _ _ _ _ _ (th.labs ++ [(x, n)]).length ((th.labs ++ [(x, n)]).flatMap labC)
   rw [List.length_append, List.flatMap_append]
   refine owns_same hrow3 fun y hy => ?_
   have hy : some g = some y := hy
   cases hy
   exact h4 g (ne_tag htg3 ((old3 gt (by have := hto gt (by rw [hgt]; simp); omega)).trans hgt) (by simp))
  ·have hy : some g = some y := hy
   cases hy; exact htg3)
 exact ⟨g, cap, w3, hr3, q1, q2, tag3, q3, q4⟩
theorem RfW.addI (h : RfW w tag base pb P U) {j : Nat} {th : RTh} {p : Value × Value} (hj : P.thr[j]? = some th) (hp : U.TV[j]? = some p) (r : RI) (hlen : th.code.length < 1048576) {gt tcap : Nat} (hV : U.tV = .slice (some ⟨gt, 0, none⟩) P.thr.length tcap) :
 ∃ g cap w3, (Builtin.append_ #[108, 108] 108 #[p.1, .slice (some ⟨w.heap.size, 0, none⟩) 1 1]).run Tryz.prog (w.alloc (.cells (riC r).toArray 114)) = .ok (.slice (some ⟨g, 0, none⟩) (th.code.length + 1) cap) w3 ∧ w3.cell? ⟨gt, j * 3 + 1, none⟩ = some p.1 ∧ w3.frozen? ⟨gt, j * 3 + 1, none⟩ = false ∧
  ∃ tag', RfW (w3.setCell ⟨gt, j * 3 + 1, none⟩ (.slice (some ⟨g, 0, none⟩) (th.code.length + 1) cap)) tag' base pb { P with thr := P.thr.set j { th with code := th.code ++ [r] } } { U with TV := U.TV.set j (.slice (some ⟨g, 0, none⟩) (th.code.length + 1) cap, p.2) } ∧ Ext w tag (w3.setCell ⟨gt, j * 3 + 1, none⟩ (.slice (some ⟨g, 0, none⟩) (th.code.length + 1) cap)) tag' := by
 have hto : ∀ b, tag b ≠ .o → b < w.heap.size := fun b hb => (h.tlt b hb).2
 have hg3 := h.g3
 have hT := h.ths j th p hj hp
 have hgt : tag gt = .row 116 := h.tt gt (by rw [hV]; rfl)
 obtain ⟨i0, hi, hy0, hy1, hy2⟩ := info_parts Tryz.infoRI
 obtain ⟨g, cap, w3, tag3, hr3, hrow3, htg3, o3, t3, p3, z3, b3, old3, new3⟩ := rowN_push hT.code hT.tc (by simp) Tryz.underlying108 hi hy0 hy1 hy2 rfl (by omega) (riC r) rfl (by simp [riC, Value.oneCell']) 108 hlen (by omega) hto
 obtain ⟨q1, q2, q3, q4⟩ := h.turn (w3 := w3) (tag3 := tag3) (r := 1) (th' := { th with code := th.code ++ [r] }) (p' := (.slice (some ⟨g, 0, none⟩) (th.code.length + 1) cap, p.2)) (v := .slice (some ⟨g, 0, none⟩) (th.code.length + 1) cap) (gk := .cd j) hj hp (by omega) rfl (.inl rfl) hV z3 o3 t3 p3 b3 old3 new3 (fun w4 h4 => by
  refine ⟨?_, fun y hy => ?_, owns_same hT.labs fun y hy => ?_, fun y hy => (old3 y (by have := hto y (by rw [hT.tl y hy]; simp); omega)).trans (hT.tl y hy)⟩
  ·show World.ownsRow _ _ _ _ _ (th.code ++ [r]).length ((th.code ++ [r]).flatMap riC)
   rw [List.length_append, List.flatMap_append]
   have e : [r].flatMap riC = riC r := by simp
   rw [e]
   refine owns_same hrow3 fun y hy => ?_
   have hy : some g = some y := hy
   cases hy
   exact h4 g (ne_tag htg3 ((old3 gt (by have := hto gt (by rw [hgt]; simp); omega)).trans hgt) (by simp))
  ·have hy : some g = some y := hy
   cases hy; exact htg3
  ·rw [h4 y (ne_tag (hT.tl y hy) hgt (by simp))]
   exact b3 y (hto y (by rw [hT.tl y hy]; simp)) (by rw [hT.tl y hy]; simp))
 exact ⟨g, cap, w3, hr3, q1, q2, tag3, q3, q4⟩
theorem RfW.thrCell (h : RfW w tag base pb P U) {j r : Nat} {th : RTh} {p : Value × Value} (hj : P.thr[j]? = some th) (hp : U.TV[j]? = some p) (hr : r < 3) {gt tcap : Nat} (hV : U.tV = .slice (some ⟨gt, 0, none⟩) P.thr.length tcap) : w.cell? ⟨gt, j * 3 + r, none⟩ = (thC (th, p))[r]? := by
 have hjl := (List.getElem?_eq_some_iff.1 hj).1
 have htrow := h.trow
 rw [hV] at htrow
 rw [htrow.cellAt (j * 3 + r) (by omega)]
 exact flat_at thC_len (by rw [List.getElem?_zip_eq_some]; exact ⟨hj, hp⟩) hr
end
def RP.names (P : RP) : List Tx := P.thr.map RTh.name
set_option maxRecDepth 100000 in
set_option maxHeartbeats 400000 in
theorem rThread_any {w : World} {tag : Nat → RT} {base pb : Nat} {P : RP} {U : RV} (h : RfW w tag base pb P U) (x : Tx) (hb : P.thr.length < 1048576) :
 Calls Tryz.prog 89 #[ptrV pb, .string (bs x)] w fun e w' => e = .returned (.int .i64 (findZ P.names x)) ∧ w' = w := by
 have c3 := h.thrV
 obtain ⟨ta, tcap, hV⟩ := owns_len h.trow
 rw [hV] at c3
 have H := hide h
 replace hV := hide hV
 unfold ptrV
 clear h
 go_enter Tryz.func89, Tryz.ntmps89
 go_wp2_with fail
 go_loopw [5] (fun iv wr => ∃ i : Nat, i ≤ P.thr.length ∧ iv = .int .i64 i ∧ (∀ j : Nat, j < i → P.names.getD j [] ≠ x) ∧ wr = w) (fun iv _ => P.thr.length - (intOf iv).toNat)
 case atStart => exact ⟨0, Nat.zero_le _, rfl, fun j hj => by omega, rfl⟩
 case round =>
  obtain ⟨i, hi, rfl, hall, rfl⟩ := hrel
  have hnl : P.names.length = P.thr.length := by simp [RP.names]
  by_cases h5 : i < P.thr.length
  ·obtain ⟨th, hth⟩ : ∃ th, P.thr[i]? = some th := ⟨_, List.getElem?_eq_getElem h5⟩
   obtain ⟨p, hp⟩ : ∃ p, U.TV[i]? = some p := ⟨_, List.getElem?_eq_getElem (by rw [H.out.len]; exact h5)⟩
   obtain ⟨gt, tcap', hV'⟩ := H.out.thrForm hth
   have e := hV.out
   rw [hV'] at e
   cases e
   have hlt : (i : Int) < (P.thr.length : Int) := by omega
   have c0 : wr.cell? ⟨gt, i * 3, none⟩ = some (.string (bs th.name)) := H.out.thrCell hth hp (r := 0) (by omega) hV'
   have hgd : P.names.getD i [] = th.name := by
    rw [List.getD_eq_getElem?_getD, RP.names, List.getElem?_map, hth]; rfl
   have HA := hide (⟨hall, fun h => findZ_at (l := P.names) (n := x) (i := i) (by omega) hall (by rw [hgd]; exact h), hgd⟩ : _ ∧ (th.name = x → _) ∧ _)
   have hF : ((bs th.name).toList == (bs x).toList) = decide (th.name = x) := by
    rw [bs_toList, bs_toList]
    by_cases e : th.name = x <;> simp [e]
   clear hall hgd hnl
   by_cases e : th.name = x
   ·rw [decide_eq_true e] at hF
    replace e := hide e
    go_wp2_with fail
    go_ret
    exact ⟨by rw [HA.out.2.1 e.out]; rfl, by trivial⟩
   ·rw [decide_eq_false e] at hF
    replace e := hide e
    go_wp2_with fail
    go_roundw
    case rel =>
     refine ⟨i + 1, by omega, by go_num, fun j hj => ?_, by trivial⟩
     by_cases h6 : j = i
     ·subst h6; rw [HA.out.2.2]; exact e.out
     ·exact HA.out.1 j (by omega)
    case measure => simp [intOf]; omega
  ·have hh : Hid (findZ P.names x = -1) := findZ_no (fun j hj => hall j (by omega))
   clear hall
   go_wp2_with fail
   go_ret
   exact ⟨by rw [hh.out]; rfl, by trivial⟩
def hasP (P : RP) (x : Tx) : Bool := decide (0 ≤ findZ P.vs x) || decide (0 ≤ findZ P.fs x) || decide (0 ≤ findZ P.ls x) || decide (0 ≤ findZ P.names x)
def preMap {α : Type} (f : α → α) (l : List α) (i : Nat) : List α := (l.take i).map f ++ l.drop i
theorem preMap_len {α : Type} (f : α → α) (l : List α) (i : Nat) : (preMap f l i).length = l.length := by simp [preMap]; omega
theorem preMap_zero {α : Type} (f : α → α) (l : List α) : preMap f l 0 = l := rfl
theorem preMap_all {α : Type} (f : α → α) (l : List α) {i : Nat} (h : l.length ≤ i) : preMap f l i = l.map f := by simp [preMap, List.take_of_length_le h, List.drop_eq_nil_of_le h]
theorem preMap_at {α : Type} (f : α → α) {l : List α} {i : Nat} {x : α} (h : l[i]? = some x) : (preMap f l i)[i]? = some x := by
 have hl := (List.getElem?_eq_some_iff.1 h).1
 unfold preMap
 rw [List.getElem?_append_right (by simp; omega), List.length_map, List.length_take, Nat.min_eq_left (by omega), Nat.sub_self, List.getElem?_drop]
 simpa using h
theorem preMap_set {α : Type} (f : α → α) {l : List α} {i : Nat} {x : α} (h : l[i]? = some x) : (preMap f l i).set i (f x) = preMap f l (i + 1) := by
 have hl := (List.getElem?_eq_some_iff.1 h).1
 have hx := (List.getElem?_eq_some_iff.1 h).2
 unfold preMap
 rw [List.set_append_right _ _ (by simp; omega), List.length_map, List.length_take, Nat.min_eq_left (by omega), Nat.sub_self, List.take_succ_eq_append_getElem hl, List.map_append, List.append_assoc]
 congr 1
 rw [List.drop_eq_getElem_cons hl, hx]; rfl
def labGo (x : Tx) (l : List (Tx × Nat)) (a : Int) : Int := l.foldl (fun a p => if p.1 = x then (p.2 : Int) else a) a
theorem labGo_succ {x : Tx} {l : List (Tx × Nat)} {j : Nat} {p : Tx × Nat} (h : l[j]? = some p) (a : Int) : labGo x (l.take (j + 1)) a = if p.1 = x then (p.2 : Int) else labGo x (l.take j) a := by
 have hl := (List.getElem?_eq_some_iff.1 h).1
 have hx := (List.getElem?_eq_some_iff.1 h).2
 unfold labGo
 rw [List.take_succ_eq_append_getElem hl, List.foldl_append, hx]; rfl
def isL (f : Tx) : Bool := f == [108] || f == [97, 98, 108]
def rX (P : RP) (th : RTh) (r : RI) : Int := if formT r.i.op = [116] then findZ P.names r.word else if isL (formT r.i.op) then labGo r.word th.labs (-1) else r.i.x
def RI.at (r : RI) (x : Int) : RI := { r with i := { r.i with x := x } }
def rsI (P : RP) (th : RTh) (r : RI) : RI := r.at (rX P th r)
def rsT (P : RP) (th : RTh) : RTh := { th with code := th.code.map (rsI P th) }
def RP.res (P : RP) (i : Nat) : RP := { P with thr := preMap (rsT P) P.thr i }
def badC (P : RP) (th : RTh) (l : List RI) : Option Int := (l.find? fun r => decide (rX P th r < 0)).map RI.line
def badT (P : RP) (l : List RTh) : Option Int := l.findSome? fun th => badC P th th.code
theorem badC_ok {P : RP} {th : RTh} {k : Nat} {r : RI} (hr : th.code[k]? = some r) (h : badC P th (th.code.take k) = none) (hx : ¬ rX P th r < 0) : badC P th (th.code.take (k + 1)) = none := by
 have hl := (List.getElem?_eq_some_iff.1 hr).1
 have he := (List.getElem?_eq_some_iff.1 hr).2
 unfold badC at h ⊢
 rw [List.take_succ_eq_append_getElem hl, List.find?_append, he]
 simp only [Option.map_eq_none_iff] at h ⊢
 rw [h]; simp; omega
theorem badC_no {P : RP} {th : RTh} {k : Nat} {r : RI} (hr : th.code[k]? = some r) (h : badC P th (th.code.take k) = none) (hx : rX P th r < 0) : badC P th th.code = some r.line := by
 have hl := (List.getElem?_eq_some_iff.1 hr).1
 have he := (List.getElem?_eq_some_iff.1 hr).2
 have e : th.code = th.code.take k ++ (r :: th.code.drop (k + 1)) := by
  conv => lhs; rw [← List.take_append_drop k th.code, List.drop_eq_getElem_cons hl, he]
 unfold badC at h ⊢
 rw [e, List.find?_append]
 simp only [Option.map_eq_none_iff] at h
 rw [h]; simp [hx]
theorem badT_ok {P : RP} {i : Nat} {th : RTh} (ht : P.thr[i]? = some th) (h : badT P (P.thr.take i) = none) (hx : badC P th th.code = none) : badT P (P.thr.take (i + 1)) = none := by
 have hl := (List.getElem?_eq_some_iff.1 ht).1
 have he := (List.getElem?_eq_some_iff.1 ht).2
 unfold badT at h ⊢
 rw [List.take_succ_eq_append_getElem hl, List.findSome?_append, he, h]; simp [hx]
theorem badT_no {P : RP} {i : Nat} {th : RTh} {e : Int} (ht : P.thr[i]? = some th) (h : badT P (P.thr.take i) = none) (hx : badC P th th.code = some e) : badT P P.thr = some e := by
 have hl := (List.getElem?_eq_some_iff.1 ht).1
 have he := (List.getElem?_eq_some_iff.1 ht).2
 have e' : P.thr = P.thr.take i ++ (th :: P.thr.drop (i + 1)) := by
  conv => lhs; rw [← List.take_append_drop i P.thr, List.drop_eq_getElem_cons hl, he]
 unfold badT at h ⊢
 rw [e', List.findSome?_append, h]; simp [hx]
section
variable {w w' : World} {tag tag' : Nat → RT} {base pb : Nat} {P : RP} {U : RV}
theorem RfW.setX (h : RfW w tag base pb P U) {j k : Nat} {th : RTh} {r : RI} {p : Value × Value} (hj : P.thr[j]? = some th) (hp : U.TV[j]? = some p) (hk : th.code[k]? = some r) {gc n ccap : Nat} (hV : p.1 = .slice (some ⟨gc, 0, none⟩) n ccap) (v : Int) :
 RfW (w.setCell ⟨gc, k * 9 + 6, none⟩ (.int .i64 v)) tag base pb { P with thr := P.thr.set j { th with code := th.code.set k (r.at v) } } U ∧ Ext w tag (w.setCell ⟨gc, k * 9 + 6, none⟩ (.int .i64 v)) tag := by
 have hT := h.ths j th p hj hp
 have hgc : tag gc = .cd j := hT.tc gc (by rw [hV]; rfl)
 have hjl := (List.getElem?_eq_some_iff.1 hj).1
 have hother : ∀ b, b ≠ gc → (w.setCell ⟨gc, k * 9 + 6, none⟩ (.int .i64 v)).heap[b]? = w.heap[b]? := fun b hb => Below.heap_setCell w ⟨gc, k * 9 + 6, none⟩ _ b hb
 have hx : Ext w tag (w.setCell ⟨gc, k * 9 + 6, none⟩ (.int .i64 v)) tag := ⟨rfl, rfl, rfl, by simp, fun _ _ => rfl, fun b hb hbo => hother b (ne_tag hbo hgc (by simp))⟩
 refine ⟨h.step (fun x => x = .cd j) hx (fun b hb h1 h2 => hother b (fun e => h2 (by rw [e]; exact hgc))) (fun b hb hn => absurd (h.tlt b hn).2 (by omega)) ((hother pb (ne_tag h.tp hgc (by simp))).trans h.cell) (fun k' hk' => .inl ⟨rfl, rfl, by simp⟩) (.inr ⟨?_, h.tt, by simp [h.len]⟩) (fun i th2 p2 h1 h2 => ?_), hx⟩
 ·show World.ownsRow _ _ _ _ U.tV (P.thr.set j _).length (((P.thr.set j _).zip U.TV).flatMap thC)
  rw [List.length_set]
  have hzz : ((P.thr.set j { th with code := th.code.set k (r.at v) }).zip U.TV).flatMap thC = (P.thr.zip U.TV).flatMap thC := by
   have hs : U.TV.set j p = U.TV := by
    apply List.ext_getElem?
    intro m
    by_cases e : m = j
    ·subst e; rw [List.getElem?_set_self (by rw [h.len]; exact hjl), hp]
    ·rw [List.getElem?_set_ne (fun e' => e e'.symm)]
   conv => lhs; rw [← hs, ← set_zip (th := th) (p := p)]
   have hz : (P.thr.zip U.TV)[j]? = some (th, p) := by rw [List.getElem?_zip_eq_some]; exact ⟨hj, hp⟩
   rw [← flat_set (r := 0) (u := .string (bs th.name)) thC_len hz (by omega) rfl]
   apply List.ext_getElem?
   intro m
   by_cases e : m = j * 3 + 0
   ·subst e
    have h0 := flat_at (r := 0) thC_len hz (by omega)
    rw [List.getElem?_set_self (List.getElem?_eq_some_iff.1 h0).1, h0]; rfl
   ·rw [List.getElem?_set_ne (fun e' => e e'.symm)]
  rw [hzz]
  exact owns_same h.trow fun g e => hother g (ne_tag (h.tt g e) hgc (by simp))
 ·have h1 : (P.thr.set j _)[i]? = some th2 := h1
  by_cases e : i = j
  ·subst e
   right
   rw [List.getElem?_set_self hjl] at h1
   cases h1
   rw [hp] at h2
   cases h2
   refine ⟨?_, hT.tc, owns_same hT.labs fun g e => hother g (ne_tag (hT.tl g e) hgc (by simp)), hT.tl⟩
   show World.ownsRow _ _ _ _ p.1 (th.code.set k _).length ((th.code.set k _).flatMap riC)
   have hc := hT.code
   rw [hV] at hc ⊢
   have hn : n = th.code.length := by obtain ⟨_, _, e'⟩ := owns_len hc; cases e'; rfl
   subst hn
   rw [List.length_set, ← flat_set (r := 6) (u := .int .i64 v) riC_len hk (by omega) rfl]
   exact (hc.stored (k * 9 + 6) _).1
  ·rw [List.getElem?_set_ne (fun e' => e e'.symm)] at h1
   exact .inl ⟨h1, h2, (fun e' => by cases e'; exact e rfl), by simp⟩
theorem RfW.codeCell (h : RfW w tag base pb P U) {j k q : Nat} {th : RTh} {r : RI} {p : Value × Value} (hj : P.thr[j]? = some th) (hp : U.TV[j]? = some p) (hk : th.code[k]? = some r) (hq : q < 9) {gc ccap : Nat} (hV : p.1 = .slice (some ⟨gc, 0, none⟩) th.code.length ccap) : w.cell? ⟨gc, k * 9 + q, none⟩ = (riC r)[q]? ∧ w.frozen? ⟨gc, k * 9 + q, none⟩ = false := by
 have hkl := (List.getElem?_eq_some_iff.1 hk).1
 have hc := (h.ths j th p hj hp).code
 rw [hV] at hc
 refine ⟨?_, hc.frozenAt _⟩
 rw [hc.cellAt (k * 9 + q) (by omega)]
 exact flat_at riC_len hk hq
theorem RfW.codeForm (h : RfW w tag base pb P U) {j k : Nat} {th : RTh} {r : RI} {p : Value × Value} (hj : P.thr[j]? = some th) (hp : U.TV[j]? = some p) (hk : th.code[k]? = some r) : ∃ gc ccap, p.1 = .slice (some ⟨gc, 0, none⟩) th.code.length ccap := by
 have hkl := (List.getElem?_eq_some_iff.1 hk).1
 obtain ⟨m, hm⟩ : ∃ m, th.code.length = m + 1 := ⟨th.code.length - 1, by omega⟩
 have := (h.ths j th p hj hp).code
 rw [hm] at this ⊢
 exact ownsRow_succ this
theorem RfW.labCell (h : RfW w tag base pb P U) {j k q : Nat} {th : RTh} {l : Tx × Nat} {p : Value × Value} (hj : P.thr[j]? = some th) (hp : U.TV[j]? = some p) (hk : th.labs[k]? = some l) (hq : q < 2) {gl lcap : Nat} (hV : p.2 = .slice (some ⟨gl, 0, none⟩) th.labs.length lcap) : w.cell? ⟨gl, k * 2 + q, none⟩ = (labC l)[q]? := by
 have hkl := (List.getElem?_eq_some_iff.1 hk).1
 have hc := (h.ths j th p hj hp).labs
 rw [hV] at hc
 rw [hc.cellAt (k * 2 + q) (by omega)]
 exact flat_at labC_len hk hq
theorem RfW.labForm (h : RfW w tag base pb P U) {j k : Nat} {th : RTh} {l : Tx × Nat} {p : Value × Value} (hj : P.thr[j]? = some th) (hp : U.TV[j]? = some p) (hk : th.labs[k]? = some l) : ∃ gl lcap, p.2 = .slice (some ⟨gl, 0, none⟩) th.labs.length lcap := by
 have hkl := (List.getElem?_eq_some_iff.1 hk).1
 obtain ⟨m, hm⟩ : ∃ m, th.labs.length = m + 1 := ⟨th.labs.length - 1, by omega⟩
 have := (h.ths j th p hj hp).labs
 rw [hm] at this ⊢
 exact ownsRow_succ this
end
set_option maxRecDepth 100000 in
set_option maxHeartbeats 1000000 in
theorem rHas_any {w : World} {tag : Nat → RT} {base pb : Nat} {P : RP} {U : RV} (h : RfW w tag base pb P U) (x : Tx) (hb : P.thr.length < 1048576) (hl : ∀ k, (P.get k).length < 1048576) :
 Calls Tryz.prog 86 #[ptrV pb, .string (bs x)] w fun e w' => e = .returned (.bool (hasP P x)) ∧ w' = w := by
 have hT := rThread_any h x hb
 have c0 := h.rowC (k := 118) (.inl rfl)
 have c1 := h.rowC (k := 102) (.inr (.inl rfl))
 have c2 := h.rowC (k := 109) (.inr (.inr rfl))
 obtain ⟨a0, d0, e0, s0⟩ := row_ws (h.rows 118 (.inl rfl))
 obtain ⟨a1, d1, e1, s1⟩ := row_ws (h.rows 102 (.inr (.inl rfl)))
 obtain ⟨a2, d2, e2, s2⟩ := row_ws (h.rows 109 (.inr (.inr rfl)))
 rw [e0] at c0
 rw [e1] at c1
 rw [e2] at c2
 have c0 : w.cell? ⟨pb, 0, none⟩ = some (.slice a0 P.vs.length d0) := c0
 have c1 : w.cell? ⟨pb, 1, none⟩ = some (.slice a1 P.fs.length d1) := c1
 have c2 : w.cell? ⟨pb, 2, none⟩ = some (.slice a2 P.ls.length d2) := c2
 have f0 := rFind_any a0 P.vs.length d0 P.vs x w rfl s0 (by have : P.vs.length < 1048576 := hl 118; omega)
 have f1 := rFind_any a1 P.fs.length d1 P.fs x w rfl s1 (by have : P.fs.length < 1048576 := hl 102; omega)
 have f2 := rFind_any a2 P.ls.length d2 P.ls x w rfl s2 (by have : P.ls.length < 1048576 := hl 109; omega)
 have hH : Hid (hasP P x = (decide (0 ≤ findZ P.vs x) || decide (0 ≤ findZ P.fs x) || decide (0 ≤ findZ P.ls x) || decide (0 ≤ findZ P.names x))) := rfl
 generalize findZ P.vs x = z0 at f0 hH
 generalize findZ P.fs x = z1 at f1 hH
 generalize findZ P.ls x = z2 at f2 hH
 generalize findZ P.names x = z3 at hT hH
 unfold ptrV at hT ⊢
 clear h s0 s1 s2 e0 e1 e2 hl
 by_cases q0 : 0 ≤ z0
 ·have hv : Hid (hasP P x = true) := by rw [hH.out, decide_eq_true q0]; rfl
  go_enter Tryz.func86, Tryz.ntmps86
  go_wp2_with fail
  refine f0.mono ?_
  rintro e w1 ⟨rfl, rfl⟩
  go_wp2_with fail
  go_ret
  exact ⟨by rw [hv.out]; rfl, rfl⟩
 ·by_cases q1 : 0 ≤ z1
  ·have hv : Hid (hasP P x = true) := by unfold Hid; rw [hH.out, decide_eq_true q1]; simp
   go_enter Tryz.func86, Tryz.ntmps86
   go_wp2_with fail
   refine f0.mono ?_
   rintro e w1 ⟨rfl, rfl⟩
   go_wp2_with fail
   refine f1.mono ?_
   rintro e w1 ⟨rfl, rfl⟩
   go_wp2_with fail
   go_ret
   exact ⟨by rw [hv.out]; rfl, rfl⟩
  ·by_cases q2 : 0 ≤ z2
   ·have hv : Hid (hasP P x = true) := by unfold Hid; rw [hH.out, decide_eq_true q2]; simp
    go_enter Tryz.func86, Tryz.ntmps86
    go_wp2_with fail
    refine f0.mono ?_
    rintro e w1 ⟨rfl, rfl⟩
    go_wp2_with fail
    refine f1.mono ?_
    rintro e w1 ⟨rfl, rfl⟩
    go_wp2_with fail
    refine f2.mono ?_
    rintro e w1 ⟨rfl, rfl⟩
    go_wp2_with fail
    go_ret
    exact ⟨by rw [hv.out]; rfl, rfl⟩
   ·have hv : Hid (hasP P x = decide (0 ≤ z3)) := by rw [hH.out, decide_eq_false q0, decide_eq_false q1, decide_eq_false q2]; rfl
    go_enter Tryz.func86, Tryz.ntmps86
    go_wp2_with fail
    refine f0.mono ?_
    rintro e w1 ⟨rfl, rfl⟩
    go_wp2_with fail
    refine f1.mono ?_
    rintro e w1 ⟨rfl, rfl⟩
    go_wp2_with fail
    refine f2.mono ?_
    rintro e w1 ⟨rfl, rfl⟩
    go_wp2_with fail
    refine hT.mono ?_
    rintro e w1 ⟨rfl, rfl⟩
    go_wp2_with fail
    go_ret
    exact ⟨by rw [hH.out]; rfl, rfl⟩
end Go.Proofs.YtcfpedjfofpnkaaGreatDoor
