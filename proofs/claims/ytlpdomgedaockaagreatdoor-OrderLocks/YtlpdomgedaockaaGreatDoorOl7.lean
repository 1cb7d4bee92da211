import Derived.Test.YtlpdomgedaockaaGreatDoorOl6
import Derived.Test.YtlpdomgedaockaaGreatDoorOl4
import Derived.Test.YtlpdomgedaockaaGreatDoorOl5
set_option linter.unusedVariables false
set_option linter.unusedSimpArgs false
namespace Go.Proofs.YtlpdomgedaockaaGreatDoor
open Go.RowKit Go.Proofs.Cod
structure RI where
  i : In7
  line : Int
  word : Tx
structure RTh where
  name : Tx
  code : List RI
  labs : List (Tx × Nat)
structure RP where
  vs : List Tx
  fs : List Tx
  ls : List Tx
  thr : List RTh
def riC (r : RI) : List Value := [.string (bs r.i.op), .int .i64 r.i.r, .bool r.i.aR, .int .i64 r.i.aN, .bool r.i.bR, .int .i64 r.i.bN, .int .i64 r.i.x, .int .i64 r.line, .string (bs r.word)]
def labC (p : Tx × Nat) : List Value := [.string (bs p.1), .int .i64 p.2]
def thC (p : RTh × (Value × Value)) : List Value := [.string (bs p.1.name), p.2.1, p.2.2]
def RP.get (P : RP) (k : Int) : List Tx := if k = 118 then P.vs else if k = 102 then P.fs else P.ls
def RP.put (P : RP) (k : Int) (x : Tx) : RP := if k = 118 then { P with vs := P.vs ++ [x] } else if k = 102 then { P with fs := P.fs ++ [x] } else { P with ls := P.ls ++ [x] }
structure RV where
  V : Int → Value
  tV : Value
  TV : List (Value × Value)
def isN (k : Int) : Prop := k = 118 ∨ k = 102 ∨ k = 109
def offN (k : Int) : Nat := if k = 118 then 0 else if k = 102 then 1 else 2
structure ThOk (w : World) (tag : Nat → RT) (base j : Nat) (th : RTh) (p : Value × Value) : Prop where
  code : w.ownsRow base 152 9 p.1 th.code.length (th.code.flatMap riC)
  tc : ∀ g, p.1.ownBlock = some g → tag g = .cd j
  labs : w.ownsRow base 149 2 p.2 th.labs.length (th.labs.flatMap labC)
  tl : ∀ g, p.2.ownBlock = some g → tag g = .lb j
structure RfW (w : World) (tag : Nat → RT) (base pb : Nat) (P : RP) (U : RV) : Prop where
  cell : w.heap[pb]? = some (.cells #[U.V 118, U.V 102, U.V 109, U.tV] 29)
  rows : ∀ k, isN k → RowOk w tag base 9 k (U.V k) ((P.get k).map strW)
  trow : w.ownsRow base 146 3 U.tV P.thr.length ((P.thr.zip U.TV).flatMap thC)
  tt : ∀ g, U.tV.ownBlock = some g → tag g = .row 116
  len : U.TV.length = P.thr.length
  ths : ∀ (j : Nat) (th : RTh) (p : Value × Value), P.thr[j]? = some th → U.TV[j]? = some p → ThOk w tag base j th p
  tp : tag pb = .rd
  tlt : ∀ b, tag b ≠ .o → base ≤ b ∧ b < w.heap.size
  g3 : base ≤ w.heap.size
section
variable {w w' : World} {tag tag' : Nat → RT} {base pb : Nat} {P P' : RP} {U U' : RV}
theorem ThOk.kept {j : Nat} {th : RTh} {p : Value × Value} (h : ThOk w tag base j th p) (hb : ∀ b, tag b = .cd j ∨ tag b = .lb j → w'.heap[b]? = w.heap[b]? ∧ tag' b = tag b) : ThOk w' tag' base j th p :=
  ⟨owns_same h.code fun g e => (hb g (.inl (h.tc g e))).1, fun g e => (hb g (.inl (h.tc g e))).2.trans (h.tc g e), owns_same h.labs fun g e => (hb g (.inr (h.tl g e))).1, fun g e => (hb g (.inr (h.tl g e))).2.trans (h.tl g e)⟩
theorem RfW.lt (h : RfW w tag base pb P U) {b : Nat} {g : RT} (e : tag b = g) (hn : g ≠ .o) : b < w.heap.size := (h.tlt b (by rw [e]; exact hn)).2
theorem RfW.low (h : RfW w tag base pb P U) {b : Nat} (e : b < base) : tag b = .o := by
  cases ht : tag b with
  | o => rfl
  | _ => exact absurd (h.tlt b (by rw [ht]; simp)).1 (by omega)
theorem RfW.step (h : RfW w tag base pb P U) (C : RT → Prop) (hx : Ext w tag w' tag') (hC : ∀ b, b < w.heap.size → tag b ≠ .o → ¬ C (tag b) → w'.heap[b]? = w.heap[b]?)
    (ho : ∀ b, w.heap.size ≤ b → tag' b ≠ .o → b < w'.heap.size)
    (hcell : w'.heap[pb]? = some (.cells #[U'.V 118, U'.V 102, U'.V 109, U'.tV] 29))
    (hrows : ∀ k, isN k → (U'.V k = U.V k ∧ P'.get k = P.get k ∧ ¬ C (.row k)) ∨ RowOk w' tag' base 9 k (U'.V k) ((P'.get k).map strW))
    (htrow : (U'.tV = U.tV ∧ P'.thr = P.thr ∧ U'.TV = U.TV ∧ ¬ C (.row 116)) ∨ (w'.ownsRow base 146 3 U'.tV P'.thr.length ((P'.thr.zip U'.TV).flatMap thC) ∧ (∀ g, U'.tV.ownBlock = some g → tag' g = .row 116) ∧ U'.TV.length = P'.thr.length))
    (hths : ∀ (j : Nat) (th : RTh) (p : Value × Value), P'.thr[j]? = some th → U'.TV[j]? = some p → (P.thr[j]? = some th ∧ U.TV[j]? = some p ∧ ¬ C (.cd j) ∧ ¬ C (.lb j)) ∨ ThOk w' tag' base j th p) : RfW w' tag' base pb P' U' := by
  have key : ∀ {b : Nat} {g : RT}, tag b = g → g ≠ .o → ¬ C g → w'.heap[b]? = w.heap[b]? ∧ tag' b = g := fun {b g} e h1 h2 => by
    have hl := h.lt e h1
    exact ⟨hC b hl (by rw [e]; exact h1) (by rw [e]; exact h2), (hx.tags b hl).trans e⟩
  have keyt : ∀ {b : Nat} {g : RT}, tag b = g → g ≠ .o → tag' b = g := fun {b g} e h1 => (hx.tags b (h.lt e h1)).trans e
  have ht : w'.ownsRow base 146 3 U'.tV P'.thr.length ((P'.thr.zip U'.TV).flatMap thC) ∧ (∀ g, U'.tV.ownBlock = some g → tag' g = .row 116) ∧ U'.TV.length = P'.thr.length := by
    rcases htrow with ⟨e1, e2, e3, e4⟩ | e
    · rw [e1, e2, e3]
      exact ⟨owns_same h.trow fun g e => (key (h.tt g e) (by simp) e4).1, fun g e => (key (h.tt g e) (by simp) e4).2, h.len⟩
    · exact e
  refine ⟨hcell, fun k hk => ?_, ht.1, ht.2.1, ht.2.2, fun j th p h1 h2 => ?_, keyt h.tp (by simp), fun b hb => ?_, Nat.le_trans h.g3 hx.size⟩
  · rcases hrows k hk with ⟨e1, e2, e3⟩ | e
    · rw [e1, e2]; exact (h.rows k hk).kept fun b hb => key hb (by simp) e3
    · exact e
  · rcases hths j th p h1 h2 with ⟨e1, e2, e3, e4⟩ | e
    · refine (h.ths j th p e1 e2).kept fun b hb => ?_
      rcases hb with hb | hb
      · have := key hb (by simp) e3; exact ⟨this.1, this.2.trans hb.symm⟩
      · have := key hb (by simp) e4; exact ⟨this.1, this.2.trans hb.symm⟩
    · exact e
  · by_cases hl : b < w.heap.size
    · rw [hx.tags b hl] at hb
      exact ⟨(h.tlt b hb).1, Nat.lt_of_lt_of_le hl hx.size⟩
    · exact ⟨by have := h.g3; omega, ho b (by omega) hb⟩
theorem RfW.keep (h : RfW w tag base pb P U) (hb : ∀ b, b < w.heap.size → w'.heap[b]? = w.heap[b]?) (hx : Ext w tag w' tag) : RfW w' tag base pb P U :=
  h.step (fun _ => False) hx (fun b hl _ _ => hb b hl) (fun b hl e => absurd (h.tlt b e).2 (by omega)) ((hb pb (h.lt h.tp (by simp))).trans h.cell) (fun k _ => .inl ⟨rfl, rfl, id⟩) (.inl ⟨rfl, rfl, rfl, id⟩) (fun j th p h1 h2 => .inl ⟨h1, h2, id, id⟩)
theorem RfW.below (h : RfW w tag base pb P U) (hb : Below w.heap.size w w') : RfW w' tag base pb P U := h.keep hb.block (.of_below hb)
theorem RfW.rowC (h : RfW w tag base pb P U) {k : Int} (hk : isN k) : w.cell? ⟨pb, offN k, none⟩ = some (U.V k) := by
  rcases hk with rfl | rfl | rfl <;> simp [World.cell?, h.cell, offN]
theorem RfW.thrV (h : RfW w tag base pb P U) : w.cell? ⟨pb, 3, none⟩ = some U.tV := by simp [World.cell?, h.cell]
theorem RfW.frz (h : RfW w tag base pb P U) (i : Nat) : w.frozen? ⟨pb, i, none⟩ = false := by simp [World.frozen?, h.cell]
theorem row_ws {e : TypeId} {k : Int} {v : Value} {l : List Tx} (h : RowOk w tag base e k v (l.map strW)) : ∃ a cap, v = .slice a l.length cap ∧ Ws w a l := by
  have hr := h.row
  rw [List.length_map] at hr
  rcases hr.2 with ⟨h1, h2⟩ | ⟨g, cap, cur, h1, _⟩
  · exact ⟨none, 0, by rw [h1, h2], fun i hi => by omega⟩
  · refine ⟨_, cap, h1, fun i hi => ⟨g, 0, rfl, (hr.lt g (by rw [h1]; rfl)).2, ?_⟩⟩
    rw [h1] at hr
    rw [Nat.zero_add, hr.cellAt i (by omega), List.getElem?_map, List.getElem?_eq_getElem hi, List.getD_eq_getElem?_getD, List.getElem?_eq_getElem hi]; rfl
theorem RfW.name (h : RfW w tag base pb P U) {k : Int} (hk : isN k) (x : Tx) (hlen : (P.get k).length < 1048576) :
    ∃ g cap w3, (Builtin.append_ #[23, 23] 23 #[U.V k, .slice (some ⟨w.heap.size, 0, none⟩) 1 1]).run Tryz.prog (w.alloc (.cells #[.string (bs x)] 9)) = .ok (.slice (some ⟨g, 0, none⟩) ((P.get k).length + 1) cap) w3 ∧ w3.cell? ⟨pb, offN k, none⟩ = some (U.V k) ∧ w3.frozen? ⟨pb, offN k, none⟩ = false ∧
      ∃ tag', RfW (w3.setCell ⟨pb, offN k, none⟩ (.slice (some ⟨g, 0, none⟩) ((P.get k).length + 1) cap)) tag' base pb (P.put k x) { U with V := putZ U.V k (.slice (some ⟨g, 0, none⟩) ((P.get k).length + 1) cap) } ∧ Ext w tag (w3.setCell ⟨pb, offN k, none⟩ (.slice (some ⟨g, 0, none⟩) ((P.get k).length + 1) cap)) tag' := by
  have hto : ∀ b, tag b ≠ .o → b < w.heap.size := fun b hb => (h.tlt b hb).2
  have hpl := h.lt h.tp (by simp)
  have hg3 := h.g3
  obtain ⟨i0, hi, hy0, hy1, hy2⟩ := info_parts Tryz.infoTx
  obtain ⟨g, cap, w3, tag3, hr3, hrow3, o3, t3, p3, z3, b3, old3, new3⟩ := (h.rows k hk).push Tryz.underlying23 hi hy0 hy1 hy2 rfl (by omega) (strW x) (by simp [Value.oneCell', strW]) 23 (by simpa using hlen) (by omega) hto
  rw [List.length_map] at hr3 hrow3
  have hp3 : w3.heap[pb]? = w.heap[pb]? := b3 pb hpl (by rw [h.tp]; simp)
  have hother : ∀ b, b < w.heap.size → tag b ≠ .row k → b ≠ pb → (w3.setCell ⟨pb, offN k, none⟩ (.slice (some ⟨g, 0, none⟩) ((P.get k).length + 1) cap)).heap[b]? = w.heap[b]? := fun b hb h1 h2 => (Below.heap_setCell w3 ⟨pb, offN k, none⟩ _ b h2).trans (b3 b hb h1)
  have hx : Ext w tag (w3.setCell ⟨pb, offN k, none⟩ (.slice (some ⟨g, 0, none⟩) ((P.get k).length + 1) cap)) tag3 := ⟨o3, t3, p3, by simp; omega, fun b hb => old3 b (by omega), fun b hb hbo => hother b hb (by rw [hbo]; simp) (ne_tag hbo h.tp (by simp))⟩
  refine ⟨g, cap, w3, hr3, (World.cell?_of_block (w := w) (a := ⟨pb, offN k, none⟩) hp3).trans (h.rowC hk), (World.frozen?_of_block (w := w) (a := ⟨pb, offN k, none⟩) hp3).trans (h.frz _), tag3, ?_, hx⟩
  have hget : ∀ k', isN k' → (P.put k x).get k' = if k' = k then P.get k ++ [x] else P.get k' := fun k' hk' => by
    rcases hk with rfl | rfl | rfl <;> rcases hk' with rfl | rfl | rfl <;> simp [RP.put, RP.get]
  refine h.step (fun x => x = .row k ∨ x = .rd) hx (fun b hb h1 h2 => hother b hb (fun e => h2 (.inl e)) (fun e => h2 (by rw [e]; exact .inr h.tp))) (fun b hb hn => by simp only [World.size_setCell]; exact new3 b hb hn) ?_ (fun k' hk' => ?_) (.inl ⟨rfl, ?_, rfl, ?_⟩) (fun j th p h1 h2 => .inl ⟨?_, h2, by simp, by simp⟩)
  · rw [heap_setCell_same w3 pb (offN k) _ _ _ (hp3.trans h.cell)]
    rcases hk with rfl | rfl | rfl <;> simp [offN, putZ]
  · rw [hget k' hk']
    by_cases e : k' = k
    · subst e
      right
      rw [if_pos rfl, List.map_append]
      show RowOk _ _ _ _ _ (putZ U.V k' _ k') _
      rw [putZ_same]
      refine ⟨owns_same hrow3.row fun y hy => ?_, hrow3.tg⟩
      exact Below.heap_setCell w3 ⟨pb, offN k', none⟩ _ y (ne_tag (hrow3.tg y hy) ((old3 pb (by omega)).trans h.tp) (by simp))
    · left
      rw [if_neg e]
      exact ⟨putZ_other _ e, rfl, by simp; exact e⟩
  · rcases hk with rfl | rfl | rfl <;> simp [RP.put]
  · rcases hk with rfl | rfl | rfl <;> simp
  · have e : (P.put k x).thr = P.thr := by rcases hk with rfl | rfl | rfl <;> simp [RP.put]
    rw [← e]; exact h1
end
end Go.Proofs.YtlpdomgedaockaaGreatDoor
namespace Go.Proofs.YtlpdomgedaockaaGreatDoor
open Go.RowKit Go.Proofs.Cod
theorem flat_len {α : Type} {f : α → List Value} {m : Nat} (hf : ∀ x, (f x).length = m) (l : List α) : (l.flatMap f).length = l.length * m := by
  induction l with
  | nil => simp
  | cons x l ih => rw [List.flatMap_cons, List.length_append, ih, hf, List.length_cons, Nat.add_mul]; omega
theorem flat_at {α : Type} {f : α → List Value} {m : Nat} (hf : ∀ x, (f x).length = m) {l : List α} {j r : Nat} {x : α} (hj : l[j]? = some x) (hr : r < m) : (l.flatMap f)[j * m + r]? = (f x)[r]? := by
  induction l generalizing j with
  | nil => cases hj
  | cons y l ih =>
    rw [List.flatMap_cons]
    cases j with
    | zero =>
      have hj : some y = some x := hj
      cases hj
      rw [Nat.zero_mul, Nat.zero_add, List.getElem?_append_left (by rw [hf]; exact hr)]
    | succ j =>
      rw [List.getElem?_append_right (by rw [hf, Nat.add_mul]; omega), hf, show (j + 1) * m + r - m = j * m + r by rw [Nat.add_mul]; omega]
      exact ih (by simpa using hj)
theorem flat_set {α : Type} {f : α → List Value} {m : Nat} (hf : ∀ x, (f x).length = m) {l : List α} {j r : Nat} {x y : α} {u : Value} (hj : l[j]? = some x) (hr : r < m) (hy : f y = (f x).set r u) : (l.flatMap f).set (j * m + r) u = (l.set j y).flatMap f := by
  induction l generalizing j with
  | nil => cases hj
  | cons z l ih =>
    rw [List.flatMap_cons]
    cases j with
    | zero =>
      have hj : some z = some x := hj
      cases hj
      rw [Nat.zero_mul, Nat.zero_add, List.set_append_left _ _ (by rw [hf]; exact hr), List.set_cons_zero, List.flatMap_cons, hy]
    | succ j =>
      rw [List.set_append_right _ _ (by rw [hf, Nat.add_mul]; omega), hf, show (j + 1) * m + r - m = j * m + r by rw [Nat.add_mul]; omega, ih (by simpa using hj), List.set_cons_succ, List.flatMap_cons]
theorem c_below {w w' : World} {base e size n : Nat} {v : Value} {xs : List Value} {B : Nat} (h : w.ownsRow base e size v n xs) (hb : Below B w w') (hB : ∀ g, v.ownBlock = some g → g < B) : w'.ownsRow base e size v n xs := owns_same h fun g e => hb.block g (hB g e)
theorem c_belowS {w w' : World} {base e size n : Nat} {v : Value} {xs : List Value} (h : w.ownsRow base e size v n xs) (hb : Below w.heap.size w w') : w'.ownsRow base e size v n xs := c_below h hb fun g e => (h.lt g e).2
theorem row_ws0 {w : World} {base e n : Nat} {v : Value} {l : List Tx} (hr : w.ownsRow base e 1 v n (l.map strW)) (hn : l.length = n) : ∃ a cap, v = .slice a n cap ∧ Ws w a l := by
  rcases hr.2 with ⟨h1, h2⟩ | ⟨g, cap, cur, h1, _⟩
  · exact ⟨none, 0, by rw [h1, h2], fun i hi => by omega⟩
  · refine ⟨_, cap, h1, fun i hi => ⟨g, 0, rfl, (hr.lt g (by rw [h1]; rfl)).2, ?_⟩⟩
    rw [h1] at hr
    rw [Nat.zero_add, hr.cellAt i (by omega), List.getElem?_map, List.getElem?_eq_getElem hi, List.getD_eq_getElem?_getD, List.getElem?_eq_getElem hi]; rfl
theorem row_form {w : World} {base e size n : Nat} {v : Value} {xs : List Value} (h : w.ownsRow base e size v n xs) {k : Nat} (hk : k < n) : ∃ g cap, v = .slice (some ⟨g, 0, none⟩) n cap ∧ g < w.heap.size ∧ ∀ j, j < n * size → w.cell? ⟨g, j, none⟩ = xs[j]? := by
  obtain ⟨m, rfl⟩ : ∃ m, n = m + 1 := ⟨n - 1, by omega⟩
  obtain ⟨g, cap, rfl⟩ := ownsRow_succ h
  exact ⟨g, cap, rfl, (h.lt g rfl).2, fun j hj => h.cellAt j hj⟩
theorem insL_len (i : In7) : (insC i).toList.length = 7 := rfl
theorem thrL_len (p : Tx × Value) : [Value.string (bs p.1), p.2].length = 2 := rfl
structure I7At (w : World) (g k : Nat) (i : In7) : Prop where
  c0 : w.cell? ⟨g, k * 7, none⟩ = some (.string (bs i.op))
  c1 : w.cell? ⟨g, k * 7 + 1, none⟩ = some (.int .i64 i.r)
  c2 : w.cell? ⟨g, k * 7 + 2, none⟩ = some (.bool i.aR)
  c3 : w.cell? ⟨g, k * 7 + 3, none⟩ = some (.int .i64 i.aN)
  c4 : w.cell? ⟨g, k * 7 + 4, none⟩ = some (.bool i.bR)
  c5 : w.cell? ⟨g, k * 7 + 5, none⟩ = some (.int .i64 i.bN)
  c6 : w.cell? ⟨g, k * 7 + 6, none⟩ = some (.int .i64 i.x)
theorem i7_at {w : World} {base : Nat} {v : Value} {is : List In7} {k : Nat} {i : In7} (h : w.ownsRow base 92 7 v is.length (codeC is)) (hk : is[k]? = some i) : ∃ g cap, v = .slice (some ⟨g, 0, none⟩) is.length cap ∧ g < w.heap.size ∧ I7At w g k i := by
  have hl := (List.getElem?_eq_some_iff.1 hk).1
  obtain ⟨g, cap, e, hg, hc⟩ := row_form h hl
  have key : ∀ q, q < 7 → w.cell? ⟨g, k * 7 + q, none⟩ = (insC i).toList[q]? := fun q hq => by
    rw [hc (k * 7 + q) (by omega)]; exact flat_at insL_len hk hq
  exact ⟨g, cap, e, hg, key 0 (by omega), key 1 (by omega), key 2 (by omega), key 3 (by omega), key 4 (by omega), key 5 (by omega), key 6 (by omega)⟩
end Go.Proofs.YtlpdomgedaockaaGreatDoor
namespace Go.Proofs.YtlpdomgedaockaaGreatDoor
open Go.RowKit Go.Proofs.Cod
theorem rowN_push {w : World} {tag : Nat → RT} {base e size n : Nat} {gt : RT} {v : Value} {xs : List Value} {T : TypeId} {i : TypeInfo} {z : Value} {bytes : Nat} (hrow : w.ownsRow base e size v n xs) (htg : ∀ g, v.ownBlock = some g → tag g = gt) (hgt : gt ≠ .o) (ht : Tryz.prog.underlying T = some (.slice e)) (hi : Tryz.prog.info? e = some i) (hz : i.zero = some z) (hs : i.size = size) (hy : i.bytes = bytes) (hzs : z.cells.size = size) (hby : bytes ≤ 128)
    (xc : List Value) (hxl : xc.length = size) (hx : ∀ u ∈ xc, u.oneCell' = true) (ty : TypeId) (hlen : n < 1048576) (hbase : base ≤ w.heap.size) (hto : ∀ b, tag b ≠ .o → b < w.heap.size) :
    ∃ (g cap : Nat) (w' : World) (tag' : Nat → RT), (Builtin.append_ #[T, T] ty #[v, .slice (some ⟨w.heap.size, 0, none⟩) 1 1]).run Tryz.prog (w.alloc (.cells xc.toArray e)) = .ok (.slice (some ⟨g, 0, none⟩) (n + 1) cap) w' ∧
      w'.ownsRow base e size (.slice (some ⟨g, 0, none⟩) (n + 1) cap) (n + 1) (xs ++ xc) ∧ tag' g = gt ∧ w'.os = w.os ∧ w'.tape = w.tape ∧ w'.output = w.output ∧ w.heap.size + 1 ≤ w'.heap.size ∧
      (∀ b, b < w.heap.size → tag b ≠ gt → w'.heap[b]? = w.heap[b]?) ∧ (∀ b, b ≤ w.heap.size → tag' b = tag b) ∧ (∀ b, w.heap.size ≤ b → tag' b ≠ .o → b < w'.heap.size) := by
  obtain ⟨v', w', hr, r1, r2, r3⟩ := run_append_blk (P := Tryz.prog) (w.alloc (.cells xc.toArray e)) base T ty e i z size bytes ht hi hz hs hy hzs v n xs (hrow.alloc _) ⟨w.heap.size, 0, none⟩ 1 1 xc (by omega) (by simp [hxl])
    (fun j u hu => cell_at (World.alloc_heap_new w _) (by simpa using hu)) hx (by unfold maxLen; omega)
    (by have : (n + 1) * bytes ≤ 1048576 * 128 := Nat.mul_le_mul (by omega) hby
        omega) (by simp; omega)
  obtain ⟨g, cap, rfl⟩ := ownsRow_succ r1
  have hgl := r1.lt g rfl
  have rg : v.ownBlock = some g ∨ g = w.heap.size + 1 := by
    rcases r3 with r3 | r3
    · exact .inl r3.symm
    · right
      have r3 : some g = some (w.alloc (.cells xc.toArray e)).heap.size := r3
      rw [World.size_alloc] at r3
      exact Option.some.inj r3
  have rb : ∀ b, b < w.heap.size → v.ownBlock ≠ some b → w'.heap[b]? = w.heap[b]? := fun b hb hn => (r2.block b (by simp; omega) (fun e => hn e.symm)).trans (Below.heap_alloc w _ b hb)
  refine ⟨g, cap, w', tagRow tag (w.heap.size + 1) gt (.slice (some ⟨g, 0, none⟩) (n + 1) cap), hr, r1, ?_, r2.os, r2.tape, r2.output, by have := r2.size; simpa using this, fun b hb hn => rb b hb (fun e => hn (htg b e)), fun b hb => tagRow_old (by omega), fun b hb hn => ?_⟩
  · rcases rg with e | e
    · have := hto g (by rw [htg g e]; exact hgt)
      rw [tagRow_old (by omega)]; exact htg g e
    · subst e; exact tagRow_is rfl
  · by_cases e : b = w.heap.size + 1
    · subst e
      by_cases e2 : g = w.heap.size + 1
      · rw [← e2]; exact hgl.2
      · exfalso; apply hn
        unfold tagRow; rw [tagAt_new, if_neg]
        intro e3
        have e3 : some g = some (w.heap.size + 1) := e3
        exact e2 (Option.some.inj e3)
    · rw [tagRow_old e] at hn
      have := hto b hn; omega
theorem Tryz.infoRT : (Tryz.prog.info? 146).map (fun i => (i.zero, i.size, i.bytes)) = some (some (.agg #[.string ByteArray.empty, .slice none 0 0, .slice none 0 0]), 3, 64) := by kernel_rfl
theorem Tryz.infoRI : (Tryz.prog.info? 152).map (fun i => (i.zero, i.size, i.bytes)) = some (some (.agg #[.string ByteArray.empty, .int .i64 0, .bool false, .int .i64 0, .bool false, .int .i64 0, .int .i64 0, .int .i64 0, .string ByteArray.empty]), 9, 88) := by kernel_rfl
theorem Tryz.infoRL : (Tryz.prog.info? 149).map (fun i => (i.zero, i.size, i.bytes)) = some (some (.agg #[.string ByteArray.empty, .int .i64 0]), 2, 24) := by kernel_rfl
theorem riC_len (x : RI) : (riC x).length = 9 := rfl
theorem labC_len (x : Tx × Nat) : (labC x).length = 2 := rfl
theorem thC_len (x : RTh × (Value × Value)) : (thC x).length = 3 := rfl
section
variable {w w' : World} {tag tag' : Nat → RT} {base pb : Nat} {P : RP} {U : RV}
theorem RfW.thread (h : RfW w tag base pb P U) (x : Tx) (hlen : P.thr.length < 1048576) :
    ∃ g cap w3, (Builtin.append_ #[27, 27] 27 #[U.tV, .slice (some ⟨w.heap.size, 0, none⟩) 1 1]).run Tryz.prog (w.alloc (.cells #[.string (bs x), .slice none 0 0, .slice none 0 0] 146)) = .ok (.slice (some ⟨g, 0, none⟩) (P.thr.length + 1) cap) w3 ∧ w3.cell? ⟨pb, 3, none⟩ = some U.tV ∧ w3.frozen? ⟨pb, 3, none⟩ = false ∧
      ∃ tag', RfW (w3.setCell ⟨pb, 3, none⟩ (.slice (some ⟨g, 0, none⟩) (P.thr.length + 1) cap)) tag' base pb { P with thr := P.thr ++ [⟨x, [], []⟩] } { U with tV := .slice (some ⟨g, 0, none⟩) (P.thr.length + 1) cap, TV := U.TV ++ [(.slice none 0 0, .slice none 0 0)] } ∧ Ext w tag (w3.setCell ⟨pb, 3, none⟩ (.slice (some ⟨g, 0, none⟩) (P.thr.length + 1) cap)) tag' := by
  have hto : ∀ b, tag b ≠ .o → b < w.heap.size := fun b hb => (h.tlt b hb).2
  have hpl := h.lt h.tp (by simp)
  have hg3 := h.g3
  obtain ⟨i0, hi, hy0, hy1, hy2⟩ := info_parts Tryz.infoRT
  obtain ⟨g, cap, w3, tag3, hr3, hrow3, htg3, o3, t3, p3, z3, b3, old3, new3⟩ := rowN_push h.trow h.tt (by simp) Tryz.underlying27 hi hy0 hy1 hy2 rfl (by omega) [.string (bs x), .slice none 0 0, .slice none 0 0] rfl (by simp [Value.oneCell']) 27 hlen (by omega) hto
  have hp3 : w3.heap[pb]? = w.heap[pb]? := b3 pb hpl (by rw [h.tp]; simp)
  have hother : ∀ b, b < w.heap.size → tag b ≠ .row 116 → b ≠ pb → (w3.setCell ⟨pb, 3, none⟩ (.slice (some ⟨g, 0, none⟩) (P.thr.length + 1) cap)).heap[b]? = w.heap[b]? := fun b hb h1 h2 => (Below.heap_setCell w3 ⟨pb, 3, none⟩ _ b h2).trans (b3 b hb h1)
  have hx : Ext w tag (w3.setCell ⟨pb, 3, none⟩ (.slice (some ⟨g, 0, none⟩) (P.thr.length + 1) cap)) tag3 := ⟨o3, t3, p3, by simp; omega, fun b hb => old3 b (by omega), fun b hb hbo => hother b hb (by rw [hbo]; simp) (ne_tag hbo h.tp (by simp))⟩
  refine ⟨g, cap, w3, hr3, (World.cell?_of_block (w := w) (a := ⟨pb, 3, none⟩) hp3).trans h.thrV, (World.frozen?_of_block (w := w) (a := ⟨pb, 3, none⟩) hp3).trans (h.frz _), tag3, ?_, hx⟩
  refine h.step (fun x => x = .row 116 ∨ x = .rd) hx (fun b hb h1 h2 => hother b hb (fun e => h2 (.inl e)) (fun e => h2 (by rw [e]; exact .inr h.tp))) (fun b hb hn => by simp only [World.size_setCell]; exact new3 b hb hn) ?_ (fun k' hk' => .inl ⟨rfl, rfl, ?_⟩) (.inr ⟨?_, fun g' e => ?_, by simp [h.len]⟩) (fun j th p h1 h2 => ?_)
  · rw [heap_setCell_same w3 pb 3 _ _ _ (hp3.trans h.cell)]; rfl
  · rcases hk' with rfl | rfl | rfl <;> simp
  · show World.ownsRow _ _ _ _ _ (P.thr ++ [(⟨x, [], []⟩ : RTh)]).length (((P.thr ++ [(⟨x, [], []⟩ : RTh)]).zip (U.TV ++ [(Value.slice none 0 0, Value.slice none 0 0)])).flatMap thC)
    rw [List.length_append, List.zip_append h.len.symm, List.flatMap_append]
    refine owns_same hrow3 fun y hy => ?_
    have hy : some g = some y := hy
    cases hy
    exact Below.heap_setCell w3 ⟨pb, 3, none⟩ _ g (ne_tag htg3 ((old3 pb (by omega)).trans h.tp) (by simp))
  · have e : some g = some g' := e
    cases e
    exact htg3
  · have h1 : (P.thr ++ [⟨x, [], []⟩])[j]? = some th := h1
    have h2 : (U.TV ++ [(.slice none 0 0, .slice none 0 0)])[j]? = some p := h2
    by_cases e : j < P.thr.length
    · rw [List.getElem?_append_left e] at h1
      rw [List.getElem?_append_left (by rw [h.len]; exact e)] at h2
      exact .inl ⟨h1, h2, by simp, by simp⟩
    · right
      have hjl := (List.getElem?_eq_some_iff.1 h1).1
      simp at hjl
      have ej : j = P.thr.length := by omega
      subst ej
      rw [List.getElem?_append_right (Nat.le_refl _), Nat.sub_self] at h1
      rw [← h.len, List.getElem?_append_right (Nat.le_refl _), Nat.sub_self] at h2
      cases h1; cases h2
      exact ⟨World.ownsRow_nil _ _ _ _, (fun g e => by cases e), World.ownsRow_nil _ _ _ _, (fun g e => by cases e)⟩
theorem last_get {α : Type} {l : List α} {n : Nat} {x : α} (hn : l.length = n + 1) (hx : l.getLast? = some x) : l[n]? = some x := by
  rw [List.getLast?_eq_getElem?, hn] at hx; exact hx
theorem set_zip {th th' : RTh} {p p' : Value × Value} {j : Nat} (l : List RTh) (m : List (Value × Value)) : (l.zip m).set j (th', p') = (l.set j th').zip (m.set j p') := by
  induction l generalizing j m with
  | nil => simp
  | cons a l ih =>
    cases m with
    | nil => simp
    | cons b m =>
      cases j with
      | zero => simp
      | succ j => simp [ih]
theorem RfW.turn {w3 : World} {tag3 : Nat → RT} {j r gt tcap : Nat} {th th' : RTh} {p p' : Value × Value} {v : Value} {gk : RT} (h : RfW w tag base pb P U) (hj : P.thr[j]? = some th) (hp : U.TV[j]? = some p) (hr : r < 3) (hset : thC (th', p') = (thC (th, p)).set r v) (hgk : gk = .cd j ∨ gk = .lb j)
    (hV : U.tV = .slice (some ⟨gt, 0, none⟩) P.thr.length tcap) (hsz : w.heap.size + 1 ≤ w3.heap.size) (ho : w3.os = w.os) (ht : w3.tape = w.tape) (hpp : w3.output = w.output)
    (b3 : ∀ b, b < w.heap.size → tag b ≠ gk → w3.heap[b]? = w.heap[b]?) (old3 : ∀ b, b ≤ w.heap.size → tag3 b = tag b) (new3 : ∀ b, w.heap.size ≤ b → tag3 b ≠ .o → b < w3.heap.size)
    (hth : ∀ w4 : World, (∀ b, b ≠ gt → w4.heap[b]? = w3.heap[b]?) → ThOk w4 tag3 base j th' p') :
    w3.cell? ⟨gt, j * 3 + r, none⟩ = (thC (th, p))[r]? ∧ w3.frozen? ⟨gt, j * 3 + r, none⟩ = false ∧ RfW (w3.setCell ⟨gt, j * 3 + r, none⟩ v) tag3 base pb { P with thr := P.thr.set j th' } { U with TV := U.TV.set j p' } ∧ Ext w tag (w3.setCell ⟨gt, j * 3 + r, none⟩ v) tag3 := by
  have hpl := h.lt h.tp (by simp)
  have hgt : tag gt = .row 116 := h.tt gt (by rw [hV]; rfl)
  have hgl := h.lt hgt (by simp)
  have hjl := (List.getElem?_eq_some_iff.1 hj).1
  have hgk0 : gk ≠ .o ∧ gk ≠ .row 116 ∧ gk ≠ .rd ∧ ∀ k, gk ≠ .row k := by rcases hgk with rfl | rfl <;> simp
  have htrow := h.trow
  rw [hV] at htrow
  have hrow3 : w3.ownsRow base 146 3 (.slice (some ⟨gt, 0, none⟩) P.thr.length tcap) P.thr.length ((P.thr.zip U.TV).flatMap thC) := owns_same htrow fun x hx => by
    have hx : some gt = some x := hx
    cases hx
    exact b3 gt hgl (by rw [hgt]; exact fun e => hgk0.2.1 e.symm)
  have hzj : (P.thr.zip U.TV)[j]? = some (th, p) := by
    rw [List.getElem?_zip_eq_some]; exact ⟨hj, hp⟩
  have hother : ∀ b, b < w.heap.size → tag b ≠ gk → b ≠ gt → (w3.setCell ⟨gt, j * 3 + r, none⟩ v).heap[b]? = w.heap[b]? := fun b hb h1 h2 => (Below.heap_setCell w3 ⟨gt, j * 3 + r, none⟩ _ b h2).trans (b3 b hb h1)
  have hx : Ext w tag (w3.setCell ⟨gt, j * 3 + r, none⟩ v) tag3 := ⟨ho, ht, hpp, by simp; omega, fun b hb => old3 b (by omega), fun b hb hbo => hother b hb (by rw [hbo]; exact fun e => hgk0.1 e.symm) (ne_tag hbo hgt (by simp))⟩
  refine ⟨?_, hrow3.frozenAt _, ?_, hx⟩
  · rw [hrow3.cellAt (j * 3 + r) (by omega)]
    exact flat_at thC_len hzj hr
  refine h.step (fun x => x = gk ∨ x = .row 116) hx (fun b hb h1 h2 => hother b hb (fun e => h2 (.inl e)) (fun e => h2 (by rw [e]; exact .inr hgt))) (fun b hb hn => by simp only [World.size_setCell]; exact new3 b hb hn) ?_ (fun k' hk' => .inl ⟨rfl, rfl, ?_⟩) (.inr ⟨?_, fun g' e => ?_, by simp [h.len]⟩) (fun i th2 p2 h1 h2 => ?_)
  · exact (hother pb hpl (by rw [h.tp]; exact fun e => hgk0.2.2.1 e.symm) (ne_tag h.tp hgt (by simp))).trans h.cell
  · rintro (e | e)
    · exact hgk0.2.2.2 k' e.symm
    · rcases hk' with rfl | rfl | rfl <;> cases e
  · show World.ownsRow _ _ _ _ U.tV (P.thr.set j th').length (((P.thr.set j th').zip (U.TV.set j p')).flatMap thC)
    rw [List.length_set, ← set_zip (th := th) (p := p), hV, ← flat_set thC_len hzj hr hset]
    exact (hrow3.stored (j * 3 + r) v).1
  · have e : U.tV.ownBlock = some g' := e
    rw [hV] at e
    have e : some gt = some g' := e
    cases e
    exact (old3 gt (by omega)).trans hgt
  · have h1 : (P.thr.set j th')[i]? = some th2 := h1
    have h2 : (U.TV.set j p')[i]? = some p2 := h2
    by_cases e : i = j
    · subst e
      right
      rw [List.getElem?_set_self hjl] at h1
      rw [List.getElem?_set_self (by rw [h.len]; exact hjl)] at h2
      cases h1; cases h2
      exact hth _ (fun b hb => Below.heap_setCell w3 ⟨gt, i * 3 + r, none⟩ _ b hb)
    · rw [List.getElem?_set_ne (fun e' => e e'.symm)] at h1 h2
      refine .inl ⟨h1, h2, ?_, ?_⟩
      · rintro (e' | e')
        · rcases hgk with rfl | rfl
          · cases e'; exact e rfl
          · cases e'
        · cases e'
      · rintro (e' | e')
        · rcases hgk with rfl | rfl
          · cases e'
          · cases e'; exact e rfl
        · cases e'
end
end Go.Proofs.YtlpdomgedaockaaGreatDoor
namespace Go.Proofs.YtlpdomgedaockaaGreatDoor
open Go.RowKit Go.Proofs.Cod
section
variable {w w' : World} {tag tag' : Nat → RT} {base pb : Nat} {P : RP} {U : RV}
theorem RfW.thrForm (h : RfW w tag base pb P U) {j : Nat} {th : RTh} (hj : P.thr[j]? = some th) : ∃ gt tcap, U.tV = .slice (some ⟨gt, 0, none⟩) P.thr.length tcap := by
  have hjl := (List.getElem?_eq_some_iff.1 hj).1
  obtain ⟨m, hm⟩ : ∃ m, P.thr.length = m + 1 := ⟨P.thr.length - 1, by omega⟩
  have := h.trow
  rw [hm] at this ⊢
  exact ownsRow_succ this
theorem RfW.label (h : RfW w tag base pb P U) {j : Nat} {th : RTh} {p : Value × Value} (hj : P.thr[j]? = some th) (hp : U.TV[j]? = some p) (x : Tx) (n : Nat) (hlen : th.labs.length < 1048576) {gt tcap : Nat} (hV : U.tV = .slice (some ⟨gt, 0, none⟩) P.thr.length tcap) :
    ∃ g cap w3, (Builtin.append_ #[144, 144] 144 #[p.2, .slice (some ⟨w.heap.size, 0, none⟩) 1 1]).run Tryz.prog (w.alloc (.cells #[.string (bs x), .int .i64 n] 149)) = .ok (.slice (some ⟨g, 0, none⟩) (th.labs.length + 1) cap) w3 ∧ w3.cell? ⟨gt, j * 3 + 2, none⟩ = some p.2 ∧ w3.frozen? ⟨gt, j * 3 + 2, none⟩ = false ∧
      ∃ tag', RfW (w3.setCell ⟨gt, j * 3 + 2, none⟩ (.slice (some ⟨g, 0, none⟩) (th.labs.length + 1) cap)) tag' base pb { P with thr := P.thr.set j { th with labs := th.labs ++ [(x, n)] } } { U with TV := U.TV.set j (p.1, .slice (some ⟨g, 0, none⟩) (th.labs.length + 1) cap) } ∧ Ext w tag (w3.setCell ⟨gt, j * 3 + 2, none⟩ (.slice (some ⟨g, 0, none⟩) (th.labs.length + 1) cap)) tag' := by
  have hto : ∀ b, tag b ≠ .o → b < w.heap.size := fun b hb => (h.tlt b hb).2
  have hg3 := h.g3
  have hT := h.ths j th p hj hp
  have hgt : tag gt = .row 116 := h.tt gt (by rw [hV]; rfl)
  obtain ⟨i0, hi, hy0, hy1, hy2⟩ := info_parts Tryz.infoRL
  obtain ⟨g, cap, w3, tag3, hr3, hrow3, htg3, o3, t3, p3, z3, b3, old3, new3⟩ := rowN_push hT.labs hT.tl (by simp) Tryz.underlying144 hi hy0 hy1 hy2 rfl (by omega) [.string (bs x), .int .i64 n] rfl (by simp [Value.oneCell']) 144 hlen (by omega) hto
  obtain ⟨q1, q2, q3, q4⟩ := h.turn (w3 := w3) (tag3 := tag3) (r := 2) (th' := { th with labs := th.labs ++ [(x, n)] }) (p' := (p.1, .slice (some ⟨g, 0, none⟩) (th.labs.length + 1) cap)) (v := .slice (some ⟨g, 0, none⟩) (th.labs.length + 1) cap) (gk := .lb j) hj hp (by omega) rfl (.inr rfl) hV z3 o3 t3 p3 b3 old3 new3 (fun w4 h4 => by
    refine ⟨owns_same hT.code fun y hy => ?_, fun y hy => (old3 y (by have := hto y (by rw [hT.tc y hy]; simp); omega)).trans (hT.tc y hy), ?_, fun y hy => ?_⟩
    · rw [h4 y (ne_tag (hT.tc y hy) hgt (by simp))]
      exact b3 y (hto y (by rw [hT.tc y hy]; simp)) (by rw [hT.tc y hy]; simp)
    · show World.ownsRow _ _ _ _ _ (th.labs ++ [(x, n)]).length ((th.labs ++ [(x, n)]).flatMap labC)
      rw [List.length_append, List.flatMap_append]
      refine owns_same hrow3 fun y hy => ?_
      have hy : some g = some y := hy
      cases hy
      exact h4 g (ne_tag htg3 ((old3 gt (by have := hto gt (by rw [hgt]; simp); omega)).trans hgt) (by simp))
    · have hy : some g = some y := hy
      cases hy; exact htg3)
  exact ⟨g, cap, w3, hr3, q1, q2, tag3, q3, q4⟩
theorem RfW.addI (h : RfW w tag base pb P U) {j : Nat} {th : RTh} {p : Value × Value} (hj : P.thr[j]? = some th) (hp : U.TV[j]? = some p) (r : RI) (hlen : th.code.length < 1048576) {gt tcap : Nat} (hV : U.tV = .slice (some ⟨gt, 0, none⟩) P.thr.length tcap) :
    ∃ g cap w3, (Builtin.append_ #[143, 143] 143 #[p.1, .slice (some ⟨w.heap.size, 0, none⟩) 1 1]).run Tryz.prog (w.alloc (.cells (riC r).toArray 152)) = .ok (.slice (some ⟨g, 0, none⟩) (th.code.length + 1) cap) w3 ∧ w3.cell? ⟨gt, j * 3 + 1, none⟩ = some p.1 ∧ w3.frozen? ⟨gt, j * 3 + 1, none⟩ = false ∧
      ∃ tag', RfW (w3.setCell ⟨gt, j * 3 + 1, none⟩ (.slice (some ⟨g, 0, none⟩) (th.code.length + 1) cap)) tag' base pb { P with thr := P.thr.set j { th with code := th.code ++ [r] } } { U with TV := U.TV.set j (.slice (some ⟨g, 0, none⟩) (th.code.length + 1) cap, p.2) } ∧ Ext w tag (w3.setCell ⟨gt, j * 3 + 1, none⟩ (.slice (some ⟨g, 0, none⟩) (th.code.length + 1) cap)) tag' := by
  have hto : ∀ b, tag b ≠ .o → b < w.heap.size := fun b hb => (h.tlt b hb).2
  have hg3 := h.g3
  have hT := h.ths j th p hj hp
  have hgt : tag gt = .row 116 := h.tt gt (by rw [hV]; rfl)
  obtain ⟨i0, hi, hy0, hy1, hy2⟩ := info_parts Tryz.infoRI
  obtain ⟨g, cap, w3, tag3, hr3, hrow3, htg3, o3, t3, p3, z3, b3, old3, new3⟩ := rowN_push hT.code hT.tc (by simp) Tryz.underlying143 hi hy0 hy1 hy2 rfl (by omega) (riC r) rfl (by simp [riC, Value.oneCell']) 143 hlen (by omega) hto
  obtain ⟨q1, q2, q3, q4⟩ := h.turn (w3 := w3) (tag3 := tag3) (r := 1) (th' := { th with code := th.code ++ [r] }) (p' := (.slice (some ⟨g, 0, none⟩) (th.code.length + 1) cap, p.2)) (v := .slice (some ⟨g, 0, none⟩) (th.code.length + 1) cap) (gk := .cd j) hj hp (by omega) rfl (.inl rfl) hV z3 o3 t3 p3 b3 old3 new3 (fun w4 h4 => by
    refine ⟨?_, fun y hy => ?_, owns_same hT.labs fun y hy => ?_, fun y hy => (old3 y (by have := hto y (by rw [hT.tl y hy]; simp); omega)).trans (hT.tl y hy)⟩
    · show World.ownsRow _ _ _ _ _ (th.code ++ [r]).length ((th.code ++ [r]).flatMap riC)
      rw [List.length_append, List.flatMap_append]
      have e : [r].flatMap riC = riC r := by simp
      rw [e]
      refine owns_same hrow3 fun y hy => ?_
      have hy : some g = some y := hy
      cases hy
      exact h4 g (ne_tag htg3 ((old3 gt (by have := hto gt (by rw [hgt]; simp); omega)).trans hgt) (by simp))
    · have hy : some g = some y := hy
      cases hy; exact htg3
    · rw [h4 y (ne_tag (hT.tl y hy) hgt (by simp))]
      exact b3 y (hto y (by rw [hT.tl y hy]; simp)) (by rw [hT.tl y hy]; simp))
  exact ⟨g, cap, w3, hr3, q1, q2, tag3, q3, q4⟩
theorem RfW.thrCell (h : RfW w tag base pb P U) {j r : Nat} {th : RTh} {p : Value × Value} (hj : P.thr[j]? = some th) (hp : U.TV[j]? = some p) (hr : r < 3) {gt tcap : Nat} (hV : U.tV = .slice (some ⟨gt, 0, none⟩) P.thr.length tcap) : w.cell? ⟨gt, j * 3 + r, none⟩ = (thC (th, p))[r]? := by
  have hjl := (List.getElem?_eq_some_iff.1 hj).1
  have htrow := h.trow
  rw [hV] at htrow
  rw [htrow.cellAt (j * 3 + r) (by omega)]
  exact flat_at thC_len (by rw [List.getElem?_zip_eq_some]; exact ⟨hj, hp⟩) hr
end
def RP.names (P : RP) : List Tx := P.thr.map RTh.name
set_option maxRecDepth 100000 in
set_option maxHeartbeats 400000 in
theorem rThread_any {w : World} {tag : Nat → RT} {base pb : Nat} {P : RP} {U : RV} (h : RfW w tag base pb P U) (x : Tx) (hb : P.thr.length < 1048576) :
    Calls Tryz.prog 55 #[ptrV pb, .string (bs x)] w fun e w' => e = .returned (.int .i64 (findZ P.names x)) ∧ w' = w := by
  have c3 := h.thrV
  obtain ⟨ta, tcap, hV⟩ := owns_len h.trow
  rw [hV] at c3
  have H := hide h
  replace hV := hide hV
  unfold ptrV
  clear h
  go_enter Tryz.func55, Tryz.ntmps55
  go_wp2_with fail
  go_loopw [5] (fun iv wr => ∃ i : Nat, i ≤ P.thr.length ∧ iv = .int .i64 i ∧ (∀ j : Nat, j < i → P.names.getD j [] ≠ x) ∧ wr = w) (fun iv _ => P.thr.length - (intOf iv).toNat)
  case atStart => exact ⟨0, Nat.zero_le _, rfl, fun j hj => by omega, rfl⟩
  case round =>
    obtain ⟨i, hi, rfl, hall, rfl⟩ := hrel
    have hnl : P.names.length = P.thr.length := by simp [RP.names]
    by_cases h5 : i < P.thr.length
    · obtain ⟨th, hth⟩ : ∃ th, P.thr[i]? = some th := ⟨_, List.getElem?_eq_getElem h5⟩
      obtain ⟨p, hp⟩ : ∃ p, U.TV[i]? = some p := ⟨_, List.getElem?_eq_getElem (by rw [H.out.len]; exact h5)⟩
      obtain ⟨gt, tcap', hV'⟩ := H.out.thrForm hth
      have e := hV.out
      rw [hV'] at e
      cases e
      have hlt : (i : Int) < (P.thr.length : Int) := by omega
      have c0 : wr.cell? ⟨gt, i * 3, none⟩ = some (.string (bs th.name)) := H.out.thrCell hth hp (r := 0) (by omega) hV'
      have hgd : P.names.getD i [] = th.name := by
        rw [List.getD_eq_getElem?_getD, RP.names, List.getElem?_map, hth]; rfl
      have HA := hide (⟨hall, fun h => findZ_at (l := P.names) (n := x) (i := i) (by omega) hall (by rw [hgd]; exact h), hgd⟩ : _ ∧ (th.name = x → _) ∧ _)
      have hF : ((bs th.name).toList == (bs x).toList) = decide (th.name = x) := by
        rw [bs_toList, bs_toList]
        by_cases e : th.name = x <;> simp [e]
      clear hall hgd hnl
      by_cases e : th.name = x
      · rw [decide_eq_true e] at hF
        replace e := hide e
        go_wp2_with fail
        go_ret
        exact ⟨by rw [HA.out.2.1 e.out]; rfl, by trivial⟩
      · rw [decide_eq_false e] at hF
        replace e := hide e
        go_wp2_with fail
        go_roundw
        case rel =>
          refine ⟨i + 1, by omega, by go_num, fun j hj => ?_, by trivial⟩
          by_cases h6 : j = i
          · subst h6; rw [HA.out.2.2]; exact e.out
          · exact HA.out.1 j (by omega)
        case measure => simp [intOf]; omega
    · have hh : Hid (findZ P.names x = -1) := findZ_no (fun j hj => hall j (by omega))
      clear hall
      go_wp2_with fail
      go_ret
      exact ⟨by rw [hh.out]; rfl, by trivial⟩
def hasP (P : RP) (x : Tx) : Bool := decide (0 ≤ findZ P.vs x) || decide (0 ≤ findZ P.fs x) || decide (0 ≤ findZ P.ls x) || decide (0 ≤ findZ P.names x)
end Go.Proofs.YtlpdomgedaockaaGreatDoor
