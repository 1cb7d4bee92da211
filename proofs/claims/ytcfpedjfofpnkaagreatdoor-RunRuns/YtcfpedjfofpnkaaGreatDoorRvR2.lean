import Derived.Test.YtcfpedjfofpnkaaGreatDoorRvR0
import Derived.Test.YtcfpedjfofpnkaaGreatDoorRvR1
set_option linter.unusedVariables false
set_option linter.unusedSimpArgs false
namespace Go.Proofs.YtcfpedjfofpnkaaGreatDoor
open Go.RowKit Go.Shelf Go.Proofs.Cod
section
variable {w w' : World} {lo p1 p2 p3 p4 p5 p6 : Nat} {b0 b1 b2 b3 b4 b5 : Option Addr} {l0 l1 l2 l3 l4 l5 : List Int}
theorem Rows6.keep (h : Rows6 w lo b0 b1 b2 b3 b4 b5 l0 l1 l2 l3 l4 l5 p1 p2 p3 p4 p5 p6) (hk : ∀ b, lo ≤ b → b < p6 → w'.heap[b]? = w.heap[b]?) (hz : w.heap.size ≤ w'.heap.size) : Rows6 w' lo b0 b1 b2 b3 b4 b5 l0 l1 l2 l3 l4 l5 p1 p2 p3 p4 p5 p6 := by
 obtain ⟨r0, r1, r2, r3, r4, r5, e1, e2, e3, e4, e5, e6, e7⟩ := h
 exact ⟨r0.keep fun b h1 h2 => hk b (by omega) (by omega), r1.keep fun b h1 h2 => hk b (by omega) (by omega), r2.keep fun b h1 h2 => hk b (by omega) (by omega), r3.keep fun b h1 h2 => hk b (by omega) (by omega), r4.keep fun b h1 h2 => hk b (by omega) (by omega), r5.keep fun b h1 h2 => hk b (by omega) (by omega), ⟨e1, e2, e3, e4, e5, e6, by omega⟩⟩
theorem Rows6.other (h : Rows6 w lo b0 b1 b2 b3 b4 b5 l0 l1 l2 l3 l4 l5 p1 p2 p3 p4 p5 p6) {p : Addr} (hp : p.block < lo ∨ p6 ≤ p.block) (v : Value) : Rows6 (w.setCell p v) lo b0 b1 b2 b3 b4 b5 l0 l1 l2 l3 l4 l5 p1 p2 p3 p4 p5 p6 :=
 h.keep (fun b h1 h2 => heap_setCell_other w p b v (by omega)) (by rw [World.size_setCell]; exact Nat.le_refl _)
theorem Rows6.set0 (h : Rows6 w lo b0 b1 b2 b3 b4 b5 l0 l1 l2 l3 l4 l5 p1 p2 p3 p4 p5 p6) {i : Nat} (hi : i < l0.length) : ∃ g, b0 = some ⟨g, 0, none⟩ ∧ lo ≤ g ∧ g < p6 ∧ w.cell? ⟨g, i, none⟩ = some (.int .i64 (l0.getD i 0)) ∧ w.frozen? ⟨g, i, none⟩ = false ∧ ∀ v, Rows6 (w.setCell ⟨g, i, none⟩ (.int .i64 v)) lo b0 b1 b2 b3 b4 b5 (l0.set i v) l1 l2 l3 l4 l5 p1 p2 p3 p4 p5 p6 := by
 obtain ⟨r0, r1, r2, r3, r4, r5, e1, e2, e3, e4, e5, e6, e7⟩ := h
 obtain ⟨g, rfl, q2, q3, q4, q5, q6⟩ := r0.set hi
 exact ⟨g, rfl, by omega, by omega, q4, q5, fun v => ⟨q6 v, r1.other (.inl (by show g < p1; omega)) _, r2.other (.inl (by show g < p2; omega)) _, r3.other (.inl (by show g < p3; omega)) _, r4.other (.inl (by show g < p4; omega)) _, r5.other (.inl (by show g < p5; omega)) _, ⟨e1, e2, e3, e4, e5, e6, by rw [World.size_setCell]; exact e7⟩⟩⟩
theorem Rows6.set1 (h : Rows6 w lo b0 b1 b2 b3 b4 b5 l0 l1 l2 l3 l4 l5 p1 p2 p3 p4 p5 p6) {i : Nat} (hi : i < l1.length) : ∃ g, b1 = some ⟨g, 0, none⟩ ∧ lo ≤ g ∧ g < p6 ∧ w.cell? ⟨g, i, none⟩ = some (.int .i64 (l1.getD i 0)) ∧ w.frozen? ⟨g, i, none⟩ = false ∧ ∀ v, Rows6 (w.setCell ⟨g, i, none⟩ (.int .i64 v)) lo b0 b1 b2 b3 b4 b5 l0 (l1.set i v) l2 l3 l4 l5 p1 p2 p3 p4 p5 p6 := by
 obtain ⟨r0, r1, r2, r3, r4, r5, e1, e2, e3, e4, e5, e6, e7⟩ := h
 obtain ⟨g, rfl, q2, q3, q4, q5, q6⟩ := r1.set hi
 exact ⟨g, rfl, by omega, by omega, q4, q5, fun v => ⟨r0.other (.inr (by show p1 ≤ g; omega)) _, q6 v, r2.other (.inl (by show g < p2; omega)) _, r3.other (.inl (by show g < p3; omega)) _, r4.other (.inl (by show g < p4; omega)) _, r5.other (.inl (by show g < p5; omega)) _, ⟨e1, e2, e3, e4, e5, e6, by rw [World.size_setCell]; exact e7⟩⟩⟩
theorem Rows6.set2 (h : Rows6 w lo b0 b1 b2 b3 b4 b5 l0 l1 l2 l3 l4 l5 p1 p2 p3 p4 p5 p6) {i : Nat} (hi : i < l2.length) : ∃ g, b2 = some ⟨g, 0, none⟩ ∧ lo ≤ g ∧ g < p6 ∧ w.cell? ⟨g, i, none⟩ = some (.int .i64 (l2.getD i 0)) ∧ w.frozen? ⟨g, i, none⟩ = false ∧ ∀ v, Rows6 (w.setCell ⟨g, i, none⟩ (.int .i64 v)) lo b0 b1 b2 b3 b4 b5 l0 l1 (l2.set i v) l3 l4 l5 p1 p2 p3 p4 p5 p6 := by
 obtain ⟨r0, r1, r2, r3, r4, r5, e1, e2, e3, e4, e5, e6, e7⟩ := h
 obtain ⟨g, rfl, q2, q3, q4, q5, q6⟩ := r2.set hi
 exact ⟨g, rfl, by omega, by omega, q4, q5, fun v => ⟨r0.other (.inr (by show p1 ≤ g; omega)) _, r1.other (.inr (by show p2 ≤ g; omega)) _, q6 v, r3.other (.inl (by show g < p3; omega)) _, r4.other (.inl (by show g < p4; omega)) _, r5.other (.inl (by show g < p5; omega)) _, ⟨e1, e2, e3, e4, e5, e6, by rw [World.size_setCell]; exact e7⟩⟩⟩
theorem Rows6.set3 (h : Rows6 w lo b0 b1 b2 b3 b4 b5 l0 l1 l2 l3 l4 l5 p1 p2 p3 p4 p5 p6) {i : Nat} (hi : i < l3.length) : ∃ g, b3 = some ⟨g, 0, none⟩ ∧ lo ≤ g ∧ g < p6 ∧ w.cell? ⟨g, i, none⟩ = some (.int .i64 (l3.getD i 0)) ∧ w.frozen? ⟨g, i, none⟩ = false ∧ ∀ v, Rows6 (w.setCell ⟨g, i, none⟩ (.int .i64 v)) lo b0 b1 b2 b3 b4 b5 l0 l1 l2 (l3.set i v) l4 l5 p1 p2 p3 p4 p5 p6 := by
 obtain ⟨r0, r1, r2, r3, r4, r5, e1, e2, e3, e4, e5, e6, e7⟩ := h
 obtain ⟨g, rfl, q2, q3, q4, q5, q6⟩ := r3.set hi
 exact ⟨g, rfl, by omega, by omega, q4, q5, fun v => ⟨r0.other (.inr (by show p1 ≤ g; omega)) _, r1.other (.inr (by show p2 ≤ g; omega)) _, r2.other (.inr (by show p3 ≤ g; omega)) _, q6 v, r4.other (.inl (by show g < p4; omega)) _, r5.other (.inl (by show g < p5; omega)) _, ⟨e1, e2, e3, e4, e5, e6, by rw [World.size_setCell]; exact e7⟩⟩⟩
theorem Rows6.set4 (h : Rows6 w lo b0 b1 b2 b3 b4 b5 l0 l1 l2 l3 l4 l5 p1 p2 p3 p4 p5 p6) {i : Nat} (hi : i < l4.length) : ∃ g, b4 = some ⟨g, 0, none⟩ ∧ lo ≤ g ∧ g < p6 ∧ w.cell? ⟨g, i, none⟩ = some (.int .i64 (l4.getD i 0)) ∧ w.frozen? ⟨g, i, none⟩ = false ∧ ∀ v, Rows6 (w.setCell ⟨g, i, none⟩ (.int .i64 v)) lo b0 b1 b2 b3 b4 b5 l0 l1 l2 l3 (l4.set i v) l5 p1 p2 p3 p4 p5 p6 := by
 obtain ⟨r0, r1, r2, r3, r4, r5, e1, e2, e3, e4, e5, e6, e7⟩ := h
 obtain ⟨g, rfl, q2, q3, q4, q5, q6⟩ := r4.set hi
 exact ⟨g, rfl, by omega, by omega, q4, q5, fun v => ⟨r0.other (.inr (by show p1 ≤ g; omega)) _, r1.other (.inr (by show p2 ≤ g; omega)) _, r2.other (.inr (by show p3 ≤ g; omega)) _, r3.other (.inr (by show p4 ≤ g; omega)) _, q6 v, r5.other (.inl (by show g < p5; omega)) _, ⟨e1, e2, e3, e4, e5, e6, by rw [World.size_setCell]; exact e7⟩⟩⟩
theorem Rows6.set5 (h : Rows6 w lo b0 b1 b2 b3 b4 b5 l0 l1 l2 l3 l4 l5 p1 p2 p3 p4 p5 p6) {i : Nat} (hi : i < l5.length) : ∃ g, b5 = some ⟨g, 0, none⟩ ∧ lo ≤ g ∧ g < p6 ∧ w.cell? ⟨g, i, none⟩ = some (.int .i64 (l5.getD i 0)) ∧ w.frozen? ⟨g, i, none⟩ = false ∧ ∀ v, Rows6 (w.setCell ⟨g, i, none⟩ (.int .i64 v)) lo b0 b1 b2 b3 b4 b5 l0 l1 l2 l3 l4 (l5.set i v) p1 p2 p3 p4 p5 p6 := by
 obtain ⟨r0, r1, r2, r3, r4, r5, e1, e2, e3, e4, e5, e6, e7⟩ := h
 obtain ⟨g, rfl, q2, q3, q4, q5, q6⟩ := r5.set hi
 exact ⟨g, rfl, by omega, by omega, q4, q5, fun v => ⟨r0.other (.inr (by show p1 ≤ g; omega)) _, r1.other (.inr (by show p2 ≤ g; omega)) _, r2.other (.inr (by show p3 ≤ g; omega)) _, r3.other (.inr (by show p4 ≤ g; omega)) _, r4.other (.inr (by show p5 ≤ g; omega)) _, q6 v, ⟨e1, e2, e3, e4, e5, e6, by rw [World.size_setCell]; exact e7⟩⟩⟩
theorem four_sets {v : World} {b : Nat} {T : TypeId} {c0 c1 c2 c3 : Value} (a0 a1 a2 a3 : Value) (h : v.heap[b]? = some (.cells #[c0, c1, c2, c3] T)) :
 ((((v.setCell ⟨b, 0, none⟩ a0).setCell ⟨b, 1, none⟩ a1).setCell ⟨b, 2, none⟩ a2).setCell ⟨b, 3, none⟩ a3).heap[b]? = some (.cells #[a0, a1, a2, a3] T) := by
 have h0 := (heap_setCell_same _ b 0 _ _ a0 h).trans (show _ = some (.cells #[a0, c1, c2, c3] T) from rfl)
 have h1 := (heap_setCell_same _ b 1 _ _ a1 h0).trans (show _ = some (.cells #[a0, a1, c2, c3] T) from rfl)
 have h2 := (heap_setCell_same _ b 2 _ _ a2 h1).trans (show _ = some (.cells #[a0, a1, a2, c3] T) from rfl)
 have h3 := (heap_setCell_same _ b 3 _ _ a3 h2).trans (show _ = some (.cells #[a0, a1, a2, a3] T) from rfl)
 exact h3
theorem keep_four {S : Nat → Prop} {u v : World} {b : Nat} (a0 a1 a2 a3 : Value) (h : KeepS S u v) (hb : S b ∨ u.heap.size ≤ b) :
 KeepS S u ((((v.setCell ⟨b, 0, none⟩ a0).setCell ⟨b, 1, none⟩ a1).setCell ⟨b, 2, none⟩ a2).setCell ⟨b, 3, none⟩ a3) := (((h.set hb _).set hb _).set hb _).set hb _
theorem keep_six {S : Nat → Prop} {u v : World} {b : Nat} (a0 a1 a2 a3 a4 a5 : Value) (h : KeepS S u v) (hb : S b ∨ u.heap.size ≤ b) :
 KeepS S u ((((((v.setCell ⟨b, 0, none⟩ a0).setCell ⟨b, 1, none⟩ a1).setCell ⟨b, 2, none⟩ a2).setCell ⟨b, 3, none⟩ a3).setCell ⟨b, 4, none⟩ a4).setCell ⟨b, 5, none⟩ a5) := (((((h.set hb _).set hb _).set hb _).set hb _).set hb _).set hb _
end
abbrev DRows (w : World) (lo : Nat) (b0 b1 b2 b3 b4 b5 : Option Addr) (m : MS) (p1 p2 p3 p4 p5 p6 : Nat) : Prop := Rows6 w lo b0 b1 b2 b3 b4 b5 m.vars m.flags m.locks (atL m) (stL m) (rgL m) p1 p2 p3 p4 p5 p6
section
variable {w w' : World} {lo p1 p2 p3 p4 p5 p6 : Nat} {b0 b1 b2 b3 b4 b5 : Option Addr} {m : MS}
theorem atL_same {t : Nat} (ht : t < m.thr.length) {y : TS} (hy : y.pc = (m.th t).pc) : atL (m.setT t y) = atL m := by
 rw [atL_set]
 exact iset_same (by rw [atL_len]; exact ht) (by rw [atL_get m ht, hy])
theorem DRows.reg (h : DRows w lo b0 b1 b2 b3 b4 b5 m p1 p2 p3 p4 p5 p6) {t r : Nat} (ht : t < m.thr.length) (hr : r < 4) (h4 : R4 m) : ∃ g, b5 = some ⟨g, 0, none⟩ ∧ lo ≤ g ∧ g < p6 ∧ w.cell? ⟨g, t * 4 + r, none⟩ = some (.int .i64 ((m.th t).regs.getD r 0)) ∧ w.frozen? ⟨g, t * 4 + r, none⟩ = false ∧ ∀ v, DRows (w.setCell ⟨g, t * 4 + r, none⟩ (.int .i64 v)) lo b0 b1 b2 b3 b4 b5 (m.setT t { m.th t with regs := (m.th t).regs.set r v }) p1 p2 p3 p4 p5 p6 := by
 obtain ⟨g, q1, q2, q3, q4, q5, q6⟩ := Rows6.set5 h (i := t * 4 + r) (by rw [rgL_len h4]; omega)
 refine ⟨g, q1, q2, q3, by rw [q4, rgL_get h4 hr ht], q5, fun v => ?_⟩
 have q := q6 v
 rw [← rgL_set h4 (y := { m.th t with regs := (m.th t).regs.set r v }) hr ht rfl] at q
 unfold DRows
 have e1 : atL (m.setT t { m.th t with regs := (m.th t).regs.set r v }) = atL m := atL_same ht rfl
 have e2 : stL (m.setT t { m.th t with regs := (m.th t).regs.set r v }) = stL m := stL_same ht rfl
 rw [e1, e2]
 exact q
theorem DRows.var (h : DRows w lo b0 b1 b2 b3 b4 b5 m p1 p2 p3 p4 p5 p6) {i : Nat} (hi : i < m.vars.length) : ∃ g, b0 = some ⟨g, 0, none⟩ ∧ lo ≤ g ∧ g < p6 ∧ w.cell? ⟨g, i, none⟩ = some (.int .i64 (m.vars.getD i 0)) ∧ w.frozen? ⟨g, i, none⟩ = false ∧ ∀ v, DRows (w.setCell ⟨g, i, none⟩ (.int .i64 v)) lo b0 b1 b2 b3 b4 b5 { m with vars := m.vars.set i v } p1 p2 p3 p4 p5 p6 := Rows6.set0 h hi
theorem DRows.flag (h : DRows w lo b0 b1 b2 b3 b4 b5 m p1 p2 p3 p4 p5 p6) {i : Nat} (hi : i < m.flags.length) : ∃ g, b1 = some ⟨g, 0, none⟩ ∧ lo ≤ g ∧ g < p6 ∧ w.cell? ⟨g, i, none⟩ = some (.int .i64 (m.flags.getD i 0)) ∧ w.frozen? ⟨g, i, none⟩ = false ∧ ∀ v, DRows (w.setCell ⟨g, i, none⟩ (.int .i64 v)) lo b0 b1 b2 b3 b4 b5 { m with flags := m.flags.set i v } p1 p2 p3 p4 p5 p6 := Rows6.set1 h hi
theorem DRows.lock (h : DRows w lo b0 b1 b2 b3 b4 b5 m p1 p2 p3 p4 p5 p6) {i : Nat} (hi : i < m.locks.length) : ∃ g, b2 = some ⟨g, 0, none⟩ ∧ lo ≤ g ∧ g < p6 ∧ w.cell? ⟨g, i, none⟩ = some (.int .i64 (m.locks.getD i 0)) ∧ w.frozen? ⟨g, i, none⟩ = false ∧ ∀ v, DRows (w.setCell ⟨g, i, none⟩ (.int .i64 v)) lo b0 b1 b2 b3 b4 b5 { m with locks := m.locks.set i v } p1 p2 p3 p4 p5 p6 := Rows6.set2 h hi
theorem DRows.pc (h : DRows w lo b0 b1 b2 b3 b4 b5 m p1 p2 p3 p4 p5 p6) {i : Nat} (hi : i < m.thr.length) : ∃ g, b3 = some ⟨g, 0, none⟩ ∧ lo ≤ g ∧ g < p6 ∧ w.cell? ⟨g, i, none⟩ = some (.int .i64 ((m.th i).pc : Int)) ∧ w.frozen? ⟨g, i, none⟩ = false ∧ ∀ v : Nat, DRows (w.setCell ⟨g, i, none⟩ (.int .i64 (v : Int))) lo b0 b1 b2 b3 b4 b5 (m.setT i { m.th i with pc := v }) p1 p2 p3 p4 p5 p6 := by
 obtain ⟨g, q1, q2, q3, q4, q5, q6⟩ := Rows6.set3 h (i := i) (by rw [atL_len]; exact hi)
 refine ⟨g, q1, q2, q3, by rw [q4, atL_get m hi], q5, fun v => ?_⟩
 have q := q6 v
 unfold DRows
 have e1 : stL (m.setT i { m.th i with pc := v }) = stL m := stL_same hi rfl
 have e2 : rgL (m.setT i { m.th i with pc := v }) = rgL m := rgL_stay hi rfl
 rw [atL_set, e1, e2]
 exact q
theorem DRows.stat (h : DRows w lo b0 b1 b2 b3 b4 b5 m p1 p2 p3 p4 p5 p6) {i : Nat} (hi : i < m.thr.length) : ∃ g, b4 = some ⟨g, 0, none⟩ ∧ lo ≤ g ∧ g < p6 ∧ w.cell? ⟨g, i, none⟩ = some (.int .i64 (m.th i).ph) ∧ w.frozen? ⟨g, i, none⟩ = false ∧ ∀ v, DRows (w.setCell ⟨g, i, none⟩ (.int .i64 v)) lo b0 b1 b2 b3 b4 b5 (m.setT i { m.th i with ph := v }) p1 p2 p3 p4 p5 p6 := by
 obtain ⟨g, q1, q2, q3, q4, q5, q6⟩ := Rows6.set4 h (i := i) (by rw [stL_len]; exact hi)
 refine ⟨g, q1, q2, q3, by rw [q4, stL_get m hi], q5, fun v => ?_⟩
 have q := q6 v
 unfold DRows
 have e1 : atL (m.setT i { m.th i with ph := v }) = atL m := atL_same hi rfl
 have e2 : rgL (m.setT i { m.th i with ph := v }) = rgL m := rgL_stay hi rfl
 rw [stL_set, e1, e2]
 exact q
theorem DRows.doc (h : DRows w lo b0 b1 b2 b3 b4 b5 m p1 p2 p3 p4 p5 p6) {nv nf nl nt nr : Nat} (lv : m.vars.length = nv) (lf : m.flags.length = nf) (ll : m.locks.length = nl) (lt : m.thr.length = nt) (lr : nt * 4 = nr) (r4 : R4 m) : DocS w b0 b1 b2 b3 b4 b5 nv nf nl nt nr m :=
 ⟨h.r0.is, h.r1.is, h.r2.is, h.r3.is, h.r4.is, h.r5.is, lv, lf, ll, lt, lr, r4⟩
theorem four_allocs (w : World) (x y z u : Obj) {W : World} (hW : (((w.alloc x).alloc y).alloc z).alloc u = W) : Below w.heap.size w W ∧ W.heap[w.heap.size]? = some x ∧ W.heap[w.heap.size + 1]? = some y ∧ W.heap[w.heap.size + 1 + 1]? = some z ∧ W.heap[w.heap.size + 1 + 1 + 1]? = some u ∧ W.heap.size = w.heap.size + 1 + 1 + 1 + 1 := by
 obtain ⟨V, hV⟩ : ∃ V, ((w.alloc x).alloc y).alloc z = V := ⟨_, rfl⟩
 obtain ⟨h1, h2, h3, h5, h4⟩ := three_new w x y z hV
 rw [hV] at hW
 have hb : Below V.heap.size V W := by rw [← hW]; exact (Below.refl _ _).alloc (Nat.le_refl _) _
 refine ⟨h1.trans (hb.mono (by omega)), (hb.block _ (by omega)).trans h2, (hb.block _ (by omega)).trans h3, (hb.block _ (by omega)).trans h5, ?_, ?_⟩
 ·have q := World.alloc_heap_new V u
  rw [h4, hW] at q
  exact q
 ·rw [← hW]; show (V.heap.push _).size = _; simp [h4]
end
theorem Tryz.sizeRe : (Tryz.prog.info? 50).map (·.size) = some 4 := by kernel_rfl
theorem two_val {w : World} {fn : Func} {tmps : Array Value} {b c : Nat} {v0 v1 v2 v3 v4 v5 e0 e1 e2 e3 : Value} (hr : fn.results = #[.cell 6 36, .cell 7 50]) (ht : tmps[6]? = some (.pointer (some ⟨b, 0, none⟩))) (hu : tmps[7]? = some (.pointer (some ⟨c, 0, none⟩))) (hc : w.heap[b]? = some (.cells #[v0, v1, v2, v3, v4, v5] 36)) (hd : w.heap[c]? = some (.cells #[e0, e1, e2, e3] 50)) : (results fn tmps).run Tryz.prog w = .ok (.tuple #[.agg #[v0, v1, v2, v3, v4, v5], .agg #[e0, e1, e2, e3]]) w := by
 obtain ⟨c0, c1, c2, c3, c4, c5⟩ := six_cells hc
 obtain ⟨d0, d1, d2, d3⟩ := four_cells hd
 simp [results, hr, ht, hu, go_sem, c0, c1, c2, c3, c4, c5, d0, d1, d2, d3]
theorem one_ev {a b c d : Int} : ∀ v ∈ (#[Value.int .i64 a, .int .i64 b, .int .i64 c, .int .i64 d] : Array Value).toList, v.oneCell' = true := by
 intro v hv
 simp only [List.mem_cons, List.not_mem_nil, or_false] at hv
 rcases hv with rfl | rfl | rfl | rfl <;> rfl
theorem some6 {W : World} {g T : Nat} {v0 v1 v2 v3 v4 v5 : Value} (h : W.heap[g]? = some (.cells #[v0, v1, v2, v3, v4, v5] T)) : ∀ j, j < 6 → (W.cell? ⟨g, 0 + j, none⟩).isSome = true := fun j hj => by
 obtain ⟨r0, r1, r2, r3, r4, r5⟩ := six_cells h
 match j, hj with
 | 0, _ => rw [Nat.zero_add, r0]; rfl
 | 1, _ => rw [Nat.zero_add, r1]; rfl
 | 2, _ => rw [Nat.zero_add, r2]; rfl
 | 3, _ => rw [Nat.zero_add, r3]; rfl
 | 4, _ => rw [Nat.zero_add, r4]; rfl
 | 5, _ => rw [Nat.zero_add, r5]; rfl
theorem some4 {W : World} {g T : Nat} {v0 v1 v2 v3 : Value} (h : W.heap[g]? = some (.cells #[v0, v1, v2, v3] T)) : ∀ j, j < 4 → (W.cell? ⟨g, 0 + j, none⟩).isSome = true := fun j hj => by
 obtain ⟨r0, r1, r2, r3⟩ := four_cells h
 match j, hj with
 | 0, _ => rw [Nat.zero_add, r0]; rfl
 | 1, _ => rw [Nat.zero_add, r1]; rfl
 | 2, _ => rw [Nat.zero_add, r2]; rfl
 | 3, _ => rw [Nat.zero_add, r3]; rfl
theorem fin_facts {W : World} {g h T U : Nat} {r0 r1 r2 r3 r4 r5 e0 e1 e2 e3 : Value} (a0 a1 a2 a3 a4 a5 b0 b1 b2 b3 : Value) (k2 : W.heap[g]? = some (.cells #[r0, r1, r2, r3, r4, r5] T)) (k3 : W.heap[h]? = some (.cells #[e0, e1, e2, e3] U)) (hne : g ≠ h) :
 ∃ W1 W2, W.setCells g 0 [a0, a1, a2, a3, a4, a5] = W1 ∧ W1.setCells h 0 [b0, b1, b2, b3] = W2 ∧ KeepS (fun k => k = g ∨ k = h) W W1 ∧ KeepS (fun k => k = g ∨ k = h) W W2 ∧ W1.heap[h]? = some (.cells #[e0, e1, e2, e3] U) ∧ W2.heap[g]? = some (.cells #[a0, a1, a2, a3, a4, a5] T) ∧ W2.heap[h]? = some (.cells #[b0, b1, b2, b3] U) := by
 have q1 : KeepS (fun k => k = g) W (W.setCells g 0 [a0, a1, a2, a3, a4, a5]) := setCells_keep _ 0 (KeepS.refl W) (.inl rfl)
 have q2 : KeepS (fun k => k = h) (W.setCells g 0 [a0, a1, a2, a3, a4, a5]) ((W.setCells g 0 [a0, a1, a2, a3, a4, a5]).setCells h 0 [b0, b1, b2, b3]) := setCells_keep _ 0 (KeepS.refl _) (.inl rfl)
 have l2 := (Array.getElem?_eq_some_iff.1 k2).1
 have l3 := (Array.getElem?_eq_some_iff.1 k3).1
 have w1h : (W.setCells g 0 [a0, a1, a2, a3, a4, a5]).heap[h]? = some (.cells #[e0, e1, e2, e3] U) := (q1.block h l3 (fun q => hne q.symm)).trans k3
 have w1g : (W.setCells g 0 [a0, a1, a2, a3, a4, a5]).heap[g]? = some (.cells #[a0, a1, a2, a3, a4, a5] T) := six_sets a0 a1 a2 a3 a4 a5 k2
 have z1 := q1.size
 exact ⟨_, _, rfl, rfl, q1.mono fun k _ e => .inl e, (q1.mono fun k _ e => .inl e).trans (q2.mono fun k _ e => .inr e), w1h, (q2.block g (by omega) hne).trans w1g, four_sets b0 b1 b2 b3 w1h⟩
theorem fin_chain {W : World} {g h T U : Nat} {r0 r1 r2 r3 r4 r5 e0 e1 e2 e3 : Value} (a0 a1 a2 a3 a4 a5 b0 b1 b2 b3 : Value) (k2 : W.heap[g]? = some (.cells #[r0, r1, r2, r3, r4, r5] T)) (k3 : W.heap[h]? = some (.cells #[e0, e1, e2, e3] U)) (hne : g ≠ h) :
 ∃ W1 W2, ((((((W.setCell ⟨g, 0, none⟩ a0).setCell ⟨g, 1, none⟩ a1).setCell ⟨g, 2, none⟩ a2).setCell ⟨g, 3, none⟩ a3).setCell ⟨g, 4, none⟩ a4).setCell ⟨g, 5, none⟩ a5) = W1 ∧ ((((W1.setCell ⟨h, 0, none⟩ b0).setCell ⟨h, 1, none⟩ b1).setCell ⟨h, 2, none⟩ b2).setCell ⟨h, 3, none⟩ b3) = W2 ∧ KeepS (fun k => k = g ∨ k = h) W W1 ∧ KeepS (fun k => k = g ∨ k = h) W W2 ∧ W1.heap[h]? = some (.cells #[e0, e1, e2, e3] U) ∧ W2.heap[g]? = some (.cells #[a0, a1, a2, a3, a4, a5] T) ∧ W2.heap[h]? = some (.cells #[b0, b1, b2, b3] U) := by
 obtain ⟨W1, W2, h1, h2, r⟩ := fin_facts a0 a1 a2 a3 a4 a5 b0 b1 b2 b3 k2 k3 hne
 exact ⟨W1, W2, h1, h2, r⟩
section
variable {m : MS} {t : Nat} {x : In7}
theorem r4_set {y : TS} (h : R4 m) (hy : y.regs.length = 4) (n : Nat) : R4 (m.setT n y) := fun th hth => by
 rcases List.mem_or_eq_of_mem_set hth with q | q
 ·exact h th q
 ·rw [q]; exact hy
theorem r4_th (h : R4 m) (t : Nat) : (m.th t).regs.length = 4 := by
 unfold MS.th
 rw [List.getD_eq_getElem?_getD]
 cases q : m.thr[t]? with
 | none => rfl
 | some y => exact h y (List.mem_of_getElem? q)
theorem setT_len (m : MS) (n : Nat) (y : TS) : (m.setT n y).thr.length = m.thr.length := by unfold MS.setT; rw [List.length_set]
structure SameLen (m m1 : MS) : Prop where
 v : m1.vars.length = m.vars.length
 f : m1.flags.length = m.flags.length
 l : m1.locks.length = m.locks.length
 t : m1.thr.length = m.thr.length
 r : R4 m1
theorem sw_lens (h4 : R4 m) : SameLen m (swM m t x).1 := by
 have ht := r4_th h4 t
 have hr : ∀ v, R4 (m.setT t { m.th t with regs := (m.th t).regs.set x.r.toNat v }) := fun v => r4_set h4 (by show ((m.th t).regs.set x.r.toNat v).length = 4; rw [List.length_set]; exact ht) t
 unfold swM
 dsimp only
 by_cases c0 : x.op = oSet
 ·rw [if_pos c0]; exact ⟨rfl, rfl, rfl, setT_len _ _ _, hr _⟩
 rw [if_neg c0]
 by_cases c1 : x.op = oAdd
 ·rw [if_pos c1]; exact ⟨rfl, rfl, rfl, setT_len _ _ _, hr _⟩
 rw [if_neg c1]
 by_cases c2 : x.op = oSub
 ·rw [if_pos c2]; exact ⟨rfl, rfl, rfl, setT_len _ _ _, hr _⟩
 rw [if_neg c2]
 by_cases c3 : x.op = oMul
 ·rw [if_pos c3]; exact ⟨rfl, rfl, rfl, setT_len _ _ _, hr _⟩
 rw [if_neg c3]
 by_cases c4 : x.op = oLoad
 ·rw [if_pos c4]; exact ⟨rfl, rfl, rfl, setT_len _ _ _, hr _⟩
 rw [if_neg c4]
 by_cases c5 : x.op = oStore
 ·rw [if_pos c5]; exact ⟨List.length_set, rfl, rfl, rfl, h4⟩
 rw [if_neg c5]
 by_cases c6 : x.op = oGet
 ·rw [if_pos c6]; exact ⟨rfl, rfl, rfl, setT_len _ _ _, hr _⟩
 rw [if_neg c6]
 by_cases c7 : x.op = oPut
 ·rw [if_pos c7]; exact ⟨rfl, List.length_set, rfl, rfl, h4⟩
 rw [if_neg c7]
 by_cases c8 : x.op = oLock
 ·rw [if_pos c8]; exact ⟨rfl, rfl, List.length_set, rfl, h4⟩
 rw [if_neg c8]
 by_cases c9 : x.op = oUnlock
 ·rw [if_pos c9]; exact ⟨rfl, rfl, List.length_set, rfl, h4⟩
 rw [if_neg c9]
 by_cases c10 : x.op = oSpawn
 ·rw [if_pos c10]; exact ⟨rfl, rfl, rfl, setT_len _ _ _, r4_set (y := { m.th x.x.toNat with ph := 1 }) h4 (r4_th h4 x.x.toNat) _⟩
 rw [if_neg c10]
 by_cases c11 : x.op = oJoin
 ·rw [if_pos c11]; exact ⟨rfl, rfl, rfl, rfl, h4⟩
 rw [if_neg c11]
 by_cases c12 : x.op = oEnd
 ·rw [if_pos c12]; exact ⟨rfl, rfl, rfl, setT_len _ _ _, r4_set (y := { m.th t with ph := 2 }) h4 (r4_th h4 t) _⟩
 rw [if_neg c12]
 exact ⟨rfl, rfl, rfl, rfl, h4⟩
theorem gone_lens {m1 : MS} (h4 : R4 m1) (pc : Nat) : SameLen m1 (goneM m1 t pc) := ⟨rfl, rfl, rfl, setT_len _ _ _, r4_set (y := { m1.th t with pc := pc }) h4 (r4_th h4 t) _⟩
end
end Go.Proofs.YtcfpedjfofpnkaaGreatDoor
namespace Go.Proofs.YtcfpedjfofpnkaaGreatDoor
open Go.RowKit Go.Proofs.Cod
section
variable (m : MS) (t : Nat) {x : In7}
theorem sw_set (h : x.op = oSet) : swM m t x = (m.setT t { m.th t with regs := (m.th t).regs.set x.r.toNat (vlM (m.th t) x.aR x.aN) }, ⟨t, 0, 0, 0⟩, (m.th t).pc + 1) := by
 obtain ⟨op, r, aR, aN, bR, bN, y⟩ := x
 have h : op = oSet := h
 subst h
 rfl
theorem sw_add (h : x.op = oAdd) : swM m t x = (m.setT t { m.th t with regs := (m.th t).regs.set x.r.toNat ((vlM (m.th t) x.aR x.aN + vlM (m.th t) x.bR x.bN) % 1000) }, ⟨t, 0, 0, 0⟩, (m.th t).pc + 1) := by
 obtain ⟨op, r, aR, aN, bR, bN, y⟩ := x
 have h : op = oAdd := h
 subst h
 rfl
theorem sw_sub (h : x.op = oSub) : swM m t x = (m.setT t { m.th t with regs := (m.th t).regs.set x.r.toNat ((vlM (m.th t) x.aR x.aN - vlM (m.th t) x.bR x.bN + 1000) % 1000) }, ⟨t, 0, 0, 0⟩, (m.th t).pc + 1) := by
 obtain ⟨op, r, aR, aN, bR, bN, y⟩ := x
 have h : op = oSub := h
 subst h
 rfl
theorem sw_mul (h : x.op = oMul) : swM m t x = (m.setT t { m.th t with regs := (m.th t).regs.set x.r.toNat (vlM (m.th t) x.aR x.aN * vlM (m.th t) x.bR x.bN % 1000) }, ⟨t, 0, 0, 0⟩, (m.th t).pc + 1) := by
 obtain ⟨op, r, aR, aN, bR, bN, y⟩ := x
 have h : op = oMul := h
 subst h
 rfl
theorem sw_load (h : x.op = oLoad) : swM m t x = (m.setT t { m.th t with regs := (m.th t).regs.set x.r.toNat (m.vars.getD x.x.toNat 0) }, ⟨t, 1, x.x, m.vars.getD x.x.toNat 0⟩, (m.th t).pc + 1) := by
 obtain ⟨op, r, aR, aN, bR, bN, y⟩ := x
 have h : op = oLoad := h
 subst h
 rfl
theorem sw_store (h : x.op = oStore) : swM m t x = ({ m with vars := m.vars.set x.x.toNat (vlM (m.th t) x.aR x.aN) }, ⟨t, 2, x.x, vlM (m.th t) x.aR x.aN⟩, (m.th t).pc + 1) := by
 obtain ⟨op, r, aR, aN, bR, bN, y⟩ := x
 have h : op = oStore := h
 subst h
 rfl
theorem sw_get (h : x.op = oGet) : swM m t x = (m.setT t { m.th t with regs := (m.th t).regs.set x.r.toNat (m.flags.getD x.x.toNat 0) }, ⟨t, 3, x.x, m.flags.getD x.x.toNat 0⟩, (m.th t).pc + 1) := by
 obtain ⟨op, r, aR, aN, bR, bN, y⟩ := x
 have h : op = oGet := h
 subst h
 rfl
theorem sw_put (h : x.op = oPut) : swM m t x = ({ m with flags := m.flags.set x.x.toNat (vlM (m.th t) x.aR x.aN) }, ⟨t, 4, x.x, vlM (m.th t) x.aR x.aN⟩, (m.th t).pc + 1) := by
 obtain ⟨op, r, aR, aN, bR, bN, y⟩ := x
 have h : op = oPut := h
 subst h
 rfl
theorem sw_lock (h : x.op = oLock) : swM m t x = ({ m with locks := m.locks.set x.x.toNat t }, ⟨t, 5, x.x, 0⟩, (m.th t).pc + 1) := by
 obtain ⟨op, r, aR, aN, bR, bN, y⟩ := x
 have h : op = oLock := h
 subst h
 rfl
theorem sw_unlock (h : x.op = oUnlock) : swM m t x = ({ m with locks := m.locks.set x.x.toNat (-1) }, ⟨t, 6, x.x, 0⟩, (m.th t).pc + 1) := by
 obtain ⟨op, r, aR, aN, bR, bN, y⟩ := x
 have h : op = oUnlock := h
 subst h
 rfl
theorem sw_spawn (h : x.op = oSpawn) : swM m t x = (m.setT x.x.toNat { m.th x.x.toNat with ph := 1 }, ⟨t, 7, x.x, 0⟩, (m.th t).pc + 1) := by
 obtain ⟨op, r, aR, aN, bR, bN, y⟩ := x
 have h : op = oSpawn := h
 subst h
 rfl
theorem sw_join (h : x.op = oJoin) : swM m t x = (m, ⟨t, 8, x.x, 0⟩, (m.th t).pc + 1) := by
 obtain ⟨op, r, aR, aN, bR, bN, y⟩ := x
 have h : op = oJoin := h
 subst h
 rfl
theorem sw_end (h : x.op = oEnd) : swM m t x = (m.setT t { m.th t with ph := 2 }, ⟨t, 10, 0, 0⟩, (m.th t).pc) := by
 obtain ⟨op, r, aR, aN, bR, bN, y⟩ := x
 have h : op = oEnd := h
 subst h
 rfl
theorem sw_jump (h : x.op = oJump) : swM m t x = (m, ⟨t, 0, 0, 0⟩, (m.th t).pc + 1) := by
 obtain ⟨op, r, aR, aN, bR, bN, y⟩ := x
 have h : op = oJump := h
 subst h
 rfl
theorem sw_jeq (h : x.op = oJeq) : swM m t x = (m, ⟨t, 0, 0, 0⟩, (m.th t).pc + 1) := by
 obtain ⟨op, r, aR, aN, bR, bN, y⟩ := x
 have h : op = oJeq := h
 subst h
 rfl
theorem sw_jlt (h : x.op = oJlt) : swM m t x = (m, ⟨t, 0, 0, 0⟩, (m.th t).pc + 1) := by
 obtain ⟨op, r, aR, aN, bR, bN, y⟩ := x
 have h : op = oJlt := h
 subst h
 rfl
theorem sw_check (h : x.op = oCheck) : swM m t x = (m, ⟨t, 0, 0, 0⟩, (m.th t).pc + 1) := by
 obtain ⟨op, r, aR, aN, bR, bN, y⟩ := x
 have h : op = oCheck := h
 subst h
 rfl
theorem to_stay (h1 : x.op ≠ oJump) (h2 : x.op ≠ oJeq) (h3 : x.op ≠ oJlt) (n : Nat) : toM m t x n = n := by
 unfold toM jumpM
 rw [if_neg (by simp [h1, h2, h3])]
theorem to_jump (h : x.op = oJump) (n : Nat) : toM m t x n = x.x.toNat := by
 unfold toM jumpM
 rw [if_pos (by simp [h])]
theorem to_jeq (h : x.op = oJeq) (n : Nat) : toM m t x n = if vlM (m.th t) x.aR x.aN = vlM (m.th t) x.bR x.bN then x.x.toNat else n := by
 have h1 : x.op ≠ oJump := by rw [h]; decide
 have h3 : x.op ≠ oJlt := by rw [h]; decide
 unfold toM jumpM
 by_cases e : vlM (m.th t) x.aR x.aN = vlM (m.th t) x.bR x.bN
 ·rw [if_pos (by simp [h, e]), if_pos e]
 ·rw [if_neg (by simp [h1, h3, e]), if_neg e]
theorem to_jlt (h : x.op = oJlt) (n : Nat) : toM m t x n = if vlM (m.th t) x.aR x.aN < vlM (m.th t) x.bR x.bN then x.x.toNat else n := by
 have h1 : x.op ≠ oJump := by rw [h]; decide
 have h3 : x.op ≠ oJeq := by rw [h]; decide
 unfold toM jumpM
 by_cases e : vlM (m.th t) x.aR x.aN < vlM (m.th t) x.bR x.bN
 ·rw [if_pos (by simp [h, e]), if_pos e]
 ·rw [if_neg (by simp only [h1, h3, false_or, false_and, decide_eq_true_eq]; exact fun q => e q.2), if_neg e]
end
end Go.Proofs.YtcfpedjfofpnkaaGreatDoor
