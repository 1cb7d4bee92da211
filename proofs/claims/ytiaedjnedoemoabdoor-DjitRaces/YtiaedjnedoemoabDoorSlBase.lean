import Derived.Test.YtiaedjnedoemoabDoorChecked
import Derived.Test.YtiaedjnedoemoabDoorVecMath
import Derived.WalkKit
import Derived.ProofKit
import Derived.Laws.AppendOwnNone
import Derived.Deep.QuietTactic
import Derived.BigQuiet
namespace Go.Proofs.YtiaedjnedoemoabDoor
open Go.RowKit

/-- The first cells that a slice leads to hold these numbers. -/
def Sl (w : World) (a : Option Addr) (zs : List Int) : Prop :=
  ∀ i, i < zs.length → ∃ b off, a = some ⟨b, off, none⟩ ∧ b < w.heap.size ∧ w.cell? ⟨b, off + i, none⟩ = some (.int .i64 (zs.getD i 0))
theorem hide {p : Prop} (h : p) : Hid p := h
theorem ret_int {k : IntKind} {a b : Int} (h : a = b) : Ending.returned (.int k a) = .returned (.int k b) := by rw [h]
theorem ret_bool {a b : Bool} (h : a = b) : Ending.returned (.bool a) = .returned (.bool b) := by rw [h]
theorem Tryd.info3 : (Tryd.prog.info? 3).map (fun i => (i.zero, i.size, i.bytes)) = some (some (.int .i64 0), 1, 8) := by kernel_rfl
theorem Sl.below {w w' : World} {a : Option Addr} {zs : List Int} (h : Sl w a zs) (hb : Below w.heap.size w w') : Sl w' a zs := by
  intro i hi
  obtain ⟨b, off, ha, hlt, hc⟩ := h i hi
  exact ⟨b, off, ha, by have := hb.size; omega, (hb.cell (p := ⟨b, off + i, none⟩) hlt).trans hc⟩
/-- A slice in memory that is new (from block B on), which can be written. -/
def New (B : Nat) (w : World) (v : Value) (zs : List Int) : Prop :=
  ∃ a cap, v = .slice a zs.length cap ∧ zs.length ≤ cap ∧ cap ≤ 9223372036854775807 ∧ (a = none → cap = 0) ∧
    ∀ i, i < zs.length → ∃ b off, a = some ⟨b, off, none⟩ ∧ B ≤ b ∧ b < w.heap.size ∧ w.cell? ⟨b, off + i, none⟩ = some (.int .i64 (zs.getD i 0)) ∧ w.frozen? ⟨b, off + i, none⟩ = false
theorem map_getElem {zs : List Int} {i : Nat} (h : i < zs.length) : (zs.map (Value.int .i64))[i]? = some (.int .i64 (zs.getD i 0)) := by
  simp [h]
/-- What is owned, cut to a beginning. -/
theorem New.of_owns {B : Nat} {w : World} {v : Value} {n : Nat} {zs : List Int} (h : w.ownsRow B 3 1 v n (zs.map (Value.int .i64))) :
    ∃ a cap, v = .slice a n cap ∧ n = zs.length ∧ n ≤ cap ∧ cap ≤ 9223372036854775807 ∧ (a = none → cap = 0) ∧
      ∀ i, i < n → ∃ b off, a = some ⟨b, off, none⟩ ∧ B ≤ b ∧ b < w.heap.size ∧ w.cell? ⟨b, off + i, none⟩ = some (.int .i64 (zs.getD i 0)) ∧ w.frozen? ⟨b, off + i, none⟩ = false := by
  have hl : n = zs.length := by have := h.1; simp at this; omega
  rcases h.2 with ⟨rfl, h0⟩ | ⟨g, cap, cur, rfl, hB, hg, hc, hm, _, _⟩
  · subst h0
    exact ⟨none, 0, rfl, hl, Nat.le_refl _, by omega, fun _ => rfl, fun i hi => absurd hi (by omega)⟩
  · refine ⟨_, cap, rfl, hl, hc, hm, (fun e => by cases e), fun i hi => ⟨g, 0, rfl, hB, (Array.getElem?_eq_some_iff.1 hg).1, ?_, ?_⟩⟩
    · rw [Nat.zero_add, h.cellAt i (by omega)]; exact map_getElem (by omega)
    · rw [Nat.zero_add]; exact h.frozenAt i
theorem trim_pref (l : List Int) : ∀ i, i < (Vec.trim l).length → (Vec.trim l).getD i 0 = l.getD i 0 := fun i _ => Vec.trim_getD l i
theorem New.sl {B : Nat} {w : World} {a : Option Addr} {n cap : Nat} {zs : List Int} (h : New B w (.slice a n cap) zs) : zs.length = n ∧ n ≤ cap ∧ cap ≤ 9223372036854775807 ∧ Sl w a zs := by
  obtain ⟨a', cap', e, h1, h2, _, h3⟩ := h
  cases e
  exact ⟨rfl, h1, h2, fun i hi => by obtain ⟨b, off, e1, _, e3, e4, _⟩ := h3 i hi; exact ⟨b, off, e1, e3, e4⟩⟩
/-- A slice as a value that came in, or that a call made. -/
def SlV (w : World) (a : Option Addr) (n cap : Nat) (zs : List Int) : Prop := zs.length = n ∧ n ≤ cap ∧ cap ≤ 9223372036854775807 ∧ (a = none → cap = 0) ∧ Sl w a zs ∧ n * 8 ≤ 140737488351232
theorem New.slV {B : Nat} {w : World} {a : Option Addr} {n cap : Nat} {zs : List Int} (h : New B w (.slice a n cap) zs) (hb : zs.length * 8 ≤ 140737488351232) : SlV w a n cap zs := by
  have h' := h.sl
  obtain ⟨a', cap', e, h1, h2, h4, h3⟩ := h
  cases e
  exact ⟨rfl, h1, h2, h4, h'.2.2.2, hb⟩
theorem SlV.below {w w' : World} {a : Option Addr} {n cap : Nat} {zs : List Int} (h : SlV w a n cap zs) (hb : Below w.heap.size w w') : SlV w' a n cap zs :=
  ⟨h.1, h.2.1, h.2.2.1, h.2.2.2.1, h.2.2.2.2.1.below hb, h.2.2.2.2.2⟩
/-- A new slice stays what it is where what lies below B' is kept. -/
theorem New.below {B B' : Nat} {w w' : World} {v : Value} {zs : List Int} (h : New B w v zs) (hb : Below w.heap.size w w') (hB : B' ≤ B) : New B' w' v zs := by
  obtain ⟨a, cap, e, h1, h2, h2', h3⟩ := h
  refine ⟨a, cap, e, h1, h2, h2', fun i hi => ?_⟩
  obtain ⟨b, off, e1, e2, e3, e4, e5⟩ := h3 i hi
  exact ⟨b, off, e1, by omega, by have := hb.size; omega, (hb.cell (p := ⟨b, off + i, none⟩) e3).trans e4, (hb.frozen (p := ⟨b, off + i, none⟩) e3).trans e5⟩
theorem one_new (w : World) (x : Value) (t : Nat) : ∀ j u, [x][j]? = some u → (w.alloc (.cells #[x] t)).cell? (Addr.add ⟨w.heap.size, 0, none⟩ j) = some u := by
  intro j u hj
  match j, hj with
  | 0, hj => simp at hj; subst hj; simp [Addr.add]
/-- What is owned, cut where only zeros are left: new memory. -/
theorem New.trimmed {B : Nat} {w : World} {a : Option Addr} {n cap : Nat} {zs : List Int} (hn : n = zs.length) (h2 : n ≤ cap) (h3 : cap ≤ 9223372036854775807) (h3' : a = none → cap = 0)
    (h4 : ∀ i, i < n → ∃ b off, a = some ⟨b, off, none⟩ ∧ B ≤ b ∧ b < w.heap.size ∧ w.cell? ⟨b, off + i, none⟩ = some (.int .i64 (zs.getD i 0)) ∧ w.frozen? ⟨b, off + i, none⟩ = false) :
    New B w (.slice a (Vec.trim zs).length cap) (Vec.trim zs) := by
  have hl := Vec.trim_len zs
  refine ⟨a, cap, rfl, by omega, h3, h3', fun i hi => ?_⟩
  obtain ⟨b, off, e1, e2', e3, e4, e5⟩ := h4 i (by omega)
  exact ⟨b, off, e1, e2', e3, by rw [e4, Vec.trim_getD], e5⟩
theorem sl_of_new {B : Nat} {w : World} {a : Option Addr} {n : Nat} {zs : List Int} (hn : n = zs.length)
    (h4 : ∀ i, i < n → ∃ b off, a = some ⟨b, off, none⟩ ∧ B ≤ b ∧ b < w.heap.size ∧ w.cell? ⟨b, off + i, none⟩ = some (.int .i64 (zs.getD i 0)) ∧ w.frozen? ⟨b, off + i, none⟩ = false) : Sl w a zs :=
  fun i hi => by obtain ⟨b, off, e1, _, e3, e4, _⟩ := h4 i (by omega); exact ⟨b, off, e1, e3, e4⟩
theorem ext_getD {xs ys : List Int} (hl : xs.length = ys.length) (h : ∀ j, j < xs.length → xs.getD j 0 = ys.getD j 0) : xs = ys := by
  apply List.ext_getElem hl
  intro i h1 h2
  have := h i h1
  simpa [h1, h2] using this
theorem drewN_below {B : Nat} {w0 w : World} (h : Below B w0 w) (n : Nat) : Below B w0 (w.drewN n) := h.trans ⟨rfl, rfl, rfl, Nat.le_refl _, fun _ _ => rfl⟩
theorem append_cells {w : World} {a : Addr} {zs : List Int} (h : Sl w (some a) zs) : ∀ j u, (zs.map (Value.int .i64))[j]? = some u → w.cell? (a.add j) = some u := by
  intro j u hj
  have hlt : j < zs.length := by have := (List.getElem?_eq_some_iff.1 hj).1; simpa using this
  obtain ⟨b, off, e, _, hc⟩ := h j hlt
  cases e
  rw [map_getElem hlt] at hj
  cases hj
  by_cases h0 : j = 0
  · subst h0; simpa [Addr.add] using hc
  · simpa [Addr.add, h0] using hc
/-- What the program's calls answer. -/
def AtSaid : Prop := ∀ (a : Option Addr) (n cap : Nat) (xs : List Int) (t : Int) (w : World), SlV w a n cap xs →
  Calls Tryd.prog 38 #[.slice a n cap, .int .i64 t] w fun e w' => e = .returned (.int .i64 (Vec.at_ xs t)) ∧ Below w.heap.size w w'
def LeqSaid : Prop := ∀ (a : Option Addr) (n cap : Nat) (xs : List Int) (a' : Option Addr) (n' cap' : Nat) (ys : List Int) (w : World), SlV w a n cap xs → SlV w a' n' cap' ys →
  Calls Tryd.prog 36 #[.slice a n cap, .slice a' n' cap'] w fun e w' => e = .returned (.bool (Vec.leq xs ys)) ∧ Below w.heap.size w w'
def MaxSaid : Prop := ∀ (a : Option Addr) (n cap : Nat) (xs : List Int) (a' : Option Addr) (n' cap' : Nat) (ys : List Int) (w : World), SlV w a n cap xs → SlV w a' n' cap' ys →
  Calls Tryd.prog 56 #[.slice a n cap, .slice a' n' cap'] w fun e w' => ∃ v, e = .returned v ∧ New w.heap.size w' v (Vec.maxV xs ys) ∧ Below w.heap.size w w'
def TickSaid : Prop := ∀ (a : Option Addr) (n cap : Nat) (xs : List Int) (t : Int) (w : World), SlV w a n cap xs →
  Calls Tryd.prog 60 #[.slice a n cap, .int .i64 t] w fun e w' => ∃ v, e = .returned v ∧ New w.heap.size w' v (Vec.tickV wrap64 xs t) ∧ Below w.heap.size w w'
theorem New.parts {B : Nat} {w : World} {v : Value} {zs : List Int} (h : New B w v zs) (hb : zs.length * 8 ≤ 140737488351232) : ∃ a cap, v = .slice a zs.length cap ∧ SlV w a zs.length cap zs := by
  obtain ⟨a, cap, rfl, _⟩ := id h
  exact ⟨a, cap, rfl, h.slV hb⟩
theorem slV_lit (w : World) (x : Array Value) (zs : List Int) (t : Nat) (h : x.toList = zs.map (Value.int .i64)) (hl : zs.length ≤ 1000) : SlV (w.alloc (.cells x t)) (some ⟨w.heap.size, 0, none⟩) zs.length zs.length zs := by
  refine ⟨rfl, Nat.le_refl _, by omega, (fun e => by cases e), fun i hi => ⟨w.heap.size, 0, rfl, by simp, ?_⟩, by omega⟩
  rw [World.cell?_alloc_mark w x t (0, 0) (0 + i), Nat.zero_add]
  have e : x[i]? = x.toList[i]? := by simp
  rw [e, h]
  exact map_getElem hi
theorem slV_nil (w : World) : SlV w none 0 0 [] := ⟨rfl, Nat.le_refl _, by omega, fun _ => rfl, fun i hi => absurd hi (by simp), by omega⟩
/-- Numbers that can be written, in blocks from B on. -/
def IntOpen (B : Nat) (w : World) (a : Option Addr) (m : Nat) : Prop :=
  ∀ j, j < m → ∃ b off, a = some ⟨b, off, none⟩ ∧ B ≤ b ∧ (w.cell? ⟨b, off + j, none⟩).isSome = true ∧ w.frozen? ⟨b, off + j, none⟩ = false ∧ b < w.heap.size
theorem New.opened {B : Nat} {w : World} {a : Option Addr} {n cap : Nat} {zs : List Int} (h : New B w (.slice a n cap) zs) : IntOpen B w a n := by
  obtain ⟨a', cap', e, _, _, _, h3⟩ := h
  cases e
  intro j hj
  obtain ⟨b, off, e1, e2, e3, e4, e5⟩ := h3 j hj
  exact ⟨b, off, e1, e2, by rw [e4]; rfl, e5, e3⟩
theorem IntOpen.below {B m : Nat} {w w' : World} {a : Option Addr} (h : IntOpen B w a m) (hb : Below w.heap.size w w') : IntOpen B w' a m := by
  intro j hj
  obtain ⟨b, off, e1, e2, e4, e5, e3⟩ := h j hj
  exact ⟨b, off, e1, e2, by rw [hb.cell (p := ⟨b, off + j, none⟩) e3]; exact e4, (hb.frozen (p := ⟨b, off + j, none⟩) e3).trans e5, by have := hb.size; omega⟩
theorem IntOpen.mono {B B' m : Nat} {w : World} {a : Option Addr} (h : IntOpen B w a m) (hB : B' ≤ B) : IntOpen B' w a m := by
  intro j hj
  obtain ⟨b, off, e1, e2, r⟩ := h j hj
  exact ⟨b, off, e1, by omega, r⟩
theorem isSome_stored {w : World} {p q : Addr} {u : Value} (h : (w.cell? q).isSome = true) : ((w.setCell p u).cell? q).isSome = true := by
  obtain ⟨x, hx⟩ := Option.isSome_iff_exists.1 h
  by_cases e : q = p
  · subst e
    rw [World.cell?_setCell_same w q u hx]; rfl
  · rw [World.cell?_setCell_other _ _ _ _ (fun h => e h.symm)]; exact h
theorem IntOpen.setCell {B m : Nat} {w : World} {a : Option Addr} (h : IntOpen B w a m) (p : Addr) (u : Value) : IntOpen B (w.setCell p u) a m := by
  intro j hj
  obtain ⟨b, off, e1, e2, e4, e5, e3⟩ := h j hj
  exact ⟨b, off, e1, e2, isSome_stored e4, by rw [World.frozen?_setCell]; exact e5, by simpa using e3⟩
theorem SlV.isNone {w : World} {a : Option Addr} {n cap : Nat} {zs : List Int} (h : SlV w a n cap zs) : a = none → n = 0 ∧ cap = 0 := fun e => by
  have := h.2.2.2.1 e
  have := h.2.1
  omega
end Go.Proofs.YtiaedjnedoemoabDoor
