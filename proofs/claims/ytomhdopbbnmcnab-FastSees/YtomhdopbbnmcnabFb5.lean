import Derived.Test.YtomhdopbbnmcnabChecked
import Derived.Test.YtomhdopbbnmcnabFb2
import Derived.WalkKit
import Derived.ProofKit
import Derived.Laws.AppendOwnNone
import Derived.Deep.QuietTactic
import Derived.BigQuiet
import Derived.Test.YtomhdopbbnmcnabKMap
import Derived.Laws.BitsLemmas
import Derived.RangeFuncNested
import Derived.RangeFuncBound
import Derived.RangeFuncCalls
import Derived.RangeFuncLeaves
import Derived.Shelf.Abstract
import Derived.Shelf.RegionOpen
import Derived.OwnWalkIn
import Derived.TacticsInMore
import Derived.LoopNIn
import Derived.LoopIn
namespace Go.Proofs.Ytomhdopbbnmcnab
open Go.RowKit

/-- The first cells that a slice leads to hold these numbers. -/
def Sl (w : World) (a : Option Addr) (zs : List Int) : Prop :=
  ∀ i, i < zs.length → ∃ b off, a = some ⟨b, off, none⟩ ∧ b < w.heap.size ∧ w.cell? ⟨b, off + i, none⟩ = some (.int .i64 (zs.getD i 0))
theorem hide {p : Prop} (h : p) : Hid p := h
theorem ret_int {k : IntKind} {a b : Int} (h : a = b) : Ending.returned (.int k a) = .returned (.int k b) := by rw [h]
theorem ret_bool {a b : Bool} (h : a = b) : Ending.returned (.bool a) = .returned (.bool b) := by rw [h]
theorem Try.info3 : (Try.prog.info? 3).map (fun i => (i.zero, i.size, i.bytes)) = some (some (.int .i64 0), 1, 8) := by kernel_rfl
theorem Sl.below {w w' : World} {a : Option Addr} {zs : List Int} (h : Sl w a zs) (hb : Below w.heap.size w w') : Sl w' a zs := by
  intro i hi
  obtain ⟨b, off, ha, hlt, hc⟩ := h i hi
  exact ⟨b, off, ha, by have := hb.size; omega, (hb.cell (p := ⟨b, off + i, none⟩) hlt).trans hc⟩
/-- A slice in memory that is new (from block B on), which can be written. -/
def New (B : Nat) (w : World) (v : Value) (zs : List Int) : Prop :=
  ∃ a cap, v = .slice a zs.length cap ∧ zs.length ≤ cap ∧ cap ≤ 9223372036854775807 ∧ (a = none → cap = 0) ∧
    ∀ i, i < zs.length → ∃ b off, a = some ⟨b, off, none⟩ ∧ B ≤ b ∧ b < w.heap.size ∧ w.cell? ⟨b, off + i, none⟩ = some (.int .i64 (zs.getD i 0)) ∧ w.frozen? ⟨b, off + i, none⟩ = false
theorem map_getElem {zs : List Int} {i : Nat} (h : i < zs.length) : (zs.map (Value.int .i64))[i]? = some (.int .i64 (zs.getD i 0)) := by
  simp [h]
/-- What is owned, cut to a beginning. -/
theorem New.of_owns {B : Nat} {w : World} {v : Value} {n : Nat} {zs : List Int} (h : w.ownsRow B 3 1 v n (zs.map (Value.int .i64))) :
    ∃ a cap, v = .slice a n cap ∧ n = zs.length ∧ n ≤ cap ∧ cap ≤ 9223372036854775807 ∧ (a = none → cap = 0) ∧
      ∀ i, i < n → ∃ b off, a = some ⟨b, off, none⟩ ∧ B ≤ b ∧ b < w.heap.size ∧ w.cell? ⟨b, off + i, none⟩ = some (.int .i64 (zs.getD i 0)) ∧ w.frozen? ⟨b, off + i, none⟩ = false := by
  have hl : n = zs.length := by have := h.1; simp at this; omega
  rcases h.2 with ⟨rfl, h0⟩ | ⟨g, cap, cur, rfl, hB, hg, hc, hm, _, _⟩
  · subst h0
    exact ⟨none, 0, rfl, hl, Nat.le_refl _, by omega, fun _ => rfl, fun i hi => absurd hi (by omega)⟩
  · refine ⟨_, cap, rfl, hl, hc, hm, (fun e => by cases e), fun i hi => ⟨g, 0, rfl, hB, (Array.getElem?_eq_some_iff.1 hg).1, ?_, ?_⟩⟩
    · rw [Nat.zero_add, h.cellAt i (by omega)]; exact map_getElem (by omega)
    · rw [Nat.zero_add]; exact h.frozenAt i
theorem trim_pref (l : List Int) : ∀ i, i < (Vec.trim l).length → (Vec.trim l).getD i 0 = l.getD i 0 := fun i _ => Vec.trim_getD l i
theorem New.sl {B : Nat} {w : World} {a : Option Addr} {n cap : Nat} {zs : List Int} (h : New B w (.slice a n cap) zs) : zs.length = n ∧ n ≤ cap ∧ cap ≤ 9223372036854775807 ∧ Sl w a zs := by
  obtain ⟨a', cap', e, h1, h2, _, h3⟩ := h
  cases e
  exact ⟨rfl, h1, h2, fun i hi => by obtain ⟨b, off, e1, _, e3, e4, _⟩ := h3 i hi; exact ⟨b, off, e1, e3, e4⟩⟩
/-- A slice as a value that came in, or that a call made. -/
def SlV (w : World) (a : Option Addr) (n cap : Nat) (zs : List Int) : Prop := zs.length = n ∧ n ≤ cap ∧ cap ≤ 9223372036854775807 ∧ (a = none → cap = 0) ∧ Sl w a zs ∧ n * 8 ≤ 140737488351232
theorem New.slV {B : Nat} {w : World} {a : Option Addr} {n cap : Nat} {zs : List Int} (h : New B w (.slice a n cap) zs) (hb : zs.length * 8 ≤ 140737488351232) : SlV w a n cap zs := by
  have h' := h.sl
  obtain ⟨a', cap', e, h1, h2, h4, h3⟩ := h
  cases e
  exact ⟨rfl, h1, h2, h4, h'.2.2.2, hb⟩
theorem SlV.below {w w' : World} {a : Option Addr} {n cap : Nat} {zs : List Int} (h : SlV w a n cap zs) (hb : Below w.heap.size w w') : SlV w' a n cap zs :=
  ⟨h.1, h.2.1, h.2.2.1, h.2.2.2.1, h.2.2.2.2.1.below hb, h.2.2.2.2.2⟩
/-- A new slice stays what it is where what lies below B' is kept. -/
theorem New.below {B B' : Nat} {w w' : World} {v : Value} {zs : List Int} (h : New B w v zs) (hb : Below w.heap.size w w') (hB : B' ≤ B) : New B' w' v zs := by
  obtain ⟨a, cap, e, h1, h2, h2', h3⟩ := h
  refine ⟨a, cap, e, h1, h2, h2', fun i hi => ?_⟩
  obtain ⟨b, off, e1, e2, e3, e4, e5⟩ := h3 i hi
  exact ⟨b, off, e1, by omega, by have := hb.size; omega, (hb.cell (p := ⟨b, off + i, none⟩) e3).trans e4, (hb.frozen (p := ⟨b, off + i, none⟩) e3).trans e5⟩
theorem one_new (w : World) (x : Value) (t : Nat) : ∀ j u, [x][j]? = some u → (w.alloc (.cells #[x] t)).cell? (Addr.add ⟨w.heap.size, 0, none⟩ j) = some u := by
  intro j u hj
  match j, hj with
  | 0, hj => simp at hj; subst hj; simp [Addr.add]
/-- What is owned, cut where only zeros are left: new memory. -/
theorem New.trimmed {B : Nat} {w : World} {a : Option Addr} {n cap : Nat} {zs : List Int} (hn : n = zs.length) (h2 : n ≤ cap) (h3 : cap ≤ 9223372036854775807) (h3' : a = none → cap = 0)
    (h4 : ∀ i, i < n → ∃ b off, a = some ⟨b, off, none⟩ ∧ B ≤ b ∧ b < w.heap.size ∧ w.cell? ⟨b, off + i, none⟩ = some (.int .i64 (zs.getD i 0)) ∧ w.frozen? ⟨b, off + i, none⟩ = false) :
    New B w (.slice a (Vec.trim zs).length cap) (Vec.trim zs) := by
  have hl := Vec.trim_len zs
  refine ⟨a, cap, rfl, by omega, h3, h3', fun i hi => ?_⟩
  obtain ⟨b, off, e1, e2', e3, e4, e5⟩ := h4 i (by omega)
  exact ⟨b, off, e1, e2', e3, by rw [e4, Vec.trim_getD], e5⟩
theorem sl_of_new {B : Nat} {w : World} {a : Option Addr} {n : Nat} {zs : List Int} (hn : n = zs.length)
    (h4 : ∀ i, i < n → ∃ b off, a = some ⟨b, off, none⟩ ∧ B ≤ b ∧ b < w.heap.size ∧ w.cell? ⟨b, off + i, none⟩ = some (.int .i64 (zs.getD i 0)) ∧ w.frozen? ⟨b, off + i, none⟩ = false) : Sl w a zs :=
  fun i hi => by obtain ⟨b, off, e1, _, e3, e4, _⟩ := h4 i (by omega); exact ⟨b, off, e1, e3, e4⟩
theorem ext_getD {xs ys : List Int} (hl : xs.length = ys.length) (h : ∀ j, j < xs.length → xs.getD j 0 = ys.getD j 0) : xs = ys := by
  apply List.ext_getElem hl
  intro i h1 h2
  have := h i h1
  simpa [h1, h2] using this
theorem drewN_below {B : Nat} {w0 w : World} (h : Below B w0 w) (n : Nat) : Below B w0 (w.drewN n) := h.trans ⟨rfl, rfl, rfl, Nat.le_refl _, fun _ _ => rfl⟩
theorem append_cells {w : World} {a : Addr} {zs : List Int} (h : Sl w (some a) zs) : ∀ j u, (zs.map (Value.int .i64))[j]? = some u → w.cell? (a.add j) = some u := by
  intro j u hj
  have hlt : j < zs.length := by have := (List.getElem?_eq_some_iff.1 hj).1; simpa using this
  obtain ⟨b, off, e, _, hc⟩ := h j hlt
  cases e
  rw [map_getElem hlt] at hj
  cases hj
  by_cases h0 : j = 0
  · subst h0; simpa [Addr.add] using hc
  · simpa [Addr.add, h0] using hc
/-- What the program's calls answer. -/
def AtSaid : Prop := ∀ (a : Option Addr) (n cap : Nat) (xs : List Int) (t : Int) (w : World), SlV w a n cap xs →
  Calls Try.prog 16 #[.slice a n cap, .int .i64 t] w fun e w' => e = .returned (.int .i64 (Vec.at_ xs t)) ∧ Below w.heap.size w w'
def LeqSaid : Prop := ∀ (a : Option Addr) (n cap : Nat) (xs : List Int) (a' : Option Addr) (n' cap' : Nat) (ys : List Int) (w : World), SlV w a n cap xs → SlV w a' n' cap' ys →
  Calls Try.prog 18 #[.slice a n cap, .slice a' n' cap'] w fun e w' => e = .returned (.bool (Vec.leq xs ys)) ∧ Below w.heap.size w w'
def MaxSaid : Prop := ∀ (a : Option Addr) (n cap : Nat) (xs : List Int) (a' : Option Addr) (n' cap' : Nat) (ys : List Int) (w : World), SlV w a n cap xs → SlV w a' n' cap' ys →
  Calls Try.prog 11 #[.slice a n cap, .slice a' n' cap'] w fun e w' => ∃ v, e = .returned v ∧ New w.heap.size w' v (Vec.maxV xs ys) ∧ Below w.heap.size w w'
def TickSaid : Prop := ∀ (a : Option Addr) (n cap : Nat) (xs : List Int) (t : Int) (w : World), SlV w a n cap xs →
  Calls Try.prog 12 #[.slice a n cap, .int .i64 t] w fun e w' => ∃ v, e = .returned v ∧ New w.heap.size w' v (Vec.tickV wrap64 xs t) ∧ Below w.heap.size w w'
theorem New.parts {B : Nat} {w : World} {v : Value} {zs : List Int} (h : New B w v zs) (hb : zs.length * 8 ≤ 140737488351232) : ∃ a cap, v = .slice a zs.length cap ∧ SlV w a zs.length cap zs := by
  obtain ⟨a, cap, rfl, _⟩ := id h
  exact ⟨a, cap, rfl, h.slV hb⟩
theorem slV_lit (w : World) (x : Array Value) (zs : List Int) (t : Nat) (h : x.toList = zs.map (Value.int .i64)) (hl : zs.length ≤ 1000) : SlV (w.alloc (.cells x t)) (some ⟨w.heap.size, 0, none⟩) zs.length zs.length zs := by
  refine ⟨rfl, Nat.le_refl _, by omega, (fun e => by cases e), fun i hi => ⟨w.heap.size, 0, rfl, by simp, ?_⟩, by omega⟩
  rw [World.cell?_alloc_mark w x t (0, 0) (0 + i), Nat.zero_add]
  have e : x[i]? = x.toList[i]? := by simp
  rw [e, h]
  exact map_getElem hi
theorem slV_nil (w : World) : SlV w none 0 0 [] := ⟨rfl, Nat.le_refl _, by omega, fun _ => rfl, fun i hi => absurd hi (by simp), by omega⟩
/-- Numbers that can be written, in blocks from B on. -/
def IntOpen (B : Nat) (w : World) (a : Option Addr) (m : Nat) : Prop :=
  ∀ j, j < m → ∃ b off, a = some ⟨b, off, none⟩ ∧ B ≤ b ∧ (w.cell? ⟨b, off + j, none⟩).isSome = true ∧ w.frozen? ⟨b, off + j, none⟩ = false ∧ b < w.heap.size
theorem New.opened {B : Nat} {w : World} {a : Option Addr} {n cap : Nat} {zs : List Int} (h : New B w (.slice a n cap) zs) : IntOpen B w a n := by
  obtain ⟨a', cap', e, _, _, _, h3⟩ := h
  cases e
  intro j hj
  obtain ⟨b, off, e1, e2, e3, e4, e5⟩ := h3 j hj
  exact ⟨b, off, e1, e2, by rw [e4]; rfl, e5, e3⟩
theorem IntOpen.below {B m : Nat} {w w' : World} {a : Option Addr} (h : IntOpen B w a m) (hb : Below w.heap.size w w') : IntOpen B w' a m := by
  intro j hj
  obtain ⟨b, off, e1, e2, e4, e5, e3⟩ := h j hj
  exact ⟨b, off, e1, e2, by rw [hb.cell (p := ⟨b, off + j, none⟩) e3]; exact e4, (hb.frozen (p := ⟨b, off + j, none⟩) e3).trans e5, by have := hb.size; omega⟩
theorem IntOpen.mono {B B' m : Nat} {w : World} {a : Option Addr} (h : IntOpen B w a m) (hB : B' ≤ B) : IntOpen B' w a m := by
  intro j hj
  obtain ⟨b, off, e1, e2, r⟩ := h j hj
  exact ⟨b, off, e1, by omega, r⟩
theorem isSome_stored {w : World} {p q : Addr} {u : Value} (h : (w.cell? q).isSome = true) : ((w.setCell p u).cell? q).isSome = true := by
  obtain ⟨x, hx⟩ := Option.isSome_iff_exists.1 h
  by_cases e : q = p
  · subst e
    rw [World.cell?_setCell_same w q u hx]; rfl
  · rw [World.cell?_setCell_other _ _ _ _ (fun h => e h.symm)]; exact h
theorem IntOpen.setCell {B m : Nat} {w : World} {a : Option Addr} (h : IntOpen B w a m) (p : Addr) (u : Value) : IntOpen B (w.setCell p u) a m := by
  intro j hj
  obtain ⟨b, off, e1, e2, e4, e5, e3⟩ := h j hj
  exact ⟨b, off, e1, e2, isSome_stored e4, by rw [World.frozen?_setCell]; exact e5, by simpa using e3⟩
theorem SlV.isNone {w : World} {a : Option Addr} {n cap : Nat} {zs : List Int} (h : SlV w a n cap zs) : a = none → n = 0 ∧ cap = 0 := fun e => by
  have := h.2.2.2.1 e
  have := h.2.1
  omega
end Go.Proofs.Ytomhdopbbnmcnab
namespace Go.Proofs.Ytomhdopbbnmcnab
open Go.RowKit Go.Proofs.Ord

/-- A number that an int can be. -/
def In64 (t : Int) : Prop := -9223372036854775808 ≤ t ∧ t ≤ 9223372036854775807

/-- A page, in blocks of S. -/
def PageV (S : Nat → Prop) (w : World) (v : Value) (zs : List Int) : Prop :=
  ∃ a cap, v = .slice a zs.length cap ∧ SlV w a zs.length cap zs ∧ zs.length ≤ 64 ∧ ∀ b off, a = some ⟨b, off, none⟩ → 0 < zs.length → S b

/-- The number of thread u, on pages. -/
def pageAt (pg : Int → List Int) (u : Int) : Int := (pg (u / 64)).getD (u % 64).toNat 0

structure Pages (S : Nat → Prop) (w : World) (f : Int → Option Value) (pg : Int → List Int) : Prop where
  some_ : ∀ p v, f p = some v → PageV S w v (pg p)
  none_ : ∀ p, f p = none → pg p = []

/-- A stamp of these pages, in blocks of S. -/
def StampP (S : Nat → Prop) (w : World) (v : Value) (pg : Int → List Int) : Prop :=
  (v = .map none ∧ ∀ p, pg p = []) ∨ ∃ b f n, v = .map (some b) ∧ S b ∧ KMap ik w b f n ∧ Pages S w f pg
/-- A stamp of these numbers. -/
def StampV (S : Nat → Prop) (w : World) (v : Value) (g : Int → Int) : Prop := ∃ pg, (∀ u, g u = pageAt pg u) ∧ StampP S w v pg

theorem pageV_nil (S : Nat → Prop) (w : World) : PageV S w (.slice none 0 0) [] := ⟨none, 0, rfl, ⟨rfl, Nat.le_refl _, by omega, fun _ => rfl, fun i hi => absurd hi (by simp), by simp⟩, by simp, fun b off h => by cases h⟩

theorem slV_keptB {w w' : World} {a : Option Addr} {n cap : Nat} {zs : List Int} (h : SlV w a n cap zs) (hs : w.heap.size ≤ w'.heap.size) (hb : ∀ b off, a = some ⟨b, off, none⟩ → 0 < zs.length → w'.heap[b]? = w.heap[b]?) : SlV w' a n cap zs := by
  refine ⟨h.1, h.2.1, h.2.2.1, h.2.2.2.1, fun i hi => ?_, h.2.2.2.2.2⟩
  obtain ⟨b, off, ha, hlt, hc⟩ := h.2.2.2.2.1 i hi
  exact ⟨b, off, ha, by omega, (World.cell?_of_block (w := w) (a := ⟨b, off + i, none⟩) (hb b off ha (by omega))).trans hc⟩
theorem PageV.kept {S : Nat → Prop} {w w' : World} {v : Value} {zs : List Int} (h : PageV S w v zs) (hs : w.heap.size ≤ w'.heap.size) (hb : ∀ b, S b → w'.heap[b]? = w.heap[b]?) : PageV S w' v zs := by
  obtain ⟨a, cap, e, h1, h2, h3⟩ := h
  exact ⟨a, cap, e, slV_keptB h1 hs (fun b off ha h0 => hb b (h3 b off ha h0)), h2, h3⟩
theorem PageV.mono {S S' : Nat → Prop} {w : World} {v : Value} {zs : List Int} (h : PageV S w v zs) (hS : ∀ b, b < w.heap.size → S b → S' b) : PageV S' w v zs := by
  obtain ⟨a, cap, e, h1, h2, h3⟩ := h
  refine ⟨a, cap, e, h1, h2, fun b off ha h0 => hS b ?_ (h3 b off ha h0)⟩
  obtain ⟨b', off', ha', hlt, _⟩ := h1.2.2.2.2.1 0 h0
  rw [ha] at ha'; cases ha'; exact hlt
/-- A new page. -/
theorem New.page {S : Nat → Prop} {B : Nat} {w : World} {v : Value} {zs : List Int} (h : New B w v zs) (hl : zs.length ≤ 64) (hS : ∀ b, B ≤ b → b < w.heap.size → S b) : PageV S w v zs := by
  obtain ⟨a, cap, rfl, h1, h2, h3, h4⟩ := id h
  refine ⟨a, cap, rfl, h.slV (by omega), hl, fun b off ha h0 => ?_⟩
  obtain ⟨b', off', ha', hB, hlt, _⟩ := h4 0 h0
  rw [ha] at ha'; cases ha'; exact hS b hB hlt
theorem Pages.kept {S : Nat → Prop} {w w' : World} {f : Int → Option Value} {pg : Int → List Int} (h : Pages S w f pg) (hs : w.heap.size ≤ w'.heap.size) (hb : ∀ b, S b → w'.heap[b]? = w.heap[b]?) : Pages S w' f pg :=
  ⟨fun p v hf => (h.some_ p v hf).kept hs hb, h.none_⟩
theorem Pages.mono {S S' : Nat → Prop} {w : World} {f : Int → Option Value} {pg : Int → List Int} (h : Pages S w f pg) (hS : ∀ b, b < w.heap.size → S b → S' b) : Pages S' w f pg :=
  ⟨fun p v hf => (h.some_ p v hf).mono hS, h.none_⟩
theorem Pages.at {S : Nat → Prop} {w : World} {f : Int → Option Value} {pg : Int → List Int} (h : Pages S w f pg) (p : Int) : PageV S w ((f p).getD (.slice none 0 0)) (pg p) := by
  cases hf : f p with
  | none => rw [h.none_ p hf]; exact pageV_nil S w
  | some v => exact h.some_ p v hf
theorem Pages.put {S : Nat → Prop} {w : World} {f : Int → Option Value} {pg : Int → List Int} (h : Pages S w f pg) (p : Int) {v : Value} {zs : List Int} (hv : PageV S w v zs) : Pages S w (putK f p v) (fun q => if q = p then zs else pg q) := by
  refine ⟨fun q u hq => ?_, fun q hq => ?_⟩
  · by_cases e : q = p
    · subst e; rw [putK_same] at hq; cases hq; rw [if_pos rfl]; exact hv
    · rw [putK_other v e] at hq; rw [if_neg e]; exact h.some_ q u hq
  · by_cases e : q = p
    · subst e; rw [putK_same] at hq; cases hq
    · rw [putK_other v e] at hq; rw [if_neg e]; exact h.none_ q hq
theorem pages_none (S : Nat → Prop) (w : World) : Pages S w (fun _ => none) (fun _ => []) := ⟨(fun p v h => by cases h), fun _ _ => rfl⟩

theorem StampP.kept {S : Nat → Prop} {w w' : World} {v : Value} {pg : Int → List Int} (h : StampP S w v pg) (hs : w.heap.size ≤ w'.heap.size) (hb : ∀ b, S b → w'.heap[b]? = w.heap[b]?) : StampP S w' v pg := by
  rcases h with ⟨h1, h2⟩ | ⟨b, f, n, h1, h2, h3, h4⟩
  · exact .inl ⟨h1, h2⟩
  · exact .inr ⟨b, f, n, h1, h2, h3.same (hb b h2), h4.kept hs hb⟩
theorem StampP.mono {S S' : Nat → Prop} {w : World} {v : Value} {pg : Int → List Int} (h : StampP S w v pg) (hS : ∀ b, b < w.heap.size → S b → S' b) : StampP S' w v pg := by
  rcases h with ⟨h1, h2⟩ | ⟨b, f, n, h1, h2, h3, h4⟩
  · exact .inl ⟨h1, h2⟩
  · exact .inr ⟨b, f, n, h1, hS b h3.lt h2, h3, h4.mono hS⟩
theorem StampV.kept {S : Nat → Prop} {w w' : World} {v : Value} {g : Int → Int} (h : StampV S w v g) (hs : w.heap.size ≤ w'.heap.size) (hb : ∀ b, S b → w'.heap[b]? = w.heap[b]?) : StampV S w' v g := by
  obtain ⟨pg, h1, h2⟩ := h; exact ⟨pg, h1, h2.kept hs hb⟩
theorem StampV.mono {S S' : Nat → Prop} {w : World} {v : Value} {g : Int → Int} (h : StampV S w v g) (hS : ∀ b, b < w.heap.size → S b → S' b) : StampV S' w v g := by
  obtain ⟨pg, h1, h2⟩ := h; exact ⟨pg, h1, h2.mono hS⟩
theorem StampV.congr {S : Nat → Prop} {w : World} {v : Value} {g g' : Int → Int} (h : StampV S w v g) (hg : ∀ u, g' u = g u) : StampV S w v g' := by
  obtain ⟨pg, h1, h2⟩ := h; exact ⟨pg, fun u => (hg u).trans (h1 u), h2⟩
theorem stampV_nil (S : Nat → Prop) (w : World) : StampV S w (.map none) (fun _ => 0) := ⟨fun _ => [], fun u => by simp [pageAt], .inl ⟨rfl, fun _ => rfl⟩⟩
theorem StampP.shape {S : Nat → Prop} {w : World} {v : Value} {pg : Int → List Int} (h : StampP S w v pg) : ∃ m, v = .map m := by
  rcases h with ⟨h1, _⟩ | ⟨b, _, _, h1, _⟩
  · exact ⟨_, h1⟩
  · exact ⟨_, h1⟩
theorem StampP.len64 {S : Nat → Prop} {w : World} {v : Value} {pg : Int → List Int} (h : StampP S w v pg) (p : Int) : (pg p).length ≤ 64 := by
  rcases h with ⟨_, h2⟩ | ⟨b, f, n, _, _, _, h4⟩
  · rw [h2 p]; simp
  · obtain ⟨_, _, _, _, h, _⟩ := h4.at p; exact h
/-- What holds in blocks below the heap's end. -/
theorem StampV.any {S : Nat → Prop} {w w' : World} {v : Value} {g : Int → Int} (h : StampV S w v g) (hb : Below w.heap.size w w') : StampV S w' v g := by
  have h1 : StampV (fun b => S b ∧ b < w.heap.size) w v g := h.mono fun b hb hS => ⟨hS, hb⟩
  exact (h1.kept hb.size fun b hS => hb.block b hS.2).mono fun b _ hS => hS.1
theorem StampP.any {S : Nat → Prop} {w w' : World} {v : Value} {pg : Int → List Int} (h : StampP S w v pg) (hb : Below w.heap.size w w') : StampP S w' v pg := by
  have h1 : StampP (fun b => S b ∧ b < w.heap.size) w v pg := h.mono fun b hb hS => ⟨hS, hb⟩
  exact (h1.kept hb.size fun b hS => hb.block b hS.2).mono fun b _ hS => hS.1
theorem PageV.any {S : Nat → Prop} {w w' : World} {v : Value} {zs : List Int} (h : PageV S w v zs) (hb : Below w.heap.size w w') : PageV S w' v zs := by
  have h1 : PageV (fun b => S b ∧ b < w.heap.size) w v zs := h.mono fun b hb hS => ⟨hS, hb⟩
  exact (h1.kept hb.size fun b hS => hb.block b hS.2).mono fun b _ hS => hS.1
theorem Pages.any {S : Nat → Prop} {w w' : World} {f : Int → Option Value} {pg : Int → List Int} (h : Pages S w f pg) (hb : Below w.heap.size w w') : Pages S w' f pg :=
  ⟨fun p v hf => (h.some_ p v hf).any hb, h.none_⟩

theorem page_of (p : Int) (i : Nat) (h : i < 64) : (64 * p + i) / 64 = p ∧ ((64 * p + i) % 64).toNat = i := by omega
theorem pageAt_at (pg : Int → List Int) (p : Int) (i : Nat) (h : i < 64) : pageAt pg (64 * p + i) = (pg p).getD i 0 := by
  unfold pageAt; rw [(page_of p i h).1, (page_of p i h).2]
/-- Nowhere above, page by page. -/
theorem pages_leq {pg pg' : Int → List Int} (h : ∀ p, (pg p).length ≤ 64) (h' : ∀ p, (pg' p).length ≤ 64) : (∀ u, pageAt pg u ≤ pageAt pg' u) ↔ ∀ p, Vec.leq (pg p) (pg' p) = true := by
  constructor
  · intro ha p
    rw [Vec.leq_iff]
    intro i
    by_cases hi : i < 64
    · have := ha (64 * p + i); rwa [pageAt_at _ _ _ hi, pageAt_at _ _ _ hi] at this
    · rw [Vec.getD_past _ _ (by have := h p; omega), Vec.getD_past _ _ (by have := h' p; omega)]; exact Int.le_refl _
  · exact fun ha u => (Vec.leq_iff _ _).1 (ha _) _
theorem tickV_len64 (f : Int → Int) (xs : List Int) (t : Nat) (h : xs.length ≤ 64) (ht : t < 64) : (Vec.tickV f xs t).length ≤ 64 := by
  unfold Vec.tickV
  have h1 := Vec.trim_len (Vec.tickUpto f xs t (Vec.tickLen xs t))
  rw [Vec.tickUpto_len] at h1
  have h2 : Vec.tickLen xs t ≤ 64 := by unfold Vec.tickLen; split <;> omega
  omega
end Go.Proofs.Ytomhdopbbnmcnab
namespace Go.Proofs.Ytomhdopbbnmcnab
open Go.RowKit

set_option maxRecDepth 100000 in
set_option maxHeartbeats 400000 in
theorem pAt_any (a : Option Addr) (n cap : Nat) (zs : List Int) (t : Int) (w : World) (hn : zs.length = n) (hs : Sl w a zs) :
    Calls Try.prog 16 #[.slice a n cap, .int .i64 t] w fun e w' => e = .returned (.int .i64 (Vec.at_ zs t)) ∧ w' = w := by
  by_cases h0 : t < 0
  · go_enter Try.func16, Try.ntmps16
    go_wp2
    go_ret
    exact ⟨ret_int (Vec.at_neg _ _ h0).symm, rfl⟩
  · by_cases h1 : (n : Int) ≤ t
    · go_enter Try.func16, Try.ntmps16
      go_wp2
      go_ret
      exact ⟨ret_int (Vec.at_past _ _ (by omega)).symm, rfl⟩
    · obtain ⟨k, rfl⟩ := Int.eq_ofNat_of_zero_le (by omega : 0 ≤ t)
      obtain ⟨b, off, rfl, hlt, hc⟩ := hs k (by omega)
      go_enter Try.func16, Try.ntmps16
      go_wp2
      go_ret
      exact ⟨ret_int (by rw [Vec.at_nat]; simp), rfl⟩

theorem at_said : AtSaid := fun a n cap xs t w h => (pAt_any a n cap xs t w h.1 h.2.2.2.2.1).mono (by rintro e w' ⟨rfl, rfl⟩; exact ⟨rfl, Below.refl _ _⟩)

set_option maxRecDepth 100000 in
set_option maxHeartbeats 400000 in
/-- trimmed: the zeros at the end are left away; nil, if nothing is left. -/
theorem pTrim_any (a : Option Addr) (n cap : Nat) (xs : List Int) (w : World) (hn : xs.length = n) (hs : Sl w a xs) (hc : n ≤ cap) (hm : cap ≤ 9223372036854775807) :
    Calls Try.prog 44 #[.slice a n cap] w fun e w' => (∃ v, e = .returned v ∧ ((v = .slice none 0 0 ∧ Vec.trim xs = []) ∨ v = .slice a (Vec.trim xs).length cap)) ∧ w' = w := by
  go_enter Try.func44, Try.ntmps44
  go_wp2
  go_loop [3] (fun i => ∃ k : Nat, k ≤ n ∧ i = .int .i64 k ∧ ∀ j, k ≤ j → xs.getD j 0 = 0) (fun i => (intOf i).toNat)
  case atStart => exact ⟨n, Nat.le_refl _, rfl, fun j hj => Vec.getD_past _ _ (by omega)⟩
  case round =>
    obtain ⟨k, hk, rfl, hall⟩ := hrel
    have H := hide hall
    clear hall
    by_cases h0 : k = 0
    · subst h0
      have hres : Hid (Vec.trim xs = xs.take 0) := Vec.trim_eq xs 0 (Nat.zero_le _) H.out (.inl rfl)
      go_wp2
      go_ret
      exact ⟨⟨_, rfl, .inl ⟨rfl, by rw [hres.out]; rfl⟩⟩, rfl⟩
    · obtain ⟨q, rfl⟩ : ∃ q, k = q + 1 := ⟨k - 1, by omega⟩
      obtain ⟨b, off, rfl, hlt, hcell⟩ := hs q (by omega)
      clear h0
      by_cases h1 : xs.getD q 0 = 0
      · have H2 : Hid (∀ j, q ≤ j → xs.getD j 0 = 0) := fun j hj => by
          by_cases e : j = q
          · subst e; exact h1
          · exact H.out j (by omega)
        have hb : (xs[q]?.getD 0 == 0) = true := by rw [← List.getD_eq_getElem?_getD, h1]; rfl
        clear h1
        go_wp2
        go_round
        case rel => exact ⟨q, by omega, by go_num, H2.out⟩
        case measure => simp [intOf]
      · have hres : Hid (Vec.trim xs = xs.take (q + 1)) := Vec.trim_eq xs (q + 1) (by omega) H.out (.inr (by simpa using h1))
        have hb : (xs[q]?.getD 0 == 0) = false := by rw [← List.getD_eq_getElem?_getD]; exact beq_eq_false_iff_ne.2 h1
        have hz : (((q : Int) + 1) == 0) = false := beq_eq_false_iff_ne.2 (by omega)
        clear h1
        go_wp2
        go_ret
        exact ⟨⟨_, rfl, .inr (by rw [hres.out, List.length_take]; simp; omega)⟩, rfl⟩
end Go.Proofs.Ytomhdopbbnmcnab
namespace Go.Proofs.Ytomhdopbbnmcnab
open Go.RowKit Go.Proofs.Ord

theorem i64_and63 (t : Int) : bits .and .i64 t 63 = t % 64 := by
  have h1 : (BitVec.ofInt 64 t &&& BitVec.ofInt 64 63).toNat = (t % 64).toNat := by
    rw [BitVec.toNat_and]
    have e : (BitVec.ofInt 64 63).toNat = 2 ^ 6 - 1 := by decide
    rw [e, Nat.and_two_pow_sub_one_eq_mod, BitVec.toNat_ofInt]
    omega
  show IntKind.i64.wrap ((BitVec.ofInt 64 t &&& BitVec.ofInt 64 63).toNat : Int) = _
  rw [h1, IntKind.wrap_i64]
  omega

set_option maxHeartbeats 400000 in
/-- place: a thread's page, and where on it. -/
theorem place_any (t : Int) (w : World) (ht : In64 t) : Calls Try.prog 88 #[.int .i64 t] w fun e w' => e = .returned (.tuple #[.int .i64 (t / 64), .int .i64 (t % 64)]) ∧ w' = w := by
  have h63 := i64_and63 t
  obtain ⟨h1, h2⟩ := ht
  go_enter Try.func88, Try.ntmps88
  go_wp2
  go_ret2
  have hd : (t - t % 64).tdiv 64 = t / 64 := by
    rw [show t - t % 64 = 64 * (t / 64) from by omega]; exact Int.mul_tdiv_cancel_left _ (by decide)
  refine ⟨?_, rfl⟩
  rw [← hd]
  rfl
end Go.Proofs.Ytomhdopbbnmcnab
namespace Go.Proofs.Ytomhdopbbnmcnab
open Go.RowKit Go.Shelf

attribute [local go_sem] Oper.semAt_some

/-- The numbers of two vectors at k. -/
def two (xs ys : List Int) (k : Nat) : Int × Int := (Vec.at_ xs k, Vec.at_ ys k)
def upto2 (xs ys : List Int) (k : Nat) : List (Int × Int) := (List.range k).map (two xs ys)
theorem upto2_succ (xs ys : List Int) (k : Nat) : upto2 xs ys (k + 1) = upto2 xs ys k ++ [two xs ys k] := by simp [upto2, List.range_succ]
theorem upto2_length (xs ys : List Int) (k : Nat) : (upto2 xs ys k).length = k := by simp [upto2]

theorem abides_drewN {α : Type} {B : Nat} {J : List α → World → Prop} (h : AbidesFrom B J) {s : List α} {W : World} (q : Nat) (hs : J s W) : J s (W.drewN q) :=
  h s W _ none hs ⟨rfl, rfl, rfl, Nat.le_refl _, fun _ _ _ => rfl⟩ (fun r e => by cases e)

/-- What a round keeps: all that lay below n₀, and two boxes. -/
structure Keeps2 (n₀ Ba Bb : Nat) (W W' : World) : Prop where
  below : Below n₀ W W'
  sa : W'.heap[Ba]? = W.heap[Ba]?
  sb : W'.heap[Bb]? = W.heap[Bb]?
theorem Keeps2.refl (n₀ Ba Bb : Nat) (W : World) : Keeps2 n₀ Ba Bb W W := ⟨Below.refl _ _, rfl, rfl⟩
theorem Keeps2.trans {n₀ Ba Bb : Nat} {A B C : World} (h : Keeps2 n₀ Ba Bb A B) (k : Keeps2 n₀ Ba Bb B C) : Keeps2 n₀ Ba Bb A C := ⟨h.below.trans k.below, k.sa.trans h.sa, k.sb.trans h.sb⟩
theorem Keeps2.drewN {n₀ Ba Bb : Nat} {A B : World} (h : Keeps2 n₀ Ba Bb A B) (q : Nat) : Keeps2 n₀ Ba Bb A (B.drewN q) := ⟨h.below.trans ⟨rfl, rfl, rfl, Nat.le_refl _, fun _ _ => rfl⟩, h.sa, h.sb⟩
theorem keeps2_b {n₀ Ba Bb : Nat} {w : World} (hn : n₀ ≤ w.heap.size) (ha : Ba < w.heap.size) (hb : Bb < w.heap.size) (W : World) (l : Nat) (o o' : Obj) (hl : w.heap.size ≤ l) (h : W.heap[l]? = some o) (hc : o.isCells = false) (hw : o.isWalk = false) : Keeps2 n₀ Ba Bb W (W.putObj l o') :=
  ⟨belowK_b hn W l o o' hl h hc hw, World.putObj_heap_other (by omega), World.putObj_heap_other (by omega)⟩

/-- What a vector's numbers lie in is below n₀. -/
def Low (n₀ : Nat) (a : Option Addr) (zs : List Int) : Prop := ∀ b, a = some b → 0 < zs.length → b.block < n₀
theorem SlV.isLow {w : World} {a : Option Addr} {n cap : Nat} {zs : List Int} (h : SlV w a n cap zs) : Low w.heap.size a zs := fun b hb hz => by
  obtain ⟨b', off, ha, hlt, _⟩ := h.2.2.2.2.1 0 hz
  rw [ha] at hb; cases hb; exact hlt

theorem SlV.low {n₀ : Nat} {w w' : World} {a : Option Addr} {n cap : Nat} {zs : List Int} (h : SlV w a n cap zs) (hlow : Low n₀ a zs) (hb : Below n₀ w w') : SlV w' a n cap zs := by
  refine ⟨h.1, h.2.1, h.2.2.1, h.2.2.2.1, fun i hi => ?_, h.2.2.2.2.2⟩
  obtain ⟨b, off, ha, hlt, hc⟩ := h.2.2.2.2.1 i hi
  have hbl := hlow _ ha (by omega)
  exact ⟨b, off, ha, by have := hb.size; omega, (hb.cell (p := ⟨b, off + i, none⟩) hbl).trans hc⟩

set_option maxRecDepth 100000 in
set_option maxHeartbeats 2000000 in
theorem beside1_in (l Ba Bb n₀ : Nat) (a : Option Addr) (n cap : Nat) (xs : List Int) (a' : Option Addr) (n' cap' : Nat) (ys : List Int) (J Jx : List (Int × Int) → World → Prop)
    (W : World) (hJ : AbidesFrom W.heap.size J)
    (hY : ∀ pre x W1, J pre W1 → pre.length < max n n' → YieldAt Fence.wide (3 - 1) Try.prog l #[.int .i64 x.1, .int .i64 x.2] W1 fun e W' =>
      (e = .returned (.bool true) ∧ J (pre ++ [x]) W' ∧ Keeps2 n₀ Ba Bb W1 W') ∨ (e = .returned (.bool false) ∧ Jx (pre ++ [x]) W'))
    (hca : W.cell? ⟨Ba, 0, none⟩ = some (.slice a n cap)) (hcb : W.cell? ⟨Bb, 0, none⟩ = some (.slice a' n' cap'))
    (hs : SlV W a n cap xs) (hs' : SlV W a' n' cap' ys) (hlow : Low n₀ a xs) (hlow' : Low n₀ a' ys) (h0 : J [] W) :
    CallsIn Fence.wide 3 Try.prog 63 #[.func (.yield l) #[] #[], .pointer (some ⟨Ba, 0, none⟩), .pointer (some ⟨Bb, 0, none⟩)] W fun e W' => (∃ v, e = .returned v) ∧
      ((∃ zs, zs = upto2 xs ys (max n n') ∧ J zs W') ∨ (∃ pre, (∃ k, k ≤ max n n' ∧ pre = upto2 xs ys k) ∧ Jx pre W')) := by
  obtain ⟨m, hm, hmn⟩ : ∃ m, m = max n n' ∧ ((n < n' ∧ m = n') ∨ (¬ n < n' ∧ m = n)) := ⟨_, rfl, by omega⟩
  have hbig : m * 8 ≤ 140737488351232 := by have h1 := hs.2.2.2.2.2; have h2 := hs'.2.2.2.2.2; omega
  rw [← hm]
  simp only [← hm] at hY
  clear hm
  have hmix : Try.prog.follows Departure.mixedOrders = true := by kernel_rfl
  rcases hmn with ⟨h, rfl⟩ | ⟨h, rfl⟩
  all_goals
    refine callsIn_of_wp Try.func63 rfl trivial ?_ rfl
    simp only [Try.ntmps63, List.size_toArray, List.length_cons, List.length_nil, Nat.reduceAdd, Nat.reduceSub, Array.replicate_succ, Array.replicate_zero, List.push_toArray, List.append_toArray, List.nil_append, List.cons_append]
    gi_wp2
    gi_loopw [10] (fun i wr => ∃ k : Nat, k ≤ m ∧ i = .int .i64 k ∧ J (upto2 xs ys k) wr ∧ Keeps2 n₀ Ba Bb W wr) (fun i _ => m - (intOf i).toNat)
    case atStart => exact ⟨0, Nat.zero_le _, rfl, h0, Keeps2.refl _ _ _ _⟩
    case round =>
      obtain ⟨k, hk, rfl, hJs, hnx⟩ := hrel
      have hca' := (World.cell?_of_block (w := W) (a := ⟨Ba, 0, none⟩) hnx.sa).trans hca
      have hcb' := (World.cell?_of_block (w := W) (a := ⟨Bb, 0, none⟩) hnx.sb).trans hcb
      have hsr := hs.low hlow hnx.below
      have hsr' := hs'.low hlow' hnx.below
      have hl1 := hsr.1
      have hl2 := hsr'.1
      by_cases hlt : k < m
      · have hY2 : YieldAt Fence.wide (3 - 1) Try.prog l #[.int .i64 (two xs ys k).1, .int .i64 (two xs ys k).2] wr.drew fun e W' => ∃ b, e = .returned (.bool b) ∧ ((b = true ∧ J (upto2 xs ys k ++ [two xs ys k]) W' ∧ Keeps2 n₀ Ba Bb wr.drew W') ∨ (b = false ∧ Jx (upto2 xs ys k ++ [two xs ys k]) W')) :=
          (hY _ (two xs ys k) wr.drew (abides_drewN hJ 1 hJs) (by rw [upto2_length]; exact hlt)).mono fun e W' h => h.elim (fun h => ⟨true, h.1, .inl ⟨rfl, h.2⟩⟩) (fun h => ⟨false, h.1, .inr ⟨rfl, h.2⟩⟩)
        obtain ⟨fn, tmps, assign, body, hy, hR⟩ := hY2
        simp only [two] at hy
        gi_wp2_with fail
        gi_region_with_o (first | (refine hR.mono ?_; rintro e W3 ⟨b, rfl, hp⟩) | (refine ⟨trivial, ?_⟩; gi_at_call 16; refine (callsIn_wide.2 (pAt_any _ _ _ _ _ _ (by assumption) (by first | exact hsr.2.2.2.2.1 | exact hsr'.2.2.2.2.1))).mono ?_; rintro e w' ⟨rfl, rfl⟩))
        all_goals
          rcases hp with ⟨rfl, hJ3, hk3⟩ | ⟨rfl, hJx3⟩
          · gi_wp2
            go_roundw
            case rel => exact ⟨k + 1, by omega, by go_num, by rw [upto2_succ]; exact hJ3, hnx.trans ((Keeps2.refl _ _ _ _).drewN 1 |>.trans hk3)⟩
            case measure => simp [intOf]; omega
          · gi_wp2
            refine bodyPost_ret (results_none rfl _ _ _) rfl ?_
            exact ⟨⟨_, rfl⟩, .inr ⟨_, ⟨k + 1, by omega, (upto2_succ _ _ _).symm⟩, hJx3⟩⟩
      · obtain rfl : k = m := by omega
        gi_wp2
        go_end0
        exact ⟨⟨_, rfl⟩, .inl ⟨_, rfl, hJs⟩⟩

set_option maxHeartbeats 1000000 in
/-- beside: both vectors are boxed; the function value captures the boxes. -/
theorem beside_in (m : Nat) (a : Option Addr) (n cap : Nat) (a' : Option Addr) (n' cap' : Nat) (w : World) :
    CallsIn Fence.wide m Try.prog 43 #[.slice a n cap, .slice a' n' cap'] w fun e w' =>
      e = .returned (.func (.func 63) #[] #[.pointer (some ⟨w.heap.size, 0, none⟩), .pointer (some ⟨w.heap.size + 1, 0, none⟩)]) ∧ w' = (w.alloc (.cells #[.slice a n cap] 22)).alloc (.cells #[.slice a' n' cap'] 22) := by
  refine callsIn_of_wp Try.func43 rfl trivial ?_ rfl
  simp only [Try.ntmps43, List.size_toArray, List.length_cons, List.length_nil, Nat.reduceAdd, Nat.reduceSub, Array.replicate_succ, Array.replicate_zero, List.push_toArray, List.append_toArray, List.nil_append, List.cons_append]
  gi_wp2
  go_ret
  exact ⟨by simp, rfl⟩

theorem beside_stops (Ba Bb n₀ : Nat) (a : Option Addr) (n cap : Nat) (xs : List Int) (a' : Option Addr) (n' cap' : Nat) (ys : List Int) (w : World) (hn₀ : n₀ ≤ w.heap.size) (hBa : Boxed w Ba 22 (.slice a n cap)) (hBb : Boxed w Bb 22 (.slice a' n' cap'))
    (hs : SlV w a n cap xs) (hs' : SlV w a' n' cap' ys) (hlow : Low n₀ a xs) (hlow' : Low n₀ a' ys) :
    SeqStopsK Fence.wide 3 Try.prog 63 #[.pointer (some ⟨Ba, 0, none⟩), .pointer (some ⟨Bb, 0, none⟩)] (fun x : Int × Int => #[Value.int .i64 x.1, Value.int .i64 x.2]) (Keeps2 n₀ Ba Bb) (fun zs => zs = upto2 xs ys (max n n')) (fun pre => ∃ k, k ≤ max n n' ∧ pre = upto2 xs ys k) (max n n') w :=
  fun l J Jx W hW hJ _ hY h0 => beside1_in l Ba Bb n₀ a n cap xs a' n' cap' ys J Jx W hJ hY ((hW.cell (p := ⟨Ba, 0, none⟩) hBa.lt).trans hBa.cell) ((hW.cell (p := ⟨Bb, 0, none⟩) hBb.lt).trans hBb.cell) (hs.low hlow (hW.mono hn₀)) (hs'.low hlow' (hW.mono hn₀)) hlow hlow' h0
end Go.Proofs.Ytomhdopbbnmcnab
namespace Go.Proofs.Ytomhdopbbnmcnab
open Go.RowKit Go.Shelf

attribute [local go_sem] Oper.semAt_some

theorem two_mem {xs ys : List Int} {k : Nat} {p : Int × Int} (h : p ∈ upto2 xs ys k) : ∃ t, t < k ∧ p = (xs.getD t 0, ys.getD t 0) := by
  obtain ⟨t, ht, rfl⟩ := List.mem_map.1 h
  exact ⟨t, List.mem_range.1 ht, by simp [two, Vec.at_nat]⟩
theorem mem_two {xs ys : List Int} {k t : Nat} (h : t < k) : (xs.getD t 0, ys.getD t 0) ∈ upto2 xs ys k :=
  List.mem_map.2 ⟨t, List.mem_range.2 h, by simp [two, Vec.at_nat]⟩

def Every (Q : Int × Int → Prop) (l : List (Int × Int)) : Prop := ∀ p, p ∈ l → Q p
def Any (Q : Int × Int → Prop) (l : List (Int × Int)) : Prop := ∃ p, p ∈ l ∧ Q p
theorem Every.nil (Q : Int × Int → Prop) : Every Q [] := fun _ h => by cases h
theorem Every.snoc {Q : Int × Int → Prop} {l : List (Int × Int)} {x : Int × Int} (h : Every Q l) (hx : Q x) : Every Q (l ++ [x]) := fun p hp => by
  rcases List.mem_append.1 hp with h1 | h1
  · exact h p h1
  · obtain rfl : p = x := by simpa using h1
    exact hx
theorem Any.snoc {Q : Int × Int → Prop} (l : List (Int × Int)) {x : Int × Int} (hx : Q x) : Any Q (l ++ [x]) := ⟨x, by simp, hx⟩

set_option maxRecDepth 100000 in
set_option maxHeartbeats 2000000 in
theorem leq_said : LeqSaid := by
  intro a n cap xs a' n' cap' ys w hs hs'
  refine (callsIn_wide (n := 4)).1 ?_
  refine callsIn_of_wp_marks Try.func18 rfl trivial ?_ rfl
  simp only [Try.ntmps18, List.size_toArray, List.length_cons, List.length_nil, Nat.reduceAdd, Nat.reduceSub, Array.replicate_succ, Array.replicate_zero, List.push_toArray, List.append_toArray, List.nil_append, List.cons_append]
  gi_wp2_with (refine ⟨trivial, ?_⟩; gi_at_call 43; refine (beside_in _ _ _ _ _ _ _ _).mono ?_; rintro e w' ⟨rfl, rfl⟩)
  obtain ⟨W0, hW0⟩ : ∃ W0, ((w.alloc (.cells #[.bool false] 4)).alloc (.cells #[.slice a n cap] 22)).alloc (.cells #[.slice a' n' cap'] 22) = W0 := ⟨_, rfl⟩
  have hs0 : W0.heap.size = w.heap.size + 3 := by rw [← hW0]; simp
  have bR : Boxed W0 w.heap.size 4 (.bool false) := by rw [← hW0]; exact ((Boxed.new w 4 (.bool false)).alloc _).alloc _
  have bA : Boxed W0 (w.heap.size + 1) 22 (.slice a n cap) := by
    rw [← hW0]; have := Boxed.new (w.alloc (.cells #[.bool false] 4)) 22 (.slice a n cap); rw [World.size_alloc] at this; exact this.alloc _
  have bB : Boxed W0 (w.heap.size + 1 + 1) 22 (.slice a' n' cap') := by
    rw [← hW0]; have := Boxed.new ((w.alloc (.cells #[.bool false] 4)).alloc (.cells #[.slice a n cap] 22)) 22 (.slice a' n' cap'); rw [World.size_alloc, World.size_alloc] at this; exact this
  have hBW : Below w.heap.size w W0 := by rw [← hW0]; exact (((Below.refl _ w).alloc (Nat.le_refl _) _).alloc (by simp) _).alloc (by simp; omega) _
  rw [hW0]
  refine wpIn_rangeFunc_ownF rfl (by decide) (gf := 63) (lb := #[.pointer (some ⟨w.heap.size + 1, 0, none⟩), .pointer (some ⟨w.heap.size + 1 + 1, 0, none⟩)]) rfl trivial (enters_of Try.func63 (by kernel_rfl) rfl)
    (beside_stops (w.heap.size + 1) (w.heap.size + 1 + 1) w.heap.size a n cap xs a' n' cap' ys W0 (by omega) bA bB (hs.below hBW) (hs'.below hBW) hs.isLow hs'.isLow) Keeps2.trans (keeps2_b (by omega) (by omega) (by omega)) (Below.refl _ _) (fun _ => rfl)
    (fun pre W => (Every (fun p => p.1 ≤ p.2) pre ∧ Boxed W w.heap.size 4 (.bool false)) ∧ Below w.heap.size w W)
    (fun c pre W => (c = .ret ∧ Any (fun p => p.2 < p.1) pre ∧ Boxed W w.heap.size 4 (.bool false)) ∧ Below w.heap.size w W)
    (OwnFrom.and (Own.from (fun s A B row h hg hr => ⟨h.1, boxed_own w.heap.size 4 (fun _ => .bool false) s A B row h.2 hg hr⟩) _) (ownFrom_below (Nat.le_refl _) (by omega)))
    (fun c => OwnFrom.and (Own.from (fun s A B row h hg hr => ⟨h.1, h.2.1, boxed_own w.heap.size 4 (fun _ => .bool false) s A B row h.2.2 hg hr⟩) _) (ownFrom_below (Nat.le_refl _) (by omega)))
    ⟨⟨Every.nil _, bR⟩, hBW⟩
    (fun x => { tmps := #[.slice a n cap, .slice a' n' cap', undef, undef, .pointer (some ⟨w.heap.size, 0, none⟩), .int .i64 x.1, .int .i64 x.2, .slice a n cap, .slice a' n' cap', .func (.func 63) #[] #[.pointer (some ⟨w.heap.size + 1, 0, none⟩), .pointer (some ⟨w.heap.size + 1 + 1, 0, none⟩)], .int .i64 x.1, .int .i64 x.2, undef, undef, undef], defers := [] }) ?assign ?body ?done ?stop
  case assign =>
    intro l x W K hK
    gi_wp2
    exact hK
  case body =>
    rintro l pre x W ⟨⟨hp, hb⟩, hB⟩ _
    have hc := hb.cell
    have hf := hb.frozen
    by_cases hx : x.2 < x.1
    · have hx' : x.2 < x.1 := hx
      gi_wp2
      exact ⟨KeepsOthers.setCell _ _ _, ⟨rfl, Any.snoc _ hx, hb.set _⟩, hB.setCell (p := ⟨w.heap.size, 0, none⟩) (Nat.le_refl _) _⟩
    · have hx' : x.1 ≤ x.2 := by omega
      gi_wp2
      exact ⟨KeepsOthers.refl _, Keeps2.refl _ _ _ _, ⟨hp.snoc (by omega), hb⟩, hB⟩
  case done =>
    rintro D zs W hD rfl ⟨⟨hall, hb⟩, hB⟩ hK
    have hc := hb.cell
    have hf := hb.frozen
    have hres : Hid (Vec.leq xs ys = true) := Vec.leq_yes fun t ht => hall _ (mem_two (by rw [hs.1, hs'.1] at ht; exact ht))
    clear hall
    gi_wp2
    have hK' := (KeepsOthers.setCell W ⟨w.heap.size, 0, none⟩ (.bool true)).same D _ hK rfl
    refine ⟨by simp, .inl ⟨_, _, rfl, run_takeDeferred hK', ?_⟩⟩
    have hc5 := cell_kept (hb.set (.bool true)).cell (grownBy_putObj' _ D (.deferred none)) (fun r e => by cases e; exact ⟨_, hK', rfl⟩)
    refine ⟨.bool true, ?_, ret_bool hres.out.symm, (hB.setCell (p := ⟨w.heap.size, 0, none⟩) (Nat.le_refl _) _).trans (belowK_b (w := w) (Nat.le_refl _) _ D _ _ (by omega) hK' rfl rfl)⟩
    simp [results, Try.f18, go_sem, hc5]
  case stop =>
    rintro D c pre W hD ⟨k, hk, rfl⟩ ⟨⟨rfl, ⟨p, hp, hlt⟩, hb⟩, hB⟩ hK
    obtain ⟨t, ht, rfl⟩ := two_mem hp
    have hres : Hid (Vec.leq xs ys = false) := Vec.leq_no t hlt
    clear hp hlt
    gi_wp2
    refine ⟨by simp, .inl ⟨_, _, rfl, run_takeDeferred hK, ?_⟩⟩
    have hc5 := cell_kept hb.cell (grownBy_putObj' _ D (.deferred none)) (fun r e => by cases e; exact ⟨_, hK, rfl⟩)
    refine ⟨.bool false, ?_, ret_bool hres.out.symm, hB.trans (belowK_b (w := w) (Nat.le_refl _) W D _ _ (by omega) hK rfl rfl)⟩
    simp [results, Try.f18, go_sem, hc5]

end Go.Proofs.Ytomhdopbbnmcnab
