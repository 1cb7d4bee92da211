import Derived.Test.YtiaedjnedoemoabDoorOrdBase
import Derived.Deep.RegionHeld3
import Derived.Deep.DrawnRows
import Derived.Deep.QuietTactic
import Derived.BigQuiet
namespace Go.Proofs.YtiaedjnedoemoabDoor
open Go.RowKit Go.Proofs.Ord

/-- An event lies here. -/
def EvAt (w : World) (b o : Nat) (e : Ev) : Prop :=
  w.cell? ⟨b, o, none⟩ = some (.int .i64 e.thread) ∧ w.cell? ⟨b, o + 1, none⟩ = some (.int .i64 e.kind) ∧ w.cell? ⟨b, o + 2, none⟩ = some (.int .i64 e.obj) ∧ w.cell? ⟨b, o + 3, none⟩ = some (.int .i64 e.value)
/-- The first cells that a slice leads to hold these events. -/
def EvS (w : World) (a : Option Addr) (l : List Ev) : Prop :=
  ∀ i, i < l.length → ∃ b off, a = some ⟨b, off, none⟩ ∧ b < w.heap.size ∧ EvAt w b (off + i * 4) (Ord.ev l i)
theorem EvAt.below {B : Nat} {w w' : World} {b o : Nat} {e : Ev} (h : EvAt w b o e) (hb : Below B w w') (hlt : b < B) : EvAt w' b o e :=
  ⟨(hb.cell (p := ⟨b, o, none⟩) hlt).trans h.1, (hb.cell (p := ⟨b, o + 1, none⟩) hlt).trans h.2.1, (hb.cell (p := ⟨b, o + 2, none⟩) hlt).trans h.2.2.1, (hb.cell (p := ⟨b, o + 3, none⟩) hlt).trans h.2.2.2⟩
theorem EvS.below {w w' : World} {a : Option Addr} {l : List Ev} (h : EvS w a l) (hb : Below w.heap.size w w') : EvS w' a l := by
  intro i hi
  obtain ⟨b, off, ha, hlt, hc⟩ := h i hi
  exact ⟨b, off, ha, by have := hb.size; omega, hc.below hb hlt⟩
theorem EvS.at {w w' : World} {b off : Nat} {l : List Ev} (h : EvS w (some ⟨b, off, none⟩) l) (hb : Below w.heap.size w w') {i : Nat} (hi : i < l.length) :
    ∃ t k o v, Hid (Ord.ev l i = ⟨t, k, o, v⟩) ∧ w'.cell? ⟨b, off + i * 4, none⟩ = some (.int .i64 t) ∧ w'.cell? ⟨b, off + i * 4 + 1, none⟩ = some (.int .i64 k) ∧ w'.cell? ⟨b, off + i * 4 + 2, none⟩ = some (.int .i64 o) ∧ w'.cell? ⟨b, off + i * 4 + 3, none⟩ = some (.int .i64 v) := by
  obtain ⟨b', off', e, hlt, hc⟩ := h i hi
  cases e
  have h2 := hc.below hb hlt
  exact ⟨_, _, _, _, o_hide rfl, h2.1, h2.2.1, h2.2.2.1, h2.2.2.2⟩
theorem o_drewN {B : Nat} {w0 w : World} (h : Below B w0 w) (n : Nat) : Below B w0 (w.drewN n) := h.trans ⟨rfl, rfl, rfl, Nat.le_refl _, fun _ _ => rfl⟩
theorem Tryd.infob : (Tryd.prog.info? 4).map (fun i => (i.zero, i.size, i.bytes)) = some (some (.bool false), 1, 1) := by kernel_rfl
theorem bcell {W w1 : World} (hb : Below W.heap.size W w1) : (∀ b o, b < W.heap.size → w1.cell? ⟨b, o, none⟩ = W.cell? ⟨b, o, none⟩) ∧ (∀ b o, b < W.heap.size → w1.frozen? ⟨b, o, none⟩ = W.frozen? ⟨b, o, none⟩) :=
  ⟨fun b o h => hb.cell (p := ⟨b, o, none⟩) h, fun b o h => hb.frozen (p := ⟨b, o, none⟩) h⟩
/-- What a row of truths is, told by a function: what is owned is n cells. -/
def Tells (w : World) (B g : Nat) (n : Nat) (f : Nat → Bool) : Prop :=
  w.ownsRow B 4 1 (.slice (some ⟨g, 0, none⟩) n n) n ((List.range n).map fun q => Value.bool (f q))
theorem Tells.cell {w : World} {B g n : Nat} {f : Nat → Bool} (h : Tells w B g n f) {j : Nat} (hj : j < n) : w.cell? ⟨g, j, none⟩ = some (.bool (f j)) := by
  rw [World.ownsRow.cellAt h j (by omega)]; simp [hj]
theorem Tells.frozen {w : World} {B g n : Nat} {f : Nat → Bool} (h : Tells w B g n f) (j : Nat) : w.frozen? ⟨g, j, none⟩ = false := World.ownsRow.frozenAt h j
theorem ownsRow_below {B base e size n : Nat} {w w' : World} {v : Value} {xs : List Value} (h : w.ownsRow base e size v n xs) (hb : Below B w w') (hB : ∀ g, v.ownBlock = some g → g < B) : w'.ownsRow base e size v n xs := by
  refine ⟨h.1, ?_⟩
  rcases h.2 with hn | ⟨g, cap, cur, rfl, h1, hgg, rest⟩
  · exact .inl hn
  · refine .inr ⟨g, cap, cur, rfl, h1, ?_, rest⟩
    rw [hb.block g (hB g rfl)]; exact hgg
theorem Tells.below {B B' g n : Nat} {f : Nat → Bool} {w w' : World} (h : Tells w B g n f) (hb : Below B' w w') (hB : g < B') : Tells w' B g n f :=
  ownsRow_below h hb (fun q e => by simp [Value.ownBlock] at e; omega)
theorem Tells.congr {B g n : Nat} {f f' : Nat → Bool} {w : World} (h : Tells w B g n f) (e : ∀ q, q < n → f q = f' q) : Tells w B g n f' := by
  unfold Tells at *
  have : ((List.range n).map fun q => Value.bool (f q)) = (List.range n).map fun q => Value.bool (f' q) := by
    apply List.map_congr_left
    intro q hq
    rw [e q (List.mem_range.1 hq)]
  rw [← this]; exact h
theorem Tells.stored {B g n : Nat} {f : Nat → Bool} {w : World} (h : Tells w B g n f) (j : Nat) (x : Bool) : Tells (w.setCell ⟨g, j, none⟩ (.bool x)) B g n (fun q => if q = j then x else f q) := by
  have h1 := (World.ownsRow.stored h j (.bool x)).1
  unfold Tells
  have e : ((List.range n).map fun q => Value.bool (if q = j then x else f q)) = ((List.range n).map fun q => Value.bool (f q)).set j (.bool x) := by
    apply List.ext_getElem?
    intro q
    rw [List.getElem?_set]
    by_cases hq : q < n
    · by_cases e : j = q
      · subst e; simp [hq]
      · have e' : ¬ q = j := fun h => e h.symm
        simp [hq, e, e']
    · simp [hq]
      intro e; omega
  rw [e]; exact h1
end Go.Proofs.YtiaedjnedoemoabDoor
