import Derived.Test.YtohnhfopigjpmaaDoorOrdLaw
import Derived.Test.YtohnhfopigjpmaaDoorRows
import Derived.Deep.Slices
import Derived.Lib.SmallJoins
import Derived.OpenShut
namespace Go.Proofs.YtohnhfopigjpmaaDoor
open Go.RowKit Go.Proofs.Ord Go.ChangeShapes Go.WideShapes Go.Deep

theorem Tryd.cellsEv : Tryd.prog.cellsOf 37 = 4 := by kernel_rfl

theorem Tryd.cellsI : Tryd.prog.cellsOf 3 = 1 := by kernel_rfl

theorem list4 {α : Type} {l : List α} (h : l.length = 4) : ∃ c0 c1 c2 c3, l = [c0, c1, c2, c3] := by
  match l, h with
  | [c0, c1, c2, c3], _ => exact ⟨c0, c1, c2, c3, rfl⟩

theorem choose_ev {n : Nat} {p : Nat → Ev → Prop} (h : ∀ i, i < n → ∃ x, p i x) : ∃ f : Nat → Ev, ∀ i, i < n → p i (f i) := by
  refine ⟨fun i => if hi : i < n then Classical.choose (h i hi) else Ev.zero, fun i hi => ?_⟩
  simp only [dif_pos hi]
  exact Classical.choose_spec (h i hi)

theorem spot_of_cells {w : World} {base : Nat} {a : Addr} {x : Value} {xs : List Value} (h : w.cells? base (a.add (0 * 4)) 4 = some (x :: xs)) : a.spot = none := by
  have h0 := (World.cells?_some h).2.2 0 (by omega)
  obtain ⟨b, off, spot⟩ := a
  have h1 : w.cell? ⟨b, off, spot⟩ = some x := by simpa [Addr.add] using h0
  exact World.cell?_spot h1

theorem evAt_of_cells {w : World} {base b off i : Nat} {e : Ev} (h : w.cells? base ((⟨b, off, none⟩ : Addr).add (i * 4)) 4 = some [.int .i64 e.thread, .int .i64 e.kind, .int .i64 e.obj, .int .i64 e.value]) : b < w.heap.size ∧ EvAt w b (off + i * 4) e := by
  have hall : ∀ j, j < 4 → w.cell? (((⟨b, off, none⟩ : Addr).add (i * 4)).add j) = [Value.int .i64 e.thread, .int .i64 e.kind, .int .i64 e.obj, .int .i64 e.value][j]? := (World.cells?_some h).2.2
  have e0 : ∀ k, (⟨b, off, none⟩ : Addr).add k = ⟨b, off + k, none⟩ := fun k => by unfold Addr.add; split <;> simp_all
  have e1 : ∀ j, ((⟨b, off, none⟩ : Addr).add (i * 4)).add j = ⟨b, off + i * 4 + j, none⟩ := fun j => by rw [add_add, e0, Nat.add_assoc]
  have h0 := hall 0 (by omega)
  have h1 := hall 1 (by omega)
  have h2 := hall 2 (by omega)
  have h3 := hall 3 (by omega)
  rw [e1] at h0 h1 h2 h3
  exact ⟨World.block_lt_of_cell? w ⟨b, off + i * 4 + 0, none⟩ h0, h0, h1, h2, h3⟩

section
variable {H : Type} {enc : TypeId × Value → H} {w : World} {base : Nat} {spare : Nat → Bool} {held : Bool}

/-- Four cells that read as an event are four numbers. -/
theorem open_event {fuel : Nat} {cs : List Value} {x : DataW H × List MemPlace} (h : DataW.trod enc Tryd.prog w base spare held fuel 37 cs = some x) :
    ∃ e : Ev, cs = [.int .i64 e.thread, .int .i64 e.kind, .int .i64 e.obj, .int .i64 e.value] ∧ x.1 = .agg [.lit (.int .i64 e.thread), .lit (.int .i64 e.kind), .lit (.int .i64 e.obj), .lit (.int .i64 e.value)] := by
  obtain ⟨y0, y1, y2, y3, n, hx, hlen, h0, h1, h2, h3⟩ := Go.Joins.trod_struct4 Tryd.underlying37 h
  rw [Tryd.cellsEv] at hlen
  obtain ⟨c0, c1, c2, c3, rfl⟩ := list4 hlen
  obtain ⟨t, e0, f0, _⟩ := DataW.trod_int Tryd.underlying3 h0
  obtain ⟨k, e1, f1, _⟩ := DataW.trod_int Tryd.underlying3 h1
  obtain ⟨o, e2, f2, _⟩ := DataW.trod_int Tryd.underlying3 h2
  obtain ⟨v, e3, f3, _⟩ := DataW.trod_int Tryd.underlying3 h3
  simp [Tryd.cellsI] at e0 e1 e2 e3
  subst e0 e1 e2 e3
  refine ⟨⟨t, k, o, v⟩, rfl, ?_⟩
  rw [hx, f0, f1, f2, f3]

/-- A slice that reads as events: its cells are. -/
theorem open_events {fuel : Nat} {a : Option Addr} {len cap : Nat} {x : DataW H × List MemPlace} (h : DataW.trod enc Tryd.prog w base spare held fuel 22 [.slice a len cap] = some x) :
    ∃ l : List Ev, l.length = len ∧ EvS w a l ∧ len ≤ cap ∧ cap ≤ maxLen ∧ (a = none → len = 0 ∧ cap = 0) ∧ ((x.1 = .nil ∧ len = 0) ∨ ∃ sp, x.1 = .slice (l.map fun e => .agg [.lit (.int .i64 e.thread), .lit (.int .i64 e.kind), .lit (.int .i64 e.obj), .lit (.int .i64 e.value)]) sp) := by
  rcases open_slice Tryd.underlying22 h with ⟨hcs, hx⟩ | ⟨x', len', cap', m, n, D, Pl, hcs, _, hl, hm, hmm, hx, hel⟩
  · simp at hcs
    obtain ⟨rfl, rfl, rfl⟩ := hcs
    exact ⟨[], rfl, fun i hi => absurd hi (by simp), Nat.le_refl _, by unfold maxLen; omega, fun _ => ⟨rfl, rfl⟩, .inl ⟨by rw [hx], rfl⟩⟩
  · simp at hcs
    obtain ⟨rfl, rfl, rfl⟩ := hcs
    have hlm : len ≤ m := by rw [hmm]; split <;> omega
    have hall : ∀ i, i < len → ∃ e : Ev, w.cells? base (x'.add (i * 4)) 4 = some [.int .i64 e.thread, .int .i64 e.kind, .int .i64 e.obj, .int .i64 e.value] ∧ D i = .agg [.lit (.int .i64 e.thread), .lit (.int .i64 e.kind), .lit (.int .i64 e.obj), .lit (.int .i64 e.value)] := by
      intro i hi
      obtain ⟨cs', h1, h2⟩ := hel i (by omega)
      rw [Tryd.cellsEv] at h1
      obtain ⟨e, rfl, h3⟩ := open_event h2
      exact ⟨e, h1, h3⟩
    obtain ⟨f, hf⟩ := choose_ev hall
    refine ⟨(List.range len).map f, by simp, ?_, hl, hm, (fun e => by cases e), .inr ⟨(List.range (m - len)).map fun j => D (len + j), ?_⟩⟩
    · intro i hi
      simp at hi
      have hfi := (hf i hi).1
      have e' : ((List.range len).map f).getD i Ev.zero = f i := by simp [hi]
      have hspot := spot_of_cells (hf 0 (by omega)).1
      obtain ⟨b, off, spot⟩ := x'
      simp only at hspot
      subst hspot
      obtain ⟨h1, h2⟩ := evAt_of_cells hfi
      refine ⟨b, off, rfl, h1, ?_⟩
      rw [show Ord.ev ((List.range len).map f) i = f i from e']
      exact h2
    · rw [hx, List.map_map]
      have e : (List.range len).map D = (List.range len).map ((fun e : Ev => DataW.agg (H := H) [.lit (.int .i64 e.thread), .lit (.int .i64 e.kind), .lit (.int .i64 e.obj), .lit (.int .i64 e.value)]) ∘ f) := by
        apply List.map_congr_left
        intro q hq
        exact (hf q (List.mem_range.1 hq)).2
      rw [e]
end
end Go.Proofs.YtohnhfopigjpmaaDoor
