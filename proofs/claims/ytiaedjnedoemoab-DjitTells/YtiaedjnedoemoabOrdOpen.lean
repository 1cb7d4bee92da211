import Derived.Test.YtiaedjnedoemoabOrdLaw
import Derived.Test.YtiaedjnedoemoabRows
import Derived.Deep.Slices
import Derived.Lib.SmallJoins
import Derived.OpenShut
namespace Go.Proofs.Ytiaedjnedoemoab
open Go.RowKit Go.Proofs.Ord Go.ChangeShapes Go.WideShapes Go.Deep

theorem Try.cellsEv : Try.prog.cellsOf 45 = 4 := by kernel_rfl

theorem Try.cellsI : Try.prog.cellsOf 3 = 1 := by kernel_rfl

theorem list4 {α : Type} {l : List α} (h : l.length = 4) : ∃ c0 c1 c2 c3, l = [c0, c1, c2, c3] := by
  match l, h with
  | [c0, c1, c2, c3], _ => exact ⟨c0, c1, c2, c3, rfl⟩

theorem choose_ev {n : Nat} {p : Nat → Ev → Prop} (h : ∀ i, i < n → ∃ x, p i x) : ∃ f : Nat → Ev, ∀ i, i < n → p i (f i) := by
  refine ⟨fun i => if hi : i < n then Classical.choose (h i hi) else Ev.zero, fun i hi => ?_⟩
  simp only [dif_pos hi]
  exact Classical.choose_spec (h i hi)

theorem spot_of_cells {w : World} {base : Nat} {a : Addr} {x : Value} {xs : List Value} (h : w.cells? base (a.add (0 * 4)) 4 = some (x :: xs)) : a.spot = none := by
  have h0 := (World.cells?_some h).2.2 0 (by omega)
  obtain ⟨b, off, spot⟩ := a
  have h1 : w.cell? ⟨b, off, spot⟩ = some x := by simpa [Addr.add] using h0
  exact World.cell?_spot h1

theorem evAt_of_cells {w : World} {base b off i : Nat} {e : Ev} (h : w.cells? base ((⟨b, off, none⟩ : Addr).add (i * 4)) 4 = some [.int .i64 e.thread, .int .i64 e.kind, .int .i64 e.obj, .int .i64 e.value]) : b < w.heap.size ∧ EvAt w b (off + i * 4) e := by
  have hall : ∀ j, j < 4 → w.cell? (((⟨b, off, none⟩ : Addr).add (i * 4)).add j) = [Value.int .i64 e.thread, .int .i64 e.kind, .int .i64 e.obj, .int .i64 e.value][j]? := (World.cells?_some h).2.2
  have e0 : ∀ k, (⟨b, off, none⟩ : Addr).add k = ⟨b, off + k, none⟩ := fun k => by unfold Addr.add; split <;> simp_all
  have e1 : ∀ j, ((⟨b, off, none⟩ : Addr).add (i * 4)).add j = ⟨b, off + i * 4 + j, none⟩ := fun j => by rw [add_add, e0, Nat.add_assoc]
  have h0 := hall 0 (by omega)
  have h1 := hall 1 (by omega)
  have h2 := hall 2 (by omega)
  have h3 := hall 3 (by omega)
  rw [e1] at h0 h1 h2 h3
  exact ⟨World.block_lt_of_cell? w ⟨b, off + i * 4 + 0, none⟩ h0, h0, h1, h2, h3⟩

section
variable {H : Type} {enc : TypeId × Value → H} {w : World} {base : Nat} {spare : Nat → Bool} {held : Bool}

theorem wf_range {t : Int} (h : (Lit.int .i64 t).wf = true) : -9223372036854775808 ≤ t ∧ t ≤ 9223372036854775807 := by
  simp [Lit.wf, IntKind.min, IntKind.max, IntKind.bits, IntKind.signed] at h
  omega

/-- Four cells that read as an event are four numbers. -/
theorem open_event {fuel : Nat} {cs : List Value} {x : DataW H × List MemPlace} (h : DataW.trod enc Try.prog w base spare held fuel 45 cs = some x) :
    ∃ e : Ev, cs = [.int .i64 e.thread, .int .i64 e.kind, .int .i64 e.obj, .int .i64 e.value] ∧ x.1 = .agg [.lit (.int .i64 e.thread), .lit (.int .i64 e.kind), .lit (.int .i64 e.obj), .lit (.int .i64 e.value)] ∧ -9223372036854775808 ≤ e.thread ∧ e.thread ≤ 9223372036854775807 := by
  obtain ⟨y0, y1, y2, y3, n, hx, hlen, h0, h1, h2, h3⟩ := Go.Joins.trod_struct4 Try.underlying45 h
  rw [Try.cellsEv] at hlen
  obtain ⟨c0, c1, c2, c3, rfl⟩ := list4 hlen
  obtain ⟨t, e0, f0, hwf⟩ := DataW.trod_int Try.underlying3 h0
  obtain ⟨k, e1, f1, _⟩ := DataW.trod_int Try.underlying3 h1
  obtain ⟨o, e2, f2, _⟩ := DataW.trod_int Try.underlying3 h2
  obtain ⟨v, e3, f3, _⟩ := DataW.trod_int Try.underlying3 h3
  simp [Try.cellsI] at e0 e1 e2 e3
  subst e0 e1 e2 e3
  refine ⟨⟨t, k, o, v⟩, rfl, by rw [hx, f0, f1, f2, f3], ?_⟩
  have hr := wf_range hwf
  exact hr

/-- A slice that reads as events: its cells are. -/
theorem open_events_r {fuel : Nat} {a : Option Addr} {len cap : Nat} {x : DataW H × List MemPlace} (h : DataW.trod enc Try.prog w base spare held fuel 31 [.slice a len cap] = some x) :
    ∃ l : List Ev, l.length = len ∧ EvS w a l ∧ len ≤ cap ∧ cap ≤ maxLen ∧ (a = none → len = 0 ∧ cap = 0) ∧ ((x.1 = .nil ∧ len = 0) ∨ ∃ sp, x.1 = .slice (l.map fun e => .agg [.lit (.int .i64 e.thread), .lit (.int .i64 e.kind), .lit (.int .i64 e.obj), .lit (.int .i64 e.value)]) sp) ∧ ∀ i, i < l.length → -9223372036854775808 ≤ (ev l i).thread ∧ (ev l i).thread ≤ 9223372036854775807 := by
  rcases open_slice Try.underlying31 h with ⟨hcs, hx⟩ | ⟨x', len', cap', m, n, D, Pl, hcs, _, hl, hm, hmm, hx, hel⟩
  · simp at hcs
    obtain ⟨rfl, rfl, rfl⟩ := hcs
    exact ⟨[], rfl, fun i hi => absurd hi (by simp), Nat.le_refl _, by unfold maxLen; omega, fun _ => ⟨rfl, rfl⟩, .inl ⟨by rw [hx], rfl⟩, fun i hi => absurd hi (by simp)⟩
  · simp at hcs
    obtain ⟨rfl, rfl, rfl⟩ := hcs
    have hlm : len ≤ m := by rw [hmm]; split <;> omega
    have hall : ∀ i, i < len → ∃ e : Ev, w.cells? base (x'.add (i * 4)) 4 = some [.int .i64 e.thread, .int .i64 e.kind, .int .i64 e.obj, .int .i64 e.value] ∧ D i = .agg [.lit (.int .i64 e.thread), .lit (.int .i64 e.kind), .lit (.int .i64 e.obj), .lit (.int .i64 e.value)] ∧ -9223372036854775808 ≤ e.thread ∧ e.thread ≤ 9223372036854775807 := by
      intro i hi
      obtain ⟨cs', h1, h2⟩ := hel i (by omega)
      rw [Try.cellsEv] at h1
      obtain ⟨e, rfl, h3, h4⟩ := open_event h2
      exact ⟨e, h1, h3, h4⟩
    obtain ⟨f, hf⟩ := choose_ev hall
    refine ⟨(List.range len).map f, by simp, ?_, hl, hm, (fun e => by cases e), .inr ⟨(List.range (m - len)).map fun j => D (len + j), ?_⟩, ?_⟩
    · intro i hi
      simp at hi
      have hfi := (hf i hi).1
      have e' : ((List.range len).map f).getD i Ev.zero = f i := by simp [hi]
      have hspot := spot_of_cells (hf 0 (by omega)).1
      obtain ⟨b, off, spot⟩ := x'
      simp only at hspot
      subst hspot
      obtain ⟨h1, h2⟩ := evAt_of_cells hfi
      refine ⟨b, off, rfl, h1, ?_⟩
      rw [show Ord.ev ((List.range len).map f) i = f i from e']
      exact h2
    · rw [hx, List.map_map]
      have e : (List.range len).map D = (List.range len).map ((fun e : Ev => DataW.agg (H := H) [.lit (.int .i64 e.thread), .lit (.int .i64 e.kind), .lit (.int .i64 e.obj), .lit (.int .i64 e.value)]) ∘ f) := by
        apply List.map_congr_left
        intro q hq
        exact (hf q (List.mem_range.1 hq)).2.1
      rw [e]
    · intro i hi
      simp at hi
      have e' : Ord.ev ((List.range len).map f) i = f i := by simp [Ord.ev, hi]
      rw [e']
      exact (hf i hi).2.2
theorem open_events {fuel : Nat} {a : Option Addr} {len cap : Nat} {x : DataW H × List MemPlace} (h : DataW.trod enc Try.prog w base spare held fuel 31 [.slice a len cap] = some x) :
    ∃ l : List Ev, l.length = len ∧ EvS w a l ∧ len ≤ cap ∧ cap ≤ maxLen ∧ (a = none → len = 0 ∧ cap = 0) ∧ ((x.1 = .nil ∧ len = 0) ∨ ∃ sp, x.1 = .slice (l.map fun e => .agg [.lit (.int .i64 e.thread), .lit (.int .i64 e.kind), .lit (.int .i64 e.obj), .lit (.int .i64 e.value)]) sp) := by
  obtain ⟨l, h1, h2, h3, h4, h5, h6, _⟩ := open_events_r h
  exact ⟨l, h1, h2, h3, h4, h5, h6⟩
end
end Go.Proofs.Ytiaedjnedoemoab
