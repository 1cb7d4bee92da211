import Derived.Test.YtomhdopbbnmcnabFb12
import Derived.Test.YtomhdopbbnmcnabFb13
import Derived.Test.YtomhdopbbnmcnabRows
import Derived.Deep.Slices
import Derived.Lib.SmallJoins
import Derived.OpenShut
import Derived.ProofKit
import Derived.SizedLaws
import Derived.ShutString
import Derived.ChangeOld
import Derived.JoinedCond
import Derived.Test.YtomhdopbbnmcnabFb2
import Derived.Test.YtomhdopbbnmcnabFb5
import Derived.Test.YtomhdopbbnmcnabFb0
import Derived.Deep.RegionHeld3
import Derived.Deep.DrawnRows
import Derived.Deep.QuietTactic
import Derived.BigQuiet
namespace Go.Proofs.Ytomhdopbbnmcnab
open Go.RowKit Go.Proofs.Ord

/-- What stands in memory when a detector has seen these events. -/
def DetOf (w : World) (F : Nat → Prop) (p : Addr) (l : List Ev) : Prop :=
  ∃ tag bd bf bk br S K R T, p = ⟨bd, 0, none⟩ ∧ (∀ b, F b ↔ tag b ≠ .o) ∧ DetW w tag bd bf bk br S K R T (ev l) l.length l.length
theorem ev_same (l : List Ev) (x : Ev) : (∀ q, q < l.length → ev l q = ev (l ++ [x]) q) ∧ ev (l ++ [x]) l.length = x := by
  refine ⟨fun q hq => ?_, ?_⟩
  · unfold ev
    rw [List.getD_eq_getElem?_getD, List.getD_eq_getElem?_getD, List.getElem?_append_left hq]
  · simp [ev]

theorem det_said : DetSaid DetOf where
  own := by
    rintro w w' F p l ⟨tag, bd, bf, bk, br, S, K, R, T, rfl, hF, hD⟩ hb hs _ _ _
    exact ⟨tag, bd, bf, bk, br, S, K, R, T, rfl, hF, hD.own (fun b e => hb b ((hF b).2 e)) hs⟩
  lt := by
    rintro w F p l ⟨tag, bd, bf, bk, br, S, K, R, T, rfl, hF, hD⟩ b hb
    exact hD.tlt b ((hF b).1 hb)
  new := by
    intro w
    refine (newF_any w (ev [])).mono ?_
    rintro e w' ⟨rfl, hD, hb⟩
    exact ⟨_, fun b => tag0 w.heap.size b ≠ .o, rfl, ⟨_, _, _, _, _, _, _, _, _, rfl, fun _ => Iff.rfl, hD⟩, fun b hb => (tag0_new hb).1, hb⟩
  see := by
    rintro w F p l ⟨t, kd, o, v⟩ ⟨tag, bd, bf, bk, br, S, K, R, T, rfl, hF, hD⟩ hl ht ho
    obtain ⟨h1, h2⟩ := ev_same l ⟨t, kd, o, v⟩
    refine (see_any t kd o v w (hD.sameL h1) h2 ht ho hl).mono ?_
    rintro e w' ⟨rfl, tag', S', K', R', T', hD', h3, h4⟩
    refine ⟨fun b => tag' b ≠ .o, rfl, ⟨tag', bd, bf, bk, br, S', K', R', T', rfl, fun _ => Iff.rfl, ?_⟩, fun b hb hn => (hF b).2 (h3 b hb hn), ⟨h4.os, h4.tape, h4.output, h4.size, fun b hb hn => h4.block b hb (fun e => hn ((hF b).2 e))⟩⟩
    rw [List.length_append]
    exact hD'
  racy := by
    rintro w F p l ⟨tag, bd, bf, bk, br, S, K, R, T, rfl, hF, hD⟩ hl
    exact racyF_any w hD hl
theorem fast_said : FastSaid := ⟨DetOf, det_said⟩
theorem first_said : FirstSaid := fun a n cap l obj w hn hs _ _ hb hr => firstF_any a n cap l obj w hn hs hb hr
end Go.Proofs.Ytomhdopbbnmcnab
namespace Go.Proofs.Ytomhdopbbnmcnab
open Go.RowKit Go.Proofs.Ord Go.ChangeShapes Go.WideShapes Go.Deep

theorem Try.cellsEv : Try.prog.cellsOf 45 = 4 := by kernel_rfl

theorem Try.cellsI : Try.prog.cellsOf 3 = 1 := by kernel_rfl

theorem list4 {α : Type} {l : List α} (h : l.length = 4) : ∃ c0 c1 c2 c3, l = [c0, c1, c2, c3] := by
  match l, h with
  | [c0, c1, c2, c3], _ => exact ⟨c0, c1, c2, c3, rfl⟩

theorem choose_ev {n : Nat} {p : Nat → Ev → Prop} (h : ∀ i, i < n → ∃ x, p i x) : ∃ f : Nat → Ev, ∀ i, i < n → p i (f i) := by
  refine ⟨fun i => if hi : i < n then Classical.choose (h i hi) else Ev.zero, fun i hi => ?_⟩
  simp only [dif_pos hi]
  exact Classical.choose_spec (h i hi)

theorem spot_of_cells {w : World} {base : Nat} {a : Addr} {x : Value} {xs : List Value} (h : w.cells? base (a.add (0 * 4)) 4 = some (x :: xs)) : a.spot = none := by
  have h0 := (World.cells?_some h).2.2 0 (by omega)
  obtain ⟨b, off, spot⟩ := a
  have h1 : w.cell? ⟨b, off, spot⟩ = some x := by simpa [Addr.add] using h0
  exact World.cell?_spot h1

theorem evAt_of_cells {w : World} {base b off i : Nat} {e : Ev} (h : w.cells? base ((⟨b, off, none⟩ : Addr).add (i * 4)) 4 = some [.int .i64 e.thread, .int .i64 e.kind, .int .i64 e.obj, .int .i64 e.value]) : b < w.heap.size ∧ EvAt w b (off + i * 4) e := by
  have hall : ∀ j, j < 4 → w.cell? (((⟨b, off, none⟩ : Addr).add (i * 4)).add j) = [Value.int .i64 e.thread, .int .i64 e.kind, .int .i64 e.obj, .int .i64 e.value][j]? := (World.cells?_some h).2.2
  have e0 : ∀ k, (⟨b, off, none⟩ : Addr).add k = ⟨b, off + k, none⟩ := fun k => by unfold Addr.add; split <;> simp_all
  have e1 : ∀ j, ((⟨b, off, none⟩ : Addr).add (i * 4)).add j = ⟨b, off + i * 4 + j, none⟩ := fun j => by rw [add_add, e0, Nat.add_assoc]
  have h0 := hall 0 (by omega)
  have h1 := hall 1 (by omega)
  have h2 := hall 2 (by omega)
  have h3 := hall 3 (by omega)
  rw [e1] at h0 h1 h2 h3
  exact ⟨World.block_lt_of_cell? w ⟨b, off + i * 4 + 0, none⟩ h0, h0, h1, h2, h3⟩

section
variable {H : Type} {enc : TypeId × Value → H} {w : World} {base : Nat} {spare : Nat → Bool} {held : Bool}

theorem wf_range {t : Int} (h : (Lit.int .i64 t).wf = true) : -9223372036854775808 ≤ t ∧ t ≤ 9223372036854775807 := by
  simp [Lit.wf, IntKind.min, IntKind.max, IntKind.bits, IntKind.signed] at h
  omega

/-- Four cells that read as an event are four numbers. -/
theorem open_event {fuel : Nat} {cs : List Value} {x : DataW H × List MemPlace} (h : DataW.trod enc Try.prog w base spare held fuel 45 cs = some x) :
    ∃ e : Ev, cs = [.int .i64 e.thread, .int .i64 e.kind, .int .i64 e.obj, .int .i64 e.value] ∧ x.1 = .agg [.lit (.int .i64 e.thread), .lit (.int .i64 e.kind), .lit (.int .i64 e.obj), .lit (.int .i64 e.value)] ∧ (-9223372036854775808 ≤ e.thread ∧ e.thread ≤ 9223372036854775807) ∧ -9223372036854775808 ≤ e.obj ∧ e.obj ≤ 9223372036854775807 := by
  obtain ⟨y0, y1, y2, y3, n, hx, hlen, h0, h1, h2, h3⟩ := Go.Joins.trod_struct4 Try.underlying45 h
  rw [Try.cellsEv] at hlen
  obtain ⟨c0, c1, c2, c3, rfl⟩ := list4 hlen
  obtain ⟨t, e0, f0, hwf⟩ := DataW.trod_int Try.underlying3 h0
  obtain ⟨k, e1, f1, _⟩ := DataW.trod_int Try.underlying3 h1
  obtain ⟨o, e2, f2, hwo⟩ := DataW.trod_int Try.underlying3 h2
  obtain ⟨v, e3, f3, _⟩ := DataW.trod_int Try.underlying3 h3
  simp [Try.cellsI] at e0 e1 e2 e3
  subst e0 e1 e2 e3
  refine ⟨⟨t, k, o, v⟩, rfl, by rw [hx, f0, f1, f2, f3], ?_⟩
  exact ⟨wf_range hwf, wf_range hwo⟩

/-- A slice that reads as events: its cells are. -/
theorem open_events_f {fuel : Nat} {a : Option Addr} {len cap : Nat} {x : DataW H × List MemPlace} (h : DataW.trod enc Try.prog w base spare held fuel 31 [.slice a len cap] = some x) :
    ∃ l : List Ev, l.length = len ∧ EvS w a l ∧ len ≤ cap ∧ cap ≤ maxLen ∧ (a = none → len = 0 ∧ cap = 0) ∧ ((x.1 = .nil ∧ len = 0) ∨ ∃ sp, x.1 = .slice (l.map fun e => .agg [.lit (.int .i64 e.thread), .lit (.int .i64 e.kind), .lit (.int .i64 e.obj), .lit (.int .i64 e.value)]) sp) ∧ ∀ i, i < l.length → (-9223372036854775808 ≤ (ev l i).thread ∧ (ev l i).thread ≤ 9223372036854775807) ∧ -9223372036854775808 ≤ (ev l i).obj ∧ (ev l i).obj ≤ 9223372036854775807 := by
  rcases open_slice Try.underlying31 h with ⟨hcs, hx⟩ | ⟨x', len', cap', m, n, D, Pl, hcs, _, hl, hm, hmm, hx, hel⟩
  · simp at hcs
    obtain ⟨rfl, rfl, rfl⟩ := hcs
    exact ⟨[], rfl, fun i hi => absurd hi (by simp), Nat.le_refl _, by unfold maxLen; omega, fun _ => ⟨rfl, rfl⟩, .inl ⟨by rw [hx], rfl⟩, fun i hi => absurd hi (by simp)⟩
  · simp at hcs
    obtain ⟨rfl, rfl, rfl⟩ := hcs
    have hlm : len ≤ m := by rw [hmm]; split <;> omega
    have hall : ∀ i, i < len → ∃ e : Ev, w.cells? base (x'.add (i * 4)) 4 = some [.int .i64 e.thread, .int .i64 e.kind, .int .i64 e.obj, .int .i64 e.value] ∧ D i = .agg [.lit (.int .i64 e.thread), .lit (.int .i64 e.kind), .lit (.int .i64 e.obj), .lit (.int .i64 e.value)] ∧ (-9223372036854775808 ≤ e.thread ∧ e.thread ≤ 9223372036854775807) ∧ -9223372036854775808 ≤ e.obj ∧ e.obj ≤ 9223372036854775807 := by
      intro i hi
      obtain ⟨cs', h1, h2⟩ := hel i (by omega)
      rw [Try.cellsEv] at h1
      obtain ⟨e, rfl, h3, h4⟩ := open_event h2
      exact ⟨e, h1, h3, h4⟩
    obtain ⟨f, hf⟩ := choose_ev hall
    refine ⟨(List.range len).map f, by simp, ?_, hl, hm, (fun e => by cases e), .inr ⟨(List.range (m - len)).map fun j => D (len + j), ?_⟩, ?_⟩
    · intro i hi
      simp at hi
      have hfi := (hf i hi).1
      have e' : ((List.range len).map f).getD i Ev.zero = f i := by simp [hi]
      have hspot := spot_of_cells (hf 0 (by omega)).1
      obtain ⟨b, off, spot⟩ := x'
      simp only at hspot
      subst hspot
      obtain ⟨h1, h2⟩ := evAt_of_cells hfi
      refine ⟨b, off, rfl, h1, ?_⟩
      rw [show Ord.ev ((List.range len).map f) i = f i from e']
      exact h2
    · rw [hx, List.map_map]
      have e : (List.range len).map D = (List.range len).map ((fun e : Ev => DataW.agg (H := H) [.lit (.int .i64 e.thread), .lit (.int .i64 e.kind), .lit (.int .i64 e.obj), .lit (.int .i64 e.value)]) ∘ f) := by
        apply List.map_congr_left
        intro q hq
        exact (hf q (List.mem_range.1 hq)).2.1
      rw [e]
    · intro i hi
      simp at hi
      have e' : Ord.ev ((List.range len).map f) i = f i := by simp [Ord.ev, hi]
      rw [e']
      exact (hf i hi).2.2
theorem open_events_r {fuel : Nat} {a : Option Addr} {len cap : Nat} {x : DataW H × List MemPlace} (h : DataW.trod enc Try.prog w base spare held fuel 31 [.slice a len cap] = some x) :
    ∃ l : List Ev, l.length = len ∧ EvS w a l ∧ len ≤ cap ∧ cap ≤ maxLen ∧ (a = none → len = 0 ∧ cap = 0) ∧ ((x.1 = .nil ∧ len = 0) ∨ ∃ sp, x.1 = .slice (l.map fun e => .agg [.lit (.int .i64 e.thread), .lit (.int .i64 e.kind), .lit (.int .i64 e.obj), .lit (.int .i64 e.value)]) sp) ∧ ∀ i, i < l.length → -9223372036854775808 ≤ (ev l i).thread ∧ (ev l i).thread ≤ 9223372036854775807 := by
  obtain ⟨l, h1, h2, h3, h4, h5, h6, h7⟩ := open_events_f h
  exact ⟨l, h1, h2, h3, h4, h5, h6, fun i hi => (h7 i hi).1⟩
theorem open_events {fuel : Nat} {a : Option Addr} {len cap : Nat} {x : DataW H × List MemPlace} (h : DataW.trod enc Try.prog w base spare held fuel 31 [.slice a len cap] = some x) :
    ∃ l : List Ev, l.length = len ∧ EvS w a l ∧ len ≤ cap ∧ cap ≤ maxLen ∧ (a = none → len = 0 ∧ cap = 0) ∧ ((x.1 = .nil ∧ len = 0) ∨ ∃ sp, x.1 = .slice (l.map fun e => .agg [.lit (.int .i64 e.thread), .lit (.int .i64 e.kind), .lit (.int .i64 e.obj), .lit (.int .i64 e.value)]) sp) := by
  obtain ⟨l, h1, h2, h3, h4, h5, h6, _⟩ := open_events_r h
  exact ⟨l, h1, h2, h3, h4, h5, h6⟩
end
end Go.Proofs.Ytomhdopbbnmcnab
namespace Go.Proofs.Ytomhdopbbnmcnab
open Go.ChangeShapes Go.WideShapes Go.ChangeAt Go.RowKit Go.Proofs.Ord

theorem Try.own : ownKnob Try.prog.godebug = none := by kernel_rfl
theorem Try.laidOut : laidOutB Try.prog = true := by kernel_rfl
theorem Try.bytesEv : Try.prog.bytesOf 45 = 32 := by kernel_rfl

/-- The bound gives a slice's length. -/
theorem bulk_one {H : Type} (d : DataW H) : 1 ≤ Rows.uptoBulk d := by
  cases d with
  | lit l => cases l <;> simp [Rows.uptoBulk]
  | nil => simp [Rows.uptoBulk]
  | ptr d => simp [Rows.uptoBulk]
  | slice elems spare => simp [Rows.uptoBulk]
  | agg parts => simp [Rows.uptoBulk]
  | iface t d => simp [Rows.uptoBulk]
  | map entries => simp [Rows.uptoBulk]
  | held h => simp [Rows.uptoBulk]
theorem bulk_length {H : Type} (l : List (DataW H)) : l.length ≤ Rows.uptoBulkAll l := by
  induction l with
  | nil => simp [Rows.uptoBulkAll]
  | cons x r ih => have := bulk_one x; simp only [Rows.uptoBulkAll, List.length_cons]; omega
theorem bulk_slice {H : Type} (elems spare : List (DataW H)) : elems.length ≤ Rows.uptoBulk (.slice elems spare) := by
  have h1 := bulk_length elems
  simp only [Rows.uptoBulk]
  omega
theorem bulk_head {H : Type} {d : DataW H} {l : List (DataW H)} (hk : Rows.uptoSmall H (d :: l) = true) : Rows.uptoBulk d ≤ 1048576 := by
  have h : Rows.uptoBulkAll (d :: l) ≤ 1048576 := of_decide_eq_true hk
  simp only [Rows.uptoBulkAll] at h
  omega

end Go.Proofs.Ytomhdopbbnmcnab
namespace Go.Proofs.Ytomhdopbbnmcnab
open Go.RowKit Go.Proofs.Ord

/-- Truths lie here. -/
def BoolS (w : World) (a : Option Addr) (n : Nat) (f : Nat → Bool) : Prop :=
  ∀ i, i < n → ∃ b off, a = some ⟨b, off, none⟩ ∧ b < w.heap.size ∧ w.cell? ⟨b, off + i, none⟩ = some (.bool (f i))
theorem BoolS.below {w w' : World} {a : Option Addr} {n : Nat} {f : Nat → Bool} (h : BoolS w a n f) (hb : Below w.heap.size w w') : BoolS w' a n f := by
  intro i hi
  obtain ⟨b, off, e1, e2, e3⟩ := h i hi
  exact ⟨b, off, e1, by have := hb.size; omega, (hb.cell (p := ⟨b, off + i, none⟩) e2).trans e3⟩
theorem Tells.boolS {w : World} {B g n : Nat} {f : Nat → Bool} (h : Tells w B g n f) : BoolS w (some ⟨g, 0, none⟩) n f :=
  fun i hi => ⟨g, 0, rfl, (World.ownsRow.lt h _ rfl).2, by rw [Nat.zero_add]; exact h.cell hi⟩
theorem take_any (P : List (Nat × Nat)) (i : Nat) (hi : i < P.length) (q : Nat) : ((P.take (i + 1)).any fun p => p.2 == q) = (((P.take i).any fun p => p.2 == q) || (P.getD i (0, 0)).2 == q) := by
  rw [List.take_succ_eq_append_getElem hi, List.any_append]
  have : P.getD i (0, 0) = P[i] := by simp [hi]
  rw [this]; simp
end Go.Proofs.Ytomhdopbbnmcnab
namespace Go.Proofs.Ord

theorem racy_congr {L M : Nat → Ev} {j : Nat} (h : ∀ k, k ≤ j → L k = M k) : racy L j = racy M j := by
  rw [Bool.eq_iff_iff, racy_iff, racy_iff]
  constructor
  · rintro ⟨i, hi, hr⟩
    refine ⟨i, hi, ?_⟩
    unfold race at *
    rw [← h i (by omega), ← h j (Nat.le_refl _), ← bef_congr j h]; exact hr
  · rintro ⟨i, hi, hr⟩
    refine ⟨i, hi, ?_⟩
    unfold race at *
    rw [h i (by omega), h j (Nat.le_refl _), bef_congr j h]; exact hr
theorem hits_congr {L M : Nat → Ev} {obj : Int} {j : Nat} (h : ∀ k, k ≤ j → L k = M k) : hits L obj j = hits M obj j := by
  unfold hits
  rw [racy_congr h, h j (Nat.le_refl _)]
theorem isFirst_congr {L M : Nat → Ev} {j : Nat} (h : ∀ k, k ≤ j → L k = M k) : isFirst L j = isFirst M j := by
  rw [Bool.eq_iff_iff, isFirst_iff, isFirst_iff, racy_congr h, h j (Nat.le_refl _)]
  constructor
  · rintro ⟨h1, h2⟩
    exact ⟨h1, fun q hq => by rw [← hits_congr (fun k hk => h k (by omega))]; exact h2 q hq⟩
  · rintro ⟨h1, h2⟩
    exact ⟨h1, fun q hq => by rw [hits_congr (fun k hk => h k (by omega))]; exact h2 q hq⟩
theorem varsTo_congr {L M : Nat → Ev} {f g : Nat → Bool} {n : Nat} (h : ∀ k, k < n → L k = M k) (hf : ∀ k, k < n → f k = g k) : varsTo L f n = varsTo M g n := by
  induction n with
  | zero => rfl
  | succ n ih =>
    rw [varsTo, varsTo, ih (fun k hk => h k (by omega)) (fun k hk => hf k (by omega)), h n (by omega), hf n (by omega)]

theorem ev_take {l : List Ev} {i k : Nat} (h : k < i) : ev (l.take i) k = ev l k := by
  unfold ev
  simp [h]
theorem take_next {l : List Ev} {i : Nat} (h : i < l.length) : l.take i ++ [ev l i] = l.take (i + 1) := by
  rw [List.take_succ_eq_append_getElem h]
  unfold ev
  simp [h]
/-- What is told of the first events is told of the whole list. -/
theorem isFirst_take {l : List Ev} {i j : Nat} (h : j < i) : isFirst (ev (l.take i)) j = isFirst (ev l) j := isFirst_congr (fun k hk => ev_take (by omega))
theorem varsTo_take (l : List Ev) (i : Nat) : varsTo (ev (l.take i)) (isFirst (ev (l.take i))) i = varsTo (ev l) (isFirst (ev l)) i :=
  varsTo_congr (fun _ hk => ev_take hk) (fun _ hk => isFirst_take hk)

/-- Of the numbers, the new one is there too. -/
theorem mem_insTo (x : Int) (out : List Int) (i : Nat) (z : Int) : z ∈ (insTo x out i).1 ↔ (∃ k, k < i ∧ z = out.getD k 0) ∨ ((insTo x out i).2 = true ∧ z = x) := by
  induction i with
  | zero => simp [insTo]
  | succ i ih =>
    have e : ∀ p : Nat → Prop, (∃ k, k < i + 1 ∧ p k) ↔ (∃ k, k < i ∧ p k) ∨ p i := fun p => by
      constructor
      · rintro ⟨k, hk, hp⟩
        by_cases e : k < i
        · exact .inl ⟨k, e, hp⟩
        · obtain rfl : k = i := by omega
          exact .inr hp
      · rintro (⟨k, hk, hp⟩ | hp)
        · exact ⟨k, by omega, hp⟩
        · exact ⟨i, by omega, hp⟩
    rw [e, insTo, insStep]
    generalize out.getD i 0 = y
    cases h : (insTo x out i).2 <;> rw [h] at ih <;> by_cases hxy : x < y <;> simp [hxy, ih] <;> grind
theorem mem_ins (x : Int) (out : List Int) (z : Int) : z ∈ ins x out ↔ z ∈ out ∨ z = x := by
  have hm := mem_insTo x out out.length z
  have e : (∃ k, k < out.length ∧ z = out.getD k 0) ↔ z ∈ out := by
    constructor
    · rintro ⟨k, hk, rfl⟩
      have : out.getD k 0 = out[k] := by simp [hk]
      rw [this]; exact List.getElem_mem hk
    · intro h
      obtain ⟨k, hk, rfl⟩ := List.mem_iff_getElem.1 h
      exact ⟨k, hk, by simp [hk]⟩
  rw [e] at hm
  unfold ins
  cases h : (insTo x out out.length).2 <;> rw [h] at hm <;> simp [hm]
/-- A variable is told just if an event that is told is its. -/
theorem mem_varsTo (L : Nat → Ev) (f : Nat → Bool) (n : Nat) (z : Int) : z ∈ varsTo L f n ↔ ∃ j, j < n ∧ f j = true ∧ (L j).obj = z := by
  induction n with
  | zero => simp [varsTo]
  | succ n ih =>
    rw [varsTo]
    cases h : f n
    · simp only [Bool.false_eq_true, if_false]
      rw [ih]
      constructor
      · rintro ⟨j, h1, h2, h3⟩; exact ⟨j, by omega, h2, h3⟩
      · rintro ⟨j, h1, h2, h3⟩
        by_cases e : j < n
        · exact ⟨j, e, h2, h3⟩
        · obtain rfl : j = n := by omega
          rw [h] at h2; cases h2
    · simp only [if_true]
      rw [mem_ins, ih]
      constructor
      · rintro (⟨j, h1, h2, h3⟩ | rfl)
        · exact ⟨j, by omega, h2, h3⟩
        · exact ⟨n, by omega, h, rfl⟩
      · rintro ⟨j, h1, h2, h3⟩
        by_cases e : j < n
        · exact .inl ⟨j, e, h2, h3⟩
        · obtain rfl : j = n := by omega
          exact .inr h3.symm
end Go.Proofs.Ord

namespace Go.Proofs.Ytomhdopbbnmcnab
open Go.RowKit Go.Proofs.Ord

/-- The slice lies in none of these blocks. -/
def Away (F : Nat → Prop) (a : Option Addr) : Prop := ∀ b off, a = some ⟨b, off, none⟩ → ¬ F b
theorem EvS.only {F : Nat → Prop} {w w' : World} {a : Option Addr} {l : List Ev} (h : EvS w a l) (ho : Only F w w') (ha : Away F a) : EvS w' a l := by
  intro i hi
  obtain ⟨b, off, e1, e2, c0, c1, c2, c3⟩ := h i hi
  have hn := ha b off e1
  exact ⟨b, off, e1, by have := ho.size; omega, (ho.cell (p := ⟨b, _, none⟩) e2 hn).trans c0, (ho.cell (p := ⟨b, _, none⟩) e2 hn).trans c1, (ho.cell (p := ⟨b, _, none⟩) e2 hn).trans c2, (ho.cell (p := ⟨b, _, none⟩) e2 hn).trans c3⟩
theorem BoolS.only {F : Nat → Prop} {w w' : World} {a : Option Addr} {n : Nat} {f : Nat → Bool} (h : BoolS w a n f) (ho : Only F w w') (ha : Away F a) : BoolS w' a n f := by
  intro i hi
  obtain ⟨b, off, e1, e2, c0⟩ := h i hi
  exact ⟨b, off, e1, by have := ho.size; omega, (ho.cell (p := ⟨b, _, none⟩) e2 (ha b off e1)).trans c0⟩
theorem Only.ofBelow {F : Nat → Prop} {w w' : World} (h : Below w.heap.size w w') : Only F w w' := ⟨h.os, h.tape, h.output, h.size, fun k hk _ => h.block k hk⟩
end Go.Proofs.Ytomhdopbbnmcnab
namespace Go.Proofs.Ytomhdopbbnmcnab
open Go.RowKit Go.Proofs.Ord

/-- A slice of n elements lies in no block of F. -/
def Aw (F : Nat → Prop) (w : World) (a : Option Addr) (n : Nat) : Prop := ∀ b off, a = some ⟨b, off, none⟩ → 0 < n → b < w.heap.size ∧ ¬ F b
theorem Aw.grow {F F' : Nat → Prop} {w w' : World} {a : Option Addr} {n : Nat} (h : Aw F w a n) (hF : ∀ k, k < w.heap.size → F' k → F k) (hs : w.heap.size ≤ w'.heap.size) : Aw F' w' a n := fun b off e hn => by
  obtain ⟨h1, h2⟩ := h b off e hn
  exact ⟨by omega, fun h3 => h2 (hF b h1 h3)⟩
theorem Aw.later {F : Nat → Prop} {w w' : World} {a : Option Addr} {n : Nat} (h : Aw F w a n) (hs : w.heap.size ≤ w'.heap.size) : Aw F w' a n := h.grow (fun _ _ h => h) hs
theorem EvS.aw {F : Nat → Prop} {w w' : World} {a : Option Addr} {l : List Ev} (h : EvS w a l) (ho : Only F w w') (ha : Aw F w a l.length) : EvS w' a l := by
  intro i hi
  obtain ⟨b, off, e1, e2, c0, c1, c2, c3⟩ := h i hi
  have hn := (ha b off e1 (by omega)).2
  exact ⟨b, off, e1, by have := ho.size; omega, (ho.cell (p := ⟨b, _, none⟩) e2 hn).trans c0, (ho.cell (p := ⟨b, _, none⟩) e2 hn).trans c1, (ho.cell (p := ⟨b, _, none⟩) e2 hn).trans c2, (ho.cell (p := ⟨b, _, none⟩) e2 hn).trans c3⟩
theorem BoolS.aw {F : Nat → Prop} {w w' : World} {a : Option Addr} {n : Nat} {f : Nat → Bool} (h : BoolS w a n f) (ho : Only F w w') (ha : Aw F w a n) : BoolS w' a n f := by
  intro i hi
  obtain ⟨b, off, e1, e2, c0⟩ := h i hi
  exact ⟨b, off, e1, by have := ho.size; omega, (ho.cell (p := ⟨b, _, none⟩) e2 (ha b off e1 (by omega)).2).trans c0⟩

/-- Two detectors beside one another, and beside them the lists and what is awaited. -/
structure Two (Det : World → (Nat → Prop) → Addr → List Ev → Prop) (B : Nat) (w : World) (Fd Fo : Nat → Prop) (p q : Addr) (ld lo : List Ev) (ai ad ag : Option Addr) (l other : List Ev) (n : Nat) (f : Nat → Bool) : Prop where
  d : Det w Fd p ld
  o : Det w Fo q lo
  apart : ∀ k, Fd k → ¬ Fo k
  newD : ∀ k, Fd k → B ≤ k
  newO : ∀ k, Fo k → B ≤ k
  inn : EvS w ai l
  side : EvS w ad other
  want : BoolS w ag n f
  iD : Aw Fd w ai l.length
  iO : Aw Fo w ai l.length
  sD : Aw Fd w ad other.length
  sO : Aw Fo w ad other.length
  wD : Aw Fd w ag n
  wO : Aw Fo w ag n

section
variable {Det : World → (Nat → Prop) → Addr → List Ev → Prop} {B : Nat} {w w' : World} {Fd Fo F' : Nat → Prop} {p q : Addr} {ld lo : List Ev} {ai ad ag : Option Addr} {l other : List Ev} {n : Nat} {f : Nat → Bool}

theorem Two.below (hD : DetSaid Det) (h : Two Det B w Fd Fo p q ld lo ai ad ag l other n f) (hb : Below w.heap.size w w') : Two Det B w' Fd Fo p q ld lo ai ad ag l other n f :=
  ⟨hD.own h.d (fun k hk => hb.block k (hD.lt h.d k hk)) hb.size hb.os hb.tape hb.output, hD.own h.o (fun k hk => hb.block k (hD.lt h.o k hk)) hb.size hb.os hb.tape hb.output, h.apart, h.newD, h.newO,
    h.inn.below hb, h.side.below hb, h.want.below hb, h.iD.later hb.size, h.iO.later hb.size, h.sD.later hb.size, h.sO.later hb.size, h.wD.later hb.size, h.wO.later hb.size⟩

/-- The first one has seen an event. -/
theorem Two.seeD (hD : DetSaid Det) (h : Two Det B w Fd Fo p q ld lo ai ad ag l other n f) {x : Ev} (hd : Det w' F' p (ld ++ [x])) (hF : ∀ k, k < w.heap.size → F' k → Fd k) (ho : Only Fd w w') (hB : B ≤ w.heap.size) :
    Two Det B w' F' Fo p q (ld ++ [x]) lo ai ad ag l other n f :=
  ⟨hd, hD.own h.o (fun k hk => ho.block k (hD.lt h.o k hk) (fun e => h.apart k e hk)) ho.size ho.os ho.tape ho.output, fun k hk hk2 => h.apart k (hF k (hD.lt h.o k hk2) hk) hk2,
    fun k hk => by
      by_cases e : k < w.heap.size
      · exact h.newD k (hF k e hk)
      · omega, h.newO,
    h.inn.aw ho h.iD, h.side.aw ho h.sD, h.want.aw ho h.wD, h.iD.grow hF ho.size, h.iO.later ho.size, h.sD.grow hF ho.size, h.sO.later ho.size, h.wD.grow hF ho.size, h.wO.later ho.size⟩

/-- The second one has. -/
theorem Two.seeO (hD : DetSaid Det) (h : Two Det B w Fd Fo p q ld lo ai ad ag l other n f) {x : Ev} (hd : Det w' F' q (lo ++ [x])) (hF : ∀ k, k < w.heap.size → F' k → Fo k) (ho : Only Fo w w') (hB : B ≤ w.heap.size) :
    Two Det B w' Fd F' p q ld (lo ++ [x]) ai ad ag l other n f :=
  ⟨hD.own h.d (fun k hk => ho.block k (hD.lt h.d k hk) (fun e => h.apart k hk e)) ho.size ho.os ho.tape ho.output, hd, fun k hk hk2 => h.apart k hk (hF k (hD.lt h.d k hk) hk2), h.newD,
    fun k hk => by
      by_cases e : k < w.heap.size
      · exact h.newO k (hF k e hk)
      · omega,
    h.inn.aw ho h.iO, h.side.aw ho h.sO, h.want.aw ho h.wO, h.iD.later ho.size, h.iO.grow hF ho.size, h.sD.later ho.size, h.sO.grow hF ho.size, h.wD.later ho.size, h.wO.grow hF ho.size⟩
end
end Go.Proofs.Ytomhdopbbnmcnab
namespace Go.Proofs.Ytomhdopbbnmcnab
open Go.RowKit Go.Proofs.Ord

/-- What the program's Racy answers. -/
def RacyDSaid : Prop := ∀ (a : Option Addr) (n cap : Nat) (l : List Ev) (w : World), l.length = n → EvS w a l → n ≤ cap → cap ≤ maxLen → n ≤ 1048576 → ThR l →
  Calls Try.prog 30 #[.slice a n cap] w fun e w' => ∃ a' cap', e = .returned (.slice a' n cap') ∧ BoolS w' a' n (racy (ev l)) ∧ Below w.heap.size w w'
/-- It lies in no block below B. -/
def NewAt (B : Nat) (a : Option Addr) : Prop := ∀ b off, a = some ⟨b, off, none⟩ → B ≤ b
/-- The same, and that what is answered is new. -/
def RacyNSaid : Prop := ∀ (a : Option Addr) (n cap : Nat) (l : List Ev) (w : World), l.length = n → EvS w a l → n ≤ cap → cap ≤ maxLen → n ≤ 1048576 → ThR l →
  Calls Try.prog 30 #[.slice a n cap] w fun e w' => ∃ a' cap', e = .returned (.slice a' n cap') ∧ BoolS w' a' n (racy (ev l)) ∧ NewAt w.heap.size a' ∧ Below w.heap.size w w'
theorem RacyNSaid.racy (h : RacyNSaid) : RacyDSaid := fun a n cap l w h1 h2 h3 h4 h5 h6 => (h a n cap l w h1 h2 h3 h4 h5 h6).mono fun _ _ ⟨a', cap', e1, e2, _, e3⟩ => ⟨a', cap', e1, e2, e3⟩
end Go.Proofs.Ytomhdopbbnmcnab
namespace Go.Proofs.Ytomhdopbbnmcnab
open Go.RowKit Go.Proofs.Ord

/-- Rows of numbers in new memory: A, C: where each lies, and its room. No two share a cell, nor lies one where the rows' list lies. -/
def RowsNew (B : Nat) (w : World) (a : Option Addr) (cap : Nat) (A : Nat → Option Addr) (C : Nat → Nat) (rows : List (List Int)) : Prop :=
  rows.length ≤ cap ∧ cap ≤ maxLen ∧
  (∀ i, i < rows.length → ∃ b off, a = some ⟨b, off, none⟩ ∧ B ≤ b ∧ b < w.heap.size ∧ w.cell? ⟨b, off + i, none⟩ = some (.slice (A i) (rows.getD i []).length (C i)) ∧ ∀ j bj oj, j < rows.length → A j = some ⟨bj, oj, none⟩ → 0 < (rows.getD j []).length → bj ≠ b) ∧
  (∀ i, i < rows.length → New B w (.slice (A i) (rows.getD i []).length (C i)) (rows.getD i [])) ∧
  ∀ i j, i < rows.length → j < rows.length → i ≠ j → ∀ bi oi bj oj ki kj, A i = some ⟨bi, oi, none⟩ → A j = some ⟨bj, oj, none⟩ → ki < (rows.getD i []).length → kj < (rows.getD j []).length → ¬ (bi = bj ∧ oi + ki = oj + kj)

def stampRows (l : List Ev) (th : Nat) : List (List Int) := (List.range l.length).map (stamp (ev l) th)
theorem stampRows_length (l : List Ev) (th : Nat) : (stampRows l th).length = l.length := by simp [stampRows]
theorem stampRows_getD (l : List Ev) (th j : Nat) (h : j < l.length) : (stampRows l th).getD j [] = stamp (ev l) th j := by simp [stampRows, h]

/-- What the program's Stamps answers. -/
def StampsSaid : Prop := ∀ (a : Option Addr) (n cap : Nat) (l : List Ev) (th : Nat) (w : World), l.length = n → EvS w a l → n ≤ cap → cap ≤ maxLen → n * 32 ≤ 140737488351232 → th ≤ 64 → ThR l →
  Calls Try.prog 24 #[.slice a n cap, .int .i64 (th : Int)] w fun e w' => ∃ a' cap' A C, e = .returned (.slice a' n cap') ∧ RowsNew w.heap.size w' a' cap' A C (stampRows l th) ∧ Below w.heap.size w w'

/-- One row, as it stands in a later world. -/
theorem RowsNew.row {B cap : Nat} {w w' : World} {a : Option Addr} {A : Nat → Option Addr} {C : Nat → Nat} {rows : List (List Int)} (h : RowsNew B w a cap A C rows) (hb : Below w.heap.size w w') (h8 : ∀ i, i < rows.length → (rows.getD i []).length ≤ 64) {i : Nat} (hi : i < rows.length) :
    ∃ b off, a = some ⟨b, off, none⟩ ∧ b < w'.heap.size ∧ w'.cell? ⟨b, off + i, none⟩ = some (.slice (A i) (rows.getD i []).length (C i)) ∧ SlV w' (A i) (rows.getD i []).length (C i) (rows.getD i []) := by
  obtain ⟨b, off, e1, e2, e3, e4, _⟩ := h.2.2.1 i hi
  have hs := (h.2.2.2.1 i hi).slV (by have := h8 i hi; omega)
  exact ⟨b, off, e1, by have := hb.size; omega, (hb.cell (p := ⟨b, off + i, none⟩) e3).trans e4, hs.below hb⟩

def l3 : List Ev := [⟨0, 2, 0, 0⟩, ⟨1, 2, 0, 0⟩, ⟨0, 0, 0, 0⟩]
theorem thr3 : ThR l3 := by unfold ThR; decide +kernel
theorem rows3 : stampRows l3 2 = [[1], [0, 1], [2]] := by decide +kernel
theorem racy3a : racy (ev l3) 0 = false := by decide +kernel
theorem racy3b : racy (ev l3) 1 = true := by decide +kernel

set_option maxRecDepth 100000 in
set_option maxHeartbeats 1000000 in
theorem alive5_true (hSt : StampsSaid) (hRa : RacyDSaid) (w : World) : Calls Try.prog 25 #[] w fun e w' => e = .returned (.bool true) ∧ Below w.heap.size w w' := by
  have hs : EvS (w.alloc (.cells #[.int .i64 0, .int .i64 2, .int .i64 0, .int .i64 0, .int .i64 1, .int .i64 2, .int .i64 0, .int .i64 0, .int .i64 0, .int .i64 0, .int .i64 0, .int .i64 0] 48)) (some ⟨w.heap.size, 0, none⟩) l3 := evS_lit w _ l3 (by decide)
  have hb0 : Below w.heap.size w (w.alloc (.cells #[.int .i64 0, .int .i64 2, .int .i64 0, .int .i64 0, .int .i64 1, .int .i64 2, .int .i64 0, .int .i64 0, .int .i64 0, .int .i64 0, .int .i64 0, .int .i64 0] 48)) := (Below.refl _ _).alloc (Nat.le_refl _) _
  go_enter Try.func25, Try.ntmps25
  go_wp2_with fail
  refine (hSt _ 3 3 l3 2 _ rfl hs (by omega) (by unfold maxLen; omega) (by omega) (by omega) thr3).mono ?_
  rintro e w1 ⟨a1, cap1, A, C, rfl, hr, hb1⟩
  rw [rows3] at hr
  have hk1 : Below w.heap.size w w1 := hb0.trans (hb1.mono hb0.size)
  go_wp2_with fail
  refine (hRa _ 3 3 l3 _ rfl (hs.below hb1) (by omega) (by unfold maxLen; omega) (by omega) thr3).mono ?_
  rintro e w2 ⟨a2, cap2, rfl, hq, hb2⟩
  have hk2 : Hid (Below w.heap.size w w2) := hk1.trans (hb2.mono hk1.size)
  have h8 : ∀ i, i < [[(1 : Int)], [0, 1], [2]].length → ([[(1 : Int)], [0, 1], [2]].getD i []).length ≤ 64 := by decide
  obtain ⟨b, off, rfl, _, c0, s0⟩ := hr.row hb2 h8 (i := 0) (by decide)
  obtain ⟨b', off', e', _, c1, s1⟩ := hr.row hb2 h8 (i := 1) (by decide)
  cases e'
  obtain ⟨b', off', e', _, c2, s2⟩ := hr.row hb2 h8 (i := 2) (by decide)
  cases e'
  obtain ⟨bb, ob, rfl, _, q0⟩ := hq 0 (by omega)
  obtain ⟨b', off', e', _, q1⟩ := hq 1 (by omega)
  cases e'
  rw [racy3a] at q0
  rw [racy3b] at q1
  simp only [List.getD_cons_zero, List.getD_cons_succ, List.length_cons, List.length_nil, Nat.zero_add, Nat.reduceAdd, Nat.add_zero] at c0 c1 c2 s0 s1 s2 q0
  obtain ⟨b1, o1, hA1, _, d0⟩ := s1.2.2.2.2.1 0 (by simp)
  obtain ⟨b', off', e', _, d1⟩ := s1.2.2.2.2.1 1 (by simp)
  obtain ⟨b2, o2, hA2, _, d2⟩ := s2.2.2.2.2.1 0 (by simp)
  rw [hA1] at e' c1
  rw [hA2] at c2
  cases e'
  simp only [List.getD_cons_zero, List.getD_cons_succ, Nat.add_zero] at d0 d1 d2
  clear hs hb0 hb1 hb2 hr hq hk1 h8 s0 s1 s2 hA1 hA2
  go_wp2
  go_ret
  exact ⟨rfl, hk2.out⟩
theorem Try.infoi : (Try.prog.info? 3).map (fun i => (i.zero, i.size, i.bytes)) = some (some (.int .i64 0), 1, 8) := by kernel_rfl
theorem Try.infois : (Try.prog.info? 22).map (fun i => (i.zero, i.size, i.bytes)) = some (some (.slice none 0 0), 1, 24) := by kernel_rfl
/-- What the program's Stamps answers for numbers of threads that there are none of. -/
def StampsNoSaid : Prop := ∀ (a : Option Addr) (n cap : Nat) (l : List Ev) (th : Int) (w : World), l.length = n → EvS w a l → n ≤ cap → cap ≤ maxLen → n * 32 ≤ 140737488351232 → (th < 0 ∨ 64 < th) →
  Calls Try.prog 24 #[.slice a n cap, .int .i64 th] w fun e w' => e = .returned (.slice none 0 0) ∧ Below w.heap.size w w'
end Go.Proofs.Ytomhdopbbnmcnab
namespace Go.Proofs.Ytomhdopbbnmcnab
open Go.RowKit Go.Proofs.Ord

set_option maxHeartbeats 1000000 in
theorem rLeads_any (t k o v t' k' o' v' : Int) (w : World) :
    Calls Try.prog 69 #[.agg #[.int .i64 t, .int .i64 k, .int .i64 o, .int .i64 v], .agg #[.int .i64 t', .int .i64 k', .int .i64 o', .int .i64 v']] w fun e w' =>
      e = .returned (.bool (leads ⟨t, k, o, v⟩ ⟨t', k', o', v'⟩)) ∧ Below w.heap.size w w' := by
  have hb : Hid (∀ x y, Below w.heap.size w ((w.alloc x).alloc y)) := fun x y => ((Below.refl _ _).alloc (Nat.le_refl _) _).alloc (by simp) _
  rw [leads_mk]
  go_enter Try.func69, Try.ntmps69
  go_wp2
  all_goals
    go_ret
    exact ⟨o_ret_bool (by simp [*]), hb.out _ _⟩
theorem rAccess_any (t k o v : Int) (w : World) :
    Calls Try.prog 90 #[.agg #[.int .i64 t, .int .i64 k, .int .i64 o, .int .i64 v]] w fun e w' =>
      e = .returned (.bool (access ⟨t, k, o, v⟩)) ∧ Below w.heap.size w w' := by
  have hb : Hid (∀ x, Below w.heap.size w (w.alloc x)) := fun x => (Below.refl _ _).alloc (Nat.le_refl _) _
  rw [access_mk]
  go_enter Try.func90, Try.ntmps90
  go_wp2
  all_goals
    go_ret
    exact ⟨o_ret_bool (by simp [*]), hb.out _⟩
end Go.Proofs.Ytomhdopbbnmcnab
namespace Go.Proofs.Ytomhdopbbnmcnab
open Go.RowKit Go.Proofs.Ord
attribute [local go_sem ↓] Go.wp_at_zero Go.wp_at_succ

set_option maxHeartbeats 1000000 in
theorem rAfter_any (a : Option Addr) (n cap : Nat) (l : List Ev) (i : Nat) (w : World) (hn : l.length = n) (hs : EvS w a l) (hb : n * 32 ≤ 140737488351232) (hi : i < n) :
    Calls Try.prog 50 #[.slice a n cap, .int .i64 i] w fun e w' => e = .returned (.slice (some ⟨w.heap.size, 0, none⟩) n n) ∧ Tells w' w.heap.size w.heap.size n (bef (Ord.ev l) i) ∧ Below w.heap.size w w' := by
  obtain ⟨i0, hi0, hz0, hz1, hz2⟩ := info_parts Try.infob
  obtain ⟨b, off, rfl, hlt, _⟩ := hs i (by omega)
  go_enter Try.func50, Try.ntmps50
  go_wp2_with (at_make; refine wpList_make_full _ rfl _ _ 40 rfl w.heap.size 4 i0 (.bool false) 1 Try.underlying40 hi0 hz0 hz1 _ _ _ _ n rfl rfl (by first | rfl | simp) (by first | rfl | simp) (by rw [hz2]; omega) (by unfold maxLen; omega) (Nat.le_refl _) ?_; intro w1 hown hgrow)
  have ht1 : Hid (Tells w1 w.heap.size w.heap.size n (fun _ => false)) := by
    unfold Hid Tells
    have e : ((List.range n).map fun _ => Value.bool false) = (madeCells (Value.bool false).cells (n * 1)).toList := by
      rw [show (Value.bool false).cells = #[Value.bool false] from rfl, toList_madeCells_one, Nat.mul_one, List.map_const', List.length_range]
    rw [e]; exact hown
  have hb1 : Hid (Below w.heap.size w w1) := (Below.refl _ _).grown hgrow (Nat.le_refl _) (fun q e => by cases e)
  clear hown hgrow
  go_loopw [6] (fun jv wr => ∃ j : Nat, i + 1 ≤ j ∧ j ≤ n ∧ jv = .int .i64 j ∧ Tells wr w.heap.size w.heap.size n (fun q => decide (q < j) && bef (Ord.ev l) i q) ∧ Below w.heap.size w wr) (fun jv _ => n - (intOf jv).toNat)
  case atStart =>
    refine ⟨i + 1, Nat.le_refl _, by omega, by go_num, ht1.out.congr (fun q _ => ?_), hb1.out⟩
    by_cases hq : q < i + 1
    · rw [bef_ge (by omega), Bool.and_false]
    · simp [hq]
  case round =>
    obtain ⟨j, hj1, hj2, rfl, ht, hbel⟩ := hrel
    by_cases h5 : j < n
    · obtain ⟨t1, k1, o1, v1, HE1, c0, c1, c2, c3⟩ := hs.at hbel (i := i) (by omega)
      obtain ⟨t2, k2, o2, v2, HE2, d0, d1, d2, d3⟩ := hs.at hbel (i := j) (by omega)
      have hsz := hbel.size
      have hBlt : w.heap.size < wr.heap.size := (World.ownsRow.lt ht _ rfl).2
      have hcj := ht.cell h5
      have hfj := ht.frozen j
      have hset : ∀ (W : World) (x : Value) (o : Nat), (W.setCell ⟨w.heap.size, j, none⟩ x).cell? ⟨b, o, none⟩ = W.cell? ⟨b, o, none⟩ := fun W x o => World.cell?_setCell_other _ _ _ _ (by intro e; cases e; omega)
      go_wp2_with fail
      go_region_held3 (fun w' => w'.cell? ⟨b, off + i * 4, none⟩ = some (.int .i64 t1) ∧ w'.cell? ⟨b, off + i * 4 + 1, none⟩ = some (.int .i64 k1) ∧ w'.cell? ⟨b, off + i * 4 + 2, none⟩ = some (.int .i64 o1) ∧ w'.cell? ⟨b, off + i * 4 + 3, none⟩ = some (.int .i64 v1) ∧ w'.cell? ⟨b, off + j * 4, none⟩ = some (.int .i64 t2) ∧ w'.cell? ⟨b, off + j * 4 + 1, none⟩ = some (.int .i64 k2) ∧ w'.cell? ⟨b, off + j * 4 + 2, none⟩ = some (.int .i64 o2) ∧ w'.cell? ⟨b, off + j * 4 + 3, none⟩ = some (.int .i64 v2)) (go_keep) ((go_at_call 69; refine (rLeads_any _ _ _ _ _ _ _ _ _).mono ?_; rintro e w2 ⟨rfl, hbel2⟩; obtain ⟨hcc, hff⟩ := bcell hbel2; have hcb := fun o => hcc b o (by simp; omega); have hcg := fun o => hcc w.heap.size o (by simp; omega); have hfg := fun o => hff w.heap.size o (by simp; omega); clear hcc hff))
      have hbel3 : Below w.heap.size w w2 := hbel.drew.trans (hbel2.mono (by simp; omega))
      have ht3 : Tells w2 w.heap.size w.heap.size n (fun q => decide (q < j) && bef (Ord.ev l) i q) := Tells.below (B' := wr.heap.size) ht (Below.trans (Below.refl _ wr).drew hbel2) hBlt
      have ht4 : Hid (Tells (w2.setCell ⟨w.heap.size, j, none⟩ (.bool (leads ⟨t1, k1, o1, v1⟩ ⟨t2, k2, o2, v2⟩))) w.heap.size w.heap.size n (fun q => if q = j then Ord.part (Ord.ev l) i j (i + 1) else decide (q < j) && bef (Ord.ev l) i q)) := by
        refine (ht3.stored j _).congr (fun q _ => ?_)
        rw [part_start, HE1.out, HE2.out]
      have hb4 : Hid (Below w.heap.size w (w2.setCell ⟨w.heap.size, j, none⟩ (.bool (leads ⟨t1, k1, o1, v1⟩ ⟨t2, k2, o2, v2⟩)))) := hbel3.setCell (Nat.le_refl _) _
      clear ht ht3 hbel hbel2 hbel3 c0 c1 c2 c3 d0 d1 d2 d3 hcj hfj hset hcb hcg hfg HE1
      go_wp2
      go_loopw [7] (fun kv wr => ∃ k : Nat, i + 1 ≤ k ∧ k ≤ j ∧ kv = .int .i64 k ∧ Tells wr w.heap.size w.heap.size n (fun q => if q = j then Ord.part (Ord.ev l) i j k else decide (q < j) && bef (Ord.ev l) i q) ∧ Below w.heap.size w wr) (fun kv _ => j - (intOf kv).toNat)
      case atStart => exact ⟨i + 1, Nat.le_refl _, hj1, by go_num, ht4.out, hb4.out⟩
      case round =>
        obtain ⟨k, hk1, hk2, rfl, ht, hbel⟩ := hrel
        have hsz := hbel.size
        have hBlt : w.heap.size < wr.heap.size := (World.ownsRow.lt ht _ rfl).2
        by_cases h6 : k < j
        · have hck := ht.cell (j := k) (by omega)
          have ek : (if k = j then Ord.part (Ord.ev l) i j k else decide (k < j) && bef (Ord.ev l) i k) = bef (Ord.ev l) i k := by
            rw [if_neg (by omega)]; simp [h6]
          rw [ek] at hck
          clear ek
          obtain ⟨t3, k3, o3, v3, HE3, c0, c1, c2, c3⟩ := hs.at hbel (i := k) (by omega)
          obtain ⟨t4, k4, o4, v4, HE4, d0, d1, d2, d3⟩ := hs.at hbel (i := j) (by omega)
          have HP := o_hide (part_succ (Ord.ev l) i j k (by omega))
          cases hbk : bef (Ord.ev l) i k with
          | false =>
            rw [hbk] at hck
            have ht5 : Hid (Tells wr w.heap.size w.heap.size n (fun q => if q = j then Ord.part (Ord.ev l) i j (k + 1) else decide (q < j) && bef (Ord.ev l) i q)) := by
              refine ht.congr (fun q _ => ?_)
              rw [HP.out, hbk, Bool.false_and, Bool.or_false]
            clear hbk HP ht
            go_wp2_with fail
            go_quiet (fail)
            go_wp2
            go_roundw
            case rel => exact ⟨k + 1, by omega, by omega, by go_num, ht5.out, o_drewN hbel _⟩
            case measure => simp [intOf]; omega
          | true =>
            rw [hbk] at hck
            have hcj := ht.cell h5
            have hfj := ht.frozen j
            have e1 : Hid (Ord.part (Ord.ev l) i j (k + 1) = (Ord.part (Ord.ev l) i j k || leads ⟨t3, k3, o3, v3⟩ ⟨t4, k4, o4, v4⟩)) := by
              unfold Hid; rw [HP.out, hbk, Bool.true_and, HE3.out, HE4.out]
            clear hbk HP HE3 HE4
            have hkn : (k : Int) < (n : Int) := by omega
            have hjn : (j : Int) < (n : Int) := by omega
            go_wp2_with fail
            go_region_held3 (fun w' => w'.cell? ⟨w.heap.size, k, none⟩ = some (.bool true) ∧ w'.cell? ⟨b, off + k * 4, none⟩ = some (.int .i64 t3) ∧ w'.cell? ⟨b, off + k * 4 + 1, none⟩ = some (.int .i64 k3) ∧ w'.cell? ⟨b, off + k * 4 + 2, none⟩ = some (.int .i64 o3) ∧ w'.cell? ⟨b, off + k * 4 + 3, none⟩ = some (.int .i64 v3) ∧ w'.cell? ⟨b, off + j * 4, none⟩ = some (.int .i64 t4) ∧ w'.cell? ⟨b, off + j * 4 + 1, none⟩ = some (.int .i64 k4) ∧ w'.cell? ⟨b, off + j * 4 + 2, none⟩ = some (.int .i64 o4) ∧ w'.cell? ⟨b, off + j * 4 + 3, none⟩ = some (.int .i64 v4)) (go_keep) ((go_at_call 69; refine (rLeads_any _ _ _ _ _ _ _ _ _).mono ?_; rintro e w2 ⟨rfl, hbel2⟩; obtain ⟨hcc, hff⟩ := bcell hbel2; have hcb := fun o => hcc b o (by simp; omega); have hcg := fun o => hcc w.heap.size o (by simp; omega); have hfg := fun o => hff w.heap.size o (by simp; omega); clear hcc hff))
            have hbel3 : Below w.heap.size w w2 := hbel.drew.trans (hbel2.mono (by simp; omega))
            have ht3 := Tells.below (B' := wr.heap.size) ht (Below.trans (Below.refl _ wr).drew hbel2) hBlt
            cases hL : leads ⟨t3, k3, o3, v3⟩ ⟨t4, k4, o4, v4⟩ with
            | true =>
              have ht4 : Hid (Tells (w2.setCell ⟨w.heap.size, j, none⟩ (.bool true)) w.heap.size w.heap.size n (fun q => if q = j then Ord.part (Ord.ev l) i j (k + 1) else decide (q < j) && bef (Ord.ev l) i q)) := by
                refine (ht3.stored j true).congr (fun q _ => ?_)
                rw [e1.out, hL, Bool.or_true]
                by_cases e : q = j <;> simp [e]
              have hb4 : Hid (Below w.heap.size w (w2.setCell ⟨w.heap.size, j, none⟩ (.bool true))) := hbel3.setCell (Nat.le_refl _) _
              clear ht ht3 hbel hbel2 hbel3 c0 c1 c2 c3 d0 d1 d2 d3
              go_wp2
              go_roundw
              case rel => exact ⟨k + 1, by omega, by omega, by go_num, ht4.out, hb4.out⟩
              case measure => simp [intOf]; omega
            | false =>
              have ht4 : Hid (Tells w2 w.heap.size w.heap.size n (fun q => if q = j then Ord.part (Ord.ev l) i j (k + 1) else decide (q < j) && bef (Ord.ev l) i q)) := by
                refine ht3.congr (fun q _ => ?_)
                rw [e1.out, hL, Bool.or_false]
              have hb4 : Hid (Below w.heap.size w w2) := hbel3
              clear ht ht3 hbel hbel2 hbel3 c0 c1 c2 c3 d0 d1 d2 d3 hcj hfj
              go_wp2
              go_roundw
              case rel => exact ⟨k + 1, by omega, by omega, by go_num, ht4.out, hb4.out⟩
              case measure => simp [intOf]; omega
        · have hkj : k = j := by omega
          have ht5 : Hid (Tells wr w.heap.size w.heap.size n (fun q => decide (q < j + 1) && bef (Ord.ev l) i q)) := by
            refine ht.congr (fun q _ => ?_)
            by_cases e : q = j
            · subst e; rw [if_pos rfl, hkj, part_all _ _ _ (by omega)]; simp
            · rw [if_neg e]
              have : decide (q < j) = decide (q < j + 1) := by by_cases h : q < j <;> simp [h] <;> omega
              rw [this]
          clear hkj ht
          go_wp2
          go_roundw
          case rel => exact ⟨j + 1, by omega, by omega, by go_num, ht5.out, hbel⟩
          case measure => simp [intOf]; omega
    · have hjn : j = n := by omega
      have hfin : Hid (Tells wr w.heap.size w.heap.size n (bef (Ord.ev l) i)) := ht.congr (fun q hq => by simp; intro; omega)
      clear hjn ht
      go_wp2
      go_ret
      exact ⟨rfl, hfin.out, hbel⟩
end Go.Proofs.Ytomhdopbbnmcnab
namespace Go.Proofs.Ytomhdopbbnmcnab
open Go.RowKit Go.Proofs.Ord

set_option maxHeartbeats 1000000 in
theorem rConflict_any (t k o v t' k' o' v' : Int) (w : World) :
    Calls Try.prog 74 #[.agg #[.int .i64 t, .int .i64 k, .int .i64 o, .int .i64 v], .agg #[.int .i64 t', .int .i64 k', .int .i64 o', .int .i64 v']] w fun e w' =>
      e = .returned (.bool (conflict ⟨t, k, o, v⟩ ⟨t', k', o', v'⟩)) ∧ Below w.heap.size w w' := by
  have hb2 : Hid (∀ x y z, Below w.heap.size w (((w.alloc x).alloc y).alloc z)) := fun x y z => (((Below.refl _ _).alloc (Nat.le_refl _) _).alloc (by simp) _).alloc (by simp; omega) _
  have hb3 : Hid (∀ x y z u, Below w.heap.size w ((((w.alloc x).alloc y).alloc z).alloc u)) := fun x y z u => ((((Below.refl _ _).alloc (Nat.le_refl _) _).alloc (by simp) _).alloc (by simp; omega) _).alloc (by simp; omega) _
  rw [conflict_mk, access_mk, access_mk]
  go_enter Try.func74, Try.ntmps74
  go_wp2
  all_goals
    go_ret
    refine ⟨o_ret_bool (by simp [*]), ?_⟩
    first | exact hb2.out _ _ _ | exact hb3.out _ _ _ _
end Go.Proofs.Ytomhdopbbnmcnab
