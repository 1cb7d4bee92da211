import Derived.Test.YtomhdopbbnmcnabFa14
import Derived.Test.YtomhdopbbnmcnabFa2
import Derived.Test.YtomhdopbbnmcnabFa5
import Derived.Test.YtomhdopbbnmcnabFa3
import Derived.Test.YtomhdopbbnmcnabFa13
import Derived.Test.YtomhdopbbnmcnabRows
import Derived.Deep.Slices
import Derived.Lib.SmallJoins
import Derived.OpenShut
import Derived.ProofKit
import Derived.SizedLaws
import Derived.ShutString
import Derived.ChangeOld
import Derived.JoinedCond
namespace Go.Proofs.Ytomhdopbbnmcnab
open Go.RowKit Go.Proofs.Ord

set_option maxRecDepth 100000 in
set_option maxHeartbeats 1000000 in
theorem rRacy5_any (a : Option Addr) (n cap : Nat) (l : List Ev) (w : World) (hn : l.length = n) (hs : EvS w a l) (hb : n ≤ 1048576) :
    Calls Try.prog 31 #[.slice a n cap] w fun e w' => e = .returned (.slice (some ⟨w.heap.size, 0, none⟩) n n) ∧ Tells w' w.heap.size w.heap.size n (racy (ev l)) ∧ Below w.heap.size w w' := by
  obtain ⟨i0, hi0, hz0, hz1, hz2⟩ := info_parts Try.infob
  have hlen : (racesTo (ev l) n).length ≤ 1099511627776 := Nat.le_trans (racesTo_length (ev l) n) (Nat.le_trans (Nat.mul_le_mul hb hb) (by omega))
  go_enter Try.func31, Try.ntmps31
  go_wp2_with (at_make; refine wpList_make_full _ rfl _ _ 40 rfl w.heap.size 4 i0 (.bool false) 1 Try.underlying40 hi0 hz0 hz1 _ _ _ _ n rfl rfl (by first | rfl | simp) (by first | rfl | simp) (by rw [hz2]; omega) (by unfold maxLen; omega) (Nat.le_refl _) ?_; intro w1 hown hgrow)
  have ht1 : Tells w1 w.heap.size w.heap.size n (fun _ => false) := by
    unfold Tells
    have e : ((List.range n).map fun _ => Value.bool false) = (madeCells (Value.bool false).cells (n * 1)).toList := by
      rw [show (Value.bool false).cells = #[Value.bool false] from rfl, toList_madeCells_one, Nat.mul_one, List.map_const', List.length_range]
    rw [e]; exact hown
  have hb1 : Below w.heap.size w w1 := (Below.refl _ _).grown hgrow (Nat.le_refl _) (fun q e => by cases e)
  have hlt1 : w.heap.size < w1.heap.size := (World.ownsRow.lt ht1 _ rfl).2
  clear hown hgrow
  refine (rRaces_any _ _ _ _ _ hn (hs.below hb1) hb).mono ?_
  rintro e w2 ⟨v, rfl, hown, hb2⟩
  have hq := pairNew_of_owns hown
  obtain ⟨ap, cp, rfl, _, _, _⟩ := id hq
  have ht2 := ht1.below hb2 hlt1
  have hb3 : Below w.heap.size w w2 := hb1.trans (hb2.mono hb1.size)
  have hany := any_races (ev l) n
  have HA := o_hide hany
  have hJ : Hid (∀ i, i < (racesTo (ev l) n).length → ((racesTo (ev l) n).getD i (0, 0)).2 < n) := by
    intro i hi
    have hm : (racesTo (ev l) n).getD i (0, 0) ∈ racesTo (ev l) n := by
      have e : (racesTo (ev l) n).getD i (0, 0) = (racesTo (ev l) n)[i] := by simp [hi]
      rw [e]; exact List.getElem_mem hi
    exact ((mem_racesTo (ev l) n _ _).1 hm).1
  clear hany hown ht1 hb1 hb2
  generalize racesTo (ev l) n = P at *
  go_wp2_with fail
  go_loopw [5] (fun iv wr => ∃ i : Nat, i ≤ P.length ∧ iv = .int .i64 i ∧ Tells wr w.heap.size w.heap.size n (fun q => (P.take i).any fun p => p.2 == q) ∧ PairNew w1.heap.size wr (.slice ap P.length cp) P ∧ Below w.heap.size w wr) (fun iv _ => P.length - (intOf iv).toNat)
  case atStart => exact ⟨0, Nat.zero_le _, rfl, ht2.congr (fun q _ => by simp), hq, hb3⟩
  case round =>
    clear hq hb3 ht2
    obtain ⟨i, hi, rfl, ht, hq, hbr⟩ := hrel
    by_cases h5 : i < P.length
    · have hJi := hJ.out i h5
      have HT := o_hide (take_any P i h5)
      obtain ⟨b, off, rfl, _, c0, c1⟩ := hq.pairS.2 i h5
      generalize (P.getD i (0, 0)).1 = x at *
      generalize (P.getD i (0, 0)).2 = y at *
      have hfy := ht.frozen y
      have hcy := ht.cell hJi
      have hy : (y : Int) < (n : Int) := by omega
      have ht2 : Hid (Tells (wr.setCell ⟨w.heap.size, y, none⟩ (.bool true)) w.heap.size w.heap.size n (fun q => (P.take (i + 1)).any fun p => p.2 == q)) := by
        refine (ht.stored y true).congr (fun q _ => ?_)
        rw [HT.out]
        by_cases e : q = y
        · subst e; simp
        · have e' : (y == q) = false := by simp; omega
          rw [if_neg e, e', Bool.or_false]
      have hq2 := hq.setCell (o := y) hlt1 (.bool true)
      have hb2 := hbr.setCell (p := ⟨w.heap.size, y, none⟩) (Nat.le_refl _) (.bool true)
      clear HT ht hq hbr
      go_wp2
      go_roundw
      case rel => exact ⟨i + 1, by omega, by go_num, ht2.out, hq2, hb2⟩
      case measure => simp [intOf]; omega
    · have e1 : P.take i = P := List.take_of_length_le (by omega)
      have hfin : Hid (Tells wr w.heap.size w.heap.size n (racy (ev l))) := by
        refine ht.congr (fun q hq => ?_)
        rw [e1]; exact HA.out q hq
      clear e1 ht
      go_wp2_with fail
      go_ret
      exact ⟨rfl, hfin.out, hbr⟩
end Go.Proofs.Ytomhdopbbnmcnab
namespace Go.Proofs.Ytomhdopbbnmcnab
open Go.RowKit Go.Proofs.Ord

set_option maxRecDepth 100000 in
set_option maxHeartbeats 1000000 in
theorem djitRacy_walk (hSt : StampsSaid) (hRa : RacyDSaid) (a : Option Addr) (n cap : Nat) (l : List Ev) (w : World) (hn : l.length = n) (hs : EvS w a l) (hb : n ≤ 1048576) (hthr : Hid (ThR l)) :
    Calls Try.prog 6 #[.slice a n cap] w fun e w' => e = .returned (.bool true) ∧ Below w.heap.size w w' := by
  go_enter Try.func6, Try.ntmps6
  go_wp2_with fail
  refine (given_any _ _ _ _ _ hn hs (by omega)).mono ?_
  rintro e w1 ⟨v, rfl, hown, hb1⟩
  obtain ⟨a1, cap1, rfl, _, hc1, hm1, hs1⟩ := evS_of_owns hown
  clear hown
  have hl1 := hs.below hb1
  go_wp2_with fail
  refine (hRa _ _ _ _ _ hn hs1 hc1 hm1 hb hthr.out).mono ?_
  rintro e w2 ⟨a2, cap2, rfl, hq, hb2⟩
  have hk2 : Below w.heap.size w w2 := hb1.trans (hb2.mono hb1.size)
  have hs2 := hs1.below hb2
  have hl2 := hl1.below hb2
  clear hb1 hb2 hs1 hl1
  go_wp2_with fail
  refine (rRacy5_any _ _ _ _ _ hn hl2 hb).mono ?_
  rintro e w3 ⟨rfl, ht, hb3⟩
  have hk3 : Below w.heap.size w w3 := hk2.trans (hb3.mono hk2.size)
  have hq3 := hq.below hb3
  have hr3 := ht.boolS
  have hs3 := hs2.below hb3
  have hl3 := hl2.below hb3
  clear hk2 hb3 hq ht hs2 hl2
  go_wp2_with fail
  go_loopw [6] (fun iv wr => ∃ i : Nat, i ≤ n ∧ iv = .int .i64 i ∧ Below w3.heap.size w3 wr) (fun iv _ => n - (intOf iv).toNat)
  case atStart => exact ⟨0, Nat.zero_le _, rfl, Below.refl _ _⟩
  case round =>
    obtain ⟨i, hi, rfl, hbr⟩ := hrel
    by_cases h5 : i < n
    · obtain ⟨b, off, rfl, _, c0⟩ := (hq3.below hbr) i h5
      obtain ⟨b', off', e', _, d0⟩ := (hr3.below hbr) i h5
      cases e'
      rw [Nat.zero_add] at d0
      generalize racy (ev l) i = x at c0 d0
      have hx : (x != x) = false := by cases x <;> rfl
      have hin : (i : Int) < (n : Int) := by omega
      go_wp2_with fail
      go_quiet (fail)
      go_wp2_with fail
      go_roundw
      case rel => exact ⟨i + 1, by omega, by go_num, o_drewN hbr _⟩
      case measure => simp [intOf]; omega
    · have hs4 := hs3.below hbr
      have hl4 := hl3.below hbr
      have hk4 : Below w.heap.size w wr := hk3.trans (hbr.mono hk3.size)
      clear hbr
      go_wp2_with fail
      refine (kept_true _ _ _ _ _ _ _ hn hs4 hl4 (by omega)).mono ?_
      rintro e w5 ⟨rfl, hb5⟩
      have hk5 := hk4.trans (hb5.mono hk4.size)
      clear hb5 hk4
      go_wp2_with fail
      refine (alive5_true hSt hRa _).mono ?_
      rintro e w6 ⟨rfl, hb6⟩
      go_wp2_with fail
      go_ret
      exact ⟨rfl, hk5.trans (hb6.mono hk5.size)⟩

end Go.Proofs.Ytomhdopbbnmcnab
namespace Go.Proofs.Ytomhdopbbnmcnab
open Go.RowKit Go.Proofs.Ord

set_option maxRecDepth 100000 in
set_option maxHeartbeats 1000000 in
theorem rFirst_any (a : Option Addr) (n cap : Nat) (l : List Ev) (obj : Int) (w : World) (hn : l.length = n) (hs : EvS w a l) (hb : n ≤ 1048576) :
    Calls Try.prog 42 #[.slice a n cap, .int .i64 obj] w fun e w' => e = .returned (.int .i64 (firstOf (ev l) obj n)) ∧ Below w.heap.size w w' := by
  go_enter Try.func42, Try.ntmps42
  go_wp2_with fail
  refine (rRacy5_any _ _ _ _ _ hn hs hb).mono ?_
  rintro e w3 ⟨rfl, ht, hb3⟩
  have hr3 := ht.boolS
  have hs3 := hs.below hb3
  clear ht
  go_wp2_with fail
  go_loopw [6] (fun iv wr => ∃ i : Nat, i ≤ n ∧ iv = .int .i64 i ∧ Below w3.heap.size w3 wr ∧ ∀ q, q < i → hits (ev l) obj q = false) (fun iv _ => n - (intOf iv).toNat)
  case atStart => exact ⟨0, Nat.zero_le _, rfl, Below.refl _ _, fun q hq => absurd hq (by omega)⟩
  case round =>
    obtain ⟨i, hi, rfl, hbr, hno⟩ := hrel
    have HN := o_hide hno
    clear hno
    by_cases h5 : i < n
    · obtain ⟨b', off', e', _, d0⟩ := (hr3.below hbr) i h5
      cases e'
      rw [Nat.zero_add] at d0
      obtain ⟨b, off, rfl, hlt, _⟩ := hs3 i (by omega)
      obtain ⟨t1, k1, o1, v1, HE1, _, _, c2, _⟩ := hs3.at hbr (i := i) (by omega)
      have hin : (i : Int) < (n : Int) := by omega
      have HH : Hid (hits (ev l) obj i = (racy (ev l) i && o1 == obj)) := by
        unfold Hid hits; rw [HE1.out]
      have HS := o_hide (fun (h : hits (ev l) obj i = true) => firstOf_some (n := n) h5 HN.out h)
      have hk : Below w.heap.size w wr := hb3.trans (hbr.mono hb3.size)
      clear HE1
      generalize racy (ev l) i = x at *
      cases x with
      | false =>
        go_wp2_with fail
        go_roundw
        case rel => exact ⟨i + 1, by omega, by go_num, hbr, fun q hq => by
          by_cases e : q < i
          · exact HN.out q e
          · obtain rfl : q = i := by omega
            rw [HH.out]; rfl⟩
        case measure => simp [intOf]; omega
      | true =>
        cases ho : (o1 == obj) with
        | false =>
          go_wp2_with fail
          go_roundw
          case rel => exact ⟨i + 1, by omega, by go_num, hbr, fun q hq => by
            by_cases e : q < i
            · exact HN.out q e
            · obtain rfl : q = i := by omega
              rw [HH.out, ho]; rfl⟩
          case measure => simp [intOf]; omega
        | true =>
          go_wp2_with fail
          go_ret
          exact ⟨by rw [HS.out (by rw [HH.out, ho]; rfl)]; rfl, hk⟩
    · have HF : Hid (firstOf (ev l) obj n = -1) := firstOf_none (fun j hj => HN.out j (by omega))
      have hk : Below w.heap.size w wr := hb3.trans (hbr.mono hb3.size)
      clear hbr
      go_wp2_with fail
      go_ret
      exact ⟨by rw [HF.out]; rfl, hk⟩
end Go.Proofs.Ytomhdopbbnmcnab
namespace Go.Proofs.Ytomhdopbbnmcnab
open Go.RowKit Go.Proofs.Ord Go.ChangeShapes Go.WideShapes Go.Deep

theorem Try.cellsEv : Try.prog.cellsOf 45 = 4 := by kernel_rfl

theorem Try.cellsI : Try.prog.cellsOf 3 = 1 := by kernel_rfl

theorem list4 {α : Type} {l : List α} (h : l.length = 4) : ∃ c0 c1 c2 c3, l = [c0, c1, c2, c3] := by
  match l, h with
  | [c0, c1, c2, c3], _ => exact ⟨c0, c1, c2, c3, rfl⟩

theorem choose_ev {n : Nat} {p : Nat → Ev → Prop} (h : ∀ i, i < n → ∃ x, p i x) : ∃ f : Nat → Ev, ∀ i, i < n → p i (f i) := by
  refine ⟨fun i => if hi : i < n then Classical.choose (h i hi) else Ev.zero, fun i hi => ?_⟩
  simp only [dif_pos hi]
  exact Classical.choose_spec (h i hi)

theorem spot_of_cells {w : World} {base : Nat} {a : Addr} {x : Value} {xs : List Value} (h : w.cells? base (a.add (0 * 4)) 4 = some (x :: xs)) : a.spot = none := by
  have h0 := (World.cells?_some h).2.2 0 (by omega)
  obtain ⟨b, off, spot⟩ := a
  have h1 : w.cell? ⟨b, off, spot⟩ = some x := by simpa [Addr.add] using h0
  exact World.cell?_spot h1

theorem evAt_of_cells {w : World} {base b off i : Nat} {e : Ev} (h : w.cells? base ((⟨b, off, none⟩ : Addr).add (i * 4)) 4 = some [.int .i64 e.thread, .int .i64 e.kind, .int .i64 e.obj, .int .i64 e.value]) : b < w.heap.size ∧ EvAt w b (off + i * 4) e := by
  have hall : ∀ j, j < 4 → w.cell? (((⟨b, off, none⟩ : Addr).add (i * 4)).add j) = [Value.int .i64 e.thread, .int .i64 e.kind, .int .i64 e.obj, .int .i64 e.value][j]? := (World.cells?_some h).2.2
  have e0 : ∀ k, (⟨b, off, none⟩ : Addr).add k = ⟨b, off + k, none⟩ := fun k => by unfold Addr.add; split <;> simp_all
  have e1 : ∀ j, ((⟨b, off, none⟩ : Addr).add (i * 4)).add j = ⟨b, off + i * 4 + j, none⟩ := fun j => by rw [add_add, e0, Nat.add_assoc]
  have h0 := hall 0 (by omega)
  have h1 := hall 1 (by omega)
  have h2 := hall 2 (by omega)
  have h3 := hall 3 (by omega)
  rw [e1] at h0 h1 h2 h3
  exact ⟨World.block_lt_of_cell? w ⟨b, off + i * 4 + 0, none⟩ h0, h0, h1, h2, h3⟩

section
variable {H : Type} {enc : TypeId × Value → H} {w : World} {base : Nat} {spare : Nat → Bool} {held : Bool}

theorem wf_range {t : Int} (h : (Lit.int .i64 t).wf = true) : -9223372036854775808 ≤ t ∧ t ≤ 9223372036854775807 := by
  simp [Lit.wf, IntKind.min, IntKind.max, IntKind.bits, IntKind.signed] at h
  omega

/-- Four cells that read as an event are four numbers. -/
theorem open_event {fuel : Nat} {cs : List Value} {x : DataW H × List MemPlace} (h : DataW.trod enc Try.prog w base spare held fuel 45 cs = some x) :
    ∃ e : Ev, cs = [.int .i64 e.thread, .int .i64 e.kind, .int .i64 e.obj, .int .i64 e.value] ∧ x.1 = .agg [.lit (.int .i64 e.thread), .lit (.int .i64 e.kind), .lit (.int .i64 e.obj), .lit (.int .i64 e.value)] ∧ (-9223372036854775808 ≤ e.thread ∧ e.thread ≤ 9223372036854775807) ∧ -9223372036854775808 ≤ e.obj ∧ e.obj ≤ 9223372036854775807 := by
  obtain ⟨y0, y1, y2, y3, n, hx, hlen, h0, h1, h2, h3⟩ := Go.Joins.trod_struct4 Try.underlying45 h
  rw [Try.cellsEv] at hlen
  obtain ⟨c0, c1, c2, c3, rfl⟩ := list4 hlen
  obtain ⟨t, e0, f0, hwf⟩ := DataW.trod_int Try.underlying3 h0
  obtain ⟨k, e1, f1, _⟩ := DataW.trod_int Try.underlying3 h1
  obtain ⟨o, e2, f2, hwo⟩ := DataW.trod_int Try.underlying3 h2
  obtain ⟨v, e3, f3, _⟩ := DataW.trod_int Try.underlying3 h3
  simp [Try.cellsI] at e0 e1 e2 e3
  subst e0 e1 e2 e3
  refine ⟨⟨t, k, o, v⟩, rfl, by rw [hx, f0, f1, f2, f3], ?_⟩
  exact ⟨wf_range hwf, wf_range hwo⟩

/-- A slice that reads as events: its cells are. -/
theorem open_events_f {fuel : Nat} {a : Option Addr} {len cap : Nat} {x : DataW H × List MemPlace} (h : DataW.trod enc Try.prog w base spare held fuel 31 [.slice a len cap] = some x) :
    ∃ l : List Ev, l.length = len ∧ EvS w a l ∧ len ≤ cap ∧ cap ≤ maxLen ∧ (a = none → len = 0 ∧ cap = 0) ∧ ((x.1 = .nil ∧ len = 0) ∨ ∃ sp, x.1 = .slice (l.map fun e => .agg [.lit (.int .i64 e.thread), .lit (.int .i64 e.kind), .lit (.int .i64 e.obj), .lit (.int .i64 e.value)]) sp) ∧ ∀ i, i < l.length → (-9223372036854775808 ≤ (ev l i).thread ∧ (ev l i).thread ≤ 9223372036854775807) ∧ -9223372036854775808 ≤ (ev l i).obj ∧ (ev l i).obj ≤ 9223372036854775807 := by
  rcases open_slice Try.underlying31 h with ⟨hcs, hx⟩ | ⟨x', len', cap', m, n, D, Pl, hcs, _, hl, hm, hmm, hx, hel⟩
  · simp at hcs
    obtain ⟨rfl, rfl, rfl⟩ := hcs
    exact ⟨[], rfl, fun i hi => absurd hi (by simp), Nat.le_refl _, by unfold maxLen; omega, fun _ => ⟨rfl, rfl⟩, .inl ⟨by rw [hx], rfl⟩, fun i hi => absurd hi (by simp)⟩
  · simp at hcs
    obtain ⟨rfl, rfl, rfl⟩ := hcs
    have hlm : len ≤ m := by rw [hmm]; split <;> omega
    have hall : ∀ i, i < len → ∃ e : Ev, w.cells? base (x'.add (i * 4)) 4 = some [.int .i64 e.thread, .int .i64 e.kind, .int .i64 e.obj, .int .i64 e.value] ∧ D i = .agg [.lit (.int .i64 e.thread), .lit (.int .i64 e.kind), .lit (.int .i64 e.obj), .lit (.int .i64 e.value)] ∧ (-9223372036854775808 ≤ e.thread ∧ e.thread ≤ 9223372036854775807) ∧ -9223372036854775808 ≤ e.obj ∧ e.obj ≤ 9223372036854775807 := by
      intro i hi
      obtain ⟨cs', h1, h2⟩ := hel i (by omega)
      rw [Try.cellsEv] at h1
      obtain ⟨e, rfl, h3, h4⟩ := open_event h2
      exact ⟨e, h1, h3, h4⟩
    obtain ⟨f, hf⟩ := choose_ev hall
    refine ⟨(List.range len).map f, by simp, ?_, hl, hm, (fun e => by cases e), .inr ⟨(List.range (m - len)).map fun j => D (len + j), ?_⟩, ?_⟩
    · intro i hi
      simp at hi
      have hfi := (hf i hi).1
      have e' : ((List.range len).map f).getD i Ev.zero = f i := by simp [hi]
      have hspot := spot_of_cells (hf 0 (by omega)).1
      obtain ⟨b, off, spot⟩ := x'
      simp only at hspot
      subst hspot
      obtain ⟨h1, h2⟩ := evAt_of_cells hfi
      refine ⟨b, off, rfl, h1, ?_⟩
      rw [show Ord.ev ((List.range len).map f) i = f i from e']
      exact h2
    · rw [hx, List.map_map]
      have e : (List.range len).map D = (List.range len).map ((fun e : Ev => DataW.agg (H := H) [.lit (.int .i64 e.thread), .lit (.int .i64 e.kind), .lit (.int .i64 e.obj), .lit (.int .i64 e.value)]) ∘ f) := by
        apply List.map_congr_left
        intro q hq
        exact (hf q (List.mem_range.1 hq)).2.1
      rw [e]
    · intro i hi
      simp at hi
      have e' : Ord.ev ((List.range len).map f) i = f i := by simp [Ord.ev, hi]
      rw [e']
      exact (hf i hi).2.2
theorem open_events_r {fuel : Nat} {a : Option Addr} {len cap : Nat} {x : DataW H × List MemPlace} (h : DataW.trod enc Try.prog w base spare held fuel 31 [.slice a len cap] = some x) :
    ∃ l : List Ev, l.length = len ∧ EvS w a l ∧ len ≤ cap ∧ cap ≤ maxLen ∧ (a = none → len = 0 ∧ cap = 0) ∧ ((x.1 = .nil ∧ len = 0) ∨ ∃ sp, x.1 = .slice (l.map fun e => .agg [.lit (.int .i64 e.thread), .lit (.int .i64 e.kind), .lit (.int .i64 e.obj), .lit (.int .i64 e.value)]) sp) ∧ ∀ i, i < l.length → -9223372036854775808 ≤ (ev l i).thread ∧ (ev l i).thread ≤ 9223372036854775807 := by
  obtain ⟨l, h1, h2, h3, h4, h5, h6, h7⟩ := open_events_f h
  exact ⟨l, h1, h2, h3, h4, h5, h6, fun i hi => (h7 i hi).1⟩
theorem open_events {fuel : Nat} {a : Option Addr} {len cap : Nat} {x : DataW H × List MemPlace} (h : DataW.trod enc Try.prog w base spare held fuel 31 [.slice a len cap] = some x) :
    ∃ l : List Ev, l.length = len ∧ EvS w a l ∧ len ≤ cap ∧ cap ≤ maxLen ∧ (a = none → len = 0 ∧ cap = 0) ∧ ((x.1 = .nil ∧ len = 0) ∨ ∃ sp, x.1 = .slice (l.map fun e => .agg [.lit (.int .i64 e.thread), .lit (.int .i64 e.kind), .lit (.int .i64 e.obj), .lit (.int .i64 e.value)]) sp) := by
  obtain ⟨l, h1, h2, h3, h4, h5, h6, _⟩ := open_events_r h
  exact ⟨l, h1, h2, h3, h4, h5, h6⟩
end
end Go.Proofs.Ytomhdopbbnmcnab
namespace Go.Proofs.Ytomhdopbbnmcnab
open Go.ChangeShapes Go.WideShapes Go.ChangeAt Go.RowKit Go.Proofs.Ord

theorem Try.own : ownKnob Try.prog.godebug = none := by kernel_rfl
theorem Try.laidOut : laidOutB Try.prog = true := by kernel_rfl
theorem Try.bytesEv : Try.prog.bytesOf 45 = 32 := by kernel_rfl

/-- The bound gives a slice's length. -/
theorem bulk_one {H : Type} (d : DataW H) : 1 ≤ Rows.uptoBulk d := by
  cases d with
  | lit l => cases l <;> simp [Rows.uptoBulk]
  | nil => simp [Rows.uptoBulk]
  | ptr d => simp [Rows.uptoBulk]
  | slice elems spare => simp [Rows.uptoBulk]
  | agg parts => simp [Rows.uptoBulk]
  | iface t d => simp [Rows.uptoBulk]
  | map entries => simp [Rows.uptoBulk]
  | held h => simp [Rows.uptoBulk]
theorem bulk_length {H : Type} (l : List (DataW H)) : l.length ≤ Rows.uptoBulkAll l := by
  induction l with
  | nil => simp [Rows.uptoBulkAll]
  | cons x r ih => have := bulk_one x; simp only [Rows.uptoBulkAll, List.length_cons]; omega
theorem bulk_slice {H : Type} (elems spare : List (DataW H)) : elems.length ≤ Rows.uptoBulk (.slice elems spare) := by
  have h1 := bulk_length elems
  simp only [Rows.uptoBulk]
  omega
theorem bulk_head {H : Type} {d : DataW H} {l : List (DataW H)} (hk : Rows.uptoSmall H (d :: l) = true) : Rows.uptoBulk d ≤ 1048576 := by
  have h : Rows.uptoBulkAll (d :: l) ≤ 1048576 := of_decide_eq_true hk
  simp only [Rows.uptoBulkAll] at h
  omega

end Go.Proofs.Ytomhdopbbnmcnab
namespace Go.Proofs.Ytomhdopbbnmcnab
open Go.ChangeShapes Go.WideShapes Go.ChangeAt Go.RowKit Go.Proofs.Ord
set_option linter.unusedVariables false

set_option maxRecDepth 100000 in
set_option maxHeartbeats 1000000 in
theorem fastFirst_walk (hF : FastSaid) (hFi : FirstSaid) (a : Option Addr) (n cap : Nat) (l : List Ev) (obj : Int) (w : World) (hn : l.length = n) (hs : EvS w a l) (hb : n ≤ 1048576) (hr : EvR l) :
    Calls Try.prog 9 #[.slice a n cap, .int .i64 obj] w fun e w' => e = .returned (.bool true) ∧ Below w.heap.size w w' := by
  go_enter Try.func9, Try.ntmps9
  go_wp2_with fail
  refine (given_any _ _ _ _ _ hn hs (by omega)).mono ?_
  rintro e w1 ⟨v, rfl, hown, hb1⟩
  obtain ⟨a1, cap1, rfl, _, hc1, hm1, hs1⟩ := evS_of_owns hown
  clear hown
  have hl1 := hs.below hb1
  go_wp2_with fail
  refine (hFi _ _ _ _ _ _ hn hs1 hc1 hm1 hb hr).mono ?_
  rintro e w2 ⟨rfl, hb2⟩
  have hk2 : Below w.heap.size w w2 := hb1.trans (hb2.mono hb1.size)
  have hs2 := hs1.below hb2
  have hl2 := hl1.below hb2
  clear hb1 hb2 hs1 hl1
  go_wp2_with fail
  refine (kept_true _ _ _ _ _ _ _ hn hs2 hl2 (by omega)).mono ?_
  rintro e w3 ⟨rfl, hb3⟩
  have hk3 : Below w.heap.size w w3 := hk2.trans (hb3.mono hk2.size)
  have hl3 := hl2.below hb3
  clear hb3 hk2 hs2 hl2
  go_wp2_with fail
  refine (rFirst_any _ _ _ _ _ _ hn hl3 hb).mono ?_
  rintro e w4 ⟨rfl, hb4⟩
  have hk4 : Below w.heap.size w w4 := hk3.trans (hb4.mono hk3.size)
  clear hb4 hk3 hl3
  go_wp2_with fail
  refine (alive6_true hF _).mono ?_
  rintro e w6 ⟨rfl, hb6⟩
  go_wp2_with fail
  go_ret
  exact ⟨rfl, hk4.trans (hb6.mono hk4.size)⟩

set_option maxRecDepth 100000 in
theorem fastFirst_contract (hF : FastSaid) (hFi : FirstSaid) (H : Type) (enc : TypeId × Value → H) (W : World) (base : Nat) (args : Array Value) (ds gs : List (DataW H)) (before : List MemPlace)
    (hval : ∀ (j : Nat) t v, Try.f9.params[j]? = some t → args[j]? = some v → Value.okWide Try.prog W .any base t v)
    (hW : DataW.Whole enc Try.prog Try.f9.params.toList Rows.fastFirstSpec.vars false W args.toList ds gs before) (hk : Rows.uptoSmall H (ds ++ gs) = true) :
    Calls Try.prog 9 args W fun e W' => ∃ v, e = .returned v ∧ Rows.fastFirstSpec.post enc Try.prog Try.f9 false true false false W args v W' := by
  have hW' := hW
  obtain ⟨p, q, hA0, hV, rfl, hfz, hnd⟩ := hW
  have hA : DataW.TrodAll enc Try.prog W 0 (fun _ => true) true Try.f9.params.toList args.toList ds p := hA0
  rw [Try.params9] at hA hval
  obtain ⟨v0, vs0, d0, ds0, p0, q0, hargs, rfl, rfl, h0, r0⟩ := trodAll_cons hA
  obtain ⟨v1, vs1, d1, ds1, p1, q1, rfl, rfl, rfl, h1, r1⟩ := trodAll_cons r0
  obtain ⟨rfl, rfl, rfl⟩ := trodAll_nil r1
  obtain rfl : args = #[v0, v1] := by cases args; simp_all
  obtain ⟨rfl, rfl⟩ := trodVars_none hV
  obtain ⟨a0, len0, cap0, rfl⟩ := okWide_slice Try.underlying31 (hval 0 31 v0 rfl rfl)
  have k0 := h0
  have lt0 : ∀ x ∈ p0, x.block < W.heap.size := by obtain ⟨m, hm⟩ := k0; exact DataW.trod_lt m _ _ _ hm
  obtain ⟨fuel, hf⟩ := h0
  obtain ⟨l, hl, hs, hlc, hcm, _, hd, hr⟩ := open_events_f (by simpa [Value.cells] using hf)
  have hb : len0 ≤ 1048576 := by
    have h := bulk_head hk
    rcases hd with ⟨_, e⟩ | ⟨sp, hd⟩
    · omega
    · simp only at hd
      rw [hd] at h
      have := bulk_slice (l.map fun e => DataW.agg (H := H) [.lit (.int .i64 e.thread), .lit (.int .i64 e.kind), .lit (.int .i64 e.obj), .lit (.int .i64 e.value)]) sp
      rw [List.length_map, hl] at this
      omega
  obtain ⟨i, rfl, rfl, rfl, w1⟩ := open_int Try.underlying3 (hval 1 3 v1 rfl rfl) h1
  clear hA0
  refine (fastFirst_walk hF hFi a0 len0 cap0 l i W hl hs hb hr).mono fun e W' ⟨he, bel⟩ => ?_
  subst he
  exact ⟨_, rfl, _, _, _, [], _, [], hW', trodAll_mk1 (shut_bool Try.underlying4 _), (trodAll_cons_mk (Below.trod Try.laidOut (by kernel_rfl) (of_decide_eq_true (by kernel_rfl)) k0 bel lt0) (trodAll_cons_mk (shut_int Try.underlying3 w1) trodAll_mk0)), rfl, bel.frame _, fun h => by cases h⟩

set_option maxRecDepth 100000 in
theorem fastFirst_lifted (hF : FastSaid) (hFi : FirstSaid) (os : Os) (started : os.Started) (H : Type) (enc : TypeId × Value → H) (G : Stop.Interp) :
    ReturnsInHanded {} Try.checked os 9 .any ((Rows.OpenSpec.upto Rows.fastFirstSpec).pre6 enc Try.prog Try.f9 Rows.fastFirstUptoRow.domain false) (((Rows.OpenSpec.upto Rows.fastFirstSpec).at G).post enc Try.prog Try.f9 false true false false) := by
  refine returnsInHanded_of_cond (C := Try.checked) (s := Rows.OpenSpec.upto Rows.fastFirstSpec) (k := Rows.uptoSmall) rfl Try.own started (by kernel_rfl) Try.func9
    (OpenSpec.witness (enc := enc) (C := Try.checked) (s := Rows.OpenSpec.upto Rows.fastFirstSpec) (k := Rows.uptoSmall) rfl false ⟨#[], #[.slice none 0 0, .int .i64 0], []⟩ 8 (by kernel_rfl) (by kernel_rfl) (by kernel_rfl)
      (x := ([.nil, .lit (.int .i64 0)], [], [])) (by kernel_rfl) rfl (by kernel_rfl)) ?_
  intro W base args ds gs before hval hW _ hk _
  exact fastFirst_contract hF hFi H enc W base args ds gs before hval hW hk

theorem fastFirst_holds (hF : FastSaid) (hFi : FirstSaid) : Rows.FastFirstUptoSaid :=
  OpenClaim.holds_of_cond 9 Try.f9 rfl rfl rfl rfl rfl rfl rfl ⟨rfl, rfl, rfl, rfl, rfl⟩ rfl rfl rfl rfl rfl (by kernel_rfl) Try.func9 (by kernel_rfl)
    (of_decide_eq_true (by kernel_rfl)) (by unfold Func.isWrapper; first | (rw [if_pos (by decide +kernel)]; kernel_rfl) | (rw [if_neg (by decide +kernel)]; exact ⟨rfl, rfl⟩))
    (fun os started H enc _ G => fastFirst_lifted hF hFi os started H enc G)
end Go.Proofs.Ytomhdopbbnmcnab
