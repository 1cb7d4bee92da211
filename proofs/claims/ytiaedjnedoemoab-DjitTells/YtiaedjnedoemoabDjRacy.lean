import Derived.Test.YtiaedjnedoemoabOrdKept
import Derived.Test.YtiaedjnedoemoabOrdGen
import Derived.Test.YtiaedjnedoemoabDjMath
import Derived.Test.YtiaedjnedoemoabSlBase
namespace Go.Proofs.Ytiaedjnedoemoab
open Go.RowKit Go.Proofs.Ord

/-- Truths lie here. -/
def BoolS (w : World) (a : Option Addr) (n : Nat) (f : Nat → Bool) : Prop :=
  ∀ i, i < n → ∃ b off, a = some ⟨b, off, none⟩ ∧ b < w.heap.size ∧ w.cell? ⟨b, off + i, none⟩ = some (.bool (f i))
theorem BoolS.below {w w' : World} {a : Option Addr} {n : Nat} {f : Nat → Bool} (h : BoolS w a n f) (hb : Below w.heap.size w w') : BoolS w' a n f := by
  intro i hi
  obtain ⟨b, off, e1, e2, e3⟩ := h i hi
  exact ⟨b, off, e1, by have := hb.size; omega, (hb.cell (p := ⟨b, off + i, none⟩) e2).trans e3⟩
theorem Tells.boolS {w : World} {B g n : Nat} {f : Nat → Bool} (h : Tells w B g n f) : BoolS w (some ⟨g, 0, none⟩) n f :=
  fun i hi => ⟨g, 0, rfl, (World.ownsRow.lt h _ rfl).2, by rw [Nat.zero_add]; exact h.cell hi⟩

theorem take_any (P : List (Nat × Nat)) (i : Nat) (hi : i < P.length) (q : Nat) : ((P.take (i + 1)).any fun p => p.2 == q) = (((P.take i).any fun p => p.2 == q) || (P.getD i (0, 0)).2 == q) := by
  rw [List.take_succ_eq_append_getElem hi, List.any_append]
  have : P.getD i (0, 0) = P[i] := by simp [hi]
  rw [this]; simp

set_option maxRecDepth 100000 in
set_option maxHeartbeats 1000000 in
theorem rRacy5_any (a : Option Addr) (n cap : Nat) (l : List Ev) (w : World) (hn : l.length = n) (hs : EvS w a l) (hb : n ≤ 1048576) :
    Calls Try.prog 31 #[.slice a n cap] w fun e w' => e = .returned (.slice (some ⟨w.heap.size, 0, none⟩) n n) ∧ Tells w' w.heap.size w.heap.size n (racy (ev l)) ∧ Below w.heap.size w w' := by
  obtain ⟨i0, hi0, hz0, hz1, hz2⟩ := info_parts Try.infob
  have hlen : (racesTo (ev l) n).length ≤ 1099511627776 := Nat.le_trans (racesTo_length (ev l) n) (Nat.le_trans (Nat.mul_le_mul hb hb) (by omega))
  go_enter Try.func31, Try.ntmps31
  go_wp2_with (at_make; refine wpList_make_full _ rfl _ _ 40 rfl w.heap.size 4 i0 (.bool false) 1 Try.underlying40 hi0 hz0 hz1 _ _ _ _ n rfl rfl (by first | rfl | simp) (by first | rfl | simp) (by rw [hz2]; omega) (by unfold maxLen; omega) (Nat.le_refl _) ?_; intro w1 hown hgrow)
  have ht1 : Tells w1 w.heap.size w.heap.size n (fun _ => false) := by
    unfold Tells
    have e : ((List.range n).map fun _ => Value.bool false) = (madeCells (Value.bool false).cells (n * 1)).toList := by
      rw [show (Value.bool false).cells = #[Value.bool false] from rfl, toList_madeCells_one, Nat.mul_one, List.map_const', List.length_range]
    rw [e]; exact hown
  have hb1 : Below w.heap.size w w1 := (Below.refl _ _).grown hgrow (Nat.le_refl _) (fun q e => by cases e)
  have hlt1 : w.heap.size < w1.heap.size := (World.ownsRow.lt ht1 _ rfl).2
  clear hown hgrow
  refine (rRaces_any _ _ _ _ _ hn (hs.below hb1) hb).mono ?_
  rintro e w2 ⟨v, rfl, hown, hb2⟩
  have hq := pairNew_of_owns hown
  obtain ⟨ap, cp, rfl, _, _, _⟩ := id hq
  have ht2 := ht1.below hb2 hlt1
  have hb3 : Below w.heap.size w w2 := hb1.trans (hb2.mono hb1.size)
  have hany := any_races (ev l) n
  have HA := o_hide hany
  have hJ : Hid (∀ i, i < (racesTo (ev l) n).length → ((racesTo (ev l) n).getD i (0, 0)).2 < n) := by
    intro i hi
    have hm : (racesTo (ev l) n).getD i (0, 0) ∈ racesTo (ev l) n := by
      have e : (racesTo (ev l) n).getD i (0, 0) = (racesTo (ev l) n)[i] := by simp [hi]
      rw [e]; exact List.getElem_mem hi
    exact ((mem_racesTo (ev l) n _ _).1 hm).1
  clear hany hown ht1 hb1 hb2
  generalize racesTo (ev l) n = P at *
  go_wp2_with fail
  go_loopw [5] (fun iv wr => ∃ i : Nat, i ≤ P.length ∧ iv = .int .i64 i ∧ Tells wr w.heap.size w.heap.size n (fun q => (P.take i).any fun p => p.2 == q) ∧ PairNew w1.heap.size wr (.slice ap P.length cp) P ∧ Below w.heap.size w wr) (fun iv _ => P.length - (intOf iv).toNat)
  case atStart => exact ⟨0, Nat.zero_le _, rfl, ht2.congr (fun q _ => by simp), hq, hb3⟩
  case round =>
    clear hq hb3 ht2
    obtain ⟨i, hi, rfl, ht, hq, hbr⟩ := hrel
    by_cases h5 : i < P.length
    · have hJi := hJ.out i h5
      have HT := o_hide (take_any P i h5)
      obtain ⟨b, off, rfl, _, c0, c1⟩ := hq.pairS.2 i h5
      generalize (P.getD i (0, 0)).1 = x at *
      generalize (P.getD i (0, 0)).2 = y at *
      have hfy := ht.frozen y
      have hcy := ht.cell hJi
      have hy : (y : Int) < (n : Int) := by omega
      have ht2 : Hid (Tells (wr.setCell ⟨w.heap.size, y, none⟩ (.bool true)) w.heap.size w.heap.size n (fun q => (P.take (i + 1)).any fun p => p.2 == q)) := by
        refine (ht.stored y true).congr (fun q _ => ?_)
        rw [HT.out]
        by_cases e : q = y
        · subst e; simp
        · have e' : (y == q) = false := by simp; omega
          rw [if_neg e, e', Bool.or_false]
      have hq2 := hq.setCell (o := y) hlt1 (.bool true)
      have hb2 := hbr.setCell (p := ⟨w.heap.size, y, none⟩) (Nat.le_refl _) (.bool true)
      clear HT ht hq hbr
      go_wp2
      go_roundw
      case rel => exact ⟨i + 1, by omega, by go_num, ht2.out, hq2, hb2⟩
      case measure => simp [intOf]; omega
    · have e1 : P.take i = P := List.take_of_length_le (by omega)
      have hfin : Hid (Tells wr w.heap.size w.heap.size n (racy (ev l))) := by
        refine ht.congr (fun q hq => ?_)
        rw [e1]; exact HA.out q hq
      clear e1 ht
      go_wp2_with fail
      go_ret
      exact ⟨rfl, hfin.out, hbr⟩
end Go.Proofs.Ytiaedjnedoemoab
