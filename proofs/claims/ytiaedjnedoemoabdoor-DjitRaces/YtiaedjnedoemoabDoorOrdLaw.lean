import Derived.Test.YtiaedjnedoemoabDoorOrdEv
import Derived.Deep.AppendLies
import Derived.WalkSpells
import Derived.StillTactics
import Derived.OwnWalk
import Derived.Laws.Pointers
namespace Go.Proofs.YtiaedjnedoemoabDoor
open Go.RowKit Go.Proofs.Ord
attribute [local go_sem ↓] Go.wp_at_zero Go.wp_at_succ

theorem Tryd.infoe : (Tryd.prog.info? 35).map (fun i => (i.zero, i.size, i.bytes)) = some (some (.agg #[.int .i64 0, .int .i64 0, .int .i64 0, .int .i64 0]), 4, 32) := by kernel_rfl

/-- Events as cells. -/
def evCells (l : List Ev) : List Value := l.flatMap fun e => [.int .i64 e.thread, .int .i64 e.kind, .int .i64 e.obj, .int .i64 e.value]
theorem evCells_length (l : List Ev) : (evCells l).length = 4 * l.length := by
  induction l with
  | nil => rfl
  | cons p r ih => simp [evCells] at *; omega
theorem evCells_getElem (l : List Ev) : ∀ i, i < l.length → (evCells l)[4 * i]? = some (.int .i64 (ev l i).thread) ∧ (evCells l)[4 * i + 1]? = some (.int .i64 (ev l i).kind) ∧ (evCells l)[4 * i + 2]? = some (.int .i64 (ev l i).obj) ∧ (evCells l)[4 * i + 3]? = some (.int .i64 (ev l i).value) := by
  induction l with
  | nil => intro i hi; simp at hi
  | cons e r ih =>
    intro i hi
    match i with
    | 0 => exact ⟨rfl, rfl, rfl, rfl⟩
    | j + 1 =>
      have h := ih j (by simpa using hi)
      have e1 : evCells (e :: r) = .int .i64 e.thread :: .int .i64 e.kind :: .int .i64 e.obj :: .int .i64 e.value :: evCells r := rfl
      have e2 : ev (e :: r) (j + 1) = ev r j := rfl
      rw [e1, e2, show 4 * (j + 1) = 4 * j + 4 from by omega, show 4 * j + 4 + 1 = 4 * j + 1 + 4 from by omega, show 4 * j + 4 + 2 = 4 * j + 2 + 4 from by omega, show 4 * j + 4 + 3 = 4 * j + 3 + 4 from by omega]
      exact h

/-- What is owned as events' cells is events. -/
theorem evS_of_owns {w : World} {B t n : Nat} {v : Value} {l : List Ev} (h : w.ownsRow B t 4 v n (evCells l)) : ∃ a cap, v = .slice a n cap ∧ l.length = n ∧ n ≤ cap ∧ cap ≤ maxLen ∧ EvS w a l := by
  have hl : l.length = n := by have := h.1; rw [evCells_length] at this; omega
  rcases h.2 with ⟨rfl, h0⟩ | ⟨g, cap, cur, rfl, hB, hg, hc, hm, _, _⟩
  · subst h0
    exact ⟨none, 0, rfl, hl, Nat.le_refl _, by unfold maxLen; omega, fun i hi => absurd hi (by omega)⟩
  · refine ⟨_, cap, rfl, hl, hc, hm, fun i hi => ⟨g, 0, rfl, (Array.getElem?_eq_some_iff.1 hg).1, ?_⟩⟩
    obtain ⟨c0, c1, c2, c3⟩ := evCells_getElem l i hi
    refine ⟨?_, ?_, ?_, ?_⟩
    · rw [show 0 + i * 4 = 4 * i from by omega, h.cellAt _ (by omega)]; exact c0
    · rw [show 0 + i * 4 + 1 = 4 * i + 1 from by omega, h.cellAt _ (by omega)]; exact c1
    · rw [show 0 + i * 4 + 2 = 4 * i + 2 from by omega, h.cellAt _ (by omega)]; exact c2
    · rw [show 0 + i * 4 + 3 = 4 * i + 3 from by omega, h.cellAt _ (by omega)]; exact c3

theorem evCells_take (l : List Ev) (k : Nat) (h : k < l.length) (t ki o v : Int) (e : ev l k = ⟨t, ki, o, v⟩) : evCells (l.take (k + 1)) = evCells (l.take k) ++ [.int .i64 t, .int .i64 ki, .int .i64 o, .int .i64 v] := by
  rw [List.take_succ_eq_append_getElem h]
  have : l[k] = ⟨t, ki, o, v⟩ := by rw [← e]; unfold ev; simp [h]
  simp [evCells, this]

theorem four_new (w : World) (x y z u : Value) (t : Nat) : ∀ j c, [x, y, z, u][j]? = some c → (w.alloc (.cells #[x, y, z, u] t)).cell? (Addr.add ⟨w.heap.size, 0, none⟩ j) = some c := by
  intro j c hj
  match j, hj with
  | 0, hj => simp at hj; subst hj; simp [Addr.add]
  | 1, hj => simp at hj; subst hj; simp [Addr.add]
  | 2, hj => simp at hj; subst hj; simp [Addr.add]
  | 3, hj => simp at hj; subst hj; simp [Addr.add]

set_option maxRecDepth 100000 in
set_option maxHeartbeats 3200000 in
theorem given_any (a : Option Addr) (n cap : Nat) (l : List Ev) (w : World) (hn : l.length = n) (hs : EvS w a l) (hb : n * 32 ≤ 140737488351232) :
    Calls Tryd.prog 4 #[.slice a n cap] w fun e w' => ∃ v, e = .returned v ∧ w'.ownsRow w.heap.size 35 4 v n (evCells l) ∧ Below w.heap.size w w' := by
  obtain ⟨i0, hi0, hz0, hz1, hz2⟩ := info_parts Tryd.infoe
  go_enter Tryd.func4, Tryd.ntmps4
  go_wp2
  go_loopw [3, 4] (fun v i wr => ∃ k : Nat, k ≤ n ∧ i = .int .i64 k ∧ wr.ownsRow w.heap.size 35 4 v k (evCells (l.take k)) ∧ Below w.heap.size w wr) (fun _ i _ => n - (intOf i).toNat)
  case atStart => exact ⟨0, Nat.zero_le _, rfl, World.ownsRow_nil _ _ _ _, Below.refl _ _⟩
  case round =>
    obtain ⟨k, hk, rfl, hown, hbel⟩ := hrel
    have hsz := hbel.size
    by_cases h5 : k < n
    · obtain ⟨b, off, rfl, hlt, _⟩ := hs k (by omega)
      obtain ⟨t1, k1, o1, v1, HE1, c0, c1, c2, c3⟩ := hs.at hbel (i := k) (by omega)
      have HT : Hid (evCells (l.take (k + 1)) = evCells (l.take k) ++ [.int .i64 t1, .int .i64 k1, .int .i64 o1, .int .i64 v1]) := evCells_take l k (by omega) _ _ _ _ HE1.out
      have hkn : (k : Int) < (n : Int) := by omega
      have hk0 : (0 : Int) ≤ (k : Int) := Int.natCast_nonneg _
      have hblt : b < wr.heap.size := by omega
      have ag : u3.ownBlock ≠ some b := fun e => by have := (hown.lt b e).1; omega
      clear HE1
      go_wp2_with fail
      go_region_held3 (fun w' => w'.cell? ⟨b, off + k * 4, none⟩ = some (.int .i64 t1) ∧ w'.cell? ⟨b, off + k * 4 + 1, none⟩ = some (.int .i64 k1) ∧ w'.cell? ⟨b, off + k * 4 + 2, none⟩ = some (.int .i64 o1) ∧ w'.cell? ⟨b, off + k * 4 + 3, none⟩ = some (.int .i64 v1))
        (first
          | go_keep
          | (go_split_ands
             refine ⟨?_, ?_, ?_, ?_⟩
             · (rw [hgrow.cell_far _ (by simp; omega) (Ne.symm ag)]; assumption)
             · (rw [hgrow.cell_far _ (by simp; omega) (Ne.symm ag)]; assumption)
             · (rw [hgrow.cell_far _ (by simp; omega) (Ne.symm ag)]; assumption)
             · (rw [hgrow.cell_far _ (by simp; omega) (Ne.symm ag)]; assumption)))
        ((refine step_append_lies _ (by rfl) _ _ _ (by rfl) w.heap.size 35 i0 _ 4 32 Tryd.underlying23 hi0 hz0 hz1 hz2 rfl (by omega) u3 k (evCells (l.take k)) (by rfl) ((hown.alloc _).drew)
            ⟨wr.heap.size, 0, none⟩ 1 1 [.int .i64 t1, .int .i64 k1, .int .i64 o1, .int .i64 v1] (by rfl) (by rfl) (World.news_of_block (cs := #[.int .i64 t1, .int .i64 k1, .int .i64 o1, .int .i64 v1]) (t := 35) (fr := (0, 0)) (heap_alloc_new wr _)) (by simp [Value.oneCell'])
            (by omega) (by unfold maxLen; omega) (by omega) (by simp; omega) (wr.heap.size + 1) (by simp) ?_; intro gg cap2 w1 hown1 hgrow hat hlt1))
      have hown2 : w1.ownsRow w.heap.size 35 4 (.slice (some ⟨gg, 0, none⟩) (k + 1) cap2) (k + 1) (evCells (l.take (k + 1))) := by rw [HT.out]; exact hown1
      have hbel2 : Below w.heap.size w w1 := Below.grown ((hbel.alloc hbel.size _).drew) hgrow (by simp; omega) (fun q e => (hown.lt q e).1)
      clear hown1 hgrow hown hbel hat
      go_wp2
      go_roundw
      case rel => exact ⟨k + 1, by omega, by go_num, hown2, hbel2⟩
      case measure => simp [intOf]; omega
    · have hkn : k = n := by omega
      have hfin : Hid (wr.ownsRow w.heap.size 35 4 u3 n (evCells l)) := by
        have e : l.take k = l := List.take_of_length_le (by omega)
        rw [e] at hown
        rw [← hkn]; exact hown
      clear hkn hown
      go_wp2
      go_ret
      exact ⟨_, rfl, hfin.out, hbel⟩
end Go.Proofs.YtiaedjnedoemoabDoor
