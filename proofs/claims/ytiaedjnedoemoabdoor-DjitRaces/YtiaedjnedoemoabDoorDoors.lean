import Derived.Test.YtiaedjnedoemoabDoorOrdBase
import Derived.Test.YtiaedjnedoemoabDoorDoorMap
namespace Go.Proofs.YtiaedjnedoemoabDoor
open Go.RowKit Go.Proofs.Ord

/-- The doors by which an event comes, and by which it goes. -/
def inDoors (e : Ev) : List (Int × Int) := (3, e.thread) :: (if e.kind = 5 then [(1, e.obj)] else if e.kind = 3 then [(2, e.obj)] else if e.kind = 8 then [(0, e.obj)] else [])
def outDoors (e : Ev) : List (Int × Int) := if e.kind = 6 then [(1, e.obj)] else if e.kind = 4 then [(2, e.obj)] else if e.kind = 7 then [(3, e.obj)] else []

def dcells (ds : List (Int × Int)) : List Value := ds.flatMap fun d => [.int .i64 d.1, .int .i64 d.2]

/-- The doors that a slice leads to. -/
def DoorS (w : World) (a : Option Addr) (ds : List (Int × Int)) : Prop :=
  ∀ i, i < ds.length → ∃ b, a = some ⟨b, 0, none⟩ ∧ b < w.heap.size ∧ w.cell? ⟨b, 2 * i, none⟩ = some (.int .i64 (ds.getD i (0, 0)).1) ∧ w.cell? ⟨b, 2 * i + 1, none⟩ = some (.int .i64 (ds.getD i (0, 0)).2)

theorem DoorS.below {w w' : World} {a : Option Addr} {ds : List (Int × Int)} (h : DoorS w a ds) (hb : Below w.heap.size w w') : DoorS w' a ds := fun i hi => by
  obtain ⟨b, e, hlt, h1, h2⟩ := h i hi
  exact ⟨b, e, Nat.lt_of_lt_of_le hlt hb.size, (hb.cell (p := ⟨b, 2 * i, none⟩) hlt).trans h1, (hb.cell (p := ⟨b, 2 * i + 1, none⟩) hlt).trans h2⟩

theorem dcells_at (ds : List (Int × Int)) : ∀ i, i < ds.length → (dcells ds)[2 * i]? = some (.int .i64 (ds.getD i (0, 0)).1) ∧ (dcells ds)[2 * i + 1]? = some (.int .i64 (ds.getD i (0, 0)).2) := by
  induction ds with
  | nil => intro i hi; cases hi
  | cons d ds ih =>
    intro i hi
    cases i with
    | zero => exact ⟨rfl, rfl⟩
    | succ i =>
      have h := ih i (by simpa using hi)
      have e1 : 2 * (i + 1) = 2 * i + 1 + 1 := by omega
      have e2 : 2 * (i + 1) + 1 = 2 * i + 1 + 1 + 1 := by omega
      rw [e2, e1]
      simp only [dcells, List.flatMap_cons, List.cons_append, List.nil_append, List.getElem?_cons_succ, List.getD_cons_succ]
      exact h
theorem dcells_len (ds : List (Int × Int)) : (dcells ds).length = ds.length * 2 := by
  induction ds with
  | nil => rfl
  | cons d ds ih => simp only [dcells, List.flatMap_cons, List.length_append, List.length_cons, List.length_nil] at ih ⊢; omega

theorem DoorS.of_owns {B : Nat} {w : World} {v : Value} {n : Nat} {e : TypeId} {ds : List (Int × Int)} (h : w.ownsRow B e 2 v n (dcells ds)) : ∃ a cap, v = .slice a n cap ∧ n = ds.length ∧ n ≤ cap ∧ cap ≤ 9223372036854775807 ∧ DoorS w a ds := by
  have hl : n = ds.length := by have := h.1; rw [dcells_len] at this; omega
  rcases h.2 with ⟨rfl, h0⟩ | ⟨g, cap, cur, rfl, hB, hg, hc, hm, _, _⟩
  · exact ⟨none, 0, by rw [h0], hl, by omega, by omega, fun i hi => absurd hi (by omega)⟩
  · refine ⟨_, cap, rfl, hl, hc, hm, fun i hi => ⟨g, rfl, (Array.getElem?_eq_some_iff.1 hg).1, ?_, ?_⟩⟩
    · have := h.cells (g := g) rfl (2 * i) _ (dcells_at ds i hi).1
      by_cases h0 : 2 * i = 0
      · rw [h0] at this ⊢; simpa [Addr.add] using this
      · simpa [Addr.add, h0] using this
    · have := h.cells (g := g) rfl (2 * i + 1) _ (dcells_at ds i hi).2
      simpa [Addr.add] using this

theorem Tryd.infoD : (Tryd.prog.info? 95).map (fun i => (i.zero, i.size, i.bytes)) = some (some (.agg #[.int .i64 0, .int .i64 0]), 2, 16) := by kernel_rfl

theorem door_made (w : World) (B : Nat) (hB : B ≤ w.heap.size) (d : Int × Int) : (w.alloc (.cells #[.int .i64 d.1, .int .i64 d.2] 95)).ownsRow B 95 2 (.slice (some ⟨w.heap.size, 0, none⟩) 1 1) 1 (dcells [d]) :=
  ⟨by rw [dcells_len]; rfl, .inr ⟨w.heap.size, 1, _, rfl, hB, heap_new_z w _, Nat.le_refl _, by unfold maxLen; omega, rfl, rfl⟩⟩

theorem door_two_new (w : World) (x y : Value) (t : Nat) : ∀ j u, [x, y][j]? = some u → (w.alloc (.cells #[x, y] t)).cell? (Addr.add ⟨w.heap.size, 0, none⟩ j) = some u := by
  intro j u hj
  match j, hj with
  | 0, hj => simp at hj; subst hj; simp [Addr.add]
  | 1, hj => simp at hj; subst hj; simp [Addr.add]

set_option maxRecDepth 100000 in
set_option maxHeartbeats 1000000 in
theorem out_any (t k o v : Int) (w : World) :
    Calls Tryd.prog 42 #[evV ⟨t, k, o, v⟩] w fun e w' => ∃ u, e = .returned u ∧ w'.ownsRow w.heap.size 95 2 u (outDoors ⟨t, k, o, v⟩).length (dcells (outDoors ⟨t, k, o, v⟩)) ∧ Below w.heap.size w w' := by
  have hb1 : Hid (∀ x, Below w.heap.size w (w.alloc x)) := fun x => (Below.refl _ _).alloc (Nat.le_refl _) _
  have hb2 : Hid (∀ x y, Below w.heap.size w ((w.alloc x).alloc y)) := fun x y => ((Below.refl _ _).alloc (Nat.le_refl _) _).alloc (by simp) _
  have hm : Hid (∀ x d, ((w.alloc x).alloc (.cells #[.int .i64 d.1, .int .i64 d.2] 95)).ownsRow w.heap.size 95 2 (.slice (some ⟨w.heap.size + 1, 0, none⟩) 1 1) 1 (dcells [d])) := fun x d => by
    have := door_made (w.alloc x) w.heap.size (by simp) d
    rwa [World.size_alloc] at this
  unfold evV outDoors
  by_cases h6 : k = 6
  · subst h6
    go_enter Tryd.func42, Tryd.ntmps42
    go_wp2
    go_ret
    exact ⟨_, rfl, hm.out _ (1, o), hb2.out _ _⟩
  · by_cases h4 : k = 4
    · subst h4
      go_enter Tryd.func42, Tryd.ntmps42
      go_wp2
      go_ret
      exact ⟨_, rfl, hm.out _ (2, o), hb2.out _ _⟩
    · by_cases h7 : k = 7
      · subst h7
        go_enter Tryd.func42, Tryd.ntmps42
        go_wp2
        go_ret
        exact ⟨_, rfl, hm.out _ (3, o), hb2.out _ _⟩
      · rw [if_neg h6, if_neg h4, if_neg h7]
        have k6 : (k == 6) = false := beq_eq_false_iff_ne.2 h6
        have k4 : (k == 4) = false := beq_eq_false_iff_ne.2 h4
        have k7 : (k == 7) = false := beq_eq_false_iff_ne.2 h7
        clear h6 h4 h7
        go_enter Tryd.func42, Tryd.ntmps42
        go_wp2
        go_ret
        exact ⟨_, rfl, World.ownsRow_nil _ _ _ _, hb1.out _⟩

set_option maxRecDepth 100000 in
set_option maxHeartbeats 1000000 in
theorem in_any (t k o v : Int) (w : World) :
    Calls Tryd.prog 40 #[evV ⟨t, k, o, v⟩] w fun e w' => ∃ u, e = .returned u ∧ w'.ownsRow w.heap.size 95 2 u (inDoors ⟨t, k, o, v⟩).length (dcells (inDoors ⟨t, k, o, v⟩)) ∧ Below w.heap.size w w' := by
  obtain ⟨i0, hi, hz0, hz1, hz2⟩ := info_parts Tryd.infoD
  have hb2 : Hid (∀ x y, Below w.heap.size w ((w.alloc x).alloc y)) := fun x y => ((Below.refl _ _).alloc (Nat.le_refl _) _).alloc (by simp) _
  have hb3 : Hid (∀ x y z, Below w.heap.size w (((w.alloc x).alloc y).alloc z)) := fun x y z => (((Below.refl _ _).alloc (Nat.le_refl _) _).alloc (by simp) _).alloc (by simp; omega) _
  have hm : Hid (∀ x d, ((w.alloc x).alloc (.cells #[.int .i64 d.1, .int .i64 d.2] 95)).ownsRow w.heap.size 95 2 (.slice (some ⟨w.heap.size + 1, 0, none⟩) 1 1) 1 (dcells [d])) := fun x d => by
    have := door_made (w.alloc x) w.heap.size (by simp) d
    rwa [World.size_alloc] at this
  have hn : Hid (∀ x y a b, ∀ j u, [a, b][j]? = some u → (((w.alloc x).alloc y).alloc (.cells #[a, b] 95)).cell? (Addr.add ⟨w.heap.size + 1 + 1, 0, none⟩ j) = some u) := fun x y a b => by
    have := door_two_new ((w.alloc x).alloc y) a b 95
    rwa [World.size_alloc, World.size_alloc] at this
  unfold evV inDoors
  by_cases h5 : k = 5
  · subst h5
    go_enter Tryd.func40, Tryd.ntmps40
    go_wp2_with (at_builtin; refine wpList_append_own _ rfl _ _ 96 rfl w.heap.size 95 i0 (.agg #[.int .i64 0, .int .i64 0]) 2 16 Tryd.underlying96 hi hz0 hz1 hz2 rfl (by decide) _ 1 _ rfl ((hm.out _ (3, t)).alloc _) ⟨w.heap.size + 1 + 1, 0, none⟩ 1 1 [.int .i64 1, .int .i64 o] rfl rfl (hn.out _ _ _ _) (by simp [Value.oneCell']) (by unfold maxLen; omega) (by omega) (by simp; omega) ?_; intro v' w1 hown' hgrow _)
    go_ret
    exact ⟨v', rfl, hown', (hb3.out _ _ _).grown hgrow (by simp; omega) (fun q e => by cases e; simp)⟩
  by_cases h3 : k = 3
  · subst h3
    go_enter Tryd.func40, Tryd.ntmps40
    go_wp2_with (at_builtin; refine wpList_append_own _ rfl _ _ 96 rfl w.heap.size 95 i0 (.agg #[.int .i64 0, .int .i64 0]) 2 16 Tryd.underlying96 hi hz0 hz1 hz2 rfl (by decide) _ 1 _ rfl ((hm.out _ (3, t)).alloc _) ⟨w.heap.size + 1 + 1, 0, none⟩ 1 1 [.int .i64 2, .int .i64 o] rfl rfl (hn.out _ _ _ _) (by simp [Value.oneCell']) (by unfold maxLen; omega) (by omega) (by simp; omega) ?_; intro v' w1 hown' hgrow _)
    go_ret
    exact ⟨v', rfl, hown', (hb3.out _ _ _).grown hgrow (by simp; omega) (fun q e => by cases e; simp)⟩
  by_cases h8 : k = 8
  · subst h8
    go_enter Tryd.func40, Tryd.ntmps40
    go_wp2_with (at_builtin; refine wpList_append_own _ rfl _ _ 96 rfl w.heap.size 95 i0 (.agg #[.int .i64 0, .int .i64 0]) 2 16 Tryd.underlying96 hi hz0 hz1 hz2 rfl (by decide) _ 1 _ rfl ((hm.out _ (3, t)).alloc _) ⟨w.heap.size + 1 + 1, 0, none⟩ 1 1 [.int .i64 0, .int .i64 o] rfl rfl (hn.out _ _ _ _) (by simp [Value.oneCell']) (by unfold maxLen; omega) (by omega) (by simp; omega) ?_; intro v' w1 hown' hgrow _)
    go_ret
    exact ⟨v', rfl, hown', (hb3.out _ _ _).grown hgrow (by simp; omega) (fun q e => by cases e; simp)⟩
  rw [if_neg h5, if_neg h3, if_neg h8]
  have k5 : (k == 5) = false := beq_eq_false_iff_ne.2 h5
  have k3 : (k == 3) = false := beq_eq_false_iff_ne.2 h3
  have k8 : (k == 8) = false := beq_eq_false_iff_ne.2 h8
  clear h5 h3 h8
  go_enter Tryd.func40, Tryd.ntmps40
  go_wp2
  go_ret
  exact ⟨_, rfl, hm.out _ (3, t), hb2.out _ _⟩
end Go.Proofs.YtiaedjnedoemoabDoor
