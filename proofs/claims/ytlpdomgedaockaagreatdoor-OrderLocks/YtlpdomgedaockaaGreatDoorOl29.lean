import Derived.Test.YtlpdomgedaockaaGreatDoorOl1
import Derived.Test.YtlpdomgedaockaaGreatDoorOl28
import Derived.RangeFuncNested
import Derived.RangeFuncBound
import Derived.RangeFuncCalls
import Derived.RangeFuncLeaves
import Derived.Below
set_option linter.unusedVariables false
set_option linter.unusedSimpArgs false
namespace Go.Proofs.YtlpdomgedaockaaGreatDoor
open Go.RowKit Go.Proofs.Ord

/-- The doors by which an event comes, and by which it goes. -/
def inDoors (e : Ev) : List (Int × Int) := (3, e.thread) :: (if e.kind = 5 then [(1, e.obj)] else if e.kind = 3 then [(2, e.obj)] else if e.kind = 8 then [(0, e.obj)] else [])
def outDoors (e : Ev) : List (Int × Int) := if e.kind = 6 then [(1, e.obj)] else if e.kind = 4 then [(2, e.obj)] else if e.kind = 7 then [(3, e.obj)] else []

def dcells (ds : List (Int × Int)) : List Value := ds.flatMap fun d => [.int .i64 d.1, .int .i64 d.2]

/-- The doors that a slice leads to. -/
def DoorS (w : World) (a : Option Addr) (ds : List (Int × Int)) : Prop :=
  ∀ i, i < ds.length → ∃ b, a = some ⟨b, 0, none⟩ ∧ b < w.heap.size ∧ w.cell? ⟨b, 2 * i, none⟩ = some (.int .i64 (ds.getD i (0, 0)).1) ∧ w.cell? ⟨b, 2 * i + 1, none⟩ = some (.int .i64 (ds.getD i (0, 0)).2)

theorem DoorS.below {w w' : World} {a : Option Addr} {ds : List (Int × Int)} (h : DoorS w a ds) (hb : Below w.heap.size w w') : DoorS w' a ds := fun i hi => by
  obtain ⟨b, e, hlt, h1, h2⟩ := h i hi
  exact ⟨b, e, Nat.lt_of_lt_of_le hlt hb.size, (hb.cell (p := ⟨b, 2 * i, none⟩) hlt).trans h1, (hb.cell (p := ⟨b, 2 * i + 1, none⟩) hlt).trans h2⟩

theorem dcells_at (ds : List (Int × Int)) : ∀ i, i < ds.length → (dcells ds)[2 * i]? = some (.int .i64 (ds.getD i (0, 0)).1) ∧ (dcells ds)[2 * i + 1]? = some (.int .i64 (ds.getD i (0, 0)).2) := by
  induction ds with
  | nil => intro i hi; cases hi
  | cons d ds ih =>
    intro i hi
    cases i with
    | zero => exact ⟨rfl, rfl⟩
    | succ i =>
      have h := ih i (by simpa using hi)
      have e1 : 2 * (i + 1) = 2 * i + 1 + 1 := by omega
      have e2 : 2 * (i + 1) + 1 = 2 * i + 1 + 1 + 1 := by omega
      rw [e2, e1]
      simp only [dcells, List.flatMap_cons, List.cons_append, List.nil_append, List.getElem?_cons_succ, List.getD_cons_succ]
      exact h
theorem dcells_len (ds : List (Int × Int)) : (dcells ds).length = ds.length * 2 := by
  induction ds with
  | nil => rfl
  | cons d ds ih => simp only [dcells, List.flatMap_cons, List.length_append, List.length_cons, List.length_nil] at ih ⊢; omega

theorem DoorS.of_owns {B : Nat} {w : World} {v : Value} {n : Nat} {e : TypeId} {ds : List (Int × Int)} (h : w.ownsRow B e 2 v n (dcells ds)) : ∃ a cap, v = .slice a n cap ∧ n = ds.length ∧ n ≤ cap ∧ cap ≤ 9223372036854775807 ∧ DoorS w a ds := by
  have hl : n = ds.length := by have := h.1; rw [dcells_len] at this; omega
  rcases h.2 with ⟨rfl, h0⟩ | ⟨g, cap, cur, rfl, hB, hg, hc, hm, _, _⟩
  · exact ⟨none, 0, by rw [h0], hl, by omega, by omega, fun i hi => absurd hi (by omega)⟩
  · refine ⟨_, cap, rfl, hl, hc, hm, fun i hi => ⟨g, rfl, (Array.getElem?_eq_some_iff.1 hg).1, ?_, ?_⟩⟩
    · have := h.cells (g := g) rfl (2 * i) _ (dcells_at ds i hi).1
      by_cases h0 : 2 * i = 0
      · rw [h0] at this ⊢; simpa [Addr.add] using this
      · simpa [Addr.add, h0] using this
    · have := h.cells (g := g) rfl (2 * i + 1) _ (dcells_at ds i hi).2
      simpa [Addr.add] using this

theorem Tryz.infoD : (Tryz.prog.info? 161).map (fun i => (i.zero, i.size, i.bytes)) = some (some (.agg #[.int .i64 0, .int .i64 0]), 2, 16) := by kernel_rfl

theorem door_made (w : World) (B : Nat) (hB : B ≤ w.heap.size) (d : Int × Int) : (w.alloc (.cells #[.int .i64 d.1, .int .i64 d.2] 161)).ownsRow B 161 2 (.slice (some ⟨w.heap.size, 0, none⟩) 1 1) 1 (dcells [d]) :=
  ⟨by rw [dcells_len]; rfl, .inr ⟨w.heap.size, 1, _, rfl, hB, heap_new_z w _, Nat.le_refl _, by unfold maxLen; omega, rfl, rfl⟩⟩

theorem door_two_new (w : World) (x y : Value) (t : Nat) : ∀ j u, [x, y][j]? = some u → (w.alloc (.cells #[x, y] t)).cell? (Addr.add ⟨w.heap.size, 0, none⟩ j) = some u := by
  intro j u hj
  match j, hj with
  | 0, hj => simp at hj; subst hj; simp [Addr.add]
  | 1, hj => simp at hj; subst hj; simp [Addr.add]

set_option maxRecDepth 100000 in
set_option maxHeartbeats 1000000 in
theorem out_any (t k o v : Int) (w : World) :
    Calls Tryz.prog 59 #[evV ⟨t, k, o, v⟩] w fun e w' => ∃ u, e = .returned u ∧ w'.ownsRow w.heap.size 161 2 u (outDoors ⟨t, k, o, v⟩).length (dcells (outDoors ⟨t, k, o, v⟩)) ∧ Below w.heap.size w w' := by
  have hb1 : Hid (∀ x, Below w.heap.size w (w.alloc x)) := fun x => (Below.refl _ _).alloc (Nat.le_refl _) _
  have hb2 : Hid (∀ x y, Below w.heap.size w ((w.alloc x).alloc y)) := fun x y => ((Below.refl _ _).alloc (Nat.le_refl _) _).alloc (by simp) _
  have hm : Hid (∀ x d, ((w.alloc x).alloc (.cells #[.int .i64 d.1, .int .i64 d.2] 161)).ownsRow w.heap.size 161 2 (.slice (some ⟨w.heap.size + 1, 0, none⟩) 1 1) 1 (dcells [d])) := fun x d => by
    have := door_made (w.alloc x) w.heap.size (by simp) d
    rwa [World.size_alloc] at this
  unfold evV outDoors
  by_cases h6 : k = 6
  · subst h6
    go_enter Tryz.func59, Tryz.ntmps59
    go_wp2
    go_ret
    exact ⟨_, rfl, hm.out _ (1, o), hb2.out _ _⟩
  · by_cases h4 : k = 4
    · subst h4
      go_enter Tryz.func59, Tryz.ntmps59
      go_wp2
      go_ret
      exact ⟨_, rfl, hm.out _ (2, o), hb2.out _ _⟩
    · by_cases h7 : k = 7
      · subst h7
        go_enter Tryz.func59, Tryz.ntmps59
        go_wp2
        go_ret
        exact ⟨_, rfl, hm.out _ (3, o), hb2.out _ _⟩
      · rw [if_neg h6, if_neg h4, if_neg h7]
        have k6 : (k == 6) = false := beq_eq_false_iff_ne.2 h6
        have k4 : (k == 4) = false := beq_eq_false_iff_ne.2 h4
        have k7 : (k == 7) = false := beq_eq_false_iff_ne.2 h7
        clear h6 h4 h7
        go_enter Tryz.func59, Tryz.ntmps59
        go_wp2
        go_ret
        exact ⟨_, rfl, World.ownsRow_nil _ _ _ _, hb1.out _⟩

set_option maxRecDepth 100000 in
set_option maxHeartbeats 1000000 in
theorem in_any (t k o v : Int) (w : World) :
    Calls Tryz.prog 57 #[evV ⟨t, k, o, v⟩] w fun e w' => ∃ u, e = .returned u ∧ w'.ownsRow w.heap.size 161 2 u (inDoors ⟨t, k, o, v⟩).length (dcells (inDoors ⟨t, k, o, v⟩)) ∧ Below w.heap.size w w' := by
  obtain ⟨i0, hi, hz0, hz1, hz2⟩ := info_parts Tryz.infoD
  have hb2 : Hid (∀ x y, Below w.heap.size w ((w.alloc x).alloc y)) := fun x y => ((Below.refl _ _).alloc (Nat.le_refl _) _).alloc (by simp) _
  have hb3 : Hid (∀ x y z, Below w.heap.size w (((w.alloc x).alloc y).alloc z)) := fun x y z => (((Below.refl _ _).alloc (Nat.le_refl _) _).alloc (by simp) _).alloc (by simp; omega) _
  have hm : Hid (∀ x d, ((w.alloc x).alloc (.cells #[.int .i64 d.1, .int .i64 d.2] 161)).ownsRow w.heap.size 161 2 (.slice (some ⟨w.heap.size + 1, 0, none⟩) 1 1) 1 (dcells [d])) := fun x d => by
    have := door_made (w.alloc x) w.heap.size (by simp) d
    rwa [World.size_alloc] at this
  have hn : Hid (∀ x y a b, ∀ j u, [a, b][j]? = some u → (((w.alloc x).alloc y).alloc (.cells #[a, b] 161)).cell? (Addr.add ⟨w.heap.size + 1 + 1, 0, none⟩ j) = some u) := fun x y a b => by
    have := door_two_new ((w.alloc x).alloc y) a b 161
    rwa [World.size_alloc, World.size_alloc] at this
  unfold evV inDoors
  by_cases h5 : k = 5
  · subst h5
    go_enter Tryz.func57, Tryz.ntmps57
    go_wp2_with (at_builtin; refine wpList_append_own _ rfl _ _ 162 rfl w.heap.size 161 i0 (.agg #[.int .i64 0, .int .i64 0]) 2 16 Tryz.underlying162 hi hz0 hz1 hz2 rfl (by decide) _ 1 _ rfl ((hm.out _ (3, t)).alloc _) ⟨w.heap.size + 1 + 1, 0, none⟩ 1 1 [.int .i64 1, .int .i64 o] rfl rfl (hn.out _ _ _ _) (by simp [Value.oneCell']) (by unfold maxLen; omega) (by omega) (by simp; omega) ?_; intro v' w1 hown' hgrow _)
    go_ret
    exact ⟨v', rfl, hown', (hb3.out _ _ _).grown hgrow (by simp; omega) (fun q e => by cases e; simp)⟩
  by_cases h3 : k = 3
  · subst h3
    go_enter Tryz.func57, Tryz.ntmps57
    go_wp2_with (at_builtin; refine wpList_append_own _ rfl _ _ 162 rfl w.heap.size 161 i0 (.agg #[.int .i64 0, .int .i64 0]) 2 16 Tryz.underlying162 hi hz0 hz1 hz2 rfl (by decide) _ 1 _ rfl ((hm.out _ (3, t)).alloc _) ⟨w.heap.size + 1 + 1, 0, none⟩ 1 1 [.int .i64 2, .int .i64 o] rfl rfl (hn.out _ _ _ _) (by simp [Value.oneCell']) (by unfold maxLen; omega) (by omega) (by simp; omega) ?_; intro v' w1 hown' hgrow _)
    go_ret
    exact ⟨v', rfl, hown', (hb3.out _ _ _).grown hgrow (by simp; omega) (fun q e => by cases e; simp)⟩
  by_cases h8 : k = 8
  · subst h8
    go_enter Tryz.func57, Tryz.ntmps57
    go_wp2_with (at_builtin; refine wpList_append_own _ rfl _ _ 162 rfl w.heap.size 161 i0 (.agg #[.int .i64 0, .int .i64 0]) 2 16 Tryz.underlying162 hi hz0 hz1 hz2 rfl (by decide) _ 1 _ rfl ((hm.out _ (3, t)).alloc _) ⟨w.heap.size + 1 + 1, 0, none⟩ 1 1 [.int .i64 0, .int .i64 o] rfl rfl (hn.out _ _ _ _) (by simp [Value.oneCell']) (by unfold maxLen; omega) (by omega) (by simp; omega) ?_; intro v' w1 hown' hgrow _)
    go_ret
    exact ⟨v', rfl, hown', (hb3.out _ _ _).grown hgrow (by simp; omega) (fun q e => by cases e; simp)⟩
  rw [if_neg h5, if_neg h3, if_neg h8]
  have k5 : (k == 5) = false := beq_eq_false_iff_ne.2 h5
  have k3 : (k == 3) = false := beq_eq_false_iff_ne.2 h3
  have k8 : (k == 8) = false := beq_eq_false_iff_ne.2 h8
  clear h5 h3 h8
  go_enter Tryz.func57, Tryz.ntmps57
  go_wp2
  go_ret
  exact ⟨_, rfl, hm.out _ (3, t), hb2.out _ _⟩
end Go.Proofs.YtlpdomgedaockaaGreatDoor
namespace Go.Proofs.YtlpdomgedaockaaGreatDoor
open Go.RowKit Go.Proofs.Ord

/-- All doors, the thread's own with them. -/
def allOut (e : Ev) : List (Int × Int) := (0, e.thread) :: outDoors e
def allIn (e : Ev) : List (Int × Int) := (0, e.thread) :: inDoors e

theorem outDoors_mem (e : Ev) (d : Int × Int) : d ∈ outDoors e ↔ (e.kind = 6 ∧ d = (1, e.obj)) ∨ (e.kind = 4 ∧ d = (2, e.obj)) ∨ (e.kind = 7 ∧ d = (3, e.obj)) := by
  unfold outDoors
  split
  · rename_i h; simp [h]
  · split
    · rename_i h; simp [h]
    · split
      · rename_i h; simp [h]
      · rename_i h1 h2 h3; simp [h1, h2, h3]
theorem inDoors_mem (e : Ev) (d : Int × Int) : d ∈ inDoors e ↔ d = (3, e.thread) ∨ (e.kind = 5 ∧ d = (1, e.obj)) ∨ (e.kind = 3 ∧ d = (2, e.obj)) ∨ (e.kind = 8 ∧ d = (0, e.obj)) := by
  unfold inDoors
  rw [List.mem_cons]
  split
  · rename_i h; simp [h]
  · split
    · rename_i h; simp [h]
    · split
      · rename_i h; simp [h]
      · rename_i h1 h2 h3; simp [h1, h2, h3]

/-- Events lead to one another by doors. -/
theorem leads_iff (a b : Ev) : leads a b = true ↔ ∃ d, d ∈ allOut a ∧ d ∈ allIn b := by
  have key : leads a b = true ↔ a.thread = b.thread ∨ (a.kind = 6 ∧ b.kind = 5 ∧ a.obj = b.obj) ∨ (a.kind = 4 ∧ b.kind = 3 ∧ a.obj = b.obj) ∨ (a.kind = 7 ∧ a.obj = b.thread) ∨ (b.kind = 8 ∧ b.obj = a.thread) := by
    simp only [leads, Bool.or_eq_true, Bool.and_eq_true, beq_iff_eq]
    constructor
    · rintro ((((h | ⟨⟨h1, h2⟩, h3⟩) | ⟨⟨h1, h2⟩, h3⟩) | ⟨h1, h2⟩) | ⟨h1, h2⟩)
      · exact .inl h
      · exact .inr (.inl ⟨h1, h2, h3⟩)
      · exact .inr (.inr (.inl ⟨h1, h2, h3⟩))
      · exact .inr (.inr (.inr (.inl ⟨h1, h2⟩)))
      · exact .inr (.inr (.inr (.inr ⟨h1, h2⟩)))
    · rintro (h | ⟨h1, h2, h3⟩ | ⟨h1, h2, h3⟩ | ⟨h1, h2⟩ | ⟨h1, h2⟩)
      · exact .inl (.inl (.inl (.inl h)))
      · exact .inl (.inl (.inl (.inr ⟨⟨h1, h2⟩, h3⟩)))
      · exact .inl (.inl (.inr ⟨⟨h1, h2⟩, h3⟩))
      · exact .inl (.inr ⟨h1, h2⟩)
      · exact .inr ⟨h1, h2⟩
  rw [key]
  constructor
  · rintro (h | ⟨h1, h2, h3⟩ | ⟨h1, h2, h3⟩ | ⟨h1, h2⟩ | ⟨h1, h2⟩)
    · exact ⟨(0, a.thread), List.mem_cons_self, by rw [h]; exact List.mem_cons_self⟩
    · exact ⟨(1, a.obj), List.mem_cons_of_mem _ ((outDoors_mem _ _).2 (.inl ⟨h1, rfl⟩)), List.mem_cons_of_mem _ ((inDoors_mem _ _).2 (.inr (.inl ⟨h2, by rw [h3]⟩)))⟩
    · exact ⟨(2, a.obj), List.mem_cons_of_mem _ ((outDoors_mem _ _).2 (.inr (.inl ⟨h1, rfl⟩))), List.mem_cons_of_mem _ ((inDoors_mem _ _).2 (.inr (.inr (.inl ⟨h2, by rw [h3]⟩))))⟩
    · exact ⟨(3, a.obj), List.mem_cons_of_mem _ ((outDoors_mem _ _).2 (.inr (.inr ⟨h1, rfl⟩))), List.mem_cons_of_mem _ ((inDoors_mem _ _).2 (.inl (by rw [h2])))⟩
    · exact ⟨(0, a.thread), List.mem_cons_self, List.mem_cons_of_mem _ ((inDoors_mem _ _).2 (.inr (.inr (.inr ⟨h1, by rw [h2]⟩))))⟩
  · rintro ⟨d, ho, hi⟩
    rcases List.mem_cons.1 ho with rfl | ho <;> rcases List.mem_cons.1 hi with hi | hi
    · exact .inl (by simpa using hi)
    · rcases (inDoors_mem _ _).1 hi with h | ⟨_, h⟩ | ⟨_, h⟩ | ⟨h8, h⟩
      · simp at h
      · simp at h
      · simp at h
      · exact .inr (.inr (.inr (.inr ⟨h8, by simpa using h.symm⟩)))
    · subst hi
      rcases (outDoors_mem _ _).1 ho with ⟨_, h⟩ | ⟨_, h⟩ | ⟨_, h⟩ <;> simp at h
    · rcases (outDoors_mem _ _).1 ho with ⟨ha, rfl⟩ | ⟨ha, rfl⟩ | ⟨ha, rfl⟩ <;> rcases (inDoors_mem _ _).1 hi with h | ⟨hb, h⟩ | ⟨hb, h⟩ | ⟨hb, h⟩
      all_goals try (exfalso; simp at h; done)
      · exact .inr (.inl ⟨ha, hb, by simpa using h⟩)
      · exact .inr (.inr (.inl ⟨ha, hb, by simpa using h⟩))
      · exact .inr (.inr (.inr (.inl ⟨ha, by simpa using h⟩)))

/-- Of the first n events those that went out by a door, or are before one that did. -/
def gone (l : Nat → Ev) (n : Nat) (d : Int × Int) (i : Nat) : Prop := ∃ q, q < n ∧ (i = q ∨ bef l i q = true) ∧ d ∈ allOut (l q)

theorem bef_gone (l : Nat → Ev) (i n : Nat) : bef l i n = true ↔ ∃ d, d ∈ allIn (l n) ∧ gone l n d i := by
  rw [bef_iff]
  constructor
  · rintro ⟨h1, h | ⟨k, h2, h3, h4, h5⟩⟩
    · obtain ⟨d, ho, hi⟩ := (leads_iff _ _).1 h
      exact ⟨d, hi, i, h1, .inl rfl, ho⟩
    · obtain ⟨d, ho, hi⟩ := (leads_iff _ _).1 h5
      exact ⟨d, hi, k, h3, .inr h4, ho⟩
  · rintro ⟨d, hi, q, hq, h | h, ho⟩
    · subst h; exact ⟨hq, .inl ((leads_iff _ _).2 ⟨d, ho, hi⟩)⟩
    · have := bef_lt h
      exact ⟨by omega, .inr ⟨q, this, hq, h, (leads_iff _ _).2 ⟨d, ho, hi⟩⟩⟩

theorem gone_succ (l : Nat → Ev) (n : Nat) (d : Int × Int) (i : Nat) : gone l (n + 1) d i ↔ gone l n d i ∨ (d ∈ allOut (l n) ∧ (i = n ∨ bef l i n = true)) := by
  constructor
  · rintro ⟨q, hq, h, ho⟩
    by_cases e : q = n
    · subst e; exact .inr ⟨ho, h⟩
    · exact .inl ⟨q, by omega, h, ho⟩
  · rintro (⟨q, hq, h, ho⟩ | ⟨ho, h⟩)
    · exact ⟨q, by omega, h, ho⟩
    · exact ⟨n, by omega, h, ho⟩
theorem gone_zero (l : Nat → Ev) (d : Int × Int) (i : Nat) : ¬ gone l 0 d i := by rintro ⟨q, hq, _⟩; omega

/-- What has gone behind event n, told by its doors. -/
theorem gone_after (l : Nat → Ev) (n : Nat) (x : Int × Int) (i : Nat) (t kd o v : Int) (hl : l n = ⟨t, kd, o, v⟩) (us : List (Int × Int)) (hus : outDoors ⟨t, kd, o, v⟩ = us) :
    gone l (n + 1) x i ↔ (if x = (0, t) then (i = n ∨ bef l i n = true) else gone l n x i ∨ (x ∈ us ∧ (i = n ∨ bef l i n = true))) := by
  rw [gone_succ, hl]
  have ha : ∀ y, y ∈ allOut ⟨t, kd, o, v⟩ ↔ y = (0, t) ∨ y ∈ us := fun y => by unfold allOut; rw [List.mem_cons, hus]
  rw [ha]
  by_cases hx : x = (0, t)
  · subst hx
    rw [if_pos rfl]
    constructor
    · rintro (h | ⟨_, h⟩)
      · exact .inr ((bef_gone l i n).2 ⟨(0, t), by rw [hl]; exact List.mem_cons_self, h⟩)
      · exact h
    · exact fun h => .inr ⟨.inl rfl, h⟩
  · rw [if_neg hx]
    constructor
    · rintro (h | ⟨h | h, h2⟩)
      · exact .inl h
      · exact absurd h hx
      · exact .inr ⟨h, h2⟩
    · rintro (h | ⟨h, h2⟩)
      · exact .inl h
      · exact .inr ⟨.inr h, h2⟩
theorem outDoors_len (e : Ev) : (outDoors e).length ≤ 1 := by
  unfold outDoors
  split
  · simp
  · split
    · simp
    · split <;> simp
theorem outDoors_own {e : Ev} {d : Int × Int} (h : d ∈ outDoors e) (t : Int) : d ≠ (0, t) := by
  rcases (outDoors_mem _ _).1 h with ⟨_, rfl⟩ | ⟨_, rfl⟩ | ⟨_, rfl⟩ <;> simp

/-- A set holds just those of the first K of which p holds. -/
def Holds (ws : List Nat) (K : Nat) (p : Nat → Prop) : Prop := (∀ i, bitOf ws i = true ↔ i < K ∧ p i) ∧ ws.length ≤ K / 64 + 1
theorem Holds.nil (K : Nat) {p : Nat → Prop} (h : ∀ i, ¬ p i) : Holds [] K p := ⟨fun i => by rw [bit_nil]; simp [h i], Nat.zero_le _⟩
theorem Holds.join {s o : List Nat} {K : Nat} {p q : Nat → Prop} (hs : Holds s K p) (ho : Holds o K q) : Holds (joinL s o) K (fun i => p i ∨ q i) := by
  refine ⟨fun i => ?_, by rw [joinL_len]; have := hs.2; have := ho.2; omega⟩
  rw [bit_join, Bool.or_eq_true, hs.1, ho.1]
  constructor
  · rintro (⟨h1, h2⟩ | ⟨h1, h2⟩)
    · exact ⟨h1, .inl h2⟩
    · exact ⟨h1, .inr h2⟩
  · rintro ⟨h1, h2 | h2⟩
    · exact .inl ⟨h1, h2⟩
    · exact .inr ⟨h1, h2⟩
theorem Holds.with {s : List Nat} {K : Nat} {p : Nat → Prop} (hs : Holds s K p) {n : Nat} (hn : n < K) : Holds (withL s n) K (fun i => p i ∨ i = n) := by
  refine ⟨fun i => ?_, by rw [withL_len]; have := hs.2; have : n / 64 ≤ K / 64 := Nat.div_le_div_right (by omega); omega⟩
  rw [bit_with, Bool.or_eq_true, hs.1, decide_eq_true_eq]
  constructor
  · rintro (⟨h1, h2⟩ | h)
    · exact ⟨h1, .inl h2⟩
    · exact ⟨by omega, .inr h⟩
  · rintro ⟨h1, h2 | h2⟩
    · exact .inl ⟨h1, h2⟩
    · exact .inr h2
theorem Holds.iff {s : List Nat} {K : Nat} {p q : Nat → Prop} (hs : Holds s K p) (h : ∀ i, i < K → (p i ↔ q i)) : Holds s K q := by
  refine ⟨fun i => ?_, hs.2⟩
  rw [hs.1]
  constructor
  · rintro ⟨h1, h2⟩; exact ⟨h1, (h i h1).1 h2⟩
  · rintro ⟨h1, h2⟩; exact ⟨h1, (h i h1).2 h2⟩
end Go.Proofs.YtlpdomgedaockaaGreatDoor
namespace Go.Proofs.YtlpdomgedaockaaGreatDoor
open Go.RowKit

/-- Of whom a block is: one side's. -/
abbrev Side := Nat → Prop

/-- One side's step: nothing is changed but its own blocks; what is its own afterwards was so, or is new. -/
structure Steps (O : Side) (W : World) (O' : Side) (W' : World) : Prop where
  os : W'.os = W.os
  tape : W'.tape = W.tape
  output : W'.output = W.output
  size : W.heap.size ≤ W'.heap.size
  grows : ∀ b, O b → O' b
  fresh : ∀ b, O' b → O b ∨ W.heap.size ≤ b
  rest : ∀ b, b < W.heap.size → ¬ O b → W'.heap[b]? = W.heap[b]?

theorem Steps.refl (O : Side) (W : World) : Steps O W O W := ⟨rfl, rfl, rfl, Nat.le_refl _, fun _ h => h, fun _ h => .inl h, fun _ _ _ => rfl⟩
theorem Steps.trans {O O' O'' : Side} {W W' W'' : World} (h : Steps O W O' W') (k : Steps O' W' O'' W'') : Steps O W O'' W'' :=
  ⟨k.os.trans h.os, k.tape.trans h.tape, k.output.trans h.output, Nat.le_trans h.size k.size, fun b hb => k.grows b (h.grows b hb),
    fun b hb => (k.fresh b hb).elim (h.fresh b) (fun hs => .inr (Nat.le_trans h.size hs)),
    fun b hb hO => (k.rest b (Nat.lt_of_lt_of_le hb h.size) (fun h' => (h.fresh b h').elim hO (fun hs => by omega))).trans (h.rest b hb hO)⟩
/-- A law's step that writes one block of the side's, or none: what is new becomes the side's. -/
theorem Steps.grown {O : Side} {W W' : World} {row : Option Nat} (hg : W.grownBy W' row) (hr : ∀ b, row = some b → O b) : Steps O W (fun b => O b ∨ (W.heap.size ≤ b ∧ b < W'.heap.size)) W' :=
  ⟨hg.os, hg.tape, hg.output, hg.size, fun _ h => .inl h, fun _ h => h.imp id And.left, fun b hb hO => hg.block b hb (fun e => hO (hr b e.symm))⟩

/-- What is said of one side's blocks holds wherever they are as they were. -/
def Stable {β : Type} (J : β → Side → World → Prop) : Prop :=
  ∀ s O W W', J s O W → W.heap.size ≤ W'.heap.size → W'.os = W.os → W'.tape = W.tape → W'.output = W.output → (∀ b, O b → W'.heap[b]? = W.heap[b]?) → J s O W'

/-- An iterator that has blocks of its own. Base: what it reads that was there before. E: what it says of what it hands over. -/
def SeqF {α : Type} (F : Fence) (n : Nat) (P : Program) (g : Nat) (lb : Array Value) (encs : α → Array Value) (Base : Side) (E : List α → α → Side → World → Prop) (S Sp : List α → Prop) (w : World) : Prop :=
  ∀ (l : Nat) (J Jx : List α → Side → World → Prop) (W : World), Below w.heap.size w W → Stable J → Stable Jx → (∀ pre O W1, J pre O W1 → ∀ b, O b → b < W1.heap.size) →
    (∀ pre O W1, J pre O W1 → ∀ b, Base b → O b ∧ W1.heap[b]? = W.heap[b]?) →
    (∀ pre x O W1, J pre O W1 → E pre x O W1 → YieldAt F (n - 1) P l (encs x) W1 fun e W' => ∃ O', Steps O W1 O' W' ∧
      ((e = .returned (.bool true) ∧ J (pre ++ [x]) O' W') ∨ (e = .returned (.bool false) ∧ Jx (pre ++ [x]) O' W'))) →
    J [] (fun b => b < W.heap.size) W →
    CallsIn F n P g (#[.func (.yield l) #[] #[]] ++ lb) W fun e W' => (∃ v, e = .returned v) ∧ ∃ O', ((∃ xs, S xs ∧ J xs O' W') ∨ (∃ pre, Sp pre ∧ Jx pre O' W'))

/-- How the body of a round may be left. -/
def framePost {α : Type} (I : List α → Side → World → Prop) (Ix : Code → List α → Side → World → Prop) (xs : List α) (O : Side) (W : World) : Exit → Act → World → Prop
  | .normal, _, W' => ∃ O', Steps O W O' W' ∧ I xs O' W'
  | .ret, _, W' => ∃ O', Steps O W O' W' ∧ Ix .ret xs O' W'
  | .exit id, _, W' => ∃ O', Steps O W O' W' ∧ Ix (.exit id) xs O' W'
  | .goto t, _, W' => ∃ O', Steps O W O' W' ∧ Ix (.goto t) xs O' W'
  | .panic _, _, _ => False
  | .outgrown, _, _ => False

variable {F : Fence} {n : Nat} {P : Program}

/-- 'for x := range it { .. }', where the iterator has blocks of its own. -/
theorem wpIn_rangeFunc_frame {α : Type} {g : Operand} {ps : Array Tmp} {assign body : Code} {Q : Exit → Act → World → Prop} {a : Act} {w : World}
    (hro : F.round = none) (h1 : 1 ≤ n) {gf : Nat} {lb : Array Value} (hg : a.eval g = .func (.func gf) #[] lb) (hFg : F.fn gf) (eg : ∀ args w, (callFunc gf args).run P w = .ok (.enter gf args) w)
    {encs : α → Array Value} {Base : Side} {E : List α → α → Side → World → Prop} {S Sp : List α → Prop} {w0 : World} (hseq : SeqF F (n - 1) P gf lb encs Base E S Sp w0) (hb0 : Below w0.heap.size w0 w) (hps : ∀ x, (encs x).size = ps.size)
    (hE : ∀ pre x O W O' W', E pre x O W → Steps O W O' W' → E pre x O' W') (hEa : ∀ pre x (O O' : Side) W, E pre x O W → (∀ b, O' b → O b) → E pre x O' W)
    (I : List α → Side → World → Prop) (Ix : Code → List α → Side → World → Prop) (hI : Stable I) (hIx : ∀ c, Stable (Ix c)) (hin : ∀ pre O W, I pre O W → ∀ b, O b → b < W.heap.size) (hinx : ∀ c pre O W, Ix c pre O W → ∀ b, O b → b < W.heap.size)
    (hbase : ∀ pre O W, I pre O W → ∀ b, Base b → O b ∧ W.heap[b]? = w.heap[b]?) (hblt : ∀ b, Base b → b < w.heap.size) (h0 : I [] (fun b => b < w.heap.size) w)
    (Ax : List α → α → Act → Side → World → Prop) (hAx : ∀ pre x a', Stable (fun (_ : Unit) => Ax pre x a'))
    (hassign : ∀ (l : Nat) (pre : List α) (x : α) (O : Side) (W : World) (K : Act → World → Prop), I pre O W → E pre x O W → (∀ a' O' W', Steps O W O' W' → I pre O' W' → Ax pre x a' O' W' → K a' W') →
      assign.wpIn (F.inRound l) (n - 1 - 1) P (Exit.then K (fun _ _ _ => False)) { tmps := (ps.zip (encs x)).foldl (fun t (p, v) => t.setIfInBounds p v) a.tmps, defers := [] } W)
    (hbody : ∀ (l : Nat) (pre : List α) (x : α) (a' : Act) (O : Side) (W : World), (∃ r, W.heap[l]? = some (.loop r)) → ¬ O l → I pre O W → E pre x O W → Ax pre x a' O W → body.wpIn (F.inRound l) (n - 1 - 1) P (framePost I Ix (pre ++ [x]) O W) a' W)
    (hdone : ∀ (xs : List α) (O : Side) (W : World), S xs → I xs O W → ¬ O w.heap.size → W.heap[w.heap.size]? = some (.deferred (some [])) → Q .normal { a with defers := { target := .collected w.heap.size, args := #[] } :: a.defers } W)
    (hstop : ∀ (c : Code) (pre : List α) (O : Side) (W : World), Sp pre → Ix c pre O W → ¬ O w.heap.size → W.heap[w.heap.size]? = some (.deferred (some [])) → c.wpIn F n P Q { a with defers := { target := .collected w.heap.size, args := #[] } :: a.defers } W) :
    (Code.rangeFunc g ps assign body).wpIn F n P Q a w := by
  refine wpIn_rangeFunc fun fn hfn => ?_
  rw [hro]
  obtain ⟨D, hD⟩ : ∃ D, w.heap.size = D := ⟨_, rfl⟩
  obtain ⟨rc, hrc⟩ : ∃ rc : LoopState → Option Code → Loop, rc = fun st pe => { state := st, pending := pe, fn, tmps := a.tmps, params := ps, assign, body, defers := D } := ⟨_, rfl⟩
  obtain ⟨W1, hW1⟩ : ∃ W1, (w.alloc (.deferred (some []))).alloc (.loop (rc .ready none)) = W1 := ⟨_, rfl⟩
  have hs1 : W1.heap.size = D + 2 := by rw [← hW1, World.size_alloc, World.size_alloc, hD]
  have hL1 : W1.heap[D + 1]? = some (.loop (rc .ready none)) := by
    rw [← hW1, ← hD]; have := World.alloc_heap_new (w.alloc (.deferred (some []))) (.loop (rc .ready none)); rwa [World.size_alloc] at this
  have hD1 : W1.heap[D]? = some (.deferred (some [])) := by
    rw [← hW1, ← hD]; exact (Below.heap_alloc _ _ _ (by simp)).trans (World.alloc_heap_new w _)
  have hBW : Below w.heap.size w W1 := by rw [← hW1]; exact ((Below.refl _ w).alloc (Nat.le_refl _) _).alloc (by simp) _
  have hrun : (Instr.enterLoop fn a.tmps ps assign body none).run P w = .ok (D + 1, [{ target := .collected D, args := #[] }]) W1 := by
    rw [run_enterLoop_outer, ← hW1, hrc, hD]
  refine ⟨D + 1, [{ target := .collected D, args := #[] }], W1, { target := .fn (.func gf) lb, args := #[.func (.yield (D + 1)) #[] #[]] }, W1, gf, #[.func (.yield (D + 1)) #[] #[]] ++ lb, W1, hrun, ?_, ?_, ?_, fun _ => h1, ?_⟩
  · simp only [resolve, hg]
    simp [go_sem]
  · intro f' hf'; simp [Target.leads] at hf'; subst hf'; exact hFg
  · simp [invoke, go_sem, eg]
  rw [hD] at h0 hdone hstop hBW hblt
  -- the side's blocks, and the law's own two
  obtain ⟨Two, hTwo⟩ : ∃ Two : Side → Side → Prop, Two = fun Oc O => (∀ b, O b ↔ (Oc b ∨ b = D ∨ b = D + 1)) ∧ ¬ Oc D ∧ ¬ Oc (D + 1) := ⟨_, rfl⟩
  refine (hseq (D + 1)
    (fun pre O W => ∃ Oc, Two Oc O ∧ I pre Oc W ∧ W.heap[D + 1]? = some (.loop (rc .ready none)) ∧ W.heap[D]? = some (.deferred (some [])))
    (fun pre O W => ∃ Oc c, Two Oc O ∧ Ix c pre Oc W ∧ W.heap[D + 1]? = some (.loop (rc .done (some c))) ∧ W.heap[D]? = some (.deferred (some [])))
    W1 (hb0.trans (by rw [← hD] at hBW; exact hBW.mono hb0.size)) ?_ ?_ ?_ ?_ ?_ ?_).mono ?_
  · rintro pre O W W' ⟨Oc, hT, hi, hl, hd⟩ hsz ho ht hu hsame
    have hT' := hT
    rw [hTwo] at hT'
    exact ⟨Oc, hT, hI pre Oc W W' hi hsz ho ht hu (fun b hb => hsame b ((hT'.1 b).2 (.inl hb))), (hsame _ ((hT'.1 _).2 (.inr (.inr rfl)))).trans hl, (hsame _ ((hT'.1 _).2 (.inr (.inl rfl)))).trans hd⟩
  · rintro pre O W W' ⟨Oc, c, hT, hi, hl, hd⟩ hsz ho ht hu hsame
    have hT' := hT
    rw [hTwo] at hT'
    exact ⟨Oc, c, hT, hIx c pre Oc W W' hi hsz ho ht hu (fun b hb => hsame b ((hT'.1 b).2 (.inl hb))), (hsame _ ((hT'.1 _).2 (.inr (.inr rfl)))).trans hl, (hsame _ ((hT'.1 _).2 (.inr (.inl rfl)))).trans hd⟩
  · rintro pre O W ⟨Oc, hT, hi, hl, hd⟩ b hb
    rw [hTwo] at hT
    rcases (hT.1 b).1 hb with h | rfl | rfl
    · exact hin pre Oc W hi b h
    · exact (Array.getElem?_eq_some_iff.1 hd).1
    · exact (Array.getElem?_eq_some_iff.1 hl).1
  · rintro pre O W ⟨Oc, hT, hi, hl, hd⟩ b hb
    rw [hTwo] at hT
    obtain ⟨h2, h3⟩ := hbase pre Oc W hi b hb
    exact ⟨(hT.1 b).2 (.inl h2), h3.trans (hBW.block b (hblt b hb)).symm⟩
  · -- one round
    rintro pre x O W ⟨Oc, hT, hi, hl, hd⟩ he
    rw [hTwo] at hT ⊢
    obtain ⟨hO, hnD, hnL⟩ := hT
    have hlt : D + 1 < W.heap.size := (Array.getElem?_eq_some_iff.1 hl).1
    have hy := run_yield (P := P) (args := encs x) hl (by rw [hrc]; exact hps x)
    rw [hrc] at hy
    refine ⟨fn, _, assign, body, hy, roundIn_of_wpIn hfn (hassign _ pre x Oc W _ hi (hEa pre x O Oc W he (fun b hb => (hO b).2 (.inl hb))) ?_)⟩
    clear hy
    intro a' O2 W2 hst hi2 hax
    have hl2 := (hst.rest (D + 1) hlt hnL).trans hl
    have hd2 := (hst.rest D (by omega) hnD).trans hd
    have hnL2 : ¬ O2 (D + 1) := fun h => (hst.fresh _ h).elim hnL (fun h => by omega)
    have hnD2 : ¬ O2 D := fun h => (hst.fresh _ h).elim hnD (fun h => by omega)
    refine ⟨_, run_beginRound hl2 (by rw [hrc]), ?_⟩
    obtain ⟨W3, hW3⟩ : ∃ W3, W2.putObj (D + 1) (.loop { rc .ready none with state := .busy }) = W3 := ⟨_, rfl⟩
    have hg3 : W2.grownBy W3 (some (D + 1)) := by rw [← hW3]; exact grownBy_putObj' _ _ _
    have hs3 : W3.heap.size = W2.heap.size := by rw [← hW3]; simp [World.putObj]
    have hl3 : W3.heap[D + 1]? = some (.loop { rc .ready none with state := .busy }) := by rw [← hW3]; exact World.putObj_heap_same (Array.getElem?_eq_some_iff.1 hl2).1
    have hsame3 : ∀ b, O2 b → W3.heap[b]? = W2.heap[b]? := fun b hb => hg3.block b (hin pre O2 W2 hi2 b hb) (fun e => by cases e; exact hnL2 hb)
    have hd3 : W3.heap[D]? = some (.deferred (some [])) := (hg3.block D (Array.getElem?_eq_some_iff.1 hd2).1 (by simp)).trans hd2
    rw [hW3]
    have hi3 : I pre O2 W3 := hI pre O2 W2 W3 hi2 hg3.size hg3.os hg3.tape hg3.output hsame3
    have hax3 : Ax pre x a' O2 W3 := hAx pre x a' () O2 W2 W3 hax hg3.size hg3.os hg3.tape hg3.output hsame3
    -- the step of the whole round's beginning, both sides' books with it
    have hbig : Steps O W (fun b => O2 b ∨ b = D ∨ b = D + 1) W3 := by
      refine ⟨hg3.os.trans hst.os, hg3.tape.trans hst.tape, hg3.output.trans hst.output, Nat.le_trans hst.size hg3.size, fun b hb => ((hO b).1 hb).imp (hst.grows b) id, fun b hb => ?_, fun b hb hn => ?_⟩
      · rcases hb with hb | hb
        · exact (hst.fresh b hb).imp (fun h => (hO b).2 (.inl h)) id
        · exact .inl ((hO b).2 (.inr hb))
      · have hne : b ≠ D + 1 := fun e => hn ((hO b).2 (.inr (.inr e)))
        exact (hg3.block b (Nat.lt_of_lt_of_le hb hst.size) (fun e => by cases e; exact hne rfl)).trans (hst.rest b hb (fun h => hn ((hO b).2 (.inl h))))
    have he3 : E pre x O2 W3 := hEa pre x _ O2 W3 (hE pre x O W _ W3 he hbig) (fun b hb => .inl hb)
    refine wpIn_mono (hbody _ pre x a' O2 W3 ⟨_, hl3⟩ hnL2 hi3 he3 hax3) ?_
    have hlt3 : D + 1 < W3.heap.size := (Array.getElem?_eq_some_iff.1 hl3).1
    have fin : ∀ (jump : Option Code) (O4 : Side) (W4 : World), Steps O2 W3 O4 W4 → ∃ W5, (Instr.endRound (D + 1) jump).run P W4 = .ok (.bool jump.isNone) W5 ∧
        W5.heap[D + 1]? = some (.loop (rc (if jump.isNone then .ready else .done) jump)) ∧ W5.heap[D]? = some (.deferred (some [])) ∧ ¬ O4 D ∧ ¬ O4 (D + 1) ∧ Steps O W (fun b => O4 b ∨ b = D ∨ b = D + 1) W5 ∧
        W4.heap.size ≤ W5.heap.size ∧ W5.os = W4.os ∧ W5.tape = W4.tape ∧ W5.output = W4.output ∧ (∀ b, b < W4.heap.size → O4 b → W5.heap[b]? = W4.heap[b]?) := fun jump O4 W4 h4 => by
      have hl4 := (h4.rest (D + 1) hlt3 hnL2).trans hl3
      have hd4 := (h4.rest D (by omega) hnD2).trans hd3
      have hlt4 := (Array.getElem?_eq_some_iff.1 hl4).1
      have hnL4 : ¬ O4 (D + 1) := fun h => (h4.fresh _ h).elim hnL2 (fun h => by omega)
      have hnD4 : ¬ O4 D := fun h => (h4.fresh _ h).elim hnD2 (fun h => by omega)
      have hrun := run_endRound (P := P) jump hl4
      obtain ⟨W5, hW5⟩ : ∃ W5, W4.putObj (D + 1) (.loop { ({ rc .ready none with state := .busy } : Loop) with state := if jump.isNone then .ready else .done, pending := jump }) = W5 := ⟨_, rfl⟩
      rw [hW5] at hrun
      have hg5 : W4.grownBy W5 (some (D + 1)) := by rw [← hW5]; exact grownBy_putObj' _ _ _
      have hl5 : W5.heap[D + 1]? = some (.loop (rc (if jump.isNone then .ready else .done) jump)) := by rw [← hW5, World.putObj_heap_same hlt4, hrc]
      refine ⟨W5, hrun, hl5, (hg5.block D (Array.getElem?_eq_some_iff.1 hd4).1 (by simp)).trans hd4, hnD4, hnL4, hbig.trans ?_, hg5.size, hg5.os, hg5.tape, hg5.output, fun b hb h => hg5.block b hb (fun e => by cases e; exact hnL4 h)⟩
      refine ⟨hg5.os.trans h4.os, hg5.tape.trans h4.tape, hg5.output.trans h4.output, Nat.le_trans h4.size hg5.size, fun b hb => hb.imp (h4.grows b) id, fun b hb => ?_, fun b hb hn => ?_⟩
      · rcases hb with hb | hb
        · exact (h4.fresh b hb).imp Or.inl id
        · exact .inl (.inr hb)
      · have hne : b ≠ D + 1 := fun e => hn (.inr (.inr e))
        exact (hg5.block b (Nat.lt_of_lt_of_le hb h4.size) (fun e => by cases e; exact hne rfl)).trans (h4.rest b hb (fun h => hn (.inl h)))
    rintro e a3 W4 hp
    cases e with
    | normal =>
      obtain ⟨O4, hst4, hi4⟩ := hp
      obtain ⟨W5, hr, hl5, hd5, hn1, hn2, hS, hz, ho, ht, hu, hsm⟩ := fin none O4 W4 hst4
      exact ⟨_, _, hr, _, hS, .inl ⟨rfl, O4, ⟨fun b => Iff.rfl, hn1, hn2⟩, hI _ O4 W4 W5 hi4 hz ho ht hu (fun b hb => hsm b (hin _ O4 W4 hi4 b hb) hb), hl5, hd5⟩⟩
    | ret =>
      obtain ⟨O4, hst4, hi4⟩ := hp
      obtain ⟨W5, hr, hl5, hd5, hn1, hn2, hS, hz, ho, ht, hu, hsm⟩ := fin (some .ret) O4 W4 hst4
      exact ⟨_, _, hr, _, hS, .inr ⟨rfl, O4, _, ⟨fun b => Iff.rfl, hn1, hn2⟩, hIx _ _ O4 W4 W5 hi4 hz ho ht hu (fun b hb => hsm b (hinx _ _ O4 W4 hi4 b hb) hb), hl5, hd5⟩⟩
    | exit id =>
      obtain ⟨O4, hst4, hi4⟩ := hp
      obtain ⟨W5, hr, hl5, hd5, hn1, hn2, hS, hz, ho, ht, hu, hsm⟩ := fin (some (.exit id)) O4 W4 hst4
      exact ⟨_, _, hr, _, hS, .inr ⟨rfl, O4, _, ⟨fun b => Iff.rfl, hn1, hn2⟩, hIx _ _ O4 W4 W5 hi4 hz ho ht hu (fun b hb => hsm b (hinx _ _ O4 W4 hi4 b hb) hb), hl5, hd5⟩⟩
    | goto t =>
      obtain ⟨O4, hst4, hi4⟩ := hp
      obtain ⟨W5, hr, hl5, hd5, hn1, hn2, hS, hz, ho, ht, hu, hsm⟩ := fin (some (.goto t)) O4 W4 hst4
      exact ⟨_, _, hr, _, hS, .inr ⟨rfl, O4, _, ⟨fun b => Iff.rfl, hn1, hn2⟩, hIx _ _ O4 W4 W5 hi4 hz ho ht hu (fun b hb => hsm b (hinx _ _ O4 W4 hi4 b hb) hb), hl5, hd5⟩⟩
    | panic ch => exact hp.elim
    | outgrown => exact hp.elim
  · rw [hTwo]
    refine ⟨fun b => b < D, ⟨fun b => by rw [hs1]; omega, by omega, by omega⟩, ?_, hL1, hD1⟩
    exact hI [] _ w W1 h0 hBW.size hBW.os hBW.tape hBW.output (fun b hb => hBW.block b hb)
  · rintro e W2 ⟨⟨v, rfl⟩, O', (⟨xs, hS, Oc, hT, hi, hl, hd⟩ | ⟨pre, hSp, Oc, c, hT, hi, hl, hd⟩)⟩
    all_goals
      rw [hTwo] at hT
      obtain ⟨hO, hnD, hnL⟩ := hT
      have hlt := (Array.getElem?_eq_some_iff.1 hl).1
      have hr := run_endLoop (P := P) hl (by rw [hrc]; simp)
    · obtain ⟨W5, hW5⟩ : ∃ W5, W2.putObj (D + 1) (.loop { rc .ready none with state := .exhausted }) = W5 := ⟨_, rfl⟩
      rw [hW5] at hr
      have hg5 : W2.grownBy W5 (some (D + 1)) := by rw [← hW5]; exact grownBy_putObj' _ _ _
      have hi5 := hI xs Oc W2 W5 hi hg5.size hg5.os hg5.tape hg5.output (fun b hb => hg5.block b (hin xs Oc W2 hi b hb) (fun e => by cases e; exact hnL hb))
      exact ⟨none, W5, by rw [hr, hrc], hdone xs Oc W5 hS hi5 hnD ((hg5.block D (Array.getElem?_eq_some_iff.1 hd).1 (by simp)).trans hd)⟩
    · obtain ⟨W5, hW5⟩ : ∃ W5, W2.putObj (D + 1) (.loop { rc .done (some c) with state := .exhausted }) = W5 := ⟨_, rfl⟩
      rw [hW5] at hr
      have hg5 : W2.grownBy W5 (some (D + 1)) := by rw [← hW5]; exact grownBy_putObj' _ _ _
      have hi5 := hIx c pre Oc W2 W5 hi hg5.size hg5.os hg5.tape hg5.output (fun b hb => hg5.block b (hinx c pre Oc W2 hi b hb) (fun e => by cases e; exact hnL hb))
      exact ⟨some c, W5, by rw [hr, hrc], hstop c pre Oc W5 hSp hi5 hnD ((hg5.block D (Array.getElem?_eq_some_iff.1 hd).1 (by simp)).trans hd)⟩
end Go.Proofs.YtlpdomgedaockaaGreatDoor
