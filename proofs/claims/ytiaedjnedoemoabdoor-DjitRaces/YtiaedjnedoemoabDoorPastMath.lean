import Derived.Test.YtiaedjnedoemoabDoorDoors
namespace Go.Proofs.YtiaedjnedoemoabDoor
open Go.RowKit Go.Proofs.Ord

/-- All doors, the thread's own with them. -/
def allOut (e : Ev) : List (Int × Int) := (0, e.thread) :: outDoors e
def allIn (e : Ev) : List (Int × Int) := (0, e.thread) :: inDoors e

theorem outDoors_mem (e : Ev) (d : Int × Int) : d ∈ outDoors e ↔ (e.kind = 6 ∧ d = (1, e.obj)) ∨ (e.kind = 4 ∧ d = (2, e.obj)) ∨ (e.kind = 7 ∧ d = (3, e.obj)) := by
  unfold outDoors
  split
  · rename_i h; simp [h]
  · split
    · rename_i h; simp [h]
    · split
      · rename_i h; simp [h]
      · rename_i h1 h2 h3; simp [h1, h2, h3]
theorem inDoors_mem (e : Ev) (d : Int × Int) : d ∈ inDoors e ↔ d = (3, e.thread) ∨ (e.kind = 5 ∧ d = (1, e.obj)) ∨ (e.kind = 3 ∧ d = (2, e.obj)) ∨ (e.kind = 8 ∧ d = (0, e.obj)) := by
  unfold inDoors
  rw [List.mem_cons]
  split
  · rename_i h; simp [h]
  · split
    · rename_i h; simp [h]
    · split
      · rename_i h; simp [h]
      · rename_i h1 h2 h3; simp [h1, h2, h3]

/-- Events lead to one another by doors. -/
theorem leads_iff (a b : Ev) : leads a b = true ↔ ∃ d, d ∈ allOut a ∧ d ∈ allIn b := by
  have key : leads a b = true ↔ a.thread = b.thread ∨ (a.kind = 6 ∧ b.kind = 5 ∧ a.obj = b.obj) ∨ (a.kind = 4 ∧ b.kind = 3 ∧ a.obj = b.obj) ∨ (a.kind = 7 ∧ a.obj = b.thread) ∨ (b.kind = 8 ∧ b.obj = a.thread) := by
    simp only [leads, Bool.or_eq_true, Bool.and_eq_true, beq_iff_eq]
    constructor
    · rintro ((((h | ⟨⟨h1, h2⟩, h3⟩) | ⟨⟨h1, h2⟩, h3⟩) | ⟨h1, h2⟩) | ⟨h1, h2⟩)
      · exact .inl h
      · exact .inr (.inl ⟨h1, h2, h3⟩)
      · exact .inr (.inr (.inl ⟨h1, h2, h3⟩))
      · exact .inr (.inr (.inr (.inl ⟨h1, h2⟩)))
      · exact .inr (.inr (.inr (.inr ⟨h1, h2⟩)))
    · rintro (h | ⟨h1, h2, h3⟩ | ⟨h1, h2, h3⟩ | ⟨h1, h2⟩ | ⟨h1, h2⟩)
      · exact .inl (.inl (.inl (.inl h)))
      · exact .inl (.inl (.inl (.inr ⟨⟨h1, h2⟩, h3⟩)))
      · exact .inl (.inl (.inr ⟨⟨h1, h2⟩, h3⟩))
      · exact .inl (.inr ⟨h1, h2⟩)
      · exact .inr ⟨h1, h2⟩
  rw [key]
  constructor
  · rintro (h | ⟨h1, h2, h3⟩ | ⟨h1, h2, h3⟩ | ⟨h1, h2⟩ | ⟨h1, h2⟩)
    · exact ⟨(0, a.thread), List.mem_cons_self, by rw [h]; exact List.mem_cons_self⟩
    · exact ⟨(1, a.obj), List.mem_cons_of_mem _ ((outDoors_mem _ _).2 (.inl ⟨h1, rfl⟩)), List.mem_cons_of_mem _ ((inDoors_mem _ _).2 (.inr (.inl ⟨h2, by rw [h3]⟩)))⟩
    · exact ⟨(2, a.obj), List.mem_cons_of_mem _ ((outDoors_mem _ _).2 (.inr (.inl ⟨h1, rfl⟩))), List.mem_cons_of_mem _ ((inDoors_mem _ _).2 (.inr (.inr (.inl ⟨h2, by rw [h3]⟩))))⟩
    · exact ⟨(3, a.obj), List.mem_cons_of_mem _ ((outDoors_mem _ _).2 (.inr (.inr ⟨h1, rfl⟩))), List.mem_cons_of_mem _ ((inDoors_mem _ _).2 (.inl (by rw [h2])))⟩
    · exact ⟨(0, a.thread), List.mem_cons_self, List.mem_cons_of_mem _ ((inDoors_mem _ _).2 (.inr (.inr (.inr ⟨h1, by rw [h2]⟩))))⟩
  · rintro ⟨d, ho, hi⟩
    rcases List.mem_cons.1 ho with rfl | ho <;> rcases List.mem_cons.1 hi with hi | hi
    · exact .inl (by simpa using hi)
    · rcases (inDoors_mem _ _).1 hi with h | ⟨_, h⟩ | ⟨_, h⟩ | ⟨h8, h⟩
      · simp at h
      · simp at h
      · simp at h
      · exact .inr (.inr (.inr (.inr ⟨h8, by simpa using h.symm⟩)))
    · subst hi
      rcases (outDoors_mem _ _).1 ho with ⟨_, h⟩ | ⟨_, h⟩ | ⟨_, h⟩ <;> simp at h
    · rcases (outDoors_mem _ _).1 ho with ⟨ha, rfl⟩ | ⟨ha, rfl⟩ | ⟨ha, rfl⟩ <;> rcases (inDoors_mem _ _).1 hi with h | ⟨hb, h⟩ | ⟨hb, h⟩ | ⟨hb, h⟩
      all_goals try (exfalso; simp at h; done)
      · exact .inr (.inl ⟨ha, hb, by simpa using h⟩)
      · exact .inr (.inr (.inl ⟨ha, hb, by simpa using h⟩))
      · exact .inr (.inr (.inr (.inl ⟨ha, by simpa using h⟩)))

/-- Of the first n events those that went out by a door, or are before one that did. -/
def gone (l : Nat → Ev) (n : Nat) (d : Int × Int) (i : Nat) : Prop := ∃ q, q < n ∧ (i = q ∨ bef l i q = true) ∧ d ∈ allOut (l q)

theorem bef_gone (l : Nat → Ev) (i n : Nat) : bef l i n = true ↔ ∃ d, d ∈ allIn (l n) ∧ gone l n d i := by
  rw [bef_iff]
  constructor
  · rintro ⟨h1, h | ⟨k, h2, h3, h4, h5⟩⟩
    · obtain ⟨d, ho, hi⟩ := (leads_iff _ _).1 h
      exact ⟨d, hi, i, h1, .inl rfl, ho⟩
    · obtain ⟨d, ho, hi⟩ := (leads_iff _ _).1 h5
      exact ⟨d, hi, k, h3, .inr h4, ho⟩
  · rintro ⟨d, hi, q, hq, h | h, ho⟩
    · subst h; exact ⟨hq, .inl ((leads_iff _ _).2 ⟨d, ho, hi⟩)⟩
    · have := bef_lt h
      exact ⟨by omega, .inr ⟨q, this, hq, h, (leads_iff _ _).2 ⟨d, ho, hi⟩⟩⟩

theorem gone_succ (l : Nat → Ev) (n : Nat) (d : Int × Int) (i : Nat) : gone l (n + 1) d i ↔ gone l n d i ∨ (d ∈ allOut (l n) ∧ (i = n ∨ bef l i n = true)) := by
  constructor
  · rintro ⟨q, hq, h, ho⟩
    by_cases e : q = n
    · subst e; exact .inr ⟨ho, h⟩
    · exact .inl ⟨q, by omega, h, ho⟩
  · rintro (⟨q, hq, h, ho⟩ | ⟨ho, h⟩)
    · exact ⟨q, by omega, h, ho⟩
    · exact ⟨n, by omega, h, ho⟩
theorem gone_zero (l : Nat → Ev) (d : Int × Int) (i : Nat) : ¬ gone l 0 d i := by rintro ⟨q, hq, _⟩; omega

/-- What has gone behind event n, told by its doors. -/
theorem gone_after (l : Nat → Ev) (n : Nat) (x : Int × Int) (i : Nat) (t kd o v : Int) (hl : l n = ⟨t, kd, o, v⟩) (us : List (Int × Int)) (hus : outDoors ⟨t, kd, o, v⟩ = us) :
    gone l (n + 1) x i ↔ (if x = (0, t) then (i = n ∨ bef l i n = true) else gone l n x i ∨ (x ∈ us ∧ (i = n ∨ bef l i n = true))) := by
  rw [gone_succ, hl]
  have ha : ∀ y, y ∈ allOut ⟨t, kd, o, v⟩ ↔ y = (0, t) ∨ y ∈ us := fun y => by unfold allOut; rw [List.mem_cons, hus]
  rw [ha]
  by_cases hx : x = (0, t)
  · subst hx
    rw [if_pos rfl]
    constructor
    · rintro (h | ⟨_, h⟩)
      · exact .inr ((bef_gone l i n).2 ⟨(0, t), by rw [hl]; exact List.mem_cons_self, h⟩)
      · exact h
    · exact fun h => .inr ⟨.inl rfl, h⟩
  · rw [if_neg hx]
    constructor
    · rintro (h | ⟨h | h, h2⟩)
      · exact .inl h
      · exact absurd h hx
      · exact .inr ⟨h, h2⟩
    · rintro (h | ⟨h, h2⟩)
      · exact .inl h
      · exact .inr ⟨.inr h, h2⟩
theorem outDoors_len (e : Ev) : (outDoors e).length ≤ 1 := by
  unfold outDoors
  split
  · simp
  · split
    · simp
    · split <;> simp
theorem outDoors_own {e : Ev} {d : Int × Int} (h : d ∈ outDoors e) (t : Int) : d ≠ (0, t) := by
  rcases (outDoors_mem _ _).1 h with ⟨_, rfl⟩ | ⟨_, rfl⟩ | ⟨_, rfl⟩ <;> simp

/-- A set holds just those of the first K of which p holds. -/
def Holds (ws : List Nat) (K : Nat) (p : Nat → Prop) : Prop := (∀ i, bitOf ws i = true ↔ i < K ∧ p i) ∧ ws.length ≤ K / 64 + 1
theorem Holds.nil (K : Nat) {p : Nat → Prop} (h : ∀ i, ¬ p i) : Holds [] K p := ⟨fun i => by rw [bit_nil]; simp [h i], Nat.zero_le _⟩
theorem Holds.join {s o : List Nat} {K : Nat} {p q : Nat → Prop} (hs : Holds s K p) (ho : Holds o K q) : Holds (joinL s o) K (fun i => p i ∨ q i) := by
  refine ⟨fun i => ?_, by rw [joinL_len]; have := hs.2; have := ho.2; omega⟩
  rw [bit_join, Bool.or_eq_true, hs.1, ho.1]
  constructor
  · rintro (⟨h1, h2⟩ | ⟨h1, h2⟩)
    · exact ⟨h1, .inl h2⟩
    · exact ⟨h1, .inr h2⟩
  · rintro ⟨h1, h2 | h2⟩
    · exact .inl ⟨h1, h2⟩
    · exact .inr ⟨h1, h2⟩
theorem Holds.with {s : List Nat} {K : Nat} {p : Nat → Prop} (hs : Holds s K p) {n : Nat} (hn : n < K) : Holds (withL s n) K (fun i => p i ∨ i = n) := by
  refine ⟨fun i => ?_, by rw [withL_len]; have := hs.2; have : n / 64 ≤ K / 64 := Nat.div_le_div_right (by omega); omega⟩
  rw [bit_with, Bool.or_eq_true, hs.1, decide_eq_true_eq]
  constructor
  · rintro (⟨h1, h2⟩ | h)
    · exact ⟨h1, .inl h2⟩
    · exact ⟨by omega, .inr h⟩
  · rintro ⟨h1, h2 | h2⟩
    · exact .inl ⟨h1, h2⟩
    · exact .inr h2
theorem Holds.iff {s : List Nat} {K : Nat} {p q : Nat → Prop} (hs : Holds s K p) (h : ∀ i, i < K → (p i ↔ q i)) : Holds s K q := by
  refine ⟨fun i => ?_, hs.2⟩
  rw [hs.1]
  constructor
  · rintro ⟨h1, h2⟩; exact ⟨h1, (h i h1).1 h2⟩
  · rintro ⟨h1, h2⟩; exact ⟨h1, (h i h1).2 h2⟩
end Go.Proofs.YtiaedjnedoemoabDoor
