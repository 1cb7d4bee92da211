import Derived.Test.YtiaedjnedoemoabDoorFlowMath
/-
  The plain mathematics of the last accesses of each thread.
-/
namespace Go.Proofs.YtiaedjnedoemoabDoor
open Go.Proofs.Ord

/-- Event i is an access a that counts. -/
def Acc (L : Nat → Ev) (c : Nat → Bool) (a : Int × Int) (i : Nat) : Prop := c i = true ∧ (L i).kind = a.1 ∧ (L i).obj = a.2
/-- All up to a thread's last access a that counts, of the first k events. -/
def lastSet (L : Nat → Ev) (c : Nat → Bool) (k : Nat) (a : Int × Int) (j : Nat) : Prop := ∃ i, j ≤ i ∧ i < k ∧ (L j).thread = (L i).thread ∧ Acc L c a i
/-- The number of a thread's last access. -/
noncomputable def lastN (L : Nat → Ev) (c : Nat → Bool) (k : Nat) (a : Int × Int) (u : Int) : Int := num L c (lastSet L c k a) u k

theorem lastSet_closed (L : Nat → Ev) (c : Nat → Bool) (k : Nat) (a : Int × Int) : Closed L (lastSet L c k a) := by
  rintro i j hij ht ⟨q, h1, h2, h3, h4⟩
  exact ⟨q, by omega, h2, ht.trans h3, h4⟩
theorem lastSet_lt {L : Nat → Ev} {c : Nat → Bool} {k : Nat} {a : Int × Int} {j : Nat} (h : lastSet L c k a j) : j < k := by
  obtain ⟨q, h1, h2, _⟩ := h; omega
theorem lastN_nonneg (L : Nat → Ev) (c : Nat → Bool) (k : Nat) (a : Int × Int) (u : Int) : 0 ≤ lastN L c k a u := by unfold lastN; omega
theorem lastN_zero (L : Nat → Ev) (c : Nat → Bool) (a : Int × Int) (u : Int) : lastN L c 0 a u = 0 := rfl
theorem lastN_past (L : Nat → Ev) (c : Nat → Bool) (k : Nat) (a : Int × Int) (u : Int) : num L c (lastSet L c k a) u (k + 1) = num L c (lastSet L c k a) u k :=
  num_past (fun i hi h => by have := lastSet_lt h; omega) (by omega)

/-- An access that counts is the last one of its thread. -/
theorem lastN_put (L : Nat → Ev) (c : Nat → Bool) (k : Nat) (a : Int × Int) (h : Acc L c a k) (u : Int) : lastN L c (k + 1) a u = if u = (L k).thread then stampN L c k u else lastN L c k a u := by
  by_cases hu : u = (L k).thread
  · rw [if_pos hu]
    unfold lastN stampN
    congr 1
    refine num_congr fun i hi _ ht => ?_
    constructor
    · intro _
      by_cases e : i = k
      · exact .inl e
      · exact .inr (bef_thread (l := L) (by omega) (ht.trans hu))
    · intro _
      exact ⟨k, by omega, by omega, ht.trans hu, h⟩
  · rw [if_neg hu]
    unfold lastN
    rw [← lastN_past L c k a u]
    congr 1
    refine num_congr fun i hi _ ht => ?_
    constructor
    · rintro ⟨q, h1, h2, h3, h4⟩
      by_cases e : q = k
      · subst e; exact absurd (ht.symm.trans h3) hu
      · exact ⟨q, h1, by omega, h3, h4⟩
    · rintro ⟨q, h1, h2, h3, h4⟩
      exact ⟨q, h1, by omega, h3, h4⟩
theorem lastN_skip (L : Nat → Ev) (c : Nat → Bool) (k : Nat) (a : Int × Int) (h : ¬ Acc L c a k) (u : Int) : lastN L c (k + 1) a u = lastN L c k a u := by
  unfold lastN
  rw [← lastN_past L c k a u]
  congr 1
  refine num_congr fun i hi _ ht => ?_
  constructor
  · rintro ⟨q, h1, h2, h3, h4⟩
    by_cases e : q = k
    · subst e; exact absurd h4 h
    · exact ⟨q, h1, by omega, h3, h4⟩
  · rintro ⟨q, h1, h2, h3, h4⟩
    exact ⟨q, h1, by omega, h3, h4⟩

/-- Is every such access ahead of event k before it? -/
theorem lastN_leq (L : Nat → Ev) (c : Nat → Bool) (k : Nat) (a : Int × Int) : (∀ u, lastN L c k a u ≤ stampN L c k u) ↔ ∀ i, i < k → Acc L c a i → bef L i k = true := by
  have h := num_le_iff (L := L) (c := c) (lastSet_closed L c k a) (past_closed L k) (k + 1)
  have e : (∀ u, lastN L c k a u ≤ stampN L c k u) ↔ ∀ u, num L c (lastSet L c k a) u (k + 1) ≤ num L c (past L k) u (k + 1) := by
    unfold lastN stampN
    constructor
    · intro h u; have := h u; rw [lastN_past]; omega
    · intro h u; have := h u; rw [lastN_past] at this; omega
  rw [e, h]
  constructor
  · intro h i hi ha
    rcases h i (by omega) ha.1 ⟨i, Nat.le_refl _, hi, rfl, ha⟩ with h | h
    · omega
    · exact h
  · rintro h i hi hc ⟨q, h1, h2, h3, h4⟩
    right
    have hb := h q h2 h4
    by_cases e : i = q
    · subst e; exact hb
    · exact bef_trans (bef_thread (l := L) (by omega) h3) k hb

/-- With which accesses ahead of it an event races. -/
def rivalsOf (e : Ev) : List (Int × Int) := if e.kind = 1 then [(2, e.obj)] else if e.kind = 2 then [(1, e.obj), (2, e.obj)] else []

theorem conflict_iff (a b : Ev) : conflict a b = true ↔ (a.kind = 1 ∨ a.kind = 2) ∧ (b.kind = 1 ∨ b.kind = 2) ∧ a.obj = b.obj ∧ a.thread ≠ b.thread ∧ (a.kind = 2 ∨ b.kind = 2) := by
  simp only [conflict, access, Bool.and_eq_true, Bool.or_eq_true, beq_iff_eq, bne_iff_ne, ne_eq]
  exact ⟨fun ⟨⟨⟨⟨h1, h2⟩, h3⟩, h4⟩, h5⟩ => ⟨h1, h2, h3, h4, h5⟩, fun ⟨h1, h2, h3, h4, h5⟩ => ⟨⟨⟨⟨h1, h2⟩, h3⟩, h4⟩, h5⟩⟩
theorem rivals_iff (a b : Ev) : (a.kind, a.obj) ∈ rivalsOf b ↔ (a.kind = 1 ∨ a.kind = 2) ∧ (b.kind = 1 ∨ b.kind = 2) ∧ a.obj = b.obj ∧ (a.kind = 2 ∨ b.kind = 2) := by
  unfold rivalsOf
  split
  · rename_i h; simp [h]; omega
  · split
    · rename_i h1 h; simp [h]; omega
    · rename_i h1 h2; simp [h1, h2]

/-- An event races with one that counts ahead of it. -/
def mark (L : Nat → Ev) (c : Nat → Bool) (k : Nat) : Bool := (List.range k).any fun i => c i && race L i k
theorem mark_iff (L : Nat → Ev) (c : Nat → Bool) (k : Nat) : mark L c k = true ↔ ∃ i, i < k ∧ c i = true ∧ race L i k = true := by
  unfold mark
  rw [List.any_eq_true]
  constructor
  · rintro ⟨i, h1, h2⟩
    rw [Bool.and_eq_true] at h2
    exact ⟨i, List.mem_range.1 h1, h2⟩
  · rintro ⟨i, h1, h2⟩
    exact ⟨i, List.mem_range.2 h1, by rw [Bool.and_eq_true]; exact h2⟩
/-- What the stamps of the last accesses tell. -/
theorem mark_rivals (L : Nat → Ev) (c : Nat → Bool) (k : Nat) : mark L c k = true ↔ ∃ a, a ∈ rivalsOf (L k) ∧ ¬ ∀ u, lastN L c k a u ≤ stampN L c k u := by
  rw [mark_iff]
  constructor
  · rintro ⟨i, hi, hc, hr⟩
    unfold race at hr
    rw [Bool.and_eq_true, conflict_iff] at hr
    obtain ⟨⟨h1, h2, h3, h4, h5⟩, h6⟩ := hr
    refine ⟨((L i).kind, (L i).obj), (rivals_iff _ _).2 ⟨h1, h2, h3, h5⟩, fun h => ?_⟩
    have := (lastN_leq L c k _).1 h i hi ⟨hc, rfl, rfl⟩
    rw [this] at h6; cases h6
  · rintro ⟨a, ha, h⟩
    rw [lastN_leq] at h
    obtain ⟨i, h⟩ := Classical.not_forall.1 h
    obtain ⟨hi, h⟩ := Classical.not_imp.1 h
    obtain ⟨⟨hc, hk, ho⟩, h⟩ := Classical.not_imp.1 h
    have hb : bef L i k = false := by cases e : bef L i k with
      | false => rfl
      | true => exact absurd e h
    have e : a = ((L i).kind, (L i).obj) := Prod.ext hk.symm ho.symm
    rw [e, rivals_iff] at ha
    refine ⟨i, hi, hc, ?_⟩
    unfold race
    rw [Bool.and_eq_true, conflict_iff]
    refine ⟨⟨ha.1, ha.2.1, ha.2.2.1, fun ht => ?_, ha.2.2.2⟩, by rw [hb]; rfl⟩
    rw [bef_thread (l := L) hi ht] at hb; cases hb
end Go.Proofs.YtiaedjnedoemoabDoor
