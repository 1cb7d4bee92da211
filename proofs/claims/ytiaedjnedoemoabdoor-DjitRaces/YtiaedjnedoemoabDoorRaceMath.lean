import Derived.Test.YtiaedjnedoemoabDoorPastsSeq
import Derived.Test.YtiaedjnedoemoabDoorWithoutIt
namespace Go.Proofs.YtiaedjnedoemoabDoor
open Go.RowKit Go.Proofs.Ord

/-- With which accesses behind it an event may race. -/
def rivals (e : Ev) : List (Int × Int) := if e.kind = 1 then [(2, e.obj)] else if e.kind = 2 then [(1, e.obj), (2, e.obj)] else []

theorem acc_made (w : World) (B : Nat) (hB : B ≤ w.heap.size) (ds : List (Int × Int)) (hl : ds.length ≤ 1000) : (w.alloc (.cells (dcells ds).toArray 71)).ownsRow B 71 2 (.slice (some ⟨w.heap.size, 0, none⟩) ds.length ds.length) ds.length (dcells ds) :=
  ⟨dcells_len ds, .inr ⟨w.heap.size, ds.length, _, rfl, hB, heap_new_z w _, Nat.le_refl _, by unfold maxLen; omega, by simp [dcells_len], by rw [List.take_of_length_le (by simp [dcells_len])]⟩⟩

set_option maxRecDepth 100000 in
set_option maxHeartbeats 1000000 in
theorem rival_any (t k o v : Int) (w : World) :
    Calls Tryd.prog 25 #[evV ⟨t, k, o, v⟩] w fun e w' => ∃ u, e = .returned u ∧ w'.ownsRow w.heap.size 71 2 u (rivals ⟨t, k, o, v⟩).length (dcells (rivals ⟨t, k, o, v⟩)) ∧ Below w.heap.size w w' := by
  have hb1 : Hid (∀ x, Below w.heap.size w (w.alloc x)) := fun x => (Below.refl _ _).alloc (Nat.le_refl _) _
  have hb2 : Hid (∀ x y, Below w.heap.size w ((w.alloc x).alloc y)) := fun x y => ((Below.refl _ _).alloc (Nat.le_refl _) _).alloc (by simp) _
  have hm : Hid (∀ x ds, ds.length ≤ 1000 → ((w.alloc x).alloc (.cells (dcells ds).toArray 71)).ownsRow w.heap.size 71 2 (.slice (some ⟨w.heap.size + 1, 0, none⟩) ds.length ds.length) ds.length (dcells ds)) := fun x ds hl => by
    have := acc_made (w.alloc x) w.heap.size (by simp) ds hl
    rwa [World.size_alloc] at this
  unfold evV rivals
  by_cases h1 : k = 1
  · subst h1
    go_enter Tryd.func25, Tryd.ntmps25
    go_wp2
    go_ret
    exact ⟨_, rfl, hm.out _ [(2, o)] (by simp), hb2.out _ _⟩
  · by_cases h2 : k = 2
    · subst h2
      go_enter Tryd.func25, Tryd.ntmps25
      go_wp2
      go_ret
      exact ⟨_, rfl, hm.out _ [(1, o), (2, o)] (by simp), hb2.out _ _⟩
    · rw [if_neg h1, if_neg h2]
      have k1 : (k == 1) = false := beq_eq_false_iff_ne.2 h1
      have k2 : (k == 2) = false := beq_eq_false_iff_ne.2 h2
      clear h1 h2
      go_enter Tryd.func25, Tryd.ntmps25
      go_wp2
      go_ret
      exact ⟨_, rfl, World.ownsRow_nil _ _ _ _, hb1.out _⟩

theorem rivals_mem (a : Ev) (k o : Int) : (k, o) ∈ rivals a ↔ (a.kind = 1 ∧ k = 2 ∧ o = a.obj) ∨ (a.kind = 2 ∧ (k = 1 ∨ k = 2) ∧ o = a.obj) := by
  unfold rivals
  split
  · rename_i h; simp [h]
  · split
    · rename_i h1 h; simp [h]; constructor
      · rintro (⟨rfl, rfl⟩ | ⟨rfl, rfl⟩)
        · exact ⟨.inl rfl, rfl⟩
        · exact ⟨.inr rfl, rfl⟩
      · rintro ⟨rfl | rfl, rfl⟩
        · exact .inl ⟨rfl, rfl⟩
        · exact .inr ⟨rfl, rfl⟩
    · rename_i h1 h2; simp [h1, h2]

/-- What races, by what an access has for rivals. -/
theorem race_iff (l : Nat → Ev) {i j : Nat} (h : i < j) : race l i j = true ↔ ((l j).kind, (l j).obj) ∈ rivals (l i) ∧ bef l i j = false := by
  unfold race
  rw [Bool.and_eq_true, Bool.not_eq_true', rivals_mem]
  constructor
  · rintro ⟨hc, hb⟩
    refine ⟨?_, hb⟩
    simp only [conflict, access, Bool.and_eq_true, Bool.or_eq_true, beq_iff_eq, bne_iff_ne] at hc
    obtain ⟨⟨⟨⟨h1, h2⟩, h3⟩, _⟩, h4⟩ := hc
    rcases h1 with h1 | h1
    · refine .inl ⟨h1, ?_, h3.symm⟩
      rcases h4 with h4 | h4
      · omega
      · exact h4
    · exact .inr ⟨h1, h2, h3.symm⟩
  · rintro ⟨hr, hb⟩
    refine ⟨?_, hb⟩
    have ht : (l i).thread ≠ (l j).thread := fun e => by rw [bef_thread h e] at hb; cases hb
    simp only [conflict, access, Bool.and_eq_true, Bool.or_eq_true, beq_iff_eq, bne_iff_ne]
    rcases hr with ⟨h1, h2, h3⟩ | ⟨h1, h2, h3⟩
    · exact ⟨⟨⟨⟨.inl h1, .inr h2⟩, h3.symm⟩, ht⟩, .inr h2⟩
    · exact ⟨⟨⟨⟨.inr h1, h2⟩, h3.symm⟩, ht⟩, .inl h1⟩

theorem filter_range_ext {P : Nat → Bool} {n m : Nat} (hn : ∀ i, P i = true → i < n) (hm : ∀ i, P i = true → i < m) : (List.range n).filter P = (List.range m).filter P := by
  have key : ∀ a b, a ≤ b → (∀ i, P i = true → i < a) → (List.range b).filter P = (List.range a).filter P := fun a b hab ha => by
    obtain ⟨c, rfl⟩ := Nat.exists_eq_add_of_le hab
    rw [List.range_add, List.filter_append]
    have e : ((List.range c).map (a + ·)).filter P = [] := List.filter_eq_nil_iff.2 fun x hx hp => by
      obtain ⟨y, _, rfl⟩ := List.mem_map.1 hx
      have := ha _ hp; omega
    rw [e, List.append_nil]
  rcases Nat.le_total n m with h | h
  · exact (key n m h hn).symm
  · exact key m n h hm

/-- All that is in the one set and not in the other, as a list that rises. -/
theorem allW_filter (s o : List Nat) : ∀ n, allW s o n = (List.range (64 * n)).filter fun i => bitOf s i && !bitOf o i := by
  intro n
  induction n with
  | zero => rfl
  | succ n ih =>
    rw [allW_succ, ih, show 64 * (n + 1) = 64 * n + 64 by omega, List.range_add, List.filter_append]
    congr 1
    unfold bl
    rw [List.filter_map]
    congr 1
    apply List.filter_congr
    intro b hb
    have hb64 := List.mem_range.1 hb
    have e1 : (64 * n + b) / 64 = n := by omega
    have e2 : (64 * n + b) % 64 = b := by omega
    rw [diffN_bit _ _ hb64]
    simp only [Function.comp, bitOf, e1, e2]
end Go.Proofs.YtiaedjnedoemoabDoor
