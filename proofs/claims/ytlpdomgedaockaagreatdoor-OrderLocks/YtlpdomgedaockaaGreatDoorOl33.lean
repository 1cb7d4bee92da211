import Derived.Test.YtlpdomgedaockaaGreatDoorOl32
set_option linter.unusedVariables false
set_option linter.unusedSimpArgs false
namespace Go.Proofs.YtlpdomgedaockaaGreatDoor
open Go.RowKit Go.Proofs.Ord

/-- With which accesses behind it an event may race. -/
def rivals (e : Ev) : List (Int × Int) := if e.kind = 1 then [(2, e.obj)] else if e.kind = 2 then [(1, e.obj), (2, e.obj)] else []

theorem acc_made (w : World) (B : Nat) (hB : B ≤ w.heap.size) (ds : List (Int × Int)) (hl : ds.length ≤ 1000) : (w.alloc (.cells (dcells ds).toArray 127)).ownsRow B 127 2 (.slice (some ⟨w.heap.size, 0, none⟩) ds.length ds.length) ds.length (dcells ds) :=
  ⟨dcells_len ds, .inr ⟨w.heap.size, ds.length, _, rfl, hB, heap_new_z w _, Nat.le_refl _, by unfold maxLen; omega, by simp [dcells_len], by rw [List.take_of_length_le (by simp [dcells_len])]⟩⟩

set_option maxRecDepth 100000 in
set_option maxHeartbeats 1000000 in
theorem rival_any (t k o v : Int) (w : World) :
    Calls Tryz.prog 40 #[evV ⟨t, k, o, v⟩] w fun e w' => ∃ u, e = .returned u ∧ w'.ownsRow w.heap.size 127 2 u (rivals ⟨t, k, o, v⟩).length (dcells (rivals ⟨t, k, o, v⟩)) ∧ Below w.heap.size w w' := by
  have hb1 : Hid (∀ x, Below w.heap.size w (w.alloc x)) := fun x => (Below.refl _ _).alloc (Nat.le_refl _) _
  have hb2 : Hid (∀ x y, Below w.heap.size w ((w.alloc x).alloc y)) := fun x y => ((Below.refl _ _).alloc (Nat.le_refl _) _).alloc (by simp) _
  have hm : Hid (∀ x ds, ds.length ≤ 1000 → ((w.alloc x).alloc (.cells (dcells ds).toArray 127)).ownsRow w.heap.size 127 2 (.slice (some ⟨w.heap.size + 1, 0, none⟩) ds.length ds.length) ds.length (dcells ds)) := fun x ds hl => by
    have := acc_made (w.alloc x) w.heap.size (by simp) ds hl
    rwa [World.size_alloc] at this
  unfold evV rivals
  by_cases h1 : k = 1
  · subst h1
    go_enter Tryz.func40, Tryz.ntmps40
    go_wp2
    go_ret
    exact ⟨_, rfl, hm.out _ [(2, o)] (by simp), hb2.out _ _⟩
  · by_cases h2 : k = 2
    · subst h2
      go_enter Tryz.func40, Tryz.ntmps40
      go_wp2
      go_ret
      exact ⟨_, rfl, hm.out _ [(1, o), (2, o)] (by simp), hb2.out _ _⟩
    · rw [if_neg h1, if_neg h2]
      have k1 : (k == 1) = false := beq_eq_false_iff_ne.2 h1
      have k2 : (k == 2) = false := beq_eq_false_iff_ne.2 h2
      clear h1 h2
      go_enter Tryz.func40, Tryz.ntmps40
      go_wp2
      go_ret
      exact ⟨_, rfl, World.ownsRow_nil _ _ _ _, hb1.out _⟩

theorem rivals_mem (a : Ev) (k o : Int) : (k, o) ∈ rivals a ↔ (a.kind = 1 ∧ k = 2 ∧ o = a.obj) ∨ (a.kind = 2 ∧ (k = 1 ∨ k = 2) ∧ o = a.obj) := by
  unfold rivals
  split
  · rename_i h; simp [h]
  · split
    · rename_i h1 h; simp [h]; constructor
      · rintro (⟨rfl, rfl⟩ | ⟨rfl, rfl⟩)
        · exact ⟨.inl rfl, rfl⟩
        · exact ⟨.inr rfl, rfl⟩
      · rintro ⟨rfl | rfl, rfl⟩
        · exact .inl ⟨rfl, rfl⟩
        · exact .inr ⟨rfl, rfl⟩
    · rename_i h1 h2; simp [h1, h2]

/-- What races, by what an access has for rivals. -/
theorem race_iff (l : Nat → Ev) {i j : Nat} (h : i < j) : race l i j = true ↔ ((l j).kind, (l j).obj) ∈ rivals (l i) ∧ bef l i j = false := by
  unfold race
  rw [Bool.and_eq_true, Bool.not_eq_true', rivals_mem]
  constructor
  · rintro ⟨hc, hb⟩
    refine ⟨?_, hb⟩
    simp only [conflict, access, Bool.and_eq_true, Bool.or_eq_true, beq_iff_eq, bne_iff_ne] at hc
    obtain ⟨⟨⟨⟨h1, h2⟩, h3⟩, _⟩, h4⟩ := hc
    rcases h1 with h1 | h1
    · refine .inl ⟨h1, ?_, h3.symm⟩
      rcases h4 with h4 | h4
      · omega
      · exact h4
    · exact .inr ⟨h1, h2, h3.symm⟩
  · rintro ⟨hr, hb⟩
    refine ⟨?_, hb⟩
    have ht : (l i).thread ≠ (l j).thread := fun e => by rw [bef_thread h e] at hb; cases hb
    simp only [conflict, access, Bool.and_eq_true, Bool.or_eq_true, beq_iff_eq, bne_iff_ne]
    rcases hr with ⟨h1, h2, h3⟩ | ⟨h1, h2, h3⟩
    · exact ⟨⟨⟨⟨.inl h1, .inr h2⟩, h3.symm⟩, ht⟩, .inr h2⟩
    · exact ⟨⟨⟨⟨.inr h1, h2⟩, h3.symm⟩, ht⟩, .inl h1⟩

theorem filter_range_ext {P : Nat → Bool} {n m : Nat} (hn : ∀ i, P i = true → i < n) (hm : ∀ i, P i = true → i < m) : (List.range n).filter P = (List.range m).filter P := by
  have key : ∀ a b, a ≤ b → (∀ i, P i = true → i < a) → (List.range b).filter P = (List.range a).filter P := fun a b hab ha => by
    obtain ⟨c, rfl⟩ := Nat.exists_eq_add_of_le hab
    rw [List.range_add, List.filter_append]
    have e : ((List.range c).map (a + ·)).filter P = [] := List.filter_eq_nil_iff.2 fun x hx hp => by
      obtain ⟨y, _, rfl⟩ := List.mem_map.1 hx
      have := ha _ hp; omega
    rw [e, List.append_nil]
  rcases Nat.le_total n m with h | h
  · exact (key n m h hn).symm
  · exact key m n h hm

/-- All that is in the one set and not in the other, as a list that rises. -/
theorem allW_filter (s o : List Nat) : ∀ n, allW s o n = (List.range (64 * n)).filter fun i => bitOf s i && !bitOf o i := by
  intro n
  induction n with
  | zero => rfl
  | succ n ih =>
    rw [allW_succ, ih, show 64 * (n + 1) = 64 * n + 64 by omega, List.range_add, List.filter_append]
    congr 1
    unfold bl
    rw [List.filter_map]
    congr 1
    apply List.filter_congr
    intro b hb
    have hb64 := List.mem_range.1 hb
    have e1 : (64 * n + b) / 64 = n := by omega
    have e2 : (64 * n + b) % 64 = b := by omega
    rw [diffN_bit _ _ hb64]
    simp only [Function.comp, bitOf, e1, e2]
end Go.Proofs.YtlpdomgedaockaaGreatDoor
namespace Go.Proofs.YtlpdomgedaockaaGreatDoor
open Go.RowKit Go.Proofs.Ord

theorem yield_any {m : Nat} (m' : Nat) {P : Program} {l : Nat} {args : Array Value} {W : World} {R : Ending → World → Prop} (h : YieldAt Fence.wide m P l args W R) : YieldAt Fence.wide m' P l args W R := by
  obtain ⟨fn, tmps, assign, body, hy, hR⟩ := h
  exact ⟨fn, tmps, assign, body, hy, hR.1, fun c cs _ => hR.2 c cs (room_wide _)⟩
theorem SeqF.any {α : Type} {n : Nat} (m : Nat) {P : Program} {g : Nat} {lb : Array Value} {encs : α → Array Value} {Base : Side} {E : List α → α → Side → World → Prop} {S Sp : List α → Prop} {w : World} (h : SeqF Fence.wide n P g lb encs Base E S Sp w) : SeqF Fence.wide m P g lb encs Base E S Sp w :=
  fun l J Jx W hW hJ hJx hin hbase hY h0 => callsIn_wide.2 (callsIn_wide.1 (h l J Jx W hW hJ hJx hin hbase (fun pre x O W1 hj he => yield_any _ (hY pre x O W1 hj he)) h0))
theorem stops_any {α : Type} {n : Nat} (m : Nat) {P : Program} {g : Nat} {lb : Array Value} {encs : α → Array Value} {Kp : World → World → Prop} {S Sp : List α → Prop} {N : Nat} {w : World} (h : SeqStopsK Fence.wide n P g lb encs Kp S Sp N w) : SeqStopsK Fence.wide m P g lb encs Kp S Sp N w :=
  fun l J Jx W hW hJ hJx hY h0 => callsIn_wide.2 (callsIn_wide.1 (h l J Jx W hW hJ hJx (fun pre x W1 hj hl => yield_any _ (hY pre x W1 hj hl)) h0))

/-- The races of one event, the first ones of them among the K events from one on. -/
def rfOne (l : Nat → Ev) (from_ K j : Nat) : List (Nat × Nat) := ((List.range (min j K)).filter fun i => race l (from_ + i) (from_ + j)).map fun i => (from_ + i, from_ + j)
/-- .. and of the first n of them. -/
def rf (l : Nat → Ev) (from_ K n : Nat) : List (Nat × Nat) := (List.range n).flatMap (rfOne l from_ K)
theorem rf_succ (l : Nat → Ev) (from_ K n : Nat) : rf l from_ K (n + 1) = rf l from_ K n ++ rfOne l from_ K n := by simp [rf, List.range_succ]
theorem rfOne_len (l : Nat → Ev) (from_ K j : Nat) : (rfOne l from_ K j).length ≤ j := by
  unfold rfOne
  rw [List.length_map]
  have := List.length_filter_le (fun i => race l (from_ + i) (from_ + j)) (List.range (min j K))
  rw [List.length_range] at this
  omega
theorem rf_len (l : Nat → Ev) (from_ K n : Nat) : (rf l from_ K n).length ≤ n * n := by
  induction n with
  | zero => simp [rf]
  | succ n ih =>
    rw [rf_succ, List.length_append]
    have := rfOne_len l from_ K n
    have e : (n + 1) * (n + 1) = n * n + n + (n + 1) := by rw [Nat.add_mul, Nat.mul_add]; omega
    omega

/-- Pairs in cells. -/
def prs (ps : List (Nat × Nat)) : List Value := ps.flatMap fun p => [.int .i64 (p.1 : Int), .int .i64 (p.2 : Int)]
theorem prs_len (ps : List (Nat × Nat)) : (prs ps).length = ps.length * 2 := by
  induction ps with
  | nil => rfl
  | cons d ds ih => simp only [prs, List.flatMap_cons, List.length_append, List.length_cons, List.length_nil] at ih ⊢; omega
theorem prs_append (ps qs : List (Nat × Nat)) : prs (ps ++ qs) = prs ps ++ prs qs := by simp [prs]

theorem Tryz.infoP : (Tryz.prog.info? 40).map (fun i => (i.zero, i.size, i.bytes)) = some (some (.agg #[.int .i64 0, .int .i64 0]), 2, 16) := by kernel_rfl

/-- What without tells of an event's rivals: its races. -/
theorem rivals_without {s o : List Nat} {K k from_ : Nat} {l : List Ev} 
    (hs : Holds s K (fun i => i < k ∧ ((ev l (from_ + k)).kind, (ev l (from_ + k)).obj) ∈ rivals (ev l (from_ + i)))) (ho : Holds o K (fun i => bef (ev l) (from_ + i) (from_ + k) = true)) :
    (allW s o s.length).map (fun i => (from_ + i, from_ + k)) = rfOne (ev l) from_ K k := by
  unfold rfOne
  congr 1
  rw [allW_filter]
  have hP : ∀ i, (bitOf s i && !bitOf o i) = true ↔ i < min k K ∧ race (ev l) (from_ + i) (from_ + k) = true := fun i => by
    rw [Bool.and_eq_true, Bool.not_eq_true']
    constructor
    · rintro ⟨h1, h2⟩
      obtain ⟨h3, h4, h5⟩ := (hs.1 i).1 h1
      refine ⟨by omega, (race_iff _ (by omega)).2 ⟨h5, ?_⟩⟩
      cases hb : bef (ev l) (from_ + i) (from_ + k) with
      | false => rfl
      | true => rw [(ho.1 i).2 ⟨h3, hb⟩] at h2; cases h2
    · rintro ⟨h1, h2⟩
      obtain ⟨h3, h4⟩ := (race_iff _ (by omega)).1 h2
      refine ⟨(hs.1 i).2 ⟨by omega, by omega, h3⟩, ?_⟩
      cases hb : bitOf o i with
      | false => rfl
      | true => have h5 : bef (ev l) (from_ + i) (from_ + k) = true := ((ho.1 i).1 hb).2
                rw [h4] at h5; cases h5
  have hlen : ∀ i, (bitOf s i && !bitOf o i) = true → i < 64 * s.length := fun i h => by
    rw [Bool.and_eq_true] at h
    by_cases hi : i / 64 < s.length
    · omega
    · have := h.1; unfold bitOf at this; rw [getDN_past (by omega)] at this; simp at this
  rw [filter_range_ext hlen (m := min k K) (fun i h => ((hP i).1 h).1)]
  apply List.filter_congr
  intro i hi
  apply Bool.eq_iff_iff.2
  rw [hP i]
  exact ⟨fun h => h.2, fun h => ⟨List.mem_range.1 hi, h⟩⟩
theorem access_key : KeyT 127 := by
  refine ⟨fun e d w => ?_, fun d d' w => ?_, ⟨_, Tryz.underlying127⟩⟩
  · cases e <;> kernel_rfl
  · have u3 := Tryz.underlying3
    have a3 := Tryz.isAgg3
    have z3 := Tryz.sizeOf3
    unfold Op.equal Op.maxDepth dk
    rw [show (10000 : Nat) = 9999 + 1 from rfl, run_equalIn_struct (P := Tryz.prog) w 9999 127 _ _ (by kernel_rfl) (by kernel_rfl)]
    simp only [Program.fieldsOf, Tryz.underlying127]
    go_simp
    by_cases h1 : d.fst = d'.fst <;> by_cases h2 : d.snd = d'.snd <;> simp [h1, h2]

end Go.Proofs.YtlpdomgedaockaaGreatDoor
