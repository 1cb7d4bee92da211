import Derived.Test.YtiaedjnedoemoabDoorPastMath
/-
  The plain mathematics of counting: how many events that count are in a set, by threads.
-/
namespace Go.Proofs.YtiaedjnedoemoabDoor
open Go.Proofs.Ord
open Classical

/-- How many of the first n events that count are of thread u, and in A. -/
noncomputable def num (L : Nat → Ev) (c : Nat → Bool) (A : Nat → Prop) (u : Int) : Nat → Nat
  | 0 => 0
  | n + 1 => num L c A u n + if (c n = true ∧ (L n).thread = u ∧ A n) then 1 else 0

/-- With an event all of its thread ahead of it. -/
def Closed (L : Nat → Ev) (A : Nat → Prop) : Prop := ∀ i j, i < j → (L i).thread = (L j).thread → A j → A i

variable {L : Nat → Ev} {c : Nat → Bool} {A B : Nat → Prop} {u : Int}

theorem num_le (n : Nat) : num L c A u n ≤ n := by
  induction n with
  | zero => simp [num]
  | succ n ih => rw [num]; split <;> omega
theorem num_congr {n : Nat} (h : ∀ i, i < n → c i = true → (L i).thread = u → (A i ↔ B i)) : num L c A u n = num L c B u n := by
  induction n with
  | zero => rfl
  | succ n ih =>
    rw [num, num, ih (fun i hi => h i (by omega))]
    congr 1
    by_cases h1 : c n = true ∧ (L n).thread = u
    · have := h n (by omega) h1.1 h1.2
      simp [h1, this]
    · rw [if_neg (fun h => h1 ⟨h.1, h.2.1⟩), if_neg (fun h => h1 ⟨h.1, h.2.1⟩)]
theorem num_mono {n : Nat} (h : ∀ i, i < n → c i = true → (L i).thread = u → A i → B i) : num L c A u n ≤ num L c B u n := by
  induction n with
  | zero => exact Nat.le_refl _
  | succ n ih =>
    rw [num, num]
    have := ih (fun i hi => h i (by omega))
    by_cases h1 : c n = true ∧ (L n).thread = u ∧ A n
    · rw [if_pos h1, if_pos ⟨h1.1, h1.2.1, h n (by omega) h1.1 h1.2.1 h1.2.2⟩]; omega
    · rw [if_neg h1]; split <;> omega
theorem num_past {n m : Nat} (h : ∀ i, n ≤ i → ¬ A i) (hm : n ≤ m) : num L c A u m = num L c A u n := by
  induction m with
  | zero => obtain rfl : n = 0 := by omega
            rfl
  | succ m ih =>
    by_cases e : n = m + 1
    · rw [e]
    · rw [num, ih (by omega), if_neg (fun h' => h m (by omega) h'.2.2), Nat.add_zero]
theorem num_zero {n : Nat} (h : ∀ i, i < n → c i = true → (L i).thread = u → ¬ A i) : num L c A u n = 0 := by
  induction n with
  | zero => rfl
  | succ n ih => rw [num, ih (fun i hi => h i (by omega)), if_neg (fun h' => h n (by omega) h'.1 h'.2.1 h'.2.2)]
theorem num_lt {n i : Nat} (h : ∀ i, i < n → c i = true → (L i).thread = u → A i → B i) (hi : i < n) (hc : c i = true) (hu : (L i).thread = u) (hA : ¬ A i) (hB : B i) : num L c A u n < num L c B u n := by
  induction n with
  | zero => omega
  | succ n ih =>
    rw [num, num]
    by_cases e : i = n
    · subst e
      rw [if_neg (fun h' => hA h'.2.2), if_pos ⟨hc, hu, hB⟩]
      have := num_mono (n := i) (fun q hq => h q (by omega))
      omega
    · have := ih (fun q hq => h q (by omega)) (by omega)
      by_cases h1 : c n = true ∧ (L n).thread = u ∧ A n
      · rw [if_pos h1, if_pos ⟨h1.1, h1.2.1, h n (by omega) h1.1 h1.2.1 h1.2.2⟩]; omega
      · rw [if_neg h1]; split <;> omega

theorem Closed.or (hA : Closed L A) (hB : Closed L B) : Closed L (fun i => A i ∨ B i) := fun i j h1 h2 h => h.imp (hA i j h1 h2) (hB i j h1 h2)

/-- Of two closed sets one holds the other's events of a thread. -/
theorem closed_cmp (hA : Closed L A) (hB : Closed L B) (u : Int) : (∀ i, (L i).thread = u → A i → B i) ∨ (∀ i, (L i).thread = u → B i → A i) := by
  by_cases h : ∀ i, (L i).thread = u → A i → B i
  · exact .inl h
  · right
    obtain ⟨i, h⟩ := Classical.not_forall.1 h
    obtain ⟨h1, h⟩ := Classical.not_imp.1 h
    obtain ⟨h2, h3⟩ := Classical.not_imp.1 h
    intro j hj hb
    rcases Nat.lt_trichotomy j i with h4 | h4 | h4
    · exact hA j i h4 (hj.trans h1.symm) h2
    · exact h4 ▸ h2
    · exact absurd (hB i j h4 (h1.trans hj.symm) hb) h3

theorem num_or (hA : Closed L A) (hB : Closed L B) (n : Nat) : num L c (fun i => A i ∨ B i) u n = max (num L c A u n) (num L c B u n) := by
  rcases closed_cmp hA hB u with h | h
  · have h1 : num L c (fun i => A i ∨ B i) u n = num L c B u n := num_congr fun i _ _ hu => ⟨fun h' => h'.elim (h i hu) id, .inr⟩
    have h2 : num L c A u n ≤ num L c B u n := num_mono fun i _ _ hu => h i hu
    omega
  · have h1 : num L c (fun i => A i ∨ B i) u n = num L c A u n := num_congr fun i _ _ hu => ⟨fun h' => h'.elim id (h i hu), .inl⟩
    have h2 : num L c B u n ≤ num L c A u n := num_mono fun i _ _ hu => h i hu
    omega

/-- Numbers tell what is in what. -/
theorem num_le_iff (hA : Closed L A) (hB : Closed L B) (n : Nat) : (∀ u, num L c A u n ≤ num L c B u n) ↔ ∀ i, i < n → c i = true → A i → B i := by
  constructor
  · intro h i hi hc ha
    apply Classical.byContradiction
    intro hb
    have h1 := h (L i).thread
    rcases closed_cmp hA hB (L i).thread with h2 | h2
    · exact hb (h2 i rfl ha)
    · have := num_lt (L := L) (c := c) (A := B) (B := A) (u := (L i).thread) (n := n) (fun q _ _ hq => h2 q hq) hi hc rfl hb ha
      omega
  · exact fun h u => num_mono fun i hi hc _ => h i hi hc
theorem num_le_one (hA : Closed L A) (hB : Closed L B) {n i : Nat} (hi : i < n) (hc : c i = true) (ha : A i) (h1 : num L c A (L i).thread n ≤ num L c B (L i).thread n) : B i := by
  apply Classical.byContradiction
  intro hb
  rcases closed_cmp hA hB (L i).thread with h2 | h2
  · exact hb (h2 i rfl ha)
  · have := num_lt (L := L) (c := c) (A := B) (B := A) (u := (L i).thread) (n := n) (fun q _ _ hq => h2 q hq) hi hc rfl hb ha
    omega

theorem gone_closed (L : Nat → Ev) (k : Nat) (d : Int × Int) : Closed L (gone L k d) := by
  rintro i j hij ht ⟨q, hq, h, ho⟩
  have hb := bef_thread (l := L) hij ht
  refine ⟨q, hq, .inr ?_, ho⟩
  rcases h with rfl | h
  · exact hb
  · exact bef_trans hb q h
theorem bef_closed (L : Nat → Ev) (k : Nat) : Closed L (fun i => bef L i k = true) := fun _ _ hij ht h => bef_trans (bef_thread (l := L) hij ht) k h
/-- An event, and all before it. -/
def past (L : Nat → Ev) (k i : Nat) : Prop := i = k ∨ bef L i k = true
theorem past_closed (L : Nat → Ev) (k : Nat) : Closed L (past L k) := by
  rintro i j hij ht (rfl | h)
  · exact .inr (bef_thread (l := L) hij ht)
  · exact .inr (bef_trans (bef_thread (l := L) hij ht) k h)
theorem past_lt {L : Nat → Ev} {k i : Nat} (h : past L k i) : i ≤ k := h.elim (fun e => by omega) (fun h => by have := bef_lt h; omega)
theorem gone_lt {L : Nat → Ev} {k i : Nat} {d : Int × Int} (h : gone L k d i) : i < k := by
  obtain ⟨q, hq, h | h, _⟩ := h
  · omega
  · have := bef_lt h; omega

/-- The number of an event's stamp. -/
noncomputable def stampN (L : Nat → Ev) (c : Nat → Bool) (k : Nat) (u : Int) : Int := num L c (past L k) u (k + 1)
/-- The number that went out by a door. -/
noncomputable def goneN (L : Nat → Ev) (c : Nat → Bool) (k : Nat) (d : Int × Int) (u : Int) : Int := num L c (gone L k d) u k

theorem stampN_nonneg (L : Nat → Ev) (c : Nat → Bool) (k : Nat) (u : Int) : 0 ≤ stampN L c k u := by unfold stampN; omega
theorem goneN_nonneg (L : Nat → Ev) (c : Nat → Bool) (k : Nat) (d : Int × Int) (u : Int) : 0 ≤ goneN L c k d u := by unfold goneN; omega
theorem stampN_le (L : Nat → Ev) (c : Nat → Bool) (k : Nat) (u : Int) : stampN L c k u ≤ k + 1 := by unfold stampN; have := num_le (L := L) (c := c) (A := past L k) (u := u) (k + 1); omega
theorem goneN_le (L : Nat → Ev) (c : Nat → Bool) (k : Nat) (d : Int × Int) (u : Int) : goneN L c k d u ≤ k := by unfold goneN; have := num_le (L := L) (c := c) (A := gone L k d) (u := u) k; omega

/-- The number ahead of the event's own tick. -/
noncomputable def beforeN (L : Nat → Ev) (c : Nat → Bool) (k : Nat) (u : Int) : Int := num L c (fun i => bef L i k = true) u k

theorem stampN_tick (L : Nat → Ev) (c : Nat → Bool) (k : Nat) (u : Int) : stampN L c k u = beforeN L c k u + if (c k = true ∧ u = (L k).thread) then 1 else 0 := by
  unfold stampN beforeN
  rw [num]
  have h1 : num L c (past L k) u k = num L c (fun i => bef L i k = true) u k := num_congr fun i hi _ _ => ⟨fun h => h.elim (fun e => by omega) id, .inr⟩
  rw [h1]
  by_cases h : c k = true ∧ u = (L k).thread
  · rw [if_pos h, if_pos ⟨h.1, h.2.symm, .inl rfl⟩]; simp
  · rw [if_neg h, if_neg (fun h' => h ⟨h'.1, h'.2.1.symm⟩)]; simp

/-- What an event's door beside its thread's is, if it has one. -/
def inDoor (e : Ev) : Option (Int × Int) := if e.kind = 5 then some (1, e.obj) else if e.kind = 3 then some (2, e.obj) else if e.kind = 8 then some (0, e.obj) else none
def outDoor (e : Ev) : Option (Int × Int) := if e.kind = 6 then some (1, e.obj) else if e.kind = 4 then some (2, e.obj) else if e.kind = 7 then some (3, e.obj) else none
theorem allIn_mem (e : Ev) (d : Int × Int) : d ∈ allIn e ↔ d = (0, e.thread) ∨ d = (3, e.thread) ∨ inDoor e = some d := by
  unfold allIn inDoors inDoor
  rw [List.mem_cons, List.mem_cons]
  split
  · simp [eq_comm]
  · split
    · simp [eq_comm]
    · split <;> simp [eq_comm]
theorem allOut_mem (e : Ev) (d : Int × Int) : d ∈ allOut e ↔ d = (0, e.thread) ∨ outDoor e = some d := by
  unfold allOut outDoors outDoor
  rw [List.mem_cons]
  split
  · simp [eq_comm]
  · split
    · simp [eq_comm]
    · split <;> simp [eq_comm]
theorem inDoor_not3 {e : Ev} {d : Int × Int} (h : inDoor e = some d) : d.1 ≠ 3 := by
  unfold inDoor at h
  split at h
  · cases h; simp
  · split at h
    · cases h; simp
    · split at h
      · cases h; simp
      · cases h
theorem outDoor_not0 {e : Ev} {d : Int × Int} (h : outDoor e = some d) (t : Int) : d ≠ (0, t) := by
  unfold outDoor at h
  split at h
  · cases h; simp
  · split at h
    · cases h; simp
    · split at h
      · cases h; simp
      · cases h

/-- The higher one of each. -/
def maxF (g h : Int → Int) (u : Int) : Int := max (g u) (h u)

theorem nat_max_cast (a b : Nat) : ((max a b : Nat) : Int) = max (a : Int) (b : Int) := by omega

/-- What an event knows, out of the doors that it comes by. -/
theorem beforeN_doors (L : Nat → Ev) (c : Nat → Bool) (k : Nat) (u : Int) : beforeN L c k u = match inDoor (L k) with
    | some d => max (max (goneN L c k (0, (L k).thread) u) (goneN L c k (3, (L k).thread) u)) (goneN L c k d u)
    | none => max (goneN L c k (0, (L k).thread) u) (goneN L c k (3, (L k).thread) u) := by
  unfold beforeN goneN
  cases hd : inDoor (L k) with
  | none =>
    simp only
    rw [← nat_max_cast, ← num_or (gone_closed L k _) (gone_closed L k _)]
    congr 1
    refine num_congr fun i hi _ _ => ?_
    rw [bef_gone]
    constructor
    · rintro ⟨d, hd1, hg⟩
      rcases (allIn_mem _ _).1 hd1 with rfl | rfl | h
      · exact .inl hg
      · exact .inr hg
      · rw [hd] at h; cases h
    · rintro (h | h)
      · exact ⟨_, (allIn_mem _ _).2 (.inl rfl), h⟩
      · exact ⟨_, (allIn_mem _ _).2 (.inr (.inl rfl)), h⟩
  | some d =>
    simp only
    rw [← nat_max_cast, ← nat_max_cast, ← num_or (gone_closed L k _) (gone_closed L k _), ← num_or ((gone_closed L k _).or (gone_closed L k _)) (gone_closed L k _)]
    congr 1
    refine num_congr fun i hi _ _ => ?_
    rw [bef_gone]
    constructor
    · rintro ⟨d', hd1, hg⟩
      rcases (allIn_mem _ _).1 hd1 with rfl | rfl | h
      · exact .inl (.inl hg)
      · exact .inl (.inr hg)
      · rw [hd] at h; cases h; exact .inr hg
    · rintro ((h | h) | h)
      · exact ⟨_, (allIn_mem _ _).2 (.inl rfl), h⟩
      · exact ⟨_, (allIn_mem _ _).2 (.inr (.inl rfl)), h⟩
      · exact ⟨_, (allIn_mem _ _).2 (.inr (.inr hd)), h⟩

/-- What has gone out by a door behind event k. -/
theorem goneN_succ (L : Nat → Ev) (c : Nat → Bool) (k : Nat) (d : Int × Int) (u : Int) : goneN L c (k + 1) d u =
    if d = (0, (L k).thread) then stampN L c k u else if outDoor (L k) = some d then max (goneN L c k d u) (stampN L c k u) else goneN L c k d u := by
  have hpast : num L c (gone L k d) u (k + 1) = num L c (gone L k d) u k := num_past (fun i hi h => by have := gone_lt h; omega) (by omega)
  unfold goneN stampN
  by_cases h0 : d = (0, (L k).thread)
  · rw [if_pos h0]
    congr 1
    refine num_congr fun i hi _ _ => ?_
    rw [gone_succ]
    constructor
    · rintro (h | ⟨_, h⟩)
      · exact .inr ((bef_gone L i k).2 ⟨d, (allIn_mem _ _).2 (.inl h0), h⟩)
      · exact h
    · exact fun h => .inr ⟨(allOut_mem _ _).2 (.inl h0), h⟩
  · rw [if_neg h0]
    by_cases h1 : outDoor (L k) = some d
    · rw [if_pos h1, ← hpast, ← nat_max_cast, ← num_or (gone_closed L k d) (past_closed L k)]
      congr 1
      refine num_congr fun i hi _ _ => ?_
      rw [gone_succ]
      constructor
      · rintro (h | ⟨_, h⟩)
        · exact .inl h
        · exact .inr h
      · rintro (h | h)
        · exact .inl h
        · exact .inr ⟨(allOut_mem _ _).2 (.inr h1), h⟩
    · rw [if_neg h1, ← hpast]
      congr 1
      refine num_congr fun i hi _ _ => ?_
      rw [gone_succ]
      constructor
      · rintro (h | ⟨h, _⟩)
        · exact h
        · exact ((allOut_mem _ _).1 h).elim (fun e => absurd e h0) (fun e => absurd e h1)
      · exact .inl
theorem goneN_zero (L : Nat → Ev) (c : Nat → Bool) (d : Int × Int) (u : Int) : goneN L c 0 d u = 0 := rfl
/-- What came by the thread's doors is in the stamp. -/
theorem gone_le_stamp (L : Nat → Ev) (c : Nat → Bool) (k : Nat) (d : Int × Int) (hd : d ∈ allIn (L k)) (u : Int) : goneN L c k d u ≤ stampN L c k u := by
  have hpast : num L c (gone L k d) u (k + 1) = num L c (gone L k d) u k := num_past (fun i hi h => by have := gone_lt h; omega) (by omega)
  unfold goneN stampN
  rw [← hpast]
  have : num L c (gone L k d) u (k + 1) ≤ num L c (past L k) u (k + 1) := num_mono fun i _ _ _ h => .inr ((bef_gone L i k).2 ⟨d, hd, h⟩)
  omega

/-- What the flow's stamps say, with what the threads' doors and those of their spawns say together. -/
structure FlowN (L : Nat → Ev) (c : Nat → Bool) (k : Nat) (R : Int × Int → Int → Int) : Prop where
  door : ∀ d, d.1 ≠ 3 → ∀ u, R d u = goneN L c k d u
  both : ∀ t u, max (R (0, t) u) (R (3, t) u) = max (goneN L c k (0, t) u) (goneN L c k (3, t) u)
  nonneg : ∀ d u, 0 ≤ R d u

theorem flowN_zero (L : Nat → Ev) (c : Nat → Bool) : FlowN L c 0 (fun _ _ => 0) := ⟨fun d _ u => (goneN_zero L c d u).symm, fun t u => by rw [goneN_zero, goneN_zero], fun _ _ => Int.le_refl _⟩

/-- What an event knows, out of the flow. -/
theorem FlowN.before {L : Nat → Ev} {c : Nat → Bool} {k : Nat} {R : Int × Int → Int → Int} (h : FlowN L c k R) (u : Int) : beforeN L c k u = match inDoor (L k) with
    | some d => max (max (R (0, (L k).thread) u) (R (3, (L k).thread) u)) (R d u)
    | none => max (R (0, (L k).thread) u) (R (3, (L k).thread) u) := by
  rw [beforeN_doors]
  cases hd : inDoor (L k) with
  | none => simp only; rw [h.both]
  | some d => simp only; rw [h.both, h.door d (inDoor_not3 hd)]

/-- The flow behind event k. -/
theorem FlowN.next {L : Nat → Ev} {c : Nat → Bool} {k : Nat} {R R' : Int × Int → Int → Int} (h : FlowN L c k R)
    (h1 : ∀ u, R' (0, (L k).thread) u = stampN L c k u)
    (h2 : ∀ d, outDoor (L k) = some d → ∀ u, R' d u = max (if d = (3, (L k).thread) then 0 else R d u) (stampN L c k u))
    (h3 : ∀ d, d ≠ (0, (L k).thread) → outDoor (L k) ≠ some d → ∀ u, R' d u = if d = (3, (L k).thread) then 0 else R d u) : FlowN L c (k + 1) R' := by
  have hs := stampN_nonneg L c k
  refine ⟨fun d hd u => ?_, fun t u => ?_, fun d u => ?_⟩
  · have hd3 : d ≠ (3, (L k).thread) := fun e => hd (by rw [e])
    rw [goneN_succ]
    by_cases h0 : d = (0, (L k).thread)
    · rw [if_pos h0, h0, h1]
    · rw [if_neg h0]
      by_cases ho : outDoor (L k) = some d
      · rw [if_pos ho, h2 d ho, if_neg hd3, h.door d hd]
      · rw [if_neg ho, h3 d h0 ho, if_neg hd3, h.door d hd]
  · rw [goneN_succ, goneN_succ]
    have hno : outDoor (L k) ≠ some (0, t) := fun e => outDoor_not0 e t rfl
    by_cases ht : t = (L k).thread
    · subst ht
      rw [if_pos rfl, if_neg (by simp), h1]
      have hle := gone_le_stamp L c k (3, (L k).thread) ((allIn_mem _ _).2 (.inr (.inl rfl))) u
      have hn := goneN_nonneg L c k (3, (L k).thread) u
      have := hs u
      by_cases ho : outDoor (L k) = some (3, (L k).thread)
      · rw [if_pos ho, h2 _ ho, if_pos rfl]; omega
      · rw [if_neg ho, h3 _ (by simp) ho, if_pos rfl]; omega
    · have e0 : ((0 : Int), t) ≠ (0, (L k).thread) := fun e => ht (by simpa using e)
      have e3 : ((3 : Int), t) ≠ (3, (L k).thread) := fun e => ht (by simpa using e)
      have e03 : ((0 : Int), t) ≠ (3, (L k).thread) := by simp
      have hb := h.both t u
      rw [if_neg e0, if_neg hno, if_neg (by simp), h3 _ e0 hno, if_neg e03]
      by_cases ho : outDoor (L k) = some (3, t)
      · rw [if_pos ho, h2 _ ho, if_neg e3]; omega
      · rw [if_neg ho, h3 _ (by simp) ho, if_neg e3]; omega
  · have := hs u
    have := h.nonneg d u
    by_cases h0 : d = (0, (L k).thread)
    · rw [h0, h1]; omega
    · by_cases ho : outDoor (L k) = some d
      · rw [h2 d ho]; omega
      · rw [h3 d h0 ho]; split <;> omega
end Go.Proofs.YtiaedjnedoemoabDoor
