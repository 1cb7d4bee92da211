import Derived.Test.YtomhdopbbnmcnabFa1
import Derived.Test.YtomhdopbbnmcnabFa0
/-
  The plain mathematics of counting: how many events that count are in a set, by threads.
-/
namespace Go.Proofs.Ytomhdopbbnmcnab
open Go.Proofs.Ord
open Classical

/-- How many of the first n events that count are of thread u, and in A. -/
noncomputable def num (L : Nat → Ev) (c : Nat → Bool) (A : Nat → Prop) (u : Int) : Nat → Nat
  | 0 => 0
  | n + 1 => num L c A u n + if (c n = true ∧ (L n).thread = u ∧ A n) then 1 else 0

/-- With an event all of its thread ahead of it. -/
def Closed (L : Nat → Ev) (A : Nat → Prop) : Prop := ∀ i j, i < j → (L i).thread = (L j).thread → A j → A i

variable {L : Nat → Ev} {c : Nat → Bool} {A B : Nat → Prop} {u : Int}

theorem num_le (n : Nat) : num L c A u n ≤ n := by
  induction n with
  | zero => simp [num]
  | succ n ih => rw [num]; split <;> omega
theorem num_congr {n : Nat} (h : ∀ i, i < n → c i = true → (L i).thread = u → (A i ↔ B i)) : num L c A u n = num L c B u n := by
  induction n with
  | zero => rfl
  | succ n ih =>
    rw [num, num, ih (fun i hi => h i (by omega))]
    congr 1
    by_cases h1 : c n = true ∧ (L n).thread = u
    · have := h n (by omega) h1.1 h1.2
      simp [h1, this]
    · rw [if_neg (fun h => h1 ⟨h.1, h.2.1⟩), if_neg (fun h => h1 ⟨h.1, h.2.1⟩)]
theorem num_mono {n : Nat} (h : ∀ i, i < n → c i = true → (L i).thread = u → A i → B i) : num L c A u n ≤ num L c B u n := by
  induction n with
  | zero => exact Nat.le_refl _
  | succ n ih =>
    rw [num, num]
    have := ih (fun i hi => h i (by omega))
    by_cases h1 : c n = true ∧ (L n).thread = u ∧ A n
    · rw [if_pos h1, if_pos ⟨h1.1, h1.2.1, h n (by omega) h1.1 h1.2.1 h1.2.2⟩]; omega
    · rw [if_neg h1]; split <;> omega
theorem num_past {n m : Nat} (h : ∀ i, n ≤ i → ¬ A i) (hm : n ≤ m) : num L c A u m = num L c A u n := by
  induction m with
  | zero => obtain rfl : n = 0 := by omega
            rfl
  | succ m ih =>
    by_cases e : n = m + 1
    · rw [e]
    · rw [num, ih (by omega), if_neg (fun h' => h m (by omega) h'.2.2), Nat.add_zero]
theorem num_zero {n : Nat} (h : ∀ i, i < n → c i = true → (L i).thread = u → ¬ A i) : num L c A u n = 0 := by
  induction n with
  | zero => rfl
  | succ n ih => rw [num, ih (fun i hi => h i (by omega)), if_neg (fun h' => h n (by omega) h'.1 h'.2.1 h'.2.2)]
theorem num_lt {n i : Nat} (h : ∀ i, i < n → c i = true → (L i).thread = u → A i → B i) (hi : i < n) (hc : c i = true) (hu : (L i).thread = u) (hA : ¬ A i) (hB : B i) : num L c A u n < num L c B u n := by
  induction n with
  | zero => omega
  | succ n ih =>
    rw [num, num]
    by_cases e : i = n
    · subst e
      rw [if_neg (fun h' => hA h'.2.2), if_pos ⟨hc, hu, hB⟩]
      have := num_mono (n := i) (fun q hq => h q (by omega))
      omega
    · have := ih (fun q hq => h q (by omega)) (by omega)
      by_cases h1 : c n = true ∧ (L n).thread = u ∧ A n
      · rw [if_pos h1, if_pos ⟨h1.1, h1.2.1, h n (by omega) h1.1 h1.2.1 h1.2.2⟩]; omega
      · rw [if_neg h1]; split <;> omega

theorem Closed.or (hA : Closed L A) (hB : Closed L B) : Closed L (fun i => A i ∨ B i) := fun i j h1 h2 h => h.imp (hA i j h1 h2) (hB i j h1 h2)

/-- Of two closed sets one holds the other's events of a thread. -/
theorem closed_cmp (hA : Closed L A) (hB : Closed L B) (u : Int) : (∀ i, (L i).thread = u → A i → B i) ∨ (∀ i, (L i).thread = u → B i → A i) := by
  by_cases h : ∀ i, (L i).thread = u → A i → B i
  · exact .inl h
  · right
    obtain ⟨i, h⟩ := Classical.not_forall.1 h
    obtain ⟨h1, h⟩ := Classical.not_imp.1 h
    obtain ⟨h2, h3⟩ := Classical.not_imp.1 h
    intro j hj hb
    rcases Nat.lt_trichotomy j i with h4 | h4 | h4
    · exact hA j i h4 (hj.trans h1.symm) h2
    · exact h4 ▸ h2
    · exact absurd (hB i j h4 (h1.trans hj.symm) hb) h3

theorem num_or (hA : Closed L A) (hB : Closed L B) (n : Nat) : num L c (fun i => A i ∨ B i) u n = max (num L c A u n) (num L c B u n) := by
  rcases closed_cmp hA hB u with h | h
  · have h1 : num L c (fun i => A i ∨ B i) u n = num L c B u n := num_congr fun i _ _ hu => ⟨fun h' => h'.elim (h i hu) id, .inr⟩
    have h2 : num L c A u n ≤ num L c B u n := num_mono fun i _ _ hu => h i hu
    omega
  · have h1 : num L c (fun i => A i ∨ B i) u n = num L c A u n := num_congr fun i _ _ hu => ⟨fun h' => h'.elim id (h i hu), .inl⟩
    have h2 : num L c B u n ≤ num L c A u n := num_mono fun i _ _ hu => h i hu
    omega

/-- Numbers tell what is in what. -/
theorem num_le_iff (hA : Closed L A) (hB : Closed L B) (n : Nat) : (∀ u, num L c A u n ≤ num L c B u n) ↔ ∀ i, i < n → c i = true → A i → B i := by
  constructor
  · intro h i hi hc ha
    apply Classical.byContradiction
    intro hb
    have h1 := h (L i).thread
    rcases closed_cmp hA hB (L i).thread with h2 | h2
    · exact hb (h2 i rfl ha)
    · have := num_lt (L := L) (c := c) (A := B) (B := A) (u := (L i).thread) (n := n) (fun q _ _ hq => h2 q hq) hi hc rfl hb ha
      omega
  · exact fun h u => num_mono fun i hi hc _ => h i hi hc
theorem num_le_one (hA : Closed L A) (hB : Closed L B) {n i : Nat} (hi : i < n) (hc : c i = true) (ha : A i) (h1 : num L c A (L i).thread n ≤ num L c B (L i).thread n) : B i := by
  apply Classical.byContradiction
  intro hb
  rcases closed_cmp hA hB (L i).thread with h2 | h2
  · exact hb (h2 i rfl ha)
  · have := num_lt (L := L) (c := c) (A := B) (B := A) (u := (L i).thread) (n := n) (fun q _ _ hq => h2 q hq) hi hc rfl hb ha
    omega

theorem gone_closed (L : Nat → Ev) (k : Nat) (d : Int × Int) : Closed L (gone L k d) := by
  rintro i j hij ht ⟨q, hq, h, ho⟩
  have hb := bef_thread (l := L) hij ht
  refine ⟨q, hq, .inr ?_, ho⟩
  rcases h with rfl | h
  · exact hb
  · exact bef_trans hb q h
theorem bef_closed (L : Nat → Ev) (k : Nat) : Closed L (fun i => bef L i k = true) := fun _ _ hij ht h => bef_trans (bef_thread (l := L) hij ht) k h
/-- An event, and all before it. -/
def past (L : Nat → Ev) (k i : Nat) : Prop := i = k ∨ bef L i k = true
theorem past_closed (L : Nat → Ev) (k : Nat) : Closed L (past L k) := by
  rintro i j hij ht (rfl | h)
  · exact .inr (bef_thread (l := L) hij ht)
  · exact .inr (bef_trans (bef_thread (l := L) hij ht) k h)
theorem past_lt {L : Nat → Ev} {k i : Nat} (h : past L k i) : i ≤ k := h.elim (fun e => by omega) (fun h => by have := bef_lt h; omega)
theorem gone_lt {L : Nat → Ev} {k i : Nat} {d : Int × Int} (h : gone L k d i) : i < k := by
  obtain ⟨q, hq, h | h, _⟩ := h
  · omega
  · have := bef_lt h; omega

/-- The number of an event's stamp. -/
noncomputable def stampN (L : Nat → Ev) (c : Nat → Bool) (k : Nat) (u : Int) : Int := num L c (past L k) u (k + 1)
/-- The number that went out by a door. -/
noncomputable def goneN (L : Nat → Ev) (c : Nat → Bool) (k : Nat) (d : Int × Int) (u : Int) : Int := num L c (gone L k d) u k

theorem stampN_nonneg (L : Nat → Ev) (c : Nat → Bool) (k : Nat) (u : Int) : 0 ≤ stampN L c k u := by unfold stampN; omega
theorem goneN_nonneg (L : Nat → Ev) (c : Nat → Bool) (k : Nat) (d : Int × Int) (u : Int) : 0 ≤ goneN L c k d u := by unfold goneN; omega
theorem stampN_le (L : Nat → Ev) (c : Nat → Bool) (k : Nat) (u : Int) : stampN L c k u ≤ k + 1 := by unfold stampN; have := num_le (L := L) (c := c) (A := past L k) (u := u) (k + 1); omega
theorem goneN_le (L : Nat → Ev) (c : Nat → Bool) (k : Nat) (d : Int × Int) (u : Int) : goneN L c k d u ≤ k := by unfold goneN; have := num_le (L := L) (c := c) (A := gone L k d) (u := u) k; omega

/-- The number ahead of the event's own tick. -/
noncomputable def beforeN (L : Nat → Ev) (c : Nat → Bool) (k : Nat) (u : Int) : Int := num L c (fun i => bef L i k = true) u k

theorem stampN_tick (L : Nat → Ev) (c : Nat → Bool) (k : Nat) (u : Int) : stampN L c k u = beforeN L c k u + if (c k = true ∧ u = (L k).thread) then 1 else 0 := by
  unfold stampN beforeN
  rw [num]
  have h1 : num L c (past L k) u k = num L c (fun i => bef L i k = true) u k := num_congr fun i hi _ _ => ⟨fun h => h.elim (fun e => by omega) id, .inr⟩
  rw [h1]
  by_cases h : c k = true ∧ u = (L k).thread
  · rw [if_pos h, if_pos ⟨h.1, h.2.symm, .inl rfl⟩]; simp
  · rw [if_neg h, if_neg (fun h' => h ⟨h'.1, h'.2.1.symm⟩)]; simp

/-- What an event's door beside its thread's is, if it has one. -/
def inDoor (e : Ev) : Option (Int × Int) := if e.kind = 5 then some (1, e.obj) else if e.kind = 3 then some (2, e.obj) else if e.kind = 8 then some (0, e.obj) else none
def outDoor (e : Ev) : Option (Int × Int) := if e.kind = 6 then some (1, e.obj) else if e.kind = 4 then some (2, e.obj) else if e.kind = 7 then some (3, e.obj) else none
theorem allIn_mem (e : Ev) (d : Int × Int) : d ∈ allIn e ↔ d = (0, e.thread) ∨ d = (3, e.thread) ∨ inDoor e = some d := by
  unfold allIn inDoors inDoor
  rw [List.mem_cons, List.mem_cons]
  split
  · simp [eq_comm]
  · split
    · simp [eq_comm]
    · split <;> simp [eq_comm]
theorem allOut_mem (e : Ev) (d : Int × Int) : d ∈ allOut e ↔ d = (0, e.thread) ∨ outDoor e = some d := by
  unfold allOut outDoors outDoor
  rw [List.mem_cons]
  split
  · simp [eq_comm]
  · split
    · simp [eq_comm]
    · split <;> simp [eq_comm]
theorem inDoor_not3 {e : Ev} {d : Int × Int} (h : inDoor e = some d) : d.1 ≠ 3 := by
  unfold inDoor at h
  split at h
  · cases h; simp
  · split at h
    · cases h; simp
    · split at h
      · cases h; simp
      · cases h
theorem outDoor_not0 {e : Ev} {d : Int × Int} (h : outDoor e = some d) (t : Int) : d ≠ (0, t) := by
  unfold outDoor at h
  split at h
  · cases h; simp
  · split at h
    · cases h; simp
    · split at h
      · cases h; simp
      · cases h

/-- The higher one of each. -/
def maxF (g h : Int → Int) (u : Int) : Int := max (g u) (h u)

theorem nat_max_cast (a b : Nat) : ((max a b : Nat) : Int) = max (a : Int) (b : Int) := by omega

/-- What an event knows, out of the doors that it comes by. -/
theorem beforeN_doors (L : Nat → Ev) (c : Nat → Bool) (k : Nat) (u : Int) : beforeN L c k u = match inDoor (L k) with
    | some d => max (max (goneN L c k (0, (L k).thread) u) (goneN L c k (3, (L k).thread) u)) (goneN L c k d u)
    | none => max (goneN L c k (0, (L k).thread) u) (goneN L c k (3, (L k).thread) u) := by
  unfold beforeN goneN
  cases hd : inDoor (L k) with
  | none =>
    simp only
    rw [← nat_max_cast, ← num_or (gone_closed L k _) (gone_closed L k _)]
    congr 1
    refine num_congr fun i hi _ _ => ?_
    rw [bef_gone]
    constructor
    · rintro ⟨d, hd1, hg⟩
      rcases (allIn_mem _ _).1 hd1 with rfl | rfl | h
      · exact .inl hg
      · exact .inr hg
      · rw [hd] at h; cases h
    · rintro (h | h)
      · exact ⟨_, (allIn_mem _ _).2 (.inl rfl), h⟩
      · exact ⟨_, (allIn_mem _ _).2 (.inr (.inl rfl)), h⟩
  | some d =>
    simp only
    rw [← nat_max_cast, ← nat_max_cast, ← num_or (gone_closed L k _) (gone_closed L k _), ← num_or ((gone_closed L k _).or (gone_closed L k _)) (gone_closed L k _)]
    congr 1
    refine num_congr fun i hi _ _ => ?_
    rw [bef_gone]
    constructor
    · rintro ⟨d', hd1, hg⟩
      rcases (allIn_mem _ _).1 hd1 with rfl | rfl | h
      · exact .inl (.inl hg)
      · exact .inl (.inr hg)
      · rw [hd] at h; cases h; exact .inr hg
    · rintro ((h | h) | h)
      · exact ⟨_, (allIn_mem _ _).2 (.inl rfl), h⟩
      · exact ⟨_, (allIn_mem _ _).2 (.inr (.inl rfl)), h⟩
      · exact ⟨_, (allIn_mem _ _).2 (.inr (.inr hd)), h⟩

/-- What has gone out by a door behind event k. -/
theorem goneN_succ (L : Nat → Ev) (c : Nat → Bool) (k : Nat) (d : Int × Int) (u : Int) : goneN L c (k + 1) d u =
    if d = (0, (L k).thread) then stampN L c k u else if outDoor (L k) = some d then max (goneN L c k d u) (stampN L c k u) else goneN L c k d u := by
  have hpast : num L c (gone L k d) u (k + 1) = num L c (gone L k d) u k := num_past (fun i hi h => by have := gone_lt h; omega) (by omega)
  unfold goneN stampN
  by_cases h0 : d = (0, (L k).thread)
  · rw [if_pos h0]
    congr 1
    refine num_congr fun i hi _ _ => ?_
    rw [gone_succ]
    constructor
    · rintro (h | ⟨_, h⟩)
      · exact .inr ((bef_gone L i k).2 ⟨d, (allIn_mem _ _).2 (.inl h0), h⟩)
      · exact h
    · exact fun h => .inr ⟨(allOut_mem _ _).2 (.inl h0), h⟩
  · rw [if_neg h0]
    by_cases h1 : outDoor (L k) = some d
    · rw [if_pos h1, ← hpast, ← nat_max_cast, ← num_or (gone_closed L k d) (past_closed L k)]
      congr 1
      refine num_congr fun i hi _ _ => ?_
      rw [gone_succ]
      constructor
      · rintro (h | ⟨_, h⟩)
        · exact .inl h
        · exact .inr h
      · rintro (h | h)
        · exact .inl h
        · exact .inr ⟨(allOut_mem _ _).2 (.inr h1), h⟩
    · rw [if_neg h1, ← hpast]
      congr 1
      refine num_congr fun i hi _ _ => ?_
      rw [gone_succ]
      constructor
      · rintro (h | ⟨h, _⟩)
        · exact h
        · exact ((allOut_mem _ _).1 h).elim (fun e => absurd e h0) (fun e => absurd e h1)
      · exact .inl
theorem goneN_zero (L : Nat → Ev) (c : Nat → Bool) (d : Int × Int) (u : Int) : goneN L c 0 d u = 0 := rfl
/-- What came by the thread's doors is in the stamp. -/
theorem gone_le_stamp (L : Nat → Ev) (c : Nat → Bool) (k : Nat) (d : Int × Int) (hd : d ∈ allIn (L k)) (u : Int) : goneN L c k d u ≤ stampN L c k u := by
  have hpast : num L c (gone L k d) u (k + 1) = num L c (gone L k d) u k := num_past (fun i hi h => by have := gone_lt h; omega) (by omega)
  unfold goneN stampN
  rw [← hpast]
  have : num L c (gone L k d) u (k + 1) ≤ num L c (past L k) u (k + 1) := num_mono fun i _ _ _ h => .inr ((bef_gone L i k).2 ⟨d, hd, h⟩)
  omega

/-- What the flow's stamps say, with what the threads' doors and those of their spawns say together. -/
structure FlowN (L : Nat → Ev) (c : Nat → Bool) (k : Nat) (R : Int × Int → Int → Int) : Prop where
  door : ∀ d, d.1 ≠ 3 → ∀ u, R d u = goneN L c k d u
  both : ∀ t u, max (R (0, t) u) (R (3, t) u) = max (goneN L c k (0, t) u) (goneN L c k (3, t) u)
  nonneg : ∀ d u, 0 ≤ R d u

theorem flowN_zero (L : Nat → Ev) (c : Nat → Bool) : FlowN L c 0 (fun _ _ => 0) := ⟨fun d _ u => (goneN_zero L c d u).symm, fun t u => by rw [goneN_zero, goneN_zero], fun _ _ => Int.le_refl _⟩

/-- What an event knows, out of the flow. -/
theorem FlowN.before {L : Nat → Ev} {c : Nat → Bool} {k : Nat} {R : Int × Int → Int → Int} (h : FlowN L c k R) (u : Int) : beforeN L c k u = match inDoor (L k) with
    | some d => max (max (R (0, (L k).thread) u) (R (3, (L k).thread) u)) (R d u)
    | none => max (R (0, (L k).thread) u) (R (3, (L k).thread) u) := by
  rw [beforeN_doors]
  cases hd : inDoor (L k) with
  | none => simp only; rw [h.both]
  | some d => simp only; rw [h.both, h.door d (inDoor_not3 hd)]

/-- The flow behind event k. -/
theorem FlowN.next {L : Nat → Ev} {c : Nat → Bool} {k : Nat} {R R' : Int × Int → Int → Int} (h : FlowN L c k R)
    (h1 : ∀ u, R' (0, (L k).thread) u = stampN L c k u)
    (h2 : ∀ d, outDoor (L k) = some d → ∀ u, R' d u = max (if d = (3, (L k).thread) then 0 else R d u) (stampN L c k u))
    (h3 : ∀ d, d ≠ (0, (L k).thread) → outDoor (L k) ≠ some d → ∀ u, R' d u = if d = (3, (L k).thread) then 0 else R d u) : FlowN L c (k + 1) R' := by
  have hs := stampN_nonneg L c k
  refine ⟨fun d hd u => ?_, fun t u => ?_, fun d u => ?_⟩
  · have hd3 : d ≠ (3, (L k).thread) := fun e => hd (by rw [e])
    rw [goneN_succ]
    by_cases h0 : d = (0, (L k).thread)
    · rw [if_pos h0, h0, h1]
    · rw [if_neg h0]
      by_cases ho : outDoor (L k) = some d
      · rw [if_pos ho, h2 d ho, if_neg hd3, h.door d hd]
      · rw [if_neg ho, h3 d h0 ho, if_neg hd3, h.door d hd]
  · rw [goneN_succ, goneN_succ]
    have hno : outDoor (L k) ≠ some (0, t) := fun e => outDoor_not0 e t rfl
    by_cases ht : t = (L k).thread
    · subst ht
      rw [if_pos rfl, if_neg (by simp), h1]
      have hle := gone_le_stamp L c k (3, (L k).thread) ((allIn_mem _ _).2 (.inr (.inl rfl))) u
      have hn := goneN_nonneg L c k (3, (L k).thread) u
      have := hs u
      by_cases ho : outDoor (L k) = some (3, (L k).thread)
      · rw [if_pos ho, h2 _ ho, if_pos rfl]; omega
      · rw [if_neg ho, h3 _ (by simp) ho, if_pos rfl]; omega
    · have e0 : ((0 : Int), t) ≠ (0, (L k).thread) := fun e => ht (by simpa using e)
      have e3 : ((3 : Int), t) ≠ (3, (L k).thread) := fun e => ht (by simpa using e)
      have e03 : ((0 : Int), t) ≠ (3, (L k).thread) := by simp
      have hb := h.both t u
      rw [if_neg e0, if_neg hno, if_neg (by simp), h3 _ e0 hno, if_neg e03]
      by_cases ho : outDoor (L k) = some (3, t)
      · rw [if_pos ho, h2 _ ho, if_neg e3]; omega
      · rw [if_neg ho, h3 _ (by simp) ho, if_neg e3]; omega
  · have := hs u
    have := h.nonneg d u
    by_cases h0 : d = (0, (L k).thread)
    · rw [h0, h1]; omega
    · by_cases ho : outDoor (L k) = some d
      · rw [h2 d ho]; omega
      · rw [h3 d h0 ho]; split <;> omega
end Go.Proofs.Ytomhdopbbnmcnab
/-
  The plain mathematics of the last accesses of each thread.
-/
namespace Go.Proofs.Ytomhdopbbnmcnab
open Go.Proofs.Ord

/-- Event i is an access a that counts. -/
def Acc (L : Nat → Ev) (c : Nat → Bool) (a : Int × Int) (i : Nat) : Prop := c i = true ∧ (L i).kind = a.1 ∧ (L i).obj = a.2
/-- All up to a thread's last access a that counts, of the first k events. -/
def lastSet (L : Nat → Ev) (c : Nat → Bool) (k : Nat) (a : Int × Int) (j : Nat) : Prop := ∃ i, j ≤ i ∧ i < k ∧ (L j).thread = (L i).thread ∧ Acc L c a i
/-- The number of a thread's last access. -/
noncomputable def lastN (L : Nat → Ev) (c : Nat → Bool) (k : Nat) (a : Int × Int) (u : Int) : Int := num L c (lastSet L c k a) u k

theorem lastSet_closed (L : Nat → Ev) (c : Nat → Bool) (k : Nat) (a : Int × Int) : Closed L (lastSet L c k a) := by
  rintro i j hij ht ⟨q, h1, h2, h3, h4⟩
  exact ⟨q, by omega, h2, ht.trans h3, h4⟩
theorem lastSet_lt {L : Nat → Ev} {c : Nat → Bool} {k : Nat} {a : Int × Int} {j : Nat} (h : lastSet L c k a j) : j < k := by
  obtain ⟨q, h1, h2, _⟩ := h; omega
theorem lastN_nonneg (L : Nat → Ev) (c : Nat → Bool) (k : Nat) (a : Int × Int) (u : Int) : 0 ≤ lastN L c k a u := by unfold lastN; omega
theorem lastN_zero (L : Nat → Ev) (c : Nat → Bool) (a : Int × Int) (u : Int) : lastN L c 0 a u = 0 := rfl
theorem lastN_past (L : Nat → Ev) (c : Nat → Bool) (k : Nat) (a : Int × Int) (u : Int) : num L c (lastSet L c k a) u (k + 1) = num L c (lastSet L c k a) u k :=
  num_past (fun i hi h => by have := lastSet_lt h; omega) (by omega)

/-- An access that counts is the last one of its thread. -/
theorem lastN_put (L : Nat → Ev) (c : Nat → Bool) (k : Nat) (a : Int × Int) (h : Acc L c a k) (u : Int) : lastN L c (k + 1) a u = if u = (L k).thread then stampN L c k u else lastN L c k a u := by
  by_cases hu : u = (L k).thread
  · rw [if_pos hu]
    unfold lastN stampN
    congr 1
    refine num_congr fun i hi _ ht => ?_
    constructor
    · intro _
      by_cases e : i = k
      · exact .inl e
      · exact .inr (bef_thread (l := L) (by omega) (ht.trans hu))
    · intro _
      exact ⟨k, by omega, by omega, ht.trans hu, h⟩
  · rw [if_neg hu]
    unfold lastN
    rw [← lastN_past L c k a u]
    congr 1
    refine num_congr fun i hi _ ht => ?_
    constructor
    · rintro ⟨q, h1, h2, h3, h4⟩
      by_cases e : q = k
      · subst e; exact absurd (ht.symm.trans h3) hu
      · exact ⟨q, h1, by omega, h3, h4⟩
    · rintro ⟨q, h1, h2, h3, h4⟩
      exact ⟨q, h1, by omega, h3, h4⟩
theorem lastN_skip (L : Nat → Ev) (c : Nat → Bool) (k : Nat) (a : Int × Int) (h : ¬ Acc L c a k) (u : Int) : lastN L c (k + 1) a u = lastN L c k a u := by
  unfold lastN
  rw [← lastN_past L c k a u]
  congr 1
  refine num_congr fun i hi _ ht => ?_
  constructor
  · rintro ⟨q, h1, h2, h3, h4⟩
    by_cases e : q = k
    · subst e; exact absurd h4 h
    · exact ⟨q, h1, by omega, h3, h4⟩
  · rintro ⟨q, h1, h2, h3, h4⟩
    exact ⟨q, h1, by omega, h3, h4⟩

/-- Is every such access ahead of event k before it? -/
theorem lastN_leq (L : Nat → Ev) (c : Nat → Bool) (k : Nat) (a : Int × Int) : (∀ u, lastN L c k a u ≤ stampN L c k u) ↔ ∀ i, i < k → Acc L c a i → bef L i k = true := by
  have h := num_le_iff (L := L) (c := c) (lastSet_closed L c k a) (past_closed L k) (k + 1)
  have e : (∀ u, lastN L c k a u ≤ stampN L c k u) ↔ ∀ u, num L c (lastSet L c k a) u (k + 1) ≤ num L c (past L k) u (k + 1) := by
    unfold lastN stampN
    constructor
    · intro h u; have := h u; rw [lastN_past]; omega
    · intro h u; have := h u; rw [lastN_past] at this; omega
  rw [e, h]
  constructor
  · intro h i hi ha
    rcases h i (by omega) ha.1 ⟨i, Nat.le_refl _, hi, rfl, ha⟩ with h | h
    · omega
    · exact h
  · rintro h i hi hc ⟨q, h1, h2, h3, h4⟩
    right
    have hb := h q h2 h4
    by_cases e : i = q
    · subst e; exact hb
    · exact bef_trans (bef_thread (l := L) (by omega) h3) k hb

/-- With which accesses ahead of it an event races. -/
def rivalsOf (e : Ev) : List (Int × Int) := if e.kind = 1 then [(2, e.obj)] else if e.kind = 2 then [(1, e.obj), (2, e.obj)] else []

theorem conflict_iff (a b : Ev) : conflict a b = true ↔ (a.kind = 1 ∨ a.kind = 2) ∧ (b.kind = 1 ∨ b.kind = 2) ∧ a.obj = b.obj ∧ a.thread ≠ b.thread ∧ (a.kind = 2 ∨ b.kind = 2) := by
  simp only [conflict, access, Bool.and_eq_true, Bool.or_eq_true, beq_iff_eq, bne_iff_ne, ne_eq]
  exact ⟨fun ⟨⟨⟨⟨h1, h2⟩, h3⟩, h4⟩, h5⟩ => ⟨h1, h2, h3, h4, h5⟩, fun ⟨h1, h2, h3, h4, h5⟩ => ⟨⟨⟨⟨h1, h2⟩, h3⟩, h4⟩, h5⟩⟩
theorem rivals_iff (a b : Ev) : (a.kind, a.obj) ∈ rivalsOf b ↔ (a.kind = 1 ∨ a.kind = 2) ∧ (b.kind = 1 ∨ b.kind = 2) ∧ a.obj = b.obj ∧ (a.kind = 2 ∨ b.kind = 2) := by
  unfold rivalsOf
  split
  · rename_i h; simp [h]; omega
  · split
    · rename_i h1 h; simp [h]; omega
    · rename_i h1 h2; simp [h1, h2]

/-- An event races with one that counts ahead of it. -/
def mark (L : Nat → Ev) (c : Nat → Bool) (k : Nat) : Bool := (List.range k).any fun i => c i && race L i k
theorem mark_iff (L : Nat → Ev) (c : Nat → Bool) (k : Nat) : mark L c k = true ↔ ∃ i, i < k ∧ c i = true ∧ race L i k = true := by
  unfold mark
  rw [List.any_eq_true]
  constructor
  · rintro ⟨i, h1, h2⟩
    rw [Bool.and_eq_true] at h2
    exact ⟨i, List.mem_range.1 h1, h2⟩
  · rintro ⟨i, h1, h2⟩
    exact ⟨i, List.mem_range.2 h1, by rw [Bool.and_eq_true]; exact h2⟩
/-- What the stamps of the last accesses tell. -/
theorem mark_rivals (L : Nat → Ev) (c : Nat → Bool) (k : Nat) : mark L c k = true ↔ ∃ a, a ∈ rivalsOf (L k) ∧ ¬ ∀ u, lastN L c k a u ≤ stampN L c k u := by
  rw [mark_iff]
  constructor
  · rintro ⟨i, hi, hc, hr⟩
    unfold race at hr
    rw [Bool.and_eq_true, conflict_iff] at hr
    obtain ⟨⟨h1, h2, h3, h4, h5⟩, h6⟩ := hr
    refine ⟨((L i).kind, (L i).obj), (rivals_iff _ _).2 ⟨h1, h2, h3, h5⟩, fun h => ?_⟩
    have := (lastN_leq L c k _).1 h i hi ⟨hc, rfl, rfl⟩
    rw [this] at h6; cases h6
  · rintro ⟨a, ha, h⟩
    rw [lastN_leq] at h
    obtain ⟨i, h⟩ := Classical.not_forall.1 h
    obtain ⟨hi, h⟩ := Classical.not_imp.1 h
    obtain ⟨⟨hc, hk, ho⟩, h⟩ := Classical.not_imp.1 h
    have hb : bef L i k = false := by cases e : bef L i k with
      | false => rfl
      | true => exact absurd e h
    have e : a = ((L i).kind, (L i).obj) := Prod.ext hk.symm ho.symm
    rw [e, rivals_iff] at ha
    refine ⟨i, hi, hc, ?_⟩
    unfold race
    rw [Bool.and_eq_true, conflict_iff]
    refine ⟨⟨ha.1, ha.2.1, ha.2.2.1, fun ht => ?_, ha.2.2.2⟩, by rw [hb]; rfl⟩
    rw [bef_thread (l := L) hi ht] at hb; cases hb
end Go.Proofs.Ytomhdopbbnmcnab
/-
  The plain mathematics of vectors: numbers behind the end are 0.
-/
namespace Go.Proofs.Vec

/-- The number of place t (0 where there is none). -/
def at_ (zs : List Int) (t : Int) : Int := if t < 0 then 0 else zs.getD t.toNat 0

theorem at_neg (zs : List Int) (t : Int) (h : t < 0) : at_ zs t = 0 := by simp [at_, h]
theorem at_past (zs : List Int) (t : Int) (h : (zs.length : Int) ≤ t) : at_ zs t = 0 := by
  unfold at_
  by_cases h0 : t < 0
  · simp [h0]
  · simp only [h0, if_false]
    rw [List.getD_eq_getElem?_getD, List.getElem?_eq_none (by omega)]; rfl
theorem at_nat (zs : List Int) (k : Nat) : at_ zs (k : Int) = zs.getD k 0 := by
  unfold at_
  have : ¬ (k : Int) < 0 := by omega
  simp [this]
theorem getD_past (zs : List Int) (k : Nat) (h : zs.length ≤ k) : zs.getD k 0 = 0 := by
  rw [List.getD_eq_getElem?_getD, List.getElem?_eq_none (by omega)]; rfl

/-- Nowhere above. -/
def leq (xs ys : List Int) : Bool := (List.range (max xs.length ys.length)).all fun t => decide (xs.getD t 0 ≤ ys.getD t 0)

theorem leq_iff (xs ys : List Int) : leq xs ys = true ↔ ∀ t, xs.getD t 0 ≤ ys.getD t 0 := by
  unfold leq
  rw [List.all_eq_true]
  constructor
  · intro h t
    by_cases ht : t < max xs.length ys.length
    · exact of_decide_eq_true (h t (List.mem_range.2 ht))
    · rw [getD_past xs t (by omega), getD_past ys t (by omega)]; exact Int.le_refl _
  · intro h t _
    exact decide_eq_true (h t)
theorem leq_yes {xs ys : List Int} (h : ∀ t, t < max xs.length ys.length → xs.getD t 0 ≤ ys.getD t 0) : leq xs ys = true := by
  rw [leq_iff]
  intro t
  by_cases ht : t < max xs.length ys.length
  · exact h t ht
  · rw [getD_past xs t (by omega), getD_past ys t (by omega)]; exact Int.le_refl _
theorem leq_no {xs ys : List Int} (t : Nat) (h : ys.getD t 0 < xs.getD t 0) : leq xs ys = false := by
  cases e : leq xs ys with
  | false => rfl
  | true => have := (leq_iff xs ys).1 e t; omega

/-- The same everywhere. -/
def same (xs ys : List Int) : Bool := leq xs ys && leq ys xs
theorem same_iff (xs ys : List Int) : same xs ys = true ↔ ∀ t, xs.getD t 0 = ys.getD t 0 := by
  unfold same
  rw [Bool.and_eq_true, leq_iff, leq_iff]
  exact ⟨fun h t => Int.le_antisymm (h.1 t) (h.2 t), fun h => ⟨fun t => by rw [h t]; exact Int.le_refl _, fun t => by rw [h t]; exact Int.le_refl _⟩⟩
theorem same_no {xs ys : List Int} (t : Nat) (h : xs.getD t 0 ≠ ys.getD t 0) : same xs ys = false := by
  cases e : same xs ys with
  | false => rfl
  | true => exact absurd ((same_iff xs ys).1 e t) h

/-- Without zeros at its end. -/
def trim : List Int → List Int
  | [] => []
  | x :: r => if x = 0 ∧ trim r = [] then [] else x :: trim r

theorem trim_eq (l : List Int) : ∀ n, n ≤ l.length → (∀ j, n ≤ j → l.getD j 0 = 0) → (n = 0 ∨ l.getD (n - 1) 0 ≠ 0) → trim l = l.take n := by
  induction l with
  | nil => intro n _ _ _; simp [trim]
  | cons x r ih =>
    intro n hn hz hl
    match n with
    | 0 =>
      have hr : trim r = r.take 0 := ih 0 (Nat.zero_le _) (fun j _ => by have := hz (j + 1) (by omega); simpa using this) (.inl rfl)
      have hx : x = 0 := by simpa using hz 0 (Nat.le_refl _)
      simp [trim, hx, hr]
    | m + 1 =>
      have hr : trim r = r.take m := ih m (by simpa using hn) (fun j hj => by have := hz (j + 1) (by omega); simpa using this) (by
        match m, hl with
        | 0, _ => exact .inl rfl
        | q + 1, hl => right; simpa using hl)
      rw [trim, hr]
      have : ¬ (x = 0 ∧ r.take m = []) := by
        rintro ⟨hx, hm⟩
        match m, hl, hn with
        | 0, hl, _ => simp [hx] at hl
        | q + 1, _, hn => 
          have : (r.take (q + 1)).length = 0 := by rw [hm]; rfl
          simp at hn; rw [List.length_take] at this; omega
      rw [if_neg this]; rfl

theorem trim_len (l : List Int) : (trim l).length ≤ l.length := by
  induction l with
  | nil => simp [trim]
  | cons x r ih =>
    rw [trim]
    split
    · simp
    · simpa using ih
theorem trim_getD (l : List Int) : ∀ t, (trim l).getD t 0 = l.getD t 0 := by
  induction l with
  | nil => intro t; rfl
  | cons x r ih =>
    intro t
    rw [trim]
    split
    · rename_i h
      match t with
      | 0 => simpa using h.1.symm
      | q + 1 =>
        have := ih q
        rw [h.2] at this
        simpa using this
    · match t with
      | 0 => rfl
      | q + 1 => simpa using ih q

/-- Of each place the higher number: the first n places. -/
def maxUpto (xs ys : List Int) (n : Nat) : List Int := (List.range n).map fun t => max (xs.getD t 0) (ys.getD t 0)
def maxV (xs ys : List Int) : List Int := trim (maxUpto xs ys (max xs.length ys.length))
theorem maxUpto_len (xs ys : List Int) (n : Nat) : (maxUpto xs ys n).length = n := by simp [maxUpto]
theorem maxUpto_succ (xs ys : List Int) (n : Nat) : maxUpto xs ys (n + 1) = maxUpto xs ys n ++ [max (xs.getD n 0) (ys.getD n 0)] := by
  simp [maxUpto, List.range_succ]
theorem maxUpto_getD (xs ys : List Int) (n t : Nat) (h : t < n) : (maxUpto xs ys n).getD t 0 = max (xs.getD t 0) (ys.getD t 0) := by
  simp [maxUpto, h]
theorem maxV_getD (xs ys : List Int) (t : Nat) : (maxV xs ys).getD t 0 = max (xs.getD t 0) (ys.getD t 0) := by
  unfold maxV
  rw [trim_getD]
  by_cases h : t < max xs.length ys.length
  · exact maxUpto_getD _ _ _ _ h
  · rw [getD_past _ t (by rw [maxUpto_len]; omega), getD_past xs t (by omega), getD_past ys t (by omega)]; rfl
theorem maxV_len (xs ys : List Int) : (maxV xs ys).length ≤ max xs.length ys.length := by
  unfold maxV
  have := trim_len (maxUpto xs ys (max xs.length ys.length))
  rw [maxUpto_len] at this
  exact this

/-- One higher at t, the numbers of n places; f: how a sum is told. -/
def tickUpto (f : Int → Int) (xs : List Int) (t : Int) (n : Nat) : List Int := (List.range n).map fun (i : Nat) => if (i : Int) = t ∧ t ≤ 1000 then f (xs.getD i 0 + 1) else xs.getD i 0
def tickLen (xs : List Int) (t : Int) : Nat := if t ≤ 1000 then max xs.length (t + 1).toNat else xs.length
def tickV (f : Int → Int) (xs : List Int) (t : Int) : List Int := trim (tickUpto f xs t (tickLen xs t))
theorem tickUpto_len (f : Int → Int) (xs : List Int) (t : Int) (n : Nat) : (tickUpto f xs t n).length = n := by simp [tickUpto]
theorem tickUpto_succ (f : Int → Int) (xs : List Int) (t : Int) (n : Nat) : tickUpto f xs t (n + 1) = tickUpto f xs t n ++ [if (n : Int) = t ∧ t ≤ 1000 then f (xs.getD n 0 + 1) else xs.getD n 0] := by
  simp [tickUpto, List.range_succ]
theorem tickUpto_getD (f : Int → Int) (xs : List Int) (t : Int) (n i : Nat) (h : i < n) : (tickUpto f xs t n).getD i 0 = if (i : Int) = t ∧ t ≤ 1000 then f (xs.getD i 0 + 1) else xs.getD i 0 := by
  simp [tickUpto, h]
theorem tickV_getD (f : Int → Int) (xs : List Int) (t : Int) (i : Nat) : (tickV f xs t).getD i 0 = if (i : Int) = t ∧ t ≤ 1000 then f (xs.getD i 0 + 1) else xs.getD i 0 := by
  unfold tickV
  rw [trim_getD]
  by_cases h : i < tickLen xs t
  · exact tickUpto_getD _ _ _ _ _ h
  · rw [getD_past _ i (by rw [tickUpto_len]; omega)]
    unfold tickLen at h
    by_cases ht : t ≤ 1000
    · simp only [ht, if_true] at h
      have : ¬ ((i : Int) = t ∧ t ≤ 1000) := by omega
      rw [if_neg this, getD_past xs i (by omega)]
    · simp only [ht, if_false] at h
      rw [if_neg (by omega), getD_past xs i (by omega)]
theorem tickV_len (f : Int → Int) (xs : List Int) (t : Int) : (tickV f xs t).length ≤ max xs.length 1001 := by
  unfold tickV
  have h := trim_len (tickUpto f xs t (tickLen xs t))
  rw [tickUpto_len] at h
  have k : tickLen xs t ≤ max xs.length 1001 := by unfold tickLen; split <;> omega
  omega

theorem leq_refl (xs : List Int) : leq xs xs = true := (leq_iff _ _).2 fun _ => Int.le_refl _
theorem leq_trans {xs ys zs : List Int} (h1 : leq xs ys = true) (h2 : leq ys zs = true) : leq xs zs = true :=
  (leq_iff _ _).2 fun t => Int.le_trans ((leq_iff _ _).1 h1 t) ((leq_iff _ _).1 h2 t)
theorem leq_max_left (xs ys : List Int) : leq xs (maxV xs ys) = true := (leq_iff _ _).2 fun t => by rw [maxV_getD]; omega
theorem leq_max_right (xs ys : List Int) : leq ys (maxV xs ys) = true := (leq_iff _ _).2 fun t => by rw [maxV_getD]; omega
theorem max_leq {xs ys zs : List Int} (h1 : leq xs zs = true) (h2 : leq ys zs = true) : leq (maxV xs ys) zs = true :=
  (leq_iff _ _).2 fun t => by have := (leq_iff _ _).1 h1 t; have := (leq_iff _ _).1 h2 t; rw [maxV_getD]; omega
theorem same_max_comm (xs ys : List Int) : same (maxV xs ys) (maxV ys xs) = true := (same_iff _ _).2 fun t => by rw [maxV_getD, maxV_getD]; omega
theorem same_max_assoc (xs ys zs : List Int) : same (maxV (maxV xs ys) zs) (maxV xs (maxV ys zs)) = true := (same_iff _ _).2 fun t => by simp only [maxV_getD]; omega
theorem same_max_self (xs : List Int) : same (maxV xs xs) xs = true := (same_iff _ _).2 fun t => by rw [maxV_getD]; omega
theorem same_max_leq (xs ys : List Int) : same (maxV xs ys) ys = leq xs ys := by
  rw [Bool.eq_iff_iff, same_iff, leq_iff]
  constructor
  · intro h t; have := h t; rw [maxV_getD] at this; omega
  · intro h t; have := h t; rw [maxV_getD]; omega
theorem at_tick (f : Int → Int) (xs : List Int) (t : Int) (h0 : 0 ≤ t) (h1 : t ≤ 1000) : at_ (tickV f xs t) t = f (at_ xs t + 1) := by
  obtain ⟨k, rfl⟩ := Int.eq_ofNat_of_zero_le h0
  rw [at_nat, at_nat, tickV_getD, if_pos ⟨rfl, h1⟩]
theorem leq_tick (f : Int → Int) (xs : List Int) (t : Int) (h0 : 0 ≤ t) (hf : f (at_ xs t + 1) = at_ xs t + 1) : leq xs (tickV f xs t) = true := by
  obtain ⟨k, rfl⟩ := Int.eq_ofNat_of_zero_le h0
  rw [at_nat] at hf
  refine (leq_iff _ _).2 fun i => ?_
  rw [tickV_getD]
  split
  · rename_i h
    have : i = k := by omega
    subst this
    rw [hf]; omega
  · exact Int.le_refl _
theorem tick_not_leq (f : Int → Int) (xs : List Int) (t : Int) (h0 : 0 ≤ t) (h1 : t ≤ 1000) (hf : f (at_ xs t + 1) = at_ xs t + 1) : leq (tickV f xs t) xs = false := by
  obtain ⟨k, rfl⟩ := Int.eq_ofNat_of_zero_le h0
  rw [at_nat] at hf
  refine leq_no k ?_
  rw [tickV_getD, if_pos ⟨rfl, h1⟩, hf]; omega
theorem at_mem (xs : List Int) (t : Int) : at_ xs t = 0 ∨ at_ xs t ∈ xs := by
  unfold at_
  by_cases h : t < 0
  · simp [h]
  · by_cases h2 : t.toNat < xs.length
    · right; simp [h, h2]
    · left; simp only [h, if_false]; exact getD_past _ _ (by omega)

end Go.Proofs.Vec
/-
  The plain mathematics of chapter 5: stamps.
-/
namespace Go.Proofs.Ord
open Go.Proofs

/-- Is event i of thread t, and event j or before it? -/
def upto (L : Nat → Ev) (j : Nat) (t : Int) (i : Nat) : Bool := (L i).thread == t && (i == j || bef L i j)
/-- How many of the first n events are. -/
def cnt (L : Nat → Ev) (j : Nat) (t : Int) : Nat → Nat
  | 0 => 0
  | n + 1 => cnt L j t n + if upto L j t n then 1 else 0

theorem cnt_le (L : Nat → Ev) (j : Nat) (t : Int) (n : Nat) : cnt L j t n ≤ n := by
  induction n with
  | zero => simp [cnt]
  | succ n ih => rw [cnt]; split <;> omega
theorem cnt_past (L : Nat → Ev) (j : Nat) (t : Int) : ∀ n, j + 1 ≤ n → cnt L j t n = cnt L j t (j + 1) := by
  intro n
  induction n with
  | zero => intro h; omega
  | succ n ih =>
    intro h
    by_cases e : j = n
    · subst e; rfl
    · have hf : upto L j t n = false := by
        unfold upto
        have h1 : (n == j) = false := by simp; omega
        rw [h1, bef_ge (by omega)]; simp
      rw [cnt, hf, ih (by omega)]; simp

/-- The stamp of event j: of threads below th. -/
def full (L : Nat → Ev) (th : Nat) (j n : Nat) : List Int := (List.range th).map fun (t : Nat) => (cnt L j (t : Int) n : Int)
def stamp (L : Nat → Ev) (th : Nat) (j : Nat) : List Int := Vec.trim (full L th j (j + 1))
theorem full_length (L : Nat → Ev) (th j n : Nat) : (full L th j n).length = th := by simp [full]
theorem full_getD (L : Nat → Ev) (th j n t : Nat) (h : t < th) : (full L th j n).getD t 0 = cnt L j (t : Int) n := by simp [full, h]
theorem full_past (L : Nat → Ev) (th j n : Nat) (h : j + 1 ≤ n) : full L th j n = full L th j (j + 1) := by
  unfold full
  apply List.map_congr_left
  intro t _
  rw [cnt_past L j t n h]
theorem stamp_length (L : Nat → Ev) (th j : Nat) : (stamp L th j).length ≤ th := by
  have := Vec.trim_len (full L th j (j + 1))
  rw [full_length] at this
  exact this
theorem stamp_getD (L : Nat → Ev) (th j t : Nat) : (stamp L th j).getD t 0 = if t < th then (cnt L j (t : Int) (j + 1) : Int) else 0 := by
  unfold stamp
  rw [Vec.trim_getD]
  by_cases h : t < th
  · rw [if_pos h, full_getD L th j _ t h]
  · rw [if_neg h]; exact Vec.getD_past _ _ (by rw [full_length]; omega)

/-- Which event of its thread an event is: how many up to it. -/
def nth (L : Nat → Ev) (i : Nat) : Nat → Nat
  | 0 => 0
  | n + 1 => nth L i n + if (L n).thread == (L i).thread then 1 else 0

/-- What is before something is before all that this is before: so counts rise. -/
theorem upto_mono {L : Nat → Ev} {i j : Nat} (h : bef L i j = true) (t : Int) (m : Nat) (hm : upto L i t m = true) : upto L j t m = true := by
  unfold upto at *
  rw [Bool.and_eq_true, Bool.or_eq_true] at *
  refine ⟨hm.1, .inr ?_⟩
  rcases hm.2 with e | e
  · have : m = i := by simpa using e
    subst this; exact h
  · exact bef_trans e j h
theorem cnt_mono {L : Nat → Ev} {i j : Nat} (h : bef L i j = true) (t : Int) (n : Nat) : cnt L i t n ≤ cnt L j t n := by
  induction n with
  | zero => simp [cnt]
  | succ n ih =>
    rw [cnt, cnt]
    by_cases hu : upto L i t n = true
    · rw [if_pos hu, if_pos (upto_mono h t n hu)]; omega
    · rw [if_neg hu]; split <;> omega
theorem cnt_step (L : Nat → Ev) (j : Nat) (t : Int) {n m : Nat} (h : n ≤ m) : cnt L j t n ≤ cnt L j t m := by
  induction m with
  | zero => obtain rfl : n = 0 := by omega
            exact Nat.le_refl _
  | succ m ih =>
    by_cases e : n = m + 1
    · subst e; exact Nat.le_refl _
    · have := ih (by omega)
      rw [cnt]; omega
/-- Of its own thread all events up to it are before it, or itself. -/
theorem cnt_own (L : Nat → Ev) (i n : Nat) (h : n ≤ i + 1) : cnt L i (L i).thread n = nth L i n := by
  induction n with
  | zero => rfl
  | succ n ih =>
    rw [cnt, nth, ih (by omega)]
    congr 1
    by_cases e : ((L n).thread == (L i).thread) = true
    · have hu : upto L i (L i).thread n = true := by
        unfold upto
        rw [e, Bool.true_and, Bool.or_eq_true]
        by_cases e2 : n = i
        · left; simpa using e2
        · right; exact bef_thread (by omega) (by simpa using e)
      rw [if_pos hu, if_pos e]
    · have hu : ¬ upto L i (L i).thread n = true := by
        unfold upto
        rw [Bool.and_eq_true]
        exact fun h => e h.1
      rw [if_neg hu, if_neg e]
/-- If event i is not before event j behind it, j has fewer of i's thread than i is. -/
theorem cnt_less {L : Nat → Ev} {i j : Nat} (hij : i < j) (h : bef L i j = false) : cnt L j (L i).thread (j + 1) < nth L i (i + 1) := by
  -- all that is counted lies below i
  have h1 : ∀ n, i ≤ n → n ≤ j + 1 → cnt L j (L i).thread n = cnt L j (L i).thread i := by
    intro n
    induction n with
    | zero => intro h0 _; obtain rfl : i = 0 := by omega
              rfl
    | succ n ih =>
      intro hn hn2
      by_cases e : i = n + 1
      · rw [e]
      · have hu : upto L j (L i).thread n = false := by
          cases hu : upto L j (L i).thread n with
          | false => rfl
          | true =>
            unfold upto at hu
            rw [Bool.and_eq_true, Bool.or_eq_true] at hu
            exfalso
            have ht : (L n).thread = (L i).thread := by simpa using hu.1
            rcases hu.2 with e2 | e2
            · have e2' : n = j := by simpa using e2
              subst e2'
              have := bef_thread (l := L) hij ht.symm
              rw [h] at this; cases this
            · by_cases e3 : n = i
              · subst e3; rw [h] at e2; cases e2
              · have h3 := bef_thread (l := L) (i := i) (j := n) (by omega) ht.symm
                have := bef_trans h3 j e2
                rw [h] at this; cases this
        rw [cnt, hu, ih (by omega) (by omega)]; simp
  have h2 : ∀ n, n ≤ i → cnt L j (L i).thread n ≤ nth L i n := by
    intro n
    induction n with
    | zero => intro _; simp [cnt]
    | succ n ih =>
      intro hn
      rw [cnt, nth]
      have := ih (by omega)
      by_cases hu : upto L j (L i).thread n = true
      · have e : ((L n).thread == (L i).thread) = true := by unfold upto at hu; rw [Bool.and_eq_true] at hu; exact hu.1
        rw [if_pos hu, if_pos e]; omega
      · rw [if_neg hu]; split <;> omega
  have h3 : nth L i (i + 1) = nth L i i + 1 := by rw [nth]; simp
  have := h1 (j + 1) (by omega) (Nat.le_refl _)
  have := h2 i (Nat.le_refl _)
  omega
theorem cnt_more {L : Nat → Ev} {i j : Nat} (h : bef L i j = true) : nth L i (i + 1) ≤ cnt L j (L i).thread (j + 1) := by
  have hij := bef_lt h
  rw [← cnt_own L i (i + 1) (Nat.le_refl _)]
  exact Nat.le_trans (cnt_mono h _ _) (cnt_step L j _ (by omega))

/-- THE THEOREM of the stamps. -/
theorem tells {L : Nat → Ev} {i j th : Nat} (hij : i < j) (h0 : 0 ≤ (L i).thread) (h1 : (L i).thread < th) : bef L i j = decide ((nth L i (i + 1) : Int) ≤ Vec.at_ (stamp L th j) (L i).thread) := by
  obtain ⟨t, ht⟩ := Int.eq_ofNat_of_zero_le h0
  have e : Vec.at_ (stamp L th j) (L i).thread = (cnt L j (L i).thread (j + 1) : Int) := by
    rw [ht, Vec.at_nat, stamp_getD, if_pos (by omega)]
  rw [e]
  cases h : bef L i j with
  | true => have := cnt_more h; rw [decide_eq_true (by omega)]
  | false => have := cnt_less hij h; rw [decide_eq_false (by omega)]
theorem stamp_leq {L : Nat → Ev} {i j th : Nat} (h : bef L i j = true) : Vec.leq (stamp L th i) (stamp L th j) = true := by
  rw [Vec.leq_iff]
  intro t
  rw [stamp_getD, stamp_getD]
  have hij := bef_lt h
  split
  · have h1 := cnt_mono h (t : Int) (i + 1)
    have h2 := cnt_step L j (t : Int) (n := i + 1) (m := j + 1) (by omega)
    omega
  · exact Int.le_refl _
theorem stamp_not_leq {L : Nat → Ev} {i j th : Nat} (hij : i < j) (h0 : 0 ≤ (L i).thread) (h1 : (L i).thread < th) (h : bef L i j = false) : Vec.leq (stamp L th i) (stamp L th j) = false := by
  obtain ⟨t, ht⟩ := Int.eq_ofNat_of_zero_le h0
  apply Vec.leq_no t
  rw [stamp_getD, stamp_getD, if_pos (by omega), if_pos (by omega), ← ht]
  have h2 := cnt_less hij h
  have h3 := cnt_own L i (i + 1) (Nat.le_refl _)
  omega
theorem stamp_leq_bef {L : Nat → Ev} {i j th : Nat} (hij : i < j) (h0 : 0 ≤ (L i).thread) (h1 : (L i).thread < th) : Vec.leq (stamp L th i) (stamp L th j) = bef L i j := by
  cases h : bef L i j with
  | true => exact stamp_leq h
  | false => exact stamp_not_leq hij h0 h1 h

/-- Racy just if the second one of a race. -/
theorem any_races (L : Nat → Ev) (n j : Nat) (h : j < n) : ((racesTo L n).any fun p => p.2 == j) = racy L j := by
  rw [Bool.eq_iff_iff, List.any_eq_true, racy_iff]
  constructor
  · rintro ⟨⟨i, j'⟩, hm, e⟩
    have e' : j' = j := by simpa using e
    subst e'
    obtain ⟨_, h2, h3⟩ := (mem_racesTo L n i j').1 hm
    exact ⟨i, h2, h3⟩
  · rintro ⟨i, h2, h3⟩
    exact ⟨(i, j), (mem_racesTo L n i j).2 ⟨h, h2, h3⟩, by simp⟩

/-- The threads are numbers that an int can be. -/
def ThR (l : List Ev) : Prop := ∀ i, i < l.length → -9223372036854775808 ≤ (ev l i).thread ∧ (ev l i).thread ≤ 9223372036854775807
end Go.Proofs.Ord
