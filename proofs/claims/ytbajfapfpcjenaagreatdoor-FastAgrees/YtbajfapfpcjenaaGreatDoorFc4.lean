import Derived.Test.YtbajfapfpcjenaaGreatDoorFc3
import Derived.Test.YtbajfapfpcjenaaGreatDoorFc1
/-
  The plain mathematics of counting: how many events that count are in a set, by threads.
-/
namespace Go.Proofs.YtbajfapfpcjenaaGreatDoor
open Go.Proofs.Ord
open Classical

/-- How many of the first n events that count are of thread u, and in A. -/
noncomputable def num (L : Nat → Ev) (c : Nat → Bool) (A : Nat → Prop) (u : Int) : Nat → Nat
  | 0 => 0
  | n + 1 => num L c A u n + if (c n = true ∧ (L n).thread = u ∧ A n) then 1 else 0

/-- With an event all of its thread ahead of it. -/
def Closed (L : Nat → Ev) (A : Nat → Prop) : Prop := ∀ i j, i < j → (L i).thread = (L j).thread → A j → A i

variable {L : Nat → Ev} {c : Nat → Bool} {A B : Nat → Prop} {u : Int}

theorem num_le (n : Nat) : num L c A u n ≤ n := by
  induction n with
  | zero => simp [num]
  | succ n ih => rw [num]; split <;> omega
theorem num_congr {n : Nat} (h : ∀ i, i < n → c i = true → (L i).thread = u → (A i ↔ B i)) : num L c A u n = num L c B u n := by
  induction n with
  | zero => rfl
  | succ n ih =>
    rw [num, num, ih (fun i hi => h i (by omega))]
    congr 1
    by_cases h1 : c n = true ∧ (L n).thread = u
    · have := h n (by omega) h1.1 h1.2
      simp [h1, this]
    · rw [if_neg (fun h => h1 ⟨h.1, h.2.1⟩), if_neg (fun h => h1 ⟨h.1, h.2.1⟩)]
theorem num_mono {n : Nat} (h : ∀ i, i < n → c i = true → (L i).thread = u → A i → B i) : num L c A u n ≤ num L c B u n := by
  induction n with
  | zero => exact Nat.le_refl _
  | succ n ih =>
    rw [num, num]
    have := ih (fun i hi => h i (by omega))
    by_cases h1 : c n = true ∧ (L n).thread = u ∧ A n
    · rw [if_pos h1, if_pos ⟨h1.1, h1.2.1, h n (by omega) h1.1 h1.2.1 h1.2.2⟩]; omega
    · rw [if_neg h1]; split <;> omega
theorem num_past {n m : Nat} (h : ∀ i, n ≤ i → ¬ A i) (hm : n ≤ m) : num L c A u m = num L c A u n := by
  induction m with
  | zero => obtain rfl : n = 0 := by omega
            rfl
  | succ m ih =>
    by_cases e : n = m + 1
    · rw [e]
    · rw [num, ih (by omega), if_neg (fun h' => h m (by omega) h'.2.2), Nat.add_zero]
theorem num_zero {n : Nat} (h : ∀ i, i < n → c i = true → (L i).thread = u → ¬ A i) : num L c A u n = 0 := by
  induction n with
  | zero => rfl
  | succ n ih => rw [num, ih (fun i hi => h i (by omega)), if_neg (fun h' => h n (by omega) h'.1 h'.2.1 h'.2.2)]
theorem num_lt {n i : Nat} (h : ∀ i, i < n → c i = true → (L i).thread = u → A i → B i) (hi : i < n) (hc : c i = true) (hu : (L i).thread = u) (hA : ¬ A i) (hB : B i) : num L c A u n < num L c B u n := by
  induction n with
  | zero => omega
  | succ n ih =>
    rw [num, num]
    by_cases e : i = n
    · subst e
      rw [if_neg (fun h' => hA h'.2.2), if_pos ⟨hc, hu, hB⟩]
      have := num_mono (n := i) (fun q hq => h q (by omega))
      omega
    · have := ih (fun q hq => h q (by omega)) (by omega)
      by_cases h1 : c n = true ∧ (L n).thread = u ∧ A n
      · rw [if_pos h1, if_pos ⟨h1.1, h1.2.1, h n (by omega) h1.1 h1.2.1 h1.2.2⟩]; omega
      · rw [if_neg h1]; split <;> omega

theorem Closed.or (hA : Closed L A) (hB : Closed L B) : Closed L (fun i => A i ∨ B i) := fun i j h1 h2 h => h.imp (hA i j h1 h2) (hB i j h1 h2)

/-- Of two closed sets one holds the other's events of a thread. -/
theorem closed_cmp (hA : Closed L A) (hB : Closed L B) (u : Int) : (∀ i, (L i).thread = u → A i → B i) ∨ (∀ i, (L i).thread = u → B i → A i) := by
  by_cases h : ∀ i, (L i).thread = u → A i → B i
  · exact .inl h
  · right
    obtain ⟨i, h⟩ := Classical.not_forall.1 h
    obtain ⟨h1, h⟩ := Classical.not_imp.1 h
    obtain ⟨h2, h3⟩ := Classical.not_imp.1 h
    intro j hj hb
    rcases Nat.lt_trichotomy j i with h4 | h4 | h4
    · exact hA j i h4 (hj.trans h1.symm) h2
    · exact h4 ▸ h2
    · exact absurd (hB i j h4 (h1.trans hj.symm) hb) h3

theorem num_or (hA : Closed L A) (hB : Closed L B) (n : Nat) : num L c (fun i => A i ∨ B i) u n = max (num L c A u n) (num L c B u n) := by
  rcases closed_cmp hA hB u with h | h
  · have h1 : num L c (fun i => A i ∨ B i) u n = num L c B u n := num_congr fun i _ _ hu => ⟨fun h' => h'.elim (h i hu) id, .inr⟩
    have h2 : num L c A u n ≤ num L c B u n := num_mono fun i _ _ hu => h i hu
    omega
  · have h1 : num L c (fun i => A i ∨ B i) u n = num L c A u n := num_congr fun i _ _ hu => ⟨fun h' => h'.elim id (h i hu), .inl⟩
    have h2 : num L c B u n ≤ num L c A u n := num_mono fun i _ _ hu => h i hu
    omega

/-- Numbers tell what is in what. -/
theorem num_le_iff (hA : Closed L A) (hB : Closed L B) (n : Nat) : (∀ u, num L c A u n ≤ num L c B u n) ↔ ∀ i, i < n → c i = true → A i → B i := by
  constructor
  · intro h i hi hc ha
    apply Classical.byContradiction
    intro hb
    have h1 := h (L i).thread
    rcases closed_cmp hA hB (L i).thread with h2 | h2
    · exact hb (h2 i rfl ha)
    · have := num_lt (L := L) (c := c) (A := B) (B := A) (u := (L i).thread) (n := n) (fun q _ _ hq => h2 q hq) hi hc rfl hb ha
      omega
  · exact fun h u => num_mono fun i hi hc _ => h i hi hc
theorem num_le_one (hA : Closed L A) (hB : Closed L B) {n i : Nat} (hi : i < n) (hc : c i = true) (ha : A i) (h1 : num L c A (L i).thread n ≤ num L c B (L i).thread n) : B i := by
  apply Classical.byContradiction
  intro hb
  rcases closed_cmp hA hB (L i).thread with h2 | h2
  · exact hb (h2 i rfl ha)
  · have := num_lt (L := L) (c := c) (A := B) (B := A) (u := (L i).thread) (n := n) (fun q _ _ hq => h2 q hq) hi hc rfl hb ha
    omega

theorem gone_closed (L : Nat → Ev) (k : Nat) (d : Int × Int) : Closed L (gone L k d) := by
  rintro i j hij ht ⟨q, hq, h, ho⟩
  have hb := bef_thread (l := L) hij ht
  refine ⟨q, hq, .inr ?_, ho⟩
  rcases h with rfl | h
  · exact hb
  · exact bef_trans hb q h
theorem bef_closed (L : Nat → Ev) (k : Nat) : Closed L (fun i => bef L i k = true) := fun _ _ hij ht h => bef_trans (bef_thread (l := L) hij ht) k h
/-- An event, and all before it. -/
def past (L : Nat → Ev) (k i : Nat) : Prop := i = k ∨ bef L i k = true
theorem past_closed (L : Nat → Ev) (k : Nat) : Closed L (past L k) := by
  rintro i j hij ht (rfl | h)
  · exact .inr (bef_thread (l := L) hij ht)
  · exact .inr (bef_trans (bef_thread (l := L) hij ht) k h)
theorem past_lt {L : Nat → Ev} {k i : Nat} (h : past L k i) : i ≤ k := h.elim (fun e => by omega) (fun h => by have := bef_lt h; omega)
theorem gone_lt {L : Nat → Ev} {k i : Nat} {d : Int × Int} (h : gone L k d i) : i < k := by
  obtain ⟨q, hq, h | h, _⟩ := h
  · omega
  · have := bef_lt h; omega

/-- The number of an event's stamp. -/
noncomputable def stampN (L : Nat → Ev) (c : Nat → Bool) (k : Nat) (u : Int) : Int := num L c (past L k) u (k + 1)
/-- The number that went out by a door. -/
noncomputable def goneN (L : Nat → Ev) (c : Nat → Bool) (k : Nat) (d : Int × Int) (u : Int) : Int := num L c (gone L k d) u k

theorem stampN_nonneg (L : Nat → Ev) (c : Nat → Bool) (k : Nat) (u : Int) : 0 ≤ stampN L c k u := by unfold stampN; omega
theorem goneN_nonneg (L : Nat → Ev) (c : Nat → Bool) (k : Nat) (d : Int × Int) (u : Int) : 0 ≤ goneN L c k d u := by unfold goneN; omega
theorem stampN_le (L : Nat → Ev) (c : Nat → Bool) (k : Nat) (u : Int) : stampN L c k u ≤ k + 1 := by unfold stampN; have := num_le (L := L) (c := c) (A := past L k) (u := u) (k + 1); omega
theorem goneN_le (L : Nat → Ev) (c : Nat → Bool) (k : Nat) (d : Int × Int) (u : Int) : goneN L c k d u ≤ k := by unfold goneN; have := num_le (L := L) (c := c) (A := gone L k d) (u := u) k; omega

/-- The number ahead of the event's own tick. -/
noncomputable def beforeN (L : Nat → Ev) (c : Nat → Bool) (k : Nat) (u : Int) : Int := num L c (fun i => bef L i k = true) u k

theorem stampN_tick (L : Nat → Ev) (c : Nat → Bool) (k : Nat) (u : Int) : stampN L c k u = beforeN L c k u + if (c k = true ∧ u = (L k).thread) then 1 else 0 := by
  unfold stampN beforeN
  rw [num]
  have h1 : num L c (past L k) u k = num L c (fun i => bef L i k = true) u k := num_congr fun i hi _ _ => ⟨fun h => h.elim (fun e => by omega) id, .inr⟩
  rw [h1]
  by_cases h : c k = true ∧ u = (L k).thread
  · rw [if_pos h, if_pos ⟨h.1, h.2.symm, .inl rfl⟩]; simp
  · rw [if_neg h, if_neg (fun h' => h ⟨h'.1, h'.2.1.symm⟩)]; simp

/-- What an event's door beside its thread's is, if it has one. -/
def inDoor (e : Ev) : Option (Int × Int) := if e.kind = 5 then some (1, e.obj) else if e.kind = 3 then some (2, e.obj) else if e.kind = 8 then some (0, e.obj) else none
def outDoor (e : Ev) : Option (Int × Int) := if e.kind = 6 then some (1, e.obj) else if e.kind = 4 then some (2, e.obj) else if e.kind = 7 then some (3, e.obj) else none
theorem allIn_mem (e : Ev) (d : Int × Int) : d ∈ allIn e ↔ d = (0, e.thread) ∨ d = (3, e.thread) ∨ inDoor e = some d := by
  unfold allIn inDoors inDoor
  rw [List.mem_cons, List.mem_cons]
  split
  · simp [eq_comm]
  · split
    · simp [eq_comm]
    · split <;> simp [eq_comm]
theorem allOut_mem (e : Ev) (d : Int × Int) : d ∈ allOut e ↔ d = (0, e.thread) ∨ outDoor e = some d := by
  unfold allOut outDoors outDoor
  rw [List.mem_cons]
  split
  · simp [eq_comm]
  · split
    · simp [eq_comm]
    · split <;> simp [eq_comm]
theorem inDoor_not3 {e : Ev} {d : Int × Int} (h : inDoor e = some d) : d.1 ≠ 3 := by
  unfold inDoor at h
  split at h
  · cases h; simp
  · split at h
    · cases h; simp
    · split at h
      · cases h; simp
      · cases h
theorem outDoor_not0 {e : Ev} {d : Int × Int} (h : outDoor e = some d) (t : Int) : d ≠ (0, t) := by
  unfold outDoor at h
  split at h
  · cases h; simp
  · split at h
    · cases h; simp
    · split at h
      · cases h; simp
      · cases h

/-- The higher one of each. -/
def maxF (g h : Int → Int) (u : Int) : Int := max (g u) (h u)

theorem nat_max_cast (a b : Nat) : ((max a b : Nat) : Int) = max (a : Int) (b : Int) := by omega

/-- What an event knows, out of the doors that it comes by. -/
theorem beforeN_doors (L : Nat → Ev) (c : Nat → Bool) (k : Nat) (u : Int) : beforeN L c k u = match inDoor (L k) with
    | some d => max (max (goneN L c k (0, (L k).thread) u) (goneN L c k (3, (L k).thread) u)) (goneN L c k d u)
    | none => max (goneN L c k (0, (L k).thread) u) (goneN L c k (3, (L k).thread) u) := by
  unfold beforeN goneN
  cases hd : inDoor (L k) with
  | none =>
    simp only
    rw [← nat_max_cast, ← num_or (gone_closed L k _) (gone_closed L k _)]
    congr 1
    refine num_congr fun i hi _ _ => ?_
    rw [bef_gone]
    constructor
    · rintro ⟨d, hd1, hg⟩
      rcases (allIn_mem _ _).1 hd1 with rfl | rfl | h
      · exact .inl hg
      · exact .inr hg
      · rw [hd] at h; cases h
    · rintro (h | h)
      · exact ⟨_, (allIn_mem _ _).2 (.inl rfl), h⟩
      · exact ⟨_, (allIn_mem _ _).2 (.inr (.inl rfl)), h⟩
  | some d =>
    simp only
    rw [← nat_max_cast, ← nat_max_cast, ← num_or (gone_closed L k _) (gone_closed L k _), ← num_or ((gone_closed L k _).or (gone_closed L k _)) (gone_closed L k _)]
    congr 1
    refine num_congr fun i hi _ _ => ?_
    rw [bef_gone]
    constructor
    · rintro ⟨d', hd1, hg⟩
      rcases (allIn_mem _ _).1 hd1 with rfl | rfl | h
      · exact .inl (.inl hg)
      · exact .inl (.inr hg)
      · rw [hd] at h; cases h; exact .inr hg
    · rintro ((h | h) | h)
      · exact ⟨_, (allIn_mem _ _).2 (.inl rfl), h⟩
      · exact ⟨_, (allIn_mem _ _).2 (.inr (.inl rfl)), h⟩
      · exact ⟨_, (allIn_mem _ _).2 (.inr (.inr hd)), h⟩

/-- What has gone out by a door behind event k. -/
theorem goneN_succ (L : Nat → Ev) (c : Nat → Bool) (k : Nat) (d : Int × Int) (u : Int) : goneN L c (k + 1) d u =
    if d = (0, (L k).thread) then stampN L c k u else if outDoor (L k) = some d then max (goneN L c k d u) (stampN L c k u) else goneN L c k d u := by
  have hpast : num L c (gone L k d) u (k + 1) = num L c (gone L k d) u k := num_past (fun i hi h => by have := gone_lt h; omega) (by omega)
  unfold goneN stampN
  by_cases h0 : d = (0, (L k).thread)
  · rw [if_pos h0]
    congr 1
    refine num_congr fun i hi _ _ => ?_
    rw [gone_succ]
    constructor
    · rintro (h | ⟨_, h⟩)
      · exact .inr ((bef_gone L i k).2 ⟨d, (allIn_mem _ _).2 (.inl h0), h⟩)
      · exact h
    · exact fun h => .inr ⟨(allOut_mem _ _).2 (.inl h0), h⟩
  · rw [if_neg h0]
    by_cases h1 : outDoor (L k) = some d
    · rw [if_pos h1, ← hpast, ← nat_max_cast, ← num_or (gone_closed L k d) (past_closed L k)]
      congr 1
      refine num_congr fun i hi _ _ => ?_
      rw [gone_succ]
      constructor
      · rintro (h | ⟨_, h⟩)
        · exact .inl h
        · exact .inr h
      · rintro (h | h)
        · exact .inl h
        · exact .inr ⟨(allOut_mem _ _).2 (.inr h1), h⟩
    · rw [if_neg h1, ← hpast]
      congr 1
      refine num_congr fun i hi _ _ => ?_
      rw [gone_succ]
      constructor
      · rintro (h | ⟨h, _⟩)
        · exact h
        · exact ((allOut_mem _ _).1 h).elim (fun e => absurd e h0) (fun e => absurd e h1)
      · exact .inl
theorem goneN_zero (L : Nat → Ev) (c : Nat → Bool) (d : Int × Int) (u : Int) : goneN L c 0 d u = 0 := rfl
/-- What came by the thread's doors is in the stamp. -/
theorem gone_le_stamp (L : Nat → Ev) (c : Nat → Bool) (k : Nat) (d : Int × Int) (hd : d ∈ allIn (L k)) (u : Int) : goneN L c k d u ≤ stampN L c k u := by
  have hpast : num L c (gone L k d) u (k + 1) = num L c (gone L k d) u k := num_past (fun i hi h => by have := gone_lt h; omega) (by omega)
  unfold goneN stampN
  rw [← hpast]
  have : num L c (gone L k d) u (k + 1) ≤ num L c (past L k) u (k + 1) := num_mono fun i _ _ _ h => .inr ((bef_gone L i k).2 ⟨d, hd, h⟩)
  omega

/-- What the flow's stamps say, with what the threads' doors and those of their spawns say together. -/
structure FlowN (L : Nat → Ev) (c : Nat → Bool) (k : Nat) (R : Int × Int → Int → Int) : Prop where
  door : ∀ d, d.1 ≠ 3 → ∀ u, R d u = goneN L c k d u
  both : ∀ t u, max (R (0, t) u) (R (3, t) u) = max (goneN L c k (0, t) u) (goneN L c k (3, t) u)
  nonneg : ∀ d u, 0 ≤ R d u

theorem flowN_zero (L : Nat → Ev) (c : Nat → Bool) : FlowN L c 0 (fun _ _ => 0) := ⟨fun d _ u => (goneN_zero L c d u).symm, fun t u => by rw [goneN_zero, goneN_zero], fun _ _ => Int.le_refl _⟩

/-- What an event knows, out of the flow. -/
theorem FlowN.before {L : Nat → Ev} {c : Nat → Bool} {k : Nat} {R : Int × Int → Int → Int} (h : FlowN L c k R) (u : Int) : beforeN L c k u = match inDoor (L k) with
    | some d => max (max (R (0, (L k).thread) u) (R (3, (L k).thread) u)) (R d u)
    | none => max (R (0, (L k).thread) u) (R (3, (L k).thread) u) := by
  rw [beforeN_doors]
  cases hd : inDoor (L k) with
  | none => simp only; rw [h.both]
  | some d => simp only; rw [h.both, h.door d (inDoor_not3 hd)]

/-- The flow behind event k. -/
theorem FlowN.next {L : Nat → Ev} {c : Nat → Bool} {k : Nat} {R R' : Int × Int → Int → Int} (h : FlowN L c k R)
    (h1 : ∀ u, R' (0, (L k).thread) u = stampN L c k u)
    (h2 : ∀ d, outDoor (L k) = some d → ∀ u, R' d u = max (if d = (3, (L k).thread) then 0 else R d u) (stampN L c k u))
    (h3 : ∀ d, d ≠ (0, (L k).thread) → outDoor (L k) ≠ some d → ∀ u, R' d u = if d = (3, (L k).thread) then 0 else R d u) : FlowN L c (k + 1) R' := by
  have hs := stampN_nonneg L c k
  refine ⟨fun d hd u => ?_, fun t u => ?_, fun d u => ?_⟩
  · have hd3 : d ≠ (3, (L k).thread) := fun e => hd (by rw [e])
    rw [goneN_succ]
    by_cases h0 : d = (0, (L k).thread)
    · rw [if_pos h0, h0, h1]
    · rw [if_neg h0]
      by_cases ho : outDoor (L k) = some d
      · rw [if_pos ho, h2 d ho, if_neg hd3, h.door d hd]
      · rw [if_neg ho, h3 d h0 ho, if_neg hd3, h.door d hd]
  · rw [goneN_succ, goneN_succ]
    have hno : outDoor (L k) ≠ some (0, t) := fun e => outDoor_not0 e t rfl
    by_cases ht : t = (L k).thread
    · subst ht
      rw [if_pos rfl, if_neg (by simp), h1]
      have hle := gone_le_stamp L c k (3, (L k).thread) ((allIn_mem _ _).2 (.inr (.inl rfl))) u
      have hn := goneN_nonneg L c k (3, (L k).thread) u
      have := hs u
      by_cases ho : outDoor (L k) = some (3, (L k).thread)
      · rw [if_pos ho, h2 _ ho, if_pos rfl]; omega
      · rw [if_neg ho, h3 _ (by simp) ho, if_pos rfl]; omega
    · have e0 : ((0 : Int), t) ≠ (0, (L k).thread) := fun e => ht (by simpa using e)
      have e3 : ((3 : Int), t) ≠ (3, (L k).thread) := fun e => ht (by simpa using e)
      have e03 : ((0 : Int), t) ≠ (3, (L k).thread) := by simp
      have hb := h.both t u
      rw [if_neg e0, if_neg hno, if_neg (by simp), h3 _ e0 hno, if_neg e03]
      by_cases ho : outDoor (L k) = some (3, t)
      · rw [if_pos ho, h2 _ ho, if_neg e3]; omega
      · rw [if_neg ho, h3 _ (by simp) ho, if_neg e3]; omega
  · have := hs u
    have := h.nonneg d u
    by_cases h0 : d = (0, (L k).thread)
    · rw [h0, h1]; omega
    · by_cases ho : outDoor (L k) = some d
      · rw [h2 d ho]; omega
      · rw [h3 d h0 ho]; split <;> omega
end Go.Proofs.YtbajfapfpcjenaaGreatDoor
/-
  The plain mathematics of the last accesses of each thread.
-/
namespace Go.Proofs.YtbajfapfpcjenaaGreatDoor
open Go.Proofs.Ord

/-- Event i is an access a that counts. -/
def Acc (L : Nat → Ev) (c : Nat → Bool) (a : Int × Int) (i : Nat) : Prop := c i = true ∧ (L i).kind = a.1 ∧ (L i).obj = a.2
/-- All up to a thread's last access a that counts, of the first k events. -/
def lastSet (L : Nat → Ev) (c : Nat → Bool) (k : Nat) (a : Int × Int) (j : Nat) : Prop := ∃ i, j ≤ i ∧ i < k ∧ (L j).thread = (L i).thread ∧ Acc L c a i
/-- The number of a thread's last access. -/
noncomputable def lastN (L : Nat → Ev) (c : Nat → Bool) (k : Nat) (a : Int × Int) (u : Int) : Int := num L c (lastSet L c k a) u k

theorem lastSet_closed (L : Nat → Ev) (c : Nat → Bool) (k : Nat) (a : Int × Int) : Closed L (lastSet L c k a) := by
  rintro i j hij ht ⟨q, h1, h2, h3, h4⟩
  exact ⟨q, by omega, h2, ht.trans h3, h4⟩
theorem lastSet_lt {L : Nat → Ev} {c : Nat → Bool} {k : Nat} {a : Int × Int} {j : Nat} (h : lastSet L c k a j) : j < k := by
  obtain ⟨q, h1, h2, _⟩ := h; omega
theorem lastN_nonneg (L : Nat → Ev) (c : Nat → Bool) (k : Nat) (a : Int × Int) (u : Int) : 0 ≤ lastN L c k a u := by unfold lastN; omega
theorem lastN_zero (L : Nat → Ev) (c : Nat → Bool) (a : Int × Int) (u : Int) : lastN L c 0 a u = 0 := rfl
theorem lastN_past (L : Nat → Ev) (c : Nat → Bool) (k : Nat) (a : Int × Int) (u : Int) : num L c (lastSet L c k a) u (k + 1) = num L c (lastSet L c k a) u k :=
  num_past (fun i hi h => by have := lastSet_lt h; omega) (by omega)

/-- An access that counts is the last one of its thread. -/
theorem lastN_put (L : Nat → Ev) (c : Nat → Bool) (k : Nat) (a : Int × Int) (h : Acc L c a k) (u : Int) : lastN L c (k + 1) a u = if u = (L k).thread then stampN L c k u else lastN L c k a u := by
  by_cases hu : u = (L k).thread
  · rw [if_pos hu]
    unfold lastN stampN
    congr 1
    refine num_congr fun i hi _ ht => ?_
    constructor
    · intro _
      by_cases e : i = k
      · exact .inl e
      · exact .inr (bef_thread (l := L) (by omega) (ht.trans hu))
    · intro _
      exact ⟨k, by omega, by omega, ht.trans hu, h⟩
  · rw [if_neg hu]
    unfold lastN
    rw [← lastN_past L c k a u]
    congr 1
    refine num_congr fun i hi _ ht => ?_
    constructor
    · rintro ⟨q, h1, h2, h3, h4⟩
      by_cases e : q = k
      · subst e; exact absurd (ht.symm.trans h3) hu
      · exact ⟨q, h1, by omega, h3, h4⟩
    · rintro ⟨q, h1, h2, h3, h4⟩
      exact ⟨q, h1, by omega, h3, h4⟩
theorem lastN_skip (L : Nat → Ev) (c : Nat → Bool) (k : Nat) (a : Int × Int) (h : ¬ Acc L c a k) (u : Int) : lastN L c (k + 1) a u = lastN L c k a u := by
  unfold lastN
  rw [← lastN_past L c k a u]
  congr 1
  refine num_congr fun i hi _ ht => ?_
  constructor
  · rintro ⟨q, h1, h2, h3, h4⟩
    by_cases e : q = k
    · subst e; exact absurd h4 h
    · exact ⟨q, h1, by omega, h3, h4⟩
  · rintro ⟨q, h1, h2, h3, h4⟩
    exact ⟨q, h1, by omega, h3, h4⟩

/-- Is every such access ahead of event k before it? -/
theorem lastN_leq (L : Nat → Ev) (c : Nat → Bool) (k : Nat) (a : Int × Int) : (∀ u, lastN L c k a u ≤ stampN L c k u) ↔ ∀ i, i < k → Acc L c a i → bef L i k = true := by
  have h := num_le_iff (L := L) (c := c) (lastSet_closed L c k a) (past_closed L k) (k + 1)
  have e : (∀ u, lastN L c k a u ≤ stampN L c k u) ↔ ∀ u, num L c (lastSet L c k a) u (k + 1) ≤ num L c (past L k) u (k + 1) := by
    unfold lastN stampN
    constructor
    · intro h u; have := h u; rw [lastN_past]; omega
    · intro h u; have := h u; rw [lastN_past] at this; omega
  rw [e, h]
  constructor
  · intro h i hi ha
    rcases h i (by omega) ha.1 ⟨i, Nat.le_refl _, hi, rfl, ha⟩ with h | h
    · omega
    · exact h
  · rintro h i hi hc ⟨q, h1, h2, h3, h4⟩
    right
    have hb := h q h2 h4
    by_cases e : i = q
    · subst e; exact hb
    · exact bef_trans (bef_thread (l := L) (by omega) h3) k hb

/-- With which accesses ahead of it an event races. -/
def rivalsOf (e : Ev) : List (Int × Int) := if e.kind = 1 then [(2, e.obj)] else if e.kind = 2 then [(1, e.obj), (2, e.obj)] else []

theorem conflict_iff (a b : Ev) : conflict a b = true ↔ (a.kind = 1 ∨ a.kind = 2) ∧ (b.kind = 1 ∨ b.kind = 2) ∧ a.obj = b.obj ∧ a.thread ≠ b.thread ∧ (a.kind = 2 ∨ b.kind = 2) := by
  simp only [conflict, access, Bool.and_eq_true, Bool.or_eq_true, beq_iff_eq, bne_iff_ne, ne_eq]
  exact ⟨fun ⟨⟨⟨⟨h1, h2⟩, h3⟩, h4⟩, h5⟩ => ⟨h1, h2, h3, h4, h5⟩, fun ⟨h1, h2, h3, h4, h5⟩ => ⟨⟨⟨⟨h1, h2⟩, h3⟩, h4⟩, h5⟩⟩
theorem rivals_iff (a b : Ev) : (a.kind, a.obj) ∈ rivalsOf b ↔ (a.kind = 1 ∨ a.kind = 2) ∧ (b.kind = 1 ∨ b.kind = 2) ∧ a.obj = b.obj ∧ (a.kind = 2 ∨ b.kind = 2) := by
  unfold rivalsOf
  split
  · rename_i h; simp [h]; omega
  · split
    · rename_i h1 h; simp [h]; omega
    · rename_i h1 h2; simp [h1, h2]

/-- An event races with one that counts ahead of it. -/
def mark (L : Nat → Ev) (c : Nat → Bool) (k : Nat) : Bool := (List.range k).any fun i => c i && race L i k
theorem mark_iff (L : Nat → Ev) (c : Nat → Bool) (k : Nat) : mark L c k = true ↔ ∃ i, i < k ∧ c i = true ∧ race L i k = true := by
  unfold mark
  rw [List.any_eq_true]
  constructor
  · rintro ⟨i, h1, h2⟩
    rw [Bool.and_eq_true] at h2
    exact ⟨i, List.mem_range.1 h1, h2⟩
  · rintro ⟨i, h1, h2⟩
    exact ⟨i, List.mem_range.2 h1, by rw [Bool.and_eq_true]; exact h2⟩
/-- What the stamps of the last accesses tell. -/
theorem mark_rivals (L : Nat → Ev) (c : Nat → Bool) (k : Nat) : mark L c k = true ↔ ∃ a, a ∈ rivalsOf (L k) ∧ ¬ ∀ u, lastN L c k a u ≤ stampN L c k u := by
  rw [mark_iff]
  constructor
  · rintro ⟨i, hi, hc, hr⟩
    unfold race at hr
    rw [Bool.and_eq_true, conflict_iff] at hr
    obtain ⟨⟨h1, h2, h3, h4, h5⟩, h6⟩ := hr
    refine ⟨((L i).kind, (L i).obj), (rivals_iff _ _).2 ⟨h1, h2, h3, h5⟩, fun h => ?_⟩
    have := (lastN_leq L c k _).1 h i hi ⟨hc, rfl, rfl⟩
    rw [this] at h6; cases h6
  · rintro ⟨a, ha, h⟩
    rw [lastN_leq] at h
    obtain ⟨i, h⟩ := Classical.not_forall.1 h
    obtain ⟨hi, h⟩ := Classical.not_imp.1 h
    obtain ⟨⟨hc, hk, ho⟩, h⟩ := Classical.not_imp.1 h
    have hb : bef L i k = false := by cases e : bef L i k with
      | false => rfl
      | true => exact absurd e h
    have e : a = ((L i).kind, (L i).obj) := Prod.ext hk.symm ho.symm
    rw [e, rivals_iff] at ha
    refine ⟨i, hi, hc, ?_⟩
    unfold race
    rw [Bool.and_eq_true, conflict_iff]
    refine ⟨⟨ha.1, ha.2.1, ha.2.2.1, fun ht => ?_, ha.2.2.2⟩, by rw [hb]; rfl⟩
    rw [bef_thread (l := L) hi ht] at hb; cases hb
end Go.Proofs.YtbajfapfpcjenaaGreatDoor
/-
  The plain mathematics of the detector: what is kept of a variable without a race tells whether the next access races.
-/
namespace Go.Proofs.YtbajfapfpcjenaaGreatDoor
open Go.Proofs.Ord

/-- No event of the first k races, of this variable. -/
def Clean (L : Nat → Ev) (x : Int) (k : Nat) : Prop := ∀ q, q < k → hits L x q = false
/-- The detector counts the accesses of variables that had no race ahead of them. -/
def cF (L : Nat → Ev) (i : Nat) : Bool := access (L i) && !(List.range i).any fun q => hits L (L i).obj q
theorem cF_iff (L : Nat → Ev) (i : Nat) : cF L i = true ↔ access (L i) = true ∧ Clean L (L i).obj i := by
  unfold cF Clean
  rw [Bool.and_eq_true, Bool.not_eq_true', List.any_eq_false]
  constructor
  · rintro ⟨h1, h2⟩; exact ⟨h1, fun q hq => by simpa using h2 q (List.mem_range.2 hq)⟩
  · rintro ⟨h1, h2⟩; exact ⟨h1, fun q hq => by simp [h2 q (List.mem_range.1 hq)]⟩
theorem racy_access {L : Nat → Ev} {k : Nat} (h : racy L k = true) : access (L k) = true := by
  obtain ⟨i, _, hr⟩ := (racy_iff L k).1 h
  unfold race at hr
  rw [Bool.and_eq_true, conflict_iff] at hr
  unfold access
  rcases hr.1.2.1 with h | h <;> simp [h]
theorem isFirst_cF (L : Nat → Ev) (j : Nat) : isFirst L j = (cF L j && racy L j) := by
  rw [Bool.eq_iff_iff, isFirst_iff, Bool.and_eq_true, cF_iff]
  constructor
  · rintro ⟨h1, h2⟩; exact ⟨⟨racy_access h1, h2⟩, h1⟩
  · rintro ⟨⟨_, h2⟩, h1⟩; exact ⟨h1, h2⟩

/-- An access is before an event behind it just if its number is not above the event's. -/
theorem ep_before {L : Nat → Ev} {c : Nat → Bool} {i j : Nat} (hij : i < j) (hc : c i = true) : stampN L c i (L i).thread ≤ stampN L c j (L i).thread ↔ bef L i j = true := by
  have hp : num L c (past L i) (L i).thread (j + 1) = num L c (past L i) (L i).thread (i + 1) := num_past (fun q hq h => by have := past_lt h; omega) (by omega)
  constructor
  · intro h
    have h' : num L c (past L i) (L i).thread (j + 1) ≤ num L c (past L j) (L i).thread (j + 1) := by unfold stampN at h; rw [hp]; omega
    rcases num_le_one (past_closed L i) (past_closed L j) (by omega : i < j + 1) hc (.inl rfl) h' with h | h
    · omega
    · exact h
  · intro h
    have h' : num L c (past L i) (L i).thread (j + 1) ≤ num L c (past L j) (L i).thread (j + 1) := num_mono fun q _ _ _ hq => by
      rcases hq with rfl | hq
      · exact .inr h
      · exact .inr (bef_trans hq j h)
    unfold stampN
    rw [hp] at h'
    omega

def isW (L : Nat → Ev) (x : Int) (i : Nat) : Prop := (L i).kind = 2 ∧ (L i).obj = x
def isR (L : Nat → Ev) (x : Int) (i : Nat) : Prop := (L i).kind = 1 ∧ (L i).obj = x
theorem isW_access {L : Nat → Ev} {x : Int} {i : Nat} (h : isW L x i) : access (L i) = true := by unfold access; simp [h.1]
theorem isR_access {L : Nat → Ev} {x : Int} {i : Nat} (h : isR L x i) : access (L i) = true := by unfold access; simp [h.1]

/-- Accesses that conflict, of a variable without a race, are in order. -/
theorem clean_bef {L : Nat → Ev} {x : Int} {k i j : Nat} (hcl : Clean L x k) (hij : i < j) (hj : j < k) (hi : isW L x i ∨ isR L x i) (hj' : isW L x j ∨ isR L x j) (hw : isW L x i ∨ isW L x j) : bef L i j = true := by
  cases hb : bef L i j with
  | true => rfl
  | false =>
    have hne : (L i).thread ≠ (L j).thread := fun e => by rw [bef_thread (l := L) hij e] at hb; cases hb
    have hr : race L i j = true := by
      unfold race
      rw [Bool.and_eq_true, conflict_iff, hb]
      refine ⟨⟨?_, ?_, ?_, hne, ?_⟩, rfl⟩
      · rcases hi with h | h
        · exact .inr h.1
        · exact .inl h.1
      · rcases hj' with h | h
        · exact .inr h.1
        · exact .inl h.1
      · rcases hi with h | h <;> rcases hj' with h' | h' <;> rw [h.2, h'.2]
      · exact hw.imp (fun h => h.1) (fun h => h.1)
    have hra : racy L j = true := (racy_iff L j).2 ⟨i, hij, hr⟩
    have hx : (L j).obj = x := hj'.elim (fun h => h.2) (fun h => h.2)
    have := hcl j hj
    unfold hits at this
    rw [hra, hx] at this
    simp at this
theorem clean_counts {L : Nat → Ev} {x : Int} {k i : Nat} (hcl : Clean L x k) (hi : i < k) (h : isW L x i ∨ isR L x i) : cF L i = true := by
  rw [cF_iff]
  refine ⟨h.elim isW_access isR_access, fun q hq => ?_⟩
  have hx : (L i).obj = x := h.elim (fun h => h.2) (fun h => h.2)
  rw [hx]; exact hcl q (by omega)

/-- Reads behind the last write. -/
def RB (L : Nat → Ev) (k : Nat) (x : Int) (i : Nat) : Prop := i < k ∧ isR L x i ∧ ∀ i', i' < k → isW L x i' → i' < i

/-- What is kept of a variable: the last write, the last read behind it, and others behind it. -/
structure VarS (L : Nat → Ev) (k : Nat) (x : Int) (wt wn rt rn : Int) (rs : Int → Option Int) : Prop where
  w : (wn = 0 ∧ ∀ i, i < k → ¬ isW L x i) ∨ ∃ i, i < k ∧ isW L x i ∧ (∀ i', i' < k → isW L x i' → i' ≤ i) ∧ wt = (L i).thread ∧ wn = stampN L (cF L) i wt
  r : (rn = 0 ∧ (∀ t, rs t = none) ∧ ∀ i, ¬ RB L k x i) ∨ ∃ i, RB L k x i ∧ (∀ i', RB L k x i' → i' ≤ i) ∧ rt = (L i).thread ∧ rn = stampN L (cF L) i rt
  rsOk : ∀ t n, rs t = some n → ∃ i, RB L k x i ∧ (L i).thread = t ∧ n = stampN L (cF L) i t
  cover : ∀ i, RB L k x i → ∃ q, RB L k x q ∧ (i = q ∨ bef L i q = true) ∧ ((rt = (L q).thread ∧ rn = stampN L (cF L) q rt) ∨ rs (L q).thread = some (stampN L (cF L) q (L q).thread))

theorem varS_none (L : Nat → Ev) (k : Nat) (x : Int) (h : ∀ i, i < k → ¬ isW L x i ∧ ¬ isR L x i) : VarS L k x 0 0 0 0 (fun _ => none) :=
  ⟨.inl ⟨rfl, fun i hi => (h i hi).1⟩, .inl ⟨rfl, fun _ => rfl, fun i hi => (h i hi.1).2 hi.2.1⟩, (fun t n h => by cases h), fun i hi => absurd hi.2.1 (h i hi.1).2⟩

/-- The last write tells of all. -/
theorem VarS.writes {L : Nat → Ev} {k : Nat} {x wt wn rt rn : Int} {rs : Int → Option Int} (h : VarS L k x wt wn rt rn rs) (hcl : Clean L x k) : wn ≤ stampN L (cF L) k wt ↔ ∀ i, i < k → isW L x i → bef L i k = true := by
  rcases h.w with ⟨rfl, hno⟩ | ⟨i, hi, hw, hmax, rfl, rfl⟩
  · exact ⟨fun _ i hi hw => absurd hw (hno i hi), fun _ => stampN_nonneg L _ k wt⟩
  · rw [ep_before hi (clean_counts hcl hi (.inl hw))]
    constructor
    · intro hb i' hi' hw'
      by_cases e : i' = i
      · subst e; exact hb
      · have := hmax i' hi' hw'
        exact bef_trans (clean_bef hcl (by omega) hi (.inl hw') (.inl hw) (.inl hw')) k hb
    · exact fun hall => hall i hi hw
/-- The reads that are kept tell of all. -/
theorem VarS.reads {L : Nat → Ev} {k : Nat} {x wt wn rt rn : Int} {rs : Int → Option Int} (h : VarS L k x wt wn rt rn rs) (hcl : Clean L x k) (hws : ∀ i, i < k → isW L x i → bef L i k = true) :
    (rn ≤ stampN L (cF L) k rt ∧ ∀ t n, rs t = some n → n ≤ stampN L (cF L) k t) ↔ ∀ i, i < k → isR L x i → bef L i k = true := by
  constructor
  · rintro ⟨h1, h2⟩ i hi hr
    by_cases hb : ∀ i', i' < k → isW L x i' → i' < i
    · obtain ⟨q, hq, hiq, hk⟩ := h.cover i ⟨hi, hr, hb⟩
      have hqb : bef L q k = true := by
        rw [← ep_before hq.1 (clean_counts hcl hq.1 (.inr hq.2.1))]
        rcases hk with ⟨rfl, rfl⟩ | hk
        · exact h1
        · exact h2 _ _ hk
      rcases hiq with rfl | hiq
      · exact hqb
      · exact bef_trans hiq k hqb
    · obtain ⟨i', h'⟩ := Classical.not_forall.1 hb
      obtain ⟨hi', h'⟩ := Classical.not_imp.1 h'
      obtain ⟨hw', h'⟩ := Classical.not_imp.1 h'
      have hne : i ≠ i' := fun e => by subst e; have := hr.1; have := hw'.1; omega
      exact bef_trans (clean_bef hcl (by omega) hi' (.inr hr) (.inl hw') (.inr hw')) k (hws i' hi' hw')
  · intro hall
    refine ⟨?_, fun t n hn => ?_⟩
    · rcases h.r with ⟨rfl, _, _⟩ | ⟨i, hi, _, rfl, rfl⟩
      · exact stampN_nonneg L _ k rt
      · exact (ep_before hi.1 (clean_counts hcl hi.1 (.inr hi.2.1))).2 (hall i hi.1 hi.2.1)
    · obtain ⟨i, hi, rfl, rfl⟩ := h.rsOk t n hn
      exact (ep_before hi.1 (clean_counts hcl hi.1 (.inr hi.2.1))).2 (hall i hi.1 hi.2.1)

/-- Does the next access race? -/
theorem racy_next {L : Nat → Ev} {k : Nat} {x : Int} (hx : (L k).obj = x) : racy L k = true ↔ (access (L k) = true ∧ ¬ ∀ i, i < k → isW L x i → bef L i k = true) ∨ ((L k).kind = 2 ∧ ¬ ∀ i, i < k → isR L x i → bef L i k = true) := by
  rw [racy_iff]
  constructor
  · rintro ⟨i, hi, hr⟩
    unfold race at hr
    rw [Bool.and_eq_true, conflict_iff] at hr
    obtain ⟨⟨h1, h2, h3, h4, h5⟩, hb⟩ := hr
    have hb' : ¬ bef L i k = true := by simpa using hb
    by_cases hw : (L i).kind = 2
    · left
      exact ⟨by unfold access; rcases h2 with h | h <;> simp [h], fun hall => hb' (hall i hi ⟨hw, h3.trans hx⟩)⟩
    · right
      exact ⟨h5.elim (fun h => absurd h hw) id, fun hall => hb' (hall i hi ⟨h1.elim id (fun h => absurd h hw), h3.trans hx⟩)⟩
  · intro h
    have key : ∀ i, i < k → (isW L x i ∨ (isR L x i ∧ (L k).kind = 2)) → access (L k) = true → ¬ bef L i k = true → race L i k = true := fun i hi hk ha hb => by
      have hne : (L i).thread ≠ (L k).thread := fun e => hb (bef_thread (l := L) hi e)
      unfold race
      rw [Bool.and_eq_true, conflict_iff]
      refine ⟨⟨?_, ?_, ?_, hne, ?_⟩, by simpa using hb⟩
      · rcases hk with h | h
        · exact .inr h.1
        · exact .inl h.1.1
      · unfold access at ha; simpa using ha
      · rcases hk with h | h
        · rw [h.2, hx]
        · rw [h.1.2, hx]
      · rcases hk with h | h
        · exact .inl h.1
        · exact .inr h.2
    rcases h with ⟨ha, h⟩ | ⟨hk, h⟩
    · obtain ⟨i, h⟩ := Classical.not_forall.1 h
      obtain ⟨hi, h⟩ := Classical.not_imp.1 h
      obtain ⟨hw, h⟩ := Classical.not_imp.1 h
      exact ⟨i, hi, key i hi (.inl hw) ha h⟩
    · obtain ⟨i, h⟩ := Classical.not_forall.1 h
      obtain ⟨hi, h⟩ := Classical.not_imp.1 h
      obtain ⟨hr, h⟩ := Classical.not_imp.1 h
      exact ⟨i, hi, key i hi (.inr ⟨hr, hk⟩) (by unfold access; simp [hk]) h⟩

/-- An event that is no access of it changes nothing of a variable. -/
theorem VarS.skip {L : Nat → Ev} {k : Nat} {x wt wn rt rn : Int} {rs : Int → Option Int} (h : VarS L k x wt wn rt rn rs) (hno : ¬ isW L x k ∧ ¬ isR L x k) : VarS L (k + 1) x wt wn rt rn rs := by
  have hR : ∀ i, RB L (k + 1) x i ↔ RB L k x i := fun i => by
    constructor
    · rintro ⟨h1, h2, h3⟩
      have : i ≠ k := fun e => hno.2 (e ▸ h2)
      exact ⟨by omega, h2, fun i' hi' => h3 i' (by omega)⟩
    · rintro ⟨h1, h2, h3⟩
      refine ⟨by omega, h2, fun i' hi' hw => ?_⟩
      have : i' ≠ k := fun e => hno.1 (e ▸ hw)
      exact h3 i' (by omega) hw
  refine ⟨?_, ?_, fun t n hn => ?_, fun i hi => ?_⟩
  · rcases h.w with ⟨h1, h2⟩ | ⟨i, h1, h2, h3, h4⟩
    · refine .inl ⟨h1, fun i hi hw => ?_⟩
      have : i ≠ k := fun e => hno.1 (e ▸ hw)
      exact h2 i (by omega) hw
    · refine .inr ⟨i, by omega, h2, fun i' hi' hw => ?_, h4⟩
      have : i' ≠ k := fun e => hno.1 (e ▸ hw)
      exact h3 i' (by omega) hw
  · rcases h.r with ⟨h1, h2, h3⟩ | ⟨i, h1, h2, h3⟩
    · exact .inl ⟨h1, h2, fun i hi => h3 i ((hR i).1 hi)⟩
    · exact .inr ⟨i, (hR i).2 h1, fun i' hi' => h2 i' ((hR i').1 hi'), h3⟩
  · obtain ⟨i, h1, h2⟩ := h.rsOk t n hn
    exact ⟨i, (hR i).2 h1, h2⟩
  · obtain ⟨q, h1, h2⟩ := h.cover i ((hR i).1 hi)
    exact ⟨q, (hR q).2 h1, h2⟩
/-- A write: nothing else is kept. -/
theorem varS_write (L : Nat → Ev) (k : Nat) (x : Int) (hw : isW L x k) : VarS L (k + 1) x (L k).thread (stampN L (cF L) k (L k).thread) 0 0 (fun _ => none) := by
  have hR : ∀ i, ¬ RB L (k + 1) x i := fun i h => by have := h.2.2 k (by omega) hw; have := h.1; omega
  exact ⟨.inr ⟨k, by omega, hw, fun i' hi' _ => by omega, rfl, rfl⟩, .inl ⟨rfl, fun _ => rfl, hR⟩, (fun t n h => by cases h), fun i hi => absurd hi (hR i)⟩
/-- A read: it is the last one; of what was kept that which is before it may be left away. -/
theorem VarS.read {L : Nat → Ev} {k : Nat} {x wt wn rt rn : Int} {rs rs' : Int → Option Int} (h : VarS L k x wt wn rt rn rs) (hcl : Clean L x k) (hr : isR L x k)
    (h1 : ∀ t n, rs' t = some n → rs t = some n ∨ (t = rt ∧ n = rn ∧ ¬ rn ≤ stampN L (cF L) k rt))
    (h2 : rn ≤ stampN L (cF L) k rt ∨ rs' rt = some rn)
    (h3 : ∀ t n, rs t = some n → rs' t = some n ∨ n ≤ stampN L (cF L) k t ∨ (t = rt ∧ rs' rt = some rn)) : VarS L (k + 1) x wt wn (L k).thread (stampN L (cF L) k (L k).thread) rs' := by
  have hnw : ¬ isW L x k := fun hw => by have := hr.1; have := hw.1; omega
  have hbk : ∀ i', i' < k + 1 → isW L x i' → i' < k := fun i' hi' hw => by
    have : i' ≠ k := fun e => hnw (e ▸ hw)
    omega
  have hRk : RB L (k + 1) x k := ⟨by omega, hr, hbk⟩
  have hR : ∀ i, RB L k x i → RB L (k + 1) x i := fun i ⟨g1, g2, g3⟩ => ⟨by omega, g2, fun i' hi' hw => g3 i' (hbk i' hi' hw) hw⟩
  have hR' : ∀ i, RB L (k + 1) x i → i = k ∨ RB L k x i := fun i ⟨g1, g2, g3⟩ => by
    by_cases e : i = k
    · exact .inl e
    · exact .inr ⟨by omega, g2, fun i' hi' hw => g3 i' (by omega) hw⟩
  have hcov : ∀ q, RB L k x q → stampN L (cF L) q (L q).thread ≤ stampN L (cF L) k (L q).thread → bef L q k = true := fun q hq hle => (ep_before hq.1 (clean_counts hcl hq.1 (.inr hq.2.1))).1 hle
  refine ⟨?_, .inr ⟨k, hRk, fun i' hi' => by have := hi'.1; omega, rfl, rfl⟩, fun t n hn => ?_, fun i hi => ?_⟩
  · rcases h.w with ⟨g1, g2⟩ | ⟨i, g1, g2, g3, g4⟩
    · exact .inl ⟨g1, fun i hi hw => g2 i (hbk i hi hw) hw⟩
    · exact .inr ⟨i, by omega, g2, fun i' hi' hw => g3 i' (hbk i' hi' hw) hw, g4⟩
  · rcases h1 t n hn with hn' | ⟨rfl, rfl, hle⟩
    · obtain ⟨i, g1, g2⟩ := h.rsOk t n hn'
      exact ⟨i, hR i g1, g2⟩
    · rcases h.r with ⟨g1, _, _⟩ | ⟨i, g1, _, g3, g4⟩
      · exact absurd (by rw [g1]; exact stampN_nonneg L _ k _) hle
      · exact ⟨i, hR i g1, g3.symm, g4⟩
  · rcases hR' i hi with rfl | hi'
    · exact ⟨i, hRk, .inl rfl, .inl ⟨rfl, rfl⟩⟩
    · obtain ⟨q, g1, g2, g3⟩ := h.cover i hi'
      -- the last read, where it is kept on
      have hlast : ∀ qr, RB L k x qr → (∀ i', RB L k x i' → i' ≤ qr) → rt = (L qr).thread → rn = stampN L (cF L) qr rt → (i = qr ∨ bef L i qr = true) → ∃ q, RB L (k + 1) x q ∧ (i = q ∨ bef L i q = true) ∧ (((L k).thread = (L q).thread ∧ stampN L (cF L) k (L k).thread = stampN L (cF L) q (L k).thread) ∨ rs' (L q).thread = some (stampN L (cF L) q (L q).thread)) := fun qr e1 e2 e3 e4 e5 => by
        rcases h2 with hle | hin
        · have hb : bef L qr k = true := hcov qr e1 (by rw [← e3, ← e4]; exact hle)
          exact ⟨k, hRk, .inr (e5.elim (fun e => e ▸ hb) fun e => bef_trans e k hb), .inl ⟨rfl, rfl⟩⟩
        · exact ⟨qr, hR qr e1, e5, .inr (by rw [← e3, hin, e4])⟩
      rcases g3 with ⟨g3, g4⟩ | g3
      · rcases h.r with ⟨_, _, f3⟩ | ⟨qr, f1, f2, f3, f4⟩
        · exact absurd g1 (f3 q)
        · -- the last read stands for q
          have hq : q = qr ∨ bef L q qr = true := by
            by_cases e : q = qr
            · exact .inl e
            · exact .inr (bef_thread (l := L) (by have := f2 q g1; omega) (g3.symm.trans f3))
          refine hlast qr f1 f2 f3 f4 ?_
          rcases g2 with rfl | g2
          · exact hq
          · rcases hq with rfl | hq
            · exact .inr g2
            · exact .inr (bef_trans g2 qr hq)
      · rcases h3 _ _ g3 with hn | hle | ⟨ht, hin⟩
        · exact ⟨q, hR q g1, g2, .inr hn⟩
        · have hb := hcov q g1 hle
          exact ⟨k, hRk, .inr (g2.elim (fun e => e ▸ hb) fun e => bef_trans e k hb), .inl ⟨rfl, rfl⟩⟩
        · rcases h.r with ⟨_, _, f3⟩ | ⟨qr, f1, f2, f3, f4⟩
          · exact absurd g1 (f3 q)
          · have hq : q = qr ∨ bef L q qr = true := by
              by_cases e : q = qr
              · exact .inl e
              · exact .inr (bef_thread (l := L) (by have := f2 q g1; omega) (ht.trans f3))
            refine hlast qr f1 f2 f3 f4 ?_
            rcases g2 with rfl | g2
            · exact hq
            · rcases hq with rfl | hq
              · exact .inr g2
              · exact .inr (bef_trans g2 qr hq)
end Go.Proofs.YtbajfapfpcjenaaGreatDoor
