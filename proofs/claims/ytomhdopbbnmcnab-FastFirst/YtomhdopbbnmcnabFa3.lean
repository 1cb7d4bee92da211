import Derived.Test.YtomhdopbbnmcnabFa2
namespace Go.Proofs.Ord

/-- Is event j racy, and of this variable? -/
def hits (L : Nat → Ev) (obj : Int) (j : Nat) : Bool := racy L j && (L j).obj == obj
/-- The first racy event of a variable among the first n; -1: there is none. -/
def firstOf (L : Nat → Ev) (obj : Int) : Nat → Int
  | 0 => -1
  | n + 1 => if firstOf L obj n < 0 then (if hits L obj n then (n : Int) else -1) else firstOf L obj n
/-- Is event j the first racy one of its variable? -/
def isFirst (L : Nat → Ev) (j : Nat) : Bool := racy L j && !(List.range j).any fun i => hits L (L j).obj i

theorem firstOf_none {L : Nat → Ev} {obj : Int} {n : Nat} (h : ∀ j, j < n → hits L obj j = false) : firstOf L obj n = -1 := by
  induction n with
  | zero => rfl
  | succ n ih =>
    rw [firstOf, ih (fun j hj => h j (by omega)), if_pos (by decide), h n (by omega)]
    rfl
theorem firstOf_some {L : Nat → Ev} {obj : Int} {n j : Nat} (hj : j < n) (h : ∀ q, q < j → hits L obj q = false) (ht : hits L obj j = true) : firstOf L obj n = j := by
  induction n with
  | zero => omega
  | succ n ih =>
    by_cases e : j < n
    · rw [firstOf, ih e, if_neg (by omega)]
    · obtain rfl : j = n := by omega
      rw [firstOf, firstOf_none h, if_pos (by decide), ht]
      rfl
/-- Either none hits, or the first that does is told. -/
theorem firstOf_cases (L : Nat → Ev) (obj : Int) (n : Nat) : ((∀ j, j < n → hits L obj j = false) ∧ firstOf L obj n = -1) ∨ ∃ j, j < n ∧ (∀ q, q < j → hits L obj q = false) ∧ hits L obj j = true ∧ firstOf L obj n = j := by
  induction n with
  | zero => exact .inl ⟨fun j hj => absurd hj (by omega), rfl⟩
  | succ n ih =>
    rcases ih with ⟨h1, h2⟩ | ⟨j, h1, h2, h3, h4⟩
    · cases h : hits L obj n with
      | false => exact .inl ⟨fun j hj => by
          by_cases e : j < n
          · exact h1 j e
          · obtain rfl : j = n := by omega
            exact h, by rw [firstOf, h2, if_pos (by decide), h]; rfl⟩
      | true => exact .inr ⟨n, by omega, h1, h, by rw [firstOf, h2, if_pos (by decide), h]; rfl⟩
    · exact .inr ⟨j, by omega, h2, h3, by rw [firstOf, h4, if_neg (by omega)]⟩
theorem isFirst_iff (L : Nat → Ev) (j : Nat) : isFirst L j = true ↔ racy L j = true ∧ ∀ q, q < j → hits L (L j).obj q = false := by
  unfold isFirst
  rw [Bool.and_eq_true, Bool.not_eq_true', List.any_eq_false]
  constructor
  · rintro ⟨h1, h2⟩
    exact ⟨h1, fun q hq => by have := h2 q (List.mem_range.2 hq); simpa using this⟩
  · rintro ⟨h1, h2⟩
    exact ⟨h1, fun q hq => by simp [h2 q (List.mem_range.1 hq)]⟩
/-- A first race is the first of its variable, and the other way round. -/
theorem firstOf_isFirst {L : Nat → Ev} {n j : Nat} (hj : j < n) (h : isFirst L j = true) : firstOf L (L j).obj n = j := by
  obtain ⟨h1, h2⟩ := (isFirst_iff L j).1 h
  exact firstOf_some hj h2 (by simp [hits, h1])

/-- One number more of those that are gone through: x is laid ahead of the first greater one. -/
def insStep (x : Int) (s : List Int × Bool) (y : Int) : List Int × Bool := if !s.2 && decide (x < y) then (s.1 ++ [x] ++ [y], true) else (s.1 ++ [y], s.2)
def insTo (x : Int) (out : List Int) : Nat → List Int × Bool
  | 0 => ([], false)
  | i + 1 => insStep x (insTo x out i) (out.getD i 0)
def ins (x : Int) (out : List Int) : List Int := if (insTo x out out.length).2 then (insTo x out out.length).1 else (insTo x out out.length).1 ++ [x]
/-- The variables of the events below n that f tells of, rising. -/
def varsTo (L : Nat → Ev) (f : Nat → Bool) : Nat → List Int
  | 0 => []
  | j + 1 => if f j then ins (L j).obj (varsTo L f j) else varsTo L f j

theorem insTo_length (x : Int) (out : List Int) (i : Nat) : (insTo x out i).1.length = i + if (insTo x out i).2 then 1 else 0 := by
  induction i with
  | zero => rfl
  | succ i ih =>
    rw [insTo, insStep]
    generalize out.getD i 0 = y
    cases h : (insTo x out i).2 <;> rw [h] at ih <;> by_cases e : x < y <;> simp [e] <;> simp at ih <;> omega
theorem ins_length (x : Int) (out : List Int) : (ins x out).length = out.length + 1 := by
  have h := insTo_length x out out.length
  unfold ins
  cases e : (insTo x out out.length).2 <;> rw [e] at h <;> simp at h ⊢ <;> omega
theorem varsTo_length (L : Nat → Ev) (f : Nat → Bool) (n : Nat) : (varsTo L f n).length ≤ n := by
  induction n with
  | zero => simp [varsTo]
  | succ n ih =>
    rw [varsTo]
    split
    · rw [ins_length]; omega
    · omega
/-- A number that an int can be. -/
def NumR (t : Int) : Prop := -9223372036854775808 ≤ t ∧ t ≤ 9223372036854775807
/-- Threads and objects are such. -/
def EvR (l : List Ev) : Prop := ∀ i, i < l.length → NumR (ev l i).thread ∧ NumR (ev l i).obj
theorem EvR.at {l : List Ev} (h : EvR l) {i : Nat} (hi : i < l.length) {t k o v : Int} (e : ev l i = ⟨t, k, o, v⟩) : NumR t ∧ NumR o := by
  have := h i hi
  rw [e] at this; exact this
end Go.Proofs.Ord
/-
  The plain mathematics of the detector: what is kept of a variable without a race tells whether the next access races.
-/
namespace Go.Proofs.Ytomhdopbbnmcnab
open Go.Proofs.Ord

/-- No event of the first k races, of this variable. -/
def Clean (L : Nat → Ev) (x : Int) (k : Nat) : Prop := ∀ q, q < k → hits L x q = false
/-- The detector counts the accesses of variables that had no race ahead of them. -/
def cF (L : Nat → Ev) (i : Nat) : Bool := access (L i) && !(List.range i).any fun q => hits L (L i).obj q
theorem cF_iff (L : Nat → Ev) (i : Nat) : cF L i = true ↔ access (L i) = true ∧ Clean L (L i).obj i := by
  unfold cF Clean
  rw [Bool.and_eq_true, Bool.not_eq_true', List.any_eq_false]
  constructor
  · rintro ⟨h1, h2⟩; exact ⟨h1, fun q hq => by simpa using h2 q (List.mem_range.2 hq)⟩
  · rintro ⟨h1, h2⟩; exact ⟨h1, fun q hq => by simp [h2 q (List.mem_range.1 hq)]⟩
theorem racy_access {L : Nat → Ev} {k : Nat} (h : racy L k = true) : access (L k) = true := by
  obtain ⟨i, _, hr⟩ := (racy_iff L k).1 h
  unfold race at hr
  rw [Bool.and_eq_true, conflict_iff] at hr
  unfold access
  rcases hr.1.2.1 with h | h <;> simp [h]
theorem isFirst_cF (L : Nat → Ev) (j : Nat) : isFirst L j = (cF L j && racy L j) := by
  rw [Bool.eq_iff_iff, isFirst_iff, Bool.and_eq_true, cF_iff]
  constructor
  · rintro ⟨h1, h2⟩; exact ⟨⟨racy_access h1, h2⟩, h1⟩
  · rintro ⟨⟨_, h2⟩, h1⟩; exact ⟨h1, h2⟩

/-- An access is before an event behind it just if its number is not above the event's. -/
theorem ep_before {L : Nat → Ev} {c : Nat → Bool} {i j : Nat} (hij : i < j) (hc : c i = true) : stampN L c i (L i).thread ≤ stampN L c j (L i).thread ↔ bef L i j = true := by
  have hp : num L c (past L i) (L i).thread (j + 1) = num L c (past L i) (L i).thread (i + 1) := num_past (fun q hq h => by have := past_lt h; omega) (by omega)
  constructor
  · intro h
    have h' : num L c (past L i) (L i).thread (j + 1) ≤ num L c (past L j) (L i).thread (j + 1) := by unfold stampN at h; rw [hp]; omega
    rcases num_le_one (past_closed L i) (past_closed L j) (by omega : i < j + 1) hc (.inl rfl) h' with h | h
    · omega
    · exact h
  · intro h
    have h' : num L c (past L i) (L i).thread (j + 1) ≤ num L c (past L j) (L i).thread (j + 1) := num_mono fun q _ _ _ hq => by
      rcases hq with rfl | hq
      · exact .inr h
      · exact .inr (bef_trans hq j h)
    unfold stampN
    rw [hp] at h'
    omega

def isW (L : Nat → Ev) (x : Int) (i : Nat) : Prop := (L i).kind = 2 ∧ (L i).obj = x
def isR (L : Nat → Ev) (x : Int) (i : Nat) : Prop := (L i).kind = 1 ∧ (L i).obj = x
theorem isW_access {L : Nat → Ev} {x : Int} {i : Nat} (h : isW L x i) : access (L i) = true := by unfold access; simp [h.1]
theorem isR_access {L : Nat → Ev} {x : Int} {i : Nat} (h : isR L x i) : access (L i) = true := by unfold access; simp [h.1]

/-- Accesses that conflict, of a variable without a race, are in order. -/
theorem clean_bef {L : Nat → Ev} {x : Int} {k i j : Nat} (hcl : Clean L x k) (hij : i < j) (hj : j < k) (hi : isW L x i ∨ isR L x i) (hj' : isW L x j ∨ isR L x j) (hw : isW L x i ∨ isW L x j) : bef L i j = true := by
  cases hb : bef L i j with
  | true => rfl
  | false =>
    have hne : (L i).thread ≠ (L j).thread := fun e => by rw [bef_thread (l := L) hij e] at hb; cases hb
    have hr : race L i j = true := by
      unfold race
      rw [Bool.and_eq_true, conflict_iff, hb]
      refine ⟨⟨?_, ?_, ?_, hne, ?_⟩, rfl⟩
      · rcases hi with h | h
        · exact .inr h.1
        · exact .inl h.1
      · rcases hj' with h | h
        · exact .inr h.1
        · exact .inl h.1
      · rcases hi with h | h <;> rcases hj' with h' | h' <;> rw [h.2, h'.2]
      · exact hw.imp (fun h => h.1) (fun h => h.1)
    have hra : racy L j = true := (racy_iff L j).2 ⟨i, hij, hr⟩
    have hx : (L j).obj = x := hj'.elim (fun h => h.2) (fun h => h.2)
    have := hcl j hj
    unfold hits at this
    rw [hra, hx] at this
    simp at this
theorem clean_counts {L : Nat → Ev} {x : Int} {k i : Nat} (hcl : Clean L x k) (hi : i < k) (h : isW L x i ∨ isR L x i) : cF L i = true := by
  rw [cF_iff]
  refine ⟨h.elim isW_access isR_access, fun q hq => ?_⟩
  have hx : (L i).obj = x := h.elim (fun h => h.2) (fun h => h.2)
  rw [hx]; exact hcl q (by omega)

/-- Reads behind the last write. -/
def RB (L : Nat → Ev) (k : Nat) (x : Int) (i : Nat) : Prop := i < k ∧ isR L x i ∧ ∀ i', i' < k → isW L x i' → i' < i

/-- What is kept of a variable: the last write, the last read behind it, and others behind it. -/
structure VarS (L : Nat → Ev) (k : Nat) (x : Int) (wt wn rt rn : Int) (rs : Int → Option Int) : Prop where
  w : (wn = 0 ∧ ∀ i, i < k → ¬ isW L x i) ∨ ∃ i, i < k ∧ isW L x i ∧ (∀ i', i' < k → isW L x i' → i' ≤ i) ∧ wt = (L i).thread ∧ wn = stampN L (cF L) i wt
  r : (rn = 0 ∧ (∀ t, rs t = none) ∧ ∀ i, ¬ RB L k x i) ∨ ∃ i, RB L k x i ∧ (∀ i', RB L k x i' → i' ≤ i) ∧ rt = (L i).thread ∧ rn = stampN L (cF L) i rt
  rsOk : ∀ t n, rs t = some n → ∃ i, RB L k x i ∧ (L i).thread = t ∧ n = stampN L (cF L) i t
  cover : ∀ i, RB L k x i → ∃ q, RB L k x q ∧ (i = q ∨ bef L i q = true) ∧ ((rt = (L q).thread ∧ rn = stampN L (cF L) q rt) ∨ rs (L q).thread = some (stampN L (cF L) q (L q).thread))

theorem varS_none (L : Nat → Ev) (k : Nat) (x : Int) (h : ∀ i, i < k → ¬ isW L x i ∧ ¬ isR L x i) : VarS L k x 0 0 0 0 (fun _ => none) :=
  ⟨.inl ⟨rfl, fun i hi => (h i hi).1⟩, .inl ⟨rfl, fun _ => rfl, fun i hi => (h i hi.1).2 hi.2.1⟩, (fun t n h => by cases h), fun i hi => absurd hi.2.1 (h i hi.1).2⟩

/-- The last write tells of all. -/
theorem VarS.writes {L : Nat → Ev} {k : Nat} {x wt wn rt rn : Int} {rs : Int → Option Int} (h : VarS L k x wt wn rt rn rs) (hcl : Clean L x k) : wn ≤ stampN L (cF L) k wt ↔ ∀ i, i < k → isW L x i → bef L i k = true := by
  rcases h.w with ⟨rfl, hno⟩ | ⟨i, hi, hw, hmax, rfl, rfl⟩
  · exact ⟨fun _ i hi hw => absurd hw (hno i hi), fun _ => stampN_nonneg L _ k wt⟩
  · rw [ep_before hi (clean_counts hcl hi (.inl hw))]
    constructor
    · intro hb i' hi' hw'
      by_cases e : i' = i
      · subst e; exact hb
      · have := hmax i' hi' hw'
        exact bef_trans (clean_bef hcl (by omega) hi (.inl hw') (.inl hw) (.inl hw')) k hb
    · exact fun hall => hall i hi hw
/-- The reads that are kept tell of all. -/
theorem VarS.reads {L : Nat → Ev} {k : Nat} {x wt wn rt rn : Int} {rs : Int → Option Int} (h : VarS L k x wt wn rt rn rs) (hcl : Clean L x k) (hws : ∀ i, i < k → isW L x i → bef L i k = true) :
    (rn ≤ stampN L (cF L) k rt ∧ ∀ t n, rs t = some n → n ≤ stampN L (cF L) k t) ↔ ∀ i, i < k → isR L x i → bef L i k = true := by
  constructor
  · rintro ⟨h1, h2⟩ i hi hr
    by_cases hb : ∀ i', i' < k → isW L x i' → i' < i
    · obtain ⟨q, hq, hiq, hk⟩ := h.cover i ⟨hi, hr, hb⟩
      have hqb : bef L q k = true := by
        rw [← ep_before hq.1 (clean_counts hcl hq.1 (.inr hq.2.1))]
        rcases hk with ⟨rfl, rfl⟩ | hk
        · exact h1
        · exact h2 _ _ hk
      rcases hiq with rfl | hiq
      · exact hqb
      · exact bef_trans hiq k hqb
    · obtain ⟨i', h'⟩ := Classical.not_forall.1 hb
      obtain ⟨hi', h'⟩ := Classical.not_imp.1 h'
      obtain ⟨hw', h'⟩ := Classical.not_imp.1 h'
      have hne : i ≠ i' := fun e => by subst e; have := hr.1; have := hw'.1; omega
      exact bef_trans (clean_bef hcl (by omega) hi' (.inr hr) (.inl hw') (.inr hw')) k (hws i' hi' hw')
  · intro hall
    refine ⟨?_, fun t n hn => ?_⟩
    · rcases h.r with ⟨rfl, _, _⟩ | ⟨i, hi, _, rfl, rfl⟩
      · exact stampN_nonneg L _ k rt
      · exact (ep_before hi.1 (clean_counts hcl hi.1 (.inr hi.2.1))).2 (hall i hi.1 hi.2.1)
    · obtain ⟨i, hi, rfl, rfl⟩ := h.rsOk t n hn
      exact (ep_before hi.1 (clean_counts hcl hi.1 (.inr hi.2.1))).2 (hall i hi.1 hi.2.1)

/-- Does the next access race? -/
theorem racy_next {L : Nat → Ev} {k : Nat} {x : Int} (hx : (L k).obj = x) : racy L k = true ↔ (access (L k) = true ∧ ¬ ∀ i, i < k → isW L x i → bef L i k = true) ∨ ((L k).kind = 2 ∧ ¬ ∀ i, i < k → isR L x i → bef L i k = true) := by
  rw [racy_iff]
  constructor
  · rintro ⟨i, hi, hr⟩
    unfold race at hr
    rw [Bool.and_eq_true, conflict_iff] at hr
    obtain ⟨⟨h1, h2, h3, h4, h5⟩, hb⟩ := hr
    have hb' : ¬ bef L i k = true := by simpa using hb
    by_cases hw : (L i).kind = 2
    · left
      exact ⟨by unfold access; rcases h2 with h | h <;> simp [h], fun hall => hb' (hall i hi ⟨hw, h3.trans hx⟩)⟩
    · right
      exact ⟨h5.elim (fun h => absurd h hw) id, fun hall => hb' (hall i hi ⟨h1.elim id (fun h => absurd h hw), h3.trans hx⟩)⟩
  · intro h
    have key : ∀ i, i < k → (isW L x i ∨ (isR L x i ∧ (L k).kind = 2)) → access (L k) = true → ¬ bef L i k = true → race L i k = true := fun i hi hk ha hb => by
      have hne : (L i).thread ≠ (L k).thread := fun e => hb (bef_thread (l := L) hi e)
      unfold race
      rw [Bool.and_eq_true, conflict_iff]
      refine ⟨⟨?_, ?_, ?_, hne, ?_⟩, by simpa using hb⟩
      · rcases hk with h | h
        · exact .inr h.1
        · exact .inl h.1.1
      · unfold access at ha; simpa using ha
      · rcases hk with h | h
        · rw [h.2, hx]
        · rw [h.1.2, hx]
      · rcases hk with h | h
        · exact .inl h.1
        · exact .inr h.2
    rcases h with ⟨ha, h⟩ | ⟨hk, h⟩
    · obtain ⟨i, h⟩ := Classical.not_forall.1 h
      obtain ⟨hi, h⟩ := Classical.not_imp.1 h
      obtain ⟨hw, h⟩ := Classical.not_imp.1 h
      exact ⟨i, hi, key i hi (.inl hw) ha h⟩
    · obtain ⟨i, h⟩ := Classical.not_forall.1 h
      obtain ⟨hi, h⟩ := Classical.not_imp.1 h
      obtain ⟨hr, h⟩ := Classical.not_imp.1 h
      exact ⟨i, hi, key i hi (.inr ⟨hr, hk⟩) (by unfold access; simp [hk]) h⟩

/-- An event that is no access of it changes nothing of a variable. -/
theorem VarS.skip {L : Nat → Ev} {k : Nat} {x wt wn rt rn : Int} {rs : Int → Option Int} (h : VarS L k x wt wn rt rn rs) (hno : ¬ isW L x k ∧ ¬ isR L x k) : VarS L (k + 1) x wt wn rt rn rs := by
  have hR : ∀ i, RB L (k + 1) x i ↔ RB L k x i := fun i => by
    constructor
    · rintro ⟨h1, h2, h3⟩
      have : i ≠ k := fun e => hno.2 (e ▸ h2)
      exact ⟨by omega, h2, fun i' hi' => h3 i' (by omega)⟩
    · rintro ⟨h1, h2, h3⟩
      refine ⟨by omega, h2, fun i' hi' hw => ?_⟩
      have : i' ≠ k := fun e => hno.1 (e ▸ hw)
      exact h3 i' (by omega) hw
  refine ⟨?_, ?_, fun t n hn => ?_, fun i hi => ?_⟩
  · rcases h.w with ⟨h1, h2⟩ | ⟨i, h1, h2, h3, h4⟩
    · refine .inl ⟨h1, fun i hi hw => ?_⟩
      have : i ≠ k := fun e => hno.1 (e ▸ hw)
      exact h2 i (by omega) hw
    · refine .inr ⟨i, by omega, h2, fun i' hi' hw => ?_, h4⟩
      have : i' ≠ k := fun e => hno.1 (e ▸ hw)
      exact h3 i' (by omega) hw
  · rcases h.r with ⟨h1, h2, h3⟩ | ⟨i, h1, h2, h3⟩
    · exact .inl ⟨h1, h2, fun i hi => h3 i ((hR i).1 hi)⟩
    · exact .inr ⟨i, (hR i).2 h1, fun i' hi' => h2 i' ((hR i').1 hi'), h3⟩
  · obtain ⟨i, h1, h2⟩ := h.rsOk t n hn
    exact ⟨i, (hR i).2 h1, h2⟩
  · obtain ⟨q, h1, h2⟩ := h.cover i ((hR i).1 hi)
    exact ⟨q, (hR q).2 h1, h2⟩
/-- A write: nothing else is kept. -/
theorem varS_write (L : Nat → Ev) (k : Nat) (x : Int) (hw : isW L x k) : VarS L (k + 1) x (L k).thread (stampN L (cF L) k (L k).thread) 0 0 (fun _ => none) := by
  have hR : ∀ i, ¬ RB L (k + 1) x i := fun i h => by have := h.2.2 k (by omega) hw; have := h.1; omega
  exact ⟨.inr ⟨k, by omega, hw, fun i' hi' _ => by omega, rfl, rfl⟩, .inl ⟨rfl, fun _ => rfl, hR⟩, (fun t n h => by cases h), fun i hi => absurd hi (hR i)⟩
/-- A read: it is the last one; of what was kept that which is before it may be left away. -/
theorem VarS.read {L : Nat → Ev} {k : Nat} {x wt wn rt rn : Int} {rs rs' : Int → Option Int} (h : VarS L k x wt wn rt rn rs) (hcl : Clean L x k) (hr : isR L x k)
    (h1 : ∀ t n, rs' t = some n → rs t = some n ∨ (t = rt ∧ n = rn ∧ ¬ rn ≤ stampN L (cF L) k rt))
    (h2 : rn ≤ stampN L (cF L) k rt ∨ rs' rt = some rn)
    (h3 : ∀ t n, rs t = some n → rs' t = some n ∨ n ≤ stampN L (cF L) k t ∨ (t = rt ∧ rs' rt = some rn)) : VarS L (k + 1) x wt wn (L k).thread (stampN L (cF L) k (L k).thread) rs' := by
  have hnw : ¬ isW L x k := fun hw => by have := hr.1; have := hw.1; omega
  have hbk : ∀ i', i' < k + 1 → isW L x i' → i' < k := fun i' hi' hw => by
    have : i' ≠ k := fun e => hnw (e ▸ hw)
    omega
  have hRk : RB L (k + 1) x k := ⟨by omega, hr, hbk⟩
  have hR : ∀ i, RB L k x i → RB L (k + 1) x i := fun i ⟨g1, g2, g3⟩ => ⟨by omega, g2, fun i' hi' hw => g3 i' (hbk i' hi' hw) hw⟩
  have hR' : ∀ i, RB L (k + 1) x i → i = k ∨ RB L k x i := fun i ⟨g1, g2, g3⟩ => by
    by_cases e : i = k
    · exact .inl e
    · exact .inr ⟨by omega, g2, fun i' hi' hw => g3 i' (by omega) hw⟩
  have hcov : ∀ q, RB L k x q → stampN L (cF L) q (L q).thread ≤ stampN L (cF L) k (L q).thread → bef L q k = true := fun q hq hle => (ep_before hq.1 (clean_counts hcl hq.1 (.inr hq.2.1))).1 hle
  refine ⟨?_, .inr ⟨k, hRk, fun i' hi' => by have := hi'.1; omega, rfl, rfl⟩, fun t n hn => ?_, fun i hi => ?_⟩
  · rcases h.w with ⟨g1, g2⟩ | ⟨i, g1, g2, g3, g4⟩
    · exact .inl ⟨g1, fun i hi hw => g2 i (hbk i hi hw) hw⟩
    · exact .inr ⟨i, by omega, g2, fun i' hi' hw => g3 i' (hbk i' hi' hw) hw, g4⟩
  · rcases h1 t n hn with hn' | ⟨rfl, rfl, hle⟩
    · obtain ⟨i, g1, g2⟩ := h.rsOk t n hn'
      exact ⟨i, hR i g1, g2⟩
    · rcases h.r with ⟨g1, _, _⟩ | ⟨i, g1, _, g3, g4⟩
      · exact absurd (by rw [g1]; exact stampN_nonneg L _ k _) hle
      · exact ⟨i, hR i g1, g3.symm, g4⟩
  · rcases hR' i hi with rfl | hi'
    · exact ⟨i, hRk, .inl rfl, .inl ⟨rfl, rfl⟩⟩
    · obtain ⟨q, g1, g2, g3⟩ := h.cover i hi'
      -- the last read, where it is kept on
      have hlast : ∀ qr, RB L k x qr → (∀ i', RB L k x i' → i' ≤ qr) → rt = (L qr).thread → rn = stampN L (cF L) qr rt → (i = qr ∨ bef L i qr = true) → ∃ q, RB L (k + 1) x q ∧ (i = q ∨ bef L i q = true) ∧ (((L k).thread = (L q).thread ∧ stampN L (cF L) k (L k).thread = stampN L (cF L) q (L k).thread) ∨ rs' (L q).thread = some (stampN L (cF L) q (L q).thread)) := fun qr e1 e2 e3 e4 e5 => by
        rcases h2 with hle | hin
        · have hb : bef L qr k = true := hcov qr e1 (by rw [← e3, ← e4]; exact hle)
          exact ⟨k, hRk, .inr (e5.elim (fun e => e ▸ hb) fun e => bef_trans e k hb), .inl ⟨rfl, rfl⟩⟩
        · exact ⟨qr, hR qr e1, e5, .inr (by rw [← e3, hin, e4])⟩
      rcases g3 with ⟨g3, g4⟩ | g3
      · rcases h.r with ⟨_, _, f3⟩ | ⟨qr, f1, f2, f3, f4⟩
        · exact absurd g1 (f3 q)
        · -- the last read stands for q
          have hq : q = qr ∨ bef L q qr = true := by
            by_cases e : q = qr
            · exact .inl e
            · exact .inr (bef_thread (l := L) (by have := f2 q g1; omega) (g3.symm.trans f3))
          refine hlast qr f1 f2 f3 f4 ?_
          rcases g2 with rfl | g2
          · exact hq
          · rcases hq with rfl | hq
            · exact .inr g2
            · exact .inr (bef_trans g2 qr hq)
      · rcases h3 _ _ g3 with hn | hle | ⟨ht, hin⟩
        · exact ⟨q, hR q g1, g2, .inr hn⟩
        · have hb := hcov q g1 hle
          exact ⟨k, hRk, .inr (g2.elim (fun e => e ▸ hb) fun e => bef_trans e k hb), .inl ⟨rfl, rfl⟩⟩
        · rcases h.r with ⟨_, _, f3⟩ | ⟨qr, f1, f2, f3, f4⟩
          · exact absurd g1 (f3 q)
          · have hq : q = qr ∨ bef L q qr = true := by
              by_cases e : q = qr
              · exact .inl e
              · exact .inr (bef_thread (l := L) (by have := f2 q g1; omega) (ht.trans f3))
            refine hlast qr f1 f2 f3 f4 ?_
            rcases g2 with rfl | g2
            · exact hq
            · rcases hq with rfl | hq
              · exact .inr g2
              · exact .inr (bef_trans g2 qr hq)
end Go.Proofs.Ytomhdopbbnmcnab
/-
  What comes behind changes nothing of what is kept; and what happens at one event more.
-/
namespace Go.Proofs.Ytomhdopbbnmcnab
open Go.Proofs.Ord

theorem num_same {L L' : Nat → Ev} {c c' : Nat → Bool} {A B : Nat → Prop} {u : Int} {n : Nat} (hL : ∀ i, i < n → L i = L' i) (hc : ∀ i, i < n → c i = c' i) (hA : ∀ i, i < n → (A i ↔ B i)) : num L c A u n = num L' c' B u n := by
  induction n with
  | zero => rfl
  | succ n ih =>
    rw [num, num, ih (fun i hi => hL i (by omega)) (fun i hi => hc i (by omega)) (fun i hi => hA i (by omega)), hL n (by omega), hc n (by omega)]
    congr 1
    have h := hA n (by omega)
    by_cases h' : c' n = true ∧ (L' n).thread = u ∧ A n
    · rw [if_pos h', if_pos ⟨h'.1, h'.2.1, h.1 h'.2.2⟩]
    · rw [if_neg h', if_neg (fun g => h' ⟨g.1, g.2.1, h.2 g.2.2⟩)]
theorem race_same {L L' : Nat → Ev} {i j : Nat} (hij : i < j) (h : ∀ q, q ≤ j → L q = L' q) : race L i j = race L' i j := by
  unfold race
  rw [h i (by omega), h j (by omega), bef_congr j h]
theorem racy_same {L L' : Nat → Ev} {j : Nat} (h : ∀ q, q ≤ j → L q = L' q) : racy L j = racy L' j := by
  rw [Bool.eq_iff_iff, racy_iff, racy_iff]
  constructor
  · rintro ⟨i, h1, h2⟩; exact ⟨i, h1, by rw [← race_same h1 h]; exact h2⟩
  · rintro ⟨i, h1, h2⟩; exact ⟨i, h1, by rw [race_same h1 h]; exact h2⟩
theorem hits_same {L L' : Nat → Ev} {x : Int} {j : Nat} (h : ∀ q, q ≤ j → L q = L' q) : hits L x j = hits L' x j := by
  unfold hits
  rw [racy_same h, h j (Nat.le_refl _)]
theorem clean_same {L L' : Nat → Ev} {x : Int} {k : Nat} (h : ∀ q, q < k → L q = L' q) (hc : Clean L x k) : Clean L' x k := fun q hq => by
  rw [← hits_same (L := L) (fun i hi => h i (by omega))]; exact hc q hq
theorem cF_same {L L' : Nat → Ev} {i : Nat} (h : ∀ q, q ≤ i → L q = L' q) : cF L i = cF L' i := by
  rw [Bool.eq_iff_iff, cF_iff, cF_iff, h i (Nat.le_refl _)]
  exact ⟨fun g => ⟨g.1, clean_same (fun q hq => h q (by omega)) g.2⟩, fun g => ⟨g.1, clean_same (fun q hq => (h q (by omega)).symm) g.2⟩⟩
theorem stampF_same {L L' : Nat → Ev} {i : Nat} (h : ∀ q, q ≤ i → L q = L' q) (u : Int) : stampN L (cF L) i u = stampN L' (cF L') i u := by
  unfold stampN
  congr 1
  refine num_same (fun q hq => h q (by omega)) (fun q hq => cF_same fun r hr => h r (by omega)) fun q hq => ?_
  unfold past
  rw [bef_congr i h]
theorem goneF_same {L L' : Nat → Ev} {k : Nat} (h : ∀ q, q < k → L q = L' q) (d : Int × Int) (u : Int) : goneN L (cF L) k d u = goneN L' (cF L') k d u := by
  unfold goneN
  congr 1
  refine num_same h (fun q hq => cF_same fun r hr => h r (by omega)) fun q hq => ?_
  unfold gone
  constructor
  · rintro ⟨r, h1, h2, h3⟩
    exact ⟨r, h1, by rwa [bef_congr (l := L) (m := L') r (fun i hi => h i (by omega))] at h2, by rwa [h r h1] at h3⟩
  · rintro ⟨r, h1, h2, h3⟩
    exact ⟨r, h1, by rwa [bef_congr (l := L) (m := L') r (fun i hi => h i (by omega))], by rwa [h r h1]⟩
theorem FlowN.same {L L' : Nat → Ev} {k : Nat} {R : Int × Int → Int → Int} (hF : FlowN L (cF L) k R) (h : ∀ q, q < k → L q = L' q) : FlowN L' (cF L') k R :=
  ⟨fun d hd u => by rw [← goneF_same h]; exact hF.door d hd u, fun t u => by rw [← goneF_same h, ← goneF_same h]; exact hF.both t u, hF.nonneg⟩
theorem isW_same {L L' : Nat → Ev} {x : Int} {i : Nat} (h : L i = L' i) : isW L x i ↔ isW L' x i := by unfold isW; rw [h]
theorem isR_same {L L' : Nat → Ev} {x : Int} {i : Nat} (h : L i = L' i) : isR L x i ↔ isR L' x i := by unfold isR; rw [h]
theorem RB_same {L L' : Nat → Ev} {x : Int} {k : Nat} (h : ∀ q, q < k → L q = L' q) {i : Nat} (g : RB L k x i) : RB L' k x i :=
  ⟨g.1, (isR_same (h i g.1)).1 g.2.1, fun i' hi' hw => g.2.2 i' hi' ((isW_same (h i' hi')).2 hw)⟩
theorem VarS.same {L L' : Nat → Ev} {k : Nat} {x wt wn rt rn : Int} {rs : Int → Option Int} (g : VarS L k x wt wn rt rn rs) (h : ∀ q, q < k → L q = L' q) : VarS L' k x wt wn rt rn rs := by
  have h' : ∀ q, q < k → L' q = L q := fun q hq => (h q hq).symm
  have hs : ∀ i, i < k → ∀ u, stampN L (cF L) i u = stampN L' (cF L') i u := fun i hi u => stampF_same (fun q hq => h q (by omega)) u
  refine ⟨?_, ?_, fun t n hn => ?_, fun i hi => ?_⟩
  · rcases g.w with ⟨g1, g2⟩ | ⟨i, g1, g2, g3, g4, g5⟩
    · exact .inl ⟨g1, fun i hi hw => g2 i hi ((isW_same (h i hi)).2 hw)⟩
    · exact .inr ⟨i, g1, (isW_same (h i g1)).1 g2, fun i' hi' hw => g3 i' hi' ((isW_same (h i' hi')).2 hw), by rw [← h i g1]; exact g4, by rw [← hs i g1]; exact g5⟩
  · rcases g.r with ⟨g1, g2, g3⟩ | ⟨i, g1, g2, g4, g5⟩
    · exact .inl ⟨g1, g2, fun i hi => g3 i (RB_same h' hi)⟩
    · exact .inr ⟨i, RB_same h g1, fun i' hi' => g2 i' (RB_same h' hi'), by rw [← h i g1.1]; exact g4, by rw [← hs i g1.1]; exact g5⟩
  · obtain ⟨i, g1, g2, g3⟩ := g.rsOk t n hn
    exact ⟨i, RB_same h g1, by rw [← h i g1.1]; exact g2, by rw [← hs i g1.1]; exact g3⟩
  · obtain ⟨q, g1, g2, g3⟩ := g.cover i (RB_same h' hi)
    refine ⟨q, RB_same h g1, ?_, ?_⟩
    · rwa [bef_congr (l := L) (m := L') q (fun r hr => h r (by have := g1.1; omega))] at g2
    · rw [← h q g1.1, ← hs q g1.1, ← hs q g1.1]; exact g3

/-- Behind one event more a variable has no race, just if it had none, and this is none of it. -/
theorem clean_succ {L : Nat → Ev} {x : Int} {k : Nat} : Clean L x (k + 1) ↔ Clean L x k ∧ hits L x k = false := by
  unfold Clean
  constructor
  · exact fun h => ⟨fun q hq => h q (by omega), h k (by omega)⟩
  · rintro ⟨h1, h2⟩ q hq
    by_cases e : q = k
    · subst e; exact h2
    · exact h1 q (by omega)
theorem hits_no {L : Nat → Ev} {x : Int} {k : Nat} (h : (L k).obj ≠ x ∨ access (L k) = false) : hits L x k = false := by
  unfold hits
  rcases h with h | h
  · simp [h]
  · cases hr : racy L k with
    | false => rfl
    | true => rw [racy_access hr] at h; cases h
theorem not_acc {L : Nat → Ev} {x : Int} {k : Nat} (h : (L k).obj ≠ x ∨ access (L k) = false) : ¬ isW L x k ∧ ¬ isR L x k := by
  rcases h with h | h
  · exact ⟨fun g => h g.2, fun g => h g.2⟩
  · exact ⟨(fun g => by rw [isW_access g] at h; cases h), (fun g => by rw [isR_access g] at h; cases h)⟩
/-- What take asks for tells just whether the access races. -/
theorem take_tells {L : Nat → Ev} {k : Nat} {x wt wn rt rn : Int} {rs : Int → Option Int} (h : VarS L k x wt wn rt rn rs) (hcl : Clean L x k) (hx : (L k).obj = x) (ha : access (L k) = true) :
    (wn ≤ stampN L (cF L) k wt ∧ ((L k).kind = 1 ∨ (rn ≤ stampN L (cF L) k rt ∧ ∀ t' n', rs t' = some n' → n' ≤ stampN L (cF L) k t'))) ↔ racy L k = false := by
  have hk : (L k).kind = 1 ∨ (L k).kind = 2 := by unfold access at ha; simpa using ha
  rw [← Bool.not_eq_true, racy_next hx, h.writes hcl]
  constructor
  · rintro ⟨h1, h2⟩ (⟨_, h3⟩ | ⟨h3, h4⟩)
    · exact h3 h1
    · rcases h2 with h2 | h2
      · omega
      · exact h4 ((h.reads hcl h1).1 h2)
  · intro hn
    have h1 : ∀ i, i < k → isW L x i → bef L i k = true := Classical.byContradiction fun g => hn (.inl ⟨ha, g⟩)
    refine ⟨h1, ?_⟩
    rcases hk with hk | hk
    · exact .inl hk
    · exact .inr ((h.reads hcl h1).2 (Classical.byContradiction fun g => hn (.inr ⟨hk, g⟩)))
end Go.Proofs.Ytomhdopbbnmcnab
