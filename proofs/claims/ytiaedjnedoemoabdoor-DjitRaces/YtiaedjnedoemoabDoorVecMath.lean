/-
  The plain mathematics of vectors: numbers behind the end are 0.
-/
namespace Go.Proofs.Vec

/-- The number of place t (0 where there is none). -/
def at_ (zs : List Int) (t : Int) : Int := if t < 0 then 0 else zs.getD t.toNat 0

theorem at_neg (zs : List Int) (t : Int) (h : t < 0) : at_ zs t = 0 := by simp [at_, h]
theorem at_past (zs : List Int) (t : Int) (h : (zs.length : Int) ≤ t) : at_ zs t = 0 := by
  unfold at_
  by_cases h0 : t < 0
  · simp [h0]
  · simp only [h0, if_false]
    rw [List.getD_eq_getElem?_getD, List.getElem?_eq_none (by omega)]; rfl
theorem at_nat (zs : List Int) (k : Nat) : at_ zs (k : Int) = zs.getD k 0 := by
  unfold at_
  have : ¬ (k : Int) < 0 := by omega
  simp [this]
theorem getD_past (zs : List Int) (k : Nat) (h : zs.length ≤ k) : zs.getD k 0 = 0 := by
  rw [List.getD_eq_getElem?_getD, List.getElem?_eq_none (by omega)]; rfl

/-- Nowhere above. -/
def leq (xs ys : List Int) : Bool := (List.range (max xs.length ys.length)).all fun t => decide (xs.getD t 0 ≤ ys.getD t 0)

theorem leq_iff (xs ys : List Int) : leq xs ys = true ↔ ∀ t, xs.getD t 0 ≤ ys.getD t 0 := by
  unfold leq
  rw [List.all_eq_true]
  constructor
  · intro h t
    by_cases ht : t < max xs.length ys.length
    · exact of_decide_eq_true (h t (List.mem_range.2 ht))
    · rw [getD_past xs t (by omega), getD_past ys t (by omega)]; exact Int.le_refl _
  · intro h t _
    exact decide_eq_true (h t)
theorem leq_yes {xs ys : List Int} (h : ∀ t, t < max xs.length ys.length → xs.getD t 0 ≤ ys.getD t 0) : leq xs ys = true := by
  rw [leq_iff]
  intro t
  by_cases ht : t < max xs.length ys.length
  · exact h t ht
  · rw [getD_past xs t (by omega), getD_past ys t (by omega)]; exact Int.le_refl _
theorem leq_no {xs ys : List Int} (t : Nat) (h : ys.getD t 0 < xs.getD t 0) : leq xs ys = false := by
  cases e : leq xs ys with
  | false => rfl
  | true => have := (leq_iff xs ys).1 e t; omega

/-- The same everywhere. -/
def same (xs ys : List Int) : Bool := leq xs ys && leq ys xs
theorem same_iff (xs ys : List Int) : same xs ys = true ↔ ∀ t, xs.getD t 0 = ys.getD t 0 := by
  unfold same
  rw [Bool.and_eq_true, leq_iff, leq_iff]
  exact ⟨fun h t => Int.le_antisymm (h.1 t) (h.2 t), fun h => ⟨fun t => by rw [h t]; exact Int.le_refl _, fun t => by rw [h t]; exact Int.le_refl _⟩⟩
theorem same_no {xs ys : List Int} (t : Nat) (h : xs.getD t 0 ≠ ys.getD t 0) : same xs ys = false := by
  cases e : same xs ys with
  | false => rfl
  | true => exact absurd ((same_iff xs ys).1 e t) h

/-- Without zeros at its end. -/
def trim : List Int → List Int
  | [] => []
  | x :: r => if x = 0 ∧ trim r = [] then [] else x :: trim r

theorem trim_eq (l : List Int) : ∀ n, n ≤ l.length → (∀ j, n ≤ j → l.getD j 0 = 0) → (n = 0 ∨ l.getD (n - 1) 0 ≠ 0) → trim l = l.take n := by
  induction l with
  | nil => intro n _ _ _; simp [trim]
  | cons x r ih =>
    intro n hn hz hl
    match n with
    | 0 =>
      have hr : trim r = r.take 0 := ih 0 (Nat.zero_le _) (fun j _ => by have := hz (j + 1) (by omega); simpa using this) (.inl rfl)
      have hx : x = 0 := by simpa using hz 0 (Nat.le_refl _)
      simp [trim, hx, hr]
    | m + 1 =>
      have hr : trim r = r.take m := ih m (by simpa using hn) (fun j hj => by have := hz (j + 1) (by omega); simpa using this) (by
        match m, hl with
        | 0, _ => exact .inl rfl
        | q + 1, hl => right; simpa using hl)
      rw [trim, hr]
      have : ¬ (x = 0 ∧ r.take m = []) := by
        rintro ⟨hx, hm⟩
        match m, hl, hn with
        | 0, hl, _ => simp [hx] at hl
        | q + 1, _, hn => 
          have : (r.take (q + 1)).length = 0 := by rw [hm]; rfl
          simp at hn; rw [List.length_take] at this; omega
      rw [if_neg this]; rfl

theorem trim_len (l : List Int) : (trim l).length ≤ l.length := by
  induction l with
  | nil => simp [trim]
  | cons x r ih =>
    rw [trim]
    split
    · simp
    · simpa using ih
theorem trim_getD (l : List Int) : ∀ t, (trim l).getD t 0 = l.getD t 0 := by
  induction l with
  | nil => intro t; rfl
  | cons x r ih =>
    intro t
    rw [trim]
    split
    · rename_i h
      match t with
      | 0 => simpa using h.1.symm
      | q + 1 =>
        have := ih q
        rw [h.2] at this
        simpa using this
    · match t with
      | 0 => rfl
      | q + 1 => simpa using ih q

/-- Of each place the higher number: the first n places. -/
def maxUpto (xs ys : List Int) (n : Nat) : List Int := (List.range n).map fun t => max (xs.getD t 0) (ys.getD t 0)
def maxV (xs ys : List Int) : List Int := trim (maxUpto xs ys (max xs.length ys.length))
theorem maxUpto_len (xs ys : List Int) (n : Nat) : (maxUpto xs ys n).length = n := by simp [maxUpto]
theorem maxUpto_succ (xs ys : List Int) (n : Nat) : maxUpto xs ys (n + 1) = maxUpto xs ys n ++ [max (xs.getD n 0) (ys.getD n 0)] := by
  simp [maxUpto, List.range_succ]
theorem maxUpto_getD (xs ys : List Int) (n t : Nat) (h : t < n) : (maxUpto xs ys n).getD t 0 = max (xs.getD t 0) (ys.getD t 0) := by
  simp [maxUpto, h]
theorem maxV_getD (xs ys : List Int) (t : Nat) : (maxV xs ys).getD t 0 = max (xs.getD t 0) (ys.getD t 0) := by
  unfold maxV
  rw [trim_getD]
  by_cases h : t < max xs.length ys.length
  · exact maxUpto_getD _ _ _ _ h
  · rw [getD_past _ t (by rw [maxUpto_len]; omega), getD_past xs t (by omega), getD_past ys t (by omega)]; rfl
theorem maxV_len (xs ys : List Int) : (maxV xs ys).length ≤ max xs.length ys.length := by
  unfold maxV
  have := trim_len (maxUpto xs ys (max xs.length ys.length))
  rw [maxUpto_len] at this
  exact this

/-- One higher at t, the numbers of n places; f: how a sum is told. -/
def tickUpto (f : Int → Int) (xs : List Int) (t : Int) (n : Nat) : List Int := (List.range n).map fun (i : Nat) => if (i : Int) = t ∧ t ≤ 1000 then f (xs.getD i 0 + 1) else xs.getD i 0
def tickLen (xs : List Int) (t : Int) : Nat := if t ≤ 1000 then max xs.length (t + 1).toNat else xs.length
def tickV (f : Int → Int) (xs : List Int) (t : Int) : List Int := trim (tickUpto f xs t (tickLen xs t))
theorem tickUpto_len (f : Int → Int) (xs : List Int) (t : Int) (n : Nat) : (tickUpto f xs t n).length = n := by simp [tickUpto]
theorem tickUpto_succ (f : Int → Int) (xs : List Int) (t : Int) (n : Nat) : tickUpto f xs t (n + 1) = tickUpto f xs t n ++ [if (n : Int) = t ∧ t ≤ 1000 then f (xs.getD n 0 + 1) else xs.getD n 0] := by
  simp [tickUpto, List.range_succ]
theorem tickUpto_getD (f : Int → Int) (xs : List Int) (t : Int) (n i : Nat) (h : i < n) : (tickUpto f xs t n).getD i 0 = if (i : Int) = t ∧ t ≤ 1000 then f (xs.getD i 0 + 1) else xs.getD i 0 := by
  simp [tickUpto, h]
theorem tickV_getD (f : Int → Int) (xs : List Int) (t : Int) (i : Nat) : (tickV f xs t).getD i 0 = if (i : Int) = t ∧ t ≤ 1000 then f (xs.getD i 0 + 1) else xs.getD i 0 := by
  unfold tickV
  rw [trim_getD]
  by_cases h : i < tickLen xs t
  · exact tickUpto_getD _ _ _ _ _ h
  · rw [getD_past _ i (by rw [tickUpto_len]; omega)]
    unfold tickLen at h
    by_cases ht : t ≤ 1000
    · simp only [ht, if_true] at h
      have : ¬ ((i : Int) = t ∧ t ≤ 1000) := by omega
      rw [if_neg this, getD_past xs i (by omega)]
    · simp only [ht, if_false] at h
      rw [if_neg (by omega), getD_past xs i (by omega)]
theorem tickV_len (f : Int → Int) (xs : List Int) (t : Int) : (tickV f xs t).length ≤ max xs.length 1001 := by
  unfold tickV
  have h := trim_len (tickUpto f xs t (tickLen xs t))
  rw [tickUpto_len] at h
  have k : tickLen xs t ≤ max xs.length 1001 := by unfold tickLen; split <;> omega
  omega

theorem leq_refl (xs : List Int) : leq xs xs = true := (leq_iff _ _).2 fun _ => Int.le_refl _
theorem leq_trans {xs ys zs : List Int} (h1 : leq xs ys = true) (h2 : leq ys zs = true) : leq xs zs = true :=
  (leq_iff _ _).2 fun t => Int.le_trans ((leq_iff _ _).1 h1 t) ((leq_iff _ _).1 h2 t)
theorem leq_max_left (xs ys : List Int) : leq xs (maxV xs ys) = true := (leq_iff _ _).2 fun t => by rw [maxV_getD]; omega
theorem leq_max_right (xs ys : List Int) : leq ys (maxV xs ys) = true := (leq_iff _ _).2 fun t => by rw [maxV_getD]; omega
theorem max_leq {xs ys zs : List Int} (h1 : leq xs zs = true) (h2 : leq ys zs = true) : leq (maxV xs ys) zs = true :=
  (leq_iff _ _).2 fun t => by have := (leq_iff _ _).1 h1 t; have := (leq_iff _ _).1 h2 t; rw [maxV_getD]; omega
theorem same_max_comm (xs ys : List Int) : same (maxV xs ys) (maxV ys xs) = true := (same_iff _ _).2 fun t => by rw [maxV_getD, maxV_getD]; omega
theorem same_max_assoc (xs ys zs : List Int) : same (maxV (maxV xs ys) zs) (maxV xs (maxV ys zs)) = true := (same_iff _ _).2 fun t => by simp only [maxV_getD]; omega
theorem same_max_self (xs : List Int) : same (maxV xs xs) xs = true := (same_iff _ _).2 fun t => by rw [maxV_getD]; omega
theorem same_max_leq (xs ys : List Int) : same (maxV xs ys) ys = leq xs ys := by
  rw [Bool.eq_iff_iff, same_iff, leq_iff]
  constructor
  · intro h t; have := h t; rw [maxV_getD] at this; omega
  · intro h t; have := h t; rw [maxV_getD]; omega
theorem at_tick (f : Int → Int) (xs : List Int) (t : Int) (h0 : 0 ≤ t) (h1 : t ≤ 1000) : at_ (tickV f xs t) t = f (at_ xs t + 1) := by
  obtain ⟨k, rfl⟩ := Int.eq_ofNat_of_zero_le h0
  rw [at_nat, at_nat, tickV_getD, if_pos ⟨rfl, h1⟩]
theorem leq_tick (f : Int → Int) (xs : List Int) (t : Int) (h0 : 0 ≤ t) (hf : f (at_ xs t + 1) = at_ xs t + 1) : leq xs (tickV f xs t) = true := by
  obtain ⟨k, rfl⟩ := Int.eq_ofNat_of_zero_le h0
  rw [at_nat] at hf
  refine (leq_iff _ _).2 fun i => ?_
  rw [tickV_getD]
  split
  · rename_i h
    have : i = k := by omega
    subst this
    rw [hf]; omega
  · exact Int.le_refl _
theorem tick_not_leq (f : Int → Int) (xs : List Int) (t : Int) (h0 : 0 ≤ t) (h1 : t ≤ 1000) (hf : f (at_ xs t + 1) = at_ xs t + 1) : leq (tickV f xs t) xs = false := by
  obtain ⟨k, rfl⟩ := Int.eq_ofNat_of_zero_le h0
  rw [at_nat] at hf
  refine leq_no k ?_
  rw [tickV_getD, if_pos ⟨rfl, h1⟩, hf]; omega
theorem at_mem (xs : List Int) (t : Int) : at_ xs t = 0 ∨ at_ xs t ∈ xs := by
  unfold at_
  by_cases h : t < 0
  · simp [h]
  · by_cases h2 : t.toNat < xs.length
    · right; simp [h, h2]
    · left; simp only [h, if_false]; exact getD_past _ _ (by omega)

end Go.Proofs.Vec
