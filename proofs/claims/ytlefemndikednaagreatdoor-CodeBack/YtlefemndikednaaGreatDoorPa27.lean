import Derived.Test.YtlefemndikednaaGreatDoorPa26
set_option linter.unusedVariables false
set_option linter.unusedSimpArgs false
/-
  An instruction's plain words tell the same instruction.
-/
namespace Go.Proofs.YtlefemndikednaaGreatDoor
open Go.RowKit Go.Shelf Go.Proofs.Cod

theorem reg_word {t : Tx} (h : isReg t = true) : regW (regN t : Int) = t := by
  match t, h with
  | [a, b], h =>
    simp only [isReg, Bool.and_eq_true, decide_eq_true_eq] at h
    obtain ⟨⟨h1, h2⟩, h3⟩ := h
    have ha : a = 114 := UInt8.toNat_inj.1 (show a.toNat = 114 by omega)
    subst ha
    have hb : b = 48 ∨ b = 49 ∨ b = 50 ∨ b = 51 := by
      have : b.toNat = 48 ∨ b.toNat = 49 ∨ b.toNat = 50 ∨ b.toNat = 51 := by omega
      rcases this with e | e | e | e
      · exact .inl (UInt8.toNat_inj.1 e)
      · exact .inr (.inl (UInt8.toNat_inj.1 e))
      · exact .inr (.inr (.inl (UInt8.toNat_inj.1 e)))
      · exact .inr (.inr (.inr (UInt8.toNat_inj.1 e)))
    rcases hb with rfl | rfl | rfl | rfl <;> decide +kernel
theorem num_words : ∀ n : Fin 1000, isNum (Lib.itoa ((n.val : Nat) : Int)) = true ∧ isReg (Lib.itoa ((n.val : Nat) : Int)) = false ∧ numN (Lib.itoa ((n.val : Nat) : Int)) = n.val := by decide +kernel
theorem lab_words : ∀ n : Fin 25, isNam (labW ((n.val : Nat) : Int)) = true := by decide +kernel
theorem lab_inj : ∀ a b : Fin 25, labW ((a.val : Nat) : Int) = labW ((b.val : Nat) : Int) → a = b := by decide +kernel
theorem arg_word {t : Tx} (h : (isReg t || isNum t) = true) : isReg (argW (isReg t) (argN t : Int)) = isReg t ∧ argN (argW (isReg t) (argN t : Int)) = argN t ∧ (isReg (argW (isReg t) (argN t : Int)) || isNum (argW (isReg t) (argN t : Int))) = true := by
  cases hr : isReg t with
  | true =>
    have e : argW true (argN t : Int) = t := by
      unfold argW argN
      rw [if_pos rfl, if_pos hr, reg_word hr]
    rw [e]
    exact ⟨hr, rfl, by rw [hr]; rfl⟩
  | false =>
    have hn : isNum t = true := by rw [hr] at h; exact h
    have ha : argN t = numN t := by unfold argN; rw [if_neg (by rw [hr]; decide)]
    have hl : numN t < 1000 := by
      unfold isNum at hn
      simp only [Bool.and_eq_true, decide_eq_true_eq] at hn
      have := num_small hn.2
      have h3 : 10 ^ t.length ≤ 10 ^ 3 := Nat.pow_le_pow_right (by omega) hn.1.2
      omega
    obtain ⟨g1, g2, g3⟩ := num_words ⟨numN t, hl⟩
    have e : argW false (argN t : Int) = Lib.itoa ((numN t : Nat) : Int) := by
      unfold argW
      rw [if_neg (by decide), ha]
    rw [e]
    refine ⟨g2, ?_, by rw [g2]; exact g1⟩
    rw [ha]
    unfold argN
    rw [if_neg (by rw [g2]; decide)]; exact g3
theorem getW_at {M : List Tx} {n : Nat} {t : Tx} (h : M[n]? = some t) : getW M (n : Int) = t := by
  have hl := (List.getElem?_eq_some_iff.1 h).1
  unfold getW
  rw [if_pos ⟨by omega, by omega⟩, List.getD_eq_getElem?_getD]
  show (M[((n : Nat) : Int).toNat]?).getD [] = t
  rw [Int.toNat_natCast, h]; rfl
/-- What is printed of an instruction is read as that instruction. -/
structure IB (N : Tx → Option (Int × Nat)) (M : Int → List Tx) (op ps : Tx) (i : In7) : Prop where
  ho : i.op = op
  fits : fitsT (ps.map fun c => wordW M i (c.toNat : Int)) ps = true
  back : ∀ (N' Nf : Tx → Option (Int × Nat)) (labs' : Tx → Option Nat), (∀ t k n, isNb k = true → N t = some (k, n) → N' t = some (k, n)) → (∀ t n, N t = some (116, n) → Nf t = some (116, n)) → ((108 : UInt8) ∈ ps → labs' (labW i.x) = some i.x.toNat) → ∃ i0, fillAll N' (newIns op) (zipP ps (ps.map fun c => wordW M i (c.toNat : Int))) = some i0 ∧ resOff Nf labs' i0 (offP (zipP ps (ps.map fun c => wordW M i (c.toNat : Int)))) = some i
section
variable {N : Tx → Option (Int × Nat)} {labs : Tx → Option Nat} {M : Int → List Tx} {op : Tx} {i0 i : In7}
theorem fill_cons {i : In7} {p : Int × Tx} {l : List (Int × Tx)} (h : fillAll N i (p :: l) = some i0) : ∃ i1, fillOne N i p = some i1 ∧ fillAll N i1 l = some i0 := by
  unfold fillAll at h
  cases h1 : fillOne N i p with
  | none => rw [h1] at h; cases h
  | some i1 => rw [h1] at h; exact ⟨i1, rfl, h⟩
theorem fill_to {i i1 : In7} {p : Int × Tx} {l : List (Int × Tx)} (h1 : fillOne N i p = some i1) (h : fillAll N i1 l = some i0) : fillAll N i (p :: l) = some i0 := by
  unfold fillAll
  rw [h1]; exact h
theorem one_some {i : In7} {k : Int} {t : Tx} (hk : k = 118 ∨ k = 102 ∨ k = 109) (h : fillOne N i (k, t) = some i0) : ∃ n : Nat, N t = some (k, n) ∧ i0 = { i with x := (n : Int) } := by
  have h : (match N t with | some (k', n) => if k' = k then some { i with x := (n : Int) } else none | none => none) = some i0 := by
    rcases hk with rfl | rfl | rfl <;> exact h
  cases hN : N t with
  | none => rw [hN] at h; cases h
  | some z =>
    obtain ⟨k', n⟩ := z
    rw [hN] at h
    have h : (if k' = k then some { i with x := (n : Int) } else none) = some i0 := h
    by_cases hk : k' = k
    · rw [if_pos hk] at h
      cases h
      exact ⟨n, by rw [hk], rfl⟩
    · rw [if_neg hk] at h; cases h
theorem one_to {i : In7} {k : Int} {t : Tx} {n : Nat} (hk : k = 118 ∨ k = 102 ∨ k = 109) (h : N t = some (k, n)) : fillOne N i (k, t) = some { i with x := (n : Int) } := by
  have : fillOne N i (k, t) = (match N t with | some (k', n) => if k' = k then some { i with x := (n : Int) } else none | none => none) := by
    rcases hk with rfl | rfl | rfl <;> rfl
  rw [this, h]
  show (if k = k then some _ else none) = _
  rw [if_pos rfl]
theorem ib_ra {t1 t2 : Tx} (hf : fitsT [t1, t2] [114, 97] = true) (h0 : fillAll N (newIns op) (zipP [114, 97] [t1, t2]) = some i0) (hr : resOff N labs i0 (offP (zipP [114, 97] [t1, t2])) = some i) : IB N M op [114, 97] i := by
  have hf : (isReg t1 && ((isReg t2 || isNum t2) && true)) = true := hf
  simp only [Bool.and_true, Bool.and_eq_true] at hf
  have h0 : some (⟨op, (regN t1 : Int), isReg t2, (argN t2 : Int), false, 0, 0⟩ : In7) = some i0 := h0
  cases h0
  have hr : some (⟨op, (regN t1 : Int), isReg t2, (argN t2 : Int), false, 0, 0⟩ : In7) = some i := hr
  cases hr
  have e1 := reg_word hf.1
  obtain ⟨a1, a2, a3⟩ := arg_word hf.2
  refine ⟨rfl, ?_, fun N' Nf labs' _ _ _ => ⟨⟨op, (regN (regW (regN t1 : Int)) : Int), isReg (argW (isReg t2) (argN t2 : Int)), (argN (argW (isReg t2) (argN t2 : Int)) : Int), false, 0, 0⟩, rfl, ?_⟩⟩
  · show (isReg (regW (regN t1 : Int)) && ((isReg (argW (isReg t2) (argN t2 : Int)) || isNum (argW (isReg t2) (argN t2 : Int))) && true)) = true
    rw [e1, a3, hf.1]; rfl
  · show some (⟨op, (regN (regW (regN t1 : Int)) : Int), isReg (argW (isReg t2) (argN t2 : Int)), (argN (argW (isReg t2) (argN t2 : Int)) : Int), false, 0, 0⟩ : In7) = _
    rw [e1, a1, a2]
theorem ib_rab {t1 t2 t3 : Tx} (hf : fitsT [t1, t2, t3] [114, 97, 98] = true) (h0 : fillAll N (newIns op) (zipP [114, 97, 98] [t1, t2, t3]) = some i0) (hr : resOff N labs i0 (offP (zipP [114, 97, 98] [t1, t2, t3])) = some i) : IB N M op [114, 97, 98] i := by
  have hf : (isReg t1 && ((isReg t2 || isNum t2) && ((isReg t3 || isNum t3) && true))) = true := hf
  simp only [Bool.and_true, Bool.and_eq_true] at hf
  have h0 : some (⟨op, (regN t1 : Int), isReg t2, (argN t2 : Int), isReg t3, (argN t3 : Int), 0⟩ : In7) = some i0 := h0
  cases h0
  have hr : some (⟨op, (regN t1 : Int), isReg t2, (argN t2 : Int), isReg t3, (argN t3 : Int), 0⟩ : In7) = some i := hr
  cases hr
  have e1 := reg_word hf.1
  obtain ⟨a1, a2, a3⟩ := arg_word hf.2.1
  obtain ⟨b1, b2, b3⟩ := arg_word hf.2.2
  refine ⟨rfl, ?_, fun N' Nf labs' _ _ _ => ⟨⟨op, (regN (regW (regN t1 : Int)) : Int), isReg (argW (isReg t2) (argN t2 : Int)), (argN (argW (isReg t2) (argN t2 : Int)) : Int), isReg (argW (isReg t3) (argN t3 : Int)), (argN (argW (isReg t3) (argN t3 : Int)) : Int), 0⟩, rfl, ?_⟩⟩
  · show (isReg (regW (regN t1 : Int)) && ((isReg (argW (isReg t2) (argN t2 : Int)) || isNum (argW (isReg t2) (argN t2 : Int))) && ((isReg (argW (isReg t3) (argN t3 : Int)) || isNum (argW (isReg t3) (argN t3 : Int))) && true))) = true
    rw [e1, a3, b3, hf.1]; rfl
  · show some (⟨op, (regN (regW (regN t1 : Int)) : Int), isReg (argW (isReg t2) (argN t2 : Int)), (argN (argW (isReg t2) (argN t2 : Int)) : Int), isReg (argW (isReg t3) (argN t3 : Int)), (argN (argW (isReg t3) (argN t3 : Int)) : Int), 0⟩ : In7) = _
    rw [e1, a1, a2, b1, b2]
theorem ib_ab {t2 t3 : Tx} (hf : fitsT [t2, t3] [97, 98] = true) (h0 : fillAll N (newIns op) (zipP [97, 98] [t2, t3]) = some i0) (hr : resOff N labs i0 (offP (zipP [97, 98] [t2, t3])) = some i) : IB N M op [97, 98] i := by
  have hf : ((isReg t2 || isNum t2) && ((isReg t3 || isNum t3) && true)) = true := hf
  rw [Bool.and_true, Bool.and_eq_true] at hf
  have h0 : some (⟨op, 0, isReg t2, (argN t2 : Int), isReg t3, (argN t3 : Int), 0⟩ : In7) = some i0 := h0
  cases h0
  have hr : some (⟨op, 0, isReg t2, (argN t2 : Int), isReg t3, (argN t3 : Int), 0⟩ : In7) = some i := hr
  cases hr
  obtain ⟨a1, a2, a3⟩ := arg_word hf.1
  obtain ⟨b1, b2, b3⟩ := arg_word hf.2
  refine ⟨rfl, ?_, fun N' Nf labs' _ _ _ => ⟨⟨op, 0, isReg (argW (isReg t2) (argN t2 : Int)), (argN (argW (isReg t2) (argN t2 : Int)) : Int), isReg (argW (isReg t3) (argN t3 : Int)), (argN (argW (isReg t3) (argN t3 : Int)) : Int), 0⟩, rfl, ?_⟩⟩
  · show ((isReg (argW (isReg t2) (argN t2 : Int)) || isNum (argW (isReg t2) (argN t2 : Int))) && ((isReg (argW (isReg t3) (argN t3 : Int)) || isNum (argW (isReg t3) (argN t3 : Int))) && true)) = true
    rw [a3, b3]; rfl
  · show some (⟨op, 0, isReg (argW (isReg t2) (argN t2 : Int)), (argN (argW (isReg t2) (argN t2 : Int)) : Int), isReg (argW (isReg t3) (argN t3 : Int)), (argN (argW (isReg t3) (argN t3 : Int)) : Int), 0⟩ : In7) = _
    rw [a1, a2, b1, b2]
theorem ib_nil (h0 : fillAll N (newIns op) (zipP [] []) = some i0) (hr : resOff N labs i0 (offP (zipP [] [])) = some i) : IB N M op [] i := by
  have h0 : some (newIns op) = some i0 := h0
  cases h0
  have hr : some (newIns op) = some i := hr
  cases hr
  exact ⟨rfl, rfl, fun N' Nf labs' _ _ _ => ⟨newIns op, rfl, rfl⟩⟩
theorem ib_r1 {c : UInt8} {t1 t2 : Tx} (hc : c = 118 ∨ c = 102) (hM : ∀ t n, N t = some ((c.toNat : Int), n) → (M (c.toNat : Int))[n]? = some t) (hf : fitsT [t1, t2] [114, c] = true) (h0 : fillAll N (newIns op) (zipP [114, c] [t1, t2]) = some i0) (hr : resOff N labs i0 (offP (zipP [114, c] [t1, t2])) = some i) : IB N M op [114, c] i := by
  have hk : (c.toNat : Int) = 118 ∨ (c.toNat : Int) = 102 ∨ (c.toNat : Int) = 109 := by rcases hc with rfl | rfl <;> decide
  have hf : (isReg t1 && (isNam t2 && true)) = true := by rcases hc with rfl | rfl <;> exact hf
  rw [Bool.and_true, Bool.and_eq_true] at hf
  have h0 : fillAll N (⟨op, (regN t1 : Int), false, 0, false, 0, 0⟩ : In7) [((c.toNat : Int), t2)] = some i0 := h0
  obtain ⟨i1, h1, h2⟩ := fill_cons h0
  have h2 : some i1 = some i0 := h2
  cases h2
  obtain ⟨n, hn, rfl⟩ := one_some hk h1
  have hr : some (⟨op, (regN t1 : Int), false, 0, false, 0, (n : Int)⟩ : In7) = some i := by rcases hc with rfl | rfl <;> exact hr
  cases hr
  have e1 := reg_word hf.1
  have e2 := getW_at (hM t2 n hn)
  have hmap : ([114, c] : Tx).map (fun c => wordW M (⟨op, (regN t1 : Int), false, 0, false, 0, (n : Int)⟩ : In7) (c.toNat : Int)) = [t1, t2] := by
    have : ([114, c] : Tx).map (fun c => wordW M (⟨op, (regN t1 : Int), false, 0, false, 0, (n : Int)⟩ : In7) (c.toNat : Int)) = [regW (regN t1 : Int), getW (M (c.toNat : Int)) (n : Int)] := by rcases hc with rfl | rfl <;> rfl
    rw [this, e1, e2]
  refine ⟨rfl, ?_, fun N' Nf labs' hN' _ _ => ?_⟩
  · rw [hmap]
    have : fitsT [t1, t2] [114, c] = (isReg t1 && (isNam t2 && true)) := by rcases hc with rfl | rfl <;> rfl
    rw [this, hf.1, hf.2]; rfl
  · rw [hmap]
    refine ⟨⟨op, (regN t1 : Int), false, 0, false, 0, (n : Int)⟩, ?_, by rcases hc with rfl | rfl <;> rfl⟩
    show fillAll N' (⟨op, (regN t1 : Int), false, 0, false, 0, 0⟩ : In7) [((c.toNat : Int), t2)] = _
    exact fill_to (one_to hk (hN' _ _ _ (by rcases hk with e | e | e <;> rw [e] <;> decide) hn)) rfl
theorem ib_1a {c : UInt8} {t1 t2 : Tx} (hc : c = 118 ∨ c = 102) (hM : ∀ t n, N t = some ((c.toNat : Int), n) → (M (c.toNat : Int))[n]? = some t) (hf : fitsT [t1, t2] [c, 97] = true) (h0 : fillAll N (newIns op) (zipP [c, 97] [t1, t2]) = some i0) (hr : resOff N labs i0 (offP (zipP [c, 97] [t1, t2])) = some i) : IB N M op [c, 97] i := by
  have hk : (c.toNat : Int) = 118 ∨ (c.toNat : Int) = 102 ∨ (c.toNat : Int) = 109 := by rcases hc with rfl | rfl <;> decide
  have hf : (isNam t1 && ((isReg t2 || isNum t2) && true)) = true := by rcases hc with rfl | rfl <;> exact hf
  rw [Bool.and_true, Bool.and_eq_true] at hf
  have h0 : fillAll N (newIns op) (((c.toNat : Int), t1) :: [(97, t2)]) = some i0 := h0
  obtain ⟨i1, h1, h2⟩ := fill_cons h0
  obtain ⟨n, hn, rfl⟩ := one_some hk h1
  have h2 : some (⟨op, 0, isReg t2, (argN t2 : Int), false, 0, (n : Int)⟩ : In7) = some i0 := h2
  cases h2
  have hr : some (⟨op, 0, isReg t2, (argN t2 : Int), false, 0, (n : Int)⟩ : In7) = some i := by rcases hc with rfl | rfl <;> exact hr
  cases hr
  have e1 := getW_at (hM t1 n hn)
  obtain ⟨a1, a2, a3⟩ := arg_word hf.2
  have hmap : ([c, 97] : Tx).map (fun c => wordW M (⟨op, 0, isReg t2, (argN t2 : Int), false, 0, (n : Int)⟩ : In7) (c.toNat : Int)) = [t1, argW (isReg t2) (argN t2 : Int)] := by
    have : ([c, 97] : Tx).map (fun c => wordW M (⟨op, 0, isReg t2, (argN t2 : Int), false, 0, (n : Int)⟩ : In7) (c.toNat : Int)) = [getW (M (c.toNat : Int)) (n : Int), argW (isReg t2) (argN t2 : Int)] := by rcases hc with rfl | rfl <;> rfl
    rw [this, e1]
  refine ⟨rfl, ?_, fun N' Nf labs' hN' _ _ => ?_⟩
  · rw [hmap]
    have : fitsT [t1, argW (isReg t2) (argN t2 : Int)] [c, 97] = (isNam t1 && ((isReg (argW (isReg t2) (argN t2 : Int)) || isNum (argW (isReg t2) (argN t2 : Int))) && true)) := by rcases hc with rfl | rfl <;> rfl
    rw [this, hf.1, a3]; rfl
  · rw [hmap]
    refine ⟨⟨op, 0, isReg (argW (isReg t2) (argN t2 : Int)), (argN (argW (isReg t2) (argN t2 : Int)) : Int), false, 0, (n : Int)⟩, ?_, ?_⟩
    · show fillAll N' (newIns op) (((c.toNat : Int), t1) :: [(97, argW (isReg t2) (argN t2 : Int))]) = _
      exact fill_to (one_to hk (hN' _ _ _ (by rcases hk with e | e | e <;> rw [e] <;> decide) hn)) rfl
    · have : resOff Nf labs' (⟨op, 0, isReg (argW (isReg t2) (argN t2 : Int)), (argN (argW (isReg t2) (argN t2 : Int)) : Int), false, 0, (n : Int)⟩ : In7) (offP (zipP [c, 97] [t1, argW (isReg t2) (argN t2 : Int)])) = some (⟨op, 0, isReg (argW (isReg t2) (argN t2 : Int)), (argN (argW (isReg t2) (argN t2 : Int)) : Int), false, 0, (n : Int)⟩ : In7) := by rcases hc with rfl | rfl <;> rfl
      rw [this, a1, a2]
theorem ib_m {t1 : Tx} (hM : ∀ t n, N t = some ((109 : Int), n) → (M 109)[n]? = some t) (hf : fitsT [t1] [109] = true) (h0 : fillAll N (newIns op) (zipP [109] [t1]) = some i0) (hr : resOff N labs i0 (offP (zipP [109] [t1])) = some i) : IB N M op [109] i := by
  have hk : (109 : Int) = 118 ∨ (109 : Int) = 102 ∨ (109 : Int) = 109 := by decide
  have h0 : fillAll N (newIns op) [(109, t1)] = some i0 := h0
  obtain ⟨i1, h1, h2⟩ := fill_cons h0
  have h2 : some i1 = some i0 := h2
  cases h2
  obtain ⟨n, hn, rfl⟩ := one_some hk h1
  have hr : some (⟨op, 0, false, 0, false, 0, (n : Int)⟩ : In7) = some i := hr
  cases hr
  have e1 := getW_at (hM t1 n hn)
  have hmap : ([109] : Tx).map (fun c => wordW M (⟨op, 0, false, 0, false, 0, (n : Int)⟩ : In7) (c.toNat : Int)) = [t1] := by
    show [getW (M 109) (n : Int)] = [t1]
    rw [e1]
  refine ⟨rfl, by rw [hmap]; exact hf, fun N' Nf labs' hN' _ _ => ?_⟩
  rw [hmap]
  refine ⟨⟨op, 0, false, 0, false, 0, (n : Int)⟩, ?_, rfl⟩
  show fillAll N' (newIns op) [(109, t1)] = _
  exact fill_to (one_to hk (hN' _ _ _ (by decide) hn)) rfl
theorem off_some {i : In7} {k : Int} {t : Tx} (h : resOff N labs i0 [(k, t)] = some i) : ∃ n, lookOff N labs (k, t) = some n ∧ i = { i0 with x := (n : Int) } := by
  unfold resOff at h
  cases hl : lookOff N labs (k, t) with
  | none => rw [hl] at h; cases h
  | some n =>
    rw [hl] at h
    have h : some { i0 with x := (n : Int) } = some i := h
    cases h
    exact ⟨n, rfl, rfl⟩
theorem off_to {k : Int} {t : Tx} {n : Nat} (h : lookOff N labs (k, t) = some n) : resOff N labs i0 [(k, t)] = some { i0 with x := (n : Int) } := by
  unfold resOff
  rw [h]; rfl
theorem look_t {t : Tx} {n : Nat} : lookOff N labs (116, t) = some n ↔ N t = some (116, n) := by
  show (match N t with | some p => if p.1 = 116 then some p.2 else none | none => none) = some n ↔ _
  cases hN : N t with
  | none => exact ⟨(fun h => by cases h), (fun h => by cases h)⟩
  | some z =>
    obtain ⟨k, m⟩ := z
    show (if k = 116 then some m else none) = some n ↔ _
    by_cases hk : k = 116
    · rw [if_pos hk, hk]; simp
    · rw [if_neg hk]
      exact ⟨(fun h => by cases h), (fun h => by cases h; exact absurd rfl hk)⟩
theorem look_l {t : Tx} {n : Nat} : lookOff N labs (108, t) = some n ↔ labs t = some n := by
  show (match (labs t).map fun n => ((108 : Int), n) with | some p => if p.1 = 108 then some p.2 else none | none => none) = some n ↔ _
  cases hN : labs t with
  | none => exact ⟨(fun h => by cases h), (fun h => by cases h)⟩
  | some m =>
    show some m = some n ↔ _
    rfl
theorem ib_t {t1 : Tx} (hM : ∀ t n, N t = some ((116 : Int), n) → (M 116)[n]? = some t) (hf : fitsT [t1] [116] = true) (h0 : fillAll N (newIns op) (zipP [116] [t1]) = some i0) (hr : resOff N labs i0 (offP (zipP [116] [t1])) = some i) : IB N M op [116] i := by
  have h0 : some (newIns op) = some i0 := h0
  cases h0
  have hr : resOff N labs (newIns op) [(116, t1)] = some i := hr
  obtain ⟨n, hn, rfl⟩ := off_some hr
  have hn := look_t.1 hn
  have e1 := getW_at (hM t1 n hn)
  have hmap : ([116] : Tx).map (fun c => wordW M ({ newIns op with x := (n : Int) } : In7) (c.toNat : Int)) = [t1] := by
    show [getW (M 116) (n : Int)] = [t1]
    rw [e1]
  refine ⟨rfl, by rw [hmap]; exact hf, fun N' Nf labs' _ hNf _ => ?_⟩
  rw [hmap]
  refine ⟨newIns op, rfl, ?_⟩
  show resOff Nf labs' (newIns op) [(116, t1)] = _
  exact off_to (look_t.2 (hNf _ _ hn))
theorem lab_le {n : Nat} (h : n ≤ 24) : isNam (labW (n : Int)) = true := lab_words ⟨n, by omega⟩
theorem ib_l {t1 : Tx} (hx : 0 ≤ i.x ∧ i.x ≤ 24) (h0 : fillAll N (newIns op) (zipP [108] [t1]) = some i0) (hr : resOff N labs i0 (offP (zipP [108] [t1])) = some i) : IB N M op [108] i := by
  have h0 : some (newIns op) = some i0 := h0
  cases h0
  have hr : resOff N labs (newIns op) [(108, t1)] = some i := hr
  obtain ⟨n, hn, rfl⟩ := off_some hr
  have hx : (0 : Int) ≤ (n : Int) ∧ (n : Int) ≤ 24 := hx
  refine ⟨rfl, ?_, fun N' Nf labs' _ _ hl => ⟨newIns op, rfl, ?_⟩⟩
  · show (isNam (labW (n : Int)) && true) = true
    rw [lab_le (by omega)]; rfl
  · show resOff Nf labs' (newIns op) [(108, labW (n : Int))] = _
    exact off_to (look_l.2 (hl (by simp)))
theorem ib_abl {t1 t2 t3 : Tx} (hx : 0 ≤ i.x ∧ i.x ≤ 24) (hf : fitsT [t1, t2, t3] [97, 98, 108] = true) (h0 : fillAll N (newIns op) (zipP [97, 98, 108] [t1, t2, t3]) = some i0) (hr : resOff N labs i0 (offP (zipP [97, 98, 108] [t1, t2, t3])) = some i) : IB N M op [97, 98, 108] i := by
  have hf : ((isReg t1 || isNum t1) && ((isReg t2 || isNum t2) && (isNam t3 && true))) = true := hf
  rw [Bool.and_true, Bool.and_eq_true, Bool.and_eq_true] at hf
  have h0 : some (⟨op, 0, isReg t1, (argN t1 : Int), isReg t2, (argN t2 : Int), 0⟩ : In7) = some i0 := h0
  cases h0
  have hr : resOff N labs (⟨op, 0, isReg t1, (argN t1 : Int), isReg t2, (argN t2 : Int), 0⟩ : In7) [(108, t3)] = some i := hr
  obtain ⟨n, hn, rfl⟩ := off_some hr
  have hx : (0 : Int) ≤ (n : Int) ∧ (n : Int) ≤ 24 := hx
  obtain ⟨a1, a2, a3⟩ := arg_word hf.1
  obtain ⟨b1, b2, b3⟩ := arg_word hf.2.1
  refine ⟨rfl, ?_, fun N' Nf labs' _ _ hl => ⟨⟨op, 0, isReg (argW (isReg t1) (argN t1 : Int)), (argN (argW (isReg t1) (argN t1 : Int)) : Int), isReg (argW (isReg t2) (argN t2 : Int)), (argN (argW (isReg t2) (argN t2 : Int)) : Int), 0⟩, rfl, ?_⟩⟩
  · show ((isReg (argW (isReg t1) (argN t1 : Int)) || isNum (argW (isReg t1) (argN t1 : Int))) && ((isReg (argW (isReg t2) (argN t2 : Int)) || isNum (argW (isReg t2) (argN t2 : Int))) && (isNam (labW (n : Int)) && true))) = true
    rw [a3, b3, lab_le (by omega)]; rfl
  · show resOff Nf labs' (⟨op, 0, isReg (argW (isReg t1) (argN t1 : Int)), (argN (argW (isReg t1) (argN t1 : Int)) : Int), isReg (argW (isReg t2) (argN t2 : Int)), (argN (argW (isReg t2) (argN t2 : Int)) : Int), 0⟩ : In7) [(108, labW (n : Int))] = _
    rw [off_to (look_l.2 (hl (by simp))), a1, a2, b1, b2]; rfl
theorem ins_back {q : Tx × Tx} {ts : List Tx} (hq : q ∈ shapeT) (hf : fitsT ts q.2 = true) (h0 : fillAll N (newIns q.1) (zipP q.2 ts) = some i0) (hr : resOff N labs i0 (offP (zipP q.2 ts)) = some i) (hM : ∀ t k n, isK k → N t = some (k, n) → (M k)[n]? = some t) (hx : (108 : UInt8) ∈ q.2 → 0 ≤ i.x ∧ i.x ≤ 24) : IB N M q.1 q.2 i := by
  have hl : ts.length = q.2.length := by
    by_cases hh : ts.length = q.2.length
    · exact hh
    · rw [fitsT_len hh] at hf; cases hf
  have m1 : ∀ t n, N t = some ((118 : Int), n) → (M 118)[n]? = some t := fun t n => hM t 118 n (by simp [isK])
  have m2 : ∀ t n, N t = some ((102 : Int), n) → (M 102)[n]? = some t := fun t n => hM t 102 n (by simp [isK])
  have m3 : ∀ t n, N t = some ((109 : Int), n) → (M 109)[n]? = some t := fun t n => hM t 109 n (by simp [isK])
  have m4 : ∀ t n, N t = some ((116 : Int), n) → (M 116)[n]? = some t := fun t n => hM t 116 n (by simp [isK])
  clear hM
  simp only [shapeT, List.mem_cons, List.not_mem_nil, or_false] at hq
  rcases hq with rfl | rfl | rfl | rfl | rfl | rfl | rfl | rfl | rfl | rfl | rfl | rfl | rfl | rfl | rfl | rfl | rfl <;>
    (first
      | (obtain rfl := List.length_eq_zero_iff.1 hl)
      | (obtain ⟨a, rfl⟩ := List.length_eq_one_iff.1 hl)
      | (obtain ⟨a, b, rfl⟩ := len2 hl)
      | (obtain ⟨a, b, c, rfl⟩ := len3 hl)) <;>
    (first
      | exact ib_ra hf h0 hr
      | exact ib_rab hf h0 hr
      | exact ib_ab hf h0 hr
      | exact ib_nil h0 hr
      | exact ib_r1 (c := 118) (by simp) m1 hf h0 hr
      | exact ib_r1 (c := 102) (by simp) m2 hf h0 hr
      | exact ib_1a (c := 118) (by simp) m1 hf h0 hr
      | exact ib_1a (c := 102) (by simp) m2 hf h0 hr
      | exact ib_m m3 hf h0 hr
      | exact ib_t m4 hf h0 hr
      | exact ib_l (hx (by simp)) h0 hr
      | exact ib_abl (hx (by simp)) hf h0 hr)
end
end Go.Proofs.YtlefemndikednaaGreatDoor
/-
  A text's program depends on its words alone.
-/
namespace Go.Proofs.YtlefemndikednaaGreatDoor
open Go.RowKit Go.Shelf Go.Proofs.Cod

def erI (p : PI) : PI := { p with line := 0 }
def erB (b : PB) : PB := { b with code := b.code.map erI }
def er (s : PS) : PS := { s with bod := s.bod.map erB }
def okO {ε α : Type} : Except ε α → Option α
  | .ok a => some a
  | .error _ => none
theorem okO_some {ε α : Type} {x : Except ε α} {a : α} (h : okO x = some a) : x = .ok a := by
  cases x with
  | ok b => cases h; rfl
  | error e => cases h
theorem er_new : er PS.new = PS.new := rfl
theorem er_add (s : PS) : er (addBody s) = addBody (er s) := by
  unfold er addBody; simp [erB]
theorem er_set (s : PS) (b : PB) : er (setLast s b) = setLast (er s) (erB b) := by
  unfold er setLast; simp
theorem decl_er (kd : Int) (ts : List Tx) (s : PS) : okO (declT kd ts (er s)) = (okO (declT kd ts s)).map er := by
  unfold declT
  show okO (if kd = 0 ∨ ts = [] ∨ ts.all isNam = false then _ else match declAll kd s.N (s.nms kd) ts with | none => _ | some p => _) = _
  split
  · rfl
  · cases h : declAll kd s.N (s.nms kd) ts with
    | none => rfl
    | some p =>
      show okO (if 4 < p.2.length then _ else _) = (okO (if 4 < p.2.length then _ else _)).map er
      split <;> rfl
theorem mark_er (f : Tx) (s : PS) (b : PB) : okO (markT f (er s) (erB b)) = (okO (markT f s b)).map er := by
  unfold markT
  split
  · rfl
  · show okO (match b.labs f.dropLast with | some _ => _ | none => _) = _
    cases h : b.labs f.dropLast with
    | some x => rfl
    | none =>
      show some _ = some _
      rw [er_set]
      simp [erB]
theorem instr_er (n : Int) (f : Tx) (ts : List Tx) (s : PS) (b : PB) : okO (instrT 0 f ts (er s) (erB b)) = (okO (instrT n f ts s b)).map er := by
  unfold instrT
  cases hp : partsT f with
  | none => rfl
  | some ps =>
    show okO (if fitsT ts ps = false then _ else if 24 ≤ (erB b).code.length then _ else match fillAll s.N (newIns f) (zipP ps ts) with | none => _ | some i => _) = (okO (if fitsT ts ps = false then _ else if 24 ≤ b.code.length then _ else _)).map er
    have hl : (erB b).code.length = b.code.length := by simp [erB]
    rw [hl]
    split
    · rfl
    · split
      · rfl
      · cases h : fillAll s.N (newIns f) (zipP ps ts) with
        | none => rfl
        | some i =>
          show some _ = some _
          rw [er_set]
          simp [erB, erI]
theorem step_er (n : Int) (f : Tx) (ts : List Tx) (s : PS) : okO (stepT 0 f ts (er s)) = (okO (stepT n f ts s)).map er := by
  unfold stepT
  split
  · split
    · have := decl_er 116 ts s
      cases h1 : declT 116 ts (er s) with
      | error e =>
        cases h2 : declT 116 ts s with
        | error e' => rfl
        | ok s' => rw [h1, h2] at this; cases this
      | ok s1 =>
        cases h2 : declT 116 ts s with
        | error e' => rw [h1, h2] at this; cases this
        | ok s' =>
          rw [h1, h2] at this
          have this : some s1 = some (er s') := this
          cases this
          show some (addBody (er s')) = some (er (addBody s'))
          rw [er_add]
    · rfl
  · have hg : (er s).bod.getLast? = s.bod.getLast?.map erB := by
      show (s.bod.map erB).getLast? = _
      rw [List.getLast?_map]
    rw [hg]
    cases h : s.bod.getLast? with
    | none => exact decl_er _ _ _
    | some b =>
      show okO (if colonT f = true ∧ ts = [] then markT f (er s) (erB b) else instrT 0 f ts (er s) (erB b)) = (okO (if colonT f = true ∧ ts = [] then markT f s b else instrT n f ts s b)).map er
      split
      · exact mark_er f s b
      · exact instr_er n f ts s b
/-- Lines, by their words. -/
def runW : List (List Tx) → PS → Option PS
  | [], s => some s
  | [] :: W, s => runW W s
  | (f :: ts) :: W, s => match okO (stepT 0 f ts s) with
    | some s' => runW W s'
    | none => none
theorem lines_run : ∀ (ls : List Tx) (n : Int) (s : PS), (okO (linesT ls n s)).map er = runW (ls.map wordsT) (er s)
  | [], n, s => rfl
  | l :: ls, n, s => by
    rw [List.map_cons]
    unfold linesT lineT
    cases hw : wordsT l with
    | nil =>
      show _ = runW (ls.map wordsT) (er s)
      exact lines_run ls (n + 1) s
    | cons f ts =>
      show (okO (match stepT (n + 1) f ts s with | .ok s' => linesT ls (n + 1) s' | .error e => .error (e, n + 1))).map er = (match okO (stepT 0 f ts (er s)) with | some s' => runW (ls.map wordsT) s' | none => none)
      rw [step_er (n + 1)]
      cases h : stepT (n + 1) f ts s with
      | error e => rfl
      | ok s' => exact lines_run ls (n + 1) s'
theorem run_ne : ∀ (W : List (List Tx)) (s : PS), runW (W.filter ne1) s = runW W s
  | [], s => rfl
  | [] :: W, s => run_ne W s
  | (f :: ts) :: W, s => by
    show runW ((f :: ts) :: W.filter ne1) s = _
    unfold runW
    cases h : okO (stepT 0 f ts s) with
    | none => rfl
    | some s' => exact run_ne W s'
theorem run_append : ∀ (W V : List (List Tx)) (s : PS), runW (W ++ V) s = (runW W s).bind (runW V)
  | [], V, s => rfl
  | [] :: W, V, s => run_append W V s
  | (f :: ts) :: W, V, s => by
    show runW ((f :: ts) :: (W ++ V)) s = (runW ((f :: ts) :: W) s).bind _
    unfold runW
    cases h : okO (stepT 0 f ts s) with
    | none => rfl
    | some s' => exact run_append W V s'
theorem resCode_er (N : Tx → Option (Int × Nat)) (labs : Tx → Option Nat) : ∀ (l : List PI), okO (resCode N labs (l.map erI)) = okO (resCode N labs l)
  | [] => rfl
  | p :: l => by
    have ih := resCode_er N labs l
    rw [List.map_cons]
    unfold resCode
    show okO (match resOff N labs p.i p.off with | some i => _ | none => _) = _
    cases h : resOff N labs p.i p.off with
    | none => rfl
    | some i =>
      show okO ((resCode N labs (l.map erI)).map _) = okO ((resCode N labs l).map _)
      cases h1 : resCode N labs (l.map erI) with
      | error e =>
        cases h2 : resCode N labs l with
        | error e' => rfl
        | ok c => rw [h1, h2] at ih; cases ih
      | ok c1 =>
        cases h2 : resCode N labs l with
        | error e' => rw [h1, h2] at ih; cases ih
        | ok c =>
          rw [h1, h2] at ih
          cases ih
          rfl
theorem resAll_er (N : Tx → Option (Int × Nat)) : ∀ (l : List PB), okO (resAll N (l.map erB)) = okO (resAll N l)
  | [] => rfl
  | b :: l => by
    have ih := resAll_er N l
    have hc := resCode_er N b.labs b.code
    rw [List.map_cons]
    unfold resAll
    show okO (match resCode N b.labs (b.code.map erI) with | .ok c => _ | .error e => _) = _
    cases g1 : resCode N b.labs (b.code.map erI) with
    | error e =>
      cases g2 : resCode N b.labs b.code with
      | error e' => rfl
      | ok c => rw [g1, g2] at hc; cases hc
    | ok c1 =>
      cases g2 : resCode N b.labs b.code with
      | error e' => rw [g1, g2] at hc; cases hc
      | ok c =>
        rw [g1, g2] at hc
        cases hc
        show okO ((resAll N (l.map erB)).map _) = okO ((resAll N l).map _)
        cases h1 : resAll N (l.map erB) with
        | error e =>
          cases h2 : resAll N l with
          | error e' => rfl
          | ok c => rw [h1, h2] at ih; cases ih
        | ok c1 =>
          cases h2 : resAll N l with
          | error e' => rw [h1, h2] at ih; cases ih
          | ok c =>
            rw [h1, h2] at ih
            cases ih
            rfl
/-- What a text's words tell, its text tells. -/
theorem parse_words {t : Tx} {s0 : PS} {C : List (List In7)} (hl : t.length ≤ 3000) (hr : runW (((splitT 10 t).map wordsT).filter ne1) PS.new = some s0) (hC : resAll s0.N s0.bod = .ok C) : ∃ s, parseT t = .ok (s, C) ∧ s.nms = s0.nms := by
  rw [run_ne, ← er_new, ← lines_run _ 0] at hr
  unfold parseT parseL
  rw [if_neg (by omega)]
  cases hL : linesT (splitT 10 t) 0 PS.new with
  | error e => rw [hL] at hr; cases hr
  | ok s =>
    rw [hL] at hr
    have hr : some (er s) = some s0 := hr
    cases hr
    refine ⟨s, ?_, rfl⟩
    have h2 := resAll_er s.N s.bod
    have hC : resAll s.N (s.bod.map erB) = .ok C := hC
    rw [hC] at h2
    show (match resAll s.N s.bod with | .error l => _ | .ok C => _) = _
    rw [okO_some h2.symm]
end Go.Proofs.YtlefemndikednaaGreatDoor
/-
  The plain text's lines, and what reading them leaves.
-/
namespace Go.Proofs.YtlefemndikednaaGreatDoor
open Go.RowKit Go.Shelf Go.Proofs.Cod

def hdLn (wd : Tx) (ns : List Tx) : List (List Tx) := if ns.length = 0 then [] else [wd :: ns]
def labL (tg : List Bool) (k : Nat) : List (List Tx) := if tg.getD k false then [[labW (k : Int) ++ [58]]] else []
def preL (N : Int → List Tx) (tg : List Bool) (is : List In7) (k : Nat) : List (List Tx) := (List.range k).flatMap fun j => labL tg j ++ [insW N (is.getD j zero7) ((partsT (is.getD j zero7).op).getD [])]
def thrLn (N : Int → List Tx) (nm : Tx) (is : List In7) : List (List Tx) := [[tThread, nm]] ++ preL N (targL is (is.length + 1)) is is.length ++ labL (targL is (is.length + 1)) is.length
def thrsL (N : Int → List Tx) (ts : List Tx) (C : List (List In7)) (k : Nat) : List (List Tx) := (List.range k).flatMap fun j => thrLn N (ts.getD j []) (C.getD j [])
def progL (vs fs ls ts : List Tx) (C : List (List In7)) : List (List Tx) := hdLn tVar vs ++ hdLn tFlag fs ++ hdLn tLock ls ++ thrsL (nmP vs fs ls ts) ts C ts.length
theorem hd_text (wd : Tx) (ns : List Tx) : hdL wd ns = (hdLn wd ns).flatMap lineW := by
  unfold hdLn
  by_cases h0 : ns.length = 0
  · rw [if_pos h0]; unfold hdL; rw [if_pos h0]; rfl
  · rw [if_neg h0, ← catN_all h0, List.flatMap_cons, List.flatMap_nil, List.append_nil, line_cat]
theorem lab_text (tg : List Bool) (k : Nat) : labLn tg k = (labL tg k).flatMap lineW := by
  unfold labLn labL
  split
  · rw [List.flatMap_cons, List.flatMap_nil, List.append_nil]
  · rfl
theorem pre_text (N : Int → List Tx) (tg : List Bool) (is : List In7) (k : Nat) : preW N tg is k = (preL N tg is k).flatMap lineW := by
  unfold preW preL
  rw [List.flatMap_assoc]
  congr 1
  funext j
  rw [List.flatMap_append, ← lab_text, List.flatMap_cons, List.flatMap_nil, List.append_nil]; rfl
theorem thr_text (N : Int → List Tx) (nm : Tx) (is : List In7) : thrW N nm is = (thrLn N nm is).flatMap lineW := by
  unfold thrW thrLn
  rw [List.flatMap_append, List.flatMap_append, ← pre_text, ← lab_text, List.flatMap_cons, List.flatMap_nil, List.append_nil]
theorem thrs_text (N : Int → List Tx) (ts : List Tx) (C : List (List In7)) (k : Nat) : thrsW N ts C k = (thrsL N ts C k).flatMap lineW := by
  unfold thrsW thrsL
  rw [List.flatMap_assoc]
  congr 1
  funext j
  exact thr_text _ _ _
theorem prog_text (vs fs ls ts : List Tx) (C : List (List In7)) : printW vs fs ls ts C = (progL vs fs ls ts C).flatMap lineW := by
  unfold printW progL headsW
  rw [thrs_text, List.flatMap_append, List.flatMap_append, List.flatMap_append, ← hd_text, ← hd_text, ← hd_text]
  simp

/-! ### Clean words -/
theorem clean_ge {c : UInt8} (h : 48 ≤ (c.toNat : Int)) : cleanB c := by
  refine ⟨?_, ?_, ?_⟩ <;>
  · intro e
    subst e
    exact absurd h (by decide)
theorem clean_nam {t : Tx} (h : isNam t = true) : CleanW t := by
  unfold isNam at h
  simp only [Bool.and_eq_true, decide_eq_true_eq] at h
  obtain ⟨⟨⟨⟨h1, h2⟩, h3⟩, h4⟩, h5⟩ := h
  refine ⟨fun e => by subst e; simp at h1, fun c hc => clean_ge ?_⟩
  have := List.all_eq_true.1 h4 c hc
  simp only [isLet, isDig, Bool.or_eq_true, Bool.and_eq_true, decide_eq_true_eq] at this
  omega
theorem clean_num {t : Tx} (h : isNum t = true) : CleanW t := by
  unfold isNum at h
  simp only [Bool.and_eq_true, decide_eq_true_eq] at h
  obtain ⟨⟨h1, h2⟩, h4⟩ := h
  refine ⟨fun e => by subst e; simp at h1, fun c hc => clean_ge ?_⟩
  have := List.all_eq_true.1 h4 c hc
  simp only [isDig, Bool.and_eq_true, decide_eq_true_eq] at this
  omega
theorem clean_reg {t : Tx} (h : isReg t = true) : CleanW t := by
  match t, h with
  | [a, b], h =>
    simp only [isReg, Bool.and_eq_true, decide_eq_true_eq] at h
    refine ⟨by simp, fun c hc => clean_ge ?_⟩
    simp at hc
    rcases hc with rfl | rfl <;> omega
theorem clean_fit {t : Tx} {c : Int} (h : fitsP t c = true) : CleanW t := by
  unfold fitsP at h
  split at h
  · exact clean_reg h
  · split at h
    · rcases Bool.or_eq_true _ _ ▸ h with h | h
      · exact clean_reg h
      · exact clean_num h
    · exact clean_nam h
theorem clean_fits : ∀ {ts : List Tx} {ps : Tx}, fitsT ts ps = true → ∀ x, x ∈ ts → CleanW x
  | [], _, _, x, hx => by cases hx
  | t :: ts, [], h, _, _ => by cases h
  | t :: ts, c :: ps, h, x, hx => by
    have h : (fitsP t (c.toNat : Int) && fitsT ts ps) = true := h
    rw [Bool.and_eq_true] at h
    rcases List.mem_cons.1 hx with rfl | hx
    · exact clean_fit h.1
    · exact clean_fits h.2 x hx
theorem clean_of {t : Tx} (h : (!t.isEmpty && t.all fun c => decide (48 ≤ (c.toNat : Int))) = true) : CleanW t := by
  rw [Bool.and_eq_true] at h
  refine ⟨fun e => by subst e; exact absurd h.1 (by decide), fun c hc => clean_ge ?_⟩
  simpa using List.all_eq_true.1 h.2 c hc
theorem clean_lab {k : Nat} (h : k ≤ 24) : CleanW (labW (k : Int) ++ [58]) := by
  have h1 := clean_nam (lab_le h)
  refine ⟨by simp, fun c hc => ?_⟩
  rcases List.mem_append.1 hc with hc | hc
  · exact h1.2 c hc
  · obtain rfl := List.mem_singleton.1 hc
    exact clean_ge (by decide)

/-! ### Names -/
section
variable {N : Tx → Option (Int × Nat)}
def fil (N : Tx → Option (Int × Nat)) (P : Int × Nat → Bool) : Tx → Option (Int × Nat) := fun x => (N x).filter P
theorem fil_some {P : Int × Nat → Bool} {x : Tx} {z : Int × Nat} (h : N x = some z) (hp : P z = true) : fil N P x = some z := by
  unfold fil; rw [h]; simp [hp]
theorem fil_none {P : Int × Nat → Bool} {x : Tx} {z : Int × Nat} (h : N x = some z) (hp : P z = false) : fil N P x = none := by
  unfold fil; rw [h]; simp [hp]
theorem fil_congr {P P' : Int × Nat → Bool} (h : ∀ x z, N x = some z → P z = P' z) : fil N P = fil N P' := by
  funext x
  unfold fil
  cases hN : N x with
  | none => rfl
  | some z => simp [Option.filter, h x z hN]
theorem declAll_fil {kd : Int} : ∀ (ts l : List Tx) (P P' : Int × Nat → Bool), (∀ j t, ts[j]? = some t → N t = some (kd, l.length + j)) → (∀ x n, N x = some (kd, n) → l.length ≤ n → n < l.length + ts.length → ts[n - l.length]? = some x) → (∀ j, j < ts.length → P (kd, l.length + j) = false) → (∀ x z, N x = some z → P' z = (P z || (z.1 == kd && decide (l.length ≤ z.2) && decide (z.2 < l.length + ts.length)))) → declAll kd (fil N P) l ts = some (fil N P', l ++ ts)
  | [], l, P, P', _, _, _, hP => by
    show some (fil N P, l) = _
    rw [List.append_nil, fil_congr (P := P) (P' := P') fun x z hz => ?_]
    rw [hP x z hz]
    have : (decide (l.length ≤ z.2) && decide (z.2 < l.length + ([] : List Tx).length)) = false := by
      rw [List.length_nil]
      simp
    rw [Bool.and_assoc, this]; simp
  | t :: ts, l, P, P', h1, h2, h3, hP => by
    have ht := h1 0 t rfl
    rw [Nat.add_zero] at ht
    have hp0 := h3 0 (by simp)
    rw [Nat.add_zero] at hp0
    unfold declAll
    rw [fil_none ht hp0]
    have hput : putT (fil N P) t (kd, l.length) = fil N (fun z => P z || (z.1 == kd && z.2 == l.length)) := by
      funext x
      unfold putT
      by_cases hx : x = t
      · rw [if_pos hx, hx, fil_some ht (by simp)]
      · rw [if_neg hx]
        unfold fil
        cases hN : N x with
        | none => rfl
        | some z =>
          have hz : (z.1 == kd && z.2 == l.length) = false := by
            cases hb : (z.1 == kd && z.2 == l.length) with
            | false => rfl
            | true =>
              simp only [Bool.and_eq_true, beq_iff_eq] at hb
              obtain ⟨k, n⟩ := z
              have hb1 : k = kd := hb.1
              have hb2 : n = l.length := hb.2
              subst hb1 hb2
              have := h2 x l.length hN (Nat.le_refl _) (by simp)
              rw [Nat.sub_self] at this
              have this : some t = some x := this
              cases this
              exact absurd rfl hx
          simp [Option.filter, hz]
    show declAll kd (putT (fil N P) t (kd, l.length)) (l ++ [t]) ts = _
    rw [hput, declAll_fil ts (l ++ [t]) _ P' (fun j x hj => ?_) (fun x n hx ha hb => ?_) (fun j hj => ?_) (fun x z hz => ?_)]
    · simp
    · have := h1 (j + 1) x hj
      rw [List.length_append, this]; simp; omega
    · rw [List.length_append] at ha hb ⊢
      simp only [List.length_cons, List.length_nil] at ha hb ⊢
      have := h2 x n hx (by omega) (by simp; omega)
      rw [show n - l.length = (n - (l.length + (0 + 1))) + 1 by omega] at this
      exact this
    · have := h3 (j + 1) (by simp; omega)
      rw [List.length_append]
      simp only [List.length_cons, List.length_nil]
      rw [show l.length + (0 + 1) + j = l.length + (j + 1) by omega, this]
      simp
    · rw [hP x z hz, List.length_append]
      simp only [List.length_cons, List.length_nil]
      rw [Bool.or_assoc]
      congr 1
      cases hk : z.1 == kd with
      | false => rfl
      | true =>
        simp only [Bool.true_and]
        have : ∀ (a b : Nat), (decide (a ≤ b) && decide (b < a + (ts.length + 1))) = (b == a || (decide (a + (0 + 1) ≤ b) && decide (b < a + (0 + 1) + ts.length))) := fun a b => by
          rw [Bool.eq_iff_iff]
          simp
          omega
        exact this _ _
theorem decl_fil {kd : Int} {ts : List Tx} {s : PS} {P P' : Int × Nat → Bool} (hN : s.N = fil N P) (hk : kd ≠ 0) (hts : ts ≠ []) (hnam : ∀ x, x ∈ ts → isNam x = true) (hl : (s.nms kd).length + ts.length ≤ 4) (h1 : ∀ j t, ts[j]? = some t → N t = some (kd, (s.nms kd).length + j)) (h2 : ∀ x n, N x = some (kd, n) → (s.nms kd).length ≤ n → n < (s.nms kd).length + ts.length → ts[n - (s.nms kd).length]? = some x) (h3 : ∀ j, j < ts.length → P (kd, (s.nms kd).length + j) = false) (hP : ∀ x z, N x = some z → P' z = (P z || (z.1 == kd && decide ((s.nms kd).length ≤ z.2) && decide (z.2 < (s.nms kd).length + ts.length)))) : declT kd ts s = .ok { s with N := fil N P', nms := putZ s.nms kd (s.nms kd ++ ts) } := by
  unfold declT
  have hall : ts.all isNam = true := List.all_eq_true.2 hnam
  rw [if_neg (by simp [hk, hts, hall]), hN, declAll_fil ts (s.nms kd) P P' h1 h2 h3 hP]
  show (if 4 < (s.nms kd ++ ts).length then _ else _) = _
  rw [if_neg (by rw [List.length_append]; omega)]
end
end Go.Proofs.YtlefemndikednaaGreatDoor
