import Derived.Test.YtlefemndikednaaGreatDoorPa27
set_option linter.unusedVariables false
set_option linter.unusedSimpArgs false
/-
  Reading the plain text's threads.
-/
namespace Go.Proofs.YtlefemndikednaaGreatDoor
open Go.RowKit Go.Shelf Go.Proofs.Cod

/-! ### Labels -/
def labsF (tg : List Bool) : Nat → Tx → Option Nat
  | 0, _ => none
  | m + 1, t => if tg.getD m false = true ∧ t = labW (m : Int) then some m else labsF tg m t
theorem labW_inj {a b : Nat} (ha : a ≤ 24) (hb : b ≤ 24) (h : labW (a : Int) = labW (b : Int)) : a = b := by
  have := lab_inj ⟨a, by omega⟩ ⟨b, by omega⟩ h
  exact congrArg Fin.val this
theorem labs_none (tg : List Bool) : ∀ (m k : Nat), m ≤ k → k ≤ 24 → labsF tg m (labW (k : Int)) = none
  | 0, _, _, _ => rfl
  | m + 1, k, h, hk => by
    unfold labsF
    rw [if_neg (fun e => by have := labW_inj (by omega) (by omega) e.2; omega)]
    exact labs_none tg m k (by omega) hk
theorem labs_some (tg : List Bool) : ∀ (m k : Nat), k < m → m ≤ 25 → tg.getD k false = true → labsF tg m (labW (k : Int)) = some k
  | 0, _, h, _, _ => by omega
  | m + 1, k, h, hm, ht => by
    unfold labsF
    by_cases e : k = m
    · subst e
      rw [if_pos ⟨ht, rfl⟩]
    · rw [if_neg (fun e' => by have := labW_inj (by omega) (by omega) e'.2; omega)]
      exact labs_some tg m k (by omega) (by omega) ht
theorem labs_put (tg : List Bool) (m : Nat) (h : tg.getD m false = true) : putT (labsF tg m) (labW (m : Int)) m = labsF tg (m + 1) := by
  funext t
  show (if t = labW (m : Int) then some m else labsF tg m t) = if tg.getD m false = true ∧ t = labW (m : Int) then some m else labsF tg m t
  by_cases e : t = labW (m : Int)
  · rw [if_pos e, if_pos ⟨h, e⟩]
  · rw [if_neg e, if_neg (fun e' => e e'.2)]
theorem labs_skip (tg : List Bool) (m : Nat) (h : tg.getD m false = false) : labsF tg m = labsF tg (m + 1) := by
  funext t
  show _ = if tg.getD m false = true ∧ t = labW (m : Int) then some m else labsF tg m t
  rw [if_neg (fun e => by rw [h] at e; exact absurd e.1 (by decide))]
theorem set_set (s : PS) (pre : List PB) (b b' : PB) (h : s.bod = pre ++ [b]) : setLast s b' = { s with bod := pre ++ [b'] } := by
  unfold setLast
  rw [h]; simp
section
variable {s : PS} {pre : List PB} {b : PB}
theorem bod_last (h : s.bod = pre ++ [b]) : s.bod.getLast? = some b := by rw [h]; simp
theorem lab_run (h : s.bod = pre ++ [b]) {tg : List Bool} {k : Nat} (hk : k ≤ 24) (hc : b.code.length = k) (hb : b.labs = labsF tg k) : runW (labL tg k) s = some { s with bod := pre ++ [{ b with labs := labsF tg (k + 1) }] } := by
  unfold labL
  cases ht : tg.getD k false with
  | false =>
    rw [if_neg (by decide)]
    show some s = _
    rw [← labs_skip tg k ht, ← hb]
    cases s
    cases h
    rfl
  | true =>
    rw [if_pos rfl]
    unfold runW stepT
    have h1 : labW (k : Int) ++ [58] ≠ tThread := by simp [labW, tThread]
    have h2 : colonT (labW (k : Int) ++ [58]) = true := by simp [colonT]
    rw [if_neg h1, bod_last h]
    show (match okO (if colonT (labW (k : Int) ++ [58]) = true ∧ ([] : List Tx) = [] then markT (labW (k : Int) ++ [58]) s b else instrT 0 (labW (k : Int) ++ [58]) [] s b) with | some s' => runW [] s' | none => none) = _
    rw [if_pos ⟨h2, rfl⟩]
    unfold markT
    have h3 : (labW (k : Int) ++ [58]).dropLast = labW (k : Int) := by simp
    rw [h3, lab_le hk, if_neg (by decide), hb, labs_none tg k k (Nat.le_refl _) hk]
    show some (setLast s { b with labs := putT (labsF tg k) (labW (k : Int)) b.code.length }) = _
    rw [hc, labs_put tg k ht, set_set s pre b _ h]
theorem ins_run (h : s.bod = pre ++ [b]) {N : Tx → Option (Int × Nat)} {M : Int → List Tx} {q : Tx × Tx} {i : In7} (hq : q ∈ shapeT) (hib : IB N M q.1 q.2 i) (hlen : b.code.length < 24) {Nf : Tx → Option (Int × Nat)} {labs' : Tx → Option Nat} (hN' : ∀ t k n, isNb k = true → N t = some (k, n) → s.N t = some (k, n)) (hNf : ∀ t n, N t = some (116, n) → Nf t = some (116, n)) (hl : (108 : UInt8) ∈ q.2 → labs' (labW i.x) = some i.x.toNat) : ∃ p : PI, runW [insW M i ((partsT i.op).getD [])] s = some { s with bod := pre ++ [{ b with code := b.code ++ [p] }] } ∧ resOff Nf labs' p.i p.off = some i := by
  have hps : partsT q.1 = some q.2 := by
    have : ∀ q, q ∈ shapeT → partsT q.1 = some q.2 := by decide
    exact this q hq
  have h1 : q.1 ≠ tThread := by
    have : ∀ q, q ∈ shapeT → q.1 ≠ tThread := by decide
    exact this q hq
  have h2 : colonT q.1 = false := by
    have : ∀ q, q ∈ shapeT → colonT q.1 = false := by decide
    exact this q hq
  obtain ⟨i0, g1, g2⟩ := hib.back s.N Nf labs' hN' hNf hl
  refine ⟨⟨i0, 0, _⟩, ?_, g2⟩
  rw [hib.ho, hps]
  show runW [i.op :: q.2.map fun c => wordW M i (c.toNat : Int)] s = _
  rw [hib.ho]
  unfold runW stepT
  rw [if_neg h1, bod_last h]
  show (match okO (if colonT q.1 = true ∧ _ then markT q.1 s b else instrT 0 q.1 _ s b) with | some s' => runW [] s' | none => none) = _
  rw [if_neg (fun e => by rw [h2] at e; exact absurd e.1 (by decide))]
  unfold instrT
  rw [hps]
  show (match okO (if fitsT (q.2.map fun c => wordW M i (c.toNat : Int)) q.2 = false then _ else if 24 ≤ b.code.length then _ else _) with | some s' => runW [] s' | none => none) = _
  rw [hib.fits, if_neg (by decide), if_neg (by omega), g1]
  show some (setLast s _) = _
  rw [set_set s pre b _ h]
  rfl
end
theorem preL_succ (N : Int → List Tx) (tg : List Bool) (is : List In7) (k : Nat) : preL N tg is (k + 1) = preL N tg is k ++ (labL tg k ++ [insW N (is.getD k zero7) ((partsT (is.getD k zero7).op).getD [])]) := by
  unfold preL
  rw [List.range_succ, List.flatMap_append]; simp
theorem jump_lab {is : List In7} (hlen : is.length ≤ 24) {q : Tx × Tx} (hq : q ∈ shapeT) {i : In7} (hi : i ∈ is) (hop : i.op = q.1) (hj : isJ i = true → 0 ≤ i.x ∧ i.x ≤ is.length) (h8 : (108 : UInt8) ∈ q.2) : labsF (targL is (is.length + 1)) (is.length + 1) (labW i.x) = some i.x.toNat := by
  have hps : partsT q.1 = some q.2 := by
    have : ∀ q, q ∈ shapeT → partsT q.1 = some q.2 := by decide
    exact this q hq
  have hJ : isJ i = true := by
    unfold isJ
    rw [hop, hps]
    show decide (0 ≤ Lib.indexByte q.2 108) = true
    rw [isJ_shape hq]; simpa using h8
  obtain ⟨h0, h1⟩ := hj hJ
  obtain ⟨x, hx⟩ : ∃ x : Nat, i.x = x := ⟨i.x.toNat, by omega⟩
  rw [hx] at h1 ⊢
  have hxl : x ≤ is.length := by omega
  rw [Int.toNat_natCast]
  refine labs_some _ _ x (by omega) (by omega) ?_
  rw [targ_at is hxl, List.any_eq_true]
  exact ⟨i, hi, by rw [hJ, hx]; simp⟩
/-- What a thread's lines leave. -/
def BodR (Nf : Tx → Option (Int × Nat)) (b : PB) (c : List In7) : Prop := b.code.length = c.length ∧ ∀ (j : Nat) p i, b.code[j]? = some p → c[j]? = some i → resOff Nf b.labs p.i p.off = some i
section
variable {N Nf : Tx → Option (Int × Nat)} {M : Int → List Tx} {is : List In7} {s : PS} {pre : List PB}
theorem body_run (hlen : is.length ≤ 24) (hib : ∀ i, i ∈ is → ∃ q, q ∈ shapeT ∧ IB N M q.1 q.2 i) (hj : ∀ i, i ∈ is → isJ i = true → 0 ≤ i.x ∧ i.x ≤ is.length) (h : s.bod = pre ++ [⟨[], fun _ => none⟩]) (hN' : ∀ t k n, isNb k = true → N t = some (k, n) → s.N t = some (k, n)) (hNf : ∀ t n, N t = some (116, n) → Nf t = some (116, n)) : ∀ k, k ≤ is.length → ∃ code : List PI, runW (preL M (targL is (is.length + 1)) is k) s = some { s with bod := pre ++ [⟨code, labsF (targL is (is.length + 1)) k⟩] } ∧ code.length = k ∧ ∀ (j : Nat) p i, code[j]? = some p → is[j]? = some i → resOff Nf (labsF (targL is (is.length + 1)) (is.length + 1)) p.i p.off = some i
  | 0, _ => by
    refine ⟨[], ?_, rfl, fun j p i hp => by cases hp⟩
    show some s = some { s with bod := pre ++ [⟨[], fun _ => none⟩] }
    rw [← h]
  | k + 1, hk => by
    obtain ⟨code, h1, h2, h3⟩ := body_run hlen hib hj h hN' hNf k (by omega)
    obtain ⟨i, hi⟩ : ∃ i, is[k]? = some i := ⟨_, List.getElem?_eq_getElem (by omega)⟩
    have him := List.mem_of_getElem? hi
    have hgd : is.getD k zero7 = i := by rw [List.getD_eq_getElem?_getD, hi]; rfl
    obtain ⟨q, hq, hb⟩ := hib i him
    rw [preL_succ, run_append, h1, hgd]
    show ∃ code', runW (labL _ k ++ _) _ = _ ∧ _
    rw [run_append, lab_run (s := { s with bod := pre ++ [⟨code, labsF (targL is (is.length + 1)) k⟩] }) (pre := pre) (b := ⟨code, labsF (targL is (is.length + 1)) k⟩) rfl (tg := targL is (is.length + 1)) (k := k) (by omega) h2 rfl]
    obtain ⟨p, g1, g2⟩ := ins_run (s := { s with bod := pre ++ [⟨code, labsF (targL is (is.length + 1)) (k + 1)⟩] }) (pre := pre) (b := ⟨code, labsF (targL is (is.length + 1)) (k + 1)⟩) rfl (Nf := Nf) (labs' := labsF (targL is (is.length + 1)) (is.length + 1)) hq hb (by show code.length < 24; omega) hN' hNf (fun h8 => jump_lab hlen hq him hb.ho (hj i him) h8)
    refine ⟨code ++ [p], g1, by rw [List.length_append, h2]; rfl, fun j p' i' hp hi' => ?_⟩
    by_cases hjk : j < k
    · rw [List.getElem?_append_left (by omega)] at hp
      exact h3 j p' i' hp hi'
    · rw [List.getElem?_append_right (by omega)] at hp
      have hj0 : j - code.length = 0 := by
        have := (List.getElem?_eq_some_iff.1 hp).1
        simp at this; omega
      rw [hj0] at hp
      have hp : some p = some p' := hp
      cases hp
      rw [show j = k by omega, hi] at hi'
      cases hi'
      exact g2
def Pj (j : Nat) (z : Int × Nat) : Bool := isNb z.1 || (z.1 == 116 && decide (z.2 < j))
theorem thread_run {ts : List Tx} {j : Nat} {nm : Tx} (hlen : is.length ≤ 24) (hib : ∀ i, i ∈ is → ∃ q, q ∈ shapeT ∧ IB N M q.1 q.2 i) (hj : ∀ i, i ∈ is → isJ i = true → 0 ≤ i.x ∧ i.x ≤ is.length) (hNf : ∀ t n, N t = some (116, n) → Nf t = some (116, n)) (h4 : ts.length ≤ 4) (hnm : ts[j]? = some nm) (hnam : isNam nm = true) (h1 : N nm = some (116, j)) (h2 : ∀ x, N x = some (116, j) → x = nm) (hN : s.N = fil N (Pj j)) (hn : s.nms 116 = ts.take j) : ∃ b, runW (thrLn M nm is) s = some ⟨fil N (Pj (j + 1)), putZ s.nms 116 (ts.take (j + 1)), s.bod ++ [b]⟩ ∧ BodR Nf b is := by
  have hjl := (List.getElem?_eq_some_iff.1 hnm).1
  have htl : (ts.take j).length = j := by rw [List.length_take]; omega
  have hts : ts.take j ++ [nm] = ts.take (j + 1) := by
    rw [List.take_succ_eq_append_getElem hjl]
    rw [(List.getElem?_eq_some_iff.1 hnm).2]
  have hd : declT 116 [nm] s = .ok { s with N := fil N (Pj (j + 1)), nms := putZ s.nms 116 (s.nms 116 ++ [nm]) } := by
    refine decl_fil (N := N) (P := Pj j) hN (by decide) (by simp) (fun x hx => by obtain rfl := List.mem_singleton.1 hx; exact hnam) (by rw [hn, htl]; simp; omega) (fun i t ht => ?_) (fun x n hx ha hb => ?_) (fun i hi => ?_) (fun x z hz => ?_)
    · rw [hn, htl]
      have hi0 : i = 0 := by
        have := (List.getElem?_eq_some_iff.1 ht).1
        simp at this; omega
      subst hi0
      have ht : some nm = some t := ht
      cases ht
      exact h1
    · rw [hn, htl] at ha hb ⊢
      simp at hb
      obtain rfl : n = j := by omega
      rw [Nat.sub_self]
      show some nm = some x
      rw [h2 x hx]
    · rw [hn, htl]
      simp at hi
      subst hi
      simp [Pj, isNb]
    · rw [hn, htl]
      unfold Pj
      rw [Bool.or_assoc]
      congr 1
      cases hk : z.1 == 116 with
      | false => rfl
      | true =>
        simp only [Bool.true_and, List.length_cons, List.length_nil]
        rw [Bool.eq_iff_iff]
        simp
        omega
  rw [hn, hts] at hd
  unfold thrLn
  rw [List.append_assoc, run_append]
  have hr : runW [[tThread, nm]] s = some ⟨fil N (Pj (j + 1)), putZ s.nms 116 (ts.take (j + 1)), s.bod ++ [⟨[], fun _ => none⟩]⟩ := by
    have hst : stepT 0 tThread [nm] s = (declT 116 [nm] s).map addBody := by
      unfold stepT
      rw [if_pos rfl]
      show (if ([nm] : List Tx).length = 1 then _ else _) = _
      rw [if_pos (by simp)]
    show (match okO (stepT 0 tThread [nm] s) with | some s' => runW [] s' | none => none) = _
    rw [hst, hd]; rfl
  rw [hr]
  show ∃ b, runW (preL _ _ _ _ ++ _) _ = _ ∧ _
  rw [run_append]
  obtain ⟨code, g1, g2, g3⟩ := body_run (s := ⟨fil N (Pj (j + 1)), putZ s.nms 116 (ts.take (j + 1)), s.bod ++ [⟨[], fun _ => none⟩]⟩) (pre := s.bod) (Nf := Nf) hlen hib hj rfl (fun t k n hk hN => fil_some hN (by unfold Pj; rw [hk]; rfl)) hNf is.length (Nat.le_refl _)
  rw [g1]
  show ∃ b, runW (labL _ _) _ = _ ∧ _
  refine ⟨⟨code, labsF (targL is (is.length + 1)) (is.length + 1)⟩, ?_, g2, g3⟩
  exact lab_run (s := ⟨fil N (Pj (j + 1)), putZ s.nms 116 (ts.take (j + 1)), s.bod ++ [⟨code, labsF (targL is (is.length + 1)) is.length⟩]⟩) (pre := s.bod) (b := ⟨code, labsF (targL is (is.length + 1)) is.length⟩) rfl hlen g2 rfl
theorem putZ_twice {α : Type} (f : Int → α) (k : Int) (a b : α) : putZ (putZ f k a) k b = putZ f k b := by
  funext x
  unfold putZ
  split <;> rfl
theorem putZ_id {α : Type} {f : Int → α} {k : Int} {a : α} (h : f k = a) : putZ f k a = f := by
  funext x
  unfold putZ
  split
  · rename_i e; rw [e, h]
  · rfl
theorem thrsL_succ (N : Int → List Tx) (ts : List Tx) (C : List (List In7)) (k : Nat) : thrsL N ts C (k + 1) = thrsL N ts C k ++ thrLn N (ts.getD k []) (C.getD k []) := by
  unfold thrsL
  rw [List.range_succ, List.flatMap_append]; simp
theorem threads_run {ts : List Tx} {C : List (List In7)} (hC : ∀ c, c ∈ C → c.length ≤ 24 ∧ ∀ i, i ∈ c → (∃ q, q ∈ shapeT ∧ IB N M q.1 q.2 i) ∧ (isJ i = true → 0 ≤ i.x ∧ i.x ≤ c.length)) (hl : C.length = ts.length) (hNf : ∀ t n, N t = some (116, n) → Nf t = some (116, n)) (h4 : ts.length ≤ 4) (hnam : ∀ x, x ∈ ts → isNam x = true) (h1 : ∀ (j : Nat) x, ts[j]? = some x → N x = some (116, j)) (h2 : ∀ (j : Nat) x, N x = some (116, j) → ts[j]? = some x) (hN : s.N = fil N (Pj 0)) (hn : s.nms 116 = []) (hb : s.bod = []) : ∀ j, j ≤ ts.length → ∃ B, runW (thrsL M ts C j) s = some ⟨fil N (Pj j), putZ s.nms 116 (ts.take j), B⟩ ∧ B.length = j ∧ ∀ (i : Nat) b c, B[i]? = some b → C[i]? = some c → BodR Nf b c
  | 0, _ => by
    refine ⟨[], ?_, rfl, fun i b c h => by cases h⟩
    show some s = some ⟨fil N (Pj 0), putZ s.nms 116 [], []⟩
    rw [putZ_id hn, ← hN, ← hb]
  | j + 1, hj => by
    obtain ⟨B, g1, g2, g3⟩ := threads_run hC hl hNf h4 hnam h1 h2 hN hn hb j (by omega)
    obtain ⟨nm, hnm⟩ : ∃ nm, ts[j]? = some nm := ⟨_, List.getElem?_eq_getElem (by omega)⟩
    obtain ⟨c, hc⟩ : ∃ c, C[j]? = some c := ⟨_, List.getElem?_eq_getElem (by omega)⟩
    have e1 : ts.getD j [] = nm := by rw [List.getD_eq_getElem?_getD, hnm]; rfl
    have e2 : C.getD j [] = c := by rw [List.getD_eq_getElem?_getD, hc]; rfl
    obtain ⟨k1, k2⟩ := hC c (List.mem_of_getElem? hc)
    obtain ⟨b, r1, r2⟩ := thread_run (s := ⟨fil N (Pj j), putZ s.nms 116 (ts.take j), B⟩) (M := M) (Nf := Nf) (is := c) (j := j) (nm := nm) (ts := ts) k1 (fun i hi => (k2 i hi).1) (fun i hi => (k2 i hi).2) hNf h4 hnm (hnam nm (List.mem_of_getElem? hnm)) (h1 j nm hnm) (fun x hx => by have := h2 j x hx; rw [hnm] at this; cases this; rfl) rfl (by show putZ s.nms 116 (ts.take j) 116 = _; exact putZ_same _ _ _)
    rw [thrsL_succ, run_append, g1, e1, e2]
    show ∃ B', runW (thrLn M nm c) _ = _ ∧ _
    rw [r1]
    refine ⟨B ++ [b], ?_, by rw [List.length_append, g2]; rfl, fun i b' c' hb' hc' => ?_⟩
    · show some (⟨fil N (Pj (j + 1)), putZ (putZ s.nms 116 (ts.take j)) 116 (ts.take (j + 1)), B ++ [b]⟩ : PS) = _
      rw [putZ_twice]
    · by_cases hij : i < j
      · rw [List.getElem?_append_left (by omega)] at hb'
        exact g3 i b' c' hb' hc'
      · rw [List.getElem?_append_right (by omega)] at hb'
        have hi0 : i - B.length = 0 := by
          have := (List.getElem?_eq_some_iff.1 hb').1
          simp at this; omega
        rw [hi0] at hb'
        have hb' : some b = some b' := hb'
        cases hb'
        rw [show i = j by omega, hc] at hc'
        cases hc'
        exact r2
theorem resCode_of (labs : Tx → Option Nat) : ∀ (l : List PI) (c : List In7), l.length = c.length → (∀ (j : Nat) p i, l[j]? = some p → c[j]? = some i → resOff Nf labs p.i p.off = some i) → resCode Nf labs l = .ok c
  | [], [], _, _ => rfl
  | [], _ :: _, h, _ => by simp at h
  | _ :: _, [], h, _ => by simp at h
  | p :: l, i :: c, h, hr => by
    unfold resCode
    rw [hr 0 p i rfl rfl]
    show (resCode Nf labs l).map _ = _
    rw [resCode_of labs l c (by simpa using h) (fun j p' i' h1 h2 => hr (j + 1) p' i' h1 h2)]; rfl
theorem resAll_of : ∀ (B : List PB) (C : List (List In7)), B.length = C.length → (∀ (i : Nat) b c, B[i]? = some b → C[i]? = some c → BodR Nf b c) → resAll Nf B = .ok C
  | [], [], _, _ => rfl
  | [], _ :: _, h, _ => by simp at h
  | _ :: _, [], h, _ => by simp at h
  | b :: B, c :: C, h, hr => by
    unfold resAll
    obtain ⟨g1, g2⟩ := hr 0 b c rfl rfl
    rw [resCode_of b.labs b.code c g1 g2]
    show (resAll Nf B).map _ = _
    rw [resAll_of B C (by simpa using h) (fun i b' c' h1 h2 => hr (i + 1) b' c' h1 h2)]; rfl
end
end Go.Proofs.YtlefemndikednaaGreatDoor
/-
  The plain text tells the same program.
-/
namespace Go.Proofs.YtlefemndikednaaGreatDoor
open Go.RowKit Go.Shelf Go.Proofs.Cod

theorem fillOne_op {N : Tx → Option (Int × Nat)} {i i' : In7} {p : Int × Tx} (h : fillOne N i p = some i') : i'.op = i.op := by
  unfold fillOne at h
  split at h
  · cases h; rfl
  · split at h
    · cases h; rfl
    · split at h
      · cases h; rfl
      · split at h
        · cases h; rfl
        · split at h
          · cases h; rfl
          · split at h
            · split at h
              · cases h; rfl
              · cases h
            · cases h
theorem fillAll_op {N : Tx → Option (Int × Nat)} : ∀ (l : List (Int × Tx)) (i i' : In7), fillAll N i l = some i' → i'.op = i.op
  | [], i, i', h => by
    have h : some i = some i' := h
    cases h; rfl
  | p :: l, i, i', h => by
    obtain ⟨i1, h1, h2⟩ := fill_cons h
    rw [fillAll_op l i1 i' h2, fillOne_op h1]
theorem resOff_op {N : Tx → Option (Int × Nat)} {labs : Tx → Option Nat} : ∀ (l : List (Int × Tx)) (i i' : In7), resOff N labs i l = some i' → i'.op = i.op
  | [], i, i', h => by
    have h : some i = some i' := h
    cases h; rfl
  | p :: l, i, i', h => by
    unfold resOff at h
    cases hl : lookOff N labs p with
    | none => rw [hl] at h; cases h
    | some n =>
      rw [hl] at h
      have h : resOff N labs { i with x := (n : Int) } l = some i' := h
      exact resOff_op l { i with x := (n : Int) } i' h
section
variable {s : PS} {C : List (List In7)}
def nmS (s : PS) : Int → List Tx := nmP (s.nms 118) (s.nms 102) (s.nms 109) (s.nms 116)
theorem nmS_k {k : Int} (h : isK k) : nmS s k = s.nms k := by
  unfold nmS nmP
  rcases h with rfl | rfl | rfl | rfl <;> rfl
theorem res_back (hp : PR s) {b : PB} (hb : b ∈ s.bod) {p : PI} (hpm : p ∈ b.code) {i : In7} (hr : resOff s.N b.labs p.i p.off = some i) (hj : isJ i = true → 0 ≤ i.x ∧ i.x ≤ 24) : ∃ q, q ∈ shapeT ∧ IB s.N (nmS s) q.1 q.2 i := by
  obtain ⟨q, ts, h1, h2, h3, h4⟩ := hp.bod b hb p hpm
  rw [h4] at hr
  refine ⟨q, h1, ins_back h1 h2 h3 hr (fun t k n hk hN => ?_) (fun h8 => ?_)⟩
  · rw [nmS_k hk]; exact hp.nt t k n hN
  · have hop : i.op = q.1 := by rw [resOff_op _ _ _ hr, fillAll_op _ _ _ h3]; rfl
    have hps : partsT q.1 = some q.2 := by
      have : ∀ q, q ∈ shapeT → partsT q.1 = some q.2 := by decide
      exact this q h1
    refine hj ?_
    unfold isJ
    rw [hop, hps]
    show decide (0 ≤ Lib.indexByte q.2 108) = true
    rw [isJ_shape h1]; simpa using h8
theorem resCode_mem {N : Tx → Option (Int × Nat)} {labs : Tx → Option Nat} : ∀ (l : List PI) (c : List In7), resCode N labs l = .ok c → ∀ i, i ∈ c → ∃ p, p ∈ l ∧ resOff N labs p.i p.off = some i
  | [], c, e, i, hi => by
    have e : Except.ok [] = Except.ok c := e
    cases e
    cases hi
  | p :: l, c, e, i, hi => by
    unfold resCode at e
    cases hr : resOff N labs p.i p.off with
    | none => rw [hr] at e; cases e
    | some i1 =>
      rw [hr] at e
      cases hc : resCode N labs l with
      | error x => rw [hc] at e; cases e
      | ok c' =>
        rw [hc] at e
        cases e
        rcases List.mem_cons.1 hi with rfl | hi
        · exact ⟨p, by simp, hr⟩
        · obtain ⟨p', h1, h2⟩ := resCode_mem l c' hc i hi
          exact ⟨p', by simp [h1], h2⟩
theorem resAll_mem {N : Tx → Option (Int × Nat)} : ∀ (l : List PB) (C : List (List In7)), resAll N l = .ok C → ∀ c, c ∈ C → ∃ b, b ∈ l ∧ resCode N b.labs b.code = .ok c
  | [], C, e, c, hc => by
    have e : Except.ok [] = Except.ok C := e
    cases e
    cases hc
  | b :: l, C, e, c, hc => by
    unfold resAll at e
    cases hr : resCode N b.labs b.code with
    | error x => rw [hr] at e; cases e
    | ok c0 =>
      rw [hr] at e
      cases hl : resAll N l with
      | error x => rw [hl] at e; cases e
      | ok C' =>
        rw [hl] at e
        cases e
        rcases List.mem_cons.1 hc with rfl | hc
        · exact ⟨b, by simp, hr⟩
        · obtain ⟨b', h1, h2⟩ := resAll_mem l C' hl c hc
          exact ⟨b', by simp [h1], h2⟩
/-- What a text's program is like. -/
structure Good (s : PS) (C : List (List In7)) : Prop where
  pr : PR s
  pw : PW s
  len : C.length = (s.nms 116).length
  code : ∀ c, c ∈ C → c.length ≤ 24 ∧ ∀ i, i ∈ c → (∃ q, q ∈ shapeT ∧ IB s.N (nmS s) q.1 q.2 i) ∧ (isJ i = true → 0 ≤ i.x ∧ i.x ≤ c.length)
theorem parse_good {t : Tx} (h : parseT t = .ok (s, C)) : Good s C := by
  obtain ⟨hok, hw, hCl, hc24⟩ := parse_pr h
  unfold parseT at h
  split at h
  · cases h
  · unfold parseL at h
    split at h
    · cases h
    · rename_i s0 hs
      split at h
      · cases h
      · rename_i C0 hC
        cases h
        have hp := lines_pr _ _ _ _ PR.new hs
        refine ⟨hp, hw, hCl, fun c hc => ⟨hc24 c hc, fun i hi => ?_⟩⟩
        obtain ⟨b, hb, hr⟩ := resAll_mem _ _ hC c hc
        obtain ⟨p, hpm, hro⟩ := resCode_mem _ _ hr i hi
        have hj := ((hok.code c hc).2 i hi).jump
        exact ⟨res_back hp hb hpm hro (fun h => by have := hj h; have := hc24 c hc; omega), hj⟩
theorem head_run {N : Tx → Option (Int × Nat)} {s : PS} {P : Int × Nat → Bool} {wd : Tx} {kd : Int} {ns : List Tx} (hwd : wd ≠ tThread) (hk : headK wd = kd) (hk0 : kd ≠ 0) (hN : s.N = fil N P) (hb : s.bod = []) (hn : s.nms kd = []) (hl : ns.length ≤ 4) (hnam : ∀ x, x ∈ ns → isNam x = true) (h1 : ∀ (j : Nat) x, ns[j]? = some x → N x = some (kd, j)) (h2 : ∀ (j : Nat) x, N x = some (kd, j) → ns[j]? = some x) (h3 : ∀ n, P (kd, n) = false) : runW (hdLn wd ns) s = some ⟨fil N (fun z => P z || z.1 == kd), putZ s.nms kd ns, []⟩ := by
  have hP : ∀ x z, N x = some z → (P z || z.1 == kd) = (P z || (z.1 == kd && decide ((s.nms kd).length ≤ z.2) && decide (z.2 < (s.nms kd).length + ns.length))) := fun x z hz => by
    congr 1
    cases hk' : z.1 == kd with
    | false => rfl
    | true =>
      obtain ⟨k, n⟩ := z
      have hk' : k = kd := by simpa using hk'
      subst hk'
      have := (List.getElem?_eq_some_iff.1 (h2 n x hz)).1
      rw [hn]
      simp [this]
  unfold hdLn
  by_cases h0 : ns.length = 0
  · rw [if_pos h0]
    obtain rfl := List.length_eq_zero_iff.1 h0
    show some s = _
    have he : fil N (fun z => P z || z.1 == kd) = fil N P := fil_congr fun x z hz => by
      rw [hP x z hz, hn]
      simp
    rw [he, putZ_id hn, ← hN, ← hb]
  · rw [if_neg h0]
    have hd := decl_fil (N := N) (s := s) (P := P) (P' := fun z => P z || z.1 == kd) hN hk0 (fun e => h0 (by rw [e]; rfl)) hnam (by rw [hn]; simp; omega) (fun j t ht => by rw [hn]; simp; exact h1 j t ht) (fun x n hx ha hb => by rw [hn]; exact h2 n x hx) (fun j _ => h3 _) hP
    have hst : stepT 0 wd ns s = declT (headK wd) ns s := by
      unfold stepT
      rw [if_neg hwd, hb]; rfl
    show (match okO (stepT 0 wd ns s) with | some s' => runW [] s' | none => none) = _
    rw [hst, hk, hd, hn, List.nil_append, hb]
    rfl
theorem good_run (h : Good s C) : ∃ s0, runW (progL (s.nms 118) (s.nms 102) (s.nms 109) (s.nms 116) C) PS.new = some s0 ∧ resAll s0.N s0.bod = .ok C ∧ ∀ k, isK k → s0.nms k = s.nms k := by
  have few := h.pw.few
  have nam := h.pr.nam
  have nf : ∀ k (j : Nat) x, (s.nms k)[j]? = some x → s.N x = some (k, j) := fun k j x hx => h.pr.nf x k j hx
  have nt : ∀ k (j : Nat) x, s.N x = some (k, j) → (s.nms k)[j]? = some x := fun k j x hx => h.pr.nt x k j hx
  have r1 := head_run (N := s.N) (s := PS.new) (P := fun _ => false) (wd := tVar) (kd := 118) (ns := s.nms 118) (by decide) (by decide) (by decide) (by funext x; unfold fil; cases s.N x <;> rfl) rfl rfl (few _) (nam _) (nf _) (nt _) (fun _ => rfl)
  have r2 := head_run (N := s.N) (s := ⟨fil s.N (fun z => false || z.1 == 118), putZ PS.new.nms 118 (s.nms 118), []⟩) (P := fun z => false || z.1 == 118) (wd := tFlag) (kd := 102) (ns := s.nms 102) (by decide) (by decide) (by decide) rfl rfl rfl (few _) (nam _) (nf _) (nt _) (fun _ => rfl)
  have r3 := head_run (N := s.N) (s := ⟨fil s.N (fun z => (false || z.1 == 118) || z.1 == 102), putZ (putZ PS.new.nms 118 (s.nms 118)) 102 (s.nms 102), []⟩) (P := fun z => (false || z.1 == 118) || z.1 == 102) (wd := tLock) (kd := 109) (ns := s.nms 109) (by decide) (by decide) (by decide) rfl rfl rfl (few _) (nam _) (nf _) (nt _) (fun _ => rfl)
  have hP0 : fil s.N (fun z => ((false || z.1 == 118) || z.1 == 102) || z.1 == 109) = fil s.N (Pj 0) := fil_congr fun x z hz => by
    unfold Pj isNb
    simp
  obtain ⟨B, g1, g2, g3⟩ := threads_run (N := s.N) (Nf := fil s.N (Pj (s.nms 116).length)) (M := nmS s) (s := ⟨fil s.N (Pj 0), putZ (putZ (putZ PS.new.nms 118 (s.nms 118)) 102 (s.nms 102)) 109 (s.nms 109), []⟩) (ts := s.nms 116) (C := C) h.code h.len (fun t n hN => fil_some hN (by
      have := (List.getElem?_eq_some_iff.1 (nt 116 n t hN)).1
      simp [Pj, isNb, this])) (few _) (nam _) (nf _) (nt _) rfl rfl rfl (s.nms 116).length (Nat.le_refl _)
  refine ⟨⟨fil s.N (Pj (s.nms 116).length), putZ (putZ (putZ (putZ PS.new.nms 118 (s.nms 118)) 102 (s.nms 102)) 109 (s.nms 109)) 116 (s.nms 116), B⟩, ?_, ?_, fun k hk => ?_⟩
  · unfold progL
    rw [run_append, run_append, run_append, r1]
    show (((runW (hdLn tFlag (s.nms 102)) _).bind _).bind _) = _
    rw [r2]
    show ((runW (hdLn tLock (s.nms 109)) _).bind _) = _
    rw [r3]
    show runW (thrsL (nmS s) (s.nms 116) C (s.nms 116).length) _ = _
    rw [hP0, g1, List.take_length]
  · exact resAll_of B C (by rw [g2, h.len]) g3
  · rcases hk with rfl | rfl | rfl | rfl <;> rfl
theorem mem_lab {tg : List Bool} {k : Nat} {ws : List Tx} {x : Tx} (hk : k ≤ 24) (hw : ws ∈ labL tg k) (hx : x ∈ ws) : CleanW x := by
  unfold labL at hw
  split at hw
  · obtain rfl := List.mem_singleton.1 hw
    obtain rfl := List.mem_singleton.1 hx
    exact clean_lab hk
  · cases hw
theorem mem_ins {N : Tx → Option (Int × Nat)} {M : Int → List Tx} {q : Tx × Tx} {i : In7} (hq : q ∈ shapeT) (hib : IB N M q.1 q.2 i) {x : Tx} (hx : x ∈ insW M i ((partsT i.op).getD [])) : CleanW x := by
  have hps : partsT q.1 = some q.2 := by
    have : ∀ q, q ∈ shapeT → partsT q.1 = some q.2 := by decide
    exact this q hq
  rw [hib.ho, hps] at hx
  have hx : x ∈ i.op :: q.2.map fun c => wordW M i (c.toNat : Int) := hx
  rw [hib.ho] at hx
  rcases List.mem_cons.1 hx with rfl | hx
  · have : ∀ q, q ∈ shapeT → (!q.1.isEmpty && q.1.all fun c => decide (48 ≤ (c.toNat : Int))) = true := by decide
    exact clean_of (this q hq)
  · exact clean_fits hib.fits x hx
theorem good_clean (h : Good s C) : ∀ ws, ws ∈ progL (s.nms 118) (s.nms 102) (s.nms 109) (s.nms 116) C → ∀ x, x ∈ ws → CleanW x := by
  have hd : ∀ (wd : Tx) (k : Int) ws x, CleanW wd → ws ∈ hdLn wd (s.nms k) → x ∈ ws → CleanW x := fun wd k ws x hwd hw hx => by
    unfold hdLn at hw
    split at hw
    · cases hw
    · obtain rfl := List.mem_singleton.1 hw
      rcases List.mem_cons.1 hx with rfl | hx
      · exact hwd
      · exact clean_nam (h.pr.nam k x hx)
  intro ws hw x hx
  unfold progL at hw
  rcases List.mem_append.1 hw with hw | hw
  · rcases List.mem_append.1 hw with hw | hw
    · rcases List.mem_append.1 hw with hw | hw
      · exact hd tVar 118 ws x (clean_of (by decide)) hw hx
      · exact hd tFlag 102 ws x (clean_of (by decide)) hw hx
    · exact hd tLock 109 ws x (clean_of (by decide)) hw hx
  · unfold thrsL at hw
    obtain ⟨j, hj, hw⟩ := List.mem_flatMap.1 hw
    have hj := List.mem_range.1 hj
    obtain ⟨nm, hnm⟩ : ∃ nm, (s.nms 116)[j]? = some nm := ⟨_, List.getElem?_eq_getElem hj⟩
    obtain ⟨c, hc⟩ : ∃ c, C[j]? = some c := ⟨_, List.getElem?_eq_getElem (by rw [h.len]; exact hj)⟩
    have e1 : (s.nms 116).getD j [] = nm := by rw [List.getD_eq_getElem?_getD, hnm]; rfl
    have e2 : C.getD j [] = c := by rw [List.getD_eq_getElem?_getD, hc]; rfl
    rw [e1, e2] at hw
    obtain ⟨k1, k2⟩ := h.code c (List.mem_of_getElem? hc)
    unfold thrLn at hw
    rcases List.mem_append.1 hw with hw | hw
    · rcases List.mem_append.1 hw with hw | hw
      · obtain rfl := List.mem_singleton.1 hw
        rcases List.mem_cons.1 hx with rfl | hx
        · exact clean_of (by decide)
        · obtain rfl := List.mem_singleton.1 hx
          exact clean_nam (h.pr.nam 116 x (List.mem_of_getElem? hnm))
      · unfold preL at hw
        obtain ⟨k, hk, hw⟩ := List.mem_flatMap.1 hw
        have hk := List.mem_range.1 hk
        rcases List.mem_append.1 hw with hw | hw
        · exact mem_lab (by omega) hw hx
        · obtain rfl := List.mem_singleton.1 hw
          have hm : c.getD k zero7 ∈ c := by
            rw [List.getD_eq_getElem?_getD, List.getElem?_eq_getElem hk]
            exact List.getElem_mem _
          obtain ⟨⟨q, hq, hib⟩, -⟩ := k2 _ hm
          exact mem_ins hq hib hx
    · exact mem_lab k1 hw hx
/-- The plain text of a text's program, with or without remarks, blanks and empty lines, tells that program. -/
theorem back_any {t : Tx} (h : parseT t = .ok (s, C)) {T : Tx} (hl : T.length ≤ 3000) (hT : ((splitT 10 T).map wordsT).filter ne1 = ((splitT 10 (printW (s.nms 118) (s.nms 102) (s.nms 109) (s.nms 116) C)).map wordsT).filter ne1) : ∃ s', parseT T = .ok (s', C) ∧ ∀ k, isK k → s'.nms k = s.nms k := by
  have hg := parse_good h
  obtain ⟨s0, r1, r2, r3⟩ := good_run hg
  rw [prog_text, words_text _ (good_clean hg)] at hT
  have hrun : runW (((splitT 10 T).map wordsT).filter ne1) PS.new = some s0 := by
    rw [hT, run_ne, run_append, r1]; rfl
  obtain ⟨s', g1, g2⟩ := parse_words hl hrun r2
  exact ⟨s', g1, fun k hk => by rw [g2]; exact r3 k hk⟩
end
end Go.Proofs.YtlefemndikednaaGreatDoor
