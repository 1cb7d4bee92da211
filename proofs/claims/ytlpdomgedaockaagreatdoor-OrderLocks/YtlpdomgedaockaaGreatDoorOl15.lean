import Derived.Test.YtlpdomgedaockaaGreatDoorOl8
import Derived.Test.YtlpdomgedaockaaGreatDoorOl10
import Derived.Test.YtlpdomgedaockaaGreatDoorOl14
set_option linter.unusedVariables false
set_option linter.unusedSimpArgs false
namespace Go.Proofs.YtlpdomgedaockaaGreatDoor
open Go.RowKit Go.Proofs.Cod
theorem findZ_app (l : List Tx) (t x : Tx) : findZ (l ++ [t]) x = if findZ l x = -1 then (if t = x then (l.length : Int) else -1) else findZ l x := by
  induction l with
  | nil => simp [findZ]
  | cons y l ih =>
    have hge := findZ_ge l x
    rw [List.cons_append]
    unfold findZ
    rw [ih]
    by_cases h1 : y = x
    · simp [h1]
    · simp only [if_neg h1]
      by_cases h2 : findZ l x = -1
      · simp only [h2, if_true]
        by_cases h3 : t = x
        · simp only [h3, if_true, List.length_cons]
          rw [if_neg (by omega)]; omega
        · simp [h3]
      · have h3 : ¬ findZ l x + 1 = -1 := by omega
        simp [h2, h3]
def NOk (N : Tx → Option (Int × Nat)) (G : Int → List Tx) : Prop := ∀ t k n, N t = some (k, n) ↔ isK k ∧ findZ (G k) t = (n : Int)
def hasG (G : Int → List Tx) (t : Tx) : Prop := ∃ k, isK k ∧ findZ (G k) t ≠ -1
theorem NOk.free {N : Tx → Option (Int × Nat)} {G : Int → List Tx} (h : NOk N G) (t : Tx) : N t = none ↔ ¬ hasG G t := by
  constructor
  · rintro e ⟨k, hk, hf⟩
    have hge := findZ_ge (G k) t
    have := (h t k (findZ (G k) t).toNat).2 ⟨hk, by omega⟩
    rw [e] at this; cases this
  · intro e
    cases hN : N t with
    | none => rfl
    | some p =>
      obtain ⟨k, n⟩ := p
      have := (h t k n).1 hN
      exact absurd ⟨k, this.1, by omega⟩ e
theorem NOk.put {N : Tx → Option (Int × Nat)} {G : Int → List Tx} (h : NOk N G) {t : Tx} (hn : N t = none) {kd : Int} (hk : isK kd) : NOk (putT N t (kd, (G kd).length)) (putZ G kd (G kd ++ [t])) := by
  have hno := (h.free t).1 hn
  intro x k n
  by_cases hx : x = t
  · subst hx
    have e1 : putT N x (kd, (G kd).length) x = some (kd, (G kd).length) := by simp [putT]
    rw [e1]
    by_cases e : k = kd
    · subst e
      rw [putZ_same, findZ_app]
      have : findZ (G k) x = -1 := by
        by_cases q : findZ (G k) x = -1
        · exact q
        · exact absurd ⟨k, hk, q⟩ hno
      rw [if_pos this, if_pos rfl]
      simp only [Option.some.injEq, Prod.mk.injEq, true_and]
      exact ⟨fun q => ⟨hk, by omega⟩, fun q => by omega⟩
    · rw [putZ_other _ e]
      constructor
      · intro q
        simp only [Option.some.injEq, Prod.mk.injEq] at q
        exact absurd q.1.symm e
      · rintro ⟨q1, q2⟩
        exact absurd ⟨k, q1, by omega⟩ hno
  · have e1 : putT N t (kd, (G kd).length) x = N x := by simp [putT, hx]
    rw [e1, h x k n]
    by_cases e : k = kd
    · subst e
      have hx' : ¬ t = x := fun e => hx e.symm
      rw [putZ_same, findZ_app]
      by_cases q : findZ (G k) x = -1
      · rw [if_pos q, if_neg hx', q]
      · rw [if_neg q]
    · rw [putZ_other _ e]
def DupG (G : Int → List Tx) (ts : List Tx) (i : Nat) : Prop := hasG G (ts.getD i []) ∨ ∃ j, j < i ∧ ts.getD j [] = ts.getD i []
theorem hasG_put {G : Int → List Tx} {kd : Int} (hk : isK kd) (t x : Tx) : hasG (putZ G kd (G kd ++ [t])) x ↔ hasG G x ∨ t = x := by
  constructor
  · rintro ⟨k, h1, h2⟩
    by_cases e : k = kd
    · subst e
      rw [putZ_same, findZ_app] at h2
      by_cases q : findZ (G k) x = -1
      · rw [if_pos q] at h2
        by_cases q2 : t = x
        · exact .inr q2
        · rw [if_neg q2] at h2; exact absurd rfl h2
      · exact .inl ⟨k, h1, q⟩
    · rw [putZ_other _ e] at h2
      exact .inl ⟨k, h1, h2⟩
  · rintro (⟨k, h1, h2⟩ | rfl)
    · refine ⟨k, h1, ?_⟩
      by_cases e : k = kd
      · subst e
        rw [putZ_same, findZ_app, if_neg h2]; exact h2
      · rw [putZ_other _ e]; exact h2
    · refine ⟨kd, hk, ?_⟩
      rw [putZ_same, findZ_app]
      by_cases q : findZ (G kd) t = -1
      · rw [if_pos q, if_pos rfl]; omega
      · rw [if_neg q]; exact q
theorem dup_cons {G : Int → List Tx} {kd : Int} (hk : isK kd) (t : Tx) (ts : List Tx) (i : Nat) : DupG G (t :: ts) (i + 1) ↔ DupG (putZ G kd (G kd ++ [t])) ts i := by
  unfold DupG
  rw [hasG_put hk]
  have e1 : (t :: ts).getD (i + 1) [] = ts.getD i [] := by simp
  rw [e1]
  constructor
  · rintro (h | ⟨j, hj, e⟩)
    · exact .inl (.inl h)
    · cases j with
      | zero => exact .inl (.inr (by simpa using e))
      | succ j => exact .inr ⟨j, by omega, by simpa using e⟩
  · rintro ((h | h) | ⟨j, hj, e⟩)
    · exact .inl h
    · exact .inr ⟨0, by omega, by simpa using h⟩
    · exact .inr ⟨j + 1, by omega, by simpa using e⟩
theorem dup_zero {G : Int → List Tx} (t : Tx) (ts : List Tx) : DupG G (t :: ts) 0 ↔ hasG G t := by
  unfold DupG
  constructor
  · rintro (h | ⟨j, hj, _⟩)
    · simpa using h
    · omega
  · exact fun h => .inl (by simpa using h)
theorem putZ_put {G : Int → List Tx} {kd : Int} (t : Tx) (ts : List Tx) : putZ (putZ G kd (G kd ++ [t])) kd ((putZ G kd (G kd ++ [t])) kd ++ ts) = putZ G kd (G kd ++ (t :: ts)) := by
  funext k
  by_cases e : k = kd
  · subst e; simp [putZ]
  · simp [putZ, e]
theorem decl_all {kd : Int} (hk : isK kd) : ∀ (ts : List Tx) (G : Int → List Tx) (N : Tx → Option (Int × Nat)), NOk N G →
    ((∃ i, i < ts.length ∧ DupG G ts i) → declAll kd N (G kd) ts = none) ∧ ((∀ i, i < ts.length → ¬ DupG G ts i) → ∃ N', declAll kd N (G kd) ts = some (N', G kd ++ ts) ∧ NOk N' (putZ G kd (G kd ++ ts)))
  | [], G, N, h => by
    refine ⟨?_, fun _ => ⟨N, by simp [declAll], ?_⟩⟩
    · rintro ⟨i, hi, _⟩; simp at hi
    · have e : putZ G kd (G kd ++ []) = G := by
        funext k
        by_cases e : k = kd
        · subst e; simp [putZ]
        · simp [putZ, e]
      rw [e]; exact h
  | t :: ts, G, N, h => by
    cases hN : N t with
    | some p =>
      have hd : declAll kd N (G kd) (t :: ts) = none := by simp [declAll, hN]
      refine ⟨fun _ => hd, fun hall => ?_⟩
      exfalso
      apply hall 0 (by simp)
      rw [dup_zero]
      by_cases q : hasG G t
      · exact q
      · rw [(h.free t).2 q] at hN; cases hN
    | none =>
      have hp := h.put hN hk
      have ih := decl_all hk ts _ _ hp
      rw [putZ_same] at ih
      have hd : declAll kd N (G kd) (t :: ts) = declAll kd (putT N t (kd, (G kd).length)) (G kd ++ [t]) ts := by
        conv => lhs; unfold declAll
        rw [hN]
      have hno := (h.free t).1 hN
      rw [hd]
      refine ⟨?_, fun hall => ?_⟩
      · rintro ⟨i, hi, hdup⟩
        cases i with
        | zero => rw [dup_zero] at hdup; exact absurd hdup hno
        | succ i => exact ih.1 ⟨i, by simpa using hi, (dup_cons hk t ts i).1 hdup⟩
      · obtain ⟨N', h1, h2⟩ := ih.2 (fun i hi hdup => hall (i + 1) (by simpa using hi) ((dup_cons hk t ts i).2 hdup))
        refine ⟨N', by rw [h1]; simp, ?_⟩
        have := putZ_put (G := G) (kd := kd) t ts
        rw [putZ_same] at this
        rw [← this]; exact h2
def getK (P : RP) (k : Int) : List Tx := if k = 116 then P.names else P.get k
def offW (r : RI) : List (Int × Tx) := if formT r.i.op = [116] then [(116, r.word)] else if isL (formT r.i.op) then [(108, r.word)] else []
def piOf (r : RI) : PI := ⟨r.i, r.line, offW r⟩
def labF (l : List (Tx × Nat)) : Tx → Option Nat := fun x => l.foldl (fun a p => if p.1 = x then some p.2 else a) none
def pbOf (th : RTh) : PB := ⟨th.code.map piOf, labF th.labs⟩
structure PL (P : RP) (s : PS) : Prop where
  N : NOk s.N (getK P)
  nms : ∀ k, isK k → s.nms k = getK P k
  bod : s.bod = P.thr.map pbOf
  pos : ∀ th, th ∈ P.thr → ∀ r, r ∈ th.code → 0 ≤ r.i.x ∧ 0 < r.line
  few : ∀ k, isK k → (getK P k).length ≤ 4
  code : ∀ th, th ∈ P.thr → th.code.length ≤ 24
def RP.new : RP := ⟨[], [], [], []⟩
theorem getK_new (k : Int) : getK RP.new k = [] := by simp [getK, RP.names, RP.get, RP.new]
theorem PL.new : PL RP.new PS.new := by
  refine ⟨fun t k n => ?_, fun k _ => ?_, rfl, (fun th h => by cases h), fun k _ => ?_, (fun th h => by cases h)⟩
  · rw [getK_new]
    constructor
    · intro h; cases h
    · rintro ⟨_, h⟩
      simp [findZ] at h
  · rw [getK_new]; rfl
  · rw [getK_new]; simp
theorem isK_of {k : Int} (h : isN k) : isK k := by rcases h with rfl | rfl | rfl <;> simp [isK]
theorem hasP_iff (P : RP) (t : Tx) : hasP P t = true ↔ hasG (getK P) t := by
  have g1 : getK P 118 = P.vs := by simp [getK, RP.get]
  have g2 : getK P 102 = P.fs := by simp [getK, RP.get]
  have g3 : getK P 109 = P.ls := by simp [getK, RP.get]
  have g4 : getK P 116 = P.names := by simp [getK]
  have z1 := findZ_ge P.vs t
  have z2 := findZ_ge P.fs t
  have z3 := findZ_ge P.ls t
  have z4 := findZ_ge P.names t
  unfold hasP hasG
  simp only [Bool.or_eq_true, decide_eq_true_eq]
  constructor
  · rintro (((h | h) | h) | h)
    · exact ⟨118, by simp [isK], by rw [g1]; omega⟩
    · exact ⟨102, by simp [isK], by rw [g2]; omega⟩
    · exact ⟨109, by simp [isK], by rw [g3]; omega⟩
    · exact ⟨116, by simp [isK], by rw [g4]; omega⟩
  · rintro ⟨k, hk, h⟩
    have hk : k = 118 ∨ k = 102 ∨ k = 109 ∨ k = 116 := by simpa [isK] using hk
    rcases hk with rfl | rfl | rfl | rfl
    · rw [g1] at h; exact .inl (.inl (.inl (by omega)))
    · rw [g2] at h; exact .inl (.inl (.inr (by omega)))
    · rw [g3] at h; exact .inl (.inr (by omega))
    · rw [g4] at h; exact .inr (by omega)
theorem dupAt_iff (P : RP) (ts : List Tx) (i : Nat) : DupAt P ts i ↔ DupG (getK P) ts i := by
  unfold DupAt DupG
  rw [hasP_iff]
end Go.Proofs.YtlpdomgedaockaaGreatDoor
namespace Go.Proofs.YtlpdomgedaockaaGreatDoor
open Go.RowKit Go.Proofs.Cod
theorem NOk.congr {N : Tx → Option (Int × Nat)} {G G' : Int → List Tx} (h : NOk N G) (hg : ∀ k, isK k → G' k = G k) : NOk N G' := fun t k n => by
  rw [h t k n]
  constructor
  · rintro ⟨h1, h2⟩; exact ⟨h1, by rw [hg k h1]; exact h2⟩
  · rintro ⟨h1, h2⟩; exact ⟨h1, by rw [hg k h1] at h2; exact h2⟩
theorem put_thr {P : RP} {k : Int} (x : Tx) : (P.put k x).thr = P.thr := by
  unfold RP.put
  split
  · rfl
  · split <;> rfl
theorem puts_thr {k : Int} : ∀ (ts : List Tx) (P : RP), (P.puts k ts).thr = P.thr
  | [], P => rfl
  | x :: ts, P => by
    show ((P.put k x).puts k ts).thr = _
    rw [puts_thr ts, put_thr]
theorem put_other {P : RP} {k k' : Int} (hk : isN k) (hk' : isN k') (hn : k' ≠ k) (x : Tx) : (P.put k x).get k' = P.get k' := by
  rcases hk with rfl | rfl | rfl <;> rcases hk' with rfl | rfl | rfl <;> simp_all [RP.put, RP.get]
theorem puts_other {k k' : Int} (hk : isN k) (hk' : isN k') (hn : k' ≠ k) : ∀ (ts : List Tx) (P : RP), (P.puts k ts).get k' = P.get k'
  | [], P => rfl
  | x :: ts, P => by
    show ((P.put k x).puts k ts).get k' = _
    rw [puts_other hk hk' hn ts, put_other hk hk' hn]
theorem getK_N {P : RP} {k : Int} (h : isN k) : getK P k = P.get k := by rcases h with rfl | rfl | rfl <;> simp [getK]
theorem isK_cases {k : Int} (h : isK k) : isN k ∨ k = 116 := by
  rcases h with h | h | h | h
  · exact .inl (.inl h)
  · exact .inl (.inr (.inl h))
  · exact .inl (.inr (.inr h))
  · exact .inr h
theorem puts_getK {P : RP} {k k' : Int} (hk : isN k) (hk' : isK k') (ts : List Tx) : getK (P.puts k ts) k' = putZ (getK P) k (getK P k ++ ts) k' := by
  rcases isK_cases hk' with h | h
  · by_cases e : k' = k
    · subst e
      rw [putZ_same, getK_N hk, getK_N hk, puts_get hk]
    · rw [putZ_other _ e, getK_N h, getK_N h, puts_other hk h e]
  · subst h
    rw [putZ_other _ (by rcases hk with rfl | rfl | rfl <;> decide)]
    show (P.puts k ts).names = P.names
    unfold RP.names
    rw [puts_thr]
theorem kind_head {f : Tx} (hf : isDeclW f = true) : headK f = kindW f := by
  unfold isDeclW at hf
  simp only [Bool.or_eq_true, beq_iff_eq] at hf
  rcases hf with (rfl | rfl) | rfl <;> decide
theorem head_none {f : Tx} (hf : isDeclW f = false) : headK f = 0 := by
  obtain ⟨h1, h2, h3⟩ := notDecl hf
  unfold headK
  rw [if_neg (fun e => h1 e.symm), if_neg (fun e => h2 e.symm), if_neg (fun e => h3 e.symm)]
section
variable {P P' : RP} {s : PS} {f : Tx} {ts : List Tx} {e : Int}
def Both (o : Except Int PS) (e : Int) (P' : RP) : Prop := (e ≠ 0 ∧ o = .error e) ∨ (e = 0 ∧ ∃ s', o = .ok s' ∧ PL P' s')
theorem pl_decl (h : PL P s) (hf : isDeclW f = true) (hR : RDecl P f ts e P') : Both (declT (headK f) ts s) e P' := by
  rw [kind_head hf]
  unfold RDecl at hR
  have hN := kindW_ok f
  have hK := isK_of hN
  generalize kindW f = kd at hR hN hK ⊢
  have h0 : kd ≠ 0 := by rcases hN with rfl | rfl | rfl <;> decide
  rcases hR with ⟨h1, rfl⟩ | ⟨⟨h1, h2⟩, hR⟩
  · left
    refine ⟨by decide, ?_⟩
    unfold declT
    rw [if_pos (.inr h1)]
  · have hd := decl_all hK ts (getK P) s.N h.N
    have hu : declT kd ts s = match declAll kd s.N (getK P kd) ts with
        | none => .error 3
        | some p => if 4 < p.2.length then .error 4 else .ok { s with N := p.1, nms := putZ s.nms kd p.2 } := by
      unfold declT
      rw [if_neg (by simp [h0, h1, h2]), h.nms kd hK]
      cases declAll kd s.N (getK P kd) ts <;> rfl
    rw [hu]
    rcases hR with ⟨⟨i, hi, hdup⟩, rfl⟩ | ⟨hno, rfl, hR⟩
    · left
      refine ⟨by decide, ?_⟩
      rw [hd.1 ⟨i, hi, (dupAt_iff P ts i).1 hdup⟩]
    · obtain ⟨N', d1, d2⟩ := hd.2 (fun i hi hdup => hno i hi ((dupAt_iff P ts i).2 hdup))
      rw [d1]
      show Both (if 4 < (getK P kd ++ ts).length then _ else _) e _
      have hg : ∀ k, isK k → (getK (P.puts kd ts) k) = putZ (getK P) kd (getK P kd ++ ts) k := fun k hk => puts_getK hN hk ts
      have hf' : ∀ k, isK k → k ≠ kd → (getK (P.puts kd ts) k).length ≤ 4 := fun k hk hn => by
        rw [hg k hk, putZ_other _ hn]; exact h.few k hk
      have hkd : getK (P.puts kd ts) kd = getK P kd ++ ts := by rw [hg kd hK, putZ_same]
      have g1 : getK (P.puts kd ts) 118 = (P.puts kd ts).vs := by simp [getK, RP.get]
      have g2 : getK (P.puts kd ts) 102 = (P.puts kd ts).fs := by simp [getK, RP.get]
      have g3 : getK (P.puts kd ts) 109 = (P.puts kd ts).ls := by simp [getK, RP.get]
      have a1 := hf' 118 (by simp [isK])
      have a2 := hf' 102 (by simp [isK])
      have a3 := hf' 109 (by simp [isK])
      rw [g1] at a1; rw [g2] at a2; rw [g3] at a3
      have hall : 4 < (P.puts kd ts).vs.length ∨ 4 < (P.puts kd ts).fs.length ∨ 4 < (P.puts kd ts).ls.length ↔ 4 < (getK P kd ++ ts).length := by
        rw [← hkd]
        rcases hN with rfl | rfl | rfl
        · rw [g1]; have a2 := a2 (by decide); have a3 := a3 (by decide); omega
        · rw [g2]; have a1 := a1 (by decide); have a3 := a3 (by decide); omega
        · rw [g3]; have a2 := a2 (by decide); have a1 := a1 (by decide); omega
      rcases hR with ⟨h4, rfl⟩ | ⟨h4, rfl⟩
      · left
        exact ⟨by decide, by rw [if_pos (hall.1 h4)]⟩
      · right
        have hle : ¬ 4 < (getK P kd ++ ts).length := fun q => by have := hall.2 q; omega
        refine ⟨rfl, _, by rw [if_neg hle], ?_⟩
        refine ⟨d2.congr hg, fun k hk => ?_, ?_, ?_, fun k hk => ?_, ?_⟩
        · show putZ s.nms kd (getK P kd ++ ts) k = _
          rw [hg k hk]
          by_cases e : k = kd
          · subst e; rw [putZ_same, putZ_same]
          · rw [putZ_other _ e, putZ_other _ e]; exact h.nms k hk
        · rw [puts_thr]; exact h.bod
        · rw [puts_thr]; exact h.pos
        · by_cases e : k = kd
          · subst e; rw [hkd]; omega
          · exact hf' k hk e
        · rw [puts_thr]; exact h.code
theorem pl_thread (h : PL P s) (hR : RThread P ts e P') : Both (if ts.length = 1 then (declT 116 ts s).map addBody else .error 2) e P' := by
  have hK : isK 116 := by simp [isK]
  rcases hR with ⟨h1, rfl⟩ | ⟨⟨h1, h2⟩, hR⟩
  · left
    refine ⟨by decide, ?_⟩
    by_cases q : ts.length = 1
    · rw [if_pos q]
      rcases h1 with h1 | h1
      · exact absurd q h1
      · match ts, q, h1 with
        | [t], _, h1 =>
          unfold declT
          rw [if_pos (by simpa using h1)]; rfl
    · rw [if_neg q]
  · rw [if_pos h1]
    match ts, h1, h2, hR with
    | [t], _, h2, hR =>
      have h2 : isNam t = true := h2
      have hR : (hasP P t = true ∧ e = 3) ∨ (hasP P t = false ∧ ((P.thr.length = 4 ∧ e = 4) ∨ (P.thr.length ≠ 4 ∧ e = 0 ∧ P' = { P with thr := P.thr ++ [⟨t, [], []⟩] }))) := hR
      have hu : declT 116 [t] s = match declAll 116 s.N (getK P 116) [t] with
          | none => .error 3
          | some p => if 4 < p.2.length then .error 4 else .ok { s with N := p.1, nms := putZ s.nms 116 p.2 } := by
        unfold declT
        rw [if_neg (by simp [h2]), h.nms 116 hK]
        cases declAll 116 s.N (getK P 116) [t] <;> rfl
      rw [hu]
      have g4 : getK P 116 = P.names := by simp [getK]
      have hlen : (getK P 116).length = P.thr.length := by rw [g4]; simp [RP.names]
      have hfew := h.few 116 hK
      rcases hR with ⟨hh, rfl⟩ | ⟨hh, hR⟩
      · left
        refine ⟨by decide, ?_⟩
        cases hN : s.N t with
        | none => exact absurd ((hasP_iff P t).1 hh) ((h.N.free t).1 hN)
        | some p => simp only [declAll, hN]; rfl
      · have hN : s.N t = none := (h.N.free t).2 (fun q => by rw [(hasP_iff P t).2 q] at hh; cases hh)
        have hd : declAll 116 s.N (getK P 116) [t] = some (putT s.N t (116, (getK P 116).length), getK P 116 ++ [t]) := by simp [declAll, hN]
        rw [hd]
        show Both (Except.map addBody (if 4 < (getK P 116 ++ [t]).length then _ else _)) e _
        rcases hR with ⟨h4, rfl⟩ | ⟨h4, rfl, rfl⟩
        · left
          refine ⟨by decide, ?_⟩
          rw [if_pos (by rw [List.length_append, hlen, h4]; simp)]; rfl
        · right
          refine ⟨rfl, _, by rw [if_neg (by rw [List.length_append, hlen]; simp; omega)]; rfl, ?_⟩
          have hg : ∀ k, isK k → getK { P with thr := P.thr ++ [⟨t, [], []⟩] } k = putZ (getK P) 116 (getK P 116 ++ [t]) k := fun k hk => by
            rcases isK_cases hk with hk | hk
            · rw [putZ_other _ (by rcases hk with rfl | rfl | rfl <;> decide), getK_N hk, getK_N hk]; rfl
            · subst hk
              rw [putZ_same, g4]; simp [getK, RP.names]
          refine ⟨(h.N.put hN hK).congr hg, fun k hk => ?_, ?_, ?_, fun k hk => ?_, ?_⟩
          · show putZ s.nms 116 (getK P 116 ++ [t]) k = _
            rw [hg k hk]
            by_cases e : k = 116
            · subst e; rw [putZ_same, putZ_same]
            · rw [putZ_other _ e, putZ_other _ e]; exact h.nms k hk
          · show s.bod ++ [_] = (P.thr ++ [_]).map pbOf
            rw [h.bod, List.map_append]; rfl
          · intro th hth r hr
            rcases List.mem_append.1 hth with q | q
            · exact h.pos th q r hr
            · obtain rfl := List.mem_singleton.1 q
              cases hr
          · rw [hg k hk]
            by_cases e : k = 116
            · subst e; rw [putZ_same, List.length_append, hlen]; simp; omega
            · rw [putZ_other _ e]; exact h.few k hk
          · intro th hth
            rcases List.mem_append.1 hth with q | q
            · exact h.code th q
            · obtain rfl := List.mem_singleton.1 q
              simp
theorem labF_app (l : List (Tx × Nat)) (x : Tx) (n : Nat) : labF (l ++ [(x, n)]) = putT (labF l) x n := by
  funext y
  unfold labF putT
  rw [List.foldl_append]
  show (if x = y then some n else _) = _
  by_cases q : x = y
  · rw [if_pos q, if_pos q.symm]
  · rw [if_neg q, if_neg (fun q' => q q'.symm)]
theorem labF_none (l : List (Tx × Nat)) (x : Tx) : labF l x = none ↔ ∀ i, i < l.length → (l.map Prod.fst).getD i [] ≠ x := by
  rcases List.eq_nil_or_concat l with q | ⟨l0, p, q⟩
  · subst q; simp [labF]
  · rw [List.concat_eq_append] at q
    have ih := labF_none l0 x
    subst q
    obtain ⟨y, n⟩ := p
    rw [labF_app]
    have hg : ∀ i, i < l0.length → ((l0 ++ [(y, n)]).map Prod.fst).getD i [] = (l0.map Prod.fst).getD i [] := fun i hi => by
      rw [List.getD_eq_getElem?_getD, List.getD_eq_getElem?_getD, List.map_append, List.getElem?_append_left (by simpa using hi)]
    have hl : ((l0 ++ [(y, n)]).map Prod.fst).getD l0.length [] = y := by
      rw [List.getD_eq_getElem?_getD, List.map_append, List.getElem?_append_right (by simp)]; simp
    unfold putT
    by_cases q : x = y
    · rw [if_pos q]
      constructor
      · intro q2; cases q2
      · intro q2; exact absurd (hl.trans q.symm) (q2 l0.length (by simp))
    · rw [if_neg q, ih]
      constructor
      · intro q2 i hi
        by_cases q3 : i < l0.length
        · rw [hg i q3]; exact q2 i q3
        · have : i = l0.length := by simp at hi; omega
          subst this
          rw [hl]; exact fun q4 => q q4.symm
      · intro q2 i hi
        rw [← hg i hi]; exact q2 i (by simp; omega)
termination_by l.length
decreasing_by subst q; simp
theorem last_set {α β : Type} (g : α → β) {l : List α} {k : Nat} (hk : l.length = k + 1) (x : α) : (l.map g).dropLast ++ [g x] = (l.set k x).map g := by
  rcases List.eq_nil_or_concat l with q | ⟨l0, p, q⟩
  · subst q; simp at hk
  · rw [List.concat_eq_append] at q
    subst q
    have : k = l0.length := by simp at hk; omega
    subst this
    rw [List.set_append_right _ _ (Nat.le_refl _)]
    simp
theorem last_is {α β : Type} (g : α → β) {l : List α} {k : Nat} {x : α} (hk : l.length = k + 1) (hx : l[k]? = some x) : (l.map g).getLast? = some (g x) := by
  rw [List.getLast?_map, List.getLast?_eq_getElem?, hk]
  simp [hx]
theorem names_set {P : RP} {k : Nat} {th th' : RTh} (hth : P.thr[k]? = some th) (hn : th'.name = th.name) : ({ P with thr := P.thr.set k th' } : RP).names = P.names := by
  unfold RP.names
  apply List.ext_getElem?
  intro m
  rw [List.getElem?_map, List.getElem?_map]
  by_cases q : m = k
  · subst q
    show Option.map _ ((P.thr.set m th')[m]?) = _
    rw [List.getElem?_set_self (List.getElem?_eq_some_iff.1 hth).1, hth]
    simp [hn]
  · show Option.map _ ((P.thr.set k th')[m]?) = _
    rw [List.getElem?_set_ne (fun q' => q q'.symm)]
theorem PL.setTh (h : PL P s) {k : Nat} {th th' : RTh} (hk : P.thr.length = k + 1) (hth : P.thr[k]? = some th) (hn : th'.name = th.name) (hp : ∀ r, r ∈ th'.code → 0 ≤ r.i.x ∧ 0 < r.line) (hc : th'.code.length ≤ 24) : PL { P with thr := P.thr.set k th' } (setLast s (pbOf th')) := by
  have hg : ∀ k', getK { P with thr := P.thr.set k th' } k' = getK P k' := fun k' => by
    unfold getK
    rw [names_set hth hn]; rfl
  refine ⟨h.N.congr fun k' _ => hg k', fun k' hk' => by rw [hg]; exact h.nms k' hk', ?_, ?_, fun k' hk' => by rw [hg]; exact h.few k' hk', ?_⟩
  · show s.bod.dropLast ++ [pbOf th'] = (P.thr.set k th').map pbOf
    rw [h.bod]; exact last_set pbOf hk th'
  · intro th2 h2 r hr
    rcases List.mem_or_eq_of_mem_set h2 with q | q
    · exact h.pos th2 q r hr
    · subst q; exact hp r hr
  · intro th2 h2
    rcases List.mem_or_eq_of_mem_set h2 with q | q
    · exact h.code th2 q
    · subst q; exact hc
theorem pl_label (h : PL P s) {k : Nat} {th : RTh} {x : Tx} (hk : P.thr.length = k + 1) (hth : P.thr[k]? = some th) (hx : f = x ++ [58]) (hR : RLabel P k th x e P') : Both (markT f s (pbOf th)) e P' := by
  have hd : f.dropLast = x := by rw [hx]; simp
  unfold markT
  rw [hd]
  have hmem := List.mem_of_getElem? hth
  rcases hR with ⟨h1, rfl⟩ | ⟨h1, hR⟩
  · exact .inl ⟨by decide, by rw [if_pos h1]⟩
  · rw [if_neg (by rw [h1]; simp)]
    show Both (match labF th.labs x with | some _ => _ | none => _) e P'
    rcases hR with ⟨⟨i, hi, q⟩, rfl⟩ | ⟨hno, rfl, rfl⟩
    · left
      refine ⟨by decide, ?_⟩
      cases hl : labF th.labs x with
      | none => exact absurd q ((labF_none _ _).1 hl i hi)
      | some n => rfl
    · right
      refine ⟨rfl, _, by rw [(labF_none _ _).2 hno], ?_⟩
      have := h.setTh hk hth (th' := { th with labs := th.labs ++ [(x, th.code.length)] }) rfl (h.pos th hmem) (h.code th hmem)
      have e1 : ({ pbOf th with labs := putT (pbOf th).labs x (pbOf th).code.length } : PB) = pbOf { th with labs := th.labs ++ [(x, th.code.length)] } := by
        unfold pbOf
        show PB.mk _ (putT (labF th.labs) x (th.code.map piOf).length) = PB.mk _ (labF (th.labs ++ [(x, th.code.length)]))
        rw [labF_app, List.length_map]
      rw [e1]; exact this
end
end Go.Proofs.YtlpdomgedaockaaGreatDoor
namespace Go.Proofs.YtlpdomgedaockaaGreatDoor
open Go.RowKit Go.Proofs.Cod
def letters : List UInt8 := [114, 97, 98, 118, 102, 109, 116, 108]
theorem letters_or {c : UInt8} (h : c ∈ letters) : c = 114 ∨ c = 97 ∨ c = 98 ∨ c = 118 ∨ c = 102 ∨ c = 109 ∨ c = 116 ∨ c = 108 := by simpa [letters] using h
theorem shape_letters {p : Tx × Tx} (h : p ∈ shapeT) : ∀ c, c ∈ p.2 → c ∈ letters := by
  have : ∀ p, p ∈ shapeT → p.2.all (fun c => letters.contains c) = true := by decide
  intro c hc
  have := List.all_eq_true.1 (this p h) c hc
  simpa using this
section
variable {P : RP} {N : Tx → Option (Int × Nat)}
theorem step_fit {c : UInt8} (hc : c ∈ letters) (t : Tx) : rFit (letX c) t = fitsP t (c.toNat : Int) := by
  rcases letters_or hc with rfl | rfl | rfl | rfl | rfl | rfl | rfl | rfl <;> simp [rFit, letX, fitsP, argB]
theorem fill_name (h : NOk N (getK P)) {k : Int} (hk : isK k) (i : In7) (t : Tx) : ((match N t with | some (k', n) => if k' = k then some { i with x := (n : Int) } else none | none => none) = (none : Option In7) ∧ findZ (getK P k) t < 0) ∨ ((match N t with | some (k', n) => if k' = k then some { i with x := (n : Int) } else none | none => none) = some { i with x := findZ (getK P k) t } ∧ 0 ≤ findZ (getK P k) t) := by
  by_cases q : findZ (getK P k) t = -1
  · left
    refine ⟨?_, by omega⟩
    cases hN : N t with
    | none => rfl
    | some p =>
      obtain ⟨k', n⟩ := p
      show (if k' = k then _ else _) = _
      by_cases e : k' = k
      · subst e
        have := ((h t k' n).1 hN).2
        omega
      · rw [if_neg e]
  · right
    have hge := findZ_ge (getK P k) t
    refine ⟨?_, by omega⟩
    have hN := (h t k (findZ (getK P k) t).toNat).2 ⟨hk, by omega⟩
    rw [hN]
    show (if k = k then _ else _) = _
    rw [if_pos rfl, Int.toNat_of_nonneg (by omega)]
theorem step_fill (h : NOk N (getK P)) {c : UInt8} (hc : c ∈ letters) (r : RI) (hx : 0 ≤ r.i.x) (t : Tx) : (fillOne N r.i ((c.toNat : Int), t) = none ∧ (rSet P r (letX c) t).i.x < 0) ∨ (fillOne N r.i ((c.toNat : Int), t) = some (rSet P r (letX c) t).i ∧ 0 ≤ (rSet P r (letX c) t).i.x) := by
  rcases letters_or hc with rfl | rfl | rfl | rfl | rfl | rfl | rfl | rfl
  · exact .inr ⟨rfl, hx⟩
  · exact .inr ⟨rfl, hx⟩
  · exact .inr ⟨rfl, hx⟩
  · exact fill_name (P := P) h (k := 118) (by simp [isK]) r.i t
  · exact fill_name (P := P) h (k := 102) (by simp [isK]) r.i t
  · exact fill_name (P := P) h (k := 109) (by simp [isK]) r.i t
  · exact .inr ⟨rfl, hx⟩
  · exact .inr ⟨rfl, hx⟩
def wordOf : Tx → List (UInt8 × Tx) → Tx
  | x, [] => x
  | x, p :: l => wordOf (if p.1 = 114 ∨ p.1 = 97 ∨ p.1 = 98 then x else p.2) l
theorem set_word (r : RI) {c : UInt8} (hc : c ∈ letters) (t : Tx) : (rSet P r (letX c) t).word = (if letX c = 114 ∨ letX c = 97 ∨ letX c = 98 then r.word else t) ∧ (rSet P r (letX c) t).line = r.line ∧ (rSet P r (letX c) t).i.op = r.i.op := by
  rcases letters_or hc with rfl | rfl | rfl | rfl | rfl | rfl | rfl | rfl <;> exact ⟨rfl, rfl, rfl⟩
theorem go_five : ∀ (ps : Tx) (ts : List Tx) (r : RI), ts.length = ps.length → (∀ c, c ∈ ps → c ∈ letters) → (fitsT ts ps = false ∧ rGo P r 5 ((ps.map letX).zip ts) = none) ∨ (fitsT ts ps = true ∧ ∃ r', rGo P r 5 ((ps.map letX).zip ts) = some (r', 5))
  | [], [], r, _, _ => .inr ⟨rfl, r, rfl⟩
  | [], _ :: _, _, h, _ => by simp at h
  | _ :: _, [], _, h, _ => by simp at h
  | c :: ps, t :: ts, r, hl, hc => by
    have hc0 := hc c (by simp)
    rw [List.map_cons, List.zip_cons_cons, rGo_cons, step_fit hc0]
    show (fitsP t (c.toNat : Int) && fitsT ts ps) = false ∧ _ ∨ (fitsP t (c.toNat : Int) && fitsT ts ps) = true ∧ _
    cases hf : fitsP t (c.toNat : Int) with
    | false => exact .inl ⟨rfl, by simp⟩
    | true =>
      rw [if_pos rfl, Bool.true_and]
      have e5 : (if (rSet P r (letX c) t).i.x < 0 then (5 : Int) else 5) = 5 := by split <;> rfl
      rw [e5]
      exact go_five ps ts _ (by simpa using hl) (fun c' h' => hc c' (by simp [h']))
theorem go_zero (h : NOk N (getK P)) : ∀ (ps : Tx) (ts : List Tx) (r : RI), ts.length = ps.length → (∀ c, c ∈ ps → c ∈ letters) → 0 ≤ r.i.x → (fitsT ts ps = false ∧ rGo P r 0 ((ps.map letX).zip ts) = none) ∨ (fitsT ts ps = true ∧ ((fillAll N r.i (zipP ps ts) = none ∧ ∃ r', rGo P r 0 ((ps.map letX).zip ts) = some (r', 5)) ∨ ∃ r', fillAll N r.i (zipP ps ts) = some r'.i ∧ rGo P r 0 ((ps.map letX).zip ts) = some (r', 0) ∧ 0 ≤ r'.i.x ∧ r'.line = r.line ∧ r'.i.op = r.i.op ∧ r'.word = wordOf r.word ((ps.map letX).zip ts)))
  | [], [], r, _, _, hx => .inr ⟨rfl, .inr ⟨r, rfl, rfl, hx, rfl, rfl, rfl⟩⟩
  | [], _ :: _, _, h, _, _ => by simp at h
  | _ :: _, [], _, h, _, _ => by simp at h
  | c :: ps, t :: ts, r, hl, hc, hx => by
    have hc0 := hc c (by simp)
    have hl' : ts.length = ps.length := by simpa using hl
    have hc' : ∀ c', c' ∈ ps → c' ∈ letters := fun c' h' => hc c' (by simp [h'])
    have hz : zipP (c :: ps) (t :: ts) = ((c.toNat : Int), t) :: zipP ps ts := rfl
    rw [List.map_cons, List.zip_cons_cons, rGo_cons, step_fit hc0, hz]
    show (fitsP t (c.toNat : Int) && fitsT ts ps) = false ∧ _ ∨ (fitsP t (c.toNat : Int) && fitsT ts ps) = true ∧ _
    cases hf : fitsP t (c.toNat : Int) with
    | false => exact .inl ⟨rfl, by simp⟩
    | true =>
      rw [if_pos rfl, Bool.true_and]
      have hfa : ∀ o, fillOne N r.i ((c.toNat : Int), t) = o → fillAll N r.i (((c.toNat : Int), t) :: zipP ps ts) = match o with | some i' => fillAll N i' (zipP ps ts) | none => none := fun o ho => by
        conv => lhs; unfold fillAll
        rw [ho]
        cases o <;> rfl
      rcases step_fill h hc0 r hx t with ⟨h1, h2⟩ | ⟨h1, h2⟩
      · rw [if_pos h2, hfa _ h1]
        rcases go_five (P := P) ps ts (rSet P r (letX c) t) hl' hc' with ⟨g1, g2⟩ | ⟨g1, g2⟩
        · exact .inl ⟨g1, g2⟩
        · exact .inr ⟨g1, .inl ⟨rfl, g2⟩⟩
      · rw [if_neg (by omega), hfa _ h1]
        obtain ⟨s1, s2, s3⟩ := set_word (P := P) r hc0 t
        rcases go_zero h ps ts (rSet P r (letX c) t) hl' hc' h2 with ⟨g1, g2⟩ | ⟨g1, g2 | ⟨r', g2, g3, g4, g5, g6, g7⟩⟩
        · exact .inl ⟨g1, g2⟩
        · exact .inr ⟨g1, .inl g2⟩
        · refine .inr ⟨g1, .inr ⟨r', g2, g3, g4, g5.trans s2, g6.trans s3, ?_⟩⟩
          rw [g7, s1]; rfl
end
theorem len2 {l : List Tx} (h : l.length = 2) : ∃ a b, l = [a, b] := by
  rcases l with _ | ⟨a, _ | ⟨b, _ | ⟨c, l⟩⟩⟩
  · simp at h
  · simp at h
  · exact ⟨a, b, rfl⟩
  · simp at h
theorem len3 {l : List Tx} (h : l.length = 3) : ∃ a b c, l = [a, b, c] := by
  rcases l with _ | ⟨a, _ | ⟨b, _ | ⟨c, _ | ⟨d, l⟩⟩⟩⟩
  · simp at h
  · simp at h
  · simp at h
  · exact ⟨a, b, c, rfl⟩
  · simp at h
theorem off_word {f : Tx} {p : Tx × Tx} (hp : p ∈ shapeT) (hf : f = p.1) (hs : partsT f = some p.2) {ts : List Tx} (hl : ts.length = p.2.length) {r : RI} (ho : r.i.op = f) (hw : r.word = wordOf [] ((p.2.map letX).zip ts)) : offP (zipP p.2 ts) = offW r := by
  have hform : formT r.i.op = p.2.map letX := by rw [ho]; unfold formT; rw [hs]
  unfold offW
  rw [hform, hw]
  clear hw hform ho hs hf
  simp only [shapeT, List.mem_cons, List.not_mem_nil, or_false] at hp
  rcases hp with rfl | rfl | rfl | rfl | rfl | rfl | rfl | rfl | rfl | rfl | rfl | rfl | rfl | rfl | rfl | rfl | rfl <;>
    (first
      | (obtain rfl := List.length_eq_zero_iff.1 hl; rfl)
      | (obtain ⟨a, rfl⟩ := List.length_eq_one_iff.1 hl; rfl)
      | (obtain ⟨a, b, rfl⟩ := len2 hl; rfl)
      | (obtain ⟨a, b, c, rfl⟩ := len3 hl; rfl))
section
variable {P P' : RP} {s : PS} {f : Tx} {ts : List Tx} {e : Int}
theorem pl_ins (h : PL P s) {k : Nat} {th : RTh} {line : Int} (hline : 0 < line) (hk : P.thr.length = k + 1) (hth : P.thr[k]? = some th) (hR : RIns P k th line f ts e P') : Both (instrT line f ts s (pbOf th)) e P' := by
  have hmem := List.mem_of_getElem? hth
  unfold RIns at hR
  unfold instrT
  rcases parts_cases f with ⟨p, hp, hf, hs⟩ | ⟨hn, -⟩
  · rw [hs]
    have hform : formT f = p.2.map letX := by unfold formT; rw [hs]
    show Both (if fitsT ts p.2 = false then _ else _) e P'
    by_cases hl : ts.length = p.2.length
    · have hi : rInstrT P line f ts = rGo P (ri0 f line) 0 ((p.2.map letX).zip ts) := by
        unfold rInstrT
        rw [hform, if_neg (by simp [hs, hl])]
      rw [hi] at hR
      rcases go_zero h.N p.2 ts (ri0 f line) hl (shape_letters hp) (Int.le_refl _) with ⟨g1, g2⟩ | ⟨g1, g2⟩
      · rw [g2] at hR
        have hR : e = 2 := hR
        exact .inl ⟨by rw [hR]; decide, by rw [if_pos g1, hR]⟩
      · rw [if_neg (by rw [g1]; simp)]
        have hlen : (pbOf th).code.length = th.code.length := by simp [pbOf]
        rw [hlen]
        have hle := h.code th hmem
        rcases g2 with ⟨g2, r', g3⟩ | ⟨r', g2, g3, g4, g5, g6, g7⟩
        · rw [g3] at hR
          have hR : ((5 : Int) = 2 ∧ e = 2) ∨ ((5 : Int) ≠ 2 ∧ ((th.code.length = 24 ∧ e = 4) ∨ (th.code.length ≠ 24 ∧ e = 5 ∧ P' = { P with thr := P.thr.set k { th with code := th.code ++ [r'] } }))) := hR
          rcases hR with ⟨q, _⟩ | ⟨_, hR⟩
          · omega
          · rcases hR with ⟨q1, rfl⟩ | ⟨q1, rfl, _⟩
            · exact .inl ⟨by decide, by rw [if_pos (by omega)]⟩
            · refine .inl ⟨by decide, ?_⟩
              rw [if_neg (by omega)]
              show (match fillAll s.N (newIns f) (zipP p.2 ts) with | none => _ | some i => _) = _
              have g2 : fillAll s.N (newIns f) (zipP p.2 ts) = none := g2
              rw [g2]
        · rw [g3] at hR
          have hR : ((0 : Int) = 2 ∧ e = 2) ∨ ((0 : Int) ≠ 2 ∧ ((th.code.length = 24 ∧ e = 4) ∨ (th.code.length ≠ 24 ∧ e = 0 ∧ P' = { P with thr := P.thr.set k { th with code := th.code ++ [r'] } }))) := hR
          rcases hR with ⟨q, _⟩ | ⟨_, hR⟩
          · omega
          · rcases hR with ⟨q1, rfl⟩ | ⟨q1, rfl, rfl⟩
            · exact .inl ⟨by decide, by rw [if_pos (by omega)]⟩
            · right
              have g2 : fillAll s.N (newIns f) (zipP p.2 ts) = some r'.i := g2
              refine ⟨rfl, _, by rw [if_neg (by omega), g2], ?_⟩
              have hoff := off_word hp hf hs hl g6 g7
              have := h.setTh hk hth (th' := { th with code := th.code ++ [r'] }) rfl (fun r hr => by
                rcases List.mem_append.1 hr with q | q
                · exact h.pos th hmem r q
                · obtain rfl := List.mem_singleton.1 q
                  exact ⟨g4, by rw [g5]; exact hline⟩) (by simp; omega)
              have e1 : ({ pbOf th with code := (pbOf th).code ++ [⟨r'.i, line, offP (zipP p.2 ts)⟩] } : PB) = pbOf { th with code := th.code ++ [r'] } := by
                unfold pbOf
                have g5 : r'.line = line := g5
                show PB.mk (th.code.map piOf ++ _) _ = PB.mk ((th.code ++ [r']).map piOf) _
                rw [List.map_append, hoff]
                show PB.mk (_ ++ [(⟨r'.i, line, offW r'⟩ : PI)]) _ = PB.mk (_ ++ [(⟨r'.i, r'.line, offW r'⟩ : PI)]) _
                rw [g5]
              rw [e1]; exact this
    · have hi : rInstrT P line f ts = none := by
        unfold rInstrT
        rw [hform, if_pos (.inr (by simpa using hl))]
      rw [hi] at hR
      have hR : e = 2 := hR
      exact .inl ⟨by rw [hR]; decide, by rw [if_pos (fitsT_len hl), hR]⟩
  · have hi : rInstrT P line f ts = none := by
      unfold rInstrT
      rw [if_pos (.inl hn)]
    rw [hi] at hR
    have hR : e = 2 := hR
    rw [hn]
    exact .inl ⟨by rw [hR]; decide, by rw [hR]⟩
theorem labGo_F (x : Tx) (l : List (Tx × Nat)) : labGo x l (-1) = match labF l x with | some n => (n : Int) | none => -1 := by
  rcases List.eq_nil_or_concat l with q | ⟨l0, p, q⟩
  · subst q; rfl
  · rw [List.concat_eq_append] at q
    have ih := labGo_F x l0
    subst q
    obtain ⟨y, n⟩ := p
    rw [labF_app]
    unfold labGo at ih ⊢
    rw [List.foldl_append, ih]
    unfold putT
    show (if y = x then (n : Int) else _) = _
    by_cases q : y = x
    · rw [if_pos q, if_pos q.symm]
    · rw [if_neg q, if_neg (fun q' => q q'.symm)]
termination_by l.length
decreasing_by subst q; simp
theorem res_one (h : PL P s) {th : RTh} {r : RI} (hr : 0 ≤ r.i.x) : resOff s.N (labF th.labs) r.i (offW r) = if rX P th r < 0 then none else some (rsI P th r).i := by
  unfold offW
  by_cases h1 : formT r.i.op = [116]
  · have hx : rX P th r = findZ (getK P 116) r.word := by unfold rX; rw [if_pos h1]; simp [getK]
    have hi : (rsI P th r).i = { r.i with x := findZ (getK P 116) r.word } := by unfold rsI RI.at; rw [hx]
    rw [if_pos h1, hx, hi]
    have hl : lookOff s.N (labF th.labs) (116, r.word) = match s.N r.word with | some p => if p.1 = 116 then some p.2 else none | none => none := rfl
    by_cases q : findZ (getK P 116) r.word = -1
    · rw [if_pos (by omega)]
      have hl2 : lookOff s.N (labF th.labs) (116, r.word) = none := by
        rw [hl]
        cases hN : s.N r.word with
        | none => rfl
        | some p =>
          obtain ⟨k', n⟩ := p
          show (if k' = 116 then _ else _) = _
          by_cases e : k' = 116
          · subst e
            have := ((h.N r.word 116 n).1 hN).2
            omega
          · rw [if_neg e]
      unfold resOff
      rw [hl2]
    · have hge := findZ_ge (getK P 116) r.word
      have hN := (h.N r.word 116 (findZ (getK P 116) r.word).toNat).2 ⟨by simp [isK], by omega⟩
      have hl2 : lookOff s.N (labF th.labs) (116, r.word) = some (findZ (getK P 116) r.word).toNat := by
        rw [hl, hN]
        show (if (116 : Int) = 116 then _ else _) = _
        rw [if_pos rfl]
      rw [if_neg (by omega)]
      unfold resOff
      rw [hl2]
      show resOff _ _ { r.i with x := (((findZ (getK P 116) r.word).toNat : Nat) : Int) } [] = _
      rw [Int.toNat_of_nonneg (by omega)]; rfl
  · rw [if_neg h1]
    by_cases h2 : isL (formT r.i.op) = true
    · have hx : rX P th r = match labF th.labs r.word with | some n => (n : Int) | none => -1 := by unfold rX; rw [if_neg h1, if_pos h2, labGo_F]
      have hl : lookOff s.N (labF th.labs) (108, r.word) = labF th.labs r.word := by
        show (match (labF th.labs r.word).map fun n => ((108 : Int), n) with | some p => if p.1 = 108 then some p.2 else none | none => none) = _
        cases labF th.labs r.word with
        | none => rfl
        | some n => rfl
      rw [if_pos h2]
      unfold resOff
      rw [hl]
      cases hq : labF th.labs r.word with
      | none =>
        rw [hq] at hx
        have hx : rX P th r = -1 := hx
        rw [if_pos (by omega)]
      | some n =>
        rw [hq] at hx
        have hx : rX P th r = (n : Int) := hx
        rw [if_neg (by omega)]
        show resOff _ _ { r.i with x := (n : Int) } [] = _
        unfold rsI RI.at
        rw [hx]; rfl
    · have hx : rX P th r = r.i.x := by unfold rX; rw [if_neg h1, if_neg h2]
      rw [if_neg h2, hx, if_neg (by omega)]
      unfold rsI RI.at
      rw [hx]; rfl
theorem res_code (h : PL P s) {th : RTh} : ∀ (l : List RI), (∀ r, r ∈ l → 0 ≤ r.i.x) → resCode s.N (labF th.labs) (l.map piOf) = match badC P th l with | some e => .error e | none => .ok (l.map fun r => (rsI P th r).i)
  | [], _ => rfl
  | r :: l, hr => by
    have ih := res_code h (th := th) l (fun r' h' => hr r' (by simp [h']))
    have h1 := res_one h (th := th) (hr r (by simp))
    rw [List.map_cons]
    unfold resCode
    have hp : resOff s.N (labF th.labs) (piOf r).i (piOf r).off = if rX P th r < 0 then none else some (rsI P th r).i := h1
    rw [hp]
    unfold badC at ih ⊢
    rw [List.find?_cons]
    by_cases q : rX P th r < 0
    · rw [if_pos q, decide_eq_true q]; rfl
    · rw [if_neg q, decide_eq_false q]
      show Except.map _ (resCode s.N (labF th.labs) (l.map piOf)) = _
      rw [ih]
      dsimp only
      cases (l.find? fun r => decide (rX P th r < 0)) with
      | none => rfl
      | some x => rfl
theorem res_all (h : PL P s) : ∀ (l : List RTh), (∀ th, th ∈ l → ∀ r, r ∈ th.code → 0 ≤ r.i.x) → resAll s.N (l.map pbOf) = match badT P l with | some e => .error e | none => .ok (l.map fun th => (rsT P th).code.map RI.i)
  | [], _ => rfl
  | th :: l, hr => by
    have ih := res_all h l (fun th' h' => hr th' (by simp [h']))
    have h1 := res_code h (th := th) th.code (hr th (by simp))
    rw [List.map_cons]
    unfold resAll
    have hp : resCode s.N (pbOf th).labs (pbOf th).code = match badC P th th.code with | some e => .error e | none => .ok (th.code.map fun r => (rsI P th r).i) := h1
    rw [hp]
    unfold badT at ih ⊢
    rw [List.findSome?_cons]
    cases hb : badC P th th.code with
    | some e => rfl
    | none =>
      show Except.map _ (resAll s.N (l.map pbOf)) = _
      rw [ih]
      dsimp only
      cases l.findSome? (fun th => badC P th th.code) with
      | some e => rfl
      | none =>
        show Except.ok _ = Except.ok _
        congr 1
        rw [List.map_cons]
        have e1 : (rsT P th).code.map RI.i = th.code.map fun r => (rsI P th r).i := by
          show (th.code.map (rsI P th)).map RI.i = _
          rw [List.map_map]; rfl
        rw [e1]
end
end Go.Proofs.YtlpdomgedaockaaGreatDoor
