import Derived.Test.YtlpdomgedaockaaGreatDoorOl26
import Derived.Test.YtlpdomgedaockaaGreatDoorOl18
import Derived.Test.YtlpdomgedaockaaGreatDoorOl14
import Derived.Test.YtlpdomgedaockaaGreatDoorOl20
import Derived.Test.YtlpdomgedaockaaGreatDoorOl22
import Derived.Test.YtlpdomgedaockaaGreatDoorOl24
set_option linter.unusedVariables false
set_option linter.unusedSimpArgs false
namespace Go.Proofs.YtlpdomgedaockaaGreatDoor
open Go.RowKit Go.Shelf Go.Proofs.Cod
def PIr (N : Tx → Option (Int × Nat)) (p : PI) : Prop := ∃ q ts, q ∈ shapeT ∧ fitsT ts q.2 = true ∧ fillAll N (newIns q.1) (zipP q.2 ts) = some p.i ∧ p.off = offP (zipP q.2 ts)
def NLe (N N' : Tx → Option (Int × Nat)) : Prop := ∀ t z, N t = some z → N' t = some z
theorem fillOne_mono {N N' : Tx → Option (Int × Nat)} (h : NLe N N') {i i' : In7} {p : Int × Tx} (e : fillOne N i p = some i') : fillOne N' i p = some i' := by
  unfold fillOne at e ⊢
  split
  · rename_i h1; rw [if_pos h1] at e; exact e
  · rename_i h1; rw [if_neg h1] at e
    split
    · rename_i h1; rw [if_pos h1] at e; exact e
    · rename_i h1; rw [if_neg h1] at e
      split
      · rename_i h1; rw [if_pos h1] at e; exact e
      · rename_i h1; rw [if_neg h1] at e
        split
        · rename_i h1; rw [if_pos h1] at e; exact e
        · rename_i h1; rw [if_neg h1] at e
          split
          · rename_i h1; rw [if_pos h1] at e; exact e
          · rename_i h1; rw [if_neg h1] at e
            cases hN : N p.2 with
            | none => rw [hN] at e; cases e
            | some z => rw [hN] at e; rw [h _ _ hN]; exact e
theorem fillAll_mono {N N' : Tx → Option (Int × Nat)} (h : NLe N N') : ∀ (l : List (Int × Tx)) (i i' : In7), fillAll N i l = some i' → fillAll N' i l = some i'
  | [], i, i', e => e
  | p :: l, i, i', e => by
    unfold fillAll at e ⊢
    cases h1 : fillOne N i p with
    | none => rw [h1] at e; cases e
    | some i1 =>
      rw [h1] at e
      rw [fillOne_mono h h1]
      exact fillAll_mono h l i1 i' e
theorem PIr.mono {N N' : Tx → Option (Int × Nat)} {p : PI} (h : PIr N p) (hN : NLe N N') : PIr N' p := by
  obtain ⟨q, ts, h1, h2, h3, h4⟩ := h
  exact ⟨q, ts, h1, h2, fillAll_mono hN _ _ _ h3, h4⟩
structure PR (s : PS) : Prop where
  nam : ∀ k x, x ∈ s.nms k → isNam x = true
  nt : ∀ t k n, s.N t = some (k, n) → (s.nms k)[n]? = some t
  nf : ∀ t k n, (s.nms k)[n]? = some t → s.N t = some (k, n)
  bod : ∀ b, b ∈ s.bod → ∀ p, p ∈ b.code → PIr s.N p
theorem PR.new : PR PS.new := ⟨(fun k x h => by cases h), (fun t k n h => by cases h), (fun t k n h => by cases h), (fun b h => by cases h)⟩
def lsK (kd : Int) (l : List Tx) (M : Int → List Tx) (k : Int) : List Tx := if k = kd then l else M k
theorem declAll_pr {kd : Int} {M : Int → List Tx} : ∀ (ts : List Tx) (N : Tx → Option (Int × Nat)) (l : List Tx) (p : (Tx → Option (Int × Nat)) × List Tx), (∀ t k n, N t = some (k, n) → (lsK kd l M k)[n]? = some t) → (∀ t k n, (lsK kd l M k)[n]? = some t → N t = some (k, n)) → declAll kd N l ts = some p → (∀ t k n, p.1 t = some (k, n) → (lsK kd p.2 M k)[n]? = some t) ∧ (∀ t k n, (lsK kd p.2 M k)[n]? = some t → p.1 t = some (k, n)) ∧ NLe N p.1
  | [], N, l, p, h1, h2, e => by
    have e : some (N, l) = some p := e
    cases e
    exact ⟨h1, h2, fun _ _ h => h⟩
  | t :: ts, N, l, p, h1, h2, e => by
    cases hN : N t with
    | some q => simp [declAll, hN] at e
    | none =>
      have e : declAll kd (putT N t (kd, l.length)) (l ++ [t]) ts = some p := by
        simp only [declAll, hN] at e; exact e
      have hput : ∀ x, x ≠ t → putT N t (kd, l.length) x = N x := fun x hx => by unfold putT; rw [if_neg hx]
      have hputt : putT N t (kd, l.length) t = some (kd, l.length) := by unfold putT; rw [if_pos rfl]
      have q1 : ∀ x k n, putT N t (kd, l.length) x = some (k, n) → (lsK kd (l ++ [t]) M k)[n]? = some x := fun x k n hx => by
        by_cases hxt : x = t
        · subst hxt
          rw [hputt] at hx
          cases hx
          unfold lsK
          rw [if_pos rfl]; simp
        · rw [hput x hxt] at hx
          have := h1 x k n hx
          unfold lsK at this ⊢
          split
          · rename_i hk
            rw [if_pos hk] at this
            rw [List.getElem?_append_left (List.getElem?_eq_some_iff.1 this).1]; exact this
          · rename_i hk
            rw [if_neg hk] at this; exact this
      have q2 : ∀ x k n, (lsK kd (l ++ [t]) M k)[n]? = some x → putT N t (kd, l.length) x = some (k, n) := fun x k n hx => by
        have hold : (lsK kd l M k)[n]? = some x → putT N t (kd, l.length) x = some (k, n) := fun h => by
          have h' := h2 x k n h
          rw [hput x (fun e => by rw [e, hN] at h'; cases h')]; exact h'
        by_cases hk : k = kd
        · subst hk
          unfold lsK at hx hold
          rw [if_pos rfl] at hx hold
          by_cases hn : n < l.length
          · rw [List.getElem?_append_left hn] at hx
            exact hold hx
          · rw [List.getElem?_append_right (by omega)] at hx
            have hn0 : n - l.length = 0 := by
              have := (List.getElem?_eq_some_iff.1 hx).1
              simp at this; omega
            rw [hn0] at hx
            have hx : some t = some x := hx
            cases hx
            rw [hputt, show n = l.length by omega]
        · refine hold ?_
          unfold lsK at hx ⊢
          rw [if_neg hk] at hx ⊢; exact hx
      obtain ⟨g1, g2, g3⟩ := declAll_pr (M := M) ts _ _ p q1 q2 e
      refine ⟨g1, g2, fun x z hx => g3 x z ?_⟩
      rw [hput x (fun e => by rw [e, hN] at hx; cases hx)]; exact hx
section
variable {s s' : PS}
theorem lsK_self (s : PS) (kd : Int) : lsK kd (s.nms kd) s.nms = s.nms := by
  funext k
  unfold lsK
  split
  · rename_i h; rw [h]
  · rfl
theorem decl_pr {kd : Int} {ts : List Tx} (h : PR s) (e : declT kd ts s = .ok s') : PR s' ∧ s'.bod = s.bod ∧ NLe s.N s'.N := by
  unfold declT at e
  split at e
  · cases e
  · rename_i hc
    split at e
    · cases e
    · rename_i p hp
      split at e
      · cases e
      · cases e
        have hlen := declAll_len hp
        obtain ⟨g1, g2, g3⟩ := declAll_pr (M := s.nms) ts s.N (s.nms kd) p (by rw [lsK_self]; exact h.nt) (by rw [lsK_self]; exact h.nf) hp
        refine ⟨⟨fun k x hx => ?_, g1, g2, fun b hb p' hp' => (h.bod b hb p' hp').mono g3⟩, rfl, g3⟩
        have hx : x ∈ putZ s.nms kd p.2 k := hx
        by_cases hk : k = kd
        · subst hk
          rw [putZ_same, hlen] at hx
          rcases List.mem_append.1 hx with hx | hx
          · exact h.nam k x hx
          · have hall : ts.all isNam = true := by
              cases hb : ts.all isNam with
              | true => rfl
              | false => exact absurd (.inr (.inr hb)) hc
            exact List.all_eq_true.1 hall x hx
        · rw [putZ_other _ hk] at hx
          exact h.nam k x hx
theorem set_pr (h : PR s) {b' : PB} (hb' : ∀ p, p ∈ b'.code → PIr s.N p) : PR (setLast s b') := by
  refine ⟨h.nam, h.nt, h.nf, fun x hx => ?_⟩
  have hx : x ∈ s.bod.dropLast ++ [b'] := hx
  rcases List.mem_append.1 hx with hx | hx
  · exact h.bod x (List.dropLast_subset _ hx)
  · obtain rfl := List.mem_singleton.1 hx
    exact hb'
theorem instr_pr {line : Int} {f : Tx} {ts : List Tx} {b : PB} (h : PR s) (hb : s.bod.getLast? = some b) (e : instrT line f ts s b = .ok s') : PR s' := by
  unfold instrT at e
  split at e
  · cases e
  · rename_i ps hps
    split at e
    · cases e
    · rename_i hf
      split at e
      · cases e
      · split at e
        · cases e
        · rename_i i hi
          cases e
          have hft : fitsT ts ps = true := by
            cases hb2 : fitsT ts ps with
            | true => rfl
            | false => exact absurd hb2 hf
          rcases parts_cases f with ⟨q, hq, hq1, hq2⟩ | ⟨hn, -⟩
          · rw [hps] at hq2
            cases hq2
            refine set_pr h fun p hp => ?_
            have hp : p ∈ b.code ++ [⟨i, line, offP (zipP q.2 ts)⟩] := hp
            rcases List.mem_append.1 hp with hp | hp
            · exact h.bod b (List.mem_of_getLast? hb) p hp
            · obtain rfl := List.mem_singleton.1 hp
              rw [hq1] at hi
              exact ⟨q, ts, hq, hft, hi, rfl⟩
          · rw [hps] at hn; cases hn
theorem step_pr {line : Int} {f : Tx} {ts : List Tx} (h : PR s) (e : stepT line f ts s = .ok s') : PR s' := by
  unfold stepT at e
  split at e
  · split at e
    · cases hd : declT 116 ts s with
      | error x => rw [hd] at e; cases e
      | ok s1 =>
        rw [hd] at e
        cases e
        obtain ⟨d1, -, -⟩ := decl_pr h hd
        refine ⟨d1.nam, d1.nt, d1.nf, fun b hb => ?_⟩
        have hb : b ∈ s1.bod ++ [⟨[], fun _ => none⟩] := hb
        rcases List.mem_append.1 hb with hb | hb
        · exact d1.bod b hb
        · obtain rfl := List.mem_singleton.1 hb
          exact fun p hp => by cases hp
    · cases e
  · split at e
    · exact (decl_pr h e).1
    · rename_i b hb
      split at e
      · unfold markT at e
        split at e
        · cases e
        · split at e
          · cases e
          · cases e
            exact set_pr h (h.bod b (List.mem_of_getLast? hb))
      · exact instr_pr h hb e
theorem lines_pr : ∀ (ls : List Tx) (n : Int) (s s' : PS), PR s → linesT ls n s = .ok s' → PR s'
  | [], _, s, s', h, e => by
    have e : Except.ok s = Except.ok s' := e
    cases e; exact h
  | l :: ls, n, s, s', h, e => by
    unfold linesT at e
    cases hl : lineT (n + 1) l s with
    | error x => rw [hl] at e; cases e
    | ok s1 =>
      rw [hl] at e
      refine lines_pr ls (n + 1) s1 s' ?_ e
      unfold lineT at hl
      split at hl
      · cases hl; exact h
      · exact step_pr h hl
end
end Go.Proofs.YtlpdomgedaockaaGreatDoor
namespace Go.Proofs.YtlpdomgedaockaaGreatDoor
open Go.RowKit Go.Proofs.Cod
theorem sm2_new (f : Tx) : sm2 (newIns f) := by unfold sm2 argB4 newIns; simp
theorem arg_b4 {t : Tx} (h : (isReg t || isNum t) = true) : argB4 (isReg t) (argN t : Int) := by
  have h1 : argN t < 1000 ∧ (isReg t = true → argN t < 4) := by
    unfold argN
    by_cases hr : isReg t = true
    · rw [if_pos hr]
      have := reg_small hr
      exact ⟨by omega, fun _ => by omega⟩
    · rw [if_neg hr]
      have hn : isNum t = true := by simpa [hr] using h
      unfold isNum at hn
      simp only [Bool.and_eq_true, decide_eq_true_eq] at hn
      have := num_small hn.2
      have h3 : 10 ^ t.length ≤ 10 ^ 3 := Nat.pow_le_pow_right (by omega) hn.1.2
      exact ⟨by omega, fun e => absurd e hr⟩
  refine ⟨by omega, by omega, fun e => by have := h1.2 e; omega⟩
section
variable {N : Tx → Option (Int × Nat)}
theorem fill_nm2 {i i' : In7} {t : Tx} {c : Int} (hi : sm2 i) (h : (match N t with | some (k, n) => if k = c then some { i with x := (n : Int) } else none | none => none) = some i') : sm2 i' := by
  cases hNt : N t with
  | none => rw [hNt] at h; cases h
  | some q =>
    obtain ⟨k, n⟩ := q
    rw [hNt] at h
    have h : (if k = c then some { i with x := (n : Int) } else none) = some i' := h
    by_cases hk : k = c
    · rw [if_pos hk] at h
      cases h
      exact hi
    · rw [if_neg hk] at h; cases h
theorem fillOne_sm2 {i i' : In7} {c : UInt8} {t : Tx} (hc : c ∈ letters) (hi : sm2 i) (hp : fitsP t (c.toNat : Int) = true) (h : fillOne N i ((c.toNat : Int), t) = some i') : sm2 i' := by
  rcases letters_or hc with rfl | rfl | rfl | rfl | rfl | rfl | rfl | rfl
  · have h : some { i with r := (regN t : Int) } = some i' := h
    cases h
    have hr : isReg t = true := hp
    have := reg_small hr
    exact ⟨⟨by show (0 : Int) ≤ (regN t : Int); omega, by show (regN t : Int) < 4; omega⟩, hi.2⟩
  · have h : some { i with aR := isReg t, aN := (argN t : Int) } = some i' := h
    cases h
    exact ⟨hi.1, arg_b4 hp, hi.2.2⟩
  · have h : some { i with bR := isReg t, bN := (argN t : Int) } = some i' := h
    cases h
    exact ⟨hi.1, hi.2.1, arg_b4 hp⟩
  · exact fill_nm2 (c := 118) hi h
  · exact fill_nm2 (c := 102) hi h
  · exact fill_nm2 (c := 109) hi h
  · have h : some i = some i' := h
    cases h
    exact hi
  · have h : some i = some i' := h
    cases h
    exact hi
theorem fillAll_sm2 : ∀ (ps : Tx) (ts : List Tx) (i i' : In7), (∀ c, c ∈ ps → c ∈ letters) → fitsT ts ps = true → sm2 i → fillAll N i (zipP ps ts) = some i' → sm2 i'
  | [], [], i, i', _, _, hi, h => by
    have h : some i = some i' := h
    cases h
    exact hi
  | [], _ :: _, _, _, _, h, _, _ => by cases h
  | _ :: _, [], _, _, _, h, _, _ => by cases h
  | c :: ps, t :: ts, i, i', hc, hf, hi, h => by
    have hf : (fitsP t (c.toNat : Int) && fitsT ts ps) = true := hf
    rw [Bool.and_eq_true] at hf
    have hz : zipP (c :: ps) (t :: ts) = ((c.toNat : Int), t) :: zipP ps ts := rfl
    rw [hz] at h
    cases h1 : fillOne N i ((c.toNat : Int), t) with
    | none =>
      unfold fillAll at h
      rw [h1] at h; cases h
    | some i1 =>
      have h : fillAll N i1 (zipP ps ts) = some i' := by
        unfold fillAll at h
        rw [h1] at h; exact h
      exact fillAll_sm2 ps ts i1 i' (fun c' h' => hc c' (by simp [h'])) hf.2 (fillOne_sm2 (hc c (by simp)) hi hf.1 h1) h
end
section
variable {s : PS}
theorem res_fit (h : PW s) (hr : PR s) {b : PB} (hb : b ∈ s.bod) {p : PI} (hp : p ∈ b.code) {i : In7} (he : resOff s.N b.labs p.i p.off = some i) : InsX (s.nms 118).length (s.nms 102).length (s.nms 109).length (s.nms 116).length b.code.length i := by
  obtain ⟨b1, b2, b3⟩ := h.bod b hb
  obtain ⟨q, ts, hq, hft, hfill, hoff⟩ := hr.bod b hb p hp
  have htl : ts.length = q.2.length := by
    by_cases hh : ts.length = q.2.length
    · exact hh
    · rw [fitsT_len hh] at hft; cases hft
  have hP := shape_parts hq htl
  have hs2 := fillAll_sm2 q.2 ts (newIns q.1) p.i (shape_letters hq) hft (sm2_new q.1) hfill
  obtain ⟨g1, g2, g3, g4⟩ := fillAll_sm (len := fun k => (s.nms k).length) h.nlt h.few q.2 ts (newIns q.1) p.i (shape_letters hq) hft (sm_new q.1) hfill
  have hop : p.i.op = q.1 := g2
  have key : ∃ x : Int, i = { p.i with x := x } ∧ 0 ≤ x ∧ ((116 : UInt8) ∈ q.2 → x < (s.nms 116).length) ∧ ((108 : UInt8) ∈ q.2 → x ≤ b.code.length) ∧ ((116 : UInt8) ∉ q.2 → (108 : UInt8) ∉ q.2 → x = p.i.x) := by
    by_cases ht : (116 : UInt8) ∈ q.2
    · obtain ⟨w, hw⟩ := hP.t ht
      have hl : (108 : UInt8) ∉ q.2 := by
        have : ∀ q, q ∈ shapeT → (116 : UInt8) ∈ q.2 → (108 : UInt8) ∉ q.2 := by decide
        exact this q hq ht
      rw [hoff, hw] at he
      unfold resOff at he
      cases hlk : lookOff s.N b.labs (116, w) with
      | none => rw [hlk] at he; cases he
      | some n =>
        rw [hlk] at he
        have he : some { p.i with x := (n : Int) } = some i := he
        cases he
        have hn : n < (s.nms 116).length := by
          have hlk : (match s.N w with | some p => if p.1 = 116 then some p.2 else none | none => none) = some n := hlk
          cases hN : s.N w with
          | none => rw [hN] at hlk; cases hlk
          | some z =>
            obtain ⟨k, m⟩ := z
            rw [hN] at hlk
            have hlk : (if k = 116 then some m else none) = some n := hlk
            by_cases hk : k = 116
            · subst hk
              rw [if_pos rfl] at hlk
              cases hlk
              exact h.nlt w 116 n hN
            · rw [if_neg hk] at hlk; cases hlk
        exact ⟨n, rfl, by omega, fun _ => by omega, fun e => absurd e hl, fun e => absurd ht e⟩
    · by_cases hl : (108 : UInt8) ∈ q.2
      · obtain ⟨w, hw⟩ := hP.l hl
        rw [hoff, hw] at he
        unfold resOff at he
        cases hlk : lookOff s.N b.labs (108, w) with
        | none => rw [hlk] at he; cases he
        | some n =>
          rw [hlk] at he
          have he : some { p.i with x := (n : Int) } = some i := he
          cases he
          have hn : n ≤ b.code.length := by
            have hlk : (match (b.labs w).map fun n => ((108 : Int), n) with | some p => if p.1 = 108 then some p.2 else none | none => none) = some n := hlk
            cases hN : b.labs w with
            | none => rw [hN] at hlk; cases hlk
            | some z =>
              rw [hN] at hlk
              have hlk : some z = some n := hlk
              cases hlk
              exact b2 w n hN
          exact ⟨n, rfl, by omega, fun e => absurd e ht, fun _ => by omega, fun _ e => absurd hl e⟩
      · rw [hoff, hP.o ht hl] at he
        have he : some p.i = some i := he
        cases he
        exact ⟨p.i.x, rfl, g1.2.2.2.1, fun e => absurd e ht, fun e => absurd e hl, fun _ _ => rfl⟩
  obtain ⟨x, rfl, hx0, hx1, hx2, hx3⟩ := key
  have nb : ∀ (k : UInt8), isNb (k.toNat : Int) = true → k ∈ q.2 → x < (s.nms (k.toNat : Int)).length := fun k hk hm => by
    have hn := hP.n k hm hk
    have := g4 _ hn.1
    rw [hx3 hn.2.1 hn.2.2]; exact this.2
  exact ⟨hs2, hx0, q, hq, hop, nb 118 (by decide), nb 102 (by decide), nb 109 (by decide), hx1, hx2⟩
theorem resCode_fit (h : PW s) (hr : PR s) {b : PB} (hb : b ∈ s.bod) : ∀ (l : List PI) (c : List In7), (∀ p, p ∈ l → p ∈ b.code) → resCode s.N b.labs l = .ok c → c.length = l.length ∧ ∀ i, i ∈ c → InsX (s.nms 118).length (s.nms 102).length (s.nms 109).length (s.nms 116).length b.code.length i
  | [], c, _, e => by
    have e : Except.ok [] = Except.ok c := e
    cases e
    exact ⟨rfl, fun i hi => by cases hi⟩
  | p :: l, c, hl, e => by
    unfold resCode at e
    cases hq : resOff s.N b.labs p.i p.off with
    | none => rw [hq] at e; cases e
    | some i =>
      rw [hq] at e
      cases hc : resCode s.N b.labs l with
      | error x => rw [hc] at e; cases e
      | ok c' =>
        rw [hc] at e
        cases e
        obtain ⟨h1, h2⟩ := resCode_fit h hr hb l c' (fun p' h' => hl p' (by simp [h'])) hc
        refine ⟨by simp [h1], fun j hj => ?_⟩
        rcases List.mem_cons.1 hj with rfl | hj
        · exact res_fit h hr hb (hl p (by simp)) hq
        · exact h2 j hj
theorem resAll_fit (h : PW s) (hr : PR s) : ∀ (l : List PB) (C : List (List In7)), (∀ b, b ∈ l → b ∈ s.bod) → resAll s.N l = .ok C → C.length = l.length ∧ ∀ c, c ∈ C → c.length ≤ 24 ∧ ∀ i, i ∈ c → InsX (s.nms 118).length (s.nms 102).length (s.nms 109).length (s.nms 116).length c.length i
  | [], C, _, e => by
    have e : Except.ok [] = Except.ok C := e
    cases e
    exact ⟨rfl, fun c hc => by cases hc⟩
  | b :: l, C, hl, e => by
    unfold resAll at e
    cases hq : resCode s.N b.labs b.code with
    | error x => rw [hq] at e; cases e
    | ok c0 =>
      rw [hq] at e
      cases hc : resAll s.N l with
      | error x => rw [hc] at e; cases e
      | ok C' =>
        rw [hc] at e
        cases e
        have hb := hl b (by simp)
        obtain ⟨g1, g2⟩ := resCode_fit h hr hb b.code c0 (fun _ h' => h') hq
        obtain ⟨h1, h2⟩ := resAll_fit h hr l C' (fun b' h' => hl b' (by simp [h'])) hc
        refine ⟨by simp [h1], fun c hcm => ?_⟩
        rcases List.mem_cons.1 hcm with rfl | hcm
        · rw [g1]
          exact ⟨(h.bod b hb).1, g2⟩
        · exact h2 c hcm
end
theorem parse_fit {t : Tx} {s : PS} {C : List (List In7)} (h : parseT t = .ok (s, C)) : ProgB (s.nms 118) (s.nms 102) (s.nms 109) (s.nms 116) C := by
  unfold parseT at h
  split at h
  · cases h
  · unfold parseL at h
    split at h
    · cases h
    · rename_i s0 hs
      split at h
      · cases h
      · rename_i C0 hC
        cases h
        have hw := lines_pw _ _ _ _ PW.new hs
        have hr := lines_pr _ _ _ _ PR.new hs
        obtain ⟨h1, h2⟩ := resAll_fit hw hr s.bod C (fun _ h' => h') hC
        exact ⟨hw.few _, hw.few _, hw.few _, hw.few _, hw.nm8 _, hw.nm8 _, hw.nm8 _, hw.nm8 _, by rw [h1, hw.thr], h2⟩
end Go.Proofs.YtlpdomgedaockaaGreatDoor
namespace Go.Proofs.YtlpdomgedaockaaGreatDoor
open Go.RowKit Go.Shelf Go.Proofs.Cod
theorem getD_len8 {l : List Tx} (h : ∀ x, x ∈ l → x.length ≤ 8) (k : Nat) : (l.getD k []).length ≤ 8 := by
  by_cases e : k < l.length
  · exact h _ (getD_mem e)
  · rw [List.getD_eq_getElem?_getD, List.getElem?_eq_none (by omega)]; decide
theorem fit_of {t : Tx} {s : PS} {C : List (List In7)} {L : List (Tx × Value)} (h : parseT t = .ok (s, C)) (hL : L.map Prod.fst = s.nms 116) : NewB (s.nms 118) (s.nms 102) (s.nms 109) L C ∧ PFit4 (pdOf (s.nms 118) (s.nms 102) (s.nms 109) L C) ∧ Nm8 (pdOf (s.nms 118) (s.nms 102) (s.nms 109) L C) := by
  have q := parse_fit h
  have hl : L.length = (s.nms 116).length := by rw [← hL, List.length_map]
  have hc : C.length = L.length := q.len.trans hl.symm
  refine ⟨⟨q.v, q.f, q.l, by rw [hl]; exact q.t, fun c hc => (q.code c hc).1⟩, ⟨⟨by show C.length ≤ 4; have := q.t; omega, fun c hc => ?_⟩, q.v, q.f, q.l, by show (L.map Prod.fst).length = C.length; rw [List.length_map]; exact hc.symm⟩, ⟨getD_len8 q.v8, getD_len8 q.f8, getD_len8 q.l8, by show ∀ k, ((L.map Prod.fst).getD k []).length ≤ 8; rw [hL]; exact getD_len8 q.t8⟩⟩
  have := q.code c hc
  rw [← q.len] at this
  exact this
end Go.Proofs.YtlpdomgedaockaaGreatDoor
namespace Go.Proofs.YtlpdomgedaockaaGreatDoor
open Go.RowKit Go.Shelf Go.Proofs.Cod
section
variable {w w' : World} {b B0 base : Nat}
set_option maxRecDepth 100000 in
set_option maxHeartbeats 800000 in
theorem run_any {vV fV lV thV : Value} {vs fs ls : List Tx} {L : List (Tx × Value)} {C : List (List In7)} (hp : ProgW w base vV fV lV thV vs fs ls L C) (hb : NewB vs fs ls L C) (hf : PFit4 (pdOf vs fs ls L C)) (hN : Nm8 (pdOf vs fs ls L C)) (ht : Tabs w B0) (hB0 : B0 ≤ w.heap.size) {a : Option Addr} {n cap : Nat} {l : List Int} (hn : l.length = n) (hl : Is w a l) (hn1 : n < 1048576) :
    Calls Tryz.prog 6 #[.agg #[vV, fV, lV, thV], .slice a n cap] w fun e w' => ∃ v, e = .returned (.tuple #[v, .string (bs (showM (pdOf vs fs ls L C) (playM false C (newM vs.length fs.length ls.length L.length) l).1))]) ∧ w'.ownsRow w.heap.size 49 4 v (playM false C (newM vs.length fs.length ls.length L.length) l).2.length ((playM false C (newM vs.length fs.length ls.length L.length) l).2.flatMap evL) ∧ Below w.heap.size w w' := by
  subst hn
  obtain ⟨va, vc, hv⟩ := owns_len hp.v
  obtain ⟨fa, fc, hfv⟩ := owns_len hp.f
  obtain ⟨la, lc, hlv⟩ := owns_len hp.l
  obtain ⟨ta, tc, hth⟩ := owns_len hp.t
  subst hv hfv hlv hth
  have hCL : C.length = L.length := hp.len
  have hB1 : Below w.heap.size w (w.alloc (.cells #[.slice va vs.length vc, .slice fa fs.length fc, .slice la ls.length lc, .slice ta L.length tc] 26)) := (Below.refl _ _).alloc (Nat.le_refl _) _
  have hA := new_any (hp.below hB1) hb
  have hok0 : MOkP (pdOf vs fs ls L C) (newM vs.length fs.length ls.length L.length) := by
    have := newM_ok vs.length fs.length ls.length C
    rw [hCL] at this
    exact this
  have hpl : ∀ i, i ≤ l.length → (playM false C (newM vs.length fs.length ls.length L.length) (l.take i)).2.length ≤ i := fun i _ => by
    have : ∀ (r : List Int) (x : MS × List Ev), (r.foldl (plM false C) x).2.length ≤ x.2.length + r.length := by
      intro r
      induction r with
      | nil => intro x; exact Nat.le_refl _
      | cons t r ih =>
        intro x
        have := ih (plM false C x t)
        have h2 : (plM false C x t).2.length ≤ x.2.length + 1 := by
          rw [pl_trn]; dsimp only; split
          · simp
          · omega
        rw [List.foldl_cons, List.length_cons]
        omega
    have q := this (l.take i) (newM vs.length fs.length ls.length L.length, [])
    have e : (l.take i).length ≤ i := by rw [List.length_take]; omega
    exact Nat.le_trans q (by simp only [List.length_nil]; omega)
  obtain ⟨s0, hs0⟩ : ∃ s0, newM vs.length fs.length ls.length L.length = s0 := ⟨_, rfl⟩
  rw [hs0] at hA hok0 hpl ⊢
  obtain ⟨p, hpd⟩ : ∃ p, pdOf vs fs ls L C = p := ⟨_, rfl⟩
  have hpC : p.C = C := by rw [← hpd]; rfl
  rw [hpd] at hA hok0 hf hN ⊢
  rw [← hpC] at hpl ⊢
  have HK := hide (⟨hf, hN, ht, hl, hok0, hB1, hpl⟩ : _ ∧ _ ∧ _ ∧ _ ∧ _ ∧ _ ∧ _)
  clear hp hb hf hN ht hl hok0 hB1 hCL hpl hs0 hpd hpC
  go_enter Tryz.func6, Tryz.ntmps6
  go_wp2_with fail
  refine hA.mono ?_
  rintro e w1 ⟨b, rfl, hbl, hm1, hb1⟩
  have hB1 : Below w.heap.size w w1 := HK.out.2.2.2.2.2.1.trans (hb1.mono HK.out.2.2.2.2.2.1.size)
  have hbw : w.heap.size < b := by
    have : (w.alloc (.cells #[.slice va vs.length vc, .slice fa fs.length fc, .slice la ls.length lc, .slice ta L.length tc] 26)).heap.size = w.heap.size + 1 := by show (w.heap.push _).size = _; simp
    omega
  have H1 := hide (⟨hm1, hB1, hbw⟩ : _ ∧ _ ∧ _)
  clear hA hbl hm1 hb1 hB1 hbw
  unfold ptrV
  go_wp2_with fail
  go_loopw [7, 16] (fun ev iv wr => ∃ i : Nat, i ≤ l.length ∧ iv = .int .i64 i ∧ MachW wr b p (playM false p.C s0 (l.take i)).1 ∧ wr.ownsRow w.heap.size 49 4 ev (playM false p.C s0 (l.take i)).2.length ((playM false p.C s0 (l.take i)).2.flatMap evL) ∧ Below w.heap.size w wr) (fun _ iv _ => l.length - (intOf iv).toNat)
  case atStart => exact ⟨0, Nat.zero_le _, rfl, H1.out.1, World.ownsRow_nil _ _ _ _, H1.out.2.1⟩
  case round =>
    obtain ⟨i, hi, rfl, hM, hrow, hB⟩ := hrel
    obtain ⟨hf, hN, ht, hl, hok0, -, hpl⟩ := HK.out
    have hokS : MOkP p (playM false p.C s0 (l.take i)).1 := play_ok false hf.fit hok0 (l.take i)
    have hli := hpl i hi
    have hpt : i < l.length → playM false p.C s0 (l.take (i + 1)) = plM false p.C (playM false p.C s0 (l.take i)) (l.getD i 0) := fun q => play_take false p.C s0 l q
    obtain ⟨x, hx⟩ : ∃ x, playM false p.C s0 (l.take i) = x := ⟨_, rfl⟩
    rw [hx] at hM hrow hokS hli hpt
    replace hx := hide hx
    obtain ⟨s, evs⟩ := x
    dsimp only at hM hrow hokS hli
    obtain ⟨ea, ec, rfl⟩ := owns_len hrow
    have hbw := H1.out.2.2
    by_cases h5 : i < l.length
    · obtain ⟨lb, off, ha, hlb, c0⟩ := hl i h5
      subst ha
      have c0 : wr.cell? ⟨lb, off + i, none⟩ = _ := (hB.cell (p := ⟨lb, off + i, none⟩) hlb).trans c0
      have hlt : (i : Int) < (l.length : Int) := by omega
      replace hpt := hpt h5
      obtain ⟨t, htq⟩ : ∃ t, l.getD i 0 = t := ⟨_, rfl⟩
      rw [htq] at c0 hpt
      have hS := step_any hM hf hokS t
      rw [pl_trn] at hpt
      dsimp only at hpt
      have hwi : wrap64 ((i : Int) + 1) = (i : Int) + 1 := wrap_lt (by omega)
      have HO := hide (⟨hM, hrow, hB, h5, hli, hpt⟩ : _ ∧ _ ∧ _ ∧ _ ∧ _ ∧ _)
      replace htq := hide htq
      clear hM hrow hB hokS hli hpt hi hf hN ht hl hok0 hpl hlb h5
      unfold ptrV at hS
      go_wp2_with fail
      refine hS.mono ?_
      rintro e w2 ⟨rfl, hm2, hk2⟩
      obtain ⟨hM, hrow, hB, h5, hli, hpt⟩ := HO.out
      have hrow2 := row_keepS hrow hM (by decide) hk2
      have hB2 : Below w.heap.size w w2 := ⟨hk2.os.trans hB.os, hk2.tape.trans hB.tape, hk2.output.trans hB.output, Nat.le_trans hB.size hk2.size, fun k hk => (hk2.block k (by have := hB.size; omega) (by omega)).trans (hB.block k hk)⟩
      obtain ⟨er, her⟩ : ∃ er, canM p.C s t = er := ⟨_, rfl⟩
      rw [her] at hpt ⊢
      obtain ⟨y, hy⟩ : ∃ y, trn p.C s t = y := ⟨_, rfl⟩
      rw [hy] at hm2 hpt ⊢
      obtain ⟨s', et, ek, eo, ev⟩ := y
      unfold evC
      dsimp only at hm2 hpt ⊢
      by_cases hz : er = 0
      · subst hz
        rw [if_pos rfl] at hpt
        have hbA : Below w2.heap.size w2 (w2.alloc (.cells #[.int .i64 et, .int .i64 ek, .int .i64 eo, .int .i64 ev] 49)) := (Below.refl _ _).alloc (Nat.le_refl _) _
        have hrowA := c_belowS hrow2 hbA
        have hmA := hm2.below hbA
        obtain ⟨g, cap2, w4, hrun, hrow4, hb4, hk4⟩ := evs_push hrowA ⟨et, ek, eo, ev⟩ (by omega) (by have := hB2.size; have := hbA.size; omega)
        have hm4 : MachW w4 b p s' := hmA.same (hk4 b hmA.lt (row_ne hrowA hmA (by decide)))
        have hB4 : Below w.heap.size w w4 := (hB2.trans (hbA.mono hB2.size)).trans (hb4 _ (Nat.le_refl _))
        have HN := hide (⟨hm4, hrow4, hB4, h5, hpt⟩ : _ ∧ _ ∧ _ ∧ _ ∧ _)
        have hsz : (w2.alloc (.cells #[.int .i64 et, .int .i64 ek, .int .i64 eo, .int .i64 ev] 49)).heap.size = w2.heap.size + 1 := by show (w2.heap.push _).size = _; simp
        unfold evC at hrun
        rw [hsz] at hrun
        clear hsz
        clear hM hrow hB h5 hli hpt hrow2 hB2 her hy hm2 hk2 hbA hrowA hmA hrow4 hb4 hk4 hm4 hB4 HO HK H1 hS c0
        go_wp2_with (at_builtin; refine wpList_append_run rfl _ _ _ rfl rfl rfl rfl hrun ?_)
        go_roundw
        case rel =>
          (try rw [hwi])
          obtain ⟨hm4, hrow4, hB4, h5, hpt⟩ := HN.out
          refine ⟨i + 1, h5, rfl, ?_, ?_, hB4⟩
          · rw [hpt]; exact hm4
          · rw [hpt]; exact hrow4
        case measure =>
          (try rw [hwi])
          exact Nat.sub_lt_sub_left HN.out.2.2.2.1 (Nat.lt_succ_self i)
      · have hz' : (er == 0) = false := by simpa using hz
        rw [if_neg hz] at hpt
        have hbA : Below w2.heap.size w2 (w2.alloc (.cells #[.int .i64 et, .int .i64 ek, .int .i64 eo, .int .i64 ev] 49)) := (Below.refl _ _).alloc (Nat.le_refl _) _
        have HN := hide (⟨hm2.below hbA, c_belowS hrow2 hbA, hB2.trans (hbA.mono hB2.size), h5, hpt⟩ : _ ∧ _ ∧ _ ∧ _ ∧ _)
        clear hM hrow hB h5 hli hpt hrow2 hB2 her hy hm2 hk2 hbA HO HK H1 hS c0
        go_wp2_with fail
        go_roundw
        case rel =>
          (try rw [hwi])
          obtain ⟨hm4, hrow4, hB4, h5, hpt⟩ := HN.out
          refine ⟨i + 1, h5, rfl, ?_, ?_, hB4⟩
          · rw [hpt]; exact hm4
          · rw [hpt]; exact hrow4
        case measure =>
          (try rw [hwi])
          exact Nat.sub_lt_sub_left HN.out.2.2.2.1 (Nat.lt_succ_self i)
    · have hil : i = l.length := by omega
      have hx2 : playM false p.C s0 l = (s, evs) := by
        have q := hx.out
        rw [hil, List.take_length] at q
        exact q
      have hS := show_any hM hf hokS hN (ht.keep (hB.mono hB0)) (by have := hB.size; omega)
      have HN := hide (⟨hrow, hB, hx2⟩ : _ ∧ _ ∧ _)
      subst hil
      clear hM hrow hB hokS hli hpt hi hf hN ht hl hok0 hpl h5 hx2 HK H1 hx hbw
      unfold ptrV at hS
      go_wp2_with fail
      refine hS.mono ?_
      rintro e w2 ⟨rfl, hb2⟩
      obtain ⟨hrow, hB, hx2⟩ := HN.out
      have HE := hide (⟨c_belowS hrow hb2, hB.trans (hb2.mono hB.size), hx2⟩ : _ ∧ _ ∧ _)
      clear hrow hB hx2 HN hb2 hS
      go_wp2_with fail
      go_ret2
      obtain ⟨hrow, hB, hx2⟩ := HE.out
      rw [hx2]
      exact ⟨_, rfl, hrow, hB⟩
end
end Go.Proofs.YtlpdomgedaockaaGreatDoor
