import Derived.Test.YtlpdomgedaockaaGreatDoorOl36
import Derived.Test.YtlpdomgedaockaaGreatDoorOl19
import Derived.Test.YtlpdomgedaockaaGreatDoorOl16
import Derived.Test.YtlpdomgedaockaaGreatDoorOl26
import Derived.Test.YtlpdomgedaockaaGreatDoorOl27
import Derived.Test.YtlpdomgedaockaaGreatDoorOl28
import Derived.Test.YtlpdomgedaockaaGreatDoorOl32
import Derived.Test.YtlpdomgedaockaaGreatDoorOl35
set_option linter.unusedVariables false
set_option linter.unusedSimpArgs false
/-
  What a text's program is like: its names, and where its instructions come from.
-/
namespace Go.Proofs.YtlpdomgedaockaaGreatDoor
open Go.RowKit Go.Shelf Go.Proofs.Cod

/-- An instruction as it was read. -/
def PIr (N : Tx → Option (Int × Nat)) (p : PI) : Prop := ∃ q ts, q ∈ shapeT ∧ fitsT ts q.2 = true ∧ fillAll N (newIns q.1) (zipP q.2 ts) = some p.i ∧ p.off = offP (zipP q.2 ts)
def NLe (N N' : Tx → Option (Int × Nat)) : Prop := ∀ t z, N t = some z → N' t = some z
theorem fillOne_mono {N N' : Tx → Option (Int × Nat)} (h : NLe N N') {i i' : In7} {p : Int × Tx} (e : fillOne N i p = some i') : fillOne N' i p = some i' := by
  unfold fillOne at e ⊢
  split
  · rename_i h1; rw [if_pos h1] at e; exact e
  · rename_i h1; rw [if_neg h1] at e
    split
    · rename_i h1; rw [if_pos h1] at e; exact e
    · rename_i h1; rw [if_neg h1] at e
      split
      · rename_i h1; rw [if_pos h1] at e; exact e
      · rename_i h1; rw [if_neg h1] at e
        split
        · rename_i h1; rw [if_pos h1] at e; exact e
        · rename_i h1; rw [if_neg h1] at e
          split
          · rename_i h1; rw [if_pos h1] at e; exact e
          · rename_i h1; rw [if_neg h1] at e
            cases hN : N p.2 with
            | none => rw [hN] at e; cases e
            | some z => rw [hN] at e; rw [h _ _ hN]; exact e
theorem fillAll_mono {N N' : Tx → Option (Int × Nat)} (h : NLe N N') : ∀ (l : List (Int × Tx)) (i i' : In7), fillAll N i l = some i' → fillAll N' i l = some i'
  | [], i, i', e => e
  | p :: l, i, i', e => by
    unfold fillAll at e ⊢
    cases h1 : fillOne N i p with
    | none => rw [h1] at e; cases e
    | some i1 =>
      rw [h1] at e
      rw [fillOne_mono h h1]
      exact fillAll_mono h l i1 i' e
theorem PIr.mono {N N' : Tx → Option (Int × Nat)} {p : PI} (h : PIr N p) (hN : NLe N N') : PIr N' p := by
  obtain ⟨q, ts, h1, h2, h3, h4⟩ := h
  exact ⟨q, ts, h1, h2, fillAll_mono hN _ _ _ h3, h4⟩
structure PR (s : PS) : Prop where
  nam : ∀ k x, x ∈ s.nms k → isNam x = true
  nt : ∀ t k n, s.N t = some (k, n) → (s.nms k)[n]? = some t
  nf : ∀ t k n, (s.nms k)[n]? = some t → s.N t = some (k, n)
  bod : ∀ b, b ∈ s.bod → ∀ p, p ∈ b.code → PIr s.N p
theorem PR.new : PR PS.new := ⟨(fun k x h => by cases h), (fun t k n h => by cases h), (fun t k n h => by cases h), (fun b h => by cases h)⟩
def lsK (kd : Int) (l : List Tx) (M : Int → List Tx) (k : Int) : List Tx := if k = kd then l else M k
theorem declAll_pr {kd : Int} {M : Int → List Tx} : ∀ (ts : List Tx) (N : Tx → Option (Int × Nat)) (l : List Tx) (p : (Tx → Option (Int × Nat)) × List Tx), (∀ t k n, N t = some (k, n) → (lsK kd l M k)[n]? = some t) → (∀ t k n, (lsK kd l M k)[n]? = some t → N t = some (k, n)) → declAll kd N l ts = some p → (∀ t k n, p.1 t = some (k, n) → (lsK kd p.2 M k)[n]? = some t) ∧ (∀ t k n, (lsK kd p.2 M k)[n]? = some t → p.1 t = some (k, n)) ∧ NLe N p.1
  | [], N, l, p, h1, h2, e => by
    have e : some (N, l) = some p := e
    cases e
    exact ⟨h1, h2, fun _ _ h => h⟩
  | t :: ts, N, l, p, h1, h2, e => by
    cases hN : N t with
    | some q => simp [declAll, hN] at e
    | none =>
      have e : declAll kd (putT N t (kd, l.length)) (l ++ [t]) ts = some p := by
        simp only [declAll, hN] at e; exact e
      have hput : ∀ x, x ≠ t → putT N t (kd, l.length) x = N x := fun x hx => by unfold putT; rw [if_neg hx]
      have hputt : putT N t (kd, l.length) t = some (kd, l.length) := by unfold putT; rw [if_pos rfl]
      have q1 : ∀ x k n, putT N t (kd, l.length) x = some (k, n) → (lsK kd (l ++ [t]) M k)[n]? = some x := fun x k n hx => by
        by_cases hxt : x = t
        · subst hxt
          rw [hputt] at hx
          cases hx
          unfold lsK
          rw [if_pos rfl]; simp
        · rw [hput x hxt] at hx
          have := h1 x k n hx
          unfold lsK at this ⊢
          split
          · rename_i hk
            rw [if_pos hk] at this
            rw [List.getElem?_append_left (List.getElem?_eq_some_iff.1 this).1]; exact this
          · rename_i hk
            rw [if_neg hk] at this; exact this
      have q2 : ∀ x k n, (lsK kd (l ++ [t]) M k)[n]? = some x → putT N t (kd, l.length) x = some (k, n) := fun x k n hx => by
        have hold : (lsK kd l M k)[n]? = some x → putT N t (kd, l.length) x = some (k, n) := fun h => by
          have h' := h2 x k n h
          rw [hput x (fun e => by rw [e, hN] at h'; cases h')]; exact h'
        by_cases hk : k = kd
        · subst hk
          unfold lsK at hx hold
          rw [if_pos rfl] at hx hold
          by_cases hn : n < l.length
          · rw [List.getElem?_append_left hn] at hx
            exact hold hx
          · rw [List.getElem?_append_right (by omega)] at hx
            have hn0 : n - l.length = 0 := by
              have := (List.getElem?_eq_some_iff.1 hx).1
              simp at this; omega
            rw [hn0] at hx
            have hx : some t = some x := hx
            cases hx
            rw [hputt, show n = l.length by omega]
        · refine hold ?_
          unfold lsK at hx ⊢
          rw [if_neg hk] at hx ⊢; exact hx
      obtain ⟨g1, g2, g3⟩ := declAll_pr (M := M) ts _ _ p q1 q2 e
      refine ⟨g1, g2, fun x z hx => g3 x z ?_⟩
      rw [hput x (fun e => by rw [e, hN] at hx; cases hx)]; exact hx
section
variable {s s' : PS}
theorem lsK_self (s : PS) (kd : Int) : lsK kd (s.nms kd) s.nms = s.nms := by
  funext k
  unfold lsK
  split
  · rename_i h; rw [h]
  · rfl
theorem decl_pr {kd : Int} {ts : List Tx} (h : PR s) (e : declT kd ts s = .ok s') : PR s' ∧ s'.bod = s.bod ∧ NLe s.N s'.N := by
  unfold declT at e
  split at e
  · cases e
  · rename_i hc
    split at e
    · cases e
    · rename_i p hp
      split at e
      · cases e
      · cases e
        have hlen := declAll_len hp
        obtain ⟨g1, g2, g3⟩ := declAll_pr (M := s.nms) ts s.N (s.nms kd) p (by rw [lsK_self]; exact h.nt) (by rw [lsK_self]; exact h.nf) hp
        refine ⟨⟨fun k x hx => ?_, g1, g2, fun b hb p' hp' => (h.bod b hb p' hp').mono g3⟩, rfl, g3⟩
        have hx : x ∈ putZ s.nms kd p.2 k := hx
        by_cases hk : k = kd
        · subst hk
          rw [putZ_same, hlen] at hx
          rcases List.mem_append.1 hx with hx | hx
          · exact h.nam k x hx
          · have hall : ts.all isNam = true := by
              cases hb : ts.all isNam with
              | true => rfl
              | false => exact absurd (.inr (.inr hb)) hc
            exact List.all_eq_true.1 hall x hx
        · rw [putZ_other _ hk] at hx
          exact h.nam k x hx
theorem set_pr (h : PR s) {b' : PB} (hb' : ∀ p, p ∈ b'.code → PIr s.N p) : PR (setLast s b') := by
  refine ⟨h.nam, h.nt, h.nf, fun x hx => ?_⟩
  have hx : x ∈ s.bod.dropLast ++ [b'] := hx
  rcases List.mem_append.1 hx with hx | hx
  · exact h.bod x (List.dropLast_subset _ hx)
  · obtain rfl := List.mem_singleton.1 hx
    exact hb'
theorem instr_pr {line : Int} {f : Tx} {ts : List Tx} {b : PB} (h : PR s) (hb : s.bod.getLast? = some b) (e : instrT line f ts s b = .ok s') : PR s' := by
  unfold instrT at e
  split at e
  · cases e
  · rename_i ps hps
    split at e
    · cases e
    · rename_i hf
      split at e
      · cases e
      · split at e
        · cases e
        · rename_i i hi
          cases e
          have hft : fitsT ts ps = true := by
            cases hb2 : fitsT ts ps with
            | true => rfl
            | false => exact absurd hb2 hf
          rcases parts_cases f with ⟨q, hq, hq1, hq2⟩ | ⟨hn, -⟩
          · rw [hps] at hq2
            cases hq2
            refine set_pr h fun p hp => ?_
            have hp : p ∈ b.code ++ [⟨i, line, offP (zipP q.2 ts)⟩] := hp
            rcases List.mem_append.1 hp with hp | hp
            · exact h.bod b (List.mem_of_getLast? hb) p hp
            · obtain rfl := List.mem_singleton.1 hp
              rw [hq1] at hi
              exact ⟨q, ts, hq, hft, hi, rfl⟩
          · rw [hps] at hn; cases hn
theorem step_pr {line : Int} {f : Tx} {ts : List Tx} (h : PR s) (e : stepT line f ts s = .ok s') : PR s' := by
  unfold stepT at e
  split at e
  · split at e
    · cases hd : declT 116 ts s with
      | error x => rw [hd] at e; cases e
      | ok s1 =>
        rw [hd] at e
        cases e
        obtain ⟨d1, -, -⟩ := decl_pr h hd
        refine ⟨d1.nam, d1.nt, d1.nf, fun b hb => ?_⟩
        have hb : b ∈ s1.bod ++ [⟨[], fun _ => none⟩] := hb
        rcases List.mem_append.1 hb with hb | hb
        · exact d1.bod b hb
        · obtain rfl := List.mem_singleton.1 hb
          exact fun p hp => by cases hp
    · cases e
  · split at e
    · exact (decl_pr h e).1
    · rename_i b hb
      split at e
      · unfold markT at e
        split at e
        · cases e
        · split at e
          · cases e
          · cases e
            exact set_pr h (h.bod b (List.mem_of_getLast? hb))
      · exact instr_pr h hb e
theorem lines_pr : ∀ (ls : List Tx) (n : Int) (s s' : PS), PR s → linesT ls n s = .ok s' → PR s'
  | [], _, s, s', h, e => by
    have e : Except.ok s = Except.ok s' := e
    cases e; exact h
  | l :: ls, n, s, s', h, e => by
    unfold linesT at e
    cases hl : lineT (n + 1) l s with
    | error x => rw [hl] at e; cases e
    | ok s1 =>
      rw [hl] at e
      refine lines_pr ls (n + 1) s1 s' ?_ e
      unfold lineT at hl
      split at hl
      · cases hl; exact h
      · exact step_pr h hl
end
end Go.Proofs.YtlpdomgedaockaaGreatDoor
/-
  What a text's program is like: its numbers' bounds.
-/
namespace Go.Proofs.YtlpdomgedaockaaGreatDoor
open Go.RowKit Go.Proofs.Cod

theorem sm2_new (f : Tx) : sm2 (newIns f) := by unfold sm2 argB4 newIns; simp
theorem arg_b4 {t : Tx} (h : (isReg t || isNum t) = true) : argB4 (isReg t) (argN t : Int) := by
  have h1 : argN t < 1000 ∧ (isReg t = true → argN t < 4) := by
    unfold argN
    by_cases hr : isReg t = true
    · rw [if_pos hr]
      have := reg_small hr
      exact ⟨by omega, fun _ => by omega⟩
    · rw [if_neg hr]
      have hn : isNum t = true := by simpa [hr] using h
      unfold isNum at hn
      simp only [Bool.and_eq_true, decide_eq_true_eq] at hn
      have := num_small hn.2
      have h3 : 10 ^ t.length ≤ 10 ^ 3 := Nat.pow_le_pow_right (by omega) hn.1.2
      exact ⟨by omega, fun e => absurd e hr⟩
  refine ⟨by omega, by omega, fun e => by have := h1.2 e; omega⟩
section
variable {N : Tx → Option (Int × Nat)}
theorem fill_nm2 {i i' : In7} {t : Tx} {c : Int} (hi : sm2 i) (h : (match N t with | some (k, n) => if k = c then some { i with x := (n : Int) } else none | none => none) = some i') : sm2 i' := by
  cases hNt : N t with
  | none => rw [hNt] at h; cases h
  | some q =>
    obtain ⟨k, n⟩ := q
    rw [hNt] at h
    have h : (if k = c then some { i with x := (n : Int) } else none) = some i' := h
    by_cases hk : k = c
    · rw [if_pos hk] at h
      cases h
      exact hi
    · rw [if_neg hk] at h; cases h
theorem fillOne_sm2 {i i' : In7} {c : UInt8} {t : Tx} (hc : c ∈ letters) (hi : sm2 i) (hp : fitsP t (c.toNat : Int) = true) (h : fillOne N i ((c.toNat : Int), t) = some i') : sm2 i' := by
  rcases letters_or hc with rfl | rfl | rfl | rfl | rfl | rfl | rfl | rfl
  · have h : some { i with r := (regN t : Int) } = some i' := h
    cases h
    have hr : isReg t = true := hp
    have := reg_small hr
    exact ⟨⟨by show (0 : Int) ≤ (regN t : Int); omega, by show (regN t : Int) < 4; omega⟩, hi.2⟩
  · have h : some { i with aR := isReg t, aN := (argN t : Int) } = some i' := h
    cases h
    exact ⟨hi.1, arg_b4 hp, hi.2.2⟩
  · have h : some { i with bR := isReg t, bN := (argN t : Int) } = some i' := h
    cases h
    exact ⟨hi.1, hi.2.1, arg_b4 hp⟩
  · exact fill_nm2 (c := 118) hi h
  · exact fill_nm2 (c := 102) hi h
  · exact fill_nm2 (c := 109) hi h
  · have h : some i = some i' := h
    cases h
    exact hi
  · have h : some i = some i' := h
    cases h
    exact hi
theorem fillAll_sm2 : ∀ (ps : Tx) (ts : List Tx) (i i' : In7), (∀ c, c ∈ ps → c ∈ letters) → fitsT ts ps = true → sm2 i → fillAll N i (zipP ps ts) = some i' → sm2 i'
  | [], [], i, i', _, _, hi, h => by
    have h : some i = some i' := h
    cases h
    exact hi
  | [], _ :: _, _, _, _, h, _, _ => by cases h
  | _ :: _, [], _, _, _, h, _, _ => by cases h
  | c :: ps, t :: ts, i, i', hc, hf, hi, h => by
    have hf : (fitsP t (c.toNat : Int) && fitsT ts ps) = true := hf
    rw [Bool.and_eq_true] at hf
    have hz : zipP (c :: ps) (t :: ts) = ((c.toNat : Int), t) :: zipP ps ts := rfl
    rw [hz] at h
    cases h1 : fillOne N i ((c.toNat : Int), t) with
    | none =>
      unfold fillAll at h
      rw [h1] at h; cases h
    | some i1 =>
      have h : fillAll N i1 (zipP ps ts) = some i' := by
        unfold fillAll at h
        rw [h1] at h; exact h
      exact fillAll_sm2 ps ts i1 i' (fun c' h' => hc c' (by simp [h'])) hf.2 (fillOne_sm2 (hc c (by simp)) hi hf.1 h1) h
end
section
variable {s : PS}
theorem res_fit (h : PW s) (hr : PR s) {b : PB} (hb : b ∈ s.bod) {p : PI} (hp : p ∈ b.code) {i : In7} (he : resOff s.N b.labs p.i p.off = some i) : InsX (s.nms 118).length (s.nms 102).length (s.nms 109).length (s.nms 116).length b.code.length i := by
  obtain ⟨b1, b2, b3⟩ := h.bod b hb
  obtain ⟨q, ts, hq, hft, hfill, hoff⟩ := hr.bod b hb p hp
  have htl : ts.length = q.2.length := by
    by_cases hh : ts.length = q.2.length
    · exact hh
    · rw [fitsT_len hh] at hft; cases hft
  have hP := shape_parts hq htl
  have hs2 := fillAll_sm2 q.2 ts (newIns q.1) p.i (shape_letters hq) hft (sm2_new q.1) hfill
  obtain ⟨g1, g2, g3, g4⟩ := fillAll_sm (len := fun k => (s.nms k).length) h.nlt h.few q.2 ts (newIns q.1) p.i (shape_letters hq) hft (sm_new q.1) hfill
  have hop : p.i.op = q.1 := g2
  have key : ∃ x : Int, i = { p.i with x := x } ∧ 0 ≤ x ∧ ((116 : UInt8) ∈ q.2 → x < (s.nms 116).length) ∧ ((108 : UInt8) ∈ q.2 → x ≤ b.code.length) ∧ ((116 : UInt8) ∉ q.2 → (108 : UInt8) ∉ q.2 → x = p.i.x) := by
    by_cases ht : (116 : UInt8) ∈ q.2
    · obtain ⟨w, hw⟩ := hP.t ht
      have hl : (108 : UInt8) ∉ q.2 := by
        have : ∀ q, q ∈ shapeT → (116 : UInt8) ∈ q.2 → (108 : UInt8) ∉ q.2 := by decide
        exact this q hq ht
      rw [hoff, hw] at he
      unfold resOff at he
      cases hlk : lookOff s.N b.labs (116, w) with
      | none => rw [hlk] at he; cases he
      | some n =>
        rw [hlk] at he
        have he : some { p.i with x := (n : Int) } = some i := he
        cases he
        have hn : n < (s.nms 116).length := by
          have hlk : (match s.N w with | some p => if p.1 = 116 then some p.2 else none | none => none) = some n := hlk
          cases hN : s.N w with
          | none => rw [hN] at hlk; cases hlk
          | some z =>
            obtain ⟨k, m⟩ := z
            rw [hN] at hlk
            have hlk : (if k = 116 then some m else none) = some n := hlk
            by_cases hk : k = 116
            · subst hk
              rw [if_pos rfl] at hlk
              cases hlk
              exact h.nlt w 116 n hN
            · rw [if_neg hk] at hlk; cases hlk
        exact ⟨n, rfl, by omega, fun _ => by omega, fun e => absurd e hl, fun e => absurd ht e⟩
    · by_cases hl : (108 : UInt8) ∈ q.2
      · obtain ⟨w, hw⟩ := hP.l hl
        rw [hoff, hw] at he
        unfold resOff at he
        cases hlk : lookOff s.N b.labs (108, w) with
        | none => rw [hlk] at he; cases he
        | some n =>
          rw [hlk] at he
          have he : some { p.i with x := (n : Int) } = some i := he
          cases he
          have hn : n ≤ b.code.length := by
            have hlk : (match (b.labs w).map fun n => ((108 : Int), n) with | some p => if p.1 = 108 then some p.2 else none | none => none) = some n := hlk
            cases hN : b.labs w with
            | none => rw [hN] at hlk; cases hlk
            | some z =>
              rw [hN] at hlk
              have hlk : some z = some n := hlk
              cases hlk
              exact b2 w n hN
          exact ⟨n, rfl, by omega, fun e => absurd e ht, fun _ => by omega, fun _ e => absurd hl e⟩
      · rw [hoff, hP.o ht hl] at he
        have he : some p.i = some i := he
        cases he
        exact ⟨p.i.x, rfl, g1.2.2.2.1, fun e => absurd e ht, fun e => absurd e hl, fun _ _ => rfl⟩
  obtain ⟨x, rfl, hx0, hx1, hx2, hx3⟩ := key
  have nb : ∀ (k : UInt8), isNb (k.toNat : Int) = true → k ∈ q.2 → x < (s.nms (k.toNat : Int)).length := fun k hk hm => by
    have hn := hP.n k hm hk
    have := g4 _ hn.1
    rw [hx3 hn.2.1 hn.2.2]; exact this.2
  exact ⟨hs2, hx0, q, hq, hop, nb 118 (by decide), nb 102 (by decide), nb 109 (by decide), hx1, hx2⟩
theorem resCode_fit (h : PW s) (hr : PR s) {b : PB} (hb : b ∈ s.bod) : ∀ (l : List PI) (c : List In7), (∀ p, p ∈ l → p ∈ b.code) → resCode s.N b.labs l = .ok c → c.length = l.length ∧ ∀ i, i ∈ c → InsX (s.nms 118).length (s.nms 102).length (s.nms 109).length (s.nms 116).length b.code.length i
  | [], c, _, e => by
    have e : Except.ok [] = Except.ok c := e
    cases e
    exact ⟨rfl, fun i hi => by cases hi⟩
  | p :: l, c, hl, e => by
    unfold resCode at e
    cases hq : resOff s.N b.labs p.i p.off with
    | none => rw [hq] at e; cases e
    | some i =>
      rw [hq] at e
      cases hc : resCode s.N b.labs l with
      | error x => rw [hc] at e; cases e
      | ok c' =>
        rw [hc] at e
        cases e
        obtain ⟨h1, h2⟩ := resCode_fit h hr hb l c' (fun p' h' => hl p' (by simp [h'])) hc
        refine ⟨by simp [h1], fun j hj => ?_⟩
        rcases List.mem_cons.1 hj with rfl | hj
        · exact res_fit h hr hb (hl p (by simp)) hq
        · exact h2 j hj
theorem resAll_fit (h : PW s) (hr : PR s) : ∀ (l : List PB) (C : List (List In7)), (∀ b, b ∈ l → b ∈ s.bod) → resAll s.N l = .ok C → C.length = l.length ∧ ∀ c, c ∈ C → c.length ≤ 24 ∧ ∀ i, i ∈ c → InsX (s.nms 118).length (s.nms 102).length (s.nms 109).length (s.nms 116).length c.length i
  | [], C, _, e => by
    have e : Except.ok [] = Except.ok C := e
    cases e
    exact ⟨rfl, fun c hc => by cases hc⟩
  | b :: l, C, hl, e => by
    unfold resAll at e
    cases hq : resCode s.N b.labs b.code with
    | error x => rw [hq] at e; cases e
    | ok c0 =>
      rw [hq] at e
      cases hc : resAll s.N l with
      | error x => rw [hc] at e; cases e
      | ok C' =>
        rw [hc] at e
        cases e
        have hb := hl b (by simp)
        obtain ⟨g1, g2⟩ := resCode_fit h hr hb b.code c0 (fun _ h' => h') hq
        obtain ⟨h1, h2⟩ := resAll_fit h hr l C' (fun b' h' => hl b' (by simp [h'])) hc
        refine ⟨by simp [h1], fun c hcm => ?_⟩
        rcases List.mem_cons.1 hcm with rfl | hcm
        · rw [g1]
          exact ⟨(h.bod b hb).1, g2⟩
        · exact h2 c hcm
end
theorem parse_fit {t : Tx} {s : PS} {C : List (List In7)} (h : parseT t = .ok (s, C)) : ProgB (s.nms 118) (s.nms 102) (s.nms 109) (s.nms 116) C := by
  unfold parseT at h
  split at h
  · cases h
  · unfold parseL at h
    split at h
    · cases h
    · rename_i s0 hs
      split at h
      · cases h
      · rename_i C0 hC
        cases h
        have hw := lines_pw _ _ _ _ PW.new hs
        have hr := lines_pr _ _ _ _ PR.new hs
        obtain ⟨h1, h2⟩ := resAll_fit hw hr s.bod C (fun _ h' => h') hC
        exact ⟨hw.few _, hw.few _, hw.few _, hw.few _, hw.nm8 _, hw.nm8 _, hw.nm8 _, hw.nm8 _, by rw [h1, hw.thr], h2⟩
end Go.Proofs.YtlpdomgedaockaaGreatDoor
/-
  A loaded program fits a machine; the law's alive.
-/
namespace Go.Proofs.YtlpdomgedaockaaGreatDoor
open Go.RowKit Go.Shelf Go.Proofs.Cod

theorem getD_len8 {l : List Tx} (h : ∀ x, x ∈ l → x.length ≤ 8) (k : Nat) : (l.getD k []).length ≤ 8 := by
  by_cases e : k < l.length
  · exact h _ (getD_mem e)
  · rw [List.getD_eq_getElem?_getD, List.getElem?_eq_none (by omega)]; decide
theorem fit_of {t : Tx} {s : PS} {C : List (List In7)} {L : List (Tx × Value)} (h : parseT t = .ok (s, C)) (hL : L.map Prod.fst = s.nms 116) : NewB (s.nms 118) (s.nms 102) (s.nms 109) L C ∧ PFit4 (pdOf (s.nms 118) (s.nms 102) (s.nms 109) L C) ∧ Nm8 (pdOf (s.nms 118) (s.nms 102) (s.nms 109) L C) := by
  have q := parse_fit h
  have hl : L.length = (s.nms 116).length := by rw [← hL, List.length_map]
  have hc : C.length = L.length := q.len.trans hl.symm
  refine ⟨⟨q.v, q.f, q.l, by rw [hl]; exact q.t, fun c hc => (q.code c hc).1⟩, ⟨⟨by show C.length ≤ 4; have := q.t; omega, fun c hc => ?_⟩, q.v, q.f, q.l, by show (L.map Prod.fst).length = C.length; rw [List.length_map]; exact hc.symm⟩, ⟨getD_len8 q.v8, getD_len8 q.f8, getD_len8 q.l8, by show ∀ k, ((L.map Prod.fst).getD k []).length ≤ 8; rw [hL]; exact getD_len8 q.t8⟩⟩
  have := q.code c hc
  rw [← q.len] at this
  exact this
end Go.Proofs.YtlpdomgedaockaaGreatDoor
/-
  OrderLocks.
-/
namespace Go.Proofs.YtlpdomgedaockaaGreatDoor
open Go.RowKit Go.Shelf Go.Proofs.Cod

theorem evs_read {w : World} {base : Nat} {a : Option Addr} {n c : Nat} {l : List Ev} (hn : l.length = n) (h : w.ownsRow base 49 4 (.slice a n c) l.length (l.flatMap evL)) : EvS w a (l.map toO) ∧ n ≤ c ∧ c ≤ maxLen := by
  constructor
  · intro i hi
    rw [List.length_map] at hi
    obtain ⟨e, he⟩ : ∃ e, l[i]? = some e := ⟨_, List.getElem?_eq_getElem hi⟩
    obtain ⟨g, cap, q1, hg, hc⟩ := row_form h hi
    injection q1 with q1 _ _
    subst q1
    have key : ∀ q, q < 4 → w.cell? ⟨g, i * 4 + q, none⟩ = (evL e)[q]? := fun q hq => by
      rw [hc (i * 4 + q) (by omega)]; exact flat_at evL_len he hq
    refine ⟨g, 0, rfl, hg, ?_⟩
    rw [Nat.zero_add, ev_toO he]
    exact ⟨key 0 (by omega), key 1 (by omega), key 2 (by omega), key 3 (by omega)⟩
  · rcases h.2 with ⟨q, q2⟩ | ⟨g, cap, cur, q, _, _, q3, q4, _⟩
    · have q6 : c = 0 := by injection q
      have q5 : n = 0 := by injection q
      exact ⟨by omega, by unfold maxLen; omega⟩
    · have q6 : c = cap := by injection q
      exact ⟨by omega, by omega⟩
theorem four_c {w : World} {b T : Nat} {v0 v1 v2 v3 : Value} (h : w.heap[b]? = some (.cells #[v0, v1, v2, v3] T)) : w.cell? ⟨b, 0, none⟩ = some v0 ∧ w.cell? ⟨b, 1, none⟩ = some v1 ∧ w.cell? ⟨b, 2, none⟩ = some v2 ∧ w.cell? ⟨b, 3, none⟩ = some v3 := by
  refine ⟨?_, ?_, ?_, ?_⟩ <;> simp [World.cell?, h]
theorem ol_len (C : List (List In7)) (s : MS) (l : List Int) : (playM false C s l).2.length ≤ l.length := by
  have : ∀ (r : List Int) (x : MS × List Ev), (r.foldl (plM false C) x).2.length ≤ x.2.length + r.length := by
    intro r
    induction r with
    | nil => intro x; exact Nat.le_refl _
    | cons t r ih =>
      intro x
      have := ih (plM false C x t)
      have h2 : (plM false C x t).2.length ≤ x.2.length + 1 := by
        unfold plM
        by_cases e : canM C x.1 t = 0
        · rw [if_pos e]; simp
        · rw [if_neg e]; omega
      rw [List.foldl_cons, List.length_cons]
      omega
  have q := this l (s, [])
  simp only [List.length_nil, Nat.zero_add] at q
  exact q
set_option maxRecDepth 100000 in
set_option maxHeartbeats 8000000 in
theorem orderLocks_any (t : Tx) {w : World} {B : Nat} (ht : Tabs w B) (hB : B ≤ w.heap.size) (hTab : Tab w) {a : Option Addr} {n cap : Nat} {l : List Int} (hn : l.length = n) (hl : Is w a l) (hn1 : n < 1048576) :
    Calls Tryz.prog 3 #[.string (bs t), .slice a n cap] w fun e w' => e = .returned (.bool true) ∧ Below w.heap.size w w' := by
  have hL := load_any t ht hB
  have HA := hide (fun (w' : World) (hb : Below w.heap.size w w') => alive3_true before_said races_said w' (tab_below hTab hb))
  have HT := hide (⟨ht, hl, hn, hn1, hTab⟩ : _ ∧ _ ∧ _ ∧ _ ∧ _)
  clear ht hl hn hn1 hTab
  go_enter Tryz.func3, Tryz.ntmps3
  go_wp2_with fail
  refine hL.mono ?_
  clear hL
  rintro e w1 ⟨hb1, (rfl | ⟨s, C, vV, fV, lV, thV, L, qv, qf, ql, qt, P, TV, he, rfl, hPW, hLn, hQ, -⟩)⟩
  · have hB2 : ∀ o1 o2, Below w.heap.size w ((w1.alloc o1).alloc o2) := fun o1 o2 => (hb1.alloc hb1.size o1).alloc (by show w.heap.size ≤ (w1.heap.push o1).size; have := hb1.size; simp; omega) o2
    have hAl := HA.out _ (hB2 (.cells #[.slice none 0 0, .slice none 0 0, .slice none 0 0, .slice none 0 0] 26) (.cells #[.slice none 0 0, .slice none 0 0, .slice none 0 0, .slice none 0 0] 29))
    have HB2 := hide (hB2 (.cells #[.slice none 0 0, .slice none 0 0, .slice none 0 0, .slice none 0 0] 26) (.cells #[.slice none 0 0, .slice none 0 0, .slice none 0 0, .slice none 0 0] 29))
    unfold nilV
    clear hb1 hB2 HA HT
    go_wp2_with fail
    refine hAl.mono ?_
    rintro e w2 ⟨rfl, hb2⟩
    have HN := hide (HB2.out.trans (hb2.mono HB2.out.size))
    clear hAl hb2 HB2
    go_wp2_with fail
    go_ret
    exact ⟨rfl, HN.out⟩
  · obtain ⟨⟨x1, y1, z1, rfl⟩, ⟨x2, y2, z2, rfl⟩, ⟨x3, y3, z3, rfl⟩, ⟨x4, y4, z4, rfl⟩⟩ : (∃ a n c, qv = .slice a n c) ∧ (∃ a n c, qf = .slice a n c) ∧ (∃ a n c, ql = .slice a n c) ∧ (∃ a n c, qt = .slice a n c) := by
      obtain ⟨u1, v1, e1⟩ := owns_len hQ.v
      obtain ⟨u2, v2, e2⟩ := owns_len hQ.f
      obtain ⟨u3, v3, e3⟩ := owns_len hQ.l
      obtain ⟨u4, v4, e4⟩ := owns_len hQ.t
      exact ⟨⟨_, _, _, e1⟩, ⟨_, _, _, e2⟩, ⟨_, _, _, e3⟩, ⟨_, _, _, e4⟩⟩
    obtain ⟨fn1, fn2, fn3⟩ := fit_of he hLn
    clear hQ
    generalize s.nms 118 = vs at hPW fn1 fn2 fn3
    generalize s.nms 102 = fs at hPW fn1 fn2 fn3
    generalize s.nms 109 = ls at hPW fn1 fn2 fn3
    clear he hLn
    obtain ⟨va, vc, ev⟩ := owns_len hPW.v
    obtain ⟨fa, fc, ef⟩ := owns_len hPW.f
    obtain ⟨la, lc, el⟩ := owns_len hPW.l
    obtain ⟨ta, tc, et⟩ := owns_len hPW.t
    obtain ⟨nv, hnv⟩ : ∃ x, vs.length = x := ⟨_, rfl⟩
    obtain ⟨nf, hnf⟩ : ∃ x, fs.length = x := ⟨_, rfl⟩
    obtain ⟨nl, hnl⟩ : ∃ x, ls.length = x := ⟨_, rfl⟩
    obtain ⟨nt, hnt⟩ : ∃ x, L.length = x := ⟨_, rfl⟩
    rw [hnv] at ev
    rw [hnf] at ef
    rw [hnl] at el
    rw [hnt] at et
    subst ev ef el et
    obtain ⟨ht, hl, hn, hn1, hTab⟩ := HT.out
    obtain ⟨W2, hW2⟩ : ∃ W2, (w1.alloc (.cells #[.slice va nv vc, .slice fa nf fc, .slice la nl lc, .slice ta nt tc] 26)).alloc (.cells #[.slice x1 y1 z1, .slice x2 y2 z2, .slice x3 y3 z3, .slice x4 y4 z4] 29) = W2 := ⟨_, rfl⟩
    have hza : (w1.alloc (.cells #[.slice va nv vc, .slice fa nf fc, .slice la nl lc, .slice ta nt tc] 26)).heap.size = w1.heap.size + 1 := by show (w1.heap.push _).size = _; simp
    have hb2 : Below w1.heap.size w1 W2 := by rw [← hW2]; exact ((Below.refl _ _).alloc (Nat.le_refl _) _).alloc (by rw [hza]; omega) _
    have hk2 : W2.heap[w1.heap.size]? = some (.cells #[.slice va nv vc, .slice fa nf fc, .slice la nl lc, .slice ta nt tc] 26) := by
      rw [← hW2, Below.heap_alloc _ _ _ (by rw [hza]; omega)]; exact World.alloc_heap_new w1 _
    have hB2 := hb1.trans (hb2.mono hb1.size)
    have hP2 := hPW.below hb2
    have hR := run_any (cap := cap) hP2 fn1 fn2 fn3 (ht.keep (hB2.mono hB)) (by have := hB2.size; omega) hn (hl.below hB2) hn1
    have hCl : C.length = nt := hP2.len.trans hnt
    rw [hnv, hnf, hnl, hnt] at hR
    have hft : PFit nv nf nl C := by
      have q := fn2.fit
      have q : PFit vs.length fs.length ls.length C := q
      rw [hnv, hnf, hnl] at q
      exact q
    have hok0 : MOk nv nf nl C (newM nv nf nl nt) := by
      have := newM_ok nv nf nl C
      rw [hCl] at this
      exact this
    have hLk := play_lk hft hok0 (fun j hj => new_lk j hj) l
    have hLen : (playM false C (newM nv nf nl nt) l).2.length ≤ n := by
      have q := ol_len C (newM nv nf nl nt) l
      omega
    have hls4 : nl ≤ 4 := by rw [← hnl]; exact fn1.l
    generalize showM (pdOf vs fs ls L C) (playM false C (newM nv nf nl nt) l).1 = sh at hR
    generalize (playM false C (newM nv nf nl nt) l).2 = evs at hR hLk hLen
    obtain ⟨q0, q1, q2, q3⟩ := four_c hk2
    have HK := hide (⟨hLk, hLen, hls4, hn1, hB2, hk2, tab_below hTab hB2⟩ : _ ∧ _ ∧ _ ∧ _ ∧ _ ∧ _ ∧ _)
    replace hW2 := hide hW2
    clear hb1 hza hb2 hk2 hB2 hPW fn1 fn2 fn3 hP2 hCl hft hok0 hLk hLen hls4 hnl hnv hnf hnt ht hl hn hn1 hTab HT
    go_upto_region 4 with fail
    rw [hW2.out]
    clear hW2
    go_wp2_with fail
    refine hR.mono ?_
    rintro e w4 ⟨v, rfl, hrow, hb4⟩
    clear hR q0 q1 q2 q3
    obtain ⟨ea, ec, rfl⟩ := owns_len hrow
    obtain ⟨m, hm⟩ : ∃ x, evs.length = x := ⟨_, rfl⟩
    obtain ⟨hLk, hLen, hls4, hn1, hB2, hk2, hTab2⟩ := HK.out
    rw [hm] at hLen
    have hrow2 := hrow
    rw [hm] at hrow2 ⊢
    obtain ⟨hS4, hc1, hc2⟩ := evs_read hm (by rw [hm]; exact hrow2)
    have hRc := races_said ea m ec (evs.map toO) w4 (by rw [List.length_map]; exact hm) hS4 hc1 hc2 (by omega) (tab_below hTab2 hb4)
    have H4 := hide (⟨hS4, hb4, hm⟩ : _ ∧ _ ∧ _)
    clear hrow hrow2 hS4 hc1 hc2 hb4 hm hLk hLen hls4 hn1 hB2 hk2 hTab2
    go_wp2_with fail
    refine hRc.mono ?_
    rintro e w5 ⟨v, rfl, hPr, hb5⟩
    clear hRc
    obtain ⟨pa, pcap, rfl, -, -, hpc⟩ := hPr
    obtain ⟨hS4, hb4, hm⟩ := H4.out
    obtain ⟨hLk, hLen, hls4, hn1, hB2, hk2, hTab2⟩ := HK.out
    have hmem : ∀ i, i < (Ord.racesTo (Ord.ev (evs.map toO)) m).length → (Ord.racesTo (Ord.ev (evs.map toO)) m).getD i (0, 0) ∈ Ord.racesTo (Ord.ev (evs.map toO)) m := fun i hi => by
      have e : (Ord.racesTo (Ord.ev (evs.map toO)) m).getD i (0, 0) = (Ord.racesTo (Ord.ev (evs.map toO)) m)[i] := by simp [hi]
      rw [e]
      exact List.getElem_mem hi
    have hRL : Hid (∀ i, i < (Ord.racesTo (Ord.ev (evs.map toO)) m).length → ∃ x y : Ev, evs[((Ord.racesTo (Ord.ev (evs.map toO)) m).getD i (0, 0)).1]? = some x ∧ evs[((Ord.racesTo (Ord.ev (evs.map toO)) m).getD i (0, 0)).2]? = some y ∧ ∀ j, j < nl → (has x.t j (evs.take ((Ord.racesTo (Ord.ev (evs.map toO)) m).getD i (0, 0)).1) && has y.t j (evs.take ((Ord.racesTo (Ord.ev (evs.map toO)) m).getD i (0, 0)).2)) = false) := fun i hi => by
      have hm1 := hmem i hi
      generalize (Ord.racesTo (Ord.ev (evs.map toO)) m).getD i (0, 0) = pr at hm1 ⊢
      obtain ⟨pi, pj⟩ := pr
      obtain ⟨r1, r2, -⟩ := (Ord.mem_racesTo _ m pi pj).1 hm1
      have e1 : evs[pi]? = some evs[pi] := List.getElem?_eq_getElem (by omega)
      have e2 : evs[pj]? = some evs[pj] := List.getElem?_eq_getElem (by omega)
      exact ⟨_, _, e1, e2, fun j hj => races_locks hLk hm1 hm.symm e1 e2 hj⟩
    have hplen : (Ord.racesTo (Ord.ev (evs.map toO)) m).length ≤ 1099511627776 := Nat.le_trans (Ord.racesTo_length _ m) (Nat.le_trans (Nat.mul_le_mul (by omega : m ≤ 1048576) (by omega : m ≤ 1048576)) (by omega))
    generalize Ord.racesTo (Ord.ev (evs.map toO)) m = prs at hpc hRL hplen ⊢
    clear hmem
    obtain ⟨np, hnp⟩ : ∃ x, prs.length = x := ⟨_, rfl⟩
    rw [hnp] at hpc hRL hplen ⊢
    have hbW5 : Below W2.heap.size W2 w5 := hb4.trans (hb5.mono hb4.size)
    have hk5 := (hbW5.block w1.heap.size (Array.getElem?_eq_some_iff.1 hk2).1).trans hk2
    have HS : Hid (∀ u, Below w5.heap.size w5 u → EvS u ea (evs.map toO) ∧ u.cell? ⟨w1.heap.size, 2, none⟩ = some (.slice la nl lc)) := fun u hu => ⟨(hS4.below hb5).below hu, (four_c ((hu.block _ (Array.getElem?_eq_some_iff.1 hk5).1).trans hk5)).2.2.1⟩
    have HP : Hid (∀ i, i < np → ∃ b off, pa = some ⟨b, off, none⟩ ∧ ∀ u, Below w5.heap.size w5 u → u.cell? ⟨b, off + i * 2, none⟩ = some (.int .i64 ((prs.getD i (0, 0)).1 : Int)) ∧ u.cell? ⟨b, off + i * 2 + 1, none⟩ = some (.int .i64 ((prs.getD i (0, 0)).2 : Int))) := fun i hi => by
      obtain ⟨b, off, e1, _, hlt, c0, c1, _, _⟩ := hpc i hi
      exact ⟨b, off, e1, fun u hu => ⟨(hu.cell (p := ⟨b, off + i * 2, none⟩) hlt).trans c0, (hu.cell (p := ⟨b, off + i * 2 + 1, none⟩) hlt).trans c1⟩⟩
    have hB5 := hB2.trans (hbW5.mono hB2.size)
    have HQ := hide (⟨hm, hplen, hls4, hB5, (show m ≤ 1048576 by omega)⟩ : _ ∧ _ ∧ _ ∧ _ ∧ _)
    clear hpc hS4 hb4 hm hLk hLen hls4 hn1 hB2 hk2 hTab2 hb5 hplen hnp hbW5 hk5 hB5 H4 HK
    go_wp2_with fail
    go_loopw [11] (fun iv wr => ∃ i : Nat, i ≤ np ∧ iv = .int .i64 i ∧ Below w5.heap.size w5 wr) (fun iv _ => np - (intOf iv).toNat)
    case atStart => exact ⟨0, Nat.zero_le _, rfl, Below.refl _ _⟩
    case round =>
      rename World => U
      obtain ⟨i, hi, rfl, hBU⟩ := hrel
      by_cases h5 : i < np
      · obtain ⟨pb, poff, e1, hpc⟩ := HP.out i h5
        subst e1
        obtain ⟨x, y, hx, hy, hxy⟩ := hRL.out i h5
        generalize prs.getD i (0, 0) = pr at hpc hx hy hxy
        obtain ⟨pi, pj⟩ := pr
        dsimp only at hpc hx hy hxy
        have hlt : (i : Int) < (np : Int) := by omega
        have hwi : Hid (wrap64 ((i : Int) + 1) = (i : Int) + 1) := by
          have := HQ.out.2.1
          show wrap64 _ = _
          unfold wrap64
          omega
        have HJ := hide (⟨h5, hBU, hpc, hx, hy, hxy⟩ : _ ∧ _ ∧ _ ∧ _ ∧ _ ∧ _)
        clear hi h5 hBU hpc hx hy hxy
        go_wp2_with fail
        go_loopw [12] (fun kv wr => ∃ k : Nat, k ≤ nl ∧ kv = .int .i64 k ∧ Below w5.heap.size w5 wr) (fun kv _ => nl - (intOf kv).toNat)
        case atStart => exact ⟨0, Nat.zero_le _, rfl, HJ.out.2.1⟩
        case round =>
          obtain ⟨k, hk, rfl, hBr⟩ := hrel
          obtain ⟨hSr, cL⟩ := HS.out wr hBr
          by_cases h6 : k < nl
          · obtain ⟨h5, hBU, hpc, hx, hy, hxy⟩ := HJ.out
            obtain ⟨hm, hplen, hls4, hB5, hm1⟩ := HQ.out
            obtain ⟨c0, c1⟩ := hpc wr hBr
            have hH1 := holds_any (ec := ec) hm hSr hx k hm1
            have hkl : (k : Int) < (nl : Int) := by omega
            have hwk : Hid (wrap64 ((k : Int) + 1) = (k : Int) + 1) := wrap_lt (by omega)
            have hand := hxy k h6
            have hH2 := hide (fun u (hu : Below w5.heap.size w5 u) => holds_any (ec := ec) hm (HS.out u hu).1 hy k hm1)
            generalize has x.t k (evs.take pi) = b1 at hH1 hand
            generalize has y.t k (evs.take pj) = b2 at hH2 hand
            have HL := hide (⟨h6, hBr⟩ : _ ∧ _)
            have HC1 := hide (fun u (hu : Below w5.heap.size w5 u) => (hpc u hu).2)
            clear hk h6 hBr h5 hBU hpc hx hy hxy hm hplen hls4 hB5 hm1 hSr
            go_wp2_with fail
            refine hH1.mono ?_
            rintro e w6 ⟨rfl, hb6⟩
            clear hH1 c0 c1
            have hB6 : Below w5.heap.size w5 w6 := HL.out.2.trans (hb6.mono HL.out.2.size)
            have hC := hH2.out w6 hB6
            have c1 := HC1.out w6 hB6
            replace hB6 := hide hB6
            clear hb6
            go_wp2_with fail
            refine hC.mono ?_
            rintro e w7 ⟨rfl, hb7⟩
            clear hC c1
            have HF := hide (⟨HL.out.1, hB6.out.trans (hb7.mono hB6.out.size)⟩ : _ ∧ _)
            clear hb7 hB6 HL HC1 hH2 cL
            have hwk := hwk.out
            cases b1 with
            | false =>
              go_wp2_with fail
              go_roundw
              case rel =>
                (try rw [hwk])
                exact ⟨k + 1, HF.out.1, rfl, HF.out.2⟩
              case measure =>
                (try rw [hwk])
                exact Nat.sub_lt_sub_left HF.out.1 (Nat.lt_succ_self k)
            | true =>
              cases b2 with
              | true => cases hand
              | false =>
                go_wp2_with fail
                go_roundw
                case rel =>
                  (try rw [hwk])
                  exact ⟨k + 1, HF.out.1, rfl, HF.out.2⟩
                case measure =>
                  (try rw [hwk])
                  exact Nat.sub_lt_sub_left HF.out.1 (Nat.lt_succ_self k)
          · have hkl : nl = k := by omega
            subst hkl
            have HF := hide (⟨HJ.out.1, hBr⟩ : _ ∧ _)
            clear hk h6 hBr HJ hSr
            have hwi := hwi.out
            go_wp2_with fail
            go_roundw
            case rel =>
              (try rw [hwi])
              exact ⟨i + 1, HF.out.1, rfl, HF.out.2⟩
            case measure =>
              (try rw [hwi])
              exact Nat.sub_lt_sub_left HF.out.1 (Nat.lt_succ_self i)
      · have hil : np = i := by omega
        subst hil
        have hBw := HQ.out.2.2.2.1.trans (hBU.mono HQ.out.2.2.2.1.size)
        have hAl := HA.out U hBw
        have HBf := hide hBw
        clear hi h5 hBU hBw HA
        go_wp2_with fail
        refine hAl.mono ?_
        rintro e w10 ⟨rfl, hb10⟩
        have HN := hide (HBf.out.trans (hb10.mono HBf.out.size))
        clear hAl hb10 HBf
        go_wp2_with fail
        go_ret
        exact ⟨rfl, HN.out⟩
end Go.Proofs.YtlpdomgedaockaaGreatDoor
/-
  The table of bits lies as it is listed.
-/
namespace Go.Proofs.YtlpdomgedaockaaGreatDoor
open Go.ChangeShapes Go.WideShapes Go.ChangeAt Go.RowKit Go.Proofs.Cod
set_option linter.unusedVariables false

def zs64 : List Int := Lib.deBruijn64tab.map fun (n : Nat) => (n : Int)
theorem gTab : Tryz.prog.globalNamed "math/bits.deBruijn64tab" = some 0 := by kernel_rfl
theorem gTabType : (Tryz.prog.globals[0]?).map (·.type) = some 208 := by kernel_rfl
theorem cells64 : Tryz.prog.cellsOf 208 = 64 := by kernel_rfl
theorem cells8 : Tryz.prog.cellsOf 5 = 1 := by kernel_rfl
theorem datum64 : Rows.laid_math_bits_deBruijn64tab (H := Unit) = Lib.tabData .u8 zs64 := by kernel_rfl
theorem getD_cast (l : List Nat) (j : Nat) : (l.map fun (n : Nat) => (n : Int)).getD j 0 = ((l.getD j 0 : Nat) : Int) := by
  simp only [List.getD_eq_getElem?_getD, List.getElem?_map]
  cases l[j]? <;> rfl
theorem tab64_of {W : World} (h : laidMetH Tryz.prog laidAll W) : Tab W := by
  have hM : laidMet Tryz.prog laidAll W := h
  have h1 : laidMet Tryz.prog [("math/bits.deBruijn64tab", Rows.laid_math_bits_deBruijn64tab)] W := hM.filter (fun x => x.1 == "math/bits.deBruijn64tab")
  rw [datum64] at h1
  have ht : Lib.TabIs Tryz.prog W "math/bits.deBruijn64tab" .u8 zs64 := Lib.tabIs_of_head (rest := []) gTab gTabType Tryz.underlying208 Tryz.underlying5 cells8 cells64 h1
  intro j hj
  rw [ht.cell gTab j (by unfold zs64; rw [List.length_map]; exact hj), ← getD_cast]
  rfl
end Go.Proofs.YtlpdomgedaockaaGreatDoor
