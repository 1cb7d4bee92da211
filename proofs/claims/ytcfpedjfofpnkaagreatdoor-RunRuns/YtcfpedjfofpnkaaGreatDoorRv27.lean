import Derived.Test.YtcfpedjfofpnkaaGreatDoorRv26
import Derived.Test.YtcfpedjfofpnkaaGreatDoorRv19
import Derived.Test.YtcfpedjfofpnkaaGreatDoorRv16
import Derived.Test.YtcfpedjfofpnkaaGreatDoorRv0
import Derived.Test.YtcfpedjfofpnkaaGreatDoorRv23
import Derived.Deep.RegionHeld3
set_option linter.unusedVariables false
set_option linter.unusedSimpArgs false
namespace Go.Proofs.YtcfpedjfofpnkaaGreatDoor
open Go.RowKit Go.Shelf Go.Proofs.Cod
structure PIok (len : Int → Nat) (p : PI) : Prop where
 ex : ∃ q ts, q ∈ shapeT ∧ p.i.op = q.1 ∧ ts.length = q.2.length ∧ p.off = offP (zipP q.2 ts) ∧ sm p.i ∧ ∀ c, c ∈ q.2 → isNb (c.toNat : Int) = true → 0 ≤ p.i.x ∧ p.i.x < len (c.toNat : Int)
theorem PIok.mono {len len' : Int → Nat} {p : PI} (h : PIok len p) (hl : ∀ k, len k ≤ len' k) : PIok len' p := by
 obtain ⟨q, ts, h1, h2, h3, h4, h5, h6⟩ := h.ex
 refine ⟨q, ts, h1, h2, h3, h4, h5, fun c hc hb => ?_⟩
 have := h6 c hc hb
 have := hl (c.toNat : Int)
 omega
structure PW (s : PS) : Prop where
 nlt : ∀ t k n, s.N t = some (k, n) → n < (s.nms k).length
 few : ∀ k, (s.nms k).length ≤ 4
 nm8 : ∀ k x, x ∈ s.nms k → x.length ≤ 8
 thr : (s.nms 116).length = s.bod.length
 bod : ∀ b, b ∈ s.bod → b.code.length ≤ 24 ∧ (∀ t n, b.labs t = some n → n ≤ b.code.length) ∧ ∀ p, p ∈ b.code → PIok (fun k => (s.nms k).length) p
theorem PW.new : PW PS.new := ⟨(fun t k n h => by cases h), (fun k => by simp [PS.new]), (fun k x h => by cases h), rfl, (fun b h => by cases h)⟩
theorem declAll_nlt {kd : Int} {len : Int → Nat} : ∀ (ts : List Tx) (N : Tx → Option (Int × Nat)) (l : List Tx) (p : (Tx → Option (Int × Nat)) × List Tx), (∀ t k n, N t = some (k, n) → n < (if k = kd then l.length else len k)) → declAll kd N l ts = some p → ∀ t k n, p.1 t = some (k, n) → n < (if k = kd then p.2.length else len k)
 | [], N, l, p, h, e => by
  have e : some (N, l) = some p := e
  cases e
  exact h
 | t :: ts, N, l, p, h, e => by
  cases hN : N t with
  | some q => simp [declAll, hN] at e
  | none =>
   have e : declAll kd (putT N t (kd, l.length)) (l ++ [t]) ts = some p := by
    simp only [declAll, hN] at e; exact e
   refine declAll_nlt ts _ _ p (fun x k n hx => ?_) e
   unfold putT at hx
   split at hx
   ·have hx : some (kd, l.length) = some (k, n) := hx
    cases hx
    rw [if_pos rfl, List.length_append]; simp
   ·have := h x k n hx
    split
    ·rename_i hk
     rw [if_pos hk] at this
     rw [List.length_append]; omega
    ·rename_i hk
     rw [if_neg hk] at this
     exact this
theorem nam8 {t : Tx} (h : isNam t = true) : t.length ≤ 8 := by
 unfold isNam at h
 simp only [Bool.and_eq_true, decide_eq_true_eq] at h
 omega
section
variable {s s' : PS}
theorem decl_pw {kd : Int} {ts : List Tx} (h : PW s) (e : declT kd ts s = .ok s') : (∀ t k n, s'.N t = some (k, n) → n < (s'.nms k).length) ∧ (∀ k, (s'.nms k).length ≤ 4) ∧ (∀ k x, x ∈ s'.nms k → x.length ≤ 8) ∧ s'.bod = s.bod ∧ (∀ k, (s.nms k).length ≤ (s'.nms k).length) ∧ (∀ k, k ≠ kd → s'.nms k = s.nms k) ∧ s'.nms kd = s.nms kd ++ ts := by
 unfold declT at e
 split at e
 ·cases e
 ·rename_i hc
  split at e
  ·cases e
  ·rename_i p hp
   split at e
   ·cases e
   ·rename_i hl
    cases e
    have hlen := declAll_len hp
    have hnl := declAll_nlt (len := fun k => (s.nms k).length) ts s.N (s.nms kd) p (fun t k n hN => by
     have := h.nlt t k n hN
     split
     ·rename_i hk; subst hk; exact this
     ·exact this) hp
    refine ⟨fun t k n hN => ?_, fun k => ?_, fun k x hx => ?_, rfl, fun k => ?_, fun k hk => putZ_other _ hk, ?_⟩
    ·have := hnl t k n hN
     show n < (putZ s.nms kd p.2 k).length
     by_cases hk : k = kd
     ·subst hk; rw [putZ_same]; rw [if_pos rfl] at this; exact this
     ·rw [putZ_other _ hk]; rw [if_neg hk] at this; exact this
    ·show (putZ s.nms kd p.2 k).length ≤ 4
     by_cases hk : k = kd
     ·subst hk; rw [putZ_same]; omega
     ·rw [putZ_other _ hk]; exact h.few k
    ·have hx : x ∈ putZ s.nms kd p.2 k := hx
     by_cases hk : k = kd
     ·subst hk
      rw [putZ_same, hlen] at hx
      rcases List.mem_append.1 hx with hx | hx
      ·exact h.nm8 k x hx
      ·have hall : ts.all isNam = true := by
        cases hb : ts.all isNam with
        | true => rfl
        | false => exact absurd (.inr (.inr hb)) hc
       exact nam8 (List.all_eq_true.1 hall x hx)
     ·rw [putZ_other _ hk] at hx
      exact h.nm8 k x hx
    ·show (s.nms k).length ≤ (putZ s.nms kd p.2 k).length
     by_cases hk : k = kd
     ·subst hk; rw [putZ_same, hlen, List.length_append]; omega
     ·rw [putZ_other _ hk]; exact Nat.le_refl _
    ·show putZ s.nms kd p.2 kd = _
     rw [putZ_same, hlen]
theorem set_pw (h : PW s) {b b' : PB} (hb : s.bod.getLast? = some b) (hb' : b'.code.length ≤ 24 ∧ (∀ t n, b'.labs t = some n → n ≤ b'.code.length) ∧ ∀ p, p ∈ b'.code → PIok (fun k => (s.nms k).length) p) : PW (setLast s b') := by
 refine ⟨h.nlt, h.few, h.nm8, ?_, fun x hx => ?_⟩
 ·show (s.nms 116).length = (s.bod.dropLast ++ [b']).length
  have hne : s.bod ≠ [] := fun e => by rw [e] at hb; cases hb
  have := List.length_pos_iff.2 hne
  rw [List.length_append, List.length_dropLast, h.thr]; simp; omega
 ·have hx : x ∈ s.bod.dropLast ++ [b'] := hx
  rcases List.mem_append.1 hx with hx | hx
  ·exact h.bod x (List.dropLast_subset _ hx)
  ·obtain rfl := List.mem_singleton.1 hx
   exact hb'
theorem instr_pw {line : Int} {f : Tx} {ts : List Tx} {b : PB} (h : PW s) (hb : s.bod.getLast? = some b) (e : instrT line f ts s b = .ok s') : PW s' := by
 unfold instrT at e
 split at e
 ·cases e
 ·rename_i ps hps
  split at e
  ·cases e
  ·rename_i hf
   split at e
   ·cases e
   ·rename_i hl
    split at e
    ·cases e
    ·rename_i i hi
     cases e
     have hbm := h.bod b (List.mem_of_getLast? hb)
     have hft : fitsT ts ps = true := by
      cases hb2 : fitsT ts ps with
      | true => rfl
      | false => exact absurd hb2 hf
     rcases parts_cases f with ⟨q, hq, hq1, hq2⟩ | ⟨hn, -⟩
     ·rw [hps] at hq2
      cases hq2
      have htl : ts.length = q.2.length := by
       by_cases hh : ts.length = q.2.length
       ·exact hh
       ·rw [fitsT_len hh] at hft; cases hft
      obtain ⟨g1, g2, g3, g4⟩ := fillAll_sm (len := fun k => (s.nms k).length) h.nlt h.few q.2 ts (newIns f) i (shape_letters hq) hft (sm_new f) hi
      refine set_pw h hb ⟨by show (b.code ++ [_]).length ≤ 24; rw [List.length_append]; simp; omega, fun t n hn => ?_, fun p hp => ?_⟩
      ·have := hbm.2.1 t n hn
       show n ≤ (b.code ++ [_]).length
       rw [List.length_append]; omega
      ·have hp : p ∈ b.code ++ [⟨i, line, offP (zipP q.2 ts)⟩] := hp
       rcases List.mem_append.1 hp with hp | hp
       ·exact hbm.2.2 p hp
       ·obtain rfl := List.mem_singleton.1 hp
        exact ⟨q, ts, hq, g2.trans hq1, htl, rfl, g1, fun c hc hb3 => g4 _ ((shape_parts hq htl).n c hc hb3).1⟩
     ·rw [hps] at hn; cases hn
theorem step_pw {line : Int} {f : Tx} {ts : List Tx} (h : PW s) (e : stepT line f ts s = .ok s') : PW s' := by
 unfold stepT at e
 split at e
 ·split at e
  ·rename_i hl
   cases hd : declT 116 ts s with
   | error x => rw [hd] at e; cases e
   | ok s1 =>
    rw [hd] at e
    cases e
    obtain ⟨d1, d2, d3, d4, d5, d6, d7⟩ := decl_pw h hd
    refine ⟨d1, d2, d3, ?_, fun b hb => ?_⟩
    ·show (s1.nms 116).length = (s1.bod ++ [_]).length
     rw [d7, List.length_append, List.length_append, h.thr, d4, hl]; rfl
    ·have hb : b ∈ s1.bod ++ [⟨[], fun _ => none⟩] := hb
     rcases List.mem_append.1 hb with hb | hb
     ·rw [d4] at hb
      obtain ⟨b1, b2, b3⟩ := h.bod b hb
      exact ⟨b1, b2, fun p hp => (b3 p hp).mono d5⟩
     ·obtain rfl := List.mem_singleton.1 hb
      exact ⟨by simp, (fun t n hn => by cases hn), (fun p hp => by cases hp)⟩
  ·cases e
 ·rename_i hT
  split at e
  ·rename_i hnone
   have hb0 : s.bod = [] := by
    cases hb : s.bod with
    | nil => rfl
    | cons a l => rw [hb] at hnone; simp at hnone
   obtain ⟨d1, d2, d3, d4, d5, d6, d7⟩ := decl_pw h e
   have hne : (116 : Int) ≠ headK f := by
    unfold headK
    split
    ·decide
    ·split
     ·decide
     ·split <;> decide
   refine ⟨d1, d2, d3, ?_, fun b hb => ?_⟩
   ·rw [d6 116 hne, d4]; exact h.thr
   ·rw [d4, hb0] at hb; cases hb
  ·rename_i b hb
   split at e
   ·unfold markT at e
    split at e
    ·cases e
    ·split at e
     ·cases e
     ·cases e
      obtain ⟨b1, b2, b3⟩ := h.bod b (List.mem_of_getLast? hb)
      refine set_pw h hb ⟨b1, fun t n hn => ?_, b3⟩
      have hn : putT b.labs f.dropLast b.code.length t = some n := hn
      unfold putT at hn
      split at hn
      ·cases hn; exact Nat.le_refl _
      ·exact b2 t n hn
   ·exact instr_pw h hb e
theorem lines_pw : ∀ (ls : List Tx) (n : Int) (s s' : PS), PW s → linesT ls n s = .ok s' → PW s'
 | [], _, s, s', h, e => by
  have e : Except.ok s = Except.ok s' := e
  cases e; exact h
 | l :: ls, n, s, s', h, e => by
  unfold linesT at e
  cases hl : lineT (n + 1) l s with
  | error x => rw [hl] at e; cases e
  | ok s1 =>
   rw [hl] at e
   refine lines_pw ls (n + 1) s1 s' ?_ e
   unfold lineT at hl
   split at hl
   ·cases hl; exact h
   ·exact step_pw h hl
end
def PIr (N : Tx → Option (Int × Nat)) (p : PI) : Prop := ∃ q ts, q ∈ shapeT ∧ fitsT ts q.2 = true ∧ fillAll N (newIns q.1) (zipP q.2 ts) = some p.i ∧ p.off = offP (zipP q.2 ts)
def NLe (N N' : Tx → Option (Int × Nat)) : Prop := ∀ t z, N t = some z → N' t = some z
theorem fillOne_mono {N N' : Tx → Option (Int × Nat)} (h : NLe N N') {i i' : In7} {p : Int × Tx} (e : fillOne N i p = some i') : fillOne N' i p = some i' := by
 unfold fillOne at e ⊢
 split
 ·rename_i h1; rw [if_pos h1] at e; exact e
 ·rename_i h1; rw [if_neg h1] at e
  split
  ·rename_i h1; rw [if_pos h1] at e; exact e
  ·rename_i h1; rw [if_neg h1] at e
   split
   ·rename_i h1; rw [if_pos h1] at e; exact e
   ·rename_i h1; rw [if_neg h1] at e
    split
    ·rename_i h1; rw [if_pos h1] at e; exact e
    ·rename_i h1; rw [if_neg h1] at e
     split
     ·rename_i h1; rw [if_pos h1] at e; exact e
     ·rename_i h1; rw [if_neg h1] at e
      cases hN : N p.2 with
      | none => rw [hN] at e; cases e
      | some z => rw [hN] at e; rw [h _ _ hN]; exact e
theorem fillAll_mono {N N' : Tx → Option (Int × Nat)} (h : NLe N N') : ∀ (l : List (Int × Tx)) (i i' : In7), fillAll N i l = some i' → fillAll N' i l = some i'
 | [], i, i', e => e
 | p :: l, i, i', e => by
  unfold fillAll at e ⊢
  cases h1 : fillOne N i p with
  | none => rw [h1] at e; cases e
  | some i1 =>
   rw [h1] at e
   rw [fillOne_mono h h1]
   exact fillAll_mono h l i1 i' e
theorem PIr.mono {N N' : Tx → Option (Int × Nat)} {p : PI} (h : PIr N p) (hN : NLe N N') : PIr N' p := by
 obtain ⟨q, ts, h1, h2, h3, h4⟩ := h
 exact ⟨q, ts, h1, h2, fillAll_mono hN _ _ _ h3, h4⟩
structure PR (s : PS) : Prop where
 nam : ∀ k x, x ∈ s.nms k → isNam x = true
 nt : ∀ t k n, s.N t = some (k, n) → (s.nms k)[n]? = some t
 nf : ∀ t k n, (s.nms k)[n]? = some t → s.N t = some (k, n)
 bod : ∀ b, b ∈ s.bod → ∀ p, p ∈ b.code → PIr s.N p
theorem PR.new : PR PS.new := ⟨(fun k x h => by cases h), (fun t k n h => by cases h), (fun t k n h => by cases h), (fun b h => by cases h)⟩
def lsK (kd : Int) (l : List Tx) (M : Int → List Tx) (k : Int) : List Tx := if k = kd then l else M k
theorem declAll_pr {kd : Int} {M : Int → List Tx} : ∀ (ts : List Tx) (N : Tx → Option (Int × Nat)) (l : List Tx) (p : (Tx → Option (Int × Nat)) × List Tx), (∀ t k n, N t = some (k, n) → (lsK kd l M k)[n]? = some t) → (∀ t k n, (lsK kd l M k)[n]? = some t → N t = some (k, n)) → declAll kd N l ts = some p → (∀ t k n, p.1 t = some (k, n) → (lsK kd p.2 M k)[n]? = some t) ∧ (∀ t k n, (lsK kd p.2 M k)[n]? = some t → p.1 t = some (k, n)) ∧ NLe N p.1
 | [], N, l, p, h1, h2, e => by
  have e : some (N, l) = some p := e
  cases e
  exact ⟨h1, h2, fun _ _ h => h⟩
 | t :: ts, N, l, p, h1, h2, e => by
  cases hN : N t with
  | some q => simp [declAll, hN] at e
  | none =>
   have e : declAll kd (putT N t (kd, l.length)) (l ++ [t]) ts = some p := by
    simp only [declAll, hN] at e; exact e
   have hput : ∀ x, x ≠ t → putT N t (kd, l.length) x = N x := fun x hx => by unfold putT; rw [if_neg hx]
   have hputt : putT N t (kd, l.length) t = some (kd, l.length) := by unfold putT; rw [if_pos rfl]
   have q1 : ∀ x k n, putT N t (kd, l.length) x = some (k, n) → (lsK kd (l ++ [t]) M k)[n]? = some x := fun x k n hx => by
    by_cases hxt : x = t
    ·subst hxt
     rw [hputt] at hx
     cases hx
     unfold lsK
     rw [if_pos rfl]; simp
    ·rw [hput x hxt] at hx
     have := h1 x k n hx
     unfold lsK at this ⊢
     split
     ·rename_i hk
      rw [if_pos hk] at this
      rw [List.getElem?_append_left (List.getElem?_eq_some_iff.1 this).1]; exact this
     ·rename_i hk
      rw [if_neg hk] at this; exact this
   have q2 : ∀ x k n, (lsK kd (l ++ [t]) M k)[n]? = some x → putT N t (kd, l.length) x = some (k, n) := fun x k n hx => by
    have hold : (lsK kd l M k)[n]? = some x → putT N t (kd, l.length) x = some (k, n) := fun h => by
     have h' := h2 x k n h
     rw [hput x (fun e => by rw [e, hN] at h'; cases h')]; exact h'
    by_cases hk : k = kd
    ·subst hk
     unfold lsK at hx hold
     rw [if_pos rfl] at hx hold
     by_cases hn : n < l.length
     ·rw [List.getElem?_append_left hn] at hx
      exact hold hx
     ·rw [List.getElem?_append_right (by omega)] at hx
      have hn0 : n - l.length = 0 := by
       have := (List.getElem?_eq_some_iff.1 hx).1
       simp at this; omega
      rw [hn0] at hx
      have hx : some t = some x := hx
      cases hx
      rw [hputt, show n = l.length by omega]
    ·refine hold ?_
     unfold lsK at hx ⊢
     rw [if_neg hk] at hx ⊢; exact hx
   obtain ⟨g1, g2, g3⟩ := declAll_pr (M := M) ts _ _ p q1 q2 e
   refine ⟨g1, g2, fun x z hx => g3 x z ?_⟩
   rw [hput x (fun e => by rw [e, hN] at hx; cases hx)]; exact hx
section
variable {s s' : PS}
theorem lsK_self (s : PS) (kd : Int) : lsK kd (s.nms kd) s.nms = s.nms := by
 funext k
 unfold lsK
 split
 ·rename_i h; rw [h]
 ·rfl
theorem decl_pr {kd : Int} {ts : List Tx} (h : PR s) (e : declT kd ts s = .ok s') : PR s' ∧ s'.bod = s.bod ∧ NLe s.N s'.N := by
 unfold declT at e
 split at e
 ·cases e
 ·rename_i hc
  split at e
  ·cases e
  ·rename_i p hp
   split at e
   ·cases e
   ·cases e
    have hlen := declAll_len hp
    obtain ⟨g1, g2, g3⟩ := declAll_pr (M := s.nms) ts s.N (s.nms kd) p (by rw [lsK_self]; exact h.nt) (by rw [lsK_self]; exact h.nf) hp
    refine ⟨⟨fun k x hx => ?_, g1, g2, fun b hb p' hp' => (h.bod b hb p' hp').mono g3⟩, rfl, g3⟩
    have hx : x ∈ putZ s.nms kd p.2 k := hx
    by_cases hk : k = kd
    ·subst hk
     rw [putZ_same, hlen] at hx
     rcases List.mem_append.1 hx with hx | hx
     ·exact h.nam k x hx
     ·have hall : ts.all isNam = true := by
       cases hb : ts.all isNam with
       | true => rfl
       | false => exact absurd (.inr (.inr hb)) hc
      exact List.all_eq_true.1 hall x hx
    ·rw [putZ_other _ hk] at hx
     exact h.nam k x hx
theorem set_pr (h : PR s) {b' : PB} (hb' : ∀ p, p ∈ b'.code → PIr s.N p) : PR (setLast s b') := by
 refine ⟨h.nam, h.nt, h.nf, fun x hx => ?_⟩
 have hx : x ∈ s.bod.dropLast ++ [b'] := hx
 rcases List.mem_append.1 hx with hx | hx
 ·exact h.bod x (List.dropLast_subset _ hx)
 ·obtain rfl := List.mem_singleton.1 hx
  exact hb'
theorem instr_pr {line : Int} {f : Tx} {ts : List Tx} {b : PB} (h : PR s) (hb : s.bod.getLast? = some b) (e : instrT line f ts s b = .ok s') : PR s' := by
 unfold instrT at e
 split at e
 ·cases e
 ·rename_i ps hps
  split at e
  ·cases e
  ·rename_i hf
   split at e
   ·cases e
   ·split at e
    ·cases e
    ·rename_i i hi
     cases e
     have hft : fitsT ts ps = true := by
      cases hb2 : fitsT ts ps with
      | true => rfl
      | false => exact absurd hb2 hf
     rcases parts_cases f with ⟨q, hq, hq1, hq2⟩ | ⟨hn, -⟩
     ·rw [hps] at hq2
      cases hq2
      refine set_pr h fun p hp => ?_
      have hp : p ∈ b.code ++ [⟨i, line, offP (zipP q.2 ts)⟩] := hp
      rcases List.mem_append.1 hp with hp | hp
      ·exact h.bod b (List.mem_of_getLast? hb) p hp
      ·obtain rfl := List.mem_singleton.1 hp
       rw [hq1] at hi
       exact ⟨q, ts, hq, hft, hi, rfl⟩
     ·rw [hps] at hn; cases hn
theorem step_pr {line : Int} {f : Tx} {ts : List Tx} (h : PR s) (e : stepT line f ts s = .ok s') : PR s' := by
 unfold stepT at e
 split at e
 ·split at e
  ·cases hd : declT 116 ts s with
   | error x => rw [hd] at e; cases e
   | ok s1 =>
    rw [hd] at e
    cases e
    obtain ⟨d1, -, -⟩ := decl_pr h hd
    refine ⟨d1.nam, d1.nt, d1.nf, fun b hb => ?_⟩
    have hb : b ∈ s1.bod ++ [⟨[], fun _ => none⟩] := hb
    rcases List.mem_append.1 hb with hb | hb
    ·exact d1.bod b hb
    ·obtain rfl := List.mem_singleton.1 hb
     exact fun p hp => by cases hp
  ·cases e
 ·split at e
  ·exact (decl_pr h e).1
  ·rename_i b hb
   split at e
   ·unfold markT at e
    split at e
    ·cases e
    ·split at e
     ·cases e
     ·cases e
      exact set_pr h (h.bod b (List.mem_of_getLast? hb))
   ·exact instr_pr h hb e
theorem lines_pr : ∀ (ls : List Tx) (n : Int) (s s' : PS), PR s → linesT ls n s = .ok s' → PR s'
 | [], _, s, s', h, e => by
  have e : Except.ok s = Except.ok s' := e
  cases e; exact h
 | l :: ls, n, s, s', h, e => by
  unfold linesT at e
  cases hl : lineT (n + 1) l s with
  | error x => rw [hl] at e; cases e
  | ok s1 =>
   rw [hl] at e
   refine lines_pr ls (n + 1) s1 s' ?_ e
   unfold lineT at hl
   split at hl
   ·cases hl; exact h
   ·exact step_pr h hl
end
end Go.Proofs.YtcfpedjfofpnkaaGreatDoor
namespace Go.Proofs.YtcfpedjfofpnkaaGreatDoor
open Go.RowKit Go.Proofs.Cod
theorem sm2_new (f : Tx) : sm2 (newIns f) := by unfold sm2 argB4 newIns; simp
theorem arg_b4 {t : Tx} (h : (isReg t || isNum t) = true) : argB4 (isReg t) (argN t : Int) := by
 have h1 : argN t < 1000 ∧ (isReg t = true → argN t < 4) := by
  unfold argN
  by_cases hr : isReg t = true
  ·rw [if_pos hr]
   have := reg_small hr
   exact ⟨by omega, fun _ => by omega⟩
  ·rw [if_neg hr]
   have hn : isNum t = true := by simpa [hr] using h
   unfold isNum at hn
   simp only [Bool.and_eq_true, decide_eq_true_eq] at hn
   have := num_small hn.2
   have h3 : 10 ^ t.length ≤ 10 ^ 3 := Nat.pow_le_pow_right (by omega) hn.1.2
   exact ⟨by omega, fun e => absurd e hr⟩
 refine ⟨by omega, by omega, fun e => by have := h1.2 e; omega⟩
section
variable {N : Tx → Option (Int × Nat)}
theorem fill_nm2 {i i' : In7} {t : Tx} {c : Int} (hi : sm2 i) (h : (match N t with | some (k, n) => if k = c then some { i with x := (n : Int) } else none | none => none) = some i') : sm2 i' := by
 cases hNt : N t with
 | none => rw [hNt] at h; cases h
 | some q =>
  obtain ⟨k, n⟩ := q
  rw [hNt] at h
  have h : (if k = c then some { i with x := (n : Int) } else none) = some i' := h
  by_cases hk : k = c
  ·rw [if_pos hk] at h
   cases h
   exact hi
  ·rw [if_neg hk] at h; cases h
theorem fillOne_sm2 {i i' : In7} {c : UInt8} {t : Tx} (hc : c ∈ letters) (hi : sm2 i) (hp : fitsP t (c.toNat : Int) = true) (h : fillOne N i ((c.toNat : Int), t) = some i') : sm2 i' := by
 rcases letters_or hc with rfl | rfl | rfl | rfl | rfl | rfl | rfl | rfl
 ·have h : some { i with r := (regN t : Int) } = some i' := h
  cases h
  have hr : isReg t = true := hp
  have := reg_small hr
  exact ⟨⟨by show (0 : Int) ≤ (regN t : Int); omega, by show (regN t : Int) < 4; omega⟩, hi.2⟩
 ·have h : some { i with aR := isReg t, aN := (argN t : Int) } = some i' := h
  cases h
  exact ⟨hi.1, arg_b4 hp, hi.2.2⟩
 ·have h : some { i with bR := isReg t, bN := (argN t : Int) } = some i' := h
  cases h
  exact ⟨hi.1, hi.2.1, arg_b4 hp⟩
 ·exact fill_nm2 (c := 118) hi h
 ·exact fill_nm2 (c := 102) hi h
 ·exact fill_nm2 (c := 109) hi h
 ·have h : some i = some i' := h
  cases h
  exact hi
 ·have h : some i = some i' := h
  cases h
  exact hi
theorem fillAll_sm2 : ∀ (ps : Tx) (ts : List Tx) (i i' : In7), (∀ c, c ∈ ps → c ∈ letters) → fitsT ts ps = true → sm2 i → fillAll N i (zipP ps ts) = some i' → sm2 i'
 | [], [], i, i', _, _, hi, h => by
  have h : some i = some i' := h
  cases h
  exact hi
 | [], _ :: _, _, _, _, h, _, _ => by cases h
 | _ :: _, [], _, _, _, h, _, _ => by cases h
 | c :: ps, t :: ts, i, i', hc, hf, hi, h => by
  have hf : (fitsP t (c.toNat : Int) && fitsT ts ps) = true := hf
  rw [Bool.and_eq_true] at hf
  have hz : zipP (c :: ps) (t :: ts) = ((c.toNat : Int), t) :: zipP ps ts := rfl
  rw [hz] at h
  cases h1 : fillOne N i ((c.toNat : Int), t) with
  | none =>
   unfold fillAll at h
   rw [h1] at h; cases h
  | some i1 =>
   have h : fillAll N i1 (zipP ps ts) = some i' := by
    unfold fillAll at h
    rw [h1] at h; exact h
   exact fillAll_sm2 ps ts i1 i' (fun c' h' => hc c' (by simp [h'])) hf.2 (fillOne_sm2 (hc c (by simp)) hi hf.1 h1) h
end
section
variable {s : PS}
theorem res_fit (h : PW s) (hr : PR s) {b : PB} (hb : b ∈ s.bod) {p : PI} (hp : p ∈ b.code) {i : In7} (he : resOff s.N b.labs p.i p.off = some i) : InsX (s.nms 118).length (s.nms 102).length (s.nms 109).length (s.nms 116).length b.code.length i := by
 obtain ⟨b1, b2, b3⟩ := h.bod b hb
 obtain ⟨q, ts, hq, hft, hfill, hoff⟩ := hr.bod b hb p hp
 have htl : ts.length = q.2.length := by
  by_cases hh : ts.length = q.2.length
  ·exact hh
  ·rw [fitsT_len hh] at hft; cases hft
 have hP := shape_parts hq htl
 have hs2 := fillAll_sm2 q.2 ts (newIns q.1) p.i (shape_letters hq) hft (sm2_new q.1) hfill
 obtain ⟨g1, g2, g3, g4⟩ := fillAll_sm (len := fun k => (s.nms k).length) h.nlt h.few q.2 ts (newIns q.1) p.i (shape_letters hq) hft (sm_new q.1) hfill
 have hop : p.i.op = q.1 := g2
 have key : ∃ x : Int, i = { p.i with x := x } ∧ 0 ≤ x ∧ ((116 : UInt8) ∈ q.2 → x < (s.nms 116).length) ∧ ((108 : UInt8) ∈ q.2 → x ≤ b.code.length) ∧ ((116 : UInt8) ∉ q.2 → (108 : UInt8) ∉ q.2 → x = p.i.x) := by
  by_cases ht : (116 : UInt8) ∈ q.2
  ·obtain ⟨w, hw⟩ := hP.t ht
   have hl : (108 : UInt8) ∉ q.2 := by
    have : ∀ q, q ∈ shapeT → (116 : UInt8) ∈ q.2 → (108 : UInt8) ∉ q.2 := by decide
    exact this q hq ht
   rw [hoff, hw] at he
   unfold resOff at he
   cases hlk : lookOff s.N b.labs (116, w) with
   | none => rw [hlk] at he; cases he
   | some n =>
    rw [hlk] at he
    have he : some { p.i with x := (n : Int) } = some i := he
    cases he
    have hn : n < (s.nms 116).length := by
     have hlk : (match s.N w with | some p => if p.1 = 116 then some p.2 else none | none => none) = some n := hlk
     cases hN : s.N w with
     | none => rw [hN] at hlk; cases hlk
     | some z =>
      obtain ⟨k, m⟩ := z
      rw [hN] at hlk
      have hlk : (if k = 116 then some m else none) = some n := hlk
      by_cases hk : k = 116
      ·subst hk
       rw [if_pos rfl] at hlk
       cases hlk
       exact h.nlt w 116 n hN
      ·rw [if_neg hk] at hlk; cases hlk
    exact ⟨n, rfl, by omega, fun _ => by omega, fun e => absurd e hl, fun e => absurd ht e⟩
  ·by_cases hl : (108 : UInt8) ∈ q.2
   ·obtain ⟨w, hw⟩ := hP.l hl
    rw [hoff, hw] at he
    unfold resOff at he
    cases hlk : lookOff s.N b.labs (108, w) with
    | none => rw [hlk] at he; cases he
    | some n =>
     rw [hlk] at he
     have he : some { p.i with x := (n : Int) } = some i := he
     cases he
     have hn : n ≤ b.code.length := by
      have hlk : (match (b.labs w).map fun n => ((108 : Int), n) with | some p => if p.1 = 108 then some p.2 else none | none => none) = some n := hlk
      cases hN : b.labs w with
      | none => rw [hN] at hlk; cases hlk
      | some z =>
       rw [hN] at hlk
       have hlk : some z = some n := hlk
       cases hlk
       exact b2 w n hN
     exact ⟨n, rfl, by omega, fun e => absurd e ht, fun _ => by omega, fun _ e => absurd hl e⟩
   ·rw [hoff, hP.o ht hl] at he
    have he : some p.i = some i := he
    cases he
    exact ⟨p.i.x, rfl, g1.2.2.2.1, fun e => absurd e ht, fun e => absurd e hl, fun _ _ => rfl⟩
 obtain ⟨x, rfl, hx0, hx1, hx2, hx3⟩ := key
 have nb : ∀ (k : UInt8), isNb (k.toNat : Int) = true → k ∈ q.2 → x < (s.nms (k.toNat : Int)).length := fun k hk hm => by
  have hn := hP.n k hm hk
  have := g4 _ hn.1
  rw [hx3 hn.2.1 hn.2.2]; exact this.2
 exact ⟨hs2, hx0, q, hq, hop, nb 118 (by decide), nb 102 (by decide), nb 109 (by decide), hx1, hx2⟩
theorem resCode_fit (h : PW s) (hr : PR s) {b : PB} (hb : b ∈ s.bod) : ∀ (l : List PI) (c : List In7), (∀ p, p ∈ l → p ∈ b.code) → resCode s.N b.labs l = .ok c → c.length = l.length ∧ ∀ i, i ∈ c → InsX (s.nms 118).length (s.nms 102).length (s.nms 109).length (s.nms 116).length b.code.length i
 | [], c, _, e => by
  have e : Except.ok [] = Except.ok c := e
  cases e
  exact ⟨rfl, fun i hi => by cases hi⟩
 | p :: l, c, hl, e => by
  unfold resCode at e
  cases hq : resOff s.N b.labs p.i p.off with
  | none => rw [hq] at e; cases e
  | some i =>
   rw [hq] at e
   cases hc : resCode s.N b.labs l with
   | error x => rw [hc] at e; cases e
   | ok c' =>
    rw [hc] at e
    cases e
    obtain ⟨h1, h2⟩ := resCode_fit h hr hb l c' (fun p' h' => hl p' (by simp [h'])) hc
    refine ⟨by simp [h1], fun j hj => ?_⟩
    rcases List.mem_cons.1 hj with rfl | hj
    ·exact res_fit h hr hb (hl p (by simp)) hq
    ·exact h2 j hj
theorem resAll_fit (h : PW s) (hr : PR s) : ∀ (l : List PB) (C : List (List In7)), (∀ b, b ∈ l → b ∈ s.bod) → resAll s.N l = .ok C → C.length = l.length ∧ ∀ c, c ∈ C → c.length ≤ 24 ∧ ∀ i, i ∈ c → InsX (s.nms 118).length (s.nms 102).length (s.nms 109).length (s.nms 116).length c.length i
 | [], C, _, e => by
  have e : Except.ok [] = Except.ok C := e
  cases e
  exact ⟨rfl, fun c hc => by cases hc⟩
 | b :: l, C, hl, e => by
  unfold resAll at e
  cases hq : resCode s.N b.labs b.code with
  | error x => rw [hq] at e; cases e
  | ok c0 =>
   rw [hq] at e
   cases hc : resAll s.N l with
   | error x => rw [hc] at e; cases e
   | ok C' =>
    rw [hc] at e
    cases e
    have hb := hl b (by simp)
    obtain ⟨g1, g2⟩ := resCode_fit h hr hb b.code c0 (fun _ h' => h') hq
    obtain ⟨h1, h2⟩ := resAll_fit h hr l C' (fun b' h' => hl b' (by simp [h'])) hc
    refine ⟨by simp [h1], fun c hcm => ?_⟩
    rcases List.mem_cons.1 hcm with rfl | hcm
    ·rw [g1]
     exact ⟨(h.bod b hb).1, g2⟩
    ·exact h2 c hcm
end
theorem parse_fit {t : Tx} {s : PS} {C : List (List In7)} (h : parseT t = .ok (s, C)) : ProgB (s.nms 118) (s.nms 102) (s.nms 109) (s.nms 116) C := by
 unfold parseT at h
 split at h
 ·cases h
 ·unfold parseL at h
  split at h
  ·cases h
  ·rename_i s0 hs
   split at h
   ·cases h
   ·rename_i C0 hC
    cases h
    have hw := lines_pw _ _ _ _ PW.new hs
    have hr := lines_pr _ _ _ _ PR.new hs
    obtain ⟨h1, h2⟩ := resAll_fit hw hr s.bod C (fun _ h' => h') hC
    exact ⟨hw.few _, hw.few _, hw.few _, hw.few _, hw.nm8 _, hw.nm8 _, hw.nm8 _, hw.nm8 _, by rw [h1, hw.thr], h2⟩
end Go.Proofs.YtcfpedjfofpnkaaGreatDoor
namespace Go.Proofs.YtcfpedjfofpnkaaGreatDoor
open Go.RowKit Go.Shelf Go.Proofs.Cod
set_option maxRecDepth 100000 in
theorem num_any (n : Int) (w : World) : Calls Tryz.prog 18 #[.int .i64 n] w fun e w' => e = .returned (.int .i64 n) ∧ w' = w := by
 go_enter Tryz.func18, Tryz.ntmps18
 go_wp2_with fail
 go_ret
 exact ⟨rfl, rfl⟩
theorem Tryz.sizePg : (Tryz.prog.info? 26).map (·.size) = some 4 := by kernel_rfl
theorem Tryz.sizeRg : (Tryz.prog.info? 29).map (·.size) = some 4 := by kernel_rfl
theorem load_val {P : Program} {w : World} {fn : Func} {tmps : Array Value} {b c T U : Nat} {v u x : Value} (hr : fn.results = #[.cell 2 T, .cell 3 U, .tmp 4]) (h2 : tmps[2]? = some (.pointer (some ⟨b, 0, none⟩))) (h3 : tmps[3]? = some (.pointer (some ⟨c, 0, none⟩))) (h4 : tmps[4]? = some x) (hl : (loadVar T ⟨b, 0, none⟩).run P w = .ok v w) (hm : (loadVar U ⟨c, 0, none⟩).run P w = .ok u w) : (results fn tmps).run P w = .ok (.tuple #[v, u, x]) w := by
 simp [results, hr, h2, h3, h4, asAddr, hl, hm]
def four (a b c d : Value) (k : Nat) : Value := if k = 0 then a else if k = 1 then b else if k = 2 then c else d
theorem four_row (a b c d : Value) : ((List.range 4).map (four a b c d)).toArray = #[a, b, c, d] := rfl
theorem four_new {w : World} {b T : Nat} {x y z u : Value} (h : w.heap[b]? = some (.cells #[x, y, z, u] T)) : RowF w b T 4 (four x y z u) := by
 refine ⟨_, h, rfl, fun k hk => ?_⟩
 have : k = 0 ∨ k = 1 ∨ k = 2 ∨ k = 3 := by omega
 rcases this with rfl | rfl | rfl | rfl <;> rfl
def nilV : Value := .slice none 0 0
def LoadR (w : World) (t : Tx) (e : Ending) (w' : World) : Prop := Below w.heap.size w w' ∧
 (e = .returned (.tuple #[.agg #[nilV, nilV, nilV, nilV], .agg #[nilV, nilV, nilV, nilV], .bool false]) ∨
  (∃ s C vV fV lV thV L qv qf ql qt P TV, parseT t = .ok (s, C) ∧ e = .returned (.tuple #[.agg #[vV, fV, lV, thV], .agg #[qv, qf, ql, qt], .bool true]) ∧
    ProgW w' w.heap.size vV fV lV thV (s.nms 118) (s.nms 102) (s.nms 109) L C ∧ L.map Prod.fst = s.nms 116 ∧ QView w' w.heap.size qv qf ql qt P TV ∧ P.vs = s.nms 118 ∧ P.fs = s.nms 102 ∧ P.ls = s.nms 109 ∧ P.names = s.nms 116 ∧ (P.thr.map fun th => th.code.map RI.i) = C))
theorem QView.belowW {w w' : World} {base : Nat} {vV fV lV tV : Value} {P : RP} {TV : List (Value × Value)} (h : QView w base vV fV lV tV P TV) (hb : Below w.heap.size w w') : QView w' base vV fV lV tV P TV := h.above fun k _ hk => hb.block k hk
theorem QView.base {w : World} {base base' : Nat} {vV fV lV tV : Value} {P : RP} {TV : List (Value × Value)} (h : QView w base vV fV lV tV P TV) (hb : base' ≤ base) : QView w base' vV fV lV tV P TV :=
 ⟨c_base h.v hb, c_base h.f hb, c_base h.l hb, c_base h.t hb, h.len, fun j th p h1 h2 => c_base (h.c j th p h1 h2) hb⟩
theorem ProgW.sameAt {w w' : World} {base : Nat} {vV fV lV thV : Value} {vs fs ls : List Tx} {L : List (Tx × Value)} {C : List (List In7)} (h : ProgW w base vV fV lV thV vs fs ls L C) (hb : ∀ k, base ≤ k → k < w.heap.size → w'.heap[k]? = w.heap[k]?) : ProgW w' base vV fV lV thV vs fs ls L C :=
 ⟨c_above h.v hb, c_above h.f hb, c_above h.l hb, c_above h.t hb, fun i p is h1 h2 => c_above (h.c i p is h1 h2) hb, h.len⟩
end Go.Proofs.YtcfpedjfofpnkaaGreatDoor
