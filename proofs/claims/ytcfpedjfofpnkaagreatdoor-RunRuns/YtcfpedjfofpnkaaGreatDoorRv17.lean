import Derived.Test.YtcfpedjfofpnkaaGreatDoorRv16
import Derived.Test.YtcfpedjfofpnkaaGreatDoorRv9
set_option linter.unusedVariables false
set_option linter.unusedSimpArgs false
namespace Go.Proofs.YtcfpedjfofpnkaaGreatDoor
open Go.RowKit Go.Proofs.Cod
def letters : List UInt8 := [114, 97, 98, 118, 102, 109, 116, 108]
theorem letters_or {c : UInt8} (h : c ∈ letters) : c = 114 ∨ c = 97 ∨ c = 98 ∨ c = 118 ∨ c = 102 ∨ c = 109 ∨ c = 116 ∨ c = 108 := by simpa [letters] using h
theorem shape_letters {p : Tx × Tx} (h : p ∈ shapeT) : ∀ c, c ∈ p.2 → c ∈ letters := by
 have : ∀ p, p ∈ shapeT → p.2.all (fun c => letters.contains c) = true := by decide
 intro c hc
 have := List.all_eq_true.1 (this p h) c hc
 simpa using this
section
variable {P : RP} {N : Tx → Option (Int × Nat)}
theorem step_fit {c : UInt8} (hc : c ∈ letters) (t : Tx) : rFit (letX c) t = fitsP t (c.toNat : Int) := by
 rcases letters_or hc with rfl | rfl | rfl | rfl | rfl | rfl | rfl | rfl <;> simp [rFit, letX, fitsP, argB]
theorem fill_name (h : NOk N (getK P)) {k : Int} (hk : isK k) (i : In7) (t : Tx) : ((match N t with | some (k', n) => if k' = k then some { i with x := (n : Int) } else none | none => none) = (none : Option In7) ∧ findZ (getK P k) t < 0) ∨ ((match N t with | some (k', n) => if k' = k then some { i with x := (n : Int) } else none | none => none) = some { i with x := findZ (getK P k) t } ∧ 0 ≤ findZ (getK P k) t) := by
 by_cases q : findZ (getK P k) t = -1
 ·left
  refine ⟨?_, by omega⟩
  cases hN : N t with
  | none => rfl
  | some p =>
   obtain ⟨k', n⟩ := p
   show (if k' = k then _ else _) = _
   by_cases e : k' = k
   ·subst e
    have := ((h t k' n).1 hN).2
    omega
   ·rw [if_neg e]
 ·right
  have hge := findZ_ge (getK P k) t
  refine ⟨?_, by omega⟩
  have hN := (h t k (findZ (getK P k) t).toNat).2 ⟨hk, by omega⟩
  rw [hN]
  show (if k = k then _ else _) = _
  rw [if_pos rfl, Int.toNat_of_nonneg (by omega)]
theorem step_fill (h : NOk N (getK P)) {c : UInt8} (hc : c ∈ letters) (r : RI) (hx : 0 ≤ r.i.x) (t : Tx) : (fillOne N r.i ((c.toNat : Int), t) = none ∧ (rSet P r (letX c) t).i.x < 0) ∨ (fillOne N r.i ((c.toNat : Int), t) = some (rSet P r (letX c) t).i ∧ 0 ≤ (rSet P r (letX c) t).i.x) := by
 rcases letters_or hc with rfl | rfl | rfl | rfl | rfl | rfl | rfl | rfl
 ·exact .inr ⟨rfl, hx⟩
 ·exact .inr ⟨rfl, hx⟩
 ·exact .inr ⟨rfl, hx⟩
 ·exact fill_name (P := P) h (k := 118) (by simp [isK]) r.i t
 ·exact fill_name (P := P) h (k := 102) (by simp [isK]) r.i t
 ·exact fill_name (P := P) h (k := 109) (by simp [isK]) r.i t
 ·exact .inr ⟨rfl, hx⟩
 ·exact .inr ⟨rfl, hx⟩
def wordOf : Tx → List (UInt8 × Tx) → Tx
 | x, [] => x
 | x, p :: l => wordOf (if p.1 = 114 ∨ p.1 = 97 ∨ p.1 = 98 then x else p.2) l
theorem set_word (r : RI) {c : UInt8} (hc : c ∈ letters) (t : Tx) : (rSet P r (letX c) t).word = (if letX c = 114 ∨ letX c = 97 ∨ letX c = 98 then r.word else t) ∧ (rSet P r (letX c) t).line = r.line ∧ (rSet P r (letX c) t).i.op = r.i.op := by
 rcases letters_or hc with rfl | rfl | rfl | rfl | rfl | rfl | rfl | rfl <;> exact ⟨rfl, rfl, rfl⟩
theorem go_five : ∀ (ps : Tx) (ts : List Tx) (r : RI), ts.length = ps.length → (∀ c, c ∈ ps → c ∈ letters) → (fitsT ts ps = false ∧ rGo P r 5 ((ps.map letX).zip ts) = none) ∨ (fitsT ts ps = true ∧ ∃ r', rGo P r 5 ((ps.map letX).zip ts) = some (r', 5))
 | [], [], r, _, _ => .inr ⟨rfl, r, rfl⟩
 | [], _ :: _, _, h, _ => by simp at h
 | _ :: _, [], _, h, _ => by simp at h
 | c :: ps, t :: ts, r, hl, hc => by
  have hc0 := hc c (by simp)
  rw [List.map_cons, List.zip_cons_cons, rGo_cons, step_fit hc0]
  show (fitsP t (c.toNat : Int) && fitsT ts ps) = false ∧ _ ∨ (fitsP t (c.toNat : Int) && fitsT ts ps) = true ∧ _
  cases hf : fitsP t (c.toNat : Int) with
  | false => exact .inl ⟨rfl, by simp⟩
  | true =>
   rw [if_pos rfl, Bool.true_and]
   have e5 : (if (rSet P r (letX c) t).i.x < 0 then (5 : Int) else 5) = 5 := by split <;> rfl
   rw [e5]
   exact go_five ps ts _ (by simpa using hl) (fun c' h' => hc c' (by simp [h']))
theorem go_zero (h : NOk N (getK P)) : ∀ (ps : Tx) (ts : List Tx) (r : RI), ts.length = ps.length → (∀ c, c ∈ ps → c ∈ letters) → 0 ≤ r.i.x → (fitsT ts ps = false ∧ rGo P r 0 ((ps.map letX).zip ts) = none) ∨ (fitsT ts ps = true ∧ ((fillAll N r.i (zipP ps ts) = none ∧ ∃ r', rGo P r 0 ((ps.map letX).zip ts) = some (r', 5)) ∨ ∃ r', fillAll N r.i (zipP ps ts) = some r'.i ∧ rGo P r 0 ((ps.map letX).zip ts) = some (r', 0) ∧ 0 ≤ r'.i.x ∧ r'.line = r.line ∧ r'.i.op = r.i.op ∧ r'.word = wordOf r.word ((ps.map letX).zip ts)))
 | [], [], r, _, _, hx => .inr ⟨rfl, .inr ⟨r, rfl, rfl, hx, rfl, rfl, rfl⟩⟩
 | [], _ :: _, _, h, _, _ => by simp at h
 | _ :: _, [], _, h, _, _ => by simp at h
 | c :: ps, t :: ts, r, hl, hc, hx => by
  have hc0 := hc c (by simp)
  have hl' : ts.length = ps.length := by simpa using hl
  have hc' : ∀ c', c' ∈ ps → c' ∈ letters := fun c' h' => hc c' (by simp [h'])
  have hz : zipP (c :: ps) (t :: ts) = ((c.toNat : Int), t) :: zipP ps ts := rfl
  rw [List.map_cons, List.zip_cons_cons, rGo_cons, step_fit hc0, hz]
  show (fitsP t (c.toNat : Int) && fitsT ts ps) = false ∧ _ ∨ (fitsP t (c.toNat : Int) && fitsT ts ps) = true ∧ _
  cases hf : fitsP t (c.toNat : Int) with
  | false => exact .inl ⟨rfl, by simp⟩
  | true =>
   rw [if_pos rfl, Bool.true_and]
   have hfa : ∀ o, fillOne N r.i ((c.toNat : Int), t) = o → fillAll N r.i (((c.toNat : Int), t) :: zipP ps ts) = match o with | some i' => fillAll N i' (zipP ps ts) | none => none := fun o ho => by
    conv => lhs; unfold fillAll
    rw [ho]
    cases o <;> rfl
   rcases step_fill h hc0 r hx t with ⟨h1, h2⟩ | ⟨h1, h2⟩
   ·rw [if_pos h2, hfa _ h1]
    rcases go_five (P := P) ps ts (rSet P r (letX c) t) hl' hc' with ⟨g1, g2⟩ | ⟨g1, g2⟩
    ·exact .inl ⟨g1, g2⟩
    ·exact .inr ⟨g1, .inl ⟨rfl, g2⟩⟩
   ·rw [if_neg (by omega), hfa _ h1]
    obtain ⟨s1, s2, s3⟩ := set_word (P := P) r hc0 t
    rcases go_zero h ps ts (rSet P r (letX c) t) hl' hc' h2 with ⟨g1, g2⟩ | ⟨g1, g2 | ⟨r', g2, g3, g4, g5, g6, g7⟩⟩
    ·exact .inl ⟨g1, g2⟩
    ·exact .inr ⟨g1, .inl g2⟩
    ·refine .inr ⟨g1, .inr ⟨r', g2, g3, g4, g5.trans s2, g6.trans s3, ?_⟩⟩
     rw [g7, s1]; rfl
end
theorem len2 {l : List Tx} (h : l.length = 2) : ∃ a b, l = [a, b] := by
 rcases l with _ | ⟨a, _ | ⟨b, _ | ⟨c, l⟩⟩⟩
 ·simp at h
 ·simp at h
 ·exact ⟨a, b, rfl⟩
 ·simp at h
theorem len3 {l : List Tx} (h : l.length = 3) : ∃ a b c, l = [a, b, c] := by
 rcases l with _ | ⟨a, _ | ⟨b, _ | ⟨c, _ | ⟨d, l⟩⟩⟩⟩
 ·simp at h
 ·simp at h
 ·simp at h
 ·exact ⟨a, b, c, rfl⟩
 ·simp at h
theorem off_word {f : Tx} {p : Tx × Tx} (hp : p ∈ shapeT) (hf : f = p.1) (hs : partsT f = some p.2) {ts : List Tx} (hl : ts.length = p.2.length) {r : RI} (ho : r.i.op = f) (hw : r.word = wordOf [] ((p.2.map letX).zip ts)) : offP (zipP p.2 ts) = offW r := by
 have hform : formT r.i.op = p.2.map letX := by rw [ho]; unfold formT; rw [hs]
 unfold offW
 rw [hform, hw]
 clear hw hform ho hs hf
 simp only [shapeT, List.mem_cons, List.not_mem_nil, or_false] at hp
 rcases hp with rfl | rfl | rfl | rfl | rfl | rfl | rfl | rfl | rfl | rfl | rfl | rfl | rfl | rfl | rfl | rfl | rfl <;>
  (first
    | (obtain rfl := List.length_eq_zero_iff.1 hl; rfl)
    | (obtain ⟨a, rfl⟩ := List.length_eq_one_iff.1 hl; rfl)
    | (obtain ⟨a, b, rfl⟩ := len2 hl; rfl)
    | (obtain ⟨a, b, c, rfl⟩ := len3 hl; rfl))
section
variable {P P' : RP} {s : PS} {f : Tx} {ts : List Tx} {e : Int}
theorem pl_ins (h : PL P s) {k : Nat} {th : RTh} {line : Int} (hline : 0 < line) (hk : P.thr.length = k + 1) (hth : P.thr[k]? = some th) (hR : RIns P k th line f ts e P') : Both (instrT line f ts s (pbOf th)) e P' := by
 have hmem := List.mem_of_getElem? hth
 unfold RIns at hR
 unfold instrT
 rcases parts_cases f with ⟨p, hp, hf, hs⟩ | ⟨hn, -⟩
 ·rw [hs]
  have hform : formT f = p.2.map letX := by unfold formT; rw [hs]
  show Both (if fitsT ts p.2 = false then _ else _) e P'
  by_cases hl : ts.length = p.2.length
  ·have hi : rInstrT P line f ts = rGo P (ri0 f line) 0 ((p.2.map letX).zip ts) := by
    unfold rInstrT
    rw [hform, if_neg (by simp [hs, hl])]
   rw [hi] at hR
   rcases go_zero h.N p.2 ts (ri0 f line) hl (shape_letters hp) (Int.le_refl _) with ⟨g1, g2⟩ | ⟨g1, g2⟩
   ·rw [g2] at hR
    have hR : e = 2 := hR
    exact .inl ⟨by rw [hR]; decide, by rw [if_pos g1, hR]⟩
   ·rw [if_neg (by rw [g1]; simp)]
    have hlen : (pbOf th).code.length = th.code.length := by simp [pbOf]
    rw [hlen]
    have hle := h.code th hmem
    rcases g2 with ⟨g2, r', g3⟩ | ⟨r', g2, g3, g4, g5, g6, g7⟩
    ·rw [g3] at hR
     have hR : ((5 : Int) = 2 ∧ e = 2) ∨ ((5 : Int) ≠ 2 ∧ ((th.code.length = 24 ∧ e = 4) ∨ (th.code.length ≠ 24 ∧ e = 5 ∧ P' = { P with thr := P.thr.set k { th with code := th.code ++ [r'] } }))) := hR
     rcases hR with ⟨q, _⟩ | ⟨_, hR⟩
     ·omega
     ·rcases hR with ⟨q1, rfl⟩ | ⟨q1, rfl, _⟩
      ·exact .inl ⟨by decide, by rw [if_pos (by omega)]⟩
      ·refine .inl ⟨by decide, ?_⟩
       rw [if_neg (by omega)]
       show (match fillAll s.N (newIns f) (zipP p.2 ts) with | none => _ | some i => _) = _
       have g2 : fillAll s.N (newIns f) (zipP p.2 ts) = none := g2
       rw [g2]
    ·rw [g3] at hR
     have hR : ((0 : Int) = 2 ∧ e = 2) ∨ ((0 : Int) ≠ 2 ∧ ((th.code.length = 24 ∧ e = 4) ∨ (th.code.length ≠ 24 ∧ e = 0 ∧ P' = { P with thr := P.thr.set k { th with code := th.code ++ [r'] } }))) := hR
     rcases hR with ⟨q, _⟩ | ⟨_, hR⟩
     ·omega
     ·rcases hR with ⟨q1, rfl⟩ | ⟨q1, rfl, rfl⟩
      ·exact .inl ⟨by decide, by rw [if_pos (by omega)]⟩
      ·right
       have g2 : fillAll s.N (newIns f) (zipP p.2 ts) = some r'.i := g2
       refine ⟨rfl, _, by rw [if_neg (by omega), g2], ?_⟩
       have hoff := off_word hp hf hs hl g6 g7
       have := h.setTh hk hth (th' := { th with code := th.code ++ [r'] }) rfl (fun r hr => by
        rcases List.mem_append.1 hr with q | q
        ·exact h.pos th hmem r q
        ·obtain rfl := List.mem_singleton.1 q
         exact ⟨g4, by rw [g5]; exact hline⟩) (by simp; omega)
       have e1 : ({ pbOf th with code := (pbOf th).code ++ [⟨r'.i, line, offP (zipP p.2 ts)⟩] } : PB) = pbOf { th with code := th.code ++ [r'] } := by
        unfold pbOf
        have g5 : r'.line = line := g5
        show PB.mk (th.code.map piOf ++ _) _ = PB.mk ((th.code ++ [r']).map piOf) _
        rw [List.map_append, hoff]
        show PB.mk (_ ++ [(⟨r'.i, line, offW r'⟩ : PI)]) _ = PB.mk (_ ++ [(⟨r'.i, r'.line, offW r'⟩ : PI)]) _
        rw [g5]
       rw [e1]; exact this
  ·have hi : rInstrT P line f ts = none := by
    unfold rInstrT
    rw [hform, if_pos (.inr (by simpa using hl))]
   rw [hi] at hR
   have hR : e = 2 := hR
   exact .inl ⟨by rw [hR]; decide, by rw [if_pos (fitsT_len hl), hR]⟩
 ·have hi : rInstrT P line f ts = none := by
   unfold rInstrT
   rw [if_pos (.inl hn)]
  rw [hi] at hR
  have hR : e = 2 := hR
  rw [hn]
  exact .inl ⟨by rw [hR]; decide, by rw [hR]⟩
theorem labGo_F (x : Tx) (l : List (Tx × Nat)) : labGo x l (-1) = match labF l x with | some n => (n : Int) | none => -1 := by
 rcases List.eq_nil_or_concat l with q | ⟨l0, p, q⟩
 ·subst q; rfl
 ·rw [List.concat_eq_append] at q
  have ih := labGo_F x l0
  subst q
  obtain ⟨y, n⟩ := p
  rw [labF_app]
  unfold labGo at ih ⊢
  rw [List.foldl_append, ih]
  unfold putT
  show (if y = x then (n : Int) else _) = _
  by_cases q : y = x
  ·rw [if_pos q, if_pos q.symm]
  ·rw [if_neg q, if_neg (fun q' => q q'.symm)]
termination_by l.length
decreasing_by subst q; simp
theorem res_one (h : PL P s) {th : RTh} {r : RI} (hr : 0 ≤ r.i.x) : resOff s.N (labF th.labs) r.i (offW r) = if rX P th r < 0 then none else some (rsI P th r).i := by
 unfold offW
 by_cases h1 : formT r.i.op = [116]
 ·have hx : rX P th r = findZ (getK P 116) r.word := by unfold rX; rw [if_pos h1]; simp [getK]
  have hi : (rsI P th r).i = { r.i with x := findZ (getK P 116) r.word } := by unfold rsI RI.at; rw [hx]
  rw [if_pos h1, hx, hi]
  have hl : lookOff s.N (labF th.labs) (116, r.word) = match s.N r.word with | some p => if p.1 = 116 then some p.2 else none | none => none := rfl
  by_cases q : findZ (getK P 116) r.word = -1
  ·rw [if_pos (by omega)]
   have hl2 : lookOff s.N (labF th.labs) (116, r.word) = none := by
    rw [hl]
    cases hN : s.N r.word with
    | none => rfl
    | some p =>
     obtain ⟨k', n⟩ := p
     show (if k' = 116 then _ else _) = _
     by_cases e : k' = 116
     ·subst e
      have := ((h.N r.word 116 n).1 hN).2
      omega
     ·rw [if_neg e]
   unfold resOff
   rw [hl2]
  ·have hge := findZ_ge (getK P 116) r.word
   have hN := (h.N r.word 116 (findZ (getK P 116) r.word).toNat).2 ⟨by simp [isK], by omega⟩
   have hl2 : lookOff s.N (labF th.labs) (116, r.word) = some (findZ (getK P 116) r.word).toNat := by
    rw [hl, hN]
    show (if (116 : Int) = 116 then _ else _) = _
    rw [if_pos rfl]
   rw [if_neg (by omega)]
   unfold resOff
   rw [hl2]
   show resOff _ _ { r.i with x := (((findZ (getK P 116) r.word).toNat : Nat) : Int) } [] = _
   rw [Int.toNat_of_nonneg (by omega)]; rfl
 ·rw [if_neg h1]
  by_cases h2 : isL (formT r.i.op) = true
  ·have hx : rX P th r = match labF th.labs r.word with | some n => (n : Int) | none => -1 := by unfold rX; rw [if_neg h1, if_pos h2, labGo_F]
   have hl : lookOff s.N (labF th.labs) (108, r.word) = labF th.labs r.word := by
    show (match (labF th.labs r.word).map fun n => ((108 : Int), n) with | some p => if p.1 = 108 then some p.2 else none | none => none) = _
    cases labF th.labs r.word with
    | none => rfl
    | some n => rfl
   rw [if_pos h2]
   unfold resOff
   rw [hl]
   cases hq : labF th.labs r.word with
   | none =>
    rw [hq] at hx
    have hx : rX P th r = -1 := hx
    rw [if_pos (by omega)]
   | some n =>
    rw [hq] at hx
    have hx : rX P th r = (n : Int) := hx
    rw [if_neg (by omega)]
    show resOff _ _ { r.i with x := (n : Int) } [] = _
    unfold rsI RI.at
    rw [hx]; rfl
  ·have hx : rX P th r = r.i.x := by unfold rX; rw [if_neg h1, if_neg h2]
   rw [if_neg h2, hx, if_neg (by omega)]
   unfold rsI RI.at
   rw [hx]; rfl
theorem res_code (h : PL P s) {th : RTh} : ∀ (l : List RI), (∀ r, r ∈ l → 0 ≤ r.i.x) → resCode s.N (labF th.labs) (l.map piOf) = match badC P th l with | some e => .error e | none => .ok (l.map fun r => (rsI P th r).i)
 | [], _ => rfl
 | r :: l, hr => by
  have ih := res_code h (th := th) l (fun r' h' => hr r' (by simp [h']))
  have h1 := res_one h (th := th) (hr r (by simp))
  rw [List.map_cons]
  unfold resCode
  have hp : resOff s.N (labF th.labs) (piOf r).i (piOf r).off = if rX P th r < 0 then none else some (rsI P th r).i := h1
  rw [hp]
  unfold badC at ih ⊢
  rw [List.find?_cons]
  by_cases q : rX P th r < 0
  ·rw [if_pos q, decide_eq_true q]; rfl
  ·rw [if_neg q, decide_eq_false q]
   show Except.map _ (resCode s.N (labF th.labs) (l.map piOf)) = _
   rw [ih]
   dsimp only
   cases (l.find? fun r => decide (rX P th r < 0)) with
   | none => rfl
   | some x => rfl
theorem res_all (h : PL P s) : ∀ (l : List RTh), (∀ th, th ∈ l → ∀ r, r ∈ th.code → 0 ≤ r.i.x) → resAll s.N (l.map pbOf) = match badT P l with | some e => .error e | none => .ok (l.map fun th => (rsT P th).code.map RI.i)
 | [], _ => rfl
 | th :: l, hr => by
  have ih := res_all h l (fun th' h' => hr th' (by simp [h']))
  have h1 := res_code h (th := th) th.code (hr th (by simp))
  rw [List.map_cons]
  unfold resAll
  have hp : resCode s.N (pbOf th).labs (pbOf th).code = match badC P th th.code with | some e => .error e | none => .ok (th.code.map fun r => (rsI P th r).i) := h1
  rw [hp]
  unfold badT at ih ⊢
  rw [List.findSome?_cons]
  cases hb : badC P th th.code with
  | some e => rfl
  | none =>
   show Except.map _ (resAll s.N (l.map pbOf)) = _
   rw [ih]
   dsimp only
   cases l.findSome? (fun th => badC P th th.code) with
   | some e => rfl
   | none =>
    show Except.ok _ = Except.ok _
    congr 1
    rw [List.map_cons]
    have e1 : (rsT P th).code.map RI.i = th.code.map fun r => (rsI P th r).i := by
     show (th.code.map (rsI P th)).map RI.i = _
     rw [List.map_map]; rfl
    rw [e1]
end
def LabsB (P : RP) (m : Nat) : Prop := ∀ th, th ∈ P.thr → th.labs.length ≤ m
def BothL (o : Except Int PS) (m : Nat) (e : Int) (P' : RP) : Prop := (e ≠ 0 ∧ o = .error e) ∨ (e = 0 ∧ (∃ s', o = .ok s' ∧ PL P' s') ∧ LabsB P' (m + 1))
theorem Both.labs {o : Except Int PS} {m : Nat} {e : Int} {P' : RP} (h : Both o e P') (hl : e = 0 → LabsB P' (m + 1)) : BothL o m e P' := by
 rcases h with h | ⟨h1, h2⟩
 ·exact .inl h
 ·exact .inr ⟨h1, h2, hl h1⟩
theorem ROut.mono {w : World} {tag : Nat → RT} {base pb : Nat} {R R' : Int → RP → Prop} {en : Ending} {w' : World} (h : ROut w tag base pb R en w') (hR : ∀ e P', R e P' → R' e P') : ROut w tag base pb R' en w' := by
 obtain ⟨e, tag', P', U', h1, h2, h3, h4⟩ := h
 exact ⟨e, tag', P', U', h1, h2, h3, hR _ _ h4⟩
section
variable {P P' : RP} {f : Tx} {ts : List Tx} {e : Int} {m : Nat}
theorem labs_up (h : LabsB P m) : LabsB P (m + 1) := fun th hth => Nat.le_succ_of_le (h th hth)
theorem labs_set (h : LabsB P m) {k : Nat} {th' : RTh} (hl : th'.labs.length ≤ m + 1) : LabsB { P with thr := P.thr.set k th' } (m + 1) := fun th hth => by
 rcases List.mem_or_eq_of_mem_set hth with q | q
 ·exact labs_up h th q
 ·subst q; exact hl
theorem decl_labs (h : LabsB P m) (hR : RDecl P f ts e P') (he : e = 0) : LabsB P' (m + 1) := by
 rcases hR with ⟨_, q⟩ | ⟨_, ⟨_, q⟩ | ⟨_, q, _⟩⟩
 ·omega
 ·omega
 ·intro th hth
  rw [q, puts_thr] at hth
  exact labs_up h th hth
theorem thread_labs (h : LabsB P m) (hR : RThread P ts e P') (he : e = 0) : LabsB P' (m + 1) := by
 rcases hR with ⟨_, q⟩ | ⟨_, ⟨_, q⟩ | ⟨_, ⟨_, q⟩ | ⟨_, _, q⟩⟩⟩
 ·omega
 ·omega
 ·omega
 ·subst q
  intro th hth
  rcases List.mem_append.1 hth with q | q
  ·exact labs_up h th q
  ·obtain rfl := List.mem_singleton.1 q
   simp
theorem label_labs (h : LabsB P m) {k : Nat} {th : RTh} {x : Tx} (hth : P.thr[k]? = some th) (hR : RLabel P k th x e P') (he : e = 0) : LabsB P' (m + 1) := by
 have := h th (List.mem_of_getElem? hth)
 rcases hR with ⟨_, q⟩ | ⟨_, ⟨_, q⟩ | ⟨_, _, q⟩⟩
 ·omega
 ·omega
 ·subst q
  exact labs_set h (by simp; omega)
theorem ins_labs (h : LabsB P m) {k : Nat} {th : RTh} {line : Int} (hth : P.thr[k]? = some th) (hR : RIns P k th line f ts e P') (he : e = 0) : LabsB P' (m + 1) := by
 have := h th (List.mem_of_getElem? hth)
 unfold RIns at hR
 split at hR
 ·omega
 ·rcases hR with ⟨_, q⟩ | ⟨_, ⟨_, q⟩ | ⟨_, _, q⟩⟩
  ·omega
  ·omega
  ·subst q
   exact labs_set h (by simp; omega)
end
theorem rLine_any {w : World} {tag : Nat → RT} {base pb : Nat} {P : RP} {U : RV} (h : RfW w tag base pb P U) {s : PS} (hL : PL P s) {m : Nat} (hm : LabsB P m) (hm4 : m < 3500) (b off n cap : Nat) (f : Tx) (ts : List Tx) (hn : ts.length + 1 = n) (hs : WsT w tag (some ⟨b, off, none⟩) (f :: ts)) (hcap : n ≤ cap) (hnb : n < 4000) (line : Int) (hline : 0 < line) (hf0 : f ≠ []) (hfl : f.length < 4000) :
 Calls Tryz.prog 47 #[ptrV pb, .slice (some ⟨b, off, none⟩) n cap, .int .i64 line] w (ROut w tag base pb (BothL (stepT line f ts s) m)) := by
 have g4 : getK P 116 = P.names := by simp [getK]
 have hfew : P.thr.length ≤ 4 := by
  have := hL.few 116 (by simp [isK])
  rw [g4] at this
  simpa [RP.names] using this
 have hget : ∀ k, (P.get k).length ≤ 4 := fun k => by
  unfold RP.get
  have g1 : getK P 118 = P.vs := by simp [getK, RP.get]
  have g2 : getK P 102 = P.fs := by simp [getK, RP.get]
  have g3 : getK P 109 = P.ls := by simp [getK, RP.get]
  have h1 := hL.few 118 (by simp [isK])
  have h2 := hL.few 102 (by simp [isK])
  have h3 := hL.few 109 (by simp [isK])
  rw [g1] at h1; rw [g2] at h2; rw [g3] at h3
  split
  ·exact h1
  ·split
   ·exact h2
   ·exact h3
 by_cases hT : f = tThread
 ·refine (rLine_thread h b off n cap f ts hn hs (by omega) hget hnb line hT).mono ?_
  intro en w' hO
  refine hO.mono fun e P' hR => ?_
  have hst : stepT line f ts s = if ts.length = 1 then (declT 116 ts s).map addBody else .error 2 := by unfold stepT; rw [if_pos hT]
  rw [hst]
  exact (pl_thread hL hR).labs (thread_labs hm hR)
 ·have hst : stepT line f ts s = match s.bod.getLast? with | none => declT (headK f) ts s | some b => if colonT f = true ∧ ts = [] then markT f s b else instrT line f ts s b := by unfold stepT; rw [if_neg hT]; cases s.bod.getLast? <;> rfl
  by_cases h0 : P.thr.length = 0
  ·have hb0 : s.bod = [] := by rw [hL.bod, List.eq_nil_of_length_eq_zero h0]; rfl
   rw [hb0] at hst
   have hst : stepT line f ts s = declT (headK f) ts s := hst
   rw [hst]
   cases hD : isDeclW f with
   | true =>
    refine (rLine_decl h b off n cap f ts hn hs hcap h0 hget hnb line hD).mono ?_
    intro en w' hO
    exact hO.mono fun e P' hR => (pl_decl hL hD hR).labs (decl_labs hm hR)
   | false =>
    refine (rLine_none h b off n cap f ts hn hs h0 line hD hT).mono ?_
    intro en w' hO
    refine hO.mono fun e P' hR => .inl ⟨by rw [hR]; decide, ?_⟩
    rw [head_none hD, hR]
    unfold declT
    rw [if_pos (.inl rfl)]
  ·obtain ⟨k, hk⟩ : ∃ k, P.thr.length = k + 1 := ⟨P.thr.length - 1, by omega⟩
   obtain ⟨th, hth⟩ : ∃ th, P.thr[k]? = some th := ⟨_, List.getElem?_eq_getElem (by omega)⟩
   have hmem := List.mem_of_getElem? hth
   have hlast : s.bod.getLast? = some (pbOf th) := by rw [hL.bod]; exact last_is pbOf hk hth
   rw [hlast] at hst
   have hst : stepT line f ts s = if colonT f = true ∧ ts = [] then markT f s (pbOf th) else instrT line f ts s (pbOf th) := hst
   rw [hst]
   have hlb := hm th hmem
   have hcd := hL.code th hmem
   by_cases hc : colonT f = true ∧ ts = []
   ·rw [if_pos hc]
    obtain ⟨hc, rfl⟩ := hc
    have hx : f = f.dropLast ++ [58] := by
     have hg : f.getLast? = some 58 := by simpa [colonT] using hc
     rcases List.eq_nil_or_concat f with q | ⟨f0, c, q⟩
     ·exact absurd q hf0
     ·rw [List.concat_eq_append] at q
      subst q
      simp at hg
      simp [hg]
    have hn1 : n = 1 := by simp at hn; omega
    subst hn1
    refine (rLine_label h b off cap f hs k th hk hth (by omega) (by omega) (by omega) hfl line f.dropLast hx hT).mono ?_
    intro en w' hO
    exact hO.mono fun e P' hR => (pl_label hL hk hth hx hR).labs (label_labs hm hth hR)
   ·rw [if_neg hc]
    have hlab : ts ≠ [] ∨ f.getLast? ≠ some 58 := by
     by_cases q : ts = []
     ·right
      intro q2
      exact hc ⟨by simp [colonT, q2], q⟩
     ·exact .inl q
    refine (rLine_ins h b off n cap f ts hn hs hnb (fun k => by have := hget k; omega) k th hk hth (by omega) (by omega) line hT hf0 hfl hlab).mono ?_
    intro en w' hO
    exact hO.mono fun e P' hR => (pl_ins hL hline hk hth hR).labs (ins_labs hm hth hR)
theorem badT_pos {P : RP} {l : List RTh} {n : Int} (hp : ∀ th, th ∈ l → ∀ r, r ∈ th.code → 0 < r.line) (h : badT P l = some n) : 0 < n := by
 unfold badT at h
 obtain ⟨th, hth, h2⟩ := List.exists_of_findSome?_eq_some h
 unfold badC at h2
 cases hf : th.code.find? (fun r => decide (rX P th r < 0)) with
 | none => rw [hf] at h2; cases h2
 | some r =>
  rw [hf] at h2
  cases h2
  exact hp th hth r (List.mem_of_find?_eq_some hf)
theorem RfW.keepO {w w' : World} {tag : Nat → RT} {base pb : Nat} {P : RP} {U : RV} (h : RfW w tag base pb P U) (hb : ∀ b, tag b ≠ .o → w'.heap[b]? = w.heap[b]?) (hs : w.heap.size ≤ w'.heap.size) : RfW w' tag base pb P U := by
 have key : ∀ {b : Nat} {g : RT}, tag b = g → g ≠ .o → w'.heap[b]? = w.heap[b]? := fun {b g} e hg => hb b (by rw [e]; exact hg)
 refine ⟨(key h.tp (by simp)).trans h.cell, fun k hk => (h.rows k hk).kept fun b e => ⟨key e (by simp), e⟩, owns_same h.trow fun g e => key (h.tt g e) (by simp), h.tt, h.len, fun j th p h1 h2 => (h.ths j th p h1 h2).kept fun b e => ?_, h.tp, fun b e => ⟨(h.tlt b e).1, Nat.lt_of_lt_of_le (h.tlt b e).2 hs⟩, Nat.le_trans h.g3 hs⟩
 rcases e with e | e
 ·exact ⟨key e (by simp), rfl⟩
 ·exact ⟨key e (by simp), rfl⟩
theorem words_ne {l f : Tx} (h : f ∈ wordsT l) : f ≠ [] := by
 unfold wordsT at h
 have := (List.mem_filter.1 h).2
 intro e
 rw [e] at this
 simp at this
def RP.resAt (P : RP) (i k : Nat) (th : RTh) : RP := { P with thr := (preMap (rsT P) P.thr i).set i { th with code := preMap (rsI P th) th.code k } }
def RP.resV (P : RP) (i k : Nat) (th : RTh) (r : RI) (v : Int) : RP := { P with thr := (preMap (rsT P) P.thr i).set i { th with code := (preMap (rsI P th) th.code k).set k (r.at v) } }
theorem set_same {α : Type} {l : List α} {i : Nat} {x : α} (h : l[i]? = some x) : l.set i x = l := by
 apply List.ext_getElem?
 intro m
 by_cases e : m = i
 ·subst e; rw [List.getElem?_set_self (List.getElem?_eq_some_iff.1 h).1, h]
 ·rw [List.getElem?_set_ne (fun e' => e e'.symm)]
section
variable {w w' : World} {tag : Nat → RT} {base pb : Nat} {P : RP} {U : RV} {i k : Nat} {th : RTh} {r : RI} {v : Int} {p : Value × Value}
theorem res_zero (P : RP) : P.res 0 = P := rfl
theorem res_all_is (P : RP) : P.res P.thr.length = { P with thr := P.thr.map (rsT P) } := by unfold RP.res; rw [preMap_all _ _ (Nat.le_refl _)]
theorem resAt_zero (hth : P.thr[i]? = some th) : P.resAt i 0 th = P.res i := by
 unfold RP.resAt RP.res
 rw [preMap_zero, set_same (preMap_at _ hth)]
theorem resAt_all (hth : P.thr[i]? = some th) : P.resAt i th.code.length th = P.res (i + 1) := by
 unfold RP.resAt RP.res
 rw [preMap_all _ _ (Nat.le_refl _), ← preMap_set _ hth]; rfl
theorem resV_start (hk : th.code[k]? = some r) : P.resAt i k th = P.resV i k th r r.i.x := by
 unfold RP.resAt RP.resV
 have e : r.at r.i.x = r := rfl
 rw [e, set_same (preMap_at _ hk)]
theorem resV_end (hk : th.code[k]? = some r) : P.resV i k th r (rX P th r) = P.resAt i (k + 1) th := by
 unfold RP.resAt RP.resV
 rw [← preMap_set _ hk]; rfl
theorem resV_th (hth : P.thr[i]? = some th) : (P.resV i k th r v).thr[i]? = some { th with code := (preMap (rsI P th) th.code k).set k (r.at v) } := by
 have hl := (List.getElem?_eq_some_iff.1 hth).1
 exact List.getElem?_set_self (by rw [preMap_len]; exact hl)
theorem resV_code (hk : th.code[k]? = some r) : ((preMap (rsI P th) th.code k).set k (r.at v))[k]? = some (r.at v) := by
 have hl := (List.getElem?_eq_some_iff.1 hk).1
 exact List.getElem?_set_self (by rw [preMap_len]; exact hl)
theorem pre_names (P : RP) (i : Nat) : (preMap (rsT P) P.thr i).map RTh.name = P.names := by
 unfold preMap RP.names
 rw [List.map_append, List.map_map]
 conv => rhs; rw [← List.take_append_drop i P.thr, List.map_append]
 rfl
theorem resV_names (hth : P.thr[i]? = some th) : (P.resV i k th r v).names = P.names := by
 rw [← pre_names P i]
 unfold RP.names RP.resV
 show ((preMap (rsT P) P.thr i).set i _).map RTh.name = _
 rw [List.map_set]
 apply set_same
 rw [List.getElem?_map, preMap_at _ hth]; rfl
theorem resV_len : (P.resV i k th r v).thr.length = P.thr.length := by
 show ((preMap (rsT P) P.thr i).set i _).length = _
 rw [List.length_set, preMap_len]
theorem res_len : (P.res i).thr.length = P.thr.length := preMap_len _ _ _
theorem res_at (hth : P.thr[i]? = some th) : (P.res i).thr[i]? = some th := preMap_at _ hth
theorem resV_form (h : RfW w tag base pb (P.resV i k th r v) U) (hth : P.thr[i]? = some th) (hp : U.TV[i]? = some p) (hk : th.code[k]? = some r) : ∃ gc ccap, p.1 = .slice (some ⟨gc, 0, none⟩) th.code.length ccap := by
 obtain ⟨gc, ccap, e⟩ := h.codeForm (resV_th hth) hp (resV_code hk)
 refine ⟨gc, ccap, e.trans ?_⟩
 show Value.slice _ ((preMap (rsI P th) th.code k).set k (r.at v)).length _ = _
 rw [List.length_set, preMap_len]
theorem resV_cells (h : RfW w tag base pb (P.resV i k th r v) U) (hth : P.thr[i]? = some th) (hp : U.TV[i]? = some p) (hk : th.code[k]? = some r) {gc ccap : Nat} (hV : p.1 = .slice (some ⟨gc, 0, none⟩) th.code.length ccap) :
 w.cell? ⟨gc, k * 9, none⟩ = some (.string (bs r.i.op)) ∧ w.cell? ⟨gc, k * 9 + 6, none⟩ = some (.int .i64 v) ∧ w.cell? ⟨gc, k * 9 + 7, none⟩ = some (.int .i64 r.line) ∧ w.cell? ⟨gc, k * 9 + 8, none⟩ = some (.string (bs r.word)) ∧ w.frozen? ⟨gc, k * 9 + 6, none⟩ = false := by
 have hV' : p.1 = .slice (some ⟨gc, 0, none⟩) ({ th with code := (preMap (rsI P th) th.code k).set k (r.at v) } : RTh).code.length ccap := by
  show p.1 = .slice _ ((preMap (rsI P th) th.code k).set k (r.at v)).length _
  rw [List.length_set, preMap_len]; exact hV
 exact ⟨(h.codeCell (resV_th hth) hp (resV_code hk) (q := 0) (by omega) hV').1, (h.codeCell (resV_th hth) hp (resV_code hk) (q := 6) (by omega) hV').1, (h.codeCell (resV_th hth) hp (resV_code hk) (q := 7) (by omega) hV').1, (h.codeCell (resV_th hth) hp (resV_code hk) (q := 8) (by omega) hV').1, (h.codeCell (resV_th hth) hp (resV_code hk) (q := 6) (by omega) hV').2⟩
theorem resV_step (h : RfW w tag base pb (P.resV i k th r v) U) (hth : P.thr[i]? = some th) (hp : U.TV[i]? = some p) (hk : th.code[k]? = some r) {gc n ccap : Nat} (hV : p.1 = .slice (some ⟨gc, 0, none⟩) n ccap) (v' : Int) :
 RfW (w.setCell ⟨gc, k * 9 + 6, none⟩ (.int .i64 v')) tag base pb (P.resV i k th r v') U ∧ Ext w tag (w.setCell ⟨gc, k * 9 + 6, none⟩ (.int .i64 v')) tag := by
 have := h.setX (resV_th hth) hp (resV_code hk) hV v'
 refine ⟨?_, this.2⟩
 have e : P.resV i k th r v' = { P.resV i k th r v with thr := (P.resV i k th r v).thr.set i { ({ th with code := (preMap (rsI P th) th.code k).set k (r.at v) } : RTh) with code := ((preMap (rsI P th) th.code k).set k (r.at v)).set k ((r.at v).at v') } } := by
  unfold RP.resV
  show RP.mk _ _ _ _ = RP.mk _ _ _ (((preMap (rsT P) P.thr i).set i _).set i _)
  rw [List.set_set, List.set_set]; rfl
 rw [e]; exact this.1
theorem resV_lab (h : RfW w tag base pb (P.resV i k th r v) U) (hth : P.thr[i]? = some th) (hp : U.TV[i]? = some p) {j : Nat} {l : Tx × Nat} (hj : th.labs[j]? = some l) : ∃ gl lcap, p.2 = .slice (some ⟨gl, 0, none⟩) th.labs.length lcap ∧ w.cell? ⟨gl, j * 2, none⟩ = some (.string (bs l.1)) ∧ w.cell? ⟨gl, j * 2 + 1, none⟩ = some (.int .i64 l.2) := by
 obtain ⟨gl, lcap, e⟩ := h.labForm (resV_th hth) hp (l := l) hj
 exact ⟨gl, lcap, e, h.labCell (resV_th hth) hp (l := l) hj (q := 0) (by omega) e, h.labCell (resV_th hth) hp (l := l) hj (q := 1) (by omega) e⟩
end
end Go.Proofs.YtcfpedjfofpnkaaGreatDoor
