import Derived.Test.YtlefemndikednaaGreatDoorPa23
set_option linter.unusedVariables false
set_option linter.unusedSimpArgs false
/-
  A text's program can be printed; how long its plain text may be.
-/
namespace Go.Proofs.YtlefemndikednaaGreatDoor
open Go.RowKit Go.Shelf Go.Proofs.Cod

section
variable {s : PS}
theorem isJ_shape {q : Tx × Tx} (hq : q ∈ shapeT) : decide (0 ≤ Lib.indexByte q.2 108) = q.2.contains 108 := by
  have : ∀ q, q ∈ shapeT → decide (0 ≤ Lib.indexByte q.2 108) = q.2.contains 108 := by decide
  exact this q hq
/-- An instruction behind the last line. -/
theorem res_ok (h : PW s) {b : PB} (hb : b ∈ s.bod) {p : PI} (hp : p ∈ b.code) {i : In7} (hr : resOff s.N b.labs p.i p.off = some i) : InsOk (nmP (s.nms 118) (s.nms 102) (s.nms 109) (s.nms 116)) b.code.length i ∧ i.op.length ≤ 6 := by
  obtain ⟨b1, b2, b3⟩ := h.bod b hb
  obtain ⟨q, ts, hq, hop, htl, hoff, hsm, hx⟩ := (b3 p hp).ex
  have hP := shape_parts hq htl
  have hps : partsT q.1 = some q.2 := by
    have : ∀ q, q ∈ shapeT → partsT q.1 = some q.2 := by decide
    exact this q hq
  have hop6 : q.1.length ≤ 6 := by
    have : ∀ q, q ∈ shapeT → q.1.length ≤ 6 := by decide
    exact this q hq
  have key : ∃ x : Int, i = { p.i with x := x } ∧ (0 ≤ x ∧ x ≤ 1000) ∧ ((116 : UInt8) ∈ q.2 → x < (s.nms 116).length) ∧ ((108 : UInt8) ∈ q.2 → x ≤ b.code.length) ∧ ((116 : UInt8) ∉ q.2 → (108 : UInt8) ∉ q.2 → x = p.i.x) := by
    by_cases ht : (116 : UInt8) ∈ q.2
    · obtain ⟨w, hw⟩ := hP.t ht
      have hl : (108 : UInt8) ∉ q.2 := by
        have : ∀ q, q ∈ shapeT → (116 : UInt8) ∈ q.2 → (108 : UInt8) ∉ q.2 := by decide
        exact this q hq ht
      rw [hoff, hw] at hr
      unfold resOff at hr
      cases hlk : lookOff s.N b.labs (116, w) with
      | none => rw [hlk] at hr; cases hr
      | some n =>
        rw [hlk] at hr
        have hr : some { p.i with x := (n : Int) } = some i := hr
        cases hr
        have hn : n < (s.nms 116).length := by
          have hlk : (match s.N w with | some p => if p.1 = 116 then some p.2 else none | none => none) = some n := hlk
          cases hN : s.N w with
          | none => rw [hN] at hlk; cases hlk
          | some z =>
            obtain ⟨k, m⟩ := z
            rw [hN] at hlk
            have hlk : (if k = 116 then some m else none) = some n := hlk
            by_cases hk : k = 116
            · subst hk
              rw [if_pos rfl] at hlk
              cases hlk
              exact h.nlt w 116 n hN
            · rw [if_neg hk] at hlk; cases hlk
        have h4 := h.few 116
        exact ⟨n, rfl, ⟨by omega, by omega⟩, fun _ => by omega, fun e => absurd e hl, fun e => absurd ht e⟩
    · by_cases hl : (108 : UInt8) ∈ q.2
      · obtain ⟨w, hw⟩ := hP.l hl
        rw [hoff, hw] at hr
        unfold resOff at hr
        cases hlk : lookOff s.N b.labs (108, w) with
        | none => rw [hlk] at hr; cases hr
        | some n =>
          rw [hlk] at hr
          have hr : some { p.i with x := (n : Int) } = some i := hr
          cases hr
          have hn : n ≤ b.code.length := by
            have hlk : (match (b.labs w).map fun n => ((108 : Int), n) with | some p => if p.1 = 108 then some p.2 else none | none => none) = some n := hlk
            cases hN : b.labs w with
            | none => rw [hN] at hlk; cases hlk
            | some z =>
              rw [hN] at hlk
              have hlk : some z = some n := hlk
              cases hlk
              exact b2 w n hN
          exact ⟨n, rfl, ⟨by omega, by omega⟩, fun e => absurd e ht, fun _ => by omega, fun _ e => absurd hl e⟩
      · rw [hoff, hP.o ht hl] at hr
        have hr : some p.i = some i := hr
        cases hr
        exact ⟨p.i.x, rfl, hsm.2.2.2, fun e => absurd e ht, fun e => absurd e hl, fun _ _ => rfl⟩
  obtain ⟨x, rfl, hx0, hx1, hx2, hx3⟩ := key
  have hopi : p.i.op = q.1 := hop
  refine ⟨⟨⟨⟨by have := hsm.1; show _ ≤ p.i.r; omega, by have := hsm.1; show p.i.r ≤ _; omega⟩, ⟨by have := hsm.2.1; show _ ≤ p.i.aN; omega, by have := hsm.2.1; show p.i.aN ≤ _; omega⟩, ⟨by have := hsm.2.2.1; show _ ≤ p.i.bN; omega, by have := hsm.2.2.1; show p.i.bN ≤ _; omega⟩, ⟨by show _ ≤ x; omega, by show x ≤ _; omega⟩⟩, ⟨q.2, by show partsT p.i.op = _; rw [hopi]; exact hps, shape_letters hq, fun c hc hk => ?_⟩, fun hj => ?_⟩, by show p.i.op.length ≤ 6; rw [hopi]; exact hop6⟩
  · have hk : (c.toNat : Int) = 118 ∨ (c.toNat : Int) = 102 ∨ (c.toNat : Int) = 109 ∨ (c.toNat : Int) = 116 := hk
    rcases hk with hk | hk | hk | hk
    · have hb4 : isNb (c.toNat : Int) = true := by rw [hk]; decide
      have := hx c hc hb4
      rw [hk] at this ⊢
      have hn := (hP.n c hc hb4).2
      show 0 ≤ x ∧ x < _
      rw [hx3 hn.1 hn.2]; exact this
    · have hb4 : isNb (c.toNat : Int) = true := by rw [hk]; decide
      have := hx c hc hb4
      rw [hk] at this ⊢
      have hn := (hP.n c hc hb4).2
      show 0 ≤ x ∧ x < _
      rw [hx3 hn.1 hn.2]; exact this
    · have hb4 : isNb (c.toNat : Int) = true := by rw [hk]; decide
      have := hx c hc hb4
      rw [hk] at this ⊢
      have hn := (hP.n c hc hb4).2
      show 0 ≤ x ∧ x < _
      rw [hx3 hn.1 hn.2]; exact this
    · have hc6 : c = 116 := by
        have : c.toNat = (116 : UInt8).toNat := by show c.toNat = 116; omega
        exact UInt8.toNat_inj.1 this
      rw [hk]
      exact ⟨hx0.1, hx1 (hc6 ▸ hc)⟩
  · have hj : decide (0 ≤ Lib.indexByte ((partsT p.i.op).getD []) 108) = true := hj
    rw [hopi, hps] at hj
    have hj : decide (0 ≤ Lib.indexByte q.2 108) = true := hj
    rw [isJ_shape hq] at hj
    exact ⟨hx0.1, hx2 (by simpa using hj)⟩
theorem resCode_ok (h : PW s) {b : PB} (hb : b ∈ s.bod) : ∀ (l : List PI) (c : List In7), (∀ p, p ∈ l → p ∈ b.code) → resCode s.N b.labs l = .ok c → c.length = l.length ∧ ∀ i, i ∈ c → InsOk (nmP (s.nms 118) (s.nms 102) (s.nms 109) (s.nms 116)) b.code.length i ∧ i.op.length ≤ 6
  | [], c, _, e => by
    have e : Except.ok [] = Except.ok c := e
    cases e
    exact ⟨rfl, fun i hi => by cases hi⟩
  | p :: l, c, hl, e => by
    unfold resCode at e
    cases hr : resOff s.N b.labs p.i p.off with
    | none => rw [hr] at e; cases e
    | some i =>
      rw [hr] at e
      cases hc : resCode s.N b.labs l with
      | error x => rw [hc] at e; cases e
      | ok c' =>
        rw [hc] at e
        cases e
        obtain ⟨h1, h2⟩ := resCode_ok h hb l c' (fun p' h' => hl p' (by simp [h'])) hc
        refine ⟨by simp [h1], fun j hj => ?_⟩
        rcases List.mem_cons.1 hj with rfl | hj
        · exact res_ok h hb (hl p (by simp)) hr
        · exact h2 j hj
theorem resAll_ok (h : PW s) : ∀ (l : List PB) (C : List (List In7)), (∀ b, b ∈ l → b ∈ s.bod) → resAll s.N l = .ok C → C.length = l.length ∧ ∀ c, c ∈ C → c.length ≤ 24 ∧ ∀ i, i ∈ c → InsOk (nmP (s.nms 118) (s.nms 102) (s.nms 109) (s.nms 116)) c.length i ∧ i.op.length ≤ 6
  | [], C, _, e => by
    have e : Except.ok [] = Except.ok C := e
    cases e
    exact ⟨rfl, fun c hc => by cases hc⟩
  | b :: l, C, hl, e => by
    unfold resAll at e
    cases hr : resCode s.N b.labs b.code with
    | error x => rw [hr] at e; cases e
    | ok c0 =>
      rw [hr] at e
      cases hc : resAll s.N l with
      | error x => rw [hc] at e; cases e
      | ok C' =>
        rw [hc] at e
        cases e
        have hb := hl b (by simp)
        obtain ⟨g1, g2⟩ := resCode_ok h hb b.code c0 (fun _ h' => h') hr
        obtain ⟨h1, h2⟩ := resAll_ok h l C' (fun b' h' => hl b' (by simp [h'])) hc
        refine ⟨by simp [h1], fun c hcm => ?_⟩
        rcases List.mem_cons.1 hcm with rfl | hcm
        · rw [g1]
          exact ⟨(h.bod b hb).1, g2⟩
        · exact h2 c hcm
end
/-! ### How long -/
theorem flat_le (ws : List Tx) (M : Nat) (h : ∀ x, x ∈ ws → x.length ≤ M) : (ws.flatMap fun x => 32 :: x).length ≤ ws.length * (M + 1) := by
  induction ws with
  | nil => simp
  | cons x ws ih =>
    have h1 := ih (fun y hy => h y (by simp [hy]))
    have h2 := h x (by simp)
    rw [List.flatMap_cons, List.length_append, List.length_cons, List.length_cons, Nat.add_mul]
    omega
theorem lineW_le (op : Tx) (ws : List Tx) (M : Nat) (h : ∀ x, x ∈ ws → x.length ≤ M) : (lineW (op :: ws)).length ≤ op.length + ws.length * (M + 1) + 1 := by
  rw [line_cat]
  unfold catN
  rw [List.take_length, List.length_append, List.length_append]
  have := flat_le ws M h
  simp only [List.length_cons, List.length_nil]; omega
theorem itoa_le {n : Int} (h : fitI n) : (Lib.itoa n).length ≤ 21 := Lib.itoa_length_le n h.1 h.2
theorem word_le {N : Int → List Tx} {i : In7} (hf : InFit i) (hN : ∀ k x, x ∈ N k → x.length ≤ 8) (c : Int) : (wordW N i c).length ≤ 25 := by
  unfold wordW
  have hg : (getW (N c) i.x).length ≤ 25 := by
    unfold getW
    split
    · rename_i hh
      have : (N c).getD i.x.toNat [] ∈ N c := by
        rw [List.getD_eq_getElem?_getD, List.getElem?_eq_getElem (by omega)]
        exact List.getElem_mem _
      have := hN c _ this
      omega
    · simp
  have h1 := itoa_le hf.r
  have h2 := itoa_le hf.a
  have h3 := itoa_le hf.b
  have h4 := itoa_le hf.x
  split
  · simp [regW]; omega
  · split
    · unfold argW regW
      split <;> simp <;> omega
    · split
      · unfold argW regW
        split <;> simp <;> omega
      · split
        · simp [labW]; omega
        · exact hg
theorem insLn_le {N : Int → List Tx} {i : In7} {n : Nat} (hi : InsOk N n i) (h6 : i.op.length ≤ 6) (hN : ∀ k x, x ∈ N k → x.length ≤ 8) : (insLn N i).length ≤ 90 := by
  unfold insLn insW
  obtain ⟨ps, hps, _, _⟩ := hi.parts
  have hp3 := partsT_mem hps
  have hgd : (partsT i.op).getD [] = ps := by rw [hps]; rfl
  rw [hgd]
  have := lineW_le i.op (ps.map fun c => wordW N i (c.toNat : Int)) 25 (fun x hx => by
    obtain ⟨c, _, rfl⟩ := List.mem_map.1 hx
    exact word_le hi.fit hN _)
  rw [List.length_map] at this
  have h3 : ps.length * (25 + 1) ≤ 3 * (25 + 1) := Nat.mul_le_mul_right _ hp3
  omega
theorem labLn_le (tg : List Bool) {k : Nat} (hk : k < 1000) : (labLn tg k).length ≤ 30 := by
  unfold labLn
  split
  · rw [line_lab]
    have := itoa_le (fit_k hk)
    simp only [List.length_append, List.length_cons, List.length_nil]; omega
  · simp
theorem preW_len {N : Int → List Tx} {tg : List Bool} {is : List In7} (hl : is.length ≤ 24) (hi : ∀ i, i ∈ is → InsOk N is.length i ∧ i.op.length ≤ 6) (hN : ∀ k x, x ∈ N k → x.length ≤ 8) : ∀ k, k ≤ is.length → (preW N tg is k).length ≤ k * 120
  | 0, _ => by simp [preW]
  | k + 1, hk => by
    have ih := preW_len hl hi hN (tg := tg) k (by omega)
    rw [preW_succ, List.length_append, List.length_append]
    have h1 := labLn_le tg (k := k) (by omega)
    have hm : is.getD k zero7 ∈ is := by
      rw [List.getD_eq_getElem?_getD, List.getElem?_eq_getElem (by omega)]
      exact List.getElem_mem _
    have h2 := insLn_le (hi _ hm).1 (hi _ hm).2 hN
    omega
theorem thrW_len {N : Int → List Tx} {nm : Tx} {is : List In7} (hl : is.length ≤ 24) (hi : ∀ i, i ∈ is → InsOk N is.length i ∧ i.op.length ≤ 6) (hN : ∀ k x, x ∈ N k → x.length ≤ 8) (hn : nm.length ≤ 8) : (thrW N nm is).length ≤ 4000 := by
  unfold thrW
  have h1 := preW_len (tg := targL is (is.length + 1)) hl hi hN is.length (Nat.le_refl _)
  have h2 := labLn_le (targL is (is.length + 1)) (k := is.length) (by omega)
  rw [List.length_append, List.length_append, line_thr]
  simp only [tThread, List.length_append, List.length_cons, List.length_nil]
  omega
theorem thrsW_len {N : Int → List Tx} {ts : List Tx} {C : List (List In7)} (hC : ∀ c, c ∈ C → c.length ≤ 24 ∧ ∀ i, i ∈ c → InsOk N c.length i ∧ i.op.length ≤ 6) (hN : ∀ k x, x ∈ N k → x.length ≤ 8) (ht : ∀ x, x ∈ ts → x.length ≤ 8) (hl : C.length = ts.length) : ∀ k, k ≤ ts.length → (thrsW N ts C k).length ≤ k * 4000
  | 0, _ => by simp [thrsW]
  | k + 1, hk => by
    have ih := thrsW_len hC hN ht hl k (by omega)
    rw [thrsW_succ, List.length_append]
    have hm : C.getD k [] ∈ C := by
      rw [List.getD_eq_getElem?_getD, List.getElem?_eq_getElem (by omega)]
      exact List.getElem_mem _
    have hm2 : ts.getD k [] ∈ ts := by
      rw [List.getD_eq_getElem?_getD, List.getElem?_eq_getElem (by omega)]
      exact List.getElem_mem _
    have := thrW_len (nm := ts.getD k []) (hC _ hm).1 (hC _ hm).2 hN (ht _ hm2)
    omega
theorem hdL_len {wd : Tx} {ns : List Tx} (hw : wd.length ≤ 4) (hn : ns.length ≤ 4) (h8 : ∀ x, x ∈ ns → x.length ≤ 8) : (hdL wd ns).length ≤ 50 := by
  by_cases h0 : ns.length = 0
  · unfold hdL; rw [if_pos h0]; simp
  · rw [← catN_all h0]
    unfold catN
    rw [List.take_length, List.length_append, List.length_append]
    have := flat_le ns 8 h8
    have h3 : ns.length * (8 + 1) ≤ 4 * (8 + 1) := Nat.mul_le_mul_right _ hn
    simp only [List.length_cons, List.length_nil]; omega
/-- What a text tells can be printed. -/
theorem parse_pr {t : Tx} {s : PS} {C : List (List In7)} (h : parseT t = .ok (s, C)) : PrOk (s.nms 118) (s.nms 102) (s.nms 109) (s.nms 116) C ∧ PW s ∧ C.length = (s.nms 116).length ∧ (∀ c, c ∈ C → c.length ≤ 24) := by
  unfold parseT at h
  split at h
  · cases h
  · unfold parseL at h
    split at h
    · cases h
    · rename_i s0 hs
      split at h
      · cases h
      · rename_i C0 hC
        cases h
        have hw := lines_pw _ _ _ _ PW.new hs
        obtain ⟨h1, h2⟩ := resAll_ok hw s.bod C (fun _ h' => h') hC
        have hN8 : ∀ k x, x ∈ nmP (s.nms 118) (s.nms 102) (s.nms 109) (s.nms 116) k → x.length ≤ 8 := fun k x hx => by
          unfold nmP at hx
          split at hx
          · exact hw.nm8 _ x hx
          · split at hx
            · exact hw.nm8 _ x hx
            · split at hx
              · exact hw.nm8 _ x hx
              · exact hw.nm8 _ x hx
        have f1 := hw.few 118
        have f2 := hw.few 102
        have f3 := hw.few 109
        have f4 := hw.few 116
        have hCl : C.length = (s.nms 116).length := by rw [h1, hw.thr]
        refine ⟨⟨⟨by omega, by omega, by omega⟩, by omega, fun is his => ⟨by have := (h2 is his).1; omega, fun i hi => ((h2 is his).2 i hi).1⟩, ?_⟩, hw, hCl, fun c hc => (h2 c hc).1⟩
        unfold printW headsW
        have e1 := hdL_len (wd := tVar) (by decide) f1 (hw.nm8 118)
        have e2 := hdL_len (wd := tFlag) (by decide) f2 (hw.nm8 102)
        have e3 := hdL_len (wd := tLock) (by decide) f3 (hw.nm8 109)
        have e4 := thrsW_len h2 hN8 (hw.nm8 116) hCl (s.nms 116).length (Nat.le_refl _)
        have e5 : (s.nms 116).length * 4000 ≤ 4 * 4000 := Nat.mul_le_mul_right _ f4
        rw [List.length_append]
        simp only [List.take_succ_cons, List.take_nil, List.take_zero, List.flatten_cons, List.flatten_nil, List.append_nil, List.length_append]
        omega
end Go.Proofs.YtlefemndikednaaGreatDoor
