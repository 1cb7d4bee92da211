import Derived.Test.YtcfpedjfofpnkaaGreatDoorRu28
import Derived.Test.YtcfpedjfofpnkaaGreatDoorRuT6
import Derived.Test.YtcfpedjfofpnkaaGreatDoorRuT0
import Derived.BigQuiet
import Derived.Test.YtcfpedjfofpnkaaGreatDoorRu21
set_option linter.unusedVariables false
set_option linter.unusedSimpArgs false
/-
  A program that was loaded, for both.
-/
namespace Go.Proofs.YtcfpedjfofpnkaaGreatDoor
open Go.RowKit Go.Shelf Go.Proofs.Cod

/-- The program's and the document's program, and that they are one. -/
structure Two (w : World) (base : Nat) (vV fV lV thV qv qf ql qt : Value) (vs fs ls : List Tx) (L : List (Tx × Value)) (C : List (List In7)) (P : RP) (TV : List (Value × Value)) (nv nf nl nt : Nat) : Prop where
  prog : ProgW w base vV fV lV thV vs fs ls L C
  doc : DView w qv qf ql qt P TV
  lv : vs.length = nv
  lf : fs.length = nf
  ll : ls.length = nl
  lt : L.length = nt
  pv : P.vs.length = nv
  pf : P.fs.length = nf
  pl : P.ls.length = nl
  pt : P.thr.length = nt
  code : codeOf P = C
  pd : pdR P = pdOf vs fs ls L C
  b : NewB vs fs ls L C
  fit : PFit4 (pdOf vs fs ls L C)
  n8 : Nm8 (pdOf vs fs ls L C)
  cl : C.length = nt
section
variable {w w' : World} {base : Nat} {vV fV lV thV qv qf ql qt : Value} {vs fs ls : List Tx} {L : List (Tx × Value)} {C : List (List In7)} {P : RP} {TV : List (Value × Value)} {nv nf nl nt : Nat}
theorem Two.below (h : Two w base vV fV lV thV qv qf ql qt vs fs ls L C P TV nv nf nl nt) (hb : Below w.heap.size w w') : Two w' base vV fV lV thV qv qf ql qt vs fs ls L C P TV nv nf nl nt := { h with prog := h.prog.below hb, doc := h.doc.below hb }
theorem Two.pfit (h : Two w base vV fV lV thV qv qf ql qt vs fs ls L C P TV nv nf nl nt) : PFit nv nf nl C := by
  have q := h.fit.fit
  have q : PFit vs.length fs.length ls.length C := q
  rw [h.lv, h.lf, h.ll] at q
  exact q
theorem Two.four (h : Two w base vV fV lV thV qv qf ql qt vs fs ls L C P TV nv nf nl nt) : nv ≤ 4 ∧ nf ≤ 4 ∧ nl ≤ 4 ∧ nt ≤ 4 := by
  have a : vs.length ≤ 4 := h.fit.v
  have b : fs.length ≤ 4 := h.fit.f
  have c : ls.length ≤ 4 := h.fit.l
  have d : C.length ≤ 4 := h.fit.fit.four
  have := h.lv
  have := h.lf
  have := h.ll
  have := h.cl
  omega
theorem two_of {t : Tx} {s : PS} (he : parseT t = .ok (s, C)) (hPW : ProgW w base vV fV lV thV (s.nms 118) (s.nms 102) (s.nms 109) L C) (hLn : L.map Prod.fst = s.nms 116) (hQ : QView w base qv qf ql qt P TV) (h1 : P.vs = s.nms 118) (h2 : P.fs = s.nms 102) (h3 : P.ls = s.nms 109) (h4 : P.names = s.nms 116) (hC : (P.thr.map fun th => th.code.map RI.i) = C) :
    ∃ nv nf nl nt va fa la ta vc fc lc tc x1 x2 x3 x4 z1 z2 z3 z4, vV = .slice va nv vc ∧ fV = .slice fa nf fc ∧ lV = .slice la nl lc ∧ thV = .slice ta nt tc ∧ qv = .slice x1 nv z1 ∧ qf = .slice x2 nf z2 ∧ ql = .slice x3 nl z3 ∧ qt = .slice x4 nt z4 ∧ Two w base vV fV lV thV qv qf ql qt (s.nms 118) (s.nms 102) (s.nms 109) L C P TV nv nf nl nt := by
  obtain ⟨va, vc, e1⟩ := owns_len hPW.v
  obtain ⟨fa, fc, e2⟩ := owns_len hPW.f
  obtain ⟨la, lc, e3⟩ := owns_len hPW.l
  obtain ⟨ta, tc, e4⟩ := owns_len hPW.t
  obtain ⟨x1, z1, e5⟩ := owns_len hQ.v
  obtain ⟨x2, z2, e6⟩ := owns_len hQ.f
  obtain ⟨x3, z3, e7⟩ := owns_len hQ.l
  obtain ⟨x4, z4, e8⟩ := owns_len hQ.t
  obtain ⟨fn1, fn2, fn3⟩ := fit_of he hLn
  have hLl : L.length = P.thr.length := by
    have a := congrArg List.length hLn
    have b := congrArg List.length h4
    unfold RP.names at b
    rw [List.length_map] at a b
    rw [a, b]
  have hcl : C.length = L.length := hPW.len
  refine ⟨(s.nms 118).length, (s.nms 102).length, (s.nms 109).length, L.length, va, fa, la, ta, vc, fc, lc, tc, x1, x2, x3, x4, z1, z2, z3, z4, e1, e2, e3, e4, by rw [e5, h1], by rw [e6, h2], by rw [e7, h3], by rw [e8, hLl], hPW, hQ.view, rfl, rfl, rfl, rfl, by rw [h1], by rw [h2], by rw [h3], hLl.symm, hC, ?_, fn1, fn2, fn3, hcl⟩
  unfold pdR pdOf
  rw [h1, h2, h3, h4, hLn]
  show PD.mk _ _ _ _ (codeOf P) = _
  unfold codeOf
  rw [hC]
end
end Go.Proofs.YtcfpedjfofpnkaaGreatDoor
/-
  The law's comparisons; machines that are alike show the same.
-/
namespace Go.Proofs.YtcfpedjfofpnkaaGreatDoor
open Go.RowKit Go.Shelf Go.Proofs.Cod

section
variable {w w' : World}
set_option maxRecDepth 100000 in
set_option maxHeartbeats 1000000 in
theorem lints_any {a b : Option Addr} {l : List Int} {n ca cb : Nat} (ha : Is w a l) (hb : Is w b l) (hn : l.length = n) (hn2 : n ≤ 9223372036854775806) :
    Calls Tryz.prog 12 #[.slice a n ca, .slice b n cb] w fun e w' => e = .returned (.bool true) ∧ Below w.heap.size w w' := by
  have H := hide (⟨ha, hb, hn, hn2⟩ : _ ∧ _ ∧ _ ∧ _)
  clear ha hb hn hn2
  go_enter Tryz.func12, Tryz.ntmps12
  go_wp2_with fail
  go_loopw [5] (fun iv wr => ∃ i : Nat, i ≤ n ∧ iv = .int .i64 i ∧ Below w.heap.size w wr) (fun iv _ => n - (intOf iv).toNat)
  case atStart => exact ⟨0, Nat.zero_le _, rfl, Below.refl _ _⟩
  case round =>
    obtain ⟨i, hi, rfl, hB⟩ := hrel
    by_cases h5 : i < n
    · obtain ⟨ha, hb, hn, hn2⟩ := H.out
      have hlt : (i : Int) < (n : Int) := by omega
      obtain ⟨g1, o1, e1, -, c1⟩ := (ha.below hB) i (by omega)
      subst e1
      obtain ⟨g2, o2, e2, -, c2⟩ := (hb.below hB) i (by omega)
      subst e2
      generalize l.getD i 0 = v at *
      have hwi : wrap64 ((i : Int) + 1) = (i : Int) + 1 := by unfold wrap64; omega
      have HJ := hide (⟨h5, hB⟩ : _ ∧ _)
      clear ha hb hn hn2 hi h5 hB
      go_wp2_with fail
      go_quiet (fail)
      go_wp2_with fail
      go_roundw
      case rel =>
        (try rw [hwi])
        exact ⟨i + 1, HJ.out.1, rfl, HJ.out.2.trans ⟨rfl, rfl, rfl, Nat.le_refl _, fun _ _ => rfl⟩⟩
      case measure =>
        (try rw [hwi])
        exact Nat.sub_lt_sub_left HJ.out.1 (Nat.lt_succ_self i)
    · have hil : i = n := by omega
      subst hil
      have HJ := hide hB
      clear hi h5 hB H
      go_wp2_with fail
      go_ret
      exact ⟨rfl, HJ.out⟩
set_option maxRecDepth 100000 in
set_option maxHeartbeats 1000000 in
theorem levent_any (a b c d : Int) (w : World) :
    Calls Tryz.prog 20 #[.agg #[.int .i64 a, .int .i64 b, .int .i64 c, .int .i64 d], .agg #[.int .i64 a, .int .i64 b, .int .i64 c, .int .i64 d]] w fun e w' => e = .returned (.bool true) ∧ Below w.heap.size w w' := by
  obtain ⟨W, hW⟩ : ∃ W, (w.alloc (.cells #[.int .i64 a, .int .i64 b, .int .i64 c, .int .i64 d] 45)).alloc (.cells #[.int .i64 a, .int .i64 b, .int .i64 c, .int .i64 d] 50) = W := ⟨_, rfl⟩
  obtain ⟨hB, k1, k2, hz⟩ := two_new _ _ _ hW
  obtain ⟨c0, c1, c2, c3⟩ := four_cells k1
  obtain ⟨d0, d1, d2, d3⟩ := four_cells k2
  have HB := hide hB
  clear hB k1 k2 hz
  go_enter Tryz.func20, Tryz.ntmps20
  go_upto_region 1 with fail
  try rw [hW]
  clear hW
  go_wp2_with fail
  go_ret
  exact ⟨rfl, HB.out⟩
end
theorem Sim.show {p : PD} {s s' : MS} (h : Sim s s') : showM p s' = showM p s := by
  have ht : ∀ nm t, thrT nm (s'.th t) = thrT nm (s.th t) := fun nm t => by
    unfold thrT phaseT
    rw [h.ph t, h.rg t]
    by_cases e : (s.th t).ph = 1
    · rw [h.pc t (by omega)]
    · rw [if_neg e, if_neg e]
  unfold showM thrsT
  rw [h.v, h.f, h.l]
  congr 1
  congr 1
  funext t
  exact ht _ _
theorem Sim.ready {nv nf nl : Nat} {C : List (List In7)} {s s' : MS} (h : Sim s s') (hM : MOk nv nf nl C s) : readyM C s' = readyM C s := by
  unfold readyM readyTo
  rw [h.n]
  congr 1
  apply List.filter_congr
  intro t _
  rw [h.can hM]
end Go.Proofs.YtcfpedjfofpnkaaGreatDoor
/-
  What a run's events tell.
-/
namespace Go.Proofs.YtcfpedjfofpnkaaGreatDoor
open Go.RowKit Go.Proofs.Cod

def begM (s : MS) : List Bool := (List.range s.thr.length).map fun t => decide (t ≠ 0 ∧ (s.th t).ph ≠ 0)
def endM (s : MS) : List Bool := (List.range s.thr.length).map fun t => overM (s.th t)
theorem begM_get (s : MS) {t : Nat} (h : t < s.thr.length) : (begM s)[t]? = some (decide (t ≠ 0 ∧ (s.th t).ph ≠ 0)) := by unfold begM; rw [List.getElem?_map, List.getElem?_range h]; rfl
theorem endM_get (s : MS) {t : Nat} (h : t < s.thr.length) : (endM s)[t]? = some (overM (s.th t)) := by unfold endM; rw [List.getElem?_map, List.getElem?_range h]; rfl
theorem begM_len (s : MS) : (begM s).length = s.thr.length := by unfold begM; rw [List.length_map, List.length_range]
theorem endM_len (s : MS) : (endM s).length = s.thr.length := by unfold endM; rw [List.length_map, List.length_range]
theorem begM_ext {s : MS} {l : List Bool} (h : l.length = s.thr.length) (hl : ∀ t, t < s.thr.length → l[t]? = some (decide (t ≠ 0 ∧ (s.th t).ph ≠ 0))) : begM s = l := by
  apply List.ext_getElem?
  intro t
  by_cases e : t < s.thr.length
  · rw [begM_get s e, hl t e]
  · rw [List.getElem?_eq_none (by rw [begM_len]; omega), List.getElem?_eq_none (by omega)]
theorem endM_ext {s : MS} {l : List Bool} (h : l.length = s.thr.length) (hl : ∀ t, t < s.thr.length → l[t]? = some (overM (s.th t))) : endM s = l := by
  apply List.ext_getElem?
  intro t
  by_cases e : t < s.thr.length
  · rw [endM_get s e, hl t e]
  · rw [List.getElem?_eq_none (by rw [endM_len]; omega), List.getElem?_eq_none (by omega)]
/-- What an event tells of the machine ahead of it and behind it. -/
structure EvOk (nv nf nl : Nat) (s s' : MS) (e : Ev) : Prop where
  t0 : 0 ≤ e.t
  tn : e.t < s.thr.length
  live : (endM s)[e.t.toNat]? = some false
  begun : 0 < e.t → (begM s)[e.t.toNat]? = some true
  v : val3 e.v
  k : 0 ≤ e.k ∧ e.k ≤ 10
  o0 : 0 ≤ e.o
  read : e.k = 1 → e.o < nv ∧ s.vars.getD e.o.toNat 0 = e.v
  write : e.k = 2 → e.o < nv
  get : e.k = 3 → e.o < nf ∧ s.flags.getD e.o.toNat 0 = e.v
  put : e.k = 4 → e.o < nf
  spawn : e.k = 7 → 0 < e.o ∧ e.o < s.thr.length ∧ (begM s)[e.o.toNat]? = some false
  join : e.k = 8 → e.o < s.thr.length ∧ (endM s)[e.o.toNat]? = some true
  vars : s'.vars = if e.k = 2 then s.vars.set e.o.toNat e.v else s.vars
  flags : s'.flags = if e.k = 4 then s.flags.set e.o.toNat e.v else s.flags
  beg : begM s' = if e.k = 7 then (begM s).set e.o.toNat true else begM s
  fin : endM s' = if e.k = 9 ∨ e.k = 10 then (endM s).set e.t.toNat true else endM s
  lock : e.k = 5 → ∀ j : Nat, j < nl → (j : Int) = e.o → s.locks.getD j 0 = -1 ∧ s'.locks.getD j 0 ≠ -1
  unlock : e.k = 6 → ∀ j : Nat, j < nl → (j : Int) = e.o → s.locks.getD j 0 ≠ -1 ∧ s'.locks.getD j 0 = -1
  other : ∀ j : Nat, j < nl → ¬ ((e.k = 5 ∨ e.k = 6) ∧ (j : Int) = e.o) → s'.locks.getD j 0 = s.locks.getD j 0
theorem fin_no {α : Type} {k : Int} {a b : α} (h : k ≠ 9 ∧ k ≠ 10) : (if k = 9 ∨ k = 10 then a else b) = b := if_neg (by omega)
section
variable {nv nf nl : Nat} {C : List (List In7)} {s s' : MS}
/-- A thread that goes on, its phase unchanged: who has begun, and who is over, stays. -/
theorem beg_stay {t : Nat} (ht : t < s.thr.length) {th : TS} (h : th.ph = (s.th t).ph) : begM (s.setT t th) = begM s ∧ endM (s.setT t th) = endM s := by
  have hl : (s.setT t th).thr.length = s.thr.length := by show (s.thr.set t th).length = _; rw [List.length_set]
  constructor
  · refine begM_ext (by rw [begM_len, hl]) fun u hu => ?_
    rw [hl] at hu
    rw [begM_get s hu, th_set s t u th ht]
    by_cases e : u = t
    · rw [if_pos e, h, e]
    · rw [if_neg e]
  · refine endM_ext (by rw [endM_len, hl]) fun u hu => ?_
    rw [hl] at hu
    rw [endM_get s hu, th_set s t u th ht]
    by_cases e : u = t
    · rw [if_pos e]; unfold overM; rw [h, e]
    · rw [if_neg e]
theorem beg_end {t : Nat} (ht : t < s.thr.length) {th : TS} (h : th.ph = 2 ∨ th.ph = 3) (h0 : (s.th t).ph ≠ 0) : begM (s.setT t th) = begM s ∧ endM (s.setT t th) = (endM s).set t true := by
  have hl : (s.setT t th).thr.length = s.thr.length := by show (s.thr.set t th).length = _; rw [List.length_set]
  constructor
  · refine begM_ext (by rw [begM_len, hl]) fun u hu => ?_
    rw [hl] at hu
    rw [begM_get s hu, th_set s t u th ht]
    by_cases e : u = t
    · rw [if_pos e]
      have : th.ph ≠ 0 := by omega
      rw [e]
      simp [h0, this]
    · rw [if_neg e]
  · refine endM_ext (by rw [List.length_set, endM_len, hl]) fun u hu => ?_
    rw [hl] at hu
    rw [th_set s t u th ht, List.getElem?_set]
    by_cases e : u = t
    · rw [if_pos e, if_pos e.symm, if_pos (by rw [endM_len]; exact ht)]
      unfold overM
      rcases h with h | h <;> rw [h] <;> rfl
    · rw [if_neg e, if_neg (fun q => e q.symm), endM_get s hu]
theorem beg_new {n : Nat} (hn : n < s.thr.length) (h0 : 0 < n) {th : TS} (h : th.ph = 1) (hz : (s.th n).ph = 0) : begM (s.setT n th) = (begM s).set n true ∧ endM (s.setT n th) = endM s := by
  have hl : (s.setT n th).thr.length = s.thr.length := by show (s.thr.set n th).length = _; rw [List.length_set]
  constructor
  · refine begM_ext (by rw [List.length_set, begM_len, hl]) fun u hu => ?_
    rw [hl] at hu
    rw [th_set s n u th hn, List.getElem?_set]
    by_cases e : u = n
    · rw [if_pos e, if_pos e.symm, if_pos (by rw [begM_len]; exact hn), h, e]
      have : n ≠ 0 := by omega
      simp [this]
    · rw [if_neg e, if_neg (fun q => e q.symm), begM_get s hu]
  · refine endM_ext (by rw [endM_len, hl]) fun u hu => ?_
    rw [hl] at hu
    rw [endM_get s hu, th_set s n u th hn]
    by_cases e : u = n
    · rw [if_pos e, e]; unfold overM; rw [h, hz]; rfl
    · rw [if_neg e]
theorem ev_step (h : MOk nv nf nl C s) {t : Nat} (ht : t < C.length) (hph : (s.th t).ph = 1) (h00 : (s.th 0).ph ≠ 0) {x : In7} (hw : waitsM s x = false) (hx : x = endI ∨ (InsX nv nf nl C.length (C.getD t []).length x ∧ (s.th t).pc < (C.getD t []).length)) : EvOk nv nf nl s (stpM false s t x).1 (stpM false s t x).2 ∧ ((stpM false s t x).1.th 0).ph ≠ 0 := by
  have hT := h.th t ht
  have ht' : t < s.thr.length := by rw [h.tl]; exact ht
  have hlive : (endM s)[t]? = some false := by rw [endM_get s ht']; unfold overM; rw [hph]; rfl
  have hbeg : (0 : Int) < t → (begM s)[t]? = some true := fun q => by
    rw [begM_get s ht', hph]
    have : t ≠ 0 := by omega
    simp [this]
  have v0 : val3 0 := ⟨by omega, by omega⟩
  have z0 : ∀ {th : TS}, th.ph ≠ 0 → ((s.setT t th).th 0).ph ≠ 0 := fun {th} q => by
    rw [th_set s t 0 th ht']
    split
    · exact q
    · exact h00
  /- an event of no kind but its own -/
  have loc : ∀ (s' : MS), s'.vars = s.vars → s'.flags = s.flags → s'.locks = s.locks → begM s' = begM s → endM s' = endM s → EvOk nv nf nl s s' ⟨t, 0, 0, 0⟩ := fun s' a1 a2 a3 a4 a5 =>
    ⟨by show (0 : Int) ≤ t; omega, by show (t : Int) < _; omega, hlive, hbeg, v0, ⟨by show (0 : Int) ≤ 0; omega, by show (0 : Int) ≤ 10; omega⟩, Int.le_refl 0, fun q => (by cases q), fun q => (by cases q), fun q => (by cases q), fun q => (by cases q), fun q => (by cases q), fun q => (by cases q), a1, a2, a4, a5.trans (fin_no (k := 0) ⟨by decide, by decide⟩).symm, fun q => (by cases q), fun q => (by cases q), fun j _ _ => by rw [a3]⟩
  have over : ∀ (s' : MS) (k : Int), k = 9 ∨ k = 10 → s'.vars = s.vars → s'.flags = s.flags → s'.locks = s.locks → begM s' = begM s → endM s' = (endM s).set t true → EvOk nv nf nl s s' ⟨t, k, 0, 0⟩ := fun s' k hk a1 a2 a3 a4 a5 =>
    ⟨by show (0 : Int) ≤ t; omega, by show (t : Int) < _; omega, hlive, hbeg, v0, by show 0 ≤ k ∧ k ≤ 10; omega, Int.le_refl 0, fun q => by have q : k = 1 := q; omega, fun q => by have q : k = 2 := q; omega, fun q => by have q : k = 3 := q; omega, fun q => by have q : k = 4 := q; omega, fun q => by have q : k = 7 := q; omega, fun q => by have q : k = 8 := q; omega, by rw [a1, if_neg (by show ¬ k = 2; omega)], by rw [a2, if_neg (by show ¬ k = 4; omega)], by rw [a4, if_neg (by show ¬ k = 7; omega)], by rw [if_pos (show k = 9 ∨ k = 10 from hk)]; exact a5, fun q => by have q : k = 5 := q; omega, fun q => by have q : k = 6 := q; omega, fun j _ _ => by rw [a3]⟩
  rcases hx with rfl | ⟨hx, hlt⟩
  · have := beg_end ht' (th := { s.th t with ph := 2, pc := (s.th t).pc + 1 }) (.inl rfl) (by omega)
    exact ⟨over _ 10 (.inr rfl) rfl rfl rfl this.1 this.2, z0 (by show (2 : Int) ≠ 0; decide)⟩
  · have reg : ∀ (th : TS), th.ph = (s.th t).ph → EvOk nv nf nl s (s.setT t th) ⟨t, 0, 0, 0⟩ ∧ ((s.setT t th).th 0).ph ≠ 0 := fun th q => ⟨loc _ rfl rfl rfl (beg_stay ht' q).1 (beg_stay ht' q).2, z0 (by omega)⟩
    have ha := vlM_ok hT hx.sm.2.1
    have hb := vlM_ok hT hx.sm.2.2
    have tt0 : (0 : Int) ≤ t := by omega
    have ttn : (t : Int) < s.thr.length := by omega
    obtain ⟨q, hq, hop, x1, x2, x3, x4, x5⟩ := hx.ex
    have hx0 := hx.x0
    obtain ⟨n, hn⟩ : ∃ n : Nat, x.x = n := ⟨x.x.toNat, by omega⟩
    have hnn : x.x.toNat = n := by omega
    have go := beg_stay ht' (th := { s.th t with pc := (s.th t).pc + 1 }) rfl
    simp only [shapeT, List.mem_cons, List.not_mem_nil, or_false] at hq
    rcases hq with rfl | rfl | rfl | rfl | rfl | rfl | rfl | rfl | rfl | rfl | rfl | rfl | rfl | rfl | rfl | rfl | rfl <;> unfold stpM <;> rw [hop]
    · exact reg _ rfl
    · exact reg _ rfl
    · exact reg _ rfl
    · exact reg _ rfl
    · have hv : x.x < nv := x1 (by decide)
      have g := beg_stay ht' (th := { s.th t with pc := (s.th t).pc + 1, regs := (s.th t).regs.set x.r.toNat (s.vars.getD x.x.toNat 0) }) rfl
      exact ⟨⟨tt0, ttn, hlive, hbeg, h.vv _ (getD_mem (by rw [h.vl]; omega)), ⟨by show (0 : Int) ≤ 1; omega, by show (1 : Int) ≤ 10; omega⟩, hx0, fun _ => ⟨hv, rfl⟩, fun q => (by cases q), fun q => (by cases q), fun q => (by cases q), fun q => (by cases q), fun q => (by cases q), rfl, rfl, g.1, g.2.trans (fin_no (k := 1) ⟨by decide, by decide⟩).symm, fun q => (by cases q), fun q => (by cases q), fun _ _ _ => rfl⟩, z0 (by show (s.th t).ph ≠ 0; omega)⟩
    · have hv : x.x < nv := x1 (by decide)
      exact ⟨⟨tt0, ttn, hlive, hbeg, ha, ⟨by show (0 : Int) ≤ 2; omega, by show (2 : Int) ≤ 10; omega⟩, hx0, fun q => (by cases q), fun _ => hv, fun q => (by cases q), fun q => (by cases q), fun q => (by cases q), fun q => (by cases q), rfl, rfl, go.1, go.2.trans (fin_no (k := 2) ⟨by decide, by decide⟩).symm, fun q => (by cases q), fun q => (by cases q), fun _ _ _ => rfl⟩, z0 (th := { s.th t with pc := (s.th t).pc + 1 }) (by show (s.th t).ph ≠ 0; omega)⟩
    · have hv : x.x < nf := x2 (by decide)
      have g := beg_stay ht' (th := { s.th t with pc := (s.th t).pc + 1, regs := (s.th t).regs.set x.r.toNat (s.flags.getD x.x.toNat 0) }) rfl
      exact ⟨⟨tt0, ttn, hlive, hbeg, h.fv _ (getD_mem (by rw [h.fl]; omega)), ⟨by show (0 : Int) ≤ 3; omega, by show (3 : Int) ≤ 10; omega⟩, hx0, fun q => (by cases q), fun q => (by cases q), fun _ => ⟨hv, rfl⟩, fun q => (by cases q), fun q => (by cases q), fun q => (by cases q), rfl, rfl, g.1, g.2.trans (fin_no (k := 3) ⟨by decide, by decide⟩).symm, fun q => (by cases q), fun q => (by cases q), fun _ _ _ => rfl⟩, z0 (by show (s.th t).ph ≠ 0; omega)⟩
    · have hv : x.x < nf := x2 (by decide)
      exact ⟨⟨tt0, ttn, hlive, hbeg, ha, ⟨by show (0 : Int) ≤ 4; omega, by show (4 : Int) ≤ 10; omega⟩, hx0, fun q => (by cases q), fun q => (by cases q), fun q => (by cases q), fun _ => hv, fun q => (by cases q), fun q => (by cases q), rfl, rfl, go.1, go.2.trans (fin_no (k := 4) ⟨by decide, by decide⟩).symm, fun q => (by cases q), fun q => (by cases q), fun _ _ _ => rfl⟩, z0 (th := { s.th t with pc := (s.th t).pc + 1 }) (by show (s.th t).ph ≠ 0; omega)⟩
    · have hv : x.x < nl := x3 (by decide)
      have hfree : s.locks.getD n 0 = -1 := by
        unfold waitsM at hw
        rw [hop] at hw
        have hw : decide (s.locks.getD x.x.toNat 0 ≠ -1) = false := hw
        rw [hnn] at hw
        simpa using hw
      refine ⟨⟨tt0, ttn, hlive, hbeg, v0, ⟨by show (0 : Int) ≤ 5; omega, by show (5 : Int) ≤ 10; omega⟩, hx0, fun q => (by cases q), fun q => (by cases q), fun q => (by cases q), fun q => (by cases q), fun q => (by cases q), fun q => (by cases q), rfl, rfl, go.1, go.2.trans (fin_no (k := 5) ⟨by decide, by decide⟩).symm, fun _ j hj e => ?_, fun q => (by cases q), fun j hj e => ?_⟩, z0 (th := { s.th t with pc := (s.th t).pc + 1 }) (by show (s.th t).ph ≠ 0; omega)⟩
      · have e : (j : Int) = x.x := e
        have e : j = n := by omega
        subst e
        refine ⟨hfree, ?_⟩
        show (s.locks.set x.x.toNat (t : Int)).getD j 0 ≠ -1
        rw [hnn, List.getD_eq_getElem?_getD, List.getElem?_set, if_pos rfl, if_pos (by rw [h.ll]; exact hj)]
        show (t : Int) ≠ -1; omega
      · show (s.locks.set x.x.toNat (t : Int)).getD j 0 = _
        rw [List.getD_eq_getElem?_getD, List.getElem?_set, if_neg (fun q => e ⟨.inl rfl, by show (j : Int) = x.x; omega⟩), List.getD_eq_getElem?_getD]
    · show EvOk nv nf nl s (Prod.fst (if s.locks.getD x.x.toNat 0 ≠ t then _ else _ : MS × Ev)) (Prod.snd (if s.locks.getD x.x.toNat 0 ≠ t then _ else _ : MS × Ev)) ∧ ((Prod.fst (if s.locks.getD x.x.toNat 0 ≠ t then _ else _ : MS × Ev)).th 0).ph ≠ 0
      by_cases d : s.locks.getD x.x.toNat 0 ≠ t
      · rw [if_pos d]
        have := beg_end ht' (th := { s.th t with ph := 3, pc := (s.th t).pc + 1 }) (.inr rfl) (by omega)
        exact ⟨over _ 9 (.inl rfl) rfl rfl rfl this.1 this.2, z0 (by show (3 : Int) ≠ 0; decide)⟩
      · rw [if_neg d]
        have hv : x.x < nl := x3 (by decide)
        have d : s.locks.getD n 0 = t := by rw [hnn] at d; exact Decidable.not_not.1 d
        refine ⟨⟨tt0, ttn, hlive, hbeg, v0, ⟨by show (0 : Int) ≤ 6; omega, by show (6 : Int) ≤ 10; omega⟩, hx0, fun q => (by cases q), fun q => (by cases q), fun q => (by cases q), fun q => (by cases q), fun q => (by cases q), fun q => (by cases q), rfl, rfl, go.1, go.2.trans (fin_no (k := 6) ⟨by decide, by decide⟩).symm, fun q => (by cases q), fun _ j hj e => ?_, fun j hj e => ?_⟩, z0 (th := { s.th t with pc := (s.th t).pc + 1 }) (by show (s.th t).ph ≠ 0; omega)⟩
        · have e : (j : Int) = x.x := e
          have e : j = n := by omega
          subst e
          refine ⟨by rw [d]; omega, ?_⟩
          show (s.locks.set x.x.toNat (-1)).getD j 0 = -1
          rw [hnn, List.getD_eq_getElem?_getD, List.getElem?_set, if_pos rfl, if_pos (by rw [h.ll]; exact hj)]; rfl
        · show (s.locks.set x.x.toNat (-1)).getD j 0 = _
          rw [List.getD_eq_getElem?_getD, List.getElem?_set, if_neg (fun q => e ⟨.inr rfl, by show (j : Int) = x.x; omega⟩), List.getD_eq_getElem?_getD]
    · have hv : x.x < C.length := x4 (by decide)
      have hz : (s.th n).ph = 0 := by
        unfold waitsM at hw
        rw [hop] at hw
        have hw : decide ((s.th x.x.toNat).ph ≠ 0) = false := hw
        rw [hnn] at hw
        simpa using hw
      have hn0 : 0 < n := by
        rcases Nat.eq_zero_or_pos n with e | e
        · subst e; exact absurd hz h00
        · exact e
      have hl : (s.setT t { s.th t with pc := (s.th t).pc + 1 }).thr.length = s.thr.length := by show (s.thr.set t _).length = _; rw [List.length_set]
      have hnl : n < s.thr.length := by rw [h.tl]; omega
      have hnt : n ≠ t := fun e => by subst e; omega
      have hz2 : ((s.setT t { s.th t with pc := (s.th t).pc + 1 }).th n).ph = 0 := by rw [th_set s t n _ ht', if_neg hnt]; exact hz
      have g := beg_new (s := s.setT t { s.th t with pc := (s.th t).pc + 1 }) (n := n) (by rw [hl]; exact hnl) hn0 (th := { (s.setT t { s.th t with pc := (s.th t).pc + 1 }).th n with ph := 1 }) rfl hz2
      have e0 : x.x.toNat = n := hnn
      rw [go.1, go.2] at g
      rw [← hnn] at g
      refine ⟨⟨tt0, ttn, hlive, hbeg, v0, ⟨by show (0 : Int) ≤ 7; omega, by show (7 : Int) ≤ 10; omega⟩, hx0, fun q => (by cases q), fun q => (by cases q), fun q => (by cases q), fun q => (by cases q), fun _ => ⟨by show 0 < x.x; omega, by show x.x < _; omega, ?_⟩, fun q => (by cases q), rfl, rfl, g.1, g.2.trans (fin_no (k := 7) ⟨by decide, by decide⟩).symm, fun q => (by cases q), fun q => (by cases q), fun _ _ _ => rfl⟩, ?_⟩
      · show (begM s)[x.x.toNat]? = _
        rw [hnn, begM_get s hnl, hz]; simp
      · show (MS.th (MS.setT _ x.x.toNat _) 0).ph ≠ 0
        rw [th_set _ _ _ _ (by rw [hl, hnn]; exact hnl), if_neg (by omega)]
        exact z0 (by show (s.th t).ph ≠ 0; omega)
    · have hv : x.x < C.length := x4 (by decide)
      have hov : overM (s.th n) = true := by
        unfold waitsM at hw
        rw [hop] at hw
        have hw : (!overM (s.th x.x.toNat)) = false := hw
        rw [hnn] at hw
        simpa using hw
      refine ⟨⟨tt0, ttn, hlive, hbeg, v0, ⟨by show (0 : Int) ≤ 8; omega, by show (8 : Int) ≤ 10; omega⟩, hx0, fun q => (by cases q), fun q => (by cases q), fun q => (by cases q), fun q => (by cases q), fun q => (by cases q), fun _ => ⟨by show x.x < _; have := h.tl; omega, ?_⟩, rfl, rfl, go.1, go.2.trans (fin_no (k := 8) ⟨by decide, by decide⟩).symm, fun q => (by cases q), fun q => (by cases q), fun _ _ _ => rfl⟩, z0 (by show (s.th t).ph ≠ 0; omega)⟩
      show (endM s)[x.x.toNat]? = _
      rw [hnn, endM_get s (by rw [h.tl]; omega), hov]
    · exact reg _ rfl
    · exact reg _ rfl
    · exact reg _ rfl
    · show EvOk nv nf nl s (Prod.fst (if vlM _ _ _ ≠ vlM _ _ _ then _ else _ : MS × Ev)) (Prod.snd (if vlM _ _ _ ≠ vlM _ _ _ then _ else _ : MS × Ev)) ∧ ((Prod.fst (if vlM _ _ _ ≠ vlM _ _ _ then _ else _ : MS × Ev)).th 0).ph ≠ 0
      split
      · have := beg_end ht' (th := { s.th t with ph := 3, pc := (s.th t).pc + 1 }) (.inr rfl) (by omega)
        exact ⟨over _ 9 (.inl rfl) rfl rfl rfl this.1 this.2, z0 (by show (3 : Int) ≠ 0; decide)⟩
      · exact reg _ rfl
    · have := beg_end ht' (th := { s.th t with ph := 2, pc := (s.th t).pc + 1 }) (.inl rfl) (by omega)
      exact ⟨over _ 10 (.inr rfl) rfl rfl rfl this.1 this.2, z0 (by show (2 : Int) ≠ 0; decide)⟩
/-- Each event of a run: there are machines ahead of it and behind it. -/
inductive Tr (nv nf nl : Nat) (C : List (List In7)) (s0 : MS) : List Ev → MS → Prop where
  | nil : Tr nv nf nl C s0 [] s0
  | snoc {l : List Ev} {s s' : MS} {e : Ev} : Tr nv nf nl C s0 l s → EvOk nv nf nl s s' e → s'.thr.length = s.thr.length → Tr nv nf nl C s0 (l ++ [e]) s'
theorem tr_len {s0 : MS} {l : List Ev} (h : Tr nv nf nl C s0 l s) : s.thr.length = s0.thr.length := by
  induction h with
  | nil => rfl
  | snoc _ _ h2 ih => exact h2.trans ih
theorem tr_at {s0 : MS} {l : List Ev} (h : Tr nv nf nl C s0 l s) {i : Nat} (hi : i ≤ l.length) : ∃ m, Tr nv nf nl C s0 (l.take i) m := by
  induction h with
  | nil => exact ⟨s0, by rw [List.take_nil]; exact .nil⟩
  | snoc h1 h2 h3 ih =>
    rename_i l s s' e
    rw [List.length_append] at hi
    by_cases q : i ≤ l.length
    · rw [List.take_append_of_le_length q]
      exact ih q
    · rw [List.take_of_length_le (by rw [List.length_append]; simp only [List.length_singleton] at hi ⊢; omega)]
      exact ⟨s', .snoc h1 h2 h3⟩
theorem tr_step {s0 : MS} {l : List Ev} (h : Tr nv nf nl C s0 l s) {e : Ev} {i : Nat} (hi : l[i]? = some e) : ∃ m m', Tr nv nf nl C s0 (l.take i) m ∧ EvOk nv nf nl m m' e ∧ Tr nv nf nl C s0 (l.take (i + 1)) m' := by
  induction h with
  | nil => cases hi
  | snoc h1 h2 h3 ih =>
    rename_i l s s' e'
    by_cases q : i < l.length
    · rw [List.getElem?_append_left q] at hi
      rw [List.take_append_of_le_length (by omega), List.take_append_of_le_length (by omega)]
      exact ih hi
    · have hb : i < (l ++ [e']).length := (List.getElem?_eq_some_iff.1 hi).1
      rw [List.length_append, List.length_singleton] at hb
      have hil : i = l.length := by omega
      subst hil
      rw [List.getElem?_append_right (Nat.le_refl _), Nat.sub_self] at hi
      have hi : some e' = some e := hi
      cases hi
      rw [List.take_append_of_le_length (Nat.le_refl _), List.take_of_length_le (Nat.le_refl _), List.take_of_length_le (by rw [List.length_append, List.length_singleton]; omega)]
      exact ⟨s, s', h1, h2, .snoc h1 h2 h3⟩
theorem play_tr (hf : PFit nv nf nl C) (hM : MOk nv nf nl C s) (h0 : C.length ≠ 0 → (s.th 0).ph ≠ 0) (l : List Int) : Tr nv nf nl C s (playM false C s l).2 (playM false C s l).1 := by
  have : ∀ (l : List Int) (x : MS × List Ev), MOk nv nf nl C x.1 → (C.length ≠ 0 → (x.1.th 0).ph ≠ 0) → Tr nv nf nl C s x.2 x.1 → Tr nv nf nl C s (l.foldl (plM false C) x).2 (l.foldl (plM false C) x).1 := by
    intro l
    induction l with
    | nil => exact fun x _ _ h => h
    | cons t r ih =>
      intro x h1 h2 h3
      rw [List.foldl_cons]
      refine ih _ (pl_ok false hf h1 t) ?_ ?_
      · unfold plM
        by_cases e : canM C x.1 t = 0
        · rw [if_pos e]
          obtain ⟨u, rfl, hu, p1, hw, hx⟩ := can_info hf h1 e
          exact fun q => (ev_step h1 hu p1 (h2 q) hw hx).2
        · rw [if_neg e]; exact h2
      · unfold plM
        by_cases e : canM C x.1 t = 0
        · rw [if_pos e]
          obtain ⟨u, rfl, hu, p1, hw, hx⟩ := can_info hf h1 e
          refine .snoc h3 (ev_step h1 hu p1 (h2 (by omega)) hw hx).1 ?_
          have a := (step_ok false h1 hu p1 hw hx).tl
          exact a.trans h1.tl.symm
        · rw [if_neg e]; exact h3
  exact this l (s, []) hM h0 .nil
end
end Go.Proofs.YtcfpedjfofpnkaaGreatDoor
/-
  RunSound: a run's states; who holds a lock.
-/
namespace Go.Proofs.YtcfpedjfofpnkaaGreatDoor
open Go.RowKit Go.Shelf Go.Proofs.Cod

section
variable {nv nf nl : Nat} {C : List (List In7)} {s : MS}
theorem tr_seq {s0 : MS} {l : List Ev} (h : Tr nv nf nl C s0 l s) : ∃ st : Nat → MS, st 0 = s0 ∧ st l.length = s ∧ ∀ i e, l[i]? = some e → EvOk nv nf nl (st i) (st (i + 1)) e ∧ (st i).thr.length = s0.thr.length := by
  induction h with
  | nil => exact ⟨fun _ => s0, rfl, rfl, fun i e q => by cases q⟩
  | snoc h1 h2 h3 ih =>
    rename_i l s s' e
    obtain ⟨st, q0, q1, q2⟩ := ih
    refine ⟨fun i => if i ≤ l.length then st i else s', by show (if 0 ≤ l.length then _ else _) = _; rw [if_pos (Nat.zero_le _)]; exact q0, ?_, fun i e' q => ?_⟩
    · show (if (l ++ [e]).length ≤ l.length then _ else _) = _
      rw [if_neg (by simp)]
    · dsimp only
      by_cases hi : i < l.length
      · rw [List.getElem?_append_left hi] at q
        rw [if_pos (by omega), if_pos (by omega)]
        exact q2 i e' q
      · have hb : i < (l ++ [e]).length := (List.getElem?_eq_some_iff.1 q).1
        rw [List.length_append, List.length_singleton] at hb
        have hil : i = l.length := by omega
        subst hil
        rw [List.getElem?_append_right (Nat.le_refl _), Nat.sub_self] at q
        have q : some e = some e' := q
        cases q
        rw [if_pos (Nat.le_refl _), if_neg (by omega), q1]
        exact ⟨h2, tr_len h1⟩
end
/-- An event, read. -/
structure EvHere (w : World) (g k : Nat) (e : Ev) : Prop where
  c0 : w.cell? ⟨g, k * 4, none⟩ = some (.int .i64 e.t)
  c1 : w.cell? ⟨g, k * 4 + 1, none⟩ = some (.int .i64 e.k)
  c2 : w.cell? ⟨g, k * 4 + 2, none⟩ = some (.int .i64 e.o)
  c3 : w.cell? ⟨g, k * 4 + 3, none⟩ = some (.int .i64 e.v)
theorem ev_at {w : World} {base : Nat} {v : Value} {l : List Ev} {k : Nat} {e : Ev} (h : w.ownsRow base 45 4 v l.length (l.flatMap evL)) (hk : l[k]? = some e) : ∃ g cap, v = .slice (some ⟨g, 0, none⟩) l.length cap ∧ g < w.heap.size ∧ EvHere w g k e := by
  have hl := (List.getElem?_eq_some_iff.1 hk).1
  obtain ⟨g, cap, e1, hg, hc⟩ := row_form h hl
  have key : ∀ q, q < 4 → w.cell? ⟨g, k * 4 + q, none⟩ = (evL e)[q]? := fun q hq => by
    rw [hc (k * 4 + q) (by omega)]; exact flat_at evL_len hk hq
  exact ⟨g, cap, e1, hg, key 0 (by omega), key 1 (by omega), key 2 (by omega), key 3 (by omega)⟩
def lkN (m : MS) (k : Nat) : Int := if m.locks.getD k 0 = -1 then 0 else 1
set_option maxRecDepth 100000 in
set_option maxHeartbeats 2000000 in
theorem holders_any {w : World} {base nv nf nl : Nat} {v : Value} {evs : List Ev} (h : w.ownsRow base 45 4 v evs.length (evs.flatMap evL)) (hl : evs.length < 1048576) {st : Nat → MS} {k : Nat} (hk : k < nl) (h0 : lkN (st 0) k = 0) (hst : ∀ i e, evs[i]? = some e → EvOk nv nf nl (st i) (st (i + 1)) e) (n : Int) :
    Calls Tryz.prog 25 #[v, .int .i64 k, .int .i64 n] w fun e w' => (∃ r, e = .returned (.int .i64 r) ∧ 0 ≤ r) ∧ w' = w := by
  obtain ⟨va, vc, hv⟩ := owns_len h
  subst hv
  have H := hide (⟨h, hst, h0⟩ : _ ∧ _ ∧ _)
  clear h hst h0
  go_enter Tryz.func25, Tryz.ntmps25
  go_wp2_with fail
  go_loopw [7, 8] (fun nv iv wr => ∃ i : Nat, i ≤ evs.length ∧ iv = .int .i64 i ∧ nv = .int .i64 (lkN (st i) k) ∧ wr = w) (fun _ iv _ => evs.length - (intOf iv).toNat)
  case atStart => exact ⟨0, Nat.zero_le _, rfl, by rw [H.out.2.2], rfl⟩
  case round =>
    obtain ⟨i, hi, rfl, rfl, rfl⟩ := hrel
    have hn01 : lkN (st i) k = 0 ∨ lkN (st i) k = 1 := by unfold lkN; split <;> simp
    by_cases h5 : i < evs.length
    · have hlt : (i : Int) < (evs.length : Int) := by omega
      obtain ⟨e, he⟩ : ∃ e, evs[i]? = some e := ⟨_, List.getElem?_eq_getElem h5⟩
      have hE := H.out.2.1 i e he
      obtain ⟨g, cap, hgv, -, ⟨-, c1, c2, -⟩⟩ := ev_at H.out.1 he
      injection hgv with hga _ _
      subst hga
      have hwi : wrap64 ((i : Int) + 1) = (i : Int) + 1 := wrap_lt (by omega)
      have hnx : (e.k = 5 ∧ e.o = k ∧ lkN (st i) k = 0 ∧ lkN (st (i + 1)) k = 1) ∨ (e.k = 6 ∧ e.o = k ∧ lkN (st i) k = 1 ∧ lkN (st (i + 1)) k = 0) ∨ (lkN (st (i + 1)) k = lkN (st i) k ∧ ((e.k = 5 ∧ e.o ≠ k) ∨ (e.k = 6 ∧ e.o ≠ k) ∨ (e.k ≠ 5 ∧ e.k ≠ 6))) := by
        unfold lkN
        by_cases e5 : e.k = 5
        · by_cases eo : e.o = k
          · obtain ⟨q1, q2⟩ := hE.lock e5 k hk eo.symm
            exact .inl ⟨e5, eo, by rw [if_pos q1], by rw [if_neg q2]⟩
          · exact .inr (.inr ⟨by rw [hE.other k hk (fun q => eo q.2.symm)], .inl ⟨e5, eo⟩⟩)
        · by_cases e6 : e.k = 6
          · by_cases eo : e.o = k
            · obtain ⟨q1, q2⟩ := hE.unlock e6 k hk eo.symm
              exact .inr (.inl ⟨e6, eo, by rw [if_neg q1], by rw [if_pos q2]⟩)
            · exact .inr (.inr ⟨by rw [hE.other k hk (fun q => eo q.2.symm)], .inr (.inl ⟨e6, eo⟩)⟩)
          · exact .inr (.inr ⟨by rw [hE.other k hk (fun q => by rcases q.1 with q | q; exact e5 q; exact e6 q)], .inr (.inr ⟨e5, e6⟩)⟩)
      obtain ⟨n0, hn0⟩ : ∃ n0, lkN (st i) k = n0 := ⟨_, rfl⟩
      obtain ⟨n1, hn1⟩ : ∃ n1, lkN (st (i + 1)) k = n1 := ⟨_, rfl⟩
      rw [hn0] at hnx hn01 ⊢
      rw [hn1] at hnx
      obtain ⟨et, ek, eo, ev⟩ := e
      dsimp only at c1 c2 hnx
      have HN := hide (⟨h5, hn1⟩ : _ ∧ _)
      clear hE he h5 hi hn0 hn1 H hk
      rcases hnx with ⟨rfl, rfl, rfl, rfl⟩ | ⟨rfl, rfl, rfl, rfl⟩ | ⟨rfl, (⟨rfl, ho⟩ | ⟨rfl, ho⟩ | ⟨h5k, h6k⟩)⟩
      · clear hn01
        go_wp2_with fail
        go_roundw
        case rel =>
          (try rw [hwi])
          exact ⟨i + 1, HN.out.1, rfl, by rw [HN.out.2], by trivial⟩
        case measure =>
          (try rw [hwi])
          exact Nat.sub_lt_sub_left HN.out.1 (Nat.lt_succ_self i)
      · clear hn01
        go_wp2_with fail
        go_roundw
        case rel =>
          (try rw [hwi])
          exact ⟨i + 1, HN.out.1, rfl, by rw [HN.out.2], by trivial⟩
        case measure =>
          (try rw [hwi])
          exact Nat.sub_lt_sub_left HN.out.1 (Nat.lt_succ_self i)
      · have ho' : (eo == (k : Int)) = false := by simpa using ho
        clear ho
        rcases hn01 with rfl | rfl
        · skip
          go_wp2_with fail
          go_roundw
          case rel =>
            (try rw [hwi])
            exact ⟨i + 1, HN.out.1, rfl, by rw [HN.out.2], by trivial⟩
          case measure =>
            (try rw [hwi])
            exact Nat.sub_lt_sub_left HN.out.1 (Nat.lt_succ_self i)
        · skip
          go_wp2_with fail
          go_roundw
          case rel =>
            (try rw [hwi])
            exact ⟨i + 1, HN.out.1, rfl, by rw [HN.out.2], by trivial⟩
          case measure =>
            (try rw [hwi])
            exact Nat.sub_lt_sub_left HN.out.1 (Nat.lt_succ_self i)
      · have ho' : (eo == (k : Int)) = false := by simpa using ho
        clear ho
        rcases hn01 with rfl | rfl
        · skip
          go_wp2_with fail
          go_roundw
          case rel =>
            (try rw [hwi])
            exact ⟨i + 1, HN.out.1, rfl, by rw [HN.out.2], by trivial⟩
          case measure =>
            (try rw [hwi])
            exact Nat.sub_lt_sub_left HN.out.1 (Nat.lt_succ_self i)
        · skip
          go_wp2_with fail
          go_roundw
          case rel =>
            (try rw [hwi])
            exact ⟨i + 1, HN.out.1, rfl, by rw [HN.out.2], by trivial⟩
          case measure =>
            (try rw [hwi])
            exact Nat.sub_lt_sub_left HN.out.1 (Nat.lt_succ_self i)
      · have h5' : (ek == 5) = false := by simpa using h5k
        have h6' : (ek == 6) = false := by simpa using h6k
        clear h5k h6k
        rcases hn01 with rfl | rfl
        · skip
          go_wp2_with fail
          go_roundw
          case rel =>
            (try rw [hwi])
            exact ⟨i + 1, HN.out.1, rfl, by rw [HN.out.2], by trivial⟩
          case measure =>
            (try rw [hwi])
            exact Nat.sub_lt_sub_left HN.out.1 (Nat.lt_succ_self i)
        · skip
          go_wp2_with fail
          go_roundw
          case rel =>
            (try rw [hwi])
            exact ⟨i + 1, HN.out.1, rfl, by rw [HN.out.2], by trivial⟩
          case measure =>
            (try rw [hwi])
            exact Nat.sub_lt_sub_left HN.out.1 (Nat.lt_succ_self i)
    · have hil : i = evs.length := by omega
      subst hil
      obtain ⟨n0, hn0⟩ : ∃ n0, lkN (st evs.length) k = n0 := ⟨_, rfl⟩
      rw [hn0] at hn01 ⊢
      have HN : Hid (0 ≤ n0) := by unfold Hid; omega
      clear hi h5 hn01 hn0 H
      go_wp2_with fail
      go_ret
      exact ⟨⟨n0, rfl, HN.out⟩, rfl⟩
end Go.Proofs.YtcfpedjfofpnkaaGreatDoor
