import Derived.Test.YtcfpedjfofpnkaaGreatDoorRv20
import Derived.Test.YtcfpedjfofpnkaaGreatDoorRv19
set_option linter.unusedVariables false
set_option linter.unusedSimpArgs false
namespace Go.Proofs.YtcfpedjfofpnkaaGreatDoor
open Go.RowKit Go.Proofs.Cod
def goM (k : Bool) (C : List (List In7)) (s : MS) (t : Int) : MS × Ev := stpM k s t.toNat (nextI C t.toNat (s.th t.toNat))
def plM (k : Bool) (C : List (List In7)) (x : MS × List Ev) (t : Int) : MS × List Ev := if canM C x.1 t = 0 then ((goM k C x.1 t).1, x.2 ++ [(goM k C x.1 t).2]) else x
def playM (k : Bool) (C : List (List In7)) (s : MS) (l : List Int) : MS × List Ev := l.foldl (plM k C) (s, [])
theorem play_snoc (k : Bool) (C : List (List In7)) (s : MS) (l : List Int) (t : Int) : playM k C s (l ++ [t]) = plM k C (playM k C s l) t := by unfold playM; rw [List.foldl_append]; rfl
theorem play_take (k : Bool) (C : List (List In7)) (s : MS) (l : List Int) {i : Nat} (h : i < l.length) : playM k C s (l.take (i + 1)) = plM k C (playM k C s (l.take i)) (l.getD i 0) := by
 rw [← play_snoc, List.getD_eq_getElem?_getD, List.getElem?_eq_getElem h, List.take_add_one, List.getElem?_eq_getElem h]; rfl
structure PFit (nv nf nl : Nat) (C : List (List In7)) : Prop where
 four : C.length ≤ 4
 code : ∀ c, c ∈ C → c.length ≤ 24 ∧ ∀ i, i ∈ c → InsX nv nf nl C.length c.length i
theorem can0 {C : List (List In7)} {s : MS} {t : Int} (h : canM C s t = 0) : ∃ u : Nat, t = u ∧ u < s.thr.length ∧ (s.th u).ph ≠ 0 ∧ overM (s.th u) = false ∧ waitsM s (nextI C u (s.th u)) = false := by
 unfold canM at h
 by_cases h1 : t < 0 ∨ (s.thr.length : Int) ≤ t ∨ (s.th t.toNat).ph = 0
 ·rw [if_pos h1] at h; cases h
 ·rw [if_neg h1] at h
  by_cases h2 : overM (s.th t.toNat) = true
  ·rw [if_pos h2] at h; cases h
  ·rw [if_neg h2] at h
   by_cases h3 : waitsM s (nextI C t.toNat (s.th t.toNat)) = true
   ·rw [if_pos h3] at h; cases h
   ·have h4 : ¬ t < 0 := fun e => h1 (.inl e)
    have h5 : ¬ (s.thr.length : Int) ≤ t := fun e => h1 (.inr (.inl e))
    refine ⟨t.toNat, by omega, by omega, fun e => h1 (.inr (.inr e)), by simpa using h2, by simpa using h3⟩
section
variable {nv nf nl : Nat} {C : List (List In7)} {s s' : MS}
theorem ph_one {n : Nat} {th : TS} (h : TOk n th) (h0 : th.ph ≠ 0) (ho : overM th = false) : th.ph = 1 := by
 unfold overM at ho
 simp only [Bool.or_eq_false_iff, beq_eq_false_iff_ne] at ho
 have := h.ph
 omega
theorem nextI_fit (hf : PFit nv nf nl C) {t : Nat} (ht : t < C.length) {th : TS} (hpc : th.pc ≤ (C.getD t []).length) : nextI C t th = endI ∨ (InsX nv nf nl C.length (C.getD t []).length (nextI C t th) ∧ th.pc < (C.getD t []).length) := by
 unfold nextI
 by_cases e : th.pc < (C.getD t []).length
 ·exact .inr ⟨(hf.code _ (getD_mem ht)).2 _ (getD_mem e), e⟩
 ·exact .inl (by rw [List.getD_eq_getElem?_getD, List.getElem?_eq_none (by omega)]; rfl)
theorem can_info (hf : PFit nv nf nl C) (h : MOk nv nf nl C s) {t : Int} (hc : canM C s t = 0) : ∃ u : Nat, t = u ∧ u < C.length ∧ (s.th u).ph = 1 ∧ waitsM s (nextI C u (s.th u)) = false ∧ (nextI C u (s.th u) = endI ∨ (InsX nv nf nl C.length (C.getD u []).length (nextI C u (s.th u)) ∧ (s.th u).pc < (C.getD u []).length)) := by
 obtain ⟨u, rfl, hu, h0, ho, hw⟩ := can0 hc
 rw [h.tl] at hu
 have h1 := ph_one (h.th u hu) h0 ho
 exact ⟨u, rfl, hu, h1, hw, nextI_fit hf hu ((h.th u hu).pc (by omega))⟩
theorem pl_ok (k : Bool) (hf : PFit nv nf nl C) {x : MS × List Ev} (h : MOk nv nf nl C x.1) (t : Int) : MOk nv nf nl C (plM k C x t).1 := by
 unfold plM
 by_cases e : canM C x.1 t = 0
 ·rw [if_pos e]
  obtain ⟨u, rfl, hu, h1, hw, hx⟩ := can_info hf h e
  exact step_ok k h hu h1 hw hx
 ·rw [if_neg e]; exact h
theorem play_ok (k : Bool) (hf : PFit nv nf nl C) (h : MOk nv nf nl C s) (l : List Int) : MOk nv nf nl C (playM k C s l).1 := by
 have : ∀ (l : List Int) (x : MS × List Ev), MOk nv nf nl C x.1 → MOk nv nf nl C (l.foldl (plM k C) x).1 := by
  intro l
  induction l with
  | nil => exact fun x hx => hx
  | cons t r ih => exact fun x hx => ih _ (pl_ok k hf hx t)
 exact this l (s, []) h
structure Sim (s s' : MS) : Prop where
 v : s'.vars = s.vars
 f : s'.flags = s.flags
 l : s'.locks = s.locks
 n : s'.thr.length = s.thr.length
 ph : ∀ t, (s'.th t).ph = (s.th t).ph
 rg : ∀ t, (s'.th t).regs = (s.th t).regs
 pc : ∀ t, (s.th t).ph ≤ 1 → (s'.th t).pc = (s.th t).pc
theorem Sim.refl (s : MS) : Sim s s := ⟨rfl, rfl, rfl, rfl, fun _ => rfl, fun _ => rfl, fun _ _ => rfl⟩
theorem Sim.th (h : Sim s s') {t : Nat} (h1 : (s.th t).ph ≤ 1) : s'.th t = s.th t := by
 have a := h.ph t
 have b := h.rg t
 have c := h.pc t h1
 cases e : s'.th t
 cases e' : s.th t
 rw [e, e'] at a b c
 have a : _ = _ := a
 have b : _ = _ := b
 have c : _ = _ := c
 simp only [TS.mk.injEq]
 exact ⟨a, c, b⟩
theorem Sim.setT (h : Sim s s') {t : Nat} (ht : t < s.thr.length) {x x' : TS} (h1 : x'.ph = x.ph) (h2 : x'.regs = x.regs) (h3 : x.ph ≤ 1 → x'.pc = x.pc) : Sim (s.setT t x) (s'.setT t x') := by
 have e : ∀ u, (s.setT t x).th u = if u = t then x else s.th u := fun u => th_set s t u x ht
 have e' : ∀ u, (s'.setT t x').th u = if u = t then x' else s'.th u := fun u => th_set s' t u x' (by rw [h.n]; exact ht)
 refine ⟨h.v, h.f, h.l, ?_, fun u => ?_, fun u => ?_, fun u => ?_⟩
 ·show (s'.thr.set t x').length = (s.thr.set t x).length
  rw [List.length_set, List.length_set]; exact h.n
 ·rw [e, e']
  by_cases q : u = t
  ·rw [if_pos q, if_pos q]; exact h1
  ·rw [if_neg q, if_neg q]; exact h.ph u
 ·rw [e, e']
  by_cases q : u = t
  ·rw [if_pos q, if_pos q]; exact h2
  ·rw [if_neg q, if_neg q]; exact h.rg u
 ·rw [e, e']
  by_cases q : u = t
  ·rw [if_pos q, if_pos q]; exact h3
  ·rw [if_neg q, if_neg q]; exact h.pc u
theorem Sim.over (h : Sim s s') (t : Nat) : overM (s'.th t) = overM (s.th t) := by unfold overM; rw [h.ph t]
theorem Sim.waits (h : Sim s s') (x : In7) : waitsM s' x = waitsM s x := by
 unfold waitsM
 rw [h.l, h.over, h.ph]
theorem Sim.can (h : Sim s s') (hM : MOk nv nf nl C s) (t : Int) : canM C s' t = canM C s t := by
 unfold canM
 rw [h.n, h.ph, h.over]
 by_cases e1 : t < 0 ∨ (s.thr.length : Int) ≤ t ∨ (s.th t.toNat).ph = 0
 ·rw [if_pos e1, if_pos e1]
 ·rw [if_neg e1, if_neg e1]
  by_cases e2 : overM (s.th t.toNat) = true
  ·rw [if_pos e2, if_pos e2]
  ·rw [if_neg e2, if_neg e2, h.waits]
   have e3 : t.toNat < C.length := by
    have a : ¬ t < 0 := fun e => e1 (.inl e)
    have b : ¬ (s.thr.length : Int) ≤ t := fun e => e1 (.inr (.inl e))
    have := hM.tl
    omega
   have := ph_one (hM.th _ e3) (fun e => e1 (.inr (.inr e))) (by simpa using e2)
   rw [h.th (t := t.toNat) (by omega)]
theorem Sim.step (h : Sim s s') {t : Nat} (ht : t < s.thr.length) (h1 : (s.th t).ph = 1) (x : In7) (hw : waitsM s x = false) : (stpM true s' t x).2 = (stpM false s t x).2 ∧ Sim (stpM false s t x).1 (stpM true s' t x).1 := by
 have e := h.th (t := t) (by omega)
 have e0 : stpM true s' t x = stpM true { s' with vars := s.vars, flags := s.flags, locks := s.locks } t x := by rw [← h.v, ← h.f, ← h.l]
 have h2 : Sim s { s' with vars := s.vars, flags := s.flags, locks := s.locks } := ⟨rfl, rfl, rfl, h.n, h.ph, h.rg, h.pc⟩
 rw [e0]
 have e2 : MS.th { s' with vars := s.vars, flags := s.flags, locks := s.locks } t = s.th t := e
 have hset : ∀ (y y' : TS), y'.ph = y.ph → y'.regs = y.regs → (y.ph ≤ 1 → y'.pc = y.pc) → Sim (s.setT t y) (MS.setT { s' with vars := s.vars, flags := s.flags, locks := s.locks } t y') := fun y y' => h2.setT ht
 generalize hq : ({ s' with vars := s.vars, flags := s.flags, locks := s.locks } : MS) = q at *
 have qv : q.vars = s.vars := by rw [← hq]
 have qf : q.flags = s.flags := by rw [← hq]
 have ql : q.locks = s.locks := by rw [← hq]
 clear hq
 unfold stpM
 rw [e2, qv, qf, ql]
 have reg := fun y : TS => hset y y rfl rfl (fun _ => rfl)
 have ov : ∀ p : Int, p = 2 ∨ p = 3 → Sim (s.setT t { s.th t with ph := p, pc := (s.th t).pc + 1 }) (q.setT t { s.th t with ph := p, pc := (s.th t).pc }) := fun p hp => hset _ _ rfl rfl (fun e' => by have e' : p ≤ 1 := e'; omega)
 by_cases c1 : x.op = oSet
 ·rw [if_pos c1, if_pos c1]; exact ⟨rfl, reg _⟩
 rw [if_neg c1, if_neg c1]
 by_cases c2 : x.op = oAdd
 ·rw [if_pos c2, if_pos c2]; exact ⟨rfl, reg _⟩
 rw [if_neg c2, if_neg c2]
 by_cases c3 : x.op = oSub
 ·rw [if_pos c3, if_pos c3]; exact ⟨rfl, reg _⟩
 rw [if_neg c3, if_neg c3]
 by_cases c4 : x.op = oMul
 ·rw [if_pos c4, if_pos c4]; exact ⟨rfl, reg _⟩
 rw [if_neg c4, if_neg c4]
 by_cases c5 : x.op = oLoad
 ·rw [if_pos c5, if_pos c5]; exact ⟨rfl, reg _⟩
 rw [if_neg c5, if_neg c5]
 by_cases c6 : x.op = oStore
 ·rw [if_pos c6, if_pos c6]
  have r := reg { s.th t with pc := (s.th t).pc + 1 }
  exact ⟨rfl, ⟨rfl, r.f, r.l, r.n, r.ph, r.rg, r.pc⟩⟩
 rw [if_neg c6, if_neg c6]
 by_cases c7 : x.op = oGet
 ·rw [if_pos c7, if_pos c7]; exact ⟨rfl, reg _⟩
 rw [if_neg c7, if_neg c7]
 by_cases c8 : x.op = oPut
 ·rw [if_pos c8, if_pos c8]
  have r := reg { s.th t with pc := (s.th t).pc + 1 }
  exact ⟨rfl, ⟨r.v, rfl, r.l, r.n, r.ph, r.rg, r.pc⟩⟩
 rw [if_neg c8, if_neg c8]
 by_cases c9 : x.op = oLock
 ·rw [if_pos c9, if_pos c9]
  have r := reg { s.th t with pc := (s.th t).pc + 1 }
  exact ⟨rfl, ⟨r.v, r.f, rfl, r.n, r.ph, r.rg, r.pc⟩⟩
 rw [if_neg c9, if_neg c9]
 by_cases c10 : x.op = oUnlock
 ·rw [if_pos c10, if_pos c10]
  by_cases d : s.locks.getD x.x.toNat 0 ≠ t
  ·rw [if_pos d, if_pos d]; exact ⟨rfl, ov 3 (.inr rfl)⟩
  ·rw [if_neg d, if_neg d]
   have r := reg { s.th t with pc := (s.th t).pc + 1 }
   exact ⟨rfl, ⟨r.v, r.f, rfl, r.n, r.ph, r.rg, r.pc⟩⟩
 rw [if_neg c10, if_neg c10]
 by_cases c11 : x.op = oSpawn
 ·rw [if_pos c11, if_pos c11]
  have r := reg { s.th t with pc := (s.th t).pc + 1 }
  refine ⟨rfl, ?_⟩
  by_cases hn : x.x.toNat < (s.setT t { s.th t with pc := (s.th t).pc + 1 }).thr.length
  ·refine r.setT hn rfl (r.rg _) (fun _ => r.pc _ ?_)
   have hz : (s.th x.x.toNat).ph = 0 := by
    unfold waitsM at hw
    rw [if_neg c9, if_neg (by rw [c11]; decide), if_pos c11] at hw
    simpa using hw
   rw [th_set s t _ _ ht]
   split
   ·show (s.th t).ph ≤ 1; omega
   ·omega
  ·have n1 : ∀ (m : MS) (y : TS), m.thr.length ≤ x.x.toNat → m.setT x.x.toNat y = m := fun m y hm => by
    unfold MS.setT
    rw [List.set_eq_of_length_le hm]
   rw [n1 _ _ (Nat.le_of_not_lt hn), n1 _ _ (by rw [r.n]; exact Nat.le_of_not_lt hn)]
   exact r
 rw [if_neg c11, if_neg c11]
 by_cases c12 : x.op = oJoin
 ·rw [if_pos c12, if_pos c12]; exact ⟨rfl, reg _⟩
 rw [if_neg c12, if_neg c12]
 by_cases c13 : x.op = oJump
 ·rw [if_pos c13, if_pos c13]; exact ⟨rfl, reg _⟩
 rw [if_neg c13, if_neg c13]
 by_cases c14 : x.op = oJeq
 ·rw [if_pos c14, if_pos c14]; exact ⟨rfl, reg _⟩
 rw [if_neg c14, if_neg c14]
 by_cases c15 : x.op = oJlt
 ·rw [if_pos c15, if_pos c15]; exact ⟨rfl, reg _⟩
 rw [if_neg c15, if_neg c15]
 by_cases c16 : x.op = oCheck
 ·rw [if_pos c16, if_pos c16]
  by_cases d : vlM (s.th t) x.aR x.aN ≠ vlM (s.th t) x.bR x.bN
  ·rw [if_pos d, if_pos d]; exact ⟨rfl, ov 3 (.inr rfl)⟩
  ·rw [if_neg d, if_neg d]; exact ⟨rfl, reg _⟩
 rw [if_neg c16, if_neg c16]
 exact ⟨rfl, ov 2 (.inl rfl)⟩
theorem Sim.pl (hf : PFit nv nf nl C) {x x' : MS × List Ev} (h : Sim x.1 x'.1) (he : x'.2 = x.2) (hM : MOk nv nf nl C x.1) (t : Int) : Sim (plM false C x t).1 (plM true C x' t).1 ∧ (plM true C x' t).2 = (plM false C x t).2 := by
 unfold plM
 rw [h.can hM]
 by_cases e : canM C x.1 t = 0
 ·rw [if_pos e, if_pos e]
  obtain ⟨u, rfl, hu, h1, hw, hx⟩ := can_info hf hM e
  unfold goM
  rw [Int.toNat_natCast, h.th (t := u) (by omega)]
  obtain ⟨a, b⟩ := h.step (by rw [hM.tl]; exact hu) h1 _ hw
  exact ⟨b, by show _ ++ _ = _ ++ _; rw [he, a]⟩
 ·rw [if_neg e, if_neg e]; exact ⟨h, he⟩
theorem Sim.play (hf : PFit nv nf nl C) (h : Sim s s') (hM : MOk nv nf nl C s) (l : List Int) : Sim (playM false C s l).1 (playM true C s' l).1 ∧ (playM true C s' l).2 = (playM false C s l).2 := by
 have : ∀ (l : List Int) (x x' : MS × List Ev), Sim x.1 x'.1 → x'.2 = x.2 → MOk nv nf nl C x.1 → Sim (l.foldl (plM false C) x).1 (l.foldl (plM true C) x').1 ∧ (l.foldl (plM true C) x').2 = (l.foldl (plM false C) x).2 := by
  intro l
  induction l with
  | nil => exact fun x x' h1 h2 _ => ⟨h1, h2⟩
  | cons t r ih =>
   intro x x' h1 h2 h3
   have := Sim.pl hf h1 h2 h3 t
   exact ih _ _ this.1 this.2 (pl_ok false hf h3 t)
 exact this l (s, []) (s', []) h rfl hM
end
section
variable {w w' : World} {b : Nat} {p : PD} {s : MS}
theorem mach_deed (h : MachW w b p s) {t : Nat} (ht : t < 4) (hC : t < p.C.length) (hpc : (s.th t).pc ≤ (p.C.getD t []).length) (hl : (p.C.getD t []).length ≤ 24) {pc : Nat} (hp : (s.th t).pc = pc) {x : In7} (hx : nextI p.C t (s.th t) = x) :
 w.cell? ⟨b, 27 + t * 207 + 7 + pc * 8, none⟩ = some (.string (bs x.op)) ∧ w.cell? ⟨b, 27 + t * 207 + 7 + pc * 8 + 1, none⟩ = some (.int .i64 x.r) ∧ w.cell? ⟨b, 27 + t * 207 + 7 + pc * 8 + 2, none⟩ = some (.bool x.aR) ∧ w.cell? ⟨b, 27 + t * 207 + 7 + pc * 8 + 3, none⟩ = some (.int .i64 x.aN) ∧ w.cell? ⟨b, 27 + t * 207 + 7 + pc * 8 + 4, none⟩ = some (.bool x.bR) ∧ w.cell? ⟨b, 27 + t * 207 + 7 + pc * 8 + 5, none⟩ = some (.int .i64 x.bN) ∧ w.cell? ⟨b, 27 + t * 207 + 7 + pc * 8 + 6, none⟩ = some (.int .i64 x.x) ∧ w.cell? ⟨b, 27 + t * 207 + 7 + pc * 8 + 7, none⟩ = some (doV x.op) := by
 have key : ∀ j, j < 8 → w.cell? ⟨b, 27 + t * 207 + 7 + pc * 8 + j, none⟩ = some (deedV x j) := fun j hj => by
  rw [show 27 + t * 207 + 7 + pc * 8 + j = 27 + t * 207 + (7 + ((s.th t).pc * 8 + j)) by omega, h.cell (by omega), mc_deed ht hC hpc hl hj, hx]
 exact ⟨key 0 (by omega), key 1 (by omega), key 2 (by omega), key 3 (by omega), key 4 (by omega), key 5 (by omega), key 6 (by omega), key 7 (by omega)⟩
theorem mach_cnt (h : MachW w b p s) : w.cell? ⟨b, 855, none⟩ = some (.int .i64 p.ts.length) := by rw [h.cell (by omega), mc_cnt]
structure PFit4 (p : PD) : Prop where
 fit : PFit p.vs.length p.fs.length p.ls.length p.C
 v : p.vs.length ≤ 4
 f : p.fs.length ≤ 4
 l : p.ls.length ≤ 4
 tc : p.ts.length = p.C.length
abbrev MOkP (p : PD) (s : MS) : Prop := MOk p.vs.length p.fs.length p.ls.length p.C s
theorem xfit_of (hf : PFit4 p) {n : Nat} {x : In7} (hx : x = endI ∨ InsX p.vs.length p.fs.length p.ls.length p.C.length n x) : XFit p x := by
 have h4 := hf.fit.four
 have hl := hf.l
 rcases hx with rfl | hx
 ·exact ⟨by decide, fun q => (by cases q), fun q => (by cases q), fun q => (by cases q)⟩
 ·obtain ⟨q, hq, hop, x1, x2, x3, x4, x5⟩ := hx.ex
  refine ⟨hx.x0, fun e => ?_, fun e => ?_, fun e => ?_⟩
  ·rw [hop] at e
   simp only [shapeT, List.mem_cons, List.not_mem_nil, or_false] at hq
   rcases hq with rfl | rfl | rfl | rfl | rfl | rfl | rfl | rfl | rfl | rfl | rfl | rfl | rfl | rfl | rfl | rfl | rfl <;> first | (have := x3 (by decide); omega) | exact absurd e (by decide)
  ·rw [hop] at e
   simp only [shapeT, List.mem_cons, List.not_mem_nil, or_false] at hq
   rcases hq with rfl | rfl | rfl | rfl | rfl | rfl | rfl | rfl | rfl | rfl | rfl | rfl | rfl | rfl | rfl | rfl | rfl <;> first | (have := x4 (by decide); omega) | exact absurd e (by decide)
  ·rw [hop] at e
   simp only [shapeT, List.mem_cons, List.not_mem_nil, or_false] at hq
   rcases hq with rfl | rfl | rfl | rfl | rfl | rfl | rfl | rfl | rfl | rfl | rfl | rfl | rfl | rfl | rfl | rfl | rfl <;> first | (have := x4 (by decide); omega) | exact absurd e (by decide)
set_option maxRecDepth 100000 in
set_option maxHeartbeats 1000000 in
theorem refusal_any (h : MachW w b p s) (hf : PFit4 p) (hM : MOkP p s) (t : Int) :
 Calls Tryz.prog 31 #[ptrV b, .int .i64 t] w fun e w' => e = .returned (.int .i64 (canM p.C s t)) ∧ Below w.heap.size w w' := by
 have hcnt := mach_cnt h
 have htl := hM.tl
 have htc := hf.tc
 have h4 := hf.fit.four
 by_cases h1 : t < 0
 ·have hc : canM p.C s t = 5 := by unfold canM; rw [if_pos (.inl h1)]
  rw [hc]
  have d1 : decide (t < 0) = true := by simpa using h1
  clear h hf hM hc h1 htl htc h4 hcnt
  unfold ptrV
  go_enter Tryz.func31, Tryz.ntmps31
  go_wp2_with fail
  go_ret
  exact ⟨rfl, Below.refl _ _⟩
 ·by_cases h2 : (s.thr.length : Int) ≤ t
  ·have hc : canM p.C s t = 5 := by unfold canM; rw [if_pos (.inr (.inl h2))]
   rw [hc]
   have d1 : decide (t < 0) = false := by simpa using h1
   have d2 : decide ((p.ts.length : Int) ≤ t) = true := by simp only [decide_eq_true_eq]; omega
   clear h hf hM hc h1 h2 htl htc h4
   unfold ptrV
   go_enter Tryz.func31, Tryz.ntmps31
   go_wp2_with fail
   go_ret
   exact ⟨rfl, Below.refl _ _⟩
  ·obtain ⟨u, rfl⟩ : ∃ u : Nat, t = u := ⟨t.toNat, by omega⟩
   have hu : u < p.C.length := by omega
   have hu4 : u < 4 := by omega
   have hui : (u : Int) < 4 := by omega
   have d1 : decide ((u : Int) < 0) = false := by simp
   have d2 : decide ((p.ts.length : Int) ≤ (u : Int)) = false := by simp only [decide_eq_false_iff_not]; omega
   have d2n : decide (p.ts.length ≤ u) = false := by simp only [decide_eq_false_iff_not]; omega
   have hph := mach_ph h hu4
   have hT := hM.th u hu
   by_cases h3 : (s.th u).ph = 0
   ·have hc : canM p.C s (u : Int) = 5 := by unfold canM; rw [Int.toNat_natCast, if_pos (.inr (.inr h3))]
    rw [hc]
    rw [h3] at hph
    clear h hf hM hc h1 h2 htl htc h4 hT h3 hu hu4
    unfold ptrV
    go_enter Tryz.func31, Tryz.ntmps31
    go_wp2_with fail
    go_ret
    exact ⟨rfl, Below.refl _ _⟩
   ·have hc0 : ¬ ((u : Int) < 0 ∨ (s.thr.length : Int) ≤ (u : Int) ∨ (s.th (u : Int).toNat).ph = 0) := by rw [Int.toNat_natCast]; omega
    have hO := over_any h hu4
    have d3 : ((s.th u).ph == 0) = false := by simpa using h3
    cases ho : overM (s.th u) with
    | true =>
     have hc : canM p.C s (u : Int) = 6 := by unfold canM; rw [if_neg hc0, Int.toNat_natCast, if_pos ho]
     rw [hc]
     rw [ho] at hO
     generalize (s.th u).ph = ph at *
     clear h hf hM hc h1 h2 htl htc h4 hT h3 hu hu4 hc0 ho
     unfold ptrV
     go_enter Tryz.func31, Tryz.ntmps31
     go_wp2_with fail
     refine hO.mono ?_
     rintro e w1 ⟨rfl, rfl⟩
     clear hO
     go_wp2_with fail
     go_ret
     exact ⟨rfl, Below.refl _ _⟩
    | false =>
     have hp1 := ph_one hT h3 ho
     have hpc := hT.pc (by omega)
     have hl24 := (hf.fit.code _ (getD_mem (d := []) hu)).1
     rw [ho] at hO
     have hN := next_any h hu4 (by omega)
     obtain ⟨x, hx⟩ : ∃ x, nextI p.C u (s.th u) = x := ⟨_, rfl⟩
     obtain ⟨pc, hpq⟩ : ∃ pc, (s.th u).pc = pc := ⟨_, rfl⟩
     rw [hpq] at hN
     have hd : MachW w.drew b p s := RowF.same h rfl
     obtain ⟨k0, k1, k2, k3, k4, k5, k6, -⟩ := mach_deed hd hu4 hu hpc hl24 hpq hx
     have hB := blocks_any hd (x := x) (xfit_of hf (by rw [← hx]; rcases nextI_fit hf.fit hu hpc with q | q; exact .inl q; exact .inr q.1))
     have hc : canM p.C s (u : Int) = if waitsM s x = true then 7 else 0 := by unfold canM; rw [if_neg hc0, Int.toNat_natCast, if_neg (by rw [ho]; simp), hx]
     rw [hc]
     generalize (s.th u).ph = ph at *
     generalize waitsM s x = g at *
     unfold insC at hB
     clear h hf hM hc h1 h2 htl htc h4 hT h3 hu hu4 hc0 ho hp1 hpc hl24 hx hpq hd
     unfold ptrV at *
     cases g with
     | true =>
      go_enter Tryz.func31, Tryz.ntmps31
      go_wp2_with fail
      refine hO.mono ?_
      rintro e w1 ⟨rfl, rfl⟩
      clear hO
      go_wp2_with fail
      refine hN.mono ?_
      rintro e w2 ⟨rfl, rfl⟩
      clear hN
      go_wp2_with fail
      refine hB.mono ?_
      rintro e w3 ⟨rfl, hb3⟩
      have HB := hide hb3
      clear hB hb3
      go_wp2_with fail
      go_ret
      exact ⟨rfl, (show Below w1.heap.size w1 w1.drew from ⟨rfl, rfl, rfl, Nat.le_refl _, fun _ _ => rfl⟩).trans HB.out⟩
     | false =>
      go_enter Tryz.func31, Tryz.ntmps31
      go_wp2_with fail
      refine hO.mono ?_
      rintro e w1 ⟨rfl, rfl⟩
      clear hO
      go_wp2_with fail
      refine hN.mono ?_
      rintro e w2 ⟨rfl, rfl⟩
      clear hN
      go_wp2_with fail
      refine hB.mono ?_
      rintro e w3 ⟨rfl, hb3⟩
      have HB := hide hb3
      clear hB hb3
      go_wp2_with fail
      go_ret
      exact ⟨rfl, (show Below w1.heap.size w1 w1.drew from ⟨rfl, rfl, rfl, Nat.le_refl _, fun _ _ => rfl⟩).trans HB.out⟩
end
end Go.Proofs.YtcfpedjfofpnkaaGreatDoor
namespace Go.Proofs.YtcfpedjfofpnkaaGreatDoor
open Go.RowKit Go.Shelf Go.Proofs.Cod
def lineS (nm v : Tx) : Tx := nm ++ [61] ++ v ++ [10]
def linesS (T : Int → Tx) (ns : List Tx) (l : List Int) (i : Nat) : Tx := (List.range i).flatMap fun k => lineS (ns.getD k []) (T (l.getD k 0))
theorem linesS_succ (T : Int → Tx) (ns : List Tx) (l : List Int) (i : Nat) : linesS T ns l (i + 1) = linesS T ns l i ++ lineS (ns.getD i []) (T (l.getD i 0)) := by
 unfold linesS
 rw [List.range_succ, List.flatMap_append]
 simp
theorem linesS_len (T : Int → Tx) (ns : List Tx) (l : List Int) (i : Nat) (h1 : ∀ k, (ns.getD k []).length ≤ 8) (h2 : ∀ k, (T (l.getD k 0)).length ≤ 21) : (linesS T ns l i).length ≤ i * 31 := by
 induction i with
 | zero => simp [linesS]
 | succ i ih =>
  rw [linesS_succ, List.length_append]
  have a := h1 i
  have c := h2 i
  have : (lineS (ns.getD i []) (T (l.getD i 0))).length = (ns.getD i []).length + 1 + (T (l.getD i 0)).length + 1 := by simp [lineS]; omega
  omega
def holdT (ts : List Tx) (n : Int) : Tx := if n = -1 then [45] else ts.getD n.toNat []
section
variable {w w' : World} {b : Nat} {p : PD} {s : MS}
set_option maxRecDepth 100000 in
theorem holder_any (h : MachW w b p s) (n : Int) (hn : -1 ≤ n) (hn4 : n < 4) :
 Calls Tryz.prog 34 #[ptrV b, .int .i64 n] w fun e w' => e = .returned (.string (bs (holdT p.ts n))) ∧ w' = w := by
 by_cases h1 : n = -1
 ·subst h1
  have e : holdT p.ts (-1) = [45] := rfl
  rw [e]
  clear h
  unfold ptrV
  go_enter Tryz.func34, Tryz.ntmps34
  go_wp2_with fail
  go_ret
  exact ⟨rfl, rfl⟩
 ·obtain ⟨m, rfl⟩ : ∃ m : Nat, n = m := ⟨n.toNat, by omega⟩
  have e : holdT p.ts (m : Int) = p.ts.getD m [] := by unfold holdT; rw [if_neg h1, Int.toNat_natCast]
  rw [e]
  have hm : m < 4 := by omega
  have c : w.cell? ⟨b, 27 + m * 207, none⟩ = some (.string (bs (p.ts.getD m []))) := by
   have q := h.cell (k := 27 + m * 207 + 0) (by omega)
   rw [mc_thr p s hm (by omega)] at q
   exact q
  have g1 : ((m : Int) == -1) = false := by simp only [beq_eq_false_iff_ne]; omega
  generalize p.ts.getD m [] = nm at *
  clear h h1 e hm hn
  unfold ptrV
  go_enter Tryz.func34, Tryz.ntmps34
  go_wp2_with fail
  go_ret
  exact ⟨rfl, rfl⟩
def ShC (p : PD) (s : MS) (o : Nat) : List Tx × List Int := if o = 0 then (p.vs, s.vars) else if o = 9 then (p.fs, s.flags) else (p.ls, s.locks)
theorem sh_cells (h : MachW w b p s) {o : Nat} (ho : o = 0 ∨ o = 9 ∨ o = 18) : w.cell? ⟨b, o + 8, none⟩ = some (.int .i64 (ShC p s o).1.length) ∧ ∀ i, i < 4 → w.cell? ⟨b, o + i * 2, none⟩ = some (.string (bs ((ShC p s o).1.getD i []))) ∧ w.cell? ⟨b, o + i * 2 + 1, none⟩ = some (.int .i64 ((ShC p s o).2.getD i 0)) := by
 have key : ∀ k, k < 9 → w.cell? ⟨b, o + k, none⟩ = some (cellsF (ShC p s o).1 (ShC p s o).2 k) := fun k hk => by
  rw [h.cell (by omega)]
  unfold mcF ShC
  rcases ho with rfl | rfl | rfl
  ·rw [if_pos (by omega), Nat.zero_add]; rfl
  ·rw [if_neg (by omega), if_pos (by omega), show 9 + k - 9 = k by omega]; rfl
  ·rw [if_neg (by omega), if_neg (by omega), if_pos (by omega), show 18 + k - 18 = k by omega]; rfl
 refine ⟨key 8 (by omega), fun i hi => ⟨?_, ?_⟩⟩
 ·rw [key (i * 2) (by omega)]
  unfold cellsF
  rw [if_neg (by omega), if_pos (by omega), show i * 2 / 2 = i by omega]
 ·rw [Nat.add_assoc, key (i * 2 + 1) (by omega)]
  unfold cellsF
  rw [if_neg (by omega), if_neg (by omega), show (i * 2 + 1) / 2 = i by omega]
end
section
variable {w w' : World} {b B bb : Nat} {p : PD} {s : MS} {out : Tx}
theorem byte_lit (c : UInt8) (n : Int) (h : (c.toNat : Int) = n) : Value.int .u8 c.toNat = .int .u8 n := by rw [h]
set_option maxRecDepth 100000 in
set_option maxHeartbeats 1000000 in
theorem showNum_any (h : MachW w b p s) (hbB : b < B) (hW : BW w B bb out) (hBw : B ≤ w.heap.size) {o : Nat} (ho : o = 0 ∨ o = 9 ∨ o = 18) (hn : (ShC p s o).1.length ≤ 4) (h8 : ∀ k, ((ShC p s o).1.getD k []).length ≤ 8) (hlen : out.length ≤ 100000) {T : Int → Tx} (h21 : ∀ k, (T ((ShC p s o).2.getD k 0)).length ≤ 21)
 (hT : ∀ w', Below B w w' → ∀ i, i < (ShC p s o).1.length → Calls Tryz.prog 33 #[.int .i64 ((ShC p s o).2.getD i 0)] w' fun e w'' => e = .returned (.string (bs (T ((ShC p s o).2.getD i 0)))) ∧ Below w'.heap.size w' w'') :
 Calls Tryz.prog 32 #[ptrV bb, .pointer (some ⟨b, o, none⟩), .func (.func 33) #[] #[]] w fun e w' => e = .returned (.tuple #[]) ∧ BW w' B bb (out ++ linesS T (ShC p s o).1 (ShC p s o).2 (ShC p s o).1.length) ∧ Below B w w' := by
 have hL := fun i => linesS_len T (ShC p s o).1 (ShC p s o).2 i h8 h21
 have hC := fun (w' : World) (hb : Below B w w') => sh_cells (w := w') (h.same (hb.block b hbB)) ho
 obtain ⟨ns, hns⟩ : ∃ ns, (ShC p s o).1 = ns := ⟨_, rfl⟩
 obtain ⟨l, hl⟩ : ∃ l, (ShC p s o).2 = l := ⟨_, rfl⟩
 simp only [hns, hl] at hn h8 h21 hT hL hC ⊢
 obtain ⟨c8, -⟩ := hC w (Below.refl _ _)
 replace hC := hide hC
 replace hT := hide hT
 replace hL := hide hL
 have H0 := hide hW
 clear h hW hns hl ho
 unfold ptrV at *
 go_enter Tryz.func32, Tryz.ntmps32
 go_wp2_with fail
 go_loopw [11] (fun iv wr => ∃ i : Nat, i ≤ ns.length ∧ iv = .int .i64 i ∧ BW wr B bb (out ++ linesS T ns l i) ∧ Below B w wr) (fun iv _ => ns.length - (intOf iv).toNat)
 case atStart => exact ⟨0, Nat.zero_le _, rfl, (by have : linesS T ns l 0 = [] := rfl; rw [this, List.append_nil]; exact H0.out), Below.refl _ _⟩
 case round =>
  clear H0
  obtain ⟨i, hi, rfl, hS, hB⟩ := hrel
  by_cases h5 : i < ns.length
  ·have hi4 : i < 4 := by omega
   have hii : (i : Int) < 4 := by omega
   have hlt : (i : Int) < (ns.length : Int) := by omega
   have hwi : wrap64 ((i : Int) + 1) = (i : Int) + 1 := by unfold wrap64; omega
   obtain ⟨-, hc1⟩ := hC.out wr hB
   obtain ⟨c1, c2⟩ := hc1 i hi4
   have hLi := hL.out i
   have hLs := linesS_succ T ns l i
   have a8 := h8 i
   have a21 := h21 i
   have hT1 : Hid (∀ w', Below B w w' → _) := fun w' hb => hT.out w' hb i h5
   obtain ⟨nm, hnm⟩ : ∃ nm, ns.getD i [] = nm := ⟨_, rfl⟩
   obtain ⟨v, hv⟩ : ∃ v, l.getD i 0 = v := ⟨_, rfl⟩
   rw [hnm] at c1 hLs a8
   rw [hv] at hLs a21
   rw [hv] at hT1
   obtain ⟨tv, htv⟩ : ∃ tv, T v = tv := ⟨_, rfl⟩
   rw [htv] at hLs a21
   rw [htv] at hT1
   obtain ⟨o1, ho1⟩ : ∃ o1, out ++ linesS T ns l i = o1 := ⟨_, rfl⟩
   have hol : o1.length ≤ 100000 + 124 := by rw [← ho1, List.length_append]; omega
   rw [ho1] at hS
   have hfin : out ++ linesS T ns l (i + 1) = (((o1 ++ nm) ++ [61]) ++ tv) ++ [10] := by rw [hLs, ← ho1]; simp [lineS]
   have hS1 := bString_any hS nm (by omega) (by have := hB.size; omega)
   have HB := hide hB
   have hcv : Hid (∀ w', Below B w w' → w'.cell? ⟨b, o + i * 2 + 1, none⟩ = some (.int .i64 v)) := fun w' hb => by
    obtain ⟨-, q⟩ := hC.out w' hb
    have := (q i hi4).2
    rw [hv] at this
    exact this
   replace hfin := hide hfin
   clear c2 hc1 hLi hLs hnm hv htv hS ho1 hB h8 h21 hi hC hT hL
   unfold ptrV at hS1
   go_wp2_with fail
   refine hS1.mono ?_
   rintro e w1 ⟨rfl, hW1, hb1⟩
   have hB1 := HB.out.trans hb1
   have hS2 := bByte_any hW1 61 (by rw [List.length_append]; omega) (by have := hB1.size; omega)
   have HB1 := hide hB1
   clear hS1 hW1 hb1 hB1 c1
   unfold ptrV at hS2
   rw [byte_lit 61 61 rfl] at hS2
   go_wp2_with fail
   refine hS2.mono ?_
   rintro e w2 ⟨rfl, hW2, hb2⟩
   have hB2 := HB1.out.trans hb2
   have c2 := hcv.out w2 hB2
   have hTx := hT1.out w2 hB2
   have HB2 := hide (⟨hB2, hW2⟩ : _ ∧ _)
   clear hS2 hW2 hb2 hB2 HB1 HB
   go_wp2_with fail
   refine hTx.mono ?_
   rintro e w3 ⟨rfl, hb3⟩
   obtain ⟨hB2, hW2⟩ := HB2.out
   have hW3 := hW2.below hb3
   have hB3 : Below B w w3 := hB2.trans (hb3.mono (by have := hB2.size; omega))
   have hS4 := bString_any hW3 tv (by simp only [List.length_append, List.length_cons, List.length_nil]; omega) (by have := hB3.size; omega)
   have HB3 := hide hB3
   clear hTx hb3 hB2 hW2 hW3 hB3 HB2 c2 hcv hT1
   unfold ptrV at hS4
   go_wp2_with fail
   refine hS4.mono ?_
   rintro e w4 ⟨rfl, hW4, hb4⟩
   have hB4 := HB3.out.trans hb4
   have hS5 := bByte_any hW4 10 (by simp only [List.length_append, List.length_cons, List.length_nil]; omega) (by have := hB4.size; omega)
   have HB4 := hide hB4
   clear hS4 hW4 hb4 hB4 HB3
   unfold ptrV at hS5
   rw [byte_lit 10 10 rfl] at hS5
   go_wp2_with fail
   refine hS5.mono ?_
   rintro e w5 ⟨rfl, hW5, hb5⟩
   have HN := hide (⟨hW5, HB4.out.trans hb5, h5⟩ : _ ∧ _ ∧ _)
   clear hS5 hW5 hb5 HB4 h5
   go_wp2_with fail
   go_roundw
   case rel =>
    (try rw [hwi])
    refine ⟨i + 1, HN.out.2.2, rfl, ?_, HN.out.2.1⟩
    rw [hfin.out]
    exact HN.out.1
   case measure =>
    (try rw [hwi])
    exact Nat.sub_lt_sub_left HN.out.2.2 (Nat.lt_succ_self i)
  ·have hil : i = ns.length := by omega
   subst hil
   have HN := hide (⟨hS, hB⟩ : _ ∧ _)
   clear hS hB hC hT hL h8 h21
   go_wp2_with fail
   go_end0
   exact ⟨rfl, HN.out⟩
set_option maxRecDepth 100000 in
set_option maxHeartbeats 1000000 in
theorem showHold_any (h : MachW w b p s) (hbB : b < B) (hW : BW w B bb out) (hBw : B ≤ w.heap.size) {o : Nat} (ho : o = 0 ∨ o = 9 ∨ o = 18) (hn : (ShC p s o).1.length ≤ 4) (h8 : ∀ k, ((ShC p s o).1.getD k []).length ≤ 8) (hlen : out.length ≤ 100000) {T : Int → Tx} (h21 : ∀ k, (T ((ShC p s o).2.getD k 0)).length ≤ 21)
 (hT : ∀ w', Below B w w' → ∀ i, i < (ShC p s o).1.length → Calls Tryz.prog 34 #[ptrV b, .int .i64 ((ShC p s o).2.getD i 0)] w' fun e w'' => e = .returned (.string (bs (T ((ShC p s o).2.getD i 0)))) ∧ Below w'.heap.size w' w'') :
 Calls Tryz.prog 32 #[ptrV bb, .pointer (some ⟨b, o, none⟩), .func (.func 34) #[ptrV b] #[]] w fun e w' => e = .returned (.tuple #[]) ∧ BW w' B bb (out ++ linesS T (ShC p s o).1 (ShC p s o).2 (ShC p s o).1.length) ∧ Below B w w' := by
 have hL := fun i => linesS_len T (ShC p s o).1 (ShC p s o).2 i h8 h21
 have hC := fun (w' : World) (hb : Below B w w') => sh_cells (w := w') (h.same (hb.block b hbB)) ho
 obtain ⟨ns, hns⟩ : ∃ ns, (ShC p s o).1 = ns := ⟨_, rfl⟩
 obtain ⟨l, hl⟩ : ∃ l, (ShC p s o).2 = l := ⟨_, rfl⟩
 simp only [hns, hl] at hn h8 h21 hT hL hC ⊢
 obtain ⟨c8, -⟩ := hC w (Below.refl _ _)
 replace hC := hide hC
 replace hT := hide hT
 replace hL := hide hL
 have H0 := hide hW
 clear h hW hns hl ho
 unfold ptrV at *
 go_enter Tryz.func32, Tryz.ntmps32
 go_wp2_with fail
 go_loopw [11] (fun iv wr => ∃ i : Nat, i ≤ ns.length ∧ iv = .int .i64 i ∧ BW wr B bb (out ++ linesS T ns l i) ∧ Below B w wr) (fun iv _ => ns.length - (intOf iv).toNat)
 case atStart => exact ⟨0, Nat.zero_le _, rfl, (by have : linesS T ns l 0 = [] := rfl; rw [this, List.append_nil]; exact H0.out), Below.refl _ _⟩
 case round =>
  clear H0
  obtain ⟨i, hi, rfl, hS, hB⟩ := hrel
  by_cases h5 : i < ns.length
  ·have hi4 : i < 4 := by omega
   have hii : (i : Int) < 4 := by omega
   have hlt : (i : Int) < (ns.length : Int) := by omega
   have hwi : wrap64 ((i : Int) + 1) = (i : Int) + 1 := by unfold wrap64; omega
   obtain ⟨-, hc1⟩ := hC.out wr hB
   obtain ⟨c1, c2⟩ := hc1 i hi4
   have hLi := hL.out i
   have hLs := linesS_succ T ns l i
   have a8 := h8 i
   have a21 := h21 i
   have hT1 : Hid (∀ w', Below B w w' → _) := fun w' hb => hT.out w' hb i h5
   obtain ⟨nm, hnm⟩ : ∃ nm, ns.getD i [] = nm := ⟨_, rfl⟩
   obtain ⟨v, hv⟩ : ∃ v, l.getD i 0 = v := ⟨_, rfl⟩
   rw [hnm] at c1 hLs a8
   rw [hv] at hLs a21
   rw [hv] at hT1
   obtain ⟨tv, htv⟩ : ∃ tv, T v = tv := ⟨_, rfl⟩
   rw [htv] at hLs a21
   rw [htv] at hT1
   obtain ⟨o1, ho1⟩ : ∃ o1, out ++ linesS T ns l i = o1 := ⟨_, rfl⟩
   have hol : o1.length ≤ 100000 + 124 := by rw [← ho1, List.length_append]; omega
   rw [ho1] at hS
   have hfin : out ++ linesS T ns l (i + 1) = (((o1 ++ nm) ++ [61]) ++ tv) ++ [10] := by rw [hLs, ← ho1]; simp [lineS]
   have hS1 := bString_any hS nm (by omega) (by have := hB.size; omega)
   have HB := hide hB
   have hcv : Hid (∀ w', Below B w w' → w'.cell? ⟨b, o + i * 2 + 1, none⟩ = some (.int .i64 v)) := fun w' hb => by
    obtain ⟨-, q⟩ := hC.out w' hb
    have := (q i hi4).2
    rw [hv] at this
    exact this
   replace hfin := hide hfin
   clear c2 hc1 hLi hLs hnm hv htv hS ho1 hB h8 h21 hi hC hT hL
   unfold ptrV at hS1
   go_wp2_with fail
   refine hS1.mono ?_
   rintro e w1 ⟨rfl, hW1, hb1⟩
   have hB1 := HB.out.trans hb1
   have hS2 := bByte_any hW1 61 (by rw [List.length_append]; omega) (by have := hB1.size; omega)
   have HB1 := hide hB1
   clear hS1 hW1 hb1 hB1 c1
   unfold ptrV at hS2
   rw [byte_lit 61 61 rfl] at hS2
   go_wp2_with fail
   refine hS2.mono ?_
   rintro e w2 ⟨rfl, hW2, hb2⟩
   have hB2 := HB1.out.trans hb2
   have c2 := hcv.out w2 hB2
   have hTx := hT1.out w2 hB2
   have HB2 := hide (⟨hB2, hW2⟩ : _ ∧ _)
   clear hS2 hW2 hb2 hB2 HB1 HB
   unfold ptrV at hTx
   go_wp2_with fail
   refine hTx.mono ?_
   rintro e w3 ⟨rfl, hb3⟩
   obtain ⟨hB2, hW2⟩ := HB2.out
   have hW3 := hW2.below hb3
   have hB3 : Below B w w3 := hB2.trans (hb3.mono (by have := hB2.size; omega))
   have hS4 := bString_any hW3 tv (by simp only [List.length_append, List.length_cons, List.length_nil]; omega) (by have := hB3.size; omega)
   have HB3 := hide hB3
   clear hTx hb3 hB2 hW2 hW3 hB3 HB2 c2 hcv hT1
   unfold ptrV at hS4
   go_wp2_with fail
   refine hS4.mono ?_
   rintro e w4 ⟨rfl, hW4, hb4⟩
   have hB4 := HB3.out.trans hb4
   have hS5 := bByte_any hW4 10 (by simp only [List.length_append, List.length_cons, List.length_nil]; omega) (by have := hB4.size; omega)
   have HB4 := hide hB4
   clear hS4 hW4 hb4 hB4 HB3
   unfold ptrV at hS5
   rw [byte_lit 10 10 rfl] at hS5
   go_wp2_with fail
   refine hS5.mono ?_
   rintro e w5 ⟨rfl, hW5, hb5⟩
   have HN := hide (⟨hW5, HB4.out.trans hb5, h5⟩ : _ ∧ _ ∧ _)
   clear hS5 hW5 hb5 HB4 h5
   go_wp2_with fail
   go_roundw
   case rel =>
    (try rw [hwi])
    refine ⟨i + 1, HN.out.2.2, rfl, ?_, HN.out.2.1⟩
    rw [hfin.out]
    exact HN.out.1
   case measure =>
    (try rw [hwi])
    exact Nat.sub_lt_sub_left HN.out.2.2 (Nat.lt_succ_self i)
  ·have hil : i = ns.length := by omega
   subst hil
   have HN := hide (⟨hS, hB⟩ : _ ∧ _)
   clear hS hB hC hT hL h8 h21
   go_wp2_with fail
   go_end0
   exact ⟨rfl, HN.out⟩
end
def phaseT (th : TS) : Tx := if th.ph = 1 then [97, 116, 32] ++ Lib.itoa th.pc else if th.ph = 2 then [101, 110, 100, 101, 100] else if th.ph = 3 then [102, 97, 105, 108, 101, 100] else [110, 101, 119]
def regsT (l : List Int) (i : Nat) : Tx := (List.range i).flatMap fun k => 32 :: Lib.itoa (l.getD k 0)
theorem regsT_succ (l : List Int) (i : Nat) : regsT l (i + 1) = (regsT l i ++ [32]) ++ Lib.itoa (l.getD i 0) := by
 unfold regsT
 rw [List.range_succ, List.flatMap_append]
 simp
def thrT (nm : Tx) (th : TS) : Tx := nm ++ [32] ++ phaseT th ++ (if th.ph = 0 then [] else regsT th.regs 4) ++ [10]
theorem itoa_sm {n : Int} (h0 : 0 ≤ n) (h1 : n < 1000) : (Lib.itoa n).length ≤ 21 := Lib.itoa_length_le n (by omega) (by omega)
section
variable {w w' : World} {b B bb B0 : Nat} {p : PD} {s : MS} {out : Tx}
theorem mach_nm (h : MachW w b p s) {t : Nat} (ht : t < 4) : w.cell? ⟨b, 27 + t * 207, none⟩ = some (.string (bs (p.ts.getD t []))) := by
 have q := h.cell (k := 27 + t * 207 + 0) (by omega)
 rw [mc_thr p s ht (by omega)] at q
 exact q
set_option maxRecDepth 100000 in
set_option maxHeartbeats 1000000 in
theorem phaseText_any (h : MachW w b p s) {t : Nat} (ht : t < 4) (htab : Tabs w B0) (hph : 0 ≤ (s.th t).ph ∧ (s.th t).ph ≤ 3) (hpc : (s.th t).pc ≤ 25) :
 Calls Tryz.prog 77 #[.pointer (some ⟨b, 27 + t * 207, none⟩)] w fun e w' => e = .returned (.string (bs (phaseT (s.th t)))) ∧ Below w.heap.size w w' := by
 have c1 := mach_ph h ht
 have c2 := mach_pc h ht
 have hI := itoa_any ((s.th t).pc : Int) (by omega) (by omega) w htab
 have hil := itoa_sm (n := (s.th t).pc) (by omega) (by omega)
 unfold phaseT
 have h4 : (s.th t).ph = 0 ∨ (s.th t).ph = 1 ∨ (s.th t).ph = 2 ∨ (s.th t).ph = 3 := by omega
 generalize (s.th t).ph = ph at *
 generalize (s.th t).pc = pc at *
 generalize Lib.itoa (pc : Int) = it at *
 clear h ht hph hpc htab
 rcases h4 with rfl | rfl | rfl | rfl
 ·clear hI
  go_enter Tryz.func77, Tryz.ntmps77
  go_wp2_with fail
  go_ret
  exact ⟨rfl, Below.refl _ _⟩
 ·simp only [if_pos]
  have hsz : ¬ 9223372036854775807 < 3 + (bs it).size := by rw [bs_size]; omega
  have happ : (⟨#[97, 116, 32]⟩ : ByteArray) ++ bs it = bs ([97, 116, 32] ++ it) := bs_append [97, 116, 32] it
  go_enter Tryz.func77, Tryz.ntmps77
  go_wp2_with fail
  refine hI.mono ?_
  rintro e w1 ⟨rfl, hb⟩
  have HB := hide hb
  clear hI hb
  go_wp2_with fail
  go_ret
  exact ⟨rfl, HB.out⟩
 ·clear hI
  go_enter Tryz.func77, Tryz.ntmps77
  go_wp2_with fail
  go_ret
  exact ⟨rfl, Below.refl _ _⟩
 ·clear hI
  go_enter Tryz.func77, Tryz.ntmps77
  go_wp2_with fail
  go_ret
  exact ⟨rfl, Below.refl _ _⟩
end
end Go.Proofs.YtcfpedjfofpnkaaGreatDoor
