import Derived.Test.YtlpdomgedaockaaGreatDoorOl23
import Derived.Test.YtlpdomgedaockaaGreatDoorOl19
import Derived.Test.YtlpdomgedaockaaGreatDoorOl5
import Derived.Test.YtlpdomgedaockaaGreatDoorOl20
import Derived.Test.YtlpdomgedaockaaGreatDoorOl22
import Derived.Test.YtlpdomgedaockaaGreatDoorOl18
import Derived.ChangeSlices
set_option linter.unusedVariables false
set_option linter.unusedSimpArgs false
namespace Go.Proofs.YtlpdomgedaockaaGreatDoor
open Go.RowKit Go.Proofs.Cod
section
variable {w w' : World} {b sb : Nat} {p : PD} {s : MS} {t : Nat} {x : In7} {e : Ev}
set_option maxRecDepth 100000 in
theorem dLoad_any (h : StV w b sb p s t x e) (ht : t < 4) (htl : t < s.thr.length) (hrl : (s.th t).regs.length = 4) (hr : 0 ≤ x.r ∧ x.r < 4) (hx : 0 ≤ x.x ∧ x.x < 4) :
    Calls Tryz.prog 66 #[ptrV sb] w fun r w' => r = .returned (.tuple #[]) ∧ StR w w' b sb p (s.setT t { s.th t with regs := (s.th t).regs.set x.r.toNat (s.vars.getD x.x.toNat 0) }) t x { e with k := 1, o := x.x, v := s.vars.getD x.x.toNat 0 } := by
  obtain ⟨c0, -⟩ := h.ptrs
  have A : Calls Tryz.prog 67 #[ptrV sb, .int .i64 1, .pointer (some ⟨b, 0, none⟩)] w fun r w' => r = .returned (.tuple #[]) ∧ StR w w' b sb p (s.setT t { s.th t with regs := (s.th t).regs.set x.r.toNat (s.vars.getD x.x.toNat 0) }) t x { e with k := 1, o := x.x, v := s.vars.getD x.x.toNat 0 } := fetch_any h ht htl hrl hr hx 1 (o := 0) (.inl rfl)
  obtain ⟨s', hs'⟩ : ∃ s' : MS, (s.setT t { s.th t with regs := (s.th t).regs.set x.r.toNat (s.vars.getD x.x.toNat 0) }) = s' := ⟨_, rfl⟩
  obtain ⟨e', he'⟩ : ∃ e' : Ev, ({ e with k := 1, o := x.x, v := s.vars.getD x.x.toNat 0 } : Ev) = e' := ⟨_, rfl⟩
  simp only [hs', he'] at A ⊢
  clear h hs' he'
  unfold ptrV at *
  go_enter Tryz.func66, Tryz.ntmps66
  go_wp2_with fail
  refine A.mono ?_
  rintro e1 w1 ⟨rfl, h1⟩
  have H1 := hide h1
  clear A h1
  go_wp2_with fail
  go_end0
  exact ⟨rfl, H1.out⟩
set_option maxRecDepth 100000 in
theorem dStore_any (h : StV w b sb p s t x e) (ht : t < 4) (hrl : (s.th t).regs.length = 4) (ha : argB4 x.aR x.aN) (hx : 0 ≤ x.x ∧ x.x < 4) (hl : x.x.toNat < s.vars.length) :
    Calls Tryz.prog 68 #[ptrV sb] w fun r w' => r = .returned (.tuple #[]) ∧ StR w w' b sb p { s with vars := s.vars.set x.x.toNat (vlM (s.th t) x.aR x.aN) } t x { e with k := 2, o := x.x, v := vlM (s.th t) x.aR x.aN } := by
  obtain ⟨c0, -⟩ := h.ptrs
  have A : Calls Tryz.prog 69 #[ptrV sb, .int .i64 2, .pointer (some ⟨b, 0, none⟩)] w fun r w' => r = .returned (.tuple #[]) ∧ StR w w' b sb p { s with vars := s.vars.set x.x.toNat (vlM (s.th t) x.aR x.aN) } t x { e with k := 2, o := x.x, v := vlM (s.th t) x.aR x.aN } := keep_any h ht hrl ha hx 2 (o := 0) (.inl rfl) hl
  obtain ⟨s', hs'⟩ : ∃ s' : MS, { s with vars := s.vars.set x.x.toNat (vlM (s.th t) x.aR x.aN) } = s' := ⟨_, rfl⟩
  obtain ⟨e', he'⟩ : ∃ e' : Ev, ({ e with k := 2, o := x.x, v := vlM (s.th t) x.aR x.aN } : Ev) = e' := ⟨_, rfl⟩
  simp only [hs', he'] at A ⊢
  clear h hs' he'
  unfold ptrV at *
  go_enter Tryz.func68, Tryz.ntmps68
  go_wp2_with fail
  refine A.mono ?_
  rintro e1 w1 ⟨rfl, h1⟩
  have H1 := hide h1
  clear A h1
  go_wp2_with fail
  go_end0
  exact ⟨rfl, H1.out⟩
set_option maxRecDepth 100000 in
theorem dGet_any (h : StV w b sb p s t x e) (ht : t < 4) (htl : t < s.thr.length) (hrl : (s.th t).regs.length = 4) (hr : 0 ≤ x.r ∧ x.r < 4) (hx : 0 ≤ x.x ∧ x.x < 4) :
    Calls Tryz.prog 70 #[ptrV sb] w fun r w' => r = .returned (.tuple #[]) ∧ StR w w' b sb p (s.setT t { s.th t with regs := (s.th t).regs.set x.r.toNat (s.flags.getD x.x.toNat 0) }) t x { e with k := 3, o := x.x, v := s.flags.getD x.x.toNat 0 } := by
  obtain ⟨c0, -⟩ := h.ptrs
  have A : Calls Tryz.prog 67 #[ptrV sb, .int .i64 3, .pointer (some ⟨b, 9, none⟩)] w fun r w' => r = .returned (.tuple #[]) ∧ StR w w' b sb p (s.setT t { s.th t with regs := (s.th t).regs.set x.r.toNat (s.flags.getD x.x.toNat 0) }) t x { e with k := 3, o := x.x, v := s.flags.getD x.x.toNat 0 } := fetch_any h ht htl hrl hr hx 3 (o := 9) (.inr rfl)
  obtain ⟨s', hs'⟩ : ∃ s' : MS, (s.setT t { s.th t with regs := (s.th t).regs.set x.r.toNat (s.flags.getD x.x.toNat 0) }) = s' := ⟨_, rfl⟩
  obtain ⟨e', he'⟩ : ∃ e' : Ev, ({ e with k := 3, o := x.x, v := s.flags.getD x.x.toNat 0 } : Ev) = e' := ⟨_, rfl⟩
  simp only [hs', he'] at A ⊢
  clear h hs' he'
  unfold ptrV at *
  go_enter Tryz.func70, Tryz.ntmps70
  go_wp2_with fail
  refine A.mono ?_
  rintro e1 w1 ⟨rfl, h1⟩
  have H1 := hide h1
  clear A h1
  go_wp2_with fail
  go_end0
  exact ⟨rfl, H1.out⟩
set_option maxRecDepth 100000 in
theorem dPut_any (h : StV w b sb p s t x e) (ht : t < 4) (hrl : (s.th t).regs.length = 4) (ha : argB4 x.aR x.aN) (hx : 0 ≤ x.x ∧ x.x < 4) (hl : x.x.toNat < s.flags.length) :
    Calls Tryz.prog 71 #[ptrV sb] w fun r w' => r = .returned (.tuple #[]) ∧ StR w w' b sb p { s with flags := s.flags.set x.x.toNat (vlM (s.th t) x.aR x.aN) } t x { e with k := 4, o := x.x, v := vlM (s.th t) x.aR x.aN } := by
  obtain ⟨c0, -⟩ := h.ptrs
  have A : Calls Tryz.prog 69 #[ptrV sb, .int .i64 4, .pointer (some ⟨b, 9, none⟩)] w fun r w' => r = .returned (.tuple #[]) ∧ StR w w' b sb p { s with flags := s.flags.set x.x.toNat (vlM (s.th t) x.aR x.aN) } t x { e with k := 4, o := x.x, v := vlM (s.th t) x.aR x.aN } := keep_any h ht hrl ha hx 4 (o := 9) (.inr rfl) hl
  obtain ⟨s', hs'⟩ : ∃ s' : MS, { s with flags := s.flags.set x.x.toNat (vlM (s.th t) x.aR x.aN) } = s' := ⟨_, rfl⟩
  obtain ⟨e', he'⟩ : ∃ e' : Ev, ({ e with k := 4, o := x.x, v := vlM (s.th t) x.aR x.aN } : Ev) = e' := ⟨_, rfl⟩
  simp only [hs', he'] at A ⊢
  clear h hs' he'
  unfold ptrV at *
  go_enter Tryz.func71, Tryz.ntmps71
  go_wp2_with fail
  refine A.mono ?_
  rintro e1 w1 ⟨rfl, h1⟩
  have H1 := hide h1
  clear A h1
  go_wp2_with fail
  go_end0
  exact ⟨rfl, H1.out⟩
set_option maxRecDepth 100000 in
theorem dJoin_any (h : StV w b sb p s t x e) :
    Calls Tryz.prog 75 #[ptrV sb] w fun r w' => r = .returned (.tuple #[]) ∧ StR w w' b sb p s t x { e with k := 8, o := x.x } := by
  have A := tell_any h 8
  clear h
  unfold ptrV at *
  go_enter Tryz.func75, Tryz.ntmps75
  go_wp2_with fail
  refine A.mono ?_
  rintro e1 w1 ⟨rfl, h1⟩
  have H1 := hide h1
  clear A h1
  go_wp2_with fail
  go_end0
  exact ⟨rfl, H1.out⟩
set_option maxRecDepth 100000 in
theorem dJump_any (h : StV w b sb p s t x e) (ht : t < 4) (htl : t < s.thr.length) (hx : 0 ≤ x.x) :
    Calls Tryz.prog 77 #[ptrV sb] w fun r w' => r = .returned (.tuple #[]) ∧ StR w w' b sb p (s.setT t { s.th t with pc := x.x.toNat }) t x e := by
  have A := jumpIf_any h ht htl hx true
  clear h
  unfold ptrV at *
  go_enter Tryz.func77, Tryz.ntmps77
  go_wp2_with fail
  refine A.mono ?_
  rintro e1 w1 ⟨rfl, h1⟩
  have H1 := hide h1
  clear A h1
  go_wp2_with fail
  go_end0
  exact ⟨rfl, H1.out⟩
end
end Go.Proofs.YtlpdomgedaockaaGreatDoor
namespace Go.Proofs.YtlpdomgedaockaaGreatDoor
open Go.RowKit Go.Proofs.Cod
section
variable {w w' : World} {b sb : Nat} {p : PD} {s : MS} {t : Nat} {x : In7} {e : Ev}
theorem set_twice (s : MS) (t : Nat) (a c : TS) : (s.setT t a).setT t c = s.setT t c := by unfold MS.setT; simp
theorem th_self (s : MS) {t : Nat} (h : t < s.thr.length) (a : TS) : (s.setT t a).th t = a := by rw [th_set s t t a h, if_pos rfl]
def DeedR (w : World) (f b sb : Nat) (p : PD) (t : Nat) (x : In7) (s' : MS) (e' : Ev) : Prop := Calls Tryz.prog f #[ptrV sb] w fun r w' => r = .returned (.tuple #[]) ∧ StR w w' b sb p s' t x e'
theorem deed_any {nv nf nl : Nat} (hv4 : nv ≤ 4) (hf4 : nf ≤ 4) (hl4 : nl ≤ 4) (hf : PFit nv nf nl p.C) (h : MOk nv nf nl p.C s) (ht : t < p.C.length) (hph : (s.th t).ph = 1) (hw : waitsM s x = false) (hx : x = endI ∨ (InsX nv nf nl p.C.length (p.C.getD t []).length x ∧ (s.th t).pc < (p.C.getD t []).length)) :
    ∃ f, doV x.op = .func (.func f) #[] #[] ∧ ∀ w, StV w b sb p (s.setT t { s.th t with pc := (s.th t).pc + 1 }) t x ⟨t, 0, 0, 0⟩ → DeedR w f b sb p t x (stpM false s t x).1 (stpM false s t x).2 := by
  have hT := h.th t ht
  have ht4 : t < 4 := by have := hf.four; omega
  have htl : t < s.thr.length := by rw [h.tl]; exact ht
  have hs1 : (s.setT t { s.th t with pc := (s.th t).pc + 1 }).th t = { s.th t with pc := (s.th t).pc + 1 } := th_self s htl _
  have hl1 : (s.setT t { s.th t with pc := (s.th t).pc + 1 }).thr.length = s.thr.length := by show (s.thr.set t _).length = _; rw [List.length_set]
  have hst : ∀ y, (s.setT t { s.th t with pc := (s.th t).pc + 1 }).setT t y = s.setT t y := fun y => set_twice s t _ y
  have hmod : ∀ {v : Int}, val3 v → v % 1000 = v := fun {v} q => by have := q.1; have := q.2; omega
  have fend : ∀ w, StV w b sb p (s.setT t { s.th t with pc := (s.th t).pc + 1 }) t endI ⟨t, 0, 0, 0⟩ → DeedR w 82 b sb p t endI (stpM false s t endI).1 (stpM false s t endI).2 := fun w q => by
    have := end_any q ht4 (by rw [hl1]; exact htl)
    rw [hs1, hst] at this
    exact this
  rcases hx with rfl | ⟨hx, hlt⟩
  · exact ⟨82, rfl, fend⟩
  · have va := vlM_ok hT hx.sm.2.1
    have hD : DFit (s.setT t { s.th t with pc := (s.th t).pc + 1 }) t x := ⟨ht4, by rw [hl1]; exact htl, by rw [hs1]; exact hT.rl, by rw [hs1]; exact hT.rv, hx.sm.1, hx.sm.2.1, hx.sm.2.2, hx.x0⟩
    have hvl : ∀ r n, vlM ((s.setT t { s.th t with pc := (s.th t).pc + 1 }).th t) r n = vlM (s.th t) r n := fun r n => by rw [hs1]; rfl
    obtain ⟨q, hq, hop, x1, x2, x3, x4, x5⟩ := hx.ex
    have hx0 := hx.x0
    simp only [shapeT, List.mem_cons, List.not_mem_nil, or_false] at hq
    rcases hq with rfl | rfl | rfl | rfl | rfl | rfl | rfl | rfl | rfl | rfl | rfl | rfl | rfl | rfl | rfl | rfl | rfl <;> rw [hop]
    · refine ⟨60, rfl, fun w q => ?_⟩
      have := dSet_any q hD
      rw [hst, hvl, hs1, hmod va] at this
      unfold stpM; rw [hop]; exact this
    · refine ⟨63, rfl, fun w q => ?_⟩
      have := dAdd_any q hD
      rw [hst, hvl, hvl, hs1] at this
      unfold stpM; rw [hop]; exact this
    · refine ⟨64, rfl, fun w q => ?_⟩
      have := dSub_any q hD
      rw [hst, hvl, hvl, hs1] at this
      rw [show (vlM (s.th t) x.aR x.aN - vlM (s.th t) x.bR x.bN) % 1000 = (vlM (s.th t) x.aR x.aN - vlM (s.th t) x.bR x.bN + 1000) % 1000 by omega] at this
      unfold stpM; rw [hop]; exact this
    · refine ⟨65, rfl, fun w q => ?_⟩
      have := dMul_any q hD
      rw [hst, hvl, hvl, hs1] at this
      unfold stpM; rw [hop]; exact this
    · refine ⟨66, rfl, fun w q => ?_⟩
      have hv := x1 (by decide)
      have := dLoad_any q ht4 hD.tl hD.rl hD.r ⟨hx0, by omega⟩
      rw [hst, hs1] at this
      unfold stpM; rw [hop]; exact this
    · refine ⟨68, rfl, fun w q => ?_⟩
      have hv := x1 (by decide)
      have := dStore_any q ht4 hD.rl hD.a ⟨hx0, by omega⟩ (by show x.x.toNat < s.vars.length; rw [h.vl]; omega)
      rw [hvl] at this
      unfold stpM; rw [hop]; exact this
    · refine ⟨70, rfl, fun w q => ?_⟩
      have hv := x2 (by decide)
      have := dGet_any q ht4 hD.tl hD.rl hD.r ⟨hx0, by omega⟩
      rw [hst, hs1] at this
      unfold stpM; rw [hop]; exact this
    · refine ⟨71, rfl, fun w q => ?_⟩
      have hv := x2 (by decide)
      have := dPut_any q ht4 hD.rl hD.a ⟨hx0, by omega⟩ (by show x.x.toNat < s.flags.length; rw [h.fl]; omega)
      rw [hvl] at this
      unfold stpM; rw [hop]; exact this
    · refine ⟨72, rfl, fun w q => ?_⟩
      have hv := x3 (by decide)
      have := acquire_any q ⟨hx0, by omega⟩ (by show x.x.toNat < s.locks.length; rw [h.ll]; omega)
      unfold stpM; rw [hop]; exact this
    · refine ⟨73, rfl, fun w q => ?_⟩
      have hv := x3 (by decide)
      have := release_any q ht4 hD.tl ⟨hx0, by omega⟩ (by show x.x.toNat < s.locks.length; rw [h.ll]; omega)
      rw [hst, hs1] at this
      refine this.mono ?_
      rintro r w' ⟨rfl, q2⟩
      refine ⟨rfl, ?_⟩
      unfold stpM; rw [hop]
      show StR w w' b sb p (Prod.fst (if s.locks.getD x.x.toNat 0 ≠ t then _ else _ : MS × Ev)) t x (Prod.snd (if s.locks.getD x.x.toNat 0 ≠ t then _ else _ : MS × Ev))
      have q2 : if s.locks.getD x.x.toNat 0 ≠ (t : Int) then _ else _ := q2
      by_cases d : s.locks.getD x.x.toNat 0 ≠ t
      · rw [if_pos d] at q2 ⊢; exact q2
      · rw [if_neg d] at q2 ⊢; exact q2
    · refine ⟨74, rfl, fun w q => ?_⟩
      have hv := x4 (by decide)
      have := hf.four
      have := spawn_any q ⟨hx0, by omega⟩ (by rw [hl1, h.tl]; omega)
      unfold stpM; rw [hop]; exact this
    · refine ⟨75, rfl, fun w q => ?_⟩
      have := dJoin_any q
      unfold stpM; rw [hop]; exact this
    · refine ⟨77, rfl, fun w q => ?_⟩
      have := dJump_any q ht4 hD.tl hx0
      rw [hst, hs1] at this
      unfold stpM; rw [hop]; exact this
    · refine ⟨79, rfl, fun w q => ?_⟩
      have := dJeq_any q hD
      rw [hst, hvl, hvl, hs1] at this
      unfold stpM; rw [hop]
      refine this.mono ?_
      rintro r w' ⟨rfl, q2⟩
      refine ⟨rfl, ?_⟩
      show StR w w' b sb p (s.setT t { s.th t with pc := if vlM (s.th t) x.aR x.aN = vlM (s.th t) x.bR x.bN then x.x.toNat else (s.th t).pc + 1 }) t x _
      by_cases d : vlM (s.th t) x.aR x.aN = vlM (s.th t) x.bR x.bN
      · rw [if_pos (by simp [d])] at q2; rw [if_pos d]; exact q2
      · rw [if_neg (by simp [d])] at q2; rw [if_neg d]; exact q2
    · refine ⟨80, rfl, fun w q => ?_⟩
      have := dJlt_any q hD
      rw [hst, hvl, hvl, hs1] at this
      unfold stpM; rw [hop]
      refine this.mono ?_
      rintro r w' ⟨rfl, q2⟩
      refine ⟨rfl, ?_⟩
      show StR w w' b sb p (s.setT t { s.th t with pc := if vlM (s.th t) x.aR x.aN < vlM (s.th t) x.bR x.bN then x.x.toNat else (s.th t).pc + 1 }) t x _
      by_cases d : vlM (s.th t) x.aR x.aN < vlM (s.th t) x.bR x.bN
      · rw [if_pos (by simp [d])] at q2; rw [if_pos d]; exact q2
      · rw [if_neg (by simp [d])] at q2; rw [if_neg d]; exact q2
    · refine ⟨81, rfl, fun w q => ?_⟩
      have := check_any q hD
      rw [hst, hvl, hvl, hs1] at this
      unfold stpM; rw [hop]
      refine this.mono ?_
      rintro r w' ⟨rfl, q2⟩
      refine ⟨rfl, ?_⟩
      show StR w w' b sb p (Prod.fst (if vlM _ _ _ ≠ vlM _ _ _ then _ else _ : MS × Ev)) t x (Prod.snd (if vlM _ _ _ ≠ vlM _ _ _ then _ else _ : MS × Ev))
      by_cases d : vlM (s.th t) x.aR x.aN ≠ vlM (s.th t) x.bR x.bN
      · rw [if_pos d] at q2 ⊢; exact q2
      · rw [if_neg d] at q2 ⊢; exact q2
    · refine ⟨82, rfl, fun w q => ?_⟩
      have := end_any q ht4 (by rw [hl1]; exact htl)
      rw [hs1, hst] at this
      unfold stpM; rw [hop]; exact this
end
end Go.Proofs.YtlpdomgedaockaaGreatDoor
namespace Go.Proofs.YtlpdomgedaockaaGreatDoor
open Go.RowKit Go.Proofs.Cod
section
variable {w w' : World} {b : Nat} {p : PD} {s : MS}
theorem call_enter {P : Program} {f : FuncId} {fn : Func} (hf : P.funcs[f]? = some fn) (hname : (fn.name == "runtime.NumGoroutine") = false) (hb : fn.body.isSome = true) (args : Array Value) (w : World) : (callFunc f args).run P w = .ok (.enter f args) w := by
  have h1 : fn.name ≠ "runtime.NumGoroutine" := by simpa using hname
  cases hc : fn.body with
  | none => rw [hc] at hb; cases hb
  | some c => simp [callFunc, hf, h1, hc]
theorem deed_enter : ∀ q, q ∈ deedT → ∀ (args : Array Value) (w : World), (callFunc q.2 args).run Tryz.prog w = .ok (.enter q.2 args) w := by
  intro q hq
  simp only [deedT, List.mem_cons, List.not_mem_nil, or_false] at hq
  rcases hq with rfl | rfl | rfl | rfl | rfl | rfl | rfl | rfl | rfl | rfl | rfl | rfl | rfl | rfl | rfl | rfl | rfl
  · exact fun a w => call_enter Tryz.func60 (by kernel_rfl) (by kernel_rfl) a w
  · exact fun a w => call_enter Tryz.func63 (by kernel_rfl) (by kernel_rfl) a w
  · exact fun a w => call_enter Tryz.func64 (by kernel_rfl) (by kernel_rfl) a w
  · exact fun a w => call_enter Tryz.func65 (by kernel_rfl) (by kernel_rfl) a w
  · exact fun a w => call_enter Tryz.func66 (by kernel_rfl) (by kernel_rfl) a w
  · exact fun a w => call_enter Tryz.func68 (by kernel_rfl) (by kernel_rfl) a w
  · exact fun a w => call_enter Tryz.func70 (by kernel_rfl) (by kernel_rfl) a w
  · exact fun a w => call_enter Tryz.func71 (by kernel_rfl) (by kernel_rfl) a w
  · exact fun a w => call_enter Tryz.func72 (by kernel_rfl) (by kernel_rfl) a w
  · exact fun a w => call_enter Tryz.func73 (by kernel_rfl) (by kernel_rfl) a w
  · exact fun a w => call_enter Tryz.func74 (by kernel_rfl) (by kernel_rfl) a w
  · exact fun a w => call_enter Tryz.func75 (by kernel_rfl) (by kernel_rfl) a w
  · exact fun a w => call_enter Tryz.func77 (by kernel_rfl) (by kernel_rfl) a w
  · exact fun a w => call_enter Tryz.func79 (by kernel_rfl) (by kernel_rfl) a w
  · exact fun a w => call_enter Tryz.func80 (by kernel_rfl) (by kernel_rfl) a w
  · exact fun a w => call_enter Tryz.func81 (by kernel_rfl) (by kernel_rfl) a w
  · exact fun a w => call_enter Tryz.func82 (by kernel_rfl) (by kernel_rfl) a w
theorem doV_enter {op : Tx} {f : Nat} (h : doV op = .func (.func f) #[] #[]) (args : Array Value) (w : World) : (callFunc f args).run Tryz.prog w = .ok (.enter f args) w := by
  unfold doV at h
  split at h
  · rename_i q hq
    cases h
    exact deed_enter q (List.mem_of_find?_eq_some hq) args w
  · cases h
theorem KeepS.then {S S' : Nat → Prop} {w w1 w2 : World} (h : KeepS S w w1) (h' : KeepS S' w1 w2) (hS : ∀ k, k < w.heap.size → S' k → S k) : KeepS S w w2 :=
  ⟨h'.os.trans h.os, h'.tape.trans h.tape, h'.output.trans h.output, Nat.le_trans h.size h'.size, fun k hk hn => (h'.block k (Nat.lt_of_lt_of_le hk h.size) (fun q => hn (hS k hk q))).trans (h.block k hk hn)⟩
theorem ev_set {w : World} {n T : Nat} {a0 a1 a2 a3 : Value} (hk : w.heap[n]? = some (.cells #[a0, a1, a2, a3] T)) (v0 v1 v2 v3 : Value) : ∃ W, (((w.setCell ⟨n, 0, none⟩ v0).setCell ⟨n, 1, none⟩ v1).setCell ⟨n, 2, none⟩ v2).setCell ⟨n, 3, none⟩ v3 = W ∧ W.heap[n]? = some (.cells #[v0, v1, v2, v3] T) ∧ (∀ b, b ≠ n → W.heap[b]? = w.heap[b]?) ∧ W.heap.size = w.heap.size ∧ W.os = w.os ∧ W.tape = w.tape ∧ W.output = w.output := by
  refine ⟨_, rfl, ?_, fun b hb => ?_, by simp, rfl, rfl, rfl⟩
  · have h0 := (heap_setCell_same _ n 0 _ _ v0 hk).trans (show _ = some (Obj.cells #[v0, a1, a2, a3] T) from rfl)
    have h1 := (heap_setCell_same _ n 1 _ _ v1 h0).trans (show _ = some (Obj.cells #[v0, v1, a2, a3] T) from rfl)
    have h2 := (heap_setCell_same _ n 2 _ _ v2 h1).trans (show _ = some (Obj.cells #[v0, v1, v2, a3] T) from rfl)
    exact (heap_setCell_same _ n 3 _ _ v3 h2).trans (show _ = some (Obj.cells #[v0, v1, v2, v3] T) from rfl)
  · rw [Below.heap_setCell _ ⟨n, 3, none⟩ _ b hb, Below.heap_setCell _ ⟨n, 2, none⟩ _ b hb, Below.heap_setCell _ ⟨n, 1, none⟩ _ b hb, Below.heap_setCell _ ⟨n, 0, none⟩ _ b hb]
theorem ev_val {w : World} {fn : Func} {tmps : Array Value} {b : Nat} {x a0 a1 a2 a3 : Value} (hr : fn.results = #[.cell 4 49, .tmp 5]) (ht : tmps[4]? = some (.pointer (some ⟨b, 0, none⟩))) (h3 : tmps[5]? = some x) (hc : w.heap[b]? = some (.cells #[a0, a1, a2, a3] 49)) : (results fn tmps).run Tryz.prog w = .ok (.tuple #[.agg #[a0, a1, a2, a3], x]) w := by
  have c0 : w.cell? ⟨b, 0, none⟩ = some a0 := by simp [World.cell?, hc]
  have c1 : w.cell? ⟨b, 1, none⟩ = some a1 := by simp [World.cell?, hc]
  have c2 : w.cell? ⟨b, 2, none⟩ = some a2 := by simp [World.cell?, hc]
  have c3 : w.cell? ⟨b, 3, none⟩ = some a3 := by simp [World.cell?, hc]
  simp [results, hr, ht, h3, go_sem, c0, c1, c2, c3]
def evC (e : Ev) : Array Value := #[.int .i64 e.t, .int .i64 e.k, .int .i64 e.o, .int .i64 e.v]
def trn (C : List (List In7)) (s : MS) (t : Int) : MS × Ev := if canM C s t = 0 then goM false C s t else (s, ⟨0, 0, 0, 0⟩)
def StepR (w w' : World) (b : Nat) (p : PD) (s : MS) (t : Int) (e : Ending) : Prop :=
  e = .returned (.tuple #[.agg (evC (trn p.C s t).2), .int .i64 (canM p.C s t)]) ∧ MachW w' b p (trn p.C s t).1 ∧ KeepS (fun k => k = b) w w'
set_option maxRecDepth 100000 in
set_option maxHeartbeats 1000000 in
theorem step_any (h : MachW w b p s) (hf : PFit4 p) (hM : MOkP p s) (t : Int) :
    Calls Tryz.prog 14 #[ptrV b, .int .i64 t] w fun e w' => StepR w w' b p s t e := by
  have hB1 : Below w.heap.size w (w.alloc (.cells #[.int .i64 0, .int .i64 0, .int .i64 0, .int .i64 0] 49)) := (Below.refl _ _).alloc (Nat.le_refl _) _
  have hk1 : (w.alloc (.cells #[.int .i64 0, .int .i64 0, .int .i64 0, .int .i64 0] 49)).heap[w.heap.size]? = some (.cells #[.int .i64 0, .int .i64 0, .int .i64 0, .int .i64 0] 49) := World.alloc_heap_new w _
  have hz1 : (w.alloc (.cells #[.int .i64 0, .int .i64 0, .int .i64 0, .int .i64 0] 49)).heap.size = w.heap.size + 1 := by show (w.heap.push _).size = _; simp
  have hR := refusal_any (h.below hB1) hf hM t
  unfold StepR trn
  by_cases hc : canM p.C s t = 0
  · simp only [if_pos hc]
    rw [hc] at hR ⊢
    obtain ⟨u, rfl, hu, hph, hwt, hx⟩ := can_info hf.fit hM hc
    have hu4 : u < 4 := by have := hf.fit.four; omega
    have hui : (u : Int) < 4 := by omega
    unfold goM
    rw [Int.toNat_natCast]
    have hT := hM.th u hu
    have hpc := hT.pc (by omega)
    have hl24 := (hf.fit.code _ (getD_mem (d := []) hu)).1
    obtain ⟨x, hxq⟩ : ∃ x, nextI p.C u (s.th u) = x := ⟨_, rfl⟩
    obtain ⟨pc, hpq⟩ : ∃ pc, (s.th u).pc = pc := ⟨_, rfl⟩
    rw [hxq] at hwt hx ⊢
    have hD := fun sb => deed_any (b := b) (sb := sb) hf.v hf.f hf.l hf.fit hM hu hph hwt hx
    have hul : u < s.thr.length := by rw [hM.tl]; exact hu
    obtain ⟨s', hs'⟩ : ∃ s', (stpM false s u x).1 = s' := ⟨_, rfl⟩
    obtain ⟨e', he'⟩ : ∃ e', (stpM false s u x).2 = e' := ⟨_, rfl⟩
    simp only [hs', he'] at hD ⊢
    obtain ⟨f, hf1, -⟩ := hD 0
    replace hD : ∀ sb, ∀ w, StV w b sb p (s.setT u { s.th u with pc := (s.th u).pc + 1 }) u x ⟨u, 0, 0, 0⟩ → DeedR w f b sb p u x s' e' := fun sb => by
      obtain ⟨f2, hf2, hd⟩ := hD sb
      rw [hf1] at hf2
      cases hf2
      exact hd
    have HD := hide hD
    have HB1 := hide (⟨hB1, hk1, h, hz1⟩ : _ ∧ _ ∧ _ ∧ _)
    have HX := hide (⟨hu, hpc, hl24, hpq, hxq, hul⟩ : _ ∧ _ ∧ _ ∧ _ ∧ _ ∧ _)
    replace hf1 := hide hf1
    replace hz1 := hide hz1
    clear h hf hM hc hT hpc hl24 hD hB1 hk1 hph hwt hx hs' he' hpq hxq hu hul
    unfold ptrV at *
    go_enter Tryz.func14, Tryz.ntmps14
    go_wp2_with fail
    refine hR.mono ?_
    rintro e w2 ⟨rfl, hb2⟩
    obtain ⟨hB1, hk1, h, -⟩ := HB1.out
    obtain ⟨hu, hpc, hl24, hpq, hxq, hul⟩ := HX.out
    replace hb2 : Below (w.heap.size + 1) (w.alloc (.cells #[.int .i64 0, .int .i64 0, .int .i64 0, .int .i64 0] 49)) w2 := by rw [← hz1.out]; exact hb2
    have hm2 : MachW w2 b p s := RowF.below (w := w) h (hB1.trans (hb2.mono (Nat.le_succ _)))
    have hN := next_any hm2 hu4 (by omega)
    rw [hpq] at hN
    have HM2 := hide (⟨hm2, hb2⟩ : _ ∧ _)
    clear hR hB1 hk1 h hu hpc hl24 hpq hxq hul hm2 hb2
    go_wp2_with fail
    refine hN.mono ?_
    rintro e w3 ⟨rfl, rfl⟩
    obtain ⟨hu, hpc, hl24, hpq, hxq, hul⟩ := HX.out
    have hm3 : MachW w2.drew b p s := RowF.same HM2.out.1 rfl
    obtain ⟨k0, k1, k2, k3, k4, k5, k6, k7⟩ := mach_deed hm3 hu4 hu hpc hl24 hpq hxq
    rw [hf1.out] at k7
    have kpc := mach_pc hm3 hu4
    rw [hpq] at kpc
    have f3 := hm3.frozen
    have hwp : wrap64 ((pc : Int) + 1) = (pc : Int) + 1 := by unfold wrap64; omega
    obtain ⟨st, hst⟩ : ∃ st : Array Value, #[Value.pointer (some ⟨b, 0, none⟩), .pointer (some ⟨b, 27 + u * 207, none⟩), .string (bs x.op), .int .i64 x.r, .bool x.aR, .int .i64 x.aN, .bool x.bR, .int .i64 x.bN, .int .i64 x.x, .int .i64 u, .int .i64 0, .int .i64 0, .int .i64 0] = st := ⟨_, rfl⟩
    have hbA : Below w2.heap.size w2 (w2.alloc (.cells st 113)) := (Below.refl w2.heap.size w2).alloc (Nat.le_refl _) _
    have hmA : MachW (w2.alloc (.cells st 113)) b p s := RowF.below HM2.out.1 hbA
    have kpcA := mach_pc hmA hu4
    have fA := hmA.frozen
    rw [hpq] at kpcA
    have hstv : StV (((w2.alloc (.cells st 113)).setCell ⟨b, 27 + u * 207 + 2, none⟩ (.int .i64 ((pc : Int) + 1))).drew) b w2.heap.size p (s.setT u { s.th u with pc := (s.th u).pc + 1 }) u x ⟨u, 0, 0, 0⟩ := by
      have q : StV (w2.alloc (.cells st 113)) b w2.heap.size p s u x ⟨u, 0, 0, 0⟩ := by
        refine ⟨hmA, ⟨st, World.alloc_heap_new w2 _, by rw [← hst]; rfl, fun k hk => ?_⟩, by have := HM2.out.1.lt; omega⟩
        rw [← hst]
        have : k = 0 ∨ k = 1 ∨ k = 2 ∨ k = 3 ∨ k = 4 ∨ k = 5 ∨ k = 6 ∨ k = 7 ∨ k = 8 ∨ k = 9 ∨ k = 10 ∨ k = 11 ∨ k = 12 := by omega
        rcases this with rfl | rfl | rfl | rfl | rfl | rfl | rfl | rfl | rfl | rfl | rfl | rfl | rfl <;> rfl
      have q2 := q.setM (fun j => mc_setPc (p := p) (s := s) hu4 hul (pc + 1) (k := j))
      rw [hpq]
      exact q2.same rfl
    have k7A : ((w2.alloc (.cells st 113)).setCell ⟨b, 27 + u * 207 + 2, none⟩ (.int .i64 ((pc : Int) + 1))).cell? ⟨b, 27 + u * 207 + 7 + pc * 8 + 7, none⟩ = some (.func (.func f) #[] #[]) := by
      have q := (mach_deed hmA hu4 hu hpc hl24 hpq hxq).2.2.2.2.2.2.2
      rw [hf1.out] at q
      rw [World.cell?_setCell_other _ _ _ _ (by intro e; injection e; omega)]
      exact q
    have hDo := HD.out _ _ hstv
    have hcf := doV_enter hf1.out
    have hkA : KeepS (fun k => k = b) w (((w2.alloc (.cells st 113)).setCell ⟨b, 27 + u * 207 + 2, none⟩ (.int .i64 ((pc : Int) + 1))).drew) := by
      obtain ⟨hB1, hk1, h, -⟩ := HB1.out
      have hb2 := HM2.out.2
      have q1 := hB1.trans (hb2.mono (Nat.le_succ _))
      exact (KeepS.set (S := fun k => k = b) (KeepS.ofBelow (q1.trans (hbA.mono q1.size))) (a := ⟨b, 27 + u * 207 + 2, none⟩) (.inl rfl) _).drew
    unfold DeedR ptrV at hDo
    have HF := hide (⟨hstv, hkA⟩ : _ ∧ _)
    subst hst
    clear hu hpc hl24 hpq hxq hul hm3 hbA hmA hstv hkA HD
    go_wp2_with fail
    refine hDo.mono ?_
    rintro e w4 ⟨rfl, h4⟩
    obtain ⟨hstv, hkA⟩ := HF.out
    have hk4 : w4.heap[w.heap.size]? = some (.cells #[.int .i64 0, .int .i64 0, .int .i64 0, .int .i64 0] 49) := by
      obtain ⟨hB1, hk1, h, -⟩ := HB1.out
      have hb2 := HM2.out.2
      have hsz := hb2.size
      rw [hz1.out] at hsz
      have hbl : b < w.heap.size := h.lt
      refine (h4.k.block _ ?_ ?_).trans ((Below.heap_setCell _ ⟨b, _, none⟩ _ _ ?_).trans ((Below.heap_alloc w2 _ _ ?_).trans ((hb2.block _ (Nat.lt_succ_self _)).trans hk1)))
      · have := hkA.size
        have : w2.heap.size + 1 = (((w2.alloc (.cells #[Value.pointer (some ⟨b, 0, none⟩), .pointer (some ⟨b, 27 + u * 207, none⟩), .string (bs x.op), .int .i64 x.r, .bool x.aR, .int .i64 x.aN, .bool x.bR, .int .i64 x.bN, .int .i64 x.x, .int .i64 u, .int .i64 0, .int .i64 0, .int .i64 0] 113)).setCell ⟨b, 27 + u * 207 + 2, none⟩ (.int .i64 ((pc : Int) + 1))).drew).heap.size := by
          show _ = (World.setCell _ _ _).heap.size
          rw [World.size_setCell]; show _ = (w2.heap.push _).size; simp
        omega
      · intro e; rcases e with e | e <;> omega
      · show w.heap.size ≠ b; omega
      · omega
    obtain ⟨c9, c10, c11, c12⟩ := h4.v.evs
    have r0 : w4.cell? ⟨w.heap.size, 0, none⟩ = some (.int .i64 0) := by simp [World.cell?, hk4]
    have r1 : w4.cell? ⟨w.heap.size, 1, none⟩ = some (.int .i64 0) := by simp [World.cell?, hk4]
    have r2 : w4.cell? ⟨w.heap.size, 2, none⟩ = some (.int .i64 0) := by simp [World.cell?, hk4]
    have r3 : w4.cell? ⟨w.heap.size, 3, none⟩ = some (.int .i64 0) := by simp [World.cell?, hk4]
    have f4 : ∀ i, w4.frozen? ⟨w.heap.size, i, none⟩ = false := fun i => by simp [World.frozen?, hk4]
    have H4 := hide (⟨h4, hk4⟩ : _ ∧ _)
    clear h4 hk4 hstv hkA hDo hcf k0 k1 k2 k3 k4 k5 k6 k7 k7A kpc kpcA f3 fA hwp
    go_wp2_with fail
    obtain ⟨h4, hk4⟩ := H4.out
    obtain ⟨hstv, hkA⟩ := HF.out
    obtain ⟨hB1, hk1, h, -⟩ := HB1.out
    obtain ⟨W, hW, v1, v2, v3, v4, v5, v6⟩ := ev_set hk4 (.int .i64 e'.t) (.int .i64 e'.k) (.int .i64 e'.o) (.int .i64 e'.v)
    rw [hW]
    have hbl : b < w.heap.size := h.lt
    have hsz := HM2.out.2.size
    rw [hz1.out] at hsz
    refine bodyPost_ret (ev_val rfl rfl rfl v1) rfl ⟨rfl, h4.v.m.same (v2 b (by omega)), ?_⟩
    have q := hkA.then h4.k (fun k hk e => by rcases e with e | e; exact e; omega)
    exact ⟨v4.trans q.os, v5.trans q.tape, v6.trans q.output, by rw [v3]; exact q.size, fun k hk hn => (v2 k (by omega)).trans (q.block k hk hn)⟩
  · simp only [if_neg hc]
    obtain ⟨er, her⟩ : ∃ er, canM p.C s t = er := ⟨_, rfl⟩
    rw [her] at hR hc ⊢
    have hb : (er != 0) = true := by simpa using hc
    have HB1 := hide (⟨hB1, hk1, h, hz1⟩ : _ ∧ _ ∧ _ ∧ _)
    clear hc hf hM hB1 hk1 hz1 h her
    unfold ptrV at *
    go_enter Tryz.func14, Tryz.ntmps14
    go_wp2_with fail
    refine hR.mono ?_
    rintro e w2 ⟨rfl, hb2⟩
    have hk2 : w2.heap[w.heap.size]? = some (.cells #[.int .i64 0, .int .i64 0, .int .i64 0, .int .i64 0] 49) := by
      obtain ⟨hB1, hk1, h, hz1⟩ := HB1.out
      exact (hb2.block _ (by omega)).trans hk1
    have r0 : w2.cell? ⟨w.heap.size, 0, none⟩ = some (.int .i64 0) := by simp [World.cell?, hk2]
    have r1 : w2.cell? ⟨w.heap.size, 1, none⟩ = some (.int .i64 0) := by simp [World.cell?, hk2]
    have r2 : w2.cell? ⟨w.heap.size, 2, none⟩ = some (.int .i64 0) := by simp [World.cell?, hk2]
    have r3 : w2.cell? ⟨w.heap.size, 3, none⟩ = some (.int .i64 0) := by simp [World.cell?, hk2]
    have f4 : ∀ i, w2.frozen? ⟨w.heap.size, i, none⟩ = false := fun i => by simp [World.frozen?, hk2]
    have H2 := hide (⟨hb2, hk2⟩ : _ ∧ _)
    clear hb2 hk2 hR
    go_wp2_with fail
    obtain ⟨hb2, hk2⟩ := H2.out
    obtain ⟨hB1, hk1, h, hz1⟩ := HB1.out
    obtain ⟨W, hW, v1, v2, v3, v4, v5, v6⟩ := ev_set hk2 (.int .i64 0) (.int .i64 0) (.int .i64 0) (.int .i64 0)
    rw [hW]
    have hbl : b < w.heap.size := h.lt
    have q := hB1.trans (hb2.mono hB1.size)
    exact bodyPost_ret (ev_val rfl rfl rfl v1) rfl ⟨rfl, h.same ((v2 b (by omega)).trans (q.block b hbl)), ⟨v4.trans q.os, v5.trans q.tape, v6.trans q.output, by rw [v3]; exact q.size, fun k hk hn => (v2 k (by omega)).trans (q.block k hk)⟩⟩
end
end Go.Proofs.YtlpdomgedaockaaGreatDoor
namespace Go.Proofs.YtlpdomgedaockaaGreatDoor
open Go.RowKit Go.Proofs.Cod
section
variable {w w' : World} {b : Nat} {p : PD} {s : MS}
theorem Tryz.infoInt : (Tryz.prog.info? 3).map (fun i => (i.zero, i.size, i.bytes)) = some (some (.int .i64 0), 1, 8) := by kernel_rfl
theorem Tryz.infoEv : (Tryz.prog.info? 49).map (fun i => (i.zero, i.size, i.bytes)) = some (some (.agg #[.int .i64 0, .int .i64 0, .int .i64 0, .int .i64 0]), 4, 32) := by kernel_rfl
def intV (n : Int) : Value := .int .i64 n
def readyTo (C : List (List In7)) (s : MS) (i : Nat) : List Int := ((List.range i).filter fun (t : Nat) => decide (canM C s (t : Int) = 0)).map fun (t : Nat) => (t : Int)
def readyM (C : List (List In7)) (s : MS) : List Int := readyTo C s s.thr.length
theorem readyTo_succ (C : List (List In7)) (s : MS) (i : Nat) : readyTo C s (i + 1) = if canM C s (i : Int) = 0 then readyTo C s i ++ [(i : Int)] else readyTo C s i := by
  unfold readyTo
  rw [List.range_succ, List.filter_append, List.map_append]
  by_cases h : canM C s (i : Int) = 0
  · rw [if_pos h]; simp [h]
  · rw [if_neg h]; simp [h]
theorem readyTo_len (C : List (List In7)) (s : MS) (i : Nat) : (readyTo C s i).length ≤ i := by
  unfold readyTo
  rw [List.length_map]
  exact Nat.le_trans (List.length_filter_le _ _) (by rw [List.length_range]; exact Nat.le_refl _)
theorem ints_push {base : Nat} {v : Value} {l : List Int} (h : w.ownsRow base 3 1 v l.length (l.map intV)) (x : Int) (hl : l.length < 1048576) (hb : base ≤ w.heap.size) :
    ∃ g cap w', (Builtin.append_ #[22, 22] 22 #[v, .slice (some ⟨w.heap.size, 0, none⟩) 1 1]).run Tryz.prog (w.alloc (.cells #[.int .i64 x] 3)) = .ok (.slice (some ⟨g, 0, none⟩) (l.length + 1) cap) w' ∧
      w'.ownsRow base 3 1 (.slice (some ⟨g, 0, none⟩) (l.length + 1) cap) (l ++ [x]).length ((l ++ [x]).map intV) ∧ (∀ B, B ≤ base → Below B w w') := by
  obtain ⟨i0, hi, hy0, hy1, hy2⟩ := info_parts Tryz.infoInt
  obtain ⟨g, cap, w', hr, r1, ro, rt, rp, rz, rb, rg⟩ := owns_pushN h Tryz.underlying22 hi hy0 hy1 hy2 rfl (by omega) [.int .i64 x] rfl (by intro u hu; simp at hu; subst hu; rfl) 22 hl hb
  refine ⟨g, cap, w', hr, by rw [List.length_append, List.map_append]; exact r1, fun B hB => ⟨ro, rt, rp, by omega, fun k hk => rb k (by omega) (fun e => ?_)⟩⟩
  have := (h.lt k e).1
  omega
end
end Go.Proofs.YtlpdomgedaockaaGreatDoor
namespace Go.Proofs.YtlpdomgedaockaaGreatDoor
open Go.RowKit Go.Shelf Go.Proofs.Cod
def Is (w : World) (a : Option Addr) (l : List Int) : Prop := ∀ i, i < l.length → ∃ b off, a = some ⟨b, off, none⟩ ∧ b < w.heap.size ∧ w.cell? ⟨b, off + i, none⟩ = some (.int .i64 (l.getD i 0))
theorem Is.below {w w' : World} {a : Option Addr} {l : List Int} (h : Is w a l) (hb : Below w.heap.size w w') : Is w' a l := fun i hi => by
  obtain ⟨b, off, e1, e2, e3⟩ := h i hi
  exact ⟨b, off, e1, by have := hb.size; omega, (hb.cell (p := ⟨b, off + i, none⟩) e2).trans e3⟩
theorem wrap_lt {i : Nat} (h : i < 2000000) : wrap64 ((i : Int) + 1) = (i : Int) + 1 := by unfold wrap64; omega
def evL (e : Ev) : List Value := (evC e).toList
theorem evL_len (e : Ev) : (evL e).length = 4 := rfl
section
variable {w w' : World} {b B0 base : Nat}
theorem evs_push {v : Value} {l : List Ev} (h : w.ownsRow base 49 4 v l.length (l.flatMap evL)) (x : Ev) (hl : l.length < 1048576) (hb : base ≤ w.heap.size) :
    ∃ g cap w', (Builtin.append_ #[33, 33] 33 #[v, .slice (some ⟨w.heap.size, 0, none⟩) 1 1]).run Tryz.prog (w.alloc (.cells (evC x) 49)) = .ok (.slice (some ⟨g, 0, none⟩) (l.length + 1) cap) w' ∧
      w'.ownsRow base 49 4 (.slice (some ⟨g, 0, none⟩) (l.length + 1) cap) (l ++ [x]).length ((l ++ [x]).flatMap evL) ∧ (∀ B, B ≤ base → Below B w w') ∧ (∀ k, k < w.heap.size → v.ownBlock ≠ some k → w'.heap[k]? = w.heap[k]?) := by
  obtain ⟨i0, hi, hy0, hy1, hy2⟩ := info_parts Tryz.infoEv
  obtain ⟨g, cap, w', hr, r1, ro, rt, rp, rz, rb, rg⟩ := owns_pushN h Tryz.underlying33 hi hy0 hy1 hy2 rfl (by omega) (evL x) rfl (by intro u hu; simp only [evL, evC, List.mem_cons, List.not_mem_nil, or_false] at hu; rcases hu with rfl | rfl | rfl | rfl <;> rfl) 33 hl hb
  refine ⟨g, cap, w', hr, ?_, fun B hB => ⟨ro, rt, rp, by omega, fun k hk => rb k (by omega) (fun e => ?_)⟩, rb⟩
  · rw [List.length_append, List.flatMap_append]
    have e : List.flatMap evL [x] = evL x := by simp
    rw [e]
    exact r1
  · have := (h.lt k e).1
    omega
theorem row_ne {e size n T m : Nat} {v : Value} {xs : List Value} {f : Nat → Value} (h : w.ownsRow base e size v n xs) (hm : RowF w b T m f) (hne : e ≠ T) : v.ownBlock ≠ some b := by
  intro q
  obtain ⟨cs, h1, -⟩ := hm
  rcases h.2 with ⟨q1, _⟩ | ⟨g, cap, cur, q1, _, q2, _⟩
  · rw [q1] at q; cases q
  · rw [q1] at q
    have q : some g = some b := q
    cases q
    rw [q2] at h1
    injection h1 with h1
    injection h1 with _ h1 _
    exact hne h1
theorem row_keepS {e size n T m : Nat} {v : Value} {xs : List Value} {f : Nat → Value} (h : w.ownsRow base e size v n xs) (hm : RowF w b T m f) (hne : e ≠ T) (hk : KeepS (fun k => k = b) w w') : w'.ownsRow base e size v n xs :=
  owns_same h fun g q => hk.block g (h.lt g q).2 (fun e' => row_ne h hm hne (by rw [q, e']))
theorem pl_trn (C : List (List In7)) (x : MS × List Ev) (t : Int) : plM false C x t = ((trn C x.1 t).1, if canM C x.1 t = 0 then x.2 ++ [(trn C x.1 t).2] else x.2) := by
  unfold plM trn
  by_cases e : canM C x.1 t = 0
  · rw [if_pos e, if_pos e, if_pos e]
  · rw [if_neg e, if_neg e, if_neg e]
end
end Go.Proofs.YtlpdomgedaockaaGreatDoor
namespace Go.Proofs.YtlpdomgedaockaaGreatDoor
open Go.ChangeShapes Go.WideShapes Go.ChangeAt Go.RowKit Go.Proofs.Cod
set_option linter.unusedVariables false
theorem bulk_one {H : Type} (d : DataW H) : 1 ≤ Rows.uptoBulk d := by
  cases d with
  | lit l => cases l <;> simp [Rows.uptoBulk]
  | nil => simp [Rows.uptoBulk]
  | ptr d => simp [Rows.uptoBulk]
  | slice elems spare => simp [Rows.uptoBulk]
  | agg parts => simp [Rows.uptoBulk]
  | iface t d => simp [Rows.uptoBulk]
  | map entries => simp [Rows.uptoBulk]
  | held h => simp [Rows.uptoBulk]
theorem bulk_length {H : Type} (l : List (DataW H)) : l.length ≤ Rows.uptoBulkAll l := by
  induction l with
  | nil => simp [Rows.uptoBulkAll]
  | cons x r ih => have := bulk_one x; simp only [Rows.uptoBulkAll, List.length_cons]; omega
theorem bulk_slice {H : Type} (elems spare : List (DataW H)) : elems.length + 1 ≤ Rows.uptoBulk (.slice elems spare) := by
  have h1 := bulk_length elems
  simp only [Rows.uptoBulk]
  omega
theorem bulk_two {H : Type} {d e : DataW H} {l : List (DataW H)} (hk : Rows.uptoSmall H (d :: e :: l) = true) : Rows.uptoBulk e < 1048576 := by
  have h : Rows.uptoBulkAll (d :: e :: l) ≤ 1048576 := of_decide_eq_true hk
  have h1 := bulk_one d
  simp only [Rows.uptoBulkAll] at h
  omega
theorem bulk_four {H : Type} {d e f g : DataW H} {l : List (DataW H)} (hk : Rows.uptoSmall H (d :: e :: f :: g :: l) = true) : Rows.uptoBulk e + Rows.uptoBulk f + Rows.uptoBulk g < 1048576 := by
  have h : Rows.uptoBulkAll (d :: e :: f :: g :: l) ≤ 1048576 := of_decide_eq_true hk
  have h1 := bulk_one d
  simp only [Rows.uptoBulkAll] at h
  omega
section
variable {H : Type} {enc : TypeId × Value → H} {w : World} {base : Nat} {spare : Nat → Bool} {held : Bool}
theorem ints_open {fuel : Nat} {a : Option Addr} {len cap : Nat} {x : DataW H × List MemPlace} (h : DataW.trod enc Tryz.prog w base spare held fuel 22 [.slice a len cap] = some x) :
    ∃ l : List Int, l.length = len ∧ Is w a l ∧ len < Rows.uptoBulk x.1 := by
  rcases open_ints Tryz.underlying22 Tryz.underlying3 (by kernel_rfl) h with ⟨hcs, hx⟩ | ⟨a', len', cap', zs, hcs, _, hl, hm, hz, hx, hel, _⟩
  · simp only [List.cons.injEq, and_true, Value.slice.injEq] at hcs
    obtain ⟨rfl, rfl, rfl⟩ := hcs
    refine ⟨[], rfl, (fun i hi => by cases hi), ?_⟩
    have := bulk_one x.1
    omega
  · simp only [List.cons.injEq, and_true, Value.slice.injEq] at hcs
    obtain ⟨rfl, rfl, rfl⟩ := hcs
    have hlz : len ≤ zs.length := by rw [hz]; split <;> omega
    have htl : (zs.take len).length = len := by rw [List.length_take]; omega
    refine ⟨zs.take len, htl, fun i hi => ?_, ?_⟩
    · rw [htl] at hi
      have q := hel i (by omega)
      have e1 : (zs.take len).getD i 0 = zs.getD i 0 := by rw [List.getD_eq_getElem?_getD, List.getElem?_take, if_pos hi, List.getD_eq_getElem?_getD]
      obtain ⟨b, off, spot⟩ := a'
      have hs : spot = none := by
        cases spot with
        | none => rfl
        | some y =>
          exfalso
          have q0 := hel 0 (by omega)
          have e0 : (⟨b, off, some y⟩ : Addr).add 0 = ⟨b, off, some y⟩ := by simp [Addr.add]
          rw [e0] at q0
          unfold World.cell? at q0
          split at q0
          · simp at q0
          · cases q0
      subst hs
      have e2 : (⟨b, off, none⟩ : Addr).add i = ⟨b, off + i, none⟩ := by simp [Addr.add]
      rw [e2] at q
      refine ⟨b, off, rfl, ?_, by rw [q, e1]⟩
      unfold World.cell? at q
      split at q
      · rename_i h2
        exact (Array.getElem?_eq_some_iff.1 h2).1
      · cases q
    · rw [hx]
      have q := bulk_slice (lits (H := H) .i64 (zs.take len)) (lits .i64 (zs.drop len))
      have e3 : (lits (H := H) .i64 (zs.take len)).length = len := by unfold lits; rw [List.length_map]; exact htl
      rw [e3] at q
      exact q
end
theorem three_leB {W : World} (h : Tabs W 4) : 4 ≤ W.heap.size := by
  obtain ⟨fr, e⟩ := h.shapes
  have h1 := (Array.getElem?_eq_some_iff.1 e).1
  obtain ⟨fr2, e2⟩ := h.heads
  have h2 := (Array.getElem?_eq_some_iff.1 e2).1
  have hp := h.pow
  unfold Lib.TabIs World.var? at hp
  rw [Tryz.powG] at hp
  simp only [Option.bind_some] at hp
  have h3 : 3 < W.heap.size := by
    rcases Nat.lt_or_ge 3 W.heap.size with q | q
    · exact q
    · rw [Array.getElem?_eq_none q] at hp
      cases hp
  omega
end Go.Proofs.YtlpdomgedaockaaGreatDoor
