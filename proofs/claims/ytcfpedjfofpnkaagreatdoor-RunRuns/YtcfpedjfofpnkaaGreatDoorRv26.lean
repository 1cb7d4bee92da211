import Derived.Test.YtcfpedjfofpnkaaGreatDoorRv21
import Derived.Test.YtcfpedjfofpnkaaGreatDoorRv25
import Derived.Test.YtcfpedjfofpnkaaGreatDoorRv7
import Derived.Test.YtcfpedjfofpnkaaGreatDoorRv22
import Derived.Test.YtcfpedjfofpnkaaGreatDoorRv24
import Derived.Test.YtcfpedjfofpnkaaGreatDoorRv19
import Derived.ChangeSlices
import Derived.Test.YtcfpedjfofpnkaaGreatDoorRv17
set_option linter.unusedVariables false
set_option linter.unusedSimpArgs false
namespace Go.Proofs.YtcfpedjfofpnkaaGreatDoor
open Go.RowKit Go.Proofs.Cod
section
variable {w w' : World} {b : Nat} {p : PD} {s : MS}
theorem call_enter {P : Program} {f : FuncId} {fn : Func} (hf : P.funcs[f]? = some fn) (hname : (fn.name == "runtime.NumGoroutine") = false) (hb : fn.body.isSome = true) (args : Array Value) (w : World) : (callFunc f args).run P w = .ok (.enter f args) w := by
 have h1 : fn.name ≠ "runtime.NumGoroutine" := by simpa using hname
 cases hc : fn.body with
 | none => rw [hc] at hb; cases hb
 | some c => simp [callFunc, hf, h1, hc]
theorem deed_enter : ∀ q, q ∈ deedT → ∀ (args : Array Value) (w : World), (callFunc q.2 args).run Tryz.prog w = .ok (.enter q.2 args) w := by
 intro q hq
 simp only [deedT, List.mem_cons, List.not_mem_nil, or_false] at hq
 rcases hq with rfl | rfl | rfl | rfl | rfl | rfl | rfl | rfl | rfl | rfl | rfl | rfl | rfl | rfl | rfl | rfl | rfl
 ·exact fun a w => call_enter Tryz.func49 (by kernel_rfl) (by kernel_rfl) a w
 ·exact fun a w => call_enter Tryz.func52 (by kernel_rfl) (by kernel_rfl) a w
 ·exact fun a w => call_enter Tryz.func53 (by kernel_rfl) (by kernel_rfl) a w
 ·exact fun a w => call_enter Tryz.func54 (by kernel_rfl) (by kernel_rfl) a w
 ·exact fun a w => call_enter Tryz.func55 (by kernel_rfl) (by kernel_rfl) a w
 ·exact fun a w => call_enter Tryz.func57 (by kernel_rfl) (by kernel_rfl) a w
 ·exact fun a w => call_enter Tryz.func59 (by kernel_rfl) (by kernel_rfl) a w
 ·exact fun a w => call_enter Tryz.func60 (by kernel_rfl) (by kernel_rfl) a w
 ·exact fun a w => call_enter Tryz.func61 (by kernel_rfl) (by kernel_rfl) a w
 ·exact fun a w => call_enter Tryz.func62 (by kernel_rfl) (by kernel_rfl) a w
 ·exact fun a w => call_enter Tryz.func63 (by kernel_rfl) (by kernel_rfl) a w
 ·exact fun a w => call_enter Tryz.func64 (by kernel_rfl) (by kernel_rfl) a w
 ·exact fun a w => call_enter Tryz.func66 (by kernel_rfl) (by kernel_rfl) a w
 ·exact fun a w => call_enter Tryz.func68 (by kernel_rfl) (by kernel_rfl) a w
 ·exact fun a w => call_enter Tryz.func69 (by kernel_rfl) (by kernel_rfl) a w
 ·exact fun a w => call_enter Tryz.func70 (by kernel_rfl) (by kernel_rfl) a w
 ·exact fun a w => call_enter Tryz.func71 (by kernel_rfl) (by kernel_rfl) a w
theorem doV_enter {op : Tx} {f : Nat} (h : doV op = .func (.func f) #[] #[]) (args : Array Value) (w : World) : (callFunc f args).run Tryz.prog w = .ok (.enter f args) w := by
 unfold doV at h
 split at h
 ·rename_i q hq
  cases h
  exact deed_enter q (List.mem_of_find?_eq_some hq) args w
 ·cases h
theorem KeepS.then {S S' : Nat → Prop} {w w1 w2 : World} (h : KeepS S w w1) (h' : KeepS S' w1 w2) (hS : ∀ k, k < w.heap.size → S' k → S k) : KeepS S w w2 :=
 ⟨h'.os.trans h.os, h'.tape.trans h.tape, h'.output.trans h.output, Nat.le_trans h.size h'.size, fun k hk hn => (h'.block k (Nat.lt_of_lt_of_le hk h.size) (fun q => hn (hS k hk q))).trans (h.block k hk hn)⟩
theorem ev_set {w : World} {n T : Nat} {a0 a1 a2 a3 : Value} (hk : w.heap[n]? = some (.cells #[a0, a1, a2, a3] T)) (v0 v1 v2 v3 : Value) : ∃ W, (((w.setCell ⟨n, 0, none⟩ v0).setCell ⟨n, 1, none⟩ v1).setCell ⟨n, 2, none⟩ v2).setCell ⟨n, 3, none⟩ v3 = W ∧ W.heap[n]? = some (.cells #[v0, v1, v2, v3] T) ∧ (∀ b, b ≠ n → W.heap[b]? = w.heap[b]?) ∧ W.heap.size = w.heap.size ∧ W.os = w.os ∧ W.tape = w.tape ∧ W.output = w.output := by
 refine ⟨_, rfl, ?_, fun b hb => ?_, by simp, rfl, rfl, rfl⟩
 ·have h0 := (heap_setCell_same _ n 0 _ _ v0 hk).trans (show _ = some (Obj.cells #[v0, a1, a2, a3] T) from rfl)
  have h1 := (heap_setCell_same _ n 1 _ _ v1 h0).trans (show _ = some (Obj.cells #[v0, v1, a2, a3] T) from rfl)
  have h2 := (heap_setCell_same _ n 2 _ _ v2 h1).trans (show _ = some (Obj.cells #[v0, v1, v2, a3] T) from rfl)
  exact (heap_setCell_same _ n 3 _ _ v3 h2).trans (show _ = some (Obj.cells #[v0, v1, v2, v3] T) from rfl)
 ·rw [Below.heap_setCell _ ⟨n, 3, none⟩ _ b hb, Below.heap_setCell _ ⟨n, 2, none⟩ _ b hb, Below.heap_setCell _ ⟨n, 1, none⟩ _ b hb, Below.heap_setCell _ ⟨n, 0, none⟩ _ b hb]
theorem ev_val {w : World} {fn : Func} {tmps : Array Value} {b : Nat} {x a0 a1 a2 a3 : Value} (hr : fn.results = #[.cell 4 45, .tmp 5]) (ht : tmps[4]? = some (.pointer (some ⟨b, 0, none⟩))) (h3 : tmps[5]? = some x) (hc : w.heap[b]? = some (.cells #[a0, a1, a2, a3] 45)) : (results fn tmps).run Tryz.prog w = .ok (.tuple #[.agg #[a0, a1, a2, a3], x]) w := by
 have c0 : w.cell? ⟨b, 0, none⟩ = some a0 := by simp [World.cell?, hc]
 have c1 : w.cell? ⟨b, 1, none⟩ = some a1 := by simp [World.cell?, hc]
 have c2 : w.cell? ⟨b, 2, none⟩ = some a2 := by simp [World.cell?, hc]
 have c3 : w.cell? ⟨b, 3, none⟩ = some a3 := by simp [World.cell?, hc]
 simp [results, hr, ht, h3, go_sem, c0, c1, c2, c3]
def evC (e : Ev) : Array Value := #[.int .i64 e.t, .int .i64 e.k, .int .i64 e.o, .int .i64 e.v]
def trn (C : List (List In7)) (s : MS) (t : Int) : MS × Ev := if canM C s t = 0 then goM false C s t else (s, ⟨0, 0, 0, 0⟩)
def StepR (w w' : World) (b : Nat) (p : PD) (s : MS) (t : Int) (e : Ending) : Prop :=
 e = .returned (.tuple #[.agg (evC (trn p.C s t).2), .int .i64 (canM p.C s t)]) ∧ MachW w' b p (trn p.C s t).1 ∧ KeepS (fun k => k = b) w w'
set_option maxRecDepth 100000 in
set_option maxHeartbeats 1000000 in
theorem step_any (h : MachW w b p s) (hf : PFit4 p) (hM : MOkP p s) (t : Int) :
 Calls Tryz.prog 17 #[ptrV b, .int .i64 t] w fun e w' => StepR w w' b p s t e := by
 have hB1 : Below w.heap.size w (w.alloc (.cells #[.int .i64 0, .int .i64 0, .int .i64 0, .int .i64 0] 45)) := (Below.refl _ _).alloc (Nat.le_refl _) _
 have hk1 : (w.alloc (.cells #[.int .i64 0, .int .i64 0, .int .i64 0, .int .i64 0] 45)).heap[w.heap.size]? = some (.cells #[.int .i64 0, .int .i64 0, .int .i64 0, .int .i64 0] 45) := World.alloc_heap_new w _
 have hz1 : (w.alloc (.cells #[.int .i64 0, .int .i64 0, .int .i64 0, .int .i64 0] 45)).heap.size = w.heap.size + 1 := by show (w.heap.push _).size = _; simp
 have hR := refusal_any (h.below hB1) hf hM t
 unfold StepR trn
 by_cases hc : canM p.C s t = 0
 ·simp only [if_pos hc]
  rw [hc] at hR ⊢
  obtain ⟨u, rfl, hu, hph, hwt, hx⟩ := can_info hf.fit hM hc
  have hu4 : u < 4 := by have := hf.fit.four; omega
  have hui : (u : Int) < 4 := by omega
  unfold goM
  rw [Int.toNat_natCast]
  have hT := hM.th u hu
  have hpc := hT.pc (by omega)
  have hl24 := (hf.fit.code _ (getD_mem (d := []) hu)).1
  obtain ⟨x, hxq⟩ : ∃ x, nextI p.C u (s.th u) = x := ⟨_, rfl⟩
  obtain ⟨pc, hpq⟩ : ∃ pc, (s.th u).pc = pc := ⟨_, rfl⟩
  rw [hxq] at hwt hx ⊢
  have hD := fun sb => deed_any (b := b) (sb := sb) hf.v hf.f hf.l hf.fit hM hu hph hwt hx
  have hul : u < s.thr.length := by rw [hM.tl]; exact hu
  obtain ⟨s', hs'⟩ : ∃ s', (stpM false s u x).1 = s' := ⟨_, rfl⟩
  obtain ⟨e', he'⟩ : ∃ e', (stpM false s u x).2 = e' := ⟨_, rfl⟩
  simp only [hs', he'] at hD ⊢
  obtain ⟨f, hf1, -⟩ := hD 0
  replace hD : ∀ sb, ∀ w, StV w b sb p (s.setT u { s.th u with pc := (s.th u).pc + 1 }) u x ⟨u, 0, 0, 0⟩ → DeedR w f b sb p u x s' e' := fun sb => by
   obtain ⟨f2, hf2, hd⟩ := hD sb
   rw [hf1] at hf2
   cases hf2
   exact hd
  have HD := hide hD
  have HB1 := hide (⟨hB1, hk1, h, hz1⟩ : _ ∧ _ ∧ _ ∧ _)
  have HX := hide (⟨hu, hpc, hl24, hpq, hxq, hul⟩ : _ ∧ _ ∧ _ ∧ _ ∧ _ ∧ _)
  replace hf1 := hide hf1
  replace hz1 := hide hz1
  clear h hf hM hc hT hpc hl24 hD hB1 hk1 hph hwt hx hs' he' hpq hxq hu hul
  unfold ptrV at *
  go_enter Tryz.func17, Tryz.ntmps17
  go_wp2_with fail
  refine hR.mono ?_
  rintro e w2 ⟨rfl, hb2⟩
  obtain ⟨hB1, hk1, h, -⟩ := HB1.out
  obtain ⟨hu, hpc, hl24, hpq, hxq, hul⟩ := HX.out
  replace hb2 : Below (w.heap.size + 1) (w.alloc (.cells #[.int .i64 0, .int .i64 0, .int .i64 0, .int .i64 0] 45)) w2 := by rw [← hz1.out]; exact hb2
  have hm2 : MachW w2 b p s := RowF.below (w := w) h (hB1.trans (hb2.mono (Nat.le_succ _)))
  have hN := next_any hm2 hu4 (by omega)
  rw [hpq] at hN
  have HM2 := hide (⟨hm2, hb2⟩ : _ ∧ _)
  clear hR hB1 hk1 h hu hpc hl24 hpq hxq hul hm2 hb2
  go_wp2_with fail
  refine hN.mono ?_
  rintro e w3 ⟨rfl, rfl⟩
  obtain ⟨hu, hpc, hl24, hpq, hxq, hul⟩ := HX.out
  have hm3 : MachW w2.drew b p s := RowF.same HM2.out.1 rfl
  obtain ⟨k0, k1, k2, k3, k4, k5, k6, k7⟩ := mach_deed hm3 hu4 hu hpc hl24 hpq hxq
  rw [hf1.out] at k7
  have kpc := mach_pc hm3 hu4
  rw [hpq] at kpc
  have f3 := hm3.frozen
  have hwp : wrap64 ((pc : Int) + 1) = (pc : Int) + 1 := by unfold wrap64; omega
  obtain ⟨st, hst⟩ : ∃ st : Array Value, #[Value.pointer (some ⟨b, 0, none⟩), .pointer (some ⟨b, 27 + u * 207, none⟩), .string (bs x.op), .int .i64 x.r, .bool x.aR, .int .i64 x.aN, .bool x.bR, .int .i64 x.bN, .int .i64 x.x, .int .i64 u, .int .i64 0, .int .i64 0, .int .i64 0] = st := ⟨_, rfl⟩
  have hbA : Below w2.heap.size w2 (w2.alloc (.cells st 119)) := (Below.refl w2.heap.size w2).alloc (Nat.le_refl _) _
  have hmA : MachW (w2.alloc (.cells st 119)) b p s := RowF.below HM2.out.1 hbA
  have kpcA := mach_pc hmA hu4
  have fA := hmA.frozen
  rw [hpq] at kpcA
  have hstv : StV (((w2.alloc (.cells st 119)).setCell ⟨b, 27 + u * 207 + 2, none⟩ (.int .i64 ((pc : Int) + 1))).drew) b w2.heap.size p (s.setT u { s.th u with pc := (s.th u).pc + 1 }) u x ⟨u, 0, 0, 0⟩ := by
   have q : StV (w2.alloc (.cells st 119)) b w2.heap.size p s u x ⟨u, 0, 0, 0⟩ := by
    refine ⟨hmA, ⟨st, World.alloc_heap_new w2 _, by rw [← hst]; rfl, fun k hk => ?_⟩, by have := HM2.out.1.lt; omega⟩
    rw [← hst]
    have : k = 0 ∨ k = 1 ∨ k = 2 ∨ k = 3 ∨ k = 4 ∨ k = 5 ∨ k = 6 ∨ k = 7 ∨ k = 8 ∨ k = 9 ∨ k = 10 ∨ k = 11 ∨ k = 12 := by omega
    rcases this with rfl | rfl | rfl | rfl | rfl | rfl | rfl | rfl | rfl | rfl | rfl | rfl | rfl <;> rfl
   have q2 := q.setM (fun j => mc_setPc (p := p) (s := s) hu4 hul (pc + 1) (k := j))
   rw [hpq]
   exact q2.same rfl
  have k7A : ((w2.alloc (.cells st 119)).setCell ⟨b, 27 + u * 207 + 2, none⟩ (.int .i64 ((pc : Int) + 1))).cell? ⟨b, 27 + u * 207 + 7 + pc * 8 + 7, none⟩ = some (.func (.func f) #[] #[]) := by
   have q := (mach_deed hmA hu4 hu hpc hl24 hpq hxq).2.2.2.2.2.2.2
   rw [hf1.out] at q
   rw [World.cell?_setCell_other _ _ _ _ (by intro e; injection e; omega)]
   exact q
  have hDo := HD.out _ _ hstv
  have hcf := doV_enter hf1.out
  have hkA : KeepS (fun k => k = b) w (((w2.alloc (.cells st 119)).setCell ⟨b, 27 + u * 207 + 2, none⟩ (.int .i64 ((pc : Int) + 1))).drew) := by
   obtain ⟨hB1, hk1, h, -⟩ := HB1.out
   have hb2 := HM2.out.2
   have q1 := hB1.trans (hb2.mono (Nat.le_succ _))
   exact (KeepS.set (S := fun k => k = b) (KeepS.ofBelow (q1.trans (hbA.mono q1.size))) (a := ⟨b, 27 + u * 207 + 2, none⟩) (.inl rfl) _).drew
  unfold DeedR ptrV at hDo
  have HF := hide (⟨hstv, hkA⟩ : _ ∧ _)
  subst hst
  clear hu hpc hl24 hpq hxq hul hm3 hbA hmA hstv hkA HD
  go_wp2_with fail
  refine hDo.mono ?_
  rintro e w4 ⟨rfl, h4⟩
  obtain ⟨hstv, hkA⟩ := HF.out
  have hk4 : w4.heap[w.heap.size]? = some (.cells #[.int .i64 0, .int .i64 0, .int .i64 0, .int .i64 0] 45) := by
   obtain ⟨hB1, hk1, h, -⟩ := HB1.out
   have hb2 := HM2.out.2
   have hsz := hb2.size
   rw [hz1.out] at hsz
   have hbl : b < w.heap.size := h.lt
   refine (h4.k.block _ ?_ ?_).trans ((Below.heap_setCell _ ⟨b, _, none⟩ _ _ ?_).trans ((Below.heap_alloc w2 _ _ ?_).trans ((hb2.block _ (Nat.lt_succ_self _)).trans hk1)))
   ·have := hkA.size
    have : w2.heap.size + 1 = (((w2.alloc (.cells #[Value.pointer (some ⟨b, 0, none⟩), .pointer (some ⟨b, 27 + u * 207, none⟩), .string (bs x.op), .int .i64 x.r, .bool x.aR, .int .i64 x.aN, .bool x.bR, .int .i64 x.bN, .int .i64 x.x, .int .i64 u, .int .i64 0, .int .i64 0, .int .i64 0] 119)).setCell ⟨b, 27 + u * 207 + 2, none⟩ (.int .i64 ((pc : Int) + 1))).drew).heap.size := by
     show _ = (World.setCell _ _ _).heap.size
     rw [World.size_setCell]; show _ = (w2.heap.push _).size; simp
    omega
   ·intro e; rcases e with e | e <;> omega
   ·show w.heap.size ≠ b; omega
   ·omega
  obtain ⟨c9, c10, c11, c12⟩ := h4.v.evs
  have r0 : w4.cell? ⟨w.heap.size, 0, none⟩ = some (.int .i64 0) := by simp [World.cell?, hk4]
  have r1 : w4.cell? ⟨w.heap.size, 1, none⟩ = some (.int .i64 0) := by simp [World.cell?, hk4]
  have r2 : w4.cell? ⟨w.heap.size, 2, none⟩ = some (.int .i64 0) := by simp [World.cell?, hk4]
  have r3 : w4.cell? ⟨w.heap.size, 3, none⟩ = some (.int .i64 0) := by simp [World.cell?, hk4]
  have f4 : ∀ i, w4.frozen? ⟨w.heap.size, i, none⟩ = false := fun i => by simp [World.frozen?, hk4]
  have H4 := hide (⟨h4, hk4⟩ : _ ∧ _)
  clear h4 hk4 hstv hkA hDo hcf k0 k1 k2 k3 k4 k5 k6 k7 k7A kpc kpcA f3 fA hwp
  go_wp2_with fail
  obtain ⟨h4, hk4⟩ := H4.out
  obtain ⟨hstv, hkA⟩ := HF.out
  obtain ⟨hB1, hk1, h, -⟩ := HB1.out
  obtain ⟨W, hW, v1, v2, v3, v4, v5, v6⟩ := ev_set hk4 (.int .i64 e'.t) (.int .i64 e'.k) (.int .i64 e'.o) (.int .i64 e'.v)
  rw [hW]
  have hbl : b < w.heap.size := h.lt
  have hsz := HM2.out.2.size
  rw [hz1.out] at hsz
  refine bodyPost_ret (ev_val rfl rfl rfl v1) rfl ⟨rfl, h4.v.m.same (v2 b (by omega)), ?_⟩
  have q := hkA.then h4.k (fun k hk e => by rcases e with e | e; exact e; omega)
  exact ⟨v4.trans q.os, v5.trans q.tape, v6.trans q.output, by rw [v3]; exact q.size, fun k hk hn => (v2 k (by omega)).trans (q.block k hk hn)⟩
 ·simp only [if_neg hc]
  obtain ⟨er, her⟩ : ∃ er, canM p.C s t = er := ⟨_, rfl⟩
  rw [her] at hR hc ⊢
  have hb : (er != 0) = true := by simpa using hc
  have HB1 := hide (⟨hB1, hk1, h, hz1⟩ : _ ∧ _ ∧ _ ∧ _)
  clear hc hf hM hB1 hk1 hz1 h her
  unfold ptrV at *
  go_enter Tryz.func17, Tryz.ntmps17
  go_wp2_with fail
  refine hR.mono ?_
  rintro e w2 ⟨rfl, hb2⟩
  have hk2 : w2.heap[w.heap.size]? = some (.cells #[.int .i64 0, .int .i64 0, .int .i64 0, .int .i64 0] 45) := by
   obtain ⟨hB1, hk1, h, hz1⟩ := HB1.out
   exact (hb2.block _ (by omega)).trans hk1
  have r0 : w2.cell? ⟨w.heap.size, 0, none⟩ = some (.int .i64 0) := by simp [World.cell?, hk2]
  have r1 : w2.cell? ⟨w.heap.size, 1, none⟩ = some (.int .i64 0) := by simp [World.cell?, hk2]
  have r2 : w2.cell? ⟨w.heap.size, 2, none⟩ = some (.int .i64 0) := by simp [World.cell?, hk2]
  have r3 : w2.cell? ⟨w.heap.size, 3, none⟩ = some (.int .i64 0) := by simp [World.cell?, hk2]
  have f4 : ∀ i, w2.frozen? ⟨w.heap.size, i, none⟩ = false := fun i => by simp [World.frozen?, hk2]
  have H2 := hide (⟨hb2, hk2⟩ : _ ∧ _)
  clear hb2 hk2 hR
  go_wp2_with fail
  obtain ⟨hb2, hk2⟩ := H2.out
  obtain ⟨hB1, hk1, h, hz1⟩ := HB1.out
  obtain ⟨W, hW, v1, v2, v3, v4, v5, v6⟩ := ev_set hk2 (.int .i64 0) (.int .i64 0) (.int .i64 0) (.int .i64 0)
  rw [hW]
  have hbl : b < w.heap.size := h.lt
  have q := hB1.trans (hb2.mono hB1.size)
  exact bodyPost_ret (ev_val rfl rfl rfl v1) rfl ⟨rfl, h.same ((v2 b (by omega)).trans (q.block b hbl)), ⟨v4.trans q.os, v5.trans q.tape, v6.trans q.output, by rw [v3]; exact q.size, fun k hk hn => (v2 k (by omega)).trans (q.block k hk)⟩⟩
end
section
variable {w w' : World} {b : Nat} {p : PD} {s : MS}
theorem Tryz.infoInt : (Tryz.prog.info? 3).map (fun i => (i.zero, i.size, i.bytes)) = some (some (.int .i64 0), 1, 8) := by kernel_rfl
theorem Tryz.infoEv : (Tryz.prog.info? 45).map (fun i => (i.zero, i.size, i.bytes)) = some (some (.agg #[.int .i64 0, .int .i64 0, .int .i64 0, .int .i64 0]), 4, 32) := by kernel_rfl
def intV (n : Int) : Value := .int .i64 n
def readyTo (C : List (List In7)) (s : MS) (i : Nat) : List Int := ((List.range i).filter fun (t : Nat) => decide (canM C s (t : Int) = 0)).map fun (t : Nat) => (t : Int)
def readyM (C : List (List In7)) (s : MS) : List Int := readyTo C s s.thr.length
end
end Go.Proofs.YtcfpedjfofpnkaaGreatDoor
namespace Go.Proofs.YtcfpedjfofpnkaaGreatDoor
open Go.RowKit Go.Shelf Go.Proofs.Cod
def Is (w : World) (a : Option Addr) (l : List Int) : Prop := ∀ i, i < l.length → ∃ b off, a = some ⟨b, off, none⟩ ∧ b < w.heap.size ∧ w.cell? ⟨b, off + i, none⟩ = some (.int .i64 (l.getD i 0))
theorem Is.below {w w' : World} {a : Option Addr} {l : List Int} (h : Is w a l) (hb : Below w.heap.size w w') : Is w' a l := fun i hi => by
 obtain ⟨b, off, e1, e2, e3⟩ := h i hi
 exact ⟨b, off, e1, by have := hb.size; omega, (hb.cell (p := ⟨b, off + i, none⟩) e2).trans e3⟩
theorem wrap_lt {i : Nat} (h : i < 2000000) : wrap64 ((i : Int) + 1) = (i : Int) + 1 := by unfold wrap64; omega
def evL (e : Ev) : List Value := (evC e).toList
theorem evL_len (e : Ev) : (evL e).length = 4 := rfl
section
variable {w w' : World} {b B0 base : Nat}
theorem evs_push {v : Value} {l : List Ev} (h : w.ownsRow base 45 4 v l.length (l.flatMap evL)) (x : Ev) (hl : l.length < 1048576) (hb : base ≤ w.heap.size) :
 ∃ g cap w', (Builtin.append_ #[55, 55] 55 #[v, .slice (some ⟨w.heap.size, 0, none⟩) 1 1]).run Tryz.prog (w.alloc (.cells (evC x) 45)) = .ok (.slice (some ⟨g, 0, none⟩) (l.length + 1) cap) w' ∧
  w'.ownsRow base 45 4 (.slice (some ⟨g, 0, none⟩) (l.length + 1) cap) (l ++ [x]).length ((l ++ [x]).flatMap evL) ∧ (∀ B, B ≤ base → Below B w w') ∧ (∀ k, k < w.heap.size → v.ownBlock ≠ some k → w'.heap[k]? = w.heap[k]?) := by
 obtain ⟨i0, hi, hy0, hy1, hy2⟩ := info_parts Tryz.infoEv
 obtain ⟨g, cap, w', hr, r1, ro, rt, rp, rz, rb, rg⟩ := owns_pushN h Tryz.underlying55 hi hy0 hy1 hy2 rfl (by omega) (evL x) rfl (by intro u hu; simp only [evL, evC, List.mem_cons, List.not_mem_nil, or_false] at hu; rcases hu with rfl | rfl | rfl | rfl <;> rfl) 55 hl hb
 refine ⟨g, cap, w', hr, ?_, fun B hB => ⟨ro, rt, rp, by omega, fun k hk => rb k (by omega) (fun e => ?_)⟩, rb⟩
 ·rw [List.length_append, List.flatMap_append]
  have e : List.flatMap evL [x] = evL x := by simp
  rw [e]
  exact r1
 ·have := (h.lt k e).1
  omega
theorem row_ne {e size n T m : Nat} {v : Value} {xs : List Value} {f : Nat → Value} (h : w.ownsRow base e size v n xs) (hm : RowF w b T m f) (hne : e ≠ T) : v.ownBlock ≠ some b := by
 intro q
 obtain ⟨cs, h1, -⟩ := hm
 rcases h.2 with ⟨q1, _⟩ | ⟨g, cap, cur, q1, _, q2, _⟩
 ·rw [q1] at q; cases q
 ·rw [q1] at q
  have q : some g = some b := q
  cases q
  rw [q2] at h1
  injection h1 with h1
  injection h1 with _ h1 _
  exact hne h1
theorem row_keepS {e size n T m : Nat} {v : Value} {xs : List Value} {f : Nat → Value} (h : w.ownsRow base e size v n xs) (hm : RowF w b T m f) (hne : e ≠ T) (hk : KeepS (fun k => k = b) w w') : w'.ownsRow base e size v n xs :=
 owns_same h fun g q => hk.block g (h.lt g q).2 (fun e' => row_ne h hm hne (by rw [q, e']))
theorem pl_trn (C : List (List In7)) (x : MS × List Ev) (t : Int) : plM false C x t = ((trn C x.1 t).1, if canM C x.1 t = 0 then x.2 ++ [(trn C x.1 t).2] else x.2) := by
 unfold plM trn
 by_cases e : canM C x.1 t = 0
 ·rw [if_pos e, if_pos e, if_pos e]
 ·rw [if_neg e, if_neg e, if_neg e]
end
end Go.Proofs.YtcfpedjfofpnkaaGreatDoor
namespace Go.Proofs.YtcfpedjfofpnkaaGreatDoor
open Go.ChangeShapes Go.WideShapes Go.ChangeAt Go.RowKit Go.Proofs.Cod
set_option linter.unusedVariables false
theorem bulk_one {H : Type} (d : DataW H) : 1 ≤ Rows.uptoBulk d := by
 cases d with
 | lit l => cases l <;> simp [Rows.uptoBulk]
 | nil => simp [Rows.uptoBulk]
 | ptr d => simp [Rows.uptoBulk]
 | slice elems spare => simp [Rows.uptoBulk]
 | agg parts => simp [Rows.uptoBulk]
 | iface t d => simp [Rows.uptoBulk]
 | map entries => simp [Rows.uptoBulk]
 | held h => simp [Rows.uptoBulk]
theorem bulk_length {H : Type} (l : List (DataW H)) : l.length ≤ Rows.uptoBulkAll l := by
 induction l with
 | nil => simp [Rows.uptoBulkAll]
 | cons x r ih => have := bulk_one x; simp only [Rows.uptoBulkAll, List.length_cons]; omega
theorem bulk_slice {H : Type} (elems spare : List (DataW H)) : elems.length + 1 ≤ Rows.uptoBulk (.slice elems spare) := by
 have h1 := bulk_length elems
 simp only [Rows.uptoBulk]
 omega
theorem bulk_two {H : Type} {d e : DataW H} {l : List (DataW H)} (hk : Rows.uptoSmall H (d :: e :: l) = true) : Rows.uptoBulk e < 1048576 := by
 have h : Rows.uptoBulkAll (d :: e :: l) ≤ 1048576 := of_decide_eq_true hk
 have h1 := bulk_one d
 simp only [Rows.uptoBulkAll] at h
 omega
section
variable {H : Type} {enc : TypeId × Value → H} {w : World} {base : Nat} {spare : Nat → Bool} {held : Bool}
theorem ints_open {fuel : Nat} {a : Option Addr} {len cap : Nat} {x : DataW H × List MemPlace} (h : DataW.trod enc Tryz.prog w base spare held fuel 22 [.slice a len cap] = some x) :
 ∃ l : List Int, l.length = len ∧ Is w a l ∧ len < Rows.uptoBulk x.1 := by
 rcases open_ints Tryz.underlying22 Tryz.underlying3 (by kernel_rfl) h with ⟨hcs, hx⟩ | ⟨a', len', cap', zs, hcs, _, hl, hm, hz, hx, hel, _⟩
 ·simp only [List.cons.injEq, and_true, Value.slice.injEq] at hcs
  obtain ⟨rfl, rfl, rfl⟩ := hcs
  refine ⟨[], rfl, (fun i hi => by cases hi), ?_⟩
  have := bulk_one x.1
  omega
 ·simp only [List.cons.injEq, and_true, Value.slice.injEq] at hcs
  obtain ⟨rfl, rfl, rfl⟩ := hcs
  have hlz : len ≤ zs.length := by rw [hz]; split <;> omega
  have htl : (zs.take len).length = len := by rw [List.length_take]; omega
  refine ⟨zs.take len, htl, fun i hi => ?_, ?_⟩
  ·rw [htl] at hi
   have q := hel i (by omega)
   have e1 : (zs.take len).getD i 0 = zs.getD i 0 := by rw [List.getD_eq_getElem?_getD, List.getElem?_take, if_pos hi, List.getD_eq_getElem?_getD]
   obtain ⟨b, off, spot⟩ := a'
   have hs : spot = none := by
    cases spot with
    | none => rfl
    | some y =>
     exfalso
     have q0 := hel 0 (by omega)
     have e0 : (⟨b, off, some y⟩ : Addr).add 0 = ⟨b, off, some y⟩ := by simp [Addr.add]
     rw [e0] at q0
     unfold World.cell? at q0
     split at q0
     ·simp at q0
     ·cases q0
   subst hs
   have e2 : (⟨b, off, none⟩ : Addr).add i = ⟨b, off + i, none⟩ := by simp [Addr.add]
   rw [e2] at q
   refine ⟨b, off, rfl, ?_, by rw [q, e1]⟩
   unfold World.cell? at q
   split at q
   ·rename_i h2
    exact (Array.getElem?_eq_some_iff.1 h2).1
   ·cases q
  ·rw [hx]
   have q := bulk_slice (lits (H := H) .i64 (zs.take len)) (lits .i64 (zs.drop len))
   have e3 : (lits (H := H) .i64 (zs.take len)).length = len := by unfold lits; rw [List.length_map]; exact htl
   rw [e3] at q
   exact q
end
theorem three_leB {W : World} (h : Tabs W 3) : 3 ≤ W.heap.size := by
 obtain ⟨fr, e⟩ := h.shapes
 have h1 := (Array.getElem?_eq_some_iff.1 e).1
 obtain ⟨fr2, e2⟩ := h.heads
 have h2 := (Array.getElem?_eq_some_iff.1 e2).1
 have hp := h.pow
 unfold Lib.TabIs World.var? at hp
 rw [Tryz.powG] at hp
 simp only [Option.bind_some] at hp
 have h3 : 1 < W.heap.size := by
  rcases Nat.lt_or_ge 1 W.heap.size with q | q
  ·exact q
  ·rw [Array.getElem?_eq_none q] at hp
   cases hp
 omega
end Go.Proofs.YtcfpedjfofpnkaaGreatDoor
namespace Go.Proofs.YtcfpedjfofpnkaaGreatDoor
open Go.RowKit Go.Shelf Go.Proofs.Cod
def sm (i : In7) : Prop := (0 ≤ i.r ∧ i.r ≤ 1000) ∧ (0 ≤ i.aN ∧ i.aN ≤ 1000) ∧ (0 ≤ i.bN ∧ i.bN ≤ 1000) ∧ (0 ≤ i.x ∧ i.x ≤ 1000)
theorem sm_new (f : Tx) : sm (newIns f) := by unfold sm newIns; simp
theorem reg_small {t : Tx} (h : isReg t = true) : regN t ≤ 3 := by
 obtain ⟨a, b, rfl, h1, h2⟩ := isReg_is h
 show b.toNat - 48 ≤ 3
 omega
theorem arg_small {t : Tx} (h : (isReg t || isNum t) = true) : argN t ≤ 1000 := by
 unfold argN
 by_cases hr : isReg t = true
 ·rw [if_pos hr]
  have := reg_small hr
  omega
 ·rw [if_neg hr]
  have hn : isNum t = true := by simpa [hr] using h
  unfold isNum at hn
  simp only [Bool.and_eq_true, decide_eq_true_eq] at hn
  have := num_small hn.2
  have h3 : 10 ^ t.length ≤ 10 ^ 3 := Nat.pow_le_pow_right (by omega) hn.1.2
  omega
section
variable {N : Tx → Option (Int × Nat)} {len : Int → Nat}
def isNb (c : Int) : Bool := c == 118 || c == 102 || c == 109
def lastN : List (Int × Tx) → Option Int
 | [] => none
 | p :: l => match lastN l with
  | some c => some c
  | none => if isNb p.1 then some p.1 else none
theorem fill_nm (hN : ∀ t k n, N t = some (k, n) → n < len k) (hl : ∀ k, len k ≤ 4) {i i' : In7} {t : Tx} {c : Int} (hi : sm i) (h : (match N t with | some (k, n) => if k = c then some { i with x := (n : Int) } else none | none => none) = some i') : sm i' ∧ i'.op = i.op ∧ 0 ≤ i'.x ∧ i'.x < len c := by
 cases hNt : N t with
 | none => rw [hNt] at h; cases h
 | some q =>
  obtain ⟨k, n⟩ := q
  rw [hNt] at h
  have h : (if k = c then some { i with x := (n : Int) } else none) = some i' := h
  by_cases hk : k = c
  ·subst hk
   rw [if_pos rfl] at h
   cases h
   have h6 := hN t k n hNt
   have h7 := hl k
   exact ⟨⟨hi.1, hi.2.1, hi.2.2.1, ⟨by show (0 : Int) ≤ (n : Int); omega, by show (n : Int) ≤ 1000; omega⟩⟩, rfl, by show (0 : Int) ≤ (n : Int); omega, by show (n : Int) < (len k : Int); omega⟩
  ·rw [if_neg hk] at h; cases h
theorem fillOne_sm (hN : ∀ t k n, N t = some (k, n) → n < len k) (hl : ∀ k, len k ≤ 4) {i i' : In7} {c : UInt8} {t : Tx} (hc : c ∈ letters) (hi : sm i) (hp : fitsP t (c.toNat : Int) = true) (h : fillOne N i ((c.toNat : Int), t) = some i') : sm i' ∧ i'.op = i.op ∧ (isNb (c.toNat : Int) = false → i'.x = i.x) ∧ (isNb (c.toNat : Int) = true → 0 ≤ i'.x ∧ i'.x < len (c.toNat : Int)) := by
 rcases letters_or hc with rfl | rfl | rfl | rfl | rfl | rfl | rfl | rfl
 ·have h : some { i with r := (regN t : Int) } = some i' := h
  cases h
  have hr : isReg t = true := hp
  have := reg_small hr
  exact ⟨⟨⟨by show (0 : Int) ≤ (regN t : Int); omega, by show (regN t : Int) ≤ 1000; omega⟩, hi.2.1, hi.2.2.1, hi.2.2.2⟩, rfl, fun _ => rfl, fun e => absurd e (by decide)⟩
 ·have h : some { i with aR := isReg t, aN := (argN t : Int) } = some i' := h
  cases h
  have ha : (isReg t || isNum t) = true := hp
  have := arg_small ha
  exact ⟨⟨hi.1, ⟨by show (0 : Int) ≤ (argN t : Int); omega, by show (argN t : Int) ≤ 1000; omega⟩, hi.2.2.1, hi.2.2.2⟩, rfl, fun _ => rfl, fun e => absurd e (by decide)⟩
 ·have h : some { i with bR := isReg t, bN := (argN t : Int) } = some i' := h
  cases h
  have ha : (isReg t || isNum t) = true := hp
  have := arg_small ha
  exact ⟨⟨hi.1, hi.2.1, ⟨by show (0 : Int) ≤ (argN t : Int); omega, by show (argN t : Int) ≤ 1000; omega⟩, hi.2.2.2⟩, rfl, fun _ => rfl, fun e => absurd e (by decide)⟩
 ·obtain ⟨q1, q2, q3⟩ := fill_nm hN hl (c := 118) hi h
  exact ⟨q1, q2, fun e => absurd e (by decide), fun _ => q3⟩
 ·obtain ⟨q1, q2, q3⟩ := fill_nm hN hl (c := 102) hi h
  exact ⟨q1, q2, fun e => absurd e (by decide), fun _ => q3⟩
 ·obtain ⟨q1, q2, q3⟩ := fill_nm hN hl (c := 109) hi h
  exact ⟨q1, q2, fun e => absurd e (by decide), fun _ => q3⟩
 ·have h : some i = some i' := h
  cases h
  exact ⟨hi, rfl, fun _ => rfl, fun e => absurd e (by decide)⟩
 ·have h : some i = some i' := h
  cases h
  exact ⟨hi, rfl, fun _ => rfl, fun e => absurd e (by decide)⟩
theorem fillAll_sm (hN : ∀ t k n, N t = some (k, n) → n < len k) (hl : ∀ k, len k ≤ 4) : ∀ (ps : Tx) (ts : List Tx) (i i' : In7), (∀ c, c ∈ ps → c ∈ letters) → fitsT ts ps = true → sm i → fillAll N i (zipP ps ts) = some i' → sm i' ∧ i'.op = i.op ∧ (lastN (zipP ps ts) = none → i'.x = i.x) ∧ (∀ c, lastN (zipP ps ts) = some c → 0 ≤ i'.x ∧ i'.x < len c)
 | [], [], i, i', _, _, hi, h => by
  have h : some i = some i' := h
  cases h
  exact ⟨hi, rfl, fun _ => rfl, fun c e => by cases e⟩
 | [], _ :: _, _, _, _, h, _, _ => by cases h
 | _ :: _, [], _, _, _, h, _, _ => by cases h
 | c :: ps, t :: ts, i, i', hc, hf, hi, h => by
  have hf : (fitsP t (c.toNat : Int) && fitsT ts ps) = true := hf
  rw [Bool.and_eq_true] at hf
  have hz : zipP (c :: ps) (t :: ts) = ((c.toNat : Int), t) :: zipP ps ts := rfl
  rw [hz] at h ⊢
  cases h1 : fillOne N i ((c.toNat : Int), t) with
  | none =>
   unfold fillAll at h
   rw [h1] at h; cases h
  | some i1 =>
   have h : fillAll N i1 (zipP ps ts) = some i' := by
    unfold fillAll at h
    rw [h1] at h; exact h
   obtain ⟨a1, a2, a3, a4⟩ := fillOne_sm hN hl (hc c (by simp)) hi hf.1 h1
   obtain ⟨b1, b2, b3, b4⟩ := fillAll_sm hN hl ps ts i1 i' (fun c' h' => hc c' (by simp [h'])) hf.2 a1 h
   refine ⟨b1, b2.trans a2, fun e => ?_, fun d e => ?_⟩
   ·unfold lastN at e
    cases hl2 : lastN (zipP ps ts) with
    | some d => rw [hl2] at e; cases e
    | none =>
     rw [hl2] at e
     have e : (if isNb (c.toNat : Int) then some (c.toNat : Int) else none) = none := e
     have hb : isNb (c.toNat : Int) = false := by
      cases hb : isNb (c.toNat : Int) with
      | false => rfl
      | true => rw [hb] at e; cases e
     rw [b3 hl2, a3 hb]
   ·unfold lastN at e
    cases hl2 : lastN (zipP ps ts) with
    | some d' =>
     rw [hl2] at e
     have e : some d' = some d := e
     cases e
     exact b4 _ hl2
    | none =>
     rw [hl2] at e
     have e : (if isNb (c.toNat : Int) then some (c.toNat : Int) else none) = some d := e
     cases hb : isNb (c.toNat : Int) with
     | false => rw [hb] at e; cases e
     | true =>
      rw [hb] at e
      have e : some (c.toNat : Int) = some d := e
      cases e
      rw [b3 hl2]; exact a4 hb
end
structure ShP (q : Tx × Tx) (ts : List Tx) : Prop where
 n : ∀ c, c ∈ q.2 → isNb (c.toNat : Int) = true → lastN (zipP q.2 ts) = some (c.toNat : Int) ∧ (116 : UInt8) ∉ q.2 ∧ (108 : UInt8) ∉ q.2
 t : (116 : UInt8) ∈ q.2 → ∃ x, offP (zipP q.2 ts) = [(116, x)]
 l : (108 : UInt8) ∈ q.2 → ∃ x, offP (zipP q.2 ts) = [(108, x)]
 o : (116 : UInt8) ∉ q.2 → (108 : UInt8) ∉ q.2 → offP (zipP q.2 ts) = []
theorem shape_parts {q : Tx × Tx} (hq : q ∈ shapeT) {ts : List Tx} (hl : ts.length = q.2.length) : ShP q ts := by
 simp only [shapeT, List.mem_cons, List.not_mem_nil, or_false] at hq
 rcases hq with rfl | rfl | rfl | rfl | rfl | rfl | rfl | rfl | rfl | rfl | rfl | rfl | rfl | rfl | rfl | rfl | rfl <;>
  (first
    | (obtain rfl := List.length_eq_zero_iff.1 hl)
    | (obtain ⟨a, rfl⟩ := List.length_eq_one_iff.1 hl)
    | (obtain ⟨a, b, rfl⟩ := len2 hl)
    | (obtain ⟨a, b, c, rfl⟩ := len3 hl)) <;>
  (refine ⟨fun d hd hb => ?_, fun h => ?_, fun h => ?_, fun h1 h2 => ?_⟩
   ·first
     | (exact absurd hd List.not_mem_nil)
     | (simp at hd; rcases hd with rfl | rfl | rfl <;> first | (exact ⟨rfl, by decide, by decide⟩) | (exact absurd hb (by decide)))
     | (simp at hd; rcases hd with rfl | rfl <;> first | (exact ⟨rfl, by decide, by decide⟩) | (exact absurd hb (by decide)))
     | (simp at hd; subst hd; first | (exact ⟨rfl, by decide, by decide⟩) | (exact absurd hb (by decide)))
   ·first
     | (exact ⟨_, rfl⟩)
     | (exact absurd h (by decide))
   ·first
     | (exact ⟨_, rfl⟩)
     | (exact absurd h (by decide))
   ·first
     | rfl
     | (exact absurd (by decide) h1)
     | (exact absurd (by decide) h2))
end Go.Proofs.YtcfpedjfofpnkaaGreatDoor
