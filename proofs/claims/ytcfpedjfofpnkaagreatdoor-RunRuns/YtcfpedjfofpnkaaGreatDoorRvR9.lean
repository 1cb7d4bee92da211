import Derived.Test.YtcfpedjfofpnkaaGreatDoorRv22
import Derived.Test.YtcfpedjfofpnkaaGreatDoorRv26
import Derived.Test.YtcfpedjfofpnkaaGreatDoorRv21
import Derived.Test.YtcfpedjfofpnkaaGreatDoorRvR0
import Derived.BigQuiet
import Derived.Test.YtcfpedjfofpnkaaGreatDoorRv28
set_option linter.unusedVariables false
set_option linter.unusedSimpArgs false
namespace Go.Proofs.YtcfpedjfofpnkaaGreatDoor
open Go.RowKit Go.Shelf Go.Proofs.Cod
theorem Sim.show {p : PD} {s s' : MS} (h : Sim s s') : showM p s' = showM p s := by
 have ht : ∀ nm t, thrT nm (s'.th t) = thrT nm (s.th t) := fun nm t => by
  unfold thrT phaseT
  rw [h.ph t, h.rg t]
  by_cases e : (s.th t).ph = 1
  ·rw [h.pc t (by omega)]
  ·rw [if_neg e, if_neg e]
 unfold showM thrsT
 rw [h.v, h.f, h.l]
 congr 1
 congr 1
 funext t
 exact ht _ _
theorem Sim.ready {nv nf nl : Nat} {C : List (List In7)} {s s' : MS} (h : Sim s s') (hM : MOk nv nf nl C s) : readyM C s' = readyM C s := by
 unfold readyM readyTo
 rw [h.n]
 congr 1
 apply List.filter_congr
 intro t _
 rw [h.can hM]
section
variable {w w' : World}
set_option maxRecDepth 100000 in
set_option maxHeartbeats 1000000 in
theorem lints_any {a b : Option Addr} {l : List Int} {n ca cb : Nat} (ha : Is w a l) (hb : Is w b l) (hn : l.length = n) (hn2 : n ≤ 9223372036854775806) :
 Calls Tryz.prog 12 #[.slice a n ca, .slice b n cb] w fun e w' => e = .returned (.bool true) ∧ Below w.heap.size w w' := by
 have H := hide (⟨ha, hb, hn, hn2⟩ : _ ∧ _ ∧ _ ∧ _)
 clear ha hb hn hn2
 go_enter Tryz.func12, Tryz.ntmps12
 go_wp2_with fail
 go_loopw [5] (fun iv wr => ∃ i : Nat, i ≤ n ∧ iv = .int .i64 i ∧ Below w.heap.size w wr) (fun iv _ => n - (intOf iv).toNat)
 case atStart => exact ⟨0, Nat.zero_le _, rfl, Below.refl _ _⟩
 case round =>
  obtain ⟨i, hi, rfl, hB⟩ := hrel
  by_cases h5 : i < n
  ·obtain ⟨ha, hb, hn, hn2⟩ := H.out
   have hlt : (i : Int) < (n : Int) := by omega
   obtain ⟨g1, o1, e1, -, c1⟩ := (ha.below hB) i (by omega)
   subst e1
   obtain ⟨g2, o2, e2, -, c2⟩ := (hb.below hB) i (by omega)
   subst e2
   generalize l.getD i 0 = v at *
   have hwi : wrap64 ((i : Int) + 1) = (i : Int) + 1 := by unfold wrap64; omega
   have HJ := hide (⟨h5, hB⟩ : _ ∧ _)
   clear ha hb hn hn2 hi h5 hB
   go_wp2_with fail
   go_quiet (fail)
   go_wp2_with fail
   go_roundw
   case rel =>
    (try rw [hwi])
    exact ⟨i + 1, HJ.out.1, rfl, HJ.out.2.trans ⟨rfl, rfl, rfl, Nat.le_refl _, fun _ _ => rfl⟩⟩
   case measure =>
    (try rw [hwi])
    exact Nat.sub_lt_sub_left HJ.out.1 (Nat.lt_succ_self i)
  ·have hil : i = n := by omega
   subst hil
   have HJ := hide hB
   clear hi h5 hB H
   go_wp2_with fail
   go_ret
   exact ⟨rfl, HJ.out⟩
set_option maxRecDepth 100000 in
set_option maxHeartbeats 1000000 in
theorem levent_any (a b c d : Int) (w : World) :
 Calls Tryz.prog 20 #[.agg #[.int .i64 a, .int .i64 b, .int .i64 c, .int .i64 d], .agg #[.int .i64 a, .int .i64 b, .int .i64 c, .int .i64 d]] w fun e w' => e = .returned (.bool true) ∧ Below w.heap.size w w' := by
 obtain ⟨W, hW⟩ : ∃ W, (w.alloc (.cells #[.int .i64 a, .int .i64 b, .int .i64 c, .int .i64 d] 45)).alloc (.cells #[.int .i64 a, .int .i64 b, .int .i64 c, .int .i64 d] 50) = W := ⟨_, rfl⟩
 obtain ⟨hB, k1, k2, hz⟩ := two_new _ _ _ hW
 obtain ⟨c0, c1, c2, c3⟩ := four_cells k1
 obtain ⟨d0, d1, d2, d3⟩ := four_cells k2
 have HB := hide hB
 clear hB k1 k2 hz
 go_enter Tryz.func20, Tryz.ntmps20
 go_upto_region 1 with fail
 try rw [hW]
 clear hW
 go_wp2_with fail
 go_ret
 exact ⟨rfl, HB.out⟩
end
end Go.Proofs.YtcfpedjfofpnkaaGreatDoor
namespace Go.Proofs.YtcfpedjfofpnkaaGreatDoor
open Go.RowKit Go.Proofs.Cod
def begM (s : MS) : List Bool := (List.range s.thr.length).map fun t => decide (t ≠ 0 ∧ (s.th t).ph ≠ 0)
def endM (s : MS) : List Bool := (List.range s.thr.length).map fun t => overM (s.th t)
structure EvOk (nv nf nl : Nat) (s s' : MS) (e : Ev) : Prop where
 t0 : 0 ≤ e.t
 tn : e.t < s.thr.length
 live : (endM s)[e.t.toNat]? = some false
 begun : 0 < e.t → (begM s)[e.t.toNat]? = some true
 v : val3 e.v
 k : 0 ≤ e.k ∧ e.k ≤ 10
 o0 : 0 ≤ e.o
 read : e.k = 1 → e.o < nv ∧ s.vars.getD e.o.toNat 0 = e.v
 write : e.k = 2 → e.o < nv
 get : e.k = 3 → e.o < nf ∧ s.flags.getD e.o.toNat 0 = e.v
 put : e.k = 4 → e.o < nf
 spawn : e.k = 7 → 0 < e.o ∧ e.o < s.thr.length ∧ (begM s)[e.o.toNat]? = some false
 join : e.k = 8 → e.o < s.thr.length ∧ (endM s)[e.o.toNat]? = some true
 vars : s'.vars = if e.k = 2 then s.vars.set e.o.toNat e.v else s.vars
 flags : s'.flags = if e.k = 4 then s.flags.set e.o.toNat e.v else s.flags
 beg : begM s' = if e.k = 7 then (begM s).set e.o.toNat true else begM s
 fin : endM s' = if e.k = 9 ∨ e.k = 10 then (endM s).set e.t.toNat true else endM s
 lock : e.k = 5 → ∀ j : Nat, j < nl → (j : Int) = e.o → s.locks.getD j 0 = -1 ∧ s'.locks.getD j 0 ≠ -1
 unlock : e.k = 6 → ∀ j : Nat, j < nl → (j : Int) = e.o → s.locks.getD j 0 ≠ -1 ∧ s'.locks.getD j 0 = -1
 other : ∀ j : Nat, j < nl → ¬ ((e.k = 5 ∨ e.k = 6) ∧ (j : Int) = e.o) → s'.locks.getD j 0 = s.locks.getD j 0
section
variable {nv nf nl : Nat} {C : List (List In7)} {s s' : MS}
inductive Tr (nv nf nl : Nat) (C : List (List In7)) (s0 : MS) : List Ev → MS → Prop where
 | nil : Tr nv nf nl C s0 [] s0
 | snoc {l : List Ev} {s s' : MS} {e : Ev} : Tr nv nf nl C s0 l s → EvOk nv nf nl s s' e → s'.thr.length = s.thr.length → Tr nv nf nl C s0 (l ++ [e]) s'
end
end Go.Proofs.YtcfpedjfofpnkaaGreatDoor
namespace Go.Proofs.YtcfpedjfofpnkaaGreatDoor
open Go.RowKit Go.Shelf Go.Proofs.Cod
section
variable {nv nf nl : Nat} {C : List (List In7)} {s : MS}
end
structure EvHere (w : World) (g k : Nat) (e : Ev) : Prop where
 c0 : w.cell? ⟨g, k * 4, none⟩ = some (.int .i64 e.t)
 c1 : w.cell? ⟨g, k * 4 + 1, none⟩ = some (.int .i64 e.k)
 c2 : w.cell? ⟨g, k * 4 + 2, none⟩ = some (.int .i64 e.o)
 c3 : w.cell? ⟨g, k * 4 + 3, none⟩ = some (.int .i64 e.v)
theorem ev_at {w : World} {base : Nat} {v : Value} {l : List Ev} {k : Nat} {e : Ev} (h : w.ownsRow base 45 4 v l.length (l.flatMap evL)) (hk : l[k]? = some e) : ∃ g cap, v = .slice (some ⟨g, 0, none⟩) l.length cap ∧ g < w.heap.size ∧ EvHere w g k e := by
 have hl := (List.getElem?_eq_some_iff.1 hk).1
 obtain ⟨g, cap, e1, hg, hc⟩ := row_form h hl
 have key : ∀ q, q < 4 → w.cell? ⟨g, k * 4 + q, none⟩ = (evL e)[q]? := fun q hq => by
  rw [hc (k * 4 + q) (by omega)]; exact flat_at evL_len hk hq
 exact ⟨g, cap, e1, hg, key 0 (by omega), key 1 (by omega), key 2 (by omega), key 3 (by omega)⟩
theorem play_len (C : List (List In7)) (s : MS) (l : List Int) : (playM false C s l).2.length ≤ l.length := by
 have : ∀ (r : List Int) (x : MS × List Ev), (r.foldl (plM false C) x).2.length ≤ x.2.length + r.length := by
  intro r
  induction r with
  | nil => intro x; exact Nat.le_refl _
  | cons t r ih =>
   intro x
   have := ih (plM false C x t)
   have h2 : (plM false C x t).2.length ≤ x.2.length + 1 := by
    rw [pl_trn]; dsimp only; split
    ·simp
    ·omega
   rw [List.foldl_cons, List.length_cons]
   omega
 have q := this l (s, [])
 simp only [List.length_nil, Nat.zero_add] at q
 exact q
def boolV (l : List Bool) (k : Nat) : Value := .bool (l.getD k false)
def numV (l : List Int) (k : Nat) : Value := .int .i64 (l.getD k 0)
structure SndW (w : World) (gb ge gv gf n nv nf : Nat) (m : MS) : Prop where
 b : RowF w gb 4 n (boolV (begM m))
 e : RowF w ge 4 n (boolV (endM m))
 v : RowF w gv 3 nv (numV m.vars)
 f : RowF w gf 3 nf (numV m.flags)
theorem SndW.below {w w' : World} {gb ge gv gf n nv nf : Nat} {m : MS} (h : SndW w gb ge gv gf n nv nf m) (hb : Below w.heap.size w w') : SndW w' gb ge gv gf n nv nf m := ⟨h.b.below hb, h.e.below hb, h.v.below hb, h.f.below hb⟩
theorem SndW.congr {w : World} {gb ge gv gf n nv nf : Nat} {m m' : MS} (h : SndW w gb ge gv gf n nv nf m) (h1 : begM m' = begM m) (h2 : endM m' = endM m) (h3 : m'.vars = m.vars) (h4 : m'.flags = m.flags) : SndW w gb ge gv gf n nv nf m' := ⟨by rw [h1]; exact h.b, by rw [h2]; exact h.e, by rw [h3]; exact h.v, by rw [h4]; exact h.f⟩
end Go.Proofs.YtcfpedjfofpnkaaGreatDoor
