import Derived.Test.YtcfpedjfofpnkaaGreatDoorRv19
import Derived.Test.YtcfpedjfofpnkaaGreatDoorRv0
import Derived.Laws.IdiomCopy
import Derived.Laws.Rows
import Derived.Laws.Tables
import Derived.Below
import Derived.BigQuiet
set_option linter.unusedVariables false
set_option linter.unusedSimpArgs false
namespace Go.Proofs.YtcfpedjfofpnkaaGreatDoor
open Go.RowKit Go.Proofs.Cod
def oSet : Tx := [115, 101, 116]
def oAdd : Tx := [97, 100, 100]
def oSub : Tx := [115, 117, 98]
def oMul : Tx := [109, 117, 108]
def oLoad : Tx := [108, 111, 97, 100]
def oStore : Tx := [115, 116, 111, 114, 101]
def oGet : Tx := [103, 101, 116]
def oPut : Tx := [112, 117, 116]
def oLock : Tx := [108, 111, 99, 107]
def oUnlock : Tx := [117, 110, 108, 111, 99, 107]
def oSpawn : Tx := [115, 112, 97, 119, 110]
def oJoin : Tx := [106, 111, 105, 110]
def oJump : Tx := [106, 117, 109, 112]
def oJeq : Tx := [106, 101, 113]
def oJlt : Tx := [106, 108, 116]
def oCheck : Tx := [99, 104, 101, 99, 107]
def oEnd : Tx := [101, 110, 100]
structure TS where
 ph : Int
 pc : Nat
 regs : List Int
structure MS where
 vars : List Int
 flags : List Int
 locks : List Int
 thr : List TS
structure Ev where
 t : Int
 k : Int
 o : Int
 v : Int
def ts0 : TS := ⟨0, 0, [0, 0, 0, 0]⟩
def endI : In7 := newIns oEnd
def nextI (C : List (List In7)) (t : Nat) (th : TS) : In7 := (C.getD t []).getD th.pc endI
def vlM (th : TS) (r : Bool) (n : Int) : Int := if r then th.regs.getD n.toNat 0 else n
def MS.th (s : MS) (t : Nat) : TS := s.thr.getD t ts0
def MS.setT (s : MS) (t : Nat) (th : TS) : MS := { s with thr := s.thr.set t th }
def overM (th : TS) : Bool := th.ph == 2 || th.ph == 3
def waitsM (s : MS) (x : In7) : Bool :=
 if x.op = oLock then decide (s.locks.getD x.x.toNat 0 ≠ -1) else if x.op = oJoin then !overM (s.th x.x.toNat) else if x.op = oSpawn then decide ((s.th x.x.toNat).ph ≠ 0) else false
def canM (C : List (List In7)) (s : MS) (t : Int) : Int :=
 if t < 0 ∨ (s.thr.length : Int) ≤ t ∨ (s.th t.toNat).ph = 0 then 5 else if overM (s.th t.toNat) = true then 6 else if waitsM s (nextI C t.toNat (s.th t.toNat)) = true then 7 else 0
def stpM (k : Bool) (s : MS) (t : Nat) (x : In7) : MS × Ev :=
 let th := s.th t
 let a := vlM th x.aR x.aN
 let b := vlM th x.bR x.bN
 let to := th.pc + 1
 let ov := if k then th.pc else th.pc + 1
 let n := x.x.toNat
 let reg := fun v => s.setT t { th with pc := to, regs := th.regs.set x.r.toNat v }
 if x.op = oSet then (reg a, ⟨t, 0, 0, 0⟩)
 else if x.op = oAdd then (reg ((a + b) % 1000), ⟨t, 0, 0, 0⟩)
 else if x.op = oSub then (reg ((a - b + 1000) % 1000), ⟨t, 0, 0, 0⟩)
 else if x.op = oMul then (reg (a * b % 1000), ⟨t, 0, 0, 0⟩)
 else if x.op = oLoad then (reg (s.vars.getD n 0), ⟨t, 1, x.x, s.vars.getD n 0⟩)
 else if x.op = oStore then ({ s.setT t { th with pc := to } with vars := s.vars.set n a }, ⟨t, 2, x.x, a⟩)
 else if x.op = oGet then (reg (s.flags.getD n 0), ⟨t, 3, x.x, s.flags.getD n 0⟩)
 else if x.op = oPut then ({ s.setT t { th with pc := to } with flags := s.flags.set n a }, ⟨t, 4, x.x, a⟩)
 else if x.op = oLock then ({ s.setT t { th with pc := to } with locks := s.locks.set n t }, ⟨t, 5, x.x, 0⟩)
 else if x.op = oUnlock then (if s.locks.getD n 0 ≠ t then (s.setT t { th with ph := 3, pc := ov }, ⟨t, 9, 0, 0⟩) else ({ s.setT t { th with pc := to } with locks := s.locks.set n (-1) }, ⟨t, 6, x.x, 0⟩))
 else if x.op = oSpawn then ((s.setT t { th with pc := to }).setT n { (s.setT t { th with pc := to }).th n with ph := 1 }, ⟨t, 7, x.x, 0⟩)
 else if x.op = oJoin then (s.setT t { th with pc := to }, ⟨t, 8, x.x, 0⟩)
 else if x.op = oJump then (s.setT t { th with pc := n }, ⟨t, 0, 0, 0⟩)
 else if x.op = oJeq then (s.setT t { th with pc := if a = b then n else to }, ⟨t, 0, 0, 0⟩)
 else if x.op = oJlt then (s.setT t { th with pc := if a < b then n else to }, ⟨t, 0, 0, 0⟩)
 else if x.op = oCheck then (if a ≠ b then (s.setT t { th with ph := 3, pc := ov }, ⟨t, 9, 0, 0⟩) else (s.setT t { th with pc := to }, ⟨t, 0, 0, 0⟩))
 else (s.setT t { th with ph := 2, pc := ov }, ⟨t, 10, 0, 0⟩)
def newM (nv nf nl nt : Nat) : MS := ⟨List.replicate nv 0, List.replicate nf 0, List.replicate nl (-1), (List.range nt).map fun t => if t = 0 then { ts0 with ph := 1 } else ts0⟩
def val3 (n : Int) : Prop := 0 ≤ n ∧ n < 1000
structure TOk (n : Nat) (th : TS) : Prop where
 ph : 0 ≤ th.ph ∧ th.ph ≤ 3
 pc : th.ph ≤ 1 → th.pc ≤ n
 pc2 : th.pc ≤ n + 1
 rl : th.regs.length = 4
 rv : ∀ v, v ∈ th.regs → val3 v
structure MOk (nv nf nl : Nat) (C : List (List In7)) (s : MS) : Prop where
 vl : s.vars.length = nv
 fl : s.flags.length = nf
 ll : s.locks.length = nl
 tl : s.thr.length = C.length
 vv : ∀ v, v ∈ s.vars → val3 v
 fv : ∀ v, v ∈ s.flags → val3 v
 lv : ∀ v, v ∈ s.locks → -1 ≤ v ∧ v < C.length
 th : ∀ t, t < C.length → TOk (C.getD t []).length (s.th t)
theorem newM_ok (nv nf nl : Nat) (C : List (List In7)) : MOk nv nf nl C (newM nv nf nl C.length) := by
 refine ⟨by simp [newM], by simp [newM], by simp [newM], by simp [newM], fun v hv => ?_, fun v hv => ?_, fun v hv => ?_, fun t ht => ?_⟩
 ·obtain ⟨-, rfl⟩ := List.mem_replicate.1 hv
  exact ⟨by omega, by omega⟩
 ·obtain ⟨-, rfl⟩ := List.mem_replicate.1 hv
  exact ⟨by omega, by omega⟩
 ·obtain ⟨-, rfl⟩ := List.mem_replicate.1 hv
  exact ⟨by omega, by omega⟩
 ·have e : (newM nv nf nl C.length).th t = if t = 0 then { ts0 with ph := 1 } else ts0 := by
   unfold MS.th newM
   rw [List.getD_eq_getElem?_getD, List.getElem?_map, List.getElem?_range ht]; rfl
  rw [e]
  have hr : ∀ v, v ∈ ts0.regs → val3 v := by
   intro v hv
   simp [ts0] at hv
   subst hv
   exact ⟨by omega, by omega⟩
  split
  ·exact ⟨⟨by decide, by decide⟩, fun _ => Nat.zero_le _, Nat.zero_le _, rfl, hr⟩
  ·exact ⟨⟨by decide, by decide⟩, fun _ => Nat.zero_le _, Nat.zero_le _, rfl, hr⟩
theorem getD_mem {α : Type} {l : List α} {k : Nat} {d : α} (h : k < l.length) : l.getD k d ∈ l := by
 rw [List.getD_eq_getElem?_getD, List.getElem?_eq_getElem h]
 exact List.getElem_mem h
theorem set_all {α : Type} {l : List α} {p : α → Prop} (h : ∀ v, v ∈ l → p v) {k : Nat} {x : α} (hx : p x) : ∀ v, v ∈ l.set k x → p v := fun v hv => by
 rcases List.mem_or_eq_of_mem_set hv with hv | rfl
 ·exact h v hv
 ·exact hx
theorem th_set (s : MS) (t u : Nat) (th : TS) (ht : t < s.thr.length) : (s.setT t th).th u = if u = t then th else s.th u := by
 unfold MS.th MS.setT
 rw [List.getD_eq_getElem?_getD, List.getElem?_set, List.getD_eq_getElem?_getD]
 by_cases e : u = t
 ·subst e
  rw [if_pos rfl, if_pos ht, if_pos rfl]; rfl
 ·rw [if_neg (fun e' => e e'.symm), if_neg e]
section
variable {nv nf nl : Nat} {C : List (List In7)} {s : MS}
theorem MOk.setT (h : MOk nv nf nl C s) {t : Nat} (ht : t < C.length) {th : TS} (hth : TOk (C.getD t []).length th) : MOk nv nf nl C (s.setT t th) := by
 refine ⟨h.vl, h.fl, h.ll, by show (s.thr.set t th).length = _; rw [List.length_set]; exact h.tl, h.vv, h.fv, h.lv, fun u hu => ?_⟩
 rw [th_set s t u th (by rw [h.tl]; exact ht)]
 split
 ·rename_i e; subst e; exact hth
 ·exact h.th u hu
theorem vlM_ok {n : Nat} {th : TS} (h : TOk n th) {r : Bool} {m : Int} (ha : argB4 r m) : val3 (vlM th r m) := by
 unfold vlM
 split
 ·rename_i e
  have := ha.2.2 e
  have h0 := ha.1
  exact h.rv _ (getD_mem (by rw [h.rl]; omega))
 ·exact ⟨ha.1, ha.2.1⟩
theorem mod_ok (a : Int) : val3 (a % 1000) := ⟨by omega, by omega⟩
theorem step_ok (k : Bool) (h : MOk nv nf nl C s) {t : Nat} (ht : t < C.length) (hph : (s.th t).ph = 1) {x : In7} (hw : waitsM s x = false) (hx : x = endI ∨ (InsX nv nf nl C.length (C.getD t []).length x ∧ (s.th t).pc < (C.getD t []).length)) : MOk nv nf nl C (stpM k s t x).1 := by
 have hT := h.th t ht
 have hpc := hT.pc (by omega)
 have hov : (if k then (s.th t).pc else (s.th t).pc + 1) ≤ (C.getD t []).length + 1 := by split <;> omega
 have fin : ∀ p : Int, p = 2 ∨ p = 3 → TOk (C.getD t []).length { s.th t with ph := p, pc := if k then (s.th t).pc else (s.th t).pc + 1 } := fun p hp =>
  ⟨by show 0 ≤ p ∧ p ≤ 3; omega, fun e => by have e : p ≤ 1 := e; omega, hov, hT.rl, hT.rv⟩
 rcases hx with rfl | ⟨hx, hlt⟩
 ·exact h.setT ht (fin 2 (.inl rfl))
 ·have stay : ∀ n, n ≤ (C.getD t []).length → TOk (C.getD t []).length { s.th t with pc := n } := fun n hn => ⟨hT.ph, fun _ => hn, by show n ≤ _; omega, hT.rl, hT.rv⟩
  have reg : ∀ v, val3 v → TOk (C.getD t []).length { s.th t with pc := (s.th t).pc + 1, regs := (s.th t).regs.set x.r.toNat v } := fun v hv =>
   ⟨hT.ph, fun _ => by show _ + 1 ≤ _; omega, by show _ + 1 ≤ _; omega, by show (List.set _ _ _).length = 4; rw [List.length_set]; exact hT.rl, set_all hT.rv hv⟩
  have go := h.setT ht (stay ((s.th t).pc + 1) (by omega))
  have ha := vlM_ok hT hx.sm.2.1
  have hb := vlM_ok hT hx.sm.2.2
  obtain ⟨q, hq, hop, x1, x2, x3, x4, x5⟩ := hx.ex
  have hx0 := hx.x0
  simp only [shapeT, List.mem_cons, List.not_mem_nil, or_false] at hq
  rcases hq with rfl | rfl | rfl | rfl | rfl | rfl | rfl | rfl | rfl | rfl | rfl | rfl | rfl | rfl | rfl | rfl | rfl <;> unfold stpM <;> rw [hop]
  ·exact h.setT ht (reg _ ha)
  ·exact h.setT ht (reg _ (mod_ok _))
  ·exact h.setT ht (reg _ (mod_ok _))
  ·exact h.setT ht (reg _ (mod_ok _))
  ·exact h.setT ht (reg _ (h.vv _ (getD_mem (by rw [h.vl]; have := x1 (by decide); omega))))
  ·exact ⟨by show (List.set _ _ _).length = _; rw [List.length_set]; exact h.vl, go.fl, go.ll, go.tl, set_all h.vv ha, go.fv, go.lv, go.th⟩
  ·exact h.setT ht (reg _ (h.fv _ (getD_mem (by rw [h.fl]; have := x2 (by decide); omega))))
  ·exact ⟨go.vl, by show (List.set _ _ _).length = _; rw [List.length_set]; exact h.fl, go.ll, go.tl, go.vv, set_all h.fv ha, go.lv, go.th⟩
  ·exact ⟨go.vl, go.fl, by show (List.set _ _ _).length = _; rw [List.length_set]; exact h.ll, go.tl, go.vv, go.fv, set_all h.lv ⟨by omega, by omega⟩, go.th⟩
  ·show MOk nv nf nl C (Prod.fst (if s.locks.getD x.x.toNat 0 ≠ t then _ else _ : MS × Ev))
   split
   ·exact h.setT ht (fin 3 (.inr rfl))
   ·exact ⟨go.vl, go.fl, by show (List.set _ _ _).length = _; rw [List.length_set]; exact h.ll, go.tl, go.vv, go.fv, set_all h.lv ⟨by omega, by omega⟩, go.th⟩
  ·have hn : x.x.toNat < C.length := by have := x4 (by decide); omega
   have hU := go.th _ hn
   refine go.setT hn ⟨⟨by show (0 : Int) ≤ 1; decide, by show (1 : Int) ≤ 3; decide⟩, fun _ => hU.pc ?_, hU.pc2, hU.rl, hU.rv⟩
   have hz : (s.th x.x.toNat).ph = 0 := by
    unfold waitsM at hw
    rw [hop] at hw
    have hw : decide ((s.th x.x.toNat).ph ≠ 0) = false := hw
    simpa using hw
   rw [th_set s t _ _ (by rw [h.tl]; exact ht)]
   split
   ·show (s.th t).ph ≤ 1; omega
   ·omega
  ·exact go
  ·exact h.setT ht (stay _ (by have := x5 (by decide); omega))
  ·exact h.setT ht (stay _ (by split; · have := x5 (by decide); omega
                               ·omega))
  ·exact h.setT ht (stay _ (by split; · have := x5 (by decide); omega
                               ·omega))
  ·show MOk nv nf nl C (Prod.fst (if vlM _ _ _ ≠ vlM _ _ _ then _ else _ : MS × Ev))
   split
   ·exact h.setT ht (fin 3 (.inr rfl))
   ·exact go
  ·exact h.setT ht (fin 2 (.inl rfl))
end
def RowF (w : World) (b T n : Nat) (f : Nat → Value) : Prop := ∃ cs : Array Value, w.heap[b]? = some (.cells cs T) ∧ cs.size = n ∧ ∀ k, k < n → cs[k]? = some (f k)
structure KeepS (S : Nat → Prop) (w w' : World) : Prop where
 os : w'.os = w.os
 tape : w'.tape = w.tape
 output : w'.output = w.output
 size : w.heap.size ≤ w'.heap.size
 block : ∀ k, k < w.heap.size → ¬ S k → w'.heap[k]? = w.heap[k]?
section
variable {w w' w'' : World} {b T n : Nat} {f g : Nat → Value} {S S' : Nat → Prop}
theorem RowF.lt (h : RowF w b T n f) : b < w.heap.size := by
 obtain ⟨cs, h1, -, -⟩ := h
 exact (Array.getElem?_eq_some_iff.1 h1).1
theorem RowF.cell (h : RowF w b T n f) {k : Nat} (hk : k < n) : w.cell? ⟨b, k, none⟩ = some (f k) := by
 obtain ⟨cs, h1, h2, h3⟩ := h
 rw [cell_of_row w b k cs T (0, 0) h1, h3 k hk]
theorem RowF.frozen (h : RowF w b T n f) (k : Nat) : w.frozen? ⟨b, k, none⟩ = false := by
 obtain ⟨cs, h1, h2, h3⟩ := h
 simp [World.frozen?, h1]
theorem RowF.same (h : RowF w b T n f) (e : w'.heap[b]? = w.heap[b]?) : RowF w' b T n f := by
 obtain ⟨cs, h1, h2⟩ := h
 exact ⟨cs, e.trans h1, h2⟩
theorem RowF.congr (h : RowF w b T n f) (e : ∀ k, k < n → f k = g k) : RowF w b T n g := by
 obtain ⟨cs, h1, h2, h3⟩ := h
 exact ⟨cs, h1, h2, fun k hk => by rw [h3 k hk, e k hk]⟩
theorem RowF.set (h : RowF w b T n f) (k : Nat) (v : Value) : RowF (w.setCell ⟨b, k, none⟩ v) b T n (fun j => if j = k then v else f j) := by
 obtain ⟨cs, h1, h2, h3⟩ := h
 refine ⟨cs.setIfInBounds k v, heap_setCell_same w b k cs T v h1, by simp [h2], fun j hj => ?_⟩
 rw [Array.getElem?_setIfInBounds]
 by_cases e : k = j
 ·subst e
  rw [if_pos rfl, if_pos (by omega)]
  show some v = some (if k = k then v else f k)
  rw [if_pos rfl]
 ·rw [if_neg e, h3 j hj]
  show some (f j) = some (if j = k then v else f j)
  rw [if_neg (fun e' : j = k => e e'.symm)]
theorem RowF.other (h : RowF w b T n f) {a : Addr} (ha : b ≠ a.block) (v : Value) : RowF (w.setCell a v) b T n f := h.same (heap_setCell_other w a b v ha)
theorem RowF.below (h : RowF w b T n f) (hb : Below w.heap.size w w') : RowF w' b T n f := h.same (hb.block b h.lt)
theorem RowF.keep (h : RowF w b T n f) (hk : KeepS S w w') (hb : ¬ S b) : RowF w' b T n f := h.same (hk.block b h.lt hb)
theorem RowF.new (w : World) (cs : Array Value) (T : Nat) (hf : ∀ k, k < cs.size → cs[k]? = some (f k)) : RowF (w.alloc (.cells cs T)) w.heap.size T cs.size f := ⟨cs, by show (w.heap.push _)[w.heap.size]? = _; simp, rfl, hf⟩
theorem KeepS.refl (w : World) : KeepS S w w := ⟨rfl, rfl, rfl, Nat.le_refl _, fun _ _ _ => rfl⟩
theorem KeepS.trans (h : KeepS S w w') (h' : KeepS S w' w'') : KeepS S w w'' := ⟨h'.os.trans h.os, h'.tape.trans h.tape, h'.output.trans h.output, Nat.le_trans h.size h'.size, fun k hk hs => (h'.block k (Nat.lt_of_lt_of_le hk h.size) hs).trans (h.block k hk hs)⟩
theorem KeepS.mono (h : KeepS S w w') (hS : ∀ k, k < w.heap.size → S k → S' k) : KeepS S' w w' := ⟨h.os, h.tape, h.output, h.size, fun k hk hs => h.block k hk (fun e => hs (hS k hk e))⟩
theorem KeepS.set (h : KeepS S w w') {a : Addr} (ha : S a.block ∨ w.heap.size ≤ a.block) (v : Value) : KeepS S w (w'.setCell a v) :=
 ⟨h.os, h.tape, h.output, by rw [World.size_setCell]; exact h.size, fun k hk hs => (heap_setCell_other w' a k v (fun e => by subst e; rcases ha with ha | ha; exact hs ha; omega)).trans (h.block k hk hs)⟩
theorem KeepS.ofBelow (h : Below w.heap.size w w') : KeepS S w w' := ⟨h.os, h.tape, h.output, h.size, fun k hk _ => h.block k hk⟩
theorem KeepS.alloc (h : KeepS S w w') (o : Obj) : KeepS S w (w'.alloc o) := h.trans (KeepS.ofBelow ((Below.refl _ _).alloc (Nat.le_refl _) o))
theorem KeepS.drew (h : KeepS S w w') : KeepS S w w'.drew := ⟨h.os, h.tape, h.output, h.size, h.block⟩
theorem setCells_row (vs : List Value) (o : Nat) : ∀ {w : World} {f : Nat → Value}, RowF w b T n f → o + vs.length ≤ n → RowF (w.setCells b o vs) b T n (fun j => if o ≤ j ∧ j < o + vs.length then vs.getD (j - o) undef else f j) := by
 induction vs generalizing o with
 | nil =>
  intro w f h _
  exact h.congr fun k _ => by
   rw [if_neg]
   simp only [List.length_nil]; omega
 | cons v r ih =>
  intro w f h hl
  simp only [List.length_cons] at hl
  have := ih (o + 1) (h.set o v) (by omega)
  show RowF ((w.setCell ⟨b, o, none⟩ v).setCells b (o + 1) r) b T n _
  refine this.congr fun k hk => ?_
  simp only [List.length_cons]
  by_cases e : k = o
  ·subst e
   rw [if_neg (by omega), if_pos rfl, if_pos ⟨Nat.le_refl _, by omega⟩, Nat.sub_self]; rfl
  ·by_cases e2 : o + 1 ≤ k ∧ k < o + 1 + r.length
   ·rw [if_pos e2, if_pos (by omega), show k - o = (k - (o + 1)) + 1 by omega]; rfl
   ·rw [if_neg e2, if_neg e, if_neg (by omega)]
theorem setCells_keep (vs : List Value) (o : Nat) : ∀ {w' : World}, KeepS S w w' → S b ∨ w.heap.size ≤ b → KeepS S w (w'.setCells b o vs) := by
 induction vs generalizing o with
 | nil => exact fun h _ => h
 | cons v r ih => exact fun h hb => ih (o + 1) (h.set hb v) hb
theorem setCells_other (vs : List Value) (o : Nat) {k : Nat} (hk : k ≠ b) : ∀ {w : World}, (w.setCells b o vs).heap[k]? = w.heap[k]? := by
 induction vs generalizing o with
 | nil => exact rfl
 | cons v r ih => exact (ih (o + 1)).trans (heap_setCell_other _ _ k v hk)
end
section
variable {P : Program}
theorem add_off (b o j : Nat) : (⟨b, o, none⟩ : Addr).add j = ⟨b, o + j, none⟩ := by unfold Addr.add; split <;> simp_all
theorem run_loadVar_sub (w : World) (b o n ty : Nat) (f : Nat → Value) (d : TypeDesc) (hc : ∀ j, j < n → w.cell? ⟨b, o + j, none⟩ = some (f j)) (hu : P.underlying ty = some d) (hd : (match d with | .struct _ | .array _ _ => true | _ => false) = true) (hi : (P.info? ty).map (·.size) = some n) :
 (loadVar ty ⟨b, o, none⟩).run P w = .ok (.agg ((List.range n).map f).toArray) w := by
 have hl := run_loadCells (P := P) w ⟨b, o, none⟩ n f (fun j hj => by rw [add_off]; exact hc j hj)
 cases hq : P.info? ty with
 | none => simp [hq] at hi
 | some i =>
  have hs : i.size = n := by simpa [hq] using hi
  have hagg : (isAgg ty).run P w = .ok true w := by
   unfold isAgg
   rw [Sem.run_bind, run_underlying hu w]
   cases d <;> simp_all
  simp [loadVar, Sem.run_bind, hagg, sizeOf, typeInfo, hq, hs, hl]
theorem run_storeVar_sub (w : World) (b o ty : Nat) (vs : Array Value) (hc : ∀ j, j < vs.size → (w.cell? ⟨b, o + j, none⟩).isSome = true) (hf : ∀ j, j < vs.size → w.frozen? ⟨b, o + j, none⟩ = false) (hi : (P.info? ty).map (·.size) = some vs.size) (h1 : ∀ v ∈ vs.toList, v.oneCell' = true) :
 (storeVar ty ⟨b, o, none⟩ (.agg vs)).run P w = .ok () (w.setCells b o vs.toList) := by
 have := run_storeCells_cells (P := P) b o vs.toList 0 w (fun j hj => by rw [Nat.add_zero]; exact hc j (by simpa using hj)) (fun j hj => by rw [Nat.add_zero]; exact hf j (by simpa using hj)) h1
 rw [Nat.add_zero] at this
 cases hq : P.info? ty with
 | none => simp [hq] at hi
 | some i =>
  have hs : vs.size = i.size := by simp [hq] at hi; omega
  simp [storeVar, sizeOf, typeInfo, hq, Value.cells, hs, this]
theorem wpList_load_sub {ops : Array Oper} {rest : List Oper} {o : Oper} {a : Act} {w : World} {Q : Exit → Act → World → Prop} (hgd : o.guard = none) (ty : TypeId) (x : Operand) (ho : o.op = .load ty x)
 (b off n : Nat) (hx : a.eval x = .pointer (some ⟨b, off, none⟩)) (f : Nat → Value) (d : TypeDesc) (hc : ∀ j, j < n → w.cell? ⟨b, off + j, none⟩ = some (f j)) (hu : P.underlying ty = some d) (hd : (match d with | .struct _ | .array _ _ => true | _ => false) = true) (hi : (P.info? ty).map (·.size) = some n)
 (h : wpList P ops Q rest (a.put o.dst (.agg ((List.range n).map f).toArray)) w) : wpList P ops Q (o :: rest) a w :=
 wpList_plain hgd fun _ hK => by
  unfold Oper.wp execOp
  simp only [ho, hx, Instr.loadAt, Instr.sureAddr, Sem.run_bind, Sem.run_pure, Result.andThen_ok, run_loadVar_sub w b off n ty f d hc hu hd hi]
  exact hK _ _ h
theorem wpList_store_sub {ops : Array Oper} {rest : List Oper} {o : Oper} {a : Act} {w : World} {Q : Exit → Act → World → Prop} (hgd : o.guard = none) (ty : TypeId) (x y : Operand) (ho : o.op = .store ty x y)
 (b off : Nat) (vs : Array Value) (hx : a.eval x = .pointer (some ⟨b, off, none⟩)) (hy : a.eval y = .agg vs) (hc : ∀ j, j < vs.size → (w.cell? ⟨b, off + j, none⟩).isSome = true) (hf : ∀ j, j < vs.size → w.frozen? ⟨b, off + j, none⟩ = false) (hi : (P.info? ty).map (·.size) = some vs.size) (h1 : ∀ v ∈ vs.toList, v.oneCell' = true)
 (h : wpList P ops Q rest (a.put o.dst undef) (w.setCells b off vs.toList)) : wpList P ops Q (o :: rest) a w :=
 wpList_plain hgd fun _ hK => by
  unfold Oper.wp execOp
  simp only [ho, hx, hy, Instr.storeAt, Instr.sureAddr, Sem.run_bind, Sem.run_pure, Result.andThen_ok, run_storeVar_sub w b off ty vs hc hf hi h1]
  exact hK _ _ h
end
structure PD where
 vs : List Tx
 fs : List Tx
 ls : List Tx
 ts : List Tx
 C : List (List In7)
def deedT : List (Tx × Nat) := [(oSet, 49), (oAdd, 52), (oSub, 53), (oMul, 54), (oLoad, 55), (oStore, 57), (oGet, 59), (oPut, 60), (oLock, 61), (oUnlock, 62), (oSpawn, 63), (oJoin, 64), (oJump, 66), (oJeq, 68), (oJlt, 69), (oCheck, 70), (oEnd, 71)]
def doV (op : Tx) : Value := match deedT.find? fun p => p.1 = op with
 | some p => .func (.func p.2) #[] #[]
 | none => .nilFunc
def insF (i : In7) (j : Nat) : Value := if j = 0 then .string (bs i.op) else if j = 1 then .int .i64 i.r else if j = 2 then .bool i.aR else if j = 3 then .int .i64 i.aN else if j = 4 then .bool i.bR else if j = 5 then .int .i64 i.bN else .int .i64 i.x
def deedV (i : In7) (j : Nat) : Value := if j < 7 then insF i j else doV i.op
def deedF (c : Option (List In7)) (k j : Nat) : Value := match c with
 | none => deedV (newIns []) j
 | some c => if k < c.length then deedV (c.getD k endI) j else if k = c.length then deedV endI j else deedV (newIns []) j
def thrF (nm : Tx) (c : Option (List In7)) (th : TS) (j : Nat) : Value := if j = 0 then .string (bs nm) else if j = 1 then .int .i64 th.ph else if j = 2 then .int .i64 th.pc else if j < 7 then .int .i64 (th.regs.getD (j - 3) 0) else deedF c ((j - 7) / 8) ((j - 7) % 8)
def cellsF (ns : List Tx) (l : List Int) (k : Nat) : Value := if k = 8 then .int .i64 ns.length else if k % 2 = 0 then .string (bs (ns.getD (k / 2) [])) else .int .i64 (l.getD (k / 2) 0)
def mcF (p : PD) (s : MS) (k : Nat) : Value := if k < 9 then cellsF p.vs s.vars k else if k < 18 then cellsF p.fs s.flags (k - 9) else if k < 27 then cellsF p.ls s.locks (k - 18) else if k < 855 then thrF (p.ts.getD ((k - 27) / 207) []) (p.C[(k - 27) / 207]?) (s.th ((k - 27) / 207)) ((k - 27) % 207) else .int .i64 p.ts.length
section
variable (p : PD) (s : MS)
theorem mc_var {i : Nat} (h : i < 4) : mcF p s (i * 2 + 1) = .int .i64 (s.vars.getD i 0) := by
 unfold mcF cellsF
 rw [if_pos (by omega), if_neg (by omega), if_neg (by omega), show (i * 2 + 1) / 2 = i by omega]
theorem mc_flag {i : Nat} (h : i < 4) : mcF p s (9 + (i * 2 + 1)) = .int .i64 (s.flags.getD i 0) := by
 unfold mcF cellsF
 rw [if_neg (by omega), if_pos (by omega), if_neg (by omega), if_neg (by omega), show (9 + (i * 2 + 1) - 9) / 2 = i by omega]
theorem mc_lock {i : Nat} (h : i < 4) : mcF p s (18 + (i * 2 + 1)) = .int .i64 (s.locks.getD i 0) := by
 unfold mcF cellsF
 rw [if_neg (by omega), if_neg (by omega), if_pos (by omega), if_neg (by omega), if_neg (by omega), show (18 + (i * 2 + 1) - 18) / 2 = i by omega]
theorem mc_thr {t j : Nat} (h : t < 4) (hj : j < 207) : mcF p s (27 + t * 207 + j) = thrF (p.ts.getD t []) (p.C[t]?) (s.th t) j := by
 unfold mcF
 rw [if_neg (by omega), if_neg (by omega), if_neg (by omega), if_pos (by omega), show (27 + t * 207 + j - 27) / 207 = t by omega, show (27 + t * 207 + j - 27) % 207 = j by omega]
theorem mc_cnt : mcF p s 855 = .int .i64 p.ts.length := rfl
variable {p s}
theorem mc_setVar {i : Nat} (h : i < 4) (hi : i < s.vars.length) (v : Int) {k : Nat} : (if k = i * 2 + 1 then Value.int .i64 v else mcF p s k) = mcF p { s with vars := s.vars.set i v } k := by
 by_cases e : k = i * 2 + 1
 ·subst e
  rw [if_pos rfl, mc_var _ _ h]
  show _ = Value.int .i64 ((s.vars.set i v).getD i 0)
  rw [List.getD_eq_getElem?_getD, List.getElem?_set, if_pos rfl, if_pos hi]; rfl
 ·rw [if_neg e]
  unfold mcF
  by_cases h9 : k < 9
  ·rw [if_pos h9, if_pos h9]
   unfold cellsF
   split
   ·rfl
   ·split
    ·rfl
    ·show _ = Value.int .i64 ((s.vars.set i v).getD (k / 2) 0)
     rw [List.getD_eq_getElem?_getD, List.getD_eq_getElem?_getD, List.getElem?_set, if_neg (by omega)]
  ·rw [if_neg h9, if_neg h9]; rfl
theorem mc_setFlag {i : Nat} (h : i < 4) (hi : i < s.flags.length) (v : Int) {k : Nat} : (if k = 9 + (i * 2 + 1) then Value.int .i64 v else mcF p s k) = mcF p { s with flags := s.flags.set i v } k := by
 by_cases e : k = 9 + (i * 2 + 1)
 ·subst e
  rw [if_pos rfl, mc_flag _ _ h]
  show _ = Value.int .i64 ((s.flags.set i v).getD i 0)
  rw [List.getD_eq_getElem?_getD, List.getElem?_set, if_pos rfl, if_pos hi]; rfl
 ·rw [if_neg e]
  unfold mcF
  by_cases h9 : k < 9
  ·rw [if_pos h9, if_pos h9]
  ·rw [if_neg h9, if_neg h9]
   by_cases h18 : k < 18
   ·rw [if_pos h18, if_pos h18]
    unfold cellsF
    split
    ·rfl
    ·split
     ·rfl
     ·show _ = Value.int .i64 ((s.flags.set i v).getD ((k - 9) / 2) 0)
      rw [List.getD_eq_getElem?_getD, List.getD_eq_getElem?_getD, List.getElem?_set, if_neg (by omega)]
   ·rw [if_neg h18, if_neg h18]; rfl
theorem mc_setLock {i : Nat} (h : i < 4) (hi : i < s.locks.length) (v : Int) {k : Nat} : (if k = 18 + (i * 2 + 1) then Value.int .i64 v else mcF p s k) = mcF p { s with locks := s.locks.set i v } k := by
 by_cases e : k = 18 + (i * 2 + 1)
 ·subst e
  rw [if_pos rfl, mc_lock _ _ h]
  show _ = Value.int .i64 ((s.locks.set i v).getD i 0)
  rw [List.getD_eq_getElem?_getD, List.getElem?_set, if_pos rfl, if_pos hi]; rfl
 ·rw [if_neg e]
  unfold mcF
  by_cases h9 : k < 9
  ·rw [if_pos h9, if_pos h9]
  ·rw [if_neg h9, if_neg h9]
   by_cases h18 : k < 18
   ·rw [if_pos h18, if_pos h18]
   ·rw [if_neg h18, if_neg h18]
    by_cases h27 : k < 27
    ·rw [if_pos h27, if_pos h27]
     unfold cellsF
     split
     ·rfl
     ·split
      ·rfl
      ·show _ = Value.int .i64 ((s.locks.set i v).getD ((k - 18) / 2) 0)
       rw [List.getD_eq_getElem?_getD, List.getD_eq_getElem?_getD, List.getElem?_set, if_neg (by omega)]
    ·rw [if_neg h27, if_neg h27]; rfl
theorem mc_setThr {t j0 : Nat} (h : t < 4) (ht : t < s.thr.length) (hj0 : j0 < 207) {th' : TS} {v : Value} (he : ∀ j, j < 207 → thrF (p.ts.getD t []) (p.C[t]?) th' j = if j = j0 then v else thrF (p.ts.getD t []) (p.C[t]?) (s.th t) j) {k : Nat} : (if k = 27 + t * 207 + j0 then v else mcF p s k) = mcF p (s.setT t th') k := by
 unfold mcF
 by_cases h9 : k < 9
 ·rw [if_neg (by omega), if_pos h9, if_pos h9]; rfl
 ·rw [if_neg h9, if_neg h9]
  by_cases h18 : k < 18
  ·rw [if_neg (by omega), if_pos h18, if_pos h18]; rfl
  ·rw [if_neg h18, if_neg h18]
   by_cases h27 : k < 27
   ·rw [if_neg (by omega), if_pos h27, if_pos h27]; rfl
   ·rw [if_neg h27, if_neg h27]
    by_cases h8 : k < 855
    ·rw [if_pos h8, if_pos h8, th_set s t _ th' ht]
     have hm : (k - 27) % 207 < 207 := Nat.mod_lt _ (by omega)
     by_cases e : (k - 27) / 207 = t
     ·rw [if_pos e, e, he _ hm]
      by_cases e2 : (k - 27) % 207 = j0
      ·rw [if_pos (by omega), if_pos e2]
      ·rw [if_neg (by omega), if_neg e2]
     ·rw [if_neg e, if_neg]
      intro e2
      exact e (by omega)
    ·rw [if_neg (by omega), if_neg h8, if_neg h8]
theorem mc_setPh {t : Nat} (h : t < 4) (ht : t < s.thr.length) (v : Int) {k : Nat} : (if k = 27 + t * 207 + 1 then Value.int .i64 v else mcF p s k) = mcF p (s.setT t { s.th t with ph := v }) k := by
 refine mc_setThr h ht (by omega) fun j _ => ?_
 unfold thrF
 by_cases e : j = 1
 ·subst e; rfl
 ·rw [if_neg e, if_neg e, if_neg e]
theorem mc_setPc {t : Nat} (h : t < 4) (ht : t < s.thr.length) (v : Nat) {k : Nat} : (if k = 27 + t * 207 + 2 then Value.int .i64 v else mcF p s k) = mcF p (s.setT t { s.th t with pc := v }) k := by
 refine mc_setThr h ht (by omega) fun j _ => ?_
 unfold thrF
 by_cases e : j = 2
 ·subst e; rfl
 ·rw [if_neg e, if_neg e, if_neg e]
theorem mc_setReg {t n : Nat} (h : t < 4) (ht : t < s.thr.length) (hn : n < 4) (hr : (s.th t).regs.length = 4) (v : Int) {k : Nat} : (if k = 27 + t * 207 + (3 + n) then Value.int .i64 v else mcF p s k) = mcF p (s.setT t { s.th t with regs := (s.th t).regs.set n v }) k := by
 refine mc_setThr h ht (by omega) fun j _ => ?_
 unfold thrF
 by_cases e : j = 3 + n
 ·subst e
  rw [if_neg (by omega), if_neg (by omega), if_neg (by omega), if_pos (by omega), if_pos rfl]
  show Value.int .i64 (((s.th t).regs.set n v).getD (3 + n - 3) 0) = _
  rw [List.getD_eq_getElem?_getD, List.getElem?_set, if_pos (by omega), if_pos (by omega)]; rfl
 ·rw [if_neg e]
  split
  ·rfl
  ·split
   ·rfl
   ·split
    ·rfl
    ·split
     ·show Value.int .i64 (((s.th t).regs.set n v).getD (j - 3) 0) = _
      rw [List.getD_eq_getElem?_getD, List.getElem?_set, if_neg (by omega), List.getD_eq_getElem?_getD]
     ·rfl
theorem mc_deed {t j : Nat} (h : t < 4) (hC : t < p.C.length) (hpc : (s.th t).pc ≤ (p.C.getD t []).length) (hl : (p.C.getD t []).length ≤ 24) (hj : j < 8) : mcF p s (27 + t * 207 + (7 + ((s.th t).pc * 8 + j))) = deedV (nextI p.C t (s.th t)) j := by
 rw [mc_thr p s h (by omega)]
 unfold thrF
 rw [if_neg (by omega), if_neg (by omega), if_neg (by omega), if_neg (by omega), show (7 + ((s.th t).pc * 8 + j) - 7) / 8 = (s.th t).pc by omega, show (7 + ((s.th t).pc * 8 + j) - 7) % 8 = j by omega]
 have hc : p.C[t]? = some (p.C.getD t []) := by rw [List.getD_eq_getElem?_getD, List.getElem?_eq_getElem hC]; rfl
 rw [hc]
 show (if (s.th t).pc < (p.C.getD t []).length then _ else if (s.th t).pc = (p.C.getD t []).length then _ else _) = _
 unfold nextI
 by_cases e : (s.th t).pc < (p.C.getD t []).length
 ·rw [if_pos e]
 ·rw [if_neg e, if_pos (by omega)]
  have : (p.C.getD t []).getD (s.th t).pc endI = endI := by rw [List.getD_eq_getElem?_getD, List.getElem?_eq_none (by omega)]; rfl
  rw [this]
end
section
variable {w w' : World} {b : Nat} {p : PD} {s : MS}
abbrev MachW (w : World) (b : Nat) (p : PD) (s : MS) : Prop := RowF w b 92 856 (mcF p s)
theorem mach_ph (h : MachW w b p s) {t : Nat} (ht : t < 4) : w.cell? ⟨b, 27 + t * 207 + 1, none⟩ = some (.int .i64 (s.th t).ph) := by
 rw [h.cell (by omega), mc_thr p s ht (by omega)]; rfl
theorem mach_pc (h : MachW w b p s) {t : Nat} (ht : t < 4) : w.cell? ⟨b, 27 + t * 207 + 2, none⟩ = some (.int .i64 (s.th t).pc) := by
 rw [h.cell (by omega), mc_thr p s ht (by omega)]; rfl
theorem mach_lock (h : MachW w b p s) {i : Nat} (hi : i < 4) : w.cell? ⟨b, 18 + (i * 2 + 1), none⟩ = some (.int .i64 (s.locks.getD i 0)) := by
 rw [h.cell (by omega), mc_lock p s hi]
set_option maxRecDepth 100000 in
theorem over_any (h : MachW w b p s) {t : Nat} (ht : t < 4) :
 Calls Tryz.prog 72 #[.pointer (some ⟨b, 27 + t * 207, none⟩)] w fun e w' => e = .returned (.bool (overM (s.th t))) ∧ w' = w := by
 have c1 := mach_ph h ht
 unfold overM
 generalize (s.th t).ph = ph at *
 clear h ht
 cases h2 : ph == 2 with
 | true =>
  go_enter Tryz.func72, Tryz.ntmps72
  go_wp2_with fail
  go_ret
  exact ⟨rfl, rfl⟩
 | false =>
  go_enter Tryz.func72, Tryz.ntmps72
  go_wp2_with fail
  go_ret
  exact ⟨rfl, rfl⟩
set_option maxRecDepth 100000 in
theorem next_any (h : MachW w b p s) {t : Nat} (ht : t < 4) (hpc : (s.th t).pc ≤ 24) :
 Calls Tryz.prog 39 #[.pointer (some ⟨b, 27 + t * 207, none⟩)] w fun e w' => e = .returned (.pointer (some ⟨b, 27 + t * 207 + 7 + (s.th t).pc * 8, none⟩)) ∧ w' = w.drew := by
 have c2 := mach_pc h ht
 generalize (s.th t).pc = pc at *
 have hlt : (pc : Int) < 25 := by omega
 clear h ht hpc
 go_enter Tryz.func39, Tryz.ntmps39
 go_wp2_with fail
 go_region
 all_goals
  go_wp2_with fail
  go_ret
  exact ⟨rfl, rfl⟩
structure XFit (p : PD) (x : In7) : Prop where
 x0 : 0 ≤ x.x
 lock : x.op = oLock → x.x < 4
 join : x.op = oJoin → x.x < 4
 spawn : x.op = oSpawn → x.x < 4
set_option maxRecDepth 100000 in
set_option maxHeartbeats 1000000 in
theorem blocks_any (h : MachW w b p s) {x : In7} (hx : XFit p x) :
 Calls Tryz.prog 73 #[ptrV b, .agg (insC x)] w fun e w' => e = .returned (.bool (waitsM s x)) ∧ Below w.heap.size w w' := by
 have hb : Below w.heap.size w (w.alloc (.cells (insC x) 67)) := (Below.refl _ _).alloc (Nat.le_refl _) _
 have hm := h.below hb
 obtain ⟨n, hn⟩ : ∃ n : Nat, x.x = n := ⟨x.x.toNat, by have := hx.x0; omega⟩
 have e0 : ((bs x.op).toList == oLock) = decide (x.op = oLock) := by rw [bs_toList]; exact Bool.eq_iff_iff.2 (by simp)
 have e1 : ((bs x.op).toList == oJoin) = decide (x.op = oJoin) := by rw [bs_toList]; exact Bool.eq_iff_iff.2 (by simp)
 have e2 : ((bs x.op).toList == oSpawn) = decide (x.op = oSpawn) := by rw [bs_toList]; exact Bool.eq_iff_iff.2 (by simp)
 have hnt : x.x.toNat = n := by omega
 by_cases h0 : x.op = oLock
 ·have hn4 : n < 4 := by have := hx.lock h0; omega
  have hw : waitsM s x = decide (s.locks.getD n 0 ≠ -1) := by unfold waitsM; rw [if_pos h0, hnt]
  have c := mach_lock hm hn4
  rw [show 18 + (n * 2 + 1) = 18 + n * 2 + 1 by omega] at c
  rw [hw]
  generalize s.locks.getD n 0 = v at *
  have hv : decide (v ≠ -1) = (v != -1) := by rw [Bool.eq_iff_iff]; simp
  rw [hv]
  have hlt : (n : Int) < 4 := by omega
  obtain ⟨op, r, aR, aN, bR, bN, y⟩ := x
  have hn : y = n := hn
  subst hn
  have h0 : op = oLock := h0
  subst h0
  unfold insC at *
  dsimp only at *
  have HB := hide hb
  clear hb hx e0 e1 e2 hm h hnt hw hv hn4
  unfold ptrV oLock bs at *
  go_enter Tryz.func73, Tryz.ntmps73
  go_wp2_with fail
  go_quiet (fail)
  go_wp2_with fail
  go_ret
  exact ⟨rfl, HB.out.trans ⟨rfl, rfl, rfl, Nat.le_refl _, fun _ _ => rfl⟩⟩
 ·by_cases h1 : x.op = oJoin
  ·have hn4 : n < 4 := by have := hx.join h1; omega
   have hw : waitsM s x = !overM (s.th n) := by unfold waitsM; rw [if_neg h0, if_pos h1, hnt]
   have O := fun q => over_any (RowF.same (w' := (w.alloc (.cells (insC x) 67)).drewN q) hm rfl) hn4
   rw [hw]
   generalize overM (s.th n) = v at *
   have hlt : (n : Int) < 4 := by omega
   obtain ⟨op, r, aR, aN, bR, bN, y⟩ := x
   have hn : y = n := hn
   subst hn
   have h1 : op = oJoin := h1
   subst h1
   unfold insC at *
   dsimp only at *
   have HB := hide hb
   clear hb hx e0 e1 e2 hm h hnt hw hn4 h0
   unfold ptrV oJoin bs at *
   go_enter Tryz.func73, Tryz.ntmps73
   go_wp2_with fail
   go_quiet ((go_at_call 72; refine Calls.quiet_of_same (O _)))
   go_wp2_with fail
   go_ret
   exact ⟨rfl, HB.out.trans ⟨rfl, rfl, rfl, Nat.le_refl _, fun _ _ => rfl⟩⟩
  ·by_cases h2 : x.op = oSpawn
   ·have hn4 : n < 4 := by have := hx.spawn h2; omega
    have hw : waitsM s x = decide ((s.th n).ph ≠ 0) := by unfold waitsM; rw [if_neg h0, if_neg h1, if_pos h2, hnt]
    have c := mach_ph hm hn4
    rw [hw]
    generalize (s.th n).ph = v at *
    have hv : decide (v ≠ 0) = (v != 0) := by rw [Bool.eq_iff_iff]; simp
    rw [hv]
    have hlt : (n : Int) < 4 := by omega
    obtain ⟨op, r, aR, aN, bR, bN, y⟩ := x
    have hn : y = n := hn
    subst hn
    have h2 : op = oSpawn := h2
    subst h2
    unfold insC at *
    dsimp only at *
    have HB := hide hb
    clear hb hx e0 e1 e2 hm h hnt hw hv hn4 h0 h1
    unfold ptrV oSpawn bs at *
    go_enter Tryz.func73, Tryz.ntmps73
    go_wp2_with fail
    go_quiet (fail)
    go_wp2_with fail
    go_ret
    exact ⟨rfl, HB.out.trans ⟨rfl, rfl, rfl, Nat.le_refl _, fun _ _ => rfl⟩⟩
   ·have hw : waitsM s x = false := by unfold waitsM; rw [if_neg h0, if_neg h1, if_neg h2]
    rw [hw]
    rw [decide_eq_false h0] at e0
    rw [decide_eq_false h1] at e1
    rw [decide_eq_false h2] at e2
    unfold oLock at e0
    unfold oJoin at e1
    unfold oSpawn at e2
    obtain ⟨op, r, aR, aN, bR, bN, y⟩ := x
    unfold insC at *
    dsimp only at *
    have HB := hide hb
    clear hb hx hm h hnt hw h0 h1 h2 hn
    unfold ptrV at *
    go_enter Tryz.func73, Tryz.ntmps73
    go_wp2_with fail
    go_ret
    exact ⟨rfl, HB.out⟩
end
end Go.Proofs.YtcfpedjfofpnkaaGreatDoor
