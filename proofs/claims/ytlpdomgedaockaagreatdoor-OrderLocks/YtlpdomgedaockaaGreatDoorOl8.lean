import Derived.Test.YtlpdomgedaockaaGreatDoorOl7
import Derived.Test.YtlpdomgedaockaaGreatDoorOl6
import Derived.Deep.RegionHeld3
set_option linter.unusedVariables false
set_option linter.unusedSimpArgs false
namespace Go.Proofs.YtlpdomgedaockaaGreatDoor
open Go.RowKit Go.Proofs.Cod
def preMap {α : Type} (f : α → α) (l : List α) (i : Nat) : List α := (l.take i).map f ++ l.drop i
theorem preMap_len {α : Type} (f : α → α) (l : List α) (i : Nat) : (preMap f l i).length = l.length := by simp [preMap]; omega
theorem preMap_zero {α : Type} (f : α → α) (l : List α) : preMap f l 0 = l := rfl
theorem preMap_all {α : Type} (f : α → α) (l : List α) {i : Nat} (h : l.length ≤ i) : preMap f l i = l.map f := by simp [preMap, List.take_of_length_le h, List.drop_eq_nil_of_le h]
theorem preMap_at {α : Type} (f : α → α) {l : List α} {i : Nat} {x : α} (h : l[i]? = some x) : (preMap f l i)[i]? = some x := by
  have hl := (List.getElem?_eq_some_iff.1 h).1
  unfold preMap
  rw [List.getElem?_append_right (by simp; omega), List.length_map, List.length_take, Nat.min_eq_left (by omega), Nat.sub_self, List.getElem?_drop]
  simpa using h
theorem preMap_set {α : Type} (f : α → α) {l : List α} {i : Nat} {x : α} (h : l[i]? = some x) : (preMap f l i).set i (f x) = preMap f l (i + 1) := by
  have hl := (List.getElem?_eq_some_iff.1 h).1
  have hx := (List.getElem?_eq_some_iff.1 h).2
  unfold preMap
  rw [List.set_append_right _ _ (by simp; omega), List.length_map, List.length_take, Nat.min_eq_left (by omega), Nat.sub_self, List.take_succ_eq_append_getElem hl, List.map_append, List.append_assoc]
  congr 1
  rw [List.drop_eq_getElem_cons hl, hx]; rfl
def labGo (x : Tx) (l : List (Tx × Nat)) (a : Int) : Int := l.foldl (fun a p => if p.1 = x then (p.2 : Int) else a) a
theorem labGo_succ {x : Tx} {l : List (Tx × Nat)} {j : Nat} {p : Tx × Nat} (h : l[j]? = some p) (a : Int) : labGo x (l.take (j + 1)) a = if p.1 = x then (p.2 : Int) else labGo x (l.take j) a := by
  have hl := (List.getElem?_eq_some_iff.1 h).1
  have hx := (List.getElem?_eq_some_iff.1 h).2
  unfold labGo
  rw [List.take_succ_eq_append_getElem hl, List.foldl_append, hx]; rfl
def isL (f : Tx) : Bool := f == [108] || f == [97, 98, 108]
def rX (P : RP) (th : RTh) (r : RI) : Int := if formT r.i.op = [116] then findZ P.names r.word else if isL (formT r.i.op) then labGo r.word th.labs (-1) else r.i.x
def RI.at (r : RI) (x : Int) : RI := { r with i := { r.i with x := x } }
def rsI (P : RP) (th : RTh) (r : RI) : RI := r.at (rX P th r)
def rsT (P : RP) (th : RTh) : RTh := { th with code := th.code.map (rsI P th) }
def RP.res (P : RP) (i : Nat) : RP := { P with thr := preMap (rsT P) P.thr i }
def badC (P : RP) (th : RTh) (l : List RI) : Option Int := (l.find? fun r => decide (rX P th r < 0)).map RI.line
def badT (P : RP) (l : List RTh) : Option Int := l.findSome? fun th => badC P th th.code
theorem badC_ok {P : RP} {th : RTh} {k : Nat} {r : RI} (hr : th.code[k]? = some r) (h : badC P th (th.code.take k) = none) (hx : ¬ rX P th r < 0) : badC P th (th.code.take (k + 1)) = none := by
  have hl := (List.getElem?_eq_some_iff.1 hr).1
  have he := (List.getElem?_eq_some_iff.1 hr).2
  unfold badC at h ⊢
  rw [List.take_succ_eq_append_getElem hl, List.find?_append, he]
  simp only [Option.map_eq_none_iff] at h ⊢
  rw [h]; simp; omega
theorem badC_no {P : RP} {th : RTh} {k : Nat} {r : RI} (hr : th.code[k]? = some r) (h : badC P th (th.code.take k) = none) (hx : rX P th r < 0) : badC P th th.code = some r.line := by
  have hl := (List.getElem?_eq_some_iff.1 hr).1
  have he := (List.getElem?_eq_some_iff.1 hr).2
  have e : th.code = th.code.take k ++ (r :: th.code.drop (k + 1)) := by
    conv => lhs; rw [← List.take_append_drop k th.code, List.drop_eq_getElem_cons hl, he]
  unfold badC at h ⊢
  rw [e, List.find?_append]
  simp only [Option.map_eq_none_iff] at h
  rw [h]; simp [hx]
theorem badT_ok {P : RP} {i : Nat} {th : RTh} (ht : P.thr[i]? = some th) (h : badT P (P.thr.take i) = none) (hx : badC P th th.code = none) : badT P (P.thr.take (i + 1)) = none := by
  have hl := (List.getElem?_eq_some_iff.1 ht).1
  have he := (List.getElem?_eq_some_iff.1 ht).2
  unfold badT at h ⊢
  rw [List.take_succ_eq_append_getElem hl, List.findSome?_append, he, h]; simp [hx]
theorem badT_no {P : RP} {i : Nat} {th : RTh} {e : Int} (ht : P.thr[i]? = some th) (h : badT P (P.thr.take i) = none) (hx : badC P th th.code = some e) : badT P P.thr = some e := by
  have hl := (List.getElem?_eq_some_iff.1 ht).1
  have he := (List.getElem?_eq_some_iff.1 ht).2
  have e' : P.thr = P.thr.take i ++ (th :: P.thr.drop (i + 1)) := by
    conv => lhs; rw [← List.take_append_drop i P.thr, List.drop_eq_getElem_cons hl, he]
  unfold badT at h ⊢
  rw [e', List.findSome?_append, h]; simp [hx]
section
variable {w w' : World} {tag tag' : Nat → RT} {base pb : Nat} {P : RP} {U : RV}
theorem RfW.setX (h : RfW w tag base pb P U) {j k : Nat} {th : RTh} {r : RI} {p : Value × Value} (hj : P.thr[j]? = some th) (hp : U.TV[j]? = some p) (hk : th.code[k]? = some r) {gc n ccap : Nat} (hV : p.1 = .slice (some ⟨gc, 0, none⟩) n ccap) (v : Int) :
    RfW (w.setCell ⟨gc, k * 9 + 6, none⟩ (.int .i64 v)) tag base pb { P with thr := P.thr.set j { th with code := th.code.set k (r.at v) } } U ∧ Ext w tag (w.setCell ⟨gc, k * 9 + 6, none⟩ (.int .i64 v)) tag := by
  have hT := h.ths j th p hj hp
  have hgc : tag gc = .cd j := hT.tc gc (by rw [hV]; rfl)
  have hjl := (List.getElem?_eq_some_iff.1 hj).1
  have hother : ∀ b, b ≠ gc → (w.setCell ⟨gc, k * 9 + 6, none⟩ (.int .i64 v)).heap[b]? = w.heap[b]? := fun b hb => Below.heap_setCell w ⟨gc, k * 9 + 6, none⟩ _ b hb
  have hx : Ext w tag (w.setCell ⟨gc, k * 9 + 6, none⟩ (.int .i64 v)) tag := ⟨rfl, rfl, rfl, by simp, fun _ _ => rfl, fun b hb hbo => hother b (ne_tag hbo hgc (by simp))⟩
  refine ⟨h.step (fun x => x = .cd j) hx (fun b hb h1 h2 => hother b (fun e => h2 (by rw [e]; exact hgc))) (fun b hb hn => absurd (h.tlt b hn).2 (by omega)) ((hother pb (ne_tag h.tp hgc (by simp))).trans h.cell) (fun k' hk' => .inl ⟨rfl, rfl, by simp⟩) (.inr ⟨?_, h.tt, by simp [h.len]⟩) (fun i th2 p2 h1 h2 => ?_), hx⟩
  · show World.ownsRow _ _ _ _ U.tV (P.thr.set j _).length (((P.thr.set j _).zip U.TV).flatMap thC)
    rw [List.length_set]
    have hzz : ((P.thr.set j { th with code := th.code.set k (r.at v) }).zip U.TV).flatMap thC = (P.thr.zip U.TV).flatMap thC := by
      have hs : U.TV.set j p = U.TV := by
        apply List.ext_getElem?
        intro m
        by_cases e : m = j
        · subst e; rw [List.getElem?_set_self (by rw [h.len]; exact hjl), hp]
        · rw [List.getElem?_set_ne (fun e' => e e'.symm)]
      conv => lhs; rw [← hs, ← set_zip (th := th) (p := p)]
      have hz : (P.thr.zip U.TV)[j]? = some (th, p) := by rw [List.getElem?_zip_eq_some]; exact ⟨hj, hp⟩
      rw [← flat_set (r := 0) (u := .string (bs th.name)) thC_len hz (by omega) rfl]
      apply List.ext_getElem?
      intro m
      by_cases e : m = j * 3 + 0
      · subst e
        have h0 := flat_at (r := 0) thC_len hz (by omega)
        rw [List.getElem?_set_self (List.getElem?_eq_some_iff.1 h0).1, h0]; rfl
      · rw [List.getElem?_set_ne (fun e' => e e'.symm)]
    rw [hzz]
    exact owns_same h.trow fun g e => hother g (ne_tag (h.tt g e) hgc (by simp))
  · have h1 : (P.thr.set j _)[i]? = some th2 := h1
    by_cases e : i = j
    · subst e
      right
      rw [List.getElem?_set_self hjl] at h1
      cases h1
      rw [hp] at h2
      cases h2
      refine ⟨?_, hT.tc, owns_same hT.labs fun g e => hother g (ne_tag (hT.tl g e) hgc (by simp)), hT.tl⟩
      show World.ownsRow _ _ _ _ p.1 (th.code.set k _).length ((th.code.set k _).flatMap riC)
      have hc := hT.code
      rw [hV] at hc ⊢
      have hn : n = th.code.length := by obtain ⟨_, _, e'⟩ := owns_len hc; cases e'; rfl
      subst hn
      rw [List.length_set, ← flat_set (r := 6) (u := .int .i64 v) riC_len hk (by omega) rfl]
      exact (hc.stored (k * 9 + 6) _).1
    · rw [List.getElem?_set_ne (fun e' => e e'.symm)] at h1
      exact .inl ⟨h1, h2, (fun e' => by cases e'; exact e rfl), by simp⟩
theorem RfW.codeCell (h : RfW w tag base pb P U) {j k q : Nat} {th : RTh} {r : RI} {p : Value × Value} (hj : P.thr[j]? = some th) (hp : U.TV[j]? = some p) (hk : th.code[k]? = some r) (hq : q < 9) {gc ccap : Nat} (hV : p.1 = .slice (some ⟨gc, 0, none⟩) th.code.length ccap) : w.cell? ⟨gc, k * 9 + q, none⟩ = (riC r)[q]? ∧ w.frozen? ⟨gc, k * 9 + q, none⟩ = false := by
  have hkl := (List.getElem?_eq_some_iff.1 hk).1
  have hc := (h.ths j th p hj hp).code
  rw [hV] at hc
  refine ⟨?_, hc.frozenAt _⟩
  rw [hc.cellAt (k * 9 + q) (by omega)]
  exact flat_at riC_len hk hq
theorem RfW.codeForm (h : RfW w tag base pb P U) {j k : Nat} {th : RTh} {r : RI} {p : Value × Value} (hj : P.thr[j]? = some th) (hp : U.TV[j]? = some p) (hk : th.code[k]? = some r) : ∃ gc ccap, p.1 = .slice (some ⟨gc, 0, none⟩) th.code.length ccap := by
  have hkl := (List.getElem?_eq_some_iff.1 hk).1
  obtain ⟨m, hm⟩ : ∃ m, th.code.length = m + 1 := ⟨th.code.length - 1, by omega⟩
  have := (h.ths j th p hj hp).code
  rw [hm] at this ⊢
  exact ownsRow_succ this
theorem RfW.labCell (h : RfW w tag base pb P U) {j k q : Nat} {th : RTh} {l : Tx × Nat} {p : Value × Value} (hj : P.thr[j]? = some th) (hp : U.TV[j]? = some p) (hk : th.labs[k]? = some l) (hq : q < 2) {gl lcap : Nat} (hV : p.2 = .slice (some ⟨gl, 0, none⟩) th.labs.length lcap) : w.cell? ⟨gl, k * 2 + q, none⟩ = (labC l)[q]? := by
  have hkl := (List.getElem?_eq_some_iff.1 hk).1
  have hc := (h.ths j th p hj hp).labs
  rw [hV] at hc
  rw [hc.cellAt (k * 2 + q) (by omega)]
  exact flat_at labC_len hk hq
theorem RfW.labForm (h : RfW w tag base pb P U) {j k : Nat} {th : RTh} {l : Tx × Nat} {p : Value × Value} (hj : P.thr[j]? = some th) (hp : U.TV[j]? = some p) (hk : th.labs[k]? = some l) : ∃ gl lcap, p.2 = .slice (some ⟨gl, 0, none⟩) th.labs.length lcap := by
  have hkl := (List.getElem?_eq_some_iff.1 hk).1
  obtain ⟨m, hm⟩ : ∃ m, th.labs.length = m + 1 := ⟨th.labs.length - 1, by omega⟩
  have := (h.ths j th p hj hp).labs
  rw [hm] at this ⊢
  exact ownsRow_succ this
end
end Go.Proofs.YtlpdomgedaockaaGreatDoor
namespace Go.Proofs.YtlpdomgedaockaaGreatDoor
open Go.RowKit Go.Proofs.Cod
set_option maxRecDepth 100000 in
set_option maxHeartbeats 1000000 in
theorem rHas_any {w : World} {tag : Nat → RT} {base pb : Nat} {P : RP} {U : RV} (h : RfW w tag base pb P U) (x : Tx) (hb : P.thr.length < 1048576) (hl : ∀ k, (P.get k).length < 1048576) :
    Calls Tryz.prog 52 #[ptrV pb, .string (bs x)] w fun e w' => e = .returned (.bool (hasP P x)) ∧ w' = w := by
  have hT := rThread_any h x hb
  have c0 := h.rowC (k := 118) (.inl rfl)
  have c1 := h.rowC (k := 102) (.inr (.inl rfl))
  have c2 := h.rowC (k := 109) (.inr (.inr rfl))
  obtain ⟨a0, d0, e0, s0⟩ := row_ws (h.rows 118 (.inl rfl))
  obtain ⟨a1, d1, e1, s1⟩ := row_ws (h.rows 102 (.inr (.inl rfl)))
  obtain ⟨a2, d2, e2, s2⟩ := row_ws (h.rows 109 (.inr (.inr rfl)))
  rw [e0] at c0
  rw [e1] at c1
  rw [e2] at c2
  have c0 : w.cell? ⟨pb, 0, none⟩ = some (.slice a0 P.vs.length d0) := c0
  have c1 : w.cell? ⟨pb, 1, none⟩ = some (.slice a1 P.fs.length d1) := c1
  have c2 : w.cell? ⟨pb, 2, none⟩ = some (.slice a2 P.ls.length d2) := c2
  have f0 := rFind_any a0 P.vs.length d0 P.vs x w rfl s0 (by have : P.vs.length < 1048576 := hl 118; omega)
  have f1 := rFind_any a1 P.fs.length d1 P.fs x w rfl s1 (by have : P.fs.length < 1048576 := hl 102; omega)
  have f2 := rFind_any a2 P.ls.length d2 P.ls x w rfl s2 (by have : P.ls.length < 1048576 := hl 109; omega)
  have hH : Hid (hasP P x = (decide (0 ≤ findZ P.vs x) || decide (0 ≤ findZ P.fs x) || decide (0 ≤ findZ P.ls x) || decide (0 ≤ findZ P.names x))) := rfl
  generalize findZ P.vs x = z0 at f0 hH
  generalize findZ P.fs x = z1 at f1 hH
  generalize findZ P.ls x = z2 at f2 hH
  generalize findZ P.names x = z3 at hT hH
  unfold ptrV at hT ⊢
  clear h s0 s1 s2 e0 e1 e2 hl
  by_cases q0 : 0 ≤ z0
  · have hv : Hid (hasP P x = true) := by rw [hH.out, decide_eq_true q0]; rfl
    go_enter Tryz.func52, Tryz.ntmps52
    go_wp2_with fail
    refine f0.mono ?_
    rintro e w1 ⟨rfl, rfl⟩
    go_wp2_with fail
    go_ret
    exact ⟨by rw [hv.out]; rfl, rfl⟩
  · by_cases q1 : 0 ≤ z1
    · have hv : Hid (hasP P x = true) := by unfold Hid; rw [hH.out, decide_eq_true q1]; simp
      go_enter Tryz.func52, Tryz.ntmps52
      go_wp2_with fail
      refine f0.mono ?_
      rintro e w1 ⟨rfl, rfl⟩
      go_wp2_with fail
      refine f1.mono ?_
      rintro e w1 ⟨rfl, rfl⟩
      go_wp2_with fail
      go_ret
      exact ⟨by rw [hv.out]; rfl, rfl⟩
    · by_cases q2 : 0 ≤ z2
      · have hv : Hid (hasP P x = true) := by unfold Hid; rw [hH.out, decide_eq_true q2]; simp
        go_enter Tryz.func52, Tryz.ntmps52
        go_wp2_with fail
        refine f0.mono ?_
        rintro e w1 ⟨rfl, rfl⟩
        go_wp2_with fail
        refine f1.mono ?_
        rintro e w1 ⟨rfl, rfl⟩
        go_wp2_with fail
        refine f2.mono ?_
        rintro e w1 ⟨rfl, rfl⟩
        go_wp2_with fail
        go_ret
        exact ⟨by rw [hv.out]; rfl, rfl⟩
      · have hv : Hid (hasP P x = decide (0 ≤ z3)) := by rw [hH.out, decide_eq_false q0, decide_eq_false q1, decide_eq_false q2]; rfl
        go_enter Tryz.func52, Tryz.ntmps52
        go_wp2_with fail
        refine f0.mono ?_
        rintro e w1 ⟨rfl, rfl⟩
        go_wp2_with fail
        refine f1.mono ?_
        rintro e w1 ⟨rfl, rfl⟩
        go_wp2_with fail
        refine f2.mono ?_
        rintro e w1 ⟨rfl, rfl⟩
        go_wp2_with fail
        refine hT.mono ?_
        rintro e w1 ⟨rfl, rfl⟩
        go_wp2_with fail
        go_ret
        exact ⟨by rw [hH.out]; rfl, rfl⟩
end Go.Proofs.YtlpdomgedaockaaGreatDoor
namespace Go.Proofs.YtlpdomgedaockaaGreatDoor
open Go.RowKit Go.Proofs.Cod
def DupAt (P : RP) (ts : List Tx) (i : Nat) : Prop := hasP P (ts.getD i []) = true ∨ ∃ j, j < i ∧ ts.getD j [] = ts.getD i []
def RP.puts (P : RP) (k : Int) (ts : List Tx) : RP := ts.foldl (fun P x => P.put k x) P
def kindW (f : Tx) : Int := if f = tVar then 118 else if f = tFlag then 102 else 109
theorem kindW_ok (f : Tx) : isN (kindW f) := by
  unfold kindW isN
  split
  · simp
  · split <;> simp
theorem Ws.tail {w : World} {b off : Nat} {f : Tx} {ts : List Tx} (h : Ws w (some ⟨b, off, none⟩) (f :: ts)) (i : Nat) (hi : i ≤ ts.length) : Ws w (some ⟨b, off + 1, none⟩) (ts.take i) := fun j hj => by
  rw [List.length_take] at hj
  obtain ⟨b', off', e1, e2, e3⟩ := h (j + 1) (by simp; omega)
  cases e1
  refine ⟨b, off + 1, rfl, e2, ?_⟩
  have e4 : (ts.take i).getD j [] = (f :: ts).getD (j + 1) [] := by
    rw [List.getD_eq_getElem?_getD, List.getElem?_take, if_pos (by omega), List.getD_eq_getElem?_getD, List.getElem?_cons_succ]
  rw [e4, show off + 1 + j = off + (j + 1) by omega]; exact e3
theorem puts_take {P : RP} {k : Int} {ts : List Tx} {i : Nat} (h : i < ts.length) : P.puts k (ts.take (i + 1)) = (P.puts k (ts.take i)).put k (ts.getD i []) := by
  unfold RP.puts
  rw [List.take_succ_eq_append_getElem h, List.foldl_append, List.getD_eq_getElem?_getD, List.getElem?_eq_getElem h]; rfl
theorem put_get {P : RP} {k : Int} (hk : isN k) (x : Tx) : (P.put k x).get k = P.get k ++ [x] := by
  rcases hk with rfl | rfl | rfl <;> simp [RP.put, RP.get]
theorem puts_get {k : Int} (hk : isN k) : ∀ (ts : List Tx) (P : RP), (P.puts k ts).get k = P.get k ++ ts
  | [], P => by simp [RP.puts]
  | x :: ts, P => by
    show ((P.put k x).puts k ts).get k = _
    rw [puts_get hk ts, put_get hk]; simp
theorem find_take {ts : List Tx} {i : Nat} (hi : i < ts.length) : 0 ≤ findZ (ts.take i) (ts.getD i []) ↔ ∃ j, j < i ∧ ts.getD j [] = ts.getD i [] := by
  have hl : (ts.take i).length = i := by rw [List.length_take]; omega
  have hg : ∀ j, j < i → (ts.take i).getD j [] = ts.getD j [] := fun j hj => by
    rw [List.getD_eq_getElem?_getD, List.getElem?_take, if_pos hj, List.getD_eq_getElem?_getD]
  constructor
  · intro h
    by_cases hex : ∃ j, j < i ∧ ts.getD j [] = ts.getD i []
    · exact hex
    · rw [findZ_no (fun j hj => by rw [hg j (by omega)]; exact fun e => hex ⟨j, by omega, e⟩)] at h
      omega
  · rintro ⟨j, hj, e⟩
    have hmin : ∃ k, k < i ∧ ts.getD k [] = ts.getD i [] ∧ ∀ m, m < k → ts.getD m [] ≠ ts.getD i [] := by
      induction j using Nat.strongRecOn with
      | ind j ih =>
        by_cases hm : ∃ m, m < j ∧ ts.getD m [] = ts.getD i []
        · obtain ⟨m, hm1, hm2⟩ := hm
          exact ih m hm1 (by omega) hm2
        · exact ⟨j, hj, e, fun m hm1 hm2 => hm ⟨m, hm1, hm2⟩⟩
    obtain ⟨k, hk, e1, e2⟩ := hmin
    rw [findZ_at (i := k) (by omega) (fun m hm => by rw [hg m (by omega)]; exact e2 m hm) (by rw [hg k hk]; exact e1)]
    omega
def ROut (w : World) (tag : Nat → RT) (base pb : Nat) (R : Int → RP → Prop) (en : Ending) (w' : World) : Prop :=
  ∃ e tag' P' U', en = .returned (.int .i64 e) ∧ RfW w' tag' base pb P' U' ∧ Ext w tag w' tag' ∧ R e P'
def RDecl (P : RP) (f : Tx) (ts : List Tx) (e : Int) (P' : RP) : Prop :=
  ((ts = [] ∨ ts.all isNam = false) ∧ e = 2) ∨ ((ts ≠ [] ∧ ts.all isNam = true) ∧ (((∃ i, i < ts.length ∧ DupAt P ts i) ∧ e = 3) ∨ ((∀ i, i < ts.length → ¬ DupAt P ts i) ∧ P' = P.puts (kindW f) ts ∧ ((4 < P'.vs.length ∨ 4 < P'.fs.length ∨ 4 < P'.ls.length) ∧ e = 4 ∨ (P'.vs.length ≤ 4 ∧ P'.fs.length ≤ 4 ∧ P'.ls.length ≤ 4) ∧ e = 0))))
theorem WsT.at {w : World} {tag : Nat → RT} {b off : Nat} {ws : List Tx} (h : WsT w tag (some ⟨b, off, none⟩) ws) {i : Nat} (hi : i < ws.length) : w.cell? ⟨b, off + i, none⟩ = some (.string (bs (ws.getD i []))) := by
  obtain ⟨b', off', e1, _, e3, _⟩ := h i hi
  cases e1; exact e3
theorem bs_eq (s t : Tx) : ((bs s).toList == t) = decide (s = t) := by
  rw [bs_toList]
  by_cases e : s = t <;> simp [e]
set_option maxRecDepth 100000 in
set_option maxHeartbeats 2000000 in
theorem rDeclare_any {w : World} {tag : Nat → RT} {base pb : Nat} {P : RP} {U : RV} (h : RfW w tag base pb P U) (b off n cap : Nat) (f : Tx) (ts : List Tx) (hn : ts.length + 1 = n) (hs : WsT w tag (some ⟨b, off, none⟩) (f :: ts)) (hcap : n ≤ cap) (hb : P.thr.length < 1000) (hl : ∀ k, (P.get k).length ≤ 4) (hnb : n < 4000) :
    Calls Tryz.prog 50 #[ptrV pb, .slice (some ⟨b, off, none⟩) n cap] w (ROut w tag base pb (RDecl P f ts)) := by
  have HX := hide (Ext.refl w tag)
  have H := hide h
  have hsO := hide hs
  have hnO := hide hn
  unfold ptrV
  go_enter Tryz.func50, Tryz.ntmps50
  clear h hs hn
  go_wp2_with fail
  go_loopw [5] (fun iv wr => ∃ i : Nat, 1 ≤ i ∧ i ≤ n ∧ iv = .int .i64 i ∧ (ts.take (i - 1)).all isNam = true ∧ wr = w) (fun iv _ => n - (intOf iv).toNat)
  case atStart => exact ⟨1, by omega, by have := hnO.out; omega, rfl, by simp, rfl⟩
  case round =>
    obtain ⟨i, hi1, hi, rfl, hall, rfl⟩ := hrel
    by_cases h5 : i < n
    · have hlt : (i : Int) < (n : Int) := by omega
      obtain ⟨m, rfl⟩ : ∃ m, i = m + 1 := ⟨i - 1, by omega⟩
      have hml : m < ts.length := by have := hnO.out; omega
      have c0 := hsO.out.at (i := m + 1) (by simp; omega)
      have hgd : (f :: ts).getD (m + 1) [] = ts.getD m [] := by simp
      rw [hgd] at c0
      have HA := hide (⟨allT_take (p := isNam) hml, allT_no (p := isNam) hml, hall⟩ : _ ∧ _ ∧ _)
      generalize ts.getD m [] = t at c0 HA
      clear hall hgd
      go_wp2_with fail
      refine (rIsName_any t _).mono ?_
      rintro e w2 ⟨rfl, rfl⟩
      cases hd : isNam t with
      | true =>
        go_wp2_with fail
        go_roundw
        case rel => exact ⟨m + 1 + 1, by omega, by omega, by go_num, by show (ts.take (m + 1)).all isNam = true; rw [HA.out.1, hd]; have := HA.out.2.2; simp only [Nat.add_sub_cancel] at this; rw [this]; rfl, by trivial⟩
        case measure => simp [intOf]; omega
      | false =>
        go_wp2_with fail
        go_ret
        exact ⟨2, tag, P, U, rfl, H.out, HX.out, .inl ⟨.inr (HA.out.2.1 hd), rfl⟩⟩
    · have hin : i = n := by omega
      subst hin
      have hall' : Hid (ts.all isNam = true) := by
        rw [List.take_of_length_le (by have := hnO.out; omega)] at hall; exact hall
      clear hall
      by_cases h1 : i = 1
      · subst h1
        have ht : Hid (ts = []) := List.eq_nil_of_length_eq_zero (by have := hnO.out; omega)
        go_wp2_with fail
        go_ret
        exact ⟨2, tag, P, U, rfl, H.out, HX.out, .inl ⟨.inl ht.out, rfl⟩⟩
      · have h1' : ((i : Int) == 1) = false := by simp; omega
        have hne : Hid (ts ≠ []) := fun e => h1 (by have := hnO.out; rw [e] at this; simp at this; omega)
        have hi2 : 2 ≤ i := by omega
        rename World => w0
        go_wp2_with fail
        go_loopw [7] (fun iv wr => ∃ k : Nat, 1 ≤ k ∧ k ≤ i ∧ iv = .int .i64 k ∧ (∀ m, m + 1 < k → ¬ DupAt P ts m) ∧ Below w0.heap.size w0 wr) (fun iv _ => i - (intOf iv).toNat)
        case atStart => exact ⟨1, by omega, by omega, rfl, fun m hm => by omega, Below.refl _ _⟩
        case round =>
          obtain ⟨k, hk1, hk, rfl, hdup, hB⟩ := hrel
          have hW := H.out.below hB
          have hX : Ext w0 tag wr tag := .of_below hB
          have hS := hsO.out.ext hX
          by_cases h6 : k < i
          · have hlt : (k : Int) < (i : Int) := by omega
            obtain ⟨m, rfl⟩ : ∃ m, k = m + 1 := ⟨k - 1, by omega⟩
            have hml : m < ts.length := by have := hnO.out; omega
            have c0 := hS.at (i := m + 1) (by simp; omega)
            have hgd : (f :: ts).getD (m + 1) [] = ts.getD m [] := by simp
            rw [hgd] at c0
            have hd : Ext wr tag wr.drew tag := ⟨rfl, rfl, rfl, Nat.le_refl _, fun _ _ => rfl, fun _ _ _ => rfl⟩
            have hWd := RfW.keep (w' := wr.drew) hW (fun _ _ => rfl) hd
            have hH := rHas_any hWd (ts.getD m []) (by omega) (fun k => by have := hl k; omega)
            have hF := rFind_any (some ⟨b, off + 1, none⟩) m (cap - 1) (ts.take m) (ts.getD m []) wr.drew (by rw [List.length_take]; omega) (Ws.tail (WsT.ext (w' := wr.drew) hS hd).ws m (by omega)) (by omega)
            have hft := find_take hml
            have hDA : Hid (DupAt P ts m ↔ (hasP P (ts.getD m []) = true ∨ 0 ≤ findZ (ts.take m) (ts.getD m []))) := by
              unfold Hid DupAt; rw [hft]
            unfold ptrV at hH
            generalize findZ (ts.take m) (ts.getD m []) = z at hF hDA
            have HE := hide (⟨hW, hX, hdup, hB⟩ : _ ∧ _ ∧ _ ∧ _)
            have hcap1 : ¬ (cap = 1) := by omega
            have hm0 : (0 : Int) ≤ (m : Int) + 1 := by omega
            have hm1 : (1 : Int) ≤ (m : Int) + 1 := by omega
            have hm2 : (m : Int) + 1 ≤ (cap : Int) := by omega
            generalize hxe : ts.getD m [] = x at c0 hH hDA hF
            replace hxe := hide hxe
            clear hW hX hS hgd hft hWd hdup hB hd
            cases hhas : hasP P x with
            | true =>
              rw [hhas] at hH
              have hDup : Hid (DupAt P ts m) := hDA.out.2 (.inl hhas)
              go_wp2_with fail
              refine wp_region_held_drew (S := (fun w' => w'.cell? ⟨b, off + (m + 1), none⟩ = some (.string (bs x)))) (by kernel_rfl) c0 (fun hHeld => ?_)
              refine wpAnyH_take (i := 0) (v := ?_) rfl (by kernel_rfl) (by kernel_rfl) (by kernel_rfl) (fun _ _ _ h => h) (Or.inl ⟨by rfl, ?_⟩) hHeld ?_
              rotate_left
              · intro w9 hSw; (try dsimp only at hSw); go_simp; try with_reducible rfl
              simp only [Act.put, List.getElem_toArray, List.getElem_cons_zero, List.getElem_cons_succ, List.setIfInBounds_toArray, List.set_cons_succ, List.set_cons_zero]
              refine wpAnyH_take (i := 1) (v := ?_) rfl (by kernel_rfl) (by kernel_rfl) (by kernel_rfl) (fun _ _ _ h => h) (Or.inl ⟨by rfl, ?_⟩) hHeld ?_
              rotate_left
              · intro w9 hSw; (try dsimp only at hSw); go_simp; try with_reducible rfl
              simp only [Act.put, List.getElem_toArray, List.getElem_cons_zero, List.getElem_cons_succ, List.setIfInBounds_toArray, List.set_cons_succ, List.set_cons_zero]
              refine wpAnyH_take (i := 2) (v := ?_) rfl (by kernel_rfl) (by kernel_rfl) (by kernel_rfl) (fun _ _ _ h => h) (Or.inl ⟨by rfl, ?_⟩) hHeld ?_
              rotate_left
              · intro w9 hSw; (try dsimp only at hSw); go_simp; try with_reducible rfl
              simp only [Act.put, List.getElem_toArray, List.getElem_cons_zero, List.getElem_cons_succ, List.setIfInBounds_toArray, List.set_cons_succ, List.set_cons_zero]
              refine wpAnyH_take (i := 3) (v := ?_) rfl (by kernel_rfl) (by kernel_rfl) (by kernel_rfl) (fun _ _ _ h => h) (Or.inl ⟨by rfl, ?_⟩) hHeld ?_
              rotate_left
              · intro w9 hSw; (try dsimp only at hSw); go_simp; try with_reducible rfl
              simp only [Act.put, List.getElem_toArray, List.getElem_cons_zero, List.getElem_cons_succ, List.setIfInBounds_toArray, List.set_cons_succ, List.set_cons_zero]
              refine wpAnyH_take (i := 4) (v := ?_) rfl (by kernel_rfl) (by kernel_rfl) (by kernel_rfl) (fun _ _ _ h => h) (Or.inl ⟨by rfl, ?_⟩) hHeld ?_
              rotate_left
              · intro w9 hSw; (try dsimp only at hSw); go_simp; try with_reducible rfl
              simp only [Act.put, List.getElem_toArray, List.getElem_cons_zero, List.getElem_cons_succ, List.setIfInBounds_toArray, List.set_cons_succ, List.set_cons_zero]
              refine wpAnyH_ready (rs := [5]) (by kernel_rfl) (by simp) ?_
              refine AllReadyH.cons rfl (fun K hK => ?_) AllReadyH.nil
              go_simp
              go_at_call 52
              refine hH.mono ?_
              rintro e w5 ⟨rfl, rfl⟩
              go_wp2_with fail
              refine hK.out _ _ c0 (fun hHeld => ?_)
              clear hK K
              try simp only [Act.put, List.getElem_toArray, List.getElem_cons_zero, List.getElem_cons_succ, List.setIfInBounds_toArray, List.set_cons_succ, List.set_cons_zero]
              refine wpAnyH_take (i := 6) (v := ?_) rfl (by kernel_rfl) (by kernel_rfl) (by kernel_rfl) (fun _ _ _ h => h) (Or.inl ⟨by rfl, ?_⟩) hHeld ?_
              rotate_left
              · intro w9 hSw; (try dsimp only at hSw); go_simp; try with_reducible rfl
              simp only [Act.put, List.getElem_toArray, List.getElem_cons_zero, List.getElem_cons_succ, List.setIfInBounds_toArray, List.set_cons_succ, List.set_cons_zero]
              refine wpAnyH_take (i := 7) (v := undef) rfl (by kernel_rfl) (by kernel_rfl) (by kernel_rfl) (fun _ _ _ h => h) (Or.inr ⟨by rfl, rfl⟩) hHeld ?_
              simp only [Act.put, List.getElem_toArray, List.getElem_cons_zero, List.getElem_cons_succ, List.setIfInBounds_toArray, List.set_cons_succ, List.set_cons_zero]
              refine wpAnyH_take (i := 8) (v := undef) rfl (by kernel_rfl) (by kernel_rfl) (by kernel_rfl) (fun _ _ _ h => h) (Or.inr ⟨by rfl, rfl⟩) hHeld ?_
              simp only [Act.put, List.getElem_toArray, List.getElem_cons_zero, List.getElem_cons_succ, List.setIfInBounds_toArray, List.set_cons_succ, List.set_cons_zero]
              refine wpAnyH_take (i := 9) (v := undef) rfl (by kernel_rfl) (by kernel_rfl) (by kernel_rfl) (fun _ _ _ h => h) (Or.inr ⟨by rfl, rfl⟩) hHeld ?_
              simp only [Act.put, List.getElem_toArray, List.getElem_cons_zero, List.getElem_cons_succ, List.setIfInBounds_toArray, List.set_cons_succ, List.set_cons_zero]
              refine wpAnyH_take (i := 10) (v := undef) rfl (by kernel_rfl) (by kernel_rfl) (by kernel_rfl) (fun _ _ _ h => h) (Or.inr ⟨by rfl, rfl⟩) hHeld ?_
              simp only [Act.put, List.getElem_toArray, List.getElem_cons_zero, List.getElem_cons_succ, List.setIfInBounds_toArray, List.set_cons_succ, List.set_cons_zero]
              refine wpAnyH_take (i := 11) (v := undef) rfl (by kernel_rfl) (by kernel_rfl) (by kernel_rfl) (fun _ _ _ h => h) (Or.inr ⟨by rfl, rfl⟩) hHeld ?_
              simp only [Act.put, List.getElem_toArray, List.getElem_cons_zero, List.getElem_cons_succ, List.setIfInBounds_toArray, List.set_cons_succ, List.set_cons_zero]
              refine wpAnyH_take (i := 12) (v := undef) rfl (by kernel_rfl) (by kernel_rfl) (by kernel_rfl) (fun _ _ _ h => h) (Or.inr ⟨by rfl, rfl⟩) hHeld ?_
              simp only [Act.put, List.getElem_toArray, List.getElem_cons_zero, List.getElem_cons_succ, List.setIfInBounds_toArray, List.set_cons_succ, List.set_cons_zero]
              refine wpAnyH_take (i := 13) (v := undef) rfl (by kernel_rfl) (by kernel_rfl) (by kernel_rfl) (fun _ _ _ h => h) (Or.inr ⟨by rfl, rfl⟩) hHeld ?_
              simp only [Act.put, List.getElem_toArray, List.getElem_cons_zero, List.getElem_cons_succ, List.setIfInBounds_toArray, List.set_cons_succ, List.set_cons_zero]
              refine wpAnyH_take (i := 14) (v := undef) rfl (by kernel_rfl) (by kernel_rfl) (by kernel_rfl) (fun _ _ _ h => h) (Or.inr ⟨by rfl, rfl⟩) hHeld ?_
              simp only [Act.put, List.getElem_toArray, List.getElem_cons_zero, List.getElem_cons_succ, List.setIfInBounds_toArray, List.set_cons_succ, List.set_cons_zero]
              refine wpAnyH_take (i := 15) (v := undef) rfl (by kernel_rfl) (by kernel_rfl) (by kernel_rfl) (fun _ _ _ h => h) (Or.inr ⟨by rfl, rfl⟩) hHeld ?_
              simp only [Act.put, List.getElem_toArray, List.getElem_cons_zero, List.getElem_cons_succ, List.setIfInBounds_toArray, List.set_cons_succ, List.set_cons_zero]
              refine wpAnyH_take (i := 16) (v := ?_) rfl (by kernel_rfl) (by kernel_rfl) (by kernel_rfl) (fun _ _ _ h => h) (Or.inl ⟨by rfl, ?_⟩) hHeld ?_
              rotate_left
              · intro w9 hSw; (try dsimp only at hSw); go_simp; try with_reducible rfl
              simp only [Act.put, List.getElem_toArray, List.getElem_cons_zero, List.getElem_cons_succ, List.setIfInBounds_toArray, List.set_cons_succ, List.set_cons_zero]
              refine wpAnyH_done (by kernel_rfl) ?_ _
              clear hHeld
              go_wp2_with fail
              go_ret
              obtain ⟨hW, hX, hdup, hB⟩ := HE.out
              exact ⟨3, tag, P, U, rfl, RfW.keep (w' := wr.drew) hW (fun _ _ => rfl) ⟨rfl, rfl, rfl, Nat.le_refl _, fun _ _ => rfl, fun _ _ _ => rfl⟩, hX.trans ⟨rfl, rfl, rfl, Nat.le_refl _, fun _ _ => rfl, fun _ _ _ => rfl⟩, .inr ⟨⟨hne.out, hall'.out⟩, .inl ⟨⟨m, hml, hDup.out⟩, rfl⟩⟩⟩
            | false =>
              rw [hhas] at hH
              go_wp2_with fail
              refine wp_region_held_drew (S := (fun w' => w'.cell? ⟨b, off + (m + 1), none⟩ = some (.string (bs x)))) (by kernel_rfl) c0 (fun hHeld => ?_)
              refine wpAnyH_take (i := 0) (v := ?_) rfl (by kernel_rfl) (by kernel_rfl) (by kernel_rfl) (fun _ _ _ h => h) (Or.inl ⟨by rfl, ?_⟩) hHeld ?_
              rotate_left
              · intro w9 hSw; (try dsimp only at hSw); go_simp; try with_reducible rfl
              simp only [Act.put, List.getElem_toArray, List.getElem_cons_zero, List.getElem_cons_succ, List.setIfInBounds_toArray, List.set_cons_succ, List.set_cons_zero]
              refine wpAnyH_take (i := 1) (v := ?_) rfl (by kernel_rfl) (by kernel_rfl) (by kernel_rfl) (fun _ _ _ h => h) (Or.inl ⟨by rfl, ?_⟩) hHeld ?_
              rotate_left
              · intro w9 hSw; (try dsimp only at hSw); go_simp; try with_reducible rfl
              simp only [Act.put, List.getElem_toArray, List.getElem_cons_zero, List.getElem_cons_succ, List.setIfInBounds_toArray, List.set_cons_succ, List.set_cons_zero]
              refine wpAnyH_take (i := 2) (v := ?_) rfl (by kernel_rfl) (by kernel_rfl) (by kernel_rfl) (fun _ _ _ h => h) (Or.inl ⟨by rfl, ?_⟩) hHeld ?_
              rotate_left
              · intro w9 hSw; (try dsimp only at hSw); go_simp; try with_reducible rfl
              simp only [Act.put, List.getElem_toArray, List.getElem_cons_zero, List.getElem_cons_succ, List.setIfInBounds_toArray, List.set_cons_succ, List.set_cons_zero]
              refine wpAnyH_take (i := 3) (v := ?_) rfl (by kernel_rfl) (by kernel_rfl) (by kernel_rfl) (fun _ _ _ h => h) (Or.inl ⟨by rfl, ?_⟩) hHeld ?_
              rotate_left
              · intro w9 hSw; (try dsimp only at hSw); go_simp; try with_reducible rfl
              simp only [Act.put, List.getElem_toArray, List.getElem_cons_zero, List.getElem_cons_succ, List.setIfInBounds_toArray, List.set_cons_succ, List.set_cons_zero]
              refine wpAnyH_take (i := 4) (v := ?_) rfl (by kernel_rfl) (by kernel_rfl) (by kernel_rfl) (fun _ _ _ h => h) (Or.inl ⟨by rfl, ?_⟩) hHeld ?_
              rotate_left
              · intro w9 hSw; (try dsimp only at hSw); go_simp; try with_reducible rfl
              simp only [Act.put, List.getElem_toArray, List.getElem_cons_zero, List.getElem_cons_succ, List.setIfInBounds_toArray, List.set_cons_succ, List.set_cons_zero]
              refine wpAnyH_ready (rs := [5]) (by kernel_rfl) (by simp) ?_
              refine AllReadyH.cons rfl (fun K hK => ?_) AllReadyH.nil
              go_simp
              go_at_call 52
              refine hH.mono ?_
              rintro e w5 ⟨rfl, rfl⟩
              go_wp2_with fail
              refine hK.out _ _ c0 (fun hHeld => ?_)
              clear hK K
              try simp only [Act.put, List.getElem_toArray, List.getElem_cons_zero, List.getElem_cons_succ, List.setIfInBounds_toArray, List.set_cons_succ, List.set_cons_zero]
              refine wpAnyH_take (i := 6) (v := ?_) rfl (by kernel_rfl) (by kernel_rfl) (by kernel_rfl) (fun _ _ _ h => h) (Or.inl ⟨by rfl, ?_⟩) hHeld ?_
              rotate_left
              · intro w9 hSw; (try dsimp only at hSw); go_simp; try with_reducible rfl
              simp only [Act.put, List.getElem_toArray, List.getElem_cons_zero, List.getElem_cons_succ, List.setIfInBounds_toArray, List.set_cons_succ, List.set_cons_zero]
              refine wpAnyH_take (i := 7) (v := ?_) rfl (by kernel_rfl) (by kernel_rfl) (by kernel_rfl) (fun _ _ _ h => h) (Or.inl ⟨by rfl, ?_⟩) hHeld ?_
              rotate_left
              · intro w9 hSw; (try dsimp only at hSw); go_simp; try with_reducible rfl
              simp only [Act.put, List.getElem_toArray, List.getElem_cons_zero, List.getElem_cons_succ, List.setIfInBounds_toArray, List.set_cons_succ, List.set_cons_zero]
              refine wpAnyH_take (i := 8) (v := ?_) rfl (by kernel_rfl) (by kernel_rfl) (by kernel_rfl) (fun _ _ _ h => h) (Or.inl ⟨by rfl, ?_⟩) hHeld ?_
              rotate_left
              · intro w9 hSw; (try dsimp only at hSw); go_simp; try with_reducible rfl
              simp only [Act.put, List.getElem_toArray, List.getElem_cons_zero, List.getElem_cons_succ, List.setIfInBounds_toArray, List.set_cons_succ, List.set_cons_zero]
              refine wpAnyH_take (i := 9) (v := ?_) rfl (by kernel_rfl) (by kernel_rfl) (by kernel_rfl) (fun _ _ _ h => h) (Or.inl ⟨by rfl, ?_⟩) hHeld ?_
              rotate_left
              · intro w9 hSw; (try dsimp only at hSw); go_simp; try with_reducible rfl
              simp only [Act.put, List.getElem_toArray, List.getElem_cons_zero, List.getElem_cons_succ, List.setIfInBounds_toArray, List.set_cons_succ, List.set_cons_zero]
              refine wpAnyH_take (i := 10) (v := ?_) rfl (by kernel_rfl) (by kernel_rfl) (by kernel_rfl) (fun _ _ _ h => h) (Or.inl ⟨by rfl, ?_⟩) hHeld ?_
              rotate_left
              · intro w9 hSw; (try dsimp only at hSw); go_simp; try with_reducible rfl
              simp only [Act.put, List.getElem_toArray, List.getElem_cons_zero, List.getElem_cons_succ, List.setIfInBounds_toArray, List.set_cons_succ, List.set_cons_zero]
              refine wpAnyH_take (i := 11) (v := ?_) rfl (by kernel_rfl) (by kernel_rfl) (by kernel_rfl) (fun _ _ _ h => h) (Or.inl ⟨by rfl, ?_⟩) hHeld ?_
              rotate_left
              · intro w9 hSw; (try dsimp only at hSw); go_simp; try with_reducible rfl
              simp only [Act.put, List.getElem_toArray, List.getElem_cons_zero, List.getElem_cons_succ, List.setIfInBounds_toArray, List.set_cons_succ, List.set_cons_zero]
              refine wpAnyH_take (i := 12) (v := ?_) rfl (by kernel_rfl) (by kernel_rfl) (by kernel_rfl) (fun _ _ _ h => h) (Or.inl ⟨by rfl, ?_⟩) hHeld ?_
              rotate_left
              · intro w9 hSw; (try dsimp only at hSw); go_simp; try with_reducible rfl
              simp only [Act.put, List.getElem_toArray, List.getElem_cons_zero, List.getElem_cons_succ, List.setIfInBounds_toArray, List.set_cons_succ, List.set_cons_zero]
              refine wpAnyH_take (i := 13) (v := ?_) rfl (by kernel_rfl) (by kernel_rfl) (by kernel_rfl) (fun _ _ _ h => h) (Or.inl ⟨by rfl, ?_⟩) hHeld ?_
              rotate_left
              · intro w9 hSw; (try dsimp only at hSw); go_simp; try with_reducible rfl
              simp only [Act.put, List.getElem_toArray, List.getElem_cons_zero, List.getElem_cons_succ, List.setIfInBounds_toArray, List.set_cons_succ, List.set_cons_zero]
              refine wpAnyH_ready (rs := [14]) (by kernel_rfl) (by simp) ?_
              refine AllReadyH.cons rfl (fun K hK => ?_) AllReadyH.nil
              go_simp
              go_at_call 110
              refine hF.mono ?_
              rintro e w6 ⟨rfl, rfl⟩
              go_wp2_with fail
              refine hK.out _ _ c0 (fun hHeld => ?_)
              clear hK K
              try simp only [Act.put, List.getElem_toArray, List.getElem_cons_zero, List.getElem_cons_succ, List.setIfInBounds_toArray, List.set_cons_succ, List.set_cons_zero]
              refine wpAnyH_take (i := 15) (v := ?_) rfl (by kernel_rfl) (by kernel_rfl) (by kernel_rfl) (fun _ _ _ h => h) (Or.inl ⟨by rfl, ?_⟩) hHeld ?_
              rotate_left
              · intro w9 hSw; (try dsimp only at hSw); go_simp; try with_reducible rfl
              simp only [Act.put, List.getElem_toArray, List.getElem_cons_zero, List.getElem_cons_succ, List.setIfInBounds_toArray, List.set_cons_succ, List.set_cons_zero]
              refine wpAnyH_take (i := 16) (v := ?_) rfl (by kernel_rfl) (by kernel_rfl) (by kernel_rfl) (fun _ _ _ h => h) (Or.inl ⟨by rfl, ?_⟩) hHeld ?_
              rotate_left
              · intro w9 hSw; (try dsimp only at hSw); go_simp; try with_reducible rfl
              simp only [Act.put, List.getElem_toArray, List.getElem_cons_zero, List.getElem_cons_succ, List.setIfInBounds_toArray, List.set_cons_succ, List.set_cons_zero]
              refine wpAnyH_done (by kernel_rfl) ?_ _
              clear hHeld
              by_cases hz : 0 ≤ z
              · have hz' : decide (0 ≤ z) = true := decide_eq_true hz
                have hDup : Hid (DupAt P ts m) := hDA.out.2 (.inr hz)
                go_wp2_with fail
                go_ret
                obtain ⟨hW, hX, hdup, hB⟩ := HE.out
                exact ⟨3, tag, P, U, rfl, RfW.keep (w' := wr.drew) hW (fun _ _ => rfl) ⟨rfl, rfl, rfl, Nat.le_refl _, fun _ _ => rfl, fun _ _ _ => rfl⟩, hX.trans ⟨rfl, rfl, rfl, Nat.le_refl _, fun _ _ => rfl, fun _ _ _ => rfl⟩, .inr ⟨⟨hne.out, hall'.out⟩, .inl ⟨⟨m, hml, hDup.out⟩, rfl⟩⟩⟩
              · have hz' : decide (0 ≤ z) = false := decide_eq_false hz
                have hND : Hid (¬ DupAt P ts m) := fun hD => by
                  rcases hDA.out.1 hD with e | e
                  · rw [hhas] at e; cases e
                  · exact hz e
                go_wp2_with fail
                go_roundw
                case rel =>
                  obtain ⟨hW, hX, hdup, hB⟩ := HE.out
                  refine ⟨m + 1 + 1, by omega, by omega, by go_num, fun m' hm' => ?_, hB.trans ⟨rfl, rfl, rfl, Nat.le_refl _, fun _ _ => rfl⟩⟩
                  by_cases e : m' = m
                  · subst e; exact hND.out
                  · exact hdup m' (by omega)
                case measure => simp [intOf]; omega
          · have hki : k = i := by omega
            subst hki
            have hdup' : Hid (∀ m, m < ts.length → ¬ DupAt P ts m) := fun m hm => hdup m (by have := hnO.out; omega)
            have HE := hide (⟨hW, hX⟩ : _ ∧ _)
            clear hW hX hS hdup hB
            rename World => w1
            go_wp2_with fail
            go_loopw [8] (fun iv wr => ∃ (q : Nat) (tr : Nat → RT) (Ur : RV), 1 ≤ q ∧ q ≤ k ∧ iv = .int .i64 q ∧ RfW wr tr base pb (P.puts (kindW f) (ts.take (q - 1))) Ur ∧ Ext w0 tag wr tr) (fun iv _ => k - (intOf iv).toNat)
            case atStart => exact ⟨1, tag, U, by omega, by omega, rfl, by simpa [RP.puts] using HE.out.1, HE.out.2⟩
            case round =>
              clear HE
              obtain ⟨q, tr, Ur, hq1, hq, rfl, hR, hxr⟩ := hrel
              by_cases h7 : q < k
              · have hlt : (q : Int) < (k : Int) := by omega
                obtain ⟨m, rfl⟩ : ∃ m, q = m + 1 := ⟨q - 1, by omega⟩
                have hml : m < ts.length := by have := hnO.out; omega
                have hS := hsO.out.ext hxr
                have c0 := hS.at (i := m + 1) (by simp; omega)
                have cf := hS.at (i := 0) (by simp)
                have hgd : (f :: ts).getD (m + 1) [] = ts.getD m [] := by simp
                rw [hgd] at c0
                have cf : wr.cell? ⟨b, off, none⟩ = some (.string (bs f)) := cf
                simp only [Nat.add_sub_cancel] at hR
                have hm0 : (0 : Int) ≤ (m : Int) + 1 := by omega
                have hk0 : (0 : Int) < (k : Int) := by omega
                have b1 := bs_eq f [118, 97, 114]
                have b2 := bs_eq f [102, 108, 97, 103]
                have hpl := hR.lt hR.tp (by simp)
                have hbl : b < wr.heap.size := by obtain ⟨b', o', e1, e2, _⟩ := hS 0 (by simp); cases e1; exact e2
                have hgl : ∀ KK, isN KK → ((P.puts KK (ts.take m)).get KK).length < 1048576 := fun KK hK => by
                  rw [puts_get hK, List.length_append, List.length_take]; have := hl KK; omega
                have hd : Ext wr tr wr.drew tr := ⟨rfl, rfl, rfl, Nat.le_refl _, fun _ _ => rfl, fun _ _ _ => rfl⟩
                have hRd := RfW.keep (w' := wr.drew) hR (fun _ _ => rfl) hd
                generalize hxe : ts.getD m [] = x at c0
                replace hxe := hide hxe
                by_cases f1 : f = tVar
                · have hkd : kindW f = 118 := by unfold kindW; rw [if_pos f1]
                  rw [hkd] at hR hRd
                  rw [show decide (f = [118, 97, 114]) = true from decide_eq_true f1] at b1
                  obtain ⟨g, cap', w3, hrun, cV3, fV3, tag3, hR3, hX3⟩ := hRd.name (k := 118) (.inl rfl) x (hgl 118 (.inl rfl))
                  have cV := hR.rowC (k := 118) (.inl rfl)
                  obtain ⟨va, vc, hVV, _⟩ := row_ws (hR.rows 118 (.inl rfl))
                  have HN := hide (⟨hR3, hX3, hxr.trans hd, hkd⟩ : _ ∧ _ ∧ _ ∧ _)
                  clear hR hRd hR3 hX3 hS hgd hd hgl hxr hkd f1
                  have hrun : (Builtin.append_ #[23, 23] 23 #[Ur.V 118, .slice (some ⟨wr.heap.size, 0, none⟩) 1 1]).run Tryz.prog (wr.alloc (.cells #[.string (bs x)] 9)).drew = .ok (.slice (some ⟨g, 0, none⟩) (((P.puts 118 (ts.take m)).get 118).length + 1) cap') w3 := hrun
                  rw [hVV] at hrun cV cV3
                  have cV : wr.cell? ⟨pb, 0, none⟩ = some (.slice va ((P.puts 118 (ts.take m)).get 118).length vc) := cV
                  have cV3 : w3.cell? ⟨pb, 0, none⟩ = some (.slice va ((P.puts 118 (ts.take m)).get 118).length vc) := cV3
                  have fV3 : w3.frozen? ⟨pb, 0, none⟩ = false := fV3
                  replace hVV := hide hVV
                  go_wp2_with fail
                  go_region_law (refine step_append_run rfl _ _ _ rfl rfl rfl rfl hrun ?_)
                  all_goals
                    go_wp2_with fail
                    go_roundw
                    case rel =>
                      obtain ⟨hR3, hX3, hxr, hkd⟩ := HN.out
                      have e : P.puts (kindW f) (ts.take (m + 1)) = (P.puts (kindW f) (ts.take m)).put (kindW f) x := by rw [puts_take hml, hxe.out]
                      refine ⟨m + 1 + 1, tag3, { Ur with V := putZ Ur.V (kindW f) (.slice (some ⟨g, 0, none⟩) (((P.puts (kindW f) (ts.take m)).get (kindW f)).length + 1) cap') }, by omega, by omega, by go_num, ?_, hxr.trans hX3⟩
                      show RfW _ _ _ _ (P.puts (kindW f) (ts.take (m + 1))) _
                      rw [e, hkd]
                      exact hR3
                    case measure => simp [intOf]; omega
                · rw [show decide (f = [118, 97, 114]) = false from decide_eq_false f1] at b1
                  by_cases f2 : f = tFlag
                  · have hkd : kindW f = 102 := by unfold kindW; rw [if_neg f1, if_pos f2]
                    rw [hkd] at hR hRd
                    rw [show decide (f = [102, 108, 97, 103]) = true from decide_eq_true f2] at b2
                    obtain ⟨g, cap', w3, hrun, cV3, fV3, tag3, hR3, hX3⟩ := hRd.name (k := 102) (.inr (.inl rfl)) x (hgl 102 (.inr (.inl rfl)))
                    have cV := hR.rowC (k := 102) (.inr (.inl rfl))
                    obtain ⟨va, vc, hVV, _⟩ := row_ws (hR.rows 102 (.inr (.inl rfl)))
                    have HN := hide (⟨hR3, hX3, hxr.trans hd, hkd⟩ : _ ∧ _ ∧ _ ∧ _)
                    clear hR hRd hR3 hX3 hS hgd hd hgl hxr hkd f1 f2
                    have hrun : (Builtin.append_ #[23, 23] 23 #[Ur.V 102, .slice (some ⟨wr.heap.size, 0, none⟩) 1 1]).run Tryz.prog (wr.alloc (.cells #[.string (bs x)] 9)).drew = .ok (.slice (some ⟨g, 0, none⟩) (((P.puts 102 (ts.take m)).get 102).length + 1) cap') w3 := hrun
                    rw [hVV] at hrun cV cV3
                    have cV : wr.cell? ⟨pb, 1, none⟩ = some (.slice va ((P.puts 102 (ts.take m)).get 102).length vc) := cV
                    have cV3 : w3.cell? ⟨pb, 1, none⟩ = some (.slice va ((P.puts 102 (ts.take m)).get 102).length vc) := cV3
                    have fV3 : w3.frozen? ⟨pb, 1, none⟩ = false := fV3
                    replace hVV := hide hVV
                    go_wp2_with fail
                    go_region_law (refine step_append_run rfl _ _ _ rfl rfl rfl rfl hrun ?_)
                    all_goals
                      go_wp2_with fail
                      go_roundw
                      case rel =>
                        obtain ⟨hR3, hX3, hxr, hkd⟩ := HN.out
                        have e : P.puts (kindW f) (ts.take (m + 1)) = (P.puts (kindW f) (ts.take m)).put (kindW f) x := by rw [puts_take hml, hxe.out]
                        refine ⟨m + 1 + 1, tag3, { Ur with V := putZ Ur.V (kindW f) (.slice (some ⟨g, 0, none⟩) (((P.puts (kindW f) (ts.take m)).get (kindW f)).length + 1) cap') }, by omega, by omega, by go_num, ?_, hxr.trans hX3⟩
                        show RfW _ _ _ _ (P.puts (kindW f) (ts.take (m + 1))) _
                        rw [e, hkd]
                        exact hR3
                      case measure => simp [intOf]; omega
                  · have hkd : kindW f = 109 := by unfold kindW; rw [if_neg f1, if_neg f2]
                    rw [hkd] at hR hRd
                    rw [show decide (f = [102, 108, 97, 103]) = false from decide_eq_false f2] at b2
                    obtain ⟨g, cap', w3, hrun, cV3, fV3, tag3, hR3, hX3⟩ := hRd.name (k := 109) (.inr (.inr rfl)) x (hgl 109 (.inr (.inr rfl)))
                    have cV := hR.rowC (k := 109) (.inr (.inr rfl))
                    obtain ⟨va, vc, hVV, _⟩ := row_ws (hR.rows 109 (.inr (.inr rfl)))
                    have HN := hide (⟨hR3, hX3, hxr.trans hd, hkd⟩ : _ ∧ _ ∧ _ ∧ _)
                    clear hR hRd hR3 hX3 hS hgd hd hgl hxr hkd f1 f2
                    have hrun : (Builtin.append_ #[23, 23] 23 #[Ur.V 109, .slice (some ⟨wr.heap.size, 0, none⟩) 1 1]).run Tryz.prog (wr.alloc (.cells #[.string (bs x)] 9)).drew = .ok (.slice (some ⟨g, 0, none⟩) (((P.puts 109 (ts.take m)).get 109).length + 1) cap') w3 := hrun
                    rw [hVV] at hrun cV cV3
                    have cV : wr.cell? ⟨pb, 2, none⟩ = some (.slice va ((P.puts 109 (ts.take m)).get 109).length vc) := cV
                    have cV3 : w3.cell? ⟨pb, 2, none⟩ = some (.slice va ((P.puts 109 (ts.take m)).get 109).length vc) := cV3
                    have fV3 : w3.frozen? ⟨pb, 2, none⟩ = false := fV3
                    replace hVV := hide hVV
                    go_wp2_with fail
                    go_region_law (refine step_append_run rfl _ _ _ rfl rfl rfl rfl hrun ?_)
                    all_goals
                      go_wp2_with fail
                      go_roundw
                      case rel =>
                        obtain ⟨hR3, hX3, hxr, hkd⟩ := HN.out
                        have e : P.puts (kindW f) (ts.take (m + 1)) = (P.puts (kindW f) (ts.take m)).put (kindW f) x := by rw [puts_take hml, hxe.out]
                        refine ⟨m + 1 + 1, tag3, { Ur with V := putZ Ur.V (kindW f) (.slice (some ⟨g, 0, none⟩) (((P.puts (kindW f) (ts.take m)).get (kindW f)).length + 1) cap') }, by omega, by omega, by go_num, ?_, hxr.trans hX3⟩
                        show RfW _ _ _ _ (P.puts (kindW f) (ts.take (m + 1))) _
                        rw [e, hkd]
                        exact hR3
                      case measure => simp [intOf]; omega
              · have hqk : q = k := by omega
                subst hqk
                have hts : ts.take (q - 1) = ts := List.take_of_length_le (by have := hnO.out; omega)
                rw [hts] at hR
                have cV0 := hR.rowC (k := 118) (.inl rfl)
                have cV1 := hR.rowC (k := 102) (.inr (.inl rfl))
                have cV2 := hR.rowC (k := 109) (.inr (.inr rfl))
                obtain ⟨a0, d0, e0, _⟩ := row_ws (hR.rows 118 (.inl rfl))
                obtain ⟨a1, d1, e1, _⟩ := row_ws (hR.rows 102 (.inr (.inl rfl)))
                obtain ⟨a2, d2, e2, _⟩ := row_ws (hR.rows 109 (.inr (.inr rfl)))
                rw [e0] at cV0
                rw [e1] at cV1
                rw [e2] at cV2
                have cV0 : wr.cell? ⟨pb, 0, none⟩ = some (.slice a0 (P.puts (kindW f) ts).vs.length d0) := cV0
                have cV1 : wr.cell? ⟨pb, 1, none⟩ = some (.slice a1 (P.puts (kindW f) ts).fs.length d1) := cV1
                have cV2 : wr.cell? ⟨pb, 2, none⟩ = some (.slice a2 (P.puts (kindW f) ts).ls.length d2) := cV2
                have HN := hide (⟨hR, hxr⟩ : _ ∧ _)
                generalize hPe : P.puts (kindW f) ts = P' at *
                replace hPe := hide hPe
                clear hR hxr e0 e1 e2 hts
                by_cases k0 : 4 < P'.vs.length
                · have k0' : (4 : Int) < (P'.vs.length : Int) := by omega
                  go_wp2_with fail
                  go_ret
                  exact ⟨4, tr, P', Ur, rfl, HN.out.1, HN.out.2, .inr ⟨⟨hne.out, hall'.out⟩, .inr ⟨hdup'.out, hPe.out.symm, .inl ⟨.inl k0, rfl⟩⟩⟩⟩
                · have k0' : ¬ (4 : Int) < (P'.vs.length : Int) := by omega
                  by_cases k1 : 4 < P'.fs.length
                  · have k1' : (4 : Int) < (P'.fs.length : Int) := by omega
                    go_wp2_with fail
                    go_ret
                    exact ⟨4, tr, P', Ur, rfl, HN.out.1, HN.out.2, .inr ⟨⟨hne.out, hall'.out⟩, .inr ⟨hdup'.out, hPe.out.symm, .inl ⟨.inr (.inl k1), rfl⟩⟩⟩⟩
                  · have k1' : ¬ (4 : Int) < (P'.fs.length : Int) := by omega
                    by_cases k2 : 4 < P'.ls.length
                    · have k2' : (4 : Int) < (P'.ls.length : Int) := by omega
                      go_wp2_with fail
                      go_ret
                      exact ⟨4, tr, P', Ur, rfl, HN.out.1, HN.out.2, .inr ⟨⟨hne.out, hall'.out⟩, .inr ⟨hdup'.out, hPe.out.symm, .inl ⟨.inr (.inr k2), rfl⟩⟩⟩⟩
                    · have k2' : ¬ (4 : Int) < (P'.ls.length : Int) := by omega
                      go_wp2_with fail
                      go_ret
                      exact ⟨0, tr, P', Ur, rfl, HN.out.1, HN.out.2, .inr ⟨⟨hne.out, hall'.out⟩, .inr ⟨hdup'.out, hPe.out.symm, .inr ⟨⟨by omega, by omega, by omega⟩, rfl⟩⟩⟩⟩
end Go.Proofs.YtlpdomgedaockaaGreatDoor
