import Derived.Test.YtcfpedjfofpnkaaGreatDoorRv18
import Derived.Test.YtcfpedjfofpnkaaGreatDoorRv0
import Derived.Test.YtcfpedjfofpnkaaGreatDoorCards
import Derived.Test.YtcfpedjfofpnkaaGreatDoorTie
import Derived.SizedLaws
import Derived.ShutString
import Derived.ChangeOld
import Derived.JoinedCond
import Derived.OpenShut
import Derived.Deep.DeepHandedRow
import Derived.Lib.LaidTab
import Derived.LaidSub
import Derived.ChangeMaps5
import Derived.Test.YtcfpedjfofpnkaaGreatDoorRv3
import Derived.Shelf.Strings.Builder1
import Derived.Lib.Builder
import Derived.Lib.AppendStr
import Derived.Lib.UnsafeStr
import Derived.Below
import Derived.Test.YtcfpedjfofpnkaaGreatDoorRv7
set_option linter.unusedVariables false
set_option linter.unusedSimpArgs false
namespace Go.Proofs.YtcfpedjfofpnkaaGreatDoor
open Go.RowKit Go.Proofs.Cod
structure DView (w : World) (vV fV lV tV : Value) (P : RP) (TV : List (Value × Value)) : Prop where
 v : w.ownsRow 0 9 1 vV P.vs.length (P.vs.map strW)
 f : w.ownsRow 0 9 1 fV P.fs.length (P.fs.map strW)
 l : w.ownsRow 0 9 1 lV P.ls.length (P.ls.map strW)
 t : w.ownsRow 0 111 3 tV P.thr.length ((P.thr.zip TV).flatMap thC)
 len : TV.length = P.thr.length
 c : ∀ (j : Nat) (th : RTh) (p : Value × Value), P.thr[j]? = some th → TV[j]? = some p → w.ownsRow 0 114 9 p.1 th.code.length (th.code.flatMap riC)
theorem DView.below {w w' : World} {vV fV lV tV : Value} {P : RP} {TV : List (Value × Value)} (h : DView w vV fV lV tV P TV) (hb : Below w.heap.size w w') : DView w' vV fV lV tV P TV :=
 ⟨c_belowS h.v hb, c_belowS h.f hb, c_belowS h.l hb, c_belowS h.t hb, h.len, fun j th p h1 h2 => c_belowS (h.c j th p h1 h2) hb⟩
theorem RfW.view {w : World} {tag : Nat → RT} {base pb : Nat} {P : RP} {U : RV} (h : RfW w tag base pb P U) : DView w (U.V 118) (U.V 102) (U.V 109) U.tV P U.TV := by
 have hl : ∀ {k : Int}, isN k → w.ownsRow 0 9 1 (U.V k) (P.get k).length ((P.get k).map strW) := fun hk => by
  have := (h.rows _ hk).row
  rw [List.length_map] at this
  exact c_base this (Nat.zero_le _)
 exact ⟨hl (k := 118) (by simp [isN]), hl (k := 102) (by simp [isN]), hl (k := 109) (by simp [isN]), c_base h.trow (Nat.zero_le _), h.len, fun j th p h1 h2 => c_base (h.ths j th p h1 h2).code (Nat.zero_le _)⟩
theorem DView.nil (w : World) : DView w (.slice none 0 0) (.slice none 0 0) (.slice none 0 0) (.slice none 0 0) RP.new [] :=
 ⟨World.ownsRow_nil _ _ _ _, World.ownsRow_nil _ _ _ _, World.ownsRow_nil _ _ _ _, World.ownsRow_nil _ _ _ _, rfl, (fun j th p h => by cases h)⟩
theorem ProgW.nil (w : World) (base : Nat) : ProgW w base (.slice none 0 0) (.slice none 0 0) (.slice none 0 0) (.slice none 0 0) [] [] [] [] [] :=
 ⟨World.ownsRow_nil _ _ _ _, World.ownsRow_nil _ _ _ _, World.ownsRow_nil _ _ _ _, World.ownsRow_nil _ _ _ _, (fun j p is h => by cases h), rfl⟩
theorem ProgW.below {w w' : World} {base : Nat} {vV fV lV thV : Value} {vs fs ls : List Tx} {L : List (Tx × Value)} {C : List (List In7)} (h : ProgW w base vV fV lV thV vs fs ls L C) (hb : Below w.heap.size w w') : ProgW w' base vV fV lV thV vs fs ls L C :=
 ⟨c_belowS h.v hb, c_belowS h.f hb, c_belowS h.l hb, c_belowS h.t hb, fun i p is h1 h2 => c_belowS (h.c i p is h1 h2) hb, h.len⟩
structure I9At (w : World) (g k : Nat) (r : RI) : Prop where
 c0 : w.cell? ⟨g, k * 9, none⟩ = some (.string (bs r.i.op))
 c1 : w.cell? ⟨g, k * 9 + 1, none⟩ = some (.int .i64 r.i.r)
 c2 : w.cell? ⟨g, k * 9 + 2, none⟩ = some (.bool r.i.aR)
 c3 : w.cell? ⟨g, k * 9 + 3, none⟩ = some (.int .i64 r.i.aN)
 c4 : w.cell? ⟨g, k * 9 + 4, none⟩ = some (.bool r.i.bR)
 c5 : w.cell? ⟨g, k * 9 + 5, none⟩ = some (.int .i64 r.i.bN)
 c6 : w.cell? ⟨g, k * 9 + 6, none⟩ = some (.int .i64 r.i.x)
 c7 : w.cell? ⟨g, k * 9 + 7, none⟩ = some (.int .i64 r.line)
 c8 : w.cell? ⟨g, k * 9 + 8, none⟩ = some (.string (bs r.word))
theorem i9_at {w : World} {base : Nat} {v : Value} {rs : List RI} {k : Nat} {r : RI} (h : w.ownsRow base 114 9 v rs.length (rs.flatMap riC)) (hk : rs[k]? = some r) : ∃ g cap, v = .slice (some ⟨g, 0, none⟩) rs.length cap ∧ g < w.heap.size ∧ I9At w g k r := by
 have hl := (List.getElem?_eq_some_iff.1 hk).1
 obtain ⟨g, cap, e, hg, hc⟩ := row_form h hl
 have key : ∀ q, q < 9 → w.cell? ⟨g, k * 9 + q, none⟩ = (riC r)[q]? := fun q hq => by
  rw [hc (k * 9 + q) (by omega)]; exact flat_at riC_len hk hq
 exact ⟨g, cap, e, hg, key 0 (by omega), key 1 (by omega), key 2 (by omega), key 3 (by omega), key 4 (by omega), key 5 (by omega), key 6 (by omega), key 7 (by omega), key 8 (by omega)⟩
theorem ProgW.thrAt {w : World} {base : Nat} {vV fV lV thV : Value} {vs fs ls : List Tx} {L : List (Tx × Value)} {C : List (List In7)} (h : ProgW w base vV fV lV thV vs fs ls L C) {j : Nat} {p : Tx × Value} (hj : L[j]? = some p) : ∃ g cap, thV = .slice (some ⟨g, 0, none⟩) L.length cap ∧ g < w.heap.size ∧ w.cell? ⟨g, j * 2, none⟩ = some (.string (bs p.1)) ∧ w.cell? ⟨g, j * 2 + 1, none⟩ = some p.2 := by
 have hl := (List.getElem?_eq_some_iff.1 hj).1
 obtain ⟨g, cap, e, hg, hc⟩ := row_form h.t hl
 have key : ∀ q, q < 2 → w.cell? ⟨g, j * 2 + q, none⟩ = [Value.string (bs p.1), p.2][q]? := fun q hq => by
  rw [hc (j * 2 + q) (by omega)]; exact flat_at (f := fun p : Tx × Value => [Value.string (bs p.1), p.2]) thrL_len hj hq
 exact ⟨g, cap, e, hg, key 0 (by omega), key 1 (by omega)⟩
theorem DView.thrAt {w : World} {vV fV lV tV : Value} {P : RP} {TV : List (Value × Value)} (h : DView w vV fV lV tV P TV) {j : Nat} {th : RTh} {p : Value × Value} (hj : P.thr[j]? = some th) (hp : TV[j]? = some p) : ∃ g cap, tV = .slice (some ⟨g, 0, none⟩) P.thr.length cap ∧ g < w.heap.size ∧ w.cell? ⟨g, j * 3, none⟩ = some (.string (bs th.name)) ∧ w.cell? ⟨g, j * 3 + 1, none⟩ = some p.1 := by
 have hl := (List.getElem?_eq_some_iff.1 hj).1
 obtain ⟨g, cap, e, hg, hc⟩ := row_form h.t hl
 have hz : (P.thr.zip TV)[j]? = some (th, p) := by rw [List.getElem?_zip_eq_some]; exact ⟨hj, hp⟩
 have key : ∀ q, q < 3 → w.cell? ⟨g, j * 3 + q, none⟩ = (thC (th, p))[q]? := fun q hq => by
  rw [hc (j * 3 + q) (by omega)]; exact flat_at thC_len hz hq
 exact ⟨g, cap, e, hg, key 0 (by omega), key 1 (by omega)⟩
end Go.Proofs.YtcfpedjfofpnkaaGreatDoor
namespace Go.Proofs.YtcfpedjfofpnkaaGreatDoor
open Go.RowKit Go.Shelf Go.Proofs.Cod
def PV (t : Tx) (er ln : Int) (vs fs ls ts : List Tx) (C : List (List In7)) : Prop := match parseT t with
 | .error p => er = p.1 ∧ ln = p.2 ∧ vs = [] ∧ fs = [] ∧ ls = [] ∧ ts = [] ∧ C = []
 | .ok p => er = 0 ∧ ln = 0 ∧ vs = p.1.nms 118 ∧ fs = p.1.nms 102 ∧ ls = p.1.nms 109 ∧ ts = p.1.nms 116 ∧ C = p.2
theorem PV.eq {t : Tx} {er ln er' ln' : Int} {vs fs ls ts vs' fs' ls' ts' : List Tx} {C C' : List (List In7)} (h : PV t er ln vs fs ls ts C) (h' : PV t er' ln' vs' fs' ls' ts' C') : er = er' ∧ ln = ln' ∧ vs = vs' ∧ fs = fs' ∧ ls = ls' ∧ ts = ts' ∧ C = C' := by
 unfold PV at h h'
 split at h <;> rename_i p hp <;> rw [hp] at h'
 ·obtain ⟨a1, a2, a3, a4, a5, a6, a7⟩ := h
  obtain ⟨b1, b2, b3, b4, b5, b6, b7⟩ := h'
  exact ⟨a1.trans b1.symm, a2.trans b2.symm, a3.trans b3.symm, a4.trans b4.symm, a5.trans b5.symm, a6.trans b6.symm, a7.trans b7.symm⟩
 ·obtain ⟨a1, a2, a3, a4, a5, a6, a7⟩ := h
  obtain ⟨b1, b2, b3, b4, b5, b6, b7⟩ := h'
  exact ⟨a1.trans b1.symm, a2.trans b2.symm, a3.trans b3.symm, a4.trans b4.symm, a5.trans b5.symm, a6.trans b6.symm, a7.trans b7.symm⟩
theorem parse_told {w : World} {t : Tx} {e : Ending} {w' : World} (h : ParseR w t e w') : Below w.heap.size w w' ∧ ∃ er ln vV fV lV thV vs fs ls L C, e = .returned (.tuple #[.agg #[vV, fV, lV, thV], .int .i64 er, .int .i64 ln]) ∧ ProgW w' w.heap.size vV fV lV thV vs fs ls L C ∧ PV t er ln vs fs ls (L.map Prod.fst) C := by
 obtain ⟨hB, (⟨er, ln, he, rfl⟩ | ⟨s, C, vV, fV, lV, thV, L, he, rfl, hPW, hLn⟩)⟩ := h
 ·exact ⟨hB, er, ln, _, _, _, _, [], [], [], [], [], rfl, ProgW.nil _ _, by unfold PV; rw [he]; exact ⟨rfl, rfl, rfl, rfl, rfl, rfl, rfl⟩⟩
 ·exact ⟨hB, 0, 0, _, _, _, _, _, _, _, L, C, rfl, hPW, by unfold PV; rw [he]; exact ⟨rfl, rfl, rfl, rfl, rfl, hLn, rfl⟩⟩
structure QView (w : World) (base : Nat) (vV fV lV tV : Value) (P : RP) (TV : List (Value × Value)) : Prop where
 v : w.ownsRow base 9 1 vV P.vs.length (P.vs.map strW)
 f : w.ownsRow base 9 1 fV P.fs.length (P.fs.map strW)
 l : w.ownsRow base 9 1 lV P.ls.length (P.ls.map strW)
 t : w.ownsRow base 111 3 tV P.thr.length ((P.thr.zip TV).flatMap thC)
 len : TV.length = P.thr.length
 c : ∀ (j : Nat) (th : RTh) (p : Value × Value), P.thr[j]? = some th → TV[j]? = some p → w.ownsRow base 114 9 p.1 th.code.length (th.code.flatMap riC)
theorem QView.view {w : World} {base : Nat} {vV fV lV tV : Value} {P : RP} {TV : List (Value × Value)} (h : QView w base vV fV lV tV P TV) : DView w vV fV lV tV P TV :=
 ⟨c_base h.v (Nat.zero_le _), c_base h.f (Nat.zero_le _), c_base h.l (Nat.zero_le _), c_base h.t (Nat.zero_le _), h.len, fun j th p h1 h2 => c_base (h.c j th p h1 h2) (Nat.zero_le _)⟩
theorem c_above {w w' : World} {base e size n : Nat} {v : Value} {xs : List Value} (h : w.ownsRow base e size v n xs) (hb : ∀ k, base ≤ k → k < w.heap.size → w'.heap[k]? = w.heap[k]?) : w'.ownsRow base e size v n xs := owns_same h fun g e => hb g (h.lt g e).1 (h.lt g e).2
theorem QView.above {w w' : World} {base : Nat} {vV fV lV tV : Value} {P : RP} {TV : List (Value × Value)} (h : QView w base vV fV lV tV P TV) (hb : ∀ k, base ≤ k → k < w.heap.size → w'.heap[k]? = w.heap[k]?) : QView w' base vV fV lV tV P TV :=
 ⟨c_above h.v hb, c_above h.f hb, c_above h.l hb, c_above h.t hb, h.len, fun j th p h1 h2 => c_above (h.c j th p h1 h2) hb⟩
theorem RfW.qview {w : World} {tag : Nat → RT} {base pb : Nat} {P : RP} {U : RV} (h : RfW w tag base pb P U) : QView w base (U.V 118) (U.V 102) (U.V 109) U.tV P U.TV := by
 have hl : ∀ {k : Int}, isN k → w.ownsRow base 9 1 (U.V k) (P.get k).length ((P.get k).map strW) := fun hk => by
  have := (h.rows _ hk).row
  rw [List.length_map] at this
  exact this
 exact ⟨hl (k := 118) (by simp [isN]), hl (k := 102) (by simp [isN]), hl (k := 109) (by simp [isN]), h.trow, h.len, fun j th p h1 h2 => (h.ths j th p h1 h2).code⟩
theorem QView.nil (w : World) (base : Nat) : QView w base (.slice none 0 0) (.slice none 0 0) (.slice none 0 0) (.slice none 0 0) RP.new [] :=
 ⟨World.ownsRow_nil _ _ _ _, World.ownsRow_nil _ _ _ _, World.ownsRow_nil _ _ _ _, World.ownsRow_nil _ _ _ _, rfl, (fun j th p h => by cases h)⟩
theorem rparse_told {w : World} {t : Tx} {e : Ending} {w' : World} (h : RParseR w t e w') : Below w.heap.size w w' ∧ ∃ er ln vV fV lV tV P TV, e = .returned (.tuple #[.agg #[vV, fV, lV, tV], .int .i64 er, .int .i64 ln]) ∧ QView w' w.heap.size vV fV lV tV P TV ∧ PV t er ln P.vs P.fs P.ls P.names (P.thr.map fun th => th.code.map RI.i) := by
 obtain ⟨hB, (⟨er, ln, he, rfl⟩ | ⟨s, C, tag, pb, P, U, he, rfl, hW, hK, hC⟩)⟩ := h
 ·exact ⟨hB, er, ln, _, _, _, _, RP.new, [], rfl, QView.nil _ _, by unfold PV; rw [he]; exact ⟨rfl, rfl, rfl, rfl, rfl, rfl, rfl⟩⟩
 ·refine ⟨hB, 0, 0, _, _, _, _, P, U.TV, rfl, hW.qview, ?_⟩
  unfold PV
  rw [he]
  have k1 := hK 118 (by simp [isK])
  have k2 := hK 102 (by simp [isK])
  have k3 := hK 109 (by simp [isK])
  have k4 := hK 116 (by simp [isK])
  exact ⟨rfl, rfl, k1.symm, k2.symm, k3.symm, k4.symm, hC.symm⟩
set_option maxRecDepth 100000 in
theorem parse_full (t : Tx) (w : World) (hh : Heads w) (hs : Shapes w) (h1 : 0 < w.heap.size) (h2 : 2 < w.heap.size) : Calls Tryz.prog 23 #[.string (bs t)] w (ParseR w t) := by
 by_cases hlen : t.length < 140737488355328
 ·exact parse_any t w hh hs h1 h2 hlen
 ·have hz := bs_size t
  have hl : 3000 < t.length := Nat.lt_of_lt_of_le (by decide) (Nat.le_of_not_lt hlen)
  have hl' : (3000 : Int) < (t.length : Int) := by omega
  have hP : Hid (parseT t = .error (1, 0)) := by unfold Hid parseT; rw [if_pos hl]
  have HB : Hid (∀ x, Below w.heap.size w (w.alloc x)) := fun x => (Below.refl _ _).alloc (Nat.le_refl _) _
  clear hlen hl hh hs h1 h2
  go_enter Tryz.func23, Tryz.ntmps23
  go_wp2_with fail
  exact bodyPost_ret (prog_val rfl rfl rfl rfl (World.alloc_heap_new w _)) rfl ⟨HB.out _, .inl ⟨1, 0, hP.out, rfl⟩⟩
set_option maxRecDepth 100000 in
theorem rParse_full (t : Tx) (w : World) : Calls Tryz.prog 26 #[.string (bs t)] w (RParseR w t) := by
 by_cases hlen : t.length < 140737488355328
 ·exact rParse_any t w hlen
 ·have hz := bs_size t
  have h3 : 3000 < t.length := Nat.lt_of_lt_of_le (by decide) (Nat.le_of_not_lt hlen)
  have hP : Hid (parseT t = .error (1, 0)) := by unfold Hid parseT; rw [if_pos h3]
  have h3' : (3000 : Int) < (t.length : Int) := by omega
  clear hlen h3
  go_enter Tryz.func26, Tryz.ntmps26
  go_wp2_with fail
  exact bodyPost_ret (rprog_val rfl rfl rfl rfl (World.alloc_heap_new w _)) rfl ⟨(Below.refl _ _).alloc (Nat.le_refl _) _, .inl ⟨1, 0, hP.out, rfl⟩⟩
end Go.Proofs.YtcfpedjfofpnkaaGreatDoor
namespace Go.Proofs.YtcfpedjfofpnkaaGreatDoor
open Go.ChangeShapes Go.WideShapes Go.ChangeAt Go.RowKit Go.Proofs.Cod
set_option linter.unusedVariables false
theorem Tryz.own : ownKnob Tryz.prog.godebug = none := by kernel_rfl
theorem Tryz.laidOut : laidOutB Tryz.prog = true := by kernel_rfl
def litV : Lit → Value
 | .string b => .string ⟨b.toArray⟩
 | .int k n => .int k n
 | _ => .int .i64 0
section
variable {H : Type} {enc : TypeId × Value → H} {P : Program} {w : World} {base : Nat} {sp : Nat → Bool} {held : Bool}
theorem cell_of_lit {fuel : Nat} {t : TypeId} {cs : List Value} {x : Lit} {p : List MemPlace} (ht : P.underlying t = some .string ∨ P.underlying t = some (.int .u8)) (h : DataW.trod enc P w base sp held fuel t cs = some (.lit x, p)) : cs = [litV x] := by
 rcases ht with ht | ht
 ·obtain ⟨s, hc, hx, hs⟩ := DataW.trod_string ht h
  have e : DataW.lit (H := H) x = .lit (.string s.data.toList) := (congrArg Prod.fst hx)
  cases e
  rw [hc]; rfl
 ·obtain ⟨z, hc, hx, _⟩ := DataW.trod_int ht h
  have e : DataW.lit (H := H) x = .lit (.int .u8 z) := (congrArg Prod.fst hx)
  cases e
  rw [hc]; rfl
theorem pair_of {fuel : Nat} {e : TypeId} {f0 f1 : Field} {cs : List Value} {s : List UInt8} {x : Lit} {p : List MemPlace} (he : P.underlying e = some (.struct #[f0, f1])) (o0 : f0.offset = 0) (o1 : f1.offset = 1) (t0 : P.underlying f0.type = some .string) (t1 : P.underlying f1.type = some .string ∨ P.underlying f1.type = some (.int .u8)) (c0 : P.cellsOf f0.type = 1) (c1 : P.cellsOf f1.type = 1) (ce : P.cellsOf e = 2)
 (h : DataW.trod enc P w base sp held fuel e cs = some (.agg [.lit (.string s), .lit x], p)) : cs = [.string ⟨s.toArray⟩, litV x] := by
 obtain ⟨xs, n, rfl, hx, hl, hxl, hall⟩ := DataW.trod_struct he h
 have hm : xs.map (·.1) = [.lit (.string s), .lit x] := by
  have e1 := congrArg Prod.fst hx
  have e1 : DataW.agg (H := H) [.lit (.string s), .lit x] = .agg (xs.map (·.1)) := e1
  injection e1 with e2
  exact e2.symm
 obtain ⟨⟨d0, p0⟩, ⟨d1, p1⟩, rfl⟩ : ∃ a b, xs = [a, b] := by
  have : xs.length = 2 := by simpa using hxl
  match xs, this with
  | [a, b], _ => exact ⟨a, b, rfl⟩
 have hm : [d0, d1] = [DataW.lit (.string s), .lit x] := hm
 cases hm
 have h0 := hall 0 f0 rfl
 have h1 := hall 1 f1 rfl
 rw [o0, c0] at h0
 rw [o1, c1] at h1
 have r0 := cell_of_lit (.inl t0) h0
 have r1 := cell_of_lit t1 h1
 rw [ce] at hl
 match cs, hl with
 | [a, b], _ =>
  have r0 : [a] = [litV (.string s)] := r0
  have r1 : [b] = [litV x] := r1
  cases r0; cases r1
  rfl
theorem twos {α : Type} (g : α → List Value) : ∀ (l : List α) (cs : List Value), cs.length = l.length * 2 → (∀ i q, l[i]? = some q → (cs.drop (i * 2)).take 2 = g q) → cs = l.flatMap g
 | [], cs, hl, _ => by
  have : cs.length = 0 := by simpa using hl
  rw [List.eq_nil_of_length_eq_zero this]; rfl
 | q :: l, cs, hl, h => by
  have h0 : cs.take 2 = g q := by simpa using h 0 q rfl
  have ih := twos g l (cs.drop 2) (by rw [List.length_drop, hl, List.length_cons]; omega) (fun i q' hq => by
   have := h (i + 1) q' (by simpa using hq)
   rw [List.drop_drop, show 2 + i * 2 = (i + 1) * 2 by omega]; exact this)
  rw [List.flatMap_cons, ← h0, ← ih, List.take_append_drop]
theorem pairs_of {fuel : Nat} {t e : TypeId} {n : Nat} {f0 f1 : Field} {cs : List Value} {l : List (List UInt8 × Lit)} {p : List MemPlace} (ht : P.underlying t = some (.array n e)) (he : P.underlying e = some (.struct #[f0, f1])) (o0 : f0.offset = 0) (o1 : f1.offset = 1) (t0 : P.underlying f0.type = some .string) (t1 : P.underlying f1.type = some .string ∨ P.underlying f1.type = some (.int .u8)) (c0 : P.cellsOf f0.type = 1) (c1 : P.cellsOf f1.type = 1) (ce : P.cellsOf e = 2) (ct : P.cellsOf t = n * 2)
 (h : DataW.trod enc P w base sp held fuel t cs = some (.agg (l.map fun q => .agg [.lit (.string q.1), .lit q.2]), p)) : cs = l.flatMap fun q => [.string ⟨q.1.toArray⟩, litV q.2] := by
 cases fuel with
 | zero => simp [DataW.trod] at h
 | succ fuel =>
  simp only [DataW.trod, ht, ce, ct] at h
  split at h
  ·rename_i hl
   obtain ⟨xs, hm, hx⟩ := Option.map_eq_some_iff.1 h
   have hxs : xs.map (·.1) = l.map fun q => (DataW.agg [.lit (.string q.1), .lit q.2] : DataW H) := by
    have e1 := congrArg Prod.fst hx
    have e1 : DataW.agg (H := H) (xs.map (·.1)) = .agg (l.map fun q => .agg [.lit (.string q.1), .lit q.2]) := e1
    injection e1
   have hxl : xs.length = n := by simpa using Lib.mapM_length hm
   have hll : l.length = n := by
    have := congrArg List.length hxs
    simp at this
    omega
   refine twos _ l cs (by rw [hll]; exact hl) (fun i q hq => ?_)
   have hi : i < n := by have := (List.getElem?_eq_some_iff.1 hq).1; omega
   obtain ⟨b, hb, hf⟩ := Lib.mapM_at hm i i (by simp [hi])
   have h2 : (xs.map (·.1))[i]? = some b.1 := by simp [hb]
   rw [hxs, List.getElem?_map, hq] at h2
   have h2 : b.1 = .agg [.lit (.string q.1), .lit q.2] := (Option.some.inj h2).symm
   obtain ⟨b1, b2⟩ := b
   have h2 : b1 = .agg [.lit (.string q.1), .lit q.2] := h2
   subst h2
   exact pair_of he o0 o1 t0 t1 c0 c1 ce hf
  ·cases h
end
theorem var_pairs {W : World} {name : String} {l : List (List UInt8 × Lit)} {g : Nat} {t e : TypeId} {n : Nat} {f0 f1 : Field} (hg : Tryz.prog.globalNamed name = some g) (hty : (Tryz.prog.globals[g]?).map (·.type) = some t) (ht : Tryz.prog.underlying t = some (.array n e)) (he : Tryz.prog.underlying e = some (.struct #[f0, f1])) (o0 : f0.offset = 0) (o1 : f1.offset = 1) (t0 : Tryz.prog.underlying f0.type = some .string) (t1 : Tryz.prog.underlying f1.type = some .string ∨ Tryz.prog.underlying f1.type = some (.int .u8)) (c0 : Tryz.prog.cellsOf f0.type = 1) (c1 : Tryz.prog.cellsOf f1.type = 1) (ce : Tryz.prog.cellsOf e = 2) (ct : Tryz.prog.cellsOf t = n * 2)
 (hrow : (((begin Tryz.prog (fun _ _ => 0) default).world.heap[g]?).bind Obj.row?).map (·.2) = some t) (hgl : g < Tryz.prog.globals.size) (hsh : W.ShapedOpen Tryz.prog)
 (h : laidMet Tryz.prog [(name, .agg (l.map fun q => .agg [.lit (.string q.1), .lit q.2]))] W) : ∃ fr, W.heap[g]? = some (.cells (l.flatMap fun q => [.string ⟨q.1.toArray⟩, litV q.2]).toArray t fr) := by
 obtain ⟨ps, ⟨g', t', cs, fuel, p, q, hg', ht', hvar, hd, _, _⟩, _⟩ := h
 obtain rfl := Option.some.inj (hg.symm.trans hg')
 obtain rfl := Option.some.inj (hty.symm.trans ht')
 have hcs := pairs_of ht he o0 o1 t0 t1 c0 c1 ce ct hd
 obtain ⟨⟨zero, tt⟩, hz, e1⟩ := Option.map_eq_some_iff.1 hrow
 have e1 : tt = t := e1
 subst e1
 obtain ⟨cs', hc', -, -⟩ := hsh.1 g zero tt hgl hz
 unfold World.var? at hvar
 rw [hg] at hvar
 simp only [Option.bind_some] at hvar
 rw [hc'] at hvar
 have hvar : some cs' = some cs := hvar
 cases hvar
 refine ⟨(0, 0), ?_⟩
 rw [hc', ← hcs]
def laidAll : List (String × DataW Unit) := [("math/bits.deBruijn32tab", Rows.laid_math_bits_deBruijn32tab), ("math/bits.deBruijn64tab", Rows.laid_math_bits_deBruijn64tab), ("internal/strconv.uint64pow10", Rows.laid_internal_strconv_uint64pow10), ("unicode/utf8.acceptRanges", Rows.laid_unicode_utf8_acceptRanges), ("strconv.ErrRange", Rows.laid_strconv_ErrRange), ("strconv.ErrSyntax", Rows.laid_strconv_ErrSyntax), ("weave/code.headings", Rows.laid_weave_code_headings), ("weave/code.shapes", Rows.laid_weave_code_shapes), ("unicode/utf8.first", Rows.laid_unicode_utf8_first)]
def headD : List (List UInt8 × Lit) := [(tVar, .int .u8 118), (tFlag, .int .u8 102), (tLock, .int .u8 109)]
def shapeD : List (List UInt8 × Lit) := shapeT.map fun p => (p.1, .string p.2)
set_option maxRecDepth 100000 in
theorem tabs_of {W : World} (h : laidMetH Tryz.prog laidAll W) (hsh : W.ShapedOpen Tryz.prog) : Tabs W 3 := by
 have hM : laidMet Tryz.prog laidAll W := h
 have h1 : laidMet Tryz.prog [("internal/strconv.uint64pow10", Lib.tabData .u64 Lib.pow10Tab)] W := hM.filter (fun x => x.1 == "internal/strconv.uint64pow10")
 have h2 : laidMet Tryz.prog [("weave/code.headings", .agg (headD.map fun q => .agg [.lit (.string q.1), .lit q.2]))] W := hM.filter (fun x => x.1 == "weave/code.headings")
 have h3 : laidMet Tryz.prog [("weave/code.shapes", .agg (shapeD.map fun q => .agg [.lit (.string q.1), .lit q.2]))] W := hM.filter (fun x => x.1 == "weave/code.shapes")
 refine ⟨?_, ?_, Lib.tabIs_of_head (rest := []) Tryz.powG (by kernel_rfl) Tryz.underlying211 Tryz.underlying190 (by kernel_rfl) (by kernel_rfl) h1, Nat.le_refl _⟩
 ·have := var_pairs (g := 0) (by kernel_rfl) (by kernel_rfl) Tryz.underlying204 Tryz.underlying203 rfl rfl Tryz.underlying9 (.inr Tryz.underlying5) (by kernel_rfl) (by kernel_rfl) (by kernel_rfl) (by kernel_rfl) (by kernel_rfl) (of_decide_eq_true (by kernel_rfl)) hsh h2
  obtain ⟨fr, e⟩ := this
  rw [show (headD.flatMap fun q => [Value.string ⟨q.1.toArray⟩, litV q.2]).toArray = tabC headL by kernel_rfl] at e
  exact ⟨fr, e⟩
 ·have := var_pairs (g := 2) (by kernel_rfl) (by kernel_rfl) Tryz.underlying220 Tryz.underlying219 rfl rfl Tryz.underlying9 (.inl Tryz.underlying9) (by kernel_rfl) (by kernel_rfl) (by kernel_rfl) (by kernel_rfl) (by kernel_rfl) (of_decide_eq_true (by kernel_rfl)) hsh h3
  obtain ⟨fr, e⟩ := this
  rw [show (shapeD.flatMap fun q => [Value.string ⟨q.1.toArray⟩, litV q.2]).toArray = tabC shapeL by kernel_rfl] at e
  exact ⟨fr, e⟩
def litC : DataW Unit → Value
 | .lit x => litV x
 | _ => .int .i64 0
def cells1 : DataW Unit → Array Value
 | .agg l => (l.map litC).toArray
 | _ => #[]
def cells2 : DataW Unit → Array Value
 | .agg l => (l.flatMap fun d => (cells1 d).toList).toArray
 | _ => #[]
def errText : DataW Unit → ByteArray
 | .iface _ (.ptr (.agg [.lit (.string b)])) => ⟨b.toArray⟩
 | _ => .empty
noncomputable def low : Nat := (World.holding Tryz.prog default ⟨#[], #[], []⟩).heap.size
def put (cs : Array Value) : Obj → Obj
 | .cells _ t frozen => .cells cs t frozen
 | o => o
noncomputable def laidWorld (os : Os) : World :=
 let w0 := World.holding Tryz.prog os ⟨#[.cells #[.string (errText Rows.laid_strconv_ErrRange)] 250, .cells #[.string (errText Rows.laid_strconv_ErrSyntax)] 250], #[], []⟩
 { w0 with heap := ((((((((w0.heap.modify 6 (put (cells1 Rows.laid_math_bits_deBruijn32tab))).modify 7 (put (cells1 Rows.laid_math_bits_deBruijn64tab))).modify 1 (put (cells1 Rows.laid_internal_strconv_uint64pow10))).modify 4 (put (cells2 Rows.laid_unicode_utf8_acceptRanges))).modify 9 (put #[.iface 248 (.pointer (some ⟨low, 0, none⟩))])).modify 8 (put #[.iface 248 (.pointer (some ⟨low + 1, 0, none⟩))])).modify 0 (put (cells2 Rows.laid_weave_code_headings))).modify 2 (put (cells2 Rows.laid_weave_code_shapes))).modify 3 (put (cells1 Rows.laid_unicode_utf8_first)) }
end Go.Proofs.YtcfpedjfofpnkaaGreatDoor
namespace Go.Proofs
open Go.Shelf
shelf_lay Lays.n169 Nm 169 at Tryz as Tryz.lays169
set_option maxRecDepth 100000 in
theorem Tryz.extra169 : Builder.Extra Tryz.prog Tryz.lays169_ren := { sizeBuilder := by kernel_rfl, liesBuilder := by kernel_rfl, t5 := Tryz.underlying5, a5 := Tryz.isAgg5, z5 := Tryz.sizeOf5, v5 := Tryz.zeroValue5, infoByte := by kernel_rfl, cellsByte := by kernel_rfl, sizeByte := by kernel_rfl, neB5 := by decide }
end Go.Proofs
namespace Go.Proofs.YtcfpedjfofpnkaaGreatDoor
open Go.RowKit Go.Shelf Go.Proofs.Cod
theorem Tryz.infoU8b : (Tryz.prog.info? 5).map (fun i => (i.zero, i.size, i.bytes)) = some (some (.int .u8 0), 1, 1) := by kernel_rfl
theorem Tryz.sizeBdb : (Tryz.prog.info? 101).map (·.size) = some 2 := by kernel_rfl
theorem Tryz.liesBdb : liesAt Tryz.prog Tryz.prog.depth 101 (2 / Tryz.prog.cellsOf 101) 0 101 1 = true := by kernel_rfl
structure BWv (w : World) (B b : Nat) (buf : Value) (out : Tx) : Prop where
 cell : ∃ p, (p = .pointer none ∨ p = .pointer (some ⟨b, 0, none⟩)) ∧ w.heap[b]? = some (.cells #[p, buf] 101)
 row : w.ownsRow B 5 1 buf out.length (Lib.byteCells out)
 ne : buf.ownBlock ≠ some b
 hb : B ≤ b
def BW (w : World) (B b : Nat) (out : Tx) : Prop := ∃ buf, BWv w B b buf out
section
variable {w w' : World} {B b : Nat} {buf : Value} {out : Tx}
theorem BWv.lt (h : BWv w B b buf out) : b < w.heap.size := by
 obtain ⟨p, _, hp⟩ := h.cell
 exact (Array.getElem?_eq_some_iff.1 hp).1
theorem BW.below (h : BW w B b out) (hb : Below w.heap.size w w') : BW w' B b out := by
 obtain ⟨buf, h⟩ := h
 have hl := h.lt
 obtain ⟨p, q1, q2⟩ := h.cell
 exact ⟨buf, ⟨p, q1, (hb.block b hl).trans q2⟩, owns_same h.row (fun g e => hb.block g (h.row.lt g e).2), h.ne, h.hb⟩
theorem BW.fresh (w : World) : BW (w.alloc (.cells #[.pointer none, .slice none 0 0] 101)) w.heap.size w.heap.size [] :=
 ⟨.slice none 0 0, ⟨_, .inl rfl, by show (w.heap.push _)[w.heap.size]? = _; simp⟩, World.ownsRow_nil _ _ _ _, by simp [Value.ownBlock], Nat.le_refl _⟩
set_option maxHeartbeats 1000000 in
set_option maxRecDepth 100000 in
theorem bCheck_any (h : BWv w B b buf out) : Calls Tryz.prog 91 #[.pointer (some ⟨b, 0, none⟩)] w fun e w' => e = .returned (.tuple #[]) ∧ w'.heap[b]? = some (.cells #[.pointer (some ⟨b, 0, none⟩), buf] 101) ∧ w'.heap.size = w.heap.size ∧ (∀ k, k ≠ b → w'.heap[k]? = w.heap[k]?) ∧ w'.os = w.os ∧ w'.tape = w.tape ∧ w'.output = w.output := by
 obtain ⟨j, hj, hjs⟩ := Option.map_eq_some_iff.1 Tryz.sizeBdb
 obtain ⟨p, h1, hp⟩ := h.cell
 have c4 : w.cell? ⟨b, 0, none⟩ = some p := by simp [World.cell?, hp]
 have hsh : w.shape? b = some (101, 2) := by simp [World.shape?, hp]
 have f4 : w.frozen? ⟨b, 0, none⟩ = false := by simp [World.frozen?, hp]
 have HP := hide hp
 clear h hp
 rcases h1 with rfl | rfl
 ·go_enter Tryz.func91, Tryz.ntmps91
  go_wp2
  rw [Lib.run_to_unsafe w ⟨b, 0, none⟩ Tryz.underlying98 Tryz.underlying187 hj (by rw [hjs]; decide) hsh (by show 0 < 2; omega)]
  simp only [Result.andThen]
  rw [Oper.upon_value]
  go_wp2
  rw [run_callFunc_extern Tryz.func104 (by kernel_rfl) (by kernel_rfl) (by kernel_rfl) (e := Extern.AbiNoEscape.same) (by kernel_rfl)]
  rw [Lib.run_noEscape]
  simp only [Result.andThen]
  rw [Oper.upon_value]
  go_wp2
  rw [Lib.run_from_unsafe w ⟨b, 0, none⟩ Tryz.underlying187 Tryz.underlying98 hj hsh Tryz.liesBdb]
  simp only [Result.andThen]
  rw [Oper.upon_value]
  go_wp2
  go_end0
  exact ⟨rfl, (heap_setCell_same _ b 0 _ _ _ HP.out).trans rfl, by simp, fun k hk => Below.heap_setCell _ ⟨b, 0, none⟩ _ k hk, rfl, rfl, rfl⟩
 ·go_enter Tryz.func91, Tryz.ntmps91
  go_wp2
  rw [Lib.run_neq_ptr_same w _ Tryz.underlying98 hj]
  go_wp2
  go_end0
  exact ⟨rfl, HP.out, rfl, fun _ _ => rfl, rfl, rfl, rfl⟩
set_option maxHeartbeats 1000000 in
set_option maxRecDepth 100000 in
theorem bString_any (h : BW w B b out) (s : Tx) (hlen : out.length + s.length ≤ 140737488355328) (hbw : B ≤ w.heap.size) :
 Calls Tryz.prog 74 #[ptrV b, .string (bs s)] w fun e w' => e = .returned (.tuple #[.int .i64 s.length, .nilIface]) ∧ BW w' B b (out ++ s) ∧ Below B w w' := by
 obtain ⟨buf, h⟩ := h
 obtain ⟨i0, hi, hz0, hz1, hz2⟩ := info_parts Tryz.infoU8b
 have hzs := bs_size s
 have hC := hide (bCheck_any h)
 have H := hide h
 clear h
 unfold ptrV
 go_enter Tryz.func74, Tryz.ntmps74
 go_wp2_with fail
 refine hC.out.mono ?_
 rintro e w1 ⟨rfl, hbk, hsz1, hk1, ho1, ht1, hp1⟩
 have hown : w1.ownsRow B 5 1 buf out.length (Lib.byteCells out) := owns_same H.out.row fun g e => hk1 g (fun e' => H.out.ne (by rw [e, e']))
 have c5 : w1.cell? ⟨b, 1, none⟩ = some buf := by simp [World.cell?, hbk]
 have HB := hide (⟨hbk, hsz1, hk1, ho1, ht1, hp1⟩ : _ ∧ _ ∧ _ ∧ _ ∧ _ ∧ _)
 clear hbk hsz1 hk1 ho1 ht1 hp1
 go_wp2_with (at_builtin; refine Lib.wpList_append_own_string _ rfl _ _ 99 9 rfl B 5 i0 Tryz.underlying99 Tryz.underlying9 hi hz0 hz1 hz2 _ _ _ rfl hown (bs s) rfl ?c3 ?c4 ?c5 ?_)
 case c3 => rw [hzs]; unfold maxLen; omega
 case c4 => rw [hzs]; exact hlen
 case c5 => have := HB.out.2.1; omega
 intro v' w2 hown' hgrow hnil
 obtain ⟨hbk, hsz1, hk1, ho1, ht1, hp1⟩ := HB.out
 have hb2 : w2.heap[b]? = some (.cells #[.pointer (some ⟨b, 0, none⟩), buf] 101) := (hgrow.block b (by rw [hsz1]; exact H.out.lt) (fun e => H.out.ne e.symm)).trans hbk
 have d5 : w2.cell? ⟨b, 1, none⟩ = some buf := by simp [World.cell?, hb2]
 have f5 : w2.frozen? ⟨b, 1, none⟩ = false := by simp [World.frozen?, hb2]
 obtain ⟨ao, n', cap, rfl⟩ : ∃ ao n' cap, v' = .slice ao n' cap := by
  rcases hown'.2 with ⟨hv, _⟩ | ⟨g, cap, cur, hv, _⟩
  ·exact ⟨_, _, _, hv⟩
  ·exact ⟨_, _, _, hv⟩
 have HB2 := hide (⟨hb2, hown', hgrow⟩ : _ ∧ _ ∧ _)
 clear hb2 hown' hgrow hnil hbk hsz1 hk1 ho1 ht1 hp1 hown
 go_wp2
 go_ret2
 obtain ⟨hbk, hsz1, hk1, ho1, ht1, hp1⟩ := HB.out
 obtain ⟨hb2, hown', hgrow⟩ := HB2.out
 have hne : (Value.slice ao n' cap).ownBlock ≠ some b := Lib.ownBlock_ne hown' hb2 (by decide)
 have hbs : Lib.byteCells out ++ Lib.strCells (bs s) = Lib.byteCells (out ++ s) := by rw [Lib.strCells_eq, Lib.byteCells_append]; rfl
 refine ⟨rfl, ⟨.slice ao n' cap, ⟨_, .inr rfl, (heap_setCell_same _ b 1 _ _ _ hb2).trans rfl⟩, ?_, hne, H.out.hb⟩, ⟨hgrow.os.trans ho1, hgrow.tape.trans ht1, hgrow.output.trans hp1, by simp only [World.size_setCell]; have := hgrow.size; omega, fun k hk => ?_⟩⟩
 ·rw [List.length_append, ← hbs]
  exact owns_same hown' fun g e => Below.heap_setCell _ ⟨b, 1, none⟩ _ g (fun e' => hne (by rw [e, e']))
 ·have hkb : k ≠ b := by have := H.out.hb; omega
  rw [Below.heap_setCell _ ⟨b, 1, none⟩ _ k hkb, hgrow.block k (by omega) (fun e => by have := (H.out.row.lt k e.symm).1; omega), hk1 k hkb]
set_option maxHeartbeats 1000000 in
set_option maxRecDepth 100000 in
theorem bByte_any (h : BW w B b out) (c : UInt8) (hlen : out.length + 1 ≤ 140737488355328) (hbw : B ≤ w.heap.size) :
 Calls Tryz.prog 75 #[ptrV b, .int .u8 c.toNat] w fun e w' => e = .returned .nilIface ∧ BW w' B b (out ++ [c]) ∧ Below B w w' := by
 obtain ⟨buf, h⟩ := h
 obtain ⟨i0, hi, hz0, hz1, hz2⟩ := info_parts Tryz.infoU8b
 have hC := hide (bCheck_any h)
 have H := hide h
 clear h
 unfold ptrV
 go_enter Tryz.func75, Tryz.ntmps75
 go_wp2_with fail
 refine hC.out.mono ?_
 rintro e w1 ⟨rfl, hbk, hsz1, hk1, ho1, ht1, hp1⟩
 have hown : w1.ownsRow B 5 1 buf out.length (Lib.byteCells out) := owns_same H.out.row fun g e => hk1 g (fun e' => H.out.ne (by rw [e, e']))
 have c5 : w1.cell? ⟨b, 1, none⟩ = some buf := by simp [World.cell?, hbk]
 have HB := hide (⟨hbk, hsz1, hk1, ho1, ht1, hp1⟩ : _ ∧ _ ∧ _ ∧ _ ∧ _ ∧ _)
 clear hbk hsz1 hk1 ho1 ht1 hp1
 go_wp2_with (at_builtin; refine wpList_append_own _ rfl _ _ 99 rfl B 5 i0 (.int .u8 0) 1 1 Tryz.underlying99 hi hz0 hz1 hz2 rfl (by decide) _ _ _ rfl (hown.alloc _) ⟨w1.heap.size, 0, none⟩ 1 1 [.int .u8 c.toNat] rfl rfl ?c1 ?c2 ?c3 ?c4 ?c5 ?_)
 case c1 =>
  intro j u hj
  match j, hj with
  | 0, hj => simp at hj; subst hj; simp [Addr.add]
 case c2 => intro u hu; simp at hu; subst hu; rfl
 case c3 => unfold maxLen; omega
 case c4 => omega
 case c5 => have := HB.out.2.1; simp; omega
 intro v' w2 hown' hgrow hnil
 obtain ⟨hbk, hsz1, hk1, ho1, ht1, hp1⟩ := HB.out
 have hb2 : w2.heap[b]? = some (.cells #[.pointer (some ⟨b, 0, none⟩), buf] 101) := by
  rw [hgrow.block b (by simp; have := H.out.lt; omega) (fun e => H.out.ne e.symm), Lib.alloc_old w1 _ b (by rw [hsz1]; exact H.out.lt)]
  exact hbk
 have d5 : w2.cell? ⟨b, 1, none⟩ = some buf := by simp [World.cell?, hb2]
 have f5 : w2.frozen? ⟨b, 1, none⟩ = false := by simp [World.frozen?, hb2]
 obtain ⟨g, cap, rfl⟩ : ∃ g cap, v' = .slice (some ⟨g, 0, none⟩) (out.length + 1) cap := by
  rcases hown'.2 with ⟨_, h0⟩ | ⟨g, cap, cur, hv, _⟩
  ·omega
  ·exact ⟨g, cap, hv⟩
 have HB2 := hide (⟨hb2, hown', hgrow⟩ : _ ∧ _ ∧ _)
 clear hb2 hown' hgrow hnil hbk hsz1 hk1 ho1 ht1 hp1 hown
 go_wp2
 go_ret
 obtain ⟨hbk, hsz1, hk1, ho1, ht1, hp1⟩ := HB.out
 obtain ⟨hb2, hown', hgrow⟩ := HB2.out
 have hne : (Value.slice (some ⟨g, 0, none⟩) (out.length + 1) cap).ownBlock ≠ some b := Lib.ownBlock_ne hown' hb2 (by decide)
 have hbs : Lib.byteCells out ++ [.int .u8 c.toNat] = Lib.byteCells (out ++ [c]) := by rw [Lib.byteCells_append]; rfl
 have hgs := hgrow.size
 simp at hgs
 refine ⟨rfl, ⟨.slice (some ⟨g, 0, none⟩) (out.length + 1) cap, ⟨_, .inr rfl, (heap_setCell_same _ b 1 _ _ _ hb2).trans rfl⟩, ?_, hne, H.out.hb⟩, ⟨hgrow.os.trans ho1, hgrow.tape.trans ht1, hgrow.output.trans hp1, by simp only [World.size_setCell]; omega, fun k hk => ?_⟩⟩
 ·rw [List.length_append, ← hbs]
  exact owns_same hown' fun g e => Below.heap_setCell _ ⟨b, 1, none⟩ _ g (fun e' => hne (by rw [e, e']))
 ·have hkb : k ≠ b := by have := H.out.hb; omega
  rw [Below.heap_setCell _ ⟨b, 1, none⟩ _ k hkb, hgrow.block k (by simp; omega) (fun e => by have := (H.out.row.lt k e.symm).1; omega), Lib.alloc_old w1 _ k (by omega), hk1 k hkb]
theorem bDone_any (h : BW w B b out) (hB : B ≤ w.heap.size) :
 Calls Tryz.prog 36 #[ptrV b] w fun e w' => e = .returned (.string (bs out)) ∧ Below B w w' := by
 obtain ⟨buf, h⟩ := h
 have hI : Lib.IsBuilder 101 5 B b (Lib.byteCells out) w := by
  obtain ⟨p, h1, hp⟩ := h.cell
  have hr := h.row
  have e : (Lib.byteCells out).length = out.length := by simp [Lib.byteCells]
  rw [← e] at hr
  rcases h1 with rfl | rfl
  ·exact .inl ⟨h.hb, buf, hp, hr, h.ne⟩
  ·exact .inr ⟨h.hb, buf, hp, hr, h.ne⟩
 refine (Any.Builder_String_any Tryz.lays169 Tryz.extra169 B b out w hI hB).mono ?_
 rintro e w' ⟨rfl, h2⟩
 exact ⟨rfl, h2⟩
end
end Go.Proofs.YtcfpedjfofpnkaaGreatDoor
namespace Go.Proofs.YtcfpedjfofpnkaaGreatDoor
open Go.RowKit Go.Proofs.Cod
def argB4 (r : Bool) (n : Int) : Prop := 0 ≤ n ∧ n < 1000 ∧ (r = true → n < 4)
def sm2 (i : In7) : Prop := (0 ≤ i.r ∧ i.r < 4) ∧ argB4 i.aR i.aN ∧ argB4 i.bR i.bN
structure InsX (nv nf nl nt n : Nat) (i : In7) : Prop where
 sm : sm2 i
 x0 : 0 ≤ i.x
 ex : ∃ q, q ∈ shapeT ∧ i.op = q.1 ∧ ((118 : UInt8) ∈ q.2 → i.x < nv) ∧ ((102 : UInt8) ∈ q.2 → i.x < nf) ∧ ((109 : UInt8) ∈ q.2 → i.x < nl) ∧ ((116 : UInt8) ∈ q.2 → i.x < nt) ∧ ((108 : UInt8) ∈ q.2 → i.x ≤ n)
structure ProgB (vs fs ls ts : List Tx) (C : List (List In7)) : Prop where
 v : vs.length ≤ 4
 f : fs.length ≤ 4
 l : ls.length ≤ 4
 t : ts.length ≤ 4
 v8 : ∀ x, x ∈ vs → x.length ≤ 8
 f8 : ∀ x, x ∈ fs → x.length ≤ 8
 l8 : ∀ x, x ∈ ls → x.length ≤ 8
 t8 : ∀ x, x ∈ ts → x.length ≤ 8
 len : C.length = ts.length
 code : ∀ c, c ∈ C → c.length ≤ 24 ∧ ∀ i, i ∈ c → InsX vs.length fs.length ls.length ts.length c.length i
end Go.Proofs.YtcfpedjfofpnkaaGreatDoor
