import Derived.Test.YtlefemndikednaaGreatDoorPa17
import Derived.BigQuiet
import Derived.Lib.Builder
import Derived.Lib.AppendStr
import Derived.Lib.UnsafeStr
import Derived.Shelf.Lay
import Derived.Shelf.Strings.OnBuilder
import Derived.Deep.RegionHeld3
import Derived.Shelf.Strconv.Itoa3
import Derived.Lib.SmallJoins
import Derived.Lib.AppendIntMem
import Derived.Lib.ItoaLen
set_option linter.unusedVariables false
set_option linter.unusedSimpArgs false
/-
  The law's own small functions.
-/
namespace Go.Proofs.YtlefemndikednaaGreatDoor
open Go.RowKit Go.Proofs.Cod

/-- Nothing but the tape's place may be another. -/
structure Quiet (w w' : World) : Prop where
  low : Below w.heap.size w w'
  size : w'.heap.size = w.heap.size
theorem Quiet.refl (w : World) : Quiet w w := ⟨Below.refl _ _, rfl⟩
theorem Quiet.drew {w w' : World} (h : Quiet w w') : Quiet w w'.drew := ⟨h.low.drew, h.size⟩
set_option maxRecDepth 100000 in
set_option maxHeartbeats 400000 in
theorem lwWords_any {w : World} {a b : Option Addr} {n ca cb : Nat} {ts : List Tx} (hn : ts.length = n) (ha : Ws w a ts) (hb : Ws w b ts) (hl : n < 9223372036854775808) :
    Calls Tryz.prog 20 #[.slice a n ca, .slice b n cb] w fun e w' => e = .returned (.bool true) ∧ Quiet w w' := by
  replace hn := hide hn
  have HA := hide ha
  have HB := hide hb
  clear ha hb
  go_enter Tryz.func20, Tryz.ntmps20
  go_wp2_with fail
  go_loopw [5] (fun iv wr => ∃ i : Nat, i ≤ n ∧ iv = .int .i64 i ∧ Quiet w wr) (fun iv _ => n - (intOf iv).toNat)
  case atStart => exact ⟨0, Nat.zero_le _, rfl, Quiet.refl _⟩
  case round =>
    obtain ⟨i, hi, rfl, hQ⟩ := hrel
    by_cases h5 : i < n
    · have hlt : (i : Int) < (n : Int) := by omega
      obtain ⟨b1, o1, rfl, -, x1⟩ := (HA.out.below hQ.low) i (by rw [hn.out]; exact h5)
      obtain ⟨b2, o2, rfl, -, x2⟩ := (HB.out.below hQ.low) i (by rw [hn.out]; exact h5)
      have hwi : wrap64 ((i : Int) + 1) = (i : Int) + 1 := IntWalk.wrap64_in _ (by omega)
      have HQ := hide hQ.drew
      generalize ts.getD i [] = x at x1 x2
      replace h5 := hide h5
      clear hQ hi HA HB hn
      go_wp2_with fail
      go_region
      all_goals
        go_wp2_with fail
        go_roundw
        case rel =>
          (try rw [hwi])
          exact ⟨i + 1, h5.out, rfl, HQ.out⟩
        case measure =>
          (try rw [hwi])
          exact Nat.sub_lt_sub_left h5.out (Nat.lt_succ_self i)
    · have HQ := hide hQ
      clear hQ HA HB
      go_wp2_with fail
      go_ret
      exact ⟨rfl, HQ.out⟩
set_option maxRecDepth 100000 in
set_option maxHeartbeats 400000 in
theorem lwInstr_any (r : RI) (w : World) : Calls Tryz.prog 21 #[.agg (insC r.i), .agg (riC r).toArray] w fun e w' => e = .returned (.bool true) ∧ Below w.heap.size w w' := by
  have hB : Hid (∀ A B, Below w.heap.size w ((w.alloc A).alloc B)) := fun A B => ((Below.refl _ _).alloc (Nat.le_refl _) _).alloc (by simp) _
  obtain ⟨⟨op, r0, aR, aN, bR, bN, x⟩, line, word⟩ := r
  unfold insC riC
  dsimp only
  go_enter Tryz.func21, Tryz.ntmps21
  go_wp2_with fail
  go_ret
  exact ⟨rfl, hB.out _ _⟩
end Go.Proofs.YtlefemndikednaaGreatDoor
/-
  Two programs in memory, as they are read.
-/
namespace Go.Proofs.YtlefemndikednaaGreatDoor
open Go.RowKit Go.Proofs.Cod

/-- The document's program. -/
structure DView (w : World) (vV fV lV tV : Value) (P : RP) (TV : List (Value × Value)) : Prop where
  v : w.ownsRow 0 9 1 vV P.vs.length (P.vs.map strW)
  f : w.ownsRow 0 9 1 fV P.fs.length (P.fs.map strW)
  l : w.ownsRow 0 9 1 lV P.ls.length (P.ls.map strW)
  t : w.ownsRow 0 67 3 tV P.thr.length ((P.thr.zip TV).flatMap thC)
  len : TV.length = P.thr.length
  c : ∀ (j : Nat) (th : RTh) (p : Value × Value), P.thr[j]? = some th → TV[j]? = some p → w.ownsRow 0 71 9 p.1 th.code.length (th.code.flatMap riC)
theorem c_below {w w' : World} {base e size n : Nat} {v : Value} {xs : List Value} {B : Nat} (h : w.ownsRow base e size v n xs) (hb : Below B w w') (hB : ∀ g, v.ownBlock = some g → g < B) : w'.ownsRow base e size v n xs := owns_same h fun g e => hb.block g (hB g e)
theorem c_belowS {w w' : World} {base e size n : Nat} {v : Value} {xs : List Value} (h : w.ownsRow base e size v n xs) (hb : Below w.heap.size w w') : w'.ownsRow base e size v n xs := c_below h hb fun g e => (h.lt g e).2
theorem DView.below {w w' : World} {vV fV lV tV : Value} {P : RP} {TV : List (Value × Value)} (h : DView w vV fV lV tV P TV) (hb : Below w.heap.size w w') : DView w' vV fV lV tV P TV :=
  ⟨c_belowS h.v hb, c_belowS h.f hb, c_belowS h.l hb, c_belowS h.t hb, h.len, fun j th p h1 h2 => c_belowS (h.c j th p h1 h2) hb⟩
theorem RfW.view {w : World} {tag : Nat → RT} {base pb : Nat} {P : RP} {U : RV} (h : RfW w tag base pb P U) : DView w (U.V 118) (U.V 102) (U.V 109) U.tV P U.TV := by
  have hl : ∀ {k : Int}, isN k → w.ownsRow 0 9 1 (U.V k) (P.get k).length ((P.get k).map strW) := fun hk => by
    have := (h.rows _ hk).row
    rw [List.length_map] at this
    exact c_base this (Nat.zero_le _)
  exact ⟨hl (k := 118) (by simp [isN]), hl (k := 102) (by simp [isN]), hl (k := 109) (by simp [isN]), c_base h.trow (Nat.zero_le _), h.len, fun j th p h1 h2 => c_base (h.ths j th p h1 h2).code (Nat.zero_le _)⟩
theorem DView.nil (w : World) : DView w (.slice none 0 0) (.slice none 0 0) (.slice none 0 0) (.slice none 0 0) RP.new [] :=
  ⟨World.ownsRow_nil _ _ _ _, World.ownsRow_nil _ _ _ _, World.ownsRow_nil _ _ _ _, World.ownsRow_nil _ _ _ _, rfl, (fun j th p h => by cases h)⟩
theorem ProgW.nil (w : World) (base : Nat) : ProgW w base (.slice none 0 0) (.slice none 0 0) (.slice none 0 0) (.slice none 0 0) [] [] [] [] [] :=
  ⟨World.ownsRow_nil _ _ _ _, World.ownsRow_nil _ _ _ _, World.ownsRow_nil _ _ _ _, World.ownsRow_nil _ _ _ _, (fun j p is h => by cases h), rfl⟩
theorem ProgW.below {w w' : World} {base : Nat} {vV fV lV thV : Value} {vs fs ls : List Tx} {L : List (Tx × Value)} {C : List (List In7)} (h : ProgW w base vV fV lV thV vs fs ls L C) (hb : Below w.heap.size w w') : ProgW w' base vV fV lV thV vs fs ls L C :=
  ⟨c_belowS h.v hb, c_belowS h.f hb, c_belowS h.l hb, c_belowS h.t hb, fun i p is h1 h2 => c_belowS (h.c i p is h1 h2) hb, h.len⟩
/-- A row of texts, read. -/
theorem row_ws0 {w : World} {base e n : Nat} {v : Value} {l : List Tx} (hr : w.ownsRow base e 1 v n (l.map strW)) (hn : l.length = n) : ∃ a cap, v = .slice a n cap ∧ Ws w a l := by
  rcases hr.2 with ⟨h1, h2⟩ | ⟨g, cap, cur, h1, _⟩
  · exact ⟨none, 0, by rw [h1, h2], fun i hi => by omega⟩
  · refine ⟨_, cap, h1, fun i hi => ⟨g, 0, rfl, (hr.lt g (by rw [h1]; rfl)).2, ?_⟩⟩
    rw [h1] at hr
    rw [Nat.zero_add, hr.cellAt i (by omega), List.getElem?_map, List.getElem?_eq_getElem hi, List.getD_eq_getElem?_getD, List.getElem?_eq_getElem hi]; rfl
/-- A row whose k-th place is there lies in a block. -/
theorem row_form {w : World} {base e size n : Nat} {v : Value} {xs : List Value} (h : w.ownsRow base e size v n xs) {k : Nat} (hk : k < n) : ∃ g cap, v = .slice (some ⟨g, 0, none⟩) n cap ∧ g < w.heap.size ∧ ∀ j, j < n * size → w.cell? ⟨g, j, none⟩ = xs[j]? := by
  obtain ⟨m, rfl⟩ : ∃ m, n = m + 1 := ⟨n - 1, by omega⟩
  obtain ⟨g, cap, rfl⟩ := ownsRow_succ h
  exact ⟨g, cap, rfl, (h.lt g rfl).2, fun j hj => h.cellAt j hj⟩
theorem insL_len (i : In7) : (insC i).toList.length = 7 := rfl
theorem thrL_len (p : Tx × Value) : [Value.string (bs p.1), p.2].length = 2 := rfl
/-- An instruction of the program's, read. -/
structure I7At (w : World) (g k : Nat) (i : In7) : Prop where
  c0 : w.cell? ⟨g, k * 7, none⟩ = some (.string (bs i.op))
  c1 : w.cell? ⟨g, k * 7 + 1, none⟩ = some (.int .i64 i.r)
  c2 : w.cell? ⟨g, k * 7 + 2, none⟩ = some (.bool i.aR)
  c3 : w.cell? ⟨g, k * 7 + 3, none⟩ = some (.int .i64 i.aN)
  c4 : w.cell? ⟨g, k * 7 + 4, none⟩ = some (.bool i.bR)
  c5 : w.cell? ⟨g, k * 7 + 5, none⟩ = some (.int .i64 i.bN)
  c6 : w.cell? ⟨g, k * 7 + 6, none⟩ = some (.int .i64 i.x)
structure I9At (w : World) (g k : Nat) (r : RI) : Prop where
  c0 : w.cell? ⟨g, k * 9, none⟩ = some (.string (bs r.i.op))
  c1 : w.cell? ⟨g, k * 9 + 1, none⟩ = some (.int .i64 r.i.r)
  c2 : w.cell? ⟨g, k * 9 + 2, none⟩ = some (.bool r.i.aR)
  c3 : w.cell? ⟨g, k * 9 + 3, none⟩ = some (.int .i64 r.i.aN)
  c4 : w.cell? ⟨g, k * 9 + 4, none⟩ = some (.bool r.i.bR)
  c5 : w.cell? ⟨g, k * 9 + 5, none⟩ = some (.int .i64 r.i.bN)
  c6 : w.cell? ⟨g, k * 9 + 6, none⟩ = some (.int .i64 r.i.x)
  c7 : w.cell? ⟨g, k * 9 + 7, none⟩ = some (.int .i64 r.line)
  c8 : w.cell? ⟨g, k * 9 + 8, none⟩ = some (.string (bs r.word))
theorem i7_at {w : World} {base : Nat} {v : Value} {is : List In7} {k : Nat} {i : In7} (h : w.ownsRow base 42 7 v is.length (codeC is)) (hk : is[k]? = some i) : ∃ g cap, v = .slice (some ⟨g, 0, none⟩) is.length cap ∧ g < w.heap.size ∧ I7At w g k i := by
  have hl := (List.getElem?_eq_some_iff.1 hk).1
  obtain ⟨g, cap, e, hg, hc⟩ := row_form h hl
  have key : ∀ q, q < 7 → w.cell? ⟨g, k * 7 + q, none⟩ = (insC i).toList[q]? := fun q hq => by
    rw [hc (k * 7 + q) (by omega)]; exact flat_at insL_len hk hq
  exact ⟨g, cap, e, hg, key 0 (by omega), key 1 (by omega), key 2 (by omega), key 3 (by omega), key 4 (by omega), key 5 (by omega), key 6 (by omega)⟩
theorem i9_at {w : World} {base : Nat} {v : Value} {rs : List RI} {k : Nat} {r : RI} (h : w.ownsRow base 71 9 v rs.length (rs.flatMap riC)) (hk : rs[k]? = some r) : ∃ g cap, v = .slice (some ⟨g, 0, none⟩) rs.length cap ∧ g < w.heap.size ∧ I9At w g k r := by
  have hl := (List.getElem?_eq_some_iff.1 hk).1
  obtain ⟨g, cap, e, hg, hc⟩ := row_form h hl
  have key : ∀ q, q < 9 → w.cell? ⟨g, k * 9 + q, none⟩ = (riC r)[q]? := fun q hq => by
    rw [hc (k * 9 + q) (by omega)]; exact flat_at riC_len hk hq
  exact ⟨g, cap, e, hg, key 0 (by omega), key 1 (by omega), key 2 (by omega), key 3 (by omega), key 4 (by omega), key 5 (by omega), key 6 (by omega), key 7 (by omega), key 8 (by omega)⟩
theorem ProgW.thrAt {w : World} {base : Nat} {vV fV lV thV : Value} {vs fs ls : List Tx} {L : List (Tx × Value)} {C : List (List In7)} (h : ProgW w base vV fV lV thV vs fs ls L C) {j : Nat} {p : Tx × Value} (hj : L[j]? = some p) : ∃ g cap, thV = .slice (some ⟨g, 0, none⟩) L.length cap ∧ g < w.heap.size ∧ w.cell? ⟨g, j * 2, none⟩ = some (.string (bs p.1)) ∧ w.cell? ⟨g, j * 2 + 1, none⟩ = some p.2 := by
  have hl := (List.getElem?_eq_some_iff.1 hj).1
  obtain ⟨g, cap, e, hg, hc⟩ := row_form h.t hl
  have key : ∀ q, q < 2 → w.cell? ⟨g, j * 2 + q, none⟩ = [Value.string (bs p.1), p.2][q]? := fun q hq => by
    rw [hc (j * 2 + q) (by omega)]; exact flat_at (f := fun p : Tx × Value => [Value.string (bs p.1), p.2]) thrL_len hj hq
  exact ⟨g, cap, e, hg, key 0 (by omega), key 1 (by omega)⟩
theorem DView.thrAt {w : World} {vV fV lV tV : Value} {P : RP} {TV : List (Value × Value)} (h : DView w vV fV lV tV P TV) {j : Nat} {th : RTh} {p : Value × Value} (hj : P.thr[j]? = some th) (hp : TV[j]? = some p) : ∃ g cap, tV = .slice (some ⟨g, 0, none⟩) P.thr.length cap ∧ g < w.heap.size ∧ w.cell? ⟨g, j * 3, none⟩ = some (.string (bs th.name)) ∧ w.cell? ⟨g, j * 3 + 1, none⟩ = some p.1 := by
  have hl := (List.getElem?_eq_some_iff.1 hj).1
  obtain ⟨g, cap, e, hg, hc⟩ := row_form h.t hl
  have hz : (P.thr.zip TV)[j]? = some (th, p) := by rw [List.getElem?_zip_eq_some]; exact ⟨hj, hp⟩
  have key : ∀ q, q < 3 → w.cell? ⟨g, j * 3 + q, none⟩ = (thC (th, p))[q]? := fun q hq => by
    rw [hc (j * 3 + q) (by omega)]; exact flat_at thC_len hz hq
  exact ⟨g, cap, e, hg, key 0 (by omega), key 1 (by omega)⟩
end Go.Proofs.YtlefemndikednaaGreatDoor
/-
  The writer of code.Print: a strings.Builder that lies in its block.
-/
namespace Go.Proofs.YtlefemndikednaaGreatDoor
open Go.RowKit Go.Proofs.Cod

theorem Tryz.infoU8 : (Tryz.prog.info? 5).map (fun i => (i.zero, i.size, i.bytes)) = some (some (.int .u8 0), 1, 1) := by kernel_rfl
theorem Tryz.sizeBd : (Tryz.prog.info? 75).map (·.size) = some 2 := by kernel_rfl
theorem Tryz.liesBd : liesAt Tryz.prog Tryz.prog.depth 77 (6 / Tryz.prog.cellsOf 77) 4 75 1 = true := by kernel_rfl
theorem Tryz.cellsU8 : Tryz.prog.cellsOf 5 = 1 := by kernel_rfl
/-- The writer: the program's four lists, and the bytes so far in a row of its own. -/
structure WrW (w : World) (base b : Nat) (v f l t buf : Value) (out : Tx) : Prop where
  cell : ∃ p, (p = .pointer none ∨ p = .pointer (some ⟨b, 4, none⟩)) ∧ w.heap[b]? = some (.cells #[v, f, l, t, p, buf] 77)
  row : w.ownsRow base 5 1 buf out.length (Lib.byteCells out)
  ne : buf.ownBlock ≠ some b
  hb : base ≤ b
  nil : out = [] → buf = .slice none 0 0
/-- A block that is no row of bytes. -/
def NotU8 (w : World) (k : Nat) : Prop := ∀ cs fr, w.heap[k]? ≠ some (.cells cs 5 fr)
/-- What stays: all below, and all that is no row of bytes. -/
structure WKeep (base b : Nat) (w w' : World) : Prop where
  os : w'.os = w.os
  tape : w'.tape = w.tape
  output : w'.output = w.output
  size : w.heap.size ≤ w'.heap.size
  low : ∀ k, k < base → w'.heap[k]? = w.heap[k]?
  kept : ∀ k, k < w.heap.size → k ≠ b → NotU8 w k → w'.heap[k]? = w.heap[k]?
section
variable {w w' w'' : World} {base b : Nat} {v f l t buf buf' : Value} {out : Tx}
theorem WKeep.refl (base b : Nat) (w : World) : WKeep base b w w := ⟨rfl, rfl, rfl, Nat.le_refl _, fun _ _ => rfl, fun _ _ _ _ => rfl⟩
theorem WKeep.trans (h : WKeep base b w w') (h' : WKeep base b w' w'') : WKeep base b w w'' :=
  ⟨h'.os.trans h.os, h'.tape.trans h.tape, h'.output.trans h.output, Nat.le_trans h.size h'.size, fun k hk => (h'.low k hk).trans (h.low k hk), fun k h1 h2 h3 => by
    have e1 := h.kept k h1 h2 h3
    exact (h'.kept k (Nat.lt_of_lt_of_le h1 h.size) h2 (fun cs fr e => h3 cs fr (e1 ▸ e))).trans e1⟩
theorem WKeep.of_below (h : Below w.heap.size w w') (hb : base ≤ w.heap.size) : WKeep base b w w' := ⟨h.os, h.tape, h.output, h.size, fun k hk => h.block k (by omega), fun k h1 _ _ => h.block k h1⟩
theorem WKeep.below (h : WKeep base b w w') : Below base w w' := ⟨h.os, h.tape, h.output, h.size, h.low⟩
theorem WrW.lt (h : WrW w base b v f l t buf out) : b < w.heap.size := by
  obtain ⟨p, _, hp⟩ := h.cell
  exact (Array.getElem?_eq_some_iff.1 hp).1
theorem WrW.below (h : WrW w base b v f l t buf out) (hb : Below w.heap.size w w') : WrW w' base b v f l t buf out := by
  obtain ⟨p, h1, hp⟩ := h.cell
  exact ⟨⟨p, h1, (hb.block b h.lt).trans hp⟩, c_belowS h.row hb, h.ne, h.hb, h.nil⟩
theorem WrW.cells (h : WrW w base b v f l t buf out) : w.cell? ⟨b, 0, none⟩ = some v ∧ w.cell? ⟨b, 1, none⟩ = some f ∧ w.cell? ⟨b, 2, none⟩ = some l ∧ w.cell? ⟨b, 3, none⟩ = some t ∧ w.cell? ⟨b, 5, none⟩ = some buf := by
  obtain ⟨p, h1, hp⟩ := h.cell
  simp [World.cell?, hp]
set_option maxHeartbeats 1000000 in
set_option maxRecDepth 100000 in
/-- copyCheck: behind it the builder bears its own address. -/
theorem wrCheck_any (h : WrW w base b v f l t buf out) : Calls Tryz.prog 76 #[.pointer (some ⟨b, 4, none⟩)] w fun e w' => e = .returned (.tuple #[]) ∧ w'.heap[b]? = some (.cells #[v, f, l, t, .pointer (some ⟨b, 4, none⟩), buf] 77) ∧ w'.heap.size = w.heap.size ∧ (∀ k, k ≠ b → w'.heap[k]? = w.heap[k]?) ∧ w'.os = w.os ∧ w'.tape = w.tape ∧ w'.output = w.output := by
  obtain ⟨j, hj, hjs⟩ := Option.map_eq_some_iff.1 Tryz.sizeBd
  obtain ⟨p, h1, hp⟩ := h.cell
  have c4 : w.cell? ⟨b, 4, none⟩ = some p := by simp [World.cell?, hp]
  have hsh : w.shape? b = some (77, 6) := by simp [World.shape?, hp]
  have f4 : w.frozen? ⟨b, 4, none⟩ = false := by simp [World.frozen?, hp]
  have HP := hide hp
  clear h hp
  rcases h1 with rfl | rfl
  · go_enter Tryz.func76, Tryz.ntmps76
    go_wp2
    rw [Lib.run_to_unsafe w ⟨b, 4, none⟩ Tryz.underlying72 Tryz.underlying162 hj (by rw [hjs]; decide) hsh (by show 4 < 6; omega)]
    simp only [Result.andThen]
    rw [Oper.upon_value]
    go_wp2
    rw [run_callFunc_extern Tryz.func97 (by kernel_rfl) (by kernel_rfl) (by kernel_rfl) (e := Extern.AbiNoEscape.same) (by kernel_rfl)]
    rw [Lib.run_noEscape]
    simp only [Result.andThen]
    rw [Oper.upon_value]
    go_wp2
    rw [Lib.run_from_unsafe w ⟨b, 4, none⟩ Tryz.underlying162 Tryz.underlying72 hj hsh Tryz.liesBd]
    simp only [Result.andThen]
    rw [Oper.upon_value]
    go_wp2
    go_end0
    exact ⟨rfl, (heap_setCell_same _ b 4 _ _ _ HP.out).trans rfl, by simp, fun k hk => Below.heap_setCell _ ⟨b, 4, none⟩ _ k hk, rfl, rfl, rfl⟩
  · go_enter Tryz.func76, Tryz.ntmps76
    go_wp2
    rw [Lib.run_neq_ptr_same w _ Tryz.underlying72 hj]
    go_wp2
    go_end0
    exact ⟨rfl, HP.out, rfl, fun _ _ => rfl, rfl, rfl, rfl⟩
set_option maxHeartbeats 1000000 in
set_option maxRecDepth 100000 in
theorem wrString_any (h : WrW w base b v f l t buf out) (s : Tx) (hlen : out.length + s.length ≤ 140737488355328) (hbw : base ≤ w.heap.size) :
    Calls Tryz.prog 58 #[.pointer (some ⟨b, 4, none⟩), .string (bs s)] w fun e w' => e = .returned (.tuple #[.int .i64 s.length, .nilIface]) ∧ ∃ buf', WrW w' base b v f l t buf' (out ++ s) ∧ WKeep base b w w' := by
  obtain ⟨i0, hi, hz0, hz1, hz2⟩ := info_parts Tryz.infoU8
  have hzs := bs_size s
  have hC := hide (wrCheck_any h)
  have H := hide h
  clear h
  go_enter Tryz.func58, Tryz.ntmps58
  go_wp2_with fail
  refine hC.out.mono ?_
  rintro e w1 ⟨rfl, hbk, hsz1, hk1, ho1, ht1, hp1⟩
  have hown : w1.ownsRow base 5 1 buf out.length (Lib.byteCells out) := owns_same H.out.row fun g e => hk1 g (fun e' => H.out.ne (by rw [e, e']))
  have c5 : w1.cell? ⟨b, 5, none⟩ = some buf := by simp [World.cell?, hbk]
  have HB := hide (⟨hbk, hsz1, hk1, ho1, ht1, hp1⟩ : _ ∧ _ ∧ _ ∧ _ ∧ _ ∧ _)
  clear hbk hsz1 hk1 ho1 ht1 hp1
  go_wp2_with (at_builtin; refine Lib.wpList_append_own_string _ rfl _ _ 73 9 rfl base 5 i0 Tryz.underlying73 Tryz.underlying9 hi hz0 hz1 hz2 _ _ _ rfl hown (bs s) rfl ?c3 ?c4 ?c5 ?_)
  case c3 => rw [hzs]; unfold maxLen; omega
  case c4 => rw [hzs]; exact hlen
  case c5 => have := HB.out.2.1; omega
  intro v' w2 hown' hgrow hnil
  obtain ⟨hbk, hsz1, hk1, ho1, ht1, hp1⟩ := HB.out
  have hb2 : w2.heap[b]? = some (.cells #[v, f, l, t, .pointer (some ⟨b, 4, none⟩), buf] 77) := (hgrow.block b (by rw [hsz1]; exact H.out.lt) (fun e => H.out.ne e.symm)).trans hbk
  have d5 : w2.cell? ⟨b, 5, none⟩ = some buf := by simp [World.cell?, hb2]
  have f5 : w2.frozen? ⟨b, 5, none⟩ = false := by simp [World.frozen?, hb2]
  obtain ⟨ao, n', cap, rfl⟩ : ∃ ao n' cap, v' = .slice ao n' cap := by
    rcases hown'.2 with ⟨hv, _⟩ | ⟨g, cap, cur, hv, _⟩
    · exact ⟨_, _, _, hv⟩
    · exact ⟨_, _, _, hv⟩
  have HB2 := hide (⟨hb2, hown', hgrow, hnil⟩ : _ ∧ _ ∧ _ ∧ _)
  clear hb2 hown' hgrow hnil hbk hsz1 hk1 ho1 ht1 hp1 hown
  go_wp2
  go_ret2
  obtain ⟨hbk, hsz1, hk1, ho1, ht1, hp1⟩ := HB.out
  obtain ⟨hb2, hown', hgrow, hnil⟩ := HB2.out
  have hne : (Value.slice ao n' cap).ownBlock ≠ some b := Lib.ownBlock_ne hown' hb2 (by decide)
  have hbs : Lib.byteCells out ++ Lib.strCells (bs s) = Lib.byteCells (out ++ s) := by rw [Lib.strCells_eq, Lib.byteCells_append]; rfl
  refine ⟨rfl, .slice ao n' cap, ⟨⟨_, .inr rfl, (heap_setCell_same _ b 5 _ _ _ hb2).trans rfl⟩, ?_, hne, H.out.hb, fun e => ?_⟩, ⟨hgrow.os.trans ho1, hgrow.tape.trans ht1, hgrow.output.trans hp1, by simp only [World.size_setCell]; have := hgrow.size; omega, fun k hk => ?_, fun k h1 h2 h3 => ?_⟩⟩
  · rw [List.length_append, ← hbs]
    exact owns_same hown' fun g e => Below.heap_setCell _ ⟨b, 5, none⟩ _ g (fun e' => hne (by rw [e, e']))
  · have hout : out = [] ∧ s = [] := List.append_eq_nil_iff.1 e
    exact hnil.2 ⟨H.out.nil hout.1, hout.2⟩
  · have hkb : k ≠ b := by have := H.out.hb; omega
    rw [Below.heap_setCell _ ⟨b, 5, none⟩ _ k hkb, hgrow.block k (by omega) (fun e => by have := (H.out.row.lt k e.symm).1; omega), hk1 k hkb]
  · rw [Below.heap_setCell _ ⟨b, 5, none⟩ _ k h2, hgrow.block k (by omega) (fun e => ?_), hk1 k h2]
    rcases H.out.row.2 with ⟨hv, _⟩ | ⟨g, cap, cur, hv, _, hg, _⟩
    · rw [hv] at e; cases e
    · rw [hv] at e
      have e : some k = some g := e
      cases e
      exact h3 _ _ hg
set_option maxHeartbeats 1000000 in
set_option maxRecDepth 100000 in
theorem wrByte_any (h : WrW w base b v f l t buf out) (c : UInt8) (hlen : out.length + 1 ≤ 140737488355328) (hbw : base ≤ w.heap.size) :
    Calls Tryz.prog 59 #[.pointer (some ⟨b, 4, none⟩), .int .u8 c.toNat] w fun e w' => e = .returned .nilIface ∧ ∃ buf', WrW w' base b v f l t buf' (out ++ [c]) ∧ WKeep base b w w' := by
  obtain ⟨i0, hi, hz0, hz1, hz2⟩ := info_parts Tryz.infoU8
  have hC := hide (wrCheck_any h)
  have H := hide h
  clear h
  go_enter Tryz.func59, Tryz.ntmps59
  go_wp2_with fail
  refine hC.out.mono ?_
  rintro e w1 ⟨rfl, hbk, hsz1, hk1, ho1, ht1, hp1⟩
  have hown : w1.ownsRow base 5 1 buf out.length (Lib.byteCells out) := owns_same H.out.row fun g e => hk1 g (fun e' => H.out.ne (by rw [e, e']))
  have c5 : w1.cell? ⟨b, 5, none⟩ = some buf := by simp [World.cell?, hbk]
  have HB := hide (⟨hbk, hsz1, hk1, ho1, ht1, hp1⟩ : _ ∧ _ ∧ _ ∧ _ ∧ _ ∧ _)
  clear hbk hsz1 hk1 ho1 ht1 hp1
  go_wp2_with (at_builtin; refine wpList_append_own _ rfl _ _ 73 rfl base 5 i0 (.int .u8 0) 1 1 Tryz.underlying73 hi hz0 hz1 hz2 rfl (by decide) _ _ _ rfl (hown.alloc _) ⟨w1.heap.size, 0, none⟩ 1 1 [.int .u8 c.toNat] rfl rfl ?c1 ?c2 ?c3 ?c4 ?c5 ?_)
  case c1 =>
    intro j u hj
    match j, hj with
    | 0, hj => simp at hj; subst hj; simp [Addr.add]
  case c2 => intro u hu; simp at hu; subst hu; rfl
  case c3 => unfold maxLen; omega
  case c4 => omega
  case c5 => have := HB.out.2.1; simp; omega
  intro v' w2 hown' hgrow hnil
  obtain ⟨hbk, hsz1, hk1, ho1, ht1, hp1⟩ := HB.out
  have hb2 : w2.heap[b]? = some (.cells #[v, f, l, t, .pointer (some ⟨b, 4, none⟩), buf] 77) := by
    rw [hgrow.block b (by simp; have := H.out.lt; omega) (fun e => H.out.ne e.symm), Lib.alloc_old w1 _ b (by rw [hsz1]; exact H.out.lt)]
    exact hbk
  have d5 : w2.cell? ⟨b, 5, none⟩ = some buf := by simp [World.cell?, hb2]
  have f5 : w2.frozen? ⟨b, 5, none⟩ = false := by simp [World.frozen?, hb2]
  obtain ⟨g, cap, rfl⟩ : ∃ g cap, v' = .slice (some ⟨g, 0, none⟩) (out.length + 1) cap := by
    rcases hown'.2 with ⟨_, h0⟩ | ⟨g, cap, cur, hv, _⟩
    · omega
    · exact ⟨g, cap, hv⟩
  have HB2 := hide (⟨hb2, hown', hgrow⟩ : _ ∧ _ ∧ _)
  clear hb2 hown' hgrow hnil hbk hsz1 hk1 ho1 ht1 hp1 hown
  go_wp2
  go_ret
  obtain ⟨hbk, hsz1, hk1, ho1, ht1, hp1⟩ := HB.out
  obtain ⟨hb2, hown', hgrow⟩ := HB2.out
  have hne : (Value.slice (some ⟨g, 0, none⟩) (out.length + 1) cap).ownBlock ≠ some b := Lib.ownBlock_ne hown' hb2 (by decide)
  have hbs : Lib.byteCells out ++ [.int .u8 c.toNat] = Lib.byteCells (out ++ [c]) := by rw [Lib.byteCells_append]; rfl
  have hgs := hgrow.size
  simp at hgs
  refine ⟨rfl, .slice (some ⟨g, 0, none⟩) (out.length + 1) cap, ⟨⟨_, .inr rfl, (heap_setCell_same _ b 5 _ _ _ hb2).trans rfl⟩, ?_, hne, H.out.hb, fun e => by simp at e⟩, ⟨hgrow.os.trans ho1, hgrow.tape.trans ht1, hgrow.output.trans hp1, by simp only [World.size_setCell]; omega, fun k hk => ?_, fun k h1 h2 h3 => ?_⟩⟩
  · rw [List.length_append, ← hbs]
    exact owns_same hown' fun g e => Below.heap_setCell _ ⟨b, 5, none⟩ _ g (fun e' => hne (by rw [e, e']))
  · have hkb : k ≠ b := by have := H.out.hb; omega
    rw [Below.heap_setCell _ ⟨b, 5, none⟩ _ k hkb, hgrow.block k (by simp; omega) (fun e => by have := (H.out.row.lt k e.symm).1; omega), Lib.alloc_old w1 _ k (by omega), hk1 k hkb]
  · rw [Below.heap_setCell _ ⟨b, 5, none⟩ _ k h2, hgrow.block k (by simp; omega) (fun e => ?_), Lib.alloc_old w1 _ k (by omega), hk1 k h2]
    rcases H.out.row.2 with ⟨hv, _⟩ | ⟨g, cap, cur, hv, _, hg, _⟩
    · rw [hv] at e; cases e
    · rw [hv] at e
      have e : some k = some g := e
      cases e
      exact h3 _ _ hg
end
end Go.Proofs.YtlefemndikednaaGreatDoor
/-
  A line of the plain text: strings.Join, WriteString, WriteByte; and String.
-/
namespace Go.Proofs
open Go.Shelf
shelf_lay Lays.n156 Nm 156 at Tryz as Tryz.lays156
set_option maxRecDepth 100000 in
theorem Tryz.extra156 : Builder.Extra Tryz.prog Tryz.lays156_ren := {
  sizeBuilder := by kernel_rfl
  liesBuilder := by kernel_rfl
  t5 := Tryz.underlying5
  a5 := Tryz.isAgg5
  z5 := Tryz.sizeOf5
  v5 := Tryz.zeroValue5
  infoByte := by kernel_rfl
  cellsByte := by kernel_rfl
  sizeByte := by kernel_rfl
  neB5 := by decide }
end Go.Proofs
namespace Go.Proofs.YtlefemndikednaaGreatDoor
open Go.RowKit Go.Shelf Go.Proofs.Cod

def joinT (ws : List Tx) : Tx := Lib.join ws [32]
def lineW (ws : List Tx) : Tx := joinT ws ++ [10]
theorem join_any {w : World} {a : Option Addr} {n c : Nat} {ws : List Tx} (hn : ws.length = n) (hs : Ws w a ws) (hc : n ≤ c) (hlen : (joinT ws).length ≤ 140737488355328) (hl : n ≤ 140737488355328) :
    Calls Tryz.prog 41 #[.slice a n c, .string (bs [32])] w fun e w' => e = .returned (.string (bs (joinT ws))) ∧ Below w.heap.size w w' := by
  subst hn
  have hd : (ws.map bs).map (·.data.toList) = ws := by
    rw [List.map_map]
    conv => rhs; rw [← List.map_id ws]
    apply List.map_congr_left
    intro x _
    simp [bs]
  by_cases h0 : ws.length = 0
  · have e : ws = [] := List.eq_nil_of_length_eq_zero h0
    subst e
    exact (Any.strings_Join_none Tryz.lays156 Tryz.extra156 a c (bs [32]) w).mono fun e w' ⟨he, hw⟩ => ⟨he, hw ▸ Below.refl _ _⟩
  · obtain ⟨g, o, rfl, hg, _⟩ := hs 0 (by omega)
    have hcells : ∀ (j : Nat) x, (ws.map bs)[j]? = some x → w.cell? ⟨g, o + j, none⟩ = some (.string x) := fun j x hx => by
      have hj : j < ws.length := by have := (List.getElem?_eq_some_iff.1 hx).1; simpa using this
      obtain ⟨g', o', e1, _, e3⟩ := hs j hj
      cases e1
      rw [e3]
      rw [List.getElem?_map, List.getElem?_eq_getElem hj] at hx
      rw [List.getD_eq_getElem?_getD, List.getElem?_eq_getElem hj]
      simpa using hx
    have := Any.strings_Join Tryz.lays156 Tryz.extra156 g o c (ws.map bs) (bs [32]) w hcells hg (by simpa using hl) (by simpa using hc) (by rw [hd]; exact hlen)
    rw [hd, List.length_map] at this
    exact this
section
variable {w w' : World} {base b : Nat} {v f l t buf buf' : Value} {out : Tx}
set_option maxHeartbeats 1000000 in
set_option maxRecDepth 100000 in
theorem wrText_any (h : WrW w base b v f l t buf out) : Calls Tryz.prog 24 #[.pointer (some ⟨b, 4, none⟩)] w fun e w' => e = .returned (.string (bs out)) ∧ Below base w w' := by
  obtain ⟨p, h1, hp⟩ := h.cell
  by_cases h0 : out = []
  · have hv := h.nil h0
    subst h0
    rw [hv] at hp
    have c5 : w.drew.cell? ⟨b, 5, none⟩ = some (.slice none 0 0) := by
      have : w.drew.heap[b]? = w.heap[b]? := rfl
      simp [World.cell?, this, hp]
    have hSD : (Builtin.unsafeSliceData_ #[73] 107 #[.slice none 0 0]).run Tryz.prog w.drew = .ok (.pointer none) w.drew := Lib.run_unsafeSliceData_nil _ _ _ _ _
    have hUS : (Builtin.unsafeString_ #[107, 3] 9 #[.pointer none, .int .i64 0]).run Tryz.prog w.drew = .ok (.string .empty) w.drew := Lib.run_unsafeString_none _ _ _ _ none
    have mixed := Tryz.lays156.mixed
    clear h hp h1
    go_enter Tryz.func24, Tryz.ntmps24
    go_wp2
    go_region_o
    all_goals (go_wp2; go_ret; exact ⟨rfl, Below.drew (Below.refl base w)⟩)
  · have hown := h.row
    have hl0 : out.length ≠ 0 := by simpa using h0
    obtain ⟨g, cap, cur, rfl, hbg, hg, hnc, hcm, hcs, htake⟩ : ∃ g cap cur, buf = .slice (some ⟨g, 0, none⟩) out.length cap ∧ base ≤ g ∧ w.heap[g]? = some (.cells cur 5 (0, 0)) ∧ out.length ≤ cap ∧ cap ≤ maxLen ∧ cur.size = cap * 1 ∧ cur.toList.take (out.length * 1) = Lib.byteCells out := by
      rcases hown.2 with ⟨_, hz⟩ | ⟨g, cap, cur, hv, r⟩
      · exact absurd hz hl0
      · exact ⟨g, cap, cur, hv, r⟩
    have c5 : w.drew.cell? ⟨b, 5, none⟩ = some (.slice (some ⟨g, 0, none⟩) out.length cap) := by
      have : w.drew.heap[b]? = w.heap[b]? := rfl
      simp [World.cell?, this, hp]
    have hSD : (Builtin.unsafeSliceData_ #[73] 107 #[.slice (some ⟨g, 0, none⟩) out.length cap]).run Tryz.prog w.drew = .ok (.pointer (some ⟨g, 0, none⟩)) w.drew :=
      Lib.run_unsafeSliceData_row _ _ _ _ _ _ (by omega)
    have hUS : (Builtin.unsafeString_ #[107, 3] 9 #[.pointer (some ⟨g, 0, none⟩), .int .i64 out.length]).run Tryz.prog w.drew = .ok (.string (bs out)) (w.drew.freeze ⟨g, 0, none⟩ out.length) := by
      refine Lib.run_unsafeString_row w.drew 107 3 9 5 Tryz.underlying107 Tryz.cellsU8 g cur.size (by have hg' : w.drew.heap[g]? = some (.cells cur 5 (0, 0)) := hg; simp [World.shape?, hg']) out h0 (by omega) (by unfold maxLen at hcm; omega) ?_
      intro j x hx
      have := hown.cells (g := g) rfl j (.int .u8 x.toNat) (by simp [Lib.byteCells, hx])
      exact this
    have hbg' := hide hbg
    have mixed := Tryz.lays156.mixed
    clear h hp h1 hown hg hnc hcm hcs htake hbg hl0 h0
    go_enter Tryz.func24, Tryz.ntmps24
    go_wp2
    go_region_o
    all_goals (go_wp2; go_ret; exact ⟨rfl, Lib.below_freeze (Below.drew (Below.refl base w)) (p := ⟨g, 0, none⟩) hbg'.out _⟩)
set_option maxHeartbeats 1000000 in
set_option maxRecDepth 100000 in
/-- A line. -/
theorem wrLine_any {a : Option Addr} {n c : Nat} {ws : List Tx} (h : WrW w base b v f l t buf out) (hn : ws.length = n) (hs : Ws w a ws) (hc : n ≤ c) (hlen : out.length + (lineW ws).length ≤ 140737488355328) (hl : n ≤ 140737488355328) (hbw : base ≤ w.heap.size) :
    Calls Tryz.prog 40 #[ptrV b, .slice a n c] w fun e w' => e = .returned (.tuple #[]) ∧ ∃ buf', WrW w' base b v f l t buf' (out ++ lineW ws) ∧ WKeep base b w w' := by
  have hlw : (lineW ws).length = (joinT ws).length + 1 := by simp [lineW]
  have hJ := join_any (w := w.drew) (a := a) (c := c) hn (hs.below (w' := w.drew) ⟨rfl, rfl, rfl, Nat.le_refl _, fun _ _ => rfl⟩) hc (by omega) hl
  have H := hide h
  replace hn := hide hn
  unfold ptrV
  clear h hs
  go_enter Tryz.func40, Tryz.ntmps40
  go_wp2_with fail
  refine wp_region_held_drew (S := (fun _ => True)) (by kernel_rfl) trivial (fun hHeld => ?_)
  refine wpAnyH_take (i := 0) (v := ?_) rfl (by kernel_rfl) (by kernel_rfl) (by kernel_rfl) (fun _ _ _ h => h) (Or.inl ⟨by rfl, ?_⟩) hHeld ?_
  rotate_left
  · intro w9 hSw; (try dsimp only at hSw); go_simp; try with_reducible rfl
  simp only [Act.put, List.getElem_toArray, List.getElem_cons_zero, List.getElem_cons_succ, List.setIfInBounds_toArray, List.set_cons_succ, List.set_cons_zero]
  refine wpAnyH_take (i := 1) (v := ?_) rfl (by kernel_rfl) (by kernel_rfl) (by kernel_rfl) (fun _ _ _ h => h) (Or.inl ⟨by rfl, ?_⟩) hHeld ?_
  rotate_left
  · intro w9 hSw; (try dsimp only at hSw); go_simp; try with_reducible rfl
  simp only [Act.put, List.getElem_toArray, List.getElem_cons_zero, List.getElem_cons_succ, List.setIfInBounds_toArray, List.set_cons_succ, List.set_cons_zero]
  refine wpAnyH_take (i := 2) (v := ?_) rfl (by kernel_rfl) (by kernel_rfl) (by kernel_rfl) (fun _ _ _ h => h) (Or.inl ⟨by rfl, ?_⟩) hHeld ?_
  rotate_left
  · intro w9 hSw; (try dsimp only at hSw); go_simp; try with_reducible rfl
  simp only [Act.put, List.getElem_toArray, List.getElem_cons_zero, List.getElem_cons_succ, List.setIfInBounds_toArray, List.set_cons_succ, List.set_cons_zero]
  refine wpAnyH_take (i := 3) (v := ?_) rfl (by kernel_rfl) (by kernel_rfl) (by kernel_rfl) (fun _ _ _ h => h) (Or.inl ⟨by rfl, ?_⟩) hHeld ?_
  rotate_left
  · intro w9 hSw; (try dsimp only at hSw); go_simp; try with_reducible rfl
  simp only [Act.put, List.getElem_toArray, List.getElem_cons_zero, List.getElem_cons_succ, List.setIfInBounds_toArray, List.set_cons_succ, List.set_cons_zero]
  refine wpAnyH_ready (rs := [4]) (by kernel_rfl) (by simp) ?_
  refine AllReadyH.cons rfl (fun K hK => ?_) AllReadyH.nil
  go_simp
  go_at_call 41
  refine hJ.mono ?_
  rintro e w5 ⟨rfl, hB5⟩
  go_wp2_with fail
  refine hK.out _ _ trivial (fun hHeld => ?_)
  clear hK K
  try simp only [Act.put, List.getElem_toArray, List.getElem_cons_zero, List.getElem_cons_succ, List.setIfInBounds_toArray, List.set_cons_succ, List.set_cons_zero]
  have hB : Below w.heap.size w w5 := (show Below w.heap.size w w.drew from ⟨rfl, rfl, rfl, Nat.le_refl _, fun _ _ => rfl⟩).trans hB5
  have hW5 := H.out.below hB
  have hS5 := hide (wrString_any hW5 (joinT ws) (by omega) (by have := hB.size; omega))
  have HB := hide hB
  clear hB hB5 hW5 hJ
  refine wpAnyH_ready (rs := [5]) (by kernel_rfl) (by simp) ?_
  refine AllReadyH.cons rfl (fun K hK => ?_) AllReadyH.nil
  go_simp
  go_at_call 58
  refine hS5.out.mono ?_
  rintro e w6 ⟨rfl, buf6, hW6, hK6⟩
  go_wp2_with fail
  refine hK.out _ _ trivial (fun hHeld => ?_)
  clear hK K
  try simp only [Act.put, List.getElem_toArray, List.getElem_cons_zero, List.getElem_cons_succ, List.setIfInBounds_toArray, List.set_cons_succ, List.set_cons_zero]
  refine wpAnyH_done (by kernel_rfl) ?_ _
  clear hHeld
  have hb6 := hK6.size
  have hb5 := HB.out.size
  have hS6 := hide (wrByte_any hW6 10 (by simp; omega) (by omega))
  have HK6 := hide hK6
  clear hK6 hW6 hS5 hb6 hb5
  go_wp2_with fail
  refine hS6.out.mono ?_
  rintro e w7 ⟨rfl, buf7, hW7, hK7⟩
  have HF := hide (⟨hW7, hK7⟩ : _ ∧ _)
  clear hW7 hK7 hS6
  go_wp2_with fail
  go_end0
  refine ⟨rfl, buf7, ?_, ?_⟩
  · have := HF.out.1
    rw [List.append_assoc] at this
    exact this
  · exact ((WKeep.of_below HB.out hbw).trans HK6.out).trans HF.out.2
end
end Go.Proofs.YtlefemndikednaaGreatDoor
/-
  The words of the plain text.
-/
namespace Go.Proofs
open Go.Shelf
shelf_lay LaysM.n171 Nm 171 at Tryz as Tryz.laysM171
end Go.Proofs
namespace Go.Proofs.YtlefemndikednaaGreatDoor
open Go.RowKit Go.Shelf Go.Proofs.Cod

theorem Tryz.powG : Tryz.prog.globalNamed "internal/strconv.uint64pow10" = some 2 := by kernel_rfl
/-- The tables that lie in their variables; their blocks lie below B. -/
structure Tabs (w : World) (B : Nat) : Prop where
  heads : Heads w
  shapes : Shapes w
  pow : Lib.TabIs Tryz.prog w "internal/strconv.uint64pow10" .u64 Lib.pow10Tab
  lt : 3 ≤ B
theorem Tabs.keep {w w' : World} {B : Nat} (h : Tabs w B) (hb : Below B w w') : Tabs w' B := by
  have hl := h.lt
  refine ⟨h.heads.kept (hb.block _ (by show 0 < B; omega)), h.shapes.kept (hb.block _ (by show 1 < B; omega)), ?_, hl⟩
  have hp := h.pow
  unfold Lib.TabIs World.var? at hp ⊢
  rw [Tryz.powG] at hp ⊢
  simp only [Option.bind_some] at hp ⊢
  rw [hb.block 2 (by omega)]
  exact hp
theorem Tabs.mono {w : World} {B B' : Nat} (h : Tabs w B) (hb : B ≤ B') : Tabs w B' := ⟨h.heads, h.shapes, h.pow, Nat.le_trans h.lt hb⟩
theorem itoa_any (n : Int) (h0 : -9223372036854775808 ≤ n) (h1 : n ≤ 9223372036854775807) (w : World) {B : Nat} (ht : Tabs w B) : Calls Tryz.prog 27 #[.int .i64 n] w fun e w' => e = .returned (.string (bs (Lib.itoa n))) ∧ Below w.heap.size w w' := by
  refine (Any.strconv_Itoa Tryz.laysM171 n h0 h1 w ht.pow).mono ?_
  rintro e w' ⟨rfl, k, os, rfl⟩
  exact ⟨rfl, Lib.below_grow w.heap.size w (Nat.le_refl _) k os⟩
def fitI (n : Int) : Prop := -9223372036854775808 ≤ n ∧ n ≤ 9223372036854775807
def regW (n : Int) : Tx := 114 :: Lib.itoa n
def labW (n : Int) : Tx := 108 :: Lib.itoa n
def argW (r : Bool) (n : Int) : Tx := if r then regW n else Lib.itoa n
section
variable {w : World} {B : Nat}
set_option maxRecDepth 100000 in
theorem labelName_any (n : Int) (h : fitI n) (ht : Tabs w B) : Calls Tryz.prog 43 #[.int .i64 n] w fun e w' => e = .returned (.string (bs (labW n))) ∧ Below w.heap.size w w' := by
  unfold labW
  have hI := itoa_any n h.1 h.2 w ht
  have hil := Lib.itoa_length_le n h.1 h.2
  generalize Lib.itoa n = x at *
  have hsz : ¬ 9223372036854775807 < 1 + (bs x).size := by rw [bs_size]; omega
  clear h ht
  go_enter Tryz.func43, Tryz.ntmps43
  go_wp2_with fail
  refine hI.mono ?_
  rintro e w2 ⟨rfl, hB⟩
  replace hB := hide hB
  go_wp2_with fail
  go_ret
  exact ⟨by first | rfl | exact congrArg _ (congrArg _ (bs_append [108] _)), hB.out⟩
set_option maxRecDepth 100000 in
theorem registerName_any (n : Int) (h : fitI n) (ht : Tabs w B) : Calls Tryz.prog 79 #[.int .i64 n] w fun e w' => e = .returned (.string (bs (regW n))) ∧ Below w.heap.size w w' := by
  unfold regW
  have hI := itoa_any n h.1 h.2 w ht
  have hil := Lib.itoa_length_le n h.1 h.2
  generalize Lib.itoa n = x at *
  have hsz : ¬ 9223372036854775807 < 1 + (bs x).size := by rw [bs_size]; omega
  clear h ht
  go_enter Tryz.func79, Tryz.ntmps79
  go_wp2_with fail
  refine hI.mono ?_
  rintro e w2 ⟨rfl, hB⟩
  replace hB := hide hB
  go_wp2_with fail
  go_ret
  exact ⟨by first | rfl | exact congrArg _ (congrArg _ (bs_append [114] _)), hB.out⟩
set_option maxRecDepth 100000 in
theorem argText_any (r : Bool) (n : Int) (h : fitI n) (hB : B ≤ w.heap.size) (ht : Tabs w B) : Calls Tryz.prog 80 #[.agg #[.bool r, .int .i64 n]] w fun e w' => e = .returned (.string (bs (argW r n))) ∧ Below w.heap.size w w' := by
  have hb1 : ∀ o, Below w.heap.size w (w.alloc o) := fun o => (Below.refl _ _).alloc (Nat.le_refl _) o
  have hI := fun o => itoa_any n h.1 h.2 (w.alloc o) (ht.keep ((hb1 o).mono hB))
  have hR := fun o => registerName_any n h (ht.keep ((hb1 o).mono hB))
  replace hb1 := hide hb1
  replace hI := hide hI
  replace hR := hide hR
  clear h ht
  cases r with
  | true =>
    go_enter Tryz.func80, Tryz.ntmps80
    go_wp2_with fail
    refine (hR.out _).mono ?_
    rintro e w2 ⟨rfl, hB2⟩
    replace hB2 := hide hB2
    go_wp2_with fail
    go_ret
    exact ⟨rfl, (hb1.out _).trans (hB2.out.mono (hb1.out _).size)⟩
  | false =>
    go_enter Tryz.func80, Tryz.ntmps80
    go_wp2_with fail
    refine (hI.out _).mono ?_
    rintro e w2 ⟨rfl, hB2⟩
    replace hB2 := hide hB2
    go_wp2_with fail
    go_ret
    exact ⟨rfl, (hb1.out _).trans (hB2.out.mono (hb1.out _).size)⟩
end
section
variable {w : World} {base b : Nat} {v f l t buf : Value} {out : Tx}
set_option maxRecDepth 100000 in
theorem wrNames_any (h : WrW w base b v f l t buf out) (c : Int) (hc : c = 118 ∨ c = 102 ∨ c = 109) : Calls Tryz.prog 39 #[ptrV b, .int .u8 c] w fun e w' => e = .returned (if c = 118 then v else if c = 102 then f else l) ∧ w' = w := by
  obtain ⟨c0, c1, c2, c3, c5⟩ := h.cells
  unfold ptrV
  clear h
  rcases hc with rfl | rfl | rfl
  · go_enter Tryz.func39, Tryz.ntmps39
    go_wp2_with fail
    go_ret
    exact ⟨rfl, rfl⟩
  · go_enter Tryz.func39, Tryz.ntmps39
    go_wp2_with fail
    go_ret
    exact ⟨rfl, rfl⟩
  · go_enter Tryz.func39, Tryz.ntmps39
    go_wp2_with fail
    go_ret
    exact ⟨rfl, rfl⟩
/-- The i-th of a list; a stroke where there is none. -/
def getW (l : List Tx) (x : Int) : Tx := if 0 ≤ x ∧ x < l.length then l.getD x.toNat [] else [45]
set_option maxRecDepth 100000 in
theorem wrThread_any (h : WrW w base b v f l t buf out) {vs fs ls : List Tx} {L : List (Tx × Value)} {C : List (List In7)} (hp : ProgW w 0 v f l t vs fs ls L C) (x : Int) (hx : 0 ≤ x) (hx2 : x < L.length) : Calls Tryz.prog 81 #[ptrV b, .int .i64 x] w fun e w' => e = .returned (.string (bs (getW (L.map Prod.fst) x))) ∧ w' = w := by
  obtain ⟨c0, c1, c2, c3, c5⟩ := h.cells
  obtain ⟨n, rfl⟩ : ∃ n : Nat, x = n := ⟨x.toNat, by omega⟩
  have hn : n < L.length := by omega
  obtain ⟨q, hq⟩ : ∃ q, L[n]? = some q := ⟨_, List.getElem?_eq_getElem hn⟩
  obtain ⟨g, cap, e, hg, g0, g1⟩ := hp.thrAt hq
  subst e
  have hw : getW (L.map Prod.fst) (n : Int) = q.1 := by
    unfold getW
    rw [if_pos ⟨hx, by simpa using hx2⟩, List.getD_eq_getElem?_getD, Int.toNat_natCast, List.getElem?_map, hq]; rfl
  rw [hw]
  unfold ptrV
  replace hg := hide hg
  clear h hp hn hq hw c0 c1 c2 c5 g1
  go_enter Tryz.func81, Tryz.ntmps81
  go_wp2_with fail
  go_ret
  exact ⟨rfl, rfl⟩
end
end Go.Proofs.YtlefemndikednaaGreatDoor
