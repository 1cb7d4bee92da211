import Derived.Test.YtlpdomgedaockaaGreatDoorOl16
import Derived.Test.YtlpdomgedaockaaGreatDoorOl0
import Derived.Test.YtlpdomgedaockaaGreatDoorCards
import Derived.Test.YtlpdomgedaockaaGreatDoorTie
import Derived.SizedLaws
import Derived.ShutString
import Derived.ChangeOld
import Derived.JoinedCond
import Derived.OpenShut
import Derived.Deep.DeepHandedRow
import Derived.Lib.LaidTab
import Derived.LaidSub
import Derived.ChangeMaps5
set_option linter.unusedVariables false
set_option linter.unusedSimpArgs false
namespace Go.Proofs.YtlpdomgedaockaaGreatDoor
open Go.RowKit Go.Proofs.Cod
theorem rprog_val {w : World} {fn : Func} {tmps : Array Value} {b : Nat} {x y a0 a1 a2 a3 : Value} (hr : fn.results = #[.cell 2 29, .tmp 3, .tmp 4]) (ht : tmps[2]? = some (.pointer (some ⟨b, 0, none⟩))) (h3 : tmps[3]? = some x) (h4 : tmps[4]? = some y) (hc : w.heap[b]? = some (.cells #[a0, a1, a2, a3] 29)) : (results fn tmps).run Tryz.prog w = .ok (.tuple #[.agg #[a0, a1, a2, a3], x, y]) w := by
  have c0 : w.cell? ⟨b, 0, none⟩ = some a0 := by simp [World.cell?, hc]
  have c1 : w.cell? ⟨b, 1, none⟩ = some a1 := by simp [World.cell?, hc]
  have c2 : w.cell? ⟨b, 2, none⟩ = some a2 := by simp [World.cell?, hc]
  have c3 : w.cell? ⟨b, 3, none⟩ = some a3 := by simp [World.cell?, hc]
  simp [results, hr, ht, h3, h4, go_sem, c0, c1, c2, c3]
def RV.new : RV := ⟨fun _ => .slice none 0 0, .slice none 0 0, []⟩
def tag1 (n : Nat) : Nat → RT := fun b => if b = n then .rd else .o
theorem RfW.new {w : World} {base pb : Nat} (hc : w.heap[pb]? = some (.cells #[.slice none 0 0, .slice none 0 0, .slice none 0 0, .slice none 0 0] 29)) (hb : base ≤ pb) : RfW w (tag1 pb) base pb RP.new RV.new := by
  have hl : pb < w.heap.size := (Array.getElem?_eq_some_iff.1 hc).1
  refine ⟨hc, fun k hk => ⟨?_, fun g e => by cases e⟩, World.ownsRow_nil _ _ _ _, (fun g e => by cases e), rfl, (fun j th p h => by cases h), by simp [tag1], fun b hb' => ?_, by omega⟩
  · have e : RP.new.get k = [] := by simp [RP.get, RP.new]
    rw [e]; exact World.ownsRow_nil _ _ _ _
  · unfold tag1 at hb'
    split at hb'
    · rename_i e; subst e; exact ⟨hb, hl⟩
    · exact absurd rfl hb'
def RParseR (w : World) (t : Tx) (e : Ending) (w' : World) : Prop := Below w.heap.size w w' ∧ ((∃ er ln, parseT t = .error (er, ln) ∧ e = .returned (.tuple #[.agg #[.slice none 0 0, .slice none 0 0, .slice none 0 0, .slice none 0 0], .int .i64 er, .int .i64 ln])) ∨
  (∃ s C tag pb P U, parseT t = .ok (s, C) ∧ e = .returned (.tuple #[.agg #[U.V 118, U.V 102, U.V 109, U.tV], .int .i64 0, .int .i64 0]) ∧ RfW w' tag w.heap.size pb P U ∧ (∀ k, isK k → s.nms k = getK P k) ∧ C = P.thr.map fun th => th.code.map RI.i))
structure RLn (w2 : World) (tag0 : Nat → RT) (base pb : Nat) (t : Tx) (i : Nat) (wr : World) (tag : Nat → RT) (s : PS) (P : RP) (U : RV) : Prop where
  ln : linesT ((splitT 10 t).take i) 0 PS.new = .ok s
  pl : PL P s
  labs : LabsB P i
  rf : RfW wr tag base pb P U
  ext : Ext w2 tag0 wr tag
theorem ext_below {w w1 w' : World} {tag tag' : Nat → RT} {n : Nat} (hb : Below n w w1) (hx : Ext w1 tag w' tag') (ho : ∀ b, b < n → tag b = .o) (hn : n ≤ w1.heap.size) : Below n w w' :=
  ⟨hx.os.trans hb.os, hx.tape.trans hb.tape, hx.output.trans hb.output, Nat.le_trans hb.size hx.size, fun b hl => (hx.block b (by omega) (ho b hl)).trans (hb.block b hl)⟩
theorem two_made (w : World) (A B : Obj) : ((w.alloc A).alloc B).heap[w.heap.size]? = some A ∧ ((w.alloc A).alloc B).heap[w.heap.size + 1]? = some B ∧ Below w.heap.size w ((w.alloc A).alloc B) ∧ ((w.alloc A).alloc B).heap.size = w.heap.size + 2 := by
  refine ⟨?_, ?_, ?_, by simp⟩
  · rw [Below.heap_alloc _ B _ (by simp)]; exact World.alloc_heap_new w A
  · have := World.alloc_heap_new (w.alloc A) B
    rw [World.size_alloc] at this; exact this
  · exact ((Below.refl _ _).alloc (Nat.le_refl _) _).alloc (by simp) _
theorem four_set0 {w : World} {n T : Nat} {a0 a1 a2 a3 : Value} (hk : w.heap[n]? = some (.cells #[a0, a1, a2, a3] T)) (v0 v1 v2 v3 : Value) : ∃ W, (((w.setCell ⟨n, 0, none⟩ v0).setCell ⟨n, 1, none⟩ v1).setCell ⟨n, 2, none⟩ v2).setCell ⟨n, 3, none⟩ v3 = W ∧ W.heap[n]? = some (.cells #[v0, v1, v2, v3] T) ∧ (∀ b, b ≠ n → W.heap[b]? = w.heap[b]?) ∧ W.heap.size = w.heap.size ∧ W.os = w.os ∧ W.tape = w.tape ∧ W.output = w.output := by
  refine ⟨_, rfl, ?_, fun b hb => ?_, by simp, rfl, rfl, rfl⟩
  · have h0 := (heap_setCell_same _ n 0 _ _ v0 hk).trans (show _ = some (Obj.cells #[v0, a1, a2, a3] T) from rfl)
    have h1 := (heap_setCell_same _ n 1 _ _ v1 h0).trans (show _ = some (Obj.cells #[v0, v1, a2, a3] T) from rfl)
    have h2 := (heap_setCell_same _ n 2 _ _ v2 h1).trans (show _ = some (Obj.cells #[v0, v1, v2, a3] T) from rfl)
    exact (heap_setCell_same _ n 3 _ _ v3 h2).trans (show _ = some (Obj.cells #[v0, v1, v2, v3] T) from rfl)
  · rw [Below.heap_setCell _ ⟨n, 3, none⟩ _ b hb, Below.heap_setCell _ ⟨n, 2, none⟩ _ b hb, Below.heap_setCell _ ⟨n, 1, none⟩ _ b hb, Below.heap_setCell _ ⟨n, 0, none⟩ _ b hb]
theorem nilN_cells {w : World} {n : Nat} (hk : w.heap[n]? = some (.cells #[.slice none 0 0, .slice none 0 0, .slice none 0 0, .slice none 0 0] 29)) : (w.cell? ⟨n, 0, none⟩ = some (.slice none 0 0) ∧ w.cell? ⟨n, 1, none⟩ = some (.slice none 0 0) ∧ w.cell? ⟨n, 2, none⟩ = some (.slice none 0 0) ∧ w.cell? ⟨n, 3, none⟩ = some (.slice none 0 0)) ∧ ∀ i, w.frozen? ⟨n, i, none⟩ = false := by
  refine ⟨⟨?_, ?_, ?_, ?_⟩, fun i => ?_⟩
  · simp [World.cell?, hk]
  · simp [World.cell?, hk]
  · simp [World.cell?, hk]
  · simp [World.cell?, hk]
  · simp [World.frozen?, hk]
set_option maxRecDepth 100000 in
set_option maxHeartbeats 2000000 in
theorem rParse_any (t : Tx) (w : World) (hlen : t.length < 140737488355328) : Calls Tryz.prog 10 #[.string (bs t)] w (RParseR w t) := by
  have hz := bs_size t
  by_cases h3 : 3000 < t.length
  · have hP : Hid (parseT t = .error (1, 0)) := by unfold Hid parseT; rw [if_pos h3]
    have h3' : (3000 : Int) < (t.length : Int) := by omega
    go_enter Tryz.func10, Tryz.ntmps10
    go_wp2_with fail
    exact bodyPost_ret (rprog_val rfl rfl rfl rfl (World.alloc_heap_new w _)) rfl ⟨(Below.refl _ _).alloc (Nat.le_refl _) _, .inl ⟨1, 0, hP.out, rfl⟩⟩
  · have hP : Hid (parseT t = parseL t) := by unfold Hid parseT; rw [if_neg h3]
    have h3' : ¬ (3000 : Int) < (t.length : Int) := by omega
    have ht3 : Hid (t.length ≤ 3000) := by unfold Hid; omega
    go_enter Tryz.func10, Tryz.ntmps10
    go_wp2_with fail
    obtain ⟨kA, kB, hB1, hz1⟩ := two_made w (.cells #[.slice none 0 0, .slice none 0 0, .slice none 0 0, .slice none 0 0] 29) (.cells #[.slice none 0 0, .slice none 0 0, .slice none 0 0, .slice none 0 0] 29)
    generalize World.alloc (World.alloc w _) _ = w1 at *
    have hN := RfW.new (base := w.heap.size) kB (by omega)
    refine (rLines_any t w1 (by have := ht3.out; omega)).mono ?_
    rintro e w2 ⟨v, rfl, hS⟩
    obtain ⟨la, lcap, hv⟩ := owns_len hS.row
    obtain ⟨m, hm⟩ : ∃ m, (splitT 10 t).length = m + 1 := ⟨(splitT 10 t).length - 1, by have := List.length_pos_iff.2 (splitT_ne 10 t); omega⟩
    have hrow := hS.row
    have hrow2 := hrow
    rw [hm] at hrow2
    obtain ⟨lg, lcap2, hv2⟩ := ownsRow_succ hrow2
    rw [← hm] at hv2
    subst hv2
    cases hv
    have hlg := hrow.lt lg rfl
    have hR2 := hN.below hS.low
    have hA2 : w2.heap[w.heap.size]? = some (.cells #[.slice none 0 0, .slice none 0 0, .slice none 0 0, .slice none 0 0] 29) := (hS.low.block _ (by omega)).trans kA
    have hB2 : Below w.heap.size w w2 := hB1.trans (hS.low.mono (by omega))
    have hcl : ∀ i l, (splitT 10 t)[i]? = some l → w2.cell? ⟨lg, i, none⟩ = some (.string (bs l)) := fun i l hl => by
      rw [hrow.cellAt i (by have := (List.getElem?_eq_some_iff.1 hl).1; omega), List.getElem?_map, hl]; rfl
    have hll : (splitT 10 t).length ≤ 3001 := by have := splitT_len 10 t; have := ht3.out; omega
    have to1 : tag1 (w.heap.size + 1) lg = .o := by unfold tag1; rw [if_neg (by omega)]
    have to2 : tag1 (w.heap.size + 1) w.heap.size = .o := by unfold tag1; rw [if_neg (by omega)]
    have to3 : ∀ b, b < w.heap.size → tag1 (w.heap.size + 1) b = .o := fun b hb => by unfold tag1; rw [if_neg (by omega)]
    have hrl : w.heap.size < w2.heap.size := (Array.getElem?_eq_some_iff.1 hA2).1
    have HC := hide (⟨hlg, hA2, hB2, hcl, hll, to1, to2, to3, hrl⟩ : _ ∧ _ ∧ _ ∧ _ ∧ _ ∧ _ ∧ _ ∧ _ ∧ _)
    have HR2 := hide hR2
    clear hlg hA2 hB2 hcl to1 to2 to3 hrl hR2 hN kA kB hB1 hz1 hS hrow hrow2 hm hz h3 hlen
    obtain ⟨L, hL⟩ : ∃ L, splitT 10 t = L := ⟨_, rfl⟩
    rw [hL] at HC hll
    rw [hL]
    replace hL := hide hL
    replace hll := hide hll
    generalize hpb : w.heap.size + 1 = pb at *
    replace hpb := hide hpb
    go_wp2_with fail
    go_loopw [7] (fun iv wr => ∃ i : Nat, i ≤ L.length ∧ iv = .int .i64 i ∧ ∃ tag s P U, RLn w2 (tag1 pb) w.heap.size pb t i wr tag s P U) (fun iv _ => L.length - (intOf iv).toNat)
    case atStart => exact ⟨0, Nat.zero_le _, rfl, tag1 pb, PS.new, RP.new, RV.new, rfl, PL.new, (fun th h => by cases h), HR2.out, Ext.refl _ _⟩
    case round =>
      obtain ⟨i, hi, rfl, tag, s, P, U, hJ⟩ := hrel
      clear HR2
      obtain ⟨hlg, hA2, hB2, hcl, hll', to1, to2, to3, hrl⟩ := HC.out
      have hAr := (hJ.ext.block w.heap.size hrl to2).trans hA2
      by_cases h5 : i < L.length
      · have hlt : (i : Int) < (L.length : Int) := by omega
        obtain ⟨l, hl⟩ : ∃ l, L[i]? = some l := ⟨_, List.getElem?_eq_getElem h5⟩
        have c0 : wr.cell? ⟨lg, i, none⟩ = some (.string (bs l)) := (World.cell?_of_block (w := w2) (a := ⟨lg, i, none⟩) (hJ.ext.block lg hlg.2 to1)).trans (hcl i l hl)
        have hl3 : l.length ≤ 3000 := by
          have hl' := hl
          rw [← hL.out] at hl'
          have := piece_len hl'
          have := ht3.out
          omega
        have hW := rWords_any l wr (by omega)
        have hwi : wrap64 ((i : Int) + 1) = (i : Int) + 1 := IntWalk.wrap64_in _ (by omega)
        have HJ := hide (⟨hJ, h5, hl, hl3, hAr⟩ : _ ∧ _ ∧ _ ∧ _ ∧ _)
        clear hJ hl hi h5 hAr hl3 hlg hA2 hB2 hcl hll' to1 to2 to3 hrl
        go_wp2_with fail
        refine hW.mono ?_
        clear hW c0
        rintro e w3 ⟨v, rfl, hS3⟩
        obtain ⟨wa, wcap, hv⟩ := owns_len hS3.row
        have hR3 := HJ.out.1.rf.below hS3.low
        have hX3 : Ext wr tag w3 tag := .of_below hS3.low
        obtain ⟨hJ, h5, hl, hl3, hAr⟩ := HJ.out
        cases hws : wordsT l with
        | nil =>
          rw [hws] at hv
          subst hv
          have hlT : ∀ n, lineT n l s = .ok s := fun n => by unfold lineT; rw [hws]
          have HN : Hid (RLn w2 (tag1 pb) w.heap.size pb t (i + 1) w3 tag s P U) := by
            refine ⟨(linesT_take (ls := splitT 10 t) (by rw [hL.out]; exact hl) hJ.ln).1 s (hlT _), hJ.pl, labs_up hJ.labs, hR3, hJ.ext.trans hX3⟩
          replace h5 := hide h5
          clear hJ hl hl3 hAr hS3 hR3 hX3 hlT HJ HC
          go_wp2_with fail
          go_roundw
          case rel =>
            rw [hwi]
            exact ⟨i + 1, h5.out, rfl, tag, s, P, U, HN.out⟩
          case measure =>
            rw [hwi]
            exact Nat.sub_lt_sub_left h5.out (Nat.lt_succ_self i)
        | cons f ts =>
          have hrow3 := hS3.row
          rw [hws] at hv hrow3
          subst hv
          obtain ⟨wg, wcap2, e⟩ := ownsRow_succ (k := ts.length) (by simpa using hrow3)
          have e : Value.slice wa (ts.length + 1) wcap = .slice (some ⟨wg, 0, none⟩) (ts.length + 1) wcap2 := e
          cases e
          have hwg := hrow3.lt wg rfl
          have hmem : ∀ x, x ∈ f :: ts → x ∈ wordsT l := fun x hx => by rw [hws]; exact hx
          have hwle := words_le l
          rw [hws] at hwle
          have hwle : ts.length + 1 ≤ l.length + 1 := by simpa using hwle
          have hfl := word_len (hmem f (by simp))
          have htg : tag wg = .o := by
            cases hq : tag wg with
            | o => rfl
            | _ => exact absurd (hJ.rf.tlt wg (by rw [hq]; simp)).2 (by omega)
          have hcapw : ts.length + 1 ≤ wcap := by
            rcases hrow3.2 with ⟨h1, _⟩ | ⟨g, cap, cur, h1, h2⟩
            · cases h1
            · cases h1
              exact h2.2.2.1
          have hWs : WsT w3 tag (some ⟨wg, 0, none⟩) (f :: ts) := fun j hj => ⟨wg, 0, rfl, hwg.2, by
            rw [Nat.zero_add, hrow3.cellAt j (by simpa using hj), List.getElem?_map, List.getElem?_eq_getElem hj, List.getD_eq_getElem?_getD, List.getElem?_eq_getElem hj]; rfl, htg⟩
          have hLn := rLine_any hR3 hJ.pl hJ.labs (by have := hll.out; omega) wg 0 (ts.length + 1) wcap f ts rfl hWs hcapw (by omega) ((i : Int) + 1) (by omega) (words_ne (hmem f (by simp))) (by omega)
          unfold ptrV at hLn
          have hlT : ∀ n, lineT n l s = stepT n f ts s := fun n => by unfold lineT; rw [hws]
          have hlt1 := linesT_take (ls := splitT 10 t) (by rw [hL.out]; exact hl) hJ.ln
          rw [hlT, Int.zero_add] at hlt1
          have hn0 : (((ts.length + 1 : Nat) : Int) == 0) = false := by simp; omega
          have hn0' : (((ts.length : Int) + 1) == 0) = false := by simp; omega
          have htg0 : tag w.heap.size = .o := (hJ.ext.tags _ HC.out.2.2.2.2.2.2.2.2).trans HC.out.2.2.2.2.2.2.1
          have hrl3 : w.heap.size < wr.heap.size := (Array.getElem?_eq_some_iff.1 hAr).1
          have HN := hide (⟨hlt1, hJ.ext.trans hX3, h5, (hX3.block _ hrl3 htg0).trans hAr, htg0⟩ : _ ∧ _ ∧ _ ∧ _ ∧ _)
          clear hJ hl hl3 hAr hS3 hR3 hX3 hlT HJ hrow3 hwg hmem hwle hfl htg hWs hcapw hlt1 h5 hws htg0 hrl3
          go_wp2_with fail
          refine hLn.mono ?_
          clear hLn
          rintro en w4 ⟨e, tag', P', U', rfl, hR4, hX4, hBo⟩
          obtain ⟨hlt1, hX3, h5, hA3, htg0⟩ := HN.out
          rcases hBo with ⟨he, ho⟩ | ⟨rfl, ⟨s', ho, hpl⟩, hlb⟩
          · have he' : (e != 0) = true := by simpa using he
            have hA4 := (hX4.block _ (Array.getElem?_eq_some_iff.1 hA3).1 htg0).trans hA3
            obtain ⟨⟨a0, a1, a2, a3⟩, af⟩ := nilN_cells hA4
            have hPe : Hid (parseT t = .error (e, (i : Int) + 1)) := by rw [hP.out]; exact parse_err1 (hlt1.2 e ho)
            have hBw : Hid (Below w.heap.size w w4) := ext_below HC.out.2.2.1 (hX3.trans hX4) HC.out.2.2.2.2.2.2.2.1 (Nat.le_of_lt HC.out.2.2.2.2.2.2.2.2)
            replace hA4 := hide hA4
            clear hlt1 hX3 h5 hA3 htg0 HN hR4 hX4 ho HC he
            go_wp2_with fail
            obtain ⟨W, hW, k1, k2, k3, k4, k5, k6⟩ := four_set0 hA4.out (.slice none 0 0) (.slice none 0 0) (.slice none 0 0) (.slice none 0 0)
            rw [hW]
            have hB := hBw.out
            exact bodyPost_ret (rprog_val rfl rfl rfl rfl k1) rfl ⟨⟨k4.trans hB.os, k5.trans hB.tape, k6.trans hB.output, by have := hB.size; omega, fun b hb => (k2 b (by omega)).trans (hB.block b hb)⟩, .inl ⟨e, (i : Int) + 1, hPe.out, by show Ending.returned (.tuple #[_, .int .i64 e, .int .i64 (wrap64 ((i : Int) + 1))]) = _; rw [hwi]⟩⟩
          · have HM : Hid (RLn w2 (tag1 pb) w.heap.size pb t (i + 1) w4 tag' s' P' U') := ⟨hlt1.1 s' ho, hpl, hlb, hR4, hX3.trans hX4⟩
            replace h5 := hide h5
            clear hlt1 hX3 hA3 htg0 HN hR4 hX4 ho HC hpl hlb
            go_wp2_with fail
            go_roundw
            case rel =>
              rw [hwi]
              exact ⟨i + 1, h5.out, rfl, tag', s', P', U', HM.out⟩
            case measure =>
              rw [hwi]
              exact Nat.sub_lt_sub_left h5.out (Nat.lt_succ_self i)
      · have hil : i = L.length := by omega
        subst hil
        have hln := hJ.ln
        rw [hL.out, List.take_length, ← hL.out] at hln
        have hthr4 : P.thr.length ≤ 4 := by
          have := hJ.pl.few 116 (by simp [isK])
          have g4 : getK P 116 = P.names := by simp [getK]
          rw [g4] at this
          simpa [RP.names] using this
        have hRs := rRes_any hJ.rf (by omega) (fun th hth => by
          have h1 := hJ.pl.code th hth
          have h2 := hJ.labs th hth
          exact ⟨by omega, by omega⟩)
        unfold ptrV at hRs
        have hra := res_all hJ.pl P.thr (fun th hth r hr => (hJ.pl.pos th hth r hr).1)
        rw [← hJ.pl.bod] at hra
        have htg0 : tag w.heap.size = .o := (hJ.ext.tags _ hrl).trans to2
        have HN := hide (⟨hln, hra, hJ, hAr, htg0⟩ : _ ∧ _ ∧ _ ∧ _ ∧ _)
        clear hJ hAr hln hra hthr4 htg0 hi h5 hlg hA2 hB2 hcl hll' to1 to2 to3 hrl
        go_wp2_with fail
        refine hRs.mono ?_
        clear hRs
        obtain ⟨hln, hra, hJ, hAr, htg0⟩ := HN.out
        rintro en w4 ⟨hX4, (⟨n, hbn, rfl⟩ | ⟨hbn, rfl, hR4⟩)⟩
        · have hn : 0 < n := badT_pos (fun th hth r hr => (hJ.pl.pos th hth r hr).2) hbn
          rw [hbn] at hra
          have hA4 := (hX4.block _ (Array.getElem?_eq_some_iff.1 hAr).1 htg0).trans hAr
          obtain ⟨⟨a0, a1, a2, a3⟩, af⟩ := nilN_cells hA4
          have hPe : Hid (parseT t = .error (5, n)) := by rw [hP.out]; exact parse_err2 hln hra
          have hBw : Hid (Below w.heap.size w w4) := ext_below HC.out.2.2.1 (hJ.ext.trans hX4) HC.out.2.2.2.2.2.2.2.1 (Nat.le_of_lt HC.out.2.2.2.2.2.2.2.2)
          replace hA4 := hide hA4
          clear hln hra hJ hAr htg0 HN hX4 HC hbn
          go_wp2_with fail
          obtain ⟨W, hW, k1, k2, k3, k4, k5, k6⟩ := four_set0 hA4.out (.slice none 0 0) (.slice none 0 0) (.slice none 0 0) (.slice none 0 0)
          rw [hW]
          have hB := hBw.out
          exact bodyPost_ret (rprog_val rfl rfl rfl rfl k1) rfl ⟨⟨k4.trans hB.os, k5.trans hB.tape, k6.trans hB.output, by have := hB.size; omega, fun b hb => (k2 b (by omega)).trans (hB.block b hb)⟩, .inl ⟨5, n, hPe.out, rfl⟩⟩
        · rw [hbn] at hra
          have hA4 := (hX4.block _ (Array.getElem?_eq_some_iff.1 hAr).1 htg0).trans hAr
          obtain ⟨⟨a0, a1, a2, a3⟩, af⟩ := nilN_cells hA4
          have hPe : Hid (parseT t = .ok (s, P.thr.map fun th => (rsT P th).code.map RI.i)) := by rw [hP.out]; exact parse_ok hln hra
          have hBw : Hid (Below w.heap.size w w4) := ext_below HC.out.2.2.1 (hJ.ext.trans hX4) HC.out.2.2.2.2.2.2.2.1 (Nat.le_of_lt HC.out.2.2.2.2.2.2.2.2)
          have p0 : w4.cell? ⟨pb, 0, none⟩ = some (U.V 118) := hR4.rowC (k := 118) (by simp [isN])
          have p1 : w4.cell? ⟨pb, 1, none⟩ = some (U.V 102) := hR4.rowC (k := 102) (by simp [isN])
          have p2 : w4.cell? ⟨pb, 2, none⟩ = some (U.V 109) := hR4.rowC (k := 109) (by simp [isN])
          have p3 := hR4.thrV
          obtain ⟨x0, n0, y0, e0⟩ : ∃ x n y, U.V 118 = .slice x n y := by obtain ⟨x, y, e⟩ := rowV_len (hR4.rows 118 (by simp [isN])); exact ⟨x, _, y, e⟩
          obtain ⟨x1, n1, y1, e1⟩ : ∃ x n y, U.V 102 = .slice x n y := by obtain ⟨x, y, e⟩ := rowV_len (hR4.rows 102 (by simp [isN])); exact ⟨x, _, y, e⟩
          obtain ⟨x2, n2, y2, e2⟩ : ∃ x n y, U.V 109 = .slice x n y := by obtain ⟨x, y, e⟩ := rowV_len (hR4.rows 109 (by simp [isN])); exact ⟨x, _, y, e⟩
          obtain ⟨x3, n3, y3, e3⟩ : ∃ x n y, U.tV = .slice x n y := by obtain ⟨x, y, e⟩ := owns_len hR4.trow; exact ⟨x, _, y, e⟩
          have hg : ∀ k, isK k → s.nms k = getK { P with thr := P.thr.map (rsT P) } k := fun k hk => by
            rw [hJ.pl.nms k hk]
            unfold getK
            have e : ({ P with thr := P.thr.map (rsT P) } : RP).names = P.names := by
              show (P.thr.map (rsT P)).map RTh.name = P.thr.map RTh.name
              rw [List.map_map]; rfl
            rw [e]; rfl
          have HR4 := hide (⟨hR4, hg, htg0, e0, e1, e2, e3⟩ : _ ∧ _ ∧ _ ∧ _ ∧ _ ∧ _ ∧ _)
          rw [e0] at p0
          rw [e1] at p1
          rw [e2] at p2
          rw [e3] at p3
          replace hA4 := hide hA4
          clear hln hra hJ hAr htg0 HN hX4 HC hbn hR4 hg e0 e1 e2 e3
          go_wp2_with fail
          obtain ⟨W, hW, k1, k2, k3, k4, k5, k6⟩ := four_set0 hA4.out (U.V 118) (U.V 102) (U.V 109) U.tV
          obtain ⟨hR4, hg, htg0, e0, e1, e2, e3⟩ := HR4.out
          rw [e0, e1, e2, e3] at hW k1
          rw [hW]
          have hB := hBw.out
          refine bodyPost_ret (rprog_val rfl rfl rfl rfl k1) rfl ⟨⟨k4.trans hB.os, k5.trans hB.tape, k6.trans hB.output, by have := hB.size; omega, fun b hb => (k2 b (by omega)).trans (hB.block b hb)⟩, .inr ⟨s, _, tag, pb, _, U, hPe.out, by rw [e0, e1, e2, e3]; rfl, hR4.keepO (fun b hb => k2 b (fun e => hb (by rw [e]; exact htg0))) (by omega), hg, ?_⟩⟩
          show _ = (P.thr.map (rsT P)).map _
          rw [List.map_map]; rfl
end Go.Proofs.YtlpdomgedaockaaGreatDoor
namespace Go.Proofs.YtlpdomgedaockaaGreatDoor
open Go.RowKit Go.Proofs.Cod
structure DView (w : World) (vV fV lV tV : Value) (P : RP) (TV : List (Value × Value)) : Prop where
  v : w.ownsRow 0 9 1 vV P.vs.length (P.vs.map strW)
  f : w.ownsRow 0 9 1 fV P.fs.length (P.fs.map strW)
  l : w.ownsRow 0 9 1 lV P.ls.length (P.ls.map strW)
  t : w.ownsRow 0 146 3 tV P.thr.length ((P.thr.zip TV).flatMap thC)
  len : TV.length = P.thr.length
  c : ∀ (j : Nat) (th : RTh) (p : Value × Value), P.thr[j]? = some th → TV[j]? = some p → w.ownsRow 0 152 9 p.1 th.code.length (th.code.flatMap riC)
theorem DView.below {w w' : World} {vV fV lV tV : Value} {P : RP} {TV : List (Value × Value)} (h : DView w vV fV lV tV P TV) (hb : Below w.heap.size w w') : DView w' vV fV lV tV P TV :=
  ⟨c_belowS h.v hb, c_belowS h.f hb, c_belowS h.l hb, c_belowS h.t hb, h.len, fun j th p h1 h2 => c_belowS (h.c j th p h1 h2) hb⟩
theorem RfW.view {w : World} {tag : Nat → RT} {base pb : Nat} {P : RP} {U : RV} (h : RfW w tag base pb P U) : DView w (U.V 118) (U.V 102) (U.V 109) U.tV P U.TV := by
  have hl : ∀ {k : Int}, isN k → w.ownsRow 0 9 1 (U.V k) (P.get k).length ((P.get k).map strW) := fun hk => by
    have := (h.rows _ hk).row
    rw [List.length_map] at this
    exact c_base this (Nat.zero_le _)
  exact ⟨hl (k := 118) (by simp [isN]), hl (k := 102) (by simp [isN]), hl (k := 109) (by simp [isN]), c_base h.trow (Nat.zero_le _), h.len, fun j th p h1 h2 => c_base (h.ths j th p h1 h2).code (Nat.zero_le _)⟩
theorem DView.nil (w : World) : DView w (.slice none 0 0) (.slice none 0 0) (.slice none 0 0) (.slice none 0 0) RP.new [] :=
  ⟨World.ownsRow_nil _ _ _ _, World.ownsRow_nil _ _ _ _, World.ownsRow_nil _ _ _ _, World.ownsRow_nil _ _ _ _, rfl, (fun j th p h => by cases h)⟩
theorem ProgW.nil (w : World) (base : Nat) : ProgW w base (.slice none 0 0) (.slice none 0 0) (.slice none 0 0) (.slice none 0 0) [] [] [] [] [] :=
  ⟨World.ownsRow_nil _ _ _ _, World.ownsRow_nil _ _ _ _, World.ownsRow_nil _ _ _ _, World.ownsRow_nil _ _ _ _, (fun j p is h => by cases h), rfl⟩
theorem ProgW.below {w w' : World} {base : Nat} {vV fV lV thV : Value} {vs fs ls : List Tx} {L : List (Tx × Value)} {C : List (List In7)} (h : ProgW w base vV fV lV thV vs fs ls L C) (hb : Below w.heap.size w w') : ProgW w' base vV fV lV thV vs fs ls L C :=
  ⟨c_belowS h.v hb, c_belowS h.f hb, c_belowS h.l hb, c_belowS h.t hb, fun i p is h1 h2 => c_belowS (h.c i p is h1 h2) hb, h.len⟩
structure I9At (w : World) (g k : Nat) (r : RI) : Prop where
  c0 : w.cell? ⟨g, k * 9, none⟩ = some (.string (bs r.i.op))
  c1 : w.cell? ⟨g, k * 9 + 1, none⟩ = some (.int .i64 r.i.r)
  c2 : w.cell? ⟨g, k * 9 + 2, none⟩ = some (.bool r.i.aR)
  c3 : w.cell? ⟨g, k * 9 + 3, none⟩ = some (.int .i64 r.i.aN)
  c4 : w.cell? ⟨g, k * 9 + 4, none⟩ = some (.bool r.i.bR)
  c5 : w.cell? ⟨g, k * 9 + 5, none⟩ = some (.int .i64 r.i.bN)
  c6 : w.cell? ⟨g, k * 9 + 6, none⟩ = some (.int .i64 r.i.x)
  c7 : w.cell? ⟨g, k * 9 + 7, none⟩ = some (.int .i64 r.line)
  c8 : w.cell? ⟨g, k * 9 + 8, none⟩ = some (.string (bs r.word))
theorem i9_at {w : World} {base : Nat} {v : Value} {rs : List RI} {k : Nat} {r : RI} (h : w.ownsRow base 152 9 v rs.length (rs.flatMap riC)) (hk : rs[k]? = some r) : ∃ g cap, v = .slice (some ⟨g, 0, none⟩) rs.length cap ∧ g < w.heap.size ∧ I9At w g k r := by
  have hl := (List.getElem?_eq_some_iff.1 hk).1
  obtain ⟨g, cap, e, hg, hc⟩ := row_form h hl
  have key : ∀ q, q < 9 → w.cell? ⟨g, k * 9 + q, none⟩ = (riC r)[q]? := fun q hq => by
    rw [hc (k * 9 + q) (by omega)]; exact flat_at riC_len hk hq
  exact ⟨g, cap, e, hg, key 0 (by omega), key 1 (by omega), key 2 (by omega), key 3 (by omega), key 4 (by omega), key 5 (by omega), key 6 (by omega), key 7 (by omega), key 8 (by omega)⟩
theorem ProgW.thrAt {w : World} {base : Nat} {vV fV lV thV : Value} {vs fs ls : List Tx} {L : List (Tx × Value)} {C : List (List In7)} (h : ProgW w base vV fV lV thV vs fs ls L C) {j : Nat} {p : Tx × Value} (hj : L[j]? = some p) : ∃ g cap, thV = .slice (some ⟨g, 0, none⟩) L.length cap ∧ g < w.heap.size ∧ w.cell? ⟨g, j * 2, none⟩ = some (.string (bs p.1)) ∧ w.cell? ⟨g, j * 2 + 1, none⟩ = some p.2 := by
  have hl := (List.getElem?_eq_some_iff.1 hj).1
  obtain ⟨g, cap, e, hg, hc⟩ := row_form h.t hl
  have key : ∀ q, q < 2 → w.cell? ⟨g, j * 2 + q, none⟩ = [Value.string (bs p.1), p.2][q]? := fun q hq => by
    rw [hc (j * 2 + q) (by omega)]; exact flat_at (f := fun p : Tx × Value => [Value.string (bs p.1), p.2]) thrL_len hj hq
  exact ⟨g, cap, e, hg, key 0 (by omega), key 1 (by omega)⟩
theorem DView.thrAt {w : World} {vV fV lV tV : Value} {P : RP} {TV : List (Value × Value)} (h : DView w vV fV lV tV P TV) {j : Nat} {th : RTh} {p : Value × Value} (hj : P.thr[j]? = some th) (hp : TV[j]? = some p) : ∃ g cap, tV = .slice (some ⟨g, 0, none⟩) P.thr.length cap ∧ g < w.heap.size ∧ w.cell? ⟨g, j * 3, none⟩ = some (.string (bs th.name)) ∧ w.cell? ⟨g, j * 3 + 1, none⟩ = some p.1 := by
  have hl := (List.getElem?_eq_some_iff.1 hj).1
  obtain ⟨g, cap, e, hg, hc⟩ := row_form h.t hl
  have hz : (P.thr.zip TV)[j]? = some (th, p) := by rw [List.getElem?_zip_eq_some]; exact ⟨hj, hp⟩
  have key : ∀ q, q < 3 → w.cell? ⟨g, j * 3 + q, none⟩ = (thC (th, p))[q]? := fun q hq => by
    rw [hc (j * 3 + q) (by omega)]; exact flat_at thC_len hz hq
  exact ⟨g, cap, e, hg, key 0 (by omega), key 1 (by omega)⟩
end Go.Proofs.YtlpdomgedaockaaGreatDoor
namespace Go.Proofs.YtlpdomgedaockaaGreatDoor
open Go.RowKit Go.Shelf Go.Proofs.Cod
def PV (t : Tx) (er ln : Int) (vs fs ls ts : List Tx) (C : List (List In7)) : Prop := match parseT t with
  | .error p => er = p.1 ∧ ln = p.2 ∧ vs = [] ∧ fs = [] ∧ ls = [] ∧ ts = [] ∧ C = []
  | .ok p => er = 0 ∧ ln = 0 ∧ vs = p.1.nms 118 ∧ fs = p.1.nms 102 ∧ ls = p.1.nms 109 ∧ ts = p.1.nms 116 ∧ C = p.2
theorem PV.eq {t : Tx} {er ln er' ln' : Int} {vs fs ls ts vs' fs' ls' ts' : List Tx} {C C' : List (List In7)} (h : PV t er ln vs fs ls ts C) (h' : PV t er' ln' vs' fs' ls' ts' C') : er = er' ∧ ln = ln' ∧ vs = vs' ∧ fs = fs' ∧ ls = ls' ∧ ts = ts' ∧ C = C' := by
  unfold PV at h h'
  split at h <;> rename_i p hp <;> rw [hp] at h'
  · obtain ⟨a1, a2, a3, a4, a5, a6, a7⟩ := h
    obtain ⟨b1, b2, b3, b4, b5, b6, b7⟩ := h'
    exact ⟨a1.trans b1.symm, a2.trans b2.symm, a3.trans b3.symm, a4.trans b4.symm, a5.trans b5.symm, a6.trans b6.symm, a7.trans b7.symm⟩
  · obtain ⟨a1, a2, a3, a4, a5, a6, a7⟩ := h
    obtain ⟨b1, b2, b3, b4, b5, b6, b7⟩ := h'
    exact ⟨a1.trans b1.symm, a2.trans b2.symm, a3.trans b3.symm, a4.trans b4.symm, a5.trans b5.symm, a6.trans b6.symm, a7.trans b7.symm⟩
theorem parse_told {w : World} {t : Tx} {e : Ending} {w' : World} (h : ParseR w t e w') : Below w.heap.size w w' ∧ ∃ er ln vV fV lV thV vs fs ls L C, e = .returned (.tuple #[.agg #[vV, fV, lV, thV], .int .i64 er, .int .i64 ln]) ∧ ProgW w' w.heap.size vV fV lV thV vs fs ls L C ∧ PV t er ln vs fs ls (L.map Prod.fst) C := by
  obtain ⟨hB, (⟨er, ln, he, rfl⟩ | ⟨s, C, vV, fV, lV, thV, L, he, rfl, hPW, hLn⟩)⟩ := h
  · exact ⟨hB, er, ln, _, _, _, _, [], [], [], [], [], rfl, ProgW.nil _ _, by unfold PV; rw [he]; exact ⟨rfl, rfl, rfl, rfl, rfl, rfl, rfl⟩⟩
  · exact ⟨hB, 0, 0, _, _, _, _, _, _, _, L, C, rfl, hPW, by unfold PV; rw [he]; exact ⟨rfl, rfl, rfl, rfl, rfl, hLn, rfl⟩⟩
structure QView (w : World) (base : Nat) (vV fV lV tV : Value) (P : RP) (TV : List (Value × Value)) : Prop where
  v : w.ownsRow base 9 1 vV P.vs.length (P.vs.map strW)
  f : w.ownsRow base 9 1 fV P.fs.length (P.fs.map strW)
  l : w.ownsRow base 9 1 lV P.ls.length (P.ls.map strW)
  t : w.ownsRow base 146 3 tV P.thr.length ((P.thr.zip TV).flatMap thC)
  len : TV.length = P.thr.length
  c : ∀ (j : Nat) (th : RTh) (p : Value × Value), P.thr[j]? = some th → TV[j]? = some p → w.ownsRow base 152 9 p.1 th.code.length (th.code.flatMap riC)
theorem QView.view {w : World} {base : Nat} {vV fV lV tV : Value} {P : RP} {TV : List (Value × Value)} (h : QView w base vV fV lV tV P TV) : DView w vV fV lV tV P TV :=
  ⟨c_base h.v (Nat.zero_le _), c_base h.f (Nat.zero_le _), c_base h.l (Nat.zero_le _), c_base h.t (Nat.zero_le _), h.len, fun j th p h1 h2 => c_base (h.c j th p h1 h2) (Nat.zero_le _)⟩
theorem c_above {w w' : World} {base e size n : Nat} {v : Value} {xs : List Value} (h : w.ownsRow base e size v n xs) (hb : ∀ k, base ≤ k → k < w.heap.size → w'.heap[k]? = w.heap[k]?) : w'.ownsRow base e size v n xs := owns_same h fun g e => hb g (h.lt g e).1 (h.lt g e).2
theorem QView.above {w w' : World} {base : Nat} {vV fV lV tV : Value} {P : RP} {TV : List (Value × Value)} (h : QView w base vV fV lV tV P TV) (hb : ∀ k, base ≤ k → k < w.heap.size → w'.heap[k]? = w.heap[k]?) : QView w' base vV fV lV tV P TV :=
  ⟨c_above h.v hb, c_above h.f hb, c_above h.l hb, c_above h.t hb, h.len, fun j th p h1 h2 => c_above (h.c j th p h1 h2) hb⟩
theorem RfW.qview {w : World} {tag : Nat → RT} {base pb : Nat} {P : RP} {U : RV} (h : RfW w tag base pb P U) : QView w base (U.V 118) (U.V 102) (U.V 109) U.tV P U.TV := by
  have hl : ∀ {k : Int}, isN k → w.ownsRow base 9 1 (U.V k) (P.get k).length ((P.get k).map strW) := fun hk => by
    have := (h.rows _ hk).row
    rw [List.length_map] at this
    exact this
  exact ⟨hl (k := 118) (by simp [isN]), hl (k := 102) (by simp [isN]), hl (k := 109) (by simp [isN]), h.trow, h.len, fun j th p h1 h2 => (h.ths j th p h1 h2).code⟩
theorem QView.nil (w : World) (base : Nat) : QView w base (.slice none 0 0) (.slice none 0 0) (.slice none 0 0) (.slice none 0 0) RP.new [] :=
  ⟨World.ownsRow_nil _ _ _ _, World.ownsRow_nil _ _ _ _, World.ownsRow_nil _ _ _ _, World.ownsRow_nil _ _ _ _, rfl, (fun j th p h => by cases h)⟩
theorem rparse_told {w : World} {t : Tx} {e : Ending} {w' : World} (h : RParseR w t e w') : Below w.heap.size w w' ∧ ∃ er ln vV fV lV tV P TV, e = .returned (.tuple #[.agg #[vV, fV, lV, tV], .int .i64 er, .int .i64 ln]) ∧ QView w' w.heap.size vV fV lV tV P TV ∧ PV t er ln P.vs P.fs P.ls P.names (P.thr.map fun th => th.code.map RI.i) := by
  obtain ⟨hB, (⟨er, ln, he, rfl⟩ | ⟨s, C, tag, pb, P, U, he, rfl, hW, hK, hC⟩)⟩ := h
  · exact ⟨hB, er, ln, _, _, _, _, RP.new, [], rfl, QView.nil _ _, by unfold PV; rw [he]; exact ⟨rfl, rfl, rfl, rfl, rfl, rfl, rfl⟩⟩
  · refine ⟨hB, 0, 0, _, _, _, _, P, U.TV, rfl, hW.qview, ?_⟩
    unfold PV
    rw [he]
    have k1 := hK 118 (by simp [isK])
    have k2 := hK 102 (by simp [isK])
    have k3 := hK 109 (by simp [isK])
    have k4 := hK 116 (by simp [isK])
    exact ⟨rfl, rfl, k1.symm, k2.symm, k3.symm, k4.symm, hC.symm⟩
set_option maxRecDepth 100000 in
theorem parse_full (t : Tx) (w : World) (hh : Heads w) (hs : Shapes w) (h1 : 1 < w.heap.size) (h2 : 2 < w.heap.size) : Calls Tryz.prog 9 #[.string (bs t)] w (ParseR w t) := by
  by_cases hlen : t.length < 140737488355328
  · exact parse_any t w hh hs h1 h2 hlen
  · have hz := bs_size t
    have hl : 3000 < t.length := Nat.lt_of_lt_of_le (by decide) (Nat.le_of_not_lt hlen)
    have hl' : (3000 : Int) < (t.length : Int) := by omega
    have hP : Hid (parseT t = .error (1, 0)) := by unfold Hid parseT; rw [if_pos hl]
    have HB : Hid (∀ x, Below w.heap.size w (w.alloc x)) := fun x => (Below.refl _ _).alloc (Nat.le_refl _) _
    clear hlen hl hh hs h1 h2
    go_enter Tryz.func9, Tryz.ntmps9
    go_wp2_with fail
    exact bodyPost_ret (prog_val rfl rfl rfl rfl (World.alloc_heap_new w _)) rfl ⟨HB.out _, .inl ⟨1, 0, hP.out, rfl⟩⟩
set_option maxRecDepth 100000 in
theorem rParse_full (t : Tx) (w : World) : Calls Tryz.prog 10 #[.string (bs t)] w (RParseR w t) := by
  by_cases hlen : t.length < 140737488355328
  · exact rParse_any t w hlen
  · have hz := bs_size t
    have h3 : 3000 < t.length := Nat.lt_of_lt_of_le (by decide) (Nat.le_of_not_lt hlen)
    have hP : Hid (parseT t = .error (1, 0)) := by unfold Hid parseT; rw [if_pos h3]
    have h3' : (3000 : Int) < (t.length : Int) := by omega
    clear hlen h3
    go_enter Tryz.func10, Tryz.ntmps10
    go_wp2_with fail
    exact bodyPost_ret (rprog_val rfl rfl rfl rfl (World.alloc_heap_new w _)) rfl ⟨(Below.refl _ _).alloc (Nat.le_refl _) _, .inl ⟨1, 0, hP.out, rfl⟩⟩
end Go.Proofs.YtlpdomgedaockaaGreatDoor
namespace Go.Proofs.YtlpdomgedaockaaGreatDoor
open Go.ChangeShapes Go.WideShapes Go.ChangeAt Go.RowKit Go.Proofs.Cod
set_option linter.unusedVariables false
theorem Tryz.own : ownKnob Tryz.prog.godebug = none := by kernel_rfl
theorem Tryz.laidOut : laidOutB Tryz.prog = true := by kernel_rfl
def litV : Lit → Value
  | .string b => .string ⟨b.toArray⟩
  | .int k n => .int k n
  | _ => .int .i64 0
section
variable {H : Type} {enc : TypeId × Value → H} {P : Program} {w : World} {base : Nat} {sp : Nat → Bool} {held : Bool}
theorem cell_of_lit {fuel : Nat} {t : TypeId} {cs : List Value} {x : Lit} {p : List MemPlace} (ht : P.underlying t = some .string ∨ P.underlying t = some (.int .u8)) (h : DataW.trod enc P w base sp held fuel t cs = some (.lit x, p)) : cs = [litV x] := by
  rcases ht with ht | ht
  · obtain ⟨s, hc, hx, hs⟩ := DataW.trod_string ht h
    have e : DataW.lit (H := H) x = .lit (.string s.data.toList) := (congrArg Prod.fst hx)
    cases e
    rw [hc]; rfl
  · obtain ⟨z, hc, hx, _⟩ := DataW.trod_int ht h
    have e : DataW.lit (H := H) x = .lit (.int .u8 z) := (congrArg Prod.fst hx)
    cases e
    rw [hc]; rfl
theorem pair_of {fuel : Nat} {e : TypeId} {f0 f1 : Field} {cs : List Value} {s : List UInt8} {x : Lit} {p : List MemPlace} (he : P.underlying e = some (.struct #[f0, f1])) (o0 : f0.offset = 0) (o1 : f1.offset = 1) (t0 : P.underlying f0.type = some .string) (t1 : P.underlying f1.type = some .string ∨ P.underlying f1.type = some (.int .u8)) (c0 : P.cellsOf f0.type = 1) (c1 : P.cellsOf f1.type = 1) (ce : P.cellsOf e = 2)
    (h : DataW.trod enc P w base sp held fuel e cs = some (.agg [.lit (.string s), .lit x], p)) : cs = [.string ⟨s.toArray⟩, litV x] := by
  obtain ⟨xs, n, rfl, hx, hl, hxl, hall⟩ := DataW.trod_struct he h
  have hm : xs.map (·.1) = [.lit (.string s), .lit x] := by
    have e1 := congrArg Prod.fst hx
    have e1 : DataW.agg (H := H) [.lit (.string s), .lit x] = .agg (xs.map (·.1)) := e1
    injection e1 with e2
    exact e2.symm
  obtain ⟨⟨d0, p0⟩, ⟨d1, p1⟩, rfl⟩ : ∃ a b, xs = [a, b] := by
    have : xs.length = 2 := by simpa using hxl
    match xs, this with
    | [a, b], _ => exact ⟨a, b, rfl⟩
  have hm : [d0, d1] = [DataW.lit (.string s), .lit x] := hm
  cases hm
  have h0 := hall 0 f0 rfl
  have h1 := hall 1 f1 rfl
  rw [o0, c0] at h0
  rw [o1, c1] at h1
  have r0 := cell_of_lit (.inl t0) h0
  have r1 := cell_of_lit t1 h1
  rw [ce] at hl
  match cs, hl with
  | [a, b], _ =>
    have r0 : [a] = [litV (.string s)] := r0
    have r1 : [b] = [litV x] := r1
    cases r0; cases r1
    rfl
theorem twos {α : Type} (g : α → List Value) : ∀ (l : List α) (cs : List Value), cs.length = l.length * 2 → (∀ i q, l[i]? = some q → (cs.drop (i * 2)).take 2 = g q) → cs = l.flatMap g
  | [], cs, hl, _ => by
    have : cs.length = 0 := by simpa using hl
    rw [List.eq_nil_of_length_eq_zero this]; rfl
  | q :: l, cs, hl, h => by
    have h0 : cs.take 2 = g q := by simpa using h 0 q rfl
    have ih := twos g l (cs.drop 2) (by rw [List.length_drop, hl, List.length_cons]; omega) (fun i q' hq => by
      have := h (i + 1) q' (by simpa using hq)
      rw [List.drop_drop, show 2 + i * 2 = (i + 1) * 2 by omega]; exact this)
    rw [List.flatMap_cons, ← h0, ← ih, List.take_append_drop]
theorem pairs_of {fuel : Nat} {t e : TypeId} {n : Nat} {f0 f1 : Field} {cs : List Value} {l : List (List UInt8 × Lit)} {p : List MemPlace} (ht : P.underlying t = some (.array n e)) (he : P.underlying e = some (.struct #[f0, f1])) (o0 : f0.offset = 0) (o1 : f1.offset = 1) (t0 : P.underlying f0.type = some .string) (t1 : P.underlying f1.type = some .string ∨ P.underlying f1.type = some (.int .u8)) (c0 : P.cellsOf f0.type = 1) (c1 : P.cellsOf f1.type = 1) (ce : P.cellsOf e = 2) (ct : P.cellsOf t = n * 2)
    (h : DataW.trod enc P w base sp held fuel t cs = some (.agg (l.map fun q => .agg [.lit (.string q.1), .lit q.2]), p)) : cs = l.flatMap fun q => [.string ⟨q.1.toArray⟩, litV q.2] := by
  cases fuel with
  | zero => simp [DataW.trod] at h
  | succ fuel =>
    simp only [DataW.trod, ht, ce, ct] at h
    split at h
    · rename_i hl
      obtain ⟨xs, hm, hx⟩ := Option.map_eq_some_iff.1 h
      have hxs : xs.map (·.1) = l.map fun q => (DataW.agg [.lit (.string q.1), .lit q.2] : DataW H) := by
        have e1 := congrArg Prod.fst hx
        have e1 : DataW.agg (H := H) (xs.map (·.1)) = .agg (l.map fun q => .agg [.lit (.string q.1), .lit q.2]) := e1
        injection e1
      have hxl : xs.length = n := by simpa using Lib.mapM_length hm
      have hll : l.length = n := by
        have := congrArg List.length hxs
        simp at this
        omega
      refine twos _ l cs (by rw [hll]; exact hl) (fun i q hq => ?_)
      have hi : i < n := by have := (List.getElem?_eq_some_iff.1 hq).1; omega
      obtain ⟨b, hb, hf⟩ := Lib.mapM_at hm i i (by simp [hi])
      have h2 : (xs.map (·.1))[i]? = some b.1 := by simp [hb]
      rw [hxs, List.getElem?_map, hq] at h2
      have h2 : b.1 = .agg [.lit (.string q.1), .lit q.2] := (Option.some.inj h2).symm
      obtain ⟨b1, b2⟩ := b
      have h2 : b1 = .agg [.lit (.string q.1), .lit q.2] := h2
      subst h2
      exact pair_of he o0 o1 t0 t1 c0 c1 ce hf
    · cases h
end
theorem var_pairs {W : World} {name : String} {l : List (List UInt8 × Lit)} {g : Nat} {t e : TypeId} {n : Nat} {f0 f1 : Field} (hg : Tryz.prog.globalNamed name = some g) (hty : (Tryz.prog.globals[g]?).map (·.type) = some t) (ht : Tryz.prog.underlying t = some (.array n e)) (he : Tryz.prog.underlying e = some (.struct #[f0, f1])) (o0 : f0.offset = 0) (o1 : f1.offset = 1) (t0 : Tryz.prog.underlying f0.type = some .string) (t1 : Tryz.prog.underlying f1.type = some .string ∨ Tryz.prog.underlying f1.type = some (.int .u8)) (c0 : Tryz.prog.cellsOf f0.type = 1) (c1 : Tryz.prog.cellsOf f1.type = 1) (ce : Tryz.prog.cellsOf e = 2) (ct : Tryz.prog.cellsOf t = n * 2)
    (hrow : (((begin Tryz.prog (fun _ _ => 0) default).world.heap[g]?).bind Obj.row?).map (·.2) = some t) (hgl : g < Tryz.prog.globals.size) (hsh : W.ShapedOpen Tryz.prog)
    (h : laidMet Tryz.prog [(name, .agg (l.map fun q => .agg [.lit (.string q.1), .lit q.2]))] W) : ∃ fr, W.heap[g]? = some (.cells (l.flatMap fun q => [.string ⟨q.1.toArray⟩, litV q.2]).toArray t fr) := by
  obtain ⟨ps, ⟨g', t', cs, fuel, p, q, hg', ht', hvar, hd, _, _⟩, _⟩ := h
  obtain rfl := Option.some.inj (hg.symm.trans hg')
  obtain rfl := Option.some.inj (hty.symm.trans ht')
  have hcs := pairs_of ht he o0 o1 t0 t1 c0 c1 ce ct hd
  obtain ⟨⟨zero, tt⟩, hz, e1⟩ := Option.map_eq_some_iff.1 hrow
  have e1 : tt = t := e1
  subst e1
  obtain ⟨cs', hc', -, -⟩ := hsh.1 g zero tt hgl hz
  unfold World.var? at hvar
  rw [hg] at hvar
  simp only [Option.bind_some] at hvar
  rw [hc'] at hvar
  have hvar : some cs' = some cs := hvar
  cases hvar
  refine ⟨(0, 0), ?_⟩
  rw [hc', ← hcs]
end Go.Proofs.YtlpdomgedaockaaGreatDoor
