import Derived.Test.YtlefemndikednaaGreatDoorPa21
import Derived.Test.YtlefemndikednaaGreatDoorCards
import Derived.Test.YtlefemndikednaaGreatDoorTie
import Derived.SizedLaws
import Derived.ShutString
import Derived.ChangeOld
import Derived.JoinedCond
import Derived.OpenShut
import Derived.Deep.DeepHandedRow
import Derived.Lib.LaidTab
import Derived.LaidSub
import Derived.ChangeMaps5
set_option linter.unusedVariables false
set_option linter.unusedSimpArgs false
/-
  CodeParses.
-/
namespace Go.Proofs.YtlefemndikednaaGreatDoor
open Go.RowKit Go.Shelf Go.Proofs.Cod

set_option maxRecDepth 100000 in
/-- Parse, of a text of any length. -/
theorem parse_full (t : Tx) (w : World) (hh : Heads w) (hs : Shapes w) (h1 : 0 < w.heap.size) (h2 : 1 < w.heap.size) : Calls Tryz.prog 6 #[.string (bs t)] w (ParseR w t) := by
  by_cases hlen : t.length < 140737488355328
  · exact parse_any t w hh hs h1 h2 hlen
  · have hz := bs_size t
    have hl : 3000 < t.length := Nat.lt_of_lt_of_le (by decide) (Nat.le_of_not_lt hlen)
    have hl' : (3000 : Int) < (t.length : Int) := by omega
    have hP : Hid (parseT t = .error (1, 0)) := by unfold Hid parseT; rw [if_pos hl]
    have HB : Hid (∀ x, Below w.heap.size w (w.alloc x)) := fun x => (Below.refl _ _).alloc (Nat.le_refl _) _
    clear hlen hl hh hs h1 h2
    go_enter Tryz.func6, Tryz.ntmps6
    go_wp2_with fail
    exact bodyPost_ret (prog_val rfl rfl rfl rfl (World.alloc_heap_new w _)) rfl ⟨HB.out _, .inl ⟨1, 0, hP.out, rfl⟩⟩
set_option maxRecDepth 100000 in
theorem rParse_full (t : Tx) (w : World) : Calls Tryz.prog 7 #[.string (bs t)] w (RParseR w t) := by
  by_cases hlen : t.length < 140737488355328
  · exact rParse_any t w hlen
  · have hz := bs_size t
    have h3 : 3000 < t.length := Nat.lt_of_lt_of_le (by decide) (Nat.le_of_not_lt hlen)
    have hP : Hid (parseT t = .error (1, 0)) := by unfold Hid parseT; rw [if_pos h3]
    have h3' : (3000 : Int) < (t.length : Int) := by omega
    clear hlen h3
    go_enter Tryz.func7, Tryz.ntmps7
    go_wp2_with fail
    exact bodyPost_ret (rprog_val rfl rfl rfl rfl (World.alloc_heap_new w _)) rfl ⟨(Below.refl _ _).alloc (Nat.le_refl _) _, .inl ⟨1, 0, hP.out, rfl⟩⟩
def qTh (q : Tx × Value) : Tx × Value := ([63], q.2)
theorem MutP.init {w1 W : World} {b0 : Nat} {va fa la ta : Value} {vs fs ls : List Tx} {L : List (Tx × Value)} {C : List (List In7)} (h : ProgW w1 b0 va fa la ta vs fs ls L C) (hb : Below w1.heap.size w1 W) : MutP W b0 w1.heap.size va ta vs.length L C vs L W := by
  have h' := h.below hb
  refine ⟨h'.v, h'.t, fun j q is h1 h2 => ⟨is, rfl, h'.c j q is h1 h2⟩, fun _ _ => rfl, rfl, rfl, rfl, rfl, rfl, rfl, ?_⟩
  rintro g (e | e | ⟨j, q, hq, e⟩)
  · exact (h.v.lt g e).2
  · exact (h.t.lt g e).2
  · obtain ⟨is, his⟩ : ∃ is, C[j]? = some is := ⟨_, List.getElem?_eq_getElem (by rw [h.len]; exact (List.getElem?_eq_some_iff.1 hq).1)⟩
    exact ((h.c j q is hq his).lt g e).2
theorem MutP.below {W wr : World} {b0 n1 : Nat} {va ta : Value} {nv : Nat} {L : List (Tx × Value)} {C : List (List In7)} {vs' : List Tx} {L' : List (Tx × Value)} (h : MutP W b0 n1 va ta nv L C vs' L' wr) : Below b0 W wr := ⟨h.os, h.tape, h.output, by rw [h.size]; exact Nat.le_refl _, fun k hk => h.out k (.inl hk)⟩
theorem MutP.vcell {W wr : World} {b0 n1 : Nat} {va ta : Value} {nv : Nat} {L : List (Tx × Value)} {C : List (List In7)} {vs' : List Tx} {L' : List (Tx × Value)} (h : MutP W b0 n1 va ta nv L C vs' L' wr) {i : Nat} (hi : i < nv) : ∃ g cap x, va = .slice (some ⟨g, 0, none⟩) nv cap ∧ wr.cell? ⟨g, i, none⟩ = some (.string x) ∧ wr.frozen? ⟨g, i, none⟩ = false := by
  obtain ⟨g, cap, e, hg, hc⟩ := row_form h.v hi
  have hv := h.v
  rw [e] at hv
  have hc := hc i (by omega)
  have hil : i < vs'.length := by rw [h.vl]; exact hi
  rw [List.getElem?_map, List.getElem?_eq_getElem hil] at hc
  exact ⟨g, cap, _, e, hc, hv.frozenAt i⟩
theorem MutP.tcell {W wr : World} {b0 n1 : Nat} {va ta : Value} {nv : Nat} {L : List (Tx × Value)} {C : List (List In7)} {vs' : List Tx} {L' : List (Tx × Value)} (h : MutP W b0 n1 va ta nv L C vs' L' wr) {i : Nat} {q : Tx × Value} (hi : L'[i]? = some q) : ∃ g cap, ta = .slice (some ⟨g, 0, none⟩) L.length cap ∧ wr.cell? ⟨g, i * 2, none⟩ = some (.string (bs q.1)) ∧ wr.cell? ⟨g, i * 2 + 1, none⟩ = some q.2 ∧ wr.frozen? ⟨g, i * 2, none⟩ = false := by
  have hl := (List.getElem?_eq_some_iff.1 hi).1
  have hl2 : i < L.length := by rw [← h.tl]; exact hl
  obtain ⟨g, cap, e, hg, hc⟩ := row_form h.t hl2
  have ht := h.t
  rw [e] at ht
  have key : ∀ r, r < 2 → wr.cell? ⟨g, i * 2 + r, none⟩ = [Value.string (bs q.1), q.2][r]? := fun r hr => by
    rw [hc (i * 2 + r) (by omega)]; exact flat_at (f := fun p : Tx × Value => [Value.string (bs p.1), p.2]) thrL_len hi hr
  exact ⟨g, cap, e, key 0 (by omega), key 1 (by omega), ht.frozenAt _⟩
theorem MutP.ccell {W wr : World} {b0 n1 : Nat} {va ta : Value} {nv : Nat} {L : List (Tx × Value)} {C : List (List In7)} {vs' : List Tx} {L' : List (Tx × Value)} (h : MutP W b0 n1 va ta nv L C vs' L' wr) {j k : Nat} {q : Tx × Value} {is : List In7} (hj : L[j]? = some q) (hC : C[j]? = some is) (hk : k < is.length) : ∃ g cap x, q.2 = .slice (some ⟨g, 0, none⟩) is.length cap ∧ wr.cell? ⟨g, k * 7, none⟩ = some (.string x) ∧ wr.frozen? ⟨g, k * 7, none⟩ = false := by
  obtain ⟨is', e1, hr⟩ := h.c j q is hj hC
  rw [← e1] at hr hk
  obtain ⟨i, hi⟩ : ∃ i, is'[k]? = some i := ⟨_, List.getElem?_eq_getElem hk⟩
  obtain ⟨g, cap, e, hg, I7⟩ := i7_at hr hi
  rw [e] at hr
  exact ⟨g, cap, _, by rw [e, e1], I7.c0, hr.frozenAt _⟩
theorem MutP.clen {W wr : World} {b0 n1 : Nat} {va ta : Value} {nv : Nat} {L : List (Tx × Value)} {C : List (List In7)} {vs' : List Tx} {L' : List (Tx × Value)} (h : MutP W b0 n1 va ta nv L C vs' L' wr) {j : Nat} {q : Tx × Value} {is : List In7} (hj : L[j]? = some q) (hC : C[j]? = some is) : ∃ a cap, q.2 = .slice a is.length cap := by
  obtain ⟨is', e1, hr⟩ := h.c j q is hj hC
  exact owns_len hr
set_option maxRecDepth 100000 in
set_option maxHeartbeats 2000000 in
theorem codeParses_any (t : Tx) (w : World) {B : Nat} (ht : Tabs w B) (hB : B ≤ w.heap.size) :
    Calls Tryz.prog 3 #[.string (bs t)] w fun e w' => e = .returned (.bool true) ∧ Below w.heap.size w w' := by
  have hl3 := ht.lt
  have hpa : Hid (∀ wr, Below B w wr → Calls Tryz.prog 6 #[.string (bs t)] wr (ParseR wr t)) := fun wr hb => by
    have h' := ht.keep hb
    exact parse_full t wr h'.heads h'.shapes (by show 0 < _; have := hb.size; omega) (by show 1 < _; have := hb.size; omega)
  have hrp := hide (fun wr => rParse_full t wr)
  have hal : Hid (∀ wr, Below B w wr → Calls Tryz.prog 10 #[] wr fun e w' => e = .returned (.bool true) ∧ Below wr.heap.size wr w') := fun wr hb => alive_any (ht.keep hb) (Nat.le_trans hB hb.size)
  have h1 := hpa.out w (Below.refl _ _)
  replace hB := hide hB
  clear ht hl3
  go_enter Tryz.func3, Tryz.ntmps3
  go_wp2_with fail
  refine h1.mono ?_
  clear h1
  intro e w1 hr
  obtain ⟨hB1, er, ln, va, fa, la, ta, vs, fs, ls, L, C, rfl, hPW, hPV⟩ := parse_told hr
  clear hr
  obtain ⟨av, cv, ev⟩ := owns_len hPW.v
  obtain ⟨af, cf, ef⟩ := owns_len hPW.f
  obtain ⟨al, cl, el⟩ := owns_len hPW.l
  obtain ⟨at', ct, et⟩ := owns_len hPW.t
  subst ev ef el et
  have H1 := hide (⟨hB1, hPW, hPV⟩ : _ ∧ _ ∧ _)
  have h2 := hrp.out (w1.alloc (.cells #[.slice av vs.length cv, .slice af fs.length cf, .slice al ls.length cl, .slice at' L.length ct] 25))
  clear hB1 hPW hPV
  go_wp2_with fail
  refine h2.mono ?_
  clear h2
  intro e w2 hr
  obtain ⟨hB2, er', ln', vd, fd, ld, td, P, TV, rfl, hQ, hPV'⟩ := rparse_told hr
  clear hr hrp
  obtain ⟨hB1, hPW, hPV⟩ := H1.out
  obtain ⟨rfl, rfl, q1, q2, q3, q4, q5⟩ := hPV.eq hPV'
  obtain ⟨dv, ev', edv⟩ := owns_len hQ.v
  obtain ⟨df, ef', edf⟩ := owns_len hQ.f
  obtain ⟨dl, el', edl⟩ := owns_len hQ.l
  obtain ⟨dt, et', edt⟩ := owns_len hQ.t
  subst edv edf edl edt
  have hba : Below w1.heap.size w1 (w1.alloc (.cells #[.slice av vs.length cv, .slice af fs.length cf, .slice al ls.length cl, .slice at' L.length ct] 25)) := (Below.refl _ _).alloc (Nat.le_refl _) _
  have hz1 : (w1.alloc (.cells #[.slice av vs.length cv, .slice af fs.length cf, .slice al ls.length cl, .slice at' L.length ct] 25)).heap.size = w1.heap.size + 1 := by simp
  have hkA : (w1.alloc (.cells #[.slice av vs.length cv, .slice af fs.length cf, .slice al ls.length cl, .slice at' L.length ct] 25)).heap[w1.heap.size]? = some (.cells #[.slice av vs.length cv, .slice af fs.length cf, .slice al ls.length cl, .slice at' L.length ct] 25) := World.alloc_heap_new w1 _
  rw [hz1] at hB2 hQ
  generalize w1.alloc (.cells #[.slice av vs.length cv, .slice af fs.length cf, .slice al ls.length cl, .slice at' L.length ct] 25) = wa at *
  -- the document's box
  have hbb : Below w2.heap.size w2 (w2.alloc (.cells #[.slice dv P.vs.length ev', .slice df P.fs.length ef', .slice dl P.ls.length el', .slice dt P.thr.length et'] 31)) := (Below.refl _ _).alloc (Nat.le_refl _) _
  have hkB : (w2.alloc (.cells #[.slice dv P.vs.length ev', .slice df P.fs.length ef', .slice dl P.ls.length el', .slice dt P.thr.length et'] 31)).heap[w2.heap.size]? = some (.cells #[.slice dv P.vs.length ev', .slice df P.fs.length ef', .slice dl P.ls.length el', .slice dt P.thr.length et'] 31) := World.alloc_heap_new w2 _
  have hB2' : Below w1.heap.size w1 w2 := hba.trans (hB2.mono (Nat.le_succ _))
  have hBb : Below w1.heap.size w1 (w2.alloc (.cells #[.slice dv P.vs.length ev', .slice df P.fs.length ef', .slice dl P.ls.length el', .slice dt P.thr.length et'] 31)) := hB2'.trans (hbb.mono hB2'.size)
  have hn12 : w1.heap.size < w2.heap.size := Nat.lt_of_lt_of_le (by rw [hz1]; exact Nat.lt_succ_self _) hB2.size
  have hkA2 : w2.heap[w1.heap.size]? = some (.cells #[.slice av vs.length cv, .slice af fs.length cf, .slice al ls.length cl, .slice at' L.length ct] 25) := (hB2.block _ (Nat.lt_succ_self _)).trans hkA
  have hkAb : (w2.alloc (.cells #[.slice dv P.vs.length ev', .slice df P.fs.length ef', .slice dl P.ls.length el', .slice dt P.thr.length et'] 31)).heap[w1.heap.size]? = some (.cells #[.slice av vs.length cv, .slice af fs.length cf, .slice al ls.length cl, .slice at' L.length ct] 25) := (hbb.block _ hn12).trans hkA2
  have hQb := hQ.above (w' := w2.alloc (.cells #[.slice dv P.vs.length ev', .slice df P.fs.length ef', .slice dl P.ls.length el', .slice dt P.thr.length et'] 31)) (fun k _ hk => hbb.block k hk)
  have hSm := lwSame_any (hPW.below hBb) hQb.view q1 q2 q3 q4 q5
  obtain ⟨a0, a1, a2, a3⟩ := box_cells hkAb
  obtain ⟨d0, d1, d2, d3⟩ := box_cells hkB
  have H2 := hide (⟨hB1, hPW, hBb, hQb, hkAb, hkB, hn12, hPV', q1, q2, q3, q4, q5⟩ : _ ∧ _ ∧ _ ∧ _ ∧ _ ∧ _ ∧ _ ∧ _ ∧ _ ∧ _ ∧ _ ∧ _ ∧ _)
  clear hB1 hPW hPV hPV' q1 q2 q3 q4 q5 hba hz1 hkA hbb hkB hB2' hBb hn12 hkA2 hkAb hQb hQ hB2 H1
  go_wp2_with fail
  refine hSm.mono ?_
  clear hSm
  rintro e W ⟨rfl, hBW⟩
  obtain ⟨hB1, hPW, hBb, hQb, hkAb, hkB, hn12, hPV', q1, q2, q3, q4, q5⟩ := H2.out
  have hkAW := (hBW.block _ (Array.getElem?_eq_some_iff.1 hkAb).1).trans hkAb
  have hkBW := (hBW.block _ (Array.getElem?_eq_some_iff.1 hkB).1).trans hkB
  have hQW := hQb.above (w' := W) (fun k _ hk => hBW.block k hk)
  have hB1W := hBb.trans (hBW.mono hBb.size)
  have hB0 := hB1.trans (hB1W.mono hB1.size)
  have hM0 := MutP.init hPW hB1W
  have hvl := row_lt hPW.v
  have htl := row_lt hPW.t
  have hcl : ∀ (j : Nat) (q : Tx × Value) (is : List In7), L[j]? = some q → C[j]? = some is → is.length < 9223372036854775808 := fun j q is h1 h2 => row_lt (hPW.c j q is h1 h2)
  have hCl := hPW.len
  have HK := hide (⟨hB0, hkAW, hkBW, hQW, hn12, hB1.size, hPV'⟩ : _ ∧ _ ∧ _ ∧ _ ∧ _ ∧ _ ∧ _)
  have HM := hide hM0
  have HL := hide (⟨hvl, htl, hcl, hCl⟩ : _ ∧ _ ∧ _ ∧ _)
  clear hBW hB1 hPW hBb hQb hkAb hkB hn12 hPV' q1 q2 q3 q4 q5 hkAW hkBW hQW hB1W hB0 hM0 hvl htl hcl hCl H2 a0 a1 a2 a3 d0 d1 d2 d3
  generalize w1.heap.size = n1 at *
  generalize w2.heap.size = n2 at *
  go_wp2_with fail
  refine (lwNum_any er _).mono ?_
  rintro e w4 ⟨rfl, rfl⟩
  go_wp2_with fail
  rename World => w40
  go_loopw [10] (fun iv wr => ∃ (i : Nat) (vs' : List Tx), i ≤ vs.length ∧ iv = .int .i64 i ∧ MutP w40 w.heap.size n1 (.slice av vs.length cv) (.slice at' L.length ct) vs.length L C vs' L wr) (fun iv _ => vs.length - (intOf iv).toNat)
  case atStart => exact ⟨0, vs, Nat.zero_le _, rfl, HM.out⟩
  case round =>
    obtain ⟨i, vs', hi, rfl, hM⟩ := hrel
    clear HM
    have hbx := (hM.out n1 (.inr (Nat.le_refl _))).trans HK.out.2.1
    obtain ⟨a0, -, -, a3⟩ := box_cells hbx
    by_cases h5 : i < vs.length
    · have hlt : (i : Int) < (vs.length : Int) := by omega
      obtain ⟨g, cap, x, e, hc, hf⟩ := hM.vcell h5
      cases e
      have hwi : wrap64 ((i : Int) + 1) = (i : Int) + 1 := IntWalk.wrap64_in _ (by have := HL.out.1; omega)
      have HN := hide (⟨hM.setV rfl h5 [63], h5⟩ : _ ∧ _)
      clear hM hbx hi h5 a3
      go_wp2_with fail
      go_roundw
      case rel =>
        (try rw [hwi])
        exact ⟨i + 1, _, HN.out.2, rfl, HN.out.1⟩
      case measure =>
        (try rw [hwi])
        exact Nat.sub_lt_sub_left HN.out.2 (Nat.lt_succ_self i)
    · have HM1 := hide hM
      have hge : ¬ (i : Int) < (vs.length : Int) := by omega
      clear hM hbx hi h5 a3
      go_wp2_with fail
      clear a0 hge
      rename World => w41
      go_loopw [11] (fun iv wr => ∃ (j : Nat), j ≤ L.length ∧ iv = .int .i64 j ∧ MutP w40 w.heap.size n1 (.slice av vs.length cv) (.slice at' L.length ct) vs.length L C vs' (preMap qTh L j) wr) (fun iv _ => L.length - (intOf iv).toNat)
      case atStart => exact ⟨0, Nat.zero_le _, rfl, HM1.out⟩
      case round =>
        obtain ⟨j, hj, rfl, hM⟩ := hrel
        clear HM1
        have hbx := (hM.out n1 (.inr (Nat.le_refl _))).trans HK.out.2.1
        obtain ⟨-, -, -, a3⟩ := box_cells hbx
        by_cases h5 : j < L.length
        · have hlt : (j : Int) < (L.length : Int) := by omega
          obtain ⟨q, hq⟩ : ∃ q, L[j]? = some q := ⟨_, List.getElem?_eq_getElem h5⟩
          obtain ⟨is, his⟩ : ∃ is, C[j]? = some is := ⟨_, List.getElem?_eq_getElem (by rw [HL.out.2.2.2]; exact h5)⟩
          have HM2 := hide hM
          replace hq := hide hq
          replace his := hide his
          replace h5 := hide h5
          clear hM hbx hj
          go_wp2_with fail
          clear a3
          rename World => w42
          go_loopw [12] (fun iv wr => ∃ (k : Nat), k ≤ is.length ∧ iv = .int .i64 k ∧ MutP w40 w.heap.size n1 (.slice av vs.length cv) (.slice at' L.length ct) vs.length L C vs' (preMap qTh L j) wr) (fun iv _ => is.length - (intOf iv).toNat)
          case atStart => exact ⟨0, Nat.zero_le _, rfl, HM2.out⟩
          case round =>
            obtain ⟨k, hk, rfl, hM⟩ := hrel
            clear HM2
            have hbx := (hM.out n1 (.inr (Nat.le_refl _))).trans HK.out.2.1
            obtain ⟨-, -, -, a3⟩ := box_cells hbx
            obtain ⟨gt, tcap, e, t0, t1, tf⟩ := hM.tcell (preMap_at qTh hq.out)
            cases e
            obtain ⟨ca, cc, eq⟩ := hM.clen hq.out his.out
            by_cases h6 : k < is.length
            · have hltk : (k : Int) < (is.length : Int) := by omega
              obtain ⟨cg, ccap, x, e, hc, hf⟩ := hM.ccell hq.out his.out h6
              have HN := hide (⟨hM.setC hq.out his.out (show q.2.ownBlock = some cg by rw [e]; rfl) k [63], h6⟩ : _ ∧ _)
              rw [e] at t1
              have hwk : wrap64 ((k : Int) + 1) = (k : Int) + 1 := IntWalk.wrap64_in _ (by have := HL.out.2.2.1 j q is hq.out his.out; omega)
              clear hM hbx hk h6 e eq t0 tf
              go_wp2_with fail
              go_roundw
              case rel =>
                (try rw [hwk])
                exact ⟨k + 1, HN.out.2, rfl, HN.out.1⟩
              case measure =>
                (try rw [hwk])
                exact Nat.sub_lt_sub_left HN.out.2 (Nat.lt_succ_self k)
            · have hgek : ¬ (k : Int) < (is.length : Int) := by omega
              have hM3 := hM.setT rfl (preMap_at qTh hq.out) [63]
              rw [show (([63], q.2) : Tx × Value) = qTh q from rfl, preMap_set qTh hq.out] at hM3
              have HN := hide (⟨hM3, h5.out⟩ : _ ∧ _)
              rw [eq] at t1
              have hwj : wrap64 ((j : Int) + 1) = (j : Int) + 1 := IntWalk.wrap64_in _ (by have := HL.out.2.1; have := h5.out; omega)
              clear hM hbx hk h6 eq hM3
              go_wp2_with fail
              go_roundw
              case rel =>
                (try rw [hwj])
                exact ⟨j + 1, HN.out.2, rfl, HN.out.1⟩
              case measure =>
                (try rw [hwj])
                exact Nat.sub_lt_sub_left HN.out.2 (Nat.lt_succ_self j)
        · have hjl : j = L.length := Nat.le_antisymm hj (Nat.le_of_not_lt h5)
          subst hjl
          rw [preMap_all qTh L (Nat.le_refl _)] at hM
          obtain ⟨hB0, hkA, hkB, hQ, hn12, hb01, hPV⟩ := HK.out
          have hB43 : Below w.heap.size w wr := hB0.trans hM.below
          have hP3 := hpa.out wr (hB43.mono hB.out)
          have hkB3 := (hM.out n2 (.inr (Nat.le_of_lt hn12))).trans hkB
          have hQ3 := hQ.above (w' := wr) (fun k hk _ => hM.out k (.inr (Nat.le_of_succ_le hk)))
          have HR := hide (⟨hB43, hbx, hkB3, hQ3, hM.t, hPV⟩ : _ ∧ _ ∧ _ ∧ _ ∧ _ ∧ _)
          have hge : ¬ (L.length : Int) < (L.length : Int) := by omega
          clear hM hbx hj h5 hB0 hkA hkB hQ hn12 hb01 hPV hB43 hkB3 hQ3
          go_wp2_with fail
          refine hP3.mono ?_
          clear hP3 a3
          intro e w5 hr
          obtain ⟨hB5, er5, ln5, v5, f5, l5, t5, vs5, fs5, ls5, L5, C5, rfl, hPW5, hPV5⟩ := parse_told hr
          clear hr
          obtain ⟨hB43, hbx, hkB3, hQ3, hMt, hPV⟩ := HR.out
          obtain ⟨-, -, q1, q2, q3, q4, q5⟩ := hPV5.eq hPV
          obtain ⟨av5, cv5, ev5⟩ := owns_len hPW5.v
          obtain ⟨af5, cf5, ef5⟩ := owns_len hPW5.f
          obtain ⟨al5, cl5, el5⟩ := owns_len hPW5.l
          obtain ⟨at5, ct5, et5⟩ := owns_len hPW5.t
          subst ev5 ef5 el5 et5
          have hb6 : Below w5.heap.size w5 (w5.alloc (.cells #[.slice av5 vs5.length cv5, .slice af5 fs5.length cf5, .slice al5 ls5.length cl5, .slice at5 L5.length ct5] 25)) := (Below.refl _ _).alloc (Nat.le_refl _) _
          have hk6 : (w5.alloc (.cells #[.slice av5 vs5.length cv5, .slice af5 fs5.length cf5, .slice al5 ls5.length cl5, .slice at5 L5.length ct5] 25)).heap[w5.heap.size]? = some (.cells #[.slice av5 vs5.length cv5, .slice af5 fs5.length cf5, .slice al5 ls5.length cl5, .slice at5 L5.length ct5] 25) := World.alloc_heap_new w5 _
          have hB6 : Below wr.heap.size wr (w5.alloc (.cells #[.slice av5 vs5.length cv5, .slice af5 fs5.length cf5, .slice al5 ls5.length cl5, .slice at5 L5.length ct5] 25)) := hB5.trans (hb6.mono hB5.size)
          have hkB6 := (hB6.block n2 (Array.getElem?_eq_some_iff.1 hkB3).1).trans hkB3
          have hkA6 := (hB6.block n1 (Array.getElem?_eq_some_iff.1 hbx).1).trans hbx
          have hQ6 := hQ3.above (w' := w5.alloc (.cells #[.slice av5 vs5.length cv5, .slice af5 fs5.length cf5, .slice al5 ls5.length cl5, .slice at5 L5.length ct5] 25)) (fun k _ hk => hB6.block k hk)
          have hSm := lwSame_any (hPW5.below hb6) hQ6.view q1 q2 q3 q4 q5
          obtain ⟨a0, a1, a2, a3⟩ := box_cells hk6
          obtain ⟨d0, d1, d2, d3⟩ := box_cells hkB6
          have HS := hide (⟨hB43.trans (hB6.mono hB43.size), hkA6, c_belowS hMt hB6⟩ : _ ∧ _ ∧ _)
          clear hB5 hPW5 hPV5 hB43 hbx hkB3 hQ3 hMt hPV q1 q2 q3 q4 q5 hb6 hk6 hB6 hkB6 hkA6 hQ6 HR
          go_wp2_with fail
          refine hSm.mono ?_
          clear hSm
          rintro e w7 ⟨rfl, hB7⟩
          obtain ⟨hB6, hkA6, hMt6⟩ := HS.out
          have hB7' := hB6.trans (hB7.mono hB6.size)
          have hkA7 := (hB7.block n1 (Array.getElem?_eq_some_iff.1 hkA6).1).trans hkA6
          have hMt7 := c_belowS hMt6 hB7
          have H7 := hide (⟨hB7', hkA7, hMt7⟩ : _ ∧ _ ∧ _)
          clear hB7 hB6 hkA6 hMt6 hB7' hkA7 hMt7 HS a0 a1 a2 a3 d0 d1 d2 d3
          go_wp2_with fail
          go_loopw [17] (fun iv wr => ∃ (i : Nat), i ≤ L.length ∧ iv = .int .i64 i ∧ wr = w7) (fun iv _ => L.length - (intOf iv).toNat)
          case atStart => exact ⟨0, Nat.zero_le _, rfl, rfl⟩
          case round =>
            obtain ⟨i, hi, rfl, rfl⟩ := hrel
            obtain ⟨hB7', hkA7, hMt7⟩ := H7.out
            obtain ⟨-, -, -, a3⟩ := box_cells hkA7
            by_cases h5 : i < L.length
            · have hlt : (i : Int) < (L.length : Int) := by omega
              obtain ⟨q, hq⟩ : ∃ q, L[i]? = some q := ⟨_, List.getElem?_eq_getElem h5⟩
              obtain ⟨g, cap, e, hg, hc⟩ := row_form hMt7 h5
              cases e
              have hc0 : wr.cell? ⟨g, i * 2, none⟩ = some (.string (bs [63])) := by
                have := hc (i * 2 + 0) (by omega)
                rw [Nat.add_zero] at this
                rw [this]
                exact flat_at (r := 0) (f := fun p : Tx × Value => [Value.string (bs p.1), p.2]) thrL_len (x := qTh q) (by rw [List.getElem?_map, hq]; rfl) (by omega)
              have hlit : ((bs [63]).toList == [63]) = true := by rw [bs_toList]; decide
              have hwi : wrap64 ((i : Int) + 1) = (i : Int) + 1 := IntWalk.wrap64_in _ (by have := HL.out.2.1; omega)
              replace h5 := hide h5
              clear hB7' hkA7 hMt7 hg hc hi hq
              go_wp2_with fail
              go_roundw
              case rel =>
                (try rw [hwi])
                exact ⟨i + 1, h5.out, rfl, by trivial⟩
              case measure =>
                (try rw [hwi])
                exact Nat.sub_lt_sub_left h5.out (Nat.lt_succ_self i)
            · have hA := hal.out wr (hB7'.mono hB.out)
              have hge : ¬ (i : Int) < (L.length : Int) := by omega
              have HB7 := hide hB7'
              clear hB7' hkA7 hMt7 hi h5
              go_wp2_with fail
              refine hA.mono ?_
              clear hA
              rintro e w8 ⟨rfl, hB8⟩
              have HF := hide (HB7.out.trans (hB8.mono HB7.out.size))
              clear hB8
              go_wp2_with fail
              go_ret
              exact ⟨rfl, HF.out⟩
end Go.Proofs.YtlefemndikednaaGreatDoor
/-
  The laid variables: what their readings tell of their cells.
-/
namespace Go.Proofs.YtlefemndikednaaGreatDoor
open Go.ChangeShapes Go.WideShapes Go.ChangeAt Go.RowKit Go.Proofs.Cod
set_option linter.unusedVariables false

theorem Tryz.own : ownKnob Tryz.prog.godebug = none := by kernel_rfl
theorem Tryz.laidOut : laidOutB Tryz.prog = true := by kernel_rfl
def litV : Lit → Value
  | .string b => .string ⟨b.toArray⟩
  | .int k n => .int k n
  | _ => .int .i64 0
section
variable {H : Type} {enc : TypeId × Value → H} {P : Program} {w : World} {base : Nat} {sp : Nat → Bool} {held : Bool}
/-- A cell that reads as a literal of its type. -/
theorem cell_of_lit {fuel : Nat} {t : TypeId} {cs : List Value} {x : Lit} {p : List MemPlace} (ht : P.underlying t = some .string ∨ P.underlying t = some (.int .u8)) (h : DataW.trod enc P w base sp held fuel t cs = some (.lit x, p)) : cs = [litV x] := by
  rcases ht with ht | ht
  · obtain ⟨s, hc, hx, hs⟩ := DataW.trod_string ht h
    have e : DataW.lit (H := H) x = .lit (.string s.data.toList) := (congrArg Prod.fst hx)
    cases e
    rw [hc]; rfl
  · obtain ⟨z, hc, hx, _⟩ := DataW.trod_int ht h
    have e : DataW.lit (H := H) x = .lit (.int .u8 z) := (congrArg Prod.fst hx)
    cases e
    rw [hc]; rfl
theorem pair_of {fuel : Nat} {e : TypeId} {f0 f1 : Field} {cs : List Value} {s : List UInt8} {x : Lit} {p : List MemPlace} (he : P.underlying e = some (.struct #[f0, f1])) (o0 : f0.offset = 0) (o1 : f1.offset = 1) (t0 : P.underlying f0.type = some .string) (t1 : P.underlying f1.type = some .string ∨ P.underlying f1.type = some (.int .u8)) (c0 : P.cellsOf f0.type = 1) (c1 : P.cellsOf f1.type = 1) (ce : P.cellsOf e = 2)
    (h : DataW.trod enc P w base sp held fuel e cs = some (.agg [.lit (.string s), .lit x], p)) : cs = [.string ⟨s.toArray⟩, litV x] := by
  obtain ⟨xs, n, rfl, hx, hl, hxl, hall⟩ := DataW.trod_struct he h
  have hm : xs.map (·.1) = [.lit (.string s), .lit x] := by
    have e1 := congrArg Prod.fst hx
    have e1 : DataW.agg (H := H) [.lit (.string s), .lit x] = .agg (xs.map (·.1)) := e1
    injection e1 with e2
    exact e2.symm
  obtain ⟨⟨d0, p0⟩, ⟨d1, p1⟩, rfl⟩ : ∃ a b, xs = [a, b] := by
    have : xs.length = 2 := by simpa using hxl
    match xs, this with
    | [a, b], _ => exact ⟨a, b, rfl⟩
  have hm : [d0, d1] = [DataW.lit (.string s), .lit x] := hm
  cases hm
  have h0 := hall 0 f0 rfl
  have h1 := hall 1 f1 rfl
  rw [o0, c0] at h0
  rw [o1, c1] at h1
  have r0 := cell_of_lit (.inl t0) h0
  have r1 := cell_of_lit t1 h1
  rw [ce] at hl
  match cs, hl with
  | [a, b], _ =>
    have r0 : [a] = [litV (.string s)] := r0
    have r1 : [b] = [litV x] := r1
    cases r0; cases r1
    rfl
theorem twos {α : Type} (g : α → List Value) : ∀ (l : List α) (cs : List Value), cs.length = l.length * 2 → (∀ i q, l[i]? = some q → (cs.drop (i * 2)).take 2 = g q) → cs = l.flatMap g
  | [], cs, hl, _ => by
    have : cs.length = 0 := by simpa using hl
    rw [List.eq_nil_of_length_eq_zero this]; rfl
  | q :: l, cs, hl, h => by
    have h0 : cs.take 2 = g q := by simpa using h 0 q rfl
    have ih := twos g l (cs.drop 2) (by rw [List.length_drop, hl, List.length_cons]; omega) (fun i q' hq => by
      have := h (i + 1) q' (by simpa using hq)
      rw [List.drop_drop, show 2 + i * 2 = (i + 1) * 2 by omega]; exact this)
    rw [List.flatMap_cons, ← h0, ← ih, List.take_append_drop]
theorem pairs_of {fuel : Nat} {t e : TypeId} {n : Nat} {f0 f1 : Field} {cs : List Value} {l : List (List UInt8 × Lit)} {p : List MemPlace} (ht : P.underlying t = some (.array n e)) (he : P.underlying e = some (.struct #[f0, f1])) (o0 : f0.offset = 0) (o1 : f1.offset = 1) (t0 : P.underlying f0.type = some .string) (t1 : P.underlying f1.type = some .string ∨ P.underlying f1.type = some (.int .u8)) (c0 : P.cellsOf f0.type = 1) (c1 : P.cellsOf f1.type = 1) (ce : P.cellsOf e = 2) (ct : P.cellsOf t = n * 2)
    (h : DataW.trod enc P w base sp held fuel t cs = some (.agg (l.map fun q => .agg [.lit (.string q.1), .lit q.2]), p)) : cs = l.flatMap fun q => [.string ⟨q.1.toArray⟩, litV q.2] := by
  cases fuel with
  | zero => simp [DataW.trod] at h
  | succ fuel =>
    simp only [DataW.trod, ht, ce, ct] at h
    split at h
    · rename_i hl
      obtain ⟨xs, hm, hx⟩ := Option.map_eq_some_iff.1 h
      have hxs : xs.map (·.1) = l.map fun q => (DataW.agg [.lit (.string q.1), .lit q.2] : DataW H) := by
        have e1 := congrArg Prod.fst hx
        have e1 : DataW.agg (H := H) (xs.map (·.1)) = .agg (l.map fun q => .agg [.lit (.string q.1), .lit q.2]) := e1
        injection e1
      have hxl : xs.length = n := by simpa using Lib.mapM_length hm
      have hll : l.length = n := by
        have := congrArg List.length hxs
        simp at this
        omega
      refine twos _ l cs (by rw [hll]; exact hl) (fun i q hq => ?_)
      have hi : i < n := by have := (List.getElem?_eq_some_iff.1 hq).1; omega
      obtain ⟨b, hb, hf⟩ := Lib.mapM_at hm i i (by simp [hi])
      have h2 : (xs.map (·.1))[i]? = some b.1 := by simp [hb]
      rw [hxs, List.getElem?_map, hq] at h2
      have h2 : b.1 = .agg [.lit (.string q.1), .lit q.2] := (Option.some.inj h2).symm
      obtain ⟨b1, b2⟩ := b
      have h2 : b1 = .agg [.lit (.string q.1), .lit q.2] := h2
      subst h2
      exact pair_of he o0 o1 t0 t1 c0 c1 ce hf
    · cases h
end
/-- A listed variable of pairs, in memory. -/
theorem var_pairs {W : World} {name : String} {l : List (List UInt8 × Lit)} {g : Nat} {t e : TypeId} {n : Nat} {f0 f1 : Field} (hg : Tryz.prog.globalNamed name = some g) (hty : (Tryz.prog.globals[g]?).map (·.type) = some t) (ht : Tryz.prog.underlying t = some (.array n e)) (he : Tryz.prog.underlying e = some (.struct #[f0, f1])) (o0 : f0.offset = 0) (o1 : f1.offset = 1) (t0 : Tryz.prog.underlying f0.type = some .string) (t1 : Tryz.prog.underlying f1.type = some .string ∨ Tryz.prog.underlying f1.type = some (.int .u8)) (c0 : Tryz.prog.cellsOf f0.type = 1) (c1 : Tryz.prog.cellsOf f1.type = 1) (ce : Tryz.prog.cellsOf e = 2) (ct : Tryz.prog.cellsOf t = n * 2)
    (hrow : (((begin Tryz.prog (fun _ _ => 0) default).world.heap[g]?).bind Obj.row?).map (·.2) = some t) (hgl : g < Tryz.prog.globals.size) (hsh : W.ShapedOpen Tryz.prog)
    (h : laidMet Tryz.prog [(name, .agg (l.map fun q => .agg [.lit (.string q.1), .lit q.2]))] W) : ∃ fr, W.heap[g]? = some (.cells (l.flatMap fun q => [.string ⟨q.1.toArray⟩, litV q.2]).toArray t fr) := by
  obtain ⟨ps, ⟨g', t', cs, fuel, p, q, hg', ht', hvar, hd, _, _⟩, _⟩ := h
  obtain rfl := Option.some.inj (hg.symm.trans hg')
  obtain rfl := Option.some.inj (hty.symm.trans ht')
  have hcs := pairs_of ht he o0 o1 t0 t1 c0 c1 ce ct hd
  obtain ⟨⟨zero, tt⟩, hz, e1⟩ := Option.map_eq_some_iff.1 hrow
  have e1 : tt = t := e1
  subst e1
  obtain ⟨cs', hc', -, -⟩ := hsh.1 g zero tt hgl hz
  unfold World.var? at hvar
  rw [hg] at hvar
  simp only [Option.bind_some] at hvar
  rw [hc'] at hvar
  have hvar : some cs' = some cs := hvar
  cases hvar
  refine ⟨(0, 0), ?_⟩
  rw [hc', ← hcs]
end Go.Proofs.YtlefemndikednaaGreatDoor
/-
  The tables lie as they are listed; a world in which they do.
-/
namespace Go.Proofs.YtlefemndikednaaGreatDoor
open Go.ChangeShapes Go.WideShapes Go.ChangeAt Go.RowKit Go.Proofs.Cod
set_option linter.unusedVariables false

def laidAll : List (String × DataW Unit) := [("math/bits.deBruijn32tab", Rows.laid_math_bits_deBruijn32tab), ("math/bits.deBruijn64tab", Rows.laid_math_bits_deBruijn64tab), ("internal/strconv.uint64pow10", Rows.laid_internal_strconv_uint64pow10), ("unicode/utf8.acceptRanges", Rows.laid_unicode_utf8_acceptRanges), ("strconv.ErrRange", Rows.laid_strconv_ErrRange), ("strconv.ErrSyntax", Rows.laid_strconv_ErrSyntax), ("weave/code.headings", Rows.laid_weave_code_headings), ("weave/code.shapes", Rows.laid_weave_code_shapes), ("unicode/utf8.first", Rows.laid_unicode_utf8_first)]
def headD : List (List UInt8 × Lit) := [(tVar, .int .u8 118), (tFlag, .int .u8 102), (tLock, .int .u8 109)]
def shapeD : List (List UInt8 × Lit) := shapeT.map fun p => (p.1, .string p.2)
set_option maxRecDepth 100000 in
theorem tabs_of {W : World} (h : laidMetH Tryz.prog laidAll W) (hsh : W.ShapedOpen Tryz.prog) : Tabs W 3 := by
  have hM : laidMet Tryz.prog laidAll W := h
  have h1 : laidMet Tryz.prog [("internal/strconv.uint64pow10", Lib.tabData .u64 Lib.pow10Tab)] W := hM.filter (fun x => x.1 == "internal/strconv.uint64pow10")
  have h2 : laidMet Tryz.prog [("weave/code.headings", .agg (headD.map fun q => .agg [.lit (.string q.1), .lit q.2]))] W := hM.filter (fun x => x.1 == "weave/code.headings")
  have h3 : laidMet Tryz.prog [("weave/code.shapes", .agg (shapeD.map fun q => .agg [.lit (.string q.1), .lit q.2]))] W := hM.filter (fun x => x.1 == "weave/code.shapes")
  refine ⟨?_, ?_, Lib.tabIs_of_head (rest := []) Tryz.powG (by kernel_rfl) Tryz.underlying167 Tryz.underlying151 (by kernel_rfl) (by kernel_rfl) h1, Nat.le_refl _⟩
  · have := var_pairs (g := 0) (by kernel_rfl) (by kernel_rfl) Tryz.underlying100 Tryz.underlying99 rfl rfl Tryz.underlying9 (.inr Tryz.underlying5) (by kernel_rfl) (by kernel_rfl) (by kernel_rfl) (by kernel_rfl) (by kernel_rfl) (of_decide_eq_true (by kernel_rfl)) hsh h2
    obtain ⟨fr, e⟩ := this
    rw [show (headD.flatMap fun q => [Value.string ⟨q.1.toArray⟩, litV q.2]).toArray = tabC headL by kernel_rfl] at e
    exact ⟨fr, e⟩
  · have := var_pairs (g := 1) (by kernel_rfl) (by kernel_rfl) Tryz.underlying148 Tryz.underlying147 rfl rfl Tryz.underlying9 (.inl Tryz.underlying9) (by kernel_rfl) (by kernel_rfl) (by kernel_rfl) (by kernel_rfl) (by kernel_rfl) (of_decide_eq_true (by kernel_rfl)) hsh h3
    obtain ⟨fr, e⟩ := this
    rw [show (shapeD.flatMap fun q => [Value.string ⟨q.1.toArray⟩, litV q.2]).toArray = tabC shapeL by kernel_rfl] at e
    exact ⟨fr, e⟩
def litC : DataW Unit → Value
  | .lit x => litV x
  | _ => .int .i64 0
def cells1 : DataW Unit → Array Value
  | .agg l => (l.map litC).toArray
  | _ => #[]
def cells2 : DataW Unit → Array Value
  | .agg l => (l.flatMap fun d => (cells1 d).toList).toArray
  | _ => #[]
def errText : DataW Unit → ByteArray
  | .iface _ (.ptr (.agg [.lit (.string b)])) => ⟨b.toArray⟩
  | _ => .empty
noncomputable def low : Nat := (World.holding Tryz.prog default ⟨#[], #[], []⟩).heap.size
def put (cs : Array Value) : Obj → Obj
  | .cells _ t frozen => .cells cs t frozen
  | o => o
/-- A world in which all that is listed lies. -/
noncomputable def laidWorld (os : Os) : World :=
  let w0 := World.holding Tryz.prog os ⟨#[.cells #[.string (errText Rows.laid_strconv_ErrRange)] 197, .cells #[.string (errText Rows.laid_strconv_ErrSyntax)] 197], #[], []⟩
  { w0 with heap := ((((((((w0.heap.modify 6 (put (cells1 Rows.laid_math_bits_deBruijn32tab))).modify 7 (put (cells1 Rows.laid_math_bits_deBruijn64tab))).modify 2 (put (cells1 Rows.laid_internal_strconv_uint64pow10))).modify 4 (put (cells2 Rows.laid_unicode_utf8_acceptRanges))).modify 9 (put #[.iface 195 (.pointer (some ⟨low, 0, none⟩))])).modify 8 (put #[.iface 195 (.pointer (some ⟨low + 1, 0, none⟩))])).modify 0 (put (cells2 Rows.laid_weave_code_headings))).modify 1 (put (cells2 Rows.laid_weave_code_shapes))).modify 3 (put (cells1 Rows.laid_unicode_utf8_first)) }
theorem laid_met (os : Os) : laidMet Tryz.prog laidAll ((laidWorld os).forCall (fun _ _ => 0) ⟨#[], #[.string .empty], []⟩).memory :=
  laidMet_of_run' 8 (by kernel_rfl) (by kernel_rfl)
end Go.Proofs.YtlefemndikednaaGreatDoor
/-
  The law's alike.
-/
namespace Go.Proofs.YtlefemndikednaaGreatDoor
open Go.RowKit Go.Proofs.Cod

/-- What alike finds, whatever lies above. -/
structure AlikeF (W : World) (ba bb : Nat) (va fa la ta vd fd ld td : Value) (vs fs ls : List Tx) (L M : List (Tx × Value)) (C : List (List In7)) : Prop where
  a : W.heap[ba]? = some (.cells #[va, fa, la, ta] 25)
  b : W.heap[bb]? = some (.cells #[vd, fd, ld, td] 25)
  pa : ProgW W 0 va fa la ta vs fs ls L C
  pd : ProgW W 0 vd fd ld td vs fs ls M C
theorem AlikeF.below {W W' : World} {ba bb : Nat} {va fa la ta vd fd ld td : Value} {vs fs ls : List Tx} {L M : List (Tx × Value)} {C : List (List In7)} (h : AlikeF W ba bb va fa la ta vd fd ld td vs fs ls L M C) (hb : Below W.heap.size W W') : AlikeF W' ba bb va fa la ta vd fd ld td vs fs ls L M C :=
  ⟨(hb.block _ (Array.getElem?_eq_some_iff.1 h.a).1).trans h.a, (hb.block _ (Array.getElem?_eq_some_iff.1 h.b).1).trans h.b, h.pa.below hb, h.pd.below hb⟩

set_option maxRecDepth 100000 in
set_option maxHeartbeats 2000000 in
theorem lwAlike_any {w : World} {base base2 : Nat} {va fa la ta vd fd ld td : Value} {vs fs ls : List Tx} {L M : List (Tx × Value)} {C : List (List In7)} (hpa : ProgW w base va fa la ta vs fs ls L C) (hpd : ProgW w base2 vd fd ld td vs fs ls M C) (q4 : L.map Prod.fst = M.map Prod.fst) :
    Calls Tryz.prog 13 #[.agg #[va, fa, la, ta], .agg #[vd, fd, ld, td]] w fun e w' => e = .returned (.bool true) ∧ Below w.heap.size w w' := by
  have hLl : M.length = L.length := by have := congrArg List.length q4; simpa using this.symm
  obtain ⟨av, cv, ev, wsv⟩ := row_ws0 hpa.v rfl
  obtain ⟨af, cf, ef, wsf⟩ := row_ws0 hpa.f rfl
  obtain ⟨al, cl, el, wsl⟩ := row_ws0 hpa.l rfl
  obtain ⟨at', ct, et⟩ := owns_len hpa.t
  obtain ⟨dv, ev', edv, wdv⟩ := row_ws0 hpd.v rfl
  obtain ⟨df, ef', edf, wdf⟩ := row_ws0 hpd.f rfl
  obtain ⟨dl, el', edl, wdl⟩ := row_ws0 hpd.l rfl
  obtain ⟨dt, et', edt⟩ := owns_len hpd.t
  have hnv := row_lt hpd.v
  have hnf := row_lt hpd.f
  have hnl := row_lt hpd.l
  have hnt := row_lt hpa.t
  rw [hLl] at edt
  subst ev ef el et edv edf edl edt
  obtain ⟨kA, kB, hB1, hz1⟩ := two_made w (.cells #[.slice av vs.length cv, .slice af fs.length cf, .slice al ls.length cl, .slice at' L.length ct] 25) (.cells #[.slice dv vs.length ev', .slice df fs.length ef', .slice dl ls.length el', .slice dt L.length et'] 25)
  have HF0 := AlikeF.mk kA kB ((hpa.below hB1).base (Nat.zero_le _)) ((hpd.below hB1).base (Nat.zero_le _))
  go_enter Tryz.func13, Tryz.ntmps13
  have hx := fun wr h => lwWords_any (w := wr) (a := av) (b := dv) (n := vs.length) (ca := cv) (cb := ev') rfl (wsv.below h) (wdv.below h) hnv
  have hy := fun wr h => lwWords_any (w := wr) (a := af) (b := df) (n := fs.length) (ca := cf) (cb := ef') rfl (wsf.below h) (wdf.below h) hnf
  have hz := fun wr h => lwWords_any (w := wr) (a := al) (b := dl) (n := ls.length) (ca := cl) (cb := el') rfl (wsl.below h) (wdl.below h) hnl
  replace hx := hide hx
  replace hy := hide hy
  replace hz := hide hz
  replace hB1 := hide hB1
  replace HF0 := hide HF0
  replace hz1 := hide hz1
  replace q4 := hide q4
  replace hLl := hide hLl
  clear kA kB hpa hpd wsv wsf wsl wdv wdf wdl hnv hnf hnl
  go_wp2_with fail
  have hBw := hB1
  generalize World.alloc (World.alloc w _) _ = W at *
  refine (hx.out W hBw.out).mono ?_
  rintro e w2 ⟨rfl, hQ2⟩
  have HF2 := HF0.out.below hQ2.low
  have hBw2 := hide (hBw.out.trans (hQ2.low.mono hBw.out.size))
  have hW2 := hide hQ2.low
  obtain ⟨a0, a1, a2, a3⟩ := box_cells HF2.a
  obtain ⟨d0, d1, d2, d3⟩ := box_cells HF2.b
  clear hQ2 hx HF2
  go_wp2_with fail
  refine (hy.out w2 hBw2.out).mono ?_
  rintro e w3 ⟨rfl, hQ3⟩
  have hW3 := hide (hW2.out.trans (hQ3.low.mono hW2.out.size))
  have hBw3 := hide (hBw2.out.trans (hQ3.low.mono hBw2.out.size))
  have HF3 := HF0.out.below hW3.out
  clear a0 a1 a2 a3 d0 d1 d2 d3 hQ3 hy hBw2 hW2
  obtain ⟨a0, a1, a2, a3⟩ := box_cells HF3.a
  obtain ⟨d0, d1, d2, d3⟩ := box_cells HF3.b
  clear HF3
  go_wp2_with fail
  refine (hz.out w3 hBw3.out).mono ?_
  rintro e w4 ⟨rfl, hQ4⟩
  have hW4 := hide (hW3.out.trans (hQ4.low.mono hW3.out.size))
  have HF4 := HF0.out.below hW4.out
  clear a0 a1 a2 a3 d0 d1 d2 d3 hQ4 hz hBw3 hW3
  obtain ⟨a0, a1, a2, a3⟩ := box_cells HF4.a
  obtain ⟨d0, d1, d2, d3⟩ := box_cells HF4.b
  clear HF4
  go_wp2_with fail
  go_loopw [8] (fun iv wr => ∃ i : Nat, i ≤ L.length ∧ iv = .int .i64 i ∧ Below W.heap.size W wr) (fun iv _ => L.length - (intOf iv).toNat)
  case atStart => exact ⟨0, Nat.zero_le _, rfl, hW4.out⟩
  case round =>
    obtain ⟨i, hi, rfl, hW5⟩ := hrel
    clear a0 a1 a2 a3 d0 d1 d2 d3 hW4
    have HF5 := HF0.out.below hW5
    obtain ⟨a0, a1, a2, a3⟩ := box_cells HF5.a
    obtain ⟨d0, d1, d2, d3⟩ := box_cells HF5.b
    by_cases h5 : i < L.length
    · have hlt : (i : Int) < (L.length : Int) := by omega
      obtain ⟨lp, hlp⟩ : ∃ lp, L[i]? = some lp := ⟨_, List.getElem?_eq_getElem h5⟩
      obtain ⟨mp, hmp⟩ : ∃ mp, M[i]? = some mp := ⟨_, List.getElem?_eq_getElem (by rw [hLl.out]; exact h5)⟩
      obtain ⟨is, hCi⟩ : ∃ is, C[i]? = some is := ⟨_, List.getElem?_eq_getElem (by rw [HF5.pa.len]; exact h5)⟩
      have hnm : mp.1 = lp.1 := by
        have e1 : (L.map Prod.fst)[i]? = some lp.1 := by rw [List.getElem?_map, hlp]; rfl
        rw [q4.out, List.getElem?_map, hmp] at e1
        exact Option.some.inj e1
      obtain ⟨ga, ca, e1, ga1, g0, g1⟩ := HF5.pa.thrAt hlp
      obtain ⟨gd, cd, e2, gd1, h0, h1⟩ := HF5.pd.thrAt hmp
      rw [hLl.out] at e2
      cases e1
      cases e2
      obtain ⟨ka, kc, ek⟩ := owns_len (HF5.pa.c i lp _ hlp hCi)
      obtain ⟨kd, kc', ek'⟩ := owns_len (HF5.pd.c i mp _ hmp hCi)
      rw [ek] at g1
      rw [ek'] at h1
      rw [hnm] at h0
      have hcl := row_lt (HF5.pa.c i lp _ hlp hCi)
      have HH := hide (⟨hlp, hmp, hCi, h5, hW5, ek, ek', hcl⟩ : _ ∧ _ ∧ _ ∧ _ ∧ _ ∧ _ ∧ _ ∧ _)
      replace ga1 := hide ga1
      replace gd1 := hide gd1
      clear hlp hmp hCi hnm h5 hi HF5 hW5 ek ek' hcl
      generalize hm : is.length = m at g1 h1
      replace hm := hide hm
      rename World => wo
      go_wp2_with fail
      go_quiet (fail)
      have HW5 := hide (HH.out.2.2.2.2.1.trans (show Below W.heap.size wo (wo.drewN nq) from ⟨rfl, rfl, rfl, Nat.le_refl _, fun _ _ => rfl⟩))
      clear a0 a1 a2 a3 d0 d1 d2 d3 g0 h0 g1 h1 hlt ga1 gd1
      generalize World.drewN wo nq = w5 at *
      go_wp2_with fail
      go_loopw [9] (fun iv wr => ∃ k : Nat, k ≤ m ∧ iv = .int .i64 k ∧ Below W.heap.size W wr) (fun iv _ => m - (intOf iv).toNat)
      case atStart => exact ⟨0, Nat.zero_le _, rfl, HW5.out⟩
      case round =>
        obtain ⟨k, hk, rfl, hW6⟩ := hrel
        clear HW5
        obtain ⟨hlp, hmp, hCi, h5, hW5, ek, ek', hcl⟩ := HH.out
        have HF6 := HF0.out.below hW6
        obtain ⟨-, -, -, a3⟩ := box_cells HF6.a
        obtain ⟨-, -, -, d3⟩ := box_cells HF6.b
        obtain ⟨ga2, ca2, e1, -, -, g1⟩ := HF6.pa.thrAt hlp
        obtain ⟨gd2, cd2, e2, -, -, h1⟩ := HF6.pd.thrAt hmp
        rw [hLl.out] at e2
        cases e1
        cases e2
        rw [ek, hm.out] at g1
        rw [ek', hm.out] at h1
        by_cases h6 : k < m
        · have hltk : (k : Int) < (m : Int) := by omega
          have hlti : (i : Int) < (L.length : Int) := by omega
          obtain ⟨r, hr⟩ : ∃ r, is[k]? = some r := ⟨_, List.getElem?_eq_getElem (by rw [hm.out]; exact h6)⟩
          obtain ⟨cg, cc, x1, x2, I7⟩ := i7_at (HF6.pa.c i lp _ hlp hCi) hr
          obtain ⟨dg, dc, y1, y2, J7⟩ := i7_at (HF6.pd.c i mp _ hmp hCi) hr
          rw [ek] at x1
          rw [ek'] at y1
          cases x1
          cases y1
          obtain ⟨i0, i1, i2, i3, i4, i5, i6⟩ := I7
          obtain ⟨j0, j1, j2, j3, j4, j5, j6⟩ := J7
          have hwk : wrap64 ((k : Int) + 1) = (k : Int) + 1 := IntWalk.wrap64_in _ (by have := hm.out; omega)
          have HW6 := hide (⟨hW6, h6⟩ : _ ∧ _)
          clear hW6 HF6 h6 hk hr x2 y2 hlp hmp hCi h5 hW5 ek ek' hcl HH hnt
          go_wp2_with fail
          go_quiet (fail)
          have HB7 := hide (HW6.out.1.trans (show Below W.heap.size wr (wr.drewN nq) from ⟨rfl, rfl, rfl, Nat.le_refl _, fun _ _ => rfl⟩))
          clear a3 d3 g1 h1 i0 i1 i2 i3 i4 i5 i6 j0 j1 j2 j3 j4 j5 j6
          go_wp2_with fail
          go_roundw
          case rel =>
            (try rw [hwk])
            exact ⟨k + 1, HW6.out.2, rfl, HB7.out⟩
          case measure =>
            (try rw [hwk])
            exact Nat.sub_lt_sub_left HW6.out.2 (Nat.lt_succ_self k)
        · have HW6 := hide hW6
          have hlti : (i : Int) < (L.length : Int) := by omega
          have hwi : wrap64 ((i : Int) + 1) = (i : Int) + 1 := IntWalk.wrap64_in _ (by omega)
          replace h5 := hide h5
          clear hW6 HF6 hk hlp hmp hCi hW5 ek ek' hcl HH hnt
          go_wp2_with fail
          go_roundw
          case rel =>
            (try rw [hwi])
            exact ⟨i + 1, h5.out, rfl, HW6.out⟩
          case measure =>
            (try rw [hwi])
            exact Nat.sub_lt_sub_left h5.out (Nat.lt_succ_self i)
    · have HW := hide (hB1.out.trans (hW5.mono hB1.out.size))
      clear hW5 HF5
      go_wp2_with fail
      go_ret
      exact ⟨rfl, HW.out⟩
end Go.Proofs.YtlefemndikednaaGreatDoor
