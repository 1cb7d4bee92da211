import Derived.Test.YtcfpedjfofpnkaaGreatDoorRv10
import Derived.Test.YtcfpedjfofpnkaaGreatDoorRv11
import Derived.Test.YtcfpedjfofpnkaaGreatDoorRv7
import Derived.Test.YtcfpedjfofpnkaaGreatDoorRv5
import Derived.Test.YtcfpedjfofpnkaaGreatDoorRv6
import Derived.Test.YtcfpedjfofpnkaaGreatDoorRv3
import Derived.Tactics
import Derived.Tactics2
import Derived.Defers
import Derived.Recover
import Derived.Laws.Pointers
import Derived.TacticsInMore
import Derived.RegionIn
import Derived.LoopNIn
import Derived.RecoverIn
set_option linter.unusedVariables false
set_option linter.unusedSimpArgs false
namespace Go.Proofs.YtcfpedjfofpnkaaGreatDoor
open Go.RowKit Go.Proofs.Cod
def RIns (P : RP) (k : Nat) (th : RTh) (line : Int) (f : Tx) (ts : List Tx) (e : Int) (P' : RP) : Prop :=
 match rInstrT P line f ts with
 | none => e = 2
 | some (r, e') => (e' = 2 ∧ e = 2) ∨ (e' ≠ 2 ∧ ((th.code.length = 24 ∧ e = 4) ∨ (th.code.length ≠ 24 ∧ e = e' ∧ P' = { P with thr := P.thr.set k { th with code := th.code ++ [r] } })))
set_option maxRecDepth 100000 in
set_option maxHeartbeats 2000000 in
theorem rLine_ins {w : World} {tag : Nat → RT} {base pb : Nat} {P : RP} {U : RV} (h : RfW w tag base pb P U) (b off n cap : Nat) (f : Tx) (ts : List Tx) (hn : ts.length + 1 = n) (hs : WsT w tag (some ⟨b, off, none⟩) (f :: ts)) (hnb : n < 4000) (hl : ∀ k, (P.get k).length < 1000) (k : Nat) (th : RTh) (hk : P.thr.length = k + 1) (hth : P.thr[k]? = some th) (hb : P.thr.length < 1000) (hcd : th.code.length < 4000) (line : Int) (hf2 : f ≠ [116, 104, 114, 101, 97, 100]) (hf0 : f ≠ []) (hfl : f.length < 4000) (hlab : ts ≠ [] ∨ f.getLast? ≠ some 58) :
 Calls Tryz.prog 47 #[ptrV pb, .slice (some ⟨b, off, none⟩) n cap, .int .i64 line] w (ROut w tag base pb (RIns P k th line f ts)) := by
 obtain ⟨p, hp⟩ : ∃ p, U.TV[k]? = some p := ⟨_, List.getElem?_eq_getElem (by rw [h.len]; omega)⟩
 obtain ⟨gt, tcap, hV⟩ := h.thrForm hth
 have c3 := h.thrV
 rw [hV, hk] at c3
 have t1 : w.cell? ⟨gt, k * 3 + 1, none⟩ = some p.1 := h.thrCell hth hp (r := 1) (by omega) hV
 obtain ⟨ca, cc, hp1⟩ := owns_len (h.ths k th p hth hp).code
 rw [hp1] at t1
 have cf := hs.at (i := 0) (by simp)
 have cf : w.cell? ⟨b, off, none⟩ = some (.string (bs f)) := cf
 have hn0 : (0 : Int) < (n : Int) := by omega
 have b4 := bs_eq f [116, 104, 114, 101, 97, 100]
 rw [decide_eq_false hf2] at b4
 have hd : Ext w tag w.drew tag := ⟨rfl, rfl, rfl, Nat.le_refl _, fun _ _ => rfl, fun _ _ _ => rfl⟩
 have hRd := RfW.keep (w' := w.drew) h (fun _ _ => rfl) hd
 have hI := rInstr_any hRd b off n cap f ts hn (hs.ext hd).ws hnb hl line
 have HD := hide (⟨hRd, hd⟩ : _ ∧ _)
 have hwk : wrap64 (k : Int) = (k : Int) := IntWalk.wrap64_in _ (by omega)
 unfold ptrV at hI ⊢
 replace hp := hide hp
 replace hth := hide hth
 replace hp1 := hide hp1
 replace hV := hide hV
 replace hb := hide hb
 have hbl : Hid (b < w.heap.size) := by obtain ⟨b', o', e1, e2, _⟩ := hs 0 (by simp); cases e1; exact e2
 obtain ⟨m, hm⟩ : ∃ m, f.length = m + 1 := ⟨f.length - 1, by have : f.length ≠ 0 := fun e => hf0 (List.length_eq_zero_iff.1 e); omega⟩
 have hzf : (bs f).size = m + 1 := by rw [bs_size, hm]
 have hxl : m < (bs f).size := by omega
 have hwx : wrap64 (m : Int) = (m : Int) := IntWalk.wrap64_in _ (by omega)
 have hv := hide (rfl : rInstrT P line f ts = rInstrT P line f ts)
 by_cases hn1 : ((n : Int) == 1) = true
 ·have h58 : ((((bs f)[m]'hxl).toNat : Int) == 58) = false := by
   have ht : ts = [] := List.length_eq_zero_iff.1 (by simp at hn1; omega)
   have hg : f.getLast? ≠ some 58 := by rcases hlab with h | h; exact absurd ht h; exact h
   apply u8_ne (n := 58) _ (by omega)
   intro e
   apply hg
   rw [List.getLast?_eq_getElem?, hm, Nat.add_sub_cancel, List.getElem?_eq_getElem (by omega), ← bs_get f m hxl, e]; rfl
  clear h hs hd hRd hf2 hf0 hlab hk hm hn hl hnb
  go_enter Tryz.func47, Tryz.ntmps47
  go_wp2_with fail
  go_region
  go_wp2_with fail
  refine hI.mono ?_
  rintro en w2 ⟨rfl, hb2⟩
  clear c3 cf hI
  cases hr : rInstrT P line f ts with
  | none =>
   have H2 := hide (⟨HD.out.1.below (w' := w2.alloc (.cells zeroRI.toArray 114)) (hb2.alloc hb2.size _), HD.out.2.trans (.of_below (hb2.alloc hb2.size (.cells zeroRI.toArray 114))), hr⟩ : _ ∧ _ ∧ _)
   clear hb2 t1 hr
   unfold rInstrV zeroRI
   go_wp2_with fail
   go_ret
   exact ⟨2, tag, P, U, rfl, H2.out.1, H2.out.2.1, by unfold RIns; rw [H2.out.2.2]⟩
  | some q =>
   obtain ⟨r, e'⟩ := q
   obtain ⟨W5, hW5⟩ : ∃ W5, w2.alloc (.cells #[.string (bs r.i.op), .int .i64 r.i.r, .bool r.i.aR, .int .i64 r.i.aN, .bool r.i.bR, .int .i64 r.i.bN, .int .i64 r.i.x, .int .i64 r.line, .string (bs r.word)] 114) = W5 := ⟨_, rfl⟩
   have hb5 : Below w.drew.heap.size w.drew W5 := by rw [← hW5]; exact hb2.alloc hb2.size _
   have hR5 := HD.out.1.below hb5
   have hX5 := HD.out.2.trans (.of_below hb5)
   have s1 : W5.cell? ⟨gt, k * 3 + 1, none⟩ = some (.slice ca th.code.length cc) := by have e := hR5.thrCell hth.out hp.out (r := 1) (by omega) hV.out; rw [show (thC (th, p))[1]? = some p.1 from rfl, hp1.out] at e; exact e
   have hB : InsB W5 w2.heap.size r := ⟨by rw [← hW5]; exact World.alloc_heap_new w2 _⟩
   obtain ⟨x0, x1, x2, x3, x4, x5, x6, x7, x8⟩ := hB.cells
   have s1b := s1
   rw [← hW5] at s1b
   replace hW5 := hide hW5
   have H2 := hide (⟨hR5, hX5, hr⟩ : _ ∧ _ ∧ _)
   unfold rInstrV riC
   by_cases e2 : e' = 2
   ·subst e2
    clear hb2 t1 hr hb5 hR5 hX5 hB
    go_wp2_with fail
    go_ret
    rw [hW5.out]
    exact ⟨2, tag, P, U, rfl, H2.out.1, H2.out.2.1, by unfold RIns; rw [H2.out.2.2]; exact .inl ⟨rfl, rfl⟩⟩
   ·have e2' : (e' == 2) = false := by simpa using e2
    replace e2 := hide e2
    by_cases h24 : th.code.length = 24
    ·have h24' : ((th.code.length : Int) == 24) = true := by simp; omega
     replace h24 := hide h24
     clear hb2 t1 hr hb5 hR5 hX5 hB
     go_wp2_with fail
     go_ret
     rw [hW5.out]
     exact ⟨4, tag, P, U, rfl, H2.out.1, H2.out.2.1, by unfold RIns; rw [H2.out.2.2]; exact .inr ⟨e2.out, .inl ⟨h24.out, rfl⟩⟩⟩
    ·have h24' : ((th.code.length : Int) == 24) = false := by simp; omega
     have hd : Ext W5 tag W5.drew tag := ⟨rfl, rfl, rfl, Nat.le_refl _, fun _ _ => rfl, fun _ _ _ => rfl⟩
     have hRd := RfW.keep (w' := W5.drew) hR5 (fun _ _ => rfl) hd
     obtain ⟨g, cap', w3, hrun, cV3, fV3, tag3, hR3, hX3⟩ := hRd.addI hth.out hp.out r (by omega) hV.out
     rw [hp1.out] at hrun cV3
     have hrun : (Builtin.append_ #[108, 108] 108 #[.slice ca th.code.length cc, .slice (some ⟨W5.heap.size, 0, none⟩) 1 1]).run Tryz.prog (W5.alloc (.cells #[.string (bs r.i.op), .int .i64 r.i.r, .bool r.i.aR, .int .i64 r.i.aN, .bool r.i.bR, .int .i64 r.i.bN, .int .i64 r.i.x, .int .i64 r.line, .string (bs r.word)] 114)).drew = .ok (.slice (some ⟨g, 0, none⟩) (th.code.length + 1) cap') w3 := hrun
     have hgl : gt < W5.heap.size := hR5.lt (hR5.tt gt (by rw [hV.out]; rfl)) (by simp)
     have s1a : (W5.alloc (.cells #[.string (bs r.i.op), .int .i64 r.i.r, .bool r.i.aR, .int .i64 r.i.aN, .bool r.i.bR, .int .i64 r.i.bN, .int .i64 r.i.x, .int .i64 r.line, .string (bs r.word)] 114)).cell? ⟨gt, k * 3 + 1, none⟩ = some (.slice ca th.code.length cc) := (World.cell?_of_block (w := W5) (a := ⟨gt, k * 3 + 1, none⟩) (Below.heap_alloc W5 _ gt hgl)).trans s1
     replace h24 := hide h24
     have HN := hide (⟨hR3, (hX5.trans hd).trans hX3⟩ : _ ∧ _)
     clear hb2 t1 hr hb5 hR5 hX5 hB hgl hd hRd hR3 hX3
     go_wp2_with fail
     rw [hW5.out]
     go_region_law (refine step_append_run rfl _ _ _ rfl rfl rfl rfl hrun ?_)
     all_goals
      go_wp2_with fail
      go_ret
      exact ⟨e', tag3, _, _, rfl, HN.out.1, HN.out.2, by unfold RIns; rw [H2.out.2.2]; exact .inr ⟨e2.out, .inr ⟨h24.out, rfl, rfl⟩⟩⟩
 ·rw [Bool.not_eq_true] at hn1
  clear hzf hxl hwx
  clear h hs hd hRd hf2 hf0 hlab hk hm hn hl hnb
  go_enter Tryz.func47, Tryz.ntmps47
  go_wp2_with fail
  go_region
  go_wp2_with fail
  refine hI.mono ?_
  rintro en w2 ⟨rfl, hb2⟩
  clear c3 cf hI
  cases hr : rInstrT P line f ts with
  | none =>
   have H2 := hide (⟨HD.out.1.below (w' := w2.alloc (.cells zeroRI.toArray 114)) (hb2.alloc hb2.size _), HD.out.2.trans (.of_below (hb2.alloc hb2.size (.cells zeroRI.toArray 114))), hr⟩ : _ ∧ _ ∧ _)
   clear hb2 t1 hr
   unfold rInstrV zeroRI
   go_wp2_with fail
   go_ret
   exact ⟨2, tag, P, U, rfl, H2.out.1, H2.out.2.1, by unfold RIns; rw [H2.out.2.2]⟩
  | some q =>
   obtain ⟨r, e'⟩ := q
   obtain ⟨W5, hW5⟩ : ∃ W5, w2.alloc (.cells #[.string (bs r.i.op), .int .i64 r.i.r, .bool r.i.aR, .int .i64 r.i.aN, .bool r.i.bR, .int .i64 r.i.bN, .int .i64 r.i.x, .int .i64 r.line, .string (bs r.word)] 114) = W5 := ⟨_, rfl⟩
   have hb5 : Below w.drew.heap.size w.drew W5 := by rw [← hW5]; exact hb2.alloc hb2.size _
   have hR5 := HD.out.1.below hb5
   have hX5 := HD.out.2.trans (.of_below hb5)
   have s1 : W5.cell? ⟨gt, k * 3 + 1, none⟩ = some (.slice ca th.code.length cc) := by have e := hR5.thrCell hth.out hp.out (r := 1) (by omega) hV.out; rw [show (thC (th, p))[1]? = some p.1 from rfl, hp1.out] at e; exact e
   have hB : InsB W5 w2.heap.size r := ⟨by rw [← hW5]; exact World.alloc_heap_new w2 _⟩
   obtain ⟨x0, x1, x2, x3, x4, x5, x6, x7, x8⟩ := hB.cells
   have s1b := s1
   rw [← hW5] at s1b
   replace hW5 := hide hW5
   have H2 := hide (⟨hR5, hX5, hr⟩ : _ ∧ _ ∧ _)
   unfold rInstrV riC
   by_cases e2 : e' = 2
   ·subst e2
    clear hb2 t1 hr hb5 hR5 hX5 hB
    go_wp2_with fail
    go_ret
    rw [hW5.out]
    exact ⟨2, tag, P, U, rfl, H2.out.1, H2.out.2.1, by unfold RIns; rw [H2.out.2.2]; exact .inl ⟨rfl, rfl⟩⟩
   ·have e2' : (e' == 2) = false := by simpa using e2
    replace e2 := hide e2
    by_cases h24 : th.code.length = 24
    ·have h24' : ((th.code.length : Int) == 24) = true := by simp; omega
     replace h24 := hide h24
     clear hb2 t1 hr hb5 hR5 hX5 hB
     go_wp2_with fail
     go_ret
     rw [hW5.out]
     exact ⟨4, tag, P, U, rfl, H2.out.1, H2.out.2.1, by unfold RIns; rw [H2.out.2.2]; exact .inr ⟨e2.out, .inl ⟨h24.out, rfl⟩⟩⟩
    ·have h24' : ((th.code.length : Int) == 24) = false := by simp; omega
     have hd : Ext W5 tag W5.drew tag := ⟨rfl, rfl, rfl, Nat.le_refl _, fun _ _ => rfl, fun _ _ _ => rfl⟩
     have hRd := RfW.keep (w' := W5.drew) hR5 (fun _ _ => rfl) hd
     obtain ⟨g, cap', w3, hrun, cV3, fV3, tag3, hR3, hX3⟩ := hRd.addI hth.out hp.out r (by omega) hV.out
     rw [hp1.out] at hrun cV3
     have hrun : (Builtin.append_ #[108, 108] 108 #[.slice ca th.code.length cc, .slice (some ⟨W5.heap.size, 0, none⟩) 1 1]).run Tryz.prog (W5.alloc (.cells #[.string (bs r.i.op), .int .i64 r.i.r, .bool r.i.aR, .int .i64 r.i.aN, .bool r.i.bR, .int .i64 r.i.bN, .int .i64 r.i.x, .int .i64 r.line, .string (bs r.word)] 114)).drew = .ok (.slice (some ⟨g, 0, none⟩) (th.code.length + 1) cap') w3 := hrun
     have hgl : gt < W5.heap.size := hR5.lt (hR5.tt gt (by rw [hV.out]; rfl)) (by simp)
     have s1a : (W5.alloc (.cells #[.string (bs r.i.op), .int .i64 r.i.r, .bool r.i.aR, .int .i64 r.i.aN, .bool r.i.bR, .int .i64 r.i.bN, .int .i64 r.i.x, .int .i64 r.line, .string (bs r.word)] 114)).cell? ⟨gt, k * 3 + 1, none⟩ = some (.slice ca th.code.length cc) := (World.cell?_of_block (w := W5) (a := ⟨gt, k * 3 + 1, none⟩) (Below.heap_alloc W5 _ gt hgl)).trans s1
     replace h24 := hide h24
     have HN := hide (⟨hR3, (hX5.trans hd).trans hX3⟩ : _ ∧ _)
     clear hb2 t1 hr hb5 hR5 hX5 hB hgl hd hRd hR3 hX3
     go_wp2_with fail
     rw [hW5.out]
     go_region_law (refine step_append_run rfl _ _ _ rfl rfl rfl rfl hrun ?_)
     all_goals
      go_wp2_with fail
      go_ret
      exact ⟨e', tag3, _, _, rfl, HN.out.1, HN.out.2, by unfold RIns; rw [H2.out.2.2]; exact .inr ⟨e2.out, .inr ⟨h24.out, rfl, rfl⟩⟩⟩
theorem load_ins {w : World} {a : Nat} {i : In7} (h : w.heap[a]? = some (.cells (insC i) 67)) : w.cell? ⟨a, 0, none⟩ = some (.string (bs i.op)) ∧ w.cell? ⟨a, 1, none⟩ = some (.int .i64 i.r) ∧ w.cell? ⟨a, 2, none⟩ = some (.bool i.aR) ∧ w.cell? ⟨a, 3, none⟩ = some (.int .i64 i.aN) ∧ w.cell? ⟨a, 4, none⟩ = some (.bool i.bR) ∧ w.cell? ⟨a, 5, none⟩ = some (.int .i64 i.bN) ∧ w.cell? ⟨a, 6, none⟩ = some (.int .i64 i.x) := by
 simp [World.cell?, h, insC]
set_option maxRecDepth 100000 in
set_option maxHeartbeats 2000000 in
theorem complete_any {w : World} {tag : Nat → RT} {base rb nb lb : Nat} {G : RG} (h : RdW w tag base rb nb lb G) (C : List (List In7)) (hl : C.length = G.bods.length) (hnl : (G.nms 116).length = G.bods.length)
 (hB : ∀ (k a : Nat) (is : List In7), G.bods[k]? = some a → C[k]? = some is → ∃ c, G.B a = some c ∧ c.ins.length = is.length ∧ c.ins.length < 1048576 ∧ ∀ (j ia : Nat), c.ins[j]? = some ia → ∃ i, is[j]? = some i ∧ G.I ia = some i) (hb : G.bods.length < 1048576) :
 Calls Tryz.prog 83 #[ptrV rb] w fun en w' => en = .returned (.tuple #[]) ∧ ∃ thV L, CompO w w' rb nb lb G thV L C ∧ L.map Prod.fst = G.nms 116 := by
 have c6 := h.bodC
 obtain ⟨ba, bcap, hV⟩ := row_ptr h.brow
 rw [List.length_map] at hV
 rw [hV] at c6
 have hrl := h.lt h.trd (by simp)
 have hJ0 : Hid (CompO w w rb nb lb G (.slice none 0 0) [] []) := ⟨h.cell, World.ownsRow_nil _ _ _ _, (fun i p is hp => by cases hp), rfl, rfl, rfl, rfl, Nat.le_refl _, fun _ _ _ => rfl⟩
 replace hV := hide hV
 have H := hide h
 replace hB := hide hB
 replace hl := hide hl
 replace hnl := hide hnl
 unfold ptrV
 clear h
 go_enter Tryz.func83, Tryz.ntmps83
 go_wp2_with fail
 go_loopw [12] (fun iv wr => ∃ (k : Nat) (thV : Value) (L : List (Tx × Value)), k ≤ G.bods.length ∧ iv = .int .i64 k ∧ CompO w wr rb nb lb G thV L (C.take k) ∧ L.map Prod.fst = (G.nms 116).take k) (fun iv _ => G.bods.length - (intOf iv).toNat)
 case atStart => exact ⟨0, _, [], Nat.zero_le _, rfl, by simpa using hJ0.out, by simp⟩
 case round =>
  rename World => wo
  clear c6 hJ0
  obtain ⟨k, thV, L, hk, rfl, hJ, hLn⟩ := hrel
  by_cases h5 : k < G.bods.length
  ·have hlt : (k : Int) < (G.bods.length : Int) := by omega
   obtain ⟨a, ha⟩ : ∃ a, G.bods[k]? = some a := ⟨_, List.getElem?_eq_getElem h5⟩
   obtain ⟨is, his⟩ : ∃ is, C[k]? = some is := ⟨_, List.getElem?_eq_getElem (by have := hl.out; omega)⟩
   obtain ⟨nm, hnm⟩ : ∃ nm, (G.nms 116)[k]? = some nm := ⟨_, List.getElem?_eq_getElem (by have := hnl.out; omega)⟩
   obtain ⟨c, hc, hcl, hcb, hci⟩ := hB.out k a is ha his
   have h := H.out
   have hBd := h.bodies a c hc
   have hold := hJ.old
   have hob : ∀ {b : Nat} {g : RT}, tag b = g → g ≠ .o → g ≠ .rd → wo.heap[b]? = w.heap[b]? := fun {b g} e h1 h2 => hold b (h.lt e h1) (fun e' => by rw [e', h.trd] at e; exact h2 e.symm)
   have ca : wo.cell? ⟨a, 0, none⟩ = some c.cv := by simp [World.cell?, hob hBd.ta (by simp) (by simp), hBd.cell]
   have hbrow : wo.ownsRow base 179 1 G.bV (G.bods.map ptrV).length (G.bods.map ptrV) := owns_same h.brow.row fun g e => hob (h.brow.tg g e) (by simp) (by simp)
   have htrow : wo.ownsRow base 9 1 (G.V 116) ((G.nms 116).map strW).length ((G.nms 116).map strW) := owns_same (h.rows 116 (.inr (.inr (.inr rfl)))).row fun g e => hob ((h.rows 116 (.inr (.inr (.inr rfl)))).tg g e) (by simp) (by simp)
   have hcrow : wo.ownsRow base 183 1 c.cv c.ins.length (c.ins.map ptrV) := owns_same hBd.code fun g e => hob (hBd.tcode g e) (by simp) (by simp)
   have hbm : (G.bods.map ptrV).length = G.bods.length := by simp
   rw [hbm] at hbrow
   obtain ⟨gb, rfl⟩ : ∃ g, ba = some ⟨g, 0, none⟩ := by
    rcases hbrow.2 with ⟨_, e⟩ | ⟨g, cap, cur, e, _⟩
    ·omega
    ·rw [hV.out] at e; cases e; exact ⟨_, rfl⟩
   rw [hV.out] at hbrow
   have cb : wo.cell? ⟨gb, k, none⟩ = some (ptrV a) := by rw [hbrow.cellAt k (by omega), List.getElem?_map, ha]; rfl
   have htm : ((G.nms 116).map strW).length = G.bods.length := by rw [List.length_map]; exact hnl.out
   rw [htm] at htrow
   obtain ⟨m, hm⟩ : ∃ m, G.bods.length = m + 1 := ⟨G.bods.length - 1, by omega⟩
   obtain ⟨gt, tcap, hVt⟩ : ∃ gt tcap, G.V 116 = .slice (some ⟨gt, 0, none⟩) G.bods.length tcap := by
    rw [hm] at htrow ⊢; exact ownsRow_succ htrow
   rw [hVt] at htrow
   have ct : wo.cell? ⟨gt, k, none⟩ = some (.string (bs nm)) := by rw [htrow.cellAt k (by omega), List.getElem?_map, hnm]; rfl
   have c5 : wo.cell? ⟨rb, 5, none⟩ = some (.slice (some ⟨gt, 0, none⟩) G.bods.length tcap) := by simp [World.cell?, hJ.cell, hVt]
   have c4 : wo.cell? ⟨rb, 4, none⟩ = some thV := by simp [World.cell?, hJ.cell]
   obtain ⟨cca, ccap, hcv⟩ := row_len hcrow
   rw [hcv] at ca
   have hal : a < wo.heap.size := by have := h.lt hBd.ta (by simp); have := hJ.size; omega
   have hI0 : Hid (CompI wo (wo.alloc (.cells #[.string (bs nm), .slice none 0 0] 63)) wo.heap.size nm (.slice none 0 0) []) := ⟨World.alloc_heap_new wo _, World.ownsRow_nil _ _ _ _, rfl, rfl, rfl, by simp, fun b hb => Below.heap_alloc wo _ b hb⟩
   have HO := hide (⟨hJ, hLn, hcrow, his, hnm⟩ : _ ∧ _ ∧ _ ∧ _ ∧ _)
   have HX := hide (⟨@hob, hci, hcl⟩ : (∀ {b : Nat} {g : RT}, tag b = g → g ≠ .o → g ≠ .rd → wo.heap[b]? = w.heap[b]?) ∧ _ ∧ _)
   have hrl' : Hid (rb < wo.heap.size) := by have := hJ.size; unfold Hid; omega
   replace hcv := hide hcv
   replace hVt := hide hVt
   replace hm := hide hm
   unfold ptrV at cb
   clear hJ hLn hcrow hob hci hold hbrow htrow hbm htm hcl his hnm ha h hBd
   go_wp2_with fail
   go_loopw [30] (fun iv w2 => ∃ (j : Nat) (cv : Value), j ≤ c.ins.length ∧ iv = .int .i64 j ∧ CompI wo w2 wo.heap.size nm cv (is.take j)) (fun iv _ => c.ins.length - (intOf iv).toNat)
   case atStart => exact ⟨0, _, Nat.zero_le _, rfl, by simpa using hI0.out⟩
   case round =>
    clear hI0 cb ct c5 c4 ca
    obtain ⟨j, cv, hj, rfl, hI⟩ := hrel
    by_cases h6 : j < c.ins.length
    ·have hlt6 : (j : Int) < (c.ins.length : Int) := by omega
     obtain ⟨hob, hci, hcl⟩ := HX.out
     obtain ⟨hJ, hLn, hcrow, his, hnm⟩ := HO.out
     obtain ⟨ia, hia⟩ : ∃ ia, c.ins[j]? = some ia := ⟨_, List.getElem?_eq_getElem h6⟩
     obtain ⟨i, hi, hIi⟩ := hci j ia hia
     have hins := H.out.ins ia i hIi
     have hil := H.out.lt hins.2 (by simp)
     have hws := hJ.size
     obtain ⟨gc, rfl⟩ : ∃ g, cca = some ⟨g, 0, none⟩ := by
      rcases hcrow.2 with ⟨_, e⟩ | ⟨g, cap, cur, e, _⟩
      ·omega
      ·rw [hcv.out] at e; cases e; exact ⟨_, rfl⟩
     rw [hcv.out] at hcrow
     have hgl := (hcrow.lt gc rfl).2
     have hgc : wr.heap[gc]? = wo.heap[gc]? := hI.old gc hgl
     have cc : wr.cell? ⟨gc, j, none⟩ = some (.pointer (some ⟨ia, 0, none⟩)) := (World.cell?_of_block (w := wo) (a := ⟨gc, j, none⟩) hgc).trans (by rw [hcrow.cellAt j (by omega), List.getElem?_map, hia]; rfl)
     have hih : wr.heap[ia]? = some (.cells (insC i) 67) := (hI.old ia (by omega)).trans ((hob hins.2 (by simp) (by simp)).trans hins.1)
     obtain ⟨i0, i1, i2, i3, i4, i5, i6⟩ := load_ins hih
     have hil2 : ia < wr.heap.size := by have := hI.size; omega
     have htl := hI.size
     have ct1 : wr.cell? ⟨wo.heap.size, 1, none⟩ = some cv := by simp [World.cell?, hI.cell]
     obtain ⟨sa, scap, hsv⟩ := owns_len hI.row
     have htake : (is.take j).length = j := by rw [List.length_take]; omega
     rw [htake] at hsv
     have hI2 : CompI wo wr.drew wo.heap.size nm cv (is.take j) := ⟨hI.cell, hI.row, hI.os, hI.tape, hI.output, hI.size, hI.old⟩
     obtain ⟨g, cap', w3, hrun, q1, f1, q0, hI3, hk3⟩ := hI2.push i (by omega)
     rw [htake] at hrun hI3
     have hrun : (Builtin.append_ #[61, 61] 61 #[cv, .slice (some ⟨wr.heap.size, 0, none⟩) 1 1]).run Tryz.prog (wr.alloc (.cells (insC i) 67)).drew = .ok (.slice (some ⟨g, 0, none⟩) (j + 1) cap') w3 := hrun
     have hnext : is.take (j + 1) = is.take j ++ [i] := by
      obtain ⟨hj', e⟩ := List.getElem?_eq_some_iff.1 hi
      rw [List.take_succ_eq_append_getElem hj', e]
     rw [hsv] at ct1 hrun q1
     unfold insC at hrun
     have HN := hide (⟨hI3, hnext⟩ : _ ∧ _)
     replace hsv := hide hsv
     clear hI3 hI2 hI hih hins hil hws hgc hgl hcrow hob hci hcl hJ hLn his hnm hia hi hIi hk3 htake hnext
     go_wp2_with fail
     go_region_law (refine step_append_run rfl _ _ _ rfl rfl rfl rfl hrun ?_)
     all_goals
      go_wp2_with fail
      go_roundw
      case rel => exact ⟨j + 1, _, by omega, by go_num, by rw [HN.out.2]; exact HN.out.1⟩
      case measure => simp [intOf]; omega
    ·obtain ⟨hob, hci, hcl⟩ := HX.out
     obtain ⟨hJ, hLn, hcrow, his, hnm⟩ := HO.out
     have hjl : j = c.ins.length := by omega
     subst hjl
     have htk : is.take c.ins.length = is := List.take_of_length_le (by omega)
     rw [htk] at hI
     have hws := hJ.size
     have hI2 : CompI wo wr.drew wo.heap.size nm cv is := ⟨hI.cell, hI.row, hI.os, hI.tape, hI.output, hI.size, hI.old⟩
     have hLl : L.length = k := by
      have := congrArg List.length hLn
      rw [List.length_map, List.length_take, hnl.out] at this
      omega
     obtain ⟨g, cap', w3, hrun, q4, f4, hJ3⟩ := hJ.push hI2 hrl (by omega)
     have ct0 : wr.cell? ⟨wo.heap.size, 0, none⟩ = some (.string (bs nm)) := by simp [World.cell?, hI.cell]
     have ct1 : wr.cell? ⟨wo.heap.size, 1, none⟩ = some cv := by simp [World.cell?, hI.cell]
     have c4 : wr.cell? ⟨rb, 4, none⟩ = some thV := (World.cell?_of_block (w := wo) (a := ⟨rb, 4, none⟩) (hI.old rb hrl'.out)).trans (by simp [World.cell?, hJ.cell])
     have htl := hI.size
     have hrl2 : rb < wr.heap.size := by omega
     obtain ⟨sa, scap, hsv⟩ := owns_len hI.row
     obtain ⟨ta, tcap', htv⟩ := owns_len hJ.row
     have hrun : (Builtin.append_ #[24, 24] 24 #[thV, .slice (some ⟨wr.heap.size, 0, none⟩) 1 1]).run Tryz.prog (wr.alloc (.cells #[.string (bs nm), cv] 63)).drew = .ok (.slice (some ⟨g, 0, none⟩) (L.length + 1) cap') w3 := hrun
     rw [htv] at c4 hrun q4
     rw [hsv] at ct1 hrun
     have HN := hide (⟨hJ3, hLn, his, hnm, hLl⟩ : _ ∧ _ ∧ _ ∧ _ ∧ _)
     replace hsv := hide hsv
     replace htv := hide htv
     clear hJ3 hI2 hI hws hcrow hob hci hcl hJ hLn his hnm htk hLl
     go_wp2_with fail
     go_region_law (refine step_append_run rfl _ _ _ rfl rfl rfl rfl hrun ?_)
     all_goals
      go_wp2_with fail
      go_roundw
      case rel =>
       obtain ⟨hJ3, hLn, his, hnm, hLl⟩ := HN.out
       have e1 : C.take (k + 1) = C.take k ++ [is] := by
        obtain ⟨hj', e⟩ := List.getElem?_eq_some_iff.1 his
        rw [List.take_succ_eq_append_getElem hj', e]
       have e2 : (G.nms 116).take (k + 1) = (G.nms 116).take k ++ [nm] := by
        obtain ⟨hj', e⟩ := List.getElem?_eq_some_iff.1 hnm
        rw [List.take_succ_eq_append_getElem hj', e]
       refine ⟨k + 1, .slice (some ⟨g, 0, none⟩) (L.length + 1) cap', L ++ [(nm, cv)], by omega, by go_num, by rw [e1]; exact hJ3, ?_⟩
       rw [e2, List.map_append, hLn]
       rfl
      case measure => simp [intOf]; omega
  ·have hk' : k = G.bods.length := by omega
   subst hk'
   have HE := hide (⟨hJ, hLn⟩ : _ ∧ _)
   clear hJ hLn
   go_wp2_with fail
   go_end0
   obtain ⟨hJ, hLn⟩ := HE.out
   rw [List.take_of_length_le (by have := hl.out; omega)] at hJ
   rw [List.take_of_length_le (by have := hnl.out; omega)] at hLn
   exact ⟨rfl, thV, L, hJ, hLn⟩
set_option maxRecDepth 100000 in
set_option maxHeartbeats 1000000 in
theorem clo_any {w : World} {tag : Nat → RT} {base rb nb lb : Nat} {G : RG} (h : RdW w tag base rb nb lb G) {c : CloC} (hc : c ∈ G.las) {i : In7} (hi : G.I c.ia = some i) {N : Tx → Option (Int × Nat)} (hM : MapOk w tag c.tb N) :
 Calls Tryz.prog 145 #[ptrV c.c0, ptrV c.c1, ptrV c.c2, ptrV c.c3, ptrV c.c4] w fun en w' =>
  (∃ n : Nat, N c.nm = some (c.kd, n) ∧ en = .returned (.tuple #[]) ∧ RdW w' tag base rb nb lb (G.setI c.ia { i with x := (n : Int) }) ∧ Ext w tag w' tag) ∨ ((∀ n, N c.nm ≠ some (c.kd, n)) ∧ en = .panicked (faultC 5 c.ln) ∧ Ext w tag w' tag) := by
 have hI := (h.ins c.ia i hi).1
 have hC := h.clos c hc
 have d0 : w.cell? ⟨c.c0, 0, none⟩ = some (.map (some c.tb)) := by simp [World.cell?, hC.d0]
 have d1 : w.cell? ⟨c.c1, 0, none⟩ = some (.int .u8 c.kd) := by simp [World.cell?, hC.d1]
 have d2 : w.cell? ⟨c.c2, 0, none⟩ = some (.string (bs c.nm)) := by simp [World.cell?, hC.d2]
 have d3 : w.cell? ⟨c.c3, 0, none⟩ = some (.int .i64 c.ln) := by simp [World.cell?, hC.d3]
 have d4 : w.cell? ⟨c.c4, 0, none⟩ = some (.pointer (some ⟨c.ia, 0, none⟩)) := by simp [World.cell?, hC.d4, ptrV]
 have f6 : w.frozen? ⟨c.ia, 6, none⟩ = false := by simp [World.frozen?, hI]
 have d6 : w.cell? ⟨c.ia, 6, none⟩ = some (.int .i64 i.x) := by simp [World.cell?, hI, insC]
 have hM : MapOk w.drew tag c.tb N := hM
 have hF := find_any hM c.kd c.nm c.ln
 have HX := hide (⟨rfl, rfl, rfl, Nat.le_refl _, fun _ _ => rfl, fun _ _ _ => rfl⟩ : Ext w tag w.drew tag)
 unfold ptrV
 by_cases hn : ∃ n, N c.nm = some (c.kd, n)
 ·obtain ⟨n, hn⟩ := hn
  have hF' := hF.mono (R' := fun en w' => en = .returned (.int .i64 n) ∧ w' = w.drew) (fun en w' hh => by
   rcases hh with ⟨⟨m, hm, e1⟩ | ⟨hm, _⟩, e2⟩
   ·rw [hn] at hm; cases hm; exact ⟨e1, e2⟩
   ·exact absurd hn (hm n))
  have HE := hide (RdW.setI1 (w := w.drew) (h.keep (fun _ _ => rfl) HX.out) hi (i' := { i with x := (n : Int) }) 6 (.int .i64 n) rfl)
  replace hn := hide hn
  have hSame : Hid ((fun w' : World => w'.cell? ⟨c.c0, 0, none⟩ = some (.map (some c.tb)) ∧ w'.cell? ⟨c.c1, 0, none⟩ = some (.int .u8 c.kd) ∧ w'.cell? ⟨c.c2, 0, none⟩ = some (.string (bs c.nm)) ∧ w'.cell? ⟨c.c3, 0, none⟩ = some (.int .i64 c.ln) ∧ w'.cell? ⟨c.c4, 0, none⟩ = some (.pointer (some ⟨c.ia, 0, none⟩))) (w.drew.setCell ⟨c.ia, 6, none⟩ (.int .i64 n))) := by
   have hne : ∀ {b : Nat}, tag b = .clo → ∀ k v, (w.drew.setCell ⟨c.ia, 6, none⟩ v).cell? ⟨b, k, none⟩ = w.cell? ⟨b, k, none⟩ := fun {b} hb k v => by
    refine World.cell?_of_block (w := w) (a := ⟨b, k, none⟩) ?_
    exact Below.heap_setCell w.drew ⟨c.ia, 6, none⟩ v b (ne_tag hb (h.ins c.ia i hi).2 (by simp))
   exact ⟨(hne hC.t0 _ _).trans d0, (hne hC.t1 _ _).trans d1, (hne hC.t2 _ _).trans d2, (hne hC.t3 _ _).trans d3, (hne hC.t4 _ _).trans d4⟩
  clear h hI hM hF hC hc
  go_enter Tryz.func145, Tryz.ntmps145
  go_wp2_with fail
  refine wp_region_held_drew (S := (fun w' => w'.cell? ⟨c.c0, 0, none⟩ = some (.map (some c.tb)) ∧ w'.cell? ⟨c.c1, 0, none⟩ = some (.int .u8 c.kd) ∧ w'.cell? ⟨c.c2, 0, none⟩ = some (.string (bs c.nm)) ∧ w'.cell? ⟨c.c3, 0, none⟩ = some (.int .i64 c.ln) ∧ w'.cell? ⟨c.c4, 0, none⟩ = some (.pointer (some ⟨c.ia, 0, none⟩)))) (by kernel_rfl) ⟨d0, d1, d2, d3, d4⟩ (fun hHeld => ?_)
  refine tk 0 hHeld ?_
  refine tk 1 hHeld ?_
  refine tk 2 hHeld ?_
  refine tk 3 hHeld ?_
  refine tk 4 hHeld ?_
  refine rd 5 (fun K hK => ?_)
  go_simp
  go_at_call 136
  refine hF'.mono ?_
  rintro e w1 ⟨rfl, rfl⟩
  go_wp2_with fail
  refine hK.out _ _ ⟨d0, d1, d2, d3, d4⟩ (fun hHeld => ?_)
  clear hK K
  try simp only [Act.put, sq]
  refine tk 6 hHeld ?_
  refine tk 7 hHeld ?_
  refine rd 8 (fun K hK => ?_)
  go_simp
  refine hK.out _ _ hSame.out (fun _ => ?_)
  clear hK K
  refine wpAnyH_done (by kernel_rfl) ?_ _
  clear hHeld
  go_wp2_with fail
  go_end0
  exact .inl ⟨n, hn.out, rfl, HE.out.1, HX.out.trans HE.out.2⟩
 ·have hF' := hF.mono (R' := fun en w' => en = .panicked (faultC 5 c.ln) ∧ w' = w.drew) (fun en w' hh => by
   rcases hh with ⟨⟨m, hm, e1⟩ | ⟨hm, e1⟩, e2⟩
   ·exact absurd ⟨m, hm⟩ hn
   ·exact ⟨e1, e2⟩)
  replace hn := hide hn
  clear h hI hM hF hC hc
  go_enter Tryz.func145, Tryz.ntmps145
  go_wp2_with fail
  refine wp_region_held_drew (S := (fun w' => w'.cell? ⟨c.c0, 0, none⟩ = some (.map (some c.tb)) ∧ w'.cell? ⟨c.c1, 0, none⟩ = some (.int .u8 c.kd) ∧ w'.cell? ⟨c.c2, 0, none⟩ = some (.string (bs c.nm)) ∧ w'.cell? ⟨c.c3, 0, none⟩ = some (.int .i64 c.ln) ∧ w'.cell? ⟨c.c4, 0, none⟩ = some (.pointer (some ⟨c.ia, 0, none⟩)))) (by kernel_rfl) ⟨d0, d1, d2, d3, d4⟩ (fun hHeld => ?_)
  refine tk 0 hHeld ?_
  refine tk 1 hHeld ?_
  refine tk 2 hHeld ?_
  refine tk 3 hHeld ?_
  refine tk 4 hHeld ?_
  refine rd 5 (fun K hK => ?_)
  go_simp
  go_at_call 136
  refine hF'.mono ?_
  rintro e w1 ⟨rfl, rfl⟩
  exact ⟨rfl, .inr ⟨fun n e => hn.out ⟨n, e⟩, rfl, HX.out⟩⟩
theorem catch_none (p : Addr) (n : Nat) (w : World) :
 CallsDIn Fence.wide n Tryz.prog 79 #[.pointer (some p)] .returning w fun e u' w' => e = .returned (.tuple #[]) ∧ u' = .returning ∧ w' = w := by
 refine callsDIn_of_wpSIn Tryz.func79 rfl trivial fun c₀ cs hu => ?_
 apply wpSIn_seq
 apply wpSIn_region
 simp only [Tryz.ntmps79, List.size_toArray, List.length_cons, List.length_nil, Nat.reduceAdd, Nat.reduceSub, Array.replicate_succ, Array.replicate_zero, List.push_toArray, List.append_toArray, List.nil_append, List.cons_append]
 generalize hQ : Exit.thenS _ _ = Q
 simp [wpOpsSIn, go_sem, recoverD, hu, List.range_succ]
 rw [← hQ]
 simp only [Exit.thenS]
 clear hQ Q
 refine wpSIn_of_wpIn rfl ?_
 gi_wp2
 refine ⟨rfl, .returning, ?_, _, results_none rfl _ _ _, rfl, rfl, rfl⟩
 cases c₀
 simp_all
theorem assert_fault (e l : Int) (u : World) : (Instr.typeAssert (.iface 127 (.agg #[.int .i64 e, .int .i64 l])) 20 127 true).run Tryz.prog u = .ok (.tuple #[.agg #[.int .i64 e, .int .i64 l], .bool true]) u := by kernel_rfl
set_option maxRecDepth 100000 in
set_option maxHeartbeats 400000 in
theorem catch_fault (pb n : Nat) (e l x y : Int) (w : World) (hc : w.heap[pb]? = some (.cells #[.int .i64 x, .int .i64 y] 127)) :
 CallsDIn Fence.wide n Tryz.prog 79 #[.pointer (some ⟨pb, 0, none⟩)] (.panicking (faultC e l)) w fun en u' w' => en = .returned (.tuple #[]) ∧ (∃ v, u' = .panicking [{ v := v, recovered := true }]) ∧ w'.heap[pb]? = some (.cells #[.int .i64 e, .int .i64 l] 127) ∧ (∀ b, b < w.heap.size → b ≠ pb → w'.heap[b]? = w.heap[b]?) ∧ w.heap.size ≤ w'.heap.size ∧ w'.os = w.os ∧ w'.tape = w.tape ∧ w'.output = w.output := by
 have c0 : w.cell? ⟨pb, 0, none⟩ = some (.int .i64 x) := by simp [World.cell?, hc]
 have c1 : w.cell? ⟨pb, 1, none⟩ = some (.int .i64 y) := by simp [World.cell?, hc]
 have f0 : w.frozen? ⟨pb, 0, none⟩ = false := by simp [World.frozen?, hc]
 have f1 : w.frozen? ⟨pb, 1, none⟩ = false := by simp [World.frozen?, hc]
 have hpl : pb < w.heap.size := (Array.getElem?_eq_some_iff.1 hc).1
 replace hc := o_hide hc
 have hta := assert_fault e l
 refine callsDIn_of_wpSIn Tryz.func79 rfl trivial fun c₀ cs hu => ?_
 apply wpSIn_seq
 apply wpSIn_region
 simp only [Tryz.ntmps79, List.size_toArray, List.length_cons, List.length_nil, Nat.reduceAdd, Nat.reduceSub, Array.replicate_succ, Array.replicate_zero, List.push_toArray, List.append_toArray, List.nil_append, List.cons_append]
 generalize hQ : Exit.thenS _ _ = Q
 unfold faultC at hu
 simp [wpOpsSIn, go_sem, recoverD, hu, List.range_succ]
 rw [← hQ]
 simp only [Exit.thenS]
 clear hQ Q
 refine wpSIn_of_wpIn rfl ?_
 gi_wp2
 refine ⟨rfl, _, rfl, _, results_none rfl _ _ _, rfl, ⟨_, rfl⟩, ?_, fun b hb hne => ?_, by simp, rfl, rfl, rfl⟩
 ·rw [Below.heap_alloc _ _ pb (by simpa using hpl), heap_setCell_same _ _ 1 _ _ _ (heap_setCell_same _ _ 0 _ _ _ hc.out)]
  rfl
 ·rw [Below.heap_alloc _ _ b (by simpa using hb), Below.heap_setCell _ ⟨pb, 1, none⟩ _ b hne, Below.heap_setCell _ ⟨pb, 0, none⟩ _ b hne]
end Go.Proofs.YtcfpedjfofpnkaaGreatDoor
