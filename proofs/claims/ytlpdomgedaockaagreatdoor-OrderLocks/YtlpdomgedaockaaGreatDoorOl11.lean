import Derived.Test.YtlpdomgedaockaaGreatDoorOl5
import Derived.Test.YtlpdomgedaockaaGreatDoorOl2
import Derived.Tactics
import Derived.Tactics2
import Derived.Defers
import Derived.Recover
import Derived.Laws.Pointers
import Derived.TacticsInMore
import Derived.RegionIn
import Derived.LoopNIn
import Derived.RecoverIn
set_option linter.unusedVariables false
set_option linter.unusedSimpArgs false
namespace Go.Proofs.YtlpdomgedaockaaGreatDoor
open Go.RowKit Go.Proofs.Cod
theorem load_ins {w : World} {a : Nat} {i : In7} (h : w.heap[a]? = some (.cells (insC i) 92)) : w.cell? ⟨a, 0, none⟩ = some (.string (bs i.op)) ∧ w.cell? ⟨a, 1, none⟩ = some (.int .i64 i.r) ∧ w.cell? ⟨a, 2, none⟩ = some (.bool i.aR) ∧ w.cell? ⟨a, 3, none⟩ = some (.int .i64 i.aN) ∧ w.cell? ⟨a, 4, none⟩ = some (.bool i.bR) ∧ w.cell? ⟨a, 5, none⟩ = some (.int .i64 i.bN) ∧ w.cell? ⟨a, 6, none⟩ = some (.int .i64 i.x) := by
  simp [World.cell?, h, insC]
set_option maxRecDepth 100000 in
set_option maxHeartbeats 2000000 in
theorem complete_any {w : World} {tag : Nat → RT} {base rb nb lb : Nat} {G : RG} (h : RdW w tag base rb nb lb G) (C : List (List In7)) (hl : C.length = G.bods.length) (hnl : (G.nms 116).length = G.bods.length)
    (hB : ∀ (k a : Nat) (is : List In7), G.bods[k]? = some a → C[k]? = some is → ∃ c, G.B a = some c ∧ c.ins.length = is.length ∧ c.ins.length < 1048576 ∧ ∀ (j ia : Nat), c.ins[j]? = some ia → ∃ i, is[j]? = some i ∧ G.I ia = some i) (hb : G.bods.length < 1048576) :
    Calls Tryz.prog 49 #[ptrV rb] w fun en w' => en = .returned (.tuple #[]) ∧ ∃ thV L, CompO w w' rb nb lb G thV L C ∧ L.map Prod.fst = G.nms 116 := by
  have c6 := h.bodC
  obtain ⟨ba, bcap, hV⟩ := row_ptr h.brow
  rw [List.length_map] at hV
  rw [hV] at c6
  have hrl := h.lt h.trd (by simp)
  have hJ0 : Hid (CompO w w rb nb lb G (.slice none 0 0) [] []) := ⟨h.cell, World.ownsRow_nil _ _ _ _, (fun i p is hp => by cases hp), rfl, rfl, rfl, rfl, Nat.le_refl _, fun _ _ _ => rfl⟩
  replace hV := hide hV
  have H := hide h
  replace hB := hide hB
  replace hl := hide hl
  replace hnl := hide hnl
  unfold ptrV
  clear h
  go_enter Tryz.func49, Tryz.ntmps49
  go_wp2_with fail
  go_loopw [12] (fun iv wr => ∃ (k : Nat) (thV : Value) (L : List (Tx × Value)), k ≤ G.bods.length ∧ iv = .int .i64 k ∧ CompO w wr rb nb lb G thV L (C.take k) ∧ L.map Prod.fst = (G.nms 116).take k) (fun iv _ => G.bods.length - (intOf iv).toNat)
  case atStart => exact ⟨0, _, [], Nat.zero_le _, rfl, by simpa using hJ0.out, by simp⟩
  case round =>
    rename World => wo
    clear c6 hJ0
    obtain ⟨k, thV, L, hk, rfl, hJ, hLn⟩ := hrel
    by_cases h5 : k < G.bods.length
    · have hlt : (k : Int) < (G.bods.length : Int) := by omega
      obtain ⟨a, ha⟩ : ∃ a, G.bods[k]? = some a := ⟨_, List.getElem?_eq_getElem h5⟩
      obtain ⟨is, his⟩ : ∃ is, C[k]? = some is := ⟨_, List.getElem?_eq_getElem (by have := hl.out; omega)⟩
      obtain ⟨nm, hnm⟩ : ∃ nm, (G.nms 116)[k]? = some nm := ⟨_, List.getElem?_eq_getElem (by have := hnl.out; omega)⟩
      obtain ⟨c, hc, hcl, hcb, hci⟩ := hB.out k a is ha his
      have h := H.out
      have hBd := h.bodies a c hc
      have hold := hJ.old
      have hob : ∀ {b : Nat} {g : RT}, tag b = g → g ≠ .o → g ≠ .rd → wo.heap[b]? = w.heap[b]? := fun {b g} e h1 h2 => hold b (h.lt e h1) (fun e' => by rw [e', h.trd] at e; exact h2 e.symm)
      have ca : wo.cell? ⟨a, 0, none⟩ = some c.cv := by simp [World.cell?, hob hBd.ta (by simp) (by simp), hBd.cell]
      have hbrow : wo.ownsRow base 198 1 G.bV (G.bods.map ptrV).length (G.bods.map ptrV) := owns_same h.brow.row fun g e => hob (h.brow.tg g e) (by simp) (by simp)
      have htrow : wo.ownsRow base 9 1 (G.V 116) ((G.nms 116).map strW).length ((G.nms 116).map strW) := owns_same (h.rows 116 (.inr (.inr (.inr rfl)))).row fun g e => hob ((h.rows 116 (.inr (.inr (.inr rfl)))).tg g e) (by simp) (by simp)
      have hcrow : wo.ownsRow base 202 1 c.cv c.ins.length (c.ins.map ptrV) := owns_same hBd.code fun g e => hob (hBd.tcode g e) (by simp) (by simp)
      have hbm : (G.bods.map ptrV).length = G.bods.length := by simp
      rw [hbm] at hbrow
      obtain ⟨gb, rfl⟩ : ∃ g, ba = some ⟨g, 0, none⟩ := by
        rcases hbrow.2 with ⟨_, e⟩ | ⟨g, cap, cur, e, _⟩
        · omega
        · rw [hV.out] at e; cases e; exact ⟨_, rfl⟩
      rw [hV.out] at hbrow
      have cb : wo.cell? ⟨gb, k, none⟩ = some (ptrV a) := by rw [hbrow.cellAt k (by omega), List.getElem?_map, ha]; rfl
      have htm : ((G.nms 116).map strW).length = G.bods.length := by rw [List.length_map]; exact hnl.out
      rw [htm] at htrow
      obtain ⟨m, hm⟩ : ∃ m, G.bods.length = m + 1 := ⟨G.bods.length - 1, by omega⟩
      obtain ⟨gt, tcap, hVt⟩ : ∃ gt tcap, G.V 116 = .slice (some ⟨gt, 0, none⟩) G.bods.length tcap := by
        rw [hm] at htrow ⊢; exact ownsRow_succ htrow
      rw [hVt] at htrow
      have ct : wo.cell? ⟨gt, k, none⟩ = some (.string (bs nm)) := by rw [htrow.cellAt k (by omega), List.getElem?_map, hnm]; rfl
      have c5 : wo.cell? ⟨rb, 5, none⟩ = some (.slice (some ⟨gt, 0, none⟩) G.bods.length tcap) := by simp [World.cell?, hJ.cell, hVt]
      have c4 : wo.cell? ⟨rb, 4, none⟩ = some thV := by simp [World.cell?, hJ.cell]
      obtain ⟨cca, ccap, hcv⟩ := row_len hcrow
      rw [hcv] at ca
      have hal : a < wo.heap.size := by have := h.lt hBd.ta (by simp); have := hJ.size; omega
      have hI0 : Hid (CompI wo (wo.alloc (.cells #[.string (bs nm), .slice none 0 0] 106)) wo.heap.size nm (.slice none 0 0) []) := ⟨World.alloc_heap_new wo _, World.ownsRow_nil _ _ _ _, rfl, rfl, rfl, by simp, fun b hb => Below.heap_alloc wo _ b hb⟩
      have HO := hide (⟨hJ, hLn, hcrow, his, hnm⟩ : _ ∧ _ ∧ _ ∧ _ ∧ _)
      have HX := hide (⟨@hob, hci, hcl⟩ : (∀ {b : Nat} {g : RT}, tag b = g → g ≠ .o → g ≠ .rd → wo.heap[b]? = w.heap[b]?) ∧ _ ∧ _)
      have hrl' : Hid (rb < wo.heap.size) := by have := hJ.size; unfold Hid; omega
      replace hcv := hide hcv
      replace hVt := hide hVt
      replace hm := hide hm
      unfold ptrV at cb
      clear hJ hLn hcrow hob hci hold hbrow htrow hbm htm hcl his hnm ha h hBd
      go_wp2_with fail
      go_loopw [30] (fun iv w2 => ∃ (j : Nat) (cv : Value), j ≤ c.ins.length ∧ iv = .int .i64 j ∧ CompI wo w2 wo.heap.size nm cv (is.take j)) (fun iv _ => c.ins.length - (intOf iv).toNat)
      case atStart => exact ⟨0, _, Nat.zero_le _, rfl, by simpa using hI0.out⟩
      case round =>
        clear hI0 cb ct c5 c4 ca
        obtain ⟨j, cv, hj, rfl, hI⟩ := hrel
        by_cases h6 : j < c.ins.length
        · have hlt6 : (j : Int) < (c.ins.length : Int) := by omega
          obtain ⟨hob, hci, hcl⟩ := HX.out
          obtain ⟨hJ, hLn, hcrow, his, hnm⟩ := HO.out
          obtain ⟨ia, hia⟩ : ∃ ia, c.ins[j]? = some ia := ⟨_, List.getElem?_eq_getElem h6⟩
          obtain ⟨i, hi, hIi⟩ := hci j ia hia
          have hins := H.out.ins ia i hIi
          have hil := H.out.lt hins.2 (by simp)
          have hws := hJ.size
          obtain ⟨gc, rfl⟩ : ∃ g, cca = some ⟨g, 0, none⟩ := by
            rcases hcrow.2 with ⟨_, e⟩ | ⟨g, cap, cur, e, _⟩
            · omega
            · rw [hcv.out] at e; cases e; exact ⟨_, rfl⟩
          rw [hcv.out] at hcrow
          have hgl := (hcrow.lt gc rfl).2
          have hgc : wr.heap[gc]? = wo.heap[gc]? := hI.old gc hgl
          have cc : wr.cell? ⟨gc, j, none⟩ = some (.pointer (some ⟨ia, 0, none⟩)) := (World.cell?_of_block (w := wo) (a := ⟨gc, j, none⟩) hgc).trans (by rw [hcrow.cellAt j (by omega), List.getElem?_map, hia]; rfl)
          have hih : wr.heap[ia]? = some (.cells (insC i) 92) := (hI.old ia (by omega)).trans ((hob hins.2 (by simp) (by simp)).trans hins.1)
          obtain ⟨i0, i1, i2, i3, i4, i5, i6⟩ := load_ins hih
          have hil2 : ia < wr.heap.size := by have := hI.size; omega
          have htl := hI.size
          have ct1 : wr.cell? ⟨wo.heap.size, 1, none⟩ = some cv := by simp [World.cell?, hI.cell]
          obtain ⟨sa, scap, hsv⟩ := owns_len hI.row
          have htake : (is.take j).length = j := by rw [List.length_take]; omega
          rw [htake] at hsv
          have hI2 : CompI wo wr.drew wo.heap.size nm cv (is.take j) := ⟨hI.cell, hI.row, hI.os, hI.tape, hI.output, hI.size, hI.old⟩
          obtain ⟨g, cap', w3, hrun, q1, f1, q0, hI3, hk3⟩ := hI2.push i (by omega)
          rw [htake] at hrun hI3
          have hrun : (Builtin.append_ #[104, 104] 104 #[cv, .slice (some ⟨wr.heap.size, 0, none⟩) 1 1]).run Tryz.prog (wr.alloc (.cells (insC i) 92)).drew = .ok (.slice (some ⟨g, 0, none⟩) (j + 1) cap') w3 := hrun
          have hnext : is.take (j + 1) = is.take j ++ [i] := by
            obtain ⟨hj', e⟩ := List.getElem?_eq_some_iff.1 hi
            rw [List.take_succ_eq_append_getElem hj', e]
          rw [hsv] at ct1 hrun q1
          unfold insC at hrun
          have HN := hide (⟨hI3, hnext⟩ : _ ∧ _)
          replace hsv := hide hsv
          clear hI3 hI2 hI hih hins hil hws hgc hgl hcrow hob hci hcl hJ hLn his hnm hia hi hIi hk3 htake hnext
          go_wp2_with fail
          go_region_law (refine step_append_run rfl _ _ _ rfl rfl rfl rfl hrun ?_)
          all_goals
            go_wp2_with fail
            go_roundw
            case rel => exact ⟨j + 1, _, by omega, by go_num, by rw [HN.out.2]; exact HN.out.1⟩
            case measure => simp [intOf]; omega
        · obtain ⟨hob, hci, hcl⟩ := HX.out
          obtain ⟨hJ, hLn, hcrow, his, hnm⟩ := HO.out
          have hjl : j = c.ins.length := by omega
          subst hjl
          have htk : is.take c.ins.length = is := List.take_of_length_le (by omega)
          rw [htk] at hI
          have hws := hJ.size
          have hI2 : CompI wo wr.drew wo.heap.size nm cv is := ⟨hI.cell, hI.row, hI.os, hI.tape, hI.output, hI.size, hI.old⟩
          have hLl : L.length = k := by
            have := congrArg List.length hLn
            rw [List.length_map, List.length_take, hnl.out] at this
            omega
          obtain ⟨g, cap', w3, hrun, q4, f4, hJ3⟩ := hJ.push hI2 hrl (by omega)
          have ct0 : wr.cell? ⟨wo.heap.size, 0, none⟩ = some (.string (bs nm)) := by simp [World.cell?, hI.cell]
          have ct1 : wr.cell? ⟨wo.heap.size, 1, none⟩ = some cv := by simp [World.cell?, hI.cell]
          have c4 : wr.cell? ⟨rb, 4, none⟩ = some thV := (World.cell?_of_block (w := wo) (a := ⟨rb, 4, none⟩) (hI.old rb hrl'.out)).trans (by simp [World.cell?, hJ.cell])
          have htl := hI.size
          have hrl2 : rb < wr.heap.size := by omega
          obtain ⟨sa, scap, hsv⟩ := owns_len hI.row
          obtain ⟨ta, tcap', htv⟩ := owns_len hJ.row
          have hrun : (Builtin.append_ #[24, 24] 24 #[thV, .slice (some ⟨wr.heap.size, 0, none⟩) 1 1]).run Tryz.prog (wr.alloc (.cells #[.string (bs nm), cv] 106)).drew = .ok (.slice (some ⟨g, 0, none⟩) (L.length + 1) cap') w3 := hrun
          rw [htv] at c4 hrun q4
          rw [hsv] at ct1 hrun
          have HN := hide (⟨hJ3, hLn, his, hnm, hLl⟩ : _ ∧ _ ∧ _ ∧ _ ∧ _)
          replace hsv := hide hsv
          replace htv := hide htv
          clear hJ3 hI2 hI hws hcrow hob hci hcl hJ hLn his hnm htk hLl
          go_wp2_with fail
          go_region_law (refine step_append_run rfl _ _ _ rfl rfl rfl rfl hrun ?_)
          all_goals
            go_wp2_with fail
            go_roundw
            case rel =>
              obtain ⟨hJ3, hLn, his, hnm, hLl⟩ := HN.out
              have e1 : C.take (k + 1) = C.take k ++ [is] := by
                obtain ⟨hj', e⟩ := List.getElem?_eq_some_iff.1 his
                rw [List.take_succ_eq_append_getElem hj', e]
              have e2 : (G.nms 116).take (k + 1) = (G.nms 116).take k ++ [nm] := by
                obtain ⟨hj', e⟩ := List.getElem?_eq_some_iff.1 hnm
                rw [List.take_succ_eq_append_getElem hj', e]
              refine ⟨k + 1, .slice (some ⟨g, 0, none⟩) (L.length + 1) cap', L ++ [(nm, cv)], by omega, by go_num, by rw [e1]; exact hJ3, ?_⟩
              rw [e2, List.map_append, hLn]
              rfl
            case measure => simp [intOf]; omega
    · have hk' : k = G.bods.length := by omega
      subst hk'
      have HE := hide (⟨hJ, hLn⟩ : _ ∧ _)
      clear hJ hLn
      go_wp2_with fail
      go_end0
      obtain ⟨hJ, hLn⟩ := HE.out
      rw [List.take_of_length_le (by have := hl.out; omega)] at hJ
      rw [List.take_of_length_le (by have := hnl.out; omega)] at hLn
      exact ⟨rfl, thV, L, hJ, hLn⟩
end Go.Proofs.YtlpdomgedaockaaGreatDoor
namespace Go.Proofs.YtlpdomgedaockaaGreatDoor
open Go.RowKit Go.Proofs.Cod
set_option maxRecDepth 100000 in
set_option maxHeartbeats 1000000 in
theorem clo_any {w : World} {tag : Nat → RT} {base rb nb lb : Nat} {G : RG} (h : RdW w tag base rb nb lb G) {c : CloC} (hc : c ∈ G.las) {i : In7} (hi : G.I c.ia = some i) {N : Tx → Option (Int × Nat)} (hM : MapOk w tag c.tb N) :
    Calls Tryz.prog 160 #[ptrV c.c0, ptrV c.c1, ptrV c.c2, ptrV c.c3, ptrV c.c4] w fun en w' =>
      (∃ n : Nat, N c.nm = some (c.kd, n) ∧ en = .returned (.tuple #[]) ∧ RdW w' tag base rb nb lb (G.setI c.ia { i with x := (n : Int) }) ∧ Ext w tag w' tag) ∨ ((∀ n, N c.nm ≠ some (c.kd, n)) ∧ en = .panicked (faultC 5 c.ln) ∧ Ext w tag w' tag) := by
  have hI := (h.ins c.ia i hi).1
  have hC := h.clos c hc
  have d0 : w.cell? ⟨c.c0, 0, none⟩ = some (.map (some c.tb)) := by simp [World.cell?, hC.d0]
  have d1 : w.cell? ⟨c.c1, 0, none⟩ = some (.int .u8 c.kd) := by simp [World.cell?, hC.d1]
  have d2 : w.cell? ⟨c.c2, 0, none⟩ = some (.string (bs c.nm)) := by simp [World.cell?, hC.d2]
  have d3 : w.cell? ⟨c.c3, 0, none⟩ = some (.int .i64 c.ln) := by simp [World.cell?, hC.d3]
  have d4 : w.cell? ⟨c.c4, 0, none⟩ = some (.pointer (some ⟨c.ia, 0, none⟩)) := by simp [World.cell?, hC.d4, ptrV]
  have f6 : w.frozen? ⟨c.ia, 6, none⟩ = false := by simp [World.frozen?, hI]
  have d6 : w.cell? ⟨c.ia, 6, none⟩ = some (.int .i64 i.x) := by simp [World.cell?, hI, insC]
  have hM : MapOk w.drew tag c.tb N := hM
  have hF := find_any hM c.kd c.nm c.ln
  have HX := hide (⟨rfl, rfl, rfl, Nat.le_refl _, fun _ _ => rfl, fun _ _ _ => rfl⟩ : Ext w tag w.drew tag)
  unfold ptrV
  by_cases hn : ∃ n, N c.nm = some (c.kd, n)
  · obtain ⟨n, hn⟩ := hn
    have hF' := hF.mono (R' := fun en w' => en = .returned (.int .i64 n) ∧ w' = w.drew) (fun en w' hh => by
      rcases hh with ⟨⟨m, hm, e1⟩ | ⟨hm, _⟩, e2⟩
      · rw [hn] at hm; cases hm; exact ⟨e1, e2⟩
      · exact absurd hn (hm n))
    have HE := hide (RdW.setI1 (w := w.drew) (h.keep (fun _ _ => rfl) HX.out) hi (i' := { i with x := (n : Int) }) 6 (.int .i64 n) rfl)
    replace hn := hide hn
    have hSame : Hid ((fun w' : World => w'.cell? ⟨c.c0, 0, none⟩ = some (.map (some c.tb)) ∧ w'.cell? ⟨c.c1, 0, none⟩ = some (.int .u8 c.kd) ∧ w'.cell? ⟨c.c2, 0, none⟩ = some (.string (bs c.nm)) ∧ w'.cell? ⟨c.c3, 0, none⟩ = some (.int .i64 c.ln) ∧ w'.cell? ⟨c.c4, 0, none⟩ = some (.pointer (some ⟨c.ia, 0, none⟩))) (w.drew.setCell ⟨c.ia, 6, none⟩ (.int .i64 n))) := by
      have hne : ∀ {b : Nat}, tag b = .clo → ∀ k v, (w.drew.setCell ⟨c.ia, 6, none⟩ v).cell? ⟨b, k, none⟩ = w.cell? ⟨b, k, none⟩ := fun {b} hb k v => by
        refine World.cell?_of_block (w := w) (a := ⟨b, k, none⟩) ?_
        exact Below.heap_setCell w.drew ⟨c.ia, 6, none⟩ v b (ne_tag hb (h.ins c.ia i hi).2 (by simp))
      exact ⟨(hne hC.t0 _ _).trans d0, (hne hC.t1 _ _).trans d1, (hne hC.t2 _ _).trans d2, (hne hC.t3 _ _).trans d3, (hne hC.t4 _ _).trans d4⟩
    clear h hI hM hF hC hc
    go_enter Tryz.func160, Tryz.ntmps160
    go_wp2_with fail
    refine wp_region_held_drew (S := (fun w' => w'.cell? ⟨c.c0, 0, none⟩ = some (.map (some c.tb)) ∧ w'.cell? ⟨c.c1, 0, none⟩ = some (.int .u8 c.kd) ∧ w'.cell? ⟨c.c2, 0, none⟩ = some (.string (bs c.nm)) ∧ w'.cell? ⟨c.c3, 0, none⟩ = some (.int .i64 c.ln) ∧ w'.cell? ⟨c.c4, 0, none⟩ = some (.pointer (some ⟨c.ia, 0, none⟩)))) (by kernel_rfl) ⟨d0, d1, d2, d3, d4⟩ (fun hHeld => ?_)
    refine wpAnyH_take (i := 0) (v := ?_) rfl (by kernel_rfl) (by kernel_rfl) (by kernel_rfl) (fun _ _ _ h => h) (Or.inl ⟨by rfl, ?_⟩) hHeld ?_
    rotate_left
    · intro w9 hSw; (try dsimp only at hSw); go_simp; try with_reducible rfl
    simp only [Act.put, List.getElem_toArray, List.getElem_cons_zero, List.getElem_cons_succ, List.setIfInBounds_toArray, List.set_cons_succ, List.set_cons_zero]
    refine wpAnyH_take (i := 1) (v := ?_) rfl (by kernel_rfl) (by kernel_rfl) (by kernel_rfl) (fun _ _ _ h => h) (Or.inl ⟨by rfl, ?_⟩) hHeld ?_
    rotate_left
    · intro w9 hSw; (try dsimp only at hSw); go_simp; try with_reducible rfl
    simp only [Act.put, List.getElem_toArray, List.getElem_cons_zero, List.getElem_cons_succ, List.setIfInBounds_toArray, List.set_cons_succ, List.set_cons_zero]
    refine wpAnyH_take (i := 2) (v := ?_) rfl (by kernel_rfl) (by kernel_rfl) (by kernel_rfl) (fun _ _ _ h => h) (Or.inl ⟨by rfl, ?_⟩) hHeld ?_
    rotate_left
    · intro w9 hSw; (try dsimp only at hSw); go_simp; try with_reducible rfl
    simp only [Act.put, List.getElem_toArray, List.getElem_cons_zero, List.getElem_cons_succ, List.setIfInBounds_toArray, List.set_cons_succ, List.set_cons_zero]
    refine wpAnyH_take (i := 3) (v := ?_) rfl (by kernel_rfl) (by kernel_rfl) (by kernel_rfl) (fun _ _ _ h => h) (Or.inl ⟨by rfl, ?_⟩) hHeld ?_
    rotate_left
    · intro w9 hSw; (try dsimp only at hSw); go_simp; try with_reducible rfl
    simp only [Act.put, List.getElem_toArray, List.getElem_cons_zero, List.getElem_cons_succ, List.setIfInBounds_toArray, List.set_cons_succ, List.set_cons_zero]
    refine wpAnyH_take (i := 4) (v := ?_) rfl (by kernel_rfl) (by kernel_rfl) (by kernel_rfl) (fun _ _ _ h => h) (Or.inl ⟨by rfl, ?_⟩) hHeld ?_
    rotate_left
    · intro w9 hSw; (try dsimp only at hSw); go_simp; try with_reducible rfl
    simp only [Act.put, List.getElem_toArray, List.getElem_cons_zero, List.getElem_cons_succ, List.setIfInBounds_toArray, List.set_cons_succ, List.set_cons_zero]
    refine wpAnyH_ready (rs := [5]) (by kernel_rfl) (by simp) ?_
    refine AllReadyH.cons rfl (fun K hK => ?_) AllReadyH.nil
    go_simp
    go_at_call 149
    refine hF'.mono ?_
    rintro e w1 ⟨rfl, rfl⟩
    go_wp2_with fail
    refine hK.out _ _ ⟨d0, d1, d2, d3, d4⟩ (fun hHeld => ?_)
    clear hK K
    try simp only [Act.put, List.getElem_toArray, List.getElem_cons_zero, List.getElem_cons_succ, List.setIfInBounds_toArray, List.set_cons_succ, List.set_cons_zero]
    refine wpAnyH_take (i := 6) (v := ?_) rfl (by kernel_rfl) (by kernel_rfl) (by kernel_rfl) (fun _ _ _ h => h) (Or.inl ⟨by rfl, ?_⟩) hHeld ?_
    rotate_left
    · intro w9 hSw; (try dsimp only at hSw); go_simp; try with_reducible rfl
    simp only [Act.put, List.getElem_toArray, List.getElem_cons_zero, List.getElem_cons_succ, List.setIfInBounds_toArray, List.set_cons_succ, List.set_cons_zero]
    refine wpAnyH_take (i := 7) (v := ?_) rfl (by kernel_rfl) (by kernel_rfl) (by kernel_rfl) (fun _ _ _ h => h) (Or.inl ⟨by rfl, ?_⟩) hHeld ?_
    rotate_left
    · intro w9 hSw; (try dsimp only at hSw); go_simp; try with_reducible rfl
    simp only [Act.put, List.getElem_toArray, List.getElem_cons_zero, List.getElem_cons_succ, List.setIfInBounds_toArray, List.set_cons_succ, List.set_cons_zero]
    refine wpAnyH_ready (rs := [8]) (by kernel_rfl) (by simp) ?_
    refine AllReadyH.cons rfl (fun K hK => ?_) AllReadyH.nil
    go_simp
    refine hK.out _ _ hSame.out (fun _ => ?_)
    clear hK K
    refine wpAnyH_done (by kernel_rfl) ?_ _
    clear hHeld
    go_wp2_with fail
    go_end0
    exact .inl ⟨n, hn.out, rfl, HE.out.1, HX.out.trans HE.out.2⟩
  · have hF' := hF.mono (R' := fun en w' => en = .panicked (faultC 5 c.ln) ∧ w' = w.drew) (fun en w' hh => by
      rcases hh with ⟨⟨m, hm, e1⟩ | ⟨hm, e1⟩, e2⟩
      · exact absurd ⟨m, hm⟩ hn
      · exact ⟨e1, e2⟩)
    replace hn := hide hn
    clear h hI hM hF hC hc
    go_enter Tryz.func160, Tryz.ntmps160
    go_wp2_with fail
    refine wp_region_held_drew (S := (fun w' => w'.cell? ⟨c.c0, 0, none⟩ = some (.map (some c.tb)) ∧ w'.cell? ⟨c.c1, 0, none⟩ = some (.int .u8 c.kd) ∧ w'.cell? ⟨c.c2, 0, none⟩ = some (.string (bs c.nm)) ∧ w'.cell? ⟨c.c3, 0, none⟩ = some (.int .i64 c.ln) ∧ w'.cell? ⟨c.c4, 0, none⟩ = some (.pointer (some ⟨c.ia, 0, none⟩)))) (by kernel_rfl) ⟨d0, d1, d2, d3, d4⟩ (fun hHeld => ?_)
    refine wpAnyH_take (i := 0) (v := ?_) rfl (by kernel_rfl) (by kernel_rfl) (by kernel_rfl) (fun _ _ _ h => h) (Or.inl ⟨by rfl, ?_⟩) hHeld ?_
    rotate_left
    · intro w9 hSw; (try dsimp only at hSw); go_simp; try with_reducible rfl
    simp only [Act.put, List.getElem_toArray, List.getElem_cons_zero, List.getElem_cons_succ, List.setIfInBounds_toArray, List.set_cons_succ, List.set_cons_zero]
    refine wpAnyH_take (i := 1) (v := ?_) rfl (by kernel_rfl) (by kernel_rfl) (by kernel_rfl) (fun _ _ _ h => h) (Or.inl ⟨by rfl, ?_⟩) hHeld ?_
    rotate_left
    · intro w9 hSw; (try dsimp only at hSw); go_simp; try with_reducible rfl
    simp only [Act.put, List.getElem_toArray, List.getElem_cons_zero, List.getElem_cons_succ, List.setIfInBounds_toArray, List.set_cons_succ, List.set_cons_zero]
    refine wpAnyH_take (i := 2) (v := ?_) rfl (by kernel_rfl) (by kernel_rfl) (by kernel_rfl) (fun _ _ _ h => h) (Or.inl ⟨by rfl, ?_⟩) hHeld ?_
    rotate_left
    · intro w9 hSw; (try dsimp only at hSw); go_simp; try with_reducible rfl
    simp only [Act.put, List.getElem_toArray, List.getElem_cons_zero, List.getElem_cons_succ, List.setIfInBounds_toArray, List.set_cons_succ, List.set_cons_zero]
    refine wpAnyH_take (i := 3) (v := ?_) rfl (by kernel_rfl) (by kernel_rfl) (by kernel_rfl) (fun _ _ _ h => h) (Or.inl ⟨by rfl, ?_⟩) hHeld ?_
    rotate_left
    · intro w9 hSw; (try dsimp only at hSw); go_simp; try with_reducible rfl
    simp only [Act.put, List.getElem_toArray, List.getElem_cons_zero, List.getElem_cons_succ, List.setIfInBounds_toArray, List.set_cons_succ, List.set_cons_zero]
    refine wpAnyH_take (i := 4) (v := ?_) rfl (by kernel_rfl) (by kernel_rfl) (by kernel_rfl) (fun _ _ _ h => h) (Or.inl ⟨by rfl, ?_⟩) hHeld ?_
    rotate_left
    · intro w9 hSw; (try dsimp only at hSw); go_simp; try with_reducible rfl
    simp only [Act.put, List.getElem_toArray, List.getElem_cons_zero, List.getElem_cons_succ, List.setIfInBounds_toArray, List.set_cons_succ, List.set_cons_zero]
    refine wpAnyH_ready (rs := [5]) (by kernel_rfl) (by simp) ?_
    refine AllReadyH.cons rfl (fun K hK => ?_) AllReadyH.nil
    go_simp
    go_at_call 149
    refine hF'.mono ?_
    rintro e w1 ⟨rfl, rfl⟩
    exact ⟨rfl, .inr ⟨fun n e => hn.out ⟨n, e⟩, rfl, HX.out⟩⟩
end Go.Proofs.YtlpdomgedaockaaGreatDoor
namespace Go.Proofs.YtlpdomgedaockaaGreatDoor
open Go.RowKit Go.Proofs.Cod
theorem catch_none (p : Addr) (n : Nat) (w : World) :
    CallsDIn Fence.wide n Tryz.prog 45 #[.pointer (some p)] .returning w fun e u' w' => e = .returned (.tuple #[]) ∧ u' = .returning ∧ w' = w := by
  refine callsDIn_of_wpSIn Tryz.func45 rfl trivial fun c₀ cs hu => ?_
  apply wpSIn_seq
  apply wpSIn_region
  simp only [Tryz.ntmps45, List.size_toArray, List.length_cons, List.length_nil, Nat.reduceAdd, Nat.reduceSub, Array.replicate_succ, Array.replicate_zero, List.push_toArray, List.append_toArray, List.nil_append, List.cons_append]
  generalize hQ : Exit.thenS _ _ = Q
  simp [wpOpsSIn, go_sem, recoverD, hu, List.range_succ]
  rw [← hQ]
  simp only [Exit.thenS]
  clear hQ Q
  refine wpSIn_of_wpIn rfl ?_
  gi_wp2
  refine ⟨rfl, .returning, ?_, _, results_none rfl _ _ _, rfl, rfl, rfl⟩
  cases c₀
  simp_all
theorem assert_fault (e l : Int) (u : World) : (Instr.typeAssert (.iface 63 (.agg #[.int .i64 e, .int .i64 l])) 20 63 true).run Tryz.prog u = .ok (.tuple #[.agg #[.int .i64 e, .int .i64 l], .bool true]) u := by kernel_rfl
set_option maxRecDepth 100000 in
set_option maxHeartbeats 400000 in
theorem catch_fault (pb n : Nat) (e l x y : Int) (w : World) (hc : w.heap[pb]? = some (.cells #[.int .i64 x, .int .i64 y] 63)) :
    CallsDIn Fence.wide n Tryz.prog 45 #[.pointer (some ⟨pb, 0, none⟩)] (.panicking (faultC e l)) w fun en u' w' => en = .returned (.tuple #[]) ∧ (∃ v, u' = .panicking [{ v := v, recovered := true }]) ∧ w'.heap[pb]? = some (.cells #[.int .i64 e, .int .i64 l] 63) ∧ (∀ b, b < w.heap.size → b ≠ pb → w'.heap[b]? = w.heap[b]?) ∧ w.heap.size ≤ w'.heap.size ∧ w'.os = w.os ∧ w'.tape = w.tape ∧ w'.output = w.output := by
  have c0 : w.cell? ⟨pb, 0, none⟩ = some (.int .i64 x) := by simp [World.cell?, hc]
  have c1 : w.cell? ⟨pb, 1, none⟩ = some (.int .i64 y) := by simp [World.cell?, hc]
  have f0 : w.frozen? ⟨pb, 0, none⟩ = false := by simp [World.frozen?, hc]
  have f1 : w.frozen? ⟨pb, 1, none⟩ = false := by simp [World.frozen?, hc]
  have hpl : pb < w.heap.size := (Array.getElem?_eq_some_iff.1 hc).1
  replace hc := o_hide hc
  have hta := assert_fault e l
  refine callsDIn_of_wpSIn Tryz.func45 rfl trivial fun c₀ cs hu => ?_
  apply wpSIn_seq
  apply wpSIn_region
  simp only [Tryz.ntmps45, List.size_toArray, List.length_cons, List.length_nil, Nat.reduceAdd, Nat.reduceSub, Array.replicate_succ, Array.replicate_zero, List.push_toArray, List.append_toArray, List.nil_append, List.cons_append]
  generalize hQ : Exit.thenS _ _ = Q
  unfold faultC at hu
  simp [wpOpsSIn, go_sem, recoverD, hu, List.range_succ]
  rw [← hQ]
  simp only [Exit.thenS]
  clear hQ Q
  refine wpSIn_of_wpIn rfl ?_
  gi_wp2
  refine ⟨rfl, _, rfl, _, results_none rfl _ _ _, rfl, ⟨_, rfl⟩, ?_, fun b hb hne => ?_, by simp, rfl, rfl, rfl⟩
  · rw [Below.heap_alloc _ _ pb (by simpa using hpl), heap_setCell_same _ _ 1 _ _ _ (heap_setCell_same _ _ 0 _ _ _ hc.out)]
    rfl
  · rw [Below.heap_alloc _ _ b (by simpa using hb), Below.heap_setCell _ ⟨pb, 1, none⟩ _ b hne, Below.heap_setCell _ ⟨pb, 0, none⟩ _ b hne]
end Go.Proofs.YtlpdomgedaockaaGreatDoor
namespace Go.Proofs.YtlpdomgedaockaaGreatDoor
open Go.RowKit Go.Proofs.Cod
theorem putN_putN {α : Type} (f : Nat → Option α) (a : Nat) (x y : α) : putN (putN f a x) a y = putN f a y := by
  funext z; unfold putN; split <;> rfl
theorem putN_same {α : Type} (f : Nat → Option α) (a : Nat) (x : α) : putN f a x a = some x := by simp [putN]
theorem partsT_mem {op ps : Tx} (h : partsT op = some ps) : ps.length ≤ 3 := by
  unfold partsT at h
  obtain ⟨p, hp, rfl⟩ := Option.map_eq_some_iff.1 h
  have hm := List.mem_of_find?_eq_some hp
  have : ∀ q, q ∈ shapeT → q.2.length ≤ 3 := by decide
  exact this p hm
structure InsJ (w : World) (tag : Nat → RT) (base rb nb lb : Nat) (G : RG) (lm ia : Nat) (i0 : In7) (l : List (Int × Tx)) (j : Nat) (wr : World) (tr : Nat → RT) (Gr : RG) : Prop where
  rd : RdW wr tr base rb nb lb Gr
  ext : Ext w tag wr tr
  line : Gr.line = G.line
  same : Gr.nms = G.nms ∧ Gr.V = G.V ∧ Gr.bods = G.bods ∧ Gr.bV = G.bV ∧ Gr.B = G.B ∧ Gr.N = G.N
  ins : ∃ i, Gr.I = putN G.I ia i ∧ fillAll G.N i0 l = fillAll G.N i (l.drop j)
  las : ∃ cs, Gr.las = G.las ++ cs ∧ cs.map CloC.key = (l.take j).flatMap (offOf nb lm ia G.line)
  len : Gr.las.length ≤ G.las.length + j
theorem InsJ.next {w : World} {tag : Nat → RT} {base rb nb lb : Nat} {G : RG} {lm ia : Nat} {i0 : In7} {l : List (Int × Tx)} {j : Nat} {wr : World} {tr : Nat → RT} {Gr : RG} (h : InsJ w tag base rb nb lb G lm ia i0 l j wr tr Gr) {p : Int × Tx} (hp : l[j]? = some p) {i : In7} (hi : Gr.I ia = some i)
    {w' : World} {tr' : Nat → RT} {G' : RG} (hR : RdW w' tr' base rb nb lb G') (hX : Ext wr tr w' tr') (hP : FillP nb lm ia i p.1 p.2 Gr G') : InsJ w tag base rb nb lb G lm ia i0 l (j + 1) w' tr' G' := by
  obtain ⟨hj, rfl⟩ := List.getElem?_eq_some_iff.1 hp
  obtain ⟨i2, hI, hfa⟩ := h.ins
  obtain ⟨cs, hcs, hkey⟩ := h.las
  obtain ⟨s1, s2, s3, s4, s5, s6⟩ := h.same
  have e0 : i2 = i := by rw [hI, putN_same] at hi; exact Option.some.inj hi
  subst e0
  have htake : (l.take (j + 1)).flatMap (offOf nb lm ia G.line) = (l.take j).flatMap (offOf nb lm ia G.line) ++ offOf nb lm ia G.line l[j] := by
    rw [List.take_succ_eq_append_getElem hj, List.flatMap_append]; simp
  have hdrop : l.drop j = l[j] :: l.drop (j + 1) := List.drop_eq_getElem_cons hj
  rw [hdrop] at hfa
  have set : ∀ i', fillOne G.N i2 l[j] = some i' → offOf nb lm ia G.line l[j] = [] → G' = Gr.setI ia i' → InsJ w tag base rb nb lb G lm ia i0 l (j + 1) w' tr' G' := fun i' h1 h2 h3 => by
    subst h3
    refine ⟨hR, h.ext.trans hX, h.line, ⟨s1, s2, s3, s4, s5, s6⟩, ⟨i', ?_, ?_⟩, ⟨cs, hcs, by rw [htake, h2, List.append_nil]; exact hkey⟩, by show Gr.las.length ≤ _; have := h.len; omega⟩
    · show putN Gr.I ia i' = _
      rw [hI, putN_putN]
    · rw [hfa]; conv => lhs; unfold fillAll
      rw [h1]
  have off : ∀ tb, LaterP ia tb l[j].1 l[j].2 Gr G' → fillOne G.N i2 l[j] = some i2 → offOf nb lm ia G.line l[j] = [(ia, tb, l[j].1, l[j].2, G.line)] → InsJ w tag base rb nb lb G lm ia i0 l (j + 1) w' tr' G' := fun tb h1 h2 h3 => by
    obtain ⟨c, v, c1, c2, c3, c4, c5, rfl⟩ := h1
    refine ⟨hR, h.ext.trans hX, h.line, ⟨s1, s2, s3, s4, s5, s6⟩, ⟨i2, hI, ?_⟩, ⟨cs ++ [c], ?_, ?_⟩, ?_⟩
    · rw [hfa]; conv => lhs; unfold fillAll
      rw [h2]
    · show Gr.las ++ [c] = _
      rw [hcs, List.append_assoc]
    · rw [htake, h3, List.map_append, hkey]
      simp [CloC.key, c1, c2, c3, c4, c5, h.line]
    · show (Gr.las ++ [c]).length ≤ _
      rw [List.length_append]; have := h.len; simp; omega
  rcases hP with ⟨q, e⟩ | ⟨q, e⟩ | ⟨q, e⟩ | ⟨q, e⟩ | ⟨q, e⟩ | ⟨h1, h2, h3, h4, h5, n, hn, e⟩
  · exact set _ (by simp [fillOne, q]) (by simp [offOf, q]) e
  · exact set _ (by simp [fillOne, q]) (by simp [offOf, q]) e
  · exact set _ (by simp [fillOne, q]) (by simp [offOf, q]) e
  · exact off nb (by rw [q]; exact e) (by simp [fillOne, q]) (by simp [offOf, q])
  · exact off lm (by rw [q]; exact e) (by simp [fillOne, q]) (by simp [offOf, q])
  · rw [s6] at hn
    exact set _ (by simp [fillOne, h1, h2, h3, h4, h5, hn]) (by simp [offOf, h4, h5]) e
theorem InsJ.fails {w : World} {tag : Nat → RT} {base rb nb lb : Nat} {G : RG} {lm ia : Nat} {i0 : In7} {l : List (Int × Tx)} {j : Nat} {wr : World} {tr : Nat → RT} {Gr : RG} (h : InsJ w tag base rb nb lb G lm ia i0 l j wr tr Gr) {p : Int × Tx} (hp : l[j]? = some p) {e : Int} (hE : FillE p.1 p.2 Gr e) : fillAll G.N i0 l = none ∧ e = 5 := by
  obtain ⟨hj, rfl⟩ := List.getElem?_eq_some_iff.1 hp
  obtain ⟨i2, hI, hfa⟩ := h.ins
  obtain ⟨s1, s2, s3, s4, s5, s6⟩ := h.same
  obtain ⟨h1, h2, h3, h4, h5, hn, he⟩ := hE
  rw [s6] at hn
  refine ⟨?_, he⟩
  rw [hfa, List.drop_eq_getElem_cons hj]
  unfold fillAll
  have : fillOne G.N i2 l[j] = none := by
    unfold fillOne
    rw [if_neg h1, if_neg h2, if_neg h3, if_neg h4, if_neg h5]
    cases hq : G.N l[j].2 with
    | none => rfl
    | some p =>
      obtain ⟨k, n⟩ := p
      show (if k = l[j].1 then _ else _) = _
      rw [if_neg]
      intro e'; subst e'; exact hn n hq
  rw [this]
theorem fitsT_at {ts : List Tx} {ps : Tx} (h : fitsT ts ps = true) : ts.length = ps.length ∧ ∀ i (hj : i < ps.length), fitsP (ts.getD i []) ((ps[i]'hj).toNat : Int) = true := by
  induction ts generalizing ps with
  | nil => cases ps with
    | nil => exact ⟨rfl, fun i hj => by simp at hj⟩
    | cons c ps => simp [fitsT] at h
  | cons t ts ih => cases ps with
    | nil => simp [fitsT] at h
    | cons c ps =>
      simp only [fitsT, Bool.and_eq_true] at h
      obtain ⟨h1, h2⟩ := ih h.2
      refine ⟨by simp [h1], fun i hj => ?_⟩
      cases i with
      | zero => simpa using h.1
      | succ i => simpa using h2 i (by simpa using hj)
theorem zipP_at {ts : List Tx} {ps : Tx} {i : Nat} (h : i < ts.length) (hp : i < ps.length) : (zipP ps ts)[i]? = some ((ps[i].toNat : Int), ts.getD i []) := by
  unfold zipP
  rw [List.getElem?_zip_eq_some]
  simp [h, hp]
theorem zipP_len {ts : List Tx} {ps : Tx} (h : ts.length = ps.length) : (zipP ps ts).length = ts.length := by simp [zipP, h]
def InstrP (n0 nb a : Nat) (bc : BdC) (op : Tx) (ts : List Tx) (G G' : RG) : Prop := ∃ ps, partsT op = some ps ∧ fitsT ts ps = true ∧ bc.ins.length < 24 ∧ ∃ ia i cs lV v, n0 ≤ ia ∧ fillAll G.N (newIns op) (zipP ps ts) = some i ∧ cs.map CloC.key = (zipP ps ts).flatMap (offOf nb bc.lm ia G.line) ∧
  G' = { G with I := putN G.I ia i, las := G.las ++ cs, lV := lV, B := putN G.B a { bc with ins := bc.ins ++ [ia], cv := v } }
def InstrE (bc : BdC) (op : Tx) (ts : List Tx) (G : RG) (e : Int) : Prop :=
  ((∀ ps, partsT op = some ps → fitsT ts ps = false) ∧ e = 2) ∨ ∃ ps, partsT op = some ps ∧ fitsT ts ps = true ∧ ((24 ≤ bc.ins.length ∧ e = 4) ∨ (bc.ins.length < 24 ∧ fillAll G.N (newIns op) (zipP ps ts) = none ∧ e = 5))
set_option maxRecDepth 100000 in
set_option maxHeartbeats 1000000 in
theorem instruct_any {w : World} {tag : Nat → RT} {base rb nb lb : Nat} {G : RG} (h : RdW w tag base rb nb lb G) {a : Nat} {bc : BdC} (ha : G.bods.getLast? = some a) (hb : G.bods.length < 1048576) (hbc : G.B a = some bc) (op : Tx) (sa : Option Addr) (n cap : Nat) (ts : List Tx) (hn : ts.length = n) (hs : WsT w tag sa ts) (hlen : G.las.length + n < 1048576) (hl24 : bc.ins.length ≤ 24) :
    Calls Tryz.prog 109 #[ptrV rb, .string (bs op), .slice sa n cap] w (Out w tag base rb nb lb G.line (InstrP w.heap.size nb a bc op ts G) (InstrE bc op ts G)) := by
  have hP := partsOf_any op w h.shapes
  cases hps : partsT op with
  | none =>
    rw [hps] at hP
    have HE : Hid (∀ w1, Below w.heap.size w w1 → w1.cell? ⟨rb, 0, none⟩ = some (.int .i64 G.line) ∧ Ext w tag w1 tag) := fun w1 hb1 => ⟨(h.below hb1).lineC, Ext.of_below hb1⟩
    replace hps := hide hps
    unfold ptrV
    clear h hs
    go_enter Tryz.func109, Tryz.ntmps109
    go_wp2_with fail
    refine hP.mono ?_
    rintro e w1 ⟨rfl, hb1⟩
    obtain ⟨cl, hX⟩ := HE.out w1 hb1
    go_wp2_with fail
    refine (demand_no 2 cl).mono ?_
    rintro e w2 ⟨rfl, rfl⟩
    exact ⟨rfl, .inr ⟨tag, 2, rfl, hX, .inl ⟨(fun ps e => by rw [hps.out] at e; cases e), rfl⟩⟩⟩
  | some ps =>
    rw [hps] at hP
    have hp8 : ps.length < 4294967281 := by
      have hm := partsT_mem hps
      omega
    have HF : Hid (∀ w1, Below w.heap.size w w1 → RdW w1 tag base rb nb lb G ∧ WsT w1 tag sa ts ∧ Ext w tag w1 tag ∧ Calls Tryz.prog 131 #[.slice sa n cap, .string (bs ps)] w1 fun e w' => e = .returned (.bool (fitsT ts ps)) ∧ w' = w1) := fun w1 hb1 => ⟨h.below hb1, hs.ext (.of_below hb1), .of_below hb1, fits_any sa n cap ts ps w1 hn (hs.ext (.of_below (t := tag) hb1)).ws (by omega) hp8⟩
    replace hps := hide hps
    have hsO := hide hs
    unfold ptrV
    clear h hs
    go_enter Tryz.func109, Tryz.ntmps109
    go_wp2_with fail
    refine hP.mono ?_
    rintro e w1 ⟨rfl, hb1⟩
    obtain ⟨h1, hs1, hx1, hF⟩ := HF.out w1 hb1
    clear HF
    have cl := h1.lineC
    replace h1 := hide h1
    replace hs1 := hide hs1
    replace hx1 := hide hx1
    cases hfit : fitsT ts ps with
    | false =>
      rw [hfit] at hF
      go_wp2_with fail
      refine hF.mono ?_
      rintro e w2 ⟨rfl, rfl⟩
      go_wp2_with fail
      refine (demand_no 2 cl).mono ?_
      rintro e w3 ⟨rfl, rfl⟩
      exact ⟨rfl, .inr ⟨tag, 2, rfl, hx1.out, .inl ⟨(fun ps' e => by rw [hps.out] at e; cases e; exact hfit), rfl⟩⟩⟩
    | true =>
      rw [hfit] at hF
      have hC := current_any h1.out ha (by omega)
      have HC : Hid (∀ w2, Below w1.heap.size w1 w2 → RdW w2 tag base rb nb lb G ∧ WsT w2 tag sa ts ∧ Ext w tag w2 tag ∧ w1.heap.size ≤ w2.heap.size) := fun w2 hb2 => ⟨h1.out.below hb2, hs1.out.ext (.of_below hb2), hx1.out.trans (.of_below hb2), hb2.size⟩
      have hz1 : Hid (w.heap.size ≤ w1.heap.size) := hb1.size
      unfold ptrV at hC
      replace hfit := hide hfit
      clear hb1
      go_wp2_with fail
      refine hF.mono ?_
      rintro e w2 ⟨rfl, rfl⟩
      go_wp2_with fail
      refine (demand_yes rb 2 _).mono ?_
      rintro e w3 ⟨rfl, rfl⟩
      go_wp2_with fail
      refine hC.mono ?_
      rintro e w4 ⟨rfl, hb4⟩
      obtain ⟨h4, hs4, hx4, hz4⟩ := HC.out w4 hb4
      clear HC hC cl hb4
      have cl := h4.lineC
      have hB := h4.bodies a bc hbc
      have c0 : w4.cell? ⟨a, 0, none⟩ = some bc.cv := by simp [World.cell?, hB.cell]
      obtain ⟨ca, ccap, hcv⟩ := row_len hB.code
      rw [hcv] at c0
      replace hcv := hide hcv
      replace hz4 := hide hz4
      by_cases h24 : bc.ins.length < 24
      · have h24' : (bc.ins.length : Int) < 24 := by omega
        obtain ⟨hlp, hfp⟩ := fitsT_at hfit.out
        have hzn : (bs ps).size = n := by rw [bs_size, ← hlp, hn]
        obtain ⟨hN1, hN2⟩ := h4.newI (newIns op)
        have hJ0 : Hid (InsJ w tag base rb nb lb G bc.lm w4.heap.size (newIns op) (zipP ps ts) 0 (w4.alloc (.cells (insC (newIns op)) 92)) (tagAt tag w4.heap.size .ins) (G.setI w4.heap.size (newIns op))) := ⟨hN1, hx4.trans hN2, rfl, ⟨rfl, rfl, rfl, rfl, rfl, rfl⟩, ⟨newIns op, rfl, by simp⟩, ⟨[], by show G.las = _; simp, by simp⟩, by show G.las.length ≤ _; omega⟩
        have hsJ := hide hs4
        replace hlp := hide hlp
        replace hfp := hide hfp
        replace hn := hide hn
        have hxx := hide hx4
        clear hN1 hN2 hB h4 hs4 hx4
        go_wp2_with fail
        refine (demand_yes rb 4 _).mono ?_
        rintro e w5 ⟨rfl, rfl⟩
        go_wp2_with fail
        go_loopw [40] (fun iv wr => ∃ (j : Nat) (tr : Nat → RT) (Gr : RG), j ≤ n ∧ iv = .int .i64 j ∧ InsJ w tag base rb nb lb G bc.lm w5.heap.size (newIns op) (zipP ps ts) j wr tr Gr) (fun iv _ => n - (intOf iv).toNat)
        case atStart => exact ⟨0, _, _, Nat.zero_le _, rfl, hJ0.out⟩
        case round =>
          clear cl c0 hJ0 hF hP
          obtain ⟨j, tr, Gr, hj, rfl, hJ⟩ := hrel
          obtain ⟨i, hI, hfa⟩ := hJ.ins
          have hIi : Gr.I w5.heap.size = some i := by rw [hI, putN_same]
          have hr := hJ.rd
          have hla : Gr.bods.getLast? = some a := by rw [hJ.same.2.2.1]; exact ha
          have hbl : Gr.bods.length < 1048576 := by rw [hJ.same.2.2.1]; exact hb
          have hBa : Gr.B a = some bc := by rw [hJ.same.2.2.2.2.1]; exact hbc
          by_cases h5 : j < n
          · have hjt : j < ts.length := by have := hn.out; omega
            have hjp : j < ps.length := by have := hlp.out; omega
            obtain ⟨b, off, rfl, _, cw, _⟩ := (hsO.out.ext hJ.ext) j hjt
            have hlt : (j : Int) < (n : Int) := by omega
            have hg := bs_get ps j (by omega)
            have hz := zipP_at hjt hjp
            have hFill := fill_any hr hla hbl hBa hIi (by have := hJ.len; omega) (ps[j].toNat : Int) (ts.getD j []) (hfp.out j hjp)
            rw [hJ.line] at hFill
            have HE := hide (⟨hJ, hz, hIi⟩ : _ ∧ _ ∧ _)
            clear hr hI hfa hIi hJ hla hbl hBa hz
            generalize ts.getD j [] = t at *
            generalize hce : ps[j] = c at *
            replace hce := hide hce
            unfold ptrV at hFill
            clear hjt
            go_wp2_with fail
            refine hFill.mono ?_
            rintro e w6 (⟨t6, G6, rfl, hR6, hX6, hP6⟩ | ⟨t6, e6, rfl, hX6, hE6⟩)
            · go_wp2_with fail
              go_roundw
              case rel =>
                obtain ⟨hJ, hz, hIi⟩ := HE.out
                exact ⟨j + 1, t6, G6, by omega, by go_num, hJ.next hz hIi hR6 hX6 hP6⟩
              case measure => simp [intOf]; omega
            · obtain ⟨hJ, hz, hIi⟩ := HE.out
              obtain ⟨q1, q2⟩ := hJ.fails hz hE6
              subst q2
              exact ⟨rfl, .inr ⟨t6, 5, rfl, hJ.ext.trans hX6, .inr ⟨ps, hps.out, hfit.out, .inr ⟨h24, q1, rfl⟩⟩⟩⟩
          · have hall : Hid (fillAll G.N (newIns op) (zipP ps ts) = some i) := by
              rw [List.drop_of_length_le (by rw [zipP_len hlp.out]; have := hn.out; omega)] at hfa
              exact hfa
            obtain ⟨g, cap', w6, hrun, c6, f6, tag6, hR6, hX6⟩ := hr.code hBa (by omega) w5.heap.size
            have hB := hr.bodies a bc hBa
            have c0 : wr.cell? ⟨a, 0, none⟩ = some bc.cv := by simp [World.cell?, hB.cell]
            rw [hcv.out] at c0 hrun c6
            unfold ptrV at hrun
            have HE := hide (⟨hJ, hR6, hX6, hI⟩ : _ ∧ _ ∧ _ ∧ _)
            have hal := hr.lt hB.ta (by simp)
            have hjn : j = n := by omega
            subst hjn
            clear hr hR6 hX6 hI hfa hIi hJ hla hbl hBa hB
            go_wp2_with (at_builtin; refine wpList_append_run rfl _ _ _ rfl rfl rfl rfl hrun ?_)
            go_end0
            obtain ⟨hJ, hR6, hX6, hI⟩ := HE.out
            obtain ⟨cs, hcs, hkey⟩ := hJ.las
            obtain ⟨s1, s2, s3, s4, s5, s6⟩ := hJ.same
            refine .inl ⟨tag6, _, rfl, hR6, hJ.ext.trans hX6, ps, hps.out, hfit.out, h24, w5.heap.size, i, cs, Gr.lV, .slice (some ⟨g, 0, none⟩) (bc.ins.length + 1) cap', by have := hz1.out; have := hz4.out; omega, hall.out, ?_, ?_⟩
            · rw [hkey, List.take_of_length_le (by rw [zipP_len hlp.out]; have := hn.out; omega)]
            · have hl := hJ.line
              cases Gr
              simp only at hI hcs s1 s2 s3 s4 s5 s6 hl
              subst hI hcs s1 s2 s3 s4 s5 s6 hl
              rfl
      · have h24' : decide ((bc.ins.length : Int) < 24) = false := decide_eq_false (by omega)
        replace hx4 := hide hx4
        clear hB h4 hs4
        go_wp2_with fail
        refine (demand_no 4 cl).mono ?_
        rintro e w5 ⟨rfl, rfl⟩
        exact ⟨rfl, .inr ⟨tag, 4, rfl, hx4.out, .inr ⟨ps, hps.out, hfit.out, .inl ⟨by omega, rfl⟩⟩⟩⟩
end Go.Proofs.YtlpdomgedaockaaGreatDoor
namespace Go.Proofs.YtlpdomgedaockaaGreatDoor
open Go.RowKit Go.Proofs.Cod
def colonT (t : Tx) : Bool := decide (t.getLast? = some 58)
theorem colon_drop {t : Tx} (h : 1 ≤ t.length) : ((bs (t.drop (t.length - 1))).toList == (bs [58]).toList) = colonT t := by
  rcases List.eq_nil_or_concat t with e | ⟨l, x, e⟩
  · subst e; simp at h
  · rw [List.concat_eq_append] at e
    subst e
    rw [bs_toList, bs_toList, colonT]
    have e1 : (l ++ [x]).drop ((l ++ [x]).length - 1) = [x] := by simp
    rw [e1, List.getLast?_append]
    by_cases hx : x = 58 <;> simp [hx]
set_option maxRecDepth 100000 in
set_option maxHeartbeats 400000 in
theorem hasSuffix_any (t : Tx) (w : World) (hlen : t.length < 4294967281) : Calls Tryz.prog 141 #[.string (bs t), .string (bs [58])] w fun e w' => e = .returned (.bool (colonT t)) ∧ w' = w := by
  have hz1 : (bs [58]).size = 1 := bs_size [58]
  by_cases h0 : 1 ≤ t.length
  · obtain ⟨n, hn⟩ : ∃ n, t.length = n + 1 := ⟨t.length - 1, by omega⟩
    have hc := colon_drop h0
    have hz : (bs t).size = n + 1 := by rw [bs_size, hn]
    have hx : (bs t).extract n (n + 1) = bs (t.drop (t.length - 1)) := by
      rw [bs_extract, List.take_of_length_le (by omega)]; congr 2; omega
    generalize bs (t.drop (t.length - 1)) = u at hx hc
    generalize colonT t = q at hc ⊢
    generalize bs t = bt at hz hx ⊢
    generalize bs [58] = b58 at hz1 hc ⊢
    have d5 : wrap64 (n : Int) = n := IntWalk.wrap64_in _ (by omega)
    clear h0 hlen
    have d1 : (1 : Int) ≤ (n : Int) + 1 := by omega
    have d2 : (n : Int) + 1 - 1 = n := by omega
    have d4 : (n : Int) ≤ (n : Int) + 1 := by omega
    clear hn d2
    go_enter Tryz.func141, Tryz.ntmps141
    go_wp2
    go_ret
    exact ⟨rfl, rfl⟩
  · have h1 : t = [] := by cases t with
      | nil => rfl
      | cons c r => simp at h0
    subst h1
    have hb : bs [] = ByteArray.empty := rfl
    have hq : colonT [] = false := rfl
    rw [hb, hq]
    generalize bs [58] = b58 at hz1 ⊢
    clear h0 hlen
    go_enter Tryz.func141, Tryz.ntmps141
    go_wp2
    go_ret
    exact ⟨rfl, rfl⟩
set_option maxRecDepth 100000 in
set_option maxHeartbeats 400000 in
theorem cutSuffix_any (t : Tx) (w : World) (hlen : t.length < 4294967281) : Calls Tryz.prog 125 #[.string (bs t), .string (bs [58])] w fun e w' => e = .returned (.tuple #[.string (bs (if colonT t then t.dropLast else t)), .bool (colonT t)]) ∧ w' = w := by
  have hH := hasSuffix_any t w hlen
  have hz1 : (bs [58]).size = 1 := bs_size [58]
  cases hc : colonT t with
  | false =>
    rw [hc] at hH
    go_enter Tryz.func125, Tryz.ntmps125
    go_wp2_with fail
    refine hH.mono ?_
    rintro e w1 ⟨rfl, rfl⟩
    go_wp2_with fail
    go_ret2
    exact ⟨rfl, rfl⟩
  | true =>
    rw [hc] at hH
    have h0 : t ≠ [] := by (intro e; subst e; simp [colonT] at hc)
    obtain ⟨n, hn⟩ : ∃ n, t.length = n + 1 := ⟨t.length - 1, by have := List.length_pos_iff.2 h0; omega⟩
    have hz : (bs t).size = n + 1 := by rw [bs_size, hn]
    have hx : (bs t).extract 0 n = bs t.dropLast := by
      rw [bs_extract, List.dropLast_eq_take]; congr 2; simp [hn]
    simp only [if_true]
    generalize bs t.dropLast = u at hx ⊢
    generalize bs t = bt at hz hx hH ⊢
    generalize bs [58] = b58 at hz1 hH ⊢
    have d2 : (n : Int) + 1 - 1 = n := by omega
    have d5 : wrap64 (n : Int) = n := IntWalk.wrap64_in _ (by omega)
    have d4 : (n : Int) ≤ (n : Int) + 1 := by omega
    clear hn h0 hlen hc d2
    go_enter Tryz.func125, Tryz.ntmps125
    go_wp2_with fail
    refine hH.mono ?_
    rintro e w1 ⟨rfl, rfl⟩
    go_wp2_with fail
    go_ret2
    exact ⟨rfl, rfl⟩
set_option maxHeartbeats 400000 in
theorem cutColon_any (t : Tx) (w : World) (hlen : t.length < 4294967281) : Calls Tryz.prog 104 #[.string (bs t), .string (bs [58])] w fun e w' => e = .returned (.tuple #[.string (bs (if colonT t then t.dropLast else t)), .bool (colonT t)]) ∧ w' = w := by
  have hH := cutSuffix_any t w hlen
  generalize bs (if colonT t then t.dropLast else t) = u at hH ⊢
  generalize colonT t = q at hH ⊢
  go_enter Tryz.func104, Tryz.ntmps104
  go_wp2_with fail
  refine hH.mono ?_
  rintro e w1 ⟨rfl, rfl⟩
  go_wp2_with fail
  go_ret2
  exact ⟨rfl, rfl⟩
end Go.Proofs.YtlpdomgedaockaaGreatDoor
