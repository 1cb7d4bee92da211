import Derived.Test.YtlpdomgedaockaaGreatDoorOl11
set_option linter.unusedVariables false
set_option linter.unusedSimpArgs false
namespace Go.Proofs.YtlpdomgedaockaaGreatDoor
open Go.RowKit Go.Proofs.Cod
def tThread : Tx := [116, 104, 114, 101, 97, 100]
def TakeP (n0 nb : Nat) (f : Tx) (ts : List Tx) (G G' : RG) : Prop :=
  (f = tThread ∧ BeginP n0 ts G G') ∨ (f ≠ tThread ∧ G.bods = [] ∧ DeclP (headK f) ts G G') ∨
  (f ≠ tThread ∧ ∃ a bc, G.bods.getLast? = some a ∧ G.B a = some bc ∧ ((colonT f = true ∧ ts = [] ∧ isNam f.dropLast = true ∧ bc.labs f.dropLast = none ∧ G' = G.mark a bc f.dropLast) ∨ (¬ (colonT f = true ∧ ts = []) ∧ InstrP n0 nb a bc f ts G G')))
def TakeE (f : Tx) (ts : List Tx) (G : RG) (e : Int) : Prop :=
  (f = tThread ∧ BeginE ts G e) ∨ (f ≠ tThread ∧ G.bods = [] ∧ DeclE (headK f) ts G e) ∨
  (f ≠ tThread ∧ ∃ a bc, G.bods.getLast? = some a ∧ G.B a = some bc ∧ ((colonT f = true ∧ ts = [] ∧ ((isNam f.dropLast = false ∧ e = 2) ∨ (isNam f.dropLast = true ∧ (∃ n, bc.labs f.dropLast = some n) ∧ e = 3))) ∨ (¬ (colonT f = true ∧ ts = []) ∧ InstrE bc f ts G e)))
theorem headK_ok (t : Tx) : headK t = 0 ∨ isK (headK t) := by
  unfold headK isK
  by_cases h1 : tVar = t
  · simp [h1]
  · by_cases h2 : tFlag = t
    · simp [h1, h2]
    · by_cases h3 : tLock = t
      · simp [h1, h2, h3]
      · simp [h1, h2, h3]
theorem thr_lit : (bs tThread).toList = [116, 104, 114, 101, 97, 100] := bs_toList _
set_option maxRecDepth 100000 in
set_option maxHeartbeats 1000000 in
theorem take_any {w : World} {tag : Nat → RT} {base rb nb lb : Nat} {G : RG} (h : RdW w tag base rb nb lb G) (hla : G.bods = [] ∨ ∃ a bc, G.bods.getLast? = some a ∧ G.B a = some bc ∧ bc.ins.length ≤ 24) (f : Tx) (sa : Option Addr) (n cap : Nat) (ts : List Tx) (hn : ts.length = n) (hs : WsT w tag sa ts)
    (hf : f.length < 4294967281) (hb1 : ∀ k, (G.nms k).length + n < 1048576) (hb2 : G.bods.length < 1048576) (hb3 : G.las.length + n < 1048576) :
    Calls Tryz.prog 48 #[ptrV rb, .string (bs f), .slice sa n cap] w (Out w tag base rb nb lb G.line (TakeP w.heap.size nb f ts G) (TakeE f ts G)) := by
  have hC := cutColon_any f w hf
  have hcmp : ((bs f).toList == [116, 104, 114, 101, 97, 100]) = decide (f = tThread) := by
    rw [bs_toList]
    by_cases e : f = tThread
    · subst e; rfl
    · rw [decide_eq_false e]
      exact beq_eq_false_iff_ne.2 e
  by_cases h1 : f = tThread
  · have hF1 := begin_any h sa n cap ts hn hs (hb1 116) hb2
    rw [decide_eq_true h1] at hcmp
    replace h1 := hide h1
    generalize bs (if colonT f then f.dropLast else f) = nm at hC
    generalize colonT f = col at hC
    unfold ptrV at hF1 ⊢
    clear h hs hb1 hb2 hb3 hn hla
    go_enter Tryz.func48, Tryz.ntmps48
    go_wp2_with fail
    refine hC.mono ?_
    rintro e w1 ⟨rfl, rfl⟩
    go_wp2_with fail
    refine hF1.mono ?_
    rintro e w6 (⟨t6, G6, rfl, hR6, hX6, hP6⟩ | ⟨t6, e6, rfl, hX6, hE6⟩)
    · go_wp2_with fail
      go_end0
      exact .inl ⟨t6, G6, rfl, hR6, hX6, .inl ⟨h1.out, hP6⟩⟩
    · exact ⟨rfl, .inr ⟨t6, e6, rfl, hX6, .inl ⟨h1.out, hE6⟩⟩⟩
  · rw [decide_eq_false h1] at hcmp
    replace h1 := hide h1
    have c6 := h.bodC
    obtain ⟨ba, bcap, hV⟩ := row_ptr h.brow
    rw [List.length_map] at hV
    rw [hV] at c6
    rcases hla with h0 | ⟨a, bc, ha, hbc, h24⟩
    · have hH := headingKind_any f w h.heads
      have HD : Hid (∀ w1, Below w.heap.size w w1 → Calls Tryz.prog 106 #[ptrV rb, .int .u8 (headK f), .slice sa n cap] w1 (Out w tag base rb nb lb G.line (DeclP (headK f) ts G) (DeclE (headK f) ts G))) := fun w1 hb => by
        refine (declare_any (h.below hb) (headK f) (headK_ok f) sa n cap ts hn (hs.ext (.of_below hb)) (hb1 _)).mono ?_
        rintro e w6 (⟨t6, G6, rfl, hR6, hX6, hP6⟩ | ⟨t6, e6, rfl, hX6, hE6⟩)
        · exact .inl ⟨t6, G6, rfl, hR6, (Ext.of_below hb).trans hX6, hP6⟩
        · exact .inr ⟨t6, e6, rfl, (Ext.of_below hb).trans hX6, hE6⟩
      rw [h0] at c6
      have c6 : w.cell? ⟨rb, 6, none⟩ = some (.slice ba 0 bcap) := c6
      generalize bs (if colonT f then f.dropLast else f) = nm at hC
      generalize colonT f = col at hC
      unfold ptrV at HD ⊢
      replace h0 := hide h0
      replace hV := hide hV
      clear h hs hb1 hb2 hb3 hn
      go_enter Tryz.func48, Tryz.ntmps48
      go_wp2_with fail
      refine hC.mono ?_
      rintro e w1 ⟨rfl, rfl⟩
      go_wp2_with fail
      refine hH.mono ?_
      rintro e w2 ⟨rfl, hb2⟩
      have hD := HD.out w2 hb2
      clear HD
      go_wp2_with fail
      refine hD.mono ?_
      rintro e w6 (⟨t6, G6, rfl, hR6, hX6, hP6⟩ | ⟨t6, e6, rfl, hX6, hE6⟩)
      · go_wp2_with fail
        go_end0
        exact .inl ⟨t6, G6, rfl, hR6, hX6, .inr (.inl ⟨h1.out, h0.out, hP6⟩)⟩
      · exact ⟨rfl, .inr ⟨t6, e6, rfl, hX6, .inr (.inl ⟨h1.out, h0.out, hE6⟩)⟩⟩
    · have hne : ((G.bods.length : Int) == 0) = false := by
        have : G.bods ≠ [] := fun e => by rw [e] at ha; cases ha
        have := List.length_pos_iff.2 this
        simp; intro e; rw [e] at this; simp at this
      replace hV := hide hV
      by_cases hm : colonT f = true ∧ n = 0
      · obtain ⟨m1, m2⟩ := hm
        have hM := mark_any h ha (by omega) hbc f.dropLast
        rw [m1] at hC
        simp only [if_true] at hC
        have ht : Hid (ts = []) := List.eq_nil_of_length_eq_zero (by omega)
        subst m2
        replace m1 := hide m1
        replace ha := hide ha
        replace hbc := hide hbc
        unfold ptrV at hM ⊢
        clear h hs hb1 hb2 hb3 hn
        go_enter Tryz.func48, Tryz.ntmps48
        go_wp2_with fail
        refine hC.mono ?_
        rintro e w1 ⟨rfl, rfl⟩
        go_wp2_with fail
        refine hM.mono ?_
        rintro e w6 (⟨t6, G6, rfl, hR6, hX6, hP6⟩ | ⟨t6, e6, rfl, hX6, hE6⟩)
        · go_wp2_with fail
          go_end0
          exact .inl ⟨t6, G6, rfl, hR6, hX6, .inr (.inr ⟨h1.out, a, bc, ha.out, hbc.out, .inl ⟨m1.out, ht.out, hP6⟩⟩)⟩
        · exact ⟨rfl, .inr ⟨t6, e6, rfl, hX6, .inr (.inr ⟨h1.out, a, bc, ha.out, hbc.out, .inl ⟨m1.out, ht.out, hE6⟩⟩)⟩⟩
      · have hI := instruct_any h ha hb2 hbc f sa n cap ts hn hs hb3 h24
        have hm' : Hid (¬ (colonT f = true ∧ ts = [])) := fun e => hm ⟨e.1, by rw [← hn, e.2]; rfl⟩
        replace ha := hide ha
        replace hbc := hide hbc
        unfold ptrV at hI ⊢
        generalize bs (if colonT f then f.dropLast else f) = nm at hC
        cases hc : colonT f with
        | false =>
          rw [hc] at hC
          replace hc := hide hc
          clear h hs hb1 hb2 hb3 hn hm
          go_enter Tryz.func48, Tryz.ntmps48
          go_wp2_with fail
          refine hC.mono ?_
          rintro e w1 ⟨rfl, rfl⟩
          go_wp2_with fail
          refine hI.mono ?_
          rintro e w6 (⟨t6, G6, rfl, hR6, hX6, hP6⟩ | ⟨t6, e6, rfl, hX6, hE6⟩)
          · go_wp2_with fail
            go_end0
            exact .inl ⟨t6, G6, rfl, hR6, hX6, .inr (.inr ⟨h1.out, a, bc, ha.out, hbc.out, .inr ⟨hm'.out, hP6⟩⟩)⟩
          · exact ⟨rfl, .inr ⟨t6, e6, rfl, hX6, .inr (.inr ⟨h1.out, a, bc, ha.out, hbc.out, .inr ⟨hm'.out, hE6⟩⟩)⟩⟩
        | true =>
          rw [hc] at hC
          have hn0 : ((n : Int) == 0) = false := by
            have : ¬ (n = 0) := fun e => hm ⟨hc, e⟩
            simp; omega
          replace hc := hide hc
          clear h hs hb1 hb2 hb3 hn hm
          go_enter Tryz.func48, Tryz.ntmps48
          go_wp2_with fail
          refine hC.mono ?_
          rintro e w1 ⟨rfl, rfl⟩
          go_wp2_with fail
          refine hI.mono ?_
          rintro e w6 (⟨t6, G6, rfl, hR6, hX6, hP6⟩ | ⟨t6, e6, rfl, hX6, hE6⟩)
          · go_wp2_with fail
            go_end0
            exact .inl ⟨t6, G6, rfl, hR6, hX6, .inr (.inr ⟨h1.out, a, bc, ha.out, hbc.out, .inr ⟨hm'.out, hP6⟩⟩)⟩
          · exact ⟨rfl, .inr ⟨t6, e6, rfl, hX6, .inr (.inr ⟨h1.out, a, bc, ha.out, hbc.out, .inr ⟨hm'.out, hE6⟩⟩)⟩⟩
end Go.Proofs.YtlpdomgedaockaaGreatDoor
namespace Go.Proofs.YtlpdomgedaockaaGreatDoor
open Go.RowKit Go.Proofs.Cod
def okW (r : Result Unit) (W : World) : World := match r with
  | .ok _ w' => w'
  | _ => W
noncomputable def stepM (b rb : Nat) (p : Int × Nat) (W : World) : World := okW ((Instr.mapUpdate 67 (.map (some b)) (.int .u8 p.1) (.pointer (some ⟨rb, p.2, none⟩))).run Tryz.prog W) W
noncomputable def updM (b rb : Nat) (W0 : World) (L : List (Int × Nat)) : World := L.foldr (stepM b rb) W0
theorem updM_cons (b rb : Nat) (W0 : World) (p : Int × Nat) (L : List (Int × Nat)) {w' : World} (h : (Instr.mapUpdate 67 (.map (some b)) (.int .u8 p.1) (.pointer (some ⟨rb, p.2, none⟩))).run Tryz.prog (updM b rb W0 L) = .ok () w') : updM b rb W0 (p :: L) = w' := by
  have e : updM b rb W0 (p :: L) = stepM b rb p (updM b rb W0 L) := List.foldr_cons ..
  rw [e, stepM, h, okW]
theorem updM_nil (b rb : Nat) (W0 : World) : updM b rb W0 [] = W0 := List.foldr_nil
attribute [irreducible] updM
def updF (rb : Nat) : List (Int × Nat) → Int → Option Value
  | [] => fun _ => none
  | p :: L => putK (updF rb L) p.1 (.pointer (some ⟨rb, p.2, none⟩))
theorem updM_ok {b rb : Nat} {W0 : World} (h : KMap uk W0 b (fun _ => none) 0) (L : List (Int × Nat)) : (∃ n, KMap uk (updM b rb W0 L) b (updF rb L) n) ∧ (updM b rb W0 L).heap.size = W0.heap.size ∧ (updM b rb W0 L).os = W0.os ∧ (updM b rb W0 L).tape = W0.tape ∧ (updM b rb W0 L).output = W0.output ∧ (∀ x, x ≠ b → (updM b rb W0 L).heap[x]? = W0.heap[x]?) := by
  induction L with
  | nil => rw [updM_nil]; exact ⟨⟨0, h⟩, rfl, rfl, rfl, rfl, fun _ _ => rfl⟩
  | cons p L ih =>
    obtain ⟨⟨n, hK⟩, hz, ho, ht, hp, hk⟩ := ih
    obtain ⟨w', hrun, hM, hg, hz'⟩ := hK.put Tryz.u8Key Tryz.underlying67 p.1 (.pointer (some ⟨rb, p.2, none⟩))
    have e : updM b rb W0 (p :: L) = w' := updM_cons b rb W0 p L hrun
    rw [e]
    refine ⟨⟨_, hM⟩, by omega, hg.os.trans ho, hg.tape.trans ht, hg.output.trans hp, fun x hx => ?_⟩
    by_cases hl : x < (updM b rb W0 L).heap.size
    · exact (hg.block x hl (by simpa using hx)).trans (hk x hx)
    · rw [← hk x hx, Array.getElem?_eq_none (by omega), Array.getElem?_eq_none (by omega)]
theorem updM_run {b rb : Nat} {W0 : World} (h : KMap uk W0 b (fun _ => none) 0) (L : List (Int × Nat)) (k : Int) (o : Nat) : (Instr.mapUpdate 67 (.map (some b)) (.int .u8 k) (.pointer (some ⟨rb, o, none⟩))).run Tryz.prog (updM b rb W0 L) = .ok () (updM b rb W0 ((k, o) :: L)) := by
  obtain ⟨⟨n, hK⟩, _⟩ := updM_ok (rb := rb) h L
  obtain ⟨w', hrun, hM, hg, hz'⟩ := hK.put Tryz.u8Key Tryz.underlying67 k (.pointer (some ⟨rb, o, none⟩))
  have hrun' : (Instr.mapUpdate 67 (.map (some b)) (.int .u8 k) (.pointer (some ⟨rb, o, none⟩))).run Tryz.prog (updM b rb W0 L) = .ok () w' := hrun
  have e : updM b rb W0 ((k, o) :: L) = w' := updM_cons b rb W0 (k, o) L hrun'
  rw [e]; exact hrun'
def RG.new : RG := ⟨0, fun _ => [], fun _ => .slice none 0 0, [], .slice none 0 0, fun _ => none, fun _ => none, fun _ => none, [], .slice none 0 0⟩
theorem new_reader {w w' : World} (hh : Heads w) (hs : Shapes w) (h1 : 1 < w.heap.size) (h2 : 2 < w.heap.size) (ho : w'.os = w.os) (ht : w'.tape = w.tape) (hp : w'.output = w.output) (hz : w'.heap.size = w.heap.size + 3) (hk : ∀ b, b < w.heap.size → w'.heap[b]? = w.heap[b]?)
    (hn : KMap sk w' w.heap.size (fun _ => none) 0) (hr : w'.heap[w.heap.size + 1]? = some (.cells #[.int .i64 0, .slice none 0 0, .slice none 0 0, .slice none 0 0, .slice none 0 0, .slice none 0 0, .slice none 0 0, .map (some w.heap.size), .map (some (w.heap.size + 1 + 1)), .slice none 0 0] 70))
    (hl : ∃ n, KMap uk w' (w.heap.size + 1 + 1) (listF (w.heap.size + 1)) n) : ∃ tag, RdW w' tag w.heap.size (w.heap.size + 1) w.heap.size (w.heap.size + 1 + 1) RG.new ∧ Ext w (fun _ => .o) w' tag := by
  refine ⟨tagAt (tagAt (tagAt (fun _ => .o) w.heap.size .nm) (w.heap.size + 1) .rd) (w.heap.size + 1 + 1) .li, ⟨hr, fun k hk => ⟨World.ownsRow_nil _ _ _ _, fun g e => by cases e⟩, ⟨World.ownsRow_nil _ _ _ _, fun g e => by cases e⟩, ⟨World.ownsRow_nil _ _ _ _, fun g e => by cases e⟩, ⟨_, _, hn, fun t => rfl⟩, hl, (fun a c hc => by cases hc), (fun a i hi => by cases hi), (fun c hc => by cases hc), ?_, ?_, ?_, fun b hb => ?_, hh.kept (hk _ h1), hs.kept (hk _ h2), h1, h2, by omega⟩, ⟨ho, ht, hp, by omega, fun b hb => ?_, fun b hb _ => hk b hb⟩⟩
  · rw [tagAt_old _ (by omega), tagAt_new]
  · rw [tagAt_old _ (by omega), tagAt_old _ (by omega), tagAt_new]
  · rw [tagAt_new]
  · unfold tagAt at hb
    split at hb
    · omega
    · split at hb
      · omega
      · split at hb
        · omega
        · exact absurd rfl hb
  · rw [tagAt_old _ (by omega), tagAt_old _ (by omega), tagAt_old _ (by omega)]
theorem updF_mem {rb : Nat} {k : Int} {o : Nat} : ∀ {L : List (Int × Nat)}, (L.map Prod.fst).Nodup → (k, o) ∈ L → updF rb L k = some (.pointer (some ⟨rb, o, none⟩))
  | [], _, hm => by cases hm
  | p :: L, hn, hm => by
    simp only [List.map_cons, List.nodup_cons] at hn
    rcases List.mem_cons.1 hm with e | e
    · subst e; exact putK_same _ _ _
    · have hne : k ≠ p.1 := fun e' => hn.1 (List.mem_map.2 ⟨(k, o), e, e'⟩)
      exact (putK_other _ hne).trans (updF_mem hn.2 e)
theorem updF_none {rb : Nat} {k : Int} : ∀ {L : List (Int × Nat)}, (∀ p, p ∈ L → p.1 ≠ k) → updF rb L k = none
  | [], _ => rfl
  | p :: L, h => (putK_other _ (fun e => h p (by simp) e.symm)).trans (updF_none fun q hq => h q (by simp [hq]))
theorem listF_perm {rb : Nat} {L : List (Int × Nat)} (h : L.Perm [(118, 1), (102, 2), (109, 3), (116, 5)]) : updF rb L = listF rb := by
  have hn : (L.map Prod.fst).Nodup := (h.map Prod.fst).nodup_iff.2 (by decide)
  have hm : ∀ p, p ∈ L ↔ p ∈ [((118 : Int), 1), (102, 2), (109, 3), (116, 5)] := fun p => h.mem_iff
  funext k
  by_cases h1 : k = 118
  · subst h1; rw [updF_mem hn ((hm (118, 1)).2 (by simp))]; simp [listF, offK]
  · by_cases h2 : k = 102
    · subst h2; rw [updF_mem hn ((hm (102, 2)).2 (by simp))]; simp [listF, offK]
    · by_cases h3 : k = 109
      · subst h3; rw [updF_mem hn ((hm (109, 3)).2 (by simp))]; simp [listF, offK]
      · by_cases h4 : k = 116
        · subst h4; rw [updF_mem hn ((hm (116, 5)).2 (by simp))]; simp [listF, offK]
        · rw [updF_none]
          · simp [listF, h1, h2, h3, h4]
          · intro p hp
            have := (hm p).1 hp
            simp at this
            rcases this with rfl | rfl | rfl | rfl
            · exact fun e => h1 e.symm
            · exact fun e => h2 e.symm
            · exact fun e => h3 e.symm
            · exact fun e => h4 e.symm
set_option maxRecDepth 100000 in
set_option maxHeartbeats 2000000 in
theorem newReader_any (w : World) (hh : Heads w) (hs : Shapes w) (h1 : 1 < w.heap.size) (h2 : 2 < w.heap.size) :
    Calls Tryz.prog 21 #[] w fun en w' => en = .returned (ptrV (w.heap.size + 1)) ∧ ∃ tag, RdW w' tag w.heap.size (w.heap.size + 1) w.heap.size (w.heap.size + 1 + 1) RG.new ∧ Ext w (fun _ => .o) w' tag := by
  have hmm := @run_makeMap Tryz.prog
  obtain ⟨W0, hW0⟩ : ∃ W0, (((w.alloc (.map #[] 0)).alloc (.cells #[.int .i64 0, .slice none 0 0, .slice none 0 0, .slice none 0 0, .slice none 0 0, .slice none 0 0, .slice none 0 0, .map (some w.heap.size), .map none, .slice none 0 0] 70)).alloc (.map #[] 0)).drew = W0 := ⟨_, rfl⟩
  have hz0 : W0.heap.size = w.heap.size + 3 := by rw [← hW0]; simp
  have hK0 : KMap uk W0 (w.heap.size + 1 + 1) (fun _ => none) 0 := by
    have := KMap.made (enc := uk) ((w.alloc (.map #[] 0)).alloc (.cells #[.int .i64 0, .slice none 0 0, .slice none 0 0, .slice none 0 0, .slice none 0 0, .slice none 0 0, .slice none 0 0, .map (some w.heap.size), .map none, .slice none 0 0] 70))
    rw [World.size_alloc, World.size_alloc] at this
    rw [← hW0]; exact this
  have hok := fun L => updM_ok (rb := w.heap.size + 1) hK0 L
  have hr0 : W0.heap[w.heap.size + 1]? = some (.cells #[.int .i64 0, .slice none 0 0, .slice none 0 0, .slice none 0 0, .slice none 0 0, .slice none 0 0, .slice none 0 0, .map (some w.heap.size), .map none, .slice none 0 0] 70) := by
    have := World.alloc_heap_new (w.alloc (.map #[] 0)) (.cells #[.int .i64 0, .slice none 0 0, .slice none 0 0, .slice none 0 0, .slice none 0 0, .slice none 0 0, .slice none 0 0, .map (some w.heap.size), .map none, .slice none 0 0] 70)
    rw [World.size_alloc] at this
    rw [← hW0]
    exact (Below.heap_alloc _ _ _ (by simp)).trans this
  have hrun : ∀ L k o, (Instr.mapUpdate 67 (.map (some (w.heap.size + 1 + 1))) (.int .u8 k) (.pointer (some ⟨w.heap.size + 1, o, none⟩))).run Tryz.prog (updM (w.heap.size + 1 + 1) (w.heap.size + 1) W0 L) = .ok () (updM (w.heap.size + 1 + 1) (w.heap.size + 1) W0 ((k, o) :: L)) := fun L k o => updM_run hK0 L k o
  have hrun0 : ∀ k o, (Instr.mapUpdate 67 (.map (some (w.heap.size + 1 + 1))) (.int .u8 k) (.pointer (some ⟨w.heap.size + 1, o, none⟩))).run Tryz.prog ((((w.alloc (.map #[] 0)).alloc (.cells #[.int .i64 0, .slice none 0 0, .slice none 0 0, .slice none 0 0, .slice none 0 0, .slice none 0 0, .slice none 0 0, .map (some w.heap.size), .map none, .slice none 0 0] 70)).alloc (.map #[] 0)).drew) = .ok () (updM (w.heap.size + 1 + 1) (w.heap.size + 1) W0 [(k, o)]) := fun k o => by have e := hrun [] k o; rw [updM_nil] at e; rw [hW0]; exact e
  have hc : ∀ L, (updM (w.heap.size + 1 + 1) (w.heap.size + 1) W0 L).cell? ⟨w.heap.size + 1, 8, none⟩ = some (.map none) := fun L => by
    have := (hok L).2.2.2.2.2 (w.heap.size + 1) (by omega)
    simp [World.cell?, this, hr0]
  have hf : ∀ L, (updM (w.heap.size + 1 + 1) (w.heap.size + 1) W0 L).frozen? ⟨w.heap.size + 1, 8, none⟩ = false := fun L => by
    have := (hok L).2.2.2.2.2 (w.heap.size + 1) (by omega)
    simp [World.frozen?, this, hr0]
  have HF : Hid (∀ L : List (Int × Nat), L.Perm [(118, 1), (102, 2), (109, 3), (116, 5)] → ∃ tag, RdW ((updM (w.heap.size + 1 + 1) (w.heap.size + 1) W0 L).setCell ⟨w.heap.size + 1, 8, none⟩ (.map (some (w.heap.size + 1 + 1)))) tag w.heap.size (w.heap.size + 1) w.heap.size (w.heap.size + 1 + 1) RG.new ∧ Ext w (fun _ => .o) ((updM (w.heap.size + 1 + 1) (w.heap.size + 1) W0 L).setCell ⟨w.heap.size + 1, 8, none⟩ (.map (some (w.heap.size + 1 + 1)))) tag) := fun L hL => by
    obtain ⟨⟨n, hK⟩, hz, ho, ht, hp, hk⟩ := hok L
    have hko : ∀ x, x ≠ w.heap.size + 1 → x ≠ w.heap.size + 1 + 1 → ((updM (w.heap.size + 1 + 1) (w.heap.size + 1) W0 L).setCell ⟨w.heap.size + 1, 8, none⟩ (.map (some (w.heap.size + 1 + 1)))).heap[x]? = W0.heap[x]? := fun x hx1 hx2 => (Below.heap_setCell _ ⟨w.heap.size + 1, 8, none⟩ _ x hx1).trans (hk x hx2)
    have hold : ∀ x, x < w.heap.size + 1 → W0.heap[x]? = (w.alloc (.map #[] 0)).heap[x]? := fun x hx => by
      rw [← hW0]
      exact (Below.heap_alloc _ _ _ (by simp; omega)).trans (Below.heap_alloc _ _ _ (by simp; omega))
    refine new_reader hh hs h1 h2 (ho.trans (by rw [← hW0]; rfl)) (ht.trans (by rw [← hW0]; rfl)) (hp.trans (by rw [← hW0]; rfl)) (by simp; omega) (fun b hb => ?_) ?_ ?_ ⟨n, ?_⟩
    · rw [hko b (by omega) (by omega), hold b (by omega)]; exact Below.heap_alloc w _ b hb
    · exact (KMap.made (enc := sk) w).same (by rw [hko _ (by omega) (by omega), hold _ (by omega)])
    · rw [heap_setCell_same _ _ 8 _ _ _ ((hk _ (by omega)).trans hr0)]; rfl
    · rw [← listF_perm hL]
      exact hK.same (Below.heap_setCell _ ⟨w.heap.size + 1, 8, none⟩ _ _ (by show w.heap.size + 1 + 1 ≠ w.heap.size + 1; omega))
  replace hW0 := hide hW0
  unfold ptrV
  clear hK0 hok hr0 hz0 hh hs h1 h2
  go_enter Tryz.func21, Tryz.ntmps21
  go_wp2_with fail
  go_region
  all_goals
    go_wp2_with fail
    go_ret
    exact ⟨rfl, HF.out _ (by decide)⟩
end Go.Proofs.YtlpdomgedaockaaGreatDoor
namespace Go.Proofs.YtlpdomgedaockaaGreatDoor
open Go.RowKit Go.Proofs.Cod
structure PI where
  i : In7
  line : Int
  off : List (Int × Tx)
structure PB where
  code : List PI
  labs : Tx → Option Nat
structure PS where
  N : Tx → Option (Int × Nat)
  nms : Int → List Tx
  bod : List PB
def PS.new : PS := ⟨fun _ => none, fun _ => [], []⟩
def declT (kd : Int) (ts : List Tx) (s : PS) : Except Int PS :=
  if kd = 0 ∨ ts = [] ∨ ts.all isNam = false then .error 2 else match declAll kd s.N (s.nms kd) ts with
    | none => .error 3
    | some p => if 4 < p.2.length then .error 4 else .ok { s with N := p.1, nms := putZ s.nms kd p.2 }
def setLast (s : PS) (b : PB) : PS := { s with bod := s.bod.dropLast ++ [b] }
def offP (l : List (Int × Tx)) : List (Int × Tx) := l.filter fun p => p.1 == 116 || p.1 == 108
def instrT (line : Int) (f : Tx) (ts : List Tx) (s : PS) (b : PB) : Except Int PS := match partsT f with
  | none => .error 2
  | some ps => if fitsT ts ps = false then .error 2 else if 24 ≤ b.code.length then .error 4 else match fillAll s.N (newIns f) (zipP ps ts) with
    | none => .error 5
    | some i => .ok (setLast s { b with code := b.code ++ [⟨i, line, offP (zipP ps ts)⟩] })
def markT (f : Tx) (s : PS) (b : PB) : Except Int PS := if isNam f.dropLast = false then .error 2 else match b.labs f.dropLast with
  | some _ => .error 3
  | none => .ok (setLast s { b with labs := putT b.labs f.dropLast b.code.length })
def addBody (s : PS) : PS := { s with bod := s.bod ++ [⟨[], fun _ => none⟩] }
def stepT (line : Int) (f : Tx) (ts : List Tx) (s : PS) : Except Int PS :=
  if f = tThread then (if ts.length = 1 then (declT 116 ts s).map addBody else .error 2)
  else match s.bod.getLast? with
    | none => declT (headK f) ts s
    | some b => if colonT f = true ∧ ts = [] then markT f s b else instrT line f ts s b
structure LB where
  a : Nat
  c : BdC
  pb : PB
def keysB (nb : Nat) (x : LB) : List (Nat × Nat × Int × Tx × Int) := (x.c.ins.zip x.pb.code).flatMap fun p => p.2.off.map fun q => (p.1, (if q.1 = 116 then nb else x.c.lm), q.1, q.2, p.2.line)
structure BLink (G : RG) (x : LB) : Prop where
  b : G.B x.a = some x.c
  labs : x.c.labs = x.pb.labs
  len : x.c.ins.length = x.pb.code.length
  ins : ∀ (k ia : Nat) (p : PI), x.c.ins[k]? = some ia → x.pb.code[k]? = some p → G.I ia = some p.i
  small : x.pb.code.length ≤ 24
structure Link (G : RG) (nb : Nat) (s : PS) (X : List LB) : Prop where
  N : G.N = s.N
  nms : G.nms = s.nms
  bods : G.bods = X.map LB.a
  bod : s.bod = X.map LB.pb
  each : ∀ x, x ∈ X → BLink G x
  keys : G.las.map CloC.key = X.flatMap (keysB nb)
  nda : (X.map LB.a).Nodup
  ndi : (X.flatMap fun x => x.c.ins).Nodup
structure PSok (s : PS) : Prop where
  thr : (s.nms 116).length = s.bod.length
  few : ∀ k, (s.nms k).length ≤ 4
def Fresh (G : RG) (n0 : Nat) : Prop := (∀ a c, G.B a = some c → a < n0) ∧ (∀ ia i, G.I ia = some i → ia < n0)
theorem Link.new (nb : Nat) : Link RG.new nb PS.new [] := ⟨rfl, rfl, rfl, rfl, (fun x hx => by cases hx), rfl, by simp, by simp⟩
section
variable {G G' : RG} {nb n0 : Nat} {s : PS} {X : List LB}
theorem decl_ok {kd : Int} {ts : List Tx} (hP : DeclP kd ts G G') (h : Link G nb s X) : ∃ s', declT kd ts s = .ok s' ∧ Link G' nb s' X ∧ s'.bod = s.bod ∧ (∀ k, (s.nms k).length ≤ 4 → (s'.nms k).length ≤ 4) ∧ s'.nms kd = s.nms kd ++ ts ∧ (∀ k, k ≠ kd → s'.nms k = s.nms k) ∧ G'.las = G.las ∧ G'.line = G.line := by
  obtain ⟨h1, h2, h3, h4, h5, h6, h7, h8, h9, h10, h11, h12, h13⟩ := hP
  rw [h.N, h.nms] at h4
  have hlen := declAll_len h4
  refine ⟨{ s with N := G'.N, nms := putZ s.nms kd (G'.nms kd) }, ?_, ⟨rfl, ?_, by rw [h8]; exact h.bods, h.bod, fun x hx => ?_, by rw [h12]; exact h.keys, h.nda, h.ndi⟩, rfl, fun k hk => ?_, ?_, fun k hk => putZ_other _ hk, h12, h7⟩
  · unfold declT
    rw [if_neg (by simp [h1, h2, h3]), h4]
    show (if 4 < (G'.nms kd).length then _ else _) = _
    rw [if_neg (by omega)]
  · funext k
    by_cases e : k = kd
    · subst e; exact (putZ_same _ _ _).symm
    · show G'.nms k = putZ s.nms kd (G'.nms kd) k
      rw [putZ_other _ e, h6 k e, h.nms]
  · obtain ⟨b1, b2, b3, b4, b5⟩ := h.each x hx
    exact ⟨by rw [h10]; exact b1, b2, b3, by rw [h11]; exact b4, b5⟩
  · show (putZ s.nms kd (G'.nms kd) k).length ≤ 4
    by_cases e : k = kd
    · subst e; rw [putZ_same]; exact h5
    · rw [putZ_other _ e]; exact hk
  · show putZ s.nms kd (G'.nms kd) kd = _
    rw [putZ_same]; exact hlen
theorem decl_err {kd : Int} {ts : List Tx} {e : Int} (hE : DeclE kd ts G e) (h : Link G nb s X) : declT kd ts s = .error e := by
  unfold declT
  rcases hE with ⟨h1, rfl⟩ | ⟨⟨h1, h2, h3⟩, h4⟩
  · rw [if_pos h1]
  · rw [if_neg (by simp [h1, h2, h3])]
    rw [h.N, h.nms] at h4
    rcases h4 with ⟨h4, rfl⟩ | ⟨⟨p, h4, h5⟩, rfl⟩
    · rw [h4]
    · rw [h4]
      show (if 4 < p.2.length then _ else _) = _
      rw [if_pos h5]
theorem link_last (h : Link G nb s X) {a : Nat} (ha : G.bods.getLast? = some a) : ∃ X0 x, X = X0 ++ [x] ∧ x.a = a ∧ s.bod.getLast? = some x.pb ∧ s.bod.dropLast = X0.map LB.pb := by
  rw [h.bods] at ha
  rcases List.eq_nil_or_concat X with e | ⟨X0, x, e⟩
  · rw [e] at ha; cases ha
  · rw [List.concat_eq_append] at e
    subst e
    refine ⟨X0, x, rfl, ?_, ?_, ?_⟩
    · simpa using ha
    · rw [h.bod]; simp
    · rw [h.bod]; simp
theorem putN_other {α : Type} {f : Nat → Option α} {a b : Nat} (v : α) (h : b ≠ a) : putN f a v b = f b := by simp [putN, h]
end
end Go.Proofs.YtlpdomgedaockaaGreatDoor
namespace Go.Proofs.YtlpdomgedaockaaGreatDoor
open Go.RowKit Go.Proofs.Cod
theorem off_eq (nb lm ia : Nat) (line : Int) (l : List (Int × Tx)) : l.flatMap (offOf nb lm ia line) = (offP l).map fun q => (ia, (if q.1 = 116 then nb else lm), q.1, q.2, line) := by
  induction l with
  | nil => rfl
  | cons p l ih =>
    rw [List.flatMap_cons, ih]
    unfold offP offOf
    by_cases h1 : p.1 = 116
    · simp [h1]
    · by_cases h2 : p.1 = 108
      · simp [h2]
      · simp [h1, h2]
section
variable {G G' : RG} {nb n0 : Nat} {s : PS} {X : List LB}
theorem BLink.addr {x : LB} (h : BLink G x) {ia : Nat} (hm : ia ∈ x.c.ins) : ∃ i, G.I ia = some i := by
  obtain ⟨k, hk⟩ := List.getElem?_of_mem hm
  have hl := (List.getElem?_eq_some_iff.1 hk).1
  obtain ⟨p, hp⟩ : ∃ p, x.pb.code[k]? = some p := ⟨_, List.getElem?_eq_getElem (by rw [← h.len]; exact hl)⟩
  exact ⟨_, h.ins k ia p hk hp⟩
theorem link_set {x x' : LB} {X0 : List LB} (h : Link G nb s (X0 ++ [x])) (ea : x'.a = x.a) (eN : G'.N = G.N) (en : G'.nms = G.nms) (eb : G'.bods = G.bods) (hB : ∀ a, a ≠ x.a → G'.B a = G.B a) (hI : ∀ y, y ∈ X0 → ∀ ia, ia ∈ y.c.ins → G'.I ia = G.I ia)
    (hx : BLink G' x') (hk : G'.las.map CloC.key = G.las.map CloC.key ++ (keysB nb x').drop (keysB nb x).length) (hkx : (keysB nb x').take (keysB nb x).length = keysB nb x) (hnd : (X0.flatMap (fun x => x.c.ins) ++ x'.c.ins).Nodup) : Link G' nb (setLast s x'.pb) (X0 ++ [x']) := by
  have hnda := h.nda
  rw [List.map_append] at hnda
  refine ⟨eN.trans h.N, en.trans h.nms, ?_, ?_, fun y hy => ?_, ?_, ?_, ?_⟩
  · rw [eb, h.bods]; simp [ea]
  · show s.bod.dropLast ++ [x'.pb] = _
    rw [h.bod]; simp
  · rcases List.mem_append.1 hy with hy | hy
    · obtain ⟨b1, b2, b3, b4, b5⟩ := h.each y (List.mem_append_left _ hy)
      have hne : y.a ≠ x.a := fun e => by
        have := (List.nodup_append.1 hnda).2.2 y.a (List.mem_map_of_mem hy) x.a (by simp)
        exact this e
      exact ⟨(hB _ hne).trans b1, b2, b3, fun k ia p hk hp => (hI y hy ia (List.mem_of_getElem? hk)).trans (b4 k ia p hk hp), b5⟩
    · obtain rfl := List.mem_singleton.1 hy
      exact hx
  · rw [hk, h.keys, List.flatMap_append, List.flatMap_append, List.append_assoc]
    congr 1
    simp only [List.flatMap_cons, List.flatMap_nil, List.append_nil]
    conv => rhs; rw [← List.take_append_drop (keysB nb x).length (keysB nb x'), hkx]
  · rw [List.map_append]
    show (X0.map LB.a ++ [x'.a]).Nodup
    rw [ea]; exact hnda
  · rw [List.flatMap_append]; simpa using hnd
theorem mark_ok {a : Nat} {bc : BdC} {n : Tx} (h : Link G nb s X) (ha : G.bods.getLast? = some a) (hb : G.B a = some bc) (hl : bc.labs n = none) : ∃ b X', s.bod.getLast? = some b ∧ b.labs n = none ∧ Link (G.mark a bc n) nb (setLast s { b with labs := putT b.labs n b.code.length }) X' := by
  obtain ⟨X0, x, rfl, rfl, h1, h2⟩ := link_last h ha
  have hx := h.each x (by simp)
  have e : x.c = bc := by have := hx.b; rw [hb] at this; exact (Option.some.inj this).symm
  subst e
  refine ⟨x.pb, X0 ++ [⟨x.a, { x.c with labs := putT x.c.labs n x.c.ins.length }, { x.pb with labs := putT x.pb.labs n x.pb.code.length }⟩], h1, by rw [← hx.labs]; exact hl, ?_⟩
  refine link_set (x' := ⟨x.a, { x.c with labs := putT x.c.labs n x.c.ins.length }, { x.pb with labs := putT x.pb.labs n x.pb.code.length }⟩) h rfl rfl rfl rfl (fun b hb => putN_other _ hb) (fun _ _ _ _ => rfl) ⟨putN_same _ _ _, ?_, hx.len, hx.ins, hx.small⟩ ?_ ?_ ?_
  · show putT x.c.labs n x.c.ins.length = putT x.pb.labs n x.pb.code.length
    rw [hx.labs, hx.len]
  · show G.las.map CloC.key = G.las.map CloC.key ++ (keysB nb x).drop (keysB nb x).length
    simp
  · show (keysB nb x).take (keysB nb x).length = keysB nb x
    simp
  · have := h.ndi
    rw [List.flatMap_append] at this
    simpa using this
theorem zip_push {α β : Type} {l : List α} {m : List β} (h : l.length = m.length) (x : α) (y : β) : (l ++ [x]).zip (m ++ [y]) = l.zip m ++ [(x, y)] := by
  rw [List.zip_append h]; rfl
theorem instr_ok {a : Nat} {bc : BdC} {op : Tx} {ts : List Tx} (h : Link G nb s X) (hF : Fresh G n0) (ha : G.bods.getLast? = some a) (hb : G.B a = some bc) (hP : InstrP n0 nb a bc op ts G G') :
    ∃ b X' s', s.bod.getLast? = some b ∧ instrT G.line op ts s b = .ok s' ∧ Link G' nb s' X' ∧ s'.nms = s.nms ∧ s'.bod.length = s.bod.length ∧ G'.las.length ≤ G.las.length + 3 ∧ G'.line = G.line := by
  obtain ⟨X0, x, rfl, rfl, h1, h2⟩ := link_last h ha
  have hx := h.each x (by simp)
  have e : x.c = bc := by have := hx.b; rw [hb] at this; exact (Option.some.inj this).symm
  subst e
  obtain ⟨ps, p1, p2, p3, ia, i, cs, lV, v, q1, q2, q3, rfl⟩ := hP
  have hzl : (zipP ps ts).length ≤ 3 := by
    have := partsT_mem p1
    unfold zipP; rw [List.length_zip, List.length_map]; omega
  have hcl : cs.length ≤ 3 := by
    have e1 := congrArg List.length q3
    rw [List.length_map, off_eq, List.length_map] at e1
    have e2 : (offP (zipP ps ts)).length ≤ (zipP ps ts).length := List.length_filter_le _ _
    omega
  have hnew : ∀ y, y ∈ X0 ++ [x] → ∀ k, k ∈ y.c.ins → k ≠ ia := fun y hy k hk e => by
    obtain ⟨j, hj⟩ := (h.each y hy).addr hk
    have := hF.2 k j hj
    omega
  obtain ⟨x', hx'⟩ : ∃ x' : LB, (⟨x.a, { x.c with ins := x.c.ins ++ [ia], cv := v }, { x.pb with code := x.pb.code ++ [⟨i, G.line, offP (zipP ps ts)⟩] }⟩ : LB) = x' := ⟨_, rfl⟩
  have hkeys : keysB nb x' = keysB nb x ++ (zipP ps ts).flatMap (offOf nb x.c.lm ia G.line) := by
    rw [← hx', off_eq]
    unfold keysB
    show ((x.c.ins ++ [ia]).zip (x.pb.code ++ [_])).flatMap _ = _
    rw [zip_push hx.len, List.flatMap_append]
    simp
  refine ⟨x.pb, X0 ++ [x'], setLast s x'.pb, h1, ?_, ?_, rfl, ?_, ?_, rfl⟩
  · unfold instrT
    rw [p1]
    show (if fitsT ts ps = false then _ else _) = _
    rw [if_neg (by rw [p2]; simp), if_neg (by rw [← hx.len]; omega)]
    rw [h.N] at q2
    rw [q2, ← hx']
  · refine link_set h (by rw [← hx']) rfl rfl rfl (fun b hb => putN_other _ hb) (fun y hy k hk => putN_other _ (hnew y (List.mem_append_left _ hy) k hk)) ?_ ?_ ?_ ?_
    · rw [← hx']
      refine ⟨putN_same _ _ _, hx.labs, by simp [hx.len], fun k ja p hk hp => ?_, ?_⟩
      · have hk : (x.c.ins ++ [ia])[k]? = some ja := hk
        have hp : (x.pb.code ++ [⟨i, G.line, offP (zipP ps ts)⟩])[k]? = some p := hp
        by_cases e : k < x.c.ins.length
        · rw [List.getElem?_append_left e] at hk
          rw [List.getElem?_append_left (by rw [← hx.len]; exact e)] at hp
          show putN G.I ia i ja = _
          rw [putN_other _ (hnew x (by simp) ja (List.mem_of_getElem? hk))]
          exact hx.ins k ja p hk hp
        · have hl := (List.getElem?_eq_some_iff.1 hk).1
          simp at hl
          have ek : k = x.c.ins.length := by omega
          subst ek
          rw [List.getElem?_append_right (Nat.le_refl _), Nat.sub_self] at hk
          rw [hx.len, List.getElem?_append_right (Nat.le_refl _), Nat.sub_self] at hp
          cases hk; cases hp
          exact putN_same _ _ _
      · show (x.pb.code ++ [_]).length ≤ 24
        rw [List.length_append, ← hx.len]; simp; omega
    · show (G.las ++ cs).map CloC.key = _
      rw [List.map_append, q3, hkeys, List.drop_left]
    · rw [hkeys, List.take_left]
    · have hnd := h.ndi
      rw [List.flatMap_append] at hnd
      simp only [List.flatMap_cons, List.flatMap_nil, List.append_nil] at hnd
      rw [← hx']
      show (X0.flatMap (fun x => x.c.ins) ++ (x.c.ins ++ [ia])).Nodup
      rw [← List.append_assoc, List.nodup_append]
      refine ⟨hnd, by simp, fun k hk j hj => ?_⟩
      obtain rfl := List.mem_singleton.1 hj
      rcases List.mem_append.1 hk with hk | hk
      · obtain ⟨y, hy, hky⟩ := List.mem_flatMap.1 hk
        exact hnew y (List.mem_append_left _ hy) k hky
      · exact hnew x (by simp) k hk
  · show (s.bod.dropLast ++ [x'.pb]).length = s.bod.length
    rw [h.bod]; simp
  · show (G.las ++ cs).length ≤ _
    rw [List.length_append]; omega
theorem begin_ok {ts : List Tx} (h : Link G nb s X) (hF : Fresh G n0) (hP : BeginP n0 ts G G') : ∃ s1 X', ts.length = 1 ∧ declT 116 ts s = .ok s1 ∧ Link G' nb (addBody s1) X' ∧ (∀ k, (s.nms k).length ≤ 4 → (s1.nms k).length ≤ 4) ∧ (s1.nms 116).length = (s.nms 116).length + 1 ∧ s1.bod = s.bod ∧ G'.las = G.las ∧ G'.line = G.line := by
  obtain ⟨h1, G1, a, lm, v, hD, ha, rfl⟩ := hP
  obtain ⟨s1, d1, d2, d3, d4, d5, d6, d7, d8⟩ := decl_ok hD h
  have hBI : G1.B = G.B ∧ G1.I = G.I := ⟨hD.2.2.2.2.2.2.2.2.2.1, hD.2.2.2.2.2.2.2.2.2.2.1⟩
  have hne : ∀ y, y ∈ X → y.a ≠ a := fun y hy e => by
    have := hF.1 y.a y.c (h.each y hy).b
    omega
  refine ⟨s1, X ++ [⟨a, { lm := lm, cv := .slice none 0 0, ins := [], labs := fun _ => none }, ⟨[], fun _ => none⟩⟩], h1, d1, ⟨d2.N, d2.nms, ?_, ?_, fun y hy => ?_, ?_, ?_, ?_⟩, d4, by rw [d5, List.length_append, h1], d3, d7, d8⟩
  · show G1.bods ++ [a] = _
    rw [d2.bods]; simp
  · show s1.bod ++ [⟨[], fun _ => none⟩] = _
    rw [d2.bod]; simp
  · rcases List.mem_append.1 hy with hy | hy
    · obtain ⟨b1, b2, b3, b4, b5⟩ := d2.each y hy
      exact ⟨(putN_other _ (hne y hy)).trans b1, b2, b3, b4, b5⟩
    · obtain rfl := List.mem_singleton.1 hy
      exact ⟨putN_same _ _ _, rfl, rfl, (fun k ia p hk => by cases hk), by simp⟩
  · show G1.las.map CloC.key = _
    rw [d2.keys, List.flatMap_append]; simp [keysB]
  · rw [List.map_append, List.nodup_append]
    refine ⟨h.nda, by simp, fun k hk j hj => ?_⟩
    simp at hj
    obtain ⟨y, hy, rfl⟩ := List.mem_map.1 hk
    rw [hj]; exact hne y hy
  · rw [List.flatMap_append]; simpa using d2.ndi
theorem take_ok {f : Tx} {ts : List Tx} (hP : TakeP n0 nb f ts G G') (h : Link G nb s X) (hs : PSok s) (hF : Fresh G n0) : ∃ s' X', stepT G.line f ts s = .ok s' ∧ Link G' nb s' X' ∧ PSok s' ∧ G'.las.length ≤ G.las.length + 3 ∧ G'.line = G.line := by
  rcases hP with ⟨h1, hP⟩ | ⟨h1, h2, hP⟩ | ⟨h1, a, bc, ha, hb, hP⟩
  · obtain ⟨s1, X', b1, b2, b3, b4, b5, b6, b7, b8⟩ := begin_ok h hF hP
    refine ⟨addBody s1, X', ?_, b3, ⟨?_, fun k => b4 k (hs.few k)⟩, by rw [b7]; omega, b8⟩
    · unfold stepT
      rw [if_pos h1, if_pos b1, b2]; rfl
    · show (s1.nms 116).length = (s1.bod ++ [_]).length
      rw [b5, b6, List.length_append, hs.thr]; rfl
  · obtain ⟨s1, d1, d2, d3, d4, d5, d6, d7, d8⟩ := decl_ok hP h
    have hb0 : s.bod = [] := by
      have := h.bods
      rw [h2] at this
      have hX : X = [] := by
        cases X with
        | nil => rfl
        | cons x X => simp at this
      rw [h.bod, hX]; rfl
    refine ⟨s1, X, ?_, d2, ⟨?_, fun k => d4 k (hs.few k)⟩, by rw [d7]; omega, d8⟩
    · unfold stepT
      rw [if_neg h1, hb0]; exact d1
    · have hne : (116 : Int) ≠ headK f := by
        unfold headK
        split
        · decide
        · split
          · decide
          · split <;> decide
      rw [d6 116 hne, d3]; exact hs.thr
  · rcases hP with ⟨c1, c2, c3, c4, rfl⟩ | ⟨c1, hP⟩
    · obtain ⟨b, X', m1, m2, m3⟩ := mark_ok h ha hb c4
      refine ⟨_, X', ?_, m3, ⟨?_, hs.few⟩, by show G.las.length ≤ _; omega, rfl⟩
      · unfold stepT
        rw [if_neg h1, m1]
        show (if colonT f = true ∧ ts = [] then _ else _) = _
        rw [if_pos ⟨c1, c2⟩]
        unfold markT
        rw [if_neg (by rw [c3]; simp), m2]
      · show (s.nms 116).length = (s.bod.dropLast ++ [_]).length
        have hne : s.bod ≠ [] := fun e => by rw [e] at m1; cases m1
        have := List.length_pos_iff.2 hne
        rw [List.length_append, List.length_dropLast, hs.thr]; simp; omega
    · obtain ⟨b, X', s', i1, i2, i3, i4, i5, i6, i7⟩ := instr_ok h hF ha hb hP
      refine ⟨s', X', ?_, i3, ⟨by rw [i4, i5]; exact hs.thr, by rw [i4]; exact hs.few⟩, i6, i7⟩
      unfold stepT
      rw [if_neg h1, i1]
      show (if colonT f = true ∧ ts = [] then _ else _) = _
      rw [if_neg c1]; exact i2
theorem take_err {f : Tx} {ts : List Tx} {e : Int} (hE : TakeE f ts G e) (h : Link G nb s X) : stepT G.line f ts s = .error e := by
  unfold stepT
  rcases hE with ⟨h1, hE⟩ | ⟨h1, h2, hE⟩ | ⟨h1, a, bc, ha, hb, hE⟩
  · rw [if_pos h1]
    rcases hE with ⟨h2, rfl⟩ | ⟨h2, hE⟩
    · rw [if_neg h2]
    · rw [if_pos h2, decl_err hE h]; rfl
  · have hb0 : s.bod = [] := by
      have := h.bods
      rw [h2] at this
      have hX : X = [] := by
        cases X with
        | nil => rfl
        | cons x X => simp at this
      rw [h.bod, hX]; rfl
    rw [if_neg h1, hb0]
    exact decl_err hE h
  · rw [if_neg h1]
    obtain ⟨X0, x, rfl, rfl, q1, q2⟩ := link_last h ha
    have hx := h.each x (by simp)
    have e' : x.c = bc := by have := hx.b; rw [hb] at this; exact (Option.some.inj this).symm
    subst e'
    rw [q1]
    rcases hE with ⟨c1, c2, hE⟩ | ⟨c1, hE⟩
    · show (if colonT f = true ∧ ts = [] then _ else _) = _
      rw [if_pos ⟨c1, c2⟩]
      unfold markT
      rcases hE with ⟨d1, rfl⟩ | ⟨d1, ⟨n, hn⟩, rfl⟩
      · rw [if_pos d1]
      · rw [if_neg (by rw [d1]; simp), ← hx.labs, hn]
    · show (if colonT f = true ∧ ts = [] then _ else _) = _
      rw [if_neg c1]
      unfold instrT
      rcases hE with ⟨d1, rfl⟩ | ⟨ps, d1, d2, d3⟩
      · cases hp : partsT f with
        | none => rfl
        | some ps =>
          show (if fitsT ts ps = false then _ else _) = _
          rw [if_pos (d1 ps hp)]
      · rw [d1]
        show (if fitsT ts ps = false then _ else _) = _
        rw [if_neg (by rw [d2]; simp)]
        rw [← hx.len]
        rcases d3 with ⟨d3, rfl⟩ | ⟨d3, d4, rfl⟩
        · rw [if_pos d3]
        · rw [h.N] at d4
          rw [if_neg (by omega), d4]
end
end Go.Proofs.YtlpdomgedaockaaGreatDoor
