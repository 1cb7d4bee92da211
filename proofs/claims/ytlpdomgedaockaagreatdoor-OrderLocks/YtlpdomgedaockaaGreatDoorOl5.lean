import Derived.Test.YtlpdomgedaockaaGreatDoorOl0
import Derived.Shelf.Lay
import Derived.Test.YtlpdomgedaockaaGreatDoorOl3
import Derived.Laws.Rows
import Derived.Shelf.Strconv.Atoi
import Derived.Lib.SmallJoins
import Derived.Test.YtlpdomgedaockaaGreatDoorOl4
import Derived.Deep.RegionHeld3
import Derived.Deep.RegionLaw
set_option linter.unusedVariables false
set_option linter.unusedSimpArgs false
namespace Go.Proofs
open Go.Shelf
shelf_lay Lays.n172 Nm 172 at Tryz as Tryz.lays172
end Go.Proofs
namespace Go.Proofs.YtlpdomgedaockaaGreatDoor
open Go.RowKit Go.Shelf Go.Proofs.Cod
def numN (t : Tx) : Nat := t.foldl (fun n c => n * 10 + (c.toNat - 48)) 0
theorem dec_num (t : Tx) (h : t.all isDig = true) (acc : Nat) : Lib.decFrom acc t = some (t.foldl (fun n c => n * 10 + (c.toNat - 48)) acc) := by
  induction t generalizing acc with
  | nil => rfl
  | cons c t ih =>
    simp only [List.all_cons, Bool.and_eq_true] at h
    have hd : Lib.digitVal c = some (c.toNat - 48) := by
      have h1 := h.1
      simp [isDig] at h1
      unfold Lib.digitVal; rw [if_pos (by omega)]
    simp only [Lib.decFrom, hd, List.foldl_cons]
    exact ih h.2 _
theorem atoi_num {t : Tx} (h : isNum t = true) : Lib.atoi t = some (numN t : Int) ∧ t.length ≤ 3 := by
  simp only [isNum, Bool.and_eq_true, decide_eq_true_eq] at h
  obtain ⟨⟨h1, h2⟩, h3⟩ := h
  refine ⟨?_, h2⟩
  match t, h1, h3 with
  | c :: r, _, h3 =>
    have hc : isDig c = true := by simp only [List.all_cons, Bool.and_eq_true] at h3; exact h3.1
    simp [isDig] at hc
    have n1 : ¬ (c = 45) := fun e => by subst e; revert hc; decide
    have n2 : ¬ (c = 43) := fun e => by subst e; revert hc; decide
    simp only [Lib.atoi, Lib.decNat, List.isEmpty_cons]
    simp only [beq_iff_eq, n1, n2, if_false, Bool.false_eq_true]
    rw [dec_num _ h3]; rfl
def argN (t : Tx) : Nat := if isReg t then regN t else numN t
theorem one_made (w : World) (A B : Obj) : ((w.alloc A).alloc B).heap[w.heap.size]? = some A := by
  rw [Below.heap_alloc _ B _ (by simp)]; exact World.alloc_heap_new w A
set_option maxHeartbeats 400000 in
theorem argOf_any (t : Tx) (h : (isReg t || isNum t) = true) (w : World) : Calls Tryz.prog 147 #[.string (bs t)] w fun e w' => e = .returned (.agg #[.bool (isReg t), .int .i64 (argN t)]) ∧ Below w.heap.size w w' := by
  have hb1 : Hid (∀ x, Below w.heap.size w (w.alloc x)) := fun x => (Below.refl _ _).alloc (Nat.le_refl _) _
  cases hr : isReg t with
  | true =>
    have ha : Hid (argN t = regN t) := by unfold Hid argN; rw [if_pos hr]
    go_enter Tryz.func147, Tryz.ntmps147
    go_wp2_with fail
    refine (isRegister_any t _).mono ?_
    rintro e w2 ⟨rfl, rfl⟩
    rw [hr]
    go_wp2_with fail
    refine (registerNumber_any t hr _).mono ?_
    rintro e w3 ⟨rfl, rfl⟩
    go_wp2_with fail
    exact bodyPost_ret (results_cell_row rfl _ _ w.heap.size 90 _ (0, 0) _ rfl (World.alloc_heap_new w _) Tryz.underlying90 rfl (by kernel_rfl)) rfl ⟨by rw [ha.out], hb1.out _⟩
  | false =>
    rw [hr, Bool.false_or] at h
    have ha : Hid (argN t = numN t) := by unfold Hid argN; rw [hr]; rfl
    obtain ⟨h1, h2⟩ := atoi_num h
    have hdata : (bs t).data.toList = t := by simp [bs]
    have hA := hide (fun W => Any.strconv_Atoi Tryz.lays172 (bs t) (numN t) (by rw [bs_size]; omega) (by rw [hdata]; exact h1) W)
    clear hdata h1 h2
    go_enter Tryz.func147, Tryz.ntmps147
    go_wp2_with fail
    refine (isRegister_any t _).mono ?_
    rintro e w2 ⟨rfl, rfl⟩
    rw [hr]
    go_wp2_with fail
    refine (hA.out _).mono ?_
    rintro e w3 ⟨rfl, s, hw3⟩
    obtain ⟨hk, hb3⟩ : w3.heap[w.heap.size]? = some (.cells #[.bool false, .int .i64 0] 90) ∧ Below w.heap.size w w3 := by
      rw [hw3]
      refine ⟨(Lib.bytesWorld_at_old _ _ _ _ (by simp)).trans (World.alloc_heap_new w _), (hb1.out _).trans (Joins.below_bytesWorld _ _ _ _ (by simp))⟩
    clear hw3
    have hlt : w.heap.size < w3.heap.size := (Array.getElem?_eq_some_iff.1 hk).1
    have c0 : w3.cell? ⟨w.heap.size, 0, none⟩ = some (.bool false) := by simp [World.cell?, hk]
    have c1 : w3.cell? ⟨w.heap.size, 1, none⟩ = some (.int .i64 0) := by simp [World.cell?, hk]
    have f0 : w3.frozen? ⟨w.heap.size, 0, none⟩ = false := by simp [World.frozen?, hk]
    have f1 : w3.frozen? ⟨w.heap.size, 1, none⟩ = false := by simp [World.frozen?, hk]
    have hk' := hide hk
    clear hk
    go_wp2_with fail
    refine bodyPost_ret (results_cell_row rfl _ _ w.heap.size 90 _ (0, 0) _ rfl (heap_setCell_same _ _ 1 _ _ _ (heap_setCell_same _ _ 0 _ _ _ hk'.out)) Tryz.underlying90 rfl (by kernel_rfl)) rfl ⟨by rw [ha.out]; rfl, ?_⟩
    exact (hb3.setCell (Nat.le_refl _) _).setCell (Nat.le_refl _) _
end Go.Proofs.YtlpdomgedaockaaGreatDoor
namespace Go.Proofs.YtlpdomgedaockaaGreatDoor
open Go.RowKit Go.Proofs.Cod
def RG.setI (G : RG) (ia : Nat) (i : In7) : RG := { G with I := putN G.I ia i }
section
variable {w w' : World} {tag tag' : Nat → RT} {base rb nb lb : Nat} {G : RG}
theorem RdW.setI (h : RdW w tag base rb nb lb G) {ia : Nat} {i i' : In7} (hi : G.I ia = some i) (hb : w'.heap[ia]? = some (.cells (insC i') 92)) (ho : ∀ b, b ≠ ia → w'.heap[b]? = w.heap[b]?) (hz : w'.heap.size = w.heap.size) (e1 : w'.os = w.os) (e2 : w'.tape = w.tape) (e3 : w'.output = w.output) :
    RdW w' tag base rb nb lb (G.setI ia i') ∧ Ext w tag w' tag := by
  have hI := h.ins ia i hi
  have hx : Ext w tag w' tag := ⟨e1, e2, e3, by omega, fun _ _ => rfl, fun b _ hbo => ho b (ne_tag hbo hI.2 (by simp))⟩
  refine ⟨h.step (fun g => g = .ins) hx (fun b _ _ h2 => ho b (fun e => h2 (by rw [e]; exact hI.2))) (fun b hb hn => absurd (h.tlt b hn).2 (by omega)) ((ho rb (ne_tag h.trd hI.2 (by simp))).trans h.cell) (fun k _ => .inl ⟨rfl, rfl, by simp⟩) (.inl ⟨rfl, rfl, by simp⟩) (.inl ⟨rfl, rfl, by simp⟩) (.inl ⟨rfl, by simp⟩) (by simp) (by simp) (by simp) (fun a c hc => .inl ⟨hc, by simp, by simp, by simp⟩) (fun a j hj => ?_) (fun c hc => .inl hc), hx⟩
  have hj' : putN G.I ia i' a = some j := hj
  unfold putN at hj'
  split at hj'
  · rename_i e
    cases hj'
    rw [e]
    exact .inr ⟨hb, hI.2⟩
  · rename_i e
    exact .inl ⟨hj', ho a e⟩
theorem RdW.setI1 (h : RdW w tag base rb nb lb G) {ia : Nat} {i i' : In7} (hi : G.I ia = some i) (k : Nat) (v : Value) (e : (insC i).setIfInBounds k v = insC i') :
    RdW (w.setCell ⟨ia, k, none⟩ v) tag base rb nb lb (G.setI ia i') ∧ Ext w tag (w.setCell ⟨ia, k, none⟩ v) tag :=
  h.setI hi (by rw [heap_setCell_same w ia k _ _ v (h.ins ia i hi).1, e]) (fun b hb => Below.heap_setCell w ⟨ia, k, none⟩ v b hb) (by simp) rfl rfl rfl
theorem RdW.setI2 (h : RdW w tag base rb nb lb G) {ia : Nat} {i i' : In7} (hi : G.I ia = some i) (k k' : Nat) (v v' : Value) (e : ((insC i).setIfInBounds k v).setIfInBounds k' v' = insC i') :
    RdW ((w.setCell ⟨ia, k, none⟩ v).setCell ⟨ia, k', none⟩ v') tag base rb nb lb (G.setI ia i') ∧ Ext w tag ((w.setCell ⟨ia, k, none⟩ v).setCell ⟨ia, k', none⟩ v') tag :=
  h.setI hi (by rw [heap_setCell_same _ ia k' _ _ v' (heap_setCell_same w ia k _ _ v (h.ins ia i hi).1), e]) (fun b hb => (Below.heap_setCell _ ⟨ia, k', none⟩ v' b hb).trans (Below.heap_setCell w ⟨ia, k, none⟩ v b hb)) (by simp) rfl rfl rfl
end
def FillP (nb lm ia : Nat) (i : In7) (c : Int) (t : Tx) (G G' : RG) : Prop :=
  (c = 114 ∧ G' = G.setI ia { i with r := (regN t : Int) }) ∨ (c = 97 ∧ G' = G.setI ia { i with aR := isReg t, aN := (argN t : Int) }) ∨ (c = 98 ∧ G' = G.setI ia { i with bR := isReg t, bN := (argN t : Int) }) ∨
  (c = 116 ∧ LaterP ia nb 116 t G G') ∨ (c = 108 ∧ LaterP ia lm 108 t G G') ∨ (c ≠ 114 ∧ c ≠ 97 ∧ c ≠ 98 ∧ c ≠ 116 ∧ c ≠ 108 ∧ ∃ n : Nat, G.N t = some (c, n) ∧ G' = G.setI ia { i with x := (n : Int) })
def FillE (c : Int) (t : Tx) (G : RG) (e : Int) : Prop := c ≠ 114 ∧ c ≠ 97 ∧ c ≠ 98 ∧ c ≠ 116 ∧ c ≠ 108 ∧ (∀ n, G.N t ≠ some (c, n)) ∧ e = 5
set_option maxRecDepth 100000 in
set_option maxHeartbeats 1000000 in
theorem fill_any {w : World} {tag : Nat → RT} {base rb nb lb : Nat} {G : RG} (h : RdW w tag base rb nb lb G) {a : Nat} {bc : BdC} (ha : G.bods.getLast? = some a) (hb : G.bods.length < 1048576) (hbc : G.B a = some bc) {ia : Nat} {i : In7} (hi : G.I ia = some i) (hlen : G.las.length < 1048576) (c : Int) (t : Tx) (hf : fitsP t c = true) :
    Calls Tryz.prog 132 #[ptrV rb, ptrV ia, .int .u8 c, .string (bs t)] w (Out w tag base rb nb lb G.line (FillP nb bc.lm ia i c t G) (FillE c t G)) := by
  have hI := (h.ins ia i hi).1
  have fr : ∀ k, w.frozen? ⟨ia, k, none⟩ = false := fun k => by simp [World.frozen?, hI]
  have hil := h.lt (h.ins ia i hi).2 (by simp)
  by_cases c1 : c = 114
  · subst c1
    have hreg : isReg t = true := by simpa [fitsP] using hf
    have hN := registerNumber_any t hreg w
    have HE := hide (h.setI1 hi (i' := { i with r := (regN t : Int) }) 1 (.int .i64 (regN t)) rfl)
    have d1 : w.cell? ⟨ia, 1, none⟩ = some (.int .i64 i.r) := by simp [World.cell?, hI, insC]
    have f1 := fr 1
    unfold ptrV
    clear h hI fr hf hreg
    go_enter Tryz.func132, Tryz.ntmps132
    go_wp2_with fail
    refine hN.mono ?_
    rintro e w1 ⟨rfl, rfl⟩
    go_wp2_with fail
    go_end0
    exact .inl ⟨tag, _, rfl, HE.out.1, HE.out.2, .inl ⟨rfl, rfl⟩⟩
  · by_cases c2 : c = 97
    · subst c2
      have harg : (isReg t || isNum t) = true := by simpa [fitsP] using hf
      have hN := argOf_any t harg w
      have HE : Hid (∀ w1, Below w.heap.size w w1 → w1.cell? ⟨ia, 2, none⟩ = some (.bool i.aR) ∧ w1.cell? ⟨ia, 3, none⟩ = some (.int .i64 i.aN) ∧ w1.frozen? ⟨ia, 2, none⟩ = false ∧ w1.frozen? ⟨ia, 3, none⟩ = false ∧ Hid (RdW ((w1.setCell ⟨ia, 2, none⟩ (.bool (isReg t))).setCell ⟨ia, 3, none⟩ (.int .i64 (argN t))) tag base rb nb lb (G.setI ia { i with aR := isReg t, aN := (argN t : Int) }) ∧ Ext w tag ((w1.setCell ⟨ia, 2, none⟩ (.bool (isReg t))).setCell ⟨ia, 3, none⟩ (.int .i64 (argN t))) tag)) := fun w1 hb1 => by
        have h1 := h.below hb1
        have hI1 := (h1.ins ia i hi).1
        have := h1.setI2 hi (i' := { i with aR := isReg t, aN := (argN t : Int) }) 2 3 (.bool (isReg t)) (.int .i64 (argN t)) rfl
        exact ⟨by simp [World.cell?, hI1, insC], by simp [World.cell?, hI1, insC], by simp [World.frozen?, hI1], by simp [World.frozen?, hI1], this.1, (Ext.of_below hb1).trans this.2⟩
      unfold ptrV
      clear h hI fr hf harg
      go_enter Tryz.func132, Tryz.ntmps132
      go_wp2_with fail
      refine hN.mono ?_
      rintro e w1 ⟨rfl, hb1⟩
      obtain ⟨d2, d3, f2, f3, HE⟩ := HE.out w1 hb1
      go_wp2_with fail
      go_end0
      exact .inl ⟨tag, _, rfl, HE.out.1, HE.out.2, .inr (.inl ⟨rfl, rfl⟩)⟩
    · by_cases c3 : c = 98
      · subst c3
        have harg : (isReg t || isNum t) = true := by simpa [fitsP] using hf
        have hN := argOf_any t harg w
        have HE : Hid (∀ w1, Below w.heap.size w w1 → w1.cell? ⟨ia, 4, none⟩ = some (.bool i.bR) ∧ w1.cell? ⟨ia, 5, none⟩ = some (.int .i64 i.bN) ∧ w1.frozen? ⟨ia, 4, none⟩ = false ∧ w1.frozen? ⟨ia, 5, none⟩ = false ∧ Hid (RdW ((w1.setCell ⟨ia, 4, none⟩ (.bool (isReg t))).setCell ⟨ia, 5, none⟩ (.int .i64 (argN t))) tag base rb nb lb (G.setI ia { i with bR := isReg t, bN := (argN t : Int) }) ∧ Ext w tag ((w1.setCell ⟨ia, 4, none⟩ (.bool (isReg t))).setCell ⟨ia, 5, none⟩ (.int .i64 (argN t))) tag)) := fun w1 hb1 => by
          have h1 := h.below hb1
          have hI1 := (h1.ins ia i hi).1
          have := h1.setI2 hi (i' := { i with bR := isReg t, bN := (argN t : Int) }) 4 5 (.bool (isReg t)) (.int .i64 (argN t)) rfl
          exact ⟨by simp [World.cell?, hI1, insC], by simp [World.cell?, hI1, insC], by simp [World.frozen?, hI1], by simp [World.frozen?, hI1], this.1, (Ext.of_below hb1).trans this.2⟩
        unfold ptrV
        clear h hI fr hf harg
        go_enter Tryz.func132, Tryz.ntmps132
        go_wp2_with fail
        refine hN.mono ?_
        rintro e w1 ⟨rfl, hb1⟩
        obtain ⟨d2, d3, f2, f3, HE⟩ := HE.out w1 hb1
        go_wp2_with fail
        go_end0
        exact .inl ⟨tag, _, rfl, HE.out.1, HE.out.2, .inr (.inr (.inl ⟨rfl, rfl⟩))⟩
      · by_cases c4 : c = 116
        · subst c4
          have hN := fillLater_any h hlen ia nb 116 t
          have d7 := h.namC
          unfold ptrV at hN ⊢
          clear h hI fr hf
          go_enter Tryz.func132, Tryz.ntmps132
          go_wp2_with fail
          refine hN.mono ?_
          rintro e w1 ⟨rfl, tag', G', h1, h2, h3⟩
          go_wp2_with fail
          go_end0
          exact .inl ⟨tag', G', rfl, h1, h2, .inr (.inr (.inr (.inl ⟨rfl, h3⟩)))⟩
        · by_cases c5 : c = 108
          · subst c5
            have hC := current_any h ha (by omega)
            have HE : Hid (∀ w1, Below w.heap.size w w1 → w1.cell? ⟨a, 1, none⟩ = some (.map (some bc.lm)) ∧ Calls Tryz.prog 148 #[ptrV rb, ptrV ia, .map (some bc.lm), .int .u8 108, .string (bs t)] w1 fun en w' => en = .returned (.tuple #[]) ∧ ∃ tag' G', RdW w' tag' base rb nb lb G' ∧ Ext w tag w' tag' ∧ LaterP ia bc.lm 108 t G G') := fun w1 hb1 => by
              have h1 := h.below hb1
              refine ⟨by simp [World.cell?, (h1.bodies a bc hbc).cell], (fillLater_any h1 hlen ia bc.lm 108 t).mono ?_⟩
              rintro en w' ⟨e1, tag', G', q1, q2, q3⟩
              exact ⟨e1, tag', G', q1, (Ext.of_below hb1).trans q2, q3⟩
            unfold ptrV at hC HE ⊢
            clear h hI fr hf
            go_enter Tryz.func132, Tryz.ntmps132
            go_wp2_with fail
            refine hC.mono ?_
            rintro e w1 ⟨rfl, hb1⟩
            obtain ⟨d1, hN⟩ := HE.out w1 hb1
            go_wp2_with fail
            refine hN.mono ?_
            rintro e w2 ⟨rfl, tag', G', h1, h2, h3⟩
            go_wp2_with fail
            go_end0
            exact .inl ⟨tag', G', rfl, h1, h2, .inr (.inr (.inr (.inr (.inl ⟨rfl, h3⟩))))⟩
          · have d7 := h.namC
            have d0 := h.lineC
            have f6 := fr 6
            have d6 : w.cell? ⟨ia, 6, none⟩ = some (.int .i64 i.x) := by simp [World.cell?, hI, insC]
            have hM : MapOk w.drew tag nb G.N := h.names
            have hF := find_any hM c t G.line
            have HX := hide (⟨rfl, rfl, rfl, Nat.le_refl _, fun _ _ => rfl, fun _ _ _ => rfl⟩ : Ext w tag w.drew tag)
            have HQ := hide (⟨c1, c2, c3, c4, c5⟩ : _ ∧ _ ∧ _ ∧ _ ∧ _)
            unfold ptrV
            by_cases hn : ∃ n, G.N t = some (c, n)
            · obtain ⟨n, hn⟩ := hn
              have hF' := hF.mono (R' := fun en w' => en = .returned (.int .i64 n) ∧ w' = w.drew) (fun en w' hh => by
                rcases hh with ⟨⟨m, hm, e1⟩ | ⟨hm, _⟩, e2⟩
                · rw [hn] at hm; cases hm; exact ⟨e1, e2⟩
                · exact absurd hn (hm n))
              have HE := hide (RdW.setI1 (w := w.drew) (h.keep (fun _ _ => rfl) HX.out) hi (i' := { i with x := (n : Int) }) 6 (.int .i64 n) rfl)
              replace hn := hide hn
              clear h hI fr hf hM hF
              go_enter Tryz.func132, Tryz.ntmps132
              go_wp2_with fail
              go_region_with (refine hF'.mono ?_; rintro e w1 ⟨rfl, rfl⟩)
              all_goals
                go_wp2_with fail
                go_end0
                exact .inl ⟨tag, _, rfl, HE.out.1, HX.out.trans HE.out.2, .inr (.inr (.inr (.inr (.inr ⟨c1, c2, c3, c4, c5, n, hn.out, rfl⟩))))⟩
            · have hF' := hF.mono (R' := fun en w' => en = .panicked (faultC 5 G.line) ∧ w' = w.drew) (fun en w' hh => by
                rcases hh with ⟨⟨m, hm, e1⟩ | ⟨hm, e1⟩, e2⟩
                · exact absurd ⟨m, hm⟩ hn
                · exact ⟨e1, e2⟩)
              replace hn := hide hn
              clear h hI fr hf hM hF
              go_enter Tryz.func132, Tryz.ntmps132
              go_wp2_with fail
              refine wp_region_held_drew (S := (fun w' => w'.cell? ⟨rb, 7, none⟩ = some (.map (some nb)) ∧ w'.cell? ⟨rb, 0, none⟩ = some (.int .i64 G.line))) (by kernel_rfl) ⟨d7, d0⟩ (fun hHeld => ?_)
              refine wpAnyH_take (i := 0) (v := ?_) rfl (by kernel_rfl) (by kernel_rfl) (by kernel_rfl) (fun _ _ _ h => h) (Or.inl ⟨by rfl, ?_⟩) hHeld ?_
              rotate_left
              · intro w9 hSw; (try dsimp only at hSw); go_simp; try with_reducible rfl
              simp only [Act.put, List.getElem_toArray, List.getElem_cons_zero, List.getElem_cons_succ, List.setIfInBounds_toArray, List.set_cons_succ, List.set_cons_zero]
              refine wpAnyH_take (i := 1) (v := ?_) rfl (by kernel_rfl) (by kernel_rfl) (by kernel_rfl) (fun _ _ _ h => h) (Or.inl ⟨by rfl, ?_⟩) hHeld ?_
              rotate_left
              · intro w9 hSw; (try dsimp only at hSw); go_simp; try with_reducible rfl
              simp only [Act.put, List.getElem_toArray, List.getElem_cons_zero, List.getElem_cons_succ, List.setIfInBounds_toArray, List.set_cons_succ, List.set_cons_zero]
              refine wpAnyH_take (i := 2) (v := ?_) rfl (by kernel_rfl) (by kernel_rfl) (by kernel_rfl) (fun _ _ _ h => h) (Or.inl ⟨by rfl, ?_⟩) hHeld ?_
              rotate_left
              · intro w9 hSw; (try dsimp only at hSw); go_simp; try with_reducible rfl
              simp only [Act.put, List.getElem_toArray, List.getElem_cons_zero, List.getElem_cons_succ, List.setIfInBounds_toArray, List.set_cons_succ, List.set_cons_zero]
              refine wpAnyH_take (i := 3) (v := ?_) rfl (by kernel_rfl) (by kernel_rfl) (by kernel_rfl) (fun _ _ _ h => h) (Or.inl ⟨by rfl, ?_⟩) hHeld ?_
              rotate_left
              · intro w9 hSw; (try dsimp only at hSw); go_simp; try with_reducible rfl
              simp only [Act.put, List.getElem_toArray, List.getElem_cons_zero, List.getElem_cons_succ, List.setIfInBounds_toArray, List.set_cons_succ, List.set_cons_zero]
              refine wpAnyH_take (i := 4) (v := ?_) rfl (by kernel_rfl) (by kernel_rfl) (by kernel_rfl) (fun _ _ _ h => h) (Or.inl ⟨by rfl, ?_⟩) hHeld ?_
              rotate_left
              · intro w9 hSw; (try dsimp only at hSw); go_simp; try with_reducible rfl
              simp only [Act.put, List.getElem_toArray, List.getElem_cons_zero, List.getElem_cons_succ, List.setIfInBounds_toArray, List.set_cons_succ, List.set_cons_zero]
              refine wpAnyH_take (i := 5) (v := ?_) rfl (by kernel_rfl) (by kernel_rfl) (by kernel_rfl) (fun _ _ _ h => h) (Or.inl ⟨by rfl, ?_⟩) hHeld ?_
              rotate_left
              · intro w9 hSw; (try dsimp only at hSw); go_simp; try with_reducible rfl
              simp only [Act.put, List.getElem_toArray, List.getElem_cons_zero, List.getElem_cons_succ, List.setIfInBounds_toArray, List.set_cons_succ, List.set_cons_zero]
              refine wpAnyH_take (i := 6) (v := ?_) rfl (by kernel_rfl) (by kernel_rfl) (by kernel_rfl) (fun _ _ _ h => h) (Or.inl ⟨by rfl, ?_⟩) hHeld ?_
              rotate_left
              · intro w9 hSw; (try dsimp only at hSw); go_simp; try with_reducible rfl
              simp only [Act.put, List.getElem_toArray, List.getElem_cons_zero, List.getElem_cons_succ, List.setIfInBounds_toArray, List.set_cons_succ, List.set_cons_zero]
              refine wpAnyH_take (i := 7) (v := ?_) rfl (by kernel_rfl) (by kernel_rfl) (by kernel_rfl) (fun _ _ _ h => h) (Or.inl ⟨by rfl, ?_⟩) hHeld ?_
              rotate_left
              · intro w9 hSw; (try dsimp only at hSw); go_simp; try with_reducible rfl
              simp only [Act.put, List.getElem_toArray, List.getElem_cons_zero, List.getElem_cons_succ, List.setIfInBounds_toArray, List.set_cons_succ, List.set_cons_zero]
              refine wpAnyH_take (i := 8) (v := ?_) rfl (by kernel_rfl) (by kernel_rfl) (by kernel_rfl) (fun _ _ _ h => h) (Or.inl ⟨by rfl, ?_⟩) hHeld ?_
              rotate_left
              · intro w9 hSw; (try dsimp only at hSw); go_simp; try with_reducible rfl
              simp only [Act.put, List.getElem_toArray, List.getElem_cons_zero, List.getElem_cons_succ, List.setIfInBounds_toArray, List.set_cons_succ, List.set_cons_zero]
              refine wpAnyH_take (i := 9) (v := ?_) rfl (by kernel_rfl) (by kernel_rfl) (by kernel_rfl) (fun _ _ _ h => h) (Or.inl ⟨by rfl, ?_⟩) hHeld ?_
              rotate_left
              · intro w9 hSw; (try dsimp only at hSw); go_simp; try with_reducible rfl
              simp only [Act.put, List.getElem_toArray, List.getElem_cons_zero, List.getElem_cons_succ, List.setIfInBounds_toArray, List.set_cons_succ, List.set_cons_zero]
              refine wpAnyH_take (i := 10) (v := ?_) rfl (by kernel_rfl) (by kernel_rfl) (by kernel_rfl) (fun _ _ _ h => h) (Or.inl ⟨by rfl, ?_⟩) hHeld ?_
              rotate_left
              · intro w9 hSw; (try dsimp only at hSw); go_simp; try with_reducible rfl
              simp only [Act.put, List.getElem_toArray, List.getElem_cons_zero, List.getElem_cons_succ, List.setIfInBounds_toArray, List.set_cons_succ, List.set_cons_zero]
              refine wpAnyH_ready (rs := [11]) (by kernel_rfl) (by simp) ?_
              refine AllReadyH.cons rfl (fun K hK => ?_) AllReadyH.nil
              go_simp
              go_at_call 149
              refine hF'.mono ?_
              rintro e w1 ⟨rfl, rfl⟩
              exact ⟨rfl, .inr ⟨tag, 5, rfl, HX.out, c1, c2, c3, c4, c5, fun n e => hn.out ⟨n, e⟩, rfl⟩⟩
end Go.Proofs.YtlpdomgedaockaaGreatDoor
namespace Go.Proofs.YtlpdomgedaockaaGreatDoor
open Go.RowKit Go.Proofs.Cod
theorem rowG_push {w : World} {tag : Nat → RT} {base e : Nat} {gt : RT} {v : Value} {xs : List Value} {T : TypeId} {i : TypeInfo} {z : Value} {bytes : Nat} (hrow : w.ownsRow base e 1 v xs.length xs) (htg : ∀ g, v.ownBlock = some g → tag g = gt) (hgt : gt ≠ .o) (ht : Tryz.prog.underlying T = some (.slice e)) (hi : Tryz.prog.info? e = some i) (hz : i.zero = some z) (hs : i.size = 1) (hy : i.bytes = bytes) (hzs : z.cells.size = 1) (hby : bytes ≤ 64)
    (x : Value) (hx : x.oneCell' = true) (ty : TypeId) (hlen : xs.length < 1048576) (hbase : base ≤ w.heap.size) (hto : ∀ b, tag b ≠ .o → b < w.heap.size) :
    ∃ (g cap : Nat) (w' : World) (tag' : Nat → RT), (Builtin.append_ #[T, T] ty #[v, .slice (some ⟨w.heap.size, 0, none⟩) 1 1]).run Tryz.prog (w.alloc (.cells #[x] e)) = .ok (.slice (some ⟨g, 0, none⟩) (xs.length + 1) cap) w' ∧
      w'.ownsRow base e 1 (.slice (some ⟨g, 0, none⟩) (xs.length + 1) cap) (xs.length + 1) (xs ++ [x]) ∧ tag' g = gt ∧ w'.os = w.os ∧ w'.tape = w.tape ∧ w'.output = w.output ∧ w.heap.size + 1 ≤ w'.heap.size ∧
      (∀ b, b < w.heap.size → tag b ≠ gt → w'.heap[b]? = w.heap[b]?) ∧ (∀ b, b ≤ w.heap.size → tag' b = tag b) ∧ (∀ b, w.heap.size ≤ b → tag' b ≠ .o → b < w'.heap.size) := by
  obtain ⟨g, cap, w', hr, r1, ro, rt, rp, rz, rb, rg⟩ := owns_push hrow ht hi hz hs hy hzs hby x hx ty hlen hbase
  have hgl := r1.lt g rfl
  refine ⟨g, cap, w', tagRow tag (w.heap.size + 1) gt (.slice (some ⟨g, 0, none⟩) (xs.length + 1) cap), hr, r1, ?_, ro, rt, rp, rz, fun b hb hn => rb b hb (fun e => hn (htg b e)), fun b hb => tagRow_old (by omega), fun b hb hn => ?_⟩
  · rcases rg with e | e
    · have := hto g (by rw [htg g e]; exact hgt)
      rw [tagRow_old (by omega)]; exact htg g e
    · subst e; exact tagRow_is rfl
  · by_cases e : b = w.heap.size + 1
    · subst e
      by_cases e2 : g = w.heap.size + 1
      · rw [← e2]; exact hgl.2
      · exfalso; apply hn
        unfold tagRow; rw [tagAt_new, if_neg]
        intro e3
        have e3 : some g = some (w.heap.size + 1) := e3
        exact e2 (Option.some.inj e3)
    · rw [tagRow_old e] at hn
      have := hto b hn; omega
def RG.code (G : RG) (a : Nat) (c : BdC) (ia : Nat) (v : Value) : RG := { G with B := putN G.B a { c with ins := c.ins ++ [ia], cv := v } }
section
variable {w w' : World} {tag tag' : Nat → RT} {base rb nb lb : Nat} {G : RG}
theorem RdW.newI (h : RdW w tag base rb nb lb G) (i : In7) : RdW (w.alloc (.cells (insC i) 92)) (tagAt tag w.heap.size .ins) base rb nb lb (G.setI w.heap.size i) ∧ Ext w tag (w.alloc (.cells (insC i) 92)) (tagAt tag w.heap.size .ins) := by
  have hx : Ext w tag (w.alloc (.cells (insC i) 92)) (tagAt tag w.heap.size .ins) := ⟨rfl, rfl, rfl, by simp, fun b hb => tagAt_old _ (by omega), fun b hb _ => Below.heap_alloc w _ b hb⟩
  refine ⟨h.step (fun _ => False) hx (fun b hb _ _ => Below.heap_alloc w _ b hb) (fun b hb hn => ?_) ((Below.heap_alloc w _ rb (h.lt h.trd (by simp))).trans h.cell) (fun k _ => .inl ⟨rfl, rfl, id⟩) (.inl ⟨rfl, rfl, id⟩) (.inl ⟨rfl, rfl, id⟩) (.inl ⟨rfl, id⟩) id id id (fun a c hc => .inl ⟨hc, id, id, id⟩) (fun a j hj => ?_) (fun c hc => .inl hc), hx⟩
  · unfold tagAt at hn
    split at hn
    · simp; omega
    · exact absurd (h.tlt b hn).2 (by omega)
  · have hj' : putN G.I w.heap.size i a = some j := hj
    unfold putN at hj'
    split at hj'
    · rename_i e
      cases hj'
      rw [e]
      exact .inr ⟨World.alloc_heap_new w _, tagAt_new _ _ _⟩
    · exact .inl ⟨hj', Below.heap_alloc w _ a (h.lt (h.ins a j hj').2 (by simp))⟩
theorem RdW.code (h : RdW w tag base rb nb lb G) {a : Nat} {c : BdC} (hc : G.B a = some c) (hlen : c.ins.length < 1048576) (ia : Nat) :
    ∃ g cap w3, (Builtin.append_ #[199, 199] 199 #[c.cv, .slice (some ⟨w.heap.size, 0, none⟩) 1 1]).run Tryz.prog (w.alloc (.cells #[ptrV ia] 202)) = .ok (.slice (some ⟨g, 0, none⟩) (c.ins.length + 1) cap) w3 ∧
      w3.cell? ⟨a, 0, none⟩ = some c.cv ∧ w3.frozen? ⟨a, 0, none⟩ = false ∧
      ∃ tag', RdW (w3.setCell ⟨a, 0, none⟩ (.slice (some ⟨g, 0, none⟩) (c.ins.length + 1) cap)) tag' base rb nb lb (G.code a c ia (.slice (some ⟨g, 0, none⟩) (c.ins.length + 1) cap)) ∧ Ext w tag (w3.setCell ⟨a, 0, none⟩ (.slice (some ⟨g, 0, none⟩) (c.ins.length + 1) cap)) tag' := by
  have hB := h.bodies a c hc
  have hal := h.lt hB.ta (by simp)
  have hg3 := h.g3
  have hto : ∀ b, tag b ≠ .o → b < w.heap.size := fun b hb => (h.tlt b hb).2
  obtain ⟨i0, hi, hy0, hy1, hy2⟩ := info_parts Tryz.infoIn
  have hrow := hB.code
  rw [show c.ins.length = (c.ins.map ptrV).length by simp] at hrow
  obtain ⟨g, cap, w3, tag3, hr3, hrow3, htg3, o3, t3, p3, z3, b3, old3, new3⟩ := rowG_push hrow hB.tcode (by simp) Tryz.underlying199 hi hy0 hy1 hy2 rfl (by omega) (ptrV ia) (by simp [Value.oneCell', ptrV]) 199 (by simpa using hlen) (by omega) hto
  rw [List.length_map] at hr3 hrow3
  have hab3 : w3.heap[a]? = w.heap[a]? := b3 a hal (by rw [hB.ta]; simp)
  have hx : Ext w tag (w3.setCell ⟨a, 0, none⟩ (.slice (some ⟨g, 0, none⟩) (c.ins.length + 1) cap)) tag3 := by
    refine ⟨o3, t3, p3, by simp; omega, fun b hb => old3 b (by omega), fun b hb hbo => ?_⟩
    rw [Below.heap_setCell w3 ⟨a, 0, none⟩ _ b (ne_tag hbo hB.ta (by simp))]
    exact b3 b hb (by rw [hbo]; simp)
  have hc3 : w3.cell? ⟨a, 0, none⟩ = some c.cv := by simp [World.cell?, hab3, hB.cell]
  refine ⟨g, cap, w3, hr3, hc3, by simp [World.frozen?, hab3, hB.cell], tag3, ?_, hx⟩
  have hother : ∀ b, b < w.heap.size → tag b ≠ .cd a → tag b ≠ .bd a → (w3.setCell ⟨a, 0, none⟩ (.slice (some ⟨g, 0, none⟩) (c.ins.length + 1) cap)).heap[b]? = w.heap[b]? := fun b hb h1 h2 => by
    rw [Below.heap_setCell w3 ⟨a, 0, none⟩ _ b (fun e => h2 (by have e : b = a := e; rw [e]; exact hB.ta))]
    exact b3 b hb h1
  refine h.step (fun x => x = .cd a ∨ x = .bd a) hx (fun b hb h1 h2 => hother b hb (fun e => h2 (.inl e)) (fun e => h2 (.inr e))) (fun b hb hn => by simp only [World.size_setCell]; exact new3 b hb hn) ((hother rb (h.lt h.trd (by simp)) (by rw [h.trd]; simp) (by rw [h.trd]; simp)).trans h.cell) (fun k hkk => .inl ⟨rfl, rfl, by simp⟩) (.inl ⟨rfl, rfl, by simp⟩) (.inl ⟨rfl, rfl, by simp⟩) (.inl ⟨rfl, by simp⟩) (by simp) (by simp) (by simp) (fun b d hd => ?_) (fun b i hi => .inl ⟨hi, ?_⟩) (fun d hd => .inl hd)
  · have hd' : putN G.B a { c with ins := c.ins ++ [ia], cv := .slice (some ⟨g, 0, none⟩) (c.ins.length + 1) cap } b = some d := hd
    unfold putN at hd'
    split at hd'
    · rename_i e
      cases hd'
      rw [e]
      right
      have hgl := hrow3.lt g rfl
      have hga : g ≠ a := fun e => by
        rw [e, old3 a (by omega), hB.ta] at htg3
        cases htg3
      refine ⟨by rw [heap_setCell_same w3 a 0 _ _ _ (hab3.trans hB.cell)]; rfl, ?_, ?_, ?_, ?_, ?_⟩
      · have e2 : (c.ins ++ [ia]).length = c.ins.length + 1 := by simp
        show World.ownsRow _ base _ 1 _ (c.ins ++ [ia]).length ((c.ins ++ [ia]).map ptrV)
        rw [e2, List.map_append]
        exact owns_same hrow3 fun x hx => by
          have hx : some g = some x := hx
          cases hx
          exact Below.heap_setCell w3 ⟨a, 0, none⟩ _ g hga
      · intro x hx
        have hx : some g = some x := hx
        cases hx
        exact htg3
      · refine hB.labs.kept (hother c.lm (h.lt hB.tl (by simp)) (by rw [hB.tl]; simp) (by rw [hB.tl]; simp)) fun x hx => ?_
        have hl := h.lt hx (by simp)
        exact ⟨hother x hl (by rw [hx]; simp) (by rw [hx]; simp), (old3 x (by omega)).trans hx⟩
      · exact (old3 a (by omega)).trans hB.ta
      · exact (old3 c.lm (by have := h.lt hB.tl (by simp); omega)).trans hB.tl
    · rename_i e
      exact .inl ⟨hd', by simpa using e, by simpa using e, by simp⟩
  · have := h.ins b i hi
    exact hother b (h.lt this.2 (by simp)) (by rw [this.2]; simp) (by rw [this.2]; simp)
end
def fillOne (N : Tx → Option (Int × Nat)) (i : In7) (p : Int × Tx) : Option In7 :=
  if p.1 = 114 then some { i with r := (regN p.2 : Int) } else if p.1 = 97 then some { i with aR := isReg p.2, aN := (argN p.2 : Int) } else if p.1 = 98 then some { i with bR := isReg p.2, bN := (argN p.2 : Int) }
  else if p.1 = 116 then some i else if p.1 = 108 then some i else match N p.2 with
    | some (k, n) => if k = p.1 then some { i with x := (n : Int) } else none
    | none => none
def fillAll (N : Tx → Option (Int × Nat)) : In7 → List (Int × Tx) → Option In7
  | i, [] => some i
  | i, p :: l => match fillOne N i p with
    | some i' => fillAll N i' l
    | none => none
def CloC.key (c : CloC) : Nat × Nat × Int × Tx × Int := (c.ia, c.tb, c.kd, c.nm, c.ln)
def offOf (nb lm ia : Nat) (l : Int) (p : Int × Tx) : List (Nat × Nat × Int × Tx × Int) := if p.1 = 116 then [(ia, nb, p.1, p.2, l)] else if p.1 = 108 then [(ia, lm, p.1, p.2, l)] else []
def zipP (ps : Tx) (ts : List Tx) : List (Int × Tx) := (ps.map fun c => (c.toNat : Int)).zip ts
def newIns (op : Tx) : In7 := ⟨op, 0, false, 0, false, 0, 0⟩
end Go.Proofs.YtlpdomgedaockaaGreatDoor
namespace Go.Proofs.YtlpdomgedaockaaGreatDoor
open Go.RowKit Go.Proofs.Cod
def codeC (l : List In7) : List Value := l.flatMap fun i => (insC i).toList
def thrC (l : List (Tx × Value)) : List Value := l.flatMap fun p => [.string (bs p.1), p.2]
theorem codeC_len (l : List In7) : (codeC l).length = l.length * 7 := by
  induction l with
  | nil => rfl
  | cons i l ih =>
    show (((insC i).toList ++ codeC l)).length = _
    rw [List.length_append, ih]; simp [insC]; omega
theorem thrC_len (l : List (Tx × Value)) : (thrC l).length = l.length * 2 := by
  induction l with
  | nil => rfl
  | cons i l ih =>
    show (([.string (bs i.1), i.2] ++ thrC l)).length = _
    rw [List.length_append, ih]; simp; omega
theorem Tryz.infoI7 : (Tryz.prog.info? 92).map (fun i => (i.zero, i.size, i.bytes)) = some (some (.agg #[.string ByteArray.empty, .int .i64 0, .bool false, .int .i64 0, .bool false, .int .i64 0, .int .i64 0]), 7, 64) := by kernel_rfl
theorem Tryz.infoTh : (Tryz.prog.info? 106).map (fun i => (i.zero, i.size, i.bytes)) = some (some (.agg #[.string ByteArray.empty, .slice none 0 0]), 2, 40) := by kernel_rfl
theorem cell_at {W : World} {b e j : Nat} {cs : Array Value} {u : Value} (h : W.heap[b]? = some (.cells cs e)) (hu : cs[j]? = some u) : W.cell? ((⟨b, 0, none⟩ : Addr).add j) = some u := by
  by_cases e0 : j = 0
  · subst e0; simp [World.cell?, Addr.add, h, hu]
  · simp [World.cell?, Addr.add, h, hu, e0]
theorem owns_pushN {w : World} {base e size n : Nat} {v : Value} {xs : List Value} {T : TypeId} {i : TypeInfo} {z : Value} {bytes : Nat} (hrow : w.ownsRow base e size v n xs) (ht : Tryz.prog.underlying T = some (.slice e)) (hi : Tryz.prog.info? e = some i) (hz : i.zero = some z) (hs : i.size = size) (hy : i.bytes = bytes) (hzs : z.cells.size = size) (hby : bytes ≤ 64)
    (xc : List Value) (hxl : xc.length = size) (hx : ∀ u ∈ xc, u.oneCell' = true) (ty : TypeId) (hlen : n < 1048576) (hbase : base ≤ w.heap.size) :
    ∃ (g cap : Nat) (w' : World), (Builtin.append_ #[T, T] ty #[v, .slice (some ⟨w.heap.size, 0, none⟩) 1 1]).run Tryz.prog (w.alloc (.cells xc.toArray e)) = .ok (.slice (some ⟨g, 0, none⟩) (n + 1) cap) w' ∧
      w'.ownsRow base e size (.slice (some ⟨g, 0, none⟩) (n + 1) cap) (n + 1) (xs ++ xc) ∧ w'.os = w.os ∧ w'.tape = w.tape ∧ w'.output = w.output ∧ w.heap.size + 1 ≤ w'.heap.size ∧
      (∀ b, b < w.heap.size → v.ownBlock ≠ some b → w'.heap[b]? = w.heap[b]?) ∧ (v.ownBlock = some g ∨ g = w.heap.size + 1) := by
  obtain ⟨v', w', hr, r1, r2, r3⟩ := run_append_blk (P := Tryz.prog) (w.alloc (.cells xc.toArray e)) base T ty e i z size bytes ht hi hz hs hy hzs v n xs (hrow.alloc _) ⟨w.heap.size, 0, none⟩ 1 1 xc (by omega) (by simp [hxl])
    (fun j u hu => cell_at (World.alloc_heap_new w _) (by simpa using hu)) hx (by unfold maxLen; omega)
    (by have : (n + 1) * bytes ≤ 1048576 * 64 := Nat.mul_le_mul (by omega) hby
        omega) (by simp; omega)
  obtain ⟨g, cap, rfl⟩ := ownsRow_succ r1
  refine ⟨g, cap, w', hr, r1, r2.os, r2.tape, r2.output, by have := r2.size; simpa using this, fun b hb hn => (r2.block b (by simp; omega) (fun e => hn e.symm)).trans (Below.heap_alloc w _ b hb), ?_⟩
  rcases r3 with r3 | r3
  · exact .inl r3.symm
  · right
    have r3 : some g = some (w.alloc (.cells xc.toArray e)).heap.size := r3
    rw [World.size_alloc] at r3
    exact Option.some.inj r3
theorem step_append_run {P : Program} {ops : Array Oper} {o : Oper} {a : Act} {w : World} {K : Act → World → Prop} {Q : Exit → Act → World → Prop} {E : Prop}
    (hg : o.guard = none) (s x : Operand) (t : TypeId) (hop : o.op = Op.call { callee := Callee.builtin Builtin.append, args := #[s, x], argTypes := #[t, t] }) {v u v' : Value} {w' : World} {ty : TypeId} (hty : o.type = ty)
    (hs : a.eval s = v) (hx : a.eval x = u) (hrun : (Builtin.append_ #[t, t] ty #[v, u]).run P w = .ok v' w') (hK : K (a.put o.dst v') w') : if Region.wanted o (yielded ops a.tmps) = true then Oper.wp P o a w K Q else E := by
  have hw : Region.wanted o (yielded ops a.tmps) = true := by simp [Region.wanted, hg]
  rw [if_pos hw]
  unfold Oper.wp
  simp [execOp, hop, resolve, invoke, builtin, hs, hx, hty, hrun, Result.andThen]
  exact hK
theorem owns_len {w : World} {base e size n : Nat} {v : Value} {xs : List Value} (h : w.ownsRow base e size v n xs) : ∃ a cap, v = .slice a n cap := by
  rcases h.2 with ⟨h1, h2⟩ | ⟨g, cap, cur, h1, _⟩
  · exact ⟨none, 0, by rw [h1, h2]⟩
  · exact ⟨_, _, h1⟩
theorem c_base {w : World} {base base' e size n : Nat} {v : Value} {xs : List Value} (h : w.ownsRow base e size v n xs) (hb : base' ≤ base) : w.ownsRow base' e size v n xs := by
  refine ⟨h.1, ?_⟩
  rcases h.2 with hn | ⟨g, cap, cur, hv, h1, rest⟩
  · exact .inl hn
  · exact .inr ⟨g, cap, cur, hv, by omega, rest⟩
structure CompI (w1 w : World) (tb : Nat) (name : Tx) (cv : Value) (is : List In7) : Prop where
  cell : w.heap[tb]? = some (.cells #[.string (bs name), cv] 106)
  row : w.ownsRow (tb + 1) 92 7 cv is.length (codeC is)
  os : w.os = w1.os
  tape : w.tape = w1.tape
  output : w.output = w1.output
  size : tb < w.heap.size
  old : ∀ b, b < tb → w.heap[b]? = w1.heap[b]?
theorem CompI.push {w1 w : World} {tb : Nat} {name : Tx} {cv : Value} {is : List In7} (h : CompI w1 w tb name cv is) (i : In7) (hlen : is.length < 1048576) :
    ∃ g cap w3, (Builtin.append_ #[104, 104] 104 #[cv, .slice (some ⟨w.heap.size, 0, none⟩) 1 1]).run Tryz.prog (w.alloc (.cells (insC i) 92)) = .ok (.slice (some ⟨g, 0, none⟩) (is.length + 1) cap) w3 ∧
      w3.cell? ⟨tb, 1, none⟩ = some cv ∧ w3.frozen? ⟨tb, 1, none⟩ = false ∧ w3.cell? ⟨tb, 0, none⟩ = some (.string (bs name)) ∧ CompI w1 (w3.setCell ⟨tb, 1, none⟩ (.slice (some ⟨g, 0, none⟩) (is.length + 1) cap)) tb name (.slice (some ⟨g, 0, none⟩) (is.length + 1) cap) (is ++ [i]) ∧ (∀ b, b < tb → w3.heap[b]? = w1.heap[b]?) := by
  obtain ⟨i0, hi, hy0, hy1, hy2⟩ := info_parts Tryz.infoI7
  have hsz := h.size
  obtain ⟨g, cap, w3, hr, r1, ro, rt, rp, rz, rb, rg⟩ := owns_pushN h.row Tryz.underlying104 hi hy0 hy1 hy2 rfl (by omega) (insC i).toList (by simp [insC]) (by intro u hu; simp [insC] at hu; rcases hu with rfl | rfl | rfl | rfl | rfl | rfl | rfl <;> rfl) 104 hlen (by omega)
  have hno : ∀ b, b ≤ tb → cv.ownBlock ≠ some b := fun b hb e => by have := (h.row.lt b e).1; omega
  have hcell : w3.heap[tb]? = some (.cells #[.string (bs name), cv] 106) := (rb tb hsz (hno tb (Nat.le_refl _))).trans h.cell
  have hold : ∀ b, b < tb → w3.heap[b]? = w1.heap[b]? := fun b hb => (rb b (by omega) (hno b (by omega))).trans (h.old b hb)
  refine ⟨g, cap, w3, hr, by simp [World.cell?, hcell], by simp [World.frozen?, hcell], by simp [World.cell?, hcell], ⟨by rw [heap_setCell_same w3 tb 1 _ _ _ hcell]; rfl, ?_, ro.trans h.os, rt.trans h.tape, rp.trans h.output, by simp; omega, fun b hb => (Below.heap_setCell w3 ⟨tb, 1, none⟩ _ b (by show b ≠ tb; omega)).trans (hold b hb)⟩, hold⟩
  have e1 : codeC (is ++ [i]) = codeC is ++ (insC i).toList := by simp [codeC]
  rw [List.length_append, e1]
  refine owns_same r1 fun x hx => ?_
  have hgl := (r1.lt x hx).1
  exact Below.heap_setCell w3 ⟨tb, 1, none⟩ _ x (by show x ≠ tb; omega)
structure CompO (w0 w : World) (rb nb lb : Nat) (G : RG) (thV : Value) (L : List (Tx × Value)) (C : List (List In7)) : Prop where
  cell : w.heap[rb]? = some (.cells #[.int .i64 G.line, G.V 118, G.V 102, G.V 109, thV, G.V 116, G.bV, .map (some nb), .map (some lb), G.lV] 70)
  row : w.ownsRow w0.heap.size 106 2 thV L.length (thrC L)
  codes : ∀ (i : Nat) (p : Tx × Value) (is : List In7), L[i]? = some p → C[i]? = some is → w.ownsRow w0.heap.size 92 7 p.2 is.length (codeC is)
  len : C.length = L.length
  os : w.os = w0.os
  tape : w.tape = w0.tape
  output : w.output = w0.output
  size : w0.heap.size ≤ w.heap.size
  old : ∀ b, b < w0.heap.size → b ≠ rb → w.heap[b]? = w0.heap[b]?
theorem CompO.push {w0 wo w : World} {rb nb lb : Nat} {G : RG} {thV : Value} {L : List (Tx × Value)} {C : List (List In7)} {nm : Tx} {cv : Value} {is : List In7} (h : CompO w0 wo rb nb lb G thV L C) (hI : CompI wo w wo.heap.size nm cv is) (hr : rb < w0.heap.size) (hlen : L.length < 1048576) :
    ∃ g cap w3, (Builtin.append_ #[24, 24] 24 #[thV, .slice (some ⟨w.heap.size, 0, none⟩) 1 1]).run Tryz.prog (w.alloc (.cells #[.string (bs nm), cv] 106)) = .ok (.slice (some ⟨g, 0, none⟩) (L.length + 1) cap) w3 ∧
      w3.cell? ⟨rb, 4, none⟩ = some thV ∧ w3.frozen? ⟨rb, 4, none⟩ = false ∧ CompO w0 (w3.setCell ⟨rb, 4, none⟩ (.slice (some ⟨g, 0, none⟩) (L.length + 1) cap)) rb nb lb G (.slice (some ⟨g, 0, none⟩) (L.length + 1) cap) (L ++ [(nm, cv)]) (C ++ [is]) := by
  obtain ⟨i0, hi, hy0, hy1, hy2⟩ := info_parts Tryz.infoTh
  have hsz := h.size
  have hsi := hI.size
  have hro : w.heap[rb]? = wo.heap[rb]? := hI.old rb (by omega)
  have hrow : w.ownsRow w0.heap.size 106 2 thV L.length (thrC L) := owns_same h.row fun g e => hI.old g (h.row.lt g e).2
  obtain ⟨ca, ccap, hcv⟩ := owns_len hI.row
  obtain ⟨g, cap, w3, hrun, r1, ro, rt, rp, rz, rbk, rg⟩ := owns_pushN hrow Tryz.underlying24 hi hy0 hy1 hy2 rfl (by omega) [.string (bs nm), cv] rfl (by rw [hcv]; simp [Value.oneCell']) 24 hlen (by omega)
  have hno : ∀ b, b < w0.heap.size → thV.ownBlock ≠ some b := fun b hb e => by have := (h.row.lt b e).1; omega
  have hr3 : w3.heap[rb]? = some (.cells #[.int .i64 G.line, G.V 118, G.V 102, G.V 109, thV, G.V 116, G.bV, .map (some nb), .map (some lb), G.lV] 70) := (rbk rb (by omega) (hno rb hr)).trans (hro.trans h.cell)
  have hcode : ∀ {v : Value} {l : List In7} {b : Nat}, w.ownsRow b 92 7 v l.length (codeC l) → w0.heap.size ≤ b → (w3.setCell ⟨rb, 4, none⟩ (.slice (some ⟨g, 0, none⟩) (L.length + 1) cap)).ownsRow w0.heap.size 92 7 v l.length (codeC l) := fun {v l b} hv hb => by
    refine c_base (owns_same hv fun x e => ?_) hb
    have hx := hv.lt x e
    rw [Below.heap_setCell w3 ⟨rb, 4, none⟩ _ x (by show x ≠ rb; omega)]
    refine rbk x hx.2 (fun e2 => ?_)
    rcases hv.2 with ⟨rfl, _⟩ | ⟨y, c1, u1, rfl, _, hy, _⟩
    · cases e
    · rcases hrow.2 with ⟨rfl, _⟩ | ⟨z, c2, u2, rfl, _, hz, _⟩
      · cases e2
      · have e : some y = some x := e
        have e2 : some z = some x := e2
        cases e; cases e2
        rw [hy] at hz
        have : (92 : Nat) = 106 := by
          have := Option.some.inj hz
          simp only [Obj.cells.injEq] at this
          exact this.2.1
        omega
  refine ⟨g, cap, w3, hrun, by simp [World.cell?, hr3], by simp [World.frozen?, hr3], ⟨by rw [heap_setCell_same w3 rb 4 _ _ _ hr3]; rfl, ?_, fun i p js hp hjs => ?_, by simp [h.len], ro.trans (hI.os.trans h.os), rt.trans (hI.tape.trans h.tape), rp.trans (hI.output.trans h.output), by simp; omega, fun b hb hbr => ?_⟩⟩
  · have e1 : thrC (L ++ [(nm, cv)]) = thrC L ++ [.string (bs nm), cv] := by simp [thrC]
    rw [List.length_append, e1]
    refine owns_same r1 fun x e => ?_
    have := (r1.lt x e).1
    exact Below.heap_setCell w3 ⟨rb, 4, none⟩ _ x (by show x ≠ rb; omega)
  · by_cases e : i < L.length
    · rw [List.getElem?_append_left e] at hp
      rw [List.getElem?_append_left (by rw [h.len]; exact e)] at hjs
      have hv := h.codes i p js hp hjs
      exact hcode (owns_same hv fun x ex => hI.old x (hv.lt x ex).2) (Nat.le_refl _)
    · have hi' : i = L.length := by
        have := (List.getElem?_eq_some_iff.1 hp).1
        simp at this; omega
      subst hi'
      rw [List.getElem?_append_right (Nat.le_refl _), Nat.sub_self] at hp
      rw [List.getElem?_append_right (by rw [h.len]; exact Nat.le_refl _), h.len, Nat.sub_self] at hjs
      cases hp; cases hjs
      exact hcode hI.row (by omega)
  · rw [Below.heap_setCell w3 ⟨rb, 4, none⟩ _ b hbr]
    exact (rbk b (by omega) (hno b hb)).trans ((hI.old b (by omega)).trans (h.old b hb hbr))
end Go.Proofs.YtlpdomgedaockaaGreatDoor
