import Derived.Test.YtlpdomgedaockaaGreatDoorOl2
import Derived.RangeFuncNested
import Derived.RangeFuncBound
import Derived.RangeFuncCalls
import Derived.Shelf.Abstract
import Derived.Shelf.RegionOpen
import Derived.WalkKit
import Derived.OwnWalkIn
import Derived.TacticsInMore
import Derived.LoopNIn
import Derived.LoopIn
import Derived.Shelf.Lay
import Derived.Shelf.Strings.Search3
import Derived.ControlIn
import Derived.Deep.QuietTactic
import Derived.BigQuiet
import Derived.RegionTactic
import Derived.Handy
import Derived.Maps.AppendAt
import Derived.Laws.AppendOwnNone
set_option linter.unusedVariables false
set_option linter.unusedSimpArgs false
namespace Go.Proofs
open Go.Shelf
shelf_lay Lays.n143 Nm 143 at Tryz as Tryz.lays143
end Go.Proofs
namespace Go.Proofs.YtlpdomgedaockaaGreatDoor
open Go.RowKit Go.Shelf Go.Proofs.Cod Go.Lib
attribute [local go_sem] Oper.semAt_some
theorem index_any (t : Tx) (c : UInt8) (w : World) : Calls Tryz.prog 123 #[.string (bs t), .string (bs [c])] w fun e w' => e = .returned (.int .i64 (indexByte t c)) ∧ w' = w := by
  have h := Any.strings_Index_one Tryz.lays143 (bs t) c w
  have e : (bs t).data.toList = t := by simp [bs]
  rw [e] at h
  exact h
def lenAt (b : Nat) (w : World) : Nat := match w.cell? ⟨b, 0, none⟩ with
  | some (.string s) => s.size
  | _ => 0
theorem lenAt_is {b : Nat} {w : World} {t : Tx} (h : w.cell? ⟨b, 0, none⟩ = some (.string (bs t))) : lenAt b w = t.length := by
  unfold lenAt; rw [h]; exact bs_size t
set_option maxRecDepth 100000 in
set_option maxHeartbeats 1000000 in
theorem split_in (l Bsep Bs Bsave : Nat) (c : UInt8) (t : Tx) (J : Nat → World → Prop) (X : List PanicEntry → World → Prop) (hz : t.length < 4294967281)
    (hJ : ∀ i W v, J i W → J i (W.setCell ⟨Bs, 0, none⟩ v))
    (hY : ∀ i W p, J i W → (splitT c t)[i]? = some p → YieldAt Fence.wide 0 Tryz.prog l #[.string (bs p)] W fun e W' =>
      (e = .returned (.bool true) ∧ J (i + 1) W' ∧ W'.heap[Bsep]? = W.heap[Bsep]? ∧ W'.heap[Bs]? = W.heap[Bs]? ∧ W'.heap[Bsave]? = W.heap[Bsave]?) ∨ ∃ chain, e = .panicked chain ∧ X chain W')
    (W : World) (h1 : W.cell? ⟨Bsep, 0, none⟩ = some (.string (bs [c]))) (h2 : W.cell? ⟨Bs, 0, none⟩ = some (.string (bs t))) (h3 : W.cell? ⟨Bsave, 0, none⟩ = some (.int .i64 0)) (hf : W.frozen? ⟨Bs, 0, none⟩ = false)
    (hn1 : Bsep ≠ Bs) (hn2 : Bsave ≠ Bs) (h0 : J 0 W) :
    CallsIn Fence.wide 1 Tryz.prog 121 #[.func (.yield l) #[] #[], .pointer (some ⟨Bsep, 0, none⟩), .pointer (some ⟨Bs, 0, none⟩), .pointer (some ⟨Bsave, 0, none⟩)] W fun e W' =>
      (e = .returned (.tuple #[]) ∧ J (splitT c t).length W') ∨ ∃ chain, e = .panicked chain ∧ X chain W' := by
  have hsep : (bs [c]).size = 1 := bs_size [c]
  refine callsIn_of_wp Tryz.func121 rfl trivial ?_ rfl
  simp only [Tryz.ntmps121, List.size_toArray, List.length_cons, List.length_nil, Nat.reduceAdd, Nat.reduceSub, Array.replicate_succ, Array.replicate_zero, List.push_toArray, List.append_toArray, List.nil_append, List.cons_append]
  gi_wp2
  gi_loopw [7, 8] (fun _ _ wr => ∃ (i : Nat) (rest : Tx), wr.cell? ⟨Bsep, 0, none⟩ = some (.string (bs [c])) ∧ wr.cell? ⟨Bs, 0, none⟩ = some (.string (bs rest)) ∧ wr.cell? ⟨Bsave, 0, none⟩ = some (.int .i64 0) ∧ wr.frozen? ⟨Bs, 0, none⟩ = false ∧ rest.length ≤ t.length ∧ (splitT c t).drop i = splitT c rest ∧ J i wr) (fun _ _ wr => lenAt Bs wr)
  case atStart => exact ⟨0, t, h1, h2, h3, hf, Nat.le_refl _, rfl, h0⟩
  case round =>
    clear h1 h2 h3 hf h0
    obtain ⟨i, rest, h1, h2, h3, hf, hle, hdr, hJi⟩ := hrel
    have hge := indexByte_ge rest c
    have HI := index_any rest c
    by_cases hno : indexByte rest c = -1
    · have hone := splitT_none c rest hno
      rw [hone] at hdr
      have hlen : (splitT c t).length = i + 1 := by
        have h9 : ((splitT c t).drop i).length = 1 := by rw [hdr]; rfl
        rw [List.length_drop] at h9; omega
      have hget : (splitT c t)[i]? = some rest := by
        have h9 : ((splitT c t).drop i)[0]? = some rest := by rw [hdr]; rfl
        rw [List.getElem?_drop] at h9; simpa using h9
      obtain ⟨fn, tmps, assign, body, hy, hR⟩ := hY i wr rest hJi hget
      rw [hno] at HI
      gi_wp2_with (refine ⟨trivial, ?_⟩; gi_at_call 123; refine (callsIn_wide.2 (HI _)).mono ?_; rintro e w' ⟨rfl, rfl⟩)
      refine hR.mono ?_
      rintro e W3 (⟨rfl, hJ3, _⟩ | ⟨chain, rfl, hX⟩)
      · gi_wp2
        go_end0
        exact .inl ⟨rfl, by rw [hlen]; exact hJ3⟩
      · exact ⟨rfl, .inr ⟨chain, rfl, hX⟩⟩
    · obtain ⟨j, hj⟩ : ∃ j : Nat, indexByte rest c = j := ⟨(indexByte rest c).toNat, by omega⟩
      obtain ⟨hjl, hsp⟩ := splitT_some c rest j hj
      rw [hsp] at hdr
      have hget : (splitT c t)[i]? = some (rest.take j) := by
        have h9 : ((splitT c t).drop i)[0]? = some (rest.take j) := by rw [hdr]; rfl
        rw [List.getElem?_drop] at h9; simpa using h9
      have hdr2 : (splitT c t).drop (i + 1) = splitT c (rest.drop (j + 1)) := by
        have h9 : ((splitT c t).drop i).drop 1 = splitT c (rest.drop (j + 1)) := by rw [hdr]; rfl
        rw [List.drop_drop] at h9; exact h9
      obtain ⟨fn, tmps, assign, body, hy, hR⟩ := hY i wr (rest.take j) hJi hget
      have hzr := bs_size rest
      have he1 : (bs rest).extract 0 j = bs (rest.take j) := by rw [bs_extract]; simp
      rw [hj] at HI
      have hj0 : ¬ ((j : Int) < 0) := by omega
      have hjz : (j : Int) ≤ (rest.length : Int) := by omega
      gi_wp2_with (refine ⟨trivial, ?_⟩; gi_at_call 123; refine (callsIn_wide.2 (HI _)).mono ?_; rintro e w' ⟨rfl, rfl⟩)
      refine hR.mono ?_
      rintro e W3 (⟨rfl, hJ3, k1, k2, k3⟩ | ⟨chain, rfl, hX⟩)
      · have d1 := (World.cell?_of_block (a := ⟨Bsep, 0, none⟩) k1).trans h1
        have d2 := (World.cell?_of_block (a := ⟨Bs, 0, none⟩) k2).trans h2
        have d3 := (World.cell?_of_block (a := ⟨Bsave, 0, none⟩) k3).trans h3
        have d4 := (World.frozen?_of_block (a := ⟨Bs, 0, none⟩) k2).trans hf
        have he2 : (bs rest).extract (j + 1) rest.length = bs (rest.drop (j + 1)) := by rw [bs_extract, List.take_length]
        have hj1 : (j : Int) + 1 ≤ (rest.length : Int) := by omega
        have hj2 : 0 ≤ (j : Int) + 1 := by omega
        gi_wp2
        go_roundw
        case rel => exact ⟨i + 1, rest.drop (j + 1), by rw [World.cell?_setCell_other _ _ _ _ (by intro e; cases e; exact hn1 rfl)]; exact d1, World.cell?_setCell_same _ _ _ d2, by rw [World.cell?_setCell_other _ _ _ _ (by intro e; cases e; exact hn2 rfl)]; exact d3, by rw [World.frozen?_setCell]; exact d4, by rw [List.length_drop]; omega, hdr2, hJ _ _ _ hJ3⟩
        case measure => rw [lenAt_is (World.cell?_setCell_same _ _ _ d2), lenAt_is h2, List.length_drop]; omega
      · exact ⟨rfl, .inr ⟨chain, rfl, hX⟩⟩
end Go.Proofs.YtlpdomgedaockaaGreatDoor
namespace Go.Proofs.YtlpdomgedaockaaGreatDoor
open Go
variable {F : Fence} {n : Nat} {P : Program} {Q : Exit → Act → World → Prop} {a : Act} {w : World} {b : Frame}
def wpAt (b : Frame) (F : Fence) (n : Nat) (P : Program) (c : Code) (Q : Exit → Act → World → Prop) (a : Act) (w : World) : Prop :=
  ∀ (k : List Item) (cs : List Frame), b.roundOf = F.round → F.fn b.fn → F.room (cs.length + 1 + n) →
    ∃ e a' w', Q e a' w' ∧ ArrivesIn (Machine.fenced P F) P (lone (b.atR a (.code c :: k)) cs w) b k cs e a' w'
theorem wpAt_of {c : Code} (h : c.wpIn F n P Q a w) : wpAt b F n P c Q a w := fun k cs h1 h2 h3 => h b k cs h1 h2 h3
theorem wpAt_seq {x y : Code} (h : wpAt b F n P x (Exit.then (wpAt b F n P y Q) Q) a w) : wpAt b F n P (Code.seq x y) Q a w := by
  intro k cs hro hb hr
  have h0 : (lone (b.atR a (.code (.seq x y) :: k)) cs w).fenced P F := fenced_calm hb hr rfl
  obtain ⟨e, a₁, w₁, hq, harr⟩ := h (.code y :: k) cs hro hb hr
  cases e with
  | normal =>
    obtain ⟨e₂, a₂, w₂, hq₂, harr₂⟩ := hq k cs hro hb hr
    exact ⟨e₂, a₂, w₂, hq₂, .of_steps (.head h0 stepR_seq harr) harr₂⟩
  | exit id => exact ⟨_, a₁, w₁, hq, .of_steps (.one h0 stepR_seq) (.pass (x := .code y) rfl (fun _ _ => .inl (by simp)) harr)⟩
  | goto l => exact ⟨_, a₁, w₁, hq, .of_steps (.one h0 stepR_seq) (.pass (x := .code y) rfl (fun _ _ => .inl (by simp)) harr)⟩
  | ret => exact ⟨_, a₁, w₁, hq, .of_steps (.one h0 stepR_seq) (.pass (x := .code y) rfl (fun _ _ => .inl (by simp)) harr)⟩
  | panic ch => exact ⟨_, a₁, w₁, hq, .of_steps (.one h0 stepR_seq) (.pass (x := .code y) rfl (fun _ _ => .inl (by simp)) harr)⟩
  | outgrown => exact ⟨_, a₁, w₁, hq, .of_steps (.one h0 stepR_seq) (.pass (x := .code y) rfl (fun _ _ => .inl (by simp)) harr)⟩
theorem wpAt_block {id : Nat} {c : Code} (h : wpAt b F n P c (Exit.inBlock id Q) a w) : wpAt b F n P (Code.block id c) Q a w := by
  intro k cs hro hb hr
  have h0 : (lone (b.atR a (.code (.block id c) :: k)) cs w).fenced P F := fenced_calm hb hr rfl
  obtain ⟨e, a₁, w₁, hq, harr⟩ := h (.inBlock id :: k) cs hro hb hr
  cases e with
  | normal => exact ⟨.normal, a₁, w₁, hq, .head h0 stepR_block (StepsIn.trans harr (.one (fenced_calm hb hr rfl) stepR_inBlock))⟩
  | exit id' =>
    by_cases hid : id' = id
    · simp only [Exit.inBlock, hid, if_true] at hq
      exact ⟨.normal, a₁, w₁, hq, .head h0 stepR_block (harr.1 k (by simp [exitTo, hid]))⟩
    · simp only [Exit.inBlock, hid, if_false] at hq
      have this : (id == id') = false := by simp; exact fun h => hid h.symm
      have hx : exitTo id' (.inBlock id :: k) = exitTo id' k := by simp [exitTo, this]
      exact ⟨.exit id', a₁, w₁, hq, fun k' hk => .head h0 stepR_block (harr.1 k' (by rw [hx]; exact hk)),
        fun hr' hk => let ⟨k₁, h1, h2⟩ := harr.2 hr' (by rw [hx]; exact hk); ⟨k₁, h1, .head h0 stepR_block h2⟩⟩
  | goto l =>
    have hx : gotoIn l (.inBlock id :: k) = gotoIn l k := by simp [gotoIn]
    exact ⟨_, a₁, w₁, hq, fun k' hk => .head h0 stepR_block (harr.1 k' (by rw [hx]; exact hk)),
      fun hr' hk => let ⟨k₁, h1, h2⟩ := harr.2 hr' (by rw [hx]; exact hk); ⟨k₁, h1, .head h0 stepR_block h2⟩⟩
  | ret => exact ⟨_, a₁, w₁, hq, .of_steps (.one h0 stepR_block) harr⟩
  | panic ch => exact ⟨_, a₁, w₁, hq, .of_steps (.one h0 stepR_block) harr⟩
  | outgrown => exact ⟨_, a₁, w₁, hq, .of_steps (.one h0 stepR_block) harr⟩
def frameOf (f : FuncId) : Frame := { (default : Frame) with fn := f, kind := .normal, roundOf := none }
theorem callsIn_of_wpAt {f : FuncId} {fn : Func} {c : Code} {args : Array Value} {R : Ending → World → Prop}
    (hf : P.funcs[f]? = some fn) (hb : fn.body = some c) (hF : F.fn f)
    (h : wpAt (frameOf f) F n P c (bodyPostM F n P fn R) { tmps := args ++ Array.replicate (fn.ntmps - args.size) undef, defers := [] } w) (hro : F.round = none := by rfl) : CallsIn F n P f args w R := by
  refine ⟨hF, fun cs hr => ?_⟩
  have henter : Frame.enter P f args .normal =
      (frameOf f).atR { tmps := args ++ Array.replicate (fn.ntmps - args.size) undef, defers := [] } [.code c] := by
    simp [Frame.enter, Frame.atR, hf, hb, frameOf]
  obtain ⟨e, a', w', hq, harr⟩ := h [] cs hro.symm hF hr
  rw [← henter] at harr
  cases e with
  | normal =>
    obtain ⟨e', w'', fr', hR, hs, hfn, hl⟩ := leaves_stepsInM a'.defers .returning w' { (frameOf f).atR a' [] with mode := .returning } cs rfl rfl rfl hf rfl hF hr hq
    exact ⟨e', w'', fr', hR, ComesIn.of_steps (StepsIn.trans harr (.one (fenced_calm (fr := (frameOf f).atR a' []) hF hr rfl) (stepR_end rfl))) hs, hfn, hl⟩
  | ret =>
    obtain ⟨todo, hs₀⟩ := harr.1 rfl
    obtain ⟨e', w'', fr', hR, hs, hfn, hl⟩ := leaves_stepsInM a'.defers .returning w' { (frameOf f).atR a' todo with mode := .returning } cs rfl rfl rfl hf rfl hF hr hq
    exact ⟨e', w'', fr', hR, ComesIn.of_steps hs₀ hs, hfn, hl⟩
  | panic chain =>
    obtain ⟨todo, hs₀⟩ := harr
    obtain ⟨e', w'', fr', hR, hs, hfn, hl⟩ := leaves_stepsInM a'.defers (.panicking chain) w' { (frameOf f).atR a' todo with mode := .panicking chain } cs rfl rfl rfl hf rfl hF hr hq
    exact ⟨e', w'', fr', hR, ComesIn.of_steps hs₀ hs, hfn, hl⟩
  | exit id => exact hq.elim
  | goto l => exact hq.elim
  | outgrown => exact ⟨.outgrown, w', frameOf f, hq, harr.resolve_left (by simp [frameOf]), rfl, trivial⟩
theorem wpAt_rangeFunc {g : Operand} {ps : Array Tmp} {assign body : Code}
    (h : ∃ (l : Nat) (mark : List Deferred) (w₁ : World) (d : Deferred) (w₁' : World) (f : FuncId) (args : Array Value) (w₂ : World),
      (Instr.enterLoop b.fn a.tmps ps assign body F.round).run P w = .ok (l, mark) w₁ ∧
      (resolve a.eval (rangeCall g l) 0).run P w₁ = .ok d w₁' ∧
      (∀ f', Target.leads P w₁' d.target d.args = some f' → F.fn f') ∧
      (invoke d.target d.args).run P w₁' = .ok (.enter f args) w₂ ∧
      (F.depth.isSome = true → 1 ≤ n) ∧
      CallsIn F (n - 1) P f args w₂ fun
        | .returned _, w₃ => ∃ w₄, (Instr.endLoop l).run P w₃ = .ok none w₄ ∧ Q .normal { a with defers := mark ++ a.defers } w₄
        | .panicked chain, w₃ => Q (.panic chain) { a with defers := mark ++ a.defers } w₃
        | .outgrown, _ => False) :
    wpAt b F n P (Code.rangeFunc g ps assign body) Q a w := by
  intro k cs hro hb hr
  obtain ⟨l, mark, w₁, d, w₁', f, args, w₂, he, hres, hlead, hinv, hn, hF, hcall⟩ := h
  rw [← hro] at he
  have h0 : (lone (b.atR a (.code (.rangeFunc g ps assign body) :: k)) cs w).fenced P F := by
    refine fenced_lone (.inl hb) (fun f' hf' => hlead f' ?_) (Fence.room_le hr (by omega))
    have hev := Frame.eval_atR b a (.code (.rangeFunc g ps assign body) :: k)
    simp only [Frame.atR] at hev
    simp only [Frame.about, Frame.atR, he, hev, hres] at hf'
    exact hf'
  have henter := stepR_rangeFunc (P := P) (b := b) (a := a) (k := k) (cs := cs) (w := w) he hres hinv
  have hroom : F.room ((b.atR { a with defers := mark ++ a.defers } (.inRangeFunc l :: k) :: cs).length + 1 + (n - 1)) := Fence.room_enter hr hn
  obtain ⟨e, w₃, fr, hR, hsteps, hfn, hleave⟩ := hcall (b.atR { a with defers := mark ++ a.defers } (.inRangeFunc l :: k) :: cs) hroom
  cases e with
  | outgrown => exact hR.elim
  | returned v =>
    have hl : (lone fr (b.atR { a with defers := mark ++ a.defers } (.inRangeFunc l :: k) :: cs) w₃).fenced P F := fenced_leaving (hfn ▸ hF) hroom hleave
    obtain ⟨w₄, hend, hj⟩ := hR
    have sback : StepsIn (Machine.fenced P F) P (lone (b.atR a (.code (.rangeFunc g ps assign body) :: k)) cs w) (lone (b.atR { a with defers := mark ++ a.defers } k) cs w₄) := by
      refine .head h0 henter (StepsIn.trans hsteps (.head hl ?_ (.one (fenced_calm (fr := b.atR { a with defers := mark ++ a.defers } (.endRangeFunc l :: k)) hb hr rfl) (stepR_endRangeFunc hend))))
      rw [← finish_atR_inRangeFunc l v]; exact step_leave_returned hleave
    exact ⟨.normal, _, w₄, hj, sback⟩
  | panicked chain =>
    have hl : (lone fr (b.atR { a with defers := mark ++ a.defers } (.inRangeFunc l :: k) :: cs) w₃).fenced P F := fenced_leaving (hfn ▸ hF) hroom hleave
    refine ⟨.panic chain, _, w₃, hR, .inRangeFunc l :: k, .head h0 henter (StepsIn.trans hsteps (.one hl ?_))⟩
    rw [← Frame.raise_atR]; exact step_leave_panicked hleave
end Go.Proofs.YtlpdomgedaockaaGreatDoor
namespace Go.Proofs.YtlpdomgedaockaaGreatDoor
open Go.RowKit Go.Shelf Go.Proofs.Cod Go.Lib
def KeepB (bl : List Nat) (W W' : World) : Prop := ∀ b, b ∈ bl → W'.heap[b]? = W.heap[b]?
def splitPost (I : Nat → World → Prop) (X : List PanicEntry → World → Prop) (bl : List Nat) (i : Nat) (W : World) : Exit → Act → World → Prop
  | .normal, _, W' => KeepB bl W W' ∧ I (i + 1) W'
  | .panic chain, a, W' => a.defers = [] ∧ KeepB bl W W' ∧ X chain W'
  | _, _, _ => False
def FreeOf (bl : List Nat) (p : World → Prop) : Prop := ∀ W W', p W → (∀ b, b < W.heap.size → b ∉ bl → W'.heap[b]? = W.heap[b]?) → W.heap.size ≤ W'.heap.size → W'.os = W.os → W'.tape = W.tape → W'.output = W.output → p W'
theorem free_putObj {bl : List Nat} {p : World → Prop} (h : FreeOf bl p) {W : World} (hp : p W) {l : Nat} (hl : l ∈ bl) (o : Obj) : p (W.putObj l o) :=
  h W _ hp (fun b _ hb => World.putObj_heap_other (fun e => hb (e ▸ hl))) (by simp) rfl rfl rfl
theorem free_setCell {bl : List Nat} {p : World → Prop} (h : FreeOf bl p) {W : World} (hp : p W) {l : Nat} (hl : l ∈ bl) (v : Value) : p (W.setCell ⟨l, 0, none⟩ v) :=
  h W _ hp (fun b _ hb => Below.heap_setCell W ⟨l, 0, none⟩ v b (fun e => hb (e ▸ hl))) (by simp) rfl rfl rfl
theorem free_alloc {bl : List Nat} {p : World → Prop} (h : FreeOf bl p) {W : World} (hp : p W) (o : Obj) : p (W.alloc o) :=
  h W _ hp (fun b hb _ => Below.heap_alloc W o b hb) (by simp) rfl rfl rfl
set_option maxHeartbeats 1000000 in
theorem wpAt_split {b : Frame} {fnd : Func} (hfb : Tryz.prog.funcs[b.fn]? = some fnd) {n : Nat} {g : Operand} {p0 : Tmp} {assign body : Code} {Q : Exit → Act → World → Prop} {a : Act} {w : World} (Bsep Bs Bsave : Nat) (c : UInt8) (t : Tx)
    (hg : a.eval g = .func (.func 121) #[] #[.pointer (some ⟨Bsep, 0, none⟩), .pointer (some ⟨Bs, 0, none⟩), .pointer (some ⟨Bsave, 0, none⟩)]) (hz : t.length < 4294967281)
    (h1 : w.cell? ⟨Bsep, 0, none⟩ = some (.string (bs [c]))) (h2 : w.cell? ⟨Bs, 0, none⟩ = some (.string (bs t))) (h3 : w.cell? ⟨Bsave, 0, none⟩ = some (.int .i64 0)) (hf : w.frozen? ⟨Bs, 0, none⟩ = false)
    (hn1 : Bsep ≠ Bs) (hn2 : Bsave ≠ Bs)
    (I : Nat → World → Prop) (X : List PanicEntry → World → Prop) (hI : ∀ i, FreeOf [w.heap.size, w.heap.size + 1, Bs] (I i)) (h0 : I 0 w) (a₁ : Tx → Act)
    (hassign : ∀ (l : Nat) (p : Tx) (W : World) (K : Act → World → Prop), K (a₁ p) W →
      assign.wpIn (Fence.wide.inRound l) 0 Tryz.prog (Exit.then K (fun _ _ _ => False)) { tmps := (#[p0].zip #[Value.string (bs p)]).foldl (fun t (p, v) => t.setIfInBounds p v) a.tmps, defers := [] } W)
    (hbody : ∀ (l i : Nat) (p : Tx) (W : World), I i W → (splitT c t)[i]? = some p → w.heap.size + 1 < W.heap.size → body.wpIn (Fence.wide.inRound l) 0 Tryz.prog (splitPost I X [w.heap.size, w.heap.size + 1, Bsep, Bs, Bsave] i W) (a₁ p) W)
    (hdone : ∀ W, I (splitT c t).length W → W.heap[w.heap.size]? = some (.deferred (some [])) → Q .normal { a with defers := { target := .collected w.heap.size, args := #[] } :: a.defers } W)
    (hpanic : ∀ chain W, X chain W → W.heap[w.heap.size]? = some (.deferred (some [])) → Q (.panic chain) { a with defers := { target := .collected w.heap.size, args := #[] } :: a.defers } W) :
    wpAt b Fence.wide n Tryz.prog (Code.rangeFunc g #[p0] assign body) Q a w := by
  have l1 : Bsep < w.heap.size := World.block_lt_of_cell? w ⟨Bsep, 0, none⟩ h1
  have l2 : Bs < w.heap.size := World.block_lt_of_cell? w ⟨Bs, 0, none⟩ h2
  have l3 : Bsave < w.heap.size := World.block_lt_of_cell? w ⟨Bsave, 0, none⟩ h3
  obtain ⟨rec, hrec⟩ : ∃ rec : LoopState → Option Code → Loop, rec = fun st pe => { state := st, pending := pe, fn := b.fn, tmps := a.tmps, params := #[p0], assign, body, defers := w.heap.size } := ⟨_, rfl⟩
  obtain ⟨W1, hW1⟩ : ∃ W1, (w.alloc (.deferred (some []))).alloc (.loop (rec .ready none)) = W1 := ⟨_, rfl⟩
  have hL1 : W1.heap[w.heap.size + 1]? = some (.loop (rec .ready none)) := by
    rw [← hW1]; have := World.alloc_heap_new (w.alloc (.deferred (some []))) (.loop (rec .ready none)); rwa [World.size_alloc] at this
  have hK1 : W1.heap[w.heap.size]? = some (.deferred (some [])) := by
    rw [← hW1]; exact (Below.heap_alloc _ _ _ (by simp)).trans (World.alloc_heap_new w _)
  have hI1 : I 0 W1 := by rw [← hW1]; exact free_alloc (hI 0) (free_alloc (hI 0) h0 _) _
  have hb1 : Below w.heap.size w W1 := by rw [← hW1]; exact ((Below.refl _ w).alloc (Nat.le_refl _) _).alloc (by simp) _
  have mL : w.heap.size + 1 ∈ [w.heap.size, w.heap.size + 1, Bs] := by simp
  have mB : Bs ∈ [w.heap.size, w.heap.size + 1, Bs] := by simp
  refine wpAt_rangeFunc ⟨w.heap.size + 1, [{ target := .collected w.heap.size, args := #[] }], W1, { target := .fn (.func 121) #[.pointer (some ⟨Bsep, 0, none⟩), .pointer (some ⟨Bs, 0, none⟩), .pointer (some ⟨Bsave, 0, none⟩)], args := #[.func (.yield (w.heap.size + 1)) #[] #[]] }, W1, 121,
    #[.func (.yield (w.heap.size + 1)) #[] #[], .pointer (some ⟨Bsep, 0, none⟩), .pointer (some ⟨Bs, 0, none⟩), .pointer (some ⟨Bsave, 0, none⟩)], W1, ?_, ?_, fun _ _ => trivial, ?_, (fun h => by simp [Fence.wide] at h), ?_⟩
  · rw [← hW1, hrec]; exact run_enterLoop_outer _ _ _ _ _
  · simp only [resolve, hg]
    simp [go_sem]
  · simp [invoke, go_sem]
  · refine (callsIn_wide.2 (callsIn_wide.1 (split_in (w.heap.size + 1) Bsep Bs Bsave c t
      (fun i W => I i W ∧ W.heap[w.heap.size + 1]? = some (.loop (rec .ready none)) ∧ W.heap[w.heap.size]? = some (.deferred (some [])))
      (fun chain W => X chain W ∧ W.heap[w.heap.size]? = some (.deferred (some []))) hz ?_ ?_ W1 ((hb1.cell (p := ⟨Bsep, 0, none⟩) l1).trans h1) ((hb1.cell (p := ⟨Bs, 0, none⟩) l2).trans h2) ((hb1.cell (p := ⟨Bsave, 0, none⟩) l3).trans h3) ((hb1.frozen (p := ⟨Bs, 0, none⟩) l2).trans hf) hn1 hn2 ⟨hI1, hL1, hK1⟩))).mono ?_
    · rintro i W v ⟨hi, hl, hk⟩
      exact ⟨free_setCell (hI i) hi mB v, (Below.heap_setCell W ⟨Bs, 0, none⟩ v _ (by show w.heap.size + 1 ≠ Bs; omega)).trans hl, (Below.heap_setCell W ⟨Bs, 0, none⟩ v _ (by show w.heap.size ≠ Bs; omega)).trans hk⟩
    · rintro i W p ⟨hi, hl, hk⟩ hp
      have hlt : w.heap.size + 1 < W.heap.size := (Array.getElem?_eq_some_iff.1 hl).1
      have hy := run_yield (P := Tryz.prog) (args := #[.string (bs p)]) hl (by rw [hrec]; rfl)
      rw [hrec] at hy
      refine ⟨b.fn, _, assign, body, hy, roundIn_of_wpInP trivial hfb ?_⟩
      refine hassign _ p W _ ?_
      refine ⟨_, run_beginRound hl (by rw [hrec]), ?_⟩
      obtain ⟨W2, hW2⟩ : ∃ W2, W.putObj (w.heap.size + 1) (.loop { rec .ready none with state := .busy }) = W2 := ⟨_, rfl⟩
      rw [hW2]
      have hl2 : W2.heap[w.heap.size + 1]? = some (.loop { rec .ready none with state := .busy }) := by rw [← hW2]; exact World.putObj_heap_same hlt
      have ho2 : ∀ q, q ≠ w.heap.size + 1 → W2.heap[q]? = W.heap[q]? := fun q hq => by rw [← hW2]; exact World.putObj_heap_other hq
      have hi2 : I i W2 := by rw [← hW2]; exact free_putObj (hI i) hi mL _
      refine wpIn_mono (hbody _ i p W2 hi2 hp (by rw [← hW2]; simpa using hlt)) ?_
      rintro e a3 W3 hpost
      cases e with
      | normal =>
        obtain ⟨hk3, hi3⟩ := hpost
        have hl3 := (hk3 (w.heap.size + 1) (by simp)).trans hl2
        have hr := run_endRound (P := Tryz.prog) none hl3
        have hlt3 : w.heap.size + 1 < W3.heap.size := (Array.getElem?_eq_some_iff.1 hl3).1
        refine ⟨_, _, hr, .inl ⟨rfl, ⟨free_putObj (hI (i + 1)) hi3 mL _, ?_, ?_⟩, ?_, ?_, ?_⟩⟩
        · rw [World.putObj_heap_same hlt3, hrec]; rfl
        · rw [World.putObj_heap_other (by omega)]; exact (hk3 w.heap.size (by simp)).trans ((ho2 _ (by omega)).trans hk)
        · rw [World.putObj_heap_other (by omega)]; exact (hk3 Bsep (by simp)).trans (ho2 _ (by omega))
        · rw [World.putObj_heap_other (by omega)]; exact (hk3 Bs (by simp)).trans (ho2 _ (by omega))
        · rw [World.putObj_heap_other (by omega)]; exact (hk3 Bsave (by simp)).trans (ho2 _ (by omega))
      | panic chain =>
        obtain ⟨hd, hk3, hx⟩ := hpost
        exact ⟨hd, .inr ⟨chain, rfl, hx, (hk3 w.heap.size (by simp)).trans ((ho2 _ (by omega)).trans hk)⟩⟩
      | ret => exact hpost.elim
      | exit id => exact hpost.elim
      | goto t => exact hpost.elim
      | outgrown => exact hpost.elim
    · rintro e W2 (⟨rfl, hi, hl, hk⟩ | ⟨chain, rfl, hx, hk⟩)
      · have hend := run_endLoop (P := Tryz.prog) hl (by rw [hrec]; simp)
        have hend' : (Instr.endLoop (w.heap.size + 1)).run Tryz.prog W2 = .ok none (W2.putObj (w.heap.size + 1) (.loop { rec .ready none with state := .exhausted })) := by rw [hend, hrec]
        exact ⟨_, hend', hdone _ (free_putObj (hI _) hi mL _) ((World.putObj_heap_other (by omega)).trans hk)⟩
      · exact hpanic chain W2 hx hk
end Go.Proofs.YtlpdomgedaockaaGreatDoor
namespace Go.Proofs
open Go.Shelf
shelf_lay Lays.n219 Nm 219 at Tryz as Tryz.lays219
end Go.Proofs
namespace Go.Proofs.YtlpdomgedaockaaGreatDoor
open Go.RowKit Go.Shelf Go.Proofs.Cod Go.Lib
theorem index_lite (t : Tx) (c : UInt8) (w : World) : Calls Tryz.prog 140 #[.string (bs t), .string (bs [c])] w fun e w' => e = .returned (.int .i64 (indexByte t c)) ∧ w' = w := by
  have h := Any.stringslite_Index_one Tryz.lays219 (bs t) c w
  have e : (bs t).data.toList = t := by simp [bs]
  rw [e] at h
  exact h
def cutB (c : UInt8) (t : Tx) : Tx := if indexByte t c = -1 then t else t.take (indexByte t c).toNat
set_option maxHeartbeats 400000 in
theorem cutLite_any (t : Tx) (c : UInt8) (w : World) (hlen : t.length < 4294967281) : Calls Tryz.prog 124 #[.string (bs t), .string (bs [c])] w fun e w' => (∃ af f, e = .returned (.tuple #[.string (bs (cutB c t)), .string (bs af), .bool f])) ∧ Below w.heap.size w w' := by
  have hge := indexByte_ge t c
  have hz := bs_size t
  have hz1 : (bs [c]).size = 1 := bs_size [c]
  have HI := index_lite t c
  by_cases hno : indexByte t c = -1
  · have hc : Hid (cutB c t = t) := by unfold Hid cutB; rw [if_pos hno]
    rw [hno] at HI
    go_enter Tryz.func124, Tryz.ntmps124
    go_wp2_with fail
    refine (HI _).mono ?_
    rintro e w1 ⟨rfl, rfl⟩
    go_wp2_with fail
    go_ret3
    exact ⟨⟨[], false, by rw [hc.out]; rfl⟩, Below.refl _ _⟩
  · obtain ⟨j, hj⟩ : ∃ j : Nat, indexByte t c = j := ⟨(indexByte t c).toNat, by omega⟩
    obtain ⟨hjl, _⟩ := splitT_some c t j hj
    have hc : Hid (cutB c t = t.take j) := by unfold Hid cutB; rw [if_neg hno, hj]; rfl
    have he1 : (bs t).extract 0 j = bs (t.take j) := by rw [bs_extract]; simp
    have he2 : (bs t).extract (j + 1) t.length = bs (t.drop (j + 1)) := by rw [bs_extract, List.take_length]
    rw [hj] at HI
    have hj0 : 0 ≤ (j : Int) := by omega
    have hjz : (j : Int) ≤ (t.length : Int) := by omega
    have hj1 : (j : Int) + 1 ≤ (t.length : Int) := by omega
    have hj2 : 0 ≤ (j : Int) + 1 := by omega
    have hw1 : IntKind.i64.wrap ((j : Int) + 1) = (j : Int) + 1 := (IntWalk.i64_left _).trans (IntWalk.wrap64_in _ (by omega))
    have hw2 : wrap64 ((j : Int) + 1) = (j : Int) + 1 := IntWalk.wrap64_in _ (by omega)
    have ht1 : ((j : Int) + 1).toNat = j + 1 := by omega
    go_enter Tryz.func124, Tryz.ntmps124
    go_wp2_with fail
    refine (HI _).mono ?_
    rintro e w1 ⟨rfl, rfl⟩
    go_wp2_with fail
    go_region
    all_goals
      go_wp2_with fail
      go_ret3
      exact ⟨⟨t.drop (j + 1), true, by rw [hc.out]; rfl⟩, (Below.refl _ _).drew⟩
set_option maxHeartbeats 400000 in
theorem cut_any (t : Tx) (c : UInt8) (w : World) (hlen : t.length < 4294967281) : Calls Tryz.prog 103 #[.string (bs t), .string (bs [c])] w fun e w' => (∃ af f, e = .returned (.tuple #[.string (bs (cutB c t)), .string (bs af), .bool f])) ∧ Below w.heap.size w w' := by
  go_enter Tryz.func103, Tryz.ntmps103
  go_wp2_with fail
  refine (cutLite_any t c _ hlen).mono ?_
  rintro e w1 ⟨⟨af, f, rfl⟩, hb⟩
  go_wp2_with fail
  go_ret3
  exact ⟨⟨af, f, rfl⟩, hb⟩
end Go.Proofs.YtlpdomgedaockaaGreatDoor
namespace Go.Proofs.YtlpdomgedaockaaGreatDoor
open Go.RowKit Go.Shelf Go.Proofs.Cod Go.Lib
attribute [local go_sem] Oper.semAt_some
def wordsT (t : Tx) : List Tx := (splitT 32 (cutB 35 t)).filter (fun p => !p.isEmpty)
def strV (p : Tx) : Value := .string (bs p)
set_option maxHeartbeats 400000 in
theorem splitSeq_any (t : Tx) (c : UInt8) (w : World) : Calls Tryz.prog 102 #[.string (bs t), .string (bs [c]), .int .i64 0] w fun e w' =>
    e = .returned (.func (.func 121) #[] #[.pointer (some ⟨w.heap.size + 1, 0, none⟩), .pointer (some ⟨w.heap.size, 0, none⟩), .pointer (some ⟨w.heap.size + 2, 0, none⟩)]) ∧ w' = ((w.alloc (.cells #[.string (bs t)] 9)).alloc (.cells #[.string (bs [c])] 9)).alloc (.cells #[.int .i64 0] 3) := by
  go_enter Tryz.func102, Tryz.ntmps102
  go_wp2
  go_ret
  exact ⟨rfl, rfl⟩
set_option maxHeartbeats 400000 in
theorem splitSeqT_any (t : Tx) (c : UInt8) (w : World) : Calls Tryz.prog 46 #[.string (bs t), .string (bs [c])] w fun e w' =>
    e = .returned (.func (.func 121) #[] #[.pointer (some ⟨w.heap.size + 1, 0, none⟩), .pointer (some ⟨w.heap.size, 0, none⟩), .pointer (some ⟨w.heap.size + 2, 0, none⟩)]) ∧ w' = ((w.alloc (.cells #[.string (bs t)] 9)).alloc (.cells #[.string (bs [c])] 9)).alloc (.cells #[.int .i64 0] 3) := by
  go_enter Tryz.func46, Tryz.ntmps46
  go_wp2_with fail
  refine (splitSeq_any t c _).mono ?_
  rintro e w1 ⟨rfl, rfl⟩
  go_wp2_with fail
  go_ret
  exact ⟨rfl, rfl⟩
theorem four_made (w : World) (A B C D : Obj) : ((((w.alloc A).alloc B).alloc C).alloc D).heap[w.heap.size]? = some A ∧ ((((w.alloc A).alloc B).alloc C).alloc D).heap[w.heap.size + 1]? = some B ∧ ((((w.alloc A).alloc B).alloc C).alloc D).heap[w.heap.size + 1 + 1]? = some C ∧ ((((w.alloc A).alloc B).alloc C).alloc D).heap[w.heap.size + 1 + 2]? = some D := by
  obtain ⟨w1, h1⟩ : ∃ x, w.alloc A = x := ⟨_, rfl⟩
  obtain ⟨w2, h2⟩ : ∃ x, w1.alloc B = x := ⟨_, rfl⟩
  obtain ⟨w3, h3⟩ : ∃ x, w2.alloc C = x := ⟨_, rfl⟩
  have z1 : w1.heap.size = w.heap.size + 1 := by rw [← h1]; simp
  have z2 : w2.heap.size = w.heap.size + 1 + 1 := by rw [← h2]; simp; omega
  have z3 : w3.heap.size = w.heap.size + 1 + 2 := by rw [← h3]; simp; omega
  rw [h1, h2, h3]
  have a1 : w1.heap[w.heap.size]? = some A := by rw [← h1]; exact World.alloc_heap_new w A
  have a2 : w2.heap[w.heap.size + 1]? = some B := by rw [← h2, ← z1]; exact World.alloc_heap_new w1 B
  have a3 : w3.heap[w.heap.size + 1 + 1]? = some C := by rw [← h3, ← z2]; exact World.alloc_heap_new w2 C
  have b2 : ∀ k, k < w1.heap.size → w2.heap[k]? = w1.heap[k]? := fun k hk => by rw [← h2]; exact Below.heap_alloc w1 B k hk
  have b3 : ∀ k, k < w2.heap.size → w3.heap[k]? = w2.heap[k]? := fun k hk => by rw [← h3]; exact Below.heap_alloc w2 C k hk
  have b4 : ∀ k, k < w3.heap.size → (w3.alloc D).heap[k]? = w3.heap[k]? := fun k hk => Below.heap_alloc w3 D k hk
  refine ⟨?_, ?_, ?_, ?_⟩
  · rw [b4 _ (by omega), b3 _ (by omega), b2 _ (by omega)]; exact a1
  · rw [b4 _ (by omega), b3 _ (by omega)]; exact a2
  · rw [b4 _ (by omega)]; exact a3
  · rw [← z3]; exact World.alloc_heap_new w3 D
theorem cutB_len (c : UInt8) (t : Tx) : (cutB c t).length ≤ t.length := by
  unfold cutB
  split
  · exact Nat.le_refl _
  · rw [List.length_take]; omega
theorem splitT_len (c : UInt8) (t : Tx) : (splitT c t).length ≤ t.length + 1 := by
  induction t with
  | nil => simp [splitT]
  | cons b l ih =>
    unfold splitT
    split
    · simp; omega
    · cases h : splitT c l with
      | nil => simp
      | cons p ps => rw [h] at ih; simp at ih ⊢; omega
theorem c_owns_kept {w w' : World} {base e size n : Nat} {v : Value} {xs : List Value} (h : w.ownsRow base e size v n xs) (hb : ∀ g, base ≤ g → g < w.heap.size → w'.heap[g]? = w.heap[g]?) : w'.ownsRow base e size v n xs := by
  refine ⟨h.1, ?_⟩
  rcases h.2 with hn | ⟨g, cap, cur, rfl, hB, hg, rest⟩
  · exact .inl hn
  · exact .inr ⟨g, cap, cur, rfl, hB, (hb g hB (Array.getElem?_eq_some_iff.1 hg).1).trans hg, rest⟩
theorem c_owns_base {w : World} {base base' e size n : Nat} {v : Value} {xs : List Value} (h : w.ownsRow base e size v n xs) (hb : base' ≤ base) : w.ownsRow base' e size v n xs := by
  refine ⟨h.1, ?_⟩
  rcases h.2 with hn | ⟨g, cap, cur, hv, h1, rest⟩
  · exact .inl hn
  · exact .inr ⟨g, cap, cur, hv, by omega, rest⟩
theorem Tryz.infoS : (Tryz.prog.info? 9).map (fun i => (i.zero, i.size, i.bytes)) = some (some (.string ByteArray.empty), 1, 16) := by kernel_rfl
theorem take_filter {l : List Tx} {i : Nat} {p : Tx} (h : l[i]? = some p) : (l.take (i + 1)).filter (fun p => !p.isEmpty) = (l.take i).filter (fun p => !p.isEmpty) ++ if p.isEmpty then [] else [p] := by
  obtain ⟨hi, rfl⟩ := List.getElem?_eq_some_iff.1 h
  rw [List.take_succ_eq_append_getElem hi, List.filter_append]
  congr 1
  cases hp : l[i].isEmpty <;> simp [hp]
set_option maxRecDepth 100000 in
set_option maxHeartbeats 1000000 in
theorem split_any (t : Tx) (w : World) (hlen : t.length < 1048576) : Calls Tryz.prog 47 #[.string (bs t)] w fun e w' => ∃ v, e = .returned v ∧ w'.ownsRow w.heap.size 9 1 v (wordsT t).length ((wordsT t).map strV) ∧ Below w.heap.size w w' := by
  refine (callsIn_wide (n := 6)).1 ?_
  refine callsIn_of_wpAt Tryz.func47 rfl trivial ?_ rfl
  simp only [Tryz.ntmps47, List.size_toArray, List.length_cons, List.length_nil, Nat.reduceAdd, Nat.reduceSub, Array.replicate_succ, Array.replicate_zero, List.push_toArray, List.append_toArray, List.nil_append, List.cons_append]
  refine wpAt_seq (wpAt_of ?_)
  gi_wp2
  refine wpAt_seq (wpAt_of ?_)
  gi_wp2_with (refine ⟨trivial, ?_⟩; gi_at_call 103; refine (callsIn_wide.2 (cut_any t 35 _ (by omega))).mono ?_; rintro e w1 ⟨⟨af, f, rfl⟩, hb1⟩)
  refine wpAt_seq (wpAt_of ?_)
  gi_wp2
  refine wpAt_seq (wpAt_seq (wpAt_of ?_))
  gi_wp2_with (refine ⟨trivial, ?_⟩; gi_at_call 46; refine (callsIn_wide.2 (splitSeqT_any (cutB 35 t) 32 _)).mono ?_; rintro e w2 ⟨rfl, rfl⟩)
  refine wpAt_block ?_
  obtain ⟨W0, hW0⟩ : ∃ W0, (((w1.alloc (.cells #[.slice none 0 0] 23)).alloc (.cells #[.string (bs (cutB 35 t))] 9)).alloc (.cells #[.string (bs [32])] 9)).alloc (.cells #[.int .i64 0] 3) = W0 := ⟨_, rfl⟩
  have hz0 : W0.heap.size = w1.heap.size + 4 := by rw [← hW0]; simp
  rw [hW0]
  have hb01 : Below w1.heap.size w1 W0 := by rw [← hW0]; exact ((((Below.refl _ _).alloc (Nat.le_refl _) _).alloc (by simp) _).alloc (by simp; omega) _).alloc (by simp; omega) _
  have hb0 : Below w.heap.size w W0 := hb1.trans (hb01.mono hb1.size)
  have hk := four_made w1 (.cells #[.slice none 0 0] 23) (.cells #[.string (bs (cutB 35 t))] 9) (.cells #[.string (bs [32])] 9) (.cells #[.int .i64 0] 3)
  rw [hW0] at hk
  obtain ⟨k0, k1, k2, k3⟩ := hk
  clear hW0
  refine wpAt_split (fnd := Tryz.f47) Tryz.func47 (w1.heap.size + 1 + 1) (w1.heap.size + 1) (w1.heap.size + 1 + 2) 32 (cutB 35 t) rfl (by have := cutB_len 35 t; omega) (by simp [World.cell?, k2]) (by simp [World.cell?, k1]) (by simp [World.cell?, k3]) (by simp [World.frozen?, k1]) (by omega) (by omega)
    (fun i W => ∃ v, W.cell? ⟨w1.heap.size, 0, none⟩ = some v ∧ W.frozen? ⟨w1.heap.size, 0, none⟩ = false ∧ W.ownsRow (W0.heap.size + 2) 9 1 v (((splitT 32 (cutB 35 t)).take i).filter (fun p => !p.isEmpty)).length ((((splitT 32 (cutB 35 t)).take i).filter (fun p => !p.isEmpty)).map strV) ∧ Below w.heap.size w W)
    (fun _ _ => False) ?free ?start (fun p => { tmps := #[.string (bs t), undef, .slice none 0 0, .string (bs (cutB 35 t)), .string (bs af), .bool f, .pointer (some ⟨w1.heap.size, 0, none⟩), .string (bs p), .tuple #[.string (bs (cutB 35 t)), .string (bs af), .bool f], .string (bs t), .tuple #[.string (bs (cutB 35 t)), .string (bs af), .bool f], .string (bs (cutB 35 t)), .string (bs af), .bool f, .string (bs (cutB 35 t)), .func (.func 121) #[] #[.pointer (some ⟨w1.heap.size + 1 + 1, 0, none⟩), .pointer (some ⟨w1.heap.size + 1, 0, none⟩), .pointer (some ⟨w1.heap.size + 1 + 2, 0, none⟩)], .string (bs p), undef, undef, undef, undef, undef, undef, undef], defers := [] }) ?assign ?body ?done ?panic
  case assign =>
    intro l p W K hK
    gi_wp2
    exact hK
  case start => exact ⟨_, by simp [World.cell?, k0], by simp [World.frozen?, k0], World.ownsRow_nil _ _ _ _, hb0⟩
  case panic => intro chain W h _; exact h.elim
  case free =>
    rintro i W W' ⟨v, hc, hf, hrow, hB⟩ hsame hsz ho ht hp
    have hl : w1.heap.size < W.heap.size := World.block_lt_of_cell? W ⟨w1.heap.size, 0, none⟩ hc
    have hbw : W'.heap[w1.heap.size]? = W.heap[w1.heap.size]? := hsame _ hl (by simp; omega)
    refine ⟨v, (World.cell?_of_block (a := ⟨w1.heap.size, 0, none⟩) hbw).trans hc, (World.frozen?_of_block (a := ⟨w1.heap.size, 0, none⟩) hbw).trans hf, c_owns_kept hrow (fun g hg hgl => hsame g hgl (by simp; omega)), ⟨ho.trans hB.os, ht.trans hB.tape, hp.trans hB.output, Nat.le_trans hB.size hsz, fun k hk => ?_⟩⟩
    exact (hsame k (by have := hB.size; omega) (by have := hb1.size; simp; omega)).trans (hB.block k hk)
  case body =>
    rintro l i p W ⟨v, hc, hf, hrow, hB⟩ hp hlt
    have hfil := take_filter hp
    by_cases he : p = []
    · subst he
      have hem : (bs []).toList.isEmpty = true := by rw [bs_toList]; rfl
      gi_wp2
      refine ⟨fun b _ => rfl, v, hc, hf, ?_, hB⟩
      rw [hfil]
      simpa using hrow
    · have hne : (bs p).toList.isEmpty = false := by rw [bs_toList]; simpa using he
      obtain ⟨i0, hi, hy0, hy1, hy2⟩ := info_parts Tryz.infoS
      have hfl : (((splitT 32 (cutB 35 t)).take i).filter (fun p => !p.isEmpty)).length ≤ t.length + 1 := by
        have a1 := splitT_len 32 (cutB 35 t)
        have a2 := cutB_len 35 t
        have a3 := List.length_filter_le (fun p : Tx => !p.isEmpty) ((splitT 32 (cutB 35 t)).take i)
        rw [List.length_take] at a3
        omega
      have hfil2 : ((splitT 32 (cutB 35 t)).take (i + 1)).filter (fun p => !p.isEmpty) = ((splitT 32 (cutB 35 t)).take i).filter (fun p => !p.isEmpty) ++ [p] := by
        rw [hfil]; congr 1
        cases hpe : p.isEmpty with
        | true => exact absurd (List.isEmpty_iff.1 hpe) he
        | false => rfl
      clear hfil
      generalize hFe : ((splitT 32 (cutB 35 t)).take i).filter (fun p => !p.isEmpty) = Fi at *
      have hl1 : w1.heap.size < W.heap.size := World.block_lt_of_cell? W ⟨w1.heap.size, 0, none⟩ hc
      have hvo : ∀ g, v.ownBlock = some g → W0.heap.size + 2 ≤ g ∧ g < W.heap.size := fun g e => hrow.lt g e
      have HB : Hid (∀ w3, (W.alloc (.cells #[.string (bs p)] 9)).grownBy w3 v.ownBlock → w3.cell? ⟨w1.heap.size, 0, none⟩ = some v ∧ w3.frozen? ⟨w1.heap.size, 0, none⟩ = false ∧ W.heap.size ≤ w3.heap.size ∧ (∀ b, b < W0.heap.size + 2 → w3.heap[b]? = W.heap[b]?) ∧ w3.os = W.os ∧ w3.tape = W.tape ∧ w3.output = W.output) := fun w3 hg => by
        have hbl : ∀ b, b < W0.heap.size + 2 → w3.heap[b]? = W.heap[b]? := fun b hb => (hg.block b (by simp; omega) (fun e => by have := (hvo b e.symm).1; omega)).trans (Below.heap_alloc W _ b (by omega))
        have hbw := hbl w1.heap.size (by omega)
        exact ⟨(World.cell?_of_block (a := ⟨w1.heap.size, 0, none⟩) hbw).trans hc, (World.frozen?_of_block (a := ⟨w1.heap.size, 0, none⟩) hbw).trans hf, by have := hg.size; simp at this; omega, hbl, hg.os, hg.tape, hg.output⟩
      gi_wp2_with (gi_at_builtin; refine wpListIn_append_own _ rfl _ _ 23 rfl (W0.heap.size + 2) 9 i0 (.string ByteArray.empty) 1 16 Tryz.underlying23 hi hy0 hy1 hy2 rfl (by decide) _ _ _ rfl (hrow.alloc _) ⟨_, 0, none⟩ 1 1 [strV p] rfl rfl (cell_one_new _ _ _) (by simp [Value.oneCell', strV]) (by unfold maxLen; omega) (by omega) (by simp; omega) ?_; intro v' w3 hown' hgrow _; obtain ⟨c3, f3, z3, b3, o3, t3, p3⟩ := HB.out w3 hgrow; obtain ⟨g', cap', rfl⟩ := ownsRow_succ hown')
      have h1s := hb1.size
      refine ⟨fun b hb => ?_, _, World.cell?_setCell_same _ _ _ c3, by rw [World.frozen?_setCell]; exact f3, ?_, ⟨o3.trans hB.os, t3.trans hB.tape, p3.trans hB.output, by have := hB.size; simp; omega, fun k hk => (Below.heap_setCell w3 ⟨w1.heap.size, 0, none⟩ _ k (by show k ≠ w1.heap.size; omega)).trans ((b3 k (by omega)).trans (hB.block k hk))⟩⟩
      · have hb' : b ≠ w1.heap.size ∧ b < W0.heap.size + 2 := by
          simp only [List.mem_cons, List.not_mem_nil, or_false] at hb
          omega
        exact (Below.heap_setCell w3 ⟨w1.heap.size, 0, none⟩ _ b hb'.1).trans (b3 b hb'.2)
      · rw [hfil2, List.length_append, List.map_append]
        exact c_owns_kept hown' (fun g hg _ => Below.heap_setCell w3 ⟨w1.heap.size, 0, none⟩ _ g (by show g ≠ w1.heap.size; omega))
  case done =>
    rintro W ⟨v, hc, hf, hrow, hB⟩ hD
    rw [List.take_length] at hrow
    rw [hz0] at hD hrow
    refine wpAt_of ?_
    gi_wp2
    refine ⟨by simp, .inl ⟨_, _, rfl, run_takeDeferred hD, ?_⟩⟩
    have h1s := hb1.size
    refine ⟨_, results_tmp rfl _ _ _, v, rfl, c_owns_base (c_owns_kept hrow fun g hg _ => World.putObj_heap_other (by omega)) (by omega), ⟨hB.os, hB.tape, hB.output, by simpa using hB.size, fun k hk => (World.putObj_heap_other (by omega)).trans (hB.block k hk)⟩⟩
end Go.Proofs.YtlpdomgedaockaaGreatDoor
