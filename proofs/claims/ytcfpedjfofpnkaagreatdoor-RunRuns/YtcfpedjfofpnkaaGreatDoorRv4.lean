import Derived.Test.YtcfpedjfofpnkaaGreatDoorRv0
import Derived.Lib.Bytealg
import Derived.Test.YtcfpedjfofpnkaaGreatDoorChecked
import Derived.RangeFuncIn
import Derived.RangeFuncLeaves
import Derived.RangeFuncNested
import Derived.RangeFuncBound
import Derived.RangeFuncCalls
import Derived.Shelf.Abstract
import Derived.Shelf.RegionOpen
import Derived.WalkKit
import Derived.OwnWalkIn
import Derived.TacticsInMore
import Derived.LoopNIn
import Derived.LoopIn
import Derived.Shelf.Lay
import Derived.Shelf.Strings.Search3
import Derived.ControlIn
import Derived.Deep.QuietTactic
import Derived.BigQuiet
import Derived.RegionTactic
import Derived.Handy
set_option linter.unusedVariables false
set_option linter.unusedSimpArgs false
namespace Go.Proofs.Cod
open Go.Lib
def splitT (c : UInt8) : Tx → List Tx
 | [] => [[]]
 | b :: l => if b == c then [] :: splitT c l else match splitT c l with
  | [] => [[b]]
  | p :: ps => (b :: p) :: ps
theorem splitT_ne (c : UInt8) (t : Tx) : splitT c t ≠ [] := by
 cases t with
 | nil => simp [splitT]
 | cons b l =>
  unfold splitT
  split
  ·simp
  ·split <;> simp
theorem splitT_none (c : UInt8) (t : Tx) (h : indexByte t c = -1) : splitT c t = [t] := by
 induction t with
 | nil => rfl
 | cons b l ih =>
  unfold indexByte at h
  split at h
  ·omega
  ·rename_i hb
   split at h
   ·rename_i hl
    have hl' : indexByte l c = -1 := by simpa using hl
    unfold splitT
    rw [if_neg hb, ih hl']
   ·have := indexByte_ge l c
    rename_i hl
    have hl' : indexByte l c ≠ -1 := by simpa using hl
    omega
theorem splitT_some (c : UInt8) (t : Tx) (i : Nat) (h : indexByte t c = i) : i < t.length ∧ splitT c t = t.take i :: splitT c (t.drop (i + 1)) := by
 induction t generalizing i with
 | nil => unfold indexByte at h; omega
 | cons b l ih =>
  unfold indexByte at h
  split at h
  ·rename_i hb
   obtain rfl : i = 0 := by omega
   refine ⟨by simp, ?_⟩
   conv => lhs; unfold splitT
   rw [if_pos hb]; rfl
  ·rename_i hb
   split at h
   ·omega
   ·rename_i hl
    have hl' : indexByte l c ≠ -1 := by simpa using hl
    have hge := indexByte_ge l c
    obtain ⟨j, hj⟩ : ∃ j : Nat, indexByte l c = j := ⟨(indexByte l c).toNat, by omega⟩
    obtain rfl : i = j + 1 := by omega
    obtain ⟨h1, h2⟩ := ih j hj
    refine ⟨by simp; omega, ?_⟩
    conv => lhs; unfold splitT
    rw [if_neg hb, h2]
    simp
end Go.Proofs.Cod
namespace Go.Proofs.YtcfpedjfofpnkaaGreatDoor
open Go
variable {F : Fence} {n : Nat} {P : Program}
def roundPostP (P : Program) (l : Nat) (R : Ending → World → Prop) : Exit → Act → World → Prop
 | .normal, _, w => ∃ v w', (Instr.endRound l none).run P w = .ok v w' ∧ R (.returned v) w'
 | .panic chain, a, w => a.defers = [] ∧ R (.panicked chain) w
 | _, _, _ => False
theorem roundIn_of_wpInP {l : Nat} {f : FuncId} {fn : Func} {tmps : Array Value} {assign body : Code} {w : World} {R : Ending → World → Prop} (hF : F.fn f) (hfn : P.funcs[f]? = some fn)
 (h : assign.wpIn (F.inRound l) n P (Exit.then (fun a₁ w₁ => ∃ w₂, (Instr.beginRound l).run P w₁ = .ok () w₂ ∧ body.wpIn (F.inRound l) n P (roundPostP P l R) a₁ w₂) (fun _ _ _ => False))
   { tmps := tmps, defers := [] } w) :
 RoundIn F n P l f tmps assign body w R := by
 refine ⟨hF, fun c cs hr => ?_⟩
 let b : Frame := { (default : Frame) with fn := f, kind := .normal, roundOf := some l }
 have hb0 : Frame.round l f tmps assign body .normal = b.atR { tmps := tmps, defers := [] } [.code assign, .beginRound, .code body] := by
  simp [Frame.round, Frame.atR, b]
 have hr' : (F.inRound l).room ((c :: cs).length + 1 + n) := hr
 have hF' : (F.inRound l).fn b.fn := hF
 obtain ⟨e, a₁, w₁, hq, harr⟩ := h b [.beginRound, .code body] (c :: cs) rfl hF' hr'
 rw [← hb0] at harr
 cases e with
 | normal =>
  obtain ⟨w₂, hbr, hbody⟩ := hq
  have s1 : StepsIn (Machine.fenced P (F.inRound l)) P (lone (b.atR a₁ [.beginRound, .code body]) (c :: cs) w₁) (lone (b.atR a₁ [.code body]) (c :: cs) w₂) :=
   .one (fenced_calm (fr := b.atR a₁ [.beginRound, .code body]) hF' hr' rfl) (stepR_beginRound rfl hbr)
  obtain ⟨e₂, a₂, w₃, hq₂, harr₂⟩ := hbody b [] (c :: cs) rfl hF' hr'
  cases e₂ with
  | normal =>
   obtain ⟨v, w₄, hend, hR⟩ := hq₂
   exact ⟨.returned v, w₄, hR, (StepsIn.trans harr s1).trans (StepsIn.trans harr₂ (.one (fenced_calm (fr := b.atR a₂ []) hF' hr' rfl) (stepR_round_end rfl rfl hend)))⟩
  | panic chain =>
   obtain ⟨hd, hR⟩ := hq₂
   obtain ⟨todo, hs⟩ := harr₂
   have hl : ((b.atR a₂ todo).raise chain).leaving P w₃ (.panicked chain) := ⟨rfl, hd, fn, hfn⟩
   have hfe : (lone ((b.atR a₂ todo).raise chain) (c :: cs) w₃).fenced P F := fenced_leaving (n := n) hF hr hl
   exact ⟨.panicked chain, w₃, hR, (StepsIn.trans harr s1).trans (StepsIn.trans hs (.one hfe (step_leave_panicked hl)))⟩
  | ret => exact hq₂.elim
  | exit id => exact hq₂.elim
  | goto t => exact hq₂.elim
  | outgrown => exact hq₂.elim
 | exit id => exact hq.elim
 | goto t => exact hq.elim
 | ret => exact hq.elim
 | panic chain => exact hq.elim
 | outgrown => exact hq.elim
end Go.Proofs.YtcfpedjfofpnkaaGreatDoor
namespace Go.Proofs
open Go.Shelf
shelf_lay Lays.n143 Nm 143 at Tryz as Tryz.lays143
end Go.Proofs
namespace Go.Proofs.YtcfpedjfofpnkaaGreatDoor
open Go.RowKit Go.Shelf Go.Proofs.Cod Go.Lib
attribute [local go_sem] Oper.semAt_some
theorem index_any (t : Tx) (c : UInt8) (w : World) : Calls Tryz.prog 111 #[.string (bs t), .string (bs [c])] w fun e w' => e = .returned (.int .i64 (indexByte t c)) ∧ w' = w := by
 have h := Any.strings_Index_one Tryz.lays143 (bs t) c w
 have e : (bs t).data.toList = t := by simp [bs]
 rw [e] at h
 exact h
def lenAt (b : Nat) (w : World) : Nat := match w.cell? ⟨b, 0, none⟩ with
 | some (.string s) => s.size
 | _ => 0
theorem lenAt_is {b : Nat} {w : World} {t : Tx} (h : w.cell? ⟨b, 0, none⟩ = some (.string (bs t))) : lenAt b w = t.length := by
 unfold lenAt; rw [h]; exact bs_size t
set_option maxRecDepth 100000 in
set_option maxHeartbeats 1000000 in
theorem split_in (l Bsep Bs Bsave : Nat) (c : UInt8) (t : Tx) (J : Nat → World → Prop) (X : List PanicEntry → World → Prop) (hz : t.length < 4294967281)
 (hJ : ∀ i W v, J i W → J i (W.setCell ⟨Bs, 0, none⟩ v))
 (hY : ∀ i W p, J i W → (splitT c t)[i]? = some p → YieldAt Fence.wide 0 Tryz.prog l #[.string (bs p)] W fun e W' =>
   (e = .returned (.bool true) ∧ J (i + 1) W' ∧ W'.heap[Bsep]? = W.heap[Bsep]? ∧ W'.heap[Bs]? = W.heap[Bs]? ∧ W'.heap[Bsave]? = W.heap[Bsave]?) ∨ ∃ chain, e = .panicked chain ∧ X chain W')
 (W : World) (h1 : W.cell? ⟨Bsep, 0, none⟩ = some (.string (bs [c]))) (h2 : W.cell? ⟨Bs, 0, none⟩ = some (.string (bs t))) (h3 : W.cell? ⟨Bsave, 0, none⟩ = some (.int .i64 0)) (hf : W.frozen? ⟨Bs, 0, none⟩ = false)
 (hn1 : Bsep ≠ Bs) (hn2 : Bsave ≠ Bs) (h0 : J 0 W) :
 CallsIn Fence.wide 1 Tryz.prog 109 #[.func (.yield l) #[] #[], .pointer (some ⟨Bsep, 0, none⟩), .pointer (some ⟨Bs, 0, none⟩), .pointer (some ⟨Bsave, 0, none⟩)] W fun e W' =>
  (e = .returned (.tuple #[]) ∧ J (splitT c t).length W') ∨ ∃ chain, e = .panicked chain ∧ X chain W' := by
 have hsep : (bs [c]).size = 1 := bs_size [c]
 refine callsIn_of_wp Tryz.func109 rfl trivial ?_ rfl
 simp only [Tryz.ntmps109, List.size_toArray, List.length_cons, List.length_nil, Nat.reduceAdd, Nat.reduceSub, Array.replicate_succ, Array.replicate_zero, List.push_toArray, List.append_toArray, List.nil_append, List.cons_append]
 gi_wp2
 gi_loopw [7, 8] (fun _ _ wr => ∃ (i : Nat) (rest : Tx), wr.cell? ⟨Bsep, 0, none⟩ = some (.string (bs [c])) ∧ wr.cell? ⟨Bs, 0, none⟩ = some (.string (bs rest)) ∧ wr.cell? ⟨Bsave, 0, none⟩ = some (.int .i64 0) ∧ wr.frozen? ⟨Bs, 0, none⟩ = false ∧ rest.length ≤ t.length ∧ (splitT c t).drop i = splitT c rest ∧ J i wr) (fun _ _ wr => lenAt Bs wr)
 case atStart => exact ⟨0, t, h1, h2, h3, hf, Nat.le_refl _, rfl, h0⟩
 case round =>
  clear h1 h2 h3 hf h0
  obtain ⟨i, rest, h1, h2, h3, hf, hle, hdr, hJi⟩ := hrel
  have hge := indexByte_ge rest c
  have HI := index_any rest c
  by_cases hno : indexByte rest c = -1
  ·have hone := splitT_none c rest hno
   rw [hone] at hdr
   have hlen : (splitT c t).length = i + 1 := by
    have h9 : ((splitT c t).drop i).length = 1 := by rw [hdr]; rfl
    rw [List.length_drop] at h9; omega
   have hget : (splitT c t)[i]? = some rest := by
    have h9 : ((splitT c t).drop i)[0]? = some rest := by rw [hdr]; rfl
    rw [List.getElem?_drop] at h9; simpa using h9
   obtain ⟨fn, tmps, assign, body, hy, hR⟩ := hY i wr rest hJi hget
   rw [hno] at HI
   gi_wp2_with (refine ⟨trivial, ?_⟩; gi_at_call 111; refine (callsIn_wide.2 (HI _)).mono ?_; rintro e w' ⟨rfl, rfl⟩)
   refine hR.mono ?_
   rintro e W3 (⟨rfl, hJ3, _⟩ | ⟨chain, rfl, hX⟩)
   ·gi_wp2
    go_end0
    exact .inl ⟨rfl, by rw [hlen]; exact hJ3⟩
   ·exact ⟨rfl, .inr ⟨chain, rfl, hX⟩⟩
  ·obtain ⟨j, hj⟩ : ∃ j : Nat, indexByte rest c = j := ⟨(indexByte rest c).toNat, by omega⟩
   obtain ⟨hjl, hsp⟩ := splitT_some c rest j hj
   rw [hsp] at hdr
   have hget : (splitT c t)[i]? = some (rest.take j) := by
    have h9 : ((splitT c t).drop i)[0]? = some (rest.take j) := by rw [hdr]; rfl
    rw [List.getElem?_drop] at h9; simpa using h9
   have hdr2 : (splitT c t).drop (i + 1) = splitT c (rest.drop (j + 1)) := by
    have h9 : ((splitT c t).drop i).drop 1 = splitT c (rest.drop (j + 1)) := by rw [hdr]; rfl
    rw [List.drop_drop] at h9; exact h9
   obtain ⟨fn, tmps, assign, body, hy, hR⟩ := hY i wr (rest.take j) hJi hget
   have hzr := bs_size rest
   have he1 : (bs rest).extract 0 j = bs (rest.take j) := by rw [bs_extract]; simp
   rw [hj] at HI
   have hj0 : ¬ ((j : Int) < 0) := by omega
   have hjz : (j : Int) ≤ (rest.length : Int) := by omega
   gi_wp2_with (refine ⟨trivial, ?_⟩; gi_at_call 111; refine (callsIn_wide.2 (HI _)).mono ?_; rintro e w' ⟨rfl, rfl⟩)
   refine hR.mono ?_
   rintro e W3 (⟨rfl, hJ3, k1, k2, k3⟩ | ⟨chain, rfl, hX⟩)
   ·have d1 := (World.cell?_of_block (a := ⟨Bsep, 0, none⟩) k1).trans h1
    have d2 := (World.cell?_of_block (a := ⟨Bs, 0, none⟩) k2).trans h2
    have d3 := (World.cell?_of_block (a := ⟨Bsave, 0, none⟩) k3).trans h3
    have d4 := (World.frozen?_of_block (a := ⟨Bs, 0, none⟩) k2).trans hf
    have he2 : (bs rest).extract (j + 1) rest.length = bs (rest.drop (j + 1)) := by rw [bs_extract, List.take_length]
    have hj1 : (j : Int) + 1 ≤ (rest.length : Int) := by omega
    have hj2 : 0 ≤ (j : Int) + 1 := by omega
    gi_wp2
    go_roundw
    case rel => exact ⟨i + 1, rest.drop (j + 1), by rw [World.cell?_setCell_other _ _ _ _ (by intro e; cases e; exact hn1 rfl)]; exact d1, World.cell?_setCell_same _ _ _ d2, by rw [World.cell?_setCell_other _ _ _ _ (by intro e; cases e; exact hn2 rfl)]; exact d3, by rw [World.frozen?_setCell]; exact d4, by rw [List.length_drop]; omega, hdr2, hJ _ _ _ hJ3⟩
    case measure => rw [lenAt_is (World.cell?_setCell_same _ _ _ d2), lenAt_is h2, List.length_drop]; omega
   ·exact ⟨rfl, .inr ⟨chain, rfl, hX⟩⟩
end Go.Proofs.YtcfpedjfofpnkaaGreatDoor
namespace Go.Proofs.YtcfpedjfofpnkaaGreatDoor
open Go
variable {F : Fence} {n : Nat} {P : Program} {Q : Exit → Act → World → Prop} {a : Act} {w : World} {b : Frame}
def wpAt (b : Frame) (F : Fence) (n : Nat) (P : Program) (c : Code) (Q : Exit → Act → World → Prop) (a : Act) (w : World) : Prop :=
 ∀ (k : List Item) (cs : List Frame), b.roundOf = F.round → F.fn b.fn → F.room (cs.length + 1 + n) →
  ∃ e a' w', Q e a' w' ∧ ArrivesIn (Machine.fenced P F) P (lone (b.atR a (.code c :: k)) cs w) b k cs e a' w'
theorem wpAt_of {c : Code} (h : c.wpIn F n P Q a w) : wpAt b F n P c Q a w := fun k cs h1 h2 h3 => h b k cs h1 h2 h3
theorem wpAt_seq {x y : Code} (h : wpAt b F n P x (Exit.then (wpAt b F n P y Q) Q) a w) : wpAt b F n P (Code.seq x y) Q a w := by
 intro k cs hro hb hr
 have h0 : (lone (b.atR a (.code (.seq x y) :: k)) cs w).fenced P F := fenced_calm hb hr rfl
 obtain ⟨e, a₁, w₁, hq, harr⟩ := h (.code y :: k) cs hro hb hr
 cases e with
 | normal =>
  obtain ⟨e₂, a₂, w₂, hq₂, harr₂⟩ := hq k cs hro hb hr
  exact ⟨e₂, a₂, w₂, hq₂, .of_steps (.head h0 stepR_seq harr) harr₂⟩
 | exit id => exact ⟨_, a₁, w₁, hq, .of_steps (.one h0 stepR_seq) (.pass (x := .code y) rfl (fun _ _ => .inl (by simp)) harr)⟩
 | goto l => exact ⟨_, a₁, w₁, hq, .of_steps (.one h0 stepR_seq) (.pass (x := .code y) rfl (fun _ _ => .inl (by simp)) harr)⟩
 | ret => exact ⟨_, a₁, w₁, hq, .of_steps (.one h0 stepR_seq) (.pass (x := .code y) rfl (fun _ _ => .inl (by simp)) harr)⟩
 | panic ch => exact ⟨_, a₁, w₁, hq, .of_steps (.one h0 stepR_seq) (.pass (x := .code y) rfl (fun _ _ => .inl (by simp)) harr)⟩
 | outgrown => exact ⟨_, a₁, w₁, hq, .of_steps (.one h0 stepR_seq) (.pass (x := .code y) rfl (fun _ _ => .inl (by simp)) harr)⟩
theorem wpAt_block {id : Nat} {c : Code} (h : wpAt b F n P c (Exit.inBlock id Q) a w) : wpAt b F n P (Code.block id c) Q a w := by
 intro k cs hro hb hr
 have h0 : (lone (b.atR a (.code (.block id c) :: k)) cs w).fenced P F := fenced_calm hb hr rfl
 obtain ⟨e, a₁, w₁, hq, harr⟩ := h (.inBlock id :: k) cs hro hb hr
 cases e with
 | normal => exact ⟨.normal, a₁, w₁, hq, .head h0 stepR_block (StepsIn.trans harr (.one (fenced_calm hb hr rfl) stepR_inBlock))⟩
 | exit id' =>
  by_cases hid : id' = id
  ·simp only [Exit.inBlock, hid, if_true] at hq
   exact ⟨.normal, a₁, w₁, hq, .head h0 stepR_block (harr.1 k (by simp [exitTo, hid]))⟩
  ·simp only [Exit.inBlock, hid, if_false] at hq
   have this : (id == id') = false := by simp; exact fun h => hid h.symm
   have hx : exitTo id' (.inBlock id :: k) = exitTo id' k := by simp [exitTo, this]
   exact ⟨.exit id', a₁, w₁, hq, fun k' hk => .head h0 stepR_block (harr.1 k' (by rw [hx]; exact hk)),
    fun hr' hk => let ⟨k₁, h1, h2⟩ := harr.2 hr' (by rw [hx]; exact hk); ⟨k₁, h1, .head h0 stepR_block h2⟩⟩
 | goto l =>
  have hx : gotoIn l (.inBlock id :: k) = gotoIn l k := by simp [gotoIn]
  exact ⟨_, a₁, w₁, hq, fun k' hk => .head h0 stepR_block (harr.1 k' (by rw [hx]; exact hk)),
   fun hr' hk => let ⟨k₁, h1, h2⟩ := harr.2 hr' (by rw [hx]; exact hk); ⟨k₁, h1, .head h0 stepR_block h2⟩⟩
 | ret => exact ⟨_, a₁, w₁, hq, .of_steps (.one h0 stepR_block) harr⟩
 | panic ch => exact ⟨_, a₁, w₁, hq, .of_steps (.one h0 stepR_block) harr⟩
 | outgrown => exact ⟨_, a₁, w₁, hq, .of_steps (.one h0 stepR_block) harr⟩
def frameOf (f : FuncId) : Frame := { (default : Frame) with fn := f, kind := .normal, roundOf := none }
theorem callsIn_of_wpAt {f : FuncId} {fn : Func} {c : Code} {args : Array Value} {R : Ending → World → Prop}
 (hf : P.funcs[f]? = some fn) (hb : fn.body = some c) (hF : F.fn f)
 (h : wpAt (frameOf f) F n P c (bodyPostM F n P fn R) { tmps := args ++ Array.replicate (fn.ntmps - args.size) undef, defers := [] } w) (hro : F.round = none := by rfl) : CallsIn F n P f args w R := by
 refine ⟨hF, fun cs hr => ?_⟩
 have henter : Frame.enter P f args .normal =
  (frameOf f).atR { tmps := args ++ Array.replicate (fn.ntmps - args.size) undef, defers := [] } [.code c] := by
  simp [Frame.enter, Frame.atR, hf, hb, frameOf]
 obtain ⟨e, a', w', hq, harr⟩ := h [] cs hro.symm hF hr
 rw [← henter] at harr
 cases e with
 | normal =>
  obtain ⟨e', w'', fr', hR, hs, hfn, hl⟩ := leaves_stepsInM a'.defers .returning w' { (frameOf f).atR a' [] with mode := .returning } cs rfl rfl rfl hf rfl hF hr hq
  exact ⟨e', w'', fr', hR, ComesIn.of_steps (StepsIn.trans harr (.one (fenced_calm (fr := (frameOf f).atR a' []) hF hr rfl) (stepR_end rfl))) hs, hfn, hl⟩
 | ret =>
  obtain ⟨todo, hs₀⟩ := harr.1 rfl
  obtain ⟨e', w'', fr', hR, hs, hfn, hl⟩ := leaves_stepsInM a'.defers .returning w' { (frameOf f).atR a' todo with mode := .returning } cs rfl rfl rfl hf rfl hF hr hq
  exact ⟨e', w'', fr', hR, ComesIn.of_steps hs₀ hs, hfn, hl⟩
 | panic chain =>
  obtain ⟨todo, hs₀⟩ := harr
  obtain ⟨e', w'', fr', hR, hs, hfn, hl⟩ := leaves_stepsInM a'.defers (.panicking chain) w' { (frameOf f).atR a' todo with mode := .panicking chain } cs rfl rfl rfl hf rfl hF hr hq
  exact ⟨e', w'', fr', hR, ComesIn.of_steps hs₀ hs, hfn, hl⟩
 | exit id => exact hq.elim
 | goto l => exact hq.elim
 | outgrown => exact ⟨.outgrown, w', frameOf f, hq, harr.resolve_left (by simp [frameOf]), rfl, trivial⟩
theorem wpAt_rangeFunc {g : Operand} {ps : Array Tmp} {assign body : Code}
 (h : ∃ (l : Nat) (mark : List Deferred) (w₁ : World) (d : Deferred) (w₁' : World) (f : FuncId) (args : Array Value) (w₂ : World),
   (Instr.enterLoop b.fn a.tmps ps assign body F.round).run P w = .ok (l, mark) w₁ ∧
   (resolve a.eval (rangeCall g l) 0).run P w₁ = .ok d w₁' ∧
   (∀ f', Target.leads P w₁' d.target d.args = some f' → F.fn f') ∧
   (invoke d.target d.args).run P w₁' = .ok (.enter f args) w₂ ∧
   (F.depth.isSome = true → 1 ≤ n) ∧
   CallsIn F (n - 1) P f args w₂ fun
    | .returned _, w₃ => ∃ w₄, (Instr.endLoop l).run P w₃ = .ok none w₄ ∧ Q .normal { a with defers := mark ++ a.defers } w₄
    | .panicked chain, w₃ => Q (.panic chain) { a with defers := mark ++ a.defers } w₃
    | .outgrown, _ => False) :
 wpAt b F n P (Code.rangeFunc g ps assign body) Q a w := by
 intro k cs hro hb hr
 obtain ⟨l, mark, w₁, d, w₁', f, args, w₂, he, hres, hlead, hinv, hn, hF, hcall⟩ := h
 rw [← hro] at he
 have h0 : (lone (b.atR a (.code (.rangeFunc g ps assign body) :: k)) cs w).fenced P F := by
  refine fenced_lone (.inl hb) (fun f' hf' => hlead f' ?_) (Fence.room_le hr (by omega))
  have hev := Frame.eval_atR b a (.code (.rangeFunc g ps assign body) :: k)
  simp only [Frame.atR] at hev
  simp only [Frame.about, Frame.atR, he, hev, hres] at hf'
  exact hf'
 have henter := stepR_rangeFunc (P := P) (b := b) (a := a) (k := k) (cs := cs) (w := w) he hres hinv
 have hroom : F.room ((b.atR { a with defers := mark ++ a.defers } (.inRangeFunc l :: k) :: cs).length + 1 + (n - 1)) := Fence.room_enter hr hn
 obtain ⟨e, w₃, fr, hR, hsteps, hfn, hleave⟩ := hcall (b.atR { a with defers := mark ++ a.defers } (.inRangeFunc l :: k) :: cs) hroom
 cases e with
 | outgrown => exact hR.elim
 | returned v =>
  have hl : (lone fr (b.atR { a with defers := mark ++ a.defers } (.inRangeFunc l :: k) :: cs) w₃).fenced P F := fenced_leaving (hfn ▸ hF) hroom hleave
  obtain ⟨w₄, hend, hj⟩ := hR
  have sback : StepsIn (Machine.fenced P F) P (lone (b.atR a (.code (.rangeFunc g ps assign body) :: k)) cs w) (lone (b.atR { a with defers := mark ++ a.defers } k) cs w₄) := by
   refine .head h0 henter (StepsIn.trans hsteps (.head hl ?_ (.one (fenced_calm (fr := b.atR { a with defers := mark ++ a.defers } (.endRangeFunc l :: k)) hb hr rfl) (stepR_endRangeFunc hend))))
   rw [← finish_atR_inRangeFunc l v]; exact step_leave_returned hleave
  exact ⟨.normal, _, w₄, hj, sback⟩
 | panicked chain =>
  have hl : (lone fr (b.atR { a with defers := mark ++ a.defers } (.inRangeFunc l :: k) :: cs) w₃).fenced P F := fenced_leaving (hfn ▸ hF) hroom hleave
  refine ⟨.panic chain, _, w₃, hR, .inRangeFunc l :: k, .head h0 henter (StepsIn.trans hsteps (.one hl ?_))⟩
  rw [← Frame.raise_atR]; exact step_leave_panicked hleave
end Go.Proofs.YtcfpedjfofpnkaaGreatDoor
namespace Go.Proofs.YtcfpedjfofpnkaaGreatDoor
open Go.RowKit Go.Shelf Go.Proofs.Cod Go.Lib
def KeepB (bl : List Nat) (W W' : World) : Prop := ∀ b, b ∈ bl → W'.heap[b]? = W.heap[b]?
def splitPost (I : Nat → World → Prop) (X : List PanicEntry → World → Prop) (bl : List Nat) (i : Nat) (W : World) : Exit → Act → World → Prop
 | .normal, _, W' => KeepB bl W W' ∧ I (i + 1) W'
 | .panic chain, a, W' => a.defers = [] ∧ KeepB bl W W' ∧ X chain W'
 | _, _, _ => False
def FreeOf (bl : List Nat) (p : World → Prop) : Prop := ∀ W W', p W → (∀ b, b < W.heap.size → b ∉ bl → W'.heap[b]? = W.heap[b]?) → W.heap.size ≤ W'.heap.size → W'.os = W.os → W'.tape = W.tape → W'.output = W.output → p W'
theorem free_putObj {bl : List Nat} {p : World → Prop} (h : FreeOf bl p) {W : World} (hp : p W) {l : Nat} (hl : l ∈ bl) (o : Obj) : p (W.putObj l o) :=
 h W _ hp (fun b _ hb => World.putObj_heap_other (fun e => hb (e ▸ hl))) (by simp) rfl rfl rfl
theorem free_setCell {bl : List Nat} {p : World → Prop} (h : FreeOf bl p) {W : World} (hp : p W) {l : Nat} (hl : l ∈ bl) (v : Value) : p (W.setCell ⟨l, 0, none⟩ v) :=
 h W _ hp (fun b _ hb => Below.heap_setCell W ⟨l, 0, none⟩ v b (fun e => hb (e ▸ hl))) (by simp) rfl rfl rfl
theorem free_alloc {bl : List Nat} {p : World → Prop} (h : FreeOf bl p) {W : World} (hp : p W) (o : Obj) : p (W.alloc o) :=
 h W _ hp (fun b hb _ => Below.heap_alloc W o b hb) (by simp) rfl rfl rfl
set_option maxHeartbeats 1000000 in
theorem wpAt_split {b : Frame} {fnd : Func} (hfb : Tryz.prog.funcs[b.fn]? = some fnd) {n : Nat} {g : Operand} {p0 : Tmp} {assign body : Code} {Q : Exit → Act → World → Prop} {a : Act} {w : World} (Bsep Bs Bsave : Nat) (c : UInt8) (t : Tx)
 (hg : a.eval g = .func (.func 109) #[] #[.pointer (some ⟨Bsep, 0, none⟩), .pointer (some ⟨Bs, 0, none⟩), .pointer (some ⟨Bsave, 0, none⟩)]) (hz : t.length < 4294967281)
 (h1 : w.cell? ⟨Bsep, 0, none⟩ = some (.string (bs [c]))) (h2 : w.cell? ⟨Bs, 0, none⟩ = some (.string (bs t))) (h3 : w.cell? ⟨Bsave, 0, none⟩ = some (.int .i64 0)) (hf : w.frozen? ⟨Bs, 0, none⟩ = false)
 (hn1 : Bsep ≠ Bs) (hn2 : Bsave ≠ Bs)
 (I : Nat → World → Prop) (X : List PanicEntry → World → Prop) (hI : ∀ i, FreeOf [w.heap.size, w.heap.size + 1, Bs] (I i)) (h0 : I 0 w) (a₁ : Tx → Act)
 (hassign : ∀ (l : Nat) (p : Tx) (W : World) (K : Act → World → Prop), K (a₁ p) W →
   assign.wpIn (Fence.wide.inRound l) 0 Tryz.prog (Exit.then K (fun _ _ _ => False)) { tmps := (#[p0].zip #[Value.string (bs p)]).foldl (fun t (p, v) => t.setIfInBounds p v) a.tmps, defers := [] } W)
 (hbody : ∀ (l i : Nat) (p : Tx) (W : World), I i W → (splitT c t)[i]? = some p → w.heap.size + 1 < W.heap.size → body.wpIn (Fence.wide.inRound l) 0 Tryz.prog (splitPost I X [w.heap.size, w.heap.size + 1, Bsep, Bs, Bsave] i W) (a₁ p) W)
 (hdone : ∀ W, I (splitT c t).length W → W.heap[w.heap.size]? = some (.deferred (some [])) → Q .normal { a with defers := { target := .collected w.heap.size, args := #[] } :: a.defers } W)
 (hpanic : ∀ chain W, X chain W → W.heap[w.heap.size]? = some (.deferred (some [])) → Q (.panic chain) { a with defers := { target := .collected w.heap.size, args := #[] } :: a.defers } W) :
 wpAt b Fence.wide n Tryz.prog (Code.rangeFunc g #[p0] assign body) Q a w := by
 have l1 : Bsep < w.heap.size := World.block_lt_of_cell? w ⟨Bsep, 0, none⟩ h1
 have l2 : Bs < w.heap.size := World.block_lt_of_cell? w ⟨Bs, 0, none⟩ h2
 have l3 : Bsave < w.heap.size := World.block_lt_of_cell? w ⟨Bsave, 0, none⟩ h3
 obtain ⟨rec, hrec⟩ : ∃ rec : LoopState → Option Code → Loop, rec = fun st pe => { state := st, pending := pe, fn := b.fn, tmps := a.tmps, params := #[p0], assign, body, defers := w.heap.size } := ⟨_, rfl⟩
 obtain ⟨W1, hW1⟩ : ∃ W1, (w.alloc (.deferred (some []))).alloc (.loop (rec .ready none)) = W1 := ⟨_, rfl⟩
 have hL1 : W1.heap[w.heap.size + 1]? = some (.loop (rec .ready none)) := by
  rw [← hW1]; have := World.alloc_heap_new (w.alloc (.deferred (some []))) (.loop (rec .ready none)); rwa [World.size_alloc] at this
 have hK1 : W1.heap[w.heap.size]? = some (.deferred (some [])) := by
  rw [← hW1]; exact (Below.heap_alloc _ _ _ (by simp)).trans (World.alloc_heap_new w _)
 have hI1 : I 0 W1 := by rw [← hW1]; exact free_alloc (hI 0) (free_alloc (hI 0) h0 _) _
 have hb1 : Below w.heap.size w W1 := by rw [← hW1]; exact ((Below.refl _ w).alloc (Nat.le_refl _) _).alloc (by simp) _
 have mL : w.heap.size + 1 ∈ [w.heap.size, w.heap.size + 1, Bs] := by simp
 have mB : Bs ∈ [w.heap.size, w.heap.size + 1, Bs] := by simp
 refine wpAt_rangeFunc ⟨w.heap.size + 1, [{ target := .collected w.heap.size, args := #[] }], W1, { target := .fn (.func 109) #[.pointer (some ⟨Bsep, 0, none⟩), .pointer (some ⟨Bs, 0, none⟩), .pointer (some ⟨Bsave, 0, none⟩)], args := #[.func (.yield (w.heap.size + 1)) #[] #[]] }, W1, 109,
  #[.func (.yield (w.heap.size + 1)) #[] #[], .pointer (some ⟨Bsep, 0, none⟩), .pointer (some ⟨Bs, 0, none⟩), .pointer (some ⟨Bsave, 0, none⟩)], W1, ?_, ?_, fun _ _ => trivial, ?_, (fun h => by simp [Fence.wide] at h), ?_⟩
 ·rw [← hW1, hrec]; exact run_enterLoop_outer _ _ _ _ _
 ·simp only [resolve, hg]
  simp [go_sem]
 ·simp [invoke, go_sem]
 ·refine (callsIn_wide.2 (callsIn_wide.1 (split_in (w.heap.size + 1) Bsep Bs Bsave c t
   (fun i W => I i W ∧ W.heap[w.heap.size + 1]? = some (.loop (rec .ready none)) ∧ W.heap[w.heap.size]? = some (.deferred (some [])))
   (fun chain W => X chain W ∧ W.heap[w.heap.size]? = some (.deferred (some []))) hz ?_ ?_ W1 ((hb1.cell (p := ⟨Bsep, 0, none⟩) l1).trans h1) ((hb1.cell (p := ⟨Bs, 0, none⟩) l2).trans h2) ((hb1.cell (p := ⟨Bsave, 0, none⟩) l3).trans h3) ((hb1.frozen (p := ⟨Bs, 0, none⟩) l2).trans hf) hn1 hn2 ⟨hI1, hL1, hK1⟩))).mono ?_
  ·rintro i W v ⟨hi, hl, hk⟩
   exact ⟨free_setCell (hI i) hi mB v, (Below.heap_setCell W ⟨Bs, 0, none⟩ v _ (by show w.heap.size + 1 ≠ Bs; omega)).trans hl, (Below.heap_setCell W ⟨Bs, 0, none⟩ v _ (by show w.heap.size ≠ Bs; omega)).trans hk⟩
  ·rintro i W p ⟨hi, hl, hk⟩ hp
   have hlt : w.heap.size + 1 < W.heap.size := (Array.getElem?_eq_some_iff.1 hl).1
   have hy := run_yield (P := Tryz.prog) (args := #[.string (bs p)]) hl (by rw [hrec]; rfl)
   rw [hrec] at hy
   refine ⟨b.fn, _, assign, body, hy, roundIn_of_wpInP trivial hfb ?_⟩
   refine hassign _ p W _ ?_
   refine ⟨_, run_beginRound hl (by rw [hrec]), ?_⟩
   obtain ⟨W2, hW2⟩ : ∃ W2, W.putObj (w.heap.size + 1) (.loop { rec .ready none with state := .busy }) = W2 := ⟨_, rfl⟩
   rw [hW2]
   have hl2 : W2.heap[w.heap.size + 1]? = some (.loop { rec .ready none with state := .busy }) := by rw [← hW2]; exact World.putObj_heap_same hlt
   have ho2 : ∀ q, q ≠ w.heap.size + 1 → W2.heap[q]? = W.heap[q]? := fun q hq => by rw [← hW2]; exact World.putObj_heap_other hq
   have hi2 : I i W2 := by rw [← hW2]; exact free_putObj (hI i) hi mL _
   refine wpIn_mono (hbody _ i p W2 hi2 hp (by rw [← hW2]; simpa using hlt)) ?_
   rintro e a3 W3 hpost
   cases e with
   | normal =>
    obtain ⟨hk3, hi3⟩ := hpost
    have hl3 := (hk3 (w.heap.size + 1) (by simp)).trans hl2
    have hr := run_endRound (P := Tryz.prog) none hl3
    have hlt3 : w.heap.size + 1 < W3.heap.size := (Array.getElem?_eq_some_iff.1 hl3).1
    refine ⟨_, _, hr, .inl ⟨rfl, ⟨free_putObj (hI (i + 1)) hi3 mL _, ?_, ?_⟩, ?_, ?_, ?_⟩⟩
    ·rw [World.putObj_heap_same hlt3, hrec]; rfl
    ·rw [World.putObj_heap_other (by omega)]; exact (hk3 w.heap.size (by simp)).trans ((ho2 _ (by omega)).trans hk)
    ·rw [World.putObj_heap_other (by omega)]; exact (hk3 Bsep (by simp)).trans (ho2 _ (by omega))
    ·rw [World.putObj_heap_other (by omega)]; exact (hk3 Bs (by simp)).trans (ho2 _ (by omega))
    ·rw [World.putObj_heap_other (by omega)]; exact (hk3 Bsave (by simp)).trans (ho2 _ (by omega))
   | panic chain =>
    obtain ⟨hd, hk3, hx⟩ := hpost
    exact ⟨hd, .inr ⟨chain, rfl, hx, (hk3 w.heap.size (by simp)).trans ((ho2 _ (by omega)).trans hk)⟩⟩
   | ret => exact hpost.elim
   | exit id => exact hpost.elim
   | goto t => exact hpost.elim
   | outgrown => exact hpost.elim
  ·rintro e W2 (⟨rfl, hi, hl, hk⟩ | ⟨chain, rfl, hx, hk⟩)
   ·have hend := run_endLoop (P := Tryz.prog) hl (by rw [hrec]; simp)
    have hend' : (Instr.endLoop (w.heap.size + 1)).run Tryz.prog W2 = .ok none (W2.putObj (w.heap.size + 1) (.loop { rec .ready none with state := .exhausted })) := by rw [hend, hrec]
    exact ⟨_, hend', hdone _ (free_putObj (hI _) hi mL _) ((World.putObj_heap_other (by omega)).trans hk)⟩
   ·exact hpanic chain W2 hx hk
end Go.Proofs.YtcfpedjfofpnkaaGreatDoor
namespace Go.Proofs
open Go.Shelf
shelf_lay Lays.n219 Nm 219 at Tryz as Tryz.lays219
end Go.Proofs
namespace Go.Proofs.YtcfpedjfofpnkaaGreatDoor
open Go.RowKit Go.Shelf Go.Proofs.Cod Go.Lib
theorem index_lite (t : Tx) (c : UInt8) (w : World) : Calls Tryz.prog 127 #[.string (bs t), .string (bs [c])] w fun e w' => e = .returned (.int .i64 (indexByte t c)) ∧ w' = w := by
 have h := Any.stringslite_Index_one Tryz.lays219 (bs t) c w
 have e : (bs t).data.toList = t := by simp [bs]
 rw [e] at h
 exact h
def cutB (c : UInt8) (t : Tx) : Tx := if indexByte t c = -1 then t else t.take (indexByte t c).toNat
set_option maxHeartbeats 400000 in
theorem cutLite_any (t : Tx) (c : UInt8) (w : World) (hlen : t.length < 4294967281) : Calls Tryz.prog 112 #[.string (bs t), .string (bs [c])] w fun e w' => (∃ af f, e = .returned (.tuple #[.string (bs (cutB c t)), .string (bs af), .bool f])) ∧ Below w.heap.size w w' := by
 have hge := indexByte_ge t c
 have hz := bs_size t
 have hz1 : (bs [c]).size = 1 := bs_size [c]
 have HI := index_lite t c
 by_cases hno : indexByte t c = -1
 ·have hc : Hid (cutB c t = t) := by unfold Hid cutB; rw [if_pos hno]
  rw [hno] at HI
  go_enter Tryz.func112, Tryz.ntmps112
  go_wp2_with fail
  refine (HI _).mono ?_
  rintro e w1 ⟨rfl, rfl⟩
  go_wp2_with fail
  go_ret3
  exact ⟨⟨[], false, by rw [hc.out]; rfl⟩, Below.refl _ _⟩
 ·obtain ⟨j, hj⟩ : ∃ j : Nat, indexByte t c = j := ⟨(indexByte t c).toNat, by omega⟩
  obtain ⟨hjl, _⟩ := splitT_some c t j hj
  have hc : Hid (cutB c t = t.take j) := by unfold Hid cutB; rw [if_neg hno, hj]; rfl
  have he1 : (bs t).extract 0 j = bs (t.take j) := by rw [bs_extract]; simp
  have he2 : (bs t).extract (j + 1) t.length = bs (t.drop (j + 1)) := by rw [bs_extract, List.take_length]
  rw [hj] at HI
  have hj0 : 0 ≤ (j : Int) := by omega
  have hjz : (j : Int) ≤ (t.length : Int) := by omega
  have hj1 : (j : Int) + 1 ≤ (t.length : Int) := by omega
  have hj2 : 0 ≤ (j : Int) + 1 := by omega
  have hw1 : IntKind.i64.wrap ((j : Int) + 1) = (j : Int) + 1 := (IntWalk.i64_left _).trans (IntWalk.wrap64_in _ (by omega))
  have hw2 : wrap64 ((j : Int) + 1) = (j : Int) + 1 := IntWalk.wrap64_in _ (by omega)
  have ht1 : ((j : Int) + 1).toNat = j + 1 := by omega
  go_enter Tryz.func112, Tryz.ntmps112
  go_wp2_with fail
  refine (HI _).mono ?_
  rintro e w1 ⟨rfl, rfl⟩
  go_wp2_with fail
  go_region
  all_goals
   go_wp2_with fail
   go_ret3
   exact ⟨⟨t.drop (j + 1), true, by rw [hc.out]; rfl⟩, (Below.refl _ _).drew⟩
set_option maxHeartbeats 400000 in
theorem cut_any (t : Tx) (c : UInt8) (w : World) (hlen : t.length < 4294967281) : Calls Tryz.prog 94 #[.string (bs t), .string (bs [c])] w fun e w' => (∃ af f, e = .returned (.tuple #[.string (bs (cutB c t)), .string (bs af), .bool f])) ∧ Below w.heap.size w w' := by
 go_enter Tryz.func94, Tryz.ntmps94
 go_wp2_with fail
 refine (cutLite_any t c _ hlen).mono ?_
 rintro e w1 ⟨⟨af, f, rfl⟩, hb⟩
 go_wp2_with fail
 go_ret3
 exact ⟨⟨af, f, rfl⟩, hb⟩
end Go.Proofs.YtcfpedjfofpnkaaGreatDoor
