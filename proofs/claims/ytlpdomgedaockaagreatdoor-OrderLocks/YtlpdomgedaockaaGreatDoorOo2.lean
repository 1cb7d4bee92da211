import Derived.RangeFuncNested
import Derived.RangeFuncBound
import Derived.RangeFuncCalls
import Derived.RangeFuncLeaves
import Derived.Below
import Derived.Test.YtlpdomgedaockaaGreatDoorOo1
import Derived.Test.YtlpdomgedaockaaGreatDoorOo0
import Derived.Deep.RegionHeld3
import Derived.Deep.DrawnRows
import Derived.Deep.QuietTactic
import Derived.BigQuiet
set_option linter.unusedVariables false
set_option linter.unusedSimpArgs false
namespace Go.Proofs.YtlpdomgedaockaaGreatDoor
open Go.RowKit
abbrev Side := Nat → Prop
structure Steps (O : Side) (W : World) (O' : Side) (W' : World) : Prop where
  os : W'.os = W.os
  tape : W'.tape = W.tape
  output : W'.output = W.output
  size : W.heap.size ≤ W'.heap.size
  grows : ∀ b, O b → O' b
  fresh : ∀ b, O' b → O b ∨ W.heap.size ≤ b
  rest : ∀ b, b < W.heap.size → ¬ O b → W'.heap[b]? = W.heap[b]?
theorem Steps.refl (O : Side) (W : World) : Steps O W O W := ⟨rfl, rfl, rfl, Nat.le_refl _, fun _ h => h, fun _ h => .inl h, fun _ _ _ => rfl⟩
theorem Steps.trans {O O' O'' : Side} {W W' W'' : World} (h : Steps O W O' W') (k : Steps O' W' O'' W'') : Steps O W O'' W'' :=
  ⟨k.os.trans h.os, k.tape.trans h.tape, k.output.trans h.output, Nat.le_trans h.size k.size, fun b hb => k.grows b (h.grows b hb),
    fun b hb => (k.fresh b hb).elim (h.fresh b) (fun hs => .inr (Nat.le_trans h.size hs)),
    fun b hb hO => (k.rest b (Nat.lt_of_lt_of_le hb h.size) (fun h' => (h.fresh b h').elim hO (fun hs => by omega))).trans (h.rest b hb hO)⟩
theorem Steps.grown {O : Side} {W W' : World} {row : Option Nat} (hg : W.grownBy W' row) (hr : ∀ b, row = some b → O b) : Steps O W (fun b => O b ∨ (W.heap.size ≤ b ∧ b < W'.heap.size)) W' :=
  ⟨hg.os, hg.tape, hg.output, hg.size, fun _ h => .inl h, fun _ h => h.imp id And.left, fun b hb hO => hg.block b hb (fun e => hO (hr b e.symm))⟩
def Stable {β : Type} (J : β → Side → World → Prop) : Prop :=
  ∀ s O W W', J s O W → W.heap.size ≤ W'.heap.size → W'.os = W.os → W'.tape = W.tape → W'.output = W.output → (∀ b, O b → W'.heap[b]? = W.heap[b]?) → J s O W'
def SeqF {α : Type} (F : Fence) (n : Nat) (P : Program) (g : Nat) (lb : Array Value) (encs : α → Array Value) (Base : Side) (E : List α → α → Side → World → Prop) (S Sp : List α → Prop) (w : World) : Prop :=
  ∀ (l : Nat) (J Jx : List α → Side → World → Prop) (W : World), Below w.heap.size w W → Stable J → Stable Jx → (∀ pre O W1, J pre O W1 → ∀ b, O b → b < W1.heap.size) →
    (∀ pre O W1, J pre O W1 → ∀ b, Base b → O b ∧ W1.heap[b]? = W.heap[b]?) →
    (∀ pre x O W1, J pre O W1 → E pre x O W1 → YieldAt F (n - 1) P l (encs x) W1 fun e W' => ∃ O', Steps O W1 O' W' ∧
      ((e = .returned (.bool true) ∧ J (pre ++ [x]) O' W') ∨ (e = .returned (.bool false) ∧ Jx (pre ++ [x]) O' W'))) →
    J [] (fun b => b < W.heap.size) W →
    CallsIn F n P g (#[.func (.yield l) #[] #[]] ++ lb) W fun e W' => (∃ v, e = .returned v) ∧ ∃ O', ((∃ xs, S xs ∧ J xs O' W') ∨ (∃ pre, Sp pre ∧ Jx pre O' W'))
def framePost {α : Type} (I : List α → Side → World → Prop) (Ix : Code → List α → Side → World → Prop) (xs : List α) (O : Side) (W : World) : Exit → Act → World → Prop
  | .normal, _, W' => ∃ O', Steps O W O' W' ∧ I xs O' W'
  | .ret, _, W' => ∃ O', Steps O W O' W' ∧ Ix .ret xs O' W'
  | .exit id, _, W' => ∃ O', Steps O W O' W' ∧ Ix (.exit id) xs O' W'
  | .goto t, _, W' => ∃ O', Steps O W O' W' ∧ Ix (.goto t) xs O' W'
  | .panic _, _, _ => False
  | .outgrown, _, _ => False
variable {F : Fence} {n : Nat} {P : Program}
theorem wpIn_rangeFunc_frame {α : Type} {g : Operand} {ps : Array Tmp} {assign body : Code} {Q : Exit → Act → World → Prop} {a : Act} {w : World}
    (hro : F.round = none) (h1 : 1 ≤ n) {gf : Nat} {lb : Array Value} (hg : a.eval g = .func (.func gf) #[] lb) (hFg : F.fn gf) (eg : ∀ args w, (callFunc gf args).run P w = .ok (.enter gf args) w)
    {encs : α → Array Value} {Base : Side} {E : List α → α → Side → World → Prop} {S Sp : List α → Prop} {w0 : World} (hseq : SeqF F (n - 1) P gf lb encs Base E S Sp w0) (hb0 : Below w0.heap.size w0 w) (hps : ∀ x, (encs x).size = ps.size)
    (hE : ∀ pre x O W O' W', E pre x O W → Steps O W O' W' → E pre x O' W') (hEa : ∀ pre x (O O' : Side) W, E pre x O W → (∀ b, O' b → O b) → E pre x O' W)
    (I : List α → Side → World → Prop) (Ix : Code → List α → Side → World → Prop) (hI : Stable I) (hIx : ∀ c, Stable (Ix c)) (hin : ∀ pre O W, I pre O W → ∀ b, O b → b < W.heap.size) (hinx : ∀ c pre O W, Ix c pre O W → ∀ b, O b → b < W.heap.size)
    (hbase : ∀ pre O W, I pre O W → ∀ b, Base b → O b ∧ W.heap[b]? = w.heap[b]?) (hblt : ∀ b, Base b → b < w.heap.size) (h0 : I [] (fun b => b < w.heap.size) w)
    (Ax : List α → α → Act → Side → World → Prop) (hAx : ∀ pre x a', Stable (fun (_ : Unit) => Ax pre x a'))
    (hassign : ∀ (l : Nat) (pre : List α) (x : α) (O : Side) (W : World) (K : Act → World → Prop), I pre O W → E pre x O W → (∀ a' O' W', Steps O W O' W' → I pre O' W' → Ax pre x a' O' W' → K a' W') →
      assign.wpIn (F.inRound l) (n - 1 - 1) P (Exit.then K (fun _ _ _ => False)) { tmps := (ps.zip (encs x)).foldl (fun t (p, v) => t.setIfInBounds p v) a.tmps, defers := [] } W)
    (hbody : ∀ (l : Nat) (pre : List α) (x : α) (a' : Act) (O : Side) (W : World), (∃ r, W.heap[l]? = some (.loop r)) → ¬ O l → I pre O W → E pre x O W → Ax pre x a' O W → body.wpIn (F.inRound l) (n - 1 - 1) P (framePost I Ix (pre ++ [x]) O W) a' W)
    (hdone : ∀ (xs : List α) (O : Side) (W : World), S xs → I xs O W → ¬ O w.heap.size → W.heap[w.heap.size]? = some (.deferred (some [])) → Q .normal { a with defers := { target := .collected w.heap.size, args := #[] } :: a.defers } W)
    (hstop : ∀ (c : Code) (pre : List α) (O : Side) (W : World), Sp pre → Ix c pre O W → ¬ O w.heap.size → W.heap[w.heap.size]? = some (.deferred (some [])) → c.wpIn F n P Q { a with defers := { target := .collected w.heap.size, args := #[] } :: a.defers } W) :
    (Code.rangeFunc g ps assign body).wpIn F n P Q a w := by
  refine wpIn_rangeFunc fun fn hfn => ?_
  rw [hro]
  obtain ⟨D, hD⟩ : ∃ D, w.heap.size = D := ⟨_, rfl⟩
  obtain ⟨rc, hrc⟩ : ∃ rc : LoopState → Option Code → Loop, rc = fun st pe => { state := st, pending := pe, fn, tmps := a.tmps, params := ps, assign, body, defers := D } := ⟨_, rfl⟩
  obtain ⟨W1, hW1⟩ : ∃ W1, (w.alloc (.deferred (some []))).alloc (.loop (rc .ready none)) = W1 := ⟨_, rfl⟩
  have hs1 : W1.heap.size = D + 2 := by rw [← hW1, World.size_alloc, World.size_alloc, hD]
  have hL1 : W1.heap[D + 1]? = some (.loop (rc .ready none)) := by
    rw [← hW1, ← hD]; have := World.alloc_heap_new (w.alloc (.deferred (some []))) (.loop (rc .ready none)); rwa [World.size_alloc] at this
  have hD1 : W1.heap[D]? = some (.deferred (some [])) := by
    rw [← hW1, ← hD]; exact (Below.heap_alloc _ _ _ (by simp)).trans (World.alloc_heap_new w _)
  have hBW : Below w.heap.size w W1 := by rw [← hW1]; exact ((Below.refl _ w).alloc (Nat.le_refl _) _).alloc (by simp) _
  have hrun : (Instr.enterLoop fn a.tmps ps assign body none).run P w = .ok (D + 1, [{ target := .collected D, args := #[] }]) W1 := by
    rw [run_enterLoop_outer, ← hW1, hrc, hD]
  refine ⟨D + 1, [{ target := .collected D, args := #[] }], W1, { target := .fn (.func gf) lb, args := #[.func (.yield (D + 1)) #[] #[]] }, W1, gf, #[.func (.yield (D + 1)) #[] #[]] ++ lb, W1, hrun, ?_, ?_, ?_, fun _ => h1, ?_⟩
  · simp only [resolve, hg]
    simp [go_sem]
  · intro f' hf'; simp [Target.leads] at hf'; subst hf'; exact hFg
  · simp [invoke, go_sem, eg]
  rw [hD] at h0 hdone hstop hBW hblt
  obtain ⟨Two, hTwo⟩ : ∃ Two : Side → Side → Prop, Two = fun Oc O => (∀ b, O b ↔ (Oc b ∨ b = D ∨ b = D + 1)) ∧ ¬ Oc D ∧ ¬ Oc (D + 1) := ⟨_, rfl⟩
  refine (hseq (D + 1)
    (fun pre O W => ∃ Oc, Two Oc O ∧ I pre Oc W ∧ W.heap[D + 1]? = some (.loop (rc .ready none)) ∧ W.heap[D]? = some (.deferred (some [])))
    (fun pre O W => ∃ Oc c, Two Oc O ∧ Ix c pre Oc W ∧ W.heap[D + 1]? = some (.loop (rc .done (some c))) ∧ W.heap[D]? = some (.deferred (some [])))
    W1 (hb0.trans (by rw [← hD] at hBW; exact hBW.mono hb0.size)) ?_ ?_ ?_ ?_ ?_ ?_).mono ?_
  · rintro pre O W W' ⟨Oc, hT, hi, hl, hd⟩ hsz ho ht hu hsame
    have hT' := hT
    rw [hTwo] at hT'
    exact ⟨Oc, hT, hI pre Oc W W' hi hsz ho ht hu (fun b hb => hsame b ((hT'.1 b).2 (.inl hb))), (hsame _ ((hT'.1 _).2 (.inr (.inr rfl)))).trans hl, (hsame _ ((hT'.1 _).2 (.inr (.inl rfl)))).trans hd⟩
  · rintro pre O W W' ⟨Oc, c, hT, hi, hl, hd⟩ hsz ho ht hu hsame
    have hT' := hT
    rw [hTwo] at hT'
    exact ⟨Oc, c, hT, hIx c pre Oc W W' hi hsz ho ht hu (fun b hb => hsame b ((hT'.1 b).2 (.inl hb))), (hsame _ ((hT'.1 _).2 (.inr (.inr rfl)))).trans hl, (hsame _ ((hT'.1 _).2 (.inr (.inl rfl)))).trans hd⟩
  · rintro pre O W ⟨Oc, hT, hi, hl, hd⟩ b hb
    rw [hTwo] at hT
    rcases (hT.1 b).1 hb with h | rfl | rfl
    · exact hin pre Oc W hi b h
    · exact (Array.getElem?_eq_some_iff.1 hd).1
    · exact (Array.getElem?_eq_some_iff.1 hl).1
  · rintro pre O W ⟨Oc, hT, hi, hl, hd⟩ b hb
    rw [hTwo] at hT
    obtain ⟨h2, h3⟩ := hbase pre Oc W hi b hb
    exact ⟨(hT.1 b).2 (.inl h2), h3.trans (hBW.block b (hblt b hb)).symm⟩
  ·
    rintro pre x O W ⟨Oc, hT, hi, hl, hd⟩ he
    rw [hTwo] at hT ⊢
    obtain ⟨hO, hnD, hnL⟩ := hT
    have hlt : D + 1 < W.heap.size := (Array.getElem?_eq_some_iff.1 hl).1
    have hy := run_yield (P := P) (args := encs x) hl (by rw [hrc]; exact hps x)
    rw [hrc] at hy
    refine ⟨fn, _, assign, body, hy, roundIn_of_wpIn hfn (hassign _ pre x Oc W _ hi (hEa pre x O Oc W he (fun b hb => (hO b).2 (.inl hb))) ?_)⟩
    clear hy
    intro a' O2 W2 hst hi2 hax
    have hl2 := (hst.rest (D + 1) hlt hnL).trans hl
    have hd2 := (hst.rest D (by omega) hnD).trans hd
    have hnL2 : ¬ O2 (D + 1) := fun h => (hst.fresh _ h).elim hnL (fun h => by omega)
    have hnD2 : ¬ O2 D := fun h => (hst.fresh _ h).elim hnD (fun h => by omega)
    refine ⟨_, run_beginRound hl2 (by rw [hrc]), ?_⟩
    obtain ⟨W3, hW3⟩ : ∃ W3, W2.putObj (D + 1) (.loop { rc .ready none with state := .busy }) = W3 := ⟨_, rfl⟩
    have hg3 : W2.grownBy W3 (some (D + 1)) := by rw [← hW3]; exact grownBy_putObj' _ _ _
    have hs3 : W3.heap.size = W2.heap.size := by rw [← hW3]; simp [World.putObj]
    have hl3 : W3.heap[D + 1]? = some (.loop { rc .ready none with state := .busy }) := by rw [← hW3]; exact World.putObj_heap_same (Array.getElem?_eq_some_iff.1 hl2).1
    have hsame3 : ∀ b, O2 b → W3.heap[b]? = W2.heap[b]? := fun b hb => hg3.block b (hin pre O2 W2 hi2 b hb) (fun e => by cases e; exact hnL2 hb)
    have hd3 : W3.heap[D]? = some (.deferred (some [])) := (hg3.block D (Array.getElem?_eq_some_iff.1 hd2).1 (by simp)).trans hd2
    rw [hW3]
    have hi3 : I pre O2 W3 := hI pre O2 W2 W3 hi2 hg3.size hg3.os hg3.tape hg3.output hsame3
    have hax3 : Ax pre x a' O2 W3 := hAx pre x a' () O2 W2 W3 hax hg3.size hg3.os hg3.tape hg3.output hsame3
    have hbig : Steps O W (fun b => O2 b ∨ b = D ∨ b = D + 1) W3 := by
      refine ⟨hg3.os.trans hst.os, hg3.tape.trans hst.tape, hg3.output.trans hst.output, Nat.le_trans hst.size hg3.size, fun b hb => ((hO b).1 hb).imp (hst.grows b) id, fun b hb => ?_, fun b hb hn => ?_⟩
      · rcases hb with hb | hb
        · exact (hst.fresh b hb).imp (fun h => (hO b).2 (.inl h)) id
        · exact .inl ((hO b).2 (.inr hb))
      · have hne : b ≠ D + 1 := fun e => hn ((hO b).2 (.inr (.inr e)))
        exact (hg3.block b (Nat.lt_of_lt_of_le hb hst.size) (fun e => by cases e; exact hne rfl)).trans (hst.rest b hb (fun h => hn ((hO b).2 (.inl h))))
    have he3 : E pre x O2 W3 := hEa pre x _ O2 W3 (hE pre x O W _ W3 he hbig) (fun b hb => .inl hb)
    refine wpIn_mono (hbody _ pre x a' O2 W3 ⟨_, hl3⟩ hnL2 hi3 he3 hax3) ?_
    have hlt3 : D + 1 < W3.heap.size := (Array.getElem?_eq_some_iff.1 hl3).1
    have fin : ∀ (jump : Option Code) (O4 : Side) (W4 : World), Steps O2 W3 O4 W4 → ∃ W5, (Instr.endRound (D + 1) jump).run P W4 = .ok (.bool jump.isNone) W5 ∧
        W5.heap[D + 1]? = some (.loop (rc (if jump.isNone then .ready else .done) jump)) ∧ W5.heap[D]? = some (.deferred (some [])) ∧ ¬ O4 D ∧ ¬ O4 (D + 1) ∧ Steps O W (fun b => O4 b ∨ b = D ∨ b = D + 1) W5 ∧
        W4.heap.size ≤ W5.heap.size ∧ W5.os = W4.os ∧ W5.tape = W4.tape ∧ W5.output = W4.output ∧ (∀ b, b < W4.heap.size → O4 b → W5.heap[b]? = W4.heap[b]?) := fun jump O4 W4 h4 => by
      have hl4 := (h4.rest (D + 1) hlt3 hnL2).trans hl3
      have hd4 := (h4.rest D (by omega) hnD2).trans hd3
      have hlt4 := (Array.getElem?_eq_some_iff.1 hl4).1
      have hnL4 : ¬ O4 (D + 1) := fun h => (h4.fresh _ h).elim hnL2 (fun h => by omega)
      have hnD4 : ¬ O4 D := fun h => (h4.fresh _ h).elim hnD2 (fun h => by omega)
      have hrun := run_endRound (P := P) jump hl4
      obtain ⟨W5, hW5⟩ : ∃ W5, W4.putObj (D + 1) (.loop { ({ rc .ready none with state := .busy } : Loop) with state := if jump.isNone then .ready else .done, pending := jump }) = W5 := ⟨_, rfl⟩
      rw [hW5] at hrun
      have hg5 : W4.grownBy W5 (some (D + 1)) := by rw [← hW5]; exact grownBy_putObj' _ _ _
      have hl5 : W5.heap[D + 1]? = some (.loop (rc (if jump.isNone then .ready else .done) jump)) := by rw [← hW5, World.putObj_heap_same hlt4, hrc]
      refine ⟨W5, hrun, hl5, (hg5.block D (Array.getElem?_eq_some_iff.1 hd4).1 (by simp)).trans hd4, hnD4, hnL4, hbig.trans ?_, hg5.size, hg5.os, hg5.tape, hg5.output, fun b hb h => hg5.block b hb (fun e => by cases e; exact hnL4 h)⟩
      refine ⟨hg5.os.trans h4.os, hg5.tape.trans h4.tape, hg5.output.trans h4.output, Nat.le_trans h4.size hg5.size, fun b hb => hb.imp (h4.grows b) id, fun b hb => ?_, fun b hb hn => ?_⟩
      · rcases hb with hb | hb
        · exact (h4.fresh b hb).imp Or.inl id
        · exact .inl (.inr hb)
      · have hne : b ≠ D + 1 := fun e => hn (.inr (.inr e))
        exact (hg5.block b (Nat.lt_of_lt_of_le hb h4.size) (fun e => by cases e; exact hne rfl)).trans (h4.rest b hb (fun h => hn (.inl h)))
    rintro e a3 W4 hp
    cases e with
    | normal =>
      obtain ⟨O4, hst4, hi4⟩ := hp
      obtain ⟨W5, hr, hl5, hd5, hn1, hn2, hS, hz, ho, ht, hu, hsm⟩ := fin none O4 W4 hst4
      exact ⟨_, _, hr, _, hS, .inl ⟨rfl, O4, ⟨fun b => Iff.rfl, hn1, hn2⟩, hI _ O4 W4 W5 hi4 hz ho ht hu (fun b hb => hsm b (hin _ O4 W4 hi4 b hb) hb), hl5, hd5⟩⟩
    | ret =>
      obtain ⟨O4, hst4, hi4⟩ := hp
      obtain ⟨W5, hr, hl5, hd5, hn1, hn2, hS, hz, ho, ht, hu, hsm⟩ := fin (some .ret) O4 W4 hst4
      exact ⟨_, _, hr, _, hS, .inr ⟨rfl, O4, _, ⟨fun b => Iff.rfl, hn1, hn2⟩, hIx _ _ O4 W4 W5 hi4 hz ho ht hu (fun b hb => hsm b (hinx _ _ O4 W4 hi4 b hb) hb), hl5, hd5⟩⟩
    | exit id =>
      obtain ⟨O4, hst4, hi4⟩ := hp
      obtain ⟨W5, hr, hl5, hd5, hn1, hn2, hS, hz, ho, ht, hu, hsm⟩ := fin (some (.exit id)) O4 W4 hst4
      exact ⟨_, _, hr, _, hS, .inr ⟨rfl, O4, _, ⟨fun b => Iff.rfl, hn1, hn2⟩, hIx _ _ O4 W4 W5 hi4 hz ho ht hu (fun b hb => hsm b (hinx _ _ O4 W4 hi4 b hb) hb), hl5, hd5⟩⟩
    | goto t =>
      obtain ⟨O4, hst4, hi4⟩ := hp
      obtain ⟨W5, hr, hl5, hd5, hn1, hn2, hS, hz, ho, ht, hu, hsm⟩ := fin (some (.goto t)) O4 W4 hst4
      exact ⟨_, _, hr, _, hS, .inr ⟨rfl, O4, _, ⟨fun b => Iff.rfl, hn1, hn2⟩, hIx _ _ O4 W4 W5 hi4 hz ho ht hu (fun b hb => hsm b (hinx _ _ O4 W4 hi4 b hb) hb), hl5, hd5⟩⟩
    | panic ch => exact hp.elim
    | outgrown => exact hp.elim
  · rw [hTwo]
    refine ⟨fun b => b < D, ⟨fun b => by rw [hs1]; omega, by omega, by omega⟩, ?_, hL1, hD1⟩
    exact hI [] _ w W1 h0 hBW.size hBW.os hBW.tape hBW.output (fun b hb => hBW.block b hb)
  · rintro e W2 ⟨⟨v, rfl⟩, O', (⟨xs, hS, Oc, hT, hi, hl, hd⟩ | ⟨pre, hSp, Oc, c, hT, hi, hl, hd⟩)⟩
    all_goals
      rw [hTwo] at hT
      obtain ⟨hO, hnD, hnL⟩ := hT
      have hlt := (Array.getElem?_eq_some_iff.1 hl).1
      have hr := run_endLoop (P := P) hl (by rw [hrc]; simp)
    · obtain ⟨W5, hW5⟩ : ∃ W5, W2.putObj (D + 1) (.loop { rc .ready none with state := .exhausted }) = W5 := ⟨_, rfl⟩
      rw [hW5] at hr
      have hg5 : W2.grownBy W5 (some (D + 1)) := by rw [← hW5]; exact grownBy_putObj' _ _ _
      have hi5 := hI xs Oc W2 W5 hi hg5.size hg5.os hg5.tape hg5.output (fun b hb => hg5.block b (hin xs Oc W2 hi b hb) (fun e => by cases e; exact hnL hb))
      exact ⟨none, W5, by rw [hr, hrc], hdone xs Oc W5 hS hi5 hnD ((hg5.block D (Array.getElem?_eq_some_iff.1 hd).1 (by simp)).trans hd)⟩
    · obtain ⟨W5, hW5⟩ : ∃ W5, W2.putObj (D + 1) (.loop { rc .done (some c) with state := .exhausted }) = W5 := ⟨_, rfl⟩
      rw [hW5] at hr
      have hg5 : W2.grownBy W5 (some (D + 1)) := by rw [← hW5]; exact grownBy_putObj' _ _ _
      have hi5 := hIx c pre Oc W2 W5 hi hg5.size hg5.os hg5.tape hg5.output (fun b hb => hg5.block b (hinx c pre Oc W2 hi b hb) (fun e => by cases e; exact hnL hb))
      exact ⟨some c, W5, by rw [hr, hrc], hstop c pre Oc W5 hSp hi5 hnD ((hg5.block D (Array.getElem?_eq_some_iff.1 hd).1 (by simp)).trans hd)⟩
end Go.Proofs.YtlpdomgedaockaaGreatDoor
namespace Go.Proofs.YtlpdomgedaockaaGreatDoor
open Go.RowKit Go.Proofs.Ord
theorem SetO.kept {B : Nat} {W W' : World} {v : Value} {ws : List Nat} (h : SetO B W v ws) (hb : ∀ b, v.ownBlock = some b → W'.heap[b]? = W.heap[b]?) : SetO B W' v ws := by
  refine ⟨⟨h.1.1, ?_⟩, h.2⟩
  rcases h.1.2 with hn | ⟨g, cap, cur, rfl, hB, hg, rest⟩
  · exact .inl hn
  · exact .inr ⟨g, cap, cur, rfl, hB, (hb g rfl).trans hg, rest⟩
theorem SetO.lt {B : Nat} {W : World} {v : Value} {ws : List Nat} (h : SetO B W v ws) : ∀ b, v.ownBlock = some b → B ≤ b ∧ b < W.heap.size := h.1.lt
theorem SetO.cells {B : Nat} {W : World} {v : Value} {ws : List Nat} (h : SetO B W v ws) : ∀ b, v.ownBlock = some b → ∃ cur t, W.heap[b]? = some (.cells cur t (0, 0)) := by
  intro b hb
  rcases h.1.2 with ⟨rfl, _⟩ | ⟨g, cap, cur, rfl, _, hg, _⟩
  · simp [Value.ownBlock] at hb
  · simp [Value.ownBlock] at hb; subst hb; exact ⟨cur, _, hg⟩
theorem SetR.kept {W W' : World} {a : Option Addr} {ws : List Nat} (h : SetR W a ws) (hs : W.heap.size ≤ W'.heap.size) (hb : ∀ b, a = some b → W'.heap[b.block]? = W.heap[b.block]?) : SetR W' a ws := fun i hi => by
  obtain ⟨b, off, rfl, hlt, hc⟩ := h i hi
  have hbb := hb ⟨b, off, none⟩ rfl
  exact ⟨b, off, rfl, by omega, (World.cell?_of_block (w := W) (a := ⟨b, off + i, none⟩) hbb).trans hc⟩
theorem SetO.shape {B : Nat} {W : World} {v : Value} {ws : List Nat} (h : SetO B W v ws) : (v = .slice none 0 0 ∧ ws = []) ∨ ∃ g c, v = .slice (some ⟨g, 0, none⟩) ws.length c ∧ ws.length ≤ c := by
  rcases h.1.2 with ⟨rfl, h0⟩ | ⟨g, cap, cur, rfl, _, _, hc, _⟩
  · exact .inl ⟨rfl, List.eq_nil_of_length_eq_zero h0⟩
  · exact .inr ⟨g, cap, rfl, hc⟩
theorem setO_nil (B : Nat) (W : World) : SetO B W (.slice none 0 0) [] := ⟨World.ownsRow_nil _ _ _ _, fun x hx => by cases hx⟩
theorem bit_take {l : List Nat} {k i : Nat} (h : bitOf (l.take k) i = true) : bitOf l i = true := by
  unfold bitOf at h ⊢
  by_cases hk : i / 64 < k
  · have e : (l.take k).getD (i / 64) 0 = l.getD (i / 64) 0 := by simp [hk]
    rwa [e] at h
  · rw [getDN_past (by simp; omega)] at h; simp at h
structure Own2 (K B M : Nat) (Q : Int × Int → Nat → Prop) (f : Int × Int → Option Value) (O : Side) (W : World) : Prop where
  map : DMap W M f
  base : B ≤ W.heap.size
  some_ : ∀ d v, f d = some v → ∃ ws, SetO B W v ws ∧ Holds ws K (Q d)
  none_ : ∀ d, f d = none → ∀ i, i < K → ¬ Q d i
  apart : ∀ d d' v v' b, f d = some v → f d' = some v' → d ≠ d' → v.ownBlock = some b → v'.ownBlock ≠ some b
  mapMine : ¬ O M
  mine : ∀ d v b, f d = some v → v.ownBlock = some b → ¬ O b
theorem Own2.notMap {K B M : Nat} {Q : Int × Int → Nat → Prop} {f : Int × Int → Option Value} {O : Side} {W : World} (h : Own2 K B M Q f O W) {d : Int × Int} {v : Value} {b : Nat} (hf : f d = some v) (hb : v.ownBlock = some b) : b ≠ M := by
  obtain ⟨ws, hs, _⟩ := h.some_ d v hf
  obtain ⟨cur, t, hc⟩ := hs.cells b hb
  obtain ⟨es, clock, hm, _⟩ := h.map
  rintro rfl
  rw [hc] at hm; cases hm
theorem Own2.kept {K B M : Nat} {Q : Int × Int → Nat → Prop} {f : Int × Int → Option Value} {O O' : Side} {W W' : World} (h : Own2 K B M Q f O W) (hs : W.heap.size ≤ W'.heap.size) (hM : W'.heap[M]? = W.heap[M]?)
    (hr : ∀ d v b, f d = some v → v.ownBlock = some b → W'.heap[b]? = W.heap[b]?) (hO : ∀ b, b < W.heap.size → ¬ O b → ¬ O' b) : Own2 K B M Q f O' W' :=
  ⟨h.map.same hM, Nat.le_trans h.base hs, fun d v hf => by obtain ⟨ws, h1, h2⟩ := h.some_ d v hf; exact ⟨ws, h1.kept (hr d v · hf), h2⟩, h.none_, h.apart, hO M h.map.lt h.mapMine,
    fun d v b hf hb => by obtain ⟨ws, h1, _⟩ := h.some_ d v hf; exact hO b (h1.lt b hb).2 (h.mine d v b hf hb)⟩
theorem Own2.replace {K B M : Nat} {Q : Int × Int → Nat → Prop} {f : Int × Int → Option Value} {O O' : Side} {W W' : World} (h : Own2 K B M Q f O W) (own : Int × Int) {v' : Value} {ws' : List Nat} {q : Nat → Prop} (hs : W.heap.size ≤ W'.heap.size)
    (hM : DMap W' M (putD f own v')) (hr : ∀ d v b, d ≠ own → f d = some v → v.ownBlock = some b → W'.heap[b]? = W.heap[b]?) (hset : SetO B W' v' ws') (hh : Holds ws' K q)
    (hap : ∀ d v b, d ≠ own → f d = some v → v.ownBlock = some b → v'.ownBlock ≠ some b) (hOO : ∀ b, b < W.heap.size → ¬ O b → ¬ O' b) (hmine : ∀ b, v'.ownBlock = some b → ¬ O' b) : Own2 K B M (fun d i => if d = own then q i else Q d i) (putD f own v') O' W' := by
  refine ⟨hM, Nat.le_trans h.base hs, fun d v hf => ?_, fun d hf i hi => ?_, fun d d' v v'' b hf hf' hne hb => ?_, hOO M h.map.lt h.mapMine, fun d v b hf hb => ?_⟩
  · by_cases hd : d = own
    · subst hd; rw [putD_same] at hf; cases hf; exact ⟨ws', hset, hh.iff fun i _ => by rw [if_pos rfl]⟩
    · rw [putD_other v' hd] at hf
      obtain ⟨ws, h1, h2⟩ := h.some_ d v hf
      exact ⟨ws, h1.kept (hr d v · hd hf), h2.iff fun i _ => by rw [if_neg hd]⟩
  · by_cases hd : d = own
    · subst hd; rw [putD_same] at hf; cases hf
    · rw [putD_other v' hd] at hf; rw [if_neg hd]; exact h.none_ d hf i hi
  · by_cases hd : d = own
    · subst hd
      rw [putD_same] at hf; cases hf
      rw [putD_other v' (fun e => hne e.symm)] at hf'
      intro hb'; exact hap d' v'' b (fun e => hne e.symm) hf' hb' hb
    · rw [putD_other v' hd] at hf
      by_cases hd' : d' = own
      · subst hd'
        rw [putD_same] at hf'; cases hf'
        exact hap d v b hd hf hb
      · rw [putD_other v' hd'] at hf'
        exact h.apart d d' v v'' b hf hf' hne hb
  · by_cases hd : d = own
    · subst hd; rw [putD_same] at hf; cases hf; exact hmine b hb
    · rw [putD_other v' hd] at hf; obtain ⟨ws, h1, _⟩ := h.some_ d v hf; exact hOO b (h1.lt b hb).2 (h.mine d v b hf hb)
theorem Own2.iff {K B M : Nat} {Q Q' : Int × Int → Nat → Prop} {f : Int × Int → Option Value} {O : Side} {W : World} (h : Own2 K B M Q f O W) (hq : ∀ d i, i < K → (Q d i ↔ Q' d i)) : Own2 K B M Q' f O W :=
  ⟨h.map, h.base, fun d v hf => by obtain ⟨ws, h1, h2⟩ := h.some_ d v hf; exact ⟨ws, h1, h2.iff (hq d)⟩, fun d hf i hi h' => h.none_ d hf i hi ((hq d i hi).2 h'), h.apart, h.mapMine, h.mine⟩
structure Mid (K B : Nat) (v0 : Value) (Wb w2 : World) (p : Value) (ws : List Nat) (P : Nat → Prop) : Prop where
  grew : Wb.grownBy w2 v0.ownBlock
  past : SetO B w2 p ws
  holds : Holds ws K P
  blk : p.ownBlock = v0.ownBlock ∨ ∃ b, p.ownBlock = some b ∧ Wb.heap.size ≤ b
  under : ∃ a0 c0 o, v0 = .slice a0 o.length c0 ∧ (a0 = none ∨ ∃ g, a0 = some ⟨g, 0, none⟩) ∧ o.length ≤ c0 ∧ SetR w2 a0 o ∧ (∀ x, x ∈ o → x < 18446744073709551616) ∧ (∀ i, bitOf o i = true → bitOf ws i = true) ∧
    (∀ g, v0.ownBlock = some g → p.ownBlock = some g → o.length ≤ ws.length ∧ (∀ i, i < o.length → o.getD i 0 = ws.getD i 0)) ∧ o.length ≤ K / 64 + 1
theorem Own2.own {K B M : Nat} {Q : Int × Int → Nat → Prop} {f : Int × Int → Option Value} {O : Side} {W : World} (h : Own2 K B M Q f O W) (d : Int × Int) : ∃ ws, SetO B W ((f d).getD (.slice none 0 0)) ws ∧ Holds ws K (Q d) := by
  cases hf : f d with
  | some v => exact h.some_ d v hf
  | none => exact ⟨[], setO_nil B W, (Holds.nil K (p := fun _ => False) fun _ h => h).iff fun i hi => ⟨False.elim, fun h' => h.none_ d hf i hi h'⟩⟩
theorem Mid.start {K B : Nat} {W : World} {v0 : Value} {ws : List Nat} {P : Nat → Prop} (hs : SetO B W v0 ws) (hh : Holds ws K P) : Mid K B v0 W W v0 ws P := by
  refine ⟨⟨rfl, rfl, rfl, Nat.le_refl _, fun _ _ _ => rfl⟩, hs, hh, .inl rfl, ?_⟩
  obtain ⟨a, cap, e, hc, _, hr⟩ := hs.parts
  refine ⟨a, cap, ws, e, ?_, hc, hr, hs.2, fun i h => h, fun g _ _ => ⟨Nat.le_refl _, fun i _ => rfl⟩, hh.2⟩
  rcases hs.shape with ⟨h1, _⟩ | ⟨g, c, h1, _⟩
  · rw [e, Value.slice.injEq] at h1; exact .inl h1.1
  · rw [e, Value.slice.injEq] at h1; exact .inr ⟨g, h1.1⟩
theorem Mid.more {K B : Nat} {v0 : Value} {Wb w2 w3 : World} {p : Value} {ws : List Nat} {P : Nat → Prop} (h : Mid K B v0 Wb w2 p ws P) (hb : Below w2.heap.size w2 w3) : Mid K B v0 Wb w3 p ws P := by
  refine ⟨⟨hb.os.trans h.grew.os, hb.tape.trans h.grew.tape, hb.output.trans h.grew.output, Nat.le_trans h.grew.size hb.size, fun k hk hne => (hb.block k (Nat.lt_of_lt_of_le hk h.grew.size)).trans (h.grew.block k hk hne)⟩,
    h.past.kept fun b e => hb.block b (h.past.lt b e).2, h.holds, h.blk, ?_⟩
  obtain ⟨a0, c0, o, e, hz, hc, hr, rest⟩ := h.under
  refine ⟨a0, c0, o, e, hz, hc, fun i hi => ?_, rest⟩
  obtain ⟨b, off, ha, hlt, hcell⟩ := hr i hi
  exact ⟨b, off, ha, Nat.lt_of_lt_of_le hlt hb.size, (hb.cell (p := ⟨b, off + i, none⟩) hlt).trans hcell⟩
theorem Mid.door {K B M : Nat} {Q : Int × Int → Nat → Prop} {f : Int × Int → Option Value} {O : Side} {Wb w2 : World} (hO : Own2 K B M Q f O Wb) {own : Int × Int} {p : Value} {ws : List Nat} {P : Nat → Prop} (h : Mid K B ((f own).getD (.slice none 0 0)) Wb w2 p ws P)
    (hP : ∀ i, Q own i → P i) (d : Int × Int) : ∃ ad c o, (f d).getD (.slice none 0 0) = .slice ad o.length c ∧ o.length ≤ c ∧ o.length ≤ K / 64 + 1 ∧ SetR w2 ad o ∧ (∀ x, x ∈ o → x < 18446744073709551616) ∧ Beside p ws ad o ∧ Holds (joinL ws o) K (fun i => P i ∨ Q d i) := by
  by_cases hd : d = own
  · subst hd
    obtain ⟨a0, c0, o, e, hz, hc, hr, hlt, hbits, hsame, hk⟩ := h.under
    refine ⟨a0, c0, o, e, hc, hk, hr, hlt, ?_, ⟨fun i => ?_, by rw [joinL_len]; have := h.holds.2; omega⟩⟩
    · rcases hz with rfl | ⟨g, rfl⟩
      · exact .inl fun b hb => by cases hb
      · by_cases hg : p.ownBlock = some g
        · obtain ⟨h1, h2⟩ := hsame g (by rw [e]; rfl) hg
          rcases h.past.shape with ⟨h3, _⟩ | ⟨g', c, h3, _⟩
          · rw [h3] at hg; cases hg
          · have hgg : g' = g := by rw [h3] at hg; simpa [Value.ownBlock] using hg
            subst hgg
            exact .inr ⟨_, c, h3, rfl, h1, h2⟩
        · exact .inl fun b hb => by cases hb; exact hg
    · rw [bit_join, Bool.or_eq_true]
      constructor
      · rintro (h1 | h1)
        · obtain ⟨h2, h3⟩ := (h.holds.1 i).1 h1; exact ⟨h2, .inl h3⟩
        · obtain ⟨h2, h3⟩ := (h.holds.1 i).1 (hbits i h1); exact ⟨h2, .inl h3⟩
      · rintro ⟨h1, h2 | h2⟩
        · exact .inl ((h.holds.1 i).2 ⟨h1, h2⟩)
        · exact .inl ((h.holds.1 i).2 ⟨h1, hP i h2⟩)
  · cases hf : f d with
    | none =>
      refine ⟨none, 0, [], rfl, Nat.le_refl _, by simp, (fun i hi => absurd hi (by simp)), (fun x hx => by cases hx), .inl (fun b hb => by cases hb), ?_⟩
      exact (h.holds.join (Holds.nil K (p := fun _ => False) fun _ h => h)).iff fun i hi => or_congr_right ⟨False.elim, hO.none_ d hf i hi⟩
    | some v =>
      obtain ⟨ws', h1, h2⟩ := hO.some_ d v hf
      have hne : ∀ b, v.ownBlock = some b → ((f own).getD (.slice none 0 0)).ownBlock ≠ some b := fun b hb e => by
        cases hfo : f own with
        | none => rw [hfo] at e; cases e
        | some vo => rw [hfo] at e; exact hO.apart own d vo v b hfo hf (fun e => hd e.symm) e hb
      have h1' : SetO B w2 v ws' := h1.kept fun b hb => h.grew.block b (h1.lt b hb).2 (fun e => hne b hb e.symm)
      obtain ⟨a, cap, e, hc, _, hr⟩ := h1'.parts
      refine ⟨a, cap, ws', e, hc, h2.2, hr, h1'.2, .inl fun b hb hpb => ?_, h.holds.join h2⟩
      have hvb : v.ownBlock = some b.block := by rw [e, hb]; rfl
      rcases h.blk with h3 | ⟨b', h3, h4⟩
      · exact hne _ hvb (h3 ▸ hpb)
      · rw [h3] at hpb; cases hpb
        have := (h1.lt _ hvb).2; omega
theorem Mid.join {K B : Nat} {v0 : Value} {Wb w2 w3 : World} {p p' : Value} {ws o : List Nat} {P P' : Nat → Prop} (h : Mid K B v0 Wb w2 p ws P) (hs : SetO B w3 p' (joinL ws o)) (hg : w2.grownBy w3 p.ownBlock)
    (hb : p'.ownBlock = p.ownBlock ∨ (p'.ownBlock = some w2.heap.size ∧ w2.grownBy w3 none)) (hh : Holds (joinL ws o) K P') : Mid K B v0 Wb w3 p' (joinL ws o) P' := by
  refine ⟨grownBy_trans h.grew hg (fun g e => ?_), hs, hh, ?_, ?_⟩
  · rcases h.blk with h1 | ⟨b, h1, h2⟩
    · exact .inl (h1 ▸ e)
    · rw [h1] at e; cases e; exact .inr h2
  · rcases hb with hb | ⟨hb, _⟩
    · rw [hb]; exact h.blk
    · exact .inr ⟨_, hb, h.grew.size⟩
  · obtain ⟨a0, c0, o0, e, hz, hc, hr, hlt, hbits, hsame, hk⟩ := h.under
    have hmono : ∀ i, bitOf o0 i = true → bitOf (joinL ws o) i = true := fun i hi => by rw [bit_join, hbits i hi]; rfl
    rcases hz with rfl | ⟨g, rfl⟩
    · exact ⟨none, c0, o0, e, .inl rfl, hc, hr.kept hg.size (fun b hb => by cases hb), hlt, hmono, (fun g hg _ => by rw [e] at hg; cases hg), hk⟩
    · have hv0 : v0.ownBlock = some g := by rw [e]; rfl
      have hglt : 0 < o0.length → g < w2.heap.size := fun h0 => by obtain ⟨b, off, hb, hlt, _⟩ := hr 0 h0; cases hb; exact hlt
      have keep : (∀ b : Nat, b = g → b < w2.heap.size → w3.heap[b]? = w2.heap[b]?) → SetR w3 (some ⟨g, 0, none⟩) o0 := fun hkeep i hi => by
        obtain ⟨b, off, hb, hbl, hcell⟩ := hr i hi
        cases hb
        exact ⟨g, 0, rfl, Nat.lt_of_lt_of_le hbl hg.size, (World.cell?_of_block (w := w2) (a := ⟨g, 0 + i, none⟩) (hkeep g rfl hbl)).trans hcell⟩
      by_cases hpg : p.ownBlock = some g
      · rcases hb with hb | ⟨hb, hnone⟩
        ·
          obtain ⟨h1, h2⟩ := hsame g hv0 hpg
          have hl : o0.length ≤ (joinL ws o).length := by rw [joinL_len]; omega
          have hlen : ((joinL ws o).take o0.length).length = o0.length := by rw [List.length_take]; omega
          obtain ⟨a', cap', e', _, _, hr'⟩ := hs.parts
          have ha' : 0 < (joinL ws o).length → a' = some ⟨g, 0, none⟩ := fun h0 => by
            rcases hs.shape with ⟨_, h3⟩ | ⟨g', c', h3, _⟩
            · rw [h3] at h0; cases h0
            · have : p'.ownBlock = some g' := by rw [h3]; rfl
              rw [hb, hpg] at this; cases this
              rw [h3] at e'; cases e'; rfl
          refine ⟨some ⟨g, 0, none⟩, c0, (joinL ws o).take o0.length, by rw [hlen]; exact e, .inr ⟨g, rfl⟩, by rw [hlen]; exact hc, fun i hi => ?_, fun x hx => hs.2 x (List.mem_of_mem_take hx), fun i hi => bit_take hi, fun g' _ _ => ⟨by rw [hlen]; exact hl, fun i hi => ?_⟩, by rw [hlen]; exact hk⟩
          · rw [hlen] at hi
            obtain ⟨b, off, hb', hbl, hcell⟩ := hr' i (by omega)
            rw [ha' (by omega)] at hb'; cases hb'
            refine ⟨g, 0, rfl, hbl, ?_⟩
            have e2 : ((joinL ws o).take o0.length).getD i 0 = (joinL ws o).getD i 0 := by simp [hi]
            rw [e2]; exact hcell
          · rw [hlen] at hi; simp [hi]
        · refine ⟨some ⟨g, 0, none⟩, c0, o0, e, .inr ⟨g, rfl⟩, hc, keep (fun b _ hbl => hnone.block b hbl (by simp)), hlt, hmono, fun g' hg' hp' => ?_, hk⟩
          rw [hv0] at hg'; cases hg'
          rw [hb] at hp'
          have hgs := (h.past.lt g hpg).2
          have : w2.heap.size = g := by simpa using hp'
          omega
      · refine ⟨some ⟨g, 0, none⟩, c0, o0, e, .inr ⟨g, rfl⟩, hc, keep (fun b hb hbl => hg.block b hbl (fun e => hpg (by rw [← hb]; exact e.symm))), hlt, hmono, fun g' hg' hp' => ?_, hk⟩
        rw [hv0] at hg'; cases hg'
        rcases hb with hb | ⟨hb, _⟩
        · exact absurd (hb ▸ hp') hpg
        · rw [hb] at hp'
          have hgw : w2.heap.size = g := by simpa using hp'
          by_cases h0 : 0 < o0.length
          · have := hglt h0; omega
          · exact ⟨by omega, fun i hi => by omega⟩
end Go.Proofs.YtlpdomgedaockaaGreatDoor
namespace Go.Proofs.YtlpdomgedaockaaGreatDoor
open Go.RowKit Go.Proofs.Ord
def EvAt (w : World) (b o : Nat) (e : Ev) : Prop :=
  w.cell? ⟨b, o, none⟩ = some (.int .i64 e.thread) ∧ w.cell? ⟨b, o + 1, none⟩ = some (.int .i64 e.kind) ∧ w.cell? ⟨b, o + 2, none⟩ = some (.int .i64 e.obj) ∧ w.cell? ⟨b, o + 3, none⟩ = some (.int .i64 e.value)
def EvS (w : World) (a : Option Addr) (l : List Ev) : Prop :=
  ∀ i, i < l.length → ∃ b off, a = some ⟨b, off, none⟩ ∧ b < w.heap.size ∧ EvAt w b (off + i * 4) (Ord.ev l i)
theorem EvAt.below {B : Nat} {w w' : World} {b o : Nat} {e : Ev} (h : EvAt w b o e) (hb : Below B w w') (hlt : b < B) : EvAt w' b o e :=
  ⟨(hb.cell (p := ⟨b, o, none⟩) hlt).trans h.1, (hb.cell (p := ⟨b, o + 1, none⟩) hlt).trans h.2.1, (hb.cell (p := ⟨b, o + 2, none⟩) hlt).trans h.2.2.1, (hb.cell (p := ⟨b, o + 3, none⟩) hlt).trans h.2.2.2⟩
theorem EvS.below {w w' : World} {a : Option Addr} {l : List Ev} (h : EvS w a l) (hb : Below w.heap.size w w') : EvS w' a l := by
  intro i hi
  obtain ⟨b, off, ha, hlt, hc⟩ := h i hi
  exact ⟨b, off, ha, by have := hb.size; omega, hc.below hb hlt⟩
theorem EvS.at {w w' : World} {b off : Nat} {l : List Ev} (h : EvS w (some ⟨b, off, none⟩) l) (hb : Below w.heap.size w w') {i : Nat} (hi : i < l.length) :
    ∃ t k o v, Hid (Ord.ev l i = ⟨t, k, o, v⟩) ∧ w'.cell? ⟨b, off + i * 4, none⟩ = some (.int .i64 t) ∧ w'.cell? ⟨b, off + i * 4 + 1, none⟩ = some (.int .i64 k) ∧ w'.cell? ⟨b, off + i * 4 + 2, none⟩ = some (.int .i64 o) ∧ w'.cell? ⟨b, off + i * 4 + 3, none⟩ = some (.int .i64 v) := by
  obtain ⟨b', off', e, hlt, hc⟩ := h i hi
  cases e
  have h2 := hc.below hb hlt
  exact ⟨_, _, _, _, o_hide rfl, h2.1, h2.2.1, h2.2.2.1, h2.2.2.2⟩
theorem o_drewN {B : Nat} {w0 w : World} (h : Below B w0 w) (n : Nat) : Below B w0 (w.drewN n) := h.trans ⟨rfl, rfl, rfl, Nat.le_refl _, fun _ _ => rfl⟩
theorem Tryz.infob : (Tryz.prog.info? 4).map (fun i => (i.zero, i.size, i.bytes)) = some (some (.bool false), 1, 1) := by kernel_rfl
theorem bcell {W w1 : World} (hb : Below W.heap.size W w1) : (∀ b o, b < W.heap.size → w1.cell? ⟨b, o, none⟩ = W.cell? ⟨b, o, none⟩) ∧ (∀ b o, b < W.heap.size → w1.frozen? ⟨b, o, none⟩ = W.frozen? ⟨b, o, none⟩) :=
  ⟨fun b o h => hb.cell (p := ⟨b, o, none⟩) h, fun b o h => hb.frozen (p := ⟨b, o, none⟩) h⟩
def Tells (w : World) (B g : Nat) (n : Nat) (f : Nat → Bool) : Prop :=
  w.ownsRow B 4 1 (.slice (some ⟨g, 0, none⟩) n n) n ((List.range n).map fun q => Value.bool (f q))
theorem Tells.cell {w : World} {B g n : Nat} {f : Nat → Bool} (h : Tells w B g n f) {j : Nat} (hj : j < n) : w.cell? ⟨g, j, none⟩ = some (.bool (f j)) := by
  rw [World.ownsRow.cellAt h j (by omega)]; simp [hj]
theorem Tells.frozen {w : World} {B g n : Nat} {f : Nat → Bool} (h : Tells w B g n f) (j : Nat) : w.frozen? ⟨g, j, none⟩ = false := World.ownsRow.frozenAt h j
theorem ownsRow_below {B base e size n : Nat} {w w' : World} {v : Value} {xs : List Value} (h : w.ownsRow base e size v n xs) (hb : Below B w w') (hB : ∀ g, v.ownBlock = some g → g < B) : w'.ownsRow base e size v n xs := by
  refine ⟨h.1, ?_⟩
  rcases h.2 with hn | ⟨g, cap, cur, rfl, h1, hgg, rest⟩
  · exact .inl hn
  · refine .inr ⟨g, cap, cur, rfl, h1, ?_, rest⟩
    rw [hb.block g (hB g rfl)]; exact hgg
theorem Tells.below {B B' g n : Nat} {f : Nat → Bool} {w w' : World} (h : Tells w B g n f) (hb : Below B' w w') (hB : g < B') : Tells w' B g n f :=
  ownsRow_below h hb (fun q e => by simp [Value.ownBlock] at e; omega)
theorem Tells.congr {B g n : Nat} {f f' : Nat → Bool} {w : World} (h : Tells w B g n f) (e : ∀ q, q < n → f q = f' q) : Tells w B g n f' := by
  unfold Tells at *
  have : ((List.range n).map fun q => Value.bool (f q)) = (List.range n).map fun q => Value.bool (f' q) := by
    apply List.map_congr_left
    intro q hq
    rw [e q (List.mem_range.1 hq)]
  rw [← this]; exact h
theorem Tells.stored {B g n : Nat} {f : Nat → Bool} {w : World} (h : Tells w B g n f) (j : Nat) (x : Bool) : Tells (w.setCell ⟨g, j, none⟩ (.bool x)) B g n (fun q => if q = j then x else f q) := by
  have h1 := (World.ownsRow.stored h j (.bool x)).1
  unfold Tells
  have e : ((List.range n).map fun q => Value.bool (if q = j then x else f q)) = ((List.range n).map fun q => Value.bool (f q)).set j (.bool x) := by
    apply List.ext_getElem?
    intro q
    rw [List.getElem?_set]
    by_cases hq : q < n
    · by_cases e : j = q
      · subst e; simp [hq]
      · have e' : ¬ q = j := fun h => e h.symm
        simp [hq, e, e']
    · simp [hq]
      intro e; omega
  rw [e]; exact h1
end Go.Proofs.YtlpdomgedaockaaGreatDoor
