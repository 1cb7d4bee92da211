import Derived.RangeFuncNested
import Derived.RangeFuncBound
import Derived.RangeFuncCalls
import Derived.RangeFuncLeaves
import Derived.Below
namespace Go.Proofs.YtiaedjnedoemoabDoor
open Go.RowKit

/-- Of whom a block is: one side's. -/
abbrev Side := Nat → Prop

/-- One side's step: nothing is changed but its own blocks; what is its own afterwards was so, or is new. -/
structure Steps (O : Side) (W : World) (O' : Side) (W' : World) : Prop where
  os : W'.os = W.os
  tape : W'.tape = W.tape
  output : W'.output = W.output
  size : W.heap.size ≤ W'.heap.size
  grows : ∀ b, O b → O' b
  fresh : ∀ b, O' b → O b ∨ W.heap.size ≤ b
  rest : ∀ b, b < W.heap.size → ¬ O b → W'.heap[b]? = W.heap[b]?

theorem Steps.refl (O : Side) (W : World) : Steps O W O W := ⟨rfl, rfl, rfl, Nat.le_refl _, fun _ h => h, fun _ h => .inl h, fun _ _ _ => rfl⟩
theorem Steps.trans {O O' O'' : Side} {W W' W'' : World} (h : Steps O W O' W') (k : Steps O' W' O'' W'') : Steps O W O'' W'' :=
  ⟨k.os.trans h.os, k.tape.trans h.tape, k.output.trans h.output, Nat.le_trans h.size k.size, fun b hb => k.grows b (h.grows b hb),
    fun b hb => (k.fresh b hb).elim (h.fresh b) (fun hs => .inr (Nat.le_trans h.size hs)),
    fun b hb hO => (k.rest b (Nat.lt_of_lt_of_le hb h.size) (fun h' => (h.fresh b h').elim hO (fun hs => by omega))).trans (h.rest b hb hO)⟩
/-- A law's step that writes one block of the side's, or none: what is new becomes the side's. -/
theorem Steps.grown {O : Side} {W W' : World} {row : Option Nat} (hg : W.grownBy W' row) (hr : ∀ b, row = some b → O b) : Steps O W (fun b => O b ∨ (W.heap.size ≤ b ∧ b < W'.heap.size)) W' :=
  ⟨hg.os, hg.tape, hg.output, hg.size, fun _ h => .inl h, fun _ h => h.imp id And.left, fun b hb hO => hg.block b hb (fun e => hO (hr b e.symm))⟩

/-- What is said of one side's blocks holds wherever they are as they were. -/
def Stable {β : Type} (J : β → Side → World → Prop) : Prop :=
  ∀ s O W W', J s O W → W.heap.size ≤ W'.heap.size → W'.os = W.os → W'.tape = W.tape → W'.output = W.output → (∀ b, O b → W'.heap[b]? = W.heap[b]?) → J s O W'

/-- An iterator that has blocks of its own. Base: what it reads that was there before. E: what it says of what it hands over. -/
def SeqF {α : Type} (F : Fence) (n : Nat) (P : Program) (g : Nat) (lb : Array Value) (encs : α → Array Value) (Base : Side) (E : List α → α → Side → World → Prop) (S Sp : List α → Prop) (w : World) : Prop :=
  ∀ (l : Nat) (J Jx : List α → Side → World → Prop) (W : World), Below w.heap.size w W → Stable J → Stable Jx → (∀ pre O W1, J pre O W1 → ∀ b, O b → b < W1.heap.size) →
    (∀ pre O W1, J pre O W1 → ∀ b, Base b → O b ∧ W1.heap[b]? = W.heap[b]?) →
    (∀ pre x O W1, J pre O W1 → E pre x O W1 → YieldAt F (n - 1) P l (encs x) W1 fun e W' => ∃ O', Steps O W1 O' W' ∧
      ((e = .returned (.bool true) ∧ J (pre ++ [x]) O' W') ∨ (e = .returned (.bool false) ∧ Jx (pre ++ [x]) O' W'))) →
    J [] (fun b => b < W.heap.size) W →
    CallsIn F n P g (#[.func (.yield l) #[] #[]] ++ lb) W fun e W' => (∃ v, e = .returned v) ∧ ∃ O', ((∃ xs, S xs ∧ J xs O' W') ∨ (∃ pre, Sp pre ∧ Jx pre O' W'))

/-- How the body of a round may be left. -/
def framePost {α : Type} (I : List α → Side → World → Prop) (Ix : Code → List α → Side → World → Prop) (xs : List α) (O : Side) (W : World) : Exit → Act → World → Prop
  | .normal, _, W' => ∃ O', Steps O W O' W' ∧ I xs O' W'
  | .ret, _, W' => ∃ O', Steps O W O' W' ∧ Ix .ret xs O' W'
  | .exit id, _, W' => ∃ O', Steps O W O' W' ∧ Ix (.exit id) xs O' W'
  | .goto t, _, W' => ∃ O', Steps O W O' W' ∧ Ix (.goto t) xs O' W'
  | .panic _, _, _ => False
  | .outgrown, _, _ => False

variable {F : Fence} {n : Nat} {P : Program}

/-- 'for x := range it { .. }', where the iterator has blocks of its own. -/
theorem wpIn_rangeFunc_frame {α : Type} {g : Operand} {ps : Array Tmp} {assign body : Code} {Q : Exit → Act → World → Prop} {a : Act} {w : World}
    (hro : F.round = none) (h1 : 1 ≤ n) {gf : Nat} {lb : Array Value} (hg : a.eval g = .func (.func gf) #[] lb) (hFg : F.fn gf) (eg : ∀ args w, (callFunc gf args).run P w = .ok (.enter gf args) w)
    {encs : α → Array Value} {Base : Side} {E : List α → α → Side → World → Prop} {S Sp : List α → Prop} {w0 : World} (hseq : SeqF F (n - 1) P gf lb encs Base E S Sp w0) (hb0 : Below w0.heap.size w0 w) (hps : ∀ x, (encs x).size = ps.size)
    (hE : ∀ pre x O W O' W', E pre x O W → Steps O W O' W' → E pre x O' W') (hEa : ∀ pre x (O O' : Side) W, E pre x O W → (∀ b, O' b → O b) → E pre x O' W)
    (I : List α → Side → World → Prop) (Ix : Code → List α → Side → World → Prop) (hI : Stable I) (hIx : ∀ c, Stable (Ix c)) (hin : ∀ pre O W, I pre O W → ∀ b, O b → b < W.heap.size) (hinx : ∀ c pre O W, Ix c pre O W → ∀ b, O b → b < W.heap.size)
    (hbase : ∀ pre O W, I pre O W → ∀ b, Base b → O b ∧ W.heap[b]? = w.heap[b]?) (hblt : ∀ b, Base b → b < w.heap.size) (h0 : I [] (fun b => b < w.heap.size) w)
    (Ax : List α → α → Act → Side → World → Prop) (hAx : ∀ pre x a', Stable (fun (_ : Unit) => Ax pre x a'))
    (hassign : ∀ (l : Nat) (pre : List α) (x : α) (O : Side) (W : World) (K : Act → World → Prop), I pre O W → E pre x O W → (∀ a' O' W', Steps O W O' W' → I pre O' W' → Ax pre x a' O' W' → K a' W') →
      assign.wpIn (F.inRound l) (n - 1 - 1) P (Exit.then K (fun _ _ _ => False)) { tmps := (ps.zip (encs x)).foldl (fun t (p, v) => t.setIfInBounds p v) a.tmps, defers := [] } W)
    (hbody : ∀ (l : Nat) (pre : List α) (x : α) (a' : Act) (O : Side) (W : World), (∃ r, W.heap[l]? = some (.loop r)) → ¬ O l → I pre O W → E pre x O W → Ax pre x a' O W → body.wpIn (F.inRound l) (n - 1 - 1) P (framePost I Ix (pre ++ [x]) O W) a' W)
    (hdone : ∀ (xs : List α) (O : Side) (W : World), S xs → I xs O W → ¬ O w.heap.size → W.heap[w.heap.size]? = some (.deferred (some [])) → Q .normal { a with defers := { target := .collected w.heap.size, args := #[] } :: a.defers } W)
    (hstop : ∀ (c : Code) (pre : List α) (O : Side) (W : World), Sp pre → Ix c pre O W → ¬ O w.heap.size → W.heap[w.heap.size]? = some (.deferred (some [])) → c.wpIn F n P Q { a with defers := { target := .collected w.heap.size, args := #[] } :: a.defers } W) :
    (Code.rangeFunc g ps assign body).wpIn F n P Q a w := by
  refine wpIn_rangeFunc fun fn hfn => ?_
  rw [hro]
  obtain ⟨D, hD⟩ : ∃ D, w.heap.size = D := ⟨_, rfl⟩
  obtain ⟨rc, hrc⟩ : ∃ rc : LoopState → Option Code → Loop, rc = fun st pe => { state := st, pending := pe, fn, tmps := a.tmps, params := ps, assign, body, defers := D } := ⟨_, rfl⟩
  obtain ⟨W1, hW1⟩ : ∃ W1, (w.alloc (.deferred (some []))).alloc (.loop (rc .ready none)) = W1 := ⟨_, rfl⟩
  have hs1 : W1.heap.size = D + 2 := by rw [← hW1, World.size_alloc, World.size_alloc, hD]
  have hL1 : W1.heap[D + 1]? = some (.loop (rc .ready none)) := by
    rw [← hW1, ← hD]; have := World.alloc_heap_new (w.alloc (.deferred (some []))) (.loop (rc .ready none)); rwa [World.size_alloc] at this
  have hD1 : W1.heap[D]? = some (.deferred (some [])) := by
    rw [← hW1, ← hD]; exact (Below.heap_alloc _ _ _ (by simp)).trans (World.alloc_heap_new w _)
  have hBW : Below w.heap.size w W1 := by rw [← hW1]; exact ((Below.refl _ w).alloc (Nat.le_refl _) _).alloc (by simp) _
  have hrun : (Instr.enterLoop fn a.tmps ps assign body none).run P w = .ok (D + 1, [{ target := .collected D, args := #[] }]) W1 := by
    rw [run_enterLoop_outer, ← hW1, hrc, hD]
  refine ⟨D + 1, [{ target := .collected D, args := #[] }], W1, { target := .fn (.func gf) lb, args := #[.func (.yield (D + 1)) #[] #[]] }, W1, gf, #[.func (.yield (D + 1)) #[] #[]] ++ lb, W1, hrun, ?_, ?_, ?_, fun _ => h1, ?_⟩
  · simp only [resolve, hg]
    simp [go_sem]
  · intro f' hf'; simp [Target.leads] at hf'; subst hf'; exact hFg
  · simp [invoke, go_sem, eg]
  rw [hD] at h0 hdone hstop hBW hblt
  -- the side's blocks, and the law's own two
  obtain ⟨Two, hTwo⟩ : ∃ Two : Side → Side → Prop, Two = fun Oc O => (∀ b, O b ↔ (Oc b ∨ b = D ∨ b = D + 1)) ∧ ¬ Oc D ∧ ¬ Oc (D + 1) := ⟨_, rfl⟩
  refine (hseq (D + 1)
    (fun pre O W => ∃ Oc, Two Oc O ∧ I pre Oc W ∧ W.heap[D + 1]? = some (.loop (rc .ready none)) ∧ W.heap[D]? = some (.deferred (some [])))
    (fun pre O W => ∃ Oc c, Two Oc O ∧ Ix c pre Oc W ∧ W.heap[D + 1]? = some (.loop (rc .done (some c))) ∧ W.heap[D]? = some (.deferred (some [])))
    W1 (hb0.trans (by rw [← hD] at hBW; exact hBW.mono hb0.size)) ?_ ?_ ?_ ?_ ?_ ?_).mono ?_
  · rintro pre O W W' ⟨Oc, hT, hi, hl, hd⟩ hsz ho ht hu hsame
    have hT' := hT
    rw [hTwo] at hT'
    exact ⟨Oc, hT, hI pre Oc W W' hi hsz ho ht hu (fun b hb => hsame b ((hT'.1 b).2 (.inl hb))), (hsame _ ((hT'.1 _).2 (.inr (.inr rfl)))).trans hl, (hsame _ ((hT'.1 _).2 (.inr (.inl rfl)))).trans hd⟩
  · rintro pre O W W' ⟨Oc, c, hT, hi, hl, hd⟩ hsz ho ht hu hsame
    have hT' := hT
    rw [hTwo] at hT'
    exact ⟨Oc, c, hT, hIx c pre Oc W W' hi hsz ho ht hu (fun b hb => hsame b ((hT'.1 b).2 (.inl hb))), (hsame _ ((hT'.1 _).2 (.inr (.inr rfl)))).trans hl, (hsame _ ((hT'.1 _).2 (.inr (.inl rfl)))).trans hd⟩
  · rintro pre O W ⟨Oc, hT, hi, hl, hd⟩ b hb
    rw [hTwo] at hT
    rcases (hT.1 b).1 hb with h | rfl | rfl
    · exact hin pre Oc W hi b h
    · exact (Array.getElem?_eq_some_iff.1 hd).1
    · exact (Array.getElem?_eq_some_iff.1 hl).1
  · rintro pre O W ⟨Oc, hT, hi, hl, hd⟩ b hb
    rw [hTwo] at hT
    obtain ⟨h2, h3⟩ := hbase pre Oc W hi b hb
    exact ⟨(hT.1 b).2 (.inl h2), h3.trans (hBW.block b (hblt b hb)).symm⟩
  · -- one round
    rintro pre x O W ⟨Oc, hT, hi, hl, hd⟩ he
    rw [hTwo] at hT ⊢
    obtain ⟨hO, hnD, hnL⟩ := hT
    have hlt : D + 1 < W.heap.size := (Array.getElem?_eq_some_iff.1 hl).1
    have hy := run_yield (P := P) (args := encs x) hl (by rw [hrc]; exact hps x)
    rw [hrc] at hy
    refine ⟨fn, _, assign, body, hy, roundIn_of_wpIn hfn (hassign _ pre x Oc W _ hi (hEa pre x O Oc W he (fun b hb => (hO b).2 (.inl hb))) ?_)⟩
    clear hy
    intro a' O2 W2 hst hi2 hax
    have hl2 := (hst.rest (D + 1) hlt hnL).trans hl
    have hd2 := (hst.rest D (by omega) hnD).trans hd
    have hnL2 : ¬ O2 (D + 1) := fun h => (hst.fresh _ h).elim hnL (fun h => by omega)
    have hnD2 : ¬ O2 D := fun h => (hst.fresh _ h).elim hnD (fun h => by omega)
    refine ⟨_, run_beginRound hl2 (by rw [hrc]), ?_⟩
    obtain ⟨W3, hW3⟩ : ∃ W3, W2.putObj (D + 1) (.loop { rc .ready none with state := .busy }) = W3 := ⟨_, rfl⟩
    have hg3 : W2.grownBy W3 (some (D + 1)) := by rw [← hW3]; exact grownBy_putObj' _ _ _
    have hs3 : W3.heap.size = W2.heap.size := by rw [← hW3]; simp [World.putObj]
    have hl3 : W3.heap[D + 1]? = some (.loop { rc .ready none with state := .busy }) := by rw [← hW3]; exact World.putObj_heap_same (Array.getElem?_eq_some_iff.1 hl2).1
    have hsame3 : ∀ b, O2 b → W3.heap[b]? = W2.heap[b]? := fun b hb => hg3.block b (hin pre O2 W2 hi2 b hb) (fun e => by cases e; exact hnL2 hb)
    have hd3 : W3.heap[D]? = some (.deferred (some [])) := (hg3.block D (Array.getElem?_eq_some_iff.1 hd2).1 (by simp)).trans hd2
    rw [hW3]
    have hi3 : I pre O2 W3 := hI pre O2 W2 W3 hi2 hg3.size hg3.os hg3.tape hg3.output hsame3
    have hax3 : Ax pre x a' O2 W3 := hAx pre x a' () O2 W2 W3 hax hg3.size hg3.os hg3.tape hg3.output hsame3
    -- the step of the whole round's beginning, both sides' books with it
    have hbig : Steps O W (fun b => O2 b ∨ b = D ∨ b = D + 1) W3 := by
      refine ⟨hg3.os.trans hst.os, hg3.tape.trans hst.tape, hg3.output.trans hst.output, Nat.le_trans hst.size hg3.size, fun b hb => ((hO b).1 hb).imp (hst.grows b) id, fun b hb => ?_, fun b hb hn => ?_⟩
      · rcases hb with hb | hb
        · exact (hst.fresh b hb).imp (fun h => (hO b).2 (.inl h)) id
        · exact .inl ((hO b).2 (.inr hb))
      · have hne : b ≠ D + 1 := fun e => hn ((hO b).2 (.inr (.inr e)))
        exact (hg3.block b (Nat.lt_of_lt_of_le hb hst.size) (fun e => by cases e; exact hne rfl)).trans (hst.rest b hb (fun h => hn ((hO b).2 (.inl h))))
    have he3 : E pre x O2 W3 := hEa pre x _ O2 W3 (hE pre x O W _ W3 he hbig) (fun b hb => .inl hb)
    refine wpIn_mono (hbody _ pre x a' O2 W3 ⟨_, hl3⟩ hnL2 hi3 he3 hax3) ?_
    have hlt3 : D + 1 < W3.heap.size := (Array.getElem?_eq_some_iff.1 hl3).1
    have fin : ∀ (jump : Option Code) (O4 : Side) (W4 : World), Steps O2 W3 O4 W4 → ∃ W5, (Instr.endRound (D + 1) jump).run P W4 = .ok (.bool jump.isNone) W5 ∧
        W5.heap[D + 1]? = some (.loop (rc (if jump.isNone then .ready else .done) jump)) ∧ W5.heap[D]? = some (.deferred (some [])) ∧ ¬ O4 D ∧ ¬ O4 (D + 1) ∧ Steps O W (fun b => O4 b ∨ b = D ∨ b = D + 1) W5 ∧
        W4.heap.size ≤ W5.heap.size ∧ W5.os = W4.os ∧ W5.tape = W4.tape ∧ W5.output = W4.output ∧ (∀ b, b < W4.heap.size → O4 b → W5.heap[b]? = W4.heap[b]?) := fun jump O4 W4 h4 => by
      have hl4 := (h4.rest (D + 1) hlt3 hnL2).trans hl3
      have hd4 := (h4.rest D (by omega) hnD2).trans hd3
      have hlt4 := (Array.getElem?_eq_some_iff.1 hl4).1
      have hnL4 : ¬ O4 (D + 1) := fun h => (h4.fresh _ h).elim hnL2 (fun h => by omega)
      have hnD4 : ¬ O4 D := fun h => (h4.fresh _ h).elim hnD2 (fun h => by omega)
      have hrun := run_endRound (P := P) jump hl4
      obtain ⟨W5, hW5⟩ : ∃ W5, W4.putObj (D + 1) (.loop { ({ rc .ready none with state := .busy } : Loop) with state := if jump.isNone then .ready else .done, pending := jump }) = W5 := ⟨_, rfl⟩
      rw [hW5] at hrun
      have hg5 : W4.grownBy W5 (some (D + 1)) := by rw [← hW5]; exact grownBy_putObj' _ _ _
      have hl5 : W5.heap[D + 1]? = some (.loop (rc (if jump.isNone then .ready else .done) jump)) := by rw [← hW5, World.putObj_heap_same hlt4, hrc]
      refine ⟨W5, hrun, hl5, (hg5.block D (Array.getElem?_eq_some_iff.1 hd4).1 (by simp)).trans hd4, hnD4, hnL4, hbig.trans ?_, hg5.size, hg5.os, hg5.tape, hg5.output, fun b hb h => hg5.block b hb (fun e => by cases e; exact hnL4 h)⟩
      refine ⟨hg5.os.trans h4.os, hg5.tape.trans h4.tape, hg5.output.trans h4.output, Nat.le_trans h4.size hg5.size, fun b hb => hb.imp (h4.grows b) id, fun b hb => ?_, fun b hb hn => ?_⟩
      · rcases hb with hb | hb
        · exact (h4.fresh b hb).imp Or.inl id
        · exact .inl (.inr hb)
      · have hne : b ≠ D + 1 := fun e => hn (.inr (.inr e))
        exact (hg5.block b (Nat.lt_of_lt_of_le hb h4.size) (fun e => by cases e; exact hne rfl)).trans (h4.rest b hb (fun h => hn (.inl h)))
    rintro e a3 W4 hp
    cases e with
    | normal =>
      obtain ⟨O4, hst4, hi4⟩ := hp
      obtain ⟨W5, hr, hl5, hd5, hn1, hn2, hS, hz, ho, ht, hu, hsm⟩ := fin none O4 W4 hst4
      exact ⟨_, _, hr, _, hS, .inl ⟨rfl, O4, ⟨fun b => Iff.rfl, hn1, hn2⟩, hI _ O4 W4 W5 hi4 hz ho ht hu (fun b hb => hsm b (hin _ O4 W4 hi4 b hb) hb), hl5, hd5⟩⟩
    | ret =>
      obtain ⟨O4, hst4, hi4⟩ := hp
      obtain ⟨W5, hr, hl5, hd5, hn1, hn2, hS, hz, ho, ht, hu, hsm⟩ := fin (some .ret) O4 W4 hst4
      exact ⟨_, _, hr, _, hS, .inr ⟨rfl, O4, _, ⟨fun b => Iff.rfl, hn1, hn2⟩, hIx _ _ O4 W4 W5 hi4 hz ho ht hu (fun b hb => hsm b (hinx _ _ O4 W4 hi4 b hb) hb), hl5, hd5⟩⟩
    | exit id =>
      obtain ⟨O4, hst4, hi4⟩ := hp
      obtain ⟨W5, hr, hl5, hd5, hn1, hn2, hS, hz, ho, ht, hu, hsm⟩ := fin (some (.exit id)) O4 W4 hst4
      exact ⟨_, _, hr, _, hS, .inr ⟨rfl, O4, _, ⟨fun b => Iff.rfl, hn1, hn2⟩, hIx _ _ O4 W4 W5 hi4 hz ho ht hu (fun b hb => hsm b (hinx _ _ O4 W4 hi4 b hb) hb), hl5, hd5⟩⟩
    | goto t =>
      obtain ⟨O4, hst4, hi4⟩ := hp
      obtain ⟨W5, hr, hl5, hd5, hn1, hn2, hS, hz, ho, ht, hu, hsm⟩ := fin (some (.goto t)) O4 W4 hst4
      exact ⟨_, _, hr, _, hS, .inr ⟨rfl, O4, _, ⟨fun b => Iff.rfl, hn1, hn2⟩, hIx _ _ O4 W4 W5 hi4 hz ho ht hu (fun b hb => hsm b (hinx _ _ O4 W4 hi4 b hb) hb), hl5, hd5⟩⟩
    | panic ch => exact hp.elim
    | outgrown => exact hp.elim
  · rw [hTwo]
    refine ⟨fun b => b < D, ⟨fun b => by rw [hs1]; omega, by omega, by omega⟩, ?_, hL1, hD1⟩
    exact hI [] _ w W1 h0 hBW.size hBW.os hBW.tape hBW.output (fun b hb => hBW.block b hb)
  · rintro e W2 ⟨⟨v, rfl⟩, O', (⟨xs, hS, Oc, hT, hi, hl, hd⟩ | ⟨pre, hSp, Oc, c, hT, hi, hl, hd⟩)⟩
    all_goals
      rw [hTwo] at hT
      obtain ⟨hO, hnD, hnL⟩ := hT
      have hlt := (Array.getElem?_eq_some_iff.1 hl).1
      have hr := run_endLoop (P := P) hl (by rw [hrc]; simp)
    · obtain ⟨W5, hW5⟩ : ∃ W5, W2.putObj (D + 1) (.loop { rc .ready none with state := .exhausted }) = W5 := ⟨_, rfl⟩
      rw [hW5] at hr
      have hg5 : W2.grownBy W5 (some (D + 1)) := by rw [← hW5]; exact grownBy_putObj' _ _ _
      have hi5 := hI xs Oc W2 W5 hi hg5.size hg5.os hg5.tape hg5.output (fun b hb => hg5.block b (hin xs Oc W2 hi b hb) (fun e => by cases e; exact hnL hb))
      exact ⟨none, W5, by rw [hr, hrc], hdone xs Oc W5 hS hi5 hnD ((hg5.block D (Array.getElem?_eq_some_iff.1 hd).1 (by simp)).trans hd)⟩
    · obtain ⟨W5, hW5⟩ : ∃ W5, W2.putObj (D + 1) (.loop { rc .done (some c) with state := .exhausted }) = W5 := ⟨_, rfl⟩
      rw [hW5] at hr
      have hg5 : W2.grownBy W5 (some (D + 1)) := by rw [← hW5]; exact grownBy_putObj' _ _ _
      have hi5 := hIx c pre Oc W2 W5 hi hg5.size hg5.os hg5.tape hg5.output (fun b hb => hg5.block b (hinx c pre Oc W2 hi b hb) (fun e => by cases e; exact hnL hb))
      exact ⟨some c, W5, by rw [hr, hrc], hstop c pre Oc W5 hSp hi5 hnD ((hg5.block D (Array.getElem?_eq_some_iff.1 hd).1 (by simp)).trans hd)⟩
end Go.Proofs.YtiaedjnedoemoabDoor
