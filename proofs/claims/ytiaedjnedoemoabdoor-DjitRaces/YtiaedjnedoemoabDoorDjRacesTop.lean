import Derived.Test.YtiaedjnedoemoabDoorStPut
import Derived.Test.YtiaedjnedoemoabDoorDjSmall
import Derived.Test.YtiaedjnedoemoabDoorDjProg
import Derived.Test.YtiaedjnedoemoabDoorDjSaid
import Derived.Test.YtiaedjnedoemoabDoorOrdRac
import Derived.Test.YtiaedjnedoemoabDoorOrdLaw
import Derived.Test.YtiaedjnedoemoabDoorRows
import Derived.Deep.Slices
import Derived.Lib.SmallJoins
import Derived.OpenShut
import Derived.Test.YtiaedjnedoemoabDoorRacesTop
import Derived.Test.YtiaedjnedoemoabDoorCards
import Derived.Test.YtiaedjnedoemoabDoorTie
import Derived.ProofKit
import Derived.SizedLaws
import Derived.ShutString
import Derived.ChangeOld
import Derived.JoinedCond
import Derived.Deep.DeepHandedRow
import Derived.Lib.LaidTab
namespace Go.Proofs.YtiaedjnedoemoabDoor
open Go.RowKit Go.Proofs.Ord

theorem acc_key : KeyL pk 58 := by
  refine pair_key Tryd.underlying58 (fun e d w => ?_) (fun d d' w => ?_)
  · cases e <;> kernel_rfl
  · have u3 := Tryd.underlying3
    have a3 := Tryd.isAgg3
    have z3 := Tryd.sizeOf3
    unfold Op.equal Op.maxDepth pk
    rw [show (10000 : Nat) = 9999 + 1 from rfl, run_equalIn_struct (P := Tryd.prog) w 9999 58 _ _ (by kernel_rfl) (by kernel_rfl)]
    simp only [Program.fieldsOf, Tryd.underlying58]
    go_simp
    by_cases h1 : d.fst = d'.fst <;> by_cases h2 : d.snd = d'.snd <;> simp [h1, h2]

/-- The last accesses that count, of the first k events: the map in block Lb, the stamp of each kind in blocks of its own. -/
structure LastW (B : Nat) (Q : Int × Int → Nat → Prop) (w : World) (Lb : Nat) (L : Nat → Ev) (c : Nat → Bool) (k : Nat) : Prop where
  lt : ∀ a x, Q a x → x < w.heap.size
  out : ∀ a x, Q a x → x ≠ Lb
  apart : ∀ a a' x, Q a x → Q a' x → a = a'
  ex : ∃ fl nl, KMap pk w Lb fl nl ∧ (∀ a v, fl a = some v → ∃ b, v = .map (some b) ∧ PutS B (Q a) w b (lastN L c k a)) ∧ (∀ a, fl a = none → ∀ u, lastN L c k a u = 0)

theorem LastW.kept {B : Nat} {Q : Int × Int → Nat → Prop} {w w' : World} {Lb : Nat} {L : Nat → Ev} {c : Nat → Bool} {k : Nat} (h : LastW B Q w Lb L c k) (hs : w.heap.size ≤ w'.heap.size) (hL : w'.heap[Lb]? = w.heap[Lb]?) (hb : ∀ a x, Q a x → w'.heap[x]? = w.heap[x]?) : LastW B Q w' Lb L c k := by
  obtain ⟨h1, h2, h3, fl, nl, h4, h5, h6⟩ := h
  exact ⟨fun a x hx => Nat.lt_of_lt_of_le (h1 a x hx) hs, h2, h3, fl, nl, h4.same hL, fun a v hv => by obtain ⟨b, e, hp⟩ := h5 a v hv; exact ⟨b, e, hp.kept (hb a)⟩, h6⟩
theorem LastW.mapLt {B : Nat} {Q : Int × Int → Nat → Prop} {w : World} {Lb : Nat} {L : Nat → Ev} {c : Nat → Bool} {k : Nat} (h : LastW B Q w Lb L c k) : Lb < w.heap.size := by
  obtain ⟨_, _, _, fl, nl, h4, _⟩ := h; exact h4.lt
theorem LastW.skip {B : Nat} {Q : Int × Int → Nat → Prop} {w : World} {Lb : Nat} {L : Nat → Ev} {c : Nat → Bool} {k : Nat} (h : LastW B Q w Lb L c k) (hc : c k = false) : LastW B Q w Lb L c (k + 1) := by
  obtain ⟨h1, h2, h3, fl, nl, h4, h5, h6⟩ := h
  have e : ∀ a u, lastN L c (k + 1) a u = lastN L c k a u := fun a u => lastN_skip L c k a (fun h => by rw [h.1] at hc; cases hc) u
  exact ⟨h1, h2, h3, fl, nl, h4, fun a v hv => by obtain ⟨b, e', hp⟩ := h5 a v hv; exact ⟨b, e', hp.congr (e a)⟩, fun a ha u => (e a u).trans (h6 a ha u)⟩
theorem zero_stampD (w : World) : (zeroValue 53).run Tryd.prog w = .ok (.map none) w := zero_stamp w
/-- A stamp of last accesses is looked up. -/
theorem LastW.look {B : Nat} {Q : Int × Int → Nat → Prop} {w : World} {Lb : Nat} {L : Nat → Ev} {c : Nat → Bool} {k : Nat} (h : LastW B Q w Lb L c k) (a : Int × Int) : ∃ v, Sem.run Tryd.prog (Instr.lookup 51 (.map (some Lb)) (.agg #[.int .i64 a.1, .int .i64 a.2]) false) w = .ok v w ∧ StampV (fun _ => True) w v (lastN L c k a) := by
  obtain ⟨h1, h2, h3, fl, nl, h4, h5, h6⟩ := h
  refine ⟨_, h4.look acc_key Tryd.underlying51 (zero_stamp w) a, ?_⟩
  cases hf : fl a with
  | none => exact (stampV_nil _ w).congr (h6 a hf)
  | some v => obtain ⟨b, e, hp⟩ := h5 a v hf; rw [Option.getD_some, e]; exact hp.stamp

/-- While markRaces works: the flow behind jf events, the last accesses behind jl, what is told of each event. -/
structure MarkI (g n B0 : Nat) (L : Nat → Ev) (c : Nat → Bool) (jf jl : Nat) (r : Nat → Bool) (w0 : World) (S : Nat → Prop) (Q : Int × Int → Nat → Prop) (w : World) : Prop where
  flow : FlowW S w w0.heap.size L c jf
  sOut : ∀ x, S x → w0.heap.size + 1 < x ∧ ∀ a, ¬ Q a x
  last : LastW w0.heap.size Q w (w0.heap.size + 1) L c jl
  qOut : ∀ a x, Q a x → w0.heap.size + 1 < x
  tells : Tells w B0 g n r
  grew : w0.grownBy w (some g)

theorem MarkI.keep {g n B0 : Nat} {L : Nat → Ev} {c : Nat → Bool} {jf jl : Nat} {r : Nat → Bool} {w0 : World} {S : Nat → Prop} {Q : Int × Int → Nat → Prop} {w w' : World} (hg : g < w0.heap.size) (h : MarkI g n B0 L c jf jl r w0 S Q w) (hb : Below w.heap.size w w') : MarkI g n B0 L c jf jl r w0 S Q w' :=
  ⟨h.flow.below hb, h.sOut, h.last.kept hb.size (hb.block _ h.last.mapLt) (fun a x hx => hb.block x (h.last.lt a x hx)), h.qOut, h.tells.below hb (by have := h.grew.size; omega), grown_below h.grew hb⟩
theorem tells_kept {B g n : Nat} {f : Nat → Bool} {w w' : World} (h : Tells w B g n f) (hb : w'.heap[g]? = w.heap[g]?) : Tells w' B g n f := ownsKept h fun x hx => by
  have : x = g := by simpa [Value.ownBlock] using hx.symm
  rw [this]; exact hb
/-- Behind Next. -/
theorem MarkI.next {g n B0 : Nat} {L : Nat → Ev} {c : Nat → Bool} {jf jl : Nat} {r : Nat → Bool} {w0 : World} {S : Nat → Prop} {Q : Int × Int → Nat → Prop} {w w' : World} (hg : g < w0.heap.size) (h : MarkI g n B0 L c jf jl r w0 S Q w) (hf : FlowW (SN S w w') w' w0.heap.size L c (jf + 1)) (hgr : w.grownBy w' (some w0.heap.size)) : MarkI g n B0 L c (jf + 1) jl r w0 (SN S w w') Q w' := by
  have hl := h.last.mapLt
  have hgz := h.grew.size
  refine ⟨hf, fun x hx => ?_, h.last.kept hgr.size (hgr.block _ hl (by simp)) (fun a x hx => hgr.block x (h.last.lt a x hx) (by have := h.qOut a x hx; simp; omega)), h.qOut, tells_kept h.tells (hgr.block g (by omega) (by simp; omega)), ?_⟩
  · rcases hx with hx | hx
    · exact h.sOut x hx
    · exact ⟨by omega, fun a ha => by have := h.last.lt a x ha; omega⟩
  · exact ⟨hgr.os.trans h.grew.os, hgr.tape.trans h.grew.tape, hgr.output.trans h.grew.output, Nat.le_trans h.grew.size hgr.size, fun x hx hne => (hgr.block x (by omega) (by simp; omega)).trans (h.grew.block x hx hne)⟩
/-- A truth is written. -/
theorem MarkI.set {g n B0 : Nat} {L : Nat → Ev} {c : Nat → Bool} {jf jl : Nat} {r : Nat → Bool} {w0 : World} {S : Nat → Prop} {Q : Int × Int → Nat → Prop} {w : World} (hg : g < w0.heap.size) (h : MarkI g n B0 L c jf jl r w0 S Q w) (j : Nat) (x : Bool) : MarkI g n B0 L c jf jl (fun q => if q = j then x else r q) w0 S Q (w.setCell ⟨g, j, none⟩ (.bool x)) := by
  have hb : ∀ k, k ≠ g → (w.setCell ⟨g, j, none⟩ (.bool x)).heap[k]? = w.heap[k]? := fun k hk => Below.heap_setCell w ⟨g, j, none⟩ _ k hk
  have hz : (w.setCell ⟨g, j, none⟩ (.bool x)).heap.size = w.heap.size := by simp
  have hst := (World.ownsRow.stored h.tells j (.bool x)).2
  refine ⟨h.flow.kept (by omega) (hb _ (by omega)) (fun b hS => hb b (by have := (h.sOut b hS).1; omega)), h.sOut, h.last.kept (by omega) (hb _ (by omega)) (fun a x' hx => hb x' (by have := h.qOut a x' hx; omega)), h.qOut, h.tells.stored j x, grown_then h.grew hst⟩
theorem MarkI.tellsC {g n B0 : Nat} {L : Nat → Ev} {c : Nat → Bool} {jf jl : Nat} {r r' : Nat → Bool} {w0 : World} {S : Nat → Prop} {Q : Int × Int → Nat → Prop} {w : World} (h : MarkI g n B0 L c jf jl r w0 S Q w) (e : ∀ q, q < n → r q = r' q) : MarkI g n B0 L c jf jl r' w0 S Q w :=
  ⟨h.flow, h.sOut, h.last, h.qOut, h.tells.congr e, h.grew⟩

/-- Is one of these accesses ahead of event k not before it? -/
noncomputable def bad (L : Nat → Ev) (c : Nat → Bool) (k : Nat) (a : Int × Int) : Bool := @decide (¬ ∀ u, lastN L c k a u ≤ stampN L c k u) (Classical.propDecidable _)
theorem bad_iff (L : Nat → Ev) (c : Nat → Bool) (k : Nat) (a : Int × Int) {x : Bool} (h : x = true ↔ ∀ u, lastN L c k a u ≤ stampN L c k u) : bad L c k a = !x := by
  unfold bad
  cases x with
  | true => simp [h.1 rfl]
  | false =>
    have : ¬ ∀ u, lastN L c k a u ≤ stampN L c k u := fun h' => by simpa using h.2 h'
    simp [this]
theorem mark_bad (L : Nat → Ev) (c : Nat → Bool) (k : Nat) : (rivalsOf (L k)).any (bad L c k) = mark L c k := by
  rw [Bool.eq_iff_iff, List.any_eq_true, mark_rivals]
  constructor
  · rintro ⟨a, h1, h2⟩; exact ⟨a, h1, by unfold bad at h2; simpa using h2⟩
  · rintro ⟨a, h1, h2⟩; exact ⟨a, h1, by unfold bad; simpa using h2⟩

theorem markI_made (g n B0 : Nat) (L : Nat → Ev) (c : Nat → Bool) (r : Nat → Bool) (w0 : World) (hg : g < w0.heap.size) (ht : Tells w0 B0 g n r) : MarkI g n B0 L c 0 0 r w0 (fun _ => False) (fun _ _ => False) ((w0.alloc (.map #[] 0)).alloc (.map #[] 0)) := by
  have hb1 : Below w0.heap.size w0 (w0.alloc (.map #[] 0)) := (Below.refl _ _).alloc (Nat.le_refl _) _
  have hb2 : Below (w0.alloc (.map #[] 0)).heap.size (w0.alloc (.map #[] 0)) ((w0.alloc (.map #[] 0)).alloc (.map #[] 0)) := (Below.refl _ _).alloc (Nat.le_refl _) _
  have hM := KMap.made (enc := pk) (w0.alloc (.map #[] 0))
  rw [World.size_alloc] at hM
  exact ⟨(flowW_made L c).below hb2, fun x h => h.elim, ⟨fun a x h => h.elim, fun a x h => h.elim, fun a a' x h => h.elim, _, _, hM, (fun a v h => by cases h), fun a _ u => lastN_zero L c a u⟩, fun a x h => h.elim, (ht.below hb1 hg).below hb2 (by simp; omega), below_grown (hb1.trans (hb2.mono (by simp)))⟩

/-- The stamp of an access's own kind: it is there, or a new one is laid there. -/
theorem MarkI.own {g n B0 : Nat} {L : Nat → Ev} {c : Nat → Bool} {jf jl : Nat} {r : Nat → Bool} {w0 : World} {S : Nat → Prop} {Q : Int × Int → Nat → Prop} {w : World} (hg : g < w0.heap.size) (h : MarkI g n B0 L c jf jl r w0 S Q w) (a : Int × Int) :
    (∃ b, Sem.run Tryd.prog (Instr.lookup 51 (.map (some (w0.heap.size + 1))) (.agg #[.int .i64 a.1, .int .i64 a.2]) false) w = .ok (.map (some b)) w ∧ PutS w0.heap.size (Q a) w b (lastN L c jl a)) ∨
    (Sem.run Tryd.prog (Instr.lookup 51 (.map (some (w0.heap.size + 1))) (.agg #[.int .i64 a.1, .int .i64 a.2]) false) w = .ok (.map none) w ∧ ∃ w2 Q', Sem.run Tryd.prog (Instr.mapUpdate 51 (.map (some (w0.heap.size + 1))) (.agg #[.int .i64 a.1, .int .i64 a.2]) (.map (some w.heap.size))) (w.alloc (.map #[] 0)) = .ok () w2 ∧
      MarkI g n B0 L c jf jl r w0 S Q' w2 ∧ Sem.run Tryd.prog (Instr.lookup 51 (.map (some (w0.heap.size + 1))) (.agg #[.int .i64 a.1, .int .i64 a.2]) false) w2 = .ok (.map (some w.heap.size)) w2 ∧ PutS w0.heap.size (Q' a) w2 w.heap.size (lastN L c jl a) ∧ (w.alloc (.map #[] 0)).grownBy w2 (some (w0.heap.size + 1)) ∧ ∀ a' x, Q' a' x → Q a' x ∨ x = w.heap.size) := by
  have hml := h.last.mapLt
  obtain ⟨h1, h2, h3, fl, nl, h4, h5, h6⟩ := h.last
  have hlk := h4.look acc_key Tryd.underlying51 (zero_stamp w) a
  cases hf : fl a with
  | some v =>
    obtain ⟨b, rfl, hp⟩ := h5 a v hf
    rw [hf] at hlk
    exact .inl ⟨b, hlk, hp⟩
  | none =>
    rw [hf] at hlk
    right
    have hb1 : Below w.heap.size w (w.alloc (.map #[] 0)) := (Below.refl _ _).alloc (Nat.le_refl _) _
    have hI1 := h.keep hg hb1
    obtain ⟨w2, hr, hM2, hg2, hz2⟩ := (h4.same (hb1.block _ h4.lt)).put acc_key Tryd.underlying51 a (.map (some w.heap.size))
    have hz1 : (w.alloc (.map #[] 0)).heap.size = w.heap.size + 1 := by simp
    have hk2 : ∀ x, x < w.heap.size + 1 → x ≠ w0.heap.size + 1 → w2.heap[x]? = (w.alloc (.map #[] 0)).heap[x]? := fun x hx hne => hg2.block x (by omega) (by simpa using hne)
    have hpm : PutS w0.heap.size (fun x => x = w.heap.size) w2 w.heap.size (lastN L c jl a) := ((putS_made w0.heap.size w).kept fun x hx => by subst hx; exact hk2 _ (by omega) (by omega)).congr (h6 a hf)
    have hgz := h.grew.size
    refine ⟨hlk, w2, fun a' x => Q a' x ∨ (a' = a ∧ x = w.heap.size), hr, ?_, ?_, hpm.mono fun x hx => .inr ⟨rfl, hx⟩, hg2, fun a' x hx => hx.imp id fun h => h.2⟩
    · refine ⟨hI1.flow.kept (by omega) (hk2 _ (by omega) (by omega)) (fun b hS => hk2 b (by have := h.flow.lt b hS; omega) (by have := (h.sOut b hS).1; omega)), fun x hx => ⟨(h.sOut x hx).1, fun a' ha' => ?_⟩, ⟨fun a' x hx => ?_, fun a' x hx => ?_, fun a' a'' x hx hx' => ?_, _, _, hM2, fun a' v hv => ?_, fun a' hv u => ?_⟩, fun a' x hx => ?_, tells_kept hI1.tells (hk2 g (by omega) (by omega)), ?_⟩
      · rcases ha' with ha' | ⟨_, rfl⟩
        · exact (h.sOut x hx).2 a' ha'
        · have := h.flow.lt _ hx; omega
      · rcases hx with hx | ⟨_, rfl⟩
        · have := h1 a' x hx; omega
        · omega
      · rcases hx with hx | ⟨_, rfl⟩
        · exact h2 a' x hx
        · omega
      · rcases hx with hx | ⟨e1, hx1⟩ <;> rcases hx' with hx' | ⟨e2, hx2⟩
        · exact h3 a' a'' x hx hx'
        · have := h1 a' x hx; omega
        · have := h1 a'' x hx'; omega
        · exact e1.trans e2.symm
      · by_cases e : a' = a
        · subst e; rw [putK_same] at hv; cases hv
          exact ⟨_, rfl, hpm.mono fun x hx => .inr ⟨rfl, hx⟩⟩
        · rw [putK_other _ e] at hv
          obtain ⟨b, e', hp⟩ := h5 a' v hv
          exact ⟨b, e', (hp.kept (w' := w2) fun x hx => (hk2 x (by have := h1 a' x hx; omega) (h2 a' x hx)).trans (hb1.block x (h1 a' x hx))).mono fun x hx => .inl hx⟩
      · by_cases e : a' = a
        · subst e; rw [putK_same] at hv; cases hv
        · rw [putK_other _ e] at hv; exact h6 a' hv u
      · rcases hx with hx | ⟨_, rfl⟩
        · exact h.qOut a' x hx
        · omega
      · exact ⟨hg2.os.trans hI1.grew.os, hg2.tape.trans hI1.grew.tape, hg2.output.trans hI1.grew.output, by have := hI1.grew.size; omega, fun x hx hne => (hg2.block x (by omega) (by simp; omega)).trans (hI1.grew.block x hx hne)⟩
    · have := hM2.look acc_key Tryd.underlying51 (zero_stamp w2) a
      rw [putK_same] at this
      exact this

/-- Behind Put. -/
theorem MarkI.put {g n B0 : Nat} {L : Nat → Ev} {c : Nat → Bool} {j : Nat} {r : Nat → Bool} {w0 : World} {S : Nat → Prop} {Q : Int × Int → Nat → Prop} {w w' : World} {b : Nat} {a : Int × Int} (hg : g < w0.heap.size) (h : MarkI g n B0 L c (j + 1) j r w0 S Q w) (hA : Acc L c a j)
    (hlk : Sem.run Tryd.prog (Instr.lookup 51 (.map (some (w0.heap.size + 1))) (.agg #[.int .i64 a.1, .int .i64 a.2]) false) w = .ok (.map (some b)) w) (hp : PutS w0.heap.size (fun x => Q a x ∨ (w.heap.size ≤ x ∧ x < w'.heap.size)) w' b (fun u => if u = (L j).thread then stampN L c j (L j).thread else lastN L c j a u)) (hch : Chg (Q a) w w') :
    ∃ Q', MarkI g n B0 L c (j + 1) (j + 1) r w0 S Q' w' := by
  have hml := h.last.mapLt
  obtain ⟨h1, h2, h3, fl, nl, h4, h5, h6⟩ := h.last
  have hgz := h.grew.size
  have hcz := hch.size
  have hk : ∀ x, x < w.heap.size → ¬ Q a x → w'.heap[x]? = w.heap[x]? := hch.block
  have hfa : fl a = some (.map (some b)) := by
    have e1 : Sem.run Tryd.prog (Instr.lookup 51 (.map (some (w0.heap.size + 1))) (.agg #[.int .i64 a.1, .int .i64 a.2]) false) w = .ok ((fl a).getD (.map none)) w := h4.look acc_key Tryd.underlying51 (zero_stamp w) a
    rw [hlk] at e1
    cases hf : fl a with
    | none => rw [hf] at e1; simp at e1
    | some v => rw [hf] at e1; simp at e1; rw [e1]
  have e1 : ∀ u, lastN L c (j + 1) a u = if u = (L j).thread then stampN L c j (L j).thread else lastN L c j a u := fun u => by
    rw [lastN_put L c j a hA u]
    by_cases e : u = (L j).thread
    · rw [if_pos e, if_pos e, e]
    · rw [if_neg e, if_neg e]
  have e2 : ∀ a', a' ≠ a → ∀ u, lastN L c (j + 1) a' u = lastN L c j a' u := fun a' hne u => lastN_skip L c j a' (fun hA' => hne (Prod.ext (hA'.2.1.symm.trans hA.2.1) (hA'.2.2.symm.trans hA.2.2))) u
  refine ⟨fun a' x => Q a' x ∨ (a' = a ∧ w.heap.size ≤ x ∧ x < w'.heap.size), h.flow.kept hcz (hk _ (by omega) (fun hq => by have := h.qOut a _ hq; omega)) (fun x hS => hk x (h.flow.lt x hS) ((h.sOut x hS).2 a)), fun x hx => ⟨(h.sOut x hx).1, fun a' ha' => ?_⟩, ⟨fun a' x hx => ?_, fun a' x hx => ?_, fun a' a'' x hx hx' => ?_, fl, nl, h4.same (hk _ h4.lt (fun hq => h2 a _ hq rfl)), fun a' v hv => ?_, fun a' hv u => ?_⟩, fun a' x hx => ?_, tells_kept h.tells (hk g (by omega) (fun hq => by have := h.qOut a _ hq; omega)), ?_⟩
  · rcases ha' with ha' | ⟨_, h7, _⟩
    · exact (h.sOut x hx).2 a' ha'
    · have := h.flow.lt _ hx; omega
  · rcases hx with hx | ⟨_, _, h7⟩
    · have := h1 a' x hx; omega
    · exact h7
  · rcases hx with hx | ⟨_, h7, _⟩
    · exact h2 a' x hx
    · omega
  · rcases hx with hx | ⟨rfl, h7, _⟩ <;> rcases hx' with hx' | ⟨e, h8, _⟩
    · exact h3 a' a'' x hx hx'
    · have := h1 a' _ hx; omega
    · have := h1 a'' _ hx'; omega
    · exact e.symm
  · by_cases e : a' = a
    · subst e; rw [hfa] at hv; cases hv
      exact ⟨_, rfl, (hp.congr e1).mono fun x hx => hx.imp id fun h => ⟨rfl, h⟩⟩
    · obtain ⟨b', e', hp'⟩ := h5 a' v hv
      exact ⟨b', e', ((hp'.kept (w' := w') fun x hx => hk x (h1 a' x hx) (fun hq => e (h3 a' a x hx hq))).congr (e2 a' e)).mono fun x hx => .inl hx⟩
  · by_cases e : a' = a
    · subst e; rw [hfa] at hv; cases hv
    · rw [e2 a' e u]; exact h6 a' hv u
  · rcases hx with hx | ⟨_, h7, _⟩
    · exact h.qOut a' x hx
    · omega
  · exact ⟨hch.os.trans h.grew.os, hch.tape.trans h.grew.tape, hch.output.trans h.grew.output, by omega, fun x hx hne => (hk x (by omega) (fun hq => by have := h.qOut a _ hq; omega)).trans (h.grew.block x hx hne)⟩
theorem MarkI.skipL {g n B0 : Nat} {L : Nat → Ev} {c : Nat → Bool} {j : Nat} {r : Nat → Bool} {w0 : World} {S : Nat → Prop} {Q : Int × Int → Nat → Prop} {w : World} (h : MarkI g n B0 L c (j + 1) j r w0 S Q w) (hc : c j = false) : MarkI g n B0 L c (j + 1) (j + 1) r w0 S Q w :=
  ⟨h.flow, h.sOut, h.last.skip hc, h.qOut, h.tells, h.grew⟩
theorem LastW.lookSame {B : Nat} {Q : Int × Int → Nat → Prop} {w w' : World} {Lb : Nat} {L : Nat → Ev} {c : Nat → Bool} {k : Nat} (h : LastW B Q w Lb L c k) {a : Int × Int} {v : Value} (hlk : Sem.run Tryd.prog (Instr.lookup 51 (.map (some Lb)) (.agg #[.int .i64 a.1, .int .i64 a.2]) false) w = .ok v w) (hb : w'.heap[Lb]? = w.heap[Lb]?) :
    Sem.run Tryd.prog (Instr.lookup 51 (.map (some Lb)) (.agg #[.int .i64 a.1, .int .i64 a.2]) false) w' = .ok v w' := by
  obtain ⟨h1, h2, h3, fl, nl, h4, h5, h6⟩ := h
  have e1 : Sem.run Tryd.prog (Instr.lookup 51 (.map (some Lb)) (.agg #[.int .i64 a.1, .int .i64 a.2]) false) w = .ok ((fl a).getD (.map none)) w := h4.look acc_key Tryd.underlying51 (zero_stamp w) a
  have e2 : Sem.run Tryd.prog (Instr.lookup 51 (.map (some Lb)) (.agg #[.int .i64 a.1, .int .i64 a.2]) false) w' = .ok ((fl a).getD (.map none)) w' := (h4.same hb).look acc_key Tryd.underlying51 (zero_stamp w') a
  rw [hlk] at e1
  have e3 : v = (fl a).getD (.map none) := by simpa using e1
  rw [e2, e3]
end Go.Proofs.YtiaedjnedoemoabDoor
namespace Go.Proofs.YtiaedjnedoemoabDoor
open Go.RowKit Go.Proofs.Ord

/-- Which events of a list count. -/
def cfs (L : Nat → Ev) (nu : Int → Int) (fr : Int) (i : Nat) : Bool := cf nu fr (L i)

theorem take_any_succ (ds : List (Int × Int)) (p : Int × Int → Bool) (i : Nat) (hi : i < ds.length) : (ds.take (i + 1)).any p = ((ds.take i).any p || p (ds.getD i (0, 0))) := by
  rw [List.take_succ_eq_append_getElem hi, List.any_append]
  have : ds.getD i (0, 0) = ds[i] := by simp [hi]
  rw [this]; simp

set_option maxRecDepth 100000 in
set_option maxHeartbeats 4000000 in
theorem markRaces_any (a : Option Addr) (n cap : Nat) (l : List Ev) (w : World) (g B0 b4 b5 M m : Nat) (f : Int → Option Value) (nu : Int → Int) (fr : Int) (r : Nat → Bool) (hn : l.length = n) (hs : EvS w a l) (hb : n ≤ 1048576) (hthr : ThR l)
    (hN : NumsW w M f m nu) (h4 : w.cell? ⟨b4, 0, none⟩ = some (.map (some M))) (h5 : w.cell? ⟨b5, 0, none⟩ = some (.int .i64 fr)) (hl4 : b4 < w.heap.size) (hl5 : b5 < w.heap.size) (hf0 : 0 ≤ fr) (hf : fr ≤ 1073741824) (hT : Tells w B0 g n r)
    (ne4 : b4 ≠ g) (ne5 : b5 ≠ g) (neM : M ≠ g) (neA : ∀ b off, a = some ⟨b, off, none⟩ → b ≠ g) :
    Calls Tryd.prog 9 #[.slice (some ⟨g, 0, none⟩) n n, .slice a n cap, .func (.func 10) #[] #[.pointer (some ⟨b4, 0, none⟩), .pointer (some ⟨b5, 0, none⟩)]] w fun e w' =>
      e = .returned (.tuple #[]) ∧ Tells w' B0 g n (fun j => r j || mark (ev l) (cfs (ev l) nu fr) j) ∧ w.grownBy w' (some g) := by
  have hmm := @run_makeMap Tryd.prog
  have hthr := hide hthr
  have hg : g < w.heap.size := (World.ownsRow.lt hT g rfl).2
  obtain ⟨c, hc⟩ : ∃ c, cfs (ev l) nu fr = c := ⟨_, rfl⟩
  have HC : Hid (∀ i, c i = cf nu fr (ev l i)) := fun i => by rw [← hc]; rfl
  rw [hc]
  clear hc
  have h0 := hide (markI_made g n B0 (ev l) c r w hg hT)
  have HT : Hid (∀ (W : World) (t kd o v : Int), w.grownBy W (some g) → Calls Tryd.prog 10 #[.agg #[.int .i64 t, .int .i64 kd, .int .i64 o, .int .i64 v], .pointer (some ⟨b4, 0, none⟩), .pointer (some ⟨b5, 0, none⟩)] W fun e w' => e = .returned (.bool (cf nu fr ⟨t, kd, o, v⟩)) ∧ Below W.heap.size W w') := fun W t kd o v hgr => by
    have hz := hgr.size
    have hMl := hN.map.lt
    exact counts_any t kd o v W b4 b5 M m f nu fr (hN.same (hgr.block M hMl (by simpa using neM))) ((World.cell?_of_block (w := w) (a := ⟨b4, 0, none⟩) (hgr.block b4 hl4 (by simpa using ne4))).trans h4) ((World.cell?_of_block (w := w) (a := ⟨b5, 0, none⟩) (hgr.block b5 hl5 (by simpa using ne5))).trans h5) (by omega) (by omega) hf0 hf
  clear hN h4 h5 hT
  go_enter Tryd.func9, Tryd.ntmps9
  go_wp2_with fail
  go_loopw [8, 9, 10, 12, 13, 18] (fun _ _ _ _ _ jv wr => ∃ (j : Nat) (S : Nat → Prop) (Q : Int × Int → Nat → Prop), j ≤ n ∧ jv = .int .i64 j ∧ MarkI g n B0 (ev l) c j j (fun q => r q || (decide (q < j) && mark (ev l) c q)) w S Q wr) (fun _ _ _ _ _ jv _ => n - (intOf jv).toNat)
  case atStart => exact ⟨0, _, _, Nat.zero_le _, rfl, h0.out.tellsC (fun q _ => by simp)⟩
  case round =>
    clear h0
    obtain ⟨j, S, Q, hj, rfl, hI⟩ := hrel
    by_cases h5 : j < n
    · obtain ⟨b, off, rfl, hlt, hev⟩ := hs j (by omega)
      have hbg := neA b off rfl
      obtain ⟨⟨t, kd, o, v⟩, HE⟩ : ∃ x, Hid (ev l j = x) := ⟨_, rfl⟩
      rw [HE.out] at hev
      obtain ⟨k0, k1, k2, k3⟩ := hev
      have hbw := hI.grew.block b hlt (by simpa using hbg)
      have c0 := (World.cell?_of_block (w := w) (a := ⟨b, off + j * 4, none⟩) hbw).trans k0
      have c1 := (World.cell?_of_block (w := w) (a := ⟨b, off + j * 4 + 1, none⟩) hbw).trans k1
      have c2 := (World.cell?_of_block (w := w) (a := ⟨b, off + j * 4 + 2, none⟩) hbw).trans k2
      have c3 := (World.cell?_of_block (w := w) (a := ⟨b, off + j * 4 + 3, none⟩) hbw).trans k3
      have htr : In64 t := by have := hthr.out j (by omega); rw [HE.out] at this; exact this
      obtain ⟨W1, hW1⟩ : ∃ W1, wr.alloc (.cells #[.int .i64 t, .int .i64 kd, .int .i64 o, .int .i64 v] 35) = W1 := ⟨_, rfl⟩
      have hbW : Below wr.heap.size wr W1 := by rw [← hW1]; exact (Below.refl _ _).alloc (Nat.le_refl _) _
      have hz1 : W1.heap.size = wr.heap.size + 1 := by rw [← hW1]; simp
      obtain ⟨d0, d1, d2, d3⟩ := cells_four (w := W1) (b := wr.heap.size) (by rw [← hW1]; exact heap_alloc_new wr _)
      have hI1 := hide (hI.keep hg hbW)
      have hwz : w.heap.size + 1 < wr.heap.size := hI.last.mapLt
      have hQlt : ∀ a x, Q a x → x < wr.heap.size := hI.last.lt
      obtain ⟨cb, hcb⟩ : ∃ cb, Hid (c j = cb) := ⟨_, rfl⟩
      have hcf : cf nu fr ⟨t, kd, o, v⟩ = cb := by rw [← hcb.out, HC.out j, HE.out]
      obtain ⟨rj, hrj⟩ : ∃ rj : Nat → Bool, (fun q => r q || (decide (q < j) && mark (ev l) c q)) = rj := ⟨_, rfl⟩
      have HR : Hid (∀ q, rj q = (r q || (decide (q < j) && mark (ev l) c q))) := fun q => by rw [← hrj]
      rw [hrj] at hI1
      have HNX : Hid (∀ W, MarkI g n B0 (ev l) c j j rj w S Q W → Calls Tryd.prog 18 #[.map (some w.heap.size), .agg #[.int .i64 t, .int .i64 kd, .int .i64 o, .int .i64 v], .bool cb] W fun e w' => ∃ s S', e = .returned s ∧ StampV S' w' s (stampN (ev l) c j) ∧ MarkI g n B0 (ev l) c (j + 1) j rj w S' Q w' ∧ W.grownBy w' (some w.heap.size)) := fun W hIW => by
        have h := next_any t kd o v W hIW.flow HE.out htr (by omega)
        rw [hcb.out] at h
        refine h.mono ?_
        rintro e w' ⟨s, rfl, hst, hF, hgr⟩
        exact ⟨s, _, rfl, hst, hIW.next hg hF hgr, hgr⟩
      clear hI hrj k0 k1 k2 k3 hbw
      go_upto_region 5 with fail
      refine wp_region_held_drew (S := (fun w' => w'.cell? ⟨wr.heap.size, 0, none⟩ = some (.int .i64 t) ∧ w'.cell? ⟨wr.heap.size, 1, none⟩ = some (.int .i64 kd) ∧ w'.cell? ⟨wr.heap.size, 2, none⟩ = some (.int .i64 o) ∧ w'.cell? ⟨wr.heap.size, 3, none⟩ = some (.int .i64 v))) (by kernel_rfl) ⟨d0, d1, d2, d3⟩ (fun hHeld => ?_)
      refine wpAnyH_take (i := 0) (v := ?_) rfl (by kernel_rfl) (by kernel_rfl) (by kernel_rfl) (fun _ _ _ h => h) (Or.inl ⟨by rfl, ?_⟩) hHeld ?_
      rotate_left
      · intro w9 hSw; (try dsimp only at hSw); go_simp; try with_reducible rfl
      simp only [Act.put]
      refine wpAnyH_take (i := 1) (v := ?_) rfl (by kernel_rfl) (by kernel_rfl) (by kernel_rfl) (fun _ _ _ h => h) (Or.inl ⟨by rfl, ?_⟩) hHeld ?_
      rotate_left
      · intro w9 hSw; (try dsimp only at hSw); go_simp; try with_reducible rfl
      simp only [Act.put]
      refine wpAnyH_take (i := 2) (v := ?_) rfl (by kernel_rfl) (by kernel_rfl) (by kernel_rfl) (fun _ _ _ h => h) (Or.inl ⟨by rfl, ?_⟩) hHeld ?_
      rotate_left
      · intro w9 hSw; (try dsimp only at hSw); go_simp; try with_reducible rfl
      simp only [Act.put]
      refine wpAnyH_take (i := 3) (v := ?_) rfl (by kernel_rfl) (by kernel_rfl) (by kernel_rfl) (fun _ _ _ h => h) (Or.inl ⟨by rfl, ?_⟩) hHeld ?_
      rotate_left
      · intro w9 hSw; (try dsimp only at hSw); go_simp; try with_reducible rfl
      simp only [Act.put]
      refine wpAnyH_ready (rs := [4]) (by kernel_rfl) (by simp) ?_
      refine AllReadyH.cons rfl (fun K hK => ?_) AllReadyH.nil
      go_simp
      have hId := hI1.out.keep hg (Below.refl _ _).drew
      refine (HT.out _ t kd o v hId.grew).mono ?_
      rw [hcf]
      rintro e w2 ⟨rfl, hb2⟩
      have hI2 := hide (hId.keep hg hb2)
      have hz2 : W1.heap.size ≤ w2.heap.size := hb2.size
      have hHeld1 : w2.cell? ⟨wr.heap.size, 0, none⟩ = some (.int .i64 t) ∧ w2.cell? ⟨wr.heap.size, 1, none⟩ = some (.int .i64 kd) ∧ w2.cell? ⟨wr.heap.size, 2, none⟩ = some (.int .i64 o) ∧ w2.cell? ⟨wr.heap.size, 3, none⟩ = some (.int .i64 v) := by
        have hbk : w2.heap[wr.heap.size]? = W1.heap[wr.heap.size]? := hb2.block wr.heap.size (show wr.heap.size < W1.heap.size by omega)
        exact ⟨(World.cell?_of_block (w := W1) (a := ⟨wr.heap.size, 0, none⟩) hbk).trans d0, (World.cell?_of_block (w := W1) (a := ⟨wr.heap.size, 1, none⟩) hbk).trans d1, (World.cell?_of_block (w := W1) (a := ⟨wr.heap.size, 2, none⟩) hbk).trans d2, (World.cell?_of_block (w := W1) (a := ⟨wr.heap.size, 3, none⟩) hbk).trans d3⟩
      go_wp2_with fail
      refine hK.out _ _ hHeld1 (fun _ => ?_)
      clear hK K hId
      refine wpAnyH_ready (rs := [5]) (by kernel_rfl) (by simp) ?_
      refine AllReadyH.cons rfl (fun K hK => ?_) AllReadyH.nil
      go_simp
      refine (HNX.out w2 hI2.out).mono ?_
      rintro e w3 ⟨s, S', rfl, hst, hI3, hg3⟩
      have hHeld2 : w3.cell? ⟨wr.heap.size, 0, none⟩ = some (.int .i64 t) ∧ w3.cell? ⟨wr.heap.size, 1, none⟩ = some (.int .i64 kd) ∧ w3.cell? ⟨wr.heap.size, 2, none⟩ = some (.int .i64 o) ∧ w3.cell? ⟨wr.heap.size, 3, none⟩ = some (.int .i64 v) := by
        have hbk : w3.heap[wr.heap.size]? = w2.heap[wr.heap.size]? := hg3.block wr.heap.size (by omega) (by simp; omega)
        exact ⟨(World.cell?_of_block (w := w2) (a := ⟨wr.heap.size, 0, none⟩) hbk).trans hHeld1.1, (World.cell?_of_block (w := w2) (a := ⟨wr.heap.size, 1, none⟩) hbk).trans hHeld1.2.1, (World.cell?_of_block (w := w2) (a := ⟨wr.heap.size, 2, none⟩) hbk).trans hHeld1.2.2.1, (World.cell?_of_block (w := w2) (a := ⟨wr.heap.size, 3, none⟩) hbk).trans hHeld1.2.2.2⟩
      have hz3 := hg3.size
      have HI3 := hide hI3
      have HST := hide hst
      go_wp2_with fail
      refine hK.out _ _ hHeld2 (fun _ => ?_)
      clear hK K hI3 hst
      refine wpAnyH_ready (rs := [6]) (by kernel_rfl) (by simp) ?_
      refine AllReadyH.cons rfl (fun K hK => ?_) AllReadyH.nil
      go_simp
      refine hK.out _ _ hHeld2 (fun _ => ?_)
      clear hK K
      refine wpAnyH_done (by kernel_rfl) ?_ _
      obtain ⟨f0, f1, f2, f3⟩ := hHeld2
      clear hHeld hHeld1 hI2 HNX hI1 d0 d1 d2 d3 hbW hW1 c0 c1 c2 c3 hb2 hg3
      have hlz : wr.heap.size < w3.heap.size := by omega
      clear hz1 hz2 hz3
      generalize wr.heap.size = bx at f0 f1 f2 f3 hlz hwz hQlt ⊢
      have HQlt := hide hQlt
      clear hQlt
      go_wp2_with fail
      refine (rivals_any t kd o v w3).mono ?_
      rintro e w4 ⟨u, rfl, ⟨ar, cr, rfl, hrc, hrm, hds⟩, hfresh, hb4⟩
      obtain ⟨ds, hds0⟩ : ∃ ds, Hid (rivalsOf ⟨t, kd, o, v⟩ = ds) := ⟨_, rfl⟩
      rw [hds0.out] at hrc hds hfresh ⊢
      have hI4 := hide (HI3.out.keep hg hb4)
      have hst4 := hide (HST.out.any hb4)
      have hz4 := hb4.size
      clear HI3 HST
      have g0 := (hb4.cell (p := ⟨bx, 0, none⟩) hlz).trans f0
      have g1 := (hb4.cell (p := ⟨bx, 1, none⟩) hlz).trans f1
      have g2 := (hb4.cell (p := ⟨bx, 2, none⟩) hlz).trans f2
      have g3 := (hb4.cell (p := ⟨bx, 3, none⟩) hlz).trans f3
      clear f0 f1 f2 f3 hb4
      have hgl : w.heap.size ≤ w4.heap.size := by omega
      have hloop : Hid (∀ (i : Nat) (x : Bool) (W : World), i < ds.length → MarkI g n B0 (ev l) c (j + 1) j (fun q => rj q || (decide (q = j) && (ds.take i).any (bad (ev l) c j))) w S' Q W → x = ((rj j || (ds.take i).any (bad (ev l) c j)) || bad (ev l) c j (ds.getD i (0, 0))) → MarkI g n B0 (ev l) c (j + 1) j (fun q => rj q || (decide (q = j) && (ds.take (i + 1)).any (bad (ev l) c j))) w S' Q (W.setCell ⟨g, j, none⟩ (.bool x)) ∧ W.grownBy (W.setCell ⟨g, j, none⟩ (.bool x)) (some g)) := fun i x W hi hIW hx => by
        refine ⟨(hIW.set hg j x).tellsC fun q hq => ?_, (World.ownsRow.stored hIW.tells j (.bool x)).2⟩
        rw [take_any_succ ds _ i hi]
        by_cases e : q = j
        · subst e; rw [if_pos rfl, hx]; simp [Bool.or_assoc]
        · rw [if_neg e]; simp [e]
      go_wp2_with fail
      go_loopw [12, 32] (fun _ iv wr => ∃ i : Nat, i ≤ ds.length ∧ iv = .int .i64 i ∧ MarkI g n B0 (ev l) c (j + 1) j (fun q => rj q || (decide (q = j) && (ds.take i).any (bad (ev l) c j))) w S' Q wr ∧ w4.grownBy wr (some g)) (fun _ iv _ => ds.length - (intOf iv).toNat)
      case atStart => exact ⟨0, Nat.zero_le _, rfl, hI4.out.tellsC (fun q _ => by simp), ⟨rfl, rfl, rfl, Nat.le_refl _, fun _ _ _ => rfl⟩⟩
      case round =>
        obtain ⟨i, hi, rfl, hIi, hgi⟩ := hrel
        have hzi := hgi.size
        by_cases h6 : i < ds.length
        · obtain ⟨bd, rfl, hbd, q1, q2⟩ := hds i h6
          have hbdf := hfresh bd 0 _ _ rfl
          have hbk := hgi.block bd hbd (by simp; omega)
          obtain ⟨⟨x1, x2⟩, hdx⟩ : ∃ d, Hid (ds.getD i (0, 0) = d) := ⟨_, rfl⟩
          rw [hdx.out] at q1 q2
          have p1 : wr.cell? ⟨bd, i * 2, none⟩ = some (.int .i64 x1) := by rw [Nat.mul_comm]; exact (World.cell?_of_block (w := w4) (a := ⟨bd, 2 * i, none⟩) hbk).trans q1
          have p2 : wr.cell? ⟨bd, i * 2 + 1, none⟩ = some (.int .i64 x2) := by rw [Nat.mul_comm]; exact (World.cell?_of_block (w := w4) (a := ⟨bd, 2 * i + 1, none⟩) hbk).trans q2
          obtain ⟨W5, hW5⟩ : ∃ W5, wr.alloc (.cells #[.int .i64 x1, .int .i64 x2] 58) = W5 := ⟨_, rfl⟩
          have hb5 : Below wr.heap.size wr W5 := by rw [← hW5]; exact (Below.refl _ _).alloc (Nat.le_refl _) _
          obtain ⟨y1, y2⟩ := cells_two (w := W5) (b := wr.heap.size) (by rw [← hW5]; exact heap_alloc_new wr _)
          have hI5 := hide (hIi.keep hg hb5)
          have hg5 : w4.grownBy W5 (some g) := grown_below hgi hb5
          have hrc := hI5.out.tells.cell h5
          have hrf := hI5.out.tells.frozen j
          have hjn : (j : Int) < (n : Int) := by omega
          have him : (i : Int) < (ds.length : Int) := by omega
          obtain ⟨rb, hrb⟩ : ∃ rb, Hid ((rj j || (ds.take i).any (bad (ev l) c j)) = rb) := ⟨_, rfl⟩
          have hrc' : W5.cell? ⟨g, j, none⟩ = some (.bool rb) := by rw [hrc, ← hrb.out]; simp
          clear hrc q1 q2 hbk hIi hgi
          cases rb with
          | true =>
            obtain ⟨hfI, hfg⟩ := hloop.out i true W5 h6 hI5.out (by rw [hrb.out]; rfl)
            have HF := hide hfI
            have HG := hide (grown_then hg5 hfg)
            clear hfI hfg
            go_wp2_with fail
            go_roundw
            case rel => exact ⟨i + 1, by omega, by go_num, HF.out, HG.out⟩
            case measure => simp [intOf]; omega
          | false =>
            obtain ⟨v5, hlk5, hsv5⟩ := hI5.out.last.look (x1, x2)
            have hst5 : StampV S' W5 s (stampN (ev l) c j) := hst4.out.kept hg5.size (fun bq hS => hg5.block bq (by have := hI4.out.flow.lt bq hS; exact this) (by have := (hI4.out.sOut bq hS).1; simp; omega))
            have HLQ := hide (leq_any W5 hsv5 hst5 (stampN_nonneg _ _ _))
            have hstep : Hid (∀ (c1 : Bool) (w6 : World), (c1 = true ↔ ∀ u, lastN (ev l) c j (x1, x2) u ≤ stampN (ev l) c j u) → Below W5.heap.size W5 w6 → w6.cell? ⟨g, j, none⟩ = some (.bool false) ∧ w6.frozen? ⟨g, j, none⟩ = false ∧ MarkI g n B0 (ev l) c (j + 1) j (fun q => rj q || (decide (q = j) && (ds.take (i + 1)).any (bad (ev l) c j))) w S' Q (w6.setCell ⟨g, j, none⟩ (.bool (!c1))) ∧ w4.grownBy (w6.setCell ⟨g, j, none⟩ (.bool (!c1))) (some g)) := fun c1 w6 hc1 hb6 => by
              have hI6 := hI5.out.keep hg hb6
              have hgz : g < W5.heap.size := by have := hI5.out.grew.size; omega
              obtain ⟨hfI, hfg⟩ := hloop.out i (!c1) w6 h6 hI6 (by rw [hrb.out, hdx.out, bad_iff (ev l) c j (x1, x2) hc1]; rfl)
              exact ⟨(hb6.cell (p := ⟨g, j, none⟩) hgz).trans hrc', (hb6.frozen (p := ⟨g, j, none⟩) hgz).trans hrf, hfI, grown_then (grown_below hg5 hb6) hfg⟩
            clear hst5 hsv5 hI5
            go_wp2_with (go_at_call 20; refine HLQ.out.mono ?_; rintro e w6 ⟨c1, rfl, hc1, hb6⟩; obtain ⟨z1, z2, z3, z4⟩ := hstep.out c1 w6 hc1 hb6; have Z3 := hide z3; clear z3 hc1)
            go_roundw
            case rel => exact ⟨i + 1, by omega, by go_num, Z3.out, z4⟩
            case measure => simp [intOf]; omega
        · obtain rfl : i = ds.length := by omega
          have hfull : Hid (∀ q, (rj q || (decide (q = j) && (ds.take ds.length).any (bad (ev l) c j))) = (r q || (decide (q < j + 1) && mark (ev l) c q))) := fun q => by
            rw [List.take_length, HR.out, ← hds0.out, ← HE.out, mark_bad]
            by_cases e : q = j
            · subst e; simp
            · have : decide (q < j + 1) = decide (q < j) := by simp only [decide_eq_decide]; omega
              rw [this]; simp [e]
          have hI7 := hide (hIi.tellsC fun q _ => hfull.out q)
          have hbxk := hgi.block bx (by omega) (by simp; omega)
          have m0 := (World.cell?_of_block (w := w4) (a := ⟨bx, 0, none⟩) hbxk).trans g0
          have m1 := (World.cell?_of_block (w := w4) (a := ⟨bx, 1, none⟩) hbxk).trans g1
          have m2 := (World.cell?_of_block (w := w4) (a := ⟨bx, 2, none⟩) hbxk).trans g2
          have m3 := (World.cell?_of_block (w := w4) (a := ⟨bx, 3, none⟩) hbxk).trans g3
          have hst7 := hide (hst4.out.kept hgi.size (fun bq hS => hgi.block bq (by have := hI4.out.flow.lt bq hS; exact this) (by have := (hI4.out.sOut bq hS).1; simp; omega)))
          have HTc := hide (HT.out wr t kd o v hI7.out.grew)
          rw [hcf] at HTc
          have hlb : bx < wr.heap.size := by omega
          clear hIi hgi hbxk g0 g1 g2 g3 hst4 hI4 hloop hds hfresh hrc hrm
          go_wp2_with fail
          refine HTc.out.mono ?_
          rintro e w7 ⟨rfl, hb7⟩
          have hI8 := hide (hI7.out.keep hg hb7)
          have hst8 := hide (hst7.out.any hb7)
          have n0 := (hb7.cell (p := ⟨bx, 0, none⟩) hlb).trans m0
          have n1 := (hb7.cell (p := ⟨bx, 1, none⟩) hlb).trans m1
          have n2 := (hb7.cell (p := ⟨bx, 2, none⟩) hlb).trans m2
          have hlb7 : bx < w7.heap.size := by have := hb7.size; omega
          clear hI7 hst7 m0 m1 m2 m3 hb7 HTc
          cases cb with
          | false =>
            have hfin := hide (hI8.out.skipL hcb.out)
            go_wp2_with fail
            go_roundw
            case rel => exact ⟨j + 1, S', Q, by omega, by go_num, hfin.out⟩
            case measure => simp [intOf]; omega
          | true =>
            obtain ⟨W8, hW8⟩ : ∃ W8, w7.alloc (.cells #[.int .i64 kd, .int .i64 o] 58) = W8 := ⟨_, rfl⟩
            have hb8 : Below w7.heap.size w7 W8 := by rw [← hW8]; exact (Below.refl _ _).alloc (Nat.le_refl _) _
            have hz8 : W8.heap.size = w7.heap.size + 1 := by rw [← hW8]; simp
            obtain ⟨y1, y2⟩ := cells_two (w := W8) (b := w7.heap.size) (by rw [← hW8]; exact heap_alloc_new w7 _)
            have hI9 := hide (hI8.out.keep hg hb8)
            have hst9 := hide (hst8.out.any hb8)
            have o0 := (hb8.cell (p := ⟨bx, 0, none⟩) hlb7).trans n0
            have hown := hI9.out.own hg (kd, o)
            have hAcc : Hid (Acc (ev l) c (kd, o) j) := ⟨hcb.out, by rw [HE.out], by rw [HE.out]⟩
            have hms := map_some
            have hmn : ∀ u : World, Sem.run Tryd.prog (binOp .eql 53 (.map none) (.map none)) u = .ok (.bool true) u := fun u => by kernel_rfl
            obtain ⟨v13, z, hlk13, heq, heg, hcase⟩ : ∃ v13 z, Sem.run Tryd.prog (Instr.lookup 51 (.map (some (w.heap.size + 1))) (.agg #[.int .i64 kd, .int .i64 o]) false) W8 = .ok v13 W8 ∧ (∀ u : World, Sem.run Tryd.prog (binOp .eql 53 v13 (.map none)) u = .ok (.bool z) u) ∧ (∀ u : World, Sem.run Tryd.prog (eqGuard .eql 53 (Operand.tmp 63) (Operand.const (.map none)) v13 (.map none)) u = .ok () u) ∧ Hid ((∃ b', z = false ∧ v13 = .map (some b') ∧ PutS w.heap.size (Q (kd, o)) W8 b' (lastN (ev l) c j (kd, o))) ∨ (z = true ∧ v13 = .map none ∧ ∃ w2 Q', Sem.run Tryd.prog (Instr.mapUpdate 51 (.map (some (w.heap.size + 1))) (.agg #[.int .i64 kd, .int .i64 o]) (.map (some W8.heap.size))) (W8.alloc (.map #[] 0)) = .ok () w2 ∧
                MarkI g n B0 (ev l) c (j + 1) j (fun q => r q || (decide (q < j + 1) && mark (ev l) c q)) w S' Q' w2 ∧ Sem.run Tryd.prog (Instr.lookup 51 (.map (some (w.heap.size + 1))) (.agg #[.int .i64 kd, .int .i64 o]) false) w2 = .ok (.map (some W8.heap.size)) w2 ∧ PutS w.heap.size (Q' (kd, o)) w2 W8.heap.size (lastN (ev l) c j (kd, o)) ∧ (W8.alloc (.map #[] 0)).grownBy w2 (some (w.heap.size + 1)) ∧ ∀ a' x, Q' a' x → Q a' x ∨ x = W8.heap.size)) := by
              rcases hown with ⟨b', h1, h2⟩ | ⟨h1, h2⟩
              · exact ⟨_, false, h1, hms b', (fun u => by kernel_rfl), .inl ⟨b', rfl, rfl, h2⟩⟩
              · exact ⟨_, true, h1, hmn, (fun u => by kernel_rfl), .inr ⟨rfl, rfl, h2⟩⟩
            have HZ8 := hide hz8
            clear hown hI8 hst8 n0 hms hmn hz8
            go_upto_if 64 with fail
            go_cut [67] (fun _ wx => ∃ Q' b', MarkI g n B0 (ev l) c (j + 1) j (fun q => r q || (decide (q < j + 1) && mark (ev l) c q)) w S' Q' wx ∧ Sem.run Tryd.prog (Instr.lookup 51 (.map (some (w.heap.size + 1))) (.agg #[.int .i64 kd, .int .i64 o]) false) wx = .ok (.map (some b')) wx ∧ PutS w.heap.size (Q' (kd, o)) wx b' (lastN (ev l) c j (kd, o)) ∧ (∀ a' x, Q' a' x → Q a' x ∨ x = W8.heap.size) ∧ (∀ x, x < W8.heap.size → x ≠ w.heap.size + 1 → wx.heap[x]? = W8.heap[x]?) ∧ W8.heap.size ≤ wx.heap.size)
            case first =>
              rcases hcase.out with ⟨b', rfl, rfl, hp⟩ | ⟨rfl, rfl, w2, Q', hput, hI', hlk', hp', hg', hQ'⟩
              · have HPp := hide hp
                clear hp
                go_wp2_with fail
                go_meet
                exact ⟨Q, b', hI9.out, hlk13, HPp.out, fun a' x hx => .inl hx, fun _ _ _ => rfl, Nat.le_refl _⟩
              · have HPp := hide (⟨hI', hlk', hp', hQ'⟩ : _ ∧ _ ∧ _ ∧ _)
                have hgz := hg'.size
                rw [World.size_alloc] at hgz
                have hst : Hid (∀ x, x < W8.heap.size → x ≠ w.heap.size + 1 → w2.heap[x]? = W8.heap[x]?) := fun x h1 h2 => (hg'.block x (by simp; omega) (by simpa using h2)).trans (heap_alloc_old W8 _ h1)
                clear hI' hlk' hp' hg' hQ'
                go_wp2_with fail
                go_meet
                exact ⟨Q', _, HPp.out.1, HPp.out.2.1, HPp.out.2.2.1, HPp.out.2.2.2, hst.out, by omega⟩
            case rest =>
              clear hcase hlk13 hI9 heq heg
              obtain ⟨Q', b', hIx, hlkx, hpx, hQx, hkx, hzx⟩ := hcut
              have hz8 := HZ8.out
              have hbx7 : bx < w7.heap.size := hlb7
              have hHx : wc.cell? ⟨bx, 0, none⟩ = some (.int .i64 t) ∧ wc.cell? ⟨w7.heap.size, 0, none⟩ = some (.int .i64 kd) ∧ wc.cell? ⟨w7.heap.size, 1, none⟩ = some (.int .i64 o) := by
                have e1 := hkx bx (by omega) (by omega)
                have e2 := hkx w7.heap.size (by omega) (by omega)
                exact ⟨(World.cell?_of_block (w := W8) (a := ⟨bx, 0, none⟩) e1).trans o0, (World.cell?_of_block (w := W8) (a := ⟨w7.heap.size, 0, none⟩) e2).trans y1, (World.cell?_of_block (w := W8) (a := ⟨w7.heap.size, 1, none⟩) e2).trans y2⟩
              have hstx : StampV S' wc s (stampN (ev l) c j) := by
                have h1 : StampV (fun x => S' x ∧ x < W8.heap.size) W8 s (stampN (ev l) c j) := hst9.out.mono fun x hx hS => ⟨hS, hx⟩
                exact (h1.kept hzx fun x hx => hkx x hx.2 (by have := (hIx.sOut x hx.1).1; omega)).mono fun x _ hx => hx.1
              have hIxd := hIx.keep hg (Below.refl _ wc).drew
              have hlkd : Sem.run Tryd.prog (Instr.lookup 51 (.map (some (w.heap.size + 1))) (.agg #[.int .i64 kd, .int .i64 o]) false) wc.drew = .ok (.map (some b')) wc.drew := hIx.last.lookSame (a := (kd, o)) hlkx rfl
              have HOF := hide (of_any t wc.drew htr (hstx.any (Below.refl _ _).drew))
              have hput : Hid (∀ w10, Below wc.drew.heap.size wc.drew w10 → Calls Tryd.prog 21 #[.map (some b'), .int .i64 t, .int .i64 (stampN (ev l) c j t)] w10 fun e w' => e = .returned (.tuple #[]) ∧ (∃ Q2, MarkI g n B0 (ev l) c (j + 1) (j + 1) (fun q => r q || (decide (q < j + 1) && mark (ev l) c q)) w S' Q2 w') ∧ Chg (Q' (kd, o)) w10 w') := fun w10 hb10 => by
                have hI10 := hIxd.keep hg hb10
                have hQz : ∀ x, Q' (kd, o) x → x < wc.heap.size := hIx.last.lt (kd, o)
                have hp10 : PutS w.heap.size (Q' (kd, o)) w10 b' (lastN (ev l) c j (kd, o)) := hpx.kept fun x hx => hb10.block x (hQz x hx)
                have hcz : wc.heap.size ≤ w10.heap.size := hb10.size
                refine (putSt_any t (stampN (ev l) c j t) w10 htr hp10 (by have := hI10.grew.size; omega) (fun x hx => by have := hQz x hx; omega)).mono ?_
                rintro e w11 ⟨rfl, hp11, hch⟩
                refine ⟨rfl, hI10.put hg hAcc.out (hIxd.last.lookSame (a := (kd, o)) hlkd (hb10.block _ hIxd.last.mapLt)) (hp11.congr fun u => ?_) hch, hch⟩
                rw [HE.out]
              have hsep : Hid (∀ x, x = bx ∨ x = w7.heap.size ∨ x = w.heap.size + 1 → ¬ Q' (kd, o) x) := fun x hx hq => by
                rcases hQx _ _ hq with h | h
                · have h1 := HQlt.out _ _ h
                  have h2 := hIx.qOut _ _ hq
                  omega
                · omega
              have hMlt := hIxd.last.mapLt
              have hIxl := hIxd.last
              have HIXL := hide hIxl
              have hlzc : bx < wc.heap.size ∧ w7.heap.size < wc.heap.size := by omega
              clear hIx hpx hQx hkx hstx hIxd hIxl hz8 o0 y1 y2 hb8 hW8 hst9
              go_upto_region 15 with fail
              refine wp_region_held_drew (S := (fun w' => w'.cell? ⟨bx, 0, none⟩ = some (.int .i64 t) ∧ w'.cell? ⟨w7.heap.size, 0, none⟩ = some (.int .i64 kd) ∧ w'.cell? ⟨w7.heap.size, 1, none⟩ = some (.int .i64 o) ∧ Sem.run Tryd.prog (Instr.lookup 51 (.map (some (w.heap.size + 1))) (.agg #[.int .i64 kd, .int .i64 o]) false) w' = .ok (.map (some b')) w')) (by kernel_rfl) ⟨hHx.1, hHx.2.1, hHx.2.2, hlkd⟩ (fun hHeld => ?_)
              refine wpAnyH_take (i := 0) (v := ?_) rfl (by kernel_rfl) (by kernel_rfl) (by kernel_rfl) (fun _ _ _ h => h) (Or.inl ⟨by rfl, ?_⟩) hHeld ?_
              rotate_left
              · intro w9 hSw; (try dsimp only at hSw); go_simp; try with_reducible rfl
              simp only [Act.put]
              refine wpAnyH_take (i := 1) (v := ?_) rfl (by kernel_rfl) (by kernel_rfl) (by kernel_rfl) (fun _ _ _ h => h) (Or.inl ⟨by rfl, ?_⟩) hHeld ?_
              rotate_left
              · intro w9 hSw; (try dsimp only at hSw); go_simp; try with_reducible rfl
              simp only [Act.put]
              refine wpAnyH_take (i := 2) (v := ?_) rfl (by kernel_rfl) (by kernel_rfl) (by kernel_rfl) (fun _ _ _ h => h) (Or.inl ⟨by rfl, ?_⟩) hHeld ?_
              rotate_left
              · intro w9 hSw; (try dsimp only at hSw); go_simp; try with_reducible rfl
              simp only [Act.put]
              refine wpAnyH_take (i := 3) (v := ?_) rfl (by kernel_rfl) (by kernel_rfl) (by kernel_rfl) (fun _ _ _ h => h) (Or.inl ⟨by rfl, ?_⟩) hHeld ?_
              rotate_left
              · intro w9 hSw; (try dsimp only at hSw); go_simp; try with_reducible rfl
              simp only [Act.put]
              refine wpAnyH_take (i := 4) (v := ?_) rfl (by kernel_rfl) (by kernel_rfl) (by kernel_rfl) (fun _ _ _ h => h) (Or.inl ⟨by rfl, ?_⟩) hHeld ?_
              rotate_left
              · intro w9 hSw; (try dsimp only at hSw); go_simp; try with_reducible rfl
              simp only [Act.put]
              refine wpAnyH_take (i := 5) (v := ?_) rfl (by kernel_rfl) (by kernel_rfl) (by kernel_rfl) (fun _ _ _ h => h) (Or.inl ⟨by rfl, ?_⟩) hHeld ?_
              rotate_left
              · intro w9 hSw; (try dsimp only at hSw); go_simp; try with_reducible rfl
              simp only [Act.put]
              refine wpAnyH_take (i := 6) (v := ?_) rfl (by kernel_rfl) (by kernel_rfl) (by kernel_rfl) (fun _ _ _ h => h) (Or.inl ⟨by rfl, ?_⟩) hHeld ?_
              rotate_left
              · intro w9 hSw; (try dsimp only at hSw); go_simp; try with_reducible rfl
              simp only [Act.put]
              refine wpAnyH_take (i := 7) (v := ?_) rfl (by kernel_rfl) (by kernel_rfl) (by kernel_rfl) (fun _ _ _ h => h) (Or.inl ⟨by rfl, ?_⟩) hHeld ?_
              rotate_left
              · intro w9 hSw; (try dsimp only at hSw); go_simp; try with_reducible rfl
              simp only [Act.put]
              refine wpAnyH_ready (rs := [8]) (by kernel_rfl) (by simp) ?_
              refine AllReadyH.cons rfl (fun K hK => ?_) AllReadyH.nil
              go_simp
              go_at_call 22
              refine HOF.out.mono ?_
              rintro e w10 ⟨rfl, hb10⟩
              have hcz : wc.heap.size ≤ w10.heap.size := hb10.size
              have hHeld1 : w10.cell? ⟨bx, 0, none⟩ = some (.int .i64 t) ∧ w10.cell? ⟨w7.heap.size, 0, none⟩ = some (.int .i64 kd) ∧ w10.cell? ⟨w7.heap.size, 1, none⟩ = some (.int .i64 o) ∧ Sem.run Tryd.prog (Instr.lookup 51 (.map (some (w.heap.size + 1))) (.agg #[.int .i64 kd, .int .i64 o]) false) w10 = .ok (.map (some b')) w10 :=
                ⟨(hb10.cell (p := ⟨bx, 0, none⟩) hlzc.1).trans hHx.1, (hb10.cell (p := ⟨w7.heap.size, 0, none⟩) hlzc.2).trans hHx.2.1, (hb10.cell (p := ⟨w7.heap.size, 1, none⟩) hlzc.2).trans hHx.2.2, HIXL.out.lookSame (a := (kd, o)) hlkd (hb10.block _ hMlt)⟩
              go_wp2_with fail
              refine hK.out _ _ hHeld1 (fun _ => ?_)
              clear hK K
              refine wpAnyH_ready (rs := [9]) (by kernel_rfl) (by simp) ?_
              refine AllReadyH.cons rfl (fun K hK => ?_) AllReadyH.nil
              go_simp
              go_at_call 21
              refine (hput.out w10 hb10).mono ?_
              rintro e w11 ⟨rfl, ⟨Q2, hI11⟩, hch⟩
              have HI11 := hide hI11
              have hHeld2 : w11.cell? ⟨bx, 0, none⟩ = some (.int .i64 t) ∧ w11.cell? ⟨w7.heap.size, 0, none⟩ = some (.int .i64 kd) ∧ w11.cell? ⟨w7.heap.size, 1, none⟩ = some (.int .i64 o) ∧ Sem.run Tryd.prog (Instr.lookup 51 (.map (some (w.heap.size + 1))) (.agg #[.int .i64 kd, .int .i64 o]) false) w11 = .ok (.map (some b')) w11 := by
                have e1 := hch.block bx (by omega) (hsep.out _ (.inl rfl))
                have e2 := hch.block w7.heap.size (by omega) (hsep.out _ (.inr (.inl rfl)))
                have e3 := hch.block (w.heap.size + 1) (Nat.lt_of_lt_of_le hMlt hcz) (hsep.out _ (.inr (.inr rfl)))
                exact ⟨(World.cell?_of_block (w := w10) (a := ⟨bx, 0, none⟩) e1).trans hHeld1.1, (World.cell?_of_block (w := w10) (a := ⟨w7.heap.size, 0, none⟩) e2).trans hHeld1.2.1, (World.cell?_of_block (w := w10) (a := ⟨w7.heap.size, 1, none⟩) e2).trans hHeld1.2.2.1, HIXL.out.lookSame (a := (kd, o)) hlkd (e3.trans (hb10.block _ hMlt))⟩
              clear hI11 hch
              go_wp2_with fail
              refine hK.out _ _ hHeld2 (fun _ => ?_)
              clear hK K
              refine wpAnyH_done (by kernel_rfl) ?_ _
              clear hHeld hHeld1 hHeld2 hHx hlkd hlkx
              go_wp2_with fail
              go_roundw
              case rel => exact ⟨j + 1, S', Q2, by omega, by go_num, HI11.out⟩
              case measure => simp [intOf]; omega
    · obtain rfl : j = n := by omega
      have HI := hide hI
      clear hI
      go_wp2_with fail
      go_end0
      exact ⟨rfl, HI.out.tells.congr (fun q hq => by simp [hq]), HI.out.grew⟩
end Go.Proofs.YtiaedjnedoemoabDoor
namespace Go.Proofs.YtiaedjnedoemoabDoor
open Go.RowKit Go.Proofs.Ord

/-- The number of a thread, as the map tells it. -/
def nuOf (f : Int → Option Value) (t : Int) : Int := match f t with
  | some (.int _ j) => j
  | _ => 0
theorem NumberedW.nums {w : World} {M : Nat} {L : Nat → Ev} {k : Nat} {f : Int → Option Value} {m : Nat} (h : NumberedW w M L k f m) : NumsW w M f m (nuOf f) := by
  refine ⟨h.map, fun t => ?_⟩
  unfold nuOf
  cases hf : f t with
  | none => rfl
  | some v => obtain ⟨j, _, rfl⟩ := h.val t v hf; rfl
theorem NumberedW.nonneg {w : World} {M : Nat} {L : Nat → Ev} {k : Nat} {f : Int → Option Value} {m : Nat} (h : NumberedW w M L k f m) (t : Int) : 0 ≤ nuOf f t := by
  unfold nuOf
  cases hf : f t with
  | none => exact Int.le_refl _
  | some v => obtain ⟨j, _, rfl⟩ := h.val t v hf; show (0 : Int) ≤ (j : Int); omega
theorem NumberedW.below {w : World} {M : Nat} {L : Nat → Ev} {k : Nat} {f : Int → Option Value} {m : Nat} (h : NumberedW w M L k f m) {i : Nat} (hi : i < k) (ha : access (L i) = true) : nuOf f (L i).thread < m := by
  unfold nuOf
  obtain ⟨v, hv⟩ := Option.isSome_iff_exists.1 (h.has i hi ha)
  rw [hv]
  obtain ⟨j, hj, rfl⟩ := h.val _ v hv
  show (j : Int) < (m : Int); omega

/-- The accesses of threads whose number is below fr. -/
def upTo (L : Nat → Ev) (nu : Int → Int) (fr : Int) (i : Nat) : Bool := access (L i) && decide (nu (L i).thread < fr)

theorem any_or_pred {α : Type} (l : List α) (p q : α → Bool) : (l.any p || l.any q) = l.any (fun x => p x || q x) := by
  induction l with
  | nil => rfl
  | cons x l ih =>
    simp only [List.any_cons]
    rw [← ih]
    cases p x <;> cases q x <;> simp
theorem mark_step (L : Nat → Ev) (nu : Int → Int) (fr : Int) (k : Nat) : (mark L (upTo L nu fr) k || mark L (cfs L nu fr) k) = mark L (upTo L nu (fr + 16384)) k := by
  unfold mark
  rw [any_or_pred]
  congr 1
  funext i
  have e : (upTo L nu fr i || cfs L nu fr i) = upTo L nu (fr + 16384) i := by
    unfold upTo cfs cf
    cases access (L i) with
    | false => rfl
    | true =>
      simp only [Bool.true_and]
      rw [Bool.eq_iff_iff]
      simp only [Bool.or_eq_true, Bool.and_eq_true, decide_eq_true_eq]
      omega
  rw [← e]
  cases upTo L nu fr i <;> cases cfs L nu fr i <;> simp
theorem mark_none (L : Nat → Ev) (nu : Int → Int) (k : Nat) (h0 : ∀ t, 0 ≤ nu t) : mark L (upTo L nu 0) k = false := by
  unfold mark
  rw [List.any_eq_false]
  intro i _
  have : decide (nu (L i).thread < 0) = false := decide_eq_false (by have := h0 (L i).thread; omega)
  unfold upTo
  rw [this]; simp
theorem mark_all (L : Nat → Ev) (nu : Int → Int) (fr : Int) (k : Nat) (h : ∀ i, i < k → access (L i) = true → nu (L i).thread < fr) : mark L (upTo L nu fr) k = racy L k := by
  rw [Bool.eq_iff_iff, mark_iff, racy_iff]
  constructor
  · rintro ⟨i, h1, _, h3⟩; exact ⟨i, h1, h3⟩
  · rintro ⟨i, h1, h3⟩
    have ha : access (L i) = true := by
      unfold race at h3
      rw [Bool.and_eq_true, conflict_iff] at h3
      unfold access
      rcases h3.1.1 with h | h <;> simp [h]
    exact ⟨i, h1, by unfold upTo; rw [ha, decide_eq_true (h i h1 ha)]; rfl, h3⟩

/-- The number in a variable. -/
def intAt (p : Value) (w : World) : Int := match p with
  | .pointer (some a) => (match w.cell? a with | some (.int _ x) => x | _ => 0)
  | _ => 0
theorem intAt_is {w : World} {a : Addr} {k : IntKind} {x : Int} (h : w.cell? a = some (.int k x)) : intAt (.pointer (some a)) w = x := by simp [intAt, h]

set_option maxRecDepth 100000 in
set_option maxHeartbeats 2000000 in
theorem racy_said : RacyDSaid := by
  intro a n cap l w hn hs hc hm hb hthr
  obtain ⟨i0, hi0, hz0, hz1, hz2⟩ := info_parts Tryd.infob
  by_cases hn0 : n = 0
  · subst hn0
    go_enter Tryd.func5, Tryd.ntmps5
    go_wp2
    go_ret
    exact ⟨none, 0, rfl, fun i hi => absurd hi (by omega), Below.refl _ _⟩
  · have hthr := hide hthr
    have hne : ((n : Int) == 0) = false := beq_eq_false_iff_ne.2 (by omega)
    go_enter Tryd.func5, Tryd.ntmps5
    go_wp2_with (at_make; refine wpList_make_full _ rfl _ _ 25 rfl w.heap.size 4 i0 (.bool false) 1 Tryd.underlying25 hi0 hz0 hz1 _ _ _ _ n rfl rfl (by first | rfl | simp) (by first | rfl | simp) (by rw [hz2]; omega) (by unfold maxLen; omega) (Nat.le_refl _) ?_; intro w1 hown hgrow)
    have ht1 : Tells w1 w.heap.size w.heap.size n (fun _ => false) := by
      unfold Tells
      have e : ((List.range n).map fun _ => Value.bool false) = (madeCells (Value.bool false).cells (n * 1)).toList := by
        rw [show (Value.bool false).cells = #[Value.bool false] from rfl, toList_madeCells_one, Nat.mul_one, List.map_const', List.length_range]
      rw [e]; exact hown
    have hb1 : Below w.heap.size w w1 := (Below.refl _ _).grown hgrow (Nat.le_refl _) (fun q e => by cases e)
    have hlt1 : w.heap.size < w1.heap.size := (World.ownsRow.lt ht1 _ rfl).2
    clear hown hgrow
    refine (numbered_any _ _ _ _ _ hn (hs.below hb1) hb).mono ?_
    rintro e w2 ⟨M, f, m, rfl, hM, hNu, hb2⟩
    have ht2 := ht1.below hb2 hlt1
    have hz2' := hb2.size
    obtain ⟨nu, hnu⟩ : ∃ nu, nuOf f = nu := ⟨_, rfl⟩
    have hNs := hNu.nums
    have h0 : Hid (∀ t, 0 ≤ nu t) := fun t => by rw [← hnu]; exact hNu.nonneg t
    have hall : Hid (∀ i, i < n → access (ev l i) = true → nu (ev l i).thread < m) := fun i hi ha => by rw [← hnu]; exact hNu.below hi ha
    have hmn : m ≤ n := hNu.le
    rw [hnu] at hNs
    have HNs := hide hNs
    have hMl := hNs.map.lt
    clear hNu hNs hnu
    obtain ⟨w4, hw4⟩ : ∃ w4, (w2.alloc (.cells #[.map (some M)] 36)).alloc (.cells #[.int .i64 0] 3) = w4 := ⟨_, rfl⟩
    have hb4 : Below w2.heap.size w2 w4 := by rw [← hw4]; exact ((Below.refl _ _).alloc (Nat.le_refl _) _).alloc (by simp) _
    have hz4 : w4.heap.size = w2.heap.size + 2 := by rw [← hw4]; simp
    have hc4 : w4.cell? ⟨w2.heap.size, 0, none⟩ = some (.map (some M)) := by rw [← hw4]; simp
    have hc5 : w4.cell? ⟨w2.heap.size + 1, 0, none⟩ = some (.int .i64 0) := by
      have e := heap_two w2 (.cells #[.map (some M)] 36) (.cells #[.int .i64 0] 3)
      rw [hw4] at e
      simp [World.cell?, e]
    have ht4 := ht2.below hb4 (by omega)
    have hbw4 : Below w.heap.size w w4 := (hb1.trans (hb2.mono hb1.size)).trans (hb4.mono (by omega))
    have hstart : Hid (w4.heap[M]? = w2.heap[M]? ∧ Tells w4 w.heap.size w.heap.size n (mark (ev l) (upTo (ev l) nu 0)) ∧ Below w.heap.size w w4) := ⟨hb4.block _ hMl, ht4.congr (fun q _ => (mark_none (ev l) nu q h0.out).symm), hbw4⟩
    have hzw : w.heap.size < w2.heap.size := by omega
    have hMg : M ≠ w.heap.size := by omega
    have HW4 := hide hw4
    clear ht1 ht2 ht4 hbw4 hb4 hb2 hb1 hw4
    go_wp2_with fail
    rw [HW4.out]
    go_loopw [5] (fun p5 wr => ∃ (fr : Int) (b5 : Nat), p5 = .pointer (some ⟨b5, 0, none⟩) ∧ 0 ≤ fr ∧ fr ≤ (m : Int) + 16384 ∧ wr.cell? ⟨b5, 0, none⟩ = some (.int .i64 fr) ∧ w2.heap.size ≤ b5 ∧ b5 < wr.heap.size ∧ wr.cell? ⟨w2.heap.size, 0, none⟩ = some (.map (some M)) ∧ wr.heap[M]? = w2.heap[M]? ∧ Tells wr w.heap.size w.heap.size n (mark (ev l) (upTo (ev l) nu fr)) ∧ w2.heap.size < wr.heap.size ∧ Below w.heap.size w wr) (fun p5 wr => ((m : Int) + 32768 - intAt p5 wr).toNat)
    case atStart => exact ⟨0, _, rfl, Int.le_refl _, by omega, hc5, by omega, by omega, hc4, hstart.out.1, hstart.out.2.1, by omega, hstart.out.2.2⟩
    case round =>
      clear hc4 hc5 hstart HW4 hz4
      obtain ⟨fr, b5, rfl, hf0, hf1, hc5, hb5, hl5, hc4, hMw, hT, hzr, hbel⟩ := hrel
      have hNr := HNs.out.same hMw
      have hln : Sem.run Tryd.prog (Builtin.len_ #[36] 3 #[.map (some M)]) wr = .ok (.int .i64 (m : Int)) wr := hNr.map.len Tryd.underlying36 3
      have hia := intAt_is hc5
      have HIA := hide hia
      clear hia
      by_cases hlt : fr < (m : Int)
      · have HM := hide (markRaces_any a n cap l wr w.heap.size w.heap.size w2.heap.size b5 M m f nu fr _ hn (hs.below hbel) hb hthr.out hNr hc4 hc5 hzr hl5 hf0 (by omega) hT (by omega) (by omega) hMg (fun b off e => by obtain ⟨b', off', e', hl', _⟩ := hs 0 (by omega); rw [e] at e'; cases e'; omega))
        have hnext : Hid (∀ w5, Tells w5 w.heap.size w.heap.size n (fun j => mark (ev l) (upTo (ev l) nu fr) j || mark (ev l) (cfs (ev l) nu fr) j) → wr.grownBy w5 (some w.heap.size) → w5.cell? ⟨b5, 0, none⟩ = some (.int .i64 fr) ∧ ∀ W, w5.alloc (.cells #[.int .i64 (fr + 16384)] 3) = W → W.cell? ⟨w5.heap.size, 0, none⟩ = some (.int .i64 (fr + 16384)) ∧ w2.heap.size ≤ w5.heap.size ∧ w5.heap.size < W.heap.size ∧ W.cell? ⟨w2.heap.size, 0, none⟩ = some (.map (some M)) ∧ W.heap[M]? = w2.heap[M]? ∧ Tells W w.heap.size w.heap.size n (mark (ev l) (upTo (ev l) nu (fr + 16384))) ∧ w2.heap.size < W.heap.size ∧ Below w.heap.size w W) := fun w5 hT5 hg5 => by
          have hz5 := hg5.size
          refine ⟨(World.cell?_of_block (w := wr) (a := ⟨b5, 0, none⟩) (hg5.block b5 hl5 (by simp; omega))).trans hc5, fun W hW => ?_⟩
          have hbW : Below w5.heap.size w5 W := by rw [← hW]; exact (Below.refl _ _).alloc (Nat.le_refl _) _
          have hzW : W.heap.size = w5.heap.size + 1 := by rw [← hW]; simp
          refine ⟨by rw [← hW]; simp, by omega, by omega, (World.cell?_of_block (w := wr) (a := ⟨w2.heap.size, 0, none⟩) ((hbW.block w2.heap.size (by omega)).trans (hg5.block w2.heap.size hzr (by simp; omega)))).trans hc4, (hbW.block M (by omega)).trans ((hg5.block M (by omega) (by simpa using hMg)).trans hMw), (hT5.below hbW (by omega)).congr (fun q _ => mark_step (ev l) nu fr q), by omega, ?_⟩
          exact (hbel.grown hg5 hbel.size (fun q e => by cases e; exact Nat.le_refl _)).trans (hbW.mono (by omega))
        clear hNr hT hMw
        go_wp2_with fail
        refine HM.out.mono ?_
        rintro e w5 ⟨rfl, hT5, hg5⟩
        obtain ⟨k5, hfin⟩ := hnext.out w5 hT5 hg5
        have HF := hide hfin
        clear hfin hT5 hg5 HM hnext
        go_wp2_with fail
        obtain ⟨q1, q2, q3, q4, q5, q6, q7, q8⟩ := HF.out _ rfl
        have hia2 := intAt_is q1
        go_roundw
        case rel => exact ⟨fr + 16384, w5.heap.size, rfl, by omega, by omega, q1, q2, q3, q4, q5, q6, q7, q8⟩
        case measure => rw [hia2, HIA.out]; omega
      · have hge : decide (fr < (m : Int)) = false := decide_eq_false hlt
        have hfin : Hid (Tells wr w.heap.size w.heap.size n (racy (ev l))) := hT.congr (fun q hq => mark_all (ev l) nu fr q (fun i hi ha => by have := hall.out i (by omega) ha; omega))
        clear hNr hT hMw
        go_wp2_with fail
        go_ret
        exact ⟨_, ⟨_, rfl⟩, hfin.out.boolS, hbel⟩
end Go.Proofs.YtiaedjnedoemoabDoor
namespace Go.Proofs.YtiaedjnedoemoabDoor
open Go.RowKit Go.Proofs.Ord

set_option maxRecDepth 100000 in
set_option maxHeartbeats 1000000 in
theorem djitRaces_walk (hR : RacesSaid) (hSt : StampsSaid) (hRa : RacyDSaid) (a : Option Addr) (n cap : Nat) (l : List Ev) (w : World) (hn : l.length = n) (hs : EvS w a l) (hb : n ≤ 1048576) (hthr : Hid (ThR l)) (hTab : Hid (Tab w)) :
    Calls Tryd.prog 3 #[.slice a n cap] w fun e w' => e = .returned (.bool true) ∧ Below w.heap.size w w' := by
  have hlen : (racesTo (ev l) n).length ≤ 1099511627776 := Nat.le_trans (racesTo_length (ev l) n) (Nat.le_trans (Nat.mul_le_mul hb hb) (by omega))
  go_enter Tryd.func3, Tryd.ntmps3
  go_wp2_with fail
  refine (given_any _ _ _ _ _ hn hs (by omega)).mono ?_
  rintro e w1 ⟨v, rfl, hown, hb1⟩
  obtain ⟨a1, cap1, rfl, _, hc1, hm1, hs1⟩ := evS_of_owns hown
  clear hown
  go_wp2_with fail
  refine (hRa _ _ _ _ _ hn hs1 hc1 hm1 hb hthr.out).mono ?_
  rintro e w2 ⟨a2, cap2, rfl, hq, hb2⟩
  have hk2 : Below w.heap.size w w2 := hb1.trans (hb2.mono hb1.size)
  have hs2 := hs1.below hb2
  clear hb1 hb2 hs1
  go_wp2_with fail
  have ht2 : Tab w2 := tab_below hTab.out ⟨hk2.os, hk2.tape, hk2.output, hk2.size, hk2.block⟩
  refine (hR _ _ _ _ _ hn hs2 hc1 hm1 hb ht2).mono ?_
  rintro e w3 ⟨vp, rfl, hp, hb3⟩
  obtain ⟨ap, cp, rfl, _, _, _⟩ := id hp
  have hp3 := hp.pairS.2
  have hk3 : Below w.heap.size w w3 := hk2.trans (hb3.mono hk2.size)
  have hq3 := hq.below hb3
  have HA := o_hide (any_races (ev l) n)
  clear hk2 hb3 hq hp hs2
  generalize racesTo (ev l) n = P at *
  go_wp2_with fail
  go_loopw [6, 7, 8] (fun jv _ _ wr => ∃ j : Nat, j ≤ n ∧ jv = .int .i64 j ∧ Below w3.heap.size w3 wr) (fun jv _ _ _ => n - (intOf jv).toNat)
  case atStart => exact ⟨0, Nat.zero_le _, rfl, Below.refl _ _⟩
  case round =>
    obtain ⟨j, hj, rfl, hbr⟩ := hrel
    by_cases h5 : j < n
    · go_wp2_with fail
      go_loopw [7, 8] (fun sv kv wr => ∃ k : Nat, k ≤ P.length ∧ kv = .int .i64 k ∧ sv = .bool ((P.take k).any fun p => p.2 == j) ∧ Below w3.heap.size w3 wr) (fun _ kv _ => P.length - (intOf kv).toNat)
      case atStart => exact ⟨0, Nat.zero_le _, rfl, rfl, hbr⟩
      case round =>
        clear hbr
        obtain ⟨k, hk, rfl, rfl, hbr⟩ := hrel
        by_cases h6 : k < P.length
        · have HT := o_hide (take_any P k h6 j)
          obtain ⟨b, off, rfl, _, _, c1⟩ := (hp3.below hbr) k h6
          generalize (P.getD k (0, 0)).2 = y at c1 HT
          generalize hS : ((P.take k).any fun p => p.2 == j) = s at HT ⊢
          clear hS
          cases s with
          | true =>
            go_wp2_with fail
            go_roundw
            case rel => exact ⟨k + 1, by omega, by go_num, by rw [HT.out]; rfl, hbr⟩
            case measure => simp [intOf]; omega
          | false =>
            have e : Hid (((y : Int) == (j : Int)) = (y == j)) := by
              show ((y : Int) == (j : Int)) = (y == j)
              rw [Bool.eq_iff_iff, beq_iff_eq, beq_iff_eq]
              omega
            cases hyj : ((y : Int) == (j : Int))
            all_goals
              go_wp2_with fail
              go_roundw
              case rel => exact ⟨k + 1, by omega, by go_num, by rw [HT.out, ← e.out, hyj]; rfl, hbr⟩
              case measure => simp [intOf]; omega
        · have e1 : P.take k = P := List.take_of_length_le (by omega)
          rw [e1, HA.out j h5]
          clear e1
          obtain ⟨b, off, rfl, _, c0⟩ := (hq3.below hbr) j h5
          generalize racy (ev l) j = x at c0 ⊢
          have hx : (x != x) = false := by cases x <;> rfl
          have hjn : (j : Int) < (n : Int) := by omega
          go_wp2_with fail
          go_roundw
          case rel => exact ⟨j + 1, by omega, by go_num, hbr⟩
          case measure => simp [intOf]; omega
    · have hk4 : Below w.heap.size w wr := hk3.trans (hbr.mono hk3.size)
      clear hbr
      go_wp2_with fail
      refine (alive5_true hSt hRa _).mono ?_
      rintro e w6 ⟨rfl, hb6⟩
      go_wp2_with fail
      go_ret
      exact ⟨rfl, hk4.trans (hb6.mono hk4.size)⟩
end Go.Proofs.YtiaedjnedoemoabDoor
namespace Go.Proofs.YtiaedjnedoemoabDoor
open Go.RowKit Go.Proofs.Ord Go.ChangeShapes Go.WideShapes Go.Deep

theorem Tryd.cellsEv : Tryd.prog.cellsOf 34 = 4 := by kernel_rfl

theorem Tryd.cellsI : Tryd.prog.cellsOf 3 = 1 := by kernel_rfl

theorem list4 {α : Type} {l : List α} (h : l.length = 4) : ∃ c0 c1 c2 c3, l = [c0, c1, c2, c3] := by
  match l, h with
  | [c0, c1, c2, c3], _ => exact ⟨c0, c1, c2, c3, rfl⟩

theorem choose_ev {n : Nat} {p : Nat → Ev → Prop} (h : ∀ i, i < n → ∃ x, p i x) : ∃ f : Nat → Ev, ∀ i, i < n → p i (f i) := by
  refine ⟨fun i => if hi : i < n then Classical.choose (h i hi) else Ev.zero, fun i hi => ?_⟩
  simp only [dif_pos hi]
  exact Classical.choose_spec (h i hi)

theorem spot_of_cells {w : World} {base : Nat} {a : Addr} {x : Value} {xs : List Value} (h : w.cells? base (a.add (0 * 4)) 4 = some (x :: xs)) : a.spot = none := by
  have h0 := (World.cells?_some h).2.2 0 (by omega)
  obtain ⟨b, off, spot⟩ := a
  have h1 : w.cell? ⟨b, off, spot⟩ = some x := by simpa [Addr.add] using h0
  exact World.cell?_spot h1

theorem evAt_of_cells {w : World} {base b off i : Nat} {e : Ev} (h : w.cells? base ((⟨b, off, none⟩ : Addr).add (i * 4)) 4 = some [.int .i64 e.thread, .int .i64 e.kind, .int .i64 e.obj, .int .i64 e.value]) : b < w.heap.size ∧ EvAt w b (off + i * 4) e := by
  have hall : ∀ j, j < 4 → w.cell? (((⟨b, off, none⟩ : Addr).add (i * 4)).add j) = [Value.int .i64 e.thread, .int .i64 e.kind, .int .i64 e.obj, .int .i64 e.value][j]? := (World.cells?_some h).2.2
  have e0 : ∀ k, (⟨b, off, none⟩ : Addr).add k = ⟨b, off + k, none⟩ := fun k => by unfold Addr.add; split <;> simp_all
  have e1 : ∀ j, ((⟨b, off, none⟩ : Addr).add (i * 4)).add j = ⟨b, off + i * 4 + j, none⟩ := fun j => by rw [add_add, e0, Nat.add_assoc]
  have h0 := hall 0 (by omega)
  have h1 := hall 1 (by omega)
  have h2 := hall 2 (by omega)
  have h3 := hall 3 (by omega)
  rw [e1] at h0 h1 h2 h3
  exact ⟨World.block_lt_of_cell? w ⟨b, off + i * 4 + 0, none⟩ h0, h0, h1, h2, h3⟩

section
variable {H : Type} {enc : TypeId × Value → H} {w : World} {base : Nat} {spare : Nat → Bool} {held : Bool}

theorem wf_range {t : Int} (h : (Lit.int .i64 t).wf = true) : -9223372036854775808 ≤ t ∧ t ≤ 9223372036854775807 := by
  simp [Lit.wf, IntKind.min, IntKind.max, IntKind.bits, IntKind.signed] at h
  omega

/-- Four cells that read as an event are four numbers. -/
theorem open_event {fuel : Nat} {cs : List Value} {x : DataW H × List MemPlace} (h : DataW.trod enc Tryd.prog w base spare held fuel 34 cs = some x) :
    ∃ e : Ev, cs = [.int .i64 e.thread, .int .i64 e.kind, .int .i64 e.obj, .int .i64 e.value] ∧ x.1 = .agg [.lit (.int .i64 e.thread), .lit (.int .i64 e.kind), .lit (.int .i64 e.obj), .lit (.int .i64 e.value)] ∧ -9223372036854775808 ≤ e.thread ∧ e.thread ≤ 9223372036854775807 := by
  obtain ⟨y0, y1, y2, y3, n, hx, hlen, h0, h1, h2, h3⟩ := Go.Joins.trod_struct4 Tryd.underlying34 h
  rw [Tryd.cellsEv] at hlen
  obtain ⟨c0, c1, c2, c3, rfl⟩ := list4 hlen
  obtain ⟨t, e0, f0, hwf⟩ := DataW.trod_int Tryd.underlying3 h0
  obtain ⟨k, e1, f1, _⟩ := DataW.trod_int Tryd.underlying3 h1
  obtain ⟨o, e2, f2, _⟩ := DataW.trod_int Tryd.underlying3 h2
  obtain ⟨v, e3, f3, _⟩ := DataW.trod_int Tryd.underlying3 h3
  simp [Tryd.cellsI] at e0 e1 e2 e3
  subst e0 e1 e2 e3
  refine ⟨⟨t, k, o, v⟩, rfl, by rw [hx, f0, f1, f2, f3], ?_⟩
  have hr := wf_range hwf
  exact hr

/-- A slice that reads as events: its cells are. -/
theorem open_events_r {fuel : Nat} {a : Option Addr} {len cap : Nat} {x : DataW H × List MemPlace} (h : DataW.trod enc Tryd.prog w base spare held fuel 22 [.slice a len cap] = some x) :
    ∃ l : List Ev, l.length = len ∧ EvS w a l ∧ len ≤ cap ∧ cap ≤ maxLen ∧ (a = none → len = 0 ∧ cap = 0) ∧ ((x.1 = .nil ∧ len = 0) ∨ ∃ sp, x.1 = .slice (l.map fun e => .agg [.lit (.int .i64 e.thread), .lit (.int .i64 e.kind), .lit (.int .i64 e.obj), .lit (.int .i64 e.value)]) sp) ∧ ∀ i, i < l.length → -9223372036854775808 ≤ (ev l i).thread ∧ (ev l i).thread ≤ 9223372036854775807 := by
  rcases open_slice Tryd.underlying22 h with ⟨hcs, hx⟩ | ⟨x', len', cap', m, n, D, Pl, hcs, _, hl, hm, hmm, hx, hel⟩
  · simp at hcs
    obtain ⟨rfl, rfl, rfl⟩ := hcs
    exact ⟨[], rfl, fun i hi => absurd hi (by simp), Nat.le_refl _, by unfold maxLen; omega, fun _ => ⟨rfl, rfl⟩, .inl ⟨by rw [hx], rfl⟩, fun i hi => absurd hi (by simp)⟩
  · simp at hcs
    obtain ⟨rfl, rfl, rfl⟩ := hcs
    have hlm : len ≤ m := by rw [hmm]; split <;> omega
    have hall : ∀ i, i < len → ∃ e : Ev, w.cells? base (x'.add (i * 4)) 4 = some [.int .i64 e.thread, .int .i64 e.kind, .int .i64 e.obj, .int .i64 e.value] ∧ D i = .agg [.lit (.int .i64 e.thread), .lit (.int .i64 e.kind), .lit (.int .i64 e.obj), .lit (.int .i64 e.value)] ∧ -9223372036854775808 ≤ e.thread ∧ e.thread ≤ 9223372036854775807 := by
      intro i hi
      obtain ⟨cs', h1, h2⟩ := hel i (by omega)
      rw [Tryd.cellsEv] at h1
      obtain ⟨e, rfl, h3, h4⟩ := open_event h2
      exact ⟨e, h1, h3, h4⟩
    obtain ⟨f, hf⟩ := choose_ev hall
    refine ⟨(List.range len).map f, by simp, ?_, hl, hm, (fun e => by cases e), .inr ⟨(List.range (m - len)).map fun j => D (len + j), ?_⟩, ?_⟩
    · intro i hi
      simp at hi
      have hfi := (hf i hi).1
      have e' : ((List.range len).map f).getD i Ev.zero = f i := by simp [hi]
      have hspot := spot_of_cells (hf 0 (by omega)).1
      obtain ⟨b, off, spot⟩ := x'
      simp only at hspot
      subst hspot
      obtain ⟨h1, h2⟩ := evAt_of_cells hfi
      refine ⟨b, off, rfl, h1, ?_⟩
      rw [show Ord.ev ((List.range len).map f) i = f i from e']
      exact h2
    · rw [hx, List.map_map]
      have e : (List.range len).map D = (List.range len).map ((fun e : Ev => DataW.agg (H := H) [.lit (.int .i64 e.thread), .lit (.int .i64 e.kind), .lit (.int .i64 e.obj), .lit (.int .i64 e.value)]) ∘ f) := by
        apply List.map_congr_left
        intro q hq
        exact (hf q (List.mem_range.1 hq)).2.1
      rw [e]
    · intro i hi
      simp at hi
      have e' : Ord.ev ((List.range len).map f) i = f i := by simp [Ord.ev, hi]
      rw [e']
      exact (hf i hi).2.2
theorem open_events {fuel : Nat} {a : Option Addr} {len cap : Nat} {x : DataW H × List MemPlace} (h : DataW.trod enc Tryd.prog w base spare held fuel 22 [.slice a len cap] = some x) :
    ∃ l : List Ev, l.length = len ∧ EvS w a l ∧ len ≤ cap ∧ cap ≤ maxLen ∧ (a = none → len = 0 ∧ cap = 0) ∧ ((x.1 = .nil ∧ len = 0) ∨ ∃ sp, x.1 = .slice (l.map fun e => .agg [.lit (.int .i64 e.thread), .lit (.int .i64 e.kind), .lit (.int .i64 e.obj), .lit (.int .i64 e.value)]) sp) := by
  obtain ⟨l, h1, h2, h3, h4, h5, h6, _⟩ := open_events_r h
  exact ⟨l, h1, h2, h3, h4, h5, h6⟩
end
end Go.Proofs.YtiaedjnedoemoabDoor
namespace Go.Proofs.YtiaedjnedoemoabDoor
open Go.ChangeShapes Go.WideShapes Go.ChangeAt Go.RowKit Go.Proofs.Ord
set_option linter.unusedVariables false

theorem Tryd.own : ownKnob Tryd.prog.godebug = none := by kernel_rfl
theorem Tryd.laidOut : laidOutB Tryd.prog = true := by kernel_rfl
theorem Tryd.bytesEv : Tryd.prog.bytesOf 34 = 32 := by kernel_rfl

/-- The bound gives a slice's length. -/
theorem bulk_one {H : Type} (d : DataW H) : 1 ≤ Rows.uptoBulk d := by
  cases d with
  | lit l => cases l <;> simp [Rows.uptoBulk]
  | nil => simp [Rows.uptoBulk]
  | ptr d => simp [Rows.uptoBulk]
  | slice elems spare => simp [Rows.uptoBulk]
  | agg parts => simp [Rows.uptoBulk]
  | iface t d => simp [Rows.uptoBulk]
  | map entries => simp [Rows.uptoBulk]
  | held h => simp [Rows.uptoBulk]
theorem bulk_length {H : Type} (l : List (DataW H)) : l.length ≤ Rows.uptoBulkAll l := by
  induction l with
  | nil => simp [Rows.uptoBulkAll]
  | cons x r ih => have := bulk_one x; simp only [Rows.uptoBulkAll, List.length_cons]; omega
theorem bulk_slice {H : Type} (elems spare : List (DataW H)) : elems.length ≤ Rows.uptoBulk (.slice elems spare) := by
  have h1 := bulk_length elems
  simp only [Rows.uptoBulk]
  omega
theorem bulk_head {H : Type} {d : DataW H} {l : List (DataW H)} (hk : Rows.uptoSmall H (d :: l) = true) : Rows.uptoBulk d ≤ 1048576 := by
  have h : Rows.uptoBulkAll (d :: l) ≤ 1048576 := of_decide_eq_true hk
  simp only [Rows.uptoBulkAll] at h
  omega


/-! The laid variable. -/
def zs64 : List Int := Lib.deBruijn64tab.map fun (n : Nat) => (n : Int)
theorem gTab : Tryd.prog.globalNamed "math/bits.deBruijn64tab" = some 0 := by kernel_rfl
theorem gTabType : (Tryd.prog.globals[0]?).map (·.type) = some 117 := by kernel_rfl
theorem cells64 : Tryd.prog.cellsOf 117 = 64 := by kernel_rfl
theorem cells8 : Tryd.prog.cellsOf 5 = 1 := by kernel_rfl
theorem datum64 : Rows.laid_math_bits_deBruijn64tab (H := Unit) = Lib.tabData .u8 zs64 := by kernel_rfl
theorem getD_cast (l : List Nat) (j : Nat) : (l.map fun (n : Nat) => (n : Int)).getD j 0 = ((l.getD j 0 : Nat) : Int) := by
  simp only [List.getD_eq_getElem?_getD, List.getElem?_map]
  cases l[j]? <;> rfl
theorem tab_of {W : World} (h : laidMetH Tryd.prog [("math/bits.deBruijn64tab", Rows.laid_math_bits_deBruijn64tab)] W) : Tab W := by
  rw [datum64] at h
  have ht : Lib.TabIs Tryd.prog W "math/bits.deBruijn64tab" .u8 zs64 := Lib.tabIs_of_head (rest := []) gTab gTabType Tryd.underlying117 Tryd.underlying5 cells8 cells64 h
  intro j hj
  rw [ht.cell gTab j (by unfold zs64; rw [List.length_map]; exact hj), ← getD_cast]
  rfl
/-- A world that holds the table. -/
noncomputable def laidWorld (os : Os) : World :=
  { World.holding Tryd.prog os ⟨#[], #[], []⟩ with heap := (World.holding Tryd.prog os ⟨#[], #[], []⟩).heap.modify 0 fun
      | .cells _ t frozen => .cells (Lib.deBruijn64tab.map fun (n : Nat) => Value.int .u8 (n : Int)).toArray t frozen
      | o => o }

set_option maxRecDepth 100000 in
theorem djitRaces_contract (H : Type) (enc : TypeId × Value → H) (W : World) (base : Nat) (args : Array Value) (ds gs : List (DataW H)) (before : List MemPlace)
    (hval : ∀ (j : Nat) t v, Tryd.f3.params[j]? = some t → args[j]? = some v → Value.okWide Tryd.prog W .any base t v)
    (hW : DataW.Whole enc Tryd.prog Tryd.f3.params.toList Rows.djitRacesSpec.vars false W args.toList ds gs before) (hk : Rows.uptoSmall H (ds ++ gs) = true) (hTab : Hid (Tab W)) :
    Calls Tryd.prog 3 args W fun e W' => ∃ v, e = .returned v ∧ Rows.djitRacesSpec.post enc Tryd.prog Tryd.f3 false true false false W args v W' := by
  have hW' := hW
  obtain ⟨p, q, hA0, hV, rfl, hfz, hnd⟩ := hW
  have hA : DataW.TrodAll enc Tryd.prog W 0 (fun _ => true) true Tryd.f3.params.toList args.toList ds p := hA0
  rw [Tryd.params3] at hA hval
  obtain ⟨v0, vs0, d0, ds0, p0, q0, hargs, rfl, rfl, h0, r0⟩ := trodAll_cons hA
  obtain ⟨rfl, rfl, rfl⟩ := trodAll_nil r0
  obtain rfl : args = #[v0] := by cases args; simp_all
  obtain ⟨rfl, rfl⟩ := trodVars_none hV
  obtain ⟨a0, len0, cap0, rfl⟩ := okWide_slice Tryd.underlying22 (hval 0 22 v0 rfl rfl)
  have k0 := h0
  have lt0 : ∀ x ∈ p0, x.block < W.heap.size := by obtain ⟨m, hm⟩ := k0; exact DataW.trod_lt m _ _ _ hm
  obtain ⟨fuel, hf⟩ := h0
  obtain ⟨l, hl, hs, hlc, hcm, _, hd, hthr⟩ := open_events_r (by simpa [Value.cells] using hf)
  have hb : len0 ≤ 1048576 := by
    have h := bulk_head hk
    rcases hd with ⟨_, e⟩ | ⟨sp, hd⟩
    · omega
    · simp only at hd
      rw [hd] at h
      have := bulk_slice (l.map fun e => DataW.agg (H := H) [.lit (.int .i64 e.thread), .lit (.int .i64 e.kind), .lit (.int .i64 e.obj), .lit (.int .i64 e.value)]) sp
      rw [List.length_map, hl] at this
      omega
  clear hA0
  refine (djitRaces_walk races_said stamps_said racy_said a0 len0 cap0 l W hl hs hb hthr hTab).mono fun e W' ⟨he, bel⟩ => ?_
  subst he
  exact ⟨_, rfl, _, _, _, [], _, [], hW', trodAll_mk1 (shut_bool Tryd.underlying4 _), (trodAll_cons_mk (Below.trod Tryd.laidOut (by kernel_rfl) (of_decide_eq_true (by kernel_rfl)) k0 bel lt0) trodAll_mk0), rfl, bel.frame _, fun h => by cases h⟩


theorem djitRaces_met (os : Os) : laidMet Tryd.prog Rows.djitRacesUptoRow.laid ((laidWorld os).forCall (fun _ _ => 0) ⟨#[], #[.slice none 0 0], []⟩).memory :=
  laidMet_of_run' 8 (by kernel_rfl) (by kernel_rfl)
theorem djitRaces_reads (os : Os) {H : Type} (enc : TypeId × Value → H) : ∃ places, DataW.whole enc Tryd.prog ((laidWorld os).forCall (fun _ _ => 0) ⟨#[], #[.slice none 0 0], []⟩).memory Tryd.f3.params.toList Rows.djitRacesSpec.vars false ((#[.slice none 0 0] : Array Value)).toList 8 = some ([.nil], [], places) :=
  ⟨[], by kernel_rfl⟩
set_option maxRecDepth 100000 in
theorem djitRaces_lifted (os : Os) (started : os.Started) (H : Type) (enc : TypeId × Value → H) (F : Stop.Interp) :
    ReturnsInHanded {} Tryd.checked os 3 .any ((Rows.OpenSpec.upto Rows.djitRacesSpec).preRow enc Tryd.prog Tryd.f3 Rows.djitRacesUptoRow.domain false Rows.djitRacesUptoRow.laid) (((Rows.OpenSpec.upto Rows.djitRacesSpec).at F).post enc Tryd.prog Tryd.f3 false true false false) := by
  obtain ⟨places, hx⟩ := djitRaces_reads os enc
  refine returnsInHanded_of_row (C := Tryd.checked) (s := Rows.OpenSpec.upto Rows.djitRacesSpec) Tryd.own started (by kernel_rfl) Tryd.func3
    (witness_row_at (enc := enc) (C := Tryd.checked) false (laidWorld os) #[.slice none 0 0] rfl (by kernel_rfl) (by kernel_rfl) (by kernel_rfl)
      (OpenSpec.preRow_of_cond 8 hx (by kernel_rfl) (fun k hk => by cases hk; kernel_rfl) (by kernel_rfl) (djitRaces_met os))) ?_
  intro W base args ds gs before hval hW _ hcond hsz hL _ _
  exact djitRaces_contract H enc W base args ds gs before hval hW (hcond _ rfl) (tab_of hL)
theorem djitRaces_said : Rows.DjitRacesUptoSaid :=
  OpenClaim.holds_of_cond 3 Tryd.f3 rfl rfl rfl rfl rfl rfl rfl ⟨rfl, rfl, rfl, rfl, rfl⟩ rfl rfl rfl rfl rfl (by kernel_rfl) Tryd.func3 (by kernel_rfl)
    (of_decide_eq_true (by kernel_rfl)) (by unfold Func.isWrapper; first | (rw [if_pos (by decide +kernel)]; kernel_rfl) | (rw [if_neg (by decide +kernel)]; exact ⟨rfl, rfl⟩))
    (fun os started H enc _ F => by rw [OpenClaim.pre_eq_preRow]; exact djitRaces_lifted os started H enc F)
theorem djitRaces_plain (f : FuncId) (fn : Func) (hf : Tryd.pinned.checked.prog.funcNamed "weave/weavelaw05.DjitRaces" = some f) (hfn : Tryd.pinned.checked.prog.funcs[f]? = some fn) :
    true = Tryd.pinned.checked.prog.looks [] ∧ ∀ (j : Nat) t, fn.params[j]? = some t → Tryd.pinned.checked.prog.wantsStandIn t = false := by
  obtain rfl : f = 3 := Option.some.inj ((show Tryd.prog.funcNamed "weave/weavelaw05.DjitRaces" = some 3 by kernel_rfl).symm.trans hf) |>.symm
  obtain rfl : fn = Tryd.f3 := (Option.some.inj (Tryd.func3.symm.trans hfn)).symm
  refine ⟨by kernel_rfl, fun j t ht => ?_⟩
  rw [Tryd.params3] at ht
  have h1 : Tryd.prog.wantsStandIn 22 = false := by kernel_rfl
  have hm := Array.mem_of_getElem? ht
  obtain rfl : t = 22 := by simpa using hm
  exact h1
/-- The card. -/
theorem djitRaces_card : Rows.DjitRacesUptoCardSaid :=
  Claim7.holds_tied_plain_at .later [] _ _ _ _ djitRaces_said (fun _ h => by cases h) (by kernel_rfl) (fun _ h => by cases h) djitRacesUpto_row_tie rfl ⟨rfl, rfl⟩ (by kernel_rfl) rfl djitRaces_plain (by kernel_rfl)
end Go.Proofs.YtiaedjnedoemoabDoor
