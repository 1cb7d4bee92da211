import Derived.Test.YtbajfapfpcjenaaGreatDoorFc10
import Derived.Test.YtbajfapfpcjenaaGreatDoorFc14
import Derived.Test.YtbajfapfpcjenaaGreatDoorFc2
namespace Go.Proofs.YtbajfapfpcjenaaGreatDoor
open Go.RowKit Go.Proofs.Ord

theorem acc_key : KeyL pk 72 := by
  refine pair_key Tryz.underlying72 (fun e d w => ?_) (fun d d' w => ?_)
  · cases e <;> kernel_rfl
  · have u3 := Tryz.underlying3
    have a3 := Tryz.isAgg3
    have z3 := Tryz.sizeOf3
    unfold Op.equal Op.maxDepth pk
    rw [show (10000 : Nat) = 9999 + 1 from rfl, run_equalIn_struct (P := Tryz.prog) w 9999 72 _ _ (by kernel_rfl) (by kernel_rfl)]
    simp only [Program.fieldsOf, Tryz.underlying72]
    go_simp
    by_cases h1 : d.fst = d'.fst <;> by_cases h2 : d.snd = d'.snd <;> simp [h1, h2]

/-- The last accesses that count, of the first k events: the map in block Lb, the stamp of each kind in blocks of its own. -/
structure LastW (B : Nat) (Q : Int × Int → Nat → Prop) (w : World) (Lb : Nat) (L : Nat → Ev) (c : Nat → Bool) (k : Nat) : Prop where
  lt : ∀ a x, Q a x → x < w.heap.size
  out : ∀ a x, Q a x → x ≠ Lb
  apart : ∀ a a' x, Q a x → Q a' x → a = a'
  ex : ∃ fl nl, KMap pk w Lb fl nl ∧ (∀ a v, fl a = some v → ∃ b, v = .map (some b) ∧ PutS B (Q a) w b (lastN L c k a)) ∧ (∀ a, fl a = none → ∀ u, lastN L c k a u = 0)

theorem LastW.kept {B : Nat} {Q : Int × Int → Nat → Prop} {w w' : World} {Lb : Nat} {L : Nat → Ev} {c : Nat → Bool} {k : Nat} (h : LastW B Q w Lb L c k) (hs : w.heap.size ≤ w'.heap.size) (hL : w'.heap[Lb]? = w.heap[Lb]?) (hb : ∀ a x, Q a x → w'.heap[x]? = w.heap[x]?) : LastW B Q w' Lb L c k := by
  obtain ⟨h1, h2, h3, fl, nl, h4, h5, h6⟩ := h
  exact ⟨fun a x hx => Nat.lt_of_lt_of_le (h1 a x hx) hs, h2, h3, fl, nl, h4.same hL, fun a v hv => by obtain ⟨b, e, hp⟩ := h5 a v hv; exact ⟨b, e, hp.kept (hb a)⟩, h6⟩
theorem LastW.mapLt {B : Nat} {Q : Int × Int → Nat → Prop} {w : World} {Lb : Nat} {L : Nat → Ev} {c : Nat → Bool} {k : Nat} (h : LastW B Q w Lb L c k) : Lb < w.heap.size := by
  obtain ⟨_, _, _, fl, nl, h4, _⟩ := h; exact h4.lt
theorem LastW.skip {B : Nat} {Q : Int × Int → Nat → Prop} {w : World} {Lb : Nat} {L : Nat → Ev} {c : Nat → Bool} {k : Nat} (h : LastW B Q w Lb L c k) (hc : c k = false) : LastW B Q w Lb L c (k + 1) := by
  obtain ⟨h1, h2, h3, fl, nl, h4, h5, h6⟩ := h
  have e : ∀ a u, lastN L c (k + 1) a u = lastN L c k a u := fun a u => lastN_skip L c k a (fun h => by rw [h.1] at hc; cases hc) u
  exact ⟨h1, h2, h3, fl, nl, h4, fun a v hv => by obtain ⟨b, e', hp⟩ := h5 a v hv; exact ⟨b, e', hp.congr (e a)⟩, fun a ha u => (e a u).trans (h6 a ha u)⟩
theorem zero_stampD (w : World) : (zeroValue 59).run Tryz.prog w = .ok (.map none) w := zero_stamp w
/-- A stamp of last accesses is looked up. -/
theorem LastW.look {B : Nat} {Q : Int × Int → Nat → Prop} {w : World} {Lb : Nat} {L : Nat → Ev} {c : Nat → Bool} {k : Nat} (h : LastW B Q w Lb L c k) (a : Int × Int) : ∃ v, Sem.run Tryz.prog (Instr.lookup 68 (.map (some Lb)) (.agg #[.int .i64 a.1, .int .i64 a.2]) false) w = .ok v w ∧ StampV (fun _ => True) w v (lastN L c k a) := by
  obtain ⟨h1, h2, h3, fl, nl, h4, h5, h6⟩ := h
  refine ⟨_, h4.look acc_key Tryz.underlying68 (zero_stamp w) a, ?_⟩
  cases hf : fl a with
  | none => exact (stampV_nil _ w).congr (h6 a hf)
  | some v => obtain ⟨b, e, hp⟩ := h5 a v hf; rw [Option.getD_some, e]; exact hp.stamp

/-- While markRaces works: the flow behind jf events, the last accesses behind jl, what is told of each event. -/
structure MarkI (g n B0 : Nat) (L : Nat → Ev) (c : Nat → Bool) (jf jl : Nat) (r : Nat → Bool) (w0 : World) (S : Nat → Prop) (Q : Int × Int → Nat → Prop) (w : World) : Prop where
  flow : FlowW S w w0.heap.size L c jf
  sOut : ∀ x, S x → w0.heap.size + 1 < x ∧ ∀ a, ¬ Q a x
  last : LastW w0.heap.size Q w (w0.heap.size + 1) L c jl
  qOut : ∀ a x, Q a x → w0.heap.size + 1 < x
  tells : Tells w B0 g n r
  grew : w0.grownBy w (some g)

theorem MarkI.keep {g n B0 : Nat} {L : Nat → Ev} {c : Nat → Bool} {jf jl : Nat} {r : Nat → Bool} {w0 : World} {S : Nat → Prop} {Q : Int × Int → Nat → Prop} {w w' : World} (hg : g < w0.heap.size) (h : MarkI g n B0 L c jf jl r w0 S Q w) (hb : Below w.heap.size w w') : MarkI g n B0 L c jf jl r w0 S Q w' :=
  ⟨h.flow.below hb, h.sOut, h.last.kept hb.size (hb.block _ h.last.mapLt) (fun a x hx => hb.block x (h.last.lt a x hx)), h.qOut, h.tells.below hb (by have := h.grew.size; omega), grown_below h.grew hb⟩
theorem tells_kept {B g n : Nat} {f : Nat → Bool} {w w' : World} (h : Tells w B g n f) (hb : w'.heap[g]? = w.heap[g]?) : Tells w' B g n f := ownsKept h fun x hx => by
  have : x = g := by simpa [Value.ownBlock] using hx.symm
  rw [this]; exact hb
/-- Behind Next. -/
theorem MarkI.next {g n B0 : Nat} {L : Nat → Ev} {c : Nat → Bool} {jf jl : Nat} {r : Nat → Bool} {w0 : World} {S : Nat → Prop} {Q : Int × Int → Nat → Prop} {w w' : World} (hg : g < w0.heap.size) (h : MarkI g n B0 L c jf jl r w0 S Q w) (hf : FlowW (SN S w w') w' w0.heap.size L c (jf + 1)) (hgr : w.grownBy w' (some w0.heap.size)) : MarkI g n B0 L c (jf + 1) jl r w0 (SN S w w') Q w' := by
  have hl := h.last.mapLt
  have hgz := h.grew.size
  refine ⟨hf, fun x hx => ?_, h.last.kept hgr.size (hgr.block _ hl (by simp)) (fun a x hx => hgr.block x (h.last.lt a x hx) (by have := h.qOut a x hx; simp; omega)), h.qOut, tells_kept h.tells (hgr.block g (by omega) (by simp; omega)), ?_⟩
  · rcases hx with hx | hx
    · exact h.sOut x hx
    · exact ⟨by omega, fun a ha => by have := h.last.lt a x ha; omega⟩
  · exact ⟨hgr.os.trans h.grew.os, hgr.tape.trans h.grew.tape, hgr.output.trans h.grew.output, Nat.le_trans h.grew.size hgr.size, fun x hx hne => (hgr.block x (by omega) (by simp; omega)).trans (h.grew.block x hx hne)⟩
/-- A truth is written. -/
theorem MarkI.set {g n B0 : Nat} {L : Nat → Ev} {c : Nat → Bool} {jf jl : Nat} {r : Nat → Bool} {w0 : World} {S : Nat → Prop} {Q : Int × Int → Nat → Prop} {w : World} (hg : g < w0.heap.size) (h : MarkI g n B0 L c jf jl r w0 S Q w) (j : Nat) (x : Bool) : MarkI g n B0 L c jf jl (fun q => if q = j then x else r q) w0 S Q (w.setCell ⟨g, j, none⟩ (.bool x)) := by
  have hb : ∀ k, k ≠ g → (w.setCell ⟨g, j, none⟩ (.bool x)).heap[k]? = w.heap[k]? := fun k hk => Below.heap_setCell w ⟨g, j, none⟩ _ k hk
  have hz : (w.setCell ⟨g, j, none⟩ (.bool x)).heap.size = w.heap.size := by simp
  have hst := (World.ownsRow.stored h.tells j (.bool x)).2
  refine ⟨h.flow.kept (by omega) (hb _ (by omega)) (fun b hS => hb b (by have := (h.sOut b hS).1; omega)), h.sOut, h.last.kept (by omega) (hb _ (by omega)) (fun a x' hx => hb x' (by have := h.qOut a x' hx; omega)), h.qOut, h.tells.stored j x, grown_then h.grew hst⟩
theorem MarkI.tellsC {g n B0 : Nat} {L : Nat → Ev} {c : Nat → Bool} {jf jl : Nat} {r r' : Nat → Bool} {w0 : World} {S : Nat → Prop} {Q : Int × Int → Nat → Prop} {w : World} (h : MarkI g n B0 L c jf jl r w0 S Q w) (e : ∀ q, q < n → r q = r' q) : MarkI g n B0 L c jf jl r' w0 S Q w :=
  ⟨h.flow, h.sOut, h.last, h.qOut, h.tells.congr e, h.grew⟩

/-- Is one of these accesses ahead of event k not before it? -/
noncomputable def bad (L : Nat → Ev) (c : Nat → Bool) (k : Nat) (a : Int × Int) : Bool := @decide (¬ ∀ u, lastN L c k a u ≤ stampN L c k u) (Classical.propDecidable _)
theorem bad_iff (L : Nat → Ev) (c : Nat → Bool) (k : Nat) (a : Int × Int) {x : Bool} (h : x = true ↔ ∀ u, lastN L c k a u ≤ stampN L c k u) : bad L c k a = !x := by
  unfold bad
  cases x with
  | true => simp [h.1 rfl]
  | false =>
    have : ¬ ∀ u, lastN L c k a u ≤ stampN L c k u := fun h' => by simpa using h.2 h'
    simp [this]
theorem mark_bad (L : Nat → Ev) (c : Nat → Bool) (k : Nat) : (rivalsOf (L k)).any (bad L c k) = mark L c k := by
  rw [Bool.eq_iff_iff, List.any_eq_true, mark_rivals]
  constructor
  · rintro ⟨a, h1, h2⟩; exact ⟨a, h1, by unfold bad at h2; simpa using h2⟩
  · rintro ⟨a, h1, h2⟩; exact ⟨a, h1, by unfold bad; simpa using h2⟩

theorem markI_made (g n B0 : Nat) (L : Nat → Ev) (c : Nat → Bool) (r : Nat → Bool) (w0 : World) (hg : g < w0.heap.size) (ht : Tells w0 B0 g n r) : MarkI g n B0 L c 0 0 r w0 (fun _ => False) (fun _ _ => False) ((w0.alloc (.map #[] 0)).alloc (.map #[] 0)) := by
  have hb1 : Below w0.heap.size w0 (w0.alloc (.map #[] 0)) := (Below.refl _ _).alloc (Nat.le_refl _) _
  have hb2 : Below (w0.alloc (.map #[] 0)).heap.size (w0.alloc (.map #[] 0)) ((w0.alloc (.map #[] 0)).alloc (.map #[] 0)) := (Below.refl _ _).alloc (Nat.le_refl _) _
  have hM := KMap.made (enc := pk) (w0.alloc (.map #[] 0))
  rw [World.size_alloc] at hM
  exact ⟨(flowW_made L c).below hb2, fun x h => h.elim, ⟨fun a x h => h.elim, fun a x h => h.elim, fun a a' x h => h.elim, _, _, hM, (fun a v h => by cases h), fun a _ u => lastN_zero L c a u⟩, fun a x h => h.elim, (ht.below hb1 hg).below hb2 (by simp; omega), below_grown (hb1.trans (hb2.mono (by simp)))⟩

/-- The stamp of an access's own kind: it is there, or a new one is laid there. -/
theorem MarkI.own {g n B0 : Nat} {L : Nat → Ev} {c : Nat → Bool} {jf jl : Nat} {r : Nat → Bool} {w0 : World} {S : Nat → Prop} {Q : Int × Int → Nat → Prop} {w : World} (hg : g < w0.heap.size) (h : MarkI g n B0 L c jf jl r w0 S Q w) (a : Int × Int) :
    (∃ b, Sem.run Tryz.prog (Instr.lookup 68 (.map (some (w0.heap.size + 1))) (.agg #[.int .i64 a.1, .int .i64 a.2]) false) w = .ok (.map (some b)) w ∧ PutS w0.heap.size (Q a) w b (lastN L c jl a)) ∨
    (Sem.run Tryz.prog (Instr.lookup 68 (.map (some (w0.heap.size + 1))) (.agg #[.int .i64 a.1, .int .i64 a.2]) false) w = .ok (.map none) w ∧ ∃ w2 Q', Sem.run Tryz.prog (Instr.mapUpdate 68 (.map (some (w0.heap.size + 1))) (.agg #[.int .i64 a.1, .int .i64 a.2]) (.map (some w.heap.size))) (w.alloc (.map #[] 0)) = .ok () w2 ∧
      MarkI g n B0 L c jf jl r w0 S Q' w2 ∧ Sem.run Tryz.prog (Instr.lookup 68 (.map (some (w0.heap.size + 1))) (.agg #[.int .i64 a.1, .int .i64 a.2]) false) w2 = .ok (.map (some w.heap.size)) w2 ∧ PutS w0.heap.size (Q' a) w2 w.heap.size (lastN L c jl a) ∧ (w.alloc (.map #[] 0)).grownBy w2 (some (w0.heap.size + 1)) ∧ ∀ a' x, Q' a' x → Q a' x ∨ x = w.heap.size) := by
  have hml := h.last.mapLt
  obtain ⟨h1, h2, h3, fl, nl, h4, h5, h6⟩ := h.last
  have hlk := h4.look acc_key Tryz.underlying68 (zero_stamp w) a
  cases hf : fl a with
  | some v =>
    obtain ⟨b, rfl, hp⟩ := h5 a v hf
    rw [hf] at hlk
    exact .inl ⟨b, hlk, hp⟩
  | none =>
    rw [hf] at hlk
    right
    have hb1 : Below w.heap.size w (w.alloc (.map #[] 0)) := (Below.refl _ _).alloc (Nat.le_refl _) _
    have hI1 := h.keep hg hb1
    obtain ⟨w2, hr, hM2, hg2, hz2⟩ := (h4.same (hb1.block _ h4.lt)).put acc_key Tryz.underlying68 a (.map (some w.heap.size))
    have hz1 : (w.alloc (.map #[] 0)).heap.size = w.heap.size + 1 := by simp
    have hk2 : ∀ x, x < w.heap.size + 1 → x ≠ w0.heap.size + 1 → w2.heap[x]? = (w.alloc (.map #[] 0)).heap[x]? := fun x hx hne => hg2.block x (by omega) (by simpa using hne)
    have hpm : PutS w0.heap.size (fun x => x = w.heap.size) w2 w.heap.size (lastN L c jl a) := ((putS_made w0.heap.size w).kept fun x hx => by subst hx; exact hk2 _ (by omega) (by omega)).congr (h6 a hf)
    have hgz := h.grew.size
    refine ⟨hlk, w2, fun a' x => Q a' x ∨ (a' = a ∧ x = w.heap.size), hr, ?_, ?_, hpm.mono fun x hx => .inr ⟨rfl, hx⟩, hg2, fun a' x hx => hx.imp id fun h => h.2⟩
    · refine ⟨hI1.flow.kept (by omega) (hk2 _ (by omega) (by omega)) (fun b hS => hk2 b (by have := h.flow.lt b hS; omega) (by have := (h.sOut b hS).1; omega)), fun x hx => ⟨(h.sOut x hx).1, fun a' ha' => ?_⟩, ⟨fun a' x hx => ?_, fun a' x hx => ?_, fun a' a'' x hx hx' => ?_, _, _, hM2, fun a' v hv => ?_, fun a' hv u => ?_⟩, fun a' x hx => ?_, tells_kept hI1.tells (hk2 g (by omega) (by omega)), ?_⟩
      · rcases ha' with ha' | ⟨_, rfl⟩
        · exact (h.sOut x hx).2 a' ha'
        · have := h.flow.lt _ hx; omega
      · rcases hx with hx | ⟨_, rfl⟩
        · have := h1 a' x hx; omega
        · omega
      · rcases hx with hx | ⟨_, rfl⟩
        · exact h2 a' x hx
        · omega
      · rcases hx with hx | ⟨e1, hx1⟩ <;> rcases hx' with hx' | ⟨e2, hx2⟩
        · exact h3 a' a'' x hx hx'
        · have := h1 a' x hx; omega
        · have := h1 a'' x hx'; omega
        · exact e1.trans e2.symm
      · by_cases e : a' = a
        · subst e; rw [putK_same] at hv; cases hv
          exact ⟨_, rfl, hpm.mono fun x hx => .inr ⟨rfl, hx⟩⟩
        · rw [putK_other _ e] at hv
          obtain ⟨b, e', hp⟩ := h5 a' v hv
          exact ⟨b, e', (hp.kept (w' := w2) fun x hx => (hk2 x (by have := h1 a' x hx; omega) (h2 a' x hx)).trans (hb1.block x (h1 a' x hx))).mono fun x hx => .inl hx⟩
      · by_cases e : a' = a
        · subst e; rw [putK_same] at hv; cases hv
        · rw [putK_other _ e] at hv; exact h6 a' hv u
      · rcases hx with hx | ⟨_, rfl⟩
        · exact h.qOut a' x hx
        · omega
      · exact ⟨hg2.os.trans hI1.grew.os, hg2.tape.trans hI1.grew.tape, hg2.output.trans hI1.grew.output, by have := hI1.grew.size; omega, fun x hx hne => (hg2.block x (by omega) (by simp; omega)).trans (hI1.grew.block x hx hne)⟩
    · have := hM2.look acc_key Tryz.underlying68 (zero_stamp w2) a
      rw [putK_same] at this
      exact this

/-- Behind Put. -/
theorem MarkI.put {g n B0 : Nat} {L : Nat → Ev} {c : Nat → Bool} {j : Nat} {r : Nat → Bool} {w0 : World} {S : Nat → Prop} {Q : Int × Int → Nat → Prop} {w w' : World} {b : Nat} {a : Int × Int} (hg : g < w0.heap.size) (h : MarkI g n B0 L c (j + 1) j r w0 S Q w) (hA : Acc L c a j)
    (hlk : Sem.run Tryz.prog (Instr.lookup 68 (.map (some (w0.heap.size + 1))) (.agg #[.int .i64 a.1, .int .i64 a.2]) false) w = .ok (.map (some b)) w) (hp : PutS w0.heap.size (fun x => Q a x ∨ (w.heap.size ≤ x ∧ x < w'.heap.size)) w' b (fun u => if u = (L j).thread then stampN L c j (L j).thread else lastN L c j a u)) (hch : Chg (Q a) w w') :
    ∃ Q', MarkI g n B0 L c (j + 1) (j + 1) r w0 S Q' w' := by
  have hml := h.last.mapLt
  obtain ⟨h1, h2, h3, fl, nl, h4, h5, h6⟩ := h.last
  have hgz := h.grew.size
  have hcz := hch.size
  have hk : ∀ x, x < w.heap.size → ¬ Q a x → w'.heap[x]? = w.heap[x]? := hch.block
  have hfa : fl a = some (.map (some b)) := by
    have e1 : Sem.run Tryz.prog (Instr.lookup 68 (.map (some (w0.heap.size + 1))) (.agg #[.int .i64 a.1, .int .i64 a.2]) false) w = .ok ((fl a).getD (.map none)) w := h4.look acc_key Tryz.underlying68 (zero_stamp w) a
    rw [hlk] at e1
    cases hf : fl a with
    | none => rw [hf] at e1; simp at e1
    | some v => rw [hf] at e1; simp at e1; rw [e1]
  have e1 : ∀ u, lastN L c (j + 1) a u = if u = (L j).thread then stampN L c j (L j).thread else lastN L c j a u := fun u => by
    rw [lastN_put L c j a hA u]
    by_cases e : u = (L j).thread
    · rw [if_pos e, if_pos e, e]
    · rw [if_neg e, if_neg e]
  have e2 : ∀ a', a' ≠ a → ∀ u, lastN L c (j + 1) a' u = lastN L c j a' u := fun a' hne u => lastN_skip L c j a' (fun hA' => hne (Prod.ext (hA'.2.1.symm.trans hA.2.1) (hA'.2.2.symm.trans hA.2.2))) u
  refine ⟨fun a' x => Q a' x ∨ (a' = a ∧ w.heap.size ≤ x ∧ x < w'.heap.size), h.flow.kept hcz (hk _ (by omega) (fun hq => by have := h.qOut a _ hq; omega)) (fun x hS => hk x (h.flow.lt x hS) ((h.sOut x hS).2 a)), fun x hx => ⟨(h.sOut x hx).1, fun a' ha' => ?_⟩, ⟨fun a' x hx => ?_, fun a' x hx => ?_, fun a' a'' x hx hx' => ?_, fl, nl, h4.same (hk _ h4.lt (fun hq => h2 a _ hq rfl)), fun a' v hv => ?_, fun a' hv u => ?_⟩, fun a' x hx => ?_, tells_kept h.tells (hk g (by omega) (fun hq => by have := h.qOut a _ hq; omega)), ?_⟩
  · rcases ha' with ha' | ⟨_, h7, _⟩
    · exact (h.sOut x hx).2 a' ha'
    · have := h.flow.lt _ hx; omega
  · rcases hx with hx | ⟨_, _, h7⟩
    · have := h1 a' x hx; omega
    · exact h7
  · rcases hx with hx | ⟨_, h7, _⟩
    · exact h2 a' x hx
    · omega
  · rcases hx with hx | ⟨rfl, h7, _⟩ <;> rcases hx' with hx' | ⟨e, h8, _⟩
    · exact h3 a' a'' x hx hx'
    · have := h1 a' _ hx; omega
    · have := h1 a'' _ hx'; omega
    · exact e.symm
  · by_cases e : a' = a
    · subst e; rw [hfa] at hv; cases hv
      exact ⟨_, rfl, (hp.congr e1).mono fun x hx => hx.imp id fun h => ⟨rfl, h⟩⟩
    · obtain ⟨b', e', hp'⟩ := h5 a' v hv
      exact ⟨b', e', ((hp'.kept (w' := w') fun x hx => hk x (h1 a' x hx) (fun hq => e (h3 a' a x hx hq))).congr (e2 a' e)).mono fun x hx => .inl hx⟩
  · by_cases e : a' = a
    · subst e; rw [hfa] at hv; cases hv
    · rw [e2 a' e u]; exact h6 a' hv u
  · rcases hx with hx | ⟨_, h7, _⟩
    · exact h.qOut a' x hx
    · omega
  · exact ⟨hch.os.trans h.grew.os, hch.tape.trans h.grew.tape, hch.output.trans h.grew.output, by omega, fun x hx hne => (hk x (by omega) (fun hq => by have := h.qOut a _ hq; omega)).trans (h.grew.block x hx hne)⟩
theorem MarkI.skipL {g n B0 : Nat} {L : Nat → Ev} {c : Nat → Bool} {j : Nat} {r : Nat → Bool} {w0 : World} {S : Nat → Prop} {Q : Int × Int → Nat → Prop} {w : World} (h : MarkI g n B0 L c (j + 1) j r w0 S Q w) (hc : c j = false) : MarkI g n B0 L c (j + 1) (j + 1) r w0 S Q w :=
  ⟨h.flow, h.sOut, h.last.skip hc, h.qOut, h.tells, h.grew⟩
theorem LastW.lookSame {B : Nat} {Q : Int × Int → Nat → Prop} {w w' : World} {Lb : Nat} {L : Nat → Ev} {c : Nat → Bool} {k : Nat} (h : LastW B Q w Lb L c k) {a : Int × Int} {v : Value} (hlk : Sem.run Tryz.prog (Instr.lookup 68 (.map (some Lb)) (.agg #[.int .i64 a.1, .int .i64 a.2]) false) w = .ok v w) (hb : w'.heap[Lb]? = w.heap[Lb]?) :
    Sem.run Tryz.prog (Instr.lookup 68 (.map (some Lb)) (.agg #[.int .i64 a.1, .int .i64 a.2]) false) w' = .ok v w' := by
  obtain ⟨h1, h2, h3, fl, nl, h4, h5, h6⟩ := h
  have e1 : Sem.run Tryz.prog (Instr.lookup 68 (.map (some Lb)) (.agg #[.int .i64 a.1, .int .i64 a.2]) false) w = .ok ((fl a).getD (.map none)) w := h4.look acc_key Tryz.underlying68 (zero_stamp w) a
  have e2 : Sem.run Tryz.prog (Instr.lookup 68 (.map (some Lb)) (.agg #[.int .i64 a.1, .int .i64 a.2]) false) w' = .ok ((fl a).getD (.map none)) w' := (h4.same hb).look acc_key Tryz.underlying68 (zero_stamp w') a
  rw [hlk] at e1
  have e3 : v = (fl a).getD (.map none) := by simpa using e1
  rw [e2, e3]
end Go.Proofs.YtbajfapfpcjenaaGreatDoor
