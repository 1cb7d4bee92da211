import Derived.Test.YtiaedjnedoemoabDoorSetJoin
import Derived.Laws.StructEq
import Derived.MapKept
import Derived.RangeFuncOwn
namespace Go.Proofs.YtiaedjnedoemoabDoor
open Go.RowKit

/-- Two numbers as a struct. -/
def dk (d : Int × Int) : Value := .agg #[.int .i64 d.1, .int .i64 d.2]
theorem dk_inj {d d' : Int × Int} (h : dk d = dk d') : d = d' := by
  simp [dk] at h
  exact Prod.ext h.1 h.2

/-- A type of such keys. -/
structure KeyT (K : TypeId) : Prop where
  check : ∀ (e : Bool) (d : Int × Int) (w : World), (Instr.checkKey e 10000 K (dk d)).run Tryd.prog w = .ok () w
  equal : ∀ (d d' : Int × Int) (w : World), (Op.equal K (dk d) (dk d')).run Tryd.prog w = .ok (d.1 == d'.1 && d.2 == d'.2) w
  under : ∃ fs, Tryd.prog.underlying K = some (.struct fs)

theorem door_key : KeyT 95 := by
  refine ⟨fun e d w => ?_, fun d d' w => ?_, ⟨_, Tryd.underlying95⟩⟩
  · cases e <;> kernel_rfl
  · have u3 := Tryd.underlying3
    have a3 := Tryd.isAgg3
    have z3 := Tryd.sizeOf3
    unfold Op.equal Op.maxDepth dk
    rw [show (10000 : Nat) = 9999 + 1 from rfl, run_equalIn_struct (P := Tryd.prog) w 9999 95 _ _ (by kernel_rfl) (by kernel_rfl)]
    simp only [Program.fieldsOf, Tryd.underlying95]
    go_simp
    by_cases h1 : d.fst = d'.fst <;> by_cases h2 : d.snd = d'.snd <;> simp [h1, h2]
theorem pair_beq (d d' : Int × Int) : (d.1 == d'.1 && d.2 == d'.2) = decide (d = d') := by
  by_cases h : d = d'
  · subst h; simp
  · rw [decide_eq_false h]
    rw [Bool.and_eq_false_iff]
    by_cases h1 : d.1 = d'.1
    · right; exact beq_eq_false_iff_ne.2 (fun h2 => h (Prod.ext h1 h2))
    · left; exact beq_eq_false_iff_ne.2 h1

theorem find_run {K : TypeId} (hK : KeyT K) (d : Int × Int) (w : World) : ∀ (es : List MapEntry) (i : Nat), (∀ e, e ∈ es → ∃ d', e.key = dk d') →
    (∃ j e, es[j]? = some e ∧ e.key = dk d ∧ (Instr.findAsking K (dk d) es i).run Tryd.prog w = .ok (some (i + j, e.val)) w) ∨ ((∀ e, e ∈ es → e.key ≠ dk d) ∧ (Instr.findAsking K (dk d) es i).run Tryd.prog w = .ok none w) := by
  intro es
  induction es with
  | nil => intro i _; exact .inr ⟨(fun e he => by cases he), (by simp [Instr.findAsking])⟩
  | cons e es ih =>
    intro i hk
    obtain ⟨d', hd'⟩ := hk e (by simp)
    have heq := hK.equal d d' w
    rw [pair_beq] at heq
    by_cases h : d = d'
    · subst h
      rw [decide_eq_true rfl] at heq
      exact .inl ⟨0, e, rfl, hd', by simp [Instr.findAsking, hd', heq]⟩
    · rw [decide_eq_false h] at heq
      rcases ih (i + 1) (fun e he => hk e (by simp [he])) with ⟨j, e', h1, h2, h3⟩ | ⟨h1, h2⟩
      · refine .inl ⟨j + 1, e', by simpa using h1, h2, ?_⟩
        simp [Instr.findAsking, hd', heq, h3]; omega
      · refine .inr ⟨fun e' he' => ?_, by simp [Instr.findAsking, hd', heq, h2]⟩
        rcases List.mem_cons.1 he' with rfl | he'
        · rw [hd']; exact fun e => h (dk_inj e).symm
        · exact h1 e' he'

theorem findKey_run {K : TypeId} (hK : KeyT K) (d : Int × Int) (w : World) (es : List MapEntry) (hk : ∀ e, e ∈ es → ∃ d', e.key = dk d') :
    (∃ j e, es[j]? = some e ∧ e.key = dk d ∧ (Instr.findKey K (dk d) es).run Tryd.prog w = .ok (some (j, e.val)) w) ∨ ((∀ e, e ∈ es → e.key ≠ dk d) ∧ (Instr.findKey K (dk d) es).run Tryd.prog w = .ok none w) := by
  obtain ⟨fs, hu⟩ := hK.under
  cases es with
  | nil => exact .inr ⟨(fun e he => by cases he), (by simp [Instr.findKey, run_underlying hu, Instr.findNow])⟩
  | cons e es =>
    obtain ⟨d', hd'⟩ := hk e (by simp)
    have hn : Instr.findNow (.struct fs) (dk d) (e :: es) 0 = none := by simp [Instr.findNow, Instr.sameNow]
    rcases find_run hK d w (e :: es) 0 hk with ⟨j, e', h1, h2, h3⟩ | ⟨h1, h2⟩
    · exact .inl ⟨j, e', h1, h2, by simp [Instr.findKey, run_underlying hu, hn, h3]⟩
    · exact .inr ⟨h1, by simp [Instr.findKey, run_underlying hu, hn, h2]⟩

/-- Block b is a map that holds just these. -/
def DMap (w : World) (b : Nat) (f : Int × Int → Option Value) : Prop :=
  ∃ es clock, w.heap[b]? = some (.map es clock) ∧ (∀ (i : Nat) (e : MapEntry), es[i]? = some e → ∃ d, e.key = dk d ∧ f d = some e.val) ∧ (∀ d v, f d = some v → ∃ (i : Nat) (e : MapEntry), es[i]? = some e ∧ e.key = dk d) ∧
    (∀ (i j : Nat) (e e' : MapEntry), es[i]? = some e → es[j]? = some e' → e.key = e'.key → i = j)

theorem DMap.lt {w : World} {b : Nat} {f : Int × Int → Option Value} (h : DMap w b f) : b < w.heap.size := by
  obtain ⟨es, clock, hb, _⟩ := h; exact (Array.getElem?_eq_some_iff.1 hb).1
theorem DMap.same {w w' : World} {b : Nat} {f : Int × Int → Option Value} (h : DMap w b f) (hb : w'.heap[b]? = w.heap[b]?) : DMap w' b f := by
  obtain ⟨es, clock, h1, h2⟩ := h; exact ⟨es, clock, hb.trans h1, h2⟩
theorem DMap.made (w : World) : DMap (w.alloc (.map #[] 0)) w.heap.size (fun _ => none) :=
  ⟨#[], 0, heap_new_z w _, (fun i e he => by simp at he), (fun d v h => by cases h), (fun i j e e' h => by simp at h)⟩

theorem mem_at {es : Array MapEntry} {e : MapEntry} (h : e ∈ es.toList) : ∃ i : Nat, es[i]? = some e := by
  obtain ⟨i, hi⟩ := List.getElem?_of_mem h
  exact ⟨i, by simpa using hi⟩

theorem DMap.look {w : World} {b : Nat} {f : Int × Int → Option Value} (h : DMap w b f) {T K E : TypeId} (hK : KeyT K) (ht : Tryd.prog.underlying T = some (.map K E)) {z : Value} (hz : (zeroValue E).run Tryd.prog w = .ok z w) (d : Int × Int) :
    (Instr.lookup T (.map (some b)) (dk d) false).run Tryd.prog w = .ok ((f d).getD z) w := by
  obtain ⟨es, clock, hb, h1, h2, _⟩ := h
  rcases findKey_run hK d w es.toList (fun e he => by obtain ⟨i, hi⟩ := mem_at he; obtain ⟨d', hd', _⟩ := h1 i e hi; exact ⟨d', hd'⟩) with ⟨j, e, e1, e2, e3⟩ | ⟨e1, e3⟩
  · obtain ⟨d', hd', hv⟩ := h1 j e (by simpa using e1)
    obtain rfl := dk_inj (hd'.symm.trans e2)
    simp [Instr.lookup, run_underlying ht, MapKept.run_getObj_map hb, hK.check, e3, hv]
  · have hn : f d = none := by
      cases hf : f d with
      | none => rfl
      | some v => obtain ⟨i, e, he, hke⟩ := h2 d v hf; exact absurd hke (e1 e (List.mem_of_getElem? (i := i) (by simpa using he)))
    simp [Instr.lookup, run_underlying ht, MapKept.run_getObj_map hb, hK.check, e3, hn, hz]

theorem stays_dk (d : Int × Int) (w : World) : (Instr.keyThatStays (dk d) (dk d)).run Tryd.prog w = .ok (dk d) w := by
  have h : Instr.sameBits 10000 (dk d) (dk d) = true := by simp [dk, Instr.sameBits]
  simp [Instr.keyThatStays, h]

/-- The map with one more. -/
def putD (f : Int × Int → Option Value) (d : Int × Int) (v : Value) : Int × Int → Option Value := fun x => if x = d then some v else f x
theorem putD_same (f : Int × Int → Option Value) (d : Int × Int) (v : Value) : putD f d v d = some v := by simp [putD]
theorem putD_other {f : Int × Int → Option Value} {d x : Int × Int} (v : Value) (h : x ≠ d) : putD f d v x = f x := by simp [putD, h]

theorem DMap.put {w : World} {b : Nat} {f : Int × Int → Option Value} (h : DMap w b f) {T K E : TypeId} (hK : KeyT K) (ht : Tryd.prog.underlying T = some (.map K E)) (d : Int × Int) (v : Value) :
    ∃ w', (Instr.mapUpdate T (.map (some b)) (dk d) v).run Tryd.prog w = .ok () w' ∧ DMap w' b (putD f d v) ∧ w.grownBy w' (some b) ∧ w'.heap.size = w.heap.size := by
  obtain ⟨es, clock, hb, h1, h2, h3⟩ := h
  have hlt := (Array.getElem?_eq_some_iff.1 hb).1
  have hgrow : ∀ o : Obj, w.grownBy { w with heap := w.heap.setIfInBounds b o } (some b) := fun o =>
    ⟨rfl, rfl, rfl, by simp, fun k hk hne => by simp only [Array.getElem?_setIfInBounds]; rw [if_neg (fun e => hne (by rw [e]))]⟩
  have hset : ∀ o : Obj, ({ w with heap := w.heap.setIfInBounds b o } : World).heap[b]? = some o := fun o => by simp [hlt]
  rcases findKey_run hK d w es.toList (fun e he => by obtain ⟨i, hi⟩ := mem_at he; obtain ⟨d', hd', _⟩ := h1 i e hi; exact ⟨d', hd'⟩) with ⟨j, e, e1, e2, e3⟩ | ⟨e1, e3⟩
  · have hj : es[j]? = some e := by simpa using e1
    have hm : ∀ i x, (es.modify j fun e' => { e' with key := dk d, val := v })[i]? = some x → (i = j ∧ x.key = dk d ∧ x.val = v) ∨ (i ≠ j ∧ es[i]? = some x) := fun i x hx => by
      rw [Array.getElem?_modify] at hx
      by_cases hij : j = i
      · subst hij; rw [if_pos rfl, hj] at hx; cases hx; exact .inl ⟨rfl, rfl, rfl⟩
      · rw [if_neg hij] at hx; exact .inr ⟨fun e => hij e.symm, hx⟩
    have hne : ∀ i x, i ≠ j → es[i]? = some x → x.key ≠ dk d := fun i x hi hx hk => hi (h3 i j x e hx hj (hk.trans e2.symm))
    refine ⟨{ w with heap := w.heap.setIfInBounds b (.map (es.modify j fun e' => { e' with key := dk d, val := v }) clock) }, ?_, ⟨_, _, hset _, fun i x hx => ?_, fun d' v' hf => ?_, fun i i' x x' hx hx' hk => ?_⟩, hgrow _, by simp⟩
    · simp [Instr.mapUpdate, run_underlying ht, MapKept.run_getObj_map hb, hK.check, e3, hj, e2, stays_dk, MapKept.run_setObj_map _ hb, Result.andThen]
    · rcases hm i x hx with ⟨_, hk, hv⟩ | ⟨hi, hx⟩
      · exact ⟨d, hk, by rw [putD_same, hv]⟩
      · obtain ⟨d', hd', hv⟩ := h1 i x hx
        exact ⟨d', hd', by rw [putD_other v (fun e => hne i x hi hx (by rw [hd', e]))]; exact hv⟩
    · by_cases hd : d' = d
      · subst hd
        exact ⟨j, { e with key := dk d', val := v }, by rw [Array.getElem?_modify, if_pos rfl, hj]; rfl, rfl⟩
      · rw [putD_other v hd] at hf
        obtain ⟨i, x, hx, hk⟩ := h2 d' v' hf
        have hi : i ≠ j := fun e' => by subst e'; rw [hj] at hx; cases hx; exact hd (dk_inj (hk.symm.trans e2))
        exact ⟨i, x, by rw [Array.getElem?_modify, if_neg (fun e => hi e.symm)]; exact hx, hk⟩
    · rcases hm i x hx with ⟨hi, hk1, _⟩ | ⟨hi, hx1⟩ <;> rcases hm i' x' hx' with ⟨hi', hk2, _⟩ | ⟨hi', hx2⟩
      · rw [hi, hi']
      · exact absurd (hk.symm.trans hk1) (hne i' x' hi' hx2)
      · exact absurd (hk.trans hk2) (hne i x hi hx1)
      · exact h3 i i' x x' hx1 hx2 hk
  · have hm : ∀ i x, (es.push { key := dk d, val := v, born := clock })[i]? = some x → (i = es.size ∧ x.key = dk d ∧ x.val = v) ∨ (i < es.size ∧ es[i]? = some x) := fun i x hx => by
      rw [Array.getElem?_push] at hx
      by_cases hij : i = es.size
      · rw [if_pos hij] at hx; cases hx; exact .inl ⟨hij, rfl, rfl⟩
      · rw [if_neg hij] at hx; exact .inr ⟨(Array.getElem?_eq_some_iff.1 hx).1, hx⟩
    have hne : ∀ (i : Nat) x, es[i]? = some x → x.key ≠ dk d := fun i x hx => e1 x (List.mem_of_getElem? (i := i) (by simpa using hx))
    refine ⟨{ w with heap := w.heap.setIfInBounds b (.map (es.push { key := dk d, val := v, born := clock }) (clock + 1)) }, ?_, ⟨_, _, hset _, fun i x hx => ?_, fun d' v' hf => ?_, fun i i' x x' hx hx' hk => ?_⟩, hgrow _, by simp⟩
    · simp [Instr.mapUpdate, run_underlying ht, MapKept.run_getObj_map hb, hK.check, e3, MapKept.run_setObj_map _ hb, Result.andThen]
    · rcases hm i x hx with ⟨_, hk, hv⟩ | ⟨_, hx⟩
      · exact ⟨d, hk, by rw [putD_same, hv]⟩
      · obtain ⟨d', hd', hv⟩ := h1 i x hx
        exact ⟨d', hd', by rw [putD_other v (fun e => hne i x hx (by rw [hd', e]))]; exact hv⟩
    · by_cases hd : d' = d
      · subst hd
        exact ⟨es.size, { key := dk d', val := v, born := clock }, by simp, rfl⟩
      · rw [putD_other v hd] at hf
        obtain ⟨i, x, hx, hk⟩ := h2 d' v' hf
        have hi := (Array.getElem?_eq_some_iff.1 hx).1
        exact ⟨i, x, by rw [Array.getElem?_push, if_neg (by omega)]; exact hx, hk⟩
    · rcases hm i x hx with ⟨hi, hk1, _⟩ | ⟨hi, hx1⟩ <;> rcases hm i' x' hx' with ⟨hi', hk2, _⟩ | ⟨hi', hx2⟩
      · rw [hi, hi']
      · exact absurd (hk.symm.trans hk1) (hne i' x' hx2)
      · exact absurd (hk.trans hk2) (hne i x hx1)
      · exact h3 i i' x x' hx1 hx2 hk
end Go.Proofs.YtiaedjnedoemoabDoor
