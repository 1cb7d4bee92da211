import Derived.Test.YtlpdomgedaockaaGreatDoorOo0
import Derived.Laws.StructEq
import Derived.MapKept
import Derived.RangeFuncOwn
set_option linter.unusedVariables false
set_option linter.unusedSimpArgs false
namespace Go.Proofs.YtlpdomgedaockaaGreatDoor
open Go.RowKit
def dk (d : Int × Int) : Value := .agg #[.int .i64 d.1, .int .i64 d.2]
theorem dk_inj {d d' : Int × Int} (h : dk d = dk d') : d = d' := by
  simp [dk] at h
  exact Prod.ext h.1 h.2
structure KeyT (K : TypeId) : Prop where
  check : ∀ (e : Bool) (d : Int × Int) (w : World), (Instr.checkKey e 10000 K (dk d)).run Tryz.prog w = .ok () w
  equal : ∀ (d d' : Int × Int) (w : World), (Op.equal K (dk d) (dk d')).run Tryz.prog w = .ok (d.1 == d'.1 && d.2 == d'.2) w
  under : ∃ fs, Tryz.prog.underlying K = some (.struct fs)
theorem door_key : KeyT 161 := by
  refine ⟨fun e d w => ?_, fun d d' w => ?_, ⟨_, Tryz.underlying161⟩⟩
  · cases e <;> kernel_rfl
  · have u3 := Tryz.underlying3
    have a3 := Tryz.isAgg3
    have z3 := Tryz.sizeOf3
    unfold Op.equal Op.maxDepth dk
    rw [show (10000 : Nat) = 9999 + 1 from rfl, run_equalIn_struct (P := Tryz.prog) w 9999 161 _ _ (by kernel_rfl) (by kernel_rfl)]
    simp only [Program.fieldsOf, Tryz.underlying161]
    go_simp
    by_cases h1 : d.fst = d'.fst <;> by_cases h2 : d.snd = d'.snd <;> simp [h1, h2]
theorem pair_beq (d d' : Int × Int) : (d.1 == d'.1 && d.2 == d'.2) = decide (d = d') := by
  by_cases h : d = d'
  · subst h; simp
  · rw [decide_eq_false h]
    rw [Bool.and_eq_false_iff]
    by_cases h1 : d.1 = d'.1
    · right; exact beq_eq_false_iff_ne.2 (fun h2 => h (Prod.ext h1 h2))
    · left; exact beq_eq_false_iff_ne.2 h1
theorem find_run {K : TypeId} (hK : KeyT K) (d : Int × Int) (w : World) : ∀ (es : List MapEntry) (i : Nat), (∀ e, e ∈ es → ∃ d', e.key = dk d') →
    (∃ j e, es[j]? = some e ∧ e.key = dk d ∧ (Instr.findAsking K (dk d) es i).run Tryz.prog w = .ok (some (i + j, e.val)) w) ∨ ((∀ e, e ∈ es → e.key ≠ dk d) ∧ (Instr.findAsking K (dk d) es i).run Tryz.prog w = .ok none w) := by
  intro es
  induction es with
  | nil => intro i _; exact .inr ⟨(fun e he => by cases he), (by simp [Instr.findAsking])⟩
  | cons e es ih =>
    intro i hk
    obtain ⟨d', hd'⟩ := hk e (by simp)
    have heq := hK.equal d d' w
    rw [pair_beq] at heq
    by_cases h : d = d'
    · subst h
      rw [decide_eq_true rfl] at heq
      exact .inl ⟨0, e, rfl, hd', by simp [Instr.findAsking, hd', heq]⟩
    · rw [decide_eq_false h] at heq
      rcases ih (i + 1) (fun e he => hk e (by simp [he])) with ⟨j, e', h1, h2, h3⟩ | ⟨h1, h2⟩
      · refine .inl ⟨j + 1, e', by simpa using h1, h2, ?_⟩
        simp [Instr.findAsking, hd', heq, h3]; omega
      · refine .inr ⟨fun e' he' => ?_, by simp [Instr.findAsking, hd', heq, h2]⟩
        rcases List.mem_cons.1 he' with rfl | he'
        · rw [hd']; exact fun e => h (dk_inj e).symm
        · exact h1 e' he'
theorem findKey_run {K : TypeId} (hK : KeyT K) (d : Int × Int) (w : World) (es : List MapEntry) (hk : ∀ e, e ∈ es → ∃ d', e.key = dk d') :
    (∃ j e, es[j]? = some e ∧ e.key = dk d ∧ (Instr.findKey K (dk d) es).run Tryz.prog w = .ok (some (j, e.val)) w) ∨ ((∀ e, e ∈ es → e.key ≠ dk d) ∧ (Instr.findKey K (dk d) es).run Tryz.prog w = .ok none w) := by
  obtain ⟨fs, hu⟩ := hK.under
  cases es with
  | nil => exact .inr ⟨(fun e he => by cases he), (by simp [Instr.findKey, run_underlying hu, Instr.findNow])⟩
  | cons e es =>
    obtain ⟨d', hd'⟩ := hk e (by simp)
    have hn : Instr.findNow (.struct fs) (dk d) (e :: es) 0 = none := by simp [Instr.findNow, Instr.sameNow]
    rcases find_run hK d w (e :: es) 0 hk with ⟨j, e', h1, h2, h3⟩ | ⟨h1, h2⟩
    · exact .inl ⟨j, e', h1, h2, by simp [Instr.findKey, run_underlying hu, hn, h3]⟩
    · exact .inr ⟨h1, by simp [Instr.findKey, run_underlying hu, hn, h2]⟩
def DMap (w : World) (b : Nat) (f : Int × Int → Option Value) : Prop :=
  ∃ es clock, w.heap[b]? = some (.map es clock) ∧ (∀ (i : Nat) (e : MapEntry), es[i]? = some e → ∃ d, e.key = dk d ∧ f d = some e.val) ∧ (∀ d v, f d = some v → ∃ (i : Nat) (e : MapEntry), es[i]? = some e ∧ e.key = dk d) ∧
    (∀ (i j : Nat) (e e' : MapEntry), es[i]? = some e → es[j]? = some e' → e.key = e'.key → i = j)
theorem DMap.lt {w : World} {b : Nat} {f : Int × Int → Option Value} (h : DMap w b f) : b < w.heap.size := by
  obtain ⟨es, clock, hb, _⟩ := h; exact (Array.getElem?_eq_some_iff.1 hb).1
theorem DMap.same {w w' : World} {b : Nat} {f : Int × Int → Option Value} (h : DMap w b f) (hb : w'.heap[b]? = w.heap[b]?) : DMap w' b f := by
  obtain ⟨es, clock, h1, h2⟩ := h; exact ⟨es, clock, hb.trans h1, h2⟩
theorem DMap.made (w : World) : DMap (w.alloc (.map #[] 0)) w.heap.size (fun _ => none) :=
  ⟨#[], 0, heap_new_z w _, (fun i e he => by simp at he), (fun d v h => by cases h), (fun i j e e' h => by simp at h)⟩
theorem mem_at {es : Array MapEntry} {e : MapEntry} (h : e ∈ es.toList) : ∃ i : Nat, es[i]? = some e := by
  obtain ⟨i, hi⟩ := List.getElem?_of_mem h
  exact ⟨i, by simpa using hi⟩
theorem DMap.look {w : World} {b : Nat} {f : Int × Int → Option Value} (h : DMap w b f) {T K E : TypeId} (hK : KeyT K) (ht : Tryz.prog.underlying T = some (.map K E)) {z : Value} (hz : (zeroValue E).run Tryz.prog w = .ok z w) (d : Int × Int) :
    (Instr.lookup T (.map (some b)) (dk d) false).run Tryz.prog w = .ok ((f d).getD z) w := by
  obtain ⟨es, clock, hb, h1, h2, _⟩ := h
  rcases findKey_run hK d w es.toList (fun e he => by obtain ⟨i, hi⟩ := mem_at he; obtain ⟨d', hd', _⟩ := h1 i e hi; exact ⟨d', hd'⟩) with ⟨j, e, e1, e2, e3⟩ | ⟨e1, e3⟩
  · obtain ⟨d', hd', hv⟩ := h1 j e (by simpa using e1)
    obtain rfl := dk_inj (hd'.symm.trans e2)
    simp [Instr.lookup, run_underlying ht, MapKept.run_getObj_map hb, hK.check, e3, hv]
  · have hn : f d = none := by
      cases hf : f d with
      | none => rfl
      | some v => obtain ⟨i, e, he, hke⟩ := h2 d v hf; exact absurd hke (e1 e (List.mem_of_getElem? (i := i) (by simpa using he)))
    simp [Instr.lookup, run_underlying ht, MapKept.run_getObj_map hb, hK.check, e3, hn, hz]
theorem stays_dk (d : Int × Int) (w : World) : (Instr.keyThatStays (dk d) (dk d)).run Tryz.prog w = .ok (dk d) w := by
  have h : Instr.sameBits 10000 (dk d) (dk d) = true := by simp [dk, Instr.sameBits]
  simp [Instr.keyThatStays, h]
def putD (f : Int × Int → Option Value) (d : Int × Int) (v : Value) : Int × Int → Option Value := fun x => if x = d then some v else f x
theorem putD_same (f : Int × Int → Option Value) (d : Int × Int) (v : Value) : putD f d v d = some v := by simp [putD]
theorem putD_other {f : Int × Int → Option Value} {d x : Int × Int} (v : Value) (h : x ≠ d) : putD f d v x = f x := by simp [putD, h]
theorem DMap.put {w : World} {b : Nat} {f : Int × Int → Option Value} (h : DMap w b f) {T K E : TypeId} (hK : KeyT K) (ht : Tryz.prog.underlying T = some (.map K E)) (d : Int × Int) (v : Value) :
    ∃ w', (Instr.mapUpdate T (.map (some b)) (dk d) v).run Tryz.prog w = .ok () w' ∧ DMap w' b (putD f d v) ∧ w.grownBy w' (some b) ∧ w'.heap.size = w.heap.size := by
  obtain ⟨es, clock, hb, h1, h2, h3⟩ := h
  have hlt := (Array.getElem?_eq_some_iff.1 hb).1
  have hgrow : ∀ o : Obj, w.grownBy { w with heap := w.heap.setIfInBounds b o } (some b) := fun o =>
    ⟨rfl, rfl, rfl, by simp, fun k hk hne => by simp only [Array.getElem?_setIfInBounds]; rw [if_neg (fun e => hne (by rw [e]))]⟩
  have hset : ∀ o : Obj, ({ w with heap := w.heap.setIfInBounds b o } : World).heap[b]? = some o := fun o => by simp [hlt]
  rcases findKey_run hK d w es.toList (fun e he => by obtain ⟨i, hi⟩ := mem_at he; obtain ⟨d', hd', _⟩ := h1 i e hi; exact ⟨d', hd'⟩) with ⟨j, e, e1, e2, e3⟩ | ⟨e1, e3⟩
  · have hj : es[j]? = some e := by simpa using e1
    have hm : ∀ i x, (es.modify j fun e' => { e' with key := dk d, val := v })[i]? = some x → (i = j ∧ x.key = dk d ∧ x.val = v) ∨ (i ≠ j ∧ es[i]? = some x) := fun i x hx => by
      rw [Array.getElem?_modify] at hx
      by_cases hij : j = i
      · subst hij; rw [if_pos rfl, hj] at hx; cases hx; exact .inl ⟨rfl, rfl, rfl⟩
      · rw [if_neg hij] at hx; exact .inr ⟨fun e => hij e.symm, hx⟩
    have hne : ∀ i x, i ≠ j → es[i]? = some x → x.key ≠ dk d := fun i x hi hx hk => hi (h3 i j x e hx hj (hk.trans e2.symm))
    refine ⟨{ w with heap := w.heap.setIfInBounds b (.map (es.modify j fun e' => { e' with key := dk d, val := v }) clock) }, ?_, ⟨_, _, hset _, fun i x hx => ?_, fun d' v' hf => ?_, fun i i' x x' hx hx' hk => ?_⟩, hgrow _, by simp⟩
    · simp [Instr.mapUpdate, run_underlying ht, MapKept.run_getObj_map hb, hK.check, e3, hj, e2, stays_dk, MapKept.run_setObj_map _ hb, Result.andThen]
    · rcases hm i x hx with ⟨_, hk, hv⟩ | ⟨hi, hx⟩
      · exact ⟨d, hk, by rw [putD_same, hv]⟩
      · obtain ⟨d', hd', hv⟩ := h1 i x hx
        exact ⟨d', hd', by rw [putD_other v (fun e => hne i x hi hx (by rw [hd', e]))]; exact hv⟩
    · by_cases hd : d' = d
      · subst hd
        exact ⟨j, { e with key := dk d', val := v }, by rw [Array.getElem?_modify, if_pos rfl, hj]; rfl, rfl⟩
      · rw [putD_other v hd] at hf
        obtain ⟨i, x, hx, hk⟩ := h2 d' v' hf
        have hi : i ≠ j := fun e' => by subst e'; rw [hj] at hx; cases hx; exact hd (dk_inj (hk.symm.trans e2))
        exact ⟨i, x, by rw [Array.getElem?_modify, if_neg (fun e => hi e.symm)]; exact hx, hk⟩
    · rcases hm i x hx with ⟨hi, hk1, _⟩ | ⟨hi, hx1⟩ <;> rcases hm i' x' hx' with ⟨hi', hk2, _⟩ | ⟨hi', hx2⟩
      · rw [hi, hi']
      · exact absurd (hk.symm.trans hk1) (hne i' x' hi' hx2)
      · exact absurd (hk.trans hk2) (hne i x hi hx1)
      · exact h3 i i' x x' hx1 hx2 hk
  · have hm : ∀ i x, (es.push { key := dk d, val := v, born := clock })[i]? = some x → (i = es.size ∧ x.key = dk d ∧ x.val = v) ∨ (i < es.size ∧ es[i]? = some x) := fun i x hx => by
      rw [Array.getElem?_push] at hx
      by_cases hij : i = es.size
      · rw [if_pos hij] at hx; cases hx; exact .inl ⟨hij, rfl, rfl⟩
      · rw [if_neg hij] at hx; exact .inr ⟨(Array.getElem?_eq_some_iff.1 hx).1, hx⟩
    have hne : ∀ (i : Nat) x, es[i]? = some x → x.key ≠ dk d := fun i x hx => e1 x (List.mem_of_getElem? (i := i) (by simpa using hx))
    refine ⟨{ w with heap := w.heap.setIfInBounds b (.map (es.push { key := dk d, val := v, born := clock }) (clock + 1)) }, ?_, ⟨_, _, hset _, fun i x hx => ?_, fun d' v' hf => ?_, fun i i' x x' hx hx' hk => ?_⟩, hgrow _, by simp⟩
    · simp [Instr.mapUpdate, run_underlying ht, MapKept.run_getObj_map hb, hK.check, e3, MapKept.run_setObj_map _ hb, Result.andThen]
    · rcases hm i x hx with ⟨_, hk, hv⟩ | ⟨_, hx⟩
      · exact ⟨d, hk, by rw [putD_same, hv]⟩
      · obtain ⟨d', hd', hv⟩ := h1 i x hx
        exact ⟨d', hd', by rw [putD_other v (fun e => hne i x hx (by rw [hd', e]))]; exact hv⟩
    · by_cases hd : d' = d
      · subst hd
        exact ⟨es.size, { key := dk d', val := v, born := clock }, by simp, rfl⟩
      · rw [putD_other v hd] at hf
        obtain ⟨i, x, hx, hk⟩ := h2 d' v' hf
        have hi := (Array.getElem?_eq_some_iff.1 hx).1
        exact ⟨i, x, by rw [Array.getElem?_push, if_neg (by omega)]; exact hx, hk⟩
    · rcases hm i x hx with ⟨hi, hk1, _⟩ | ⟨hi, hx1⟩ <;> rcases hm i' x' hx' with ⟨hi', hk2, _⟩ | ⟨hi', hx2⟩
      · rw [hi, hi']
      · exact absurd (hk.symm.trans hk1) (hne i' x' hx2)
      · exact absurd (hk.trans hk2) (hne i x hx1)
      · exact h3 i i' x x' hx1 hx2 hk
end Go.Proofs.YtlpdomgedaockaaGreatDoor
namespace Go.Proofs.YtlpdomgedaockaaGreatDoor
open Go.RowKit Go.Proofs.Ord
def inDoors (e : Ev) : List (Int × Int) := (3, e.thread) :: (if e.kind = 5 then [(1, e.obj)] else if e.kind = 3 then [(2, e.obj)] else if e.kind = 8 then [(0, e.obj)] else [])
def outDoors (e : Ev) : List (Int × Int) := if e.kind = 6 then [(1, e.obj)] else if e.kind = 4 then [(2, e.obj)] else if e.kind = 7 then [(3, e.obj)] else []
def dcells (ds : List (Int × Int)) : List Value := ds.flatMap fun d => [.int .i64 d.1, .int .i64 d.2]
def DoorS (w : World) (a : Option Addr) (ds : List (Int × Int)) : Prop :=
  ∀ i, i < ds.length → ∃ b, a = some ⟨b, 0, none⟩ ∧ b < w.heap.size ∧ w.cell? ⟨b, 2 * i, none⟩ = some (.int .i64 (ds.getD i (0, 0)).1) ∧ w.cell? ⟨b, 2 * i + 1, none⟩ = some (.int .i64 (ds.getD i (0, 0)).2)
theorem DoorS.below {w w' : World} {a : Option Addr} {ds : List (Int × Int)} (h : DoorS w a ds) (hb : Below w.heap.size w w') : DoorS w' a ds := fun i hi => by
  obtain ⟨b, e, hlt, h1, h2⟩ := h i hi
  exact ⟨b, e, Nat.lt_of_lt_of_le hlt hb.size, (hb.cell (p := ⟨b, 2 * i, none⟩) hlt).trans h1, (hb.cell (p := ⟨b, 2 * i + 1, none⟩) hlt).trans h2⟩
theorem dcells_at (ds : List (Int × Int)) : ∀ i, i < ds.length → (dcells ds)[2 * i]? = some (.int .i64 (ds.getD i (0, 0)).1) ∧ (dcells ds)[2 * i + 1]? = some (.int .i64 (ds.getD i (0, 0)).2) := by
  induction ds with
  | nil => intro i hi; cases hi
  | cons d ds ih =>
    intro i hi
    cases i with
    | zero => exact ⟨rfl, rfl⟩
    | succ i =>
      have h := ih i (by simpa using hi)
      have e1 : 2 * (i + 1) = 2 * i + 1 + 1 := by omega
      have e2 : 2 * (i + 1) + 1 = 2 * i + 1 + 1 + 1 := by omega
      rw [e2, e1]
      simp only [dcells, List.flatMap_cons, List.cons_append, List.nil_append, List.getElem?_cons_succ, List.getD_cons_succ]
      exact h
theorem dcells_len (ds : List (Int × Int)) : (dcells ds).length = ds.length * 2 := by
  induction ds with
  | nil => rfl
  | cons d ds ih => simp only [dcells, List.flatMap_cons, List.length_append, List.length_cons, List.length_nil] at ih ⊢; omega
theorem DoorS.of_owns {B : Nat} {w : World} {v : Value} {n : Nat} {e : TypeId} {ds : List (Int × Int)} (h : w.ownsRow B e 2 v n (dcells ds)) : ∃ a cap, v = .slice a n cap ∧ n = ds.length ∧ n ≤ cap ∧ cap ≤ 9223372036854775807 ∧ DoorS w a ds := by
  have hl : n = ds.length := by have := h.1; rw [dcells_len] at this; omega
  rcases h.2 with ⟨rfl, h0⟩ | ⟨g, cap, cur, rfl, hB, hg, hc, hm, _, _⟩
  · exact ⟨none, 0, by rw [h0], hl, by omega, by omega, fun i hi => absurd hi (by omega)⟩
  · refine ⟨_, cap, rfl, hl, hc, hm, fun i hi => ⟨g, rfl, (Array.getElem?_eq_some_iff.1 hg).1, ?_, ?_⟩⟩
    · have := h.cells (g := g) rfl (2 * i) _ (dcells_at ds i hi).1
      by_cases h0 : 2 * i = 0
      · rw [h0] at this ⊢; simpa [Addr.add] using this
      · simpa [Addr.add, h0] using this
    · have := h.cells (g := g) rfl (2 * i + 1) _ (dcells_at ds i hi).2
      simpa [Addr.add] using this
theorem Tryz.infoD : (Tryz.prog.info? 161).map (fun i => (i.zero, i.size, i.bytes)) = some (some (.agg #[.int .i64 0, .int .i64 0]), 2, 16) := by kernel_rfl
theorem door_made (w : World) (B : Nat) (hB : B ≤ w.heap.size) (d : Int × Int) : (w.alloc (.cells #[.int .i64 d.1, .int .i64 d.2] 161)).ownsRow B 161 2 (.slice (some ⟨w.heap.size, 0, none⟩) 1 1) 1 (dcells [d]) :=
  ⟨by rw [dcells_len]; rfl, .inr ⟨w.heap.size, 1, _, rfl, hB, heap_new_z w _, Nat.le_refl _, by unfold maxLen; omega, rfl, rfl⟩⟩
theorem door_two_new (w : World) (x y : Value) (t : Nat) : ∀ j u, [x, y][j]? = some u → (w.alloc (.cells #[x, y] t)).cell? (Addr.add ⟨w.heap.size, 0, none⟩ j) = some u := by
  intro j u hj
  match j, hj with
  | 0, hj => simp at hj; subst hj; simp [Addr.add]
  | 1, hj => simp at hj; subst hj; simp [Addr.add]
set_option maxRecDepth 100000 in
set_option maxHeartbeats 1000000 in
theorem out_any (t k o v : Int) (w : World) :
    Calls Tryz.prog 59 #[evV ⟨t, k, o, v⟩] w fun e w' => ∃ u, e = .returned u ∧ w'.ownsRow w.heap.size 161 2 u (outDoors ⟨t, k, o, v⟩).length (dcells (outDoors ⟨t, k, o, v⟩)) ∧ Below w.heap.size w w' := by
  have hb1 : Hid (∀ x, Below w.heap.size w (w.alloc x)) := fun x => (Below.refl _ _).alloc (Nat.le_refl _) _
  have hb2 : Hid (∀ x y, Below w.heap.size w ((w.alloc x).alloc y)) := fun x y => ((Below.refl _ _).alloc (Nat.le_refl _) _).alloc (by simp) _
  have hm : Hid (∀ x d, ((w.alloc x).alloc (.cells #[.int .i64 d.1, .int .i64 d.2] 161)).ownsRow w.heap.size 161 2 (.slice (some ⟨w.heap.size + 1, 0, none⟩) 1 1) 1 (dcells [d])) := fun x d => by
    have := door_made (w.alloc x) w.heap.size (by simp) d
    rwa [World.size_alloc] at this
  unfold evV outDoors
  by_cases h6 : k = 6
  · subst h6
    go_enter Tryz.func59, Tryz.ntmps59
    go_wp2
    go_ret
    exact ⟨_, rfl, hm.out _ (1, o), hb2.out _ _⟩
  · by_cases h4 : k = 4
    · subst h4
      go_enter Tryz.func59, Tryz.ntmps59
      go_wp2
      go_ret
      exact ⟨_, rfl, hm.out _ (2, o), hb2.out _ _⟩
    · by_cases h7 : k = 7
      · subst h7
        go_enter Tryz.func59, Tryz.ntmps59
        go_wp2
        go_ret
        exact ⟨_, rfl, hm.out _ (3, o), hb2.out _ _⟩
      · rw [if_neg h6, if_neg h4, if_neg h7]
        have k6 : (k == 6) = false := beq_eq_false_iff_ne.2 h6
        have k4 : (k == 4) = false := beq_eq_false_iff_ne.2 h4
        have k7 : (k == 7) = false := beq_eq_false_iff_ne.2 h7
        clear h6 h4 h7
        go_enter Tryz.func59, Tryz.ntmps59
        go_wp2
        go_ret
        exact ⟨_, rfl, World.ownsRow_nil _ _ _ _, hb1.out _⟩
set_option maxRecDepth 100000 in
set_option maxHeartbeats 1000000 in
theorem in_any (t k o v : Int) (w : World) :
    Calls Tryz.prog 57 #[evV ⟨t, k, o, v⟩] w fun e w' => ∃ u, e = .returned u ∧ w'.ownsRow w.heap.size 161 2 u (inDoors ⟨t, k, o, v⟩).length (dcells (inDoors ⟨t, k, o, v⟩)) ∧ Below w.heap.size w w' := by
  obtain ⟨i0, hi, hz0, hz1, hz2⟩ := info_parts Tryz.infoD
  have hb2 : Hid (∀ x y, Below w.heap.size w ((w.alloc x).alloc y)) := fun x y => ((Below.refl _ _).alloc (Nat.le_refl _) _).alloc (by simp) _
  have hb3 : Hid (∀ x y z, Below w.heap.size w (((w.alloc x).alloc y).alloc z)) := fun x y z => (((Below.refl _ _).alloc (Nat.le_refl _) _).alloc (by simp) _).alloc (by simp; omega) _
  have hm : Hid (∀ x d, ((w.alloc x).alloc (.cells #[.int .i64 d.1, .int .i64 d.2] 161)).ownsRow w.heap.size 161 2 (.slice (some ⟨w.heap.size + 1, 0, none⟩) 1 1) 1 (dcells [d])) := fun x d => by
    have := door_made (w.alloc x) w.heap.size (by simp) d
    rwa [World.size_alloc] at this
  have hn : Hid (∀ x y a b, ∀ j u, [a, b][j]? = some u → (((w.alloc x).alloc y).alloc (.cells #[a, b] 161)).cell? (Addr.add ⟨w.heap.size + 1 + 1, 0, none⟩ j) = some u) := fun x y a b => by
    have := door_two_new ((w.alloc x).alloc y) a b 161
    rwa [World.size_alloc, World.size_alloc] at this
  unfold evV inDoors
  by_cases h5 : k = 5
  · subst h5
    go_enter Tryz.func57, Tryz.ntmps57
    go_wp2_with (at_builtin; refine wpList_append_own _ rfl _ _ 162 rfl w.heap.size 161 i0 (.agg #[.int .i64 0, .int .i64 0]) 2 16 Tryz.underlying162 hi hz0 hz1 hz2 rfl (by decide) _ 1 _ rfl ((hm.out _ (3, t)).alloc _) ⟨w.heap.size + 1 + 1, 0, none⟩ 1 1 [.int .i64 1, .int .i64 o] rfl rfl (hn.out _ _ _ _) (by simp [Value.oneCell']) (by unfold maxLen; omega) (by omega) (by simp; omega) ?_; intro v' w1 hown' hgrow _)
    go_ret
    exact ⟨v', rfl, hown', (hb3.out _ _ _).grown hgrow (by simp; omega) (fun q e => by cases e; simp)⟩
  by_cases h3 : k = 3
  · subst h3
    go_enter Tryz.func57, Tryz.ntmps57
    go_wp2_with (at_builtin; refine wpList_append_own _ rfl _ _ 162 rfl w.heap.size 161 i0 (.agg #[.int .i64 0, .int .i64 0]) 2 16 Tryz.underlying162 hi hz0 hz1 hz2 rfl (by decide) _ 1 _ rfl ((hm.out _ (3, t)).alloc _) ⟨w.heap.size + 1 + 1, 0, none⟩ 1 1 [.int .i64 2, .int .i64 o] rfl rfl (hn.out _ _ _ _) (by simp [Value.oneCell']) (by unfold maxLen; omega) (by omega) (by simp; omega) ?_; intro v' w1 hown' hgrow _)
    go_ret
    exact ⟨v', rfl, hown', (hb3.out _ _ _).grown hgrow (by simp; omega) (fun q e => by cases e; simp)⟩
  by_cases h8 : k = 8
  · subst h8
    go_enter Tryz.func57, Tryz.ntmps57
    go_wp2_with (at_builtin; refine wpList_append_own _ rfl _ _ 162 rfl w.heap.size 161 i0 (.agg #[.int .i64 0, .int .i64 0]) 2 16 Tryz.underlying162 hi hz0 hz1 hz2 rfl (by decide) _ 1 _ rfl ((hm.out _ (3, t)).alloc _) ⟨w.heap.size + 1 + 1, 0, none⟩ 1 1 [.int .i64 0, .int .i64 o] rfl rfl (hn.out _ _ _ _) (by simp [Value.oneCell']) (by unfold maxLen; omega) (by omega) (by simp; omega) ?_; intro v' w1 hown' hgrow _)
    go_ret
    exact ⟨v', rfl, hown', (hb3.out _ _ _).grown hgrow (by simp; omega) (fun q e => by cases e; simp)⟩
  rw [if_neg h5, if_neg h3, if_neg h8]
  have k5 : (k == 5) = false := beq_eq_false_iff_ne.2 h5
  have k3 : (k == 3) = false := beq_eq_false_iff_ne.2 h3
  have k8 : (k == 8) = false := beq_eq_false_iff_ne.2 h8
  clear h5 h3 h8
  go_enter Tryz.func57, Tryz.ntmps57
  go_wp2
  go_ret
  exact ⟨_, rfl, hm.out _ (3, t), hb2.out _ _⟩
end Go.Proofs.YtlpdomgedaockaaGreatDoor
namespace Go.Proofs.YtlpdomgedaockaaGreatDoor
open Go.RowKit Go.Proofs.Ord
def allOut (e : Ev) : List (Int × Int) := (0, e.thread) :: outDoors e
def allIn (e : Ev) : List (Int × Int) := (0, e.thread) :: inDoors e
theorem outDoors_mem (e : Ev) (d : Int × Int) : d ∈ outDoors e ↔ (e.kind = 6 ∧ d = (1, e.obj)) ∨ (e.kind = 4 ∧ d = (2, e.obj)) ∨ (e.kind = 7 ∧ d = (3, e.obj)) := by
  unfold outDoors
  split
  · rename_i h; simp [h]
  · split
    · rename_i h; simp [h]
    · split
      · rename_i h; simp [h]
      · rename_i h1 h2 h3; simp [h1, h2, h3]
theorem inDoors_mem (e : Ev) (d : Int × Int) : d ∈ inDoors e ↔ d = (3, e.thread) ∨ (e.kind = 5 ∧ d = (1, e.obj)) ∨ (e.kind = 3 ∧ d = (2, e.obj)) ∨ (e.kind = 8 ∧ d = (0, e.obj)) := by
  unfold inDoors
  rw [List.mem_cons]
  split
  · rename_i h; simp [h]
  · split
    · rename_i h; simp [h]
    · split
      · rename_i h; simp [h]
      · rename_i h1 h2 h3; simp [h1, h2, h3]
theorem leads_iff (a b : Ev) : leads a b = true ↔ ∃ d, d ∈ allOut a ∧ d ∈ allIn b := by
  have key : leads a b = true ↔ a.thread = b.thread ∨ (a.kind = 6 ∧ b.kind = 5 ∧ a.obj = b.obj) ∨ (a.kind = 4 ∧ b.kind = 3 ∧ a.obj = b.obj) ∨ (a.kind = 7 ∧ a.obj = b.thread) ∨ (b.kind = 8 ∧ b.obj = a.thread) := by
    simp only [leads, Bool.or_eq_true, Bool.and_eq_true, beq_iff_eq]
    constructor
    · rintro ((((h | ⟨⟨h1, h2⟩, h3⟩) | ⟨⟨h1, h2⟩, h3⟩) | ⟨h1, h2⟩) | ⟨h1, h2⟩)
      · exact .inl h
      · exact .inr (.inl ⟨h1, h2, h3⟩)
      · exact .inr (.inr (.inl ⟨h1, h2, h3⟩))
      · exact .inr (.inr (.inr (.inl ⟨h1, h2⟩)))
      · exact .inr (.inr (.inr (.inr ⟨h1, h2⟩)))
    · rintro (h | ⟨h1, h2, h3⟩ | ⟨h1, h2, h3⟩ | ⟨h1, h2⟩ | ⟨h1, h2⟩)
      · exact .inl (.inl (.inl (.inl h)))
      · exact .inl (.inl (.inl (.inr ⟨⟨h1, h2⟩, h3⟩)))
      · exact .inl (.inl (.inr ⟨⟨h1, h2⟩, h3⟩))
      · exact .inl (.inr ⟨h1, h2⟩)
      · exact .inr ⟨h1, h2⟩
  rw [key]
  constructor
  · rintro (h | ⟨h1, h2, h3⟩ | ⟨h1, h2, h3⟩ | ⟨h1, h2⟩ | ⟨h1, h2⟩)
    · exact ⟨(0, a.thread), List.mem_cons_self, by rw [h]; exact List.mem_cons_self⟩
    · exact ⟨(1, a.obj), List.mem_cons_of_mem _ ((outDoors_mem _ _).2 (.inl ⟨h1, rfl⟩)), List.mem_cons_of_mem _ ((inDoors_mem _ _).2 (.inr (.inl ⟨h2, by rw [h3]⟩)))⟩
    · exact ⟨(2, a.obj), List.mem_cons_of_mem _ ((outDoors_mem _ _).2 (.inr (.inl ⟨h1, rfl⟩))), List.mem_cons_of_mem _ ((inDoors_mem _ _).2 (.inr (.inr (.inl ⟨h2, by rw [h3]⟩))))⟩
    · exact ⟨(3, a.obj), List.mem_cons_of_mem _ ((outDoors_mem _ _).2 (.inr (.inr ⟨h1, rfl⟩))), List.mem_cons_of_mem _ ((inDoors_mem _ _).2 (.inl (by rw [h2])))⟩
    · exact ⟨(0, a.thread), List.mem_cons_self, List.mem_cons_of_mem _ ((inDoors_mem _ _).2 (.inr (.inr (.inr ⟨h1, by rw [h2]⟩))))⟩
  · rintro ⟨d, ho, hi⟩
    rcases List.mem_cons.1 ho with rfl | ho <;> rcases List.mem_cons.1 hi with hi | hi
    · exact .inl (by simpa using hi)
    · rcases (inDoors_mem _ _).1 hi with h | ⟨_, h⟩ | ⟨_, h⟩ | ⟨h8, h⟩
      · simp at h
      · simp at h
      · simp at h
      · exact .inr (.inr (.inr (.inr ⟨h8, by simpa using h.symm⟩)))
    · subst hi
      rcases (outDoors_mem _ _).1 ho with ⟨_, h⟩ | ⟨_, h⟩ | ⟨_, h⟩ <;> simp at h
    · rcases (outDoors_mem _ _).1 ho with ⟨ha, rfl⟩ | ⟨ha, rfl⟩ | ⟨ha, rfl⟩ <;> rcases (inDoors_mem _ _).1 hi with h | ⟨hb, h⟩ | ⟨hb, h⟩ | ⟨hb, h⟩
      all_goals try (exfalso; simp at h; done)
      · exact .inr (.inl ⟨ha, hb, by simpa using h⟩)
      · exact .inr (.inr (.inl ⟨ha, hb, by simpa using h⟩))
      · exact .inr (.inr (.inr (.inl ⟨ha, by simpa using h⟩)))
def gone (l : Nat → Ev) (n : Nat) (d : Int × Int) (i : Nat) : Prop := ∃ q, q < n ∧ (i = q ∨ bef l i q = true) ∧ d ∈ allOut (l q)
theorem bef_gone (l : Nat → Ev) (i n : Nat) : bef l i n = true ↔ ∃ d, d ∈ allIn (l n) ∧ gone l n d i := by
  rw [bef_iff]
  constructor
  · rintro ⟨h1, h | ⟨k, h2, h3, h4, h5⟩⟩
    · obtain ⟨d, ho, hi⟩ := (leads_iff _ _).1 h
      exact ⟨d, hi, i, h1, .inl rfl, ho⟩
    · obtain ⟨d, ho, hi⟩ := (leads_iff _ _).1 h5
      exact ⟨d, hi, k, h3, .inr h4, ho⟩
  · rintro ⟨d, hi, q, hq, h | h, ho⟩
    · subst h; exact ⟨hq, .inl ((leads_iff _ _).2 ⟨d, ho, hi⟩)⟩
    · have := bef_lt h
      exact ⟨by omega, .inr ⟨q, this, hq, h, (leads_iff _ _).2 ⟨d, ho, hi⟩⟩⟩
theorem gone_succ (l : Nat → Ev) (n : Nat) (d : Int × Int) (i : Nat) : gone l (n + 1) d i ↔ gone l n d i ∨ (d ∈ allOut (l n) ∧ (i = n ∨ bef l i n = true)) := by
  constructor
  · rintro ⟨q, hq, h, ho⟩
    by_cases e : q = n
    · subst e; exact .inr ⟨ho, h⟩
    · exact .inl ⟨q, by omega, h, ho⟩
  · rintro (⟨q, hq, h, ho⟩ | ⟨ho, h⟩)
    · exact ⟨q, by omega, h, ho⟩
    · exact ⟨n, by omega, h, ho⟩
theorem gone_zero (l : Nat → Ev) (d : Int × Int) (i : Nat) : ¬ gone l 0 d i := by rintro ⟨q, hq, _⟩; omega
theorem gone_after (l : Nat → Ev) (n : Nat) (x : Int × Int) (i : Nat) (t kd o v : Int) (hl : l n = ⟨t, kd, o, v⟩) (us : List (Int × Int)) (hus : outDoors ⟨t, kd, o, v⟩ = us) :
    gone l (n + 1) x i ↔ (if x = (0, t) then (i = n ∨ bef l i n = true) else gone l n x i ∨ (x ∈ us ∧ (i = n ∨ bef l i n = true))) := by
  rw [gone_succ, hl]
  have ha : ∀ y, y ∈ allOut ⟨t, kd, o, v⟩ ↔ y = (0, t) ∨ y ∈ us := fun y => by unfold allOut; rw [List.mem_cons, hus]
  rw [ha]
  by_cases hx : x = (0, t)
  · subst hx
    rw [if_pos rfl]
    constructor
    · rintro (h | ⟨_, h⟩)
      · exact .inr ((bef_gone l i n).2 ⟨(0, t), by rw [hl]; exact List.mem_cons_self, h⟩)
      · exact h
    · exact fun h => .inr ⟨.inl rfl, h⟩
  · rw [if_neg hx]
    constructor
    · rintro (h | ⟨h | h, h2⟩)
      · exact .inl h
      · exact absurd h hx
      · exact .inr ⟨h, h2⟩
    · rintro (h | ⟨h, h2⟩)
      · exact .inl h
      · exact .inr ⟨.inr h, h2⟩
theorem outDoors_len (e : Ev) : (outDoors e).length ≤ 1 := by
  unfold outDoors
  split
  · simp
  · split
    · simp
    · split <;> simp
theorem outDoors_own {e : Ev} {d : Int × Int} (h : d ∈ outDoors e) (t : Int) : d ≠ (0, t) := by
  rcases (outDoors_mem _ _).1 h with ⟨_, rfl⟩ | ⟨_, rfl⟩ | ⟨_, rfl⟩ <;> simp
def Holds (ws : List Nat) (K : Nat) (p : Nat → Prop) : Prop := (∀ i, bitOf ws i = true ↔ i < K ∧ p i) ∧ ws.length ≤ K / 64 + 1
theorem Holds.nil (K : Nat) {p : Nat → Prop} (h : ∀ i, ¬ p i) : Holds [] K p := ⟨fun i => by rw [bit_nil]; simp [h i], Nat.zero_le _⟩
theorem Holds.join {s o : List Nat} {K : Nat} {p q : Nat → Prop} (hs : Holds s K p) (ho : Holds o K q) : Holds (joinL s o) K (fun i => p i ∨ q i) := by
  refine ⟨fun i => ?_, by rw [joinL_len]; have := hs.2; have := ho.2; omega⟩
  rw [bit_join, Bool.or_eq_true, hs.1, ho.1]
  constructor
  · rintro (⟨h1, h2⟩ | ⟨h1, h2⟩)
    · exact ⟨h1, .inl h2⟩
    · exact ⟨h1, .inr h2⟩
  · rintro ⟨h1, h2 | h2⟩
    · exact .inl ⟨h1, h2⟩
    · exact .inr ⟨h1, h2⟩
theorem Holds.with {s : List Nat} {K : Nat} {p : Nat → Prop} (hs : Holds s K p) {n : Nat} (hn : n < K) : Holds (withL s n) K (fun i => p i ∨ i = n) := by
  refine ⟨fun i => ?_, by rw [withL_len]; have := hs.2; have : n / 64 ≤ K / 64 := Nat.div_le_div_right (by omega); omega⟩
  rw [bit_with, Bool.or_eq_true, hs.1, decide_eq_true_eq]
  constructor
  · rintro (⟨h1, h2⟩ | h)
    · exact ⟨h1, .inl h2⟩
    · exact ⟨by omega, .inr h⟩
  · rintro ⟨h1, h2 | h2⟩
    · exact .inl ⟨h1, h2⟩
    · exact .inr h2
theorem Holds.iff {s : List Nat} {K : Nat} {p q : Nat → Prop} (hs : Holds s K p) (h : ∀ i, i < K → (p i ↔ q i)) : Holds s K q := by
  refine ⟨fun i => ?_, hs.2⟩
  rw [hs.1]
  constructor
  · rintro ⟨h1, h2⟩; exact ⟨h1, (h i h1).1 h2⟩
  · rintro ⟨h1, h2⟩; exact ⟨h1, (h i h1).2 h2⟩
end Go.Proofs.YtlpdomgedaockaaGreatDoor
