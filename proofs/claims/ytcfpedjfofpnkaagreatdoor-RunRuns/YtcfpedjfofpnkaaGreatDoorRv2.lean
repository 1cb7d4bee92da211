import Derived.Test.YtcfpedjfofpnkaaGreatDoorRv1
import Derived.Laws.StructEq
import Derived.Laws.IdiomRangeMap
import Derived.MapKept
import Derived.Test.YtcfpedjfofpnkaaGreatDoorChecked
import Derived.WalkKit
import Derived.ProofKit
import Derived.Below
import Derived.Laws.AppendOwn
set_option linter.unusedVariables false
set_option linter.unusedSimpArgs false
namespace Go.Proofs.YtcfpedjfofpnkaaGreatDoor
open Go.RowKit
structure KeyL {κ : Type} (enc : κ → Value) (K : TypeId) : Prop where
 inj : ∀ {a b : κ}, enc a = enc b → a = b
 check : ∀ (e : Bool) (d : κ) (w : World), (Instr.checkKey e 10000 K (enc d)).run Tryz.prog w = .ok () w
 find : ∀ (d : κ) (w : World) (es : List MapEntry), (∀ e, e ∈ es → ∃ d', e.key = enc d') →
  (∃ j e, es[j]? = some e ∧ e.key = enc d ∧ (Instr.findKey K (enc d) es).run Tryz.prog w = .ok (some (j, e.val)) w) ∨ ((∀ e, e ∈ es → e.key ≠ enc d) ∧ (Instr.findKey K (enc d) es).run Tryz.prog w = .ok none w)
 stays : ∀ (d : κ) (w : World), (Instr.keyThatStays (enc d) (enc d)).run Tryz.prog w = .ok (enc d) w
structure KEnts {κ : Type} (enc : κ → Value) (es : Array MapEntry) (clock : Nat) (f : κ → Option Value) : Prop where
 stamped : MapKept.Stamped es clock
 mem : ∀ e, e ∈ es.toList → ∃ k, e.key = enc k ∧ f k = some e.val
 has : ∀ k v, f k = some v → ∃ e, e ∈ es.toList ∧ e.key = enc k
def KMap {κ : Type} (enc : κ → Value) (w : World) (b : Nat) (f : κ → Option Value) (n : Nat) : Prop :=
 ∃ es clock, w.heap[b]? = some (.map es clock) ∧ KEnts enc es clock f ∧ es.size = n
variable {κ : Type} {enc : κ → Value} {K : TypeId}
theorem KMap.lt {w : World} {b n : Nat} {f : κ → Option Value} (h : KMap enc w b f n) : b < w.heap.size := by
 obtain ⟨es, clock, hb, _⟩ := h; exact (Array.getElem?_eq_some_iff.1 hb).1
theorem KMap.same {w w' : World} {b n : Nat} {f : κ → Option Value} (h : KMap enc w b f n) (hb : w'.heap[b]? = w.heap[b]?) : KMap enc w' b f n := by
 obtain ⟨es, clock, h1, h2⟩ := h; exact ⟨es, clock, hb.trans h1, h2⟩
theorem KMap.made (w : World) : KMap enc (w.alloc (.map #[] 0)) w.heap.size (fun _ => none) 0 :=
 ⟨#[], 0, heap_alloc_new w _, ⟨MapKept.stamped_empty 0, (fun e he => by simp at he), (fun d v h => by cases h)⟩, rfl⟩
theorem KEnts.congr {es : Array MapEntry} {clock : Nat} {f g : κ → Option Value} (h : KEnts enc es clock f) (hg : ∀ k, g k = f k) : KEnts enc es clock g := by
 have : g = f := funext hg
 rw [this]; exact h
theorem KMap.congr {w : World} {b n : Nat} {f g : κ → Option Value} (h : KMap enc w b f n) (hg : ∀ k, g k = f k) : KMap enc w b g n := by
 have : g = f := funext hg
 rw [this]; exact h
theorem nodup_map_inj {α β : Type} {g : α → β} {l : List α} (hn : (l.map g).Nodup) {a b : α} (ha : a ∈ l) (hb : b ∈ l) (e : g a = g b) : a = b := by
 obtain ⟨i, hi⟩ := List.getElem?_of_mem ha
 obtain ⟨j, hj⟩ := List.getElem?_of_mem hb
 have li : i < (l.map g).length := by rw [List.length_map]; exact (List.getElem?_eq_some_iff.1 hi).1
 have h1 : (l.map g)[i]? = some (g a) := by rw [List.getElem?_map, hi]; rfl
 have h2 : (l.map g)[j]? = some (g a) := by rw [List.getElem?_map, hj, e]; rfl
 have := (List.getElem?_inj li hn).1 (h1.trans h2.symm)
 subst this
 rw [hi] at hj
 exact Option.some.inj hj
theorem KEnts.key {es : Array MapEntry} {clock : Nat} {f : κ → Option Value} (hK : KeyL enc K) (h : KEnts enc es clock f) {e : MapEntry} {k : κ} (he : e ∈ es.toList) (hk : e.key = enc k) : f k = some e.val := by
 obtain ⟨k', h1, h2⟩ := h.mem e he
 obtain rfl := hK.inj (hk.symm.trans h1)
 exact h2
theorem KEnts.found {es : Array MapEntry} {clock : Nat} {f : κ → Option Value} (hK : KeyL enc K) (h : KEnts enc es clock f) (k : κ) (w : World) :
 (∃ j e, es[j]? = some e ∧ e.key = enc k ∧ f k = some e.val ∧ (Instr.findKey K (enc k) es.toList).run Tryz.prog w = .ok (some (j, e.val)) w) ∨ (f k = none ∧ (∀ e, e ∈ es.toList → e.key ≠ enc k) ∧ (Instr.findKey K (enc k) es.toList).run Tryz.prog w = .ok none w) := by
 rcases hK.find k w es.toList (fun e he => by obtain ⟨k', h1, _⟩ := h.mem e he; exact ⟨k', h1⟩) with ⟨j, e, h1, h2, h3⟩ | ⟨h1, h2⟩
 ·exact .inl ⟨j, e, by simpa using h1, h2, h.key hK (List.mem_of_getElem? h1) h2, h3⟩
 ·refine .inr ⟨?_, h1, h2⟩
  cases hf : f k with
  | none => rfl
  | some v => obtain ⟨e, he, hke⟩ := h.has k v hf; exact absurd hke (h1 e he)
theorem KMap.look {w : World} {b n : Nat} {f : κ → Option Value} (h : KMap enc w b f n) {T E : TypeId} (hK : KeyL enc K) (ht : Tryz.prog.underlying T = some (.map K E)) {z : Value} (hz : (zeroValue E).run Tryz.prog w = .ok z w) (k : κ) :
 (Instr.lookup T (.map (some b)) (enc k) false).run Tryz.prog w = .ok ((f k).getD z) w := by
 obtain ⟨es, clock, hb, h, _⟩ := h
 rcases h.found hK k w with ⟨j, e, _, _, e3, e4⟩ | ⟨e1, _, e3⟩
 ·simp [Instr.lookup, run_underlying ht, MapKept.run_getObj_map hb, hK.check, e4, e3]
 ·simp [Instr.lookup, run_underlying ht, MapKept.run_getObj_map hb, hK.check, e3, e1, hz]
def putK [DecidableEq κ] (f : κ → Option Value) (d : κ) (v : Value) : κ → Option Value := fun x => if x = d then some v else f x
def delK [DecidableEq κ] (f : κ → Option Value) (d : κ) : κ → Option Value := fun x => if x = d then none else f x
theorem putK_same [DecidableEq κ] (f : κ → Option Value) (d : κ) (v : Value) : putK f d v d = some v := by simp [putK]
theorem putK_other [DecidableEq κ] {f : κ → Option Value} {d x : κ} (v : Value) (h : x ≠ d) : putK f d v x = f x := by simp [putK, h]
theorem delK_same [DecidableEq κ] (f : κ → Option Value) (d : κ) : delK f d d = none := by simp [delK]
theorem delK_other [DecidableEq κ] {f : κ → Option Value} {d x : κ} (h : x ≠ d) : delK f d x = f x := by simp [delK, h]
theorem grown_set (w : World) (b : Nat) (o : Obj) : w.grownBy { w with heap := w.heap.setIfInBounds b o } (some b) :=
 ⟨rfl, rfl, rfl, by simp, fun k hk hne => by simp only [Array.getElem?_setIfInBounds]; rw [if_neg (fun e => hne (by rw [e]))]⟩
theorem mem_modify {es : Array MapEntry} {j : Nat} {g : MapEntry → MapEntry} {e : MapEntry} (hj : es[j]? = some e) {x : MapEntry} (hx : x ∈ (es.modify j g).toList) : x = g e ∨ (x ∈ es.toList ∧ ∃ i, i ≠ j ∧ es[i]? = some x) := by
 obtain ⟨i, hi⟩ := List.getElem?_of_mem hx
 rw [Array.getElem?_toList, Array.getElem?_modify] at hi
 by_cases hij : j = i
 ·subst hij; rw [if_pos rfl, hj] at hi; cases hi; exact .inl rfl
 ·rw [if_neg hij] at hi; exact .inr ⟨List.mem_of_getElem? (i := i) (by simpa using hi), i, fun e => hij e.symm, hi⟩
theorem mem_of_modify {es : Array MapEntry} {j : Nat} {g : MapEntry → MapEntry} {e : MapEntry} (hj : es[j]? = some e) : g e ∈ (es.modify j g).toList ∧ ∀ i x, i ≠ j → es[i]? = some x → x ∈ (es.modify j g).toList := by
 refine ⟨List.mem_of_getElem? (i := j) (by rw [Array.getElem?_toList, Array.getElem?_modify, if_pos rfl, hj]; rfl), fun i x hi hx => List.mem_of_getElem? (i := i) (by rw [Array.getElem?_toList, Array.getElem?_modify, if_neg (fun e => hi e.symm)]; exact hx)⟩
theorem idx_of_key {es : Array MapEntry} {clock : Nat} (h : MapKept.Stamped es clock) {i j : Nat} {x y : MapEntry} (hi : es[i]? = some x) (hj : es[j]? = some y) (hk : x.key = y.key) : i = j := by
 have hn := h.2.2
 have li : i < es.toList.length := by simpa using (Array.getElem?_eq_some_iff.1 hi).1
 have hi' : (es.toList.map (·.key))[i]? = some x.key := by rw [List.getElem?_map, Array.getElem?_toList, hi]; rfl
 have hj' : (es.toList.map (·.key))[j]? = some x.key := by rw [List.getElem?_map, Array.getElem?_toList, hj, hk]; rfl
 exact (List.getElem?_inj (by simpa using li) hn).1 (hi'.trans hj'.symm)
theorem KMap.put [DecidableEq κ] {w : World} {b n : Nat} {f : κ → Option Value} (h : KMap enc w b f n) {T E : TypeId} (hK : KeyL enc K) (ht : Tryz.prog.underlying T = some (.map K E)) (d : κ) (v : Value) :
 ∃ w', (Instr.mapUpdate T (.map (some b)) (enc d) v).run Tryz.prog w = .ok () w' ∧ KMap enc w' b (putK f d v) (if (f d).isSome then n else n + 1) ∧ w.grownBy w' (some b) ∧ w'.heap.size = w.heap.size := by
 obtain ⟨es, clock, hb, h, hn⟩ := h
 have hlt := (Array.getElem?_eq_some_iff.1 hb).1
 have hset : ∀ o : Obj, ({ w with heap := w.heap.setIfInBounds b o } : World).heap[b]? = some o := fun o => by simp [hlt]
 rcases h.found hK d w with ⟨j, e, e1, e2, e3, e4⟩ | ⟨e1, e2, e3⟩
 ·refine ⟨{ w with heap := w.heap.setIfInBounds b (.map (es.modify j fun e' => { e' with key := enc d, val := v }) clock) }, ?_, ⟨_, _, hset _, ⟨?_, fun x hx => ?_, fun d' v' hf => ?_⟩, by simp [e3, hn]⟩, grown_set _ _ _, by simp⟩
  ·simp [Instr.mapUpdate, run_underlying ht, MapKept.run_getObj_map hb, hK.check, e4, e1, e2, hK.stays, MapKept.run_setObj_map _ hb, Result.andThen]
  ·exact MapKept.stamped_modify h.stamped j _ (fun _ _ => rfl) (fun x _ hx => by rw [e1] at hx; cases hx; exact e2.symm)
  ·rcases mem_modify e1 hx with rfl | ⟨hm, i, hi, hxi⟩
   ·exact ⟨d, rfl, putK_same _ _ _⟩
   ·obtain ⟨d', h1, h2⟩ := h.mem x hm
    refine ⟨d', h1, ?_⟩
    rw [putK_other v (fun e' => hi (idx_of_key h.stamped hxi e1 (by rw [h1, e', e2])))]; exact h2
  ·by_cases hd : d' = d
   ·subst hd
    exact ⟨_, (mem_of_modify e1).1, rfl⟩
   ·rw [putK_other v hd] at hf
    obtain ⟨x, hx, hk⟩ := h.has d' v' hf
    obtain ⟨i, hi⟩ := List.getElem?_of_mem hx
    rw [Array.getElem?_toList] at hi
    have hij : i ≠ j := fun e' => by subst e'; rw [e1] at hi; cases hi; exact hd (hK.inj (hk.symm.trans e2))
    exact ⟨x, (mem_of_modify e1).2 i x hij hi, hk⟩
 ·refine ⟨{ w with heap := w.heap.setIfInBounds b (.map (es.push { key := enc d, val := v, born := clock }) (clock + 1)) }, ?_, ⟨_, _, hset _, ⟨MapKept.stamped_push h.stamped e2, fun x hx => ?_, fun d' v' hf => ?_⟩, by simp [e1, hn]⟩, grown_set _ _ _, by simp⟩
  ·simp [Instr.mapUpdate, run_underlying ht, MapKept.run_getObj_map hb, hK.check, e3, MapKept.run_setObj_map _ hb, Result.andThen]
  ·rw [Array.toList_push, List.mem_append, List.mem_singleton] at hx
   rcases hx with hx | rfl
   ·obtain ⟨d', h1, h2⟩ := h.mem x hx
    exact ⟨d', h1, by rw [putK_other v (fun e' => e2 x hx (by rw [h1, e']))]; exact h2⟩
   ·exact ⟨d, rfl, putK_same _ _ _⟩
  ·by_cases hd : d' = d
   ·subst hd
    exact ⟨{ key := enc d', val := v, born := clock }, by rw [Array.toList_push]; simp, rfl⟩
   ·rw [putK_other v hd] at hf
    obtain ⟨x, hx, hk⟩ := h.has d' v' hf
    exact ⟨x, by rw [Array.toList_push]; exact List.mem_append_left _ hx, hk⟩
theorem mem_erase {es : Array MapEntry} {j : Nat} (hj : j < es.size) {x : MapEntry} : x ∈ (es.eraseIdxIfInBounds j).toList ↔ ∃ i, i ≠ j ∧ es[i]? = some x := by
 have e : (es.eraseIdxIfInBounds j).toList = es.toList.eraseIdx j := by simp [Array.eraseIdxIfInBounds, hj]
 rw [e, List.mem_eraseIdx_iff_getElem?]
 simp
theorem size_erase {es : Array MapEntry} {j : Nat} (hj : j < es.size) : (es.eraseIdxIfInBounds j).size = es.size - 1 := by
 have e : (es.eraseIdxIfInBounds j).toList = es.toList.eraseIdx j := by simp [Array.eraseIdxIfInBounds, hj]
 rw [← Array.length_toList, e, List.length_eraseIdx, if_pos (by simpa using hj), Array.length_toList]
theorem KMap.del [DecidableEq κ] {w : World} {b n : Nat} {f : κ → Option Value} (h : KMap enc w b f n) {T E : TypeId} (hK : KeyL enc K) (ht : Tryz.prog.underlying T = some (.map K E)) (ty : TypeId) (d : κ) :
 ∃ w', (Builtin.delete_ #[T, K] ty #[.map (some b), enc d]).run Tryz.prog w = .ok (.tuple #[]) w' ∧ KMap enc w' b (delK f d) (if (f d).isSome then n - 1 else n) ∧ w.grownBy w' (some b) ∧ w'.heap.size = w.heap.size := by
 obtain ⟨es, clock, hb, h, hn⟩ := h
 have hlt := (Array.getElem?_eq_some_iff.1 hb).1
 have hset : ∀ o : Obj, ({ w with heap := w.heap.setIfInBounds b o } : World).heap[b]? = some o := fun o => by simp [hlt]
 rcases h.found hK d w with ⟨j, e, e1, e2, e3, e4⟩ | ⟨e1, e2, e3⟩
 ·have hj := (Array.getElem?_eq_some_iff.1 e1).1
  refine ⟨{ w with heap := w.heap.setIfInBounds b (.map (es.eraseIdxIfInBounds j) clock) }, ?_, ⟨_, _, hset _, ⟨MapKept.stamped_erase h.stamped j, fun x hx => ?_, fun d' v' hf => ?_⟩, (by rw [e3, ← hn]; exact size_erase hj)⟩, grown_set _ _ _, by simp⟩
  ·simp [Builtin.delete_, run_underlying ht, MapKept.run_getObj_map hb, hK.check, e4, MapKept.run_setObj_map _ hb, Result.andThen]
  ·obtain ⟨i, hi, hx⟩ := (mem_erase hj).1 hx
   obtain ⟨d', h1, h2⟩ := h.mem x (List.mem_of_getElem? (i := i) (by simpa using hx))
   exact ⟨d', h1, by rw [delK_other (fun e' => hi (idx_of_key h.stamped hx e1 (by rw [h1, e', e2])))]; exact h2⟩
  ·by_cases hd : d' = d
   ·subst hd; rw [delK_same] at hf; cases hf
   ·rw [delK_other hd] at hf
    obtain ⟨x, hx, hk⟩ := h.has d' v' hf
    obtain ⟨i, hi⟩ := List.getElem?_of_mem hx
    rw [Array.getElem?_toList] at hi
    exact ⟨x, (mem_erase hj).2 ⟨i, fun e' => by subst e'; rw [e1] at hi; cases hi; exact hd (hK.inj (hk.symm.trans e2)), hi⟩, hk⟩
 ·refine ⟨{ w with heap := w.heap.setIfInBounds b (.map es clock) }, ?_, ⟨_, _, hset _, h.congr fun x => ?_, by simp [e1, hn]⟩, grown_set _ _ _, by simp⟩
  ·simp [Builtin.delete_, run_underlying ht, MapKept.run_getObj_map hb, hK.check, e3, MapKept.run_setObj_map _ hb, Result.andThen]
  ·by_cases hx : x = d
   ·subst hx; rw [delK_same, e1]
   ·rw [delK_other hx]
theorem KMap.len {w : World} {b n : Nat} {f : κ → Option Value} (h : KMap enc w b f n) {T E : TypeId} (ht : Tryz.prog.underlying T = some (.map K E)) (ty : TypeId) :
 (Builtin.len_ #[T] ty #[.map (some b)]).run Tryz.prog w = .ok (goInt n) w := by
 obtain ⟨es, clock, hb, h, hn⟩ := h
 simp [Builtin.len_, run_underlying ht, MapKept.run_getObj_map hb, hn]
theorem KMap.empty {w : World} {b n : Nat} {f : κ → Option Value} (h : KMap enc w b f n) : n = 0 ↔ ∀ k, f k = none := by
 obtain ⟨es, clock, hb, h, hn⟩ := h
 constructor
 ·intro h0 k
  cases hf : f k with
  | none => rfl
  | some v =>
   obtain ⟨e, he, _⟩ := h.has k v hf
   have : es.toList = [] := List.eq_nil_of_length_eq_zero (by simp [hn, h0])
   rw [this] at he; cases he
 ·intro hall
  cases hl : es.toList with
  | nil => have : es.toList.length = 0 := by rw [hl]; rfl
           rw [Array.length_toList] at this; omega
  | cons e l => obtain ⟨k, _, h2⟩ := h.mem e (by rw [hl]; simp); rw [hall k] at h2; cases h2
def leftN (w : World) (r b : Nat) : Nat := match w.heap[r]?, w.heap[b]? with
 | some (.mapIter _ _ seen _), some (.map es _) => (leftOf es seen).size
 | _, _ => 0
theorem leftN_is {w : World} {r b : Nat} {m : Option Nat} {a d clock : Nat} {seen : Array Nat} {es : Array MapEntry} (hr : w.heap[r]? = some (.mapIter m a seen d)) (hb : w.heap[b]? = some (.map es clock)) : leftN w r b = (leftOf es seen).size := by unfold leftN; rw [hr, hb]
def KIter (enc : κ → Value) (w : World) (r b : Nat) (f : κ → Option Value) (left : κ → Prop) : Prop :=
 ∃ es clock since seen c0, w.heap[b]? = some (.map es clock) ∧ KEnts enc es clock f ∧ w.heap[r]? = some (.mapIter (some b) since seen c0) ∧ since ≤ c0 ∧ since ≤ clock ∧ (∀ e, e ∈ es.toList → e.born < since) ∧
  (∀ k, left k ↔ ∃ e, e ∈ es.toList ∧ e.key = enc k ∧ seen.contains e.born = false)
theorem KIter.same {w w' : World} {r b : Nat} {f : κ → Option Value} {left : κ → Prop} (h : KIter enc w r b f left) (hr : w'.heap[r]? = w.heap[r]?) (hb : w'.heap[b]? = w.heap[b]?) : KIter enc w' r b f left := by
 obtain ⟨es, clock, since, seen, c0, h1, h2, h3, h4⟩ := h
 exact ⟨es, clock, since, seen, c0, hb.trans h1, h2, hr.trans h3, h4⟩
theorem KIter.map {w : World} {r b : Nat} {f : κ → Option Value} {left : κ → Prop} (h : KIter enc w r b f left) : ∃ n, KMap enc w b f n := by
 obtain ⟨es, clock, since, seen, c0, h1, h2, _⟩ := h
 exact ⟨_, es, clock, h1, h2, rfl⟩
theorem KIter.ne {w : World} {r b : Nat} {f : κ → Option Value} {left : κ → Prop} (h : KIter enc w r b f left) : b ≠ r := by
 obtain ⟨es, clock, since, seen, c0, h1, h2, h3, h4⟩ := h
 rintro rfl; rw [h1] at h3; cases h3
theorem KIter.lt {w : World} {r b : Nat} {f : κ → Option Value} {left : κ → Prop} (h : KIter enc w r b f left) : r < w.heap.size := by
 obtain ⟨es, clock, since, seen, c0, h1, h2, h3, h4⟩ := h
 exact (Array.getElem?_eq_some_iff.1 h3).1
theorem KMap.range {w : World} {b n : Nat} {f : κ → Option Value} (h : KMap enc w b f n) {T E : TypeId} (hK : KeyL enc K) (ht : Tryz.prog.underlying T = some (.map K E)) :
 ∃ w', (Instr.range T (.map (some b))).run Tryz.prog w = .ok (.pointer (some ⟨w.heap.size, 0, none⟩)) w' ∧ KIter enc w' w.heap.size b f (fun k => (f k).isSome) ∧ Below w.heap.size w w' ∧ w'.heap.size = w.heap.size + 1 := by
 obtain ⟨es, clock, hb, h, hn⟩ := h
 have hlt := (Array.getElem?_eq_some_iff.1 hb).1
 refine ⟨_, run_range_map w T K E b es clock ht hb, ⟨es, clock, clock, #[], clock, ?_, h, heap_alloc_new w _, Nat.le_refl _, Nat.le_refl _, h.stamped.1, fun k => ⟨fun hk => ?_, ?_⟩⟩, (Below.refl _ _).alloc (Nat.le_refl _) _, by simp⟩
 ·rw [heap_alloc_old w _ hlt]; exact hb
 ·obtain ⟨v, hv⟩ := Option.isSome_iff_exists.1 hk
  obtain ⟨e, he, hke⟩ := h.has k v hv
  exact ⟨e, he, hke, by simp⟩
 ·rintro ⟨e, he, hke, _⟩
  rw [h.key hK he hke]; rfl
theorem contains_push (seen : Array Nat) (x y : Nat) : (seen.push x).contains y = (seen.contains y || x == y) := by
 rw [Bool.eq_iff_iff, Array.contains_iff_mem, Bool.or_eq_true, Array.contains_iff_mem, Array.mem_push, beq_iff_eq]
 exact or_congr_right eq_comm
theorem leftOf_list (es : Array MapEntry) (seen : Array Nat) : (leftOf es seen).toList = es.toList.filter fun e => !seen.contains e.born := by
 unfold leftOf; exact Array.toList_filter
theorem leftOf_size (es : Array MapEntry) (seen : Array Nat) : (leftOf es seen).size = (es.toList.filter fun e => !seen.contains e.born).length := by
 rw [← leftOf_list, Array.length_toList]
theorem left_push {es : Array MapEntry} {seen : Array Nat} {e : MapEntry} (he : e ∈ (leftOf es seen).toList) : (leftOf es (seen.push e.born)).size < (leftOf es seen).size := by
 rw [leftOf_size, leftOf_size]
 rw [leftOf_list, List.mem_filter] at he
 refine filter_lt _ _ (fun x hx => ?_) e he.2 ?_ es.toList he.1
 ·rw [contains_push] at hx; simp at hx ⊢; exact hx.1
 ·rw [contains_push]; simp
theorem KIter.next {w : World} {r b : Nat} {f : κ → Option Value} {left : κ → Prop} (h : KIter enc w r b f left) (hK : KeyL enc K) (ty : TypeId) :
 ((∀ k, ¬ left k) ∧ (Instr.next (.pointer (some ⟨r, 0, none⟩)) false ty).run Tryz.prog w = .ok (.tuple #[.bool false]) w) ∨
 ∃ k v w1, left k ∧ f k = some v ∧ (Instr.next (.pointer (some ⟨r, 0, none⟩)) false ty).run Tryz.prog w = .ok (.tuple #[.bool true, enc k, v]) w1 ∧ KIter enc w1 r b f (fun x => left x ∧ x ≠ k) ∧ leftN w1 r b < leftN w r b ∧ w.grownBy w1 (some r) ∧ w1.heap.size = w.heap.size ∧ (Instr.entry (.pointer (some ⟨r, 0, none⟩))).run Tryz.prog w1 = .ok (.tuple #[enc k, v]) w1 := by
 have hne := h.ne
 have hlt := h.lt
 obtain ⟨q, hq⟩ : ∃ q, leftN w r b = q := ⟨_, rfl⟩
 rw [hq]
 obtain ⟨es, clock, since, seen, c0, hb, hE, hr, hsc, hsk, hold, hleft⟩ := h
 rw [leftN_is hr hb] at hq
 have hrun : ∀ (W : World), W.heap = w.heap → (Instr.next (.pointer (some ⟨r, 0, none⟩)) false ty).run Tryz.prog W = _ := fun W hW => by
  simp only [Instr.next, getObj, Sem.run_bind, Sem.run, hW, hr, hb, Result.andThen, next_test_false seen es since c0 hold hsc, Bool.false_eq_true, if_false]
  rfl
 have hrw := hrun w rfl
 clear hrun
 rw [hrw]
 clear hrw
 have hLdef : Array.filter (fun e => !seen.contains e.born) es = leftOf es seen := rfl
 simp only [hLdef]
 have hmem : ∀ x ∈ (leftOf es seen).toList, x ∈ es.toList ∧ seen.contains x.born = false := fun x hx => by
  rw [leftOf_list, List.mem_filter] at hx
  exact ⟨hx.1, by simpa using hx.2⟩
 have hpush : ∀ e ∈ (leftOf es seen).toList, (leftOf es (seen.push e.born)).size < (leftOf es seen).size := fun e he => left_push he
 have hin : ∀ e, e ∈ es.toList → seen.contains e.born = false → e ∈ (leftOf es seen).toList := fun e h1 h2 => by
  rw [leftOf_list, List.mem_filter]; exact ⟨h1, by simpa using h2⟩
 generalize leftOf es seen = L at *
 have e1 : L.filter (fun x => decide (x.born < since)) = L := Array.filter_eq_self.2 (fun x hx => by simpa using hold x (hmem x (by simpa using hx)).1)
 have e2 : L.filter (fun x => decide (x.born ≥ since)) = #[] := by
  rw [Array.filter_eq_empty_iff]
  intro x hx
  have := hold x (hmem x (by simpa using hx)).1
  simp
  omega
 simp only [e1, e2, Array.append_empty]
 by_cases h0 : L.size = 0
 ·left
  have : L = #[] := Array.eq_empty_of_size_eq_zero h0
  subst this
  refine ⟨fun k hk => ?_, ?_⟩
  ·obtain ⟨e, h1, _, h3⟩ := (hleft k).1 hk
   have := hin e h1 h3
   simp at this
  ·simp [choose, Sem.run, Question.forced]
 ·right
  have hne0 : L.isEmpty = false := by simp [Array.isEmpty, h0]
  simp only [hne0, Bool.false_eq_true, if_false, Array.empty_append, Array.size_map]
  have hch : ∃ (j : Nat) (w1 : World), j < L.size ∧ w1.heap = w.heap ∧ w1.os = w.os ∧ w1.tape = w.tape ∧ w1.output = w.output ∧ (choose (Question.mapNext L.size)).run Tryz.prog w = .ok j w1 := by
   by_cases hf : L.size ≤ 1
   ·exact ⟨0, w, by omega, rfl, rfl, rfl, rfl, by simp [choose, Sem.run, Question.forced, hf]⟩
   ·exact ⟨_, w.drew, Nat.mod_lt _ (by omega), rfl, rfl, rfl, rfl, by
     simp only [choose, Sem.run, Question.forced, decide_eq_true_eq, hf, if_false, Question.cut]
     rfl⟩
  obtain ⟨j, w1, hj, hheap, ho, ht, hu, hrun⟩ := hch
  have hmj : L[j] ∈ L.toList := by simp
  obtain ⟨hm1, hm2⟩ := hmem _ hmj
  obtain ⟨k, hk1, hk2⟩ := hE.mem _ hm1
  have hset : (setObj r (.mapIter (some b) since (seen.push L[j].born) clock)).run Tryz.prog w1 = .ok () { w1 with heap := w1.heap.setIfInBounds r (.mapIter (some b) since (seen.push L[j].born) clock) } := by
   simp only [setObj, Sem.run, hheap, hr]
  have hb1 : ({ w1 with heap := w1.heap.setIfInBounds r (.mapIter (some b) since (seen.push L[j].born) clock) } : World).heap[b]? = some (.map es clock) := by
   simp only [Array.getElem?_setIfInBounds]; rw [if_neg (fun e => hne e.symm), hheap]; exact hb
  have hr1 : ({ w1 with heap := w1.heap.setIfInBounds r (.mapIter (some b) since (seen.push L[j].born) clock) } : World).heap[r]? = some (.mapIter (some b) since (seen.push L[j].born) clock) := by
   simp [hheap, hlt]
  refine ⟨k, L[j].val, { w1 with heap := w1.heap.setIfInBounds r (.mapIter (some b) since (seen.push L[j].born) clock) }, (hleft k).2 ⟨_, hm1, hk1, hm2⟩, hk2, ?_, ?_, ?_, ?_, by simp [hheap], ?_⟩
  ·simp only [hrun, Array.getElem?_map, Array.getElem?_eq_getElem hj, Option.map_some, Sem.run_bind, hset, Result.andThen, hk1]
   rfl
  ·refine ⟨es, clock, since, seen.push L[j].born, clock, ?_, hE, ?_, hsk, hsk, hold, fun x => ?_⟩
   ·exact hb1
   ·exact hr1
   ·show left x ∧ x ≠ k ↔ _
    rw [hleft]
    constructor
    ·rintro ⟨⟨e, h1, h2, h3⟩, hx⟩
     refine ⟨e, h1, h2, ?_⟩
     rw [contains_push, h3, Bool.false_or]
     apply beq_eq_false_iff_ne.2
     intro e'
     have := nodup_map_inj hE.stamped.2.1 hm1 h1 e'
     exact hx (hK.inj (by rw [← h2, ← this, hk1]))
    ·rintro ⟨e, h1, h2, h3⟩
     rw [contains_push, Bool.or_eq_false_iff] at h3
     refine ⟨⟨e, h1, h2, h3.1⟩, fun e' => ?_⟩
     subst e'
     obtain ⟨i1, g1⟩ := List.getElem?_of_mem hm1
     obtain ⟨i2, g2⟩ := List.getElem?_of_mem h1
     have := nodup_map_inj hE.stamped.2.2 hm1 h1 (by rw [hk1, h2])
     rw [this] at h3
     simp at h3
  ·rw [leftN_is hr1 hb1, ← hq]; exact hpush _ hmj
  ·refine ⟨ho, ht, hu, by simp [hheap], fun x hx hne => ?_⟩
   simp only [Array.getElem?_setIfInBounds]
   rw [if_neg (fun e => hne (by rw [e])), hheap]
  ·have hf : es.find? (·.born == L[j].born) = some L[j] := by rw [← Array.find?_toList]; exact find_born _ es.toList hE.stamped.2.1 hm1
   simp only [Instr.entry, getObj, Sem.run_bind, Sem.run, hr1, hb1, Result.andThen, Array.back?_push, bne_self_eq_false, Bool.false_eq_true, if_false, hf, hk1]
   rfl
theorem KIter.del [DecidableEq κ] {w : World} {r b : Nat} {f : κ → Option Value} {left : κ → Prop} (h : KIter enc w r b f left) {T E : TypeId} (hK : KeyL enc K) (ht : Tryz.prog.underlying T = some (.map K E)) (ty : TypeId) (d : κ) :
 ∃ w', (Builtin.delete_ #[T, K] ty #[.map (some b), enc d]).run Tryz.prog w = .ok (.tuple #[]) w' ∧ KIter enc w' r b (delK f d) (fun x => left x ∧ x ≠ d) ∧ leftN w' r b ≤ leftN w r b ∧ w.grownBy w' (some b) ∧ w'.heap.size = w.heap.size := by
 have hne := h.ne
 obtain ⟨es, clock, since, seen, c0, hb, hE, hr, hsc, hsk, hold, hleft⟩ := h
 have hlt := (Array.getElem?_eq_some_iff.1 hb).1
 have hset : ∀ o : Obj, ({ w with heap := w.heap.setIfInBounds b o } : World).heap[b]? = some o := fun o => by simp [hlt]
 have hset' : ∀ o : Obj, ({ w with heap := w.heap.setIfInBounds b o } : World).heap[r]? = w.heap[r]? := fun o => by
  simp only [Array.getElem?_setIfInBounds]; rw [if_neg hne]
 rcases hE.found hK d w with ⟨j, e, e1, e2, e3, e4⟩ | ⟨e1, e2, e3⟩
 ·have hj := (Array.getElem?_eq_some_iff.1 e1).1
  have hmem : ∀ x, x ∈ (es.eraseIdxIfInBounds j).toList ↔ x ∈ es.toList ∧ x.key ≠ enc d := fun x => by
   rw [mem_erase hj]
   constructor
   ·rintro ⟨i, hi, hx⟩
    exact ⟨List.mem_of_getElem? (i := i) (by simpa using hx), fun e' => hi (idx_of_key hE.stamped hx e1 (by rw [e', e2]))⟩
   ·rintro ⟨hx, hk⟩
    obtain ⟨i, hi⟩ := List.getElem?_of_mem hx
    rw [Array.getElem?_toList] at hi
    exact ⟨i, fun e' => by subst e'; rw [e1] at hi; cases hi; exact hk e2, hi⟩
  refine ⟨{ w with heap := w.heap.setIfInBounds b (.map (es.eraseIdxIfInBounds j) clock) }, ?_, ⟨es.eraseIdxIfInBounds j, clock, since, seen, c0, hset _, ⟨MapKept.stamped_erase hE.stamped j, fun x hx => ?_, fun d' v' hf => ?_⟩, (hset' _).trans hr, hsc, hsk, fun x hx => hold x ((hmem x).1 hx).1, fun x => ?_⟩, ?_, grown_set _ _ _, by simp⟩
  ·simp [Builtin.delete_, run_underlying ht, MapKept.run_getObj_map hb, hK.check, e4, MapKept.run_setObj_map _ hb, Result.andThen]
  ·obtain ⟨h1, h2⟩ := (hmem x).1 hx
   obtain ⟨d', h3, h4⟩ := hE.mem x h1
   exact ⟨d', h3, by rw [delK_other (fun e' => h2 (by rw [h3, e']))]; exact h4⟩
  ·by_cases hd : d' = d
   ·subst hd; rw [delK_same] at hf; cases hf
   ·rw [delK_other hd] at hf
    obtain ⟨x, hx, hk⟩ := hE.has d' v' hf
    exact ⟨x, (hmem x).2 ⟨hx, fun e' => hd (hK.inj (hk.symm.trans e'))⟩, hk⟩
  ·show left x ∧ x ≠ d ↔ _
   rw [hleft]
   constructor
   ·rintro ⟨⟨y, h1, h2, h3⟩, hx⟩
    exact ⟨y, (hmem y).2 ⟨h1, fun e' => hx (hK.inj (h2.symm.trans e'))⟩, h2, h3⟩
   ·rintro ⟨y, h1, h2, h3⟩
    obtain ⟨h4, h5⟩ := (hmem y).1 h1
    exact ⟨⟨y, h4, h2, h3⟩, fun e' => h5 (by rw [h2, e'])⟩
  ·rw [leftN_is ((hset' _).trans hr) (hset _), leftN_is hr hb]
   rw [leftOf_size, leftOf_size]
   have e5 : (es.eraseIdxIfInBounds j).toList = es.toList.eraseIdx j := by simp [Array.eraseIdxIfInBounds, hj]
   rw [e5]
   exact List.Sublist.length_le ((List.eraseIdx_sublist _ _).filter _)
 ·refine ⟨{ w with heap := w.heap.setIfInBounds b (.map es clock) }, ?_, ⟨es, clock, since, seen, c0, hset _, hE.congr fun x => ?_, (hset' _).trans hr, hsc, hsk, hold, fun x => ?_⟩, ?_, grown_set _ _ _, by simp⟩
  ·simp [Builtin.delete_, run_underlying ht, MapKept.run_getObj_map hb, hK.check, e3, MapKept.run_setObj_map _ hb, Result.andThen]
  ·by_cases hx : x = d
   ·subst hx; rw [delK_same, e1]
   ·rw [delK_other hx]
  ·show left x ∧ x ≠ d ↔ _
   rw [hleft]
   constructor
   ·rintro ⟨h, _⟩; exact h
   ·rintro ⟨y, h1, h2, h3⟩
    exact ⟨⟨y, h1, h2, h3⟩, fun e' => e2 y h1 (by rw [h2, e'])⟩
  ·rw [leftN_is ((hset' _).trans hr) (hset _), leftN_is hr hb]; exact Nat.le_refl _
theorem heap_new_z (w : World) (o : Obj) : (w.alloc o).heap[w.heap.size]? = some o := by
 show (w.heap.push o)[w.heap.size]? = some o
 exact Array.getElem?_push_size
section
variable {P : Program} (w : World)
end
end Go.Proofs.YtcfpedjfofpnkaaGreatDoor
