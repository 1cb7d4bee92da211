import Derived.Test.YtiaedjnedoemoabDoorKMap
import Derived.Test.YtiaedjnedoemoabDoorSlBase
import Derived.Test.YtiaedjnedoemoabDoorFlowMath
namespace Go.Proofs.YtiaedjnedoemoabDoor
open Go.RowKit Go.Proofs.Ord

/-- A number that an int can be. -/
def In64 (t : Int) : Prop := -9223372036854775808 ≤ t ∧ t ≤ 9223372036854775807

/-- A page, in blocks of S. -/
def PageV (S : Nat → Prop) (w : World) (v : Value) (zs : List Int) : Prop :=
  ∃ a cap, v = .slice a zs.length cap ∧ SlV w a zs.length cap zs ∧ zs.length ≤ 64 ∧ ∀ b off, a = some ⟨b, off, none⟩ → 0 < zs.length → S b

/-- The number of thread u, on pages. -/
def pageAt (pg : Int → List Int) (u : Int) : Int := (pg (u / 64)).getD (u % 64).toNat 0

structure Pages (S : Nat → Prop) (w : World) (f : Int → Option Value) (pg : Int → List Int) : Prop where
  some_ : ∀ p v, f p = some v → PageV S w v (pg p)
  none_ : ∀ p, f p = none → pg p = []

/-- A stamp of these pages, in blocks of S. -/
def StampP (S : Nat → Prop) (w : World) (v : Value) (pg : Int → List Int) : Prop :=
  (v = .map none ∧ ∀ p, pg p = []) ∨ ∃ b f n, v = .map (some b) ∧ S b ∧ KMap ik w b f n ∧ Pages S w f pg
/-- A stamp of these numbers. -/
def StampV (S : Nat → Prop) (w : World) (v : Value) (g : Int → Int) : Prop := ∃ pg, (∀ u, g u = pageAt pg u) ∧ StampP S w v pg

theorem pageV_nil (S : Nat → Prop) (w : World) : PageV S w (.slice none 0 0) [] := ⟨none, 0, rfl, ⟨rfl, Nat.le_refl _, by omega, fun _ => rfl, fun i hi => absurd hi (by simp), by simp⟩, by simp, fun b off h => by cases h⟩

theorem slV_keptB {w w' : World} {a : Option Addr} {n cap : Nat} {zs : List Int} (h : SlV w a n cap zs) (hs : w.heap.size ≤ w'.heap.size) (hb : ∀ b off, a = some ⟨b, off, none⟩ → 0 < zs.length → w'.heap[b]? = w.heap[b]?) : SlV w' a n cap zs := by
  refine ⟨h.1, h.2.1, h.2.2.1, h.2.2.2.1, fun i hi => ?_, h.2.2.2.2.2⟩
  obtain ⟨b, off, ha, hlt, hc⟩ := h.2.2.2.2.1 i hi
  exact ⟨b, off, ha, by omega, (World.cell?_of_block (w := w) (a := ⟨b, off + i, none⟩) (hb b off ha (by omega))).trans hc⟩
theorem PageV.kept {S : Nat → Prop} {w w' : World} {v : Value} {zs : List Int} (h : PageV S w v zs) (hs : w.heap.size ≤ w'.heap.size) (hb : ∀ b, S b → w'.heap[b]? = w.heap[b]?) : PageV S w' v zs := by
  obtain ⟨a, cap, e, h1, h2, h3⟩ := h
  exact ⟨a, cap, e, slV_keptB h1 hs (fun b off ha h0 => hb b (h3 b off ha h0)), h2, h3⟩
theorem PageV.mono {S S' : Nat → Prop} {w : World} {v : Value} {zs : List Int} (h : PageV S w v zs) (hS : ∀ b, b < w.heap.size → S b → S' b) : PageV S' w v zs := by
  obtain ⟨a, cap, e, h1, h2, h3⟩ := h
  refine ⟨a, cap, e, h1, h2, fun b off ha h0 => hS b ?_ (h3 b off ha h0)⟩
  obtain ⟨b', off', ha', hlt, _⟩ := h1.2.2.2.2.1 0 h0
  rw [ha] at ha'; cases ha'; exact hlt
/-- A new page. -/
theorem New.page {S : Nat → Prop} {B : Nat} {w : World} {v : Value} {zs : List Int} (h : New B w v zs) (hl : zs.length ≤ 64) (hS : ∀ b, B ≤ b → b < w.heap.size → S b) : PageV S w v zs := by
  obtain ⟨a, cap, rfl, h1, h2, h3, h4⟩ := id h
  refine ⟨a, cap, rfl, h.slV (by omega), hl, fun b off ha h0 => ?_⟩
  obtain ⟨b', off', ha', hB, hlt, _⟩ := h4 0 h0
  rw [ha] at ha'; cases ha'; exact hS b hB hlt
theorem Pages.kept {S : Nat → Prop} {w w' : World} {f : Int → Option Value} {pg : Int → List Int} (h : Pages S w f pg) (hs : w.heap.size ≤ w'.heap.size) (hb : ∀ b, S b → w'.heap[b]? = w.heap[b]?) : Pages S w' f pg :=
  ⟨fun p v hf => (h.some_ p v hf).kept hs hb, h.none_⟩
theorem Pages.mono {S S' : Nat → Prop} {w : World} {f : Int → Option Value} {pg : Int → List Int} (h : Pages S w f pg) (hS : ∀ b, b < w.heap.size → S b → S' b) : Pages S' w f pg :=
  ⟨fun p v hf => (h.some_ p v hf).mono hS, h.none_⟩
theorem Pages.at {S : Nat → Prop} {w : World} {f : Int → Option Value} {pg : Int → List Int} (h : Pages S w f pg) (p : Int) : PageV S w ((f p).getD (.slice none 0 0)) (pg p) := by
  cases hf : f p with
  | none => rw [h.none_ p hf]; exact pageV_nil S w
  | some v => exact h.some_ p v hf
theorem Pages.put {S : Nat → Prop} {w : World} {f : Int → Option Value} {pg : Int → List Int} (h : Pages S w f pg) (p : Int) {v : Value} {zs : List Int} (hv : PageV S w v zs) : Pages S w (putK f p v) (fun q => if q = p then zs else pg q) := by
  refine ⟨fun q u hq => ?_, fun q hq => ?_⟩
  · by_cases e : q = p
    · subst e; rw [putK_same] at hq; cases hq; rw [if_pos rfl]; exact hv
    · rw [putK_other v e] at hq; rw [if_neg e]; exact h.some_ q u hq
  · by_cases e : q = p
    · subst e; rw [putK_same] at hq; cases hq
    · rw [putK_other v e] at hq; rw [if_neg e]; exact h.none_ q hq
theorem pages_none (S : Nat → Prop) (w : World) : Pages S w (fun _ => none) (fun _ => []) := ⟨(fun p v h => by cases h), fun _ _ => rfl⟩

theorem StampP.kept {S : Nat → Prop} {w w' : World} {v : Value} {pg : Int → List Int} (h : StampP S w v pg) (hs : w.heap.size ≤ w'.heap.size) (hb : ∀ b, S b → w'.heap[b]? = w.heap[b]?) : StampP S w' v pg := by
  rcases h with ⟨h1, h2⟩ | ⟨b, f, n, h1, h2, h3, h4⟩
  · exact .inl ⟨h1, h2⟩
  · exact .inr ⟨b, f, n, h1, h2, h3.same (hb b h2), h4.kept hs hb⟩
theorem StampP.mono {S S' : Nat → Prop} {w : World} {v : Value} {pg : Int → List Int} (h : StampP S w v pg) (hS : ∀ b, b < w.heap.size → S b → S' b) : StampP S' w v pg := by
  rcases h with ⟨h1, h2⟩ | ⟨b, f, n, h1, h2, h3, h4⟩
  · exact .inl ⟨h1, h2⟩
  · exact .inr ⟨b, f, n, h1, hS b h3.lt h2, h3, h4.mono hS⟩
theorem StampV.kept {S : Nat → Prop} {w w' : World} {v : Value} {g : Int → Int} (h : StampV S w v g) (hs : w.heap.size ≤ w'.heap.size) (hb : ∀ b, S b → w'.heap[b]? = w.heap[b]?) : StampV S w' v g := by
  obtain ⟨pg, h1, h2⟩ := h; exact ⟨pg, h1, h2.kept hs hb⟩
theorem StampV.mono {S S' : Nat → Prop} {w : World} {v : Value} {g : Int → Int} (h : StampV S w v g) (hS : ∀ b, b < w.heap.size → S b → S' b) : StampV S' w v g := by
  obtain ⟨pg, h1, h2⟩ := h; exact ⟨pg, h1, h2.mono hS⟩
theorem StampV.congr {S : Nat → Prop} {w : World} {v : Value} {g g' : Int → Int} (h : StampV S w v g) (hg : ∀ u, g' u = g u) : StampV S w v g' := by
  obtain ⟨pg, h1, h2⟩ := h; exact ⟨pg, fun u => (hg u).trans (h1 u), h2⟩
theorem stampV_nil (S : Nat → Prop) (w : World) : StampV S w (.map none) (fun _ => 0) := ⟨fun _ => [], fun u => by simp [pageAt], .inl ⟨rfl, fun _ => rfl⟩⟩
theorem StampP.shape {S : Nat → Prop} {w : World} {v : Value} {pg : Int → List Int} (h : StampP S w v pg) : ∃ m, v = .map m := by
  rcases h with ⟨h1, _⟩ | ⟨b, _, _, h1, _⟩
  · exact ⟨_, h1⟩
  · exact ⟨_, h1⟩
theorem StampP.len64 {S : Nat → Prop} {w : World} {v : Value} {pg : Int → List Int} (h : StampP S w v pg) (p : Int) : (pg p).length ≤ 64 := by
  rcases h with ⟨_, h2⟩ | ⟨b, f, n, _, _, _, h4⟩
  · rw [h2 p]; simp
  · obtain ⟨_, _, _, _, h, _⟩ := h4.at p; exact h
/-- What holds in blocks below the heap's end. -/
theorem StampV.any {S : Nat → Prop} {w w' : World} {v : Value} {g : Int → Int} (h : StampV S w v g) (hb : Below w.heap.size w w') : StampV S w' v g := by
  have h1 : StampV (fun b => S b ∧ b < w.heap.size) w v g := h.mono fun b hb hS => ⟨hS, hb⟩
  exact (h1.kept hb.size fun b hS => hb.block b hS.2).mono fun b _ hS => hS.1
theorem StampP.any {S : Nat → Prop} {w w' : World} {v : Value} {pg : Int → List Int} (h : StampP S w v pg) (hb : Below w.heap.size w w') : StampP S w' v pg := by
  have h1 : StampP (fun b => S b ∧ b < w.heap.size) w v pg := h.mono fun b hb hS => ⟨hS, hb⟩
  exact (h1.kept hb.size fun b hS => hb.block b hS.2).mono fun b _ hS => hS.1
theorem PageV.any {S : Nat → Prop} {w w' : World} {v : Value} {zs : List Int} (h : PageV S w v zs) (hb : Below w.heap.size w w') : PageV S w' v zs := by
  have h1 : PageV (fun b => S b ∧ b < w.heap.size) w v zs := h.mono fun b hb hS => ⟨hS, hb⟩
  exact (h1.kept hb.size fun b hS => hb.block b hS.2).mono fun b _ hS => hS.1
theorem Pages.any {S : Nat → Prop} {w w' : World} {f : Int → Option Value} {pg : Int → List Int} (h : Pages S w f pg) (hb : Below w.heap.size w w') : Pages S w' f pg :=
  ⟨fun p v hf => (h.some_ p v hf).any hb, h.none_⟩

theorem page_of (p : Int) (i : Nat) (h : i < 64) : (64 * p + i) / 64 = p ∧ ((64 * p + i) % 64).toNat = i := by omega
theorem pageAt_at (pg : Int → List Int) (p : Int) (i : Nat) (h : i < 64) : pageAt pg (64 * p + i) = (pg p).getD i 0 := by
  unfold pageAt; rw [(page_of p i h).1, (page_of p i h).2]
/-- Nowhere above, page by page. -/
theorem pages_leq {pg pg' : Int → List Int} (h : ∀ p, (pg p).length ≤ 64) (h' : ∀ p, (pg' p).length ≤ 64) : (∀ u, pageAt pg u ≤ pageAt pg' u) ↔ ∀ p, Vec.leq (pg p) (pg' p) = true := by
  constructor
  · intro ha p
    rw [Vec.leq_iff]
    intro i
    by_cases hi : i < 64
    · have := ha (64 * p + i); rwa [pageAt_at _ _ _ hi, pageAt_at _ _ _ hi] at this
    · rw [Vec.getD_past _ _ (by have := h p; omega), Vec.getD_past _ _ (by have := h' p; omega)]; exact Int.le_refl _
  · exact fun ha u => (Vec.leq_iff _ _).1 (ha _) _
theorem tickV_len64 (f : Int → Int) (xs : List Int) (t : Nat) (h : xs.length ≤ 64) (ht : t < 64) : (Vec.tickV f xs t).length ≤ 64 := by
  unfold Vec.tickV
  have h1 := Vec.trim_len (Vec.tickUpto f xs t (Vec.tickLen xs t))
  rw [Vec.tickUpto_len] at h1
  have h2 : Vec.tickLen xs t ≤ 64 := by unfold Vec.tickLen; split <;> omega
  omega
end Go.Proofs.YtiaedjnedoemoabDoor
