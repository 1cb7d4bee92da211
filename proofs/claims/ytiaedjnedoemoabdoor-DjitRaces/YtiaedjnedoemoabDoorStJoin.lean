import Derived.Test.YtiaedjnedoemoabDoorStLeq
import Derived.Laws.Externs
namespace Go.Proofs.YtiaedjnedoemoabDoor
open Go.RowKit Go.Proofs.Ord

theorem map_some (b : Nat) (u : World) : Sem.run Tryd.prog (binOp .eql 53 (.map (some b)) (.map none)) u = .ok (.bool false) u := by kernel_rfl

theorem assert_stamp (b : Nat) (u : World) : Sem.run Tryd.prog (Instr.typeAssert (.iface 53 (.map (some b))) 20 53 false) u = .ok (.map (some b)) u := by kernel_rfl

set_option maxRecDepth 100000 in
set_option maxHeartbeats 1000000 in
theorem sclone_any {b n : Nat} {f : Int → Option Value} (w : World) (hM : KMap ik w b f n) : Calls Tryd.prog 57 #[.map (some b)] w fun e w' => e = .returned (.map (some w.heap.size)) ∧ KMap ik w' w.heap.size f n ∧ Below w.heap.size w w' := by
  obtain ⟨w1, hr, hM1, hb1, hz1⟩ := hM.clone 53
  have hne := map_some b
  have hta := assert_stamp w.heap.size
  have hcall : Sem.run Tryd.prog (callFunc 68 #[.iface 53 (.map (some b))]) w = .ok (.value (.iface 53 (.map (some w.heap.size)))) w1 := by
    rw [run_callFunc_extern Tryd.func68 (by kernel_rfl) (by kernel_rfl) (by kernel_rfl) (e := Extern.MapsClone.clone) (by kernel_rfl), hr]
    rfl
  clear hr
  go_enter Tryd.func57, Tryd.ntmps57
  go_wp2
  go_ret
  exact ⟨rfl, hM1, hb1⟩

/-- The pages while those of another stamp are joined into them. -/
def halfway (pg pg' qs : Int → List Int) (left : Int → Prop) : Prop := ∀ p, (¬ left p → ∀ i, (qs p).getD i 0 = max ((pg p).getD i 0) ((pg' p).getD i 0)) ∧ (left p → qs p = pg p)

theorem grown_then {w w1 w2 : World} {b : Nat} (h1 : w.grownBy w1 (some b)) (h2 : w1.grownBy w2 (some b)) : w.grownBy w2 (some b) :=
  ⟨h2.os.trans h1.os, h2.tape.trans h1.tape, h2.output.trans h1.output, Nat.le_trans h1.size h2.size, fun k hk hne => (h2.block k (Nat.lt_of_lt_of_le hk h1.size) hne).trans (h1.block k hk hne)⟩
theorem grown_new {w w1 w2 : World} {b r : Nat} (h1 : w.grownBy w1 (some b)) (h2 : w1.grownBy w2 (some r)) (hr : w.heap.size ≤ r) : w.grownBy w2 (some b) :=
  ⟨h2.os.trans h1.os, h2.tape.trans h1.tape, h2.output.trans h1.output, Nat.le_trans h1.size h2.size, fun k hk hne => (h2.block k (Nat.lt_of_lt_of_le hk h1.size) (fun e => by cases e; omega)).trans (h1.block k hk hne)⟩
theorem grown_below {w w1 w2 : World} {b : Nat} (h1 : w.grownBy w1 (some b)) (h2 : Below w1.heap.size w1 w2) : w.grownBy w2 (some b) :=
  ⟨h2.os.trans h1.os, h2.tape.trans h1.tape, h2.output.trans h1.output, Nat.le_trans h1.size h2.size, fun k hk hne => (h2.block k (Nat.lt_of_lt_of_le hk h1.size)).trans (h1.block k hk hne)⟩
theorem below_grown {w w1 : World} {b : Nat} (h : Below w.heap.size w w1) : w.grownBy w1 (some b) := ⟨h.os, h.tape, h.output, h.size, fun k hk _ => h.block k hk⟩

set_option maxRecDepth 100000 in
set_option maxHeartbeats 1000000 in
/-- add: another stamp is joined into this one, which nobody else holds. -/
theorem add_any {S : Nat → Prop} {b : Nat} {f : Int → Option Value} {n : Nat} {b' n' : Nat} {f' : Int → Option Value} {pg pg' : Int → List Int} (w : World) (hM : KMap ik w b f n) (hP : Pages S w f pg) (hS' : S b') (hM' : KMap ik w b' f' n') (hP' : Pages S w f' pg') (hb : ¬ S b) (hlt : ∀ x, S x → x < w.heap.size) (hpos : ∀ p i, 0 ≤ (pg p).getD i 0) :
    Calls Tryd.prog 58 #[.map (some b), .map (some b')] w fun e w' => ∃ f2 n2 qs, e = .returned (.tuple #[]) ∧ KMap ik w' b f2 n2 ∧ Pages (fun x => S x ∨ (w.heap.size ≤ x ∧ x < w'.heap.size)) w' f2 qs ∧ (∀ p i, (qs p).getD i 0 = max ((pg p).getD i 0) ((pg' p).getD i 0)) ∧ w.grownBy w' (some b) := by
  have hpos := hide hpos
  obtain ⟨W0, hr, hit, hb0, hz0⟩ := hM'.range stamp_key Tryd.underlying53
  have hne : b' ≠ b := fun e => hb (e ▸ hS')
  have hbl := hM.lt
  have hbl' := hM'.lt
  have HX := hide (⟨hM.same (hb0.block _ hbl), (hP.any hb0).mono (S' := fun x => S x ∨ (w.heap.size < x ∧ x < W0.heap.size)) fun x _ h => .inl h⟩ : KMap ik W0 b f n ∧ Pages (fun x => S x ∨ (w.heap.size < x ∧ x < W0.heap.size)) W0 f pg)
  have hg0 : w.grownBy W0 (some b) := below_grown hb0
  clear hM hM' hP
  go_enter Tryd.func58, Tryd.ntmps58
  go_wp2_with fail
  go_loopw [4, 5, 8, 9, 10, 11, 12, 13, 14, 15, 16, 17, 18, 19] (fun _ _ _ _ _ _ _ _ _ _ _ _ _ _ wr => ∃ (left : Int → Prop) (f1 : Int → Option Value) (n1 : Nat) (qs : Int → List Int), KIter ik wr w.heap.size b' f' left ∧ KMap ik wr b f1 n1 ∧ Pages (fun x => S x ∨ (w.heap.size < x ∧ x < wr.heap.size)) wr f1 qs ∧ (∀ p, left p → (f' p).isSome) ∧ halfway pg pg' qs (fun p => left p ∨ f' p = none) ∧ w.grownBy wr (some b)) (fun _ _ _ _ _ _ _ _ _ _ _ _ _ _ wr => leftN wr w.heap.size b')
  case atStart =>
    refine ⟨_, f, n, pg, hit, HX.out.1, HX.out.2, fun p h => h, fun p => ⟨fun h => ?_, fun _ => rfl⟩, hg0⟩
    exfalso
    cases hf : f' p with
    | none => exact h (.inr hf)
    | some v => exact h (.inl (by rw [hf]; rfl))
  case round =>
    clear hit hb0 hr hg0 HX
    obtain ⟨left, f1, n1, qs, hit, hM, hP, hl0, hhalf, hg⟩ := hrel
    rcases hit.next stamp_key 0 with ⟨hnone, hnx⟩ | ⟨p, u, w1, hl, hf, hnx, hit1, hlt1, hg1, hz1, hen⟩
    · have HF : Hid (∀ p i, (qs p).getD i 0 = max ((pg p).getD i 0) ((pg' p).getD i 0)) := fun p i => by
        by_cases h : left p ∨ f' p = none
        · have e := (hhalf p).2 h
          rw [e]
          rcases h with h | h
          · exact absurd h (hnone p)
          · have := hpos.out p i
            rw [hP'.none_ p h]; simp; simp at this; omega
        · exact (hhalf p).1 h i
      have HM := hide hM
      have HP := hide (hP.mono (S' := fun x => S x ∨ (w.heap.size ≤ x ∧ x < wr.heap.size)) fun x _ h => h.imp id fun h => ⟨by omega, h.2⟩)
      have HG := hide hg
      clear hM hP hhalf hnone hit hl0 hg
      go_wp2
      go_end0
      exact ⟨f1, n1, qs, rfl, HM.out, HP.out, HF.out, HG.out⟩
    · have hrb : b ≠ w.heap.size := by omega
      have hM1 : KMap ik w1 b f1 n1 := hM.same (hg1.block _ hM.lt (by simpa using hrb))
      have hP1 : Pages (fun x => S x ∨ (w.heap.size < x ∧ x < w1.heap.size)) w1 f1 qs := by
        refine (hP.kept hg1.size fun x hx => ?_).mono fun x _ h => h.imp id fun h => ⟨h.1, by omega⟩
        have hxs : x < wr.heap.size := hx.elim (fun h => by have := hlt x h; have := hg.size; omega) (fun h => h.2)
        exact hg1.block x hxs (fun e => by
          have e' : x = w.heap.size := by simpa using e
          rcases hx with h | h
          · have := hlt x h; omega
          · omega)
      have hgw1 : w.grownBy w1 (some b) := grown_new hg hg1 (Nat.le_refl _)
      have hv1 : PageV (fun x => S x ∨ (w.heap.size < x ∧ x < w1.heap.size)) w1 u (pg' p) := by
        refine ((hP'.some_ p u hf).kept hgw1.size fun x hx => hgw1.block x (hlt x hx) (fun e => ?_)).mono fun x _ h => .inl h
        have e' : x = b := by simpa using e
        exact hb (e' ▸ hx)
      have hu1 := hP1.at p
      have hlk := hM1.look stamp_key Tryd.underlying53 (zero_page w1) p
      have hbl' : Hid (b' < w.heap.size ∧ b' ≠ w.heap.size) := ⟨by omega, by omega⟩
      generalize (f1 p).getD (.slice none 0 0) = cu at hu1 hlk
      have hfin : Hid (∀ (w2 : World) (ru : Value) (zs : List Int), (∀ i, zs.getD i 0 = max ((qs p).getD i 0) ((pg' p).getD i 0)) → PageV (fun x => (S x ∨ (w.heap.size < x ∧ x < w1.heap.size)) ∨ (w1.heap.size ≤ x ∧ x < w2.heap.size)) w2 ru zs → Below w1.heap.size w1 w2 →
          ∃ w3, Sem.run Tryd.prog (Instr.mapUpdate 53 (.map (some b)) (.int .i64 p) ru) w2 = .ok () w3 ∧ (∃ (left : Int → Prop) (f1 : Int → Option Value) (n1 : Nat) (qs : Int → List Int), KIter ik w3 w.heap.size b' f' left ∧ KMap ik w3 b f1 n1 ∧ Pages (fun x => S x ∨ (w.heap.size < x ∧ x < w3.heap.size)) w3 f1 qs ∧ (∀ p, left p → (f' p).isSome) ∧ halfway pg pg' qs (fun p => left p ∨ f' p = none) ∧ w.grownBy w3 (some b)) ∧ leftN w3 w.heap.size b' < leftN wr w.heap.size b') := by
        intro w2 ru zs hzs hru hb2
        have hs2 := hb2.size
        have hs1 : w.heap.size < w1.heap.size := hit1.lt
        obtain ⟨w3, hrun, hM3, hg3, hz3⟩ := (hM1.same (hb2.block _ hM1.lt)).put stamp_key Tryd.underlying53 p ru
        have hP2 : Pages (fun x => S x ∨ (w.heap.size < x ∧ x < w2.heap.size)) w2 f1 qs := (hP1.any hb2).mono fun x _ h => h.imp id fun h => ⟨h.1, by omega⟩
        have hru2 : PageV (fun x => S x ∨ (w.heap.size < x ∧ x < w2.heap.size)) w2 ru zs := hru.mono fun x _ h => h.elim (fun h => h.imp id fun h => ⟨h.1, by omega⟩) (fun h => .inr ⟨by omega, h.2⟩)
        have hP3 := ((hP2.put p hru2).kept (w' := w3) (by omega) fun x hx => hg3.block x (hx.elim (fun h => by have := hlt x h; omega) (fun h => h.2)) (fun e => by
          have e' : x = b := by simpa using e
          rcases hx with h | h
          · exact hb (e' ▸ h)
          · omega))
        have hr3 : w3.heap[w.heap.size]? = w1.heap[w.heap.size]? := (hg3.block _ (by omega) (by simp; omega)).trans (hb2.block _ hs1)
        have hb3 : w3.heap[b']? = w1.heap[b']? := (hg3.block _ (by have := hbl'.out.1; omega) (by simpa using hne)).trans (hb2.block _ (by have := hbl'.out.1; omega))
        refine ⟨w3, hrun, ⟨_, _, _, _, hit1.same hr3 hb3, hM3, hP3.mono fun x _ h => h.imp id fun h => ⟨h.1, by omega⟩, fun q h => hl0 q h.1, fun q => ?_, grown_then (grown_below hgw1 hb2) hg3⟩, by rw [leftN_same hr3 hb3]; exact hlt1⟩
        by_cases e : q = p
        · subst e
          refine ⟨fun _ i => ?_, fun h => ?_⟩
          · show (if q = q then zs else qs q).getD i 0 = _
            rw [if_pos rfl, hzs, (hhalf q).2 (.inl hl)]
          · rcases h with h | h
            · exact absurd rfl h.2
            · rw [hf] at h; cases h
        · refine ⟨fun h i => ?_, fun h => ?_⟩
          · show (if q = p then zs else qs q).getD i 0 = _
            rw [if_neg e]; exact (hhalf q).1 (fun h' => h (h'.imp (fun h' => ⟨h', e⟩) id)) i
          · show (if q = p then zs else qs q) = _
            rw [if_neg e]; exact (hhalf q).2 (h.imp (fun h => h.1) id)
      have hpk : ik p = .int .i64 p := rfl
      rw [hpk] at hnx hen hlk
      clear hM hP hl0 hhalf hit hit1 hlt1 hM1 hP1 hg hg1 hgw1 hf hl hbl'
      go_wp2_with (go_at_call 69; refine (higher_any _ hu1 hv1).mono ?_; rintro e w2 ⟨ru, zs, rfl, hzs, hru, hb2⟩; obtain ⟨w3, hrun3, hrel3, hmea3⟩ := hfin.out w2 ru zs hzs hru hb2; clear hzs hru hb2)
      go_roundw
      case rel => exact hrel3
      case measure => exact hmea3
end Go.Proofs.YtiaedjnedoemoabDoor
