import Derived.Test.YtiaedjnedoemoabDoorSetBase
namespace Go.Proofs.YtiaedjnedoemoabDoor
open Go.RowKit

/-- Two sets as one. -/
def joinUpto (s o : List Nat) (k : Nat) : List Nat := (List.range (max s.length o.length)).map fun i => if i < k then s.getD i 0 ||| o.getD i 0 else s.getD i 0
def joinL (s o : List Nat) : List Nat := joinUpto s o o.length
theorem joinUpto_len (s o : List Nat) (k : Nat) : (joinUpto s o k).length = max s.length o.length := by simp [joinUpto]
theorem joinL_len (s o : List Nat) : (joinL s o).length = max s.length o.length := joinUpto_len _ _ _
theorem getDN_eq {l : List Nat} {i : Nat} (h : i < l.length) : l.getD i 0 = l[i] := by simp [h]
theorem getDN_past {l : List Nat} {i : Nat} (h : l.length ≤ i) : l.getD i 0 = 0 := by simp [h]
theorem joinUpto_getD (s o : List Nat) (k i : Nat) (h : i < max s.length o.length) : (joinUpto s o k).getD i 0 = if i < k then s.getD i 0 ||| o.getD i 0 else s.getD i 0 := by
  rw [getDN_eq (by rw [joinUpto_len]; exact h)]
  simp [joinUpto]
theorem joinL_getD (s o : List Nat) (i : Nat) : (joinL s o).getD i 0 = s.getD i 0 ||| o.getD i 0 := by
  by_cases h : i < max s.length o.length
  · rw [joinL, joinUpto_getD _ _ _ _ h]
    split
    · rfl
    · rw [getDN_past (l := o) (by omega)]; simp
  · rw [getDN_past (by rw [joinL_len]; omega), getDN_past (by omega), getDN_past (by omega)]; rfl
theorem extN {l l' : List Nat} (hl : l.length = l'.length) (h : ∀ i, i < l.length → l.getD i 0 = l'.getD i 0) : l = l' := by
  apply List.ext_getElem hl
  intro i h1 h2
  have := h i h1
  rwa [getDN_eq h1, getDN_eq h2] at this
theorem joinUpto_zero (s o : List Nat) : joinUpto s o 0 = wordsL s o.length := by
  refine extN (by rw [joinUpto_len, wordsL_len]) fun i hi => ?_
  rw [joinUpto_len] at hi
  rw [joinUpto_getD _ _ _ _ hi, wordsL_getD, if_neg (by omega)]
theorem joinUpto_succ (s o : List Nat) (k : Nat) (hk : k < o.length) : joinUpto s o (k + 1) = (joinUpto s o k).set k (s.getD k 0 ||| o.getD k 0) := by
  refine extN (by rw [joinUpto_len, List.length_set, joinUpto_len]) fun i hi => ?_
  rw [joinUpto_len] at hi
  rw [joinUpto_getD _ _ _ _ hi]
  by_cases e : i = k
  · subst e
    have hl : i < ((joinUpto s o i).set i (s.getD i 0 ||| o.getD i 0)).length := by rw [List.length_set, joinUpto_len]; exact hi
    rw [if_pos (by omega), getDN_eq hl, List.getElem_set_self]
  · have h1 : ((joinUpto s o k).set k (s.getD k 0 ||| o.getD k 0)).getD i 0 = (joinUpto s o k).getD i 0 := by
      rw [List.getD_eq_getElem?_getD, List.getElem?_set_ne (fun h => e h.symm), ← List.getD_eq_getElem?_getD]
    rw [h1, joinUpto_getD _ _ _ _ hi]
    by_cases h2 : i < k
    · rw [if_pos (by omega), if_pos h2]
    · rw [if_neg (by omega), if_neg h2]

theorem bit_join (s o : List Nat) (n : Nat) : bitOf (joinL s o) n = (bitOf s n || bitOf o n) := by
  unfold bitOf; rw [joinL_getD, Nat.testBit_or]
theorem bit_with (ws : List Nat) (n m : Nat) : bitOf (withL ws n) m = (bitOf ws m || decide (m = n)) := by
  have hl := withL_len ws n
  unfold bitOf
  by_cases e : m / 64 = n / 64
  · have h1 : (withL ws n).getD (m / 64) 0 = ws.getD (n / 64) 0 ||| 2 ^ (n % 64) := by
      rw [e, getDN_eq (by rw [hl]; omega)]; unfold withL; rw [List.getElem_set_self]
    rw [h1, Nat.testBit_or, e, Nat.testBit_two_pow]
    have : decide (n % 64 = m % 64) = decide (m = n) := decide_eq_decide.2 (by omega)
    rw [this]
  · have h1 : (withL ws n).getD (m / 64) 0 = ws.getD (m / 64) 0 := by
      unfold withL
      rw [List.getD_eq_getElem?_getD, List.getElem?_set_ne (fun h => e h.symm), ← List.getD_eq_getElem?_getD, wordsL_getD]
    have h2 : decide (m = n) = false := decide_eq_false (fun h => e (by rw [h]))
    rw [h1, h2, Bool.or_false]
theorem bit_nil (n : Nat) : bitOf [] n = false := by simp [bitOf]

theorem joinUpto_lt {s o : List Nat} (hs : ∀ x, x ∈ s → x < 18446744073709551616) (ho : ∀ x, x ∈ o → x < 18446744073709551616) (k : Nat) : ∀ x, x ∈ joinUpto s o k → x < 18446744073709551616 := by
  intro x hx
  have hd : ∀ (l : List Nat), (∀ x, x ∈ l → x < 18446744073709551616) → ∀ i, l.getD i 0 < 18446744073709551616 := fun l hl i => by
    by_cases h : i < l.length
    · rw [getDN_eq h]; exact hl _ (List.getElem_mem _)
    · rw [getDN_past (by omega)]; decide
  obtain ⟨i, _, rfl⟩ := List.mem_map.1 hx
  show (if i < k then _ else _) < _
  split
  · exact Nat.or_lt_two_pow (n := 64) (hd s hs i) (hd o ho i)
  · exact hd s hs i

/-- The words of the other set lie in another block than the set's, or they are a beginning of the set's own. -/
def Beside (v : Value) (s : List Nat) (ao : Option Addr) (o : List Nat) : Prop :=
  (∀ b, ao = some b → v.ownBlock ≠ some b.block) ∨ (∃ g c, v = .slice (some ⟨g, 0, none⟩) s.length c ∧ ao = some ⟨g, 0, none⟩ ∧ o.length ≤ s.length ∧ ∀ i, i < o.length → o.getD i 0 = s.getD i 0)

set_option maxRecDepth 100000 in
set_option maxHeartbeats 400000 in
theorem join_any (B : Nat) (v : Value) (s : List Nat) (ao : Option Addr) (co : Nat) (o : List Nat) (w : World) (hB : B ≤ w.heap.size) (h : SetO B w v s) (hlen : s.length ≤ 1048576) (hlo : o.length ≤ 1048576)
    (hco : o.length ≤ co) (ho : SetR w ao o) (hob : ∀ x, x ∈ o → x < 18446744073709551616) (hne : Beside v s ao o) :
    Calls Tryd.prog 41 #[v, .slice ao o.length co] w fun e w' => ∃ v', e = .returned v' ∧ SetO B w' v' (joinL s o) ∧ w.grownBy w' v.ownBlock ∧ (v'.ownBlock = v.ownBlock ∨ (v'.ownBlock = some w.heap.size ∧ w.grownBy w' none)) := by
  have hW := words_any B v s o.length w hB h hlo
  rw [← joinUpto_zero] at hW
  obtain ⟨m, hm⟩ : ∃ m, o.length = m := ⟨_, rfl⟩
  obtain ⟨M, hM⟩ : ∃ M, max s.length o.length = M := ⟨_, rfl⟩
  have hread : Hid (∀ (v1 : Value) (k : Nat) (wr : World), (m ≤ s.length → v1 = v) → k < m → SetO B wr v1 (joinUpto s o k) → w.grownBy wr v.ownBlock → ∃ b off, ao = some ⟨b, off, none⟩ ∧ wr.cell? ⟨b, off + k, none⟩ = some (encU (o.getD k 0))) := by
    intro v1 k wr hv1 hk hS hg
    rcases hne with hne | ⟨g, c, rfl, rfl, hle, heq⟩
    · obtain ⟨b, off, rfl, hb, hc⟩ := ho k (by omega)
      exact ⟨b, off, rfl, hg.cell hc (fun e => hne _ rfl e.symm)⟩
    · obtain rfl := hv1 (by omega)
      refine ⟨g, 0, rfl, ?_⟩
      have h1 : max s.length o.length = s.length := by omega
      have h2 := hS.1
      rw [joinUpto_len, h1] at h2
      rw [Nat.zero_add, h2.cellAt k (by omega), map_encU (by rw [joinUpto_len]; omega), joinUpto_getD _ _ _ _ (by omega), if_neg (by omega), heq k (by omega)]
  have hjl : joinL s o = joinUpto s o m := by rw [← hm]; rfl
  rw [hjl]
  have HM := hide' hM
  rw [hm] at hW hco hlo ⊢
  have Hm := hide' hm
  have hM8 : M ≤ 1048576 := by omega
  have hmM : m ≤ M := by omega
  have hbl : ∀ k x, x ∈ joinUpto s o k → x < 18446744073709551616 := joinUpto_lt h.2 hob
  have Hbl := hide' hbl
  clear hm hM hjl hne hbl ho
  go_enter Tryd.func41, Tryd.ntmps41
  go_wp2_with (go_at_call 45; refine hW.mono ?_; clear hW; rintro e w1 ⟨v1, rfl, hS1, hg1, hb1, hsm⟩)
  have Hsm : Hid (m ≤ s.length → v1 = v) := fun h => (hsm h).2
  clear hsm
  go_loopw [13] (fun i wr => ∃ k : Nat, k ≤ m ∧ i = .int .i64 k ∧ SetO B wr v1 (joinUpto s o k) ∧ w.grownBy wr v.ownBlock ∧ (v1.ownBlock = v.ownBlock ∨ (v1.ownBlock = some w.heap.size ∧ w.grownBy wr none))) (fun i _ => m - (intOf i).toNat)
  case atStart => exact ⟨0, Nat.zero_le _, rfl, hS1, hg1, hb1⟩
  case round =>
    obtain ⟨k, hk, rfl, hS, hg, hbk⟩ := hrel
    clear hb1
    by_cases hlt : k < m
    · have hjl : (joinUpto s o k).length = M := (joinUpto_len _ _ _).trans HM.out
      obtain ⟨b, off, rfl, hco1⟩ := hread.out v1 k wr Hsm.out hlt hS hg
      obtain ⟨g, c1, hv1, -, hc2, hc3⟩ := setO_pos hS (by omega)
      rw [hjl] at hv1 hc2
      subst hv1
      have hown := hS.1
      rw [hjl] at hown
      have hcell := (hown.cellAt k (by omega)).trans (map_encU (by omega))
      have hfr := hown.frozenAt k
      rw [joinUpto_getD _ _ _ _ (by have := HM.out; omega), if_neg (by omega)] at hcell
      obtain ⟨x, hx⟩ : ∃ x, Hid (s.getD k 0 = x) := ⟨_, rfl⟩
      obtain ⟨y, hy⟩ : ∃ y, Hid (o.getD k 0 = y) := ⟨_, rfl⟩
      rw [hx.out] at hcell
      rw [hy.out] at hco1
      have hxl : x < 18446744073709551616 := by
        have h1 := Hbl.out k ((joinUpto s o k).getD k 0) (by rw [getDN_eq (by omega)]; exact List.getElem_mem _)
        rwa [joinUpto_getD _ _ _ _ (by have := HM.out; omega), if_neg (by omega), hx.out] at h1
      have hyl : y < 18446744073709551616 := by
        rw [← hy.out, getDN_eq (by have := Hm.out; omega)]; exact hob _ (List.getElem_mem _)
      have hval : Hid (bits BinOp.or IntKind.u64 (x : Int) (y : Int) = ((x ||| y : Nat) : Int)) := bits_or hxl hyl
      have hst := hown.stored k (encU (x ||| y))
      have hfin : Hid (SetO B (wr.setCell ⟨g, k, none⟩ (encU (x ||| y))) (.slice (some ⟨g, 0, none⟩) M c1) (joinUpto s o (k + 1)) ∧ w.grownBy (wr.setCell ⟨g, k, none⟩ (encU (x ||| y))) v.ownBlock ∧
          (Value.ownBlock (.slice (some ⟨g, 0, none⟩) M c1) = v.ownBlock ∨ (Value.ownBlock (.slice (some ⟨g, 0, none⟩) M c1) = some w.heap.size ∧ w.grownBy (wr.setCell ⟨g, k, none⟩ (encU (x ||| y))) none))) := by
        refine ⟨⟨?_, Hbl.out (k + 1)⟩, ?_, ?_⟩
        · rw [joinUpto_len, HM.out, joinUpto_succ _ _ _ (by have := Hm.out; omega), List.map_set, hx.out, hy.out]; exact hst.1
        · refine grownBy_trans hg hst.2 (fun g' e => ?_)
          cases e
          rcases hbk with h1 | ⟨h1, _⟩
          · exact .inl (h1.symm.trans rfl)
          · cases h1; exact .inr (Nat.le_refl _)
        · rcases hbk with h1 | ⟨h1, h2⟩
          · exact .inl h1
          · exact .inr ⟨h1, grownBy_trans h2 hst.2 (fun g' e => by cases e; cases h1; exact .inr (Nat.le_refl _))⟩
      unfold encU at hcell hco1
      clear hst hown hS hg hjl hbk
      go_wp2
      rw [hval.out]
      go_roundw
      case rel => exact ⟨k + 1, by omega, by go_num, hfin.out.1, hfin.out.2.1, hfin.out.2.2⟩
      case measure => simp [intOf]; omega
    · obtain rfl : k = m := by omega
      go_wp2
      go_ret
      exact ⟨_, rfl, hS, hg, hbk⟩
end Go.Proofs.YtiaedjnedoemoabDoor
