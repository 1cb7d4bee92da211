import Derived.Test.YtiaedjnedoemoabDoorStTick
import Derived.Test.YtiaedjnedoemoabDoorDjMath
namespace Go.Proofs.YtiaedjnedoemoabDoor
open Go.RowKit Go.Proofs.Ord

theorem trim_zero (l : List Int) (h : ∀ t, l.getD t 0 = 0) : Vec.trim l = [] := by
  rw [Vec.trim_eq l 0 (Nat.zero_le _) (fun j _ => h j) (.inl rfl)]; rfl
theorem trim_ext : ∀ (l l' : List Int), (∀ t, l.getD t 0 = l'.getD t 0) → Vec.trim l = Vec.trim l'
  | [], l', h => by rw [trim_zero l' (fun t => by rw [← h t]; rfl)]; rfl
  | x :: r, [], h => by rw [trim_zero (x :: r) (fun t => by rw [h t]; rfl)]; rfl
  | x :: r, y :: s, h => by
    have h0 : x = y := by simpa using h 0
    have hr : Vec.trim r = Vec.trim s := trim_ext r s fun t => by simpa using h (t + 1)
    rw [Vec.trim, Vec.trim, h0, hr]

/-- Which events count for stamps of th threads. -/
def cnts (L : Nat → Ev) (th : Nat) (i : Nat) : Bool := decide (0 ≤ (L i).thread) && decide ((L i).thread < th)

theorem num_cnts (L : Nat → Ev) (th j : Nat) (t : Nat) : ∀ n, num L (cnts L th) (past L j) (t : Int) n = if t < th then cnt L j (t : Int) n else 0 := by
  intro n
  induction n with
  | zero => simp [num, cnt]
  | succ n ih =>
    rw [num, ih]
    by_cases ht : t < th
    · rw [if_pos ht, if_pos ht, cnt]
      congr 1
      have e : (cnts L th n = true ∧ (L n).thread = (t : Int) ∧ past L j n) ↔ upto L j (t : Int) n = true := by
        unfold upto past cnts
        rw [Bool.and_eq_true, Bool.and_eq_true, Bool.or_eq_true, decide_eq_true_eq, decide_eq_true_eq, beq_iff_eq, beq_iff_eq]
        constructor
        · rintro ⟨_, h2, h3⟩; exact ⟨h2, h3⟩
        · rintro ⟨h2, h3⟩; exact ⟨⟨by omega, by omega⟩, h2, h3⟩
      by_cases hu : upto L j (t : Int) n = true
      · rw [if_pos (e.2 hu), if_pos hu]
      · rw [if_neg (fun h => hu (e.1 h)), if_neg hu]
    · rw [if_neg ht, if_neg ht, if_neg]
      rintro ⟨h1, h2, _⟩
      unfold cnts at h1
      rw [Bool.and_eq_true, decide_eq_true_eq, decide_eq_true_eq] at h1
      omega

/-- A stamp's first page is the vector of F1. -/
theorem vector_stamp {L : Nat → Ev} {th j : Nat} (hth : th ≤ 64) {pg : Int → List Int} (h64 : ∀ p, (pg p).length ≤ 64) (hg : ∀ u, stampN L (cnts L th) j u = pageAt pg u) : Vec.maxV (pg 0) [] = stamp L th j := by
  have hpos : ∀ i, 0 ≤ (pg 0).getD i 0 := fun i => pages_pos hg h64 (stampN_nonneg L _ j) 0 i
  unfold Vec.maxV stamp
  refine trim_ext _ _ fun i => ?_
  have h1 : (Vec.maxUpto (pg 0) [] (max (pg 0).length ([] : List Int).length)).getD i 0 = (pg 0).getD i 0 := by
    by_cases hi : i < max (pg 0).length ([] : List Int).length
    · rw [Vec.maxUpto_getD _ _ _ _ hi]
      have := hpos i
      simp; simp at this; omega
    · rw [Vec.getD_past _ _ (by rw [Vec.maxUpto_len]; omega), Vec.getD_past _ _ (by omega)]
  rw [h1]
  by_cases hi : i < 64
  · have h2 := pageAt_at pg 0 i hi
    have h3 := hg (i : Int)
    rw [show (64 * (0 : Int) + (i : Int)) = (i : Int) from by omega] at h2
    rw [← h2, ← h3]
    unfold stampN
    rw [num_cnts]
    by_cases ht : i < th
    · rw [if_pos ht, full_getD L th j _ i ht]
    · rw [if_neg ht, Vec.getD_past _ _ (by rw [full_length]; omega)]; rfl
  · rw [Vec.getD_past _ _ (by have := h64 0; omega), Vec.getD_past _ _ (by rw [full_length]; omega)]
end Go.Proofs.YtiaedjnedoemoabDoor
