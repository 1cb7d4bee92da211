import Derived.Test.YtcfpedjfofpnkaaGreatDoorRv0
import Derived.Test.YtcfpedjfofpnkaaGreatDoorRv6
import Derived.Test.YtcfpedjfofpnkaaGreatDoorRv7
import Derived.Test.YtcfpedjfofpnkaaGreatDoorRv5
set_option linter.unusedVariables false
set_option linter.unusedSimpArgs false
namespace Go.Proofs.YtcfpedjfofpnkaaGreatDoor
open Go.RowKit Go.Proofs.Cod
theorem c_ret_int {k : IntKind} {a b : Int} (h : a = b) : Ending.returned (.int k a) = .returned (.int k b) := by rw [h]
def regZ (t : Tx) : Int := if isReg t then ((t.getD 1 0).toNat : Int) - 48 else -1
theorem regZ_pair (a b : UInt8) : regZ [a, b] = if ((a.toNat : Int) = 114 ∧ 48 ≤ (b.toNat : Int) ∧ (b.toNat : Int) ≤ 51) then (b.toNat : Int) - 48 else -1 := by
 unfold regZ isReg
 simp only [Bool.and_eq_true, decide_eq_true_eq, and_assoc]
 rfl
theorem isReg_len {t : Tx} (h : t.length ≠ 2) : isReg t = false := by
 match t, h with
 | [], _ => rfl
 | [_], _ => rfl
 | _ :: _ :: _ :: _, _ => rfl
theorem regZ_nonneg (t : Tx) : (0 ≤ regZ t) ↔ isReg t = true := by
 unfold regZ
 cases hr : isReg t with
 | false => simp
 | true =>
  simp only [if_true, iff_true]
  match t, hr with
  | [a, b], hr =>
   unfold isReg at hr
   simp only [Bool.and_eq_true, decide_eq_true_eq] at hr
   show 0 ≤ (b.toNat : Int) - 48
   omega
set_option maxHeartbeats 400000 in
theorem rReg_any (t : Tx) (w : World) : Calls Tryz.prog 102 #[.string (bs t)] w fun e w' => e = .returned (.int .i64 (regZ t)) ∧ w' = w := by
 have hz := bs_size t
 by_cases h2 : t.length = 2
 ·obtain ⟨a, b, rfl⟩ : ∃ a b, t = [a, b] := by
   match t, h2 with
   | [a, b], _ => exact ⟨a, b, rfl⟩
  have h0 : ∀ h, (bs [a, b])[0]'h = a := fun h => bs_get _ 0 h
  have h1 : ∀ h, (bs [a, b])[1]'h = b := fun h => bs_get _ 1 h
  have hz2 : (bs [a, b]).size = 2 := hz
  have HR := hide (regZ_pair a b)
  obtain ⟨r, hr⟩ : ∃ r, Hid (regZ [a, b] = r) := ⟨_, rfl⟩
  rw [hr.out]
  go_enter Tryz.func102, Tryz.ntmps102
  go_wp2
  all_goals
   go_ret
   refine ⟨c_ret_int ?_, rfl⟩
   rw [← hr.out, HR.out]
   split <;> omega
 ·have h2' : ¬ ((t.length : Int) = 2) := by omega
  have hf : regZ t = -1 := by unfold regZ; rw [isReg_len h2]; rfl
  rw [hf]
  go_enter Tryz.func102, Tryz.ntmps102
  go_wp2
  all_goals
   go_ret
   exact ⟨rfl, rfl⟩
theorem isNam_iff (t : Tx) : isNam t = true ↔ 1 ≤ t.length ∧ t.length ≤ 8 ∧ isReg t = false ∧ t.all (fun c => isLet c || isDig c) = true ∧ isLet (t.headD 0) = true := by
 unfold isNam
 simp only [Bool.and_eq_true, decide_eq_true_eq, Bool.not_eq_true', and_assoc]
set_option maxRecDepth 100000 in
set_option maxHeartbeats 800000 in
theorem rIsName_any (t : Tx) (w : World) : Calls Tryz.prog 85 #[.string (bs t)] w fun e w' => e = .returned (.bool (isNam t)) ∧ w' = w := by
 have hz := bs_size t
 by_cases he : t = []
 ·subst he
  have hn : isNam [] = false := rfl
  have hb : bs [] = ByteArray.empty := rfl
  rw [hn, hb]
  go_enter Tryz.func85, Tryz.ntmps85
  go_wp2_with fail
  go_ret
  exact ⟨rfl, rfl⟩
 ·have hne : (bs t).toList.isEmpty = false := by rw [bs_toList]; simpa using he
  have h0 : 0 < t.length := List.length_pos_iff.2 he
  have hb0 : ∀ h, (bs t)[0]'h = t[0] := fun h => bs_get t 0 h
  have hhd : Hid (t.headD 0 = t[0]) := by
   match t, h0 with
   | c :: r, _ => rfl
  by_cases h8 : t.length ≤ 8
  ·have g2 : ¬ (8 < (t.length : Int)) := by omega
   by_cases hl : isLet t[0] = true
   ·obtain ⟨l1, l2⟩ : 97 ≤ (t[0].toNat : Int) ∧ (t[0].toNat : Int) ≤ 122 := by unfold isLet at hl; simpa using hl
    have g3 : ¬ ((t[0].toNat : Int) < 97) := by omega
    have g4 : ¬ (122 < (t[0].toNat : Int)) := by omega
    have hR := rReg_any t
    have hrn := regZ_nonneg t
    by_cases hr : isReg t = true
    ·have hn : isNam t = false := isNam_no (fun h => by rw [hr] at h; exact absurd h.2.2 (by simp))
     have g5 : 0 ≤ regZ t := hrn.2 hr
     rw [hn]
     generalize regZ t = r at hR g5
     clear hrn hr
     go_enter Tryz.func85, Tryz.ntmps85
     go_wp2_with fail
     refine (hR _).mono ?_
     rintro e w1 ⟨rfl, rfl⟩
     go_wp2_with fail
     go_ret
     exact ⟨rfl, rfl⟩
    ·have g5 : ¬ (0 ≤ regZ t) := fun h => hr (hrn.1 h)
     have hn : Hid (isNam t = t.all (fun c => isLet c || isDig c)) := by
      unfold Hid; rw [isNam_len (by omega) h8 (by simpa using hr), hhd.out, hl]; exact Bool.and_true _
     generalize regZ t = r at hR g5
     have g6 : r < 0 := by omega
     clear hrn hr g5
     go_enter Tryz.func85, Tryz.ntmps85
     go_wp2_with fail
     refine (hR _).mono ?_
     rintro e w1 ⟨rfl, rfl⟩
     go_wp2_with fail
     go_loopw [3] (fun iv wr => ∃ i : Nat, i ≤ t.length ∧ iv = .int .i64 i ∧ (t.take i).all (fun c => isLet c || isDig c) = true ∧ wr = w1) (fun iv _ => t.length - (intOf iv).toNat)
     case atStart => exact ⟨0, Nat.zero_le _, rfl, by simp, rfl⟩
     case round =>
      obtain ⟨i, hi, rfl, hall, rfl⟩ := hrel
      by_cases h5 : i < t.length
      ·have hb : ∀ h, (bs t)[i]'h = t[i] := fun h => bs_get t i h
       have hlt : (i : Int) < (t.length : Int) := by omega
       have HA := hide (⟨all_take (p := fun c => isLet c || isDig c) h5, all_no (p := fun c => isLet c || isDig c) h5, hall⟩ : _ ∧ _ ∧ _)
       clear hall
       have HP : Hid (((97 ≤ (t[i].toNat : Int) ∧ (t[i].toNat : Int) ≤ 122) ∨ (48 ≤ (t[i].toNat : Int) ∧ (t[i].toNat : Int) ≤ 57)) → (isLet t[i] || isDig t[i]) = true) := fun h => by
        unfold isLet isDig
        simpa using h
       have HQ : Hid (¬ ((97 ≤ (t[i].toNat : Int) ∧ (t[i].toNat : Int) ≤ 122) ∨ (48 ≤ (t[i].toNat : Int) ∧ (t[i].toNat : Int) ≤ 57)) → (isLet t[i] || isDig t[i]) = false) := fun h => by
        cases hb : (isLet t[i] || isDig t[i]) with
        | false => rfl
        | true => refine absurd ?_ h; unfold isLet isDig at hb; simpa using hb
       by_cases hA : 97 ≤ (t[i].toNat : Int)
       ·by_cases hB : (t[i].toNat : Int) ≤ 122
        ·have hB' : ¬ (122 < (t[i].toNat : Int)) := by omega
         go_wp2_with fail
         all_goals first
          | (go_roundw; (case rel => exact ⟨i + 1, by omega, by go_num, by rw [HA.out.1, HA.out.2.2, HP.out (by omega)]; rfl, by trivial⟩); (case measure => simp [intOf]; omega))
          | (exfalso; rename_i h9; first | omega | (simp only [Bool.not_eq_false', decide_eq_true_eq] at h9; omega) | (simp_all <;> omega))
        ·have hC : 48 ≤ (t[i].toNat : Int) := by omega
         have hD : ¬ ((t[i].toNat : Int) ≤ 57) := by omega
         have d1 : decide ((t[i].toNat : Int) ≤ 122) = false := decide_eq_false hB
         have d2 : decide ((t[i].toNat : Int) ≤ 57) = false := decide_eq_false hD
         have d3 : (122 < (t[i].toNat : Int)) := by omega
         have d4 : (57 < (t[i].toNat : Int)) := by omega
         go_wp2_with fail
         all_goals first
          | (go_ret; exact ⟨by rw [hn.out, HA.out.2.1 (HQ.out (by omega))]; rfl, by trivial⟩)
          | (exfalso; rename_i h9; first | omega | (simp only [Bool.not_eq_false', decide_eq_true_eq] at h9; omega) | (simp_all <;> omega))
       ·by_cases hC : 48 ≤ (t[i].toNat : Int)
        ·by_cases hD : (t[i].toNat : Int) ≤ 57
         ·have d1 : decide (97 ≤ (t[i].toNat : Int)) = false := decide_eq_false hA
          have d3 : ((t[i].toNat : Int) < 97) := by omega
          go_wp2_with fail
          all_goals first
           | (go_roundw; (case rel => exact ⟨i + 1, by omega, by go_num, by rw [HA.out.1, HA.out.2.2, HP.out (by omega)]; rfl, by trivial⟩); (case measure => simp [intOf]; omega))
           | (exfalso; rename_i h9; first | omega | (simp only [Bool.not_eq_false', decide_eq_true_eq] at h9; omega) | (simp_all <;> omega))
         ·have d1 : decide (97 ≤ (t[i].toNat : Int)) = false := decide_eq_false hA
          have d2 : decide ((t[i].toNat : Int) ≤ 57) = false := decide_eq_false hD
          have d3 : ((t[i].toNat : Int) < 97) := by omega
          have d4 : (57 < (t[i].toNat : Int)) := by omega
          go_wp2_with fail
          all_goals first
           | (go_ret; exact ⟨by rw [hn.out, HA.out.2.1 (HQ.out (by omega))]; rfl, by trivial⟩)
           | (exfalso; rename_i h9; first | omega | (simp only [Bool.not_eq_false', decide_eq_true_eq] at h9; omega) | (simp_all <;> omega))
        ·have d1 : decide (97 ≤ (t[i].toNat : Int)) = false := decide_eq_false hA
         have d2 : decide (48 ≤ (t[i].toNat : Int)) = false := decide_eq_false hC
         have d3 : ((t[i].toNat : Int) < 97) := by omega
         have d4 : ((t[i].toNat : Int) < 48) := by omega
         go_wp2_with fail
         all_goals first
          | (go_ret; exact ⟨by rw [hn.out, HA.out.2.1 (HQ.out (by omega))]; rfl, by trivial⟩)
          | (exfalso; rename_i h9; first | omega | (simp only [Bool.not_eq_false', decide_eq_true_eq] at h9; omega) | (simp_all <;> omega))
      ·have hh : Hid (t.all (fun c => isLet c || isDig c) = true) := by rw [List.take_of_length_le (by omega)] at hall; exact hall
       clear hall
       go_wp2_with fail
       go_ret
       exact ⟨by rw [hn.out, hh.out]; rfl, by trivial⟩
   ·have hn : isNam t = false := by
     cases hr : isNam t with
     | false => rfl
     | true => have := ((isNam_iff t).1 hr).2.2.2.2; rw [hhd.out] at this; exact absurd this hl
    rw [hn]
    by_cases g3 : (t[0].toNat : Int) < 97
    ·go_enter Tryz.func85, Tryz.ntmps85
     go_wp2_with fail
     go_ret
     exact ⟨rfl, rfl⟩
    ·have g4 : 122 < (t[0].toNat : Int) := by unfold isLet at hl; simp at hl; omega
     go_enter Tryz.func85, Tryz.ntmps85
     go_wp2_with fail
     go_ret
     exact ⟨rfl, rfl⟩
  ·have g2 : 8 < (t.length : Int) := by omega
   have hn : isNam t = false := isNam_no (fun h => h8 h.2.1)
   rw [hn]
   go_enter Tryz.func85, Tryz.ntmps85
   go_wp2_with fail
   go_ret
   exact ⟨rfl, rfl⟩
def letX (c : UInt8) : UInt8 := if c == 118 then 120 else c
def formT (t : Tx) : Tx := match partsT t with
 | some ps => ps.map letX
 | none => [63]
theorem parts_cases (t : Tx) : (∃ p, p ∈ shapeT ∧ t = p.1 ∧ partsT t = some p.2) ∨ (partsT t = none ∧ ∀ p, p ∈ shapeT → (t == p.1) = false) := by
 unfold partsT
 cases h : shapeT.find? (fun p => decide (p.1 = t)) with
 | some p =>
  have h1 := List.mem_of_find?_eq_some h
  have h2 := List.find?_some h
  exact .inl ⟨p, h1, by simpa using (of_decide_eq_true h2).symm, rfl⟩
 | none =>
  refine .inr ⟨rfl, fun p hp => ?_⟩
  have := List.find?_eq_none.1 h p hp
  simp at this
  exact beq_eq_false_iff_ne.2 (fun e => this e.symm)
set_option maxRecDepth 100000 in
set_option maxHeartbeats 1000000 in
theorem rForm_any (t : Tx) (w : World) : Calls Tryz.prog 88 #[.string (bs t)] w fun e w' => e = .returned (.string (bs (formT t))) ∧ w' = w := by
 have hF : ∀ o : List UInt8, ((bs t).toList == o) = (t == o) := fun o => by rw [bs_toList]
 rcases parts_cases t with ⟨p, hp, ht, hs⟩ | ⟨hn, hall⟩
 ·have hf : formT t = p.2.map letX := by unfold formT; rw [hs]
  rw [hf]
  clear hf hs
  simp only [shapeT, List.mem_cons, List.not_mem_nil, or_false] at hp
  rcases hp with rfl | rfl | rfl | rfl | rfl | rfl | rfl | rfl | rfl | rfl | rfl | rfl | rfl | rfl | rfl | rfl | rfl
  all_goals
   subst ht
   go_enter Tryz.func88, Tryz.ntmps88
   go_wp2_with fail
   go_ret
   exact ⟨rfl, rfl⟩
 ·have hf : formT t = [63] := by unfold formT; rw [hn]
  rw [hf]
  have k0 := hall ([115, 101, 116], [114, 97]) (by simp [shapeT])
  have k1 := hall ([97, 100, 100], [114, 97, 98]) (by simp [shapeT])
  have k2 := hall ([115, 117, 98], [114, 97, 98]) (by simp [shapeT])
  have k3 := hall ([109, 117, 108], [114, 97, 98]) (by simp [shapeT])
  have k4 := hall ([108, 111, 97, 100], [114, 118]) (by simp [shapeT])
  have k5 := hall ([115, 116, 111, 114, 101], [118, 97]) (by simp [shapeT])
  have k6 := hall ([103, 101, 116], [114, 102]) (by simp [shapeT])
  have k7 := hall ([112, 117, 116], [102, 97]) (by simp [shapeT])
  have k8 := hall ([108, 111, 99, 107], [109]) (by simp [shapeT])
  have k9 := hall ([117, 110, 108, 111, 99, 107], [109]) (by simp [shapeT])
  have k10 := hall ([115, 112, 97, 119, 110], [116]) (by simp [shapeT])
  have k11 := hall ([106, 111, 105, 110], [116]) (by simp [shapeT])
  have k12 := hall ([106, 117, 109, 112], [108]) (by simp [shapeT])
  have k13 := hall ([106, 101, 113], [97, 98, 108]) (by simp [shapeT])
  have k14 := hall ([106, 108, 116], [97, 98, 108]) (by simp [shapeT])
  have k15 := hall ([99, 104, 101, 99, 107], [97, 98]) (by simp [shapeT])
  have k16 := hall ([101, 110, 100], []) (by simp [shapeT])
  dsimp only at k0 k1 k2 k3 k4 k5 k6 k7 k8 k9 k10 k11 k12 k13 k14 k15 k16
  clear hall hn hf
  go_enter Tryz.func88, Tryz.ntmps88
  go_wp2_with fail
  go_ret
  exact ⟨rfl, rfl⟩
theorem arg_val {w : World} {fn : Func} {tmps : Array Value} {b : Nat} {x a0 a1 : Value} (hr : fn.results = #[.cell 2 112, .tmp 3]) (ht : tmps[2]? = some (.pointer (some ⟨b, 0, none⟩))) (h3 : tmps[3]? = some x) (hc : w.heap[b]? = some (.cells #[a0, a1] 112)) : (results fn tmps).run Tryz.prog w = .ok (.tuple #[.agg #[a0, a1], x]) w := by
 have c0 : w.cell? ⟨b, 0, none⟩ = some a0 := by simp [World.cell?, hc]
 have c1 : w.cell? ⟨b, 1, none⟩ = some a1 := by simp [World.cell?, hc]
 simp [results, hr, ht, h3, go_sem, c0, c1]
theorem regZ_is (t : Tx) : regZ t = if isReg t then (regN t : Int) else -1 := by
 unfold regZ
 cases h : isReg t with
 | false => rfl
 | true =>
  obtain ⟨a, b, rfl, h1, h2⟩ := isReg_is h
  simp only [if_true, regN]
  show (b.toNat : Int) - 48 = ((b.toNat - 48 : Nat) : Int)
  omega
theorem num_take {t : Tx} {i : Nat} (h : i < t.length) : numN (t.take (i + 1)) = numN (t.take i) * 10 + (t[i].toNat - 48) := by
 unfold numN
 rw [List.take_succ_eq_append_getElem h, List.foldl_append]; rfl
theorem num_small {t : Tx} (h : t.all isDig = true) : numN t < 10 ^ t.length := by
 have key : ∀ (t : Tx) (a : Nat), t.all isDig = true → t.foldl (fun n c => n * 10 + (c.toNat - 48)) a < (a + 1) * 10 ^ t.length := by
  intro t
  induction t with
  | nil => intro a _; simp
  | cons c t ih =>
   intro a h
   simp only [List.all_cons, Bool.and_eq_true] at h
   have hc := h.1
   simp [isDig] at hc
   have := ih (a * 10 + (c.toNat - 48)) h.2
   simp only [List.foldl_cons, List.length_cons]
   refine Nat.lt_of_lt_of_le this ?_
   rw [Nat.pow_succ, Nat.mul_comm (10 ^ t.length) 10, ← Nat.mul_assoc]
   exact Nat.mul_le_mul_right _ (by omega)
 have := key t 0 h
 simpa [numN] using this
def argB (t : Tx) : Bool := isReg t || isNum t
def argV (t : Tx) : Value := if argB t then .agg #[.bool (isReg t), .int .i64 (argN t)] else .agg #[.bool false, .int .i64 0]
set_option maxRecDepth 100000 in
set_option maxHeartbeats 1000000 in
theorem rArg_any (t : Tx) (w : World) : Calls Tryz.prog 103 #[.string (bs t)] w fun e w' => e = .returned (.tuple #[argV t, .bool (argB t)]) ∧ Below w.heap.size w w' := by
 have HB : Hid (∀ x, Below w.heap.size w (w.alloc x)) := fun x => (Below.refl _ _).alloc (Nat.le_refl _) _
 have hz := bs_size t
 have hR := fun u => rReg_any t u
 rw [regZ_is] at hR
 cases hr : isReg t with
 | true =>
  rw [hr] at hR
  simp only [if_true] at hR
  have hv : Hid (argV t = .agg #[.bool true, .int .i64 (regN t)] ∧ argB t = true) := by
   unfold Hid argV argB argN; rw [hr]; exact ⟨rfl, rfl⟩
  have hge : (0 : Int) ≤ (regN t : Int) := by omega
  go_enter Tryz.func103, Tryz.ntmps103
  go_wp2_with fail
  refine (hR _).mono ?_
  rintro e w1 ⟨rfl, rfl⟩
  go_wp2_with fail
  exact bodyPost_ret (arg_val rfl rfl rfl (World.alloc_heap_new w _)) rfl ⟨by first | (rw [hv.out.1, hv.out.2]; done) | (rw [hv.out.1, hv.out.2]; rfl), HB.out _⟩
 | false =>
  rw [hr] at hR
  simp only [Bool.false_eq_true, if_false] at hR
  by_cases hl : 1 ≤ t.length ∧ t.length ≤ 3
  ·have hnum : Hid (isNum t = t.all isDig) := by unfold Hid isNum; rw [decide_eq_true hl.1, decide_eq_true hl.2]; rfl
   have g1 : ¬ ((t.length : Int) < 1) := by omega
   have g2 : ¬ (3 < (t.length : Int)) := by omega
   replace hr := hide hr
   go_enter Tryz.func103, Tryz.ntmps103
   go_wp2_with fail
   refine (hR _).mono ?_
   rintro e w1 ⟨rfl, rfl⟩
   go_wp2_with fail
   go_loopw [5, 6] (fun nv iv wr => ∃ i : Nat, i ≤ t.length ∧ iv = .int .i64 i ∧ nv = .int .i64 (numN (t.take i)) ∧ (t.take i).all isDig = true ∧ wr = w.alloc (.cells #[.bool false, .int .i64 0] 112)) (fun _ iv _ => t.length - (intOf iv).toNat)
   case atStart => exact ⟨0, Nat.zero_le _, rfl, by simp [numN], by simp, rfl⟩
   case round =>
    obtain ⟨i, hi, rfl, rfl, hall, rfl⟩ := hrel
    by_cases h5 : i < t.length
    ·have hb : ∀ h, (bs t)[i]'h = t[i] := fun h => bs_get t i h
     have hlt : (i : Int) < (t.length : Int) := by omega
     have hA := all_take (p := isDig) h5
     have hsm := num_small hall
     rw [List.length_take] at hsm
     have hp : (10 : Nat) ^ min i t.length ≤ 10 ^ 3 := Nat.pow_le_pow_right (by omega) (by omega)
     have hns : numN (t.take i) < 1000 := by omega
     have hnt := num_take h5
     cases hd : isDig t[i] with
     | true =>
      have hd2 := hd
      simp [isDig] at hd2
      have f1 : ¬ ((t[i].toNat : Int) < 48) := by omega
      have f2 : ¬ (57 < (t[i].toNat : Int)) := by omega
      have q1 : wrap64 (10 * (numN (t.take i) : Int)) = 10 * (numN (t.take i) : Int) := IntWalk.wrap64_in _ (by omega)
      have q2 : wrap64 (10 * (numN (t.take i) : Int) + (t[i].toNat : Int)) = 10 * (numN (t.take i) : Int) + (t[i].toNat : Int) := IntWalk.wrap64_in _ (by omega)
      have q3 : wrap64 (10 * (numN (t.take i) : Int) + (t[i].toNat : Int) - 48) = 10 * (numN (t.take i) : Int) + (t[i].toNat : Int) - 48 := IntWalk.wrap64_in _ (by omega)
      have q4 : (numN (t.take (i + 1)) : Int) = 10 * (numN (t.take i) : Int) + (t[i].toNat : Int) - 48 := by rw [hnt]; omega
      have HE := hide (⟨hA, hall, hd, q4⟩ : _ ∧ _ ∧ _ ∧ _)
      clear hA hall hd hsm hnt q4 hd2 hp
      go_wp2_with fail
      go_roundw
      case rel =>
       obtain ⟨hA, hall, hd, q4⟩ := HE.out
       refine ⟨i + 1, by omega, by go_num, ?_, by rw [hA, hall, hd]; rfl, by trivial⟩
       rw [q4]; rfl
      case measure => simp [intOf]; omega
     | false =>
      have hv : Hid (argV t = .agg #[.bool false, .int .i64 0] ∧ argB t = false) := by
       have : argB t = false := by unfold argB; rw [hr.out, hnum.out, all_no h5 hd]; rfl
       unfold Hid argV; rw [this]; exact ⟨rfl, rfl⟩
      by_cases f1 : (t[i].toNat : Int) < 48
      ·clear hA hall hsm hnt hp hd
       go_wp2_with fail
       exact bodyPost_ret (arg_val rfl rfl rfl (World.alloc_heap_new w _)) rfl ⟨by first | (rw [hv.out.1, hv.out.2]; done) | (rw [hv.out.1, hv.out.2]; rfl), HB.out _⟩
      ·have f2 : (57 < (t[i].toNat : Int)) := by
        simp [isDig] at hd
        omega
       clear hA hall hsm hnt hp hd
       go_wp2_with fail
       exact bodyPost_ret (arg_val rfl rfl rfl (World.alloc_heap_new w _)) rfl ⟨by first | (rw [hv.out.1, hv.out.2]; done) | (rw [hv.out.1, hv.out.2]; rfl), HB.out _⟩
    ·have hil : i = t.length := by omega
     subst hil
     rw [List.take_length] at hall
     have hv : Hid (argV t = .agg #[.bool false, .int .i64 (numN t)] ∧ argB t = true) := by
      have h1 : argB t = true := by unfold argB; rw [hr.out, hnum.out, hall]; rfl
      have h2 : argN t = numN t := by unfold argN; rw [hr.out]; rfl
      unfold Hid argV; rw [h1, hr.out, h2]; exact ⟨rfl, rfl⟩
     have htl : t.take t.length = t := List.take_length
     clear hall
     go_wp2_with fail
     exact bodyPost_ret (arg_val rfl rfl rfl (World.alloc_heap_new w _)) rfl ⟨by first | (rw [hv.out.1, hv.out.2]; done) | (rw [hv.out.1, hv.out.2]; rfl), HB.out _⟩
  ·have hv : Hid (argV t = .agg #[.bool false, .int .i64 0] ∧ argB t = false) := by
    have h0 : isNum t = false := by
     unfold isNum
     by_cases g : 1 ≤ t.length
     ·have g2 : ¬ t.length ≤ 3 := fun h => hl ⟨g, h⟩
      rw [decide_eq_false g2]; simp
     ·rw [decide_eq_false g]; rfl
    have : argB t = false := by unfold argB; rw [hr, h0]; rfl
    unfold Hid argV; rw [this]; exact ⟨rfl, rfl⟩
   replace hr := hide hr
   by_cases g : t.length = 0
   ·have g1 : ((t.length : Int) < 1) := by omega
    go_enter Tryz.func103, Tryz.ntmps103
    go_wp2_with fail
    refine (hR _).mono ?_
    rintro e w1 ⟨rfl, rfl⟩
    go_wp2_with fail
    exact bodyPost_ret (arg_val rfl rfl rfl (World.alloc_heap_new w _)) rfl ⟨by first | (rw [hv.out.1, hv.out.2]; done) | (rw [hv.out.1, hv.out.2]; rfl), HB.out _⟩
   ·have g1 : ¬ ((t.length : Int) < 1) := by omega
    have g2 : (3 < (t.length : Int)) := by omega
    go_enter Tryz.func103, Tryz.ntmps103
    go_wp2_with fail
    refine (hR _).mono ?_
    rintro e w1 ⟨rfl, rfl⟩
    go_wp2_with fail
    exact bodyPost_ret (arg_val rfl rfl rfl (World.alloc_heap_new w _)) rfl ⟨by first | (rw [hv.out.1, hv.out.2]; done) | (rw [hv.out.1, hv.out.2]; rfl), HB.out _⟩
def findZ : List Tx → Tx → Int
 | [], _ => -1
 | t :: l, n => if t = n then 0 else if findZ l n = -1 then -1 else findZ l n + 1
theorem findZ_ge (l : List Tx) (n : Tx) : -1 ≤ findZ l n := by
 induction l with
 | nil => simp [findZ]
 | cons t l ih =>
  unfold findZ
  split
  ·omega
  ·split <;> omega
theorem findZ_no {l : List Tx} {n : Tx} (h : ∀ j : Nat, j < l.length → l.getD j [] ≠ n) : findZ l n = -1 := by
 induction l with
 | nil => rfl
 | cons t l ih =>
  unfold findZ
  rw [if_neg (by simpa using h 0 (by simp)), ih (fun j hj => by simpa using h (j + 1) (by simpa using hj)), if_pos rfl]
theorem findZ_at {l : List Tx} {n : Tx} {i : Nat} (hi : i < l.length) (h : ∀ j : Nat, j < i → l.getD j [] ≠ n) (he : l.getD i [] = n) : findZ l n = i := by
 induction l generalizing i with
 | nil => simp at hi
 | cons t l ih =>
  unfold findZ
  cases i with
  | zero => rw [if_pos (by simpa using he)]; rfl
  | succ i =>
   rw [if_neg (by simpa using h 0 (by omega))]
   have := ih (i := i) (by simpa using hi) (fun j hj => by simpa using h (j + 1) (by omega)) (by simpa using he)
   rw [this, if_neg (by omega)]; omega
set_option maxRecDepth 100000 in
set_option maxHeartbeats 400000 in
theorem rFind_any (a : Option Addr) (n cap : Nat) (ts : List Tx) (x : Tx) (w : World) (hn : ts.length = n) (hs : Ws w a ts) (hb : n < 4294967281) :
 Calls Tryz.prog 101 #[.slice a n cap, .string (bs x)] w fun e w' => e = .returned (.int .i64 (findZ ts x)) ∧ w' = w := by
 go_enter Tryz.func101, Tryz.ntmps101
 go_wp2_with fail
 go_loopw [5] (fun iv wr => ∃ i : Nat, i ≤ n ∧ iv = .int .i64 i ∧ (∀ j : Nat, j < i → ts.getD j [] ≠ x) ∧ wr = w) (fun iv _ => n - (intOf iv).toNat)
 case atStart => exact ⟨0, Nat.zero_le _, rfl, fun j hj => by omega, rfl⟩
 case round =>
  obtain ⟨i, hi, rfl, hall, rfl⟩ := hrel
  by_cases h5 : i < n
  ·obtain ⟨b, off, rfl, _, c0⟩ := hs i (by omega)
   have hlt : (i : Int) < (n : Int) := by omega
   have HA := hide (⟨hall, fun h => findZ_at (l := ts) (n := x) (i := i) (by omega) hall h⟩ : _ ∧ (ts.getD i [] = x → _))
   generalize hte : ts.getD i [] = t at c0 HA
   replace hte := hide hte
   have hF : ((bs t).toList == (bs x).toList) = decide (t = x) := by
    rw [bs_toList, bs_toList]
    by_cases e : t = x <;> simp [e]
   clear hall
   by_cases e : t = x
   ·rw [decide_eq_true e] at hF
    replace e := hide e
    go_wp2_with fail
    go_ret
    exact ⟨by rw [HA.out.2 e.out]; rfl, by trivial⟩
   ·rw [decide_eq_false e] at hF
    replace e := hide e
    go_wp2_with fail
    go_roundw
    case rel =>
     refine ⟨i + 1, by omega, by go_num, fun j hj => ?_, by trivial⟩
     by_cases h6 : j = i
     ·subst h6; rw [hte.out]; exact e.out
     ·exact HA.out.1 j (by omega)
    case measure => simp [intOf]; omega
  ·have hh : Hid (findZ ts x = -1) := findZ_no (fun j hj => hall j (by omega))
   clear hall
   go_wp2_with fail
   go_ret
   exact ⟨by rw [hh.out]; rfl, by trivial⟩
structure RI where
 i : In7
 line : Int
 word : Tx
structure RTh where
 name : Tx
 code : List RI
 labs : List (Tx × Nat)
structure RP where
 vs : List Tx
 fs : List Tx
 ls : List Tx
 thr : List RTh
def riC (r : RI) : List Value := [.string (bs r.i.op), .int .i64 r.i.r, .bool r.i.aR, .int .i64 r.i.aN, .bool r.i.bR, .int .i64 r.i.bN, .int .i64 r.i.x, .int .i64 r.line, .string (bs r.word)]
def labC (p : Tx × Nat) : List Value := [.string (bs p.1), .int .i64 p.2]
def thC (p : RTh × (Value × Value)) : List Value := [.string (bs p.1.name), p.2.1, p.2.2]
def RP.get (P : RP) (k : Int) : List Tx := if k = 118 then P.vs else if k = 102 then P.fs else P.ls
def RP.put (P : RP) (k : Int) (x : Tx) : RP := if k = 118 then { P with vs := P.vs ++ [x] } else if k = 102 then { P with fs := P.fs ++ [x] } else { P with ls := P.ls ++ [x] }
structure RV where
 V : Int → Value
 tV : Value
 TV : List (Value × Value)
def isN (k : Int) : Prop := k = 118 ∨ k = 102 ∨ k = 109
def offN (k : Int) : Nat := if k = 118 then 0 else if k = 102 then 1 else 2
structure ThOk (w : World) (tag : Nat → RT) (base j : Nat) (th : RTh) (p : Value × Value) : Prop where
 code : w.ownsRow base 114 9 p.1 th.code.length (th.code.flatMap riC)
 tc : ∀ g, p.1.ownBlock = some g → tag g = .cd j
 labs : w.ownsRow base 162 2 p.2 th.labs.length (th.labs.flatMap labC)
 tl : ∀ g, p.2.ownBlock = some g → tag g = .lb j
structure RfW (w : World) (tag : Nat → RT) (base pb : Nat) (P : RP) (U : RV) : Prop where
 cell : w.heap[pb]? = some (.cells #[U.V 118, U.V 102, U.V 109, U.tV] 29)
 rows : ∀ k, isN k → RowOk w tag base 9 k (U.V k) ((P.get k).map strW)
 trow : w.ownsRow base 111 3 U.tV P.thr.length ((P.thr.zip U.TV).flatMap thC)
 tt : ∀ g, U.tV.ownBlock = some g → tag g = .row 116
 len : U.TV.length = P.thr.length
 ths : ∀ (j : Nat) (th : RTh) (p : Value × Value), P.thr[j]? = some th → U.TV[j]? = some p → ThOk w tag base j th p
 tp : tag pb = .rd
 tlt : ∀ b, tag b ≠ .o → base ≤ b ∧ b < w.heap.size
 g3 : base ≤ w.heap.size
section
variable {w w' : World} {tag tag' : Nat → RT} {base pb : Nat} {P P' : RP} {U U' : RV}
theorem ThOk.kept {j : Nat} {th : RTh} {p : Value × Value} (h : ThOk w tag base j th p) (hb : ∀ b, tag b = .cd j ∨ tag b = .lb j → w'.heap[b]? = w.heap[b]? ∧ tag' b = tag b) : ThOk w' tag' base j th p :=
 ⟨owns_same h.code fun g e => (hb g (.inl (h.tc g e))).1, fun g e => (hb g (.inl (h.tc g e))).2.trans (h.tc g e), owns_same h.labs fun g e => (hb g (.inr (h.tl g e))).1, fun g e => (hb g (.inr (h.tl g e))).2.trans (h.tl g e)⟩
theorem RfW.lt (h : RfW w tag base pb P U) {b : Nat} {g : RT} (e : tag b = g) (hn : g ≠ .o) : b < w.heap.size := (h.tlt b (by rw [e]; exact hn)).2
theorem RfW.low (h : RfW w tag base pb P U) {b : Nat} (e : b < base) : tag b = .o := by
 cases ht : tag b with
 | o => rfl
 | _ => exact absurd (h.tlt b (by rw [ht]; simp)).1 (by omega)
theorem RfW.step (h : RfW w tag base pb P U) (C : RT → Prop) (hx : Ext w tag w' tag') (hC : ∀ b, b < w.heap.size → tag b ≠ .o → ¬ C (tag b) → w'.heap[b]? = w.heap[b]?)
 (ho : ∀ b, w.heap.size ≤ b → tag' b ≠ .o → b < w'.heap.size)
 (hcell : w'.heap[pb]? = some (.cells #[U'.V 118, U'.V 102, U'.V 109, U'.tV] 29))
 (hrows : ∀ k, isN k → (U'.V k = U.V k ∧ P'.get k = P.get k ∧ ¬ C (.row k)) ∨ RowOk w' tag' base 9 k (U'.V k) ((P'.get k).map strW))
 (htrow : (U'.tV = U.tV ∧ P'.thr = P.thr ∧ U'.TV = U.TV ∧ ¬ C (.row 116)) ∨ (w'.ownsRow base 111 3 U'.tV P'.thr.length ((P'.thr.zip U'.TV).flatMap thC) ∧ (∀ g, U'.tV.ownBlock = some g → tag' g = .row 116) ∧ U'.TV.length = P'.thr.length))
 (hths : ∀ (j : Nat) (th : RTh) (p : Value × Value), P'.thr[j]? = some th → U'.TV[j]? = some p → (P.thr[j]? = some th ∧ U.TV[j]? = some p ∧ ¬ C (.cd j) ∧ ¬ C (.lb j)) ∨ ThOk w' tag' base j th p) : RfW w' tag' base pb P' U' := by
 have key : ∀ {b : Nat} {g : RT}, tag b = g → g ≠ .o → ¬ C g → w'.heap[b]? = w.heap[b]? ∧ tag' b = g := fun {b g} e h1 h2 => by
  have hl := h.lt e h1
  exact ⟨hC b hl (by rw [e]; exact h1) (by rw [e]; exact h2), (hx.tags b hl).trans e⟩
 have keyt : ∀ {b : Nat} {g : RT}, tag b = g → g ≠ .o → tag' b = g := fun {b g} e h1 => (hx.tags b (h.lt e h1)).trans e
 have ht : w'.ownsRow base 111 3 U'.tV P'.thr.length ((P'.thr.zip U'.TV).flatMap thC) ∧ (∀ g, U'.tV.ownBlock = some g → tag' g = .row 116) ∧ U'.TV.length = P'.thr.length := by
  rcases htrow with ⟨e1, e2, e3, e4⟩ | e
  ·rw [e1, e2, e3]
   exact ⟨owns_same h.trow fun g e => (key (h.tt g e) (by simp) e4).1, fun g e => (key (h.tt g e) (by simp) e4).2, h.len⟩
  ·exact e
 refine ⟨hcell, fun k hk => ?_, ht.1, ht.2.1, ht.2.2, fun j th p h1 h2 => ?_, keyt h.tp (by simp), fun b hb => ?_, Nat.le_trans h.g3 hx.size⟩
 ·rcases hrows k hk with ⟨e1, e2, e3⟩ | e
  ·rw [e1, e2]; exact (h.rows k hk).kept fun b hb => key hb (by simp) e3
  ·exact e
 ·rcases hths j th p h1 h2 with ⟨e1, e2, e3, e4⟩ | e
  ·refine (h.ths j th p e1 e2).kept fun b hb => ?_
   rcases hb with hb | hb
   ·have := key hb (by simp) e3; exact ⟨this.1, this.2.trans hb.symm⟩
   ·have := key hb (by simp) e4; exact ⟨this.1, this.2.trans hb.symm⟩
  ·exact e
 ·by_cases hl : b < w.heap.size
  ·rw [hx.tags b hl] at hb
   exact ⟨(h.tlt b hb).1, Nat.lt_of_lt_of_le hl hx.size⟩
  ·exact ⟨by have := h.g3; omega, ho b (by omega) hb⟩
theorem RfW.keep (h : RfW w tag base pb P U) (hb : ∀ b, b < w.heap.size → w'.heap[b]? = w.heap[b]?) (hx : Ext w tag w' tag) : RfW w' tag base pb P U :=
 h.step (fun _ => False) hx (fun b hl _ _ => hb b hl) (fun b hl e => absurd (h.tlt b e).2 (by omega)) ((hb pb (h.lt h.tp (by simp))).trans h.cell) (fun k _ => .inl ⟨rfl, rfl, id⟩) (.inl ⟨rfl, rfl, rfl, id⟩) (fun j th p h1 h2 => .inl ⟨h1, h2, id, id⟩)
theorem RfW.below (h : RfW w tag base pb P U) (hb : Below w.heap.size w w') : RfW w' tag base pb P U := h.keep hb.block (.of_below hb)
theorem RfW.rowC (h : RfW w tag base pb P U) {k : Int} (hk : isN k) : w.cell? ⟨pb, offN k, none⟩ = some (U.V k) := by
 rcases hk with rfl | rfl | rfl <;> simp [World.cell?, h.cell, offN]
theorem RfW.thrV (h : RfW w tag base pb P U) : w.cell? ⟨pb, 3, none⟩ = some U.tV := by simp [World.cell?, h.cell]
theorem RfW.frz (h : RfW w tag base pb P U) (i : Nat) : w.frozen? ⟨pb, i, none⟩ = false := by simp [World.frozen?, h.cell]
theorem row_ws {e : TypeId} {k : Int} {v : Value} {l : List Tx} (h : RowOk w tag base e k v (l.map strW)) : ∃ a cap, v = .slice a l.length cap ∧ Ws w a l := by
 have hr := h.row
 rw [List.length_map] at hr
 rcases hr.2 with ⟨h1, h2⟩ | ⟨g, cap, cur, h1, _⟩
 ·exact ⟨none, 0, by rw [h1, h2], fun i hi => by omega⟩
 ·refine ⟨_, cap, h1, fun i hi => ⟨g, 0, rfl, (hr.lt g (by rw [h1]; rfl)).2, ?_⟩⟩
  rw [h1] at hr
  rw [Nat.zero_add, hr.cellAt i (by omega), List.getElem?_map, List.getElem?_eq_getElem hi, List.getD_eq_getElem?_getD, List.getElem?_eq_getElem hi]; rfl
theorem RfW.name (h : RfW w tag base pb P U) {k : Int} (hk : isN k) (x : Tx) (hlen : (P.get k).length < 1048576) :
 ∃ g cap w3, (Builtin.append_ #[23, 23] 23 #[U.V k, .slice (some ⟨w.heap.size, 0, none⟩) 1 1]).run Tryz.prog (w.alloc (.cells #[.string (bs x)] 9)) = .ok (.slice (some ⟨g, 0, none⟩) ((P.get k).length + 1) cap) w3 ∧ w3.cell? ⟨pb, offN k, none⟩ = some (U.V k) ∧ w3.frozen? ⟨pb, offN k, none⟩ = false ∧
  ∃ tag', RfW (w3.setCell ⟨pb, offN k, none⟩ (.slice (some ⟨g, 0, none⟩) ((P.get k).length + 1) cap)) tag' base pb (P.put k x) { U with V := putZ U.V k (.slice (some ⟨g, 0, none⟩) ((P.get k).length + 1) cap) } ∧ Ext w tag (w3.setCell ⟨pb, offN k, none⟩ (.slice (some ⟨g, 0, none⟩) ((P.get k).length + 1) cap)) tag' := by
 have hto : ∀ b, tag b ≠ .o → b < w.heap.size := fun b hb => (h.tlt b hb).2
 have hpl := h.lt h.tp (by simp)
 have hg3 := h.g3
 obtain ⟨i0, hi, hy0, hy1, hy2⟩ := info_parts Tryz.infoTx
 obtain ⟨g, cap, w3, tag3, hr3, hrow3, o3, t3, p3, z3, b3, old3, new3⟩ := (h.rows k hk).push Tryz.underlying23 hi hy0 hy1 hy2 rfl (by omega) (strW x) (by simp [Value.oneCell', strW]) 23 (by simpa using hlen) (by omega) hto
 rw [List.length_map] at hr3 hrow3
 have hp3 : w3.heap[pb]? = w.heap[pb]? := b3 pb hpl (by rw [h.tp]; simp)
 have hother : ∀ b, b < w.heap.size → tag b ≠ .row k → b ≠ pb → (w3.setCell ⟨pb, offN k, none⟩ (.slice (some ⟨g, 0, none⟩) ((P.get k).length + 1) cap)).heap[b]? = w.heap[b]? := fun b hb h1 h2 => (Below.heap_setCell w3 ⟨pb, offN k, none⟩ _ b h2).trans (b3 b hb h1)
 have hx : Ext w tag (w3.setCell ⟨pb, offN k, none⟩ (.slice (some ⟨g, 0, none⟩) ((P.get k).length + 1) cap)) tag3 := ⟨o3, t3, p3, by simp; omega, fun b hb => old3 b (by omega), fun b hb hbo => hother b hb (by rw [hbo]; simp) (ne_tag hbo h.tp (by simp))⟩
 refine ⟨g, cap, w3, hr3, (World.cell?_of_block (w := w) (a := ⟨pb, offN k, none⟩) hp3).trans (h.rowC hk), (World.frozen?_of_block (w := w) (a := ⟨pb, offN k, none⟩) hp3).trans (h.frz _), tag3, ?_, hx⟩
 have hget : ∀ k', isN k' → (P.put k x).get k' = if k' = k then P.get k ++ [x] else P.get k' := fun k' hk' => by
  rcases hk with rfl | rfl | rfl <;> rcases hk' with rfl | rfl | rfl <;> simp [RP.put, RP.get]
 refine h.step (fun x => x = .row k ∨ x = .rd) hx (fun b hb h1 h2 => hother b hb (fun e => h2 (.inl e)) (fun e => h2 (by rw [e]; exact .inr h.tp))) (fun b hb hn => by simp only [World.size_setCell]; exact new3 b hb hn) ?_ (fun k' hk' => ?_) (.inl ⟨rfl, ?_, rfl, ?_⟩) (fun j th p h1 h2 => .inl ⟨?_, h2, by simp, by simp⟩)
 ·rw [heap_setCell_same w3 pb (offN k) _ _ _ (hp3.trans h.cell)]
  rcases hk with rfl | rfl | rfl <;> simp [offN, putZ]
 ·rw [hget k' hk']
  by_cases e : k' = k
  ·subst e
   right
   rw [if_pos rfl, List.map_append]
   show RowOk _ _ _ _ _ (putZ U.V k' _ k') _
   rw [putZ_same]
   refine ⟨owns_same hrow3.row fun y hy => ?_, hrow3.tg⟩
   exact Below.heap_setCell w3 ⟨pb, offN k', none⟩ _ y (ne_tag (hrow3.tg y hy) ((old3 pb (by omega)).trans h.tp) (by simp))
  ·left
   rw [if_neg e]
   exact ⟨putZ_other _ e, rfl, by simp; exact e⟩
 ·rcases hk with rfl | rfl | rfl <;> simp [RP.put]
 ·rcases hk with rfl | rfl | rfl <;> simp
 ·have e : (P.put k x).thr = P.thr := by rcases hk with rfl | rfl | rfl <;> simp [RP.put]
  rw [← e]; exact h1
end
theorem flat_at {α : Type} {f : α → List Value} {m : Nat} (hf : ∀ x, (f x).length = m) {l : List α} {j r : Nat} {x : α} (hj : l[j]? = some x) (hr : r < m) : (l.flatMap f)[j * m + r]? = (f x)[r]? := by
 induction l generalizing j with
 | nil => cases hj
 | cons y l ih =>
  rw [List.flatMap_cons]
  cases j with
  | zero =>
   have hj : some y = some x := hj
   cases hj
   rw [Nat.zero_mul, Nat.zero_add, List.getElem?_append_left (by rw [hf]; exact hr)]
  | succ j =>
   rw [List.getElem?_append_right (by rw [hf, Nat.add_mul]; omega), hf, show (j + 1) * m + r - m = j * m + r by rw [Nat.add_mul]; omega]
   exact ih (by simpa using hj)
theorem flat_set {α : Type} {f : α → List Value} {m : Nat} (hf : ∀ x, (f x).length = m) {l : List α} {j r : Nat} {x y : α} {u : Value} (hj : l[j]? = some x) (hr : r < m) (hy : f y = (f x).set r u) : (l.flatMap f).set (j * m + r) u = (l.set j y).flatMap f := by
 induction l generalizing j with
 | nil => cases hj
 | cons z l ih =>
  rw [List.flatMap_cons]
  cases j with
  | zero =>
   have hj : some z = some x := hj
   cases hj
   rw [Nat.zero_mul, Nat.zero_add, List.set_append_left _ _ (by rw [hf]; exact hr), List.set_cons_zero, List.flatMap_cons, hy]
  | succ j =>
   rw [List.set_append_right _ _ (by rw [hf, Nat.add_mul]; omega), hf, show (j + 1) * m + r - m = j * m + r by rw [Nat.add_mul]; omega, ih (by simpa using hj), List.set_cons_succ, List.flatMap_cons]
theorem c_below {w w' : World} {base e size n : Nat} {v : Value} {xs : List Value} {B : Nat} (h : w.ownsRow base e size v n xs) (hb : Below B w w') (hB : ∀ g, v.ownBlock = some g → g < B) : w'.ownsRow base e size v n xs := owns_same h fun g e => hb.block g (hB g e)
theorem c_belowS {w w' : World} {base e size n : Nat} {v : Value} {xs : List Value} (h : w.ownsRow base e size v n xs) (hb : Below w.heap.size w w') : w'.ownsRow base e size v n xs := c_below h hb fun g e => (h.lt g e).2
theorem row_ws0 {w : World} {base e n : Nat} {v : Value} {l : List Tx} (hr : w.ownsRow base e 1 v n (l.map strW)) (hn : l.length = n) : ∃ a cap, v = .slice a n cap ∧ Ws w a l := by
 rcases hr.2 with ⟨h1, h2⟩ | ⟨g, cap, cur, h1, _⟩
 ·exact ⟨none, 0, by rw [h1, h2], fun i hi => by omega⟩
 ·refine ⟨_, cap, h1, fun i hi => ⟨g, 0, rfl, (hr.lt g (by rw [h1]; rfl)).2, ?_⟩⟩
  rw [h1] at hr
  rw [Nat.zero_add, hr.cellAt i (by omega), List.getElem?_map, List.getElem?_eq_getElem hi, List.getD_eq_getElem?_getD, List.getElem?_eq_getElem hi]; rfl
theorem row_form {w : World} {base e size n : Nat} {v : Value} {xs : List Value} (h : w.ownsRow base e size v n xs) {k : Nat} (hk : k < n) : ∃ g cap, v = .slice (some ⟨g, 0, none⟩) n cap ∧ g < w.heap.size ∧ ∀ j, j < n * size → w.cell? ⟨g, j, none⟩ = xs[j]? := by
 obtain ⟨m, rfl⟩ : ∃ m, n = m + 1 := ⟨n - 1, by omega⟩
 obtain ⟨g, cap, rfl⟩ := ownsRow_succ h
 exact ⟨g, cap, rfl, (h.lt g rfl).2, fun j hj => h.cellAt j hj⟩
theorem insL_len (i : In7) : (insC i).toList.length = 7 := rfl
theorem thrL_len (p : Tx × Value) : [Value.string (bs p.1), p.2].length = 2 := rfl
structure I7At (w : World) (g k : Nat) (i : In7) : Prop where
 c0 : w.cell? ⟨g, k * 7, none⟩ = some (.string (bs i.op))
 c1 : w.cell? ⟨g, k * 7 + 1, none⟩ = some (.int .i64 i.r)
 c2 : w.cell? ⟨g, k * 7 + 2, none⟩ = some (.bool i.aR)
 c3 : w.cell? ⟨g, k * 7 + 3, none⟩ = some (.int .i64 i.aN)
 c4 : w.cell? ⟨g, k * 7 + 4, none⟩ = some (.bool i.bR)
 c5 : w.cell? ⟨g, k * 7 + 5, none⟩ = some (.int .i64 i.bN)
 c6 : w.cell? ⟨g, k * 7 + 6, none⟩ = some (.int .i64 i.x)
theorem i7_at {w : World} {base : Nat} {v : Value} {is : List In7} {k : Nat} {i : In7} (h : w.ownsRow base 67 7 v is.length (codeC is)) (hk : is[k]? = some i) : ∃ g cap, v = .slice (some ⟨g, 0, none⟩) is.length cap ∧ g < w.heap.size ∧ I7At w g k i := by
 have hl := (List.getElem?_eq_some_iff.1 hk).1
 obtain ⟨g, cap, e, hg, hc⟩ := row_form h hl
 have key : ∀ q, q < 7 → w.cell? ⟨g, k * 7 + q, none⟩ = (insC i).toList[q]? := fun q hq => by
  rw [hc (k * 7 + q) (by omega)]; exact flat_at insL_len hk hq
 exact ⟨g, cap, e, hg, key 0 (by omega), key 1 (by omega), key 2 (by omega), key 3 (by omega), key 4 (by omega), key 5 (by omega), key 6 (by omega)⟩
end Go.Proofs.YtcfpedjfofpnkaaGreatDoor
