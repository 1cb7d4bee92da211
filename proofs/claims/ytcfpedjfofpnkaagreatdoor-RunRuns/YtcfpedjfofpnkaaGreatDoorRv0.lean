import Derived.Test.YtcfpedjfofpnkaaGreatDoorChecked
import Derived.Laws.Strings
import Derived.WalkKit
import Derived.ProofKit
import Derived.Below
import Derived.Laws.Rows
import Derived.Shelf.Lay
import Derived.Shelf.Strconv.Itoa3
import Derived.Lib.SmallJoins
import Derived.Lib.AppendIntMem
import Derived.Lib.ItoaLen
set_option linter.unusedVariables false
set_option linter.unusedSimpArgs false
namespace Go.Proofs.Cod
abbrev Tx := List UInt8
def bs (t : Tx) : ByteArray := ⟨t.toArray⟩
theorem bs_size (t : Tx) : (bs t).size = t.length := by simp [bs, ByteArray.size]
theorem bs_get (t : Tx) (i : Nat) (h : i < (bs t).size) : (bs t)[i] = t[i]'(by rw [bs_size] at h; exact h) := by
 simp [bs, ByteArray.getElem_eq_getElem_data]
theorem bs_inj {a b : Tx} (h : bs a = bs b) : a = b := by
 have : (bs a).data = (bs b).data := by rw [h]
 simpa [bs] using this
theorem bs_of (s : ByteArray) : bs s.data.toList = s := by simp [bs]
theorem bs_append (a b : Tx) : bs a ++ bs b = bs (a ++ b) := by
 apply ByteArray.ext
 rw [ByteArray.data_append]
 simp [bs]
theorem bs_extract (t : Tx) (i j : Nat) : (bs t).extract i j = bs ((t.take j).drop i) := by
 apply ByteArray.ext
 rw [ByteArray.data_extract]
 simp [bs, List.extract_eq_take_drop, List.drop_take]
theorem bs_toList (t : Tx) : (bs t).toList = t := ByteArray.toList_mk t
def isDig (c : UInt8) : Bool := decide (48 ≤ (c.toNat : Int)) && decide ((c.toNat : Int) ≤ 57)
def isLet (c : UInt8) : Bool := decide (97 ≤ (c.toNat : Int)) && decide ((c.toNat : Int) ≤ 122)
def isReg (t : Tx) : Bool := match t with
 | [a, b] => decide ((a.toNat : Int) = 114) && decide (48 ≤ (b.toNat : Int)) && decide ((b.toNat : Int) ≤ 51)
 | _ => false
def isNum (t : Tx) : Bool := decide (1 ≤ t.length) && decide (t.length ≤ 3) && t.all isDig
def isNam (t : Tx) : Bool := decide (1 ≤ t.length) && decide (t.length ≤ 8) && !isReg t && t.all (fun c => isLet c || isDig c) && isLet (t.headD 0)
end Go.Proofs.Cod
namespace Go.Proofs.YtcfpedjfofpnkaaGreatDoor
open Go.RowKit Go.Proofs.Cod
theorem hide {p : Prop} (h : p) : Hid p := h
set_option maxHeartbeats 400000 in
theorem isLetter_any (c : UInt8) (w : World) : Calls Tryz.prog 130 #[.int .u8 c.toNat] w fun e w' => e = .returned (.bool (isLet c)) ∧ w' = w := by
 unfold isLet
 generalize (c.toNat : Int) = x
 go_enter Tryz.func130, Tryz.ntmps130
 go_wp2
 all_goals
  go_ret
  simp_all <;> omega
set_option maxHeartbeats 400000 in
theorem isDigit_any (c : UInt8) (w : World) : Calls Tryz.prog 131 #[.int .u8 c.toNat] w fun e w' => e = .returned (.bool (isDig c)) ∧ w' = w := by
 unfold isDig
 generalize (c.toNat : Int) = x
 go_enter Tryz.func131, Tryz.ntmps131
 go_wp2
 all_goals
  go_ret
  simp_all <;> omega
set_option maxHeartbeats 400000 in
theorem isRegister_any (t : Tx) (w : World) : Calls Tryz.prog 129 #[.string (bs t)] w fun e w' => e = .returned (.bool (isReg t)) ∧ w' = w := by
 have hz := bs_size t
 by_cases h2 : t.length = 2
 ·obtain ⟨a, b, rfl⟩ : ∃ a b, t = [a, b] := by
   match t, h2 with
   | [a, b], _ => exact ⟨a, b, rfl⟩
  have h0 : ∀ h, (bs [a, b])[0]'h = a := fun h => bs_get _ 0 h
  have h1 : ∀ h, (bs [a, b])[1]'h = b := fun h => bs_get _ 1 h
  have hz2 : (bs [a, b]).size = 2 := hz
  unfold isReg
  simp only
  go_enter Tryz.func129, Tryz.ntmps129
  go_wp2
  all_goals
   go_ret
   simp_all <;> omega
 ·have h2' : ¬ ((t.length : Int) = 2) := by omega
  have hf : isReg t = false := by
   match t, h2 with
   | [], _ => rfl
   | [_], _ => rfl
   | _ :: _ :: _ :: _, _ => rfl
  rw [hf]
  go_enter Tryz.func129, Tryz.ntmps129
  go_wp2
  all_goals
   go_ret
   simp_all
theorem all_take {p : UInt8 → Bool} {t : Tx} {i : Nat} (h : i < t.length) : (t.take (i + 1)).all p = ((t.take i).all p && p t[i]) := by
 rw [List.take_succ_eq_append_getElem h, List.all_append]; simp
theorem all_no {p : UInt8 → Bool} {t : Tx} {i : Nat} (h : i < t.length) (hp : p t[i] = false) : t.all p = false := by
 rw [List.all_eq_false]
 exact ⟨t[i], List.getElem_mem h, by rw [hp]; simp⟩
set_option maxRecDepth 100000 in
set_option maxHeartbeats 400000 in
theorem isNumber_any (t : Tx) (w : World) : Calls Tryz.prog 143 #[.string (bs t)] w fun e w' => e = .returned (.bool (isNum t)) ∧ w' = w := by
 have hz := bs_size t
 by_cases h1 : 1 ≤ t.length ∧ t.length ≤ 3
 ·have hn : Hid (isNum t = t.all isDig) := by unfold Hid isNum; rw [decide_eq_true h1.1, decide_eq_true h1.2]; rfl
  have g1 : ¬ ((t.length : Int) < 1) := by omega
  have g2 : ¬ (3 < (t.length : Int)) := by omega
  go_enter Tryz.func143, Tryz.ntmps143
  go_wp2_with fail
  go_loopw [14] (fun iv wr => ∃ i : Nat, i ≤ t.length ∧ iv = .int .i64 i ∧ (t.take i).all isDig = true ∧ wr = w) (fun iv _ => t.length - (intOf iv).toNat)
  case atStart => exact ⟨0, Nat.zero_le _, rfl, by simp, rfl⟩
  case round =>
   obtain ⟨i, hi, rfl, hall, rfl⟩ := hrel
   by_cases h5 : i < t.length
   ·have hb : ∀ h, (bs t)[i]'h = t[i] := fun h => bs_get t i h
    have hlt : (i : Int) < (t.length : Int) := by omega
    have hA := all_take (p := isDig) h5
    have hN := all_no (p := isDig) h5
    have HA := hide (⟨hA, hN, hall⟩ : _ ∧ _ ∧ _)
    clear hA hN hall
    go_wp2_with fail
    refine (isDigit_any t[i] _).mono ?_
    rintro e w2 ⟨rfl, rfl⟩
    cases hd : isDig t[i] with
    | true =>
     go_wp2_with fail
     go_roundw
     case rel => exact ⟨i + 1, by omega, by go_num, by rw [HA.out.1, HA.out.2.2, hd]; rfl, by trivial⟩
     case measure => simp [intOf]; omega
    | false =>
     go_wp2_with fail
     go_ret
     exact ⟨by rw [hn.out, HA.out.2.1 hd]; rfl, rfl⟩
   ·have hh : Hid (t.all isDig = true) := by rw [List.take_of_length_le (by omega)] at hall; exact hall
    clear hall
    go_wp2_with fail
    go_ret
    exact ⟨by rw [hn.out, hh.out]; rfl, rfl⟩
 ·have hn : isNum t = false := by
   unfold isNum
   by_cases g : 1 ≤ t.length
   ·have g2 : ¬ t.length ≤ 3 := fun h => h1 ⟨g, h⟩
    rw [decide_eq_false g2]; simp
   ·rw [decide_eq_false g]; rfl
  rw [hn]
  by_cases g : t.length = 0
  ·have g1 : ((t.length : Int) < 1) := by omega
   go_enter Tryz.func143, Tryz.ntmps143
   go_wp2_with fail
   go_ret
   exact ⟨rfl, rfl⟩
  ·have g1 : ¬ ((t.length : Int) < 1) := by omega
   have g2 : (3 < (t.length : Int)) := by omega
   go_enter Tryz.func143, Tryz.ntmps143
   go_wp2_with fail
   go_ret
   exact ⟨rfl, rfl⟩
theorem isNam_len {t : Tx} (h1 : 1 ≤ t.length) (h2 : t.length ≤ 8) (h3 : isReg t = false) : isNam t = (t.all (fun c => isLet c || isDig c) && isLet (t.headD 0)) := by
 unfold isNam; rw [decide_eq_true h1, decide_eq_true h2, h3]; rfl
theorem isNam_no {t : Tx} (h : ¬ (1 ≤ t.length ∧ t.length ≤ 8 ∧ isReg t = false)) : isNam t = false := by
 cases hr : isNam t with
 | false => rfl
 | true =>
  unfold isNam at hr
  simp only [Bool.and_eq_true, decide_eq_true_eq, Bool.not_eq_true'] at hr
  exact absurd ⟨hr.1.1.1.1, hr.1.1.1.2, hr.1.1.2⟩ h
set_option maxRecDepth 100000 in
set_option maxHeartbeats 800000 in
theorem isName_any (t : Tx) (w : World) : Calls Tryz.prog 117 #[.string (bs t)] w fun e w' => e = .returned (.bool (isNam t)) ∧ w' = w := by
 have hz := bs_size t
 by_cases h1 : 1 ≤ t.length ∧ t.length ≤ 8
 ·have g1 : ¬ ((t.length : Int) < 1) := by omega
  have g2 : ¬ (8 < (t.length : Int)) := by omega
  have hR := isRegister_any t
  cases hr : isReg t with
  | true =>
   have hn : isNam t = false := isNam_no (fun h => by rw [hr] at h; exact absurd h.2.2 (by simp))
   rw [hn]
   rw [hr] at hR
   go_enter Tryz.func117, Tryz.ntmps117
   go_wp2_with fail
   refine (hR _).mono ?_
   rintro e w1 ⟨rfl, rfl⟩
   go_wp2_with fail
   go_ret
   exact ⟨rfl, rfl⟩
  | false =>
   have hn : Hid (isNam t = (t.all (fun c => isLet c || isDig c) && isLet (t.headD 0))) := isNam_len h1.1 h1.2 hr
   rw [hr] at hR
   go_enter Tryz.func117, Tryz.ntmps117
   go_wp2_with fail
   refine (hR _).mono ?_
   rintro e w1 ⟨rfl, rfl⟩
   go_wp2_with fail
   go_loopw [18] (fun iv wr => ∃ i : Nat, i ≤ t.length ∧ iv = .int .i64 i ∧ (t.take i).all (fun c => isLet c || isDig c) = true ∧ wr = w1) (fun iv _ => t.length - (intOf iv).toNat)
   case atStart => exact ⟨0, Nat.zero_le _, rfl, by simp, rfl⟩
   case round =>
    obtain ⟨i, hi, rfl, hall, rfl⟩ := hrel
    by_cases h5 : i < t.length
    ·have hb : ∀ h, (bs t)[i]'h = t[i] := fun h => bs_get t i h
     have hlt : (i : Int) < (t.length : Int) := by omega
     have HA := hide (⟨all_take (p := fun c => isLet c || isDig c) h5, all_no (p := fun c => isLet c || isDig c) h5, hall⟩ : _ ∧ _ ∧ _)
     clear hall
     go_wp2_with fail
     refine (isLetter_any t[i] _).mono ?_
     rintro e w2 ⟨rfl, rfl⟩
     cases hl : isLet t[i] with
     | true =>
      go_wp2_with fail
      go_roundw
      case rel => exact ⟨i + 1, by omega, by go_num, by rw [HA.out.1, HA.out.2.2, hl]; rfl, by trivial⟩
      case measure => simp [intOf]; omega
     | false =>
      go_wp2_with fail
      refine (isDigit_any t[i] _).mono ?_
      rintro e w3 ⟨rfl, rfl⟩
      cases hd : isDig t[i] with
      | true =>
       go_wp2_with fail
       go_roundw
       case rel => exact ⟨i + 1, by omega, by go_num, by rw [HA.out.1, HA.out.2.2, hl, hd]; rfl, by trivial⟩
       case measure => simp [intOf]; omega
      | false =>
       go_wp2_with fail
       go_ret
       exact ⟨by rw [hn.out, HA.out.2.1 (by rw [hl, hd]; rfl)]; rfl, by trivial⟩
    ·have hh : Hid (t.all (fun c => isLet c || isDig c) = true) := by rw [List.take_of_length_le (by omega)] at hall; exact hall
     have h0 : 0 < t.length := by omega
     have hb : ∀ h, (bs t)[0]'h = t[0] := fun h => bs_get t 0 h
     have hhd : Hid (t.headD 0 = t[0]) := by
      match t, h0 with
      | c :: r, _ => rfl
     clear hall
     go_wp2_with fail
     refine (isLetter_any t[0] _).mono ?_
     rintro e w2 ⟨rfl, rfl⟩
     go_wp2_with fail
     go_ret
     exact ⟨by rw [hn.out, hh.out, hhd.out]; rfl, by trivial⟩
 ·have hn : isNam t = false := isNam_no (fun h => h1 ⟨h.1, h.2.1⟩)
  rw [hn]
  by_cases g : t.length = 0
  ·have g1 : ((t.length : Int) < 1) := by omega
   go_enter Tryz.func117, Tryz.ntmps117
   go_wp2_with fail
   go_ret
   exact ⟨rfl, rfl⟩
  ·have g1 : ¬ ((t.length : Int) < 1) := by omega
   have g2 : (8 < (t.length : Int)) := by omega
   go_enter Tryz.func117, Tryz.ntmps117
   go_wp2_with fail
   go_ret
   exact ⟨rfl, rfl⟩
def Ws (w : World) (a : Option Addr) (ts : List Tx) : Prop :=
 ∀ i, i < ts.length → ∃ b off, a = some ⟨b, off, none⟩ ∧ b < w.heap.size ∧ w.cell? ⟨b, off + i, none⟩ = some (.string (bs (ts.getD i [])))
theorem Ws.below {w w' : World} {a : Option Addr} {ts : List Tx} (h : Ws w a ts) (hb : Below w.heap.size w w') : Ws w' a ts := by
 intro i hi
 obtain ⟨b, off, e1, e2, e3⟩ := h i hi
 exact ⟨b, off, e1, by have := hb.size; omega, (hb.cell (p := ⟨b, off + i, none⟩) e2).trans e3⟩
theorem allT_take {p : Tx → Bool} {ts : List Tx} {i : Nat} (h : i < ts.length) : (ts.take (i + 1)).all p = ((ts.take i).all p && p (ts.getD i [])) := by
 rw [List.take_succ_eq_append_getElem h, List.all_append]; simp [h]
theorem allT_no {p : Tx → Bool} {ts : List Tx} {i : Nat} (h : i < ts.length) (hp : p (ts.getD i []) = false) : ts.all p = false := by
 rw [List.all_eq_false]
 exact ⟨ts.getD i [], by simp [h], by rw [hp]; simp⟩
set_option maxRecDepth 100000 in
set_option maxHeartbeats 400000 in
theorem areNames_any (a : Option Addr) (n cap : Nat) (ts : List Tx) (w : World) (hn : ts.length = n) (hs : Ws w a ts) (hb : n < 4294967281) :
 Calls Tryz.prog 115 #[.slice a n cap] w fun e w' => e = .returned (.bool (ts.all isNam)) ∧ w' = w := by
 go_enter Tryz.func115, Tryz.ntmps115
 go_wp2_with fail
 go_loopw [7] (fun iv wr => ∃ i : Nat, i ≤ n ∧ iv = .int .i64 i ∧ (ts.take i).all isNam = true ∧ wr = w) (fun iv _ => n - (intOf iv).toNat)
 case atStart => exact ⟨0, Nat.zero_le _, rfl, by simp, rfl⟩
 case round =>
  obtain ⟨i, hi, rfl, hall, rfl⟩ := hrel
  by_cases h5 : i < n
  ·obtain ⟨b, off, rfl, _, c0⟩ := hs i (by omega)
   have hlt : (i : Int) < (n : Int) := by omega
   have HA := hide (⟨allT_take (p := isNam) (by omega : i < ts.length), allT_no (p := isNam) (by omega : i < ts.length), hall⟩ : _ ∧ _ ∧ _)
   generalize ts.getD i [] = t at c0 HA
   clear hall
   go_wp2_with fail
   refine (isName_any t _).mono ?_
   rintro e w2 ⟨rfl, rfl⟩
   cases hd : isNam t with
   | true =>
    go_wp2_with fail
    go_roundw
    case rel => exact ⟨i + 1, by omega, by go_num, by rw [HA.out.1, HA.out.2.2, hd]; rfl, by trivial⟩
    case measure => simp [intOf]; omega
   | false =>
    go_wp2_with fail
    go_ret
    exact ⟨by rw [HA.out.2.1 hd]; rfl, by trivial⟩
  ·have hh : Hid (ts.all isNam = true) := by rw [List.take_of_length_le (by omega)] at hall; exact hall
   clear hall
   go_wp2_with fail
   go_ret
   exact ⟨by rw [hh.out]; rfl, by trivial⟩
def fitsP (t : Tx) (c : Int) : Bool := if c = 114 then isReg t else if c = 97 ∨ c = 98 then (isReg t || isNum t) else isNam t
set_option maxHeartbeats 400000 in
theorem fitsPart_any (t : Tx) (c : Int) (w : World) : Calls Tryz.prog 132 #[.string (bs t), .int .u8 c] w fun e w' => e = .returned (.bool (fitsP t c)) ∧ w' = w := by
 by_cases h1 : c = 114
 ·subst h1
  have hf : fitsP t 114 = isReg t := rfl
  rw [hf]
  go_enter Tryz.func132, Tryz.ntmps132
  go_wp2_with fail
  refine (isRegister_any t _).mono ?_
  rintro e w2 ⟨rfl, rfl⟩
  go_wp2_with fail
  go_ret
  exact ⟨rfl, rfl⟩
 ·by_cases h2 : c = 97 ∨ c = 98
  ·have hf : Hid (fitsP t c = (isReg t || isNum t)) := by unfold Hid fitsP; rw [if_neg h1, if_pos h2]
   have key : Calls Tryz.prog 132 #[.string (bs t), .int .u8 c] w fun e w' => e = .returned (.bool (isReg t || isNum t)) ∧ w' = w := by
    rcases h2 with rfl | rfl
    all_goals
     go_enter Tryz.func132, Tryz.ntmps132
     go_wp2_with fail
     refine (isRegister_any t _).mono ?_
     rintro e w2 ⟨rfl, rfl⟩
     cases hr : isReg t with
     | true =>
      go_wp2_with fail
      go_ret
      exact ⟨by rw [hr]; rfl, by trivial⟩
     | false =>
      go_wp2_with fail
      refine (isNumber_any t _).mono ?_
      rintro e w3 ⟨rfl, rfl⟩
      go_wp2_with fail
      go_ret
      exact ⟨by rw [hr]; rfl, by trivial⟩
   rw [hf.out]; exact key
  ·have hf : fitsP t c = isNam t := by unfold fitsP; rw [if_neg h1, if_neg h2]
   rw [hf]
   have g1 : ¬ (c = 97) := fun h => h2 (.inl h)
   have g2 : ¬ (c = 98) := fun h => h2 (.inr h)
   go_enter Tryz.func132, Tryz.ntmps132
   go_wp2_with fail
   refine (isName_any t _).mono ?_
   rintro e w2 ⟨rfl, rfl⟩
   go_wp2_with fail
   go_ret
   exact ⟨rfl, rfl⟩
def tVar : Tx := [118, 97, 114]
def tFlag : Tx := [102, 108, 97, 103]
def tLock : Tx := [108, 111, 99, 107]
def tabC (l : List (Tx × Value)) : Array Value := (l.flatMap fun p => [.string (bs p.1), p.2]).toArray
theorem tabC_size (l : List (Tx × Value)) : (tabC l).size = 2 * l.length := by
 unfold tabC; simp
 induction l with
 | nil => rfl
 | cons p l ih => simp [List.flatMap_cons, ih]; omega
theorem flat_drop (l : List (Tx × Value)) (i : Nat) : (l.flatMap fun p => [Value.string (bs p.1), p.2]).drop (i * 2) = (l.drop i).flatMap fun p => [Value.string (bs p.1), p.2] := by
 induction l generalizing i with
 | nil => simp
 | cons p l ih =>
  cases i with
  | zero => simp
  | succ i => rw [List.flatMap_cons, show (i + 1) * 2 = i * 2 + 2 by omega]; simpa using ih i
theorem tabC_part {l : List (Tx × Value)} {i : Nat} {p : Tx × Value} (h : l[i]? = some p) : (tabC l).extract (i * 2) (i * 2 + 2) = #[.string (bs p.1), p.2] := by
 unfold tabC
 obtain ⟨hi, rfl⟩ := List.getElem?_eq_some_iff.1 h
 rw [List.extract_toArray]
 congr 1
 rw [List.extract_eq_take_drop, flat_drop, List.drop_eq_getElem_cons hi, List.flatMap_cons]
 have : i * 2 + 2 - i * 2 = 2 := by omega
 rw [this]; rfl
theorem bs_ne {s t : Tx} (h : ¬ s = t) : ((bs s).toList == (bs t).toList) = false := by rw [bs_toList, bs_toList]; simpa using h
def tabAt (l : List (Tx × Value)) (t : Tx) : Option Value := (l.find? fun p => p.1 = t).map (·.2)
theorem tabAt_none {l : List (Tx × Value)} {t : Tx} (h : ∀ (j : Nat) (p : Tx × Value), l[j]? = some p → p.1 ≠ t) : tabAt l t = none := by
 unfold tabAt
 rw [List.find?_eq_none.2]; · rfl
 intro p hp
 obtain ⟨j, hj⟩ := List.getElem?_of_mem hp
 simpa using h j p hj
theorem tabAt_some {l : List (Tx × Value)} {i : Nat} {p : Tx × Value} (hi : l[i]? = some p) (h : ∀ (j : Nat) (q : Tx × Value), j < i → l[j]? = some q → q.1 ≠ p.1) : tabAt l p.1 = some p.2 := by
 unfold tabAt
 have : l.find? (fun q => q.1 = p.1) = some p := by
  rw [List.find?_eq_some_iff_getElem]
  obtain ⟨hi', e⟩ := List.getElem?_eq_some_iff.1 hi
  refine ⟨by simp, i, hi', e, fun j hj => ?_⟩
  simpa using h j l[j] hj (List.getElem?_eq_getElem (by omega))
 rw [this]; rfl
theorem run_index_two {P : Program} {t e : TypeId} {n : Nat} {l : List (Tx × Value)} {i : Nat} {p : Tx × Value} (hp : l[i]? = some p) {w : World} (hu : P.underlying t = some (.array n e)) (hl : l.length = n) (hs : (sizeOf e).run P w = .ok 2 w) (ha : (isAgg e).run P w = .ok true w) :
 (Instr.index t (.agg (tabC l)) (.int .i64 i)).run P w = .ok (.agg #[.string (bs p.1), p.2]) w := by
 have hi : i < n := by obtain ⟨h, _⟩ := List.getElem?_eq_some_iff.1 hp; omega
 have h1 : (0 : Int) ≤ i ∧ (i : Int) < n := by omega
 have h2 : ¬ (n ≤ i) := by omega
 simp [Instr.index, run_underlying hu, asIntOf, h1, h2, part, hs, ha, go_sem, tabC_part hp]
def headL : List (Tx × Value) := [(tVar, .int .u8 118), (tFlag, .int .u8 102), (tLock, .int .u8 109)]
def Heads (w : World) : Prop := ∃ fr, w.heap[0]? = some (.cells (tabC headL) 204 fr)
def headK (t : Tx) : Int := if tVar = t then 118 else if tFlag = t then 102 else if tLock = t then 109 else 0
theorem head_at (t : Tx) : Value.int .u8 (headK t) = (tabAt headL t).getD (.int .u8 0) := by
 unfold headK tabAt headL
 simp only [List.find?_cons]
 by_cases h1 : tVar = t
 ·simp [h1]
 ·by_cases h2 : tFlag = t
  ·simp [h1, h2]
  ·by_cases h3 : tLock = t
   ·simp [h1, h2, h3]
   ·simp [h1, h2, h3]
theorem headL_kind {i : Nat} {p : Tx × Value} (h : headL[i]? = some p) : ∃ c, p.2 = .int .u8 c := by
 have := List.mem_of_getElem? h
 simp [headL] at this
 rcases this with rfl | rfl | rfl <;> exact ⟨_, rfl⟩
attribute [irreducible] tabC
def Kinded (l : List (Tx × Value)) (p : Value → Prop) : Prop := ∀ (i : Nat) (q : Tx × Value), l[i]? = some q → p q.2
set_option maxRecDepth 100000 in
set_option maxHeartbeats 1000000 in
theorem headingKind_any (t : Tx) (w : World) (h : Heads w) : Calls Tryz.prog 98 #[.string (bs t)] w fun e w' => e = .returned (.int .u8 (headK t)) ∧ Below w.heap.size w w' := by
 obtain ⟨fr, h⟩ := h
 rw [head_at]
 have hlen : headL.length = 3 := rfl
 have hkind : Kinded headL (fun v => ∃ c, v = .int .u8 c) := fun i q hq => headL_kind hq
 generalize headL = l at *
 go_enter Tryz.func98, Tryz.ntmps98
 go_wp2_with (refine wpList_load_row rfl _ _ rfl 0 rfl _ _ fr _ h Tryz.underlying204 rfl (by rw [tabC_size, hlen]; kernel_rfl) ?_)
 go_loopw [6] (fun iv wr => ∃ i : Nat, i ≤ 3 ∧ iv = .int .i64 i ∧ (∀ (j : Nat) (p : Tx × Value), j < i → l[j]? = some p → p.1 ≠ t) ∧ Below w.heap.size w wr) (fun iv _ => 3 - (intOf iv).toNat)
 case atStart => exact ⟨0, by omega, rfl, fun j p hj => by omega, Below.refl _ _⟩
 case round =>
  obtain ⟨i, hi, rfl, hh, hb⟩ := hrel
  by_cases h5 : i < 3
  ·have hlt : (i : Int) < 3 := by omega
   obtain ⟨⟨s, v⟩, hp⟩ : ∃ p, l[i]? = some p := ⟨l[i], List.getElem?_eq_getElem (by omega)⟩
   obtain ⟨c, hc⟩ := hkind i _ hp
   have hc : v = .int .u8 c := hc
   subst hc
   have hx := run_index_two hp (w := wr) Tryz.underlying204 hlen (by kernel_rfl) (by kernel_rfl)
   have hbw := (hb.alloc hb.size (.cells #[.string (bs s), .int .u8 c] 203))
   have HA := hide (⟨hh, hbw, tabAt_some hp⟩ : _ ∧ _ ∧ _)
   clear hh hb
   by_cases he : s = t
   ·subst he
    go_wp2_with fail
    go_ret
    refine ⟨?_, HA.out.2.1⟩
    rw [HA.out.2.2 HA.out.1]; rfl
   ·have hne := bs_ne he
    go_wp2_with fail
    go_roundw
    case rel =>
     refine ⟨i + 1, by omega, by go_num, fun j q hj hq => ?_, HA.out.2.1⟩
     by_cases h6 : j = i
     ·subst h6; rw [hp] at hq; cases hq; exact he
     ·exact HA.out.1 j q (by omega) hq
    case measure => simp [intOf]; omega
  ·have HA := hide (⟨hh, hb, tabAt_none (l := l) (t := t) fun j p hp => hh j p (by obtain ⟨h, _⟩ := List.getElem?_eq_some_iff.1 hp; omega) hp⟩ : _ ∧ _ ∧ _)
   clear hh hb
   go_wp2_with fail
   go_ret
   refine ⟨?_, HA.out.2.1⟩
   rw [HA.out.2.2]; rfl
def shapeT : List (Tx × Tx) := [([115, 101, 116], [114, 97]), ([97, 100, 100], [114, 97, 98]), ([115, 117, 98], [114, 97, 98]), ([109, 117, 108], [114, 97, 98]), ([108, 111, 97, 100], [114, 118]), ([115, 116, 111, 114, 101], [118, 97]), ([103, 101, 116], [114, 102]), ([112, 117, 116], [102, 97]), ([108, 111, 99, 107], [109]), ([117, 110, 108, 111, 99, 107], [109]), ([115, 112, 97, 119, 110], [116]), ([106, 111, 105, 110], [116]), ([106, 117, 109, 112], [108]), ([106, 101, 113], [97, 98, 108]), ([106, 108, 116], [97, 98, 108]), ([99, 104, 101, 99, 107], [97, 98]), ([101, 110, 100], [])]
def shapeL : List (Tx × Value) := shapeT.map fun p => (p.1, .string (bs p.2))
def Shapes (w : World) : Prop := ∃ fr, w.heap[2]? = some (.cells (tabC shapeL) 220 fr)
def partsT (t : Tx) : Option Tx := (shapeT.find? fun p => p.1 = t).map (·.2)
theorem parts_at (t : Tx) : tabAt shapeL t = (partsT t).map fun p => .string (bs p) := by
 unfold tabAt partsT shapeL
 rw [List.find?_map]
 cases h : List.find? (fun p => decide (p.1 = t)) shapeT with
 | none => simp [Function.comp_def, h]
 | some p => simp [Function.comp_def, h]
set_option maxRecDepth 100000 in
set_option maxHeartbeats 1000000 in
theorem partsOf_any (t : Tx) (w : World) (h : Shapes w) : Calls Tryz.prog 118 #[.string (bs t)] w fun e w' => e = .returned (.tuple #[.string (bs ((partsT t).getD [])), .bool (partsT t).isSome]) ∧ Below w.heap.size w w' := by
 obtain ⟨fr, h⟩ := h
 have hpa := hide (parts_at t)
 have hlen : shapeL.length = 17 := rfl
 have hkind : Kinded shapeL (fun v => ∃ c, v = .string (bs c)) := fun i q hq => by
  obtain ⟨p, _, rfl⟩ := List.mem_map.1 (List.mem_of_getElem? hq)
  exact ⟨_, rfl⟩
 generalize shapeL = l at *
 go_enter Tryz.func118, Tryz.ntmps118
 go_wp2_with (refine wpList_load_row rfl _ _ rfl 2 rfl _ _ fr _ h Tryz.underlying220 rfl (by rw [tabC_size, hlen]; kernel_rfl) ?_)
 go_loopw [7] (fun iv wr => ∃ i : Nat, i ≤ 17 ∧ iv = .int .i64 i ∧ (∀ (j : Nat) (p : Tx × Value), j < i → l[j]? = some p → p.1 ≠ t) ∧ Below w.heap.size w wr) (fun iv _ => 17 - (intOf iv).toNat)
 case atStart => exact ⟨0, by omega, rfl, fun j p hj => by omega, Below.refl _ _⟩
 case round =>
  obtain ⟨i, hi, rfl, hh, hb⟩ := hrel
  by_cases h5 : i < 17
  ·have hlt : (i : Int) < 17 := by omega
   obtain ⟨⟨s, v⟩, hp⟩ : ∃ p, l[i]? = some p := ⟨l[i], List.getElem?_eq_getElem (by omega)⟩
   obtain ⟨c, hc⟩ := hkind i _ hp
   have hc : v = .string (bs c) := hc
   subst hc
   have hx := run_index_two hp (w := wr) Tryz.underlying220 hlen (by kernel_rfl) (by kernel_rfl)
   have hbw := (hb.alloc hb.size (.cells #[.string (bs s), .string (bs c)] 219))
   have HA := hide (⟨hh, hbw, tabAt_some hp⟩ : _ ∧ _ ∧ _)
   clear hh hb
   by_cases he : s = t
   ·subst he
    have hps : partsT s = some c := by
     have e := hpa.out
     rw [HA.out.2.2 HA.out.1] at e
     cases hq : partsT s with
     | none => rw [hq] at e; cases e
     | some c' =>
      rw [hq] at e
      have e : bs c = bs c' := by simpa using e
      have := congrArg ByteArray.toList e
      rw [bs_toList, bs_toList] at this; rw [this]
    go_wp2_with fail
    go_ret2
    exact ⟨by first | rfl | (rw [hps]; rfl), HA.out.2.1⟩
   ·have hne := bs_ne he
    go_wp2_with fail
    go_roundw
    case rel =>
     refine ⟨i + 1, by omega, by go_num, fun j q hj hq => ?_, HA.out.2.1⟩
     by_cases h6 : j = i
     ·subst h6; rw [hp] at hq; cases hq; exact he
     ·exact HA.out.1 j q (by omega) hq
    case measure => simp [intOf]; omega
  ·have HA := hide (⟨hh, hb, tabAt_none (l := l) (t := t) fun j p hp => hh j p (by obtain ⟨h, _⟩ := List.getElem?_eq_some_iff.1 hp; omega) hp⟩ : _ ∧ _ ∧ _)
   have hps : partsT t = none := by
    have e := hpa.out
    rw [HA.out.2.2] at e
    cases hq : partsT t with
    | none => rfl
    | some c' => rw [hq] at e; cases e
   clear hh hb
   go_wp2_with fail
   go_ret2
   exact ⟨by first | rfl | (rw [hps]; rfl), HA.out.2.1⟩
end Go.Proofs.YtcfpedjfofpnkaaGreatDoor
namespace Go.Proofs
open Go.Shelf
shelf_lay LaysM.n171 Nm 171 at Tryz as Tryz.laysM171
end Go.Proofs
namespace Go.Proofs.YtcfpedjfofpnkaaGreatDoor
open Go.RowKit Go.Shelf Go.Proofs.Cod
theorem Tryz.powG : Tryz.prog.globalNamed "internal/strconv.uint64pow10" = some 1 := by kernel_rfl
structure Tabs (w : World) (B : Nat) : Prop where
 heads : Heads w
 shapes : Shapes w
 pow : Lib.TabIs Tryz.prog w "internal/strconv.uint64pow10" .u64 Lib.pow10Tab
 lt : 3 ≤ B
theorem Tabs.keep {w w' : World} {B : Nat} (h : Tabs w B) (hb : Below B w w') : Tabs w' B := by
 have hl := h.lt
 refine ⟨?_, ?_, ?_, hl⟩
 ·obtain ⟨fr, q⟩ := h.heads
  exact ⟨fr, (hb.block _ (by show 0 < B; omega)).trans q⟩
 ·obtain ⟨fr, q⟩ := h.shapes
  exact ⟨fr, (hb.block _ (by show 2 < B; omega)).trans q⟩
 have hp := h.pow
 unfold Lib.TabIs World.var? at hp ⊢
 rw [Tryz.powG] at hp ⊢
 simp only [Option.bind_some] at hp ⊢
 rw [hb.block 1 (by omega)]
 exact hp
theorem Tabs.mono {w : World} {B B' : Nat} (h : Tabs w B) (hb : B ≤ B') : Tabs w B' := ⟨h.heads, h.shapes, h.pow, Nat.le_trans h.lt hb⟩
theorem itoa_any (n : Int) (h0 : -9223372036854775808 ≤ n) (h1 : n ≤ 9223372036854775807) (w : World) {B : Nat} (ht : Tabs w B) : Calls Tryz.prog 33 #[.int .i64 n] w fun e w' => e = .returned (.string (bs (Lib.itoa n))) ∧ Below w.heap.size w w' := by
 refine (Any.strconv_Itoa Tryz.laysM171 n h0 h1 w ht.pow).mono ?_
 rintro e w' ⟨rfl, k, os, rfl⟩
 exact ⟨rfl, Lib.below_grow w.heap.size w (Nat.le_refl _) k os⟩
end Go.Proofs.YtcfpedjfofpnkaaGreatDoor
namespace Go.Proofs.YtcfpedjfofpnkaaGreatDoor
open Go.RowKit Go.Proofs.Cod
def fitsT : List Tx → Tx → Bool
 | [], [] => true
 | t :: ts, c :: ps => fitsP t (c.toNat : Int) && fitsT ts ps
 | _, _ => false
theorem fitsT_len {ts : List Tx} {ps : Tx} (h : ts.length ≠ ps.length) : fitsT ts ps = false := by
 induction ts generalizing ps with
 | nil => cases ps with
  | nil => simp at h
  | cons c ps => rfl
 | cons t ts ih => cases ps with
  | nil => rfl
  | cons c ps => simp only [fitsT]; rw [ih (by simpa using h)]; simp
theorem fitsT_no {ts : List Tx} {ps : Tx} {i : Nat} (hi : i < ts.length) (hj : i < ps.length) (h : fitsP (ts.getD i []) ((ps[i]'hj).toNat : Int) = false) : fitsT ts ps = false := by
 induction ts generalizing ps i with
 | nil => simp at hi
 | cons t ts ih => cases ps with
  | nil => rfl
  | cons c ps =>
   cases i with
   | zero => simp only [fitsT]; simp at h; rw [h]; rfl
   | succ i => simp only [fitsT]; rw [ih (by simpa using hi) (by simpa using hj) (by simpa using h)]; simp
theorem fitsT_yes {ts : List Tx} {ps : Tx} (hl : ts.length = ps.length) (h : ∀ i (hj : i < ps.length), fitsP (ts.getD i []) ((ps[i]'hj).toNat : Int) = true) : fitsT ts ps = true := by
 induction ts generalizing ps with
 | nil => cases ps with
  | nil => rfl
  | cons c ps => simp at hl
 | cons t ts ih => cases ps with
  | nil => simp at hl
  | cons c ps =>
   simp only [fitsT]
   have h0 := h 0 (by simp)
   simp at h0
   rw [h0, ih (by simpa using hl) (fun i hj => h (i + 1) (by simpa using hj))]; rfl
set_option maxRecDepth 100000 in
set_option maxHeartbeats 400000 in
theorem fits_any (a : Option Addr) (n cap : Nat) (ts : List Tx) (ps : Tx) (w : World) (hn : ts.length = n) (hs : Ws w a ts) (hb : n < 4294967281) (hbp : ps.length < 4294967281) :
 Calls Tryz.prog 119 #[.slice a n cap, .string (bs ps)] w fun e w' => e = .returned (.bool (fitsT ts ps)) ∧ w' = w := by
 have hz := hide (bs_size ps)
 by_cases hl : n = ps.length
 ·have hzn : (bs ps).size = n := by rw [hz.out, hl]
  replace hl := hide hl
  go_enter Tryz.func119, Tryz.ntmps119
  go_wp2_with fail
  go_loopw [14] (fun iv wr => ∃ i : Nat, i ≤ n ∧ iv = .int .i64 i ∧ (∀ j (hj : j < ps.length), j < i → fitsP (ts.getD j []) ((ps[j]'hj).toNat : Int) = true) ∧ wr = w) (fun iv _ => n - (intOf iv).toNat)
  case atStart => exact ⟨0, Nat.zero_le _, rfl, fun j _ h => by omega, rfl⟩
  case round =>
   obtain ⟨i, hi, rfl, hall, rfl⟩ := hrel
   by_cases h5 : i < n
   ·obtain ⟨b, off, rfl, _, c0⟩ := hs i (by omega)
    have hlt : (i : Int) < (n : Int) := by omega
    have hip : i < ps.length := by have := hl.out; omega
    have hg := bs_get ps i (by omega)
    have hip' := hide hip
    have HA := hide (⟨hall, fitsT_no (ts := ts) (ps := ps) (i := i) (by omega) hip⟩ : _ ∧ _)
    generalize hte : ts.getD i [] = t at c0 HA
    generalize hce : ps[i] = c at hg HA
    clear hall hip
    replace hte := hide hte
    replace hce := hide hce
    go_wp2_with fail
    refine (fitsPart_any t c.toNat _).mono ?_
    rintro e w2 ⟨rfl, rfl⟩
    cases hd : fitsP t c.toNat with
    | true =>
     go_wp2_with fail
     go_roundw
     case rel =>
      refine ⟨i + 1, by omega, by go_num, fun j hj hji => ?_, by trivial⟩
      by_cases h6 : j = i
      ·subst h6
       have e : (ps[j]'hj) = c := hce.out
       rw [hte.out, e]; exact hd
      ·exact HA.out.1 j hj (by omega)
     case measure => simp [intOf]; omega
    | false =>
     go_wp2_with fail
     go_ret
     exact ⟨by rw [HA.out.2 hd]; rfl, by trivial⟩
   ·have hh : Hid (fitsT ts ps = true) := fitsT_yes (by have := hl.out; omega) fun j hj => hall j hj (by have := hl.out; omega)
    clear hall
    go_wp2_with fail
    go_ret
    exact ⟨by rw [hh.out]; rfl, by trivial⟩
 ·have hh : Hid (fitsT ts ps = false) := fitsT_len (by omega)
  have hne : ¬ ((n : Int) = (bs ps).size) := by have := hz.out; omega
  go_enter Tryz.func119, Tryz.ntmps119
  go_wp2_with fail
  go_ret
  exact ⟨by rw [hh.out]; rfl, rfl⟩
def regN (t : Tx) : Nat := match t with
 | [_, b] => b.toNat - 48
 | _ => 0
theorem isReg_is {t : Tx} (h : isReg t = true) : ∃ a b : UInt8, t = [a, b] ∧ (48 : Int) ≤ b.toNat ∧ (b.toNat : Int) ≤ 51 := by
 match t, h with
 | [a, b], h =>
  simp [isReg] at h
  exact ⟨a, b, rfl, by omega, by omega⟩
set_option maxHeartbeats 400000 in
theorem registerNumber_any (t : Tx) (h : isReg t = true) (w : World) : Calls Tryz.prog 133 #[.string (bs t)] w fun e w' => e = .returned (.int .i64 (regN t)) ∧ w' = w := by
 obtain ⟨a, b, rfl, h1, h2⟩ := isReg_is h
 have hz := bs_size [a, b]
 have hg := bs_get [a, b] 1 (by rw [hz]; simp)
 have hg : (bs [a, b])[1]'(by rw [hz]; simp) = b := hg
 have hz : (bs [a, b]).size = 2 := hz
 have hr : Hid ((regN [a, b] : Int) = (b.toNat : Int) - 48) := by unfold Hid; simp only [regN]; omega
 go_enter Tryz.func133, Tryz.ntmps133
 go_wp2
 go_ret
 refine ⟨?_, rfl⟩
 rw [hr.out]
 rfl
end Go.Proofs.YtcfpedjfofpnkaaGreatDoor
