import Derived.Test.YtlpdomgedaockaaGreatDoorOl2
import Derived.Test.YtlpdomgedaockaaGreatDoorOl3
import Derived.Test.YtlpdomgedaockaaGreatDoorOl5
import Derived.Test.YtlpdomgedaockaaGreatDoorOl0
set_option linter.unusedVariables false
set_option linter.unusedSimpArgs false
namespace Go.Proofs.YtlpdomgedaockaaGreatDoor
open Go.RowKit Go.Proofs.Cod
open Go.Lib (indexByte indexByte_ge)
theorem cutB_cons (c b : UInt8) (l : Tx) : cutB c (b :: l) = if b == c then [] else b :: cutB c l := by
  unfold cutB
  by_cases h : (b == c) = true
  · simp [indexByte, h]
  · have h' : (b == c) = false := by simpa using h
    simp only [indexByte, h', Bool.false_eq_true, if_false]
    by_cases hl : indexByte l c = -1
    · simp [hl]
    · have hge := indexByte_ge l c
      obtain ⟨j, hj⟩ : ∃ j : Nat, indexByte l c = j := ⟨(indexByte l c).toNat, by omega⟩
      rw [hj]
      have e1 : ((j : Int) == -1) = false := by simp
      simp only [e1, Bool.false_eq_true, if_false]
      have e2 : ¬ ((j : Int) + 1 = -1) := by omega
      have e3 : ¬ ((j : Int) = -1) := by omega
      have e4 : ((j : Int) + 1).toNat = j + 1 := by omega
      simp [e2, e3, e4]
def wAcc : List Tx → Tx → Tx → List Tx
  | L, w, [] => if w.isEmpty then L else L ++ [w]
  | L, w, c :: r => if c == 35 then (if w.isEmpty then L else L ++ [w]) else if c == 32 then wAcc (if w.isEmpty then L else L ++ [w]) [] r else wAcc L (w ++ [c]) r
theorem wAcc_eq (r : Tx) : ∀ (L : List Tx) (w : Tx), ∃ p ps, splitT 32 (cutB 35 r) = p :: ps ∧ wAcc L w r = L ++ ((w ++ p) :: ps).filter (fun p => !p.isEmpty) := by
  induction r with
  | nil =>
    intro L w
    refine ⟨[], [], by simp [cutB, indexByte, splitT], ?_⟩
    unfold wAcc
    cases hw : w.isEmpty <;> simp [hw]
  | cons c r ih =>
    intro L w
    unfold wAcc
    rw [cutB_cons]
    by_cases h1 : (c == 35) = true
    · rw [if_pos h1, if_pos h1]
      refine ⟨[], [], rfl, ?_⟩
      cases hw : w.isEmpty <;> simp [hw]
    · rw [if_neg h1, if_neg h1]
      by_cases h2 : (c == 32) = true
      · rw [if_pos h2]
        obtain ⟨p, ps, e1, e2⟩ := ih (if w.isEmpty then L else L ++ [w]) []
        refine ⟨[], p :: ps, ?_, ?_⟩
        · conv => lhs; unfold splitT
          rw [if_pos h2, e1]
        · rw [e2]
          cases hw : w.isEmpty <;> simp [hw]
      · rw [if_neg h2]
        obtain ⟨p, ps, e1, e2⟩ := ih L (w ++ [c])
        refine ⟨c :: p, ps, ?_, ?_⟩
        · conv => lhs; unfold splitT
          rw [if_neg h2, e1]
        · rw [e2]; simp
theorem wAcc_words (t : Tx) : wAcc [] [] t = wordsT t := by
  obtain ⟨p, ps, e1, e2⟩ := wAcc_eq t [] []
  rw [e2]; unfold wordsT; rw [e1]; simp
theorem split_piece {c : UInt8} {u : Tx} (hu : ∀ b, b ∈ u → (b == c) = false) (r : Tx) : splitT c (u ++ c :: r) = u :: splitT c r := by
  induction u with
  | nil => simp [splitT]
  | cons b u ih =>
    have hb : (b == c) = false := hu b (by simp)
    show splitT c (b :: (u ++ c :: r)) = _
    conv => lhs; unfold splitT
    rw [hb, ih (fun x hx => hu x (by simp [hx]))]; rfl
theorem split_last {c : UInt8} {u : Tx} (hu : ∀ b, b ∈ u → (b == c) = false) : splitT c u = [u] := by
  induction u with
  | nil => simp [splitT]
  | cons b u ih =>
    have hb : (b == c) = false := hu b (by simp)
    unfold splitT
    rw [hb, ih (fun x hx => hu x (by simp [hx]))]; rfl
structure StrL (w : World) (base : Nat) (wr : World) (v : Value) (L : List Tx) : Prop where
  row : wr.ownsRow base 9 1 v L.length (L.map strW)
  low : Below base w wr
theorem StrL.push {w wr : World} {base : Nat} {v : Value} {L : List Tx} (h : StrL w base wr v L) (hb : base ≤ w.heap.size) (x : Tx) (hl : L.length < 1048576) : ∃ g cap w', (Builtin.append_ #[23, 23] 23 #[v, .slice (some ⟨wr.heap.size, 0, none⟩) 1 1]).run Tryz.prog (wr.alloc (.cells #[.string (bs x)] 9)) = .ok (.slice (some ⟨g, 0, none⟩) (L.length + 1) cap) w' ∧ StrL w base w' (.slice (some ⟨g, 0, none⟩) (L.length + 1) cap) (L ++ [x]) := by
  obtain ⟨i0, hi, hy0, hy1, hy2⟩ := info_parts Tryz.infoTx
  have hrow := h.row
  have e : L.length = (L.map strW).length := by simp
  rw [e] at hrow
  have hls := h.low.size
  obtain ⟨g, cap, w', hr, r1, ro, rt, rp, rz, rb, rg⟩ := owns_push hrow Tryz.underlying23 hi hy0 hy1 hy2 rfl (by omega) (strW x) (by simp [Value.oneCell', strW]) 23 (by simpa using hl) (by omega)
  rw [List.length_map] at hr r1
  refine ⟨g, cap, w', hr, ⟨by rw [List.length_append, List.map_append]; exact r1, ⟨ro.trans h.low.os, rt.trans h.low.tape, rp.trans h.low.output, by omega, fun k hk => (rb k (by omega) (fun e => ?_)).trans (h.low.block k hk)⟩⟩⟩
  have := (hrow.lt k e).1
  omega
set_option maxRecDepth 100000 in
set_option maxHeartbeats 1000000 in
theorem rWords_any (t : Tx) (w : World) (hlen : t.length < 1000000) : Calls Tryz.prog 24 #[.string (bs t)] w fun e w' => ∃ v, e = .returned v ∧ StrL w w.heap.size w' v (wordsT t) := by
  have hz := bs_size t
  have hw := hide (wAcc_words t)
  have h0 : Hid (StrL w w.heap.size w (.slice none 0 0) []) := ⟨World.ownsRow_nil _ _ _ _, Below.refl _ _⟩
  go_enter Tryz.func24, Tryz.ntmps24
  go_wp2_with fail
  go_loopw [3, 4, 5] (fun lv wv iv wr => ∃ (i : Nat) (L : List Tx) (u : Tx), i ≤ t.length ∧ iv = .int .i64 i ∧ wv = .string (bs u) ∧ u.length ≤ i ∧ L.length ≤ i ∧ wAcc L u (t.drop i) = wordsT t ∧ StrL w w.heap.size wr lv L) (fun _ _ iv _ => t.length - (intOf iv).toNat)
  case atStart => exact ⟨0, [], [], Nat.zero_le _, rfl, rfl, Nat.le_refl _, Nat.le_refl _, hw.out, h0.out⟩
  case round =>
    clear h0
    obtain ⟨i, L, u, hi, rfl, rfl, hui, hLi, hacc, hS⟩ := hrel
    obtain ⟨la, lcap, rfl⟩ := owns_len hS.row
    obtain ⟨g, cap, w', hrun, hS'⟩ := hS.push (Nat.le_refl _) u (by omega)
    by_cases h5 : i < t.length
    · have hb : ∀ h, (bs t)[i]'h = t[i] := fun h => bs_get t i h
      have hlt : (i : Int) < (t.length : Int) := by omega
      have hdrop : t.drop i = t[i] :: t.drop (i + 1) := List.drop_eq_getElem_cons h5
      rw [hdrop] at hacc
      have hx : (bs t).extract i (i + 1) = bs [t[i]] := by
        rw [bs_extract, List.take_succ_eq_append_getElem h5, List.drop_append, List.drop_eq_nil_of_le (by rw [List.length_take]; omega), List.length_take]
        rw [show i - min i t.length = 0 by omega]; rfl
      have happ : bs u ++ bs [t[i]] = bs (u ++ [t[i]]) := bs_append u [t[i]]
      have hwr : wrap64 ((i : Int) + 1) = (i : Int) + 1 := IntWalk.wrap64_in _ (by omega)
      have hle1 : (i : Int) + 1 ≤ (t.length : Int) := by omega
      have hle2 : (i : Int) ≤ (i : Int) + 1 := by omega
      have hsz : ¬ 9223372036854775807 < (bs u).size + (bs [t[i]]).size := by rw [bs_size, bs_size]; simp; omega
      replace hdrop := hide hdrop
      unfold wAcc at hacc
      by_cases h35 : (t[i].toNat : Int) = 35
      · have e35 : (t[i] == 35) = true := by
          have : t[i].toNat = 35 := by omega
          exact beq_iff_eq.2 (UInt8.toNat_inj.1 this)
        rw [if_pos e35] at hacc
        have hne : ((t[i].toNat : Int) != 35) = false := by simp [h35]
        cases hu : u.isEmpty with
        | true =>
          have hue : (bs u).toList.isEmpty = true := by rw [bs_toList]; exact hu
          rw [hu] at hacc
          have hacc : L = wordsT t := hacc
          have HE := hide (⟨hS, hacc⟩ : _ ∧ _)
          clear hS hacc hS'
          go_wp2_with fail
          go_ret
          exact ⟨_, rfl, by rw [← HE.out.2]; exact HE.out.1⟩
        | false =>
          have hue : (bs u).toList.isEmpty = false := by rw [bs_toList]; exact hu
          rw [hu] at hacc
          have hacc : L ++ [u] = wordsT t := hacc
          have HE := hide (⟨hS', hacc⟩ : _ ∧ _)
          clear hS hacc hS'
          go_wp2_with (at_builtin; refine wpList_append_run rfl _ _ _ rfl rfl rfl rfl hrun ?_)
          go_ret
          exact ⟨_, rfl, by rw [← HE.out.2]; exact HE.out.1⟩
      · have e35 : ¬ (t[i] == 35) = true := fun e => h35 (by rw [beq_iff_eq.1 e]; rfl)
        rw [if_neg e35] at hacc
        have hne : ((t[i].toNat : Int) != 35) = true := by simpa using h35
        by_cases h32 : (t[i].toNat : Int) = 32
        · have e32 : (t[i] == 32) = true := by
            have : t[i].toNat = 32 := by omega
            exact beq_iff_eq.2 (UInt8.toNat_inj.1 this)
          rw [if_pos e32] at hacc
          have hne2 : ((t[i].toNat : Int) != 32) = false := by simp [h32]
          cases hu : u.isEmpty with
          | true =>
            have hue : (bs u).toList.isEmpty = true := by rw [bs_toList]; exact hu
            rw [hu] at hacc
            have hacc : wAcc L [] (t.drop (i + 1)) = wordsT t := hacc
            have HE := hide (⟨hS, hacc⟩ : _ ∧ _)
            clear hS hacc hS'
            go_wp2_with fail
            go_roundw
            case rel => exact ⟨i + 1, L, [], by omega, by go_num, rfl, by simp, by omega, HE.out.2, HE.out.1⟩
            case measure => simp [intOf]; omega
          | false =>
            have hue : (bs u).toList.isEmpty = false := by rw [bs_toList]; exact hu
            rw [hu] at hacc
            have hacc : wAcc (L ++ [u]) [] (t.drop (i + 1)) = wordsT t := hacc
            have HE := hide (⟨hS', hacc⟩ : _ ∧ _)
            clear hS hacc hS'
            go_wp2_with (at_builtin; refine wpList_append_run rfl _ _ _ rfl rfl rfl rfl hrun ?_)
            go_roundw
            case rel => exact ⟨i + 1, L ++ [u], [], by omega, by go_num, rfl, by simp, by simp; omega, HE.out.2, HE.out.1⟩
            case measure => simp [intOf]; omega
        · have e32 : ¬ (t[i] == 32) = true := fun e => h32 (by rw [beq_iff_eq.1 e]; rfl)
          rw [if_neg e32] at hacc
          have hne2 : ((t[i].toNat : Int) != 32) = true := by simpa using h32
          have HE := hide (⟨hS, hacc⟩ : _ ∧ _)
          clear hS hacc hS'
          go_wp2_with fail
          go_roundw
          case rel => exact ⟨i + 1, L, u ++ [t[i]], by omega, by go_num, rfl, by simp; omega, by omega, HE.out.2, HE.out.1⟩
          case measure => simp [intOf]; omega
    · have hil : i = t.length := by omega
      rw [hil, List.drop_length] at hacc
      subst hil
      unfold wAcc at hacc
      cases hu : u.isEmpty with
      | true =>
        have hue : (bs u).toList.isEmpty = true := by rw [bs_toList]; exact hu
        rw [hu] at hacc
        have hacc : L = wordsT t := hacc
        have HE := hide (⟨hS, hacc⟩ : _ ∧ _)
        clear hS hacc hS'
        go_wp2_with fail
        go_ret
        exact ⟨_, rfl, by rw [← HE.out.2]; exact HE.out.1⟩
      | false =>
        have hue : (bs u).toList.isEmpty = false := by rw [bs_toList]; exact hu
        rw [hu] at hacc
        have hacc : L ++ [u] = wordsT t := hacc
        have HE := hide (⟨hS', hacc⟩ : _ ∧ _)
        clear hS hacc hS'
        go_wp2_with (at_builtin; refine wpList_append_run rfl _ _ _ rfl rfl rfl rfl hrun ?_)
        go_ret
        exact ⟨_, rfl, by rw [← HE.out.2]; exact HE.out.1⟩
end Go.Proofs.YtlpdomgedaockaaGreatDoor
namespace Go.Proofs.YtlpdomgedaockaaGreatDoor
open Go.RowKit Go.Proofs.Cod
def NoB (c : UInt8) (t : Tx) (a b : Nat) : Prop := ∀ j, a ≤ j → j < b → (h : j < t.length) → (t[j] == c) = false
theorem piece_mem {t : Tx} {a b : Nat} {c : UInt8} (h : NoB c t a b) : ∀ x, x ∈ (t.take b).drop a → (x == c) = false := fun x hx => by
  obtain ⟨k, hk⟩ := List.getElem?_of_mem hx
  rw [List.getElem?_drop] at hk
  obtain ⟨hl, e⟩ := List.getElem?_eq_some_iff.1 hk
  have hl2 : a + k < b ∧ a + k < t.length := by rw [List.length_take] at hl; omega
  have e2 : t[a + k]'hl2.2 = x := by rw [← e, List.getElem_take]
  rw [← e2]
  exact h (a + k) (by omega) hl2.1 hl2.2
set_option maxRecDepth 100000 in
set_option maxHeartbeats 1000000 in
theorem rLines_any (t : Tx) (w : World) (hlen : t.length < 1000000) : Calls Tryz.prog 23 #[.string (bs t)] w fun e w' => ∃ v, e = .returned v ∧ StrL w w.heap.size w' v (splitT 10 t) := by
  have hz := bs_size t
  have h0 : Hid (StrL w w.heap.size w (.slice none 0 0) []) := ⟨World.ownsRow_nil _ _ _ _, Below.refl _ _⟩
  go_enter Tryz.func23, Tryz.ntmps23
  go_wp2_with fail
  go_loopw [3, 4, 5] (fun lv fv iv wr => ∃ (i a : Nat) (L : List Tx), iv = .int .i64 i ∧ fv = .int .i64 a ∧ L.length ≤ i ∧ a ≤ i ∧ StrL w w.heap.size wr lv L ∧ ((i ≤ t.length ∧ splitT 10 t = L ++ splitT 10 (t.drop a) ∧ NoB 10 t a i) ∨ (i = t.length + 1 ∧ L = splitT 10 t))) (fun _ _ iv _ => t.length + 1 - (intOf iv).toNat)
  case atStart => exact ⟨0, 0, [], rfl, rfl, Nat.le_refl _, Nat.le_refl _, h0.out, .inl ⟨Nat.zero_le _, by simp, fun j h1 h2 => by omega⟩⟩
  case round =>
    clear h0
    obtain ⟨i, a, L, rfl, rfl, hLi, hai, hS, hcase⟩ := hrel
    obtain ⟨la, lcap, rfl⟩ := owns_len hS.row
    rcases hcase with ⟨hi, hsp, hno⟩ | ⟨hi, hL⟩
    · obtain ⟨g, cap, w', hrun, hS'⟩ := hS.push (Nat.le_refl _) ((t.take i).drop a) (by omega)
      have hle : (i : Int) ≤ (t.length : Int) := by omega
      have hwr : wrap64 ((i : Int) + 1) = (i : Int) + 1 := IntWalk.wrap64_in _ (by omega)
      have hx : (bs t).extract a i = bs ((t.take i).drop a) := bs_extract t a i
      have ha1 : (a : Int) ≤ (i : Int) := by omega
      by_cases h5 : i < t.length
      · have hb : ∀ h, (bs t)[i]'h = t[i] := fun h => bs_get t i h
        have hne : ((i : Int) == (t.length : Int)) = false := by simp; omega
        have htk : t.drop a = (t.take i).drop a ++ t[i] :: t.drop (i + 1) := by
          conv => lhs; rw [← List.take_append_drop i t, List.drop_append, List.length_take]
          rw [show a - min i t.length = 0 by omega, List.drop_zero, List.drop_eq_getElem_cons h5]
        by_cases h10 : (t[i].toNat : Int) = 10
        · have e10 : t[i] = 10 := by
            have : t[i].toNat = 10 := by omega
            exact UInt8.toNat_inj.1 this
          have hnext : splitT 10 t = (L ++ [(t.take i).drop a]) ++ splitT 10 (t.drop (i + 1)) := by
            rw [hsp, htk, e10, split_piece (piece_mem hno)]; simp
          have hbe : ((t[i].toNat : Int) == 10) = true := by simpa using h10
          have HE := hide (⟨hS', hnext⟩ : _ ∧ _)
          clear hS hS' hsp hno hnext htk e10
          go_wp2_with (at_builtin; refine wpList_append_run rfl _ _ _ rfl rfl rfl rfl hrun ?_)
          go_roundw
          case rel => exact ⟨i + 1, i + 1, _, by go_num, by go_num, by simp; omega, Nat.le_refl _, HE.out.1, .inl ⟨by omega, HE.out.2, fun j h1 h2 => by omega⟩⟩
          case measure => simp [intOf]; omega
        · have hbe : ((t[i].toNat : Int) == 10) = false := by simpa using h10
          have e10 : (t[i] == 10) = false := by
            cases hq : t[i] == 10 with
            | false => rfl
            | true => exact absurd (by rw [beq_iff_eq.1 hq]; rfl) h10
          have hno' : NoB 10 t a (i + 1) := fun j h1 h2 h3 => by
            by_cases e : j = i
            · subst e; exact e10
            · exact hno j h1 (by omega) h3
          have HE := hide (⟨hS, hsp, hno'⟩ : _ ∧ _ ∧ _)
          clear hS hS' hsp hno hno' htk e10
          go_wp2_with fail
          go_roundw
          case rel => exact ⟨i + 1, a, L, by go_num, rfl, by omega, by omega, HE.out.1, .inl ⟨by omega, HE.out.2⟩⟩
          case measure => simp [intOf]; omega
      · have hil : i = t.length := by omega
        subst hil
        have hnext : L ++ [(t.take t.length).drop a] = splitT 10 t := by
          rw [hsp, List.take_length, split_last]
          have := piece_mem hno
          rw [List.take_length] at this
          exact this
        rw [List.take_length] at hnext hS' hrun hx
        have HE := hide (⟨hS', hnext⟩ : _ ∧ _)
        clear hS hS' hsp hno hnext
        go_wp2_with (at_builtin; refine wpList_append_run rfl _ _ _ rfl rfl rfl rfl hrun ?_)
        go_roundw
        case rel => exact ⟨t.length + 1, t.length + 1, _, by go_num, by go_num, by simp; omega, Nat.le_refl _, HE.out.1, .inr ⟨rfl, HE.out.2⟩⟩
        case measure => simp [intOf]
    · subst hi
      have hle : ¬ ((t.length : Int) + 1 ≤ (t.length : Int)) := by omega
      have HE := hide (⟨hS, hL⟩ : _ ∧ _)
      clear hS hL
      go_wp2_with fail
      go_ret
      exact ⟨_, rfl, by rw [← HE.out.2]; exact HE.out.1⟩
end Go.Proofs.YtlpdomgedaockaaGreatDoor
namespace Go.Proofs.YtlpdomgedaockaaGreatDoor
open Go.RowKit Go.Proofs.Cod
theorem c_ret_int {k : IntKind} {a b : Int} (h : a = b) : Ending.returned (.int k a) = .returned (.int k b) := by rw [h]
def regZ (t : Tx) : Int := if isReg t then ((t.getD 1 0).toNat : Int) - 48 else -1
theorem regZ_pair (a b : UInt8) : regZ [a, b] = if ((a.toNat : Int) = 114 ∧ 48 ≤ (b.toNat : Int) ∧ (b.toNat : Int) ≤ 51) then (b.toNat : Int) - 48 else -1 := by
  unfold regZ isReg
  simp only [Bool.and_eq_true, decide_eq_true_eq, and_assoc]
  rfl
theorem isReg_len {t : Tx} (h : t.length ≠ 2) : isReg t = false := by
  match t, h with
  | [], _ => rfl
  | [_], _ => rfl
  | _ :: _ :: _ :: _, _ => rfl
theorem regZ_nonneg (t : Tx) : (0 ≤ regZ t) ↔ isReg t = true := by
  unfold regZ
  cases hr : isReg t with
  | false => simp
  | true =>
    simp only [if_true, iff_true]
    match t, hr with
    | [a, b], hr =>
      unfold isReg at hr
      simp only [Bool.and_eq_true, decide_eq_true_eq] at hr
      show 0 ≤ (b.toNat : Int) - 48
      omega
set_option maxHeartbeats 400000 in
theorem rReg_any (t : Tx) (w : World) : Calls Tryz.prog 111 #[.string (bs t)] w fun e w' => e = .returned (.int .i64 (regZ t)) ∧ w' = w := by
  have hz := bs_size t
  by_cases h2 : t.length = 2
  · obtain ⟨a, b, rfl⟩ : ∃ a b, t = [a, b] := by
      match t, h2 with
      | [a, b], _ => exact ⟨a, b, rfl⟩
    have h0 : ∀ h, (bs [a, b])[0]'h = a := fun h => bs_get _ 0 h
    have h1 : ∀ h, (bs [a, b])[1]'h = b := fun h => bs_get _ 1 h
    have hz2 : (bs [a, b]).size = 2 := hz
    have HR := hide (regZ_pair a b)
    obtain ⟨r, hr⟩ : ∃ r, Hid (regZ [a, b] = r) := ⟨_, rfl⟩
    rw [hr.out]
    go_enter Tryz.func111, Tryz.ntmps111
    go_wp2
    all_goals
      go_ret
      refine ⟨c_ret_int ?_, rfl⟩
      rw [← hr.out, HR.out]
      split <;> omega
  · have h2' : ¬ ((t.length : Int) = 2) := by omega
    have hf : regZ t = -1 := by unfold regZ; rw [isReg_len h2]; rfl
    rw [hf]
    go_enter Tryz.func111, Tryz.ntmps111
    go_wp2
    all_goals
      go_ret
      exact ⟨rfl, rfl⟩
theorem isNam_iff (t : Tx) : isNam t = true ↔ 1 ≤ t.length ∧ t.length ≤ 8 ∧ isReg t = false ∧ t.all (fun c => isLet c || isDig c) = true ∧ isLet (t.headD 0) = true := by
  unfold isNam
  simp only [Bool.and_eq_true, decide_eq_true_eq, Bool.not_eq_true', and_assoc]
set_option maxRecDepth 100000 in
set_option maxHeartbeats 800000 in
theorem rIsName_any (t : Tx) (w : World) : Calls Tryz.prog 51 #[.string (bs t)] w fun e w' => e = .returned (.bool (isNam t)) ∧ w' = w := by
  have hz := bs_size t
  by_cases he : t = []
  · subst he
    have hn : isNam [] = false := rfl
    have hb : bs [] = ByteArray.empty := rfl
    rw [hn, hb]
    go_enter Tryz.func51, Tryz.ntmps51
    go_wp2_with fail
    go_ret
    exact ⟨rfl, rfl⟩
  · have hne : (bs t).toList.isEmpty = false := by rw [bs_toList]; simpa using he
    have h0 : 0 < t.length := List.length_pos_iff.2 he
    have hb0 : ∀ h, (bs t)[0]'h = t[0] := fun h => bs_get t 0 h
    have hhd : Hid (t.headD 0 = t[0]) := by
      match t, h0 with
      | c :: r, _ => rfl
    by_cases h8 : t.length ≤ 8
    · have g2 : ¬ (8 < (t.length : Int)) := by omega
      by_cases hl : isLet t[0] = true
      · obtain ⟨l1, l2⟩ : 97 ≤ (t[0].toNat : Int) ∧ (t[0].toNat : Int) ≤ 122 := by unfold isLet at hl; simpa using hl
        have g3 : ¬ ((t[0].toNat : Int) < 97) := by omega
        have g4 : ¬ (122 < (t[0].toNat : Int)) := by omega
        have hR := rReg_any t
        have hrn := regZ_nonneg t
        by_cases hr : isReg t = true
        · have hn : isNam t = false := isNam_no (fun h => by rw [hr] at h; exact absurd h.2.2 (by simp))
          have g5 : 0 ≤ regZ t := hrn.2 hr
          rw [hn]
          generalize regZ t = r at hR g5
          clear hrn hr
          go_enter Tryz.func51, Tryz.ntmps51
          go_wp2_with fail
          refine (hR _).mono ?_
          rintro e w1 ⟨rfl, rfl⟩
          go_wp2_with fail
          go_ret
          exact ⟨rfl, rfl⟩
        · have g5 : ¬ (0 ≤ regZ t) := fun h => hr (hrn.1 h)
          have hn : Hid (isNam t = t.all (fun c => isLet c || isDig c)) := by
            unfold Hid; rw [isNam_len (by omega) h8 (by simpa using hr), hhd.out, hl]; exact Bool.and_true _
          generalize regZ t = r at hR g5
          have g6 : r < 0 := by omega
          clear hrn hr g5
          go_enter Tryz.func51, Tryz.ntmps51
          go_wp2_with fail
          refine (hR _).mono ?_
          rintro e w1 ⟨rfl, rfl⟩
          go_wp2_with fail
          go_loopw [3] (fun iv wr => ∃ i : Nat, i ≤ t.length ∧ iv = .int .i64 i ∧ (t.take i).all (fun c => isLet c || isDig c) = true ∧ wr = w1) (fun iv _ => t.length - (intOf iv).toNat)
          case atStart => exact ⟨0, Nat.zero_le _, rfl, by simp, rfl⟩
          case round =>
            obtain ⟨i, hi, rfl, hall, rfl⟩ := hrel
            by_cases h5 : i < t.length
            · have hb : ∀ h, (bs t)[i]'h = t[i] := fun h => bs_get t i h
              have hlt : (i : Int) < (t.length : Int) := by omega
              have HA := hide (⟨all_take (p := fun c => isLet c || isDig c) h5, all_no (p := fun c => isLet c || isDig c) h5, hall⟩ : _ ∧ _ ∧ _)
              clear hall
              have HP : Hid (((97 ≤ (t[i].toNat : Int) ∧ (t[i].toNat : Int) ≤ 122) ∨ (48 ≤ (t[i].toNat : Int) ∧ (t[i].toNat : Int) ≤ 57)) → (isLet t[i] || isDig t[i]) = true) := fun h => by
                unfold isLet isDig
                simpa using h
              have HQ : Hid (¬ ((97 ≤ (t[i].toNat : Int) ∧ (t[i].toNat : Int) ≤ 122) ∨ (48 ≤ (t[i].toNat : Int) ∧ (t[i].toNat : Int) ≤ 57)) → (isLet t[i] || isDig t[i]) = false) := fun h => by
                cases hb : (isLet t[i] || isDig t[i]) with
                | false => rfl
                | true => refine absurd ?_ h; unfold isLet isDig at hb; simpa using hb
              by_cases hA : 97 ≤ (t[i].toNat : Int)
              · by_cases hB : (t[i].toNat : Int) ≤ 122
                · have hB' : ¬ (122 < (t[i].toNat : Int)) := by omega
                  go_wp2_with fail
                  all_goals first
                    | (go_roundw; (case rel => exact ⟨i + 1, by omega, by go_num, by rw [HA.out.1, HA.out.2.2, HP.out (by omega)]; rfl, by trivial⟩); (case measure => simp [intOf]; omega))
                    | (exfalso; rename_i h9; first | omega | (simp only [Bool.not_eq_false', decide_eq_true_eq] at h9; omega) | (simp_all <;> omega))
                · have hC : 48 ≤ (t[i].toNat : Int) := by omega
                  have hD : ¬ ((t[i].toNat : Int) ≤ 57) := by omega
                  have d1 : decide ((t[i].toNat : Int) ≤ 122) = false := decide_eq_false hB
                  have d2 : decide ((t[i].toNat : Int) ≤ 57) = false := decide_eq_false hD
                  have d3 : (122 < (t[i].toNat : Int)) := by omega
                  have d4 : (57 < (t[i].toNat : Int)) := by omega
                  go_wp2_with fail
                  all_goals first
                    | (go_ret; exact ⟨by rw [hn.out, HA.out.2.1 (HQ.out (by omega))]; rfl, by trivial⟩)
                    | (exfalso; rename_i h9; first | omega | (simp only [Bool.not_eq_false', decide_eq_true_eq] at h9; omega) | (simp_all <;> omega))
              · by_cases hC : 48 ≤ (t[i].toNat : Int)
                · by_cases hD : (t[i].toNat : Int) ≤ 57
                  · have d1 : decide (97 ≤ (t[i].toNat : Int)) = false := decide_eq_false hA
                    have d3 : ((t[i].toNat : Int) < 97) := by omega
                    go_wp2_with fail
                    all_goals first
                      | (go_roundw; (case rel => exact ⟨i + 1, by omega, by go_num, by rw [HA.out.1, HA.out.2.2, HP.out (by omega)]; rfl, by trivial⟩); (case measure => simp [intOf]; omega))
                      | (exfalso; rename_i h9; first | omega | (simp only [Bool.not_eq_false', decide_eq_true_eq] at h9; omega) | (simp_all <;> omega))
                  · have d1 : decide (97 ≤ (t[i].toNat : Int)) = false := decide_eq_false hA
                    have d2 : decide ((t[i].toNat : Int) ≤ 57) = false := decide_eq_false hD
                    have d3 : ((t[i].toNat : Int) < 97) := by omega
                    have d4 : (57 < (t[i].toNat : Int)) := by omega
                    go_wp2_with fail
                    all_goals first
                      | (go_ret; exact ⟨by rw [hn.out, HA.out.2.1 (HQ.out (by omega))]; rfl, by trivial⟩)
                      | (exfalso; rename_i h9; first | omega | (simp only [Bool.not_eq_false', decide_eq_true_eq] at h9; omega) | (simp_all <;> omega))
                · have d1 : decide (97 ≤ (t[i].toNat : Int)) = false := decide_eq_false hA
                  have d2 : decide (48 ≤ (t[i].toNat : Int)) = false := decide_eq_false hC
                  have d3 : ((t[i].toNat : Int) < 97) := by omega
                  have d4 : ((t[i].toNat : Int) < 48) := by omega
                  go_wp2_with fail
                  all_goals first
                    | (go_ret; exact ⟨by rw [hn.out, HA.out.2.1 (HQ.out (by omega))]; rfl, by trivial⟩)
                    | (exfalso; rename_i h9; first | omega | (simp only [Bool.not_eq_false', decide_eq_true_eq] at h9; omega) | (simp_all <;> omega))
            · have hh : Hid (t.all (fun c => isLet c || isDig c) = true) := by rw [List.take_of_length_le (by omega)] at hall; exact hall
              clear hall
              go_wp2_with fail
              go_ret
              exact ⟨by rw [hn.out, hh.out]; rfl, by trivial⟩
      · have hn : isNam t = false := by
          cases hr : isNam t with
          | false => rfl
          | true => have := ((isNam_iff t).1 hr).2.2.2.2; rw [hhd.out] at this; exact absurd this hl
        rw [hn]
        by_cases g3 : (t[0].toNat : Int) < 97
        · go_enter Tryz.func51, Tryz.ntmps51
          go_wp2_with fail
          go_ret
          exact ⟨rfl, rfl⟩
        · have g4 : 122 < (t[0].toNat : Int) := by unfold isLet at hl; simp at hl; omega
          go_enter Tryz.func51, Tryz.ntmps51
          go_wp2_with fail
          go_ret
          exact ⟨rfl, rfl⟩
    · have g2 : 8 < (t.length : Int) := by omega
      have hn : isNam t = false := isNam_no (fun h => h8 h.2.1)
      rw [hn]
      go_enter Tryz.func51, Tryz.ntmps51
      go_wp2_with fail
      go_ret
      exact ⟨rfl, rfl⟩
end Go.Proofs.YtlpdomgedaockaaGreatDoor
namespace Go.Proofs.YtlpdomgedaockaaGreatDoor
open Go.RowKit Go.Proofs.Cod
def letX (c : UInt8) : UInt8 := if c == 118 then 120 else c
def formT (t : Tx) : Tx := match partsT t with
  | some ps => ps.map letX
  | none => [63]
theorem parts_cases (t : Tx) : (∃ p, p ∈ shapeT ∧ t = p.1 ∧ partsT t = some p.2) ∨ (partsT t = none ∧ ∀ p, p ∈ shapeT → (t == p.1) = false) := by
  unfold partsT
  cases h : shapeT.find? (fun p => decide (p.1 = t)) with
  | some p =>
    have h1 := List.mem_of_find?_eq_some h
    have h2 := List.find?_some h
    exact .inl ⟨p, h1, by simpa using (of_decide_eq_true h2).symm, rfl⟩
  | none =>
    refine .inr ⟨rfl, fun p hp => ?_⟩
    have := List.find?_eq_none.1 h p hp
    simp at this
    exact beq_eq_false_iff_ne.2 (fun e => this e.symm)
set_option maxRecDepth 100000 in
set_option maxHeartbeats 1000000 in
theorem rForm_any (t : Tx) (w : World) : Calls Tryz.prog 54 #[.string (bs t)] w fun e w' => e = .returned (.string (bs (formT t))) ∧ w' = w := by
  have hF : ∀ o : List UInt8, ((bs t).toList == o) = (t == o) := fun o => by rw [bs_toList]
  rcases parts_cases t with ⟨p, hp, ht, hs⟩ | ⟨hn, hall⟩
  · have hf : formT t = p.2.map letX := by unfold formT; rw [hs]
    rw [hf]
    clear hf hs
    simp only [shapeT, List.mem_cons, List.not_mem_nil, or_false] at hp
    rcases hp with rfl | rfl | rfl | rfl | rfl | rfl | rfl | rfl | rfl | rfl | rfl | rfl | rfl | rfl | rfl | rfl | rfl
    all_goals
      subst ht
      go_enter Tryz.func54, Tryz.ntmps54
      go_wp2_with fail
      go_ret
      exact ⟨rfl, rfl⟩
  · have hf : formT t = [63] := by unfold formT; rw [hn]
    rw [hf]
    have k0 := hall ([115, 101, 116], [114, 97]) (by simp [shapeT])
    have k1 := hall ([97, 100, 100], [114, 97, 98]) (by simp [shapeT])
    have k2 := hall ([115, 117, 98], [114, 97, 98]) (by simp [shapeT])
    have k3 := hall ([109, 117, 108], [114, 97, 98]) (by simp [shapeT])
    have k4 := hall ([108, 111, 97, 100], [114, 118]) (by simp [shapeT])
    have k5 := hall ([115, 116, 111, 114, 101], [118, 97]) (by simp [shapeT])
    have k6 := hall ([103, 101, 116], [114, 102]) (by simp [shapeT])
    have k7 := hall ([112, 117, 116], [102, 97]) (by simp [shapeT])
    have k8 := hall ([108, 111, 99, 107], [109]) (by simp [shapeT])
    have k9 := hall ([117, 110, 108, 111, 99, 107], [109]) (by simp [shapeT])
    have k10 := hall ([115, 112, 97, 119, 110], [116]) (by simp [shapeT])
    have k11 := hall ([106, 111, 105, 110], [116]) (by simp [shapeT])
    have k12 := hall ([106, 117, 109, 112], [108]) (by simp [shapeT])
    have k13 := hall ([106, 101, 113], [97, 98, 108]) (by simp [shapeT])
    have k14 := hall ([106, 108, 116], [97, 98, 108]) (by simp [shapeT])
    have k15 := hall ([99, 104, 101, 99, 107], [97, 98]) (by simp [shapeT])
    have k16 := hall ([101, 110, 100], []) (by simp [shapeT])
    dsimp only at k0 k1 k2 k3 k4 k5 k6 k7 k8 k9 k10 k11 k12 k13 k14 k15 k16
    clear hall hn hf
    go_enter Tryz.func54, Tryz.ntmps54
    go_wp2_with fail
    go_ret
    exact ⟨rfl, rfl⟩
end Go.Proofs.YtlpdomgedaockaaGreatDoor
namespace Go.Proofs.YtlpdomgedaockaaGreatDoor
open Go.RowKit Go.Proofs.Cod
theorem arg_val {w : World} {fn : Func} {tmps : Array Value} {b : Nat} {x a0 a1 : Value} (hr : fn.results = #[.cell 2 150, .tmp 3]) (ht : tmps[2]? = some (.pointer (some ⟨b, 0, none⟩))) (h3 : tmps[3]? = some x) (hc : w.heap[b]? = some (.cells #[a0, a1] 150)) : (results fn tmps).run Tryz.prog w = .ok (.tuple #[.agg #[a0, a1], x]) w := by
  have c0 : w.cell? ⟨b, 0, none⟩ = some a0 := by simp [World.cell?, hc]
  have c1 : w.cell? ⟨b, 1, none⟩ = some a1 := by simp [World.cell?, hc]
  simp [results, hr, ht, h3, go_sem, c0, c1]
theorem regZ_is (t : Tx) : regZ t = if isReg t then (regN t : Int) else -1 := by
  unfold regZ
  cases h : isReg t with
  | false => rfl
  | true =>
    obtain ⟨a, b, rfl, h1, h2⟩ := isReg_is h
    simp only [if_true, regN]
    show (b.toNat : Int) - 48 = ((b.toNat - 48 : Nat) : Int)
    omega
theorem num_take {t : Tx} {i : Nat} (h : i < t.length) : numN (t.take (i + 1)) = numN (t.take i) * 10 + (t[i].toNat - 48) := by
  unfold numN
  rw [List.take_succ_eq_append_getElem h, List.foldl_append]; rfl
theorem num_small {t : Tx} (h : t.all isDig = true) : numN t < 10 ^ t.length := by
  have key : ∀ (t : Tx) (a : Nat), t.all isDig = true → t.foldl (fun n c => n * 10 + (c.toNat - 48)) a < (a + 1) * 10 ^ t.length := by
    intro t
    induction t with
    | nil => intro a _; simp
    | cons c t ih =>
      intro a h
      simp only [List.all_cons, Bool.and_eq_true] at h
      have hc := h.1
      simp [isDig] at hc
      have := ih (a * 10 + (c.toNat - 48)) h.2
      simp only [List.foldl_cons, List.length_cons]
      refine Nat.lt_of_lt_of_le this ?_
      rw [Nat.pow_succ, Nat.mul_comm (10 ^ t.length) 10, ← Nat.mul_assoc]
      exact Nat.mul_le_mul_right _ (by omega)
  have := key t 0 h
  simpa [numN] using this
def argB (t : Tx) : Bool := isReg t || isNum t
def argV (t : Tx) : Value := if argB t then .agg #[.bool (isReg t), .int .i64 (argN t)] else .agg #[.bool false, .int .i64 0]
set_option maxRecDepth 100000 in
set_option maxHeartbeats 1000000 in
theorem rArg_any (t : Tx) (w : World) : Calls Tryz.prog 112 #[.string (bs t)] w fun e w' => e = .returned (.tuple #[argV t, .bool (argB t)]) ∧ Below w.heap.size w w' := by
  have HB : Hid (∀ x, Below w.heap.size w (w.alloc x)) := fun x => (Below.refl _ _).alloc (Nat.le_refl _) _
  have hz := bs_size t
  have hR := fun u => rReg_any t u
  rw [regZ_is] at hR
  cases hr : isReg t with
  | true =>
    rw [hr] at hR
    simp only [if_true] at hR
    have hv : Hid (argV t = .agg #[.bool true, .int .i64 (regN t)] ∧ argB t = true) := by
      unfold Hid argV argB argN; rw [hr]; exact ⟨rfl, rfl⟩
    have hge : (0 : Int) ≤ (regN t : Int) := by omega
    go_enter Tryz.func112, Tryz.ntmps112
    go_wp2_with fail
    refine (hR _).mono ?_
    rintro e w1 ⟨rfl, rfl⟩
    go_wp2_with fail
    exact bodyPost_ret (arg_val rfl rfl rfl (World.alloc_heap_new w _)) rfl ⟨by first | (rw [hv.out.1, hv.out.2]; done) | (rw [hv.out.1, hv.out.2]; rfl), HB.out _⟩
  | false =>
    rw [hr] at hR
    simp only [Bool.false_eq_true, if_false] at hR
    by_cases hl : 1 ≤ t.length ∧ t.length ≤ 3
    · have hnum : Hid (isNum t = t.all isDig) := by unfold Hid isNum; rw [decide_eq_true hl.1, decide_eq_true hl.2]; rfl
      have g1 : ¬ ((t.length : Int) < 1) := by omega
      have g2 : ¬ (3 < (t.length : Int)) := by omega
      replace hr := hide hr
      go_enter Tryz.func112, Tryz.ntmps112
      go_wp2_with fail
      refine (hR _).mono ?_
      rintro e w1 ⟨rfl, rfl⟩
      go_wp2_with fail
      go_loopw [5, 6] (fun nv iv wr => ∃ i : Nat, i ≤ t.length ∧ iv = .int .i64 i ∧ nv = .int .i64 (numN (t.take i)) ∧ (t.take i).all isDig = true ∧ wr = w.alloc (.cells #[.bool false, .int .i64 0] 150)) (fun _ iv _ => t.length - (intOf iv).toNat)
      case atStart => exact ⟨0, Nat.zero_le _, rfl, by simp [numN], by simp, rfl⟩
      case round =>
        obtain ⟨i, hi, rfl, rfl, hall, rfl⟩ := hrel
        by_cases h5 : i < t.length
        · have hb : ∀ h, (bs t)[i]'h = t[i] := fun h => bs_get t i h
          have hlt : (i : Int) < (t.length : Int) := by omega
          have hA := all_take (p := isDig) h5
          have hsm := num_small hall
          rw [List.length_take] at hsm
          have hp : (10 : Nat) ^ min i t.length ≤ 10 ^ 3 := Nat.pow_le_pow_right (by omega) (by omega)
          have hns : numN (t.take i) < 1000 := by omega
          have hnt := num_take h5
          cases hd : isDig t[i] with
          | true =>
            have hd2 := hd
            simp [isDig] at hd2
            have f1 : ¬ ((t[i].toNat : Int) < 48) := by omega
            have f2 : ¬ (57 < (t[i].toNat : Int)) := by omega
            have q1 : wrap64 (10 * (numN (t.take i) : Int)) = 10 * (numN (t.take i) : Int) := IntWalk.wrap64_in _ (by omega)
            have q2 : wrap64 (10 * (numN (t.take i) : Int) + (t[i].toNat : Int)) = 10 * (numN (t.take i) : Int) + (t[i].toNat : Int) := IntWalk.wrap64_in _ (by omega)
            have q3 : wrap64 (10 * (numN (t.take i) : Int) + (t[i].toNat : Int) - 48) = 10 * (numN (t.take i) : Int) + (t[i].toNat : Int) - 48 := IntWalk.wrap64_in _ (by omega)
            have q4 : (numN (t.take (i + 1)) : Int) = 10 * (numN (t.take i) : Int) + (t[i].toNat : Int) - 48 := by rw [hnt]; omega
            have HE := hide (⟨hA, hall, hd, q4⟩ : _ ∧ _ ∧ _ ∧ _)
            clear hA hall hd hsm hnt q4 hd2 hp
            go_wp2_with fail
            go_roundw
            case rel =>
              obtain ⟨hA, hall, hd, q4⟩ := HE.out
              refine ⟨i + 1, by omega, by go_num, ?_, by rw [hA, hall, hd]; rfl, by trivial⟩
              rw [q4]; rfl
            case measure => simp [intOf]; omega
          | false =>
            have hv : Hid (argV t = .agg #[.bool false, .int .i64 0] ∧ argB t = false) := by
              have : argB t = false := by unfold argB; rw [hr.out, hnum.out, all_no h5 hd]; rfl
              unfold Hid argV; rw [this]; exact ⟨rfl, rfl⟩
            by_cases f1 : (t[i].toNat : Int) < 48
            · clear hA hall hsm hnt hp hd
              go_wp2_with fail
              exact bodyPost_ret (arg_val rfl rfl rfl (World.alloc_heap_new w _)) rfl ⟨by first | (rw [hv.out.1, hv.out.2]; done) | (rw [hv.out.1, hv.out.2]; rfl), HB.out _⟩
            · have f2 : (57 < (t[i].toNat : Int)) := by
                simp [isDig] at hd
                omega
              clear hA hall hsm hnt hp hd
              go_wp2_with fail
              exact bodyPost_ret (arg_val rfl rfl rfl (World.alloc_heap_new w _)) rfl ⟨by first | (rw [hv.out.1, hv.out.2]; done) | (rw [hv.out.1, hv.out.2]; rfl), HB.out _⟩
        · have hil : i = t.length := by omega
          subst hil
          rw [List.take_length] at hall
          have hv : Hid (argV t = .agg #[.bool false, .int .i64 (numN t)] ∧ argB t = true) := by
            have h1 : argB t = true := by unfold argB; rw [hr.out, hnum.out, hall]; rfl
            have h2 : argN t = numN t := by unfold argN; rw [hr.out]; rfl
            unfold Hid argV; rw [h1, hr.out, h2]; exact ⟨rfl, rfl⟩
          have htl : t.take t.length = t := List.take_length
          clear hall
          go_wp2_with fail
          exact bodyPost_ret (arg_val rfl rfl rfl (World.alloc_heap_new w _)) rfl ⟨by first | (rw [hv.out.1, hv.out.2]; done) | (rw [hv.out.1, hv.out.2]; rfl), HB.out _⟩
    · have hv : Hid (argV t = .agg #[.bool false, .int .i64 0] ∧ argB t = false) := by
        have h0 : isNum t = false := by
          unfold isNum
          by_cases g : 1 ≤ t.length
          · have g2 : ¬ t.length ≤ 3 := fun h => hl ⟨g, h⟩
            rw [decide_eq_false g2]; simp
          · rw [decide_eq_false g]; rfl
        have : argB t = false := by unfold argB; rw [hr, h0]; rfl
        unfold Hid argV; rw [this]; exact ⟨rfl, rfl⟩
      replace hr := hide hr
      by_cases g : t.length = 0
      · have g1 : ((t.length : Int) < 1) := by omega
        go_enter Tryz.func112, Tryz.ntmps112
        go_wp2_with fail
        refine (hR _).mono ?_
        rintro e w1 ⟨rfl, rfl⟩
        go_wp2_with fail
        exact bodyPost_ret (arg_val rfl rfl rfl (World.alloc_heap_new w _)) rfl ⟨by first | (rw [hv.out.1, hv.out.2]; done) | (rw [hv.out.1, hv.out.2]; rfl), HB.out _⟩
      · have g1 : ¬ ((t.length : Int) < 1) := by omega
        have g2 : (3 < (t.length : Int)) := by omega
        go_enter Tryz.func112, Tryz.ntmps112
        go_wp2_with fail
        refine (hR _).mono ?_
        rintro e w1 ⟨rfl, rfl⟩
        go_wp2_with fail
        exact bodyPost_ret (arg_val rfl rfl rfl (World.alloc_heap_new w _)) rfl ⟨by first | (rw [hv.out.1, hv.out.2]; done) | (rw [hv.out.1, hv.out.2]; rfl), HB.out _⟩
def findZ : List Tx → Tx → Int
  | [], _ => -1
  | t :: l, n => if t = n then 0 else if findZ l n = -1 then -1 else findZ l n + 1
theorem findZ_ge (l : List Tx) (n : Tx) : -1 ≤ findZ l n := by
  induction l with
  | nil => simp [findZ]
  | cons t l ih =>
    unfold findZ
    split
    · omega
    · split <;> omega
theorem findZ_no {l : List Tx} {n : Tx} (h : ∀ j : Nat, j < l.length → l.getD j [] ≠ n) : findZ l n = -1 := by
  induction l with
  | nil => rfl
  | cons t l ih =>
    unfold findZ
    rw [if_neg (by simpa using h 0 (by simp)), ih (fun j hj => by simpa using h (j + 1) (by simpa using hj)), if_pos rfl]
theorem findZ_at {l : List Tx} {n : Tx} {i : Nat} (hi : i < l.length) (h : ∀ j : Nat, j < i → l.getD j [] ≠ n) (he : l.getD i [] = n) : findZ l n = i := by
  induction l generalizing i with
  | nil => simp at hi
  | cons t l ih =>
    unfold findZ
    cases i with
    | zero => rw [if_pos (by simpa using he)]; rfl
    | succ i =>
      rw [if_neg (by simpa using h 0 (by omega))]
      have := ih (i := i) (by simpa using hi) (fun j hj => by simpa using h (j + 1) (by omega)) (by simpa using he)
      rw [this, if_neg (by omega)]; omega
set_option maxRecDepth 100000 in
set_option maxHeartbeats 400000 in
theorem rFind_any (a : Option Addr) (n cap : Nat) (ts : List Tx) (x : Tx) (w : World) (hn : ts.length = n) (hs : Ws w a ts) (hb : n < 4294967281) :
    Calls Tryz.prog 110 #[.slice a n cap, .string (bs x)] w fun e w' => e = .returned (.int .i64 (findZ ts x)) ∧ w' = w := by
  go_enter Tryz.func110, Tryz.ntmps110
  go_wp2_with fail
  go_loopw [5] (fun iv wr => ∃ i : Nat, i ≤ n ∧ iv = .int .i64 i ∧ (∀ j : Nat, j < i → ts.getD j [] ≠ x) ∧ wr = w) (fun iv _ => n - (intOf iv).toNat)
  case atStart => exact ⟨0, Nat.zero_le _, rfl, fun j hj => by omega, rfl⟩
  case round =>
    obtain ⟨i, hi, rfl, hall, rfl⟩ := hrel
    by_cases h5 : i < n
    · obtain ⟨b, off, rfl, _, c0⟩ := hs i (by omega)
      have hlt : (i : Int) < (n : Int) := by omega
      have HA := hide (⟨hall, fun h => findZ_at (l := ts) (n := x) (i := i) (by omega) hall h⟩ : _ ∧ (ts.getD i [] = x → _))
      generalize hte : ts.getD i [] = t at c0 HA
      replace hte := hide hte
      have hF : ((bs t).toList == (bs x).toList) = decide (t = x) := by
        rw [bs_toList, bs_toList]
        by_cases e : t = x <;> simp [e]
      clear hall
      by_cases e : t = x
      · rw [decide_eq_true e] at hF
        replace e := hide e
        go_wp2_with fail
        go_ret
        exact ⟨by rw [HA.out.2 e.out]; rfl, by trivial⟩
      · rw [decide_eq_false e] at hF
        replace e := hide e
        go_wp2_with fail
        go_roundw
        case rel =>
          refine ⟨i + 1, by omega, by go_num, fun j hj => ?_, by trivial⟩
          by_cases h6 : j = i
          · subst h6; rw [hte.out]; exact e.out
          · exact HA.out.1 j (by omega)
        case measure => simp [intOf]; omega
    · have hh : Hid (findZ ts x = -1) := findZ_no (fun j hj => hall j (by omega))
      clear hall
      go_wp2_with fail
      go_ret
      exact ⟨by rw [hh.out]; rfl, by trivial⟩
end Go.Proofs.YtlpdomgedaockaaGreatDoor
