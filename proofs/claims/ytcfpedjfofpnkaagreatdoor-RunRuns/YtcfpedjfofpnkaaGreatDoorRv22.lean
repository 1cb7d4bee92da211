import Derived.Test.YtcfpedjfofpnkaaGreatDoorRv21
import Derived.Test.YtcfpedjfofpnkaaGreatDoorRv20
set_option linter.unusedVariables false
set_option linter.unusedSimpArgs false
namespace Go.Proofs.YtcfpedjfofpnkaaGreatDoor
open Go.RowKit Go.Shelf Go.Proofs.Cod
section
variable {w w' : World} {b B bb B0 : Nat} {p : PD} {s : MS} {out : Tx}
theorem idx0 (q0 q1 q2 q3 : Int) (w : World) : (Instr.index 83 (.agg #[.int .i64 q0, .int .i64 q1, .int .i64 q2, .int .i64 q3]) (.int .i64 0)).run Tryz.prog w = .ok (.int .i64 q0) w := by kernel_rfl
theorem idx1 (q0 q1 q2 q3 : Int) (w : World) : (Instr.index 83 (.agg #[.int .i64 q0, .int .i64 q1, .int .i64 q2, .int .i64 q3]) (.int .i64 1)).run Tryz.prog w = .ok (.int .i64 q1) w := by kernel_rfl
theorem idx2 (q0 q1 q2 q3 : Int) (w : World) : (Instr.index 83 (.agg #[.int .i64 q0, .int .i64 q1, .int .i64 q2, .int .i64 q3]) (.int .i64 2)).run Tryz.prog w = .ok (.int .i64 q2) w := by kernel_rfl
theorem idx3 (q0 q1 q2 q3 : Int) (w : World) : (Instr.index 83 (.agg #[.int .i64 q0, .int .i64 q1, .int .i64 q2, .int .i64 q3]) (.int .i64 3)).run Tryz.prog w = .ok (.int .i64 q3) w := by kernel_rfl
theorem mach_reg2 (h : MachW w b p s) {t m : Nat} (ht : t < 4) (hm : m < 4) : w.cell? ⟨b, 27 + t * 207 + 3 + m, none⟩ = some (.int .i64 ((s.th t).regs.getD m 0)) := by
 rw [show 27 + t * 207 + 3 + m = 27 + t * 207 + (3 + m) by omega, h.cell (by omega), mc_thr p s ht (by omega)]
 unfold thrF
 rw [if_neg (by omega), if_neg (by omega), if_neg (by omega), if_pos (by omega), show 3 + m - 3 = m by omega]
theorem phaseT_len (th : TS) (h : th.pc ≤ 25) : (phaseT th).length ≤ 24 := by
 have := itoa_sm (n := th.pc) (by omega) (by omega)
 unfold phaseT
 split
 ·rw [List.length_append]; simp only [List.length_cons, List.length_nil]; omega
 ·split
  ·decide
  ·split <;> decide
theorem regsT_len (l : List Int) (hl : ∀ k, 0 ≤ l.getD k 0 ∧ l.getD k 0 < 1000) (i : Nat) : (regsT l i).length ≤ i * 22 := by
 induction i with
 | zero => simp [regsT]
 | succ i ih =>
  rw [regsT_succ, List.length_append, List.length_append]
  have := itoa_sm (hl i).1 (hl i).2
  simp only [List.length_cons, List.length_nil]
  omega
theorem regs_val {n : Nat} {th : TS} (h : TOk n th) (k : Nat) : 0 ≤ th.regs.getD k 0 ∧ th.regs.getD k 0 < 1000 := by
 by_cases e : k < th.regs.length
 ·exact h.rv _ (getD_mem e)
 ·rw [List.getD_eq_getElem?_getD, List.getElem?_eq_none (by omega)]
  exact ⟨by decide, by decide⟩
set_option maxRecDepth 100000 in
set_option maxHeartbeats 2000000 in
theorem showThread_any (h : MachW w b p s) (hbB : b < B) (hW : BW w B bb out) (hBw : B ≤ w.heap.size) {t n : Nat} (ht : t < 4) (htab : Tabs w B0) (hB0 : B0 ≤ B) (hT : TOk n (s.th t)) (hn : n ≤ 24) (h8 : (p.ts.getD t []).length ≤ 8) (hlen : out.length ≤ 200000) :
 Calls Tryz.prog 35 #[ptrV bb, .pointer (some ⟨b, 27 + t * 207, none⟩)] w fun e w' => e = .returned (.tuple #[]) ∧ BW w' B bb (out ++ thrT (p.ts.getD t []) (s.th t)) ∧ Below B w w' := by
 have hpc25 : (s.th t).pc ≤ 25 := by have := hT.pc2; omega
 have hpl := phaseT_len _ hpc25
 have hM := fun (w' : World) (hb : Below B w w') => (h.same (hb.block b hbB) : MachW w' b p s)
 have hTb := fun (w' : World) (hb : Below B w w') => (htab.keep (hb.mono hB0))
 have hP := hide (fun (w' : World) (hb : Below B w w') => phaseText_any (hM w' hb) ht (hTb w' hb) hT.ph hpc25)
 have hI := hide (fun (w' : World) (hb : Below B w w') (k : Nat) => itoa_any ((s.th t).regs.getD k 0) (by have := (regs_val hT k).1; omega) (by have := (regs_val hT k).2; omega) w' (hTb w' hb))
 have hRl := regsT_len _ (regs_val hT)
 have hIl := fun k => itoa_sm (regs_val hT k).1 (regs_val hT k).2
 have cP := hide (fun (w' : World) (hb : Below B w w') => mach_ph (hM w' hb) ht)
 have cR := hide (fun (w' : World) (hb : Below B w w') (k : Nat) (hk : k < 4) => mach_reg2 (hM w' hb) ht hk)
 have c0 := mach_nm h ht
 obtain ⟨nm, hnm⟩ : ∃ nm, p.ts.getD t [] = nm := ⟨_, rfl⟩
 obtain ⟨th, hth⟩ : ∃ th, s.th t = th := ⟨_, rfl⟩
 simp only [hnm, hth] at *
 obtain ⟨pt, hpt⟩ : ∃ pt, phaseT th = pt := ⟨_, rfl⟩
 have hS1 := bString_any hW nm (by omega) hBw
 have hth0 : thrT nm th = nm ++ [32] ++ pt ++ (if th.ph = 0 then [] else regsT th.regs 4) ++ [10] := by unfold thrT; rw [hpt]
 rw [hth0]
 obtain ⟨F, hF⟩ : ∃ F, out ++ (nm ++ [32] ++ pt ++ (if th.ph = 0 then [] else regsT th.regs 4) ++ [10]) = F := ⟨_, rfl⟩
 rw [hF]
 replace hF := hide hF
 rw [hpt] at hpl hP
 clear h hW hM hTb htab hT hnm hth hpt hth0 hpc25
 unfold ptrV at *
 go_enter Tryz.func35, Tryz.ntmps35
 go_wp2_with fail
 refine hS1.mono ?_
 rintro e w1 ⟨rfl, hW1, hb1⟩
 have hS2 := bByte_any hW1 32 (by rw [List.length_append]; omega) (by have := hb1.size; omega)
 have HB1 := hide hb1
 clear hS1 hW1 hb1 c0
 unfold ptrV at hS2
 rw [byte_lit 32 32 rfl] at hS2
 go_wp2_with fail
 refine hS2.mono ?_
 rintro e w2 ⟨rfl, hW2, hb2⟩
 have hB2 := HB1.out.trans hb2
 have hPx := hP.out w2 hB2
 have HB2 := hide (⟨hB2, hW2⟩ : _ ∧ _)
 clear hS2 hW2 hb2 hB2 HB1 hP
 go_wp2_with fail
 refine hPx.mono ?_
 rintro e w3 ⟨rfl, hb3⟩
 obtain ⟨hB2, hW2⟩ := HB2.out
 have hW3 := hW2.below hb3
 have hB3 : Below B w w3 := hB2.trans (hb3.mono (by have := hB2.size; omega))
 have hS4 := bString_any hW3 pt (by simp only [List.length_append, List.length_cons, List.length_nil]; omega) (by have := hB3.size; omega)
 have HB3 := hide hB3
 clear hPx hb3 hB2 hW2 hW3 hB3 HB2
 unfold ptrV at hS4
 go_wp2_with fail
 refine hS4.mono ?_
 rintro e w4 ⟨rfl, hW4, hb4⟩
 have hB4 := HB3.out.trans hb4
 have c1 := cP.out w4 hB4
 obtain ⟨o4, ho4⟩ : ∃ o4, out ++ nm ++ [32] ++ pt = o4 := ⟨_, rfl⟩
 have hol : o4.length ≤ 200100 := by rw [← ho4]; simp only [List.length_append, List.length_cons, List.length_nil]; omega
 rw [ho4] at hW4
 have hfin : ∀ r : Tx, out ++ (nm ++ [32] ++ pt ++ r ++ [10]) = (o4 ++ r) ++ [10] := fun r => by rw [← ho4]; simp
 by_cases hz : th.ph = 0
 ·replace hF : Hid (F = o4 ++ [10]) := by unfold Hid; rw [← hF.out, if_pos hz, hfin, List.append_nil]
  rw [hz] at c1
  have hS5 := bByte_any hW4 10 (by omega) (by have := hB4.size; omega)
  have HB4 := hide hB4
  clear hS4 hW4 hb4 hB4 HB3 cP cR hI hRl hIl hfin hz
  unfold ptrV at hS5
  rw [byte_lit 10 10 rfl] at hS5
  go_wp2_with fail
  refine hS5.mono ?_
  rintro e w5 ⟨rfl, hW5, hb5⟩
  have HN := hide (⟨hW5, HB4.out.trans hb5⟩ : _ ∧ _)
  clear hS5 hW5 hb5 HB4
  go_wp2_with fail
  go_end0
  rw [hF.out]
  exact ⟨rfl, HN.out⟩
 ·replace hF : Hid (F = o4 ++ regsT th.regs 4 ++ [10]) := by unfold Hid; rw [← hF.out, if_neg hz, hfin]
  have hz' : (th.ph != 0) = true := by simpa using hz
  have r0 := cR.out w4 hB4 0 (by omega)
  have r1 := cR.out w4 hB4 1 (by omega)
  have r2 := cR.out w4 hB4 2 (by omega)
  have r3 := cR.out w4 hB4 3 (by omega)
  rw [Nat.add_zero] at r0
  have hrs := regsT_succ th.regs
  have hr0 : regsT th.regs 0 = [] := rfl
  have hI0 := hide (fun w' hb => hI.out w' hb 0)
  have hI1 := hide (fun w' hb => hI.out w' hb 1)
  have hI2 := hide (fun w' hb => hI.out w' hb 2)
  have hI3 := hide (fun w' hb => hI.out w' hb 3)
  have hs0 := hrs 0
  have hs1 := hrs 1
  have hs2 := hrs 2
  have hs3 := hrs 3
  have hl0 := hIl 0
  have hl1 := hIl 1
  have hl2 := hIl 2
  have hl3 := hIl 3
  generalize th.regs.getD 0 0 = q0 at *
  generalize th.regs.getD 1 0 = q1 at *
  generalize th.regs.getD 2 0 = q2 at *
  generalize th.regs.getD 3 0 = q3 at *
  obtain ⟨RT, hRT⟩ : ∃ RT, regsT th.regs = RT := ⟨_, rfl⟩
  rw [hRT] at hs0 hs1 hs2 hs3 hRl hr0 hF
  replace hs0 := hide hs0
  replace hs1 := hide hs1
  replace hs2 := hide hs2
  replace hs3 := hide hs3
  have H4 := hide (⟨hW4, hB4⟩ : _ ∧ _)
  replace hRl := hide hRl
  replace hr0 := hide hr0
  clear hS4 hW4 hb4 hB4 HB3 cP cR hI hIl hfin hz hrs hRT
  go_wp2_with fail
  go_loopw [27] (fun iv wr => ∃ i : Nat, i ≤ 4 ∧ iv = .int .i64 i ∧ BW wr B bb (o4 ++ RT i) ∧ Below B w wr) (fun iv _ => 4 - (intOf iv).toNat)
  case atStart => exact ⟨0, Nat.zero_le _, rfl, (by rw [hr0.out, List.append_nil]; exact H4.out.1), H4.out.2⟩
  case round =>
   clear H4
   obtain ⟨i, hi, rfl, hS, hB⟩ := hrel
   have hRi := hRl.out i
   by_cases h5 : i < 4
   ·have : i = 0 ∨ i = 1 ∨ i = 2 ∨ i = 3 := by omega
    have hS6 := bByte_any hS 32 (by rw [List.length_append]; omega) (by have := hB.size; omega)
    have HB := hide hB
    clear hS hB hi h5
    unfold ptrV at hS6
    rw [byte_lit 32 32 rfl] at hS6
    rcases this with rfl | rfl | rfl | rfl
    ·have hix := idx0 q0 q1 q2 q3
     go_wp2_with fail
     refine hS6.mono ?_
     rintro e w6 ⟨rfl, hW6, hb6⟩
     have hB6 := HB.out.trans hb6
     have hIx := hI0.out w6 hB6
     have HB6 := hide (⟨hB6, hW6⟩ : _ ∧ _)
     clear hS6 hW6 hb6 hB6 HB
     go_wp2_with fail
     refine hIx.mono ?_
     rintro e w7 ⟨rfl, hb7⟩
     obtain ⟨hB6, hW6⟩ := HB6.out
     have hW7 := hW6.below hb7
     have hB7 : Below B w w7 := hB6.trans (hb7.mono (by have := hB6.size; omega))
     have hS8 := bString_any hW7 (Lib.itoa q0) (by simp only [List.length_append, List.length_cons, List.length_nil]; omega) (by have := hB7.size; omega)
     have HB7 := hide hB7
     clear hIx hb7 hB6 hW6 hW7 hB7 HB6
     unfold ptrV at hS8
     go_wp2_with fail
     refine hS8.mono ?_
     rintro e w8 ⟨rfl, hW8, hb8⟩
     have HN := hide (⟨hW8, HB7.out.trans hb8⟩ : _ ∧ _)
     clear hS8 hW8 hb8 HB7
     go_wp2_with fail
     go_roundw
     case rel =>
      refine ⟨1, by omega, rfl, ?_, HN.out.2⟩
      rw [hs0.out, ← List.append_assoc, ← List.append_assoc]
      exact HN.out.1
     case measure => decide
    ·have hix := idx1 q0 q1 q2 q3
     go_wp2_with fail
     refine hS6.mono ?_
     rintro e w6 ⟨rfl, hW6, hb6⟩
     have hB6 := HB.out.trans hb6
     have hIx := hI1.out w6 hB6
     have HB6 := hide (⟨hB6, hW6⟩ : _ ∧ _)
     clear hS6 hW6 hb6 hB6 HB
     go_wp2_with fail
     refine hIx.mono ?_
     rintro e w7 ⟨rfl, hb7⟩
     obtain ⟨hB6, hW6⟩ := HB6.out
     have hW7 := hW6.below hb7
     have hB7 : Below B w w7 := hB6.trans (hb7.mono (by have := hB6.size; omega))
     have hS8 := bString_any hW7 (Lib.itoa q1) (by simp only [List.length_append, List.length_cons, List.length_nil]; omega) (by have := hB7.size; omega)
     have HB7 := hide hB7
     clear hIx hb7 hB6 hW6 hW7 hB7 HB6
     unfold ptrV at hS8
     go_wp2_with fail
     refine hS8.mono ?_
     rintro e w8 ⟨rfl, hW8, hb8⟩
     have HN := hide (⟨hW8, HB7.out.trans hb8⟩ : _ ∧ _)
     clear hS8 hW8 hb8 HB7
     go_wp2_with fail
     go_roundw
     case rel =>
      refine ⟨2, by omega, rfl, ?_, HN.out.2⟩
      rw [hs1.out, ← List.append_assoc, ← List.append_assoc]
      exact HN.out.1
     case measure => decide
    ·have hix := idx2 q0 q1 q2 q3
     go_wp2_with fail
     refine hS6.mono ?_
     rintro e w6 ⟨rfl, hW6, hb6⟩
     have hB6 := HB.out.trans hb6
     have hIx := hI2.out w6 hB6
     have HB6 := hide (⟨hB6, hW6⟩ : _ ∧ _)
     clear hS6 hW6 hb6 hB6 HB
     go_wp2_with fail
     refine hIx.mono ?_
     rintro e w7 ⟨rfl, hb7⟩
     obtain ⟨hB6, hW6⟩ := HB6.out
     have hW7 := hW6.below hb7
     have hB7 : Below B w w7 := hB6.trans (hb7.mono (by have := hB6.size; omega))
     have hS8 := bString_any hW7 (Lib.itoa q2) (by simp only [List.length_append, List.length_cons, List.length_nil]; omega) (by have := hB7.size; omega)
     have HB7 := hide hB7
     clear hIx hb7 hB6 hW6 hW7 hB7 HB6
     unfold ptrV at hS8
     go_wp2_with fail
     refine hS8.mono ?_
     rintro e w8 ⟨rfl, hW8, hb8⟩
     have HN := hide (⟨hW8, HB7.out.trans hb8⟩ : _ ∧ _)
     clear hS8 hW8 hb8 HB7
     go_wp2_with fail
     go_roundw
     case rel =>
      refine ⟨3, by omega, rfl, ?_, HN.out.2⟩
      rw [hs2.out, ← List.append_assoc, ← List.append_assoc]
      exact HN.out.1
     case measure => decide
    ·have hix := idx3 q0 q1 q2 q3
     go_wp2_with fail
     refine hS6.mono ?_
     rintro e w6 ⟨rfl, hW6, hb6⟩
     have hB6 := HB.out.trans hb6
     have hIx := hI3.out w6 hB6
     have HB6 := hide (⟨hB6, hW6⟩ : _ ∧ _)
     clear hS6 hW6 hb6 hB6 HB
     go_wp2_with fail
     refine hIx.mono ?_
     rintro e w7 ⟨rfl, hb7⟩
     obtain ⟨hB6, hW6⟩ := HB6.out
     have hW7 := hW6.below hb7
     have hB7 : Below B w w7 := hB6.trans (hb7.mono (by have := hB6.size; omega))
     have hS8 := bString_any hW7 (Lib.itoa q3) (by simp only [List.length_append, List.length_cons, List.length_nil]; omega) (by have := hB7.size; omega)
     have HB7 := hide hB7
     clear hIx hb7 hB6 hW6 hW7 hB7 HB6
     unfold ptrV at hS8
     go_wp2_with fail
     refine hS8.mono ?_
     rintro e w8 ⟨rfl, hW8, hb8⟩
     have HN := hide (⟨hW8, HB7.out.trans hb8⟩ : _ ∧ _)
     clear hS8 hW8 hb8 HB7
     go_wp2_with fail
     go_roundw
     case rel =>
      refine ⟨4, by omega, rfl, ?_, HN.out.2⟩
      rw [hs3.out, ← List.append_assoc, ← List.append_assoc]
      exact HN.out.1
     case measure => decide
   ·have hil : i = 4 := by omega
    subst hil
    have hS9 := bByte_any hS 10 (by rw [List.length_append]; omega) (by have := hB.size; omega)
    have HB := hide hB
    clear hS hB hi h5
    unfold ptrV at hS9
    rw [byte_lit 10 10 rfl] at hS9
    go_wp2_with fail
    refine hS9.mono ?_
    rintro e w9 ⟨rfl, hW9, hb9⟩
    have HN := hide (⟨hW9, HB.out.trans hb9⟩ : _ ∧ _)
    clear hS9 hW9 hb9 HB
    go_wp2_with fail
    go_end0
    rw [hF.out]
    exact ⟨rfl, HN.out⟩
end
def thrsT (p : PD) (s : MS) (i : Nat) : Tx := (List.range i).flatMap fun t => thrT (p.ts.getD t []) (s.th t)
theorem thrsT_succ (p : PD) (s : MS) (i : Nat) : thrsT p s (i + 1) = thrsT p s i ++ thrT (p.ts.getD i []) (s.th i) := by
 unfold thrsT
 rw [List.range_succ, List.flatMap_append]
 simp
theorem len_two {a c : Tx} {i : Nat} (h1 : a.length ≤ 1000) (h2 : c.length ≤ i * 200) (h3 : i ≤ 4) : (a ++ c).length ≤ 200000 := by
 have e : (a ++ c).length = a.length + c.length := List.length_append
 have : i * 200 ≤ 800 := Nat.mul_le_mul_right 200 h3
 omega
theorem len_succ {a c : Tx} {i : Nat} (h1 : a.length ≤ i * 200) (h2 : c.length ≤ 200) : (a ++ c).length ≤ (i + 1) * 200 := by
 have e : (a ++ c).length = a.length + c.length := List.length_append
 omega
theorem wrap_sm {i : Nat} (h : i ≤ 4) : wrap64 ((i : Int) + 1) = (i : Int) + 1 := by unfold wrap64; omega
theorem thrsT_zero (p : PD) (s : MS) : thrsT p s 0 = [] := rfl
def showM (p : PD) (s : MS) : Tx := linesS Lib.itoa p.vs s.vars p.vs.length ++ linesS Lib.itoa p.fs s.flags p.fs.length ++ linesS (holdT p.ts) p.ls s.locks p.ls.length ++ thrsT p s p.ts.length
structure Nm8 (p : PD) : Prop where
 v : ∀ k, (p.vs.getD k []).length ≤ 8
 f : ∀ k, (p.fs.getD k []).length ≤ 8
 l : ∀ k, (p.ls.getD k []).length ≤ 8
 t : ∀ k, (p.ts.getD k []).length ≤ 8
section
variable {w w' : World} {b B0 : Nat} {p : PD} {s : MS}
theorem val_getD {l : List Int} (h : ∀ v, v ∈ l → val3 v) (k : Nat) : 0 ≤ l.getD k 0 ∧ l.getD k 0 < 1000 := by
 by_cases e : k < l.length
 ·exact h _ (getD_mem e)
 ·rw [List.getD_eq_getElem?_getD, List.getElem?_eq_none (by omega)]
  exact ⟨by decide, by decide⟩
theorem lock_getD {l : List Int} {n : Nat} (h : ∀ v, v ∈ l → -1 ≤ v ∧ v < n) (hn : n ≤ 4) (k : Nat) : -1 ≤ l.getD k 0 ∧ l.getD k 0 < 4 := by
 by_cases e : k < l.length
 ·have := h _ (getD_mem (d := 0) e); omega
 ·rw [List.getD_eq_getElem?_getD, List.getElem?_eq_none (by omega)]
  exact ⟨by decide, by decide⟩
theorem holdT_len (h8 : ∀ k, (p.ts.getD k []).length ≤ 8) (n : Int) : (holdT p.ts n).length ≤ 21 := by
 unfold holdT
 split
 ·decide
 ·have := h8 n.toNat; omega
theorem thrT_len (h8 : ∀ k, (p.ts.getD k []).length ≤ 8) {n : Nat} {t : Nat} (hT : TOk n (s.th t)) (hn : n ≤ 24) : (thrT (p.ts.getD t []) (s.th t)).length ≤ 200 := by
 have a := h8 t
 have c := phaseT_len (s.th t) (by have := hT.pc2; omega)
 have d := regsT_len _ (regs_val hT) 4
 unfold thrT
 simp only [List.length_append, List.length_cons, List.length_nil]
 split
 ·simp only [List.length_nil]; omega
 ·omega
set_option maxRecDepth 100000 in
set_option maxHeartbeats 2000000 in
theorem show_any (h : MachW w b p s) (hf : PFit4 p) (hM : MOkP p s) (hN : Nm8 p) (ht : Tabs w B0) (hB0 : B0 ≤ w.heap.size) :
 Calls Tryz.prog 14 #[ptrV b] w fun e w' => e = .returned (.string (bs (showM p s))) ∧ Below w.heap.size w w' := by
 have hbB := h.lt
 obtain ⟨W1, hW1⟩ : ∃ W1, w.alloc (.cells #[.pointer none, .slice none 0 0] 101) = W1 := ⟨_, rfl⟩
 have hB1 : Below w.heap.size w W1 := by rw [← hW1]; exact (Below.refl _ _).alloc (Nat.le_refl _) _
 have hw1 : BW W1 w.heap.size w.heap.size [] := by rw [← hW1]; exact BW.fresh w
 have hm := fun (w' : World) (hb : Below w.heap.size w w') => (h.same (hb.block b hbB) : MachW w' b p s)
 have htb := fun (w' : World) (hb : Below w.heap.size w w') => (ht.keep (hb.mono hB0))
 have iv : ∀ k, 0 ≤ s.vars.getD k 0 ∧ s.vars.getD k 0 < 1000 := val_getD hM.vv
 have if_ : ∀ k, 0 ≤ s.flags.getD k 0 ∧ s.flags.getD k 0 < 1000 := val_getD hM.fv
 have il : ∀ k, -1 ≤ s.locks.getD k 0 ∧ s.locks.getD k 0 < 4 := lock_getD hM.lv hf.fit.four
 have L1 := linesS_len Lib.itoa p.vs s.vars p.vs.length hN.v (fun k => itoa_sm (iv k).1 (iv k).2)
 have L2 := linesS_len Lib.itoa p.fs s.flags p.fs.length hN.f (fun k => itoa_sm (if_ k).1 (if_ k).2)
 have L3 := linesS_len (holdT p.ts) p.ls s.locks p.ls.length hN.l (fun k => holdT_len hN.t _)
 have b1 := hf.v
 have b2 := hf.f
 have b3 := hf.l
 have b4 : p.ts.length ≤ 4 := by rw [hf.tc]; exact hf.fit.four
 obtain ⟨t1, ht1⟩ : ∃ t1, linesS Lib.itoa p.vs s.vars p.vs.length = t1 := ⟨_, rfl⟩
 obtain ⟨t2, ht2⟩ : ∃ t2, linesS Lib.itoa p.fs s.flags p.fs.length = t2 := ⟨_, rfl⟩
 obtain ⟨t3, ht3⟩ : ∃ t3, linesS (holdT p.ts) p.ls s.locks p.ls.length = t3 := ⟨_, rfl⟩
 have hS1 : ∀ (w' : World) (out : Tx), Below w.heap.size w w' → BW w' w.heap.size w.heap.size out → out.length ≤ 100000 → Calls Tryz.prog 32 #[ptrV w.heap.size, .pointer (some ⟨b, 0, none⟩), .func (.func 33) #[] #[]] w' fun e w'' => e = .returned (.tuple #[]) ∧ BW w'' w.heap.size w.heap.size (out ++ t1) ∧ Below w.heap.size w' w'' := fun w' out hb hw hl => by
  rw [← ht1]
  exact showNum_any (o := 0) (T := Lib.itoa) (hm w' hb) hbB hw hb.size (.inl rfl) b1 hN.v hl (fun k => itoa_sm (iv k).1 (iv k).2) (fun w2 h2 i _ => itoa_any _ (by have := (iv i).1; show -9223372036854775808 ≤ s.vars.getD i 0; omega) (by have := (iv i).2; show s.vars.getD i 0 ≤ 9223372036854775807; omega) w2 (htb w2 (hb.trans h2)))
 have hS2 : ∀ (w' : World) (out : Tx), Below w.heap.size w w' → BW w' w.heap.size w.heap.size out → out.length ≤ 100000 → Calls Tryz.prog 32 #[ptrV w.heap.size, .pointer (some ⟨b, 9, none⟩), .func (.func 33) #[] #[]] w' fun e w'' => e = .returned (.tuple #[]) ∧ BW w'' w.heap.size w.heap.size (out ++ t2) ∧ Below w.heap.size w' w'' := fun w' out hb hw hl => by
  rw [← ht2]
  exact showNum_any (o := 9) (T := Lib.itoa) (hm w' hb) hbB hw hb.size (.inr (.inl rfl)) b2 hN.f hl (fun k => itoa_sm (if_ k).1 (if_ k).2) (fun w2 h2 i _ => itoa_any _ (by have := (if_ i).1; show -9223372036854775808 ≤ s.flags.getD i 0; omega) (by have := (if_ i).2; show s.flags.getD i 0 ≤ 9223372036854775807; omega) w2 (htb w2 (hb.trans h2)))
 have hS3 : ∀ (w' : World) (out : Tx), Below w.heap.size w w' → BW w' w.heap.size w.heap.size out → out.length ≤ 100000 → Calls Tryz.prog 32 #[ptrV w.heap.size, .pointer (some ⟨b, 18, none⟩), .func (.func 34) #[ptrV b] #[]] w' fun e w'' => e = .returned (.tuple #[]) ∧ BW w'' w.heap.size w.heap.size (out ++ t3) ∧ Below w.heap.size w' w'' := fun w' out hb hw hl => by
  rw [← ht3]
  exact showHold_any (o := 18) (T := holdT p.ts) (hm w' hb) hbB hw hb.size (.inr (.inr rfl)) b3 hN.l hl (fun k => holdT_len hN.t _) (fun w2 h2 i _ => (holder_any (hm w2 (hb.trans h2)) (s.locks.getD i 0) (il i).1 (il i).2).mono (fun e w3 q => ⟨q.1, by rw [q.2]; exact Below.refl _ _⟩))
 have hS4 : ∀ (w' : World) (out : Tx) (t : Nat), t < p.ts.length → Below w.heap.size w w' → BW w' w.heap.size w.heap.size out → out.length ≤ 200000 → Calls Tryz.prog 35 #[ptrV w.heap.size, .pointer (some ⟨b, 27 + t * 207, none⟩)] w' fun e w'' => e = .returned (.tuple #[]) ∧ BW w'' w.heap.size w.heap.size (out ++ thrT (p.ts.getD t []) (s.th t)) ∧ Below w.heap.size w' w'' := fun w' out t htt hb hw hl =>
  showThread_any (hm w' hb) hbB hw hb.size (by omega) (htb w' hb) hB0 (hM.th t (by rw [← hf.tc]; exact htt)) (hf.fit.code _ (getD_mem (by rw [← hf.tc]; exact htt))).1 (hN.t t) hl
 have hTl : ∀ t, t < p.ts.length → (thrT (p.ts.getD t []) (s.th t)).length ≤ 200 := fun t htt => thrT_len hN.t (hM.th t (by rw [← hf.tc]; exact htt)) (hf.fit.code _ (getD_mem (by rw [← hf.tc]; exact htt))).1
 have hcnt := fun (w' : World) (hb : Below w.heap.size w w') => mach_cnt (hm w' hb)
 have hsh : showM p s = t1 ++ t2 ++ t3 ++ thrsT p s p.ts.length := by unfold showM; rw [ht1, ht2, ht3]
 rw [hsh]
 rw [ht1] at L1
 rw [ht2] at L2
 rw [ht3] at L3
 have hA1 := hS1 W1 [] hB1 hw1 (Nat.zero_le _)
 rw [List.nil_append] at hA1
 replace hS1 := hide hS1
 replace hS2 := hide hS2
 replace hS3 := hide hS3
 replace hS4 := hide hS4
 replace hTl := hide hTl
 replace hcnt := hide hcnt
 have HB1 := hide hB1
 clear h hf hM hN ht hw1 hm htb iv if_ il ht1 ht2 ht3 hsh hB1 hS1
 unfold ptrV at hA1 ⊢
 go_enter Tryz.func14, Tryz.ntmps14
 go_wp2_with fail
 try rw [hW1]
 refine hA1.mono ?_
 rintro e w2 ⟨rfl, hw2, hb2⟩
 have hB2 := HB1.out.trans hb2
 have hA2 := hS2.out w2 t1 hB2 hw2 (by omega)
 have HB2 := hide hB2
 clear hA1 hw2 hb2 hB2 HB1 hS2 hW1
 unfold ptrV at hA2
 go_wp2_with fail
 refine hA2.mono ?_
 rintro e w3 ⟨rfl, hw3, hb3⟩
 have hB3 := HB2.out.trans hb3
 have hA3 := hS3.out w3 (t1 ++ t2) hB3 hw3 (by rw [List.length_append]; omega)
 have HB3 := hide hB3
 clear hA2 hw3 hb3 hB3 HB2 hS3
 unfold ptrV at hA3
 go_wp2_with fail
 refine hA3.mono ?_
 rintro e w4 ⟨rfl, hw4, hb4⟩
 have hB4 := HB3.out.trans hb4
 have c8 := hcnt.out w4 hB4
 obtain ⟨o4, ho4⟩ : ∃ o4, t1 ++ t2 ++ t3 = o4 := ⟨_, rfl⟩
 have hol : o4.length ≤ 1000 := by rw [← ho4, List.length_append, List.length_append]; omega
 rw [ho4] at hw4
 have H4 := hide (⟨hw4, hB4⟩ : _ ∧ _)
 replace ho4 := hide ho4
 clear hA3 hw4 hb4 hB4 HB3 hcnt L1 L2 L3
 go_wp2_with fail
 go_loopw [23] (fun iv wr => ∃ i : Nat, i ≤ p.ts.length ∧ iv = .int .i64 i ∧ BW wr w.heap.size w.heap.size (o4 ++ thrsT p s i) ∧ (thrsT p s i).length ≤ i * 200 ∧ Below w.heap.size w wr) (fun iv _ => p.ts.length - (intOf iv).toNat)
 case atStart => exact ⟨0, Nat.zero_le _, rfl, (by rw [thrsT_zero, List.append_nil]; exact H4.out.1), (by rw [thrsT_zero]; exact Nat.zero_le _), H4.out.2⟩
 case round =>
  clear H4
  obtain ⟨i, hi, rfl, hS, hl, hB⟩ := hrel
  by_cases h5 : i < p.ts.length
  ·have hii : (i : Int) < 4 := by omega
   have hlt : (i : Int) < (p.ts.length : Int) := by omega
   have hle : (o4 ++ thrsT p s i).length ≤ 200000 := len_two hol hl (Nat.le_trans hi b4)
   have hA := hS4.out wr (o4 ++ thrsT p s i) i h5 hB hS hle
   clear hle
   have hsu := thrsT_succ p s i
   have htl := hTl.out i h5
   have hwi := wrap_sm (Nat.le_trans hi b4)
   have HB := hide (⟨hB, h5, hl, hsu, htl⟩ : _ ∧ _ ∧ _ ∧ _ ∧ _)
   clear hS hB h5 hl hi hsu htl hTl hS4
   unfold ptrV at hA
   go_wp2_with fail
   refine hA.mono ?_
   rintro e w5 ⟨rfl, hw5, hb5⟩
   have HN := hide (⟨hw5, HB.out.1.trans hb5⟩ : _ ∧ _)
   clear hA hw5 hb5
   go_wp2_with fail
   go_roundw
   case rel =>
    (try rw [hwi])
    obtain ⟨-, h5, hl, hsu, htl⟩ := HB.out
    refine ⟨i + 1, h5, rfl, ?_, ?_, HN.out.2⟩
    ·rw [hsu, ← List.append_assoc]; exact HN.out.1
    ·rw [hsu]; exact len_succ hl htl
   case measure =>
    (try rw [hwi])
    exact Nat.sub_lt_sub_left HB.out.2.1 (Nat.lt_succ_self i)
  ·have hil : i = p.ts.length := by omega
   subst hil
   have hA := bDone_any hS hB.size
   have HB := hide hB
   clear hS hB hl hi h5 hS4 hTl
   unfold ptrV at hA
   go_wp2_with fail
   refine hA.mono ?_
   rintro e w5 ⟨rfl, hb5⟩
   have HN := hide (HB.out.trans hb5)
   clear hA hb5 HB
   go_wp2_with fail
   go_ret
   exact ⟨by rw [ho4.out]; rfl, HN.out⟩
end
end Go.Proofs.YtcfpedjfofpnkaaGreatDoor
namespace Go.Proofs.YtcfpedjfofpnkaaGreatDoor
open Go.RowKit Go.Proofs.Cod
section
variable {w w' : World} {b : Nat} {p : PD} {s : MS}
theorem insF_one (i : In7) (j : Nat) : (insF i j).oneCell' = true := by
 unfold insF
 repeat' split
 all_goals rfl
theorem doV_one (op : Tx) : (doV op).oneCell' = true := by unfold doV; split <;> rfl
theorem deedV_one (i : In7) (j : Nat) : (deedV i j).oneCell' = true := by
 unfold deedV
 split
 ·exact insF_one i j
 ·exact doV_one i.op
theorem thrF_one (nm : Tx) (c : Option (List In7)) (th : TS) (j : Nat) : (thrF nm c th j).oneCell' = true := by
 unfold thrF
 split
 ·rfl
 ·split
  ·rfl
  ·split
   ·rfl
   ·split
    ·rfl
    ·unfold deedF
     split
     ·exact deedV_one _ _
     ·split
      ·exact deedV_one _ _
      ·split <;> exact deedV_one _ _
theorem cellsF_one (ns : List Tx) (l : List Int) (k : Nat) : (cellsF ns l k).oneCell' = true := by
 unfold cellsF
 split
 ·rfl
 ·split <;> rfl
theorem range_all (f : Nat → Value) (n : Nat) (hf : ∀ k, (f k).oneCell' = true) : ∀ v ∈ (((List.range n).map f).toArray).toList, v.oneCell' = true := by
 intro v hv
 simp only [List.mem_map] at hv
 obtain ⟨k, -, rfl⟩ := hv
 exact hf k
theorem RowF.fill {T n : Nat} {g f : Nat → Value} (h : RowF w b T n g) : RowF (w.setCells b 0 (((List.range n).map f).toArray).toList) b T n f := by
 refine (setCells_row _ 0 h (by simp)).congr fun k hk => ?_
 rw [if_pos (by simp; exact hk)]
 simp [List.getD_eq_getElem?_getD, hk]
end
section
variable {w w' : World} {b : Nat}
theorem Tryz.sizeCs : (Tryz.prog.info? 80).map (·.size) = some 9 := by kernel_rfl
def rowA (n : Nat) (f : Nat → Value) : Array Value := ((List.range n).map f).toArray
theorem rowA_size (n : Nat) (f : Nat → Value) : (rowA n f).size = n := by simp [rowA]
def cellsP (ns : List Tx) (v : Int) (i k : Nat) : Value := if k = 8 then .int .i64 ns.length else if k % 2 = 0 then .string (bs ((ns.take i).getD (k / 2) [])) else .int .i64 ((List.replicate i v).getD (k / 2) 0)
theorem cellsP_full (ns : List Tx) (v : Int) (k : Nat) : cellsP ns v ns.length k = cellsF ns (List.replicate ns.length v) k := by unfold cellsP cellsF; rw [List.take_length]
theorem take_getD {α : Type} (l : List α) (i k : Nat) (d : α) : (l.take i).getD k d = if k < i then l.getD k d else d := by
 rw [List.getD_eq_getElem?_getD, List.getElem?_take]
 split
 ·rw [List.getD_eq_getElem?_getD]
 ·rfl
theorem rep_getD (i k : Nat) (v d : Int) : (List.replicate i v).getD k d = if k < i then v else d := by
 rw [List.getD_eq_getElem?_getD, List.getElem?_replicate]
 split <;> rfl
theorem RowF.putCell {ns : List Tx} {v : Int} {i : Nat} {T : Nat} (h : RowF w b T 9 (cellsP ns v i)) (hi : i < 4) (hn : i < ns.length) : RowF ((w.setCell ⟨b, i * 2, none⟩ (.string (bs (ns.getD i [])))).setCell ⟨b, i * 2 + 1, none⟩ (.int .i64 v)) b T 9 (cellsP ns v (i + 1)) := by
 refine ((h.set _ _).set _ _).congr fun k hk => ?_
 unfold cellsP
 rw [take_getD, take_getD, rep_getD, rep_getD]
 by_cases e1 : k = i * 2 + 1
 ·subst e1
  rw [if_pos rfl, if_neg (by omega), if_neg (by omega), if_pos (by omega)]
 ·rw [if_neg e1]
  by_cases e2 : k = i * 2
  ·subst e2
   rw [if_pos rfl, if_neg (by omega), if_pos (by omega), if_pos (by omega), show i * 2 / 2 = i by omega]
  ·rw [if_neg e2]
   by_cases e8 : k = 8
   ·rw [if_pos e8, if_pos e8]
   ·rw [if_neg e8, if_neg e8]
    by_cases e3 : k % 2 = 0
    ·rw [if_pos e3, if_pos e3]
     by_cases e4 : k / 2 < i
     ·rw [if_pos e4, if_pos (by omega)]
     ·rw [if_neg e4, if_neg (by omega)]
    ·rw [if_neg e3, if_neg e3]
     by_cases e4 : k / 2 < i
     ·rw [if_pos e4, if_pos (by omega)]
     ·rw [if_neg e4, if_neg (by omega)]
theorem row_val {P : Program} {fn : Func} {tmps : Array Value} {T k : Nat} {v : Value} (hr : fn.results = #[.cell k T]) (ht : tmps[k]? = some (.pointer (some ⟨b, 0, none⟩))) (hload : (loadVar T ⟨b, 0, none⟩).run P w = .ok v w) : (results fn tmps).run P w = .ok v w := by
 simp [results, hr, ht, asAddr, hload]
theorem RowF.new2 {f : Nat → Value} (w : World) (o : Obj) (cs : Array Value) (T : Nat) (hf : ∀ k, k < cs.size → cs[k]? = some (f k)) : RowF ((w.alloc o).alloc (.cells cs T)) (w.heap.size + 1) T cs.size f := by
 have q := RowF.new (f := f) (w.alloc o) cs T hf
 have e : (w.alloc o).heap.size = w.heap.size + 1 := by show (w.heap.push _).size = _; simp
 rw [e] at q
 exact q
set_option maxRecDepth 100000 in
set_option maxHeartbeats 1000000 in
theorem newCells_any {a : Option Addr} {n cap : Nat} {ns : List Tx} (hn : ns.length = n) (hs : Ws w a ns) (h4 : n ≤ 4) (v : Int) :
 Calls Tryz.prog 27 #[.slice a n cap, .int .i64 v] w fun e w' => e = .returned (.agg (rowA 9 (cellsF ns (List.replicate n v)))) ∧ Below w.heap.size w w' := by
 subst hn
 have hsz2 : (Tryz.prog.info? 80).map (·.size) = some (rowA 9 (cellsF ns (List.replicate ns.length v))).size := by rw [rowA_size]; exact Tryz.sizeCs
 obtain ⟨R, hR⟩ : ∃ R, rowA 9 (cellsF ns (List.replicate ns.length v)) = R := ⟨_, rfl⟩
 rw [hR] at hsz2 ⊢
 have h1 : ∀ x ∈ R.toList, x.oneCell' = true := by rw [← hR]; exact range_all _ 9 (cellsF_one _ _)
 have hRs : R.size = 9 := by rw [← hR, rowA_size]
 replace hsz2 := hide hsz2
 replace hR := hide hR
 replace h1 := hide h1
 replace hRs := hide hRs
 go_enter Tryz.func27, Tryz.ntmps27
 go_wp2_with fail
 go_loopw [13] (fun iv wr => ∃ i : Nat, i ≤ ns.length ∧ iv = .int .i64 i ∧ RowF wr (w.heap.size + 1) 80 9 (cellsP ns v i) ∧ (∃ g, RowF wr w.heap.size 80 9 g) ∧ Below w.heap.size w wr) (fun iv _ => ns.length - (intOf iv).toNat)
 case atStart =>
  refine ⟨0, Nat.zero_le _, rfl, ?_, ?_, ?_⟩
  ·have q := RowF.new2 (f := cellsP ns v 0) w (.cells #[.string ⟨#[]⟩, .int .i64 0, .string ⟨#[]⟩, .int .i64 0, .string ⟨#[]⟩, .int .i64 0, .string ⟨#[]⟩, .int .i64 0, .int .i64 0] 80) #[.string ⟨#[]⟩, .int .i64 0, .string ⟨#[]⟩, .int .i64 0, .string ⟨#[]⟩, .int .i64 0, .string ⟨#[]⟩, .int .i64 0, .int .i64 ns.length] 80 (fun k hk => by
    have : k = 0 ∨ k = 1 ∨ k = 2 ∨ k = 3 ∨ k = 4 ∨ k = 5 ∨ k = 6 ∨ k = 7 ∨ k = 8 := by simp only [List.size_toArray, List.length_cons, List.length_nil] at hk; omega
    rcases this with rfl | rfl | rfl | rfl | rfl | rfl | rfl | rfl | rfl <;> rfl)
   exact q
  ·refine ⟨fun k => if k = 8 then .int .i64 0 else if k % 2 = 0 then .string ⟨#[]⟩ else .int .i64 0, ?_⟩
   have q := RowF.new (f := fun k => if k = 8 then .int .i64 0 else if k % 2 = 0 then .string ⟨#[]⟩ else .int .i64 0) w #[.string ⟨#[]⟩, .int .i64 0, .string ⟨#[]⟩, .int .i64 0, .string ⟨#[]⟩, .int .i64 0, .string ⟨#[]⟩, .int .i64 0, .int .i64 0] 80 (fun k hk => by
    have : k = 0 ∨ k = 1 ∨ k = 2 ∨ k = 3 ∨ k = 4 ∨ k = 5 ∨ k = 6 ∨ k = 7 ∨ k = 8 := by simp only [List.size_toArray, List.length_cons, List.length_nil] at hk; omega
    rcases this with rfl | rfl | rfl | rfl | rfl | rfl | rfl | rfl | rfl <;> rfl)
   exact q.below ((Below.refl _ _).alloc (Nat.le_refl _) _)
  ·exact ((Below.refl _ _).alloc (Nat.le_refl _) _).alloc (by simp) _
 case round =>
  obtain ⟨i, hi, rfl, hC, hG, hB⟩ := hrel
  by_cases h5 : i < ns.length
  ·have hi4 : i < 4 := by omega
   have hii : (i : Int) < 4 := by omega
   obtain ⟨b, off, rfl, hbl, c0⟩ := hs i h5
   have c0 : wr.cell? ⟨b, off + i, none⟩ = _ := (hB.cell (p := ⟨b, off + i, none⟩) hbl).trans c0
   have hlt : (i : Int) < (ns.length : Int) := by omega
   have c1 := hC.cell (k := i * 2) (by omega)
   have c2 := hC.cell (k := i * 2 + 1) (by omega)
   have f1 := hC.frozen
   obtain ⟨y1, hy1⟩ : ∃ y, cellsP ns v i (i * 2) = y := ⟨_, rfl⟩
   obtain ⟨y2, hy2⟩ : ∃ y, cellsP ns v i (i * 2 + 1) = y := ⟨_, rfl⟩
   rw [hy1] at c1
   rw [hy2] at c2
   have hP := hC.putCell hi4 h5
   obtain ⟨nm, hnm⟩ : ∃ nm, ns.getD i [] = nm := ⟨_, rfl⟩
   rw [hnm] at hP c0
   have HN := hide (⟨hP, hC, hG, hB, h5⟩ : _ ∧ _ ∧ _ ∧ _ ∧ _)
   have hwi : wrap64 ((i : Int) + 1) = (i : Int) + 1 := by unfold wrap64; omega
   clear hC hG hB hy1 hy2 h5 hi hs hP hnm
   go_wp2_with fail
   go_roundw
   case rel =>
    (try rw [hwi])
    obtain ⟨hP, hC, ⟨g, hG⟩, hB, h5⟩ := HN.out
    refine ⟨i + 1, h5, rfl, hP, ⟨g, (hG.other (by show w.heap.size ≠ w.heap.size + 1; omega) _).other (by show w.heap.size ≠ w.heap.size + 1; omega) _⟩, ?_⟩
    exact (hB.setCell (by show w.heap.size ≤ w.heap.size + 1; omega) _).setCell (by show w.heap.size ≤ w.heap.size + 1; omega) _
   case measure =>
    (try rw [hwi])
    have := HN.out.2.2.2.2
    exact Nat.sub_lt_sub_left this (Nat.lt_succ_self i)
  ·have hil : i = ns.length := by omega
   subst hil
   obtain ⟨g, hG⟩ := hG
   have hC2 : RowF wr (w.heap.size + 1) 80 9 (cellsF ns (List.replicate ns.length v)) := hC.congr fun k _ => cellsP_full ns v k
   have hc : ∀ j, j < 9 → wr.cell? ⟨w.heap.size + 1, 0 + j, none⟩ = some (cellsF ns (List.replicate ns.length v) j) := fun j hj => by rw [Nat.zero_add]; exact hC2.cell hj
   have hc2 : ∀ j, j < R.size → (wr.cell? ⟨w.heap.size, 0 + j, none⟩).isSome = true := fun j hj => by rw [Nat.zero_add, hG.cell (by rw [← hRs.out]; exact hj)]; rfl
   have hc3 : ∀ j, j < R.size → wr.frozen? ⟨w.heap.size, 0 + j, none⟩ = false := fun j _ => hG.frozen _
   replace hc := hide hc
   replace hc2 := hide hc2
   replace hc3 := hide hc3
   have HN := hide (⟨hG, hB⟩ : _ ∧ _)
   clear hC hC2 hG hB hi hs h5
   go_wp2_with (first | (refine wpList_load_sub rfl _ _ rfl (w.heap.size + 1) 0 9 rfl (cellsF ns (List.replicate ns.length v)) _ hc.out Tryz.underlying80 rfl Tryz.sizeCs ?_; rw [show ((List.range 9).map (cellsF ns (List.replicate ns.length v))).toArray = R from hR.out]; simp only [Act.put, List.setIfInBounds_toArray, List.set_cons_succ, List.set_cons_zero]) | (refine wpList_store_sub rfl _ _ _ rfl w.heap.size 0 R rfl rfl hc2.out hc3.out hsz2.out h1.out ?_; simp only [Act.put, List.setIfInBounds_toArray, List.set_cons_succ, List.set_cons_zero]))
   obtain ⟨hG, hB⟩ := HN.out
   have q := setCells_keep (S := fun _ => False) (w := w) (b := w.heap.size) R.toList 0 (KeepS.ofBelow hB) (.inr (Nat.le_refl _))
   have hF : RowF (wr.setCells w.heap.size 0 R.toList) w.heap.size 80 9 (cellsF ns (List.replicate ns.length v)) := by rw [← hR.out]; exact hG.fill
   have hL := run_loadVar_sub (P := Tryz.prog) (wr.setCells w.heap.size 0 R.toList) w.heap.size 0 9 80 _ _ (fun j hj => by rw [Nat.zero_add]; exact hF.cell hj) Tryz.underlying80 rfl Tryz.sizeCs
   rw [show ((List.range 9).map (cellsF ns (List.replicate ns.length v))).toArray = R from hR.out] at hL
   exact bodyPost_ret (row_val rfl rfl hL) rfl ⟨rfl, ⟨q.os, q.tape, q.output, q.size, fun k hk => q.block k hk id⟩⟩
end
end Go.Proofs.YtcfpedjfofpnkaaGreatDoor
