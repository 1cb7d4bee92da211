import Derived.Test.YtcfpedjfofpnkaaGreatDoorRv5
import Derived.Test.YtcfpedjfofpnkaaGreatDoorRvR7
import Derived.Test.YtcfpedjfofpnkaaGreatDoorRvR1
import Derived.BigQuiet
import Derived.Test.YtcfpedjfofpnkaaGreatDoorRv28
set_option linter.unusedVariables false
set_option linter.unusedSimpArgs false
namespace Go.Proofs.YtcfpedjfofpnkaaGreatDoor
open Go.RowKit Go.Shelf Go.Proofs.Cod
def pdR (P : RP) : PD := ⟨P.vs, P.fs, P.ls, P.names, codeOf P⟩
theorem thrT_new {nm : Tx} {th : TS} (h : th.ph = 0) : thrT nm th = nm ++ [32, 110, 101, 119, 10] := by
 unfold thrT phaseT
 rw [if_pos h, if_neg (by omega), if_neg (by omega), if_neg (by omega)]; simp
theorem thrT_at {nm : Tx} {th : TS} (h : th.ph = 1) : thrT nm th = nm ++ [32, 97, 116, 32] ++ Lib.itoa th.pc ++ regsT th.regs 4 ++ [10] := by
 unfold thrT phaseT
 simp [h]
theorem thrT_ended {nm : Tx} {th : TS} (h : th.ph = 2) : thrT nm th = nm ++ [32, 101, 110, 100, 101, 100] ++ regsT th.regs 4 ++ [10] := by
 unfold thrT phaseT
 simp [h]
theorem thrT_failed {nm : Tx} {th : TS} (h : th.ph = 3) : thrT nm th = nm ++ [32, 102, 97, 105, 108, 101, 100] ++ regsT th.regs 4 ++ [10] := by
 unfold thrT phaseT
 simp [h]
section
variable {w w' : World} {a0 a1 a2 a3 a4 a5 : Option Addr} {nv nf nl nt nr : Nat} {m : MS} {P : RP} {TV : List (Value × Value)} {x1 x2 x3 x4 : Option Addr} {z1 z2 z3 z4 : Nat}
theorem names_get {P : RP} {t : Nat} {th : RTh} (h : P.thr[t]? = some th) : P.names.getD t [] = th.name := by
 unfold RP.names
 rw [List.getD_eq_getElem?_getD, List.getElem?_map, h]; rfl
set_option maxRecDepth 100000 in
set_option maxHeartbeats 8000000 in
theorem rshow_any {B : Nat} (ht : Tabs w B) (hB : B ≤ w.heap.size) {c0 c1 c2 c3 c4 c5 : Nat} (hQ : DView w (.slice x1 nv z1) (.slice x2 nf z2) (.slice x3 nl z3) (.slice x4 nt z4) P TV) (hnt : P.thr.length = nt) (h1 : P.vs.length = nv) (h2 : P.fs.length = nf) (h3 : P.ls.length = nl) (h : DocS w a0 a1 a2 a3 a4 a5 nv nf nl nt nr m) (hM : MOk nv nf nl (codeOf P) m) (hf : PFit4 (pdR P)) (hN : Nm8 (pdR P)) :
 Calls Tryz.prog 15 #[.agg #[.slice x1 nv z1, .slice x2 nf z2, .slice x3 nl z3, .slice x4 nt z4], .agg #[.slice a0 nv c0, .slice a1 nf c1, .slice a2 nl c2, .slice a3 nt c3, .slice a4 nt c4, .slice a5 nr c5]] w fun e w' => e = .returned (.string (bs (showM (pdR P) m))) ∧ Below w.heap.size w w' := by
 obtain ⟨W, hW⟩ : ∃ W, (w.alloc (.cells #[.slice x1 nv z1, .slice x2 nf z2, .slice x3 nl z3, .slice x4 nt z4] 29)).alloc (.cells #[.slice a0 nv c0, .slice a1 nf c1, .slice a2 nl c2, .slice a3 nt c3, .slice a4 nt c4, .slice a5 nr c5] 36) = W := ⟨_, rfl⟩
 obtain ⟨hBW, k1, k2, hz⟩ := two_new _ _ _ hW
 have hcl : (codeOf P).length = nt := by unfold codeOf; rw [List.length_map]; exact hnt
 have h4 : nt ≤ 4 := by have := hf.fit.four; have e : (pdR P).C.length = nt := hcl; omega
 have hv4 : nv ≤ 4 := by rw [← h1]; exact hf.v
 have hf4 : nf ≤ 4 := by rw [← h2]; exact hf.f
 have hl4 : nl ≤ 4 := by rw [← h3]; exact hf.l
 have hQW := hQ.below hBW
 have hDW := h.below hBW
 have htW := ht.keep (hBW.mono hB)
 have hBs : B ≤ W.heap.size := by have := hBW.size; omega
 have HCl : Hid (∀ u, Below W.heap.size W u → (u.cell? ⟨w.heap.size, 0, none⟩ = some (.slice x1 nv z1) ∧ u.cell? ⟨w.heap.size, 1, none⟩ = some (.slice x2 nf z2) ∧ u.cell? ⟨w.heap.size, 2, none⟩ = some (.slice x3 nl z3) ∧ u.cell? ⟨w.heap.size, 3, none⟩ = some (.slice x4 nt z4)) ∧ u.cell? ⟨w.heap.size + 1, 0, none⟩ = some (.slice a0 nv c0) ∧ u.cell? ⟨w.heap.size + 1, 1, none⟩ = some (.slice a1 nf c1) ∧ u.cell? ⟨w.heap.size + 1, 2, none⟩ = some (.slice a2 nl c2) ∧ u.cell? ⟨w.heap.size + 1, 3, none⟩ = some (.slice a3 nt c3) ∧ u.cell? ⟨w.heap.size + 1, 4, none⟩ = some (.slice a4 nt c4) ∧ u.cell? ⟨w.heap.size + 1, 5, none⟩ = some (.slice a5 nr c5)) := fun u hu => ⟨four_cells ((hu.block _ (by omega)).trans k1), six_cells ((hu.block _ (by omega)).trans k2)⟩
 have HI := hide (fun u (hu : Below W.heap.size W u) (x : Int) (h : -9223372036854775808 ≤ x) (h' : x ≤ 9223372036854775807) => itoa_any x h h' u (htW.keep (hu.mono hBs)))
 have V1 := hide (fun u (hu : Below W.heap.size W u) => values_any (cap := c0) (htW.keep (hu.mono hBs)) (by have := hu.size; omega) (c_belowS hQW.v hu) h1 hN.v (hDW.v.below hu) hDW.lv hv4 hM.vv)
 have V2 := hide (fun u (hu : Below W.heap.size W u) => values_any (cap := c1) (htW.keep (hu.mono hBs)) (by have := hu.size; omega) (c_belowS hQW.f hu) h2 hN.f (hDW.f.below hu) hDW.lf hf4 hM.fv)
 have hvk : ∀ (l : List Int), (∀ v, v ∈ l → val3 v) → ∀ k, val3 (l.getD k 0) := fun l hv k => by
  by_cases e : k < l.length
  ·exact hv _ (getD_mem e)
  ·rw [List.getD_eq_getElem?_getD, List.getElem?_eq_none (by omega)]; exact ⟨by decide, by decide⟩
 have L1 := linesS_len Lib.itoa P.vs m.vars nv hN.v (fun k => itoa_sm (hvk _ hM.vv k).1 (hvk _ hM.vv k).2)
 have L2 := linesS_len Lib.itoa P.fs m.flags nf hN.f (fun k => itoa_sm (hvk _ hM.fv k).1 (hvk _ hM.fv k).2)
 have hSh : showM (pdR P) m = linesS Lib.itoa P.vs m.vars nv ++ linesS Lib.itoa P.fs m.flags nf ++ linesS (holdT P.names) P.ls m.locks nl ++ thrsT (pdR P) m nt := by
  have e : (pdR P).ts.length = nt := by show P.names.length = nt; unfold RP.names; rw [List.length_map]; exact hnt
  unfold showM
  rw [e]
  show linesS Lib.itoa P.vs m.vars P.vs.length ++ linesS Lib.itoa P.fs m.flags P.fs.length ++ linesS (holdT P.names) P.ls m.locks P.ls.length ++ _ = _
  rw [h1, h2, h3]
 rw [hSh]
 obtain ⟨T1, hT1⟩ : ∃ T, linesS Lib.itoa P.vs m.vars nv = T := ⟨_, rfl⟩
 obtain ⟨T2, hT2⟩ : ∃ T, linesS Lib.itoa P.fs m.flags nf = T := ⟨_, rfl⟩
 rw [hT1] at L1
 rw [hT2] at L2
 simp only [hT1] at V1 ⊢
 simp only [hT2] at V2 ⊢
 have zA : ¬ 9223372036854775807 < (bs T1).size + (bs T2).size := sz_b (by omega)
 have aA : bs T1 ++ bs T2 = bs (T1 ++ T2) := bs_append _ _
 have LA : (T1 ++ T2).length ≤ 248 := by have e : (T1 ++ T2).length = T1.length + T2.length := List.length_append; omega
 generalize hTA : T1 ++ T2 = TA at *
 have hThl : ∀ i, i ≤ nt → (thrsT (pdR P) m i).length ≤ i * 200 := by
  intro i
  induction i with
  | zero => intro _; exact Nat.le_refl _
  | succ i ih =>
   intro hi
   rw [thrsT_succ]
   exact len_succ (ih (by omega)) (thrT_len (p := pdR P) hN.t (hM.th i (by omega)) (hf.fit.code _ (getD_mem (d := []) (by show i < (codeOf P).length; omega))).1)
 have thrs_len : Hid (∀ i, i ≤ nt → (thrsT (pdR P) m i).length ≤ 800) := fun i hi => by
  have := hThl i hi
  have e : i * 200 ≤ 4 * 200 := Nat.mul_le_mul_right 200 (by omega)
  omega
 have hf24 : Hid (∀ i, i < nt → (m.th i).pc ≤ 25) := fun i hi => by
  have q := (hM.th i (by omega)).pc2
  have q2 : ((codeOf P).getD i []).length ≤ 24 := (hf.fit.code _ (getD_mem (d := []) (by show i < (codeOf P).length; omega))).1
  omega
 clear hThl
 have HB := hide hBW
 have HM := hide (⟨hM, hDW, hQW, hN, hnt, h3, hcl, ⟨h4, hl4, LA⟩⟩ : _ ∧ _ ∧ _ ∧ _ ∧ _ ∧ _ ∧ _ ∧ _ ∧ _ ∧ _)
 have hd : Below W.heap.size W W.drew := ⟨rfl, rfl, rfl, Nat.le_refl _, fun _ _ => rfl⟩
 clear ht hB hQ hnt h1 h2 h3 h hM hf hN hBW k1 k2 hz hcl h4 hv4 hf4 hl4 hQW hDW htW hBs hvk L1 L2 hSh hT1 hT2 LA hTA
 go_enter Tryz.func15, Tryz.ntmps15
 go_upto_region 1 with fail
 try rw [hW]
 clear hW
 refine wp_region_held_drew (S := (fun u => (u.cell? ⟨w.heap.size, 0, none⟩ = some (.slice x1 nv z1) ∧ u.cell? ⟨w.heap.size, 1, none⟩ = some (.slice x2 nf z2) ∧ u.cell? ⟨w.heap.size, 2, none⟩ = some (.slice x3 nl z3) ∧ u.cell? ⟨w.heap.size, 3, none⟩ = some (.slice x4 nt z4)) ∧ u.cell? ⟨w.heap.size + 1, 0, none⟩ = some (.slice a0 nv c0) ∧ u.cell? ⟨w.heap.size + 1, 1, none⟩ = some (.slice a1 nf c1) ∧ u.cell? ⟨w.heap.size + 1, 2, none⟩ = some (.slice a2 nl c2) ∧ u.cell? ⟨w.heap.size + 1, 3, none⟩ = some (.slice a3 nt c3) ∧ u.cell? ⟨w.heap.size + 1, 4, none⟩ = some (.slice a4 nt c4) ∧ u.cell? ⟨w.heap.size + 1, 5, none⟩ = some (.slice a5 nr c5))) (by kernel_rfl) (HCl.out _ hd) (fun hHeld => ?_)
 refine tk 0 hHeld ?_
 refine tk 1 hHeld ?_
 refine tk 2 hHeld ?_
 refine tk 3 hHeld ?_
 refine tk 5 hHeld ?_
 refine tk 6 hHeld ?_
 refine tk 7 hHeld ?_
 refine tk 8 hHeld ?_
 refine rd 4 (fun K hK => ?_)
 go_simp
 go_at_call 37
 refine (V1.out _ hd).mono ?_
 rintro e u1 ⟨rfl, hb1⟩
 replace hb1 : Below W.heap.size W u1 := hd.trans hb1
 have hq := hide (HCl.out u1 hb1)
 replace hb1 := hide hb1
 go_wp2_with fail
 refine hK.out _ _ hq.out (fun hHeld => ?_)
 clear hK K hq
 try simp only [Act.put, sq]
 refine rd 9 (fun K hK => ?_)
 go_simp
 go_at_call 37
 refine (V2.out _ hb1.out).mono ?_
 rintro e u2 ⟨rfl, hb2⟩
 replace hb2 : Below W.heap.size W u2 := hb1.out.trans (hb2.mono hb1.out.size)
 have hq := hide (HCl.out u2 hb2)
 replace hb2 := hide hb2
 go_wp2_with fail
 refine hK.out _ _ hq.out (fun hHeld => ?_)
 clear hK K hq
 try simp only [Act.put, sq]
 refine tk 10 hHeld ?_
 refine tk 11 hHeld ?_
 refine wpAnyH_done (by kernel_rfl) ?_ _
 clear hHeld V1 V2 zA aA hb1 hd
 go_wp2_with fail
 go_loopw [5, 6] (fun tv iv wr => ∃ i : Nat, i ≤ nl ∧ iv = .int .i64 i ∧ tv = .string (bs (TA ++ linesS (holdT P.names) P.ls m.locks i)) ∧ Below W.heap.size W wr) (fun _ iv _ => nl - (intOf iv).toNat)
 case atStart => exact ⟨0, Nat.zero_le _, rfl, by rw [show linesS (holdT P.names) P.ls m.locks 0 = [] from rfl, List.append_nil], hb2.out⟩
 case round =>
  obtain ⟨i, hi, rfl, rfl, hb⟩ := hrel
  clear hb2
  obtain ⟨⟨q0, q1, q2, q3⟩, s0, s1, s2, s3, s4, s5⟩ := HCl.out wr hb
  by_cases h5 : i < nl
  ·obtain ⟨hM, hDW, hQW, hN, hnt, h3, hcl, h4, hl4, LA⟩ := HM.out
   have hlt : (i : Int) < (nl : Int) := by omega
   have hD := hDW.below hb
   have hQ := hQW.below hb
   obtain ⟨lb, lo, e1, -, c1⟩ := is_at hD.l (i := i) (by rw [hD.ll]; exact h5)
   subst e1
   have hQl := hQ.l
   rw [h3] at hQl
   obtain ⟨na, nc, e2, hws⟩ := row_ws0 hQl h3
   injection e2 with e2 _ e2c
   subst e2
   clear e2c
   obtain ⟨nb, no, e3, -, c2⟩ := hws i (by omega)
   subst e3
   have hlv := hM.lv _ (getD_mem (d := 0) (by rw [hM.ll]; exact h5 : i < m.locks.length))
   have hLn := linesS_len (holdT P.names) P.ls m.locks i hN.l (fun k => by unfold holdT; split; (show (1 : Nat) ≤ 21; omega); exact Nat.le_trans (hN.t _) (by omega))
   have hsu := linesS_succ (holdT P.names) P.ls m.locks i
   have hnm := hN.l i
   have hnm : (P.ls.getD i []).length ≤ 8 := hnm
   obtain ⟨T, hT⟩ : ∃ T, TA ++ linesS (holdT P.names) P.ls m.locks i = T := ⟨_, rfl⟩
   have hTl : T.length ≤ 248 + 4 * 31 := by rw [← hT, List.length_append]; omega
   obtain ⟨nm, hnmq⟩ : ∃ x, P.ls.getD i [] = x := ⟨_, rfl⟩
   obtain ⟨v, hvq⟩ : ∃ v, m.locks.getD i 0 = v := ⟨_, rfl⟩
   rw [hnmq] at hnm hsu c2
   rw [hvq] at hlv hsu c1
   have hnx : TA ++ linesS (holdT P.names) P.ls m.locks (i + 1) = T ++ lineS nm (holdT P.names v) := by rw [hsu, ← List.append_assoc, hT]
   have z1 : ¬ 9223372036854775807 < (bs T).size + (bs nm).size := sz_b (by omega)
   have b1 : bs T ++ bs nm = bs (T ++ nm) := bs_append _ _
   have e4 : (T ++ nm).length = T.length + nm.length := List.length_append
   have z2 : ¬ 9223372036854775807 < (bs (T ++ nm)).size + 1 := sz_n (by omega)
   have b2 : bs (T ++ nm) ++ ⟨#[61]⟩ = bs (T ++ nm ++ [61]) := bs_append _ [61]
   have e5 : (T ++ nm ++ [61]).length = T.length + nm.length + 1 := by rw [List.length_append, e4]; rfl
   have hwi : wrap64 ((i : Int) + 1) = (i : Int) + 1 := wrap_sm (by omega)
   rw [hT]
   by_cases hv : v = -1
   ·subst hv
    have hho : holdT P.names (-1) = [45] := by unfold holdT; rw [if_pos rfl]
    rw [hho] at hnx
    have z3 : ¬ 9223372036854775807 < (bs (T ++ nm ++ [61])).size + 1 := sz_n (by omega)
    have b3 : bs (T ++ nm ++ [61]) ++ ⟨#[45]⟩ = bs (T ++ nm ++ [61] ++ [45]) := bs_append _ [45]
    have e6 : (T ++ nm ++ [61] ++ [45]).length = T.length + nm.length + 2 := by rw [List.length_append, e5]; rfl
    have z4 : ¬ 9223372036854775807 < (bs (T ++ nm ++ [61] ++ [45])).size + 1 := sz_n (by omega)
    have b4 : bs (T ++ nm ++ [61] ++ [45]) ++ ⟨#[10]⟩ = bs (T ++ nm ++ [61] ++ [45] ++ [10]) := bs_append _ [10]
    have hV : T ++ nm ++ [61] ++ [45] ++ [10] = TA ++ linesS (holdT P.names) P.ls m.locks (i + 1) := by rw [hnx]; unfold lineS; simp
    generalize T ++ nm ++ [61] ++ [45] ++ [10] = V4 at *
    generalize T ++ nm ++ [61] ++ [45] = V3 at *
    generalize T ++ nm ++ [61] = V2 at *
    generalize T ++ nm = V1 at *
    have HJ := hide (⟨hV, h5, hb⟩ : _ ∧ _ ∧ _)
    clear hi h5 hM hDW hQW hN hnt h3 hcl h4 hl4 LA hD hQ hQl hws hlv hLn hsu hnm hT hTl hnmq hvq hnx e4 e5 e6 hV hb hho HI HCl
    go_wp2_with fail
    go_roundw
    case rel =>
     (try rw [hwi])
     exact ⟨i + 1, HJ.out.2.1, rfl, by rw [HJ.out.1], HJ.out.2.2⟩
    case measure =>
     (try rw [hwi])
     exact Nat.sub_lt_sub_left HJ.out.2.1 (Nat.lt_succ_self i)
   ·obtain ⟨tn, rfl⟩ : ∃ tn : Nat, v = tn := ⟨v.toNat, by omega⟩
    have htl : tn < P.thr.length := by omega
    obtain ⟨th, hth⟩ : ∃ th, P.thr[tn]? = some th := ⟨_, List.getElem?_eq_getElem htl⟩
    obtain ⟨p, hp⟩ : ∃ p, TV[tn]? = some p := ⟨_, List.getElem?_eq_getElem (by rw [hQ.len]; exact htl)⟩
    obtain ⟨g, cap, hgv, -, ct, -⟩ := hQ.thrAt hth hp
    injection hgv with hga hgn hgc
    subst hga
    clear hgn hgc
    have hho : holdT P.names (tn : Int) = th.name := by unfold holdT; rw [if_neg hv, Int.toNat_natCast]; exact names_get hth
    rw [hho] at hnx
    have hw8 := hN.t tn
    have hw8 : (P.names.getD tn []).length ≤ 8 := hw8
    rw [names_get hth] at hw8
    obtain ⟨wt, hwt⟩ : ∃ x, th.name = x := ⟨_, rfl⟩
    rw [hwt] at hnx hw8 ct
    have htn : (tn : Int) < (nt : Int) := by omega
    have z3 : ¬ 9223372036854775807 < (bs (T ++ nm ++ [61])).size + (bs wt).size := sz_b (by omega)
    have b3 : bs (T ++ nm ++ [61]) ++ bs wt = bs (T ++ nm ++ [61] ++ wt) := bs_append _ _
    have e6 : (T ++ nm ++ [61] ++ wt).length = T.length + nm.length + 1 + wt.length := by rw [List.length_append, e5]
    have z4 : ¬ 9223372036854775807 < (bs (T ++ nm ++ [61] ++ wt)).size + 1 := sz_n (by omega)
    have b4 : bs (T ++ nm ++ [61] ++ wt) ++ ⟨#[10]⟩ = bs (T ++ nm ++ [61] ++ wt ++ [10]) := bs_append _ [10]
    have hV : T ++ nm ++ [61] ++ wt ++ [10] = TA ++ linesS (holdT P.names) P.ls m.locks (i + 1) := by rw [hnx]; unfold lineS; simp
    generalize T ++ nm ++ [61] ++ wt ++ [10] = V4 at *
    generalize T ++ nm ++ [61] ++ wt = V3 at *
    generalize T ++ nm ++ [61] = V2 at *
    generalize T ++ nm = V1 at *
    have HJ := hide (⟨hV, h5, hb⟩ : _ ∧ _ ∧ _)
    clear hi h5 hM hDW hQW hN hnt h3 hcl h4 hl4 LA hD hQ hQl hws hlv hLn hsu hnm hT hTl hnmq hvq hnx e4 e5 e6 hV hb hho HI HCl hv htl hth hp hw8 hwt
    go_wp2_with fail
    go_quiet (fail)
    go_wp2_with fail
    go_roundw
    case rel =>
     (try rw [hwi])
     exact ⟨i + 1, HJ.out.2.1, rfl, by rw [HJ.out.1], HJ.out.2.2.trans ⟨rfl, rfl, rfl, Nat.le_refl _, fun _ _ => rfl⟩⟩
    case measure =>
     (try rw [hwi])
     exact Nat.sub_lt_sub_left HJ.out.2.1 (Nat.lt_succ_self i)
  ·have hil : i = nl := by omega
   subst hil
   obtain ⟨TB, hTB⟩ : ∃ T, TA ++ linesS (holdT P.names) P.ls m.locks i = T := ⟨_, rfl⟩
   rw [hTB]
   have hLB : TB.length ≤ 248 + 4 * 31 := by
    obtain ⟨hM, hDW, hQW, hN, hnt, h3, hcl, h4, hl4, LA⟩ := HM.out
    have hLn := linesS_len (holdT P.names) P.ls m.locks i hN.l (fun k => by unfold holdT; split; (show (1 : Nat) ≤ 21; omega); exact Nat.le_trans (hN.t _) (by omega))
    rw [← hTB, List.length_append]; omega
   have HLB := hide hLB
   have HTB := hide hTB
   have HB0 := hide hb
   clear hi h5 hb hTB hLB
   go_wp2_with fail
   clear q0 q1 q2 q3 s0 s1 s2 s3 s4 s5
   go_loopw [5, 8] (fun tv iv wr => ∃ i : Nat, i ≤ nt ∧ iv = .int .i64 i ∧ tv = .string (bs (TB ++ thrsT (pdR P) m i)) ∧ Below W.heap.size W wr) (fun _ iv _ => nt - (intOf iv).toNat)
   case atStart => exact ⟨0, Nat.zero_le _, rfl, by rw [thrsT_zero, List.append_nil], HB0.out⟩
   case round =>
    obtain ⟨i, hi, rfl, rfl, hb⟩ := hrel
    clear HB0
    obtain ⟨⟨q0, q1, q2, q3⟩, s0, s1, s2, s3, s4, s5⟩ := HCl.out wr hb
    by_cases h5 : i < nt
    ·obtain ⟨hM, hDW, hQW, hN, hnt, h3, hcl, h4, hl4, LA⟩ := HM.out
     have hlt : (i : Int) < (nt : Int) := by omega
     have hD := hDW.below hb
     have hQ := hQW.below hb
     have htl : i < P.thr.length := by omega
     obtain ⟨th, hth⟩ : ∃ th, P.thr[i]? = some th := ⟨_, List.getElem?_eq_getElem htl⟩
     obtain ⟨p, hp⟩ : ∃ p, TV[i]? = some p := ⟨_, List.getElem?_eq_getElem (by rw [hQ.len]; exact htl)⟩
     obtain ⟨g, cap, hgv, -, ct, -⟩ := hQ.thrAt hth hp
     injection hgv with hga hgn hgc
     subst hga
     clear hgn hgc
     obtain ⟨sb, so, es, -, cs⟩ := hD.phAt h5
     subst es
     obtain ⟨ab, ao, ea, -, cp⟩ := hD.pcAt h5
     subst ea
     have hTh := hM.th i (by rw [hcl]; exact h5)
     have hph4 := hTh.ph
     have hw8 := hN.t i
     have hw8 : (P.names.getD i []).length ≤ 8 := hw8
     rw [names_get hth] at hw8
     have hsu := thrsT_succ (pdR P) m i
     have hsu : thrsT (pdR P) m (i + 1) = thrsT (pdR P) m i ++ thrT (P.names.getD i []) (m.th i) := hsu
     rw [names_get hth] at hsu
     have hTsl := thrs_len.out i hi
     obtain ⟨T, hT⟩ : ∃ T, TB ++ thrsT (pdR P) m i = T := ⟨_, rfl⟩
     have hTl : T.length ≤ 248 + 4 * 31 + 800 := by rw [← hT, List.length_append]; have := HLB.out; omega
     obtain ⟨nm, hnm⟩ : ∃ x, th.name = x := ⟨_, rfl⟩
     rw [hnm] at hw8 hsu ct
     have hnx : TB ++ thrsT (pdR P) m (i + 1) = T ++ thrT nm (m.th i) := by rw [hsu, ← List.append_assoc, hT]
     have z1 : ¬ 9223372036854775807 < (bs T).size + (bs nm).size := sz_b (by omega)
     have b1 : bs T ++ bs nm = bs (T ++ nm) := bs_append _ _
     have e4 : (T ++ nm).length = T.length + nm.length := List.length_append
     have Hwi : Hid (wrap64 ((i : Int) + 1) = (i : Int) + 1) := wrap_sm (by omega)
     rw [hT]
     clear hTsl
     have hphc : (m.th i).ph = 0 ∨ (m.th i).ph = 1 ∨ (m.th i).ph = 2 ∨ (m.th i).ph = 3 := by omega
     clear hph4
     rcases hphc with hph | hph | hph | hph
     ·rw [thrT_new hph] at hnx
      have z2 : ¬ 9223372036854775807 < (bs (T ++ nm)).size + 5 := sz_n (by omega)
      have b2 : bs (T ++ nm) ++ ⟨#[32, 110, 101, 119, 10]⟩ = bs (T ++ nm ++ [32, 110, 101, 119, 10]) := bs_append _ [32, 110, 101, 119, 10]
      have e5 : (T ++ nm ++ [32, 110, 101, 119, 10]).length = T.length + nm.length + 5 := by rw [List.length_append, e4]; rfl
      rw [hph] at cs
      have hV : T ++ nm ++ [32, 110, 101, 119, 10] = TB ++ thrsT (pdR P) m (i + 1) := by rw [hnx]; simp
      generalize T ++ nm ++ [32, 110, 101, 119, 10] = V2 at *
      generalize T ++ nm = V1 at *
      have HJ := hide (⟨hV, h5, hb⟩ : _ ∧ _ ∧ _)
      clear hi h5 hM hDW hQW hN hnt h3 hcl h4 hl4 LA hD hQ hT hTl hsu hw8 hnm hnx e4 hb hth hp hTh htl e5 hV hph HI HCl cp
      have hwi := Hwi.out
      go_wp2_with fail
      go_roundw
      case rel =>
       (try rw [hwi])
       exact ⟨i + 1, HJ.out.2.1, rfl, by rw [HJ.out.1], HJ.out.2.2⟩
      case measure =>
       (try rw [hwi])
       exact Nat.sub_lt_sub_left HJ.out.2.1 (Nat.lt_succ_self i)
     ·rw [thrT_at hph] at hnx
      have z2 : ¬ 9223372036854775807 < (bs (T ++ nm)).size + 4 := sz_n (by omega)
      have b2 : bs (T ++ nm) ++ ⟨#[32, 97, 116, 32]⟩ = bs (T ++ nm ++ [32, 97, 116, 32]) := bs_append _ [32, 97, 116, 32]
      have e5 : (T ++ nm ++ [32, 97, 116, 32]).length = T.length + nm.length + 4 := by rw [List.length_append, e4]; rfl
      rw [hph] at cs
      have hpcb := hf24.out i h5
      have hit : (Lib.itoa ((m.th i).pc : Int)).length ≤ 21 := Lib.itoa_length_le _ (by omega) (by omega)
      have hI := HI.out wr hb ((m.th i).pc : Int) (by omega) (by omega)
      obtain ⟨pc, hpcq⟩ : ∃ q, (m.th i).pc = q := ⟨_, rfl⟩
      rw [hpcq] at hnx hit hI cp
      obtain ⟨it, hitq⟩ : ∃ x, Lib.itoa (pc : Int) = x := ⟨_, rfl⟩
      rw [hitq] at hnx hit hI
      have z3 : ¬ 9223372036854775807 < (bs (T ++ nm ++ [32, 97, 116, 32])).size + (bs it).size := sz_b (by omega)
      have b3 : bs (T ++ nm ++ [32, 97, 116, 32]) ++ bs it = bs (T ++ nm ++ [32, 97, 116, 32] ++ it) := bs_append _ _
      have e6 : (T ++ nm ++ [32, 97, 116, 32] ++ it).length = T.length + nm.length + 4 + it.length := by rw [List.length_append, e5]
      have hV : T ++ nm ++ [32, 97, 116, 32] ++ it ++ regsT (m.th i).regs 4 ++ [10] = TB ++ thrsT (pdR P) m (i + 1) := by rw [hnx]; simp
      have HV : Hid ((T ++ nm ++ [32, 97, 116, 32] ++ it).length ≤ 2000) := by show _ ≤ 2000; omega
      obtain ⟨rg, hrg0⟩ : ∃ r, (m.th i).regs = r := ⟨_, rfl⟩
      have rgl : Hid (∀ k, 0 ≤ rg.getD k 0 ∧ rg.getD k 0 < 1000) := fun k => by rw [← hrg0]; exact regs_val hTh k
      rw [hrg0] at hV
      have hrg := hide hrg0
      generalize T ++ nm ++ [32, 97, 116, 32] ++ it = V3 at *
      generalize T ++ nm ++ [32, 97, 116, 32] = V2 at *
      generalize T ++ nm = V1 at *
      have HB0 := hide hb
      have HT := hide h5
      have HJ0 := hide (⟨hV, h5⟩ : _ ∧ _)
      clear hi h5 hM hDW hQW hN hnt h3 hcl h4 hl4 LA hD hQ hT hTl hsu hw8 hnm hnx e4 hb hth hp hTh htl e5 e6 hV hph hpcb hit hpcq hitq hrg0
      go_wp2_with fail
      refine hI.mono ?_
      rintro e w8 ⟨rfl, hb8⟩
      have HJ := hide (⟨HJ0.out.1, HJ0.out.2, HB0.out.trans (hb8.mono HB0.out.size), trivial⟩ : _ ∧ _ ∧ _ ∧ True)
      clear hI hb8 HJ0 HB0 cp cs ct q0 q1 q2 q3 s0 s1 s2 s3 s4 s5
      go_wp2_with fail
      go_loopw [5, 9] (fun tv kv wz => ∃ k : Nat, k ≤ 4 ∧ kv = .int .i64 k ∧ tv = .string (bs (V3 ++ regsT rg k)) ∧ Below W.heap.size W wz) (fun _ kv _ => 4 - (intOf kv).toNat)
      case atStart => exact ⟨0, Nat.zero_le _, rfl, by rw [show regsT rg 0 = [] from rfl, List.append_nil], HJ.out.2.2.1⟩
      case round =>
       obtain ⟨k, hk4, rfl, rfl, hb9⟩ := hrel
       obtain ⟨⟨q0, q1, q2, q3⟩, s0, s1, s2, s3, s4, s5⟩ := HCl.out wr hb9
       have hRl := regsT_len rg rgl.out k
       by_cases hk5 : k < 4
       ·obtain ⟨hM, hDW, -, -, -, -, hcl, h4, -, -⟩ := HM.out
        have hD := hDW.below hb9
        obtain ⟨rb, ro, er, -, cr⟩ := hD.rgAt HT.out hk5
        subst er
        have hrv := rgl.out k
        rw [hrg.out] at cr
        have hrl := hD.lr
        obtain ⟨kk, hkk⟩ : ∃ q, i * 4 + k = q := ⟨_, rfl⟩
        obtain ⟨iq, hiq⟩ : ∃ q, i * 4 = q := ⟨_, rfl⟩
        rw [hkk] at cr
        have hil := HT.out
        have hkn : (kk : Int) < (nr : Int) := by omega
        have hk4i : (k : Int) < 4 := by omega
        have Hw1 : Hid (wrap64 ((i : Int) * 4) = (iq : Int)) := by show wrap64 ((i : Int) * 4) = (iq : Int); rw [← hiq]; have := wrap_nat (n := i * 4) (by omega); push_cast at this ⊢; exact this
        have Hw2 : Hid (wrap64 ((iq : Int) + (k : Int)) = (kk : Int)) := by show wrap64 ((iq : Int) + (k : Int)) = (kk : Int); rw [← hkk, hiq]; have := wrap_nat (n := iq + k) (by omega); push_cast at this ⊢; exact this
        have hsu := regsT_succ rg k
        have hit := itoa_sm hrv.1 hrv.2
        have hI := HI.out wr hb9 (rg.getD k 0) (by have := hrv.1; omega) (by have := hrv.2; omega)
        obtain ⟨rv, hrvq⟩ : ∃ v, rg.getD k 0 = v := ⟨_, rfl⟩
        rw [hrvq] at cr hsu hit hI
        obtain ⟨it, hitq⟩ : ∃ x, Lib.itoa rv = x := ⟨_, rfl⟩
        rw [hitq] at hsu hit hI
        obtain ⟨Y, hY⟩ : ∃ Y, V3 ++ regsT rg k = Y := ⟨_, rfl⟩
        have hYl : Y.length ≤ 4000 := by rw [← hY, List.length_append]; have := HV.out; omega
        have z1 : ¬ 9223372036854775807 < (bs Y).size + 1 := sz_n (by omega)
        have b1 : bs Y ++ ⟨#[32]⟩ = bs (Y ++ [32]) := bs_append _ [32]
        have e4 : (Y ++ [32]).length = Y.length + 1 := by rw [List.length_append]; rfl
        have z2 : ¬ 9223372036854775807 < (bs (Y ++ [32])).size + (bs it).size := sz_b (by omega)
        have b2 : bs (Y ++ [32]) ++ bs it = bs (Y ++ [32] ++ it) := bs_append _ _
        have hZ : Y ++ [32] ++ it = V3 ++ regsT rg (k + 1) := by rw [hsu, ← hY]; simp
        generalize Y ++ [32] ++ it = Y2 at *
        generalize Y ++ [32] = Y1 at *
        have hwk : wrap64 ((k : Int) + 1) = (k : Int) + 1 := wrap_sm (by omega)
        have hw1 := Hw1.out
        have hw2 := Hw2.out
        clear Hw1 Hw2
        have HK := hide (⟨hZ, hk5, hb9⟩ : _ ∧ _ ∧ _)
        rw [hY]
        clear hk4 hk5 hM hDW hcl h4 hD hrv hrl hkk hiq hil hsu hRl hit hrvq hitq hY hYl e4 hZ hb9 q0 q1 q2 q3 s0 s1 s2 s3 s4
        go_wp2_with fail
        refine hI.mono ?_
        rintro e w9 ⟨rfl, hb10⟩
        have HB10 := hide (HK.out.2.2.trans (hb10.mono HK.out.2.2.size))
        clear hI hb10 cr s5
        go_wp2_with fail
        go_roundw
        case rel =>
         (try rw [hwk])
         exact ⟨k + 1, HK.out.2.1, rfl, by rw [HK.out.1], HB10.out⟩
        case measure =>
         (try rw [hwk])
         exact Nat.sub_lt_sub_left HK.out.2.1 (Nat.lt_succ_self k)
       ·have hke : k = 4 := by omega
        subst hke
        obtain ⟨Y, hY⟩ : ∃ Y, V3 ++ regsT rg 4 = Y := ⟨_, rfl⟩
        have hYl : Y.length ≤ 4000 := by rw [← hY, List.length_append]; have := HV.out; omega
        have z1 : ¬ 9223372036854775807 < (bs Y).size + 1 := sz_n (by omega)
        have b1 : bs Y ++ ⟨#[10]⟩ = bs (Y ++ [10]) := bs_append _ [10]
        have hZ : Y ++ [10] = TB ++ thrsT (pdR P) m (i + 1) := by rw [← hY]; exact HJ.out.1
        generalize Y ++ [10] = Y1 at *
        rw [hY]
        have HK := hide (⟨hZ, hb9⟩ : _ ∧ _)
        clear hk4 hk5 hY hRl hYl hZ hb9 q0 q1 q2 q3 s0 s1 s2 s3 s4 s5
        have hwi := Hwi.out
        go_wp2_with fail
        go_roundw
        case rel =>
         (try rw [hwi])
         exact ⟨i + 1, HJ.out.2.1, rfl, by rw [HK.out.1], HK.out.2⟩
        case measure =>
         (try rw [hwi])
         exact Nat.sub_lt_sub_left HJ.out.2.1 (Nat.lt_succ_self i)
     ·rw [thrT_ended hph] at hnx
      have z2 : ¬ 9223372036854775807 < (bs (T ++ nm)).size + 6 := sz_n (by omega)
      have b2 : bs (T ++ nm) ++ ⟨#[32, 101, 110, 100, 101, 100]⟩ = bs (T ++ nm ++ [32, 101, 110, 100, 101, 100]) := bs_append _ [32, 101, 110, 100, 101, 100]
      have e5 : (T ++ nm ++ [32, 101, 110, 100, 101, 100]).length = T.length + nm.length + 6 := by rw [List.length_append, e4]; rfl
      rw [hph] at cs
      have hV : T ++ nm ++ [32, 101, 110, 100, 101, 100] ++ regsT (m.th i).regs 4 ++ [10] = TB ++ thrsT (pdR P) m (i + 1) := by rw [hnx]; simp
      have HV : Hid ((T ++ nm ++ [32, 101, 110, 100, 101, 100]).length ≤ 2000) := by show _ ≤ 2000; omega
      obtain ⟨rg, hrg0⟩ : ∃ r, (m.th i).regs = r := ⟨_, rfl⟩
      have rgl : Hid (∀ k, 0 ≤ rg.getD k 0 ∧ rg.getD k 0 < 1000) := fun k => by rw [← hrg0]; exact regs_val hTh k
      rw [hrg0] at hV
      have hrg := hide hrg0
      generalize T ++ nm ++ [32, 101, 110, 100, 101, 100] = V2 at *
      generalize T ++ nm = V1 at *
      have HT := hide h5
      have HJ := hide (⟨hV, h5, hb, trivial⟩ : _ ∧ _ ∧ _ ∧ True)
      clear hi h5 hM hDW hQW hN hnt h3 hcl h4 hl4 LA hD hQ hT hTl hsu hw8 hnm hnx e4 hb hth hp hTh htl e5 hV hph hrg0 cp
      go_wp2_with fail
      clear cs ct q0 q1 q2 q3 s0 s1 s2 s3 s4 s5
      go_loopw [5, 9] (fun tv kv wz => ∃ k : Nat, k ≤ 4 ∧ kv = .int .i64 k ∧ tv = .string (bs (V2 ++ regsT rg k)) ∧ Below W.heap.size W wz) (fun _ kv _ => 4 - (intOf kv).toNat)
      case atStart => exact ⟨0, Nat.zero_le _, rfl, by rw [show regsT rg 0 = [] from rfl, List.append_nil], HJ.out.2.2.1⟩
      case round =>
       obtain ⟨k, hk4, rfl, rfl, hb9⟩ := hrel
       obtain ⟨⟨q0, q1, q2, q3⟩, s0, s1, s2, s3, s4, s5⟩ := HCl.out wr hb9
       have hRl := regsT_len rg rgl.out k
       by_cases hk5 : k < 4
       ·obtain ⟨hM, hDW, -, -, -, -, hcl, h4, -, -⟩ := HM.out
        have hD := hDW.below hb9
        obtain ⟨rb, ro, er, -, cr⟩ := hD.rgAt HT.out hk5
        subst er
        have hrv := rgl.out k
        rw [hrg.out] at cr
        have hrl := hD.lr
        obtain ⟨kk, hkk⟩ : ∃ q, i * 4 + k = q := ⟨_, rfl⟩
        obtain ⟨iq, hiq⟩ : ∃ q, i * 4 = q := ⟨_, rfl⟩
        rw [hkk] at cr
        have hil := HT.out
        have hkn : (kk : Int) < (nr : Int) := by omega
        have hk4i : (k : Int) < 4 := by omega
        have Hw1 : Hid (wrap64 ((i : Int) * 4) = (iq : Int)) := by show wrap64 ((i : Int) * 4) = (iq : Int); rw [← hiq]; have := wrap_nat (n := i * 4) (by omega); push_cast at this ⊢; exact this
        have Hw2 : Hid (wrap64 ((iq : Int) + (k : Int)) = (kk : Int)) := by show wrap64 ((iq : Int) + (k : Int)) = (kk : Int); rw [← hkk, hiq]; have := wrap_nat (n := iq + k) (by omega); push_cast at this ⊢; exact this
        have hsu := regsT_succ rg k
        have hit := itoa_sm hrv.1 hrv.2
        have hI := HI.out wr hb9 (rg.getD k 0) (by have := hrv.1; omega) (by have := hrv.2; omega)
        obtain ⟨rv, hrvq⟩ : ∃ v, rg.getD k 0 = v := ⟨_, rfl⟩
        rw [hrvq] at cr hsu hit hI
        obtain ⟨it, hitq⟩ : ∃ x, Lib.itoa rv = x := ⟨_, rfl⟩
        rw [hitq] at hsu hit hI
        obtain ⟨Y, hY⟩ : ∃ Y, V2 ++ regsT rg k = Y := ⟨_, rfl⟩
        have hYl : Y.length ≤ 4000 := by rw [← hY, List.length_append]; have := HV.out; omega
        have z1 : ¬ 9223372036854775807 < (bs Y).size + 1 := sz_n (by omega)
        have b1 : bs Y ++ ⟨#[32]⟩ = bs (Y ++ [32]) := bs_append _ [32]
        have e4 : (Y ++ [32]).length = Y.length + 1 := by rw [List.length_append]; rfl
        have z2 : ¬ 9223372036854775807 < (bs (Y ++ [32])).size + (bs it).size := sz_b (by omega)
        have b2 : bs (Y ++ [32]) ++ bs it = bs (Y ++ [32] ++ it) := bs_append _ _
        have hZ : Y ++ [32] ++ it = V2 ++ regsT rg (k + 1) := by rw [hsu, ← hY]; simp
        generalize Y ++ [32] ++ it = Y2 at *
        generalize Y ++ [32] = Y1 at *
        have hwk : wrap64 ((k : Int) + 1) = (k : Int) + 1 := wrap_sm (by omega)
        have hw1 := Hw1.out
        have hw2 := Hw2.out
        clear Hw1 Hw2
        have HK := hide (⟨hZ, hk5, hb9⟩ : _ ∧ _ ∧ _)
        rw [hY]
        clear hk4 hk5 hM hDW hcl h4 hD hrv hrl hkk hiq hil hsu hRl hit hrvq hitq hY hYl e4 hZ hb9 q0 q1 q2 q3 s0 s1 s2 s3 s4
        go_wp2_with fail
        refine hI.mono ?_
        rintro e w9 ⟨rfl, hb10⟩
        have HB10 := hide (HK.out.2.2.trans (hb10.mono HK.out.2.2.size))
        clear hI hb10 cr s5
        go_wp2_with fail
        go_roundw
        case rel =>
         (try rw [hwk])
         exact ⟨k + 1, HK.out.2.1, rfl, by rw [HK.out.1], HB10.out⟩
        case measure =>
         (try rw [hwk])
         exact Nat.sub_lt_sub_left HK.out.2.1 (Nat.lt_succ_self k)
       ·have hke : k = 4 := by omega
        subst hke
        obtain ⟨Y, hY⟩ : ∃ Y, V2 ++ regsT rg 4 = Y := ⟨_, rfl⟩
        have hYl : Y.length ≤ 4000 := by rw [← hY, List.length_append]; have := HV.out; omega
        have z1 : ¬ 9223372036854775807 < (bs Y).size + 1 := sz_n (by omega)
        have b1 : bs Y ++ ⟨#[10]⟩ = bs (Y ++ [10]) := bs_append _ [10]
        have hZ : Y ++ [10] = TB ++ thrsT (pdR P) m (i + 1) := by rw [← hY]; exact HJ.out.1
        generalize Y ++ [10] = Y1 at *
        rw [hY]
        have HK := hide (⟨hZ, hb9⟩ : _ ∧ _)
        clear hk4 hk5 hY hRl hYl hZ hb9 q0 q1 q2 q3 s0 s1 s2 s3 s4 s5
        have hwi := Hwi.out
        go_wp2_with fail
        go_roundw
        case rel =>
         (try rw [hwi])
         exact ⟨i + 1, HJ.out.2.1, rfl, by rw [HK.out.1], HK.out.2⟩
        case measure =>
         (try rw [hwi])
         exact Nat.sub_lt_sub_left HJ.out.2.1 (Nat.lt_succ_self i)
     ·rw [thrT_failed hph] at hnx
      have z2 : ¬ 9223372036854775807 < (bs (T ++ nm)).size + 7 := sz_n (by omega)
      have b2 : bs (T ++ nm) ++ ⟨#[32, 102, 97, 105, 108, 101, 100]⟩ = bs (T ++ nm ++ [32, 102, 97, 105, 108, 101, 100]) := bs_append _ [32, 102, 97, 105, 108, 101, 100]
      have e5 : (T ++ nm ++ [32, 102, 97, 105, 108, 101, 100]).length = T.length + nm.length + 7 := by rw [List.length_append, e4]; rfl
      rw [hph] at cs
      have hV : T ++ nm ++ [32, 102, 97, 105, 108, 101, 100] ++ regsT (m.th i).regs 4 ++ [10] = TB ++ thrsT (pdR P) m (i + 1) := by rw [hnx]; simp
      have HV : Hid ((T ++ nm ++ [32, 102, 97, 105, 108, 101, 100]).length ≤ 2000) := by show _ ≤ 2000; omega
      obtain ⟨rg, hrg0⟩ : ∃ r, (m.th i).regs = r := ⟨_, rfl⟩
      have rgl : Hid (∀ k, 0 ≤ rg.getD k 0 ∧ rg.getD k 0 < 1000) := fun k => by rw [← hrg0]; exact regs_val hTh k
      rw [hrg0] at hV
      have hrg := hide hrg0
      generalize T ++ nm ++ [32, 102, 97, 105, 108, 101, 100] = V2 at *
      generalize T ++ nm = V1 at *
      have HT := hide h5
      have HJ := hide (⟨hV, h5, hb, trivial⟩ : _ ∧ _ ∧ _ ∧ True)
      clear hi h5 hM hDW hQW hN hnt h3 hcl h4 hl4 LA hD hQ hT hTl hsu hw8 hnm hnx e4 hb hth hp hTh htl e5 hV hph hrg0 cp
      go_wp2_with fail
      clear cs ct q0 q1 q2 q3 s0 s1 s2 s3 s4 s5
      go_loopw [5, 9] (fun tv kv wz => ∃ k : Nat, k ≤ 4 ∧ kv = .int .i64 k ∧ tv = .string (bs (V2 ++ regsT rg k)) ∧ Below W.heap.size W wz) (fun _ kv _ => 4 - (intOf kv).toNat)
      case atStart => exact ⟨0, Nat.zero_le _, rfl, by rw [show regsT rg 0 = [] from rfl, List.append_nil], HJ.out.2.2.1⟩
      case round =>
       obtain ⟨k, hk4, rfl, rfl, hb9⟩ := hrel
       obtain ⟨⟨q0, q1, q2, q3⟩, s0, s1, s2, s3, s4, s5⟩ := HCl.out wr hb9
       have hRl := regsT_len rg rgl.out k
       by_cases hk5 : k < 4
       ·obtain ⟨hM, hDW, -, -, -, -, hcl, h4, -, -⟩ := HM.out
        have hD := hDW.below hb9
        obtain ⟨rb, ro, er, -, cr⟩ := hD.rgAt HT.out hk5
        subst er
        have hrv := rgl.out k
        rw [hrg.out] at cr
        have hrl := hD.lr
        obtain ⟨kk, hkk⟩ : ∃ q, i * 4 + k = q := ⟨_, rfl⟩
        obtain ⟨iq, hiq⟩ : ∃ q, i * 4 = q := ⟨_, rfl⟩
        rw [hkk] at cr
        have hil := HT.out
        have hkn : (kk : Int) < (nr : Int) := by omega
        have hk4i : (k : Int) < 4 := by omega
        have Hw1 : Hid (wrap64 ((i : Int) * 4) = (iq : Int)) := by show wrap64 ((i : Int) * 4) = (iq : Int); rw [← hiq]; have := wrap_nat (n := i * 4) (by omega); push_cast at this ⊢; exact this
        have Hw2 : Hid (wrap64 ((iq : Int) + (k : Int)) = (kk : Int)) := by show wrap64 ((iq : Int) + (k : Int)) = (kk : Int); rw [← hkk, hiq]; have := wrap_nat (n := iq + k) (by omega); push_cast at this ⊢; exact this
        have hsu := regsT_succ rg k
        have hit := itoa_sm hrv.1 hrv.2
        have hI := HI.out wr hb9 (rg.getD k 0) (by have := hrv.1; omega) (by have := hrv.2; omega)
        obtain ⟨rv, hrvq⟩ : ∃ v, rg.getD k 0 = v := ⟨_, rfl⟩
        rw [hrvq] at cr hsu hit hI
        obtain ⟨it, hitq⟩ : ∃ x, Lib.itoa rv = x := ⟨_, rfl⟩
        rw [hitq] at hsu hit hI
        obtain ⟨Y, hY⟩ : ∃ Y, V2 ++ regsT rg k = Y := ⟨_, rfl⟩
        have hYl : Y.length ≤ 4000 := by rw [← hY, List.length_append]; have := HV.out; omega
        have z1 : ¬ 9223372036854775807 < (bs Y).size + 1 := sz_n (by omega)
        have b1 : bs Y ++ ⟨#[32]⟩ = bs (Y ++ [32]) := bs_append _ [32]
        have e4 : (Y ++ [32]).length = Y.length + 1 := by rw [List.length_append]; rfl
        have z2 : ¬ 9223372036854775807 < (bs (Y ++ [32])).size + (bs it).size := sz_b (by omega)
        have b2 : bs (Y ++ [32]) ++ bs it = bs (Y ++ [32] ++ it) := bs_append _ _
        have hZ : Y ++ [32] ++ it = V2 ++ regsT rg (k + 1) := by rw [hsu, ← hY]; simp
        generalize Y ++ [32] ++ it = Y2 at *
        generalize Y ++ [32] = Y1 at *
        have hwk : wrap64 ((k : Int) + 1) = (k : Int) + 1 := wrap_sm (by omega)
        have hw1 := Hw1.out
        have hw2 := Hw2.out
        clear Hw1 Hw2
        have HK := hide (⟨hZ, hk5, hb9⟩ : _ ∧ _ ∧ _)
        rw [hY]
        clear hk4 hk5 hM hDW hcl h4 hD hrv hrl hkk hiq hil hsu hRl hit hrvq hitq hY hYl e4 hZ hb9 q0 q1 q2 q3 s0 s1 s2 s3 s4
        go_wp2_with fail
        refine hI.mono ?_
        rintro e w9 ⟨rfl, hb10⟩
        have HB10 := hide (HK.out.2.2.trans (hb10.mono HK.out.2.2.size))
        clear hI hb10 cr s5
        go_wp2_with fail
        go_roundw
        case rel =>
         (try rw [hwk])
         exact ⟨k + 1, HK.out.2.1, rfl, by rw [HK.out.1], HB10.out⟩
        case measure =>
         (try rw [hwk])
         exact Nat.sub_lt_sub_left HK.out.2.1 (Nat.lt_succ_self k)
       ·have hke : k = 4 := by omega
        subst hke
        obtain ⟨Y, hY⟩ : ∃ Y, V2 ++ regsT rg 4 = Y := ⟨_, rfl⟩
        have hYl : Y.length ≤ 4000 := by rw [← hY, List.length_append]; have := HV.out; omega
        have z1 : ¬ 9223372036854775807 < (bs Y).size + 1 := sz_n (by omega)
        have b1 : bs Y ++ ⟨#[10]⟩ = bs (Y ++ [10]) := bs_append _ [10]
        have hZ : Y ++ [10] = TB ++ thrsT (pdR P) m (i + 1) := by rw [← hY]; exact HJ.out.1
        generalize Y ++ [10] = Y1 at *
        rw [hY]
        have HK := hide (⟨hZ, hb9⟩ : _ ∧ _)
        clear hk4 hk5 hY hRl hYl hZ hb9 q0 q1 q2 q3 s0 s1 s2 s3 s4 s5
        have hwi := Hwi.out
        go_wp2_with fail
        go_roundw
        case rel =>
         (try rw [hwi])
         exact ⟨i + 1, HJ.out.2.1, rfl, by rw [HK.out.1], HK.out.2⟩
        case measure =>
         (try rw [hwi])
         exact Nat.sub_lt_sub_left HJ.out.2.1 (Nat.lt_succ_self i)
    ·have hil : i = nt := by omega
     subst hil
     have HF := hide (HB.out.trans (hb.mono HB.out.size))
     clear hi h5 hb HI HM
     go_wp2_with fail
     go_ret
     exact ⟨by rw [HTB.out]; rfl, HF.out⟩
end
structure Two (w : World) (base : Nat) (vV fV lV thV qv qf ql qt : Value) (vs fs ls : List Tx) (L : List (Tx × Value)) (C : List (List In7)) (P : RP) (TV : List (Value × Value)) (nv nf nl nt : Nat) : Prop where
 prog : ProgW w base vV fV lV thV vs fs ls L C
 doc : DView w qv qf ql qt P TV
 lv : vs.length = nv
 lf : fs.length = nf
 ll : ls.length = nl
 lt : L.length = nt
 pv : P.vs.length = nv
 pf : P.fs.length = nf
 pl : P.ls.length = nl
 pt : P.thr.length = nt
 code : codeOf P = C
 pd : pdR P = pdOf vs fs ls L C
 b : NewB vs fs ls L C
 fit : PFit4 (pdOf vs fs ls L C)
 n8 : Nm8 (pdOf vs fs ls L C)
 cl : C.length = nt
section
variable {w w' : World} {base : Nat} {vV fV lV thV qv qf ql qt : Value} {vs fs ls : List Tx} {L : List (Tx × Value)} {C : List (List In7)} {P : RP} {TV : List (Value × Value)} {nv nf nl nt : Nat}
theorem Two.below (h : Two w base vV fV lV thV qv qf ql qt vs fs ls L C P TV nv nf nl nt) (hb : Below w.heap.size w w') : Two w' base vV fV lV thV qv qf ql qt vs fs ls L C P TV nv nf nl nt := { h with prog := h.prog.below hb, doc := h.doc.below hb }
theorem Two.pfit (h : Two w base vV fV lV thV qv qf ql qt vs fs ls L C P TV nv nf nl nt) : PFit nv nf nl C := by
 have q := h.fit.fit
 have q : PFit vs.length fs.length ls.length C := q
 rw [h.lv, h.lf, h.ll] at q
 exact q
theorem Two.four (h : Two w base vV fV lV thV qv qf ql qt vs fs ls L C P TV nv nf nl nt) : nv ≤ 4 ∧ nf ≤ 4 ∧ nl ≤ 4 ∧ nt ≤ 4 := by
 have a : vs.length ≤ 4 := h.fit.v
 have b : fs.length ≤ 4 := h.fit.f
 have c : ls.length ≤ 4 := h.fit.l
 have d : C.length ≤ 4 := h.fit.fit.four
 have := h.lv
 have := h.lf
 have := h.ll
 have := h.cl
 omega
theorem two_of {t : Tx} {s : PS} (he : parseT t = .ok (s, C)) (hPW : ProgW w base vV fV lV thV (s.nms 118) (s.nms 102) (s.nms 109) L C) (hLn : L.map Prod.fst = s.nms 116) (hQ : QView w base qv qf ql qt P TV) (h1 : P.vs = s.nms 118) (h2 : P.fs = s.nms 102) (h3 : P.ls = s.nms 109) (h4 : P.names = s.nms 116) (hC : (P.thr.map fun th => th.code.map RI.i) = C) :
 ∃ nv nf nl nt va fa la ta vc fc lc tc x1 x2 x3 x4 z1 z2 z3 z4, vV = .slice va nv vc ∧ fV = .slice fa nf fc ∧ lV = .slice la nl lc ∧ thV = .slice ta nt tc ∧ qv = .slice x1 nv z1 ∧ qf = .slice x2 nf z2 ∧ ql = .slice x3 nl z3 ∧ qt = .slice x4 nt z4 ∧ Two w base vV fV lV thV qv qf ql qt (s.nms 118) (s.nms 102) (s.nms 109) L C P TV nv nf nl nt := by
 obtain ⟨va, vc, e1⟩ := owns_len hPW.v
 obtain ⟨fa, fc, e2⟩ := owns_len hPW.f
 obtain ⟨la, lc, e3⟩ := owns_len hPW.l
 obtain ⟨ta, tc, e4⟩ := owns_len hPW.t
 obtain ⟨x1, z1, e5⟩ := owns_len hQ.v
 obtain ⟨x2, z2, e6⟩ := owns_len hQ.f
 obtain ⟨x3, z3, e7⟩ := owns_len hQ.l
 obtain ⟨x4, z4, e8⟩ := owns_len hQ.t
 obtain ⟨fn1, fn2, fn3⟩ := fit_of he hLn
 have hLl : L.length = P.thr.length := by
  have a := congrArg List.length hLn
  have b := congrArg List.length h4
  unfold RP.names at b
  rw [List.length_map] at a b
  rw [a, b]
 have hcl : C.length = L.length := hPW.len
 refine ⟨(s.nms 118).length, (s.nms 102).length, (s.nms 109).length, L.length, va, fa, la, ta, vc, fc, lc, tc, x1, x2, x3, x4, z1, z2, z3, z4, e1, e2, e3, e4, by rw [e5, h1], by rw [e6, h2], by rw [e7, h3], by rw [e8, hLl], hPW, hQ.view, rfl, rfl, rfl, rfl, by rw [h1], by rw [h2], by rw [h3], hLl.symm, hC, ?_, fn1, fn2, fn3, hcl⟩
 unfold pdR pdOf
 rw [h1, h2, h3, h4, hLn]
 show PD.mk _ _ _ _ (codeOf P) = _
 unfold codeOf
 rw [hC]
end
end Go.Proofs.YtcfpedjfofpnkaaGreatDoor
