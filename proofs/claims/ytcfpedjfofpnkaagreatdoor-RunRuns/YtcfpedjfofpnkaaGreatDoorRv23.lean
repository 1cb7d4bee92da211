import Derived.Test.YtcfpedjfofpnkaaGreatDoorRv20
import Derived.Test.YtcfpedjfofpnkaaGreatDoorRv3
import Derived.Test.YtcfpedjfofpnkaaGreatDoorRv22
import Derived.Test.YtcfpedjfofpnkaaGreatDoorRv8
import Derived.Test.YtcfpedjfofpnkaaGreatDoorRv21
import Derived.Test.YtcfpedjfofpnkaaGreatDoorRv14
set_option linter.unusedVariables false
set_option linter.unusedSimpArgs false
namespace Go.Proofs.YtcfpedjfofpnkaaGreatDoor
open Go.RowKit Go.Proofs.Cod
def fnV (f : Nat) : Value := .func (.func f) #[] #[]
def Deeds (w : World) (m : Nat) : Prop := ∃ n f, KMap sk w m f n ∧ ∀ op, (f op).getD .nilFunc = doV op
section
variable {w w' : World} {m : Nat}
theorem Deeds.lt (h : Deeds w m) : m < w.heap.size := by obtain ⟨n, f, h1, -⟩ := h; exact h1.lt
theorem Deeds.same (h : Deeds w m) (e : w'.heap[m]? = w.heap[m]?) : Deeds w' m := by obtain ⟨n, f, h1, h2⟩ := h; exact ⟨n, f, h1.same e, h2⟩
theorem Deeds.look (h : Deeds w m) (op : Tx) : (Instr.lookup 93 (.map (some m)) (.string (bs op)) false).run Tryz.prog w = .ok (doV op) w := by
 obtain ⟨n, f, h1, h2⟩ := h
 have q := h1.look Tryz.strKey Tryz.underlying93 (z := .nilFunc) (by kernel_rfl) op
 rw [h2 op] at q
 exact q
theorem below_grown {w w' : World} {B b : Nat} (g : w.grownBy w' (some b)) (hb : B ≤ b) (hs : B ≤ w.heap.size) : Below B w w' := ⟨g.os, g.tape, g.output, g.size, fun k hk => g.block k (by omega) (fun e => by injection e; omega)⟩
theorem find_deed (op : Tx) (f : Tx → Option Value) (h : f = (putK (putK (putK (putK (putK (putK (putK (putK (putK (putK (putK (putK (putK (putK (putK (putK (putK (fun _ => none) oSet (fnV 49)) oAdd (fnV 52)) oSub (fnV 53)) oMul (fnV 54)) oLoad (fnV 55)) oStore (fnV 57)) oGet (fnV 59)) oPut (fnV 60)) oLock (fnV 61)) oUnlock (fnV 62)) oSpawn (fnV 63)) oJoin (fnV 64)) oJump (fnV 66)) oJeq (fnV 68)) oJlt (fnV 69)) oCheck (fnV 70)) oEnd (fnV 71))) : (f op).getD .nilFunc = doV op := by
 subst h
 by_cases eoSet : op = oSet
 ·subst eoSet; rfl
 by_cases eoAdd : op = oAdd
 ·subst eoAdd; rfl
 by_cases eoSub : op = oSub
 ·subst eoSub; rfl
 by_cases eoMul : op = oMul
 ·subst eoMul; rfl
 by_cases eoLoad : op = oLoad
 ·subst eoLoad; rfl
 by_cases eoStore : op = oStore
 ·subst eoStore; rfl
 by_cases eoGet : op = oGet
 ·subst eoGet; rfl
 by_cases eoPut : op = oPut
 ·subst eoPut; rfl
 by_cases eoLock : op = oLock
 ·subst eoLock; rfl
 by_cases eoUnlock : op = oUnlock
 ·subst eoUnlock; rfl
 by_cases eoSpawn : op = oSpawn
 ·subst eoSpawn; rfl
 by_cases eoJoin : op = oJoin
 ·subst eoJoin; rfl
 by_cases eoJump : op = oJump
 ·subst eoJump; rfl
 by_cases eoJeq : op = oJeq
 ·subst eoJeq; rfl
 by_cases eoJlt : op = oJlt
 ·subst eoJlt; rfl
 by_cases eoCheck : op = oCheck
 ·subst eoCheck; rfl
 by_cases eoEnd : op = oEnd
 ·subst eoEnd; rfl
 rw [putK_other _ eoEnd, putK_other _ eoCheck, putK_other _ eoJlt, putK_other _ eoJeq, putK_other _ eoJump, putK_other _ eoJoin, putK_other _ eoSpawn, putK_other _ eoUnlock, putK_other _ eoLock, putK_other _ eoPut, putK_other _ eoGet, putK_other _ eoStore, putK_other _ eoLoad, putK_other _ eoMul, putK_other _ eoSub, putK_other _ eoAdd, putK_other _ eoSet]
 unfold doV deedT
 simp only [List.find?, show decide (oSet = op) = false from decide_eq_false (fun q => eoSet q.symm), show decide (oAdd = op) = false from decide_eq_false (fun q => eoAdd q.symm), show decide (oSub = op) = false from decide_eq_false (fun q => eoSub q.symm), show decide (oMul = op) = false from decide_eq_false (fun q => eoMul q.symm), show decide (oLoad = op) = false from decide_eq_false (fun q => eoLoad q.symm), show decide (oStore = op) = false from decide_eq_false (fun q => eoStore q.symm), show decide (oGet = op) = false from decide_eq_false (fun q => eoGet q.symm), show decide (oPut = op) = false from decide_eq_false (fun q => eoPut q.symm), show decide (oLock = op) = false from decide_eq_false (fun q => eoLock q.symm), show decide (oUnlock = op) = false from decide_eq_false (fun q => eoUnlock q.symm), show decide (oSpawn = op) = false from decide_eq_false (fun q => eoSpawn q.symm), show decide (oJoin = op) = false from decide_eq_false (fun q => eoJoin q.symm), show decide (oJump = op) = false from decide_eq_false (fun q => eoJump q.symm), show decide (oJeq = op) = false from decide_eq_false (fun q => eoJeq q.symm), show decide (oJlt = op) = false from decide_eq_false (fun q => eoJlt q.symm), show decide (oCheck = op) = false from decide_eq_false (fun q => eoCheck q.symm), show decide (oEnd = op) = false from decide_eq_false (fun q => eoEnd q.symm)]
 rfl
set_option maxRecDepth 100000 in
set_option maxHeartbeats 1000000 in
theorem deeds_any (w : World) : Calls Tryz.prog 28 #[] w fun e w' => e = .returned (.map (some w.heap.size)) ∧ Deeds w' w.heap.size ∧ Below w.heap.size w w' := by
 have h0 : KMap sk (w.alloc (.map #[] 0)) w.heap.size (fun _ => none) 0 := KMap.made w
 have B0 : Below w.heap.size w (w.alloc (.map #[] 0)) := (Below.refl _ _).alloc (Nat.le_refl _) _
 obtain ⟨w1, r1, h1, g1, -⟩ := h0.put Tryz.strKey Tryz.underlying93 oSet (fnV 49)
 have B1 := B0.trans (below_grown g1 (Nat.le_refl _) B0.size)
 obtain ⟨w2, r2, h2, g2, -⟩ := h1.put Tryz.strKey Tryz.underlying93 oAdd (fnV 52)
 have B2 := B1.trans (below_grown g2 (Nat.le_refl _) B1.size)
 obtain ⟨w3, r3, h3, g3, -⟩ := h2.put Tryz.strKey Tryz.underlying93 oSub (fnV 53)
 have B3 := B2.trans (below_grown g3 (Nat.le_refl _) B2.size)
 obtain ⟨w4, r4, h4, g4, -⟩ := h3.put Tryz.strKey Tryz.underlying93 oMul (fnV 54)
 have B4 := B3.trans (below_grown g4 (Nat.le_refl _) B3.size)
 obtain ⟨w5, r5, h5, g5, -⟩ := h4.put Tryz.strKey Tryz.underlying93 oLoad (fnV 55)
 have B5 := B4.trans (below_grown g5 (Nat.le_refl _) B4.size)
 obtain ⟨w6, r6, h6, g6, -⟩ := h5.put Tryz.strKey Tryz.underlying93 oStore (fnV 57)
 have B6 := B5.trans (below_grown g6 (Nat.le_refl _) B5.size)
 obtain ⟨w7, r7, h7, g7, -⟩ := h6.put Tryz.strKey Tryz.underlying93 oGet (fnV 59)
 have B7 := B6.trans (below_grown g7 (Nat.le_refl _) B6.size)
 obtain ⟨w8, r8, h8, g8, -⟩ := h7.put Tryz.strKey Tryz.underlying93 oPut (fnV 60)
 have B8 := B7.trans (below_grown g8 (Nat.le_refl _) B7.size)
 obtain ⟨w9, r9, h9, g9, -⟩ := h8.put Tryz.strKey Tryz.underlying93 oLock (fnV 61)
 have B9 := B8.trans (below_grown g9 (Nat.le_refl _) B8.size)
 obtain ⟨w10, r10, h10, g10, -⟩ := h9.put Tryz.strKey Tryz.underlying93 oUnlock (fnV 62)
 have B10 := B9.trans (below_grown g10 (Nat.le_refl _) B9.size)
 obtain ⟨w11, r11, h11, g11, -⟩ := h10.put Tryz.strKey Tryz.underlying93 oSpawn (fnV 63)
 have B11 := B10.trans (below_grown g11 (Nat.le_refl _) B10.size)
 obtain ⟨w12, r12, h12, g12, -⟩ := h11.put Tryz.strKey Tryz.underlying93 oJoin (fnV 64)
 have B12 := B11.trans (below_grown g12 (Nat.le_refl _) B11.size)
 obtain ⟨w13, r13, h13, g13, -⟩ := h12.put Tryz.strKey Tryz.underlying93 oJump (fnV 66)
 have B13 := B12.trans (below_grown g13 (Nat.le_refl _) B12.size)
 obtain ⟨w14, r14, h14, g14, -⟩ := h13.put Tryz.strKey Tryz.underlying93 oJeq (fnV 68)
 have B14 := B13.trans (below_grown g14 (Nat.le_refl _) B13.size)
 obtain ⟨w15, r15, h15, g15, -⟩ := h14.put Tryz.strKey Tryz.underlying93 oJlt (fnV 69)
 have B15 := B14.trans (below_grown g15 (Nat.le_refl _) B14.size)
 obtain ⟨w16, r16, h16, g16, -⟩ := h15.put Tryz.strKey Tryz.underlying93 oCheck (fnV 70)
 have B16 := B15.trans (below_grown g16 (Nat.le_refl _) B15.size)
 obtain ⟨w17, r17, h17, g17, -⟩ := h16.put Tryz.strKey Tryz.underlying93 oEnd (fnV 71)
 have B17 := B16.trans (below_grown g17 (Nat.le_refl _) B16.size)
 unfold fnV sk oSet bs at r1
 unfold fnV sk oAdd bs at r2
 unfold fnV sk oSub bs at r3
 unfold fnV sk oMul bs at r4
 unfold fnV sk oLoad bs at r5
 unfold fnV sk oStore bs at r6
 unfold fnV sk oGet bs at r7
 unfold fnV sk oPut bs at r8
 unfold fnV sk oLock bs at r9
 unfold fnV sk oUnlock bs at r10
 unfold fnV sk oSpawn bs at r11
 unfold fnV sk oJoin bs at r12
 unfold fnV sk oJump bs at r13
 unfold fnV sk oJeq bs at r14
 unfold fnV sk oJlt bs at r15
 unfold fnV sk oCheck bs at r16
 unfold fnV sk oEnd bs at r17
 have HF := hide (⟨⟨_, _, h17, fun op => find_deed op _ rfl⟩, B17⟩ : Deeds w17 w.heap.size ∧ Below w.heap.size w w17)
 clear h0 B0 h1 B1 h2 B2 h3 B3 h4 B4 h5 B5 h6 B6 h7 B7 h8 B8 h9 B9 h10 B10 h11 B11 h12 B12 h13 B13 h14 B14 h15 B15 h16 B16 h17 B17 g1 g2 g3 g4 g5 g6 g7 g8 g9 g10 g11 g12 g13 g14 g15 g16 g17
 have hmm := @run_makeMap Tryz.prog
 go_enter Tryz.func28, Tryz.ntmps28
 go_wp2_with fail
 go_ret
 exact ⟨rfl, HF.out⟩
end
section
variable {w w' : World} {b : Nat}
theorem Tryz.sizeTh : (Tryz.prog.info? 89).map (·.size) = some 207 := by kernel_rfl
theorem Tryz.sizeDeed : (Tryz.prog.info? 86).map (·.size) = some 8 := by kernel_rfl
def thrP (nm : Tx) (c : List In7) (i j : Nat) : Value := if j = 0 then .string (bs nm) else if j < 7 then .int .i64 0 else if (j - 7) / 8 < i then deedV (c.getD ((j - 7) / 8) endI) ((j - 7) % 8) else deedV (newIns []) ((j - 7) % 8)
def deedA (x : In7) : Array Value := #[.string (bs x.op), .int .i64 x.r, .bool x.aR, .int .i64 x.aN, .bool x.bR, .int .i64 x.bN, .int .i64 x.x, doV x.op]
theorem deedA_one (x : In7) : ∀ v ∈ (deedA x).toList, v.oneCell' = true := by
 intro v hv
 simp only [deedA, List.mem_cons, List.not_mem_nil, or_false] at hv
 rcases hv with rfl | rfl | rfl | rfl | rfl | rfl | rfl | rfl
 all_goals first | rfl | exact doV_one _
theorem deedA_get (x : In7) {j : Nat} (h : j < 8) : (deedA x).toList.getD j undef = deedV x j := by
 have : j = 0 ∨ j = 1 ∨ j = 2 ∨ j = 3 ∨ j = 4 ∨ j = 5 ∨ j = 6 ∨ j = 7 := by omega
 rcases this with rfl | rfl | rfl | rfl | rfl | rfl | rfl | rfl <;> rfl
theorem RowF.putDeed {nm : Tx} {c : List In7} {i : Nat} {T : Nat} (h : RowF w b T 207 (thrP nm c i)) (hi : i < 25) {x : In7} (hx : c.getD i endI = x) : RowF (w.setCells b (7 + i * 8) (deedA x).toList) b T 207 (thrP nm c (i + 1)) := by
 refine (setCells_row _ (7 + i * 8) h (by show 7 + i * 8 + 8 ≤ 207; omega)).congr fun k hk => ?_
 show (if 7 + i * 8 ≤ k ∧ k < 7 + i * 8 + 8 then _ else _) = _
 by_cases e : 7 + i * 8 ≤ k ∧ k < 7 + i * 8 + 8
 ·rw [if_pos e, deedA_get x (by omega)]
  unfold thrP
  rw [if_neg (by omega), if_neg (by omega), if_pos (by omega), show (k - 7) / 8 = i by omega, hx, show k - (7 + i * 8) = (k - 7) % 8 by omega]
 ·rw [if_neg e]
  unfold thrP
  split
  ·rfl
  ·split
   ·rfl
   ·by_cases e2 : (k - 7) / 8 < i
    ·rw [if_pos e2, if_pos (by omega)]
    ·rw [if_neg e2, if_neg (by omega)]
theorem thrP_full (nm : Tx) (c : List In7) (k : Nat) : thrP nm c (c.length + 1) k = thrF nm (some c) ts0 k := by
 unfold thrP thrF
 by_cases e0 : k = 0
 ·rw [if_pos e0, if_pos e0]
 ·rw [if_neg e0, if_neg e0]
  by_cases e1 : k = 1
  ·subst e1; rfl
  ·rw [if_neg e1]
   by_cases e2 : k = 2
   ·subst e2; rfl
   ·rw [if_neg e2]
    by_cases e7 : k < 7
    ·rw [if_pos e7, if_pos e7]
     have : k - 3 = 0 ∨ k - 3 = 1 ∨ k - 3 = 2 ∨ k - 3 = 3 := by omega
     rcases this with q | q | q | q <;> rw [q] <;> rfl
    ·rw [if_neg e7, if_neg e7]
     show _ = if (k - 7) / 8 < c.length then _ else if (k - 7) / 8 = c.length then _ else _
     by_cases e3 : (k - 7) / 8 < c.length
     ·rw [if_pos e3, if_pos (by omega)]
     ·rw [if_neg e3]
      by_cases e4 : (k - 7) / 8 = c.length
      ·rw [if_pos e4, if_pos (by omega), e4, List.getD_eq_getElem?_getD, List.getElem?_eq_none (Nat.le_refl _)]; rfl
      ·rw [if_neg e4, if_neg (by omega)]
end
section
variable {w w' : World} {b : Nat}
theorem doV_form (op : Tx) : doV op = .nilFunc ∨ ∃ f, doV op = .func (.func f) #[] #[] := by
 unfold doV
 split
 ·exact .inr ⟨_, rfl⟩
 ·exact .inl rfl
def deedB (x : In7) (d : Value) : Array Value := #[.string (bs x.op), .int .i64 x.r, .bool x.aR, .int .i64 x.aN, .bool x.bR, .int .i64 x.bN, .int .i64 x.x, d]
theorem thr_zero (s : ByteArray) : Tryz.zeroCells89.setIfInBounds 0 (.string s) = rowA 207 (fun j => if j = 0 then .string s else thrP [] [] 0 j) := by kernel_rfl
theorem thr_zero2 (nm : Tx) (c : List In7) : (Tryz.zeroCells89.setIfInBounds 0 (.string (bs nm))) = rowA 207 (thrP nm c 0) := by
 rw [thr_zero]
 unfold rowA
 congr 1
structure NtW (w wr : World) (nm : Tx) (c : List In7) (i : Nat) : Prop where
 r : RowF wr (w.heap.size + 1 + 1) 89 207 (thrP nm c i)
 b : ∃ g, RowF wr (w.heap.size + 1) 89 207 g
 low : Below w.heap.size w wr
 sz : w.heap.size + 1 + 1 < wr.heap.size
set_option maxRecDepth 100000 in
set_option maxHeartbeats 2000000 in
theorem newThread_any {base m : Nat} {cv : Value} (nm : Tx) {c : List In7} (hc : w.ownsRow base 67 7 cv c.length (codeC c)) (hl : c.length ≤ 24) (ht : Deeds w m) :
 Calls Tryz.prog 29 #[.agg #[.string (bs nm), cv], .map (some m)] w fun e w' => e = .returned (.agg (rowA 207 (thrF nm (some c) ts0))) ∧ Below w.heap.size w w' := by
 obtain ⟨ca, ccap, hcv⟩ := owns_len hc
 subst hcv
 obtain ⟨R, hR⟩ : ∃ R, rowA 207 (thrF nm (some c) ts0) = R := ⟨_, rfl⟩
 have hRs : R.size = 207 := by rw [← hR, rowA_size]
 have hR1 : ∀ x ∈ R.toList, x.oneCell' = true := by rw [← hR]; exact range_all _ 207 (thrF_one _ _ _)
 have hRi : (Tryz.prog.info? 89).map (·.size) = some R.size := by rw [hRs]; exact Tryz.sizeTh
 obtain ⟨Z, hZ⟩ : ∃ Z, (Tryz.zeroCells89.setIfInBounds 0 (.string (bs nm))) = Z := ⟨_, rfl⟩
 have hZr : Z = rowA 207 (thrP nm c 0) := by rw [← hZ]; exact thr_zero2 nm c
 have hZs : Z.size = 207 := by rw [hZr, rowA_size]
 have hZ1 : ∀ x ∈ Z.toList, x.oneCell' = true := by
  rw [hZr]
  refine range_all _ 207 (fun j => ?_)
  unfold thrP
  split
  ·rfl
  ·split
   ·rfl
   ·split <;> exact deedV_one _ _
 have hZi : (Tryz.prog.info? 89).map (·.size) = some Z.size := by rw [hZs]; exact Tryz.sizeTh
 rw [hR]
 obtain ⟨W1, hW1⟩ : ∃ W1, (((w.alloc (.cells #[.string (bs nm), .slice ca c.length ccap] 63)).alloc (.cells Tryz.zeroCells89 89)).alloc (.cells Tryz.zeroCells89 89)) = W1 := ⟨_, rfl⟩
 have hz1 : (w.alloc (.cells #[.string (bs nm), .slice ca c.length ccap] 63)).heap.size = w.heap.size + 1 := by show (w.heap.push _).size = _; simp
 have hz2 : ((w.alloc (.cells #[.string (bs nm), .slice ca c.length ccap] 63)).alloc (.cells Tryz.zeroCells89 89)).heap.size = w.heap.size + 1 + 1 := by show ((w.heap.push _).push _).size = _; simp
 have hz3 : W1.heap.size = w.heap.size + 1 + 1 + 1 := by rw [← hW1]; show (((w.heap.push _).push _).push _).size = _; simp
 have b1 := RowF.new (f := fun k => Tryz.zeroCells89.getD k undef) (w.alloc (.cells #[.string (bs nm), .slice ca c.length ccap] 63)) Tryz.zeroCells89 89 (fun k hk => by rw [Array.getD_eq_getD_getElem?, Array.getElem?_eq_getElem hk]; rfl)
 have b2 := RowF.new (f := fun k => Tryz.zeroCells89.getD k undef) ((w.alloc (.cells #[.string (bs nm), .slice ca c.length ccap] 63)).alloc (.cells Tryz.zeroCells89 89)) Tryz.zeroCells89 89 (fun k hk => by rw [Array.getD_eq_getD_getElem?, Array.getElem?_eq_getElem hk]; rfl)
 replace b1 := b1.below (w' := W1) (by rw [← hW1]; exact (Below.refl _ _).alloc (Nat.le_refl _) _)
 rw [hW1, hz2, Tryz.zeroCells89_size] at b2
 rw [hz1, Tryz.zeroCells89_size] at b1
 have hk0 : W1.heap[w.heap.size]? = some (.cells #[.string (bs nm), .slice ca c.length ccap] 63) := by
  rw [← hW1, Below.heap_alloc _ _ _ (by rw [hz2]; omega), Below.heap_alloc _ _ _ (by rw [hz1]; omega)]
  exact World.alloc_heap_new w _
 have hB1 : Below w.heap.size w W1 := by rw [← hW1]; exact (((Below.refl _ _).alloc (Nat.le_refl _) _).alloc (by rw [hz1]; omega) _).alloc (by rw [hz2]; omega) _
 have k2 := setCells_keep (S := fun k => k = w.heap.size + 1 + 1) (w := W1) (b := w.heap.size + 1 + 1) Z.toList 0 (KeepS.refl W1) (.inl rfl)
 obtain ⟨W2, hW2⟩ : ∃ W2, W1.setCells (w.heap.size + 1 + 1) 0 Z.toList = W2 := ⟨_, rfl⟩
 rw [hW2] at k2
 have q2 : ∀ j, j < Z.size → (W1.cell? ⟨w.heap.size + 1 + 1, 0 + j, none⟩).isSome = true := fun j hj => by rw [Nat.zero_add, b2.cell (by rw [← hZs]; exact hj)]; rfl
 have q3 : ∀ j, j < Z.size → W1.frozen? ⟨w.heap.size + 1 + 1, 0 + j, none⟩ = false := fun j _ => b2.frozen _
 have hk2 : W2.heap[w.heap.size]? = some (.cells #[.string (bs nm), .slice ca c.length ccap] 63) := (k2.block _ (by omega) (by omega)).trans hk0
 have c1 : W2.cell? ⟨w.heap.size, 1, none⟩ = some (.slice ca c.length ccap) := by simp [World.cell?, hk2]
 have hN : NtW w W2 nm c 0 := by
  refine ⟨?_, ⟨_, b1.keep k2 (by omega)⟩, ⟨k2.os.trans hB1.os, k2.tape.trans hB1.tape, k2.output.trans hB1.output, Nat.le_trans hB1.size k2.size, fun k hk => (k2.block k (by omega) (by omega)).trans (hB1.block k hk)⟩, by have := k2.size; omega⟩
  rw [← hW2, hZr]
  exact b2.fill
 have HR := hide (⟨hR, hRs, hR1, hRi⟩ : _ ∧ _ ∧ _ ∧ _)
 have HZ := hide (⟨hZ1, hZi, q2, q3⟩ : _ ∧ _ ∧ _ ∧ _)
 have HC := hide (⟨hc, ht, hk2, hl⟩ : _ ∧ _ ∧ _ ∧ _)
 replace hN := hide hN
 replace hW1 := hide hW1
 replace hW2 := hide hW2
 replace hZ := hide hZ
 clear hR hRs hR1 hRi hZr hZs hZ1 hZi hc ht hz1 hz2 hz3 b1 b2 hk0 hB1 k2 q2 q3 hk2 hl
 go_enter Tryz.func29, Tryz.ntmps29
 go_wp2_with (refine wpList_store_sub rfl _ _ _ rfl (w.heap.size + 1 + 1) 0 Z rfl (by rw [← hZ.out]; rfl) (by rw [hW1.out]; exact HZ.out.2.2.1) (by rw [hW1.out]; exact HZ.out.2.2.2) HZ.out.2.1 HZ.out.1 ?_; rw [hW1.out, hW2.out]; simp only [Act.put, List.setIfInBounds_toArray, List.set_cons_succ, List.set_cons_zero])
 clear hW1 HZ hZ c1
 go_loopw [14] (fun iv wr => ∃ i : Nat, i ≤ c.length ∧ iv = .int .i64 i ∧ NtW w wr nm c i ∧ wr.heap[w.heap.size]? = some (.cells #[.string (bs nm), .slice ca c.length ccap] 63)) (fun iv _ => c.length - (intOf iv).toNat)
 case atStart => exact ⟨0, Nat.zero_le _, rfl, hN.out, HC.out.2.2.1⟩
 case round =>
  obtain ⟨i, hi, rfl, hS, hbox⟩ := hrel
  clear hN
  obtain ⟨hc, ht, -, hl⟩ := HC.out
  have hi25 : i < 25 := by omega
  by_cases h5 : i < c.length
  ·have hii : (i : Int) < 25 := by omega
   obtain ⟨x, hx⟩ : ∃ x, c[i]? = some x := ⟨_, List.getElem?_eq_getElem h5⟩
   obtain ⟨g, cap, hcv, hgl, hI⟩ := i7_at (c_belowS hc hS.low) hx
   injection hcv with hca hcl hcc
   subst hca
   have hlt : (i : Int) < (c.length : Int) := by omega
   obtain ⟨k0, k1, k2, k3, k4, k5, k6⟩ := hI
   have hxd : c.getD i endI = x := by rw [List.getD_eq_getElem?_getD, hx]; rfl
   obtain ⟨op, xr, xaR, xaN, xbR, xbN, xx⟩ := x
   dsimp only at k0 k1 k2 k3 k4 k5 k6
   obtain ⟨I, hI⟩ : ∃ I : Array Value, #[.string (bs op), .int .i64 xr, .bool xaR, .int .i64 xaN, .bool xbR, .int .i64 xbN, .int .i64 xx] = I := ⟨_, rfl⟩
   have hBa : Below wr.heap.size wr (wr.alloc (.cells I 67)) := (Below.refl _ _).alloc (Nat.le_refl _) _
   have hra := hS.r.below hBa
   have hlk := ((ht.same (w' := wr) (hS.low.block m ht.lt)).same (w' := wr.alloc (.cells I 67)) (hBa.block m (by have := ht.lt; have := hS.low.size; omega))).look op
   have q2 : ∀ j, j < (deedA ⟨op, xr, xaR, xaN, xbR, xbN, xx⟩).size → ((wr.alloc (.cells I 67)).cell? ⟨w.heap.size + 1 + 1, 7 + i * 8 + j, none⟩).isSome = true := fun j hj => by rw [hra.cell (by have hj : j < 8 := hj; omega)]; rfl
   have q3 : ∀ j, j < (deedA ⟨op, xr, xaR, xaN, xbR, xbN, xx⟩).size → (wr.alloc (.cells I 67)).frozen? ⟨w.heap.size + 1 + 1, 7 + i * 8 + j, none⟩ = false := fun j _ => hra.frozen _
   have hP := hra.putDeed hi25 hxd
   have hkp := setCells_keep (S := fun k => k = w.heap.size + 1 + 1) (w := wr.alloc (.cells I 67)) (b := w.heap.size + 1 + 1) (deedA ⟨op, xr, xaR, xaN, xbR, xbN, xx⟩).toList (7 + i * 8) (KeepS.refl _) (.inl rfl)
   have hwi : wrap64 ((i : Int) + 1) = (i : Int) + 1 := by unfold wrap64; omega
   have hNx : NtW w ((wr.alloc (.cells I 67)).setCells (w.heap.size + 1 + 1) (7 + i * 8) (deedA ⟨op, xr, xaR, xaN, xbR, xbN, xx⟩).toList) nm c (i + 1) ∧ ((wr.alloc (.cells I 67)).setCells (w.heap.size + 1 + 1) (7 + i * 8) (deedA ⟨op, xr, xaR, xaN, xbR, xbN, xx⟩).toList).heap[w.heap.size]? = some (.cells #[.string (bs nm), .slice (some ⟨g, 0, none⟩) c.length ccap] 63) := by
    obtain ⟨gg, hg⟩ := hS.b
    have hsz := hS.sz
    have hz := hBa.size
    refine ⟨⟨hP, ⟨gg, (hg.below hBa).keep hkp (by omega)⟩, ⟨hkp.os.trans (hBa.os.trans hS.low.os), hkp.tape.trans (hBa.tape.trans hS.low.tape), hkp.output.trans (hBa.output.trans hS.low.output), Nat.le_trans hS.low.size (Nat.le_trans hz hkp.size), fun k hk => (hkp.block k (by omega) (by omega)).trans ((hBa.block k (by omega)).trans (hS.low.block k hk))⟩, by have := hkp.size; omega⟩, ?_⟩
    exact (hkp.block _ (by omega) (by omega)).trans ((hBa.block _ (by omega)).trans hbox)
   have hd1 := deedA_one ⟨op, xr, xaR, xaN, xbR, xbN, xx⟩
   have hde : deedA ⟨op, xr, xaR, xaN, xbR, xbN, xx⟩ = deedB ⟨op, xr, xaR, xaN, xbR, xbN, xx⟩ (doV op) := rfl
   rw [hde] at q2 q3 hNx hd1
   have hdf := doV_form op
   obtain ⟨dv, hdv⟩ : ∃ dv, doV op = dv := ⟨_, rfl⟩
   rw [hdv] at q2 q3 hNx hd1 hdf hlk
   obtain ⟨D, hD⟩ : ∃ D : Array Value, #[.string (bs op), .int .i64 xr, .bool xaR, .int .i64 xaN, .bool xbR, .int .i64 xbN, .int .i64 xx, dv] = D := ⟨_, rfl⟩
   rw [show deedB ⟨op, xr, xaR, xaN, xbR, xbN, xx⟩ dv = D from hD] at q2 q3 hNx hd1
   have hDs : (Tryz.prog.info? 86).map (·.size) = some D.size := by rw [← hD]; exact Tryz.sizeDeed
   have HN := hide (⟨hNx, h5, q2, q3, hd1, hDs⟩ : _ ∧ _ ∧ _ ∧ _ ∧ _ ∧ _)
   replace hD := hide hD
   replace hxd := hide hxd
   subst hI
   clear hS hbox hc ht hl hi hi25 h5 hx hBa hra q2 q3 hP hkp hNx hgl hcc hcl HC hde hdv hd1 hDs
   rcases hdf with rfl | ⟨f, rfl⟩
   ·skip
    go_wp2_with (refine wpList_store_sub rfl _ _ _ rfl (w.heap.size + 1 + 1) (7 + i * 8) D rfl (by rw [← hD.out]; rfl) HN.out.2.2.1 HN.out.2.2.2.1 HN.out.2.2.2.2.2 HN.out.2.2.2.2.1 ?_; simp only [Act.put, List.setIfInBounds_toArray, List.set_cons_succ, List.set_cons_zero])
    go_roundw
    case rel =>
     (try rw [hwi])
     exact ⟨i + 1, HN.out.2.1, rfl, HN.out.1⟩
    case measure =>
     (try rw [hwi])
     exact Nat.sub_lt_sub_left HN.out.2.1 (Nat.lt_succ_self i)
   ·skip
    go_wp2_with (refine wpList_store_sub rfl _ _ _ rfl (w.heap.size + 1 + 1) (7 + i * 8) D rfl (by rw [← hD.out]; rfl) HN.out.2.2.1 HN.out.2.2.2.1 HN.out.2.2.2.2.2 HN.out.2.2.2.2.1 ?_; simp only [Act.put, List.setIfInBounds_toArray, List.set_cons_succ, List.set_cons_zero])
    go_roundw
    case rel =>
     (try rw [hwi])
     exact ⟨i + 1, HN.out.2.1, rfl, HN.out.1⟩
    case measure =>
     (try rw [hwi])
     exact Nat.sub_lt_sub_left HN.out.2.1 (Nat.lt_succ_self i)
  ·have hil : i = c.length := by omega
   subst hil
   have hii : (c.length : Int) < 25 := by omega
   have hlk := (ht.same (w' := wr) (hS.low.block m ht.lt)).look oEnd
   rw [show doV oEnd = .func (.func 71) #[] #[] from rfl] at hlk
   unfold oEnd bs at hlk
   have c1 : wr.cell? ⟨w.heap.size, 1, none⟩ = some (.slice ca c.length ccap) := by simp [World.cell?, hbox]
   have q2 : ∀ j, j < (deedB endI (.func (.func 71) #[] #[])).size → (wr.cell? ⟨w.heap.size + 1 + 1, 7 + c.length * 8 + j, none⟩).isSome = true := fun j hj => by rw [hS.r.cell (by have hj : j < 8 := hj; omega)]; rfl
   have q3 : ∀ j, j < (deedB endI (.func (.func 71) #[] #[])).size → wr.frozen? ⟨w.heap.size + 1 + 1, 7 + c.length * 8 + j, none⟩ = false := fun j _ => hS.r.frozen _
   have hP := hS.r.putDeed hi25 (x := endI) (by rw [List.getD_eq_getElem?_getD, List.getElem?_eq_none (Nat.le_refl _)]; rfl)
   have hd1 := deedA_one endI
   rw [show deedA endI = deedB endI (.func (.func 71) #[] #[]) from rfl] at hP hd1
   obtain ⟨D, hD⟩ : ∃ D : Array Value, #[.string ⟨#[101, 110, 100]⟩, .int .i64 0, .bool false, .int .i64 0, .bool false, .int .i64 0, .int .i64 0, .func (.func 71) #[] #[]] = D := ⟨_, rfl⟩
   rw [show deedB endI (.func (.func 71) #[] #[]) = D from hD] at q2 q3 hP hd1
   have hDs : (Tryz.prog.info? 86).map (·.size) = some D.size := by rw [← hD]; exact Tryz.sizeDeed
   have hkp := setCells_keep (S := fun k => k = w.heap.size + 1 + 1) (w := wr) (b := w.heap.size + 1 + 1) D.toList (7 + c.length * 8) (KeepS.refl _) (.inl rfl)
   obtain ⟨W3, hW3⟩ : ∃ W3, wr.setCells (w.heap.size + 1 + 1) (7 + c.length * 8) D.toList = W3 := ⟨_, rfl⟩
   rw [hW3] at hP hkp
   have hP2 : RowF W3 (w.heap.size + 1 + 1) 89 207 (thrF nm (some c) ts0) := hP.congr fun k _ => thrP_full nm c k
   obtain ⟨gg, hg⟩ := hS.b
   have hsz := hS.sz
   have hg3 := hg.keep hkp (by omega)
   obtain ⟨hR, hRs, hR1, hRi⟩ := HR.out
   have p1 : ∀ j, j < 207 → W3.cell? ⟨w.heap.size + 1 + 1, 0 + j, none⟩ = some (thrF nm (some c) ts0 j) := fun j hj => by rw [Nat.zero_add]; exact hP2.cell hj
   have p2 : ∀ j, j < R.size → (W3.cell? ⟨w.heap.size + 1, 0 + j, none⟩).isSome = true := fun j hj => by rw [Nat.zero_add, hg3.cell (by rw [← hRs]; exact hj)]; rfl
   have p3 : ∀ j, j < R.size → W3.frozen? ⟨w.heap.size + 1, 0 + j, none⟩ = false := fun j _ => hg3.frozen _
   have hB3 : Below w.heap.size w W3 := ⟨hkp.os.trans hS.low.os, hkp.tape.trans hS.low.tape, hkp.output.trans hS.low.output, Nat.le_trans hS.low.size hkp.size, fun k hk => (hkp.block k (by omega) (by omega)).trans (hS.low.block k hk)⟩
   have HN := hide (⟨q2, q3, hd1, p1, p2, p3⟩ : _ ∧ _ ∧ _ ∧ _ ∧ _ ∧ _)
   have HM := hide (⟨hg3, hB3⟩ : _ ∧ _)
   replace hW3 := hide hW3
   replace hD := hide hD
   replace hDs := hide hDs
   replace hR := hide hR
   replace hRi := hide hRi
   replace hR1 := hide hR1
   clear hS hbox hc ht hl hi hi25 h5 q2 q3 hP hd1 hkp hP2 hg hsz hg3 p1 p2 p3 hB3 HC HR hW2
   go_wp2_with (first | (refine wpList_store_sub rfl _ _ _ rfl (w.heap.size + 1 + 1) (7 + c.length * 8) D rfl (by rw [← hD.out]; rfl) HN.out.1 HN.out.2.1 hDs.out HN.out.2.2.1 ?_; rw [hW3.out]; simp only [Act.put, List.setIfInBounds_toArray, List.set_cons_succ, List.set_cons_zero]) | (refine wpList_load_sub rfl _ _ rfl (w.heap.size + 1 + 1) 0 207 rfl (thrF nm (some c) ts0) _ HN.out.2.2.2.1 Tryz.underlying89 rfl Tryz.sizeTh ?_; rw [show ((List.range 207).map (thrF nm (some c) ts0)).toArray = R from hR.out]; simp only [Act.put, List.setIfInBounds_toArray, List.set_cons_succ, List.set_cons_zero]) | (refine wpList_store_sub rfl _ _ _ rfl (w.heap.size + 1) 0 R rfl rfl HN.out.2.2.2.2.1 HN.out.2.2.2.2.2 hRi.out hR1.out ?_; simp only [Act.put, List.setIfInBounds_toArray, List.set_cons_succ, List.set_cons_zero]))
   obtain ⟨hg3, hB3⟩ := HM.out
   have q := setCells_keep (S := fun _ => False) (w := w) (b := w.heap.size + 1) R.toList 0 (KeepS.ofBelow hB3) (.inr (by omega))
   have hF : RowF (W3.setCells (w.heap.size + 1) 0 R.toList) (w.heap.size + 1) 89 207 (thrF nm (some c) ts0) := by rw [← hR.out]; exact hg3.fill
   have hL := run_loadVar_sub (P := Tryz.prog) (W3.setCells (w.heap.size + 1) 0 R.toList) (w.heap.size + 1) 0 207 89 _ _ (fun j hj => by rw [Nat.zero_add]; exact hF.cell hj) Tryz.underlying89 rfl Tryz.sizeTh
   rw [show ((List.range 207).map (thrF nm (some c) ts0)).toArray = R from hR.out] at hL
   exact bodyPost_ret (row_val rfl rfl hL) rfl ⟨rfl, ⟨q.os, q.tape, q.output, q.size, fun k hk => q.block k hk id⟩⟩
end
section
variable {w w' : World} {b : Nat} {p : PD}
theorem mach_raw (xs : Nat → Value) (n : Int) : Tryz.prog.built 92 [(0, .agg #[xs 0, xs 1, xs 2, xs 3, xs 4, xs 5, xs 6, xs 7, xs 8]), (1, .agg #[xs 9, xs 10, xs 11, xs 12, xs 13, xs 14, xs 15, xs 16, xs 17]), (2, .agg #[xs 18, xs 19, xs 20, xs 21, xs 22, xs 23, xs 24, xs 25, xs 26]), (4, .int .i64 n)] = some (rowA 856 (fun k => if k < 27 then xs k else if k = 855 then .int .i64 n else thrF [] none ts0 ((k - 27) % 207))) := by kernel_rfl
def begS (p : PD) : MS := ⟨List.replicate p.vs.length 0, List.replicate p.fs.length 0, List.replicate p.ls.length (-1), List.replicate p.ts.length ts0⟩
theorem begS_th (p : PD) (t : Nat) : (begS p).th t = ts0 := by
 unfold MS.th begS
 rw [List.getD_eq_getElem?_getD, List.getElem?_replicate]
 split <;> rfl
theorem mcF_congr {s s' : MS} (h1 : s'.vars = s.vars) (h2 : s'.flags = s.flags) (h3 : s'.locks = s.locks) (h4 : ∀ t, s'.th t = s.th t) (k : Nat) : mcF p s' k = mcF p s k := by
 unfold mcF
 rw [h1, h2, h3, h4]
theorem beg_new_eq (p : PD) (k : Nat) (h : 0 < p.ts.length) : mcF p ((begS p).setT 0 { (begS p).th 0 with ph := 1 }) k = mcF p (newM p.vs.length p.fs.length p.ls.length p.ts.length) k := by
 refine mcF_congr (s := newM p.vs.length p.fs.length p.ls.length p.ts.length) (s' := (begS p).setT 0 { (begS p).th 0 with ph := 1 }) rfl rfl rfl (fun t => ?_) k
 have hl : 0 < (begS p).thr.length := by unfold begS; simpa using h
 rw [th_set _ 0 t _ hl, begS_th, begS_th]
 unfold MS.th newM
 dsimp only
 rw [List.getD_eq_getElem?_getD, List.getElem?_map]
 by_cases ht : t < p.ts.length
 ·rw [List.getElem?_range ht]; rfl
 ·rw [List.getElem?_eq_none (by simpa using ht)]
  show _ = ts0
  rw [if_neg (by omega)]
theorem beg_none_eq (p : PD) (k : Nat) (h : p.ts.length = 0) : mcF p (begS p) k = mcF p (newM p.vs.length p.fs.length p.ls.length p.ts.length) k := by
 refine mcF_congr (s := newM p.vs.length p.fs.length p.ls.length p.ts.length) (s' := begS p) rfl rfl rfl (fun t => ?_) k
 rw [begS_th]
 unfold MS.th newM
 rw [h]; rfl
def mcI (p : PD) (i k : Nat) : Value := if k < 27 then mcF p (begS p) k else if k = 855 then .int .i64 p.ts.length else if (k - 27) / 207 < i then mcF p (begS p) k else thrF [] none ts0 ((k - 27) % 207)
theorem mcI_full (p : PD) (hC : p.C.length = p.ts.length) (k : Nat) (hk : k < 856) : mcI p p.ts.length k = mcF p (begS p) k := by
 unfold mcI
 by_cases h1 : k < 27
 ·rw [if_pos h1]
 ·rw [if_neg h1]
  by_cases h2 : k = 855
  ·rw [if_pos h2, h2, mc_cnt]
  ·rw [if_neg h2]
   by_cases h3 : (k - 27) / 207 < p.ts.length
   ·rw [if_pos h3]
   ·rw [if_neg h3]
    unfold mcF
    rw [if_neg (by omega), if_neg (by omega), if_neg h1]
    rw [if_pos (by omega), begS_th, List.getD_eq_getElem?_getD, List.getElem?_eq_none (by omega), List.getElem?_eq_none (by omega)]; rfl
theorem mcI_zero (p : PD) : (fun k => if k < 27 then (fun k => if k < 9 then cellsF p.vs (List.replicate p.vs.length 0) k else if k < 18 then cellsF p.fs (List.replicate p.fs.length 0) (k - 9) else cellsF p.ls (List.replicate p.ls.length (-1)) (k - 18)) k else if k = 855 then .int .i64 p.ts.length else thrF [] none ts0 ((k - 27) % 207)) = mcI p 0 := by
 funext k
 unfold mcI
 dsimp only
 by_cases h1 : k < 27
 ·rw [if_pos h1, if_pos h1]
  unfold mcF
  by_cases h2 : k < 9
  ·rw [if_pos h2, if_pos h2]; rfl
  ·rw [if_neg h2, if_neg h2]
   by_cases h3 : k < 18
   ·rw [if_pos h3, if_pos h3]; rfl
   ·rw [if_neg h3, if_neg h3, if_pos h1]; rfl
 ·rw [if_neg h1, if_neg h1]
  by_cases h2 : k = 855
  ·rw [if_pos h2, if_pos h2]
  ·rw [if_neg h2, if_neg h2, if_neg (by omega)]
theorem RowF.putThr {i T : Nat} (h : RowF w b T 856 (mcI p i)) (hi : i < 4) : RowF (w.setCells b (27 + i * 207) (rowA 207 (thrF (p.ts.getD i []) (p.C[i]?) ts0)).toList) b T 856 (mcI p (i + 1)) := by
 refine (setCells_row _ (27 + i * 207) h (by simp [rowA]; omega)).congr fun k hk => ?_
 rw [show (rowA 207 (thrF (p.ts.getD i []) (p.C[i]?) ts0)).toList.length = 207 by simp [rowA]]
 by_cases e : 27 + i * 207 ≤ k ∧ k < 27 + i * 207 + 207
 ·rw [if_pos e]
  unfold mcI
  rw [if_neg (by omega), if_neg (by omega), if_pos (by omega)]
  have q := mc_thr p (begS p) hi (j := k - (27 + i * 207)) (by omega)
  rw [show 27 + i * 207 + (k - (27 + i * 207)) = k by omega, begS_th] at q
  rw [q]
  simp only [rowA, List.getD_eq_getElem?_getD, List.getElem?_map]
  rw [List.getElem?_range (by omega)]; rfl
 ·rw [if_neg e]
  unfold mcI
  split
  ·rfl
  ·split
   ·rfl
   ·by_cases e2 : (k - 27) / 207 < i
    ·rw [if_pos e2, if_pos (by omega)]
    ·rw [if_neg e2, if_neg (by omega)]
theorem wp_store_sub {P : Program} {o : Oper} {a : Act} {w : World} {K : Act → World → Prop} {Q : Exit → Act → World → Prop} (ty : TypeId) (x y : Operand) (ho : o.op = .store ty x y)
 (b off : Nat) (vs : Array Value) (hx : a.eval x = .pointer (some ⟨b, off, none⟩)) (hy : a.eval y = .agg vs) (hc : ∀ j, j < vs.size → (w.cell? ⟨b, off + j, none⟩).isSome = true) (hf : ∀ j, j < vs.size → w.frozen? ⟨b, off + j, none⟩ = false) (hi : (P.info? ty).map (·.size) = some vs.size) (h1 : ∀ v ∈ vs.toList, v.oneCell' = true)
 (h : K (a.put o.dst undef) (w.setCells b off vs.toList)) : o.wp P a w K Q := by
 unfold Oper.wp execOp
 simp only [ho, hx, hy, Instr.storeAt, Instr.sureAddr, Sem.run_bind, Sem.run_pure, Result.andThen_ok, run_storeVar_sub w b off ty vs hc hf hi h1]
 exact h
theorem wp_build_at {P : Program} {o : Oper} {a : Act} {w : World} {K : Act → World → Prop} {Q : Exit → Act → World → Prop} (t : TypeId) (parts : Array (Nat × Operand)) (ho : o.op = .build t parts) (l : List (Nat × Value)) (hl : (parts.toList.map fun q => (q.1, a.eval q.2)) = l) (cells : Array Value) (hb : P.built t l = some cells)
 (h : K (a.put o.dst (.agg cells)) w) : o.wp P a w K Q := by
 have e : (parts.map fun (i, x) => (i, a.eval x)).toList = l := by rw [Array.toList_map]; exact hl
 refine wp_build t parts ho (by rw [e, hb]; rfl) ?_
 rw [e, hb]
 exact h
theorem wp_box_any {P : Program} {o : Oper} {a : Act} {w : World} {K : Act → World → Prop} {Q : Exit → Act → World → Prop} (t : TypeId) (x : Operand) (ho : o.op = .box t x) (cells : Array Value) (hx : a.eval x = .agg cells)
 (h : K (a.put o.dst (.pointer (some ⟨w.heap.size, 0, none⟩))) (w.alloc (.cells cells t))) : o.wp P a w K Q := by
 unfold Oper.wp execOp
 simp only [ho, hx, Sem.run_bind, Instr.box, newVar, newRow, run_newObj_alloc, Sem.run_pure, Result.andThen_ok]
 exact h
end
end Go.Proofs.YtcfpedjfofpnkaaGreatDoor
