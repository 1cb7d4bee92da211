import Derived.Test.YtcfpedjfofpnkaaGreatDoorRvR0
import Derived.Test.YtcfpedjfofpnkaaGreatDoorRv5
set_option linter.unusedVariables false
set_option linter.unusedSimpArgs false
namespace Go.Proofs.YtcfpedjfofpnkaaGreatDoor
open Go.RowKit Go.Shelf Go.Proofs.Cod
def insR (x : In7) (ln : Int) (wd : Tx) : Array Value := #[.string (bs x.op), .int .i64 x.r, .bool x.aR, .int .i64 x.aN, .bool x.bR, .int .i64 x.bN, .int .i64 x.x, .int .i64 ln, .string (bs wd)]
def codeOf (P : RP) : List (List In7) := P.thr.map fun th => th.code.map RI.i
section
variable {w w' : World} {a0 a1 a2 a3 a4 a5 : Option Addr} {nv nf nl nt nr : Nat} {m : MS} {P : RP} {TV : List (Value × Value)} {x1 x2 x3 x4 : Option Addr} {y1 y2 y3 z1 z2 z3 z4 : Nat}
theorem nine_val {w : World} {fn : Func} {tmps : Array Value} {b k : Nat} {v0 v1 v2 v3 v4 v5 v6 v7 v8 : Value} (hr : fn.results = #[.cell k 114]) (ht : tmps[k]? = some (.pointer (some ⟨b, 0, none⟩))) (hc : w.heap[b]? = some (.cells #[v0, v1, v2, v3, v4, v5, v6, v7, v8] 114)) : (results fn tmps).run Tryz.prog w = .ok (.agg #[v0, v1, v2, v3, v4, v5, v6, v7, v8]) w := by
 obtain ⟨c0, c1, c2, c3, c4, c5, c6, c7, c8⟩ := nine_cells hc
 simp [results, hr, ht, go_sem, c0, c1, c2, c3, c4, c5, c6, c7, c8]
set_option maxRecDepth 100000 in
set_option maxHeartbeats 1000000 in
theorem rnext_any {c0 c1 c2 c3 c4 c5 : Nat} (hQ : DView w (.slice x1 y1 z1) (.slice x2 y2 z2) (.slice x3 y3 z3) (.slice x4 nt z4) P TV) (hnt : P.thr.length = nt) (h : DocS w a0 a1 a2 a3 a4 a5 nv nf nl nt nr m) {t : Nat} (ht : t < nt) (hpc : (m.th t).pc ≤ ((codeOf P).getD t []).length) :
 Calls Tryz.prog 38 #[.agg #[.slice x1 y1 z1, .slice x2 y2 z2, .slice x3 y3 z3, .slice x4 nt z4], .agg #[.slice a0 nv c0, .slice a1 nf c1, .slice a2 nl c2, .slice a3 nt c3, .slice a4 nt c4, .slice a5 nr c5], .int .i64 t] w fun e w' => ∃ ln wd, e = .returned (.agg (insR (nextI (codeOf P) t (m.th t)) ln wd)) ∧ Below w.heap.size w w' := by
 obtain ⟨W, hW⟩ : ∃ W, ((w.alloc (.cells #[.slice x1 y1 z1, .slice x2 y2 z2, .slice x3 y3 z3, .slice x4 nt z4] 29)).alloc (.cells #[.slice a0 nv c0, .slice a1 nf c1, .slice a2 nl c2, .slice a3 nt c3, .slice a4 nt c4, .slice a5 nr c5] 36)).alloc (.cells #[.string ⟨#[]⟩, .int .i64 0, .bool false, .int .i64 0, .bool false, .int .i64 0, .int .i64 0, .int .i64 0, .string ⟨#[]⟩] 114) = W := ⟨_, rfl⟩
 obtain ⟨hB, k1, k2, k3, hz⟩ := three_new _ _ _ _ hW
 have HB := hide (⟨hB, k3⟩ : _ ∧ _)
 obtain ⟨th, hth⟩ : ∃ th, P.thr[t]? = some th := ⟨_, List.getElem?_eq_getElem (by omega)⟩
 obtain ⟨p, hp⟩ : ∃ p, TV[t]? = some p := ⟨_, List.getElem?_eq_getElem (by rw [hQ.len]; omega)⟩
 have hQW := hQ.below hB
 obtain ⟨g, cap, hgv, -, -, ct⟩ := hQW.thrAt hth hp
 injection hgv with hga hnq hcq
 subst hga
 clear hcq hnq
 have hrow := hQW.c t th p hth hp
 have hC : (codeOf P).getD t [] = th.code.map RI.i := by unfold codeOf; rw [List.getD_eq_getElem?_getD, List.getElem?_map, hth]; rfl
 obtain ⟨b, off, rfl, -, hcp⟩ := (h.below hB).pcAt ht
 have hx : nextI (codeOf P) t (m.th t) = (th.code.map RI.i).getD (m.th t).pc endI := by unfold nextI; rw [hC]
 rw [hx]
 rw [hC, List.length_map] at hpc
 obtain ⟨pc, hpcq⟩ : ∃ pc, (m.th t).pc = pc := ⟨_, rfl⟩
 rw [hpcq] at hcp hpc ⊢
 obtain ⟨-, -, -, q3⟩ := four_cells k1
 obtain ⟨-, -, -, s3, -, -⟩ := six_cells k2
 obtain ⟨r0, r1, r2, r3, r4, r5, r6, r7, r8⟩ := nine_cells k3
 obtain ⟨fz0, fz1, fz2, fz3, fz4, fz5, fz6, fz7, fz8⟩ := (⟨free_block k3 0, free_block k3 1, free_block k3 2, free_block k3 3, free_block k3 4, free_block k3 5, free_block k3 6, free_block k3 7, free_block k3 8⟩ : _ ∧ _ ∧ _ ∧ _ ∧ _ ∧ _ ∧ _ ∧ _ ∧ _)
 have htn : (t : Int) < (nt : Int) := by omega
 obtain ⟨ca, cc, hpv⟩ := owns_len hrow
 by_cases e : pc = th.code.length
 ·have e1 : (th.code.map RI.i).getD pc endI = endI := by rw [List.getD_eq_getElem?_getD, List.getElem?_eq_none (by rw [List.length_map]; omega)]; rfl
  rw [e1]
  rw [hpv] at ct
  obtain ⟨cl, hcl⟩ : ∃ cl, th.code.length = cl := ⟨_, rfl⟩
  rw [hcl] at e ct
  subst e
  clear hB k1 k2 k3 hz hQW hQ hrow hth hp h hnt ht hC hx hpc hpcq hcl e1 hpv
  go_enter Tryz.func38, Tryz.ntmps38
  go_upto_region 1 with fail
  try rw [hW]
  go_wp2_with fail
  exact bodyPost_ret (nine_val rfl rfl (nine _ _ _ _ _ _ _ _ _ HB.out.2)) rfl ⟨0, [], rfl, below_nine _ _ _ _ _ _ _ _ _ HB.out.1 (by omega)⟩
 ·have hlt : pc < th.code.length := by omega
  obtain ⟨r, hr⟩ : ∃ r, th.code[pc]? = some r := ⟨_, List.getElem?_eq_getElem hlt⟩
  have e1 : (th.code.map RI.i).getD pc endI = r.i := by rw [List.getD_eq_getElem?_getD, List.getElem?_map, hr]; rfl
  rw [e1]
  obtain ⟨cg, cc, hpv, -, i9⟩ := i9_at hrow hr
  rw [hpv] at ct
  obtain ⟨cl, hcl⟩ : ∃ cl, th.code.length = cl := ⟨_, rfl⟩
  rw [hcl] at e ct hlt
  have hne : ((pc : Int) == (cl : Int)) = false := by simp only [beq_eq_false_iff_ne]; omega
  have hlt2 : (pc : Int) < (cl : Int) := by omega
  obtain ⟨i0, i1, i2, i3, i4, i5, i6, i7, i8⟩ := i9
  obtain ⟨xi, ln, wd⟩ := r
  dsimp only at i0 i1 i2 i3 i4 i5 i6 i7 i8 ⊢
  clear hB k1 k2 k3 hz hQW hQ hrow hth hp h hnt ht hC hx hpc hpcq hcl e1 hpv hr hlt e
  go_enter Tryz.func38, Tryz.ntmps38
  go_upto_region 1 with fail
  try rw [hW]
  go_wp2_with fail
  exact bodyPost_ret (nine_val rfl rfl (nine _ _ _ _ _ _ _ _ _ HB.out.2)) rfl ⟨ln, wd, rfl, below_nine _ _ _ _ _ _ _ _ _ HB.out.1 (by omega)⟩
end
structure XB (nv nf nl nt : Nat) (x : In7) : Prop where
 x0 : 0 ≤ x.x
 vr : x.op = oLoad ∨ x.op = oStore → x.x < nv
 fl : x.op = oGet ∨ x.op = oPut → x.x < nf
 lk : x.op = oLock ∨ x.op = oUnlock → x.x < nl
 th : x.op = oSpawn ∨ x.op = oJoin → x.x < nt
 r : 0 ≤ x.r ∧ x.r < 4
 a : argB4 x.aR x.aN
 b : argB4 x.bR x.bN
 op : x.op = oSet ∨ x.op = oAdd ∨ x.op = oSub ∨ x.op = oMul ∨ x.op = oLoad ∨ x.op = oStore ∨ x.op = oGet ∨ x.op = oPut ∨ x.op = oLock ∨ x.op = oUnlock ∨ x.op = oSpawn ∨ x.op = oJoin ∨ x.op = oJump ∨ x.op = oJeq ∨ x.op = oJlt ∨ x.op = oCheck ∨ x.op = oEnd
theorem xb_of {nv nf nl nt n : Nat} {x : In7} (hx : x = endI ∨ InsX nv nf nl nt n x) : XB nv nf nl nt x := by
 rcases hx with rfl | hx
 ·refine ⟨by decide, fun q => ?_, fun q => ?_, fun q => ?_, fun q => ?_, ⟨by decide, by decide⟩, ⟨by decide, by decide, fun q => by cases q⟩, ⟨by decide, by decide, fun q => by cases q⟩, by simp [endI, newIns]⟩
  ·rcases q with q | q <;> cases q
  ·rcases q with q | q <;> cases q
  ·rcases q with q | q <;> cases q
  ·rcases q with q | q <;> cases q
 ·obtain ⟨q, hq, hop, x1, x2, x3, x4, x5⟩ := hx.ex
  obtain ⟨⟨s1, s2⟩, s3, s4⟩ := hx.sm
  simp only [shapeT, List.mem_cons, List.not_mem_nil, or_false] at hq
  refine ⟨hx.x0, fun e => ?_, fun e => ?_, fun e => ?_, fun e => ?_, ⟨s1, s2⟩, s3, s4, ?_⟩
  ·rw [hop] at e
   rcases hq with rfl | rfl | rfl | rfl | rfl | rfl | rfl | rfl | rfl | rfl | rfl | rfl | rfl | rfl | rfl | rfl | rfl <;> first | exact x1 (by decide) | (rcases e with e | e <;> exact absurd e (by decide))
  ·rw [hop] at e
   rcases hq with rfl | rfl | rfl | rfl | rfl | rfl | rfl | rfl | rfl | rfl | rfl | rfl | rfl | rfl | rfl | rfl | rfl <;> first | exact x2 (by decide) | (rcases e with e | e <;> exact absurd e (by decide))
  ·rw [hop] at e
   rcases hq with rfl | rfl | rfl | rfl | rfl | rfl | rfl | rfl | rfl | rfl | rfl | rfl | rfl | rfl | rfl | rfl | rfl <;> first | exact x3 (by decide) | (rcases e with e | e <;> exact absurd e (by decide))
  ·rw [hop] at e
   rcases hq with rfl | rfl | rfl | rfl | rfl | rfl | rfl | rfl | rfl | rfl | rfl | rfl | rfl | rfl | rfl | rfl | rfl <;> first | exact x4 (by decide) | (rcases e with e | e <;> exact absurd e (by decide))
  ·rw [hop]
   rcases hq with rfl | rfl | rfl | rfl | rfl | rfl | rfl | rfl | rfl | rfl | rfl | rfl | rfl | rfl | rfl | rfl | rfl <;> decide
theorem is_at {w : World} {a : Option Addr} {l : List Int} (h : Is w a l) {i : Nat} (hi : i < l.length) : ∃ b off, a = some ⟨b, off, none⟩ ∧ b < w.heap.size ∧ w.cell? ⟨b, off + i, none⟩ = some (.int .i64 (l.getD i 0)) := h i hi
section
variable {w w' : World} {a0 a1 a2 a3 a4 a5 : Option Addr} {nv nf nl nt nr : Nat} {m : MS} {P : RP} {TV : List (Value × Value)} {x1 x2 x3 x4 : Option Addr} {y1 y2 y3 z1 z2 z3 z4 : Nat}
set_option maxRecDepth 100000 in
set_option maxHeartbeats 2000000 in
theorem can_any {c0 c1 c2 c3 c4 c5 : Nat} (hQ : DView w (.slice x1 y1 z1) (.slice x2 y2 z2) (.slice x3 y3 z3) (.slice x4 nt z4) P TV) (hnt : P.thr.length = nt) (h : DocS w a0 a1 a2 a3 a4 a5 nv nf nl nt nr m) (hM : MOk nv nf nl (codeOf P) m) (hf : PFit nv nf nl (codeOf P)) (t : Int) :
 Calls Tryz.prog 16 #[.agg #[.slice x1 y1 z1, .slice x2 y2 z2, .slice x3 y3 z3, .slice x4 nt z4], .agg #[.slice a0 nv c0, .slice a1 nf c1, .slice a2 nl c2, .slice a3 nt c3, .slice a4 nt c4, .slice a5 nr c5], .int .i64 t] w fun e w' => e = .returned (.int .i64 (canM (codeOf P) m t)) ∧ Below w.heap.size w w' := by
 obtain ⟨W, hW⟩ : ∃ W, (w.alloc (.cells #[.slice x1 y1 z1, .slice x2 y2 z2, .slice x3 y3 z3, .slice x4 nt z4] 29)).alloc (.cells #[.slice a0 nv c0, .slice a1 nf c1, .slice a2 nl c2, .slice a3 nt c3, .slice a4 nt c4, .slice a5 nr c5] 36) = W := ⟨_, rfl⟩
 obtain ⟨hB, k1, k2, hz⟩ := two_new _ _ _ hW
 have HB := hide hB
 have hcl : (codeOf P).length = nt := by unfold codeOf; rw [List.length_map]; exact hnt
 have hml : m.thr.length = nt := h.lt
 obtain ⟨-, -, -, q3⟩ := four_cells k1
 by_cases h1 : t < 0
 ·have hc : canM (codeOf P) m t = 5 := by unfold canM; rw [if_pos (.inl h1)]
  rw [hc]
  have d1 : decide (t < 0) = true := by simpa using h1
  clear h hf hM hc h1 hQ hnt hB k1 k2 hz hcl hml
  go_enter Tryz.func16, Tryz.ntmps16
  go_upto_region 1 with fail
  try rw [hW]
  go_wp2_with fail
  go_ret
  exact ⟨rfl, HB.out⟩
 ·obtain ⟨tn, rfl⟩ : ∃ tn : Nat, t = tn := ⟨t.toNat, by omega⟩
  have d1 : decide ((tn : Int) < 0) = false := by simp only [decide_eq_false_iff_not]; exact h1
  by_cases h2 : nt ≤ tn
  ·have hc : canM (codeOf P) m (tn : Int) = 5 := by unfold canM; rw [if_pos (.inr (.inl (by rw [hml]; omega)))]
   rw [hc]
   have d2 : (nt : Int) ≤ (tn : Int) := by omega
   clear h hf hM hc h1 hQ hnt hB k1 k2 hz hcl hml h2
   go_enter Tryz.func16, Tryz.ntmps16
   go_upto_region 1 with fail
   try rw [hW]
   go_wp2_with fail
   go_ret
   exact ⟨rfl, HB.out⟩
  ·have htn : tn < nt := by omega
   have d2 : decide ((nt : Int) ≤ (tn : Int)) = false := by simp only [decide_eq_false_iff_not]; omega
   have d3 : (tn : Int) < (nt : Int) := by omega
   obtain ⟨-, -, -, -, s4, -⟩ := six_cells k2
   obtain ⟨b, off, e4, hbl, hph⟩ := (h.below hB).phAt htn
   have hT := hM.th tn (by omega)
   have hp := hT.ph
   have hcd : canM (codeOf P) m (tn : Int) = if (m.th tn).ph = 0 then 5 else if overM (m.th tn) = true then 6 else if waitsM m (nextI (codeOf P) tn (m.th tn)) = true then 7 else 0 := by
    unfold canM
    rw [Int.toNat_natCast]
    by_cases e : (m.th tn).ph = 0
    ·rw [if_pos (.inr (.inr e)), if_pos e]
    ·rw [if_neg (by rintro (q | q | q); omega; (rw [hml] at q; omega); exact e q), if_neg e]
   rw [hcd]
   by_cases e0 : (m.th tn).ph = 0
   ·rw [if_pos e0]
    rw [e0] at hph
    subst e4
    clear h hf hM h1 hQ hnt hB k1 k2 hz hcl hml h2 hT hp hcd e0 htn hbl
    go_enter Tryz.func16, Tryz.ntmps16
    go_upto_region 1 with fail
    try rw [hW]
    go_wp2_with fail
    go_ret
    exact ⟨rfl, HB.out⟩
   ·rw [if_neg e0]
    by_cases e1 : (m.th tn).ph = 1
    ·have ho : overM (m.th tn) = false := by unfold overM; rw [e1]; rfl
     rw [ho, if_neg (by simp)]
     rw [e1] at hph
     have hN := rnext_any (c0 := c0) (c1 := c1) (c2 := c2) (c3 := c3) (c4 := c4) (c5 := c5) (hQ.below hB) hnt (h.below hB) htn (hT.pc (by omega))
     have hX := xb_of ((nextI_fit hf (by omega : tn < (codeOf P).length) (hT.pc (by omega))).imp id And.left)
     rw [hcl] at hX
     obtain ⟨x, hxq⟩ : ∃ x, nextI (codeOf P) tn (m.th tn) = x := ⟨_, rfl⟩
     rw [hxq] at hN hX ⊢
     obtain ⟨res, hres⟩ : ∃ r : Int, (if waitsM m x = true then 7 else 0) = r := ⟨_, rfl⟩
     rw [hres]
     replace hres := hide hres
     have HD := hide (⟨h.below hB, hM, hX, hcl⟩ : _ ∧ _ ∧ _ ∧ _)
     have HK := hide (⟨k1, k2, hz⟩ : _ ∧ _ ∧ _)
     have e4' := e4
     subst e4
     clear h hf hM h1 hQ hnt hB k1 k2 hz hcl hml h2 hT hp hcd e0 htn hbl hxq hX ho e1 e4'
     obtain ⟨t0, t1, t2, t3⟩ := four_cells HK.out.1
     obtain ⟨s0, s1, s2, s3, -, s5⟩ := six_cells HK.out.2.1
     go_enter Tryz.func16, Tryz.ntmps16
     go_upto_region 1 with fail
     try rw [hW]
     go_wp2_with fail
     refine hN.mono ?_
     rintro e w2 ⟨ln, wd, rfl, hb2⟩
     unfold insR
     clear hN s0 s1 s2 s3 s4 s5 t0 t1 t2 t3 q3 hph
     obtain ⟨W5, hW5⟩ : ∃ W5, w2.alloc (.cells (insR x ln wd) 114) = W5 := ⟨_, rfl⟩
     have hb5 : Below w2.heap.size w2 W5 := by rw [← hW5]; exact (Below.refl _ _).alloc (Nat.le_refl _) _
     have k5 : W5.heap[w2.heap.size]? = some (.cells (insR x ln wd) 114) := by rw [← hW5]; exact World.alloc_heap_new w2 _
     have hB5 : Below W.heap.size W W5 := hb2.trans (hb5.mono hb2.size)
     have HF := hide (HB.out.trans (hB5.mono HB.out.size))
     have s6 := (hB5.block (w.heap.size + 1) (by have := HK.out.2.2; omega)).trans HK.out.2.1
     obtain ⟨-, -, s2, -, s4, -⟩ := six_cells s6
     obtain ⟨hD, hM, hX, hcl⟩ := HD.out
     have hD5 := hD.below hB5
     unfold insR at k5 hW5
     obtain ⟨i0, -, -, -, -, -, i6, -, -⟩ := nine_cells k5
     obtain ⟨n, hn⟩ : ∃ n : Nat, x.x = n := ⟨x.x.toNat, by have := hX.x0; omega⟩
     have hnt2 : x.x.toNat = n := by omega
     have f0 : ((bs x.op).toList == oLock) = decide (x.op = oLock) := by rw [bs_toList]; exact Bool.eq_iff_iff.2 (by simp)
     have f1 : ((bs x.op).toList == oJoin) = decide (x.op = oJoin) := by rw [bs_toList]; exact Bool.eq_iff_iff.2 (by simp)
     have f2 : ((bs x.op).toList == oSpawn) = decide (x.op = oSpawn) := by rw [bs_toList]; exact Bool.eq_iff_iff.2 (by simp)
     have hm4 : True := trivial
     have hml : m.thr.length = nt := hD.lt
     by_cases h0 : x.op = oLock
     ·have hnl : n < m.locks.length := by rw [hD.ll]; have := hX.lk (.inl h0); omega
      obtain ⟨lb, lo, eA, -, hc⟩ := is_at hD5.l hnl
      subst eA
      have hw : waitsM m x = decide (0 ≤ m.locks.getD n 0) := by unfold waitsM; rw [if_pos h0, hnt2]; have q := hM.lv _ (getD_mem (d := 0) hnl); rw [decide_eq_decide]; omega
      generalize m.locks.getD n 0 = v at *
      have hlt : (n : Int) < (nl : Int) := by have := hD.ll; omega
      obtain ⟨op, r, aR, aN, bR, bN, y⟩ := x
      have hn : y = n := hn
      subst hn
      have h0 : op = oLock := h0
      subst h0
      dsimp only at *
      clear hX hD hD5 hM hcl hb2 hb5 hB5 s6 k5 HD HK f0 f1 f2 hnt2 hm4 hnl hml
      by_cases q : 0 ≤ v
      ·have q1 : decide (0 ≤ v) = true := by simpa using q
       have hr : Hid ((7 : Int) = res) := by show (7 : Int) = res; rw [← hres.out, hw, if_pos q1]
       clear hw hres
       skip
       unfold oLock bs at *
       go_upto_region 6 with fail
       try rw [hW5]
       clear hW5
       go_wp2_with fail
       go_ret
       exact ⟨by rw [← hr.out]; rfl, HF.out⟩
      ·have q1 : decide (0 ≤ v) = false := by simpa using q
       have hr : Hid ((0 : Int) = res) := by show (0 : Int) = res; rw [← hres.out, hw, if_neg (by rw [q1]; simp)]
       clear hw hres
       skip
       unfold oLock bs at *
       go_upto_region 6 with fail
       try rw [hW5]
       clear hW5
       go_wp2_with fail
       go_ret
       exact ⟨by rw [← hr.out]; rfl, HF.out⟩
     ·by_cases h1 : x.op = oJoin
      ·have hnl : n < (stL m).length := by rw [stL_len, hml]; have := hX.th (.inr h1); omega
       obtain ⟨lb, lo, eA, -, hc⟩ := is_at hD5.s hnl
       simp only [Option.some.injEq, Addr.mk.injEq, and_true] at eA
       obtain ⟨eA1, eA2⟩ := eA
       subst eA1 eA2
       have hw : waitsM m x = decide ((stL m).getD n 0 < 2) := by unfold waitsM; rw [if_neg h0, if_pos h1, hnt2]; have q := (hM.th n (by rw [hcl]; have q := hnl; rw [stL_len, hml] at q; exact q)).ph; rw [stL_get m (by have q := hnl; rw [stL_len] at q; exact q)]; unfold overM; rw [Bool.eq_iff_iff]; simp only [Bool.not_eq_true', Bool.or_eq_false_iff, beq_eq_false_iff_ne, decide_eq_true_eq]; omega
       generalize (stL m).getD n 0 = v at *
       have hlt : (n : Int) < (nt : Int) := by have q := hnl; rw [stL_len, hml] at q; omega
       obtain ⟨op, r, aR, aN, bR, bN, y⟩ := x
       have hn : y = n := hn
       subst hn
       have h1 : op = oJoin := h1
       subst h1
       dsimp only at *
       clear h0 hX hD hD5 hM hcl hb2 hb5 hB5 s6 k5 HD HK f0 f1 f2 hnt2 hm4 hnl hml
       by_cases q : v < 2
       ·have q1 : decide (v < 2) = true := by simpa using q
        have hr : Hid ((7 : Int) = res) := by show (7 : Int) = res; rw [← hres.out, hw, if_pos q1]
        clear hw hres
        skip
        unfold oJoin bs at *
        go_upto_region 6 with fail
        try rw [hW5]
        clear hW5
        go_wp2_with fail
        go_ret
        exact ⟨by rw [← hr.out]; rfl, HF.out⟩
       ·have q1 : decide (v < 2) = false := by simpa using q
        have hr : Hid ((0 : Int) = res) := by show (0 : Int) = res; rw [← hres.out, hw, if_neg (by rw [q1]; simp)]
        clear hw hres
        skip
        unfold oJoin bs at *
        go_upto_region 6 with fail
        try rw [hW5]
        clear hW5
        go_wp2_with fail
        go_ret
        exact ⟨by rw [← hr.out]; rfl, HF.out⟩
      ·by_cases h2 : x.op = oSpawn
       ·have hnl : n < (stL m).length := by rw [stL_len, hml]; have := hX.th (.inl h2); omega
        obtain ⟨lb, lo, eA, -, hc⟩ := is_at hD5.s hnl
        simp only [Option.some.injEq, Addr.mk.injEq, and_true] at eA
        obtain ⟨eA1, eA2⟩ := eA
        subst eA1 eA2
        have hw : waitsM m x = decide ((stL m).getD n 0 ≠ 0) := by unfold waitsM; rw [if_neg h0, if_neg h1, if_pos h2, hnt2, stL_get m (by have q := hnl; rw [stL_len] at q; exact q)]
        generalize (stL m).getD n 0 = v at *
        have hlt : (n : Int) < (nt : Int) := by have q := hnl; rw [stL_len, hml] at q; omega
        obtain ⟨op, r, aR, aN, bR, bN, y⟩ := x
        have hn : y = n := hn
        subst hn
        have h2 : op = oSpawn := h2
        subst h2
        dsimp only at *
        clear h0 h1 hX hD hD5 hM hcl hb2 hb5 hB5 s6 k5 HD HK f0 f1 f2 hnt2 hm4 hnl hml
        by_cases q : v ≠ 0
        ·have q1 : decide (v ≠ 0) = true := by simpa using q
         have hr : Hid ((7 : Int) = res) := by show (7 : Int) = res; rw [← hres.out, hw, if_pos q1]
         clear hw hres
         have q2 : (v != 0) = true := by simpa using q
         unfold oSpawn bs at *
         go_upto_region 6 with fail
         try rw [hW5]
         clear hW5
         go_wp2_with fail
         go_ret
         exact ⟨by rw [← hr.out]; rfl, HF.out⟩
        ·have q1 : decide (v ≠ 0) = false := by simpa using q
         have hr : Hid ((0 : Int) = res) := by show (0 : Int) = res; rw [← hres.out, hw, if_neg (by rw [q1]; simp)]
         clear hw hres
         have q2 : (v != 0) = false := by simpa using q
         unfold oSpawn bs at *
         go_upto_region 6 with fail
         try rw [hW5]
         clear hW5
         go_wp2_with fail
         go_ret
         exact ⟨by rw [← hr.out]; rfl, HF.out⟩
       ·have hw : waitsM m x = false := by unfold waitsM; rw [if_neg h0, if_neg h1, if_neg h2]
        have hr : Hid ((0 : Int) = res) := by show (0 : Int) = res; rw [← hres.out, hw, if_neg (by simp)]
        rw [decide_eq_false h0] at f0
        rw [decide_eq_false h1] at f1
        rw [decide_eq_false h2] at f2
        unfold oLock at f0
        unfold oJoin at f1
        unfold oSpawn at f2
        clear hX hD hD5 hM hcl hb2 hb5 hB5 s6 k5 HD HK hw hres hnt2 hm4 hml h0 h1 h2 hn
        go_upto_region 6 with fail
        try rw [hW5]
        clear hW5
        go_wp2_with fail
        go_ret
        exact ⟨by rw [← hr.out]; rfl, HF.out⟩
    ·have ho : overM (m.th tn) = true := by
      have : (m.th tn).ph = 2 ∨ (m.th tn).ph = 3 := by omega
      unfold overM; rcases this with q | q <;> rw [q] <;> rfl
     rw [if_pos ho]
     obtain ⟨ph, hpq⟩ : ∃ ph, (m.th tn).ph = ph := ⟨_, rfl⟩
     rw [hpq] at hph e0 e1
     have g0 : (ph == 0) = false := by simpa using e0
     have g1 : (ph != 1) = true := by simpa using e1
     subst e4
     clear h hf hM h1 hQ hnt hB k1 k2 hz hcl hml h2 hT hp hcd e0 htn hbl ho e1 hpq
     go_enter Tryz.func16, Tryz.ntmps16
     go_upto_region 1 with fail
     try rw [hW]
     go_wp2_with fail
     go_ret
     exact ⟨rfl, HB.out⟩
end
end Go.Proofs.YtcfpedjfofpnkaaGreatDoor
namespace Go.Proofs.YtcfpedjfofpnkaaGreatDoor
open Go.RowKit Go.Proofs.Cod
def failsM (m : MS) (t : Nat) (x : In7) : Bool := if x.op = oUnlock then decide (m.locks.getD x.x.toNat 0 ≠ (t : Int)) else if x.op = oCheck then decide (vlM (m.th t) x.aR x.aN ≠ vlM (m.th t) x.bR x.bN) else false
def swM (m : MS) (t : Nat) (x : In7) : MS × Ev × Nat :=
 let th := m.th t
 let a := vlM th x.aR x.aN
 let b := vlM th x.bR x.bN
 let n := x.x.toNat
 let reg := fun v => m.setT t { th with regs := th.regs.set x.r.toNat v }
 if x.op = oSet then (reg a, ⟨t, 0, 0, 0⟩, th.pc + 1)
 else if x.op = oAdd then (reg ((a + b) % 1000), ⟨t, 0, 0, 0⟩, th.pc + 1)
 else if x.op = oSub then (reg ((a - b + 1000) % 1000), ⟨t, 0, 0, 0⟩, th.pc + 1)
 else if x.op = oMul then (reg (a * b % 1000), ⟨t, 0, 0, 0⟩, th.pc + 1)
 else if x.op = oLoad then (reg (m.vars.getD n 0), ⟨t, 1, x.x, m.vars.getD n 0⟩, th.pc + 1)
 else if x.op = oStore then ({ m with vars := m.vars.set n a }, ⟨t, 2, x.x, a⟩, th.pc + 1)
 else if x.op = oGet then (reg (m.flags.getD n 0), ⟨t, 3, x.x, m.flags.getD n 0⟩, th.pc + 1)
 else if x.op = oPut then ({ m with flags := m.flags.set n a }, ⟨t, 4, x.x, a⟩, th.pc + 1)
 else if x.op = oLock then ({ m with locks := m.locks.set n t }, ⟨t, 5, x.x, 0⟩, th.pc + 1)
 else if x.op = oUnlock then ({ m with locks := m.locks.set n (-1) }, ⟨t, 6, x.x, 0⟩, th.pc + 1)
 else if x.op = oSpawn then (m.setT n { m.th n with ph := 1 }, ⟨t, 7, x.x, 0⟩, th.pc + 1)
 else if x.op = oJoin then (m, ⟨t, 8, x.x, 0⟩, th.pc + 1)
 else if x.op = oEnd then (m.setT t { th with ph := 2 }, ⟨t, 10, 0, 0⟩, th.pc)
 else (m, ⟨t, 0, 0, 0⟩, th.pc + 1)
def jumpM (m : MS) (t : Nat) (x : In7) : Bool := decide (x.op = oJump ∨ (x.op = oJeq ∧ vlM (m.th t) x.aR x.aN = vlM (m.th t) x.bR x.bN) ∨ (x.op = oJlt ∧ vlM (m.th t) x.aR x.aN < vlM (m.th t) x.bR x.bN))
def toM (m : MS) (t : Nat) (x : In7) (nx : Nat) : Nat := if jumpM m t x = true then x.x.toNat else nx
def goneM (m : MS) (t : Nat) (pc : Nat) : MS := m.setT t { m.th t with pc := pc }
def opsL : List Tx := [oSet, oAdd, oSub, oMul, oLoad, oStore, oGet, oPut, oLock, oUnlock, oSpawn, oJoin, oJump, oJeq, oJlt, oCheck, oEnd]
section
variable {m : MS} {t : Nat} {x : In7}
theorem setT_setT (m : MS) (t : Nat) (a b : TS) : (m.setT t a).setT t b = m.setT t b := by unfold MS.setT; rw [List.set_set]
theorem gone_setT (ht : t < m.thr.length) (a : TS) (pc : Nat) : goneM (m.setT t a) t pc = m.setT t { a with pc := pc } := by
 unfold goneM
 rw [setT_setT, th_set m t t a ht, if_pos rfl]
theorem sw_stp (ht : t < m.thr.length) (hop : x.op ∈ opsL) (hf : failsM m t x = false) : stpM true m t x = (goneM (swM m t x).1 t (toM m t x (swM m t x).2.2), (swM m t x).2.1) := by
 obtain ⟨op, r, aR, aN, bR, bN, y⟩ := x
 have hj : ∀ (o : Tx), o ≠ oJump → o ≠ oJeq → o ≠ oJlt → jumpM m t ⟨o, r, aR, aN, bR, bN, y⟩ = false := fun o h1 h2 h3 => by
  unfold jumpM
  simp [h1, h2, h3]
 have hto : ∀ (o : Tx) (k : Nat), o ≠ oJump → o ≠ oJeq → o ≠ oJlt → toM m t ⟨o, r, aR, aN, bR, bN, y⟩ k = k := fun o k h1 h2 h3 => by
  unfold toM
  rw [hj o h1 h2 h3, if_neg (by simp)]
 simp only [opsL, List.mem_cons, List.not_mem_nil, or_false] at hop
 rcases hop with rfl | rfl | rfl | rfl | rfl | rfl | rfl | rfl | rfl | rfl | rfl | rfl | rfl | rfl | rfl | rfl | rfl
 ·rw [hto _ _ (by decide) (by decide) (by decide)]
  show (m.setT t _, _) = (goneM (m.setT t _) t _, _)
  rw [gone_setT ht]; rfl
 ·rw [hto _ _ (by decide) (by decide) (by decide)]
  show (m.setT t _, _) = (goneM (m.setT t _) t _, _)
  rw [gone_setT ht]; rfl
 ·rw [hto _ _ (by decide) (by decide) (by decide)]
  show (m.setT t _, _) = (goneM (m.setT t _) t _, _)
  rw [gone_setT ht]; rfl
 ·rw [hto _ _ (by decide) (by decide) (by decide)]
  show (m.setT t _, _) = (goneM (m.setT t _) t _, _)
  rw [gone_setT ht]; rfl
 ·rw [hto _ _ (by decide) (by decide) (by decide)]
  show (m.setT t _, _) = (goneM (m.setT t _) t _, _)
  rw [gone_setT ht]; rfl
 ·rw [hto _ _ (by decide) (by decide) (by decide)]; rfl
 ·rw [hto _ _ (by decide) (by decide) (by decide)]
  show (m.setT t _, _) = (goneM (m.setT t _) t _, _)
  rw [gone_setT ht]; rfl
 ·rw [hto _ _ (by decide) (by decide) (by decide)]; rfl
 ·rw [hto _ _ (by decide) (by decide) (by decide)]; rfl
 ·rw [hto _ _ (by decide) (by decide) (by decide)]
  have hl : m.locks.getD y.toNat 0 = (t : Int) := by
   have q : decide (m.locks.getD y.toNat 0 ≠ (t : Int)) = false := hf
   simpa using q
  show (if m.locks.getD y.toNat 0 ≠ (t : Int) then _ else _) = _
  rw [if_neg (by rw [hl]; simp)]; rfl
 ·rw [hto _ _ (by decide) (by decide) (by decide)]
  show ((m.setT t { m.th t with pc := (m.th t).pc + 1 }).setT y.toNat { (m.setT t { m.th t with pc := (m.th t).pc + 1 }).th y.toNat with ph := 1 }, _) = (goneM (m.setT y.toNat { m.th y.toNat with ph := 1 }) t ((m.th t).pc + 1), _)
  congr 1
  by_cases e : y.toNat = t
  ·rw [e, gone_setT ht, setT_setT, th_set m t t _ ht, if_pos rfl]
  ·unfold goneM
   rw [th_set m t y.toNat _ ht, if_neg e]
   have e2 : (m.setT y.toNat { m.th y.toNat with ph := 1 }).th t = m.th t := by
    unfold MS.th MS.setT
    rw [List.getD_eq_getElem?_getD, List.getElem?_set_ne e, List.getD_eq_getElem?_getD]
   rw [e2]
   unfold MS.setT
   dsimp only
   rw [List.set_comm _ _ (fun q => e q.symm)]
 ·rw [hto _ _ (by decide) (by decide) (by decide)]; rfl
 ·have q : jumpM m t ⟨oJump, r, aR, aN, bR, bN, y⟩ = true := by unfold jumpM; simp
  unfold toM
  rw [q, if_pos rfl]; rfl
 ·unfold toM
  by_cases e : vlM (m.th t) aR aN = vlM (m.th t) bR bN
  ·have q : jumpM m t ⟨oJeq, r, aR, aN, bR, bN, y⟩ = true := by unfold jumpM; simp [e]
   rw [q, if_pos rfl]
   show (m.setT t { m.th t with pc := if vlM (m.th t) aR aN = vlM (m.th t) bR bN then y.toNat else (m.th t).pc + 1 }, _) = _
   rw [if_pos e]; rfl
  ·have q : jumpM m t ⟨oJeq, r, aR, aN, bR, bN, y⟩ = false := by
    unfold jumpM
    simp only [decide_eq_false_iff_not]
    rintro (q | q | q)
    ·exact absurd q (by decide)
    ·exact e q.2
    ·exact absurd q.1 (by decide)
   rw [q, if_neg (by simp)]
   show (m.setT t { m.th t with pc := if vlM (m.th t) aR aN = vlM (m.th t) bR bN then y.toNat else (m.th t).pc + 1 }, _) = _
   rw [if_neg e]; rfl
 ·unfold toM
  by_cases e : vlM (m.th t) aR aN < vlM (m.th t) bR bN
  ·have q : jumpM m t ⟨oJlt, r, aR, aN, bR, bN, y⟩ = true := by unfold jumpM; simp [e]
   rw [q, if_pos rfl]
   show (m.setT t { m.th t with pc := if vlM (m.th t) aR aN < vlM (m.th t) bR bN then y.toNat else (m.th t).pc + 1 }, _) = _
   rw [if_pos e]; rfl
  ·have q : jumpM m t ⟨oJlt, r, aR, aN, bR, bN, y⟩ = false := by
    unfold jumpM
    simp only [decide_eq_false_iff_not]
    rintro (q | q | q)
    ·exact absurd q (by decide)
    ·exact absurd q.1 (by decide)
    ·exact e q.2
   rw [q, if_neg (by simp)]
   show (m.setT t { m.th t with pc := if vlM (m.th t) aR aN < vlM (m.th t) bR bN then y.toNat else (m.th t).pc + 1 }, _) = _
   rw [if_neg e]; rfl
 ·rw [hto _ _ (by decide) (by decide) (by decide)]
  have hl : vlM (m.th t) aR aN = vlM (m.th t) bR bN := by
   have q : decide (vlM (m.th t) aR aN ≠ vlM (m.th t) bR bN) = false := hf
   simpa using q
  show (if vlM (m.th t) aR aN ≠ vlM (m.th t) bR bN then _ else _) = _
  rw [if_neg (by rw [hl]; simp)]; rfl
 ·rw [hto _ _ (by decide) (by decide) (by decide)]
  show (m.setT t _, _) = (goneM (m.setT t _) t _, _)
  rw [gone_setT ht]; rfl
theorem fail_stp (hf : failsM m t x = true) : stpM true m t x = (m.setT t { m.th t with ph := 3 }, ⟨t, 9, 0, 0⟩) := by
 obtain ⟨op, r, aR, aN, bR, bN, y⟩ := x
 unfold failsM at hf
 dsimp only at hf
 by_cases h0 : op = oUnlock
 ·subst h0
  rw [if_pos rfl] at hf
  show (if m.locks.getD y.toNat 0 ≠ (t : Int) then _ else _) = _
  rw [if_pos (by simpa using hf)]; rfl
 ·rw [if_neg h0] at hf
  by_cases h1 : op = oCheck
  ·subst h1
   rw [if_pos rfl] at hf
   show (if vlM (m.th t) aR aN ≠ vlM (m.th t) bR bN then _ else _) = _
   rw [if_pos (by simpa using hf)]; rfl
  ·rw [if_neg h1] at hf; cases hf
end
end Go.Proofs.YtcfpedjfofpnkaaGreatDoor
namespace Go.Proofs.YtcfpedjfofpnkaaGreatDoor
open Go.RowKit Go.Shelf Go.Proofs.Cod
section
variable {w w' : World} {a0 a1 a2 a3 a4 a5 : Option Addr} {nv nf nl nt nr : Nat} {m : MS}
set_option maxRecDepth 100000 in
set_option maxHeartbeats 2000000 in
theorem fails_any {c0 c1 c2 c3 c4 c5 : Nat} (h : DocS w a0 a1 a2 a3 a4 a5 nv nf nl nt nr m) (h4 : nt ≤ 4) {t : Nat} (ht : t < nt) {x : In7} (hX : XB nv nf nl nt x) (ln : Int) (wd : Tx) :
 Calls Tryz.prog 40 #[.agg #[.slice a0 nv c0, .slice a1 nf c1, .slice a2 nl c2, .slice a3 nt c3, .slice a4 nt c4, .slice a5 nr c5], .int .i64 t, .agg (insR x ln wd)] w fun e w' => e = .returned (.bool (failsM m t x)) ∧ Below w.heap.size w w' := by
 obtain ⟨W, hW⟩ : ∃ W, (w.alloc (.cells #[.slice a0 nv c0, .slice a1 nf c1, .slice a2 nl c2, .slice a3 nt c3, .slice a4 nt c4, .slice a5 nr c5] 36)).alloc (.cells (insR x ln wd) 114) = W := ⟨_, rfl⟩
 obtain ⟨hB, k1, k2, hz⟩ := two_new _ _ _ hW
 have HB := hide hB
 unfold insR at k2 hW ⊢
 obtain ⟨i0, -, i2, i3, i4, i5, i6, -, -⟩ := nine_cells k2
 obtain ⟨s0, s1, s2, s3, s4, s5⟩ := six_cells k1
 obtain ⟨n, hn⟩ : ∃ n : Nat, x.x = n := ⟨x.x.toNat, by have := hX.x0; omega⟩
 have hnt2 : x.x.toNat = n := by omega
 have hD := h.below hB
 by_cases h0 : x.op = oUnlock
 ·have hnl : n < m.locks.length := by rw [h.ll]; have := hX.lk (.inr h0); omega
  have hlt : (n : Int) < (nl : Int) := by have := h.ll; omega
  obtain ⟨lb, lo, eA, -, hc⟩ := is_at hD.l hnl
  subst eA
  have hw : failsM m t x = (m.locks.getD n 0 != (t : Int)) := by unfold failsM; rw [if_pos h0, hnt2, Bool.eq_iff_iff]; simp
  rw [hw]
  generalize m.locks.getD n 0 = v at *
  obtain ⟨op, r, aR, aN, bR, bN, y⟩ := x
  have hn : y = n := hn
  subst hn
  have h0 : op = oUnlock := h0
  subst h0
  dsimp only at *
  clear hX hD h k1 k2 hz hB hw hnt2 hnl ht h4 s0 s1 s3 s4 s5 i2 i3 i4 i5
  unfold oUnlock bs at *
  go_enter Tryz.func40, Tryz.ntmps40
  go_upto_region 1 with fail
  try rw [hW]
  clear hW
  go_wp2_with fail
  go_ret
  exact ⟨rfl, HB.out⟩
 ·by_cases h1 : x.op = oCheck
  ·have hw : failsM m t x = (vlM (m.th t) x.aR x.aN != vlM (m.th t) x.bR x.bN) := by unfold failsM; rw [if_neg h0, if_pos h1, Bool.eq_iff_iff]; simp
   rw [hw]
   have V := hide (fun u (hu : Below W.heap.size W u) => sval_any (c0 := c0) (c1 := c1) (c2 := c2) (c3 := c3) (c4 := c4) (c5 := c5) (hD.below hu) h4 ht hX.a)
   have V2 := hide (fun u (hu : Below W.heap.size W u) => sval_any (c0 := c0) (c1 := c1) (c2 := c2) (c3 := c3) (c4 := c4) (c5 := c5) (hD.below hu) h4 ht hX.b)
   obtain ⟨v, hv⟩ : ∃ v, vlM (m.th t) x.aR x.aN = v := ⟨_, rfl⟩
   obtain ⟨u, hu⟩ : ∃ u, vlM (m.th t) x.bR x.bN = u := ⟨_, rfl⟩
   simp only [hv, hu] at V V2 ⊢
   have hcl : Hid (∀ u, Below W.heap.size W u → (u.cell? ⟨w.heap.size, 0, none⟩ = some (.slice a0 nv c0) ∧ u.cell? ⟨w.heap.size, 1, none⟩ = some (.slice a1 nf c1) ∧ u.cell? ⟨w.heap.size, 2, none⟩ = some (.slice a2 nl c2) ∧ u.cell? ⟨w.heap.size, 3, none⟩ = some (.slice a3 nt c3) ∧ u.cell? ⟨w.heap.size, 4, none⟩ = some (.slice a4 nt c4) ∧ u.cell? ⟨w.heap.size, 5, none⟩ = some (.slice a5 nr c5)) ∧ u.cell? ⟨w.heap.size + 1, 2, none⟩ = some (.bool x.aR) ∧ u.cell? ⟨w.heap.size + 1, 3, none⟩ = some (.int .i64 x.aN) ∧ u.cell? ⟨w.heap.size + 1, 4, none⟩ = some (.bool x.bR) ∧ u.cell? ⟨w.heap.size + 1, 5, none⟩ = some (.int .i64 x.bN)) := fun u hu => by
    obtain ⟨-, -, j2, j3, j4, j5, -, -, -⟩ := nine_cells ((hu.block _ (by omega)).trans k2)
    exact ⟨six_cells ((hu.block _ (by omega)).trans k1), j2, j3, j4, j5⟩
   have hd : Below W.heap.size W W.drew := ⟨rfl, rfl, rfl, Nat.le_refl _, fun _ _ => rfl⟩
   have hop : (⟨x.op, x.r, x.aR, x.aN, x.bR, x.bN, x.x⟩ : In7) = x := rfl
   have i0' : W.cell? ⟨w.heap.size + 1, 0, none⟩ = some (.string (bs oCheck)) := by rw [i0, h1]
   have g0 : ((bs oCheck).toList == oUnlock) = false := by rw [bs_toList]; rfl
   clear hX hD h k1 k2 hz hB hw hnt2 ht h4 s0 s1 s2 s3 s4 s5 i0 i2 i3 i4 i5 i6 h0 hop hv hu hn
   rw [h1] at hW ⊢
   clear h1
   unfold oCheck bs at *
   go_enter Tryz.func40, Tryz.ntmps40
   go_upto_region 1 with fail
   try rw [hW]
   clear hW
   go_wp2_with fail
   refine wp_region_held_drew (S := (fun u => (u.cell? ⟨w.heap.size, 0, none⟩ = some (.slice a0 nv c0) ∧ u.cell? ⟨w.heap.size, 1, none⟩ = some (.slice a1 nf c1) ∧ u.cell? ⟨w.heap.size, 2, none⟩ = some (.slice a2 nl c2) ∧ u.cell? ⟨w.heap.size, 3, none⟩ = some (.slice a3 nt c3) ∧ u.cell? ⟨w.heap.size, 4, none⟩ = some (.slice a4 nt c4) ∧ u.cell? ⟨w.heap.size, 5, none⟩ = some (.slice a5 nr c5)) ∧ u.cell? ⟨w.heap.size + 1, 2, none⟩ = some (.bool x.aR) ∧ u.cell? ⟨w.heap.size + 1, 3, none⟩ = some (.int .i64 x.aN) ∧ u.cell? ⟨w.heap.size + 1, 4, none⟩ = some (.bool x.bR) ∧ u.cell? ⟨w.heap.size + 1, 5, none⟩ = some (.int .i64 x.bN))) (by kernel_rfl) (hcl.out _ hd) (fun hHeld => ?_)
   refine tk 0 hHeld ?_
   refine tk 1 hHeld ?_
   refine tk 2 hHeld ?_
   refine tk 3 hHeld ?_
   refine tk 5 hHeld ?_
   refine tk 6 hHeld ?_
   refine tk 7 hHeld ?_
   refine tk 8 hHeld ?_
   refine rd 4 (fun K hK => ?_)
   go_simp
   go_at_call 42
   refine (V.out _ hd).mono ?_
   rintro e1 u1 ⟨rfl, hb1⟩
   replace hb1 : Below W.heap.size W u1 := hd.trans hb1
   have V3 := V2.out u1 hb1
   have HB1 := hide hb1
   have hq := hide (hcl.out u1 hb1)
   clear hb1
   go_wp2_with fail
   refine hK.out _ _ hq.out (fun hHeld => ?_)
   clear hK K hq
   try simp only [Act.put, sq]
   refine rd 9 (fun K hK => ?_)
   go_simp
   go_at_call 42
   refine V3.mono ?_
   rintro e2 u2 ⟨rfl, hb2⟩
   replace hb2 : Below W.heap.size W u2 := HB1.out.trans (hb2.mono HB1.out.size)
   have HF := hide (HB.out.trans (hb2.mono HB.out.size))
   have hq := hide (hcl.out u2 hb2)
   clear hb2 V3 HB1
   go_wp2_with fail
   refine hK.out _ _ hq.out (fun hHeld => ?_)
   clear hK K hq
   try simp only [Act.put, sq]
   refine tk 10 hHeld ?_
   refine tk 11 hHeld ?_
   refine wpAnyH_done (by kernel_rfl) ?_ _
   clear hHeld
   go_wp2_with fail
   go_ret
   exact ⟨rfl, HF.out⟩
  ·have hw : failsM m t x = false := by unfold failsM; rw [if_neg h0, if_neg h1]
   rw [hw]
   have f0 : ((bs x.op).toList == oUnlock) = false := by rw [bs_toList]; exact Bool.eq_false_iff.2 (by simpa using h0)
   have f1 : ((bs x.op).toList == oCheck) = false := by rw [bs_toList]; exact Bool.eq_false_iff.2 (by simpa using h1)
   unfold oUnlock at f0
   unfold oCheck at f1
   clear hX hD h k1 k2 hz hB hw hnt2 ht h4 s0 s1 s2 s3 s4 s5 i2 i3 i4 i5 i6 h0 h1 hn
   go_enter Tryz.func40, Tryz.ntmps40
   go_upto_region 1 with fail
   try rw [hW]
   clear hW
   go_wp2_with fail
   go_ret
   exact ⟨rfl, HB.out⟩
end
end Go.Proofs.YtcfpedjfofpnkaaGreatDoor
