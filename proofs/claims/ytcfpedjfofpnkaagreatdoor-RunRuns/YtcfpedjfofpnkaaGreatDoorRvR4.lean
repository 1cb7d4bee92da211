import Derived.Test.YtcfpedjfofpnkaaGreatDoorRv5
import Derived.Test.YtcfpedjfofpnkaaGreatDoorRvR2
set_option linter.unusedVariables false
set_option linter.unusedSimpArgs false
namespace Go.Proofs.YtcfpedjfofpnkaaGreatDoor
open Go.RowKit Go.Shelf Go.Proofs.Cod
def lkL (nl i : Nat) : List Int := List.replicate i (-1) ++ List.replicate (nl - i) 0
theorem lkL_len {nl i : Nat} (h : i ≤ nl) : (lkL nl i).length = nl := by unfold lkL; rw [List.length_append, List.length_replicate, List.length_replicate]; omega
theorem lkL_set {nl i : Nat} (h : i < nl) : (lkL nl i).set i (-1) = lkL nl (i + 1) := by
 unfold lkL
 have e : nl - i = (nl - (i + 1)) + 1 := by omega
 rw [List.set_append_right _ _ (by rw [List.length_replicate]; exact Nat.le_refl _), List.length_replicate, Nat.sub_self, e, List.replicate_succ, List.set_cons_zero, List.replicate_succ', List.append_assoc]; rfl
theorem lkL_all (nl : Nat) : lkL nl nl = List.replicate nl (-1) := by unfold lkL; rw [Nat.sub_self]; exact List.append_nil _
theorem ne_of_cell {W : World} {sb g i T n0 n1 n2 n3 n4 n5 d0 d1 d2 d3 d4 d5 : Nat} {a0 a1 a2 a3 a4 a5 : Option Addr} {n : Int} (ks : W.heap[sb]? = some (.cells #[.slice a0 n0 d0, .slice a1 n1 d1, .slice a2 n2 d2, .slice a3 n3 d3, .slice a4 n4 d4, .slice a5 n5 d5] T)) (hc : W.cell? ⟨g, i, none⟩ = some (.int .i64 n)) : g ≠ sb := by
 intro e
 subst e
 obtain ⟨c0, c1, c2, c3, c4, c5⟩ := six_cells ks
 have hl : i < 6 := by
  have q : (#[Value.slice a0 n0 d0, .slice a1 n1 d1, .slice a2 n2 d2, .slice a3 n3 d3, .slice a4 n4 d4, .slice a5 n5 d5] : Array Value)[i]? = some (.int .i64 n) := by simpa [World.cell?, ks] using hc
  exact (Array.getElem?_eq_some_iff.1 q).1
 match i, hl with
 | 0, _ => rw [c0] at hc; cases hc
 | 1, _ => rw [c1] at hc; cases hc
 | 2, _ => rw [c2] at hc; cases hc
 | 3, _ => rw [c3] at hc; cases hc
 | 4, _ => rw [c4] at hc; cases hc
 | 5, _ => rw [c5] at hc; cases hc
section
variable (nv nf nl nt : Nat)
theorem new_at : atL (newM nv nf nl nt) = List.replicate nt 0 := by
 unfold atL newM
 dsimp only
 apply List.ext_getElem?
 intro i
 rw [List.getElem?_map, List.getElem?_map, List.getElem?_replicate]
 by_cases h : i < nt
 ·rw [List.getElem?_range h, if_pos h]
  by_cases e : i = 0
  ·simp [e, ts0]
  ·simp [e, ts0]
 ·rw [List.getElem?_eq_none (by rw [List.length_range]; omega), if_neg h]; rfl
theorem new_st : stL (newM nv nf nl nt) = (List.replicate nt 0).set 0 1 := by
 unfold stL newM
 dsimp only
 apply List.ext_getElem?
 intro i
 rw [List.getElem?_map, List.getElem?_map, List.getElem?_set, List.length_replicate, List.getElem?_replicate]
 by_cases h : i < nt
 ·rw [List.getElem?_range h]
  by_cases e : i = 0
  ·subst e; simp [h]
  ·rw [if_neg (fun q => e q.symm), if_pos h]; simp [e, ts0]
 ·rw [List.getElem?_eq_none (by rw [List.length_range]; omega)]
  by_cases e : i = 0
  ·subst e; simp [h]
  ·rw [if_neg (fun q => e q.symm), if_neg h]; rfl
theorem new_rg : rgL (newM nv nf nl nt) = List.replicate (nt * 4) 0 := by
 unfold rgL newM
 dsimp only
 have : ∀ l : List Nat, ((l.map fun t => if t = 0 then ({ ts0 with ph := 1 } : TS) else ts0).flatMap fun th => th.regs) = List.replicate (l.length * 4) 0 := by
  intro l
  induction l with
  | nil => rfl
  | cons a r ih =>
   rw [List.map_cons, List.flatMap_cons, ih, List.length_cons, show (r.length + 1) * 4 = 4 + r.length * 4 by omega, ← List.replicate_append_replicate]
   congr 1
   by_cases e : a = 0
   ·rw [if_pos e]; rfl
   ·rw [if_neg e]; rfl
 rw [this, List.length_range]
theorem new_r4 : R4 (newM nv nf nl nt) := fun th hth => by
 unfold newM at hth
 obtain ⟨t, -, rfl⟩ := List.mem_map.1 hth
 by_cases e : t = 0
 ·rw [if_pos e]; rfl
 ·rw [if_neg e]; rfl
end
section
variable {w w' : World} {nv nf nl nt nr : Nat} {x1 x2 x3 x4 : Option Addr} {z1 z2 z3 z4 : Nat}
set_option maxRecDepth 100000 in
set_option maxHeartbeats 16000000 in
theorem rbegin_rows (w : World) (hv4 : nv ≤ 4) (hf4 : nf ≤ 4) (hl4 : nl ≤ 4) (ht4 : nt ≤ 4) (hnr : nt * 4 = nr) :
 Calls Tryz.prog 10 #[.agg #[.slice x1 nv z1, .slice x2 nf z2, .slice x3 nl z3, .slice x4 nt z4]] w fun e w' => ∃ b0 b1 b2 b3 b4 b5, (∃ d0 d1 d2 d3 d4 d5, e = .returned (.agg #[.slice b0 nv d0, .slice b1 nf d1, .slice b2 nl d2, .slice b3 nt d3, .slice b4 nt d4, .slice b5 nr d5])) ∧ (∃ lo, w.heap.size ≤ lo ∧ ∃ p1 p2 p3 p4 p5 p6, DRows w' lo b0 b1 b2 b3 b4 b5 (newM nv nf nl nt) p1 p2 p3 p4 p5 p6) ∧ DocS w' b0 b1 b2 b3 b4 b5 nv nf nl nt nr (newM nv nf nl nt) ∧ Below w.heap.size w w' := by
 obtain ⟨W, hW⟩ : ∃ W, (w.alloc (.cells #[.slice x1 nv z1, .slice x2 nf z2, .slice x3 nl z3, .slice x4 nt z4] 29)).alloc (.cells #[.slice none 0 0, .slice none 0 0, .slice none 0 0, .slice none 0 0, .slice none 0 0, .slice none 0 0] 36) = W := ⟨_, rfl⟩
 obtain ⟨hB, k1, k2, hz⟩ := two_new _ _ _ hW
 have hcl : Hid (∀ u, Below W.heap.size W u → u.cell? ⟨w.heap.size, 0, none⟩ = some (.slice x1 nv z1) ∧ u.cell? ⟨w.heap.size, 1, none⟩ = some (.slice x2 nf z2) ∧ u.cell? ⟨w.heap.size, 2, none⟩ = some (.slice x3 nl z3) ∧ u.cell? ⟨w.heap.size, 3, none⟩ = some (.slice x4 nt z4)) := fun u hu => four_cells ((hu.block _ (by omega)).trans k1)
 have hC0 := hide (fun (u : World) => zeros_any (n := nv) u (by omega))
 have hC1 := hide (fun (u : World) => zeros_any (n := nf) u (by omega))
 have hC2 := hide (fun (u : World) => zeros_any (n := nl) u (by omega))
 have hC3 := hide (fun (u : World) => zeros_any (n := nt) u (by omega))
 have hC4 := hide (fun (u : World) => zeros_any (n := nt) u (by omega))
 have hC5 := hide (fun (u : World) => zeros_any (n := nr) u (by omega))
 have HP := hide (⟨hB, hz, k2⟩ : _ ∧ _ ∧ _)
 have hd : Below W.heap.size W W.drew := ⟨rfl, rfl, rfl, Nat.le_refl _, fun _ _ => rfl⟩
 have hwr0 : wrap64 ((nt : Int) * 4) = (nr : Int) := by rw [← hnr]; have := wrap_nat (n := nt * 4) (by omega); push_cast at this ⊢; exact this
 have hwr : IntKind.i64.wrap ((nt : Int) * 4) = (nr : Int) := (IntWalk.i64_left _).trans hwr0
 have HN := hide (⟨hv4, hf4, hl4, ht4, hnr⟩ : _ ∧ _ ∧ _ ∧ _ ∧ _)
 obtain ⟨q0, q1, q2, q3⟩ := hcl.out W (Below.refl _ _)
 clear hB k1 k2 hz hv4 hf4 hl4 ht4 hnr
 go_enter Tryz.func10, Tryz.ntmps10
 go_upto_region 1 with fail
 try rw [hW]
 clear hW
 go_wp2_with fail
 clear q0 q1 q2 q3
 go_cut [4] (fun p wx => ∃ sb b0 b1 b2 b3 b4 b5 d0 d1 d2 d3 d4 d5 p1 p2 p3 p4 p5 p6, p = .pointer (some ⟨sb, 0, none⟩) ∧ wx.heap[sb]? = some (.cells #[.slice b0 nv d0, .slice b1 nf d1, .slice b2 nl d2, .slice b3 nt d3, .slice b4 nt d4, .slice b5 nr d5] 36) ∧ Rows6 wx W.heap.size b0 b1 b2 b3 b4 b5 (List.replicate nv 0) (List.replicate nf 0) (List.replicate nl 0) (List.replicate nt 0) (List.replicate nt 0) (List.replicate nr 0) p1 p2 p3 p4 p5 p6 ∧ W.heap.size ≤ sb ∧ Below W.heap.size W wx)
 case first =>
  refine wp_region_held_drew (S := (fun u => u.cell? ⟨w.heap.size, 0, none⟩ = some (.slice x1 nv z1) ∧ u.cell? ⟨w.heap.size, 1, none⟩ = some (.slice x2 nf z2) ∧ u.cell? ⟨w.heap.size, 2, none⟩ = some (.slice x3 nl z3) ∧ u.cell? ⟨w.heap.size, 3, none⟩ = some (.slice x4 nt z4))) (by kernel_rfl) (hcl.out _ hd) (fun hHeld => ?_)
  refine tk 0 hHeld ?_
  refine tk 1 hHeld ?_
  refine tk 2 hHeld ?_
  refine tk 4 hHeld ?_
  refine tk 5 hHeld ?_
  refine tk 6 hHeld ?_
  refine tk 8 hHeld ?_
  refine tk 9 hHeld ?_
  refine tk 10 hHeld ?_
  refine tk 12 hHeld ?_
  refine tk 14 hHeld ?_
  refine tk 16 hHeld ?_
  refine tk 17 hHeld ?_
  refine wpAnyH_ready (rs := [3, 20]) (by kernel_rfl) (by simp) ?_
  refine AllReadyH.cons rfl (fun K hK => ?_) (AllReadyH.cons rfl (fun K hK => ?_) AllReadyH.nil)
  ·go_simp
   go_at_call 30
   refine (hC0.out _).mono ?_
   rintro e v0 ⟨b0, d0, rfl, hs0, hx0⟩
   replace hs0 := hide hs0
   have hbv0 : Hid (Below W.heap.size W v0) := hd.trans (hx0.mono hd.size)
   replace hx0 := hide hx0
   have hq := hide (hcl.out v0 hbv0.out)
   go_wp2_with fail
   refine hK.out _ _ hq.out (fun hHeld => ?_)
   clear hK K hq
   try simp only [Act.put, sq]
   refine wpAnyH_ready (rs := [7, 20]) (by kernel_rfl) (by simp) ?_
   refine AllReadyH.cons rfl (fun K hK => ?_) (AllReadyH.cons rfl (fun K hK => ?_) AllReadyH.nil)
   ·go_simp
    go_at_call 30
    refine (hC1.out _).mono ?_
    rintro e v1 ⟨b1, d1, rfl, hs1, hx1⟩
    replace hs1 := hide hs1
    have hbv1 : Hid (Below W.heap.size W v1) := hbv0.out.trans (hx1.mono hbv0.out.size)
    replace hx1 := hide hx1
    have hq := hide (hcl.out v1 hbv1.out)
    go_wp2_with fail
    refine hK.out _ _ hq.out (fun hHeld => ?_)
    clear hK K hq
    try simp only [Act.put, sq]
    refine wpAnyH_ready (rs := [11, 20]) (by kernel_rfl) (by simp) ?_
    refine AllReadyH.cons rfl (fun K hK => ?_) (AllReadyH.cons rfl (fun K hK => ?_) AllReadyH.nil)
    ·go_simp
     go_at_call 30
     refine (hC2.out _).mono ?_
     rintro e v2 ⟨b2, d2, rfl, hs2, hx2⟩
     replace hs2 := hide hs2
     have hbv2 : Hid (Below W.heap.size W v2) := hbv1.out.trans (hx2.mono hbv1.out.size)
     replace hx2 := hide hx2
     have hq := hide (hcl.out v2 hbv2.out)
     go_wp2_with fail
     refine hK.out _ _ hq.out (fun hHeld => ?_)
     clear hK K hq
     try simp only [Act.put, sq]
     refine wpAnyH_ready (rs := [13, 20]) (by kernel_rfl) (by simp) ?_
     refine AllReadyH.cons rfl (fun K hK => ?_) (AllReadyH.cons rfl (fun K hK => ?_) AllReadyH.nil)
     ·go_simp
      go_at_call 30
      refine (hC3.out _).mono ?_
      rintro e v3 ⟨b3, d3, rfl, hs3, hx3⟩
      replace hs3 := hide hs3
      have hbv3 : Hid (Below W.heap.size W v3) := hbv2.out.trans (hx3.mono hbv2.out.size)
      replace hx3 := hide hx3
      have hq := hide (hcl.out v3 hbv3.out)
      go_wp2_with fail
      refine hK.out _ _ hq.out (fun hHeld => ?_)
      clear hK K hq
      try simp only [Act.put, sq]
      refine wpAnyH_ready (rs := [15, 20]) (by kernel_rfl) (by simp) ?_
      refine AllReadyH.cons rfl (fun K hK => ?_) (AllReadyH.cons rfl (fun K hK => ?_) AllReadyH.nil)
      ·go_simp
       go_at_call 30
       refine (hC4.out _).mono ?_
       rintro e v4 ⟨b4, d4, rfl, hs4, hx4⟩
       replace hs4 := hide hs4
       have hbv4 : Hid (Below W.heap.size W v4) := hbv3.out.trans (hx4.mono hbv3.out.size)
       replace hx4 := hide hx4
       have hq := hide (hcl.out v4 hbv4.out)
       go_wp2_with fail
       refine hK.out _ _ hq.out (fun hHeld => ?_)
       clear hK K hq
       try simp only [Act.put, sq]
       refine wpAnyH_ready (rs := [18, 20]) (by kernel_rfl) (by simp) ?_
       refine AllReadyH.cons rfl (fun K hK => ?_) (AllReadyH.cons rfl (fun K hK => ?_) AllReadyH.nil)
       ·go_simp
        go_at_call 30
        refine (hC5.out _).mono ?_
        rintro e v5 ⟨b5, d5, rfl, hs5, hx5⟩
        replace hs5 := hide hs5
        have hbv5 : Hid (Below W.heap.size W v5) := hbv4.out.trans (hx5.mono hbv4.out.size)
        replace hx5 := hide hx5
        have hq := hide (hcl.out v5 hbv5.out)
        go_wp2_with fail
        refine hK.out _ _ hq.out (fun hHeld => ?_)
        clear hK K hq
        try simp only [Act.put, sq]
        refine wpAnyH_ready (rs := [19, 20]) (by kernel_rfl) (by simp) ?_
        refine AllReadyH.cons rfl (fun K hK => ?_) (AllReadyH.cons rfl (fun K hK => ?_) AllReadyH.nil)
        ·refine wp_build_at _ _ rfl [(0, .slice b0 nv d0), (1, .slice b1 nf d1), (2, .slice b2 nl d2), (3, .slice b3 nt d3), (4, .slice b4 nt d4), (5, .slice b5 nr d5)] rfl #[.slice b0 nv d0, .slice b1 nf d1, .slice b2 nl d2, .slice b3 nt d3, .slice b4 nt d4, .slice b5 nr d5] (by rfl) ?_
         refine hK.out _ _ (hcl.out v5 hbv5.out) (fun hHeld => ?_)
         clear hK K
         try simp only [Act.put, sq]
         refine rd 20 (fun K hK => ?_)
         go_simp
         obtain ⟨A, hA⟩ : ∃ A, v5.alloc (.cells #[.slice none 0 0, .slice none 0 0, .slice none 0 0, .slice none 0 0, .slice none 0 0, .slice none 0 0] 36) = A := ⟨_, rfl⟩
         have hxA : Hid (Below v5.heap.size v5 A) := by rw [← hA]; exact (Below.refl _ _).alloc (Nat.le_refl _) _
         have hkA : Hid (A.heap[v5.heap.size]? = some (.cells #[.slice none 0 0, .slice none 0 0, .slice none 0 0, .slice none 0 0, .slice none 0 0, .slice none 0 0] 36)) := by rw [← hA]; exact World.alloc_heap_new v5 _
         have hbA : Hid (Below W.heap.size W A) := hbv5.out.trans (hxA.out.mono hbv5.out.size)
         try rw [hA]
         clear hA
         refine hK.out _ _ (hcl.out A hbA.out) (fun hHeld => ?_)
         clear hK K
         try simp only [Act.put, sq]
         refine rd 21 (fun K hK => ?_)
         have zz0 := hx0.out.size
         have zz1 := hx1.out.size
         have zz2 := hx2.out.size
         have zz3 := hx3.out.size
         have zz4 := hx4.out.size
         have zz5 := hx5.out.size
         have zz6 := hxA.out.size
         have zW : W.drew.heap.size = W.heap.size := rfl
         have hz := HP.out.2.1
         have hlA := (Array.getElem?_eq_some_iff.1 hkA.out).1
         have hkX : A.heap[v5.heap.size]? = some (.cells #[.slice none 0 0, .slice none 0 0, .slice none 0 0, .slice none 0 0, .slice none 0 0, .slice none 0 0] 36) := hkA.out
         refine wp_store_sub _ _ _ rfl v5.heap.size 0 #[.slice b0 nv d0, .slice b1 nf d1, .slice b2 nl d2, .slice b3 nt d3, .slice b4 nt d4, .slice b5 nr d5] rfl rfl (some6 hkX) (fun j _ => free_block hkX _) Tryz.sizeSt one6 ?_
         obtain ⟨Z, hZ⟩ : ∃ Z, A.setCells v5.heap.size 0 (#[Value.slice b0 nv d0, .slice b1 nf d1, .slice b2 nl d2, .slice b3 nt d3, .slice b4 nt d4, .slice b5 nr d5] : Array Value).toList = Z := ⟨_, rfl⟩
         rw [hZ]
         have hkk : KeepS (fun k => k = v5.heap.size) A Z := by rw [← hZ]; exact setCells_keep (S := fun k => k = v5.heap.size) _ 0 (KeepS.refl A) (.inl rfl)
         have hkZ : Z.heap[v5.heap.size]? = some (.cells #[.slice b0 nv d0, .slice b1 nf d1, .slice b2 nl d2, .slice b3 nt d3, .slice b4 nt d4, .slice b5 nr d5] 36) := by rw [← hZ]; exact six_sets _ _ _ _ _ _ hkX
         have zZ := hkk.size
         have hBZ : Below W.heap.size W Z := ⟨hkk.os.trans hbA.out.os, hkk.tape.trans hbA.out.tape, hkk.output.trans hbA.out.output, Nat.le_trans hbA.out.size hkk.size, fun k hk => (hkk.block k (by have := hbA.out.size; omega) (by omega)).trans (hbA.out.block k hk)⟩
         refine hK.out _ _ (hcl.out Z hBZ) (fun hHeld => ?_)
         clear hK K
         try simp only [Act.put, sq]
         refine wpAnyH_done (by kernel_rfl) ?_ _
         have t0 := ((((((hs0.out.below (by omega) hx1.out).below (by omega) hx2.out).below (by omega) hx3.out).below (by omega) hx4.out).below (by omega) hx5.out).below (by omega) hxA.out).keep (w' := Z) fun b h1 h2 => hkk.block b (by omega) (by omega)
         have t1 := (((((hs1.out.below (by omega) hx2.out).below (by omega) hx3.out).below (by omega) hx4.out).below (by omega) hx5.out).below (by omega) hxA.out).keep (w' := Z) fun b h1 h2 => hkk.block b (by omega) (by omega)
         have t2 := ((((hs2.out.below (by omega) hx3.out).below (by omega) hx4.out).below (by omega) hx5.out).below (by omega) hxA.out).keep (w' := Z) fun b h1 h2 => hkk.block b (by omega) (by omega)
         have t3 := (((hs3.out.below (by omega) hx4.out).below (by omega) hx5.out).below (by omega) hxA.out).keep (w' := Z) fun b h1 h2 => hkk.block b (by omega) (by omega)
         have t4 := ((hs4.out.below (by omega) hx5.out).below (by omega) hxA.out).keep (w' := Z) fun b h1 h2 => hkk.block b (by omega) (by omega)
         have t5 := (hs5.out.below (by omega) hxA.out).keep (w' := Z) fun b h1 h2 => hkk.block b (by omega) (by omega)
         have hR : Rows6 Z W.heap.size b0 b1 b2 b3 b4 b5 (List.replicate nv 0) (List.replicate nf 0) (List.replicate nl 0) (List.replicate nt 0) (List.replicate nt 0) (List.replicate nr 0) v0.heap.size v1.heap.size v2.heap.size v3.heap.size v4.heap.size v5.heap.size := ⟨t0.mono (by omega) (Nat.le_refl _), t1.mono (by omega) (Nat.le_refl _), t2.mono (by omega) (Nat.le_refl _), t3.mono (by omega) (Nat.le_refl _), t4.mono (by omega) (Nat.le_refl _), t5.mono (by omega) (Nat.le_refl _), ⟨by omega, by omega, by omega, by omega, by omega, by omega, by omega⟩⟩
         have HF := hide (⟨hkZ, hR, (show W.heap.size ≤ v5.heap.size by omega), hBZ⟩ : _ ∧ _ ∧ _ ∧ _)
         clear hHeld hkZ hR hBZ hkk hkX hZ zZ hlA hz zW zz0 zz1 zz2 zz3 zz4 zz5 zz6 t0 t1 t2 t3 t4 t5
         go_wp2_with fail
         go_meet
         exact ⟨_, _, _, _, _, _, _, _, _, _, _, _, _, _, _, _, _, _, _, rfl, HF.out.1, HF.out.2.1, HF.out.2.2.1, HF.out.2.2.2⟩
        ·go_simp
         obtain ⟨A, hA⟩ : ∃ A, v5.alloc (.cells #[.slice none 0 0, .slice none 0 0, .slice none 0 0, .slice none 0 0, .slice none 0 0, .slice none 0 0] 36) = A := ⟨_, rfl⟩
         have hxA : Hid (Below v5.heap.size v5 A) := by rw [← hA]; exact (Below.refl _ _).alloc (Nat.le_refl _) _
         have hkA : Hid (A.heap[v5.heap.size]? = some (.cells #[.slice none 0 0, .slice none 0 0, .slice none 0 0, .slice none 0 0, .slice none 0 0, .slice none 0 0] 36)) := by rw [← hA]; exact World.alloc_heap_new v5 _
         have hbA : Hid (Below W.heap.size W A) := hbv5.out.trans (hxA.out.mono hbv5.out.size)
         try rw [hA]
         clear hA
         refine hK.out _ _ (hcl.out A hbA.out) (fun hHeld => ?_)
         clear hK K
         try simp only [Act.put, sq]
         refine rd 19 (fun K hK => ?_)
         refine wp_build_at _ _ rfl [(0, .slice b0 nv d0), (1, .slice b1 nf d1), (2, .slice b2 nl d2), (3, .slice b3 nt d3), (4, .slice b4 nt d4), (5, .slice b5 nr d5)] rfl #[.slice b0 nv d0, .slice b1 nf d1, .slice b2 nl d2, .slice b3 nt d3, .slice b4 nt d4, .slice b5 nr d5] (by rfl) ?_
         refine hK.out _ _ (hcl.out A hbA.out) (fun hHeld => ?_)
         clear hK K
         try simp only [Act.put, sq]
         refine rd 21 (fun K hK => ?_)
         have zz0 := hx0.out.size
         have zz1 := hx1.out.size
         have zz2 := hx2.out.size
         have zz3 := hx3.out.size
         have zz4 := hx4.out.size
         have zz5 := hx5.out.size
         have zz6 := hxA.out.size
         have zW : W.drew.heap.size = W.heap.size := rfl
         have hz := HP.out.2.1
         have hlA := (Array.getElem?_eq_some_iff.1 hkA.out).1
         have hkX : A.heap[v5.heap.size]? = some (.cells #[.slice none 0 0, .slice none 0 0, .slice none 0 0, .slice none 0 0, .slice none 0 0, .slice none 0 0] 36) := hkA.out
         refine wp_store_sub _ _ _ rfl v5.heap.size 0 #[.slice b0 nv d0, .slice b1 nf d1, .slice b2 nl d2, .slice b3 nt d3, .slice b4 nt d4, .slice b5 nr d5] rfl rfl (some6 hkX) (fun j _ => free_block hkX _) Tryz.sizeSt one6 ?_
         obtain ⟨Z, hZ⟩ : ∃ Z, A.setCells v5.heap.size 0 (#[Value.slice b0 nv d0, .slice b1 nf d1, .slice b2 nl d2, .slice b3 nt d3, .slice b4 nt d4, .slice b5 nr d5] : Array Value).toList = Z := ⟨_, rfl⟩
         rw [hZ]
         have hkk : KeepS (fun k => k = v5.heap.size) A Z := by rw [← hZ]; exact setCells_keep (S := fun k => k = v5.heap.size) _ 0 (KeepS.refl A) (.inl rfl)
         have hkZ : Z.heap[v5.heap.size]? = some (.cells #[.slice b0 nv d0, .slice b1 nf d1, .slice b2 nl d2, .slice b3 nt d3, .slice b4 nt d4, .slice b5 nr d5] 36) := by rw [← hZ]; exact six_sets _ _ _ _ _ _ hkX
         have zZ := hkk.size
         have hBZ : Below W.heap.size W Z := ⟨hkk.os.trans hbA.out.os, hkk.tape.trans hbA.out.tape, hkk.output.trans hbA.out.output, Nat.le_trans hbA.out.size hkk.size, fun k hk => (hkk.block k (by have := hbA.out.size; omega) (by omega)).trans (hbA.out.block k hk)⟩
         refine hK.out _ _ (hcl.out Z hBZ) (fun hHeld => ?_)
         clear hK K
         try simp only [Act.put, sq]
         refine wpAnyH_done (by kernel_rfl) ?_ _
         have t0 := ((((((hs0.out.below (by omega) hx1.out).below (by omega) hx2.out).below (by omega) hx3.out).below (by omega) hx4.out).below (by omega) hx5.out).below (by omega) hxA.out).keep (w' := Z) fun b h1 h2 => hkk.block b (by omega) (by omega)
         have t1 := (((((hs1.out.below (by omega) hx2.out).below (by omega) hx3.out).below (by omega) hx4.out).below (by omega) hx5.out).below (by omega) hxA.out).keep (w' := Z) fun b h1 h2 => hkk.block b (by omega) (by omega)
         have t2 := ((((hs2.out.below (by omega) hx3.out).below (by omega) hx4.out).below (by omega) hx5.out).below (by omega) hxA.out).keep (w' := Z) fun b h1 h2 => hkk.block b (by omega) (by omega)
         have t3 := (((hs3.out.below (by omega) hx4.out).below (by omega) hx5.out).below (by omega) hxA.out).keep (w' := Z) fun b h1 h2 => hkk.block b (by omega) (by omega)
         have t4 := ((hs4.out.below (by omega) hx5.out).below (by omega) hxA.out).keep (w' := Z) fun b h1 h2 => hkk.block b (by omega) (by omega)
         have t5 := (hs5.out.below (by omega) hxA.out).keep (w' := Z) fun b h1 h2 => hkk.block b (by omega) (by omega)
         have hR : Rows6 Z W.heap.size b0 b1 b2 b3 b4 b5 (List.replicate nv 0) (List.replicate nf 0) (List.replicate nl 0) (List.replicate nt 0) (List.replicate nt 0) (List.replicate nr 0) v0.heap.size v1.heap.size v2.heap.size v3.heap.size v4.heap.size v5.heap.size := ⟨t0.mono (by omega) (Nat.le_refl _), t1.mono (by omega) (Nat.le_refl _), t2.mono (by omega) (Nat.le_refl _), t3.mono (by omega) (Nat.le_refl _), t4.mono (by omega) (Nat.le_refl _), t5.mono (by omega) (Nat.le_refl _), ⟨by omega, by omega, by omega, by omega, by omega, by omega, by omega⟩⟩
         have HF := hide (⟨hkZ, hR, (show W.heap.size ≤ v5.heap.size by omega), hBZ⟩ : _ ∧ _ ∧ _ ∧ _)
         clear hHeld hkZ hR hBZ hkk hkX hZ zZ hlA hz zW zz0 zz1 zz2 zz3 zz4 zz5 zz6 t0 t1 t2 t3 t4 t5
         go_wp2_with fail
         go_meet
         exact ⟨_, _, _, _, _, _, _, _, _, _, _, _, _, _, _, _, _, _, _, rfl, HF.out.1, HF.out.2.1, HF.out.2.2.1, HF.out.2.2.2⟩
       ·go_simp
        obtain ⟨A, hA⟩ : ∃ A, v4.alloc (.cells #[.slice none 0 0, .slice none 0 0, .slice none 0 0, .slice none 0 0, .slice none 0 0, .slice none 0 0] 36) = A := ⟨_, rfl⟩
        have hxA : Hid (Below v4.heap.size v4 A) := by rw [← hA]; exact (Below.refl _ _).alloc (Nat.le_refl _) _
        have hkA : Hid (A.heap[v4.heap.size]? = some (.cells #[.slice none 0 0, .slice none 0 0, .slice none 0 0, .slice none 0 0, .slice none 0 0, .slice none 0 0] 36)) := by rw [← hA]; exact World.alloc_heap_new v4 _
        have hbA : Hid (Below W.heap.size W A) := hbv4.out.trans (hxA.out.mono hbv4.out.size)
        try rw [hA]
        clear hA
        refine hK.out _ _ (hcl.out A hbA.out) (fun hHeld => ?_)
        clear hK K
        try simp only [Act.put, sq]
        refine rd 18 (fun K hK => ?_)
        go_simp
        go_at_call 30
        refine (hC5.out _).mono ?_
        rintro e v5 ⟨b5, d5, rfl, hs5, hx5⟩
        replace hs5 := hide hs5
        have hbv5 : Hid (Below W.heap.size W v5) := hbA.out.trans (hx5.mono hbA.out.size)
        replace hx5 := hide hx5
        have hq := hide (hcl.out v5 hbv5.out)
        go_wp2_with fail
        refine hK.out _ _ hq.out (fun hHeld => ?_)
        clear hK K hq
        try simp only [Act.put, sq]
        refine rd 19 (fun K hK => ?_)
        refine wp_build_at _ _ rfl [(0, .slice b0 nv d0), (1, .slice b1 nf d1), (2, .slice b2 nl d2), (3, .slice b3 nt d3), (4, .slice b4 nt d4), (5, .slice b5 nr d5)] rfl #[.slice b0 nv d0, .slice b1 nf d1, .slice b2 nl d2, .slice b3 nt d3, .slice b4 nt d4, .slice b5 nr d5] (by rfl) ?_
        refine hK.out _ _ (hcl.out v5 hbv5.out) (fun hHeld => ?_)
        clear hK K
        try simp only [Act.put, sq]
        refine rd 21 (fun K hK => ?_)
        have zz0 := hx0.out.size
        have zz1 := hx1.out.size
        have zz2 := hx2.out.size
        have zz3 := hx3.out.size
        have zz4 := hx4.out.size
        have zz5 := hxA.out.size
        have zz6 := hx5.out.size
        have zW : W.drew.heap.size = W.heap.size := rfl
        have hz := HP.out.2.1
        have hlA := (Array.getElem?_eq_some_iff.1 hkA.out).1
        have hkX : v5.heap[v4.heap.size]? = some (.cells #[.slice none 0 0, .slice none 0 0, .slice none 0 0, .slice none 0 0, .slice none 0 0, .slice none 0 0] 36) := ((hx5.out.block _ (by omega)).trans hkA.out)
        refine wp_store_sub _ _ _ rfl v4.heap.size 0 #[.slice b0 nv d0, .slice b1 nf d1, .slice b2 nl d2, .slice b3 nt d3, .slice b4 nt d4, .slice b5 nr d5] rfl rfl (some6 hkX) (fun j _ => free_block hkX _) Tryz.sizeSt one6 ?_
        obtain ⟨Z, hZ⟩ : ∃ Z, v5.setCells v4.heap.size 0 (#[Value.slice b0 nv d0, .slice b1 nf d1, .slice b2 nl d2, .slice b3 nt d3, .slice b4 nt d4, .slice b5 nr d5] : Array Value).toList = Z := ⟨_, rfl⟩
        rw [hZ]
        have hkk : KeepS (fun k => k = v4.heap.size) v5 Z := by rw [← hZ]; exact setCells_keep (S := fun k => k = v4.heap.size) _ 0 (KeepS.refl v5) (.inl rfl)
        have hkZ : Z.heap[v4.heap.size]? = some (.cells #[.slice b0 nv d0, .slice b1 nf d1, .slice b2 nl d2, .slice b3 nt d3, .slice b4 nt d4, .slice b5 nr d5] 36) := by rw [← hZ]; exact six_sets _ _ _ _ _ _ hkX
        have zZ := hkk.size
        have hBZ : Below W.heap.size W Z := ⟨hkk.os.trans hbv5.out.os, hkk.tape.trans hbv5.out.tape, hkk.output.trans hbv5.out.output, Nat.le_trans hbv5.out.size hkk.size, fun k hk => (hkk.block k (by have := hbv5.out.size; omega) (by omega)).trans (hbv5.out.block k hk)⟩
        refine hK.out _ _ (hcl.out Z hBZ) (fun hHeld => ?_)
        clear hK K
        try simp only [Act.put, sq]
        refine wpAnyH_done (by kernel_rfl) ?_ _
        have t0 := ((((((hs0.out.below (by omega) hx1.out).below (by omega) hx2.out).below (by omega) hx3.out).below (by omega) hx4.out).below (by omega) hxA.out).below (by omega) hx5.out).keep (w' := Z) fun b h1 h2 => hkk.block b (by omega) (by omega)
        have t1 := (((((hs1.out.below (by omega) hx2.out).below (by omega) hx3.out).below (by omega) hx4.out).below (by omega) hxA.out).below (by omega) hx5.out).keep (w' := Z) fun b h1 h2 => hkk.block b (by omega) (by omega)
        have t2 := ((((hs2.out.below (by omega) hx3.out).below (by omega) hx4.out).below (by omega) hxA.out).below (by omega) hx5.out).keep (w' := Z) fun b h1 h2 => hkk.block b (by omega) (by omega)
        have t3 := (((hs3.out.below (by omega) hx4.out).below (by omega) hxA.out).below (by omega) hx5.out).keep (w' := Z) fun b h1 h2 => hkk.block b (by omega) (by omega)
        have t4 := ((hs4.out.below (by omega) hxA.out).below (by omega) hx5.out).keep (w' := Z) fun b h1 h2 => hkk.block b (by omega) (by omega)
        have t5 := hs5.out.keep (w' := Z) fun b h1 h2 => hkk.block b (by omega) (by omega)
        have hR : Rows6 Z W.heap.size b0 b1 b2 b3 b4 b5 (List.replicate nv 0) (List.replicate nf 0) (List.replicate nl 0) (List.replicate nt 0) (List.replicate nt 0) (List.replicate nr 0) v0.heap.size v1.heap.size v2.heap.size v3.heap.size v4.heap.size v5.heap.size := ⟨t0.mono (by omega) (Nat.le_refl _), t1.mono (by omega) (Nat.le_refl _), t2.mono (by omega) (Nat.le_refl _), t3.mono (by omega) (Nat.le_refl _), t4.mono (by omega) (Nat.le_refl _), t5.mono (by omega) (Nat.le_refl _), ⟨by omega, by omega, by omega, by omega, by omega, by omega, by omega⟩⟩
        have HF := hide (⟨hkZ, hR, (show W.heap.size ≤ v4.heap.size by omega), hBZ⟩ : _ ∧ _ ∧ _ ∧ _)
        clear hHeld hkZ hR hBZ hkk hkX hZ zZ hlA hz zW zz0 zz1 zz2 zz3 zz4 zz5 zz6 t0 t1 t2 t3 t4 t5
        go_wp2_with fail
        go_meet
        exact ⟨_, _, _, _, _, _, _, _, _, _, _, _, _, _, _, _, _, _, _, rfl, HF.out.1, HF.out.2.1, HF.out.2.2.1, HF.out.2.2.2⟩
      ·go_simp
       obtain ⟨A, hA⟩ : ∃ A, v3.alloc (.cells #[.slice none 0 0, .slice none 0 0, .slice none 0 0, .slice none 0 0, .slice none 0 0, .slice none 0 0] 36) = A := ⟨_, rfl⟩
       have hxA : Hid (Below v3.heap.size v3 A) := by rw [← hA]; exact (Below.refl _ _).alloc (Nat.le_refl _) _
       have hkA : Hid (A.heap[v3.heap.size]? = some (.cells #[.slice none 0 0, .slice none 0 0, .slice none 0 0, .slice none 0 0, .slice none 0 0, .slice none 0 0] 36)) := by rw [← hA]; exact World.alloc_heap_new v3 _
       have hbA : Hid (Below W.heap.size W A) := hbv3.out.trans (hxA.out.mono hbv3.out.size)
       try rw [hA]
       clear hA
       refine hK.out _ _ (hcl.out A hbA.out) (fun hHeld => ?_)
       clear hK K
       try simp only [Act.put, sq]
       refine rd 15 (fun K hK => ?_)
       go_simp
       go_at_call 30
       refine (hC4.out _).mono ?_
       rintro e v4 ⟨b4, d4, rfl, hs4, hx4⟩
       replace hs4 := hide hs4
       have hbv4 : Hid (Below W.heap.size W v4) := hbA.out.trans (hx4.mono hbA.out.size)
       replace hx4 := hide hx4
       have hq := hide (hcl.out v4 hbv4.out)
       go_wp2_with fail
       refine hK.out _ _ hq.out (fun hHeld => ?_)
       clear hK K hq
       try simp only [Act.put, sq]
       refine rd 18 (fun K hK => ?_)
       go_simp
       go_at_call 30
       refine (hC5.out _).mono ?_
       rintro e v5 ⟨b5, d5, rfl, hs5, hx5⟩
       replace hs5 := hide hs5
       have hbv5 : Hid (Below W.heap.size W v5) := hbv4.out.trans (hx5.mono hbv4.out.size)
       replace hx5 := hide hx5
       have hq := hide (hcl.out v5 hbv5.out)
       go_wp2_with fail
       refine hK.out _ _ hq.out (fun hHeld => ?_)
       clear hK K hq
       try simp only [Act.put, sq]
       refine rd 19 (fun K hK => ?_)
       refine wp_build_at _ _ rfl [(0, .slice b0 nv d0), (1, .slice b1 nf d1), (2, .slice b2 nl d2), (3, .slice b3 nt d3), (4, .slice b4 nt d4), (5, .slice b5 nr d5)] rfl #[.slice b0 nv d0, .slice b1 nf d1, .slice b2 nl d2, .slice b3 nt d3, .slice b4 nt d4, .slice b5 nr d5] (by rfl) ?_
       refine hK.out _ _ (hcl.out v5 hbv5.out) (fun hHeld => ?_)
       clear hK K
       try simp only [Act.put, sq]
       refine rd 21 (fun K hK => ?_)
       have zz0 := hx0.out.size
       have zz1 := hx1.out.size
       have zz2 := hx2.out.size
       have zz3 := hx3.out.size
       have zz4 := hxA.out.size
       have zz5 := hx4.out.size
       have zz6 := hx5.out.size
       have zW : W.drew.heap.size = W.heap.size := rfl
       have hz := HP.out.2.1
       have hlA := (Array.getElem?_eq_some_iff.1 hkA.out).1
       have hkX : v5.heap[v3.heap.size]? = some (.cells #[.slice none 0 0, .slice none 0 0, .slice none 0 0, .slice none 0 0, .slice none 0 0, .slice none 0 0] 36) := ((hx5.out.block _ (by omega)).trans ((hx4.out.block _ (by omega)).trans hkA.out))
       refine wp_store_sub _ _ _ rfl v3.heap.size 0 #[.slice b0 nv d0, .slice b1 nf d1, .slice b2 nl d2, .slice b3 nt d3, .slice b4 nt d4, .slice b5 nr d5] rfl rfl (some6 hkX) (fun j _ => free_block hkX _) Tryz.sizeSt one6 ?_
       obtain ⟨Z, hZ⟩ : ∃ Z, v5.setCells v3.heap.size 0 (#[Value.slice b0 nv d0, .slice b1 nf d1, .slice b2 nl d2, .slice b3 nt d3, .slice b4 nt d4, .slice b5 nr d5] : Array Value).toList = Z := ⟨_, rfl⟩
       rw [hZ]
       have hkk : KeepS (fun k => k = v3.heap.size) v5 Z := by rw [← hZ]; exact setCells_keep (S := fun k => k = v3.heap.size) _ 0 (KeepS.refl v5) (.inl rfl)
       have hkZ : Z.heap[v3.heap.size]? = some (.cells #[.slice b0 nv d0, .slice b1 nf d1, .slice b2 nl d2, .slice b3 nt d3, .slice b4 nt d4, .slice b5 nr d5] 36) := by rw [← hZ]; exact six_sets _ _ _ _ _ _ hkX
       have zZ := hkk.size
       have hBZ : Below W.heap.size W Z := ⟨hkk.os.trans hbv5.out.os, hkk.tape.trans hbv5.out.tape, hkk.output.trans hbv5.out.output, Nat.le_trans hbv5.out.size hkk.size, fun k hk => (hkk.block k (by have := hbv5.out.size; omega) (by omega)).trans (hbv5.out.block k hk)⟩
       refine hK.out _ _ (hcl.out Z hBZ) (fun hHeld => ?_)
       clear hK K
       try simp only [Act.put, sq]
       refine wpAnyH_done (by kernel_rfl) ?_ _
       have t0 := ((((((hs0.out.below (by omega) hx1.out).below (by omega) hx2.out).below (by omega) hx3.out).below (by omega) hxA.out).below (by omega) hx4.out).below (by omega) hx5.out).keep (w' := Z) fun b h1 h2 => hkk.block b (by omega) (by omega)
       have t1 := (((((hs1.out.below (by omega) hx2.out).below (by omega) hx3.out).below (by omega) hxA.out).below (by omega) hx4.out).below (by omega) hx5.out).keep (w' := Z) fun b h1 h2 => hkk.block b (by omega) (by omega)
       have t2 := ((((hs2.out.below (by omega) hx3.out).below (by omega) hxA.out).below (by omega) hx4.out).below (by omega) hx5.out).keep (w' := Z) fun b h1 h2 => hkk.block b (by omega) (by omega)
       have t3 := (((hs3.out.below (by omega) hxA.out).below (by omega) hx4.out).below (by omega) hx5.out).keep (w' := Z) fun b h1 h2 => hkk.block b (by omega) (by omega)
       have t4 := (hs4.out.below (by omega) hx5.out).keep (w' := Z) fun b h1 h2 => hkk.block b (by omega) (by omega)
       have t5 := hs5.out.keep (w' := Z) fun b h1 h2 => hkk.block b (by omega) (by omega)
       have hR : Rows6 Z W.heap.size b0 b1 b2 b3 b4 b5 (List.replicate nv 0) (List.replicate nf 0) (List.replicate nl 0) (List.replicate nt 0) (List.replicate nt 0) (List.replicate nr 0) v0.heap.size v1.heap.size v2.heap.size v3.heap.size v4.heap.size v5.heap.size := ⟨t0.mono (by omega) (Nat.le_refl _), t1.mono (by omega) (Nat.le_refl _), t2.mono (by omega) (Nat.le_refl _), t3.mono (by omega) (Nat.le_refl _), t4.mono (by omega) (Nat.le_refl _), t5.mono (by omega) (Nat.le_refl _), ⟨by omega, by omega, by omega, by omega, by omega, by omega, by omega⟩⟩
       have HF := hide (⟨hkZ, hR, (show W.heap.size ≤ v3.heap.size by omega), hBZ⟩ : _ ∧ _ ∧ _ ∧ _)
       clear hHeld hkZ hR hBZ hkk hkX hZ zZ hlA hz zW zz0 zz1 zz2 zz3 zz4 zz5 zz6 t0 t1 t2 t3 t4 t5
       go_wp2_with fail
       go_meet
       exact ⟨_, _, _, _, _, _, _, _, _, _, _, _, _, _, _, _, _, _, _, rfl, HF.out.1, HF.out.2.1, HF.out.2.2.1, HF.out.2.2.2⟩
     ·go_simp
      obtain ⟨A, hA⟩ : ∃ A, v2.alloc (.cells #[.slice none 0 0, .slice none 0 0, .slice none 0 0, .slice none 0 0, .slice none 0 0, .slice none 0 0] 36) = A := ⟨_, rfl⟩
      have hxA : Hid (Below v2.heap.size v2 A) := by rw [← hA]; exact (Below.refl _ _).alloc (Nat.le_refl _) _
      have hkA : Hid (A.heap[v2.heap.size]? = some (.cells #[.slice none 0 0, .slice none 0 0, .slice none 0 0, .slice none 0 0, .slice none 0 0, .slice none 0 0] 36)) := by rw [← hA]; exact World.alloc_heap_new v2 _
      have hbA : Hid (Below W.heap.size W A) := hbv2.out.trans (hxA.out.mono hbv2.out.size)
      try rw [hA]
      clear hA
      refine hK.out _ _ (hcl.out A hbA.out) (fun hHeld => ?_)
      clear hK K
      try simp only [Act.put, sq]
      refine rd 13 (fun K hK => ?_)
      go_simp
      go_at_call 30
      refine (hC3.out _).mono ?_
      rintro e v3 ⟨b3, d3, rfl, hs3, hx3⟩
      replace hs3 := hide hs3
      have hbv3 : Hid (Below W.heap.size W v3) := hbA.out.trans (hx3.mono hbA.out.size)
      replace hx3 := hide hx3
      have hq := hide (hcl.out v3 hbv3.out)
      go_wp2_with fail
      refine hK.out _ _ hq.out (fun hHeld => ?_)
      clear hK K hq
      try simp only [Act.put, sq]
      refine rd 15 (fun K hK => ?_)
      go_simp
      go_at_call 30
      refine (hC4.out _).mono ?_
      rintro e v4 ⟨b4, d4, rfl, hs4, hx4⟩
      replace hs4 := hide hs4
      have hbv4 : Hid (Below W.heap.size W v4) := hbv3.out.trans (hx4.mono hbv3.out.size)
      replace hx4 := hide hx4
      have hq := hide (hcl.out v4 hbv4.out)
      go_wp2_with fail
      refine hK.out _ _ hq.out (fun hHeld => ?_)
      clear hK K hq
      try simp only [Act.put, sq]
      refine rd 18 (fun K hK => ?_)
      go_simp
      go_at_call 30
      refine (hC5.out _).mono ?_
      rintro e v5 ⟨b5, d5, rfl, hs5, hx5⟩
      replace hs5 := hide hs5
      have hbv5 : Hid (Below W.heap.size W v5) := hbv4.out.trans (hx5.mono hbv4.out.size)
      replace hx5 := hide hx5
      have hq := hide (hcl.out v5 hbv5.out)
      go_wp2_with fail
      refine hK.out _ _ hq.out (fun hHeld => ?_)
      clear hK K hq
      try simp only [Act.put, sq]
      refine rd 19 (fun K hK => ?_)
      refine wp_build_at _ _ rfl [(0, .slice b0 nv d0), (1, .slice b1 nf d1), (2, .slice b2 nl d2), (3, .slice b3 nt d3), (4, .slice b4 nt d4), (5, .slice b5 nr d5)] rfl #[.slice b0 nv d0, .slice b1 nf d1, .slice b2 nl d2, .slice b3 nt d3, .slice b4 nt d4, .slice b5 nr d5] (by rfl) ?_
      refine hK.out _ _ (hcl.out v5 hbv5.out) (fun hHeld => ?_)
      clear hK K
      try simp only [Act.put, sq]
      refine rd 21 (fun K hK => ?_)
      have zz0 := hx0.out.size
      have zz1 := hx1.out.size
      have zz2 := hx2.out.size
      have zz3 := hxA.out.size
      have zz4 := hx3.out.size
      have zz5 := hx4.out.size
      have zz6 := hx5.out.size
      have zW : W.drew.heap.size = W.heap.size := rfl
      have hz := HP.out.2.1
      have hlA := (Array.getElem?_eq_some_iff.1 hkA.out).1
      have hkX : v5.heap[v2.heap.size]? = some (.cells #[.slice none 0 0, .slice none 0 0, .slice none 0 0, .slice none 0 0, .slice none 0 0, .slice none 0 0] 36) := ((hx5.out.block _ (by omega)).trans ((hx4.out.block _ (by omega)).trans ((hx3.out.block _ (by omega)).trans hkA.out)))
      refine wp_store_sub _ _ _ rfl v2.heap.size 0 #[.slice b0 nv d0, .slice b1 nf d1, .slice b2 nl d2, .slice b3 nt d3, .slice b4 nt d4, .slice b5 nr d5] rfl rfl (some6 hkX) (fun j _ => free_block hkX _) Tryz.sizeSt one6 ?_
      obtain ⟨Z, hZ⟩ : ∃ Z, v5.setCells v2.heap.size 0 (#[Value.slice b0 nv d0, .slice b1 nf d1, .slice b2 nl d2, .slice b3 nt d3, .slice b4 nt d4, .slice b5 nr d5] : Array Value).toList = Z := ⟨_, rfl⟩
      rw [hZ]
      have hkk : KeepS (fun k => k = v2.heap.size) v5 Z := by rw [← hZ]; exact setCells_keep (S := fun k => k = v2.heap.size) _ 0 (KeepS.refl v5) (.inl rfl)
      have hkZ : Z.heap[v2.heap.size]? = some (.cells #[.slice b0 nv d0, .slice b1 nf d1, .slice b2 nl d2, .slice b3 nt d3, .slice b4 nt d4, .slice b5 nr d5] 36) := by rw [← hZ]; exact six_sets _ _ _ _ _ _ hkX
      have zZ := hkk.size
      have hBZ : Below W.heap.size W Z := ⟨hkk.os.trans hbv5.out.os, hkk.tape.trans hbv5.out.tape, hkk.output.trans hbv5.out.output, Nat.le_trans hbv5.out.size hkk.size, fun k hk => (hkk.block k (by have := hbv5.out.size; omega) (by omega)).trans (hbv5.out.block k hk)⟩
      refine hK.out _ _ (hcl.out Z hBZ) (fun hHeld => ?_)
      clear hK K
      try simp only [Act.put, sq]
      refine wpAnyH_done (by kernel_rfl) ?_ _
      have t0 := ((((((hs0.out.below (by omega) hx1.out).below (by omega) hx2.out).below (by omega) hxA.out).below (by omega) hx3.out).below (by omega) hx4.out).below (by omega) hx5.out).keep (w' := Z) fun b h1 h2 => hkk.block b (by omega) (by omega)
      have t1 := (((((hs1.out.below (by omega) hx2.out).below (by omega) hxA.out).below (by omega) hx3.out).below (by omega) hx4.out).below (by omega) hx5.out).keep (w' := Z) fun b h1 h2 => hkk.block b (by omega) (by omega)
      have t2 := ((((hs2.out.below (by omega) hxA.out).below (by omega) hx3.out).below (by omega) hx4.out).below (by omega) hx5.out).keep (w' := Z) fun b h1 h2 => hkk.block b (by omega) (by omega)
      have t3 := ((hs3.out.below (by omega) hx4.out).below (by omega) hx5.out).keep (w' := Z) fun b h1 h2 => hkk.block b (by omega) (by omega)
      have t4 := (hs4.out.below (by omega) hx5.out).keep (w' := Z) fun b h1 h2 => hkk.block b (by omega) (by omega)
      have t5 := hs5.out.keep (w' := Z) fun b h1 h2 => hkk.block b (by omega) (by omega)
      have hR : Rows6 Z W.heap.size b0 b1 b2 b3 b4 b5 (List.replicate nv 0) (List.replicate nf 0) (List.replicate nl 0) (List.replicate nt 0) (List.replicate nt 0) (List.replicate nr 0) v0.heap.size v1.heap.size v2.heap.size v3.heap.size v4.heap.size v5.heap.size := ⟨t0.mono (by omega) (Nat.le_refl _), t1.mono (by omega) (Nat.le_refl _), t2.mono (by omega) (Nat.le_refl _), t3.mono (by omega) (Nat.le_refl _), t4.mono (by omega) (Nat.le_refl _), t5.mono (by omega) (Nat.le_refl _), ⟨by omega, by omega, by omega, by omega, by omega, by omega, by omega⟩⟩
      have HF := hide (⟨hkZ, hR, (show W.heap.size ≤ v2.heap.size by omega), hBZ⟩ : _ ∧ _ ∧ _ ∧ _)
      clear hHeld hkZ hR hBZ hkk hkX hZ zZ hlA hz zW zz0 zz1 zz2 zz3 zz4 zz5 zz6 t0 t1 t2 t3 t4 t5
      go_wp2_with fail
      go_meet
      exact ⟨_, _, _, _, _, _, _, _, _, _, _, _, _, _, _, _, _, _, _, rfl, HF.out.1, HF.out.2.1, HF.out.2.2.1, HF.out.2.2.2⟩
    ·go_simp
     obtain ⟨A, hA⟩ : ∃ A, v1.alloc (.cells #[.slice none 0 0, .slice none 0 0, .slice none 0 0, .slice none 0 0, .slice none 0 0, .slice none 0 0] 36) = A := ⟨_, rfl⟩
     have hxA : Hid (Below v1.heap.size v1 A) := by rw [← hA]; exact (Below.refl _ _).alloc (Nat.le_refl _) _
     have hkA : Hid (A.heap[v1.heap.size]? = some (.cells #[.slice none 0 0, .slice none 0 0, .slice none 0 0, .slice none 0 0, .slice none 0 0, .slice none 0 0] 36)) := by rw [← hA]; exact World.alloc_heap_new v1 _
     have hbA : Hid (Below W.heap.size W A) := hbv1.out.trans (hxA.out.mono hbv1.out.size)
     try rw [hA]
     clear hA
     refine hK.out _ _ (hcl.out A hbA.out) (fun hHeld => ?_)
     clear hK K
     try simp only [Act.put, sq]
     refine rd 11 (fun K hK => ?_)
     go_simp
     go_at_call 30
     refine (hC2.out _).mono ?_
     rintro e v2 ⟨b2, d2, rfl, hs2, hx2⟩
     replace hs2 := hide hs2
     have hbv2 : Hid (Below W.heap.size W v2) := hbA.out.trans (hx2.mono hbA.out.size)
     replace hx2 := hide hx2
     have hq := hide (hcl.out v2 hbv2.out)
     go_wp2_with fail
     refine hK.out _ _ hq.out (fun hHeld => ?_)
     clear hK K hq
     try simp only [Act.put, sq]
     refine rd 13 (fun K hK => ?_)
     go_simp
     go_at_call 30
     refine (hC3.out _).mono ?_
     rintro e v3 ⟨b3, d3, rfl, hs3, hx3⟩
     replace hs3 := hide hs3
     have hbv3 : Hid (Below W.heap.size W v3) := hbv2.out.trans (hx3.mono hbv2.out.size)
     replace hx3 := hide hx3
     have hq := hide (hcl.out v3 hbv3.out)
     go_wp2_with fail
     refine hK.out _ _ hq.out (fun hHeld => ?_)
     clear hK K hq
     try simp only [Act.put, sq]
     refine rd 15 (fun K hK => ?_)
     go_simp
     go_at_call 30
     refine (hC4.out _).mono ?_
     rintro e v4 ⟨b4, d4, rfl, hs4, hx4⟩
     replace hs4 := hide hs4
     have hbv4 : Hid (Below W.heap.size W v4) := hbv3.out.trans (hx4.mono hbv3.out.size)
     replace hx4 := hide hx4
     have hq := hide (hcl.out v4 hbv4.out)
     go_wp2_with fail
     refine hK.out _ _ hq.out (fun hHeld => ?_)
     clear hK K hq
     try simp only [Act.put, sq]
     refine rd 18 (fun K hK => ?_)
     go_simp
     go_at_call 30
     refine (hC5.out _).mono ?_
     rintro e v5 ⟨b5, d5, rfl, hs5, hx5⟩
     replace hs5 := hide hs5
     have hbv5 : Hid (Below W.heap.size W v5) := hbv4.out.trans (hx5.mono hbv4.out.size)
     replace hx5 := hide hx5
     have hq := hide (hcl.out v5 hbv5.out)
     go_wp2_with fail
     refine hK.out _ _ hq.out (fun hHeld => ?_)
     clear hK K hq
     try simp only [Act.put, sq]
     refine rd 19 (fun K hK => ?_)
     refine wp_build_at _ _ rfl [(0, .slice b0 nv d0), (1, .slice b1 nf d1), (2, .slice b2 nl d2), (3, .slice b3 nt d3), (4, .slice b4 nt d4), (5, .slice b5 nr d5)] rfl #[.slice b0 nv d0, .slice b1 nf d1, .slice b2 nl d2, .slice b3 nt d3, .slice b4 nt d4, .slice b5 nr d5] (by rfl) ?_
     refine hK.out _ _ (hcl.out v5 hbv5.out) (fun hHeld => ?_)
     clear hK K
     try simp only [Act.put, sq]
     refine rd 21 (fun K hK => ?_)
     have zz0 := hx0.out.size
     have zz1 := hx1.out.size
     have zz2 := hxA.out.size
     have zz3 := hx2.out.size
     have zz4 := hx3.out.size
     have zz5 := hx4.out.size
     have zz6 := hx5.out.size
     have zW : W.drew.heap.size = W.heap.size := rfl
     have hz := HP.out.2.1
     have hlA := (Array.getElem?_eq_some_iff.1 hkA.out).1
     have hkX : v5.heap[v1.heap.size]? = some (.cells #[.slice none 0 0, .slice none 0 0, .slice none 0 0, .slice none 0 0, .slice none 0 0, .slice none 0 0] 36) := ((hx5.out.block _ (by omega)).trans ((hx4.out.block _ (by omega)).trans ((hx3.out.block _ (by omega)).trans ((hx2.out.block _ (by omega)).trans hkA.out))))
     refine wp_store_sub _ _ _ rfl v1.heap.size 0 #[.slice b0 nv d0, .slice b1 nf d1, .slice b2 nl d2, .slice b3 nt d3, .slice b4 nt d4, .slice b5 nr d5] rfl rfl (some6 hkX) (fun j _ => free_block hkX _) Tryz.sizeSt one6 ?_
     obtain ⟨Z, hZ⟩ : ∃ Z, v5.setCells v1.heap.size 0 (#[Value.slice b0 nv d0, .slice b1 nf d1, .slice b2 nl d2, .slice b3 nt d3, .slice b4 nt d4, .slice b5 nr d5] : Array Value).toList = Z := ⟨_, rfl⟩
     rw [hZ]
     have hkk : KeepS (fun k => k = v1.heap.size) v5 Z := by rw [← hZ]; exact setCells_keep (S := fun k => k = v1.heap.size) _ 0 (KeepS.refl v5) (.inl rfl)
     have hkZ : Z.heap[v1.heap.size]? = some (.cells #[.slice b0 nv d0, .slice b1 nf d1, .slice b2 nl d2, .slice b3 nt d3, .slice b4 nt d4, .slice b5 nr d5] 36) := by rw [← hZ]; exact six_sets _ _ _ _ _ _ hkX
     have zZ := hkk.size
     have hBZ : Below W.heap.size W Z := ⟨hkk.os.trans hbv5.out.os, hkk.tape.trans hbv5.out.tape, hkk.output.trans hbv5.out.output, Nat.le_trans hbv5.out.size hkk.size, fun k hk => (hkk.block k (by have := hbv5.out.size; omega) (by omega)).trans (hbv5.out.block k hk)⟩
     refine hK.out _ _ (hcl.out Z hBZ) (fun hHeld => ?_)
     clear hK K
     try simp only [Act.put, sq]
     refine wpAnyH_done (by kernel_rfl) ?_ _
     have t0 := ((((((hs0.out.below (by omega) hx1.out).below (by omega) hxA.out).below (by omega) hx2.out).below (by omega) hx3.out).below (by omega) hx4.out).below (by omega) hx5.out).keep (w' := Z) fun b h1 h2 => hkk.block b (by omega) (by omega)
     have t1 := (((((hs1.out.below (by omega) hxA.out).below (by omega) hx2.out).below (by omega) hx3.out).below (by omega) hx4.out).below (by omega) hx5.out).keep (w' := Z) fun b h1 h2 => hkk.block b (by omega) (by omega)
     have t2 := (((hs2.out.below (by omega) hx3.out).below (by omega) hx4.out).below (by omega) hx5.out).keep (w' := Z) fun b h1 h2 => hkk.block b (by omega) (by omega)
     have t3 := ((hs3.out.below (by omega) hx4.out).below (by omega) hx5.out).keep (w' := Z) fun b h1 h2 => hkk.block b (by omega) (by omega)
     have t4 := (hs4.out.below (by omega) hx5.out).keep (w' := Z) fun b h1 h2 => hkk.block b (by omega) (by omega)
     have t5 := hs5.out.keep (w' := Z) fun b h1 h2 => hkk.block b (by omega) (by omega)
     have hR : Rows6 Z W.heap.size b0 b1 b2 b3 b4 b5 (List.replicate nv 0) (List.replicate nf 0) (List.replicate nl 0) (List.replicate nt 0) (List.replicate nt 0) (List.replicate nr 0) v0.heap.size v1.heap.size v2.heap.size v3.heap.size v4.heap.size v5.heap.size := ⟨t0.mono (by omega) (Nat.le_refl _), t1.mono (by omega) (Nat.le_refl _), t2.mono (by omega) (Nat.le_refl _), t3.mono (by omega) (Nat.le_refl _), t4.mono (by omega) (Nat.le_refl _), t5.mono (by omega) (Nat.le_refl _), ⟨by omega, by omega, by omega, by omega, by omega, by omega, by omega⟩⟩
     have HF := hide (⟨hkZ, hR, (show W.heap.size ≤ v1.heap.size by omega), hBZ⟩ : _ ∧ _ ∧ _ ∧ _)
     clear hHeld hkZ hR hBZ hkk hkX hZ zZ hlA hz zW zz0 zz1 zz2 zz3 zz4 zz5 zz6 t0 t1 t2 t3 t4 t5
     go_wp2_with fail
     go_meet
     exact ⟨_, _, _, _, _, _, _, _, _, _, _, _, _, _, _, _, _, _, _, rfl, HF.out.1, HF.out.2.1, HF.out.2.2.1, HF.out.2.2.2⟩
   ·go_simp
    obtain ⟨A, hA⟩ : ∃ A, v0.alloc (.cells #[.slice none 0 0, .slice none 0 0, .slice none 0 0, .slice none 0 0, .slice none 0 0, .slice none 0 0] 36) = A := ⟨_, rfl⟩
    have hxA : Hid (Below v0.heap.size v0 A) := by rw [← hA]; exact (Below.refl _ _).alloc (Nat.le_refl _) _
    have hkA : Hid (A.heap[v0.heap.size]? = some (.cells #[.slice none 0 0, .slice none 0 0, .slice none 0 0, .slice none 0 0, .slice none 0 0, .slice none 0 0] 36)) := by rw [← hA]; exact World.alloc_heap_new v0 _
    have hbA : Hid (Below W.heap.size W A) := hbv0.out.trans (hxA.out.mono hbv0.out.size)
    try rw [hA]
    clear hA
    refine hK.out _ _ (hcl.out A hbA.out) (fun hHeld => ?_)
    clear hK K
    try simp only [Act.put, sq]
    refine rd 7 (fun K hK => ?_)
    go_simp
    go_at_call 30
    refine (hC1.out _).mono ?_
    rintro e v1 ⟨b1, d1, rfl, hs1, hx1⟩
    replace hs1 := hide hs1
    have hbv1 : Hid (Below W.heap.size W v1) := hbA.out.trans (hx1.mono hbA.out.size)
    replace hx1 := hide hx1
    have hq := hide (hcl.out v1 hbv1.out)
    go_wp2_with fail
    refine hK.out _ _ hq.out (fun hHeld => ?_)
    clear hK K hq
    try simp only [Act.put, sq]
    refine rd 11 (fun K hK => ?_)
    go_simp
    go_at_call 30
    refine (hC2.out _).mono ?_
    rintro e v2 ⟨b2, d2, rfl, hs2, hx2⟩
    replace hs2 := hide hs2
    have hbv2 : Hid (Below W.heap.size W v2) := hbv1.out.trans (hx2.mono hbv1.out.size)
    replace hx2 := hide hx2
    have hq := hide (hcl.out v2 hbv2.out)
    go_wp2_with fail
    refine hK.out _ _ hq.out (fun hHeld => ?_)
    clear hK K hq
    try simp only [Act.put, sq]
    refine rd 13 (fun K hK => ?_)
    go_simp
    go_at_call 30
    refine (hC3.out _).mono ?_
    rintro e v3 ⟨b3, d3, rfl, hs3, hx3⟩
    replace hs3 := hide hs3
    have hbv3 : Hid (Below W.heap.size W v3) := hbv2.out.trans (hx3.mono hbv2.out.size)
    replace hx3 := hide hx3
    have hq := hide (hcl.out v3 hbv3.out)
    go_wp2_with fail
    refine hK.out _ _ hq.out (fun hHeld => ?_)
    clear hK K hq
    try simp only [Act.put, sq]
    refine rd 15 (fun K hK => ?_)
    go_simp
    go_at_call 30
    refine (hC4.out _).mono ?_
    rintro e v4 ⟨b4, d4, rfl, hs4, hx4⟩
    replace hs4 := hide hs4
    have hbv4 : Hid (Below W.heap.size W v4) := hbv3.out.trans (hx4.mono hbv3.out.size)
    replace hx4 := hide hx4
    have hq := hide (hcl.out v4 hbv4.out)
    go_wp2_with fail
    refine hK.out _ _ hq.out (fun hHeld => ?_)
    clear hK K hq
    try simp only [Act.put, sq]
    refine rd 18 (fun K hK => ?_)
    go_simp
    go_at_call 30
    refine (hC5.out _).mono ?_
    rintro e v5 ⟨b5, d5, rfl, hs5, hx5⟩
    replace hs5 := hide hs5
    have hbv5 : Hid (Below W.heap.size W v5) := hbv4.out.trans (hx5.mono hbv4.out.size)
    replace hx5 := hide hx5
    have hq := hide (hcl.out v5 hbv5.out)
    go_wp2_with fail
    refine hK.out _ _ hq.out (fun hHeld => ?_)
    clear hK K hq
    try simp only [Act.put, sq]
    refine rd 19 (fun K hK => ?_)
    refine wp_build_at _ _ rfl [(0, .slice b0 nv d0), (1, .slice b1 nf d1), (2, .slice b2 nl d2), (3, .slice b3 nt d3), (4, .slice b4 nt d4), (5, .slice b5 nr d5)] rfl #[.slice b0 nv d0, .slice b1 nf d1, .slice b2 nl d2, .slice b3 nt d3, .slice b4 nt d4, .slice b5 nr d5] (by rfl) ?_
    refine hK.out _ _ (hcl.out v5 hbv5.out) (fun hHeld => ?_)
    clear hK K
    try simp only [Act.put, sq]
    refine rd 21 (fun K hK => ?_)
    have zz0 := hx0.out.size
    have zz1 := hxA.out.size
    have zz2 := hx1.out.size
    have zz3 := hx2.out.size
    have zz4 := hx3.out.size
    have zz5 := hx4.out.size
    have zz6 := hx5.out.size
    have zW : W.drew.heap.size = W.heap.size := rfl
    have hz := HP.out.2.1
    have hlA := (Array.getElem?_eq_some_iff.1 hkA.out).1
    have hkX : v5.heap[v0.heap.size]? = some (.cells #[.slice none 0 0, .slice none 0 0, .slice none 0 0, .slice none 0 0, .slice none 0 0, .slice none 0 0] 36) := ((hx5.out.block _ (by omega)).trans ((hx4.out.block _ (by omega)).trans ((hx3.out.block _ (by omega)).trans ((hx2.out.block _ (by omega)).trans ((hx1.out.block _ (by omega)).trans hkA.out)))))
    refine wp_store_sub _ _ _ rfl v0.heap.size 0 #[.slice b0 nv d0, .slice b1 nf d1, .slice b2 nl d2, .slice b3 nt d3, .slice b4 nt d4, .slice b5 nr d5] rfl rfl (some6 hkX) (fun j _ => free_block hkX _) Tryz.sizeSt one6 ?_
    obtain ⟨Z, hZ⟩ : ∃ Z, v5.setCells v0.heap.size 0 (#[Value.slice b0 nv d0, .slice b1 nf d1, .slice b2 nl d2, .slice b3 nt d3, .slice b4 nt d4, .slice b5 nr d5] : Array Value).toList = Z := ⟨_, rfl⟩
    rw [hZ]
    have hkk : KeepS (fun k => k = v0.heap.size) v5 Z := by rw [← hZ]; exact setCells_keep (S := fun k => k = v0.heap.size) _ 0 (KeepS.refl v5) (.inl rfl)
    have hkZ : Z.heap[v0.heap.size]? = some (.cells #[.slice b0 nv d0, .slice b1 nf d1, .slice b2 nl d2, .slice b3 nt d3, .slice b4 nt d4, .slice b5 nr d5] 36) := by rw [← hZ]; exact six_sets _ _ _ _ _ _ hkX
    have zZ := hkk.size
    have hBZ : Below W.heap.size W Z := ⟨hkk.os.trans hbv5.out.os, hkk.tape.trans hbv5.out.tape, hkk.output.trans hbv5.out.output, Nat.le_trans hbv5.out.size hkk.size, fun k hk => (hkk.block k (by have := hbv5.out.size; omega) (by omega)).trans (hbv5.out.block k hk)⟩
    refine hK.out _ _ (hcl.out Z hBZ) (fun hHeld => ?_)
    clear hK K
    try simp only [Act.put, sq]
    refine wpAnyH_done (by kernel_rfl) ?_ _
    have t0 := ((((((hs0.out.below (by omega) hxA.out).below (by omega) hx1.out).below (by omega) hx2.out).below (by omega) hx3.out).below (by omega) hx4.out).below (by omega) hx5.out).keep (w' := Z) fun b h1 h2 => hkk.block b (by omega) (by omega)
    have t1 := ((((hs1.out.below (by omega) hx2.out).below (by omega) hx3.out).below (by omega) hx4.out).below (by omega) hx5.out).keep (w' := Z) fun b h1 h2 => hkk.block b (by omega) (by omega)
    have t2 := (((hs2.out.below (by omega) hx3.out).below (by omega) hx4.out).below (by omega) hx5.out).keep (w' := Z) fun b h1 h2 => hkk.block b (by omega) (by omega)
    have t3 := ((hs3.out.below (by omega) hx4.out).below (by omega) hx5.out).keep (w' := Z) fun b h1 h2 => hkk.block b (by omega) (by omega)
    have t4 := (hs4.out.below (by omega) hx5.out).keep (w' := Z) fun b h1 h2 => hkk.block b (by omega) (by omega)
    have t5 := hs5.out.keep (w' := Z) fun b h1 h2 => hkk.block b (by omega) (by omega)
    have hR : Rows6 Z W.heap.size b0 b1 b2 b3 b4 b5 (List.replicate nv 0) (List.replicate nf 0) (List.replicate nl 0) (List.replicate nt 0) (List.replicate nt 0) (List.replicate nr 0) v0.heap.size v1.heap.size v2.heap.size v3.heap.size v4.heap.size v5.heap.size := ⟨t0.mono (by omega) (Nat.le_refl _), t1.mono (by omega) (Nat.le_refl _), t2.mono (by omega) (Nat.le_refl _), t3.mono (by omega) (Nat.le_refl _), t4.mono (by omega) (Nat.le_refl _), t5.mono (by omega) (Nat.le_refl _), ⟨by omega, by omega, by omega, by omega, by omega, by omega, by omega⟩⟩
    have HF := hide (⟨hkZ, hR, (show W.heap.size ≤ v0.heap.size by omega), hBZ⟩ : _ ∧ _ ∧ _ ∧ _)
    clear hHeld hkZ hR hBZ hkk hkX hZ zZ hlA hz zW zz0 zz1 zz2 zz3 zz4 zz5 zz6 t0 t1 t2 t3 t4 t5
    go_wp2_with fail
    go_meet
    exact ⟨_, _, _, _, _, _, _, _, _, _, _, _, _, _, _, _, _, _, _, rfl, HF.out.1, HF.out.2.1, HF.out.2.2.1, HF.out.2.2.2⟩
  ·go_simp
   obtain ⟨A, hA⟩ : ∃ A, (W.alloc (.cells #[.slice none 0 0, .slice none 0 0, .slice none 0 0, .slice none 0 0, .slice none 0 0, .slice none 0 0] 36)).drew = A := ⟨_, rfl⟩
   have hq0 : Below W.heap.size W A := by rw [← hA]; exact ((Below.refl _ _).alloc (Nat.le_refl _) _).drew
   have hxA : Hid (Below W.drew.heap.size W.drew A) := ⟨hq0.os, hq0.tape, hq0.output, hq0.size, hq0.block⟩
   have hkA : Hid (A.heap[W.drew.heap.size]? = some (.cells #[.slice none 0 0, .slice none 0 0, .slice none 0 0, .slice none 0 0, .slice none 0 0, .slice none 0 0] 36)) := by rw [← hA]; exact World.alloc_heap_new W _
   have hbA : Hid (Below W.heap.size W A) := hq0
   try rw [hA]
   clear hA hq0
   refine hK.out _ _ (hcl.out A hbA.out) (fun hHeld => ?_)
   clear hK K
   try simp only [Act.put, sq]
   refine rd 3 (fun K hK => ?_)
   go_simp
   go_at_call 30
   refine (hC0.out _).mono ?_
   rintro e v0 ⟨b0, d0, rfl, hs0, hx0⟩
   replace hs0 := hide hs0
   have hbv0 : Hid (Below W.heap.size W v0) := hbA.out.trans (hx0.mono hbA.out.size)
   replace hx0 := hide hx0
   have hq := hide (hcl.out v0 hbv0.out)
   go_wp2_with fail
   refine hK.out _ _ hq.out (fun hHeld => ?_)
   clear hK K hq
   try simp only [Act.put, sq]
   refine rd 7 (fun K hK => ?_)
   go_simp
   go_at_call 30
   refine (hC1.out _).mono ?_
   rintro e v1 ⟨b1, d1, rfl, hs1, hx1⟩
   replace hs1 := hide hs1
   have hbv1 : Hid (Below W.heap.size W v1) := hbv0.out.trans (hx1.mono hbv0.out.size)
   replace hx1 := hide hx1
   have hq := hide (hcl.out v1 hbv1.out)
   go_wp2_with fail
   refine hK.out _ _ hq.out (fun hHeld => ?_)
   clear hK K hq
   try simp only [Act.put, sq]
   refine rd 11 (fun K hK => ?_)
   go_simp
   go_at_call 30
   refine (hC2.out _).mono ?_
   rintro e v2 ⟨b2, d2, rfl, hs2, hx2⟩
   replace hs2 := hide hs2
   have hbv2 : Hid (Below W.heap.size W v2) := hbv1.out.trans (hx2.mono hbv1.out.size)
   replace hx2 := hide hx2
   have hq := hide (hcl.out v2 hbv2.out)
   go_wp2_with fail
   refine hK.out _ _ hq.out (fun hHeld => ?_)
   clear hK K hq
   try simp only [Act.put, sq]
   refine rd 13 (fun K hK => ?_)
   go_simp
   go_at_call 30
   refine (hC3.out _).mono ?_
   rintro e v3 ⟨b3, d3, rfl, hs3, hx3⟩
   replace hs3 := hide hs3
   have hbv3 : Hid (Below W.heap.size W v3) := hbv2.out.trans (hx3.mono hbv2.out.size)
   replace hx3 := hide hx3
   have hq := hide (hcl.out v3 hbv3.out)
   go_wp2_with fail
   refine hK.out _ _ hq.out (fun hHeld => ?_)
   clear hK K hq
   try simp only [Act.put, sq]
   refine rd 15 (fun K hK => ?_)
   go_simp
   go_at_call 30
   refine (hC4.out _).mono ?_
   rintro e v4 ⟨b4, d4, rfl, hs4, hx4⟩
   replace hs4 := hide hs4
   have hbv4 : Hid (Below W.heap.size W v4) := hbv3.out.trans (hx4.mono hbv3.out.size)
   replace hx4 := hide hx4
   have hq := hide (hcl.out v4 hbv4.out)
   go_wp2_with fail
   refine hK.out _ _ hq.out (fun hHeld => ?_)
   clear hK K hq
   try simp only [Act.put, sq]
   refine rd 18 (fun K hK => ?_)
   go_simp
   go_at_call 30
   refine (hC5.out _).mono ?_
   rintro e v5 ⟨b5, d5, rfl, hs5, hx5⟩
   replace hs5 := hide hs5
   have hbv5 : Hid (Below W.heap.size W v5) := hbv4.out.trans (hx5.mono hbv4.out.size)
   replace hx5 := hide hx5
   have hq := hide (hcl.out v5 hbv5.out)
   go_wp2_with fail
   refine hK.out _ _ hq.out (fun hHeld => ?_)
   clear hK K hq
   try simp only [Act.put, sq]
   refine rd 19 (fun K hK => ?_)
   refine wp_build_at _ _ rfl [(0, .slice b0 nv d0), (1, .slice b1 nf d1), (2, .slice b2 nl d2), (3, .slice b3 nt d3), (4, .slice b4 nt d4), (5, .slice b5 nr d5)] rfl #[.slice b0 nv d0, .slice b1 nf d1, .slice b2 nl d2, .slice b3 nt d3, .slice b4 nt d4, .slice b5 nr d5] (by rfl) ?_
   refine hK.out _ _ (hcl.out v5 hbv5.out) (fun hHeld => ?_)
   clear hK K
   try simp only [Act.put, sq]
   refine rd 21 (fun K hK => ?_)
   have zz0 := hxA.out.size
   have zz1 := hx0.out.size
   have zz2 := hx1.out.size
   have zz3 := hx2.out.size
   have zz4 := hx3.out.size
   have zz5 := hx4.out.size
   have zz6 := hx5.out.size
   have zW : W.drew.heap.size = W.heap.size := rfl
   have hz := HP.out.2.1
   have hlA := (Array.getElem?_eq_some_iff.1 hkA.out).1
   have hkX : v5.heap[W.drew.heap.size]? = some (.cells #[.slice none 0 0, .slice none 0 0, .slice none 0 0, .slice none 0 0, .slice none 0 0, .slice none 0 0] 36) := ((hx5.out.block _ (by omega)).trans ((hx4.out.block _ (by omega)).trans ((hx3.out.block _ (by omega)).trans ((hx2.out.block _ (by omega)).trans ((hx1.out.block _ (by omega)).trans ((hx0.out.block _ (by omega)).trans hkA.out))))))
   refine wp_store_sub _ _ _ rfl W.drew.heap.size 0 #[.slice b0 nv d0, .slice b1 nf d1, .slice b2 nl d2, .slice b3 nt d3, .slice b4 nt d4, .slice b5 nr d5] rfl rfl (some6 hkX) (fun j _ => free_block hkX _) Tryz.sizeSt one6 ?_
   obtain ⟨Z, hZ⟩ : ∃ Z, v5.setCells W.drew.heap.size 0 (#[Value.slice b0 nv d0, .slice b1 nf d1, .slice b2 nl d2, .slice b3 nt d3, .slice b4 nt d4, .slice b5 nr d5] : Array Value).toList = Z := ⟨_, rfl⟩
   rw [hZ]
   have hkk : KeepS (fun k => k = W.drew.heap.size) v5 Z := by rw [← hZ]; exact setCells_keep (S := fun k => k = W.drew.heap.size) _ 0 (KeepS.refl v5) (.inl rfl)
   have hkZ : Z.heap[W.drew.heap.size]? = some (.cells #[.slice b0 nv d0, .slice b1 nf d1, .slice b2 nl d2, .slice b3 nt d3, .slice b4 nt d4, .slice b5 nr d5] 36) := by rw [← hZ]; exact six_sets _ _ _ _ _ _ hkX
   have zZ := hkk.size
   have hBZ : Below W.heap.size W Z := ⟨hkk.os.trans hbv5.out.os, hkk.tape.trans hbv5.out.tape, hkk.output.trans hbv5.out.output, Nat.le_trans hbv5.out.size hkk.size, fun k hk => (hkk.block k (by have := hbv5.out.size; omega) (by omega)).trans (hbv5.out.block k hk)⟩
   refine hK.out _ _ (hcl.out Z hBZ) (fun hHeld => ?_)
   clear hK K
   try simp only [Act.put, sq]
   refine wpAnyH_done (by kernel_rfl) ?_ _
   have t0 := (((((hs0.out.below (by omega) hx1.out).below (by omega) hx2.out).below (by omega) hx3.out).below (by omega) hx4.out).below (by omega) hx5.out).keep (w' := Z) fun b h1 h2 => hkk.block b (by omega) (by omega)
   have t1 := ((((hs1.out.below (by omega) hx2.out).below (by omega) hx3.out).below (by omega) hx4.out).below (by omega) hx5.out).keep (w' := Z) fun b h1 h2 => hkk.block b (by omega) (by omega)
   have t2 := (((hs2.out.below (by omega) hx3.out).below (by omega) hx4.out).below (by omega) hx5.out).keep (w' := Z) fun b h1 h2 => hkk.block b (by omega) (by omega)
   have t3 := ((hs3.out.below (by omega) hx4.out).below (by omega) hx5.out).keep (w' := Z) fun b h1 h2 => hkk.block b (by omega) (by omega)
   have t4 := (hs4.out.below (by omega) hx5.out).keep (w' := Z) fun b h1 h2 => hkk.block b (by omega) (by omega)
   have t5 := hs5.out.keep (w' := Z) fun b h1 h2 => hkk.block b (by omega) (by omega)
   have hR : Rows6 Z W.heap.size b0 b1 b2 b3 b4 b5 (List.replicate nv 0) (List.replicate nf 0) (List.replicate nl 0) (List.replicate nt 0) (List.replicate nt 0) (List.replicate nr 0) v0.heap.size v1.heap.size v2.heap.size v3.heap.size v4.heap.size v5.heap.size := ⟨t0.mono (by omega) (Nat.le_refl _), t1.mono (by omega) (Nat.le_refl _), t2.mono (by omega) (Nat.le_refl _), t3.mono (by omega) (Nat.le_refl _), t4.mono (by omega) (Nat.le_refl _), t5.mono (by omega) (Nat.le_refl _), ⟨by omega, by omega, by omega, by omega, by omega, by omega, by omega⟩⟩
   have HF := hide (⟨hkZ, hR, (show W.heap.size ≤ W.drew.heap.size by omega), hBZ⟩ : _ ∧ _ ∧ _ ∧ _)
   clear hHeld hkZ hR hBZ hkk hkX hZ zZ hlA hz zW zz0 zz1 zz2 zz3 zz4 zz5 zz6 t0 t1 t2 t3 t4 t5
   go_wp2_with fail
   go_meet
   exact ⟨_, _, _, _, _, _, _, _, _, _, _, _, _, _, _, _, _, _, _, rfl, HF.out.1, HF.out.2.1, HF.out.2.2.1, HF.out.2.2.2⟩
 case rest =>
  obtain ⟨sb, b0, b1, b2, b3, b4, b5, d0, d1, d2, d3, d4, d5, p1, p2, p3, p4, p5, p6, rfl, ks, hR, hsb, hB⟩ := hcut
  have HR := hide (⟨ks, hR, hB⟩ : _ ∧ _ ∧ _)
  replace hsb := hide hsb
  clear ks hR hB hd hwr hwr0 hC0 hC1 hC2 hC3 hC4 hC5 hcl
  go_wp2_with fail
  go_loopw [5] (fun iv wr => ∃ i : Nat, i ≤ nl ∧ iv = .int .i64 i ∧ wr.heap[sb]? = some (.cells #[.slice b0 nv d0, .slice b1 nf d1, .slice b2 nl d2, .slice b3 nt d3, .slice b4 nt d4, .slice b5 nr d5] 36) ∧ Rows6 wr W.heap.size b0 b1 b2 b3 b4 b5 (List.replicate nv 0) (List.replicate nf 0) (lkL nl i) (List.replicate nt 0) (List.replicate nt 0) (List.replicate nr 0) p1 p2 p3 p4 p5 p6 ∧ Below W.heap.size W wr) (fun iv _ => nl - (intOf iv).toNat)
  case atStart => exact ⟨0, Nat.zero_le _, rfl, HR.out.1, HR.out.2.1, HR.out.2.2⟩
  case round =>
   obtain ⟨i, hi, rfl, ks, hR, hB⟩ := hrel
   clear HR
   obtain ⟨s0, s1, s2, s3, s4, s5⟩ := six_cells ks
   by_cases h5 : i < nl
   ·obtain ⟨hv4, hf4, hl4, ht4, hnr⟩ := HN.out
    have hlt : (i : Int) < (nl : Int) := by omega
    obtain ⟨g, eb, g1, g2, hc, hf, hR2⟩ := hR.set2 (i := i) (by rw [lkL_len hi]; exact h5)
    subst eb
    have hne := ne_of_cell ks hc
    have hwi : wrap64 ((i : Int) + 1) = (i : Int) + 1 := wrap_sm (by omega)
    have hR3 := hR2 (-1)
    rw [lkL_set h5] at hR3
    have ks3 : (wr.setCell ⟨g, i, none⟩ (.int .i64 (-1))).heap[sb]? = _ := (heap_setCell_other wr ⟨g, i, none⟩ sb _ (fun e => hne e.symm)).trans ks
    obtain ⟨lv, hlv⟩ : ∃ v, (lkL nl i).getD i 0 = v := ⟨_, rfl⟩
    rw [hlv] at hc
    have HJ := hide (⟨ks3, hR3, (show Below W.heap.size W (wr.setCell ⟨g, i, none⟩ (.int .i64 (-1))) from hB.setCell g1 _), h5⟩ : _ ∧ _ ∧ _ ∧ _)
    clear hv4 hf4 hl4 ht4 hnr hi h5 ks hR hB hR2 hR3 ks3 hlv g1 g2 hne
    go_wp2_with fail
    go_roundw
    case rel =>
     (try rw [hwi])
     exact ⟨i + 1, HJ.out.2.2.2, rfl, HJ.out.1, HJ.out.2.1, HJ.out.2.2.1⟩
    case measure =>
     (try rw [hwi])
     exact Nat.sub_lt_sub_left HJ.out.2.2.2 (Nat.lt_succ_self i)
   ·have hil : nl = i := by omega
    subst hil
    rw [lkL_all] at hR
    obtain ⟨hv4, hf4, hl4, ht4, hnr⟩ := HN.out
    have hz := HP.out.2.1
    have hfin : ∀ wz : World, wz.heap[sb]? = some (.cells #[.slice b0 nv d0, .slice b1 nf d1, .slice b2 nl d2, .slice b3 nt d3, .slice b4 nt d4, .slice b5 nr d5] 36) → Rows6 wz W.heap.size b0 b1 b2 b3 b4 b5 (List.replicate nv 0) (List.replicate nf 0) (List.replicate nl (-1)) (List.replicate nt 0) ((List.replicate nt 0).set 0 1) (List.replicate nr 0) p1 p2 p3 p4 p5 p6 → Below W.heap.size W wz → ∃ U, ((((((wz.setCell ⟨w.heap.size + 1, 0, none⟩ (.slice b0 nv d0)).setCell ⟨w.heap.size + 1, 1, none⟩ (.slice b1 nf d1)).setCell ⟨w.heap.size + 1, 2, none⟩ (.slice b2 nl d2)).setCell ⟨w.heap.size + 1, 3, none⟩ (.slice b3 nt d3)).setCell ⟨w.heap.size + 1, 4, none⟩ (.slice b4 nt d4)).setCell ⟨w.heap.size + 1, 5, none⟩ (.slice b5 nr d5)) = U ∧ U.heap[w.heap.size + 1]? = some (.cells #[.slice b0 nv d0, .slice b1 nf d1, .slice b2 nl d2, .slice b3 nt d3, .slice b4 nt d4, .slice b5 nr d5] 36) ∧ ((∃ lo, w.heap.size ≤ lo ∧ ∃ p1 p2 p3 p4 p5 p6, DRows U lo b0 b1 b2 b3 b4 b5 (newM nv nf nl nt) p1 p2 p3 p4 p5 p6) ∧ DocS U b0 b1 b2 b3 b4 b5 nv nf nl nt nr (newM nv nf nl nt)) ∧ Below w.heap.size w U ∧ wz.heap[w.heap.size + 1]? = some (.cells #[.slice none 0 0, .slice none 0 0, .slice none 0 0, .slice none 0 0, .slice none 0 0, .slice none 0 0] 36) := by
     intro wz kz hRz hBz
     have kr : wz.heap[w.heap.size + 1]? = some (.cells #[.slice none 0 0, .slice none 0 0, .slice none 0 0, .slice none 0 0, .slice none 0 0, .slice none 0 0] 36) := (hBz.block _ (by omega)).trans HP.out.2.2
     have hkk : KeepS (fun k => k = w.heap.size + 1) wz ((((((wz.setCell ⟨w.heap.size + 1, 0, none⟩ (.slice b0 nv d0)).setCell ⟨w.heap.size + 1, 1, none⟩ (.slice b1 nf d1)).setCell ⟨w.heap.size + 1, 2, none⟩ (.slice b2 nl d2)).setCell ⟨w.heap.size + 1, 3, none⟩ (.slice b3 nt d3)).setCell ⟨w.heap.size + 1, 4, none⟩ (.slice b4 nt d4)).setCell ⟨w.heap.size + 1, 5, none⟩ (.slice b5 nr d5)) := keep_six _ _ _ _ _ _ (KeepS.refl wz) (.inl rfl)
     have hle := hRz.le
     have hRu := hRz.keep (fun b q1 q2 => hkk.block b (by omega) (by omega)) hkk.size
     refine ⟨_, rfl, six_sets _ _ _ _ _ _ kr, ?_, ?_, kr⟩
     ·refine (fun (hDR : DRows _ W.heap.size b0 b1 b2 b3 b4 b5 (newM nv nf nl nt) p1 p2 p3 p4 p5 p6) => ⟨⟨W.heap.size, (by omega), p1, p2, p3, p4, p5, p6, hDR⟩, DRows.doc (m := newM nv nf nl nt) hDR (by show (List.replicate nv (0 : Int)).length = nv; rw [List.length_replicate]) (by show (List.replicate nf (0 : Int)).length = nf; rw [List.length_replicate]) (by show (List.replicate nl (-1 : Int)).length = nl; rw [List.length_replicate]) (by unfold newM; simp) hnr (new_r4 _ _ _ _)⟩) ?_
      unfold DRows
      rw [new_at, new_st, new_rg, hnr]
      exact hRu
     ·have hBw := HP.out.1
      exact ⟨hkk.os.trans (hBz.os.trans hBw.os), hkk.tape.trans (hBz.tape.trans hBw.tape), hkk.output.trans (hBz.output.trans hBw.output), Nat.le_trans hBw.size (Nat.le_trans hBz.size hkk.size), fun k hk => (hkk.block k (by have := hBz.size; omega) (by omega)).trans ((hBz.block k (by omega)).trans (hBw.block k hk))⟩
    rcases Nat.eq_zero_or_pos nt with h0 | h0
    ·have g0 : decide (0 < nt) = false := by simp [h0]
     have hR2 : Rows6 wr W.heap.size b0 b1 b2 b3 b4 b5 (List.replicate nv 0) (List.replicate nf 0) (List.replicate nl (-1)) (List.replicate nt 0) ((List.replicate nt 0).set 0 1) (List.replicate nr 0) p1 p2 p3 p4 p5 p6 := by
      have e : (List.replicate nt (0 : Int)).set 0 1 = List.replicate nt 0 := by rw [h0]; rfl
      rw [e]; exact hR
     obtain ⟨U, hU, kU, hDU, hBU, kr⟩ := hfin wr ks hR2 hB
     obtain ⟨r0, r1, r2, r3, r4, r5⟩ := six_cells kr
     obtain ⟨f0, f1, f2, f3, f4, f5⟩ := (⟨free_block kr 0, free_block kr 1, free_block kr 2, free_block kr 3, free_block kr 4, free_block kr 5⟩ : _ ∧ _ ∧ _ ∧ _ ∧ _ ∧ _)
     have HF := hide (⟨kU, hDU, hBU⟩ : _ ∧ _ ∧ _)
     clear hfin hR hR2 ks hB hi h5 hv4 hf4 hl4 ht4 hnr hz h0 kU hDU hBU kr HN HP
     go_wp2_with fail
     exact bodyPost_ret (six_val rfl rfl HF.out.1) rfl ⟨_, _, _, _, _, _, ⟨_, _, _, _, _, _, rfl⟩, HF.out.2.1.1, HF.out.2.1.2, HF.out.2.2⟩
    ·have g0 : decide (0 < nt) = true := by simp [h0]
     have h0i : (0 : Int) < (nt : Int) := by omega
     obtain ⟨g, eb, g1, g2, hc, hf, hR2⟩ := hR.set4 (i := 0) (by rw [List.length_replicate]; exact h0)
     subst eb
     have hne := ne_of_cell ks hc
     obtain ⟨Wz, hWz⟩ : ∃ Wz, wr.setCell ⟨g, 0, none⟩ (.int .i64 1) = Wz := ⟨_, rfl⟩
     have hRz := hR2 1
     rw [hWz] at hRz
     have kz := (show Wz.heap[sb]? = wr.heap[sb]? by rw [← hWz]; exact heap_setCell_other wr ⟨g, 0, none⟩ sb _ (fun e => hne e.symm)).trans ks
     have hBz : Below W.heap.size W Wz := by rw [← hWz]; exact hB.setCell g1 _
     obtain ⟨U, hU, kU, hDU, hBU, kr⟩ := hfin Wz kz hRz hBz
     obtain ⟨r0, r1, r2, r3, r4, r5⟩ := six_cells kr
     obtain ⟨f0, f1, f2, f3, f4, f5⟩ := (⟨free_block kr 0, free_block kr 1, free_block kr 2, free_block kr 3, free_block kr 4, free_block kr 5⟩ : _ ∧ _ ∧ _ ∧ _ ∧ _ ∧ _)
     obtain ⟨t0, t1, t2, t3, t4, t5⟩ := six_cells kz
     obtain ⟨lv, hlv⟩ : ∃ v, (List.replicate nt (0 : Int)).getD 0 0 = v := ⟨_, rfl⟩
     rw [hlv] at hc
     have HF := hide (⟨kU, hDU, hBU⟩ : _ ∧ _ ∧ _)
     clear hfin hR hR2 hRz ks hB hBz hi h5 hv4 hf4 hl4 ht4 hnr hz h0 kU hDU hBU kr kz hne g1 g2 hlv HN HP
     go_upto_region 9 with fail
     try rw [hWz]
     clear hWz hc hf s0 s1 s2 s3 s4 s5
     go_wp2_with fail
     exact bodyPost_ret (six_val rfl rfl HF.out.1) rfl ⟨_, _, _, _, _, _, ⟨_, _, _, _, _, _, rfl⟩, HF.out.2.1.1, HF.out.2.1.2, HF.out.2.2⟩
theorem rbegin_any (w : World) (hv4 : nv ≤ 4) (hf4 : nf ≤ 4) (hl4 : nl ≤ 4) (ht4 : nt ≤ 4) (hnr : nt * 4 = nr) :
 Calls Tryz.prog 10 #[.agg #[.slice x1 nv z1, .slice x2 nf z2, .slice x3 nl z3, .slice x4 nt z4]] w fun e w' => ∃ b0 b1 b2 b3 b4 b5, (∃ d0 d1 d2 d3 d4 d5, e = .returned (.agg #[.slice b0 nv d0, .slice b1 nf d1, .slice b2 nl d2, .slice b3 nt d3, .slice b4 nt d4, .slice b5 nr d5])) ∧ DocS w' b0 b1 b2 b3 b4 b5 nv nf nl nt nr (newM nv nf nl nt) ∧ Below w.heap.size w w' := by
 refine (rbegin_rows w hv4 hf4 hl4 ht4 hnr).mono ?_
 rintro e w' ⟨b0, b1, b2, b3, b4, b5, he, -, hD, hB⟩
 exact ⟨b0, b1, b2, b3, b4, b5, he, hD, hB⟩
end
end Go.Proofs.YtcfpedjfofpnkaaGreatDoor
