import Derived.Test.YtcfpedjfofpnkaaGreatDoorRuC0
import Derived.Test.YtcfpedjfofpnkaaGreatDoorRu22
set_option linter.unusedVariables false
set_option linter.unusedSimpArgs false
/-
  The document's Show: lines of names and numbers.
-/
namespace Go.Proofs.YtcfpedjfofpnkaaGreatDoor
open Go.RowKit Go.Shelf Go.Proofs.Cod

theorem sz_n {x : Tx} {n : Nat} (h : x.length + n ≤ 4611686018427387904) : ¬ 9223372036854775807 < (bs x).size + n := by rw [bs_size]; omega
theorem sz_b {x y : Tx} (h : x.length + y.length ≤ 4611686018427387904) : ¬ 9223372036854775807 < (bs x).size + (bs y).size := by rw [bs_size, bs_size]; omega
theorem ar_a {a b i : Nat} (h1 : a ≤ i * 31) (h2 : b ≤ 21) (h3 : i ≤ 4) : a + b ≤ 4611686018427387904 := by omega
section
variable {w w' : World} {a : Option Addr} {l : List Int} {ns : List Tx}
set_option maxRecDepth 100000 in
set_option maxHeartbeats 2000000 in
theorem values_any {B base : Nat} (ht : Tabs w B) (hB : B ≤ w.heap.size) {nv : Value} {n cap : Nat} (hns : w.ownsRow base 9 1 nv ns.length (ns.map strW)) (hnn : ns.length = n) (h8 : ∀ k, (ns.getD k []).length ≤ 8) (hl : Is w a l) (hn : l.length = n) (h4 : n ≤ 4) (hv : ∀ v, v ∈ l → val3 v) :
    Calls Tryz.prog 37 #[nv, .slice a n cap] w fun e w' => e = .returned (.string (bs (linesS Lib.itoa ns l n))) ∧ Below w.heap.size w w' := by
  rw [hnn] at hns
  obtain ⟨na, nc, rfl, hws⟩ := row_ws0 hns hnn
  have hvk : ∀ k, val3 (l.getD k 0) := fun k => by
    by_cases e : k < l.length
    · exact hv _ (getD_mem e)
    · rw [List.getD_eq_getElem?_getD, List.getElem?_eq_none (by omega)]; exact ⟨by decide, by decide⟩
  have HI := hide (fun u (hu : Below w.heap.size w u) (x : Int) (h : val3 x) => itoa_any x (by have := h.1; omega) (by have := h.2; omega) u (ht.keep (hu.mono hB)))
  have H := hide (⟨hws, hl, hvk, h8, hn, hnn⟩ : _ ∧ _ ∧ _ ∧ _ ∧ _ ∧ _)
  clear hns hws hl hv hvk h8 hn hnn ht hB
  go_enter Tryz.func37, Tryz.ntmps37
  go_wp2_with fail
  go_loopw [5, 6] (fun tv iv wr => ∃ i : Nat, i ≤ n ∧ iv = .int .i64 i ∧ tv = .string (bs (linesS Lib.itoa ns l i)) ∧ Below w.heap.size w wr) (fun _ iv _ => n - (intOf iv).toNat)
  case atStart => exact ⟨0, Nat.zero_le _, rfl, rfl, Below.refl _ _⟩
  case round =>
    obtain ⟨i, hi, rfl, rfl, hb⟩ := hrel
    by_cases h5 : i < n
    · obtain ⟨hws, hl, hvk, h8, hn, hnn⟩ := H.out
      have hlt : (i : Int) < (n : Int) := by omega
      obtain ⟨gb, go, e1, gl, c1⟩ := hws i (by omega)
      subst e1
      obtain ⟨lb, lo, e2, ll, c2⟩ := hl i (by omega)
      subst e2
      have hd : Below w.heap.size w wr.drew := hb.trans ⟨rfl, rfl, rfl, Nat.le_refl _, fun _ _ => rfl⟩
      have HC : Hid (∀ u, Below w.heap.size w u → u.cell? ⟨gb, go + i, none⟩ = some (.string (bs (ns.getD i []))) ∧ u.cell? ⟨lb, lo + i, none⟩ = some (.int .i64 (l.getD i 0))) := fun u hu => ⟨(hu.cell (p := ⟨gb, go + i, none⟩) gl).trans c1, (hu.cell (p := ⟨lb, lo + i, none⟩) ll).trans c2⟩
      have hI := HI.out wr.drew hd _ (hvk i)
      have hL := linesS_len Lib.itoa ns l i h8 (fun k => itoa_sm (hvk k).1 (hvk k).2)
      have hit := itoa_sm (hvk i).1 (hvk i).2
      have hnm := h8 i
      have hsu := linesS_succ Lib.itoa ns l i
      obtain ⟨T, hT⟩ : ∃ T, linesS Lib.itoa ns l i = T := ⟨_, rfl⟩
      obtain ⟨nm, hnmq⟩ : ∃ x, ns.getD i [] = x := ⟨_, rfl⟩
      obtain ⟨it, hitq⟩ : ∃ x, Lib.itoa (l.getD i 0) = x := ⟨_, rfl⟩
      obtain ⟨lv, hlv⟩ : ∃ x, l.getD i 0 = x := ⟨_, rfl⟩
      rw [hT] at hL hsu
      rw [hnmq] at hnm hsu
      rw [hitq] at hit hsu
      rw [hitq] at hI
      rw [hlv] at hI
      simp only [hnmq, hlv] at HC
      have z1 : ¬ 9223372036854775807 < (bs T).size + (bs nm).size := sz_b (by omega)
      have a1 : bs T ++ bs nm = bs (T ++ nm) := bs_append _ _
      have e3 : (T ++ nm).length = T.length + nm.length := List.length_append
      have z2 : ¬ 9223372036854775807 < (bs (T ++ nm)).size + 1 := sz_n (by omega)
      have a2 : bs (T ++ nm) ++ ⟨#[61]⟩ = bs (T ++ nm ++ [61]) := bs_append _ [61]
      have e4 : (T ++ nm ++ [61]).length = T.length + nm.length + 1 := by rw [List.length_append, e3]; rfl
      have z3 : ¬ 9223372036854775807 < (bs (T ++ nm ++ [61])).size + (bs it).size := sz_b (by omega)
      have a3 : bs (T ++ nm ++ [61]) ++ bs it = bs (T ++ nm ++ [61] ++ it) := bs_append _ _
      have e5 : (T ++ nm ++ [61] ++ it).length = T.length + nm.length + 1 + it.length := by rw [List.length_append, e4]
      have z4 : ¬ 9223372036854775807 < (bs (T ++ nm ++ [61] ++ it)).size + 1 := sz_n (by omega)
      have a4 : bs (T ++ nm ++ [61] ++ it) ++ ⟨#[10]⟩ = bs (T ++ nm ++ [61] ++ it ++ [10]) := bs_append _ [10]
      have hV : T ++ nm ++ [61] ++ it ++ [10] = linesS Lib.itoa ns l (i + 1) := by rw [hsu]; unfold lineS; simp
      generalize T ++ nm ++ [61] ++ it ++ [10] = V4 at *
      generalize T ++ nm ++ [61] ++ it = V3 at *
      generalize T ++ nm ++ [61] = V2 at *
      generalize T ++ nm = V1 at *
      have hwi : wrap64 ((i : Int) + 1) = (i : Int) + 1 := wrap_sm (by omega)
      obtain ⟨s1, s2⟩ := HC.out wr hb
      have hS := hide (HC.out wr.drew hd)
      have HJ := hide (⟨hV, h5, hd⟩ : _ ∧ _ ∧ _)
      rw [hT]
      clear hb hi h5 hws hl hvk h8 hn hnn gl c1 ll c2 hL hit hnm hsu hT hnmq hitq hlv e3 e4 e5 hV h4 hd
      go_upto_region 5 with fail
      refine wp_region_held_drew (S := (fun u => u.cell? ⟨gb, go + i, none⟩ = some (.string (bs nm)) ∧ u.cell? ⟨lb, lo + i, none⟩ = some (.int .i64 lv))) (by kernel_rfl) hS.out (fun hHeld => ?_)
      refine wpAnyH_take (i := 0) (v := ?_) rfl (by kernel_rfl) (by kernel_rfl) (by kernel_rfl) (fun _ _ _ h => h) (Or.inl ⟨by rfl, ?_⟩) hHeld ?_
      rotate_left
      · intro w9 hSw; (try dsimp only at hSw); go_simp; try with_reducible rfl
      simp only [Act.put, List.getElem_toArray, List.getElem_cons_zero, List.getElem_cons_succ, List.setIfInBounds_toArray, List.set_cons_succ, List.set_cons_zero]
      refine wpAnyH_take (i := 1) (v := ?_) rfl (by kernel_rfl) (by kernel_rfl) (by kernel_rfl) (fun _ _ _ h => h) (Or.inl ⟨by rfl, ?_⟩) hHeld ?_
      rotate_left
      · intro w9 hSw; (try dsimp only at hSw); go_simp; try with_reducible rfl
      simp only [Act.put, List.getElem_toArray, List.getElem_cons_zero, List.getElem_cons_succ, List.setIfInBounds_toArray, List.set_cons_succ, List.set_cons_zero]
      refine wpAnyH_take (i := 2) (v := ?_) rfl (by kernel_rfl) (by kernel_rfl) (by kernel_rfl) (fun _ _ _ h => h) (Or.inl ⟨by rfl, ?_⟩) hHeld ?_
      rotate_left
      · intro w9 hSw; (try dsimp only at hSw); go_simp; try with_reducible rfl
      simp only [Act.put, List.getElem_toArray, List.getElem_cons_zero, List.getElem_cons_succ, List.setIfInBounds_toArray, List.set_cons_succ, List.set_cons_zero]
      refine wpAnyH_take (i := 3) (v := ?_) rfl (by kernel_rfl) (by kernel_rfl) (by kernel_rfl) (fun _ _ _ h => h) (Or.inl ⟨by rfl, ?_⟩) hHeld ?_
      rotate_left
      · intro w9 hSw; (try dsimp only at hSw); go_simp; try with_reducible rfl
      simp only [Act.put, List.getElem_toArray, List.getElem_cons_zero, List.getElem_cons_succ, List.setIfInBounds_toArray, List.set_cons_succ, List.set_cons_zero]
      refine wpAnyH_take (i := 4) (v := ?_) rfl (by kernel_rfl) (by kernel_rfl) (by kernel_rfl) (fun _ _ _ h => h) (Or.inl ⟨by rfl, ?_⟩) hHeld ?_
      rotate_left
      · intro w9 hSw; (try dsimp only at hSw); go_simp; try with_reducible rfl
      simp only [Act.put, List.getElem_toArray, List.getElem_cons_zero, List.getElem_cons_succ, List.setIfInBounds_toArray, List.set_cons_succ, List.set_cons_zero]
      refine wpAnyH_take (i := 5) (v := ?_) rfl (by kernel_rfl) (by kernel_rfl) (by kernel_rfl) (fun _ _ _ h => h) (Or.inl ⟨by rfl, ?_⟩) hHeld ?_
      rotate_left
      · intro w9 hSw; (try dsimp only at hSw); go_simp; try with_reducible rfl
      simp only [Act.put, List.getElem_toArray, List.getElem_cons_zero, List.getElem_cons_succ, List.setIfInBounds_toArray, List.set_cons_succ, List.set_cons_zero]
      refine wpAnyH_take (i := 6) (v := ?_) rfl (by kernel_rfl) (by kernel_rfl) (by kernel_rfl) (fun _ _ _ h => h) (Or.inl ⟨by rfl, ?_⟩) hHeld ?_
      rotate_left
      · intro w9 hSw; (try dsimp only at hSw); go_simp; try with_reducible rfl
      simp only [Act.put, List.getElem_toArray, List.getElem_cons_zero, List.getElem_cons_succ, List.setIfInBounds_toArray, List.set_cons_succ, List.set_cons_zero]
      refine wpAnyH_take (i := 7) (v := ?_) rfl (by kernel_rfl) (by kernel_rfl) (by kernel_rfl) (fun _ _ _ h => h) (Or.inl ⟨by rfl, ?_⟩) hHeld ?_
      rotate_left
      · intro w9 hSw; (try dsimp only at hSw); go_simp; try with_reducible rfl
      simp only [Act.put, List.getElem_toArray, List.getElem_cons_zero, List.getElem_cons_succ, List.setIfInBounds_toArray, List.set_cons_succ, List.set_cons_zero]
      refine wpAnyH_take (i := 8) (v := ?_) rfl (by kernel_rfl) (by kernel_rfl) (by kernel_rfl) (fun _ _ _ h => h) (Or.inl ⟨by rfl, ?_⟩) hHeld ?_
      rotate_left
      · intro w9 hSw; (try dsimp only at hSw); go_simp; try with_reducible rfl
      simp only [Act.put, List.getElem_toArray, List.getElem_cons_zero, List.getElem_cons_succ, List.setIfInBounds_toArray, List.set_cons_succ, List.set_cons_zero]
      refine wpAnyH_take (i := 9) (v := ?_) rfl (by kernel_rfl) (by kernel_rfl) (by kernel_rfl) (fun _ _ _ h => h) (Or.inl ⟨by rfl, ?_⟩) hHeld ?_
      rotate_left
      · intro w9 hSw; (try dsimp only at hSw); go_simp; try with_reducible rfl
      simp only [Act.put, List.getElem_toArray, List.getElem_cons_zero, List.getElem_cons_succ, List.setIfInBounds_toArray, List.set_cons_succ, List.set_cons_zero]
      refine wpAnyH_take (i := 10) (v := ?_) rfl (by kernel_rfl) (by kernel_rfl) (by kernel_rfl) (fun _ _ _ h => h) (Or.inl ⟨by rfl, ?_⟩) hHeld ?_
      rotate_left
      · intro w9 hSw; (try dsimp only at hSw); go_simp; try with_reducible rfl
      simp only [Act.put, List.getElem_toArray, List.getElem_cons_zero, List.getElem_cons_succ, List.setIfInBounds_toArray, List.set_cons_succ, List.set_cons_zero]
      refine wpAnyH_ready (rs := [11]) (by kernel_rfl) (by simp) ?_
      refine AllReadyH.cons rfl (fun K hK => ?_) AllReadyH.nil
      go_simp
      go_at_call 33
      refine hI.mono ?_
      rintro e w8 ⟨rfl, hb8⟩
      replace hb8 : Below w.heap.size w w8 := HJ.out.2.2.trans (hb8.mono HJ.out.2.2.size)
      have q := hide (HC.out w8 hb8)
      have HB8 := hide hb8
      clear hb8 hHeld s1 s2 hI
      go_wp2_with fail
      refine hK.out _ _ q.out (fun hHeld => ?_)
      clear hK K
      try simp only [Act.put, List.getElem_toArray, List.getElem_cons_zero, List.getElem_cons_succ, List.setIfInBounds_toArray, List.set_cons_succ, List.set_cons_zero]
      refine wpAnyH_take (i := 12) (v := ?_) rfl (by kernel_rfl) (by kernel_rfl) (by kernel_rfl) (fun _ _ _ h => h) (Or.inl ⟨by rfl, ?_⟩) hHeld ?_
      rotate_left
      · intro w9 hSw; (try dsimp only at hSw); go_simp; try with_reducible rfl
      simp only [Act.put, List.getElem_toArray, List.getElem_cons_zero, List.getElem_cons_succ, List.setIfInBounds_toArray, List.set_cons_succ, List.set_cons_zero]
      refine wpAnyH_take (i := 13) (v := ?_) rfl (by kernel_rfl) (by kernel_rfl) (by kernel_rfl) (fun _ _ _ h => h) (Or.inl ⟨by rfl, ?_⟩) hHeld ?_
      rotate_left
      · intro w9 hSw; (try dsimp only at hSw); go_simp; try with_reducible rfl
      simp only [Act.put, List.getElem_toArray, List.getElem_cons_zero, List.getElem_cons_succ, List.setIfInBounds_toArray, List.set_cons_succ, List.set_cons_zero]
      refine wpAnyH_take (i := 14) (v := ?_) rfl (by kernel_rfl) (by kernel_rfl) (by kernel_rfl) (fun _ _ _ h => h) (Or.inl ⟨by rfl, ?_⟩) hHeld ?_
      rotate_left
      · intro w9 hSw; (try dsimp only at hSw); go_simp; try with_reducible rfl
      simp only [Act.put, List.getElem_toArray, List.getElem_cons_zero, List.getElem_cons_succ, List.setIfInBounds_toArray, List.set_cons_succ, List.set_cons_zero]
      refine wpAnyH_done (by kernel_rfl) ?_ _
      clear hHeld q
      go_wp2_with fail
      go_roundw
      case rel =>
        (try rw [hwi])
        exact ⟨i + 1, HJ.out.2.1, rfl, by rw [HJ.out.1], HB8.out⟩
      case measure =>
        (try rw [hwi])
        exact Nat.sub_lt_sub_left HJ.out.2.1 (Nat.lt_succ_self i)
    · have hil : i = n := by omega
      subst hil
      have HB := hide hb
      clear hb hi h5 H HI h4
      go_wp2_with fail
      go_ret
      exact ⟨rfl, HB.out⟩
end
end Go.Proofs.YtcfpedjfofpnkaaGreatDoor
/-
  The document's Next: a thread's next instruction.
-/
namespace Go.Proofs.YtcfpedjfofpnkaaGreatDoor
open Go.RowKit Go.Shelf Go.Proofs.Cod

def insR (x : In7) (ln : Int) (wd : Tx) : Array Value := #[.string (bs x.op), .int .i64 x.r, .bool x.aR, .int .i64 x.aN, .bool x.bR, .int .i64 x.bN, .int .i64 x.x, .int .i64 ln, .string (bs wd)]
def codeOf (P : RP) : List (List In7) := P.thr.map fun th => th.code.map RI.i
section
variable {w w' : World} {a0 a1 a2 a3 a4 a5 : Option Addr} {nv nf nl nt nr : Nat} {m : MS} {P : RP} {TV : List (Value × Value)} {x1 x2 x3 x4 : Option Addr} {y1 y2 y3 z1 z2 z3 z4 : Nat}
theorem nine_val {w : World} {fn : Func} {tmps : Array Value} {b k : Nat} {v0 v1 v2 v3 v4 v5 v6 v7 v8 : Value} (hr : fn.results = #[.cell k 114]) (ht : tmps[k]? = some (.pointer (some ⟨b, 0, none⟩))) (hc : w.heap[b]? = some (.cells #[v0, v1, v2, v3, v4, v5, v6, v7, v8] 114)) : (results fn tmps).run Tryz.prog w = .ok (.agg #[v0, v1, v2, v3, v4, v5, v6, v7, v8]) w := by
  obtain ⟨c0, c1, c2, c3, c4, c5, c6, c7, c8⟩ := nine_cells hc
  simp [results, hr, ht, go_sem, c0, c1, c2, c3, c4, c5, c6, c7, c8]
theorem bs_end : bs oEnd = ⟨#[101, 110, 100]⟩ := rfl
set_option maxRecDepth 100000 in
set_option maxHeartbeats 1000000 in
theorem rnext_any {c0 c1 c2 c3 c4 c5 : Nat} (hQ : DView w (.slice x1 y1 z1) (.slice x2 y2 z2) (.slice x3 y3 z3) (.slice x4 nt z4) P TV) (hnt : P.thr.length = nt) (h : DocS w a0 a1 a2 a3 a4 a5 nv nf nl nt nr m) {t : Nat} (ht : t < nt) (hpc : (m.th t).pc ≤ ((codeOf P).getD t []).length) :
    Calls Tryz.prog 38 #[.agg #[.slice x1 y1 z1, .slice x2 y2 z2, .slice x3 y3 z3, .slice x4 nt z4], .agg #[.slice a0 nv c0, .slice a1 nf c1, .slice a2 nl c2, .slice a3 nt c3, .slice a4 nt c4, .slice a5 nr c5], .int .i64 t] w fun e w' => ∃ ln wd, e = .returned (.agg (insR (nextI (codeOf P) t (m.th t)) ln wd)) ∧ Below w.heap.size w w' := by
  obtain ⟨W, hW⟩ : ∃ W, ((w.alloc (.cells #[.slice x1 y1 z1, .slice x2 y2 z2, .slice x3 y3 z3, .slice x4 nt z4] 29)).alloc (.cells #[.slice a0 nv c0, .slice a1 nf c1, .slice a2 nl c2, .slice a3 nt c3, .slice a4 nt c4, .slice a5 nr c5] 36)).alloc (.cells #[.string ⟨#[]⟩, .int .i64 0, .bool false, .int .i64 0, .bool false, .int .i64 0, .int .i64 0, .int .i64 0, .string ⟨#[]⟩] 114) = W := ⟨_, rfl⟩
  obtain ⟨hB, k1, k2, k3, hz⟩ := three_new _ _ _ _ hW
  have HB := hide (⟨hB, k3⟩ : _ ∧ _)
  obtain ⟨th, hth⟩ : ∃ th, P.thr[t]? = some th := ⟨_, List.getElem?_eq_getElem (by omega)⟩
  obtain ⟨p, hp⟩ : ∃ p, TV[t]? = some p := ⟨_, List.getElem?_eq_getElem (by rw [hQ.len]; omega)⟩
  have hQW := hQ.below hB
  obtain ⟨g, cap, hgv, -, -, ct⟩ := hQW.thrAt hth hp
  injection hgv with hga hnq hcq
  subst hga
  clear hcq hnq
  have hrow := hQW.c t th p hth hp
  have hC : (codeOf P).getD t [] = th.code.map RI.i := by unfold codeOf; rw [List.getD_eq_getElem?_getD, List.getElem?_map, hth]; rfl
  obtain ⟨b, off, rfl, -, hcp⟩ := (h.below hB).pcAt ht
  have hx : nextI (codeOf P) t (m.th t) = (th.code.map RI.i).getD (m.th t).pc endI := by unfold nextI; rw [hC]
  rw [hx]
  rw [hC, List.length_map] at hpc
  obtain ⟨pc, hpcq⟩ : ∃ pc, (m.th t).pc = pc := ⟨_, rfl⟩
  rw [hpcq] at hcp hpc ⊢
  obtain ⟨-, -, -, q3⟩ := four_cells k1
  obtain ⟨-, -, -, s3, -, -⟩ := six_cells k2
  obtain ⟨r0, r1, r2, r3, r4, r5, r6, r7, r8⟩ := nine_cells k3
  obtain ⟨fz0, fz1, fz2, fz3, fz4, fz5, fz6, fz7, fz8⟩ := (⟨free_block k3 0, free_block k3 1, free_block k3 2, free_block k3 3, free_block k3 4, free_block k3 5, free_block k3 6, free_block k3 7, free_block k3 8⟩ : _ ∧ _ ∧ _ ∧ _ ∧ _ ∧ _ ∧ _ ∧ _ ∧ _)
  have htn : (t : Int) < (nt : Int) := by omega
  obtain ⟨ca, cc, hpv⟩ := owns_len hrow
  by_cases e : pc = th.code.length
  · have e1 : (th.code.map RI.i).getD pc endI = endI := by rw [List.getD_eq_getElem?_getD, List.getElem?_eq_none (by rw [List.length_map]; omega)]; rfl
    rw [e1]
    rw [hpv] at ct
    obtain ⟨cl, hcl⟩ : ∃ cl, th.code.length = cl := ⟨_, rfl⟩
    rw [hcl] at e ct
    subst e
    clear hB k1 k2 k3 hz hQW hQ hrow hth hp h hnt ht hC hx hpc hpcq hcl e1 hpv
    go_enter Tryz.func38, Tryz.ntmps38
    go_upto_region 1 with fail
    try rw [hW]
    go_wp2_with fail
    exact bodyPost_ret (nine_val rfl rfl (nine _ _ _ _ _ _ _ _ _ HB.out.2)) rfl ⟨0, [], rfl, below_nine _ _ _ _ _ _ _ _ _ HB.out.1 (by omega)⟩
  · have hlt : pc < th.code.length := by omega
    obtain ⟨r, hr⟩ : ∃ r, th.code[pc]? = some r := ⟨_, List.getElem?_eq_getElem hlt⟩
    have e1 : (th.code.map RI.i).getD pc endI = r.i := by rw [List.getD_eq_getElem?_getD, List.getElem?_map, hr]; rfl
    rw [e1]
    obtain ⟨cg, cc, hpv, -, i9⟩ := i9_at hrow hr
    rw [hpv] at ct
    obtain ⟨cl, hcl⟩ : ∃ cl, th.code.length = cl := ⟨_, rfl⟩
    rw [hcl] at e ct hlt
    have hne : ((pc : Int) == (cl : Int)) = false := by simp only [beq_eq_false_iff_ne]; omega
    have hlt2 : (pc : Int) < (cl : Int) := by omega
    obtain ⟨i0, i1, i2, i3, i4, i5, i6, i7, i8⟩ := i9
    obtain ⟨xi, ln, wd⟩ := r
    dsimp only at i0 i1 i2 i3 i4 i5 i6 i7 i8 ⊢
    clear hB k1 k2 k3 hz hQW hQ hrow hth hp h hnt ht hC hx hpc hpcq hcl e1 hpv hr hlt e
    go_enter Tryz.func38, Tryz.ntmps38
    go_upto_region 1 with fail
    try rw [hW]
    go_wp2_with fail
    exact bodyPost_ret (nine_val rfl rfl (nine _ _ _ _ _ _ _ _ _ HB.out.2)) rfl ⟨ln, wd, rfl, below_nine _ _ _ _ _ _ _ _ _ HB.out.1 (by omega)⟩
end
end Go.Proofs.YtcfpedjfofpnkaaGreatDoor
/-
  The document's Can.
-/
namespace Go.Proofs.YtcfpedjfofpnkaaGreatDoor
open Go.RowKit Go.Shelf Go.Proofs.Cod

/-- An instruction that fits a program. -/
structure XB (nv nf nl nt : Nat) (x : In7) : Prop where
  x0 : 0 ≤ x.x
  vr : x.op = oLoad ∨ x.op = oStore → x.x < nv
  fl : x.op = oGet ∨ x.op = oPut → x.x < nf
  lk : x.op = oLock ∨ x.op = oUnlock → x.x < nl
  th : x.op = oSpawn ∨ x.op = oJoin → x.x < nt
  r : 0 ≤ x.r ∧ x.r < 4
  a : argB4 x.aR x.aN
  b : argB4 x.bR x.bN
  op : x.op = oSet ∨ x.op = oAdd ∨ x.op = oSub ∨ x.op = oMul ∨ x.op = oLoad ∨ x.op = oStore ∨ x.op = oGet ∨ x.op = oPut ∨ x.op = oLock ∨ x.op = oUnlock ∨ x.op = oSpawn ∨ x.op = oJoin ∨ x.op = oJump ∨ x.op = oJeq ∨ x.op = oJlt ∨ x.op = oCheck ∨ x.op = oEnd
theorem xb_of {nv nf nl nt n : Nat} {x : In7} (hx : x = endI ∨ InsX nv nf nl nt n x) : XB nv nf nl nt x := by
  rcases hx with rfl | hx
  · refine ⟨by decide, fun q => ?_, fun q => ?_, fun q => ?_, fun q => ?_, ⟨by decide, by decide⟩, ⟨by decide, by decide, fun q => by cases q⟩, ⟨by decide, by decide, fun q => by cases q⟩, by simp [endI, newIns]⟩
    · rcases q with q | q <;> cases q
    · rcases q with q | q <;> cases q
    · rcases q with q | q <;> cases q
    · rcases q with q | q <;> cases q
  · obtain ⟨q, hq, hop, x1, x2, x3, x4, x5⟩ := hx.ex
    obtain ⟨⟨s1, s2⟩, s3, s4⟩ := hx.sm
    simp only [shapeT, List.mem_cons, List.not_mem_nil, or_false] at hq
    refine ⟨hx.x0, fun e => ?_, fun e => ?_, fun e => ?_, fun e => ?_, ⟨s1, s2⟩, s3, s4, ?_⟩
    · rw [hop] at e
      rcases hq with rfl | rfl | rfl | rfl | rfl | rfl | rfl | rfl | rfl | rfl | rfl | rfl | rfl | rfl | rfl | rfl | rfl <;> first | exact x1 (by decide) | (rcases e with e | e <;> exact absurd e (by decide))
    · rw [hop] at e
      rcases hq with rfl | rfl | rfl | rfl | rfl | rfl | rfl | rfl | rfl | rfl | rfl | rfl | rfl | rfl | rfl | rfl | rfl <;> first | exact x2 (by decide) | (rcases e with e | e <;> exact absurd e (by decide))
    · rw [hop] at e
      rcases hq with rfl | rfl | rfl | rfl | rfl | rfl | rfl | rfl | rfl | rfl | rfl | rfl | rfl | rfl | rfl | rfl | rfl <;> first | exact x3 (by decide) | (rcases e with e | e <;> exact absurd e (by decide))
    · rw [hop] at e
      rcases hq with rfl | rfl | rfl | rfl | rfl | rfl | rfl | rfl | rfl | rfl | rfl | rfl | rfl | rfl | rfl | rfl | rfl <;> first | exact x4 (by decide) | (rcases e with e | e <;> exact absurd e (by decide))
    · rw [hop]
      rcases hq with rfl | rfl | rfl | rfl | rfl | rfl | rfl | rfl | rfl | rfl | rfl | rfl | rfl | rfl | rfl | rfl | rfl <;> decide
theorem is_at {w : World} {a : Option Addr} {l : List Int} (h : Is w a l) {i : Nat} (hi : i < l.length) : ∃ b off, a = some ⟨b, off, none⟩ ∧ b < w.heap.size ∧ w.cell? ⟨b, off + i, none⟩ = some (.int .i64 (l.getD i 0)) := h i hi
section
variable {w w' : World} {a0 a1 a2 a3 a4 a5 : Option Addr} {nv nf nl nt nr : Nat} {m : MS} {P : RP} {TV : List (Value × Value)} {x1 x2 x3 x4 : Option Addr} {y1 y2 y3 z1 z2 z3 z4 : Nat}
set_option maxRecDepth 100000 in
set_option maxHeartbeats 2000000 in
theorem can_any {c0 c1 c2 c3 c4 c5 : Nat} (hQ : DView w (.slice x1 y1 z1) (.slice x2 y2 z2) (.slice x3 y3 z3) (.slice x4 nt z4) P TV) (hnt : P.thr.length = nt) (h : DocS w a0 a1 a2 a3 a4 a5 nv nf nl nt nr m) (hM : MOk nv nf nl (codeOf P) m) (hf : PFit nv nf nl (codeOf P)) (t : Int) :
    Calls Tryz.prog 16 #[.agg #[.slice x1 y1 z1, .slice x2 y2 z2, .slice x3 y3 z3, .slice x4 nt z4], .agg #[.slice a0 nv c0, .slice a1 nf c1, .slice a2 nl c2, .slice a3 nt c3, .slice a4 nt c4, .slice a5 nr c5], .int .i64 t] w fun e w' => e = .returned (.int .i64 (canM (codeOf P) m t)) ∧ Below w.heap.size w w' := by
  obtain ⟨W, hW⟩ : ∃ W, (w.alloc (.cells #[.slice x1 y1 z1, .slice x2 y2 z2, .slice x3 y3 z3, .slice x4 nt z4] 29)).alloc (.cells #[.slice a0 nv c0, .slice a1 nf c1, .slice a2 nl c2, .slice a3 nt c3, .slice a4 nt c4, .slice a5 nr c5] 36) = W := ⟨_, rfl⟩
  obtain ⟨hB, k1, k2, hz⟩ := two_new _ _ _ hW
  have HB := hide hB
  have hcl : (codeOf P).length = nt := by unfold codeOf; rw [List.length_map]; exact hnt
  have hml : m.thr.length = nt := h.lt
  obtain ⟨-, -, -, q3⟩ := four_cells k1
  by_cases h1 : t < 0
  · have hc : canM (codeOf P) m t = 5 := by unfold canM; rw [if_pos (.inl h1)]
    rw [hc]
    have d1 : decide (t < 0) = true := by simpa using h1
    clear h hf hM hc h1 hQ hnt hB k1 k2 hz hcl hml
    go_enter Tryz.func16, Tryz.ntmps16
    go_upto_region 1 with fail
    try rw [hW]
    go_wp2_with fail
    go_ret
    exact ⟨rfl, HB.out⟩
  · obtain ⟨tn, rfl⟩ : ∃ tn : Nat, t = tn := ⟨t.toNat, by omega⟩
    have d1 : decide ((tn : Int) < 0) = false := by simp only [decide_eq_false_iff_not]; exact h1
    by_cases h2 : nt ≤ tn
    · have hc : canM (codeOf P) m (tn : Int) = 5 := by unfold canM; rw [if_pos (.inr (.inl (by rw [hml]; omega)))]
      rw [hc]
      have d2 : (nt : Int) ≤ (tn : Int) := by omega
      clear h hf hM hc h1 hQ hnt hB k1 k2 hz hcl hml h2
      go_enter Tryz.func16, Tryz.ntmps16
      go_upto_region 1 with fail
      try rw [hW]
      go_wp2_with fail
      go_ret
      exact ⟨rfl, HB.out⟩
    · have htn : tn < nt := by omega
      have d2 : decide ((nt : Int) ≤ (tn : Int)) = false := by simp only [decide_eq_false_iff_not]; omega
      have d3 : (tn : Int) < (nt : Int) := by omega
      obtain ⟨-, -, -, -, s4, -⟩ := six_cells k2
      obtain ⟨b, off, e4, hbl, hph⟩ := (h.below hB).phAt htn
      have hT := hM.th tn (by omega)
      have hp := hT.ph
      have hcd : canM (codeOf P) m (tn : Int) = if (m.th tn).ph = 0 then 5 else if overM (m.th tn) = true then 6 else if waitsM m (nextI (codeOf P) tn (m.th tn)) = true then 7 else 0 := by
        unfold canM
        rw [Int.toNat_natCast]
        by_cases e : (m.th tn).ph = 0
        · rw [if_pos (.inr (.inr e)), if_pos e]
        · rw [if_neg (by rintro (q | q | q); omega; (rw [hml] at q; omega); exact e q), if_neg e]
      rw [hcd]
      by_cases e0 : (m.th tn).ph = 0
      · rw [if_pos e0]
        rw [e0] at hph
        subst e4
        clear h hf hM h1 hQ hnt hB k1 k2 hz hcl hml h2 hT hp hcd e0 htn hbl
        go_enter Tryz.func16, Tryz.ntmps16
        go_upto_region 1 with fail
        try rw [hW]
        go_wp2_with fail
        go_ret
        exact ⟨rfl, HB.out⟩
      · rw [if_neg e0]
        by_cases e1 : (m.th tn).ph = 1
        · have ho : overM (m.th tn) = false := by unfold overM; rw [e1]; rfl
          rw [ho, if_neg (by simp)]
          rw [e1] at hph
          have hN := rnext_any (c0 := c0) (c1 := c1) (c2 := c2) (c3 := c3) (c4 := c4) (c5 := c5) (hQ.below hB) hnt (h.below hB) htn (hT.pc (by omega))
          have hX := xb_of ((nextI_fit hf (by omega : tn < (codeOf P).length) (hT.pc (by omega))).imp id And.left)
          rw [hcl] at hX
          obtain ⟨x, hxq⟩ : ∃ x, nextI (codeOf P) tn (m.th tn) = x := ⟨_, rfl⟩
          rw [hxq] at hN hX ⊢
          obtain ⟨res, hres⟩ : ∃ r : Int, (if waitsM m x = true then 7 else 0) = r := ⟨_, rfl⟩
          rw [hres]
          replace hres := hide hres
          have HD := hide (⟨h.below hB, hM, hX, hcl⟩ : _ ∧ _ ∧ _ ∧ _)
          have HK := hide (⟨k1, k2, hz⟩ : _ ∧ _ ∧ _)
          have e4' := e4
          subst e4
          clear h hf hM h1 hQ hnt hB k1 k2 hz hcl hml h2 hT hp hcd e0 htn hbl hxq hX ho e1 e4'
          obtain ⟨t0, t1, t2, t3⟩ := four_cells HK.out.1
          obtain ⟨s0, s1, s2, s3, -, s5⟩ := six_cells HK.out.2.1
          go_enter Tryz.func16, Tryz.ntmps16
          go_upto_region 1 with fail
          try rw [hW]
          go_wp2_with fail
          refine hN.mono ?_
          rintro e w2 ⟨ln, wd, rfl, hb2⟩
          unfold insR
          clear hN s0 s1 s2 s3 s4 s5 t0 t1 t2 t3 q3 hph
          obtain ⟨W5, hW5⟩ : ∃ W5, w2.alloc (.cells (insR x ln wd) 114) = W5 := ⟨_, rfl⟩
          have hb5 : Below w2.heap.size w2 W5 := by rw [← hW5]; exact (Below.refl _ _).alloc (Nat.le_refl _) _
          have k5 : W5.heap[w2.heap.size]? = some (.cells (insR x ln wd) 114) := by rw [← hW5]; exact World.alloc_heap_new w2 _
          have hB5 : Below W.heap.size W W5 := hb2.trans (hb5.mono hb2.size)
          have HF := hide (HB.out.trans (hB5.mono HB.out.size))
          have s6 := (hB5.block (w.heap.size + 1) (by have := HK.out.2.2; omega)).trans HK.out.2.1
          obtain ⟨-, -, s2, -, s4, -⟩ := six_cells s6
          obtain ⟨hD, hM, hX, hcl⟩ := HD.out
          have hD5 := hD.below hB5
          unfold insR at k5 hW5
          obtain ⟨i0, -, -, -, -, -, i6, -, -⟩ := nine_cells k5
          obtain ⟨n, hn⟩ : ∃ n : Nat, x.x = n := ⟨x.x.toNat, by have := hX.x0; omega⟩
          have hnt2 : x.x.toNat = n := by omega
          have f0 : ((bs x.op).toList == oLock) = decide (x.op = oLock) := by rw [bs_toList]; exact Bool.eq_iff_iff.2 (by simp)
          have f1 : ((bs x.op).toList == oJoin) = decide (x.op = oJoin) := by rw [bs_toList]; exact Bool.eq_iff_iff.2 (by simp)
          have f2 : ((bs x.op).toList == oSpawn) = decide (x.op = oSpawn) := by rw [bs_toList]; exact Bool.eq_iff_iff.2 (by simp)
          have hm4 : True := trivial
          have hml : m.thr.length = nt := hD.lt
          by_cases h0 : x.op = oLock
          · have hnl : n < m.locks.length := by rw [hD.ll]; have := hX.lk (.inl h0); omega
            obtain ⟨lb, lo, eA, -, hc⟩ := is_at hD5.l hnl
            subst eA
            have hw : waitsM m x = decide (0 ≤ m.locks.getD n 0) := by unfold waitsM; rw [if_pos h0, hnt2]; have q := hM.lv _ (getD_mem (d := 0) hnl); rw [decide_eq_decide]; omega
            generalize m.locks.getD n 0 = v at *
            have hlt : (n : Int) < (nl : Int) := by have := hD.ll; omega
            obtain ⟨op, r, aR, aN, bR, bN, y⟩ := x
            have hn : y = n := hn
            subst hn
            have h0 : op = oLock := h0
            subst h0
            dsimp only at *
            clear hX hD hD5 hM hcl hb2 hb5 hB5 s6 k5 HD HK f0 f1 f2 hnt2 hm4 hnl hml
            by_cases q : 0 ≤ v
            · have q1 : decide (0 ≤ v) = true := by simpa using q
              have hr : Hid ((7 : Int) = res) := by show (7 : Int) = res; rw [← hres.out, hw, if_pos q1]
              clear hw hres
              skip
              unfold oLock bs at *
              go_upto_region 6 with fail
              try rw [hW5]
              clear hW5
              go_wp2_with fail
              go_ret
              exact ⟨by rw [← hr.out]; rfl, HF.out⟩
            · have q1 : decide (0 ≤ v) = false := by simpa using q
              have hr : Hid ((0 : Int) = res) := by show (0 : Int) = res; rw [← hres.out, hw, if_neg (by rw [q1]; simp)]
              clear hw hres
              skip
              unfold oLock bs at *
              go_upto_region 6 with fail
              try rw [hW5]
              clear hW5
              go_wp2_with fail
              go_ret
              exact ⟨by rw [← hr.out]; rfl, HF.out⟩
          · by_cases h1 : x.op = oJoin
            · have hnl : n < (stL m).length := by rw [stL_len, hml]; have := hX.th (.inr h1); omega
              obtain ⟨lb, lo, eA, -, hc⟩ := is_at hD5.s hnl
              simp only [Option.some.injEq, Addr.mk.injEq, and_true] at eA
              obtain ⟨eA1, eA2⟩ := eA
              subst eA1 eA2
              have hw : waitsM m x = decide ((stL m).getD n 0 < 2) := by unfold waitsM; rw [if_neg h0, if_pos h1, hnt2]; have q := (hM.th n (by rw [hcl]; have q := hnl; rw [stL_len, hml] at q; exact q)).ph; rw [stL_get m (by have q := hnl; rw [stL_len] at q; exact q)]; unfold overM; rw [Bool.eq_iff_iff]; simp only [Bool.not_eq_true', Bool.or_eq_false_iff, beq_eq_false_iff_ne, decide_eq_true_eq]; omega
              generalize (stL m).getD n 0 = v at *
              have hlt : (n : Int) < (nt : Int) := by have q := hnl; rw [stL_len, hml] at q; omega
              obtain ⟨op, r, aR, aN, bR, bN, y⟩ := x
              have hn : y = n := hn
              subst hn
              have h1 : op = oJoin := h1
              subst h1
              dsimp only at *
              clear h0 hX hD hD5 hM hcl hb2 hb5 hB5 s6 k5 HD HK f0 f1 f2 hnt2 hm4 hnl hml
              by_cases q : v < 2
              · have q1 : decide (v < 2) = true := by simpa using q
                have hr : Hid ((7 : Int) = res) := by show (7 : Int) = res; rw [← hres.out, hw, if_pos q1]
                clear hw hres
                skip
                unfold oJoin bs at *
                go_upto_region 6 with fail
                try rw [hW5]
                clear hW5
                go_wp2_with fail
                go_ret
                exact ⟨by rw [← hr.out]; rfl, HF.out⟩
              · have q1 : decide (v < 2) = false := by simpa using q
                have hr : Hid ((0 : Int) = res) := by show (0 : Int) = res; rw [← hres.out, hw, if_neg (by rw [q1]; simp)]
                clear hw hres
                skip
                unfold oJoin bs at *
                go_upto_region 6 with fail
                try rw [hW5]
                clear hW5
                go_wp2_with fail
                go_ret
                exact ⟨by rw [← hr.out]; rfl, HF.out⟩
            · by_cases h2 : x.op = oSpawn
              · have hnl : n < (stL m).length := by rw [stL_len, hml]; have := hX.th (.inl h2); omega
                obtain ⟨lb, lo, eA, -, hc⟩ := is_at hD5.s hnl
                simp only [Option.some.injEq, Addr.mk.injEq, and_true] at eA
                obtain ⟨eA1, eA2⟩ := eA
                subst eA1 eA2
                have hw : waitsM m x = decide ((stL m).getD n 0 ≠ 0) := by unfold waitsM; rw [if_neg h0, if_neg h1, if_pos h2, hnt2, stL_get m (by have q := hnl; rw [stL_len] at q; exact q)]
                generalize (stL m).getD n 0 = v at *
                have hlt : (n : Int) < (nt : Int) := by have q := hnl; rw [stL_len, hml] at q; omega
                obtain ⟨op, r, aR, aN, bR, bN, y⟩ := x
                have hn : y = n := hn
                subst hn
                have h2 : op = oSpawn := h2
                subst h2
                dsimp only at *
                clear h0 h1 hX hD hD5 hM hcl hb2 hb5 hB5 s6 k5 HD HK f0 f1 f2 hnt2 hm4 hnl hml
                by_cases q : v ≠ 0
                · have q1 : decide (v ≠ 0) = true := by simpa using q
                  have hr : Hid ((7 : Int) = res) := by show (7 : Int) = res; rw [← hres.out, hw, if_pos q1]
                  clear hw hres
                  have q2 : (v != 0) = true := by simpa using q
                  unfold oSpawn bs at *
                  go_upto_region 6 with fail
                  try rw [hW5]
                  clear hW5
                  go_wp2_with fail
                  go_ret
                  exact ⟨by rw [← hr.out]; rfl, HF.out⟩
                · have q1 : decide (v ≠ 0) = false := by simpa using q
                  have hr : Hid ((0 : Int) = res) := by show (0 : Int) = res; rw [← hres.out, hw, if_neg (by rw [q1]; simp)]
                  clear hw hres
                  have q2 : (v != 0) = false := by simpa using q
                  unfold oSpawn bs at *
                  go_upto_region 6 with fail
                  try rw [hW5]
                  clear hW5
                  go_wp2_with fail
                  go_ret
                  exact ⟨by rw [← hr.out]; rfl, HF.out⟩
              · have hw : waitsM m x = false := by unfold waitsM; rw [if_neg h0, if_neg h1, if_neg h2]
                have hr : Hid ((0 : Int) = res) := by show (0 : Int) = res; rw [← hres.out, hw, if_neg (by simp)]
                rw [decide_eq_false h0] at f0
                rw [decide_eq_false h1] at f1
                rw [decide_eq_false h2] at f2
                unfold oLock at f0
                unfold oJoin at f1
                unfold oSpawn at f2
                clear hX hD hD5 hM hcl hb2 hb5 hB5 s6 k5 HD HK hw hres hnt2 hm4 hml h0 h1 h2 hn
                go_upto_region 6 with fail
                try rw [hW5]
                clear hW5
                go_wp2_with fail
                go_ret
                exact ⟨by rw [← hr.out]; rfl, HF.out⟩
        · have ho : overM (m.th tn) = true := by
            have : (m.th tn).ph = 2 ∨ (m.th tn).ph = 3 := by omega
            unfold overM; rcases this with q | q <;> rw [q] <;> rfl
          rw [if_pos ho]
          obtain ⟨ph, hpq⟩ : ∃ ph, (m.th tn).ph = ph := ⟨_, rfl⟩
          rw [hpq] at hph e0 e1
          have g0 : (ph == 0) = false := by simpa using e0
          have g1 : (ph != 1) = true := by simpa using e1
          subst e4
          clear h hf hM h1 hQ hnt hB k1 k2 hz hcl hml h2 hT hp hcd e0 htn hbl ho e1 hpq
          go_enter Tryz.func16, Tryz.ntmps16
          go_upto_region 1 with fail
          try rw [hW]
          go_wp2_with fail
          go_ret
          exact ⟨rfl, HB.out⟩
end
end Go.Proofs.YtcfpedjfofpnkaaGreatDoor
