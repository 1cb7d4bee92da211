import Derived.Test.YtcfpedjfofpnkaaGreatDoorRuT1
import Derived.Test.YtcfpedjfofpnkaaGreatDoorRuT0
import Derived.Test.YtcfpedjfofpnkaaGreatDoorRu26
import Derived.Test.YtcfpedjfofpnkaaGreatDoorRu5
import Derived.Test.YtcfpedjfofpnkaaGreatDoorRu22
set_option linter.unusedVariables false
set_option linter.unusedSimpArgs false
namespace Go.Proofs.YtcfpedjfofpnkaaGreatDoor
open Go.RowKit Go.Shelf Go.Proofs.Cod
section
variable {w w' : World} {a0 a1 a2 a3 a4 a5 : Option Addr} {nv nf nl nt nr : Nat} {m : MS} {P : RP} {TV : List (Value × Value)} {x1 x2 x3 x4 : Option Addr} {y1 y2 y3 z1 z2 z3 z4 : Nat}
set_option maxRecDepth 100000 in
set_option maxHeartbeats 2000000 in
theorem rready_any {c0 c1 c2 c3 c4 c5 : Nat} (hQ : DView w (.slice x1 y1 z1) (.slice x2 y2 z2) (.slice x3 y3 z3) (.slice x4 nt z4) P TV) (hnt : P.thr.length = nt) (h : DocS w a0 a1 a2 a3 a4 a5 nv nf nl nt nr m) (hM : MOk nv nf nl (codeOf P) m) (hf : PFit nv nf nl (codeOf P)) :
 Calls Tryz.prog 13 #[.agg #[.slice x1 y1 z1, .slice x2 y2 z2, .slice x3 y3 z3, .slice x4 nt z4], .agg #[.slice a0 nv c0, .slice a1 nf c1, .slice a2 nl c2, .slice a3 nt c3, .slice a4 nt c4, .slice a5 nr c5]] w fun e w' => ∃ v, e = .returned v ∧ w'.ownsRow w.heap.size 3 1 v (readyM (codeOf P) m).length ((readyM (codeOf P) m).map intV) ∧ Below w.heap.size w w' := by
 obtain ⟨W, hW⟩ : ∃ W, (w.alloc (.cells #[.slice x1 y1 z1, .slice x2 y2 z2, .slice x3 y3 z3, .slice x4 nt z4] 29)).alloc (.cells #[.slice a0 nv c0, .slice a1 nf c1, .slice a2 nl c2, .slice a3 nt c3, .slice a4 nt c4, .slice a5 nr c5] 36) = W := ⟨_, rfl⟩
 obtain ⟨hB, k1, k2, hz⟩ := two_new _ _ _ hW
 have HB := hide (⟨hB, hz⟩ : _ ∧ _)
 have hcl : (codeOf P).length = nt := by unfold codeOf; rw [List.length_map]; exact hnt
 have h4 : nt ≤ 4 := by have := hf.four; omega
 have HC := hide (fun (u : World) (hu : Below W.heap.size W u) (t : Int) => can_any (c0 := c0) (c1 := c1) (c2 := c2) (c3 := c3) (c4 := c4) (c5 := c5) ((hQ.below hB).below hu) hnt ((h.below hB).below hu) hM hf t)
 have hml : m.thr.length = nt := h.lt
 unfold readyM
 rw [hml]
 have HCl : Hid (∀ u, Below W.heap.size W u → (u.cell? ⟨w.heap.size, 0, none⟩ = some (.slice x1 y1 z1) ∧ u.cell? ⟨w.heap.size, 1, none⟩ = some (.slice x2 y2 z2) ∧ u.cell? ⟨w.heap.size, 2, none⟩ = some (.slice x3 y3 z3) ∧ u.cell? ⟨w.heap.size, 3, none⟩ = some (.slice x4 nt z4)) ∧ u.cell? ⟨w.heap.size + 1, 0, none⟩ = some (.slice a0 nv c0) ∧ u.cell? ⟨w.heap.size + 1, 1, none⟩ = some (.slice a1 nf c1) ∧ u.cell? ⟨w.heap.size + 1, 2, none⟩ = some (.slice a2 nl c2) ∧ u.cell? ⟨w.heap.size + 1, 3, none⟩ = some (.slice a3 nt c3) ∧ u.cell? ⟨w.heap.size + 1, 4, none⟩ = some (.slice a4 nt c4) ∧ u.cell? ⟨w.heap.size + 1, 5, none⟩ = some (.slice a5 nr c5)) := fun u hu => ⟨four_cells ((hu.block _ (by omega)).trans k1), six_cells ((hu.block _ (by omega)).trans k2)⟩
 clear hB k1 k2 hz hQ hnt h hM hf hcl hml
 obtain ⟨C, hC⟩ : ∃ C, codeOf P = C := ⟨_, rfl⟩
 simp only [hC] at HC ⊢
 clear hC
 go_enter Tryz.func13, Tryz.ntmps13
 go_upto_region 1 with fail
 try rw [hW]
 clear hW
 go_wp2_with fail
 go_loopw [5, 6] (fun lv iv wr => ∃ i : Nat, i ≤ nt ∧ iv = .int .i64 i ∧ wr.ownsRow W.heap.size 3 1 lv (readyTo C m i).length ((readyTo C m i).map intV) ∧ Below W.heap.size W wr) (fun _ iv _ => nt - (intOf iv).toNat)
 case atStart => exact ⟨0, Nat.zero_le _, rfl, World.ownsRow_nil _ _ _ _, Below.refl _ _⟩
 case round =>
  obtain ⟨i, hi, rfl, hrow, hB⟩ := hrel
  have hll := readyTo_len C m i
  have hsu := hide (readyTo_succ C m i)
  obtain ⟨l, hl⟩ : ∃ l, readyTo C m i = l := ⟨_, rfl⟩
  rw [hl] at hrow hll hsu
  replace hl := hide hl
  obtain ⟨la, lc, rfl⟩ := owns_len hrow
  obtain ⟨⟨q0, q1, q2, q3⟩, s0, s1, s2, s3, s4, s5⟩ := HCl.out wr hB
  by_cases h5 : i < nt
  ·have hlt : (i : Int) < (nt : Int) := by omega
   have hwi : wrap64 ((i : Int) + 1) = (i : Int) + 1 := by unfold wrap64; omega
   have hR := HC.out wr hB i
   obtain ⟨er, her⟩ : ∃ er, canM C m (i : Int) = er := ⟨_, rfl⟩
   rw [her] at hR hsu
   have HO := hide (⟨hrow, hB, h5, hll⟩ : _ ∧ _ ∧ _ ∧ _)
   have h41 := hide h4
   clear hrow hB h5 hi hl her hll HC h4
   go_wp2_with fail
   refine hR.mono ?_
   rintro e w2 ⟨rfl, hb2⟩
   obtain ⟨hrow, hB, h5, hll⟩ := HO.out
   have hrow2 : w2.ownsRow W.heap.size 3 1 (.slice la l.length lc) l.length (l.map intV) := owns_same hrow fun g e => hb2.block g (hrow.lt g e).2
   have hB2 := hB.trans (hb2.mono hB.size)
   have hzW := hB2.size
   clear hrow hB HO hR hb2 q0 q1 q2 q3 s0 s1 s2 s3 s4 s5
   by_cases he : er = 0
   ·subst he
    obtain ⟨g, cap, w3, hrun, hrow3, hB3⟩ := ints_push hrow2 (i : Int) (by have := h41.out; omega) hzW
    have hnx : readyTo C m (i + 1) = l ++ [(i : Int)] := by rw [hsu.out, if_pos rfl]
    have HF := hide (⟨hrow3, hB2.trans (hB3 _ (Nat.le_refl _)), h5, hnx⟩ : _ ∧ _ ∧ _ ∧ _)
    clear hnx
    clear hrow2 hB2 hrow3 hB3 hzW h5 hll hsu
    go_wp2_with (at_builtin; refine wpList_append_run rfl _ _ _ rfl rfl rfl rfl hrun ?_)
    go_roundw
    case rel =>
     (try rw [hwi])
     refine ⟨i + 1, HF.out.2.2.1, rfl, ?_, HF.out.2.1⟩
     rw [HF.out.2.2.2]
     exact HF.out.1
    case measure =>
     (try rw [hwi])
     exact Nat.sub_lt_sub_left HF.out.2.2.1 (Nat.lt_succ_self i)
   ·have he2 : (er == 0) = false := by simpa using he
    have hnx : readyTo C m (i + 1) = l := by rw [hsu.out, if_neg he]
    have HF := hide (⟨hrow2, hB2, h5, hnx⟩ : _ ∧ _ ∧ _ ∧ _)
    clear hnx
    clear hrow2 hB2 hzW h5 hll hsu he
    go_wp2_with fail
    go_roundw
    case rel =>
     (try rw [hwi])
     refine ⟨i + 1, HF.out.2.2.1, rfl, ?_, HF.out.2.1⟩
     rw [HF.out.2.2.2]
     exact HF.out.1
    case measure =>
     (try rw [hwi])
     exact Nat.sub_lt_sub_left HF.out.2.2.1 (Nat.lt_succ_self i)
  ·have hil : i = nt := by omega
   subst hil
   have HF := hide (⟨hl, hrow, hB⟩ : _ ∧ _ ∧ _)
   clear hrow hB hi h5 HC hsu hll hl
   go_wp2_with fail
   go_ret
   obtain ⟨hl, hrow, hB⟩ := HF.out
   refine ⟨_, rfl, ?_, HB.out.1.trans (hB.mono HB.out.1.size)⟩
   rw [hl.out]
   exact c_base hrow (by have := HB.out.2; omega)
end
end Go.Proofs.YtcfpedjfofpnkaaGreatDoor
namespace Go.Proofs.YtcfpedjfofpnkaaGreatDoor
open Go.RowKit Go.Proofs.Cod
section
variable {w w' : World} {b : Nat} {p : PD} {s : MS}
set_option maxRecDepth 100000 in
set_option maxHeartbeats 1000000 in
theorem ready_any (h : MachW w b p s) (hf : PFit4 p) (hM : MOkP p s) :
 Calls Tryz.prog 11 #[ptrV b] w fun e w' => ∃ v, e = .returned v ∧ w'.ownsRow w.heap.size 3 1 v (readyM p.C s).length ((readyM p.C s).map intV) ∧ Below w.heap.size w w' := by
 have hcnt := mach_cnt h
 have htl : s.thr.length = p.ts.length := by rw [hM.tl, hf.tc]
 have h4 : p.ts.length ≤ 4 := by rw [hf.tc]; exact hf.fit.four
 have HR := hide (fun (w' : World) (hb : Below w.heap.size w w') (t : Int) => refusal_any (h.below hb) hf hM t)
 replace htl := hide htl
 unfold readyM
 rw [htl.out]
 clear h hf hM htl
 unfold ptrV at *
 go_enter Tryz.func11, Tryz.ntmps11
 go_wp2_with fail
 go_loopw [3, 9] (fun lv iv wr => ∃ i : Nat, i ≤ p.ts.length ∧ iv = .int .i64 i ∧ wr.ownsRow w.heap.size 3 1 lv (readyTo p.C s i).length ((readyTo p.C s i).map intV) ∧ Below w.heap.size w wr) (fun _ iv _ => p.ts.length - (intOf iv).toNat)
 case atStart => exact ⟨0, Nat.zero_le _, rfl, World.ownsRow_nil _ _ _ _, Below.refl _ _⟩
 case round =>
  obtain ⟨i, hi, rfl, hrow, hB⟩ := hrel
  have hll := readyTo_len p.C s i
  have hsu := hide (readyTo_succ p.C s i)
  obtain ⟨l, hl⟩ : ∃ l, readyTo p.C s i = l := ⟨_, rfl⟩
  rw [hl] at hrow hll hsu
  replace hl := hide hl
  obtain ⟨la, lc, rfl⟩ := owns_len hrow
  by_cases h5 : i < p.ts.length
  ·have hlt : (i : Int) < (p.ts.length : Int) := by omega
   have hwi : wrap64 ((i : Int) + 1) = (i : Int) + 1 := by unfold wrap64; omega
   have hR := HR.out wr hB i
   obtain ⟨er, her⟩ : ∃ er, canM p.C s (i : Int) = er := ⟨_, rfl⟩
   rw [her] at hR hsu
   have HO := hide (⟨hrow, hB, h5, hll⟩ : _ ∧ _ ∧ _ ∧ _)
   clear hrow hB h5 hi hl her hll HR
   go_wp2_with fail
   refine hR.mono ?_
   rintro e w2 ⟨rfl, hb2⟩
   obtain ⟨hrow, hB, h5, hll⟩ := HO.out
   have hrow2 : w2.ownsRow w.heap.size 3 1 (.slice la l.length lc) l.length (l.map intV) := owns_same hrow fun g e => hb2.block g (hrow.lt g e).2
   have hB2 := hB.trans (hb2.mono hB.size)
   clear hrow hB HO hR hb2
   cases hz : er == 0 with
   | true =>
    have hz' : er = 0 := by simpa using hz
    obtain ⟨g, cap, w3, hrun, hrow3, hb3⟩ := ints_push hrow2 (i : Int) (by omega) hB2.size
    have HN := hide (⟨hrow3, hB2.trans (hb3 _ (Nat.le_refl _)), h5⟩ : _ ∧ _ ∧ _)
    replace hsu : Hid (readyTo p.C s (i + 1) = l ++ [(i : Int)]) := by unfold Hid; rw [hsu.out, if_pos hz']
    clear hrow3 hB2 hb3 h5 hll hrow2 hz'
    go_wp2_with (at_builtin; refine wpList_append_run rfl _ _ _ rfl rfl rfl rfl hrun ?_)
    go_roundw
    case rel =>
     (try rw [hwi])
     refine ⟨i + 1, HN.out.2.2, rfl, ?_, HN.out.2.1⟩
     rw [hsu.out]
     exact HN.out.1
    case measure =>
     (try rw [hwi])
     exact Nat.sub_lt_sub_left HN.out.2.2 (Nat.lt_succ_self i)
   | false =>
    have hz' : er ≠ 0 := by simpa using hz
    have HN := hide (⟨hrow2, hB2, h5⟩ : _ ∧ _ ∧ _)
    replace hsu : Hid (readyTo p.C s (i + 1) = l) := by unfold Hid; rw [hsu.out, if_neg hz']
    clear hB2 h5 hll hrow2 hz'
    go_wp2_with fail
    go_roundw
    case rel =>
     (try rw [hwi])
     refine ⟨i + 1, HN.out.2.2, rfl, ?_, HN.out.2.1⟩
     rw [hsu.out]
     exact HN.out.1
    case measure =>
     (try rw [hwi])
     exact Nat.sub_lt_sub_left HN.out.2.2 (Nat.lt_succ_self i)
  ·have hil : i = p.ts.length := by omega
   subst hil
   have HN := hide (⟨hrow, hB⟩ : _ ∧ _)
   clear hrow hB HR
   go_wp2_with fail
   go_ret
   rw [hl.out]
   exact ⟨_, rfl, HN.out⟩
end
end Go.Proofs.YtcfpedjfofpnkaaGreatDoor
namespace Go.Proofs.YtcfpedjfofpnkaaGreatDoor
open Go.RowKit Go.Shelf Go.Proofs.Cod
theorem sz_n {x : Tx} {n : Nat} (h : x.length + n ≤ 4611686018427387904) : ¬ 9223372036854775807 < (bs x).size + n := by rw [bs_size]; omega
theorem sz_b {x y : Tx} (h : x.length + y.length ≤ 4611686018427387904) : ¬ 9223372036854775807 < (bs x).size + (bs y).size := by rw [bs_size, bs_size]; omega
section
variable {w w' : World} {a : Option Addr} {l : List Int} {ns : List Tx}
set_option maxRecDepth 100000 in
set_option maxHeartbeats 2000000 in
theorem values_any {B base : Nat} (ht : Tabs w B) (hB : B ≤ w.heap.size) {nv : Value} {n cap : Nat} (hns : w.ownsRow base 9 1 nv ns.length (ns.map strW)) (hnn : ns.length = n) (h8 : ∀ k, (ns.getD k []).length ≤ 8) (hl : Is w a l) (hn : l.length = n) (h4 : n ≤ 4) (hv : ∀ v, v ∈ l → val3 v) :
 Calls Tryz.prog 37 #[nv, .slice a n cap] w fun e w' => e = .returned (.string (bs (linesS Lib.itoa ns l n))) ∧ Below w.heap.size w w' := by
 rw [hnn] at hns
 obtain ⟨na, nc, rfl, hws⟩ := row_ws0 hns hnn
 have hvk : ∀ k, val3 (l.getD k 0) := fun k => by
  by_cases e : k < l.length
  ·exact hv _ (getD_mem e)
  ·rw [List.getD_eq_getElem?_getD, List.getElem?_eq_none (by omega)]; exact ⟨by decide, by decide⟩
 have HI := hide (fun u (hu : Below w.heap.size w u) (x : Int) (h : val3 x) => itoa_any x (by have := h.1; omega) (by have := h.2; omega) u (ht.keep (hu.mono hB)))
 have H := hide (⟨hws, hl, hvk, h8, hn, hnn⟩ : _ ∧ _ ∧ _ ∧ _ ∧ _ ∧ _)
 clear hns hws hl hv hvk h8 hn hnn ht hB
 go_enter Tryz.func37, Tryz.ntmps37
 go_wp2_with fail
 go_loopw [5, 6] (fun tv iv wr => ∃ i : Nat, i ≤ n ∧ iv = .int .i64 i ∧ tv = .string (bs (linesS Lib.itoa ns l i)) ∧ Below w.heap.size w wr) (fun _ iv _ => n - (intOf iv).toNat)
 case atStart => exact ⟨0, Nat.zero_le _, rfl, rfl, Below.refl _ _⟩
 case round =>
  obtain ⟨i, hi, rfl, rfl, hb⟩ := hrel
  by_cases h5 : i < n
  ·obtain ⟨hws, hl, hvk, h8, hn, hnn⟩ := H.out
   have hlt : (i : Int) < (n : Int) := by omega
   obtain ⟨gb, go, e1, gl, c1⟩ := hws i (by omega)
   subst e1
   obtain ⟨lb, lo, e2, ll, c2⟩ := hl i (by omega)
   subst e2
   have hd : Below w.heap.size w wr.drew := hb.trans ⟨rfl, rfl, rfl, Nat.le_refl _, fun _ _ => rfl⟩
   have HC : Hid (∀ u, Below w.heap.size w u → u.cell? ⟨gb, go + i, none⟩ = some (.string (bs (ns.getD i []))) ∧ u.cell? ⟨lb, lo + i, none⟩ = some (.int .i64 (l.getD i 0))) := fun u hu => ⟨(hu.cell (p := ⟨gb, go + i, none⟩) gl).trans c1, (hu.cell (p := ⟨lb, lo + i, none⟩) ll).trans c2⟩
   have hI := HI.out wr.drew hd _ (hvk i)
   have hL := linesS_len Lib.itoa ns l i h8 (fun k => itoa_sm (hvk k).1 (hvk k).2)
   have hit := itoa_sm (hvk i).1 (hvk i).2
   have hnm := h8 i
   have hsu := linesS_succ Lib.itoa ns l i
   obtain ⟨T, hT⟩ : ∃ T, linesS Lib.itoa ns l i = T := ⟨_, rfl⟩
   obtain ⟨nm, hnmq⟩ : ∃ x, ns.getD i [] = x := ⟨_, rfl⟩
   obtain ⟨it, hitq⟩ : ∃ x, Lib.itoa (l.getD i 0) = x := ⟨_, rfl⟩
   obtain ⟨lv, hlv⟩ : ∃ x, l.getD i 0 = x := ⟨_, rfl⟩
   rw [hT] at hL hsu
   rw [hnmq] at hnm hsu
   rw [hitq] at hit hsu
   rw [hitq] at hI
   rw [hlv] at hI
   simp only [hnmq, hlv] at HC
   have z1 : ¬ 9223372036854775807 < (bs T).size + (bs nm).size := sz_b (by omega)
   have a1 : bs T ++ bs nm = bs (T ++ nm) := bs_append _ _
   have e3 : (T ++ nm).length = T.length + nm.length := List.length_append
   have z2 : ¬ 9223372036854775807 < (bs (T ++ nm)).size + 1 := sz_n (by omega)
   have a2 : bs (T ++ nm) ++ ⟨#[61]⟩ = bs (T ++ nm ++ [61]) := bs_append _ [61]
   have e4 : (T ++ nm ++ [61]).length = T.length + nm.length + 1 := by rw [List.length_append, e3]; rfl
   have z3 : ¬ 9223372036854775807 < (bs (T ++ nm ++ [61])).size + (bs it).size := sz_b (by omega)
   have a3 : bs (T ++ nm ++ [61]) ++ bs it = bs (T ++ nm ++ [61] ++ it) := bs_append _ _
   have e5 : (T ++ nm ++ [61] ++ it).length = T.length + nm.length + 1 + it.length := by rw [List.length_append, e4]
   have z4 : ¬ 9223372036854775807 < (bs (T ++ nm ++ [61] ++ it)).size + 1 := sz_n (by omega)
   have a4 : bs (T ++ nm ++ [61] ++ it) ++ ⟨#[10]⟩ = bs (T ++ nm ++ [61] ++ it ++ [10]) := bs_append _ [10]
   have hV : T ++ nm ++ [61] ++ it ++ [10] = linesS Lib.itoa ns l (i + 1) := by rw [hsu]; unfold lineS; simp
   generalize T ++ nm ++ [61] ++ it ++ [10] = V4 at *
   generalize T ++ nm ++ [61] ++ it = V3 at *
   generalize T ++ nm ++ [61] = V2 at *
   generalize T ++ nm = V1 at *
   have hwi : wrap64 ((i : Int) + 1) = (i : Int) + 1 := wrap_sm (by omega)
   obtain ⟨s1, s2⟩ := HC.out wr hb
   have hS := hide (HC.out wr.drew hd)
   have HJ := hide (⟨hV, h5, hd⟩ : _ ∧ _ ∧ _)
   rw [hT]
   clear hb hi h5 hws hl hvk h8 hn hnn gl c1 ll c2 hL hit hnm hsu hT hnmq hitq hlv e3 e4 e5 hV h4 hd
   go_upto_region 5 with fail
   refine wp_region_held_drew (S := (fun u => u.cell? ⟨gb, go + i, none⟩ = some (.string (bs nm)) ∧ u.cell? ⟨lb, lo + i, none⟩ = some (.int .i64 lv))) (by kernel_rfl) hS.out (fun hHeld => ?_)
   refine tk 0 hHeld ?_
   refine tk 1 hHeld ?_
   refine tk 2 hHeld ?_
   refine tk 3 hHeld ?_
   refine tk 4 hHeld ?_
   refine tk 5 hHeld ?_
   refine tk 6 hHeld ?_
   refine tk 7 hHeld ?_
   refine tk 8 hHeld ?_
   refine tk 9 hHeld ?_
   refine tk 10 hHeld ?_
   refine rd 11 (fun K hK => ?_)
   go_simp
   go_at_call 33
   refine hI.mono ?_
   rintro e w8 ⟨rfl, hb8⟩
   replace hb8 : Below w.heap.size w w8 := HJ.out.2.2.trans (hb8.mono HJ.out.2.2.size)
   have q := hide (HC.out w8 hb8)
   have HB8 := hide hb8
   clear hb8 hHeld s1 s2 hI
   go_wp2_with fail
   refine hK.out _ _ q.out (fun hHeld => ?_)
   clear hK K
   try simp only [Act.put, sq]
   refine tk 12 hHeld ?_
   refine tk 13 hHeld ?_
   refine tk 14 hHeld ?_
   refine wpAnyH_done (by kernel_rfl) ?_ _
   clear hHeld q
   go_wp2_with fail
   go_roundw
   case rel =>
    (try rw [hwi])
    exact ⟨i + 1, HJ.out.2.1, rfl, by rw [HJ.out.1], HB8.out⟩
   case measure =>
    (try rw [hwi])
    exact Nat.sub_lt_sub_left HJ.out.2.1 (Nat.lt_succ_self i)
  ·have hil : i = n := by omega
   subst hil
   have HB := hide hb
   clear hb hi h5 H HI h4
   go_wp2_with fail
   go_ret
   exact ⟨rfl, HB.out⟩
end
end Go.Proofs.YtcfpedjfofpnkaaGreatDoor
