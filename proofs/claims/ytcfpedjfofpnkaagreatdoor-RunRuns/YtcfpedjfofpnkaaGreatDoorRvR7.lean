import Derived.Test.YtcfpedjfofpnkaaGreatDoorRv5
import Derived.Test.YtcfpedjfofpnkaaGreatDoorRvR0
import Derived.Test.YtcfpedjfofpnkaaGreatDoorRv22
set_option linter.unusedVariables false
set_option linter.unusedSimpArgs false
namespace Go.Proofs.YtcfpedjfofpnkaaGreatDoor
open Go.RowKit Go.Shelf Go.Proofs.Cod
theorem sz_n {x : Tx} {n : Nat} (h : x.length + n ≤ 4611686018427387904) : ¬ 9223372036854775807 < (bs x).size + n := by rw [bs_size]; omega
theorem sz_b {x y : Tx} (h : x.length + y.length ≤ 4611686018427387904) : ¬ 9223372036854775807 < (bs x).size + (bs y).size := by rw [bs_size, bs_size]; omega
section
variable {w w' : World} {a : Option Addr} {l : List Int} {ns : List Tx}
set_option maxRecDepth 100000 in
set_option maxHeartbeats 2000000 in
theorem values_any {B base : Nat} (ht : Tabs w B) (hB : B ≤ w.heap.size) {nv : Value} {n cap : Nat} (hns : w.ownsRow base 9 1 nv ns.length (ns.map strW)) (hnn : ns.length = n) (h8 : ∀ k, (ns.getD k []).length ≤ 8) (hl : Is w a l) (hn : l.length = n) (h4 : n ≤ 4) (hv : ∀ v, v ∈ l → val3 v) :
 Calls Tryz.prog 37 #[nv, .slice a n cap] w fun e w' => e = .returned (.string (bs (linesS Lib.itoa ns l n))) ∧ Below w.heap.size w w' := by
 rw [hnn] at hns
 obtain ⟨na, nc, rfl, hws⟩ := row_ws0 hns hnn
 have hvk : ∀ k, val3 (l.getD k 0) := fun k => by
  by_cases e : k < l.length
  ·exact hv _ (getD_mem e)
  ·rw [List.getD_eq_getElem?_getD, List.getElem?_eq_none (by omega)]; exact ⟨by decide, by decide⟩
 have HI := hide (fun u (hu : Below w.heap.size w u) (x : Int) (h : val3 x) => itoa_any x (by have := h.1; omega) (by have := h.2; omega) u (ht.keep (hu.mono hB)))
 have H := hide (⟨hws, hl, hvk, h8, hn, hnn⟩ : _ ∧ _ ∧ _ ∧ _ ∧ _ ∧ _)
 clear hns hws hl hv hvk h8 hn hnn ht hB
 go_enter Tryz.func37, Tryz.ntmps37
 go_wp2_with fail
 go_loopw [5, 6] (fun tv iv wr => ∃ i : Nat, i ≤ n ∧ iv = .int .i64 i ∧ tv = .string (bs (linesS Lib.itoa ns l i)) ∧ Below w.heap.size w wr) (fun _ iv _ => n - (intOf iv).toNat)
 case atStart => exact ⟨0, Nat.zero_le _, rfl, rfl, Below.refl _ _⟩
 case round =>
  obtain ⟨i, hi, rfl, rfl, hb⟩ := hrel
  by_cases h5 : i < n
  ·obtain ⟨hws, hl, hvk, h8, hn, hnn⟩ := H.out
   have hlt : (i : Int) < (n : Int) := by omega
   obtain ⟨gb, go, e1, gl, c1⟩ := hws i (by omega)
   subst e1
   obtain ⟨lb, lo, e2, ll, c2⟩ := hl i (by omega)
   subst e2
   have hd : Below w.heap.size w wr.drew := hb.trans ⟨rfl, rfl, rfl, Nat.le_refl _, fun _ _ => rfl⟩
   have HC : Hid (∀ u, Below w.heap.size w u → u.cell? ⟨gb, go + i, none⟩ = some (.string (bs (ns.getD i []))) ∧ u.cell? ⟨lb, lo + i, none⟩ = some (.int .i64 (l.getD i 0))) := fun u hu => ⟨(hu.cell (p := ⟨gb, go + i, none⟩) gl).trans c1, (hu.cell (p := ⟨lb, lo + i, none⟩) ll).trans c2⟩
   have hI := HI.out wr.drew hd _ (hvk i)
   have hL := linesS_len Lib.itoa ns l i h8 (fun k => itoa_sm (hvk k).1 (hvk k).2)
   have hit := itoa_sm (hvk i).1 (hvk i).2
   have hnm := h8 i
   have hsu := linesS_succ Lib.itoa ns l i
   obtain ⟨T, hT⟩ : ∃ T, linesS Lib.itoa ns l i = T := ⟨_, rfl⟩
   obtain ⟨nm, hnmq⟩ : ∃ x, ns.getD i [] = x := ⟨_, rfl⟩
   obtain ⟨it, hitq⟩ : ∃ x, Lib.itoa (l.getD i 0) = x := ⟨_, rfl⟩
   obtain ⟨lv, hlv⟩ : ∃ x, l.getD i 0 = x := ⟨_, rfl⟩
   rw [hT] at hL hsu
   rw [hnmq] at hnm hsu
   rw [hitq] at hit hsu
   rw [hitq] at hI
   rw [hlv] at hI
   simp only [hnmq, hlv] at HC
   have z1 : ¬ 9223372036854775807 < (bs T).size + (bs nm).size := sz_b (by omega)
   have a1 : bs T ++ bs nm = bs (T ++ nm) := bs_append _ _
   have e3 : (T ++ nm).length = T.length + nm.length := List.length_append
   have z2 : ¬ 9223372036854775807 < (bs (T ++ nm)).size + 1 := sz_n (by omega)
   have a2 : bs (T ++ nm) ++ ⟨#[61]⟩ = bs (T ++ nm ++ [61]) := bs_append _ [61]
   have e4 : (T ++ nm ++ [61]).length = T.length + nm.length + 1 := by rw [List.length_append, e3]; rfl
   have z3 : ¬ 9223372036854775807 < (bs (T ++ nm ++ [61])).size + (bs it).size := sz_b (by omega)
   have a3 : bs (T ++ nm ++ [61]) ++ bs it = bs (T ++ nm ++ [61] ++ it) := bs_append _ _
   have e5 : (T ++ nm ++ [61] ++ it).length = T.length + nm.length + 1 + it.length := by rw [List.length_append, e4]
   have z4 : ¬ 9223372036854775807 < (bs (T ++ nm ++ [61] ++ it)).size + 1 := sz_n (by omega)
   have a4 : bs (T ++ nm ++ [61] ++ it) ++ ⟨#[10]⟩ = bs (T ++ nm ++ [61] ++ it ++ [10]) := bs_append _ [10]
   have hV : T ++ nm ++ [61] ++ it ++ [10] = linesS Lib.itoa ns l (i + 1) := by rw [hsu]; unfold lineS; simp
   generalize T ++ nm ++ [61] ++ it ++ [10] = V4 at *
   generalize T ++ nm ++ [61] ++ it = V3 at *
   generalize T ++ nm ++ [61] = V2 at *
   generalize T ++ nm = V1 at *
   have hwi : wrap64 ((i : Int) + 1) = (i : Int) + 1 := wrap_sm (by omega)
   obtain ⟨s1, s2⟩ := HC.out wr hb
   have hS := hide (HC.out wr.drew hd)
   have HJ := hide (⟨hV, h5, hd⟩ : _ ∧ _ ∧ _)
   rw [hT]
   clear hb hi h5 hws hl hvk h8 hn hnn gl c1 ll c2 hL hit hnm hsu hT hnmq hitq hlv e3 e4 e5 hV h4 hd
   go_upto_region 5 with fail
   refine wp_region_held_drew (S := (fun u => u.cell? ⟨gb, go + i, none⟩ = some (.string (bs nm)) ∧ u.cell? ⟨lb, lo + i, none⟩ = some (.int .i64 lv))) (by kernel_rfl) hS.out (fun hHeld => ?_)
   refine tk 0 hHeld ?_
   refine tk 1 hHeld ?_
   refine tk 2 hHeld ?_
   refine tk 3 hHeld ?_
   refine tk 4 hHeld ?_
   refine tk 5 hHeld ?_
   refine tk 6 hHeld ?_
   refine tk 7 hHeld ?_
   refine tk 8 hHeld ?_
   refine tk 9 hHeld ?_
   refine tk 10 hHeld ?_
   refine rd 11 (fun K hK => ?_)
   go_simp
   go_at_call 33
   refine hI.mono ?_
   rintro e w8 ⟨rfl, hb8⟩
   replace hb8 : Below w.heap.size w w8 := HJ.out.2.2.trans (hb8.mono HJ.out.2.2.size)
   have q := hide (HC.out w8 hb8)
   have HB8 := hide hb8
   clear hb8 hHeld s1 s2 hI
   go_wp2_with fail
   refine hK.out _ _ q.out (fun hHeld => ?_)
   clear hK K
   try simp only [Act.put, sq]
   refine tk 12 hHeld ?_
   refine tk 13 hHeld ?_
   refine tk 14 hHeld ?_
   refine wpAnyH_done (by kernel_rfl) ?_ _
   clear hHeld q
   go_wp2_with fail
   go_roundw
   case rel =>
    (try rw [hwi])
    exact ⟨i + 1, HJ.out.2.1, rfl, by rw [HJ.out.1], HB8.out⟩
   case measure =>
    (try rw [hwi])
    exact Nat.sub_lt_sub_left HJ.out.2.1 (Nat.lt_succ_self i)
  ·have hil : i = n := by omega
   subst hil
   have HB := hide hb
   clear hb hi h5 H HI h4
   go_wp2_with fail
   go_ret
   exact ⟨rfl, HB.out⟩
end
end Go.Proofs.YtcfpedjfofpnkaaGreatDoor
