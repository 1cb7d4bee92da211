import Derived.Test.YtlpdomgedaockaaGreatDoorOo5
import Derived.Test.YtlpdomgedaockaaGreatDoorOo7
import Derived.Test.YtlpdomgedaockaaGreatDoorOo4
set_option linter.unusedVariables false
set_option linter.unusedSimpArgs false
namespace Go.Proofs.YtlpdomgedaockaaGreatDoor
open Go.RowKit Go.Proofs.Ord
def l5 : List Ev := [⟨0, 2, 0, 0⟩, ⟨0, 6, 0, 0⟩, ⟨1, 5, 0, 0⟩, ⟨1, 2, 0, 0⟩, ⟨2, 1, 0, 0⟩]
theorem races5 : racesTo (ev l5) 5 = [(0, 4), (3, 4)] := by decide +kernel
theorem bef5a : befI l5 0 3 = true := by decide +kernel
theorem bef5b : befI l5 3 0 = false := by decide +kernel
set_option maxRecDepth 100000 in
set_option maxHeartbeats 1000000 in
theorem alive3_true (hB : BeforeSaid) (hR : RacesSaid) (w : World) (hTab : Hid (Tab w)) : Calls Tryz.prog 5 #[] w fun e w' => e = .returned (.bool true) ∧ Below w.heap.size w w' := by
  have hs : EvS (w.alloc (.cells #[.int .i64 0, .int .i64 2, .int .i64 0, .int .i64 0, .int .i64 0, .int .i64 6, .int .i64 0, .int .i64 0, .int .i64 1, .int .i64 5, .int .i64 0, .int .i64 0, .int .i64 1, .int .i64 2, .int .i64 0, .int .i64 0, .int .i64 2, .int .i64 1, .int .i64 0, .int .i64 0] 49)) (some ⟨w.heap.size, 0, none⟩) l5 := evS_lit w _ l5 (by decide)
  have hb0 : Hid (Below w.heap.size w (w.alloc (.cells #[.int .i64 0, .int .i64 2, .int .i64 0, .int .i64 0, .int .i64 0, .int .i64 6, .int .i64 0, .int .i64 0, .int .i64 1, .int .i64 5, .int .i64 0, .int .i64 0, .int .i64 1, .int .i64 2, .int .i64 0, .int .i64 0, .int .i64 2, .int .i64 1, .int .i64 0, .int .i64 0] 49))) := (Below.refl _ _).alloc (Nat.le_refl _) _
  go_enter Tryz.func5, Tryz.ntmps5
  go_wp2_with fail
  refine (hR _ 5 5 l5 _ rfl hs (by omega) (by unfold maxLen; omega) (by omega) (tab_below hTab.out hb0.out)).mono ?_
  rintro e w1 ⟨v, rfl, hp, hb1⟩
  rw [races5] at hp
  obtain ⟨a, cap, rfl, _, _, h3⟩ := hp
  obtain ⟨b, off, rfl, _, hlt, c0, c1, _, _⟩ := h3 0 (by simp)
  simp only [List.getD_cons_zero, Nat.zero_mul, Nat.add_zero] at c0 c1
  clear h3
  have hs1 := hs.below hb1
  go_wp2_with fail
  refine (hB _ 5 5 l5 0 3 _ rfl hs1 (by omega) (by unfold maxLen; omega) (by omega)).mono ?_
  rintro e w2 ⟨rfl, hb2⟩
  rw [bef5a]
  have hs2 := hs1.below hb2
  have c0' := (hb2.cell (p := ⟨b, off, none⟩) hlt).trans c0
  have c1' := (hb2.cell (p := ⟨b, off + 1, none⟩) hlt).trans c1
  have hlt2 : b < w2.heap.size := by have := hb2.size; omega
  clear c0 c1
  go_wp2_with fail
  refine (hB _ 5 5 l5 3 0 _ rfl hs2 (by omega) (by unfold maxLen; omega) (by omega)).mono ?_
  rintro e w3 ⟨rfl, hb3⟩
  rw [bef5b]
  have c0 := (hb3.cell (p := ⟨b, off, none⟩) hlt2).trans c0'
  have c1 := (hb3.cell (p := ⟨b, off + 1, none⟩) hlt2).trans c1'
  have hbf : Hid (Below w.heap.size w w3) := hb0.out.trans ((hb1.mono (by simp)).trans ((hb2.mono (by have := hb1.size; simp at this; omega)).trans (hb3.mono (by have := hb1.size; have := hb2.size; simp at *; omega))))
  clear c0' c1' hs hs1 hs2 hb1 hb2 hb3 hb0
  go_wp2
  go_ret
  exact ⟨rfl, hbf.out⟩
end Go.Proofs.YtlpdomgedaockaaGreatDoor
