import Derived.Test.YtcfpedjfofpnkaaGreatDoorRv5
import Derived.Test.YtcfpedjfofpnkaaGreatDoorRvR6
import Derived.Test.YtcfpedjfofpnkaaGreatDoorRvR8
import Derived.Test.YtcfpedjfofpnkaaGreatDoorRvR9
set_option linter.unusedVariables false
set_option linter.unusedSimpArgs false
namespace Go.Proofs.YtcfpedjfofpnkaaGreatDoor
open Go.RowKit Go.Shelf Go.Proofs.Cod
def EvQ (w : World) (ea : Option Addr) (base k : Nat) (e : Ev) : Prop := ∃ g, ea = some ⟨g, 0, none⟩ ∧ base ≤ g ∧ g < w.heap.size ∧ EvHere w g k e ∧ (∃ cs, w.heap[g]? = some (.cells cs 45) ∧ k * 4 + 3 < cs.size)
def RvQ (w : World) (ea : Option Addr) (k : Nat) (e : Ev) : Prop := ∃ g, ea = some ⟨g, 0, none⟩ ∧ g < w.heap.size ∧ w.cell? ⟨g, k * 4, none⟩ = some (.int .i64 e.t) ∧ w.cell? ⟨g, k * 4 + 1, none⟩ = some (.int .i64 e.k) ∧ w.cell? ⟨g, k * 4 + 2, none⟩ = some (.int .i64 e.o) ∧ w.cell? ⟨g, k * 4 + 3, none⟩ = some (.int .i64 e.v) ∧ ∃ cs, w.heap[g]? = some (.cells cs 50)
theorem evq_of {w : World} {base n c k : Nat} {a : Option Addr} {l : List Ev} {e : Ev} (h : w.ownsRow base 45 4 (.slice a n c) l.length (l.flatMap evL)) (hk : l[k]? = some e) : EvQ w a base k e := by
 obtain ⟨g, cap, q1, q2, q3⟩ := ev_at h hk
 injection q1 with q1 _ _
 subst q1
 rcases h.2 with ⟨q, _⟩ | ⟨g', cap', cur, q, q4, q5, q6, q7, q8, q9⟩
 ·injection q with q _ _; cases q
 ·injection q with q _ _
  injection q with q
  injection q with q _ _
  subst q
  have hl := (List.getElem?_eq_some_iff.1 hk).1
  refine ⟨g, rfl, q4, q2, q3, cur, q5, ?_⟩
  have : l.length * 4 ≤ cap' * 4 := Nat.mul_le_mul_right 4 q6
  omega
theorem rvq_of {w : World} {base n c k : Nat} {a : Option Addr} {l : List Ev} {e : Ev} (h : w.ownsRow base 50 4 (.slice a n c) l.length (l.flatMap revL)) (hk : l[k]? = some e) : RvQ w a k e := by
 have hl := (List.getElem?_eq_some_iff.1 hk).1
 obtain ⟨g, cap, q1, hg, hc⟩ := row_form h hl
 injection q1 with q1 _ _
 subst q1
 have key : ∀ q, q < 4 → w.cell? ⟨g, k * 4 + q, none⟩ = (revL e)[q]? := fun q hq => by
  rw [hc (k * 4 + q) (by omega)]; exact flat_at revL_len hk hq
 rcases h.2 with ⟨q, _⟩ | ⟨g', cap', cur, q, q4, q5, q6, q7, q8, q9⟩
 ·injection q with q _ _; cases q
 ·injection q with q _ _
  injection q with q
  injection q with q _ _
  subst q
  exact ⟨g, rfl, hg, key 0 (by omega), key 1 (by omega), key 2 (by omega), key 3 (by omega), cur, q5⟩
theorem EvQ.low {w : World} {a : Option Addr} {base k : Nat} {e : Ev} (h : EvQ w a base k e) : EvQ w a 0 k e := by
 obtain ⟨g, h1, h2, r⟩ := h
 exact ⟨g, h1, Nat.zero_le _, r⟩
theorem EvQ.below {w w' : World} {a : Option Addr} {base k : Nat} {e : Ev} (h : EvQ w a base k e) (hb : Below w.heap.size w w') : EvQ w' a base k e := by
 obtain ⟨g, h1, h2, h3, ⟨c0, c1, c2, c3⟩, cs, h5, h6⟩ := h
 exact ⟨g, h1, h2, Nat.lt_of_lt_of_le h3 hb.size, ⟨(hb.cell (p := ⟨g, _, none⟩) h3).trans c0, (hb.cell (p := ⟨g, _, none⟩) h3).trans c1, (hb.cell (p := ⟨g, _, none⟩) h3).trans c2, (hb.cell (p := ⟨g, _, none⟩) h3).trans c3⟩, cs, (hb.block g h3).trans h5, h6⟩
theorem RvQ.below {w w' : World} {a : Option Addr} {k : Nat} {e : Ev} (h : RvQ w a k e) (hb : Below w.heap.size w w') : RvQ w' a k e := by
 obtain ⟨g, h1, h3, c0, c1, c2, c3, cs, h5⟩ := h
 exact ⟨g, h1, Nat.lt_of_lt_of_le h3 hb.size, (hb.cell (p := ⟨g, _, none⟩) h3).trans c0, (hb.cell (p := ⟨g, _, none⟩) h3).trans c1, (hb.cell (p := ⟨g, _, none⟩) h3).trans c2, (hb.cell (p := ⟨g, _, none⟩) h3).trans c3, cs, (hb.block g h3).trans h5⟩
theorem EvQ.next {w : World} {g base i k : Nat} {e : Ev} {v : Value} (h : EvQ w (some ⟨g, 0, none⟩) base k e) (hk : i < k) : EvQ (w.setCell ⟨g, i * 4 + 1, none⟩ v) (some ⟨g, 0, none⟩) base k e := by
 obtain ⟨g', h1, h2, h3, ⟨c0, c1, c2, c3⟩, cs, h5, h6⟩ := h
 injection h1 with h1
 injection h1 with h1 _ _
 subst h1
 have hs := heap_setCell_same w g (i * 4 + 1) _ _ v h5
 have key : ∀ q, q < 4 → (w.setCell ⟨g, i * 4 + 1, none⟩ v).cell? ⟨g, k * 4 + q, none⟩ = w.cell? ⟨g, k * 4 + q, none⟩ := fun q hq => by
  simp only [World.cell?, hs, h5]
  simp only [Option.isSome_none, Bool.false_eq_true, if_false]
  exact Array.getElem?_setIfInBounds_ne (by omega)
 exact ⟨g, rfl, h2, by rw [World.size_setCell]; exact h3, ⟨(key 0 (by omega)).trans c0, (key 1 (by omega)).trans c1, (key 2 (by omega)).trans c2, (key 3 (by omega)).trans c3⟩, _, hs, by rw [Array.size_setIfInBounds]; exact h6⟩
theorem RvQ.other {w : World} {a : Option Addr} {g o k : Nat} {e : Ev} {v : Value} {cs : Array Value} (h : RvQ w a k e) (hg : w.heap[g]? = some (.cells cs 45)) : RvQ (w.setCell ⟨g, o, none⟩ v) a k e := by
 obtain ⟨g', h1, h3, c0, c1, c2, c3, cs', h5⟩ := h
 have hne : g' ≠ g := by
  intro q
  subst q
  rw [hg] at h5
  injection h5 with h5
  injection h5 with _ h5
  exact absurd h5 (by decide)
 have hb : (w.setCell ⟨g, o, none⟩ v).heap[g']? = w.heap[g']? := heap_setCell_other w ⟨g, o, none⟩ g' v hne
 have key : ∀ q, (w.setCell ⟨g, o, none⟩ v).cell? ⟨g', q, none⟩ = w.cell? ⟨g', q, none⟩ := fun q => by unfold World.cell?; dsimp only; rw [hb]
 exact ⟨g', h1, by rw [World.size_setCell]; exact h3, (key _).trans c0, (key _).trans c1, (key _).trans c2, (key _).trans c3, cs', hb.trans h5⟩
set_option maxRecDepth 100000 in
set_option maxHeartbeats 8000000 in
theorem runRuns_any (t : Tx) {w : World} {B : Nat} (ht : Tabs w B) (hB : B ≤ w.heap.size) {a : Option Addr} {n cap : Nat} {l : List Int} (hn : l.length = n) (hl : Is w a l) (hn1 : n < 1048576) :
 Calls Tryz.prog 4 #[.string (bs t), .slice a n cap] w fun e w' => e = .returned (.bool true) ∧ Below w.heap.size w w' := by
 have hL := load_any t ht hB
 have HA := hide (fun (w' : World) (hb : Below w.heap.size w w') => alive_any (ht.keep (hb.mono hB)) (by have := hb.size; omega))
 have HT := hide (⟨ht, hl, hn, hn1⟩ : _ ∧ _ ∧ _ ∧ _)
 clear ht hl hn hn1
 go_enter Tryz.func4, Tryz.ntmps4
 go_wp2_with fail
 refine hL.mono ?_
 clear hL
 rintro e w1 ⟨hb1, (rfl | ⟨s, C, vV, fV, lV, thV, L, qv, qf, ql, qt, P, TV, he, rfl, hPW, hLn, hQ, hp1, hp2, hp3, hp4, hpC⟩)⟩
 ·have hB2 : ∀ o1 o2, Below w.heap.size w ((w1.alloc o1).alloc o2) := fun o1 o2 => (hb1.alloc hb1.size o1).alloc (by show w.heap.size ≤ (w1.heap.push o1).size; have := hb1.size; simp; omega) o2
  have hAl := HA.out _ (hB2 (.cells #[.slice none 0 0, .slice none 0 0, .slice none 0 0, .slice none 0 0] 26) (.cells #[.slice none 0 0, .slice none 0 0, .slice none 0 0, .slice none 0 0] 29))
  have HB2 := hide (hB2 (.cells #[.slice none 0 0, .slice none 0 0, .slice none 0 0, .slice none 0 0] 26) (.cells #[.slice none 0 0, .slice none 0 0, .slice none 0 0, .slice none 0 0] 29))
  unfold nilV
  clear hb1 hB2 HA HT
  go_wp2_with fail
  refine hAl.mono ?_
  rintro e w2 ⟨rfl, hb2⟩
  have HN := hide (HB2.out.trans (hb2.mono HB2.out.size))
  clear hAl hb2 HB2
  go_wp2_with fail
  go_ret
  exact ⟨rfl, HN.out⟩
 ·obtain ⟨nv, nf, nl, nt, va, fa, la, ta, vc, fc, lc, tc, x1, x2, x3, x4, z1, z2, z3, z4, rfl, rfl, rfl, rfl, rfl, rfl, rfl, rfl, hTw⟩ := two_of he hPW hLn hQ hp1 hp2 hp3 hp4 hpC
  clear he hPW hLn hQ hp1 hp2 hp3 hp4 hpC
  obtain ⟨vs, hvs⟩ : ∃ x, s.nms 118 = x := ⟨_, rfl⟩
  obtain ⟨fs, hfs⟩ : ∃ x, s.nms 102 = x := ⟨_, rfl⟩
  obtain ⟨ls, hls⟩ : ∃ x, s.nms 109 = x := ⟨_, rfl⟩
  rw [hvs, hfs, hls] at hTw
  clear hvs hfs hls s
  obtain ⟨W2, hW2⟩ : ∃ W2, (w1.alloc (.cells #[.slice va nv vc, .slice fa nf fc, .slice la nl lc, .slice ta nt tc] 26)).alloc (.cells #[.slice x1 nv z1, .slice x2 nf z2, .slice x3 nl z3, .slice x4 nt z4] 29) = W2 := ⟨_, rfl⟩
  obtain ⟨hb2, k1, k2, hz2⟩ := two_new _ _ _ hW2
  obtain ⟨ht, hl, hn, hn1⟩ := HT.out
  have hB2 := hb1.trans (hb2.mono hb1.size)
  obtain ⟨v', w3, hrun, ho, hg⟩ := ints_all (w := W2) (base := W2.heap.size) (l := []) (v := .slice none 0 0) (World.ownsRow_nil _ _ _ _) (hl.below hB2) cap (by simp; omega) (Nat.le_refl _)
  rw [List.nil_append] at ho
  rw [hn] at hrun
  obtain ⟨ia, ic, rfl, hsr⟩ := SRow.of ho
  rw [hn] at hrun
  have hb3 : Below W2.heap.size W2 w3 := grown_b (Nat.le_refl _) hg
  have hB3 := hB2.trans (hb3.mono hB2.size)
  have hT3 := (hTw.below hb2).below hb3
  have hfit := hT3.pfit
  have h4 := hT3.four
  have hok0 : MOk nv nf nl C (newM nv nf nl nt) := by
   have := newM_ok nv nf nl C
   rw [hT3.cl] at this
   exact this
  obtain ⟨hSim, hEv⟩ := Sim.play hfit (Sim.refl (newM nv nf nl nt)) hok0 l
  have hSh := Sim.show (p := pdOf vs fs ls L C) hSim
  have hR := run_any (cap := ic) hT3.prog hT3.b hT3.fit hT3.n8 (ht.keep (hB3.mono hB)) (by have := hB3.size; omega) hn hsr.is hn1
  rw [hT3.lv, hT3.lf, hT3.ll, hT3.lt] at hR
  have hcl : Hid (∀ u, Below w3.heap.size w3 u → (u.cell? ⟨w1.heap.size, 0, none⟩ = some (.slice va nv vc) ∧ u.cell? ⟨w1.heap.size, 1, none⟩ = some (.slice fa nf fc) ∧ u.cell? ⟨w1.heap.size, 2, none⟩ = some (.slice la nl lc) ∧ u.cell? ⟨w1.heap.size, 3, none⟩ = some (.slice ta nt tc)) ∧ u.cell? ⟨w1.heap.size + 1, 0, none⟩ = some (.slice x1 nv z1) ∧ u.cell? ⟨w1.heap.size + 1, 1, none⟩ = some (.slice x2 nf z2) ∧ u.cell? ⟨w1.heap.size + 1, 2, none⟩ = some (.slice x3 nl z3) ∧ u.cell? ⟨w1.heap.size + 1, 3, none⟩ = some (.slice x4 nt z4)) := fun u hu => ⟨four_cells ((hu.block _ (by have := hb3.size; omega)).trans ((hb3.block _ (by omega)).trans k1)), four_cells ((hu.block _ (by have := hb3.size; omega)).trans ((hb3.block _ (by omega)).trans k2))⟩
  obtain ⟨⟨q0, q1, q2, q3⟩, r0, r1, r2, r3⟩ := hcl.out w3 (Below.refl _ _)
  have H3 := hide (⟨hT3, hsr.is, hB3, hSim, hEv, hSh, hok0, h4⟩ : _ ∧ _ ∧ _ ∧ _ ∧ _ ∧ _ ∧ _ ∧ _)
  replace hW2 := hide hW2
  clear hTw hb1 hb2 k1 k2 hz2 ht hl hn hn1 hB2 ho hg hsr hb3 hB3 hT3 hfit h4 hok0 hSim hEv hSh
  go_upto_region 4 with fail
  rw [hW2.out]
  clear hW2
  go_wp2_with (at_builtin; refine wpList_append_run rfl _ _ _ rfl rfl rfl rfl hrun ?_)
  refine hR.mono ?_
  rintro e w4 ⟨v, rfl, hrow, hb4⟩
  obtain ⟨hT3, hin3, hB3, hSim, hEv, hSh, hok0, h4⟩ := H3.out
  obtain ⟨ht, hl, hn, hn1⟩ := HT.out
  obtain ⟨evs, hevs⟩ : ∃ x, (playM false C (newM nv nf nl nt) l).2 = x := ⟨_, rfl⟩
  obtain ⟨m, hm⟩ : ∃ x, (playM false C (newM nv nf nl nt) l).1 = x := ⟨_, rfl⟩
  obtain ⟨m', hm'⟩ : ∃ x, (playM true C (newM nv nf nl nt) l).1 = x := ⟨_, rfl⟩
  rw [hevs] at hrow hEv
  rw [hm, hm'] at hSh
  obtain ⟨ea, ec, rfl⟩ := owns_len hrow
  have hB4 := hB3.trans (hb4.mono hB3.size)
  have hRR := rrun_any (nr := nt * 4) (cap := cap) (hT3.doc.below hb4) hT3.pt h4.1 h4.2.1 h4.2.2.1 rfl (by rw [hT3.code]; exact hT3.pfit) hn (hl.below hB4) hn1
  rw [hT3.code, hEv, hm'] at hRR
  obtain ⟨sh, hsh⟩ : ∃ x, showM (pdOf vs fs ls L C) m = x := ⟨_, rfl⟩
  rw [hm, hsh]
  rw [hsh] at hSh
  obtain ⟨nr, hnr⟩ : ∃ q, nt * 4 = q := ⟨_, rfl⟩
  rw [hnr] at hRR
  have hokT := play_ok true hT3.pfit hok0 l
  rw [hm'] at hokT
  obtain ⟨⟨q0, q1, q2, q3⟩, r0, r1, r2, r3⟩ := hcl.out w4 hb4
  have hevl : evs.length < 1048576 := by have q := play_len C (newM nv nf nl nt) l; rw [hevs] at q; omega
  have H4 := hide (⟨hrow, hb4, hB4, hSh, hokT, hevl, hnr⟩ : _ ∧ _ ∧ _ ∧ _ ∧ _ ∧ _ ∧ _)
  have HEV := hide hevs
  clear hT3 hin3 hB3 hSim hEv hSh hok0 h4 ht hl hn hn1 hevs hm hm' hrow hb4 hB4 hsh hnr hokT hevl hR
  go_wp2_with fail
  refine hRR.mono ?_
  rintro e w5 ⟨v2, b0, b1, b2, b3, b4, b5, ⟨d0, d1, d2, d3, d4, d5, rfl⟩, hrow2, hD5, hb5⟩
  clear hRR q0 q1 q2 q3 r0 r1 r2 r3
  obtain ⟨ea2, ec2, rfl⟩ := owns_len hrow2
  obtain ⟨W5, hW5⟩ : ∃ W5, w5.alloc (.cells #[.slice b0 nv d0, .slice b1 nf d1, .slice b2 nl d2, .slice b3 nt d3, .slice b4 nt d4, .slice b5 nr d5] 36) = W5 := ⟨_, rfl⟩
  have hbb : Below w5.heap.size w5 W5 := by rw [← hW5]; exact (Below.refl _ _).alloc (Nat.le_refl _) _
  have ks5 : W5.heap[w5.heap.size]? = some (.cells #[.slice b0 nv d0, .slice b1 nf d1, .slice b2 nl d2, .slice b3 nt d3, .slice b4 nt d4, .slice b5 nr d5] 36) := by rw [← hW5]; exact World.alloc_heap_new w5 _
  obtain ⟨hT3, hin3, hB3, hSim, hEv, hSh0, hok0, h4⟩ := H3.out
  obtain ⟨ht, hl, hn, hn1⟩ := HT.out
  obtain ⟨hrow, hb4, hB4, hSh, hokT, hevl, hnr⟩ := H4.out
  have hb45 : Below w4.heap.size w4 W5 := hb5.trans (hbb.mono hb5.size)
  have hb35 : Below w3.heap.size w3 W5 := hb4.trans (hb45.mono hb4.size)
  have hB5 := hB3.trans (hb35.mono hB3.size)
  have hLI := lints_any (ca := ic) (cb := cap) (hin3.below hb35) (hl.below hB5) hn (by omega)
  have hD6 := hD5.below hbb
  have hT5 := hT3.below hb35
  have hrow5 := c_belowS hrow hb45
  have hrow6 := c_belowS hrow2 hbb
  obtain ⟨sS, hsS⟩ : ∃ x, w5.heap.size = x := ⟨_, rfl⟩
  rw [hsS] at ks5
  have H5 := hide (⟨hT5, hin3.below hb35, hB5, hD6, hrow5, hrow6, ks5, hb35⟩ : _ ∧ _ ∧ _ ∧ _ ∧ _ ∧ _ ∧ _ ∧ _)
  replace hW5 := hide hW5
  replace hsS := hide hsS
  clear hbb ks5 hT3 hin3 hB3 hSim hEv hSh0 hok0 h4 ht hl hn hn1 hrow hb4 hB4 hSh hokT hevl hnr hb45 hb35 hB5 hD6 hT5 hrow5 hrow6 hrow2 hD5 hb5
  go_upto_region 8 with fail
  rw [hW5.out]
  try rw [hsS.out]
  clear hW5 hsS
  go_wp2_with fail
  refine hLI.mono ?_
  rintro e w6 ⟨rfl, hb6⟩
  clear hLI
  obtain ⟨hT5, hin5, hB5, hD6, hrow5, hrow6, ks5, hb35⟩ := H5.out
  obtain ⟨ht, hl, hn, hn1⟩ := HT.out
  obtain ⟨-, -, -, hSh, hokT, hevl, hnr⟩ := H4.out
  have hB6 := hB5.trans (hb6.mono hB5.size)
  have hT6 := hT5.below hb6
  have hRS := rshow_any (c0 := d0) (c1 := d1) (c2 := d2) (c3 := d3) (c4 := d4) (c5 := d5) (ht.keep (hB6.mono hB)) (by have := hB6.size; omega) hT6.doc hT6.pt hT6.pv hT6.pf hT6.pl (hD6.below hb6) (by rw [hT6.code]; exact hokT) (by rw [hT6.pd]; exact hT6.fit) (by rw [hT6.pd]; exact hT6.n8)
  rw [hT6.pd, hSh] at hRS
  have hb36 : Below w3.heap.size w3 w6 := hb35.trans (hb6.mono hb35.size)
  obtain ⟨⟨q0, q1, q2, q3⟩, r0, r1, r2, r3⟩ := hcl.out w6 hb36
  obtain ⟨s0, s1, s2, s3, s4, s5⟩ := six_cells ((hb6.block sS (Array.getElem?_eq_some_iff.1 ks5).1).trans ks5)
  have H6 := hide (⟨hT6, hin5.below hb6, hB6, c_belowS hrow5 hb6, c_belowS hrow6 hb6, hb36⟩ : _ ∧ _ ∧ _ ∧ _ ∧ _ ∧ _)
  clear hT5 hin5 hB5 hD6 hrow5 hrow6 ks5 hb35 ht hl hn hn1 hSh hokT hevl hnr hB6 hT6 hb36 hb6 H5
  go_wp2_with fail
  refine hRS.mono ?_
  rintro e w7 ⟨rfl, hb7⟩
  clear hRS q0 q1 q2 q3 r0 r1 r2 r3 s0 s1 s2 s3 s4 s5
  have HB7 := hide hb7
  clear hb7
  go_wp2_with fail
  obtain ⟨hT6, hin6, hB6, hrowA, hrowB, hb36⟩ := H6.out
  have hb37 : Below w3.heap.size w3 w7 := hb36.trans (HB7.out.mono hb36.size)
  have hA7 := c_belowS hrowA HB7.out
  have hB7r := c_belowS hrowB HB7.out
  have HE0 : Hid (∀ k e, 0 ≤ k → evs[k]? = some e → EvQ w7 ea w3.heap.size k e) := fun k e _ hk => evq_of hA7 hk
  have HR0 : Hid (∀ k e, evs[k]? = some e → RvQ w7 ea2 k e) := fun k e hk => rvq_of hB7r hk
  have HB37 := hide hb37
  clear hT6 hin6 hB6 hrowA hrowB hb36 hb37 hA7 hB7r HB7
  go_loopw [14] (fun iv wr => ∃ i : Nat, i ≤ evs.length ∧ iv = .int .i64 i ∧ (∀ k e, i ≤ k → evs[k]? = some e → EvQ wr ea w3.heap.size k e) ∧ (∀ k e, evs[k]? = some e → RvQ wr ea2 k e) ∧ Below w3.heap.size w3 wr) (fun iv _ => evs.length - (intOf iv).toNat)
  case atStart => exact ⟨0, Nat.zero_le _, rfl, HE0.out, HR0.out, HB37.out⟩
  case round =>
   obtain ⟨i, hi, rfl, hE, hRv, hbr⟩ := hrel
   clear HE0 HR0 HB37
   by_cases h5 : i < evs.length
   ·obtain ⟨e, he⟩ : ∃ e, evs[i]? = some e := ⟨_, List.getElem?_eq_getElem h5⟩
    obtain ⟨g, eg, hgl, hgw, ⟨c0, c1, c2, c3⟩, hfz⟩ := hE i e (Nat.le_refl _) he
    subst eg
    obtain ⟨g2, eg2, hg2w, c4, c5, c6, c7, hT2⟩ := hRv i e he
    subst eg2
    have hlt : (i : Int) < (evs.length : Int) := by omega
    have hwi : wrap64 ((i : Int) + 1) = (i : Int) + 1 := wrap_lt (by have := H4.out.2.2.2.2.2.1; omega)
    replace hwi := hide hwi
    have hd : Below wr.heap.size wr wr.drew := ⟨rfl, rfl, rfl, Nat.le_refl _, fun _ _ => rfl⟩
    have hLE := levent_any e.t e.k e.o e.v wr.drew
    have HC : Hid (∀ u, Below wr.heap.size wr u → (u.cell? ⟨g, i * 4, none⟩ = some (.int .i64 e.t) ∧ u.cell? ⟨g, i * 4 + 1, none⟩ = some (.int .i64 e.k) ∧ u.cell? ⟨g, i * 4 + 2, none⟩ = some (.int .i64 e.o) ∧ u.cell? ⟨g, i * 4 + 3, none⟩ = some (.int .i64 e.v)) ∧ u.cell? ⟨g2, i * 4, none⟩ = some (.int .i64 e.t) ∧ u.cell? ⟨g2, i * 4 + 1, none⟩ = some (.int .i64 e.k) ∧ u.cell? ⟨g2, i * 4 + 2, none⟩ = some (.int .i64 e.o) ∧ u.cell? ⟨g2, i * 4 + 3, none⟩ = some (.int .i64 e.v)) := fun u hu => ⟨⟨(hu.cell (p := ⟨g, _, none⟩) hgw).trans c0, (hu.cell (p := ⟨g, _, none⟩) hgw).trans c1, (hu.cell (p := ⟨g, _, none⟩) hgw).trans c2, (hu.cell (p := ⟨g, _, none⟩) hgw).trans c3⟩, (hu.cell (p := ⟨g2, _, none⟩) hg2w).trans c4, (hu.cell (p := ⟨g2, _, none⟩) hg2w).trans c5, (hu.cell (p := ⟨g2, _, none⟩) hg2w).trans c6, (hu.cell (p := ⟨g2, _, none⟩) hg2w).trans c7⟩
    have hS0 := hide (HC.out wr.drew hd)
    have HJ := hide (⟨h5, hE, hRv, hbr, hgl, hgw, hfz, hT2⟩ : _ ∧ _ ∧ _ ∧ _ ∧ _ ∧ _ ∧ _ ∧ _)
    clear hi h5 hE hRv hbr hgl hgw hfz hT2 hg2w c0 c1 c2 c3 c4 c5 c6 c7 he
    go_upto_region 14 with fail
    refine wp_region_held_drew (S := (fun u => (u.cell? ⟨g, i * 4, none⟩ = some (.int .i64 e.t) ∧ u.cell? ⟨g, i * 4 + 1, none⟩ = some (.int .i64 e.k) ∧ u.cell? ⟨g, i * 4 + 2, none⟩ = some (.int .i64 e.o) ∧ u.cell? ⟨g, i * 4 + 3, none⟩ = some (.int .i64 e.v)) ∧ u.cell? ⟨g2, i * 4, none⟩ = some (.int .i64 e.t) ∧ u.cell? ⟨g2, i * 4 + 1, none⟩ = some (.int .i64 e.k) ∧ u.cell? ⟨g2, i * 4 + 2, none⟩ = some (.int .i64 e.o) ∧ u.cell? ⟨g2, i * 4 + 3, none⟩ = some (.int .i64 e.v))) (by kernel_rfl) hS0.out (fun hHeld => ?_)
    refine tk 0 hHeld ?_
    refine tk 1 hHeld ?_
    refine tk 2 hHeld ?_
    refine tk 3 hHeld ?_
    refine tk 4 hHeld ?_
    refine tk 5 hHeld ?_
    refine tk 6 hHeld ?_
    refine tk 7 hHeld ?_
    refine rd 8 (fun K hK => ?_)
    go_simp
    go_at_call 20
    refine hLE.mono ?_
    rintro e9 w8 ⟨rfl, hb8⟩
    replace hb8 : Below wr.heap.size wr w8 := hd.trans hb8
    have hq := hide (HC.out w8 hb8)
    replace hb8 := hide hb8
    go_wp2_with fail
    refine hK.out _ _ hq.out (fun hHeld => ?_)
    clear hK K
    try simp only [Act.put, sq]
    refine tk 9 hHeld ?_
    refine wpAnyH_done (by kernel_rfl) ?_ _
    clear hHeld hS0 hd hLE
    obtain ⟨⟨-, d1, -, -⟩, -⟩ := hq.out
    obtain ⟨h5, hE, hRv, hbr, hgl, hgw, ⟨cs, hcs, -⟩, -⟩ := HJ.out
    have hcs8 := (hb8.out.block g hgw).trans hcs
    have fz := free_block hcs8 (i * 4 + 1)
    have hE2 : ∀ k e, i + 1 ≤ k → evs[k]? = some e → EvQ (w8.setCell ⟨g, i * 4 + 1, none⟩ (.int .i64 (-9))) (some ⟨g, 0, none⟩) w3.heap.size k e := fun k e hk he => ((hE k e (by omega) he).below hb8.out).next (by omega)
    have hR2 : ∀ k e, evs[k]? = some e → RvQ (w8.setCell ⟨g, i * 4 + 1, none⟩ (.int .i64 (-9))) (some ⟨g2, 0, none⟩) k e := fun k e he => ((hRv k e he).below hb8.out).other hcs8
    have hbF : Below w3.heap.size w3 (w8.setCell ⟨g, i * 4 + 1, none⟩ (.int .i64 (-9))) := (hbr.trans (hb8.out.mono hbr.size)).setCell hgl _
    have HF := hide (⟨h5, hE2, hR2, hbF⟩ : _ ∧ _ ∧ _ ∧ _)
    clear h5 hE hRv hbr hgl hgw hcs hcs8 hE2 hR2 hbF HJ HC hq hb8
    have hwi := hwi.out
    go_wp2_with fail
    go_roundw
    case rel =>
     (try rw [hwi])
     exact ⟨i + 1, HF.out.1, rfl, HF.out.2.1, HF.out.2.2.1, HF.out.2.2.2⟩
    case measure =>
     (try rw [hwi])
     exact Nat.sub_lt_sub_left HF.out.1 (Nat.lt_succ_self i)
   ·have hil : evs.length = i := by omega
    subst hil
    obtain ⟨hT3, hin3, hB3, -, -, -, -, -⟩ := H3.out
    obtain ⟨ht, hl, hn, hn1⟩ := HT.out
    have hTr := hT3.below hbr
    have hBr := hB3.trans (hbr.mono hB3.size)
    have hR2 := run_any (cap := ic) hTr.prog hTr.b hTr.fit hTr.n8 (ht.keep (hBr.mono hB)) (by have := hBr.size; omega) hn (hin3.below hbr) hn1
    rw [hTr.lv, hTr.lf, hTr.ll, hTr.lt] at hR2
    rw [HEV.out] at hR2
    obtain ⟨sh2, hsh2⟩ : ∃ x, showM (pdOf vs fs ls L C) (playM false C (newM nv nf nl nt) l).1 = x := ⟨_, rfl⟩
    rw [hsh2] at hR2
    obtain ⟨⟨q0, q1, q2, q3⟩, -⟩ := hcl.out wr hbr
    have HK := hide (⟨hRv, hBr⟩ : _ ∧ _)
    clear hi h5 hE hRv hbr hT3 hin3 hB3 ht hl hn hn1 hTr hBr hsh2
    go_wp2_with fail
    refine hR2.mono ?_
    rintro e w9 ⟨v3, rfl, hrow3, hb9⟩
    obtain ⟨ea3, ec3, rfl⟩ := owns_len hrow3
    have HE0 : Hid (∀ k e, 0 ≤ k → evs[k]? = some e → EvQ w9 ea3 wr.heap.size k e) := fun k e _ hk => evq_of hrow3 hk
    have HR0 : Hid (∀ k e, evs[k]? = some e → RvQ w9 ea2 k e) := fun k e hk => (HK.out.1 k e hk).below hb9
    have HB9 := hide (HK.out.2.trans (hb9.mono HK.out.2.size))
    clear hR2 q0 q1 q2 q3 hrow3 hb9 HK
    go_wp2_with fail
    go_loopw [18] (fun iv wr => ∃ i : Nat, i ≤ evs.length ∧ iv = .int .i64 i ∧ (∀ k e, i ≤ k → evs[k]? = some e → EvQ wr ea3 0 k e) ∧ (∀ k e, evs[k]? = some e → RvQ wr ea2 k e) ∧ Below w.heap.size w wr) (fun iv _ => evs.length - (intOf iv).toNat)
    case atStart => exact ⟨0, Nat.zero_le _, rfl, (fun k e h1 h2 => (HE0.out k e h1 h2).low), HR0.out, HB9.out⟩
    case round =>
     obtain ⟨i, hi, rfl, hE, hRv, hbr⟩ := hrel
     clear HE0 HR0 HB9
     by_cases h5 : i < evs.length
     ·obtain ⟨e, he⟩ : ∃ e, evs[i]? = some e := ⟨_, List.getElem?_eq_getElem h5⟩
      obtain ⟨g, eg, hgl, hgw, ⟨c0, c1, c2, c3⟩, hfz⟩ := hE i e (Nat.le_refl _) he
      subst eg
      obtain ⟨g2, eg2, hg2w, c4, c5, c6, c7, hT2⟩ := hRv i e he
      subst eg2
      have hlt : (i : Int) < (evs.length : Int) := by omega
      have hwi : wrap64 ((i : Int) + 1) = (i : Int) + 1 := wrap_lt (by have := H4.out.2.2.2.2.2.1; omega)
      replace hwi := hide hwi
      have hd : Below wr.heap.size wr wr.drew := ⟨rfl, rfl, rfl, Nat.le_refl _, fun _ _ => rfl⟩
      have hLE := levent_any e.t e.k e.o e.v wr.drew
      have HC : Hid (∀ u, Below wr.heap.size wr u → (u.cell? ⟨g, i * 4, none⟩ = some (.int .i64 e.t) ∧ u.cell? ⟨g, i * 4 + 1, none⟩ = some (.int .i64 e.k) ∧ u.cell? ⟨g, i * 4 + 2, none⟩ = some (.int .i64 e.o) ∧ u.cell? ⟨g, i * 4 + 3, none⟩ = some (.int .i64 e.v)) ∧ u.cell? ⟨g2, i * 4, none⟩ = some (.int .i64 e.t) ∧ u.cell? ⟨g2, i * 4 + 1, none⟩ = some (.int .i64 e.k) ∧ u.cell? ⟨g2, i * 4 + 2, none⟩ = some (.int .i64 e.o) ∧ u.cell? ⟨g2, i * 4 + 3, none⟩ = some (.int .i64 e.v)) := fun u hu => ⟨⟨(hu.cell (p := ⟨g, _, none⟩) hgw).trans c0, (hu.cell (p := ⟨g, _, none⟩) hgw).trans c1, (hu.cell (p := ⟨g, _, none⟩) hgw).trans c2, (hu.cell (p := ⟨g, _, none⟩) hgw).trans c3⟩, (hu.cell (p := ⟨g2, _, none⟩) hg2w).trans c4, (hu.cell (p := ⟨g2, _, none⟩) hg2w).trans c5, (hu.cell (p := ⟨g2, _, none⟩) hg2w).trans c6, (hu.cell (p := ⟨g2, _, none⟩) hg2w).trans c7⟩
      have hS0 := hide (HC.out wr.drew hd)
      have HJ := hide (⟨h5, hE, hRv, hbr, hgl, hgw, hfz, hT2⟩ : _ ∧ _ ∧ _ ∧ _ ∧ _ ∧ _ ∧ _ ∧ _)
      clear hi h5 hE hRv hbr hgl hgw hfz hT2 hg2w c0 c1 c2 c3 c4 c5 c6 c7 he
      go_upto_region 22 with fail
      refine wp_region_held_drew (S := (fun u => (u.cell? ⟨g, i * 4, none⟩ = some (.int .i64 e.t) ∧ u.cell? ⟨g, i * 4 + 1, none⟩ = some (.int .i64 e.k) ∧ u.cell? ⟨g, i * 4 + 2, none⟩ = some (.int .i64 e.o) ∧ u.cell? ⟨g, i * 4 + 3, none⟩ = some (.int .i64 e.v)) ∧ u.cell? ⟨g2, i * 4, none⟩ = some (.int .i64 e.t) ∧ u.cell? ⟨g2, i * 4 + 1, none⟩ = some (.int .i64 e.k) ∧ u.cell? ⟨g2, i * 4 + 2, none⟩ = some (.int .i64 e.o) ∧ u.cell? ⟨g2, i * 4 + 3, none⟩ = some (.int .i64 e.v))) (by kernel_rfl) hS0.out (fun hHeld => ?_)
      refine tk 0 hHeld ?_
      refine tk 1 hHeld ?_
      refine tk 2 hHeld ?_
      refine tk 3 hHeld ?_
      refine tk 4 hHeld ?_
      refine tk 5 hHeld ?_
      refine tk 6 hHeld ?_
      refine tk 7 hHeld ?_
      refine rd 8 (fun K hK => ?_)
      go_simp
      go_at_call 20
      refine hLE.mono ?_
      rintro e9 w8 ⟨rfl, hb8⟩
      replace hb8 : Below wr.heap.size wr w8 := hd.trans hb8
      have hq := hide (HC.out w8 hb8)
      replace hb8 := hide hb8
      go_wp2_with fail
      refine hK.out _ _ hq.out (fun hHeld => ?_)
      clear hK K
      try simp only [Act.put, sq]
      refine tk 9 hHeld ?_
      refine wpAnyH_done (by kernel_rfl) ?_ _
      clear hHeld hS0 hd hLE
      obtain ⟨h5, hE, hRv, hbr, -, -, -, -⟩ := HJ.out
      have HF := hide (⟨h5, (fun k e hk he => (hE k e (by omega) he).below hb8.out), (fun k e he => (hRv k e he).below hb8.out), hbr.trans (hb8.out.mono hbr.size)⟩ : _ ∧ (∀ k e, i + 1 ≤ k → evs[k]? = some e → EvQ w8 _ 0 k e) ∧ (∀ k e, evs[k]? = some e → RvQ w8 _ k e) ∧ _)
      clear h5 hE hRv hbr HJ HC hq hb8
      have hwi := hwi.out
      go_wp2_with fail
      go_roundw
      case rel =>
       (try rw [hwi])
       exact ⟨i + 1, HF.out.1, rfl, HF.out.2.1, HF.out.2.2.1, HF.out.2.2.2⟩
      case measure =>
       (try rw [hwi])
       exact Nat.sub_lt_sub_left HF.out.1 (Nat.lt_succ_self i)
     ·have hil : evs.length = i := by omega
      subst hil
      have hAl := HA.out wr hbr
      have HBf := hide hbr
      clear hi h5 hE hRv hbr HA
      go_wp2_with fail
      refine hAl.mono ?_
      rintro e w10 ⟨rfl, hb10⟩
      have HN := hide (HBf.out.trans (hb10.mono HBf.out.size))
      clear hAl hb10 HBf
      go_wp2_with fail
      go_ret
      exact ⟨rfl, HN.out⟩
end Go.Proofs.YtcfpedjfofpnkaaGreatDoor
