import Derived.Test.YtcfpedjfofpnkaaGreatDoorRu5
import Derived.Test.YtcfpedjfofpnkaaGreatDoorRuT3
import Derived.Test.YtcfpedjfofpnkaaGreatDoorRuT4
import Derived.Test.YtcfpedjfofpnkaaGreatDoorRuT5
import Derived.Test.YtcfpedjfofpnkaaGreatDoorRuT6
import Derived.Test.YtcfpedjfofpnkaaGreatDoorRuT7
set_option linter.unusedVariables false
set_option linter.unusedSimpArgs false
namespace Go.Proofs.YtcfpedjfofpnkaaGreatDoor
open Go.RowKit Go.Shelf Go.Proofs.Cod
theorem SRow.keepT {w w' : World} {lo hi x T : Nat} {a : Option Addr} {l : List Int} {cs : Array Value} (h : SRow w lo hi a l) (hh : hi ≤ w.heap.size) (hx : w.heap[x]? = some (.cells cs T)) (hne : T ≠ 3) (hk : KeepS (fun k => k = x) w w') : SRow w' lo hi a l := by
 rcases h with h | ⟨b, N, f, e, h1, h2, hf, h3, h4⟩
 ·exact .inl h
 ·refine .inr ⟨b, N, f, e, h1, h2, ?_, h3, h4⟩
  obtain ⟨cs', q1, q2⟩ := hf
  refine ⟨cs', (hk.block b (by omega) ?_).trans q1, q2⟩
  intro e'
  have e' : b = x := e'
  rw [e', hx] at q1
  injection q1 with q1
  injection q1 with _ q1
  exact hne q1
theorem Rows6.keepT {w w' : World} {lo p1 p2 p3 p4 p5 p6 x T : Nat} {b0 b1 b2 b3 b4 b5 : Option Addr} {l0 l1 l2 l3 l4 l5 : List Int} {cs : Array Value} (h : Rows6 w lo b0 b1 b2 b3 b4 b5 l0 l1 l2 l3 l4 l5 p1 p2 p3 p4 p5 p6) (hx : w.heap[x]? = some (.cells cs T)) (hne : T ≠ 3) (hk : KeepS (fun k => k = x) w w') : Rows6 w' lo b0 b1 b2 b3 b4 b5 l0 l1 l2 l3 l4 l5 p1 p2 p3 p4 p5 p6 := by
 have hz := hk.size
 obtain ⟨r0, r1, r2, r3, r4, r5, hle⟩ := h
 obtain ⟨q1, q2, q3, q4, q5, q6, q7⟩ := hle
 exact ⟨r0.keepT (by omega) hx hne hk, r1.keepT (by omega) hx hne hk, r2.keepT (by omega) hx hne hk, r3.keepT (by omega) hx hne hk, r4.keepT (by omega) hx hne hk, r5.keepT (by omega) hx hne hk, ⟨q1, q2, q3, q4, q5, q6, by omega⟩⟩
theorem steps_at {nv nf nl : Nat} {C : List (List In7)} {s : MS} (hf : PFit nv nf nl C) (hM : MOk nv nf nl C s) (l : List Int) (i : Nat) :
 Sim (playM false C s (l.take i)).1 (playM true C s (l.take i)).1 ∧ MOk nv nf nl C (playM false C s (l.take i)).1 ∧ MOk nv nf nl C (playM true C s (l.take i)).1 :=
 ⟨(Sim.play hf (Sim.refl s) hM _).1, play_ok false hf hM _, play_ok true hf hM _⟩
theorem steps_next {nv nf nl : Nat} {C : List (List In7)} {s m m' : MS} (hf : PFit nv nf nl C) {l : List Int} {i : Nat} (hi : i < l.length) (h1 : (playM false C s (l.take i)).1 = m) (h2 : (playM true C s (l.take i)).1 = m') (hs : Sim m m') (hM : MOk nv nf nl C m) {t : Int} (ht : l.getD i 0 = t) :
 (playM false C s (l.take (i + 1))).1 = (trn C m t).1 ∧ (playM true C s (l.take (i + 1))).1 = (if canM C m t = 0 then (goM true C m' t).1 else m') ∧ canM C m' t = canM C m t ∧ (canM C m t = 0 → (goM true C m' t).2 = (trn C m t).2) := by
 have hc := hs.can hM t
 refine ⟨?_, ?_, hc, fun e => ?_⟩
 ·rw [play_take false C s l hi, ht, pl_trn]
  show (trn C _ t).1 = _
  rw [h1]
 ·rw [play_take true C s l hi, ht]
  unfold plM
  rw [h2, hc]
  split
  ·rfl
  ·exact h2
 ·obtain ⟨u, rfl, hu, hp, hw, hx⟩ := can_info hf hM e
  unfold trn
  rw [if_pos e]
  unfold goM
  rw [Int.toNat_natCast, hs.th (t := u) (by omega)]
  exact (hs.step (by rw [hM.tl]; exact hu) hp _ hw).1
def RQ (w : World) (a : Option Addr) (lo n : Nat) : Prop := ∀ k, k < n → ∃ (g : Nat) (cs : Array Value), a = some ⟨g, 0, none⟩ ∧ lo ≤ g ∧ w.heap[g]? = some (.cells cs 3) ∧ n ≤ cs.size
theorem rq_of {w : World} {lo n c : Nat} {a : Option Addr} {l : List Int} (hn : l.length = n) (h : w.ownsRow lo 3 1 (.slice a n c) l.length (l.map intV)) : RQ w a lo n := fun k hk => by
 rcases h.2 with ⟨q, q'⟩ | ⟨g', cap', cur, q, q4, q5, q6, q7, q8, q9⟩
 ·injection q with q q2 _
  omega
 ·injection q with q _ _
  subst q
  exact ⟨g', cur, rfl, q4, q5, by omega⟩
theorem RQ.below {w w' : World} {lo n : Nat} {a : Option Addr} (h : RQ w a lo n) (hb : Below w.heap.size w w') : RQ w' a lo n := fun k hk => by
 obtain ⟨g, cs, e, h1, h2, h3⟩ := h k hk
 exact ⟨g, cs, e, h1, (hb.block g (Array.getElem?_eq_some_iff.1 h2).1).trans h2, h3⟩
theorem RQ.set {w : World} {lo n g k : Nat} (h : RQ w (some ⟨g, 0, none⟩) lo n) (hk : k < n) (v : Value) : RQ (w.setCell ⟨g, k, none⟩ v) (some ⟨g, 0, none⟩) lo n := fun j hj => by
 obtain ⟨g', cs, e, h1, h2, h3⟩ := h j hj
 injection e with e
 injection e with e _ _
 subst e
 exact ⟨g, _, rfl, h1, heap_setCell_same w g k _ _ v h2, by rw [Array.size_setIfInBounds]; exact h3⟩
set_option maxRecDepth 100000 in
set_option maxHeartbeats 8000000 in
theorem runSteps_any (t : Tx) {w : World} {B : Nat} (ht : Tabs w B) (hB : B ≤ w.heap.size) {a : Option Addr} {n cap : Nat} {l : List Int} (hn : l.length = n) (hl : Is w a l) (hn1 : n ≤ 9223372036854775807) :
 Calls Tryz.prog 3 #[.string (bs t), .slice a n cap] w fun e w' => e = .returned (.bool true) ∧ Below w.heap.size w w' := by
 have hL := load_any t ht hB
 have HA := hide (fun (w' : World) (hb : Below w.heap.size w w') => alive_any (ht.keep (hb.mono hB)) (by have := hb.size; omega))
 have HT := hide (⟨ht, hl, hn, hn1⟩ : _ ∧ _ ∧ _ ∧ _)
 clear ht hl hn hn1
 go_enter Tryz.func3, Tryz.ntmps3
 go_wp2_with fail
 refine hL.mono ?_
 clear hL
 rintro e w1 ⟨hb1, (rfl | ⟨s, C, vV, fV, lV, thV, L, qv, qf, ql, qt, P, TV, he, rfl, hPW, hLn, hQ, hp1, hp2, hp3, hp4, hpC⟩)⟩
 ·have hB2 : ∀ o1 o2, Below w.heap.size w ((w1.alloc o1).alloc o2) := fun o1 o2 => (hb1.alloc hb1.size o1).alloc (by show w.heap.size ≤ (w1.heap.push o1).size; have := hb1.size; simp; omega) o2
  have hAl := HA.out _ (hB2 (.cells #[.slice none 0 0, .slice none 0 0, .slice none 0 0, .slice none 0 0] 26) (.cells #[.slice none 0 0, .slice none 0 0, .slice none 0 0, .slice none 0 0] 29))
  have HB2 := hide (hB2 (.cells #[.slice none 0 0, .slice none 0 0, .slice none 0 0, .slice none 0 0] 26) (.cells #[.slice none 0 0, .slice none 0 0, .slice none 0 0, .slice none 0 0] 29))
  unfold nilV
  clear hb1 hB2 HA HT
  go_wp2_with fail
  refine hAl.mono ?_
  rintro e w2 ⟨rfl, hb2⟩
  have HN := hide (HB2.out.trans (hb2.mono HB2.out.size))
  clear hAl hb2 HB2
  go_wp2_with fail
  go_ret
  exact ⟨rfl, HN.out⟩
 ·obtain ⟨nv, nf, nl, nt, va, fa, la, ta, vc, fc, lc, tc, x1, x2, x3, x4, z1, z2, z3, z4, rfl, rfl, rfl, rfl, rfl, rfl, rfl, rfl, hTw⟩ := two_of he hPW hLn hQ hp1 hp2 hp3 hp4 hpC
  clear he hPW hLn hQ hp1 hp2 hp3 hp4 hpC
  obtain ⟨vs, hvs⟩ : ∃ x, s.nms 118 = x := ⟨_, rfl⟩
  obtain ⟨fs, hfs⟩ : ∃ x, s.nms 102 = x := ⟨_, rfl⟩
  obtain ⟨ls, hls⟩ : ∃ x, s.nms 109 = x := ⟨_, rfl⟩
  rw [hvs, hfs, hls] at hTw
  clear hvs hfs hls s
  obtain ⟨W2, hW2⟩ : ∃ W2, (w1.alloc (.cells #[.slice va nv vc, .slice fa nf fc, .slice la nl lc, .slice ta nt tc] 26)).alloc (.cells #[.slice x1 nv z1, .slice x2 nf z2, .slice x3 nl z3, .slice x4 nt z4] 29) = W2 := ⟨_, rfl⟩
  obtain ⟨hb2, k1, k2, hz2⟩ := two_new _ _ _ hW2
  obtain ⟨ht, hl, hn, hn1⟩ := HT.out
  have hB2 := hb1.trans (hb2.mono hb1.size)
  have hT2 := hTw.below hb2
  have hfit := hT2.pfit
  have h4 := hT2.four
  have hok0 : MOk nv nf nl C (newM nv nf nl nt) := by
   have := newM_ok nv nf nl C
   rw [hT2.cl] at this
   exact this
  obtain ⟨nr, hnr⟩ : ∃ q, nt * 4 = q := ⟨_, rfl⟩
  have hNew := new_any hT2.prog hT2.b
  rw [hT2.lv, hT2.lf, hT2.ll, hT2.lt] at hNew
  have hcl : Hid (∀ u, Below W2.heap.size W2 u → (u.cell? ⟨w1.heap.size + 1, 0, none⟩ = some (.slice x1 nv z1) ∧ u.cell? ⟨w1.heap.size + 1, 1, none⟩ = some (.slice x2 nf z2) ∧ u.cell? ⟨w1.heap.size + 1, 2, none⟩ = some (.slice x3 nl z3) ∧ u.cell? ⟨w1.heap.size + 1, 3, none⟩ = some (.slice x4 nt z4))) := fun u hu => four_cells ((hu.block _ (by omega)).trans k2)
  obtain ⟨q0, q1, q2, q3⟩ := four_cells k1
  have HK := hide (⟨hT2, ht, ⟨hl, hn, hn1⟩, hB2, hok0, hfit, h4, hnr⟩ : _ ∧ _ ∧ (_ ∧ _ ∧ _) ∧ _ ∧ _ ∧ _ ∧ _ ∧ _)
  replace hW2 := hide hW2
  clear hTw hb1 hb2 k1 k2 hz2 ht hl hn hn1 hB2 hT2 hfit h4 hok0 hnr HT
  go_upto_region 4 with fail
  rw [hW2.out]
  clear hW2
  go_wp2_with fail
  refine hNew.mono ?_
  rintro e w3 ⟨b, rfl, hbl, hM3, hb3⟩
  clear hNew q0 q1 q2 q3
  obtain ⟨r0, r1, r2, r3⟩ := hcl.out w3 hb3
  have hBg := rbegin_rows (nv := nv) (nf := nf) (nl := nl) (nt := nt) (nr := nr) (x1 := x1) (x2 := x2) (x3 := x3) (x4 := x4) (z1 := z1) (z2 := z2) (z3 := z3) (z4 := z4) w3 HK.out.2.2.2.2.2.2.1.1 HK.out.2.2.2.2.2.2.1.2.1 HK.out.2.2.2.2.2.2.1.2.2.1 HK.out.2.2.2.2.2.2.1.2.2.2 HK.out.2.2.2.2.2.2.2
  have HM := hide (⟨hbl, hM3, hb3⟩ : _ ∧ _ ∧ _)
  clear hbl hM3 hb3
  unfold ptrV
  go_wp2_with fail
  refine hBg.mono ?_
  rintro e w4 ⟨a0, a1, a2, a3, a4, a5, ⟨c0, c1, c2, c3, c4, c5, rfl⟩, ⟨lo, hlo, p1, p2, p3, p4, p5, p6, hrw⟩, -, hb4⟩
  obtain ⟨W4, hW4⟩ : ∃ W4, w4.alloc (.cells #[.slice a0 nv c0, .slice a1 nf c1, .slice a2 nl c2, .slice a3 nt c3, .slice a4 nt c4, .slice a5 nr c5] 36) = W4 := ⟨_, rfl⟩
  have hbb : Below w4.heap.size w4 W4 := by rw [← hW4]; exact (Below.refl _ _).alloc (Nat.le_refl _) _
  have ks4 : W4.heap[w4.heap.size]? = some (.cells #[.slice a0 nv c0, .slice a1 nf c1, .slice a2 nl c2, .slice a3 nt c3, .slice a4 nt c4, .slice a5 nr c5] 36) := by rw [← hW4]; exact World.alloc_heap_new w4 _
  obtain ⟨hbl, hM3, hb3⟩ := HM.out
  have hB4 : Below W2.heap.size W2 W4 := (hb3.trans (hb4.mono hb3.size)).trans (hbb.mono (hb3.trans (hb4.mono hb3.size)).size)
  have hM4 := (hM3.below hb4).below hbb
  have hle := hrw.le
  have hrw4 : DRows W4 lo a0 a1 a2 a3 a4 a5 (newM nv nf nl nt) p1 p2 p3 p4 p5 p6 := Rows6.keep hrw (fun b q1 q2 => hbb.block b (by omega)) hbb.size
  obtain ⟨sS, hsS⟩ : ∃ sS, w4.heap.size = sS := ⟨_, rfl⟩
  rw [hsS] at ks4
  have hsl : W2.heap.size ≤ sS := by rw [← hsS]; exact (hb3.trans (hb4.mono hb3.size)).size
  have H1 := hide (⟨⟨a0, a1, a2, a3, a4, a5, c0, c1, c2, c3, c4, c5, ks4, ⟨lo, p1, p2, p3, p4, p5, p6, hrw4⟩⟩, hM4, hB4⟩ : (∃ a0 a1 a2 a3 a4 a5 c0 c1 c2 c3 c4 c5, W4.heap[sS]? = some (.cells #[.slice a0 nv c0, .slice a1 nf c1, .slice a2 nl c2, .slice a3 nt c3, .slice a4 nt c4, .slice a5 nr c5] 36) ∧ (∃ lo p1 p2 p3 p4 p5 p6, DRows W4 lo a0 a1 a2 a3 a4 a5 (playM true C (newM nv nf nl nt) (l.take 0)).1 p1 p2 p3 p4 p5 p6)) ∧ MachW W4 b (pdOf vs fs ls L C) (playM false C (newM nv nf nl nt) (l.take 0)).1 ∧ Below W2.heap.size W2 W4)
  replace hsl := hide hsl
  replace hbl := hide hbl
  clear hBg r0 r1 r2 r3 hlo hrw hb4 hbb ks4 hM3 hb3 hB4 hM4 hle hrw4 HM
  replace hsS := hide hsS
  go_upto_region 8 with fail
  try rw [hW4]
  try rw [hsS.out]
  clear hW4 hsS
  go_wp2_with fail
  go_loopw [10] (fun iv wr => ∃ i : Nat, i ≤ n ∧ iv = .int .i64 i ∧ (∃ a0 a1 a2 a3 a4 a5 c0 c1 c2 c3 c4 c5, wr.heap[sS]? = some (.cells #[.slice a0 nv c0, .slice a1 nf c1, .slice a2 nl c2, .slice a3 nt c3, .slice a4 nt c4, .slice a5 nr c5] 36) ∧ (∃ lo p1 p2 p3 p4 p5 p6, DRows wr lo a0 a1 a2 a3 a4 a5 (playM true C (newM nv nf nl nt) (l.take i)).1 p1 p2 p3 p4 p5 p6)) ∧ MachW wr b (pdOf vs fs ls L C) (playM false C (newM nv nf nl nt) (l.take i)).1 ∧ Below W2.heap.size W2 wr) (fun iv _ => n + 1 - (intOf iv).toNat)
  case atStart => exact ⟨0, Nat.zero_le _, rfl, H1.out⟩
  case round =>
   rename World => U
   obtain ⟨i, hi, rfl, ⟨a0, a1, a2, a3, a4, a5, c0, c1, c2, c3, c4, c5, ks, ⟨lo, p1, p2, p3, p4, p5, p6, hrw⟩⟩, hM, hBU⟩ := hrel
   clear H1
   obtain ⟨hT2, ht, ⟨hl, hn, hn1⟩, hB2, hok0, hfit, h4, hnr⟩ := HK.out
   obtain ⟨hSim, hokm, hokm'⟩ := steps_at hfit hok0 l i
   obtain ⟨m, hm⟩ : ∃ x, (playM false C (newM nv nf nl nt) (l.take i)).1 = x := ⟨_, rfl⟩
   obtain ⟨m', hm'⟩ : ∃ x, (playM true C (newM nv nf nl nt) (l.take i)).1 = x := ⟨_, rfl⟩
   rw [hm] at hM hSim hokm
   rw [hm'] at hrw hSim hokm'
   have hokP : MOkP (pdOf vs fs ls L C) m := by
    have q := hokm
    rw [← hT2.lv, ← hT2.lf, ← hT2.ll] at q
    exact q
   have hTU := hT2.below hBU
   have hD : DocS U a0 a1 a2 a3 a4 a5 nv nf nl nt nr m' := hrw.doc hokm'.vl hokm'.fl hokm'.ll (hokm'.tl.trans hTU.cl) hnr (R4_of hokm')
   have hRd := ready_any hM hTU.fit hokP
   have hsr := Sim.ready hSim hokm
   have HSS : Hid (∀ u, Below U.heap.size U u → (u.cell? ⟨w1.heap.size + 1, 0, none⟩ = some (.slice x1 nv z1) ∧ u.cell? ⟨w1.heap.size + 1, 1, none⟩ = some (.slice x2 nf z2) ∧ u.cell? ⟨w1.heap.size + 1, 2, none⟩ = some (.slice x3 nl z3) ∧ u.cell? ⟨w1.heap.size + 1, 3, none⟩ = some (.slice x4 nt z4)) ∧ (u.cell? ⟨sS, 0, none⟩ = some (.slice a0 nv c0) ∧ u.cell? ⟨sS, 1, none⟩ = some (.slice a1 nf c1) ∧ u.cell? ⟨sS, 2, none⟩ = some (.slice a2 nl c2) ∧ u.cell? ⟨sS, 3, none⟩ = some (.slice a3 nt c3) ∧ u.cell? ⟨sS, 4, none⟩ = some (.slice a4 nt c4) ∧ u.cell? ⟨sS, 5, none⟩ = some (.slice a5 nr c5))) := fun u hu => ⟨hcl.out u (hBU.trans (hu.mono hBU.size)), six_cells ((hu.block sS (Array.getElem?_eq_some_iff.1 ks).1).trans ks)⟩
   have hle : (i : Int) ≤ (n : Int) := by omega
   obtain ⟨rl, hrl⟩ : ∃ x, readyM C m = x := ⟨_, rfl⟩
   have hrlen : rl.length ≤ 4 := by
    rw [← hrl]
    have h2 : (readyM C m).length ≤ m.thr.length := by
     unfold readyM readyTo
     rw [List.length_map]
     refine Nat.le_trans (List.length_filter_le _ _) ?_
     rw [List.length_range]
     exact Nat.le_refl _
    have := hokm.tl
    have := hTU.cl
    omega
   have hRd : Calls Tryz.prog 11 #[ptrV b] U fun e w' => ∃ v, e = .returned v ∧ w'.ownsRow U.heap.size 3 1 v rl.length (rl.map intV) ∧ Below U.heap.size U w' := by
    rw [← hrl]; exact hRd
   have HR := hide (fun u (hu : Below U.heap.size U u) => rready_any (c0 := c0) (c1 := c1) (c2 := c2) (c3 := c3) (c4 := c4) (c5 := c5) (hTU.doc.below hu) hTU.pt (hD.below hu) (by rw [hTU.code]; exact hokm') (by rw [hTU.code]; exact hfit))
   rw [hTU.code, hsr, hrl] at HR
   have HSh := hide (fun u (hu : Below U.heap.size U u) => show_any (B0 := B) (hM.below hu) hTU.fit hokP hTU.n8 (ht.keep ((hB2.trans ((hBU.trans (hu.mono hBU.size)).mono hB2.size)).mono hB)) (by have := hu.size; have := hBU.size; have := hB2.size; omega))
   have HRS := hide (fun u (hu : Below U.heap.size U u) => rshow_any (B := B) (c0 := c0) (c1 := c1) (c2 := c2) (c3 := c3) (c4 := c4) (c5 := c5) (ht.keep ((hB2.trans ((hBU.trans (hu.mono hBU.size)).mono hB2.size)).mono hB)) (by have := hu.size; have := hBU.size; have := hB2.size; omega) (hTU.doc.below hu) hTU.pt hTU.pv hTU.pf hTU.pl (hD.below hu) (by rw [hTU.code]; exact hokm') (by rw [hTU.pd]; exact hTU.fit) (by rw [hTU.pd]; exact hTU.n8))
   rw [hTU.pd, Sim.show hSim] at HRS
   obtain ⟨shv, hshv⟩ : ∃ x, showM (pdOf vs fs ls L C) m = x := ⟨_, rfl⟩
   rw [hshv] at HRS HSh
   have HJ := hide (⟨hi, ⟨ks, ⟨lo, p1, p2, p3, p4, p5, p6, hrw⟩⟩, hM, hBU, hm, hm', hSim, hokm, hokm', hokP⟩ : _ ∧ (_ ∧ (∃ lo p1 p2 p3 p4 p5 p6, DRows U lo a0 a1 a2 a3 a4 a5 m' p1 p2 p3 p4 p5 p6)) ∧ _ ∧ _ ∧ _ ∧ _ ∧ _ ∧ _ ∧ _ ∧ _)
   clear ks hrw hM hBU hT2 ht hl hn hn1 hB2 hok0 hfit h4 hnr hSim hokm hokm' hm hm' hokP hTU hD hsr hrl hshv hi lo p1 p2 p3 p4 p5 p6
   replace hrlen := hide hrlen
   unfold ptrV at hRd
   go_wp2_with fail
   refine hRd.mono ?_
   rintro e w5 ⟨v, rfl, hrow5, hb5⟩
   clear hRd
   obtain ⟨ra, rc, rfl⟩ := owns_len hrow5
   have hRd2 := HR.out w5 hb5
   obtain ⟨⟨q0, q1, q2, q3⟩, s0, s1, s2, s3, s4, s5⟩ := HSS.out w5 hb5
   have H5 := hide (⟨hrow5, hb5⟩ : _ ∧ _)
   clear HR hrow5 hb5
   go_wp2_with fail
   refine hRd2.mono ?_
   rintro e w6 ⟨v, rfl, hrow6, hb6⟩
   clear hRd2 q0 q1 q2 q3 s0 s1 s2 s3 s4 s5
   obtain ⟨ra2, rc2, rfl⟩ := owns_len hrow6
   obtain ⟨hrow5, hb5⟩ := H5.out
   have hs5 : SRow w5 U.heap.size w5.heap.size ra rl := by
    obtain ⟨a', c', e', hs'⟩ := SRow.of hrow5
    have e'' : ra = a' := by injection e'
    rw [e'']
    exact hs'
   have hs6 : SRow w6 w5.heap.size w6.heap.size ra2 rl := by
    obtain ⟨a', c', e', hs'⟩ := SRow.of hrow6
    have e'' : ra2 = a' := by injection e'
    rw [e'']
    exact hs'
   have hLI := lints_any (ca := rc) (cb := rc2) (hs5.is.below hb6) hs6.is rfl (by have := hrlen.out; omega)
   have H6 := hide (⟨(rq_of rfl hrow5).below hb6, hb5.trans (hb6.mono hb5.size)⟩ : _ ∧ _)
   clear H5 hrow5 hb5 hs5 hs6 hrow6 hb6
   obtain ⟨rn, hrn⟩ : ∃ x, rl.length = x := ⟨_, rfl⟩
   rw [hrn] at hLI H6 hrlen ⊢
   clear hrn
   go_wp2_with fail
   refine hLI.mono ?_
   rintro e w7 ⟨rfl, hb7⟩
   have H7 := hide (⟨H6.out.1.below hb7, H6.out.2.trans (hb7.mono H6.out.2.size)⟩ : _ ∧ _)
   clear hLI H6 hb7
   have hd : Below U.heap.size U w7.drew := H7.out.2.trans ⟨rfl, rfl, rfl, Nat.le_refl _, fun _ _ => rfl⟩
   have hS0 := hide (HSS.out w7.drew hd)
   replace hd := hide hd
   go_upto_region 13 with fail
   go_cut [57] (fun p57 wx => p57 = .bool false ∧ Below w7.heap.size w7 wx)
   case first =>
    refine wp_region_held_drew (S := (fun u => (u.cell? ⟨w1.heap.size + 1, 0, none⟩ = some (.slice x1 nv z1) ∧ u.cell? ⟨w1.heap.size + 1, 1, none⟩ = some (.slice x2 nf z2) ∧ u.cell? ⟨w1.heap.size + 1, 2, none⟩ = some (.slice x3 nl z3) ∧ u.cell? ⟨w1.heap.size + 1, 3, none⟩ = some (.slice x4 nt z4)) ∧ (u.cell? ⟨sS, 0, none⟩ = some (.slice a0 nv c0) ∧ u.cell? ⟨sS, 1, none⟩ = some (.slice a1 nf c1) ∧ u.cell? ⟨sS, 2, none⟩ = some (.slice a2 nl c2) ∧ u.cell? ⟨sS, 3, none⟩ = some (.slice a3 nt c3) ∧ u.cell? ⟨sS, 4, none⟩ = some (.slice a4 nt c4) ∧ u.cell? ⟨sS, 5, none⟩ = some (.slice a5 nr c5)))) (by kernel_rfl) hS0.out (fun hHeld => ?_)
    refine tk 0 hHeld ?_
    refine tk 1 hHeld ?_
    refine tk 2 hHeld ?_
    refine tk 3 hHeld ?_
    refine tk 5 hHeld ?_
    refine tk 6 hHeld ?_
    refine rd 4 (fun K hK => ?_)
    go_simp
    go_at_call 14
    have hC := HSh.out _ hd.out
    unfold ptrV at hC
    refine hC.mono ?_
    rintro e y1 ⟨rfl, hxy1⟩
    clear hC
    have hby1 : Hid (Below U.heap.size U y1) := hd.out.trans (hxy1.mono hd.out.size)
    replace hxy1 := hide hxy1
    have hq := hide (HSS.out y1 hby1.out)
    go_wp2_with fail
    refine hK.out _ _ hq.out (fun hHeld => ?_)
    clear hK K hq
    try simp only [Act.put, sq]
    refine rd 7 (fun K hK => ?_)
    go_simp
    go_at_call 15
    have hC := HRS.out _ hby1.out
    refine hC.mono ?_
    rintro e y2 ⟨rfl, hxy2⟩
    clear hC
    have hby2 : Hid (Below U.heap.size U y2) := hby1.out.trans (hxy2.mono hby1.out.size)
    replace hxy2 := hide hxy2
    have hq := hide (HSS.out y2 hby2.out)
    go_wp2_with fail
    refine hK.out _ _ hq.out (fun hHeld => ?_)
    clear hK K hq
    try simp only [Act.put, sq]
    refine tk 8 hHeld ?_
    refine tk 9 hHeld ?_
    refine wpAnyH_done (by kernel_rfl) ?_ _
    clear hHeld
    have HX : Hid (Below w7.heap.size w7 y2) := by
     have q : Below w7.heap.size w7 w7.drew := ⟨rfl, rfl, rfl, Nat.le_refl _, fun _ _ => rfl⟩
     have q1 : Below w7.heap.size w7 y1 := q.trans hxy1.out
     exact q1.trans (hxy2.out.mono q1.size)
    go_wp2_with fail
    go_meet
    exact ⟨rfl, HX.out⟩
   case rest =>
    obtain ⟨rfl, hbc⟩ := hcut
    have H8 := hide (⟨H7.out.1.below hbc, H7.out.2.trans (hbc.mono H7.out.2.size)⟩ : _ ∧ _)
    clear H7 hbc hS0 hd HSh HRS
    go_wp2_with fail
    go_loopw [13] (fun kv wr => ∃ k : Nat, k ≤ rn ∧ kv = .int .i64 k ∧ RQ wr ra U.heap.size rn ∧ Below U.heap.size U wr) (fun kv _ => rn - (intOf kv).toNat)
    case atStart => exact ⟨0, Nat.zero_le _, rfl, H8.out.1, H8.out.2⟩
    case round =>
     obtain ⟨k, hk, rfl, hRQ, hbr⟩ := hrel
     clear H8
     by_cases h5 : k < rn
     ·obtain ⟨g, cs, e1, hg, hgc, hsz⟩ := hRQ k h5
      subst e1
      obtain ⟨cv, hcv⟩ : ∃ x, wr.cell? ⟨g, k, none⟩ = some x := by
       simp only [World.cell?, hgc]
       exact ⟨_, Array.getElem?_eq_getElem (by omega)⟩
      have hfz := free_block hgc k
      have hlt : (k : Int) < (rn : Int) := by omega
      have hwk : wrap64 ((k : Int) + 1) = (k : Int) + 1 := wrap_lt (by have := hrlen.out; omega)
      have HF := hide (⟨h5, hRQ.set h5 (.int .i64 (-1)), hbr.setCell (p := ⟨g, k, none⟩) hg (.int .i64 (-1))⟩ : _ ∧ _ ∧ _)
      clear hk h5 hRQ hbr hg hgc hsz
      go_wp2_with fail
      go_roundw
      case rel =>
       (try rw [hwk])
       exact ⟨k + 1, HF.out.1, rfl, HF.out.2.1, HF.out.2.2⟩
      case measure =>
       (try rw [hwk])
       exact Nat.sub_lt_sub_left HF.out.1 (Nat.lt_succ_self k)
     ·have hkl : rn = k := by omega
      subst hkl
      clear hk h5 hRQ
      rename World => V
      obtain ⟨hi, ⟨ks, ⟨lo, p1, p2, p3, p4, p5, p6, hrw⟩⟩, hM, hBU, hm, hm', hSim, hokm, hokm', hokP⟩ := HJ.out
      obtain ⟨hT2, ht, ⟨hl, hn, hn1⟩, hB2, hok0, hfit, h4, hnr⟩ := HK.out
      have hBV := hBU.trans (hbr.mono hBU.size)
      by_cases hin : i = n
      ·subst hin
       have hAl := HA.out V (hB2.trans (hBV.mono hB2.size))
       have HB9 := hide (hB2.trans (hBV.mono hB2.size))
       clear hi ks hrw hM hBU hm hm' hSim hokm hokm' hokP hT2 ht hl hn hn1 hB2 hok0 hfit h4 hnr hBV hbr HA
       go_wp2_with fail
       refine hAl.mono ?_
       rintro e w9 ⟨rfl, hb9⟩
       have HN := hide (HB9.out.trans (hb9.mono HB9.out.size))
       clear hAl hb9 HB9
       go_wp2_with fail
       go_ret
       exact ⟨rfl, HN.out⟩
      ·have h5 : i < n := by omega
       have hine : ((i : Int) == (n : Int)) = false := by
        have : (i : Int) ≠ (n : Int) := by omega
        simpa using this
       have hlt : (i : Int) < (n : Int) := by omega
       obtain ⟨lb, lf, e1, hll, cl⟩ := hl i (by omega)
       subst e1
       obtain ⟨tv, htv⟩ : ∃ v, l.getD i 0 = v := ⟨_, rfl⟩
       rw [htv] at cl
       obtain ⟨hnx, hnx', hcan, hgo⟩ := steps_next hfit (by omega) hm hm' hSim hokm htv
       have hTV := hT2.below hBV
       have hMV := hM.below hbr
       have ksV := (hbr.block sS (Array.getElem?_eq_some_iff.1 ks).1).trans ks
       have hle6 := hrw.le
       have hrwV : DRows V lo a0 a1 a2 a3 a4 a5 m' p1 p2 p3 p4 p5 p6 := Rows6.keep hrw (fun b q1 q2 => hbr.block b (by omega)) hbr.size
       have hD : DocS V a0 a1 a2 a3 a4 a5 nv nf nl nt nr m' := hrwV.doc hokm'.vl hokm'.fl hokm'.ll (hokm'.tl.trans hTV.cl) hnr (R4_of hokm')
       have HS3 : Hid (∀ u, Below V.heap.size V u → (u.cell? ⟨w1.heap.size + 1, 0, none⟩ = some (.slice x1 nv z1) ∧ u.cell? ⟨w1.heap.size + 1, 1, none⟩ = some (.slice x2 nf z2) ∧ u.cell? ⟨w1.heap.size + 1, 2, none⟩ = some (.slice x3 nl z3) ∧ u.cell? ⟨w1.heap.size + 1, 3, none⟩ = some (.slice x4 nt z4)) ∧ (u.cell? ⟨sS, 0, none⟩ = some (.slice a0 nv c0) ∧ u.cell? ⟨sS, 1, none⟩ = some (.slice a1 nf c1) ∧ u.cell? ⟨sS, 2, none⟩ = some (.slice a2 nl c2) ∧ u.cell? ⟨sS, 3, none⟩ = some (.slice a3 nt c3) ∧ u.cell? ⟨sS, 4, none⟩ = some (.slice a4 nt c4) ∧ u.cell? ⟨sS, 5, none⟩ = some (.slice a5 nr c5)) ∧ u.cell? ⟨lb, lf + i, none⟩ = some (.int .i64 tv)) := fun u hu => ⟨hcl.out u (hBV.trans (hu.mono hBV.size)), six_cells ((hu.block sS (Array.getElem?_eq_some_iff.1 ksV).1).trans ksV), (hu.cell (p := ⟨lb, lf + i, none⟩) (by show lb < _; have := hBV.size; have := hB2.size; omega)).trans ((hBV.cell (p := ⟨lb, lf + i, none⟩) (by show lb < _; have := hB2.size; omega)).trans ((hB2.cell (p := ⟨lb, lf + i, none⟩) hll).trans cl))⟩
       have hlb : Hid (lb < W2.heap.size) := by have := hB2.size; show lb < _; omega
       have hc2 : Hid (W2.cell? ⟨lb, lf + i, none⟩ = some (.int .i64 tv)) := (hB2.cell (p := ⟨lb, lf + i, none⟩) hll).trans cl
       have hd : Below V.heap.size V V.drew := ⟨rfl, rfl, rfl, Nat.le_refl _, fun _ _ => rfl⟩
       have hCan := can_any (c0 := c0) (c1 := c1) (c2 := c2) (c3 := c3) (c4 := c4) (c5 := c5) (hTV.doc.below hd) hTV.pt (hD.below hd) (by rw [hTV.code]; exact hokm') (by rw [hTV.code]; exact hfit) tv
       rw [hTV.code, hcan] at hCan
       have hwi : wrap64 ((i : Int) + 1) = (i : Int) + 1 := by unfold wrap64; omega
       replace hwi := hide hwi
       have HL := hide (⟨h5, hnx, hnx', hgo, hMV, ksV, ⟨lo, p1, p2, p3, p4, p5, p6, hrwV⟩, hBV, hTV⟩ : _ ∧ _ ∧ _ ∧ _ ∧ _ ∧ _ ∧ (∃ lo p1 p2 p3 p4 p5 p6, DRows V lo a0 a1 a2 a3 a4 a5 m' p1 p2 p3 p4 p5 p6) ∧ _ ∧ _)
       have HP := hide (⟨hokm, hokm', hokP, hfit, h4, hnr, hcan⟩ : _ ∧ _ ∧ _ ∧ _ ∧ _ ∧ _ ∧ _)
       have hS0 := hide (HS3.out V.drew hd)
       obtain ⟨er, her⟩ : ∃ er, canM C m tv = er := ⟨_, rfl⟩
       rw [her] at hCan
       replace her := hide her
       clear hi ks hrw hM hBU hm hm' hSim hokm hokm' hokP hT2 ht hl hn hn1 hB2 hok0 hfit h4 hnr hBV hbr HA HJ h5 hin hll cl htv hnx hnx' hcan hgo hTV hMV ksV hle6 hrwV hD lo p1 p2 p3 p4 p5 p6
       go_upto_region 20 with fail
       refine wp_region_held_drew (S := (fun u => (u.cell? ⟨w1.heap.size + 1, 0, none⟩ = some (.slice x1 nv z1) ∧ u.cell? ⟨w1.heap.size + 1, 1, none⟩ = some (.slice x2 nf z2) ∧ u.cell? ⟨w1.heap.size + 1, 2, none⟩ = some (.slice x3 nl z3) ∧ u.cell? ⟨w1.heap.size + 1, 3, none⟩ = some (.slice x4 nt z4)) ∧ (u.cell? ⟨sS, 0, none⟩ = some (.slice a0 nv c0) ∧ u.cell? ⟨sS, 1, none⟩ = some (.slice a1 nf c1) ∧ u.cell? ⟨sS, 2, none⟩ = some (.slice a2 nl c2) ∧ u.cell? ⟨sS, 3, none⟩ = some (.slice a3 nt c3) ∧ u.cell? ⟨sS, 4, none⟩ = some (.slice a4 nt c4) ∧ u.cell? ⟨sS, 5, none⟩ = some (.slice a5 nr c5)) ∧ u.cell? ⟨lb, lf + i, none⟩ = some (.int .i64 tv))) (by kernel_rfl) hS0.out (fun hHeld => ?_)
       refine tk 0 hHeld ?_
       refine tk 1 hHeld ?_
       refine tk 2 hHeld ?_
       refine tk 3 hHeld ?_
       refine tk 4 hHeld ?_
       refine tk 5 hHeld ?_
       refine rd 6 (fun K hK => ?_)
       go_simp
       go_at_call 16
       refine hCan.mono ?_
       rintro e w9 ⟨rfl, hb9⟩
       replace hb9 : Below V.heap.size V w9 := hd.trans hb9
       have hq := hide (HS3.out w9 hb9)
       replace hb9 := hide hb9
       go_wp2_with fail
       refine hK.out _ _ hq.out (fun hHeld => ?_)
       clear hK K
       try simp only [Act.put, sq]
       refine tk 7 hHeld ?_
       refine wpAnyH_done (by kernel_rfl) ?_ _
       clear hHeld hS0 hCan hd
       obtain ⟨-, -, cl⟩ := hq.out
       obtain ⟨h5, hnx, hnx', hgo, hMV, ksV, ⟨lo, p1, p2, p3, p4, p5, p6, hrwV⟩, hBV, hTV⟩ := HL.out
       obtain ⟨hokm, hokm', hokP, hfit, h4, hnr, hcan⟩ := HP.out
       have hM9 := hMV.below hb9.out
       have hSt := step_any hM9 hTV.fit hokP tv
       have ks9 := (hb9.out.block sS (Array.getElem?_eq_some_iff.1 ksV).1).trans ksV
       have hle6 := hrwV.le
       have hrw9 : DRows w9 lo a0 a1 a2 a3 a4 a5 m' p1 p2 p3 p4 p5 p6 := Rows6.keep hrwV (fun b q1 q2 => hb9.out.block b (by omega)) hb9.out.size
       have HQ := hide (⟨h5, hnx, hnx', hgo, hM9, ks9, ⟨lo, p1, p2, p3, p4, p5, p6, hrw9⟩, hBV.trans (hb9.out.mono hBV.size)⟩ : _ ∧ _ ∧ _ ∧ _ ∧ _ ∧ _ ∧ (∃ lo p1 p2 p3 p4 p5 p6, DRows w9 lo a0 a1 a2 a3 a4 a5 m' p1 p2 p3 p4 p5 p6) ∧ _)
       have hcc : canM (pdOf vs fs ls L C).C m tv = er := her.out
       have htr : trn (pdOf vs fs ls L C).C m tv = trn C m tv := rfl
       unfold StepR at hSt
       rw [hcc, htr] at hSt
       clear HS3 hq h5 hnx hnx' hgo hMV ksV hrwV hBV hTV hokm hokm' hokP hfit h4 hnr hcan hM9 ks9 hle6 hrw9 hcc htr HL hb9 lo p1 p2 p3 p4 p5 p6
       unfold ptrV at hSt
       go_wp2_with fail
       refine hSt.mono ?_
       rintro e wA ⟨rfl, hMA, hkA⟩
       clear hSt cl
       obtain ⟨h5, hnx, hnx', hgo, hM9, ks9, ⟨lo, p1, p2, p3, p4, p5, p6, hrw9⟩, hB9⟩ := HQ.out
       obtain ⟨hokm, hokm', hokP, hfit, h4, hnr, hcan⟩ := HP.out
       obtain ⟨csM, kM, -⟩ := id hM9
       have hneS : sS ≠ b := by
        intro q
        rw [q, kM] at ks9
        injection ks9 with ks9
        injection ks9 with _ ks9
        exact absurd ks9 (by decide)
       have ksA := (hkA.block sS (Array.getElem?_eq_some_iff.1 ks9).1 hneS).trans ks9
       have hrwA : DRows wA lo a0 a1 a2 a3 a4 a5 m' p1 p2 p3 p4 p5 p6 := Rows6.keepT hrw9 kM (by decide) hkA
       have hBA : Below W2.heap.size W2 wA := ⟨hkA.os.trans hB9.os, hkA.tape.trans hB9.tape, hkA.output.trans hB9.output, Nat.le_trans hB9.size hkA.size, fun k hk => (hkA.block k (by have := hB9.size; omega) (by have := hbl.out; omega)).trans (hB9.block k hk)⟩
       obtain ⟨y, hy⟩ : ∃ y, trn C m tv = y := ⟨_, rfl⟩
       rw [hy] at hMA hnx hgo ⊢
       obtain ⟨mn, et, ek, eo, ev⟩ := y
       unfold evC
       dsimp only at hMA hnx hgo ⊢
       obtain ⟨VA, hVA⟩ : ∃ VA, wA.alloc (.cells #[.int .i64 et, .int .i64 ek, .int .i64 eo, .int .i64 ev] 45) = VA := ⟨_, rfl⟩
       have hbA : Below wA.heap.size wA VA := by rw [← hVA]; exact (Below.refl _ _).alloc (Nat.le_refl _) _
       have keA : VA.heap[wA.heap.size]? = some (.cells #[.int .i64 et, .int .i64 ek, .int .i64 eo, .int .i64 ev] 45) := by rw [← hVA]; exact World.alloc_heap_new wA _
       obtain ⟨eS, heS⟩ : ∃ x, wA.heap.size = x := ⟨_, rfl⟩
       have hMB := hMA.below hbA
       have ksB := (hbA.block sS (Array.getElem?_eq_some_iff.1 ksA).1).trans ksA
       have hle6 := hrwA.le
       have hrwB : DRows VA lo a0 a1 a2 a3 a4 a5 m' p1 p2 p3 p4 p5 p6 := Rows6.keep hrwA (fun b q1 q2 => hbA.block b (by omega)) hbA.size
       have hBB := hBA.trans (hbA.mono hBA.size)
       rw [heS] at keA
       have hNum := num_any er VA
       obtain ⟨g0, g1, g2, g3⟩ := four_cells keA
       have HW := hide (⟨h5, hnx, hnx', hgo, hMB, ksB, ⟨lo, p1, p2, p3, p4, p5, p6, hrwB⟩, hBB, keA⟩ : _ ∧ _ ∧ _ ∧ _ ∧ _ ∧ _ ∧ (∃ lo p1 p2 p3 p4 p5 p6, DRows VA lo a0 a1 a2 a3 a4 a5 m' p1 p2 p3 p4 p5 p6) ∧ _ ∧ _)
       have hz0 : er ≠ 0 → et = 0 ∧ ek = 0 ∧ eo = 0 ∧ ev = 0 := fun hz => by
        unfold trn at hy
        rw [her.out, if_neg hz] at hy
        injection hy with _ hy
        injection hy with q1 q2 q3 q4
        exact ⟨q1.symm, q2.symm, q3.symm, q4.symm⟩
       have hmz : er ≠ 0 → m = mn := fun hz => by
        unfold trn at hy
        rw [her.out, if_neg hz] at hy
        injection hy
       replace hmz := hide hmz
       replace hVA := hide hVA
       replace heS := hide heS
       clear h5 hnx hnx' hgo hM9 ks9 hrw9 hB9 hokm hokm' hokP hfit h4 hnr hcan kM hneS ksA hrwA hBA hbA keA hMB ksB hle6 hrwB hBB hMA hkA hy HQ lo p1 p2 p3 p4 p5 p6
       go_upto_region 22 with fail
       try rw [hVA.out]
       try rw [heS.out]
       clear hVA heS
       by_cases hz : er = 0
       ·subst hz
        clear hz0 hmz
        go_wp2_with fail
        refine hNum.mono ?_
        rintro e wN ⟨rfl, hwN⟩
        replace hwN := hwN.symm
        subst hwN
        clear hNum
        have hwi := hwi.out
        replace hwi := hide hwi
        obtain ⟨h5, hnx, hnx', hgo, hMB, ksB, ⟨lo, p1, p2, p3, p4, p5, p6, hrwB⟩, hBB, keA⟩ := HW.out
        obtain ⟨hokm, hokm', hokP, hfit, h4, hnr, hcan⟩ := HP.out
        have hc0 : canM C m' tv = 0 := by rw [hcan]; exact her.out
        obtain ⟨tn, htn, hlt2, hph, -, -⟩ := can_info hfit hokm' hc0
        subst htn
        have hT2 := HK.out.1
        have hTB := hT2.below hBB
        have hDB : DocS VA a0 a1 a2 a3 a4 a5 nv nf nl nt nr m' := hrwB.doc hokm'.vl hokm'.fl hokm'.ll (hokm'.tl.trans hTB.cl) hnr (R4_of hokm')
        have hSt := hide (fun u (hu : Below VA.heap.size VA u) => rstep_any (c0 := c0) (c1 := c1) (c2 := c2) (c3 := c3) (c4 := c4) (c5 := c5) (hTB.doc.below hu) hTB.pt (hDB.below hu) h4.1 h4.2.1 h4.2.2.1 (by rw [hTB.code]; exact hokm') (by rw [hTB.code]; exact hfit) (t := tn) (by have := hTB.cl; omega) hph)
        rw [hTB.code] at hSt
        obtain ⟨m1, hm1⟩ : ∃ q, (goM true C m' tn).1 = q := ⟨_, rfl⟩
        obtain ⟨e1, he1⟩ : ∃ q, (goM true C m' tn).2 = q := ⟨_, rfl⟩
        simp only [hm1, he1] at hSt
        rw [her.out, if_pos rfl, hm1] at hnx'
        replace hgo := hgo her.out
        rw [he1] at hgo
        have hclo : Hid (∀ u, Below VA.heap.size VA u → (u.cell? ⟨w1.heap.size + 1, 0, none⟩ = some (.slice x1 nv z1) ∧ u.cell? ⟨w1.heap.size + 1, 1, none⟩ = some (.slice x2 nf z2) ∧ u.cell? ⟨w1.heap.size + 1, 2, none⟩ = some (.slice x3 nl z3) ∧ u.cell? ⟨w1.heap.size + 1, 3, none⟩ = some (.slice x4 nt z4)) ∧ (u.cell? ⟨sS, 0, none⟩ = some (.slice a0 nv c0) ∧ u.cell? ⟨sS, 1, none⟩ = some (.slice a1 nf c1) ∧ u.cell? ⟨sS, 2, none⟩ = some (.slice a2 nl c2) ∧ u.cell? ⟨sS, 3, none⟩ = some (.slice a3 nt c3) ∧ u.cell? ⟨sS, 4, none⟩ = some (.slice a4 nt c4) ∧ u.cell? ⟨sS, 5, none⟩ = some (.slice a5 nr c5)) ∧ u.cell? ⟨lb, lf + i, none⟩ = some (.int .i64 (tn : Int))) := fun u hu => ⟨hcl.out u (hBB.trans (hu.mono hBB.size)), six_cells ((hu.block sS (Array.getElem?_eq_some_iff.1 ksB).1).trans ksB), (hu.cell (p := ⟨lb, lf + i, none⟩) (by show lb < _; have := hBB.size; have := hlb.out; omega)).trans ((hBB.cell (p := ⟨lb, lf + i, none⟩) (by show lb < _; have := hlb.out; omega)).trans hc2.out)⟩
        have hd : Below VA.heap.size VA VA.drew := ⟨rfl, rfl, rfl, Nat.le_refl _, fun _ _ => rfl⟩
        have hS1 := hide (hclo.out VA.drew hd)
        have hok1 : MOk nv nf nl C m1 := by
         have q := pl_ok true hfit (x := (m', ([] : List Ev))) hokm' (tn : Int)
         unfold plM at q
         dsimp only at q
         rw [hc0, if_pos rfl, hm1] at q
         exact q
        have HN := hide (⟨h5, hnx, hnx', hgo, hMB, ksB, hBB, keA, hok1⟩ : _ ∧ _ ∧ _ ∧ _ ∧ _ ∧ _ ∧ _ ∧ _ ∧ _)
        clear h5 hnx hnx' hgo hMB ksB hrwB hBB keA hokm hokm' hokP hfit h4 hnr hcan hc0 hlt2 hph hT2 hTB hDB hm1 he1 hok1 HW lo p1 p2 p3 p4 p5 p6 g0 g1 g2 g3 hlb hc2
        go_upto_region 25 with fail
        go_cut [17, 18] (fun p9 p10 wx => ∃ sa se b0 b1 b2 b3 b4 b5 d0 d1 d2 d3 d4 d5, p9 = .pointer (some ⟨sa, 0, none⟩) ∧ p10 = .pointer (some ⟨se, 0, none⟩) ∧ wx.heap[sa]? = some (.cells #[.slice b0 nv d0, .slice b1 nf d1, .slice b2 nl d2, .slice b3 nt d3, .slice b4 nt d4, .slice b5 nr d5] 36) ∧ wx.heap[se]? = some (.cells #[.int .i64 e1.t, .int .i64 e1.k, .int .i64 e1.o, .int .i64 e1.v] 50) ∧ VA.heap.size ≤ sa ∧ VA.heap.size ≤ se ∧ (∃ lo, VA.heap.size ≤ lo ∧ ∃ p1 p2 p3 p4 p5 p6, DRows wx lo b0 b1 b2 b3 b4 b5 m1 p1 p2 p3 p4 p5 p6) ∧ Below VA.heap.size VA wx)
        case first =>
         refine wp_region_held_drew (S := (fun u => (u.cell? ⟨w1.heap.size + 1, 0, none⟩ = some (.slice x1 nv z1) ∧ u.cell? ⟨w1.heap.size + 1, 1, none⟩ = some (.slice x2 nf z2) ∧ u.cell? ⟨w1.heap.size + 1, 2, none⟩ = some (.slice x3 nl z3) ∧ u.cell? ⟨w1.heap.size + 1, 3, none⟩ = some (.slice x4 nt z4)) ∧ (u.cell? ⟨sS, 0, none⟩ = some (.slice a0 nv c0) ∧ u.cell? ⟨sS, 1, none⟩ = some (.slice a1 nf c1) ∧ u.cell? ⟨sS, 2, none⟩ = some (.slice a2 nl c2) ∧ u.cell? ⟨sS, 3, none⟩ = some (.slice a3 nt c3) ∧ u.cell? ⟨sS, 4, none⟩ = some (.slice a4 nt c4) ∧ u.cell? ⟨sS, 5, none⟩ = some (.slice a5 nr c5)) ∧ u.cell? ⟨lb, lf + i, none⟩ = some (.int .i64 (tn : Int)))) (by kernel_rfl) hS1.out (fun hHeld => ?_)
         refine tk 0 hHeld ?_
         refine tk 1 hHeld ?_
         refine tk 2 hHeld ?_
         refine tk 3 hHeld ?_
         refine tk 4 hHeld ?_
         refine tk 5 hHeld ?_
         refine wpAnyH_ready (rs := [6, 10, 11]) (by kernel_rfl) (by simp) ?_
         refine AllReadyH.cons rfl (fun K hK => ?_) (AllReadyH.cons rfl (fun K hK => ?_) (AllReadyH.cons rfl (fun K hK => ?_) AllReadyH.nil))
         ·go_simp
          go_at_call 19
          refine (hSt.out _ hd).mono ?_
          rintro e vc ⟨b0, b1, b2, b3, b4, b5, ⟨d0, d1, d2, d3, d4, d5, rfl⟩, hrows, -, hxc⟩
          replace hrows := hide hrows
          have hbc : Hid (Below VA.heap.size VA vc) := hd.trans (hxc.mono hd.size)
          replace hxc := hide hxc
          have hq := hide (hclo.out vc hbc.out)
          go_wp2_with fail
          refine hK.out _ _ hq.out (fun hHeld => ?_)
          clear hK K hq
          try simp only [Act.put, sq]
          refine tk 7 hHeld ?_
          refine tk 8 hHeld ?_
          refine tk 9 hHeld ?_
          refine wpAnyH_ready (rs := [10, 11]) (by kernel_rfl) (by simp) ?_
          refine AllReadyH.cons rfl (fun K hK => ?_) (AllReadyH.cons rfl (fun K hK => ?_) AllReadyH.nil)
          ·go_simp
           obtain ⟨vA, hvA⟩ : ∃ A, vc.alloc (.cells #[.slice none 0 0, .slice none 0 0, .slice none 0 0, .slice none 0 0, .slice none 0 0, .slice none 0 0] 36) = A := ⟨_, rfl⟩
           have hxA : Hid (Below vc.heap.size vc vA) := by rw [← hvA]; exact (Below.refl _ _).alloc (Nat.le_refl _) _
           have hkA : Hid (vA.heap[vc.heap.size]? = some (.cells #[.slice none 0 0, .slice none 0 0, .slice none 0 0, .slice none 0 0, .slice none 0 0, .slice none 0 0] 36)) := by rw [← hvA]; exact World.alloc_heap_new vc _
           have hbA : Hid (Below VA.heap.size VA vA) := hbc.out.trans (hxA.out.mono hbc.out.size)
           try rw [hvA]
           clear hvA
           refine hK.out _ _ (hclo.out vA hbA.out) (fun hHeld => ?_)
           clear hK K
           try simp only [Act.put, sq]
           refine rd 11 (fun K hK => ?_)
           go_simp
           obtain ⟨vE, hvE⟩ : ∃ A, vA.alloc (.cells #[.int .i64 0, .int .i64 0, .int .i64 0, .int .i64 0] 50) = A := ⟨_, rfl⟩
           have hxE : Hid (Below vA.heap.size vA vE) := by rw [← hvE]; exact (Below.refl _ _).alloc (Nat.le_refl _) _
           have hkE : Hid (vE.heap[vA.heap.size]? = some (.cells #[.int .i64 0, .int .i64 0, .int .i64 0, .int .i64 0] 50)) := by rw [← hvE]; exact World.alloc_heap_new vA _
           have hbE : Hid (Below VA.heap.size VA vE) := hbA.out.trans (hxE.out.mono hbA.out.size)
           try rw [hvE]
           clear hvE
           refine hK.out _ _ (hclo.out vE hbE.out) (fun hHeld => ?_)
           clear hK K
           try simp only [Act.put, sq]
           have zz0 := hxc.out.size
           have zz1 := hxA.out.size
           have zz2 := hxE.out.size
           have zU : VA.drew.heap.size = VA.heap.size := rfl
           have hlA := (Array.getElem?_eq_some_iff.1 hkA.out).1
           have hlE := (Array.getElem?_eq_some_iff.1 hkE.out).1
           have kA : vE.heap[vc.heap.size]? = some (.cells #[.slice none 0 0, .slice none 0 0, .slice none 0 0, .slice none 0 0, .slice none 0 0, .slice none 0 0] 36) := ((hxE.out.block _ (by omega)).trans hkA.out)
           have kE : vE.heap[vA.heap.size]? = some (.cells #[.int .i64 0, .int .i64 0, .int .i64 0, .int .i64 0] 50) := hkE.out
           obtain ⟨lo, hlo, p1, p2, p3, p4, p5, p6, hrw⟩ := hrows.out
           have hle := hrw.le
           have hrX : DRows vE lo b0 b1 b2 b3 b4 b5 m1 p1 p2 p3 p4 p5 p6 := (Rows6.keep (Rows6.keep hrw (fun b q1 q2 => hxA.out.block b (by omega)) hxA.out.size) (fun b q1 q2 => hxE.out.block b (by omega)) hxE.out.size)
           obtain ⟨Z1, Z2, hZ1, hZ2, hk1, hk2, kE1, kA2, kE2⟩ := fin_facts (.slice b0 nv d0) (.slice b1 nf d1) (.slice b2 nl d2) (.slice b3 nt d3) (.slice b4 nt d4) (.slice b5 nr d5) (.int .i64 e1.t) (.int .i64 e1.k) (.int .i64 e1.o) (.int .i64 e1.v) kA kE (by omega)
           have zk1 := hk1.size
           have zk2 := hk2.size
           have hB1 : Below VA.heap.size VA Z1 := ⟨hk1.os.trans hbE.out.os, hk1.tape.trans hbE.out.tape, hk1.output.trans hbE.out.output, Nat.le_trans hbE.out.size hk1.size, fun k hk => (hk1.block k (by have := hbE.out.size; omega) (by omega)).trans (hbE.out.block k hk)⟩
           have hB2 : Below VA.heap.size VA Z2 := ⟨hk2.os.trans hbE.out.os, hk2.tape.trans hbE.out.tape, hk2.output.trans hbE.out.output, Nat.le_trans hbE.out.size hk2.size, fun k hk => (hk2.block k (by have := hbE.out.size; omega) (by omega)).trans (hbE.out.block k hk)⟩
           have hrZ : DRows Z2 lo b0 b1 b2 b3 b4 b5 m1 p1 p2 p3 p4 p5 p6 := hrX.keep (fun b q1 q2 => hk2.block b (by omega) (by omega)) hk2.size
           refine rd 12 (fun K hK => ?_)
           refine wp_store_sub _ _ _ rfl vc.heap.size 0 #[.slice b0 nv d0, .slice b1 nf d1, .slice b2 nl d2, .slice b3 nt d3, .slice b4 nt d4, .slice b5 nr d5] rfl rfl (some6 kA) (fun j _ => free_block kA _) Tryz.sizeSt one6 ?_
           rw [show (#[Value.slice b0 nv d0, .slice b1 nf d1, .slice b2 nl d2, .slice b3 nt d3, .slice b4 nt d4, .slice b5 nr d5] : Array Value).toList = [.slice b0 nv d0, .slice b1 nf d1, .slice b2 nl d2, .slice b3 nt d3, .slice b4 nt d4, .slice b5 nr d5] from rfl, hZ1]
           refine hK.out _ _ (hclo.out Z1 hB1) (fun hHeld => ?_)
           clear hK K
           try simp only [Act.put, sq]
           refine rd 13 (fun K hK => ?_)
           refine wp_store_sub _ _ _ rfl vA.heap.size 0 #[.int .i64 e1.t, .int .i64 e1.k, .int .i64 e1.o, .int .i64 e1.v] rfl rfl (some4 kE1) (fun j _ => free_block kE1 _) Tryz.sizeRe one_ev ?_
           rw [show (#[Value.int .i64 e1.t, .int .i64 e1.k, .int .i64 e1.o, .int .i64 e1.v] : Array Value).toList = [.int .i64 e1.t, .int .i64 e1.k, .int .i64 e1.o, .int .i64 e1.v] from rfl, hZ2]
           refine hK.out _ _ (hclo.out Z2 hB2) (fun hHeld => ?_)
           clear hK K
           try simp only [Act.put, sq]
           refine wpAnyH_done (by kernel_rfl) ?_ _
           have HF := hide (⟨kA2, kE2, (show VA.heap.size ≤ vc.heap.size by omega), (show VA.heap.size ≤ vA.heap.size by omega), ⟨(show VA.heap.size ≤ lo by omega), hrZ⟩, hB2⟩ : _ ∧ _ ∧ _ ∧ _ ∧ (_ ∧ _) ∧ _)
           clear hHeld kA kE hle hrX hrw hlo hk1 hk2 kE1 kA2 kE2 zk1 zk2 hB1 hB2 hrZ hZ1 hZ2 hlA hlE zU zz0 zz1 zz2
           go_wp2_with fail
           go_meet
           exact ⟨_, _, _, _, _, _, _, _, _, _, _, _, _, _, rfl, rfl, HF.out.1, HF.out.2.1, HF.out.2.2.1, HF.out.2.2.2.1, ⟨lo, HF.out.2.2.2.2.1.1, p1, p2, p3, p4, p5, p6, HF.out.2.2.2.2.1.2⟩, HF.out.2.2.2.2.2⟩
          ·go_simp
           obtain ⟨vE, hvE⟩ : ∃ A, vc.alloc (.cells #[.int .i64 0, .int .i64 0, .int .i64 0, .int .i64 0] 50) = A := ⟨_, rfl⟩
           have hxE : Hid (Below vc.heap.size vc vE) := by rw [← hvE]; exact (Below.refl _ _).alloc (Nat.le_refl _) _
           have hkE : Hid (vE.heap[vc.heap.size]? = some (.cells #[.int .i64 0, .int .i64 0, .int .i64 0, .int .i64 0] 50)) := by rw [← hvE]; exact World.alloc_heap_new vc _
           have hbE : Hid (Below VA.heap.size VA vE) := hbc.out.trans (hxE.out.mono hbc.out.size)
           try rw [hvE]
           clear hvE
           refine hK.out _ _ (hclo.out vE hbE.out) (fun hHeld => ?_)
           clear hK K
           try simp only [Act.put, sq]
           refine rd 10 (fun K hK => ?_)
           go_simp
           obtain ⟨vA, hvA⟩ : ∃ A, vE.alloc (.cells #[.slice none 0 0, .slice none 0 0, .slice none 0 0, .slice none 0 0, .slice none 0 0, .slice none 0 0] 36) = A := ⟨_, rfl⟩
           have hxA : Hid (Below vE.heap.size vE vA) := by rw [← hvA]; exact (Below.refl _ _).alloc (Nat.le_refl _) _
           have hkA : Hid (vA.heap[vE.heap.size]? = some (.cells #[.slice none 0 0, .slice none 0 0, .slice none 0 0, .slice none 0 0, .slice none 0 0, .slice none 0 0] 36)) := by rw [← hvA]; exact World.alloc_heap_new vE _
           have hbA : Hid (Below VA.heap.size VA vA) := hbE.out.trans (hxA.out.mono hbE.out.size)
           try rw [hvA]
           clear hvA
           refine hK.out _ _ (hclo.out vA hbA.out) (fun hHeld => ?_)
           clear hK K
           try simp only [Act.put, sq]
           have zz0 := hxc.out.size
           have zz1 := hxE.out.size
           have zz2 := hxA.out.size
           have zU : VA.drew.heap.size = VA.heap.size := rfl
           have hlA := (Array.getElem?_eq_some_iff.1 hkA.out).1
           have hlE := (Array.getElem?_eq_some_iff.1 hkE.out).1
           have kA : vA.heap[vE.heap.size]? = some (.cells #[.slice none 0 0, .slice none 0 0, .slice none 0 0, .slice none 0 0, .slice none 0 0, .slice none 0 0] 36) := hkA.out
           have kE : vA.heap[vc.heap.size]? = some (.cells #[.int .i64 0, .int .i64 0, .int .i64 0, .int .i64 0] 50) := ((hxA.out.block _ (by omega)).trans hkE.out)
           obtain ⟨lo, hlo, p1, p2, p3, p4, p5, p6, hrw⟩ := hrows.out
           have hle := hrw.le
           have hrX : DRows vA lo b0 b1 b2 b3 b4 b5 m1 p1 p2 p3 p4 p5 p6 := (Rows6.keep (Rows6.keep hrw (fun b q1 q2 => hxE.out.block b (by omega)) hxE.out.size) (fun b q1 q2 => hxA.out.block b (by omega)) hxA.out.size)
           obtain ⟨Z1, Z2, hZ1, hZ2, hk1, hk2, kE1, kA2, kE2⟩ := fin_facts (.slice b0 nv d0) (.slice b1 nf d1) (.slice b2 nl d2) (.slice b3 nt d3) (.slice b4 nt d4) (.slice b5 nr d5) (.int .i64 e1.t) (.int .i64 e1.k) (.int .i64 e1.o) (.int .i64 e1.v) kA kE (by omega)
           have zk1 := hk1.size
           have zk2 := hk2.size
           have hB1 : Below VA.heap.size VA Z1 := ⟨hk1.os.trans hbA.out.os, hk1.tape.trans hbA.out.tape, hk1.output.trans hbA.out.output, Nat.le_trans hbA.out.size hk1.size, fun k hk => (hk1.block k (by have := hbA.out.size; omega) (by omega)).trans (hbA.out.block k hk)⟩
           have hB2 : Below VA.heap.size VA Z2 := ⟨hk2.os.trans hbA.out.os, hk2.tape.trans hbA.out.tape, hk2.output.trans hbA.out.output, Nat.le_trans hbA.out.size hk2.size, fun k hk => (hk2.block k (by have := hbA.out.size; omega) (by omega)).trans (hbA.out.block k hk)⟩
           have hrZ : DRows Z2 lo b0 b1 b2 b3 b4 b5 m1 p1 p2 p3 p4 p5 p6 := hrX.keep (fun b q1 q2 => hk2.block b (by omega) (by omega)) hk2.size
           refine rd 12 (fun K hK => ?_)
           refine wp_store_sub _ _ _ rfl vE.heap.size 0 #[.slice b0 nv d0, .slice b1 nf d1, .slice b2 nl d2, .slice b3 nt d3, .slice b4 nt d4, .slice b5 nr d5] rfl rfl (some6 kA) (fun j _ => free_block kA _) Tryz.sizeSt one6 ?_
           rw [show (#[Value.slice b0 nv d0, .slice b1 nf d1, .slice b2 nl d2, .slice b3 nt d3, .slice b4 nt d4, .slice b5 nr d5] : Array Value).toList = [.slice b0 nv d0, .slice b1 nf d1, .slice b2 nl d2, .slice b3 nt d3, .slice b4 nt d4, .slice b5 nr d5] from rfl, hZ1]
           refine hK.out _ _ (hclo.out Z1 hB1) (fun hHeld => ?_)
           clear hK K
           try simp only [Act.put, sq]
           refine rd 13 (fun K hK => ?_)
           refine wp_store_sub _ _ _ rfl vc.heap.size 0 #[.int .i64 e1.t, .int .i64 e1.k, .int .i64 e1.o, .int .i64 e1.v] rfl rfl (some4 kE1) (fun j _ => free_block kE1 _) Tryz.sizeRe one_ev ?_
           rw [show (#[Value.int .i64 e1.t, .int .i64 e1.k, .int .i64 e1.o, .int .i64 e1.v] : Array Value).toList = [.int .i64 e1.t, .int .i64 e1.k, .int .i64 e1.o, .int .i64 e1.v] from rfl, hZ2]
           refine hK.out _ _ (hclo.out Z2 hB2) (fun hHeld => ?_)
           clear hK K
           try simp only [Act.put, sq]
           refine wpAnyH_done (by kernel_rfl) ?_ _
           have HF := hide (⟨kA2, kE2, (show VA.heap.size ≤ vE.heap.size by omega), (show VA.heap.size ≤ vc.heap.size by omega), ⟨(show VA.heap.size ≤ lo by omega), hrZ⟩, hB2⟩ : _ ∧ _ ∧ _ ∧ _ ∧ (_ ∧ _) ∧ _)
           clear hHeld kA kE hle hrX hrw hlo hk1 hk2 kE1 kA2 kE2 zk1 zk2 hB1 hB2 hrZ hZ1 hZ2 hlA hlE zU zz0 zz1 zz2
           go_wp2_with fail
           go_meet
           exact ⟨_, _, _, _, _, _, _, _, _, _, _, _, _, _, rfl, rfl, HF.out.1, HF.out.2.1, HF.out.2.2.1, HF.out.2.2.2.1, ⟨lo, HF.out.2.2.2.2.1.1, p1, p2, p3, p4, p5, p6, HF.out.2.2.2.2.1.2⟩, HF.out.2.2.2.2.2⟩
         ·go_simp
          obtain ⟨vA, hvA⟩ : ∃ A, (VA.alloc (.cells #[.slice none 0 0, .slice none 0 0, .slice none 0 0, .slice none 0 0, .slice none 0 0, .slice none 0 0] 36)).drew = A := ⟨_, rfl⟩
          have hq0 : Below VA.heap.size VA vA := by rw [← hvA]; exact ((Below.refl _ _).alloc (Nat.le_refl _) _).drew
          have hxA : Hid (Below VA.drew.heap.size VA.drew vA) := ⟨hq0.os, hq0.tape, hq0.output, hq0.size, hq0.block⟩
          have hkA : Hid (vA.heap[VA.drew.heap.size]? = some (.cells #[.slice none 0 0, .slice none 0 0, .slice none 0 0, .slice none 0 0, .slice none 0 0, .slice none 0 0] 36)) := by rw [← hvA]; exact World.alloc_heap_new VA _
          have hbA : Hid (Below VA.heap.size VA vA) := hq0
          try rw [hvA]
          clear hvA hq0
          refine hK.out _ _ (hclo.out vA hbA.out) (fun hHeld => ?_)
          clear hK K
          try simp only [Act.put, sq]
          refine wpAnyH_ready (rs := [6, 11]) (by kernel_rfl) (by simp) ?_
          refine AllReadyH.cons rfl (fun K hK => ?_) (AllReadyH.cons rfl (fun K hK => ?_) AllReadyH.nil)
          ·go_simp
           go_at_call 19
           refine (hSt.out _ hbA.out).mono ?_
           rintro e vc ⟨b0, b1, b2, b3, b4, b5, ⟨d0, d1, d2, d3, d4, d5, rfl⟩, hrows, -, hxc⟩
           replace hrows := hide hrows
           have hbc : Hid (Below VA.heap.size VA vc) := hbA.out.trans (hxc.mono hbA.out.size)
           replace hxc := hide hxc
           have hq := hide (hclo.out vc hbc.out)
           go_wp2_with fail
           refine hK.out _ _ hq.out (fun hHeld => ?_)
           clear hK K hq
           try simp only [Act.put, sq]
           refine tk 7 hHeld ?_
           refine tk 8 hHeld ?_
           refine tk 9 hHeld ?_
           refine rd 11 (fun K hK => ?_)
           go_simp
           obtain ⟨vE, hvE⟩ : ∃ A, vc.alloc (.cells #[.int .i64 0, .int .i64 0, .int .i64 0, .int .i64 0] 50) = A := ⟨_, rfl⟩
           have hxE : Hid (Below vc.heap.size vc vE) := by rw [← hvE]; exact (Below.refl _ _).alloc (Nat.le_refl _) _
           have hkE : Hid (vE.heap[vc.heap.size]? = some (.cells #[.int .i64 0, .int .i64 0, .int .i64 0, .int .i64 0] 50)) := by rw [← hvE]; exact World.alloc_heap_new vc _
           have hbE : Hid (Below VA.heap.size VA vE) := hbc.out.trans (hxE.out.mono hbc.out.size)
           try rw [hvE]
           clear hvE
           refine hK.out _ _ (hclo.out vE hbE.out) (fun hHeld => ?_)
           clear hK K
           try simp only [Act.put, sq]
           have zz0 := hxA.out.size
           have zz1 := hxc.out.size
           have zz2 := hxE.out.size
           have zU : VA.drew.heap.size = VA.heap.size := rfl
           have hlA := (Array.getElem?_eq_some_iff.1 hkA.out).1
           have hlE := (Array.getElem?_eq_some_iff.1 hkE.out).1
           have kA : vE.heap[VA.drew.heap.size]? = some (.cells #[.slice none 0 0, .slice none 0 0, .slice none 0 0, .slice none 0 0, .slice none 0 0, .slice none 0 0] 36) := ((hxE.out.block _ (by omega)).trans ((hxc.out.block _ (by omega)).trans hkA.out))
           have kE : vE.heap[vc.heap.size]? = some (.cells #[.int .i64 0, .int .i64 0, .int .i64 0, .int .i64 0] 50) := hkE.out
           obtain ⟨lo, hlo, p1, p2, p3, p4, p5, p6, hrw⟩ := hrows.out
           have hle := hrw.le
           have hrX : DRows vE lo b0 b1 b2 b3 b4 b5 m1 p1 p2 p3 p4 p5 p6 := (Rows6.keep hrw (fun b q1 q2 => hxE.out.block b (by omega)) hxE.out.size)
           obtain ⟨Z1, Z2, hZ1, hZ2, hk1, hk2, kE1, kA2, kE2⟩ := fin_facts (.slice b0 nv d0) (.slice b1 nf d1) (.slice b2 nl d2) (.slice b3 nt d3) (.slice b4 nt d4) (.slice b5 nr d5) (.int .i64 e1.t) (.int .i64 e1.k) (.int .i64 e1.o) (.int .i64 e1.v) kA kE (by omega)
           have zk1 := hk1.size
           have zk2 := hk2.size
           have hB1 : Below VA.heap.size VA Z1 := ⟨hk1.os.trans hbE.out.os, hk1.tape.trans hbE.out.tape, hk1.output.trans hbE.out.output, Nat.le_trans hbE.out.size hk1.size, fun k hk => (hk1.block k (by have := hbE.out.size; omega) (by omega)).trans (hbE.out.block k hk)⟩
           have hB2 : Below VA.heap.size VA Z2 := ⟨hk2.os.trans hbE.out.os, hk2.tape.trans hbE.out.tape, hk2.output.trans hbE.out.output, Nat.le_trans hbE.out.size hk2.size, fun k hk => (hk2.block k (by have := hbE.out.size; omega) (by omega)).trans (hbE.out.block k hk)⟩
           have hrZ : DRows Z2 lo b0 b1 b2 b3 b4 b5 m1 p1 p2 p3 p4 p5 p6 := hrX.keep (fun b q1 q2 => hk2.block b (by omega) (by omega)) hk2.size
           refine rd 12 (fun K hK => ?_)
           refine wp_store_sub _ _ _ rfl VA.drew.heap.size 0 #[.slice b0 nv d0, .slice b1 nf d1, .slice b2 nl d2, .slice b3 nt d3, .slice b4 nt d4, .slice b5 nr d5] rfl rfl (some6 kA) (fun j _ => free_block kA _) Tryz.sizeSt one6 ?_
           rw [show (#[Value.slice b0 nv d0, .slice b1 nf d1, .slice b2 nl d2, .slice b3 nt d3, .slice b4 nt d4, .slice b5 nr d5] : Array Value).toList = [.slice b0 nv d0, .slice b1 nf d1, .slice b2 nl d2, .slice b3 nt d3, .slice b4 nt d4, .slice b5 nr d5] from rfl, hZ1]
           refine hK.out _ _ (hclo.out Z1 hB1) (fun hHeld => ?_)
           clear hK K
           try simp only [Act.put, sq]
           refine rd 13 (fun K hK => ?_)
           refine wp_store_sub _ _ _ rfl vc.heap.size 0 #[.int .i64 e1.t, .int .i64 e1.k, .int .i64 e1.o, .int .i64 e1.v] rfl rfl (some4 kE1) (fun j _ => free_block kE1 _) Tryz.sizeRe one_ev ?_
           rw [show (#[Value.int .i64 e1.t, .int .i64 e1.k, .int .i64 e1.o, .int .i64 e1.v] : Array Value).toList = [.int .i64 e1.t, .int .i64 e1.k, .int .i64 e1.o, .int .i64 e1.v] from rfl, hZ2]
           refine hK.out _ _ (hclo.out Z2 hB2) (fun hHeld => ?_)
           clear hK K
           try simp only [Act.put, sq]
           refine wpAnyH_done (by kernel_rfl) ?_ _
           have HF := hide (⟨kA2, kE2, (show VA.heap.size ≤ VA.drew.heap.size by omega), (show VA.heap.size ≤ vc.heap.size by omega), ⟨(show VA.heap.size ≤ lo by omega), hrZ⟩, hB2⟩ : _ ∧ _ ∧ _ ∧ _ ∧ (_ ∧ _) ∧ _)
           clear hHeld kA kE hle hrX hrw hlo hk1 hk2 kE1 kA2 kE2 zk1 zk2 hB1 hB2 hrZ hZ1 hZ2 hlA hlE zU zz0 zz1 zz2
           go_wp2_with fail
           go_meet
           exact ⟨_, _, _, _, _, _, _, _, _, _, _, _, _, _, rfl, rfl, HF.out.1, HF.out.2.1, HF.out.2.2.1, HF.out.2.2.2.1, ⟨lo, HF.out.2.2.2.2.1.1, p1, p2, p3, p4, p5, p6, HF.out.2.2.2.2.1.2⟩, HF.out.2.2.2.2.2⟩
          ·go_simp
           obtain ⟨vE, hvE⟩ : ∃ A, vA.alloc (.cells #[.int .i64 0, .int .i64 0, .int .i64 0, .int .i64 0] 50) = A := ⟨_, rfl⟩
           have hxE : Hid (Below vA.heap.size vA vE) := by rw [← hvE]; exact (Below.refl _ _).alloc (Nat.le_refl _) _
           have hkE : Hid (vE.heap[vA.heap.size]? = some (.cells #[.int .i64 0, .int .i64 0, .int .i64 0, .int .i64 0] 50)) := by rw [← hvE]; exact World.alloc_heap_new vA _
           have hbE : Hid (Below VA.heap.size VA vE) := hbA.out.trans (hxE.out.mono hbA.out.size)
           try rw [hvE]
           clear hvE
           refine hK.out _ _ (hclo.out vE hbE.out) (fun hHeld => ?_)
           clear hK K
           try simp only [Act.put, sq]
           refine rd 6 (fun K hK => ?_)
           go_simp
           go_at_call 19
           refine (hSt.out _ hbE.out).mono ?_
           rintro e vc ⟨b0, b1, b2, b3, b4, b5, ⟨d0, d1, d2, d3, d4, d5, rfl⟩, hrows, -, hxc⟩
           replace hrows := hide hrows
           have hbc : Hid (Below VA.heap.size VA vc) := hbE.out.trans (hxc.mono hbE.out.size)
           replace hxc := hide hxc
           have hq := hide (hclo.out vc hbc.out)
           go_wp2_with fail
           refine hK.out _ _ hq.out (fun hHeld => ?_)
           clear hK K hq
           try simp only [Act.put, sq]
           refine tk 7 hHeld ?_
           refine tk 8 hHeld ?_
           refine tk 9 hHeld ?_
           have zz0 := hxA.out.size
           have zz1 := hxE.out.size
           have zz2 := hxc.out.size
           have zU : VA.drew.heap.size = VA.heap.size := rfl
           have hlA := (Array.getElem?_eq_some_iff.1 hkA.out).1
           have hlE := (Array.getElem?_eq_some_iff.1 hkE.out).1
           have kA : vc.heap[VA.drew.heap.size]? = some (.cells #[.slice none 0 0, .slice none 0 0, .slice none 0 0, .slice none 0 0, .slice none 0 0, .slice none 0 0] 36) := ((hxc.out.block _ (by omega)).trans ((hxE.out.block _ (by omega)).trans hkA.out))
           have kE : vc.heap[vA.heap.size]? = some (.cells #[.int .i64 0, .int .i64 0, .int .i64 0, .int .i64 0] 50) := ((hxc.out.block _ (by omega)).trans hkE.out)
           obtain ⟨lo, hlo, p1, p2, p3, p4, p5, p6, hrw⟩ := hrows.out
           have hle := hrw.le
           have hrX : DRows vc lo b0 b1 b2 b3 b4 b5 m1 p1 p2 p3 p4 p5 p6 := hrw
           obtain ⟨Z1, Z2, hZ1, hZ2, hk1, hk2, kE1, kA2, kE2⟩ := fin_facts (.slice b0 nv d0) (.slice b1 nf d1) (.slice b2 nl d2) (.slice b3 nt d3) (.slice b4 nt d4) (.slice b5 nr d5) (.int .i64 e1.t) (.int .i64 e1.k) (.int .i64 e1.o) (.int .i64 e1.v) kA kE (by omega)
           have zk1 := hk1.size
           have zk2 := hk2.size
           have hB1 : Below VA.heap.size VA Z1 := ⟨hk1.os.trans hbc.out.os, hk1.tape.trans hbc.out.tape, hk1.output.trans hbc.out.output, Nat.le_trans hbc.out.size hk1.size, fun k hk => (hk1.block k (by have := hbc.out.size; omega) (by omega)).trans (hbc.out.block k hk)⟩
           have hB2 : Below VA.heap.size VA Z2 := ⟨hk2.os.trans hbc.out.os, hk2.tape.trans hbc.out.tape, hk2.output.trans hbc.out.output, Nat.le_trans hbc.out.size hk2.size, fun k hk => (hk2.block k (by have := hbc.out.size; omega) (by omega)).trans (hbc.out.block k hk)⟩
           have hrZ : DRows Z2 lo b0 b1 b2 b3 b4 b5 m1 p1 p2 p3 p4 p5 p6 := hrX.keep (fun b q1 q2 => hk2.block b (by omega) (by omega)) hk2.size
           refine rd 12 (fun K hK => ?_)
           refine wp_store_sub _ _ _ rfl VA.drew.heap.size 0 #[.slice b0 nv d0, .slice b1 nf d1, .slice b2 nl d2, .slice b3 nt d3, .slice b4 nt d4, .slice b5 nr d5] rfl rfl (some6 kA) (fun j _ => free_block kA _) Tryz.sizeSt one6 ?_
           rw [show (#[Value.slice b0 nv d0, .slice b1 nf d1, .slice b2 nl d2, .slice b3 nt d3, .slice b4 nt d4, .slice b5 nr d5] : Array Value).toList = [.slice b0 nv d0, .slice b1 nf d1, .slice b2 nl d2, .slice b3 nt d3, .slice b4 nt d4, .slice b5 nr d5] from rfl, hZ1]
           refine hK.out _ _ (hclo.out Z1 hB1) (fun hHeld => ?_)
           clear hK K
           try simp only [Act.put, sq]
           refine rd 13 (fun K hK => ?_)
           refine wp_store_sub _ _ _ rfl vA.heap.size 0 #[.int .i64 e1.t, .int .i64 e1.k, .int .i64 e1.o, .int .i64 e1.v] rfl rfl (some4 kE1) (fun j _ => free_block kE1 _) Tryz.sizeRe one_ev ?_
           rw [show (#[Value.int .i64 e1.t, .int .i64 e1.k, .int .i64 e1.o, .int .i64 e1.v] : Array Value).toList = [.int .i64 e1.t, .int .i64 e1.k, .int .i64 e1.o, .int .i64 e1.v] from rfl, hZ2]
           refine hK.out _ _ (hclo.out Z2 hB2) (fun hHeld => ?_)
           clear hK K
           try simp only [Act.put, sq]
           refine wpAnyH_done (by kernel_rfl) ?_ _
           have HF := hide (⟨kA2, kE2, (show VA.heap.size ≤ VA.drew.heap.size by omega), (show VA.heap.size ≤ vA.heap.size by omega), ⟨(show VA.heap.size ≤ lo by omega), hrZ⟩, hB2⟩ : _ ∧ _ ∧ _ ∧ _ ∧ (_ ∧ _) ∧ _)
           clear hHeld kA kE hle hrX hrw hlo hk1 hk2 kE1 kA2 kE2 zk1 zk2 hB1 hB2 hrZ hZ1 hZ2 hlA hlE zU zz0 zz1 zz2
           go_wp2_with fail
           go_meet
           exact ⟨_, _, _, _, _, _, _, _, _, _, _, _, _, _, rfl, rfl, HF.out.1, HF.out.2.1, HF.out.2.2.1, HF.out.2.2.2.1, ⟨lo, HF.out.2.2.2.2.1.1, p1, p2, p3, p4, p5, p6, HF.out.2.2.2.2.1.2⟩, HF.out.2.2.2.2.2⟩
         ·go_simp
          obtain ⟨vE, hvE⟩ : ∃ A, (VA.alloc (.cells #[.int .i64 0, .int .i64 0, .int .i64 0, .int .i64 0] 50)).drew = A := ⟨_, rfl⟩
          have hq0 : Below VA.heap.size VA vE := by rw [← hvE]; exact ((Below.refl _ _).alloc (Nat.le_refl _) _).drew
          have hxE : Hid (Below VA.drew.heap.size VA.drew vE) := ⟨hq0.os, hq0.tape, hq0.output, hq0.size, hq0.block⟩
          have hkE : Hid (vE.heap[VA.drew.heap.size]? = some (.cells #[.int .i64 0, .int .i64 0, .int .i64 0, .int .i64 0] 50)) := by rw [← hvE]; exact World.alloc_heap_new VA _
          have hbE : Hid (Below VA.heap.size VA vE) := hq0
          try rw [hvE]
          clear hvE hq0
          refine hK.out _ _ (hclo.out vE hbE.out) (fun hHeld => ?_)
          clear hK K
          try simp only [Act.put, sq]
          refine wpAnyH_ready (rs := [6, 10]) (by kernel_rfl) (by simp) ?_
          refine AllReadyH.cons rfl (fun K hK => ?_) (AllReadyH.cons rfl (fun K hK => ?_) AllReadyH.nil)
          ·go_simp
           go_at_call 19
           refine (hSt.out _ hbE.out).mono ?_
           rintro e vc ⟨b0, b1, b2, b3, b4, b5, ⟨d0, d1, d2, d3, d4, d5, rfl⟩, hrows, -, hxc⟩
           replace hrows := hide hrows
           have hbc : Hid (Below VA.heap.size VA vc) := hbE.out.trans (hxc.mono hbE.out.size)
           replace hxc := hide hxc
           have hq := hide (hclo.out vc hbc.out)
           go_wp2_with fail
           refine hK.out _ _ hq.out (fun hHeld => ?_)
           clear hK K hq
           try simp only [Act.put, sq]
           refine tk 7 hHeld ?_
           refine tk 8 hHeld ?_
           refine tk 9 hHeld ?_
           refine rd 10 (fun K hK => ?_)
           go_simp
           obtain ⟨vA, hvA⟩ : ∃ A, vc.alloc (.cells #[.slice none 0 0, .slice none 0 0, .slice none 0 0, .slice none 0 0, .slice none 0 0, .slice none 0 0] 36) = A := ⟨_, rfl⟩
           have hxA : Hid (Below vc.heap.size vc vA) := by rw [← hvA]; exact (Below.refl _ _).alloc (Nat.le_refl _) _
           have hkA : Hid (vA.heap[vc.heap.size]? = some (.cells #[.slice none 0 0, .slice none 0 0, .slice none 0 0, .slice none 0 0, .slice none 0 0, .slice none 0 0] 36)) := by rw [← hvA]; exact World.alloc_heap_new vc _
           have hbA : Hid (Below VA.heap.size VA vA) := hbc.out.trans (hxA.out.mono hbc.out.size)
           try rw [hvA]
           clear hvA
           refine hK.out _ _ (hclo.out vA hbA.out) (fun hHeld => ?_)
           clear hK K
           try simp only [Act.put, sq]
           have zz0 := hxE.out.size
           have zz1 := hxc.out.size
           have zz2 := hxA.out.size
           have zU : VA.drew.heap.size = VA.heap.size := rfl
           have hlA := (Array.getElem?_eq_some_iff.1 hkA.out).1
           have hlE := (Array.getElem?_eq_some_iff.1 hkE.out).1
           have kA : vA.heap[vc.heap.size]? = some (.cells #[.slice none 0 0, .slice none 0 0, .slice none 0 0, .slice none 0 0, .slice none 0 0, .slice none 0 0] 36) := hkA.out
           have kE : vA.heap[VA.drew.heap.size]? = some (.cells #[.int .i64 0, .int .i64 0, .int .i64 0, .int .i64 0] 50) := ((hxA.out.block _ (by omega)).trans ((hxc.out.block _ (by omega)).trans hkE.out))
           obtain ⟨lo, hlo, p1, p2, p3, p4, p5, p6, hrw⟩ := hrows.out
           have hle := hrw.le
           have hrX : DRows vA lo b0 b1 b2 b3 b4 b5 m1 p1 p2 p3 p4 p5 p6 := (Rows6.keep hrw (fun b q1 q2 => hxA.out.block b (by omega)) hxA.out.size)
           obtain ⟨Z1, Z2, hZ1, hZ2, hk1, hk2, kE1, kA2, kE2⟩ := fin_facts (.slice b0 nv d0) (.slice b1 nf d1) (.slice b2 nl d2) (.slice b3 nt d3) (.slice b4 nt d4) (.slice b5 nr d5) (.int .i64 e1.t) (.int .i64 e1.k) (.int .i64 e1.o) (.int .i64 e1.v) kA kE (by omega)
           have zk1 := hk1.size
           have zk2 := hk2.size
           have hB1 : Below VA.heap.size VA Z1 := ⟨hk1.os.trans hbA.out.os, hk1.tape.trans hbA.out.tape, hk1.output.trans hbA.out.output, Nat.le_trans hbA.out.size hk1.size, fun k hk => (hk1.block k (by have := hbA.out.size; omega) (by omega)).trans (hbA.out.block k hk)⟩
           have hB2 : Below VA.heap.size VA Z2 := ⟨hk2.os.trans hbA.out.os, hk2.tape.trans hbA.out.tape, hk2.output.trans hbA.out.output, Nat.le_trans hbA.out.size hk2.size, fun k hk => (hk2.block k (by have := hbA.out.size; omega) (by omega)).trans (hbA.out.block k hk)⟩
           have hrZ : DRows Z2 lo b0 b1 b2 b3 b4 b5 m1 p1 p2 p3 p4 p5 p6 := hrX.keep (fun b q1 q2 => hk2.block b (by omega) (by omega)) hk2.size
           refine rd 12 (fun K hK => ?_)
           refine wp_store_sub _ _ _ rfl vc.heap.size 0 #[.slice b0 nv d0, .slice b1 nf d1, .slice b2 nl d2, .slice b3 nt d3, .slice b4 nt d4, .slice b5 nr d5] rfl rfl (some6 kA) (fun j _ => free_block kA _) Tryz.sizeSt one6 ?_
           rw [show (#[Value.slice b0 nv d0, .slice b1 nf d1, .slice b2 nl d2, .slice b3 nt d3, .slice b4 nt d4, .slice b5 nr d5] : Array Value).toList = [.slice b0 nv d0, .slice b1 nf d1, .slice b2 nl d2, .slice b3 nt d3, .slice b4 nt d4, .slice b5 nr d5] from rfl, hZ1]
           refine hK.out _ _ (hclo.out Z1 hB1) (fun hHeld => ?_)
           clear hK K
           try simp only [Act.put, sq]
           refine rd 13 (fun K hK => ?_)
           refine wp_store_sub _ _ _ rfl VA.drew.heap.size 0 #[.int .i64 e1.t, .int .i64 e1.k, .int .i64 e1.o, .int .i64 e1.v] rfl rfl (some4 kE1) (fun j _ => free_block kE1 _) Tryz.sizeRe one_ev ?_
           rw [show (#[Value.int .i64 e1.t, .int .i64 e1.k, .int .i64 e1.o, .int .i64 e1.v] : Array Value).toList = [.int .i64 e1.t, .int .i64 e1.k, .int .i64 e1.o, .int .i64 e1.v] from rfl, hZ2]
           refine hK.out _ _ (hclo.out Z2 hB2) (fun hHeld => ?_)
           clear hK K
           try simp only [Act.put, sq]
           refine wpAnyH_done (by kernel_rfl) ?_ _
           have HF := hide (⟨kA2, kE2, (show VA.heap.size ≤ vc.heap.size by omega), (show VA.heap.size ≤ VA.drew.heap.size by omega), ⟨(show VA.heap.size ≤ lo by omega), hrZ⟩, hB2⟩ : _ ∧ _ ∧ _ ∧ _ ∧ (_ ∧ _) ∧ _)
           clear hHeld kA kE hle hrX hrw hlo hk1 hk2 kE1 kA2 kE2 zk1 zk2 hB1 hB2 hrZ hZ1 hZ2 hlA hlE zU zz0 zz1 zz2
           go_wp2_with fail
           go_meet
           exact ⟨_, _, _, _, _, _, _, _, _, _, _, _, _, _, rfl, rfl, HF.out.1, HF.out.2.1, HF.out.2.2.1, HF.out.2.2.2.1, ⟨lo, HF.out.2.2.2.2.1.1, p1, p2, p3, p4, p5, p6, HF.out.2.2.2.2.1.2⟩, HF.out.2.2.2.2.2⟩
          ·go_simp
           obtain ⟨vA, hvA⟩ : ∃ A, vE.alloc (.cells #[.slice none 0 0, .slice none 0 0, .slice none 0 0, .slice none 0 0, .slice none 0 0, .slice none 0 0] 36) = A := ⟨_, rfl⟩
           have hxA : Hid (Below vE.heap.size vE vA) := by rw [← hvA]; exact (Below.refl _ _).alloc (Nat.le_refl _) _
           have hkA : Hid (vA.heap[vE.heap.size]? = some (.cells #[.slice none 0 0, .slice none 0 0, .slice none 0 0, .slice none 0 0, .slice none 0 0, .slice none 0 0] 36)) := by rw [← hvA]; exact World.alloc_heap_new vE _
           have hbA : Hid (Below VA.heap.size VA vA) := hbE.out.trans (hxA.out.mono hbE.out.size)
           try rw [hvA]
           clear hvA
           refine hK.out _ _ (hclo.out vA hbA.out) (fun hHeld => ?_)
           clear hK K
           try simp only [Act.put, sq]
           refine rd 6 (fun K hK => ?_)
           go_simp
           go_at_call 19
           refine (hSt.out _ hbA.out).mono ?_
           rintro e vc ⟨b0, b1, b2, b3, b4, b5, ⟨d0, d1, d2, d3, d4, d5, rfl⟩, hrows, -, hxc⟩
           replace hrows := hide hrows
           have hbc : Hid (Below VA.heap.size VA vc) := hbA.out.trans (hxc.mono hbA.out.size)
           replace hxc := hide hxc
           have hq := hide (hclo.out vc hbc.out)
           go_wp2_with fail
           refine hK.out _ _ hq.out (fun hHeld => ?_)
           clear hK K hq
           try simp only [Act.put, sq]
           refine tk 7 hHeld ?_
           refine tk 8 hHeld ?_
           refine tk 9 hHeld ?_
           have zz0 := hxE.out.size
           have zz1 := hxA.out.size
           have zz2 := hxc.out.size
           have zU : VA.drew.heap.size = VA.heap.size := rfl
           have hlA := (Array.getElem?_eq_some_iff.1 hkA.out).1
           have hlE := (Array.getElem?_eq_some_iff.1 hkE.out).1
           have kA : vc.heap[vE.heap.size]? = some (.cells #[.slice none 0 0, .slice none 0 0, .slice none 0 0, .slice none 0 0, .slice none 0 0, .slice none 0 0] 36) := ((hxc.out.block _ (by omega)).trans hkA.out)
           have kE : vc.heap[VA.drew.heap.size]? = some (.cells #[.int .i64 0, .int .i64 0, .int .i64 0, .int .i64 0] 50) := ((hxc.out.block _ (by omega)).trans ((hxA.out.block _ (by omega)).trans hkE.out))
           obtain ⟨lo, hlo, p1, p2, p3, p4, p5, p6, hrw⟩ := hrows.out
           have hle := hrw.le
           have hrX : DRows vc lo b0 b1 b2 b3 b4 b5 m1 p1 p2 p3 p4 p5 p6 := hrw
           obtain ⟨Z1, Z2, hZ1, hZ2, hk1, hk2, kE1, kA2, kE2⟩ := fin_facts (.slice b0 nv d0) (.slice b1 nf d1) (.slice b2 nl d2) (.slice b3 nt d3) (.slice b4 nt d4) (.slice b5 nr d5) (.int .i64 e1.t) (.int .i64 e1.k) (.int .i64 e1.o) (.int .i64 e1.v) kA kE (by omega)
           have zk1 := hk1.size
           have zk2 := hk2.size
           have hB1 : Below VA.heap.size VA Z1 := ⟨hk1.os.trans hbc.out.os, hk1.tape.trans hbc.out.tape, hk1.output.trans hbc.out.output, Nat.le_trans hbc.out.size hk1.size, fun k hk => (hk1.block k (by have := hbc.out.size; omega) (by omega)).trans (hbc.out.block k hk)⟩
           have hB2 : Below VA.heap.size VA Z2 := ⟨hk2.os.trans hbc.out.os, hk2.tape.trans hbc.out.tape, hk2.output.trans hbc.out.output, Nat.le_trans hbc.out.size hk2.size, fun k hk => (hk2.block k (by have := hbc.out.size; omega) (by omega)).trans (hbc.out.block k hk)⟩
           have hrZ : DRows Z2 lo b0 b1 b2 b3 b4 b5 m1 p1 p2 p3 p4 p5 p6 := hrX.keep (fun b q1 q2 => hk2.block b (by omega) (by omega)) hk2.size
           refine rd 12 (fun K hK => ?_)
           refine wp_store_sub _ _ _ rfl vE.heap.size 0 #[.slice b0 nv d0, .slice b1 nf d1, .slice b2 nl d2, .slice b3 nt d3, .slice b4 nt d4, .slice b5 nr d5] rfl rfl (some6 kA) (fun j _ => free_block kA _) Tryz.sizeSt one6 ?_
           rw [show (#[Value.slice b0 nv d0, .slice b1 nf d1, .slice b2 nl d2, .slice b3 nt d3, .slice b4 nt d4, .slice b5 nr d5] : Array Value).toList = [.slice b0 nv d0, .slice b1 nf d1, .slice b2 nl d2, .slice b3 nt d3, .slice b4 nt d4, .slice b5 nr d5] from rfl, hZ1]
           refine hK.out _ _ (hclo.out Z1 hB1) (fun hHeld => ?_)
           clear hK K
           try simp only [Act.put, sq]
           refine rd 13 (fun K hK => ?_)
           refine wp_store_sub _ _ _ rfl VA.drew.heap.size 0 #[.int .i64 e1.t, .int .i64 e1.k, .int .i64 e1.o, .int .i64 e1.v] rfl rfl (some4 kE1) (fun j _ => free_block kE1 _) Tryz.sizeRe one_ev ?_
           rw [show (#[Value.int .i64 e1.t, .int .i64 e1.k, .int .i64 e1.o, .int .i64 e1.v] : Array Value).toList = [.int .i64 e1.t, .int .i64 e1.k, .int .i64 e1.o, .int .i64 e1.v] from rfl, hZ2]
           refine hK.out _ _ (hclo.out Z2 hB2) (fun hHeld => ?_)
           clear hK K
           try simp only [Act.put, sq]
           refine wpAnyH_done (by kernel_rfl) ?_ _
           have HF := hide (⟨kA2, kE2, (show VA.heap.size ≤ vE.heap.size by omega), (show VA.heap.size ≤ VA.drew.heap.size by omega), ⟨(show VA.heap.size ≤ lo by omega), hrZ⟩, hB2⟩ : _ ∧ _ ∧ _ ∧ _ ∧ (_ ∧ _) ∧ _)
           clear hHeld kA kE hle hrX hrw hlo hk1 hk2 kE1 kA2 kE2 zk1 zk2 hB1 hB2 hrZ hZ1 hZ2 hlA hlE zU zz0 zz1 zz2
           go_wp2_with fail
           go_meet
           exact ⟨_, _, _, _, _, _, _, _, _, _, _, _, _, _, rfl, rfl, HF.out.1, HF.out.2.1, HF.out.2.2.1, HF.out.2.2.2.1, ⟨lo, HF.out.2.2.2.2.1.1, p1, p2, p3, p4, p5, p6, HF.out.2.2.2.2.1.2⟩, HF.out.2.2.2.2.2⟩
        case rest =>
         obtain ⟨sa, se, b0, b1, b2, b3, b4, b5, d0, d1, d2, d3, d4, d5, rfl, rfl, kA, kE, hsa, hse, ⟨lo, hlo, p1, p2, p3, p4, p5, p6, hrw⟩, hBc⟩ := hcut
         obtain ⟨h5, hnx, hnx', hgo, hMB, ksB, hBB, keA, hok1⟩ := HN.out
         have hls := (Array.getElem?_eq_some_iff.1 ksB).1
         have ksc := (hBc.block sS hls).trans ksB
         obtain ⟨s0, s1, s2, s3, s4, s5⟩ := six_cells ksc
         obtain ⟨f0, f1, f2, f3, f4, f5⟩ := (⟨free_block ksc 0, free_block ksc 1, free_block ksc 2, free_block ksc 3, free_block ksc 4, free_block ksc 5⟩ : _ ∧ _ ∧ _ ∧ _ ∧ _ ∧ _)
         obtain ⟨r0, r1, r2, r3, r4, r5⟩ := six_cells kA
         obtain ⟨W5, hW5⟩ : ∃ W5, (((((wc.setCell ⟨sS, 0, none⟩ (.slice b0 nv d0)).setCell ⟨sS, 1, none⟩ (.slice b1 nf d1)).setCell ⟨sS, 2, none⟩ (.slice b2 nl d2)).setCell ⟨sS, 3, none⟩ (.slice b3 nt d3)).setCell ⟨sS, 4, none⟩ (.slice b4 nt d4)).setCell ⟨sS, 5, none⟩ (.slice b5 nr d5) = W5 := ⟨_, rfl⟩
         have hk5 : KeepS (fun k => k = sS) wc W5 := by rw [← hW5]; exact keep_six _ _ _ _ _ _ (KeepS.refl wc) (.inl rfl)
         have ks5 : W5.heap[sS]? = some (.cells #[.slice b0 nv d0, .slice b1 nf d1, .slice b2 nl d2, .slice b3 nt d3, .slice b4 nt d4, .slice b5 nr d5] 36) := by rw [← hW5]; exact six_sets _ _ _ _ _ _ ksc
         have hzc := hBc.size
         have hz5 := hk5.size
         have hlA := (Array.getElem?_eq_some_iff.1 kA).1
         have hlE := (Array.getElem?_eq_some_iff.1 kE).1
         have hle := hrw.le
         have kE5 := (hk5.block se hlE (by omega)).trans kE
         obtain ⟨t0, t1, t2, t3⟩ := four_cells kE5
         have hrw5 : DRows W5 lo b0 b1 b2 b3 b4 b5 m1 p1 p2 p3 p4 p5 p6 := hrw.keep (fun b q1 q2 => hk5.block b (by omega) (by omega)) hk5.size
         have hle5 := (Array.getElem?_eq_some_iff.1 keA).1
         have hneE : eS ≠ sS := by
          intro q
          rw [q, ksB] at keA
          injection keA with keA
          injection keA with _ keA
          exact absurd keA (by decide)
         have keA5 := (hk5.block eS (by omega) hneE).trans ((hBc.block eS hle5).trans keA)
         obtain ⟨g0, g1, g2, g3⟩ := four_cells keA5
         obtain ⟨csM, kM, -⟩ := id hMB
         have hneM : b ≠ sS := by
          intro q
          rw [q, ksB] at kM
          injection kM with kM
          injection kM with _ kM
          exact absurd kM (by decide)
         have hM5 : MachW W5 b (pdOf vs fs ls L C) mn := hMB.same ((hk5.block b (by have := hMB.lt; omega) hneM).trans (hBc.block b hMB.lt))
         have hB5 : Below W2.heap.size W2 W5 := ⟨hk5.os.trans (hBc.os.trans hBB.os), hk5.tape.trans (hBc.tape.trans hBB.tape), hk5.output.trans (hBc.output.trans hBB.output), Nat.le_trans hBB.size (Nat.le_trans hBc.size hk5.size), fun k hk => (hk5.block k (by have := hBB.size; omega) (by have := hsl.out; omega)).trans ((hBc.block k (by have := hBB.size; omega)).trans (hBB.block k hk))⟩
         subst hgo
         dsimp only at t0 t1 t2 t3
         have hLE := levent_any et ek eo ev W5
         have HF := hide (⟨h5, hnx, hnx', hM5, ks5, ⟨lo, p1, p2, p3, p4, p5, p6, hrw5⟩, hB5⟩ : _ ∧ _ ∧ _ ∧ _ ∧ _ ∧ (∃ lo p1 p2 p3 p4 p5 p6, DRows W5 lo b0 b1 b2 b3 b4 b5 m1 p1 p2 p3 p4 p5 p6) ∧ _)
         clear h5 hnx hnx' hMB ksB hBB keA hok1 hls ksc kA kE hsa hse hlo hrw hBc hk5 ks5 hzc hz5 hlA hlE hle kE5 hrw5 hle5 hneE keA5 kM hneM hM5 hB5 HN hclo hSt hS1 hd lo p1 p2 p3 p4 p5 p6
         go_upto_region 27 with fail
         try rw [hW5]
         clear hW5 s0 s1 s2 s3 s4 s5 f0 f1 f2 f3 f4 f5 r0 r1 r2 r3 r4 r5
         go_wp2_with fail
         refine hLE.mono ?_
         rintro e wE ⟨rfl, hbE⟩
         clear hLE t0 t1 t2 t3 g0 g1 g2 g3
         obtain ⟨h5, hnx, hnx', hM5, ks5, ⟨lo, p1, p2, p3, p4, p5, p6, hrw5⟩, hB5⟩ := HF.out
         have hle := hrw5.le
         have HG := hide (⟨h5, ⟨b0, b1, b2, b3, b4, b5, d0, d1, d2, d3, d4, d5, (hbE.block sS (Array.getElem?_eq_some_iff.1 ks5).1).trans ks5, ⟨lo, p1, p2, p3, p4, p5, p6, by rw [hnx']; exact Rows6.keep hrw5 (fun b q1 q2 => hbE.block b (by omega)) hbE.size⟩⟩, (by rw [hnx]; exact hM5.below hbE), hB5.trans (hbE.mono hB5.size)⟩ : _ ∧ (∃ a0 a1 a2 a3 a4 a5 c0 c1 c2 c3 c4 c5, wE.heap[sS]? = some (.cells #[.slice a0 nv c0, .slice a1 nf c1, .slice a2 nl c2, .slice a3 nt c3, .slice a4 nt c4, .slice a5 nr c5] 36) ∧ (∃ lo p1 p2 p3 p4 p5 p6, DRows wE lo a0 a1 a2 a3 a4 a5 (playM true C (newM nv nf nl nt) (l.take (i + 1))).1 p1 p2 p3 p4 p5 p6)) ∧ MachW wE b (pdOf vs fs ls L C) (playM false C (newM nv nf nl nt) (l.take (i + 1))).1 ∧ Below W2.heap.size W2 wE)
         clear h5 hnx hnx' hM5 ks5 hrw5 hB5 hle hbE HF lo p1 p2 p3 p4 p5 p6
         have hwi := hwi.out
         go_wp2_with fail
         go_roundw
         case rel =>
          (try rw [hwi])
          exact ⟨i + 1, HG.out.1, rfl, HG.out.2⟩
         case measure =>
          (try rw [hwi])
          exact Nat.sub_lt_sub_left (Nat.lt_succ_of_lt HG.out.1) (Nat.lt_succ_self i)
       ·obtain ⟨rfl, rfl, rfl, rfl⟩ := hz0 hz
        clear hz0
        have hz2 : (er == 0) = false := by simpa using hz
        go_wp2_with fail
        refine hNum.mono ?_
        rintro e wN ⟨rfl, hwN⟩
        replace hwN := hwN.symm
        subst hwN
        clear hNum
        have hmn := hmz.out hz
        obtain ⟨h5, hnx, hnx', -, hMB, ksB, ⟨lo, p1, p2, p3, p4, p5, p6, hrwB⟩, hBB, -⟩ := HW.out
        have hnx2 : (playM true C (newM nv nf nl nt) (l.take (i + 1))).1 = m' := by rw [hnx', her.out, if_neg hz]
        have HG := hide (⟨h5, ⟨a0, a1, a2, a3, a4, a5, c0, c1, c2, c3, c4, c5, ksB, ⟨lo, p1, p2, p3, p4, p5, p6, by rw [hnx2]; exact hrwB⟩⟩, (by rw [hnx]; exact hMB), hBB⟩ : _ ∧ (∃ a0 a1 a2 a3 a4 a5 c0 c1 c2 c3 c4 c5, VA.heap[sS]? = some (.cells #[.slice a0 nv c0, .slice a1 nf c1, .slice a2 nl c2, .slice a3 nt c3, .slice a4 nt c4, .slice a5 nr c5] 36) ∧ (∃ lo p1 p2 p3 p4 p5 p6, DRows VA lo a0 a1 a2 a3 a4 a5 (playM true C (newM nv nf nl nt) (l.take (i + 1))).1 p1 p2 p3 p4 p5 p6)) ∧ MachW VA b (pdOf vs fs ls L C) (playM false C (newM nv nf nl nt) (l.take (i + 1))).1 ∧ Below W2.heap.size W2 VA)
        clear h5 hnx hnx' hnx2 hMB ksB hrwB hBB HW HP hmz hmn lo p1 p2 p3 p4 p5 p6
        have hwi := hwi.out
        go_wp2_with fail
        go_roundw
        case rel =>
         (try rw [hwi])
         exact ⟨i + 1, HG.out.1, rfl, HG.out.2⟩
        case measure =>
         (try rw [hwi])
         exact Nat.sub_lt_sub_left (Nat.lt_succ_of_lt HG.out.1) (Nat.lt_succ_self i)
end Go.Proofs.YtcfpedjfofpnkaaGreatDoor
