import Derived.Test.YtcfpedjfofpnkaaGreatDoorRv5
import Derived.Test.YtcfpedjfofpnkaaGreatDoorRvR2
set_option linter.unusedVariables false
set_option linter.unusedSimpArgs false
namespace Go.Proofs.YtcfpedjfofpnkaaGreatDoor
open Go.RowKit Go.Shelf Go.Proofs.Cod
structure SwR (Wp : World) (lo : Nat) (b0 b1 b2 b3 b4 b5 : Option Addr) (p1 p2 p3 p4 p5 p6 be : Nat) (r : MS × Ev × Nat) (wx : World) : Prop where
 rows : DRows wx lo b0 b1 b2 b3 b4 b5 r.1 p1 p2 p3 p4 p5 p6
 ev : wx.heap[be]? = some (.cells #[.int .i64 r.2.1.t, .int .i64 r.2.1.k, .int .i64 r.2.1.o, .int .i64 r.2.1.v] 50)
 keep : KeepS (fun k => (lo ≤ k ∧ k < p6) ∨ k = be) Wp wx
abbrev FinS (w : World) (be : Nat) (v0 v1 v2 v3 v4 v5 : Value) (re : Ev) (u : World) : Prop := (u.cell? ⟨w.heap.size + 1, 0, none⟩ = some v0 ∧ u.cell? ⟨w.heap.size + 1, 1, none⟩ = some v1 ∧ u.cell? ⟨w.heap.size + 1, 2, none⟩ = some v2 ∧ u.cell? ⟨w.heap.size + 1, 3, none⟩ = some v3 ∧ u.cell? ⟨w.heap.size + 1, 4, none⟩ = some v4 ∧ u.cell? ⟨w.heap.size + 1, 5, none⟩ = some v5) ∧ u.cell? ⟨be, 0, none⟩ = some (.int .i64 re.t) ∧ u.cell? ⟨be, 1, none⟩ = some (.int .i64 re.k) ∧ u.cell? ⟨be, 2, none⟩ = some (.int .i64 re.o) ∧ u.cell? ⟨be, 3, none⟩ = some (.int .i64 re.v)
theorem sw_fin {w w7 Wx : World} {lo p1 p2 p3 p4 p5 p6 be bi g3 nv nf nl nt nr d0 d1 d2 d3 d4 d5 t pcn : Nat} {b0 b1 b2 b4 b5 : Option Addr} {m rm : MS} {re : Ev} {x : In7} {ln : Int} {wd : Tx} (hSw : SwR w7 lo b0 b1 b2 (some ⟨g3, 0, none⟩) b4 b5 p1 p2 p3 p4 p5 p6 be (swM m t x) Wx) (hto : toM m t x (swM m t x).2.2 = pcn)
 (HM : m.thr.length = nt ∧ R4 m ∧ nt * 4 = nr ∧ (val3 (vlM (m.th t) x.aR x.aN) ∧ val3 (vlM (m.th t) x.bR x.bN) ∧ (m.th t).pc ≤ 24) ∧ True ∧ m.vars.length = nv ∧ m.flags.length = nf ∧ m.locks.length = nl) (HQ : rm = goneM (swM m t x).1 t (toM m t x (swM m t x).2.2) ∧ re = (swM m t x).2.1) (ht : t < nt)
 (ks7 : w7.heap[w.heap.size + 1]? = some (.cells #[.slice b0 nv d0, .slice b1 nf d1, .slice b2 nl d2, .slice (some ⟨g3, 0, none⟩) nt d3, .slice b4 nt d4, .slice b5 nr d5] 36)) (ki7 : w7.heap[bi]? = some (.cells #[.string (bs x.op), .int .i64 x.r, .bool x.aR, .int .i64 x.aN, .bool x.bR, .int .i64 x.bN, .int .i64 x.x, .int .i64 ln, .string (bs wd)] 114))
 (kr7 : w7.heap[w.heap.size + 1 + 1]? = some (.cells #[.slice none 0 0, .slice none 0 0, .slice none 0 0, .slice none 0 0, .slice none 0 0, .slice none 0 0] 36)) (ke7 : w7.heap[w.heap.size + 1 + 1 + 1]? = some (.cells #[.int .i64 0, .int .i64 0, .int .i64 0, .int .i64 0] 50)) (hB7 : Below w.heap.size w w7) (hin : w.heap.size + 1 + 1 + 1 < lo ∧ w.heap.size + 1 + 1 + 1 < bi ∧ bi < lo ∧ lo ≤ p6 ∧ p6 ≤ be ∧ be < w7.heap.size) :
 ∃ (W8 U1 U2 : World) (pv : Nat) (w0 w1 w2 w3 w4 w5 e0 e1 e2 e3 : Value), Wx.setCell ⟨g3, t, none⟩ (.int .i64 (pcn : Int)) = W8 ∧ Wx.cell? ⟨g3, t, none⟩ = some (.int .i64 (pv : Int)) ∧ Wx.frozen? ⟨g3, t, none⟩ = false ∧ Wx.cell? ⟨w.heap.size + 1, 3, none⟩ = some (.slice (some ⟨g3, 0, none⟩) nt d3) ∧ Wx.cell? ⟨bi, 0, none⟩ = some (.string (bs x.op)) ∧ Wx.cell? ⟨bi, 6, none⟩ = some (.int .i64 x.x) ∧
  Hid (W8.drew.setCells (w.heap.size + 1 + 1) 0 [.slice b0 nv d0, .slice b1 nf d1, .slice b2 nl d2, .slice (some ⟨g3, 0, none⟩) nt d3, .slice b4 nt d4, .slice b5 nr d5] = U1) ∧ Hid (U1.setCells (w.heap.size + 1 + 1 + 1) 0 [.int .i64 re.t, .int .i64 re.k, .int .i64 re.o, .int .i64 re.v] = U2) ∧ Hid (FinS w be (.slice b0 nv d0) (.slice b1 nf d1) (.slice b2 nl d2) (.slice (some ⟨g3, 0, none⟩) nt d3) (.slice b4 nt d4) (.slice b5 nr d5) re W8.drew) ∧ Hid (FinS w be (.slice b0 nv d0) (.slice b1 nf d1) (.slice b2 nl d2) (.slice (some ⟨g3, 0, none⟩) nt d3) (.slice b4 nt d4) (.slice b5 nr d5) re U1) ∧ Hid (FinS w be (.slice b0 nv d0) (.slice b1 nf d1) (.slice b2 nl d2) (.slice (some ⟨g3, 0, none⟩) nt d3) (.slice b4 nt d4) (.slice b5 nr d5) re U2) ∧
  Hid (W8.heap[w.heap.size + 1 + 1]? = some (.cells #[w0, w1, w2, w3, w4, w5] 36) ∧ U1.heap[w.heap.size + 1 + 1 + 1]? = some (.cells #[e0, e1, e2, e3] 50)) ∧
  Hid (U2.heap[w.heap.size + 1 + 1]? = some (.cells #[.slice b0 nv d0, .slice b1 nf d1, .slice b2 nl d2, .slice (some ⟨g3, 0, none⟩) nt d3, .slice b4 nt d4, .slice b5 nr d5] 36) ∧ U2.heap[w.heap.size + 1 + 1 + 1]? = some (.cells #[.int .i64 re.t, .int .i64 re.k, .int .i64 re.o, .int .i64 re.v] 50) ∧ DocS U2 b0 b1 b2 (some ⟨g3, 0, none⟩) b4 b5 nv nf nl nt nr rm ∧ Below w.heap.size w U2 ∧ ∃ lo, w.heap.size ≤ lo ∧ ∃ p1 p2 p3 p4 p5 p6, DRows U2 lo b0 b1 b2 (some ⟨g3, 0, none⟩) b4 b5 rm p1 p2 p3 p4 p5 p6) := by
 obtain ⟨hM1, hM2, hM3, -, -, hM4, hM5, hM6⟩ := HM
 obtain ⟨hQ1, hQ2⟩ := HQ
 have hl1 := sw_lens (t := t) (x := x) hM2
 obtain ⟨g3', eb3', g31, g32, hc3x, hf3x, hR9⟩ := hSw.rows.pc (i := t) (by rw [hl1.t, hM1]; exact ht)
 simp only [Option.some.injEq, Addr.mk.injEq, and_true] at eb3'
 subst eb3'
 have hkx := hSw.keep
 have zs := hkx.size
 have ksy : Wx.heap[w.heap.size + 1]? = _ := (hkx.block _ (by omega) (by omega)).trans ks7
 have kiy : Wx.heap[bi]? = _ := (hkx.block _ (by omega) (by omega)).trans ki7
 have kry : Wx.heap[w.heap.size + 1 + 1]? = _ := (hkx.block _ (by omega) (by omega)).trans kr7
 have key : Wx.heap[w.heap.size + 1 + 1 + 1]? = _ := (hkx.block _ (by omega) (by omega)).trans ke7
 obtain ⟨W8, hW8⟩ : ∃ W8, Wx.setCell ⟨g3, t, none⟩ (.int .i64 (pcn : Int)) = W8 := ⟨_, rfl⟩
 have hk8 : KeepS (fun k => k = g3) Wx W8 := by rw [← hW8]; exact KeepS.set (S := fun k => k = g3) (KeepS.refl Wx) (a := ⟨g3, t, none⟩) (.inl rfl) _
 have hR10 := hR9 pcn
 rw [hW8] at hR10
 have z8 := hk8.size
 have ks8 : W8.heap[w.heap.size + 1]? = _ := (hk8.block _ (by omega) (by omega)).trans ksy
 have kr8 : W8.heap[w.heap.size + 1 + 1]? = _ := (hk8.block _ (by omega) (by omega)).trans kry
 have ke8 : W8.heap[w.heap.size + 1 + 1 + 1]? = _ := (hk8.block _ (by omega) (by omega)).trans key
 have kv8 : W8.heap[be]? = some (.cells #[.int .i64 re.t, .int .i64 re.k, .int .i64 re.o, .int .i64 re.v] 50) := by rw [hQ2]; exact (hk8.block _ (by omega) (by omega)).trans hSw.ev
 obtain ⟨pv, hpv⟩ : ∃ v, ((swM m t x).1.th t).pc = v := ⟨_, rfl⟩
 rw [hpv] at hc3x
 obtain ⟨U1, U2, hU1, hU2, hk9, hk10, kh1, hg6, hh6⟩ := fin_facts (W := W8.drew) (.slice b0 nv d0) (.slice b1 nf d1) (.slice b2 nl d2) (.slice (some ⟨g3, 0, none⟩) nt d3) (.slice b4 nt d4) (.slice b5 nr d5) (.int .i64 re.t) (.int .i64 re.k) (.int .i64 re.o) (.int .i64 re.v) kr8 ke8 (by omega)
 have zd : W8.drew.heap.size = W8.heap.size := rfl
 have z9 := hk9.size
 have z10 := hk10.size
 have S8 : Hid (FinS w be (.slice b0 nv d0) (.slice b1 nf d1) (.slice b2 nl d2) (.slice (some ⟨g3, 0, none⟩) nt d3) (.slice b4 nt d4) (.slice b5 nr d5) re W8.drew) := ⟨six_cells ks8, four_cells kv8⟩
 have S9 : Hid (FinS w be (.slice b0 nv d0) (.slice b1 nf d1) (.slice b2 nl d2) (.slice (some ⟨g3, 0, none⟩) nt d3) (.slice b4 nt d4) (.slice b5 nr d5) re U1) := ⟨six_cells ((hk9.block _ (by omega) (by omega)).trans ks8), four_cells ((hk9.block _ (by omega) (by omega)).trans kv8)⟩
 have S10 : Hid (FinS w be (.slice b0 nv d0) (.slice b1 nf d1) (.slice b2 nl d2) (.slice (some ⟨g3, 0, none⟩) nt d3) (.slice b4 nt d4) (.slice b5 nr d5) re U2) := ⟨six_cells ((hk10.block _ (by omega) (by omega)).trans ks8), four_cells ((hk10.block _ (by omega) (by omega)).trans kv8)⟩
 have hR11 := hR10.keep (w' := U2) (fun b q1 q2 => hk10.block b (by omega) (by omega)) hk10.size
 have hl2 := gone_lens (m1 := (swM m t x).1) (t := t) hl1.r pcn
 have hDF := DRows.doc (nv := nv) (nf := nf) (nl := nl) (nt := nt) (nr := nr) (m := goneM (swM m t x).1 t pcn) hR11 (by rw [hl2.v, hl1.v]; exact hM4) (by rw [hl2.f, hl1.f]; exact hM5) (by rw [hl2.l, hl1.l]; exact hM6) (by rw [hl2.t, hl1.t]; exact hM1) hM3 hl2.r
 rw [← hto, ← hQ1] at hDF
 have hR12 : DRows U2 lo b0 b1 b2 (some ⟨g3, 0, none⟩) b4 b5 (goneM (swM m t x).1 t pcn) p1 p2 p3 p4 p5 p6 := hR11
 rw [← hto, ← hQ1] at hR12
 have hBF : Below w.heap.size w U2 := ⟨hk10.os.trans (hk8.os.trans (hkx.os.trans hB7.os)), hk10.tape.trans (hk8.tape.trans (hkx.tape.trans hB7.tape)), hk10.output.trans (hk8.output.trans (hkx.output.trans hB7.output)), Nat.le_trans hB7.size (by omega), fun k hk => (hk10.block k (by have := hB7.size; omega) (by omega)).trans ((hk8.block k (by have := hB7.size; omega) (by omega)).trans ((hkx.block k (by have := hB7.size; omega) (by omega)).trans (hB7.block k hk)))⟩
 have hFr : ∃ lo, w.heap.size ≤ lo ∧ ∃ p1 p2 p3 p4 p5 p6, DRows U2 lo b0 b1 b2 (some ⟨g3, 0, none⟩) b4 b5 rm p1 p2 p3 p4 p5 p6 := ⟨lo, by omega, p1, p2, p3, p4, p5, p6, hR12⟩
 have HF := hide (⟨hg6, hh6, hDF, hBF, hFr⟩ : _ ∧ _ ∧ _ ∧ _ ∧ _)
 obtain ⟨-, -, -, s3x, -, -⟩ := six_cells ksy
 obtain ⟨i0x, -, -, -, -, -, i6x, -, -⟩ := nine_cells kiy
 exact ⟨W8, U1, U2, pv, _, _, _, _, _, _, _, _, _, _, hW8, hc3x, hf3x, s3x, i0x, i6x, hU1, hU2, S8, S9, S10, ⟨kr8, kh1⟩, HF.out⟩
section
variable {w w' : World} {a0 a1 a2 a3 a4 a5 : Option Addr} {nv nf nl nt nr : Nat} {m : MS} {P : RP} {TV : List (Value × Value)} {x1 x2 x3 x4 : Option Addr} {y1 y2 y3 z1 z2 z3 z4 : Nat}
set_option maxRecDepth 100000 in
set_option maxHeartbeats 8000000 in
theorem rstep_any {c0 c1 c2 c3 c4 c5 : Nat} (hQ : DView w (.slice x1 y1 z1) (.slice x2 y2 z2) (.slice x3 y3 z3) (.slice x4 nt z4) P TV) (hnt : P.thr.length = nt) (h : DocS w a0 a1 a2 a3 a4 a5 nv nf nl nt nr m) (hv4 : nv ≤ 4) (hf4 : nf ≤ 4) (hl4 : nl ≤ 4) (hM : MOk nv nf nl (codeOf P) m) (hf : PFit nv nf nl (codeOf P)) {t : Nat} (ht : t < nt) (hph : (m.th t).ph = 1) :
 Calls Tryz.prog 19 #[.agg #[.slice x1 y1 z1, .slice x2 y2 z2, .slice x3 y3 z3, .slice x4 nt z4], .agg #[.slice a0 nv c0, .slice a1 nf c1, .slice a2 nl c2, .slice a3 nt c3, .slice a4 nt c4, .slice a5 nr c5], .int .i64 t] w fun e w' => ∃ b0 b1 b2 b3 b4 b5, (∃ d0 d1 d2 d3 d4 d5, e = .returned (.tuple #[.agg #[.slice b0 nv d0, .slice b1 nf d1, .slice b2 nl d2, .slice b3 nt d3, .slice b4 nt d4, .slice b5 nr d5], .agg #[.int .i64 (goM true (codeOf P) m t).2.t, .int .i64 (goM true (codeOf P) m t).2.k, .int .i64 (goM true (codeOf P) m t).2.o, .int .i64 (goM true (codeOf P) m t).2.v]])) ∧ (∃ lo, w.heap.size ≤ lo ∧ ∃ p1 p2 p3 p4 p5 p6, DRows w' lo b0 b1 b2 b3 b4 b5 (goM true (codeOf P) m t).1 p1 p2 p3 p4 p5 p6) ∧ DocS w' b0 b1 b2 b3 b4 b5 nv nf nl nt nr (goM true (codeOf P) m t).1 ∧ Below w.heap.size w w' := by
 obtain ⟨W, hW⟩ : ∃ W, (((w.alloc (.cells #[.slice x1 y1 z1, .slice x2 y2 z2, .slice x3 y3 z3, .slice x4 nt z4] 29)).alloc (.cells #[.slice a0 nv c0, .slice a1 nf c1, .slice a2 nl c2, .slice a3 nt c3, .slice a4 nt c4, .slice a5 nr c5] 36)).alloc (.cells #[.slice none 0 0, .slice none 0 0, .slice none 0 0, .slice none 0 0, .slice none 0 0, .slice none 0 0] 36)).alloc (.cells #[.int .i64 0, .int .i64 0, .int .i64 0, .int .i64 0] 50) = W := ⟨_, rfl⟩
 obtain ⟨hB, k1, k2, k3, k4, hz⟩ := four_allocs _ _ _ _ _ hW
 have HB := hide hB
 have hcl : (codeOf P).length = nt := by unfold codeOf; rw [List.length_map]; exact hnt
 have hml : m.thr.length = nt := h.lt
 have h4 : nt ≤ 4 := by have := hf.four; omega
 have hT := hM.th t (by omega)
 have hN := rnext_any (c0 := c0) (c1 := c1) (c2 := c2) (c3 := c3) (c4 := c4) (c5 := c5) (hQ.below hB) hnt (h.below hB) ht (hT.pc (by omega))
 have hX0 := xb_of ((nextI_fit hf (by omega : t < (codeOf P).length) (hT.pc (by omega))).imp id And.left)
 have hgo : goM true (codeOf P) m (t : Int) = stpM true m t (nextI (codeOf P) t (m.th t)) := by unfold goM; rw [Int.toNat_natCast]
 rw [hgo]
 rw [hcl] at hX0
 obtain ⟨x, hxq⟩ : ∃ x, nextI (codeOf P) t (m.th t) = x := ⟨_, rfl⟩
 rw [hxq] at hN hX0 ⊢
 obtain ⟨⟨rm, re⟩, hres⟩ : ∃ r : MS × Ev, stpM true m t x = r := ⟨_, rfl⟩
 rw [hres]
 dsimp only
 replace hres := hide hres
 have hva := vlM_ok hT hX0.a
 have hvb := vlM_ok hT hX0.b
 have hD := h.below hB
 have hr4 := h.r4
 have hlr := h.lr
 obtain ⟨u0, u1, u2, u3⟩ := four_cells k1
 obtain ⟨s0, s1, s2, s3, s4, s5⟩ := six_cells k2
 have HK := hide (⟨k2, k3, k4, hz⟩ : _ ∧ _ ∧ _ ∧ _)
 have HD := hide (⟨hD, hX0⟩ : _ ∧ _)
 have hpcb := Nat.le_trans (hT.pc (by omega)) (hf.code _ (getD_mem (d := []) (by omega : t < (codeOf P).length))).1
 have HM := hide (⟨hml, hr4, hlr, ⟨hva, hvb, hpcb⟩, trivial, h.lv, h.lf, h.ll⟩ : _ ∧ _ ∧ _ ∧ (_ ∧ _ ∧ _) ∧ True ∧ _ ∧ _ ∧ _)
 clear h hf hM hQ hnt hB k1 k2 k3 k4 hz hcl hml hT hgo hxq hX0 hva hvb hD hr4 hlr hph hpcb
 go_enter Tryz.func19, Tryz.ntmps19
 go_upto_region 1 with fail
 try rw [hW]
 clear hW
 go_wp2_with fail
 refine hN.mono ?_
 rintro e w1 ⟨ln, wd, rfl, hb1⟩
 unfold insR
 clear hN u0 u1 u2 u3 s0 s1 s2 s3 s4 s5
 obtain ⟨W1, hW1⟩ : ∃ W1, w1.alloc (.cells (insR x ln wd) 114) = W1 := ⟨_, rfl⟩
 have hbb : Below w1.heap.size w1 W1 := by rw [← hW1]; exact (Below.refl _ _).alloc (Nat.le_refl _) _
 have ki : W1.heap[w1.heap.size]? = some (.cells (insR x ln wd) 114) := by rw [← hW1]; exact World.alloc_heap_new w1 _
 have hB1 : Below W.heap.size W W1 := hb1.trans (hbb.mono hb1.size)
 obtain ⟨bi, hbi⟩ : ∃ bi, w1.heap.size = bi := ⟨_, rfl⟩
 have hil : bi < W1.heap.size ∧ W.heap.size ≤ bi := ⟨by rw [← hbi]; exact (Array.getElem?_eq_some_iff.1 ki).1, by rw [← hbi]; exact hb1.size⟩
 rw [hbi] at ki
 obtain ⟨hD, hX⟩ := HD.out
 have hF := fails_any (c0 := c0) (c1 := c1) (c2 := c2) (c3 := c3) (c4 := c4) (c5 := c5) (hD.below hB1) h4 ht hX ln wd
 have s6 := (hB1.block (w.heap.size + 1) (by have := HK.out.2.2.2; omega)).trans HK.out.1
 obtain ⟨s0, s1, s2, s3, s4, s5⟩ := six_cells s6
 unfold insR at ki hW1 hF
 obtain ⟨i0, i1, i2, i3, i4, i5, i6, i7, i8⟩ := nine_cells ki
 have HI := hide (⟨ki, hB1, hil⟩ : _ ∧ _ ∧ _)
 clear hb1 hbb ki hB1 hil hD hX s6
 go_upto_region 2 with fail
 try rw [hW1]
 try rw [hbi]
 clear hW1 hbi
 go_wp2_with fail
 refine hF.mono ?_
 rintro e w2 ⟨rfl, hb2⟩
 clear hF i0 i1 i2 i3 i4 i5 i6 i7 i8 s0 s1 s2 s3 s4 s5
 obtain ⟨ki, hB1, hil⟩ := HI.out
 have hB2 : Below W.heap.size W w2 := hB1.trans (hb2.mono hB1.size)
 obtain ⟨s0, s1, s2, s3, s4, s5⟩ := six_cells ((hB2.block (w.heap.size + 1) (by have := HK.out.2.2.2; omega)).trans HK.out.1)
 obtain ⟨hD, hX⟩ := HD.out
 have hD2 := hD.below hB2
 have hC := scopy_any (c0 := c0) (c1 := c1) (c2 := c2) (c3 := c3) (c4 := c4) (c5 := c5) hD2.lv hD2.v (by omega) hD2.lf hD2.f (by omega) hD2.ll hD2.l (by omega) (n3 := nt) (by rw [atL_len]; exact hD2.lt) hD2.p (by omega) (n4 := nt) (by rw [stL_len]; exact hD2.lt) hD2.s (by omega) (n5 := nr) (by rw [rgL_len hD2.r4, hD2.lt]; exact hD2.lr) hD2.r (by have := hD2.lr; omega)
 have ki2 := (hb2.block bi hil.1).trans ki
 have HI2 := hide (⟨ki2, hB2, (⟨Nat.lt_of_lt_of_le hil.1 hb2.size, hil.2⟩ : bi < w2.heap.size ∧ W.heap.size ≤ bi)⟩ : _ ∧ _ ∧ _)
 clear ki hB1 hil hb2 hB2 hD hX hD2 ki2 HI
 go_wp2_with fail
 refine hC.mono ?_
 rintro e w3 ⟨b0, b1, b2, b3, b4, b5, d0, d1, d2, d3, d4, d5, p1, p2, p3, p4, p5, p6, rfl, hR, hb3⟩
 clear hC s0 s1 s2 s3 s4 s5
 obtain ⟨ki2, hB2, hil⟩ := HI2.out
 have hB3 : Below W.heap.size W w3 := hB2.trans (hb3.mono hB2.size)
 have s6 := (hB3.block (w.heap.size + 1) (by have := HK.out.2.2.2; omega)).trans HK.out.1
 obtain ⟨s0, s1, s2, s3, s4, s5⟩ := six_cells s6
 have sf := free_block s6
 obtain ⟨f0, f1, f2, f3, f4, f5⟩ := (⟨sf 0, sf 1, sf 2, sf 3, sf 4, sf 5⟩ : _ ∧ _ ∧ _ ∧ _ ∧ _ ∧ _)
 obtain ⟨W3, hW3⟩ : ∃ W3, (((((w3.setCell ⟨w.heap.size + 1, 0, none⟩ (.slice b0 nv d0)).setCell ⟨w.heap.size + 1, 1, none⟩ (.slice b1 nf d1)).setCell ⟨w.heap.size + 1, 2, none⟩ (.slice b2 nl d2)).setCell ⟨w.heap.size + 1, 3, none⟩ (.slice b3 nt d3)).setCell ⟨w.heap.size + 1, 4, none⟩ (.slice b4 nt d4)).setCell ⟨w.heap.size + 1, 5, none⟩ (.slice b5 nr d5) = W3 := ⟨_, rfl⟩
 have hk3 : KeepS (fun k => k = w.heap.size + 1) w3 W3 := by rw [← hW3]; exact keep_six _ _ _ _ _ _ (KeepS.refl w3) (.inl rfl)
 have ks : W3.heap[w.heap.size + 1]? = some (.cells #[.slice b0 nv d0, .slice b1 nf d1, .slice b2 nl d2, .slice b3 nt d3, .slice b4 nt d4, .slice b5 nr d5] 36) := by rw [← hW3]; exact six_sets _ _ _ _ _ _ s6
 have hz := HK.out.2.2.2
 have hlo2 := hB2.size
 have hle := hR.le
 have hR3 : DRows W3 w2.heap.size b0 b1 b2 b3 b4 b5 m p1 p2 p3 p4 p5 p6 := hR.keep (fun b q1 q2 => hk3.block b (by omega) (by omega)) hk3.size
 have hz3 := hk3.size
 have hz23 := hb3.size
 have ki3 : W3.heap[bi]? = _ := (hk3.block bi (by omega) (by omega)).trans ((hb3.block bi hil.1).trans ki2)
 have kr3 : W3.heap[w.heap.size + 1 + 1]? = _ := (hk3.block _ (by omega) (by omega)).trans ((hB3.block _ (by omega)).trans HK.out.2.1)
 have ke3 : W3.heap[w.heap.size + 1 + 1 + 1]? = _ := (hk3.block _ (by omega) (by omega)).trans ((hB3.block _ (by omega)).trans HK.out.2.2.1)
 have hB33 : Below w.heap.size w W3 := ⟨hk3.os.trans (hB3.os.trans HB.out.os), hk3.tape.trans (hB3.tape.trans HB.out.tape), hk3.output.trans (hB3.output.trans HB.out.output), Nat.le_trans HB.out.size (Nat.le_trans hB3.size hk3.size), fun k hk => (hk3.block k (by have := hB3.size; omega) (by omega)).trans ((hB3.block k (by omega)).trans (HB.out.block k hk))⟩
 obtain ⟨lo, hlo⟩ : ∃ lo, w2.heap.size = lo := ⟨_, rfl⟩
 rw [hlo] at hR3 hle hil hlo2
 have hin : w.heap.size + 1 + 1 + 1 < lo ∧ w.heap.size + 1 + 1 + 1 < bi ∧ bi < lo ∧ lo ≤ p6 ∧ p6 ≤ W3.heap.size := ⟨by omega, by omega, hil.1, by omega, by omega⟩
 have HR := hide (⟨hR3, ks, ki3, kr3, ke3, hB33, hin⟩ : _ ∧ _ ∧ _ ∧ _ ∧ _ ∧ _ ∧ _)
 clear hR hb3 ki2 hB2 hil hB3 s6 sf hk3 ks hz hlo2 hle hR3 hz3 hz23 ki3 kr3 ke3 hB33 hin hlo HI2 HK HB
 go_upto_region 4 with fail
 try rw [hW3]
 clear hW3 s0 s1 s2 s3 s4 s5 f0 f1 f2 f3 f4 f5
 obtain ⟨fb, hfb⟩ : ∃ fb, failsM m t x = fb := ⟨_, rfl⟩
 rw [hfb]
 cases fb with
 | true =>
  have hE := hres.out.symm.trans (fail_stp hfb)
  obtain ⟨e1, e2⟩ := Prod.mk.inj hE
  subst e1 e2
  obtain ⟨hR3, ks, ki3, kr3, ke3, hB33, hin⟩ := HR.out
  obtain ⟨g, eb, g1, g2, hc, hz, hR4⟩ := hR3.stat (i := t) (by rw [HM.out.1]; exact ht)
  subst eb
  obtain ⟨W4, hW4⟩ : ∃ W4, W3.setCell ⟨g, t, none⟩ (.int .i64 3) = W4 := ⟨_, rfl⟩
  have hk4 : KeepS (fun k => k = g) W3 W4 := by rw [← hW4]; exact KeepS.set (S := fun k => k = g) (KeepS.refl W3) (a := ⟨g, t, none⟩) (.inl rfl) _
  have hR5 := hR4 3
  rw [hW4] at hR5
  obtain ⟨-, -, -, -, s4, -⟩ := six_cells ks
  have ks4 : W4.heap[w.heap.size + 1]? = _ := (hk4.block _ (by omega) (by omega)).trans ks
  have kr4 : W4.heap[w.heap.size + 1 + 1]? = _ := (hk4.block _ (by omega) (by omega)).trans kr3
  have ke4 : W4.heap[w.heap.size + 1 + 1 + 1]? = _ := (hk4.block _ (by omega) (by omega)).trans ke3
  obtain ⟨t0, t1, t2, t3, t4, t5⟩ := six_cells ks4
  obtain ⟨r0, r1, r2, r3, r4, r5⟩ := six_cells kr4
  obtain ⟨f0, f1, f2, f3, f4, f5⟩ := (⟨free_block kr4 0, free_block kr4 1, free_block kr4 2, free_block kr4 3, free_block kr4 4, free_block kr4 5⟩ : _ ∧ _ ∧ _ ∧ _ ∧ _ ∧ _)
  obtain ⟨v0, v1, v2, v3⟩ := four_cells ke4
  obtain ⟨f6, f7, f8, f9⟩ := (⟨free_block ke4 0, free_block ke4 1, free_block ke4 2, free_block ke4 3⟩ : _ ∧ _ ∧ _ ∧ _)
  have htn : (t : Int) < (nt : Int) := by omega
  obtain ⟨U1, U2, hU1, hU2, -, hk6, kh1, hg6, hh6⟩ := fin_chain (.slice b0 nv d0) (.slice b1 nf d1) (.slice b2 nl d2) (.slice b3 nt d3) (.slice (some ⟨g, 0, none⟩) nt d4) (.slice b5 nr d5) (.int .i64 (t : Int)) (.int .i64 9) (.int .i64 0) (.int .i64 0) kr4 ke4 (by omega)
  have hz4 := hk4.size
  have hz6 := hk6.size
  have hR6 : DRows U2 _ _ _ _ _ _ _ _ _ _ _ _ _ _ := hR5.keep (fun b q1 q2 => hk6.block b (by omega) (by omega)) hk6.size
  have hBF : Below w.heap.size w U2 := ⟨hk6.os.trans (hk4.os.trans hB33.os), hk6.tape.trans (hk4.tape.trans hB33.tape), hk6.output.trans (hk4.output.trans hB33.output), Nat.le_trans hB33.size (Nat.le_trans hk4.size hk6.size), fun k hk => (hk6.block k (by omega) (by omega)).trans ((hk4.block k (by omega) (by omega)).trans (hB33.block k hk))⟩
  have hDF : DocS U2 b0 b1 b2 b3 (some ⟨g, 0, none⟩) b5 nv nf nl nt nr (m.setT t { m.th t with ph := 3 }) := hR6.doc HM.out.2.2.2.2.2.1 HM.out.2.2.2.2.2.2.1 HM.out.2.2.2.2.2.2.2 (by rw [setT_len]; exact HM.out.1) HM.out.2.2.1 (r4_set (y := { m.th t with ph := 3 }) HM.out.2.1 (r4_th HM.out.2.1 t) t)
  have hFr : ∃ lo, w.heap.size ≤ lo ∧ ∃ p1 p2 p3 p4 p5 p6, DRows U2 lo b0 b1 b2 b3 (some ⟨g, 0, none⟩) b5 (m.setT t { m.th t with ph := 3 }) p1 p2 p3 p4 p5 p6 := ⟨lo, by omega, p1, p2, p3, p4, p5, p6, hR6⟩
  have HF := hide (⟨hg6, hh6, hDF, hBF, hFr⟩ : _ ∧ _ ∧ _ ∧ _ ∧ _)
  clear hFr
  obtain ⟨o0, o1, o2, o3⟩ := four_cells kh1
  obtain ⟨o6, o7, o8, o9⟩ := (⟨free_block kh1 0, free_block kh1 1, free_block kh1 2, free_block kh1 3⟩ : _ ∧ _ ∧ _ ∧ _)
  clear v0 v1 v2 v3 f6 f7 f8 f9 kh1
  clear hE hR3 ks ki3 kr3 ke3 hB33 hin hR4 hk4 hR5 ks4 kr4 ke4 hk6 hg6 hh6 hz4 hz6 hR6 hBF hDF HR HM HD g1 g2 hfb hres h4 ht hv4 hf4 hl4
  go_upto_region 6 with fail
  try rw [hW4]
  clear hW4 hc hz s4
  go_wp2_with fail
  obtain ⟨k1, k2, k3, k4, k5⟩ := HF.out
  exact bodyPost_ret (two_val rfl rfl rfl k1 k2) rfl ⟨_, _, _, _, _, _, ⟨_, _, _, _, _, _, rfl⟩, k5, k3, k4⟩
 | false =>
  have hX := HD.out.2
  have hE := hres.out.symm.trans (sw_stp (by rw [HM.out.1]; exact ht) (by have := hX.op; simp only [opsL, List.mem_cons, List.not_mem_nil, or_false]; exact this) hfb)
  have HQ := hide (Prod.mk.inj hE)
  obtain ⟨hR3, ks, ki3, kr3, ke3, hB33, hin⟩ := HR.out
  obtain ⟨W5, hW5⟩ : ∃ W5, W3.alloc (.cells #[.int .i64 (t : Int), .int .i64 0, .int .i64 0, .int .i64 0] 50) = W5 := ⟨_, rfl⟩
  have hb5 : Below W3.heap.size W3 W5 := by rw [← hW5]; exact (Below.refl _ _).alloc (Nat.le_refl _) _
  have kv5 : W5.heap[W3.heap.size]? = some (.cells #[.int .i64 (t : Int), .int .i64 0, .int .i64 0, .int .i64 0] 50) := by rw [← hW5]; exact World.alloc_heap_new W3 _
  obtain ⟨be, hbe⟩ : ∃ be, W3.heap.size = be := ⟨_, rfl⟩
  rw [hbe] at hb5 kv5 hin
  have hzb := (Array.getElem?_eq_some_iff.1 kv5).1
  have hDx : DocS W3 b0 b1 b2 b3 b4 b5 nv nf nl nt nr m := hR3.doc HM.out.2.2.2.2.2.1 HM.out.2.2.2.2.2.2.1 HM.out.2.2.2.2.2.2.2 HM.out.1 HM.out.2.2.1 HM.out.2.1
  rw [← hbe] at hb5
  have hD5 := hDx.below hb5
  rw [hbe] at hb5
  have V1 := sval_any (c0 := d0) (c1 := d1) (c2 := d2) (c3 := d3) (c4 := d4) (c5 := d5) hD5 h4 ht hX.a
  have VV := hide (fun u (hu : Below W5.heap.size W5 u) => sval_any (c0 := d0) (c1 := d1) (c2 := d2) (c3 := d3) (c4 := d4) (c5 := d5) (hD5.below hu) h4 ht hX.b)
  obtain ⟨s0, s1, s2, s3, s4, s5⟩ := six_cells ((hb5.block (w.heap.size + 1) (by omega)).trans ks)
  obtain ⟨i0, i1, i2, i3, i4, i5, i6, i7, i8⟩ := nine_cells ((hb5.block bi (by omega)).trans ki3)
  obtain ⟨va, hva⟩ : ∃ v, vlM (m.th t) x.aR x.aN = v := ⟨_, rfl⟩
  obtain ⟨vb, hvb⟩ : ∃ v, vlM (m.th t) x.bR x.bN = v := ⟨_, rfl⟩
  rw [hva] at V1
  simp only [hvb] at VV
  have HV := hide (⟨hva, hvb, hbe, hzb, kv5, hb5⟩ : _ ∧ _ ∧ _ ∧ _ ∧ _ ∧ _)
  replace hfb := hide hfb
  clear hE hR3 ks ki3 kr3 ke3 hB33 hin hb5 kv5 hzb hDx hD5 hX hva hvb hbe
  replace hW5 := hide hW5
  go_upto_region 8 with fail
  rw [hW5.out]
  have hbe := HV.out.2.2.1
  try rw [hbe]
  clear hW5 hbe
  go_wp2_with fail
  refine V1.mono ?_
  rintro e w6 ⟨rfl, hb6⟩
  have V2 := VV.out w6 hb6
  obtain ⟨hR3, ks, ki3, kr3, ke3, hB33, hin⟩ := HR.out
  obtain ⟨hva, hvb, hbe, hzb, kv5, hb5⟩ := HV.out
  rw [hbe] at hin
  clear V1 VV s0 s1 s2 s3 s4 s5 i0 i1 i2 i3 i4 i5 i6 i7 i8
  have hl6 := hb6.size
  obtain ⟨s0, s1, s2, s3, s4, s5⟩ := six_cells ((hb6.block (w.heap.size + 1) (by omega)).trans ((hb5.block (w.heap.size + 1) (by omega)).trans ks))
  obtain ⟨i0, i1, i2, i3, i4, i5, i6, i7, i8⟩ := nine_cells ((hb6.block bi (by omega)).trans ((hb5.block bi (by omega)).trans ki3))
  have HB6 := hide hb6
  clear hR3 ks ki3 kr3 ke3 hB33 hin hva hvb hbe hzb kv5 hb5 hl6 hb6
  go_wp2_with fail
  refine V2.mono ?_
  rintro e w7 ⟨rfl, hb7⟩
  obtain ⟨hR3, ks, ki3, kr3, ke3, hB33, hin⟩ := HR.out
  obtain ⟨hva, hvb, hbe, hzb, kv5, hb5⟩ := HV.out
  rw [hbe] at hin
  clear V2 s0 s1 s2 s3 s4 s5 i0 i1 i2 i3 i4 i5 i6 i7 i8
  have hb57 : Below W5.heap.size W5 w7 := HB6.out.trans (hb7.mono HB6.out.size)
  have hb37 : Below be W3 w7 := hb5.trans (hb57.mono (by omega))
  have hz7 := hb57.size
  have ks7 : w7.heap[w.heap.size + 1]? = _ := (hb37.block _ (by omega)).trans ks
  have ki7 : w7.heap[bi]? = _ := (hb37.block _ (by omega)).trans ki3
  have kr7 : w7.heap[w.heap.size + 1 + 1]? = _ := (hb37.block _ (by omega)).trans kr3
  have ke7 : w7.heap[w.heap.size + 1 + 1 + 1]? = _ := (hb37.block _ (by omega)).trans ke3
  have kv7 : w7.heap[be]? = _ := (hb57.block be hzb).trans kv5
  have hR7 : DRows w7 lo b0 b1 b2 b3 b4 b5 m p1 p2 p3 p4 p5 p6 := hR3.keep (fun b q1 q2 => hb37.block b (by omega)) (by omega)
  have hB7 : Below w.heap.size w w7 := hB33.trans (hb37.mono (by omega))
  have hin7 : w.heap.size + 1 + 1 + 1 < lo ∧ w.heap.size + 1 + 1 + 1 < bi ∧ bi < lo ∧ lo ≤ p6 ∧ p6 ≤ be ∧ be < w7.heap.size := by omega
  have H7 := hide (⟨hR7, ks7, ki7, kr7, ke7, kv7, hB7, hin7⟩ : _ ∧ _ ∧ _ ∧ _ ∧ _ ∧ _ ∧ _ ∧ _)
  obtain ⟨s0, s1, s2, s3, s4, s5⟩ := six_cells ks7
  obtain ⟨i0, i1, i2, i3, i4, i5, i6, i7, i8⟩ := nine_cells ki7
  obtain ⟨g3, eb3, -, -, hc3, hf3, -⟩ := hR7.pc (i := t) (by rw [HM.out.1]; exact ht)
  subst eb3
  have hX := HD.out.2
  obtain ⟨rn, hrn⟩ : ∃ rn : Nat, x.r = rn := ⟨x.r.toNat, by have := hX.r.1; omega⟩
  obtain ⟨yn, hyn⟩ : ∃ yn : Nat, x.x = yn := ⟨x.x.toNat, by have := hX.x0; omega⟩
  have hr4 : rn < 4 := by have := hX.r.2; omega
  have hrt : x.r.toNat = rn := by omega
  have hyt : x.x.toNat = yn := by omega
  rw [hrn] at i1
  rw [hyn] at i6
  obtain ⟨k, hk⟩ : ∃ k, t * 4 + rn = k := ⟨_, rfl⟩
  obtain ⟨tq, htq⟩ : ∃ q, t * 4 = q := ⟨_, rfl⟩
  obtain ⟨pc, hpc⟩ : ∃ pc, (m.th t).pc = pc := ⟨_, rfl⟩
  obtain ⟨pc1, hpc1⟩ : ∃ q, pc + 1 = q := ⟨_, rfl⟩
  have hpcb : pc ≤ 24 := by rw [← hpc]; exact HM.out.2.2.2.1.2.2
  rw [hpc] at hc3
  have hw1 : wrap64 ((t : Int) * 4) = (tq : Int) := by rw [← htq]; have := wrap_nat (n := t * 4) (by omega); push_cast at this ⊢; exact this
  have hw2 : wrap64 ((tq : Int) + (rn : Int)) = (k : Int) := by rw [← hk, htq]; have := wrap_nat (n := tq + rn) (by omega); push_cast at this ⊢; exact this
  have hw3 : wrap64 ((pc : Int) + 1) = (pc1 : Int) := by rw [← hpc1]; have := wrap_nat (n := pc + 1) (by omega); push_cast at this ⊢; exact this
  have htn : (t : Int) < (nt : Int) := by omega
  have HN := hide (⟨hva, hvb, hrn, hyn, hr4, hrt, hyt, hk, hpc, hpc1, hX⟩ : _ ∧ _ ∧ _ ∧ _ ∧ _ ∧ _ ∧ _ ∧ _ ∧ _ ∧ _ ∧ _)
  clear hR3 ks ki3 kr3 ke3 hB33 hin hva hvb hbe hzb kv5 hb5 hb57 hb37 hz7 ks7 ki7 kr7 ke7 kv7 hR7 hB7 hin7 hX hrn hyn hr4 hrt hyt hk htq hpc hpc1 HB6 hb7 HV HR hpcb
  have HT := hide (⟨ht, h4⟩ : _ ∧ _)
  clear ht h4
  go_upto_region 12 with fail
  have hop := HN.out.2.2.2.2.2.2.2.2.2.2.op
  rcases hop with hop | hop | hop | hop | hop | hop | hop | hop | hop | hop | hop | hop | hop | hop | hop | hop | hop
  ·
   obtain ⟨hva, hvb, hrn, hyn, hr4, hrt, hyt, hk, hpc, hpc1, hX⟩ := HN.out
   obtain ⟨hR7, ks7, ki7, kr7, ke7, kv7, hB7, hin⟩ := H7.out
   rw [hop] at i0
   obtain ⟨g5, eb5, g1, g2, hc5, hf5, hR8⟩ := hR7.reg (t := t) (r := rn) (by rw [HM.out.1]; exact HT.out.1) hr4 HM.out.2.1
   simp only [hk] at hc5 hf5 hR8
   subst eb5
   have hkn : (k : Int) < (nr : Int) := by have := HM.out.2.2.1; omega
   obtain ⟨Wx, hWx⟩ : ∃ Wx, w7.setCell ⟨g5, k, none⟩ (.int .i64 va) = Wx := ⟨_, rfl⟩
   have hSw : SwR w7 lo b0 b1 b2 (some ⟨g3, 0, none⟩) b4 (some ⟨g5, 0, none⟩) p1 p2 p3 p4 p5 p6 be (swM m t x) Wx := by
    rw [sw_set m t hop, hrt, hva]
    refine ⟨?_, ?_, ?_⟩
    ·have q := hR8 va
     rw [hWx] at q
     exact q
    ·rw [← hWx, heap_setCell_other w7 ⟨g5, k, none⟩ be _ (by show be ≠ g5; omega)]; exact kv7
    ·rw [← hWx]; exact KeepS.set (S := fun k => (lo ≤ k ∧ k < p6) ∨ k = be) (KeepS.refl w7) (a := ⟨g5, k, none⟩) (.inl (.inl ⟨g1, g2⟩)) _
   have hto : toM m t x (swM m t x).2.2 = pc1 := by rw [to_stay m t (by rw [hop]; decide) (by rw [hop]; decide) (by rw [hop]; decide), sw_set m t hop]; show (m.th t).pc + 1 = pc1; omega
   clear hR8 g1 g2
   obtain ⟨W8, U1, U2, pv, w0, w1', w2', w3', w4', w5', e0', e1', e2', e3', hW8, hc3x, hf3x, s3x, i0x, i6x, hU1, hU2, S8, S9, S10, HS, HF⟩ := sw_fin hSw hto HM.out HQ.out HT.out.1 ks7 ki7 kr7 ke7 hB7 hin
   rw [hop] at i0x
   rw [hyn] at i6x
   clear HQ hSw hto hva hvb hrn hyn hr4 hrt hyt hk hpc hpc1 hX hR7 ks7 ki7 kr7 ke7 kv7 hB7 hin H7 HN HM HD HT hfb hres hv4 hf4 hl4
   unfold oSet bs at *
   go_upto_region 48 with fail
   try rw [hWx]
   clear hWx hc3 hf3 hc5 hf5 s0 s1 s2 s3 s4 s5 i0 i1 i2 i3 i4 i5 i6 i7 i8
   go_upto_region 51 with fail
   try rw [hW8]
   clear hW8 hc3x hf3x s3x i0x i6x
   refine wp_region_held_drew (S := FinS w be (.slice b0 nv d0) (.slice b1 nf d1) (.slice b2 nl d2) (.slice (some ⟨g3, 0, none⟩) nt d3) (.slice b4 nt d4) (.slice (some ⟨g5, 0, none⟩) nr d5) re) (by kernel_rfl) S8.out (fun hHeld => ?_)
   refine tk 0 hHeld ?_
   refine tk 1 hHeld ?_
   refine rd 2 (fun K hK => ?_)
   refine wp_store_sub _ _ _ rfl (w.heap.size + 1 + 1) 0 #[.slice b0 nv d0, .slice b1 nf d1, .slice b2 nl d2, .slice (some ⟨g3, 0, none⟩) nt d3, .slice b4 nt d4, .slice (some ⟨g5, 0, none⟩) nr d5] rfl rfl (some6 HS.out.1) (fun j _ => free_block HS.out.1 _) Tryz.sizeSt one6 ?_
   rw [show (#[Value.slice b0 nv d0, .slice b1 nf d1, .slice b2 nl d2, .slice (some ⟨g3, 0, none⟩) nt d3, .slice b4 nt d4, .slice (some ⟨g5, 0, none⟩) nr d5] : Array Value).toList = [.slice b0 nv d0, .slice b1 nf d1, .slice b2 nl d2, .slice (some ⟨g3, 0, none⟩) nt d3, .slice b4 nt d4, .slice (some ⟨g5, 0, none⟩) nr d5] from rfl, hU1.out]
   refine hK.out _ _ S9.out (fun hHeld => ?_)
   clear hK K
   try simp only [Act.put, sq]
   refine rd 3 (fun K hK => ?_)
   refine wp_store_sub _ _ _ rfl (w.heap.size + 1 + 1 + 1) 0 #[.int .i64 re.t, .int .i64 re.k, .int .i64 re.o, .int .i64 re.v] rfl rfl (some4 HS.out.2) (fun j _ => free_block HS.out.2 _) Tryz.sizeRe one_ev ?_
   rw [show (#[Value.int .i64 re.t, .int .i64 re.k, .int .i64 re.o, .int .i64 re.v] : Array Value).toList = [.int .i64 re.t, .int .i64 re.k, .int .i64 re.o, .int .i64 re.v] from rfl, hU2.out]
   refine hK.out _ _ S10.out (fun hHeld => ?_)
   clear hK K
   try simp only [Act.put, sq]
   refine wpAnyH_done (by kernel_rfl) ?_ _
   have hKr := ‹∀ (a : Act) (w : World), Code.wp Tryz.prog Code.ret _ a w → _›
   refine hKr _ _ (wp_ret ?_)
   obtain ⟨k1, k2, k3, k4, k5⟩ := HF.out
   exact bodyPost_ret (two_val rfl rfl rfl k1 k2) rfl ⟨_, _, _, _, _, _, ⟨_, _, _, _, _, _, rfl⟩, k5, k3, k4⟩
  ·
   obtain ⟨hva, hvb, hrn, hyn, hr4, hrt, hyt, hk, hpc, hpc1, hX⟩ := HN.out
   obtain ⟨hR7, ks7, ki7, kr7, ke7, kv7, hB7, hin⟩ := H7.out
   rw [hop] at i0
   obtain ⟨g5, eb5, g1, g2, hc5, hf5, hR8⟩ := hR7.reg (t := t) (r := rn) (by rw [HM.out.1]; exact HT.out.1) hr4 HM.out.2.1
   simp only [hk] at hc5 hf5 hR8
   subst eb5
   have hkn : (k : Int) < (nr : Int) := by have := HM.out.2.2.1; omega
   obtain ⟨⟨va0, va1⟩, ⟨vb0, vb1⟩, -⟩ := HM.out.2.2.2.1
   rw [hva] at va0 va1
   rw [hvb] at vb0 vb1
   obtain ⟨vl, hvl⟩ : ∃ v, (va + vb) % 1000 = v := ⟨_, rfl⟩
   have hvr : wrap64 vl = vl := by rw [← hvl]; unfold wrap64; omega
   obtain ⟨sm, hsm⟩ : ∃ v, va + vb = v := ⟨_, rfl⟩
   have hw4 : wrap64 (va + vb) = sm := by rw [← hsm]; unfold wrap64; omega
   have hw5 : Int.tmod sm 1000 = vl := by rw [← hvl, hsm]; exact Int.tmod_eq_emod_of_nonneg (by omega)
   obtain ⟨Wx, hWx⟩ : ∃ Wx, w7.setCell ⟨g5, k, none⟩ (.int .i64 vl) = Wx := ⟨_, rfl⟩
   have hSw : SwR w7 lo b0 b1 b2 (some ⟨g3, 0, none⟩) b4 (some ⟨g5, 0, none⟩) p1 p2 p3 p4 p5 p6 be (swM m t x) Wx := by
    rw [sw_add m t hop, hrt, hva, hvb, hvl]
    refine ⟨?_, ?_, ?_⟩
    ·have q := hR8 vl
     rw [hWx] at q
     exact q
    ·rw [← hWx, heap_setCell_other w7 ⟨g5, k, none⟩ be _ (by show be ≠ g5; omega)]; exact kv7
    ·rw [← hWx]; exact KeepS.set (S := fun k => (lo ≤ k ∧ k < p6) ∨ k = be) (KeepS.refl w7) (a := ⟨g5, k, none⟩) (.inl (.inl ⟨g1, g2⟩)) _
   have hto : toM m t x (swM m t x).2.2 = pc1 := by rw [to_stay m t (by rw [hop]; decide) (by rw [hop]; decide) (by rw [hop]; decide), sw_add m t hop]; show (m.th t).pc + 1 = pc1; omega
   clear va0 va1 vb0 vb1 hsm hvl
   clear hR8 g1 g2
   obtain ⟨W8, U1, U2, pv, w0, w1', w2', w3', w4', w5', e0', e1', e2', e3', hW8, hc3x, hf3x, s3x, i0x, i6x, hU1, hU2, S8, S9, S10, HS, HF⟩ := sw_fin hSw hto HM.out HQ.out HT.out.1 ks7 ki7 kr7 ke7 hB7 hin
   rw [hop] at i0x
   rw [hyn] at i6x
   clear HQ hSw hto hva hvb hrn hyn hr4 hrt hyt hk hpc hpc1 hX hR7 ks7 ki7 kr7 ke7 kv7 hB7 hin H7 HN HM HD HT hfb hres hv4 hf4 hl4
   unfold oAdd bs at *
   go_upto_region 48 with fail
   try rw [hWx]
   clear hWx hc3 hf3 hc5 hf5 s0 s1 s2 s3 s4 s5 i0 i1 i2 i3 i4 i5 i6 i7 i8
   go_upto_region 51 with fail
   try rw [hW8]
   clear hW8 hc3x hf3x s3x i0x i6x
   refine wp_region_held_drew (S := FinS w be (.slice b0 nv d0) (.slice b1 nf d1) (.slice b2 nl d2) (.slice (some ⟨g3, 0, none⟩) nt d3) (.slice b4 nt d4) (.slice (some ⟨g5, 0, none⟩) nr d5) re) (by kernel_rfl) S8.out (fun hHeld => ?_)
   refine tk 0 hHeld ?_
   refine tk 1 hHeld ?_
   refine rd 2 (fun K hK => ?_)
   refine wp_store_sub _ _ _ rfl (w.heap.size + 1 + 1) 0 #[.slice b0 nv d0, .slice b1 nf d1, .slice b2 nl d2, .slice (some ⟨g3, 0, none⟩) nt d3, .slice b4 nt d4, .slice (some ⟨g5, 0, none⟩) nr d5] rfl rfl (some6 HS.out.1) (fun j _ => free_block HS.out.1 _) Tryz.sizeSt one6 ?_
   rw [show (#[Value.slice b0 nv d0, .slice b1 nf d1, .slice b2 nl d2, .slice (some ⟨g3, 0, none⟩) nt d3, .slice b4 nt d4, .slice (some ⟨g5, 0, none⟩) nr d5] : Array Value).toList = [.slice b0 nv d0, .slice b1 nf d1, .slice b2 nl d2, .slice (some ⟨g3, 0, none⟩) nt d3, .slice b4 nt d4, .slice (some ⟨g5, 0, none⟩) nr d5] from rfl, hU1.out]
   refine hK.out _ _ S9.out (fun hHeld => ?_)
   clear hK K
   try simp only [Act.put, sq]
   refine rd 3 (fun K hK => ?_)
   refine wp_store_sub _ _ _ rfl (w.heap.size + 1 + 1 + 1) 0 #[.int .i64 re.t, .int .i64 re.k, .int .i64 re.o, .int .i64 re.v] rfl rfl (some4 HS.out.2) (fun j _ => free_block HS.out.2 _) Tryz.sizeRe one_ev ?_
   rw [show (#[Value.int .i64 re.t, .int .i64 re.k, .int .i64 re.o, .int .i64 re.v] : Array Value).toList = [.int .i64 re.t, .int .i64 re.k, .int .i64 re.o, .int .i64 re.v] from rfl, hU2.out]
   refine hK.out _ _ S10.out (fun hHeld => ?_)
   clear hK K
   try simp only [Act.put, sq]
   refine wpAnyH_done (by kernel_rfl) ?_ _
   have hKr := ‹∀ (a : Act) (w : World), Code.wp Tryz.prog Code.ret _ a w → _›
   refine hKr _ _ (wp_ret ?_)
   obtain ⟨k1, k2, k3, k4, k5⟩ := HF.out
   exact bodyPost_ret (two_val rfl rfl rfl k1 k2) rfl ⟨_, _, _, _, _, _, ⟨_, _, _, _, _, _, rfl⟩, k5, k3, k4⟩
  ·
   obtain ⟨hva, hvb, hrn, hyn, hr4, hrt, hyt, hk, hpc, hpc1, hX⟩ := HN.out
   obtain ⟨hR7, ks7, ki7, kr7, ke7, kv7, hB7, hin⟩ := H7.out
   rw [hop] at i0
   obtain ⟨g5, eb5, g1, g2, hc5, hf5, hR8⟩ := hR7.reg (t := t) (r := rn) (by rw [HM.out.1]; exact HT.out.1) hr4 HM.out.2.1
   simp only [hk] at hc5 hf5 hR8
   subst eb5
   have hkn : (k : Int) < (nr : Int) := by have := HM.out.2.2.1; omega
   obtain ⟨⟨va0, va1⟩, ⟨vb0, vb1⟩, -⟩ := HM.out.2.2.2.1
   rw [hva] at va0 va1
   rw [hvb] at vb0 vb1
   obtain ⟨vl, hvl⟩ : ∃ v, (va - vb + 1000) % 1000 = v := ⟨_, rfl⟩
   have hvr : wrap64 vl = vl := by rw [← hvl]; unfold wrap64; omega
   obtain ⟨sm, hsm⟩ : ∃ v, va - vb = v := ⟨_, rfl⟩
   obtain ⟨sn, hsn⟩ : ∃ v, sm + 1000 = v := ⟨_, rfl⟩
   have hw4 : wrap64 (va - vb) = sm := by rw [← hsm]; unfold wrap64; omega
   have hw6 : wrap64 (sm + 1000) = sn := by rw [← hsn]; unfold wrap64; omega
   have hw5 : Int.tmod sn 1000 = vl := by rw [← hvl, ← hsn, ← hsm]; exact Int.tmod_eq_emod_of_nonneg (by omega)
   obtain ⟨Wx, hWx⟩ : ∃ Wx, w7.setCell ⟨g5, k, none⟩ (.int .i64 vl) = Wx := ⟨_, rfl⟩
   have hSw : SwR w7 lo b0 b1 b2 (some ⟨g3, 0, none⟩) b4 (some ⟨g5, 0, none⟩) p1 p2 p3 p4 p5 p6 be (swM m t x) Wx := by
    rw [sw_sub m t hop, hrt, hva, hvb, hvl]
    refine ⟨?_, ?_, ?_⟩
    ·have q := hR8 vl
     rw [hWx] at q
     exact q
    ·rw [← hWx, heap_setCell_other w7 ⟨g5, k, none⟩ be _ (by show be ≠ g5; omega)]; exact kv7
    ·rw [← hWx]; exact KeepS.set (S := fun k => (lo ≤ k ∧ k < p6) ∨ k = be) (KeepS.refl w7) (a := ⟨g5, k, none⟩) (.inl (.inl ⟨g1, g2⟩)) _
   have hto : toM m t x (swM m t x).2.2 = pc1 := by rw [to_stay m t (by rw [hop]; decide) (by rw [hop]; decide) (by rw [hop]; decide), sw_sub m t hop]; show (m.th t).pc + 1 = pc1; omega
   clear va0 va1 vb0 vb1 hsm hvl hsn
   clear hR8 g1 g2
   obtain ⟨W8, U1, U2, pv, w0, w1', w2', w3', w4', w5', e0', e1', e2', e3', hW8, hc3x, hf3x, s3x, i0x, i6x, hU1, hU2, S8, S9, S10, HS, HF⟩ := sw_fin hSw hto HM.out HQ.out HT.out.1 ks7 ki7 kr7 ke7 hB7 hin
   rw [hop] at i0x
   rw [hyn] at i6x
   clear HQ hSw hto hva hvb hrn hyn hr4 hrt hyt hk hpc hpc1 hX hR7 ks7 ki7 kr7 ke7 kv7 hB7 hin H7 HN HM HD HT hfb hres hv4 hf4 hl4
   unfold oSub bs at *
   go_upto_region 48 with fail
   try rw [hWx]
   clear hWx hc3 hf3 hc5 hf5 s0 s1 s2 s3 s4 s5 i0 i1 i2 i3 i4 i5 i6 i7 i8
   go_upto_region 51 with fail
   try rw [hW8]
   clear hW8 hc3x hf3x s3x i0x i6x
   refine wp_region_held_drew (S := FinS w be (.slice b0 nv d0) (.slice b1 nf d1) (.slice b2 nl d2) (.slice (some ⟨g3, 0, none⟩) nt d3) (.slice b4 nt d4) (.slice (some ⟨g5, 0, none⟩) nr d5) re) (by kernel_rfl) S8.out (fun hHeld => ?_)
   refine tk 0 hHeld ?_
   refine tk 1 hHeld ?_
   refine rd 2 (fun K hK => ?_)
   refine wp_store_sub _ _ _ rfl (w.heap.size + 1 + 1) 0 #[.slice b0 nv d0, .slice b1 nf d1, .slice b2 nl d2, .slice (some ⟨g3, 0, none⟩) nt d3, .slice b4 nt d4, .slice (some ⟨g5, 0, none⟩) nr d5] rfl rfl (some6 HS.out.1) (fun j _ => free_block HS.out.1 _) Tryz.sizeSt one6 ?_
   rw [show (#[Value.slice b0 nv d0, .slice b1 nf d1, .slice b2 nl d2, .slice (some ⟨g3, 0, none⟩) nt d3, .slice b4 nt d4, .slice (some ⟨g5, 0, none⟩) nr d5] : Array Value).toList = [.slice b0 nv d0, .slice b1 nf d1, .slice b2 nl d2, .slice (some ⟨g3, 0, none⟩) nt d3, .slice b4 nt d4, .slice (some ⟨g5, 0, none⟩) nr d5] from rfl, hU1.out]
   refine hK.out _ _ S9.out (fun hHeld => ?_)
   clear hK K
   try simp only [Act.put, sq]
   refine rd 3 (fun K hK => ?_)
   refine wp_store_sub _ _ _ rfl (w.heap.size + 1 + 1 + 1) 0 #[.int .i64 re.t, .int .i64 re.k, .int .i64 re.o, .int .i64 re.v] rfl rfl (some4 HS.out.2) (fun j _ => free_block HS.out.2 _) Tryz.sizeRe one_ev ?_
   rw [show (#[Value.int .i64 re.t, .int .i64 re.k, .int .i64 re.o, .int .i64 re.v] : Array Value).toList = [.int .i64 re.t, .int .i64 re.k, .int .i64 re.o, .int .i64 re.v] from rfl, hU2.out]
   refine hK.out _ _ S10.out (fun hHeld => ?_)
   clear hK K
   try simp only [Act.put, sq]
   refine wpAnyH_done (by kernel_rfl) ?_ _
   have hKr := ‹∀ (a : Act) (w : World), Code.wp Tryz.prog Code.ret _ a w → _›
   refine hKr _ _ (wp_ret ?_)
   obtain ⟨k1, k2, k3, k4, k5⟩ := HF.out
   exact bodyPost_ret (two_val rfl rfl rfl k1 k2) rfl ⟨_, _, _, _, _, _, ⟨_, _, _, _, _, _, rfl⟩, k5, k3, k4⟩
  ·
   obtain ⟨hva, hvb, hrn, hyn, hr4, hrt, hyt, hk, hpc, hpc1, hX⟩ := HN.out
   obtain ⟨hR7, ks7, ki7, kr7, ke7, kv7, hB7, hin⟩ := H7.out
   rw [hop] at i0
   obtain ⟨g5, eb5, g1, g2, hc5, hf5, hR8⟩ := hR7.reg (t := t) (r := rn) (by rw [HM.out.1]; exact HT.out.1) hr4 HM.out.2.1
   simp only [hk] at hc5 hf5 hR8
   subst eb5
   have hkn : (k : Int) < (nr : Int) := by have := HM.out.2.2.1; omega
   obtain ⟨⟨va0, va1⟩, ⟨vb0, vb1⟩, -⟩ := HM.out.2.2.2.1
   rw [hva] at va0 va1
   rw [hvb] at vb0 vb1
   obtain ⟨vl, hvl⟩ : ∃ v, va * vb % 1000 = v := ⟨_, rfl⟩
   have hvr : wrap64 vl = vl := by rw [← hvl]; unfold wrap64; omega
   have hm0 := Int.mul_nonneg va0 vb0
   have hm1 := mul_bnd (a := va) (b := vb) ⟨va0, va1⟩ ⟨vb0, vb1⟩
   obtain ⟨sm, hsm⟩ : ∃ v, va * vb = v := ⟨_, rfl⟩
   have hw4 : wrap64 (va * vb) = sm := by rw [hsm] at hm0 hm1 ⊢; unfold wrap64; omega
   have hw5 : Int.tmod sm 1000 = vl := by rw [← hvl, hsm]; exact Int.tmod_eq_emod_of_nonneg (by omega)
   clear hm0 hm1
   obtain ⟨Wx, hWx⟩ : ∃ Wx, w7.setCell ⟨g5, k, none⟩ (.int .i64 vl) = Wx := ⟨_, rfl⟩
   have hSw : SwR w7 lo b0 b1 b2 (some ⟨g3, 0, none⟩) b4 (some ⟨g5, 0, none⟩) p1 p2 p3 p4 p5 p6 be (swM m t x) Wx := by
    rw [sw_mul m t hop, hrt, hva, hvb, hvl]
    refine ⟨?_, ?_, ?_⟩
    ·have q := hR8 vl
     rw [hWx] at q
     exact q
    ·rw [← hWx, heap_setCell_other w7 ⟨g5, k, none⟩ be _ (by show be ≠ g5; omega)]; exact kv7
    ·rw [← hWx]; exact KeepS.set (S := fun k => (lo ≤ k ∧ k < p6) ∨ k = be) (KeepS.refl w7) (a := ⟨g5, k, none⟩) (.inl (.inl ⟨g1, g2⟩)) _
   have hto : toM m t x (swM m t x).2.2 = pc1 := by rw [to_stay m t (by rw [hop]; decide) (by rw [hop]; decide) (by rw [hop]; decide), sw_mul m t hop]; show (m.th t).pc + 1 = pc1; omega
   clear va0 va1 vb0 vb1 hsm hvl
   clear hR8 g1 g2
   obtain ⟨W8, U1, U2, pv, w0, w1', w2', w3', w4', w5', e0', e1', e2', e3', hW8, hc3x, hf3x, s3x, i0x, i6x, hU1, hU2, S8, S9, S10, HS, HF⟩ := sw_fin hSw hto HM.out HQ.out HT.out.1 ks7 ki7 kr7 ke7 hB7 hin
   rw [hop] at i0x
   rw [hyn] at i6x
   clear HQ hSw hto hva hvb hrn hyn hr4 hrt hyt hk hpc hpc1 hX hR7 ks7 ki7 kr7 ke7 kv7 hB7 hin H7 HN HM HD HT hfb hres hv4 hf4 hl4
   unfold oMul bs at *
   go_upto_region 48 with fail
   try rw [hWx]
   clear hWx hc3 hf3 hc5 hf5 s0 s1 s2 s3 s4 s5 i0 i1 i2 i3 i4 i5 i6 i7 i8
   go_upto_region 51 with fail
   try rw [hW8]
   clear hW8 hc3x hf3x s3x i0x i6x
   refine wp_region_held_drew (S := FinS w be (.slice b0 nv d0) (.slice b1 nf d1) (.slice b2 nl d2) (.slice (some ⟨g3, 0, none⟩) nt d3) (.slice b4 nt d4) (.slice (some ⟨g5, 0, none⟩) nr d5) re) (by kernel_rfl) S8.out (fun hHeld => ?_)
   refine tk 0 hHeld ?_
   refine tk 1 hHeld ?_
   refine rd 2 (fun K hK => ?_)
   refine wp_store_sub _ _ _ rfl (w.heap.size + 1 + 1) 0 #[.slice b0 nv d0, .slice b1 nf d1, .slice b2 nl d2, .slice (some ⟨g3, 0, none⟩) nt d3, .slice b4 nt d4, .slice (some ⟨g5, 0, none⟩) nr d5] rfl rfl (some6 HS.out.1) (fun j _ => free_block HS.out.1 _) Tryz.sizeSt one6 ?_
   rw [show (#[Value.slice b0 nv d0, .slice b1 nf d1, .slice b2 nl d2, .slice (some ⟨g3, 0, none⟩) nt d3, .slice b4 nt d4, .slice (some ⟨g5, 0, none⟩) nr d5] : Array Value).toList = [.slice b0 nv d0, .slice b1 nf d1, .slice b2 nl d2, .slice (some ⟨g3, 0, none⟩) nt d3, .slice b4 nt d4, .slice (some ⟨g5, 0, none⟩) nr d5] from rfl, hU1.out]
   refine hK.out _ _ S9.out (fun hHeld => ?_)
   clear hK K
   try simp only [Act.put, sq]
   refine rd 3 (fun K hK => ?_)
   refine wp_store_sub _ _ _ rfl (w.heap.size + 1 + 1 + 1) 0 #[.int .i64 re.t, .int .i64 re.k, .int .i64 re.o, .int .i64 re.v] rfl rfl (some4 HS.out.2) (fun j _ => free_block HS.out.2 _) Tryz.sizeRe one_ev ?_
   rw [show (#[Value.int .i64 re.t, .int .i64 re.k, .int .i64 re.o, .int .i64 re.v] : Array Value).toList = [.int .i64 re.t, .int .i64 re.k, .int .i64 re.o, .int .i64 re.v] from rfl, hU2.out]
   refine hK.out _ _ S10.out (fun hHeld => ?_)
   clear hK K
   try simp only [Act.put, sq]
   refine wpAnyH_done (by kernel_rfl) ?_ _
   have hKr := ‹∀ (a : Act) (w : World), Code.wp Tryz.prog Code.ret _ a w → _›
   refine hKr _ _ (wp_ret ?_)
   obtain ⟨k1, k2, k3, k4, k5⟩ := HF.out
   exact bodyPost_ret (two_val rfl rfl rfl k1 k2) rfl ⟨_, _, _, _, _, _, ⟨_, _, _, _, _, _, rfl⟩, k5, k3, k4⟩
  ·
   obtain ⟨hva, hvb, hrn, hyn, hr4, hrt, hyt, hk, hpc, hpc1, hX⟩ := HN.out
   obtain ⟨hR7, ks7, ki7, kr7, ke7, kv7, hB7, hin⟩ := H7.out
   rw [hop] at i0
   obtain ⟨g5, eb5, g1, g2, hc5, hf5, hR8⟩ := hR7.reg (t := t) (r := rn) (by rw [HM.out.1]; exact HT.out.1) hr4 HM.out.2.1
   simp only [hk] at hc5 hf5 hR8
   subst eb5
   have hkn : (k : Int) < (nr : Int) := by have := HM.out.2.2.1; have := HT.out.1; omega
   have hyl : yn < m.vars.length := by rw [HM.out.2.2.2.2.2.1]; have := hX.vr (.inl hop); omega
   obtain ⟨gg, ebb, -, -, hcg, -, -⟩ := hR7.var (i := yn) hyl
   subst ebb
   have hyi : (yn : Int) < (nv : Int) := by have := HM.out.2.2.2.2.2.1; omega
   obtain ⟨lv, hlv⟩ : ∃ v, m.vars.getD yn 0 = v := ⟨_, rfl⟩
   rw [hlv] at hcg
   obtain ⟨Wy, hWy⟩ : ∃ Wy, w7.drew.setCell ⟨g5, k, none⟩ (.int .i64 lv) = Wy := ⟨_, rfl⟩
   have hky : KeepS (fun k => (lo ≤ k ∧ k < p6) ∨ k = be) w7 Wy := by rw [← hWy]; exact KeepS.set (S := fun k => (lo ≤ k ∧ k < p6) ∨ k = be) (KeepS.refl w7).drew (a := ⟨g5, k, none⟩) (.inl (.inl ⟨g1, g2⟩)) _
   have hRy : DRows Wy lo (some ⟨gg, 0, none⟩) b1 b2 (some ⟨g3, 0, none⟩) b4 (some ⟨g5, 0, none⟩) (m.setT t { m.th t with regs := (m.th t).regs.set rn lv }) p1 p2 p3 p4 p5 p6 := by
    have q := hR8 lv
    refine q.keep (fun c _ _ => ?_) ?_
    ·rw [← hWy]; rfl
    ·rw [← hWy]; exact Nat.le_refl _
   have kvy : Wy.heap[be]? = some (.cells #[.int .i64 (t : Int), .int .i64 0, .int .i64 0, .int .i64 0] 50) := by
    rw [← hWy, heap_setCell_other w7.drew ⟨g5, k, none⟩ be _ (by show be ≠ g5; omega)]; exact kv7
   obtain ⟨gg', ebb', -, -, hcz, -, -⟩ := hRy.var (i := yn) hyl
   simp only [Option.some.injEq, Addr.mk.injEq, and_true] at ebb'
   subst ebb'
   have hcy : Wy.cell? ⟨gg, yn, none⟩ = some (.int .i64 (m.vars.getD yn 0)) := hcz
   rw [hlv] at hcy
   clear hcz
   obtain ⟨e0, e1, e2, e3⟩ := four_cells kvy
   obtain ⟨fe0, fe1, fe2, fe3⟩ := (⟨free_block kvy 0, free_block kvy 1, free_block kvy 2, free_block kvy 3⟩ : _ ∧ _ ∧ _ ∧ _)
   obtain ⟨j0, j1, j2, j3, j4, j5, j6, j7, j8⟩ := nine_cells ((hky.block bi (by omega) (by omega)).trans ki7)
   rw [hyn] at j6
   obtain ⟨q0, q1, q2, q3, q4, q5⟩ := six_cells ((hky.block (w.heap.size + 1) (by omega) (by omega)).trans ks7)
   obtain ⟨Wx, hWx⟩ : ∃ Wx, ((((Wy.setCell ⟨be, 0, none⟩ (.int .i64 (t : Int))).setCell ⟨be, 1, none⟩ (.int .i64 1)).setCell ⟨be, 2, none⟩ (.int .i64 (yn : Int))).setCell ⟨be, 3, none⟩ (.int .i64 lv)).drew = Wx := ⟨_, rfl⟩
   have hkx0 : KeepS (fun k => k = be) Wy Wx := by rw [← hWx]; exact KeepS.drew (S := fun k => k = be) (keep_four _ _ _ _ (KeepS.refl Wy) (.inl rfl))
   have zy := hky.size
   have hSw : SwR w7 lo (some ⟨gg, 0, none⟩) b1 b2 (some ⟨g3, 0, none⟩) b4 (some ⟨g5, 0, none⟩) p1 p2 p3 p4 p5 p6 be (swM m t x) Wx := by
    rw [sw_load m t hop, hyt, hrt, hyn, hlv]
    refine ⟨hRy.keep (fun b q1 q2 => hkx0.block b (by omega) (by omega)) hkx0.size, ?_, ?_⟩
    ·rw [← hWx]; exact four_sets _ _ _ _ kvy
    ·exact hky.trans (hkx0.mono fun k _ e => .inr e)
   have hto : toM m t x (swM m t x).2.2 = pc1 := by rw [to_stay m t (by rw [hop]; decide) (by rw [hop]; decide) (by rw [hop]; decide), sw_load m t hop]; show (m.th t).pc + 1 = pc1; omega
   clear hkx0 zy hRy hR8 g1 g2 hyl hky kvy hlv
   obtain ⟨W8, U1, U2, pv, w0, w1', w2', w3', w4', w5', e0', e1', e2', e3', hW8, hc3x, hf3x, s3x, i0x, i6x, hU1, hU2, S8, S9, S10, HS, HF⟩ := sw_fin hSw hto HM.out HQ.out HT.out.1 ks7 ki7 kr7 ke7 hB7 hin
   rw [hop] at i0x
   rw [hyn] at i6x
   clear HQ hSw hto hva hvb hrn hyn hr4 hrt hyt hk hpc hpc1 hX hR7 ks7 ki7 kr7 ke7 kv7 hB7 hin H7 HN HM HD HT hfb hres hv4 hf4 hl4
   unfold oLoad bs at *
   go_upto_region 22 with fail
   go_region
   all_goals
    go_upto_region 23 with fail
    try rw [hWy]
    clear hWy hc3 hf3 hc5 hf5 hcg s0 s1 s2 s3 s4 s5 i0 i1 i2 i3 i4 i5 i6 i7 i8
    go_region
   all_goals
    go_upto_region 48 with fail
    try rw [hWx]
    clear hWx hcy e0 e1 e2 e3 fe0 fe1 fe2 fe3 j0 j1 j2 j3 j4 j5 j6 j7 j8 q0 q1 q2 q3 q4 q5
   go_upto_region 51 with fail
   try rw [hW8]
   clear hW8 hc3x hf3x s3x i0x i6x
   refine wp_region_held_drew (S := FinS w be (.slice (some ⟨gg, 0, none⟩) nv d0) (.slice b1 nf d1) (.slice b2 nl d2) (.slice (some ⟨g3, 0, none⟩) nt d3) (.slice b4 nt d4) (.slice (some ⟨g5, 0, none⟩) nr d5) re) (by kernel_rfl) S8.out (fun hHeld => ?_)
   refine tk 0 hHeld ?_
   refine tk 1 hHeld ?_
   refine rd 2 (fun K hK => ?_)
   refine wp_store_sub _ _ _ rfl (w.heap.size + 1 + 1) 0 #[.slice (some ⟨gg, 0, none⟩) nv d0, .slice b1 nf d1, .slice b2 nl d2, .slice (some ⟨g3, 0, none⟩) nt d3, .slice b4 nt d4, .slice (some ⟨g5, 0, none⟩) nr d5] rfl rfl (some6 HS.out.1) (fun j _ => free_block HS.out.1 _) Tryz.sizeSt one6 ?_
   rw [show (#[Value.slice (some ⟨gg, 0, none⟩) nv d0, .slice b1 nf d1, .slice b2 nl d2, .slice (some ⟨g3, 0, none⟩) nt d3, .slice b4 nt d4, .slice (some ⟨g5, 0, none⟩) nr d5] : Array Value).toList = [.slice (some ⟨gg, 0, none⟩) nv d0, .slice b1 nf d1, .slice b2 nl d2, .slice (some ⟨g3, 0, none⟩) nt d3, .slice b4 nt d4, .slice (some ⟨g5, 0, none⟩) nr d5] from rfl, hU1.out]
   refine hK.out _ _ S9.out (fun hHeld => ?_)
   clear hK K
   try simp only [Act.put, sq]
   refine rd 3 (fun K hK => ?_)
   refine wp_store_sub _ _ _ rfl (w.heap.size + 1 + 1 + 1) 0 #[.int .i64 re.t, .int .i64 re.k, .int .i64 re.o, .int .i64 re.v] rfl rfl (some4 HS.out.2) (fun j _ => free_block HS.out.2 _) Tryz.sizeRe one_ev ?_
   rw [show (#[Value.int .i64 re.t, .int .i64 re.k, .int .i64 re.o, .int .i64 re.v] : Array Value).toList = [.int .i64 re.t, .int .i64 re.k, .int .i64 re.o, .int .i64 re.v] from rfl, hU2.out]
   refine hK.out _ _ S10.out (fun hHeld => ?_)
   clear hK K
   try simp only [Act.put, sq]
   refine wpAnyH_done (by kernel_rfl) ?_ _
   have hKr := ‹∀ (a : Act) (w : World), Code.wp Tryz.prog Code.ret _ a w → _›
   refine hKr _ _ (wp_ret ?_)
   obtain ⟨k1, k2, k3, k4, k5⟩ := HF.out
   exact bodyPost_ret (two_val rfl rfl rfl k1 k2) rfl ⟨_, _, _, _, _, _, ⟨_, _, _, _, _, _, rfl⟩, k5, k3, k4⟩
  ·
   obtain ⟨hva, hvb, hrn, hyn, hr4, hrt, hyt, hk, hpc, hpc1, hX⟩ := HN.out
   obtain ⟨hR7, ks7, ki7, kr7, ke7, kv7, hB7, hin⟩ := H7.out
   rw [hop] at i0
   have hyl : yn < m.vars.length := by rw [HM.out.2.2.2.2.2.1]; have := hX.vr (.inr hop); omega
   obtain ⟨gg, ebb, g1, g2, hcg, hfg, hR8⟩ := hR7.var (i := yn) hyl
   subst ebb
   have hyi : (yn : Int) < (nv : Int) := by have := HM.out.2.2.2.2.2.1; omega
   obtain ⟨Wy, hWy⟩ : ∃ Wy, w7.setCell ⟨gg, yn, none⟩ (.int .i64 va) = Wy := ⟨_, rfl⟩
   have hky : KeepS (fun k => (lo ≤ k ∧ k < p6) ∨ k = be) w7 Wy := by rw [← hWy]; exact KeepS.set (S := fun k => (lo ≤ k ∧ k < p6) ∨ k = be) (KeepS.refl w7) (a := ⟨gg, yn, none⟩) (.inl (.inl ⟨g1, g2⟩)) _
   have hRy := hR8 va
   rw [hWy] at hRy
   have kvy : Wy.heap[be]? = some (.cells #[.int .i64 (t : Int), .int .i64 0, .int .i64 0, .int .i64 0] 50) := by
    rw [← hWy, heap_setCell_other w7 ⟨gg, yn, none⟩ be _ (by show be ≠ gg; omega)]; exact kv7
   obtain ⟨e0, e1, e2, e3⟩ := four_cells kvy
   obtain ⟨fe0, fe1, fe2, fe3⟩ := (⟨free_block kvy 0, free_block kvy 1, free_block kvy 2, free_block kvy 3⟩ : _ ∧ _ ∧ _ ∧ _)
   obtain ⟨j0, j1, j2, j3, j4, j5, j6, j7, j8⟩ := nine_cells ((hky.block bi (by omega) (by omega)).trans ki7)
   rw [hyn] at j6
   obtain ⟨Wx, hWx⟩ : ∃ Wx, (((Wy.setCell ⟨be, 0, none⟩ (.int .i64 (t : Int))).setCell ⟨be, 1, none⟩ (.int .i64 2)).setCell ⟨be, 2, none⟩ (.int .i64 (yn : Int))).setCell ⟨be, 3, none⟩ (.int .i64 va) = Wx := ⟨_, rfl⟩
   have hkx0 : KeepS (fun k => k = be) Wy Wx := by rw [← hWx]; exact keep_four _ _ _ _ (KeepS.refl Wy) (.inl rfl)
   have zy := hky.size
   have hSw : SwR w7 lo (some ⟨gg, 0, none⟩) b1 b2 (some ⟨g3, 0, none⟩) b4 b5 p1 p2 p3 p4 p5 p6 be (swM m t x) Wx := by
    rw [sw_store m t hop, hyt, hva, hyn]
    refine ⟨hRy.keep (fun b q1 q2 => hkx0.block b (by omega) (by omega)) hkx0.size, ?_, ?_⟩
    ·rw [← hWx]; exact four_sets _ _ _ _ kvy
    ·exact hky.trans (hkx0.mono fun k _ e => .inr e)
   have hto : toM m t x (swM m t x).2.2 = pc1 := by rw [to_stay m t (by rw [hop]; decide) (by rw [hop]; decide) (by rw [hop]; decide), sw_store m t hop]; show (m.th t).pc + 1 = pc1; omega
   clear hkx0 zy hRy hR8 g1 g2 hyl hky kvy
   obtain ⟨W8, U1, U2, pv, w0, w1', w2', w3', w4', w5', e0', e1', e2', e3', hW8, hc3x, hf3x, s3x, i0x, i6x, hU1, hU2, S8, S9, S10, HS, HF⟩ := sw_fin hSw hto HM.out HQ.out HT.out.1 ks7 ki7 kr7 ke7 hB7 hin
   rw [hop] at i0x
   rw [hyn] at i6x
   clear HQ hSw hto hva hvb hrn hyn hr4 hrt hyt hk hpc hpc1 hX hR7 ks7 ki7 kr7 ke7 kv7 hB7 hin H7 HN HM HD HT hfb hres hv4 hf4 hl4
   unfold oStore bs at *
   go_upto_region 26 with fail
   try rw [hWy]
   clear hWy hc3 hf3 hcg hfg s0 s1 s2 s3 s4 s5 i0 i1 i2 i3 i4 i5 i6 i7 i8
   go_upto_region 48 with fail
   try rw [hWx]
   clear hWx e0 e1 e2 e3 fe0 fe1 fe2 fe3 j0 j1 j2 j3 j4 j5 j6 j7 j8
   go_upto_region 51 with fail
   try rw [hW8]
   clear hW8 hc3x hf3x s3x i0x i6x
   refine wp_region_held_drew (S := FinS w be (.slice (some ⟨gg, 0, none⟩) nv d0) (.slice b1 nf d1) (.slice b2 nl d2) (.slice (some ⟨g3, 0, none⟩) nt d3) (.slice b4 nt d4) (.slice b5 nr d5) re) (by kernel_rfl) S8.out (fun hHeld => ?_)
   refine tk 0 hHeld ?_
   refine tk 1 hHeld ?_
   refine rd 2 (fun K hK => ?_)
   refine wp_store_sub _ _ _ rfl (w.heap.size + 1 + 1) 0 #[.slice (some ⟨gg, 0, none⟩) nv d0, .slice b1 nf d1, .slice b2 nl d2, .slice (some ⟨g3, 0, none⟩) nt d3, .slice b4 nt d4, .slice b5 nr d5] rfl rfl (some6 HS.out.1) (fun j _ => free_block HS.out.1 _) Tryz.sizeSt one6 ?_
   rw [show (#[Value.slice (some ⟨gg, 0, none⟩) nv d0, .slice b1 nf d1, .slice b2 nl d2, .slice (some ⟨g3, 0, none⟩) nt d3, .slice b4 nt d4, .slice b5 nr d5] : Array Value).toList = [.slice (some ⟨gg, 0, none⟩) nv d0, .slice b1 nf d1, .slice b2 nl d2, .slice (some ⟨g3, 0, none⟩) nt d3, .slice b4 nt d4, .slice b5 nr d5] from rfl, hU1.out]
   refine hK.out _ _ S9.out (fun hHeld => ?_)
   clear hK K
   try simp only [Act.put, sq]
   refine rd 3 (fun K hK => ?_)
   refine wp_store_sub _ _ _ rfl (w.heap.size + 1 + 1 + 1) 0 #[.int .i64 re.t, .int .i64 re.k, .int .i64 re.o, .int .i64 re.v] rfl rfl (some4 HS.out.2) (fun j _ => free_block HS.out.2 _) Tryz.sizeRe one_ev ?_
   rw [show (#[Value.int .i64 re.t, .int .i64 re.k, .int .i64 re.o, .int .i64 re.v] : Array Value).toList = [.int .i64 re.t, .int .i64 re.k, .int .i64 re.o, .int .i64 re.v] from rfl, hU2.out]
   refine hK.out _ _ S10.out (fun hHeld => ?_)
   clear hK K
   try simp only [Act.put, sq]
   refine wpAnyH_done (by kernel_rfl) ?_ _
   have hKr := ‹∀ (a : Act) (w : World), Code.wp Tryz.prog Code.ret _ a w → _›
   refine hKr _ _ (wp_ret ?_)
   obtain ⟨k1, k2, k3, k4, k5⟩ := HF.out
   exact bodyPost_ret (two_val rfl rfl rfl k1 k2) rfl ⟨_, _, _, _, _, _, ⟨_, _, _, _, _, _, rfl⟩, k5, k3, k4⟩
  ·
   obtain ⟨hva, hvb, hrn, hyn, hr4, hrt, hyt, hk, hpc, hpc1, hX⟩ := HN.out
   obtain ⟨hR7, ks7, ki7, kr7, ke7, kv7, hB7, hin⟩ := H7.out
   rw [hop] at i0
   obtain ⟨g5, eb5, g1, g2, hc5, hf5, hR8⟩ := hR7.reg (t := t) (r := rn) (by rw [HM.out.1]; exact HT.out.1) hr4 HM.out.2.1
   simp only [hk] at hc5 hf5 hR8
   subst eb5
   have hkn : (k : Int) < (nr : Int) := by have := HM.out.2.2.1; have := HT.out.1; omega
   have hyl : yn < m.flags.length := by rw [HM.out.2.2.2.2.2.2.1]; have := hX.fl (.inl hop); omega
   obtain ⟨gg, ebb, -, -, hcg, -, -⟩ := hR7.flag (i := yn) hyl
   subst ebb
   have hyi : (yn : Int) < (nf : Int) := by have := HM.out.2.2.2.2.2.2.1; omega
   obtain ⟨lv, hlv⟩ : ∃ v, m.flags.getD yn 0 = v := ⟨_, rfl⟩
   rw [hlv] at hcg
   obtain ⟨Wy, hWy⟩ : ∃ Wy, w7.drew.setCell ⟨g5, k, none⟩ (.int .i64 lv) = Wy := ⟨_, rfl⟩
   have hky : KeepS (fun k => (lo ≤ k ∧ k < p6) ∨ k = be) w7 Wy := by rw [← hWy]; exact KeepS.set (S := fun k => (lo ≤ k ∧ k < p6) ∨ k = be) (KeepS.refl w7).drew (a := ⟨g5, k, none⟩) (.inl (.inl ⟨g1, g2⟩)) _
   have hRy : DRows Wy lo b0 (some ⟨gg, 0, none⟩) b2 (some ⟨g3, 0, none⟩) b4 (some ⟨g5, 0, none⟩) (m.setT t { m.th t with regs := (m.th t).regs.set rn lv }) p1 p2 p3 p4 p5 p6 := by
    have q := hR8 lv
    refine q.keep (fun c _ _ => ?_) ?_
    ·rw [← hWy]; rfl
    ·rw [← hWy]; exact Nat.le_refl _
   have kvy : Wy.heap[be]? = some (.cells #[.int .i64 (t : Int), .int .i64 0, .int .i64 0, .int .i64 0] 50) := by
    rw [← hWy, heap_setCell_other w7.drew ⟨g5, k, none⟩ be _ (by show be ≠ g5; omega)]; exact kv7
   obtain ⟨gg', ebb', -, -, hcz, -, -⟩ := hRy.flag (i := yn) hyl
   simp only [Option.some.injEq, Addr.mk.injEq, and_true] at ebb'
   subst ebb'
   have hcy : Wy.cell? ⟨gg, yn, none⟩ = some (.int .i64 (m.flags.getD yn 0)) := hcz
   rw [hlv] at hcy
   clear hcz
   obtain ⟨e0, e1, e2, e3⟩ := four_cells kvy
   obtain ⟨fe0, fe1, fe2, fe3⟩ := (⟨free_block kvy 0, free_block kvy 1, free_block kvy 2, free_block kvy 3⟩ : _ ∧ _ ∧ _ ∧ _)
   obtain ⟨j0, j1, j2, j3, j4, j5, j6, j7, j8⟩ := nine_cells ((hky.block bi (by omega) (by omega)).trans ki7)
   rw [hyn] at j6
   obtain ⟨q0, q1, q2, q3, q4, q5⟩ := six_cells ((hky.block (w.heap.size + 1) (by omega) (by omega)).trans ks7)
   obtain ⟨Wx, hWx⟩ : ∃ Wx, ((((Wy.setCell ⟨be, 0, none⟩ (.int .i64 (t : Int))).setCell ⟨be, 1, none⟩ (.int .i64 3)).setCell ⟨be, 2, none⟩ (.int .i64 (yn : Int))).setCell ⟨be, 3, none⟩ (.int .i64 lv)).drew = Wx := ⟨_, rfl⟩
   have hkx0 : KeepS (fun k => k = be) Wy Wx := by rw [← hWx]; exact KeepS.drew (S := fun k => k = be) (keep_four _ _ _ _ (KeepS.refl Wy) (.inl rfl))
   have zy := hky.size
   have hSw : SwR w7 lo b0 (some ⟨gg, 0, none⟩) b2 (some ⟨g3, 0, none⟩) b4 (some ⟨g5, 0, none⟩) p1 p2 p3 p4 p5 p6 be (swM m t x) Wx := by
    rw [sw_get m t hop, hyt, hrt, hyn, hlv]
    refine ⟨hRy.keep (fun b q1 q2 => hkx0.block b (by omega) (by omega)) hkx0.size, ?_, ?_⟩
    ·rw [← hWx]; exact four_sets _ _ _ _ kvy
    ·exact hky.trans (hkx0.mono fun k _ e => .inr e)
   have hto : toM m t x (swM m t x).2.2 = pc1 := by rw [to_stay m t (by rw [hop]; decide) (by rw [hop]; decide) (by rw [hop]; decide), sw_get m t hop]; show (m.th t).pc + 1 = pc1; omega
   clear hkx0 zy hRy hR8 g1 g2 hyl hky kvy hlv
   obtain ⟨W8, U1, U2, pv, w0, w1', w2', w3', w4', w5', e0', e1', e2', e3', hW8, hc3x, hf3x, s3x, i0x, i6x, hU1, hU2, S8, S9, S10, HS, HF⟩ := sw_fin hSw hto HM.out HQ.out HT.out.1 ks7 ki7 kr7 ke7 hB7 hin
   rw [hop] at i0x
   rw [hyn] at i6x
   clear HQ hSw hto hva hvb hrn hyn hr4 hrt hyt hk hpc hpc1 hX hR7 ks7 ki7 kr7 ke7 kv7 hB7 hin H7 HN HM HD HT hfb hres hv4 hf4 hl4
   unfold oGet bs at *
   go_upto_region 28 with fail
   go_region
   all_goals
    go_upto_region 29 with fail
    try rw [hWy]
    clear hWy hc3 hf3 hc5 hf5 hcg s0 s1 s2 s3 s4 s5 i0 i1 i2 i3 i4 i5 i6 i7 i8
    go_region
   all_goals
    go_upto_region 48 with fail
    try rw [hWx]
    clear hWx hcy e0 e1 e2 e3 fe0 fe1 fe2 fe3 j0 j1 j2 j3 j4 j5 j6 j7 j8 q0 q1 q2 q3 q4 q5
   go_upto_region 51 with fail
   try rw [hW8]
   clear hW8 hc3x hf3x s3x i0x i6x
   refine wp_region_held_drew (S := FinS w be (.slice b0 nv d0) (.slice (some ⟨gg, 0, none⟩) nf d1) (.slice b2 nl d2) (.slice (some ⟨g3, 0, none⟩) nt d3) (.slice b4 nt d4) (.slice (some ⟨g5, 0, none⟩) nr d5) re) (by kernel_rfl) S8.out (fun hHeld => ?_)
   refine tk 0 hHeld ?_
   refine tk 1 hHeld ?_
   refine rd 2 (fun K hK => ?_)
   refine wp_store_sub _ _ _ rfl (w.heap.size + 1 + 1) 0 #[.slice b0 nv d0, .slice (some ⟨gg, 0, none⟩) nf d1, .slice b2 nl d2, .slice (some ⟨g3, 0, none⟩) nt d3, .slice b4 nt d4, .slice (some ⟨g5, 0, none⟩) nr d5] rfl rfl (some6 HS.out.1) (fun j _ => free_block HS.out.1 _) Tryz.sizeSt one6 ?_
   rw [show (#[Value.slice b0 nv d0, .slice (some ⟨gg, 0, none⟩) nf d1, .slice b2 nl d2, .slice (some ⟨g3, 0, none⟩) nt d3, .slice b4 nt d4, .slice (some ⟨g5, 0, none⟩) nr d5] : Array Value).toList = [.slice b0 nv d0, .slice (some ⟨gg, 0, none⟩) nf d1, .slice b2 nl d2, .slice (some ⟨g3, 0, none⟩) nt d3, .slice b4 nt d4, .slice (some ⟨g5, 0, none⟩) nr d5] from rfl, hU1.out]
   refine hK.out _ _ S9.out (fun hHeld => ?_)
   clear hK K
   try simp only [Act.put, sq]
   refine rd 3 (fun K hK => ?_)
   refine wp_store_sub _ _ _ rfl (w.heap.size + 1 + 1 + 1) 0 #[.int .i64 re.t, .int .i64 re.k, .int .i64 re.o, .int .i64 re.v] rfl rfl (some4 HS.out.2) (fun j _ => free_block HS.out.2 _) Tryz.sizeRe one_ev ?_
   rw [show (#[Value.int .i64 re.t, .int .i64 re.k, .int .i64 re.o, .int .i64 re.v] : Array Value).toList = [.int .i64 re.t, .int .i64 re.k, .int .i64 re.o, .int .i64 re.v] from rfl, hU2.out]
   refine hK.out _ _ S10.out (fun hHeld => ?_)
   clear hK K
   try simp only [Act.put, sq]
   refine wpAnyH_done (by kernel_rfl) ?_ _
   have hKr := ‹∀ (a : Act) (w : World), Code.wp Tryz.prog Code.ret _ a w → _›
   refine hKr _ _ (wp_ret ?_)
   obtain ⟨k1, k2, k3, k4, k5⟩ := HF.out
   exact bodyPost_ret (two_val rfl rfl rfl k1 k2) rfl ⟨_, _, _, _, _, _, ⟨_, _, _, _, _, _, rfl⟩, k5, k3, k4⟩
  ·
   obtain ⟨hva, hvb, hrn, hyn, hr4, hrt, hyt, hk, hpc, hpc1, hX⟩ := HN.out
   obtain ⟨hR7, ks7, ki7, kr7, ke7, kv7, hB7, hin⟩ := H7.out
   rw [hop] at i0
   have hyl : yn < m.flags.length := by rw [HM.out.2.2.2.2.2.2.1]; have := hX.fl (.inr hop); omega
   obtain ⟨gg, ebb, g1, g2, hcg, hfg, hR8⟩ := hR7.flag (i := yn) hyl
   subst ebb
   have hyi : (yn : Int) < (nf : Int) := by have := HM.out.2.2.2.2.2.2.1; omega
   obtain ⟨Wy, hWy⟩ : ∃ Wy, w7.setCell ⟨gg, yn, none⟩ (.int .i64 va) = Wy := ⟨_, rfl⟩
   have hky : KeepS (fun k => (lo ≤ k ∧ k < p6) ∨ k = be) w7 Wy := by rw [← hWy]; exact KeepS.set (S := fun k => (lo ≤ k ∧ k < p6) ∨ k = be) (KeepS.refl w7) (a := ⟨gg, yn, none⟩) (.inl (.inl ⟨g1, g2⟩)) _
   have hRy := hR8 va
   rw [hWy] at hRy
   have kvy : Wy.heap[be]? = some (.cells #[.int .i64 (t : Int), .int .i64 0, .int .i64 0, .int .i64 0] 50) := by
    rw [← hWy, heap_setCell_other w7 ⟨gg, yn, none⟩ be _ (by show be ≠ gg; omega)]; exact kv7
   obtain ⟨e0, e1, e2, e3⟩ := four_cells kvy
   obtain ⟨fe0, fe1, fe2, fe3⟩ := (⟨free_block kvy 0, free_block kvy 1, free_block kvy 2, free_block kvy 3⟩ : _ ∧ _ ∧ _ ∧ _)
   obtain ⟨j0, j1, j2, j3, j4, j5, j6, j7, j8⟩ := nine_cells ((hky.block bi (by omega) (by omega)).trans ki7)
   rw [hyn] at j6
   obtain ⟨Wx, hWx⟩ : ∃ Wx, (((Wy.setCell ⟨be, 0, none⟩ (.int .i64 (t : Int))).setCell ⟨be, 1, none⟩ (.int .i64 4)).setCell ⟨be, 2, none⟩ (.int .i64 (yn : Int))).setCell ⟨be, 3, none⟩ (.int .i64 va) = Wx := ⟨_, rfl⟩
   have hkx0 : KeepS (fun k => k = be) Wy Wx := by rw [← hWx]; exact keep_four _ _ _ _ (KeepS.refl Wy) (.inl rfl)
   have zy := hky.size
   have hSw : SwR w7 lo b0 (some ⟨gg, 0, none⟩) b2 (some ⟨g3, 0, none⟩) b4 b5 p1 p2 p3 p4 p5 p6 be (swM m t x) Wx := by
    rw [sw_put m t hop, hyt, hva, hyn]
    refine ⟨hRy.keep (fun b q1 q2 => hkx0.block b (by omega) (by omega)) hkx0.size, ?_, ?_⟩
    ·rw [← hWx]; exact four_sets _ _ _ _ kvy
    ·exact hky.trans (hkx0.mono fun k _ e => .inr e)
   have hto : toM m t x (swM m t x).2.2 = pc1 := by rw [to_stay m t (by rw [hop]; decide) (by rw [hop]; decide) (by rw [hop]; decide), sw_put m t hop]; show (m.th t).pc + 1 = pc1; omega
   clear hkx0 zy hRy hR8 g1 g2 hyl hky kvy
   obtain ⟨W8, U1, U2, pv, w0, w1', w2', w3', w4', w5', e0', e1', e2', e3', hW8, hc3x, hf3x, s3x, i0x, i6x, hU1, hU2, S8, S9, S10, HS, HF⟩ := sw_fin hSw hto HM.out HQ.out HT.out.1 ks7 ki7 kr7 ke7 hB7 hin
   rw [hop] at i0x
   rw [hyn] at i6x
   clear HQ hSw hto hva hvb hrn hyn hr4 hrt hyt hk hpc hpc1 hX hR7 ks7 ki7 kr7 ke7 kv7 hB7 hin H7 HN HM HD HT hfb hres hv4 hf4 hl4
   unfold oPut bs at *
   go_upto_region 32 with fail
   try rw [hWy]
   clear hWy hc3 hf3 hcg hfg s0 s1 s2 s3 s4 s5 i0 i1 i2 i3 i4 i5 i6 i7 i8
   go_upto_region 48 with fail
   try rw [hWx]
   clear hWx e0 e1 e2 e3 fe0 fe1 fe2 fe3 j0 j1 j2 j3 j4 j5 j6 j7 j8
   go_upto_region 51 with fail
   try rw [hW8]
   clear hW8 hc3x hf3x s3x i0x i6x
   refine wp_region_held_drew (S := FinS w be (.slice b0 nv d0) (.slice (some ⟨gg, 0, none⟩) nf d1) (.slice b2 nl d2) (.slice (some ⟨g3, 0, none⟩) nt d3) (.slice b4 nt d4) (.slice b5 nr d5) re) (by kernel_rfl) S8.out (fun hHeld => ?_)
   refine tk 0 hHeld ?_
   refine tk 1 hHeld ?_
   refine rd 2 (fun K hK => ?_)
   refine wp_store_sub _ _ _ rfl (w.heap.size + 1 + 1) 0 #[.slice b0 nv d0, .slice (some ⟨gg, 0, none⟩) nf d1, .slice b2 nl d2, .slice (some ⟨g3, 0, none⟩) nt d3, .slice b4 nt d4, .slice b5 nr d5] rfl rfl (some6 HS.out.1) (fun j _ => free_block HS.out.1 _) Tryz.sizeSt one6 ?_
   rw [show (#[Value.slice b0 nv d0, .slice (some ⟨gg, 0, none⟩) nf d1, .slice b2 nl d2, .slice (some ⟨g3, 0, none⟩) nt d3, .slice b4 nt d4, .slice b5 nr d5] : Array Value).toList = [.slice b0 nv d0, .slice (some ⟨gg, 0, none⟩) nf d1, .slice b2 nl d2, .slice (some ⟨g3, 0, none⟩) nt d3, .slice b4 nt d4, .slice b5 nr d5] from rfl, hU1.out]
   refine hK.out _ _ S9.out (fun hHeld => ?_)
   clear hK K
   try simp only [Act.put, sq]
   refine rd 3 (fun K hK => ?_)
   refine wp_store_sub _ _ _ rfl (w.heap.size + 1 + 1 + 1) 0 #[.int .i64 re.t, .int .i64 re.k, .int .i64 re.o, .int .i64 re.v] rfl rfl (some4 HS.out.2) (fun j _ => free_block HS.out.2 _) Tryz.sizeRe one_ev ?_
   rw [show (#[Value.int .i64 re.t, .int .i64 re.k, .int .i64 re.o, .int .i64 re.v] : Array Value).toList = [.int .i64 re.t, .int .i64 re.k, .int .i64 re.o, .int .i64 re.v] from rfl, hU2.out]
   refine hK.out _ _ S10.out (fun hHeld => ?_)
   clear hK K
   try simp only [Act.put, sq]
   refine wpAnyH_done (by kernel_rfl) ?_ _
   have hKr := ‹∀ (a : Act) (w : World), Code.wp Tryz.prog Code.ret _ a w → _›
   refine hKr _ _ (wp_ret ?_)
   obtain ⟨k1, k2, k3, k4, k5⟩ := HF.out
   exact bodyPost_ret (two_val rfl rfl rfl k1 k2) rfl ⟨_, _, _, _, _, _, ⟨_, _, _, _, _, _, rfl⟩, k5, k3, k4⟩
  ·
   obtain ⟨hva, hvb, hrn, hyn, hr4, hrt, hyt, hk, hpc, hpc1, hX⟩ := HN.out
   obtain ⟨hR7, ks7, ki7, kr7, ke7, kv7, hB7, hin⟩ := H7.out
   rw [hop] at i0
   have hyl : yn < m.locks.length := by rw [HM.out.2.2.2.2.2.2.2]; have := hX.lk (.inl hop); omega
   obtain ⟨gg, ebb, g1, g2, hcg, hfg, hR8⟩ := hR7.lock (i := yn) hyl
   subst ebb
   have hyi : (yn : Int) < (nl : Int) := by have := HM.out.2.2.2.2.2.2.2; omega
   obtain ⟨Wy, hWy⟩ : ∃ Wy, w7.setCell ⟨gg, yn, none⟩ (.int .i64 (t : Int)) = Wy := ⟨_, rfl⟩
   have hky : KeepS (fun k => (lo ≤ k ∧ k < p6) ∨ k = be) w7 Wy := by rw [← hWy]; exact KeepS.set (S := fun k => (lo ≤ k ∧ k < p6) ∨ k = be) (KeepS.refl w7) (a := ⟨gg, yn, none⟩) (.inl (.inl ⟨g1, g2⟩)) _
   have hRy := hR8 (t : Int)
   rw [hWy] at hRy
   have kvy : Wy.heap[be]? = some (.cells #[.int .i64 (t : Int), .int .i64 0, .int .i64 0, .int .i64 0] 50) := by
    rw [← hWy, heap_setCell_other w7 ⟨gg, yn, none⟩ be _ (by show be ≠ gg; omega)]; exact kv7
   obtain ⟨e0, e1, e2, e3⟩ := four_cells kvy
   obtain ⟨fe0, fe1, fe2, fe3⟩ := (⟨free_block kvy 0, free_block kvy 1, free_block kvy 2, free_block kvy 3⟩ : _ ∧ _ ∧ _ ∧ _)
   obtain ⟨j0, j1, j2, j3, j4, j5, j6, j7, j8⟩ := nine_cells ((hky.block bi (by omega) (by omega)).trans ki7)
   rw [hyn] at j6
   obtain ⟨Wx, hWx⟩ : ∃ Wx, (((Wy.setCell ⟨be, 0, none⟩ (.int .i64 (t : Int))).setCell ⟨be, 1, none⟩ (.int .i64 5)).setCell ⟨be, 2, none⟩ (.int .i64 (yn : Int))).setCell ⟨be, 3, none⟩ (.int .i64 0) = Wx := ⟨_, rfl⟩
   have hkx0 : KeepS (fun k => k = be) Wy Wx := by rw [← hWx]; exact keep_four _ _ _ _ (KeepS.refl Wy) (.inl rfl)
   have zy := hky.size
   have hSw : SwR w7 lo b0 b1 (some ⟨gg, 0, none⟩) (some ⟨g3, 0, none⟩) b4 b5 p1 p2 p3 p4 p5 p6 be (swM m t x) Wx := by
    rw [sw_lock m t hop, hyt, hyn]
    refine ⟨hRy.keep (fun b q1 q2 => hkx0.block b (by omega) (by omega)) hkx0.size, ?_, ?_⟩
    ·rw [← hWx]; exact four_sets _ _ _ _ kvy
    ·exact hky.trans (hkx0.mono fun k _ e => .inr e)
   have hto : toM m t x (swM m t x).2.2 = pc1 := by rw [to_stay m t (by rw [hop]; decide) (by rw [hop]; decide) (by rw [hop]; decide), sw_lock m t hop]; show (m.th t).pc + 1 = pc1; omega
   clear hkx0 zy hRy hR8 g1 g2 hyl hky kvy
   obtain ⟨W8, U1, U2, pv, w0, w1', w2', w3', w4', w5', e0', e1', e2', e3', hW8, hc3x, hf3x, s3x, i0x, i6x, hU1, hU2, S8, S9, S10, HS, HF⟩ := sw_fin hSw hto HM.out HQ.out HT.out.1 ks7 ki7 kr7 ke7 hB7 hin
   rw [hop] at i0x
   rw [hyn] at i6x
   clear HQ hSw hto hva hvb hrn hyn hr4 hrt hyt hk hpc hpc1 hX hR7 ks7 ki7 kr7 ke7 kv7 hB7 hin H7 HN HM HD HT hfb hres hv4 hf4 hl4
   unfold oLock bs at *
   go_upto_region 35 with fail
   try rw [hWy]
   clear hWy hc3 hf3 hcg hfg s0 s1 s2 s3 s4 s5 i0 i1 i2 i3 i4 i5 i6 i7 i8
   go_upto_region 48 with fail
   try rw [hWx]
   clear hWx e0 e1 e2 e3 fe0 fe1 fe2 fe3 j0 j1 j2 j3 j4 j5 j6 j7 j8
   go_upto_region 51 with fail
   try rw [hW8]
   clear hW8 hc3x hf3x s3x i0x i6x
   refine wp_region_held_drew (S := FinS w be (.slice b0 nv d0) (.slice b1 nf d1) (.slice (some ⟨gg, 0, none⟩) nl d2) (.slice (some ⟨g3, 0, none⟩) nt d3) (.slice b4 nt d4) (.slice b5 nr d5) re) (by kernel_rfl) S8.out (fun hHeld => ?_)
   refine tk 0 hHeld ?_
   refine tk 1 hHeld ?_
   refine rd 2 (fun K hK => ?_)
   refine wp_store_sub _ _ _ rfl (w.heap.size + 1 + 1) 0 #[.slice b0 nv d0, .slice b1 nf d1, .slice (some ⟨gg, 0, none⟩) nl d2, .slice (some ⟨g3, 0, none⟩) nt d3, .slice b4 nt d4, .slice b5 nr d5] rfl rfl (some6 HS.out.1) (fun j _ => free_block HS.out.1 _) Tryz.sizeSt one6 ?_
   rw [show (#[Value.slice b0 nv d0, .slice b1 nf d1, .slice (some ⟨gg, 0, none⟩) nl d2, .slice (some ⟨g3, 0, none⟩) nt d3, .slice b4 nt d4, .slice b5 nr d5] : Array Value).toList = [.slice b0 nv d0, .slice b1 nf d1, .slice (some ⟨gg, 0, none⟩) nl d2, .slice (some ⟨g3, 0, none⟩) nt d3, .slice b4 nt d4, .slice b5 nr d5] from rfl, hU1.out]
   refine hK.out _ _ S9.out (fun hHeld => ?_)
   clear hK K
   try simp only [Act.put, sq]
   refine rd 3 (fun K hK => ?_)
   refine wp_store_sub _ _ _ rfl (w.heap.size + 1 + 1 + 1) 0 #[.int .i64 re.t, .int .i64 re.k, .int .i64 re.o, .int .i64 re.v] rfl rfl (some4 HS.out.2) (fun j _ => free_block HS.out.2 _) Tryz.sizeRe one_ev ?_
   rw [show (#[Value.int .i64 re.t, .int .i64 re.k, .int .i64 re.o, .int .i64 re.v] : Array Value).toList = [.int .i64 re.t, .int .i64 re.k, .int .i64 re.o, .int .i64 re.v] from rfl, hU2.out]
   refine hK.out _ _ S10.out (fun hHeld => ?_)
   clear hK K
   try simp only [Act.put, sq]
   refine wpAnyH_done (by kernel_rfl) ?_ _
   have hKr := ‹∀ (a : Act) (w : World), Code.wp Tryz.prog Code.ret _ a w → _›
   refine hKr _ _ (wp_ret ?_)
   obtain ⟨k1, k2, k3, k4, k5⟩ := HF.out
   exact bodyPost_ret (two_val rfl rfl rfl k1 k2) rfl ⟨_, _, _, _, _, _, ⟨_, _, _, _, _, _, rfl⟩, k5, k3, k4⟩
  ·
   obtain ⟨hva, hvb, hrn, hyn, hr4, hrt, hyt, hk, hpc, hpc1, hX⟩ := HN.out
   obtain ⟨hR7, ks7, ki7, kr7, ke7, kv7, hB7, hin⟩ := H7.out
   rw [hop] at i0
   have hyl : yn < m.locks.length := by rw [HM.out.2.2.2.2.2.2.2]; have := hX.lk (.inr hop); omega
   obtain ⟨gg, ebb, g1, g2, hcg, hfg, hR8⟩ := hR7.lock (i := yn) hyl
   subst ebb
   have hyi : (yn : Int) < (nl : Int) := by have := HM.out.2.2.2.2.2.2.2; omega
   obtain ⟨Wy, hWy⟩ : ∃ Wy, w7.setCell ⟨gg, yn, none⟩ (.int .i64 (-1)) = Wy := ⟨_, rfl⟩
   have hky : KeepS (fun k => (lo ≤ k ∧ k < p6) ∨ k = be) w7 Wy := by rw [← hWy]; exact KeepS.set (S := fun k => (lo ≤ k ∧ k < p6) ∨ k = be) (KeepS.refl w7) (a := ⟨gg, yn, none⟩) (.inl (.inl ⟨g1, g2⟩)) _
   have hRy := hR8 (-1)
   rw [hWy] at hRy
   have kvy : Wy.heap[be]? = some (.cells #[.int .i64 (t : Int), .int .i64 0, .int .i64 0, .int .i64 0] 50) := by
    rw [← hWy, heap_setCell_other w7 ⟨gg, yn, none⟩ be _ (by show be ≠ gg; omega)]; exact kv7
   obtain ⟨e0, e1, e2, e3⟩ := four_cells kvy
   obtain ⟨fe0, fe1, fe2, fe3⟩ := (⟨free_block kvy 0, free_block kvy 1, free_block kvy 2, free_block kvy 3⟩ : _ ∧ _ ∧ _ ∧ _)
   obtain ⟨j0, j1, j2, j3, j4, j5, j6, j7, j8⟩ := nine_cells ((hky.block bi (by omega) (by omega)).trans ki7)
   rw [hyn] at j6
   obtain ⟨Wx, hWx⟩ : ∃ Wx, (((Wy.setCell ⟨be, 0, none⟩ (.int .i64 (t : Int))).setCell ⟨be, 1, none⟩ (.int .i64 6)).setCell ⟨be, 2, none⟩ (.int .i64 (yn : Int))).setCell ⟨be, 3, none⟩ (.int .i64 0) = Wx := ⟨_, rfl⟩
   have hkx0 : KeepS (fun k => k = be) Wy Wx := by rw [← hWx]; exact keep_four _ _ _ _ (KeepS.refl Wy) (.inl rfl)
   have zy := hky.size
   have hSw : SwR w7 lo b0 b1 (some ⟨gg, 0, none⟩) (some ⟨g3, 0, none⟩) b4 b5 p1 p2 p3 p4 p5 p6 be (swM m t x) Wx := by
    rw [sw_unlock m t hop, hyt, hyn]
    refine ⟨hRy.keep (fun b q1 q2 => hkx0.block b (by omega) (by omega)) hkx0.size, ?_, ?_⟩
    ·rw [← hWx]; exact four_sets _ _ _ _ kvy
    ·exact hky.trans (hkx0.mono fun k _ e => .inr e)
   have hto : toM m t x (swM m t x).2.2 = pc1 := by rw [to_stay m t (by rw [hop]; decide) (by rw [hop]; decide) (by rw [hop]; decide), sw_unlock m t hop]; show (m.th t).pc + 1 = pc1; omega
   clear hkx0 zy hRy hR8 g1 g2 hyl hky kvy
   obtain ⟨W8, U1, U2, pv, w0, w1', w2', w3', w4', w5', e0', e1', e2', e3', hW8, hc3x, hf3x, s3x, i0x, i6x, hU1, hU2, S8, S9, S10, HS, HF⟩ := sw_fin hSw hto HM.out HQ.out HT.out.1 ks7 ki7 kr7 ke7 hB7 hin
   rw [hop] at i0x
   rw [hyn] at i6x
   clear HQ hSw hto hva hvb hrn hyn hr4 hrt hyt hk hpc hpc1 hX hR7 ks7 ki7 kr7 ke7 kv7 hB7 hin H7 HN HM HD HT hfb hres hv4 hf4 hl4
   unfold oUnlock bs at *
   go_upto_region 38 with fail
   try rw [hWy]
   clear hWy hc3 hf3 hcg hfg s0 s1 s2 s3 s4 s5 i0 i1 i2 i3 i4 i5 i6 i7 i8
   go_upto_region 48 with fail
   try rw [hWx]
   clear hWx e0 e1 e2 e3 fe0 fe1 fe2 fe3 j0 j1 j2 j3 j4 j5 j6 j7 j8
   go_upto_region 51 with fail
   try rw [hW8]
   clear hW8 hc3x hf3x s3x i0x i6x
   refine wp_region_held_drew (S := FinS w be (.slice b0 nv d0) (.slice b1 nf d1) (.slice (some ⟨gg, 0, none⟩) nl d2) (.slice (some ⟨g3, 0, none⟩) nt d3) (.slice b4 nt d4) (.slice b5 nr d5) re) (by kernel_rfl) S8.out (fun hHeld => ?_)
   refine tk 0 hHeld ?_
   refine tk 1 hHeld ?_
   refine rd 2 (fun K hK => ?_)
   refine wp_store_sub _ _ _ rfl (w.heap.size + 1 + 1) 0 #[.slice b0 nv d0, .slice b1 nf d1, .slice (some ⟨gg, 0, none⟩) nl d2, .slice (some ⟨g3, 0, none⟩) nt d3, .slice b4 nt d4, .slice b5 nr d5] rfl rfl (some6 HS.out.1) (fun j _ => free_block HS.out.1 _) Tryz.sizeSt one6 ?_
   rw [show (#[Value.slice b0 nv d0, .slice b1 nf d1, .slice (some ⟨gg, 0, none⟩) nl d2, .slice (some ⟨g3, 0, none⟩) nt d3, .slice b4 nt d4, .slice b5 nr d5] : Array Value).toList = [.slice b0 nv d0, .slice b1 nf d1, .slice (some ⟨gg, 0, none⟩) nl d2, .slice (some ⟨g3, 0, none⟩) nt d3, .slice b4 nt d4, .slice b5 nr d5] from rfl, hU1.out]
   refine hK.out _ _ S9.out (fun hHeld => ?_)
   clear hK K
   try simp only [Act.put, sq]
   refine rd 3 (fun K hK => ?_)
   refine wp_store_sub _ _ _ rfl (w.heap.size + 1 + 1 + 1) 0 #[.int .i64 re.t, .int .i64 re.k, .int .i64 re.o, .int .i64 re.v] rfl rfl (some4 HS.out.2) (fun j _ => free_block HS.out.2 _) Tryz.sizeRe one_ev ?_
   rw [show (#[Value.int .i64 re.t, .int .i64 re.k, .int .i64 re.o, .int .i64 re.v] : Array Value).toList = [.int .i64 re.t, .int .i64 re.k, .int .i64 re.o, .int .i64 re.v] from rfl, hU2.out]
   refine hK.out _ _ S10.out (fun hHeld => ?_)
   clear hK K
   try simp only [Act.put, sq]
   refine wpAnyH_done (by kernel_rfl) ?_ _
   have hKr := ‹∀ (a : Act) (w : World), Code.wp Tryz.prog Code.ret _ a w → _›
   refine hKr _ _ (wp_ret ?_)
   obtain ⟨k1, k2, k3, k4, k5⟩ := HF.out
   exact bodyPost_ret (two_val rfl rfl rfl k1 k2) rfl ⟨_, _, _, _, _, _, ⟨_, _, _, _, _, _, rfl⟩, k5, k3, k4⟩
  ·
   obtain ⟨hva, hvb, hrn, hyn, hr4, hrt, hyt, hk, hpc, hpc1, hX⟩ := HN.out
   obtain ⟨hR7, ks7, ki7, kr7, ke7, kv7, hB7, hin⟩ := H7.out
   rw [hop] at i0
   have hyl : yn < m.thr.length := by rw [HM.out.1]; have := hX.th (.inl hop); omega
   obtain ⟨gg, ebb, g1, g2, hcg, hfg, hR8⟩ := hR7.stat (i := yn) hyl
   subst ebb
   have hyi : (yn : Int) < (nt : Int) := by have := HM.out.1; omega
   obtain ⟨Wy, hWy⟩ : ∃ Wy, w7.setCell ⟨gg, yn, none⟩ (.int .i64 1) = Wy := ⟨_, rfl⟩
   have hky : KeepS (fun k => (lo ≤ k ∧ k < p6) ∨ k = be) w7 Wy := by rw [← hWy]; exact KeepS.set (S := fun k => (lo ≤ k ∧ k < p6) ∨ k = be) (KeepS.refl w7) (a := ⟨gg, yn, none⟩) (.inl (.inl ⟨g1, g2⟩)) _
   have hRy := hR8 1
   rw [hWy] at hRy
   have kvy : Wy.heap[be]? = some (.cells #[.int .i64 (t : Int), .int .i64 0, .int .i64 0, .int .i64 0] 50) := by
    rw [← hWy, heap_setCell_other w7 ⟨gg, yn, none⟩ be _ (by show be ≠ gg; omega)]; exact kv7
   obtain ⟨e0, e1, e2, e3⟩ := four_cells kvy
   obtain ⟨fe0, fe1, fe2, fe3⟩ := (⟨free_block kvy 0, free_block kvy 1, free_block kvy 2, free_block kvy 3⟩ : _ ∧ _ ∧ _ ∧ _)
   obtain ⟨j0, j1, j2, j3, j4, j5, j6, j7, j8⟩ := nine_cells ((hky.block bi (by omega) (by omega)).trans ki7)
   rw [hyn] at j6
   obtain ⟨Wx, hWx⟩ : ∃ Wx, (((Wy.setCell ⟨be, 0, none⟩ (.int .i64 (t : Int))).setCell ⟨be, 1, none⟩ (.int .i64 7)).setCell ⟨be, 2, none⟩ (.int .i64 (yn : Int))).setCell ⟨be, 3, none⟩ (.int .i64 0) = Wx := ⟨_, rfl⟩
   have hkx0 : KeepS (fun k => k = be) Wy Wx := by rw [← hWx]; exact keep_four _ _ _ _ (KeepS.refl Wy) (.inl rfl)
   have zy := hky.size
   have hSw : SwR w7 lo b0 b1 b2 (some ⟨g3, 0, none⟩) (some ⟨gg, 0, none⟩) b5 p1 p2 p3 p4 p5 p6 be (swM m t x) Wx := by
    rw [sw_spawn m t hop, hyt, hyn]
    refine ⟨hRy.keep (fun b q1 q2 => hkx0.block b (by omega) (by omega)) hkx0.size, ?_, ?_⟩
    ·rw [← hWx]; exact four_sets _ _ _ _ kvy
    ·exact hky.trans (hkx0.mono fun k _ e => .inr e)
   have hto : toM m t x (swM m t x).2.2 = pc1 := by rw [to_stay m t (by rw [hop]; decide) (by rw [hop]; decide) (by rw [hop]; decide), sw_spawn m t hop]; show (m.th t).pc + 1 = pc1; omega
   clear hkx0 zy hRy hR8 g1 g2 hyl hky kvy
   obtain ⟨W8, U1, U2, pv, w0, w1', w2', w3', w4', w5', e0', e1', e2', e3', hW8, hc3x, hf3x, s3x, i0x, i6x, hU1, hU2, S8, S9, S10, HS, HF⟩ := sw_fin hSw hto HM.out HQ.out HT.out.1 ks7 ki7 kr7 ke7 hB7 hin
   rw [hop] at i0x
   rw [hyn] at i6x
   clear HQ hSw hto hva hvb hrn hyn hr4 hrt hyt hk hpc hpc1 hX hR7 ks7 ki7 kr7 ke7 kv7 hB7 hin H7 HN HM HD HT hfb hres hv4 hf4 hl4
   unfold oSpawn bs at *
   go_upto_region 41 with fail
   try rw [hWy]
   clear hWy hc3 hf3 hcg hfg s0 s1 s2 s3 s4 s5 i0 i1 i2 i3 i4 i5 i6 i7 i8
   go_upto_region 48 with fail
   try rw [hWx]
   clear hWx e0 e1 e2 e3 fe0 fe1 fe2 fe3 j0 j1 j2 j3 j4 j5 j6 j7 j8
   go_upto_region 51 with fail
   try rw [hW8]
   clear hW8 hc3x hf3x s3x i0x i6x
   refine wp_region_held_drew (S := FinS w be (.slice b0 nv d0) (.slice b1 nf d1) (.slice b2 nl d2) (.slice (some ⟨g3, 0, none⟩) nt d3) (.slice (some ⟨gg, 0, none⟩) nt d4) (.slice b5 nr d5) re) (by kernel_rfl) S8.out (fun hHeld => ?_)
   refine tk 0 hHeld ?_
   refine tk 1 hHeld ?_
   refine rd 2 (fun K hK => ?_)
   refine wp_store_sub _ _ _ rfl (w.heap.size + 1 + 1) 0 #[.slice b0 nv d0, .slice b1 nf d1, .slice b2 nl d2, .slice (some ⟨g3, 0, none⟩) nt d3, .slice (some ⟨gg, 0, none⟩) nt d4, .slice b5 nr d5] rfl rfl (some6 HS.out.1) (fun j _ => free_block HS.out.1 _) Tryz.sizeSt one6 ?_
   rw [show (#[Value.slice b0 nv d0, .slice b1 nf d1, .slice b2 nl d2, .slice (some ⟨g3, 0, none⟩) nt d3, .slice (some ⟨gg, 0, none⟩) nt d4, .slice b5 nr d5] : Array Value).toList = [.slice b0 nv d0, .slice b1 nf d1, .slice b2 nl d2, .slice (some ⟨g3, 0, none⟩) nt d3, .slice (some ⟨gg, 0, none⟩) nt d4, .slice b5 nr d5] from rfl, hU1.out]
   refine hK.out _ _ S9.out (fun hHeld => ?_)
   clear hK K
   try simp only [Act.put, sq]
   refine rd 3 (fun K hK => ?_)
   refine wp_store_sub _ _ _ rfl (w.heap.size + 1 + 1 + 1) 0 #[.int .i64 re.t, .int .i64 re.k, .int .i64 re.o, .int .i64 re.v] rfl rfl (some4 HS.out.2) (fun j _ => free_block HS.out.2 _) Tryz.sizeRe one_ev ?_
   rw [show (#[Value.int .i64 re.t, .int .i64 re.k, .int .i64 re.o, .int .i64 re.v] : Array Value).toList = [.int .i64 re.t, .int .i64 re.k, .int .i64 re.o, .int .i64 re.v] from rfl, hU2.out]
   refine hK.out _ _ S10.out (fun hHeld => ?_)
   clear hK K
   try simp only [Act.put, sq]
   refine wpAnyH_done (by kernel_rfl) ?_ _
   have hKr := ‹∀ (a : Act) (w : World), Code.wp Tryz.prog Code.ret _ a w → _›
   refine hKr _ _ (wp_ret ?_)
   obtain ⟨k1, k2, k3, k4, k5⟩ := HF.out
   exact bodyPost_ret (two_val rfl rfl rfl k1 k2) rfl ⟨_, _, _, _, _, _, ⟨_, _, _, _, _, _, rfl⟩, k5, k3, k4⟩
  ·
   obtain ⟨hva, hvb, hrn, hyn, hr4, hrt, hyt, hk, hpc, hpc1, hX⟩ := HN.out
   obtain ⟨hR7, ks7, ki7, kr7, ke7, kv7, hB7, hin⟩ := H7.out
   rw [hop] at i0
   have hky : KeepS (fun k => (lo ≤ k ∧ k < p6) ∨ k = be) w7 w7 := KeepS.refl w7
   have hRy := hR7
   have kvy := kv7
   obtain ⟨e0, e1, e2, e3⟩ := four_cells kvy
   obtain ⟨fe0, fe1, fe2, fe3⟩ := (⟨free_block kvy 0, free_block kvy 1, free_block kvy 2, free_block kvy 3⟩ : _ ∧ _ ∧ _ ∧ _)
   obtain ⟨j0, j1, j2, j3, j4, j5, j6, j7, j8⟩ := nine_cells ((hky.block bi (by omega) (by omega)).trans ki7)
   rw [hyn] at j6
   obtain ⟨Wx, hWx⟩ : ∃ Wx, (((w7.setCell ⟨be, 0, none⟩ (.int .i64 (t : Int))).setCell ⟨be, 1, none⟩ (.int .i64 8)).setCell ⟨be, 2, none⟩ (.int .i64 (yn : Int))).setCell ⟨be, 3, none⟩ (.int .i64 0) = Wx := ⟨_, rfl⟩
   have hkx0 : KeepS (fun k => k = be) w7 Wx := by rw [← hWx]; exact keep_four _ _ _ _ (KeepS.refl w7) (.inl rfl)
   have zy := hky.size
   have hSw : SwR w7 lo b0 b1 b2 (some ⟨g3, 0, none⟩) b4 b5 p1 p2 p3 p4 p5 p6 be (swM m t x) Wx := by
    rw [sw_join m t hop, hyn]
    refine ⟨hRy.keep (fun b q1 q2 => hkx0.block b (by omega) (by omega)) hkx0.size, ?_, ?_⟩
    ·rw [← hWx]; exact four_sets _ _ _ _ kvy
    ·exact hky.trans (hkx0.mono fun k _ e => .inr e)
   have hto : toM m t x (swM m t x).2.2 = pc1 := by rw [to_stay m t (by rw [hop]; decide) (by rw [hop]; decide) (by rw [hop]; decide), sw_join m t hop]; show (m.th t).pc + 1 = pc1; omega
   clear hkx0 zy hRy hky kvy
   obtain ⟨W8, U1, U2, pv, w0, w1', w2', w3', w4', w5', e0', e1', e2', e3', hW8, hc3x, hf3x, s3x, i0x, i6x, hU1, hU2, S8, S9, S10, HS, HF⟩ := sw_fin hSw hto HM.out HQ.out HT.out.1 ks7 ki7 kr7 ke7 hB7 hin
   rw [hop] at i0x
   rw [hyn] at i6x
   clear HQ hSw hto hva hvb hrn hyn hr4 hrt hyt hk hpc hpc1 hX hR7 ks7 ki7 kr7 ke7 kv7 hB7 hin H7 HN HM HD HT hfb hres hv4 hf4 hl4
   unfold oJoin bs at *
   go_upto_region 43 with fail
   skip
   clear hc3 hf3 s0 s1 s2 s3 s4 s5 i0 i1 i2 i3 i4 i5 i6 i7 i8
   go_upto_region 48 with fail
   try rw [hWx]
   clear hWx e0 e1 e2 e3 fe0 fe1 fe2 fe3 j0 j1 j2 j3 j4 j5 j6 j7 j8
   go_upto_region 51 with fail
   try rw [hW8]
   clear hW8 hc3x hf3x s3x i0x i6x
   refine wp_region_held_drew (S := FinS w be (.slice b0 nv d0) (.slice b1 nf d1) (.slice b2 nl d2) (.slice (some ⟨g3, 0, none⟩) nt d3) (.slice b4 nt d4) (.slice b5 nr d5) re) (by kernel_rfl) S8.out (fun hHeld => ?_)
   refine tk 0 hHeld ?_
   refine tk 1 hHeld ?_
   refine rd 2 (fun K hK => ?_)
   refine wp_store_sub _ _ _ rfl (w.heap.size + 1 + 1) 0 #[.slice b0 nv d0, .slice b1 nf d1, .slice b2 nl d2, .slice (some ⟨g3, 0, none⟩) nt d3, .slice b4 nt d4, .slice b5 nr d5] rfl rfl (some6 HS.out.1) (fun j _ => free_block HS.out.1 _) Tryz.sizeSt one6 ?_
   rw [show (#[Value.slice b0 nv d0, .slice b1 nf d1, .slice b2 nl d2, .slice (some ⟨g3, 0, none⟩) nt d3, .slice b4 nt d4, .slice b5 nr d5] : Array Value).toList = [.slice b0 nv d0, .slice b1 nf d1, .slice b2 nl d2, .slice (some ⟨g3, 0, none⟩) nt d3, .slice b4 nt d4, .slice b5 nr d5] from rfl, hU1.out]
   refine hK.out _ _ S9.out (fun hHeld => ?_)
   clear hK K
   try simp only [Act.put, sq]
   refine rd 3 (fun K hK => ?_)
   refine wp_store_sub _ _ _ rfl (w.heap.size + 1 + 1 + 1) 0 #[.int .i64 re.t, .int .i64 re.k, .int .i64 re.o, .int .i64 re.v] rfl rfl (some4 HS.out.2) (fun j _ => free_block HS.out.2 _) Tryz.sizeRe one_ev ?_
   rw [show (#[Value.int .i64 re.t, .int .i64 re.k, .int .i64 re.o, .int .i64 re.v] : Array Value).toList = [.int .i64 re.t, .int .i64 re.k, .int .i64 re.o, .int .i64 re.v] from rfl, hU2.out]
   refine hK.out _ _ S10.out (fun hHeld => ?_)
   clear hK K
   try simp only [Act.put, sq]
   refine wpAnyH_done (by kernel_rfl) ?_ _
   have hKr := ‹∀ (a : Act) (w : World), Code.wp Tryz.prog Code.ret _ a w → _›
   refine hKr _ _ (wp_ret ?_)
   obtain ⟨k1, k2, k3, k4, k5⟩ := HF.out
   exact bodyPost_ret (two_val rfl rfl rfl k1 k2) rfl ⟨_, _, _, _, _, _, ⟨_, _, _, _, _, _, rfl⟩, k5, k3, k4⟩
  ·
   obtain ⟨hva, hvb, hrn, hyn, hr4, hrt, hyt, hk, hpc, hpc1, hX⟩ := HN.out
   obtain ⟨hR7, ks7, ki7, kr7, ke7, kv7, hB7, hin⟩ := H7.out
   rw [hop] at i0
   have hSw : SwR w7 lo b0 b1 b2 (some ⟨g3, 0, none⟩) b4 b5 p1 p2 p3 p4 p5 p6 be (swM m t x) w7 := by
    rw [sw_jump m t hop]
    exact ⟨hR7, kv7, KeepS.refl w7⟩
   have hto : toM m t x (swM m t x).2.2 = yn := by rw [to_jump m t hop]; exact hyt
   obtain ⟨W8, U1, U2, pv, w0, w1', w2', w3', w4', w5', e0', e1', e2', e3', hW8, hc3x, hf3x, s3x, i0x, i6x, hU1, hU2, S8, S9, S10, HS, HF⟩ := sw_fin hSw hto HM.out HQ.out HT.out.1 ks7 ki7 kr7 ke7 hB7 hin
   rw [hop] at i0x
   rw [hyn] at i6x
   clear HQ hSw hto hva hvb hrn hyn hr4 hrt hyt hk hpc hpc1 hX hR7 ks7 ki7 kr7 ke7 kv7 hB7 hin H7 HN HM HD HT hfb hres hv4 hf4 hl4
   unfold oJump bs at *
   clear hc3 hf3 s0 s1 s2 s3 s4 s5 i1 i2 i3 i4 i5 i7 i8
   go_upto_region 51 with fail
   try rw [hW8]
   clear hW8 hc3x hf3x s3x i0x i6x
   refine wp_region_held_drew (S := FinS w be (.slice b0 nv d0) (.slice b1 nf d1) (.slice b2 nl d2) (.slice (some ⟨g3, 0, none⟩) nt d3) (.slice b4 nt d4) (.slice b5 nr d5) re) (by kernel_rfl) S8.out (fun hHeld => ?_)
   refine tk 0 hHeld ?_
   refine tk 1 hHeld ?_
   refine rd 2 (fun K hK => ?_)
   refine wp_store_sub _ _ _ rfl (w.heap.size + 1 + 1) 0 #[.slice b0 nv d0, .slice b1 nf d1, .slice b2 nl d2, .slice (some ⟨g3, 0, none⟩) nt d3, .slice b4 nt d4, .slice b5 nr d5] rfl rfl (some6 HS.out.1) (fun j _ => free_block HS.out.1 _) Tryz.sizeSt one6 ?_
   rw [show (#[Value.slice b0 nv d0, .slice b1 nf d1, .slice b2 nl d2, .slice (some ⟨g3, 0, none⟩) nt d3, .slice b4 nt d4, .slice b5 nr d5] : Array Value).toList = [.slice b0 nv d0, .slice b1 nf d1, .slice b2 nl d2, .slice (some ⟨g3, 0, none⟩) nt d3, .slice b4 nt d4, .slice b5 nr d5] from rfl, hU1.out]
   refine hK.out _ _ S9.out (fun hHeld => ?_)
   clear hK K
   try simp only [Act.put, sq]
   refine rd 3 (fun K hK => ?_)
   refine wp_store_sub _ _ _ rfl (w.heap.size + 1 + 1 + 1) 0 #[.int .i64 re.t, .int .i64 re.k, .int .i64 re.o, .int .i64 re.v] rfl rfl (some4 HS.out.2) (fun j _ => free_block HS.out.2 _) Tryz.sizeRe one_ev ?_
   rw [show (#[Value.int .i64 re.t, .int .i64 re.k, .int .i64 re.o, .int .i64 re.v] : Array Value).toList = [.int .i64 re.t, .int .i64 re.k, .int .i64 re.o, .int .i64 re.v] from rfl, hU2.out]
   refine hK.out _ _ S10.out (fun hHeld => ?_)
   clear hK K
   try simp only [Act.put, sq]
   refine wpAnyH_done (by kernel_rfl) ?_ _
   have hKr := ‹∀ (a : Act) (w : World), Code.wp Tryz.prog Code.ret _ a w → _›
   refine hKr _ _ (wp_ret ?_)
   obtain ⟨k1, k2, k3, k4, k5⟩ := HF.out
   exact bodyPost_ret (two_val rfl rfl rfl k1 k2) rfl ⟨_, _, _, _, _, _, ⟨_, _, _, _, _, _, rfl⟩, k5, k3, k4⟩
  ·
   obtain ⟨hva, hvb, hrn, hyn, hr4, hrt, hyt, hk, hpc, hpc1, hX⟩ := HN.out
   obtain ⟨hR7, ks7, ki7, kr7, ke7, kv7, hB7, hin⟩ := H7.out
   rw [hop] at i0
   by_cases hq : va = vb
   ·have hSw : SwR w7 lo b0 b1 b2 (some ⟨g3, 0, none⟩) b4 b5 p1 p2 p3 p4 p5 p6 be (swM m t x) w7 := by
     rw [sw_jeq m t hop]
     exact ⟨hR7, kv7, KeepS.refl w7⟩
    have hqb : (va == vb) = true := by simpa using hq
    have hto : toM m t x (swM m t x).2.2 = yn := by rw [to_jeq m t hop, hva, hvb, if_pos hq]; exact hyt
    obtain ⟨W8, U1, U2, pv, w0, w1', w2', w3', w4', w5', e0', e1', e2', e3', hW8, hc3x, hf3x, s3x, i0x, i6x, hU1, hU2, S8, S9, S10, HS, HF⟩ := sw_fin hSw hto HM.out HQ.out HT.out.1 ks7 ki7 kr7 ke7 hB7 hin
    rw [hop] at i0x
    rw [hyn] at i6x
    clear HQ hSw hto hva hvb hrn hyn hr4 hrt hyt hk hpc hpc1 hX hR7 ks7 ki7 kr7 ke7 kv7 hB7 hin H7 HN HM HD HT hfb hres hv4 hf4 hl4
    unfold oJeq bs at *
    clear hc3 hf3 s0 s1 s2 s3 s4 s5 i1 i2 i3 i4 i5 i7 i8
    go_upto_region 51 with fail
    try rw [hW8]
    clear hW8 hc3x hf3x s3x i0x i6x
    refine wp_region_held_drew (S := FinS w be (.slice b0 nv d0) (.slice b1 nf d1) (.slice b2 nl d2) (.slice (some ⟨g3, 0, none⟩) nt d3) (.slice b4 nt d4) (.slice b5 nr d5) re) (by kernel_rfl) S8.out (fun hHeld => ?_)
    refine tk 0 hHeld ?_
    refine tk 1 hHeld ?_
    refine rd 2 (fun K hK => ?_)
    refine wp_store_sub _ _ _ rfl (w.heap.size + 1 + 1) 0 #[.slice b0 nv d0, .slice b1 nf d1, .slice b2 nl d2, .slice (some ⟨g3, 0, none⟩) nt d3, .slice b4 nt d4, .slice b5 nr d5] rfl rfl (some6 HS.out.1) (fun j _ => free_block HS.out.1 _) Tryz.sizeSt one6 ?_
    rw [show (#[Value.slice b0 nv d0, .slice b1 nf d1, .slice b2 nl d2, .slice (some ⟨g3, 0, none⟩) nt d3, .slice b4 nt d4, .slice b5 nr d5] : Array Value).toList = [.slice b0 nv d0, .slice b1 nf d1, .slice b2 nl d2, .slice (some ⟨g3, 0, none⟩) nt d3, .slice b4 nt d4, .slice b5 nr d5] from rfl, hU1.out]
    refine hK.out _ _ S9.out (fun hHeld => ?_)
    clear hK K
    try simp only [Act.put, sq]
    refine rd 3 (fun K hK => ?_)
    refine wp_store_sub _ _ _ rfl (w.heap.size + 1 + 1 + 1) 0 #[.int .i64 re.t, .int .i64 re.k, .int .i64 re.o, .int .i64 re.v] rfl rfl (some4 HS.out.2) (fun j _ => free_block HS.out.2 _) Tryz.sizeRe one_ev ?_
    rw [show (#[Value.int .i64 re.t, .int .i64 re.k, .int .i64 re.o, .int .i64 re.v] : Array Value).toList = [.int .i64 re.t, .int .i64 re.k, .int .i64 re.o, .int .i64 re.v] from rfl, hU2.out]
    refine hK.out _ _ S10.out (fun hHeld => ?_)
    clear hK K
    try simp only [Act.put, sq]
    refine wpAnyH_done (by kernel_rfl) ?_ _
    have hKr := ‹∀ (a : Act) (w : World), Code.wp Tryz.prog Code.ret _ a w → _›
    refine hKr _ _ (wp_ret ?_)
    obtain ⟨k1, k2, k3, k4, k5⟩ := HF.out
    exact bodyPost_ret (two_val rfl rfl rfl k1 k2) rfl ⟨_, _, _, _, _, _, ⟨_, _, _, _, _, _, rfl⟩, k5, k3, k4⟩
   ·have hSw : SwR w7 lo b0 b1 b2 (some ⟨g3, 0, none⟩) b4 b5 p1 p2 p3 p4 p5 p6 be (swM m t x) w7 := by
     rw [sw_jeq m t hop]
     exact ⟨hR7, kv7, KeepS.refl w7⟩
    have hqb : (va == vb) = false := by simpa using hq
    have hto : toM m t x (swM m t x).2.2 = pc1 := by rw [to_jeq m t hop, hva, hvb, if_neg hq, sw_jeq m t hop]; show (m.th t).pc + 1 = pc1; omega
    obtain ⟨W8, U1, U2, pv, w0, w1', w2', w3', w4', w5', e0', e1', e2', e3', hW8, hc3x, hf3x, s3x, i0x, i6x, hU1, hU2, S8, S9, S10, HS, HF⟩ := sw_fin hSw hto HM.out HQ.out HT.out.1 ks7 ki7 kr7 ke7 hB7 hin
    rw [hop] at i0x
    rw [hyn] at i6x
    clear HQ hSw hto hva hvb hrn hyn hr4 hrt hyt hk hpc hpc1 hX hR7 ks7 ki7 kr7 ke7 kv7 hB7 hin H7 HN HM HD HT hfb hres hv4 hf4 hl4
    unfold oJeq bs at *
    clear hc3 hf3 s0 s1 s2 s3 s4 s5 i1 i2 i3 i4 i5 i7 i8
    go_upto_region 51 with fail
    try rw [hW8]
    clear hW8 hc3x hf3x s3x i0x i6x
    refine wp_region_held_drew (S := FinS w be (.slice b0 nv d0) (.slice b1 nf d1) (.slice b2 nl d2) (.slice (some ⟨g3, 0, none⟩) nt d3) (.slice b4 nt d4) (.slice b5 nr d5) re) (by kernel_rfl) S8.out (fun hHeld => ?_)
    refine tk 0 hHeld ?_
    refine tk 1 hHeld ?_
    refine rd 2 (fun K hK => ?_)
    refine wp_store_sub _ _ _ rfl (w.heap.size + 1 + 1) 0 #[.slice b0 nv d0, .slice b1 nf d1, .slice b2 nl d2, .slice (some ⟨g3, 0, none⟩) nt d3, .slice b4 nt d4, .slice b5 nr d5] rfl rfl (some6 HS.out.1) (fun j _ => free_block HS.out.1 _) Tryz.sizeSt one6 ?_
    rw [show (#[Value.slice b0 nv d0, .slice b1 nf d1, .slice b2 nl d2, .slice (some ⟨g3, 0, none⟩) nt d3, .slice b4 nt d4, .slice b5 nr d5] : Array Value).toList = [.slice b0 nv d0, .slice b1 nf d1, .slice b2 nl d2, .slice (some ⟨g3, 0, none⟩) nt d3, .slice b4 nt d4, .slice b5 nr d5] from rfl, hU1.out]
    refine hK.out _ _ S9.out (fun hHeld => ?_)
    clear hK K
    try simp only [Act.put, sq]
    refine rd 3 (fun K hK => ?_)
    refine wp_store_sub _ _ _ rfl (w.heap.size + 1 + 1 + 1) 0 #[.int .i64 re.t, .int .i64 re.k, .int .i64 re.o, .int .i64 re.v] rfl rfl (some4 HS.out.2) (fun j _ => free_block HS.out.2 _) Tryz.sizeRe one_ev ?_
    rw [show (#[Value.int .i64 re.t, .int .i64 re.k, .int .i64 re.o, .int .i64 re.v] : Array Value).toList = [.int .i64 re.t, .int .i64 re.k, .int .i64 re.o, .int .i64 re.v] from rfl, hU2.out]
    refine hK.out _ _ S10.out (fun hHeld => ?_)
    clear hK K
    try simp only [Act.put, sq]
    refine wpAnyH_done (by kernel_rfl) ?_ _
    have hKr := ‹∀ (a : Act) (w : World), Code.wp Tryz.prog Code.ret _ a w → _›
    refine hKr _ _ (wp_ret ?_)
    obtain ⟨k1, k2, k3, k4, k5⟩ := HF.out
    exact bodyPost_ret (two_val rfl rfl rfl k1 k2) rfl ⟨_, _, _, _, _, _, ⟨_, _, _, _, _, _, rfl⟩, k5, k3, k4⟩
  ·
   obtain ⟨hva, hvb, hrn, hyn, hr4, hrt, hyt, hk, hpc, hpc1, hX⟩ := HN.out
   obtain ⟨hR7, ks7, ki7, kr7, ke7, kv7, hB7, hin⟩ := H7.out
   rw [hop] at i0
   by_cases hq : va < vb
   ·have hSw : SwR w7 lo b0 b1 b2 (some ⟨g3, 0, none⟩) b4 b5 p1 p2 p3 p4 p5 p6 be (swM m t x) w7 := by
     rw [sw_jlt m t hop]
     exact ⟨hR7, kv7, KeepS.refl w7⟩
    have hqb : decide (va < vb) = true := by simpa using hq
    have hto : toM m t x (swM m t x).2.2 = yn := by rw [to_jlt m t hop, hva, hvb, if_pos hq]; exact hyt
    obtain ⟨W8, U1, U2, pv, w0, w1', w2', w3', w4', w5', e0', e1', e2', e3', hW8, hc3x, hf3x, s3x, i0x, i6x, hU1, hU2, S8, S9, S10, HS, HF⟩ := sw_fin hSw hto HM.out HQ.out HT.out.1 ks7 ki7 kr7 ke7 hB7 hin
    rw [hop] at i0x
    rw [hyn] at i6x
    clear HQ hSw hto hva hvb hrn hyn hr4 hrt hyt hk hpc hpc1 hX hR7 ks7 ki7 kr7 ke7 kv7 hB7 hin H7 HN HM HD HT hfb hres hv4 hf4 hl4
    unfold oJlt bs at *
    clear hc3 hf3 s0 s1 s2 s3 s4 s5 i1 i2 i3 i4 i5 i7 i8
    go_upto_region 51 with fail
    try rw [hW8]
    clear hW8 hc3x hf3x s3x i0x i6x
    refine wp_region_held_drew (S := FinS w be (.slice b0 nv d0) (.slice b1 nf d1) (.slice b2 nl d2) (.slice (some ⟨g3, 0, none⟩) nt d3) (.slice b4 nt d4) (.slice b5 nr d5) re) (by kernel_rfl) S8.out (fun hHeld => ?_)
    refine tk 0 hHeld ?_
    refine tk 1 hHeld ?_
    refine rd 2 (fun K hK => ?_)
    refine wp_store_sub _ _ _ rfl (w.heap.size + 1 + 1) 0 #[.slice b0 nv d0, .slice b1 nf d1, .slice b2 nl d2, .slice (some ⟨g3, 0, none⟩) nt d3, .slice b4 nt d4, .slice b5 nr d5] rfl rfl (some6 HS.out.1) (fun j _ => free_block HS.out.1 _) Tryz.sizeSt one6 ?_
    rw [show (#[Value.slice b0 nv d0, .slice b1 nf d1, .slice b2 nl d2, .slice (some ⟨g3, 0, none⟩) nt d3, .slice b4 nt d4, .slice b5 nr d5] : Array Value).toList = [.slice b0 nv d0, .slice b1 nf d1, .slice b2 nl d2, .slice (some ⟨g3, 0, none⟩) nt d3, .slice b4 nt d4, .slice b5 nr d5] from rfl, hU1.out]
    refine hK.out _ _ S9.out (fun hHeld => ?_)
    clear hK K
    try simp only [Act.put, sq]
    refine rd 3 (fun K hK => ?_)
    refine wp_store_sub _ _ _ rfl (w.heap.size + 1 + 1 + 1) 0 #[.int .i64 re.t, .int .i64 re.k, .int .i64 re.o, .int .i64 re.v] rfl rfl (some4 HS.out.2) (fun j _ => free_block HS.out.2 _) Tryz.sizeRe one_ev ?_
    rw [show (#[Value.int .i64 re.t, .int .i64 re.k, .int .i64 re.o, .int .i64 re.v] : Array Value).toList = [.int .i64 re.t, .int .i64 re.k, .int .i64 re.o, .int .i64 re.v] from rfl, hU2.out]
    refine hK.out _ _ S10.out (fun hHeld => ?_)
    clear hK K
    try simp only [Act.put, sq]
    refine wpAnyH_done (by kernel_rfl) ?_ _
    have hKr := ‹∀ (a : Act) (w : World), Code.wp Tryz.prog Code.ret _ a w → _›
    refine hKr _ _ (wp_ret ?_)
    obtain ⟨k1, k2, k3, k4, k5⟩ := HF.out
    exact bodyPost_ret (two_val rfl rfl rfl k1 k2) rfl ⟨_, _, _, _, _, _, ⟨_, _, _, _, _, _, rfl⟩, k5, k3, k4⟩
   ·have hSw : SwR w7 lo b0 b1 b2 (some ⟨g3, 0, none⟩) b4 b5 p1 p2 p3 p4 p5 p6 be (swM m t x) w7 := by
     rw [sw_jlt m t hop]
     exact ⟨hR7, kv7, KeepS.refl w7⟩
    have hqb : decide (va < vb) = false := by simpa using hq
    have hto : toM m t x (swM m t x).2.2 = pc1 := by rw [to_jlt m t hop, hva, hvb, if_neg hq, sw_jlt m t hop]; show (m.th t).pc + 1 = pc1; omega
    obtain ⟨W8, U1, U2, pv, w0, w1', w2', w3', w4', w5', e0', e1', e2', e3', hW8, hc3x, hf3x, s3x, i0x, i6x, hU1, hU2, S8, S9, S10, HS, HF⟩ := sw_fin hSw hto HM.out HQ.out HT.out.1 ks7 ki7 kr7 ke7 hB7 hin
    rw [hop] at i0x
    rw [hyn] at i6x
    clear HQ hSw hto hva hvb hrn hyn hr4 hrt hyt hk hpc hpc1 hX hR7 ks7 ki7 kr7 ke7 kv7 hB7 hin H7 HN HM HD HT hfb hres hv4 hf4 hl4
    unfold oJlt bs at *
    clear hc3 hf3 s0 s1 s2 s3 s4 s5 i1 i2 i3 i4 i5 i7 i8
    go_upto_region 51 with fail
    try rw [hW8]
    clear hW8 hc3x hf3x s3x i0x i6x
    refine wp_region_held_drew (S := FinS w be (.slice b0 nv d0) (.slice b1 nf d1) (.slice b2 nl d2) (.slice (some ⟨g3, 0, none⟩) nt d3) (.slice b4 nt d4) (.slice b5 nr d5) re) (by kernel_rfl) S8.out (fun hHeld => ?_)
    refine tk 0 hHeld ?_
    refine tk 1 hHeld ?_
    refine rd 2 (fun K hK => ?_)
    refine wp_store_sub _ _ _ rfl (w.heap.size + 1 + 1) 0 #[.slice b0 nv d0, .slice b1 nf d1, .slice b2 nl d2, .slice (some ⟨g3, 0, none⟩) nt d3, .slice b4 nt d4, .slice b5 nr d5] rfl rfl (some6 HS.out.1) (fun j _ => free_block HS.out.1 _) Tryz.sizeSt one6 ?_
    rw [show (#[Value.slice b0 nv d0, .slice b1 nf d1, .slice b2 nl d2, .slice (some ⟨g3, 0, none⟩) nt d3, .slice b4 nt d4, .slice b5 nr d5] : Array Value).toList = [.slice b0 nv d0, .slice b1 nf d1, .slice b2 nl d2, .slice (some ⟨g3, 0, none⟩) nt d3, .slice b4 nt d4, .slice b5 nr d5] from rfl, hU1.out]
    refine hK.out _ _ S9.out (fun hHeld => ?_)
    clear hK K
    try simp only [Act.put, sq]
    refine rd 3 (fun K hK => ?_)
    refine wp_store_sub _ _ _ rfl (w.heap.size + 1 + 1 + 1) 0 #[.int .i64 re.t, .int .i64 re.k, .int .i64 re.o, .int .i64 re.v] rfl rfl (some4 HS.out.2) (fun j _ => free_block HS.out.2 _) Tryz.sizeRe one_ev ?_
    rw [show (#[Value.int .i64 re.t, .int .i64 re.k, .int .i64 re.o, .int .i64 re.v] : Array Value).toList = [.int .i64 re.t, .int .i64 re.k, .int .i64 re.o, .int .i64 re.v] from rfl, hU2.out]
    refine hK.out _ _ S10.out (fun hHeld => ?_)
    clear hK K
    try simp only [Act.put, sq]
    refine wpAnyH_done (by kernel_rfl) ?_ _
    have hKr := ‹∀ (a : Act) (w : World), Code.wp Tryz.prog Code.ret _ a w → _›
    refine hKr _ _ (wp_ret ?_)
    obtain ⟨k1, k2, k3, k4, k5⟩ := HF.out
    exact bodyPost_ret (two_val rfl rfl rfl k1 k2) rfl ⟨_, _, _, _, _, _, ⟨_, _, _, _, _, _, rfl⟩, k5, k3, k4⟩
  ·
   obtain ⟨hva, hvb, hrn, hyn, hr4, hrt, hyt, hk, hpc, hpc1, hX⟩ := HN.out
   obtain ⟨hR7, ks7, ki7, kr7, ke7, kv7, hB7, hin⟩ := H7.out
   rw [hop] at i0
   have hSw : SwR w7 lo b0 b1 b2 (some ⟨g3, 0, none⟩) b4 b5 p1 p2 p3 p4 p5 p6 be (swM m t x) w7 := by
    rw [sw_check m t hop]
    exact ⟨hR7, kv7, KeepS.refl w7⟩
   have hto : toM m t x (swM m t x).2.2 = pc1 := by rw [to_stay m t (by rw [hop]; decide) (by rw [hop]; decide) (by rw [hop]; decide), sw_check m t hop]; show (m.th t).pc + 1 = pc1; omega
   obtain ⟨W8, U1, U2, pv, w0, w1', w2', w3', w4', w5', e0', e1', e2', e3', hW8, hc3x, hf3x, s3x, i0x, i6x, hU1, hU2, S8, S9, S10, HS, HF⟩ := sw_fin hSw hto HM.out HQ.out HT.out.1 ks7 ki7 kr7 ke7 hB7 hin
   rw [hop] at i0x
   rw [hyn] at i6x
   clear HQ hSw hto hva hvb hrn hyn hr4 hrt hyt hk hpc hpc1 hX hR7 ks7 ki7 kr7 ke7 kv7 hB7 hin H7 HN HM HD HT hfb hres hv4 hf4 hl4
   unfold oCheck bs at *
   clear hc3 hf3 s0 s1 s2 s3 s4 s5 i1 i2 i3 i4 i5 i7 i8
   go_upto_region 51 with fail
   try rw [hW8]
   clear hW8 hc3x hf3x s3x i0x i6x
   refine wp_region_held_drew (S := FinS w be (.slice b0 nv d0) (.slice b1 nf d1) (.slice b2 nl d2) (.slice (some ⟨g3, 0, none⟩) nt d3) (.slice b4 nt d4) (.slice b5 nr d5) re) (by kernel_rfl) S8.out (fun hHeld => ?_)
   refine tk 0 hHeld ?_
   refine tk 1 hHeld ?_
   refine rd 2 (fun K hK => ?_)
   refine wp_store_sub _ _ _ rfl (w.heap.size + 1 + 1) 0 #[.slice b0 nv d0, .slice b1 nf d1, .slice b2 nl d2, .slice (some ⟨g3, 0, none⟩) nt d3, .slice b4 nt d4, .slice b5 nr d5] rfl rfl (some6 HS.out.1) (fun j _ => free_block HS.out.1 _) Tryz.sizeSt one6 ?_
   rw [show (#[Value.slice b0 nv d0, .slice b1 nf d1, .slice b2 nl d2, .slice (some ⟨g3, 0, none⟩) nt d3, .slice b4 nt d4, .slice b5 nr d5] : Array Value).toList = [.slice b0 nv d0, .slice b1 nf d1, .slice b2 nl d2, .slice (some ⟨g3, 0, none⟩) nt d3, .slice b4 nt d4, .slice b5 nr d5] from rfl, hU1.out]
   refine hK.out _ _ S9.out (fun hHeld => ?_)
   clear hK K
   try simp only [Act.put, sq]
   refine rd 3 (fun K hK => ?_)
   refine wp_store_sub _ _ _ rfl (w.heap.size + 1 + 1 + 1) 0 #[.int .i64 re.t, .int .i64 re.k, .int .i64 re.o, .int .i64 re.v] rfl rfl (some4 HS.out.2) (fun j _ => free_block HS.out.2 _) Tryz.sizeRe one_ev ?_
   rw [show (#[Value.int .i64 re.t, .int .i64 re.k, .int .i64 re.o, .int .i64 re.v] : Array Value).toList = [.int .i64 re.t, .int .i64 re.k, .int .i64 re.o, .int .i64 re.v] from rfl, hU2.out]
   refine hK.out _ _ S10.out (fun hHeld => ?_)
   clear hK K
   try simp only [Act.put, sq]
   refine wpAnyH_done (by kernel_rfl) ?_ _
   have hKr := ‹∀ (a : Act) (w : World), Code.wp Tryz.prog Code.ret _ a w → _›
   refine hKr _ _ (wp_ret ?_)
   obtain ⟨k1, k2, k3, k4, k5⟩ := HF.out
   exact bodyPost_ret (two_val rfl rfl rfl k1 k2) rfl ⟨_, _, _, _, _, _, ⟨_, _, _, _, _, _, rfl⟩, k5, k3, k4⟩
  ·
   obtain ⟨hva, hvb, hrn, hyn, hr4, hrt, hyt, hk, hpc, hpc1, hX⟩ := HN.out
   obtain ⟨hR7, ks7, ki7, kr7, ke7, kv7, hB7, hin⟩ := H7.out
   rw [hop] at i0
   have hyl : t < m.thr.length := by rw [HM.out.1]; exact HT.out.1
   obtain ⟨gg, ebb, g1, g2, hcg, hfg, hR8⟩ := hR7.stat (i := t) hyl
   subst ebb
   obtain ⟨Wy, hWy⟩ : ∃ Wy, w7.setCell ⟨gg, t, none⟩ (.int .i64 2) = Wy := ⟨_, rfl⟩
   have hky : KeepS (fun k => (lo ≤ k ∧ k < p6) ∨ k = be) w7 Wy := by rw [← hWy]; exact KeepS.set (S := fun k => (lo ≤ k ∧ k < p6) ∨ k = be) (KeepS.refl w7) (a := ⟨gg, t, none⟩) (.inl (.inl ⟨g1, g2⟩)) _
   have hRy := hR8 2
   rw [hWy] at hRy
   have kvy : Wy.heap[be]? = some (.cells #[.int .i64 (t : Int), .int .i64 0, .int .i64 0, .int .i64 0] 50) := by
    rw [← hWy, heap_setCell_other w7 ⟨gg, t, none⟩ be _ (by show be ≠ gg; omega)]; exact kv7
   obtain ⟨e0, e1, e2, e3⟩ := four_cells kvy
   obtain ⟨fe0, fe1, fe2, fe3⟩ := (⟨free_block kvy 0, free_block kvy 1, free_block kvy 2, free_block kvy 3⟩ : _ ∧ _ ∧ _ ∧ _)
   obtain ⟨j0, j1, j2, j3, j4, j5, j6, j7, j8⟩ := nine_cells ((hky.block bi (by omega) (by omega)).trans ki7)
   rw [hyn] at j6
   obtain ⟨Wx, hWx⟩ : ∃ Wx, (((Wy.setCell ⟨be, 0, none⟩ (.int .i64 (t : Int))).setCell ⟨be, 1, none⟩ (.int .i64 10)).setCell ⟨be, 2, none⟩ (.int .i64 0)).setCell ⟨be, 3, none⟩ (.int .i64 0) = Wx := ⟨_, rfl⟩
   have hkx0 : KeepS (fun k => k = be) Wy Wx := by rw [← hWx]; exact keep_four _ _ _ _ (KeepS.refl Wy) (.inl rfl)
   have zy := hky.size
   have hSw : SwR w7 lo b0 b1 b2 (some ⟨g3, 0, none⟩) (some ⟨gg, 0, none⟩) b5 p1 p2 p3 p4 p5 p6 be (swM m t x) Wx := by
    rw [sw_end m t hop]
    refine ⟨hRy.keep (fun b q1 q2 => hkx0.block b (by omega) (by omega)) hkx0.size, ?_, ?_⟩
    ·rw [← hWx]; exact four_sets _ _ _ _ kvy
    ·exact hky.trans (hkx0.mono fun k _ e => .inr e)
   have hto : toM m t x (swM m t x).2.2 = pc := by rw [to_stay m t (by rw [hop]; decide) (by rw [hop]; decide) (by rw [hop]; decide), sw_end m t hop]; exact hpc
   obtain ⟨g3b, eb3b, -, -, hc3b, -, -⟩ := hSw.rows.pc (i := t) (by rw [sw_end m t hop]; show t < (m.setT t _).thr.length; rw [setT_len, HM.out.1]; exact HT.out.1)
   simp only [Option.some.injEq, Addr.mk.injEq, and_true] at eb3b
   subst eb3b
   have hpx : ((swM m t x).1.th t).pc = pc := by rw [sw_end m t hop]; show ((m.setT t { m.th t with ph := 2 }).th t).pc = pc; rw [th_set m t t _ hyl, if_pos rfl]; exact hpc
   rw [hpx] at hc3b
   have hkz := hSw.keep
   obtain ⟨-, -, -, s3z, -, -⟩ := six_cells ((hkz.block (w.heap.size + 1) (by omega) (by omega)).trans ks7)
   clear hkz hpx
   clear hkx0 zy hRy hR8 g1 g2 hyl hky kvy
   obtain ⟨W8, U1, U2, pv, w0, w1', w2', w3', w4', w5', e0', e1', e2', e3', hW8, hc3x, hf3x, s3x, i0x, i6x, hU1, hU2, S8, S9, S10, HS, HF⟩ := sw_fin hSw hto HM.out HQ.out HT.out.1 ks7 ki7 kr7 ke7 hB7 hin
   rw [hop] at i0x
   rw [hyn] at i6x
   clear HQ hSw hto hva hvb hrn hyn hr4 hrt hyt hk hpc hpc1 hX hR7 ks7 ki7 kr7 ke7 kv7 hB7 hin H7 HN HM HD HT hfb hres hv4 hf4 hl4
   unfold oEnd bs at *
   go_upto_region 46 with fail
   try rw [hWy]
   clear hWy hc3 hf3 hcg hfg s0 s1 s2 s3 s4 s5 i0 i1 i2 i3 i4 i5 i6 i7 i8
   go_upto_region 47 with fail
   try rw [hWx]
   clear hWx e0 e1 e2 e3 fe0 fe1 fe2 fe3 j0 j1 j2 j3 j4 j5 j6 j7 j8
   go_upto_region 48 with fail
   clear s3z hc3b
   go_upto_region 51 with fail
   try rw [hW8]
   clear hW8 hc3x hf3x s3x i0x i6x
   refine wp_region_held_drew (S := FinS w be (.slice b0 nv d0) (.slice b1 nf d1) (.slice b2 nl d2) (.slice (some ⟨g3, 0, none⟩) nt d3) (.slice (some ⟨gg, 0, none⟩) nt d4) (.slice b5 nr d5) re) (by kernel_rfl) S8.out (fun hHeld => ?_)
   refine tk 0 hHeld ?_
   refine tk 1 hHeld ?_
   refine rd 2 (fun K hK => ?_)
   refine wp_store_sub _ _ _ rfl (w.heap.size + 1 + 1) 0 #[.slice b0 nv d0, .slice b1 nf d1, .slice b2 nl d2, .slice (some ⟨g3, 0, none⟩) nt d3, .slice (some ⟨gg, 0, none⟩) nt d4, .slice b5 nr d5] rfl rfl (some6 HS.out.1) (fun j _ => free_block HS.out.1 _) Tryz.sizeSt one6 ?_
   rw [show (#[Value.slice b0 nv d0, .slice b1 nf d1, .slice b2 nl d2, .slice (some ⟨g3, 0, none⟩) nt d3, .slice (some ⟨gg, 0, none⟩) nt d4, .slice b5 nr d5] : Array Value).toList = [.slice b0 nv d0, .slice b1 nf d1, .slice b2 nl d2, .slice (some ⟨g3, 0, none⟩) nt d3, .slice (some ⟨gg, 0, none⟩) nt d4, .slice b5 nr d5] from rfl, hU1.out]
   refine hK.out _ _ S9.out (fun hHeld => ?_)
   clear hK K
   try simp only [Act.put, sq]
   refine rd 3 (fun K hK => ?_)
   refine wp_store_sub _ _ _ rfl (w.heap.size + 1 + 1 + 1) 0 #[.int .i64 re.t, .int .i64 re.k, .int .i64 re.o, .int .i64 re.v] rfl rfl (some4 HS.out.2) (fun j _ => free_block HS.out.2 _) Tryz.sizeRe one_ev ?_
   rw [show (#[Value.int .i64 re.t, .int .i64 re.k, .int .i64 re.o, .int .i64 re.v] : Array Value).toList = [.int .i64 re.t, .int .i64 re.k, .int .i64 re.o, .int .i64 re.v] from rfl, hU2.out]
   refine hK.out _ _ S10.out (fun hHeld => ?_)
   clear hK K
   try simp only [Act.put, sq]
   refine wpAnyH_done (by kernel_rfl) ?_ _
   have hKr := ‹∀ (a : Act) (w : World), Code.wp Tryz.prog Code.ret _ a w → _›
   refine hKr _ _ (wp_ret ?_)
   obtain ⟨k1, k2, k3, k4, k5⟩ := HF.out
   exact bodyPost_ret (two_val rfl rfl rfl k1 k2) rfl ⟨_, _, _, _, _, _, ⟨_, _, _, _, _, _, rfl⟩, k5, k3, k4⟩
end
end Go.Proofs.YtcfpedjfofpnkaaGreatDoor
