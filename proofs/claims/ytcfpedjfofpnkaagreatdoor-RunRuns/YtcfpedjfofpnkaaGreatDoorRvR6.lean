import Derived.Test.YtcfpedjfofpnkaaGreatDoorRv5
import Derived.Test.YtcfpedjfofpnkaaGreatDoorRvR3
import Derived.Test.YtcfpedjfofpnkaaGreatDoorRvR4
import Derived.Test.YtcfpedjfofpnkaaGreatDoorRvR5
set_option linter.unusedVariables false
set_option linter.unusedSimpArgs false
namespace Go.Proofs.YtcfpedjfofpnkaaGreatDoor
open Go.RowKit Go.Shelf Go.Proofs.Cod
theorem row_ne2 {w : World} {base e size n b T : Nat} {v : Value} {xs : List Value} {cs : Array Value} (h : w.ownsRow base e size v n xs) (ks : w.heap[b]? = some (.cells cs T)) (hne : e ≠ T) : v.ownBlock ≠ some b := by
 intro q
 rcases h.2 with ⟨q1, _⟩ | ⟨g, cap, cur, q1, _, q2, _⟩
 ·rw [q1] at q; cases q
 ·rw [q1] at q
  have q : some g = some b := q
  injection q with q
  subst q
  rw [q2] at ks
  injection ks with ks
  injection ks with _ ks
  exact hne ks
theorem run_val {w : World} {fn : Func} {tmps : Array Value} {b : Nat} {x v0 v1 v2 v3 v4 v5 : Value} (hr : fn.results = #[.tmp 4, .cell 5 36]) (h4 : tmps[4]? = some x) (ht : tmps[5]? = some (.pointer (some ⟨b, 0, none⟩))) (hc : w.heap[b]? = some (.cells #[v0, v1, v2, v3, v4, v5] 36)) : (results fn tmps).run Tryz.prog w = .ok (.tuple #[x, .agg #[v0, v1, v2, v3, v4, v5]]) w := by
 obtain ⟨c0, c1, c2, c3, c4, c5⟩ := six_cells hc
 simp [results, hr, ht, h4, go_sem, c0, c1, c2, c3, c4, c5]
theorem play_lenT (C : List (List In7)) (s : MS) (l : List Int) : (playM true C s l).2.length ≤ l.length := by
 have : ∀ (r : List Int) (x : MS × List Ev), (r.foldl (plM true C) x).2.length ≤ x.2.length + r.length := by
  intro r
  induction r with
  | nil => intro x; exact Nat.le_refl _
  | cons t r ih =>
   intro x
   have := ih (plM true C x t)
   have h2 : (plM true C x t).2.length ≤ x.2.length + 1 := by
    unfold plM
    by_cases e : canM C x.1 t = 0
    ·rw [if_pos e]; simp
    ·rw [if_neg e]; omega
   rw [List.foldl_cons, List.length_cons]
   omega
 have q := this l (s, [])
 simp only [List.length_nil, Nat.zero_add] at q
 exact q
section
variable {w w' : World} {nv nf nl nt nr : Nat} {P : RP} {TV : List (Value × Value)} {x1 x2 x3 x4 : Option Addr} {z1 z2 z3 z4 : Nat}
set_option maxRecDepth 100000 in
set_option maxHeartbeats 8000000 in
theorem rrun_any (hQ : DView w (.slice x1 nv z1) (.slice x2 nf z2) (.slice x3 nl z3) (.slice x4 nt z4) P TV) (hnt : P.thr.length = nt) (hv4 : nv ≤ 4) (hf4 : nf ≤ 4) (hl4 : nl ≤ 4) (hnr : nt * 4 = nr) (hf : PFit nv nf nl (codeOf P)) {a : Option Addr} {n cap : Nat} {l : List Int} (hn : l.length = n) (hl : Is w a l) (hn1 : n < 1048576) :
 Calls Tryz.prog 22 #[.agg #[.slice x1 nv z1, .slice x2 nf z2, .slice x3 nl z3, .slice x4 nt z4], .slice a n cap] w fun e w' => ∃ v b0 b1 b2 b3 b4 b5, (∃ d0 d1 d2 d3 d4 d5, e = .returned (.tuple #[v, .agg #[.slice b0 nv d0, .slice b1 nf d1, .slice b2 nl d2, .slice b3 nt d3, .slice b4 nt d4, .slice b5 nr d5]])) ∧ w'.ownsRow w.heap.size 50 4 v (playM true (codeOf P) (newM nv nf nl nt) l).2.length ((playM true (codeOf P) (newM nv nf nl nt) l).2.flatMap revL) ∧ DocS w' b0 b1 b2 b3 b4 b5 nv nf nl nt nr (playM true (codeOf P) (newM nv nf nl nt) l).1 ∧ Below w.heap.size w w' := by
 obtain ⟨W, hW⟩ : ∃ W, (w.alloc (.cells #[.slice x1 nv z1, .slice x2 nf z2, .slice x3 nl z3, .slice x4 nt z4] 29)).alloc (.cells #[.slice none 0 0, .slice none 0 0, .slice none 0 0, .slice none 0 0, .slice none 0 0, .slice none 0 0] 36) = W := ⟨_, rfl⟩
 obtain ⟨hB, k1, k2, hz⟩ := two_new _ _ _ hW
 have hcl : (codeOf P).length = nt := by unfold codeOf; rw [List.length_map]; exact hnt
 have h4 : nt ≤ 4 := by have := hf.four; omega
 have hBg := rbegin_any (nv := nv) (nf := nf) (nl := nl) (nt := nt) (nr := nr) (x1 := x1) (x2 := x2) (x3 := x3) (x4 := x4) (z1 := z1) (z2 := z2) (z3 := z3) (z4 := z4) W hv4 hf4 hl4 h4 hnr
 have hok : ∀ i, MOk nv nf nl (codeOf P) (playM true (codeOf P) (newM nv nf nl nt) (l.take i)).1 := fun i => by
  have q := newM_ok nv nf nl (codeOf P)
  rw [hcl] at q
  exact play_ok true hf q _
 have HK := hide (⟨hQ.below hB, hnt, ⟨hv4, hf4, hl4⟩, hf, hn, hl, hn1, hok, hcl⟩ : _ ∧ _ ∧ (_ ∧ _ ∧ _) ∧ _ ∧ _ ∧ _ ∧ _ ∧ _ ∧ _)
 have HB := hide (⟨hB, hz, k1, k2⟩ : _ ∧ _ ∧ _ ∧ _)
 obtain ⟨q0, q1, q2, q3⟩ := four_cells k1
 clear hQ hnt hv4 hf4 hl4 hnr hf hn hl hn1 hB k1 k2 hz hcl h4 hok
 go_enter Tryz.func22, Tryz.ntmps22
 go_upto_region 1 with fail
 try rw [hW]
 clear hW
 go_wp2_with fail
 refine hBg.mono ?_
 rintro e w1 ⟨a0, a1, a2, a3, a4, a5, ⟨c0, c1, c2, c3, c4, c5, rfl⟩, hD1, hb1⟩
 obtain ⟨W1, hW1⟩ : ∃ W1, w1.alloc (.cells #[.slice a0 nv c0, .slice a1 nf c1, .slice a2 nl c2, .slice a3 nt c3, .slice a4 nt c4, .slice a5 nr c5] 36) = W1 := ⟨_, rfl⟩
 have hbb : Below w1.heap.size w1 W1 := by rw [← hW1]; exact (Below.refl _ _).alloc (Nat.le_refl _) _
 have ks1 : W1.heap[w1.heap.size]? = some (.cells #[.slice a0 nv c0, .slice a1 nf c1, .slice a2 nl c2, .slice a3 nt c3, .slice a4 nt c4, .slice a5 nr c5] 36) := by rw [← hW1]; exact World.alloc_heap_new w1 _
 have hB1 : Below W.heap.size W W1 := hb1.trans (hbb.mono hb1.size)
 have hD2 := hD1.below hbb
 obtain ⟨sS, hsS⟩ : ∃ sS, w1.heap.size = sS := ⟨_, rfl⟩
 rw [hsS] at ks1
 have hsl : W.heap.size ≤ sS := by rw [← hsS]; exact hb1.size
 have H1 := hide (⟨⟨a0, a1, a2, a3, a4, a5, c0, c1, c2, c3, c4, c5, ks1, hD2⟩, hB1⟩ : (∃ a0 a1 a2 a3 a4 a5 c0 c1 c2 c3 c4 c5, W1.heap[sS]? = some (.cells #[.slice a0 nv c0, .slice a1 nf c1, .slice a2 nl c2, .slice a3 nt c3, .slice a4 nt c4, .slice a5 nr c5] 36) ∧ DocS W1 a0 a1 a2 a3 a4 a5 nv nf nl nt nr (newM nv nf nl nt)) ∧ _)
 replace hsl := hide hsl
 clear hBg q0 q1 q2 q3 hD1 hb1 hbb ks1 hB1 hD2
 replace hsS := hide hsS
 go_upto_region 2 with fail
 try rw [hW1]
 try rw [hsS.out]
 clear hW1 hsS
 go_wp2_with fail
 go_loopw [7, 8] (fun ev iv wr => ∃ i : Nat, i ≤ n ∧ iv = .int .i64 i ∧ (∃ a0 a1 a2 a3 a4 a5 c0 c1 c2 c3 c4 c5, wr.heap[sS]? = some (.cells #[.slice a0 nv c0, .slice a1 nf c1, .slice a2 nl c2, .slice a3 nt c3, .slice a4 nt c4, .slice a5 nr c5] 36) ∧ DocS wr a0 a1 a2 a3 a4 a5 nv nf nl nt nr (playM true (codeOf P) (newM nv nf nl nt) (l.take i)).1) ∧ wr.ownsRow W.heap.size 50 4 ev (playM true (codeOf P) (newM nv nf nl nt) (l.take i)).2.length ((playM true (codeOf P) (newM nv nf nl nt) (l.take i)).2.flatMap revL) ∧ Below W.heap.size W wr) (fun _ iv _ => n - (intOf iv).toNat)
 case atStart => exact ⟨0, Nat.zero_le _, rfl, H1.out.1, World.ownsRow_nil _ _ _ _, H1.out.2⟩
 case round =>
  obtain ⟨i, hi, rfl, ⟨a0, a1, a2, a3, a4, a5, c0, c1, c2, c3, c4, c5, ks, hD⟩, hrow, hBr⟩ := hrel
  clear H1
  by_cases h5 : i < n
  ·obtain ⟨hQ, hnt, ⟨hv4, hf4, hl4⟩, hf, hn, hl, hn1, hok, hcl⟩ := HK.out
   have hlt : (i : Int) < (n : Int) := by omega
   obtain ⟨lb, lf, e1, hll, cl⟩ := hl i (by omega)
   subst e1
   have hpt := play_take true (codeOf P) (newM nv nf nl nt) l (i := i) (by omega)
   have hpl := play_lenT (codeOf P) (newM nv nf nl nt) (l.take i)
   rw [List.length_take] at hpl
   have hoki := hok i
   obtain ⟨x, hx⟩ : ∃ x, (playM true (codeOf P) (newM nv nf nl nt) (l.take i)) = x := ⟨_, rfl⟩
   obtain ⟨m, evs⟩ := x
   rw [hx] at hD hrow hpt hpl hoki
   dsimp only at hD hrow hpl hoki
   obtain ⟨tv, htv⟩ : ∃ v, l.getD i 0 = v := ⟨_, rfl⟩
   rw [htv] at cl hpt
   unfold plM at hpt
   dsimp only at hpt
   obtain ⟨va, vc0, rfl⟩ := owns_len hrow
   have hclr : Hid (∀ u, Below wr.heap.size wr u → (u.cell? ⟨w.heap.size, 0, none⟩ = some (.slice x1 nv z1) ∧ u.cell? ⟨w.heap.size, 1, none⟩ = some (.slice x2 nf z2) ∧ u.cell? ⟨w.heap.size, 2, none⟩ = some (.slice x3 nl z3) ∧ u.cell? ⟨w.heap.size, 3, none⟩ = some (.slice x4 nt z4)) ∧ (u.cell? ⟨sS, 0, none⟩ = some (.slice a0 nv c0) ∧ u.cell? ⟨sS, 1, none⟩ = some (.slice a1 nf c1) ∧ u.cell? ⟨sS, 2, none⟩ = some (.slice a2 nl c2) ∧ u.cell? ⟨sS, 3, none⟩ = some (.slice a3 nt c3) ∧ u.cell? ⟨sS, 4, none⟩ = some (.slice a4 nt c4) ∧ u.cell? ⟨sS, 5, none⟩ = some (.slice a5 nr c5)) ∧ u.cell? ⟨lb, lf + i, none⟩ = some (.int .i64 tv)) := fun u hu => ⟨four_cells ((hu.block _ (by have := hBr.size; have := HB.out.2.1; omega)).trans ((hBr.block _ (by have := HB.out.2.1; omega)).trans HB.out.2.2.1)), six_cells ((hu.block sS (Array.getElem?_eq_some_iff.1 ks).1).trans ks), (hu.cell (p := ⟨lb, lf + i, none⟩) (by show lb < _; have := hBr.size; have := HB.out.2.1; omega)).trans ((hBr.cell (p := ⟨lb, lf + i, none⟩) (by show lb < _; have := HB.out.2.1; omega)).trans ((HB.out.1.cell (p := ⟨lb, lf + i, none⟩) hll).trans cl))⟩
   have hd : Below wr.heap.size wr wr.drew := ⟨rfl, rfl, rfl, Nat.le_refl _, fun _ _ => rfl⟩
   have hCan := hide (fun u (hu : Below wr.heap.size wr u) => can_any (c0 := c0) (c1 := c1) (c2 := c2) (c3 := c3) (c4 := c4) (c5 := c5) ((hQ.below hBr).below hu) hnt (hD.below hu) hoki hf tv)
   obtain ⟨er, her⟩ : ∃ er, canM (codeOf P) m tv = er := ⟨_, rfl⟩
   simp only [her] at hCan
   rw [her] at hpt
   have hwi : wrap64 ((i : Int) + 1) = (i : Int) + 1 := wrap_lt (by omega)
   replace hwi := hide hwi
   have HJ := hide (⟨h5, hpt, hrow, hBr, hD, ks, hpl, hoki, her⟩ : _ ∧ _ ∧ _ ∧ _ ∧ _ ∧ _ ∧ _ ∧ _ ∧ _)
   have hS0 := hide (hclr.out wr.drew hd)
   clear hi h5 hQ hnt hv4 hf4 hl4 hf hn hl hn1 hok hcl hll cl hpt hpl hoki hx htv hrow hBr hD ks her
   go_upto_region 6 with fail
   refine wp_region_held_drew (S := (fun u => (u.cell? ⟨w.heap.size, 0, none⟩ = some (.slice x1 nv z1) ∧ u.cell? ⟨w.heap.size, 1, none⟩ = some (.slice x2 nf z2) ∧ u.cell? ⟨w.heap.size, 2, none⟩ = some (.slice x3 nl z3) ∧ u.cell? ⟨w.heap.size, 3, none⟩ = some (.slice x4 nt z4)) ∧ (u.cell? ⟨sS, 0, none⟩ = some (.slice a0 nv c0) ∧ u.cell? ⟨sS, 1, none⟩ = some (.slice a1 nf c1) ∧ u.cell? ⟨sS, 2, none⟩ = some (.slice a2 nl c2) ∧ u.cell? ⟨sS, 3, none⟩ = some (.slice a3 nt c3) ∧ u.cell? ⟨sS, 4, none⟩ = some (.slice a4 nt c4) ∧ u.cell? ⟨sS, 5, none⟩ = some (.slice a5 nr c5)) ∧ u.cell? ⟨lb, lf + i, none⟩ = some (.int .i64 tv))) (by kernel_rfl) hS0.out (fun hHeld => ?_)
   refine tk 0 hHeld ?_
   refine tk 1 hHeld ?_
   refine tk 2 hHeld ?_
   refine tk 3 hHeld ?_
   refine tk 4 hHeld ?_
   refine tk 5 hHeld ?_
   refine rd 6 (fun K hK => ?_)
   go_simp
   go_at_call 16
   refine (hCan.out _ hd).mono ?_
   rintro e w2 ⟨rfl, hb2⟩
   replace hb2 : Below wr.heap.size wr w2 := hd.trans hb2
   have hq := hide (hclr.out w2 hb2)
   replace hb2 := hide hb2
   go_wp2_with fail
   refine hK.out _ _ hq.out (fun hHeld => ?_)
   clear hK K hq
   try simp only [Act.put, sq]
   refine tk 7 hHeld ?_
   refine wpAnyH_done (by kernel_rfl) ?_ _
   clear hHeld hS0 hCan hd
   by_cases he : er = 0
   ·subst he
    obtain ⟨hQ, hnt, ⟨hv4, hf4, hl4⟩, hf, hn, hl, hn1, hok, hcl⟩ := HK.out
    obtain ⟨h5, hpt, hrow, hBr, hD, ks, hpl, hoki, her⟩ := HJ.out
    obtain ⟨tn, rfl, htn, hph, -, -⟩ := can_info hf hoki her
    have hb2o := hb2.out
    have hQ2 := (hQ.below hBr).below hb2o
    have hD2 := hD.below hb2o
    have hSt := hide (fun u (hu : Below w2.heap.size w2 u) => rstep_any (c0 := c0) (c1 := c1) (c2 := c2) (c3 := c3) (c4 := c4) (c5 := c5) (hQ2.below hu) hnt (hD2.below hu) hv4 hf4 hl4 hoki hf (t := tn) (by omega) hph)
    obtain ⟨m1, hm1⟩ : ∃ q, (goM true (codeOf P) m tn).1 = q := ⟨_, rfl⟩
    obtain ⟨e1, he1⟩ : ∃ q, (goM true (codeOf P) m tn).2 = q := ⟨_, rfl⟩
    simp only [hm1, he1] at hSt
    rw [if_pos rfl, hm1, he1] at hpt
    have hln1 : DocS w2 a0 a1 a2 a3 a4 a5 nv nf nl nt nr m := hD2
    have hok1 := hok (i + 1)
    rw [hpt] at hok1
    dsimp only at hok1
    have hclo : Hid (∀ u, Below w2.heap.size w2 u → (u.cell? ⟨w.heap.size, 0, none⟩ = some (.slice x1 nv z1) ∧ u.cell? ⟨w.heap.size, 1, none⟩ = some (.slice x2 nf z2) ∧ u.cell? ⟨w.heap.size, 2, none⟩ = some (.slice x3 nl z3) ∧ u.cell? ⟨w.heap.size, 3, none⟩ = some (.slice x4 nt z4)) ∧ (u.cell? ⟨sS, 0, none⟩ = some (.slice a0 nv c0) ∧ u.cell? ⟨sS, 1, none⟩ = some (.slice a1 nf c1) ∧ u.cell? ⟨sS, 2, none⟩ = some (.slice a2 nl c2) ∧ u.cell? ⟨sS, 3, none⟩ = some (.slice a3 nt c3) ∧ u.cell? ⟨sS, 4, none⟩ = some (.slice a4 nt c4) ∧ u.cell? ⟨sS, 5, none⟩ = some (.slice a5 nr c5)) ∧ u.cell? ⟨lb, lf + i, none⟩ = some (.int .i64 (tn : Int))) := fun u hu => hclr.out u (hb2o.trans (hu.mono hb2o.size))
    have hd2 : Below w2.heap.size w2 w2.drew := ⟨rfl, rfl, rfl, Nat.le_refl _, fun _ _ => rfl⟩
    have hS1 := hide (hclo.out w2.drew hd2)
    have ks2 := (hb2o.block sS (Array.getElem?_eq_some_iff.1 ks).1).trans ks
    have hlr := hD.lr
    have HN := hide (⟨h5, hpt, (owns_same hrow (fun g e => hb2o.block g (hrow.lt g e).2) : w2.ownsRow _ _ _ _ _ _), hBr.trans (hb2o.mono hBr.size), ks2, hpl, hok1, hn1, hlr, hcl⟩ : _ ∧ _ ∧ _ ∧ _ ∧ _ ∧ _ ∧ _ ∧ _ ∧ _ ∧ _)
    clear hQ hnt hv4 hf4 hl4 hf hn hl hn1 hok hcl h5 hpt hrow hBr hD ks hpl hoki her htn hph hb2o hQ2 hD2 hm1 he1 hln1 hok1 ks2 hlr HJ hb2 hclr
    have hd := hd2
    clear hd2
    go_upto_region 7 with fail
    go_cut [9, 10] (fun p9 p10 wx => ∃ sa se b0 b1 b2 b3 b4 b5 d0 d1 d2 d3 d4 d5, p9 = .pointer (some ⟨sa, 0, none⟩) ∧ p10 = .pointer (some ⟨se, 0, none⟩) ∧ wx.heap[sa]? = some (.cells #[.slice b0 nv d0, .slice b1 nf d1, .slice b2 nl d2, .slice b3 nt d3, .slice b4 nt d4, .slice b5 nr d5] 36) ∧ wx.heap[se]? = some (.cells #[.int .i64 e1.t, .int .i64 e1.k, .int .i64 e1.o, .int .i64 e1.v] 50) ∧ w2.heap.size ≤ sa ∧ w2.heap.size ≤ se ∧ (∃ lo, w2.heap.size ≤ lo ∧ ∃ p1 p2 p3 p4 p5 p6, DRows wx lo b0 b1 b2 b3 b4 b5 m1 p1 p2 p3 p4 p5 p6) ∧ Below w2.heap.size w2 wx)
    case first =>
     refine wp_region_held_drew (S := (fun u => (u.cell? ⟨w.heap.size, 0, none⟩ = some (.slice x1 nv z1) ∧ u.cell? ⟨w.heap.size, 1, none⟩ = some (.slice x2 nf z2) ∧ u.cell? ⟨w.heap.size, 2, none⟩ = some (.slice x3 nl z3) ∧ u.cell? ⟨w.heap.size, 3, none⟩ = some (.slice x4 nt z4)) ∧ (u.cell? ⟨sS, 0, none⟩ = some (.slice a0 nv c0) ∧ u.cell? ⟨sS, 1, none⟩ = some (.slice a1 nf c1) ∧ u.cell? ⟨sS, 2, none⟩ = some (.slice a2 nl c2) ∧ u.cell? ⟨sS, 3, none⟩ = some (.slice a3 nt c3) ∧ u.cell? ⟨sS, 4, none⟩ = some (.slice a4 nt c4) ∧ u.cell? ⟨sS, 5, none⟩ = some (.slice a5 nr c5)) ∧ u.cell? ⟨lb, lf + i, none⟩ = some (.int .i64 (tn : Int)))) (by kernel_rfl) hS1.out (fun hHeld => ?_)
     refine tk 0 hHeld ?_
     refine tk 1 hHeld ?_
     refine tk 2 hHeld ?_
     refine tk 3 hHeld ?_
     refine tk 4 hHeld ?_
     refine tk 5 hHeld ?_
     refine wpAnyH_ready (rs := [6, 10, 11]) (by kernel_rfl) (by simp) ?_
     refine AllReadyH.cons rfl (fun K hK => ?_) (AllReadyH.cons rfl (fun K hK => ?_) (AllReadyH.cons rfl (fun K hK => ?_) AllReadyH.nil))
     ·go_simp
      go_at_call 19
      refine (hSt.out _ hd).mono ?_
      rintro e vc ⟨b0, b1, b2, b3, b4, b5, ⟨d0, d1, d2, d3, d4, d5, rfl⟩, hrows, -, hxc⟩
      replace hrows := hide hrows
      have hbc : Hid (Below w2.heap.size w2 vc) := hd.trans (hxc.mono hd.size)
      replace hxc := hide hxc
      have hq := hide (hclo.out vc hbc.out)
      go_wp2_with fail
      refine hK.out _ _ hq.out (fun hHeld => ?_)
      clear hK K hq
      try simp only [Act.put, sq]
      refine tk 7 hHeld ?_
      refine tk 8 hHeld ?_
      refine tk 9 hHeld ?_
      refine wpAnyH_ready (rs := [10, 11]) (by kernel_rfl) (by simp) ?_
      refine AllReadyH.cons rfl (fun K hK => ?_) (AllReadyH.cons rfl (fun K hK => ?_) AllReadyH.nil)
      ·go_simp
       obtain ⟨vA, hvA⟩ : ∃ A, vc.alloc (.cells #[.slice none 0 0, .slice none 0 0, .slice none 0 0, .slice none 0 0, .slice none 0 0, .slice none 0 0] 36) = A := ⟨_, rfl⟩
       have hxA : Hid (Below vc.heap.size vc vA) := by rw [← hvA]; exact (Below.refl _ _).alloc (Nat.le_refl _) _
       have hkA : Hid (vA.heap[vc.heap.size]? = some (.cells #[.slice none 0 0, .slice none 0 0, .slice none 0 0, .slice none 0 0, .slice none 0 0, .slice none 0 0] 36)) := by rw [← hvA]; exact World.alloc_heap_new vc _
       have hbA : Hid (Below w2.heap.size w2 vA) := hbc.out.trans (hxA.out.mono hbc.out.size)
       try rw [hvA]
       clear hvA
       refine hK.out _ _ (hclo.out vA hbA.out) (fun hHeld => ?_)
       clear hK K
       try simp only [Act.put, sq]
       refine rd 11 (fun K hK => ?_)
       go_simp
       obtain ⟨vE, hvE⟩ : ∃ A, vA.alloc (.cells #[.int .i64 0, .int .i64 0, .int .i64 0, .int .i64 0] 50) = A := ⟨_, rfl⟩
       have hxE : Hid (Below vA.heap.size vA vE) := by rw [← hvE]; exact (Below.refl _ _).alloc (Nat.le_refl _) _
       have hkE : Hid (vE.heap[vA.heap.size]? = some (.cells #[.int .i64 0, .int .i64 0, .int .i64 0, .int .i64 0] 50)) := by rw [← hvE]; exact World.alloc_heap_new vA _
       have hbE : Hid (Below w2.heap.size w2 vE) := hbA.out.trans (hxE.out.mono hbA.out.size)
       try rw [hvE]
       clear hvE
       refine hK.out _ _ (hclo.out vE hbE.out) (fun hHeld => ?_)
       clear hK K
       try simp only [Act.put, sq]
       have zz0 := hxc.out.size
       have zz1 := hxA.out.size
       have zz2 := hxE.out.size
       have zU : w2.drew.heap.size = w2.heap.size := rfl
       have hlA := (Array.getElem?_eq_some_iff.1 hkA.out).1
       have hlE := (Array.getElem?_eq_some_iff.1 hkE.out).1
       have kA : vE.heap[vc.heap.size]? = some (.cells #[.slice none 0 0, .slice none 0 0, .slice none 0 0, .slice none 0 0, .slice none 0 0, .slice none 0 0] 36) := ((hxE.out.block _ (by omega)).trans hkA.out)
       have kE : vE.heap[vA.heap.size]? = some (.cells #[.int .i64 0, .int .i64 0, .int .i64 0, .int .i64 0] 50) := hkE.out
       obtain ⟨lo, hlo, p1, p2, p3, p4, p5, p6, hrw⟩ := hrows.out
       have hle := hrw.le
       have hrX : DRows vE lo b0 b1 b2 b3 b4 b5 m1 p1 p2 p3 p4 p5 p6 := (Rows6.keep (Rows6.keep hrw (fun b q1 q2 => hxA.out.block b (by omega)) hxA.out.size) (fun b q1 q2 => hxE.out.block b (by omega)) hxE.out.size)
       obtain ⟨Z1, Z2, hZ1, hZ2, hk1, hk2, kE1, kA2, kE2⟩ := fin_facts (.slice b0 nv d0) (.slice b1 nf d1) (.slice b2 nl d2) (.slice b3 nt d3) (.slice b4 nt d4) (.slice b5 nr d5) (.int .i64 e1.t) (.int .i64 e1.k) (.int .i64 e1.o) (.int .i64 e1.v) kA kE (by omega)
       have zk1 := hk1.size
       have zk2 := hk2.size
       have hB1 : Below w2.heap.size w2 Z1 := ⟨hk1.os.trans hbE.out.os, hk1.tape.trans hbE.out.tape, hk1.output.trans hbE.out.output, Nat.le_trans hbE.out.size hk1.size, fun k hk => (hk1.block k (by have := hbE.out.size; omega) (by omega)).trans (hbE.out.block k hk)⟩
       have hB2 : Below w2.heap.size w2 Z2 := ⟨hk2.os.trans hbE.out.os, hk2.tape.trans hbE.out.tape, hk2.output.trans hbE.out.output, Nat.le_trans hbE.out.size hk2.size, fun k hk => (hk2.block k (by have := hbE.out.size; omega) (by omega)).trans (hbE.out.block k hk)⟩
       have hrZ : DRows Z2 lo b0 b1 b2 b3 b4 b5 m1 p1 p2 p3 p4 p5 p6 := hrX.keep (fun b q1 q2 => hk2.block b (by omega) (by omega)) hk2.size
       refine rd 12 (fun K hK => ?_)
       refine wp_store_sub _ _ _ rfl vc.heap.size 0 #[.slice b0 nv d0, .slice b1 nf d1, .slice b2 nl d2, .slice b3 nt d3, .slice b4 nt d4, .slice b5 nr d5] rfl rfl (some6 kA) (fun j _ => free_block kA _) Tryz.sizeSt one6 ?_
       rw [show (#[Value.slice b0 nv d0, .slice b1 nf d1, .slice b2 nl d2, .slice b3 nt d3, .slice b4 nt d4, .slice b5 nr d5] : Array Value).toList = [.slice b0 nv d0, .slice b1 nf d1, .slice b2 nl d2, .slice b3 nt d3, .slice b4 nt d4, .slice b5 nr d5] from rfl, hZ1]
       refine hK.out _ _ (hclo.out Z1 hB1) (fun hHeld => ?_)
       clear hK K
       try simp only [Act.put, sq]
       refine rd 13 (fun K hK => ?_)
       refine wp_store_sub _ _ _ rfl vA.heap.size 0 #[.int .i64 e1.t, .int .i64 e1.k, .int .i64 e1.o, .int .i64 e1.v] rfl rfl (some4 kE1) (fun j _ => free_block kE1 _) Tryz.sizeRe one_ev ?_
       rw [show (#[Value.int .i64 e1.t, .int .i64 e1.k, .int .i64 e1.o, .int .i64 e1.v] : Array Value).toList = [.int .i64 e1.t, .int .i64 e1.k, .int .i64 e1.o, .int .i64 e1.v] from rfl, hZ2]
       refine hK.out _ _ (hclo.out Z2 hB2) (fun hHeld => ?_)
       clear hK K
       try simp only [Act.put, sq]
       refine wpAnyH_done (by kernel_rfl) ?_ _
       have HF := hide (⟨kA2, kE2, (show w2.heap.size ≤ vc.heap.size by omega), (show w2.heap.size ≤ vA.heap.size by omega), ⟨(show w2.heap.size ≤ lo by omega), hrZ⟩, hB2⟩ : _ ∧ _ ∧ _ ∧ _ ∧ (_ ∧ _) ∧ _)
       clear hHeld kA kE hle hrX hrw hlo hk1 hk2 kE1 kA2 kE2 zk1 zk2 hB1 hB2 hrZ hZ1 hZ2 hlA hlE zU zz0 zz1 zz2
       go_wp2_with fail
       go_meet
       exact ⟨_, _, _, _, _, _, _, _, _, _, _, _, _, _, rfl, rfl, HF.out.1, HF.out.2.1, HF.out.2.2.1, HF.out.2.2.2.1, ⟨lo, HF.out.2.2.2.2.1.1, p1, p2, p3, p4, p5, p6, HF.out.2.2.2.2.1.2⟩, HF.out.2.2.2.2.2⟩
      ·go_simp
       obtain ⟨vE, hvE⟩ : ∃ A, vc.alloc (.cells #[.int .i64 0, .int .i64 0, .int .i64 0, .int .i64 0] 50) = A := ⟨_, rfl⟩
       have hxE : Hid (Below vc.heap.size vc vE) := by rw [← hvE]; exact (Below.refl _ _).alloc (Nat.le_refl _) _
       have hkE : Hid (vE.heap[vc.heap.size]? = some (.cells #[.int .i64 0, .int .i64 0, .int .i64 0, .int .i64 0] 50)) := by rw [← hvE]; exact World.alloc_heap_new vc _
       have hbE : Hid (Below w2.heap.size w2 vE) := hbc.out.trans (hxE.out.mono hbc.out.size)
       try rw [hvE]
       clear hvE
       refine hK.out _ _ (hclo.out vE hbE.out) (fun hHeld => ?_)
       clear hK K
       try simp only [Act.put, sq]
       refine rd 10 (fun K hK => ?_)
       go_simp
       obtain ⟨vA, hvA⟩ : ∃ A, vE.alloc (.cells #[.slice none 0 0, .slice none 0 0, .slice none 0 0, .slice none 0 0, .slice none 0 0, .slice none 0 0] 36) = A := ⟨_, rfl⟩
       have hxA : Hid (Below vE.heap.size vE vA) := by rw [← hvA]; exact (Below.refl _ _).alloc (Nat.le_refl _) _
       have hkA : Hid (vA.heap[vE.heap.size]? = some (.cells #[.slice none 0 0, .slice none 0 0, .slice none 0 0, .slice none 0 0, .slice none 0 0, .slice none 0 0] 36)) := by rw [← hvA]; exact World.alloc_heap_new vE _
       have hbA : Hid (Below w2.heap.size w2 vA) := hbE.out.trans (hxA.out.mono hbE.out.size)
       try rw [hvA]
       clear hvA
       refine hK.out _ _ (hclo.out vA hbA.out) (fun hHeld => ?_)
       clear hK K
       try simp only [Act.put, sq]
       have zz0 := hxc.out.size
       have zz1 := hxE.out.size
       have zz2 := hxA.out.size
       have zU : w2.drew.heap.size = w2.heap.size := rfl
       have hlA := (Array.getElem?_eq_some_iff.1 hkA.out).1
       have hlE := (Array.getElem?_eq_some_iff.1 hkE.out).1
       have kA : vA.heap[vE.heap.size]? = some (.cells #[.slice none 0 0, .slice none 0 0, .slice none 0 0, .slice none 0 0, .slice none 0 0, .slice none 0 0] 36) := hkA.out
       have kE : vA.heap[vc.heap.size]? = some (.cells #[.int .i64 0, .int .i64 0, .int .i64 0, .int .i64 0] 50) := ((hxA.out.block _ (by omega)).trans hkE.out)
       obtain ⟨lo, hlo, p1, p2, p3, p4, p5, p6, hrw⟩ := hrows.out
       have hle := hrw.le
       have hrX : DRows vA lo b0 b1 b2 b3 b4 b5 m1 p1 p2 p3 p4 p5 p6 := (Rows6.keep (Rows6.keep hrw (fun b q1 q2 => hxE.out.block b (by omega)) hxE.out.size) (fun b q1 q2 => hxA.out.block b (by omega)) hxA.out.size)
       obtain ⟨Z1, Z2, hZ1, hZ2, hk1, hk2, kE1, kA2, kE2⟩ := fin_facts (.slice b0 nv d0) (.slice b1 nf d1) (.slice b2 nl d2) (.slice b3 nt d3) (.slice b4 nt d4) (.slice b5 nr d5) (.int .i64 e1.t) (.int .i64 e1.k) (.int .i64 e1.o) (.int .i64 e1.v) kA kE (by omega)
       have zk1 := hk1.size
       have zk2 := hk2.size
       have hB1 : Below w2.heap.size w2 Z1 := ⟨hk1.os.trans hbA.out.os, hk1.tape.trans hbA.out.tape, hk1.output.trans hbA.out.output, Nat.le_trans hbA.out.size hk1.size, fun k hk => (hk1.block k (by have := hbA.out.size; omega) (by omega)).trans (hbA.out.block k hk)⟩
       have hB2 : Below w2.heap.size w2 Z2 := ⟨hk2.os.trans hbA.out.os, hk2.tape.trans hbA.out.tape, hk2.output.trans hbA.out.output, Nat.le_trans hbA.out.size hk2.size, fun k hk => (hk2.block k (by have := hbA.out.size; omega) (by omega)).trans (hbA.out.block k hk)⟩
       have hrZ : DRows Z2 lo b0 b1 b2 b3 b4 b5 m1 p1 p2 p3 p4 p5 p6 := hrX.keep (fun b q1 q2 => hk2.block b (by omega) (by omega)) hk2.size
       refine rd 12 (fun K hK => ?_)
       refine wp_store_sub _ _ _ rfl vE.heap.size 0 #[.slice b0 nv d0, .slice b1 nf d1, .slice b2 nl d2, .slice b3 nt d3, .slice b4 nt d4, .slice b5 nr d5] rfl rfl (some6 kA) (fun j _ => free_block kA _) Tryz.sizeSt one6 ?_
       rw [show (#[Value.slice b0 nv d0, .slice b1 nf d1, .slice b2 nl d2, .slice b3 nt d3, .slice b4 nt d4, .slice b5 nr d5] : Array Value).toList = [.slice b0 nv d0, .slice b1 nf d1, .slice b2 nl d2, .slice b3 nt d3, .slice b4 nt d4, .slice b5 nr d5] from rfl, hZ1]
       refine hK.out _ _ (hclo.out Z1 hB1) (fun hHeld => ?_)
       clear hK K
       try simp only [Act.put, sq]
       refine rd 13 (fun K hK => ?_)
       refine wp_store_sub _ _ _ rfl vc.heap.size 0 #[.int .i64 e1.t, .int .i64 e1.k, .int .i64 e1.o, .int .i64 e1.v] rfl rfl (some4 kE1) (fun j _ => free_block kE1 _) Tryz.sizeRe one_ev ?_
       rw [show (#[Value.int .i64 e1.t, .int .i64 e1.k, .int .i64 e1.o, .int .i64 e1.v] : Array Value).toList = [.int .i64 e1.t, .int .i64 e1.k, .int .i64 e1.o, .int .i64 e1.v] from rfl, hZ2]
       refine hK.out _ _ (hclo.out Z2 hB2) (fun hHeld => ?_)
       clear hK K
       try simp only [Act.put, sq]
       refine wpAnyH_done (by kernel_rfl) ?_ _
       have HF := hide (⟨kA2, kE2, (show w2.heap.size ≤ vE.heap.size by omega), (show w2.heap.size ≤ vc.heap.size by omega), ⟨(show w2.heap.size ≤ lo by omega), hrZ⟩, hB2⟩ : _ ∧ _ ∧ _ ∧ _ ∧ (_ ∧ _) ∧ _)
       clear hHeld kA kE hle hrX hrw hlo hk1 hk2 kE1 kA2 kE2 zk1 zk2 hB1 hB2 hrZ hZ1 hZ2 hlA hlE zU zz0 zz1 zz2
       go_wp2_with fail
       go_meet
       exact ⟨_, _, _, _, _, _, _, _, _, _, _, _, _, _, rfl, rfl, HF.out.1, HF.out.2.1, HF.out.2.2.1, HF.out.2.2.2.1, ⟨lo, HF.out.2.2.2.2.1.1, p1, p2, p3, p4, p5, p6, HF.out.2.2.2.2.1.2⟩, HF.out.2.2.2.2.2⟩
     ·go_simp
      obtain ⟨vA, hvA⟩ : ∃ A, (w2.alloc (.cells #[.slice none 0 0, .slice none 0 0, .slice none 0 0, .slice none 0 0, .slice none 0 0, .slice none 0 0] 36)).drew = A := ⟨_, rfl⟩
      have hq0 : Below w2.heap.size w2 vA := by rw [← hvA]; exact ((Below.refl _ _).alloc (Nat.le_refl _) _).drew
      have hxA : Hid (Below w2.drew.heap.size w2.drew vA) := ⟨hq0.os, hq0.tape, hq0.output, hq0.size, hq0.block⟩
      have hkA : Hid (vA.heap[w2.drew.heap.size]? = some (.cells #[.slice none 0 0, .slice none 0 0, .slice none 0 0, .slice none 0 0, .slice none 0 0, .slice none 0 0] 36)) := by rw [← hvA]; exact World.alloc_heap_new w2 _
      have hbA : Hid (Below w2.heap.size w2 vA) := hq0
      try rw [hvA]
      clear hvA hq0
      refine hK.out _ _ (hclo.out vA hbA.out) (fun hHeld => ?_)
      clear hK K
      try simp only [Act.put, sq]
      refine wpAnyH_ready (rs := [6, 11]) (by kernel_rfl) (by simp) ?_
      refine AllReadyH.cons rfl (fun K hK => ?_) (AllReadyH.cons rfl (fun K hK => ?_) AllReadyH.nil)
      ·go_simp
       go_at_call 19
       refine (hSt.out _ hbA.out).mono ?_
       rintro e vc ⟨b0, b1, b2, b3, b4, b5, ⟨d0, d1, d2, d3, d4, d5, rfl⟩, hrows, -, hxc⟩
       replace hrows := hide hrows
       have hbc : Hid (Below w2.heap.size w2 vc) := hbA.out.trans (hxc.mono hbA.out.size)
       replace hxc := hide hxc
       have hq := hide (hclo.out vc hbc.out)
       go_wp2_with fail
       refine hK.out _ _ hq.out (fun hHeld => ?_)
       clear hK K hq
       try simp only [Act.put, sq]
       refine tk 7 hHeld ?_
       refine tk 8 hHeld ?_
       refine tk 9 hHeld ?_
       refine rd 11 (fun K hK => ?_)
       go_simp
       obtain ⟨vE, hvE⟩ : ∃ A, vc.alloc (.cells #[.int .i64 0, .int .i64 0, .int .i64 0, .int .i64 0] 50) = A := ⟨_, rfl⟩
       have hxE : Hid (Below vc.heap.size vc vE) := by rw [← hvE]; exact (Below.refl _ _).alloc (Nat.le_refl _) _
       have hkE : Hid (vE.heap[vc.heap.size]? = some (.cells #[.int .i64 0, .int .i64 0, .int .i64 0, .int .i64 0] 50)) := by rw [← hvE]; exact World.alloc_heap_new vc _
       have hbE : Hid (Below w2.heap.size w2 vE) := hbc.out.trans (hxE.out.mono hbc.out.size)
       try rw [hvE]
       clear hvE
       refine hK.out _ _ (hclo.out vE hbE.out) (fun hHeld => ?_)
       clear hK K
       try simp only [Act.put, sq]
       have zz0 := hxA.out.size
       have zz1 := hxc.out.size
       have zz2 := hxE.out.size
       have zU : w2.drew.heap.size = w2.heap.size := rfl
       have hlA := (Array.getElem?_eq_some_iff.1 hkA.out).1
       have hlE := (Array.getElem?_eq_some_iff.1 hkE.out).1
       have kA : vE.heap[w2.drew.heap.size]? = some (.cells #[.slice none 0 0, .slice none 0 0, .slice none 0 0, .slice none 0 0, .slice none 0 0, .slice none 0 0] 36) := ((hxE.out.block _ (by omega)).trans ((hxc.out.block _ (by omega)).trans hkA.out))
       have kE : vE.heap[vc.heap.size]? = some (.cells #[.int .i64 0, .int .i64 0, .int .i64 0, .int .i64 0] 50) := hkE.out
       obtain ⟨lo, hlo, p1, p2, p3, p4, p5, p6, hrw⟩ := hrows.out
       have hle := hrw.le
       have hrX : DRows vE lo b0 b1 b2 b3 b4 b5 m1 p1 p2 p3 p4 p5 p6 := (Rows6.keep hrw (fun b q1 q2 => hxE.out.block b (by omega)) hxE.out.size)
       obtain ⟨Z1, Z2, hZ1, hZ2, hk1, hk2, kE1, kA2, kE2⟩ := fin_facts (.slice b0 nv d0) (.slice b1 nf d1) (.slice b2 nl d2) (.slice b3 nt d3) (.slice b4 nt d4) (.slice b5 nr d5) (.int .i64 e1.t) (.int .i64 e1.k) (.int .i64 e1.o) (.int .i64 e1.v) kA kE (by omega)
       have zk1 := hk1.size
       have zk2 := hk2.size
       have hB1 : Below w2.heap.size w2 Z1 := ⟨hk1.os.trans hbE.out.os, hk1.tape.trans hbE.out.tape, hk1.output.trans hbE.out.output, Nat.le_trans hbE.out.size hk1.size, fun k hk => (hk1.block k (by have := hbE.out.size; omega) (by omega)).trans (hbE.out.block k hk)⟩
       have hB2 : Below w2.heap.size w2 Z2 := ⟨hk2.os.trans hbE.out.os, hk2.tape.trans hbE.out.tape, hk2.output.trans hbE.out.output, Nat.le_trans hbE.out.size hk2.size, fun k hk => (hk2.block k (by have := hbE.out.size; omega) (by omega)).trans (hbE.out.block k hk)⟩
       have hrZ : DRows Z2 lo b0 b1 b2 b3 b4 b5 m1 p1 p2 p3 p4 p5 p6 := hrX.keep (fun b q1 q2 => hk2.block b (by omega) (by omega)) hk2.size
       refine rd 12 (fun K hK => ?_)
       refine wp_store_sub _ _ _ rfl w2.drew.heap.size 0 #[.slice b0 nv d0, .slice b1 nf d1, .slice b2 nl d2, .slice b3 nt d3, .slice b4 nt d4, .slice b5 nr d5] rfl rfl (some6 kA) (fun j _ => free_block kA _) Tryz.sizeSt one6 ?_
       rw [show (#[Value.slice b0 nv d0, .slice b1 nf d1, .slice b2 nl d2, .slice b3 nt d3, .slice b4 nt d4, .slice b5 nr d5] : Array Value).toList = [.slice b0 nv d0, .slice b1 nf d1, .slice b2 nl d2, .slice b3 nt d3, .slice b4 nt d4, .slice b5 nr d5] from rfl, hZ1]
       refine hK.out _ _ (hclo.out Z1 hB1) (fun hHeld => ?_)
       clear hK K
       try simp only [Act.put, sq]
       refine rd 13 (fun K hK => ?_)
       refine wp_store_sub _ _ _ rfl vc.heap.size 0 #[.int .i64 e1.t, .int .i64 e1.k, .int .i64 e1.o, .int .i64 e1.v] rfl rfl (some4 kE1) (fun j _ => free_block kE1 _) Tryz.sizeRe one_ev ?_
       rw [show (#[Value.int .i64 e1.t, .int .i64 e1.k, .int .i64 e1.o, .int .i64 e1.v] : Array Value).toList = [.int .i64 e1.t, .int .i64 e1.k, .int .i64 e1.o, .int .i64 e1.v] from rfl, hZ2]
       refine hK.out _ _ (hclo.out Z2 hB2) (fun hHeld => ?_)
       clear hK K
       try simp only [Act.put, sq]
       refine wpAnyH_done (by kernel_rfl) ?_ _
       have HF := hide (⟨kA2, kE2, (show w2.heap.size ≤ w2.drew.heap.size by omega), (show w2.heap.size ≤ vc.heap.size by omega), ⟨(show w2.heap.size ≤ lo by omega), hrZ⟩, hB2⟩ : _ ∧ _ ∧ _ ∧ _ ∧ (_ ∧ _) ∧ _)
       clear hHeld kA kE hle hrX hrw hlo hk1 hk2 kE1 kA2 kE2 zk1 zk2 hB1 hB2 hrZ hZ1 hZ2 hlA hlE zU zz0 zz1 zz2
       go_wp2_with fail
       go_meet
       exact ⟨_, _, _, _, _, _, _, _, _, _, _, _, _, _, rfl, rfl, HF.out.1, HF.out.2.1, HF.out.2.2.1, HF.out.2.2.2.1, ⟨lo, HF.out.2.2.2.2.1.1, p1, p2, p3, p4, p5, p6, HF.out.2.2.2.2.1.2⟩, HF.out.2.2.2.2.2⟩
      ·go_simp
       obtain ⟨vE, hvE⟩ : ∃ A, vA.alloc (.cells #[.int .i64 0, .int .i64 0, .int .i64 0, .int .i64 0] 50) = A := ⟨_, rfl⟩
       have hxE : Hid (Below vA.heap.size vA vE) := by rw [← hvE]; exact (Below.refl _ _).alloc (Nat.le_refl _) _
       have hkE : Hid (vE.heap[vA.heap.size]? = some (.cells #[.int .i64 0, .int .i64 0, .int .i64 0, .int .i64 0] 50)) := by rw [← hvE]; exact World.alloc_heap_new vA _
       have hbE : Hid (Below w2.heap.size w2 vE) := hbA.out.trans (hxE.out.mono hbA.out.size)
       try rw [hvE]
       clear hvE
       refine hK.out _ _ (hclo.out vE hbE.out) (fun hHeld => ?_)
       clear hK K
       try simp only [Act.put, sq]
       refine rd 6 (fun K hK => ?_)
       go_simp
       go_at_call 19
       refine (hSt.out _ hbE.out).mono ?_
       rintro e vc ⟨b0, b1, b2, b3, b4, b5, ⟨d0, d1, d2, d3, d4, d5, rfl⟩, hrows, -, hxc⟩
       replace hrows := hide hrows
       have hbc : Hid (Below w2.heap.size w2 vc) := hbE.out.trans (hxc.mono hbE.out.size)
       replace hxc := hide hxc
       have hq := hide (hclo.out vc hbc.out)
       go_wp2_with fail
       refine hK.out _ _ hq.out (fun hHeld => ?_)
       clear hK K hq
       try simp only [Act.put, sq]
       refine tk 7 hHeld ?_
       refine tk 8 hHeld ?_
       refine tk 9 hHeld ?_
       have zz0 := hxA.out.size
       have zz1 := hxE.out.size
       have zz2 := hxc.out.size
       have zU : w2.drew.heap.size = w2.heap.size := rfl
       have hlA := (Array.getElem?_eq_some_iff.1 hkA.out).1
       have hlE := (Array.getElem?_eq_some_iff.1 hkE.out).1
       have kA : vc.heap[w2.drew.heap.size]? = some (.cells #[.slice none 0 0, .slice none 0 0, .slice none 0 0, .slice none 0 0, .slice none 0 0, .slice none 0 0] 36) := ((hxc.out.block _ (by omega)).trans ((hxE.out.block _ (by omega)).trans hkA.out))
       have kE : vc.heap[vA.heap.size]? = some (.cells #[.int .i64 0, .int .i64 0, .int .i64 0, .int .i64 0] 50) := ((hxc.out.block _ (by omega)).trans hkE.out)
       obtain ⟨lo, hlo, p1, p2, p3, p4, p5, p6, hrw⟩ := hrows.out
       have hle := hrw.le
       have hrX : DRows vc lo b0 b1 b2 b3 b4 b5 m1 p1 p2 p3 p4 p5 p6 := hrw
       obtain ⟨Z1, Z2, hZ1, hZ2, hk1, hk2, kE1, kA2, kE2⟩ := fin_facts (.slice b0 nv d0) (.slice b1 nf d1) (.slice b2 nl d2) (.slice b3 nt d3) (.slice b4 nt d4) (.slice b5 nr d5) (.int .i64 e1.t) (.int .i64 e1.k) (.int .i64 e1.o) (.int .i64 e1.v) kA kE (by omega)
       have zk1 := hk1.size
       have zk2 := hk2.size
       have hB1 : Below w2.heap.size w2 Z1 := ⟨hk1.os.trans hbc.out.os, hk1.tape.trans hbc.out.tape, hk1.output.trans hbc.out.output, Nat.le_trans hbc.out.size hk1.size, fun k hk => (hk1.block k (by have := hbc.out.size; omega) (by omega)).trans (hbc.out.block k hk)⟩
       have hB2 : Below w2.heap.size w2 Z2 := ⟨hk2.os.trans hbc.out.os, hk2.tape.trans hbc.out.tape, hk2.output.trans hbc.out.output, Nat.le_trans hbc.out.size hk2.size, fun k hk => (hk2.block k (by have := hbc.out.size; omega) (by omega)).trans (hbc.out.block k hk)⟩
       have hrZ : DRows Z2 lo b0 b1 b2 b3 b4 b5 m1 p1 p2 p3 p4 p5 p6 := hrX.keep (fun b q1 q2 => hk2.block b (by omega) (by omega)) hk2.size
       refine rd 12 (fun K hK => ?_)
       refine wp_store_sub _ _ _ rfl w2.drew.heap.size 0 #[.slice b0 nv d0, .slice b1 nf d1, .slice b2 nl d2, .slice b3 nt d3, .slice b4 nt d4, .slice b5 nr d5] rfl rfl (some6 kA) (fun j _ => free_block kA _) Tryz.sizeSt one6 ?_
       rw [show (#[Value.slice b0 nv d0, .slice b1 nf d1, .slice b2 nl d2, .slice b3 nt d3, .slice b4 nt d4, .slice b5 nr d5] : Array Value).toList = [.slice b0 nv d0, .slice b1 nf d1, .slice b2 nl d2, .slice b3 nt d3, .slice b4 nt d4, .slice b5 nr d5] from rfl, hZ1]
       refine hK.out _ _ (hclo.out Z1 hB1) (fun hHeld => ?_)
       clear hK K
       try simp only [Act.put, sq]
       refine rd 13 (fun K hK => ?_)
       refine wp_store_sub _ _ _ rfl vA.heap.size 0 #[.int .i64 e1.t, .int .i64 e1.k, .int .i64 e1.o, .int .i64 e1.v] rfl rfl (some4 kE1) (fun j _ => free_block kE1 _) Tryz.sizeRe one_ev ?_
       rw [show (#[Value.int .i64 e1.t, .int .i64 e1.k, .int .i64 e1.o, .int .i64 e1.v] : Array Value).toList = [.int .i64 e1.t, .int .i64 e1.k, .int .i64 e1.o, .int .i64 e1.v] from rfl, hZ2]
       refine hK.out _ _ (hclo.out Z2 hB2) (fun hHeld => ?_)
       clear hK K
       try simp only [Act.put, sq]
       refine wpAnyH_done (by kernel_rfl) ?_ _
       have HF := hide (⟨kA2, kE2, (show w2.heap.size ≤ w2.drew.heap.size by omega), (show w2.heap.size ≤ vA.heap.size by omega), ⟨(show w2.heap.size ≤ lo by omega), hrZ⟩, hB2⟩ : _ ∧ _ ∧ _ ∧ _ ∧ (_ ∧ _) ∧ _)
       clear hHeld kA kE hle hrX hrw hlo hk1 hk2 kE1 kA2 kE2 zk1 zk2 hB1 hB2 hrZ hZ1 hZ2 hlA hlE zU zz0 zz1 zz2
       go_wp2_with fail
       go_meet
       exact ⟨_, _, _, _, _, _, _, _, _, _, _, _, _, _, rfl, rfl, HF.out.1, HF.out.2.1, HF.out.2.2.1, HF.out.2.2.2.1, ⟨lo, HF.out.2.2.2.2.1.1, p1, p2, p3, p4, p5, p6, HF.out.2.2.2.2.1.2⟩, HF.out.2.2.2.2.2⟩
     ·go_simp
      obtain ⟨vE, hvE⟩ : ∃ A, (w2.alloc (.cells #[.int .i64 0, .int .i64 0, .int .i64 0, .int .i64 0] 50)).drew = A := ⟨_, rfl⟩
      have hq0 : Below w2.heap.size w2 vE := by rw [← hvE]; exact ((Below.refl _ _).alloc (Nat.le_refl _) _).drew
      have hxE : Hid (Below w2.drew.heap.size w2.drew vE) := ⟨hq0.os, hq0.tape, hq0.output, hq0.size, hq0.block⟩
      have hkE : Hid (vE.heap[w2.drew.heap.size]? = some (.cells #[.int .i64 0, .int .i64 0, .int .i64 0, .int .i64 0] 50)) := by rw [← hvE]; exact World.alloc_heap_new w2 _
      have hbE : Hid (Below w2.heap.size w2 vE) := hq0
      try rw [hvE]
      clear hvE hq0
      refine hK.out _ _ (hclo.out vE hbE.out) (fun hHeld => ?_)
      clear hK K
      try simp only [Act.put, sq]
      refine wpAnyH_ready (rs := [6, 10]) (by kernel_rfl) (by simp) ?_
      refine AllReadyH.cons rfl (fun K hK => ?_) (AllReadyH.cons rfl (fun K hK => ?_) AllReadyH.nil)
      ·go_simp
       go_at_call 19
       refine (hSt.out _ hbE.out).mono ?_
       rintro e vc ⟨b0, b1, b2, b3, b4, b5, ⟨d0, d1, d2, d3, d4, d5, rfl⟩, hrows, -, hxc⟩
       replace hrows := hide hrows
       have hbc : Hid (Below w2.heap.size w2 vc) := hbE.out.trans (hxc.mono hbE.out.size)
       replace hxc := hide hxc
       have hq := hide (hclo.out vc hbc.out)
       go_wp2_with fail
       refine hK.out _ _ hq.out (fun hHeld => ?_)
       clear hK K hq
       try simp only [Act.put, sq]
       refine tk 7 hHeld ?_
       refine tk 8 hHeld ?_
       refine tk 9 hHeld ?_
       refine rd 10 (fun K hK => ?_)
       go_simp
       obtain ⟨vA, hvA⟩ : ∃ A, vc.alloc (.cells #[.slice none 0 0, .slice none 0 0, .slice none 0 0, .slice none 0 0, .slice none 0 0, .slice none 0 0] 36) = A := ⟨_, rfl⟩
       have hxA : Hid (Below vc.heap.size vc vA) := by rw [← hvA]; exact (Below.refl _ _).alloc (Nat.le_refl _) _
       have hkA : Hid (vA.heap[vc.heap.size]? = some (.cells #[.slice none 0 0, .slice none 0 0, .slice none 0 0, .slice none 0 0, .slice none 0 0, .slice none 0 0] 36)) := by rw [← hvA]; exact World.alloc_heap_new vc _
       have hbA : Hid (Below w2.heap.size w2 vA) := hbc.out.trans (hxA.out.mono hbc.out.size)
       try rw [hvA]
       clear hvA
       refine hK.out _ _ (hclo.out vA hbA.out) (fun hHeld => ?_)
       clear hK K
       try simp only [Act.put, sq]
       have zz0 := hxE.out.size
       have zz1 := hxc.out.size
       have zz2 := hxA.out.size
       have zU : w2.drew.heap.size = w2.heap.size := rfl
       have hlA := (Array.getElem?_eq_some_iff.1 hkA.out).1
       have hlE := (Array.getElem?_eq_some_iff.1 hkE.out).1
       have kA : vA.heap[vc.heap.size]? = some (.cells #[.slice none 0 0, .slice none 0 0, .slice none 0 0, .slice none 0 0, .slice none 0 0, .slice none 0 0] 36) := hkA.out
       have kE : vA.heap[w2.drew.heap.size]? = some (.cells #[.int .i64 0, .int .i64 0, .int .i64 0, .int .i64 0] 50) := ((hxA.out.block _ (by omega)).trans ((hxc.out.block _ (by omega)).trans hkE.out))
       obtain ⟨lo, hlo, p1, p2, p3, p4, p5, p6, hrw⟩ := hrows.out
       have hle := hrw.le
       have hrX : DRows vA lo b0 b1 b2 b3 b4 b5 m1 p1 p2 p3 p4 p5 p6 := (Rows6.keep hrw (fun b q1 q2 => hxA.out.block b (by omega)) hxA.out.size)
       obtain ⟨Z1, Z2, hZ1, hZ2, hk1, hk2, kE1, kA2, kE2⟩ := fin_facts (.slice b0 nv d0) (.slice b1 nf d1) (.slice b2 nl d2) (.slice b3 nt d3) (.slice b4 nt d4) (.slice b5 nr d5) (.int .i64 e1.t) (.int .i64 e1.k) (.int .i64 e1.o) (.int .i64 e1.v) kA kE (by omega)
       have zk1 := hk1.size
       have zk2 := hk2.size
       have hB1 : Below w2.heap.size w2 Z1 := ⟨hk1.os.trans hbA.out.os, hk1.tape.trans hbA.out.tape, hk1.output.trans hbA.out.output, Nat.le_trans hbA.out.size hk1.size, fun k hk => (hk1.block k (by have := hbA.out.size; omega) (by omega)).trans (hbA.out.block k hk)⟩
       have hB2 : Below w2.heap.size w2 Z2 := ⟨hk2.os.trans hbA.out.os, hk2.tape.trans hbA.out.tape, hk2.output.trans hbA.out.output, Nat.le_trans hbA.out.size hk2.size, fun k hk => (hk2.block k (by have := hbA.out.size; omega) (by omega)).trans (hbA.out.block k hk)⟩
       have hrZ : DRows Z2 lo b0 b1 b2 b3 b4 b5 m1 p1 p2 p3 p4 p5 p6 := hrX.keep (fun b q1 q2 => hk2.block b (by omega) (by omega)) hk2.size
       refine rd 12 (fun K hK => ?_)
       refine wp_store_sub _ _ _ rfl vc.heap.size 0 #[.slice b0 nv d0, .slice b1 nf d1, .slice b2 nl d2, .slice b3 nt d3, .slice b4 nt d4, .slice b5 nr d5] rfl rfl (some6 kA) (fun j _ => free_block kA _) Tryz.sizeSt one6 ?_
       rw [show (#[Value.slice b0 nv d0, .slice b1 nf d1, .slice b2 nl d2, .slice b3 nt d3, .slice b4 nt d4, .slice b5 nr d5] : Array Value).toList = [.slice b0 nv d0, .slice b1 nf d1, .slice b2 nl d2, .slice b3 nt d3, .slice b4 nt d4, .slice b5 nr d5] from rfl, hZ1]
       refine hK.out _ _ (hclo.out Z1 hB1) (fun hHeld => ?_)
       clear hK K
       try simp only [Act.put, sq]
       refine rd 13 (fun K hK => ?_)
       refine wp_store_sub _ _ _ rfl w2.drew.heap.size 0 #[.int .i64 e1.t, .int .i64 e1.k, .int .i64 e1.o, .int .i64 e1.v] rfl rfl (some4 kE1) (fun j _ => free_block kE1 _) Tryz.sizeRe one_ev ?_
       rw [show (#[Value.int .i64 e1.t, .int .i64 e1.k, .int .i64 e1.o, .int .i64 e1.v] : Array Value).toList = [.int .i64 e1.t, .int .i64 e1.k, .int .i64 e1.o, .int .i64 e1.v] from rfl, hZ2]
       refine hK.out _ _ (hclo.out Z2 hB2) (fun hHeld => ?_)
       clear hK K
       try simp only [Act.put, sq]
       refine wpAnyH_done (by kernel_rfl) ?_ _
       have HF := hide (⟨kA2, kE2, (show w2.heap.size ≤ vc.heap.size by omega), (show w2.heap.size ≤ w2.drew.heap.size by omega), ⟨(show w2.heap.size ≤ lo by omega), hrZ⟩, hB2⟩ : _ ∧ _ ∧ _ ∧ _ ∧ (_ ∧ _) ∧ _)
       clear hHeld kA kE hle hrX hrw hlo hk1 hk2 kE1 kA2 kE2 zk1 zk2 hB1 hB2 hrZ hZ1 hZ2 hlA hlE zU zz0 zz1 zz2
       go_wp2_with fail
       go_meet
       exact ⟨_, _, _, _, _, _, _, _, _, _, _, _, _, _, rfl, rfl, HF.out.1, HF.out.2.1, HF.out.2.2.1, HF.out.2.2.2.1, ⟨lo, HF.out.2.2.2.2.1.1, p1, p2, p3, p4, p5, p6, HF.out.2.2.2.2.1.2⟩, HF.out.2.2.2.2.2⟩
      ·go_simp
       obtain ⟨vA, hvA⟩ : ∃ A, vE.alloc (.cells #[.slice none 0 0, .slice none 0 0, .slice none 0 0, .slice none 0 0, .slice none 0 0, .slice none 0 0] 36) = A := ⟨_, rfl⟩
       have hxA : Hid (Below vE.heap.size vE vA) := by rw [← hvA]; exact (Below.refl _ _).alloc (Nat.le_refl _) _
       have hkA : Hid (vA.heap[vE.heap.size]? = some (.cells #[.slice none 0 0, .slice none 0 0, .slice none 0 0, .slice none 0 0, .slice none 0 0, .slice none 0 0] 36)) := by rw [← hvA]; exact World.alloc_heap_new vE _
       have hbA : Hid (Below w2.heap.size w2 vA) := hbE.out.trans (hxA.out.mono hbE.out.size)
       try rw [hvA]
       clear hvA
       refine hK.out _ _ (hclo.out vA hbA.out) (fun hHeld => ?_)
       clear hK K
       try simp only [Act.put, sq]
       refine rd 6 (fun K hK => ?_)
       go_simp
       go_at_call 19
       refine (hSt.out _ hbA.out).mono ?_
       rintro e vc ⟨b0, b1, b2, b3, b4, b5, ⟨d0, d1, d2, d3, d4, d5, rfl⟩, hrows, -, hxc⟩
       replace hrows := hide hrows
       have hbc : Hid (Below w2.heap.size w2 vc) := hbA.out.trans (hxc.mono hbA.out.size)
       replace hxc := hide hxc
       have hq := hide (hclo.out vc hbc.out)
       go_wp2_with fail
       refine hK.out _ _ hq.out (fun hHeld => ?_)
       clear hK K hq
       try simp only [Act.put, sq]
       refine tk 7 hHeld ?_
       refine tk 8 hHeld ?_
       refine tk 9 hHeld ?_
       have zz0 := hxE.out.size
       have zz1 := hxA.out.size
       have zz2 := hxc.out.size
       have zU : w2.drew.heap.size = w2.heap.size := rfl
       have hlA := (Array.getElem?_eq_some_iff.1 hkA.out).1
       have hlE := (Array.getElem?_eq_some_iff.1 hkE.out).1
       have kA : vc.heap[vE.heap.size]? = some (.cells #[.slice none 0 0, .slice none 0 0, .slice none 0 0, .slice none 0 0, .slice none 0 0, .slice none 0 0] 36) := ((hxc.out.block _ (by omega)).trans hkA.out)
       have kE : vc.heap[w2.drew.heap.size]? = some (.cells #[.int .i64 0, .int .i64 0, .int .i64 0, .int .i64 0] 50) := ((hxc.out.block _ (by omega)).trans ((hxA.out.block _ (by omega)).trans hkE.out))
       obtain ⟨lo, hlo, p1, p2, p3, p4, p5, p6, hrw⟩ := hrows.out
       have hle := hrw.le
       have hrX : DRows vc lo b0 b1 b2 b3 b4 b5 m1 p1 p2 p3 p4 p5 p6 := hrw
       obtain ⟨Z1, Z2, hZ1, hZ2, hk1, hk2, kE1, kA2, kE2⟩ := fin_facts (.slice b0 nv d0) (.slice b1 nf d1) (.slice b2 nl d2) (.slice b3 nt d3) (.slice b4 nt d4) (.slice b5 nr d5) (.int .i64 e1.t) (.int .i64 e1.k) (.int .i64 e1.o) (.int .i64 e1.v) kA kE (by omega)
       have zk1 := hk1.size
       have zk2 := hk2.size
       have hB1 : Below w2.heap.size w2 Z1 := ⟨hk1.os.trans hbc.out.os, hk1.tape.trans hbc.out.tape, hk1.output.trans hbc.out.output, Nat.le_trans hbc.out.size hk1.size, fun k hk => (hk1.block k (by have := hbc.out.size; omega) (by omega)).trans (hbc.out.block k hk)⟩
       have hB2 : Below w2.heap.size w2 Z2 := ⟨hk2.os.trans hbc.out.os, hk2.tape.trans hbc.out.tape, hk2.output.trans hbc.out.output, Nat.le_trans hbc.out.size hk2.size, fun k hk => (hk2.block k (by have := hbc.out.size; omega) (by omega)).trans (hbc.out.block k hk)⟩
       have hrZ : DRows Z2 lo b0 b1 b2 b3 b4 b5 m1 p1 p2 p3 p4 p5 p6 := hrX.keep (fun b q1 q2 => hk2.block b (by omega) (by omega)) hk2.size
       refine rd 12 (fun K hK => ?_)
       refine wp_store_sub _ _ _ rfl vE.heap.size 0 #[.slice b0 nv d0, .slice b1 nf d1, .slice b2 nl d2, .slice b3 nt d3, .slice b4 nt d4, .slice b5 nr d5] rfl rfl (some6 kA) (fun j _ => free_block kA _) Tryz.sizeSt one6 ?_
       rw [show (#[Value.slice b0 nv d0, .slice b1 nf d1, .slice b2 nl d2, .slice b3 nt d3, .slice b4 nt d4, .slice b5 nr d5] : Array Value).toList = [.slice b0 nv d0, .slice b1 nf d1, .slice b2 nl d2, .slice b3 nt d3, .slice b4 nt d4, .slice b5 nr d5] from rfl, hZ1]
       refine hK.out _ _ (hclo.out Z1 hB1) (fun hHeld => ?_)
       clear hK K
       try simp only [Act.put, sq]
       refine rd 13 (fun K hK => ?_)
       refine wp_store_sub _ _ _ rfl w2.drew.heap.size 0 #[.int .i64 e1.t, .int .i64 e1.k, .int .i64 e1.o, .int .i64 e1.v] rfl rfl (some4 kE1) (fun j _ => free_block kE1 _) Tryz.sizeRe one_ev ?_
       rw [show (#[Value.int .i64 e1.t, .int .i64 e1.k, .int .i64 e1.o, .int .i64 e1.v] : Array Value).toList = [.int .i64 e1.t, .int .i64 e1.k, .int .i64 e1.o, .int .i64 e1.v] from rfl, hZ2]
       refine hK.out _ _ (hclo.out Z2 hB2) (fun hHeld => ?_)
       clear hK K
       try simp only [Act.put, sq]
       refine wpAnyH_done (by kernel_rfl) ?_ _
       have HF := hide (⟨kA2, kE2, (show w2.heap.size ≤ vE.heap.size by omega), (show w2.heap.size ≤ w2.drew.heap.size by omega), ⟨(show w2.heap.size ≤ lo by omega), hrZ⟩, hB2⟩ : _ ∧ _ ∧ _ ∧ _ ∧ (_ ∧ _) ∧ _)
       clear hHeld kA kE hle hrX hrw hlo hk1 hk2 kE1 kA2 kE2 zk1 zk2 hB1 hB2 hrZ hZ1 hZ2 hlA hlE zU zz0 zz1 zz2
       go_wp2_with fail
       go_meet
       exact ⟨_, _, _, _, _, _, _, _, _, _, _, _, _, _, rfl, rfl, HF.out.1, HF.out.2.1, HF.out.2.2.1, HF.out.2.2.2.1, ⟨lo, HF.out.2.2.2.2.1.1, p1, p2, p3, p4, p5, p6, HF.out.2.2.2.2.1.2⟩, HF.out.2.2.2.2.2⟩
    case rest =>
     obtain ⟨sa, se, b0, b1, b2, b3, b4, b5, d0, d1, d2, d3, d4, d5, rfl, rfl, kA, kE, hsa, hse, ⟨lo, hlo, p1, p2, p3, p4, p5, p6, hrw⟩, hBc⟩ := hcut
     obtain ⟨h5, hpt, hrow, hBr, ks2, hpl, hok1, hn1, hlr, hcl⟩ := HN.out
     have hls := (Array.getElem?_eq_some_iff.1 ks2).1
     have ksc := (hBc.block sS hls).trans ks2
     obtain ⟨s0, s1, s2, s3, s4, s5⟩ := six_cells ksc
     obtain ⟨f0, f1, f2, f3, f4, f5⟩ := (⟨free_block ksc 0, free_block ksc 1, free_block ksc 2, free_block ksc 3, free_block ksc 4, free_block ksc 5⟩ : _ ∧ _ ∧ _ ∧ _ ∧ _ ∧ _)
     obtain ⟨r0, r1, r2, r3, r4, r5⟩ := six_cells kA
     obtain ⟨W4, hW4⟩ : ∃ W4, (((((wc.setCell ⟨sS, 0, none⟩ (.slice b0 nv d0)).setCell ⟨sS, 1, none⟩ (.slice b1 nf d1)).setCell ⟨sS, 2, none⟩ (.slice b2 nl d2)).setCell ⟨sS, 3, none⟩ (.slice b3 nt d3)).setCell ⟨sS, 4, none⟩ (.slice b4 nt d4)).setCell ⟨sS, 5, none⟩ (.slice b5 nr d5) = W4 := ⟨_, rfl⟩
     have hk4 : KeepS (fun k => k = sS) wc W4 := by rw [← hW4]; exact keep_six _ _ _ _ _ _ (KeepS.refl wc) (.inl rfl)
     have ks4 : W4.heap[sS]? = some (.cells #[.slice b0 nv d0, .slice b1 nf d1, .slice b2 nl d2, .slice b3 nt d3, .slice b4 nt d4, .slice b5 nr d5] 36) := by rw [← hW4]; exact six_sets _ _ _ _ _ _ ksc
     have hzc := hBc.size
     have hz4 := hk4.size
     have hlA := (Array.getElem?_eq_some_iff.1 kA).1
     have hlE := (Array.getElem?_eq_some_iff.1 kE).1
     have hle := hrw.le
     have kE4 := (hk4.block se hlE (by omega)).trans kE
     obtain ⟨t0, t1, t2, t3⟩ := four_cells kE4
     have hrw4 : DRows W4 lo b0 b1 b2 b3 b4 b5 m1 p1 p2 p3 p4 p5 p6 := hrw.keep (fun b q1 q2 => hk4.block b (by omega) (by omega)) hk4.size
     have hne := row_ne2 hrow ks2 (by decide)
     have hrow4 : W4.ownsRow W.heap.size 50 4 (.slice va evs.length vc0) evs.length (evs.flatMap revL) := owns_same hrow (fun g e => (hk4.block g (by have := (hrow.lt g e).2; omega) (fun q => hne (by rw [e, q]))).trans (hBc.block g (hrow.lt g e).2))
     have hB4 : Below W.heap.size W W4 := ⟨hk4.os.trans (hBc.os.trans hBr.os), hk4.tape.trans (hBc.tape.trans hBr.tape), hk4.output.trans (hBc.output.trans hBr.output), Nat.le_trans hBr.size (Nat.le_trans hBc.size hk4.size), fun k hk => (hk4.block k (by have := hBr.size; omega) (by have := hsl.out; omega)).trans ((hBc.block k (by have := hBr.size; omega)).trans (hBr.block k hk))⟩
     obtain ⟨g, gc, w5, hrun, hrow5, hB5, hblk⟩ := revs_push hrow4 e1 (by omega) hB4.size
     have hBF : Below W.heap.size W w5 := hB4.trans (hB5 _ (Nat.le_refl _))
     have ks5 : w5.heap[sS]? = some (.cells #[.slice b0 nv d0, .slice b1 nf d1, .slice b2 nl d2, .slice b3 nt d3, .slice b4 nt d4, .slice b5 nr d5] 36) := (hblk sS (by omega) (row_ne2 hrow4 ks4 (by decide))).trans ks4
     have hrw5 : DRows w5 lo b0 b1 b2 b3 b4 b5 m1 p1 p2 p3 p4 p5 p6 := hrw4.keep (fun b q1 q2 => hblk b (by omega) (fun e => by have := (hrow.lt b e).2; omega)) (hB5 _ (Nat.le_refl _)).size
     have hD5 : DocS w5 b0 b1 b2 b3 b4 b5 nv nf nl nt nr m1 := hrw5.doc hok1.vl hok1.fl hok1.ll (hok1.tl.trans hcl) hlr (R4_of hok1)
     have HF := hide (⟨h5, hpt, hrow5, hBF, ks5, hD5⟩ : _ ∧ _ ∧ _ ∧ _ ∧ _ ∧ _)
     clear h5 hpt hrow hBr ks2 hpl hok1 hn1 hlr hcl hls ksc kA kE hsa hse hlo hrw hBc hk4 ks4 hzc hz4 hlA hlE hle kE4 hrw4 hne hrow4 hB4 hrow5 hB5 hblk hBF ks5 hrw5 hD5 HN hclo hSt hS1 hd
     go_upto_region 9 with fail
     try rw [hW4]
     clear hW4 s0 s1 s2 s3 s4 s5 f0 f1 f2 f3 f4 f5 r0 r1 r2 r3 r4 r5
     have hwi := hwi.out
     go_wp2_with (at_builtin; refine wpList_append_run rfl _ _ _ rfl rfl rfl rfl hrun ?_)
     go_roundw
     case rel =>
      (try rw [hwi])
      refine ⟨i + 1, HF.out.1, rfl, ⟨b0, b1, b2, b3, b4, b5, d0, d1, d2, d3, d4, d5, HF.out.2.2.2.2.1, ?_⟩, ?_, HF.out.2.2.2.1⟩
      ·rw [HF.out.2.1]; exact HF.out.2.2.2.2.2
      ·rw [HF.out.2.1]; exact HF.out.2.2.1
     case measure =>
      (try rw [hwi])
      exact Nat.sub_lt_sub_left HF.out.1 (Nat.lt_succ_self i)
   ·have he2 : (er == 0) = false := by simpa using he
    have hnx : (playM true (codeOf P) (newM nv nf nl nt) (l.take (i + 1))) = (m, evs) := by rw [HJ.out.2.1, if_neg he]
    have HN := hide (⟨HJ.out.1, hnx, owns_same HJ.out.2.2.1 (fun g e => hb2.out.block g (HJ.out.2.2.1.lt g e).2), HJ.out.2.2.2.1.trans (hb2.out.mono HJ.out.2.2.2.1.size), HJ.out.2.2.2.2.1.below hb2.out, (hb2.out.block sS (Array.getElem?_eq_some_iff.1 HJ.out.2.2.2.2.2.1).1).trans HJ.out.2.2.2.2.2.1⟩ : _ ∧ _ ∧ _ ∧ _ ∧ _ ∧ _)
    clear HJ hb2 hclr he hnx
    have hwi := hwi.out
    go_wp2_with fail
    go_roundw
    case rel =>
     (try rw [hwi])
     refine ⟨i + 1, HN.out.1, rfl, ⟨a0, a1, a2, a3, a4, a5, c0, c1, c2, c3, c4, c5, HN.out.2.2.2.2.2, ?_⟩, ?_, HN.out.2.2.2.1⟩
     ·rw [HN.out.2.1]; exact HN.out.2.2.2.2.1
     ·rw [HN.out.2.1]; exact HN.out.2.2.1
    case measure =>
     (try rw [hwi])
     exact Nat.sub_lt_sub_left HN.out.1 (Nat.lt_succ_self i)
  ·have hil : n = i := by omega
   subst hil
   have hnq := HK.out.2.2.2.2.1
   have htk : l.take n = l := List.take_of_length_le (by omega)
   rw [htk] at hD hrow
   obtain ⟨va, vc0, rfl⟩ := owns_len hrow
   have hz := HB.out.2.1
   have kr : wr.heap[w.heap.size + 1]? = some (.cells #[.slice none 0 0, .slice none 0 0, .slice none 0 0, .slice none 0 0, .slice none 0 0, .slice none 0 0] 36) := (hBr.block _ (by omega)).trans HB.out.2.2.2
   obtain ⟨s0, s1, s2, s3, s4, s5⟩ := six_cells ks
   have hls := (Array.getElem?_eq_some_iff.1 ks).1
   have hslo := hsl.out
   obtain ⟨U, hU⟩ : ∃ U, wr.drew.setCells (w.heap.size + 1) 0 [.slice a0 nv c0, .slice a1 nf c1, .slice a2 nl c2, .slice a3 nt c3, .slice a4 nt c4, .slice a5 nr c5] = U := ⟨_, rfl⟩
   have hkU : KeepS (fun k => k = w.heap.size + 1) wr U := by rw [← hU]; exact setCells_keep (S := fun k => k = w.heap.size + 1) _ 0 (KeepS.refl wr).drew (.inl rfl)
   have kU : U.heap[w.heap.size + 1]? = some (.cells #[.slice a0 nv c0, .slice a1 nf c1, .slice a2 nl c2, .slice a3 nt c3, .slice a4 nt c4, .slice a5 nr c5] 36) := by rw [← hU]; exact six_sets (v := wr.drew) _ _ _ _ _ _ kr
   have hDU := hD.of_keep kr hkU
   have hneU := row_ne2 hrow kr (by decide)
   have hrowU := owns_same hrow (fun g e => hkU.block g (hrow.lt g e).2 (fun q => hneU (by rw [e, q])))
   have hBU : Below w.heap.size w U := ⟨hkU.os.trans (hBr.os.trans HB.out.1.os), hkU.tape.trans (hBr.tape.trans HB.out.1.tape), hkU.output.trans (hBr.output.trans HB.out.1.output), Nat.le_trans HB.out.1.size (Nat.le_trans hBr.size hkU.size), fun k hk => (hkU.block k (by have := hBr.size; omega) (by omega)).trans ((hBr.block k (by omega)).trans (HB.out.1.block k hk))⟩
   have HF := hide (⟨kU, c_base hrowU (by omega : w.heap.size ≤ W.heap.size), hDU, hBU⟩ : _ ∧ _ ∧ _ ∧ _)
   have hqU : (U.cell? ⟨sS, 0, none⟩ = some (.slice a0 nv c0) ∧ U.cell? ⟨sS, 1, none⟩ = some (.slice a1 nf c1) ∧ U.cell? ⟨sS, 2, none⟩ = some (.slice a2 nl c2) ∧ U.cell? ⟨sS, 3, none⟩ = some (.slice a3 nt c3) ∧ U.cell? ⟨sS, 4, none⟩ = some (.slice a4 nt c4) ∧ U.cell? ⟨sS, 5, none⟩ = some (.slice a5 nr c5)) := six_cells ((hkU.block sS hls (by omega)).trans ks)
   have HQU := hide hqU
   have hS0 := hide (six_cells (W := wr.drew) ks)
   have HS2 := hide (⟨some6 (W := wr.drew) kr, free_block (W := wr.drew) kr⟩ : _ ∧ _)
   replace hU := hide hU
   clear hi h5 hnq htk hD hrow hBr hz kr ks hls hslo hkU kU hDU hneU hrowU hBU hqU HK HB hsl
   go_upto_region 10 with fail
   refine wp_region_held_drew (S := (fun u => (u.cell? ⟨sS, 0, none⟩ = some (.slice a0 nv c0) ∧ u.cell? ⟨sS, 1, none⟩ = some (.slice a1 nf c1) ∧ u.cell? ⟨sS, 2, none⟩ = some (.slice a2 nl c2) ∧ u.cell? ⟨sS, 3, none⟩ = some (.slice a3 nt c3) ∧ u.cell? ⟨sS, 4, none⟩ = some (.slice a4 nt c4) ∧ u.cell? ⟨sS, 5, none⟩ = some (.slice a5 nr c5)))) (by kernel_rfl) hS0.out (fun hHeld => ?_)
   refine tk 0 hHeld ?_
   refine tk 1 hHeld ?_
   refine tk 2 hHeld ?_
   refine rd 3 (fun K hK => ?_)
   refine wp_store_sub _ _ _ rfl (w.heap.size + 1) 0 #[.slice a0 nv c0, .slice a1 nf c1, .slice a2 nl c2, .slice a3 nt c3, .slice a4 nt c4, .slice a5 nr c5] rfl rfl HS2.out.1 (fun j _ => HS2.out.2 _) Tryz.sizeSt one6 ?_
   rw [show (#[Value.slice a0 nv c0, .slice a1 nf c1, .slice a2 nl c2, .slice a3 nt c3, .slice a4 nt c4, .slice a5 nr c5] : Array Value).toList = [.slice a0 nv c0, .slice a1 nf c1, .slice a2 nl c2, .slice a3 nt c3, .slice a4 nt c4, .slice a5 nr c5] from rfl, hU.out]
   refine hK.out _ _ HQU.out (fun hHeld => ?_)
   clear hK K
   try simp only [Act.put, sq]
   refine wpAnyH_done (by kernel_rfl) ?_ _
   clear hHeld s0 s1 s2 s3 s4 s5
   go_wp2_with fail
   exact bodyPost_ret (run_val rfl rfl rfl HF.out.1) rfl ⟨_, _, _, _, _, _, _, ⟨_, _, _, _, _, _, rfl⟩, HF.out.2.1, HF.out.2.2.1, HF.out.2.2.2⟩
end
end Go.Proofs.YtcfpedjfofpnkaaGreatDoor
