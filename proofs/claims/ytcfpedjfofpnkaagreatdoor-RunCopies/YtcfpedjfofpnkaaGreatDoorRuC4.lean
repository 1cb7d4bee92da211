import Derived.Test.YtcfpedjfofpnkaaGreatDoorRuC3
import Derived.Test.YtcfpedjfofpnkaaGreatDoorRu22
import Derived.Test.YtcfpedjfofpnkaaGreatDoorRuC0
set_option linter.unusedVariables false
set_option linter.unusedSimpArgs false
/-
  RunCopies.
-/
namespace Go.Proofs.YtcfpedjfofpnkaaGreatDoor
open Go.RowKit Go.Shelf Go.Proofs.Cod

/-- Blocks of instructions alone have changed, from base on. -/
structure KI (base : Nat) (w w' : World) : Prop where
  os : w'.os = w.os
  tape : w'.tape = w.tape
  output : w'.output = w.output
  size : w'.heap.size = w.heap.size
  low : ∀ k : Nat, k < base → w'.heap[k]? = w.heap[k]?
  other : ∀ (k : Nat) (cs : Array Value) (T : Nat), w.heap[k]? = some (.cells cs T) → T ≠ 67 → w'.heap[k]? = some (.cells cs T)
  ins : ∀ (k : Nat) (cs : Array Value), w.heap[k]? = some (.cells cs 67) → ∃ cs' : Array Value, w'.heap[k]? = some (.cells cs' 67) ∧ cs'.size = cs.size
theorem KI.refl (base : Nat) (w : World) : KI base w w := ⟨rfl, rfl, rfl, rfl, fun _ _ => rfl, fun _ _ _ h _ => h, fun _ cs h => ⟨cs, h, rfl⟩⟩
theorem KI.below {base : Nat} {w w' : World} (h : KI base w w') : Below base w w' := ⟨h.os, h.tape, h.output, Nat.le_of_eq h.size.symm, fun k hk => h.low k hk⟩
theorem KI.set {base : Nat} {w w' : World} (h : KI base w w') {g o : Nat} {cs : Array Value} (hg : base ≤ g) (hk : w.heap[g]? = some (.cells cs 67)) (v : Value) : KI base w (w'.setCell ⟨g, o, none⟩ v) := by
  refine ⟨h.os, h.tape, h.output, by rw [World.size_setCell]; exact h.size, fun k hl => ?_, fun k cs' T hc hT => ?_, fun k cs' hc => ?_⟩
  · exact (heap_setCell_other w' ⟨g, o, none⟩ k v (by show k ≠ g; omega)).trans (h.low k hl)
  · refine (heap_setCell_other w' ⟨g, o, none⟩ k v ?_).trans (h.other k cs' T hc hT)
    show k ≠ g
    intro e
    subst e
    rw [hk] at hc
    injection hc with hc
    injection hc with _ hc
    exact hT hc.symm
  · by_cases e : k = g
    · subst e
      obtain ⟨c2, q1, q2⟩ := h.ins k cs' hc
      exact ⟨_, heap_setCell_same w' k o _ _ v q1, by rw [Array.size_setIfInBounds]; exact q2⟩
    · obtain ⟨c2, q1, q2⟩ := h.ins k cs' hc
      exact ⟨c2, (heap_setCell_other w' ⟨g, o, none⟩ k v e).trans q1, q2⟩
/-- A thread's code: where it lies. -/
theorem code_at {w : World} {base nt tc i : Nat} {vV fV lV : Value} {ta : Option Addr} {vs fs ls : List Tx} {L : List (Tx × Value)} {C : List (List In7)} (h : ProgW w base vV fV lV (.slice ta nt tc) vs fs ls L C) (hL : L.length = nt) (hi : i < nt) :
    ∃ (tg : Nat) (ct : Array Value) (ca : Option Addr) (cn cc : Nat), ta = some ⟨tg, 0, none⟩ ∧ w.heap[tg]? = some (.cells ct 63) ∧ ct[i * 2 + 1]? = some (.slice ca cn cc) ∧ cn ≤ 24 + cn ∧ (∀ k, k < cn → ∃ (g : Nat) (cs : Array Value), ca = some ⟨g, 0, none⟩ ∧ base ≤ g ∧ w.heap[g]? = some (.cells cs 67) ∧ k * 7 + 6 < cs.size) ∧ (∀ is, C[i]? = some is → is.length = cn) := by
  obtain ⟨p, hp⟩ : ∃ p, L[i]? = some p := ⟨_, List.getElem?_eq_getElem (by omega)⟩
  obtain ⟨is, his⟩ : ∃ p, C[i]? = some p := ⟨_, List.getElem?_eq_getElem (by have := h.len; omega)⟩
  have hc := h.c i p is hp his
  obtain ⟨ca, cc, hpv⟩ := owns_len hc
  have hcell : (thrC L)[i * 2 + 1]? = some p.2 := by
    have q := flat_at (f := fun (p : Tx × Value) => [Value.string (bs p.1), p.2]) (m := 2) (fun _ => rfl) (r := 1) hp (by omega)
    exact q
  rcases h.t.2 with ⟨q, q'⟩ | ⟨tg, cap', cur, q, q4, q5, q6, q7, q8, q9⟩
  · injection q with q q2 _
    omega
  · injection q with q _ _
    subst q
    have hcell2 : cur[i * 2 + 1]? = some p.2 := by
      obtain ⟨g', cap2, e1, e2, e3⟩ := row_form h.t (k := i) (by omega)
      injection e1 with e1 _ _
      injection e1 with e1
      injection e1 with e1 _ _
      subst e1
      have r := e3 (i * 2 + 1) (by omega)
      rw [hcell] at r
      simpa [World.cell?, q5] using r
    refine ⟨tg, cur, ca, is.length, cc, rfl, q5, by rw [hcell2, hpv], by omega, fun k hk => ?_, fun is' e => by rw [his] at e; injection e with e; rw [e]⟩
    rcases hc.2 with ⟨r, r'⟩ | ⟨g, cap3, cur3, r, r4, r5, r6, r7, r8, r9⟩
    · rw [hpv] at r
      injection r with r r2 _
      omega
    · rw [hpv] at r
      injection r with r _ _
      subst r
      refine ⟨g, cur3, rfl, r4, r5, ?_⟩
      have : is.length * 7 ≤ cap3 * 7 := Nat.mul_le_mul_right 7 r6
      omega
theorem ints_push2 {w : World} {base : Nat} {v : Value} {l : List Int} (h : w.ownsRow base 3 1 v l.length (l.map intV)) (x : Int) (hl : l.length < 1048576) (hb : base ≤ w.heap.size) :
    ∃ g cap w', (Builtin.append_ #[22, 22] 22 #[v, .slice (some ⟨w.heap.size, 0, none⟩) 1 1]).run Tryz.prog (w.alloc (.cells #[.int .i64 x] 3)) = .ok (.slice (some ⟨g, 0, none⟩) (l.length + 1) cap) w' ∧
      w'.ownsRow base 3 1 (.slice (some ⟨g, 0, none⟩) (l.length + 1) cap) (l ++ [x]).length ((l ++ [x]).map intV) ∧ (∀ B, B ≤ base → Below B w w') ∧ (∀ k, k < w.heap.size → v.ownBlock ≠ some k → w'.heap[k]? = w.heap[k]?) ∧ (v.ownBlock = some g ∨ w.heap.size ≤ g) := by
  obtain ⟨i0, hi, hy0, hy1, hy2⟩ := info_parts Tryz.infoInt
  obtain ⟨g, cap, w', hr, r1, ro, rt, rp, rz, rb, rg⟩ := owns_pushN h Tryz.underlying22 hi hy0 hy1 hy2 rfl (by omega) [.int .i64 x] rfl (by intro u hu; simp at hu; subst hu; rfl) 22 hl hb
  refine ⟨g, cap, w', hr, by rw [List.length_append, List.map_append]; exact r1, fun B hB => ⟨ro, rt, rp, by omega, fun k hk => rb k (by omega) (fun e => ?_)⟩, rb, ?_⟩
  · have := (h.lt k e).1
    omega
  · rcases rg with q | q
    · exact .inl q
    · exact .inr (by omega)
theorem take_all {l : List Int} {i : Nat} (h : l.length ≤ i) : l.take i = l := List.take_of_length_le h
theorem take_next {l : List Int} {i : Nat} (h : i < l.length) : l.take (i + 1) = l.take i ++ [l.getD i 0] := by
  rw [List.take_add_one, List.getD_eq_getElem?_getD, List.getElem?_eq_getElem h]; rfl
theorem play_next (C : List (List In7)) (s m : MS) (l : List Int) (t : Int) (h : (playM false C s l).1 = m) : (playM false C s (l ++ [t])).1 = (trn C m t).1 := by
  rw [play_snoc, pl_trn, h]

/-- Two machines, and what was played on each. -/
structure St (X : World) (b c b6 : Nat) (p : PD) (mb mc : MS) (av bv : Value) (A D : List Int) (V : World) : Prop where
  mb : MachW V b p mb
  mc : MachW V c p mc
  ra : V.ownsRow b6 3 1 av A.length (A.map intV)
  rb : V.ownsRow b6 3 1 bv D.length (D.map intV)
  ap : ∀ g, av.ownBlock = some g → bv.ownBlock ≠ some g
  os : V.os = X.os
  tape : V.tape = X.tape
  output : V.output = X.output
  size : b6 ≤ V.heap.size
  low : ∀ k : Nat, k < c → k ≠ b → V.heap[k]? = X.heap[k]?
  bc : b < c
  c6 : c < b6
  cX : c ≤ X.heap.size
section
variable {X V V1 : World} {b c b6 : Nat} {p : PD} {mb mc m1 : MS} {av bv : Value} {A D : List Int}
theorem St.below {w : World} (h : St X b c b6 p mb mc av bv A D V) (hB : Below w.heap.size w X) (hb : w.heap.size ≤ b) (hz : X.heap.size ≤ c) : Below w.heap.size w V := ⟨h.os.trans hB.os, h.tape.trans hB.tape, h.output.trans hB.output, by have := hB.size; have := h.size; have := h.c6; omega, fun k hk => (h.low k (by have := hB.size; omega) (by omega)).trans (hB.block k hk)⟩
theorem St.stepB (h : St X b c b6 p mb mc av bv A D V) (hM : MachW V1 b p m1) (hk : KeepS (fun k => k = b) V V1) : St X b c b6 p m1 mc av bv A D V1 := by
  have hbc := h.bc
  have hc6 := h.c6
  have hsz := h.size
  exact { mb := hM, mc := h.mc.same (hk.block c h.mc.lt (by omega)), ra := row_keepS h.ra h.mb (by decide) hk, rb := row_keepS h.rb h.mb (by decide) hk, ap := h.ap, os := hk.os.trans h.os, tape := hk.tape.trans h.tape, output := hk.output.trans h.output, size := Nat.le_trans h.size hk.size, low := fun k h1 h2 => (hk.block k (by omega) h2).trans (h.low k h1 h2), bc := hbc, c6 := hc6, cX := h.cX }
theorem St.stepC (h : St X b c b6 p mb mc av bv A D V) (hM : MachW V1 c p m1) (hk : KeepS (fun k => k = c) V V1) : St X b c b6 p mb m1 av bv A D V1 := by
  have hbc := h.bc
  have hc6 := h.c6
  have hsz := h.size
  exact { mb := h.mb.same (hk.block b h.mb.lt (by omega)), mc := hM, ra := row_keepS h.ra h.mc (by decide) hk, rb := row_keepS h.rb h.mc (by decide) hk, ap := h.ap, os := hk.os.trans h.os, tape := hk.tape.trans h.tape, output := hk.output.trans h.output, size := Nat.le_trans h.size hk.size, low := fun k h1 h2 => (hk.block k (by omega) (by omega)).trans (h.low k h1 h2), bc := hbc, c6 := hc6, cX := h.cX }
theorem St.pushA (h : St X b c b6 p mb mc av bv A D V) (x : Int) (hl : A.length < 1048576) :
    ∃ g cap V2, (Builtin.append_ #[22, 22] 22 #[av, .slice (some ⟨V.heap.size, 0, none⟩) 1 1]).run Tryz.prog (V.alloc (.cells #[.int .i64 x] 3)) = .ok (.slice (some ⟨g, 0, none⟩) (A.length + 1) cap) V2 ∧ St X b c b6 p mb mc (.slice (some ⟨g, 0, none⟩) (A.length + 1) cap) bv (A ++ [x]) D V2 := by
  obtain ⟨g, cap, V2, hr, h1, h2, h3, h4⟩ := ints_push2 h.ra x hl h.size
  have hbc := h.bc
  have hc6 := h.c6
  have hbl := h2 b6 (Nat.le_refl _)
  refine ⟨g, cap, V2, hr, { mb := h.mb.same (hbl.block b (by omega)), mc := h.mc.same (hbl.block c hc6), ra := h1, rb := owns_same h.rb (fun k q => h3 k (h.rb.lt k q).2 (fun e => h.ap k e q)), ap := fun k q q2 => ?_, os := hbl.os.trans h.os, tape := hbl.tape.trans h.tape, output := hbl.output.trans h.output, size := Nat.le_trans h.size hbl.size, low := fun k q1 q2 => (hbl.block k (by omega)).trans (h.low k q1 q2), bc := hbc, c6 := hc6, cX := h.cX }⟩
  have q : some g = some k := q
  injection q with q
  subst q
  rcases h4 with h4 | h4
  · exact h.ap g h4 q2
  · have := (h.rb.lt g q2).2
    omega
theorem St.pushB (h : St X b c b6 p mb mc av bv A D V) (x : Int) (hl : D.length < 1048576) :
    ∃ g cap V2, (Builtin.append_ #[22, 22] 22 #[bv, .slice (some ⟨V.heap.size, 0, none⟩) 1 1]).run Tryz.prog (V.alloc (.cells #[.int .i64 x] 3)) = .ok (.slice (some ⟨g, 0, none⟩) (D.length + 1) cap) V2 ∧ St X b c b6 p mb mc av (.slice (some ⟨g, 0, none⟩) (D.length + 1) cap) A (D ++ [x]) V2 := by
  obtain ⟨g, cap, V2, hr, h1, h2, h3, h4⟩ := ints_push2 h.rb x hl h.size
  have hbc := h.bc
  have hc6 := h.c6
  have hbl := h2 b6 (Nat.le_refl _)
  refine ⟨g, cap, V2, hr, { mb := h.mb.same (hbl.block b (by omega)), mc := h.mc.same (hbl.block c hc6), ra := owns_same h.ra (fun k q => h3 k (h.ra.lt k q).2 (h.ap k q)), rb := h1, ap := fun k q q2 => ?_, os := hbl.os.trans h.os, tape := hbl.tape.trans h.tape, output := hbl.output.trans h.output, size := Nat.le_trans h.size hbl.size, low := fun k q1 q2 => (hbl.block k (by omega)).trans (h.low k q1 q2), bc := hbc, c6 := hc6, cX := h.cX }⟩
  have q2 : some g = some k := q2
  injection q2 with q2
  subst q2
  rcases h4 with h4 | h4
  · exact h.ap g q h4
  · have := (h.ra.lt g q).2
    omega
end
set_option maxRecDepth 100000 in
set_option maxHeartbeats 8000000 in
theorem runCopies_any (t : Tx) {w : World} {B : Nat} (ht : Tabs w B) (hB : B ≤ w.heap.size) {a1 a2 a3 : Option Addr} {n1 n2 n3 c1 c2 c3 : Nat} {l1 l2 l3 : List Int} (hn1 : l1.length = n1) (hl1 : Is w a1 l1) (hn2 : l2.length = n2) (hl2 : Is w a2 l2) (hn3 : l3.length = n3) (hl3 : Is w a3 l3) (hk : n1 + n2 + n3 < 1048576) :
    Calls Tryz.prog 5 #[.string (bs t), .slice a1 n1 c1, .slice a2 n2 c2, .slice a3 n3 c3] w fun e w' => e = .returned (.bool true) ∧ Below w.heap.size w w' := by
  have hL := load_any t ht hB
  have HA := hide (fun (w' : World) (hb : Below w.heap.size w w') => alive_any (ht.keep (hb.mono hB)) (by have := hb.size; omega))
  have HT := hide (⟨ht, ⟨hl1, hl2, hl3⟩, ⟨hn1, hn2, hn3⟩, hk⟩ : _ ∧ (_ ∧ _ ∧ _) ∧ (_ ∧ _ ∧ _) ∧ _)
  clear ht hl1 hl2 hl3 hn1 hn2 hn3 hk
  go_enter Tryz.func5, Tryz.ntmps5
  go_wp2_with fail
  refine hL.mono ?_
  clear hL
  rintro e w1 ⟨hb1, (rfl | ⟨s, C, vV, fV, lV, thV, L, qv, qf, ql, qt, P, TV, he, rfl, hPW, hLn, hQ, hp1, hp2, hp3, hp4, hpC⟩)⟩
  · have hB2 : ∀ o1 o2, Below w.heap.size w ((w1.alloc o1).alloc o2) := fun o1 o2 => (hb1.alloc hb1.size o1).alloc (by show w.heap.size ≤ (w1.heap.push o1).size; have := hb1.size; simp; omega) o2
    have hAl := HA.out _ (hB2 (.cells #[.slice none 0 0, .slice none 0 0, .slice none 0 0, .slice none 0 0] 26) (.cells #[.slice none 0 0, .slice none 0 0, .slice none 0 0, .slice none 0 0] 29))
    have HB2 := hide (hB2 (.cells #[.slice none 0 0, .slice none 0 0, .slice none 0 0, .slice none 0 0] 26) (.cells #[.slice none 0 0, .slice none 0 0, .slice none 0 0, .slice none 0 0] 29))
    unfold nilV
    clear hb1 hB2 HA HT
    go_wp2_with fail
    refine hAl.mono ?_
    rintro e w2 ⟨rfl, hb2⟩
    have HN := hide (HB2.out.trans (hb2.mono HB2.out.size))
    clear hAl hb2 HB2
    go_wp2_with fail
    go_ret
    exact ⟨rfl, HN.out⟩
  · obtain ⟨nv, nf, nl, nt, va, fa, la, ta, vc, fc, lc, tc, x1, x2, x3, x4, z1, z2, z3, z4, rfl, rfl, rfl, rfl, rfl, rfl, rfl, rfl, hTw⟩ := two_of he hPW hLn hQ hp1 hp2 hp3 hp4 hpC
    replace he := hide he
    replace hLn := hide hLn
    clear hPW hQ hp1 hp2 hp3 hp4 hpC
    obtain ⟨vs, hvs⟩ : ∃ x, s.nms 118 = x := ⟨_, rfl⟩
    obtain ⟨fs, hfs⟩ : ∃ x, s.nms 102 = x := ⟨_, rfl⟩
    obtain ⟨ls, hls⟩ : ∃ x, s.nms 109 = x := ⟨_, rfl⟩
    rw [hvs, hfs, hls] at hTw
    replace hvs := hide hvs
    replace hfs := hide hfs
    replace hls := hide hls
    obtain ⟨W2, hW2⟩ : ∃ W2, (w1.alloc (.cells #[.slice va nv vc, .slice fa nf fc, .slice la nl lc, .slice ta nt tc] 26)).alloc (.cells #[.slice x1 nv z1, .slice x2 nf z2, .slice x3 nl z3, .slice x4 nt z4] 29) = W2 := ⟨_, rfl⟩
    obtain ⟨hb2, k1, k2, hz2⟩ := two_new _ _ _ hW2
    obtain ⟨ht, ⟨hl1, hl2, hl3⟩, ⟨hn1, hn2, hn3⟩, hk⟩ := HT.out
    have hB2 := hb1.trans (hb2.mono hb1.size)
    have hT2 := hTw.below hb2
    have hok0 : MOk nv nf nl C (newM nv nf nl nt) := by
      have := newM_ok nv nf nl C
      rw [hT2.cl] at this
      exact this
    have hokP : ∀ r : List Int, MOkP (pdOf vs fs ls L C) (playM false C (newM nv nf nl nt) r).1 := fun r => by
      have q := play_ok false hT2.pfit hok0 r
      rw [← hT2.lv, ← hT2.lf, ← hT2.ll] at q ⊢
      exact q
    have hNew := new_any hT2.prog hT2.b
    rw [hT2.lv, hT2.lf, hT2.ll, hT2.lt] at hNew
    obtain ⟨q0, q1, q2, q3⟩ := four_cells k1
    have HK := hide (⟨hT2, ht, ⟨hl1, hl2, hl3⟩, ⟨hn1, hn2, hn3⟩, hk, hB2, hokP, k1⟩ : _ ∧ _ ∧ (_ ∧ _ ∧ _) ∧ (_ ∧ _ ∧ _) ∧ _ ∧ _ ∧ _ ∧ _)
    replace hW2 := hide hW2
    clear hTw hb1 hb2 k1 k2 hz2 ht hl1 hl2 hl3 hn1 hn2 hn3 hk hB2 hT2 hok0 hokP HT
    go_upto_region 4 with fail
    rw [hW2.out]
    clear hW2
    go_wp2_with fail
    refine hNew.mono ?_
    rintro e w3 ⟨b, rfl, hbl, hM3, hb3⟩
    clear hNew q0 q1 q2 q3
    obtain ⟨hT2, ht, ⟨hl1, hl2, hl3⟩, ⟨hn1, hn2, hn3⟩, hk, hB2, hokP, k1⟩ := HK.out
    have hT3 := hT2.below hb3
    have k3 := (hb3.block w1.heap.size (Array.getElem?_eq_some_iff.1 k1).1).trans k1
    have hB3 := hB2.trans (hb3.mono hB2.size)
    have hbl2 : w.heap.size ≤ b := Nat.le_trans hB2.size hbl
    have hnt : nt ≤ 4 := hT2.four.2.2.2
    have HM := hide (⟨hT3, hM3, hB3, k3, hbl2, hnt⟩ : _ ∧ _ ∧ _ ∧ _ ∧ _ ∧ _)
    clear hT2 ht hl1 hl2 hl3 hn1 hn2 hn3 hk hB2 hokP k1 hbl hM3 hb3 hT3 k3 hB3 hbl2 hnt
    unfold ptrV
    go_wp2_with fail
    go_loopw [13] (fun iv wr => ∃ i : Nat, i ≤ nt ∧ iv = .int .i64 i ∧ KI w.heap.size w3 wr) (fun iv _ => nt - (intOf iv).toNat)
    case atStart => exact ⟨0, Nat.zero_le _, rfl, KI.refl _ _⟩
    case round =>
      rename World => U
      obtain ⟨i, hi, rfl, hKU⟩ := hrel
      by_cases h5 : i < nt
      · obtain ⟨hT3, hM3, hB3, k3, hbl2, hnt⟩ := HM.out
        obtain ⟨tg, ct, ca, cn, cc, eta, hkt, hct, -, hrows, hcn⟩ := code_at hT3.prog hT3.lt h5
        subst eta
        have hcn24 : cn ≤ 24 := by
          obtain ⟨is, his⟩ : ∃ is, C[i]? = some is := ⟨_, List.getElem?_eq_getElem (by have := hT3.cl; omega)⟩
          have q := (hT3.pfit.code is (List.mem_of_getElem? his)).1
          rw [hcn is his] at q
          exact q
        have HC : Hid (∀ u, KI w.heap.size w3 u → u.cell? ⟨w1.heap.size, 3, none⟩ = some (.slice (some ⟨tg, 0, none⟩) nt tc) ∧ u.cell? ⟨tg, i * 2 + 1, none⟩ = some (.slice ca cn cc)) := fun u hu => ⟨(four_cells (hu.other _ _ _ k3 (by decide))).2.2.2, by simp only [World.cell?, hu.other _ _ _ hkt (by decide)]; simpa using hct⟩
        obtain ⟨u3, u4⟩ := HC.out U hKU
        have hlt : (i : Int) < (nt : Int) := by omega
        have hwi : wrap64 ((i : Int) + 1) = (i : Int) + 1 := wrap_lt (by omega)
        replace hwi := hide hwi
        replace hcn24 := hide hcn24
        have HJ := hide (⟨h5, hKU, hrows⟩ : _ ∧ _ ∧ _)
        clear hi h5 hT3 hM3 hB3 k3 hbl2 hnt hkt hct hrows hcn hKU
        go_wp2_with fail
        go_loopw [14] (fun kv wr => ∃ k : Nat, k ≤ cn ∧ kv = .int .i64 k ∧ KI w.heap.size w3 wr) (fun kv _ => cn - (intOf kv).toNat)
        case atStart => exact ⟨0, Nat.zero_le _, rfl, HJ.out.2.1⟩
        case round =>
          obtain ⟨k, hk, rfl, hKr⟩ := hrel
          clear u3 u4
          obtain ⟨u3, u4⟩ := HC.out wr hKr
          by_cases h6 : k < cn
          · obtain ⟨g, cs, e1, hg, hgc, hsz⟩ := HJ.out.2.2 k h6
            subst e1
            obtain ⟨cs', hgc2, hsz2⟩ := hKr.ins g cs hgc
            have hcell : ∀ q, q < 7 → ∃ x, wr.cell? ⟨g, k * 7 + q, none⟩ = some x := fun q hq => by
              simp only [World.cell?, hgc2]
              exact ⟨_, Array.getElem?_eq_getElem (by omega)⟩
            obtain ⟨y0, d0⟩ := hcell 0 (by omega)
            obtain ⟨y1, d1⟩ := hcell 1 (by omega)
            obtain ⟨y2, d2⟩ := hcell 2 (by omega)
            obtain ⟨y3, d3⟩ := hcell 3 (by omega)
            obtain ⟨y4, d4⟩ := hcell 4 (by omega)
            obtain ⟨y5, d5⟩ := hcell 5 (by omega)
            obtain ⟨y6, d6⟩ := hcell 6 (by omega)
            rw [Nat.add_zero] at d0
            have fz := free_block hgc2
            obtain ⟨f0, f1, f2, f3, f4, f5, f6⟩ := (⟨fz (k * 7), fz (k * 7 + 1), fz (k * 7 + 2), fz (k * 7 + 3), fz (k * 7 + 4), fz (k * 7 + 5), fz (k * 7 + 6)⟩ : _ ∧ _ ∧ _ ∧ _ ∧ _ ∧ _ ∧ _)
            have hlt : (k : Int) < (cn : Int) := by omega
            have hwk : wrap64 ((k : Int) + 1) = (k : Int) + 1 := wrap_lt (by have := hcn24.out; omega)
            have HF : Hid (∀ v0 v1 v2 v3 v4 v5 v6, KI w.heap.size w3 (((((((wr.setCell ⟨g, k * 7, none⟩ v0).setCell ⟨g, k * 7 + 1, none⟩ v1).setCell ⟨g, k * 7 + 2, none⟩ v2).setCell ⟨g, k * 7 + 3, none⟩ v3).setCell ⟨g, k * 7 + 4, none⟩ v4).setCell ⟨g, k * 7 + 5, none⟩ v5).setCell ⟨g, k * 7 + 6, none⟩ v6)) := fun v0 v1 v2 v3 v4 v5 v6 => ((((((hKr.set hg hgc v0).set hg hgc v1).set hg hgc v2).set hg hgc v3).set hg hgc v4).set hg hgc v5).set hg hgc v6
            replace h6 := hide h6
            clear hk hKr hg hgc hsz hgc2 hsz2 hcell fz
            go_wp2_with fail
            go_roundw
            case rel =>
              (try rw [hwk])
              exact ⟨k + 1, h6.out, rfl, HF.out _ _ _ _ _ _ _⟩
            case measure =>
              (try rw [hwk])
              exact Nat.sub_lt_sub_left h6.out (Nat.lt_succ_self k)
          · have hkl : cn = k := by omega
            subst hkl
            have HF := hide (⟨HJ.out.1, hKr⟩ : _ ∧ _)
            clear hk h6 hKr HJ HC
            have hwi := hwi.out
            go_wp2_with fail
            go_roundw
            case rel =>
              (try rw [hwi])
              exact ⟨i + 1, HF.out.1, rfl, HF.out.2⟩
            case measure =>
              (try rw [hwi])
              exact Nat.sub_lt_sub_left HF.out.1 (Nat.lt_succ_self i)
      · have hil : nt = i := by omega
        subst hil
        obtain ⟨hT3, hM3, hB3, k3, hbl2, hnt⟩ := HM.out
        obtain ⟨hT2, ht, ⟨hl1, hl2, hl3⟩, ⟨hn1, hn2, hn3⟩, hk, hB2, hokP, k1⟩ := HK.out
        have hBU : Below w.heap.size w U := hB3.trans hKU.below
        have htU := ht.keep (hBU.mono hB)
        have htl := htU.lt
        have hsU := hBU.size
        have hP := parse_full t U htU.heads htU.shapes (by show 0 < _; omega) (by show 2 < _; omega)
        have hu3 := (four_cells (hKU.other _ _ _ k3 (by decide))).2.2.2
        obtain ⟨csM, kM, hMf⟩ := hM3
        have hMU : MachW U b (pdOf vs fs ls L C) (newM nv nf nl nt) := ⟨csM, hKU.other _ _ _ kM (by decide), hMf⟩
        have hbU : b < U.heap.size := hMU.lt
        have HU := hide (⟨hMU, hBU, hbU, hbl2⟩ : _ ∧ _ ∧ _ ∧ _)
        clear hT3 hB3 k3 hbl2 hnt hT2 ht hl1 hl2 hl3 hn1 hn2 hn3 hk hB2 hokP k1 hBU htU htl hsU kM hMf hMU hbU hi h5 hKU HM
        go_wp2_with fail
        refine hP.mono ?_
        clear hP
        rintro e w5 ⟨hb5, (⟨er, ln, he2, rfl⟩ | ⟨s2, C2, vV, fV, lV, thV, L2, he2, rfl, hPW, hLn2⟩)⟩
        · exact absurd (he.out.symm.trans he2) (by intro q; cases q)
        have hsc := he.out.symm.trans he2
        injection hsc with hsc
        injection hsc with hsc1 hsc2
        subst hsc1 hsc2
        obtain ⟨fn1, fn2, fn3⟩ := fit_of he2 hLn2
        rw [hvs.out, hfs.out, hls.out] at hPW fn1 fn2 fn3
        have hpd : pdOf vs fs ls L2 C = (pdOf vs fs ls L C) := by unfold pdOf; rw [hLn2, hLn.out]
        have hL2 : L2.length = nt := by
          have q1 := congrArg List.length (hLn2.trans hLn.out.symm)
          rw [List.length_map, List.length_map] at q1
          exact q1.trans HK.out.1.lt
        rw [hpd] at fn2 fn3
        obtain ⟨va', vc', e1⟩ := owns_len hPW.v
        obtain ⟨fa', fc', e2⟩ := owns_len hPW.f
        obtain ⟨la', lc', e3⟩ := owns_len hPW.l
        obtain ⟨ta', tc', e4⟩ := owns_len hPW.t
        rw [HK.out.1.lv] at e1
        rw [HK.out.1.lf] at e2
        rw [HK.out.1.ll] at e3
        rw [hL2] at e4
        subst e1 e2 e3 e4
        obtain ⟨W5, hW5⟩ : ∃ W5, w5.alloc (.cells #[.slice va' nv vc', .slice fa' nf fc', .slice la' nl lc', .slice ta' nt tc'] 26) = W5 := ⟨_, rfl⟩
        have hb55 : Below w5.heap.size w5 W5 := by rw [← hW5]; exact (Below.refl _ _).alloc (Nat.le_refl _) _
        have kf : W5.heap[w5.heap.size]? = some (.cells #[.slice va' nv vc', .slice fa' nf fc', .slice la' nl lc', .slice ta' nt tc'] 26) := by rw [← hW5]; exact World.alloc_heap_new w5 _
        obtain ⟨fb, hfb⟩ : ∃ x, w5.heap.size = x := ⟨_, rfl⟩
        have hM5 := (HU.out.1.below hb5).below hb55
        have hB5 := (HU.out.2.1.trans (hb5.mono HU.out.2.1.size)).trans (hb55.mono (HU.out.2.1.trans (hb5.mono HU.out.2.1.size)).size)
        have hP5 := hPW.below hb55
        have hfb2 : b < fb := by rw [← hfb]; exact Nat.lt_of_lt_of_le HU.out.2.2.1 hb5.size
        rw [hfb] at kf
        have H5 := hide (⟨hM5, hB5, hP5, kf, hfb2, ⟨fn1, fn2, fn3, hpd, hL2⟩, HU.out.2.2.1, HU.out.2.2.2⟩ : _ ∧ _ ∧ _ ∧ _ ∧ _ ∧ (_ ∧ _ ∧ _ ∧ _ ∧ _) ∧ _ ∧ _)
        obtain ⟨bU, hbU⟩ : ∃ x, U.heap.size = x := ⟨_, rfl⟩
        rw [hbU] at H5
        replace hW5 := hide hW5
        replace hfb := hide hfb
        clear hb5 he2 hPW hLn2 fn1 fn2 fn3 hpd hL2 hb55 kf hM5 hB5 hP5 hfb2 HU hbU
        go_upto_region 15 with fail
        try rw [hW5.out]
        try rw [hfb.out]
        clear hW5 hfb
        go_wp2_with fail
        go_loopw [18] (fun iv wr => ∃ i : Nat, i ≤ n1 ∧ iv = .int .i64 i ∧ MachW wr b (pdOf vs fs ls L C) (playM false C (newM nv nf nl nt) (l1.take i)).1 ∧ KeepS (fun k => k = b) W5 wr) (fun iv _ => n1 - (intOf iv).toNat)
        case atStart => exact ⟨0, Nat.zero_le _, rfl, H5.out.1, KeepS.refl _⟩
        case round =>
          obtain ⟨i, hi, rfl, hM, hK⟩ := hrel
          obtain ⟨hT2, ht, ⟨hl1, hl2, hl3⟩, ⟨hn1, hn2, hn3⟩, hk, hB2, hokP, k1⟩ := HK.out
          obtain ⟨-, hB5, hP5, kf, hfb2, ⟨fn1, fn2, fn3, hpd, hL2⟩, hbU, hbl2⟩ := H5.out
          have hBr : Below w.heap.size w wr := ⟨hK.os.trans hB5.os, hK.tape.trans hB5.tape, hK.output.trans hB5.output, Nat.le_trans hB5.size hK.size, fun k hk => (hK.block k (by have := hB5.size; omega) (by omega)).trans (hB5.block k hk)⟩
          by_cases h5 : i < n1
          · have hlt : (i : Int) < (n1 : Int) := by omega
            obtain ⟨lb, lf, e1, hll, cl⟩ := (hl1.below hBr) i (by omega)
            subst e1
            obtain ⟨tv, htv⟩ : ∃ v, l1.getD i 0 = v := ⟨_, rfl⟩
            rw [htv] at cl
            have hnx : (playM false C (newM nv nf nl nt) (l1.take (i + 1))).1 = (trn C (playM false C (newM nv nf nl nt) (l1.take i)).1 tv).1 := by rw [take_next (by omega), htv]; exact play_next C _ _ _ tv rfl
            have hSt := step_any hM fn2 (hokP _) tv
            have hwi : wrap64 ((i : Int) + 1) = (i : Int) + 1 := wrap_lt (by omega)
            have HJ := hide (⟨h5, hnx, hK⟩ : _ ∧ _ ∧ _)
            obtain ⟨mm, hmm⟩ : ∃ x, (playM false C (newM nv nf nl nt) (l1.take i)).1 = x := ⟨_, rfl⟩
            rw [hmm] at hSt HJ
            clear hi h5 hM hK hT2 ht hl1 hl2 hl3 hn1 hn2 hn3 hk hB2 hokP k1 hB5 hP5 kf hfb2 fn1 fn2 fn3 hpd hL2 hbU hbl2 hBr hll htv hnx hmm H5
            unfold ptrV StepR at hSt
            go_wp2_with fail
            refine hSt.mono ?_
            rintro e w6 ⟨rfl, hM6, hk6⟩
            clear hSt cl
            have HF := hide (⟨HJ.out.1, (by rw [HJ.out.2.1]; exact hM6), KeepS.trans HJ.out.2.2 hk6⟩ : _ ∧ MachW w6 b (pdOf vs fs ls L C) (playM false C (newM nv nf nl nt) (l1.take (i + 1))).1 ∧ KeepS (fun k => k = b) W5 w6)
            clear hM6 hk6 HJ
            go_wp2_with fail
            go_roundw
            case rel =>
              (try rw [hwi])
              exact ⟨i + 1, HF.out.1, rfl, HF.out.2⟩
            case measure =>
              (try rw [hwi])
              exact Nat.sub_lt_sub_left HF.out.1 (Nat.lt_succ_self i)
          · have hil : n1 = i := by omega
            subst hil
            rename World => X
            rw [take_all (Nat.le_of_eq hn1)] at hM
            have hCp := copy_any hM
            have hPX : ProgW X bU (.slice va' nv vc') (.slice fa' nf fc') (.slice la' nl lc') (.slice ta' nt tc') vs fs ls L2 C := hP5.sameAt (fun k h1 h2 => hK.block k h2 (by omega))
            have kfX := (hK.block fb (Array.getElem?_eq_some_iff.1 kf).1 (by omega)).trans kf
            obtain ⟨c, hc⟩ : ∃ x, X.heap.size = x := ⟨_, rfl⟩
            have hMlt := hM.lt
            rw [hc] at hCp hMlt
            have HX := hide (⟨hM, hBr, hPX, kfX, ⟨fn1, fn2, fn3, hpd, hL2, hbU, hfb2⟩, hbl2, hMlt, hc⟩ : _ ∧ _ ∧ _ ∧ _ ∧ (_ ∧ _ ∧ _ ∧ _ ∧ _ ∧ _ ∧ _) ∧ _ ∧ _ ∧ _)
            clear hi h5 hM hK hT2 ht hl1 hl2 hl3 hn1 hn2 hn3 hk hB2 hokP k1 hB5 hP5 kf hfb2 fn1 fn2 fn3 hpd hL2 hbU hbl2 hBr hPX kfX hMlt hc H5
            unfold ptrV at hCp
            go_wp2_with fail
            refine hCp.mono ?_
            rintro e w6 ⟨rfl, hMc, hb6⟩
            clear hCp
            obtain ⟨hM, hBX, hPX, kfX, ⟨fn1, fn2, fn3, hpd, hL2, hbU, hfb2⟩, hbl2, hMlt, hc⟩ := HX.out
            obtain ⟨hT2, ht, ⟨hl1, hl2, hl3⟩, ⟨hn1, hn2, hn3⟩, hk, hB2, hokP, k1⟩ := HK.out
            have hM6 := hM.below (by rw [hc]; exact hb6)
            have hb6 : Below X.heap.size X w6 := by rw [hc]; exact hb6
            have hB6 := hBX.trans (hb6.mono hBX.size)
            have HSh := hide (fun u (hu : Below w6.heap.size w6 u) (m : MS) (q : MOkP (pdOf vs fs ls L C) m) (bb : Nat) (hMu : MachW u bb (pdOf vs fs ls L C) m) => show_any (B0 := B) hMu fn2 q fn3 (ht.keep ((hB6.trans (hu.mono hB6.size)).mono hB)) (by have := hu.size; have := hB6.size; omega))
            have h1 := HSh.out w6 (Below.refl _ _) _ (hokP l1) c hMc
            obtain ⟨sh1, hsh1⟩ : ∃ x, showM (pdOf vs fs ls L C) (playM false C (newM nv nf nl nt) l1).1 = x := ⟨_, rfl⟩
            rw [hsh1] at h1
            have H6 := hide (⟨hM6, hMc, hB6, hb6, hokP, hsh1⟩ : _ ∧ _ ∧ _ ∧ _ ∧ _ ∧ _)
            clear hM hBX hPX kfX fn1 fn2 fn3 hpd hL2 hbU hfb2 hbl2 hMlt hc hT2 ht hl1 hl2 hl3 hn1 hn2 hn3 hk hB2 hokP k1 hM6 hMc hB6 hb6 hsh1
            unfold ptrV at h1
            go_wp2_with fail
            refine h1.mono ?_
            rintro e w7 ⟨rfl, hb7⟩
            clear h1
            have h2 := HSh.out w7 hb7 _ (H6.out.2.2.2.2.1 l1) b (H6.out.1.below hb7)
            rw [H6.out.2.2.2.2.2] at h2
            replace hb7 := hide hb7
            unfold ptrV at h2
            go_wp2_with fail
            refine h2.mono ?_
            rintro e w8 ⟨rfl, hb8⟩
            clear h2
            obtain ⟨hM6, hMc, hB6, hb6, hokP, hsh1⟩ := H6.out
            have hb68 : Below w6.heap.size w6 w8 := hb7.out.trans (hb8.mono hb7.out.size)
            have hB8 := hB6.trans (hb68.mono hB6.size)
            have hl1' := HK.out.2.2.1.1
            have hn1' := HK.out.2.2.2.1.1
            have hk' := HK.out.2.2.2.2.1
            obtain ⟨v1, w9, hrun1, ho1, hg1⟩ := ints_all (w := w8) (base := w8.heap.size) (l := []) (v := .slice none 0 0) (World.ownsRow_nil _ _ _ _) (hl1'.below hB8) c1 (by simp; omega) (Nat.le_refl _)
            rw [List.nil_append] at ho1
            have hb9 : Below w8.heap.size w8 w9 := grown_b (Nat.le_refl _) hg1
            have hB9 := hB8.trans (hb9.mono hB8.size)
            obtain ⟨v2, w10, hrun2, ho2, hg2⟩ := ints_all (w := w9) (base := w9.heap.size) (l := []) (v := .slice none 0 0) (World.ownsRow_nil _ _ _ _) (hl1'.below hB9) c1 (by simp; omega) (Nat.le_refl _)
            rw [List.nil_append] at ho2
            have hb10 : Below w9.heap.size w9 w10 := grown_b (Nat.le_refl _) hg2
            rw [hn1'] at hrun1 hrun2
            have hb610 : Below w6.heap.size w6 w10 := (hb68.trans (hb9.mono hb68.size)).trans (hb10.mono (hb68.trans (hb9.mono hb68.size)).size)
            have hM10 := hM6.below hb610
            have hMc10 := hMc.below hb610
            have ho1' := c_belowS ho1 hb10
            have hap : ∀ g, v1.ownBlock = some g → v2.ownBlock ≠ some g := fun g q1 q2 => by
              have := (ho1.lt g q1).2
              have := (ho2.lt g q2).1
              omega
            have hb68s := hb68.size
            have hr1 := c_base ho1' hb68s
            have hr2 := c_base ho2 (Nat.le_trans hb68s hb9.size)
            have hcX := HX.out.2.2.2.2.2.2.2
            have hbX := HX.out.2.2.2.2.2.2.1
            have hlt6 : c < w6.heap.size := hMc.lt
            have hbX10 : Below X.heap.size X w10 := hb6.trans (hb610.mono hb6.size)
            have hS10 : St X b c w6.heap.size (pdOf vs fs ls L C) (playM false C (newM nv nf nl nt) l1).1 (playM false C (newM nv nf nl nt) l1).1 v1 v2 l1 l1 w10 := ⟨hM10, hMc10, hr1, hr2, hap, hbX10.os, hbX10.tape, hbX10.output, hb610.size, fun k h1 _ => hbX10.block k (by omega), hbX, hlt6, by omega⟩
            have H10 := hide hS10
            obtain ⟨b6, hb6e⟩ : ∃ x, w6.heap.size = x := ⟨_, rfl⟩
            rw [hb6e] at H10
            clear hM6 hMc hB6 hb6 hokP hsh1 hb68 hB8 hl1' hn1' hk' ho1 hg1 hb9 hB9 ho2 hg2 hb10 hb610 hM10 hMc10 ho1' hap hb68s hr1 hr2 hcX hbX hlt6 hbX10 hS10 hb8 hb7 hb6e H6 HSh
            go_upto_region 24 with fail
            go_wp2_with (at_builtin; first | refine wpList_append_run rfl _ _ _ rfl rfl rfl rfl hrun1 ?_ | refine wpList_append_run rfl _ _ _ rfl rfl rfl rfl hrun2 ?_)
            clear hrun1 hrun2
            go_loopw [20, 21, 22] (fun av bv iv wr => ∃ i : Nat, i ≤ n2 + n3 ∧ iv = .int .i64 i ∧ St X b c b6 (pdOf vs fs ls L C) (playM false C (newM nv nf nl nt) (l1 ++ l2.take i)).1 (playM false C (newM nv nf nl nt) (l1 ++ l3.take i)).1 av bv (l1 ++ l2.take i) (l1 ++ l3.take i) wr) (fun _ _ iv _ => n2 + n3 - (intOf iv).toNat)
            case atStart =>
              refine ⟨0, Nat.zero_le _, rfl, ?_⟩
              rw [List.take_zero, List.take_zero, List.append_nil]
              exact H10.out
            case round =>
              obtain ⟨i, hi, rfl, hS⟩ := hrel
              clear H10
              obtain ⟨hMX, hBX, hPX, kfX, ⟨fn1, fn2, fn3, hpd, hL2, hbU, hfb2⟩, hbl2, hMlt, hc⟩ := HX.out
              obtain ⟨hT2, ht, ⟨hl1, hl2, hl3⟩, ⟨hn1, hn2, hn3⟩, hk, hB2, hokP, k1⟩ := HK.out
              have hsc : X.heap.size ≤ c := Nat.le_of_eq hc
              have hBr := hS.below hBX hbl2 hsc
              obtain ⟨ra, rac, rfl⟩ := owns_len hS.ra
              obtain ⟨rb, rbc, rfl⟩ := owns_len hS.rb
              have hlen2 : (l1 ++ l2.take i).length ≤ n1 + n2 := by rw [List.length_append, List.length_take]; omega
              have hlen3 : (l1 ++ l3.take i).length ≤ n1 + n3 := by rw [List.length_append, List.length_take]; omega
              have hLow : Hid (∀ (u : World) (x y : MS) (p q : Value) (l r : List Int), St X b c b6 (pdOf vs fs ls L C) x y p q l r u → Below w.heap.size w u) := fun u x y p q l r h => h.below hBX hbl2 hsc
              by_cases h2 : i < n2
              · by_cases h3 : i < n3
                · obtain ⟨lb2, lf2, e2, hll2, cl2⟩ := hl2 i (by omega)
                  subst e2
                  obtain ⟨t2, ht2⟩ : ∃ v, l2.getD i 0 = v := ⟨_, rfl⟩
                  rw [ht2] at cl2
                  have hnx2 : l1 ++ l2.take (i + 1) = (l1 ++ l2.take i) ++ [t2] := by rw [take_next (by omega), ht2, List.append_assoc]
                  have hi2 : (i : Int) < (n2 : Int) := by omega
                  replace cl2 := hide cl2
                  replace hll2 := hide hll2
                  clear ht2
                  obtain ⟨lb3, lf3, e3, hll3, cl3⟩ := hl3 i (by omega)
                  subst e3
                  obtain ⟨t3, ht3⟩ : ∃ v, l3.getD i 0 = v := ⟨_, rfl⟩
                  rw [ht3] at cl3
                  have hnx3 : l1 ++ l3.take (i + 1) = (l1 ++ l3.take i) ++ [t3] := by rw [take_next (by omega), ht3, List.append_assoc]
                  have hi3 : (i : Int) < (n3 : Int) := by omega
                  replace cl3 := hide cl3
                  replace hll3 := hide hll3
                  clear ht3
                  have h5 : i + 1 ≤ n2 + n3 := by omega
                  have hlt2 : Hid ((l1 ++ l2.take i).length < 1048576) := Nat.lt_of_le_of_lt hlen2 (by omega)
                  have hlt3 : Hid ((l1 ++ l3.take i).length < 1048576) := Nat.lt_of_le_of_lt hlen3 (by omega)
                  have hwi : wrap64 ((i : Int) + 1) = (i : Int) + 1 := wrap_lt (by omega)
                  have HS := hide hS
                  replace h5 := hide h5
                  replace hokP := hide hokP
                  replace fn2 := hide fn2
                  replace hnx2 := hide hnx2
                  replace hnx3 := hide hnx3
                  clear hS hi hMX hBX hPX kfX fn1 fn3 hpd hL2 hbU hfb2 hbl2 hMlt hc hT2 ht hl1 hl2 hl3 hn1 hn2 hn3 hk hB2 k1 hsc hBr hlen2 hlen3 HA he hLn hvs hfs hls HX HK h2 h3
                  obtain ⟨A, hA⟩ : ∃ x, l1 ++ l2.take i = x := ⟨_, rfl⟩
                  obtain ⟨D, hD⟩ : ∃ x, l1 ++ l3.take i = x := ⟨_, rfl⟩
                  rw [hA] at HS hnx2 hlt2 ⊢
                  rw [hD] at HS hnx3 hlt3 ⊢
                  clear hA hD
                  have ce1 := ((hLow.out _ _ _ _ _ _ _ HS.out).cell (p := ⟨lb2, lf2 + i, none⟩) hll2.out).trans cl2.out
                  have hSt1 := step_any HS.out.mb fn2.out (hokP.out A) t2
                  unfold ptrV StepR at hSt1
                  obtain ⟨mm1, hmm1⟩ : ∃ x, (trn (pdOf vs fs ls L C).C (playM false C (newM nv nf nl nt) A).1 t2).1 = x := ⟨_, rfl⟩
                  rw [hmm1] at hSt1
                  go_wp2_with fail
                  refine hSt1.mono ?_
                  rintro e u1 ⟨rfl, hM1, hk1⟩
                  clear hSt1 ce1
                  have hT1 := HS.out.stepB hM1 hk1
                  rw [← hmm1, show (trn (pdOf vs fs ls L C).C (playM false C (newM nv nf nl nt) A).1 t2).1 = (playM false C (newM nv nf nl nt) (A ++ [t2])).1 from (play_next C _ _ _ t2 rfl).symm] at hT1
                  clear hmm1 hM1 hk1
                  have ce1 := ((hLow.out _ _ _ _ _ _ _ hT1).cell (p := ⟨lb2, lf2 + i, none⟩) hll2.out).trans cl2.out
                  obtain ⟨g1, cp1, v1, hrun1, hQ1⟩ := hT1.pushA t2 hlt2.out
                  have HS1 := hide hQ1
                  clear hQ1 hT1 HS
                  have ce2 := ((hLow.out _ _ _ _ _ _ _ HS1.out).cell (p := ⟨lb3, lf3 + i, none⟩) hll3.out).trans cl3.out
                  go_wp2_with (at_builtin; refine wpList_append_run rfl _ _ _ rfl rfl rfl rfl hrun1 ?_)
                  clear hrun1 ce1
                  have hSt2 := step_any HS1.out.mc fn2.out (hokP.out D) t3
                  unfold ptrV StepR at hSt2
                  obtain ⟨mm2, hmm2⟩ : ∃ x, (trn (pdOf vs fs ls L C).C (playM false C (newM nv nf nl nt) D).1 t3).1 = x := ⟨_, rfl⟩
                  rw [hmm2] at hSt2
                  refine hSt2.mono ?_
                  rintro e u2 ⟨rfl, hM2, hk2⟩
                  clear hSt2 ce2
                  have hT2 := HS1.out.stepC hM2 hk2
                  rw [← hmm2, show (trn (pdOf vs fs ls L C).C (playM false C (newM nv nf nl nt) D).1 t3).1 = (playM false C (newM nv nf nl nt) (D ++ [t3])).1 from (play_next C _ _ _ t3 rfl).symm] at hT2
                  clear hmm2 hM2 hk2
                  have ce2 := ((hLow.out _ _ _ _ _ _ _ hT2).cell (p := ⟨lb3, lf3 + i, none⟩) hll3.out).trans cl3.out
                  obtain ⟨g2, cp2, v2, hrun2, hQ2⟩ := hT2.pushB t3 hlt3.out
                  have HS2 := hide hQ2
                  clear hQ2 hT2 HS1
                  go_wp2_with (at_builtin; refine wpList_append_run rfl _ _ _ rfl rfl rfl rfl hrun2 ?_)
                  clear hrun2 ce2
                  go_roundw
                  case rel =>
                    (try rw [hwi])
                    refine ⟨i + 1, h5.out, rfl, ?_⟩
                    rw [hnx2.out, hnx3.out]
                    exact HS2.out
                  case measure =>
                    (try rw [hwi])
                    exact Nat.sub_lt_sub_left h5.out (Nat.lt_succ_self i)
                · obtain ⟨lb2, lf2, e2, hll2, cl2⟩ := hl2 i (by omega)
                  subst e2
                  obtain ⟨t2, ht2⟩ : ∃ v, l2.getD i 0 = v := ⟨_, rfl⟩
                  rw [ht2] at cl2
                  have hnx2 : l1 ++ l2.take (i + 1) = (l1 ++ l2.take i) ++ [t2] := by rw [take_next (by omega), ht2, List.append_assoc]
                  have hi2 : (i : Int) < (n2 : Int) := by omega
                  replace cl2 := hide cl2
                  replace hll2 := hide hll2
                  clear ht2
                  have hnx3 : l1 ++ l3.take (i + 1) = l1 ++ l3.take i := by rw [take_all (by omega), take_all (by omega)]
                  have hi3 : decide ((i : Int) < (n3 : Int)) = false := decide_eq_false (by omega)
                  have hj3 : decide (i < n3) = false := decide_eq_false (by omega)
                  have h5 : i + 1 ≤ n2 + n3 := by omega
                  have hlt2 : Hid ((l1 ++ l2.take i).length < 1048576) := Nat.lt_of_le_of_lt hlen2 (by omega)
                  have hlt3 : Hid ((l1 ++ l3.take i).length < 1048576) := Nat.lt_of_le_of_lt hlen3 (by omega)
                  have hwi : wrap64 ((i : Int) + 1) = (i : Int) + 1 := wrap_lt (by omega)
                  have HS := hide hS
                  replace h5 := hide h5
                  replace hokP := hide hokP
                  replace fn2 := hide fn2
                  replace hnx2 := hide hnx2
                  replace hnx3 := hide hnx3
                  clear hS hi hMX hBX hPX kfX fn1 fn3 hpd hL2 hbU hfb2 hbl2 hMlt hc hT2 ht hl1 hl2 hl3 hn1 hn2 hn3 hk hB2 k1 hsc hBr hlen2 hlen3 HA he hLn hvs hfs hls HX HK h2 h3
                  obtain ⟨A, hA⟩ : ∃ x, l1 ++ l2.take i = x := ⟨_, rfl⟩
                  obtain ⟨D, hD⟩ : ∃ x, l1 ++ l3.take i = x := ⟨_, rfl⟩
                  rw [hA] at HS hnx2 hlt2 ⊢
                  rw [hD] at HS hnx3 hlt3 ⊢
                  clear hA hD
                  have ce1 := ((hLow.out _ _ _ _ _ _ _ HS.out).cell (p := ⟨lb2, lf2 + i, none⟩) hll2.out).trans cl2.out
                  have hSt1 := step_any HS.out.mb fn2.out (hokP.out A) t2
                  unfold ptrV StepR at hSt1
                  obtain ⟨mm1, hmm1⟩ : ∃ x, (trn (pdOf vs fs ls L C).C (playM false C (newM nv nf nl nt) A).1 t2).1 = x := ⟨_, rfl⟩
                  rw [hmm1] at hSt1
                  go_wp2_with fail
                  refine hSt1.mono ?_
                  rintro e u1 ⟨rfl, hM1, hk1⟩
                  clear hSt1 ce1
                  have hT1 := HS.out.stepB hM1 hk1
                  rw [← hmm1, show (trn (pdOf vs fs ls L C).C (playM false C (newM nv nf nl nt) A).1 t2).1 = (playM false C (newM nv nf nl nt) (A ++ [t2])).1 from (play_next C _ _ _ t2 rfl).symm] at hT1
                  clear hmm1 hM1 hk1
                  have ce1 := ((hLow.out _ _ _ _ _ _ _ hT1).cell (p := ⟨lb2, lf2 + i, none⟩) hll2.out).trans cl2.out
                  obtain ⟨g1, cp1, v1, hrun1, hQ1⟩ := hT1.pushA t2 hlt2.out
                  have HS1 := hide hQ1
                  clear hQ1 hT1 HS
                  go_wp2_with (at_builtin; refine wpList_append_run rfl _ _ _ rfl rfl rfl rfl hrun1 ?_)
                  clear hrun1 ce1
                  go_roundw
                  case rel =>
                    (try rw [hwi])
                    refine ⟨i + 1, h5.out, rfl, ?_⟩
                    rw [hnx2.out, hnx3.out]
                    exact HS1.out
                  case measure =>
                    (try rw [hwi])
                    exact Nat.sub_lt_sub_left h5.out (Nat.lt_succ_self i)
              · by_cases h3 : i < n3
                · have hnx2 : l1 ++ l2.take (i + 1) = l1 ++ l2.take i := by rw [take_all (by omega), take_all (by omega)]
                  have hi2 : decide ((i : Int) < (n2 : Int)) = false := decide_eq_false (by omega)
                  have hj2 : decide (i < n2) = false := decide_eq_false (by omega)
                  obtain ⟨lb3, lf3, e3, hll3, cl3⟩ := hl3 i (by omega)
                  subst e3
                  obtain ⟨t3, ht3⟩ : ∃ v, l3.getD i 0 = v := ⟨_, rfl⟩
                  rw [ht3] at cl3
                  have hnx3 : l1 ++ l3.take (i + 1) = (l1 ++ l3.take i) ++ [t3] := by rw [take_next (by omega), ht3, List.append_assoc]
                  have hi3 : (i : Int) < (n3 : Int) := by omega
                  replace cl3 := hide cl3
                  replace hll3 := hide hll3
                  clear ht3
                  have h5 : i + 1 ≤ n2 + n3 := by omega
                  have hlt2 : Hid ((l1 ++ l2.take i).length < 1048576) := Nat.lt_of_le_of_lt hlen2 (by omega)
                  have hlt3 : Hid ((l1 ++ l3.take i).length < 1048576) := Nat.lt_of_le_of_lt hlen3 (by omega)
                  have hwi : wrap64 ((i : Int) + 1) = (i : Int) + 1 := wrap_lt (by omega)
                  have HS := hide hS
                  replace h5 := hide h5
                  replace hokP := hide hokP
                  replace fn2 := hide fn2
                  replace hnx2 := hide hnx2
                  replace hnx3 := hide hnx3
                  clear hS hi hMX hBX hPX kfX fn1 fn3 hpd hL2 hbU hfb2 hbl2 hMlt hc hT2 ht hl1 hl2 hl3 hn1 hn2 hn3 hk hB2 k1 hsc hBr hlen2 hlen3 HA he hLn hvs hfs hls HX HK h2 h3
                  obtain ⟨A, hA⟩ : ∃ x, l1 ++ l2.take i = x := ⟨_, rfl⟩
                  obtain ⟨D, hD⟩ : ∃ x, l1 ++ l3.take i = x := ⟨_, rfl⟩
                  rw [hA] at HS hnx2 hlt2 ⊢
                  rw [hD] at HS hnx3 hlt3 ⊢
                  clear hA hD
                  have ce2 := ((hLow.out _ _ _ _ _ _ _ HS.out).cell (p := ⟨lb3, lf3 + i, none⟩) hll3.out).trans cl3.out
                  have hSt2 := step_any HS.out.mc fn2.out (hokP.out D) t3
                  unfold ptrV StepR at hSt2
                  obtain ⟨mm2, hmm2⟩ : ∃ x, (trn (pdOf vs fs ls L C).C (playM false C (newM nv nf nl nt) D).1 t3).1 = x := ⟨_, rfl⟩
                  rw [hmm2] at hSt2
                  go_wp2_with fail
                  refine hSt2.mono ?_
                  rintro e u2 ⟨rfl, hM2, hk2⟩
                  clear hSt2 ce2
                  have hT2 := HS.out.stepC hM2 hk2
                  rw [← hmm2, show (trn (pdOf vs fs ls L C).C (playM false C (newM nv nf nl nt) D).1 t3).1 = (playM false C (newM nv nf nl nt) (D ++ [t3])).1 from (play_next C _ _ _ t3 rfl).symm] at hT2
                  clear hmm2 hM2 hk2
                  have ce2 := ((hLow.out _ _ _ _ _ _ _ hT2).cell (p := ⟨lb3, lf3 + i, none⟩) hll3.out).trans cl3.out
                  obtain ⟨g2, cp2, v2, hrun2, hQ2⟩ := hT2.pushB t3 hlt3.out
                  have HS2 := hide hQ2
                  clear hQ2 hT2 HS
                  go_wp2_with (at_builtin; refine wpList_append_run rfl _ _ _ rfl rfl rfl rfl hrun2 ?_)
                  clear hrun2 ce2
                  go_roundw
                  case rel =>
                    (try rw [hwi])
                    refine ⟨i + 1, h5.out, rfl, ?_⟩
                    rw [hnx2.out, hnx3.out]
                    exact HS2.out
                  case measure =>
                    (try rw [hwi])
                    exact Nat.sub_lt_sub_left h5.out (Nat.lt_succ_self i)
                · rw [take_all (by omega : l2.length ≤ i), take_all (by omega : l3.length ≤ i)] at hS ⊢
                  have hi2 : decide ((i : Int) < (n2 : Int)) = false := decide_eq_false (by omega)
                  have hj2 : decide (i < n2) = false := decide_eq_false (by omega)
                  have hi3 : decide ((i : Int) < (n3 : Int)) = false := decide_eq_false (by omega)
                  have hj3 : decide (i < n3) = false := decide_eq_false (by omega)
                  have hlX := (Array.getElem?_eq_some_iff.1 kfX).1
                  have hPr : ProgW wr bU (.slice va' nv vc') (.slice fa' nf fc') (.slice la' nl lc') (.slice ta' nt tc') vs fs ls L2 C := hPX.sameAt (fun k h1 h2 => hS.low k (by omega) (by omega))
                  have kfr := (hS.low fb (by omega) (by omega)).trans kfX
                  have hsa : SRow wr b6 wr.heap.size ra (l1 ++ l2) := by
                    obtain ⟨a', c', e', hs'⟩ := SRow.of hS.ra
                    have e'' : ra = a' := by injection e'
                    rw [e'']
                    exact hs'
                  have hsb : SRow wr b6 wr.heap.size rb (l1 ++ l3) := by
                    obtain ⟨a', c', e', hs'⟩ := SRow.of hS.rb
                    have e'' : rb = a' := by injection e'
                    rw [e'']
                    exact hs'
                  have hla : (l1 ++ l2).length < 1048576 := by rw [List.length_append]; omega
                  have hlb : (l1 ++ l3).length < 1048576 := by rw [List.length_append]; omega
                  have HTb : Hid (∀ u, Below wr.heap.size wr u → Tabs u B ∧ B ≤ u.heap.size ∧ Below w.heap.size w u) := fun u hu => ⟨ht.keep ((hBr.trans (hu.mono hBr.size)).mono hB), by have := (hBr.trans (hu.mono hBr.size)).size; omega, hBr.trans (hu.mono hBr.size)⟩
                  have HR : Hid (∀ u, Below wr.heap.size wr u → ∀ (r : List Int) (ad : Option Addr) (cap : Nat), Is u ad r → r.length < 1048576 → Calls Tryz.prog 21 #[.agg #[.slice va' nv vc', .slice fa' nf fc', .slice la' nl lc', .slice ta' nt tc'], .slice ad r.length cap] u fun e w' => ∃ v, e = .returned (.tuple #[v, .string (bs (showM (pdOf vs fs ls L C) (playM false C (newM nv nf nl nt) r).1))]) ∧ Below u.heap.size u w') := fun u hu r ad cap hr hlr => by
                    have q := run_any (cap := cap) (hPr.below hu) fn1 (by rw [hpd]; exact fn2) (by rw [hpd]; exact fn3) (HTb.out u hu).1 (HTb.out u hu).2.1 rfl hr hlr
                    rw [hpd, hT2.lv, hT2.lf, hT2.ll, hL2] at q
                    refine q.mono ?_
                    rintro e w' ⟨v, q1, -, q2⟩
                    exact ⟨v, q1, q2⟩
                  have HSw : Hid (∀ u, Below wr.heap.size wr u → ∀ (m : MS) (bb : Nat), MOkP (pdOf vs fs ls L C) m → MachW u bb (pdOf vs fs ls L C) m → Calls Tryz.prog 14 #[.pointer (some ⟨bb, 0, none⟩)] u fun e w' => e = .returned (.string (bs (showM (pdOf vs fs ls L C) m))) ∧ Below u.heap.size u w') := fun u hu m bb q hMu => show_any (B0 := B) hMu fn2 q fn3 (HTb.out u hu).1 (HTb.out u hu).2.1
                  have hR1 := HR.out wr (Below.refl _ _) _ ra rac hsa.is hla
                  have hR2 := hide (fun u (hu : Below wr.heap.size wr u) => HR.out u hu _ rb rbc (hsb.is.below hu) hlb)
                  have HF4 : Hid (∀ u, Below wr.heap.size wr u → u.cell? ⟨fb, 0, none⟩ = some (.slice va' nv vc') ∧ u.cell? ⟨fb, 1, none⟩ = some (.slice fa' nf fc') ∧ u.cell? ⟨fb, 2, none⟩ = some (.slice la' nl lc') ∧ u.cell? ⟨fb, 3, none⟩ = some (.slice ta' nt tc')) := fun u hu => four_cells ((hu.block fb (Array.getElem?_eq_some_iff.1 kfr).1).trans kfr)
                  have HM1 := hide (fun u (hu : Below wr.heap.size wr u) => HSw.out u hu _ b (hokP _) (hS.mb.below hu))
                  have HM2 := hide (fun u (hu : Below wr.heap.size wr u) => HSw.out u hu _ c (hokP _) (hS.mc.below hu))
                  obtain ⟨y1, hy1⟩ : ∃ x, showM (pdOf vs fs ls L C) (playM false C (newM nv nf nl nt) (l1 ++ l2)).1 = x := ⟨_, rfl⟩
                  obtain ⟨y2, hy2⟩ : ∃ x, showM (pdOf vs fs ls L C) (playM false C (newM nv nf nl nt) (l1 ++ l3)).1 = x := ⟨_, rfl⟩
                  rw [hy1] at hR1 HM1
                  rw [hy2] at hR2 HM2
                  have HAl := hide (fun u (hu : Below wr.heap.size wr u) => HA.out u (HTb.out u hu).2.2)
                  have HBl := hide (fun u (hu : Below wr.heap.size wr u) => (HTb.out u hu).2.2)
                  obtain ⟨k1l, hk1l⟩ : ∃ x, (l1 ++ l2).length = x := ⟨_, rfl⟩
                  obtain ⟨k2l, hk2l⟩ : ∃ x, (l1 ++ l3).length = x := ⟨_, rfl⟩
                  rw [hk1l] at hR1 ⊢
                  rw [hk2l] at hR2 ⊢
                  obtain ⟨q0, q1, q2, q3⟩ := HF4.out wr (Below.refl _ _)
                  clear hS hi hMX hBX hPX kfX fn1 fn2 fn3 hpd hL2 hbU hfb2 hbl2 hMlt hc hT2 ht hl1 hl2 hl3 hn1 hn2 hn3 hk hB2 k1 hsc hBr hlen2 hlen3 HA he hLn hvs hfs hls HX HK h2 h3 hlX hPr kfr hsa hsb hla hlb HTb HR HSw hy1 hy2 hk1l hk2l hokP hLow
                  go_wp2_with fail
                  refine hR1.mono ?_
                  rintro e w11 ⟨ev1, rfl, hb11⟩
                  clear hR1 q0 q1 q2 q3
                  obtain ⟨q0, q1, q2, q3⟩ := HF4.out w11 hb11
                  have hC := hR2.out w11 hb11
                  replace hb11 := hide hb11
                  go_wp2_with fail
                  refine hC.mono ?_
                  rintro e w12 ⟨ev2, rfl, hb12⟩
                  clear hC q0 q1 q2 q3 hR2 HF4
                  have hb12 : Below wr.heap.size wr w12 := hb11.out.trans (hb12.mono hb11.out.size)
                  have hC := HM1.out w12 hb12
                  replace hb12 := hide hb12
                  clear hb11
                  go_wp2_with fail
                  refine hC.mono ?_
                  rintro e w13 ⟨rfl, hb13⟩
                  clear hC
                  have hb13 : Below wr.heap.size wr w13 := hb12.out.trans (hb13.mono hb12.out.size)
                  have hC := HM2.out w13 hb13
                  replace hb13 := hide hb13
                  go_wp2_with fail
                  refine hC.mono ?_
                  rintro e w14 ⟨rfl, hb14⟩
                  clear hC
                  have hb14 : Below wr.heap.size wr w14 := hb13.out.trans (hb14.mono hb13.out.size)
                  have hC := HAl.out w14 hb14
                  replace hb14 := hide hb14
                  go_wp2_with fail
                  refine hC.mono ?_
                  rintro e w15 ⟨rfl, hb15⟩
                  clear hC
                  have HN := hide (HBl.out w15 (hb14.out.trans (hb15.mono hb14.out.size)))
                  clear hb15
                  go_wp2_with fail
                  go_ret
                  exact ⟨rfl, HN.out⟩
end Go.Proofs.YtcfpedjfofpnkaaGreatDoor
