import Derived.Test.YtcfpedjfofpnkaaGreatDoorRv7
import Derived.Test.YtcfpedjfofpnkaaGreatDoorRv6
set_option linter.unusedVariables false
set_option linter.unusedSimpArgs false
namespace Go.Proofs.YtcfpedjfofpnkaaGreatDoor
open Go.RowKit Go.Proofs.Cod
theorem putN_putN {α : Type} (f : Nat → Option α) (a : Nat) (x y : α) : putN (putN f a x) a y = putN f a y := by
 funext z; unfold putN; split <;> rfl
theorem putN_same {α : Type} (f : Nat → Option α) (a : Nat) (x : α) : putN f a x a = some x := by simp [putN]
theorem partsT_mem {op ps : Tx} (h : partsT op = some ps) : ps.length ≤ 3 := by
 unfold partsT at h
 obtain ⟨p, hp, rfl⟩ := Option.map_eq_some_iff.1 h
 have hm := List.mem_of_find?_eq_some hp
 have : ∀ q, q ∈ shapeT → q.2.length ≤ 3 := by decide
 exact this p hm
structure InsJ (w : World) (tag : Nat → RT) (base rb nb lb : Nat) (G : RG) (lm ia : Nat) (i0 : In7) (l : List (Int × Tx)) (j : Nat) (wr : World) (tr : Nat → RT) (Gr : RG) : Prop where
 rd : RdW wr tr base rb nb lb Gr
 ext : Ext w tag wr tr
 line : Gr.line = G.line
 same : Gr.nms = G.nms ∧ Gr.V = G.V ∧ Gr.bods = G.bods ∧ Gr.bV = G.bV ∧ Gr.B = G.B ∧ Gr.N = G.N
 ins : ∃ i, Gr.I = putN G.I ia i ∧ fillAll G.N i0 l = fillAll G.N i (l.drop j)
 las : ∃ cs, Gr.las = G.las ++ cs ∧ cs.map CloC.key = (l.take j).flatMap (offOf nb lm ia G.line)
 len : Gr.las.length ≤ G.las.length + j
theorem InsJ.next {w : World} {tag : Nat → RT} {base rb nb lb : Nat} {G : RG} {lm ia : Nat} {i0 : In7} {l : List (Int × Tx)} {j : Nat} {wr : World} {tr : Nat → RT} {Gr : RG} (h : InsJ w tag base rb nb lb G lm ia i0 l j wr tr Gr) {p : Int × Tx} (hp : l[j]? = some p) {i : In7} (hi : Gr.I ia = some i)
 {w' : World} {tr' : Nat → RT} {G' : RG} (hR : RdW w' tr' base rb nb lb G') (hX : Ext wr tr w' tr') (hP : FillP nb lm ia i p.1 p.2 Gr G') : InsJ w tag base rb nb lb G lm ia i0 l (j + 1) w' tr' G' := by
 obtain ⟨hj, rfl⟩ := List.getElem?_eq_some_iff.1 hp
 obtain ⟨i2, hI, hfa⟩ := h.ins
 obtain ⟨cs, hcs, hkey⟩ := h.las
 obtain ⟨s1, s2, s3, s4, s5, s6⟩ := h.same
 have e0 : i2 = i := by rw [hI, putN_same] at hi; exact Option.some.inj hi
 subst e0
 have htake : (l.take (j + 1)).flatMap (offOf nb lm ia G.line) = (l.take j).flatMap (offOf nb lm ia G.line) ++ offOf nb lm ia G.line l[j] := by
  rw [List.take_succ_eq_append_getElem hj, List.flatMap_append]; simp
 have hdrop : l.drop j = l[j] :: l.drop (j + 1) := List.drop_eq_getElem_cons hj
 rw [hdrop] at hfa
 have set : ∀ i', fillOne G.N i2 l[j] = some i' → offOf nb lm ia G.line l[j] = [] → G' = Gr.setI ia i' → InsJ w tag base rb nb lb G lm ia i0 l (j + 1) w' tr' G' := fun i' h1 h2 h3 => by
  subst h3
  refine ⟨hR, h.ext.trans hX, h.line, ⟨s1, s2, s3, s4, s5, s6⟩, ⟨i', ?_, ?_⟩, ⟨cs, hcs, by rw [htake, h2, List.append_nil]; exact hkey⟩, by show Gr.las.length ≤ _; have := h.len; omega⟩
  ·show putN Gr.I ia i' = _
   rw [hI, putN_putN]
  ·rw [hfa]; conv => lhs; unfold fillAll
   rw [h1]
 have off : ∀ tb, LaterP ia tb l[j].1 l[j].2 Gr G' → fillOne G.N i2 l[j] = some i2 → offOf nb lm ia G.line l[j] = [(ia, tb, l[j].1, l[j].2, G.line)] → InsJ w tag base rb nb lb G lm ia i0 l (j + 1) w' tr' G' := fun tb h1 h2 h3 => by
  obtain ⟨c, v, c1, c2, c3, c4, c5, rfl⟩ := h1
  refine ⟨hR, h.ext.trans hX, h.line, ⟨s1, s2, s3, s4, s5, s6⟩, ⟨i2, hI, ?_⟩, ⟨cs ++ [c], ?_, ?_⟩, ?_⟩
  ·rw [hfa]; conv => lhs; unfold fillAll
   rw [h2]
  ·show Gr.las ++ [c] = _
   rw [hcs, List.append_assoc]
  ·rw [htake, h3, List.map_append, hkey]
   simp [CloC.key, c1, c2, c3, c4, c5, h.line]
  ·show (Gr.las ++ [c]).length ≤ _
   rw [List.length_append]; have := h.len; simp; omega
 rcases hP with ⟨q, e⟩ | ⟨q, e⟩ | ⟨q, e⟩ | ⟨q, e⟩ | ⟨q, e⟩ | ⟨h1, h2, h3, h4, h5, n, hn, e⟩
 ·exact set _ (by simp [fillOne, q]) (by simp [offOf, q]) e
 ·exact set _ (by simp [fillOne, q]) (by simp [offOf, q]) e
 ·exact set _ (by simp [fillOne, q]) (by simp [offOf, q]) e
 ·exact off nb (by rw [q]; exact e) (by simp [fillOne, q]) (by simp [offOf, q])
 ·exact off lm (by rw [q]; exact e) (by simp [fillOne, q]) (by simp [offOf, q])
 ·rw [s6] at hn
  exact set _ (by simp [fillOne, h1, h2, h3, h4, h5, hn]) (by simp [offOf, h4, h5]) e
theorem InsJ.fails {w : World} {tag : Nat → RT} {base rb nb lb : Nat} {G : RG} {lm ia : Nat} {i0 : In7} {l : List (Int × Tx)} {j : Nat} {wr : World} {tr : Nat → RT} {Gr : RG} (h : InsJ w tag base rb nb lb G lm ia i0 l j wr tr Gr) {p : Int × Tx} (hp : l[j]? = some p) {e : Int} (hE : FillE p.1 p.2 Gr e) : fillAll G.N i0 l = none ∧ e = 5 := by
 obtain ⟨hj, rfl⟩ := List.getElem?_eq_some_iff.1 hp
 obtain ⟨i2, hI, hfa⟩ := h.ins
 obtain ⟨s1, s2, s3, s4, s5, s6⟩ := h.same
 obtain ⟨h1, h2, h3, h4, h5, hn, he⟩ := hE
 rw [s6] at hn
 refine ⟨?_, he⟩
 rw [hfa, List.drop_eq_getElem_cons hj]
 unfold fillAll
 have : fillOne G.N i2 l[j] = none := by
  unfold fillOne
  rw [if_neg h1, if_neg h2, if_neg h3, if_neg h4, if_neg h5]
  cases hq : G.N l[j].2 with
  | none => rfl
  | some p =>
   obtain ⟨k, n⟩ := p
   show (if k = l[j].1 then _ else _) = _
   rw [if_neg]
   intro e'; subst e'; exact hn n hq
 rw [this]
theorem fitsT_at {ts : List Tx} {ps : Tx} (h : fitsT ts ps = true) : ts.length = ps.length ∧ ∀ i (hj : i < ps.length), fitsP (ts.getD i []) ((ps[i]'hj).toNat : Int) = true := by
 induction ts generalizing ps with
 | nil => cases ps with
  | nil => exact ⟨rfl, fun i hj => by simp at hj⟩
  | cons c ps => simp [fitsT] at h
 | cons t ts ih => cases ps with
  | nil => simp [fitsT] at h
  | cons c ps =>
   simp only [fitsT, Bool.and_eq_true] at h
   obtain ⟨h1, h2⟩ := ih h.2
   refine ⟨by simp [h1], fun i hj => ?_⟩
   cases i with
   | zero => simpa using h.1
   | succ i => simpa using h2 i (by simpa using hj)
theorem zipP_at {ts : List Tx} {ps : Tx} {i : Nat} (h : i < ts.length) (hp : i < ps.length) : (zipP ps ts)[i]? = some ((ps[i].toNat : Int), ts.getD i []) := by
 unfold zipP
 rw [List.getElem?_zip_eq_some]
 simp [h, hp]
theorem zipP_len {ts : List Tx} {ps : Tx} (h : ts.length = ps.length) : (zipP ps ts).length = ts.length := by simp [zipP, h]
def InstrP (n0 nb a : Nat) (bc : BdC) (op : Tx) (ts : List Tx) (G G' : RG) : Prop := ∃ ps, partsT op = some ps ∧ fitsT ts ps = true ∧ bc.ins.length < 24 ∧ ∃ ia i cs lV v, n0 ≤ ia ∧ fillAll G.N (newIns op) (zipP ps ts) = some i ∧ cs.map CloC.key = (zipP ps ts).flatMap (offOf nb bc.lm ia G.line) ∧
 G' = { G with I := putN G.I ia i, las := G.las ++ cs, lV := lV, B := putN G.B a { bc with ins := bc.ins ++ [ia], cv := v } }
def InstrE (bc : BdC) (op : Tx) (ts : List Tx) (G : RG) (e : Int) : Prop :=
 ((∀ ps, partsT op = some ps → fitsT ts ps = false) ∧ e = 2) ∨ ∃ ps, partsT op = some ps ∧ fitsT ts ps = true ∧ ((24 ≤ bc.ins.length ∧ e = 4) ∨ (bc.ins.length < 24 ∧ fillAll G.N (newIns op) (zipP ps ts) = none ∧ e = 5))
set_option maxRecDepth 100000 in
set_option maxHeartbeats 1000000 in
theorem instruct_any {w : World} {tag : Nat → RT} {base rb nb lb : Nat} {G : RG} (h : RdW w tag base rb nb lb G) {a : Nat} {bc : BdC} (ha : G.bods.getLast? = some a) (hb : G.bods.length < 1048576) (hbc : G.B a = some bc) (op : Tx) (sa : Option Addr) (n cap : Nat) (ts : List Tx) (hn : ts.length = n) (hs : WsT w tag sa ts) (hlen : G.las.length + n < 1048576) (hl24 : bc.ins.length ≤ 24) :
 Calls Tryz.prog 100 #[ptrV rb, .string (bs op), .slice sa n cap] w (Out w tag base rb nb lb G.line (InstrP w.heap.size nb a bc op ts G) (InstrE bc op ts G)) := by
 have hP := partsOf_any op w h.shapes
 cases hps : partsT op with
 | none =>
  rw [hps] at hP
  have HE : Hid (∀ w1, Below w.heap.size w w1 → w1.cell? ⟨rb, 0, none⟩ = some (.int .i64 G.line) ∧ Ext w tag w1 tag) := fun w1 hb1 => ⟨(h.below hb1).lineC, Ext.of_below hb1⟩
  replace hps := hide hps
  unfold ptrV
  clear h hs
  go_enter Tryz.func100, Tryz.ntmps100
  go_wp2_with fail
  refine hP.mono ?_
  rintro e w1 ⟨rfl, hb1⟩
  obtain ⟨cl, hX⟩ := HE.out w1 hb1
  go_wp2_with fail
  refine (demand_no 2 cl).mono ?_
  rintro e w2 ⟨rfl, rfl⟩
  exact ⟨rfl, .inr ⟨tag, 2, rfl, hX, .inl ⟨(fun ps e => by rw [hps.out] at e; cases e), rfl⟩⟩⟩
 | some ps =>
  rw [hps] at hP
  have hp8 : ps.length < 4294967281 := by
   have hm := partsT_mem hps
   omega
  have HF : Hid (∀ w1, Below w.heap.size w w1 → RdW w1 tag base rb nb lb G ∧ WsT w1 tag sa ts ∧ Ext w tag w1 tag ∧ Calls Tryz.prog 119 #[.slice sa n cap, .string (bs ps)] w1 fun e w' => e = .returned (.bool (fitsT ts ps)) ∧ w' = w1) := fun w1 hb1 => ⟨h.below hb1, hs.ext (.of_below hb1), .of_below hb1, fits_any sa n cap ts ps w1 hn (hs.ext (.of_below (t := tag) hb1)).ws (by omega) hp8⟩
  replace hps := hide hps
  have hsO := hide hs
  unfold ptrV
  clear h hs
  go_enter Tryz.func100, Tryz.ntmps100
  go_wp2_with fail
  refine hP.mono ?_
  rintro e w1 ⟨rfl, hb1⟩
  obtain ⟨h1, hs1, hx1, hF⟩ := HF.out w1 hb1
  clear HF
  have cl := h1.lineC
  replace h1 := hide h1
  replace hs1 := hide hs1
  replace hx1 := hide hx1
  cases hfit : fitsT ts ps with
  | false =>
   rw [hfit] at hF
   go_wp2_with fail
   refine hF.mono ?_
   rintro e w2 ⟨rfl, rfl⟩
   go_wp2_with fail
   refine (demand_no 2 cl).mono ?_
   rintro e w3 ⟨rfl, rfl⟩
   exact ⟨rfl, .inr ⟨tag, 2, rfl, hx1.out, .inl ⟨(fun ps' e => by rw [hps.out] at e; cases e; exact hfit), rfl⟩⟩⟩
  | true =>
   rw [hfit] at hF
   have hC := current_any h1.out ha (by omega)
   have HC : Hid (∀ w2, Below w1.heap.size w1 w2 → RdW w2 tag base rb nb lb G ∧ WsT w2 tag sa ts ∧ Ext w tag w2 tag ∧ w1.heap.size ≤ w2.heap.size) := fun w2 hb2 => ⟨h1.out.below hb2, hs1.out.ext (.of_below hb2), hx1.out.trans (.of_below hb2), hb2.size⟩
   have hz1 : Hid (w.heap.size ≤ w1.heap.size) := hb1.size
   unfold ptrV at hC
   replace hfit := hide hfit
   clear hb1
   go_wp2_with fail
   refine hF.mono ?_
   rintro e w2 ⟨rfl, rfl⟩
   go_wp2_with fail
   refine (demand_yes rb 2 _).mono ?_
   rintro e w3 ⟨rfl, rfl⟩
   go_wp2_with fail
   refine hC.mono ?_
   rintro e w4 ⟨rfl, hb4⟩
   obtain ⟨h4, hs4, hx4, hz4⟩ := HC.out w4 hb4
   clear HC hC cl hb4
   have cl := h4.lineC
   have hB := h4.bodies a bc hbc
   have c0 : w4.cell? ⟨a, 0, none⟩ = some bc.cv := by simp [World.cell?, hB.cell]
   obtain ⟨ca, ccap, hcv⟩ := row_len hB.code
   rw [hcv] at c0
   replace hcv := hide hcv
   replace hz4 := hide hz4
   by_cases h24 : bc.ins.length < 24
   ·have h24' : (bc.ins.length : Int) < 24 := by omega
    obtain ⟨hlp, hfp⟩ := fitsT_at hfit.out
    have hzn : (bs ps).size = n := by rw [bs_size, ← hlp, hn]
    obtain ⟨hN1, hN2⟩ := h4.newI (newIns op)
    have hJ0 : Hid (InsJ w tag base rb nb lb G bc.lm w4.heap.size (newIns op) (zipP ps ts) 0 (w4.alloc (.cells (insC (newIns op)) 67)) (tagAt tag w4.heap.size .ins) (G.setI w4.heap.size (newIns op))) := ⟨hN1, hx4.trans hN2, rfl, ⟨rfl, rfl, rfl, rfl, rfl, rfl⟩, ⟨newIns op, rfl, by simp⟩, ⟨[], by show G.las = _; simp, by simp⟩, by show G.las.length ≤ _; omega⟩
    have hsJ := hide hs4
    replace hlp := hide hlp
    replace hfp := hide hfp
    replace hn := hide hn
    have hxx := hide hx4
    clear hN1 hN2 hB h4 hs4 hx4
    go_wp2_with fail
    refine (demand_yes rb 4 _).mono ?_
    rintro e w5 ⟨rfl, rfl⟩
    go_wp2_with fail
    go_loopw [40] (fun iv wr => ∃ (j : Nat) (tr : Nat → RT) (Gr : RG), j ≤ n ∧ iv = .int .i64 j ∧ InsJ w tag base rb nb lb G bc.lm w5.heap.size (newIns op) (zipP ps ts) j wr tr Gr) (fun iv _ => n - (intOf iv).toNat)
    case atStart => exact ⟨0, _, _, Nat.zero_le _, rfl, hJ0.out⟩
    case round =>
     clear cl c0 hJ0 hF hP
     obtain ⟨j, tr, Gr, hj, rfl, hJ⟩ := hrel
     obtain ⟨i, hI, hfa⟩ := hJ.ins
     have hIi : Gr.I w5.heap.size = some i := by rw [hI, putN_same]
     have hr := hJ.rd
     have hla : Gr.bods.getLast? = some a := by rw [hJ.same.2.2.1]; exact ha
     have hbl : Gr.bods.length < 1048576 := by rw [hJ.same.2.2.1]; exact hb
     have hBa : Gr.B a = some bc := by rw [hJ.same.2.2.2.2.1]; exact hbc
     by_cases h5 : j < n
     ·have hjt : j < ts.length := by have := hn.out; omega
      have hjp : j < ps.length := by have := hlp.out; omega
      obtain ⟨b, off, rfl, _, cw, _⟩ := (hsO.out.ext hJ.ext) j hjt
      have hlt : (j : Int) < (n : Int) := by omega
      have hg := bs_get ps j (by omega)
      have hz := zipP_at hjt hjp
      have hFill := fill_any hr hla hbl hBa hIi (by have := hJ.len; omega) (ps[j].toNat : Int) (ts.getD j []) (hfp.out j hjp)
      rw [hJ.line] at hFill
      have HE := hide (⟨hJ, hz, hIi⟩ : _ ∧ _ ∧ _)
      clear hr hI hfa hIi hJ hla hbl hBa hz
      generalize ts.getD j [] = t at *
      generalize hce : ps[j] = c at *
      replace hce := hide hce
      unfold ptrV at hFill
      clear hjt
      go_wp2_with fail
      refine hFill.mono ?_
      rintro e w6 (⟨t6, G6, rfl, hR6, hX6, hP6⟩ | ⟨t6, e6, rfl, hX6, hE6⟩)
      ·go_wp2_with fail
       go_roundw
       case rel =>
        obtain ⟨hJ, hz, hIi⟩ := HE.out
        exact ⟨j + 1, t6, G6, by omega, by go_num, hJ.next hz hIi hR6 hX6 hP6⟩
       case measure => simp [intOf]; omega
      ·obtain ⟨hJ, hz, hIi⟩ := HE.out
       obtain ⟨q1, q2⟩ := hJ.fails hz hE6
       subst q2
       exact ⟨rfl, .inr ⟨t6, 5, rfl, hJ.ext.trans hX6, .inr ⟨ps, hps.out, hfit.out, .inr ⟨h24, q1, rfl⟩⟩⟩⟩
     ·have hall : Hid (fillAll G.N (newIns op) (zipP ps ts) = some i) := by
       rw [List.drop_of_length_le (by rw [zipP_len hlp.out]; have := hn.out; omega)] at hfa
       exact hfa
      obtain ⟨g, cap', w6, hrun, c6, f6, tag6, hR6, hX6⟩ := hr.code hBa (by omega) w5.heap.size
      have hB := hr.bodies a bc hBa
      have c0 : wr.cell? ⟨a, 0, none⟩ = some bc.cv := by simp [World.cell?, hB.cell]
      rw [hcv.out] at c0 hrun c6
      unfold ptrV at hrun
      have HE := hide (⟨hJ, hR6, hX6, hI⟩ : _ ∧ _ ∧ _ ∧ _)
      have hal := hr.lt hB.ta (by simp)
      have hjn : j = n := by omega
      subst hjn
      clear hr hR6 hX6 hI hfa hIi hJ hla hbl hBa hB
      go_wp2_with (at_builtin; refine wpList_append_run rfl _ _ _ rfl rfl rfl rfl hrun ?_)
      go_end0
      obtain ⟨hJ, hR6, hX6, hI⟩ := HE.out
      obtain ⟨cs, hcs, hkey⟩ := hJ.las
      obtain ⟨s1, s2, s3, s4, s5, s6⟩ := hJ.same
      refine .inl ⟨tag6, _, rfl, hR6, hJ.ext.trans hX6, ps, hps.out, hfit.out, h24, w5.heap.size, i, cs, Gr.lV, .slice (some ⟨g, 0, none⟩) (bc.ins.length + 1) cap', by have := hz1.out; have := hz4.out; omega, hall.out, ?_, ?_⟩
      ·rw [hkey, List.take_of_length_le (by rw [zipP_len hlp.out]; have := hn.out; omega)]
      ·have hl := hJ.line
       cases Gr
       simp only at hI hcs s1 s2 s3 s4 s5 s6 hl
       subst hI hcs s1 s2 s3 s4 s5 s6 hl
       rfl
   ·have h24' : decide ((bc.ins.length : Int) < 24) = false := decide_eq_false (by omega)
    replace hx4 := hide hx4
    clear hB h4 hs4
    go_wp2_with fail
    refine (demand_no 4 cl).mono ?_
    rintro e w5 ⟨rfl, rfl⟩
    exact ⟨rfl, .inr ⟨tag, 4, rfl, hx4.out, .inr ⟨ps, hps.out, hfit.out, .inl ⟨by omega, rfl⟩⟩⟩⟩
def colonT (t : Tx) : Bool := decide (t.getLast? = some 58)
theorem colon_drop {t : Tx} (h : 1 ≤ t.length) : ((bs (t.drop (t.length - 1))).toList == (bs [58]).toList) = colonT t := by
 rcases List.eq_nil_or_concat t with e | ⟨l, x, e⟩
 ·subst e; simp at h
 ·rw [List.concat_eq_append] at e
  subst e
  rw [bs_toList, bs_toList, colonT]
  have e1 : (l ++ [x]).drop ((l ++ [x]).length - 1) = [x] := by simp
  rw [e1, List.getLast?_append]
  by_cases hx : x = 58 <;> simp [hx]
set_option maxRecDepth 100000 in
set_option maxHeartbeats 400000 in
theorem hasSuffix_any (t : Tx) (w : World) (hlen : t.length < 4294967281) : Calls Tryz.prog 128 #[.string (bs t), .string (bs [58])] w fun e w' => e = .returned (.bool (colonT t)) ∧ w' = w := by
 have hz1 : (bs [58]).size = 1 := bs_size [58]
 by_cases h0 : 1 ≤ t.length
 ·obtain ⟨n, hn⟩ : ∃ n, t.length = n + 1 := ⟨t.length - 1, by omega⟩
  have hc := colon_drop h0
  have hz : (bs t).size = n + 1 := by rw [bs_size, hn]
  have hx : (bs t).extract n (n + 1) = bs (t.drop (t.length - 1)) := by
   rw [bs_extract, List.take_of_length_le (by omega)]; congr 2; omega
  generalize bs (t.drop (t.length - 1)) = u at hx hc
  generalize colonT t = q at hc ⊢
  generalize bs t = bt at hz hx ⊢
  generalize bs [58] = b58 at hz1 hc ⊢
  have d5 : wrap64 (n : Int) = n := IntWalk.wrap64_in _ (by omega)
  clear h0 hlen
  have d1 : (1 : Int) ≤ (n : Int) + 1 := by omega
  have d2 : (n : Int) + 1 - 1 = n := by omega
  have d4 : (n : Int) ≤ (n : Int) + 1 := by omega
  clear hn d2
  go_enter Tryz.func128, Tryz.ntmps128
  go_wp2
  go_ret
  exact ⟨rfl, rfl⟩
 ·have h1 : t = [] := by cases t with
   | nil => rfl
   | cons c r => simp at h0
  subst h1
  have hb : bs [] = ByteArray.empty := rfl
  have hq : colonT [] = false := rfl
  rw [hb, hq]
  generalize bs [58] = b58 at hz1 ⊢
  clear h0 hlen
  go_enter Tryz.func128, Tryz.ntmps128
  go_wp2
  go_ret
  exact ⟨rfl, rfl⟩
set_option maxRecDepth 100000 in
set_option maxHeartbeats 400000 in
theorem cutSuffix_any (t : Tx) (w : World) (hlen : t.length < 4294967281) : Calls Tryz.prog 113 #[.string (bs t), .string (bs [58])] w fun e w' => e = .returned (.tuple #[.string (bs (if colonT t then t.dropLast else t)), .bool (colonT t)]) ∧ w' = w := by
 have hH := hasSuffix_any t w hlen
 have hz1 : (bs [58]).size = 1 := bs_size [58]
 cases hc : colonT t with
 | false =>
  rw [hc] at hH
  go_enter Tryz.func113, Tryz.ntmps113
  go_wp2_with fail
  refine hH.mono ?_
  rintro e w1 ⟨rfl, rfl⟩
  go_wp2_with fail
  go_ret2
  exact ⟨rfl, rfl⟩
 | true =>
  rw [hc] at hH
  have h0 : t ≠ [] := by (intro e; subst e; simp [colonT] at hc)
  obtain ⟨n, hn⟩ : ∃ n, t.length = n + 1 := ⟨t.length - 1, by have := List.length_pos_iff.2 h0; omega⟩
  have hz : (bs t).size = n + 1 := by rw [bs_size, hn]
  have hx : (bs t).extract 0 n = bs t.dropLast := by
   rw [bs_extract, List.dropLast_eq_take]; congr 2; simp [hn]
  simp only [if_true]
  generalize bs t.dropLast = u at hx ⊢
  generalize bs t = bt at hz hx hH ⊢
  generalize bs [58] = b58 at hz1 hH ⊢
  have d2 : (n : Int) + 1 - 1 = n := by omega
  have d5 : wrap64 (n : Int) = n := IntWalk.wrap64_in _ (by omega)
  have d4 : (n : Int) ≤ (n : Int) + 1 := by omega
  clear hn h0 hlen hc d2
  go_enter Tryz.func113, Tryz.ntmps113
  go_wp2_with fail
  refine hH.mono ?_
  rintro e w1 ⟨rfl, rfl⟩
  go_wp2_with fail
  go_ret2
  exact ⟨rfl, rfl⟩
set_option maxHeartbeats 400000 in
theorem cutColon_any (t : Tx) (w : World) (hlen : t.length < 4294967281) : Calls Tryz.prog 95 #[.string (bs t), .string (bs [58])] w fun e w' => e = .returned (.tuple #[.string (bs (if colonT t then t.dropLast else t)), .bool (colonT t)]) ∧ w' = w := by
 have hH := cutSuffix_any t w hlen
 generalize bs (if colonT t then t.dropLast else t) = u at hH ⊢
 generalize colonT t = q at hH ⊢
 go_enter Tryz.func95, Tryz.ntmps95
 go_wp2_with fail
 refine hH.mono ?_
 rintro e w1 ⟨rfl, rfl⟩
 go_wp2_with fail
 go_ret2
 exact ⟨rfl, rfl⟩
def tThread : Tx := [116, 104, 114, 101, 97, 100]
def TakeP (n0 nb : Nat) (f : Tx) (ts : List Tx) (G G' : RG) : Prop :=
 (f = tThread ∧ BeginP n0 ts G G') ∨ (f ≠ tThread ∧ G.bods = [] ∧ DeclP (headK f) ts G G') ∨
 (f ≠ tThread ∧ ∃ a bc, G.bods.getLast? = some a ∧ G.B a = some bc ∧ ((colonT f = true ∧ ts = [] ∧ isNam f.dropLast = true ∧ bc.labs f.dropLast = none ∧ G' = G.mark a bc f.dropLast) ∨ (¬ (colonT f = true ∧ ts = []) ∧ InstrP n0 nb a bc f ts G G')))
def TakeE (f : Tx) (ts : List Tx) (G : RG) (e : Int) : Prop :=
 (f = tThread ∧ BeginE ts G e) ∨ (f ≠ tThread ∧ G.bods = [] ∧ DeclE (headK f) ts G e) ∨
 (f ≠ tThread ∧ ∃ a bc, G.bods.getLast? = some a ∧ G.B a = some bc ∧ ((colonT f = true ∧ ts = [] ∧ ((isNam f.dropLast = false ∧ e = 2) ∨ (isNam f.dropLast = true ∧ (∃ n, bc.labs f.dropLast = some n) ∧ e = 3))) ∨ (¬ (colonT f = true ∧ ts = []) ∧ InstrE bc f ts G e)))
theorem headK_ok (t : Tx) : headK t = 0 ∨ isK (headK t) := by
 unfold headK isK
 by_cases h1 : tVar = t
 ·simp [h1]
 ·by_cases h2 : tFlag = t
  ·simp [h1, h2]
  ·by_cases h3 : tLock = t
   ·simp [h1, h2, h3]
   ·simp [h1, h2, h3]
set_option maxRecDepth 100000 in
set_option maxHeartbeats 1000000 in
theorem take_any {w : World} {tag : Nat → RT} {base rb nb lb : Nat} {G : RG} (h : RdW w tag base rb nb lb G) (hla : G.bods = [] ∨ ∃ a bc, G.bods.getLast? = some a ∧ G.B a = some bc ∧ bc.ins.length ≤ 24) (f : Tx) (sa : Option Addr) (n cap : Nat) (ts : List Tx) (hn : ts.length = n) (hs : WsT w tag sa ts)
 (hf : f.length < 4294967281) (hb1 : ∀ k, (G.nms k).length + n < 1048576) (hb2 : G.bods.length < 1048576) (hb3 : G.las.length + n < 1048576) :
 Calls Tryz.prog 82 #[ptrV rb, .string (bs f), .slice sa n cap] w (Out w tag base rb nb lb G.line (TakeP w.heap.size nb f ts G) (TakeE f ts G)) := by
 have hC := cutColon_any f w hf
 have hcmp : ((bs f).toList == [116, 104, 114, 101, 97, 100]) = decide (f = tThread) := by
  rw [bs_toList]
  by_cases e : f = tThread
  ·subst e; rfl
  ·rw [decide_eq_false e]
   exact beq_eq_false_iff_ne.2 e
 by_cases h1 : f = tThread
 ·have hF1 := begin_any h sa n cap ts hn hs (hb1 116) hb2
  rw [decide_eq_true h1] at hcmp
  replace h1 := hide h1
  generalize bs (if colonT f then f.dropLast else f) = nm at hC
  generalize colonT f = col at hC
  unfold ptrV at hF1 ⊢
  clear h hs hb1 hb2 hb3 hn hla
  go_enter Tryz.func82, Tryz.ntmps82
  go_wp2_with fail
  refine hC.mono ?_
  rintro e w1 ⟨rfl, rfl⟩
  go_wp2_with fail
  refine hF1.mono ?_
  rintro e w6 (⟨t6, G6, rfl, hR6, hX6, hP6⟩ | ⟨t6, e6, rfl, hX6, hE6⟩)
  ·go_wp2_with fail
   go_end0
   exact .inl ⟨t6, G6, rfl, hR6, hX6, .inl ⟨h1.out, hP6⟩⟩
  ·exact ⟨rfl, .inr ⟨t6, e6, rfl, hX6, .inl ⟨h1.out, hE6⟩⟩⟩
 ·rw [decide_eq_false h1] at hcmp
  replace h1 := hide h1
  have c6 := h.bodC
  obtain ⟨ba, bcap, hV⟩ := row_ptr h.brow
  rw [List.length_map] at hV
  rw [hV] at c6
  rcases hla with h0 | ⟨a, bc, ha, hbc, h24⟩
  ·have hH := headingKind_any f w h.heads
   have HD : Hid (∀ w1, Below w.heap.size w w1 → Calls Tryz.prog 97 #[ptrV rb, .int .u8 (headK f), .slice sa n cap] w1 (Out w tag base rb nb lb G.line (DeclP (headK f) ts G) (DeclE (headK f) ts G))) := fun w1 hb => by
    refine (declare_any (h.below hb) (headK f) (headK_ok f) sa n cap ts hn (hs.ext (.of_below hb)) (hb1 _)).mono ?_
    rintro e w6 (⟨t6, G6, rfl, hR6, hX6, hP6⟩ | ⟨t6, e6, rfl, hX6, hE6⟩)
    ·exact .inl ⟨t6, G6, rfl, hR6, (Ext.of_below hb).trans hX6, hP6⟩
    ·exact .inr ⟨t6, e6, rfl, (Ext.of_below hb).trans hX6, hE6⟩
   rw [h0] at c6
   have c6 : w.cell? ⟨rb, 6, none⟩ = some (.slice ba 0 bcap) := c6
   generalize bs (if colonT f then f.dropLast else f) = nm at hC
   generalize colonT f = col at hC
   unfold ptrV at HD ⊢
   replace h0 := hide h0
   replace hV := hide hV
   clear h hs hb1 hb2 hb3 hn
   go_enter Tryz.func82, Tryz.ntmps82
   go_wp2_with fail
   refine hC.mono ?_
   rintro e w1 ⟨rfl, rfl⟩
   go_wp2_with fail
   refine hH.mono ?_
   rintro e w2 ⟨rfl, hb2⟩
   have hD := HD.out w2 hb2
   clear HD
   go_wp2_with fail
   refine hD.mono ?_
   rintro e w6 (⟨t6, G6, rfl, hR6, hX6, hP6⟩ | ⟨t6, e6, rfl, hX6, hE6⟩)
   ·go_wp2_with fail
    go_end0
    exact .inl ⟨t6, G6, rfl, hR6, hX6, .inr (.inl ⟨h1.out, h0.out, hP6⟩)⟩
   ·exact ⟨rfl, .inr ⟨t6, e6, rfl, hX6, .inr (.inl ⟨h1.out, h0.out, hE6⟩)⟩⟩
  ·have hne : ((G.bods.length : Int) == 0) = false := by
    have : G.bods ≠ [] := fun e => by rw [e] at ha; cases ha
    have := List.length_pos_iff.2 this
    simp; intro e; rw [e] at this; simp at this
   replace hV := hide hV
   by_cases hm : colonT f = true ∧ n = 0
   ·obtain ⟨m1, m2⟩ := hm
    have hM := mark_any h ha (by omega) hbc f.dropLast
    rw [m1] at hC
    simp only [if_true] at hC
    have ht : Hid (ts = []) := List.eq_nil_of_length_eq_zero (by omega)
    subst m2
    replace m1 := hide m1
    replace ha := hide ha
    replace hbc := hide hbc
    unfold ptrV at hM ⊢
    clear h hs hb1 hb2 hb3 hn
    go_enter Tryz.func82, Tryz.ntmps82
    go_wp2_with fail
    refine hC.mono ?_
    rintro e w1 ⟨rfl, rfl⟩
    go_wp2_with fail
    refine hM.mono ?_
    rintro e w6 (⟨t6, G6, rfl, hR6, hX6, hP6⟩ | ⟨t6, e6, rfl, hX6, hE6⟩)
    ·go_wp2_with fail
     go_end0
     exact .inl ⟨t6, G6, rfl, hR6, hX6, .inr (.inr ⟨h1.out, a, bc, ha.out, hbc.out, .inl ⟨m1.out, ht.out, hP6⟩⟩)⟩
    ·exact ⟨rfl, .inr ⟨t6, e6, rfl, hX6, .inr (.inr ⟨h1.out, a, bc, ha.out, hbc.out, .inl ⟨m1.out, ht.out, hE6⟩⟩)⟩⟩
   ·have hI := instruct_any h ha hb2 hbc f sa n cap ts hn hs hb3 h24
    have hm' : Hid (¬ (colonT f = true ∧ ts = [])) := fun e => hm ⟨e.1, by rw [← hn, e.2]; rfl⟩
    replace ha := hide ha
    replace hbc := hide hbc
    unfold ptrV at hI ⊢
    generalize bs (if colonT f then f.dropLast else f) = nm at hC
    cases hc : colonT f with
    | false =>
     rw [hc] at hC
     replace hc := hide hc
     clear h hs hb1 hb2 hb3 hn hm
     go_enter Tryz.func82, Tryz.ntmps82
     go_wp2_with fail
     refine hC.mono ?_
     rintro e w1 ⟨rfl, rfl⟩
     go_wp2_with fail
     refine hI.mono ?_
     rintro e w6 (⟨t6, G6, rfl, hR6, hX6, hP6⟩ | ⟨t6, e6, rfl, hX6, hE6⟩)
     ·go_wp2_with fail
      go_end0
      exact .inl ⟨t6, G6, rfl, hR6, hX6, .inr (.inr ⟨h1.out, a, bc, ha.out, hbc.out, .inr ⟨hm'.out, hP6⟩⟩)⟩
     ·exact ⟨rfl, .inr ⟨t6, e6, rfl, hX6, .inr (.inr ⟨h1.out, a, bc, ha.out, hbc.out, .inr ⟨hm'.out, hE6⟩⟩)⟩⟩
    | true =>
     rw [hc] at hC
     have hn0 : ((n : Int) == 0) = false := by
      have : ¬ (n = 0) := fun e => hm ⟨hc, e⟩
      simp; omega
     replace hc := hide hc
     clear h hs hb1 hb2 hb3 hn hm
     go_enter Tryz.func82, Tryz.ntmps82
     go_wp2_with fail
     refine hC.mono ?_
     rintro e w1 ⟨rfl, rfl⟩
     go_wp2_with fail
     refine hI.mono ?_
     rintro e w6 (⟨t6, G6, rfl, hR6, hX6, hP6⟩ | ⟨t6, e6, rfl, hX6, hE6⟩)
     ·go_wp2_with fail
      go_end0
      exact .inl ⟨t6, G6, rfl, hR6, hX6, .inr (.inr ⟨h1.out, a, bc, ha.out, hbc.out, .inr ⟨hm'.out, hP6⟩⟩)⟩
     ·exact ⟨rfl, .inr ⟨t6, e6, rfl, hX6, .inr (.inr ⟨h1.out, a, bc, ha.out, hbc.out, .inr ⟨hm'.out, hE6⟩⟩)⟩⟩
def okW (r : Result Unit) (W : World) : World := match r with
 | .ok _ w' => w'
 | _ => W
noncomputable def stepM (b rb : Nat) (p : Int × Nat) (W : World) : World := okW ((Instr.mapUpdate 131 (.map (some b)) (.int .u8 p.1) (.pointer (some ⟨rb, p.2, none⟩))).run Tryz.prog W) W
noncomputable def updM (b rb : Nat) (W0 : World) (L : List (Int × Nat)) : World := L.foldr (stepM b rb) W0
theorem updM_cons (b rb : Nat) (W0 : World) (p : Int × Nat) (L : List (Int × Nat)) {w' : World} (h : (Instr.mapUpdate 131 (.map (some b)) (.int .u8 p.1) (.pointer (some ⟨rb, p.2, none⟩))).run Tryz.prog (updM b rb W0 L) = .ok () w') : updM b rb W0 (p :: L) = w' := by
 have e : updM b rb W0 (p :: L) = stepM b rb p (updM b rb W0 L) := List.foldr_cons ..
 rw [e, stepM, h, okW]
theorem updM_nil (b rb : Nat) (W0 : World) : updM b rb W0 [] = W0 := List.foldr_nil
attribute [irreducible] updM
def updF (rb : Nat) : List (Int × Nat) → Int → Option Value
 | [] => fun _ => none
 | p :: L => putK (updF rb L) p.1 (.pointer (some ⟨rb, p.2, none⟩))
theorem updM_ok {b rb : Nat} {W0 : World} (h : KMap uk W0 b (fun _ => none) 0) (L : List (Int × Nat)) : (∃ n, KMap uk (updM b rb W0 L) b (updF rb L) n) ∧ (updM b rb W0 L).heap.size = W0.heap.size ∧ (updM b rb W0 L).os = W0.os ∧ (updM b rb W0 L).tape = W0.tape ∧ (updM b rb W0 L).output = W0.output ∧ (∀ x, x ≠ b → (updM b rb W0 L).heap[x]? = W0.heap[x]?) := by
 induction L with
 | nil => rw [updM_nil]; exact ⟨⟨0, h⟩, rfl, rfl, rfl, rfl, fun _ _ => rfl⟩
 | cons p L ih =>
  obtain ⟨⟨n, hK⟩, hz, ho, ht, hp, hk⟩ := ih
  obtain ⟨w', hrun, hM, hg, hz'⟩ := hK.put Tryz.u8Key Tryz.underlying131 p.1 (.pointer (some ⟨rb, p.2, none⟩))
  have e : updM b rb W0 (p :: L) = w' := updM_cons b rb W0 p L hrun
  rw [e]
  refine ⟨⟨_, hM⟩, by omega, hg.os.trans ho, hg.tape.trans ht, hg.output.trans hp, fun x hx => ?_⟩
  by_cases hl : x < (updM b rb W0 L).heap.size
  ·exact (hg.block x hl (by simpa using hx)).trans (hk x hx)
  ·rw [← hk x hx, Array.getElem?_eq_none (by omega), Array.getElem?_eq_none (by omega)]
theorem updM_run {b rb : Nat} {W0 : World} (h : KMap uk W0 b (fun _ => none) 0) (L : List (Int × Nat)) (k : Int) (o : Nat) : (Instr.mapUpdate 131 (.map (some b)) (.int .u8 k) (.pointer (some ⟨rb, o, none⟩))).run Tryz.prog (updM b rb W0 L) = .ok () (updM b rb W0 ((k, o) :: L)) := by
 obtain ⟨⟨n, hK⟩, _⟩ := updM_ok (rb := rb) h L
 obtain ⟨w', hrun, hM, hg, hz'⟩ := hK.put Tryz.u8Key Tryz.underlying131 k (.pointer (some ⟨rb, o, none⟩))
 have hrun' : (Instr.mapUpdate 131 (.map (some b)) (.int .u8 k) (.pointer (some ⟨rb, o, none⟩))).run Tryz.prog (updM b rb W0 L) = .ok () w' := hrun
 have e : updM b rb W0 ((k, o) :: L) = w' := updM_cons b rb W0 (k, o) L hrun'
 rw [e]; exact hrun'
def RG.new : RG := ⟨0, fun _ => [], fun _ => .slice none 0 0, [], .slice none 0 0, fun _ => none, fun _ => none, fun _ => none, [], .slice none 0 0⟩
theorem new_reader {w w' : World} (hh : Heads w) (hs : Shapes w) (h1 : 0 < w.heap.size) (h2 : 2 < w.heap.size) (ho : w'.os = w.os) (ht : w'.tape = w.tape) (hp : w'.output = w.output) (hz : w'.heap.size = w.heap.size + 3) (hk : ∀ b, b < w.heap.size → w'.heap[b]? = w.heap[b]?)
 (hn : KMap sk w' w.heap.size (fun _ => none) 0) (hr : w'.heap[w.heap.size + 1]? = some (.cells #[.int .i64 0, .slice none 0 0, .slice none 0 0, .slice none 0 0, .slice none 0 0, .slice none 0 0, .slice none 0 0, .map (some w.heap.size), .map (some (w.heap.size + 1 + 1)), .slice none 0 0] 134))
 (hl : ∃ n, KMap uk w' (w.heap.size + 1 + 1) (listF (w.heap.size + 1)) n) : ∃ tag, RdW w' tag w.heap.size (w.heap.size + 1) w.heap.size (w.heap.size + 1 + 1) RG.new ∧ Ext w (fun _ => .o) w' tag := by
 refine ⟨tagAt (tagAt (tagAt (fun _ => .o) w.heap.size .nm) (w.heap.size + 1) .rd) (w.heap.size + 1 + 1) .li, ⟨hr, fun k hk => ⟨World.ownsRow_nil _ _ _ _, fun g e => by cases e⟩, ⟨World.ownsRow_nil _ _ _ _, fun g e => by cases e⟩, ⟨World.ownsRow_nil _ _ _ _, fun g e => by cases e⟩, ⟨_, _, hn, fun t => rfl⟩, hl, (fun a c hc => by cases hc), (fun a i hi => by cases hi), (fun c hc => by cases hc), ?_, ?_, ?_, fun b hb => ?_, hh.kept (hk _ h1), hs.kept (hk _ h2), h1, h2, by omega⟩, ⟨ho, ht, hp, by omega, fun b hb => ?_, fun b hb _ => hk b hb⟩⟩
 ·rw [tagAt_old _ (by omega), tagAt_new]
 ·rw [tagAt_old _ (by omega), tagAt_old _ (by omega), tagAt_new]
 ·rw [tagAt_new]
 ·unfold tagAt at hb
  split at hb
  ·omega
  ·split at hb
   ·omega
   ·split at hb
    ·omega
    ·exact absurd rfl hb
 ·rw [tagAt_old _ (by omega), tagAt_old _ (by omega), tagAt_old _ (by omega)]
theorem updF_mem {rb : Nat} {k : Int} {o : Nat} : ∀ {L : List (Int × Nat)}, (L.map Prod.fst).Nodup → (k, o) ∈ L → updF rb L k = some (.pointer (some ⟨rb, o, none⟩))
 | [], _, hm => by cases hm
 | p :: L, hn, hm => by
  simp only [List.map_cons, List.nodup_cons] at hn
  rcases List.mem_cons.1 hm with e | e
  ·subst e; exact putK_same _ _ _
  ·have hne : k ≠ p.1 := fun e' => hn.1 (List.mem_map.2 ⟨(k, o), e, e'⟩)
   exact (putK_other _ hne).trans (updF_mem hn.2 e)
theorem updF_none {rb : Nat} {k : Int} : ∀ {L : List (Int × Nat)}, (∀ p, p ∈ L → p.1 ≠ k) → updF rb L k = none
 | [], _ => rfl
 | p :: L, h => (putK_other _ (fun e => h p (by simp) e.symm)).trans (updF_none fun q hq => h q (by simp [hq]))
theorem listF_perm {rb : Nat} {L : List (Int × Nat)} (h : L.Perm [(118, 1), (102, 2), (109, 3), (116, 5)]) : updF rb L = listF rb := by
 have hn : (L.map Prod.fst).Nodup := (h.map Prod.fst).nodup_iff.2 (by decide)
 have hm : ∀ p, p ∈ L ↔ p ∈ [((118 : Int), 1), (102, 2), (109, 3), (116, 5)] := fun p => h.mem_iff
 funext k
 by_cases h1 : k = 118
 ·subst h1; rw [updF_mem hn ((hm (118, 1)).2 (by simp))]; simp [listF, offK]
 ·by_cases h2 : k = 102
  ·subst h2; rw [updF_mem hn ((hm (102, 2)).2 (by simp))]; simp [listF, offK]
  ·by_cases h3 : k = 109
   ·subst h3; rw [updF_mem hn ((hm (109, 3)).2 (by simp))]; simp [listF, offK]
   ·by_cases h4 : k = 116
    ·subst h4; rw [updF_mem hn ((hm (116, 5)).2 (by simp))]; simp [listF, offK]
    ·rw [updF_none]
     ·simp [listF, h1, h2, h3, h4]
     ·intro p hp
      have := (hm p).1 hp
      simp at this
      rcases this with rfl | rfl | rfl | rfl
      ·exact fun e => h1 e.symm
      ·exact fun e => h2 e.symm
      ·exact fun e => h3 e.symm
      ·exact fun e => h4 e.symm
set_option maxRecDepth 100000 in
set_option maxHeartbeats 2000000 in
theorem newReader_any (w : World) (hh : Heads w) (hs : Shapes w) (h1 : 0 < w.heap.size) (h2 : 2 < w.heap.size) :
 Calls Tryz.prog 43 #[] w fun en w' => en = .returned (ptrV (w.heap.size + 1)) ∧ ∃ tag, RdW w' tag w.heap.size (w.heap.size + 1) w.heap.size (w.heap.size + 1 + 1) RG.new ∧ Ext w (fun _ => .o) w' tag := by
 have hmm := @run_makeMap Tryz.prog
 obtain ⟨W0, hW0⟩ : ∃ W0, (((w.alloc (.map #[] 0)).alloc (.cells #[.int .i64 0, .slice none 0 0, .slice none 0 0, .slice none 0 0, .slice none 0 0, .slice none 0 0, .slice none 0 0, .map (some w.heap.size), .map none, .slice none 0 0] 134)).alloc (.map #[] 0)).drew = W0 := ⟨_, rfl⟩
 have hz0 : W0.heap.size = w.heap.size + 3 := by rw [← hW0]; simp
 have hK0 : KMap uk W0 (w.heap.size + 1 + 1) (fun _ => none) 0 := by
  have := KMap.made (enc := uk) ((w.alloc (.map #[] 0)).alloc (.cells #[.int .i64 0, .slice none 0 0, .slice none 0 0, .slice none 0 0, .slice none 0 0, .slice none 0 0, .slice none 0 0, .map (some w.heap.size), .map none, .slice none 0 0] 134))
  rw [World.size_alloc, World.size_alloc] at this
  rw [← hW0]; exact this
 have hok := fun L => updM_ok (rb := w.heap.size + 1) hK0 L
 have hr0 : W0.heap[w.heap.size + 1]? = some (.cells #[.int .i64 0, .slice none 0 0, .slice none 0 0, .slice none 0 0, .slice none 0 0, .slice none 0 0, .slice none 0 0, .map (some w.heap.size), .map none, .slice none 0 0] 134) := by
  have := World.alloc_heap_new (w.alloc (.map #[] 0)) (.cells #[.int .i64 0, .slice none 0 0, .slice none 0 0, .slice none 0 0, .slice none 0 0, .slice none 0 0, .slice none 0 0, .map (some w.heap.size), .map none, .slice none 0 0] 134)
  rw [World.size_alloc] at this
  rw [← hW0]
  exact (Below.heap_alloc _ _ _ (by simp)).trans this
 have hrun : ∀ L k o, (Instr.mapUpdate 131 (.map (some (w.heap.size + 1 + 1))) (.int .u8 k) (.pointer (some ⟨w.heap.size + 1, o, none⟩))).run Tryz.prog (updM (w.heap.size + 1 + 1) (w.heap.size + 1) W0 L) = .ok () (updM (w.heap.size + 1 + 1) (w.heap.size + 1) W0 ((k, o) :: L)) := fun L k o => updM_run hK0 L k o
 have hrun0 : ∀ k o, (Instr.mapUpdate 131 (.map (some (w.heap.size + 1 + 1))) (.int .u8 k) (.pointer (some ⟨w.heap.size + 1, o, none⟩))).run Tryz.prog ((((w.alloc (.map #[] 0)).alloc (.cells #[.int .i64 0, .slice none 0 0, .slice none 0 0, .slice none 0 0, .slice none 0 0, .slice none 0 0, .slice none 0 0, .map (some w.heap.size), .map none, .slice none 0 0] 134)).alloc (.map #[] 0)).drew) = .ok () (updM (w.heap.size + 1 + 1) (w.heap.size + 1) W0 [(k, o)]) := fun k o => by have e := hrun [] k o; rw [updM_nil] at e; rw [hW0]; exact e
 have hc : ∀ L, (updM (w.heap.size + 1 + 1) (w.heap.size + 1) W0 L).cell? ⟨w.heap.size + 1, 8, none⟩ = some (.map none) := fun L => by
  have := (hok L).2.2.2.2.2 (w.heap.size + 1) (by omega)
  simp [World.cell?, this, hr0]
 have hf : ∀ L, (updM (w.heap.size + 1 + 1) (w.heap.size + 1) W0 L).frozen? ⟨w.heap.size + 1, 8, none⟩ = false := fun L => by
  have := (hok L).2.2.2.2.2 (w.heap.size + 1) (by omega)
  simp [World.frozen?, this, hr0]
 have HF : Hid (∀ L : List (Int × Nat), L.Perm [(118, 1), (102, 2), (109, 3), (116, 5)] → ∃ tag, RdW ((updM (w.heap.size + 1 + 1) (w.heap.size + 1) W0 L).setCell ⟨w.heap.size + 1, 8, none⟩ (.map (some (w.heap.size + 1 + 1)))) tag w.heap.size (w.heap.size + 1) w.heap.size (w.heap.size + 1 + 1) RG.new ∧ Ext w (fun _ => .o) ((updM (w.heap.size + 1 + 1) (w.heap.size + 1) W0 L).setCell ⟨w.heap.size + 1, 8, none⟩ (.map (some (w.heap.size + 1 + 1)))) tag) := fun L hL => by
  obtain ⟨⟨n, hK⟩, hz, ho, ht, hp, hk⟩ := hok L
  have hko : ∀ x, x ≠ w.heap.size + 1 → x ≠ w.heap.size + 1 + 1 → ((updM (w.heap.size + 1 + 1) (w.heap.size + 1) W0 L).setCell ⟨w.heap.size + 1, 8, none⟩ (.map (some (w.heap.size + 1 + 1)))).heap[x]? = W0.heap[x]? := fun x hx1 hx2 => (Below.heap_setCell _ ⟨w.heap.size + 1, 8, none⟩ _ x hx1).trans (hk x hx2)
  have hold : ∀ x, x < w.heap.size + 1 → W0.heap[x]? = (w.alloc (.map #[] 0)).heap[x]? := fun x hx => by
   rw [← hW0]
   exact (Below.heap_alloc _ _ _ (by simp; omega)).trans (Below.heap_alloc _ _ _ (by simp; omega))
  refine new_reader hh hs h1 h2 (ho.trans (by rw [← hW0]; rfl)) (ht.trans (by rw [← hW0]; rfl)) (hp.trans (by rw [← hW0]; rfl)) (by simp; omega) (fun b hb => ?_) ?_ ?_ ⟨n, ?_⟩
  ·rw [hko b (by omega) (by omega), hold b (by omega)]; exact Below.heap_alloc w _ b hb
  ·exact (KMap.made (enc := sk) w).same (by rw [hko _ (by omega) (by omega), hold _ (by omega)])
  ·rw [heap_setCell_same _ _ 8 _ _ _ ((hk _ (by omega)).trans hr0)]; rfl
  ·rw [← listF_perm hL]
   exact hK.same (Below.heap_setCell _ ⟨w.heap.size + 1, 8, none⟩ _ _ (by show w.heap.size + 1 + 1 ≠ w.heap.size + 1; omega))
 replace hW0 := hide hW0
 unfold ptrV
 clear hK0 hok hr0 hz0 hh hs h1 h2
 go_enter Tryz.func43, Tryz.ntmps43
 go_wp2_with fail
 go_region
 all_goals
  go_wp2_with fail
  go_ret
  exact ⟨rfl, HF.out _ (by decide)⟩
end Go.Proofs.YtcfpedjfofpnkaaGreatDoor
