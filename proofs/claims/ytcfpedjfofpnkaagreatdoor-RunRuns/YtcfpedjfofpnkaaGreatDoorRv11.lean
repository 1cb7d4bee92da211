import Derived.Test.YtcfpedjfofpnkaaGreatDoorRv9
set_option linter.unusedVariables false
set_option linter.unusedSimpArgs false
namespace Go.Proofs.YtcfpedjfofpnkaaGreatDoor
open Go.RowKit Go.Proofs.Cod
def rFit (c : UInt8) (t : Tx) : Bool := if c = 114 then isReg t else if c = 97 ∨ c = 98 then argB t else isNam t
def rSet (P : RP) (r : RI) (c : UInt8) (t : Tx) : RI :=
 if c = 114 then { r with i := { r.i with r := (regN t : Int) } } else if c = 97 then { r with i := { r.i with aR := isReg t, aN := (argN t : Int) } } else if c = 98 then { r with i := { r.i with bR := isReg t, bN := (argN t : Int) } }
 else if c = 120 then { r with i := { r.i with x := findZ P.vs t }, word := t } else if c = 102 then { r with i := { r.i with x := findZ P.fs t }, word := t } else if c = 109 then { r with i := { r.i with x := findZ P.ls t }, word := t } else { r with word := t }
def rGo (P : RP) : RI → Int → List (UInt8 × Tx) → Option (RI × Int)
 | r, e, [] => some (r, e)
 | r, e, p :: l => if rFit p.1 p.2 then rGo P (rSet P r p.1 p.2) (if (rSet P r p.1 p.2).i.x < 0 then 5 else e) l else none
theorem rGo_cons {P : RP} {r : RI} {e : Int} {c : UInt8} {t : Tx} {l : List (UInt8 × Tx)} : rGo P r e ((c, t) :: l) = if rFit c t then rGo P (rSet P r c t) (if (rSet P r c t).i.x < 0 then 5 else e) l else none := rfl
def ri0 (f : Tx) (line : Int) : RI := ⟨newIns f, line, []⟩
def zeroRI : List Value := [.string ByteArray.empty, .int .i64 0, .bool false, .int .i64 0, .bool false, .int .i64 0, .int .i64 0, .int .i64 0, .string ByteArray.empty]
def rInstrT (P : RP) (line : Int) (f : Tx) (ts : List Tx) : Option (RI × Int) := if partsT f = none ∨ ts.length ≠ (formT f).length then none else rGo P (ri0 f line) 0 ((formT f).zip ts)
def rInstrV (o : Option (RI × Int)) : Value := match o with
 | some (r, e) => .tuple #[.agg (riC r).toArray, .int .i64 e]
 | none => .tuple #[.agg zeroRI.toArray, .int .i64 2]
theorem instr_val {w : World} {fn : Func} {tmps : Array Value} {b : Nat} {x a0 a1 a2 a3 a4 a5 a6 a7 a8 : Value} (hr : fn.results = #[.cell 6 114, .tmp 7]) (ht : tmps[6]? = some (.pointer (some ⟨b, 0, none⟩))) (h3 : tmps[7]? = some x) (hc : w.heap[b]? = some (.cells #[a0, a1, a2, a3, a4, a5, a6, a7, a8] 114)) : (results fn tmps).run Tryz.prog w = .ok (.tuple #[.agg #[a0, a1, a2, a3, a4, a5, a6, a7, a8], x]) w := by
 have c0 : w.cell? ⟨b, 0, none⟩ = some a0 := by simp [World.cell?, hc]
 have c1 : w.cell? ⟨b, 1, none⟩ = some a1 := by simp [World.cell?, hc]
 have c2 : w.cell? ⟨b, 2, none⟩ = some a2 := by simp [World.cell?, hc]
 have c3 : w.cell? ⟨b, 3, none⟩ = some a3 := by simp [World.cell?, hc]
 have c4 : w.cell? ⟨b, 4, none⟩ = some a4 := by simp [World.cell?, hc]
 have c5 : w.cell? ⟨b, 5, none⟩ = some a5 := by simp [World.cell?, hc]
 have c6 : w.cell? ⟨b, 6, none⟩ = some a6 := by simp [World.cell?, hc]
 have c7 : w.cell? ⟨b, 7, none⟩ = some a7 := by simp [World.cell?, hc]
 have c8 : w.cell? ⟨b, 8, none⟩ = some a8 := by simp [World.cell?, hc]
 simp [results, hr, ht, h3, go_sem, c0, c1, c2, c3, c4, c5, c6, c7, c8]
structure InsB (w : World) (b : Nat) (r : RI) : Prop where
 c : w.heap[b]? = some (.cells (riC r).toArray 114)
theorem InsB.cells {w : World} {b : Nat} {r : RI} (h : InsB w b r) : w.cell? ⟨b, 0, none⟩ = some (.string (bs r.i.op)) ∧ w.cell? ⟨b, 1, none⟩ = some (.int .i64 r.i.r) ∧ w.cell? ⟨b, 2, none⟩ = some (.bool r.i.aR) ∧ w.cell? ⟨b, 3, none⟩ = some (.int .i64 r.i.aN) ∧ w.cell? ⟨b, 4, none⟩ = some (.bool r.i.bR) ∧ w.cell? ⟨b, 5, none⟩ = some (.int .i64 r.i.bN) ∧ w.cell? ⟨b, 6, none⟩ = some (.int .i64 r.i.x) ∧ w.cell? ⟨b, 7, none⟩ = some (.int .i64 r.line) ∧ w.cell? ⟨b, 8, none⟩ = some (.string (bs r.word)) := by
 simp [World.cell?, h.c, riC]
theorem InsB.fz {w : World} {b : Nat} {r : RI} (h : InsB w b r) (i : Nat) : w.frozen? ⟨b, i, none⟩ = false := by simp [World.frozen?, h.c]
structure InsK (w : World) (wr : World) (r : RI) : Prop where
 low : Below w.heap.size w wr
 z : wr.heap[w.heap.size]? = some (.cells zeroRI.toArray 114)
 x : InsB wr (w.heap.size + 1) r
theorem InsK.set {w wr wr' : World} {r r' : RI} (h : InsK w wr r) (hx : InsB wr' (w.heap.size + 1) r') (ho : ∀ b, b < wr.heap.size → b ≠ w.heap.size + 1 → wr'.heap[b]? = wr.heap[b]?) (hs : wr.heap.size ≤ wr'.heap.size) (h1 : wr'.os = wr.os) (h2 : wr'.tape = wr.tape) (h3 : wr'.output = wr.output) : InsK w wr' r' := by
 have hl := h.low.size
 have hz : w.heap.size < wr.heap.size := (Array.getElem?_eq_some_iff.1 h.z).1
 exact ⟨⟨h1.trans h.low.os, h2.trans h.low.tape, h3.trans h.low.output, by omega, fun b hb => (ho b (by omega) (by omega)).trans (h.low.block b hb)⟩, (ho _ hz (by omega)).trans h.z, hx⟩
theorem InsK.below {w wr wr' : World} {r : RI} (h : InsK w wr r) (hb : Below wr.heap.size wr wr') : InsK w wr' r := by
 have hxl : w.heap.size + 1 < wr.heap.size := (Array.getElem?_eq_some_iff.1 h.x.c).1
 exact h.set ⟨(hb.block _ hxl).trans h.x.c⟩ (fun b hl _ => hb.block b hl) hb.size hb.os hb.tape hb.output
theorem nine {v : World} {b : Nat} {T : TypeId} {c0 c1 c2 c3 c4 c5 c6 c7 c8 : Value} (a0 a1 a2 a3 a4 a5 a6 a7 a8 : Value) (h : v.heap[b]? = some (.cells #[c0, c1, c2, c3, c4, c5, c6, c7, c8] T)) :
 (((((((((v.setCell ⟨b, 0, none⟩ a0).setCell ⟨b, 1, none⟩ a1).setCell ⟨b, 2, none⟩ a2).setCell ⟨b, 3, none⟩ a3).setCell ⟨b, 4, none⟩ a4).setCell ⟨b, 5, none⟩ a5).setCell ⟨b, 6, none⟩ a6).setCell ⟨b, 7, none⟩ a7).setCell ⟨b, 8, none⟩ a8).heap[b]? = some (.cells #[a0, a1, a2, a3, a4, a5, a6, a7, a8] T) := by
 have h0 := (heap_setCell_same _ b 0 _ _ a0 h).trans (show _ = some (.cells #[a0, c1, c2, c3, c4, c5, c6, c7, c8] T) from rfl)
 have h1 := (heap_setCell_same _ b 1 _ _ a1 h0).trans (show _ = some (.cells #[a0, a1, c2, c3, c4, c5, c6, c7, c8] T) from rfl)
 have h2 := (heap_setCell_same _ b 2 _ _ a2 h1).trans (show _ = some (.cells #[a0, a1, a2, c3, c4, c5, c6, c7, c8] T) from rfl)
 have h3 := (heap_setCell_same _ b 3 _ _ a3 h2).trans (show _ = some (.cells #[a0, a1, a2, a3, c4, c5, c6, c7, c8] T) from rfl)
 have h4 := (heap_setCell_same _ b 4 _ _ a4 h3).trans (show _ = some (.cells #[a0, a1, a2, a3, a4, c5, c6, c7, c8] T) from rfl)
 have h5 := (heap_setCell_same _ b 5 _ _ a5 h4).trans (show _ = some (.cells #[a0, a1, a2, a3, a4, a5, c6, c7, c8] T) from rfl)
 have h6 := (heap_setCell_same _ b 6 _ _ a6 h5).trans (show _ = some (.cells #[a0, a1, a2, a3, a4, a5, a6, c7, c8] T) from rfl)
 have h7 := (heap_setCell_same _ b 7 _ _ a7 h6).trans (show _ = some (.cells #[a0, a1, a2, a3, a4, a5, a6, a7, c8] T) from rfl)
 have h8 := (heap_setCell_same _ b 8 _ _ a8 h7).trans (show _ = some (.cells #[a0, a1, a2, a3, a4, a5, a6, a7, a8] T) from rfl)
 exact h8
theorem below_nine {B : Nat} {u v : World} {b : Nat} (a0 a1 a2 a3 a4 a5 a6 a7 a8 : Value) (h : Below B u v) (hb : B ≤ b) :
 Below B u (((((((((v.setCell ⟨b, 0, none⟩ a0).setCell ⟨b, 1, none⟩ a1).setCell ⟨b, 2, none⟩ a2).setCell ⟨b, 3, none⟩ a3).setCell ⟨b, 4, none⟩ a4).setCell ⟨b, 5, none⟩ a5).setCell ⟨b, 6, none⟩ a6).setCell ⟨b, 7, none⟩ a7).setCell ⟨b, 8, none⟩ a8) :=
 ((((((((h.setCell hb _).setCell hb _).setCell hb _).setCell hb _).setCell hb _).setCell hb _).setCell hb _).setCell hb _).setCell hb _
theorem InsK.zcells {w wr : World} {r : RI} (h : InsK w wr r) : wr.cell? ⟨w.heap.size, 0, none⟩ = some (.string ByteArray.empty) ∧ wr.cell? ⟨w.heap.size, 1, none⟩ = some (.int .i64 0) ∧ wr.cell? ⟨w.heap.size, 2, none⟩ = some (.bool false) ∧ wr.cell? ⟨w.heap.size, 3, none⟩ = some (.int .i64 0) ∧ wr.cell? ⟨w.heap.size, 4, none⟩ = some (.bool false) ∧ wr.cell? ⟨w.heap.size, 5, none⟩ = some (.int .i64 0) ∧ wr.cell? ⟨w.heap.size, 6, none⟩ = some (.int .i64 0) ∧ wr.cell? ⟨w.heap.size, 7, none⟩ = some (.int .i64 0) ∧ wr.cell? ⟨w.heap.size, 8, none⟩ = some (.string ByteArray.empty) := by
 simp [World.cell?, h.z, zeroRI]
theorem InsK.zfz {w wr : World} {r : RI} (h : InsK w wr r) (i : Nat) : wr.frozen? ⟨w.heap.size, i, none⟩ = false := by simp [World.frozen?, h.z]
theorem InsK.wr {w wr : World} {r r' : RI} {k : Nat} {v : Value} (h : InsK w wr r) (hx : (.cells ((riC r).toArray.set! k v) 114 : Obj) = .cells (riC r').toArray 114) : InsK w (wr.setCell ⟨w.heap.size + 1, k, none⟩ v) r' :=
 h.set ⟨(heap_setCell_same _ _ k _ _ _ h.x.c).trans (congrArg some hx)⟩ (fun b' _ hb => heap_setCell_other _ _ _ _ hb) (by simp) rfl rfl rfl
theorem argV_form (t : Tx) : ∃ a n, argV t = .agg #[.bool a, .int .i64 n] ∧ (argB t = true → a = isReg t ∧ n = (argN t : Int)) := by
 unfold argV
 cases h : argB t with
 | true => exact ⟨_, _, rfl, fun _ => ⟨rfl, rfl⟩⟩
 | false => exact ⟨false, 0, rfl, fun e => by cases e⟩
theorem getD_tail (f : Tx) (ts : List Tx) (i : Nat) : (f :: ts).getD (i + 1) [] = ts.getD i [] := by simp
theorem u8_ne {c : UInt8} {n : Nat} (h : c ≠ UInt8.ofNat n) (hn : n < 256) : ((c.toNat : Int) == (n : Int)) = false := by
 rw [beq_eq_false_iff_ne]
 intro e
 apply h
 have : c.toNat = n := by omega
 exact UInt8.toNat_inj.1 (by rw [this]; simp; omega)
set_option maxRecDepth 100000 in
set_option maxHeartbeats 2000000 in
theorem rInstr_any {w : World} {tag : Nat → RT} {base pb : Nat} {P : RP} {U : RV} (h : RfW w tag base pb P U) (b off n cap : Nat) (f : Tx) (ts : List Tx) (hn : ts.length + 1 = n) (hs : Ws w (some ⟨b, off, none⟩) (f :: ts)) (hnb : n < 4000) (hl : ∀ k, (P.get k).length < 1000) (line : Int) :
 Calls Tryz.prog 87 #[ptrV pb, .slice (some ⟨b, off, none⟩) n cap, .int .i64 line] w fun e w' => e = .returned (rInstrV (rInstrT P line f ts)) ∧ Below w.heap.size w w' := by
 have hfm := fun u => rForm_any f u
 have hzf := bs_size (formT f)
 have cf : w.cell? ⟨b, off, none⟩ = some (.string (bs f)) := by
  obtain ⟨b', o', e1, e2, e3⟩ := hs 0 (by simp)
  cases e1; exact e3
 have hbl : b < w.heap.size := by
  obtain ⟨b', o', e1, e2, e3⟩ := hs 0 (by simp)
  cases e1; exact e2
 have hn0 : (0 : Int) < (n : Int) := by omega
 have HB : Hid (∀ x, Below w.heap.size w (w.alloc x)) := fun x => (Below.refl _ _).alloc (Nat.le_refl _) _
 obtain ⟨w1, hw1⟩ : ∃ w1, w.alloc (.cells zeroRI.toArray 114) = w1 := ⟨_, rfl⟩
 have hk1 : w1.heap[w.heap.size]? = some (.cells zeroRI.toArray 114) := by rw [← hw1]; exact World.alloc_heap_new w _
 by_cases hq : partsT f = none
 ·have hf : formT f = [63] := by unfold formT; rw [hq]
  have hv : Hid (rInstrT P line f ts = none) := by unfold Hid rInstrT; rw [if_pos (.inl hq)]
  have hcmp : ((bs (formT f)).toList == [63]) = true := by rw [bs_toList, hf]; rfl
  unfold ptrV
  clear h hs hf
  generalize formT f = fm at hfm hzf hcmp
  go_enter Tryz.func87, Tryz.ntmps87
  go_wp2_with fail
  refine (hfm _).mono ?_
  rintro e w2 ⟨rfl, rfl⟩
  go_wp2_with fail
  refine bodyPost_ret (instr_val rfl rfl rfl (World.alloc_heap_new w _)) rfl ⟨by rw [hv.out]; rfl, HB.out _⟩
 ·have hcmp : ((bs (formT f)).toList == [63]) = false := by
   rw [bs_toList]
   rcases parts_cases f with ⟨p, hp, ht, hs'⟩ | ⟨hn', _⟩
   ·have hf : formT f = p.2.map letX := by unfold formT; rw [hs']
    rw [hf]
    have : ∀ q, q ∈ shapeT → (q.2.map letX == [63]) = false := by decide
    exact this p hp
   ·exact absurd hn' hq
  by_cases hlen : ts.length = (formT f).length
  ·have hz : (bs (formT f)).size = ts.length := by omega
   have hne2 : ((n : Int) != (ts.length : Int) + 1) = false := by simp; omega
   have hwr : wrap64 ((ts.length : Int) + 1) = (ts.length : Int) + 1 := IntWalk.wrap64_in _ (by omega)
   have hv : Hid (rInstrT P line f ts = rGo P (ri0 f line) 0 ((formT f).zip ts)) := by unfold Hid rInstrT; rw [if_neg (by simp [hq, hlen])]
   have hK0 : Hid (InsK w ((w.alloc (.cells zeroRI.toArray 114)).alloc (.cells (riC (ri0 f line)).toArray 114)) (ri0 f line)) := by
    refine ⟨((Below.refl _ _).alloc (Nat.le_refl _) _).alloc (by simp) _, ?_, ⟨?_⟩⟩
    ·exact (Below.heap_alloc _ _ _ (by simp)).trans (World.alloc_heap_new w _)
    ·have := World.alloc_heap_new (w.alloc (.cells zeroRI.toArray 114)) (.cells (riC (ri0 f line)).toArray 114)
     rw [World.size_alloc] at this; exact this
   have hgf : ∀ i, (h : i < (bs (formT f)).size) → (bs (formT f))[i]'h = (formT f)[i]'(by rw [bs_size] at h; exact h) := fun i h => bs_get _ i h
   replace hgf := hide hgf
   obtain ⟨a0, d0', r0, s0⟩ := row_ws (h.rows 118 (by simp [isN]))
   obtain ⟨a1, d1', r1, s1⟩ := row_ws (h.rows 102 (by simp [isN]))
   obtain ⟨a2, d2', r2, s2⟩ := row_ws (h.rows 109 (by simp [isN]))
   have hpl : Hid (pb < w.heap.size) := h.lt h.tp (by simp)
   have hrowsP : Hid (w.heap[pb]? = some (.cells #[.slice a0 P.vs.length d0', .slice a1 P.fs.length d1', .slice a2 P.ls.length d2', U.tV] 29) ∧ Ws w a0 P.vs ∧ Ws w a1 P.fs ∧ Ws w a2 P.ls) := ⟨by have e := h.cell; rw [r0, r1, r2] at e; exact e, s0, s1, s2⟩
   clear r0 r1 r2 s0 s1 s2
   have H := hide h
   have hsO := hide hs
   have hlenO := hide hlen
   replace hn := hide hn
   unfold ptrV
   clear h hs hzf hlen hw1 hk1
   generalize hfe : formT f = fm at hfm hcmp hz hv hgf hlenO
   go_enter Tryz.func87, Tryz.ntmps87
   go_wp2_with fail
   refine (hfm _).mono ?_
   rintro e w2 ⟨rfl, rfl⟩
   go_wp2_with fail
   go_loopw [10, 11] (fun ev iv wr => ∃ (i : Nat) (r : RI) (e : Int), i ≤ ts.length ∧ iv = .int .i64 i ∧ ev = .int .i64 e ∧ rGo P (ri0 f line) 0 (fm.zip ts) = rGo P r e ((fm.zip ts).drop i) ∧ InsK w wr r) (fun _ iv _ => ts.length - (intOf iv).toNat)
   case atStart => exact ⟨0, ri0 f line, 0, Nat.zero_le _, rfl, rfl, by simp, hK0.out⟩
   case round =>
    clear hK0 cf hfm hwr hne2
    obtain ⟨i, r, e, hi, rfl, rfl, hgo, hK⟩ := hrel
    by_cases h5 : i < ts.length
    ·have hlt : (i : Int) < (ts.length : Int) := by omega
     have hip : i < fm.length := by have := hlenO.out; omega
     have hg := hgf.out i (by omega)
     have hdrop : (fm.zip ts).drop i = (fm[i], ts.getD i []) :: (fm.zip ts).drop (i + 1) := by
      have hl' : i < (fm.zip ts).length := by rw [List.length_zip]; omega
      rw [List.drop_eq_getElem_cons hl', List.getElem_zip, List.getD_eq_getElem?_getD, List.getElem?_eq_getElem h5]; rfl
     rw [hdrop, rGo_cons] at hgo
     have hwl := hK.low.size
     have ct : wr.cell? ⟨b, off + (i + 1), none⟩ = some (.string (bs (ts.getD i []))) := by
      obtain ⟨b', o', e1, e2, e3⟩ := (hsO.out.below hK.low) (i + 1) (by simp; omega)
      cases e1
      rw [getD_tail] at e3; exact e3
     have hwi : wrap64 ((i : Int) + 1) = (i : Int) + 1 := IntWalk.wrap64_in _ (by have := hn.out; omega)
     have hi0 : (0 : Int) ≤ (i : Int) + 1 := by omega
     have hin : (i : Int) + 1 < (n : Int) := by have := hn.out; omega
     generalize hce : fm[i] = c at hg hgo
     generalize hte : ts.getD i [] = t at ct hgo
     replace hce := hide hce
     replace hte := hide hte
     replace hdrop := hide hdrop
     have hA := fun u => rArg_any t u
     obtain ⟨aR, aN, hav, hav2⟩ := argV_form t
     rw [hav] at hA
     have hRz := fun u => rReg_any t u
     rw [regZ_is] at hRz
     replace hav2 := hide hav2
     have HE := hide (⟨hgo, hK⟩ : _ ∧ _)
     clear hgo hK hav
     go_wp2_with fail
     refine (rIsName_any t _).mono ?_
     rintro e' w3 ⟨rfl, rfl⟩
     go_wp2_with fail
     refine (hA _).mono ?_
     rintro e' w4 ⟨rfl, hb4⟩
     obtain ⟨W5, hW5⟩ : ∃ W5, w4.alloc (.cells #[.bool aR, .int .i64 aN] 112) = W5 := ⟨_, rfl⟩
     have hb5 : Below w3.heap.size w3 W5 := by rw [← hW5]; exact hb4.alloc hb4.size _
     have hK5 := HE.out.2.below hb5
     have hk4 : W5.heap[w4.heap.size]? = some (.cells #[.bool aR, .int .i64 aN] 112) := by rw [← hW5]; exact World.alloc_heap_new w4 _
     have d0 : W5.cell? ⟨w4.heap.size, 0, none⟩ = some (.bool aR) := by simp [World.cell?, hk4]
     have d1 : W5.cell? ⟨w4.heap.size, 1, none⟩ = some (.int .i64 aN) := by simp [World.cell?, hk4]
     obtain ⟨x0, x1, x2, x3, x4, x5, x6, x7, x8⟩ := hK5.x.cells
     have fz := hK5.x.fz
     have HK5 := hide hK5
     replace hW5 := hide hW5
     clear hK5 hk4 hb4 hb5
     go_wp2_with fail
     rw [hW5.out]
     refine (hRz _).mono ?_
     rintro e' w6 ⟨rfl, rfl⟩
     by_cases c1 : c = 114
     ·subst c1
      have hc8 : (((114 : UInt8).toNat : Int) == 114) = true := rfl
      cases hr : isReg t with
      | true =>
       have hge : (0 : Int) ≤ (regN t : Int) := by omega
       simp only [if_true]
       by_cases hx : r.i.x < 0
       ·go_wp2_with fail
        go_roundw
        case rel =>
         refine ⟨i + 1, rSet P r 114 t, 5, by omega, by go_num, rfl, ?_, ?_⟩
         ·rw [HE.out.1, if_pos (by simp [rFit, hr]), if_pos (by simpa [rSet] using hx)]
         ·exact HK5.out.wr (by simp [rSet, riC])
        case measure => simp [intOf]; omega
       ·go_wp2_with fail
        go_roundw
        case rel =>
         refine ⟨i + 1, rSet P r 114 t, e, by omega, by go_num, rfl, ?_, ?_⟩
         ·rw [HE.out.1, if_pos (by simp [rFit, hr]), if_neg (by simpa [rSet] using hx)]
         ·exact HK5.out.wr (by simp [rSet, riC])
        case measure => simp [intOf]; omega
      | false =>
       simp only [Bool.false_eq_true, if_false]
       obtain ⟨z0, z1, z2, z3, z4, z5, z6, z7, z8⟩ := HK5.out.zcells
       have zf := HK5.out.zfz
       go_wp2_with fail
       have hK7 := (HK5.out.wr (k := 1) (v := .int .i64 0) (r' := { r with i := { r.i with r := 0 } }) (by simp [riC]))
       refine bodyPost_ret (instr_val rfl rfl rfl (nine _ _ _ _ _ _ _ _ _ hK7.z)) rfl ⟨?_, below_nine _ _ _ _ _ _ _ _ _ hK7.low (Nat.le_refl _)⟩
       rw [hv.out, HE.out.1, if_neg (by simp [rFit, hr])]; rfl
     ·have n114 : ((c.toNat : Int) == 114) = false := u8_ne (n := 114) c1 (by omega)
      generalize (if isReg t = true then (regN t : Int) else -1) = rz
      by_cases c97 : c = 97
      ·subst c97
       cases hb : argB t with
       | true =>
        by_cases hx : r.i.x < 0
        ·go_wp2_with fail
         go_roundw
         case rel =>
          refine ⟨i + 1, rSet P r 97 t, 5, by omega, by go_num, rfl, ?_, ?_⟩
          ·rw [HE.out.1, if_pos (by simp [rFit, hb]), if_pos (by simpa [rSet] using hx)]
          ·have hK7 := ((HK5.out.wr (k := 2) (v := .bool aR) (r' := { r with i := { r.i with aR := aR } }) (by simp [riC])).wr (k := 3) (v := .int .i64 aN) (r' := { r with i := { r.i with aR := aR, aN := aN } }) (by simp [riC]))
           rw [(hav2.out hb).1, (hav2.out hb).2] at hK7 ⊢
           have e7 : rSet P r 97 t = { r with i := { r.i with aR := isReg t, aN := (argN t : Int) } } := by simp [rSet]
           rw [e7]; exact hK7
         case measure => simp [intOf]; omega
        ·go_wp2_with fail
         go_roundw
         case rel =>
          refine ⟨i + 1, rSet P r 97 t, e, by omega, by go_num, rfl, ?_, ?_⟩
          ·rw [HE.out.1, if_pos (by simp [rFit, hb]), if_neg (by simpa [rSet] using hx)]
          ·have hK7 := ((HK5.out.wr (k := 2) (v := .bool aR) (r' := { r with i := { r.i with aR := aR } }) (by simp [riC])).wr (k := 3) (v := .int .i64 aN) (r' := { r with i := { r.i with aR := aR, aN := aN } }) (by simp [riC]))
           rw [(hav2.out hb).1, (hav2.out hb).2] at hK7 ⊢
           have e7 : rSet P r 97 t = { r with i := { r.i with aR := isReg t, aN := (argN t : Int) } } := by simp [rSet]
           rw [e7]; exact hK7
         case measure => simp [intOf]; omega
       | false =>
        obtain ⟨z0, z1, z2, z3, z4, z5, z6, z7, z8⟩ := HK5.out.zcells
        have zf := HK5.out.zfz
        go_wp2_with fail
        have hK7 := ((HK5.out.wr (k := 2) (v := .bool aR) (r' := { r with i := { r.i with aR := aR } }) (by simp [riC])).wr (k := 3) (v := .int .i64 aN) (r' := { r with i := { r.i with aR := aR, aN := aN } }) (by simp [riC]))
        refine bodyPost_ret (instr_val rfl rfl rfl (nine _ _ _ _ _ _ _ _ _ hK7.z)) rfl ⟨?_, below_nine _ _ _ _ _ _ _ _ _ hK7.low (Nat.le_refl _)⟩
        rw [hv.out, HE.out.1, if_neg (by simp [rFit, hb])]; rfl
      ·have n97 : ((c.toNat : Int) == 97) = false := u8_ne (n := 97) c97 (by omega)
       by_cases c98 : c = 98
       ·subst c98
        cases hb : argB t with
        | true =>
         by_cases hx : r.i.x < 0
         ·go_wp2_with fail
          go_roundw
          case rel =>
           refine ⟨i + 1, rSet P r 98 t, 5, by omega, by go_num, rfl, ?_, ?_⟩
           ·rw [HE.out.1, if_pos (by simp [rFit, hb]), if_pos (by simpa [rSet] using hx)]
           ·have hK7 := ((HK5.out.wr (k := 4) (v := .bool aR) (r' := { r with i := { r.i with bR := aR } }) (by simp [riC])).wr (k := 5) (v := .int .i64 aN) (r' := { r with i := { r.i with bR := aR, bN := aN } }) (by simp [riC]))
            rw [(hav2.out hb).1, (hav2.out hb).2] at hK7 ⊢
            have e7 : rSet P r 98 t = { r with i := { r.i with bR := isReg t, bN := (argN t : Int) } } := by simp [rSet]
            rw [e7]; exact hK7
          case measure => simp [intOf]; omega
         ·go_wp2_with fail
          go_roundw
          case rel =>
           refine ⟨i + 1, rSet P r 98 t, e, by omega, by go_num, rfl, ?_, ?_⟩
           ·rw [HE.out.1, if_pos (by simp [rFit, hb]), if_neg (by simpa [rSet] using hx)]
           ·have hK7 := ((HK5.out.wr (k := 4) (v := .bool aR) (r' := { r with i := { r.i with bR := aR } }) (by simp [riC])).wr (k := 5) (v := .int .i64 aN) (r' := { r with i := { r.i with bR := aR, bN := aN } }) (by simp [riC]))
            rw [(hav2.out hb).1, (hav2.out hb).2] at hK7 ⊢
            have e7 : rSet P r 98 t = { r with i := { r.i with bR := isReg t, bN := (argN t : Int) } } := by simp [rSet]
            rw [e7]; exact hK7
          case measure => simp [intOf]; omega
        | false =>
         obtain ⟨z0, z1, z2, z3, z4, z5, z6, z7, z8⟩ := HK5.out.zcells
         have zf := HK5.out.zfz
         go_wp2_with fail
         have hK7 := ((HK5.out.wr (k := 4) (v := .bool aR) (r' := { r with i := { r.i with bR := aR } }) (by simp [riC])).wr (k := 5) (v := .int .i64 aN) (r' := { r with i := { r.i with bR := aR, bN := aN } }) (by simp [riC]))
         refine bodyPost_ret (instr_val rfl rfl rfl (nine _ _ _ _ _ _ _ _ _ hK7.z)) rfl ⟨?_, below_nine _ _ _ _ _ _ _ _ _ hK7.low (Nat.le_refl _)⟩
         rw [hv.out, HE.out.1, if_neg (by simp [rFit, hb])]; rfl
       ·have n98 : ((c.toNat : Int) == 98) = false := u8_ne (n := 98) c98 (by omega)
        cases hnm : isNam t with
        | false =>
         obtain ⟨z0, z1, z2, z3, z4, z5, z6, z7, z8⟩ := HK5.out.zcells
         have zf := HK5.out.zfz
         go_wp2_with fail
         have hK7 := (HK5.out.wr (k := 8) (v := .string (bs t)) (r' := { r with word := t }) (by simp [riC]))
         refine bodyPost_ret (instr_val rfl rfl rfl (nine _ _ _ _ _ _ _ _ _ hK7.z)) rfl ⟨?_, below_nine _ _ _ _ _ _ _ _ _ hK7.low (Nat.le_refl _)⟩
         rw [hv.out, HE.out.1, if_neg (by simp [rFit, c1, c97, c98, hnm])]; rfl
        | true =>
         by_cases c120 : c = 120
         ·subst c120
          have hb7 := (HK5.out.wr (k := 8) (v := .string (bs t)) (r' := { r with word := t }) (by simp [riC])).low
          have q0 : (w6.setCell ⟨w.heap.size + 1, 8, none⟩ (.string (bs t))).cell? ⟨pb, 0, none⟩ = some (.slice a0 P.vs.length d0') := by
           unfold World.cell?
           rw [hb7.block pb hpl.out, hrowsP.out.1]; rfl
          have hF := rFind_any a0 P.vs.length d0' P.vs t (w6.setCell ⟨w.heap.size + 1, 8, none⟩ (.string (bs t))) rfl (hrowsP.out.2.1.below hb7) (by have := hl 118; change P.vs.length < 1000 at this; omega)
          clear hb7
          go_wp2_with fail
          refine hF.mono ?_
          rintro e' w8 ⟨rfl, rfl⟩
          by_cases hx : findZ P.vs t < 0
          ·go_wp2_with fail
           go_roundw
           case rel =>
            refine ⟨i + 1, rSet P r 120 t, 5, by omega, by go_num, rfl, ?_, ?_⟩
            ·rw [HE.out.1, if_pos (by simp [rFit, hnm]), if_pos (by simpa [rSet] using hx)]
            ·have e7 : rSet P r 120 t = { r with i := { r.i with x := findZ P.vs t }, word := t } := by simp [rSet]
             rw [e7]; exact ((HK5.out.wr (k := 8) (v := .string (bs t)) (r' := { r with word := t }) (by simp [riC])).wr (k := 6) (v := .int .i64 (findZ P.vs t)) (r' := { r with i := { r.i with x := findZ P.vs t }, word := t }) (by simp [riC]))
           case measure => simp [intOf]; omega
          ·go_wp2_with fail
           go_roundw
           case rel =>
            refine ⟨i + 1, rSet P r 120 t, e, by omega, by go_num, rfl, ?_, ?_⟩
            ·rw [HE.out.1, if_pos (by simp [rFit, hnm]), if_neg (by simpa [rSet] using hx)]
            ·have e7 : rSet P r 120 t = { r with i := { r.i with x := findZ P.vs t }, word := t } := by simp [rSet]
             rw [e7]; exact ((HK5.out.wr (k := 8) (v := .string (bs t)) (r' := { r with word := t }) (by simp [riC])).wr (k := 6) (v := .int .i64 (findZ P.vs t)) (r' := { r with i := { r.i with x := findZ P.vs t }, word := t }) (by simp [riC]))
           case measure => simp [intOf]; omega
         ·have n120 : ((c.toNat : Int) == 120) = false := u8_ne (n := 120) c120 (by omega)
          by_cases c102 : c = 102
          ·subst c102
           have hb7 := (HK5.out.wr (k := 8) (v := .string (bs t)) (r' := { r with word := t }) (by simp [riC])).low
           have q0 : (w6.setCell ⟨w.heap.size + 1, 8, none⟩ (.string (bs t))).cell? ⟨pb, 1, none⟩ = some (.slice a1 P.fs.length d1') := by
            unfold World.cell?
            rw [hb7.block pb hpl.out, hrowsP.out.1]; rfl
           have hF := rFind_any a1 P.fs.length d1' P.fs t (w6.setCell ⟨w.heap.size + 1, 8, none⟩ (.string (bs t))) rfl (hrowsP.out.2.2.1.below hb7) (by have := hl 102; change P.fs.length < 1000 at this; omega)
           clear hb7
           go_wp2_with fail
           refine hF.mono ?_
           rintro e' w8 ⟨rfl, rfl⟩
           by_cases hx : findZ P.fs t < 0
           ·go_wp2_with fail
            go_roundw
            case rel =>
             refine ⟨i + 1, rSet P r 102 t, 5, by omega, by go_num, rfl, ?_, ?_⟩
             ·rw [HE.out.1, if_pos (by simp [rFit, hnm]), if_pos (by simpa [rSet] using hx)]
             ·have e7 : rSet P r 102 t = { r with i := { r.i with x := findZ P.fs t }, word := t } := by simp [rSet]
              rw [e7]; exact ((HK5.out.wr (k := 8) (v := .string (bs t)) (r' := { r with word := t }) (by simp [riC])).wr (k := 6) (v := .int .i64 (findZ P.fs t)) (r' := { r with i := { r.i with x := findZ P.fs t }, word := t }) (by simp [riC]))
            case measure => simp [intOf]; omega
           ·go_wp2_with fail
            go_roundw
            case rel =>
             refine ⟨i + 1, rSet P r 102 t, e, by omega, by go_num, rfl, ?_, ?_⟩
             ·rw [HE.out.1, if_pos (by simp [rFit, hnm]), if_neg (by simpa [rSet] using hx)]
             ·have e7 : rSet P r 102 t = { r with i := { r.i with x := findZ P.fs t }, word := t } := by simp [rSet]
              rw [e7]; exact ((HK5.out.wr (k := 8) (v := .string (bs t)) (r' := { r with word := t }) (by simp [riC])).wr (k := 6) (v := .int .i64 (findZ P.fs t)) (r' := { r with i := { r.i with x := findZ P.fs t }, word := t }) (by simp [riC]))
            case measure => simp [intOf]; omega
          ·have n102 : ((c.toNat : Int) == 102) = false := u8_ne (n := 102) c102 (by omega)
           by_cases c109 : c = 109
           ·subst c109
            have hb7 := (HK5.out.wr (k := 8) (v := .string (bs t)) (r' := { r with word := t }) (by simp [riC])).low
            have q0 : (w6.setCell ⟨w.heap.size + 1, 8, none⟩ (.string (bs t))).cell? ⟨pb, 2, none⟩ = some (.slice a2 P.ls.length d2') := by
             unfold World.cell?
             rw [hb7.block pb hpl.out, hrowsP.out.1]; rfl
            have hF := rFind_any a2 P.ls.length d2' P.ls t (w6.setCell ⟨w.heap.size + 1, 8, none⟩ (.string (bs t))) rfl (hrowsP.out.2.2.2.below hb7) (by have := hl 109; change P.ls.length < 1000 at this; omega)
            clear hb7
            go_wp2_with fail
            refine hF.mono ?_
            rintro e' w8 ⟨rfl, rfl⟩
            by_cases hx : findZ P.ls t < 0
            ·go_wp2_with fail
             go_roundw
             case rel =>
              refine ⟨i + 1, rSet P r 109 t, 5, by omega, by go_num, rfl, ?_, ?_⟩
              ·rw [HE.out.1, if_pos (by simp [rFit, hnm]), if_pos (by simpa [rSet] using hx)]
              ·have e7 : rSet P r 109 t = { r with i := { r.i with x := findZ P.ls t }, word := t } := by simp [rSet]
               rw [e7]; exact ((HK5.out.wr (k := 8) (v := .string (bs t)) (r' := { r with word := t }) (by simp [riC])).wr (k := 6) (v := .int .i64 (findZ P.ls t)) (r' := { r with i := { r.i with x := findZ P.ls t }, word := t }) (by simp [riC]))
             case measure => simp [intOf]; omega
            ·go_wp2_with fail
             go_roundw
             case rel =>
              refine ⟨i + 1, rSet P r 109 t, e, by omega, by go_num, rfl, ?_, ?_⟩
              ·rw [HE.out.1, if_pos (by simp [rFit, hnm]), if_neg (by simpa [rSet] using hx)]
              ·have e7 : rSet P r 109 t = { r with i := { r.i with x := findZ P.ls t }, word := t } := by simp [rSet]
               rw [e7]; exact ((HK5.out.wr (k := 8) (v := .string (bs t)) (r' := { r with word := t }) (by simp [riC])).wr (k := 6) (v := .int .i64 (findZ P.ls t)) (r' := { r with i := { r.i with x := findZ P.ls t }, word := t }) (by simp [riC]))
             case measure => simp [intOf]; omega
           ·have n109 : ((c.toNat : Int) == 109) = false := u8_ne (n := 109) c109 (by omega)
            have e6 : (rSet P r c t).i.x = r.i.x := by simp [rSet, c1, c97, c98, c120, c102, c109]
            replace e6 := hide e6
            by_cases hx : r.i.x < 0
            ·go_wp2_with fail
             go_roundw
             case rel =>
              refine ⟨i + 1, rSet P r c t, 5, by omega, by go_num, rfl, ?_, ?_⟩
              ·rw [HE.out.1, if_pos (by simp [rFit, c1, c97, c98, hnm]), if_pos (by rw [e6.out]; exact hx)]
              ·have e7 : rSet P r c t = { r with word := t } := by simp [rSet, c1, c97, c98, c120, c102, c109]
               rw [e7]; exact (HK5.out.wr (k := 8) (v := .string (bs t)) (r' := { r with word := t }) (by simp [riC]))
             case measure => simp [intOf]; omega
            ·go_wp2_with fail
             go_roundw
             case rel =>
              refine ⟨i + 1, rSet P r c t, e, by omega, by go_num, rfl, ?_, ?_⟩
              ·rw [HE.out.1, if_pos (by simp [rFit, c1, c97, c98, hnm]), if_neg (by rw [e6.out]; omega)]
              ·have e7 : rSet P r c t = { r with word := t } := by simp [rSet, c1, c97, c98, c120, c102, c109]
               rw [e7]; exact (HK5.out.wr (k := 8) (v := .string (bs t)) (r' := { r with word := t }) (by simp [riC]))
             case measure => simp [intOf]; omega
    ·have hie : i = ts.length := by omega
     have hlt : ¬ ((i : Int) < (ts.length : Int)) := by omega
     have hge : decide ((i : Int) < (ts.length : Int)) = false := by simp; omega
     obtain ⟨z0, z1, z2, z3, z4, z5, z6, z7, z8⟩ := hK.zcells
     have zf := hK.zfz
     obtain ⟨x0, x1, x2, x3, x4, x5, x6, x7, x8⟩ := hK.x.cells
     have hd : (fm.zip ts).drop i = [] := List.drop_eq_nil_of_le (by rw [List.length_zip]; omega)
     rw [hd] at hgo
     have HE := hide (⟨hgo, hK⟩ : _ ∧ _)
     clear hgo hK hd hie
     go_wp2_with fail
     refine bodyPost_ret (instr_val rfl rfl rfl (nine _ _ _ _ _ _ _ _ _ HE.out.2.z)) rfl ⟨?_, below_nine _ _ _ _ _ _ _ _ _ HE.out.2.low (Nat.le_refl _)⟩
     rw [hv.out, HE.out.1]; rfl
  ·have hv : Hid (rInstrT P line f ts = none) := by unfold Hid rInstrT; rw [if_pos (.inr hlen)]
   have hne : ((n : Int) == ((formT f).length : Int) + 1) = false := by simp; omega
   have hne2 : ((n : Int) != ((formT f).length : Int) + 1) = true := by simp; omega
   have hwr : wrap64 (((formT f).length : Int) + 1) = ((formT f).length : Int) + 1 := by
    have : (formT f).length ≤ 3 := by
     rcases parts_cases f with ⟨p, hp, ht, hs'⟩ | ⟨hn', _⟩
     ·have hf : formT f = p.2.map letX := by unfold formT; rw [hs']
      rw [hf, List.length_map]
      have : ∀ q, q ∈ shapeT → q.2.length ≤ 3 := by decide
      exact this p hp
     ·exact absurd hn' hq
    exact IntWalk.wrap64_in _ (by omega)
   unfold ptrV
   clear h hs
   go_enter Tryz.func87, Tryz.ntmps87
   go_wp2_with fail
   refine (hfm _).mono ?_
   rintro e w2 ⟨rfl, rfl⟩
   go_wp2_with fail
   refine bodyPost_ret (instr_val rfl rfl rfl (World.alloc_heap_new w _)) rfl ⟨by rw [hv.out]; rfl, HB.out _⟩
end Go.Proofs.YtcfpedjfofpnkaaGreatDoor
