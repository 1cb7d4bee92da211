import Derived.Test.YtcfpedjfofpnkaaGreatDoorRv5
import Derived.Test.YtcfpedjfofpnkaaGreatDoorRv0
import Derived.Shelf.Lay
import Derived.Laws.Rows
import Derived.Shelf.Strconv.Atoi
import Derived.Lib.SmallJoins
import Derived.Deep.RegionHeld3
set_option linter.unusedVariables false
set_option linter.unusedSimpArgs false
namespace Go.Proofs.YtcfpedjfofpnkaaGreatDoor
open Go.RowKit Go.Proofs.Cod
def RG.body (G : RG) (a lm : Nat) (v : Value) : RG := { G with bods := G.bods ++ [a], bV := v, B := putN G.B a { lm := lm, cv := .slice none 0 0, ins := [], labs := fun _ => none } }
section
variable {w w' : World} {tag tag' : Nat → RT} {base rb nb lb : Nat} {G : RG}
theorem row_ptr {e : TypeId} {k : Int} {v : Value} {xs : List Value} (h : RowOk w tag base e k v xs) : ∃ a cap, v = .slice a xs.length cap := by
 rcases h.row.2 with ⟨h1, h2⟩ | ⟨g, cap, cur, h1, _⟩
 ·exact ⟨none, 0, by rw [h1, h2]⟩
 ·exact ⟨_, _, h1⟩
theorem RdW.body (h : RdW w tag base rb nb lb G) (hlen : G.bods.length < 1048576) :
 ∃ w1, (w.alloc (.map #[] 0)).alloc (.cells #[.slice none 0 0, .map (some w.heap.size)] 182) = w1 ∧ ∃ g cap w3, (Builtin.append_ #[129, 129] 129 #[G.bV, .slice (some ⟨w1.heap.size, 0, none⟩) 1 1]).run Tryz.prog (w1.alloc (.cells #[ptrV (w.heap.size + 1)] 179)) = .ok (.slice (some ⟨g, 0, none⟩) (G.bods.length + 1) cap) w3 ∧
  w3.cell? ⟨rb, 6, none⟩ = some G.bV ∧ w3.frozen? ⟨rb, 6, none⟩ = false ∧
  ∃ tag', RdW (w3.setCell ⟨rb, 6, none⟩ (.slice (some ⟨g, 0, none⟩) (G.bods.length + 1) cap)) tag' base rb nb lb (G.body (w.heap.size + 1) w.heap.size (.slice (some ⟨g, 0, none⟩) (G.bods.length + 1) cap)) ∧ Ext w tag (w3.setCell ⟨rb, 6, none⟩ (.slice (some ⟨g, 0, none⟩) (G.bods.length + 1) cap)) tag' := by
 have hrl := h.lt h.trd (by simp)
 have hg3 := h.g3
 obtain ⟨w1, hw1⟩ : ∃ w1, (w.alloc (.map #[] 0)).alloc (.cells #[.slice none 0 0, .map (some w.heap.size)] 182) = w1 := ⟨_, rfl⟩
 have hz1 : w1.heap.size = w.heap.size + 2 := by rw [← hw1]; simp
 have hk1 : ∀ b, b < w.heap.size → w1.heap[b]? = w.heap[b]? := fun b hb => by
  rw [← hw1, Below.heap_alloc _ _ b (by simp; omega), Below.heap_alloc _ _ b hb]
 have hm1 : KMap sk w1 w.heap.size (fun _ => none) 0 := by
  have := (KMap.made (enc := sk) w).same (w' := w1) (by rw [← hw1, Below.heap_alloc _ _ _ (by simp)])
  exact this
 have hb1 : w1.heap[w.heap.size + 1]? = some (.cells #[.slice none 0 0, .map (some w.heap.size)] 182) := by
  have := World.alloc_heap_new (w.alloc (.map #[] 0)) (.cells #[.slice none 0 0, .map (some w.heap.size)] 182)
  rw [World.size_alloc] at this
  rw [← hw1]; exact this
 obtain ⟨t1, ht1⟩ : ∃ t1, tagAt (tagAt tag w.heap.size (.lb (w.heap.size + 1))) (w.heap.size + 1) (.bd (w.heap.size + 1)) = t1 := ⟨_, rfl⟩
 have to1 : ∀ b, b < w.heap.size → t1 b = tag b := fun b hb => by rw [← ht1, tagAt_old _ (by omega), tagAt_old _ (by omega)]
 have tn1 : t1 w.heap.size = .lb (w.heap.size + 1) := by rw [← ht1, tagAt_old _ (by omega), tagAt_new]
 have tn2 : t1 (w.heap.size + 1) = .bd (w.heap.size + 1) := by rw [← ht1, tagAt_new]
 have tn3 : ∀ b, w.heap.size + 2 ≤ b → t1 b = .o := fun b hb => by
  rw [← ht1, tagAt_old _ (by omega), tagAt_old _ (by omega)]
  cases hq : tag b with
  | o => rfl
  | _ => exact absurd (h.tlt b (by rw [hq]; simp)).2 (by omega)
 have hto : ∀ b, t1 b ≠ .o → b < w1.heap.size := fun b hb => by
  by_cases e : w.heap.size + 2 ≤ b
  ·exact absurd (tn3 b e) hb
  ·omega
 have hrow : RowOk w1 t1 base 179 0 G.bV (G.bods.map ptrV) := h.brow.kept fun b hb => by
  have hl := h.lt hb (by simp)
  exact ⟨hk1 b hl, (to1 b hl).trans hb⟩
 obtain ⟨i0, hi, hy0, hy1, hy2⟩ := info_parts Tryz.infoBd
 obtain ⟨g, cap, w3, tag3, hr3, hrow3, o3, t3, p3, z3, b3, old3, new3⟩ := hrow.push Tryz.underlying129 hi hy0 hy1 hy2 rfl (by omega) (ptrV (w.heap.size + 1)) (by simp [Value.oneCell', ptrV]) 129 (by simpa using hlen) (by omega) hto
 rw [List.length_map] at hr3 hrow3
 have e3 : ∀ b, b < w.heap.size → tag b ≠ .row 0 → w3.heap[b]? = w.heap[b]? := fun b hb h2 => (b3 b (by omega) (by rw [to1 b hb]; exact h2)).trans (hk1 b hb)
 have hrb3 : w3.heap[rb]? = w.heap[rb]? := e3 rb hrl (by rw [h.trd]; simp)
 have hx : Ext w tag (w3.setCell ⟨rb, 6, none⟩ (.slice (some ⟨g, 0, none⟩) (G.bods.length + 1) cap)) tag3 := by
  refine ⟨o3.trans (by rw [← hw1]; rfl), t3.trans (by rw [← hw1]; rfl), p3.trans (by rw [← hw1]; rfl), by simp; omega, fun b hb => (old3 b (by omega)).trans (to1 b hb), fun b hb hbo => ?_⟩
  rw [Below.heap_setCell w3 ⟨rb, 6, none⟩ _ b (ne_tag hbo h.trd (by simp))]
  exact e3 b hb (by rw [hbo]; simp)
 have hc3 : w3.cell? ⟨rb, 6, none⟩ = some G.bV := (World.cell?_of_block (w := w) (a := ⟨rb, 6, none⟩) hrb3).trans h.bodC
 refine ⟨w1, hw1, g, cap, w3, hr3, hc3, (World.frozen?_of_block (w := w) (a := ⟨rb, 6, none⟩) hrb3).trans (h.frz _), tag3, ?_, hx⟩
 refine h.step (fun x => x = .row 0 ∨ x = .rd) hx (fun b hb h1 h2 => ?_) (fun b hb hn => ?_) ?_ (fun k hkk => .inl ⟨rfl, rfl, ?_⟩) (.inr ?_) (.inl ⟨rfl, rfl, by simp⟩) (.inl ⟨rfl, by simp⟩) (by simp) (by simp) (by simp) (fun a c hc => ?_) (fun a i hi => .inl ⟨hi, ?_⟩) (fun c hc => .inl hc)
 ·rw [Below.heap_setCell w3 ⟨rb, 6, none⟩ _ b (fun e => h2 (by rw [e]; exact .inr h.trd))]
  exact e3 b hb (fun e => h2 (.inl e))
 ·simp only [World.size_setCell]
  by_cases e : b < w1.heap.size
  ·omega
  ·exact new3 b (by omega) hn
 ·rw [heap_setCell_same w3 rb 6 _ _ _ (hrb3.trans h.cell)]
  rfl
 ·rcases hkk with rfl | rfl | rfl | rfl <;> simp
 ·have e1 : (G.body (w.heap.size + 1) w.heap.size (.slice (some ⟨g, 0, none⟩) (G.bods.length + 1) cap)).bods.map ptrV = G.bods.map ptrV ++ [ptrV (w.heap.size + 1)] := by simp [RG.body]
  rw [e1]
  refine ⟨owns_same hrow3.row fun x hx => ?_, hrow3.tg⟩
  exact Below.heap_setCell w3 ⟨rb, 6, none⟩ _ x (ne_tag (hrow3.tg x hx) ((old3 rb (by omega)).trans ((to1 rb hrl).trans h.trd)) (by simp))
 ·have hc' : putN G.B (w.heap.size + 1) { lm := w.heap.size, cv := .slice none 0 0, ins := [], labs := fun _ => none } a = some c := hc
  unfold putN at hc'
  split at hc'
  ·rename_i e
   subst e
   cases hc'
   right
   have hnr : ∀ x, t1 x ≠ .rd → x < w1.heap.size → t1 x ≠ .row 0 → (w3.setCell ⟨rb, 6, none⟩ (.slice (some ⟨g, 0, none⟩) (G.bods.length + 1) cap)).heap[x]? = w1.heap[x]? := fun x hx hl hr => by
    rw [Below.heap_setCell w3 ⟨rb, 6, none⟩ _ x (fun e => hx (by have e : x = rb := e; rw [e, to1 rb hrl]; exact h.trd))]
    exact b3 x hl hr
   refine ⟨(hnr _ (by rw [tn2]; simp) (by omega) (by rw [tn2]; simp)).trans hb1, World.ownsRow_nil _ _ _ _, (fun x hx => by cases hx), ⟨fun _ => none, 0, hm1.same (hnr _ (by rw [tn1]; simp) (by omega) (by rw [tn1]; simp)), fun t => rfl⟩, (old3 _ (by omega)).trans tn2, (old3 _ (by show w.heap.size ≤ _; omega)).trans tn1⟩
  ·exact .inl ⟨hc', by simp, by simp, by simp⟩
 ·have := h.ins a i hi
  rw [Below.heap_setCell w3 ⟨rb, 6, none⟩ _ a (ne_tag this.2 h.trd (by simp))]
  exact e3 a (h.lt this.2 (by simp)) (by rw [this.2]; simp)
end
def BeginP (n0 : Nat) (ts : List Tx) (G G' : RG) : Prop := ts.length = 1 ∧ ∃ G1 a lm v, DeclP 116 ts G G1 ∧ n0 ≤ a ∧ G' = G1.body a lm v
def BeginE (ts : List Tx) (G : RG) (e : Int) : Prop := (ts.length ≠ 1 ∧ e = 2) ∨ (ts.length = 1 ∧ DeclE 116 ts G e)
set_option maxRecDepth 100000 in
set_option maxHeartbeats 1000000 in
theorem begin_any {w : World} {tag : Nat → RT} {base rb nb lb : Nat} {G : RG} (h : RdW w tag base rb nb lb G) (a : Option Addr) (n cap : Nat) (ts : List Tx) (hn : ts.length = n) (hs : WsT w tag a ts) (hb : (G.nms 116).length + n < 1048576) (hbb : G.bods.length < 1048576) :
 Calls Tryz.prog 96 #[ptrV rb, .slice a n cap] w (Out w tag base rb nb lb G.line (BeginP w.heap.size ts G) (BeginE ts G)) := by
 have cl := h.lineC
 have hD := declare_any h 116 (.inr (.inr (.inr (.inr rfl)))) a n cap ts hn hs hb
 have HX := hide (Ext.refl w tag)
 unfold ptrV at hD ⊢
 replace hn := hide hn
 by_cases h1 : n = 1
 ·subst h1
  clear h hs hb
  go_enter Tryz.func96, Tryz.ntmps96
  go_wp2_with fail
  refine (demand_yes rb 2 _).mono ?_
  rintro e w1 ⟨rfl, rfl⟩
  go_wp2_with fail
  refine hD.mono ?_
  rintro e w2 (⟨t2, G2, rfl, hR, hX, hP⟩ | ⟨t2, e2, rfl, hX, hE⟩)
  ·obtain ⟨w3, hw3, g, c3, w4, hrun, c4, f4, t4, hR4, hX4⟩ := hR.body (by rw [hP.2.2.2.2.2.2.2.1]; exact hbb)
   have HE := hide (⟨hP, hR4, hX4, hX⟩ : _ ∧ _ ∧ _ ∧ _)
   have c6 := hR.bodC
   obtain ⟨ra, rcap, hV⟩ := row_ptr hR.brow
   rw [List.length_map] at hV
   have hrl := hR.lt hR.trd (by simp)
   rw [hV] at c6 hrun c4
   have hmm := @run_makeMap Tryz.prog
   replace hw3 := hide hw3
   replace hV := hide hV
   have hz3 : Hid (w3.heap.size = w2.heap.size + 2) := by unfold Hid; rw [← hw3.out]; simp
   rw [← hw3.out] at hrun
   unfold ptrV at hrun
   have hz : ((w2.alloc (.map #[] 0)).alloc (.cells #[.slice none 0 0, .map (some w2.heap.size)] 182)).heap.size = w2.heap.size + 1 + 1 := by simp
   rw [hz] at hrun
   replace hz := hide hz
   clear hR hP hX hR4 hX4
   go_wp2_with (at_builtin; refine wpList_append_run rfl _ _ _ rfl rfl rfl rfl hrun ?_)
   go_end0
   obtain ⟨hP, hR4, hX4, hX⟩ := HE.out
   exact .inl ⟨t4, _, rfl, hR4, hX.trans hX4, hn.out, G2, _, _, _, hP, by have := hX.size; omega, rfl⟩
  ·exact ⟨rfl, .inr ⟨t2, e2, rfl, hX, .inr ⟨hn.out, hE⟩⟩⟩
 ·have h1' : ((n : Int) == 1) = false := by simp; omega
  clear h hs hb hD
  go_enter Tryz.func96, Tryz.ntmps96
  go_wp2_with fail
  refine (demand_no 2 cl).mono ?_
  rintro e w1 ⟨rfl, rfl⟩
  exact ⟨rfl, .inr ⟨tag, 2, rfl, HX.out, .inl ⟨by have := hn.out; omega, rfl⟩⟩⟩
def RG.later (G : RG) (c : CloC) (v : Value) : RG := { G with las := G.las ++ [c], lV := v }
section
variable {w w' : World} {tag tag' : Nat → RT} {base rb nb lb : Nat} {G : RG}
theorem five_made (w : World) (A B C D E : Obj) : ∃ w5, ((((w.alloc A).alloc B).alloc C).alloc D).alloc E = w5 ∧ w5.heap.size = w.heap.size + 5 ∧ (∀ b, b < w.heap.size → w5.heap[b]? = w.heap[b]?) ∧
 w5.heap[w.heap.size]? = some A ∧ w5.heap[w.heap.size + 1]? = some B ∧ w5.heap[w.heap.size + 1 + 1]? = some C ∧ w5.heap[w.heap.size + 1 + 1 + 1]? = some D ∧ w5.heap[w.heap.size + 1 + 1 + 1 + 1]? = some E ∧ w5.os = w.os ∧ w5.tape = w.tape ∧ w5.output = w.output := by
 obtain ⟨w1, h1⟩ : ∃ x, w.alloc A = x := ⟨_, rfl⟩
 obtain ⟨w2, h2⟩ : ∃ x, w1.alloc B = x := ⟨_, rfl⟩
 obtain ⟨w3, h3⟩ : ∃ x, w2.alloc C = x := ⟨_, rfl⟩
 obtain ⟨w4, h4⟩ : ∃ x, w3.alloc D = x := ⟨_, rfl⟩
 obtain ⟨w6, h6⟩ : ∃ x, w4.alloc E = x := ⟨_, rfl⟩
 rw [h1, h2, h3, h4, h6]
 have z1 : w1.heap.size = w.heap.size + 1 := by rw [← h1]; simp
 have z2 : w2.heap.size = w.heap.size + 1 + 1 := by rw [← h2, World.size_alloc, z1]
 have z3 : w3.heap.size = w.heap.size + 1 + 1 + 1 := by rw [← h3, World.size_alloc, z2]
 have z4 : w4.heap.size = w.heap.size + 1 + 1 + 1 + 1 := by rw [← h4, World.size_alloc, z3]
 have z6 : w6.heap.size = w.heap.size + 5 := by rw [← h6, World.size_alloc, z4]
 have a1 : w1.heap[w.heap.size]? = some A := by rw [← h1]; exact World.alloc_heap_new w A
 have a2 : w2.heap[w.heap.size + 1]? = some B := by rw [← h2, ← z1]; exact World.alloc_heap_new w1 B
 have a3 : w3.heap[w.heap.size + 1 + 1]? = some C := by rw [← h3, ← z2]; exact World.alloc_heap_new w2 C
 have a4 : w4.heap[w.heap.size + 1 + 1 + 1]? = some D := by rw [← h4, ← z3]; exact World.alloc_heap_new w3 D
 have a6 : w6.heap[w.heap.size + 1 + 1 + 1 + 1]? = some E := by rw [← h6, ← z4]; exact World.alloc_heap_new w4 _
 have b1 : ∀ k, k < w.heap.size → w1.heap[k]? = w.heap[k]? := fun k hk => by rw [← h1]; exact Below.heap_alloc w A k hk
 have b2 : ∀ k, k < w1.heap.size → w2.heap[k]? = w1.heap[k]? := fun k hk => by rw [← h2]; exact Below.heap_alloc w1 B k hk
 have b3 : ∀ k, k < w2.heap.size → w3.heap[k]? = w2.heap[k]? := fun k hk => by rw [← h3]; exact Below.heap_alloc w2 C k hk
 have b4 : ∀ k, k < w3.heap.size → w4.heap[k]? = w3.heap[k]? := fun k hk => by rw [← h4]; exact Below.heap_alloc w3 D k hk
 have b6 : ∀ k, k < w4.heap.size → w6.heap[k]? = w4.heap[k]? := fun k hk => by rw [← h6]; exact Below.heap_alloc w4 _ k hk
 refine ⟨_, rfl, by simp [z6], fun b hb => ?_, ?_, ?_, ?_, ?_, ?_, ?_, ?_, ?_⟩
 ·rw [b6 b (by omega), b4 b (by omega), b3 b (by omega), b2 b (by omega), b1 b hb]
 ·rw [b6 _ (by omega), b4 _ (by omega), b3 _ (by omega), b2 _ (by omega)]; exact a1
 ·rw [b6 _ (by omega), b4 _ (by omega), b3 _ (by omega)]; exact a2
 ·rw [b6 _ (by omega), b4 _ (by omega)]; exact a3
 ·rw [b6 _ (by omega)]; exact a4
 ·exact a6
 ·rw [← h6, ← h4, ← h3, ← h2, ← h1]; rfl
 ·rw [← h6, ← h4, ← h3, ← h2, ← h1]; rfl
 ·rw [← h6, ← h4, ← h3, ← h2, ← h1]; rfl
theorem RdW.later (h : RdW w tag base rb nb lb G) (hlen : G.las.length < 1048576) (ia tb : Nat) (kd : Int) (t : Tx) :
 ∃ w5, ((((w.alloc (.cells #[ptrV ia] 183)).alloc (.cells #[.map (some tb)] 130)).alloc (.cells #[.int .u8 kd] 5)).alloc (.cells #[.string (bs t)] 9)).alloc (.cells #[.int .i64 G.line] 3) = w5 ∧ w5.heap.size = w.heap.size + 1 + 1 + 1 + 1 + 1 ∧ w5.cell? ⟨rb, 9, none⟩ = some G.lV ∧
  ∃ g cap w3, (Builtin.append_ #[132, 132] 132 #[G.lV, .slice (some ⟨w5.heap.size, 0, none⟩) 1 1]).run Tryz.prog (w5.alloc (.cells #[.func (.func 145) #[] #[ptrV (w.heap.size + 1), ptrV (w.heap.size + 1 + 1), ptrV (w.heap.size + 1 + 1 + 1), ptrV (w.heap.size + 1 + 1 + 1 + 1), ptrV w.heap.size]] 1)) = .ok (.slice (some ⟨g, 0, none⟩) (G.las.length + 1) cap) w3 ∧
  w3.cell? ⟨rb, 9, none⟩ = some G.lV ∧ w3.frozen? ⟨rb, 9, none⟩ = false ∧
  ∃ tag', RdW (w3.setCell ⟨rb, 9, none⟩ (.slice (some ⟨g, 0, none⟩) (G.las.length + 1) cap)) tag' base rb nb lb (G.later ⟨ia, tb, kd, t, G.line, w.heap.size + 1, w.heap.size + 1 + 1, w.heap.size + 1 + 1 + 1, w.heap.size + 1 + 1 + 1 + 1, w.heap.size⟩ (.slice (some ⟨g, 0, none⟩) (G.las.length + 1) cap)) ∧ Ext w tag (w3.setCell ⟨rb, 9, none⟩ (.slice (some ⟨g, 0, none⟩) (G.las.length + 1) cap)) tag' := by
 have hrl := h.lt h.trd (by simp)
 have hg3 := h.g3
 obtain ⟨w5, hw5, hz5, hk5, d4, d0, d1, d2, d3, o5, t5, p5⟩ := five_made w (.cells #[ptrV ia] 183) (.cells #[.map (some tb)] 130) (.cells #[.int .u8 kd] 5) (.cells #[.string (bs t)] 9) (.cells #[.int .i64 G.line] 3)
 obtain ⟨t1, ht1⟩ : ∃ t1 : Nat → RT, (fun b => if w.heap.size ≤ b ∧ b < w.heap.size + 5 then RT.clo else tag b) = t1 := ⟨_, rfl⟩
 have to1 : ∀ b, b < w.heap.size → t1 b = tag b := fun b hb => by rw [← ht1]; exact if_neg (by omega)
 have tn1 : ∀ b, w.heap.size ≤ b → b < w.heap.size + 5 → t1 b = .clo := fun b hb hb' => by rw [← ht1]; exact if_pos ⟨hb, hb'⟩
 have tn3 : ∀ b, w.heap.size + 5 ≤ b → t1 b = .o := fun b hb => by
  rw [← ht1]
  have e : (if w.heap.size ≤ b ∧ b < w.heap.size + 5 then RT.clo else tag b) = tag b := if_neg (by omega)
  show (if w.heap.size ≤ b ∧ b < w.heap.size + 5 then RT.clo else tag b) = .o
  rw [e]
  cases hq : tag b with
  | o => rfl
  | _ => exact absurd (h.tlt b (by rw [hq]; simp)).2 (by omega)
 have hto : ∀ b, t1 b ≠ .o → b < w5.heap.size := fun b hb => by
  by_cases e : w.heap.size + 5 ≤ b
  ·exact absurd (tn3 b e) hb
  ·omega
 have hrow : RowOk w5 t1 base 1 1 G.lV (G.las.map CloC.val) := h.lrow.kept fun b hb => by
  have hl := h.lt hb (by simp)
  exact ⟨hk5 b hl, (to1 b hl).trans hb⟩
 obtain ⟨c, hc⟩ : ∃ c : CloC, (⟨ia, tb, kd, t, G.line, w.heap.size + 1, w.heap.size + 1 + 1, w.heap.size + 1 + 1 + 1, w.heap.size + 1 + 1 + 1 + 1, w.heap.size⟩ : CloC) = c := ⟨_, rfl⟩
 have hcv : c.val = .func (.func 145) #[] #[ptrV (w.heap.size + 1), ptrV (w.heap.size + 1 + 1), ptrV (w.heap.size + 1 + 1 + 1), ptrV (w.heap.size + 1 + 1 + 1 + 1), ptrV w.heap.size] := by rw [← hc]; rfl
 rw [hc, ← hcv]
 obtain ⟨i0, hi, hy0, hy1, hy2⟩ := info_parts Tryz.infoFn
 obtain ⟨g, cap, w3, tag3, hr3, hrow3, o3, t3, p3, z3, b3, old3, new3⟩ := hrow.push Tryz.underlying132 hi hy0 hy1 hy2 rfl (by omega) c.val (by rw [hcv]; rfl) 132 (by simpa using hlen) (by omega) hto
 rw [List.length_map] at hr3 hrow3
 have e3 : ∀ b, b < w.heap.size → tag b ≠ .row 1 → w3.heap[b]? = w.heap[b]? := fun b hb h2 => (b3 b (by omega) (by rw [to1 b hb]; exact h2)).trans (hk5 b hb)
 have hrb3 : w3.heap[rb]? = w.heap[rb]? := e3 rb hrl (by rw [h.trd]; simp)
 have hx : Ext w tag (w3.setCell ⟨rb, 9, none⟩ (.slice (some ⟨g, 0, none⟩) (G.las.length + 1) cap)) tag3 := by
  refine ⟨o3.trans o5, t3.trans t5, p3.trans p5, by simp; omega, fun b hb => (old3 b (by omega)).trans (to1 b hb), fun b hb hbo => ?_⟩
  rw [Below.heap_setCell w3 ⟨rb, 9, none⟩ _ b (ne_tag hbo h.trd (by simp))]
  exact e3 b hb (by rw [hbo]; simp)
 have hc5 : w5.cell? ⟨rb, 9, none⟩ = some G.lV := (World.cell?_of_block (w := w) (a := ⟨rb, 9, none⟩) (hk5 rb hrl)).trans h.latC
 have hc3 : w3.cell? ⟨rb, 9, none⟩ = some G.lV := (World.cell?_of_block (w := w) (a := ⟨rb, 9, none⟩) hrb3).trans h.latC
 refine ⟨w5, hw5, by omega, hc5, g, cap, w3, hr3, hc3, (World.frozen?_of_block (w := w) (a := ⟨rb, 9, none⟩) hrb3).trans (h.frz _), tag3, ?_, hx⟩
 refine h.step (fun x => x = .row 1 ∨ x = .rd) hx (fun b hb h1 h2 => ?_) (fun b hb hn => ?_) ?_ (fun k hkk => .inl ⟨rfl, rfl, ?_⟩) (.inl ⟨rfl, rfl, by simp⟩) (.inr ?_) (.inl ⟨rfl, by simp⟩) (by simp) (by simp) (by simp) (fun a d hd => .inl ⟨hd, by simp, by simp, by simp⟩) (fun a i hi => .inl ⟨hi, ?_⟩) (fun d hd => ?_)
 ·rw [Below.heap_setCell w3 ⟨rb, 9, none⟩ _ b (fun e => h2 (by rw [e]; exact .inr h.trd))]
  exact e3 b hb (fun e => h2 (.inl e))
 ·simp only [World.size_setCell]
  by_cases e : b < w5.heap.size
  ·omega
  ·exact new3 b (by omega) hn
 ·rw [heap_setCell_same w3 rb 9 _ _ _ (hrb3.trans h.cell)]
  rfl
 ·rcases hkk with rfl | rfl | rfl | rfl <;> simp
 ·have e1 : (G.later c (.slice (some ⟨g, 0, none⟩) (G.las.length + 1) cap)).las.map CloC.val = G.las.map CloC.val ++ [c.val] := by simp [RG.later]
  rw [e1]
  refine ⟨owns_same hrow3.row fun x hx => ?_, hrow3.tg⟩
  exact Below.heap_setCell w3 ⟨rb, 9, none⟩ _ x (ne_tag (hrow3.tg x hx) ((old3 rb (by omega)).trans ((to1 rb hrl).trans h.trd)) (by simp))
 ·have := h.ins a i hi
  rw [Below.heap_setCell w3 ⟨rb, 9, none⟩ _ a (ne_tag this.2 h.trd (by simp))]
  exact e3 a (h.lt this.2 (by simp)) (by rw [this.2]; simp)
 ·have hd : d ∈ G.las ++ [c] := hd
  rcases List.mem_append.1 hd with e | e
  ·exact .inl e
  ·right
   obtain rfl := List.mem_singleton.1 e
   have hnr : ∀ x, w.heap.size ≤ x → x < w.heap.size + 5 → (w3.setCell ⟨rb, 9, none⟩ (.slice (some ⟨g, 0, none⟩) (G.las.length + 1) cap)).heap[x]? = w5.heap[x]? ∧ tag3 x = .clo := fun x hx hx' => by
    rw [Below.heap_setCell w3 ⟨rb, 9, none⟩ _ x (by show x ≠ rb; omega)]
    exact ⟨b3 x (by omega) (by rw [tn1 x hx hx']; simp), (old3 x (by omega)).trans (tn1 x hx hx')⟩
   rw [← hc]
   have q0 := hnr (w.heap.size + 1) (by omega) (by omega)
   have q1 := hnr (w.heap.size + 1 + 1) (by omega) (by omega)
   have q2 := hnr (w.heap.size + 1 + 1 + 1) (by omega) (by omega)
   have q3 := hnr (w.heap.size + 1 + 1 + 1 + 1) (by omega) (by omega)
   have q4 := hnr w.heap.size (by omega) (by omega)
   exact ⟨q0.1.trans d0, q1.1.trans d1, q2.1.trans d2, q3.1.trans d3, q4.1.trans d4, q0.2, q1.2, q2.2, q3.2, q4.2⟩
end
theorem cell_four (w : World) (A B C D : Obj) {b : Nat} (i : Nat) (h : b < w.heap.size) : ((((w.alloc A).alloc B).alloc C).alloc D).cell? ⟨b, i, none⟩ = w.cell? ⟨b, i, none⟩ := by
 refine World.cell?_of_block (w := w) (a := ⟨b, i, none⟩) ?_
 show ((((w.alloc A).alloc B).alloc C).alloc D).heap[b]? = w.heap[b]?
 rw [Below.heap_alloc _ _ b (by simp; omega), Below.heap_alloc _ _ b (by simp; omega), Below.heap_alloc _ _ b (by simp; omega), Below.heap_alloc _ _ b h]
def LaterP (ia tb : Nat) (kd : Int) (t : Tx) (G G' : RG) : Prop := ∃ c v, c.ia = ia ∧ c.tb = tb ∧ c.kd = kd ∧ c.nm = t ∧ c.ln = G.line ∧ G' = G.later c v
set_option maxRecDepth 100000 in
set_option maxHeartbeats 1000000 in
theorem fillLater_any {w : World} {tag : Nat → RT} {base rb nb lb : Nat} {G : RG} (h : RdW w tag base rb nb lb G) (hlen : G.las.length < 1048576) (ia tb : Nat) (kd : Int) (t : Tx) :
 Calls Tryz.prog 135 #[ptrV rb, ptrV ia, .map (some tb), .int .u8 kd, .string (bs t)] w fun en w' => en = .returned (.tuple #[]) ∧ ∃ tag' G', RdW w' tag' base rb nb lb G' ∧ Ext w tag w' tag' ∧ LaterP ia tb kd t G G' := by
 have cl := h.lineC
 have hrl := h.lt h.trd (by simp)
 have cl4 := (cell_four w (.cells #[ptrV ia] 183) (.cells #[.map (some tb)] 130) (.cells #[.int .u8 kd] 5) (.cells #[.string (bs t)] 9) 0 hrl).trans cl
 have hmf : ∀ (fn : Fn) (first cap : Array Value) (w : World), (Instr.makeFunc fn first cap).run Tryz.prog w = .ok (.func fn first cap) w := fun _ _ _ _ => rfl
 obtain ⟨w5, hw5, hz5, c5, g, cap, w3, hrun, c3, f3, tag', hR, hX⟩ := h.later hlen ia tb kd t
 obtain ⟨ra, rcap, hV⟩ := row_ptr h.lrow
 rw [List.length_map] at hV
 rw [hV] at c5 hrun c3
 have HE := hide (⟨hR, hX⟩ : _ ∧ _)
 replace hV := hide hV
 unfold ptrV at *
 rw [hz5, ← hw5] at hrun
 rw [← hw5] at c5
 clear h hR hX hz5 hw5
 go_enter Tryz.func135, Tryz.ntmps135
 go_wp2_with (at_builtin; refine wpList_append_run rfl _ _ _ rfl rfl rfl rfl hrun ?_)
 go_end0
 exact ⟨rfl, tag', _, HE.out.1, HE.out.2, _, _, rfl, rfl, rfl, rfl, rfl, rfl⟩
end Go.Proofs.YtcfpedjfofpnkaaGreatDoor
namespace Go.Proofs
open Go.Shelf
shelf_lay Lays.n172 Nm 172 at Tryz as Tryz.lays172
end Go.Proofs
namespace Go.Proofs.YtcfpedjfofpnkaaGreatDoor
open Go.RowKit Go.Shelf Go.Proofs.Cod
def numN (t : Tx) : Nat := t.foldl (fun n c => n * 10 + (c.toNat - 48)) 0
theorem dec_num (t : Tx) (h : t.all isDig = true) (acc : Nat) : Lib.decFrom acc t = some (t.foldl (fun n c => n * 10 + (c.toNat - 48)) acc) := by
 induction t generalizing acc with
 | nil => rfl
 | cons c t ih =>
  simp only [List.all_cons, Bool.and_eq_true] at h
  have hd : Lib.digitVal c = some (c.toNat - 48) := by
   have h1 := h.1
   simp [isDig] at h1
   unfold Lib.digitVal; rw [if_pos (by omega)]
  simp only [Lib.decFrom, hd, List.foldl_cons]
  exact ih h.2 _
theorem atoi_num {t : Tx} (h : isNum t = true) : Lib.atoi t = some (numN t : Int) ∧ t.length ≤ 3 := by
 simp only [isNum, Bool.and_eq_true, decide_eq_true_eq] at h
 obtain ⟨⟨h1, h2⟩, h3⟩ := h
 refine ⟨?_, h2⟩
 match t, h1, h3 with
 | c :: r, _, h3 =>
  have hc : isDig c = true := by simp only [List.all_cons, Bool.and_eq_true] at h3; exact h3.1
  simp [isDig] at hc
  have n1 : ¬ (c = 45) := fun e => by subst e; revert hc; decide
  have n2 : ¬ (c = 43) := fun e => by subst e; revert hc; decide
  simp only [Lib.atoi, Lib.decNat, List.isEmpty_cons]
  simp only [beq_iff_eq, n1, n2, if_false, Bool.false_eq_true]
  rw [dec_num _ h3]; rfl
def argN (t : Tx) : Nat := if isReg t then regN t else numN t
set_option maxHeartbeats 400000 in
theorem argOf_any (t : Tx) (h : (isReg t || isNum t) = true) (w : World) : Calls Tryz.prog 134 #[.string (bs t)] w fun e w' => e = .returned (.agg #[.bool (isReg t), .int .i64 (argN t)]) ∧ Below w.heap.size w w' := by
 have hb1 : Hid (∀ x, Below w.heap.size w (w.alloc x)) := fun x => (Below.refl _ _).alloc (Nat.le_refl _) _
 cases hr : isReg t with
 | true =>
  have ha : Hid (argN t = regN t) := by unfold Hid argN; rw [if_pos hr]
  go_enter Tryz.func134, Tryz.ntmps134
  go_wp2_with fail
  refine (isRegister_any t _).mono ?_
  rintro e w2 ⟨rfl, rfl⟩
  rw [hr]
  go_wp2_with fail
  refine (registerNumber_any t hr _).mono ?_
  rintro e w3 ⟨rfl, rfl⟩
  go_wp2_with fail
  exact bodyPost_ret (results_cell_row rfl _ _ w.heap.size 65 _ (0, 0) _ rfl (World.alloc_heap_new w _) Tryz.underlying65 rfl (by kernel_rfl)) rfl ⟨by rw [ha.out], hb1.out _⟩
 | false =>
  rw [hr, Bool.false_or] at h
  have ha : Hid (argN t = numN t) := by unfold Hid argN; rw [hr]; rfl
  obtain ⟨h1, h2⟩ := atoi_num h
  have hdata : (bs t).data.toList = t := by simp [bs]
  have hA := hide (fun W => Any.strconv_Atoi Tryz.lays172 (bs t) (numN t) (by rw [bs_size]; omega) (by rw [hdata]; exact h1) W)
  clear hdata h1 h2
  go_enter Tryz.func134, Tryz.ntmps134
  go_wp2_with fail
  refine (isRegister_any t _).mono ?_
  rintro e w2 ⟨rfl, rfl⟩
  rw [hr]
  go_wp2_with fail
  refine (hA.out _).mono ?_
  rintro e w3 ⟨rfl, s, hw3⟩
  obtain ⟨hk, hb3⟩ : w3.heap[w.heap.size]? = some (.cells #[.bool false, .int .i64 0] 65) ∧ Below w.heap.size w w3 := by
   rw [hw3]
   refine ⟨(Lib.bytesWorld_at_old _ _ _ _ (by simp)).trans (World.alloc_heap_new w _), (hb1.out _).trans (Joins.below_bytesWorld _ _ _ _ (by simp))⟩
  clear hw3
  have hlt : w.heap.size < w3.heap.size := (Array.getElem?_eq_some_iff.1 hk).1
  have c0 : w3.cell? ⟨w.heap.size, 0, none⟩ = some (.bool false) := by simp [World.cell?, hk]
  have c1 : w3.cell? ⟨w.heap.size, 1, none⟩ = some (.int .i64 0) := by simp [World.cell?, hk]
  have f0 : w3.frozen? ⟨w.heap.size, 0, none⟩ = false := by simp [World.frozen?, hk]
  have f1 : w3.frozen? ⟨w.heap.size, 1, none⟩ = false := by simp [World.frozen?, hk]
  have hk' := hide hk
  clear hk
  go_wp2_with fail
  refine bodyPost_ret (results_cell_row rfl _ _ w.heap.size 65 _ (0, 0) _ rfl (heap_setCell_same _ _ 1 _ _ _ (heap_setCell_same _ _ 0 _ _ _ hk'.out)) Tryz.underlying65 rfl (by kernel_rfl)) rfl ⟨by rw [ha.out]; rfl, ?_⟩
  exact (hb3.setCell (Nat.le_refl _) _).setCell (Nat.le_refl _) _
end Go.Proofs.YtcfpedjfofpnkaaGreatDoor
namespace Go.Proofs.YtcfpedjfofpnkaaGreatDoor
open Go.RowKit Go.Proofs.Cod
def RG.setI (G : RG) (ia : Nat) (i : In7) : RG := { G with I := putN G.I ia i }
section
variable {w w' : World} {tag tag' : Nat → RT} {base rb nb lb : Nat} {G : RG}
theorem RdW.setI (h : RdW w tag base rb nb lb G) {ia : Nat} {i i' : In7} (hi : G.I ia = some i) (hb : w'.heap[ia]? = some (.cells (insC i') 67)) (ho : ∀ b, b ≠ ia → w'.heap[b]? = w.heap[b]?) (hz : w'.heap.size = w.heap.size) (e1 : w'.os = w.os) (e2 : w'.tape = w.tape) (e3 : w'.output = w.output) :
 RdW w' tag base rb nb lb (G.setI ia i') ∧ Ext w tag w' tag := by
 have hI := h.ins ia i hi
 have hx : Ext w tag w' tag := ⟨e1, e2, e3, by omega, fun _ _ => rfl, fun b _ hbo => ho b (ne_tag hbo hI.2 (by simp))⟩
 refine ⟨h.step (fun g => g = .ins) hx (fun b _ _ h2 => ho b (fun e => h2 (by rw [e]; exact hI.2))) (fun b hb hn => absurd (h.tlt b hn).2 (by omega)) ((ho rb (ne_tag h.trd hI.2 (by simp))).trans h.cell) (fun k _ => .inl ⟨rfl, rfl, by simp⟩) (.inl ⟨rfl, rfl, by simp⟩) (.inl ⟨rfl, rfl, by simp⟩) (.inl ⟨rfl, by simp⟩) (by simp) (by simp) (by simp) (fun a c hc => .inl ⟨hc, by simp, by simp, by simp⟩) (fun a j hj => ?_) (fun c hc => .inl hc), hx⟩
 have hj' : putN G.I ia i' a = some j := hj
 unfold putN at hj'
 split at hj'
 ·rename_i e
  cases hj'
  rw [e]
  exact .inr ⟨hb, hI.2⟩
 ·rename_i e
  exact .inl ⟨hj', ho a e⟩
theorem RdW.setI1 (h : RdW w tag base rb nb lb G) {ia : Nat} {i i' : In7} (hi : G.I ia = some i) (k : Nat) (v : Value) (e : (insC i).setIfInBounds k v = insC i') :
 RdW (w.setCell ⟨ia, k, none⟩ v) tag base rb nb lb (G.setI ia i') ∧ Ext w tag (w.setCell ⟨ia, k, none⟩ v) tag :=
 h.setI hi (by rw [heap_setCell_same w ia k _ _ v (h.ins ia i hi).1, e]) (fun b hb => Below.heap_setCell w ⟨ia, k, none⟩ v b hb) (by simp) rfl rfl rfl
theorem RdW.setI2 (h : RdW w tag base rb nb lb G) {ia : Nat} {i i' : In7} (hi : G.I ia = some i) (k k' : Nat) (v v' : Value) (e : ((insC i).setIfInBounds k v).setIfInBounds k' v' = insC i') :
 RdW ((w.setCell ⟨ia, k, none⟩ v).setCell ⟨ia, k', none⟩ v') tag base rb nb lb (G.setI ia i') ∧ Ext w tag ((w.setCell ⟨ia, k, none⟩ v).setCell ⟨ia, k', none⟩ v') tag :=
 h.setI hi (by rw [heap_setCell_same _ ia k' _ _ v' (heap_setCell_same w ia k _ _ v (h.ins ia i hi).1), e]) (fun b hb => (Below.heap_setCell _ ⟨ia, k', none⟩ v' b hb).trans (Below.heap_setCell w ⟨ia, k, none⟩ v b hb)) (by simp) rfl rfl rfl
end
def FillP (nb lm ia : Nat) (i : In7) (c : Int) (t : Tx) (G G' : RG) : Prop :=
 (c = 114 ∧ G' = G.setI ia { i with r := (regN t : Int) }) ∨ (c = 97 ∧ G' = G.setI ia { i with aR := isReg t, aN := (argN t : Int) }) ∨ (c = 98 ∧ G' = G.setI ia { i with bR := isReg t, bN := (argN t : Int) }) ∨
 (c = 116 ∧ LaterP ia nb 116 t G G') ∨ (c = 108 ∧ LaterP ia lm 108 t G G') ∨ (c ≠ 114 ∧ c ≠ 97 ∧ c ≠ 98 ∧ c ≠ 116 ∧ c ≠ 108 ∧ ∃ n : Nat, G.N t = some (c, n) ∧ G' = G.setI ia { i with x := (n : Int) })
def FillE (c : Int) (t : Tx) (G : RG) (e : Int) : Prop := c ≠ 114 ∧ c ≠ 97 ∧ c ≠ 98 ∧ c ≠ 116 ∧ c ≠ 108 ∧ (∀ n, G.N t ≠ some (c, n)) ∧ e = 5
set_option maxRecDepth 100000 in
set_option maxHeartbeats 1000000 in
theorem fill_any {w : World} {tag : Nat → RT} {base rb nb lb : Nat} {G : RG} (h : RdW w tag base rb nb lb G) {a : Nat} {bc : BdC} (ha : G.bods.getLast? = some a) (hb : G.bods.length < 1048576) (hbc : G.B a = some bc) {ia : Nat} {i : In7} (hi : G.I ia = some i) (hlen : G.las.length < 1048576) (c : Int) (t : Tx) (hf : fitsP t c = true) :
 Calls Tryz.prog 120 #[ptrV rb, ptrV ia, .int .u8 c, .string (bs t)] w (Out w tag base rb nb lb G.line (FillP nb bc.lm ia i c t G) (FillE c t G)) := by
 have hI := (h.ins ia i hi).1
 have fr : ∀ k, w.frozen? ⟨ia, k, none⟩ = false := fun k => by simp [World.frozen?, hI]
 have hil := h.lt (h.ins ia i hi).2 (by simp)
 by_cases c1 : c = 114
 ·subst c1
  have hreg : isReg t = true := by simpa [fitsP] using hf
  have hN := registerNumber_any t hreg w
  have HE := hide (h.setI1 hi (i' := { i with r := (regN t : Int) }) 1 (.int .i64 (regN t)) rfl)
  have d1 : w.cell? ⟨ia, 1, none⟩ = some (.int .i64 i.r) := by simp [World.cell?, hI, insC]
  have f1 := fr 1
  unfold ptrV
  clear h hI fr hf hreg
  go_enter Tryz.func120, Tryz.ntmps120
  go_wp2_with fail
  refine hN.mono ?_
  rintro e w1 ⟨rfl, rfl⟩
  go_wp2_with fail
  go_end0
  exact .inl ⟨tag, _, rfl, HE.out.1, HE.out.2, .inl ⟨rfl, rfl⟩⟩
 ·by_cases c2 : c = 97
  ·subst c2
   have harg : (isReg t || isNum t) = true := by simpa [fitsP] using hf
   have hN := argOf_any t harg w
   have HE : Hid (∀ w1, Below w.heap.size w w1 → w1.cell? ⟨ia, 2, none⟩ = some (.bool i.aR) ∧ w1.cell? ⟨ia, 3, none⟩ = some (.int .i64 i.aN) ∧ w1.frozen? ⟨ia, 2, none⟩ = false ∧ w1.frozen? ⟨ia, 3, none⟩ = false ∧ Hid (RdW ((w1.setCell ⟨ia, 2, none⟩ (.bool (isReg t))).setCell ⟨ia, 3, none⟩ (.int .i64 (argN t))) tag base rb nb lb (G.setI ia { i with aR := isReg t, aN := (argN t : Int) }) ∧ Ext w tag ((w1.setCell ⟨ia, 2, none⟩ (.bool (isReg t))).setCell ⟨ia, 3, none⟩ (.int .i64 (argN t))) tag)) := fun w1 hb1 => by
    have h1 := h.below hb1
    have hI1 := (h1.ins ia i hi).1
    have := h1.setI2 hi (i' := { i with aR := isReg t, aN := (argN t : Int) }) 2 3 (.bool (isReg t)) (.int .i64 (argN t)) rfl
    exact ⟨by simp [World.cell?, hI1, insC], by simp [World.cell?, hI1, insC], by simp [World.frozen?, hI1], by simp [World.frozen?, hI1], this.1, (Ext.of_below hb1).trans this.2⟩
   unfold ptrV
   clear h hI fr hf harg
   go_enter Tryz.func120, Tryz.ntmps120
   go_wp2_with fail
   refine hN.mono ?_
   rintro e w1 ⟨rfl, hb1⟩
   obtain ⟨d2, d3, f2, f3, HE⟩ := HE.out w1 hb1
   go_wp2_with fail
   go_end0
   exact .inl ⟨tag, _, rfl, HE.out.1, HE.out.2, .inr (.inl ⟨rfl, rfl⟩)⟩
  ·by_cases c3 : c = 98
   ·subst c3
    have harg : (isReg t || isNum t) = true := by simpa [fitsP] using hf
    have hN := argOf_any t harg w
    have HE : Hid (∀ w1, Below w.heap.size w w1 → w1.cell? ⟨ia, 4, none⟩ = some (.bool i.bR) ∧ w1.cell? ⟨ia, 5, none⟩ = some (.int .i64 i.bN) ∧ w1.frozen? ⟨ia, 4, none⟩ = false ∧ w1.frozen? ⟨ia, 5, none⟩ = false ∧ Hid (RdW ((w1.setCell ⟨ia, 4, none⟩ (.bool (isReg t))).setCell ⟨ia, 5, none⟩ (.int .i64 (argN t))) tag base rb nb lb (G.setI ia { i with bR := isReg t, bN := (argN t : Int) }) ∧ Ext w tag ((w1.setCell ⟨ia, 4, none⟩ (.bool (isReg t))).setCell ⟨ia, 5, none⟩ (.int .i64 (argN t))) tag)) := fun w1 hb1 => by
     have h1 := h.below hb1
     have hI1 := (h1.ins ia i hi).1
     have := h1.setI2 hi (i' := { i with bR := isReg t, bN := (argN t : Int) }) 4 5 (.bool (isReg t)) (.int .i64 (argN t)) rfl
     exact ⟨by simp [World.cell?, hI1, insC], by simp [World.cell?, hI1, insC], by simp [World.frozen?, hI1], by simp [World.frozen?, hI1], this.1, (Ext.of_below hb1).trans this.2⟩
    unfold ptrV
    clear h hI fr hf harg
    go_enter Tryz.func120, Tryz.ntmps120
    go_wp2_with fail
    refine hN.mono ?_
    rintro e w1 ⟨rfl, hb1⟩
    obtain ⟨d2, d3, f2, f3, HE⟩ := HE.out w1 hb1
    go_wp2_with fail
    go_end0
    exact .inl ⟨tag, _, rfl, HE.out.1, HE.out.2, .inr (.inr (.inl ⟨rfl, rfl⟩))⟩
   ·by_cases c4 : c = 116
    ·subst c4
     have hN := fillLater_any h hlen ia nb 116 t
     have d7 := h.namC
     unfold ptrV at hN ⊢
     clear h hI fr hf
     go_enter Tryz.func120, Tryz.ntmps120
     go_wp2_with fail
     refine hN.mono ?_
     rintro e w1 ⟨rfl, tag', G', h1, h2, h3⟩
     go_wp2_with fail
     go_end0
     exact .inl ⟨tag', G', rfl, h1, h2, .inr (.inr (.inr (.inl ⟨rfl, h3⟩)))⟩
    ·by_cases c5 : c = 108
     ·subst c5
      have hC := current_any h ha (by omega)
      have HE : Hid (∀ w1, Below w.heap.size w w1 → w1.cell? ⟨a, 1, none⟩ = some (.map (some bc.lm)) ∧ Calls Tryz.prog 135 #[ptrV rb, ptrV ia, .map (some bc.lm), .int .u8 108, .string (bs t)] w1 fun en w' => en = .returned (.tuple #[]) ∧ ∃ tag' G', RdW w' tag' base rb nb lb G' ∧ Ext w tag w' tag' ∧ LaterP ia bc.lm 108 t G G') := fun w1 hb1 => by
       have h1 := h.below hb1
       refine ⟨by simp [World.cell?, (h1.bodies a bc hbc).cell], (fillLater_any h1 hlen ia bc.lm 108 t).mono ?_⟩
       rintro en w' ⟨e1, tag', G', q1, q2, q3⟩
       exact ⟨e1, tag', G', q1, (Ext.of_below hb1).trans q2, q3⟩
      unfold ptrV at hC HE ⊢
      clear h hI fr hf
      go_enter Tryz.func120, Tryz.ntmps120
      go_wp2_with fail
      refine hC.mono ?_
      rintro e w1 ⟨rfl, hb1⟩
      obtain ⟨d1, hN⟩ := HE.out w1 hb1
      go_wp2_with fail
      refine hN.mono ?_
      rintro e w2 ⟨rfl, tag', G', h1, h2, h3⟩
      go_wp2_with fail
      go_end0
      exact .inl ⟨tag', G', rfl, h1, h2, .inr (.inr (.inr (.inr (.inl ⟨rfl, h3⟩))))⟩
     ·have d7 := h.namC
      have d0 := h.lineC
      have f6 := fr 6
      have d6 : w.cell? ⟨ia, 6, none⟩ = some (.int .i64 i.x) := by simp [World.cell?, hI, insC]
      have hM : MapOk w.drew tag nb G.N := h.names
      have hF := find_any hM c t G.line
      have HX := hide (⟨rfl, rfl, rfl, Nat.le_refl _, fun _ _ => rfl, fun _ _ _ => rfl⟩ : Ext w tag w.drew tag)
      have HQ := hide (⟨c1, c2, c3, c4, c5⟩ : _ ∧ _ ∧ _ ∧ _ ∧ _)
      unfold ptrV
      by_cases hn : ∃ n, G.N t = some (c, n)
      ·obtain ⟨n, hn⟩ := hn
       have hF' := hF.mono (R' := fun en w' => en = .returned (.int .i64 n) ∧ w' = w.drew) (fun en w' hh => by
        rcases hh with ⟨⟨m, hm, e1⟩ | ⟨hm, _⟩, e2⟩
        ·rw [hn] at hm; cases hm; exact ⟨e1, e2⟩
        ·exact absurd hn (hm n))
       have HE := hide (RdW.setI1 (w := w.drew) (h.keep (fun _ _ => rfl) HX.out) hi (i' := { i with x := (n : Int) }) 6 (.int .i64 n) rfl)
       replace hn := hide hn
       clear h hI fr hf hM hF
       go_enter Tryz.func120, Tryz.ntmps120
       go_wp2_with fail
       go_region_with (refine hF'.mono ?_; rintro e w1 ⟨rfl, rfl⟩)
       all_goals
        go_wp2_with fail
        go_end0
        exact .inl ⟨tag, _, rfl, HE.out.1, HX.out.trans HE.out.2, .inr (.inr (.inr (.inr (.inr ⟨c1, c2, c3, c4, c5, n, hn.out, rfl⟩))))⟩
      ·have hF' := hF.mono (R' := fun en w' => en = .panicked (faultC 5 G.line) ∧ w' = w.drew) (fun en w' hh => by
        rcases hh with ⟨⟨m, hm, e1⟩ | ⟨hm, e1⟩, e2⟩
        ·exact absurd ⟨m, hm⟩ hn
        ·exact ⟨e1, e2⟩)
       replace hn := hide hn
       clear h hI fr hf hM hF
       go_enter Tryz.func120, Tryz.ntmps120
       go_wp2_with fail
       refine wp_region_held_drew (S := (fun w' => w'.cell? ⟨rb, 7, none⟩ = some (.map (some nb)) ∧ w'.cell? ⟨rb, 0, none⟩ = some (.int .i64 G.line))) (by kernel_rfl) ⟨d7, d0⟩ (fun hHeld => ?_)
       refine tk 0 hHeld ?_
       refine tk 1 hHeld ?_
       refine tk 2 hHeld ?_
       refine tk 3 hHeld ?_
       refine tk 4 hHeld ?_
       refine tk 5 hHeld ?_
       refine tk 6 hHeld ?_
       refine tk 7 hHeld ?_
       refine tk 8 hHeld ?_
       refine tk 9 hHeld ?_
       refine tk 10 hHeld ?_
       refine rd 11 (fun K hK => ?_)
       go_simp
       go_at_call 136
       refine hF'.mono ?_
       rintro e w1 ⟨rfl, rfl⟩
       exact ⟨rfl, .inr ⟨tag, 5, rfl, HX.out, c1, c2, c3, c4, c5, fun n e => hn.out ⟨n, e⟩, rfl⟩⟩
end Go.Proofs.YtcfpedjfofpnkaaGreatDoor
