import Derived.Test.YtcfpedjfofpnkaaGreatDoorRv6
import Derived.Deep.RegionLaw
import Derived.Test.YtcfpedjfofpnkaaGreatDoorRv3
import Derived.Test.YtcfpedjfofpnkaaGreatDoorRv5
set_option linter.unusedVariables false
set_option linter.unusedSimpArgs false
namespace Go.Proofs.YtcfpedjfofpnkaaGreatDoor
open Go.RowKit Go.Proofs.Cod
theorem rowG_push {w : World} {tag : Nat → RT} {base e : Nat} {gt : RT} {v : Value} {xs : List Value} {T : TypeId} {i : TypeInfo} {z : Value} {bytes : Nat} (hrow : w.ownsRow base e 1 v xs.length xs) (htg : ∀ g, v.ownBlock = some g → tag g = gt) (hgt : gt ≠ .o) (ht : Tryz.prog.underlying T = some (.slice e)) (hi : Tryz.prog.info? e = some i) (hz : i.zero = some z) (hs : i.size = 1) (hy : i.bytes = bytes) (hzs : z.cells.size = 1) (hby : bytes ≤ 64)
 (x : Value) (hx : x.oneCell' = true) (ty : TypeId) (hlen : xs.length < 1048576) (hbase : base ≤ w.heap.size) (hto : ∀ b, tag b ≠ .o → b < w.heap.size) :
 ∃ (g cap : Nat) (w' : World) (tag' : Nat → RT), (Builtin.append_ #[T, T] ty #[v, .slice (some ⟨w.heap.size, 0, none⟩) 1 1]).run Tryz.prog (w.alloc (.cells #[x] e)) = .ok (.slice (some ⟨g, 0, none⟩) (xs.length + 1) cap) w' ∧
  w'.ownsRow base e 1 (.slice (some ⟨g, 0, none⟩) (xs.length + 1) cap) (xs.length + 1) (xs ++ [x]) ∧ tag' g = gt ∧ w'.os = w.os ∧ w'.tape = w.tape ∧ w'.output = w.output ∧ w.heap.size + 1 ≤ w'.heap.size ∧
  (∀ b, b < w.heap.size → tag b ≠ gt → w'.heap[b]? = w.heap[b]?) ∧ (∀ b, b ≤ w.heap.size → tag' b = tag b) ∧ (∀ b, w.heap.size ≤ b → tag' b ≠ .o → b < w'.heap.size) := by
 obtain ⟨g, cap, w', hr, r1, ro, rt, rp, rz, rb, rg⟩ := owns_push hrow ht hi hz hs hy hzs hby x hx ty hlen hbase
 have hgl := r1.lt g rfl
 refine ⟨g, cap, w', tagRow tag (w.heap.size + 1) gt (.slice (some ⟨g, 0, none⟩) (xs.length + 1) cap), hr, r1, ?_, ro, rt, rp, rz, fun b hb hn => rb b hb (fun e => hn (htg b e)), fun b hb => tagRow_old (by omega), fun b hb hn => ?_⟩
 ·rcases rg with e | e
  ·have := hto g (by rw [htg g e]; exact hgt)
   rw [tagRow_old (by omega)]; exact htg g e
  ·subst e; exact tagRow_is rfl
 ·by_cases e : b = w.heap.size + 1
  ·subst e
   by_cases e2 : g = w.heap.size + 1
   ·rw [← e2]; exact hgl.2
   ·exfalso; apply hn
    unfold tagRow; rw [tagAt_new, if_neg]
    intro e3
    have e3 : some g = some (w.heap.size + 1) := e3
    exact e2 (Option.some.inj e3)
  ·rw [tagRow_old e] at hn
   have := hto b hn; omega
def RG.code (G : RG) (a : Nat) (c : BdC) (ia : Nat) (v : Value) : RG := { G with B := putN G.B a { c with ins := c.ins ++ [ia], cv := v } }
section
variable {w w' : World} {tag tag' : Nat → RT} {base rb nb lb : Nat} {G : RG}
theorem RdW.newI (h : RdW w tag base rb nb lb G) (i : In7) : RdW (w.alloc (.cells (insC i) 67)) (tagAt tag w.heap.size .ins) base rb nb lb (G.setI w.heap.size i) ∧ Ext w tag (w.alloc (.cells (insC i) 67)) (tagAt tag w.heap.size .ins) := by
 have hx : Ext w tag (w.alloc (.cells (insC i) 67)) (tagAt tag w.heap.size .ins) := ⟨rfl, rfl, rfl, by simp, fun b hb => tagAt_old _ (by omega), fun b hb _ => Below.heap_alloc w _ b hb⟩
 refine ⟨h.step (fun _ => False) hx (fun b hb _ _ => Below.heap_alloc w _ b hb) (fun b hb hn => ?_) ((Below.heap_alloc w _ rb (h.lt h.trd (by simp))).trans h.cell) (fun k _ => .inl ⟨rfl, rfl, id⟩) (.inl ⟨rfl, rfl, id⟩) (.inl ⟨rfl, rfl, id⟩) (.inl ⟨rfl, id⟩) id id id (fun a c hc => .inl ⟨hc, id, id, id⟩) (fun a j hj => ?_) (fun c hc => .inl hc), hx⟩
 ·unfold tagAt at hn
  split at hn
  ·simp; omega
  ·exact absurd (h.tlt b hn).2 (by omega)
 ·have hj' : putN G.I w.heap.size i a = some j := hj
  unfold putN at hj'
  split at hj'
  ·rename_i e
   cases hj'
   rw [e]
   exact .inr ⟨World.alloc_heap_new w _, tagAt_new _ _ _⟩
  ·exact .inl ⟨hj', Below.heap_alloc w _ a (h.lt (h.ins a j hj').2 (by simp))⟩
theorem RdW.code (h : RdW w tag base rb nb lb G) {a : Nat} {c : BdC} (hc : G.B a = some c) (hlen : c.ins.length < 1048576) (ia : Nat) :
 ∃ g cap w3, (Builtin.append_ #[180, 180] 180 #[c.cv, .slice (some ⟨w.heap.size, 0, none⟩) 1 1]).run Tryz.prog (w.alloc (.cells #[ptrV ia] 183)) = .ok (.slice (some ⟨g, 0, none⟩) (c.ins.length + 1) cap) w3 ∧
  w3.cell? ⟨a, 0, none⟩ = some c.cv ∧ w3.frozen? ⟨a, 0, none⟩ = false ∧
  ∃ tag', RdW (w3.setCell ⟨a, 0, none⟩ (.slice (some ⟨g, 0, none⟩) (c.ins.length + 1) cap)) tag' base rb nb lb (G.code a c ia (.slice (some ⟨g, 0, none⟩) (c.ins.length + 1) cap)) ∧ Ext w tag (w3.setCell ⟨a, 0, none⟩ (.slice (some ⟨g, 0, none⟩) (c.ins.length + 1) cap)) tag' := by
 have hB := h.bodies a c hc
 have hal := h.lt hB.ta (by simp)
 have hg3 := h.g3
 have hto : ∀ b, tag b ≠ .o → b < w.heap.size := fun b hb => (h.tlt b hb).2
 obtain ⟨i0, hi, hy0, hy1, hy2⟩ := info_parts Tryz.infoIn
 have hrow := hB.code
 rw [show c.ins.length = (c.ins.map ptrV).length by simp] at hrow
 obtain ⟨g, cap, w3, tag3, hr3, hrow3, htg3, o3, t3, p3, z3, b3, old3, new3⟩ := rowG_push hrow hB.tcode (by simp) Tryz.underlying180 hi hy0 hy1 hy2 rfl (by omega) (ptrV ia) (by simp [Value.oneCell', ptrV]) 180 (by simpa using hlen) (by omega) hto
 rw [List.length_map] at hr3 hrow3
 have hab3 : w3.heap[a]? = w.heap[a]? := b3 a hal (by rw [hB.ta]; simp)
 have hx : Ext w tag (w3.setCell ⟨a, 0, none⟩ (.slice (some ⟨g, 0, none⟩) (c.ins.length + 1) cap)) tag3 := by
  refine ⟨o3, t3, p3, by simp; omega, fun b hb => old3 b (by omega), fun b hb hbo => ?_⟩
  rw [Below.heap_setCell w3 ⟨a, 0, none⟩ _ b (ne_tag hbo hB.ta (by simp))]
  exact b3 b hb (by rw [hbo]; simp)
 have hc3 : w3.cell? ⟨a, 0, none⟩ = some c.cv := by simp [World.cell?, hab3, hB.cell]
 refine ⟨g, cap, w3, hr3, hc3, by simp [World.frozen?, hab3, hB.cell], tag3, ?_, hx⟩
 have hother : ∀ b, b < w.heap.size → tag b ≠ .cd a → tag b ≠ .bd a → (w3.setCell ⟨a, 0, none⟩ (.slice (some ⟨g, 0, none⟩) (c.ins.length + 1) cap)).heap[b]? = w.heap[b]? := fun b hb h1 h2 => by
  rw [Below.heap_setCell w3 ⟨a, 0, none⟩ _ b (fun e => h2 (by have e : b = a := e; rw [e]; exact hB.ta))]
  exact b3 b hb h1
 refine h.step (fun x => x = .cd a ∨ x = .bd a) hx (fun b hb h1 h2 => hother b hb (fun e => h2 (.inl e)) (fun e => h2 (.inr e))) (fun b hb hn => by simp only [World.size_setCell]; exact new3 b hb hn) ((hother rb (h.lt h.trd (by simp)) (by rw [h.trd]; simp) (by rw [h.trd]; simp)).trans h.cell) (fun k hkk => .inl ⟨rfl, rfl, by simp⟩) (.inl ⟨rfl, rfl, by simp⟩) (.inl ⟨rfl, rfl, by simp⟩) (.inl ⟨rfl, by simp⟩) (by simp) (by simp) (by simp) (fun b d hd => ?_) (fun b i hi => .inl ⟨hi, ?_⟩) (fun d hd => .inl hd)
 ·have hd' : putN G.B a { c with ins := c.ins ++ [ia], cv := .slice (some ⟨g, 0, none⟩) (c.ins.length + 1) cap } b = some d := hd
  unfold putN at hd'
  split at hd'
  ·rename_i e
   cases hd'
   rw [e]
   right
   have hgl := hrow3.lt g rfl
   have hga : g ≠ a := fun e => by
    rw [e, old3 a (by omega), hB.ta] at htg3
    cases htg3
   refine ⟨by rw [heap_setCell_same w3 a 0 _ _ _ (hab3.trans hB.cell)]; rfl, ?_, ?_, ?_, ?_, ?_⟩
   ·have e2 : (c.ins ++ [ia]).length = c.ins.length + 1 := by simp
    show World.ownsRow _ base _ 1 _ (c.ins ++ [ia]).length ((c.ins ++ [ia]).map ptrV)
    rw [e2, List.map_append]
    exact owns_same hrow3 fun x hx => by
     have hx : some g = some x := hx
     cases hx
     exact Below.heap_setCell w3 ⟨a, 0, none⟩ _ g hga
   ·intro x hx
    have hx : some g = some x := hx
    cases hx
    exact htg3
   ·refine hB.labs.kept (hother c.lm (h.lt hB.tl (by simp)) (by rw [hB.tl]; simp) (by rw [hB.tl]; simp)) fun x hx => ?_
    have hl := h.lt hx (by simp)
    exact ⟨hother x hl (by rw [hx]; simp) (by rw [hx]; simp), (old3 x (by omega)).trans hx⟩
   ·exact (old3 a (by omega)).trans hB.ta
   ·exact (old3 c.lm (by have := h.lt hB.tl (by simp); omega)).trans hB.tl
  ·rename_i e
   exact .inl ⟨hd', by simpa using e, by simpa using e, by simp⟩
 ·have := h.ins b i hi
  exact hother b (h.lt this.2 (by simp)) (by rw [this.2]; simp) (by rw [this.2]; simp)
end
def fillOne (N : Tx → Option (Int × Nat)) (i : In7) (p : Int × Tx) : Option In7 :=
 if p.1 = 114 then some { i with r := (regN p.2 : Int) } else if p.1 = 97 then some { i with aR := isReg p.2, aN := (argN p.2 : Int) } else if p.1 = 98 then some { i with bR := isReg p.2, bN := (argN p.2 : Int) }
 else if p.1 = 116 then some i else if p.1 = 108 then some i else match N p.2 with
  | some (k, n) => if k = p.1 then some { i with x := (n : Int) } else none
  | none => none
def fillAll (N : Tx → Option (Int × Nat)) : In7 → List (Int × Tx) → Option In7
 | i, [] => some i
 | i, p :: l => match fillOne N i p with
  | some i' => fillAll N i' l
  | none => none
def CloC.key (c : CloC) : Nat × Nat × Int × Tx × Int := (c.ia, c.tb, c.kd, c.nm, c.ln)
def offOf (nb lm ia : Nat) (l : Int) (p : Int × Tx) : List (Nat × Nat × Int × Tx × Int) := if p.1 = 116 then [(ia, nb, p.1, p.2, l)] else if p.1 = 108 then [(ia, lm, p.1, p.2, l)] else []
def zipP (ps : Tx) (ts : List Tx) : List (Int × Tx) := (ps.map fun c => (c.toNat : Int)).zip ts
def newIns (op : Tx) : In7 := ⟨op, 0, false, 0, false, 0, 0⟩
def codeC (l : List In7) : List Value := l.flatMap fun i => (insC i).toList
def thrC (l : List (Tx × Value)) : List Value := l.flatMap fun p => [.string (bs p.1), p.2]
theorem Tryz.infoI7 : (Tryz.prog.info? 67).map (fun i => (i.zero, i.size, i.bytes)) = some (some (.agg #[.string ByteArray.empty, .int .i64 0, .bool false, .int .i64 0, .bool false, .int .i64 0, .int .i64 0]), 7, 64) := by kernel_rfl
theorem Tryz.infoTh : (Tryz.prog.info? 63).map (fun i => (i.zero, i.size, i.bytes)) = some (some (.agg #[.string ByteArray.empty, .slice none 0 0]), 2, 40) := by kernel_rfl
theorem cell_at {W : World} {b e j : Nat} {cs : Array Value} {u : Value} (h : W.heap[b]? = some (.cells cs e)) (hu : cs[j]? = some u) : W.cell? ((⟨b, 0, none⟩ : Addr).add j) = some u := by
 by_cases e0 : j = 0
 ·subst e0; simp [World.cell?, Addr.add, h, hu]
 ·simp [World.cell?, Addr.add, h, hu, e0]
theorem owns_pushN {w : World} {base e size n : Nat} {v : Value} {xs : List Value} {T : TypeId} {i : TypeInfo} {z : Value} {bytes : Nat} (hrow : w.ownsRow base e size v n xs) (ht : Tryz.prog.underlying T = some (.slice e)) (hi : Tryz.prog.info? e = some i) (hz : i.zero = some z) (hs : i.size = size) (hy : i.bytes = bytes) (hzs : z.cells.size = size) (hby : bytes ≤ 64)
 (xc : List Value) (hxl : xc.length = size) (hx : ∀ u ∈ xc, u.oneCell' = true) (ty : TypeId) (hlen : n < 1048576) (hbase : base ≤ w.heap.size) :
 ∃ (g cap : Nat) (w' : World), (Builtin.append_ #[T, T] ty #[v, .slice (some ⟨w.heap.size, 0, none⟩) 1 1]).run Tryz.prog (w.alloc (.cells xc.toArray e)) = .ok (.slice (some ⟨g, 0, none⟩) (n + 1) cap) w' ∧
  w'.ownsRow base e size (.slice (some ⟨g, 0, none⟩) (n + 1) cap) (n + 1) (xs ++ xc) ∧ w'.os = w.os ∧ w'.tape = w.tape ∧ w'.output = w.output ∧ w.heap.size + 1 ≤ w'.heap.size ∧
  (∀ b, b < w.heap.size → v.ownBlock ≠ some b → w'.heap[b]? = w.heap[b]?) ∧ (v.ownBlock = some g ∨ g = w.heap.size + 1) := by
 obtain ⟨v', w', hr, r1, r2, r3⟩ := run_append_blk (P := Tryz.prog) (w.alloc (.cells xc.toArray e)) base T ty e i z size bytes ht hi hz hs hy hzs v n xs (hrow.alloc _) ⟨w.heap.size, 0, none⟩ 1 1 xc (by omega) (by simp [hxl])
  (fun j u hu => cell_at (World.alloc_heap_new w _) (by simpa using hu)) hx (by unfold maxLen; omega)
  (by have : (n + 1) * bytes ≤ 1048576 * 64 := Nat.mul_le_mul (by omega) hby
      omega) (by simp; omega)
 obtain ⟨g, cap, rfl⟩ := ownsRow_succ r1
 refine ⟨g, cap, w', hr, r1, r2.os, r2.tape, r2.output, by have := r2.size; simpa using this, fun b hb hn => (r2.block b (by simp; omega) (fun e => hn e.symm)).trans (Below.heap_alloc w _ b hb), ?_⟩
 rcases r3 with r3 | r3
 ·exact .inl r3.symm
 ·right
  have r3 : some g = some (w.alloc (.cells xc.toArray e)).heap.size := r3
  rw [World.size_alloc] at r3
  exact Option.some.inj r3
theorem step_append_run {P : Program} {ops : Array Oper} {o : Oper} {a : Act} {w : World} {K : Act → World → Prop} {Q : Exit → Act → World → Prop} {E : Prop}
 (hg : o.guard = none) (s x : Operand) (t : TypeId) (hop : o.op = Op.call { callee := Callee.builtin Builtin.append, args := #[s, x], argTypes := #[t, t] }) {v u v' : Value} {w' : World} {ty : TypeId} (hty : o.type = ty)
 (hs : a.eval s = v) (hx : a.eval x = u) (hrun : (Builtin.append_ #[t, t] ty #[v, u]).run P w = .ok v' w') (hK : K (a.put o.dst v') w') : if Region.wanted o (yielded ops a.tmps) = true then Oper.wp P o a w K Q else E := by
 have hw : Region.wanted o (yielded ops a.tmps) = true := by simp [Region.wanted, hg]
 rw [if_pos hw]
 unfold Oper.wp
 simp [execOp, hop, resolve, invoke, builtin, hs, hx, hty, hrun, Result.andThen]
 exact hK
theorem owns_len {w : World} {base e size n : Nat} {v : Value} {xs : List Value} (h : w.ownsRow base e size v n xs) : ∃ a cap, v = .slice a n cap := by
 rcases h.2 with ⟨h1, h2⟩ | ⟨g, cap, cur, h1, _⟩
 ·exact ⟨none, 0, by rw [h1, h2]⟩
 ·exact ⟨_, _, h1⟩
theorem c_base {w : World} {base base' e size n : Nat} {v : Value} {xs : List Value} (h : w.ownsRow base e size v n xs) (hb : base' ≤ base) : w.ownsRow base' e size v n xs := by
 refine ⟨h.1, ?_⟩
 rcases h.2 with hn | ⟨g, cap, cur, hv, h1, rest⟩
 ·exact .inl hn
 ·exact .inr ⟨g, cap, cur, hv, by omega, rest⟩
structure CompI (w1 w : World) (tb : Nat) (name : Tx) (cv : Value) (is : List In7) : Prop where
 cell : w.heap[tb]? = some (.cells #[.string (bs name), cv] 63)
 row : w.ownsRow (tb + 1) 67 7 cv is.length (codeC is)
 os : w.os = w1.os
 tape : w.tape = w1.tape
 output : w.output = w1.output
 size : tb < w.heap.size
 old : ∀ b, b < tb → w.heap[b]? = w1.heap[b]?
theorem CompI.push {w1 w : World} {tb : Nat} {name : Tx} {cv : Value} {is : List In7} (h : CompI w1 w tb name cv is) (i : In7) (hlen : is.length < 1048576) :
 ∃ g cap w3, (Builtin.append_ #[61, 61] 61 #[cv, .slice (some ⟨w.heap.size, 0, none⟩) 1 1]).run Tryz.prog (w.alloc (.cells (insC i) 67)) = .ok (.slice (some ⟨g, 0, none⟩) (is.length + 1) cap) w3 ∧
  w3.cell? ⟨tb, 1, none⟩ = some cv ∧ w3.frozen? ⟨tb, 1, none⟩ = false ∧ w3.cell? ⟨tb, 0, none⟩ = some (.string (bs name)) ∧ CompI w1 (w3.setCell ⟨tb, 1, none⟩ (.slice (some ⟨g, 0, none⟩) (is.length + 1) cap)) tb name (.slice (some ⟨g, 0, none⟩) (is.length + 1) cap) (is ++ [i]) ∧ (∀ b, b < tb → w3.heap[b]? = w1.heap[b]?) := by
 obtain ⟨i0, hi, hy0, hy1, hy2⟩ := info_parts Tryz.infoI7
 have hsz := h.size
 obtain ⟨g, cap, w3, hr, r1, ro, rt, rp, rz, rb, rg⟩ := owns_pushN h.row Tryz.underlying61 hi hy0 hy1 hy2 rfl (by omega) (insC i).toList (by simp [insC]) (by intro u hu; simp [insC] at hu; rcases hu with rfl | rfl | rfl | rfl | rfl | rfl | rfl <;> rfl) 61 hlen (by omega)
 have hno : ∀ b, b ≤ tb → cv.ownBlock ≠ some b := fun b hb e => by have := (h.row.lt b e).1; omega
 have hcell : w3.heap[tb]? = some (.cells #[.string (bs name), cv] 63) := (rb tb hsz (hno tb (Nat.le_refl _))).trans h.cell
 have hold : ∀ b, b < tb → w3.heap[b]? = w1.heap[b]? := fun b hb => (rb b (by omega) (hno b (by omega))).trans (h.old b hb)
 refine ⟨g, cap, w3, hr, by simp [World.cell?, hcell], by simp [World.frozen?, hcell], by simp [World.cell?, hcell], ⟨by rw [heap_setCell_same w3 tb 1 _ _ _ hcell]; rfl, ?_, ro.trans h.os, rt.trans h.tape, rp.trans h.output, by simp; omega, fun b hb => (Below.heap_setCell w3 ⟨tb, 1, none⟩ _ b (by show b ≠ tb; omega)).trans (hold b hb)⟩, hold⟩
 have e1 : codeC (is ++ [i]) = codeC is ++ (insC i).toList := by simp [codeC]
 rw [List.length_append, e1]
 refine owns_same r1 fun x hx => ?_
 have hgl := (r1.lt x hx).1
 exact Below.heap_setCell w3 ⟨tb, 1, none⟩ _ x (by show x ≠ tb; omega)
structure CompO (w0 w : World) (rb nb lb : Nat) (G : RG) (thV : Value) (L : List (Tx × Value)) (C : List (List In7)) : Prop where
 cell : w.heap[rb]? = some (.cells #[.int .i64 G.line, G.V 118, G.V 102, G.V 109, thV, G.V 116, G.bV, .map (some nb), .map (some lb), G.lV] 134)
 row : w.ownsRow w0.heap.size 63 2 thV L.length (thrC L)
 codes : ∀ (i : Nat) (p : Tx × Value) (is : List In7), L[i]? = some p → C[i]? = some is → w.ownsRow w0.heap.size 67 7 p.2 is.length (codeC is)
 len : C.length = L.length
 os : w.os = w0.os
 tape : w.tape = w0.tape
 output : w.output = w0.output
 size : w0.heap.size ≤ w.heap.size
 old : ∀ b, b < w0.heap.size → b ≠ rb → w.heap[b]? = w0.heap[b]?
theorem CompO.push {w0 wo w : World} {rb nb lb : Nat} {G : RG} {thV : Value} {L : List (Tx × Value)} {C : List (List In7)} {nm : Tx} {cv : Value} {is : List In7} (h : CompO w0 wo rb nb lb G thV L C) (hI : CompI wo w wo.heap.size nm cv is) (hr : rb < w0.heap.size) (hlen : L.length < 1048576) :
 ∃ g cap w3, (Builtin.append_ #[24, 24] 24 #[thV, .slice (some ⟨w.heap.size, 0, none⟩) 1 1]).run Tryz.prog (w.alloc (.cells #[.string (bs nm), cv] 63)) = .ok (.slice (some ⟨g, 0, none⟩) (L.length + 1) cap) w3 ∧
  w3.cell? ⟨rb, 4, none⟩ = some thV ∧ w3.frozen? ⟨rb, 4, none⟩ = false ∧ CompO w0 (w3.setCell ⟨rb, 4, none⟩ (.slice (some ⟨g, 0, none⟩) (L.length + 1) cap)) rb nb lb G (.slice (some ⟨g, 0, none⟩) (L.length + 1) cap) (L ++ [(nm, cv)]) (C ++ [is]) := by
 obtain ⟨i0, hi, hy0, hy1, hy2⟩ := info_parts Tryz.infoTh
 have hsz := h.size
 have hsi := hI.size
 have hro : w.heap[rb]? = wo.heap[rb]? := hI.old rb (by omega)
 have hrow : w.ownsRow w0.heap.size 63 2 thV L.length (thrC L) := owns_same h.row fun g e => hI.old g (h.row.lt g e).2
 obtain ⟨ca, ccap, hcv⟩ := owns_len hI.row
 obtain ⟨g, cap, w3, hrun, r1, ro, rt, rp, rz, rbk, rg⟩ := owns_pushN hrow Tryz.underlying24 hi hy0 hy1 hy2 rfl (by omega) [.string (bs nm), cv] rfl (by rw [hcv]; simp [Value.oneCell']) 24 hlen (by omega)
 have hno : ∀ b, b < w0.heap.size → thV.ownBlock ≠ some b := fun b hb e => by have := (h.row.lt b e).1; omega
 have hr3 : w3.heap[rb]? = some (.cells #[.int .i64 G.line, G.V 118, G.V 102, G.V 109, thV, G.V 116, G.bV, .map (some nb), .map (some lb), G.lV] 134) := (rbk rb (by omega) (hno rb hr)).trans (hro.trans h.cell)
 have hcode : ∀ {v : Value} {l : List In7} {b : Nat}, w.ownsRow b 67 7 v l.length (codeC l) → w0.heap.size ≤ b → (w3.setCell ⟨rb, 4, none⟩ (.slice (some ⟨g, 0, none⟩) (L.length + 1) cap)).ownsRow w0.heap.size 67 7 v l.length (codeC l) := fun {v l b} hv hb => by
  refine c_base (owns_same hv fun x e => ?_) hb
  have hx := hv.lt x e
  rw [Below.heap_setCell w3 ⟨rb, 4, none⟩ _ x (by show x ≠ rb; omega)]
  refine rbk x hx.2 (fun e2 => ?_)
  rcases hv.2 with ⟨rfl, _⟩ | ⟨y, c1, u1, rfl, _, hy, _⟩
  ·cases e
  ·rcases hrow.2 with ⟨rfl, _⟩ | ⟨z, c2, u2, rfl, _, hz, _⟩
   ·cases e2
   ·have e : some y = some x := e
    have e2 : some z = some x := e2
    cases e; cases e2
    rw [hy] at hz
    have : (67 : Nat) = 63 := by
     have := Option.some.inj hz
     simp only [Obj.cells.injEq] at this
     exact this.2.1
    omega
 refine ⟨g, cap, w3, hrun, by simp [World.cell?, hr3], by simp [World.frozen?, hr3], ⟨by rw [heap_setCell_same w3 rb 4 _ _ _ hr3]; rfl, ?_, fun i p js hp hjs => ?_, by simp [h.len], ro.trans (hI.os.trans h.os), rt.trans (hI.tape.trans h.tape), rp.trans (hI.output.trans h.output), by simp; omega, fun b hb hbr => ?_⟩⟩
 ·have e1 : thrC (L ++ [(nm, cv)]) = thrC L ++ [.string (bs nm), cv] := by simp [thrC]
  rw [List.length_append, e1]
  refine owns_same r1 fun x e => ?_
  have := (r1.lt x e).1
  exact Below.heap_setCell w3 ⟨rb, 4, none⟩ _ x (by show x ≠ rb; omega)
 ·by_cases e : i < L.length
  ·rw [List.getElem?_append_left e] at hp
   rw [List.getElem?_append_left (by rw [h.len]; exact e)] at hjs
   have hv := h.codes i p js hp hjs
   exact hcode (owns_same hv fun x ex => hI.old x (hv.lt x ex).2) (Nat.le_refl _)
  ·have hi' : i = L.length := by
    have := (List.getElem?_eq_some_iff.1 hp).1
    simp at this; omega
   subst hi'
   rw [List.getElem?_append_right (Nat.le_refl _), Nat.sub_self] at hp
   rw [List.getElem?_append_right (by rw [h.len]; exact Nat.le_refl _), h.len, Nat.sub_self] at hjs
   cases hp; cases hjs
   exact hcode hI.row (by omega)
 ·rw [Below.heap_setCell w3 ⟨rb, 4, none⟩ _ b hbr]
  exact (rbk b (by omega) (hno b hb)).trans ((hI.old b (by omega)).trans (h.old b hb hbr))
end Go.Proofs.YtcfpedjfofpnkaaGreatDoor
namespace Go.Proofs.YtcfpedjfofpnkaaGreatDoor
open Go.RowKit Go.Proofs.Cod
open Go.Lib (indexByte indexByte_ge)
theorem cutB_cons (c b : UInt8) (l : Tx) : cutB c (b :: l) = if b == c then [] else b :: cutB c l := by
 unfold cutB
 by_cases h : (b == c) = true
 ·simp [indexByte, h]
 ·have h' : (b == c) = false := by simpa using h
  simp only [indexByte, h', Bool.false_eq_true, if_false]
  by_cases hl : indexByte l c = -1
  ·simp [hl]
  ·have hge := indexByte_ge l c
   obtain ⟨j, hj⟩ : ∃ j : Nat, indexByte l c = j := ⟨(indexByte l c).toNat, by omega⟩
   rw [hj]
   have e1 : ((j : Int) == -1) = false := by simp
   simp only [e1, Bool.false_eq_true, if_false]
   have e2 : ¬ ((j : Int) + 1 = -1) := by omega
   have e3 : ¬ ((j : Int) = -1) := by omega
   have e4 : ((j : Int) + 1).toNat = j + 1 := by omega
   simp [e2, e3, e4]
def wAcc : List Tx → Tx → Tx → List Tx
 | L, w, [] => if w.isEmpty then L else L ++ [w]
 | L, w, c :: r => if c == 35 then (if w.isEmpty then L else L ++ [w]) else if c == 32 then wAcc (if w.isEmpty then L else L ++ [w]) [] r else wAcc L (w ++ [c]) r
theorem wAcc_eq (r : Tx) : ∀ (L : List Tx) (w : Tx), ∃ p ps, splitT 32 (cutB 35 r) = p :: ps ∧ wAcc L w r = L ++ ((w ++ p) :: ps).filter (fun p => !p.isEmpty) := by
 induction r with
 | nil =>
  intro L w
  refine ⟨[], [], by simp [cutB, indexByte, splitT], ?_⟩
  unfold wAcc
  cases hw : w.isEmpty <;> simp [hw]
 | cons c r ih =>
  intro L w
  unfold wAcc
  rw [cutB_cons]
  by_cases h1 : (c == 35) = true
  ·rw [if_pos h1, if_pos h1]
   refine ⟨[], [], rfl, ?_⟩
   cases hw : w.isEmpty <;> simp [hw]
  ·rw [if_neg h1, if_neg h1]
   by_cases h2 : (c == 32) = true
   ·rw [if_pos h2]
    obtain ⟨p, ps, e1, e2⟩ := ih (if w.isEmpty then L else L ++ [w]) []
    refine ⟨[], p :: ps, ?_, ?_⟩
    ·conv => lhs; unfold splitT
     rw [if_pos h2, e1]
    ·rw [e2]
     cases hw : w.isEmpty <;> simp [hw]
   ·rw [if_neg h2]
    obtain ⟨p, ps, e1, e2⟩ := ih L (w ++ [c])
    refine ⟨c :: p, ps, ?_, ?_⟩
    ·conv => lhs; unfold splitT
     rw [if_neg h2, e1]
    ·rw [e2]; simp
theorem wAcc_words (t : Tx) : wAcc [] [] t = wordsT t := by
 obtain ⟨p, ps, e1, e2⟩ := wAcc_eq t [] []
 rw [e2]; unfold wordsT; rw [e1]; simp
theorem split_piece {c : UInt8} {u : Tx} (hu : ∀ b, b ∈ u → (b == c) = false) (r : Tx) : splitT c (u ++ c :: r) = u :: splitT c r := by
 induction u with
 | nil => simp [splitT]
 | cons b u ih =>
  have hb : (b == c) = false := hu b (by simp)
  show splitT c (b :: (u ++ c :: r)) = _
  conv => lhs; unfold splitT
  rw [hb, ih (fun x hx => hu x (by simp [hx]))]; rfl
theorem split_last {c : UInt8} {u : Tx} (hu : ∀ b, b ∈ u → (b == c) = false) : splitT c u = [u] := by
 induction u with
 | nil => simp [splitT]
 | cons b u ih =>
  have hb : (b == c) = false := hu b (by simp)
  unfold splitT
  rw [hb, ih (fun x hx => hu x (by simp [hx]))]; rfl
structure StrL (w : World) (base : Nat) (wr : World) (v : Value) (L : List Tx) : Prop where
 row : wr.ownsRow base 9 1 v L.length (L.map strW)
 low : Below base w wr
theorem StrL.push {w wr : World} {base : Nat} {v : Value} {L : List Tx} (h : StrL w base wr v L) (hb : base ≤ w.heap.size) (x : Tx) (hl : L.length < 1048576) : ∃ g cap w', (Builtin.append_ #[23, 23] 23 #[v, .slice (some ⟨wr.heap.size, 0, none⟩) 1 1]).run Tryz.prog (wr.alloc (.cells #[.string (bs x)] 9)) = .ok (.slice (some ⟨g, 0, none⟩) (L.length + 1) cap) w' ∧ StrL w base w' (.slice (some ⟨g, 0, none⟩) (L.length + 1) cap) (L ++ [x]) := by
 obtain ⟨i0, hi, hy0, hy1, hy2⟩ := info_parts Tryz.infoTx
 have hrow := h.row
 have e : L.length = (L.map strW).length := by simp
 rw [e] at hrow
 have hls := h.low.size
 obtain ⟨g, cap, w', hr, r1, ro, rt, rp, rz, rb, rg⟩ := owns_push hrow Tryz.underlying23 hi hy0 hy1 hy2 rfl (by omega) (strW x) (by simp [Value.oneCell', strW]) 23 (by simpa using hl) (by omega)
 rw [List.length_map] at hr r1
 refine ⟨g, cap, w', hr, ⟨by rw [List.length_append, List.map_append]; exact r1, ⟨ro.trans h.low.os, rt.trans h.low.tape, rp.trans h.low.output, by omega, fun k hk => (rb k (by omega) (fun e => ?_)).trans (h.low.block k hk)⟩⟩⟩
 have := (hrow.lt k e).1
 omega
set_option maxRecDepth 100000 in
set_option maxHeartbeats 1000000 in
theorem rWords_any (t : Tx) (w : World) (hlen : t.length < 1000000) : Calls Tryz.prog 46 #[.string (bs t)] w fun e w' => ∃ v, e = .returned v ∧ StrL w w.heap.size w' v (wordsT t) := by
 have hz := bs_size t
 have hw := hide (wAcc_words t)
 have h0 : Hid (StrL w w.heap.size w (.slice none 0 0) []) := ⟨World.ownsRow_nil _ _ _ _, Below.refl _ _⟩
 go_enter Tryz.func46, Tryz.ntmps46
 go_wp2_with fail
 go_loopw [3, 4, 5] (fun lv wv iv wr => ∃ (i : Nat) (L : List Tx) (u : Tx), i ≤ t.length ∧ iv = .int .i64 i ∧ wv = .string (bs u) ∧ u.length ≤ i ∧ L.length ≤ i ∧ wAcc L u (t.drop i) = wordsT t ∧ StrL w w.heap.size wr lv L) (fun _ _ iv _ => t.length - (intOf iv).toNat)
 case atStart => exact ⟨0, [], [], Nat.zero_le _, rfl, rfl, Nat.le_refl _, Nat.le_refl _, hw.out, h0.out⟩
 case round =>
  clear h0
  obtain ⟨i, L, u, hi, rfl, rfl, hui, hLi, hacc, hS⟩ := hrel
  obtain ⟨la, lcap, rfl⟩ := owns_len hS.row
  obtain ⟨g, cap, w', hrun, hS'⟩ := hS.push (Nat.le_refl _) u (by omega)
  by_cases h5 : i < t.length
  ·have hb : ∀ h, (bs t)[i]'h = t[i] := fun h => bs_get t i h
   have hlt : (i : Int) < (t.length : Int) := by omega
   have hdrop : t.drop i = t[i] :: t.drop (i + 1) := List.drop_eq_getElem_cons h5
   rw [hdrop] at hacc
   have hx : (bs t).extract i (i + 1) = bs [t[i]] := by
    rw [bs_extract, List.take_succ_eq_append_getElem h5, List.drop_append, List.drop_eq_nil_of_le (by rw [List.length_take]; omega), List.length_take]
    rw [show i - min i t.length = 0 by omega]; rfl
   have happ : bs u ++ bs [t[i]] = bs (u ++ [t[i]]) := bs_append u [t[i]]
   have hwr : wrap64 ((i : Int) + 1) = (i : Int) + 1 := IntWalk.wrap64_in _ (by omega)
   have hle1 : (i : Int) + 1 ≤ (t.length : Int) := by omega
   have hle2 : (i : Int) ≤ (i : Int) + 1 := by omega
   have hsz : ¬ 9223372036854775807 < (bs u).size + (bs [t[i]]).size := by rw [bs_size, bs_size]; simp; omega
   replace hdrop := hide hdrop
   unfold wAcc at hacc
   by_cases h35 : (t[i].toNat : Int) = 35
   ·have e35 : (t[i] == 35) = true := by
     have : t[i].toNat = 35 := by omega
     exact beq_iff_eq.2 (UInt8.toNat_inj.1 this)
    rw [if_pos e35] at hacc
    have hne : ((t[i].toNat : Int) != 35) = false := by simp [h35]
    cases hu : u.isEmpty with
    | true =>
     have hue : (bs u).toList.isEmpty = true := by rw [bs_toList]; exact hu
     rw [hu] at hacc
     have hacc : L = wordsT t := hacc
     have HE := hide (⟨hS, hacc⟩ : _ ∧ _)
     clear hS hacc hS'
     go_wp2_with fail
     go_ret
     exact ⟨_, rfl, by rw [← HE.out.2]; exact HE.out.1⟩
    | false =>
     have hue : (bs u).toList.isEmpty = false := by rw [bs_toList]; exact hu
     rw [hu] at hacc
     have hacc : L ++ [u] = wordsT t := hacc
     have HE := hide (⟨hS', hacc⟩ : _ ∧ _)
     clear hS hacc hS'
     go_wp2_with (at_builtin; refine wpList_append_run rfl _ _ _ rfl rfl rfl rfl hrun ?_)
     go_ret
     exact ⟨_, rfl, by rw [← HE.out.2]; exact HE.out.1⟩
   ·have e35 : ¬ (t[i] == 35) = true := fun e => h35 (by rw [beq_iff_eq.1 e]; rfl)
    rw [if_neg e35] at hacc
    have hne : ((t[i].toNat : Int) != 35) = true := by simpa using h35
    by_cases h32 : (t[i].toNat : Int) = 32
    ·have e32 : (t[i] == 32) = true := by
      have : t[i].toNat = 32 := by omega
      exact beq_iff_eq.2 (UInt8.toNat_inj.1 this)
     rw [if_pos e32] at hacc
     have hne2 : ((t[i].toNat : Int) != 32) = false := by simp [h32]
     cases hu : u.isEmpty with
     | true =>
      have hue : (bs u).toList.isEmpty = true := by rw [bs_toList]; exact hu
      rw [hu] at hacc
      have hacc : wAcc L [] (t.drop (i + 1)) = wordsT t := hacc
      have HE := hide (⟨hS, hacc⟩ : _ ∧ _)
      clear hS hacc hS'
      go_wp2_with fail
      go_roundw
      case rel => exact ⟨i + 1, L, [], by omega, by go_num, rfl, by simp, by omega, HE.out.2, HE.out.1⟩
      case measure => simp [intOf]; omega
     | false =>
      have hue : (bs u).toList.isEmpty = false := by rw [bs_toList]; exact hu
      rw [hu] at hacc
      have hacc : wAcc (L ++ [u]) [] (t.drop (i + 1)) = wordsT t := hacc
      have HE := hide (⟨hS', hacc⟩ : _ ∧ _)
      clear hS hacc hS'
      go_wp2_with (at_builtin; refine wpList_append_run rfl _ _ _ rfl rfl rfl rfl hrun ?_)
      go_roundw
      case rel => exact ⟨i + 1, L ++ [u], [], by omega, by go_num, rfl, by simp, by simp; omega, HE.out.2, HE.out.1⟩
      case measure => simp [intOf]; omega
    ·have e32 : ¬ (t[i] == 32) = true := fun e => h32 (by rw [beq_iff_eq.1 e]; rfl)
     rw [if_neg e32] at hacc
     have hne2 : ((t[i].toNat : Int) != 32) = true := by simpa using h32
     have HE := hide (⟨hS, hacc⟩ : _ ∧ _)
     clear hS hacc hS'
     go_wp2_with fail
     go_roundw
     case rel => exact ⟨i + 1, L, u ++ [t[i]], by omega, by go_num, rfl, by simp; omega, by omega, HE.out.2, HE.out.1⟩
     case measure => simp [intOf]; omega
  ·have hil : i = t.length := by omega
   rw [hil, List.drop_length] at hacc
   subst hil
   unfold wAcc at hacc
   cases hu : u.isEmpty with
   | true =>
    have hue : (bs u).toList.isEmpty = true := by rw [bs_toList]; exact hu
    rw [hu] at hacc
    have hacc : L = wordsT t := hacc
    have HE := hide (⟨hS, hacc⟩ : _ ∧ _)
    clear hS hacc hS'
    go_wp2_with fail
    go_ret
    exact ⟨_, rfl, by rw [← HE.out.2]; exact HE.out.1⟩
   | false =>
    have hue : (bs u).toList.isEmpty = false := by rw [bs_toList]; exact hu
    rw [hu] at hacc
    have hacc : L ++ [u] = wordsT t := hacc
    have HE := hide (⟨hS', hacc⟩ : _ ∧ _)
    clear hS hacc hS'
    go_wp2_with (at_builtin; refine wpList_append_run rfl _ _ _ rfl rfl rfl rfl hrun ?_)
    go_ret
    exact ⟨_, rfl, by rw [← HE.out.2]; exact HE.out.1⟩
end Go.Proofs.YtcfpedjfofpnkaaGreatDoor
namespace Go.Proofs.YtcfpedjfofpnkaaGreatDoor
open Go.RowKit Go.Proofs.Cod
def NoB (c : UInt8) (t : Tx) (a b : Nat) : Prop := ∀ j, a ≤ j → j < b → (h : j < t.length) → (t[j] == c) = false
theorem piece_mem {t : Tx} {a b : Nat} {c : UInt8} (h : NoB c t a b) : ∀ x, x ∈ (t.take b).drop a → (x == c) = false := fun x hx => by
 obtain ⟨k, hk⟩ := List.getElem?_of_mem hx
 rw [List.getElem?_drop] at hk
 obtain ⟨hl, e⟩ := List.getElem?_eq_some_iff.1 hk
 have hl2 : a + k < b ∧ a + k < t.length := by rw [List.length_take] at hl; omega
 have e2 : t[a + k]'hl2.2 = x := by rw [← e, List.getElem_take]
 rw [← e2]
 exact h (a + k) (by omega) hl2.1 hl2.2
set_option maxRecDepth 100000 in
set_option maxHeartbeats 1000000 in
theorem rLines_any (t : Tx) (w : World) (hlen : t.length < 1000000) : Calls Tryz.prog 45 #[.string (bs t)] w fun e w' => ∃ v, e = .returned v ∧ StrL w w.heap.size w' v (splitT 10 t) := by
 have hz := bs_size t
 have h0 : Hid (StrL w w.heap.size w (.slice none 0 0) []) := ⟨World.ownsRow_nil _ _ _ _, Below.refl _ _⟩
 go_enter Tryz.func45, Tryz.ntmps45
 go_wp2_with fail
 go_loopw [3, 4, 5] (fun lv fv iv wr => ∃ (i a : Nat) (L : List Tx), iv = .int .i64 i ∧ fv = .int .i64 a ∧ L.length ≤ i ∧ a ≤ i ∧ StrL w w.heap.size wr lv L ∧ ((i ≤ t.length ∧ splitT 10 t = L ++ splitT 10 (t.drop a) ∧ NoB 10 t a i) ∨ (i = t.length + 1 ∧ L = splitT 10 t))) (fun _ _ iv _ => t.length + 1 - (intOf iv).toNat)
 case atStart => exact ⟨0, 0, [], rfl, rfl, Nat.le_refl _, Nat.le_refl _, h0.out, .inl ⟨Nat.zero_le _, by simp, fun j h1 h2 => by omega⟩⟩
 case round =>
  clear h0
  obtain ⟨i, a, L, rfl, rfl, hLi, hai, hS, hcase⟩ := hrel
  obtain ⟨la, lcap, rfl⟩ := owns_len hS.row
  rcases hcase with ⟨hi, hsp, hno⟩ | ⟨hi, hL⟩
  ·obtain ⟨g, cap, w', hrun, hS'⟩ := hS.push (Nat.le_refl _) ((t.take i).drop a) (by omega)
   have hle : (i : Int) ≤ (t.length : Int) := by omega
   have hwr : wrap64 ((i : Int) + 1) = (i : Int) + 1 := IntWalk.wrap64_in _ (by omega)
   have hx : (bs t).extract a i = bs ((t.take i).drop a) := bs_extract t a i
   have ha1 : (a : Int) ≤ (i : Int) := by omega
   by_cases h5 : i < t.length
   ·have hb : ∀ h, (bs t)[i]'h = t[i] := fun h => bs_get t i h
    have hne : ((i : Int) == (t.length : Int)) = false := by simp; omega
    have htk : t.drop a = (t.take i).drop a ++ t[i] :: t.drop (i + 1) := by
     conv => lhs; rw [← List.take_append_drop i t, List.drop_append, List.length_take]
     rw [show a - min i t.length = 0 by omega, List.drop_zero, List.drop_eq_getElem_cons h5]
    by_cases h10 : (t[i].toNat : Int) = 10
    ·have e10 : t[i] = 10 := by
      have : t[i].toNat = 10 := by omega
      exact UInt8.toNat_inj.1 this
     have hnext : splitT 10 t = (L ++ [(t.take i).drop a]) ++ splitT 10 (t.drop (i + 1)) := by
      rw [hsp, htk, e10, split_piece (piece_mem hno)]; simp
     have hbe : ((t[i].toNat : Int) == 10) = true := by simpa using h10
     have HE := hide (⟨hS', hnext⟩ : _ ∧ _)
     clear hS hS' hsp hno hnext htk e10
     go_wp2_with (at_builtin; refine wpList_append_run rfl _ _ _ rfl rfl rfl rfl hrun ?_)
     go_roundw
     case rel => exact ⟨i + 1, i + 1, _, by go_num, by go_num, by simp; omega, Nat.le_refl _, HE.out.1, .inl ⟨by omega, HE.out.2, fun j h1 h2 => by omega⟩⟩
     case measure => simp [intOf]; omega
    ·have hbe : ((t[i].toNat : Int) == 10) = false := by simpa using h10
     have e10 : (t[i] == 10) = false := by
      cases hq : t[i] == 10 with
      | false => rfl
      | true => exact absurd (by rw [beq_iff_eq.1 hq]; rfl) h10
     have hno' : NoB 10 t a (i + 1) := fun j h1 h2 h3 => by
      by_cases e : j = i
      ·subst e; exact e10
      ·exact hno j h1 (by omega) h3
     have HE := hide (⟨hS, hsp, hno'⟩ : _ ∧ _ ∧ _)
     clear hS hS' hsp hno hno' htk e10
     go_wp2_with fail
     go_roundw
     case rel => exact ⟨i + 1, a, L, by go_num, rfl, by omega, by omega, HE.out.1, .inl ⟨by omega, HE.out.2⟩⟩
     case measure => simp [intOf]; omega
   ·have hil : i = t.length := by omega
    subst hil
    have hnext : L ++ [(t.take t.length).drop a] = splitT 10 t := by
     rw [hsp, List.take_length, split_last]
     have := piece_mem hno
     rw [List.take_length] at this
     exact this
    rw [List.take_length] at hnext hS' hrun hx
    have HE := hide (⟨hS', hnext⟩ : _ ∧ _)
    clear hS hS' hsp hno hnext
    go_wp2_with (at_builtin; refine wpList_append_run rfl _ _ _ rfl rfl rfl rfl hrun ?_)
    go_roundw
    case rel => exact ⟨t.length + 1, t.length + 1, _, by go_num, by go_num, by simp; omega, Nat.le_refl _, HE.out.1, .inr ⟨rfl, HE.out.2⟩⟩
    case measure => simp [intOf]
  ·subst hi
   have hle : ¬ ((t.length : Int) + 1 ≤ (t.length : Int)) := by omega
   have HE := hide (⟨hS, hL⟩ : _ ∧ _)
   clear hS hL
   go_wp2_with fail
   go_ret
   exact ⟨_, rfl, by rw [← HE.out.2]; exact HE.out.1⟩
end Go.Proofs.YtcfpedjfofpnkaaGreatDoor
