import Derived.Test.YtcfpedjfofpnkaaGreatDoorRv2
import Derived.OwnWalkIn
import Derived.Test.YtcfpedjfofpnkaaGreatDoorRv0
import Derived.Laws.Rows
import Derived.BigQuiet
import Derived.RangeFuncBox
import Derived.BigRegion
import Derived.Maps.AppendAt
set_option linter.unusedVariables false
set_option linter.unusedSimpArgs false
namespace Go.Proofs.YtcfpedjfofpnkaaGreatDoor
open Go.RowKit
section
variable {P : Program}
theorem run_append_blk (w : World) (base : Nat) (t ty e : TypeId) (i : TypeInfo) (z : Value) (size bytes : Nat) (ht : P.underlying t = some (.slice e)) (hi : P.info? e = some i) (hz : i.zero = some z)
 (hsize : i.size = size) (hby : i.bytes = bytes) (hzs : z.cells.size = size)
 (v : Value) (n : Nat) (xs : List Value) (hown : w.ownsRow base e size v n xs)
 (a : Addr) (m c : Nat) (news : List Value) (hm : 0 < m) (hl : news.length = m * size) (hnews : ∀ j u, news[j]? = some u → w.cell? (a.add j) = some u) (h1 : ∀ u ∈ news, u.oneCell' = true)
 (h63 : n + m ≤ maxLen) (hbytes : (n + m) * bytes ≤ 140737488355328) (hbase : base ≤ w.heap.size) :
 ∃ v' w', (Builtin.append_ #[t, t] ty #[v, .slice (some a) m c]).run P w = .ok v' w' ∧ w'.ownsRow base e size v' (n + m) (xs ++ news) ∧ w.grownBy w' v.ownBlock ∧ (v'.ownBlock = v.ownBlock ∨ v'.ownBlock = some w.heap.size) := by
 subst hsize
 subst hby
 have hsmall : n + m ≤ 9223372036854775807 := by simp only [maxLen] at h63; omega
 have hlen : (xs ++ news).length = (n + m) * i.size := by rw [List.length_append, hown.1, hl, Nat.add_mul]
 have new : ∀ (old : Nat), old < n + m → ∀ row : Option Nat,
  (w.drew.alloc (.cells (xs.toArray ++ news.toArray ++ Builtin.zeroCells z.cells (grownCap w (n + m) old e - (n + m))) e)).ownsRow base e i.size (.slice (some ⟨w.heap.size, 0, none⟩) (n + m) (grownCap w (n + m) old e)) (n + m) (xs ++ news) ∧
  w.grownBy (w.drew.alloc (.cells (xs.toArray ++ news.toArray ++ Builtin.zeroCells z.cells (grownCap w (n + m) old e - (n + m))) e)) row := by
  intro old ho row
  have hge := grownCap_ge w (n + m) old e
  refine ⟨⟨hlen, .inr ⟨w.heap.size, _, _, rfl, hbase, heap_new_z w.drew _, hge, grownCap_le_maxLen w (n + m) old e h63, ?_, ?_⟩⟩, ⟨rfl, rfl, rfl, by simp, fun k hk _ => Below.heap_alloc w.drew _ k hk⟩⟩
  ·rw [Array.size_append, Array.size_append, size_zeroCells, hzs, List.size_toArray, List.size_toArray, hown.1, hl, ← Nat.add_mul, ← Nat.add_mul]
   congr 1
   omega
  ·rw [← hlen, Array.toList_append, Array.toList_append]
   exact List.take_left
 rcases hown.2 with ⟨rfl, rfl⟩ | ⟨g, cap, cur, rfl, hbg, hg, hnc, hcm, hcs, htake⟩
 ·obtain rfl : xs = [] := List.eq_nil_of_length_eq_zero (by simpa using hown.1)
  have hr := run_append_nil (P := P) w t ty e i z ht hi hz a m c news hl hnews hm (by omega) (by have hb := hbytes; simp only [Nat.zero_add] at hb; omega)
  have hgr := new 0 (by omega) (Value.ownBlock (.slice none 0 0))
  simp only [Nat.zero_add, List.nil_append, Array.empty_append] at hgr ⊢
  exact ⟨_, _, hr, hgr.1, hgr.2, .inr rfl⟩
 ·by_cases hroom : n + m ≤ cap
  ·have hfit : n * i.size + news.length ≤ cur.size := by rw [hl, hcs, ← Nat.add_mul]; exact Nat.mul_le_mul_right _ hroom
   have hr := run_append_room (P := P) w t ty e i ht hi g n cap cur hg a m c news hl hnews h1 hroom hfit
   refine ⟨_, _, hr, ⟨hlen, .inr ⟨g, cap, _, rfl, hbg, setRow_heap w g cur _ e _ hg, hroom, hcm, ?_, ?_⟩⟩, ⟨rfl, rfl, rfl, by simp, fun k _ hk => setRow_other w g k _ (fun e => hk (by simp [Value.ownBlock, e]))⟩, .inl rfl⟩
   ·rw [List.size_toArray, List.length_append, List.length_append, List.length_take, List.length_drop, Array.length_toList]; omega
   ·rw [htake, ← hlen]; exact List.take_left
  ·have holds : ∀ j u, xs[j]? = some u → w.cell? ((⟨g, 0, none⟩ : Addr).add j) = some u := hown.cells (g := g) rfl
   have hr := run_append_grow (P := P) w t ty e i z ht hi hz ⟨g, 0, none⟩ n cap xs hown.1 holds a m c news hl hnews (by omega) (by omega) (growslice_fits (by omega) hbytes)
   have hgr := new cap (by omega) (Value.ownBlock (.slice (some ⟨g, 0, none⟩) n cap))
   exact ⟨_, _, hr, hgr.1, hgr.2, .inr rfl⟩
end
end Go.Proofs.YtcfpedjfofpnkaaGreatDoor
namespace Go.Proofs.YtcfpedjfofpnkaaGreatDoor
open Go.RowKit Go.Proofs.Cod
def strW (p : Tx) : Value := .string (bs p)
def ptrV (b : Nat) : Value := .pointer (some ⟨b, 0, none⟩)
def faultC (e l : Int) : List PanicEntry := [{ v := .iface 127 (.agg #[.int .i64 e, .int .i64 l]), recovered := false }]
inductive RT where
 | o | rd | nm | li | en | ins | clo
 | row (k : Int)
 | bd (a : Nat)
 | cd (a : Nat)
 | lb (a : Nat)
structure In7 where
 op : Tx
 r : Int
 aR : Bool
 aN : Int
 bR : Bool
 bN : Int
 x : Int
def insC (i : In7) : Array Value := #[.string (bs i.op), .int .i64 i.r, .bool i.aR, .int .i64 i.aN, .bool i.bR, .int .i64 i.bN, .int .i64 i.x]
structure BdC where
 lm : Nat
 cv : Value
 ins : List Nat
 labs : Tx → Option Nat
structure CloC where
 ia : Nat
 tb : Nat
 kd : Int
 nm : Tx
 ln : Int
 c0 : Nat
 c1 : Nat
 c2 : Nat
 c3 : Nat
 c4 : Nat
def CloC.val (c : CloC) : Value := .func (.func 145) #[] #[ptrV c.c0, ptrV c.c1, ptrV c.c2, ptrV c.c3, ptrV c.c4]
structure RG where
 line : Int
 nms : Int → List Tx
 V : Int → Value
 bods : List Nat
 bV : Value
 B : Nat → Option BdC
 N : Tx → Option (Int × Nat)
 I : Nat → Option In7
 las : List CloC
 lV : Value
def sk (t : Tx) : Value := .string (bs t)
theorem sk_inj {a b : Tx} (h : sk a = sk b) : a = b := by
 simp only [sk, Value.string.injEq] at h
 exact bs_inj h
def uk (k : Int) : Value := .int .u8 k
def isK (k : Int) : Prop := k = 118 ∨ k = 102 ∨ k = 109 ∨ k = 116
def offK (k : Int) : Nat := if k = 118 then 1 else if k = 102 then 2 else if k = 109 then 3 else 5
open Classical in
def listF (rb : Nat) (k : Int) : Option Value := if k = 118 ∨ k = 102 ∨ k = 109 ∨ k = 116 then some (.pointer (some ⟨rb, offK k, none⟩)) else none
def EntOk (w : World) (tag : Nat → RT) (v : Option Value) (e : Option (Int × Nat)) : Prop :=
 match e with
 | none => v = none
 | some (k, n) => ∃ b, v = some (ptrV b) ∧ w.heap[b]? = some (.cells #[.int .u8 k, .int .i64 n] 202) ∧ tag b = .en
def MapOk (w : World) (tag : Nat → RT) (b : Nat) (N : Tx → Option (Int × Nat)) : Prop := ∃ f n, KMap sk w b f n ∧ ∀ t, EntOk w tag (f t) (N t)
def labE (l : Tx → Option Nat) : Tx → Option (Int × Nat) := fun t => (l t).map fun n => (108, n)
structure BodyOk (w : World) (tag : Nat → RT) (base a : Nat) (c : BdC) : Prop where
 cell : w.heap[a]? = some (.cells #[c.cv, .map (some c.lm)] 182)
 code : w.ownsRow base 183 1 c.cv c.ins.length (c.ins.map ptrV)
 tcode : ∀ g, c.cv.ownBlock = some g → tag g = .cd a
 labs : MapOk w tag c.lm (labE c.labs)
 ta : tag a = .bd a
 tl : tag c.lm = .lb a
structure CloOk (w : World) (tag : Nat → RT) (c : CloC) : Prop where
 d0 : w.heap[c.c0]? = some (.cells #[.map (some c.tb)] 130)
 d1 : w.heap[c.c1]? = some (.cells #[.int .u8 c.kd] 5)
 d2 : w.heap[c.c2]? = some (.cells #[.string (bs c.nm)] 9)
 d3 : w.heap[c.c3]? = some (.cells #[.int .i64 c.ln] 3)
 d4 : w.heap[c.c4]? = some (.cells #[ptrV c.ia] 183)
 t0 : tag c.c0 = .clo
 t1 : tag c.c1 = .clo
 t2 : tag c.c2 = .clo
 t3 : tag c.c3 = .clo
 t4 : tag c.c4 = .clo
structure RowOk (w : World) (tag : Nat → RT) (base : Nat) (e : TypeId) (k : Int) (v : Value) (xs : List Value) : Prop where
 row : w.ownsRow base e 1 v xs.length xs
 tg : ∀ g, v.ownBlock = some g → tag g = .row k
structure RdW (w : World) (tag : Nat → RT) (base rb nb lb : Nat) (G : RG) : Prop where
 cell : w.heap[rb]? = some (.cells #[.int .i64 G.line, G.V 118, G.V 102, G.V 109, .slice none 0 0, G.V 116, G.bV, .map (some nb), .map (some lb), G.lV] 134)
 rows : ∀ k, isK k → RowOk w tag base 9 k (G.V k) ((G.nms k).map strW)
 brow : RowOk w tag base 179 0 G.bV (G.bods.map ptrV)
 lrow : RowOk w tag base 1 1 G.lV (G.las.map CloC.val)
 names : MapOk w tag nb G.N
 lists : ∃ n, KMap uk w lb (listF rb) n
 bodies : ∀ a c, G.B a = some c → BodyOk w tag base a c
 ins : ∀ a i, G.I a = some i → w.heap[a]? = some (.cells (insC i) 67) ∧ tag a = .ins
 clos : ∀ c, c ∈ G.las → CloOk w tag c
 trd : tag rb = .rd
 tnm : tag nb = .nm
 tli : tag lb = .li
 tlt : ∀ b, tag b ≠ .o → base ≤ b ∧ b < w.heap.size
 heads : Heads w
 shapes : Shapes w
 g1 : 0 < base
 g2 : 2 < base
 g3 : base ≤ w.heap.size
structure Ext (w : World) (tag : Nat → RT) (w' : World) (tag' : Nat → RT) : Prop where
 os : w'.os = w.os
 tape : w'.tape = w.tape
 output : w'.output = w.output
 size : w.heap.size ≤ w'.heap.size
 tags : ∀ b, b < w.heap.size → tag' b = tag b
 block : ∀ b, b < w.heap.size → tag b = .o → w'.heap[b]? = w.heap[b]?
theorem Ext.refl (w : World) (tag : Nat → RT) : Ext w tag w tag := ⟨rfl, rfl, rfl, Nat.le_refl _, fun _ _ => rfl, fun _ _ _ => rfl⟩
theorem Ext.trans {w w' w'' : World} {t t' t'' : Nat → RT} (h : Ext w t w' t') (h' : Ext w' t' w'' t'') : Ext w t w'' t'' :=
 ⟨h'.os.trans h.os, h'.tape.trans h.tape, h'.output.trans h.output, Nat.le_trans h.size h'.size, fun b hb => (h'.tags b (Nat.lt_of_lt_of_le hb h.size)).trans (h.tags b hb), fun b hb ho => (h'.block b (Nat.lt_of_lt_of_le hb h.size) ((h.tags b hb).trans ho)).trans (h.block b hb ho)⟩
theorem Ext.of_below {w w' : World} {t : Nat → RT} (h : Below w.heap.size w w') : Ext w t w' t := ⟨h.os, h.tape, h.output, h.size, fun _ _ => rfl, fun b hb _ => h.block b hb⟩
section
variable {w w' : World} {tag tag' : Nat → RT} {base rb nb lb : Nat} {G : RG}
theorem EntOk.kept {v : Option Value} {e : Option (Int × Nat)} (h : EntOk w tag v e) (hb : ∀ b, tag b = .en → w'.heap[b]? = w.heap[b]? ∧ tag' b = .en) : EntOk w' tag' v e := by
 match e, h with
 | none, h => exact h
 | some (k, n), ⟨b, h1, h2, h3⟩ => exact ⟨b, h1, (hb b h3).1.trans h2, (hb b h3).2⟩
theorem MapOk.kept {b : Nat} {N : Tx → Option (Int × Nat)} (h : MapOk w tag b N) (hb : w'.heap[b]? = w.heap[b]?) (he : ∀ b, tag b = .en → w'.heap[b]? = w.heap[b]? ∧ tag' b = .en) : MapOk w' tag' b N := by
 obtain ⟨f, n, h1, h2⟩ := h
 exact ⟨f, n, h1.same hb, fun t => (h2 t).kept he⟩
theorem owns_same {base e size n : Nat} {v : Value} {xs : List Value} (h : w.ownsRow base e size v n xs) (hb : ∀ g, v.ownBlock = some g → w'.heap[g]? = w.heap[g]?) : w'.ownsRow base e size v n xs := by
 refine ⟨h.1, ?_⟩
 rcases h.2 with hn | ⟨g, cap, cur, rfl, hB, hg, rest⟩
 ·exact .inl hn
 ·exact .inr ⟨g, cap, cur, rfl, hB, (hb g rfl).trans hg, rest⟩
theorem RowOk.kept {e : TypeId} {k : Int} {v : Value} {xs : List Value} (h : RowOk w tag base e k v xs) (hb : ∀ b, tag b = .row k → w'.heap[b]? = w.heap[b]? ∧ tag' b = .row k) : RowOk w' tag' base e k v xs :=
 ⟨owns_same h.row fun g e => (hb g (h.tg g e)).1, fun g e => (hb g (h.tg g e)).2⟩
theorem BodyOk.kept {a : Nat} {c : BdC} (h : BodyOk w tag base a c) (hb : ∀ b, (tag b = .en ∨ tag b = .bd a ∨ tag b = .cd a ∨ tag b = .lb a) → w'.heap[b]? = w.heap[b]? ∧ tag' b = tag b) : BodyOk w' tag' base a c := by
 refine ⟨(hb a (.inr (.inl h.ta))).1.trans h.cell, owns_same h.code fun g e => (hb g (.inr (.inr (.inl (h.tcode g e))))).1, fun g e => (hb g (.inr (.inr (.inl (h.tcode g e))))).2.trans (h.tcode g e), h.labs.kept (hb c.lm (.inr (.inr (.inr h.tl)))).1 (fun b e => ?_), (hb a (.inr (.inl h.ta))).2.trans h.ta, (hb c.lm (.inr (.inr (.inr h.tl)))).2.trans h.tl⟩
 have := hb b (.inl e)
 exact ⟨this.1, this.2.trans e⟩
theorem CloOk.kept {c : CloC} (h : CloOk w tag c) (hb : ∀ b, tag b = .clo → w'.heap[b]? = w.heap[b]? ∧ tag' b = .clo) : CloOk w' tag' c :=
 ⟨(hb _ h.t0).1.trans h.d0, (hb _ h.t1).1.trans h.d1, (hb _ h.t2).1.trans h.d2, (hb _ h.t3).1.trans h.d3, (hb _ h.t4).1.trans h.d4, (hb _ h.t0).2, (hb _ h.t1).2, (hb _ h.t2).2, (hb _ h.t3).2, (hb _ h.t4).2⟩
theorem RdW.lt (h : RdW w tag base rb nb lb G) {b : Nat} {g : RT} (e : tag b = g) (hn : g ≠ .o) : b < w.heap.size := (h.tlt b (by rw [e]; exact hn)).2
theorem RdW.low (h : RdW w tag base rb nb lb G) {b : Nat} (e : b < base) : tag b = .o := by
 cases ht : tag b with
 | o => rfl
 | _ => exact absurd (h.tlt b (by rw [ht]; simp)).1 (by omega)
theorem Heads.kept (h : Heads w) (hb : w'.heap[0]? = w.heap[0]?) : Heads w' := by
 obtain ⟨fr, h⟩ := h; exact ⟨fr, hb.trans h⟩
theorem Shapes.kept (h : Shapes w) (hb : w'.heap[2]? = w.heap[2]?) : Shapes w' := by
 obtain ⟨fr, h⟩ := h; exact ⟨fr, hb.trans h⟩
theorem RdW.step (h : RdW w tag base rb nb lb G) {G' : RG} (C : RT → Prop) (hx : Ext w tag w' tag') (hC : ∀ b, b < w.heap.size → tag b ≠ .o → ¬ C (tag b) → w'.heap[b]? = w.heap[b]?)
 (ho : ∀ b, w.heap.size ≤ b → tag' b ≠ .o → b < w'.heap.size)
 (hcell : w'.heap[rb]? = some (.cells #[.int .i64 G'.line, G'.V 118, G'.V 102, G'.V 109, .slice none 0 0, G'.V 116, G'.bV, .map (some nb), .map (some lb), G'.lV] 134))
 (hrows : ∀ k, isK k → (G'.V k = G.V k ∧ G'.nms k = G.nms k ∧ ¬ C (.row k)) ∨ RowOk w' tag' base 9 k (G'.V k) ((G'.nms k).map strW))
 (hbrow : (G'.bV = G.bV ∧ G'.bods = G.bods ∧ ¬ C (.row 0)) ∨ RowOk w' tag' base 179 0 G'.bV (G'.bods.map ptrV))
 (hlrow : (G'.lV = G.lV ∧ G'.las = G.las ∧ ¬ C (.row 1)) ∨ RowOk w' tag' base 1 1 G'.lV (G'.las.map CloC.val))
 (hnames : (G'.N = G.N ∧ ¬ C .nm) ∨ MapOk w' tag' nb G'.N)
 (hli : ¬ C .li) (hen : ¬ C .en) (hclo : ¬ C .clo)
 (hbodies : ∀ a c, G'.B a = some c → (G.B a = some c ∧ ¬ C (.bd a) ∧ ¬ C (.cd a) ∧ ¬ C (.lb a)) ∨ BodyOk w' tag' base a c)
 (hins : ∀ a i, G'.I a = some i → (G.I a = some i ∧ w'.heap[a]? = w.heap[a]?) ∨ (w'.heap[a]? = some (.cells (insC i) 67) ∧ tag' a = .ins))
 (hclos : ∀ c, c ∈ G'.las → c ∈ G.las ∨ CloOk w' tag' c) : RdW w' tag' base rb nb lb G' := by
 have key : ∀ {b : Nat} {g : RT}, tag b = g → g ≠ .o → ¬ C g → w'.heap[b]? = w.heap[b]? ∧ tag' b = g := fun {b g} e h1 h2 => by
  have hl := h.lt e h1
  exact ⟨hC b hl (by rw [e]; exact h1) (by rw [e]; exact h2), (hx.tags b hl).trans e⟩
 have keyt : ∀ {b : Nat} {g : RT}, tag b = g → g ≠ .o → tag' b = g := fun {b g} e h1 => (hx.tags b (h.lt e h1)).trans e
 have hg1 := h.g1
 have hg2 := h.g2
 have hg3 := h.g3
 refine ⟨hcell, fun k hk => ?_, ?_, ?_, ?_, ?_, fun a c hc => ?_, fun a i hi => ?_, fun c hc => ?_, keyt h.trd (by simp), keyt h.tnm (by simp), keyt h.tli (by simp), fun b hb => ?_, h.heads.kept (hx.block _ (by omega) (h.low hg1)), h.shapes.kept (hx.block _ (by omega) (h.low hg2)), hg1, hg2, Nat.le_trans hg3 hx.size⟩
 ·rcases hrows k hk with ⟨e1, e2, e3⟩ | e
  ·rw [e1, e2]; exact (h.rows k hk).kept fun b hb => key hb (by simp) e3
  ·exact e
 ·rcases hbrow with ⟨e1, e2, e3⟩ | e
  ·rw [e1, e2]; exact h.brow.kept fun b hb => key hb (by simp) e3
  ·exact e
 ·rcases hlrow with ⟨e1, e2, e3⟩ | e
  ·rw [e1, e2]; exact h.lrow.kept fun b hb => key hb (by simp) e3
  ·exact e
 ·rcases hnames with ⟨e1, e2⟩ | e
  ·rw [e1]; exact h.names.kept (key h.tnm (by simp) e2).1 fun b hb => key hb (by simp) hen
  ·exact e
 ·obtain ⟨n, hn⟩ := h.lists
  exact ⟨n, hn.same (key h.tli (by simp) hli).1⟩
 ·rcases hbodies a c hc with ⟨e1, e2, e3, e4⟩ | e
  ·refine (h.bodies a c e1).kept fun b hb => ?_
   rcases hb with hb | hb | hb | hb
   ·rw [hb]; exact key hb (by simp) hen
   ·rw [hb]; exact key hb (by simp) e2
   ·rw [hb]; exact key hb (by simp) e3
   ·rw [hb]; exact key hb (by simp) e4
  ·exact e
 ·rcases hins a i hi with ⟨e1, e2⟩ | e
  ·have := h.ins a i e1
   exact ⟨e2.trans this.1, keyt this.2 (by simp)⟩
  ·exact e
 ·rcases hclos c hc with e | e
  ·exact (h.clos c e).kept fun b hb => key hb (by simp) hclo
  ·exact e
 ·by_cases hl : b < w.heap.size
  ·rw [hx.tags b hl] at hb
   have := h.tlt b hb
   exact ⟨this.1, Nat.lt_of_lt_of_le hl hx.size⟩
  ·exact ⟨by omega, ho b (by omega) hb⟩
theorem RdW.keep (h : RdW w tag base rb nb lb G) (hb : ∀ b, b < w.heap.size → w'.heap[b]? = w.heap[b]?) (hx : Ext w tag w' tag) : RdW w' tag base rb nb lb G :=
 h.step (fun _ => False) hx (fun b hl _ _ => hb b hl) (fun b hl e => absurd (h.tlt b e).2 (by omega)) ((hb rb (h.lt h.trd (by simp))).trans h.cell)
  (fun k _ => .inl ⟨rfl, rfl, id⟩) (.inl ⟨rfl, rfl, id⟩) (.inl ⟨rfl, rfl, id⟩) (.inl ⟨rfl, id⟩) id id id (fun a c hc => .inl ⟨hc, id, id, id⟩) (fun a i hi => .inl ⟨hi, hb a (h.lt (h.ins a i hi).2 (by simp))⟩) (fun c hc => .inl hc)
theorem RdW.below (h : RdW w tag base rb nb lb G) (hb : Below w.heap.size w w') : RdW w' tag base rb nb lb G := h.keep hb.block (.of_below hb)
end
theorem plain_key {κ : Type} {enc : κ → Value} {K : TypeId} {d : TypeDesc} (hu : Tryz.prog.underlying K = some d) (hi : ∀ {a b : κ}, enc a = enc b → a = b) (hk : ∀ a, MapKept.IsKey d (enc a)) : KeyL enc K := by
 refine ⟨hi, fun e x w => MapKept.run_checkKey hu (hk x) e 9999, fun x w es he => ?_, fun x w => MapKept.run_keyThatStays (hk x)⟩
 rcases MapKept.findNow_spec (hk x) es 0 (fun e h => by obtain ⟨d', hd'⟩ := he e h; rw [hd']; exact hk d') with ⟨h1, h2⟩ | ⟨j, e, h1, h2, h3⟩
 ·exact .inr ⟨h2, MapKept.run_findKey hu h1⟩
 ·rw [Nat.zero_add] at h1; exact .inl ⟨j, e, h2, h3, MapKept.run_findKey hu h1⟩
theorem Tryz.strKey : KeyL sk 9 := plain_key Tryz.underlying9 sk_inj (fun _ => trivial)
theorem uk_inj {a b : Int} (h : uk a = uk b) : a = b := by simpa [uk] using h
theorem Tryz.u8Key : KeyL uk 5 := plain_key Tryz.underlying5 uk_inj (fun _ => rfl)
section
variable {w w' : World} {tag tag' : Nat → RT} {base rb nb lb : Nat} {G : RG}
theorem RdW.lineC (h : RdW w tag base rb nb lb G) : w.cell? ⟨rb, 0, none⟩ = some (.int .i64 G.line) := by simp [World.cell?, h.cell]
theorem RdW.thrC (h : RdW w tag base rb nb lb G) : w.cell? ⟨rb, 4, none⟩ = some (.slice none 0 0) := by simp [World.cell?, h.cell]
theorem RdW.bodC (h : RdW w tag base rb nb lb G) : w.cell? ⟨rb, 6, none⟩ = some G.bV := by simp [World.cell?, h.cell]
theorem RdW.namC (h : RdW w tag base rb nb lb G) : w.cell? ⟨rb, 7, none⟩ = some (.map (some nb)) := by simp [World.cell?, h.cell]
theorem RdW.lisC (h : RdW w tag base rb nb lb G) : w.cell? ⟨rb, 8, none⟩ = some (.map (some lb)) := by simp [World.cell?, h.cell]
theorem RdW.latC (h : RdW w tag base rb nb lb G) : w.cell? ⟨rb, 9, none⟩ = some G.lV := by simp [World.cell?, h.cell]
theorem RdW.rowC (h : RdW w tag base rb nb lb G) {k : Int} (hk : isK k) : w.cell? ⟨rb, offK k, none⟩ = some (G.V k) := by
 rcases hk with rfl | rfl | rfl | rfl <;> simp [World.cell?, h.cell, offK]
theorem RdW.frz (h : RdW w tag base rb nb lb G) (i : Nat) : w.frozen? ⟨rb, i, none⟩ = false := by simp [World.frozen?, h.cell]
end
set_option maxHeartbeats 400000 in
theorem demand_yes (rb : Nat) (e : Int) (w : World) : Calls Tryz.prog 114 #[ptrV rb, .bool true, .int .i64 e] w fun en w' => en = .returned (.tuple #[]) ∧ w' = w := by
 unfold ptrV
 go_enter Tryz.func114, Tryz.ntmps114
 go_wp2
 go_end0
 exact ⟨rfl, rfl⟩
set_option maxHeartbeats 400000 in
theorem demand_no {rb : Nat} {l : Int} {w : World} (e : Int) (h : w.cell? ⟨rb, 0, none⟩ = some (.int .i64 l)) : Calls Tryz.prog 114 #[ptrV rb, .bool false, .int .i64 e] w fun en w' => en = .panicked (faultC e l) ∧ w' = w := by
 unfold ptrV
 go_enter Tryz.func114, Tryz.ntmps114
 go_wp2
 exact ⟨rfl, rfl, rfl⟩
theorem Tryz.zeroEnt (w : World) : (zeroValue 200).run Tryz.prog w = .ok (.pointer none) w := by kernel_rfl
theorem MapOk.look {w : World} {tag : Nat → RT} {b : Nat} {N : Tx → Option (Int × Nat)} (h : MapOk w tag b N) (t : Tx) :
 (N t = none ∧ (Instr.lookup 130 (.map (some b)) (.string (bs t)) false).run Tryz.prog w = .ok (.pointer none) w) ∨
 ∃ k n e, N t = some (k, n) ∧ (Instr.lookup 130 (.map (some b)) (.string (bs t)) false).run Tryz.prog w = .ok (ptrV e) w ∧ w.heap[e]? = some (.cells #[.int .u8 k, .int .i64 n] 202) ∧ tag e = .en := by
 obtain ⟨f, m, h1, h2⟩ := h
 have hl := h1.look Tryz.strKey Tryz.underlying130 (Tryz.zeroEnt w) t
 have ht := h2 t
 cases hN : N t with
 | none =>
  rw [hN] at ht
  have ht : f t = none := ht
  rw [ht] at hl
  exact .inl ⟨rfl, hl⟩
 | some p =>
  obtain ⟨k, n⟩ := p
  rw [hN] at ht
  obtain ⟨e, e1, e2, e3⟩ := ht
  rw [e1] at hl
  exact .inr ⟨k, n, e, rfl, hl, e2, e3⟩
set_option maxRecDepth 100000 in
set_option maxHeartbeats 400000 in
theorem find_any {w : World} {tag : Nat → RT} {b : Nat} {N : Tx → Option (Int × Nat)} (h : MapOk w tag b N) (kd : Int) (t : Tx) (l : Int) :
 Calls Tryz.prog 136 #[.map (some b), .int .u8 kd, .string (bs t), .int .i64 l] w fun en w' => ((∃ n : Nat, N t = some (kd, n) ∧ en = .returned (.int .i64 n)) ∨ ((∀ n, N t ≠ some (kd, n)) ∧ en = .panicked (faultC 5 l))) ∧ w' = w := by
 rcases h.look t with ⟨h1, h2⟩ | ⟨k, n, e, h1, h2, h3, h4⟩
 ·rw [h1]
  have hp : Hid (faultC 5 l = faultC 5 l) := rfl
  go_enter Tryz.func136, Tryz.ntmps136
  go_wp2
  exact ⟨rfl, .inr ⟨(by intro n hn; cases hn), rfl⟩, rfl⟩
 ·rw [h1]
  unfold ptrV at h2
  have c0 : w.cell? ⟨e, 0, none⟩ = some (.int .u8 k) := by simp [World.cell?, h3]
  have c1 : w.cell? ⟨e, 1, none⟩ = some (.int .i64 n) := by simp [World.cell?, h3]
  clear h1 h3 h4
  by_cases hk : k = kd
  ·subst hk
   go_enter Tryz.func136, Tryz.ntmps136
   go_wp2
   go_ret
   exact ⟨.inl ⟨n, rfl, rfl⟩, rfl⟩
  ·go_enter Tryz.func136, Tryz.ntmps136
   go_wp2
   exact ⟨rfl, .inr ⟨(by intro m hm; cases hm; exact hk rfl), rfl⟩, rfl⟩
theorem last_ptr {w : World} {base e n : Nat} {v : Value} {l : List Nat} (h : w.ownsRow base e 1 v (l.map ptrV).length (l.map ptrV)) (hl : l.length = n + 1) : ∃ g cap a, v = .slice (some ⟨g, 0, none⟩) (n + 1) cap ∧ l.getLast? = some a ∧ w.cell? ⟨g, n, none⟩ = some (ptrV a) := by
 rw [List.length_map, hl] at h
 obtain ⟨g, cap, rfl⟩ := ownsRow_succ h
 obtain ⟨a, ha⟩ : ∃ a, l[n]? = some a := ⟨l[n], List.getElem?_eq_getElem (by omega)⟩
 refine ⟨g, cap, a, rfl, ?_, ?_⟩
 ·rw [List.getLast?_eq_getElem?, hl]; exact ha
 ·rw [h.cellAt n (by omega), List.getElem?_map, ha]; rfl
set_option maxRecDepth 100000 in
set_option maxHeartbeats 400000 in
theorem current_any {w : World} {tag : Nat → RT} {base rb nb lb : Nat} {G : RG} (h : RdW w tag base rb nb lb G) {a : Nat} (ha : G.bods.getLast? = some a) (hb : G.bods.length < 4294967281) :
 Calls Tryz.prog 116 #[ptrV rb] w fun en w' => en = .returned (ptrV a) ∧ Below w.heap.size w w' := by
 obtain ⟨n, hn⟩ : ∃ n, G.bods.length = n + 1 := ⟨G.bods.length - 1, by
  have h0 : G.bods ≠ [] := fun e => by rw [e] at ha; cases ha
  have := List.length_pos_iff.2 h0
  omega⟩
 obtain ⟨g, cap, a', h1, h2, h3⟩ := last_ptr h.brow.row hn
 rw [ha] at h2
 cases h2
 have c0 := h.bodC
 rw [h1] at c0
 have hr := Below.refl w.heap.size w
 have HR := hide hr
 clear hr h1 h ha
 rw [hn] at hb
 clear hn
 unfold ptrV at *
 go_enter Tryz.func116, Tryz.ntmps116
 go_wp2_with fail
 go_quiet (fail)
 go_wp2_with fail
 go_ret
 exact ⟨rfl, ⟨rfl, rfl, rfl, Nat.le_refl _, fun _ _ => rfl⟩⟩
def tagAt (tag : Nat → RT) (b0 : Nat) (g : RT) (b : Nat) : RT := if b = b0 then g else tag b
theorem tagAt_new (tag : Nat → RT) (b0 : Nat) (g : RT) : tagAt tag b0 g b0 = g := by simp [tagAt]
theorem tagAt_old {tag : Nat → RT} {b0 b : Nat} (g : RT) (h : b ≠ b0) : tagAt tag b0 g b = tag b := by simp [tagAt, h]
def putT {α : Type} (f : Tx → Option α) (t : Tx) (v : α) : Tx → Option α := fun x => if x = t then some v else f x
def putN {α : Type} (f : Nat → Option α) (t : Nat) (v : α) : Nat → Option α := fun x => if x = t then some v else f x
def Out (w : World) (tag : Nat → RT) (base rb nb lb : Nat) (l : Int) (P : RG → Prop) (E : Int → Prop) (en : Ending) (w' : World) : Prop :=
 (∃ tag' G', en = .returned (.tuple #[]) ∧ RdW w' tag' base rb nb lb G' ∧ Ext w tag w' tag' ∧ P G') ∨ (∃ tag' e, en = .panicked (faultC e l) ∧ Ext w tag w' tag' ∧ E e)
theorem MapOk.put {w : World} {tag : Nat → RT} {b : Nat} {N : Tx → Option (Int × Nat)} (h : MapOk w tag b N) (t : Tx) (k : Int) (n : Nat) (hen : ∀ b, tag b = .en → b < w.heap.size) (hb : tag b ≠ .en) (hlt : b < w.heap.size) :
 ∃ w', (Instr.mapUpdate 130 (.map (some b)) (.string (bs t)) (.pointer (some ⟨w.heap.size, 0, none⟩))).run Tryz.prog ((w.alloc (.cells #[.int .u8 k, .int .i64 n] 202)).drew) = .ok () w' ∧
  MapOk w' (tagAt tag w.heap.size .en) b (putT N t (k, n)) ∧ w'.heap.size = w.heap.size + 1 ∧ w'.os = w.os ∧ w'.tape = w.tape ∧ w'.output = w.output ∧ (∀ x, x < w.heap.size → x ≠ b → w'.heap[x]? = w.heap[x]?) := by
 obtain ⟨f, m, h1, h2⟩ := h
 obtain ⟨W, hW⟩ : ∃ W, (w.alloc (.cells #[.int .u8 k, .int .i64 n] 202)).drew = W := ⟨_, rfl⟩
 have hbk : ∀ x, x < w.heap.size → W.heap[x]? = w.heap[x]? := fun x hx => by rw [← hW]; exact Below.heap_alloc w _ x hx
 have hz : W.heap.size = w.heap.size + 1 := by rw [← hW]; simp
 have hnew : W.heap[w.heap.size]? = some (.cells #[.int .u8 k, .int .i64 n] 202) := by rw [← hW]; exact World.alloc_heap_new w _
 obtain ⟨w', hrun, hM, hg, hz'⟩ := (h1.same (hbk b hlt)).put Tryz.strKey Tryz.underlying130 t (ptrV w.heap.size)
 rw [hW]
 refine ⟨w', hrun, ⟨_, _, hM, fun x => ?_⟩, hz'.trans hz, hg.os.trans (by rw [← hW]; rfl), hg.tape.trans (by rw [← hW]; rfl), hg.output.trans (by rw [← hW]; rfl), fun x hx hn => (hg.block x (by omega) (by simpa using hn)).trans (hbk x hx)⟩
 have hkeep : ∀ c, tag c = .en → w'.heap[c]? = w.heap[c]? ∧ tagAt tag w.heap.size .en c = .en := fun c hc => by
  have hl := hen c hc
  refine ⟨(hg.block c (by omega) (by simp; intro e; subst e; exact hb hc)).trans (hbk c hl), ?_⟩
  rw [tagAt_old _ (by omega)]; exact hc
 by_cases hx : x = t
 ·subst hx
  have e1 : putK f x (ptrV w.heap.size) x = some (ptrV w.heap.size) := putK_same _ _ _
  have e2 : putT N x (k, n) x = some (k, n) := by simp [putT]
  rw [e2]
  exact ⟨w.heap.size, e1, (hg.block w.heap.size (by omega) (by simp; omega)).trans hnew, tagAt_new _ _ _⟩
 ·have e2 : putT N t (k, n) x = N x := by simp [putT, hx]
  rw [putK_other _ hx, e2]
  exact (h2 x).kept hkeep
section
variable {w w' : World} {tag tag' : Nat → RT} {base rb nb lb : Nat} {G : RG}
def RG.mark (G : RG) (a : Nat) (c : BdC) (t : Tx) : RG := { G with B := putN G.B a { c with labs := putT c.labs t c.ins.length } }
theorem RdW.mark (h : RdW w tag base rb nb lb G) {a : Nat} {c : BdC} (hc : G.B a = some c) (t : Tx) :
 ∃ w', (Instr.mapUpdate 130 (.map (some c.lm)) (.string (bs t)) (.pointer (some ⟨w.heap.size, 0, none⟩))).run Tryz.prog ((w.alloc (.cells #[.int .u8 108, .int .i64 c.ins.length] 202)).drew) = .ok () w' ∧
  ∃ tag', RdW w' tag' base rb nb lb (G.mark a c t) ∧ Ext w tag w' tag' := by
 have hB := h.bodies a c hc
 have hlm := h.lt hB.tl (by simp)
 obtain ⟨w', hrun, hM, hz, ho, ht, hp, hk⟩ := hB.labs.put t 108 c.ins.length (fun b hb => h.lt hb (by simp)) (by rw [hB.tl]; simp) hlm
 have hx : Ext w tag w' (tagAt tag w.heap.size .en) := ⟨ho, ht, hp, by omega, fun b hb => tagAt_old _ (by omega), fun b hb ho => hk b hb (fun e => by rw [e, hB.tl] at ho; cases ho)⟩
 refine ⟨w', hrun, tagAt tag w.heap.size .en, h.step (fun g => g = .lb a) hx (fun b hb h1 h2 => hk b hb (fun e => h2 (by rw [e]; exact hB.tl))) ?_ ((hk rb (h.lt h.trd (by simp)) (fun e => ?_)).trans h.cell) (fun k _ => .inl ⟨rfl, rfl, by simp⟩) (.inl ⟨rfl, rfl, by simp⟩) (.inl ⟨rfl, rfl, by simp⟩) (.inl ⟨rfl, by simp⟩) (by simp) (by simp) (by simp) (fun b d hd => ?_) (fun b i hi => .inl ⟨hi, ?_⟩) (fun d hd => .inl hd), hx⟩
 ·intro b hb hb'
  unfold tagAt at hb'
  split at hb'
  ·omega
  ·exact absurd (h.tlt b hb').2 (by omega)
 ·have h1 := h.trd; rw [e, hB.tl] at h1; cases h1
 ·have hd' : putN G.B a { c with labs := putT c.labs t c.ins.length } b = some d := hd
  unfold putN at hd'
  split at hd'
  ·rename_i e
   subst e
   cases hd'
   right
   have hkb : ∀ x, tag x = .bd b ∨ tag x = .cd b → w'.heap[x]? = w.heap[x]? ∧ tagAt tag w.heap.size .en x = tag x := fun x hx => by
    have hlx : x < w.heap.size := by rcases hx with e | e <;> exact h.lt e (by simp)
    exact ⟨hk x hlx (fun e => by rw [e, hB.tl] at hx; rcases hx with e | e <;> cases e), tagAt_old _ (by omega)⟩
   refine ⟨(hkb b (.inl hB.ta)).1.trans hB.cell, owns_same hB.code fun g e => (hkb g (.inr (hB.tcode g e))).1, fun g e => (hkb g (.inr (hB.tcode g e))).2.trans (hB.tcode g e), ?_, (hkb b (.inl hB.ta)).2.trans hB.ta, (tagAt_old _ (by show c.lm ≠ w.heap.size; omega)).trans hB.tl⟩
   have e : putT (labE c.labs) t (108, c.ins.length) = labE (putT c.labs t c.ins.length) := by
    funext x
    unfold putT labE
    by_cases hx : x = t <;> simp [hx]
   rw [← e]; exact hM
  ·rename_i e
   exact .inl ⟨hd', by simp, by simp, by simpa using e⟩
 ·have := h.ins b i hi
  exact hk b (h.lt this.2 (by simp)) (fun e => by rw [e, hB.tl] at this; cases this.2)
end
theorem ptr_nil_eq (w : World) : Sem.run Tryz.prog (binOp .eql 200 (.pointer none) (.pointer none)) w = .ok (.bool true) w := by kernel_rfl
theorem row_len {w : World} {base e : Nat} {v : Value} {l : List Nat} (h : w.ownsRow base e 1 v l.length (l.map ptrV)) : ∃ a cap, v = .slice a l.length cap := by
 rcases h.2 with ⟨h1, h2⟩ | ⟨g, cap, cur, h1, _⟩
 ·exact ⟨none, 0, by rw [h1, h2]⟩
 ·exact ⟨_, _, h1⟩
set_option maxRecDepth 100000 in
set_option maxHeartbeats 1000000 in
theorem mark_any {w : World} {tag : Nat → RT} {base rb nb lb : Nat} {G : RG} (h : RdW w tag base rb nb lb G) {a : Nat} {c : BdC} (ha : G.bods.getLast? = some a) (hb : G.bods.length < 4294967281) (hc : G.B a = some c) (t : Tx) :
 Calls Tryz.prog 99 #[ptrV rb, .string (bs t)] w (Out w tag base rb nb lb G.line (fun G' => isNam t = true ∧ c.labs t = none ∧ G' = G.mark a c t) (fun e => (isNam t = false ∧ e = 2) ∨ (isNam t = true ∧ (∃ n, c.labs t = some n) ∧ e = 3))) := by
 have HC := hide (fun (w' : World) (hb' : Below w.heap.size w w') => h.below hb')
 have HX := hide (fun (w' : World) (hb' : Below w.heap.size w w') => (Ext.of_below hb' : Ext w tag w' tag))
 have hcur := current_any h ha hb
 unfold ptrV at hcur ⊢
 clear ha hb h
 go_enter Tryz.func99, Tryz.ntmps99
 go_wp2_with fail
 refine hcur.mono ?_
 rintro e w1 ⟨rfl, hb1⟩
 have hR := HC.out _ hb1
 have hX := HX.out _ hb1
 clear HC HX hcur hb1
 have hB := hR.bodies a c hc
 have cl := hR.lineC
 have c1 : w1.cell? ⟨a, 1, none⟩ = some (.map (some c.lm)) := by simp [World.cell?, hB.cell]
 have c0 : w1.cell? ⟨a, 0, none⟩ = some c.cv := by simp [World.cell?, hB.cell]
 have hla := hR.lt hB.ta (by simp)
 obtain ⟨sa, scap, hcv⟩ := row_len hB.code
 rw [hcv] at c0
 have hlook := hB.labs.look t
 obtain ⟨w', hrun, tag', hR', hX'⟩ := hR.mark hc t
 have HE := hide (⟨hR', hX'⟩ : _ ∧ _)
 have HX := hide hX
 clear hR' hX' hR hX hB hcv
 go_wp2_with fail
 refine (isName_any t _).mono ?_
 rintro e w2 ⟨rfl, rfl⟩
 cases hn : isNam t with
 | false =>
  go_wp2_with fail
  refine (demand_no 2 cl).mono ?_
  rintro e w3 ⟨rfl, rfl⟩
  exact ⟨rfl, .inr ⟨tag, 2, rfl, HX.out, .inl ⟨hn, rfl⟩⟩⟩
 | true =>
  go_wp2_with fail
  refine (demand_yes rb 2 _).mono ?_
  rintro e w3 ⟨rfl, rfl⟩
  rcases hlook with ⟨h1, h2⟩ | ⟨k, n, en, h1, h2, _⟩
  ·have hl : c.labs t = none := by
    cases hq : c.labs t with
    | none => rfl
    | some n => simp [labE, hq] at h1
   clear h1
   have hpe := ptr_nil_eq
   go_wp2_with fail
   refine (demand_yes rb 3 _).mono ?_
   rintro e w4 ⟨rfl, rfl⟩
   go_wp2_with fail
   go_region
   all_goals
    go_wp2_with fail
    go_end0
    exact .inl ⟨tag', _, rfl, HE.out.1, HX.out.trans HE.out.2, hn, hl, rfl⟩
  ·have hl : ∃ m, c.labs t = some m := by
    cases hq : c.labs t with
    | none => simp [labE, hq] at h1
    | some m => exact ⟨m, rfl⟩
   have hl := hide hl
   clear h1
   unfold ptrV at h2
   go_wp2_with fail
   refine (demand_no 3 cl).mono ?_
   rintro e w4 ⟨rfl, rfl⟩
   exact ⟨rfl, .inr ⟨tag, 3, rfl, HX.out, .inr ⟨hn, hl.out, rfl⟩⟩⟩
theorem ne_tag {tag : Nat → RT} {b c : Nat} {g g' : RT} (h : tag b = g) (h' : tag c = g') (hn : g ≠ g') : b ≠ c := fun e => hn (by rw [← h, ← h', e])
def tagRow (tag : Nat → RT) (n : Nat) (g : RT) (v : Value) : Nat → RT := tagAt tag n (open Classical in if v.ownBlock = some n then g else .o)
theorem tagRow_old {tag : Nat → RT} {n b : Nat} {g : RT} {v : Value} (h : b ≠ n) : tagRow tag n g v b = tag b := tagAt_old _ h
theorem tagRow_is {tag : Nat → RT} {n : Nat} {g : RT} {v : Value} (h : v.ownBlock = some n) : tagRow tag n g v n = g := by
 unfold tagRow; rw [tagAt_new, if_pos h]
theorem owns_push {w : World} {base e : Nat} {v : Value} {xs : List Value} {T : TypeId} {i : TypeInfo} {z : Value} {bytes : Nat} (hrow : w.ownsRow base e 1 v xs.length xs) (ht : Tryz.prog.underlying T = some (.slice e)) (hi : Tryz.prog.info? e = some i) (hz : i.zero = some z) (hs : i.size = 1) (hy : i.bytes = bytes) (hzs : z.cells.size = 1) (hby : bytes ≤ 64)
 (x : Value) (hx : x.oneCell' = true) (ty : TypeId) (hlen : xs.length < 1048576) (hbase : base ≤ w.heap.size) :
 ∃ g cap w', (Builtin.append_ #[T, T] ty #[v, .slice (some ⟨w.heap.size, 0, none⟩) 1 1]).run Tryz.prog (w.alloc (.cells #[x] e)) = .ok (.slice (some ⟨g, 0, none⟩) (xs.length + 1) cap) w' ∧
  w'.ownsRow base e 1 (.slice (some ⟨g, 0, none⟩) (xs.length + 1) cap) (xs.length + 1) (xs ++ [x]) ∧ w'.os = w.os ∧ w'.tape = w.tape ∧ w'.output = w.output ∧ w.heap.size + 1 ≤ w'.heap.size ∧
  (∀ b, b < w.heap.size → v.ownBlock ≠ some b → w'.heap[b]? = w.heap[b]?) ∧ (v.ownBlock = some g ∨ g = w.heap.size + 1) := by
 obtain ⟨v', w', hr, r1, r2, r3⟩ := run_append_blk (P := Tryz.prog) (w.alloc (.cells #[x] e)) base T ty e i z 1 bytes ht hi hz hs hy hzs v xs.length xs (hrow.alloc _) ⟨w.heap.size, 0, none⟩ 1 1 [x] (by omega) rfl (cell_one_new _ _ _) (by simpa using hx) (by unfold maxLen; omega)
  (by have : (xs.length + 1) * bytes ≤ 1048576 * 64 := Nat.mul_le_mul (by omega) hby
      omega) (by simp; omega)
 obtain ⟨g, cap, rfl⟩ := ownsRow_succ r1
 refine ⟨g, cap, w', hr, r1, r2.os, r2.tape, r2.output, by have := r2.size; simpa using this, fun b hb hn => (r2.block b (by simp; omega) (fun e => hn e.symm)).trans (Below.heap_alloc w _ b hb), ?_⟩
 rcases r3 with r3 | r3
 ·exact .inl r3.symm
 ·right
  have r3 : some g = some (w.alloc (.cells #[x] e)).heap.size := r3
  rw [World.size_alloc] at r3
  exact Option.some.inj r3
theorem RowOk.push {w : World} {tag : Nat → RT} {base e : Nat} {k : Int} {v : Value} {xs : List Value} {T : TypeId} {i : TypeInfo} {z : Value} {bytes : Nat} (h : RowOk w tag base e k v xs) (ht : Tryz.prog.underlying T = some (.slice e)) (hi : Tryz.prog.info? e = some i) (hz : i.zero = some z) (hs : i.size = 1) (hy : i.bytes = bytes) (hzs : z.cells.size = 1) (hby : bytes ≤ 64)
 (x : Value) (hx : x.oneCell' = true) (ty : TypeId) (hlen : xs.length < 1048576) (hbase : base ≤ w.heap.size) (hto : ∀ b, tag b ≠ .o → b < w.heap.size) :
 ∃ g cap w' tag', (Builtin.append_ #[T, T] ty #[v, .slice (some ⟨w.heap.size, 0, none⟩) 1 1]).run Tryz.prog (w.alloc (.cells #[x] e)) = .ok (.slice (some ⟨g, 0, none⟩) (xs.length + 1) cap) w' ∧
  RowOk w' tag' base e k (.slice (some ⟨g, 0, none⟩) (xs.length + 1) cap) (xs ++ [x]) ∧ w'.os = w.os ∧ w'.tape = w.tape ∧ w'.output = w.output ∧ w.heap.size + 1 ≤ w'.heap.size ∧
  (∀ b, b < w.heap.size → tag b ≠ .row k → w'.heap[b]? = w.heap[b]?) ∧ (∀ b, b ≤ w.heap.size → tag' b = tag b) ∧ (∀ b, w.heap.size ≤ b → tag' b ≠ .o → b < w'.heap.size) := by
 obtain ⟨g, cap, w', hr, r1, ro, rt, rp, rz, rb, rg⟩ := owns_push h.row ht hi hz hs hy hzs hby x hx ty hlen hbase
 have hgl := r1.lt g rfl
 refine ⟨g, cap, w', tagRow tag (w.heap.size + 1) (.row k) (.slice (some ⟨g, 0, none⟩) (xs.length + 1) cap), hr, ⟨by rw [List.length_append]; exact r1, fun g' e => ?_⟩, ro, rt, rp, rz, fun b hb hn => rb b hb (fun e => hn (h.tg b e)), fun b hb => tagRow_old (by omega), fun b hb hn => ?_⟩
 ·have e : some g = some g' := e
  cases e
  rcases rg with e | e
  ·have := hto g (by rw [h.tg g e]; simp)
   rw [tagRow_old (by omega)]; exact h.tg g e
  ·subst e; exact tagRow_is rfl
 ·by_cases e : b = w.heap.size + 1
  ·subst e
   by_cases e2 : g = w.heap.size + 1
   ·rw [← e2]; exact hgl.2
   ·exfalso; apply hn
    unfold tagRow; rw [tagAt_new, if_neg]
    intro e3
    have e3 : some g = some (w.heap.size + 1) := e3
    exact e2 (Option.some.inj e3)
  ·rw [tagRow_old e] at hn
   have := hto b hn; omega
theorem wpList_append_run {P : Program} {w : World} {ops : Array Oper} {rest : List Oper} {o : Oper} {a : Act} {Q : Exit → Act → World → Prop}
 (hg : o.guard = none) (s x : Operand) (t : TypeId) (hop : o.op = Op.call { callee := Callee.builtin Builtin.append, args := #[s, x], argTypes := #[t, t] }) {v u v' : Value} {w' : World} {ty : TypeId} (hty : o.type = ty)
 (hs : a.eval s = v) (hx : a.eval x = u) (hrun : (Builtin.append_ #[t, t] ty #[v, u]).run P w = .ok v' w') (hK : wpList P ops Q rest (a.put o.dst v') w') : wpList P ops Q (o :: rest) a w := by
 refine wpList_plain hg fun K hK' => ?_
 unfold Oper.wp
 simp [execOp, hop, resolve, invoke, builtin, hs, hx, hty, hrun, Result.andThen]
 exact hK' _ _ hK
theorem Tryz.infoTx : (Tryz.prog.info? 9).map (fun i => (i.zero, i.size, i.bytes)) = some (some (.string ByteArray.empty), 1, 16) := by kernel_rfl
theorem Tryz.infoBd : (Tryz.prog.info? 179).map (fun i => (i.zero, i.size, i.bytes)) = some (some (.pointer none), 1, 8) := by kernel_rfl
theorem Tryz.infoIn : (Tryz.prog.info? 183).map (fun i => (i.zero, i.size, i.bytes)) = some (some (.pointer none), 1, 8) := by kernel_rfl
theorem Tryz.infoFn : (Tryz.prog.info? 1).map (fun i => (i.zero, i.size, i.bytes)) = some (some .nilFunc, 1, 8) := by kernel_rfl
end Go.Proofs.YtcfpedjfofpnkaaGreatDoor
