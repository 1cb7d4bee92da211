import Derived.Test.YtcfpedjfofpnkaaGreatDoorRv21
import Derived.Test.YtcfpedjfofpnkaaGreatDoorRv26
import Derived.Deep.Upon
import Derived.Test.YtcfpedjfofpnkaaGreatDoorRv5
import Derived.Test.YtcfpedjfofpnkaaGreatDoorRv19
import Derived.Deep.Cut
import Derived.Deep.DeepCutAuto
set_option linter.unusedVariables false
set_option linter.unusedSimpArgs false
namespace Go.Proofs.YtcfpedjfofpnkaaGreatDoor
open Go.RowKit Go.Proofs.Cod
def atL (s : MS) : List Int := s.thr.map fun th => (th.pc : Int)
def stL (s : MS) : List Int := s.thr.map fun th => th.ph
def rgL (s : MS) : List Int := s.thr.flatMap fun th => th.regs
def R4 (s : MS) : Prop := ∀ th, th ∈ s.thr → th.regs.length = 4
theorem atL_len (s : MS) : (atL s).length = s.thr.length := by unfold atL; rw [List.length_map]
theorem stL_len (s : MS) : (stL s).length = s.thr.length := by unfold stL; rw [List.length_map]
theorem flat4_len : ∀ (l : List TS), (∀ th, th ∈ l → th.regs.length = 4) → (l.flatMap fun th => th.regs).length = l.length * 4
 | [], _ => rfl
 | a :: r, h => by
  rw [List.flatMap_cons, List.length_append, flat4_len r (fun th q => h th (List.mem_cons_of_mem _ q)), h a List.mem_cons_self, List.length_cons]
  omega
theorem flat4_get : ∀ (l : List TS), (∀ th, th ∈ l → th.regs.length = 4) → ∀ t r, r < 4 → t < l.length → (l.flatMap fun th => th.regs).getD (t * 4 + r) 0 = (l.getD t ts0).regs.getD r 0
 | [], _, t, r, _, ht => by cases ht
 | a :: l, h, t, r, hr, ht => by
  have ha := h a List.mem_cons_self
  rw [List.flatMap_cons, List.getD_eq_getElem?_getD]
  cases t with
  | zero =>
   rw [List.getElem?_append_left (by omega), Nat.zero_mul, Nat.zero_add, ← List.getD_eq_getElem?_getD]; rfl
  | succ t =>
   rw [List.getElem?_append_right (by omega), ha, ← List.getD_eq_getElem?_getD]
   have e : (t + 1) * 4 + r - 4 = t * 4 + r := by omega
   rw [e, flat4_get l (fun th q => h th (List.mem_cons_of_mem _ q)) t r hr (by simp at ht; omega)]
   rfl
theorem flat4_set : ∀ (l : List TS), (∀ th, th ∈ l → th.regs.length = 4) → ∀ t r v (y : TS), r < 4 → t < l.length → y.regs = (l.getD t ts0).regs.set r v → ((l.set t y).flatMap fun th => th.regs) = (l.flatMap fun th => th.regs).set (t * 4 + r) v
 | [], _, t, r, v, y, _, ht, _ => by cases ht
 | a :: l, h, t, r, v, y, hr, ht, hy => by
  have ha := h a List.mem_cons_self
  cases t with
  | zero =>
   rw [List.set_cons_zero, List.flatMap_cons, List.flatMap_cons, Nat.zero_mul, Nat.zero_add, List.set_append_left _ _ (by omega), hy]; rfl
  | succ t =>
   have e : (t + 1) * 4 + r - a.regs.length = t * 4 + r := by omega
   rw [List.set_cons_succ, List.flatMap_cons, List.flatMap_cons, List.set_append_right _ _ (by omega), e, flat4_set l (fun th q => h th (List.mem_cons_of_mem _ q)) t r v y hr (by simp at ht; omega) hy]
theorem flat4_stay : ∀ (l : List TS) (t : Nat) (y : TS), t < l.length → y.regs = (l.getD t ts0).regs → ((l.set t y).flatMap fun th => th.regs) = l.flatMap fun th => th.regs
 | [], t, y, ht, _ => by cases ht
 | a :: l, t, y, ht, hy => by
  cases t with
  | zero =>
   rw [List.set_cons_zero, List.flatMap_cons, List.flatMap_cons, hy]; rfl
  | succ t => rw [List.set_cons_succ, List.flatMap_cons, List.flatMap_cons, flat4_stay l t y (by simp at ht; omega) hy]
section
variable {s : MS}
theorem atL_get (s : MS) {t : Nat} (h : t < s.thr.length) : (atL s).getD t 0 = ((s.th t).pc : Int) := by
 unfold atL MS.th
 rw [List.getD_eq_getElem?_getD, List.getElem?_map, List.getD_eq_getElem?_getD, List.getElem?_eq_getElem h]; rfl
theorem stL_get (s : MS) {t : Nat} (h : t < s.thr.length) : (stL s).getD t 0 = (s.th t).ph := by
 unfold stL MS.th
 rw [List.getD_eq_getElem?_getD, List.getElem?_map, List.getD_eq_getElem?_getD, List.getElem?_eq_getElem h]; rfl
theorem rgL_len (h : R4 s) : (rgL s).length = s.thr.length * 4 := flat4_len _ h
theorem rgL_get (h : R4 s) {t r : Nat} (hr : r < 4) (ht : t < s.thr.length) : (rgL s).getD (t * 4 + r) 0 = (s.th t).regs.getD r 0 := flat4_get _ h t r hr ht
theorem R4_of {nv nf nl : Nat} {C : List (List In7)} (h : MOk nv nf nl C s) : R4 s := fun th hth => by
 obtain ⟨t, ht, e⟩ := List.getElem_of_mem hth
 have q := (h.th t (by rw [← h.tl]; exact ht)).rl
 have e2 : s.th t = th := by unfold MS.th; rw [List.getD_eq_getElem?_getD, List.getElem?_eq_getElem ht, e]; rfl
 rw [e2] at q
 exact q
theorem atL_set (s : MS) (t : Nat) (y : TS) : atL (s.setT t y) = (atL s).set t (y.pc : Int) := by unfold atL MS.setT; rw [List.map_set]
theorem stL_set (s : MS) (t : Nat) (y : TS) : stL (s.setT t y) = (stL s).set t y.ph := by unfold stL MS.setT; rw [List.map_set]
theorem rgL_stay {t : Nat} (ht : t < s.thr.length) {y : TS} (hy : y.regs = (s.th t).regs) : rgL (s.setT t y) = rgL s := flat4_stay _ t y ht hy
theorem rgL_set (h : R4 s) {t r : Nat} {v : Int} {y : TS} (hr : r < 4) (ht : t < s.thr.length) (hy : y.regs = (s.th t).regs.set r v) : rgL (s.setT t y) = (rgL s).set (t * 4 + r) v := flat4_set _ h t r v y hr ht hy
theorem iset_same {l : List Int} {k : Nat} {v : Int} (hk : k < l.length) (h : l.getD k 0 = v) : l.set k v = l := by
 apply List.ext_getElem?
 intro i
 rw [List.getElem?_set]
 split
 ·rename_i e
  subst e
  rw [← h, List.getD_eq_getElem?_getD, List.getElem?_eq_getElem hk]; rfl
 ·rfl
theorem stL_same {t : Nat} (ht : t < s.thr.length) {y : TS} (hy : y.ph = (s.th t).ph) : stL (s.setT t y) = stL s := by
 rw [stL_set]
 exact iset_same (by rw [stL_len]; exact ht) (by rw [stL_get s ht, hy])
end
end Go.Proofs.YtcfpedjfofpnkaaGreatDoor
namespace Go.Proofs.YtcfpedjfofpnkaaGreatDoor
open Go.RowKit Go.Shelf Go.Proofs.Cod
section
variable {w w' : World} {base lo hi : Nat} {a : Option Addr} {l : List Int}
theorem ints_all {v : Value} (h : w.ownsRow base 3 1 v l.length (l.map intV)) {r : List Int} (hr : Is w a r) (cap : Nat) (hl : l.length + r.length ≤ 2097152) (hb : base ≤ w.heap.size) :
 ∃ v' w', (Builtin.append_ #[22, 22] 22 #[v, .slice a r.length cap]).run Tryz.prog w = .ok v' w' ∧
  w'.ownsRow base 3 1 v' (l ++ r).length ((l ++ r).map intV) ∧ w.grownBy w' v.ownBlock := by
 obtain ⟨i0, hi, hy0, hy1, hy2⟩ := info_parts Tryz.infoInt
 by_cases h0 : r = []
 ·subst h0
  have hsrc : Src Tryz.prog i0.size 22 (.slice a 0 cap) 0 [] w := by
   cases a with
   | none => exact Src.ofNil w Tryz.underlying22 cap
   | some a => exact Src.ofSlice w Tryz.underlying22 a 0 cap [] (by simp) (fun j u h => by simp at h) (fun _ h => by cases h)
  refine ⟨v, w, ?_, by simpa using h, World.grownBy.refl _ _⟩
  rcases h.2 with ⟨rfl, h2⟩ | ⟨g, cap', cur, rfl, _, _, hnc, _, _, _⟩
  ·exact run_append_nothing w 22 22 22 3 i0 Tryz.underlying22 hi none 0 0 (Nat.le_refl _) _ hsrc
  ·exact run_append_nothing w 22 22 22 3 i0 Tryz.underlying22 hi (some ⟨g, 0, none⟩) _ cap' hnc _ hsrc
 ·have hp : 0 < r.length := List.length_pos_iff.2 h0
  obtain ⟨b, off, rfl, -, -⟩ := hr 0 hp
  obtain ⟨v', w', a1, a2, a3, _⟩ := run_append_blk (P := Tryz.prog) w base 22 22 3 i0 (.int .i64 0) 1 8 Tryz.underlying22 hi hy0 hy1 hy2 rfl v l.length (l.map intV) h ⟨b, off, none⟩ r.length cap (r.map intV) (by omega) (by rw [List.length_map, Nat.mul_one])
   (fun j u hu => by
     rw [List.getElem?_map] at hu
     cases q : r[j]? with
     | none => rw [q] at hu; cases hu
     | some x =>
      rw [q] at hu
      have hu : some (intV x) = some u := hu
      cases hu
      obtain ⟨b', off', e1, -, e3⟩ := hr j (List.getElem?_eq_some_iff.1 q).1
      simp only [Option.some.injEq, Addr.mk.injEq, and_true] at e1
      obtain ⟨e1, e2⟩ := e1
      subst e1 e2
      have e4 : r.getD j 0 = x := by rw [List.getD_eq_getElem?_getD, q]; rfl
      rw [e4] at e3
      have e5 : (⟨b, off, none⟩ : Addr).add j = ⟨b, off + j, none⟩ := by simp [Addr.add]
      rw [e5]
      exact e3)
   (fun u hu => by obtain ⟨x, -, rfl⟩ := List.mem_map.1 hu; rfl) (by unfold maxLen; omega) (by omega) hb
  exact ⟨v', w', a1, by rw [List.length_append, List.map_append]; exact a2, a3⟩
def SRow (w : World) (lo hi : Nat) (a : Option Addr) (l : List Int) : Prop := l = [] ∨ ∃ b N f, a = some ⟨b, 0, none⟩ ∧ lo ≤ b ∧ b < hi ∧ RowF w b 3 N f ∧ l.length ≤ N ∧ ∀ i, i < l.length → f i = .int .i64 (l.getD i 0)
theorem SRow.is (h : SRow w lo hi a l) : Is w a l := fun i hi => by
 rcases h with rfl | ⟨b, N, f, ha, h1, h2, hr, hn, hf⟩
 ·cases hi
 ·exact ⟨b, 0, ha, hr.lt, by rw [Nat.zero_add, hr.cell (by omega), hf i hi]⟩
theorem SRow.keep (h : SRow w lo hi a l) (hk : ∀ b, lo ≤ b → b < hi → w'.heap[b]? = w.heap[b]?) : SRow w' lo hi a l := by
 rcases h with rfl | ⟨b, N, f, ha, h1, h2, hr, hn, hf⟩
 ·exact .inl rfl
 ·exact .inr ⟨b, N, f, ha, h1, h2, hr.same (hk b h1 h2), hn, hf⟩
theorem SRow.below (h : SRow w lo hi a l) (hi' : hi ≤ w.heap.size) (hb : Below w.heap.size w w') : SRow w' lo hi a l := h.keep fun b _ h2 => hb.block b (by omega)
theorem SRow.mono (h : SRow w lo hi a l) {lo' hi' : Nat} (h1 : lo' ≤ lo) (h2 : hi ≤ hi') : SRow w lo' hi' a l := by
 rcases h with rfl | ⟨b, N, f, ha, q1, q2, r⟩
 ·exact .inl rfl
 ·exact .inr ⟨b, N, f, ha, by omega, by omega, r⟩
theorem SRow.set (h : SRow w lo hi a l) {i : Nat} (hi' : i < l.length) : ∃ b, a = some ⟨b, 0, none⟩ ∧ lo ≤ b ∧ b < hi ∧ w.cell? ⟨b, i, none⟩ = some (.int .i64 (l.getD i 0)) ∧ w.frozen? ⟨b, i, none⟩ = false ∧ ∀ v, SRow (w.setCell ⟨b, i, none⟩ (.int .i64 v)) lo hi (some ⟨b, 0, none⟩) (l.set i v) := by
 rcases h with rfl | ⟨b, N, f, ha, h1, h2, hr, hn, hf⟩
 ·cases hi'
 ·refine ⟨b, ha, h1, h2, by rw [hr.cell (by omega), hf i hi'], hr.frozen i, fun v => .inr ⟨b, N, _, rfl, h1, h2, hr.set i _, by rw [List.length_set]; exact hn, fun k hk => ?_⟩⟩
  rw [List.length_set] at hk
  rw [List.getD_eq_getElem?_getD, List.getElem?_set]
  by_cases e : k = i
  ·subst e
   rw [if_pos rfl, if_pos rfl, if_pos hi']; rfl
  ·rw [if_neg e, if_neg (fun q => e q.symm), hf k hk, List.getD_eq_getElem?_getD]
theorem SRow.other (h : SRow w lo hi a l) {p : Addr} (hp : p.block < lo ∨ hi ≤ p.block) (v : Value) : SRow (w.setCell p v) lo hi a l := h.keep fun b h1 h2 => heap_setCell_other w p b v (by omega)
theorem SRow.of {v : Value} (h : w.ownsRow base 3 1 v l.length (l.map intV)) : ∃ a cap, v = .slice a l.length cap ∧ SRow w base w.heap.size a l := by
 rcases h.2 with ⟨rfl, h2⟩ | ⟨g, cap, cur, rfl, h1, h2, h3, h4, h5, h6⟩
 ·have e : l = [] := List.eq_nil_of_length_eq_zero h2
  subst e
  exact ⟨none, 0, rfl, .inl rfl⟩
 ·refine ⟨_, _, rfl, .inr ⟨g, cur.size, fun k => cur.getD k undef, rfl, h1, (Array.getElem?_eq_some_iff.1 h2).1, ⟨cur, h2, rfl, fun k hk => ?_⟩, by omega, fun k hk => ?_⟩⟩
  ·show cur[k]? = some (cur.getD k undef)
   rw [Array.getD_eq_getD_getElem?, Array.getElem?_eq_getElem hk]; rfl
  ·have hk2 : k < cur.size := by omega
   have q : (cur.toList.take (l.length * 1))[k]? = (l.map intV)[k]? := by rw [h6]
   rw [Nat.mul_one, List.getElem?_take, if_pos hk, Array.getElem?_toList, List.getElem?_map, List.getElem?_eq_getElem hk, Array.getElem?_eq_getElem hk2] at q
   have q : some cur[k] = some (intV l[k]) := q
   injection q with q
   show cur.getD k undef = _
   rw [Array.getD_eq_getD_getElem?, Array.getElem?_eq_getElem hk2, List.getD_eq_getElem?_getD, List.getElem?_eq_getElem hk]
   exact q
end
section
variable {w w' : World} {b : Nat}
theorem grown_b {w u : World} {B : Nat} (hB : B ≤ w.heap.size) (g : w.grownBy u none) : Below B w u := ⟨g.os, g.tape, g.output, g.size, fun k hk => g.block k (by omega) (by simp)⟩
set_option maxRecDepth 100000 in
theorem copied_any {a : Option Addr} {l : List Int} {n cap : Nat} (hn : l.length = n) (h : Is w a l) (hl : n ≤ 1048576) :
 Calls Tryz.prog 78 #[.slice a n cap] w fun e w' => ∃ b d, e = .returned (.slice b n d) ∧ SRow w' w.heap.size w'.heap.size b l ∧ Below w.heap.size w w' := by
 subst hn
 obtain ⟨v', w', hrun, ho, hg⟩ := ints_all (w := w) (base := w.heap.size) (l := []) (v := .slice none 0 0) (World.ownsRow_nil _ _ _ _) h cap (by simp; omega) (Nat.le_refl _)
 rw [List.nil_append] at ho
 obtain ⟨b, d, rfl, hs⟩ := SRow.of ho
 have HB := hide (grown_b (Nat.le_refl _) hg)
 replace hs := hide hs
 clear h ho hg
 go_enter Tryz.func78, Tryz.ntmps78
 go_wp2_with (at_builtin; refine wpList_append_run rfl _ _ _ rfl rfl rfl rfl hrun ?_)
 go_ret
 exact ⟨b, d, rfl, hs.out, HB.out⟩
set_option maxRecDepth 100000 in
theorem zeros_any {n : Nat} (w : World) (hl : n ≤ 1048576) :
 Calls Tryz.prog 30 #[.int .i64 n] w fun e w' => ∃ b d, e = .returned (.slice b n d) ∧ SRow w' w.heap.size w'.heap.size b (List.replicate n 0) ∧ Below w.heap.size w w' := by
 obtain ⟨iil, hii, hiz, his, hiy⟩ := info_parts Tryz.infoInt
 obtain ⟨w', hrun, ho, hg⟩ := run_make_full (P := Tryz.prog) w w.heap.size 22 3 iil (.int .i64 0) 1 Tryz.underlying22 hii hiz his .i64 .i64 n (by rw [hiy]; omega) (by unfold maxLen; omega) (Nat.le_refl _)
 have HB := hide (grown_b (Nat.le_refl _) hg)
 have e : (madeCells (Value.int .i64 0).cells (n * 1)).toList = (List.replicate n (0 : Int)).map intV := by
  show (madeCells #[Value.int .i64 0] (n * 1)).toList = _
  rw [Nat.mul_one, toList_madeCells_one, List.map_replicate]; rfl
 rw [e] at ho
 have ho2 : w'.ownsRow w.heap.size 3 1 (.slice (some ⟨w.heap.size, 0, none⟩) n n) (List.replicate n (0 : Int)).length ((List.replicate n (0 : Int)).map intV) := by rw [List.length_replicate]; exact ho
 obtain ⟨b, d, hv, hs⟩ := SRow.of ho2
 rw [List.length_replicate] at hv
 injection hv with hv1 _ hv2
 subst hv1
 replace hs := hide hs
 clear ho ho2 hg hii hiz his hiy e hv2
 go_enter Tryz.func30, Tryz.ntmps30
 go_wp2_with fail
 go_ret
 exact ⟨_, ⟨_, rfl⟩, hs.out, HB.out⟩
theorem Tryz.sizeSt : (Tryz.prog.info? 36).map (·.size) = some 6 := by kernel_rfl
theorem six_val {w : World} {fn : Func} {tmps : Array Value} {b k : Nat} {v0 v1 v2 v3 v4 v5 : Value} (hr : fn.results = #[.cell k 36]) (ht : tmps[k]? = some (.pointer (some ⟨b, 0, none⟩))) (hc : w.heap[b]? = some (.cells #[v0, v1, v2, v3, v4, v5] 36)) : (results fn tmps).run Tryz.prog w = .ok (.agg #[v0, v1, v2, v3, v4, v5]) w := by
 have c0 : w.cell? ⟨b, 0, none⟩ = some v0 := by simp [World.cell?, hc]
 have c1 : w.cell? ⟨b, 1, none⟩ = some v1 := by simp [World.cell?, hc]
 have c2 : w.cell? ⟨b, 2, none⟩ = some v2 := by simp [World.cell?, hc]
 have c3 : w.cell? ⟨b, 3, none⟩ = some v3 := by simp [World.cell?, hc]
 have c4 : w.cell? ⟨b, 4, none⟩ = some v4 := by simp [World.cell?, hc]
 have c5 : w.cell? ⟨b, 5, none⟩ = some v5 := by simp [World.cell?, hc]
 simp [results, hr, ht, go_sem, c0, c1, c2, c3, c4, c5]
theorem six_cells {W : World} {g T : Nat} {v0 v1 v2 v3 v4 v5 : Value} (h : W.heap[g]? = some (.cells #[v0, v1, v2, v3, v4, v5] T)) : W.cell? ⟨g, 0, none⟩ = some v0 ∧ W.cell? ⟨g, 1, none⟩ = some v1 ∧ W.cell? ⟨g, 2, none⟩ = some v2 ∧ W.cell? ⟨g, 3, none⟩ = some v3 ∧ W.cell? ⟨g, 4, none⟩ = some v4 ∧ W.cell? ⟨g, 5, none⟩ = some v5 :=
 ⟨by simp [World.cell?, h], by simp [World.cell?, h], by simp [World.cell?, h], by simp [World.cell?, h], by simp [World.cell?, h], by simp [World.cell?, h]⟩
theorem free_block {W : World} {g T : Nat} {cs : Array Value} (h : W.heap[g]? = some (.cells cs T)) (k : Nat) : W.frozen? ⟨g, k, none⟩ = false := by simp [World.frozen?, h]
theorem one6 {a0 a1 a2 a3 a4 a5 : Option Addr} {n0 n1 n2 n3 n4 n5 m0 m1 m2 m3 m4 m5 : Nat} : ∀ v ∈ (#[Value.slice a0 n0 m0, .slice a1 n1 m1, .slice a2 n2 m2, .slice a3 n3 m3, .slice a4 n4 m4, .slice a5 n5 m5] : Array Value).toList, v.oneCell' = true := by
 intro v hv
 simp only [List.mem_cons, List.not_mem_nil, or_false] at hv
 rcases hv with rfl | rfl | rfl | rfl | rfl | rfl <;> rfl
theorem six_sets {v : World} {b : Nat} {T : TypeId} {c0 c1 c2 c3 c4 c5 : Value} (a0 a1 a2 a3 a4 a5 : Value) (h : v.heap[b]? = some (.cells #[c0, c1, c2, c3, c4, c5] T)) :
 ((((((v.setCell ⟨b, 0, none⟩ a0).setCell ⟨b, 1, none⟩ a1).setCell ⟨b, 2, none⟩ a2).setCell ⟨b, 3, none⟩ a3).setCell ⟨b, 4, none⟩ a4).setCell ⟨b, 5, none⟩ a5).heap[b]? = some (.cells #[a0, a1, a2, a3, a4, a5] T) := by
 have h0 := (heap_setCell_same _ b 0 _ _ a0 h).trans (show _ = some (.cells #[a0, c1, c2, c3, c4, c5] T) from rfl)
 have h1 := (heap_setCell_same _ b 1 _ _ a1 h0).trans (show _ = some (.cells #[a0, a1, c2, c3, c4, c5] T) from rfl)
 have h2 := (heap_setCell_same _ b 2 _ _ a2 h1).trans (show _ = some (.cells #[a0, a1, a2, c3, c4, c5] T) from rfl)
 have h3 := (heap_setCell_same _ b 3 _ _ a3 h2).trans (show _ = some (.cells #[a0, a1, a2, a3, c4, c5] T) from rfl)
 have h4 := (heap_setCell_same _ b 4 _ _ a4 h3).trans (show _ = some (.cells #[a0, a1, a2, a3, a4, c5] T) from rfl)
 have h5 := (heap_setCell_same _ b 5 _ _ a5 h4).trans (show _ = some (.cells #[a0, a1, a2, a3, a4, a5] T) from rfl)
 exact h5
structure Rows6 (w : World) (lo : Nat) (b0 b1 b2 b3 b4 b5 : Option Addr) (l0 l1 l2 l3 l4 l5 : List Int) (p1 p2 p3 p4 p5 p6 : Nat) : Prop where
 r0 : SRow w lo p1 b0 l0
 r1 : SRow w p1 p2 b1 l1
 r2 : SRow w p2 p3 b2 l2
 r3 : SRow w p3 p4 b3 l3
 r4 : SRow w p4 p5 b4 l4
 r5 : SRow w p5 p6 b5 l5
 le : lo ≤ p1 ∧ p1 ≤ p2 ∧ p2 ≤ p3 ∧ p3 ≤ p4 ∧ p4 ≤ p5 ∧ p5 ≤ p6 ∧ p6 ≤ w.heap.size
set_option maxRecDepth 100000 in
set_option maxHeartbeats 2000000 in
theorem scopy_any {a0 : Option Addr} {l0 : List Int} {n0 c0 : Nat} (hn0 : l0.length = n0) (h0 : Is w a0 l0) (hm0 : n0 ≤ 1048576) {a1 : Option Addr} {l1 : List Int} {n1 c1 : Nat} (hn1 : l1.length = n1) (h1 : Is w a1 l1) (hm1 : n1 ≤ 1048576) {a2 : Option Addr} {l2 : List Int} {n2 c2 : Nat} (hn2 : l2.length = n2) (h2 : Is w a2 l2) (hm2 : n2 ≤ 1048576) {a3 : Option Addr} {l3 : List Int} {n3 c3 : Nat} (hn3 : l3.length = n3) (h3 : Is w a3 l3) (hm3 : n3 ≤ 1048576) {a4 : Option Addr} {l4 : List Int} {n4 c4 : Nat} (hn4 : l4.length = n4) (h4 : Is w a4 l4) (hm4 : n4 ≤ 1048576) {a5 : Option Addr} {l5 : List Int} {n5 c5 : Nat} (hn5 : l5.length = n5) (h5 : Is w a5 l5) (hm5 : n5 ≤ 1048576) :
 Calls Tryz.prog 41 #[.agg #[.slice a0 n0 c0, .slice a1 n1 c1, .slice a2 n2 c2, .slice a3 n3 c3, .slice a4 n4 c4, .slice a5 n5 c5]] w fun e w' => ∃ b0 b1 b2 b3 b4 b5 d0 d1 d2 d3 d4 d5 p1 p2 p3 p4 p5 p6, e = .returned (.agg #[.slice b0 n0 d0, .slice b1 n1 d1, .slice b2 n2 d2, .slice b3 n3 d3, .slice b4 n4 d4, .slice b5 n5 d5]) ∧ Rows6 w' w.heap.size b0 b1 b2 b3 b4 b5 l0 l1 l2 l3 l4 l5 p1 p2 p3 p4 p5 p6 ∧ Below w.heap.size w w' := by
 obtain ⟨W1, hW1⟩ : ∃ W1, (w.alloc (.cells #[.slice a0 n0 c0, .slice a1 n1 c1, .slice a2 n2 c2, .slice a3 n3 c3, .slice a4 n4 c4, .slice a5 n5 c5] 36)).alloc (.cells #[.slice none 0 0, .slice none 0 0, .slice none 0 0, .slice none 0 0, .slice none 0 0, .slice none 0 0] 36) = W1 := ⟨_, rfl⟩
 have hza : (w.alloc (.cells #[.slice a0 n0 c0, .slice a1 n1 c1, .slice a2 n2 c2, .slice a3 n3 c3, .slice a4 n4 c4, .slice a5 n5 c5] 36)).heap.size = w.heap.size + 1 := by show (w.heap.push _).size = _; simp
 have hz1 : W1.heap.size = w.heap.size + 1 + 1 := by rw [← hW1]; show ((w.heap.push _).push _).size = _; simp
 have hB1 : Below w.heap.size w W1 := by rw [← hW1]; exact ((Below.refl _ _).alloc (Nat.le_refl _) _).alloc (by rw [hza]; omega) _
 have hk1 : W1.heap[w.heap.size]? = some (.cells #[.slice a0 n0 c0, .slice a1 n1 c1, .slice a2 n2 c2, .slice a3 n3 c3, .slice a4 n4 c4, .slice a5 n5 c5] 36) := by
  rw [← hW1, Below.heap_alloc _ _ _ (by rw [hza]; omega)]; exact World.alloc_heap_new w _
 have hk2 : W1.heap[w.heap.size + 1]? = some (.cells #[.slice none 0 0, .slice none 0 0, .slice none 0 0, .slice none 0 0, .slice none 0 0, .slice none 0 0] 36) := by
  have q := World.alloc_heap_new (w.alloc (.cells #[.slice a0 n0 c0, .slice a1 n1 c1, .slice a2 n2 c2, .slice a3 n3 c3, .slice a4 n4 c4, .slice a5 n5 c5] 36)) (.cells #[.slice none 0 0, .slice none 0 0, .slice none 0 0, .slice none 0 0, .slice none 0 0, .slice none 0 0] 36)
  rw [hza, hW1] at q
  exact q
 have hcl : ∀ u, Below W1.heap.size W1 u → u.cell? ⟨w.heap.size, 0, none⟩ = some (.slice a0 n0 c0) ∧ u.cell? ⟨w.heap.size, 1, none⟩ = some (.slice a1 n1 c1) ∧ u.cell? ⟨w.heap.size, 2, none⟩ = some (.slice a2 n2 c2) ∧ u.cell? ⟨w.heap.size, 3, none⟩ = some (.slice a3 n3 c3) ∧ u.cell? ⟨w.heap.size, 4, none⟩ = some (.slice a4 n4 c4) ∧ u.cell? ⟨w.heap.size, 5, none⟩ = some (.slice a5 n5 c5) := fun u hu => by
  have q := (hu.block w.heap.size (by omega)).trans hk1
  exact ⟨by simp [World.cell?, q], by simp [World.cell?, q], by simp [World.cell?, q], by simp [World.cell?, q], by simp [World.cell?, q], by simp [World.cell?, q]⟩
 have hC0 := hide (fun (u : World) (hu : Below W1.heap.size W1 u) => copied_any (cap := c0) hn0 ((h0.below hB1).below hu) hm0)
 have hC1 := hide (fun (u : World) (hu : Below W1.heap.size W1 u) => copied_any (cap := c1) hn1 ((h1.below hB1).below hu) hm1)
 have hC2 := hide (fun (u : World) (hu : Below W1.heap.size W1 u) => copied_any (cap := c2) hn2 ((h2.below hB1).below hu) hm2)
 have hC3 := hide (fun (u : World) (hu : Below W1.heap.size W1 u) => copied_any (cap := c3) hn3 ((h3.below hB1).below hu) hm3)
 have hC4 := hide (fun (u : World) (hu : Below W1.heap.size W1 u) => copied_any (cap := c4) hn4 ((h4.below hB1).below hu) hm4)
 have hC5 := hide (fun (u : World) (hu : Below W1.heap.size W1 u) => copied_any (cap := c5) hn5 ((h5.below hB1).below hu) hm5)
 have HP := hide (⟨hB1, hz1, hk2⟩ : _ ∧ _ ∧ _)
 replace hcl := hide hcl
 obtain ⟨e0, e1, e2, e3, e4, e5⟩ := hcl.out W1.drew (⟨rfl, rfl, rfl, Nat.le_refl _, fun _ _ => rfl⟩)
 clear hn0 h0 hm0 hn1 h1 hm1 hn2 h2 hm2 hn3 h3 hm3 hn4 h4 hm4 hn5 h5 hm5 hza hz1 hB1 hk1 hk2
 go_enter Tryz.func41, Tryz.ntmps41
 go_wp2_with fail
 try rw [hW1]
 replace hW1 := hide hW1
 have hd : Below W1.heap.size W1 W1.drew := ⟨rfl, rfl, rfl, Nat.le_refl _, fun _ _ => rfl⟩
 refine wp_region_held_drew (S := (fun w' => w'.cell? ⟨w.heap.size, 0, none⟩ = some (.slice a0 n0 c0) ∧ w'.cell? ⟨w.heap.size, 1, none⟩ = some (.slice a1 n1 c1) ∧ w'.cell? ⟨w.heap.size, 2, none⟩ = some (.slice a2 n2 c2) ∧ w'.cell? ⟨w.heap.size, 3, none⟩ = some (.slice a3 n3 c3) ∧ w'.cell? ⟨w.heap.size, 4, none⟩ = some (.slice a4 n4 c4) ∧ w'.cell? ⟨w.heap.size, 5, none⟩ = some (.slice a5 n5 c5))) (by kernel_rfl) ⟨e0, e1, e2, e3, e4, e5⟩ (fun hHeld => ?_)
 clear e0 e1 e2 e3 e4 e5
 refine tk 0 hHeld ?_
 refine tk 1 hHeld ?_
 refine tk 3 hHeld ?_
 refine tk 4 hHeld ?_
 refine tk 6 hHeld ?_
 refine tk 7 hHeld ?_
 refine tk 9 hHeld ?_
 refine tk 10 hHeld ?_
 refine tk 12 hHeld ?_
 refine tk 13 hHeld ?_
 refine tk 15 hHeld ?_
 refine tk 16 hHeld ?_
 refine rd 2 (fun K hK => ?_)
 go_simp
 go_at_call 78
 refine (hC0.out _ hd).mono ?_
 rintro e v0 ⟨b0, d0, rfl, hs0, hbv0⟩
 replace hs0 := hide (⟨hs0, hbv0⟩ : _ ∧ _)
 replace hbv0 : Below W1.heap.size W1 v0 := hd.trans (hbv0.mono hd.size)
 have hq := hcl.out v0 hbv0
 replace hbv0 := hide hbv0
 replace hq := hide hq
 go_wp2_with fail
 refine hK.out _ _ hq.out (fun hHeld => ?_)
 clear hK K hq
 try simp only [Act.put, sq]
 refine rd 5 (fun K hK => ?_)
 go_simp
 go_at_call 78
 refine (hC1.out _ hbv0.out).mono ?_
 rintro e v1 ⟨b1, d1, rfl, hs1, hbv1⟩
 replace hs1 := hide (⟨hs1, hbv1⟩ : _ ∧ _)
 replace hbv1 : Below W1.heap.size W1 v1 := hbv0.out.trans (hbv1.mono hbv0.out.size)
 have hq := hcl.out v1 hbv1
 replace hbv1 := hide hbv1
 replace hq := hide hq
 go_wp2_with fail
 refine hK.out _ _ hq.out (fun hHeld => ?_)
 clear hK K hq
 try simp only [Act.put, sq]
 refine rd 8 (fun K hK => ?_)
 go_simp
 go_at_call 78
 refine (hC2.out _ hbv1.out).mono ?_
 rintro e v2 ⟨b2, d2, rfl, hs2, hbv2⟩
 replace hs2 := hide (⟨hs2, hbv2⟩ : _ ∧ _)
 replace hbv2 : Below W1.heap.size W1 v2 := hbv1.out.trans (hbv2.mono hbv1.out.size)
 have hq := hcl.out v2 hbv2
 replace hbv2 := hide hbv2
 replace hq := hide hq
 go_wp2_with fail
 refine hK.out _ _ hq.out (fun hHeld => ?_)
 clear hK K hq
 try simp only [Act.put, sq]
 refine rd 11 (fun K hK => ?_)
 go_simp
 go_at_call 78
 refine (hC3.out _ hbv2.out).mono ?_
 rintro e v3 ⟨b3, d3, rfl, hs3, hbv3⟩
 replace hs3 := hide (⟨hs3, hbv3⟩ : _ ∧ _)
 replace hbv3 : Below W1.heap.size W1 v3 := hbv2.out.trans (hbv3.mono hbv2.out.size)
 have hq := hcl.out v3 hbv3
 replace hbv3 := hide hbv3
 replace hq := hide hq
 go_wp2_with fail
 refine hK.out _ _ hq.out (fun hHeld => ?_)
 clear hK K hq
 try simp only [Act.put, sq]
 refine rd 14 (fun K hK => ?_)
 go_simp
 go_at_call 78
 refine (hC4.out _ hbv3.out).mono ?_
 rintro e v4 ⟨b4, d4, rfl, hs4, hbv4⟩
 replace hs4 := hide (⟨hs4, hbv4⟩ : _ ∧ _)
 replace hbv4 : Below W1.heap.size W1 v4 := hbv3.out.trans (hbv4.mono hbv3.out.size)
 have hq := hcl.out v4 hbv4
 replace hbv4 := hide hbv4
 replace hq := hide hq
 go_wp2_with fail
 refine hK.out _ _ hq.out (fun hHeld => ?_)
 clear hK K hq
 try simp only [Act.put, sq]
 refine rd 17 (fun K hK => ?_)
 go_simp
 go_at_call 78
 refine (hC5.out _ hbv4.out).mono ?_
 rintro e v5 ⟨b5, d5, rfl, hs5, hbv5⟩
 replace hs5 := hide (⟨hs5, hbv5⟩ : _ ∧ _)
 replace hbv5 : Below W1.heap.size W1 v5 := hbv4.out.trans (hbv5.mono hbv4.out.size)
 have hq := hcl.out v5 hbv5
 replace hbv5 := hide hbv5
 replace hq := hide hq
 go_wp2_with fail
 refine hK.out _ _ hq.out (fun hHeld => ?_)
 clear hK K hq
 try simp only [Act.put, sq]
 refine rd 18 (fun K hK => ?_)
 refine wp_build_at _ _ rfl [(0, .slice b0 n0 d0), (1, .slice b1 n1 d1), (2, .slice b2 n2 d2), (3, .slice b3 n3 d3), (4, .slice b4 n4 d4), (5, .slice b5 n5 d5)] rfl #[.slice b0 n0 d0, .slice b1 n1 d1, .slice b2 n2 d2, .slice b3 n3 d3, .slice b4 n4 d4, .slice b5 n5 d5] (by rfl) ?_
 refine hK.out _ _ (hcl.out v5 hbv5.out) (fun hHeld => ?_)
 clear hK K
 try simp only [Act.put, sq]
 refine rd 19 (fun K hK => ?_)
 have hB1 := HP.out.1
 have hz1 := HP.out.2.1
 have hk2 := (hbv5.out.block (w.heap.size + 1) (by omega)).trans HP.out.2.2
 obtain ⟨r0, r1, r2, r3, r4, r5⟩ := six_cells hk2
 have hsz5 := hbv5.out.size
 refine wp_store_sub _ _ _ rfl (w.heap.size + 1) 0 #[.slice b0 n0 d0, .slice b1 n1 d1, .slice b2 n2 d2, .slice b3 n3 d3, .slice b4 n4 d4, .slice b5 n5 d5] rfl rfl (fun j hj => by
  match j, hj with
  | 0, _ => rw [Nat.zero_add, r0]; rfl
  | 1, _ => rw [Nat.zero_add, r1]; rfl
  | 2, _ => rw [Nat.zero_add, r2]; rfl
  | 3, _ => rw [Nat.zero_add, r3]; rfl
  | 4, _ => rw [Nat.zero_add, r4]; rfl
  | 5, _ => rw [Nat.zero_add, r5]; rfl) (fun j _ => free_block hk2 _) Tryz.sizeSt one6 ?_
 obtain ⟨W2, hW2⟩ : ∃ W2, v5.setCells (w.heap.size + 1) 0 (#[Value.slice b0 n0 d0, .slice b1 n1 d1, .slice b2 n2 d2, .slice b3 n3 d3, .slice b4 n4 d4, .slice b5 n5 d5] : Array Value).toList = W2 := ⟨_, rfl⟩
 rw [hW2]
 have hkk : KeepS (fun k => k = w.heap.size + 1) v5 W2 := by rw [← hW2]; exact setCells_keep (S := fun k => k = w.heap.size + 1) _ 0 (KeepS.refl v5) (.inl rfl)
 have hkr : W2.heap[w.heap.size + 1]? = some (.cells #[.slice b0 n0 d0, .slice b1 n1 d1, .slice b2 n2 d2, .slice b3 n3 d3, .slice b4 n4 d4, .slice b5 n5 d5] 36) := by rw [← hW2]; exact six_sets _ _ _ _ _ _ hk2
 have q2 : W2.heap[w.heap.size]? = v5.heap[w.heap.size]? := hkk.block w.heap.size (by omega) (by omega)
 have hq : W2.cell? ⟨w.heap.size, 0, none⟩ = some (.slice a0 n0 c0) ∧ W2.cell? ⟨w.heap.size, 1, none⟩ = some (.slice a1 n1 c1) ∧ W2.cell? ⟨w.heap.size, 2, none⟩ = some (.slice a2 n2 c2) ∧ W2.cell? ⟨w.heap.size, 3, none⟩ = some (.slice a3 n3 c3) ∧ W2.cell? ⟨w.heap.size, 4, none⟩ = some (.slice a4 n4 c4) ∧ W2.cell? ⟨w.heap.size, 5, none⟩ = some (.slice a5 n5 c5) := by
  obtain ⟨e0, e1, e2, e3, e4, e5⟩ := hcl.out v5 hbv5.out
  exact ⟨(by rw [← e0]; unfold World.cell?; dsimp only; rw [q2]), (by rw [← e1]; unfold World.cell?; dsimp only; rw [q2]), (by rw [← e2]; unfold World.cell?; dsimp only; rw [q2]), (by rw [← e3]; unfold World.cell?; dsimp only; rw [q2]), (by rw [← e4]; unfold World.cell?; dsimp only; rw [q2]), (by rw [← e5]; unfold World.cell?; dsimp only; rw [q2])⟩
 refine hK.out _ _ hq (fun hHeld => ?_)
 clear hK K
 try simp only [Act.put, sq]
 refine wpAnyH_done (by kernel_rfl) ?_ _
 have hBF : Below w.heap.size w W2 := ⟨hkk.os.trans (hbv5.out.os.trans hB1.os), hkk.tape.trans (hbv5.out.tape.trans hB1.tape), hkk.output.trans (hbv5.out.output.trans hB1.output), Nat.le_trans hB1.size (Nat.le_trans hsz5 hkk.size), fun k hk => (hkk.block k (by omega) (by omega)).trans ((hbv5.out.block k (by omega)).trans (hB1.block k hk))⟩
 obtain ⟨y0, x0⟩ := hs0.out
 obtain ⟨y1, x1⟩ := hs1.out
 obtain ⟨y2, x2⟩ := hs2.out
 obtain ⟨y3, x3⟩ := hs3.out
 obtain ⟨y4, x4⟩ := hs4.out
 obtain ⟨y5, x5⟩ := hs5.out
 have z0 : W1.heap.size ≤ v0.heap.size := x0.size
 have z1 := x1.size
 have z2 := x2.size
 have z3 := x3.size
 have z4 := x4.size
 have z5 := x5.size
 have zz := hkk.size
 have hlo : W1.drew.heap.size = W1.heap.size := rfl
 have t0 := ((((((y0.below (Nat.le_refl _) x1).below (by omega) x2).below (by omega) x3).below (by omega) x4).below (by omega) x5).keep (w' := W2) fun b h1 h2 => hkk.block b (by omega) (by omega))
 have t1 := (((((y1.below (Nat.le_refl _) x2).below (by omega) x3).below (by omega) x4).below (by omega) x5).keep (w' := W2) fun b h1 h2 => hkk.block b (by omega) (by omega))
 have t2 := ((((y2.below (Nat.le_refl _) x3).below (by omega) x4).below (by omega) x5).keep (w' := W2) fun b h1 h2 => hkk.block b (by omega) (by omega))
 have t3 := (((y3.below (Nat.le_refl _) x4).below (by omega) x5).keep (w' := W2) fun b h1 h2 => hkk.block b (by omega) (by omega))
 have t4 := ((y4.below (Nat.le_refl _) x5).keep (w' := W2) fun b h1 h2 => hkk.block b (by omega) (by omega))
 have t5 := (y5.keep (w' := W2) fun b h1 h2 => hkk.block b (by omega) (by omega))
 have hR : Rows6 W2 w.heap.size b0 b1 b2 b3 b4 b5 l0 l1 l2 l3 l4 l5 v0.heap.size v1.heap.size v2.heap.size v3.heap.size v4.heap.size v5.heap.size :=
  ⟨t0.mono (by omega) (Nat.le_refl _), t1, t2, t3, t4, t5, ⟨by omega, by omega, by omega, by omega, by omega, by omega, by omega⟩⟩
 have HF := hide (⟨hR, hBF, hkr⟩ : _ ∧ _ ∧ _)
 clear hHeld hq q2 hkr hkk hW2 hk2 hz1 hB1 hR hBF t0 y0 x0 z0 hs0 hbv0 hC0 t1 y1 x1 z1 hs1 hbv1 hC1 t2 y2 x2 z2 hs2 hbv2 hC2 t3 y3 x3 z3 hs3 hbv3 hC3 t4 y4 x4 z4 hs4 hbv4 hC4 t5 y5 x5 z5 hs5 hbv5 hC5 zz hlo hd hsz5 HP hcl hW1
 go_wp2_with fail
 exact bodyPost_ret (six_val rfl rfl HF.out.2.2) rfl ⟨_, _, _, _, _, _, _, _, _, _, _, _, _, _, _, _, _, _, rfl, HF.out.1, HF.out.2.1⟩
end
structure DocS (w : World) (a0 a1 a2 a3 a4 a5 : Option Addr) (nv nf nl nt nr : Nat) (m : MS) : Prop where
 v : Is w a0 m.vars
 f : Is w a1 m.flags
 l : Is w a2 m.locks
 p : Is w a3 (atL m)
 s : Is w a4 (stL m)
 r : Is w a5 (rgL m)
 lv : m.vars.length = nv
 lf : m.flags.length = nf
 ll : m.locks.length = nl
 lt : m.thr.length = nt
 lr : nt * 4 = nr
 r4 : R4 m
section
variable {w w' : World} {a0 a1 a2 a3 a4 a5 : Option Addr} {nv nf nl nt nr : Nat} {m : MS}
theorem DocS.below (h : DocS w a0 a1 a2 a3 a4 a5 nv nf nl nt nr m) (hb : Below w.heap.size w w') : DocS w' a0 a1 a2 a3 a4 a5 nv nf nl nt nr m :=
 ⟨h.v.below hb, h.f.below hb, h.l.below hb, h.p.below hb, h.s.below hb, h.r.below hb, h.lv, h.lf, h.ll, h.lt, h.lr, h.r4⟩
theorem DocS.pcAt (h : DocS w a0 a1 a2 a3 a4 a5 nv nf nl nt nr m) {t : Nat} (ht : t < nt) : ∃ b off, a3 = some ⟨b, off, none⟩ ∧ b < w.heap.size ∧ w.cell? ⟨b, off + t, none⟩ = some (.int .i64 ((m.th t).pc : Int)) := by
 have hl : t < m.thr.length := by rw [h.lt]; exact ht
 obtain ⟨b, off, e1, e2, e3⟩ := h.p t (by rw [atL_len]; exact hl)
 exact ⟨b, off, e1, e2, by rw [e3, atL_get m hl]⟩
theorem DocS.phAt (h : DocS w a0 a1 a2 a3 a4 a5 nv nf nl nt nr m) {t : Nat} (ht : t < nt) : ∃ b off, a4 = some ⟨b, off, none⟩ ∧ b < w.heap.size ∧ w.cell? ⟨b, off + t, none⟩ = some (.int .i64 (m.th t).ph) := by
 have hl : t < m.thr.length := by rw [h.lt]; exact ht
 obtain ⟨b, off, e1, e2, e3⟩ := h.s t (by rw [stL_len]; exact hl)
 exact ⟨b, off, e1, e2, by rw [e3, stL_get m hl]⟩
theorem DocS.rgAt (h : DocS w a0 a1 a2 a3 a4 a5 nv nf nl nt nr m) {t r : Nat} (ht : t < nt) (hr : r < 4) : ∃ b off, a5 = some ⟨b, off, none⟩ ∧ b < w.heap.size ∧ w.cell? ⟨b, off + (t * 4 + r), none⟩ = some (.int .i64 ((m.th t).regs.getD r 0)) := by
 have hl : t < m.thr.length := by rw [h.lt]; exact ht
 obtain ⟨b, off, e1, e2, e3⟩ := h.r (t * 4 + r) (by rw [rgL_len h.r4]; omega)
 exact ⟨b, off, e1, e2, by rw [e3, rgL_get h.r4 hr hl]⟩
theorem four_cells {W : World} {g T : Nat} {v0 v1 v2 v3 : Value} (h : W.heap[g]? = some (.cells #[v0, v1, v2, v3] T)) : W.cell? ⟨g, 0, none⟩ = some v0 ∧ W.cell? ⟨g, 1, none⟩ = some v1 ∧ W.cell? ⟨g, 2, none⟩ = some v2 ∧ W.cell? ⟨g, 3, none⟩ = some v3 :=
 ⟨by simp [World.cell?, h], by simp [World.cell?, h], by simp [World.cell?, h], by simp [World.cell?, h]⟩
theorem nine_cells {W : World} {g T : Nat} {v0 v1 v2 v3 v4 v5 v6 v7 v8 : Value} (h : W.heap[g]? = some (.cells #[v0, v1, v2, v3, v4, v5, v6, v7, v8] T)) : W.cell? ⟨g, 0, none⟩ = some v0 ∧ W.cell? ⟨g, 1, none⟩ = some v1 ∧ W.cell? ⟨g, 2, none⟩ = some v2 ∧ W.cell? ⟨g, 3, none⟩ = some v3 ∧ W.cell? ⟨g, 4, none⟩ = some v4 ∧ W.cell? ⟨g, 5, none⟩ = some v5 ∧ W.cell? ⟨g, 6, none⟩ = some v6 ∧ W.cell? ⟨g, 7, none⟩ = some v7 ∧ W.cell? ⟨g, 8, none⟩ = some v8 :=
 ⟨by simp [World.cell?, h], by simp [World.cell?, h], by simp [World.cell?, h], by simp [World.cell?, h], by simp [World.cell?, h], by simp [World.cell?, h], by simp [World.cell?, h], by simp [World.cell?, h], by simp [World.cell?, h]⟩
theorem two_new (w : World) (x y : Obj) {W : World} (hW : (w.alloc x).alloc y = W) : Below w.heap.size w W ∧ W.heap[w.heap.size]? = some x ∧ W.heap[w.heap.size + 1]? = some y ∧ W.heap.size = w.heap.size + 1 + 1 := by
 have hza : (w.alloc x).heap.size = w.heap.size + 1 := by show (w.heap.push _).size = _; simp
 refine ⟨by rw [← hW]; exact ((Below.refl _ _).alloc (Nat.le_refl _) _).alloc (by rw [hza]; omega) _, ?_, ?_, ?_⟩
 ·rw [← hW, Below.heap_alloc _ _ _ (by rw [hza]; omega)]; exact World.alloc_heap_new w _
 ·have q := World.alloc_heap_new (w.alloc x) y
  rw [hza, hW] at q
  exact q
 ·rw [← hW]; show ((w.heap.push _).push _).size = _; simp
theorem three_new (w : World) (x y z : Obj) {W : World} (hW : ((w.alloc x).alloc y).alloc z = W) : Below w.heap.size w W ∧ W.heap[w.heap.size]? = some x ∧ W.heap[w.heap.size + 1]? = some y ∧ W.heap[w.heap.size + 1 + 1]? = some z ∧ W.heap.size = w.heap.size + 1 + 1 + 1 := by
 obtain ⟨V, hV⟩ : ∃ V, (w.alloc x).alloc y = V := ⟨_, rfl⟩
 obtain ⟨h1, h2, h3, h4⟩ := two_new w x y hV
 rw [hV] at hW
 have hb : Below V.heap.size V W := by rw [← hW]; exact (Below.refl _ _).alloc (Nat.le_refl _) _
 refine ⟨h1.trans (hb.mono (by omega)), (hb.block _ (by omega)).trans h2, (hb.block _ (by omega)).trans h3, ?_, ?_⟩
 ·have q := World.alloc_heap_new V z
  rw [h4, hW] at q
  exact q
 ·rw [← hW]; show (V.heap.push _).size = _; simp [h4]
theorem wrap_nat {n : Nat} (h : n < 2000000) : wrap64 ((n : Int)) = (n : Int) := by unfold wrap64; omega
set_option maxRecDepth 100000 in
set_option maxHeartbeats 1000000 in
theorem sval_any {c0 c1 c2 c3 c4 c5 : Nat} (h : DocS w a0 a1 a2 a3 a4 a5 nv nf nl nt nr m) (h4 : nt ≤ 4) {t : Nat} (ht : t < nt) {r : Bool} {n : Int} (hb : argB4 r n) :
 Calls Tryz.prog 42 #[.agg #[.slice a0 nv c0, .slice a1 nf c1, .slice a2 nl c2, .slice a3 nt c3, .slice a4 nt c4, .slice a5 nr c5], .int .i64 t, .agg #[.bool r, .int .i64 n]] w fun e w' => e = .returned (.int .i64 (vlM (m.th t) r n)) ∧ Below w.heap.size w w' := by
 obtain ⟨W, hW⟩ : ∃ W, (w.alloc (.cells #[.slice a0 nv c0, .slice a1 nf c1, .slice a2 nl c2, .slice a3 nt c3, .slice a4 nt c4, .slice a5 nr c5] 36)).alloc (.cells #[.bool r, .int .i64 n] 112) = W := ⟨_, rfl⟩
 obtain ⟨hB, k1, k2, hz⟩ := two_new _ _ _ hW
 have HB := hide hB
 cases r with
 | false =>
  have p0 : W.cell? ⟨w.heap.size + 1, 0, none⟩ = some (.bool false) := by simp [World.cell?, k2]
  have p1 : W.cell? ⟨w.heap.size + 1, 1, none⟩ = some (.int .i64 n) := by simp [World.cell?, k2]
  clear k1 k2 hz hB h ht hb
  go_enter Tryz.func42, Tryz.ntmps42
  go_upto_region 1 with fail
  try rw [hW]
  go_wp2_with fail
  go_ret
  exact ⟨rfl, HB.out⟩
 | true =>
  have p0 : W.cell? ⟨w.heap.size + 1, 0, none⟩ = some (.bool true) := by simp [World.cell?, k2]
  obtain ⟨rn, rfl⟩ : ∃ rn : Nat, n = rn := ⟨n.toNat, by have := hb.1; omega⟩
  have p1 : W.cell? ⟨w.heap.size + 1, 1, none⟩ = some (.int .i64 rn) := by simp [World.cell?, k2]
  obtain ⟨-, -, -, -, -, p5⟩ := six_cells k1
  have hr4 : rn < 4 := by have := hb.2.2 rfl; omega
  obtain ⟨b, off, rfl, -, hc⟩ := (h.below hB).rgAt ht hr4
  obtain ⟨k, hk⟩ : ∃ k, t * 4 + rn = k := ⟨_, rfl⟩
  obtain ⟨tq, htq⟩ : ∃ q, t * 4 = q := ⟨_, rfl⟩
  rw [hk] at hc
  have hkn : (k : Int) < (nr : Int) := by have := h.lr; omega
  have hw1 : wrap64 ((t : Int) * 4) = (tq : Int) := by rw [← htq]; have := wrap_nat (n := t * 4) (by omega); push_cast at this ⊢; exact this
  have hw2 : wrap64 ((tq : Int) + (rn : Int)) = (k : Int) := by rw [← hk, htq]; have := wrap_nat (n := tq + rn) (by omega); push_cast at this ⊢; exact this
  have hv : vlM (m.th t) true (rn : Int) = (m.th t).regs.getD rn 0 := by unfold vlM; rw [if_pos rfl, Int.toNat_natCast]
  rw [hv]
  clear k1 k2 hz hB h ht hb hk htq hr4 hv
  go_enter Tryz.func42, Tryz.ntmps42
  go_upto_region 1 with fail
  try rw [hW]
  go_wp2_with fail
  go_ret
  exact ⟨rfl, HB.out⟩
end
end Go.Proofs.YtcfpedjfofpnkaaGreatDoor
