import Derived.Test.YtcfpedjfofpnkaaGreatDoorRvR2
import Derived.Test.YtcfpedjfofpnkaaGreatDoorRv26
set_option linter.unusedVariables false
set_option linter.unusedSimpArgs false
namespace Go.Proofs.YtcfpedjfofpnkaaGreatDoor
open Go.RowKit Go.Shelf Go.Proofs.Cod
theorem slices_ne {W : World} {sb g i T n0 n1 n2 n3 n4 n5 d0 d1 d2 d3 d4 d5 : Nat} {a0 a1 a2 a3 a4 a5 : Option Addr} {n : Int} (ks : W.heap[sb]? = some (.cells #[.slice a0 n0 d0, .slice a1 n1 d1, .slice a2 n2 d2, .slice a3 n3 d3, .slice a4 n4 d4, .slice a5 n5 d5] T)) (hc : W.cell? ⟨g, i, none⟩ = some (.int .i64 n)) : g ≠ sb := by
 intro e
 subst e
 obtain ⟨c0, c1, c2, c3, c4, c5⟩ := six_cells ks
 have hl : i < 6 := by
  have q : (#[Value.slice a0 n0 d0, .slice a1 n1 d1, .slice a2 n2 d2, .slice a3 n3 d3, .slice a4 n4 d4, .slice a5 n5 d5] : Array Value)[i]? = some (.int .i64 n) := by simpa [World.cell?, ks] using hc
  exact (Array.getElem?_eq_some_iff.1 q).1
 match i, hl with
 | 0, _ => rw [c0] at hc; cases hc
 | 1, _ => rw [c1] at hc; cases hc
 | 2, _ => rw [c2] at hc; cases hc
 | 3, _ => rw [c3] at hc; cases hc
 | 4, _ => rw [c4] at hc; cases hc
 | 5, _ => rw [c5] at hc; cases hc
section
variable {w w' : World} {sb T n0 n1 n2 n3 n4 n5 d0 d1 d2 d3 d4 d5 : Nat} {e0 e1 e2 e3 e4 e5 : Option Addr} {a0 a1 a2 a3 a4 a5 : Option Addr} {nv nf nl nt nr : Nat} {m : MS} {a : Option Addr} {l : List Int}
theorem Is.of_keep (h : Is w a l) (ks : w.heap[sb]? = some (.cells #[.slice e0 n0 d0, .slice e1 n1 d1, .slice e2 n2 d2, .slice e3 n3 d3, .slice e4 n4 d4, .slice e5 n5 d5] T)) (hk : KeepS (fun k => k = sb) w w') : Is w' a l := fun i hi => by
 obtain ⟨b, off, e, hb, hc⟩ := h i hi
 have hne := slices_ne ks hc
 refine ⟨b, off, e, Nat.lt_of_lt_of_le hb hk.size, ?_⟩
 rw [← hc]
 unfold World.cell?
 dsimp only
 rw [hk.block b hb hne]
theorem DocS.of_keep (h : DocS w a0 a1 a2 a3 a4 a5 nv nf nl nt nr m) (ks : w.heap[sb]? = some (.cells #[.slice e0 n0 d0, .slice e1 n1 d1, .slice e2 n2 d2, .slice e3 n3 d3, .slice e4 n4 d4, .slice e5 n5 d5] T)) (hk : KeepS (fun k => k = sb) w w') : DocS w' a0 a1 a2 a3 a4 a5 nv nf nl nt nr m :=
 ⟨h.v.of_keep ks hk, h.f.of_keep ks hk, h.l.of_keep ks hk, h.p.of_keep ks hk, h.s.of_keep ks hk, h.r.of_keep ks hk, h.lv, h.lf, h.ll, h.lt, h.lr, h.r4⟩
def revL (e : Ev) : List Value := [.int .i64 e.t, .int .i64 e.k, .int .i64 e.o, .int .i64 e.v]
theorem revL_len (e : Ev) : (revL e).length = 4 := rfl
theorem Tryz.infoRe : (Tryz.prog.info? 50).map (fun i => (i.zero, i.size, i.bytes)) = some (some (.agg #[.int .i64 0, .int .i64 0, .int .i64 0, .int .i64 0]), 4, 32) := by kernel_rfl
theorem revs_push {base : Nat} {v : Value} {l : List Ev} (h : w.ownsRow base 50 4 v l.length (l.flatMap revL)) (x : Ev) (hl : l.length < 1048576) (hb : base ≤ w.heap.size) :
 ∃ g cap w', (Builtin.append_ #[58, 58] 58 #[v, .slice (some ⟨w.heap.size, 0, none⟩) 1 1]).run Tryz.prog (w.alloc (.cells #[.int .i64 x.t, .int .i64 x.k, .int .i64 x.o, .int .i64 x.v] 50)) = .ok (.slice (some ⟨g, 0, none⟩) (l.length + 1) cap) w' ∧
  w'.ownsRow base 50 4 (.slice (some ⟨g, 0, none⟩) (l.length + 1) cap) (l ++ [x]).length ((l ++ [x]).flatMap revL) ∧ (∀ B, B ≤ base → Below B w w') ∧ (∀ k, k < w.heap.size → v.ownBlock ≠ some k → w'.heap[k]? = w.heap[k]?) := by
 obtain ⟨i0, hi, hy0, hy1, hy2⟩ := info_parts Tryz.infoRe
 obtain ⟨g, cap, w', hr, r1, ro, rt, rp, rz, rb, rg⟩ := owns_pushN h Tryz.underlying58 hi hy0 hy1 hy2 rfl (by omega) (revL x) rfl (by intro u hu; simp only [revL, List.mem_cons, List.not_mem_nil, or_false] at hu; rcases hu with rfl | rfl | rfl | rfl <;> rfl) 58 hl hb
 refine ⟨g, cap, w', hr, ?_, fun B hB => ⟨ro, rt, rp, by omega, fun k hk => rb k (by omega) (fun e => ?_)⟩, rb⟩
 ·rw [List.length_append, List.flatMap_append]
  have e : List.flatMap revL [x] = revL x := by simp
  rw [e]
  exact r1
 ·have := (h.lt k e).1
  omega
end
end Go.Proofs.YtcfpedjfofpnkaaGreatDoor
