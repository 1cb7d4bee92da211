import Derived.Test.YtohnhfopigjpmabVecSaid
namespace Go.Proofs.Ytohnhfopigjpmab
open Go.RowKit

/-- Numbers that can be written, in blocks from B on. -/
def IntOpen (B : Nat) (w : World) (a : Option Addr) (m : Nat) : Prop :=
  ∀ j, j < m → ∃ b off, a = some ⟨b, off, none⟩ ∧ B ≤ b ∧ (w.cell? ⟨b, off + j, none⟩).isSome = true ∧ w.frozen? ⟨b, off + j, none⟩ = false ∧ b < w.heap.size

theorem New.opened {B : Nat} {w : World} {a : Option Addr} {n cap : Nat} {zs : List Int} (h : New B w (.slice a n cap) zs) : IntOpen B w a n := by
  obtain ⟨a', cap', e, _, _, _, h3⟩ := h
  cases e
  intro j hj
  obtain ⟨b, off, e1, e2, e3, e4, e5⟩ := h3 j hj
  exact ⟨b, off, e1, e2, by rw [e4]; rfl, e5, e3⟩
theorem IntOpen.below {B m : Nat} {w w' : World} {a : Option Addr} (h : IntOpen B w a m) (hb : Below w.heap.size w w') : IntOpen B w' a m := by
  intro j hj
  obtain ⟨b, off, e1, e2, e4, e5, e3⟩ := h j hj
  exact ⟨b, off, e1, e2, by rw [hb.cell (p := ⟨b, off + j, none⟩) e3]; exact e4, (hb.frozen (p := ⟨b, off + j, none⟩) e3).trans e5, by have := hb.size; omega⟩
theorem IntOpen.mono {B B' m : Nat} {w : World} {a : Option Addr} (h : IntOpen B w a m) (hB : B' ≤ B) : IntOpen B' w a m := by
  intro j hj
  obtain ⟨b, off, e1, e2, r⟩ := h j hj
  exact ⟨b, off, e1, by omega, r⟩
theorem isSome_stored {w : World} {p q : Addr} {u : Value} (h : (w.cell? q).isSome = true) : ((w.setCell p u).cell? q).isSome = true := by
  obtain ⟨x, hx⟩ := Option.isSome_iff_exists.1 h
  by_cases e : q = p
  · subst e
    rw [World.cell?_setCell_same w q u hx]; rfl
  · rw [World.cell?_setCell_other _ _ _ _ (fun h => e h.symm)]; exact h
theorem IntOpen.setCell {B m : Nat} {w : World} {a : Option Addr} (h : IntOpen B w a m) (p : Addr) (u : Value) : IntOpen B (w.setCell p u) a m := by
  intro j hj
  obtain ⟨b, off, e1, e2, e4, e5, e3⟩ := h j hj
  exact ⟨b, off, e1, e2, isSome_stored e4, by rw [World.frozen?_setCell]; exact e5, by simpa using e3⟩

theorem ints_same {a : Option Addr} {n cap : Nat} {a' : Option Addr} {n' cap' : Nat} {xs : List Int} {w : World} (h : SlV w a n cap xs) (h' : SlV w a' n' cap' xs) :
    Calls Try.prog 8 #[.slice a n cap, .slice a' n' cap'] w fun e w' => e = .returned (.bool true) ∧ Below w.heap.size w w' := by
  have := ints_any a n cap xs a' n' cap' xs w h.1 h.2.2.2.2.1 h.2.2.2.2.2 h'.1 h'.2.2.2.2.1
  rw [decide_eq_true rfl] at this
  exact this

theorem SlV.none {w : World} {a : Option Addr} {n cap : Nat} {zs : List Int} (h : SlV w a n cap zs) : a = none → n = 0 ∧ cap = 0 := fun e => by
  have := h.2.2.2.1 e
  have := h.2.1
  omega

set_option maxRecDepth 100000 in
set_option maxHeartbeats 2000000 in
theorem clockAll_walk (hA : AtSaid) (hL : LeqSaid) (hS : SameSaid) (hM : MaxSaid) (hT : TickSaid) (a0 : Option Addr) (n0 c0 : Nat) (xs : List Int) (a1 : Option Addr) (n1 c1 : Nat) (ys : List Int) (t : Int) (w : World)
    (h0 : SlV w a0 n0 c0 xs) (h1 : SlV w a1 n1 c1 ys) :
    Calls Try.prog 3 #[.slice a0 n0 c0, .slice a1 n1 c1, .int .i64 t] w fun e w' => e = .returned (.bool true) ∧ Below w.heap.size w w' := by
  have l0 := h0.2.2.2.2.2
  have l1 := h1.2.2.2.2.2
  have z0 := h0.1
  have z1 := h1.1
  have hW : Below w.heap.size w w := Below.refl _ _
  go_enter Try.func3, Try.ntmps3
  go_wp2_with fail
  refine (copied_any _ _ _ _ _ h0.1 h0.2.2.2.2.1 h0.2.2.2.2.2 h0.none).mono ?_
  rintro e w1 ⟨v, rfl, hnew, hb⟩
  obtain ⟨ax, cx, rfl, hx⟩ := hnew.parts (by omega)
  rw [z0] at hx
  replace h0 := h0.below hb
  replace h1 := h1.below hb
  replace hW := hW.trans (hb.mono hW.size)
  clear hb hnew
  go_wp2_with fail
  refine (copied_any _ _ _ _ _ h1.1 h1.2.2.2.2.1 h1.2.2.2.2.2 h1.none).mono ?_
  rintro e w2 ⟨v, rfl, hnew, hb⟩
  obtain ⟨ay, cy, rfl, hy⟩ := hnew.parts (by omega)
  rw [z1] at hy
  replace h0 := h0.below hb
  replace h1 := h1.below hb
  replace hx := hx.below hb
  replace hW := hW.trans (hb.mono hW.size)
  clear hb hnew
  have k0 := h0
  have k1 := h1
  have kx := hx
  have ky := hy
  have hX : Below w2.heap.size w2 w2 := Below.refl _ _
  go_wp2_with fail
  refine (hM _ _ _ _ _ _ _ _ _ hx hy).mono ?_
  rintro e w3 ⟨v, rfl, hnew, hb⟩
  obtain ⟨am, cm, rfl, hm⟩ := hnew.parts (by have := Vec.maxV_len xs ys; omega)
  have om := hnew.opened
  replace h0 := h0.below hb
  replace h1 := h1.below hb
  replace hx := hx.below hb
  replace hy := hy.below hb
  replace hX := hX.trans (hb.mono hX.size)
  clear hb hnew
  go_wp2_with fail
  refine (hT _ _ _ _ _ _ hx).mono ?_
  rintro e w4 ⟨v, rfl, hnew, hb⟩
  obtain ⟨ak, ck, rfl, hk⟩ := hnew.parts (by have := Vec.tickV_len wrap64 xs t; omega)
  have ok := hnew.opened.mono hX.size
  replace om := om.below hb
  replace h0 := h0.below hb
  replace h1 := h1.below hb
  replace hx := hx.below hb
  replace hy := hy.below hb
  replace hm := hm.below hb
  replace hX := hX.trans (hb.mono hX.size)
  clear hb hnew
  go_wp2_with fail
  refine (rMax_any _ _ _ _ _ _ _ _ _ h0.1 h0.2.2.2.2.1 h0.2.2.2.2.2 h1.1 h1.2.2.2.2.1 h1.2.2.2.2.2).mono ?_
  rintro e w5 ⟨v, rfl, hnew, hb⟩
  obtain ⟨au, cu, rfl, hu⟩ := hnew.parts (by have := Vec.maxV_len xs ys; omega)
  replace om := om.below hb
  replace ok := ok.below hb
  replace h0 := h0.below hb
  replace h1 := h1.below hb
  replace hx := hx.below hb
  replace hy := hy.below hb
  replace hm := hm.below hb
  replace hk := hk.below hb
  replace hX := hX.trans (hb.mono hX.size)
  clear hb hnew
  go_wp2_with fail
  refine (ints_same hm hu).mono ?_
  rintro e w6 ⟨rfl, hb⟩
  replace om := om.below hb
  replace ok := ok.below hb
  replace h0 := h0.below hb
  replace h1 := h1.below hb
  replace hx := hx.below hb
  replace hy := hy.below hb
  replace hk := hk.below hb
  replace hX := hX.trans (hb.mono hX.size)
  clear hb hm hu
  go_wp2_with fail
  refine (rTick_any _ _ _ _ _ _ h0.1 h0.2.2.2.2.1 h0.2.2.2.2.2).mono ?_
  rintro e w7 ⟨v, rfl, hnew, hb⟩
  obtain ⟨au, cu, rfl, hu⟩ := hnew.parts (by have := Vec.tickV_len wrap64 xs t; omega)
  replace om := om.below hb
  replace ok := ok.below hb
  replace h0 := h0.below hb
  replace h1 := h1.below hb
  replace hx := hx.below hb
  replace hy := hy.below hb
  replace hk := hk.below hb
  replace hX := hX.trans (hb.mono hX.size)
  clear hb hnew
  go_wp2_with fail
  refine (ints_same hk hu).mono ?_
  rintro e w8 ⟨rfl, hb⟩
  replace om := om.below hb
  replace ok := ok.below hb
  replace h0 := h0.below hb
  replace h1 := h1.below hb
  replace hx := hx.below hb
  replace hy := hy.below hb
  replace hX := hX.trans (hb.mono hX.size)
  clear hb hk hu
  have b1 : (Vec.at_ xs t != Vec.at_ xs t) = false := by simp
  have b2 : (Vec.leq xs ys != Vec.leq xs ys) = false := by simp
  have b3 : (Vec.same xs ys != Vec.same xs ys) = false := by simp
  go_wp2_with fail
  refine (hA _ _ _ _ _ _ hx).mono ?_
  rintro e w9 ⟨rfl, hb⟩
  replace om := om.below hb
  replace ok := ok.below hb
  replace h0 := h0.below hb
  replace h1 := h1.below hb
  replace hx := hx.below hb
  replace hy := hy.below hb
  replace hX := hX.trans (hb.mono hX.size)
  clear hb
  go_wp2_with fail
  refine (rAt_any _ _ _ _ _ _ h0.1 h0.2.2.2.2.1).mono ?_
  rintro e w10 ⟨rfl, rfl⟩
  go_wp2_with fail
  refine (hL _ _ _ _ _ _ _ _ _ hx hy).mono ?_
  rintro e w11 ⟨rfl, hb⟩
  replace om := om.below hb
  replace ok := ok.below hb
  replace h0 := h0.below hb
  replace h1 := h1.below hb
  replace hx := hx.below hb
  replace hy := hy.below hb
  replace hX := hX.trans (hb.mono hX.size)
  clear hb
  go_wp2_with fail
  refine (rLeq_any _ _ _ _ _ _ _ _ _ h0.1 h0.2.2.2.2.1 h0.2.2.2.2.2 h1.1 h1.2.2.2.2.1 h1.2.2.2.2.2).mono ?_
  rintro e w12 ⟨rfl, rfl⟩
  go_wp2_with fail
  refine (hS _ _ _ _ _ _ _ _ _ hx hy).mono ?_
  rintro e w13 ⟨rfl, hb⟩
  replace om := om.below hb
  replace ok := ok.below hb
  replace h0 := h0.below hb
  replace h1 := h1.below hb
  replace hx := hx.below hb
  replace hy := hy.below hb
  replace hX := hX.trans (hb.mono hX.size)
  clear hb
  go_wp2_with fail
  refine (rSame_any _ _ _ _ _ _ _ _ _ h0.1 h0.2.2.2.2.1 h0.2.2.2.2.2 h1.1 h1.2.2.2.2.1 h1.2.2.2.2.2).mono ?_
  rintro e w14 ⟨rfl, rfl⟩
  have lm : (Vec.maxV xs ys).length ≤ 17592186043904 := by have := Vec.maxV_len xs ys; omega
  have lk : (Vec.tickV wrap64 xs t).length ≤ 17592186043904 := by have := Vec.tickV_len wrap64 xs t; omega
  clear h0 h1 hx hy b1 b2 b3
  go_wp2_with fail
  go_loopw [13] (fun iv wr => ∃ i : Nat, i ≤ (Vec.maxV xs ys).length ∧ iv = .int .i64 i ∧ Below w2.heap.size w2 wr ∧ IntOpen w2.heap.size wr am (Vec.maxV xs ys).length ∧ IntOpen w2.heap.size wr ak (Vec.tickV wrap64 xs t).length) (fun iv _ => (Vec.maxV xs ys).length - (intOf iv).toNat)
  case atStart => exact ⟨0, Nat.zero_le _, rfl, hX, om, ok⟩
  case round =>
    clear hX om ok
    obtain ⟨i, hi, rfl, hX, om, ok⟩ := hrel
    by_cases h5 : i < (Vec.maxV xs ys).length
    · obtain ⟨b, off, rfl, hB1, hcs, hfz, _⟩ := om i h5
      obtain ⟨x, hx⟩ := Option.isSome_iff_exists.1 hcs
      have hX2 := hX.setCell (p := ⟨b, off + i, none⟩) hB1 (.int .i64 (-77))
      have om2 := om.setCell ⟨b, off + i, none⟩ (.int .i64 (-77))
      have ok2 := ok.setCell ⟨b, off + i, none⟩ (.int .i64 (-77))
      clear hX om ok hcs
      go_wp2
      go_roundw
      case rel => exact ⟨i + 1, by omega, by go_num, hX2, om2, ok2⟩
      case measure => simp [intOf]; omega
    · go_wp2_with fail
      go_loopw [14] (fun iv wr => ∃ i : Nat, i ≤ (Vec.tickV wrap64 xs t).length ∧ iv = .int .i64 i ∧ Below w2.heap.size w2 wr ∧ IntOpen w2.heap.size wr ak (Vec.tickV wrap64 xs t).length) (fun iv _ => (Vec.tickV wrap64 xs t).length - (intOf iv).toNat)
      case atStart => exact ⟨0, Nat.zero_le _, rfl, hX, ok⟩
      case round =>
        clear hX om ok
        obtain ⟨j, hj, rfl, hX, ok⟩ := hrel
        by_cases h6 : j < (Vec.tickV wrap64 xs t).length
        · obtain ⟨b, off, rfl, hB1, hcs, hfz, _⟩ := ok j h6
          obtain ⟨x, hx⟩ := Option.isSome_iff_exists.1 hcs
          have hX2 := hX.setCell (p := ⟨b, off + j, none⟩) hB1 (.int .i64 (-77))
          have ok2 := ok.setCell ⟨b, off + j, none⟩ (.int .i64 (-77))
          clear hX ok hcs
          go_wp2
          go_roundw
          case rel => exact ⟨j + 1, by omega, by go_num, hX2, ok2⟩
          case measure => simp [intOf]; omega
        · have h0 := k0.below hX
          have h1 := k1.below hX
          have hx := kx.below hX
          have hy := ky.below hX
          replace hW := hW.trans (hX.mono hW.size)
          clear hX ok k0 k1 kx ky
          go_wp2_with fail
          refine (ints_same hx h0).mono ?_
          rintro e w15 ⟨rfl, hb⟩
          replace h1 := h1.below hb
          replace hy := hy.below hb
          replace hW := hW.trans (hb.mono hW.size)
          clear hb
          go_wp2_with fail
          refine (ints_same hy h1).mono ?_
          rintro e w16 ⟨rfl, hb⟩
          replace hW := hW.trans (hb.mono hW.size)
          clear hb
          go_wp2_with fail
          refine (alive4_true hA hL hM hT _).mono ?_
          rintro e w17 ⟨rfl, hb5⟩
          go_wp2_with fail
          go_ret
          exact ⟨rfl, hW.trans (hb5.mono hW.size)⟩
end Go.Proofs.Ytohnhfopigjpmab
