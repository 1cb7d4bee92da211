import Derived.Test.YtomhdopbbnmcnabFb14
import Derived.Test.YtomhdopbbnmcnabFb16
import Derived.Test.YtomhdopbbnmcnabFb5
namespace Go.Proofs.Ytomhdopbbnmcnab
open Go.RowKit Go.Proofs.Ord

theorem ownsRow_aw {F : Nat → Prop} {B t s n m : Nat} {w : World} {a : Option Addr} {cap : Nat} {xs : List Value} (h : w.ownsRow B t s (.slice a n cap) n xs) (hF : ∀ k, F k → k < B) : Aw F w a m := fun b off e _ => by
  subst e
  have := h.lt b rfl
  exact ⟨this.2, fun hk => by have := hF b hk; omega⟩

set_option maxRecDepth 100000 in
set_option maxHeartbeats 400000 in
theorem ints6_any (a : Option Addr) (n cap : Nat) (xs : List Int) (a' : Option Addr) (n' cap' : Nat) (ys : List Int) (w : World) (hn : xs.length = n) (hs : Sl w a xs) (hb : n * 8 ≤ 140737488351232) (hn' : ys.length = n') (hs' : Sl w a' ys) :
    Calls Try.prog 38 #[.slice a n cap, .slice a' n' cap'] w fun e w' => e = .returned (.bool (decide (xs = ys))) ∧ Below w.heap.size w w' := by
  by_cases hne : n = n'
  · subst hne
    go_enter Try.func38, Try.ntmps38
    go_wp2
    go_loopw [5] (fun i wr => ∃ k : Nat, k ≤ n ∧ i = .int .i64 k ∧ (∀ j, j < k → xs.getD j 0 = ys.getD j 0) ∧ Below w.heap.size w wr) (fun i _ => n - (intOf i).toNat)
    case atStart => exact ⟨0, Nat.zero_le _, rfl, fun j hj => absurd hj (by omega), Below.refl _ _⟩
    case round =>
      obtain ⟨k, hk, rfl, hall, hbel⟩ := hrel
      have H := hide hall
      clear hall
      by_cases h5 : k < n
      · obtain ⟨b, off, rfl, hlt, hc⟩ := (hs.below hbel) k (by omega)
        obtain ⟨b', off', rfl, hlt', hc'⟩ := (hs'.below hbel) k (by omega)
        generalize hx : xs.getD k 0 = x at hc
        generalize hy : ys.getD k 0 = y at hc'
        have HX := hide hx
        have HY := hide hy
        clear hx hy
        by_cases h6 : x = y
        · have h7 : (x != y) = false := by simpa using h6
          have H2 : Hid (∀ j, j < k + 1 → xs.getD j 0 = ys.getD j 0) := fun j hj => by
            by_cases e : j < k
            · exact H.out j e
            · obtain rfl : j = k := by omega
              rw [HX.out, HY.out]; exact h6
          clear h6
          go_wp2
          go_quiet (fail)
          go_wp2
          go_roundw
          case rel => exact ⟨k + 1, by omega, by go_num, H2.out, drewN_below hbel _⟩
          case measure => simp [intOf]; omega
        · have h7 : (x != y) = true := by simpa using h6
          have hres : Hid (decide (xs = ys) = false) := by
            apply decide_eq_false; intro e; apply h6; rw [← HX.out, ← HY.out, e]
          clear h6
          go_wp2
          go_quiet (fail)
          go_wp2
          go_ret
          exact ⟨ret_bool hres.out.symm, drewN_below hbel _⟩
      · have hres : Hid (decide (xs = ys) = true) := decide_eq_true (ext_getD (by omega) (fun j hj => H.out j (by omega)))
        go_wp2
        go_ret
        exact ⟨ret_bool hres.out.symm, hbel⟩
  · have hres : Hid (decide (xs = ys) = false) := by
      apply decide_eq_false; intro e; subst e; omega
    have h7 : ((n : Int) != (n' : Int)) = true := bne_iff_ne.2 (by omega)
    go_enter Try.func38, Try.ntmps38
    go_wp2
    go_ret
    exact ⟨ret_bool hres.out.symm, Below.refl _ _⟩

theorem ints6_same {a : Option Addr} {n cap : Nat} {a' : Option Addr} {n' cap' : Nat} {xs : List Int} {w : World} (h : SlV w a n cap xs) (h' : SlV w a' n' cap' xs) :
    Calls Try.prog 38 #[.slice a n cap, .slice a' n' cap'] w fun e w' => e = .returned (.bool true) ∧ Below w.heap.size w w' := by
  have := ints6_any a n cap xs a' n' cap' xs w h.1 h.2.2.2.2.1 h.2.2.2.2.2 h'.1 h'.2.2.2.2.1
  rw [decide_eq_true rfl] at this
  exact this

theorem rRacy6_as {a : Option Addr} {n cap : Nat} {l : List Ev} {af : Option Addr} {cf : Nat} {f : Nat → Bool} {m : Nat} {x : Int} {w : World} (hx : (m : Int) = x) (hn : l.length = n) (hs : EvS w a l) (hb : n ≤ 1048576) (hf : BoolS w af n f) (hm : m ≤ n) :
    Calls Try.prog 39 #[.slice a n cap, .slice af n cf, .int .i64 x] w fun e w' => ∃ v, e = .returned v ∧ New w.heap.size w' v (varsTo (ev l) f m) ∧ Below w.heap.size w w' := by
  rw [← hx]; exact rRacy6_any _ _ _ _ _ _ _ _ _ _ hn hs hb hf hm rfl

set_option maxRecDepth 100000 in
set_option maxHeartbeats 2000000 in
theorem fastSees_walk (hF : FastSaid) (a : Option Addr) (n cap : Nat) (l : List Ev) (a' : Option Addr) (n' cap' : Nat) (other : List Ev) (w : World) (hn : l.length = n) (hs : EvS w a l) (hb : n ≤ 1048576) (hn' : other.length = n') (hs' : EvS w a' other) (hb' : n' ≤ 1048576) (hr : EvR l) (hr' : EvR other) :
    Calls Try.prog 8 #[.slice a n cap, .slice a' n' cap'] w fun e w' => e = .returned (.bool true) ∧ Below w.heap.size w w' := by
  have hF' := o_hide hF
  have hr := o_hide hr
  have hr' := o_hide hr'
  obtain ⟨Det, hD⟩ := hF
  go_enter Try.func8, Try.ntmps8
  go_wp2_with fail
  refine (hD.new _).mono ?_
  rintro e w1 ⟨p, Fd, rfl, hd1, hFd, hb1⟩
  go_wp2_with fail
  refine (hD.new _).mono ?_
  rintro e w2 ⟨q, Fo, rfl, ho2, hFo, hb2⟩
  have hk2 : Below w.heap.size w w2 := hb1.trans (hb2.mono hb1.size)
  have hd2 := hD.own hd1 (fun k hk => hb2.block k (hD.lt hd1 k hk)) hb2.size hb2.os hb2.tape hb2.output
  have hap : Hid (∀ k, Fd k → ¬ Fo k) := fun k h1 h2 => by have := hD.lt hd1 k h1; have := hFo k h2; omega
  have hlt2d : Hid (∀ k, Fd k → k < w2.heap.size) := fun k hk => hD.lt hd2 k hk
  have hlt2o : Hid (∀ k, Fo k → k < w2.heap.size) := fun k hk => hD.lt ho2 k hk
  have hFo' : Hid (∀ k, Fo k → w.heap.size ≤ k) := fun k hk => by have := hFo k hk; have := hb1.size; omega
  have hFd' := o_hide hFd
  clear hd1 hFo hFd hb1 hb2
  go_wp2_with fail
  refine (rFirsts_any _ _ _ _ _ hn (hs.below hk2) hb).mono ?_
  rintro e w3 ⟨g, hg, rfl, ht, hb3⟩
  have hk3 : Below w.heap.size w w3 := hk2.trans (hb3.mono hk2.size)
  have hawd3 : Hid (Aw Fd w3 (some ⟨g, 0, none⟩) n) := ownsRow_aw ht (fun k hk => by have := hlt2d.out k hk; omega)
  have hawo3 : Hid (Aw Fo w3 (some ⟨g, 0, none⟩) n) := ownsRow_aw ht (fun k hk => by have := hlt2o.out k hk; omega)
  have hw3 := ht.boolS
  clear ht
  go_wp2_with fail
  refine (given_any _ _ _ _ _ hn (hs.below hk3) (by omega)).mono ?_
  rintro e w4 ⟨v, rfl, hown, hb4⟩
  obtain ⟨a1, cap1, rfl, _, _, _, hs1⟩ := evS_of_owns hown
  have hk4 : Below w.heap.size w w4 := hk3.trans (hb4.mono hk3.size)
  have hawd4 : Hid (Aw Fd w4 a1 l.length) := ownsRow_aw hown (fun k hk => by have := hlt2d.out k hk; have := hb3.size; omega)
  have hawo4 : Hid (Aw Fo w4 a1 l.length) := ownsRow_aw hown (fun k hk => by have := hlt2o.out k hk; have := hb3.size; omega)
  clear hown
  go_wp2_with fail
  refine (given_any _ _ _ _ _ hn' (hs'.below hk4) (by omega)).mono ?_
  rintro e w5 ⟨v, rfl, hown, hb5⟩
  obtain ⟨a2, cap2, rfl, _, _, _, hs2⟩ := evS_of_owns hown
  have hk5 : Below w.heap.size w w5 := hk4.trans (hb5.mono hk4.size)
  have hawd5 : Hid (Aw Fd w5 a2 other.length) := ownsRow_aw hown (fun k hk => by have := hlt2d.out k hk; have := hb3.size; have := hb4.size; omega)
  have hawo5 : Hid (Aw Fo w5 a2 other.length) := ownsRow_aw hown (fun k hk => by have := hlt2o.out k hk; have := hb3.size; have := hb4.size; omega)
  have hB25 : Below w2.heap.size w2 w5 := (hb3.trans (hb4.mono hb3.size)).trans (hb5.mono (Nat.le_trans hb3.size hb4.size))
  have hB35 : Below w3.heap.size w3 w5 := hb4.trans (hb5.mono hb4.size)
  have hT : Two Det w.heap.size w5 Fd Fo p q [] [] a1 a2 (some ⟨g, 0, none⟩) l other n (isFirst (ev l)) :=
    ⟨hD.own hd2 (fun k hk => hB25.block k (hlt2d.out k hk)) hB25.size hB25.os hB25.tape hB25.output, hD.own ho2 (fun k hk => hB25.block k (hlt2o.out k hk)) hB25.size hB25.os hB25.tape hB25.output, hap.out, hFd'.out, hFo'.out,
      hs1.below hb5, hs2, hw3.below hB35, hawd4.out.later hb5.size, hawo4.out.later hb5.size, hawd5.out, hawo5.out, hawd3.out.later hB35.size, hawo3.out.later hB35.size⟩
  clear hown hd2 ho2 hap hlt2d hlt2o hFo' hFd' hk2 hb3 hk3 hawd3 hawo3 hw3 hb4 hk4 hawd4 hawo4 hs1 hs2 hb5 hawd5 hawo5 hB25 hB35 hg
  go_wp2_with fail
  go_loopw [10, 11, 12, 13, 14] (fun iv _ _ _ _ wr => ∃ (i : Nat) (Fd Fo : Nat → Prop), i ≤ n ∧ iv = .int .i64 i ∧ Two Det w.heap.size wr Fd Fo p q (l.take i) (other.take i) a1 a2 (some ⟨g, 0, none⟩) l other n (isFirst (ev l)) ∧ Below w.heap.size w wr) (fun iv _ _ _ _ _ => n - (intOf iv).toNat)
  case atStart => exact ⟨0, Fd, Fo, Nat.zero_le _, rfl, hT, hk5⟩
  case round =>
    clear hT hk5
    obtain ⟨i, Fd, Fo, hi, rfl, hT, hbr⟩ := hrel
    have hszr := hbr.size
    by_cases h5 : i < n
    · have hin : (i : Int) < (n : Int) := by omega
      by_cases h6 : i < n'
      rotate_left
      · have hot : other.take (i + 1) = other.take i := by rw [List.take_of_length_le (by omega), List.take_of_length_le (by omega)]
        obtain ⟨wx, hwx⟩ : ∃ z, z = wr := ⟨wr, rfl⟩
        subst hwx
        have hTx := hT
        rw [← hot] at hTx
        have hbx := hbr
        obtain ⟨b1, off1, rfl, _, _⟩ := hTx.inn i (by omega)
        obtain ⟨t2, k2, o2, v2, HE2, d0, d1, d2, d3⟩ := hTx.inn.at (Below.refl _ _) (i := i) (by omega)
        clear hT hbr hot
        go_wp2_with fail
        refine (hD.see _ _ _ _ ⟨t2, k2, o2, v2⟩ hTx.d (by simp; omega) (hr.out.at (by omega) HE2.out).1 (hr.out.at (by omega) HE2.out).2).mono ?_
        rintro e wy ⟨Fd', rfl, hdd, hFd', hod⟩
        have hTy := hTx.seeD hD hdd hFd' hod hbx.size
        have hby : Below w.heap.size w wy := hbx.trans (hod.below hbx.size hTx.newD)
        have hsee : isFirst (ev (l.take i ++ [⟨t2, k2, o2, v2⟩])) (l.take i).length = isFirst (ev l) i := by
          rw [← HE2.out, take_next (by omega), List.length_take, Nat.min_eq_left (by omega), isFirst_take (by omega)]
        rw [← HE2.out, take_next (by omega)] at hTy
        rw [hsee]
        clear hsee HE2 d0 d1 d2 d3 hdd hFd' hod hTx hbx
        go_wp2_with fail
        refine (hD.racy _ _ _ _ hTy.d (by simp; omega)).mono ?_
        rintro e w6 ⟨v, rfl, hv, hb6⟩
        rw [List.length_take, Nat.min_eq_left (by omega), varsTo_take] at hv
        obtain ⟨ar, cr, rfl⟩ : ∃ ar cr, v = .slice ar (varsTo (ev l) (isFirst (ev l)) (i + 1)).length cr := by obtain ⟨ar, cr, e, _⟩ := hv; exact ⟨ar, cr, e⟩
        have hk6 : Below w.heap.size w w6 := hby.trans (hb6.mono hby.size)
        go_wp2_with fail
        refine (rRacy6_as (m := i + 1) (by omega) hn (hs.below hk6) hb (hTy.want.below hb6) (by omega)).mono ?_
        rintro e w7 ⟨v', rfl, hv', hb7⟩
        obtain ⟨ar', cr', rfl⟩ : ∃ ar cr, v' = .slice ar (varsTo (ev l) (isFirst (ev l)) (i + 1)).length cr := by obtain ⟨ar, cr, e, _⟩ := hv'; exact ⟨ar, cr, e⟩
        have hlen := varsTo_length (ev l) (isFirst (ev l)) (i + 1)
        generalize varsTo (ev l) (isFirst (ev l)) (i + 1) = vs at *
        have s6 := (hv.slV (by omega)).below hb7
        have s7 := hv'.slV (by omega)
        have hop7 := hv.opened.below hb7
        have hb67 : Below wy.heap.size wy w7 := hb6.trans (hb7.mono hb6.size)
        clear hv hv' hb6 hb7 hk6
        go_wp2_with fail
        refine (ints6_same s6 s7).mono ?_
        rintro e w8 ⟨rfl, hb8⟩
        have hb68 : Below wy.heap.size wy w8 := hb67.trans (hb8.mono hb67.size)
        have hop8 := hop7.below hb8
        obtain ⟨bw, ow, e', _, q0⟩ := (hTy.want.below hb68) i (by omega)
        cases e'
        rw [Nat.zero_add] at q0
        clear s6 s7 hop7 hb67 hb8
        generalize hxg : isFirst (ev l) i = x at *
        have hx : (x != x) = false := by cases x <;> rfl
        go_wp2_with fail
        have hb6q := hb68
        have hopq := hop8
        clear hb68 hop8 q0
        go_loopw [14] (fun kv wr => ∃ k : Nat, k ≤ vs.length ∧ kv = .int .i64 k ∧ IntOpen wy.heap.size wr ar vs.length ∧ Below wy.heap.size wy wr) (fun kv _ => vs.length - (intOf kv).toNat)
        case atStart => exact ⟨0, Nat.zero_le _, rfl, hopq, hb6q⟩
        case round =>
          clear hopq hb6q
          obtain ⟨k, hk, rfl, ho, hbel⟩ := hrel
          by_cases h7 : k < vs.length
          · obtain ⟨bi, oi, rfl, hBi, hcs, hfz, _⟩ := ho k h7
            obtain ⟨x0, hx0⟩ := Option.isSome_iff_exists.1 hcs
            have ho2 := ho.setCell ⟨bi, oi + k, none⟩ (.int .i64 (-77))
            have hb2 := hbel.setCell (p := ⟨bi, oi + k, none⟩) hBi (.int .i64 (-77))
            have hkr : (k : Int) < (vs.length : Int) := by omega
            clear ho hbel hcs
            go_wp2
            go_roundw
            case rel => exact ⟨k + 1, by omega, by go_num, ho2, hb2⟩
            case measure => simp [intOf]; omega
          · have hTz := o_hide (hTy.below hD hbel)
            have hbz := o_hide (hby.trans (hbel.mono hby.size))
            clear ho hbel
            go_wp2_with fail
            go_roundw
            case rel => exact ⟨i + 1, _, _, by omega, by go_num, hTz.out, hbz.out⟩
            case measure => simp [intOf]; omega
      · have hin' : (i : Int) < (n' : Int) := by omega
        obtain ⟨b2, off2, rfl, _, _⟩ := hT.side i (by omega)
        obtain ⟨t1, k1, o1, v1, HE1, c0, c1, c2, c3⟩ := hT.side.at (Below.refl _ _) (i := i) (by omega)
        go_wp2_with fail
        refine (hD.see _ _ _ _ ⟨t1, k1, o1, v1⟩ hT.o (by simp; omega) (hr'.out.at (by omega) HE1.out).1 (hr'.out.at (by omega) HE1.out).2).mono ?_
        rintro e wx ⟨Fo', rfl, hdo, hFo', hoo⟩
        have hTx := hT.seeO hD hdo hFo' hoo hszr
        rw [← HE1.out, take_next (by omega)] at hTx
        have hbx : Below w.heap.size w wx := hbr.trans (hoo.below hszr hT.newO)
        obtain ⟨b1, off1, rfl, _, _⟩ := hTx.inn i (by omega)
        obtain ⟨t2, k2, o2, v2, HE2, d0, d1, d2, d3⟩ := hTx.inn.at (Below.refl _ _) (i := i) (by omega)
        clear HE1 c0 c1 c2 c3 hdo hFo' hoo hT hbr
        go_wp2_with fail
        refine (hD.see _ _ _ _ ⟨t2, k2, o2, v2⟩ hTx.d (by simp; omega) (hr.out.at (by omega) HE2.out).1 (hr.out.at (by omega) HE2.out).2).mono ?_
        rintro e wy ⟨Fd', rfl, hdd, hFd', hod⟩
        have hTy := hTx.seeD hD hdd hFd' hod hbx.size
        have hby : Below w.heap.size w wy := hbx.trans (hod.below hbx.size hTx.newD)
        have hsee : isFirst (ev (l.take i ++ [⟨t2, k2, o2, v2⟩])) (l.take i).length = isFirst (ev l) i := by
          rw [← HE2.out, take_next (by omega), List.length_take, Nat.min_eq_left (by omega), isFirst_take (by omega)]
        rw [← HE2.out, take_next (by omega)] at hTy
        rw [hsee]
        clear hsee HE2 d0 d1 d2 d3 hdd hFd' hod hTx hbx
        go_wp2_with fail
        refine (hD.racy _ _ _ _ hTy.d (by simp; omega)).mono ?_
        rintro e w6 ⟨v, rfl, hv, hb6⟩
        rw [List.length_take, Nat.min_eq_left (by omega), varsTo_take] at hv
        obtain ⟨ar, cr, rfl⟩ : ∃ ar cr, v = .slice ar (varsTo (ev l) (isFirst (ev l)) (i + 1)).length cr := by obtain ⟨ar, cr, e, _⟩ := hv; exact ⟨ar, cr, e⟩
        have hk6 : Below w.heap.size w w6 := hby.trans (hb6.mono hby.size)
        go_wp2_with fail
        refine (rRacy6_as (m := i + 1) (by omega) hn (hs.below hk6) hb (hTy.want.below hb6) (by omega)).mono ?_
        rintro e w7 ⟨v', rfl, hv', hb7⟩
        obtain ⟨ar', cr', rfl⟩ : ∃ ar cr, v' = .slice ar (varsTo (ev l) (isFirst (ev l)) (i + 1)).length cr := by obtain ⟨ar, cr, e, _⟩ := hv'; exact ⟨ar, cr, e⟩
        have hlen := varsTo_length (ev l) (isFirst (ev l)) (i + 1)
        generalize varsTo (ev l) (isFirst (ev l)) (i + 1) = vs at *
        have s6 := (hv.slV (by omega)).below hb7
        have s7 := hv'.slV (by omega)
        have hop7 := hv.opened.below hb7
        have hb67 : Below wy.heap.size wy w7 := hb6.trans (hb7.mono hb6.size)
        clear hv hv' hb6 hb7 hk6
        go_wp2_with fail
        refine (ints6_same s6 s7).mono ?_
        rintro e w8 ⟨rfl, hb8⟩
        have hb68 : Below wy.heap.size wy w8 := hb67.trans (hb8.mono hb67.size)
        have hop8 := hop7.below hb8
        obtain ⟨bw, ow, e', _, q0⟩ := (hTy.want.below hb68) i (by omega)
        cases e'
        rw [Nat.zero_add] at q0
        clear s6 s7 hop7 hb67 hb8
        generalize hxg : isFirst (ev l) i = x at *
        have hx : (x != x) = false := by cases x <;> rfl
        go_wp2_with fail
        have hb6q := hb68
        have hopq := hop8
        clear hb68 hop8 q0
        go_loopw [14] (fun kv wr => ∃ k : Nat, k ≤ vs.length ∧ kv = .int .i64 k ∧ IntOpen wy.heap.size wr ar vs.length ∧ Below wy.heap.size wy wr) (fun kv _ => vs.length - (intOf kv).toNat)
        case atStart => exact ⟨0, Nat.zero_le _, rfl, hopq, hb6q⟩
        case round =>
          clear hopq hb6q
          obtain ⟨k, hk, rfl, ho, hbel⟩ := hrel
          by_cases h7 : k < vs.length
          · obtain ⟨bi, oi, rfl, hBi, hcs, hfz, _⟩ := ho k h7
            obtain ⟨x0, hx0⟩ := Option.isSome_iff_exists.1 hcs
            have ho2 := ho.setCell ⟨bi, oi + k, none⟩ (.int .i64 (-77))
            have hb2 := hbel.setCell (p := ⟨bi, oi + k, none⟩) hBi (.int .i64 (-77))
            have hkr : (k : Int) < (vs.length : Int) := by omega
            clear ho hbel hcs
            go_wp2
            go_roundw
            case rel => exact ⟨k + 1, by omega, by go_num, ho2, hb2⟩
            case measure => simp [intOf]; omega
          · have hTz := o_hide (hTy.below hD hbel)
            have hbz := o_hide (hby.trans (hbel.mono hby.size))
            clear ho hbel
            go_wp2_with fail
            go_roundw
            case rel => exact ⟨i + 1, _, _, by omega, by go_num, hTz.out, hbz.out⟩
            case measure => simp [intOf]; omega
    · obtain rfl : i = n := by omega
      go_wp2_with fail
      refine (hD.racy _ _ _ _ hT.d (by simp; omega)).mono ?_
      rintro e w6 ⟨v, rfl, hv, hb6⟩
      rw [List.length_take, Nat.min_eq_left (by omega), varsTo_take] at hv
      obtain ⟨ar, cr, rfl⟩ : ∃ ar cr, v = .slice ar (varsTo (ev l) (isFirst (ev l)) i).length cr := by obtain ⟨ar, cr, e, _⟩ := hv; exact ⟨ar, cr, e⟩
      have hk6 : Below w.heap.size w w6 := hbr.trans (hb6.mono hbr.size)
      go_wp2_with fail
      refine (rRacy6_as (m := i) rfl hn (hs.below hk6) hb (hT.want.below hb6) (by omega)).mono ?_
      rintro e w7 ⟨v', rfl, hv', hb7⟩
      obtain ⟨ar', cr', rfl⟩ : ∃ ar cr, v' = .slice ar (varsTo (ev l) (isFirst (ev l)) i).length cr := by obtain ⟨ar, cr, e, _⟩ := hv'; exact ⟨ar, cr, e⟩
      have hlen := varsTo_length (ev l) (isFirst (ev l)) i
      generalize varsTo (ev l) (isFirst (ev l)) i = vs at *
      have s6 := (hv.slV (by omega)).below hb7
      have s7 := hv'.slV (by omega)
      have hk7 : Below w.heap.size w w7 := hk6.trans (hb7.mono hk6.size)
      clear hv hv' hb6 hb7 hk6 hT
      go_wp2_with fail
      refine (ints6_same s6 s7).mono ?_
      rintro e w8 ⟨rfl, hb8⟩
      have hk8 : Below w.heap.size w w8 := hk7.trans (hb8.mono hk7.size)
      clear s6 s7 hb8 hk7
      go_wp2_with fail
      refine (alive6_true hF'.out _).mono ?_
      rintro e w9 ⟨rfl, hb9⟩
      go_wp2_with fail
      go_ret
      exact ⟨rfl, hk8.trans (hb9.mono hk8.size)⟩
end Go.Proofs.Ytomhdopbbnmcnab
namespace Go.Proofs.Ytomhdopbbnmcnab
open Go.ChangeShapes Go.WideShapes Go.ChangeAt Go.RowKit Go.Proofs.Ord
set_option linter.unusedVariables false

theorem bulk_second {H : Type} {d d' : DataW H} {l : List (DataW H)} (hk : Rows.uptoSmall H (d :: d' :: l) = true) : Rows.uptoBulk d' ≤ 1048576 := by
  have h : Rows.uptoBulkAll (d :: d' :: l) ≤ 1048576 := of_decide_eq_true hk
  simp only [Rows.uptoBulkAll] at h
  omega

set_option maxRecDepth 100000 in
theorem fastSees_contract (hF : FastSaid) (H : Type) (enc : TypeId × Value → H) (W : World) (base : Nat) (args : Array Value) (ds gs : List (DataW H)) (before : List MemPlace)
    (hval : ∀ (j : Nat) t v, Try.f8.params[j]? = some t → args[j]? = some v → Value.okWide Try.prog W .any base t v)
    (hW : DataW.Whole enc Try.prog Try.f8.params.toList Rows.fastSeesSpec.vars false W args.toList ds gs before) (hk : Rows.uptoSmall H (ds ++ gs) = true) :
    Calls Try.prog 8 args W fun e W' => ∃ v, e = .returned v ∧ Rows.fastSeesSpec.post enc Try.prog Try.f8 false true false false W args v W' := by
  have hW' := hW
  obtain ⟨p, q, hA0, hV, rfl, hfz, hnd⟩ := hW
  have hA : DataW.TrodAll enc Try.prog W 0 (fun _ => true) true Try.f8.params.toList args.toList ds p := hA0
  rw [Try.params8] at hA hval
  obtain ⟨v0, vs0, d0, ds0, p0, q0, hargs, rfl, rfl, h0, r0⟩ := trodAll_cons hA
  obtain ⟨v1, vs1, d1, ds1, p1, q1, rfl, rfl, rfl, h1, r1⟩ := trodAll_cons r0
  obtain ⟨rfl, rfl, rfl⟩ := trodAll_nil r1
  obtain rfl : args = #[v0, v1] := by cases args; simp_all
  obtain ⟨rfl, rfl⟩ := trodVars_none hV
  obtain ⟨a0, len0, cap0, rfl⟩ := okWide_slice Try.underlying31 (hval 0 31 v0 rfl rfl)
  obtain ⟨a1, len1, cap1, rfl⟩ := okWide_slice Try.underlying31 (hval 1 31 v1 rfl rfl)
  have k0 := h0
  have k1 := h1
  have lt0 : ∀ x ∈ p0, x.block < W.heap.size := by obtain ⟨m, hm⟩ := k0; exact DataW.trod_lt m _ _ _ hm
  have lt1 : ∀ x ∈ p1, x.block < W.heap.size := by obtain ⟨m, hm⟩ := k1; exact DataW.trod_lt m _ _ _ hm
  obtain ⟨fuel, hf⟩ := h0
  obtain ⟨l, hl, hs, hlc, hcm, _, hd, hr⟩ := open_events_f (by simpa [Value.cells] using hf)
  obtain ⟨fuel1, hf1⟩ := h1
  obtain ⟨l', hl', hs', hlc', hcm', _, hd', hr'⟩ := open_events_f (by simpa [Value.cells] using hf1)
  have hb : len0 ≤ 1048576 := by
    have h := bulk_head hk
    rcases hd with ⟨_, e⟩ | ⟨sp, hd⟩
    · omega
    · simp only at hd
      rw [hd] at h
      have := bulk_slice (l.map fun e => DataW.agg (H := H) [.lit (.int .i64 e.thread), .lit (.int .i64 e.kind), .lit (.int .i64 e.obj), .lit (.int .i64 e.value)]) sp
      rw [List.length_map, hl] at this
      omega
  have hb' : len1 ≤ 1048576 := by
    have h := bulk_second hk
    rcases hd' with ⟨_, e⟩ | ⟨sp, hd'⟩
    · omega
    · simp only at hd'
      rw [hd'] at h
      have := bulk_slice (l'.map fun e => DataW.agg (H := H) [.lit (.int .i64 e.thread), .lit (.int .i64 e.kind), .lit (.int .i64 e.obj), .lit (.int .i64 e.value)]) sp
      rw [List.length_map, hl'] at this
      omega
  clear hA0
  refine (fastSees_walk hF a0 len0 cap0 l a1 len1 cap1 l' W hl hs hb hl' hs' hb' hr hr').mono fun e W' ⟨he, bel⟩ => ?_
  subst he
  exact ⟨_, rfl, _, _, _, [], _, [], hW', trodAll_mk1 (shut_bool Try.underlying4 _), (trodAll_cons_mk (Below.trod Try.laidOut (by kernel_rfl) (of_decide_eq_true (by kernel_rfl)) k0 bel lt0) (trodAll_cons_mk (Below.trod Try.laidOut (by kernel_rfl) (of_decide_eq_true (by kernel_rfl)) k1 bel lt1) trodAll_mk0)), rfl, bel.frame _, fun h => by cases h⟩

set_option maxRecDepth 100000 in
theorem fastSees_lifted (hF : FastSaid) (os : Os) (started : os.Started) (H : Type) (enc : TypeId × Value → H) (G : Stop.Interp) :
    ReturnsInHanded {} Try.checked os 8 .any ((Rows.OpenSpec.upto Rows.fastSeesSpec).pre6 enc Try.prog Try.f8 Rows.fastSeesUptoRow.domain false) (((Rows.OpenSpec.upto Rows.fastSeesSpec).at G).post enc Try.prog Try.f8 false true false false) := by
  refine returnsInHanded_of_cond (C := Try.checked) (s := Rows.OpenSpec.upto Rows.fastSeesSpec) (k := Rows.uptoSmall) rfl Try.own started (by kernel_rfl) Try.func8
    (OpenSpec.witness (enc := enc) (C := Try.checked) (s := Rows.OpenSpec.upto Rows.fastSeesSpec) (k := Rows.uptoSmall) rfl false ⟨#[], #[.slice none 0 0, .slice none 0 0], []⟩ 8 (by kernel_rfl) (by kernel_rfl) (by kernel_rfl)
      (x := ([.nil, .nil], [], [])) (by kernel_rfl) rfl (by kernel_rfl)) ?_
  intro W base args ds gs before hval hW _ hk _
  exact fastSees_contract hF H enc W base args ds gs before hval hW hk

theorem fastSees_holds (hF : FastSaid) : Rows.FastSeesUptoSaid :=
  OpenClaim.holds_of_cond 8 Try.f8 rfl rfl rfl rfl rfl rfl rfl ⟨rfl, rfl, rfl, rfl, rfl⟩ rfl rfl rfl rfl rfl (by kernel_rfl) Try.func8 (by kernel_rfl)
    (of_decide_eq_true (by kernel_rfl)) (by unfold Func.isWrapper; first | (rw [if_pos (by decide +kernel)]; kernel_rfl) | (rw [if_neg (by decide +kernel)]; exact ⟨rfl, rfl⟩))
    (fun os started H enc _ G => fastSees_lifted hF os started H enc G)
end Go.Proofs.Ytomhdopbbnmcnab
