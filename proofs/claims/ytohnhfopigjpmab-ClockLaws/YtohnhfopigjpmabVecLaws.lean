import Derived.Test.YtohnhfopigjpmabVecSaid
import Derived.Deep.DeepCutAuto
namespace Go.Proofs.Ytohnhfopigjpmab
open Go.RowKit

set_option maxRecDepth 100000 in
set_option maxHeartbeats 4000000 in
theorem clockLaws_walk (hA : AtSaid) (hL : LeqSaid) (hS : SameSaid) (hM : MaxSaid) (hT : TickSaid) (a0 : Option Addr) (n0 c0 : Nat) (xs : List Int) (a1 : Option Addr) (n1 c1 : Nat) (ys : List Int) (a2 : Option Addr) (n2 c2 : Nat) (zs : List Int) (t : Int) (w : World)
    (h0 : SlV w a0 n0 c0 xs) (h1 : SlV w a1 n1 c1 ys) (h2 : SlV w a2 n2 c2 zs) (hwf : ∀ n ∈ xs, -9223372036854775808 ≤ n ∧ n ≤ 9223372036854775807) :
    Calls Try.prog 4 #[.slice a0 n0 c0, .slice a1 n1 c1, .slice a2 n2 c2, .int .i64 t] w fun e w' => e = .returned (.bool true) ∧ Below w.heap.size w w' := by
  have l0 := h0.2.2.2.2.2
  have l1 := h1.2.2.2.2.2
  have l2 := h2.2.2.2.2.2
  have z0 := h0.1
  have z1 := h1.1
  have z2 := h2.1
  have hW : Below w.heap.size w w := Below.refl _ _
  have r1 := Vec.leq_refl xs
  have r2 := Vec.leq_max_left xs ys
  have r3 := Vec.leq_max_right xs ys
  have r4 := Vec.same_max_comm xs ys
  have r5 := Vec.same_max_assoc xs ys zs
  have r6 := Vec.same_max_self xs
  have r7 := Vec.same_max_leq xs ys
  have hcase : ∃ ab ba bc ac : Bool, Vec.leq xs ys = ab ∧ Vec.leq ys xs = ba ∧ Vec.leq ys zs = bc ∧ Vec.leq xs zs = ac ∧ Vec.same xs ys = (ab && ba) ∧ (ab = true → bc = true → ac = true) ∧ (ac = true → bc = true → Vec.leq (Vec.maxV xs ys) zs = true) :=
    ⟨_, _, _, _, rfl, rfl, rfl, rfl, rfl, Vec.leq_trans, Vec.max_leq⟩
  obtain ⟨ab, ba, bc, ac, q1, q2, q3, q4, q5, q6, q7⟩ := hcase
  go_enter Try.func4, Try.ntmps4
  go_wp2_with (first | (go_at_call 13; refine (hL _ _ _ _ _ _ _ _ _ (by assumption) (by assumption)).mono ?_; rintro e w' ⟨rfl, hb⟩; replace h0 := h0.below hb; replace h1 := h1.below hb; replace h2 := h2.below hb; replace hW := hW.trans (hb.mono hW.size); clear hb) | (go_at_call 15; refine (hS _ _ _ _ _ _ _ _ _ (by assumption) (by assumption)).mono ?_; rintro e w' ⟨rfl, hb⟩; replace h0 := h0.below hb; replace h1 := h1.below hb; replace h2 := h2.below hb; replace hW := hW.trans (hb.mono hW.size); clear hb))
  refine (hM _ _ _ _ _ _ _ _ _ h0 h1).mono ?_
  rintro e w' ⟨v, rfl, hnew, hb⟩
  obtain ⟨am, cm, rfl, hm⟩ := hnew.parts (by have := Vec.maxV_len xs ys; omega)
  replace h0 := h0.below hb
  replace h1 := h1.below hb
  replace h2 := h2.below hb
  replace hW := hW.trans (hb.mono hW.size)
  clear hb hnew
  go_upto_region 5 with fail
  go_cut [54] (fun s wx => s = .bool false ∧ SlV wx a0 n0 c0 xs ∧ SlV wx a1 n1 c1 ys ∧ SlV wx a2 n2 c2 zs ∧ SlV wx am (Vec.maxV xs ys).length cm (Vec.maxV xs ys) ∧ Below w.heap.size w wx)
  case first =>
    cases ab <;> cases ba <;> cases bc <;> (try have q8 := q6 rfl rfl) <;> (try subst q8)
    all_goals
      go_wp2_with (first | (go_at_call 13; refine (hL _ _ _ _ _ _ _ _ _ (by assumption) (by assumption)).mono ?_; rintro e w' ⟨rfl, hb⟩; replace h0 := h0.below hb; replace h1 := h1.below hb; replace h2 := h2.below hb; replace hm := hm.below hb; replace hW := hW.trans (hb.mono hW.size); clear hb) | (go_at_call 15; refine (hS _ _ _ _ _ _ _ _ _ (by assumption) (by assumption)).mono ?_; rintro e w' ⟨rfl, hb⟩; replace h0 := h0.below hb; replace h1 := h1.below hb; replace h2 := h2.below hb; replace hm := hm.below hb; replace hW := hW.trans (hb.mono hW.size); clear hb))
      go_meet
      exact ⟨rfl, h0, h1, h2, hm, hW⟩
  clear h0 h1 h2 hm hW
  obtain ⟨rfl, h0, h1, h2, hm, hW⟩ := hcut
  go_upto_region 7 with fail
  go_cut [78] (fun s wx => s = .bool false ∧ SlV wx a0 n0 c0 xs ∧ SlV wx a1 n1 c1 ys ∧ SlV wx a2 n2 c2 zs ∧ SlV wx am (Vec.maxV xs ys).length cm (Vec.maxV xs ys) ∧ Below w.heap.size w wx)
  case first =>
    cases ac <;> cases bc <;> (try have q8 := q7 rfl rfl)
    all_goals
      go_wp2_with (first | (go_at_call 13; refine (hL _ _ _ _ _ _ _ _ _ (by assumption) (by assumption)).mono ?_; rintro e w' ⟨rfl, hb⟩; replace h0 := h0.below hb; replace h1 := h1.below hb; replace h2 := h2.below hb; replace hm := hm.below hb; replace hW := hW.trans (hb.mono hW.size); clear hb) | (go_at_call 15; refine (hS _ _ _ _ _ _ _ _ _ (by assumption) (by assumption)).mono ?_; rintro e w' ⟨rfl, hb⟩; replace h0 := h0.below hb; replace h1 := h1.below hb; replace h2 := h2.below hb; replace hm := hm.below hb; replace hW := hW.trans (hb.mono hW.size); clear hb))
      go_meet
      exact ⟨rfl, h0, h1, h2, hm, hW⟩
  clear h0 h1 h2 hm hW
  obtain ⟨rfl, h0, h1, h2, hm, hW⟩ := hcut
  go_wp2_with fail
  refine (hM _ _ _ _ _ _ _ _ _ h1 h0).mono ?_
  rintro e w' ⟨v, rfl, hnew, hb⟩
  obtain ⟨an, cn, rfl, hn⟩ := hnew.parts (by have := Vec.maxV_len ys xs; omega)
  replace h0 := h0.below hb
  replace h1 := h1.below hb
  replace h2 := h2.below hb
  replace hm := hm.below hb
  replace hW := hW.trans (hb.mono hW.size)
  clear hb hnew
  go_wp2_with fail
  refine (hM _ _ _ _ _ _ _ _ _ h0 h1).mono ?_
  rintro e w' ⟨v, rfl, hnew, hb⟩
  obtain ⟨au, cu, rfl, hu⟩ := hnew.parts (by have := Vec.maxV_len xs ys; omega)
  replace h0 := h0.below hb
  replace h1 := h1.below hb
  replace h2 := h2.below hb
  replace hm := hm.below hb
  replace hn := hn.below hb
  replace hW := hW.trans (hb.mono hW.size)
  clear hb hnew
  go_wp2_with fail
  refine (hM _ _ _ _ _ _ _ _ _ hu h2).mono ?_
  rintro e w' ⟨v, rfl, hnew, hb⟩
  obtain ⟨ao, co, rfl, ho⟩ := hnew.parts (by have := Vec.maxV_len xs ys; have := Vec.maxV_len (Vec.maxV xs ys) zs; omega)
  replace h0 := h0.below hb
  replace h1 := h1.below hb
  replace h2 := h2.below hb
  replace hm := hm.below hb
  replace hn := hn.below hb
  replace hu := hu.below hb
  replace hW := hW.trans (hb.mono hW.size)
  clear hb hnew hu
  go_wp2_with fail
  refine (hM _ _ _ _ _ _ _ _ _ h1 h2).mono ?_
  rintro e w' ⟨v, rfl, hnew, hb⟩
  obtain ⟨au, cu, rfl, hu⟩ := hnew.parts (by have := Vec.maxV_len ys zs; omega)
  replace h0 := h0.below hb
  replace h1 := h1.below hb
  replace h2 := h2.below hb
  replace hm := hm.below hb
  replace hn := hn.below hb
  replace ho := ho.below hb
  replace hW := hW.trans (hb.mono hW.size)
  clear hb hnew
  go_wp2_with fail
  refine (hM _ _ _ _ _ _ _ _ _ h0 hu).mono ?_
  rintro e w' ⟨v, rfl, hnew, hb⟩
  obtain ⟨ap, cp, rfl, hp⟩ := hnew.parts (by have := Vec.maxV_len ys zs; have := Vec.maxV_len xs (Vec.maxV ys zs); omega)
  replace h0 := h0.below hb
  replace h1 := h1.below hb
  replace h2 := h2.below hb
  replace hm := hm.below hb
  replace hn := hn.below hb
  replace ho := ho.below hb
  replace hu := hu.below hb
  replace hW := hW.trans (hb.mono hW.size)
  clear hb hnew hu
  go_upto_region 12 with fail
  go_cut [116] (fun s wx => s = .bool false ∧ SlV wx a0 n0 c0 xs ∧ Below w.heap.size w wx)
  case first =>
    cases ab
    all_goals
      go_wp2_with (first | (go_at_call 13; refine (hL _ _ _ _ _ _ _ _ _ (by assumption) (by assumption)).mono ?_; rintro e w' ⟨rfl, hb⟩; replace h0 := h0.below hb; replace h1 := h1.below hb; replace h2 := h2.below hb; replace hm := hm.below hb; replace hn := hn.below hb; replace ho := ho.below hb; replace hp := hp.below hb; replace hW := hW.trans (hb.mono hW.size); clear hb) | (go_at_call 15; refine (hS _ _ _ _ _ _ _ _ _ (by assumption) (by assumption)).mono ?_; rintro e w' ⟨rfl, hb⟩; replace h0 := h0.below hb; replace h1 := h1.below hb; replace h2 := h2.below hb; replace hm := hm.below hb; replace hn := hn.below hb; replace ho := ho.below hb; replace hp := hp.below hb; replace hW := hW.trans (hb.mono hW.size); clear hb))
      refine (hM _ _ _ _ _ _ _ _ _ h0 h0).mono ?_
      rintro e w' ⟨v, rfl, hnew, hb⟩
      obtain ⟨au, cu, rfl, hu⟩ := hnew.parts (by have := Vec.maxV_len xs xs; omega)
      replace h0 := h0.below hb
      replace h1 := h1.below hb
      replace h2 := h2.below hb
      replace hm := hm.below hb
      replace hn := hn.below hb
      replace ho := ho.below hb
      replace hp := hp.below hb
      replace hW := hW.trans (hb.mono hW.size)
      clear hb hnew
      go_wp2_with (first | (go_at_call 13; refine (hL _ _ _ _ _ _ _ _ _ (by assumption) (by assumption)).mono ?_; rintro e w' ⟨rfl, hb⟩; replace h0 := h0.below hb; replace h1 := h1.below hb; replace h2 := h2.below hb; replace hm := hm.below hb; replace hn := hn.below hb; replace ho := ho.below hb; replace hp := hp.below hb; replace hu := hu.below hb; replace hW := hW.trans (hb.mono hW.size); clear hb) | (go_at_call 15; refine (hS _ _ _ _ _ _ _ _ _ (by assumption) (by assumption)).mono ?_; rintro e w' ⟨rfl, hb⟩; replace h0 := h0.below hb; replace h1 := h1.below hb; replace h2 := h2.below hb; replace hm := hm.below hb; replace hn := hn.below hb; replace ho := ho.below hb; replace hp := hp.below hb; replace hu := hu.below hb; replace hW := hW.trans (hb.mono hW.size); clear hb))
      go_meet
      exact ⟨rfl, h0, hW⟩
  clear h0 h1 h2 hm hn ho hp hW
  obtain ⟨rfl, h0, hW⟩ := hcut
  clear r1 r2 r3 r4 r5 r6 r7 q1 q2 q3 q4 q5 q6 q7
  by_cases ht0 : t < 0
  · go_wp2_with fail
    refine (alive4_true hA hL hM hT _).mono ?_
    rintro e w5 ⟨rfl, hb5⟩
    go_wp2_with fail
    go_ret
    exact ⟨rfl, hW.trans (hb5.mono hW.size)⟩
  · by_cases ht1 : 1000 < t
    · go_wp2_with fail
      refine (alive4_true hA hL hM hT _).mono ?_
      rintro e w5 ⟨rfl, hb5⟩
      go_wp2_with fail
      go_ret
      exact ⟨rfl, hW.trans (hb5.mono hW.size)⟩
    · obtain ⟨x, hx⟩ : ∃ x, Hid (Vec.at_ xs t = x) := ⟨_, rfl⟩
      have hxb : -9223372036854775808 ≤ x ∧ x ≤ 9223372036854775807 := by
        rw [← hx.out]
        rcases Vec.at_mem xs t with h | h
        · rw [h]; omega
        · exact hwf _ h
      by_cases hxm : x = 9223372036854775807
      · have hxe : (x == 9223372036854775807) = true := by simpa using hxm
        clear hxm hxb
        go_wp2_with fail
        refine (rAt_any _ _ _ _ _ _ h0.1 h0.2.2.2.2.1).mono ?_
        rintro e w5 ⟨rfl, rfl⟩
        rw [hx.out]
        go_wp2_with fail
        refine (alive4_true hA hL hM hT _).mono ?_
        rintro e w6 ⟨rfl, hb5⟩
        go_wp2_with fail
        go_ret
        exact ⟨rfl, hW.trans (hb5.mono hW.size)⟩
      · have hxe : (x == 9223372036854775807) = false := by simpa using hxm
        obtain ⟨hx1, hx2⟩ := hxb
        have hx3 : x ≤ 9223372036854775806 := by omega
        have hwr : Hid (wrap64 (Vec.at_ xs t + 1) = Vec.at_ xs t + 1) := by
          unfold Hid; rw [hx.out]; exact IntWalk.wrap64_in _ (by omega)
        have s1 := Vec.leq_tick wrap64 xs t (by omega) hwr.out
        have s2 := Vec.tick_not_leq wrap64 xs t (by omega) (by omega) hwr.out
        have s3 : Hid (Vec.at_ (Vec.tickV wrap64 xs t) t = x + 1) := by
          unfold Hid; rw [Vec.at_tick wrap64 xs t (by omega) (by omega), hwr.out, hx.out]
        have hlen := Vec.tickV_len wrap64 xs t
        clear hxm hwr
        go_wp2_with fail
        refine (rAt_any _ _ _ _ _ _ h0.1 h0.2.2.2.2.1).mono ?_
        rintro e w5 ⟨rfl, rfl⟩
        rw [hx.out]
        go_wp2_with fail
        refine (hT _ _ _ _ _ _ h0).mono ?_
        rintro e w6 ⟨v, rfl, hnew, hb⟩
        obtain ⟨ak, ck, rfl, hk⟩ := hnew.parts (by omega)
        replace h0 := h0.below hb
        replace hW := hW.trans (hb.mono hW.size)
        clear hb hnew
        go_wp2_with (first | (go_at_call 13; refine (hL _ _ _ _ _ _ _ _ _ (by assumption) (by assumption)).mono ?_; rintro e w' ⟨rfl, hb⟩; replace h0 := h0.below hb; replace hk := hk.below hb; replace hW := hW.trans (hb.mono hW.size); clear hb))
        refine (hA _ _ _ _ _ _ hk).mono ?_
        rintro e w7 ⟨rfl, hb⟩
        rw [s3.out]
        replace h0 := h0.below hb
        replace hW := hW.trans (hb.mono hW.size)
        clear hb
        go_wp2_with fail
        refine (hA _ _ _ _ _ _ h0).mono ?_
        rintro e w8 ⟨rfl, hb⟩
        rw [hx.out]
        replace hW := hW.trans (hb.mono hW.size)
        clear hb h0 hk
        have heq : ((x + 1 : Int) == x + 1) = true := by simp
        go_wp2_with fail
        refine (alive4_true hA hL hM hT _).mono ?_
        rintro e w9 ⟨rfl, hb5⟩
        go_wp2_with fail
        go_ret
        exact ⟨rfl, hW.trans (hb5.mono hW.size)⟩
end Go.Proofs.Ytohnhfopigjpmab
