import Derived.Test.YtohnhfopigjpmaaDoorOrdSaid
namespace Go.Proofs.YtohnhfopigjpmaaDoor
open Go.RowKit Go.Proofs.Ord

theorem befI_nat (l : List Ev) (p q : Nat) (hp : p < l.length) (hq : q < l.length) : befI l p q = bef (ev l) p q := by
  unfold befI
  rw [decide_eq_true (by omega), Bool.true_and]; rfl

theorem BeforeSaid.as (hB : BeforeSaid) {a : Option Addr} {n cap : Nat} {l : List Ev} {p q : Nat} {c : Bool} (hc : bef (ev l) p q = c) (w : World) (hn : l.length = n) (hs : EvS w a l) (h1 : n ≤ cap) (h2 : cap ≤ maxLen) (h3 : n * 32 ≤ 140737488351232) (hp : p < n) (hq : q < n) :
    Calls Tryd.prog 7 #[.slice a n cap, .int .i64 (p : Int), .int .i64 (q : Int)] w fun e w' => e = .returned (.bool c) ∧ Below w.heap.size w w' := by
  rw [← hc, ← befI_nat l p q (by omega) (by omega)]
  exact hB a n cap l p q w hn hs h1 h2 h3

set_option maxRecDepth 100000 in
set_option maxHeartbeats 2000000 in
theorem orderLaws_walk (hB : BeforeSaid) (hR : RacesSaid) (a : Option Addr) (n cap : Nat) (l : List Ev) (w : World) (hn : l.length = n) (hs : EvS w a l) (hb : n * 32 ≤ 140737488351232) (hTab : Hid (Tab w)) :
    Calls Tryd.prog 4 #[.slice a n cap] w fun e w' => e = .returned (.bool true) ∧ Below w.heap.size w w' := by
  obtain ⟨M, hM1, hM2, hM3⟩ : ∃ M : Nat, M ≤ n ∧ M ≤ 40 ∧ (((n : Int) ≤ 40 ∧ M = n) ∨ ((40 : Int) < n ∧ M = 40)) := ⟨min n 40, by omega, by omega, by omega⟩
  rcases hM3 with ⟨hM3, hM4⟩ | ⟨hM3, hM4⟩
  all_goals
    go_enter Tryd.func4, Tryd.ntmps4
    go_wp2_with fail
    refine (given_any _ _ _ _ _ hn hs hb).mono ?_
    rintro e w1 ⟨v, rfl, hown, hb1⟩
    obtain ⟨a2, cap2, rfl, _, hc2, hm2, hs2⟩ := evS_of_owns hown
    have hs1 := hb1.size
    clear hown
    go_wp2_with fail
    go_loopw [5, 6, 7, 8] (fun i _ _ _ wr => ∃ p : Nat, p ≤ M ∧ i = .int .i64 p ∧ Below w1.heap.size w1 wr) (fun i _ _ _ _ => M - (intOf i).toNat)
    case atStart => exact ⟨0, Nat.zero_le _, rfl, Below.refl _ _⟩
    case round =>
      obtain ⟨p, hp, rfl, hbp⟩ := hrel
      by_cases h5 : p < M
      · have h5a : (p : Int) < n := by omega
        have h5b : (p : Int) < 40 := by omega
        go_wp2_with fail
        go_loopw [6, 7, 8] (fun j _ _ wr => ∃ q : Nat, q ≤ M ∧ j = .int .i64 q ∧ Below w1.heap.size w1 wr) (fun j _ _ _ => M - (intOf j).toNat)
        case atStart => exact ⟨0, Nat.zero_le _, rfl, hbp⟩
        case round =>
          clear hbp
          obtain ⟨q, hq, rfl, hbq⟩ := hrel
          by_cases h6 : q < M
          · have h6a : (q : Int) < n := by omega
            have h6b : (q : Int) < 40 := by omega
            have hsq := hs2.below hbq
            have hszq := hbq.size
            cases hc : bef (ev l) p q with
            | true =>
              have hpq : (p : Int) < (q : Int) := by have := bef_lt hc; omega
              have hqp1 : decide (q ≤ p) = false := decide_eq_false (by omega)
              have hqp2 : decide (p < q) = true := decide_eq_true (by omega)
              have HC := o_hide hc
              clear hc
              go_wp2_with fail
              refine (hB.as HC.out _ hn hsq hc2 hm2 hb (by omega) (by omega)).mono ?_
              rintro e w3 ⟨rfl, hb3⟩
              have hb4 : Below w1.heap.size w1 w3 := hbq.trans (hb3.mono hszq)
              have hbw : Below w.heap.size w w3 := hb1.trans (hb4.mono hs1)
              obtain ⟨b, off, rfl, hlt, _⟩ := hs p (by omega)
              obtain ⟨t1, k1, o1, v1, HE1, c0, _, _, _⟩ := hs.at hbw (i := p) (by omega)
              obtain ⟨t2, k2, o2, v2, HE2, d0, _, _, _⟩ := hs.at hbw (i := q) (by omega)
              clear HE1 HE2 hb3 hbq hsq hbw
              cases htt : (t1 == t2)
              all_goals
                go_wp2_with fail
                go_quiet (fail)
                have hb5 := o_drewN hb4 nq
                clear c0 d0 htt hb4
                go_wp2_with fail
                go_loopw [8] (fun k wr => ∃ r : Nat, q + 1 ≤ r ∧ r ≤ M ∧ k = .int .i64 r ∧ Below w1.heap.size w1 wr) (fun k _ => M - (intOf k).toNat)
                case atStart => exact ⟨q + 1, Nat.le_refl _, h6, by go_num, hb5⟩
                case round =>
                  clear hb5
                  obtain ⟨r, hr1, hr2, rfl, hbr⟩ := hrel
                  by_cases h7 : r < M
                  · have h7a : (r : Int) < n := by omega
                    have h7b : (r : Int) < 40 := by omega
                    have hsr := hs2.below hbr
                    have hszr := hbr.size
                    cases hd : bef (ev l) q r with
                    | true =>
                      have HD := o_hide hd
                      have HD2 := o_hide (bef_trans HC.out r hd)
                      clear hd
                      go_wp2_with fail
                      refine (hB.as HD.out _ hn hsr hc2 hm2 hb (by omega) (by omega)).mono ?_
                      rintro e w6 ⟨rfl, hb6⟩
                      have hsr6 := hsr.below hb6
                      have hb6' : Below w1.heap.size w1 w6 := hbr.trans (hb6.mono hszr)
                      have hsz6 := hb6'.size
                      clear hb6 hsr hbr
                      go_wp2_with fail
                      refine (hB.as HD2.out _ hn hsr6 hc2 hm2 hb (by omega) (by omega)).mono ?_
                      rintro e w7 ⟨rfl, hb7⟩
                      have hb7' : Below w1.heap.size w1 w7 := hb6'.trans (hb7.mono hsz6)
                      clear hb7 hb6' hsr6
                      go_wp2_with fail
                      go_roundw
                      case rel => exact ⟨r + 1, by omega, by omega, by go_num, hb7'⟩
                      case measure => simp [intOf]; omega
                    | false =>
                      have HD := o_hide hd
                      clear hd
                      go_wp2_with fail
                      refine (hB.as HD.out _ hn hsr hc2 hm2 hb (by omega) (by omega)).mono ?_
                      rintro e w6 ⟨rfl, hb6⟩
                      have hb6' : Below w1.heap.size w1 w6 := hbr.trans (hb6.mono hszr)
                      clear hb6 hsr hbr
                      go_wp2_with fail
                      go_roundw
                      case rel => exact ⟨r + 1, by omega, by omega, by go_num, hb6'⟩
                      case measure => simp [intOf]; omega
                  · have h7a : ¬ (r : Int) < M := by omega
                    go_wp2_with fail
                    go_roundw
                    case rel => exact ⟨q + 1, by omega, by go_num, hbr⟩
                    case measure => simp [intOf]; omega
            | false =>
              have HC := o_hide hc
              clear hc
              go_wp2_with fail
              refine (hB.as HC.out _ hn hsq hc2 hm2 hb (by omega) (by omega)).mono ?_
              rintro e w3 ⟨rfl, hb3⟩
              have hb4 : Below w1.heap.size w1 w3 := hbq.trans (hb3.mono hszq)
              have hbw : Below w.heap.size w w3 := hb1.trans (hb4.mono hs1)
              obtain ⟨b, off, rfl, hlt, _⟩ := hs p (by omega)
              obtain ⟨t1, k1, o1, v1, HE1, c0, _, _, _⟩ := hs.at hbw (i := p) (by omega)
              obtain ⟨t2, k2, o2, v2, HE2, d0, _, _, _⟩ := hs.at hbw (i := q) (by omega)
              clear hb3 hbq hsq hbw
              by_cases hpq : (p : Int) < (q : Int)
              · have htt : (t1 == t2) = false := by
                  rw [beq_eq_false_iff_ne]
                  intro e
                  have := bef_thread (l := ev l) (i := p) (j := q) (by omega) (by rw [HE1.out, HE2.out]; exact e)
                  rw [HC.out] at this; cases this
                have hqp2 : decide (p < q) = true := decide_eq_true (by omega)
                clear HE1 HE2
                go_wp2_with fail
                go_quiet (fail)
                have hb5 := o_drewN hb4 nq
                clear c0 d0 htt hb4
                go_wp2_with fail
                go_loopw [8] (fun k wr => ∃ r : Nat, r ≤ M ∧ k = .int .i64 r ∧ Below w1.heap.size w1 wr) (fun k _ => M - (intOf k).toNat)
                case atStart => exact ⟨q + 1, h6, by go_num, hb5⟩
                case round =>
                  clear hb5
                  obtain ⟨r, hr2, rfl, hbr⟩ := hrel
                  by_cases h7 : (r : Int) < M
                  all_goals
                    go_wp2_with fail
                    go_roundw
                    case rel => exact ⟨q + 1, by omega, by go_num, hbr⟩
                    case measure => simp [intOf]; omega
              · clear HE1 HE2
                have hpd : decide ((p : Int) < (q : Int)) = false := by simpa using hpq
                have hqp2 : decide (p < q) = false := decide_eq_false (by omega)
                go_wp2_with fail
                go_quiet (fail)
                have hb5 := o_drewN hb4 nq
                clear c0 d0 hb4
                go_wp2_with fail
                go_loopw [8] (fun k wr => ∃ r : Nat, r ≤ M ∧ k = .int .i64 r ∧ Below w1.heap.size w1 wr) (fun k _ => M - (intOf k).toNat)
                case atStart => exact ⟨q + 1, h6, by go_num, hb5⟩
                case round =>
                  clear hb5
                  obtain ⟨r, hr2, rfl, hbr⟩ := hrel
                  by_cases h7 : (r : Int) < M
                  all_goals
                    go_wp2_with fail
                    go_roundw
                    case rel => exact ⟨q + 1, by omega, by go_num, hbr⟩
                    case measure => simp [intOf]; omega
          · have h6a : ¬ (q : Int) < M := by omega
            go_wp2_with fail
            go_roundw
            case rel => exact ⟨p + 1, by omega, by go_num, hbq⟩
            case measure => simp [intOf]; omega
      · have h5a : ¬ (p : Int) < M := by omega
        have hfin : Hid (Below w.heap.size w wr) := hb1.trans (hbp.mono hs1)
        go_wp2_with fail
        refine (alive3_true hB hR _ (tab_below hTab.out hfin.out)).mono ?_
        rintro e w2 ⟨rfl, hb2⟩
        go_wp2_with fail
        go_ret
        exact ⟨rfl, hfin.out.trans (hb2.mono (by have := hfin.out.size; omega))⟩
end Go.Proofs.YtohnhfopigjpmaaDoor
