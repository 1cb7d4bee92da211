import Derived.Test.YtiaedjnedoemoabDjSaid
import Derived.Test.YtiaedjnedoemoabOrdBef
import Derived.Test.YtiaedjnedoemoabBulk
import Derived.Test.YtiaedjnedoemoabDjRacyP
import Derived.Test.YtiaedjnedoemoabBefore
namespace Go.Proofs.Ytiaedjnedoemoab
open Go.RowKit Go.Proofs.Ord

set_option maxRecDepth 100000 in
set_option maxHeartbeats 1000000 in
theorem djitRacy_walk (hSt : StampsSaid) (hRa : RacyDSaid) (a : Option Addr) (n cap : Nat) (l : List Ev) (w : World) (hn : l.length = n) (hs : EvS w a l) (hb : n ≤ 1048576) (hthr : Hid (ThR l)) :
    Calls Try.prog 6 #[.slice a n cap] w fun e w' => e = .returned (.bool true) ∧ Below w.heap.size w w' := by
  go_enter Try.func6, Try.ntmps6
  go_wp2_with fail
  refine (given_any _ _ _ _ _ hn hs (by omega)).mono ?_
  rintro e w1 ⟨v, rfl, hown, hb1⟩
  obtain ⟨a1, cap1, rfl, _, hc1, hm1, hs1⟩ := evS_of_owns hown
  clear hown
  have hl1 := hs.below hb1
  go_wp2_with fail
  refine (hRa _ _ _ _ _ hn hs1 hc1 hm1 hb hthr.out).mono ?_
  rintro e w2 ⟨a2, cap2, rfl, hq, hb2⟩
  have hk2 : Below w.heap.size w w2 := hb1.trans (hb2.mono hb1.size)
  have hs2 := hs1.below hb2
  have hl2 := hl1.below hb2
  clear hb1 hb2 hs1 hl1
  go_wp2_with fail
  refine (rRacy5_any _ _ _ _ _ hn hl2 hb).mono ?_
  rintro e w3 ⟨rfl, ht, hb3⟩
  have hk3 : Below w.heap.size w w3 := hk2.trans (hb3.mono hk2.size)
  have hq3 := hq.below hb3
  have hr3 := ht.boolS
  have hs3 := hs2.below hb3
  have hl3 := hl2.below hb3
  clear hk2 hb3 hq ht hs2 hl2
  go_wp2_with fail
  go_loopw [6] (fun iv wr => ∃ i : Nat, i ≤ n ∧ iv = .int .i64 i ∧ Below w3.heap.size w3 wr) (fun iv _ => n - (intOf iv).toNat)
  case atStart => exact ⟨0, Nat.zero_le _, rfl, Below.refl _ _⟩
  case round =>
    obtain ⟨i, hi, rfl, hbr⟩ := hrel
    by_cases h5 : i < n
    · obtain ⟨b, off, rfl, _, c0⟩ := (hq3.below hbr) i h5
      obtain ⟨b', off', e', _, d0⟩ := (hr3.below hbr) i h5
      cases e'
      rw [Nat.zero_add] at d0
      generalize racy (ev l) i = x at c0 d0
      have hx : (x != x) = false := by cases x <;> rfl
      have hin : (i : Int) < (n : Int) := by omega
      go_wp2_with fail
      go_quiet (fail)
      go_wp2_with fail
      go_roundw
      case rel => exact ⟨i + 1, by omega, by go_num, o_drewN hbr _⟩
      case measure => simp [intOf]; omega
    · have hs4 := hs3.below hbr
      have hl4 := hl3.below hbr
      have hk4 : Below w.heap.size w wr := hk3.trans (hbr.mono hk3.size)
      clear hbr
      go_wp2_with fail
      refine (kept_true _ _ _ _ _ _ _ hn hs4 hl4 (by omega)).mono ?_
      rintro e w5 ⟨rfl, hb5⟩
      have hk5 := hk4.trans (hb5.mono hk4.size)
      clear hb5 hk4
      go_wp2_with fail
      refine (alive5_true hSt hRa _).mono ?_
      rintro e w6 ⟨rfl, hb6⟩
      go_wp2_with fail
      go_ret
      exact ⟨rfl, hk5.trans (hb6.mono hk5.size)⟩

end Go.Proofs.Ytiaedjnedoemoab
namespace Go.Proofs.Ytiaedjnedoemoab
open Go.RowKit Go.Proofs.Ord
attribute [local go_sem ↓] Go.wp_at_zero Go.wp_at_succ

theorem nth_le (L : Nat → Ev) (i n : Nat) : nth L i n ≤ n := by
  induction n with
  | zero => simp [nth]
  | succ n ih => rw [nth]; split <;> omega

set_option maxRecDepth 100000 in
set_option maxHeartbeats 1000000 in
theorem nth_any (a : Option Addr) (n cap : Nat) (l : List Ev) (i : Nat) (w : World) (hn : l.length = n) (hs : EvS w a l) (hb : n * 32 ≤ 140737488351232) (hi : i < n) :
    Calls Try.prog 32 #[.slice a n cap, .int .i64 (i : Int)] w fun e w' => e = .returned (.int .i64 (nth (ev l) i (i + 1) : Int)) ∧ Below w.heap.size w w' := by
  go_enter Try.func32, Try.ntmps32
  go_wp2
  go_loopw [5, 6] (fun nv kv wr => ∃ k : Nat, k ≤ i + 1 ∧ kv = .int .i64 k ∧ nv = .int .i64 (nth (ev l) i k : Int) ∧ Below w.heap.size w wr) (fun _ kv _ => i + 1 - (intOf kv).toNat)
  case atStart => exact ⟨0, Nat.zero_le _, rfl, rfl, Below.refl _ _⟩
  case round =>
    obtain ⟨k, hk, rfl, rfl, hbr⟩ := hrel
    by_cases h5 : k ≤ i
    · obtain ⟨b, off, rfl, hlt, _⟩ := hs i (by omega)
      obtain ⟨t1, k1, o1, v1, HE1, c0, _, _, _⟩ := hs.at hbr (i := k) (by omega)
      obtain ⟨t2, k2, o2, v2, HE2, d0, _, _, _⟩ := hs.at hbr (i := i) (by omega)
      have HN : Hid (nth (ev l) i (k + 1) = nth (ev l) i k + if (t1 == t2) then 1 else 0) := by
        unfold Hid; rw [nth, HE1.out, HE2.out]
      have hnb := nth_le (ev l) i k
      generalize nth (ev l) i k = m at *
      have h5a : (k : Int) ≤ (i : Int) := by omega
      have h5b : (k : Int) < (n : Int) := by omega
      have h5c : (i : Int) < (n : Int) := by omega
      clear HE1 HE2
      cases ht : (t1 == t2)
      all_goals
        rw [ht] at HN
        go_wp2_with fail
        go_quiet (fail)
        go_wp2_with fail
        go_roundw
        case rel => exact ⟨k + 1, by omega, by go_num, by rw [HN.out]; simp, o_drewN hbr _⟩
        case measure => simp [intOf]; omega
    · obtain rfl : k = i + 1 := by omega
      have h5a : ¬ ((i : Int) + 1 ≤ (i : Int)) := by omega
      go_wp2_with fail
      go_ret
      exact ⟨rfl, hbr⟩

theorem LeqSaid.as (hL : LeqSaid) {a : Option Addr} {n cap : Nat} {xs : List Int} {a' : Option Addr} {n' cap' : Nat} {ys : List Int} {c : Bool} (hc : Vec.leq xs ys = c) {w : World} (h1 : SlV w a n cap xs) (h2 : SlV w a' n' cap' ys) :
    Calls Try.prog 18 #[.slice a n cap, .slice a' n' cap'] w fun e w' => e = .returned (.bool c) ∧ Below w.heap.size w w' := by
  rw [← hc]; exact hL _ _ _ _ _ _ _ _ _ h1 h2
theorem AtSaid.as (hA : AtSaid) {a : Option Addr} {n cap : Nat} {xs : List Int} {t x : Int} (hx : Vec.at_ xs t = x) {w : World} (h1 : SlV w a n cap xs) :
    Calls Try.prog 16 #[.slice a n cap, .int .i64 t] w fun e w' => e = .returned (.int .i64 x) ∧ Below w.heap.size w w' := by
  rw [← hx]; exact hA _ _ _ _ _ _ h1

/-- What the law needs of two stamps in a world: where they lie. -/
structure TwoRows (w : World) (bs os i j : Nat) (A : Nat → Option Addr) (C : Nat → Nat) (xs ys : List Int) : Prop where
  ci : w.cell? ⟨bs, os + i, none⟩ = some (.slice (A i) xs.length (C i))
  cj : w.cell? ⟨bs, os + j, none⟩ = some (.slice (A j) ys.length (C j))
  si : SlV w (A i) xs.length (C i) xs
  sj : SlV w (A j) ys.length (C j) ys
  lt : bs < w.heap.size

theorem TwoRows.below {w w' : World} {bs os i j : Nat} {A : Nat → Option Addr} {C : Nat → Nat} {xs ys : List Int} (h : TwoRows w bs os i j A C xs ys) (hb : Below w.heap.size w w') : TwoRows w' bs os i j A C xs ys :=
  ⟨(hb.cell (p := ⟨bs, os + i, none⟩) h.lt).trans h.ci, (hb.cell (p := ⟨bs, os + j, none⟩) h.lt).trans h.cj, h.si.below hb, h.sj.below hb, by have := hb.size; have := h.lt; omega⟩

theorem two_rows {B cap : Nat} {w w' : World} {a : Option Addr} {A : Nat → Option Addr} {C : Nat → Nat} {l : List Ev} (h : RowsNew B w a cap A C (stampRows l 64)) (hb : Below w.heap.size w w') (h8 : ∀ i, i < (stampRows l 64).length → ((stampRows l 64).getD i []).length ≤ 64) {i j : Nat} (hi : i < l.length) (hj : j < l.length) :
    ∃ bs os, a = some ⟨bs, os, none⟩ ∧ TwoRows w' bs os i j A C (stamp (ev l) 64 i) (stamp (ev l) 64 j) := by
  obtain ⟨b, off, e1, e2, e3, e4⟩ := h.row hb h8 (i := i) (by rw [stampRows_length]; exact hi)
  obtain ⟨b', off', e1', e2', e3', e4'⟩ := h.row hb h8 (i := j) (by rw [stampRows_length]; exact hj)
  rw [e1] at e1'
  cases e1'
  rw [stampRows_getD l 64 i hi] at e3 e4
  rw [stampRows_getD l 64 j hj] at e3' e4'
  exact ⟨b, off, e1, ⟨e3, e3', e4, e4', e2⟩⟩

set_option maxRecDepth 100000 in
set_option maxHeartbeats 4000000 in
theorem djitTells_walk (hA : AtSaid) (hL : LeqSaid) (hB : BeforeSaid) (hSt : StampsSaid) (hRa : RacyDSaid) (a : Option Addr) (n cap : Nat) (l : List Ev) (w : World) (hn : l.length = n) (hs : EvS w a l) (hb : n * 32 ≤ 140737488351232) (hthr : Hid (ThR l)) :
    Calls Try.prog 7 #[.slice a n cap] w fun e w' => e = .returned (.bool true) ∧ Below w.heap.size w w' := by
  obtain ⟨M, hM1, hM2, hM3⟩ : ∃ M : Nat, M ≤ n ∧ M ≤ 40 ∧ (((n : Int) ≤ 40 ∧ M = n) ∨ ((40 : Int) < n ∧ M = 40)) := ⟨min n 40, by omega, by omega, by omega⟩
  rcases hM3 with ⟨hM3, hM4⟩ | ⟨hM3, hM4⟩
  all_goals
    go_enter Try.func7, Try.ntmps7
    go_wp2_with fail
    refine (given_any _ _ _ _ _ hn hs hb).mono ?_
    rintro e w1 ⟨v, rfl, hown, hb1⟩
    obtain ⟨a1, cap1, rfl, _, hc1, hm1, hs1⟩ := evS_of_owns hown
    clear hown
    go_wp2_with fail
    have hz1 := hb1.size
    go_loopw [5] (fun iv wr => ∃ k : Nat, k ≤ n ∧ iv = .int .i64 k ∧ Below w1.heap.size w1 wr ∧ ∀ m, m < k → 0 ≤ (ev l m).thread ∧ (ev l m).thread < 64) (fun iv _ => n - (intOf iv).toNat)
    case atStart => exact ⟨0, Nat.zero_le _, rfl, Below.refl _ _, fun m hm => absurd hm (by omega)⟩
    case round =>
      obtain ⟨k, hk, rfl, hbr, hall⟩ := hrel
      have HA := o_hide hall
      have hbw : Below w.heap.size w wr := hb1.trans (hbr.mono hz1)
      clear hall
      by_cases h5 : k < n
      · obtain ⟨b, off, rfl, hlt, _⟩ := hs k (by omega)
        obtain ⟨t1, k1, o1, v1, HE1, c0, _, _, _⟩ := hs.at hbw (i := k) (by omega)
        have h5a : (k : Int) < (n : Int) := by omega
        by_cases ht0 : t1 < 0
        · go_wp2_with fail
          refine (alive5_true hSt hRa _).mono ?_
          rintro e w6 ⟨rfl, hb6⟩
          go_wp2_with fail
          go_ret
          exact ⟨rfl, hbw.trans (hb6.mono hbw.size)⟩
        · by_cases ht1 : 64 ≤ t1
          · go_wp2_with fail
            refine (alive5_true hSt hRa _).mono ?_
            rintro e w6 ⟨rfl, hb6⟩
            go_wp2_with fail
            go_ret
            exact ⟨rfl, hbw.trans (hb6.mono hbw.size)⟩
          · have HA2 : Hid (∀ m, m < k + 1 → 0 ≤ (ev l m).thread ∧ (ev l m).thread < 64) := by
              intro m hm
              by_cases e : m < k
              · exact HA.out m e
              · obtain rfl : m = k := by omega
                rw [HE1.out]
                exact ⟨by show (0 : Int) ≤ t1; omega, by show t1 < 64; omega⟩
            clear HE1 hbw
            go_wp2_with fail
            go_roundw
            case rel => exact ⟨k + 1, by omega, by go_num, hbr, HA2.out⟩
            case measure => simp [intOf]; omega
      · have HB : Hid (∀ m, m < n → 0 ≤ (ev l m).thread ∧ (ev l m).thread < 64) := fun m hm => HA.out m (by omega)
        have hs2 := hs1.below hbr
        clear HA hbr
        go_wp2_with fail
        refine (hSt _ _ _ _ 64 _ hn hs2 hc1 hm1 hb (by omega) hthr.out).mono ?_
        rintro e w2 ⟨ast, cst, A, C, rfl, hrows, hb2⟩
        have hk2 : Below w.heap.size w w2 := hbw.trans (hb2.mono hbw.size)
        have hs3 := hs2.below hb2
        have h64 : Hid (∀ i, i < (stampRows l 64).length → ((stampRows l 64).getD i []).length ≤ 64) := by
          intro i hi
          rw [stampRows_length] at hi
          rw [stampRows_getD l 64 i hi]
          exact stamp_length (ev l) 64 i
        have hz2 := hk2.size
        clear hb2 hs2 hbw
        go_wp2_with fail
        go_loopw [7, 8, 9, 10, 11] (fun iv _ _ _ _ wr => ∃ i : Nat, i ≤ M ∧ iv = .int .i64 i ∧ Below w2.heap.size w2 wr) (fun iv _ _ _ _ _ => M - (intOf iv).toNat)
        case atStart => exact ⟨0, Nat.zero_le _, rfl, Below.refl _ _⟩
        case round =>
          obtain ⟨i, hi, rfl, hbi⟩ := hrel
          by_cases h6 : i < M
          · have h6a : (i : Int) < n := by omega
            have h6b : (i : Int) < 40 := by omega
            go_wp2_with fail
            refine (nth_any _ _ _ _ _ _ hn (hs3.below hbi) hb (by omega)).mono ?_
            rintro e w3 ⟨rfl, hb3⟩
            have hbj0 : Below w2.heap.size w2 w3 := hbi.trans (hb3.mono hbi.size)
            clear hb3 hbi
            obtain ⟨kn, hkn⟩ : ∃ kn : Int, Hid ((nth (ev l) i (i + 1) : Int) = kn) := ⟨_, rfl⟩
            rw [hkn.out]
            go_wp2_with fail
            go_loopw [9, 10, 11] (fun jv _ _ wr => ∃ j : Nat, j ≤ M ∧ jv = .int .i64 j ∧ Below w2.heap.size w2 wr) (fun jv _ _ _ => M - (intOf jv).toNat)
            case atStart => exact ⟨0, Nat.zero_le _, rfl, hbj0⟩
            case round =>
              clear hbj0
              obtain ⟨j, hj, rfl, hbj⟩ := hrel
              by_cases h7 : j < M
              · have h7a : (j : Int) < n := by omega
                have h7b : (j : Int) < 40 := by omega
                cases hbf : bef (ev l) i j with
                | true =>
                  have hij : (i : Int) < (j : Int) := by have := bef_lt hbf; omega
                  have hd1 : decide (i < j) = true := decide_eq_true (by omega)
                  have HL := o_hide (stamp_leq (th := 64) hbf)
                  obtain ⟨x, hx⟩ : ∃ x, Hid (Vec.at_ (stamp (ev l) 64 j) (ev l i).thread = x) := ⟨_, rfl⟩
                  have hle : kn ≤ x := by
                    have h := tells (L := ev l) (i := i) (j := j) (th := 64) (by omega) (HB.out i (by omega)).1 (HB.out i (by omega)).2
                    rw [hbf, hx.out, hkn.out] at h
                    exact of_decide_eq_true h.symm
                  have HC := o_hide hbf
                  clear hbf
                  go_wp2_with fail
                  refine (hB.as HC.out _ hn (hs3.below hbj) hc1 hm1 hb (by omega) (by omega)).mono ?_
                  rintro e w4 ⟨rfl, hb4⟩
                  have hB4 : Below w2.heap.size w2 w4 := hbj.trans (hb4.mono hbj.size)
                  clear hb4 hbj
                  obtain ⟨bs, os, rfl, hT4⟩ := two_rows hrows hB4 h64.out (i := i) (j := j) (by omega) (by omega)
                  obtain ⟨b, off, rfl, hlt, _⟩ := hs3 i (by omega)
                  obtain ⟨t1, k1, o1, v1, HE1, c0, _, _, _⟩ := hs3.at hB4 (i := i) (by omega)
                  have hblt : b < w4.heap.size := by have := hB4.size; omega
                  have HX : Hid (Vec.at_ (stamp (ev l) 64 j) t1 = x) := by
                    unfold Hid; rw [← hx.out, HE1.out]
                  have cj4 := hT4.cj
                  have blt4 := hT4.lt
                  clear hx
                  go_wp2_with fail
                  go_region_held3 (fun w' => w'.cell? ⟨bs, os + j, none⟩ = some (.slice (A j) (stamp (ev l) 64 j).length (C j)) ∧ w'.cell? ⟨b, off + i * 4, none⟩ = some (.int .i64 t1)) (first | exact ⟨hT5.cj, c5⟩ | go_keep) ((go_at_call 16; refine (AtSaid.as hA HX.out ?_).mono ?_; exact hT4.sj.below (Below.refl _ _).drew; rintro e w5 ⟨rfl, hb5⟩; have hB5 := hB4.drew.trans (hb5.mono hB4.size); have hT5 := (hT4.below (Below.refl _ _).drew).below hb5; have c5 := (hb5.cell (p := ⟨b, off + i * 4, none⟩) hblt).trans c0; clear hb5))
                  have ci5 := hT5.ci
                  have cj5 := hT5.cj
                  clear cj4 hT4 hB4 c0 c5 HX blt4
                  go_wp2_with fail
                  go_region_held3 (fun w' => w'.cell? ⟨bs, os + i, none⟩ = some (.slice (A i) (stamp (ev l) 64 i).length (C i)) ∧ w'.cell? ⟨bs, os + j, none⟩ = some (.slice (A j) (stamp (ev l) 64 j).length (C j))) (first | exact ⟨hT6.ci, hT6.cj⟩ | go_keep) ((go_at_call 18; refine (LeqSaid.as hL HL.out ?_ ?_).mono ?_; (first | exact hT6.si | exact hT5.si.below (Below.refl _ _).drew); (first | exact hT6.sj | exact hT5.sj.below (Below.refl _ _).drew); rintro e w6 ⟨rfl, hb6⟩; (first | (have hB6 := hB6.trans (hb6.mono hB6.size)) | (have hB6 := hB5.drew.trans (hb6.mono hB5.size))); (first | (have hT6 := hT6.below hb6) | (have hT6 := (hT5.below (Below.refl _ _).drew).below hb6)); clear hb6))
                  clear hT5 hT6 ci5 cj5 hB5
                  go_wp2_with fail
                  go_roundw
                  case rel => exact ⟨j + 1, by omega, by go_num, hB6⟩
                  case measure => simp [intOf]; omega
                | false =>
                  by_cases hij : (i : Int) < (j : Int)
                  · have hd1 : decide (i < j) = true := decide_eq_true (by omega)
                    have HL := o_hide (stamp_not_leq (th := 64) (by omega : i < j) (HB.out i (by omega)).1 (HB.out i (by omega)).2 hbf)
                    obtain ⟨x, hx⟩ : ∃ x, Hid (Vec.at_ (stamp (ev l) 64 j) (ev l i).thread = x) := ⟨_, rfl⟩
                    have hle : ¬ kn ≤ x := by
                      have h := tells (L := ev l) (i := i) (j := j) (th := 64) (by omega) (HB.out i (by omega)).1 (HB.out i (by omega)).2
                      rw [hbf, hx.out, hkn.out] at h
                      exact of_decide_eq_false h.symm
                    have hle2 : decide (kn ≤ x) = false := decide_eq_false hle
                    have HC := o_hide hbf
                    clear hbf
                    go_wp2_with fail
                    refine (hB.as HC.out _ hn (hs3.below hbj) hc1 hm1 hb (by omega) (by omega)).mono ?_
                    rintro e w4 ⟨rfl, hb4⟩
                    have hB4 : Below w2.heap.size w2 w4 := hbj.trans (hb4.mono hbj.size)
                    clear hb4 hbj
                    obtain ⟨bs, os, rfl, hT4⟩ := two_rows hrows hB4 h64.out (i := i) (j := j) (by omega) (by omega)
                    obtain ⟨b, off, rfl, hlt, _⟩ := hs3 i (by omega)
                    obtain ⟨t1, k1, o1, v1, HE1, c0, _, _, _⟩ := hs3.at hB4 (i := i) (by omega)
                    have hblt : b < w4.heap.size := by have := hB4.size; omega
                    have HX : Hid (Vec.at_ (stamp (ev l) 64 j) t1 = x) := by
                      unfold Hid; rw [← hx.out, HE1.out]
                    have cj4 := hT4.cj
                    have blt4 := hT4.lt
                    clear hx
                    go_wp2_with fail
                    go_region_held3 (fun w' => w'.cell? ⟨bs, os + j, none⟩ = some (.slice (A j) (stamp (ev l) 64 j).length (C j)) ∧ w'.cell? ⟨b, off + i * 4, none⟩ = some (.int .i64 t1)) (first | exact ⟨hT5.cj, c5⟩ | go_keep) ((go_at_call 16; refine (AtSaid.as hA HX.out ?_).mono ?_; exact hT4.sj.below (Below.refl _ _).drew; rintro e w5 ⟨rfl, hb5⟩; have hB5 := hB4.drew.trans (hb5.mono hB4.size); have hT5 := (hT4.below (Below.refl _ _).drew).below hb5; have c5 := (hb5.cell (p := ⟨b, off + i * 4, none⟩) hblt).trans c0; clear hb5))
                    have ci5 := hT5.ci
                    have cj5 := hT5.cj
                    clear cj4 hT4 hB4 c0 c5 HX blt4
                    go_wp2_with fail
                    refine wp_region_held_drew (S := (fun w' => w'.cell? ⟨bs, os + i, none⟩ = some (.slice (A i) (stamp (ev l) 64 i).length (C i)) ∧ w'.cell? ⟨bs, os + j, none⟩ = some (.slice (A j) (stamp (ev l) 64 j).length (C j)))) (by kernel_rfl) ?_ (fun hHeld => ?_)
                    · go_keep
                    refine wpAnyH_take (i := 0) (oi := { dst := some 79, op := Op.move (Operand.tmp 10), type := 4, pos := "law.go:120", after := #[], guard := none }) (v := ?_) rfl (by kernel_rfl) (by kernel_rfl) (by kernel_rfl) (fun _ _ _ h => h) (Or.inl ⟨by rfl, ?_⟩) hHeld ?_
                    rotate_left
                    · intro w9 hSw; (try dsimp only at hSw); go_simp; try with_reducible rfl
                    try simp only [Act.put, List.setIfInBounds_toArray, List.set_cons_zero, List.set_cons_succ]
                    refine wpAnyH_take (i := 1) (oi := { dst := some 80, op := Op.move (Operand.tmp 11), type := 4, pos := "law.go:120", after := #[], guard := none }) (v := ?_) rfl (by kernel_rfl) (by kernel_rfl) (by kernel_rfl) (fun _ _ _ h => h) (Or.inl ⟨by rfl, ?_⟩) hHeld ?_
                    rotate_left
                    · intro w9 hSw; (try dsimp only at hSw); go_simp; try with_reducible rfl
                    try simp only [Act.put, List.setIfInBounds_toArray, List.set_cons_zero, List.set_cons_succ]
                    refine wpAnyH_take (i := 2) (oi := { dst := some 81, op := Op.binOp BinOp.neq 4 (Operand.tmp 79) (Operand.tmp 80) 4, type := 4, pos := "law.go:120", after := #[{ on := 0, ground := Ground.data }, { on := 1, ground := Ground.data }], guard := none }) (v := ?_) rfl (by kernel_rfl) (by kernel_rfl) (by kernel_rfl) (fun _ _ _ h => h) (Or.inl ⟨by rfl, ?_⟩) hHeld ?_
                    rotate_left
                    · intro w9 hSw; (try dsimp only at hSw); go_simp; try with_reducible rfl
                    try simp only [Act.put, List.setIfInBounds_toArray, List.set_cons_zero, List.set_cons_succ]
                    refine wpAnyH_take (i := 3) (oi := { dst := some 82, op := Op.move (Operand.tmp 81), type := 4, pos := "law.go:120", after := #[{ on := 2, ground := Ground.data }], guard := none }) (v := ?_) rfl (by kernel_rfl) (by kernel_rfl) (by kernel_rfl) (fun _ _ _ h => h) (Or.inl ⟨by rfl, ?_⟩) hHeld ?_
                    rotate_left
                    · intro w9 hSw; (try dsimp only at hSw); go_simp; try with_reducible rfl
                    try simp only [Act.put, List.setIfInBounds_toArray, List.set_cons_zero, List.set_cons_succ]
                    refine wpAnyH_take (i := 4) (oi := { dst := some 83, op := Op.move (Operand.tmp 10), type := 4, pos := "law.go:120", after := #[{ on := 3, ground := Ground.guard }], guard := some (3, false) }) (v := ?_) rfl (by kernel_rfl) (by kernel_rfl) (by kernel_rfl) (fun _ _ _ h => h) (Or.inl ⟨by rfl, ?_⟩) hHeld ?_
                    rotate_left
                    · intro w9 hSw; (try dsimp only at hSw); go_simp; try with_reducible rfl
                    try simp only [Act.put, List.setIfInBounds_toArray, List.set_cons_zero, List.set_cons_succ]
                    refine wpAnyH_take (i := 5) (oi := { dst := some 84, op := Op.move (Operand.tmp 83), type := 4, pos := "law.go:120", after := #[{ on := 4, ground := Ground.data }, { on := 3, ground := Ground.chain }, { on := 3, ground := Ground.guard }], guard := some (3, false) }) (v := ?_) rfl (by kernel_rfl) (by kernel_rfl) (by kernel_rfl) (fun _ _ _ h => h) (Or.inl ⟨by rfl, ?_⟩) hHeld ?_
                    rotate_left
                    · intro w9 hSw; (try dsimp only at hSw); go_simp; try with_reducible rfl
                    try simp only [Act.put, List.setIfInBounds_toArray, List.set_cons_zero, List.set_cons_succ]
                    refine wpAnyH_take (i := 6) (oi := { dst := some 85, op := Op.move (Operand.tmp 6), type := 34, pos := "law.go:120", after := #[{ on := 5, ground := Ground.guard }], guard := some (5, true) }) (v := undef) rfl (by kernel_rfl) (by kernel_rfl) (by kernel_rfl) (fun _ _ _ h => h) (Or.inr ⟨by rfl, rfl⟩) hHeld ?_
                    try simp only [Act.put, List.setIfInBounds_toArray, List.set_cons_zero, List.set_cons_succ]
                    refine wpAnyH_take (i := 7) (oi := { dst := some 86, op := Op.move (Operand.tmp 7), type := 3, pos := "law.go:120", after := #[{ on := 5, ground := Ground.guard }], guard := some (5, true) }) (v := undef) rfl (by kernel_rfl) (by kernel_rfl) (by kernel_rfl) (fun _ _ _ h => h) (Or.inr ⟨by rfl, rfl⟩) hHeld ?_
                    try simp only [Act.put, List.setIfInBounds_toArray, List.set_cons_zero, List.set_cons_succ]
                    refine wpAnyH_take (i := 8) (oi := { dst := some 87, op := Op.indexAddr 34 (Operand.tmp 85) (Operand.tmp 86), type := 0, pos := "law.go:120", after := #[{ on := 6, ground := Ground.data }, { on := 7, ground := Ground.data }, { on := 5, ground := Ground.guard }], guard := some (5, true) }) (v := undef) rfl (by kernel_rfl) (by kernel_rfl) (by kernel_rfl) (fun _ _ _ h => h) (Or.inr ⟨by rfl, rfl⟩) hHeld ?_
                    try simp only [Act.put, List.setIfInBounds_toArray, List.set_cons_zero, List.set_cons_succ]
                    refine wpAnyH_take (i := 9) (oi := { dst := some 88, op := Op.load 22 (Operand.tmp 87), type := 22, pos := "law.go:120", after := #[{ on := 8, ground := Ground.data }, { on := 5, ground := Ground.guard }], guard := some (5, true) }) (v := undef) rfl (by kernel_rfl) (by kernel_rfl) (by kernel_rfl) (fun _ _ _ h => h) (Or.inr ⟨by rfl, rfl⟩) hHeld ?_
                    try simp only [Act.put, List.setIfInBounds_toArray, List.set_cons_zero, List.set_cons_succ]
                    refine wpAnyH_take (i := 10) (oi := { dst := some 89, op := Op.move (Operand.tmp 6), type := 34, pos := "law.go:120", after := #[{ on := 5, ground := Ground.guard }], guard := some (5, true) }) (v := undef) rfl (by kernel_rfl) (by kernel_rfl) (by kernel_rfl) (fun _ _ _ h => h) (Or.inr ⟨by rfl, rfl⟩) hHeld ?_
                    try simp only [Act.put, List.setIfInBounds_toArray, List.set_cons_zero, List.set_cons_succ]
                    refine wpAnyH_take (i := 11) (oi := { dst := some 90, op := Op.move (Operand.tmp 9), type := 3, pos := "law.go:120", after := #[{ on := 5, ground := Ground.guard }], guard := some (5, true) }) (v := undef) rfl (by kernel_rfl) (by kernel_rfl) (by kernel_rfl) (fun _ _ _ h => h) (Or.inr ⟨by rfl, rfl⟩) hHeld ?_
                    try simp only [Act.put, List.setIfInBounds_toArray, List.set_cons_zero, List.set_cons_succ]
                    refine wpAnyH_take (i := 12) (oi := { dst := some 91, op := Op.indexAddr 34 (Operand.tmp 89) (Operand.tmp 90), type := 0, pos := "law.go:120", after := #[{ on := 10, ground := Ground.data }, { on := 11, ground := Ground.data }, { on := 5, ground := Ground.guard }], guard := some (5, true) }) (v := undef) rfl (by kernel_rfl) (by kernel_rfl) (by kernel_rfl) (fun _ _ _ h => h) (Or.inr ⟨by rfl, rfl⟩) hHeld ?_
                    try simp only [Act.put, List.setIfInBounds_toArray, List.set_cons_zero, List.set_cons_succ]
                    refine wpAnyH_take (i := 13) (oi := { dst := some 92, op := Op.load 22 (Operand.tmp 91), type := 22, pos := "law.go:120", after := #[{ on := 12, ground := Ground.data }, { on := 5, ground := Ground.guard }], guard := some (5, true) }) (v := undef) rfl (by kernel_rfl) (by kernel_rfl) (by kernel_rfl) (fun _ _ _ h => h) (Or.inr ⟨by rfl, rfl⟩) hHeld ?_
                    try simp only [Act.put, List.setIfInBounds_toArray, List.set_cons_zero, List.set_cons_succ]
                    refine wpAnyH_take (i := 14) (oi := { dst := some 93, op := Op.call { callee := Callee.value (Operand.func 18), args := #[Operand.tmp 88, Operand.tmp 92], argTypes := #[22, 22] }, type := 4, pos := "law.go:120", after := #[{ on := 9, ground := Ground.data }, { on := 13, ground := Ground.data }, { on := 5, ground := Ground.chain }, { on := 5, ground := Ground.guard }], guard := some (5, true) }) (v := undef) rfl (by kernel_rfl) (by kernel_rfl) (by kernel_rfl) (fun _ _ _ h => h) (Or.inr ⟨by rfl, rfl⟩) hHeld ?_
                    try simp only [Act.put, List.setIfInBounds_toArray, List.set_cons_zero, List.set_cons_succ]
                    refine wpAnyH_take (i := 15) (oi := { dst := some 94, op := Op.unOp UnOp.not 4 (Operand.tmp 93), type := 4, pos := "law.go:120", after := #[{ on := 14, ground := Ground.data }, { on := 5, ground := Ground.guard }], guard := some (5, true) }) (v := undef) rfl (by kernel_rfl) (by kernel_rfl) (by kernel_rfl) (fun _ _ _ h => h) (Or.inr ⟨by rfl, rfl⟩) hHeld ?_
                    try simp only [Act.put, List.setIfInBounds_toArray, List.set_cons_zero, List.set_cons_succ]
                    refine wpAnyH_take (i := 16) (oi := { dst := some 95, op := Op.pick (Operand.tmp 84) (Operand.tmp 94) (Operand.const (Value.bool false)), type := 4, pos := "law.go:120", after := #[{ on := 5, ground := Ground.data }, { on := 15, ground := Ground.data }, { on := 3, ground := Ground.guard }], guard := some (3, false) }) (v := ?_) rfl (by kernel_rfl) (by kernel_rfl) (by kernel_rfl) (fun _ _ _ h => h) (Or.inl ⟨by rfl, ?_⟩) hHeld ?_
                    rotate_left
                    · intro w9 hSw; (try dsimp only at hSw); go_simp; try with_reducible rfl
                    try simp only [Act.put, List.setIfInBounds_toArray, List.set_cons_zero, List.set_cons_succ]
                    refine wpAnyH_take (i := 17) (oi := { dst := some 96, op := Op.pick (Operand.tmp 82) (Operand.const (Value.bool true)) (Operand.tmp 95), type := 4, pos := "law.go:120", after := #[{ on := 3, ground := Ground.data }, { on := 16, ground := Ground.data }], guard := none }) (v := ?_) rfl (by kernel_rfl) (by kernel_rfl) (by kernel_rfl) (fun _ _ _ h => h) (Or.inl ⟨by rfl, ?_⟩) hHeld ?_
                    rotate_left
                    · intro w9 hSw; (try dsimp only at hSw); go_simp; try with_reducible rfl
                    try simp only [Act.put, List.setIfInBounds_toArray, List.set_cons_zero, List.set_cons_succ]
                    refine wpAnyH_take (i := 18) (oi := { dst := some 97, op := Op.move (Operand.tmp 96), type := 4, pos := "law.go:120", after := #[{ on := 17, ground := Ground.data }, { on := 14, ground := Ground.chain }], guard := none }) (v := ?_) rfl (by kernel_rfl) (by kernel_rfl) (by kernel_rfl) (fun _ _ _ h => h) (Or.inl ⟨by rfl, ?_⟩) hHeld ?_
                    rotate_left
                    · intro w9 hSw; (try dsimp only at hSw); go_simp; try with_reducible rfl
                    try simp only [Act.put, List.setIfInBounds_toArray, List.set_cons_zero, List.set_cons_succ]
                    refine wpAnyH_take (i := 19) (oi := { dst := some 98, op := Op.move (Operand.tmp 9), type := 3, pos := "law.go:120", after := #[{ on := 18, ground := Ground.guard }], guard := some (18, false) }) (v := ?_) rfl (by kernel_rfl) (by kernel_rfl) (by kernel_rfl) (fun _ _ _ h => h) (Or.inl ⟨by rfl, ?_⟩) hHeld ?_
                    rotate_left
                    · intro w9 hSw; (try dsimp only at hSw); go_simp; try with_reducible rfl
                    try simp only [Act.put, List.setIfInBounds_toArray, List.set_cons_zero, List.set_cons_succ]
                    refine wpAnyH_take (i := 20) (oi := { dst := some 99, op := Op.move (Operand.tmp 7), type := 3, pos := "law.go:120", after := #[{ on := 18, ground := Ground.guard }], guard := some (18, false) }) (v := ?_) rfl (by kernel_rfl) (by kernel_rfl) (by kernel_rfl) (fun _ _ _ h => h) (Or.inl ⟨by rfl, ?_⟩) hHeld ?_
                    rotate_left
                    · intro w9 hSw; (try dsimp only at hSw); go_simp; try with_reducible rfl
                    try simp only [Act.put, List.setIfInBounds_toArray, List.set_cons_zero, List.set_cons_succ]
                    refine wpAnyH_take (i := 21) (oi := { dst := some 100, op := Op.binOp BinOp.gtr 3 (Operand.tmp 98) (Operand.tmp 99) 3, type := 4, pos := "law.go:120", after := #[{ on := 19, ground := Ground.data }, { on := 20, ground := Ground.data }, { on := 18, ground := Ground.guard }], guard := some (18, false) }) (v := ?_) rfl (by kernel_rfl) (by kernel_rfl) (by kernel_rfl) (fun _ _ _ h => h) (Or.inl ⟨by rfl, ?_⟩) hHeld ?_
                    rotate_left
                    · intro w9 hSw; (try dsimp only at hSw); go_simp; try with_reducible rfl
                    try simp only [Act.put, List.setIfInBounds_toArray, List.set_cons_zero, List.set_cons_succ]
                    refine wpAnyH_take (i := 22) (oi := { dst := some 101, op := Op.move (Operand.tmp 100), type := 4, pos := "law.go:120", after := #[{ on := 21, ground := Ground.data }, { on := 18, ground := Ground.chain }, { on := 18, ground := Ground.guard }], guard := some (18, false) }) (v := ?_) rfl (by kernel_rfl) (by kernel_rfl) (by kernel_rfl) (fun _ _ _ h => h) (Or.inl ⟨by rfl, ?_⟩) hHeld ?_
                    rotate_left
                    · intro w9 hSw; (try dsimp only at hSw); go_simp; try with_reducible rfl
                    try simp only [Act.put, List.setIfInBounds_toArray, List.set_cons_zero, List.set_cons_succ]
                    refine wpAnyH_take (i := 23) (oi := { dst := some 102, op := Op.move (Operand.tmp 6), type := 34, pos := "law.go:120", after := #[{ on := 22, ground := Ground.guard }], guard := some (22, true) }) (v := ?_) rfl (by kernel_rfl) (by kernel_rfl) (by kernel_rfl) (fun _ _ _ h => h) (Or.inl ⟨by rfl, ?_⟩) hHeld ?_
                    rotate_left
                    · intro w9 hSw; (try dsimp only at hSw); go_simp; try with_reducible rfl
                    try simp only [Act.put, List.setIfInBounds_toArray, List.set_cons_zero, List.set_cons_succ]
                    refine wpAnyH_take (i := 24) (oi := { dst := some 103, op := Op.move (Operand.tmp 7), type := 3, pos := "law.go:120", after := #[{ on := 22, ground := Ground.guard }], guard := some (22, true) }) (v := ?_) rfl (by kernel_rfl) (by kernel_rfl) (by kernel_rfl) (fun _ _ _ h => h) (Or.inl ⟨by rfl, ?_⟩) hHeld ?_
                    rotate_left
                    · intro w9 hSw; (try dsimp only at hSw); go_simp; try with_reducible rfl
                    try simp only [Act.put, List.setIfInBounds_toArray, List.set_cons_zero, List.set_cons_succ]
                    refine wpAnyH_take (i := 25) (oi := { dst := some 104, op := Op.indexAddr 34 (Operand.tmp 102) (Operand.tmp 103), type := 0, pos := "law.go:120", after := #[{ on := 23, ground := Ground.data }, { on := 24, ground := Ground.data }, { on := 22, ground := Ground.guard }], guard := some (22, true) }) (v := ?_) rfl (by kernel_rfl) (by kernel_rfl) (by kernel_rfl) (fun _ _ _ h => h) (Or.inl ⟨by rfl, ?_⟩) hHeld ?_
                    rotate_left
                    · intro w9 hSw; (try dsimp only at hSw); go_simp; try with_reducible rfl
                    try simp only [Act.put, List.setIfInBounds_toArray, List.set_cons_zero, List.set_cons_succ]
                    refine wpAnyH_take (i := 26) (oi := { dst := some 105, op := Op.load 22 (Operand.tmp 104), type := 22, pos := "law.go:120", after := #[{ on := 25, ground := Ground.data }, { on := 22, ground := Ground.guard }], guard := some (22, true) }) (v := ?_) rfl (by kernel_rfl) (by kernel_rfl) (by kernel_rfl) (fun _ _ _ h => h) (Or.inl ⟨by rfl, ?_⟩) hHeld ?_
                    rotate_left
                    · intro w9 hSw; (try dsimp only at hSw); go_simp; try with_reducible rfl
                    try simp only [Act.put, List.setIfInBounds_toArray, List.set_cons_zero, List.set_cons_succ]
                    refine wpAnyH_take (i := 27) (oi := { dst := some 106, op := Op.move (Operand.tmp 6), type := 34, pos := "law.go:120", after := #[{ on := 22, ground := Ground.guard }], guard := some (22, true) }) (v := ?_) rfl (by kernel_rfl) (by kernel_rfl) (by kernel_rfl) (fun _ _ _ h => h) (Or.inl ⟨by rfl, ?_⟩) hHeld ?_
                    rotate_left
                    · intro w9 hSw; (try dsimp only at hSw); go_simp; try with_reducible rfl
                    try simp only [Act.put, List.setIfInBounds_toArray, List.set_cons_zero, List.set_cons_succ]
                    refine wpAnyH_take (i := 28) (oi := { dst := some 107, op := Op.move (Operand.tmp 9), type := 3, pos := "law.go:120", after := #[{ on := 22, ground := Ground.guard }], guard := some (22, true) }) (v := ?_) rfl (by kernel_rfl) (by kernel_rfl) (by kernel_rfl) (fun _ _ _ h => h) (Or.inl ⟨by rfl, ?_⟩) hHeld ?_
                    rotate_left
                    · intro w9 hSw; (try dsimp only at hSw); go_simp; try with_reducible rfl
                    try simp only [Act.put, List.setIfInBounds_toArray, List.set_cons_zero, List.set_cons_succ]
                    refine wpAnyH_take (i := 29) (oi := { dst := some 108, op := Op.indexAddr 34 (Operand.tmp 106) (Operand.tmp 107), type := 0, pos := "law.go:120", after := #[{ on := 27, ground := Ground.data }, { on := 28, ground := Ground.data }, { on := 22, ground := Ground.guard }], guard := some (22, true) }) (v := ?_) rfl (by kernel_rfl) (by kernel_rfl) (by kernel_rfl) (fun _ _ _ h => h) (Or.inl ⟨by rfl, ?_⟩) hHeld ?_
                    rotate_left
                    · intro w9 hSw; (try dsimp only at hSw); go_simp; try with_reducible rfl
                    try simp only [Act.put, List.setIfInBounds_toArray, List.set_cons_zero, List.set_cons_succ]
                    refine wpAnyH_take (i := 30) (oi := { dst := some 109, op := Op.load 22 (Operand.tmp 108), type := 22, pos := "law.go:120", after := #[{ on := 29, ground := Ground.data }, { on := 22, ground := Ground.guard }], guard := some (22, true) }) (v := ?_) rfl (by kernel_rfl) (by kernel_rfl) (by kernel_rfl) (fun _ _ _ h => h) (Or.inl ⟨by rfl, ?_⟩) hHeld ?_
                    rotate_left
                    · intro w9 hSw; (try dsimp only at hSw); go_simp; try with_reducible rfl
                    try simp only [Act.put, List.setIfInBounds_toArray, List.set_cons_zero, List.set_cons_succ]
                    refine wpAnyH_take (i := 32) (oi := { dst := some 111, op := Op.move (Operand.tmp 10), type := 4, pos := "law.go:120", after := #[{ on := 22, ground := Ground.guard }], guard := some (22, true) }) (v := ?_) rfl (by kernel_rfl) (by kernel_rfl) (by kernel_rfl) (fun _ _ _ h => h) (Or.inl ⟨by rfl, ?_⟩) hHeld ?_
                    rotate_left
                    · intro w9 hSw; (try dsimp only at hSw); go_simp; try with_reducible rfl
                    try simp only [Act.put, List.setIfInBounds_toArray, List.set_cons_zero, List.set_cons_succ]
                    refine wpAnyH_ready (rs := [31]) (by kernel_rfl) (by simp) ?_
                    refine AllReadyH.cons (o := { dst := some 110, op := Op.call { callee := Callee.value (Operand.func 18), args := #[Operand.tmp 105, Operand.tmp 109], argTypes := #[22, 22] }, type := 4, pos := "law.go:120", after := #[{ on := 26, ground := Ground.data }, { on := 30, ground := Ground.data }, { on := 22, ground := Ground.chain }, { on := 22, ground := Ground.guard }], guard := some (22, true) }) rfl (fun K hK => ?_) AllReadyH.nil
                    go_simp
                    go_at_call 18
                    refine (LeqSaid.as hL HL.out (hT5.si.below (Below.refl _ _).drew) (hT5.sj.below (Below.refl _ _).drew)).mono ?_
                    rintro e w6 ⟨rfl, hb6⟩
                    have hB6 := hB5.drew.trans (hb6.mono hB5.size)
                    have hT6 := (hT5.below (Below.refl _ _).drew).below hb6
                    clear hb6
                    go_wp2_with fail
                    refine hK.out _ _ ⟨hT6.ci, hT6.cj⟩ (fun hHeld => ?_)
                    clear hK K
                    try simp only [Act.put, List.setIfInBounds_toArray, List.set_cons_zero, List.set_cons_succ]
                    refine wpAnyH_take (i := 33) (oi := { dst := some 112, op := Op.binOp BinOp.neq 4 (Operand.tmp 110) (Operand.tmp 111) 4, type := 4, pos := "law.go:120", after := #[{ on := 31, ground := Ground.data }, { on := 32, ground := Ground.data }, { on := 22, ground := Ground.guard }], guard := some (22, true) }) (v := ?_) rfl (by kernel_rfl) (by kernel_rfl) (by kernel_rfl) (fun _ _ _ h => h) (Or.inl ⟨by rfl, ?_⟩) hHeld ?_
                    rotate_left
                    · intro w9 hSw; (try dsimp only at hSw); go_simp; try with_reducible rfl
                    try simp only [Act.put, List.setIfInBounds_toArray, List.set_cons_zero, List.set_cons_succ]
                    refine wpAnyH_take (i := 34) (oi := { dst := some 113, op := Op.pick (Operand.tmp 101) (Operand.tmp 112) (Operand.const (Value.bool false)), type := 4, pos := "law.go:120", after := #[{ on := 22, ground := Ground.data }, { on := 33, ground := Ground.data }, { on := 18, ground := Ground.guard }], guard := some (18, false) }) (v := ?_) rfl (by kernel_rfl) (by kernel_rfl) (by kernel_rfl) (fun _ _ _ h => h) (Or.inl ⟨by rfl, ?_⟩) hHeld ?_
                    rotate_left
                    · intro w9 hSw; (try dsimp only at hSw); go_simp; try with_reducible rfl
                    try simp only [Act.put, List.setIfInBounds_toArray, List.set_cons_zero, List.set_cons_succ]
                    refine wpAnyH_take (i := 35) (oi := { dst := some 114, op := Op.pick (Operand.tmp 97) (Operand.const (Value.bool true)) (Operand.tmp 113), type := 4, pos := "law.go:120", after := #[{ on := 18, ground := Ground.data }, { on := 34, ground := Ground.data }], guard := none }) (v := ?_) rfl (by kernel_rfl) (by kernel_rfl) (by kernel_rfl) (fun _ _ _ h => h) (Or.inl ⟨by rfl, ?_⟩) hHeld ?_
                    rotate_left
                    · intro w9 hSw; (try dsimp only at hSw); go_simp; try with_reducible rfl
                    try simp only [Act.put, List.setIfInBounds_toArray, List.set_cons_zero, List.set_cons_succ]
                    refine wpAnyH_done (by kernel_rfl) ?_ _
                    all_goals
                      have hB7 := hB6
                      clear hT5 hT6 ci5 cj5 hB5 hB6
                      go_wp2_with fail
                      go_roundw
                      case rel => exact ⟨j + 1, by omega, by go_num, hB7⟩
                      case measure => simp [intOf]; omega
                  · have hd1 : decide (i < j) = false := decide_eq_false (by omega)
                    have hd2 : decide ((i : Int) < (j : Int)) = false := decide_eq_false hij
                    have HC := o_hide hbf
                    clear hbf
                    go_wp2_with fail
                    refine (hB.as HC.out _ hn (hs3.below hbj) hc1 hm1 hb (by omega) (by omega)).mono ?_
                    rintro e w4 ⟨rfl, hb4⟩
                    have hB4 : Below w2.heap.size w2 w4 := hbj.trans (hb4.mono hbj.size)
                    clear hb4 hbj
                    obtain ⟨bs, os, rfl, hT4⟩ := two_rows hrows hB4 h64.out (i := i) (j := j) (by omega) (by omega)
                    obtain ⟨b, off, rfl, hlt, _⟩ := hs3 i (by omega)
                    obtain ⟨t1, k1, o1, v1, HE1, c0, _, _, _⟩ := hs3.at hB4 (i := i) (by omega)
                    have hblt : b < w4.heap.size := by have := hB4.size; omega
                    clear HE1 c0 hT4
                    go_wp2_with fail
                    go_quiet (fail)
                    go_wp2_with fail
                    go_quiet (fail)
                    go_wp2_with fail
                    go_roundw
                    case rel => exact ⟨j + 1, by omega, by go_num, o_drewN hB4 _⟩
                    case measure => simp [intOf]; omega
              · have h7a : ¬ (j : Int) < M := by omega
                go_wp2_with fail
                go_roundw
                case rel => exact ⟨i + 1, by omega, by go_num, hbj⟩
                case measure => simp [intOf]; omega
          · have h6a : ¬ (i : Int) < M := by omega
            have hk5 : Below w.heap.size w wr := hk2.trans (hbi.mono hz2)
            clear hbi
            go_wp2_with fail
            refine (alive5_true hSt hRa _).mono ?_
            rintro e w6 ⟨rfl, hb6⟩
            go_wp2_with fail
            go_ret
            exact ⟨rfl, hk5.trans (hb6.mono hk5.size)⟩
end Go.Proofs.Ytiaedjnedoemoab
namespace Go.Proofs.Ytiaedjnedoemoab
open Go.ChangeShapes Go.WideShapes Go.ChangeAt Go.RowKit Go.Proofs.Ord
set_option linter.unusedVariables false

set_option maxRecDepth 100000 in
theorem djitTells_lifted (hA : AtSaid) (hL : LeqSaid) (hB : BeforeSaid) (hSt : StampsSaid) (hRa : RacyDSaid) (os : Os) (started : os.Started) (H : Type) (enc : TypeId × Value → H) :
    ReturnsInHanded {} Try.checked os 7 .any (Rows.djitTellsSpec.pre6 enc Try.prog Try.f7 Rows.djitTellsRow.domain false) (Rows.djitTellsSpec.post enc Try.prog Try.f7 false true false false) := by
  refine returnsInHanded_of_change_sized (C := Try.checked) Try.own started (by kernel_rfl) Try.func7
    (ChangeSpec.witness6 (enc := enc) (C := Try.checked) false ⟨#[], #[.slice none 0 0], []⟩ 8 (by kernel_rfl) (by kernel_rfl) (by kernel_rfl) (by kernel_rfl)) ?_
  intro W base args ds gs before hval0 hW hcnd hsz0 _
  have hsz : (DataW.weightsEach Try.prog (Try.f7.params.toList ++ Rows.djitTellsSpec.plain.varTypes Try.prog) (ds ++ gs)).all (· ≤ reachBytes) = true := hsz0
  have hval : ∀ (j : Nat) t v, Try.f7.params[j]? = some t → args[j]? = some v → Value.okWide Try.prog W .any base t v := hval0
  have hW' := hW
  obtain ⟨p, q, hA0, hV, rfl, hfz, hnd⟩ := hW
  have hAll : DataW.TrodAll enc Try.prog W 0 (fun _ => true) true Try.f7.params.toList args.toList ds p := hA0
  rw [Try.params7] at hAll hval hsz
  obtain ⟨v0, vs0, d0, ds0, p0, q0, hargs, rfl, rfl, h0, r0⟩ := trodAll_cons hAll
  obtain ⟨rfl, rfl, rfl⟩ := trodAll_nil r0
  obtain rfl : args = #[v0] := by cases args; simp_all
  obtain ⟨rfl, rfl⟩ := trodVars_none hV
  obtain ⟨a0, len0, cap0, rfl⟩ := okWide_slice Try.underlying31 (hval 0 31 v0 rfl rfl)
  have k0 := h0
  have lt0 : ∀ x ∈ p0, x.block < W.heap.size := by obtain ⟨m, hm⟩ := k0; exact DataW.trod_lt m _ _ _ hm
  obtain ⟨fuel, hf⟩ := h0
  obtain ⟨l, hl, hs, hlc, hcm, _, hd, hthr⟩ := open_events_r (by simpa [Value.cells] using hf)
  have hb : len0 * 32 ≤ 140737488351232 := by
    rcases hd with ⟨_, e⟩ | ⟨sp, hd⟩
    · omega
    · have h := sized_slice hsz (j := 0) (t := 31) (e := 45) rfl (by rw [List.append_nil]; exact congrArg some hd) Try.underlying31
      rw [Try.bytesEv] at h
      simp only [List.length_map, reachBytes] at h
      rw [hl] at h
      omega
  clear hA0 hval0
  refine (djitTells_walk hA hL hB hSt hRa a0 len0 cap0 l W hl hs hb hthr).mono fun e W' ⟨he, bel⟩ => ?_
  subst he
  exact ⟨_, rfl, _, _, _, [], _, [], hW', trodAll_mk1 (shut_bool Try.underlying4 _), (trodAll_cons_mk (Below.trod Try.laidOut (by kernel_rfl) (of_decide_eq_true (by kernel_rfl)) k0 bel lt0) trodAll_mk0), rfl, bel.frame _, fun h => by cases h⟩

theorem djitTells_holds (hA : AtSaid) (hL : LeqSaid) (hB : BeforeSaid) (hSt : StampsSaid) (hRa : RacyDSaid) : Rows.DjitTellsSaid :=
  OpenClaim.holds_of_wide 7 Try.f7 rfl rfl rfl rfl rfl rfl rfl ⟨rfl, rfl, rfl, rfl, rfl⟩ rfl rfl rfl rfl rfl (by kernel_rfl) Try.func7 (by kernel_rfl)
    (of_decide_eq_true (by kernel_rfl)) (by unfold Func.isWrapper; first | (rw [if_pos (by decide +kernel)]; kernel_rfl) | (rw [if_neg (by decide +kernel)]; exact ⟨rfl, rfl⟩))
    (fun os started H enc _ => djitTells_lifted hA hL hB hSt hRa os started H enc)

end Go.Proofs.Ytiaedjnedoemoab
namespace Go.Proofs.Ytiaedjnedoemoab

theorem djit_tells : Rows.DjitTellsSaid := djitTells_holds at_said leq_said before_said stamps_said racy_said
end Go.Proofs.Ytiaedjnedoemoab
