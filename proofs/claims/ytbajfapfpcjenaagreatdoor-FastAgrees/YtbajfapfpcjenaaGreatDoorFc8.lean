import Derived.Test.YtbajfapfpcjenaaGreatDoorFc7
import Derived.Test.YtbajfapfpcjenaaGreatDoorFc2
import Derived.Laws.Externs
namespace Go.Proofs.YtbajfapfpcjenaaGreatDoor
open Go.RowKit

theorem clone_nil (w : World) : Sem.run Tryz.prog (binOp .eql 35 (.slice none 0 0) (.slice none 0 0)) w = .ok (.bool true) w := by kernel_rfl
theorem clone_some (ad : Addr) (n cap : Nat) (w : World) : Sem.run Tryz.prog (binOp .eql 35 (.slice (some ad) n cap) (.slice none 0 0)) w = .ok (.bool false) w := by kernel_rfl

set_option maxRecDepth 100000 in
set_option maxHeartbeats 400000 in
/-- slices.Clone: the same numbers in memory of the call's own. -/
theorem pClone_any (a : Option Addr) (n cap : Nat) (xs : List Int) (w : World) (hs : SlV w a n cap xs) :
    Calls Tryz.prog 85 #[.slice a n cap] w fun e w' => ∃ v, e = .returned v ∧ w'.ownsRow w.heap.size 3 1 v n (xs.map (Value.int .i64)) ∧ Below w.heap.size w w' := by
  obtain ⟨i0, hi, hz0, hz1, hz2⟩ := info_parts Tryz.info3
  obtain ⟨hn, hc, hm, ha, hsl, hb⟩ := hs
  match a, ha, hsl with
  | none, ha, _ =>
    obtain rfl := ha rfl
    obtain rfl : n = 0 := by omega
    obtain rfl : xs = [] := List.eq_nil_of_length_eq_zero hn
    go_enter Tryz.func85, Tryz.ntmps85
    have h := clone_nil w
    go_wp2
    go_ret
    exact ⟨_, rfl, World.ownsRow_nil _ _ _ _, Below.refl _ _⟩
  | some ad, _, hsl =>
    go_enter Tryz.func85, Tryz.ntmps85
    have h := clone_some ad n cap w
    have hsl2 := hsl.below ((Below.refl _ w).alloc (Nat.le_refl _) (.cells #[] 3))
    go_wp2_with (at_builtin; refine wpList_append_own _ rfl _ _ 35 rfl w.heap.size 3 i0 (.int .i64 0) 1 8 Tryz.underlying35 hi hz0 hz1 hz2 rfl (by decide) _ 0 [] rfl (World.ownsRow_made _ _ 0 (Nat.le_refl _) (by unfold maxLen; omega) rfl) ad n cap (xs.map (Value.int .i64)) rfl (by simp [hn]) (append_cells hsl2) (by simp [Value.oneCell']) (by unfold maxLen; omega) (by omega) (by simp) ?_; intro v' w1 hown' hgrow _)
    go_ret
    have h0 : 0 + n = n := by omega
    rw [h0, List.nil_append] at hown'
    exact ⟨v', rfl, hown', ((Below.refl _ w).alloc (Nat.le_refl _) _).grown hgrow (by simp) (fun q e => by cases e; exact Nat.le_refl _)⟩

set_option maxRecDepth 100000 in
set_option maxHeartbeats 400000 in
/-- reaching: so many zeros behind it that it has a number of t. -/
theorem pReach_any (v : Value) (n : Nat) (xs : List Int) (t : Nat) (w : World) (B : Nat) (hB : B ≤ w.heap.size) (hn8 : n * 8 ≤ 140737488351232) (ht : t ≤ 1000) (hown : w.ownsRow B 3 1 v n (xs.map (Value.int .i64))) :
    Calls Tryz.prog 86 #[v, .int .i64 t] w fun e w' => ∃ v', e = .returned v' ∧ w'.ownsRow B 3 1 v' (max n (t + 1)) ((xs ++ List.replicate (max n (t + 1) - n) 0).map (Value.int .i64)) ∧ Below B w w' := by
  obtain ⟨i0, hi, hz0, hz1, hz2⟩ := info_parts Tryz.info3
  obtain ⟨a2, c2, rfl, hl2, h2, h3, h3', h4⟩ := New.of_owns hown
  clear h4
  by_cases hlt : t < n
  · go_enter Tryz.func86, Tryz.ntmps86
    go_wp2
    go_ret
    have e : max n (t + 1) = n := by omega
    rw [e, Nat.sub_self, List.replicate_zero, List.append_nil]
    exact ⟨_, rfl, hown, Below.refl _ _⟩
  · obtain ⟨m, hm⟩ : ∃ m, t + 1 = n + m := ⟨t + 1 - n, by omega⟩
    have hm0 : 0 < m := by omega
    have hnum : ((t : Int) + 1 - (n : Int)) = (m : Int) := by omega
    have e1 : max n (t + 1) = n + m := by omega
    have e2 : n + m - n = m := by omega
    have hbb : (n + m) * 8 ≤ 140737488355328 := by omega
    have hml : n + m ≤ maxLen := by unfold maxLen; omega
    rw [e1, e2, List.map_append, List.map_replicate]
    clear hl2 hm e1 e2 h3'
    go_enter Tryz.func86, Tryz.ntmps86
    go_wp2_with (at_builtin; refine wpList_append_zeros_own _ rfl _ _ 35 3 rfl B 3 i0 (.int .i64 0) 8 Tryz.underlying35 Tryz.underlying3 hi hz0 hz1 hz2 rfl rfl _ n _ rfl hown m rfl hm0 hml hbb hB ?_; intro v' w1 hown' hgrow _)
    go_ret
    exact ⟨v', rfl, hown', (Below.refl _ w).grown hgrow hB (fun q e => (hown.lt q e).1)⟩

theorem getD_set_self {l : List Int} {k : Nat} {x : Int} (h : k < l.length) : (l.set k x).getD k 0 = x := by simp [h]
theorem getD_set_ne {l : List Int} {k j : Nat} {x : Int} (h : k ≠ j) : (l.set k x).getD j 0 = l.getD j 0 := by simp [List.getElem?_set_ne h]

theorem tick_out (f : Int → Int) (xs : List Int) (t : Int) (h : t < 0 ∨ 1000 < t) : Vec.tickV f xs t = Vec.trim xs := by
  unfold Vec.tickV
  have e : Vec.tickLen xs t = xs.length := by unfold Vec.tickLen; split <;> omega
  rw [e]
  congr 1
  refine ext_getD (by rw [Vec.tickUpto_len]) fun j hj => ?_
  rw [Vec.tickUpto_len] at hj
  rw [Vec.tickUpto_getD _ _ _ _ _ hj, if_neg (by omega)]

theorem tick_in (f : Int → Int) (xs : List Int) (k : Nat) (h : k ≤ 1000) :
    Vec.tickV f xs k = Vec.trim ((xs ++ List.replicate (max xs.length (k + 1) - xs.length) 0).set k (f ((xs ++ List.replicate (max xs.length (k + 1) - xs.length) 0).getD k 0 + 1))) := by
  unfold Vec.tickV
  have e : Vec.tickLen xs k = max xs.length (k + 1) := by unfold Vec.tickLen; rw [if_pos (by omega)]; omega
  have hg : ∀ j, (xs ++ List.replicate (max xs.length (k + 1) - xs.length) 0).getD j 0 = xs.getD j 0 := fun j => by
    by_cases hj : j < xs.length
    · simp [List.getElem?_append_left hj]
    · rw [Vec.getD_past xs j (by omega)]
      simp only [List.getD_eq_getElem?_getD, List.getElem?_append_right (by omega : xs.length ≤ j), List.getElem?_replicate]
      split <;> rfl
  rw [e]
  congr 1
  refine ext_getD (by rw [Vec.tickUpto_len]; simp; omega) fun j hj => ?_
  rw [Vec.tickUpto_len] at hj
  rw [Vec.tickUpto_getD _ _ _ _ _ hj, hg]
  by_cases hjk : j = k
  · subst hjk
    rw [if_pos ⟨rfl, by omega⟩, getD_set_self (by simp; omega)]
  · rw [if_neg (by omega), getD_set_ne (fun e => hjk e.symm), hg]

theorem owns_pos {B : Nat} {w : World} {v : Value} {n : Nat} {e : TypeId} {xs : List Value} (h : w.ownsRow B e 1 v n xs) (h0 : 0 < n) : ∃ g c, v = .slice (some ⟨g, 0, none⟩) n c ∧ B ≤ g ∧ n ≤ c ∧ c ≤ 9223372036854775807 := by
  rcases h.2 with ⟨_, h1⟩ | ⟨g, cap, cur, rfl, hb, _, hc, hm, _, _⟩
  · omega
  · exact ⟨g, cap, rfl, hb, hc, hm⟩

/-- What is owned goes through trimmed. -/
theorem trim_owned {w0 w1 : World} {v : Value} {n : Nat} {us : List Int} (hown : w1.ownsRow w0.heap.size 3 1 v n (us.map (Value.int .i64))) (hb : Below w0.heap.size w0 w1) :
    Calls Tryz.prog 87 #[v] w1 fun e w' => ∃ u, e = .returned u ∧ New w0.heap.size w' u (Vec.trim us) ∧ Below w0.heap.size w0 w' := by
  obtain ⟨a2, c2, rfl, hl2, h2, h3, h3', h4⟩ := New.of_owns hown
  refine (pTrim_any a2 n c2 us w1 hl2.symm (sl_of_new hl2 h4) h2 h3).mono ?_
  rintro e w' ⟨⟨u, rfl, hu⟩, rfl⟩
  exact ⟨u, rfl, new_trim hown (hu.imp id fun e => ⟨_, _, rfl, e⟩), hb⟩

set_option maxRecDepth 100000 in
set_option maxHeartbeats 1000000 in
theorem tick_said : TickSaid := by
  intro a n cap xs t w hs
  have hn := Hid.out hs.1
  have hn8 := hs.2.2.2.2.2
  have hC := pClone_any a n cap xs w hs
  clear hs
  by_cases ht : t < 0 ∨ 1000 < t
  · rw [tick_out wrap64 xs t ht]
    have hg : ¬ (0 ≤ t ∧ t ≤ 1000) := by omega
    go_enter Tryz.func72, Tryz.ntmps72
    rcases ht with ht | ht
    all_goals
      go_wp2_with (first | (go_at_call 85; refine hC.mono ?_; clear hC; rintro e w1 ⟨v, rfl, hown, hb1⟩) | (go_at_call 87; refine (trim_owned hown hb1).mono ?_; rintro e w2 ⟨u, rfl, hnew, hb2⟩))
      go_ret
      exact ⟨u, rfl, hnew, hb2⟩
  · obtain ⟨k, rfl⟩ := Int.eq_ofNat_of_zero_le (by omega : 0 ≤ t)
    have hk : k ≤ 1000 := by omega
    have hV : Hid (Vec.tickV wrap64 xs k = _) := tick_in wrap64 xs k hk
    rw [hn] at hV
    have hR : ∀ (v : Value) (w1 : World), w1.ownsRow w.heap.size 3 1 v n (xs.map (Value.int .i64)) → Below w.heap.size w w1 → _ := fun v w1 hown hb1 => pReach_any v n xs k w1 w.heap.size hb1.size hn8 hk hown
    have hul : Hid ((xs ++ List.replicate (max n (k + 1) - n) 0).length = max n (k + 1)) := by unfold Hid; rw [List.length_append, List.length_replicate, hn]; omega
    have hkM : k < max n (k + 1) := by omega
    have hM8 : max n (k + 1) * 8 ≤ 140737488355328 := by omega
    generalize xs ++ List.replicate (max n (k + 1) - n) 0 = us at hV hR hul
    generalize max n (k + 1) = M at hR hul hkM hM8
    go_enter Tryz.func72, Tryz.ntmps72
    go_wp2_with (first | (go_at_call 85; refine hC.mono ?_; clear hC; rintro e w1 ⟨v, rfl, hown, hb1⟩) | (go_at_call 86; refine (hR _ _ hown hb1).mono ?_; clear hR; rintro e w2 ⟨v2, rfl, hown2, hb2⟩; obtain ⟨g, c2, rfl, hBg, hc2, hc3⟩ := owns_pos hown2 (by omega); have hcell := (hown2.cellAt k (by omega)).trans (map_getElem (by have := hul.out; omega)); have hfr := hown2.frozenAt k))
    have hst := hown2.stored k (.int .i64 (wrap64 (us[k]?.getD 0 + 1)))
    have hown3 : (w2.setCell ⟨g, k, none⟩ (.int .i64 (wrap64 (us[k]?.getD 0 + 1)))).ownsRow w.heap.size 3 1 (.slice (some ⟨g, 0, none⟩) M c2) M ((us.set k (wrap64 (us.getD k 0 + 1))).map (Value.int .i64)) := by
      rw [List.map_set, List.getD_eq_getElem?_getD]; exact hst.1
    refine (trim_owned hown3 ((hb1.trans hb2).setCell (p := ⟨g, k, none⟩) hBg _)).mono ?_
    rintro e w3 ⟨u, rfl, hnew, hb4⟩
    rw [← hV.out] at hnew
    clear hst hown3 hown2 hown hcell hfr
    go_wp2
    go_ret
    exact ⟨u, rfl, hnew, hb4⟩
end Go.Proofs.YtbajfapfpcjenaaGreatDoor
namespace Go.Proofs.YtbajfapfpcjenaaGreatDoor
open Go.RowKit Go.Proofs.Ord

theorem stamp_key : KeyL ik 3 := int_key Tryz.underlying3
theorem zero_page (w : World) : (zeroValue 35).run Tryz.prog w = .ok (.slice none 0 0) w := by kernel_rfl

/-- A page of a stamp is looked up. -/
theorem StampP.look {S : Nat → Prop} {w : World} {v : Value} {pg : Int → List Int} (h : StampP S w v pg) (p : Int) : ∃ u, Sem.run Tryz.prog (Instr.lookup 59 v (.int .i64 p) false) w = .ok u w ∧ PageV S w u (pg p) := by
  rcases h with ⟨rfl, h0⟩ | ⟨b, f, n, rfl, hS, hM, hP⟩
  · exact ⟨_, look_nil stamp_key Tryz.underlying59 w (zero_page w) p, by rw [h0 p]; exact pageV_nil S w⟩
  · exact ⟨_, hM.look stamp_key Tryz.underlying59 (zero_page w) p, hP.at p⟩

set_option maxHeartbeats 400000 in
/-- Of: a thread's number. -/
theorem of_any {S : Nat → Prop} {v : Value} {g : Int → Int} (t : Int) (w : World) (ht : In64 t) (h : StampV S w v g) : Calls Tryz.prog 30 #[v, .int .i64 t] w fun e w' => e = .returned (.int .i64 (g t)) ∧ Below w.heap.size w w' := by
  obtain ⟨pg, hg, hp⟩ := h
  obtain ⟨u, hlk, a, cap, rfl, hsl, _, _⟩ := hp.look (t / 64)
  have hat : Hid (Vec.at_ (pg (t / 64)) (t % 64) = g t) := by
    rw [hg t]; unfold pageAt Vec.at_; rw [if_neg (by omega)]; rfl
  clear hp hg
  go_enter Tryz.func30, Tryz.ntmps30
  go_wp2_with (first | (go_at_call 50; refine (place_any _ _ ht).mono ?_; rintro e w' ⟨rfl, rfl⟩) | (go_at_call 51; refine (at_said _ _ _ _ _ _ hsl).mono ?_; rintro e w1 ⟨rfl, hb1⟩))
  go_ret
  exact ⟨ret_int hat.out, hb1⟩

set_option maxRecDepth 100000 in
set_option maxHeartbeats 400000 in
/-- higher: the higher one of each; one of the two, where that is enough. -/
theorem higher_any {S : Nat → Prop} {u v : Value} {xs ys : List Int} (w : World) (hu : PageV S w u xs) (hv : PageV S w v ys) : Calls Tryz.prog 84 #[u, v] w fun e w' => ∃ r zs, e = .returned r ∧ (∀ i, zs.getD i 0 = max (xs.getD i 0) (ys.getD i 0)) ∧ PageV (fun b => S b ∨ (w.heap.size ≤ b ∧ b < w'.heap.size)) w' r zs ∧ Below w.heap.size w w' := by
  obtain ⟨a, cap, rfl, hs, h64, hS⟩ := id hu
  obtain ⟨a', cap', rfl, hs', h64', hS'⟩ := id hv
  cases h1 : Vec.leq ys xs with
  | true =>
    have HL := hide ((Vec.leq_iff _ _).1 h1)
    go_enter Tryz.func84, Tryz.ntmps84
    go_wp2_with fail
    refine (leq_said _ _ _ _ _ _ _ _ _ hs' hs).mono ?_
    rw [h1]; rintro e w1 ⟨rfl, hb1⟩
    go_wp2_with fail
    go_ret
    exact ⟨_, xs, rfl, fun i => by have := HL.out i; omega, (hu.any hb1).mono fun b _ h => .inl h, hb1⟩
  | false =>
    go_enter Tryz.func84, Tryz.ntmps84
    go_wp2_with fail
    refine (leq_said _ _ _ _ _ _ _ _ _ hs' hs).mono ?_
    rw [h1]; rintro e w1 ⟨rfl, hb1⟩
    go_wp2_with fail
    refine (leq_said _ _ _ _ _ _ _ _ _ (hs.below hb1) (hs'.below hb1)).mono ?_
    cases h2 : Vec.leq xs ys with
    | true =>
      have HL := hide ((Vec.leq_iff _ _).1 h2)
      rintro e w2 ⟨rfl, hb2⟩
      have hb := hb1.trans (hb2.mono hb1.size)
      go_wp2_with fail
      go_ret
      exact ⟨_, ys, rfl, fun i => by have := HL.out i; omega, (hv.any hb).mono fun b _ h => .inl h, hb⟩
    | false =>
      rintro e w2 ⟨rfl, hb2⟩
      have hb := hb1.trans (hb2.mono hb1.size)
      go_wp2_with fail
      refine (max_said _ _ _ _ _ _ _ _ _ (hs.below hb) (hs'.below hb)).mono ?_
      rintro e w3 ⟨r, rfl, hn, hb3⟩
      have hbb := hb.trans (hb3.mono hb.size)
      have hlen := Vec.maxV_len xs ys
      go_wp2_with fail
      go_ret
      exact ⟨_, _, rfl, Vec.maxV_getD xs ys, hn.page (by omega) fun b h1 h2 => .inr ⟨by have := hb.size; omega, h2⟩, hbb⟩
end Go.Proofs.YtbajfapfpcjenaaGreatDoor
namespace Go.Proofs.YtbajfapfpcjenaaGreatDoor
open Go.RowKit Go.Proofs.Ord

set_option maxRecDepth 100000 in
set_option maxHeartbeats 1000000 in
/-- Leq: nowhere above. -/
theorem leq_any {S S' : Nat → Prop} {v v' : Value} {g g' : Int → Int} (w : World) (h : StampV S w v g) (h' : StampV S' w v' g') (hn : ∀ u, 0 ≤ g' u) : Calls Tryz.prog 28 #[v, v'] w fun e w' => ∃ c, e = .returned (.bool c) ∧ (c = true ↔ ∀ u, g u ≤ g' u) ∧ Below w.heap.size w w' := by
  obtain ⟨pg, hg, hp⟩ := h
  obtain ⟨pg', hg', hp'⟩ := h'
  have h64 := hide hp.len64
  have h64' := hide hp'.len64
  have hiff : Hid ((∀ u, g u ≤ g' u) ↔ ∀ p, Vec.leq (pg p) (pg' p) = true) := by
    have := pages_leq h64.out h64'.out
    constructor
    · intro h; exact this.1 fun u => by rw [← hg u, ← hg' u]; exact h u
    · intro h u; rw [hg u, hg' u]; exact this.2 h u
  have hn' : Hid (∀ p i, 0 ≤ (pg' p).getD i 0) := fun p i => by
    by_cases hi : i < 64
    · have := hn (64 * p + i); rw [hg', pageAt_at _ _ _ hi] at this; exact this
    · rw [Vec.getD_past _ _ (by have := h64'.out p; omega)]; exact Int.le_refl _
  clear hn hg hg'
  rcases hp with ⟨rfl, h0⟩ | ⟨b, f, n, rfl, hS, hM, hP⟩
  · have hall : Hid (∀ u, g u ≤ g' u) := by
      refine hiff.out.2 fun p => ?_
      rw [h0 p, Vec.leq_iff]
      intro i; simpa using hn'.out p i
    have hr := run_range_nilMap (P := Tryz.prog) w 59 _ _ Tryz.underlying59
    clear h0 hn' hiff hp' h64 h64'
    go_enter Tryz.func28, Tryz.ntmps28
    go_wp2_with fail
    have hx := run_next_nilMap (P := Tryz.prog) w 0 0 0 #[]
    refine wp_loop_rounds 1 ?_
    rw [rounds_succ]
    go_wp2
    go_ret
    exact ⟨true, rfl, by simp [hall.out], (Below.refl _ _).alloc (Nat.le_refl _) _⟩
  · obtain ⟨W0, hr, hit, hb0, hz0⟩ := hM.range stamp_key Tryz.underlying59
    have hz := hb0.size
    go_enter Tryz.func28, Tryz.ntmps28
    clear hM
    go_wp2_with fail
    go_loopw [5, 6, 9, 10, 11, 12, 13, 14, 15, 16, 17, 18, 19] (fun _ _ _ _ _ _ _ _ _ _ _ _ _ wr => ∃ left : Int → Prop, KIter ik wr w.heap.size b f left ∧ (∀ p, (f p).isSome → ¬ left p → Vec.leq (pg p) (pg' p) = true) ∧ Below w.heap.size w wr) (fun _ _ _ _ _ _ _ _ _ _ _ _ _ wr => leftN wr w.heap.size b)
    case atStart => exact ⟨_, hit, fun p h1 h2 => absurd h1 h2, hb0⟩
    case round =>
      clear hit hb0 hr
      obtain ⟨left, hit, hseen, hbel⟩ := hrel
      rcases hit.next stamp_key 0 with ⟨hnone, hnx⟩ | ⟨p, u, w1, hl, hf, hnx, hit1, hlt, hg1, hz1, hen⟩
      · have hall : Hid (∀ u, g u ≤ g' u) := by
          refine hiff.out.2 fun p => ?_
          cases hf : f p with
          | none =>
            rw [hP.none_ p hf, Vec.leq_iff]
            intro i; simpa using hn'.out p i
          | some v => exact hseen p (by rw [hf]; rfl) (hnone p)
        clear hseen hnone hit
        go_wp2
        go_ret
        exact ⟨true, rfl, by simp [hall.out], hbel⟩
      · have hb1 : Below w.heap.size w w1 := hbel.grown hg1 hbel.size (fun q e => by cases e; exact Nat.le_refl _)
        obtain ⟨a, cap, rfl, hsl, _, _⟩ := (hP.any hb1).some_ p u hf
        obtain ⟨u', hlk, a', cap', rfl, hsl', _, _⟩ := (hp'.any hb1).look p
        have HI := hide hit1
        have HS := hide hseen
        have HL := hide hlt
        have HF := hide hf
        have hpk : ik p = .int .i64 p := rfl
        rw [hpk] at hnx hen
        clear hit1 hseen hlt hit hl hg1 hz1 hbel hf
        have hq : Hid (∀ (w2 : World), Below w1.heap.size w1 w2 → KIter ik w2 w.heap.size b f (fun x => left x ∧ x ≠ p) ∧ leftN w2 w.heap.size b < leftN wr w.heap.size b ∧ Below w.heap.size w w2) := fun w2 hb2 => by
          have hlt1 := HI.out.lt
          obtain ⟨_, hM1⟩ := HI.out.map
          have hlt2 := hM1.lt
          exact ⟨HI.out.same (hb2.block _ hlt1) (hb2.block _ hlt2), by rw [leftN_same (hb2.block _ hlt1) (hb2.block _ hlt2)]; exact HL.out, hb1.trans (hb2.mono hb1.size)⟩
        cases hc : Vec.leq (pg p) (pg' p) with
        | true =>
          go_wp2_with (go_at_call 49; refine (leq_said _ _ _ _ _ _ _ _ _ hsl hsl').mono ?_; rw [hc]; rintro e w2 ⟨rfl, hb2⟩)
          obtain ⟨q1, q2, q3⟩ := hq.out w2 hb2
          go_roundw
          case rel =>
            refine ⟨_, q1, fun p' h1 h2 => ?_, q3⟩
            by_cases e : p' = p
            · subst e; exact hc
            · exact HS.out p' h1 fun h => h2 ⟨h, e⟩
          case measure => exact q2
        | false =>
          have hno : Hid (¬ ∀ u, g u ≤ g' u) := fun h => by rw [hiff.out.1 h p] at hc; cases hc
          go_wp2_with (go_at_call 49; refine (leq_said _ _ _ _ _ _ _ _ _ hsl hsl').mono ?_; rw [hc]; rintro e w2 ⟨rfl, hb2⟩)
          go_ret
          exact ⟨false, rfl, by simp [hno.out], (hq.out w2 hb2).2.2⟩
end Go.Proofs.YtbajfapfpcjenaaGreatDoor
namespace Go.Proofs.YtbajfapfpcjenaaGreatDoor
open Go.RowKit Go.Proofs.Ord

theorem map_some (b : Nat) (u : World) : Sem.run Tryz.prog (binOp .eql 59 (.map (some b)) (.map none)) u = .ok (.bool false) u := by kernel_rfl

theorem assert_stamp (b : Nat) (u : World) : Sem.run Tryz.prog (Instr.typeAssert (.iface 59 (.map (some b))) 20 59 false) u = .ok (.map (some b)) u := by kernel_rfl

set_option maxRecDepth 100000 in
set_option maxHeartbeats 1000000 in
theorem sclone_any {b n : Nat} {f : Int → Option Value} (w : World) (hM : KMap ik w b f n) : Calls Tryz.prog 69 #[.map (some b)] w fun e w' => e = .returned (.map (some w.heap.size)) ∧ KMap ik w' w.heap.size f n ∧ Below w.heap.size w w' := by
  obtain ⟨w1, hr, hM1, hb1, hz1⟩ := hM.clone 59
  have hne := map_some b
  have hta := assert_stamp w.heap.size
  have hcall : Sem.run Tryz.prog (callFunc 83 #[.iface 59 (.map (some b))]) w = .ok (.value (.iface 59 (.map (some w.heap.size)))) w1 := by
    rw [run_callFunc_extern Tryz.func83 (by kernel_rfl) (by kernel_rfl) (by kernel_rfl) (e := Extern.MapsClone.clone) (by kernel_rfl), hr]
    rfl
  clear hr
  go_enter Tryz.func69, Tryz.ntmps69
  go_wp2
  go_ret
  exact ⟨rfl, hM1, hb1⟩

/-- The pages while those of another stamp are joined into them. -/
def halfway (pg pg' qs : Int → List Int) (left : Int → Prop) : Prop := ∀ p, (¬ left p → ∀ i, (qs p).getD i 0 = max ((pg p).getD i 0) ((pg' p).getD i 0)) ∧ (left p → qs p = pg p)

theorem grown_then {w w1 w2 : World} {b : Nat} (h1 : w.grownBy w1 (some b)) (h2 : w1.grownBy w2 (some b)) : w.grownBy w2 (some b) :=
  ⟨h2.os.trans h1.os, h2.tape.trans h1.tape, h2.output.trans h1.output, Nat.le_trans h1.size h2.size, fun k hk hne => (h2.block k (Nat.lt_of_lt_of_le hk h1.size) hne).trans (h1.block k hk hne)⟩
theorem grown_new {w w1 w2 : World} {b r : Nat} (h1 : w.grownBy w1 (some b)) (h2 : w1.grownBy w2 (some r)) (hr : w.heap.size ≤ r) : w.grownBy w2 (some b) :=
  ⟨h2.os.trans h1.os, h2.tape.trans h1.tape, h2.output.trans h1.output, Nat.le_trans h1.size h2.size, fun k hk hne => (h2.block k (Nat.lt_of_lt_of_le hk h1.size) (fun e => by cases e; omega)).trans (h1.block k hk hne)⟩
theorem grown_below {w w1 w2 : World} {b : Nat} (h1 : w.grownBy w1 (some b)) (h2 : Below w1.heap.size w1 w2) : w.grownBy w2 (some b) :=
  ⟨h2.os.trans h1.os, h2.tape.trans h1.tape, h2.output.trans h1.output, Nat.le_trans h1.size h2.size, fun k hk hne => (h2.block k (Nat.lt_of_lt_of_le hk h1.size)).trans (h1.block k hk hne)⟩
theorem below_grown {w w1 : World} {b : Nat} (h : Below w.heap.size w w1) : w.grownBy w1 (some b) := ⟨h.os, h.tape, h.output, h.size, fun k hk _ => h.block k hk⟩

set_option maxRecDepth 100000 in
set_option maxHeartbeats 1000000 in
/-- add: another stamp is joined into this one, which nobody else holds. -/
theorem add_any {S : Nat → Prop} {b : Nat} {f : Int → Option Value} {n : Nat} {b' n' : Nat} {f' : Int → Option Value} {pg pg' : Int → List Int} (w : World) (hM : KMap ik w b f n) (hP : Pages S w f pg) (hS' : S b') (hM' : KMap ik w b' f' n') (hP' : Pages S w f' pg') (hb : ¬ S b) (hlt : ∀ x, S x → x < w.heap.size) (hpos : ∀ p i, 0 ≤ (pg p).getD i 0) :
    Calls Tryz.prog 70 #[.map (some b), .map (some b')] w fun e w' => ∃ f2 n2 qs, e = .returned (.tuple #[]) ∧ KMap ik w' b f2 n2 ∧ Pages (fun x => S x ∨ (w.heap.size ≤ x ∧ x < w'.heap.size)) w' f2 qs ∧ (∀ p i, (qs p).getD i 0 = max ((pg p).getD i 0) ((pg' p).getD i 0)) ∧ w.grownBy w' (some b) := by
  have hpos := hide hpos
  obtain ⟨W0, hr, hit, hb0, hz0⟩ := hM'.range stamp_key Tryz.underlying59
  have hne : b' ≠ b := fun e => hb (e ▸ hS')
  have hbl := hM.lt
  have hbl' := hM'.lt
  have HX := hide (⟨hM.same (hb0.block _ hbl), (hP.any hb0).mono (S' := fun x => S x ∨ (w.heap.size < x ∧ x < W0.heap.size)) fun x _ h => .inl h⟩ : KMap ik W0 b f n ∧ Pages (fun x => S x ∨ (w.heap.size < x ∧ x < W0.heap.size)) W0 f pg)
  have hg0 : w.grownBy W0 (some b) := below_grown hb0
  clear hM hM' hP
  go_enter Tryz.func70, Tryz.ntmps70
  go_wp2_with fail
  go_loopw [4, 5, 8, 9, 10, 11, 12, 13, 14, 15, 16, 17, 18, 19] (fun _ _ _ _ _ _ _ _ _ _ _ _ _ _ wr => ∃ (left : Int → Prop) (f1 : Int → Option Value) (n1 : Nat) (qs : Int → List Int), KIter ik wr w.heap.size b' f' left ∧ KMap ik wr b f1 n1 ∧ Pages (fun x => S x ∨ (w.heap.size < x ∧ x < wr.heap.size)) wr f1 qs ∧ (∀ p, left p → (f' p).isSome) ∧ halfway pg pg' qs (fun p => left p ∨ f' p = none) ∧ w.grownBy wr (some b)) (fun _ _ _ _ _ _ _ _ _ _ _ _ _ _ wr => leftN wr w.heap.size b')
  case atStart =>
    refine ⟨_, f, n, pg, hit, HX.out.1, HX.out.2, fun p h => h, fun p => ⟨fun h => ?_, fun _ => rfl⟩, hg0⟩
    exfalso
    cases hf : f' p with
    | none => exact h (.inr hf)
    | some v => exact h (.inl (by rw [hf]; rfl))
  case round =>
    clear hit hb0 hr hg0 HX
    obtain ⟨left, f1, n1, qs, hit, hM, hP, hl0, hhalf, hg⟩ := hrel
    rcases hit.next stamp_key 0 with ⟨hnone, hnx⟩ | ⟨p, u, w1, hl, hf, hnx, hit1, hlt1, hg1, hz1, hen⟩
    · have HF : Hid (∀ p i, (qs p).getD i 0 = max ((pg p).getD i 0) ((pg' p).getD i 0)) := fun p i => by
        by_cases h : left p ∨ f' p = none
        · have e := (hhalf p).2 h
          rw [e]
          rcases h with h | h
          · exact absurd h (hnone p)
          · have := hpos.out p i
            rw [hP'.none_ p h]; simp; simp at this; omega
        · exact (hhalf p).1 h i
      have HM := hide hM
      have HP := hide (hP.mono (S' := fun x => S x ∨ (w.heap.size ≤ x ∧ x < wr.heap.size)) fun x _ h => h.imp id fun h => ⟨by omega, h.2⟩)
      have HG := hide hg
      clear hM hP hhalf hnone hit hl0 hg
      go_wp2
      go_end0
      exact ⟨f1, n1, qs, rfl, HM.out, HP.out, HF.out, HG.out⟩
    · have hrb : b ≠ w.heap.size := by omega
      have hM1 : KMap ik w1 b f1 n1 := hM.same (hg1.block _ hM.lt (by simpa using hrb))
      have hP1 : Pages (fun x => S x ∨ (w.heap.size < x ∧ x < w1.heap.size)) w1 f1 qs := by
        refine (hP.kept hg1.size fun x hx => ?_).mono fun x _ h => h.imp id fun h => ⟨h.1, by omega⟩
        have hxs : x < wr.heap.size := hx.elim (fun h => by have := hlt x h; have := hg.size; omega) (fun h => h.2)
        exact hg1.block x hxs (fun e => by
          have e' : x = w.heap.size := by simpa using e
          rcases hx with h | h
          · have := hlt x h; omega
          · omega)
      have hgw1 : w.grownBy w1 (some b) := grown_new hg hg1 (Nat.le_refl _)
      have hv1 : PageV (fun x => S x ∨ (w.heap.size < x ∧ x < w1.heap.size)) w1 u (pg' p) := by
        refine ((hP'.some_ p u hf).kept hgw1.size fun x hx => hgw1.block x (hlt x hx) (fun e => ?_)).mono fun x _ h => .inl h
        have e' : x = b := by simpa using e
        exact hb (e' ▸ hx)
      have hu1 := hP1.at p
      have hlk := hM1.look stamp_key Tryz.underlying59 (zero_page w1) p
      have hbl' : Hid (b' < w.heap.size ∧ b' ≠ w.heap.size) := ⟨by omega, by omega⟩
      generalize (f1 p).getD (.slice none 0 0) = cu at hu1 hlk
      have hfin : Hid (∀ (w2 : World) (ru : Value) (zs : List Int), (∀ i, zs.getD i 0 = max ((qs p).getD i 0) ((pg' p).getD i 0)) → PageV (fun x => (S x ∨ (w.heap.size < x ∧ x < w1.heap.size)) ∨ (w1.heap.size ≤ x ∧ x < w2.heap.size)) w2 ru zs → Below w1.heap.size w1 w2 →
          ∃ w3, Sem.run Tryz.prog (Instr.mapUpdate 59 (.map (some b)) (.int .i64 p) ru) w2 = .ok () w3 ∧ (∃ (left : Int → Prop) (f1 : Int → Option Value) (n1 : Nat) (qs : Int → List Int), KIter ik w3 w.heap.size b' f' left ∧ KMap ik w3 b f1 n1 ∧ Pages (fun x => S x ∨ (w.heap.size < x ∧ x < w3.heap.size)) w3 f1 qs ∧ (∀ p, left p → (f' p).isSome) ∧ halfway pg pg' qs (fun p => left p ∨ f' p = none) ∧ w.grownBy w3 (some b)) ∧ leftN w3 w.heap.size b' < leftN wr w.heap.size b') := by
        intro w2 ru zs hzs hru hb2
        have hs2 := hb2.size
        have hs1 : w.heap.size < w1.heap.size := hit1.lt
        obtain ⟨w3, hrun, hM3, hg3, hz3⟩ := (hM1.same (hb2.block _ hM1.lt)).put stamp_key Tryz.underlying59 p ru
        have hP2 : Pages (fun x => S x ∨ (w.heap.size < x ∧ x < w2.heap.size)) w2 f1 qs := (hP1.any hb2).mono fun x _ h => h.imp id fun h => ⟨h.1, by omega⟩
        have hru2 : PageV (fun x => S x ∨ (w.heap.size < x ∧ x < w2.heap.size)) w2 ru zs := hru.mono fun x _ h => h.elim (fun h => h.imp id fun h => ⟨h.1, by omega⟩) (fun h => .inr ⟨by omega, h.2⟩)
        have hP3 := ((hP2.put p hru2).kept (w' := w3) (by omega) fun x hx => hg3.block x (hx.elim (fun h => by have := hlt x h; omega) (fun h => h.2)) (fun e => by
          have e' : x = b := by simpa using e
          rcases hx with h | h
          · exact hb (e' ▸ h)
          · omega))
        have hr3 : w3.heap[w.heap.size]? = w1.heap[w.heap.size]? := (hg3.block _ (by omega) (by simp; omega)).trans (hb2.block _ hs1)
        have hb3 : w3.heap[b']? = w1.heap[b']? := (hg3.block _ (by have := hbl'.out.1; omega) (by simpa using hne)).trans (hb2.block _ (by have := hbl'.out.1; omega))
        refine ⟨w3, hrun, ⟨_, _, _, _, hit1.same hr3 hb3, hM3, hP3.mono fun x _ h => h.imp id fun h => ⟨h.1, by omega⟩, fun q h => hl0 q h.1, fun q => ?_, grown_then (grown_below hgw1 hb2) hg3⟩, by rw [leftN_same hr3 hb3]; exact hlt1⟩
        by_cases e : q = p
        · subst e
          refine ⟨fun _ i => ?_, fun h => ?_⟩
          · show (if q = q then zs else qs q).getD i 0 = _
            rw [if_pos rfl, hzs, (hhalf q).2 (.inl hl)]
          · rcases h with h | h
            · exact absurd rfl h.2
            · rw [hf] at h; cases h
        · refine ⟨fun h i => ?_, fun h => ?_⟩
          · show (if q = p then zs else qs q).getD i 0 = _
            rw [if_neg e]; exact (hhalf q).1 (fun h' => h (h'.imp (fun h' => ⟨h', e⟩) id)) i
          · show (if q = p then zs else qs q) = _
            rw [if_neg e]; exact (hhalf q).2 (h.imp (fun h => h.1) id)
      have hpk : ik p = .int .i64 p := rfl
      rw [hpk] at hnx hen hlk
      clear hM hP hl0 hhalf hit hit1 hlt1 hM1 hP1 hg hg1 hgw1 hf hl hbl'
      go_wp2_with (go_at_call 84; refine (higher_any _ hu1 hv1).mono ?_; rintro e w2 ⟨ru, zs, rfl, hzs, hru, hb2⟩; obtain ⟨w3, hrun3, hrel3, hmea3⟩ := hfin.out w2 ru zs hzs hru hb2; clear hzs hru hb2)
      go_roundw
      case rel => exact hrel3
      case measure => exact hmea3
end Go.Proofs.YtbajfapfpcjenaaGreatDoor
namespace Go.Proofs.YtbajfapfpcjenaaGreatDoor
open Go.RowKit Go.Proofs.Ord

theorem pages_pos {pg : Int → List Int} {g : Int → Int} (hg : ∀ u, g u = pageAt pg u) (h64 : ∀ p, (pg p).length ≤ 64) (hn : ∀ u, 0 ≤ g u) : ∀ p i, 0 ≤ (pg p).getD i 0 := fun p i => by
  by_cases hi : i < 64
  · have := hn (64 * p + i); rw [hg, pageAt_at _ _ _ hi] at this; exact this
  · rw [Vec.getD_past _ _ (by have := h64 p; omega)]; exact Int.le_refl _

set_option maxRecDepth 100000 in
set_option maxHeartbeats 1000000 in
/-- Join: the higher one of each. -/
theorem join_st {S : Nat → Prop} {v v' : Value} {g g' : Int → Int} (w : World) (h : StampV S w v g) (h' : StampV S w v' g') (hlt : ∀ x, S x → x < w.heap.size) (hn : ∀ u, 0 ≤ g u) (hn' : ∀ u, 0 ≤ g' u) :
    Calls Tryz.prog 38 #[v, v'] w fun e w' => ∃ r, e = .returned r ∧ StampV (fun x => S x ∨ (w.heap.size ≤ x ∧ x < w'.heap.size)) w' r (maxF g g') ∧ Below w.heap.size w w' := by
  have Hn := hide hn
  have Hn' := hide hn'
  clear hn hn'
  go_enter Tryz.func38, Tryz.ntmps38
  go_wp2_with fail
  refine (leq_any w h' h Hn.out).mono ?_
  rintro e w1 ⟨c1, rfl, hc1, hb1⟩
  have h1 := h.any hb1
  have h1' := h'.any hb1
  cases c1 with
  | true =>
    have HC := hide (hc1.1 rfl)
    go_wp2_with fail
    go_ret
    exact ⟨_, rfl, (h1.mono fun x _ h => .inl h).congr fun u => by have := HC.out u; unfold maxF; omega, hb1⟩
  | false =>
    have HC := hide (fun h => by simpa using hc1.2 h : ¬ ∀ u, g' u ≤ g u)
    clear hc1
    go_wp2_with fail
    refine (leq_any w1 h1 h1' Hn'.out).mono ?_
    rintro e w2 ⟨c2, rfl, hc2, hb2⟩
    have hb12 : Below w.heap.size w w2 := hb1.trans (hb2.mono hb1.size)
    have h2 := h1.any hb2
    have h2' := h1'.any hb2
    cases c2 with
    | true =>
      have HD := hide (hc2.1 rfl)
      go_wp2_with fail
      go_ret
      exact ⟨_, rfl, (h2'.mono fun x _ h => .inl h).congr fun u => by have := HD.out u; unfold maxF; omega, hb12⟩
    | false =>
      have HD := hide (fun h => by simpa using hc2.2 h : ¬ ∀ u, g u ≤ g' u)
      obtain ⟨pg, hg, hp⟩ := h2
      obtain ⟨pg', hg', hp'⟩ := h2'
      have HP := hide (pages_pos hg hp.len64 Hn.out)
      have HG := hide hg
      have HG' := hide hg'
      clear hc2 h h' h1 h1' hg hg'
      rcases hp with ⟨rfl, h0⟩ | ⟨b, f, n, rfl, hS, hM, hPg⟩
      · exact absurd (fun u => by rw [HG.out u]; unfold pageAt; rw [h0]; simpa using Hn'.out u) HD.out
      rcases hp' with ⟨rfl, h0⟩ | ⟨b', f', n', rfl, hS', hM', hPg'⟩
      · exact absurd (fun u => by rw [HG'.out u]; unfold pageAt; rw [h0]; simpa using Hn.out u) HC.out
      go_wp2_with fail
      refine (sclone_any _ hM).mono ?_
      rintro e w3 ⟨rfl, hM3, hb3⟩
      have hz2 := hb12.size
      have HA := hide (add_any (S := S) w3 hM3 (hPg.any hb3) hS' (hM'.same (hb3.block _ hM'.lt)) (hPg'.any hb3) (fun h => by have := hlt _ h; omega) (fun x h => by have := hlt _ h; have := hb3.size; omega) HP.out)
      have hb13 : Below w.heap.size w w3 := hb12.trans (hb3.mono hz2)
      have hz3 := hM3.lt
      clear hM hM' hPg hPg' hM3 hb3
      go_wp2_with fail
      refine (HA.out).mono ?_
      rintro e w4 ⟨f2, n2, qs, rfl, hM4, hP4, hq4, hg4⟩
      have hz4 := hg4.size
      have hb14 : Below w.heap.size w w4 := hb13.grown hg4 hb13.size (fun q e => by cases e; exact hz2)
      have HR := hide (⟨qs, fun u => by unfold maxF; rw [HG.out u, HG'.out u]; unfold pageAt; rw [hq4], .inr ⟨_, f2, n2, rfl, .inr ⟨hz2, by omega⟩, hM4, hP4.mono fun x _ h => h.imp id fun h => ⟨by omega, h.2⟩⟩⟩ : StampV (fun x => S x ∨ (w.heap.size ≤ x ∧ x < w4.heap.size)) w4 (.map (some w2.heap.size)) (maxF g g'))
      clear hM4 hP4 hq4 hg4
      go_wp2_with fail
      go_ret
      exact ⟨_, rfl, HR.out, hb14⟩

set_option maxRecDepth 100000 in
set_option maxHeartbeats 1000000 in
/-- maps.Copy into a map that holds nothing yet. -/
theorem copy_any {S : Nat → Prop} {b : Nat} {v : Value} {pg : Int → List Int} (w : World) (hM : KMap ik w b (fun _ => none) 0) (hp : StampP S w v pg) (hb : ¬ S b) (hlt : ∀ x, S x → x < w.heap.size) :
    Calls Tryz.prog 71 #[.map (some b), v] w fun e w' => ∃ f2 n2, e = .returned (.tuple #[]) ∧ KMap ik w' b f2 n2 ∧ Pages S w' f2 pg ∧ w.grownBy w' (some b) := by
  rcases hp with ⟨rfl, h0⟩ | ⟨b', f', n', rfl, hS', hM', hP'⟩
  · have hr := run_range_nilMap (P := Tryz.prog) w 59 _ _ Tryz.underlying59
    have HM := hide hM
    have H0 := hide h0
    clear hM h0
    go_enter Tryz.func71, Tryz.ntmps71
    go_wp2_with fail
    have hx := run_next_nilMap (P := Tryz.prog) w 0 0 0 #[]
    refine wp_loop_rounds 1 ?_
    rw [rounds_succ]
    go_wp2
    go_end0
    have hbel : Below w.heap.size w (w.alloc (.mapIter none 0 #[] 0)) := (Below.refl _ _).alloc (Nat.le_refl _) _
    exact ⟨fun _ => none, 0, rfl, HM.out.same (hbel.block _ HM.out.lt), ⟨(fun p v h => by cases h), fun p _ => H0.out p⟩, below_grown hbel⟩
  · obtain ⟨W0, hr, hit, hb0, hz0⟩ := hM'.range stamp_key Tryz.underlying59
    have hne : b' ≠ b := fun e => hb (e ▸ hS')
    have hbl := hM.lt
    have hbl' := hM'.lt
    have HX := hide (hM.same (hb0.block _ hbl))
    have hg0 : w.grownBy W0 (some b) := below_grown hb0
    have HP := hide hP'
    clear hM hM' hP'
    go_enter Tryz.func71, Tryz.ntmps71
    go_wp2_with fail
    go_loopw [4, 5, 8, 9, 10, 11, 12, 13, 14, 15] (fun _ _ _ _ _ _ _ _ _ _ wr => ∃ (left : Int → Prop) (f1 : Int → Option Value) (n1 : Nat), KIter ik wr w.heap.size b' f' left ∧ KMap ik wr b f1 n1 ∧ (∀ p, (¬ left p → f1 p = f' p)) ∧ w.grownBy wr (some b)) (fun _ _ _ _ _ _ _ _ _ _ wr => leftN wr w.heap.size b')
    case atStart =>
      refine ⟨_, _, 0, hit, HX.out, fun p h => ?_, hg0⟩
      cases hf : f' p with
      | none => rfl
      | some v => exact absurd (by rw [hf]; rfl) h
    case round =>
      clear hit hb0 hr hg0 HX
      obtain ⟨left, f1, n1, hit, hM, hcp, hg⟩ := hrel
      rcases hit.next stamp_key 0 with ⟨hnone, hnx⟩ | ⟨p, u, w1, hl, hf, hnx, hit1, hlt1, hg1, hz1, hen⟩
      · have HM := hide hM
        have HQ := hide (⟨fun p v h => by
            rw [hcp p (hnone p)] at h
            refine (HP.out.some_ p v h).kept hg.size fun x hx => hg.block x (hlt x hx) (fun e => ?_)
            have e' : x = b := by simpa using e
            exact hb (e' ▸ hx), fun p h => HP.out.none_ p (by rw [← hcp p (hnone p)]; exact h)⟩ : Pages S wr f1 pg)
        have HG := hide hg
        clear hM hcp hnone hit hg
        go_wp2
        go_end0
        exact ⟨f1, n1, rfl, HM.out, HQ.out, HG.out⟩
      · have hrb : b ≠ w.heap.size := by omega
        have hM1 : KMap ik w1 b f1 n1 := hM.same (hg1.block _ hM.lt (by simpa using hrb))
        have hgw1 : w.grownBy w1 (some b) := grown_new hg hg1 (Nat.le_refl _)
        obtain ⟨w3, hrun, hM3, hg3, hz3⟩ := hM1.put stamp_key Tryz.underlying59 p u
        have hr3 : w3.heap[w.heap.size]? = w1.heap[w.heap.size]? := hg3.block _ hit1.lt (by simp; omega)
        have hb3 : w3.heap[b']? = w1.heap[b']? := hg3.block _ (by have := hg.size; omega) (by simpa using hne)
        have hfin : Hid ((∃ (left : Int → Prop) (f1 : Int → Option Value) (n1 : Nat), KIter ik w3 w.heap.size b' f' left ∧ KMap ik w3 b f1 n1 ∧ (∀ p, (¬ left p → f1 p = f' p)) ∧ w.grownBy w3 (some b)) ∧ leftN w3 w.heap.size b' < leftN wr w.heap.size b') := by
          refine ⟨⟨_, _, _, hit1.same hr3 hb3, hM3, fun q h => ?_, grown_then hgw1 hg3⟩, by rw [leftN_same hr3 hb3]; exact hlt1⟩
          by_cases e : q = p
          · subst e; rw [putK_same, hf]
          · rw [putK_other u e]; exact hcp q fun h' => h ⟨h', e⟩
        have hpk : ik p = .int .i64 p := rfl
        rw [hpk] at hnx hen hrun
        clear hM hcp hit hit1 hlt1 hM1 hg hg1 hgw1 hf hl hM3 hg3 hz3 hr3 hb3
        go_wp2_with fail
        go_roundw
        case rel => exact hfin.out.1
        case measure => exact hfin.out.2

/-- The numbers with one thread's one higher. -/
def tickF (g : Int → Int) (t u : Int) : Int := if u = t then g u + 1 else g u

theorem tick_pages (pg : Int → List Int) (t : Int) (hw : wrap64 (pageAt pg t + 1) = pageAt pg t + 1) (u : Int) :
    pageAt (fun q => if q = t / 64 then Vec.tickV wrap64 (pg (t / 64)) (t % 64) else pg q) u = tickF (pageAt pg) t u := by
  unfold tickF
  by_cases e : u = t
  · subst e
    rw [if_pos rfl, ← hw]
    unfold pageAt
    show (if u / 64 = u / 64 then Vec.tickV wrap64 (pg (u / 64)) (u % 64) else pg (u / 64)).getD (u % 64).toNat 0 = _
    rw [if_pos rfl, Vec.tickV_getD, if_pos (by omega)]
  · rw [if_neg e]
    unfold pageAt
    show (if u / 64 = t / 64 then Vec.tickV wrap64 (pg (t / 64)) (t % 64) else pg (u / 64)).getD (u % 64).toNat 0 = _
    by_cases e2 : u / 64 = t / 64
    · rw [if_pos e2, Vec.tickV_getD, if_neg (by omega), e2]
    · rw [if_neg e2]

set_option maxRecDepth 100000 in
set_option maxHeartbeats 1000000 in
/-- Tick: one thread's number one higher. -/
theorem tick_st {S : Nat → Prop} {v : Value} {g : Int → Int} (t : Int) (w : World) (ht : In64 t) (h : StampV S w v g) (hlt : ∀ x, S x → x < w.heap.size) (h0 : 0 ≤ g t) (h1 : g t < 9223372036854775807) :
    Calls Tryz.prog 40 #[v, .int .i64 t] w fun e w' => ∃ r, e = .returned r ∧ StampV (fun x => S x ∨ (w.heap.size ≤ x ∧ x < w'.heap.size)) w' r (tickF g t) ∧ Below w.heap.size w w' := by
  obtain ⟨pg, hg, hp⟩ := h
  have HG := hide hg
  have hw : Hid (wrap64 (pageAt pg t + 1) = pageAt pg t + 1) := by
    rw [hg t] at h0 h1
    exact (show wrap64 (pageAt pg t + 1) = pageAt pg t + 1 by unfold wrap64; omega)
  have h64 := hide hp.len64
  obtain ⟨k, hk⟩ : ∃ k : Nat, t % 64 = (k : Int) := Int.eq_ofNat_of_zero_le (by omega)
  have hk64 : k < 64 := by omega
  have HK := hide hk
  clear hk
  have hmm := @run_makeMap Tryz.prog
  have hbA : Below w.heap.size w (w.alloc (.map #[] 0)) := (Below.refl _ _).alloc (Nat.le_refl _) _
  have hM0 := KMap.made (enc := ik) w
  have HC := hide (copy_any (S := S) (w.alloc (.map #[] 0)) hM0 (hp.any hbA) (fun h => by have := hlt _ h; omega) (fun x h => by have := hlt _ h; simp; omega))
  have HPs := hide hp
  clear hp hM0 h0 h1 hg
  go_enter Tryz.func40, Tryz.ntmps40
  go_wp2_with fail
  refine (place_any _ _ ht).mono ?_
  rintro e w' ⟨rfl, rfl⟩
  go_wp2_with fail
  refine HC.out.mono ?_
  rintro e w2 ⟨f2, n2, rfl, hM2, hP2, hg2⟩
  have hz2 := hg2.size
  rw [World.size_alloc] at hz2
  have hb2 : Below w'.heap.size w' w2 := hbA.grown hg2 hbA.size (fun q e => by cases e; exact Nat.le_refl _)
  obtain ⟨u, hlk, a, cap, rfl, hsl, _, _⟩ := (HPs.out.any hb2).look (t / 64)
  have hfin : Hid (∀ (w3 : World) (ru : Value), New w2.heap.size w3 ru (Vec.tickV wrap64 (pg (t / 64)) (t % 64)) → Below w2.heap.size w2 w3 →
      ∃ w4, Sem.run Tryz.prog (Instr.mapUpdate 59 (.map (some w'.heap.size)) (.int .i64 (t / 64)) ru) w3 = .ok () w4 ∧ StampV (fun x => S x ∨ (w'.heap.size ≤ x ∧ x < w4.heap.size)) w4 (.map (some w'.heap.size)) (tickF g t) ∧ Below w'.heap.size w' w4) := by
    intro w3 ru hn hb3
    have hz3 := hb3.size
    obtain ⟨w4, hrun, hM4, hg4, hz4⟩ := (hM2.same (hb3.block _ hM2.lt)).put stamp_key Tryz.underlying59 (t / 64) ru
    have hl64 : (Vec.tickV wrap64 (pg (t / 64)) (t % 64)).length ≤ 64 := by rw [HK.out]; exact tickV_len64 _ _ _ (h64.out _) hk64
    have hP3 := ((hP2.any hb3).mono (S' := fun x => S x ∨ (w'.heap.size < x ∧ x < w3.heap.size)) fun x _ h => .inl h).put (t / 64) (hn.page hl64 fun x h1 h2 => .inr ⟨by have := hM2.lt; omega, h2⟩)
    have hP4 := hP3.kept (w' := w4) (by omega) fun x hx => hg4.block x (hx.elim (fun h => by have := hlt x h; omega) (fun h => h.2)) (fun e => by
      have e' : x = w'.heap.size := by simpa using e
      rcases hx with h | h
      · have := hlt x h; omega
      · omega)
    refine ⟨w4, hrun, ⟨_, fun u => ?_, .inr ⟨_, _, _, rfl, .inr ⟨Nat.le_refl _, hM4.lt⟩, hM4, hP4.mono fun x _ h => h.imp id fun h => ⟨by omega, by omega⟩⟩⟩, (hb2.trans (hb3.mono hb2.size)).grown hg4 (by omega) (fun q e => by cases e; exact Nat.le_refl _)⟩
    rw [tick_pages pg t hw.out]
    unfold tickF
    rw [HG.out u]
  clear hM2 hP2 hg2 HC HPs hw
  go_wp2_with (go_at_call 72; refine (tick_said _ _ _ _ _ _ hsl).mono ?_; rintro e w3 ⟨ru, rfl, hn3, hb3⟩; obtain ⟨w4, hrun4, hst4, hbl4⟩ := hfin.out w3 ru hn3 hb3; clear hn3 hb3)
  go_ret
  exact ⟨_, rfl, hst4, hbl4⟩
end Go.Proofs.YtbajfapfpcjenaaGreatDoor
