import Derived.Test.YtbajfapfpcjenaaGreatDoorFc4
import Derived.Test.YtbajfapfpcjenaaGreatDoorFc1
import Derived.Test.YtbajfapfpcjenaaGreatDoorFc2
import Derived.Deep.RegionHeld3
import Derived.Shelf.RegionOpen
import Derived.Deep.RegionWith
import Derived.Deep.Cut
import Derived.Deep.DeepCutAuto
import Derived.RegionTactic
/-
  The variables with a first race, rising: just those that had a race.
-/
namespace Go.Proofs.YtbajfapfpcjenaaGreatDoor
open Go.Proofs.Ord

theorem getD_mem {out : List Int} {i : Nat} (h : i < out.length) : out.getD i 0 ∈ out := by simp [h]
theorem take_getD {out : List Int} {i : Nat} (h : i < out.length) : out.take (i + 1) = out.take i ++ [out.getD i 0] := by
  rw [List.take_succ_eq_append_getElem h]; simp [h]

/-- While x is laid in. -/
theorem insTo_is {x : Int} {out : List Int} (hs : out.Pairwise (· < ·)) (hx : x ∉ out) : ∀ i, i ≤ out.length →
    ((insTo x out i).2 = false → (insTo x out i).1 = out.take i ∧ ∀ y, y ∈ out.take i → y < x) ∧
    ((insTo x out i).2 = true → (insTo x out i).1.Perm (x :: out.take i) ∧ (insTo x out i).1.Pairwise (· < ·) ∧ ∃ y, y ∈ out.take i ∧ x < y) := by
  intro i
  induction i with
  | zero => intro _; exact ⟨fun _ => ⟨by simp [insTo], by simp⟩, fun h => by simp [insTo] at h⟩
  | succ i ih =>
    intro hi
    obtain ⟨h1, h2⟩ := ih (by omega)
    have hlt : i < out.length := by omega
    have hmem := getD_mem hlt
    have htk := take_getD hlt
    have hys : ∀ y, y ∈ out.take i → y < out.getD i 0 := fun y hy => by
      have hp : (out.take (i + 1)).Pairwise (· < ·) := hs.sublist (List.take_sublist _ _)
      rw [htk, List.pairwise_append] at hp
      exact hp.2.2 y hy _ (by simp)
    have hps : (out.take i).Pairwise (· < ·) := hs.sublist (List.take_sublist _ _)
    rw [insTo, insStep]
    generalize out.getD i 0 = y at *
    have hne : x ≠ y := fun e => hx (e ▸ hmem)
    cases hf : (insTo x out i).2 with
    | false =>
      obtain ⟨e1, e2⟩ := h1 hf
      by_cases hxy : x < y
      · simp only [hxy, decide_true, Bool.not_false, Bool.true_and, if_true]
        refine ⟨(fun h => by cases h), fun _ => ⟨?_, ?_, y, by rw [htk]; simp, hxy⟩⟩
        · rw [e1, htk, List.append_assoc]
          exact List.perm_middle
        · rw [e1, List.append_assoc, List.pairwise_append]
          refine ⟨hps, by simp [hxy], fun a ha b hb => ?_⟩
          simp only [List.cons_append, List.nil_append, List.mem_cons, List.not_mem_nil, or_false] at hb
          rcases hb with rfl | rfl
          · exact e2 a ha
          · exact hys a ha
      · simp only [hxy, decide_false, Bool.not_false, Bool.true_and, Bool.false_eq_true, if_false]
        refine ⟨fun _ => ⟨by rw [e1, htk], fun z hz => ?_⟩, fun h => by cases h⟩
        rw [htk, List.mem_append] at hz
        rcases hz with hz | hz
        · exact e2 z hz
        · simp at hz; omega
    | true =>
      obtain ⟨e1, e2, z, e3, e4⟩ := h2 hf
      simp only [Bool.not_true, Bool.false_and, Bool.false_eq_true, if_false]
      refine ⟨(fun h => by cases h), fun _ => ⟨?_, ?_, z, by rw [htk]; simp [e3], e4⟩⟩
      · rw [htk]
        exact e1.append (List.Perm.refl [y])
      · rw [List.pairwise_append]
        refine ⟨e2, by simp, fun a ha b hb => ?_⟩
        simp at hb
        subst hb
        have := e1.mem_iff.1 ha
        rw [List.mem_cons] at this
        rcases this with rfl | h
        · have := hys z e3; omega
        · exact hys a h
theorem ins_is {x : Int} {out : List Int} (hs : out.Pairwise (· < ·)) (hx : x ∉ out) : (ins x out).Perm (x :: out) ∧ (ins x out).Pairwise (· < ·) := by
  obtain ⟨h1, h2⟩ := insTo_is hs hx out.length (Nat.le_refl _)
  rw [List.take_length] at h1 h2
  unfold ins
  cases hf : (insTo x out out.length).2 with
  | true =>
    rw [if_pos rfl]
    exact ⟨(h2 hf).1, (h2 hf).2.1⟩
  | false =>
    rw [if_neg (by simp), (h1 hf).1]
    refine ⟨List.perm_append_comm, ?_⟩
    rw [List.pairwise_append]
    exact ⟨hs, by simp, fun a ha b hb => by simp at hb; subst hb; exact (h1 hf).2 a ha⟩

/-- Those that had a race, rising. -/
theorem varsTo_is (L : Nat → Ev) (k : Nat) : (varsTo L (isFirst L) k).Pairwise (· < ·) ∧ ∀ x, x ∈ varsTo L (isFirst L) k ↔ ¬ Clean L x k := by
  induction k with
  | zero => exact ⟨by simp [varsTo], fun x => by simp [varsTo, Clean]⟩
  | succ k ih =>
    obtain ⟨h1, h2⟩ := ih
    have hcs : ∀ x, Clean L x (k + 1) ↔ Clean L x k ∧ hits L x k = false := fun x => by
      unfold Clean
      constructor
      · exact fun h => ⟨fun q hq => h q (by omega), h k (by omega)⟩
      · rintro ⟨h1, h2⟩ q hq
        by_cases e : q = k
        · subst e; exact h2
        · exact h1 q (by omega)
    rw [varsTo]
    cases hf : isFirst L k with
    | true =>
      obtain ⟨g1, g2⟩ := (isFirst_iff L k).1 hf
      rw [if_pos rfl]
      have hno : (L k).obj ∉ varsTo L (isFirst L) k := fun h => (h2 _).1 h g2
      obtain ⟨i1, i2⟩ := ins_is h1 hno
      refine ⟨i2, fun x => ?_⟩
      rw [i1.mem_iff, List.mem_cons, h2 x, hcs]
      constructor
      · rintro (rfl | h) ⟨c1, c2⟩
        · unfold hits at c2; rw [g1] at c2; simp at c2
        · exact h c1
      · intro h
        by_cases e : x = (L k).obj
        · exact .inl e
        · right
          intro hc
          refine h ⟨hc, ?_⟩
          unfold hits
          have : ((L k).obj == x) = false := by simp; exact fun e' => e e'.symm
          rw [this, Bool.and_false]
    | false =>
      rw [if_neg (by simp)]
      refine ⟨h1, fun x => ?_⟩
      rw [h2 x, hcs]
      constructor
      · exact fun h c => h c.1
      · intro h hc
        refine h ⟨hc, ?_⟩
        cases hh : hits L x k with
        | false => rfl
        | true =>
          unfold hits at hh
          rw [Bool.and_eq_true] at hh
          have e : (L k).obj = x := by simpa using hh.2
          have : isFirst L k = true := (isFirst_iff L k).2 ⟨hh.1, fun q hq => by rw [e]; exact hc q hq⟩
          rw [hf] at this; cases this
/-- Whatever list holds just those, each once, sorts to it. -/
theorem vars_sorted {L : Nat → Ev} {k : Nat} {ss : List Int} (hn : ss.Nodup) (hm : ∀ x, x ∈ ss ↔ ¬ Clean L x k) : ss.mergeSort (fun x y => decide (x ≤ y)) = varsTo L (isFirst L) k := by
  obtain ⟨h1, h2⟩ := varsTo_is L k
  have hnd : (varsTo L (isFirst L) k).Nodup := h1.imp fun h e => by omega
  have hp : ss.Perm (varsTo L (isFirst L) k) := (List.perm_ext_iff_of_nodup hn hnd).2 fun x => by rw [hm, h2]
  have tr : ∀ a b c : Int, decide (a ≤ b) = true → decide (b ≤ c) = true → decide (a ≤ c) = true := fun a b c h1 h2 => by simp only [decide_eq_true_eq] at *; omega
  have tot : ∀ a b : Int, (decide (a ≤ b) || decide (b ≤ a)) = true := fun a b => by simp only [Bool.or_eq_true, decide_eq_true_eq]; omega
  refine List.Perm.eq_of_pairwise (le := fun a b => a ≤ b) (fun a b _ _ h1 h2 => by omega) ?_ (h1.imp fun h => by omega) ((List.mergeSort_perm ss _).trans hp)
  exact (List.pairwise_mergeSort tr tot ss).imp fun h => by simpa using h
end Go.Proofs.YtbajfapfpcjenaaGreatDoor
namespace Go.Proofs.YtbajfapfpcjenaaGreatDoor
open Go.RowKit Go.Proofs.Ord

theorem PairS.aw {F : Nat → Prop} {w w' : World} {a : Option Addr} {P : List (Nat × Nat)} (h : PairS w a P) (ho : Only F w w') (ha : Aw F w a P.length) : PairS w' a P := by
  intro i hi
  obtain ⟨b, off, e1, e2, c0, c1⟩ := h i hi
  have hn := (ha b off e1 (by omega)).2
  exact ⟨b, off, e1, by have := ho.size; omega, (ho.cell (p := ⟨b, _, none⟩) e2 hn).trans c0, (ho.cell (p := ⟨b, _, none⟩) e2 hn).trans c1⟩

/-- A detector, and beside it the list and what was found of it by other ways. -/
structure One (Det : World → (Nat → Prop) → Addr → List Ev → Prop) (B : Nat) (w : World) (F : Nat → Prop) (p : Addr) (ld : List Ev) (ai ag ap : Option Addr) (l : List Ev) (n : Nat) (f : Nat → Bool) (P : List (Nat × Nat)) : Prop where
  d : Det w F p ld
  new : ∀ k, F k → B ≤ k
  inn : EvS w ai l
  want : BoolS w ag n f
  prs : PairS w ap P
  iA : Aw F w ai l.length
  wA : Aw F w ag n
  pA : Aw F w ap P.length

section
variable {Det : World → (Nat → Prop) → Addr → List Ev → Prop} {B : Nat} {w w' : World} {F F' : Nat → Prop} {p : Addr} {ld : List Ev} {ai ag ap : Option Addr} {l : List Ev} {n : Nat} {f : Nat → Bool} {P : List (Nat × Nat)}
theorem One.below (hD : DetSaid Det) (h : One Det B w F p ld ai ag ap l n f P) (hb : Below w.heap.size w w') : One Det B w' F p ld ai ag ap l n f P :=
  ⟨hD.own h.d (fun k hk => hb.block k (hD.lt h.d k hk)) hb.size hb.os hb.tape hb.output, h.new, h.inn.below hb, h.want.below hb, h.prs.below hb, h.iA.later hb.size, h.wA.later hb.size, h.pA.later hb.size⟩
theorem One.see (h : One Det B w F p ld ai ag ap l n f P) {x : Ev} (hd : Det w' F' p (ld ++ [x])) (hF : ∀ k, k < w.heap.size → F' k → F k) (ho : Only F w w') (hB : B ≤ w.heap.size) : One Det B w' F' p (ld ++ [x]) ai ag ap l n f P :=
  ⟨hd, fun k hk => by
      by_cases e : k < w.heap.size
      · exact h.new k (hF k e hk)
      · omega, h.inn.aw ho h.iA, h.want.aw ho h.wA, h.prs.aw ho h.pA, h.iA.grow hF ho.size, h.wA.grow hF ho.size, h.pA.grow hF ho.size⟩
end

/-- What races say of the variable of their second event. -/
theorem race_var {L : Nat → Ev} {n k : Nat} (hk : k < (racesTo L n).length) : ((racesTo L n).getD k (0, 0)).2 < n ∧ (L ((racesTo L n).getD k (0, 0)).2).obj ∈ varsTo L (isFirst L) n ∧ firstOf L (L ((racesTo L n).getD k (0, 0)).2).obj n ≤ (((racesTo L n).getD k (0, 0)).2 : Int) := by
  have hm : (racesTo L n).getD k (0, 0) ∈ racesTo L n := by simp [hk]
  generalize (racesTo L n).getD k (0, 0) = q at hm ⊢
  obtain ⟨i, j⟩ := q
  obtain ⟨h1, h2, h3⟩ := (mem_racesTo L n i j).1 hm
  have hh : hits L (L j).obj j = true := by unfold hits; rw [(racy_iff L j).2 ⟨i, h2, h3⟩]; simp
  refine ⟨h1, ((varsTo_is L n).2 _).2 (fun hc => by rw [hc j h1] at hh; cases hh), ?_⟩
  simp only
  rcases firstOf_cases L (L j).obj n with ⟨g1, _⟩ | ⟨q, g1, g2, g3, g4⟩
  · rw [g1 j h1] at hh; cases hh
  · rw [g4]
    by_cases e : q ≤ j
    · omega
    · rw [g2 j (by omega)] at hh; cases hh
/-- A variable that had a race has a first one. -/
theorem var_first {L : Nat → Ev} {n i : Nat} (hi : i < (varsTo L (isFirst L) n).length) : 0 ≤ firstOf L ((varsTo L (isFirst L) n).getD i 0) n := by
  have hm : (varsTo L (isFirst L) n).getD i 0 ∈ varsTo L (isFirst L) n := by simp [hi]
  generalize (varsTo L (isFirst L) n).getD i 0 = x at hm ⊢
  have hc := ((varsTo_is L n).2 x).1 hm
  rcases firstOf_cases L x n with ⟨g1, _⟩ | ⟨q, _, _, _, g4⟩
  · exact absurd g1 hc
  · rw [g4]; omega
theorem range_any6 (f : Nat → Bool) (i : Nat) : ((List.range (i + 1)).any f) = ((List.range i).any f || f i) := by
  rw [List.range_succ, List.any_append]; simp
theorem take_any6 (vs : List Int) (i : Nat) (hi : i < vs.length) (x : Int) : ((vs.take (i + 1)).any fun y => y == x) = (((vs.take i).any fun y => y == x) || (vs.getD i 0 == x)) := by
  rw [List.take_succ_eq_append_getElem hi, List.any_append]
  have : vs.getD i 0 = vs[i] := by simp [hi]
  rw [this]; simp
theorem any_mem6 {vs : List Int} {x : Int} (h : x ∈ vs) : (vs.any fun y => y == x) = true := List.any_eq_true.2 ⟨x, h, by simp⟩
end Go.Proofs.YtbajfapfpcjenaaGreatDoor
namespace Go.Proofs.YtbajfapfpcjenaaGreatDoor
open Go.RowKit Go.Proofs.Ord

set_option maxRecDepth 100000 in
set_option maxHeartbeats 2000000 in
theorem fastAgrees_walk (hF : FastSaid) (hFi : FirstSaid) (hR : RacesSaid) (hRa : RacyNSaid) (a : Option Addr) (n cap : Nat) (l : List Ev) (w : World) (hn : l.length = n) (hs : EvS w a l) (hb : n ≤ 1048576) (hr : EvR l) (hTab : Hid (Tab w)) :
    Calls Tryz.prog 3 #[.slice a n cap] w fun e w' => e = .returned (.bool true) ∧ Below w.heap.size w w' := by
  have hlen : (racesTo (ev l) n).length ≤ 1099511627776 := Nat.le_trans (racesTo_length (ev l) n) (Nat.le_trans (Nat.mul_le_mul hb hb) (by omega))
  have hF' := o_hide hF
  have hr := o_hide hr
  obtain ⟨Det, hD⟩ := hF
  go_enter Tryz.func3, Tryz.ntmps3
  go_wp2_with fail
  refine (given_any _ _ _ _ _ hn hs (by omega)).mono ?_
  rintro e w1 ⟨v, rfl, hown, hb1⟩
  obtain ⟨a1, cap1, rfl, _, hc1, hm1, hs1⟩ := evS_of_owns hown
  clear hown
  go_wp2_with fail
  refine (hD.new _).mono ?_
  rintro e w2 ⟨p, F, rfl, hd2, hF2, hb2⟩
  have hs2 := hs1.below hb2
  have hA2 : Aw F w2 a1 l.length := fun b off e h0 => by
    obtain ⟨b', off', e', hlt, _⟩ := hs1 0 h0
    rw [e] at e'; cases e'
    exact ⟨by have := hb2.size; omega, fun hk => by have := hF2 b hk; omega⟩
  have hk2 : Below w.heap.size w w2 := hb1.trans (hb2.mono hb1.size)
  have hN2 : ∀ k, F k → w.heap.size ≤ k := fun k hk => by have := hF2 k hk; have := hb1.size; omega
  clear hs1 hb1 hb2 hF2
  go_wp2_with fail
  refine (hRa _ _ _ _ _ hn hs2 hc1 hm1 hb (fun i hi => (hr.out i hi).1)).mono ?_
  rintro e w3 ⟨a3, cap3, rfl, hq, hnew, hb3⟩
  have hs3 := hs2.below hb3
  have hd3 : Det w3 F p [] := hD.own hd2 (fun k hk => hb3.block k (hD.lt hd2 k hk)) hb3.size hb3.os hb3.tape hb3.output
  have hA3 := hA2.later hb3.size
  have hW3 : Aw F w3 a3 n := fun b off e h0 => by
    obtain ⟨b', off', e', hlt, _⟩ := hq 0 h0
    rw [e] at e'; cases e'
    exact ⟨hlt, fun hk => by have := hnew b off e; have := hD.lt hd2 b hk; omega⟩
  have hk3 : Below w.heap.size w w3 := hk2.trans (hb3.mono hk2.size)
  have ht3 : Tab w3 := tab_below hTab.out ⟨hk3.os, hk3.tape, hk3.output, hk3.size, hk3.block⟩
  clear hd2 hs2 hA2 hk2 hb3 hnew
  go_wp2_with fail
  refine (hR _ _ _ _ _ hn hs3 hc1 hm1 hb ht3).mono ?_
  rintro e w4 ⟨vp, rfl, hp, hb4⟩
  obtain ⟨ap, cp, rfl, _, _, hpn⟩ := id hp
  have hp4 := hp.pairS.2
  have hO : Hid (One Det w.heap.size w4 F p (l.take 0) a1 a3 ap l n (racy (ev l)) (racesTo (ev l) n)) := by
    refine ⟨hD.own hd3 (fun k hk => hb4.block k (hD.lt hd3 k hk)) hb4.size hb4.os hb4.tape hb4.output, hN2, hs3.below hb4, hq.below hb4, hp4, hA3.later hb4.size, hW3.later hb4.size, fun b off e h0 => ?_⟩
    obtain ⟨b', off', e', hB, hlt, _⟩ := hpn 0 h0
    rw [e] at e'; cases e'
    exact ⟨hlt, fun hk => by have := hD.lt hd3 b hk; omega⟩
  have hk4 : Hid (Below w.heap.size w w4) := hk3.trans (hb4.mono hk3.size)
  have HRV := o_hide (fun k (hk : k < (racesTo (ev l) n).length) => race_var hk)
  clear hp hpn hp4 hd3 hs3 hA3 hW3 hk3 hb4 hq ht3 hN2
  generalize racesTo (ev l) n = P at *
  go_wp2_with fail
  go_loopw [7, 8, 9, 10] (fun jv _ _ _ wr => ∃ (j : Nat) (F' : Nat → Prop), j ≤ n ∧ jv = .int .i64 j ∧ One Det w.heap.size wr F' p (l.take j) a1 a3 ap l n (racy (ev l)) P ∧ Below w.heap.size w wr) (fun jv _ _ _ _ => n - (intOf jv).toNat)
  case atStart => exact ⟨0, F, Nat.zero_le _, rfl, hO.out, hk4.out⟩
  case round =>
    clear hO hk4
    obtain ⟨j, F4, hj, rfl, hO, hbr⟩ := hrel
    by_cases h5 : j < n
    · obtain ⟨b1, off1, rfl, hlt1, _⟩ := hO.inn j (by omega)
      obtain ⟨t2, k2, o2, v2, HE2, d0, d1, d2, d3⟩ := hO.inn.at (Below.refl _ _) (i := j) (by omega)
      have hjn : (j : Int) < (n : Int) := by omega
      go_wp2_with fail
      refine (hD.see _ _ _ _ ⟨t2, k2, o2, v2⟩ hO.d (by simp; omega) (hr.out.at (by omega) HE2.out).1 (hr.out.at (by omega) HE2.out).2).mono ?_
      rintro e w5 ⟨F5, rfl, hd5, hF5, ho5⟩
      have hO5 := hO.see hd5 hF5 ho5 hbr.size
      have hb5 : Below w.heap.size w w5 := hbr.trans (ho5.below hbr.size hO.new)
      have hsee : isFirst (ev (l.take j ++ [⟨t2, k2, o2, v2⟩])) (l.take j).length = isFirst (ev l) j := by
        rw [← HE2.out, take_next (by omega), List.length_take, Nat.min_eq_left (by omega), isFirst_take (by omega)]
      rw [← HE2.out, take_next (by omega)] at hO5
      rw [hsee]
      have hobj : Hid ((ev l j).obj = o2) := by unfold Hid; rw [HE2.out]
      obtain ⟨b3, off3, rfl, _, q0⟩ := hO5.want j h5
      have HO5 := hide hO5
      have HB5 := hide hb5
      clear hsee HE2 d0 d1 d2 d3 hd5 hF5 ho5 hO hbr hO5 hb5
      go_wp2_with fail
      clear q0
      go_loopw [9, 10] (fun fv iv wi => ∃ i : Nat, i ≤ j ∧ iv = .int .i64 i ∧ fv = .bool (racy (ev l) j && !(List.range i).any (hits (ev l) o2)) ∧ Below w5.heap.size w5 wi) (fun _ iv _ => j - (intOf iv).toNat)
      case atStart => exact ⟨0, Nat.zero_le _, rfl, by simp, Below.refl _ _⟩
      case round =>
        obtain ⟨i, hi, rfl, rfl, hbi⟩ := hrel
        have hOi := HO5.out.below hD hbi
        by_cases h6 : i < j
        · obtain ⟨b', off', e', _, q0⟩ := hOi.want i (by omega)
          cases e'
          obtain ⟨t1, k1, o1, v1, HE1, _, _, c2, _⟩ := hOi.inn.at (Below.refl _ _) (i := i) (by omega)
          obtain ⟨_, _, o3, _, HE3, _, _, c3, _⟩ := hOi.inn.at (Below.refl _ _) (i := j) (by omega)
          obtain rfl : o3 = o2 := by rw [← hobj.out, HE3.out]
          have HH : Hid (hits (ev l) o3 i = (racy (ev l) i && o1 == o3)) := by unfold Hid hits; rw [HE1.out]
          have HA := o_hide (range_any6 (hits (ev l) o3) i)
          have hij : (i : Int) < (j : Int) := by omega
          have hinn : (i : Int) < (n : Int) := by omega
          have hjn' : (j : Int) < (n : Int) := by omega
          generalize hS : ((List.range i).any (hits (ev l) o3)) = s at HA ⊢
          clear hS HE1 HE3 hOi
          generalize racy (ev l) i = x at q0 HH
          cases x with
          | false =>
            go_wp2_with fail
            go_quiet (fail)
            go_wp2_with fail
            go_roundw
            case rel => exact ⟨i + 1, by omega, by go_num, by rw [HA.out, HH.out]; simp, o_drewN hbi _⟩
            case measure => simp [intOf]; omega
          | true =>
            cases ho : (o1 == o3) with
            | false =>
              go_wp2_with fail
              go_quiet (fail)
              go_wp2_with fail
              go_roundw
              case rel => exact ⟨i + 1, by omega, by go_num, by rw [HA.out, HH.out, ho]; simp, o_drewN hbi _⟩
              case measure => simp [intOf]; omega
            | true =>
              go_wp2_with fail
              go_quiet (fail)
              go_wp2_with fail
              go_roundw
              case rel => exact ⟨i + 1, by omega, by go_num, by rw [HA.out, HH.out, ho]; simp, o_drewN hbi _⟩
              case measure => simp [intOf]; omega
        · obtain rfl : i = j := by omega
          have hfi : (racy (ev l) i && !(List.range i).any (hits (ev l) o2)) = isFirst (ev l) i := by unfold isFirst; rw [hobj.out]
          rw [hfi]
          obtain ⟨_, _, o3, _, HE3, _, _, c3, _⟩ := hOi.inn.at (Below.refl _ _) (i := i) (by omega)
          obtain rfl : o3 = o2 := by rw [← hobj.out, HE3.out]
          have hfo : Hid (isFirst (ev l) i = true → firstOf (ev l) o3 n = i) := fun h => by have := firstOf_isFirst h5 h; rw [hobj.out] at this; exact this
          have hbi5 : Hid (Below w.heap.size w wr) := HB5.out.trans (hbi.mono HB5.out.size)
          have HOi := hide hOi
          have hjn' : (i : Int) < (n : Int) := by omega
          clear hfi HE3 hOi hbi
          generalize isFirst (ev l) i = x at hfo ⊢
          cases x with
          | false =>
            go_wp2_with fail
            go_roundw
            case rel => exact ⟨i + 1, F5, by omega, by go_num, HOi.out, hbi5.out⟩
            case measure => simp [intOf]; omega
          | true =>
            go_wp2_with fail
            refine (hFi _ _ _ _ _ _ hn HOi.out.inn hc1 hm1 hb hr.out).mono ?_
            rintro e w7 ⟨rfl, hb7⟩
            rw [hfo.out trivial]
            have HO7 := hide (HOi.out.below hD hb7)
            have hbi7 : Hid (Below w.heap.size w w7) := hbi5.out.trans (hb7.mono hbi5.out.size)
            clear hb7 c3
            go_wp2_with fail
            go_roundw
            case rel => exact ⟨i + 1, F5, by omega, by go_num, HO7.out, hbi7.out⟩
            case measure => simp [intOf]; omega
    · obtain rfl : j = n := by omega
      go_wp2_with fail
      refine (hD.racy _ _ _ _ hO.d (by simp; omega)).mono ?_
      rintro e w6 ⟨v, rfl, hv, hb6⟩
      rw [List.length_take, Nat.min_eq_left (by omega), varsTo_take] at hv
      obtain ⟨av, cv, rfl⟩ : ∃ ar cr, v = .slice ar (varsTo (ev l) (isFirst (ev l)) j).length cr := by obtain ⟨ar, cr, e, _⟩ := hv; exact ⟨ar, cr, e⟩
      have hlenV := varsTo_length (ev l) (isFirst (ev l)) j
      have HVF := o_hide (fun i (hi : i < (varsTo (ev l) (isFirst (ev l)) j).length) => var_first hi)
      generalize varsTo (ev l) (isFirst (ev l)) j = V at *
      have hV6 := hv.slV (by omega)
      have hs6 := hO.inn.below hb6
      have hp6 := hO.prs.below hb6
      have HK6 : Hid (Below w.heap.size w w6) := hbr.trans (hb6.mono hbr.size)
      clear hv hb6 hO hbr
      go_wp2_with fail
      go_loopw [12, 13, 14] (fun kv _ _ wr => ∃ k : Nat, k ≤ P.length ∧ kv = .int .i64 k ∧ Below w6.heap.size w6 wr) (fun kv _ _ _ => P.length - (intOf kv).toNat)
      case atStart => exact ⟨0, Nat.zero_le _, rfl, Below.refl _ _⟩
      case round =>
        obtain ⟨k, hk, rfl, hbr⟩ := hrel
        by_cases h6 : k < P.length
        · obtain ⟨hJn, hJm, hJf⟩ := HRV.out k h6
          obtain ⟨bp, op, rfl, hbp, _, p16⟩ := hp6 k h6
          generalize (P.getD k (0, 0)).2 = J at hJn hJm hJf p16
          obtain ⟨b1, off1, rfl, hlt1, _⟩ := hs6 J (by omega)
          obtain ⟨tJ, kJ, oJ, vJ, HEJ, _, _, e16, _⟩ := hs6.at (Below.refl _ _) (i := J) (by omega)
          have hJm' : Hid ((V.any fun y => y == oJ) = true) := any_mem6 (by rw [HEJ.out] at hJm; exact hJm)
          have hJf' : Hid (firstOf (ev l) oJ j ≤ (J : Int)) := by rw [HEJ.out] at hJf; exact hJf
          have hkP : (k : Int) < (P.length : Int) := by omega
          have hJj : (J : Int) < (j : Int) := by omega
          have P16 := hide p16
          have E16 := hide e16
          clear HEJ hJm hJf p16 e16
          go_wp2_with fail
          go_loopw [13, 14] (fun fv iv wi => ∃ i : Nat, i ≤ V.length ∧ iv = .int .i64 i ∧ fv = .bool ((V.take i).any fun y => y == oJ) ∧ Below w6.heap.size w6 wi) (fun _ iv _ => V.length - (intOf iv).toNat)
          case atStart => exact ⟨0, Nat.zero_le _, rfl, by simp, hbr⟩
          case round =>
            clear hbr
            obtain ⟨i, hi, rfl, rfl, hbr⟩ := hrel
            have p1 := (hbr.cell (p := ⟨bp, op + k * 2 + 1, none⟩) hbp).trans P16.out
            have e1 := (hbr.cell (p := ⟨b1, off1 + J * 4 + 2, none⟩) hlt1).trans E16.out
            by_cases h7 : i < V.length
            · have HT := o_hide (take_any6 V i h7 oJ)
              obtain ⟨bv, ov, rfl, _, y0⟩ := (hV6.below hbr).2.2.2.2.1 i h7
              have hiV : (i : Int) < (V.length : Int) := by omega
              generalize V.getD i 0 = y at y0 HT
              generalize hS : ((V.take i).any fun y => y == oJ) = s at HT ⊢
              clear hS
              cases s with
              | true =>
                go_wp2_with fail
                go_quiet (fail)
                go_wp2_with fail
                go_roundw
                case rel => exact ⟨i + 1, by omega, by go_num, by rw [HT.out]; rfl, o_drewN hbr _⟩
                case measure => simp [intOf]; omega
              | false =>
                cases hyo : (y == oJ)
                all_goals
                  go_wp2_with fail
                  go_quiet (fail)
                  go_wp2_with fail
                  go_roundw
                  case rel => exact ⟨i + 1, by omega, by go_num, by rw [HT.out, hyo]; rfl, o_drewN hbr _⟩
                  case measure => simp [intOf]; omega
            · have e9 : V.take i = V := List.take_of_length_le (by omega)
              rw [e9, hJm'.out]
              have hfo : Hid (∀ w7, Below w6.heap.size w6 w7 → Calls Tryz.prog 9 #[.slice (some ⟨b1, off1, none⟩) j cap1, .int .i64 oJ] w7 fun e w' => e = .returned (.int .i64 (firstOf (ev l) oJ j)) ∧ Below w7.heap.size w7 w') := fun w7 hb7 => hFi _ _ _ _ _ _ hn (hs6.below hb7) hc1 hm1 hb hr.out
              generalize firstOf (ev l) oJ j = fo at hfo hJf'
              have hgt : decide ((J : Int) < fo) = false := decide_eq_false (by have := hJf'.out; omega)
              have hgt' : ¬ ((J : Int) < fo) := by have := hJf'.out; omega
              clear e9
              go_upto_region 32 with fail
              go_region_held3 (fun w' => w'.cell? ⟨bp, op + k * 2 + 1, none⟩ = some (.int .i64 (J : Int)) ∧ w'.cell? ⟨b1, off1 + J * 4 + 2, none⟩ = some (.int .i64 oJ)) (first | exact ⟨c5, d5⟩ | go_keep) ((go_at_call 9; refine (hfo.out _ (hbr.trans (Below.refl _ _).drew)).mono ?_; rintro e w8 ⟨rfl, hb8⟩; have hB8 := (hbr.trans (Below.refl _ _).drew).trans (hb8.mono hbr.size); have c5 := (hB8.cell (p := ⟨bp, op + k * 2 + 1, none⟩) hbp).trans P16.out; have d5 := (hB8.cell (p := ⟨b1, off1 + J * 4 + 2, none⟩) hlt1).trans E16.out; clear hb8))
              all_goals
                go_wp2_with fail
                go_roundw
                case rel => exact ⟨k + 1, by omega, by go_num, hB8⟩
                case measure => simp [intOf]; omega
        · clear hp6
          have HBr := hide hbr
          clear hbr
          go_wp2_with fail
          go_loopw [15] (fun iv wr => ∃ i : Nat, i ≤ V.length ∧ iv = .int .i64 i ∧ Below w6.heap.size w6 wr) (fun iv _ => V.length - (intOf iv).toNat)
          case atStart => exact ⟨0, Nat.zero_le _, rfl, HBr.out⟩
          case round =>
            clear HBr
            obtain ⟨i, hi, rfl, hbr⟩ := hrel
            by_cases h7 : i < V.length
            · obtain ⟨bv, ov, rfl, _, y0⟩ := (hV6.below hbr).2.2.2.2.1 i h7
              have hiV : (i : Int) < (V.length : Int) := by omega
              have hf0 := HVF.out i h7
              have hy : Hid (∀ w7, Below w6.heap.size w6 w7 → Calls Tryz.prog 9 #[.slice a1 j cap1, .int .i64 (V.getD i 0)] w7 fun e w' => e = .returned (.int .i64 (firstOf (ev l) (V.getD i 0) j)) ∧ Below w7.heap.size w7 w') := fun w7 hb7 => hFi _ _ _ _ _ _ hn (hs6.below hb7) hc1 hm1 hb hr.out
              generalize firstOf (ev l) (V.getD i 0) j = fo at hf0 hy
              generalize V.getD i 0 = y at y0 hy
              have hlt0 : decide (fo < 0) = false := decide_eq_false (by omega)
              clear hf0
              go_wp2_with fail
              refine (hy.out _ hbr).mono ?_
              rintro e w8 ⟨rfl, hb8⟩
              have hB8 := hbr.trans (hb8.mono hbr.size)
              clear hb8 hy y0
              go_wp2_with fail
              go_roundw
              case rel => exact ⟨i + 1, by omega, by go_num, hB8⟩
              case measure => simp [intOf]; omega
            · have HK8 : Hid (Below w.heap.size w wr) := HK6.out.trans (hbr.mono HK6.out.size)
              clear hbr
              go_wp2_with fail
              refine (alive6_true hF'.out _).mono ?_
              rintro e w9 ⟨rfl, hb9⟩
              go_wp2_with fail
              go_ret
              exact ⟨rfl, HK8.out.trans (hb9.mono HK8.out.size)⟩
end Go.Proofs.YtbajfapfpcjenaaGreatDoor
/-
  What comes behind changes nothing of what is kept; and what happens at one event more.
-/
namespace Go.Proofs.YtbajfapfpcjenaaGreatDoor
open Go.Proofs.Ord

theorem num_same {L L' : Nat → Ev} {c c' : Nat → Bool} {A B : Nat → Prop} {u : Int} {n : Nat} (hL : ∀ i, i < n → L i = L' i) (hc : ∀ i, i < n → c i = c' i) (hA : ∀ i, i < n → (A i ↔ B i)) : num L c A u n = num L' c' B u n := by
  induction n with
  | zero => rfl
  | succ n ih =>
    rw [num, num, ih (fun i hi => hL i (by omega)) (fun i hi => hc i (by omega)) (fun i hi => hA i (by omega)), hL n (by omega), hc n (by omega)]
    congr 1
    have h := hA n (by omega)
    by_cases h' : c' n = true ∧ (L' n).thread = u ∧ A n
    · rw [if_pos h', if_pos ⟨h'.1, h'.2.1, h.1 h'.2.2⟩]
    · rw [if_neg h', if_neg (fun g => h' ⟨g.1, g.2.1, h.2 g.2.2⟩)]
theorem race_same {L L' : Nat → Ev} {i j : Nat} (hij : i < j) (h : ∀ q, q ≤ j → L q = L' q) : race L i j = race L' i j := by
  unfold race
  rw [h i (by omega), h j (by omega), bef_congr j h]
theorem racy_same {L L' : Nat → Ev} {j : Nat} (h : ∀ q, q ≤ j → L q = L' q) : racy L j = racy L' j := by
  rw [Bool.eq_iff_iff, racy_iff, racy_iff]
  constructor
  · rintro ⟨i, h1, h2⟩; exact ⟨i, h1, by rw [← race_same h1 h]; exact h2⟩
  · rintro ⟨i, h1, h2⟩; exact ⟨i, h1, by rw [race_same h1 h]; exact h2⟩
theorem hits_same {L L' : Nat → Ev} {x : Int} {j : Nat} (h : ∀ q, q ≤ j → L q = L' q) : hits L x j = hits L' x j := by
  unfold hits
  rw [racy_same h, h j (Nat.le_refl _)]
theorem clean_same {L L' : Nat → Ev} {x : Int} {k : Nat} (h : ∀ q, q < k → L q = L' q) (hc : Clean L x k) : Clean L' x k := fun q hq => by
  rw [← hits_same (L := L) (fun i hi => h i (by omega))]; exact hc q hq
theorem cF_same {L L' : Nat → Ev} {i : Nat} (h : ∀ q, q ≤ i → L q = L' q) : cF L i = cF L' i := by
  rw [Bool.eq_iff_iff, cF_iff, cF_iff, h i (Nat.le_refl _)]
  exact ⟨fun g => ⟨g.1, clean_same (fun q hq => h q (by omega)) g.2⟩, fun g => ⟨g.1, clean_same (fun q hq => (h q (by omega)).symm) g.2⟩⟩
theorem stampF_same {L L' : Nat → Ev} {i : Nat} (h : ∀ q, q ≤ i → L q = L' q) (u : Int) : stampN L (cF L) i u = stampN L' (cF L') i u := by
  unfold stampN
  congr 1
  refine num_same (fun q hq => h q (by omega)) (fun q hq => cF_same fun r hr => h r (by omega)) fun q hq => ?_
  unfold past
  rw [bef_congr i h]
theorem goneF_same {L L' : Nat → Ev} {k : Nat} (h : ∀ q, q < k → L q = L' q) (d : Int × Int) (u : Int) : goneN L (cF L) k d u = goneN L' (cF L') k d u := by
  unfold goneN
  congr 1
  refine num_same h (fun q hq => cF_same fun r hr => h r (by omega)) fun q hq => ?_
  unfold gone
  constructor
  · rintro ⟨r, h1, h2, h3⟩
    exact ⟨r, h1, by rwa [bef_congr (l := L) (m := L') r (fun i hi => h i (by omega))] at h2, by rwa [h r h1] at h3⟩
  · rintro ⟨r, h1, h2, h3⟩
    exact ⟨r, h1, by rwa [bef_congr (l := L) (m := L') r (fun i hi => h i (by omega))], by rwa [h r h1]⟩
theorem FlowN.same {L L' : Nat → Ev} {k : Nat} {R : Int × Int → Int → Int} (hF : FlowN L (cF L) k R) (h : ∀ q, q < k → L q = L' q) : FlowN L' (cF L') k R :=
  ⟨fun d hd u => by rw [← goneF_same h]; exact hF.door d hd u, fun t u => by rw [← goneF_same h, ← goneF_same h]; exact hF.both t u, hF.nonneg⟩
theorem isW_same {L L' : Nat → Ev} {x : Int} {i : Nat} (h : L i = L' i) : isW L x i ↔ isW L' x i := by unfold isW; rw [h]
theorem isR_same {L L' : Nat → Ev} {x : Int} {i : Nat} (h : L i = L' i) : isR L x i ↔ isR L' x i := by unfold isR; rw [h]
theorem RB_same {L L' : Nat → Ev} {x : Int} {k : Nat} (h : ∀ q, q < k → L q = L' q) {i : Nat} (g : RB L k x i) : RB L' k x i :=
  ⟨g.1, (isR_same (h i g.1)).1 g.2.1, fun i' hi' hw => g.2.2 i' hi' ((isW_same (h i' hi')).2 hw)⟩
theorem VarS.same {L L' : Nat → Ev} {k : Nat} {x wt wn rt rn : Int} {rs : Int → Option Int} (g : VarS L k x wt wn rt rn rs) (h : ∀ q, q < k → L q = L' q) : VarS L' k x wt wn rt rn rs := by
  have h' : ∀ q, q < k → L' q = L q := fun q hq => (h q hq).symm
  have hs : ∀ i, i < k → ∀ u, stampN L (cF L) i u = stampN L' (cF L') i u := fun i hi u => stampF_same (fun q hq => h q (by omega)) u
  refine ⟨?_, ?_, fun t n hn => ?_, fun i hi => ?_⟩
  · rcases g.w with ⟨g1, g2⟩ | ⟨i, g1, g2, g3, g4, g5⟩
    · exact .inl ⟨g1, fun i hi hw => g2 i hi ((isW_same (h i hi)).2 hw)⟩
    · exact .inr ⟨i, g1, (isW_same (h i g1)).1 g2, fun i' hi' hw => g3 i' hi' ((isW_same (h i' hi')).2 hw), by rw [← h i g1]; exact g4, by rw [← hs i g1]; exact g5⟩
  · rcases g.r with ⟨g1, g2, g3⟩ | ⟨i, g1, g2, g4, g5⟩
    · exact .inl ⟨g1, g2, fun i hi => g3 i (RB_same h' hi)⟩
    · exact .inr ⟨i, RB_same h g1, fun i' hi' => g2 i' (RB_same h' hi'), by rw [← h i g1.1]; exact g4, by rw [← hs i g1.1]; exact g5⟩
  · obtain ⟨i, g1, g2, g3⟩ := g.rsOk t n hn
    exact ⟨i, RB_same h g1, by rw [← h i g1.1]; exact g2, by rw [← hs i g1.1]; exact g3⟩
  · obtain ⟨q, g1, g2, g3⟩ := g.cover i (RB_same h' hi)
    refine ⟨q, RB_same h g1, ?_, ?_⟩
    · rwa [bef_congr (l := L) (m := L') q (fun r hr => h r (by have := g1.1; omega))] at g2
    · rw [← h q g1.1, ← hs q g1.1, ← hs q g1.1]; exact g3

/-- Behind one event more a variable has no race, just if it had none, and this is none of it. -/
theorem clean_succ {L : Nat → Ev} {x : Int} {k : Nat} : Clean L x (k + 1) ↔ Clean L x k ∧ hits L x k = false := by
  unfold Clean
  constructor
  · exact fun h => ⟨fun q hq => h q (by omega), h k (by omega)⟩
  · rintro ⟨h1, h2⟩ q hq
    by_cases e : q = k
    · subst e; exact h2
    · exact h1 q (by omega)
theorem hits_no {L : Nat → Ev} {x : Int} {k : Nat} (h : (L k).obj ≠ x ∨ access (L k) = false) : hits L x k = false := by
  unfold hits
  rcases h with h | h
  · simp [h]
  · cases hr : racy L k with
    | false => rfl
    | true => rw [racy_access hr] at h; cases h
theorem not_acc {L : Nat → Ev} {x : Int} {k : Nat} (h : (L k).obj ≠ x ∨ access (L k) = false) : ¬ isW L x k ∧ ¬ isR L x k := by
  rcases h with h | h
  · exact ⟨fun g => h g.2, fun g => h g.2⟩
  · exact ⟨(fun g => by rw [isW_access g] at h; cases h), (fun g => by rw [isR_access g] at h; cases h)⟩
/-- What take asks for tells just whether the access races. -/
theorem take_tells {L : Nat → Ev} {k : Nat} {x wt wn rt rn : Int} {rs : Int → Option Int} (h : VarS L k x wt wn rt rn rs) (hcl : Clean L x k) (hx : (L k).obj = x) (ha : access (L k) = true) :
    (wn ≤ stampN L (cF L) k wt ∧ ((L k).kind = 1 ∨ (rn ≤ stampN L (cF L) k rt ∧ ∀ t' n', rs t' = some n' → n' ≤ stampN L (cF L) k t'))) ↔ racy L k = false := by
  have hk : (L k).kind = 1 ∨ (L k).kind = 2 := by unfold access at ha; simpa using ha
  rw [← Bool.not_eq_true, racy_next hx, h.writes hcl]
  constructor
  · rintro ⟨h1, h2⟩ (⟨_, h3⟩ | ⟨h3, h4⟩)
    · exact h3 h1
    · rcases h2 with h2 | h2
      · omega
      · exact h4 ((h.reads hcl h1).1 h2)
  · intro hn
    have h1 : ∀ i, i < k → isW L x i → bef L i k = true := Classical.byContradiction fun g => hn (.inl ⟨ha, g⟩)
    refine ⟨h1, ?_⟩
    rcases hk with hk | hk
    · exact .inl hk
    · exact .inr ((h.reads hcl h1).2 (Classical.byContradiction fun g => hn (.inr ⟨hk, g⟩)))
end Go.Proofs.YtbajfapfpcjenaaGreatDoor
