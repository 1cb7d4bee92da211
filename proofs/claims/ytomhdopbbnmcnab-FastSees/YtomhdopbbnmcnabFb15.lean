import Derived.Test.YtomhdopbbnmcnabFb14
import Derived.Test.YtomhdopbbnmcnabFb13
import Derived.Maps.AppendAt
import Derived.Deep.RegionWith
import Derived.Deep.AppendLies
import Derived.Test.YtomhdopbbnmcnabFb2
import Derived.Test.YtomhdopbbnmcnabFb5
import Derived.Test.YtomhdopbbnmcnabFb3
namespace Go.Proofs.Ytomhdopbbnmcnab
open Go.RowKit Go.Proofs.Ord
attribute [local go_sem ↓] Go.wp_at_zero Go.wp_at_succ

theorem Try.infobs : (Try.prog.info? 40).map (fun i => (i.zero, i.size, i.bytes)) = some (some (.slice none 0 0), 1, 24) := by kernel_rfl
theorem Try.infop : (Try.prog.info? 71).map (fun i => (i.zero, i.size, i.bytes)) = some (some (.agg #[.int .i64 0, .int .i64 0]), 2, 16) := by kernel_rfl

/-- Row q tells which events event q is before. -/
def Befs (w : World) (B n : Nat) (L : Nat → Ev) (v : Value) (k : Nat) (g : Nat → Nat) : Prop :=
  w.ownsRow B 40 1 v k ((List.range k).map fun q => Value.slice (some ⟨g q, 0, none⟩) n n) ∧ ∀ q, q < k → Tells w B (g q) n (bef L q) ∧ v.ownBlock ≠ some (g q)

theorem Befs.start (w : World) (B n : Nat) (L : Nat → Ev) : Befs w B n L (.slice none 0 0) 0 (fun _ => 0) :=
  ⟨World.ownsRow_nil _ _ _ _, fun q hq => absurd hq (by omega)⟩

theorem Befs.step {B n k : Nat} {L : Nat → Ev} {wr w2 w3 : World} {v v' : Value} {g : Nat → Nat} {o : Obj} (h : Befs wr B n L v k g) (hb : Below wr.heap.size wr w2) (ht : Tells w2 wr.heap.size wr.heap.size n (bef L k)) (hB : B ≤ wr.heap.size)
    (hown : w3.ownsRow B 40 1 v' (k + 1) (((List.range k).map fun q => Value.slice (some ⟨g q, 0, none⟩) n n) ++ [.slice (some ⟨wr.heap.size, 0, none⟩) n n])) (hg : (w2.alloc o).grownBy w3 v.ownBlock) (hat : v'.ownBlock = v.ownBlock ∨ v'.ownBlock = some (w2.alloc o).heap.size) :
    Befs w3 B n L v' (k + 1) (fun q => if q = k then wr.heap.size else g q) := by
  have hv : ∀ x, v.ownBlock = some x → x < wr.heap.size := fun x e => (h.1.lt x e).2
  have hlt2 : wr.heap.size < w2.heap.size := (World.ownsRow.lt ht _ rfl).2
  have hsz2 : (w2.alloc o).heap.size = w2.heap.size + 1 := by simp
  have hgq : ∀ q, q < k → g q < wr.heap.size := fun q hq => (World.ownsRow.lt (h.2 q hq).1 _ rfl).2
  refine ⟨?_, fun q hq => ?_⟩
  · have e : ((List.range (k + 1)).map fun q => Value.slice (some ⟨if q = k then wr.heap.size else g q, 0, none⟩) n n) = ((List.range k).map fun q => Value.slice (some ⟨g q, 0, none⟩) n n) ++ [.slice (some ⟨wr.heap.size, 0, none⟩) n n] := by
      rw [List.range_succ, List.map_append]
      congr 1
      · apply List.map_congr_left
        intro q hq
        rw [List.mem_range] at hq
        rw [if_neg (by omega)]
      · simp
    rw [e]; exact hown
  · by_cases e : q = k
    · subst e
      simp only [if_true]
      refine ⟨?_, ?_⟩
      · have h1 := ownsRow_base ht hB
        have h2 := h1.alloc o
        exact h2.kept hg (.inr (fun e => by have := hv wr.heap.size (by rw [← e]; rfl); omega))
      · rcases hat with e | e
        · rw [e]; intro e2; have := hv _ e2; omega
        · rw [e]; intro e2; have := Option.some.inj e2; omega
    · simp only [e, if_false]
      have hq' : q < k := by omega
      obtain ⟨h1, h2⟩ := h.2 q hq'
      refine ⟨?_, ?_⟩
      · exact World.ownsRow.kept (World.ownsRow.alloc (Tells.below h1 hb (hgq q hq')) o) hg (.inr (fun e => h2 e.symm))
      · rcases hat with e | e
        · rw [e]; exact h2
        · rw [e]; intro e2; have := Option.some.inj e2; have := hgq q hq'; omega

theorem Befs.below {B B' n k : Nat} {L : Nat → Ev} {w w' : World} {v : Value} {g : Nat → Nat} (h : Befs w B n L v k g) (hb : Below B' w w') (hB : w.heap.size ≤ B') : Befs w' B n L v k g :=
  ⟨ownsRow_below h.1 hb (fun x e => Nat.lt_of_lt_of_le (h.1.lt x e).2 hB), fun q hq => ⟨Tells.below (h.2 q hq).1 hb (Nat.lt_of_lt_of_le (World.ownsRow.lt (h.2 q hq).1 _ rfl).2 hB), (h.2 q hq).2⟩⟩

theorem Befs.cell {B n k ga ca : Nat} {L : Nat → Ev} {w : World} {g : Nat → Nat} (h : Befs w B n L (.slice (some ⟨ga, 0, none⟩) k ca) k g) {q : Nat} (hq : q < k) : w.cell? ⟨ga, q, none⟩ = some (.slice (some ⟨g q, 0, none⟩) n n) := by
  rw [World.ownsRow.cellAt h.1 q (by omega)]
  simp [hq]

theorem rConflict_as {t k o v t' k' o' v' : Int} {c : Bool} (h : conflict ⟨t, k, o, v⟩ ⟨t', k', o', v'⟩ = c) (w : World) :
    Calls Try.prog 74 #[.agg #[.int .i64 t, .int .i64 k, .int .i64 o, .int .i64 v], .agg #[.int .i64 t', .int .i64 k', .int .i64 o', .int .i64 v']] w fun e w' =>
      e = .returned (.bool c) ∧ Below w.heap.size w w' := by
  rw [← h]; exact rConflict_any _ _ _ _ _ _ _ _ _

set_option maxRecDepth 100000 in
set_option maxHeartbeats 2000000 in
theorem rRaces_any (a : Option Addr) (n cap : Nat) (l : List Ev) (w : World) (hn : l.length = n) (hs : EvS w a l) (hb : n ≤ 1048576) :
    Calls Try.prog 55 #[.slice a n cap] w fun e w' => ∃ v, e = .returned v ∧ w'.ownsRow w.heap.size 71 2 v (racesTo (Ord.ev l) n).length (pairCells (racesTo (Ord.ev l) n)) ∧ Below w.heap.size w w' := by
  obtain ⟨i0, hi0, hz0, hz1, hz2⟩ := info_parts Try.infobs
  obtain ⟨i1, hi1, hy0, hy1, hy2⟩ := info_parts Try.infop
  go_enter Try.func55, Try.ntmps55
  go_wp2
  go_loopw [3, 4, 5] (fun v i _ wr => ∃ (k : Nat) (g : Nat → Nat), k ≤ n ∧ i = .int .i64 k ∧ Befs wr w.heap.size n (Ord.ev l) v k g ∧ Below w.heap.size w wr) (fun _ i _ _ => n - (intOf i).toNat)
  case atStart => exact ⟨0, _, Nat.zero_le _, rfl, Befs.start _ _ _ _, Below.refl _ _⟩
  case round =>
    obtain ⟨k, g, hk, rfl, hf, hbel⟩ := hrel
    have hsz := hbel.size
    by_cases h5 : k < n
    · have hs2 := hs.below hbel
      have hown := hf.1
      go_wp2_with (first | (go_at_call 50; refine (rAfter_any _ _ _ _ _ _ hn hs2 (by omega) h5).mono ?_; rintro e w2 ⟨rfl, ht2, hbel2⟩; have hown2 := ownsRow_below hown hbel2 (fun q e => (hown.lt q e).2); have hsz2 := hbel2.size) | (at_builtin; refine wpList_append_own_at _ rfl _ _ 107 rfl w.heap.size 40 i0 (.slice none 0 0) 1 24 Try.underlying107 hi0 hz0 hz1 hz2 rfl (by decide) _ _ _ rfl (hown2.alloc _) ⟨_, 0, none⟩ 1 1 [_] rfl rfl (cell_one_new _ _ _) (by simp [Value.oneCell']) (by unfold maxLen; omega) (by omega) (by simp; omega) ?_; intro v' w3 hown' hgrow _ hat))
      have hf2 := hf.step hbel2 ht2 hsz hown' hgrow hat
      have hbel3 : Below w.heap.size w w3 := ((hbel.trans (hbel2.mono hsz)).alloc (by omega) _).grown hgrow (by simp; omega) (fun q e => (hown.lt q e).1)
      go_roundw
      case rel => exact ⟨k + 1, _, by omega, by go_num, hf2, hbel3⟩
      case measure => simp [intOf]; omega
    · obtain rfl : k = n := by omega
      rename World => w4
      obtain ⟨B2, hB2⟩ : ∃ B2, Hid (B2 = w4.heap.size) := ⟨_, rfl⟩
      have hsz2 : w.heap.size ≤ B2 := by rw [hB2.out]; exact hsz
      go_wp2
      go_loopw [6, 7, 8] (fun v jv _ w5 => ∃ j : Nat, j ≤ k ∧ jv = .int .i64 j ∧ w5.ownsRow B2 71 2 v (racesTo (Ord.ev l) j).length (pairCells (racesTo (Ord.ev l) j)) ∧ Below B2 w4 w5) (fun _ jv _ _ => k - (intOf jv).toNat)
      case atStart => exact ⟨0, Nat.zero_le _, rfl, World.ownsRow_nil _ _ _ _, Below.refl _ _⟩
      case round =>
        obtain ⟨j, hj, rfl, hp, hbj⟩ := hrel
        by_cases h6 : j < k
        · obtain ⟨ga, ca, rfl, _, hga⟩ := hf.1.form (by omega)
          obtain ⟨b, off, rfl, hlt, _⟩ := hs j (by omega)
          have hl1 := racesTo_length (Ord.ev l) j
          have hl2 : (racesTo (Ord.ev l) j).length ≤ 1099511627776 := Nat.le_trans hl1 (Nat.le_trans (Nat.mul_le_mul (by omega) (by omega) : j * j ≤ 1048576 * 1048576) (by omega))
          clear hl1
          go_wp2
          go_loopw [6, 8] (fun v iv w5 => ∃ q : Nat, q ≤ j ∧ iv = .int .i64 q ∧ w5.ownsRow B2 71 2 v ((racesTo (Ord.ev l) j).length + (racesOf (Ord.ev l) j q).length) (pairCells (racesTo (Ord.ev l) j ++ racesOf (Ord.ev l) j q)) ∧ Below B2 w4 w5) (fun _ iv _ => j - (intOf iv).toNat)
          case atStart => exact ⟨0, Nat.zero_le _, rfl, by simpa [racesOf] using hp, hbj⟩
          case round =>
            clear hp hbj
            obtain ⟨q, hq, rfl, hp, hbj⟩ := hrel
            have hszj := hbj.size
            have hszB : B2 ≤ wr.heap.size := by rw [hB2.out]; exact hszj
            by_cases h7 : q < j
            · have hbw : Below w.heap.size w wr := hbel.trans (hbj.mono hsz2)
              have hfj := hf.below hbj (by rw [hB2.out]; exact Nat.le_refl _)
              have hall := hfj.cell (q := q) (by omega)
              have hbit := (hfj.2 q (by omega)).1.cell (j := j) h6
              obtain ⟨t1, k1, o1, v1, HE1, c0, c1, c2, c3⟩ := hs.at hbw (i := q) (by omega)
              obtain ⟨t2, k2, o2, v2, HE2, d0, d1, d2, d3⟩ := hs.at hbw (i := j) (by omega)
              have HR := o_hide (racesOf_succ (Ord.ev l) j q)
              have HC : Hid (race (Ord.ev l) q j = (conflict ⟨t1, k1, o1, v1⟩ ⟨t2, k2, o2, v2⟩ && !bef (Ord.ev l) q j)) := by unfold Hid race; rw [HE1.out, HE2.out]
              have hqk : (q : Int) < (k : Int) := by omega
              have hjk : (j : Int) < (k : Int) := by omega
              have hgq : g q < wr.heap.size := (World.ownsRow.lt (hfj.2 q (by omega)).1 _ rfl).2
              have hgalt : ga < wr.heap.size := (hfj.1.lt _ rfl).2
              have hblt : b < wr.heap.size := by omega
              clear hfj hbw HE1 HE2
              cases hc : conflict ⟨t1, k1, o1, v1⟩ ⟨t2, k2, o2, v2⟩ with
              | false =>
                rw [hc, Bool.false_and] at HC
                have hp2 : Hid (∀ w2 : World, Below wr.heap.size wr w2 → w2.ownsRow B2 71 2 u6 ((racesTo (Ord.ev l) j).length + (racesOf (Ord.ev l) j (q + 1)).length) (pairCells (racesTo (Ord.ev l) j ++ racesOf (Ord.ev l) j (q + 1)))) := by
                  intro w2 hb2
                  rw [HR.out, HC.out]
                  simp only [Bool.false_eq_true, if_false, List.append_nil]
                  exact ownsRow_below hp hb2 (fun x e => (hp.lt x e).2)
                have HCF := o_hide hc
                clear HC HR hp hbit hall hc
                go_wp2_with fail
                first | (go_region_with (go_at_call 74; refine (rConflict_as HCF.out _).mono ?_; rintro e w2 ⟨rfl, hbel2⟩)) | fail
                all_goals
                  have hb3 : Below wr.heap.size wr w2 := Below.trans (Below.refl _ wr).drew hbel2
                  have hp3 := hp2.out _ hb3
                  have hb4 : Below B2 w4 w2 := hbj.trans (hb3.mono hszB)
                  clear hbel2 hb3 hbj hp2 c0 c1 c2 c3 d0 d1 d2 d3
                  go_wp2
                  go_roundw
                  case rel => exact ⟨q + 1, by omega, by go_num, hp3, hb4⟩
                  case measure => simp [intOf]; omega
              | true =>
                rw [hc, Bool.true_and] at HC
                cases hbt : bef (Ord.ev l) q j with
                | true =>
                  rw [hbt] at hbit HC
                  have hp2 : Hid (∀ w2 : World, Below wr.heap.size wr w2 → w2.ownsRow B2 71 2 u6 ((racesTo (Ord.ev l) j).length + (racesOf (Ord.ev l) j (q + 1)).length) (pairCells (racesTo (Ord.ev l) j ++ racesOf (Ord.ev l) j (q + 1)))) := by
                    intro w2 hb2
                    rw [HR.out, HC.out]
                    simp only [Bool.not_true, Bool.false_eq_true, if_false, List.append_nil]
                    exact ownsRow_below hp hb2 (fun x e => (hp.lt x e).2)
                  have HCF := o_hide hc
                  clear HC HR hp hc hbt
                  go_wp2_with fail
                  go_region_held3 (fun w' => w'.cell? ⟨ga, q, none⟩ = some (.slice (some ⟨g q, 0, none⟩) k k) ∧ w'.cell? ⟨g q, j, none⟩ = some (.bool true) ∧ w'.cell? ⟨b, off + q * 4, none⟩ = some (.int .i64 t1) ∧ w'.cell? ⟨b, off + q * 4 + 1, none⟩ = some (.int .i64 k1) ∧ w'.cell? ⟨b, off + q * 4 + 2, none⟩ = some (.int .i64 o1) ∧ w'.cell? ⟨b, off + q * 4 + 3, none⟩ = some (.int .i64 v1) ∧ w'.cell? ⟨b, off + j * 4, none⟩ = some (.int .i64 t2) ∧ w'.cell? ⟨b, off + j * 4 + 1, none⟩ = some (.int .i64 k2) ∧ w'.cell? ⟨b, off + j * 4 + 2, none⟩ = some (.int .i64 o2) ∧ w'.cell? ⟨b, off + j * 4 + 3, none⟩ = some (.int .i64 v2)) (go_keep) ((go_at_call 74; refine (rConflict_as HCF.out _).mono ?_; rintro e w2 ⟨rfl, hbel2⟩; obtain ⟨hcc, hff⟩ := bcell hbel2; have hcb := fun o => hcc b o (by simp; omega); have hca := fun o => hcc ga o (by simp; omega); have hcg := fun o => hcc (g q) o (by simp; omega); clear hcc hff))
                  have hb3 : Below wr.heap.size wr w2 := Below.trans (Below.refl _ wr).drew hbel2
                  have hp3 := hp2.out _ hb3
                  have hb4 : Below B2 w4 w2 := hbj.trans (hb3.mono hszB)
                  clear hbel2 hb3 hbj hp2 c0 c1 c2 c3 d0 d1 d2 d3 hcb hca hcg hall hbit
                  go_wp2
                  go_roundw
                  case rel => exact ⟨q + 1, by omega, by go_num, hp3, hb4⟩
                  case measure => simp [intOf]; omega
                | false =>
                  rw [hbt] at hbit HC
                  have hol := racesOf_length (Ord.ev l) j q
                  have hp2 : Hid (∀ (v' : Value) (w3 : World), w3.ownsRow B2 71 2 v' ((racesTo (Ord.ev l) j).length + (racesOf (Ord.ev l) j q).length + 1) (pairCells (racesTo (Ord.ev l) j ++ racesOf (Ord.ev l) j q) ++ [.int .i64 (q : Int), .int .i64 (j : Int)]) → w3.ownsRow B2 71 2 v' ((racesTo (Ord.ev l) j).length + (racesOf (Ord.ev l) j (q + 1)).length) (pairCells (racesTo (Ord.ev l) j ++ racesOf (Ord.ev l) j (q + 1)))) := by
                    intro v' w3 h
                    rw [HR.out, HC.out]
                    simp only [Bool.not_false, if_true]
                    rw [← List.append_assoc, pairCells_snoc, List.length_append]
                    exact h
                  have HCF := o_hide hc
                  clear HC HR hc hbt
                  go_wp2_with fail
                  go_region_held3 (fun w' => w'.cell? ⟨ga, q, none⟩ = some (.slice (some ⟨g q, 0, none⟩) k k) ∧ w'.cell? ⟨g q, j, none⟩ = some (.bool false) ∧ w'.cell? ⟨b, off + q * 4, none⟩ = some (.int .i64 t1) ∧ w'.cell? ⟨b, off + q * 4 + 1, none⟩ = some (.int .i64 k1) ∧ w'.cell? ⟨b, off + q * 4 + 2, none⟩ = some (.int .i64 o1) ∧ w'.cell? ⟨b, off + q * 4 + 3, none⟩ = some (.int .i64 v1) ∧ w'.cell? ⟨b, off + j * 4, none⟩ = some (.int .i64 t2) ∧ w'.cell? ⟨b, off + j * 4 + 1, none⟩ = some (.int .i64 k2) ∧ w'.cell? ⟨b, off + j * 4 + 2, none⟩ = some (.int .i64 o2) ∧ w'.cell? ⟨b, off + j * 4 + 3, none⟩ = some (.int .i64 v2)) (go_keep) ((go_at_call 74; refine (rConflict_as HCF.out _).mono ?_; rintro e w2 ⟨rfl, hbel2⟩; obtain ⟨hcc, hff⟩ := bcell hbel2; have hcb := fun o => hcc b o (by simp; omega); have hca := fun o => hcc ga o (by simp; omega); have hcg := fun o => hcc (g q) o (by simp; omega); clear hcc hff))
                  have hb3 : Below wr.heap.size wr w2 := Below.trans (Below.refl _ wr).drew hbel2
                  have hp3 := ownsRow_below hp hb3 (fun x e => (hp.lt x e).2)
                  have hb4 : Below B2 w4 w2 := hbj.trans (hb3.mono hszB)
                  have hsz3 := hb3.size
                  clear hbel2 hb3 hbj c0 c1 c2 c3 d0 d1 d2 d3 hcb hca hcg hall hbit
                  go_wp2_with (at_builtin; refine wpList_append_own _ rfl _ _ 68 rfl B2 71 i1 (.agg #[.int .i64 0, .int .i64 0]) 2 16 Try.underlying68 hi1 hy0 hy1 hy2 rfl (by decide) _ _ _ rfl (hp3.alloc _) ⟨_, 0, none⟩ 1 1 [_, _] rfl rfl (two_new _ _ _ _) (by simp [Value.oneCell']) (by unfold maxLen; omega) (by omega) (by simp; omega) ?_; intro v' w3 hown' hgrow _)
                  have hp4 := hp2.out _ _ hown'
                  have hb5 : Below B2 w4 w3 := (hb4.alloc (by omega) _).grown hgrow (by simp; omega) (fun x e => (hp3.lt x e).1)
                  clear hown' hgrow hp3 hp2 hb4 hp
                  go_wp2
                  go_roundw
                  case rel => exact ⟨q + 1, by omega, by go_num, hp4, hb5⟩
                  case measure => simp [intOf]; omega
            · obtain rfl : q = j := by omega
              have e : Hid (racesTo (Ord.ev l) (q + 1) = racesTo (Ord.ev l) q ++ racesOf (Ord.ev l) q q) := rfl
              have hp2 : Hid (wr.ownsRow B2 71 2 u6 (racesTo (Ord.ev l) (q + 1)).length (pairCells (racesTo (Ord.ev l) (q + 1)))) := by
                unfold Hid; rw [e.out, List.length_append]; exact hp
              clear hp e
              go_wp2
              go_roundw
              case rel => exact ⟨q + 1, by omega, by go_num, hp2.out, hbj⟩
              case measure => simp [intOf]; omega
        · obtain rfl : j = k := by omega
          have hfin : Hid (Below w.heap.size w wr) := hbel.trans (hbj.mono hsz2)
          go_wp2
          go_ret
          exact ⟨_, rfl, ownsRow_base hp hsz2, hfin.out⟩
end Go.Proofs.Ytomhdopbbnmcnab
namespace Go.Proofs.Ytomhdopbbnmcnab
open Go.RowKit Go.Proofs.Ord

set_option maxHeartbeats 1000000 in
theorem kept_true (a : Option Addr) (n cap : Nat) (a' : Option Addr) (cap' : Nat) (l : List Ev) (w : World) (hn : l.length = n) (hs : EvS w a l) (hs' : EvS w a' l) (hb : n * 32 ≤ 140737488351232) :
    Calls Try.prog 29 #[.slice a n cap, .slice a' n cap'] w fun e w' => e = .returned (.bool true) ∧ Below w.heap.size w w' := by
  go_enter Try.func29, Try.ntmps29
  go_wp2
  go_loopw [5] (fun i wr => ∃ k : Nat, k ≤ n ∧ i = .int .i64 k ∧ Below w.heap.size w wr) (fun i _ => n - (intOf i).toNat)
  case atStart => exact ⟨0, Nat.zero_le _, rfl, Below.refl _ _⟩
  case round =>
    obtain ⟨k, hk, rfl, hbel⟩ := hrel
    by_cases h5 : k < n
    · obtain ⟨b, off, rfl, hlt, _⟩ := hs k (by omega)
      obtain ⟨b', off', rfl, hlt', _⟩ := hs' k (by omega)
      obtain ⟨t1, k1, o1, v1, HE1, c0, c1, c2, c3⟩ := hs.at hbel (i := k) (by omega)
      obtain ⟨t2, k2, o2, v2, HE2, d0, d1, d2, d3⟩ := hs'.at hbel (i := k) (by omega)
      have e := HE1.out.symm.trans HE2.out
      cases e
      have hkn : (k : Int) < (n : Int) := by omega
      have f1 : (t1 != t1) = false := by simp
      have f2 : (k1 != k1) = false := by simp
      have f3 : (o1 != o1) = false := by simp
      have f4 : (v1 != v1) = false := by simp
      clear HE1 HE2
      go_wp2_with fail
      go_quiet (fail)
      go_wp2
      go_roundw
      case rel => exact ⟨k + 1, by omega, by go_num, o_drewN hbel _⟩
      case measure => simp [intOf]; omega
    · go_wp2
      go_ret
      exact ⟨rfl, hbel⟩

end Go.Proofs.Ytomhdopbbnmcnab
namespace Go.Proofs.Ytomhdopbbnmcnab
open Go.RowKit Go.Proofs.Ord

set_option maxRecDepth 100000 in
set_option maxHeartbeats 1000000 in
theorem rRacy5_any (a : Option Addr) (n cap : Nat) (l : List Ev) (w : World) (hn : l.length = n) (hs : EvS w a l) (hb : n ≤ 1048576) :
    Calls Try.prog 31 #[.slice a n cap] w fun e w' => e = .returned (.slice (some ⟨w.heap.size, 0, none⟩) n n) ∧ Tells w' w.heap.size w.heap.size n (racy (ev l)) ∧ Below w.heap.size w w' := by
  obtain ⟨i0, hi0, hz0, hz1, hz2⟩ := info_parts Try.infob
  have hlen : (racesTo (ev l) n).length ≤ 1099511627776 := Nat.le_trans (racesTo_length (ev l) n) (Nat.le_trans (Nat.mul_le_mul hb hb) (by omega))
  go_enter Try.func31, Try.ntmps31
  go_wp2_with (at_make; refine wpList_make_full _ rfl _ _ 40 rfl w.heap.size 4 i0 (.bool false) 1 Try.underlying40 hi0 hz0 hz1 _ _ _ _ n rfl rfl (by first | rfl | simp) (by first | rfl | simp) (by rw [hz2]; omega) (by unfold maxLen; omega) (Nat.le_refl _) ?_; intro w1 hown hgrow)
  have ht1 : Tells w1 w.heap.size w.heap.size n (fun _ => false) := by
    unfold Tells
    have e : ((List.range n).map fun _ => Value.bool false) = (madeCells (Value.bool false).cells (n * 1)).toList := by
      rw [show (Value.bool false).cells = #[Value.bool false] from rfl, toList_madeCells_one, Nat.mul_one, List.map_const', List.length_range]
    rw [e]; exact hown
  have hb1 : Below w.heap.size w w1 := (Below.refl _ _).grown hgrow (Nat.le_refl _) (fun q e => by cases e)
  have hlt1 : w.heap.size < w1.heap.size := (World.ownsRow.lt ht1 _ rfl).2
  clear hown hgrow
  refine (rRaces_any _ _ _ _ _ hn (hs.below hb1) hb).mono ?_
  rintro e w2 ⟨v, rfl, hown, hb2⟩
  have hq := pairNew_of_owns hown
  obtain ⟨ap, cp, rfl, _, _, _⟩ := id hq
  have ht2 := ht1.below hb2 hlt1
  have hb3 : Below w.heap.size w w2 := hb1.trans (hb2.mono hb1.size)
  have hany := any_races (ev l) n
  have HA := o_hide hany
  have hJ : Hid (∀ i, i < (racesTo (ev l) n).length → ((racesTo (ev l) n).getD i (0, 0)).2 < n) := by
    intro i hi
    have hm : (racesTo (ev l) n).getD i (0, 0) ∈ racesTo (ev l) n := by
      have e : (racesTo (ev l) n).getD i (0, 0) = (racesTo (ev l) n)[i] := by simp [hi]
      rw [e]; exact List.getElem_mem hi
    exact ((mem_racesTo (ev l) n _ _).1 hm).1
  clear hany hown ht1 hb1 hb2
  generalize racesTo (ev l) n = P at *
  go_wp2_with fail
  go_loopw [5] (fun iv wr => ∃ i : Nat, i ≤ P.length ∧ iv = .int .i64 i ∧ Tells wr w.heap.size w.heap.size n (fun q => (P.take i).any fun p => p.2 == q) ∧ PairNew w1.heap.size wr (.slice ap P.length cp) P ∧ Below w.heap.size w wr) (fun iv _ => P.length - (intOf iv).toNat)
  case atStart => exact ⟨0, Nat.zero_le _, rfl, ht2.congr (fun q _ => by simp), hq, hb3⟩
  case round =>
    clear hq hb3 ht2
    obtain ⟨i, hi, rfl, ht, hq, hbr⟩ := hrel
    by_cases h5 : i < P.length
    · have hJi := hJ.out i h5
      have HT := o_hide (take_any P i h5)
      obtain ⟨b, off, rfl, _, c0, c1⟩ := hq.pairS.2 i h5
      generalize (P.getD i (0, 0)).1 = x at *
      generalize (P.getD i (0, 0)).2 = y at *
      have hfy := ht.frozen y
      have hcy := ht.cell hJi
      have hy : (y : Int) < (n : Int) := by omega
      have ht2 : Hid (Tells (wr.setCell ⟨w.heap.size, y, none⟩ (.bool true)) w.heap.size w.heap.size n (fun q => (P.take (i + 1)).any fun p => p.2 == q)) := by
        refine (ht.stored y true).congr (fun q _ => ?_)
        rw [HT.out]
        by_cases e : q = y
        · subst e; simp
        · have e' : (y == q) = false := by simp; omega
          rw [if_neg e, e', Bool.or_false]
      have hq2 := hq.setCell (o := y) hlt1 (.bool true)
      have hb2 := hbr.setCell (p := ⟨w.heap.size, y, none⟩) (Nat.le_refl _) (.bool true)
      clear HT ht hq hbr
      go_wp2
      go_roundw
      case rel => exact ⟨i + 1, by omega, by go_num, ht2.out, hq2, hb2⟩
      case measure => simp [intOf]; omega
    · have e1 : P.take i = P := List.take_of_length_le (by omega)
      have hfin : Hid (Tells wr w.heap.size w.heap.size n (racy (ev l))) := by
        refine ht.congr (fun q hq => ?_)
        rw [e1]; exact HA.out q hq
      clear e1 ht
      go_wp2_with fail
      go_ret
      exact ⟨rfl, hfin.out, hbr⟩
end Go.Proofs.Ytomhdopbbnmcnab
namespace Go.Proofs.Ytomhdopbbnmcnab
open Go.RowKit Go.Proofs.Ord

set_option maxRecDepth 100000 in
set_option maxHeartbeats 1000000 in
theorem djitRacy_walk (hSt : StampsSaid) (hRa : RacyDSaid) (a : Option Addr) (n cap : Nat) (l : List Ev) (w : World) (hn : l.length = n) (hs : EvS w a l) (hb : n ≤ 1048576) (hthr : Hid (ThR l)) :
    Calls Try.prog 6 #[.slice a n cap] w fun e w' => e = .returned (.bool true) ∧ Below w.heap.size w w' := by
  go_enter Try.func6, Try.ntmps6
  go_wp2_with fail
  refine (given_any _ _ _ _ _ hn hs (by omega)).mono ?_
  rintro e w1 ⟨v, rfl, hown, hb1⟩
  obtain ⟨a1, cap1, rfl, _, hc1, hm1, hs1⟩ := evS_of_owns hown
  clear hown
  have hl1 := hs.below hb1
  go_wp2_with fail
  refine (hRa _ _ _ _ _ hn hs1 hc1 hm1 hb hthr.out).mono ?_
  rintro e w2 ⟨a2, cap2, rfl, hq, hb2⟩
  have hk2 : Below w.heap.size w w2 := hb1.trans (hb2.mono hb1.size)
  have hs2 := hs1.below hb2
  have hl2 := hl1.below hb2
  clear hb1 hb2 hs1 hl1
  go_wp2_with fail
  refine (rRacy5_any _ _ _ _ _ hn hl2 hb).mono ?_
  rintro e w3 ⟨rfl, ht, hb3⟩
  have hk3 : Below w.heap.size w w3 := hk2.trans (hb3.mono hk2.size)
  have hq3 := hq.below hb3
  have hr3 := ht.boolS
  have hs3 := hs2.below hb3
  have hl3 := hl2.below hb3
  clear hk2 hb3 hq ht hs2 hl2
  go_wp2_with fail
  go_loopw [6] (fun iv wr => ∃ i : Nat, i ≤ n ∧ iv = .int .i64 i ∧ Below w3.heap.size w3 wr) (fun iv _ => n - (intOf iv).toNat)
  case atStart => exact ⟨0, Nat.zero_le _, rfl, Below.refl _ _⟩
  case round =>
    obtain ⟨i, hi, rfl, hbr⟩ := hrel
    by_cases h5 : i < n
    · obtain ⟨b, off, rfl, _, c0⟩ := (hq3.below hbr) i h5
      obtain ⟨b', off', e', _, d0⟩ := (hr3.below hbr) i h5
      cases e'
      rw [Nat.zero_add] at d0
      generalize racy (ev l) i = x at c0 d0
      have hx : (x != x) = false := by cases x <;> rfl
      have hin : (i : Int) < (n : Int) := by omega
      go_wp2_with fail
      go_quiet (fail)
      go_wp2_with fail
      go_roundw
      case rel => exact ⟨i + 1, by omega, by go_num, o_drewN hbr _⟩
      case measure => simp [intOf]; omega
    · have hs4 := hs3.below hbr
      have hl4 := hl3.below hbr
      have hk4 : Below w.heap.size w wr := hk3.trans (hbr.mono hk3.size)
      clear hbr
      go_wp2_with fail
      refine (kept_true _ _ _ _ _ _ _ hn hs4 hl4 (by omega)).mono ?_
      rintro e w5 ⟨rfl, hb5⟩
      have hk5 := hk4.trans (hb5.mono hk4.size)
      clear hb5 hk4
      go_wp2_with fail
      refine (alive5_true hSt hRa _).mono ?_
      rintro e w6 ⟨rfl, hb6⟩
      go_wp2_with fail
      go_ret
      exact ⟨rfl, hk5.trans (hb6.mono hk5.size)⟩

end Go.Proofs.Ytomhdopbbnmcnab
namespace Go.Proofs.Ytomhdopbbnmcnab
open Go.RowKit Go.Proofs.Ord

set_option maxRecDepth 100000 in
set_option maxHeartbeats 1000000 in
theorem rFirst_any (a : Option Addr) (n cap : Nat) (l : List Ev) (obj : Int) (w : World) (hn : l.length = n) (hs : EvS w a l) (hb : n ≤ 1048576) :
    Calls Try.prog 42 #[.slice a n cap, .int .i64 obj] w fun e w' => e = .returned (.int .i64 (firstOf (ev l) obj n)) ∧ Below w.heap.size w w' := by
  go_enter Try.func42, Try.ntmps42
  go_wp2_with fail
  refine (rRacy5_any _ _ _ _ _ hn hs hb).mono ?_
  rintro e w3 ⟨rfl, ht, hb3⟩
  have hr3 := ht.boolS
  have hs3 := hs.below hb3
  clear ht
  go_wp2_with fail
  go_loopw [6] (fun iv wr => ∃ i : Nat, i ≤ n ∧ iv = .int .i64 i ∧ Below w3.heap.size w3 wr ∧ ∀ q, q < i → hits (ev l) obj q = false) (fun iv _ => n - (intOf iv).toNat)
  case atStart => exact ⟨0, Nat.zero_le _, rfl, Below.refl _ _, fun q hq => absurd hq (by omega)⟩
  case round =>
    obtain ⟨i, hi, rfl, hbr, hno⟩ := hrel
    have HN := o_hide hno
    clear hno
    by_cases h5 : i < n
    · obtain ⟨b', off', e', _, d0⟩ := (hr3.below hbr) i h5
      cases e'
      rw [Nat.zero_add] at d0
      obtain ⟨b, off, rfl, hlt, _⟩ := hs3 i (by omega)
      obtain ⟨t1, k1, o1, v1, HE1, _, _, c2, _⟩ := hs3.at hbr (i := i) (by omega)
      have hin : (i : Int) < (n : Int) := by omega
      have HH : Hid (hits (ev l) obj i = (racy (ev l) i && o1 == obj)) := by
        unfold Hid hits; rw [HE1.out]
      have HS := o_hide (fun (h : hits (ev l) obj i = true) => firstOf_some (n := n) h5 HN.out h)
      have hk : Below w.heap.size w wr := hb3.trans (hbr.mono hb3.size)
      clear HE1
      generalize racy (ev l) i = x at *
      cases x with
      | false =>
        go_wp2_with fail
        go_roundw
        case rel => exact ⟨i + 1, by omega, by go_num, hbr, fun q hq => by
          by_cases e : q < i
          · exact HN.out q e
          · obtain rfl : q = i := by omega
            rw [HH.out]; rfl⟩
        case measure => simp [intOf]; omega
      | true =>
        cases ho : (o1 == obj) with
        | false =>
          go_wp2_with fail
          go_roundw
          case rel => exact ⟨i + 1, by omega, by go_num, hbr, fun q hq => by
            by_cases e : q < i
            · exact HN.out q e
            · obtain rfl : q = i := by omega
              rw [HH.out, ho]; rfl⟩
          case measure => simp [intOf]; omega
        | true =>
          go_wp2_with fail
          go_ret
          exact ⟨by rw [HS.out (by rw [HH.out, ho]; rfl)]; rfl, hk⟩
    · have HF : Hid (firstOf (ev l) obj n = -1) := firstOf_none (fun j hj => HN.out j (by omega))
      have hk : Below w.heap.size w wr := hb3.trans (hbr.mono hb3.size)
      clear hbr
      go_wp2_with fail
      go_ret
      exact ⟨by rw [HF.out]; rfl, hk⟩
end Go.Proofs.Ytomhdopbbnmcnab
namespace Go.Proofs.Ytomhdopbbnmcnab
open Go.RowKit Go.Proofs.Ord

theorem range_any (f : Nat → Bool) (i : Nat) : ((List.range (i + 1)).any f) = ((List.range i).any f || f i) := by
  rw [List.range_succ, List.any_append]; simp

set_option maxRecDepth 100000 in
set_option maxHeartbeats 1000000 in
theorem rFirsts_any (a : Option Addr) (n cap : Nat) (l : List Ev) (w : World) (hn : l.length = n) (hs : EvS w a l) (hb : n ≤ 1048576) :
    Calls Try.prog 35 #[.slice a n cap] w fun e w' => ∃ g, w.heap.size ≤ g ∧ e = .returned (.slice (some ⟨g, 0, none⟩) n n) ∧ Tells w' g g n (isFirst (ev l)) ∧ Below w.heap.size w w' := by
  obtain ⟨i0, hi0, hz0, hz1, hz2⟩ := info_parts Try.infob
  go_enter Try.func35, Try.ntmps35
  go_wp2_with fail
  refine (rRacy5_any _ _ _ _ _ hn hs hb).mono ?_
  rintro e w3 ⟨rfl, ht, hb3⟩
  have hr3 := ht.boolS
  have hs3 := hs.below hb3
  have hz3 := hb3.size
  clear ht
  go_wp2_with (at_make; refine wpList_make_full _ rfl _ _ 40 rfl w3.heap.size 4 i0 (.bool false) 1 Try.underlying40 hi0 hz0 hz1 _ _ _ _ n rfl rfl (by first | rfl | simp) (by first | rfl | simp) (by rw [hz2]; omega) (by unfold maxLen; omega) (Nat.le_refl _) ?_; intro w1 hown hgrow)
  have ht1 : Tells w1 w3.heap.size w3.heap.size n (fun _ => false) := by
    unfold Tells
    have e : ((List.range n).map fun _ => Value.bool false) = (madeCells (Value.bool false).cells (n * 1)).toList := by
      rw [show (Value.bool false).cells = #[Value.bool false] from rfl, toList_madeCells_one, Nat.mul_one, List.map_const', List.length_range]
    rw [e]; exact hown
  have hb1 : Below w3.heap.size w3 w1 := (Below.refl _ _).grown hgrow (Nat.le_refl _) (fun q e => by cases e)
  clear hown hgrow
  generalize hg : w3.heap.size = g at *
  go_loopw [5, 6] (fun jv _ wr => ∃ j : Nat, j ≤ n ∧ jv = .int .i64 j ∧ Tells wr g g n (fun q => decide (q < j) && isFirst (ev l) q) ∧ Below g w3 wr) (fun jv _ _ => n - (intOf jv).toNat)
  case atStart => exact ⟨0, Nat.zero_le _, rfl, ht1.congr (fun q _ => by simp), hb1⟩
  case round =>
    clear ht1 hb1
    obtain ⟨j, hj, rfl, ht, hbr⟩ := hrel
    by_cases h5 : j < n
    · obtain ⟨b', off', e', _, d0⟩ := (hr3.below (hg ▸ hbr)) j h5
      cases e'
      rw [Nat.zero_add] at d0
      have hfy := ht.frozen j
      have hcy := ht.cell h5
      have hjn : (j : Int) < (n : Int) := by omega
      have ht2 : Hid (Tells (wr.setCell ⟨g, j, none⟩ (.bool (racy (ev l) j))) g g n (fun q => if q = j then racy (ev l) j && !(List.range 0).any (hits (ev l) (ev l j).obj) else decide (q < j) && isFirst (ev l) q)) := by
        refine (ht.stored j (racy (ev l) j)).congr (fun q _ => ?_)
        by_cases e : q = j
        · rw [if_pos e, if_pos e]; simp
        · rw [if_neg e, if_neg e]
      have hb2 := hbr.setCell (p := ⟨g, j, none⟩) (Nat.le_refl _) (.bool (racy (ev l) j))
      clear ht hbr
      go_wp2
      go_loopw [6] (fun iv wr => ∃ i : Nat, i ≤ j ∧ iv = .int .i64 i ∧ Tells wr g g n (fun q => if q = j then racy (ev l) j && !(List.range i).any (hits (ev l) (ev l j).obj) else decide (q < j) && isFirst (ev l) q) ∧ Below g w3 wr) (fun iv _ => j - (intOf iv).toNat)
      case atStart => exact ⟨0, Nat.zero_le _, rfl, ht2.out, hb2⟩
      case round =>
        clear ht2 hb2 d0 hcy hfy
        obtain ⟨i, hi, rfl, ht, hbr⟩ := hrel
        by_cases h6 : i < j
        · obtain ⟨b', off', e', _, d0⟩ := (hr3.below (hg ▸ hbr)) i (by omega)
          cases e'
          rw [Nat.zero_add] at d0
          obtain ⟨b, off, rfl, hlt, _⟩ := hs3 i (by omega)
          obtain ⟨t1, k1, o1, v1, HE1, _, _, c2, _⟩ := hs3.at (hg ▸ hbr) (i := i) (by omega)
          obtain ⟨t2, k2, o2, v2, HE2, _, _, d2, _⟩ := hs3.at (hg ▸ hbr) (i := j) (by omega)
          have hin : (i : Int) < (n : Int) := by omega
          have hij : (i : Int) < (j : Int) := by omega
          have hfy := ht.frozen j
          have hcy := ht.cell h5
          have HH : Hid (hits (ev l) (ev l j).obj i = (racy (ev l) i && o1 == o2)) := by
            unfold Hid hits; rw [HE1.out, HE2.out]
          have HR := o_hide (range_any (hits (ev l) (ev l j).obj) i)
          have ht2 : Hid (∀ wq, Tells wq g g n (fun q => if q = j then racy (ev l) j && !(List.range i).any (hits (ev l) (ev l j).obj) else decide (q < j) && isFirst (ev l) q) → hits (ev l) (ev l j).obj i = true → Tells (wq.setCell ⟨g, j, none⟩ (.bool false)) g g n (fun q => if q = j then racy (ev l) j && !(List.range (i + 1)).any (hits (ev l) (ev l j).obj) else decide (q < j) && isFirst (ev l) q)) := by
            intro wq ht h
            refine (ht.stored j false).congr (fun q _ => ?_)
            by_cases e : q = j
            · rw [if_pos e, if_pos e, HR.out, h]; simp
            · rw [if_neg e, if_neg e, if_neg e]
          have ht3 : Hid (hits (ev l) (ev l j).obj i = false → Tells wr g g n (fun q => if q = j then racy (ev l) j && !(List.range (i + 1)).any (hits (ev l) (ev l j).obj) else decide (q < j) && isFirst (ev l) q)) := by
            intro h
            refine ht.congr (fun q _ => ?_)
            rw [HR.out, h, Bool.or_false]
          have hb2 := o_hide (hbr.setCell (p := ⟨g, j, none⟩) (Nat.le_refl _) (.bool false))
          clear HE1 HE2 HR
          generalize racy (ev l) i = x at *
          cases x with
          | false =>
            go_wp2_with fail
            go_quiet (fail)
            go_wp2_with fail
            go_roundw
            case rel => exact ⟨i + 1, by omega, by go_num, (ht3.out (by rw [HH.out]; rfl)).below (o_drewN (Below.refl _ _) _) (World.ownsRow.lt ht _ rfl).2, o_drewN hbr _⟩
            case measure => simp [intOf]; omega
          | true =>
            cases ho : (o1 == o2) with
            | false =>
              go_wp2_with fail
              go_quiet (fail)
              go_wp2_with fail
              go_roundw
              case rel => exact ⟨i + 1, by omega, by go_num, (ht3.out (by rw [HH.out, ho]; rfl)).below (o_drewN (Below.refl _ _) _) (World.ownsRow.lt ht _ rfl).2, o_drewN hbr _⟩
              case measure => simp [intOf]; omega
            | true =>
              go_wp2_with fail
              go_quiet (fail)
              have htq := o_hide (ht2.out _ (ht.below (o_drewN (Below.refl _ _) nq) (World.ownsRow.lt ht _ rfl).2) (by rw [HH.out, ho]; rfl))
              have hbq := o_hide ((o_drewN hbr nq).setCell (p := ⟨g, j, none⟩) (Nat.le_refl _) (.bool false))
              clear ht2 ht3 hb2 ht
              go_wp2
              go_roundw
              case rel => exact ⟨i + 1, by omega, by go_num, htq.out, hbq.out⟩
              case measure => simp [intOf]; omega
        · obtain rfl : i = j := by omega
          have ht2 : Hid (Tells wr g g n (fun q => decide (q < i + 1) && isFirst (ev l) q)) := by
            refine ht.congr (fun q _ => ?_)
            by_cases e : q = i
            · rw [if_pos e, e]; simp [isFirst]
            · rw [if_neg e]
              by_cases e2 : q < i
              · simp [e2, show q < i + 1 by omega]
              · simp [e2, show ¬ q < i + 1 by omega]
          clear ht
          go_wp2_with fail
          go_roundw
          case rel => exact ⟨i + 1, by omega, by go_num, ht2.out, hbr⟩
          case measure => simp [intOf]; omega
    · have ht2 : Hid (Tells wr g g n (isFirst (ev l))) := ht.congr (fun q hq => by simp [show q < j by omega])
      clear ht
      go_wp2_with fail
      go_ret
      exact ⟨g, by omega, rfl, ht2.out, hb3.trans (hbr.mono (by omega))⟩
end Go.Proofs.Ytomhdopbbnmcnab
