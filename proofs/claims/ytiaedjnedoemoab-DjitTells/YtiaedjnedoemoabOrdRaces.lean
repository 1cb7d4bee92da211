import Derived.Test.YtiaedjnedoemoabOrdAfter
import Derived.Test.YtiaedjnedoemoabOrdConf
import Derived.Maps.AppendAt
import Derived.Deep.RegionWith
import Derived.Deep.AppendLies
namespace Go.Proofs.Ytiaedjnedoemoab
open Go.RowKit Go.Proofs.Ord
attribute [local go_sem ↓] Go.wp_at_zero Go.wp_at_succ

theorem Try.infobs : (Try.prog.info? 40).map (fun i => (i.zero, i.size, i.bytes)) = some (some (.slice none 0 0), 1, 24) := by kernel_rfl
theorem Try.infop : (Try.prog.info? 71).map (fun i => (i.zero, i.size, i.bytes)) = some (some (.agg #[.int .i64 0, .int .i64 0]), 2, 16) := by kernel_rfl

theorem ownsRow_base {w : World} {base base' e size n : Nat} {v : Value} {xs : List Value} (h : w.ownsRow base e size v n xs) (hb : base' ≤ base) : w.ownsRow base' e size v n xs := by
  refine ⟨h.1, ?_⟩
  rcases h.2 with hn | ⟨g, cap, cur, hv, h1, rest⟩
  · exact .inl hn
  · exact .inr ⟨g, cap, cur, hv, by omega, rest⟩

/-- Row q tells which events event q is before. -/
def Befs (w : World) (B n : Nat) (L : Nat → Ev) (v : Value) (k : Nat) (g : Nat → Nat) : Prop :=
  w.ownsRow B 40 1 v k ((List.range k).map fun q => Value.slice (some ⟨g q, 0, none⟩) n n) ∧ ∀ q, q < k → Tells w B (g q) n (bef L q) ∧ v.ownBlock ≠ some (g q)

theorem Befs.start (w : World) (B n : Nat) (L : Nat → Ev) : Befs w B n L (.slice none 0 0) 0 (fun _ => 0) :=
  ⟨World.ownsRow_nil _ _ _ _, fun q hq => absurd hq (by omega)⟩

theorem Befs.step {B n k : Nat} {L : Nat → Ev} {wr w2 w3 : World} {v v' : Value} {g : Nat → Nat} {o : Obj} (h : Befs wr B n L v k g) (hb : Below wr.heap.size wr w2) (ht : Tells w2 wr.heap.size wr.heap.size n (bef L k)) (hB : B ≤ wr.heap.size)
    (hown : w3.ownsRow B 40 1 v' (k + 1) (((List.range k).map fun q => Value.slice (some ⟨g q, 0, none⟩) n n) ++ [.slice (some ⟨wr.heap.size, 0, none⟩) n n])) (hg : (w2.alloc o).grownBy w3 v.ownBlock) (hat : v'.ownBlock = v.ownBlock ∨ v'.ownBlock = some (w2.alloc o).heap.size) :
    Befs w3 B n L v' (k + 1) (fun q => if q = k then wr.heap.size else g q) := by
  have hv : ∀ x, v.ownBlock = some x → x < wr.heap.size := fun x e => (h.1.lt x e).2
  have hlt2 : wr.heap.size < w2.heap.size := (World.ownsRow.lt ht _ rfl).2
  have hsz2 : (w2.alloc o).heap.size = w2.heap.size + 1 := by simp
  have hgq : ∀ q, q < k → g q < wr.heap.size := fun q hq => (World.ownsRow.lt (h.2 q hq).1 _ rfl).2
  refine ⟨?_, fun q hq => ?_⟩
  · have e : ((List.range (k + 1)).map fun q => Value.slice (some ⟨if q = k then wr.heap.size else g q, 0, none⟩) n n) = ((List.range k).map fun q => Value.slice (some ⟨g q, 0, none⟩) n n) ++ [.slice (some ⟨wr.heap.size, 0, none⟩) n n] := by
      rw [List.range_succ, List.map_append]
      congr 1
      · apply List.map_congr_left
        intro q hq
        rw [List.mem_range] at hq
        rw [if_neg (by omega)]
      · simp
    rw [e]; exact hown
  · by_cases e : q = k
    · subst e
      simp only [if_true]
      refine ⟨?_, ?_⟩
      · have h1 := ownsRow_base ht hB
        have h2 := h1.alloc o
        exact h2.kept hg (.inr (fun e => by have := hv wr.heap.size (by rw [← e]; rfl); omega))
      · rcases hat with e | e
        · rw [e]; intro e2; have := hv _ e2; omega
        · rw [e]; intro e2; have := Option.some.inj e2; omega
    · simp only [e, if_false]
      have hq' : q < k := by omega
      obtain ⟨h1, h2⟩ := h.2 q hq'
      refine ⟨?_, ?_⟩
      · exact World.ownsRow.kept (World.ownsRow.alloc (Tells.below h1 hb (hgq q hq')) o) hg (.inr (fun e => h2 e.symm))
      · rcases hat with e | e
        · rw [e]; exact h2
        · rw [e]; intro e2; have := Option.some.inj e2; have := hgq q hq'; omega

theorem Befs.below {B B' n k : Nat} {L : Nat → Ev} {w w' : World} {v : Value} {g : Nat → Nat} (h : Befs w B n L v k g) (hb : Below B' w w') (hB : w.heap.size ≤ B') : Befs w' B n L v k g :=
  ⟨ownsRow_below h.1 hb (fun x e => Nat.lt_of_lt_of_le (h.1.lt x e).2 hB), fun q hq => ⟨Tells.below (h.2 q hq).1 hb (Nat.lt_of_lt_of_le (World.ownsRow.lt (h.2 q hq).1 _ rfl).2 hB), (h.2 q hq).2⟩⟩

theorem Befs.cell {B n k ga ca : Nat} {L : Nat → Ev} {w : World} {g : Nat → Nat} (h : Befs w B n L (.slice (some ⟨ga, 0, none⟩) k ca) k g) {q : Nat} (hq : q < k) : w.cell? ⟨ga, q, none⟩ = some (.slice (some ⟨g q, 0, none⟩) n n) := by
  rw [World.ownsRow.cellAt h.1 q (by omega)]
  simp [hq]

theorem rConflict_as {t k o v t' k' o' v' : Int} {c : Bool} (h : conflict ⟨t, k, o, v⟩ ⟨t', k', o', v'⟩ = c) (w : World) :
    Calls Try.prog 74 #[.agg #[.int .i64 t, .int .i64 k, .int .i64 o, .int .i64 v], .agg #[.int .i64 t', .int .i64 k', .int .i64 o', .int .i64 v']] w fun e w' =>
      e = .returned (.bool c) ∧ Below w.heap.size w w' := by
  rw [← h]; exact rConflict_any _ _ _ _ _ _ _ _ _

/-- Pairs as cells. -/
def pairCells (ps : List (Nat × Nat)) : List Value := ps.flatMap fun p => [.int .i64 (p.1 : Int), .int .i64 (p.2 : Int)]
theorem pairCells_snoc (ps : List (Nat × Nat)) (i j : Nat) : pairCells (ps ++ [(i, j)]) = pairCells ps ++ [.int .i64 (i : Int), .int .i64 (j : Int)] := by
  simp [pairCells]
theorem pairCells_length (ps : List (Nat × Nat)) : (pairCells ps).length = 2 * ps.length := by
  induction ps with
  | nil => rfl
  | cons p r ih => simp [pairCells] at *; omega

theorem two_new (w : World) (x y : Value) (t : Nat) : ∀ j u, [x, y][j]? = some u → (w.alloc (.cells #[x, y] t)).cell? (Addr.add ⟨w.heap.size, 0, none⟩ j) = some u := by
  intro j u hj
  match j, hj with
  | 0, hj => simp at hj; subst hj; simp [Addr.add]
  | 1, hj => simp at hj; subst hj; simp [Addr.add]

set_option maxRecDepth 100000 in
set_option maxHeartbeats 2000000 in
theorem rRaces_any (a : Option Addr) (n cap : Nat) (l : List Ev) (w : World) (hn : l.length = n) (hs : EvS w a l) (hb : n ≤ 1048576) :
    Calls Try.prog 55 #[.slice a n cap] w fun e w' => ∃ v, e = .returned v ∧ w'.ownsRow w.heap.size 71 2 v (racesTo (Ord.ev l) n).length (pairCells (racesTo (Ord.ev l) n)) ∧ Below w.heap.size w w' := by
  obtain ⟨i0, hi0, hz0, hz1, hz2⟩ := info_parts Try.infobs
  obtain ⟨i1, hi1, hy0, hy1, hy2⟩ := info_parts Try.infop
  go_enter Try.func55, Try.ntmps55
  go_wp2
  go_loopw [3, 4, 5] (fun v i _ wr => ∃ (k : Nat) (g : Nat → Nat), k ≤ n ∧ i = .int .i64 k ∧ Befs wr w.heap.size n (Ord.ev l) v k g ∧ Below w.heap.size w wr) (fun _ i _ _ => n - (intOf i).toNat)
  case atStart => exact ⟨0, _, Nat.zero_le _, rfl, Befs.start _ _ _ _, Below.refl _ _⟩
  case round =>
    obtain ⟨k, g, hk, rfl, hf, hbel⟩ := hrel
    have hsz := hbel.size
    by_cases h5 : k < n
    · have hs2 := hs.below hbel
      have hown := hf.1
      go_wp2_with (first | (go_at_call 50; refine (rAfter_any _ _ _ _ _ _ hn hs2 (by omega) h5).mono ?_; rintro e w2 ⟨rfl, ht2, hbel2⟩; have hown2 := ownsRow_below hown hbel2 (fun q e => (hown.lt q e).2); have hsz2 := hbel2.size) | (at_builtin; refine wpList_append_own_at _ rfl _ _ 107 rfl w.heap.size 40 i0 (.slice none 0 0) 1 24 Try.underlying107 hi0 hz0 hz1 hz2 rfl (by decide) _ _ _ rfl (hown2.alloc _) ⟨_, 0, none⟩ 1 1 [_] rfl rfl (cell_one_new _ _ _) (by simp [Value.oneCell']) (by unfold maxLen; omega) (by omega) (by simp; omega) ?_; intro v' w3 hown' hgrow _ hat))
      have hf2 := hf.step hbel2 ht2 hsz hown' hgrow hat
      have hbel3 : Below w.heap.size w w3 := ((hbel.trans (hbel2.mono hsz)).alloc (by omega) _).grown hgrow (by simp; omega) (fun q e => (hown.lt q e).1)
      go_roundw
      case rel => exact ⟨k + 1, _, by omega, by go_num, hf2, hbel3⟩
      case measure => simp [intOf]; omega
    · obtain rfl : k = n := by omega
      rename World => w4
      obtain ⟨B2, hB2⟩ : ∃ B2, Hid (B2 = w4.heap.size) := ⟨_, rfl⟩
      have hsz2 : w.heap.size ≤ B2 := by rw [hB2.out]; exact hsz
      go_wp2
      go_loopw [6, 7, 8] (fun v jv _ w5 => ∃ j : Nat, j ≤ k ∧ jv = .int .i64 j ∧ w5.ownsRow B2 71 2 v (racesTo (Ord.ev l) j).length (pairCells (racesTo (Ord.ev l) j)) ∧ Below B2 w4 w5) (fun _ jv _ _ => k - (intOf jv).toNat)
      case atStart => exact ⟨0, Nat.zero_le _, rfl, World.ownsRow_nil _ _ _ _, Below.refl _ _⟩
      case round =>
        obtain ⟨j, hj, rfl, hp, hbj⟩ := hrel
        by_cases h6 : j < k
        · obtain ⟨ga, ca, rfl, _, hga⟩ := hf.1.form (by omega)
          obtain ⟨b, off, rfl, hlt, _⟩ := hs j (by omega)
          have hl1 := racesTo_length (Ord.ev l) j
          have hl2 : (racesTo (Ord.ev l) j).length ≤ 1099511627776 := Nat.le_trans hl1 (Nat.le_trans (Nat.mul_le_mul (by omega) (by omega) : j * j ≤ 1048576 * 1048576) (by omega))
          clear hl1
          go_wp2
          go_loopw [6, 8] (fun v iv w5 => ∃ q : Nat, q ≤ j ∧ iv = .int .i64 q ∧ w5.ownsRow B2 71 2 v ((racesTo (Ord.ev l) j).length + (racesOf (Ord.ev l) j q).length) (pairCells (racesTo (Ord.ev l) j ++ racesOf (Ord.ev l) j q)) ∧ Below B2 w4 w5) (fun _ iv _ => j - (intOf iv).toNat)
          case atStart => exact ⟨0, Nat.zero_le _, rfl, by simpa [racesOf] using hp, hbj⟩
          case round =>
            clear hp hbj
            obtain ⟨q, hq, rfl, hp, hbj⟩ := hrel
            have hszj := hbj.size
            have hszB : B2 ≤ wr.heap.size := by rw [hB2.out]; exact hszj
            by_cases h7 : q < j
            · have hbw : Below w.heap.size w wr := hbel.trans (hbj.mono hsz2)
              have hfj := hf.below hbj (by rw [hB2.out]; exact Nat.le_refl _)
              have hall := hfj.cell (q := q) (by omega)
              have hbit := (hfj.2 q (by omega)).1.cell (j := j) h6
              obtain ⟨t1, k1, o1, v1, HE1, c0, c1, c2, c3⟩ := hs.at hbw (i := q) (by omega)
              obtain ⟨t2, k2, o2, v2, HE2, d0, d1, d2, d3⟩ := hs.at hbw (i := j) (by omega)
              have HR := o_hide (racesOf_succ (Ord.ev l) j q)
              have HC : Hid (race (Ord.ev l) q j = (conflict ⟨t1, k1, o1, v1⟩ ⟨t2, k2, o2, v2⟩ && !bef (Ord.ev l) q j)) := by unfold Hid race; rw [HE1.out, HE2.out]
              have hqk : (q : Int) < (k : Int) := by omega
              have hjk : (j : Int) < (k : Int) := by omega
              have hgq : g q < wr.heap.size := (World.ownsRow.lt (hfj.2 q (by omega)).1 _ rfl).2
              have hgalt : ga < wr.heap.size := (hfj.1.lt _ rfl).2
              have hblt : b < wr.heap.size := by omega
              clear hfj hbw HE1 HE2
              cases hc : conflict ⟨t1, k1, o1, v1⟩ ⟨t2, k2, o2, v2⟩ with
              | false =>
                rw [hc, Bool.false_and] at HC
                have hp2 : Hid (∀ w2 : World, Below wr.heap.size wr w2 → w2.ownsRow B2 71 2 u6 ((racesTo (Ord.ev l) j).length + (racesOf (Ord.ev l) j (q + 1)).length) (pairCells (racesTo (Ord.ev l) j ++ racesOf (Ord.ev l) j (q + 1)))) := by
                  intro w2 hb2
                  rw [HR.out, HC.out]
                  simp only [Bool.false_eq_true, if_false, List.append_nil]
                  exact ownsRow_below hp hb2 (fun x e => (hp.lt x e).2)
                have HCF := o_hide hc
                clear HC HR hp hbit hall hc
                go_wp2_with fail
                first | (go_region_with (go_at_call 74; refine (rConflict_as HCF.out _).mono ?_; rintro e w2 ⟨rfl, hbel2⟩)) | fail
                all_goals
                  have hb3 : Below wr.heap.size wr w2 := Below.trans (Below.refl _ wr).drew hbel2
                  have hp3 := hp2.out _ hb3
                  have hb4 : Below B2 w4 w2 := hbj.trans (hb3.mono hszB)
                  clear hbel2 hb3 hbj hp2 c0 c1 c2 c3 d0 d1 d2 d3
                  go_wp2
                  go_roundw
                  case rel => exact ⟨q + 1, by omega, by go_num, hp3, hb4⟩
                  case measure => simp [intOf]; omega
              | true =>
                rw [hc, Bool.true_and] at HC
                cases hbt : bef (Ord.ev l) q j with
                | true =>
                  rw [hbt] at hbit HC
                  have hp2 : Hid (∀ w2 : World, Below wr.heap.size wr w2 → w2.ownsRow B2 71 2 u6 ((racesTo (Ord.ev l) j).length + (racesOf (Ord.ev l) j (q + 1)).length) (pairCells (racesTo (Ord.ev l) j ++ racesOf (Ord.ev l) j (q + 1)))) := by
                    intro w2 hb2
                    rw [HR.out, HC.out]
                    simp only [Bool.not_true, Bool.false_eq_true, if_false, List.append_nil]
                    exact ownsRow_below hp hb2 (fun x e => (hp.lt x e).2)
                  have HCF := o_hide hc
                  clear HC HR hp hc hbt
                  go_wp2_with fail
                  go_region_held3 (fun w' => w'.cell? ⟨ga, q, none⟩ = some (.slice (some ⟨g q, 0, none⟩) k k) ∧ w'.cell? ⟨g q, j, none⟩ = some (.bool true) ∧ w'.cell? ⟨b, off + q * 4, none⟩ = some (.int .i64 t1) ∧ w'.cell? ⟨b, off + q * 4 + 1, none⟩ = some (.int .i64 k1) ∧ w'.cell? ⟨b, off + q * 4 + 2, none⟩ = some (.int .i64 o1) ∧ w'.cell? ⟨b, off + q * 4 + 3, none⟩ = some (.int .i64 v1) ∧ w'.cell? ⟨b, off + j * 4, none⟩ = some (.int .i64 t2) ∧ w'.cell? ⟨b, off + j * 4 + 1, none⟩ = some (.int .i64 k2) ∧ w'.cell? ⟨b, off + j * 4 + 2, none⟩ = some (.int .i64 o2) ∧ w'.cell? ⟨b, off + j * 4 + 3, none⟩ = some (.int .i64 v2)) (go_keep) ((go_at_call 74; refine (rConflict_as HCF.out _).mono ?_; rintro e w2 ⟨rfl, hbel2⟩; obtain ⟨hcc, hff⟩ := bcell hbel2; have hcb := fun o => hcc b o (by simp; omega); have hca := fun o => hcc ga o (by simp; omega); have hcg := fun o => hcc (g q) o (by simp; omega); clear hcc hff))
                  have hb3 : Below wr.heap.size wr w2 := Below.trans (Below.refl _ wr).drew hbel2
                  have hp3 := hp2.out _ hb3
                  have hb4 : Below B2 w4 w2 := hbj.trans (hb3.mono hszB)
                  clear hbel2 hb3 hbj hp2 c0 c1 c2 c3 d0 d1 d2 d3 hcb hca hcg hall hbit
                  go_wp2
                  go_roundw
                  case rel => exact ⟨q + 1, by omega, by go_num, hp3, hb4⟩
                  case measure => simp [intOf]; omega
                | false =>
                  rw [hbt] at hbit HC
                  have hol := racesOf_length (Ord.ev l) j q
                  have hp2 : Hid (∀ (v' : Value) (w3 : World), w3.ownsRow B2 71 2 v' ((racesTo (Ord.ev l) j).length + (racesOf (Ord.ev l) j q).length + 1) (pairCells (racesTo (Ord.ev l) j ++ racesOf (Ord.ev l) j q) ++ [.int .i64 (q : Int), .int .i64 (j : Int)]) → w3.ownsRow B2 71 2 v' ((racesTo (Ord.ev l) j).length + (racesOf (Ord.ev l) j (q + 1)).length) (pairCells (racesTo (Ord.ev l) j ++ racesOf (Ord.ev l) j (q + 1)))) := by
                    intro v' w3 h
                    rw [HR.out, HC.out]
                    simp only [Bool.not_false, if_true]
                    rw [← List.append_assoc, pairCells_snoc, List.length_append]
                    exact h
                  have HCF := o_hide hc
                  clear HC HR hc hbt
                  go_wp2_with fail
                  go_region_held3 (fun w' => w'.cell? ⟨ga, q, none⟩ = some (.slice (some ⟨g q, 0, none⟩) k k) ∧ w'.cell? ⟨g q, j, none⟩ = some (.bool false) ∧ w'.cell? ⟨b, off + q * 4, none⟩ = some (.int .i64 t1) ∧ w'.cell? ⟨b, off + q * 4 + 1, none⟩ = some (.int .i64 k1) ∧ w'.cell? ⟨b, off + q * 4 + 2, none⟩ = some (.int .i64 o1) ∧ w'.cell? ⟨b, off + q * 4 + 3, none⟩ = some (.int .i64 v1) ∧ w'.cell? ⟨b, off + j * 4, none⟩ = some (.int .i64 t2) ∧ w'.cell? ⟨b, off + j * 4 + 1, none⟩ = some (.int .i64 k2) ∧ w'.cell? ⟨b, off + j * 4 + 2, none⟩ = some (.int .i64 o2) ∧ w'.cell? ⟨b, off + j * 4 + 3, none⟩ = some (.int .i64 v2)) (go_keep) ((go_at_call 74; refine (rConflict_as HCF.out _).mono ?_; rintro e w2 ⟨rfl, hbel2⟩; obtain ⟨hcc, hff⟩ := bcell hbel2; have hcb := fun o => hcc b o (by simp; omega); have hca := fun o => hcc ga o (by simp; omega); have hcg := fun o => hcc (g q) o (by simp; omega); clear hcc hff))
                  have hb3 : Below wr.heap.size wr w2 := Below.trans (Below.refl _ wr).drew hbel2
                  have hp3 := ownsRow_below hp hb3 (fun x e => (hp.lt x e).2)
                  have hb4 : Below B2 w4 w2 := hbj.trans (hb3.mono hszB)
                  have hsz3 := hb3.size
                  clear hbel2 hb3 hbj c0 c1 c2 c3 d0 d1 d2 d3 hcb hca hcg hall hbit
                  go_wp2_with (at_builtin; refine wpList_append_own _ rfl _ _ 68 rfl B2 71 i1 (.agg #[.int .i64 0, .int .i64 0]) 2 16 Try.underlying68 hi1 hy0 hy1 hy2 rfl (by decide) _ _ _ rfl (hp3.alloc _) ⟨_, 0, none⟩ 1 1 [_, _] rfl rfl (two_new _ _ _ _) (by simp [Value.oneCell']) (by unfold maxLen; omega) (by omega) (by simp; omega) ?_; intro v' w3 hown' hgrow _)
                  have hp4 := hp2.out _ _ hown'
                  have hb5 : Below B2 w4 w3 := (hb4.alloc (by omega) _).grown hgrow (by simp; omega) (fun x e => (hp3.lt x e).1)
                  clear hown' hgrow hp3 hp2 hb4 hp
                  go_wp2
                  go_roundw
                  case rel => exact ⟨q + 1, by omega, by go_num, hp4, hb5⟩
                  case measure => simp [intOf]; omega
            · obtain rfl : q = j := by omega
              have e : Hid (racesTo (Ord.ev l) (q + 1) = racesTo (Ord.ev l) q ++ racesOf (Ord.ev l) q q) := rfl
              have hp2 : Hid (wr.ownsRow B2 71 2 u6 (racesTo (Ord.ev l) (q + 1)).length (pairCells (racesTo (Ord.ev l) (q + 1)))) := by
                unfold Hid; rw [e.out, List.length_append]; exact hp
              clear hp e
              go_wp2
              go_roundw
              case rel => exact ⟨q + 1, by omega, by go_num, hp2.out, hbj⟩
              case measure => simp [intOf]; omega
        · obtain rfl : j = k := by omega
          have hfin : Hid (Below w.heap.size w wr) := hbel.trans (hbj.mono hsz2)
          go_wp2
          go_ret
          exact ⟨_, rfl, ownsRow_base hp hsz2, hfin.out⟩
end Go.Proofs.Ytiaedjnedoemoab
