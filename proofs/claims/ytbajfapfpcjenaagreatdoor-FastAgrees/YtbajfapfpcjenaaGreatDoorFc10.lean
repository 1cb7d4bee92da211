import Derived.Test.YtbajfapfpcjenaaGreatDoorFc9
import Derived.Test.YtbajfapfpcjenaaGreatDoorFc4
namespace Go.Proofs.YtbajfapfpcjenaaGreatDoor
open Go.RowKit Go.Proofs.Ord

set_option maxHeartbeats 400000 in
theorem isAccessF_any (t k o v : Int) (w : World) :
    Calls Tryz.prog 21 #[evV ⟨t, k, o, v⟩] w fun e w' => e = .returned (.bool (access ⟨t, k, o, v⟩)) ∧ Below w.heap.size w w' := by
  have hb : Hid (∀ x, Below w.heap.size w (w.alloc x)) := fun x => (Below.refl _ _).alloc (Nat.le_refl _) _
  rw [access_mk]
  unfold evV
  go_enter Tryz.func21, Tryz.ntmps21
  go_wp2
  all_goals
    go_ret
    exact ⟨o_ret_bool (by simp [*]), hb.out _⟩

set_option maxRecDepth 100000 in
set_option maxHeartbeats 1000000 in
/-- before: is the access before the event of a stamp? -/
theorem epB_any {S : Nat → Prop} {v : Value} {g : Int → Int} (t n : Int) (w : World) (ht : In64 t) (h : StampV S w v g) :
    Calls Tryz.prog 43 #[.agg #[.int .i64 t, .int .i64 n], v] w fun e w' => e = .returned (.bool (decide (n ≤ g t))) ∧ Below w.heap.size w w' := by
  obtain ⟨W, hW⟩ : ∃ W, w.alloc (.cells #[.int .i64 t, .int .i64 n] 100) = W := ⟨_, rfl⟩
  have hbW : Below w.heap.size w W := by rw [← hW]; exact (Below.refl _ _).alloc (Nat.le_refl _) _
  have hzW : w.heap.size < W.heap.size := by rw [← hW]; simp
  obtain ⟨d0, d1⟩ := cells_two (w := W) (b := w.heap.size) (by rw [← hW]; exact heap_alloc_new w _)
  have HO := hide (of_any t W.drew ht ((h.any hbW).any (Below.refl _ _).drew))
  clear h
  go_enter Tryz.func43, Tryz.ntmps43
  go_upto_region 1 with fail
  refine wp_region_held_drew (S := (fun w' => w'.cell? ⟨w.heap.size, 0, none⟩ = some (.int .i64 t) ∧ w'.cell? ⟨w.heap.size, 1, none⟩ = some (.int .i64 n))) (by kernel_rfl) ⟨d0, d1⟩ (fun hHeld => ?_)
  refine wpAnyH_take (i := 0) (v := ?_) rfl (by kernel_rfl) (by kernel_rfl) (by kernel_rfl) (fun _ _ _ h => h) (Or.inl ⟨by rfl, ?_⟩) hHeld ?_
  rotate_left
  · intro w9 hSw; (try dsimp only at hSw); go_simp; try with_reducible rfl
  simp only [Act.put]
  refine wpAnyH_take (i := 1) (v := ?_) rfl (by kernel_rfl) (by kernel_rfl) (by kernel_rfl) (fun _ _ _ h => h) (Or.inl ⟨by rfl, ?_⟩) hHeld ?_
  rotate_left
  · intro w9 hSw; (try dsimp only at hSw); go_simp; try with_reducible rfl
  simp only [Act.put]
  refine wpAnyH_take (i := 2) (v := ?_) rfl (by kernel_rfl) (by kernel_rfl) (by kernel_rfl) (fun _ _ _ h => h) (Or.inl ⟨by rfl, ?_⟩) hHeld ?_
  rotate_left
  · intro w9 hSw; (try dsimp only at hSw); go_simp; try with_reducible rfl
  simp only [Act.put]
  refine wpAnyH_take (i := 3) (v := ?_) rfl (by kernel_rfl) (by kernel_rfl) (by kernel_rfl) (fun _ _ _ h => h) (Or.inl ⟨by rfl, ?_⟩) hHeld ?_
  rotate_left
  · intro w9 hSw; (try dsimp only at hSw); go_simp; try with_reducible rfl
  simp only [Act.put]
  refine wpAnyH_take (i := 4) (v := ?_) rfl (by kernel_rfl) (by kernel_rfl) (by kernel_rfl) (fun _ _ _ h => h) (Or.inl ⟨by rfl, ?_⟩) hHeld ?_
  rotate_left
  · intro w9 hSw; (try dsimp only at hSw); go_simp; try with_reducible rfl
  simp only [Act.put]
  refine wpAnyH_ready (rs := [5]) (by kernel_rfl) (by simp) ?_
  refine AllReadyH.cons rfl (fun K hK => ?_) AllReadyH.nil
  go_simp
  go_at_call 30
  refine HO.out.mono ?_
  rintro e w1 ⟨rfl, hb1⟩
  have hHeld1 : w1.cell? ⟨w.heap.size, 0, none⟩ = some (.int .i64 t) ∧ w1.cell? ⟨w.heap.size, 1, none⟩ = some (.int .i64 n) := ⟨(hb1.cell (p := ⟨w.heap.size, 0, none⟩) hzW).trans d0, (hb1.cell (p := ⟨w.heap.size, 1, none⟩) hzW).trans d1⟩
  go_wp2_with fail
  refine hK.out _ _ hHeld1 (fun _ => ?_)
  clear hK K
  refine wpAnyH_ready (rs := [6]) (by kernel_rfl) (by simp) ?_
  refine AllReadyH.cons rfl (fun K hK => ?_) AllReadyH.nil
  go_simp
  refine hK.out _ _ hHeld1 (fun _ => ?_)
  clear hK K
  refine wpAnyH_ready (rs := [7]) (by kernel_rfl) (by simp) ?_
  refine AllReadyH.cons rfl (fun K hK => ?_) AllReadyH.nil
  go_simp
  refine hK.out _ _ hHeld1 (fun _ => ?_)
  clear hK K
  refine wpAnyH_done (by kernel_rfl) ?_ _
  clear hHeld hHeld1
  go_wp2_with fail
  go_ret
  exact ⟨rfl, hbW.trans (((Below.refl _ _).drew.trans hb1).mono hbW.size)⟩

/-- Reads, by their threads, in a map. -/
def ReadV (w : World) (v : Value) (rs : Int → Option Int) : Prop := (v = .map none ∧ ∀ t, rs t = none) ∨ ∃ b f n, v = .map (some b) ∧ KMap ik w b f n ∧ ∀ t, f t = (rs t).map fun n => .int .i64 n
def RsIn (rs : Int → Option Int) : Prop := ∀ t n, rs t = some n → In64 t

set_option maxRecDepth 100000 in
set_option maxHeartbeats 1000000 in
/-- before: are all reads before the event of a stamp? -/
theorem rsB_any {S : Nat → Prop} {u v : Value} {g : Int → Int} {rs : Int → Option Int} (w : World) (hr : ReadV w u rs) (hin : RsIn rs) (h : StampV S w v g) :
    Calls Tryz.prog 45 #[u, v] w fun e w' => ∃ c, e = .returned (.bool c) ∧ (c = true ↔ ∀ t n, rs t = some n → n ≤ g t) ∧ Below w.heap.size w w' := by
  rcases hr with ⟨rfl, h0⟩ | ⟨b, f, n, rfl, hM, hf⟩
  · have hall : Hid (∀ t n, rs t = some n → n ≤ g t) := fun t n hn => by rw [h0 t] at hn; cases hn
    have hr := run_range_nilMap (P := Tryz.prog) w 101 _ _ Tryz.underlying101
    clear h0 hin h
    go_enter Tryz.func45, Tryz.ntmps45
    go_wp2_with fail
    have hx := run_next_nilMap (P := Tryz.prog) w 0 0 0 #[]
    refine wp_loop_rounds 1 ?_
    rw [rounds_succ]
    go_wp2
    go_ret
    exact ⟨true, rfl, by simp only [true_iff]; exact hall.out, (Below.refl _ _).alloc (Nat.le_refl _) _⟩
  · obtain ⟨W0, hr, hit, hb0, hz0⟩ := hM.range stamp_key Tryz.underlying101
    have hz := hb0.size
    have Hf := hide hf
    have Hin := hide hin
    clear hM hf hin
    go_enter Tryz.func45, Tryz.ntmps45
    go_wp2_with fail
    go_loopw [5, 6, 9, 10, 11, 12, 13, 14, 15, 16, 17, 18, 19] (fun _ _ _ _ _ _ _ _ _ _ _ _ _ wr => ∃ left : Int → Prop, KIter ik wr w.heap.size b f left ∧ (∀ t n, rs t = some n → ¬ left t → n ≤ g t) ∧ Below w.heap.size w wr) (fun _ _ _ _ _ _ _ _ _ _ _ _ _ wr => leftN wr w.heap.size b)
    case atStart => exact ⟨_, hit, fun t n h1 h2 => absurd (by rw [Hf.out t, h1]; rfl) h2, hb0⟩
    case round =>
      clear hit hb0 hr
      obtain ⟨left, hit, hseen, hbel⟩ := hrel
      rcases hit.next stamp_key 0 with ⟨hnone, hnx⟩ | ⟨p, u, w1, hl, hfp, hnx, hit1, hlt, hg1, hz1, hen⟩
      · have hall : Hid (∀ t n, rs t = some n → n ≤ g t) := fun t n hn => hseen t n hn (hnone t)
        clear hseen hnone hit
        go_wp2
        go_ret
        exact ⟨true, rfl, by simp only [true_iff]; exact hall.out, hbel⟩
      · have hb1 : Below w.heap.size w w1 := hbel.grown hg1 hbel.size (fun q e => by cases e; exact Nat.le_refl _)
        rw [Hf.out p] at hfp
        obtain ⟨cn, hcn, rfl⟩ : ∃ cn, rs p = some cn ∧ u = .int .i64 cn := by
          cases hrp : rs p with
          | none => rw [hrp] at hfp; cases hfp
          | some cn => rw [hrp] at hfp; exact ⟨cn, rfl, (Option.some.inj hfp).symm⟩
        have HI := hide hit1
        have HS := hide hseen
        have HL := hide hlt
        have HCN := hide hcn
        have hpk : ik p = .int .i64 p := rfl
        rw [hpk] at hnx hen
        have HB := hide (epB_any p cn w1 (Hin.out p cn hcn) (h.any hb1))
        have hq : Hid (∀ (w2 : World), Below w1.heap.size w1 w2 → KIter ik w2 w.heap.size b f (fun x => left x ∧ x ≠ p) ∧ leftN w2 w.heap.size b < leftN wr w.heap.size b ∧ Below w.heap.size w w2) := fun w2 hb2 => by
          have hlt1 := HI.out.lt
          obtain ⟨_, hM1⟩ := HI.out.map
          have hlt2 := hM1.lt
          exact ⟨HI.out.same (hb2.block _ hlt1) (hb2.block _ hlt2), by rw [leftN_same (hb2.block _ hlt1) (hb2.block _ hlt2)]; exact HL.out, hb1.trans (hb2.mono hb1.size)⟩
        clear hit1 hseen hlt hit hl hg1 hz1 hbel hfp hcn
        by_cases hle : cn ≤ g p
        · have hd : decide (cn ≤ g p) = true := decide_eq_true hle
          rw [hd] at HB
          clear hd
          go_wp2_with (go_at_call 43; refine HB.out.mono ?_; rintro e w2 ⟨rfl, hb2⟩)
          obtain ⟨q1, q2, q3⟩ := hq.out w2 hb2
          go_roundw
          case rel =>
            refine ⟨_, q1, fun t n h1 h2 => ?_, q3⟩
            by_cases e : t = p
            · subst e; rw [HCN.out] at h1; cases h1; exact hle
            · exact HS.out t n h1 fun h => h2 ⟨h, e⟩
          case measure => exact q2
        · have hd : decide (cn ≤ g p) = false := decide_eq_false hle
          have hno : Hid (¬ ∀ t n, rs t = some n → n ≤ g t) := fun h => hle (h p cn HCN.out)
          rw [hd] at HB
          clear hd hle
          go_wp2_with (go_at_call 43; refine HB.out.mono ?_; rintro e w2 ⟨rfl, hb2⟩)
          go_ret
          exact ⟨false, rfl, by simp only [Bool.false_eq_true, false_iff]; exact hno.out, (hq.out w2 hb2).2.2⟩
end Go.Proofs.YtbajfapfpcjenaaGreatDoor
namespace Go.Proofs.YtbajfapfpcjenaaGreatDoor
open Go.RowKit Go.Proofs.Ord

/-- Without those that are before. -/
def lessR (rs : Int → Option Int) (g : Int → Int) (t : Int) : Option Int := match rs t with
  | some n => if n ≤ g t then none else some n
  | none => none

set_option maxRecDepth 100000 in
set_option maxHeartbeats 1000000 in
/-- forget: those that are before the event of a stamp are left away. -/
theorem forget_any {S : Nat → Prop} {v : Value} {g : Int → Int} {rs : Int → Option Int} {b n : Nat} {f : Int → Option Value} (w : World) (hM : KMap ik w b f n) (hf : ∀ t, f t = (rs t).map fun n => .int .i64 n) (hin : RsIn rs) (h : StampV S w v g) (hb : ¬ S b) :
    Calls Tryz.prog 74 #[.map (some b), v] w fun e w' => e = .returned (.tuple #[]) ∧ (∃ f' n', KMap ik w' b f' n' ∧ ∀ t, f' t = (lessR rs g t).map fun n => .int .i64 n) ∧ w.grownBy w' (some b) := by
  obtain ⟨W0, hr, hit, hb0, hz0⟩ := hM.range stamp_key Tryz.underlying101
  have hz := hb0.size
  have hbl := hM.lt
  have Hin := hide hin
  have h1 : StampV (fun x => S x ∧ x < w.heap.size) w v g := h.mono fun x hx hS => ⟨hS, hx⟩
  have hg0 : w.grownBy W0 (some b) := below_grown hb0
  have Hf := hide hf
  clear hM hf hin h
  go_enter Tryz.func74, Tryz.ntmps74
  go_wp2_with fail
  go_loopw [4, 5, 8, 9, 10, 11, 12, 13, 14, 15, 16, 17, 18, 19] (fun _ _ _ _ _ _ _ _ _ _ _ _ _ _ wr => ∃ (left : Int → Prop) (f1 : Int → Option Value) (rs1 : Int → Option Int), KIter ik wr w.heap.size b f1 left ∧ (∀ t, f1 t = (rs1 t).map fun n => .int .i64 n) ∧ (∀ t, left t → rs1 t = rs t) ∧ (∀ t, ¬ left t → rs1 t = lessR rs g t) ∧ w.grownBy wr (some b)) (fun _ _ _ _ _ _ _ _ _ _ _ _ _ _ wr => leftN wr w.heap.size b)
  case atStart =>
    refine ⟨_, f, rs, hit, Hf.out, fun _ _ => rfl, fun t ht => ?_, hg0⟩
    have : rs t = none := by
      cases hrt : rs t with
      | none => rfl
      | some n => exact absurd (by rw [Hf.out t, hrt]; rfl) ht
    unfold lessR
    rw [this]
  case round =>
    clear hit hb0 hr hg0
    obtain ⟨left, f1, rs1, hit, hf1, hl1, hl2, hg⟩ := hrel
    rcases hit.next stamp_key 0 with ⟨hnone, hnx⟩ | ⟨p, u, w1, hl, hfp, hnx, hit1, hlt, hg1, hz1, hen⟩
    · obtain ⟨n1, hM1⟩ := hit.map
      have HF : Hid (∃ f' n', KMap ik wr b f' n' ∧ ∀ t, f' t = (lessR rs g t).map fun n => .int .i64 n) := ⟨f1, n1, hM1, fun t => by rw [hf1 t, hl2 t (hnone t)]⟩
      have HG := hide hg
      clear hM1 hit hf1 hl1 hl2 hnone hg
      go_wp2
      go_end0
      exact ⟨rfl, HF.out, HG.out⟩
    · have hgw1 : w.grownBy w1 (some b) := grown_new hg hg1 (Nat.le_refl _)
      have hv1 : StampV (fun x => S x ∧ x < w.heap.size) w1 v g := h1.kept hgw1.size fun x hx => hgw1.block x hx.2 (fun e => by
        have e' : x = b := by simpa using e
        exact hb (e' ▸ hx.1))
      rw [hf1 p, hl1 p hl] at hfp
      obtain ⟨cn, hcn, rfl⟩ : ∃ cn, rs p = some cn ∧ u = .int .i64 cn := by
        cases hrp : rs p with
        | none => rw [hrp] at hfp; cases hfp
        | some cn => rw [hrp] at hfp; exact ⟨cn, rfl, (Option.some.inj hfp).symm⟩
      have HB := hide (epB_any p cn w1 (Hin.out p cn hcn) hv1)
      have hpk : ik p = .int .i64 p := rfl
      rw [hpk] at hnx hen
      have hzr : w.heap.size < w1.heap.size := hit1.lt
      have hbr : b ≠ w.heap.size := by omega
      by_cases hle : cn ≤ g p
      · have hd : decide (cn ≤ g p) = true := decide_eq_true hle
        rw [hd] at HB
        have hfin : Hid (∀ w2, Below w1.heap.size w1 w2 → ∃ w3, Sem.run Tryz.prog (Builtin.delete_ #[101, 3] 0 #[.map (some b), .int .i64 p]) w2 = .ok (.tuple #[]) w3 ∧ (∃ (left : Int → Prop) (f1 : Int → Option Value) (rs1 : Int → Option Int), KIter ik w3 w.heap.size b f1 left ∧ (∀ t, f1 t = (rs1 t).map fun n => .int .i64 n) ∧ (∀ t, left t → rs1 t = rs t) ∧ (∀ t, ¬ left t → rs1 t = lessR rs g t) ∧ w.grownBy w3 (some b)) ∧ leftN w3 w.heap.size b < leftN wr w.heap.size b) := fun w2 hb2 => by
          obtain ⟨_, hMx⟩ := hit1.map
          have hlr := hb2.block _ hit1.lt
          have hlb := hb2.block _ hMx.lt
          obtain ⟨w3, hr3, hit3, hlt3, hg3, _⟩ := (hit1.same hlr hlb).del stamp_key Tryz.underlying101 0 p
          obtain ⟨rs2, hrs2⟩ : ∃ rs2 : Int → Option Int, ∀ t, rs2 t = if t = p then none else rs1 t := ⟨_, fun _ => rfl⟩
          refine ⟨w3, hr3, ⟨_, _, rs2, hit3, fun t => ?_, fun t ht => ?_, fun t ht => ?_, grown_then (grown_below hgw1 hb2) hg3⟩, by rw [leftN_same hlr hlb] at hlt3; omega⟩
          · by_cases e : t = p
            · subst e; rw [delK_same, hrs2, if_pos rfl]; rfl
            · rw [delK_other e, hrs2, if_neg e]; exact hf1 t
          · rw [hrs2, if_neg ht.2]; exact hl1 t ht.1.1
          · by_cases e : t = p
            · subst e; rw [hrs2, if_pos rfl]; unfold lessR; rw [hcn]; simp only; rw [if_pos hle]
            · rw [hrs2, if_neg e]; exact hl2 t fun h => ht ⟨⟨h, e⟩, e⟩
        clear hit hit1 hf1 hl1 hl2 hg hg1 hgw1 hv1 hfp hcn hlt hl hz1 hd hle
        go_wp2_with (go_at_call 43; refine HB.out.mono ?_; rintro e w2 ⟨rfl, hb2⟩; obtain ⟨w3, hr3, hrel3, hmea3⟩ := hfin.out w2 hb2; have HR3 := hide hrel3; clear hrel3 hb2)
        go_roundw
        case rel => exact HR3.out
        case measure => exact hmea3
      · have hd : decide (cn ≤ g p) = false := decide_eq_false hle
        rw [hd] at HB
        have hfin : Hid (∀ w2, Below w1.heap.size w1 w2 → (∃ (left : Int → Prop) (f1 : Int → Option Value) (rs1 : Int → Option Int), KIter ik w2 w.heap.size b f1 left ∧ (∀ t, f1 t = (rs1 t).map fun n => .int .i64 n) ∧ (∀ t, left t → rs1 t = rs t) ∧ (∀ t, ¬ left t → rs1 t = lessR rs g t) ∧ w.grownBy w2 (some b)) ∧ leftN w2 w.heap.size b < leftN wr w.heap.size b) := fun w2 hb2 => by
          obtain ⟨_, hMx⟩ := hit1.map
          have hlr := hb2.block _ hit1.lt
          have hlb := hb2.block _ hMx.lt
          refine ⟨⟨_, _, rs1, hit1.same hlr hlb, hf1, fun t ht => hl1 t ht.1, fun t ht => ?_, grown_below hgw1 hb2⟩, by rw [leftN_same hlr hlb]; exact hlt⟩
          by_cases e : t = p
          · subst e
            rw [hl1 t hl, hcn]; unfold lessR; rw [hcn]; simp only; rw [if_neg hle]
          · exact hl2 t fun h => ht ⟨h, e⟩
        clear hit hit1 hf1 hl1 hl2 hg hg1 hgw1 hv1 hfp hcn hlt hl hz1 hd hle
        go_wp2_with (go_at_call 43; refine HB.out.mono ?_; rintro e w2 ⟨rfl, hb2⟩; obtain ⟨hrel3, hmea3⟩ := hfin.out w2 hb2; have HR3 := hide hrel3; clear hrel3 hb2)
        go_roundw
        case rel => exact HR3.out
        case measure => exact hmea3
end Go.Proofs.YtbajfapfpcjenaaGreatDoor
namespace Go.Proofs.YtbajfapfpcjenaaGreatDoor
open Go.RowKit Go.Proofs.Ord

/-- Nothing is changed but blocks of Q, and new ones. -/
structure Chg (Q : Nat → Prop) (w w' : World) : Prop where
  os : w'.os = w.os
  tape : w'.tape = w.tape
  output : w'.output = w.output
  size : w.heap.size ≤ w'.heap.size
  block : ∀ k, k < w.heap.size → ¬ Q k → w'.heap[k]? = w.heap[k]?
theorem Chg.trans {Q Q' : Nat → Prop} {a b c : World} (h : Chg Q a b) (h' : Chg Q' b c) (hQ : ∀ k, k < a.heap.size → Q' k → Q k) : Chg Q a c :=
  ⟨h'.os.trans h.os, h'.tape.trans h.tape, h'.output.trans h.output, Nat.le_trans h.size h'.size, fun k hk hn => (h'.block k (Nat.lt_of_lt_of_le hk h.size) (fun e => hn (hQ k hk e))).trans (h.block k hk hn)⟩
theorem chg_below {Q : Nat → Prop} {a b : World} (h : Below a.heap.size a b) : Chg Q a b := ⟨h.os, h.tape, h.output, h.size, fun k hk _ => h.block k hk⟩
theorem chg_grown {a b : World} {r : Option Nat} (h : a.grownBy b r) : Chg (fun x => some x = r) a b := ⟨h.os, h.tape, h.output, h.size, fun k hk hn => h.block k hk hn⟩
/-- A stamp that was filled by Put: its map in block b, its pages in blocks of Q, none of them shared. -/
structure PutS (B : Nat) (Q : Nat → Prop) (w : World) (b : Nat) (g : Int → Int) : Prop where
  mine : Q b
  ex : ∃ f n pg, KMap ik w b f n ∧ (∀ p v, f p = some v → w.ownsRow B 3 1 v (pg p).length ((pg p).map (Value.int .i64)) ∧ (pg p).length ≤ 64 ∧ ∀ x, v.ownBlock = some x → Q x ∧ x ≠ b) ∧ (∀ p, f p = none → pg p = []) ∧
    (∀ p p' v v' x, f p = some v → f p' = some v' → p ≠ p' → v.ownBlock = some x → v'.ownBlock ≠ some x) ∧ ∀ u, g u = pageAt pg u

theorem ownsKept {w w' : World} {base e size n : Nat} {v : Value} {xs : List Value} (h : w.ownsRow base e size v n xs) (hb : ∀ g, v.ownBlock = some g → w'.heap[g]? = w.heap[g]?) : w'.ownsRow base e size v n xs := by
  refine ⟨h.1, ?_⟩
  rcases h.2 with hn | ⟨g, cap, cur, rfl, hB, hg, rest⟩
  · exact .inl hn
  · exact .inr ⟨g, cap, cur, rfl, hB, (hb g rfl).trans hg, rest⟩
theorem PutS.kept {B : Nat} {Q : Nat → Prop} {w w' : World} {b : Nat} {g : Int → Int} (h : PutS B Q w b g) (hb : ∀ x, Q x → w'.heap[x]? = w.heap[x]?) : PutS B Q w' b g := by
  obtain ⟨h0, f, n, pg, h1, h2, h3⟩ := h
  exact ⟨h0, f, n, pg, h1.same (hb b h0), fun p v hf => ⟨ownsKept (h2 p v hf).1 fun x hx => hb x ((h2 p v hf).2.2 x hx).1, (h2 p v hf).2⟩, h3⟩
theorem PutS.mono {B : Nat} {Q Q' : Nat → Prop} {w : World} {b : Nat} {g : Int → Int} (h : PutS B Q w b g) (hQ : ∀ x, Q x → Q' x) : PutS B Q' w b g := by
  obtain ⟨h0, f, n, pg, h1, h2, h3⟩ := h
  exact ⟨hQ b h0, f, n, pg, h1, fun p v hf => ⟨(h2 p v hf).1, (h2 p v hf).2.1, fun x hx => ⟨hQ x ((h2 p v hf).2.2 x hx).1, ((h2 p v hf).2.2 x hx).2⟩⟩, h3⟩
theorem PutS.congr {B : Nat} {Q : Nat → Prop} {w : World} {b : Nat} {g g' : Int → Int} (h : PutS B Q w b g) (hg : ∀ u, g' u = g u) : PutS B Q w b g' := by
  obtain ⟨h0, f, n, pg, h1, h2, h3, h4, h5⟩ := h
  exact ⟨h0, f, n, pg, h1, h2, h3, h4, fun u => (hg u).trans (h5 u)⟩
theorem PutS.stamp {B : Nat} {Q : Nat → Prop} {w : World} {b : Nat} {g : Int → Int} (h : PutS B Q w b g) : StampV (fun _ => True) w (.map (some b)) g := by
  obtain ⟨h0, f, n, pg, h1, h2, h3, h4, h5⟩ := h
  refine ⟨pg, h5, .inr ⟨b, f, n, rfl, trivial, h1, fun p v hf => ?_, h3⟩⟩
  obtain ⟨ho, hl, _⟩ := h2 p v hf
  obtain ⟨a, cap, rfl, e1, e2, e3, e4, e5⟩ := New.of_owns ho
  exact ⟨a, cap, rfl, ⟨rfl, e2, e3, e4, fun i hi => by obtain ⟨b', off, q1, _, q3, q4, _⟩ := e5 i hi; exact ⟨b', off, q1, q3, q4⟩, by omega⟩, hl, fun _ _ _ _ => trivial⟩
theorem putS_made (B : Nat) (w : World) : PutS B (fun x => x = w.heap.size) (w.alloc (.map #[] 0)) w.heap.size (fun _ => 0) :=
  ⟨rfl, _, _, fun _ => [], KMap.made w, (fun p v h => by cases h), fun _ _ => rfl, (fun p p' v v' x h => by cases h), fun u => by simp [pageAt]⟩
theorem PutS.lt {B : Nat} {Q : Nat → Prop} {w : World} {b : Nat} {g : Int → Int} (h : PutS B Q w b g) : b < w.heap.size := by
  obtain ⟨h0, f, n, pg, h1, _⟩ := h; exact h1.lt

theorem getD_zeros (zs : List Int) (m i : Nat) : (zs ++ List.replicate m 0).getD i 0 = zs.getD i 0 := by
  rw [List.getD_eq_getElem?_getD, List.getD_eq_getElem?_getD]
  by_cases h : i < zs.length
  · rw [List.getElem?_append_left h]
  · rw [List.getElem?_append_right (by omega), List.getElem?_eq_none (l := zs) (by omega)]
    by_cases h2 : i - zs.length < m
    · rw [List.getElem?_replicate, if_pos h2]; rfl
    · rw [List.getElem?_replicate, if_neg h2]

theorem put_pages (pg : Int → List Int) (t num : Int) (zs : List Int) (k : Nat) (hk : t % 64 = (k : Int)) (hz : ∀ i, zs.getD i 0 = (pg (t / 64)).getD i 0) (hl : k < zs.length) (u : Int) :
    pageAt (fun q => if q = t / 64 then zs.set k num else pg q) u = if u = t then num else pageAt pg u := by
  unfold pageAt
  show (if u / 64 = t / 64 then zs.set k num else pg (u / 64)).getD (u % 64).toNat 0 = _
  by_cases e : u = t
  · subst e
    rw [if_pos rfl, if_pos rfl, hk]
    simp [hl]
  · rw [if_neg e]
    by_cases e2 : u / 64 = t / 64
    · rw [if_pos e2, e2, ← hz, List.getD_eq_getElem?_getD, List.getElem?_set_ne (by omega), ← List.getD_eq_getElem?_getD]
    · rw [if_neg e2]

/-- The stamp behind Put. -/
theorem PutS.put {B : Nat} {Q : Nat → Prop} {w w1 w2 w3 : World} {b : Nat} {f : Int → Option Value} {n3 : Nat} {pg : Int → List Int} {g : Int → Int} {t num : Int} {v : Value} {zs : List Int} {k : Nat} (hk : t % 64 = (k : Int)) (hmine : Q b) (hQ : ∀ x, Q x → x < w.heap.size)
    (h2 : ∀ p v, f p = some v → w.ownsRow B 3 1 v (pg p).length ((pg p).map (Value.int .i64)) ∧ (pg p).length ≤ 64 ∧ ∀ x, v.ownBlock = some x → Q x ∧ x ≠ b) (h3 : ∀ p, f p = none → pg p = []) (h4 : ∀ p p' v v' x, f p = some v → f p' = some v' → p ≠ p' → v.ownBlock = some x → v'.ownBlock ≠ some x) (h5 : ∀ u, g u = pageAt pg u)
    (hz : ∀ i, zs.getD i 0 = (pg (t / 64)).getD i 0) (hl : k < zs.length) (h64 : zs.length ≤ 64) (hg1 : w.grownBy w1 ((f (t / 64)).getD (.slice none 0 0)).ownBlock) (hv : v.ownBlock = ((f (t / 64)).getD (.slice none 0 0)).ownBlock ∨ v.ownBlock = some w.heap.size)
    (hown : w2.ownsRow B 3 1 v zs.length ((zs.set k num).map (Value.int .i64))) (hg2 : w1.grownBy w2 v.ownBlock) (hM3 : KMap ik w3 b (putK f (t / 64) v) n3) (hg3 : w2.grownBy w3 (some b)) :
    PutS B (fun x => Q x ∨ (w.heap.size ≤ x ∧ x < w3.heap.size)) w3 b (fun u => if u = t then num else g u) ∧ Chg Q w w3 := by
  have hbw := hQ b hmine
  have hold : ∀ x, ((f (t / 64)).getD (.slice none 0 0)).ownBlock = some x → Q x ∧ x ≠ b := fun x hx => by
    cases hf : f (t / 64) with
    | none => rw [hf] at hx; cases hx
    | some u => rw [hf] at hx; exact (h2 _ u hf).2.2 x hx
  have hvx : ∀ x, v.ownBlock = some x → (Q x ∨ (w.heap.size ≤ x ∧ x < w3.heap.size)) ∧ x ≠ b := fun x hx => by
    rcases hv with h | h
    · rw [h] at hx; exact ⟨.inl (hold x hx).1, (hold x hx).2⟩
    · have hlt := (hown.lt x hx).2
      rw [h] at hx; cases hx
      exact ⟨.inr ⟨Nat.le_refl _, Nat.lt_of_lt_of_le hlt hg3.size⟩, by omega⟩
  -- what stays
  have hst : ∀ x, x < w.heap.size → ((f (t / 64)).getD (.slice none 0 0)).ownBlock ≠ some x → x ≠ b → w3.heap[x]? = w.heap[x]? := fun x hx h1 hb => by
    have hvn : v.ownBlock ≠ some x := fun e => by
      rcases hv with h | h
      · exact h1 (h ▸ e)
      · rw [h] at e; cases e; omega
    exact (hg3.block x (by have := hg1.size; have := hg2.size; omega) (by simpa using hb)).trans ((hg2.block x (by have := hg1.size; omega) (fun e => hvn e.symm)).trans (hg1.block x hx (fun e => h1 e.symm)))
  refine ⟨⟨.inl hmine, _, _, fun q => if q = t / 64 then zs.set k num else pg q, hM3, fun p u hp => ?_, fun p hp => ?_, fun p p' u u' x hp hp' hne hx => ?_, fun u => ?_⟩, ⟨hg3.os.trans (hg2.os.trans hg1.os), hg3.tape.trans (hg2.tape.trans hg1.tape), hg3.output.trans (hg2.output.trans hg1.output), by have := hg1.size; have := hg2.size; have := hg3.size; omega, fun x hx hn => hst x hx (fun e => hn (hold x e).1) (fun e => hn (e ▸ hmine))⟩⟩
  · by_cases e : p = t / 64
    · subst e
      rw [putK_same] at hp; cases hp
      simp only [if_true, List.length_set]
      exact ⟨ownsKept hown fun x hx => hg3.block x (hown.lt x hx).2 (by simpa using (hvx x hx).2), h64, hvx⟩
    · rw [putK_other v e] at hp
      simp only [e, if_false]
      obtain ⟨q1, q2, q3⟩ := h2 p u hp
      refine ⟨ownsKept q1 fun x hx => hst x (hQ x (q3 x hx).1) (fun e2 => ?_) (q3 x hx).2, q2, fun x hx => ⟨.inl (q3 x hx).1, (q3 x hx).2⟩⟩
      cases hf : f (t / 64) with
      | none => rw [hf] at e2; cases e2
      | some u0 => rw [hf] at e2; exact h4 _ p u0 u x hf hp (fun e' => e e'.symm) e2 hx
  · by_cases e : p = t / 64
    · subst e; rw [putK_same] at hp; cases hp
    · rw [putK_other v e] at hp; simp only [e, if_false]; exact h3 p hp
  · have key : ∀ q uq xq, q ≠ t / 64 → f q = some uq → uq.ownBlock = some xq → v.ownBlock ≠ some xq := fun q uq xq hq hfq hxq hvq => by
      rcases hv with h | h
      · rw [h] at hvq
        cases hf : f (t / 64) with
        | none => rw [hf] at hvq; cases hvq
        | some u0 => rw [hf] at hvq; exact h4 _ q u0 uq xq hf hfq (fun e' => hq e'.symm) hvq hxq
      · have := hQ xq ((h2 q uq hfq).2.2 xq hxq).1
        rw [h] at hvq; cases hvq; omega
    by_cases e : p = t / 64
    · subst e
      rw [putK_same] at hp; cases hp
      rw [putK_other _ (fun e' => hne e'.symm)] at hp'
      exact fun hx' => key p' u' x (fun e' => hne e'.symm) hp' hx' hx
    · rw [putK_other _ e] at hp
      by_cases e' : p' = t / 64
      · subst e'
        rw [putK_same] at hp'; cases hp'
        exact key p u x e hp hx
      · rw [putK_other _ e'] at hp'
        exact h4 p p' u u' x hp hp' hne hx
  · rw [put_pages pg t num zs k hk hz hl u, h5 u]

set_option maxRecDepth 100000 in
set_option maxHeartbeats 1000000 in
/-- Put: a thread's number is set, in the stamp itself. -/
theorem putSt_any {B : Nat} {Q : Nat → Prop} {b : Nat} {g : Int → Int} (t num : Int) (w : World) (ht : In64 t) (h : PutS B Q w b g) (hB : B ≤ w.heap.size) (hQ : ∀ x, Q x → x < w.heap.size) :
    Calls Tryz.prog 29 #[.map (some b), .int .i64 t, .int .i64 num] w fun e w' => e = .returned (.tuple #[]) ∧ PutS B (fun x => Q x ∨ (w.heap.size ≤ x ∧ x < w'.heap.size)) w' b (fun u => if u = t then num else g u) ∧ Chg Q w w' := by
  obtain ⟨hmine, f, n, pg, hM, h2, h3, h4, h5⟩ := h
  obtain ⟨i0, hi, hz0, hz1, hz2⟩ := info_parts Tryz.info3
  obtain ⟨k, hk⟩ : ∃ k : Nat, t % 64 = (k : Int) := Int.eq_ofNat_of_zero_le (by omega)
  have hk64 : k < 64 := by omega
  have hlk : Sem.run Tryz.prog (Instr.lookup 59 (.map (some b)) (.int .i64 (t / 64)) false) w = .ok ((f (t / 64)).getD (.slice none 0 0)) w := hM.look stamp_key Tryz.underlying59 (zero_page w) (t / 64)
  obtain ⟨zs, hzs⟩ : ∃ zs, pg (t / 64) = zs := ⟨_, rfl⟩
  have hown0 : w.ownsRow B 3 1 ((f (t / 64)).getD (.slice none 0 0)) zs.length (zs.map (Value.int .i64)) ∧ zs.length ≤ 64 := by
    cases hf : f (t / 64) with
    | none => rw [← hzs, h3 _ hf]; exact ⟨World.ownsRow_nil _ _ _ _, by simp⟩
    | some u => rw [← hzs]; exact ⟨(h2 _ u hf).1, (h2 _ u hf).2.1⟩
  obtain ⟨hown, hl64⟩ := hown0
  have hfin : Hid (∀ (w1 w2 : World) (v : Value) (us : List Int), (∀ i, us.getD i 0 = zs.getD i 0) → k < us.length → us.length ≤ 64 → w.grownBy w1 ((f (t / 64)).getD (.slice none 0 0)).ownBlock → (v.ownBlock = ((f (t / 64)).getD (.slice none 0 0)).ownBlock ∨ v.ownBlock = some w.heap.size) →
      w2.ownsRow B 3 1 v us.length ((us.set k num).map (Value.int .i64)) → w1.grownBy w2 v.ownBlock → ∃ w3, Sem.run Tryz.prog (Instr.mapUpdate 59 (.map (some b)) (.int .i64 (t / 64)) v) w2 = .ok () w3 ∧ PutS B (fun x => Q x ∨ (w.heap.size ≤ x ∧ x < w3.heap.size)) w3 b (fun u => if u = t then num else g u) ∧ Chg Q w w3) := by
    intro w1 w2 v us hus hl h64 hg1 hv hown2 hg2
    have hbne : ∀ x, ((f (t / 64)).getD (.slice none 0 0)).ownBlock = some x → x ≠ b := fun x hx => by
      cases hf : f (t / 64) with
      | none => rw [hf] at hx; cases hx
      | some u => rw [hf] at hx; exact ((h2 _ u hf).2.2 x hx).2
    have hb2 : w2.heap[b]? = w.heap[b]? := (hg2.block b (by have := hM.lt; have := hg1.size; omega) (fun e => by
      rcases hv with h | h
      · exact hbne b (h ▸ e.symm) rfl
      · rw [h] at e; cases e; have := hM.lt; omega)).trans (hg1.block b hM.lt (fun e => hbne b e.symm rfl))
    obtain ⟨w3, hr, hM3, hg3, _⟩ := (hM.same hb2).put stamp_key Tryz.underlying59 (t / 64) v
    exact ⟨w3, hr, PutS.put hk hmine hQ h2 h3 h4 h5 (fun i => by rw [hus, hzs]) hl h64 hg1 hv hown2 hg2 hM3 hg3⟩
  generalize (f (t / 64)).getD (.slice none 0 0) = v0 at hlk hown hfin
  have HK := hide hk
  clear h2 h3 h4 h5 hM hzs hk
  by_cases hlt : k < zs.length
  · obtain ⟨gb, cb, rfl, hBg, hc2, hc3⟩ := owns_pos hown (by omega)
    have hcell := (hown.cellAt k (by omega)).trans (map_getElem hlt)
    have hfr := hown.frozenAt k
    have hst := hown.stored k (.int .i64 num)
    have hg2 : w.grownBy (w.setCell ⟨gb, k, none⟩ (.int .i64 num)) (some gb) := hst.2
    obtain ⟨w3, hr3, hp3, hc3'⟩ := hfin.out w (w.setCell ⟨gb, k, none⟩ (.int .i64 num)) _ zs (fun _ => rfl) hlt hl64 ⟨rfl, rfl, rfl, Nat.le_refl _, fun _ _ _ => rfl⟩ (.inl rfl) (by rw [List.map_set]; exact hst.1) hg2
    have hcmp : (k : Int) < (zs.length : Int) := by omega
    have hgq : decide ((zs.length : Int) ≤ (k : Int)) = false := decide_eq_false (by omega)
    clear hst hg2 hfin hown
    go_enter Tryz.func29, Tryz.ntmps29
    go_wp2_with fail
    refine (place_any _ _ ht).mono ?_
    rintro e w' ⟨rfl, rfl⟩
    rw [HK.out]
    go_wp2_with fail
    go_end0
    exact ⟨rfl, hp3, hc3'⟩
  · obtain ⟨m, hm⟩ : ∃ m, k + 1 = zs.length + m := ⟨k + 1 - zs.length, by omega⟩
    have hm0 : 0 < m := by omega
    have hnum : ((k : Int) + 1 - (zs.length : Int)) = (m : Int) := by omega
    have hcmp : (zs.length : Int) ≤ (k : Int) := by omega
    have hgq : decide ((zs.length : Int) ≤ (k : Int)) = true := decide_eq_true hcmp
    have HM := hide hm
    obtain ⟨a2, c2, rfl, _, h2, h3, _, h4⟩ := New.of_owns hown
    have hbb : (zs.length + m) * 8 ≤ 140737488355328 := by omega
    have hml : zs.length + m ≤ maxLen := by unfold maxLen; omega
    have hstep : Hid (∀ (v' : Value) (w1 : World), w1.ownsRow B 3 1 v' (zs.length + m) (zs.map (Value.int .i64) ++ List.replicate m (.int .i64 0)) → w.grownBy w1 (Value.ownBlock (.slice a2 zs.length c2)) → (v'.ownBlock = Value.ownBlock (.slice a2 zs.length c2) ∨ (v'.ownBlock = some w.heap.size ∧ w.grownBy w1 none)) →
        ∃ gb cb x, v' = .slice (some ⟨gb, 0, none⟩) (zs.length + m) cb ∧ zs.length + m ≤ cb ∧ cb ≤ 9223372036854775807 ∧ w1.cell? ⟨gb, k, none⟩ = some x ∧ w1.frozen? ⟨gb, k, none⟩ = false ∧ ∃ w3, Sem.run Tryz.prog (Instr.mapUpdate 59 (.map (some b)) (.int .i64 (t / 64)) v') (w1.setCell ⟨gb, k, none⟩ (.int .i64 num)) = .ok () w3 ∧ PutS B (fun x => Q x ∨ (w.heap.size ≤ x ∧ x < w3.heap.size)) w3 b (fun u => if u = t then num else g u) ∧ Chg Q w w3) := by
      intro v' w1 hown' hgrow hat
      have hus : (zs ++ List.replicate m 0).map (Value.int .i64) = zs.map (Value.int .i64) ++ List.replicate m (.int .i64 0) := by rw [List.map_append, List.map_replicate]
      have hul : (zs ++ List.replicate m (0 : Int)).length = zs.length + m := by rw [List.length_append, List.length_replicate]
      rw [← hus] at hown'
      obtain ⟨gb, cb, rfl, hBg, q2, q3⟩ := owns_pos hown' (by omega)
      have hst := hown'.stored k (.int .i64 num)
      obtain ⟨w3, hr3, hp3, hc3'⟩ := hfin.out w1 (w1.setCell ⟨gb, k, none⟩ (.int .i64 num)) _ (zs ++ List.replicate m 0) (getD_zeros zs m) (by rw [hul, ← HM.out]; omega) (by rw [hul, ← HM.out]; omega) hgrow (hat.imp id fun h => h.1) (by rw [hul, List.map_set]; exact hst.1) hst.2
      exact ⟨gb, cb, _, rfl, q2, q3, (hown'.cellAt k (by rw [← HM.out]; omega)).trans (map_getElem (by rw [hul, ← HM.out]; omega)), hown'.frozenAt k, w3, hr3, hp3, hc3'⟩
    have hlt2 : (k : Int) < ((zs.length : Int) + (m : Int)) := by omega
    clear hfin hm hlt h4
    go_enter Tryz.func29, Tryz.ntmps29
    go_wp2_with fail
    refine (place_any _ _ ht).mono ?_
    rintro e w' ⟨rfl, rfl⟩
    rw [HK.out]
    go_wp2_with (at_builtin; refine wpList_append_zeros_own _ rfl _ _ 35 3 rfl B 3 i0 (.int .i64 0) 8 Tryz.underlying35 Tryz.underlying3 hi hz0 hz1 hz2 rfl rfl _ zs.length _ rfl hown m rfl hm0 hml hbb hB ?_; intro v' w1 hown' hgrow hat; obtain ⟨gb, cb, x, rfl, q2, q3, hcell, hfr, w3, hr3, hp3, hc3'⟩ := hstep.out v' w1 hown' hgrow hat; clear hown' hgrow hat)
    go_end0
    exact ⟨rfl, hp3, hc3'⟩
end Go.Proofs.YtbajfapfpcjenaaGreatDoor
