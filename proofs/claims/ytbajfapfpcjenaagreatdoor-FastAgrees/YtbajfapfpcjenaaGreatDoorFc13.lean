import Derived.Test.YtbajfapfpcjenaaGreatDoorFc12
import Derived.Test.YtbajfapfpcjenaaGreatDoorKMap
import Derived.Test.YtbajfapfpcjenaaGreatDoorFc7
import Derived.Maps.OwnSet
import Derived.Lib.SlKeysI
import Derived.Test.YtbajfapfpcjenaaGreatDoorFc5
import Derived.Shelf.SlIterI.Nil
import Derived.Shelf.SortM.Plain
import Derived.Shelf.SortM.SortNone
import Derived.Shelf.Lay
import Derived.Ground.GgzProg
import Derived.Ground.SlgmProg
namespace Go.Proofs.YtbajfapfpcjenaaGreatDoor
open Go.RowKit Go.Proofs.Ord

theorem Chg.imp {Q Q' : Nat → Prop} {w w' : World} (h : Chg Q w w') (hQ : ∀ x, Q x → Q' x) : Chg Q' w w' := ⟨h.os, h.tape, h.output, h.size, fun k hk hn => h.block k hk (fun e => hn (hQ k e))⟩
theorem ReadV.shape {w : World} {v : Value} {rs : Int → Option Int} (h : ReadV w v rs) : ∃ mo, v = .map mo ∧ ∀ b, mo = some b → b < w.heap.size := by
  rcases h with ⟨e, _⟩ | ⟨b', _, _, e, hM, _⟩
  · exact ⟨none, e, fun b h => by cases h⟩
  · exact ⟨some b', e, fun b h => by cases h; exact hM.lt⟩
theorem NextR.rsIn {rs rs' : Int → Option Int} {g : Int → Int} {rt rn : Int} (h : NextR rs rs' g rt rn) (hin : RsIn rs) (hrt : In64 rt) : RsIn rs' := fun t n e => by
  rcases h.old t n e with h | h
  · exact hin t n h
  · rw [h.1]; exact hrt

section
variable {w w' : World} {tag : Nat → Tag} {bd bf bk br : Nat} {S : Nat → Prop} {K R : Int → Option Value} {T : Int → Option Nat} {L : Nat → Ev} {kf k : Nat}

theorem DetW.took {e : Ending} {t kd o v wt wn rt rn : Int} {rs : Int → Option Int} (h : DetW w tag bd bf bk br S K R T L kf k) (hx : L k = ⟨t, kd, o, v⟩) (ht : In64 t) (ho : In64 o) (hc : cF L k = true)
    (hvs : VarS L k o wt wn rt rn rs) (hwt : In64 wt) (hrt : In64 rt) (hin : RsIn rs) (hq : TakeQ w bk K o t kd wt wn rt rn (.map (T o)) rs (stampN L (cF L) k) e w') :
    ∃ c : Bool, e = .returned (.bool c) ∧ isFirst L k = (!c) ∧ (c = false → Below w.heap.size w w') ∧ (c = true → ∃ tag' K' T', DetW w' tag' bd bf bk br S K' R T' L kf (k + 1) ∧ (∀ b, b < w.heap.size → tag' b ≠ .o → tag b ≠ .o) ∧ Chg (fun b => tag b ≠ .o) w w') := by
  obtain ⟨c, rfl, hcq, hcf, hct⟩ := hq
  have hobj : (L k).obj = o := by rw [hx]
  have hkind : (L k).kind = kd := by rw [hx]
  have hthr : (L k).thread = t := by rw [hx]
  obtain ⟨ha, hcl⟩ := (cF_iff L k).1 hc
  rw [hobj] at hcl
  have hkd : kd = 1 ∨ kd = 2 := by rw [← hkind]; unfold access at ha; simpa using ha
  have htell := take_tells hvs hcl hobj ha
  rw [hkind] at htell
  have hcr : c = true ↔ racy L k = false := hcq.trans htell
  have hfi : isFirst L k = (!c) := by
    rw [isFirst_cF, hc, Bool.true_and]
    cases c with
    | true => rw [hcr.1 rfl]; rfl
    | false =>
      cases hr : racy L k with
      | true => rfl
      | false => exact absurd (hcr.2 hr) (by simp)
  refine ⟨c, rfl, hfi, hcf, fun hct' => ?_⟩
  subst hct'
  obtain ⟨hcase, hch⟩ := hct rfl
  have hnr := hcr.1 rfl
  have hcl1 : Clean L o (k + 1) := clean_succ.2 ⟨hcl, by unfold hits; rw [hnr]; rfl⟩
  obtain ⟨nr, hnr', hR⟩ := h.raced
  have hro : R o = none := by
    rcases h.races o with h | h
    · exact h.1
    · exact absurd hcl h.2
  have hch' : Chg (fun x => x = bk ∨ x = br ∨ T o = some x) w w' := hch.imp fun x hx => hx.elim .inl fun e => .inr (.inr (by simpa using e))
  have hbr : w'.heap[br]? = w.heap[br]? := hch.block br hR.lt (fun e => by
    rcases e with e | e
    · have := h.tr; rw [e, h.tk] at this; cases this
    · have : T o = some br := by simpa using e
      have := h.tt o br this
      rw [h.tr] at this; cases this)
  have hchg : Chg (fun b => tag b ≠ .o) w w' := hch.imp fun x hx => by
    rcases hx with rfl | e
    · rw [h.tk]; simp
    · have : T o = some x := by simpa using e
      rw [h.tt o x this]; simp
  have hfin : ∀ {mo : Option Nat} {va : Value} {nk : Nat}, (∀ b, mo = some b → (T o = some b ∨ w.heap.size ≤ b) ∧ b < w'.heap.size) → KMap ik w' bk (putK K o va) nk → VarOk w' L (k + 1) o va mo →
      ∃ tag' K' T', DetW w' tag' bd bf bk br S K' R T' L kf (k + 1) ∧ (∀ b, b < w.heap.size → tag' b ≠ .o → tag b ≠ .o) ∧ Chg (fun b => tag b ≠ .o) w w' := fun {mo va nk} hmo hK hva => by
    refine ⟨_, _, _, h.step hobj ho (Nat.le_succ_of_le hnr') hch' hmo hK (hR.same hbr) (fun x hx => putK_other va hx) (fun _ _ => rfl) (fun va' hv' => ?_) (fun hn => ?_) (.inl ⟨hro, hcl1⟩), fun b hb hne => tagT_old (fun e => ?_) hne, hchg⟩
    · rw [putK_same] at hv'; cases hv'; exact ⟨hcl1, hva⟩
    · rw [putK_same] at hn; cases hn
    · rcases (hmo b e).1 with e' | e'
      · exact h.tt o b e'
      · omega
  rcases hcase with ⟨hk1, rv', rs', room', nk', hK, hr', hN, hrv⟩ | ⟨hk1, nk', hK⟩
  · obtain ⟨mo', rfl, hlt⟩ := hr'.shape
    refine hfin (mo := mo') (fun b e => ⟨?_, hlt b e⟩) hK ⟨wt, wn, t, stampN L (cF L) k t, rs', room', rfl, hr', ?_, hwt, ht, hN.rsIn hin hrt⟩
    · rcases hrv with e' | ⟨_, b', e', h1, _⟩
      · left; cases e'; exact e
      · right; cases e'; cases e; exact h1
    · have := hvs.read (rs' := rs') hcl ⟨by rw [hkind]; exact hk1, hobj⟩ hN.old hN.last (fun t n hn => (hN.all t n hn).imp id (fun h => h.imp id fun h => ⟨h.1, h.2.2⟩))
      rw [hthr] at this
      exact this
  · refine hfin (mo := none) (fun b e => by cases e) hK ⟨t, stampN L (cF L) k t, 0, 0, fun _ => none, 0, rfl, .inl ⟨rfl, fun _ => rfl⟩, ?_, ht, by unfold In64; omega, fun t n e => by cases e⟩
    have := varS_write L k o ⟨by rw [hkind]; omega, hobj⟩
    rw [hthr] at this
    exact this

/-- Behind a first race. -/
theorem DetW.race {t kd o v : Int} {nk nr : Nat} (h : DetW w tag bd bf bk br S K R T L kf k) (hx : L k = ⟨t, kd, o, v⟩) (ho : In64 o) (hf : isFirst L k = true) (hnr : nr ≤ k + 1)
    (hK : KMap ik w' bk (delK K o) nk) (hR : KMap ik w' br (putK R o (.agg #[])) nr) (hch : Chg (fun x => x = bk ∨ x = br) w w') :
    ∃ tag' K' R' T', DetW w' tag' bd bf bk br S K' R' T' L kf (k + 1) ∧ (∀ b, b < w.heap.size → tag' b ≠ .o → tag b ≠ .o) ∧ Chg (fun b => tag b ≠ .o) w w' := by
  have hobj : (L k).obj = o := by rw [hx]
  have hno : ¬ Clean L o (k + 1) := fun hcl => by
    have := hcl k (by omega)
    unfold hits at this
    rw [((isFirst_iff L k).1 hf).1, hobj] at this
    simp at this
  refine ⟨_, _, _, _, h.step (mo := none) hobj ho hnr (hch.imp fun x hx => hx.imp id .inl) (fun b e => by cases e) hK hR (fun x hx => delK_other hx) (fun x hx => putK_other _ hx) (fun va hv => ?_) (fun _ => ⟨rfl, hno⟩) (.inr ⟨putK_same _ _ _, hno⟩), fun b hb hne => tagT_old (fun e => by cases e) hne, hch.imp fun x hx => ?_⟩
  · rw [delK_same] at hv; cases hv
  · rcases hx with rfl | rfl
    · rw [h.tk]; simp
    · rw [h.tr]; simp
end
end Go.Proofs.YtbajfapfpcjenaaGreatDoor
namespace Go.Proofs.YtbajfapfpcjenaaGreatDoor
open Go.RowKit Go.Proofs.Ord

/-- What See leaves. -/
def SeeFin (w : World) (tag : Nat → Tag) (bd bf bk br : Nat) (L : Nat → Ev) (k : Nat) (w' : World) : Prop :=
  ∃ tag' S' K' R' T', DetW w' tag' bd bf bk br S' K' R' T' L (k + 1) (k + 1) ∧ (∀ b, b < w.heap.size → tag' b ≠ .o → tag b ≠ .o) ∧ Chg (fun b => tag b ≠ .o) w w'
/-- While See works. -/
def SeeMid (w : World) (tag : Nat → Tag) (bd bf bk br : Nat) (K R : Int → Option Value) (T : Int → Option Nat) (L : Nat → Ev) (k : Nat) (o : Int) (w' : World) : Prop :=
  ∃ tag' S', DetW w' tag' bd bf bk br S' K R T L (k + 1) k ∧ (∀ b, b < w.heap.size → tag' b ≠ .o → tag b ≠ .o) ∧ Chg (fun b => tag b ≠ .o) w w' ∧ w'.cell? ⟨w.heap.size, 2, none⟩ = some (.int .i64 o) ∧ w.heap.size < w'.heap.size
/-- What the third test of See leaves. -/
def SeeTest (w : World) (tag : Nat → Tag) (bd bf bk br : Nat) (K R : Int → Option Value) (T : Int → Option Nat) (L : Nat → Ev) (k : Nat) (o : Int) (p : Value) (w' : World) : Prop :=
  (p = .bool true ∧ isFirst L k = false ∧ SeeFin w tag bd bf bk br L k w') ∨ (p = .bool false ∧ isFirst L k = true ∧ SeeMid w tag bd bf bk br K R T L k o w')
theorem DetW.cells {w : World} {tag : Nat → Tag} {bd bf bk br : Nat} {S : Nat → Prop} {K R : Int → Option Value} {T : Int → Option Nat} {L : Nat → Ev} {kf k : Nat} (h : DetW w tag bd bf bk br S K R T L kf k) :
    w.cell? ⟨bd, 0, none⟩ = some (.map (some bf)) ∧ w.cell? ⟨bd, 1, none⟩ = some (.map (some bk)) ∧ w.cell? ⟨bd, 2, none⟩ = some (.map (some br)) := by
  refine ⟨?_, ?_, ?_⟩ <;> simp [World.cell?, h.cd]

set_option maxRecDepth 100000 in
set_option maxHeartbeats 2000000 in
theorem see_any {tag : Nat → Tag} {bd bf bk br : Nat} {S : Nat → Prop} {K R : Int → Option Value} {T : Int → Option Nat} {L : Nat → Ev} {k : Nat} (t kd o v : Int) (w : World) (h : DetW w tag bd bf bk br S K R T L k k) (hx : L k = ⟨t, kd, o, v⟩) (ht : In64 t) (ho : In64 o) (hk : k < 1048576) :
    Calls Tryz.prog 8 #[.pointer (some ⟨bd, 0, none⟩), evV ⟨t, kd, o, v⟩] w fun e w' => e = .returned (.bool (isFirst L k)) ∧ SeeFin w tag bd bf bk br L k w' := by
  obtain ⟨W, hW⟩ : ∃ W, w.alloc (.cells #[.int .i64 t, .int .i64 kd, .int .i64 o, .int .i64 v] 33) = W := ⟨_, rfl⟩
  have hbW : Below w.heap.size w W := by rw [← hW]; exact (Below.refl _ _).alloc (Nat.le_refl _) _
  have hzW : W.heap.size = w.heap.size + 1 := by rw [← hW]; simp
  have hDW := h.below hbW
  have HX := hide hx
  obtain ⟨q0, q1, q2, q3⟩ := cells_ev (w := W) (b := w.heap.size) (by rw [← hW]; exact heap_alloc_new w _)
  have hacc : Hid (access ⟨t, kd, o, v⟩ = access (L k)) := by rw [hx]; exact rfl
  have hfresh : ∀ {b : Nat} {g : Tag}, tag b = g → g ≠ .o → b < w.heap.size := fun e hn => h.tlt _ (by rw [e]; exact hn)
  have hbdl := hfresh h.td (by simp)
  have hfresh : Hid (bd < w.heap.size ∧ bf < w.heap.size ∧ bk < w.heap.size ∧ br < w.heap.size) := ⟨hfresh h.td (by simp), hfresh h.tf (by simp), hfresh h.tk (by simp), hfresh h.tr (by simp)⟩
  have HTL := hide h.tlt
  have HBW := hide hbW
  have HZ := hide hzW
  have HD := hide hDW
  clear hx hbW hDW h hzW
  unfold evV
  go_enter Tryz.func8, Tryz.ntmps8
  go_upto_region 1 with fail
  clear hW
  go_cut [5] (fun p wx => p = .bool (cF L k) ∧ Below W.heap.size W wx)
  case first =>
    go_wp2_with fail
    refine (isAccessF_any t kd o v W).mono ?_
    rintro e w1 ⟨rfl, hb1⟩
    obtain ⟨ac, hac⟩ : ∃ ac, Hid (access ⟨t, kd, o, v⟩ = ac) := ⟨_, rfl⟩
    rw [hac.out]
    cases ac with
    | false =>
      have hc : Hid (cF L k = false) := by
        cases hcf : cF L k with
        | false => exact rfl
        | true => have := ((cF_iff L k).1 hcf).1; rw [← hacc.out, hac.out] at this; cases this
      go_wp2_with fail
      go_meet
      exact ⟨by rw [hc.out], hb1⟩
    | true =>
      have hD1 := HD.out.below hb1
      obtain ⟨nr, _, hR⟩ := hD1.raced
      have e2 := (hb1.cell (p := ⟨w.heap.size, 2, none⟩) (show w.heap.size < W.heap.size by have := HZ.out; omega)).trans q2
      have HH := hide (hadRace_any o w1 hD1.cells.2.2 hR (by rcases hD1.races o with h | h <;> rw [h.1] <;> rfl))
      have hcf : Hid (cF L k = !(R o).isSome) := by
        have hob : (L k).obj = o := by rw [HX.out]
        rcases hD1.races o with h | h
        · rw [h.1]
          exact (cF_iff L k).2 ⟨by rw [← hacc.out, hac.out], by rw [hob]; exact h.2⟩
        · rw [h.1]
          show cF L k = false
          cases hcf : cF L k with
          | false => rfl
          | true => have := ((cF_iff L k).1 hcf).2; rw [hob] at this; exact absurd this h.2
      clear hD1 hR
      go_wp2_with fail
      refine HH.out.mono ?_
      rintro e w2 ⟨rfl, hb2⟩
      have hb12 : Hid (Below W.heap.size W w2) := hb1.trans (hb2.mono hb1.size)
      clear hb1 hb2 HH
      go_wp2_with fail
      go_meet
      exact ⟨by rw [hcf.out]; cases R o <;> rfl, hb12.out⟩
  case rest =>
    obtain ⟨rfl, hb⟩ := hcut
    obtain ⟨w3, hw3⟩ : ∃ x, x = wc := ⟨_, rfl⟩
    subst hw3
    have hD3 := HD.out.below (hb.trans (Below.refl _ _).drew)
    have HN := hide (next_any t kd o v w3.drew hD3.flow HX.out ht (by omega))
    obtain ⟨c0, c1, c2⟩ := hD3.cells
    have hb3 : Hid (Below W.heap.size W w3.drew) := hb.trans (Below.refl _ _).drew
    have hwl : w.heap.size < W.heap.size := by have := HZ.out; omega
    have r0 := (hb3.out.cell (p := ⟨w.heap.size, 0, none⟩) hwl).trans q0
    have r1 := (hb3.out.cell (p := ⟨w.heap.size, 1, none⟩) hwl).trans q1
    have r2 := (hb3.out.cell (p := ⟨w.heap.size, 2, none⟩) hwl).trans q2
    have r3 := (hb3.out.cell (p := ⟨w.heap.size, 3, none⟩) hwl).trans q3
    have HD3 := hide hD3
    clear hD3 hb
    go_upto_region 2 with fail
    go_cut [6] (fun s wx => StampV (SN S w3.drew wx) wx s (stampN L (cF L) k) ∧ FlowW (SN S w3.drew wx) wx bf L (cF L) (k + 1) ∧ w3.drew.grownBy wx (some bf))
    case first =>
      go_region_with (go_at_call 23; refine HN.out.mono ?_; rintro e w4 ⟨s, rfl, hst, hfl, hg⟩)
      all_goals
        go_wp2_with fail
        go_meet
        exact ⟨hst, hfl, hg⟩
    case rest =>
      obtain ⟨hst, hfl, hg⟩ := hcut
      obtain ⟨w4, hw4⟩ : ∃ x, x = wc := ⟨_, rfl⟩
      subst hw4
      have hD4 := HD3.out.next hg hfl
      have hz3 : w.heap.size < w3.drew.heap.size := Nat.lt_of_lt_of_le hwl hb3.out.size
      have hz4 := hg.size
      have hbf : bf < w.heap.size := hfresh.out.2.1
      have hgb : ∀ b, b < w3.drew.heap.size → b ≠ bf → w4.heap[b]? = w3.drew.heap[b]? := fun b hb hn => hg.block b hb (fun e => hn (by cases e; rfl))
      have hne : w.heap.size ≠ bf := by omega
      have s0 := (World.cell?_of_block (w := w3.drew) (w' := w4) (a := ⟨w.heap.size, 0, none⟩) (hgb _ hz3 hne)).trans r0
      have s1 := (World.cell?_of_block (w := w3.drew) (w' := w4) (a := ⟨w.heap.size, 1, none⟩) (hgb _ hz3 hne)).trans r1
      have s2 := (World.cell?_of_block (w := w3.drew) (w' := w4) (a := ⟨w.heap.size, 2, none⟩) (hgb _ hz3 hne)).trans r2
      have s3 := (World.cell?_of_block (w := w3.drew) (w' := w4) (a := ⟨w.heap.size, 3, none⟩) (hgb _ hz3 hne)).trans r3
      have hold : Hid (∀ b, b < w.heap.size → tagN tag w3.drew w4 b ≠ .o → tag b ≠ .o) := fun b hb => by rw [tagN_old (by omega)]; exact id
      have hch : Hid (Chg (fun b => tag b ≠ .o) w w4) := by
        have h1 : Below w.heap.size w w3.drew := HBW.out.trans (hb3.out.mono (by omega))
        refine (chg_below h1).trans (chg_grown hg) (fun b _ e => ?_)
        cases e
        rw [HD3.out.tf]; simp
      have hlt4 : Hid (w.heap.size < w4.heap.size) := by unfold Hid; omega
      have HS4 : Hid (StampV (SN S w3.drew w4) w4.drew u6 (stampN L (cF L) k) ∧ ∀ x, SN S w3.drew w4 x → x < w4.drew.heap.size) := ⟨hst.any (Below.refl _ _).drew, fun x hx => hx.lt (fun y hy => HD3.out.flow.lt y hy) hz4⟩
      obtain ⟨tag4, htag4⟩ : ∃ f, f = tagN tag w3.drew w4 := ⟨_, rfl⟩
      obtain ⟨S4, hS4⟩ : ∃ f, f = SN S w3.drew w4 := ⟨_, rfl⟩
      rw [← htag4, ← hS4] at hD4
      rw [← htag4] at hold
      rw [← hS4] at HS4
      have HD4 := hide (hD4.below (Below.refl _ _).drew)
      clear hst hfl hg hgb hz3 hz4 htag4 hS4 r0 r1 r2 r3 q0 q1 q2 q3 c0 c1 c2 HN HD3 HD hb3 hwl hD4
      have hcells := HD4.out.cells
      obtain ⟨c0, c1, c2⟩ := hcells
      have t0 : w4.drew.cell? ⟨w.heap.size, 0, none⟩ = some (.int .i64 t) := s0
      have t1 : w4.drew.cell? ⟨w.heap.size, 1, none⟩ = some (.int .i64 kd) := s1
      have t2 : w4.drew.cell? ⟨w.heap.size, 2, none⟩ = some (.int .i64 o) := s2
      have t3 : w4.drew.cell? ⟨w.heap.size, 3, none⟩ = some (.int .i64 v) := s3
      clear s0 s1 s2 s3
      have hchd : Hid (Chg (fun b => tag b ≠ .o) w w4.drew) := hch.out.trans (chg_below (Q := fun b => tag b ≠ .o) (Below.refl _ _).drew) (fun _ _ e => e)
      go_upto_region 3 with fail
      go_cut [5, 33] (fun _ p wx => SeeTest w tag bd bf bk br K R T L k o p wx)
      case first =>
        obtain ⟨cb, hcb⟩ : ∃ cb, Hid (cF L k = cb) := ⟨_, rfl⟩
        rw [hcb.out]
        cases cb with
        | false =>
          have hfin : Hid (SeeTest w tag bd bf bk br K R T L k o (.bool true) w4.drew) := .inl ⟨rfl, by rw [isFirst_cF, hcb.out]; rfl, _, _, _, _, _, HD4.out.quiet hcb.out, hold.out, hchd.out⟩
          go_region
          all_goals
            go_wp2_with fail
            go_meet
            exact hfin.out
        | true =>
          obtain ⟨wt, wn, rt, rn, rs, room, hFo, hrv, hvs, hwt, hrt, hin⟩ := HD4.out.find o (by have := ((cF_iff L k).1 hcb.out).2; rw [HX.out] at this; exact this)
          obtain ⟨nk, hM⟩ := HD4.out.kept
          have hne1 : Value.map (T o) ≠ .map (some bk) := fun e => by
            have e' : T o = some bk := by simpa using e
            have := HD4.out.tt o bk e'
            rw [HD4.out.tk] at this; cases this
          have hne2 : ∀ x, S4 x → x < w4.drew.heap.size ∧ x ≠ bk ∧ Value.map (T o) ≠ .map (some x) := fun x hx => by
            refine ⟨HS4.out.2 x hx, fun e => ?_, fun e => ?_⟩
            · have := HD4.out.ts x hx
              rw [e, HD4.out.tk] at this; cases this
            · have e' : T o = some x := by simpa using e
              have := HD4.out.tt o x e'
              rw [HD4.out.ts x hx] at this; cases this
          have HT := hide (takeF_any t kd o v w4.drew hM hFo hrv hin hwt hrt ht hne1 HS4.out.1 hne2)
          have HTK : Hid (∀ e w5, TakeQ w4.drew bk K o t kd wt wn rt rn (.map (T o)) rs (stampN L (cF L) k) e w5 → ∃ c : Bool, e = .returned (.bool c) ∧ SeeTest w tag bd bf bk br K R T L k o (.bool c) w5) := fun e w5 hq => by
            obtain ⟨c, h1, h2, h3, h4⟩ := HD4.out.took HX.out ht ho hcb.out hvs hwt hrt hin hq
            refine ⟨c, h1, ?_⟩
            have hz : w.heap.size < w4.drew.heap.size := hlt4.out
            cases c with
            | true =>
              obtain ⟨tag5, K5, T5, hD5, h5, h6⟩ := h4 rfl
              refine .inl ⟨rfl, h2, tag5, _, K5, R, T5, hD5, fun b hb hn => hold.out b hb (h5 b (by omega) hn), hchd.out.trans h6 (fun b hb hn => hold.out b hb hn)⟩
            | false =>
              have hb5 := h3 rfl
              refine .inr ⟨rfl, h2, tag4, S4, HD4.out.below hb5, hold.out, hchd.out.trans (chg_below (Q := fun b => tag b ≠ .o) hb5) (fun _ _ e => e), (hb5.cell (p := ⟨w.heap.size, 2, none⟩) hz).trans t2, by have := hb5.size; omega⟩
          clear hFo hrv hvs hin hM hne1 hne2
          go_region_with (go_at_call 24; refine HT.out.mono ?_; rintro e w5 hq; obtain ⟨c, rfl, hfin⟩ := HTK.out e w5 hq; have HFN := hide hfin; clear hq hfin)
          all_goals
            go_wp2_with fail
            go_meet
            exact HFN.out
      case rest =>
        rcases hcut with ⟨rfl, hf, hfin⟩ | ⟨rfl, hf, hmid⟩
        · have HFN := hide hfin
          clear hfin
          go_wp2_with fail
          go_ret
          exact ⟨by rw [hf]; rfl, HFN.out⟩
        · clear t0 t1 t2 t3 c0 c1 c2 HS4 HD4 hold hch hchd hlt4
          obtain ⟨w5, hw5⟩ : ∃ x, x = wc := ⟨_, rfl⟩
          subst hw5
          obtain ⟨tag5, S5, hD5, hold5, hch5, e2, hlt5⟩ := hmid
          obtain ⟨nk, hMk⟩ := hD5.kept
          obtain ⟨nr, hnr, hMr⟩ := hD5.raced
          obtain ⟨c0, c1, c2⟩ := hD5.cells
          have hbk := hMk.lt
          have hbr := hMr.lt
          have hkr : bk ≠ br := fun e => by have := hD5.tk; rw [e, hD5.tr] at this; cases this
          have hdk : bd ≠ bk := fun e => by have := hD5.td; rw [e, hD5.tk] at this; cases this
          have hek : w.heap.size ≠ bk := by have := hfresh.out.2.2.1; omega
          have her : w.heap.size ≠ br := by have := hfresh.out.2.2.2; omega
          obtain ⟨w6, hdel, hMk6, hg6, hz6⟩ := (hMk.same (w' := w5.drew) rfl).del stamp_key Tryz.underlying45 0 o
          have hdel' : Sem.run Tryz.prog (Builtin.delete_ #[45, 3] 0 #[.map (some bk), .int .i64 o]) w5.drew = .ok (.tuple #[]) w6 := hdel
          have hb6 : ∀ b, b < w5.heap.size → b ≠ bk → w6.heap[b]? = w5.heap[b]? := fun b hb hn => hg6.block b hb (fun e => hn (by cases e; rfl))
          have hbd5 : bd < w5.heap.size := by have := hfresh.out.1; omega
          have hMr6 : KMap ik w6.drew br R nr := hMr.same (hb6 br hbr (Ne.symm hkr))
          obtain ⟨w7, hput, hMr7, hg7, hz7⟩ := hMr6.put stamp_key Tryz.underlying46 o (.agg #[])
          have hput' : Sem.run Tryz.prog (Instr.mapUpdate 46 (.map (some br)) (.int .i64 o) (.agg #[])) w6.drew = .ok () w7 := hput
          have d0 : w5.drew.cell? ⟨bd, 0, none⟩ = some (.map (some bf)) := c0
          have d1 : w5.drew.cell? ⟨bd, 1, none⟩ = some (.map (some bk)) := c1
          have d2 : w5.drew.cell? ⟨bd, 2, none⟩ = some (.map (some br)) := c2
          have e2' : w5.drew.cell? ⟨w.heap.size, 2, none⟩ = some (.int .i64 o) := e2
          have g2 : w6.drew.cell? ⟨bd, 2, none⟩ = some (.map (some br)) := (World.cell?_of_block (w := w5) (w' := w6) (a := ⟨bd, 2, none⟩) (hb6 bd hbd5 hdk)).trans c2
          have g3 : w6.drew.cell? ⟨w.heap.size, 2, none⟩ = some (.int .i64 o) := (World.cell?_of_block (w := w5) (w' := w6) (a := ⟨w.heap.size, 2, none⟩) (hb6 _ hlt5 hek)).trans e2
          have hch57 : Chg (fun x => x = bk ∨ x = br) w5 w7 := by
            have h1 : Chg (fun x => x = bk ∨ x = br) w5 w6 := (chg_below (Q := fun x => x = bk ∨ x = br) (Below.refl w5.heap.size w5).drew).trans (chg_grown hg6) (fun x _ e => .inl (by cases e; rfl))
            have h2 : Chg (fun x => x = bk ∨ x = br) w5 w6.drew := h1.trans (chg_below (Q := fun x => x = bk ∨ x = br) (Below.refl w6.heap.size w6).drew) (fun x _ e => e)
            exact h2.trans (chg_grown hg7) (fun x _ e => .inr (by cases e; rfl))
          have hMk7 : KMap ik w7 bk (delK K o) _ := hMk6.same (hg7.block bk hMk6.lt (fun e => hkr (by cases e; rfl)))
          have hfin : Hid (SeeFin w tag bd bf bk br L k w7) := by
            obtain ⟨tag7, K7, R7, T7, hD7, h5, h6⟩ := hD5.race HX.out ho hf (by split <;> omega) hMk7 hMr7 hch57
            exact ⟨tag7, _, K7, R7, T7, hD7, fun b hb hn => hold5 b hb (h5 b (by omega) hn), hch5.trans h6 (fun b hb hn => hold5 b hb hn)⟩
          clear hdel hput c0 c1 c2 e2 hMk hMr hD5 hold5 hch5 hMk6 hg6 hz6 hMr6 hMr7 hg7 hz7 hch57 hMk7 hb6 hnr
          go_upto_region 5 with fail
          go_region
          go_upto_region 6 with fail
          go_region
          go_wp2_with fail
          go_ret
          exact ⟨by rw [hf]; rfl, hfin.out⟩
end Go.Proofs.YtbajfapfpcjenaaGreatDoor
/-
  A map of numbers, as the library's contracts ask for it: its keys.
-/
namespace Go.Proofs.YtbajfapfpcjenaaGreatDoor
open Go.RowKit Go.Proofs.Ord Go.Maps

/-- Whatever an element is, it reads as nothing. -/
def blindR (_ : Value) : Option (DataW Unit × List MemPlace) := some (.nil, [])
theorem wf64 {x : Int} (h : In64 x) : (Lit.int .i64 x).wf = true := by
  unfold In64 at h
  have h1 : IntKind.i64.min ≤ x := by show -9223372036854775808 ≤ x; exact h.1
  simp [Lit.wf, h1, h.2]

/-- The number of an entry's key. -/
def keyInt (e : MapEntry) : Int := match e.key with
  | .int _ a => a
  | _ => 0
theorem keys_perm {rgf : MapEntry → Lit × DataW Unit} {l : List MapEntry} {kf : MapEntry → Int} (h : ∀ e, e ∈ l → Go.intOf (rgf e).1 = kf e) : (intKeys (.map ((l.map rgf).foldr DataW.insert []))).Perm (l.map kf) := by
  show (((l.map rgf).foldr DataW.insert []).map fun p => Go.intOf p.1).Perm _
  refine ((WideShapes.sorted_perm _).map _).trans ?_
  rw [List.map_map]
  exact List.Perm.of_eq (List.map_congr_left fun e he => h e he)

theorem KMap.ownsI {w : World} {b n : Nat} {f : Int → Option Value} (h : KMap ik w b f n) (hin : ∀ x, f x ≠ none → In64 x) (hn : n ≤ maxLen) :
    ∃ D0 : DataW Unit, w.ownsMap Tryz.prog 3 blindR b n D0 ∧ Maps.size D0 = n ∧ (intKeys D0).Nodup ∧ ∀ x, x ∈ intKeys D0 ↔ f x ≠ none := by
  obtain ⟨es, clock, hb, hE, hs⟩ := h
  have hkey : ∀ e, e ∈ es.toList → ∃ x, e.key = .int .i64 x ∧ f x = some e.val ∧ keyOf Tryz.prog 3 e.key = some (.int .i64 x) := fun e he => by
    obtain ⟨x, h1, h2⟩ := hE.mem e he
    refine ⟨x, h1, h2, ?_⟩
    rw [h1]
    exact keyOf_int_mk Tryz.underlying3 (wf64 (hin x (by rw [h2]; simp)))
  have hrd : ∀ e, e ∈ es.toList → ∃ x, e.key = .int .i64 x ∧ f x = some e.val ∧ WideElems.rd Tryz.prog 3 blindR e = some (.int .i64 x, .nil) := fun e he => by
    obtain ⟨x, h1, h2, h3⟩ := hkey e he
    exact ⟨x, h1, h2, by simp [WideElems.rd, h3, blindR]⟩
  have hFit : WideElems.Fit Tryz.prog 3 blindR es clock := ⟨by rw [hs]; exact hn, hE.stamped, fun e he => by obtain ⟨x, _, _, h3⟩ := hrd e he; exact ⟨_, h3⟩⟩
  have hrg : ∀ e, e ∈ es.toList → Go.intOf (WideElems.rg Tryz.prog 3 blindR e).1 = keyInt e := fun e he => by
    obtain ⟨x, h1, _, h3⟩ := hrd e he
    rw [WideElems.rg_of h3]; unfold keyInt; rw [h1]; rfl
  have hks := keys_perm (l := es.toList) (kf := keyInt) hrg
  refine ⟨_, ⟨es, clock, hb, hFit, Nat.le_of_eq hs, rfl⟩, ?_, ?_, fun x => ?_⟩
  · rw [Maps.size_eq, length_read, hs]
  · refine hks.nodup_iff.2 ?_
    refine List.pairwise_map.2 ?_
    have hn := hE.stamped.2.2
    rw [List.Nodup, List.pairwise_map] at hn
    refine hn.imp_of_mem fun {a c} ha hc hne e => hne ?_
    obtain ⟨x, h1, _⟩ := hkey a ha
    obtain ⟨y, h2, _⟩ := hkey c hc
    unfold keyInt at e
    rw [h1, h2] at e ⊢
    simp only at e
    rw [e]
  · rw [hks.mem_iff, List.mem_map]
    constructor
    · rintro ⟨e, he, rfl⟩
      obtain ⟨y, h1, h2, _⟩ := hkey e he
      unfold keyInt
      rw [h1]; simp only
      rw [h2]; simp
    · intro hx
      obtain ⟨v, hv⟩ := Option.ne_none_iff_exists'.1 hx
      obtain ⟨e, he, hke⟩ := hE.has x v hv
      exact ⟨e, he, by unfold keyInt; rw [hke]; rfl⟩
end Go.Proofs.YtbajfapfpcjenaaGreatDoor
namespace Go.Proofs
open Go.RowKit Go.Maps Go.Sort Go.Shelf
shelf_lay_g SlLaysZI.n7 Ggz 7 at Tryz 26 as Tryz.keysI
shelf_lay_g SlLaysZI.n6 Ggz 6 at Tryz 25 as Tryz.sortedI
shelf_lay_g SlLaysM.n5 Slgm 5 at Tryz 47 as Tryz.sortI

/-- slices.Sort's two contracts. -/
theorem Tryz.sortsI (m : Nat) : AnyZI.SortsIn Tryz.prog Tryz.sortedI_ren Fence.wide m :=
  ⟨fun blk off cap ss W hH hblk hsz => callsIn_wide.2 (AnyM.slices_Sort_int Tryz.sortI blk off cap ss W hH hblk hsz),
   fun p cap W => callsIn_wide.2 (AnyM.slices_Sort_int_none Tryz.sortI p cap W)⟩
end Go.Proofs

namespace Go.Proofs.YtbajfapfpcjenaaGreatDoor
open Go.RowKit Go.Proofs.Ord Go.Maps Go.Sort Go.Shelf

set_option maxHeartbeats 1000000 in
/-- Racy: the variables that had a race, rising. -/
theorem racyF_any {tag : Nat → Tag} {bd bf bk br : Nat} {S : Nat → Prop} {K R : Int → Option Value} {T : Int → Option Nat} {L : Nat → Ev} {k : Nat} (w : World) (h : DetW w tag bd bf bk br S K R T L k k) (hk : k ≤ 1048576) :
    Calls Tryz.prog 10 #[.pointer (some ⟨bd, 0, none⟩)] w fun e w' => ∃ v, e = .returned v ∧ New w.heap.size w' v (varsTo L (isFirst L) k) ∧ Below w.heap.size w w' := by
  obtain ⟨nr, hnr, hM⟩ := h.raced
  obtain ⟨D0, hown, hsz, hnd, hmem⟩ := hM.ownsI h.rin (by unfold maxLen; omega)
  have hvars : ∀ ss : List Int, ss.Perm (intKeys D0) → ss.mergeSort (fun x y => decide (x ≤ y)) = varsTo L (isFirst L) k := fun ss hp => vars_sorted (hp.nodup_iff.2 hnd) (fun x => by
    rw [hp.mem_iff, hmem x]
    rcases h.races x with g | g
    · rw [g.1]; simp [g.2]
    · rw [g.1]; simp [g.2])
  have c2 := h.cells.2.2
  have hbl := hown.lt
  have hmax : Maps.size D0 ≤ maxLen := by rw [hsz]; unfold maxLen; omega
  have hbytes : Maps.size D0 * 8 ≤ 140737488355328 := by rw [hsz]; omega
  clear h hM hsz hnd hmem
  have HV := hide hvars
  clear hvars
  refine (callsIn_wide (n := 6)).1 ?_
  have hseq : SeqGives Fence.wide 2 Tryz.prog 48 #[.pointer (some ⟨w.heap.size, 0, none⟩)] encZ (fun ss => ss.Perm (intKeys D0)) (Maps.size D0) (w.alloc (.cells #[.map (some br)] 46)) :=
    AnyZI.keys_gives (ρ := Tryz.keysI_ren) { Tryz.keysI with } Fence.wide _ trivial rfl (by omega) w.heap.size br nr D0 _ (by simp) (by simp) (by
      obtain ⟨es, clock, hb, Ft, hs, hD⟩ := hown
      exact ⟨es, clock, (Below.heap_alloc _ _ br hbl).trans hb, Ft, hs, hD⟩)
  have cK : ∀ mb W, CallsIn Fence.wide 5 Tryz.prog 26 #[.map mb] W fun e w' => e = .returned (.func (.func 48) #[] #[.pointer (some ⟨W.heap.size, 0, none⟩)]) ∧ w' = W.alloc (.cells #[.map mb] 46) := fun mb W => AnyZI.keys_in Tryz.keysI Fence.wide 5 trivial rfl mb W
  have cS := AnyZI.sorted_in Tryz.sortedI Fence.wide 5 trivial trivial trivial trivial rfl (by omega) (Tryz.sortsI _) (enters_of Tryz.func47 (by kernel_rfl) rfl) 48 #[.pointer (some ⟨w.heap.size, 0, none⟩)] trivial (enters_of Tryz.func48 (by kernel_rfl) rfl) _ _ hmax hbytes _ hseq
  change CallsIn _ _ Tryz.prog 25 _ _ _ at cS
  have hfK : Fence.wide.fn 26 := trivial
  have hfS : Fence.wide.fn 25 := trivial
  refine callsIn_of_wp Tryz.func10 rfl trivial ?_ rfl
  simp only [Tryz.ntmps10, List.size_toArray, List.length_cons, List.length_nil, Nat.reduceAdd, Nat.reduceSub, Array.replicate_succ, Array.replicate_zero, List.push_toArray, List.append_toArray, List.nil_append, List.cons_append]
  gi_wp2_with (first
    | (gi_at_call 26; refine (cK _ _).mono ?_; rintro e w' ⟨rfl, rfl⟩)
    | (gi_at_call 25; refine cS.mono ?_; rintro e w' ⟨v, ss, rfl, hS, hrow, hnil, hb⟩))
  go_ret
  have hrow' := ownsRow_base_a hrow (by simp : w.heap.size ≤ (w.alloc (.cells #[.map (some br)] 46)).heap.size)
  rw [HV.out ss hS] at hrow'
  have hlen : ss.length = (varsTo L (isFirst L) k).length := by rw [← HV.out ss hS]; exact ((List.mergeSort_perm _ _).length_eq).symm
  rw [hlen] at hrow'
  obtain ⟨ao, co, rfl, hlo, h2, h3, h3', h4⟩ := New.of_owns hrow'
  exact ⟨_, rfl, ⟨ao, co, rfl, h2, h3, h3', fun i hi => h4 i (by omega)⟩, ((Below.refl _ w).alloc (Nat.le_refl _) _).trans (hb.mono (by simp))⟩
end Go.Proofs.YtbajfapfpcjenaaGreatDoor
namespace Go.Proofs.YtbajfapfpcjenaaGreatDoor
open Go.RowKit Go.Proofs.Ord

/-- The blocks of a new detector. -/
def tag0 (s b : Nat) : Tag := if b = s then .f else if b = s + 1 then .k else if b = s + 2 then .r else if b = s + 3 then .d else .o
theorem tag0_new {s b : Nat} (h : tag0 s b ≠ .o) : s ≤ b ∧ b < s + 4 := by
  unfold tag0 at h
  split at h
  · omega
  · split at h
    · omega
    · split at h
      · omega
      · split at h
        · omega
        · exact absurd rfl h
set_option maxHeartbeats 400000 in
theorem newF_any (w : World) (L : Nat → Ev) :
    Calls Tryz.prog 5 #[] w fun e w' => e = .returned (.pointer (some ⟨w.heap.size + 3, 0, none⟩)) ∧ DetW w' (tag0 w.heap.size) (w.heap.size + 3) w.heap.size (w.heap.size + 1) (w.heap.size + 2) (fun _ => False) (fun _ => none) (fun _ => none) (fun _ => none) L 0 0 ∧ Below w.heap.size w w' := by
  refine (new_any w).mono ?_
  rintro e w' ⟨rfl, hw'⟩
  obtain ⟨w1, hw1⟩ : ∃ x, w.alloc (.map #[] 0) = x := ⟨_, rfl⟩
  rw [hw1] at hw'
  obtain ⟨w2, hw2⟩ : ∃ x, w1.alloc (.map #[] 0) = x := ⟨_, rfl⟩
  rw [hw2] at hw'
  obtain ⟨w3, hw3⟩ : ∃ x, w2.alloc (.map #[] 0) = x := ⟨_, rfl⟩
  rw [hw3] at hw'
  have z1 : w1.heap.size = w.heap.size + 1 := by rw [← hw1]; simp
  have z2 : w2.heap.size = w.heap.size + 2 := by rw [← hw2]; simp; omega
  have z3 : w3.heap.size = w.heap.size + 3 := by rw [← hw3]; simp; omega
  have z4 : w'.heap.size = w.heap.size + 4 := by rw [hw']; simp; omega
  have b1 : Below w.heap.size w w1 := by rw [← hw1]; exact (Below.refl _ _).alloc (Nat.le_refl _) _
  have b2 : Below w1.heap.size w1 w2 := by rw [← hw2]; exact (Below.refl _ _).alloc (Nat.le_refl _) _
  have b3 : Below w2.heap.size w2 w3 := by rw [← hw3]; exact (Below.refl _ _).alloc (Nat.le_refl _) _
  have b4 : Below w3.heap.size w3 w' := by rw [hw']; exact (Below.refl _ _).alloc (Nat.le_refl _) _
  have b34 : Below w2.heap.size w2 w' := b3.trans (b4.mono (by omega))
  have b24 : Below w1.heap.size w1 w' := b2.trans (b34.mono (by omega))
  have m1 : KMap pk w1 w.heap.size (fun _ => none) 0 := by rw [← hw1]; exact KMap.made w
  have m2 : KMap ik w2 w1.heap.size (fun _ => none) 0 := by rw [← hw2]; exact KMap.made w1
  have m3 : KMap ik w3 w2.heap.size (fun _ => none) 0 := by rw [← hw3]; exact KMap.made w2
  have hcl : ∀ x, Clean L x 0 := fun x q hq => absurd hq (by omega)
  refine ⟨rfl, ⟨?_, ⟨id, fun x h => h.elim, fun _ => none, 0, fun _ _ => 0, m1.same (b24.block _ (by omega)), ⟨fun d v h => (by cases h), fun _ _ _ => rfl⟩, flowN_zero L _⟩, ⟨0, by rw [← z1]; exact m2.same (b34.block _ (by omega))⟩, ⟨0, Nat.le_refl _, by rw [← z2]; exact m3.same (b4.block _ (by omega))⟩, (fun x v h => by cases h), fun x _ => ⟨rfl, fun _ i hi => absurd hi (by omega)⟩, fun x => .inl ⟨rfl, hcl x⟩, fun x h => absurd rfl h, ?_, ?_, ?_, ?_, fun b h => h.elim, (fun x b h => by cases h), fun b h => ?_⟩, b1.trans (b24.mono (by omega))⟩
  · rw [hw', ← z3]; exact heap_alloc_new w3 _
  · unfold tag0; rw [if_neg (by omega), if_neg (by omega), if_neg (by omega), if_pos rfl]
  · unfold tag0; rw [if_pos rfl]
  · unfold tag0; rw [if_neg (by omega), if_pos rfl]
  · unfold tag0; rw [if_neg (by omega), if_neg (by omega), if_pos rfl]
  · have := tag0_new h; omega
end Go.Proofs.YtbajfapfpcjenaaGreatDoor
/-
  Accesses of other variables change nothing of a variable's races: they may be told as local events.
-/
namespace Go.Proofs.YtbajfapfpcjenaaGreatDoor
open Go.Proofs.Ord

/-- An access of another variable, as a local event. -/
def calmE (x : Int) (e : Ev) : Ev := if access e && !(e.obj == x) then ⟨e.thread, 0, e.obj, e.value⟩ else e
theorem calm_thread (x : Int) (e : Ev) : (calmE x e).thread = e.thread := by unfold calmE; split <;> rfl
theorem calm_obj (x : Int) (e : Ev) : (calmE x e).obj = e.obj := by unfold calmE; split <;> rfl
theorem calm_kind (x : Int) (e : Ev) : ((calmE x e).kind = e.kind ∧ (access e = false ∨ e.obj = x)) ∨ ((calmE x e).kind = 0 ∧ (e.kind = 1 ∨ e.kind = 2) ∧ e.obj ≠ x) := by
  unfold calmE
  split
  · rename_i h
    rw [Bool.and_eq_true] at h
    refine .inr ⟨rfl, by have := h.1; unfold access at this; simpa using this, by simpa using h.2⟩
  · rename_i h
    rw [Bool.and_eq_true] at h
    refine .inl ⟨rfl, ?_⟩
    cases ha : access e with
    | false => exact .inl rfl
    | true => right; exact Classical.byContradiction fun e' => h ⟨ha, by simpa using e'⟩
theorem calm_beq (x : Int) (e : Ev) {n : Int} (h1 : n ≠ 1) (h2 : n ≠ 2) (h9 : n ≠ 0) : ((calmE x e).kind == n) = (e.kind == n) := by
  rcases calm_kind x e with ⟨h, _⟩ | ⟨h, hk, _⟩
  · rw [h]
  · rw [h]
    have a : ((0 : Int) == n) = false := by simp; omega
    have b : (e.kind == n) = false := by simp; omega
    rw [a, b]
theorem calm_access (x : Int) (e : Ev) : access (calmE x e) = (access e && e.obj == x) := by
  rw [Bool.eq_iff_iff, Bool.and_eq_true]
  rcases calm_kind x e with ⟨h, h'⟩ | ⟨h, hk, hne⟩
  · have e1 : access (calmE x e) = access e := by unfold access; rw [h]
    rw [e1]
    rcases h' with h' | h'
    · simp [h']
    · simp [h']
  · have e1 : access (calmE x e) = false := by unfold access; rw [h]; rfl
    simp [e1, hne]
theorem calm_kind2 (x : Int) (e : Ev) (h : e.obj = x) : (calmE x e).kind = e.kind := by
  rcases calm_kind x e with ⟨h', _⟩ | ⟨_, _, hne⟩
  · exact h'
  · exact absurd h hne
theorem calm_leads (x : Int) (a b : Ev) : leads (calmE x a) (calmE x b) = leads a b := by
  unfold leads
  rw [calm_thread, calm_thread, calm_obj, calm_obj, calm_beq x a (n := 6) (by decide) (by decide) (by decide), calm_beq x b (n := 5) (by decide) (by decide) (by decide), calm_beq x a (n := 4) (by decide) (by decide) (by decide), calm_beq x b (n := 3) (by decide) (by decide) (by decide), calm_beq x a (n := 7) (by decide) (by decide) (by decide), calm_beq x b (n := 8) (by decide) (by decide) (by decide)]
theorem bef_leads_same {l m : Nat → Ev} (h : ∀ i j, leads (l i) (l j) = leads (m i) (m j)) (i : Nat) : ∀ j, bef l i j = bef m i j := by
  intro j
  induction j using Nat.strongRecOn with
  | ind j ih =>
    rw [Bool.eq_iff_iff, bef_iff, bef_iff]
    constructor
    · rintro ⟨h1, h2 | ⟨k, h3, h4, h5, h6⟩⟩
      · exact ⟨h1, .inl (by rw [← h]; exact h2)⟩
      · exact ⟨h1, .inr ⟨k, h3, h4, by rw [← ih k h4]; exact h5, by rw [← h]; exact h6⟩⟩
    · rintro ⟨h1, h2 | ⟨k, h3, h4, h5, h6⟩⟩
      · exact ⟨h1, .inl (by rw [h]; exact h2)⟩
      · exact ⟨h1, .inr ⟨k, h3, h4, by rw [ih k h4]; exact h5, by rw [h]; exact h6⟩⟩
/-- The list with the other variables' accesses as local events. -/
def calmL (L : Nat → Ev) (x : Int) (i : Nat) : Ev := calmE x (L i)
theorem calm_race (L : Nat → Ev) (x : Int) (i j : Nat) : race (calmL L x) i j = (race L i j && (L j).obj == x) := by
  have hb : bef (calmL L x) i j = bef L i j := bef_leads_same (fun i j => calm_leads x _ _) i j
  unfold race
  rw [hb]
  have hc : conflict (calmL L x i) (calmL L x j) = (conflict (L i) (L j) && (L j).obj == x) := by
    unfold calmL conflict
    rw [calm_access, calm_access, calm_obj, calm_obj, calm_thread, calm_thread]
    by_cases hi : (L i).obj = x
    · by_cases hj : (L j).obj = x
      · rw [calm_kind2 x _ hi, calm_kind2 x _ hj]; simp [hi, hj]
      · have : ((L j).obj == x) = false := by simpa using hj
        simp [this]
    · have h1 : ((L i).obj == x) = false := by simpa using hi
      by_cases hj : (L j).obj = x
      · have h2 : ((L i).obj == (L j).obj) = false := by rw [hj]; exact h1
        simp [h1, h2]
      · have : ((L j).obj == x) = false := by simpa using hj
        simp [h1, this]
  rw [hc]
  cases conflict (L i) (L j) <;> cases bef L i j <;> cases ((L j).obj == x) <;> rfl
theorem calm_racy (L : Nat → Ev) (x : Int) (j : Nat) : racy (calmL L x) j = hits L x j := by
  rw [Bool.eq_iff_iff, racy_iff]
  unfold hits
  rw [Bool.and_eq_true, racy_iff]
  constructor
  · rintro ⟨i, h1, h2⟩
    rw [calm_race, Bool.and_eq_true] at h2
    exact ⟨⟨i, h1, h2.1⟩, h2.2⟩
  · rintro ⟨⟨i, h1, h2⟩, h3⟩
    exact ⟨i, h1, by rw [calm_race, h2, h3]; rfl⟩
/-- A first race of what is told so is the variable's first race. -/
theorem calm_first (L : Nat → Ev) (x : Int) (j : Nat) : isFirst (calmL L x) j = true ↔ hits L x j = true ∧ ∀ q, q < j → hits L x q = false := by
  rw [isFirst_iff, calm_racy]
  have ho : ∀ i, (calmL L x i).obj = (L i).obj := fun i => calm_obj x _
  constructor
  · rintro ⟨h1, h2⟩
    have hx : (L j).obj = x := by unfold hits at h1; rw [Bool.and_eq_true] at h1; simpa using h1.2
    refine ⟨h1, fun q hq => ?_⟩
    have := h2 q hq
    unfold hits at this
    rw [calm_racy, ho, ho, hx] at this
    unfold hits at this ⊢
    cases hr : racy L q <;> cases he : ((L q).obj == x) <;> simp [hr, he] at this ⊢
  · rintro ⟨h1, h2⟩
    refine ⟨h1, fun q hq => ?_⟩
    unfold hits
    rw [calm_racy, h2 q hq]; rfl
end Go.Proofs.YtbajfapfpcjenaaGreatDoor
