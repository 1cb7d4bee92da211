import Derived.Test.YtiaedjnedoemoabOrdBase
import Derived.Deep.RegionHeld3
import Derived.Deep.DrawnRows
import Derived.Deep.QuietTactic
import Derived.BigQuiet
namespace Go.Proofs.Ytiaedjnedoemoab
open Go.RowKit Go.Proofs.Ord
attribute [local go_sem ↓] Go.wp_at_zero Go.wp_at_succ

/-- An event lies here. -/
def EvAt (w : World) (b o : Nat) (e : Ev) : Prop :=
  w.cell? ⟨b, o, none⟩ = some (.int .i64 e.thread) ∧ w.cell? ⟨b, o + 1, none⟩ = some (.int .i64 e.kind) ∧ w.cell? ⟨b, o + 2, none⟩ = some (.int .i64 e.obj) ∧ w.cell? ⟨b, o + 3, none⟩ = some (.int .i64 e.value)

/-- The first cells that a slice leads to hold these events. -/
def EvS (w : World) (a : Option Addr) (l : List Ev) : Prop :=
  ∀ i, i < l.length → ∃ b off, a = some ⟨b, off, none⟩ ∧ b < w.heap.size ∧ EvAt w b (off + i * 4) (Ord.ev l i)

theorem EvAt.below {B : Nat} {w w' : World} {b o : Nat} {e : Ev} (h : EvAt w b o e) (hb : Below B w w') (hlt : b < B) : EvAt w' b o e :=
  ⟨(hb.cell (p := ⟨b, o, none⟩) hlt).trans h.1, (hb.cell (p := ⟨b, o + 1, none⟩) hlt).trans h.2.1, (hb.cell (p := ⟨b, o + 2, none⟩) hlt).trans h.2.2.1, (hb.cell (p := ⟨b, o + 3, none⟩) hlt).trans h.2.2.2⟩

theorem EvS.below {w w' : World} {a : Option Addr} {l : List Ev} (h : EvS w a l) (hb : Below w.heap.size w w') : EvS w' a l := by
  intro i hi
  obtain ⟨b, off, ha, hlt, hc⟩ := h i hi
  exact ⟨b, off, ha, by have := hb.size; omega, hc.below hb hlt⟩

theorem EvS.at {w w' : World} {b off : Nat} {l : List Ev} (h : EvS w (some ⟨b, off, none⟩) l) (hb : Below w.heap.size w w') {i : Nat} (hi : i < l.length) :
    ∃ t k o v, Hid (Ord.ev l i = ⟨t, k, o, v⟩) ∧ w'.cell? ⟨b, off + i * 4, none⟩ = some (.int .i64 t) ∧ w'.cell? ⟨b, off + i * 4 + 1, none⟩ = some (.int .i64 k) ∧ w'.cell? ⟨b, off + i * 4 + 2, none⟩ = some (.int .i64 o) ∧ w'.cell? ⟨b, off + i * 4 + 3, none⟩ = some (.int .i64 v) := by
  obtain ⟨b', off', e, hlt, hc⟩ := h i hi
  cases e
  have h2 := hc.below hb hlt
  exact ⟨_, _, _, _, o_hide rfl, h2.1, h2.2.1, h2.2.2.1, h2.2.2.2⟩

theorem o_drewN {B : Nat} {w0 w : World} (h : Below B w0 w) (n : Nat) : Below B w0 (w.drewN n) := h.trans ⟨rfl, rfl, rfl, Nat.le_refl _, fun _ _ => rfl⟩

theorem Try.infob : (Try.prog.info? 4).map (fun i => (i.zero, i.size, i.bytes)) = some (some (.bool false), 1, 1) := by kernel_rfl

theorem bcell {W w1 : World} (hb : Below W.heap.size W w1) : (∀ b o, b < W.heap.size → w1.cell? ⟨b, o, none⟩ = W.cell? ⟨b, o, none⟩) ∧ (∀ b o, b < W.heap.size → w1.frozen? ⟨b, o, none⟩ = W.frozen? ⟨b, o, none⟩) :=
  ⟨fun b o h => hb.cell (p := ⟨b, o, none⟩) h, fun b o h => hb.frozen (p := ⟨b, o, none⟩) h⟩

/-- What a row of truths is, told by a function: what is owned is n cells. -/
def Tells (w : World) (B g : Nat) (n : Nat) (f : Nat → Bool) : Prop :=
  w.ownsRow B 4 1 (.slice (some ⟨g, 0, none⟩) n n) n ((List.range n).map fun q => Value.bool (f q))

theorem Tells.cell {w : World} {B g n : Nat} {f : Nat → Bool} (h : Tells w B g n f) {j : Nat} (hj : j < n) : w.cell? ⟨g, j, none⟩ = some (.bool (f j)) := by
  rw [World.ownsRow.cellAt h j (by omega)]; simp [hj]
theorem Tells.frozen {w : World} {B g n : Nat} {f : Nat → Bool} (h : Tells w B g n f) (j : Nat) : w.frozen? ⟨g, j, none⟩ = false := World.ownsRow.frozenAt h j

theorem ownsRow_below {B base e size n : Nat} {w w' : World} {v : Value} {xs : List Value} (h : w.ownsRow base e size v n xs) (hb : Below B w w') (hB : ∀ g, v.ownBlock = some g → g < B) : w'.ownsRow base e size v n xs := by
  refine ⟨h.1, ?_⟩
  rcases h.2 with hn | ⟨g, cap, cur, rfl, h1, hgg, rest⟩
  · exact .inl hn
  · refine .inr ⟨g, cap, cur, rfl, h1, ?_, rest⟩
    rw [hb.block g (hB g rfl)]; exact hgg

theorem Tells.below {B B' g n : Nat} {f : Nat → Bool} {w w' : World} (h : Tells w B g n f) (hb : Below B' w w') (hB : g < B') : Tells w' B g n f :=
  ownsRow_below h hb (fun q e => by simp [Value.ownBlock] at e; omega)

theorem Tells.congr {B g n : Nat} {f f' : Nat → Bool} {w : World} (h : Tells w B g n f) (e : ∀ q, q < n → f q = f' q) : Tells w B g n f' := by
  unfold Tells at *
  have : ((List.range n).map fun q => Value.bool (f q)) = (List.range n).map fun q => Value.bool (f' q) := by
    apply List.map_congr_left
    intro q hq
    rw [e q (List.mem_range.1 hq)]
  rw [← this]; exact h

theorem Tells.stored {B g n : Nat} {f : Nat → Bool} {w : World} (h : Tells w B g n f) (j : Nat) (x : Bool) : Tells (w.setCell ⟨g, j, none⟩ (.bool x)) B g n (fun q => if q = j then x else f q) := by
  have h1 := (World.ownsRow.stored h j (.bool x)).1
  unfold Tells
  have e : ((List.range n).map fun q => Value.bool (if q = j then x else f q)) = ((List.range n).map fun q => Value.bool (f q)).set j (.bool x) := by
    apply List.ext_getElem?
    intro q
    rw [List.getElem?_set]
    by_cases hq : q < n
    · by_cases e : j = q
      · subst e; simp [hq]
      · have e' : ¬ q = j := fun h => e h.symm
        simp [hq, e, e']
    · simp [hq]
      intro e; omega
  rw [e]; exact h1

set_option maxHeartbeats 1000000 in
theorem rAfter_any (a : Option Addr) (n cap : Nat) (l : List Ev) (i : Nat) (w : World) (hn : l.length = n) (hs : EvS w a l) (hb : n * 32 ≤ 140737488351232) (hi : i < n) :
    Calls Try.prog 50 #[.slice a n cap, .int .i64 i] w fun e w' => e = .returned (.slice (some ⟨w.heap.size, 0, none⟩) n n) ∧ Tells w' w.heap.size w.heap.size n (bef (Ord.ev l) i) ∧ Below w.heap.size w w' := by
  obtain ⟨i0, hi0, hz0, hz1, hz2⟩ := info_parts Try.infob
  obtain ⟨b, off, rfl, hlt, _⟩ := hs i (by omega)
  go_enter Try.func50, Try.ntmps50
  go_wp2_with (at_make; refine wpList_make_full _ rfl _ _ 40 rfl w.heap.size 4 i0 (.bool false) 1 Try.underlying40 hi0 hz0 hz1 _ _ _ _ n rfl rfl (by first | rfl | simp) (by first | rfl | simp) (by rw [hz2]; omega) (by unfold maxLen; omega) (Nat.le_refl _) ?_; intro w1 hown hgrow)
  have ht1 : Hid (Tells w1 w.heap.size w.heap.size n (fun _ => false)) := by
    unfold Hid Tells
    have e : ((List.range n).map fun _ => Value.bool false) = (madeCells (Value.bool false).cells (n * 1)).toList := by
      rw [show (Value.bool false).cells = #[Value.bool false] from rfl, toList_madeCells_one, Nat.mul_one, List.map_const', List.length_range]
    rw [e]; exact hown
  have hb1 : Hid (Below w.heap.size w w1) := (Below.refl _ _).grown hgrow (Nat.le_refl _) (fun q e => by cases e)
  clear hown hgrow
  go_loopw [6] (fun jv wr => ∃ j : Nat, i + 1 ≤ j ∧ j ≤ n ∧ jv = .int .i64 j ∧ Tells wr w.heap.size w.heap.size n (fun q => decide (q < j) && bef (Ord.ev l) i q) ∧ Below w.heap.size w wr) (fun jv _ => n - (intOf jv).toNat)
  case atStart =>
    refine ⟨i + 1, Nat.le_refl _, by omega, by go_num, ht1.out.congr (fun q _ => ?_), hb1.out⟩
    by_cases hq : q < i + 1
    · rw [bef_ge (by omega), Bool.and_false]
    · simp [hq]
  case round =>
    obtain ⟨j, hj1, hj2, rfl, ht, hbel⟩ := hrel
    by_cases h5 : j < n
    · obtain ⟨t1, k1, o1, v1, HE1, c0, c1, c2, c3⟩ := hs.at hbel (i := i) (by omega)
      obtain ⟨t2, k2, o2, v2, HE2, d0, d1, d2, d3⟩ := hs.at hbel (i := j) (by omega)
      have hsz := hbel.size
      have hBlt : w.heap.size < wr.heap.size := (World.ownsRow.lt ht _ rfl).2
      have hcj := ht.cell h5
      have hfj := ht.frozen j
      have hset : ∀ (W : World) (x : Value) (o : Nat), (W.setCell ⟨w.heap.size, j, none⟩ x).cell? ⟨b, o, none⟩ = W.cell? ⟨b, o, none⟩ := fun W x o => World.cell?_setCell_other _ _ _ _ (by intro e; cases e; omega)
      go_wp2_with fail
      go_region_held3 (fun w' => w'.cell? ⟨b, off + i * 4, none⟩ = some (.int .i64 t1) ∧ w'.cell? ⟨b, off + i * 4 + 1, none⟩ = some (.int .i64 k1) ∧ w'.cell? ⟨b, off + i * 4 + 2, none⟩ = some (.int .i64 o1) ∧ w'.cell? ⟨b, off + i * 4 + 3, none⟩ = some (.int .i64 v1) ∧ w'.cell? ⟨b, off + j * 4, none⟩ = some (.int .i64 t2) ∧ w'.cell? ⟨b, off + j * 4 + 1, none⟩ = some (.int .i64 k2) ∧ w'.cell? ⟨b, off + j * 4 + 2, none⟩ = some (.int .i64 o2) ∧ w'.cell? ⟨b, off + j * 4 + 3, none⟩ = some (.int .i64 v2)) (go_keep) ((go_at_call 69; refine (rLeads_any _ _ _ _ _ _ _ _ _).mono ?_; rintro e w2 ⟨rfl, hbel2⟩; obtain ⟨hcc, hff⟩ := bcell hbel2; have hcb := fun o => hcc b o (by simp; omega); have hcg := fun o => hcc w.heap.size o (by simp; omega); have hfg := fun o => hff w.heap.size o (by simp; omega); clear hcc hff))
      have hbel3 : Below w.heap.size w w2 := hbel.drew.trans (hbel2.mono (by simp; omega))
      have ht3 : Tells w2 w.heap.size w.heap.size n (fun q => decide (q < j) && bef (Ord.ev l) i q) := Tells.below (B' := wr.heap.size) ht (Below.trans (Below.refl _ wr).drew hbel2) hBlt
      have ht4 : Hid (Tells (w2.setCell ⟨w.heap.size, j, none⟩ (.bool (leads ⟨t1, k1, o1, v1⟩ ⟨t2, k2, o2, v2⟩))) w.heap.size w.heap.size n (fun q => if q = j then Ord.part (Ord.ev l) i j (i + 1) else decide (q < j) && bef (Ord.ev l) i q)) := by
        refine (ht3.stored j _).congr (fun q _ => ?_)
        rw [part_start, HE1.out, HE2.out]
      have hb4 : Hid (Below w.heap.size w (w2.setCell ⟨w.heap.size, j, none⟩ (.bool (leads ⟨t1, k1, o1, v1⟩ ⟨t2, k2, o2, v2⟩)))) := hbel3.setCell (Nat.le_refl _) _
      clear ht ht3 hbel hbel2 hbel3 c0 c1 c2 c3 d0 d1 d2 d3 hcj hfj hset hcb hcg hfg HE1
      go_wp2
      go_loopw [7] (fun kv wr => ∃ k : Nat, i + 1 ≤ k ∧ k ≤ j ∧ kv = .int .i64 k ∧ Tells wr w.heap.size w.heap.size n (fun q => if q = j then Ord.part (Ord.ev l) i j k else decide (q < j) && bef (Ord.ev l) i q) ∧ Below w.heap.size w wr) (fun kv _ => j - (intOf kv).toNat)
      case atStart => exact ⟨i + 1, Nat.le_refl _, hj1, by go_num, ht4.out, hb4.out⟩
      case round =>
        obtain ⟨k, hk1, hk2, rfl, ht, hbel⟩ := hrel
        have hsz := hbel.size
        have hBlt : w.heap.size < wr.heap.size := (World.ownsRow.lt ht _ rfl).2
        by_cases h6 : k < j
        · have hck := ht.cell (j := k) (by omega)
          have ek : (if k = j then Ord.part (Ord.ev l) i j k else decide (k < j) && bef (Ord.ev l) i k) = bef (Ord.ev l) i k := by
            rw [if_neg (by omega)]; simp [h6]
          rw [ek] at hck
          clear ek
          obtain ⟨t3, k3, o3, v3, HE3, c0, c1, c2, c3⟩ := hs.at hbel (i := k) (by omega)
          obtain ⟨t4, k4, o4, v4, HE4, d0, d1, d2, d3⟩ := hs.at hbel (i := j) (by omega)
          have HP := o_hide (part_succ (Ord.ev l) i j k (by omega))
          cases hbk : bef (Ord.ev l) i k with
          | false =>
            rw [hbk] at hck
            have ht5 : Hid (Tells wr w.heap.size w.heap.size n (fun q => if q = j then Ord.part (Ord.ev l) i j (k + 1) else decide (q < j) && bef (Ord.ev l) i q)) := by
              refine ht.congr (fun q _ => ?_)
              rw [HP.out, hbk, Bool.false_and, Bool.or_false]
            clear hbk HP ht
            go_wp2_with fail
            go_quiet (fail)
            go_wp2
            go_roundw
            case rel => exact ⟨k + 1, by omega, by omega, by go_num, ht5.out, o_drewN hbel _⟩
            case measure => simp [intOf]; omega
          | true =>
            rw [hbk] at hck
            have hcj := ht.cell h5
            have hfj := ht.frozen j
            have e1 : Hid (Ord.part (Ord.ev l) i j (k + 1) = (Ord.part (Ord.ev l) i j k || leads ⟨t3, k3, o3, v3⟩ ⟨t4, k4, o4, v4⟩)) := by
              unfold Hid; rw [HP.out, hbk, Bool.true_and, HE3.out, HE4.out]
            clear hbk HP HE3 HE4
            have hkn : (k : Int) < (n : Int) := by omega
            have hjn : (j : Int) < (n : Int) := by omega
            go_wp2_with fail
            go_region_held3 (fun w' => w'.cell? ⟨w.heap.size, k, none⟩ = some (.bool true) ∧ w'.cell? ⟨b, off + k * 4, none⟩ = some (.int .i64 t3) ∧ w'.cell? ⟨b, off + k * 4 + 1, none⟩ = some (.int .i64 k3) ∧ w'.cell? ⟨b, off + k * 4 + 2, none⟩ = some (.int .i64 o3) ∧ w'.cell? ⟨b, off + k * 4 + 3, none⟩ = some (.int .i64 v3) ∧ w'.cell? ⟨b, off + j * 4, none⟩ = some (.int .i64 t4) ∧ w'.cell? ⟨b, off + j * 4 + 1, none⟩ = some (.int .i64 k4) ∧ w'.cell? ⟨b, off + j * 4 + 2, none⟩ = some (.int .i64 o4) ∧ w'.cell? ⟨b, off + j * 4 + 3, none⟩ = some (.int .i64 v4)) (go_keep) ((go_at_call 69; refine (rLeads_any _ _ _ _ _ _ _ _ _).mono ?_; rintro e w2 ⟨rfl, hbel2⟩; obtain ⟨hcc, hff⟩ := bcell hbel2; have hcb := fun o => hcc b o (by simp; omega); have hcg := fun o => hcc w.heap.size o (by simp; omega); have hfg := fun o => hff w.heap.size o (by simp; omega); clear hcc hff))
            have hbel3 : Below w.heap.size w w2 := hbel.drew.trans (hbel2.mono (by simp; omega))
            have ht3 := Tells.below (B' := wr.heap.size) ht (Below.trans (Below.refl _ wr).drew hbel2) hBlt
            cases hL : leads ⟨t3, k3, o3, v3⟩ ⟨t4, k4, o4, v4⟩ with
            | true =>
              have ht4 : Hid (Tells (w2.setCell ⟨w.heap.size, j, none⟩ (.bool true)) w.heap.size w.heap.size n (fun q => if q = j then Ord.part (Ord.ev l) i j (k + 1) else decide (q < j) && bef (Ord.ev l) i q)) := by
                refine (ht3.stored j true).congr (fun q _ => ?_)
                rw [e1.out, hL, Bool.or_true]
                by_cases e : q = j <;> simp [e]
              have hb4 : Hid (Below w.heap.size w (w2.setCell ⟨w.heap.size, j, none⟩ (.bool true))) := hbel3.setCell (Nat.le_refl _) _
              clear ht ht3 hbel hbel2 hbel3 c0 c1 c2 c3 d0 d1 d2 d3
              go_wp2
              go_roundw
              case rel => exact ⟨k + 1, by omega, by omega, by go_num, ht4.out, hb4.out⟩
              case measure => simp [intOf]; omega
            | false =>
              have ht4 : Hid (Tells w2 w.heap.size w.heap.size n (fun q => if q = j then Ord.part (Ord.ev l) i j (k + 1) else decide (q < j) && bef (Ord.ev l) i q)) := by
                refine ht3.congr (fun q _ => ?_)
                rw [e1.out, hL, Bool.or_false]
              have hb4 : Hid (Below w.heap.size w w2) := hbel3
              clear ht ht3 hbel hbel2 hbel3 c0 c1 c2 c3 d0 d1 d2 d3 hcj hfj
              go_wp2
              go_roundw
              case rel => exact ⟨k + 1, by omega, by omega, by go_num, ht4.out, hb4.out⟩
              case measure => simp [intOf]; omega
        · have hkj : k = j := by omega
          have ht5 : Hid (Tells wr w.heap.size w.heap.size n (fun q => decide (q < j + 1) && bef (Ord.ev l) i q)) := by
            refine ht.congr (fun q _ => ?_)
            by_cases e : q = j
            · subst e; rw [if_pos rfl, hkj, part_all _ _ _ (by omega)]; simp
            · rw [if_neg e]
              have : decide (q < j) = decide (q < j + 1) := by by_cases h : q < j <;> simp [h] <;> omega
              rw [this]
          clear hkj ht
          go_wp2
          go_roundw
          case rel => exact ⟨j + 1, by omega, by omega, by go_num, ht5.out, hbel⟩
          case measure => simp [intOf]; omega
    · have hjn : j = n := by omega
      have hfin : Hid (Tells wr w.heap.size w.heap.size n (bef (Ord.ev l) i)) := ht.congr (fun q hq => by simp; intro; omega)
      clear hjn ht
      go_wp2
      go_ret
      exact ⟨rfl, hfin.out, hbel⟩
end Go.Proofs.Ytiaedjnedoemoab
