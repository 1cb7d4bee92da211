import Derived.Test.YtbajfapfpcjenaaGreatDoorDjMark
namespace Go.Proofs.YtbajfapfpcjenaaGreatDoor
open Go.RowKit Go.Proofs.Ord

/-- Which events of a list count. -/
def cfs (L : Nat → Ev) (nu : Int → Int) (fr : Int) (i : Nat) : Bool := cf nu fr (L i)

theorem take_any_succ (ds : List (Int × Int)) (p : Int × Int → Bool) (i : Nat) (hi : i < ds.length) : (ds.take (i + 1)).any p = ((ds.take i).any p || p (ds.getD i (0, 0))) := by
  rw [List.take_succ_eq_append_getElem hi, List.any_append]
  have : ds.getD i (0, 0) = ds[i] := by simp [hi]
  rw [this]; simp

set_option maxRecDepth 100000 in
set_option maxHeartbeats 4000000 in
theorem markRaces_any (a : Option Addr) (n cap : Nat) (l : List Ev) (w : World) (g B0 b4 b5 M m : Nat) (f : Int → Option Value) (nu : Int → Int) (fr : Int) (r : Nat → Bool) (hn : l.length = n) (hs : EvS w a l) (hb : n ≤ 1048576) (hthr : ThR l)
    (hN : NumsW w M f m nu) (h4 : w.cell? ⟨b4, 0, none⟩ = some (.map (some M))) (h5 : w.cell? ⟨b5, 0, none⟩ = some (.int .i64 fr)) (hl4 : b4 < w.heap.size) (hl5 : b5 < w.heap.size) (hf0 : 0 ≤ fr) (hf : fr ≤ 1073741824) (hT : Tells w B0 g n r)
    (ne4 : b4 ≠ g) (ne5 : b5 ≠ g) (neM : M ≠ g) (neA : ∀ b off, a = some ⟨b, off, none⟩ → b ≠ g) :
    Calls Tryz.prog 13 #[.slice (some ⟨g, 0, none⟩) n n, .slice a n cap, .func (.func 14) #[] #[.pointer (some ⟨b4, 0, none⟩), .pointer (some ⟨b5, 0, none⟩)]] w fun e w' =>
      e = .returned (.tuple #[]) ∧ Tells w' B0 g n (fun j => r j || mark (ev l) (cfs (ev l) nu fr) j) ∧ w.grownBy w' (some g) := by
  have hmm := @run_makeMap Tryz.prog
  have hthr := hide hthr
  have hg : g < w.heap.size := (World.ownsRow.lt hT g rfl).2
  obtain ⟨c, hc⟩ : ∃ c, cfs (ev l) nu fr = c := ⟨_, rfl⟩
  have HC : Hid (∀ i, c i = cf nu fr (ev l i)) := fun i => by rw [← hc]; rfl
  rw [hc]
  clear hc
  have h0 := hide (markI_made g n B0 (ev l) c r w hg hT)
  have HT : Hid (∀ (W : World) (t kd o v : Int), w.grownBy W (some g) → Calls Tryz.prog 14 #[.agg #[.int .i64 t, .int .i64 kd, .int .i64 o, .int .i64 v], .pointer (some ⟨b4, 0, none⟩), .pointer (some ⟨b5, 0, none⟩)] W fun e w' => e = .returned (.bool (cf nu fr ⟨t, kd, o, v⟩)) ∧ Below W.heap.size W w') := fun W t kd o v hgr => by
    have hz := hgr.size
    have hMl := hN.map.lt
    exact counts_any t kd o v W b4 b5 M m f nu fr (hN.same (hgr.block M hMl (by simpa using neM))) ((World.cell?_of_block (w := w) (a := ⟨b4, 0, none⟩) (hgr.block b4 hl4 (by simpa using ne4))).trans h4) ((World.cell?_of_block (w := w) (a := ⟨b5, 0, none⟩) (hgr.block b5 hl5 (by simpa using ne5))).trans h5) (by omega) (by omega) hf0 hf
  clear hN h4 h5 hT
  go_enter Tryz.func13, Tryz.ntmps13
  go_wp2_with fail
  go_loopw [8, 9, 10, 12, 13, 18] (fun _ _ _ _ _ jv wr => ∃ (j : Nat) (S : Nat → Prop) (Q : Int × Int → Nat → Prop), j ≤ n ∧ jv = .int .i64 j ∧ MarkI g n B0 (ev l) c j j (fun q => r q || (decide (q < j) && mark (ev l) c q)) w S Q wr) (fun _ _ _ _ _ jv _ => n - (intOf jv).toNat)
  case atStart => exact ⟨0, _, _, Nat.zero_le _, rfl, h0.out.tellsC (fun q _ => by simp)⟩
  case round =>
    clear h0
    obtain ⟨j, S, Q, hj, rfl, hI⟩ := hrel
    by_cases h5 : j < n
    · obtain ⟨b, off, rfl, hlt, hev⟩ := hs j (by omega)
      have hbg := neA b off rfl
      obtain ⟨⟨t, kd, o, v⟩, HE⟩ : ∃ x, Hid (ev l j = x) := ⟨_, rfl⟩
      rw [HE.out] at hev
      obtain ⟨k0, k1, k2, k3⟩ := hev
      have hbw := hI.grew.block b hlt (by simpa using hbg)
      have c0 := (World.cell?_of_block (w := w) (a := ⟨b, off + j * 4, none⟩) hbw).trans k0
      have c1 := (World.cell?_of_block (w := w) (a := ⟨b, off + j * 4 + 1, none⟩) hbw).trans k1
      have c2 := (World.cell?_of_block (w := w) (a := ⟨b, off + j * 4 + 2, none⟩) hbw).trans k2
      have c3 := (World.cell?_of_block (w := w) (a := ⟨b, off + j * 4 + 3, none⟩) hbw).trans k3
      have htr : In64 t := by have := hthr.out j (by omega); rw [HE.out] at this; exact this
      obtain ⟨W1, hW1⟩ : ∃ W1, wr.alloc (.cells #[.int .i64 t, .int .i64 kd, .int .i64 o, .int .i64 v] 33) = W1 := ⟨_, rfl⟩
      have hbW : Below wr.heap.size wr W1 := by rw [← hW1]; exact (Below.refl _ _).alloc (Nat.le_refl _) _
      have hz1 : W1.heap.size = wr.heap.size + 1 := by rw [← hW1]; simp
      obtain ⟨d0, d1, d2, d3⟩ := cells_four (w := W1) (b := wr.heap.size) (by rw [← hW1]; exact heap_alloc_new wr _)
      have hI1 := hide (hI.keep hg hbW)
      have hwz : w.heap.size + 1 < wr.heap.size := hI.last.mapLt
      have hQlt : ∀ a x, Q a x → x < wr.heap.size := hI.last.lt
      obtain ⟨cb, hcb⟩ : ∃ cb, Hid (c j = cb) := ⟨_, rfl⟩
      have hcf : cf nu fr ⟨t, kd, o, v⟩ = cb := by rw [← hcb.out, HC.out j, HE.out]
      obtain ⟨rj, hrj⟩ : ∃ rj : Nat → Bool, (fun q => r q || (decide (q < j) && mark (ev l) c q)) = rj := ⟨_, rfl⟩
      have HR : Hid (∀ q, rj q = (r q || (decide (q < j) && mark (ev l) c q))) := fun q => by rw [← hrj]
      rw [hrj] at hI1
      have HNX : Hid (∀ W, MarkI g n B0 (ev l) c j j rj w S Q W → Calls Tryz.prog 23 #[.map (some w.heap.size), .agg #[.int .i64 t, .int .i64 kd, .int .i64 o, .int .i64 v], .bool cb] W fun e w' => ∃ s S', e = .returned s ∧ StampV S' w' s (stampN (ev l) c j) ∧ MarkI g n B0 (ev l) c (j + 1) j rj w S' Q w' ∧ W.grownBy w' (some w.heap.size)) := fun W hIW => by
        have h := next_any t kd o v W hIW.flow HE.out htr (by omega)
        rw [hcb.out] at h
        refine h.mono ?_
        rintro e w' ⟨s, rfl, hst, hF, hgr⟩
        exact ⟨s, _, rfl, hst, hIW.next hg hF hgr, hgr⟩
      clear hI hrj k0 k1 k2 k3 hbw
      go_upto_region 5 with fail
      refine wp_region_held_drew (S := (fun w' => w'.cell? ⟨wr.heap.size, 0, none⟩ = some (.int .i64 t) ∧ w'.cell? ⟨wr.heap.size, 1, none⟩ = some (.int .i64 kd) ∧ w'.cell? ⟨wr.heap.size, 2, none⟩ = some (.int .i64 o) ∧ w'.cell? ⟨wr.heap.size, 3, none⟩ = some (.int .i64 v))) (by kernel_rfl) ⟨d0, d1, d2, d3⟩ (fun hHeld => ?_)
      refine wpAnyH_take (i := 0) (v := ?_) rfl (by kernel_rfl) (by kernel_rfl) (by kernel_rfl) (fun _ _ _ h => h) (Or.inl ⟨by rfl, ?_⟩) hHeld ?_
      rotate_left
      · intro w9 hSw; (try dsimp only at hSw); go_simp; try with_reducible rfl
      simp only [Act.put]
      refine wpAnyH_take (i := 1) (v := ?_) rfl (by kernel_rfl) (by kernel_rfl) (by kernel_rfl) (fun _ _ _ h => h) (Or.inl ⟨by rfl, ?_⟩) hHeld ?_
      rotate_left
      · intro w9 hSw; (try dsimp only at hSw); go_simp; try with_reducible rfl
      simp only [Act.put]
      refine wpAnyH_take (i := 2) (v := ?_) rfl (by kernel_rfl) (by kernel_rfl) (by kernel_rfl) (fun _ _ _ h => h) (Or.inl ⟨by rfl, ?_⟩) hHeld ?_
      rotate_left
      · intro w9 hSw; (try dsimp only at hSw); go_simp; try with_reducible rfl
      simp only [Act.put]
      refine wpAnyH_take (i := 3) (v := ?_) rfl (by kernel_rfl) (by kernel_rfl) (by kernel_rfl) (fun _ _ _ h => h) (Or.inl ⟨by rfl, ?_⟩) hHeld ?_
      rotate_left
      · intro w9 hSw; (try dsimp only at hSw); go_simp; try with_reducible rfl
      simp only [Act.put]
      refine wpAnyH_ready (rs := [4]) (by kernel_rfl) (by simp) ?_
      refine AllReadyH.cons rfl (fun K hK => ?_) AllReadyH.nil
      go_simp
      have hId := hI1.out.keep hg (Below.refl _ _).drew
      refine (HT.out _ t kd o v hId.grew).mono ?_
      rw [hcf]
      rintro e w2 ⟨rfl, hb2⟩
      have hI2 := hide (hId.keep hg hb2)
      have hz2 : W1.heap.size ≤ w2.heap.size := hb2.size
      have hHeld1 : w2.cell? ⟨wr.heap.size, 0, none⟩ = some (.int .i64 t) ∧ w2.cell? ⟨wr.heap.size, 1, none⟩ = some (.int .i64 kd) ∧ w2.cell? ⟨wr.heap.size, 2, none⟩ = some (.int .i64 o) ∧ w2.cell? ⟨wr.heap.size, 3, none⟩ = some (.int .i64 v) := by
        have hbk : w2.heap[wr.heap.size]? = W1.heap[wr.heap.size]? := hb2.block wr.heap.size (show wr.heap.size < W1.heap.size by omega)
        exact ⟨(World.cell?_of_block (w := W1) (a := ⟨wr.heap.size, 0, none⟩) hbk).trans d0, (World.cell?_of_block (w := W1) (a := ⟨wr.heap.size, 1, none⟩) hbk).trans d1, (World.cell?_of_block (w := W1) (a := ⟨wr.heap.size, 2, none⟩) hbk).trans d2, (World.cell?_of_block (w := W1) (a := ⟨wr.heap.size, 3, none⟩) hbk).trans d3⟩
      go_wp2_with fail
      refine hK.out _ _ hHeld1 (fun _ => ?_)
      clear hK K hId
      refine wpAnyH_ready (rs := [5]) (by kernel_rfl) (by simp) ?_
      refine AllReadyH.cons rfl (fun K hK => ?_) AllReadyH.nil
      go_simp
      refine (HNX.out w2 hI2.out).mono ?_
      rintro e w3 ⟨s, S', rfl, hst, hI3, hg3⟩
      have hHeld2 : w3.cell? ⟨wr.heap.size, 0, none⟩ = some (.int .i64 t) ∧ w3.cell? ⟨wr.heap.size, 1, none⟩ = some (.int .i64 kd) ∧ w3.cell? ⟨wr.heap.size, 2, none⟩ = some (.int .i64 o) ∧ w3.cell? ⟨wr.heap.size, 3, none⟩ = some (.int .i64 v) := by
        have hbk : w3.heap[wr.heap.size]? = w2.heap[wr.heap.size]? := hg3.block wr.heap.size (by omega) (by simp; omega)
        exact ⟨(World.cell?_of_block (w := w2) (a := ⟨wr.heap.size, 0, none⟩) hbk).trans hHeld1.1, (World.cell?_of_block (w := w2) (a := ⟨wr.heap.size, 1, none⟩) hbk).trans hHeld1.2.1, (World.cell?_of_block (w := w2) (a := ⟨wr.heap.size, 2, none⟩) hbk).trans hHeld1.2.2.1, (World.cell?_of_block (w := w2) (a := ⟨wr.heap.size, 3, none⟩) hbk).trans hHeld1.2.2.2⟩
      have hz3 := hg3.size
      have HI3 := hide hI3
      have HST := hide hst
      go_wp2_with fail
      refine hK.out _ _ hHeld2 (fun _ => ?_)
      clear hK K hI3 hst
      refine wpAnyH_ready (rs := [6]) (by kernel_rfl) (by simp) ?_
      refine AllReadyH.cons rfl (fun K hK => ?_) AllReadyH.nil
      go_simp
      refine hK.out _ _ hHeld2 (fun _ => ?_)
      clear hK K
      refine wpAnyH_done (by kernel_rfl) ?_ _
      obtain ⟨f0, f1, f2, f3⟩ := hHeld2
      clear hHeld hHeld1 hI2 HNX hI1 d0 d1 d2 d3 hbW hW1 c0 c1 c2 c3 hb2 hg3
      have hlz : wr.heap.size < w3.heap.size := by omega
      clear hz1 hz2 hz3
      generalize wr.heap.size = bx at f0 f1 f2 f3 hlz hwz hQlt ⊢
      have HQlt := hide hQlt
      clear hQlt
      go_wp2_with fail
      refine (rivals_any t kd o v w3).mono ?_
      rintro e w4 ⟨u, rfl, ⟨ar, cr, rfl, hrc, hrm, hds⟩, hfresh, hb4⟩
      obtain ⟨ds, hds0⟩ : ∃ ds, Hid (rivalsOf ⟨t, kd, o, v⟩ = ds) := ⟨_, rfl⟩
      rw [hds0.out] at hrc hds hfresh ⊢
      have hI4 := hide (HI3.out.keep hg hb4)
      have hst4 := hide (HST.out.any hb4)
      have hz4 := hb4.size
      clear HI3 HST
      have g0 := (hb4.cell (p := ⟨bx, 0, none⟩) hlz).trans f0
      have g1 := (hb4.cell (p := ⟨bx, 1, none⟩) hlz).trans f1
      have g2 := (hb4.cell (p := ⟨bx, 2, none⟩) hlz).trans f2
      have g3 := (hb4.cell (p := ⟨bx, 3, none⟩) hlz).trans f3
      clear f0 f1 f2 f3 hb4
      have hgl : w.heap.size ≤ w4.heap.size := by omega
      have hloop : Hid (∀ (i : Nat) (x : Bool) (W : World), i < ds.length → MarkI g n B0 (ev l) c (j + 1) j (fun q => rj q || (decide (q = j) && (ds.take i).any (bad (ev l) c j))) w S' Q W → x = ((rj j || (ds.take i).any (bad (ev l) c j)) || bad (ev l) c j (ds.getD i (0, 0))) → MarkI g n B0 (ev l) c (j + 1) j (fun q => rj q || (decide (q = j) && (ds.take (i + 1)).any (bad (ev l) c j))) w S' Q (W.setCell ⟨g, j, none⟩ (.bool x)) ∧ W.grownBy (W.setCell ⟨g, j, none⟩ (.bool x)) (some g)) := fun i x W hi hIW hx => by
        refine ⟨(hIW.set hg j x).tellsC fun q hq => ?_, (World.ownsRow.stored hIW.tells j (.bool x)).2⟩
        rw [take_any_succ ds _ i hi]
        by_cases e : q = j
        · subst e; rw [if_pos rfl, hx]; simp [Bool.or_assoc]
        · rw [if_neg e]; simp [e]
      go_wp2_with fail
      go_loopw [12, 32] (fun _ iv wr => ∃ i : Nat, i ≤ ds.length ∧ iv = .int .i64 i ∧ MarkI g n B0 (ev l) c (j + 1) j (fun q => rj q || (decide (q = j) && (ds.take i).any (bad (ev l) c j))) w S' Q wr ∧ w4.grownBy wr (some g)) (fun _ iv _ => ds.length - (intOf iv).toNat)
      case atStart => exact ⟨0, Nat.zero_le _, rfl, hI4.out.tellsC (fun q _ => by simp), ⟨rfl, rfl, rfl, Nat.le_refl _, fun _ _ _ => rfl⟩⟩
      case round =>
        obtain ⟨i, hi, rfl, hIi, hgi⟩ := hrel
        have hzi := hgi.size
        by_cases h6 : i < ds.length
        · obtain ⟨bd, rfl, hbd, q1, q2⟩ := hds i h6
          have hbdf := hfresh bd 0 _ _ rfl
          have hbk := hgi.block bd hbd (by simp; omega)
          obtain ⟨⟨x1, x2⟩, hdx⟩ : ∃ d, Hid (ds.getD i (0, 0) = d) := ⟨_, rfl⟩
          rw [hdx.out] at q1 q2
          have p1 : wr.cell? ⟨bd, i * 2, none⟩ = some (.int .i64 x1) := by rw [Nat.mul_comm]; exact (World.cell?_of_block (w := w4) (a := ⟨bd, 2 * i, none⟩) hbk).trans q1
          have p2 : wr.cell? ⟨bd, i * 2 + 1, none⟩ = some (.int .i64 x2) := by rw [Nat.mul_comm]; exact (World.cell?_of_block (w := w4) (a := ⟨bd, 2 * i + 1, none⟩) hbk).trans q2
          obtain ⟨W5, hW5⟩ : ∃ W5, wr.alloc (.cells #[.int .i64 x1, .int .i64 x2] 72) = W5 := ⟨_, rfl⟩
          have hb5 : Below wr.heap.size wr W5 := by rw [← hW5]; exact (Below.refl _ _).alloc (Nat.le_refl _) _
          obtain ⟨y1, y2⟩ := cells_two (w := W5) (b := wr.heap.size) (by rw [← hW5]; exact heap_alloc_new wr _)
          have hI5 := hide (hIi.keep hg hb5)
          have hg5 : w4.grownBy W5 (some g) := grown_below hgi hb5
          have hrc := hI5.out.tells.cell h5
          have hrf := hI5.out.tells.frozen j
          have hjn : (j : Int) < (n : Int) := by omega
          have him : (i : Int) < (ds.length : Int) := by omega
          obtain ⟨rb, hrb⟩ : ∃ rb, Hid ((rj j || (ds.take i).any (bad (ev l) c j)) = rb) := ⟨_, rfl⟩
          have hrc' : W5.cell? ⟨g, j, none⟩ = some (.bool rb) := by rw [hrc, ← hrb.out]; simp
          clear hrc q1 q2 hbk hIi hgi
          cases rb with
          | true =>
            obtain ⟨hfI, hfg⟩ := hloop.out i true W5 h6 hI5.out (by rw [hrb.out]; rfl)
            have HF := hide hfI
            have HG := hide (grown_then hg5 hfg)
            clear hfI hfg
            go_wp2_with fail
            go_roundw
            case rel => exact ⟨i + 1, by omega, by go_num, HF.out, HG.out⟩
            case measure => simp [intOf]; omega
          | false =>
            obtain ⟨v5, hlk5, hsv5⟩ := hI5.out.last.look (x1, x2)
            have hst5 : StampV S' W5 s (stampN (ev l) c j) := hst4.out.kept hg5.size (fun bq hS => hg5.block bq (by have := hI4.out.flow.lt bq hS; exact this) (by have := (hI4.out.sOut bq hS).1; simp; omega))
            have HLQ := hide (leq_any W5 hsv5 hst5 (stampN_nonneg _ _ _))
            have hstep : Hid (∀ (c1 : Bool) (w6 : World), (c1 = true ↔ ∀ u, lastN (ev l) c j (x1, x2) u ≤ stampN (ev l) c j u) → Below W5.heap.size W5 w6 → w6.cell? ⟨g, j, none⟩ = some (.bool false) ∧ w6.frozen? ⟨g, j, none⟩ = false ∧ MarkI g n B0 (ev l) c (j + 1) j (fun q => rj q || (decide (q = j) && (ds.take (i + 1)).any (bad (ev l) c j))) w S' Q (w6.setCell ⟨g, j, none⟩ (.bool (!c1))) ∧ w4.grownBy (w6.setCell ⟨g, j, none⟩ (.bool (!c1))) (some g)) := fun c1 w6 hc1 hb6 => by
              have hI6 := hI5.out.keep hg hb6
              have hgz : g < W5.heap.size := by have := hI5.out.grew.size; omega
              obtain ⟨hfI, hfg⟩ := hloop.out i (!c1) w6 h6 hI6 (by rw [hrb.out, hdx.out, bad_iff (ev l) c j (x1, x2) hc1]; rfl)
              exact ⟨(hb6.cell (p := ⟨g, j, none⟩) hgz).trans hrc', (hb6.frozen (p := ⟨g, j, none⟩) hgz).trans hrf, hfI, grown_then (grown_below hg5 hb6) hfg⟩
            clear hst5 hsv5 hI5
            go_wp2_with (go_at_call 28; refine HLQ.out.mono ?_; rintro e w6 ⟨c1, rfl, hc1, hb6⟩; obtain ⟨z1, z2, z3, z4⟩ := hstep.out c1 w6 hc1 hb6; have Z3 := hide z3; clear z3 hc1)
            go_roundw
            case rel => exact ⟨i + 1, by omega, by go_num, Z3.out, z4⟩
            case measure => simp [intOf]; omega
        · obtain rfl : i = ds.length := by omega
          have hfull : Hid (∀ q, (rj q || (decide (q = j) && (ds.take ds.length).any (bad (ev l) c j))) = (r q || (decide (q < j + 1) && mark (ev l) c q))) := fun q => by
            rw [List.take_length, HR.out, ← hds0.out, ← HE.out, mark_bad]
            by_cases e : q = j
            · subst e; simp
            · have : decide (q < j + 1) = decide (q < j) := by simp only [decide_eq_decide]; omega
              rw [this]; simp [e]
          have hI7 := hide (hIi.tellsC fun q _ => hfull.out q)
          have hbxk := hgi.block bx (by omega) (by simp; omega)
          have m0 := (World.cell?_of_block (w := w4) (a := ⟨bx, 0, none⟩) hbxk).trans g0
          have m1 := (World.cell?_of_block (w := w4) (a := ⟨bx, 1, none⟩) hbxk).trans g1
          have m2 := (World.cell?_of_block (w := w4) (a := ⟨bx, 2, none⟩) hbxk).trans g2
          have m3 := (World.cell?_of_block (w := w4) (a := ⟨bx, 3, none⟩) hbxk).trans g3
          have hst7 := hide (hst4.out.kept hgi.size (fun bq hS => hgi.block bq (by have := hI4.out.flow.lt bq hS; exact this) (by have := (hI4.out.sOut bq hS).1; simp; omega)))
          have HTc := hide (HT.out wr t kd o v hI7.out.grew)
          rw [hcf] at HTc
          have hlb : bx < wr.heap.size := by omega
          clear hIi hgi hbxk g0 g1 g2 g3 hst4 hI4 hloop hds hfresh hrc hrm
          go_wp2_with fail
          refine HTc.out.mono ?_
          rintro e w7 ⟨rfl, hb7⟩
          have hI8 := hide (hI7.out.keep hg hb7)
          have hst8 := hide (hst7.out.any hb7)
          have n0 := (hb7.cell (p := ⟨bx, 0, none⟩) hlb).trans m0
          have n1 := (hb7.cell (p := ⟨bx, 1, none⟩) hlb).trans m1
          have n2 := (hb7.cell (p := ⟨bx, 2, none⟩) hlb).trans m2
          have hlb7 : bx < w7.heap.size := by have := hb7.size; omega
          clear hI7 hst7 m0 m1 m2 m3 hb7 HTc
          cases cb with
          | false =>
            have hfin := hide (hI8.out.skipL hcb.out)
            go_wp2_with fail
            go_roundw
            case rel => exact ⟨j + 1, S', Q, by omega, by go_num, hfin.out⟩
            case measure => simp [intOf]; omega
          | true =>
            obtain ⟨W8, hW8⟩ : ∃ W8, w7.alloc (.cells #[.int .i64 kd, .int .i64 o] 72) = W8 := ⟨_, rfl⟩
            have hb8 : Below w7.heap.size w7 W8 := by rw [← hW8]; exact (Below.refl _ _).alloc (Nat.le_refl _) _
            have hz8 : W8.heap.size = w7.heap.size + 1 := by rw [← hW8]; simp
            obtain ⟨y1, y2⟩ := cells_two (w := W8) (b := w7.heap.size) (by rw [← hW8]; exact heap_alloc_new w7 _)
            have hI9 := hide (hI8.out.keep hg hb8)
            have hst9 := hide (hst8.out.any hb8)
            have o0 := (hb8.cell (p := ⟨bx, 0, none⟩) hlb7).trans n0
            have hown := hI9.out.own hg (kd, o)
            have hAcc : Hid (Acc (ev l) c (kd, o) j) := ⟨hcb.out, by rw [HE.out], by rw [HE.out]⟩
            have hms := map_some
            have hmn : ∀ u : World, Sem.run Tryz.prog (binOp .eql 59 (.map none) (.map none)) u = .ok (.bool true) u := fun u => by kernel_rfl
            obtain ⟨v13, z, hlk13, heq, heg, hcase⟩ : ∃ v13 z, Sem.run Tryz.prog (Instr.lookup 68 (.map (some (w.heap.size + 1))) (.agg #[.int .i64 kd, .int .i64 o]) false) W8 = .ok v13 W8 ∧ (∀ u : World, Sem.run Tryz.prog (binOp .eql 59 v13 (.map none)) u = .ok (.bool z) u) ∧ (∀ u : World, Sem.run Tryz.prog (eqGuard .eql 59 (Operand.tmp 63) (Operand.const (.map none)) v13 (.map none)) u = .ok () u) ∧ Hid ((∃ b', z = false ∧ v13 = .map (some b') ∧ PutS w.heap.size (Q (kd, o)) W8 b' (lastN (ev l) c j (kd, o))) ∨ (z = true ∧ v13 = .map none ∧ ∃ w2 Q', Sem.run Tryz.prog (Instr.mapUpdate 68 (.map (some (w.heap.size + 1))) (.agg #[.int .i64 kd, .int .i64 o]) (.map (some W8.heap.size))) (W8.alloc (.map #[] 0)) = .ok () w2 ∧
                MarkI g n B0 (ev l) c (j + 1) j (fun q => r q || (decide (q < j + 1) && mark (ev l) c q)) w S' Q' w2 ∧ Sem.run Tryz.prog (Instr.lookup 68 (.map (some (w.heap.size + 1))) (.agg #[.int .i64 kd, .int .i64 o]) false) w2 = .ok (.map (some W8.heap.size)) w2 ∧ PutS w.heap.size (Q' (kd, o)) w2 W8.heap.size (lastN (ev l) c j (kd, o)) ∧ (W8.alloc (.map #[] 0)).grownBy w2 (some (w.heap.size + 1)) ∧ ∀ a' x, Q' a' x → Q a' x ∨ x = W8.heap.size)) := by
              rcases hown with ⟨b', h1, h2⟩ | ⟨h1, h2⟩
              · exact ⟨_, false, h1, hms b', (fun u => by kernel_rfl), .inl ⟨b', rfl, rfl, h2⟩⟩
              · exact ⟨_, true, h1, hmn, (fun u => by kernel_rfl), .inr ⟨rfl, rfl, h2⟩⟩
            have HZ8 := hide hz8
            clear hown hI8 hst8 n0 hms hmn hz8
            go_upto_if 64 with fail
            go_cut [67] (fun _ wx => ∃ Q' b', MarkI g n B0 (ev l) c (j + 1) j (fun q => r q || (decide (q < j + 1) && mark (ev l) c q)) w S' Q' wx ∧ Sem.run Tryz.prog (Instr.lookup 68 (.map (some (w.heap.size + 1))) (.agg #[.int .i64 kd, .int .i64 o]) false) wx = .ok (.map (some b')) wx ∧ PutS w.heap.size (Q' (kd, o)) wx b' (lastN (ev l) c j (kd, o)) ∧ (∀ a' x, Q' a' x → Q a' x ∨ x = W8.heap.size) ∧ (∀ x, x < W8.heap.size → x ≠ w.heap.size + 1 → wx.heap[x]? = W8.heap[x]?) ∧ W8.heap.size ≤ wx.heap.size)
            case first =>
              rcases hcase.out with ⟨b', rfl, rfl, hp⟩ | ⟨rfl, rfl, w2, Q', hput, hI', hlk', hp', hg', hQ'⟩
              · have HPp := hide hp
                clear hp
                go_wp2_with fail
                go_meet
                exact ⟨Q, b', hI9.out, hlk13, HPp.out, fun a' x hx => .inl hx, fun _ _ _ => rfl, Nat.le_refl _⟩
              · have HPp := hide (⟨hI', hlk', hp', hQ'⟩ : _ ∧ _ ∧ _ ∧ _)
                have hgz := hg'.size
                rw [World.size_alloc] at hgz
                have hst : Hid (∀ x, x < W8.heap.size → x ≠ w.heap.size + 1 → w2.heap[x]? = W8.heap[x]?) := fun x h1 h2 => (hg'.block x (by simp; omega) (by simpa using h2)).trans (heap_alloc_old W8 _ h1)
                clear hI' hlk' hp' hg' hQ'
                go_wp2_with fail
                go_meet
                exact ⟨Q', _, HPp.out.1, HPp.out.2.1, HPp.out.2.2.1, HPp.out.2.2.2, hst.out, by omega⟩
            case rest =>
              clear hcase hlk13 hI9 heq heg
              obtain ⟨Q', b', hIx, hlkx, hpx, hQx, hkx, hzx⟩ := hcut
              have hz8 := HZ8.out
              have hbx7 : bx < w7.heap.size := hlb7
              have hHx : wc.cell? ⟨bx, 0, none⟩ = some (.int .i64 t) ∧ wc.cell? ⟨w7.heap.size, 0, none⟩ = some (.int .i64 kd) ∧ wc.cell? ⟨w7.heap.size, 1, none⟩ = some (.int .i64 o) := by
                have e1 := hkx bx (by omega) (by omega)
                have e2 := hkx w7.heap.size (by omega) (by omega)
                exact ⟨(World.cell?_of_block (w := W8) (a := ⟨bx, 0, none⟩) e1).trans o0, (World.cell?_of_block (w := W8) (a := ⟨w7.heap.size, 0, none⟩) e2).trans y1, (World.cell?_of_block (w := W8) (a := ⟨w7.heap.size, 1, none⟩) e2).trans y2⟩
              have hstx : StampV S' wc s (stampN (ev l) c j) := by
                have h1 : StampV (fun x => S' x ∧ x < W8.heap.size) W8 s (stampN (ev l) c j) := hst9.out.mono fun x hx hS => ⟨hS, hx⟩
                exact (h1.kept hzx fun x hx => hkx x hx.2 (by have := (hIx.sOut x hx.1).1; omega)).mono fun x _ hx => hx.1
              have hIxd := hIx.keep hg (Below.refl _ wc).drew
              have hlkd : Sem.run Tryz.prog (Instr.lookup 68 (.map (some (w.heap.size + 1))) (.agg #[.int .i64 kd, .int .i64 o]) false) wc.drew = .ok (.map (some b')) wc.drew := hIx.last.lookSame (a := (kd, o)) hlkx rfl
              have HOF := hide (of_any t wc.drew htr (hstx.any (Below.refl _ _).drew))
              have hput : Hid (∀ w10, Below wc.drew.heap.size wc.drew w10 → Calls Tryz.prog 29 #[.map (some b'), .int .i64 t, .int .i64 (stampN (ev l) c j t)] w10 fun e w' => e = .returned (.tuple #[]) ∧ (∃ Q2, MarkI g n B0 (ev l) c (j + 1) (j + 1) (fun q => r q || (decide (q < j + 1) && mark (ev l) c q)) w S' Q2 w') ∧ Chg (Q' (kd, o)) w10 w') := fun w10 hb10 => by
                have hI10 := hIxd.keep hg hb10
                have hQz : ∀ x, Q' (kd, o) x → x < wc.heap.size := hIx.last.lt (kd, o)
                have hp10 : PutS w.heap.size (Q' (kd, o)) w10 b' (lastN (ev l) c j (kd, o)) := hpx.kept fun x hx => hb10.block x (hQz x hx)
                have hcz : wc.heap.size ≤ w10.heap.size := hb10.size
                refine (putSt_any t (stampN (ev l) c j t) w10 htr hp10 (by have := hI10.grew.size; omega) (fun x hx => by have := hQz x hx; omega)).mono ?_
                rintro e w11 ⟨rfl, hp11, hch⟩
                refine ⟨rfl, hI10.put hg hAcc.out (hIxd.last.lookSame (a := (kd, o)) hlkd (hb10.block _ hIxd.last.mapLt)) (hp11.congr fun u => ?_) hch, hch⟩
                rw [HE.out]
              have hsep : Hid (∀ x, x = bx ∨ x = w7.heap.size ∨ x = w.heap.size + 1 → ¬ Q' (kd, o) x) := fun x hx hq => by
                rcases hQx _ _ hq with h | h
                · have h1 := HQlt.out _ _ h
                  have h2 := hIx.qOut _ _ hq
                  omega
                · omega
              have hMlt := hIxd.last.mapLt
              have hIxl := hIxd.last
              have HIXL := hide hIxl
              have hlzc : bx < wc.heap.size ∧ w7.heap.size < wc.heap.size := by omega
              clear hIx hpx hQx hkx hstx hIxd hIxl hz8 o0 y1 y2 hb8 hW8 hst9
              go_upto_region 15 with fail
              refine wp_region_held_drew (S := (fun w' => w'.cell? ⟨bx, 0, none⟩ = some (.int .i64 t) ∧ w'.cell? ⟨w7.heap.size, 0, none⟩ = some (.int .i64 kd) ∧ w'.cell? ⟨w7.heap.size, 1, none⟩ = some (.int .i64 o) ∧ Sem.run Tryz.prog (Instr.lookup 68 (.map (some (w.heap.size + 1))) (.agg #[.int .i64 kd, .int .i64 o]) false) w' = .ok (.map (some b')) w')) (by kernel_rfl) ⟨hHx.1, hHx.2.1, hHx.2.2, hlkd⟩ (fun hHeld => ?_)
              refine wpAnyH_take (i := 0) (v := ?_) rfl (by kernel_rfl) (by kernel_rfl) (by kernel_rfl) (fun _ _ _ h => h) (Or.inl ⟨by rfl, ?_⟩) hHeld ?_
              rotate_left
              · intro w9 hSw; (try dsimp only at hSw); go_simp; try with_reducible rfl
              simp only [Act.put]
              refine wpAnyH_take (i := 1) (v := ?_) rfl (by kernel_rfl) (by kernel_rfl) (by kernel_rfl) (fun _ _ _ h => h) (Or.inl ⟨by rfl, ?_⟩) hHeld ?_
              rotate_left
              · intro w9 hSw; (try dsimp only at hSw); go_simp; try with_reducible rfl
              simp only [Act.put]
              refine wpAnyH_take (i := 2) (v := ?_) rfl (by kernel_rfl) (by kernel_rfl) (by kernel_rfl) (fun _ _ _ h => h) (Or.inl ⟨by rfl, ?_⟩) hHeld ?_
              rotate_left
              · intro w9 hSw; (try dsimp only at hSw); go_simp; try with_reducible rfl
              simp only [Act.put]
              refine wpAnyH_take (i := 3) (v := ?_) rfl (by kernel_rfl) (by kernel_rfl) (by kernel_rfl) (fun _ _ _ h => h) (Or.inl ⟨by rfl, ?_⟩) hHeld ?_
              rotate_left
              · intro w9 hSw; (try dsimp only at hSw); go_simp; try with_reducible rfl
              simp only [Act.put]
              refine wpAnyH_take (i := 4) (v := ?_) rfl (by kernel_rfl) (by kernel_rfl) (by kernel_rfl) (fun _ _ _ h => h) (Or.inl ⟨by rfl, ?_⟩) hHeld ?_
              rotate_left
              · intro w9 hSw; (try dsimp only at hSw); go_simp; try with_reducible rfl
              simp only [Act.put]
              refine wpAnyH_take (i := 5) (v := ?_) rfl (by kernel_rfl) (by kernel_rfl) (by kernel_rfl) (fun _ _ _ h => h) (Or.inl ⟨by rfl, ?_⟩) hHeld ?_
              rotate_left
              · intro w9 hSw; (try dsimp only at hSw); go_simp; try with_reducible rfl
              simp only [Act.put]
              refine wpAnyH_take (i := 6) (v := ?_) rfl (by kernel_rfl) (by kernel_rfl) (by kernel_rfl) (fun _ _ _ h => h) (Or.inl ⟨by rfl, ?_⟩) hHeld ?_
              rotate_left
              · intro w9 hSw; (try dsimp only at hSw); go_simp; try with_reducible rfl
              simp only [Act.put]
              refine wpAnyH_take (i := 7) (v := ?_) rfl (by kernel_rfl) (by kernel_rfl) (by kernel_rfl) (fun _ _ _ h => h) (Or.inl ⟨by rfl, ?_⟩) hHeld ?_
              rotate_left
              · intro w9 hSw; (try dsimp only at hSw); go_simp; try with_reducible rfl
              simp only [Act.put]
              refine wpAnyH_ready (rs := [8]) (by kernel_rfl) (by simp) ?_
              refine AllReadyH.cons rfl (fun K hK => ?_) AllReadyH.nil
              go_simp
              go_at_call 30
              refine HOF.out.mono ?_
              rintro e w10 ⟨rfl, hb10⟩
              have hcz : wc.heap.size ≤ w10.heap.size := hb10.size
              have hHeld1 : w10.cell? ⟨bx, 0, none⟩ = some (.int .i64 t) ∧ w10.cell? ⟨w7.heap.size, 0, none⟩ = some (.int .i64 kd) ∧ w10.cell? ⟨w7.heap.size, 1, none⟩ = some (.int .i64 o) ∧ Sem.run Tryz.prog (Instr.lookup 68 (.map (some (w.heap.size + 1))) (.agg #[.int .i64 kd, .int .i64 o]) false) w10 = .ok (.map (some b')) w10 :=
                ⟨(hb10.cell (p := ⟨bx, 0, none⟩) hlzc.1).trans hHx.1, (hb10.cell (p := ⟨w7.heap.size, 0, none⟩) hlzc.2).trans hHx.2.1, (hb10.cell (p := ⟨w7.heap.size, 1, none⟩) hlzc.2).trans hHx.2.2, HIXL.out.lookSame (a := (kd, o)) hlkd (hb10.block _ hMlt)⟩
              go_wp2_with fail
              refine hK.out _ _ hHeld1 (fun _ => ?_)
              clear hK K
              refine wpAnyH_ready (rs := [9]) (by kernel_rfl) (by simp) ?_
              refine AllReadyH.cons rfl (fun K hK => ?_) AllReadyH.nil
              go_simp
              go_at_call 29
              refine (hput.out w10 hb10).mono ?_
              rintro e w11 ⟨rfl, ⟨Q2, hI11⟩, hch⟩
              have HI11 := hide hI11
              have hHeld2 : w11.cell? ⟨bx, 0, none⟩ = some (.int .i64 t) ∧ w11.cell? ⟨w7.heap.size, 0, none⟩ = some (.int .i64 kd) ∧ w11.cell? ⟨w7.heap.size, 1, none⟩ = some (.int .i64 o) ∧ Sem.run Tryz.prog (Instr.lookup 68 (.map (some (w.heap.size + 1))) (.agg #[.int .i64 kd, .int .i64 o]) false) w11 = .ok (.map (some b')) w11 := by
                have e1 := hch.block bx (by omega) (hsep.out _ (.inl rfl))
                have e2 := hch.block w7.heap.size (by omega) (hsep.out _ (.inr (.inl rfl)))
                have e3 := hch.block (w.heap.size + 1) (Nat.lt_of_lt_of_le hMlt hcz) (hsep.out _ (.inr (.inr rfl)))
                exact ⟨(World.cell?_of_block (w := w10) (a := ⟨bx, 0, none⟩) e1).trans hHeld1.1, (World.cell?_of_block (w := w10) (a := ⟨w7.heap.size, 0, none⟩) e2).trans hHeld1.2.1, (World.cell?_of_block (w := w10) (a := ⟨w7.heap.size, 1, none⟩) e2).trans hHeld1.2.2.1, HIXL.out.lookSame (a := (kd, o)) hlkd (e3.trans (hb10.block _ hMlt))⟩
              clear hI11 hch
              go_wp2_with fail
              refine hK.out _ _ hHeld2 (fun _ => ?_)
              clear hK K
              refine wpAnyH_done (by kernel_rfl) ?_ _
              clear hHeld hHeld1 hHeld2 hHx hlkd hlkx
              go_wp2_with fail
              go_roundw
              case rel => exact ⟨j + 1, S', Q2, by omega, by go_num, HI11.out⟩
              case measure => simp [intOf]; omega
    · obtain rfl : j = n := by omega
      have HI := hide hI
      clear hI
      go_wp2_with fail
      go_end0
      exact ⟨rfl, HI.out.tells.congr (fun q hq => by simp [hq]), HI.out.grew⟩
end Go.Proofs.YtbajfapfpcjenaaGreatDoor
namespace Go.Proofs.YtbajfapfpcjenaaGreatDoor
open Go.RowKit Go.Proofs.Ord

/-- The number of a thread, as the map tells it. -/
def nuOf (f : Int → Option Value) (t : Int) : Int := match f t with
  | some (.int _ j) => j
  | _ => 0
theorem NumberedW.nums {w : World} {M : Nat} {L : Nat → Ev} {k : Nat} {f : Int → Option Value} {m : Nat} (h : NumberedW w M L k f m) : NumsW w M f m (nuOf f) := by
  refine ⟨h.map, fun t => ?_⟩
  unfold nuOf
  cases hf : f t with
  | none => rfl
  | some v => obtain ⟨j, _, rfl⟩ := h.val t v hf; rfl
theorem NumberedW.nonneg {w : World} {M : Nat} {L : Nat → Ev} {k : Nat} {f : Int → Option Value} {m : Nat} (h : NumberedW w M L k f m) (t : Int) : 0 ≤ nuOf f t := by
  unfold nuOf
  cases hf : f t with
  | none => exact Int.le_refl _
  | some v => obtain ⟨j, _, rfl⟩ := h.val t v hf; show (0 : Int) ≤ (j : Int); omega
theorem NumberedW.below {w : World} {M : Nat} {L : Nat → Ev} {k : Nat} {f : Int → Option Value} {m : Nat} (h : NumberedW w M L k f m) {i : Nat} (hi : i < k) (ha : access (L i) = true) : nuOf f (L i).thread < m := by
  unfold nuOf
  obtain ⟨v, hv⟩ := Option.isSome_iff_exists.1 (h.has i hi ha)
  rw [hv]
  obtain ⟨j, hj, rfl⟩ := h.val _ v hv
  show (j : Int) < (m : Int); omega

/-- The accesses of threads whose number is below fr. -/
def upTo (L : Nat → Ev) (nu : Int → Int) (fr : Int) (i : Nat) : Bool := access (L i) && decide (nu (L i).thread < fr)

theorem any_or_pred {α : Type} (l : List α) (p q : α → Bool) : (l.any p || l.any q) = l.any (fun x => p x || q x) := by
  induction l with
  | nil => rfl
  | cons x l ih =>
    simp only [List.any_cons]
    rw [← ih]
    cases p x <;> cases q x <;> simp
theorem mark_step (L : Nat → Ev) (nu : Int → Int) (fr : Int) (k : Nat) : (mark L (upTo L nu fr) k || mark L (cfs L nu fr) k) = mark L (upTo L nu (fr + 16384)) k := by
  unfold mark
  rw [any_or_pred]
  congr 1
  funext i
  have e : (upTo L nu fr i || cfs L nu fr i) = upTo L nu (fr + 16384) i := by
    unfold upTo cfs cf
    cases access (L i) with
    | false => rfl
    | true =>
      simp only [Bool.true_and]
      rw [Bool.eq_iff_iff]
      simp only [Bool.or_eq_true, Bool.and_eq_true, decide_eq_true_eq]
      omega
  rw [← e]
  cases upTo L nu fr i <;> cases cfs L nu fr i <;> simp
theorem mark_none (L : Nat → Ev) (nu : Int → Int) (k : Nat) (h0 : ∀ t, 0 ≤ nu t) : mark L (upTo L nu 0) k = false := by
  unfold mark
  rw [List.any_eq_false]
  intro i _
  have : decide (nu (L i).thread < 0) = false := decide_eq_false (by have := h0 (L i).thread; omega)
  unfold upTo
  rw [this]; simp
theorem mark_all (L : Nat → Ev) (nu : Int → Int) (fr : Int) (k : Nat) (h : ∀ i, i < k → access (L i) = true → nu (L i).thread < fr) : mark L (upTo L nu fr) k = racy L k := by
  rw [Bool.eq_iff_iff, mark_iff, racy_iff]
  constructor
  · rintro ⟨i, h1, _, h3⟩; exact ⟨i, h1, h3⟩
  · rintro ⟨i, h1, h3⟩
    have ha : access (L i) = true := by
      unfold race at h3
      rw [Bool.and_eq_true, conflict_iff] at h3
      unfold access
      rcases h3.1.1 with h | h <;> simp [h]
    exact ⟨i, h1, by unfold upTo; rw [ha, decide_eq_true (h i h1 ha)]; rfl, h3⟩

/-- The number in a variable. -/
def intAt (p : Value) (w : World) : Int := match p with
  | .pointer (some a) => (match w.cell? a with | some (.int _ x) => x | _ => 0)
  | _ => 0
theorem intAt_is {w : World} {a : Addr} {k : IntKind} {x : Int} (h : w.cell? a = some (.int k x)) : intAt (.pointer (some a)) w = x := by simp [intAt, h]

set_option maxRecDepth 100000 in
set_option maxHeartbeats 2000000 in
theorem racy_new : RacyNSaid := by
  intro a n cap l w hn hs hc hm hb hthr
  obtain ⟨i0, hi0, hz0, hz1, hz2⟩ := info_parts Tryz.infob
  by_cases hn0 : n = 0
  · subst hn0
    go_enter Tryz.func6, Tryz.ntmps6
    go_wp2
    go_ret
    exact ⟨none, 0, rfl, fun i hi => absurd hi (by omega), fun b off e => (by cases e), Below.refl _ _⟩
  · have hthr := hide hthr
    have hne : ((n : Int) == 0) = false := beq_eq_false_iff_ne.2 (by omega)
    go_enter Tryz.func6, Tryz.ntmps6
    go_wp2_with (at_make; refine wpList_make_full _ rfl _ _ 27 rfl w.heap.size 4 i0 (.bool false) 1 Tryz.underlying27 hi0 hz0 hz1 _ _ _ _ n rfl rfl (by first | rfl | simp) (by first | rfl | simp) (by rw [hz2]; omega) (by unfold maxLen; omega) (Nat.le_refl _) ?_; intro w1 hown hgrow)
    have ht1 : Tells w1 w.heap.size w.heap.size n (fun _ => false) := by
      unfold Tells
      have e : ((List.range n).map fun _ => Value.bool false) = (madeCells (Value.bool false).cells (n * 1)).toList := by
        rw [show (Value.bool false).cells = #[Value.bool false] from rfl, toList_madeCells_one, Nat.mul_one, List.map_const', List.length_range]
      rw [e]; exact hown
    have hb1 : Below w.heap.size w w1 := (Below.refl _ _).grown hgrow (Nat.le_refl _) (fun q e => by cases e)
    have hlt1 : w.heap.size < w1.heap.size := (World.ownsRow.lt ht1 _ rfl).2
    clear hown hgrow
    refine (numbered_any _ _ _ _ _ hn (hs.below hb1) hb).mono ?_
    rintro e w2 ⟨M, f, m, rfl, hM, hNu, hb2⟩
    have ht2 := ht1.below hb2 hlt1
    have hz2' := hb2.size
    obtain ⟨nu, hnu⟩ : ∃ nu, nuOf f = nu := ⟨_, rfl⟩
    have hNs := hNu.nums
    have h0 : Hid (∀ t, 0 ≤ nu t) := fun t => by rw [← hnu]; exact hNu.nonneg t
    have hall : Hid (∀ i, i < n → access (ev l i) = true → nu (ev l i).thread < m) := fun i hi ha => by rw [← hnu]; exact hNu.below hi ha
    have hmn : m ≤ n := hNu.le
    rw [hnu] at hNs
    have HNs := hide hNs
    have hMl := hNs.map.lt
    clear hNu hNs hnu
    obtain ⟨w4, hw4⟩ : ∃ w4, (w2.alloc (.cells #[.map (some M)] 49)).alloc (.cells #[.int .i64 0] 3) = w4 := ⟨_, rfl⟩
    have hb4 : Below w2.heap.size w2 w4 := by rw [← hw4]; exact ((Below.refl _ _).alloc (Nat.le_refl _) _).alloc (by simp) _
    have hz4 : w4.heap.size = w2.heap.size + 2 := by rw [← hw4]; simp
    have hc4 : w4.cell? ⟨w2.heap.size, 0, none⟩ = some (.map (some M)) := by rw [← hw4]; simp
    have hc5 : w4.cell? ⟨w2.heap.size + 1, 0, none⟩ = some (.int .i64 0) := by
      have e := heap_two w2 (.cells #[.map (some M)] 49) (.cells #[.int .i64 0] 3)
      rw [hw4] at e
      simp [World.cell?, e]
    have ht4 := ht2.below hb4 (by omega)
    have hbw4 : Below w.heap.size w w4 := (hb1.trans (hb2.mono hb1.size)).trans (hb4.mono (by omega))
    have hstart : Hid (w4.heap[M]? = w2.heap[M]? ∧ Tells w4 w.heap.size w.heap.size n (mark (ev l) (upTo (ev l) nu 0)) ∧ Below w.heap.size w w4) := ⟨hb4.block _ hMl, ht4.congr (fun q _ => (mark_none (ev l) nu q h0.out).symm), hbw4⟩
    have hzw : w.heap.size < w2.heap.size := by omega
    have hMg : M ≠ w.heap.size := by omega
    have HW4 := hide hw4
    clear ht1 ht2 ht4 hbw4 hb4 hb2 hb1 hw4
    go_wp2_with fail
    rw [HW4.out]
    go_loopw [5] (fun p5 wr => ∃ (fr : Int) (b5 : Nat), p5 = .pointer (some ⟨b5, 0, none⟩) ∧ 0 ≤ fr ∧ fr ≤ (m : Int) + 16384 ∧ wr.cell? ⟨b5, 0, none⟩ = some (.int .i64 fr) ∧ w2.heap.size ≤ b5 ∧ b5 < wr.heap.size ∧ wr.cell? ⟨w2.heap.size, 0, none⟩ = some (.map (some M)) ∧ wr.heap[M]? = w2.heap[M]? ∧ Tells wr w.heap.size w.heap.size n (mark (ev l) (upTo (ev l) nu fr)) ∧ w2.heap.size < wr.heap.size ∧ Below w.heap.size w wr) (fun p5 wr => ((m : Int) + 32768 - intAt p5 wr).toNat)
    case atStart => exact ⟨0, _, rfl, Int.le_refl _, by omega, hc5, by omega, by omega, hc4, hstart.out.1, hstart.out.2.1, by omega, hstart.out.2.2⟩
    case round =>
      clear hc4 hc5 hstart HW4 hz4
      obtain ⟨fr, b5, rfl, hf0, hf1, hc5, hb5, hl5, hc4, hMw, hT, hzr, hbel⟩ := hrel
      have hNr := HNs.out.same hMw
      have hln : Sem.run Tryz.prog (Builtin.len_ #[49] 3 #[.map (some M)]) wr = .ok (.int .i64 (m : Int)) wr := hNr.map.len Tryz.underlying49 3
      have hia := intAt_is hc5
      have HIA := hide hia
      clear hia
      by_cases hlt : fr < (m : Int)
      · have HM := hide (markRaces_any a n cap l wr w.heap.size w.heap.size w2.heap.size b5 M m f nu fr _ hn (hs.below hbel) hb hthr.out hNr hc4 hc5 hzr hl5 hf0 (by omega) hT (by omega) (by omega) hMg (fun b off e => by obtain ⟨b', off', e', hl', _⟩ := hs 0 (by omega); rw [e] at e'; cases e'; omega))
        have hnext : Hid (∀ w5, Tells w5 w.heap.size w.heap.size n (fun j => mark (ev l) (upTo (ev l) nu fr) j || mark (ev l) (cfs (ev l) nu fr) j) → wr.grownBy w5 (some w.heap.size) → w5.cell? ⟨b5, 0, none⟩ = some (.int .i64 fr) ∧ ∀ W, w5.alloc (.cells #[.int .i64 (fr + 16384)] 3) = W → W.cell? ⟨w5.heap.size, 0, none⟩ = some (.int .i64 (fr + 16384)) ∧ w2.heap.size ≤ w5.heap.size ∧ w5.heap.size < W.heap.size ∧ W.cell? ⟨w2.heap.size, 0, none⟩ = some (.map (some M)) ∧ W.heap[M]? = w2.heap[M]? ∧ Tells W w.heap.size w.heap.size n (mark (ev l) (upTo (ev l) nu (fr + 16384))) ∧ w2.heap.size < W.heap.size ∧ Below w.heap.size w W) := fun w5 hT5 hg5 => by
          have hz5 := hg5.size
          refine ⟨(World.cell?_of_block (w := wr) (a := ⟨b5, 0, none⟩) (hg5.block b5 hl5 (by simp; omega))).trans hc5, fun W hW => ?_⟩
          have hbW : Below w5.heap.size w5 W := by rw [← hW]; exact (Below.refl _ _).alloc (Nat.le_refl _) _
          have hzW : W.heap.size = w5.heap.size + 1 := by rw [← hW]; simp
          refine ⟨by rw [← hW]; simp, by omega, by omega, (World.cell?_of_block (w := wr) (a := ⟨w2.heap.size, 0, none⟩) ((hbW.block w2.heap.size (by omega)).trans (hg5.block w2.heap.size hzr (by simp; omega)))).trans hc4, (hbW.block M (by omega)).trans ((hg5.block M (by omega) (by simpa using hMg)).trans hMw), (hT5.below hbW (by omega)).congr (fun q _ => mark_step (ev l) nu fr q), by omega, ?_⟩
          exact (hbel.grown hg5 hbel.size (fun q e => by cases e; exact Nat.le_refl _)).trans (hbW.mono (by omega))
        clear hNr hT hMw
        go_wp2_with fail
        refine HM.out.mono ?_
        rintro e w5 ⟨rfl, hT5, hg5⟩
        obtain ⟨k5, hfin⟩ := hnext.out w5 hT5 hg5
        have HF := hide hfin
        clear hfin hT5 hg5 HM hnext
        go_wp2_with fail
        obtain ⟨q1, q2, q3, q4, q5, q6, q7, q8⟩ := HF.out _ rfl
        have hia2 := intAt_is q1
        go_roundw
        case rel => exact ⟨fr + 16384, w5.heap.size, rfl, by omega, by omega, q1, q2, q3, q4, q5, q6, q7, q8⟩
        case measure => rw [hia2, HIA.out]; omega
      · have hge : decide (fr < (m : Int)) = false := decide_eq_false hlt
        have hfin : Hid (Tells wr w.heap.size w.heap.size n (racy (ev l))) := hT.congr (fun q hq => mark_all (ev l) nu fr q (fun i hi ha => by have := hall.out i (by omega) ha; omega))
        clear hNr hT hMw
        go_wp2_with fail
        go_ret
        exact ⟨_, ⟨_, rfl⟩, hfin.out.boolS, fun b off e => (by cases e; exact Nat.le_refl _), hbel⟩
theorem racy_said : RacyDSaid := racy_new.racy
end Go.Proofs.YtbajfapfpcjenaaGreatDoor
