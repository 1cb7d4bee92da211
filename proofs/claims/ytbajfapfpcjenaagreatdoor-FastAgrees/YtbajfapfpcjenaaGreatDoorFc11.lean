import Derived.Test.YtbajfapfpcjenaaGreatDoorFc10
namespace Go.Proofs.YtbajfapfpcjenaaGreatDoor
open Go.RowKit Go.Proofs.Ord

/-- A variable's record, in block b. -/
structure VarC (w : World) (b : Nat) (wt wn rt rn : Int) (rv : Value) (room : Int) : Prop where
  lt : b < w.heap.size
  c0 : w.cell? ⟨b, 0, none⟩ = some (.int .i64 wt)
  c1 : w.cell? ⟨b, 1, none⟩ = some (.int .i64 wn)
  c2 : w.cell? ⟨b, 2, none⟩ = some (.int .i64 rt)
  c3 : w.cell? ⟨b, 3, none⟩ = some (.int .i64 rn)
  c4 : w.cell? ⟨b, 4, none⟩ = some rv
  c5 : w.cell? ⟨b, 5, none⟩ = some (.int .i64 room)
  fr : ∀ i, w.frozen? ⟨b, i, none⟩ = false
theorem VarC.kept {w w' : World} {b : Nat} {wt wn rt rn : Int} {rv : Value} {room : Int} (h : VarC w b wt wn rt rn rv room) (hs : w.heap.size ≤ w'.heap.size) (hb : w'.heap[b]? = w.heap[b]?) : VarC w' b wt wn rt rn rv room := by
  have e : ∀ i, w'.cell? ⟨b, i, none⟩ = w.cell? ⟨b, i, none⟩ := fun i => World.cell?_of_block (w := w) (a := ⟨b, i, none⟩) hb
  exact ⟨Nat.lt_of_lt_of_le h.lt hs, (e 0).trans h.c0, (e 1).trans h.c1, (e 2).trans h.c2, (e 3).trans h.c3, (e 4).trans h.c4, (e 5).trans h.c5, fun i => (World.frozen?_of_block (w := w) (a := ⟨b, i, none⟩) hb).trans (h.fr i)⟩

/-- One more read. -/
def putR (rs : Int → Option Int) (t n x : Int) : Option Int := if x = t then some n else rs x
theorem putR_same (rs : Int → Option Int) (t n : Int) : putR rs t n t = some n := by simp [putR]
theorem putR_other {rs : Int → Option Int} {t n x : Int} (h : x ≠ t) : putR rs t n x = rs x := by simp [putR, h]
theorem map_someR (b : Nat) (u : World) : Sem.run Tryz.prog (binOp .eql 101 (.map (some b)) (.map none)) u = .ok (.bool false) u := by kernel_rfl
theorem map_noneR (u : World) : Sem.run Tryz.prog (binOp .eql 101 (.map none) (.map none)) u = .ok (.bool true) u := by kernel_rfl

set_option maxRecDepth 100000 in
set_option maxHeartbeats 1000000 in
theorem keep_any {rs : Int → Option Int} {wt wn rt rn room : Int} {rv : Value} {b : Nat} (t n : Int) (w : World) (hv : VarC w b wt wn rt rn rv room) (hr : ReadV w rv rs) (hne : rv ≠ .map (some b)) :
    Calls Tryz.prog 73 #[.pointer (some ⟨b, 0, none⟩), .agg #[.int .i64 t, .int .i64 n]] w fun e w' => ∃ br, e = .returned (.tuple #[]) ∧ VarC w' b wt wn rt rn (.map (some br)) room ∧ ReadV w' (.map (some br)) (putR rs t n) ∧ (rv = .map (some br) ∨ (rv = .map none ∧ w.heap.size ≤ br)) ∧ Chg (fun x => x = b ∨ rv = .map (some x)) w w' := by
  obtain ⟨hlt, c0, c1, c2, c3, c4, c5, fr⟩ := hv
  have f4 := fr 4
  have hms := map_someR
  have hmn := map_noneR
  have hmm := @run_makeMap Tryz.prog
  rcases hr with ⟨rfl, h0⟩ | ⟨br, f, m, rfl, hM, hf⟩
  · obtain ⟨W, hW⟩ : ∃ W, ((w.setCell ⟨b, 4, none⟩ (.map (some (w.heap.size + 1)))).alloc (.cells #[.int .i64 t, .int .i64 n] 100)).alloc (.map #[] 0) = W := ⟨_, rfl⟩
    have hz0 : (w.setCell ⟨b, 4, none⟩ (.map (some (w.heap.size + 1)))).heap.size = w.heap.size := by simp
    have hbk : ∀ x, x < w.heap.size → W.heap[x]? = (w.setCell ⟨b, 4, none⟩ (.map (some (w.heap.size + 1)))).heap[x]? := fun x hx => by
      rw [← hW, heap_alloc_old _ _ (by simp; omega), heap_alloc_old _ _ (by simp; omega)]
    have hzW : W.heap.size = w.heap.size + 2 := by rw [← hW]; simp
    have hch : Chg (fun x => x = b) w W := ⟨by rw [← hW]; rfl, by rw [← hW]; rfl, by rw [← hW]; rfl, by omega, fun k hk hn => (hbk k hk).trans (Below.heap_setCell w ⟨b, 4, none⟩ _ k hn)⟩
    have hVW : VarC W b wt wn rt rn (.map (some (w.heap.size + 1))) room := by
      have hV : VarC (w.setCell ⟨b, 4, none⟩ (.map (some (w.heap.size + 1)))) b wt wn rt rn (.map (some (w.heap.size + 1))) room := by
        refine ⟨by omega, ?_, ?_, ?_, ?_, ?_, ?_, fun i => by rw [World.frozen?_setCell]; exact fr i⟩
        · rw [World.cell?_setCell_other _ _ _ _ (by simp)]; exact c0
        · rw [World.cell?_setCell_other _ _ _ _ (by simp)]; exact c1
        · rw [World.cell?_setCell_other _ _ _ _ (by simp)]; exact c2
        · rw [World.cell?_setCell_other _ _ _ _ (by simp)]; exact c3
        · exact World.cell?_setCell_same _ _ _ c4
        · rw [World.cell?_setCell_other _ _ _ _ (by simp)]; exact c5
      exact hV.kept (by omega) (hbk b hlt)
    have hMW : KMap ik W (w.heap.size + 1) (fun _ => none) 0 := by
      have := KMap.made (enc := ik) ((w.setCell ⟨b, 4, none⟩ (.map (some (w.heap.size + 1)))).alloc (.cells #[.int .i64 t, .int .i64 n] 100))
      rw [World.size_alloc, hz0, hW] at this
      exact this
    obtain ⟨d0, d1⟩ : W.cell? ⟨w.heap.size, 0, none⟩ = some (.int .i64 t) ∧ W.cell? ⟨w.heap.size, 1, none⟩ = some (.int .i64 n) := by
      refine cells_two (T := 100) (fr := (0, 0)) ?_
      rw [← hW, heap_alloc_old _ _ (by simp)]
      obtain ⟨V, hV⟩ : ∃ V, w.setCell ⟨b, 4, none⟩ (.map (some (w.heap.size + 1))) = V := ⟨_, rfl⟩
      rw [hV] at hz0 ⊢
      rw [← hz0]
      exact heap_alloc_new V _
    obtain ⟨W', hrun, hM', hg', hz'⟩ := (hMW.same (w' := W.drew) rfl).put stamp_key Tryz.underlying101 t (.int .i64 n)
    have hrun' : Sem.run Tryz.prog (Instr.mapUpdate 101 (.map (some (w.heap.size + 1))) (.int .i64 t) (.int .i64 n)) W.drew = .ok () W' := hrun
    have hVf : VarC W' b wt wn rt rn (.map (some (w.heap.size + 1))) room := hVW.kept hg'.size (hg'.block b hVW.lt (by simp; omega))
    have hbk2 : W'.heap[w.heap.size]? = W.heap[w.heap.size]? := hg'.block w.heap.size (show w.heap.size < W.heap.size by omega) (by simp)
    have g0 := (World.cell?_of_block (w := W) (a := ⟨w.heap.size, 0, none⟩) hbk2).trans d0
    have g1 := (World.cell?_of_block (w := W) (a := ⟨w.heap.size, 1, none⟩) hbk2).trans d1
    have HR : Hid (ReadV W' (.map (some (w.heap.size + 1))) (putR rs t n)) := .inr ⟨_, _, _, rfl, hM', fun x => by
      by_cases e : x = t
      · subst e; rw [putK_same, putR_same]; rfl
      · rw [putK_other _ e, putR_other e, h0 x]; rfl⟩
    have HC : Hid (Chg (fun x => x = b ∨ Value.map none = Value.map (some x)) w W') := by
      have h2 : Chg (fun x => x = w.heap.size + 1) W W' := ⟨hg'.os, hg'.tape, hg'.output, hg'.size, fun k hk hn => hg'.block k hk (by simpa using hn)⟩
      have h3 := hch.trans h2 (fun k hk e => by omega)
      exact ⟨h3.os, h3.tape, h3.output, h3.size, fun k hk hn => h3.block k hk (fun e => hn (.inl e))⟩
    clear hrun hM' hMW hbk2 hg' hch hbk
    have HW := hide hW
    clear hW
    go_enter Tryz.func73, Tryz.ntmps73
    go_wp2_with fail
    rw [HW.out]
    refine wp_region_held_drew (S := (fun w' => w'.cell? ⟨b, 4, none⟩ = some (.map (some (w.heap.size + 1))) ∧ w'.cell? ⟨w.heap.size, 0, none⟩ = some (.int .i64 t) ∧ w'.cell? ⟨w.heap.size, 1, none⟩ = some (.int .i64 n))) (by kernel_rfl) ⟨hVW.c4, d0, d1⟩ (fun hHeld => ?_)
    refine wpAnyH_take (i := 0) (v := ?_) rfl (by kernel_rfl) (by kernel_rfl) (by kernel_rfl) (fun _ _ _ h => h) (Or.inl ⟨by rfl, ?_⟩) hHeld ?_
    rotate_left
    · intro w9 hSw; (try dsimp only at hSw); go_simp; try with_reducible rfl
    simp only [Act.put]
    refine wpAnyH_take (i := 1) (v := ?_) rfl (by kernel_rfl) (by kernel_rfl) (by kernel_rfl) (fun _ _ _ h => h) (Or.inl ⟨by rfl, ?_⟩) hHeld ?_
    rotate_left
    · intro w9 hSw; (try dsimp only at hSw); go_simp; try with_reducible rfl
    simp only [Act.put]
    refine wpAnyH_take (i := 2) (v := ?_) rfl (by kernel_rfl) (by kernel_rfl) (by kernel_rfl) (fun _ _ _ h => h) (Or.inl ⟨by rfl, ?_⟩) hHeld ?_
    rotate_left
    · intro w9 hSw; (try dsimp only at hSw); go_simp; try with_reducible rfl
    simp only [Act.put]
    refine wpAnyH_take (i := 3) (v := ?_) rfl (by kernel_rfl) (by kernel_rfl) (by kernel_rfl) (fun _ _ _ h => h) (Or.inl ⟨by rfl, ?_⟩) hHeld ?_
    rotate_left
    · intro w9 hSw; (try dsimp only at hSw); go_simp; try with_reducible rfl
    simp only [Act.put]
    refine wpAnyH_take (i := 4) (v := ?_) rfl (by kernel_rfl) (by kernel_rfl) (by kernel_rfl) (fun _ _ _ h => h) (Or.inl ⟨by rfl, ?_⟩) hHeld ?_
    rotate_left
    · intro w9 hSw; (try dsimp only at hSw); go_simp; try with_reducible rfl
    simp only [Act.put]
    refine wpAnyH_take (i := 5) (v := ?_) rfl (by kernel_rfl) (by kernel_rfl) (by kernel_rfl) (fun _ _ _ h => h) (Or.inl ⟨by rfl, ?_⟩) hHeld ?_
    rotate_left
    · intro w9 hSw; (try dsimp only at hSw); go_simp; try with_reducible rfl
    simp only [Act.put]
    refine wpAnyH_take (i := 6) (v := ?_) rfl (by kernel_rfl) (by kernel_rfl) (by kernel_rfl) (fun _ _ _ h => h) (Or.inl ⟨by rfl, ?_⟩) hHeld ?_
    rotate_left
    · intro w9 hSw; (try dsimp only at hSw); go_simp; try with_reducible rfl
    simp only [Act.put]
    refine wpAnyH_take (i := 7) (v := ?_) rfl (by kernel_rfl) (by kernel_rfl) (by kernel_rfl) (fun _ _ _ h => h) (Or.inl ⟨by rfl, ?_⟩) hHeld ?_
    rotate_left
    · intro w9 hSw; (try dsimp only at hSw); go_simp; try with_reducible rfl
    simp only [Act.put]
    refine wpAnyH_ready (rs := [8]) (by kernel_rfl) (by simp) ?_
    refine AllReadyH.cons rfl (fun K hK => ?_) AllReadyH.nil
    go_simp
    refine hK.out _ _ ⟨hVf.c4, g0, g1⟩ (fun _ => ?_)
    clear hK K
    refine wpAnyH_done (by kernel_rfl) ?_ _
    clear hHeld
    go_wp2_with fail
    go_end0
    exact ⟨_, rfl, hVf, HR.out, .inr ⟨trivial, by omega⟩, HC.out⟩
  · have hbr : b ≠ br := fun e => hne (by rw [e])
    obtain ⟨W, hW⟩ : ∃ W, w.alloc (.cells #[.int .i64 t, .int .i64 n] 100) = W := ⟨_, rfl⟩
    have hbW : Below w.heap.size w W := by rw [← hW]; exact (Below.refl _ _).alloc (Nat.le_refl _) _
    have hzW : W.heap.size = w.heap.size + 1 := by rw [← hW]; simp
    have hVW : VarC W b wt wn rt rn (.map (some br)) room := VarC.kept ⟨hlt, c0, c1, c2, c3, c4, c5, fr⟩ hbW.size (hbW.block b hlt)
    have hMW := hM.same (hbW.block _ hM.lt)
    obtain ⟨d0, d1⟩ := cells_two (w := W) (b := w.heap.size) (by rw [← hW]; exact heap_alloc_new w _)
    obtain ⟨W', hrun, hM', hg', hz'⟩ := (hMW.same (w' := W.drew) rfl).put stamp_key Tryz.underlying101 t (.int .i64 n)
    have hrun' : Sem.run Tryz.prog (Instr.mapUpdate 101 (.map (some br)) (.int .i64 t) (.int .i64 n)) W.drew = .ok () W' := hrun
    have hVf : VarC W' b wt wn rt rn (.map (some br)) room := hVW.kept hg'.size (hg'.block b hVW.lt (by simpa using hbr))
    have hbl := hM.lt
    have hbk2 : W'.heap[w.heap.size]? = W.heap[w.heap.size]? := hg'.block w.heap.size (show w.heap.size < W.heap.size by omega) (by simp; omega)
    have g0 := (World.cell?_of_block (w := W) (a := ⟨w.heap.size, 0, none⟩) hbk2).trans d0
    have g1 := (World.cell?_of_block (w := W) (a := ⟨w.heap.size, 1, none⟩) hbk2).trans d1
    have HR : Hid (ReadV W' (.map (some br)) (putR rs t n)) := .inr ⟨_, _, _, rfl, hM', fun x => by
      by_cases e : x = t
      · subst e; rw [putK_same, putR_same]; rfl
      · rw [putK_other _ e, putR_other e, hf x]⟩
    have HC : Hid (Chg (fun x => x = b ∨ Value.map (some br) = Value.map (some x)) w W') := by
      have h2 : Chg (fun x => x = br) W W' := ⟨hg'.os, hg'.tape, hg'.output, hg'.size, fun k hk hn => hg'.block k hk (by simpa using hn)⟩
      have h3 := (chg_below (Q := fun x => x = br) hbW).trans h2 (fun k _ e => e)
      exact ⟨h3.os, h3.tape, h3.output, h3.size, fun k hk hn => h3.block k hk (fun e => hn (.inr (by rw [e])))⟩
    clear hrun hM' hMW hbk2 hg' hM
    have HW := hide hW
    clear hW
    go_enter Tryz.func73, Tryz.ntmps73
    go_wp2_with fail
    rw [HW.out]
    refine wp_region_held_drew (S := (fun w' => w'.cell? ⟨b, 4, none⟩ = some (.map (some br)) ∧ w'.cell? ⟨w.heap.size, 0, none⟩ = some (.int .i64 t) ∧ w'.cell? ⟨w.heap.size, 1, none⟩ = some (.int .i64 n))) (by kernel_rfl) ⟨hVW.c4, d0, d1⟩ (fun hHeld => ?_)
    refine wpAnyH_take (i := 0) (v := ?_) rfl (by kernel_rfl) (by kernel_rfl) (by kernel_rfl) (fun _ _ _ h => h) (Or.inl ⟨by rfl, ?_⟩) hHeld ?_
    rotate_left
    · intro w9 hSw; (try dsimp only at hSw); go_simp; try with_reducible rfl
    simp only [Act.put]
    refine wpAnyH_take (i := 1) (v := ?_) rfl (by kernel_rfl) (by kernel_rfl) (by kernel_rfl) (fun _ _ _ h => h) (Or.inl ⟨by rfl, ?_⟩) hHeld ?_
    rotate_left
    · intro w9 hSw; (try dsimp only at hSw); go_simp; try with_reducible rfl
    simp only [Act.put]
    refine wpAnyH_take (i := 2) (v := ?_) rfl (by kernel_rfl) (by kernel_rfl) (by kernel_rfl) (fun _ _ _ h => h) (Or.inl ⟨by rfl, ?_⟩) hHeld ?_
    rotate_left
    · intro w9 hSw; (try dsimp only at hSw); go_simp; try with_reducible rfl
    simp only [Act.put]
    refine wpAnyH_take (i := 3) (v := ?_) rfl (by kernel_rfl) (by kernel_rfl) (by kernel_rfl) (fun _ _ _ h => h) (Or.inl ⟨by rfl, ?_⟩) hHeld ?_
    rotate_left
    · intro w9 hSw; (try dsimp only at hSw); go_simp; try with_reducible rfl
    simp only [Act.put]
    refine wpAnyH_take (i := 4) (v := ?_) rfl (by kernel_rfl) (by kernel_rfl) (by kernel_rfl) (fun _ _ _ h => h) (Or.inl ⟨by rfl, ?_⟩) hHeld ?_
    rotate_left
    · intro w9 hSw; (try dsimp only at hSw); go_simp; try with_reducible rfl
    simp only [Act.put]
    refine wpAnyH_take (i := 5) (v := ?_) rfl (by kernel_rfl) (by kernel_rfl) (by kernel_rfl) (fun _ _ _ h => h) (Or.inl ⟨by rfl, ?_⟩) hHeld ?_
    rotate_left
    · intro w9 hSw; (try dsimp only at hSw); go_simp; try with_reducible rfl
    simp only [Act.put]
    refine wpAnyH_take (i := 6) (v := ?_) rfl (by kernel_rfl) (by kernel_rfl) (by kernel_rfl) (fun _ _ _ h => h) (Or.inl ⟨by rfl, ?_⟩) hHeld ?_
    rotate_left
    · intro w9 hSw; (try dsimp only at hSw); go_simp; try with_reducible rfl
    simp only [Act.put]
    refine wpAnyH_take (i := 7) (v := ?_) rfl (by kernel_rfl) (by kernel_rfl) (by kernel_rfl) (fun _ _ _ h => h) (Or.inl ⟨by rfl, ?_⟩) hHeld ?_
    rotate_left
    · intro w9 hSw; (try dsimp only at hSw); go_simp; try with_reducible rfl
    simp only [Act.put]
    refine wpAnyH_ready (rs := [8]) (by kernel_rfl) (by simp) ?_
    refine AllReadyH.cons rfl (fun K hK => ?_) AllReadyH.nil
    go_simp
    refine hK.out _ _ ⟨hVf.c4, g0, g1⟩ (fun _ => ?_)
    clear hK K
    refine wpAnyH_done (by kernel_rfl) ?_ _
    clear hHeld
    go_wp2_with fail
    go_end0
    exact ⟨br, rfl, hVf, HR.out, .inl rfl, HC.out⟩
end Go.Proofs.YtbajfapfpcjenaaGreatDoor
namespace Go.Proofs.YtbajfapfpcjenaaGreatDoor
open Go.RowKit Go.Proofs.Ord

theorem len_nilR (w : World) : Sem.run Tryz.prog (Builtin.len_ #[101] 3 #[.map none]) w = .ok (.int .i64 0) w := by kernel_rfl
theorem ReadV.len {w : World} {v : Value} {rs : Int → Option Int} (h : ReadV w v rs) : ∃ m : Nat, Sem.run Tryz.prog (Builtin.len_ #[101] 3 #[v]) w = .ok (.int .i64 (m : Int)) w := by
  rcases h with ⟨rfl, _⟩ | ⟨b, f, n, rfl, hM, _⟩
  · exact ⟨0, len_nilR w⟩
  · exact ⟨n, hM.len Tryz.underlying101 3⟩
theorem ReadV.kept {w w' : World} {v : Value} {rs : Int → Option Int} (h : ReadV w v rs) (hb : ∀ b, v = .map (some b) → w'.heap[b]? = w.heap[b]?) : ReadV w' v rs := by
  rcases h with h | ⟨b, f, n, rfl, hM, hf⟩
  · exact .inl h
  · exact .inr ⟨b, f, n, rfl, hM.same (hb b rfl), hf⟩
theorem VarC.setRead {w : World} {b : Nat} {wt wn rt rn : Int} {rv : Value} {room : Int} (h : VarC w b wt wn rt rn rv room) (t n : Int) : VarC ((w.setCell ⟨b, 2, none⟩ (.int .i64 t)).setCell ⟨b, 3, none⟩ (.int .i64 n)) b wt wn t n rv room := by
  have e2 : (w.setCell ⟨b, 2, none⟩ (.int .i64 t)).cell? ⟨b, 2, none⟩ = some (.int .i64 t) := World.cell?_setCell_same _ _ _ h.c2
  have e3 : (w.setCell ⟨b, 2, none⟩ (.int .i64 t)).cell? ⟨b, 3, none⟩ = some (.int .i64 rn) := by rw [World.cell?_setCell_other _ _ _ _ (by simp)]; exact h.c3
  refine ⟨by simpa using h.lt, ?_, ?_, ?_, World.cell?_setCell_same _ _ _ e3, ?_, ?_, fun i => by rw [World.frozen?_setCell, World.frozen?_setCell]; exact h.fr i⟩
  · rw [World.cell?_setCell_other _ _ _ _ (by simp), World.cell?_setCell_other _ _ _ _ (by simp)]; exact h.c0
  · rw [World.cell?_setCell_other _ _ _ _ (by simp), World.cell?_setCell_other _ _ _ _ (by simp)]; exact h.c1
  · rw [World.cell?_setCell_other _ _ _ _ (by simp)]; exact e2
  · rw [World.cell?_setCell_other _ _ _ _ (by simp), World.cell?_setCell_other _ _ _ _ (by simp)]; exact h.c4
  · rw [World.cell?_setCell_other _ _ _ _ (by simp), World.cell?_setCell_other _ _ _ _ (by simp)]; exact h.c5
theorem VarC.setRoom {w : World} {b : Nat} {wt wn rt rn : Int} {rv : Value} {room : Int} (h : VarC w b wt wn rt rn rv room) (x : Int) : VarC (w.setCell ⟨b, 5, none⟩ (.int .i64 x)) b wt wn rt rn rv x := by
  refine ⟨by simpa using h.lt, ?_, ?_, ?_, ?_, ?_, World.cell?_setCell_same _ _ _ h.c5, fun i => by rw [World.frozen?_setCell]; exact h.fr i⟩
  · rw [World.cell?_setCell_other _ _ _ _ (by simp)]; exact h.c0
  · rw [World.cell?_setCell_other _ _ _ _ (by simp)]; exact h.c1
  · rw [World.cell?_setCell_other _ _ _ _ (by simp)]; exact h.c2
  · rw [World.cell?_setCell_other _ _ _ _ (by simp)]; exact h.c3
  · rw [World.cell?_setCell_other _ _ _ _ (by simp)]; exact h.c4
theorem chg_set {Q : Nat → Prop} {w0 w : World} (h : Chg Q w0 w) (b i : Nat) (u : Value) (hb : Q b) : Chg Q w0 (w.setCell ⟨b, i, none⟩ u) :=
  ⟨h.os, h.tape, h.output, by simpa using h.size, fun k hk hn => (Below.heap_setCell w ⟨b, i, none⟩ u k (fun e => hn (by rw [e]; exact hb))).trans (h.block k hk hn)⟩

/-- What is kept of reads behind the next one. -/
structure NextR (rs rs' : Int → Option Int) (g : Int → Int) (rt rn : Int) : Prop where
  old : ∀ t n, rs' t = some n → rs t = some n ∨ (t = rt ∧ n = rn ∧ ¬ rn ≤ g rt)
  last : rn ≤ g rt ∨ rs' rt = some rn
  all : ∀ t n, rs t = some n → rs' t = some n ∨ n ≤ g t ∨ (t = rt ∧ ¬ rn ≤ g rt ∧ rs' rt = some rn)
theorem nextR_same {rs : Int → Option Int} {g : Int → Int} {rt rn : Int} (h : rn ≤ g rt) : NextR rs rs g rt rn := ⟨fun _ _ hn => .inl hn, .inl h, fun _ _ hn => .inl hn⟩
theorem nextR_put {rs : Int → Option Int} {g : Int → Int} {rt rn : Int} (h : ¬ rn ≤ g rt) : NextR rs (putR rs rt rn) g rt rn := by
  refine ⟨fun t n hn => ?_, .inr (putR_same _ _ _), fun t n hn => ?_⟩
  · by_cases e : t = rt
    · subst e; rw [putR_same] at hn; cases hn; exact .inr ⟨rfl, rfl, h⟩
    · rw [putR_other e] at hn; exact .inl hn
  · by_cases e : t = rt
    · subst e; exact .inr (.inr ⟨rfl, h, putR_same _ _ _⟩)
    · exact .inl (by rw [putR_other e]; exact hn)
theorem NextR.less {rs rs' : Int → Option Int} {g : Int → Int} {rt rn : Int} (h : NextR rs rs' g rt rn) : NextR rs (lessR rs' g) g rt rn := by
  have hl : ∀ t n, lessR rs' g t = some n ↔ rs' t = some n ∧ ¬ n ≤ g t := fun t n => by
    unfold lessR
    cases rs' t with
    | none => simp
    | some m =>
      simp only
      by_cases e : m ≤ g t
      · rw [if_pos e]; simp; rintro rfl; exact e
      · rw [if_neg e]; simp; rintro rfl; omega
  have hkeep : ¬ rn ≤ g rt → rs' rt = some rn → lessR rs' g rt = some rn := fun h1 h2 => (hl rt rn).2 ⟨h2, h1⟩
  refine ⟨fun t n hn => h.old t n ((hl t n).1 hn).1, ?_, fun t n hn => ?_⟩
  · by_cases e : rn ≤ g rt
    · exact .inl e
    · exact .inr (hkeep e (h.last.resolve_left e))
  · rcases h.all t n hn with h1 | h1 | ⟨rfl, e, h2⟩
    · by_cases e : n ≤ g t
      · exact .inr (.inl e)
      · exact .inl ((hl t n).2 ⟨h1, e⟩)
    · exact .inr (.inl h1)
    · exact .inr (.inr ⟨rfl, e, hkeep e h2⟩)

set_option maxRecDepth 100000 in
set_option maxHeartbeats 400000 in
theorem forget_nil (v : Value) (w : World) : Calls Tryz.prog 74 #[.map none, v] w fun e w' => e = .returned (.tuple #[]) ∧ Below w.heap.size w w' := by
  have hr := run_range_nilMap (P := Tryz.prog) w 101 _ _ Tryz.underlying101
  go_enter Tryz.func74, Tryz.ntmps74
  go_wp2_with fail
  have hx := run_next_nilMap (P := Tryz.prog) w 0 0 0 #[]
  refine wp_loop_rounds 1 ?_
  rw [rounds_succ]
  go_wp2
  go_end0
  exact ⟨rfl, (Below.refl _ _).alloc (Nat.le_refl _) _⟩

theorem ReadV.lenAt {w : World} {v : Value} {rs : Int → Option Int} (h : ReadV w v rs) : ∃ m : Nat, ∀ w', (∀ b, v = .map (some b) → w'.heap[b]? = w.heap[b]?) → Sem.run Tryz.prog (Builtin.len_ #[101] 3 #[v]) w' = .ok (.int .i64 (m : Int)) w' := by
  rcases h with ⟨rfl, _⟩ | ⟨b, f, n, rfl, hM, _⟩
  · exact ⟨0, fun w' _ => len_nilR w'⟩
  · exact ⟨n, fun w' h => (hM.same (h b rfl)).len Tryz.underlying101 3⟩
theorem forget_rv {S : Nat → Prop} {v : Value} {g : Int → Int} {rs : Int → Option Int} {rv : Value} (w : World) (hr : ReadV w rv rs) (hin : RsIn rs) (h : StampV S w v g) (hb : ∀ x, rv = .map (some x) → ¬ S x) :
    Calls Tryz.prog 74 #[rv, v] w fun e w' => e = .returned (.tuple #[]) ∧ ReadV w' rv (lessR rs g) ∧ Chg (fun x => rv = .map (some x)) w w' := by
  rcases hr with ⟨rfl, hn⟩ | ⟨b, f, n, rfl, hM, hf⟩
  · refine (forget_nil v w).mono ?_
    rintro e w' ⟨rfl, hb'⟩
    exact ⟨rfl, .inl ⟨rfl, fun t => by unfold lessR; rw [hn t]⟩, chg_below hb'⟩
  · refine (forget_any w hM hf hin h (hb b rfl)).mono ?_
    rintro e w' ⟨rfl, ⟨f', n', hM', hf'⟩, hg⟩
    have hc := chg_grown hg
    exact ⟨rfl, .inr ⟨b, f', n', rfl, hM', hf'⟩, hc.os, hc.tape, hc.output, hc.size, fun k hk hn => hc.block k hk (fun e => hn (by cases e; rfl))⟩

set_option maxRecDepth 100000 in
set_option maxHeartbeats 500000 in
/-- addRead: the next read is the last one; the one ahead of it is kept on, unless it is before it. -/
theorem addRead_any {S : Nat → Prop} {v : Value} {g : Int → Int} {rs : Int → Option Int} {wt wn rt rn room : Int} {rv : Value} {b : Nat} (t n : Int) (w : World) (hv : VarC w b wt wn rt rn rv room) (hr : ReadV w rv rs) (hin : RsIn rs) (hrt : In64 rt) (hne : rv ≠ .map (some b)) (h : StampV S w v g) (hS : ∀ x, S x → x < w.heap.size ∧ x ≠ b ∧ rv ≠ .map (some x)) :
    Calls Tryz.prog 44 #[.pointer (some ⟨b, 0, none⟩), .agg #[.int .i64 t, .int .i64 n], v] w fun e w' => e = .returned (.tuple #[]) ∧ (∃ rv' rs' room', VarC w' b wt wn t n rv' room' ∧ ReadV w' rv' rs' ∧ NextR rs rs' g rt rn ∧ (rv' = rv ∨ (rv = .map none ∧ ∃ br, rv' = .map (some br) ∧ w.heap.size ≤ br ∧ br < w'.heap.size))) ∧ Chg (fun x => x = b ∨ rv = .map (some x)) w w' := by
  obtain ⟨W, hW⟩ : ∃ W, w.alloc (.cells #[.int .i64 t, .int .i64 n] 100) = W := ⟨_, rfl⟩
  have hbW : Below w.heap.size w W := by rw [← hW]; exact (Below.refl _ _).alloc (Nat.le_refl _) _
  have hzW : W.heap.size = w.heap.size + 1 := by rw [← hW]; simp
  obtain ⟨d0, d1⟩ := cells_two (w := W) (b := w.heap.size) (by rw [← hW]; exact heap_alloc_new w _)
  have hrl : ∀ x, rv = .map (some x) → x < w.heap.size := fun x e => by
    rcases hr with ⟨e', _⟩ | ⟨b', f, m, e', hM, _⟩
    · rw [e'] at e; cases e
    · rw [e'] at e; cases e; exact hM.lt
  have hvW := hv.kept hbW.size (hbW.block b hv.lt)
  have hrW := hr.kept (w' := W) fun x e => hbW.block x (hrl x e)
  have hstW := h.any hbW
  have HB := hide (epB_any rt rn W hrt hstW)
  have hbl := hv.lt
  have HRL := hide hrl
  have HV := hide hvW
  have HRW := hide hrW
  have HST := hide hstW
  have HS := hide hS
  obtain ⟨_, k0, k1, k2, k3, k4, k5, kf⟩ := hvW
  clear hv hr hrl hrW hstW h hS
  go_enter Tryz.func44, Tryz.ntmps44
  go_wp2_with fail
  refine HB.out.mono ?_
  rintro e w1 ⟨rfl, hb1⟩
  have hv1 := HV.out.kept hb1.size (hb1.block b (by omega))
  have hr1 := HRW.out.kept (w' := w1) fun x e => hb1.block x (by have := HRL.out x e; omega)
  have hz1 := hb1.size
  have hst1 := HST.out.any hb1
  have e0 := (hb1.cell (p := ⟨w.heap.size, 0, none⟩) (show w.heap.size < W.heap.size by omega)).trans d0
  have e1 := (hb1.cell (p := ⟨w.heap.size, 1, none⟩) (show w.heap.size < W.heap.size by omega)).trans d1
  have hch1 : Chg (fun x => x = b ∨ rv = .map (some x)) w w1 := chg_below (hbW.trans (hb1.mono hbW.size))
  have HV1 := hide hv1
  have HR1 := hide hr1
  have HC1 := hide hch1
  have HST1 := hide hst1
  obtain ⟨_, j0, j1, j2, j3, j4, j5, jf⟩ := hv1
  clear HB HV HRW HST k0 k1 k2 k3 k4 k5 kf d0 d1 hW hr1 hch1 hst1 hb1 hbW
  obtain ⟨le, hle⟩ : ∃ le, Hid (decide (rn ≤ g rt) = le) := ⟨_, rfl⟩
  rw [hle.out]
  go_upto_if 12 with fail
  go_cut [18] (fun _ wx => ∃ rv1 rs1, VarC wx b wt wn rt rn rv1 room ∧ ReadV wx rv1 rs1 ∧ NextR rs rs1 g rt rn ∧ RsIn rs1 ∧ (rv1 = rv ∨ (rv = .map none ∧ ∃ br, rv1 = .map (some br) ∧ w1.heap.size ≤ br ∧ br < wx.heap.size)) ∧ Chg (fun x => x = b ∨ rv = .map (some x)) w wx ∧ wx.cell? ⟨w.heap.size, 0, none⟩ = some (.int .i64 t) ∧ wx.cell? ⟨w.heap.size, 1, none⟩ = some (.int .i64 n) ∧ w1.heap.size ≤ wx.heap.size ∧ StampV S wx v g)
  case first =>
    cases le with
    | true =>
      have hN : Hid (NextR rs rs g rt rn) := nextR_same (of_decide_eq_true hle.out)
      go_wp2_with fail
      go_meet
      exact ⟨rv, rs, HV1.out, HR1.out, hN.out, hin, .inl rfl, HC1.out, e0, e1, Nat.le_refl _, HST1.out⟩
    | false =>
      have hnle : ¬ rn ≤ g rt := of_decide_eq_false hle.out
      have hN : Hid (NextR rs (putR rs rt rn) g rt rn) := nextR_put hnle
      have hin2 : Hid (RsIn (putR rs rt rn)) := fun x m hm => by
        by_cases e : x = rt
        · subst e; exact hrt
        · rw [putR_other e] at hm; exact hin x m hm
      have HK := hide (keep_any rt rn w1 HV1.out HR1.out hne)
      clear hnle
      go_wp2_with (go_at_call 73; refine HK.out.mono ?_; rintro e w2 ⟨br, rfl, hv2, hr2, hbr, hch2⟩; have HX := hide (⟨hv2, hr2, hbr, hch2⟩ : _ ∧ _ ∧ _ ∧ _); clear hv2 hr2 hbr hch2)
      go_meet
      obtain ⟨hv2, hr2, hbr, hch2⟩ := HX.out
      have hkk : ∀ x, x < w1.heap.size → x ≠ b → rv ≠ .map (some x) → w2.heap[x]? = w1.heap[x]? := fun x h1 h2 h3 => hch2.block x h1 (fun e => e.elim h2 h3)
      have hek := hkk w.heap.size (by omega) (by omega) (fun e => by have := HRL.out _ e; omega)
      refine ⟨_, _, hv2, hr2, hN.out, hin2.out, ?_, HC1.out.trans hch2 (fun k _ e => e), (World.cell?_of_block (w := w1) (a := ⟨w.heap.size, 0, none⟩) hek).trans e0, (World.cell?_of_block (w := w1) (a := ⟨w.heap.size, 1, none⟩) hek).trans e1, hch2.size, ?_⟩
      · rcases hbr with h | ⟨h1, h2⟩
        · exact .inl h.symm
        · refine .inr ⟨h1, br, rfl, h2, ?_⟩
          rcases hr2 with ⟨e, _⟩ | ⟨b', f, m, e, hM, _⟩
          · cases e
          · cases e; exact hM.lt
      · have h1 : StampV (fun x => S x ∧ x < w1.heap.size) w1 v g := HST1.out.mono fun x hx hS => ⟨hS, hx⟩
        exact (h1.kept hch2.size fun x hx => hkk x hx.2 (HS.out x hx.1).2.1 (HS.out x hx.1).2.2).mono fun x _ hx => hx.1
  case rest =>
    clear HV1 HR1 HC1 HST1 j0 j1 j2 j3 j4 j5 jf e0 e1
    obtain ⟨rv1, rs1, hv2, hr2, hN2, hin2, hrv2, hch2, e0, e1, hz2, hst2⟩ := hcut
    obtain ⟨W3, hW3⟩ : ∃ W3, (wc.setCell ⟨b, 2, none⟩ (.int .i64 t)).setCell ⟨b, 3, none⟩ (.int .i64 n) = W3 := ⟨_, rfl⟩
    have hk3 : ∀ x, x ≠ b → W3.heap[x]? = wc.heap[x]? := fun x hx => by
      rw [← hW3]
      exact (Below.heap_setCell _ ⟨b, 3, none⟩ _ x hx).trans (Below.heap_setCell _ ⟨b, 2, none⟩ _ x hx)
    have hz3 : W3.heap.size = wc.heap.size := by rw [← hW3]; simp
    have hv3 : VarC W3 b wt wn t n rv1 room := by rw [← hW3]; exact hv2.setRead t n
    have hrvb : ∀ x, rv1 = .map (some x) → x ≠ b ∧ ¬ S x ∧ (rv = .map (some x) ∨ w.heap.size ≤ x) := fun x hx => by
      rcases hrv2 with e | ⟨_, br, e, h1, _⟩
      · rw [e] at hx; exact ⟨fun e' => hne (by rw [hx, e']), fun hSx => (HS.out x hSx).2.2 hx, .inl hx⟩
      · rw [e] at hx; cases hx; exact ⟨by omega, fun hSx => by have := (HS.out _ hSx).1; omega, .inr (by omega)⟩
    have hr3 : ReadV W3 rv1 rs1 := hr2.kept fun x hx => hk3 x (hrvb x hx).1
    have hch3 : Chg (fun x => x = b ∨ rv = .map (some x)) w W3 := by rw [← hW3]; exact chg_set (chg_set hch2 b 2 _ (.inl rfl)) b 3 _ (.inl rfl)
    have hst3 : StampV S W3 v g := hst2.kept (by omega) fun x hx => hk3 x (HS.out x hx).2.1
    obtain ⟨m, hlen⟩ := hr3.len
    have hlend : Sem.run Tryz.prog (Builtin.len_ #[101] 3 #[rv1]) W3.drew = .ok (.int .i64 (m : Int)) W3.drew := by
      obtain ⟨m', h'⟩ := (hr3.kept (w' := W3.drew) fun _ _ => rfl).len
      rw [h']
      rcases hr3 with ⟨e, _⟩ | ⟨b', f, n', e, hM, _⟩
      · rw [e] at hlen h'; rw [len_nilR] at hlen h'; simp at hlen h'; rw [← hlen, ← h']
      · rw [e] at hlen h'
        have q1 := hM.len Tryz.underlying101 3
        have q2 := (hM.same (w' := W3.drew) rfl).len Tryz.underlying101 3
        rw [hlen] at q1
        rw [h'] at q2
        have e1 : Value.int .i64 (m : Int) = goInt n' := by simpa using q1
        have e2 : Value.int .i64 (m' : Int) = goInt n' := by simpa using q2
        rw [e1, e2]
    have HX := hide (⟨hr3, hch3, hst3, hN2, hrvb, hin2⟩ : ReadV W3 rv1 rs1 ∧ Chg (fun x => x = b ∨ rv = .map (some x)) w W3 ∧ StampV S W3 v g ∧ NextR rs rs1 g rt rn ∧ (∀ x, rv1 = .map (some x) → x ≠ b ∧ ¬ S x ∧ (rv = .map (some x) ∨ w.heap.size ≤ x)) ∧ RsIn rs1)
    have HV3 := hide hv3
    have HRV := hide hrv2
    have HW3 := hide hW3
    have v4 := hv3.c4
    have v5 := hv3.c5
    obtain ⟨_, i0, i1, i2, i3, i4, i5, if_⟩ := hv2
    have f2 := if_ 2
    have f3 := if_ 3
    clear hk3 hr2 hr3 hch2 hch3 hst2 hst3 hN2 hin2 hrvb hW3 hv3 hrv2 hlen
    go_upto_region 4 with fail
    rw [HW3.out]
    have d4 : W3.drew.cell? ⟨b, 4, none⟩ = some rv1 := v4
    have d5 : W3.drew.cell? ⟨b, 5, none⟩ = some (.int .i64 room) := v5
    refine wp_region_held_drew (S := (fun w' => w'.cell? ⟨b, 4, none⟩ = some rv1 ∧ w'.cell? ⟨b, 5, none⟩ = some (.int .i64 room) ∧ Sem.run Tryz.prog (Builtin.len_ #[101] 3 #[rv1]) w' = .ok (.int .i64 (m : Int)) w')) (by kernel_rfl) ⟨d4, d5, hlend⟩ (fun hHeld => ?_)
    refine wpAnyH_take (i := 0) (v := ?_) rfl (by kernel_rfl) (by kernel_rfl) (by kernel_rfl) (fun _ _ _ h => h) (Or.inl ⟨by rfl, ?_⟩) hHeld ?_
    rotate_left
    · intro w9 hSw; (try dsimp only at hSw); go_simp; try with_reducible rfl
    simp only [Act.put, List.getElem_toArray, List.getElem_cons_zero, List.setIfInBounds_toArray, List.set_cons_succ, List.set_cons_zero]
    refine wpAnyH_take (i := 1) (v := ?_) rfl (by kernel_rfl) (by kernel_rfl) (by kernel_rfl) (fun _ _ _ h => h) (Or.inl ⟨by rfl, ?_⟩) hHeld ?_
    rotate_left
    · intro w9 hSw; (try dsimp only at hSw); go_simp; try with_reducible rfl
    simp only [Act.put, List.getElem_toArray, List.getElem_cons_zero, List.getElem_cons_succ, List.setIfInBounds_toArray, List.set_cons_succ, List.set_cons_zero]
    refine wpAnyH_take (i := 2) (v := ?_) rfl (by kernel_rfl) (by kernel_rfl) (by kernel_rfl) (fun _ _ _ h => h) (Or.inl ⟨by rfl, ?_⟩) hHeld ?_
    rotate_left
    · intro w9 hSw; (try dsimp only at hSw); go_simp; try with_reducible rfl
    simp only [Act.put, List.getElem_toArray, List.getElem_cons_zero, List.getElem_cons_succ, List.setIfInBounds_toArray, List.set_cons_succ, List.set_cons_zero]
    refine wpAnyH_take (i := 3) (v := ?_) rfl (by kernel_rfl) (by kernel_rfl) (by kernel_rfl) (fun _ _ _ h => h) (Or.inl ⟨by rfl, ?_⟩) hHeld ?_
    rotate_left
    · intro w9 hSw; (try dsimp only at hSw); go_simp; try with_reducible rfl
    simp only [Act.put, List.getElem_toArray, List.getElem_cons_zero, List.getElem_cons_succ, List.setIfInBounds_toArray, List.set_cons_succ, List.set_cons_zero]
    refine wpAnyH_take (i := 4) (v := ?_) rfl (by kernel_rfl) (by kernel_rfl) (by kernel_rfl) (fun _ _ _ h => h) (Or.inl ⟨by rfl, ?_⟩) hHeld ?_
    rotate_left
    · intro w9 hSw; (try dsimp only at hSw); go_simp; try with_reducible rfl
    simp only [Act.put, List.getElem_toArray, List.getElem_cons_zero, List.getElem_cons_succ, List.setIfInBounds_toArray, List.set_cons_succ, List.set_cons_zero]
    refine wpAnyH_take (i := 5) (v := ?_) rfl (by kernel_rfl) (by kernel_rfl) (by kernel_rfl) (fun _ _ _ h => h) (Or.inl ⟨by rfl, ?_⟩) hHeld ?_
    rotate_left
    · intro w9 hSw; (try dsimp only at hSw); go_simp; try with_reducible rfl
    simp only [Act.put, List.getElem_toArray, List.getElem_cons_zero, List.getElem_cons_succ, List.setIfInBounds_toArray, List.set_cons_succ, List.set_cons_zero]
    refine wpAnyH_take (i := 6) (v := ?_) rfl (by kernel_rfl) (by kernel_rfl) (by kernel_rfl) (fun _ _ _ h => h) (Or.inl ⟨by rfl, ?_⟩) hHeld ?_
    rotate_left
    · intro w9 hSw; (try dsimp only at hSw); go_simp; try with_reducible rfl
    simp only [Act.put, List.getElem_toArray, List.getElem_cons_zero, List.getElem_cons_succ, List.setIfInBounds_toArray, List.set_cons_succ, List.set_cons_zero]
    refine wpAnyH_take (i := 7) (v := ?_) rfl (by kernel_rfl) (by kernel_rfl) (by kernel_rfl) (fun _ _ _ h => h) (Or.inl ⟨by rfl, ?_⟩) hHeld ?_
    rotate_left
    · intro w9 hSw; (try dsimp only at hSw); go_simp; try with_reducible rfl
    simp only [Act.put, List.getElem_toArray, List.getElem_cons_zero, List.getElem_cons_succ, List.setIfInBounds_toArray, List.set_cons_succ, List.set_cons_zero]
    refine wpAnyH_take (i := 8) (v := ?_) rfl (by kernel_rfl) (by kernel_rfl) (by kernel_rfl) (fun _ _ _ h => h) (Or.inl ⟨by rfl, ?_⟩) hHeld ?_
    rotate_left
    · intro w9 hSw; (try dsimp only at hSw); go_simp; try with_reducible rfl
    simp only [Act.put, List.getElem_toArray, List.getElem_cons_zero, List.getElem_cons_succ, List.setIfInBounds_toArray, List.set_cons_succ, List.set_cons_zero]
    refine wpAnyH_take (i := 9) (v := .bool (decide (room < (m : Int)))) rfl (by kernel_rfl) (by kernel_rfl) (by kernel_rfl) (fun _ _ _ h => h) (Or.inl ⟨by rfl, ?_⟩) hHeld ?_
    · intro w9 hSw; (try dsimp only at hSw); go_simp; try with_reducible rfl
    simp only [Act.put, List.getElem_toArray, List.getElem_cons_zero, List.getElem_cons_succ, List.setIfInBounds_toArray, List.set_cons_succ, List.set_cons_zero]
    refine wpAnyH_done (by kernel_rfl) ?_ _
    clear hHeld hlend
    have HZ : Hid (w.heap.size ≤ w1.heap.size ∧ w1.heap.size ≤ wc.heap.size ∧ W3.heap.size = wc.heap.size) := ⟨by omega, hz2, hz3⟩
    clear i0 i1 i2 i3 i4 i5 if_ f2 f3 e0 e1 v4 v5 hz1 hz2 hz3 hzW hin hne hrt hbl
    generalize decide (room < (m : Int)) = gt
    cases gt with
    | false =>
      go_wp2_with fail
      go_end0
      obtain ⟨hr3, hch3, hst3, hN2, hrvb, hin2⟩ := HX.out
      refine ⟨rfl, ⟨rv1, rs1, room, HV3.out.kept (Nat.le_refl _) rfl, hr3.kept (fun _ _ => rfl), hN2, ?_⟩, hch3.trans (chg_below (Below.refl _ _).drew) (fun _ _ e => e)⟩
      rcases HRV.out with e | ⟨e1, br, e2, h1, h2⟩
      · exact .inl e
      · exact .inr ⟨e1, br, e2, by have := HZ.out; omega, by have := HZ.out; simpa using (show br < W3.heap.size by omega)⟩
    | true =>
      have HF := hide (forget_rv W3.drew (HX.out.1.kept (w' := W3.drew) fun _ _ => rfl) HX.out.2.2.2.2.2 (HX.out.2.2.1.any (Below.refl _ _).drew) (fun x e => (HX.out.2.2.2.2.1 x e).2.1))
      go_upto_region 6 with (go_at_call 74; refine HF.out.mono ?_; rintro e w4 ⟨rfl, hr4, hch4⟩; have HX4 := hide (⟨hr4, hch4⟩ : _ ∧ _); clear hr4 hch4)
      obtain ⟨hr4, hch4⟩ := HX4.out
      have hv4 : VarC w4 b wt wn t n rv1 room := (HV3.out.kept (w' := W3.drew) (Nat.le_refl _) rfl).kept hch4.size (hch4.block b HV3.out.lt (fun e => (HX.out.2.2.2.2.1 b e).1 rfl))
      obtain ⟨m4, hl4⟩ := hr4.lenAt
      have hld := hl4 w4 fun _ _ => rfl
      have c4 : w4.cell? ⟨b, 4, none⟩ = some rv1 := hv4.c4
      have c5 : w4.cell? ⟨b, 5, none⟩ = some (.int .i64 room) := hv4.c5
      have cf : w4.frozen? ⟨b, 5, none⟩ = false := hv4.fr 5
      have hkf : ∀ x k, k ≠ b → (w4.setCell ⟨b, 5, none⟩ (.int .i64 x)).heap[k]? = w4.heap[k]? := fun x k hk => Below.heap_setCell w4 ⟨b, 5, none⟩ _ k hk
      have HVF : Hid (∀ x, VarC (w4.setCell ⟨b, 5, none⟩ (.int .i64 x)) b wt wn t n rv1 x) := fun x => hv4.setRoom x
      have HLF : Hid (∀ x, Sem.run Tryz.prog (Builtin.len_ #[101] 3 #[rv1]) (w4.setCell ⟨b, 5, none⟩ (.int .i64 x)) = .ok (.int .i64 (m4 : Int)) (w4.setCell ⟨b, 5, none⟩ (.int .i64 x))) := fun x => hl4 _ fun k hk => hkf x k (HX.out.2.2.2.2.1 k hk).1
      have HRF : Hid (∀ x, ReadV (w4.setCell ⟨b, 5, none⟩ (.int .i64 x)) rv1 (lessR rs1 g)) := fun x => hr4.kept fun k hk => hkf x k (HX.out.2.2.2.2.1 k hk).1
      have HCF : Hid (∀ x, Chg (fun x => x = b ∨ rv = .map (some x)) w (w4.setCell ⟨b, 5, none⟩ (.int .i64 x))) := fun x => by
        obtain ⟨hr3, hch3, hst3, hN2, hrvb, hin2⟩ := HX.out
        refine chg_set ?_ b 5 _ (.inl rfl)
        have h1 := hch3.trans (Q' := fun x => rv1 = .map (some x)) (⟨hch4.os, hch4.tape, hch4.output, hch4.size, hch4.block⟩ : Chg _ W3 w4) (fun k hk e => (hrvb k e).2.2.elim .inr (fun h => absurd hk (by omega)))
        exact h1
      have hz4 : W3.heap.size ≤ w4.heap.size := hch4.size
      have HZ4 := hide hz4
      clear hr4 hch4 hv4 hl4 hkf hz4 d4 d5
      go_wp2_with fail
      go_end0
      obtain ⟨hr3, hch3, hst3, hN2, hrvb, hin2⟩ := HX.out
      refine ⟨rfl, ⟨rv1, lessR rs1 g, _, HVF.out _, HRF.out _, hN2.less, ?_⟩, HCF.out _⟩
      rcases HRV.out with e | ⟨e1, br, e2, h1, h2⟩
      · exact .inl e
      · exact .inr ⟨e1, br, e2, by have := HZ.out; omega, by have := HZ.out; have := HZ4.out; simpa using (show br < w4.heap.size by omega)⟩
end Go.Proofs.YtbajfapfpcjenaaGreatDoor
