import Derived.Test.YtiaedjnedoemoabDoorStTick
import Derived.Laws.Rows
import Derived.Laws.ResultCell
namespace Go.Proofs.YtiaedjnedoemoabDoor
open Go.RowKit Go.Proofs.Ord

theorem flow_key : KeyL pk 82 := by
  refine pair_key Tryd.underlying82 (fun e d w => ?_) (fun d d' w => ?_)
  · cases e <;> kernel_rfl
  · have u3 := Tryd.underlying3
    have a3 := Tryd.isAgg3
    have z3 := Tryd.sizeOf3
    unfold Op.equal Op.maxDepth pk
    rw [show (10000 : Nat) = 9999 + 1 from rfl, run_equalIn_struct (P := Tryd.prog) w 9999 82 _ _ (by kernel_rfl) (by kernel_rfl)]
    simp only [Program.fieldsOf, Tryd.underlying82]
    go_simp
    by_cases h1 : d.fst = d'.fst <;> by_cases h2 : d.snd = d'.snd <;> simp [h1, h2]
theorem zero_stamp (w : World) : (zeroValue 53).run Tryd.prog w = .ok (.map none) w := by kernel_rfl

theorem door_result {fn : Func} (hf : fn.results = #[.cell 2 82, .tmp 3]) (tmps : Array Value) (w : World) (g : Nat) (d : Int × Int) (t : TypeId) (fr : Nat × Nat) (hp : tmps.getD 2 undef = .pointer (some ⟨g, 0, none⟩)) (hg : w.heap[g]? = some (.cells #[.int .i64 d.1, .int .i64 d.2] t fr)) :
    (results fn tmps).run Tryd.prog w = .ok (.tuple #[pk d, tmps.getD 3 undef]) w := by
  rw [results_cell_tmp hf, hp]
  have hl := run_loadVar_row (P := Tryd.prog) w g t 82 #[.int .i64 d.1, .int .i64 d.2] fr _ hg Tryd.underlying82 rfl (by kernel_rfl)
  simp [asAddr, hl, Result.andThen, pk]
theorem heap_two (w : World) (x y : Obj) : ((w.alloc x).alloc y).heap[w.heap.size + 1]? = some y := by
  have := heap_alloc_new (w.alloc x) y
  rwa [World.size_alloc] at this

set_option maxRecDepth 100000 in
set_option maxHeartbeats 1000000 in
theorem sIn_any (t k o v : Int) (w : World) :
    Calls Tryd.prog 32 #[evV ⟨t, k, o, v⟩] w fun e w' => e = .returned (.tuple #[pk ((inDoor ⟨t, k, o, v⟩).getD (0, 0)), .bool (inDoor ⟨t, k, o, v⟩).isSome]) ∧ Below w.heap.size w w' := by
  have hb2 : Hid (∀ x y, Below w.heap.size w ((w.alloc x).alloc y)) := fun x y => ((Below.refl _ _).alloc (Nat.le_refl _) _).alloc (by simp) _
  unfold evV inDoor
  by_cases h5 : k = 5
  · subst h5
    go_enter Tryd.func32, Tryd.ntmps32
    go_wp2
    exact bodyPost_ret (door_result rfl _ _ (w.heap.size + 1) (1, o) 82 (0, 0) rfl (heap_two w _ _)) rfl ⟨rfl, hb2.out _ _⟩
  by_cases h3 : k = 3
  · subst h3
    go_enter Tryd.func32, Tryd.ntmps32
    go_wp2
    exact bodyPost_ret (door_result rfl _ _ (w.heap.size + 1) (2, o) 82 (0, 0) rfl (heap_two w _ _)) rfl ⟨rfl, hb2.out _ _⟩
  by_cases h8 : k = 8
  · subst h8
    go_enter Tryd.func32, Tryd.ntmps32
    go_wp2
    exact bodyPost_ret (door_result rfl _ _ (w.heap.size + 1) (0, o) 82 (0, 0) rfl (heap_two w _ _)) rfl ⟨rfl, hb2.out _ _⟩
  rw [if_neg h5, if_neg h3, if_neg h8]
  have k5 : (k == 5) = false := beq_eq_false_iff_ne.2 h5
  have k3 : (k == 3) = false := beq_eq_false_iff_ne.2 h3
  have k8 : (k == 8) = false := beq_eq_false_iff_ne.2 h8
  clear h5 h3 h8
  go_enter Tryd.func32, Tryd.ntmps32
  go_wp2
  exact bodyPost_ret (door_result rfl _ _ (w.heap.size + 1) (0, 0) 82 (0, 0) rfl (heap_two w _ _)) rfl ⟨rfl, hb2.out _ _⟩

set_option maxRecDepth 100000 in
set_option maxHeartbeats 1000000 in
theorem sOut_any (t k o v : Int) (w : World) :
    Calls Tryd.prog 35 #[evV ⟨t, k, o, v⟩] w fun e w' => e = .returned (.tuple #[pk ((outDoor ⟨t, k, o, v⟩).getD (0, 0)), .bool (outDoor ⟨t, k, o, v⟩).isSome]) ∧ Below w.heap.size w w' := by
  have hb2 : Hid (∀ x y, Below w.heap.size w ((w.alloc x).alloc y)) := fun x y => ((Below.refl _ _).alloc (Nat.le_refl _) _).alloc (by simp) _
  unfold evV outDoor
  by_cases h6 : k = 6
  · subst h6
    go_enter Tryd.func35, Tryd.ntmps35
    go_wp2
    exact bodyPost_ret (door_result rfl _ _ (w.heap.size + 1) (1, o) 82 (0, 0) rfl (heap_two w _ _)) rfl ⟨rfl, hb2.out _ _⟩
  by_cases h4 : k = 4
  · subst h4
    go_enter Tryd.func35, Tryd.ntmps35
    go_wp2
    exact bodyPost_ret (door_result rfl _ _ (w.heap.size + 1) (2, o) 82 (0, 0) rfl (heap_two w _ _)) rfl ⟨rfl, hb2.out _ _⟩
  by_cases h7 : k = 7
  · subst h7
    go_enter Tryd.func35, Tryd.ntmps35
    go_wp2
    exact bodyPost_ret (door_result rfl _ _ (w.heap.size + 1) (3, o) 82 (0, 0) rfl (heap_two w _ _)) rfl ⟨rfl, hb2.out _ _⟩
  rw [if_neg h6, if_neg h4, if_neg h7]
  have k6 : (k == 6) = false := beq_eq_false_iff_ne.2 h6
  have k4 : (k == 4) = false := beq_eq_false_iff_ne.2 h4
  have k7 : (k == 7) = false := beq_eq_false_iff_ne.2 h7
  clear h6 h4 h7
  go_enter Tryd.func35, Tryd.ntmps35
  go_wp2
  exact bodyPost_ret (door_result rfl _ _ (w.heap.size + 1) (0, 0) 82 (0, 0) rfl (heap_two w _ _)) rfl ⟨rfl, hb2.out _ _⟩

theorem map_len_nil (w : World) : Sem.run Tryd.prog (Builtin.len_ #[53] 3 #[.map none]) w = .ok (.int .i64 0) w := by kernel_rfl

set_option maxRecDepth 100000 in
set_option maxHeartbeats 1000000 in
/-- put: what tells nothing is left away. -/
theorem put_flow {S : Nat → Prop} {F n : Nat} {f : Int × Int → Option Value} {v : Value} {g : Int → Int} (d : Int × Int) (w : World) (hM : KMap pk w F f n) (h : StampV S w v g) :
    Calls Tryd.prog 34 #[.map (some F), pk d, v] w fun e w' => ∃ f' n', e = .returned (.tuple #[]) ∧ KMap pk w' F f' n' ∧ (f' = putK f d v ∨ (f' = f ∧ ∀ u, g u = 0)) ∧ w.grownBy w' (some F) := by
  obtain ⟨pg, hg, hp⟩ := h
  obtain ⟨W, hW⟩ : ∃ W, w.alloc (.cells #[.int .i64 d.1, .int .i64 d.2] 82) = W := ⟨_, rfl⟩
  have hbW : Below w.heap.size w W := by rw [← hW]; exact (Below.refl _ _).alloc (Nat.le_refl _) _
  have HM := hide (hM.same (hbW.block _ hM.lt))
  clear hM
  rcases hp with ⟨rfl, h0⟩ | ⟨b, f', n', rfl, hS, hM', hP⟩
  · have hl := map_len_nil
    have H0 : Hid (∀ u, g u = 0) := fun u => by rw [hg u]; unfold pageAt; rw [h0]; rfl
    have hpd : pk d = .agg #[.int .i64 d.1, .int .i64 d.2] := rfl
    clear h0 hg
    rw [hpd]
    go_enter Tryd.func34, Tryd.ntmps34
    go_wp2
    go_end0
    exact ⟨f, n, rfl, HM.out, .inr ⟨rfl, H0.out⟩, below_grown hbW⟩
  · have hM1 : KMap ik W b f' n' := hM'.same (hbW.block _ hM'.lt)
    have hl := hM1.len Tryd.underlying53 3
    have hpd : pk d = .agg #[.int .i64 d.1, .int .i64 d.2] := rfl
    by_cases hn : n' = 0
    · have H0 : Hid (∀ u, g u = 0) := fun u => by rw [hg u]; unfold pageAt; rw [hP.none_ _ (hM1.empty.1 hn _)]; rfl
      subst hn
      clear hg hM' hM1
      rw [hpd]
      go_enter Tryd.func34, Tryd.ntmps34
      go_wp2
      go_end0
      exact ⟨f, n, rfl, HM.out, .inr ⟨rfl, H0.out⟩, below_grown hbW⟩
    · obtain ⟨W2, hput, hM2, hg2, hz2⟩ := HM.out.put flow_key Tryd.underlying50 d (.map (some b))
      have hfin : Hid (KMap pk W2 F (putK f d (.map (some b))) _ ∧ w.grownBy W2 (some F)) := ⟨hM2, grown_then (below_grown hbW) hg2⟩
      have hn' : (0 : Int) < (n' : Int) := by omega
      have hc0 : W.cell? ⟨w.heap.size, 0, none⟩ = some (.int .i64 d.1) := by rw [← hW]; simp
      have hc1 : W.cell? ⟨w.heap.size, 1, none⟩ = some (.int .i64 d.2) := by rw [← hW]; simp
      have hl' : Sem.run Tryd.prog (Builtin.len_ #[53] 3 #[.map (some b)]) W = .ok (.int .i64 n') W := hl
      clear hg hM' hM1 hM2 hg2 hz2 hn hl
      rw [hpd] at hput ⊢
      go_enter Tryd.func34, Tryd.ntmps34
      go_wp2
      go_end0
      exact ⟨_, _, rfl, hfin.out.1, .inl rfl, hfin.out.2⟩
end Go.Proofs.YtiaedjnedoemoabDoor
