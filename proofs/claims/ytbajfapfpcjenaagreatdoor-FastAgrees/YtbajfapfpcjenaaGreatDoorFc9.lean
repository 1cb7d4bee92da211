import Derived.Test.YtbajfapfpcjenaaGreatDoorFc8
import Derived.Laws.Rows
import Derived.Laws.ResultCell
import Derived.Deep.RegionHeld3
import Derived.Shelf.RegionOpen
import Derived.Deep.RegionWith
import Derived.Deep.Cut
import Derived.Deep.DeepCutAuto
import Derived.RegionTactic
import Derived.ChangeAlike
namespace Go.Proofs.YtbajfapfpcjenaaGreatDoor
open Go.RowKit Go.Proofs.Ord

theorem flow_key : KeyL pk 93 := by
  refine pair_key Tryz.underlying93 (fun e d w => ?_) (fun d d' w => ?_)
  · cases e <;> kernel_rfl
  · have u3 := Tryz.underlying3
    have a3 := Tryz.isAgg3
    have z3 := Tryz.sizeOf3
    unfold Op.equal Op.maxDepth pk
    rw [show (10000 : Nat) = 9999 + 1 from rfl, run_equalIn_struct (P := Tryz.prog) w 9999 93 _ _ (by kernel_rfl) (by kernel_rfl)]
    simp only [Program.fieldsOf, Tryz.underlying93]
    go_simp
    by_cases h1 : d.fst = d'.fst <;> by_cases h2 : d.snd = d'.snd <;> simp [h1, h2]
theorem zero_stamp (w : World) : (zeroValue 59).run Tryz.prog w = .ok (.map none) w := by kernel_rfl

theorem door_result {fn : Func} (hf : fn.results = #[.cell 2 93, .tmp 3]) (tmps : Array Value) (w : World) (g : Nat) (d : Int × Int) (t : TypeId) (fr : Nat × Nat) (hp : tmps.getD 2 undef = .pointer (some ⟨g, 0, none⟩)) (hg : w.heap[g]? = some (.cells #[.int .i64 d.1, .int .i64 d.2] t fr)) :
    (results fn tmps).run Tryz.prog w = .ok (.tuple #[pk d, tmps.getD 3 undef]) w := by
  rw [results_cell_tmp hf, hp]
  have hl := run_loadVar_row (P := Tryz.prog) w g t 93 #[.int .i64 d.1, .int .i64 d.2] fr _ hg Tryz.underlying93 rfl (by kernel_rfl)
  simp [asAddr, hl, Result.andThen, pk]
theorem heap_two (w : World) (x y : Obj) : ((w.alloc x).alloc y).heap[w.heap.size + 1]? = some y := by
  have := heap_alloc_new (w.alloc x) y
  rwa [World.size_alloc] at this

set_option maxRecDepth 100000 in
set_option maxHeartbeats 1000000 in
theorem sIn_any (t k o v : Int) (w : World) :
    Calls Tryz.prog 39 #[evV ⟨t, k, o, v⟩] w fun e w' => e = .returned (.tuple #[pk ((inDoor ⟨t, k, o, v⟩).getD (0, 0)), .bool (inDoor ⟨t, k, o, v⟩).isSome]) ∧ Below w.heap.size w w' := by
  have hb2 : Hid (∀ x y, Below w.heap.size w ((w.alloc x).alloc y)) := fun x y => ((Below.refl _ _).alloc (Nat.le_refl _) _).alloc (by simp) _
  unfold evV inDoor
  by_cases h5 : k = 5
  · subst h5
    go_enter Tryz.func39, Tryz.ntmps39
    go_wp2
    exact bodyPost_ret (door_result rfl _ _ (w.heap.size + 1) (1, o) 93 (0, 0) rfl (heap_two w _ _)) rfl ⟨rfl, hb2.out _ _⟩
  by_cases h3 : k = 3
  · subst h3
    go_enter Tryz.func39, Tryz.ntmps39
    go_wp2
    exact bodyPost_ret (door_result rfl _ _ (w.heap.size + 1) (2, o) 93 (0, 0) rfl (heap_two w _ _)) rfl ⟨rfl, hb2.out _ _⟩
  by_cases h8 : k = 8
  · subst h8
    go_enter Tryz.func39, Tryz.ntmps39
    go_wp2
    exact bodyPost_ret (door_result rfl _ _ (w.heap.size + 1) (0, o) 93 (0, 0) rfl (heap_two w _ _)) rfl ⟨rfl, hb2.out _ _⟩
  rw [if_neg h5, if_neg h3, if_neg h8]
  have k5 : (k == 5) = false := beq_eq_false_iff_ne.2 h5
  have k3 : (k == 3) = false := beq_eq_false_iff_ne.2 h3
  have k8 : (k == 8) = false := beq_eq_false_iff_ne.2 h8
  clear h5 h3 h8
  go_enter Tryz.func39, Tryz.ntmps39
  go_wp2
  exact bodyPost_ret (door_result rfl _ _ (w.heap.size + 1) (0, 0) 93 (0, 0) rfl (heap_two w _ _)) rfl ⟨rfl, hb2.out _ _⟩

set_option maxRecDepth 100000 in
set_option maxHeartbeats 1000000 in
theorem sOut_any (t k o v : Int) (w : World) :
    Calls Tryz.prog 42 #[evV ⟨t, k, o, v⟩] w fun e w' => e = .returned (.tuple #[pk ((outDoor ⟨t, k, o, v⟩).getD (0, 0)), .bool (outDoor ⟨t, k, o, v⟩).isSome]) ∧ Below w.heap.size w w' := by
  have hb2 : Hid (∀ x y, Below w.heap.size w ((w.alloc x).alloc y)) := fun x y => ((Below.refl _ _).alloc (Nat.le_refl _) _).alloc (by simp) _
  unfold evV outDoor
  by_cases h6 : k = 6
  · subst h6
    go_enter Tryz.func42, Tryz.ntmps42
    go_wp2
    exact bodyPost_ret (door_result rfl _ _ (w.heap.size + 1) (1, o) 93 (0, 0) rfl (heap_two w _ _)) rfl ⟨rfl, hb2.out _ _⟩
  by_cases h4 : k = 4
  · subst h4
    go_enter Tryz.func42, Tryz.ntmps42
    go_wp2
    exact bodyPost_ret (door_result rfl _ _ (w.heap.size + 1) (2, o) 93 (0, 0) rfl (heap_two w _ _)) rfl ⟨rfl, hb2.out _ _⟩
  by_cases h7 : k = 7
  · subst h7
    go_enter Tryz.func42, Tryz.ntmps42
    go_wp2
    exact bodyPost_ret (door_result rfl _ _ (w.heap.size + 1) (3, o) 93 (0, 0) rfl (heap_two w _ _)) rfl ⟨rfl, hb2.out _ _⟩
  rw [if_neg h6, if_neg h4, if_neg h7]
  have k6 : (k == 6) = false := beq_eq_false_iff_ne.2 h6
  have k4 : (k == 4) = false := beq_eq_false_iff_ne.2 h4
  have k7 : (k == 7) = false := beq_eq_false_iff_ne.2 h7
  clear h6 h4 h7
  go_enter Tryz.func42, Tryz.ntmps42
  go_wp2
  exact bodyPost_ret (door_result rfl _ _ (w.heap.size + 1) (0, 0) 93 (0, 0) rfl (heap_two w _ _)) rfl ⟨rfl, hb2.out _ _⟩

theorem map_len_nil (w : World) : Sem.run Tryz.prog (Builtin.len_ #[59] 3 #[.map none]) w = .ok (.int .i64 0) w := by kernel_rfl

set_option maxRecDepth 100000 in
set_option maxHeartbeats 1000000 in
/-- put: what tells nothing is left away. -/
theorem put_flow {S : Nat → Prop} {F n : Nat} {f : Int × Int → Option Value} {v : Value} {g : Int → Int} (d : Int × Int) (w : World) (hM : KMap pk w F f n) (h : StampV S w v g) :
    Calls Tryz.prog 41 #[.map (some F), pk d, v] w fun e w' => ∃ f' n', e = .returned (.tuple #[]) ∧ KMap pk w' F f' n' ∧ (f' = putK f d v ∨ (f' = f ∧ ∀ u, g u = 0)) ∧ w.grownBy w' (some F) := by
  obtain ⟨pg, hg, hp⟩ := h
  obtain ⟨W, hW⟩ : ∃ W, w.alloc (.cells #[.int .i64 d.1, .int .i64 d.2] 93) = W := ⟨_, rfl⟩
  have hbW : Below w.heap.size w W := by rw [← hW]; exact (Below.refl _ _).alloc (Nat.le_refl _) _
  have HM := hide (hM.same (hbW.block _ hM.lt))
  clear hM
  rcases hp with ⟨rfl, h0⟩ | ⟨b, f', n', rfl, hS, hM', hP⟩
  · have hl := map_len_nil
    have H0 : Hid (∀ u, g u = 0) := fun u => by rw [hg u]; unfold pageAt; rw [h0]; rfl
    have hpd : pk d = .agg #[.int .i64 d.1, .int .i64 d.2] := rfl
    clear h0 hg
    rw [hpd]
    go_enter Tryz.func41, Tryz.ntmps41
    go_wp2
    go_end0
    exact ⟨f, n, rfl, HM.out, .inr ⟨rfl, H0.out⟩, below_grown hbW⟩
  · have hM1 : KMap ik W b f' n' := hM'.same (hbW.block _ hM'.lt)
    have hl := hM1.len Tryz.underlying59 3
    have hpd : pk d = .agg #[.int .i64 d.1, .int .i64 d.2] := rfl
    by_cases hn : n' = 0
    · have H0 : Hid (∀ u, g u = 0) := fun u => by rw [hg u]; unfold pageAt; rw [hP.none_ _ (hM1.empty.1 hn _)]; rfl
      subst hn
      clear hg hM' hM1
      rw [hpd]
      go_enter Tryz.func41, Tryz.ntmps41
      go_wp2
      go_end0
      exact ⟨f, n, rfl, HM.out, .inr ⟨rfl, H0.out⟩, below_grown hbW⟩
    · obtain ⟨W2, hput, hM2, hg2, hz2⟩ := HM.out.put flow_key Tryz.underlying43 d (.map (some b))
      have hfin : Hid (KMap pk W2 F (putK f d (.map (some b))) _ ∧ w.grownBy W2 (some F)) := ⟨hM2, grown_then (below_grown hbW) hg2⟩
      have hn' : (0 : Int) < (n' : Int) := by omega
      have hc0 : W.cell? ⟨w.heap.size, 0, none⟩ = some (.int .i64 d.1) := by rw [← hW]; simp
      have hc1 : W.cell? ⟨w.heap.size, 1, none⟩ = some (.int .i64 d.2) := by rw [← hW]; simp
      have hl' : Sem.run Tryz.prog (Builtin.len_ #[59] 3 #[.map (some b)]) W = .ok (.int .i64 n') W := hl
      clear hg hM' hM1 hM2 hg2 hz2 hn hl
      rw [hpd] at hput ⊢
      go_enter Tryz.func41, Tryz.ntmps41
      go_wp2
      go_end0
      exact ⟨_, _, rfl, hfin.out.1, .inl rfl, hfin.out.2⟩
end Go.Proofs.YtbajfapfpcjenaaGreatDoor
namespace Go.Proofs.YtbajfapfpcjenaaGreatDoor
open Go.RowKit Go.Proofs.Ord

/-- The flow's stamps, door by door. -/
structure FlowS (S : Nat → Prop) (w : World) (f : Int × Int → Option Value) (R : Int × Int → Int → Int) : Prop where
  some_ : ∀ d v, f d = some v → StampV S w v (R d)
  none_ : ∀ d, f d = none → ∀ u, R d u = 0
theorem FlowS.at {S : Nat → Prop} {w : World} {f : Int × Int → Option Value} {R : Int × Int → Int → Int} (h : FlowS S w f R) (d : Int × Int) : StampV S w ((f d).getD (.map none)) (R d) := by
  cases hf : f d with
  | none => exact (stampV_nil S w).congr (h.none_ d hf)
  | some v => exact h.some_ d v hf
theorem FlowS.kept {S : Nat → Prop} {w w' : World} {f : Int × Int → Option Value} {R : Int × Int → Int → Int} (h : FlowS S w f R) (hs : w.heap.size ≤ w'.heap.size) (hb : ∀ b, S b → w'.heap[b]? = w.heap[b]?) : FlowS S w' f R :=
  ⟨fun d v hf => (h.some_ d v hf).kept hs hb, h.none_⟩
theorem FlowS.mono {S S' : Nat → Prop} {w : World} {f : Int × Int → Option Value} {R : Int × Int → Int → Int} (h : FlowS S w f R) (hS : ∀ b, b < w.heap.size → S b → S' b) : FlowS S' w f R :=
  ⟨fun d v hf => (h.some_ d v hf).mono hS, h.none_⟩
/-- The flow behind k events: the map in block F, its stamps in blocks of S. -/
structure FlowW (S : Nat → Prop) (w : World) (F : Nat) (L : Nat → Ev) (c : Nat → Bool) (k : Nat) : Prop where
  out : ¬ S F
  lt : ∀ x, S x → x < w.heap.size
  map : ∃ f n R, KMap pk w F f n ∧ FlowS S w f R ∧ FlowN L c k R
theorem cells_two {w : World} {b : Nat} {x y : Value} {T : TypeId} {fr : Nat × Nat} (h : w.heap[b]? = some (.cells #[x, y] T fr)) : w.cell? ⟨b, 0, none⟩ = some x ∧ w.cell? ⟨b, 1, none⟩ = some y := by
  constructor <;> simp [World.cell?, h]
theorem two_made (w : World) (A B C : Obj) : (((w.alloc A).alloc B).alloc C).drew.heap[w.heap.size + 1]? = some B ∧ (((w.alloc A).alloc B).alloc C).drew.heap[w.heap.size + 1 + 1]? = some C ∧ (((w.alloc A).alloc B).alloc C).drew.heap.size = w.heap.size + 3 ∧ Below w.heap.size w (((w.alloc A).alloc B).alloc C).drew ∧ (((w.alloc A).alloc B).alloc C).drew.heap[w.heap.size]? = some A := by
  have h1 : (((w.alloc A).alloc B).alloc C).heap[w.heap.size + 1]? = some B := by rw [heap_alloc_old _ _ (by simp)]; exact heap_two w A B
  have h2 : (((w.alloc A).alloc B).alloc C).heap[w.heap.size + 1 + 1]? = some C := by
    have := heap_alloc_new ((w.alloc A).alloc B) C
    rwa [World.size_alloc, World.size_alloc] at this
  exact ⟨h1, h2, by show (((w.alloc A).alloc B).alloc C).heap.size = _; simp, ((((Below.refl _ _).alloc (Nat.le_refl _) _).alloc (by simp) _).alloc (by simp; omega) _).drew, by show (((w.alloc A).alloc B).alloc C).heap[w.heap.size]? = _; rw [heap_alloc_old _ _ (by simp; omega), heap_alloc_old _ _ (by simp)]; exact heap_alloc_new w A⟩
/-- Blocks of S, and new ones. -/
def SN (S : Nat → Prop) (w w' : World) (x : Nat) : Prop := S x ∨ (w.heap.size ≤ x ∧ x < w'.heap.size)

/-- While Next works: the map, and a stamp at hand. -/
structure MidN (S : Nat → Prop) (w : World) (F : Nat) (f : Int × Int → Option Value) (R : Int × Int → Int → Int) (s : Value) (g : Int → Int) (W : World) : Prop where
  grew : w.grownBy W (some F)
  map : ∃ n, KMap pk W F f n
  flow : FlowS (SN S w W) W f R
  stamp : StampV (SN S w W) W s g
theorem SN.not {S : Nat → Prop} {w W : World} {F : Nat} (h : ¬ S F) (hF : F < w.heap.size) : ¬ SN S w W F := fun h' => h'.elim h fun h' => by omega
theorem SN.lt {S : Nat → Prop} {w W : World} {x : Nat} (hlt : ∀ x, S x → x < w.heap.size) (hs : w.heap.size ≤ W.heap.size) (h : SN S w W x) : x < W.heap.size := h.elim (fun h => by have := hlt x h; omega) fun h => h.2
theorem SN.mono {S : Nat → Prop} {w W W' : World} {x : Nat} (hs : W.heap.size ≤ W'.heap.size) (h : SN S w W x) : SN S w W' x := h.imp id fun h => ⟨h.1, by omega⟩
theorem FlowS.any {S : Nat → Prop} {w w' : World} {f : Int × Int → Option Value} {R : Int × Int → Int → Int} (h : FlowS S w f R) (hb : Below w.heap.size w w') : FlowS S w' f R :=
  ⟨fun d v hf => (h.some_ d v hf).any hb, h.none_⟩
theorem MidN.below {S : Nat → Prop} {w W W' : World} {F : Nat} {f : Int × Int → Option Value} {R : Int × Int → Int → Int} {s : Value} {g : Int → Int} (h : MidN S w F f R s g W) (hb : Below W.heap.size W W') : MidN S w F f R s g W' :=
  ⟨grown_below h.grew hb, by obtain ⟨n, hn⟩ := h.map; exact ⟨n, hn.same (hb.block _ hn.lt)⟩, (h.flow.any hb).mono fun x _ hx => hx.mono hb.size, (h.stamp.any hb).mono fun x _ hx => hx.mono hb.size⟩
theorem MidN.stamped {S : Nat → Prop} {w W : World} {F : Nat} {f : Int × Int → Option Value} {R : Int × Int → Int → Int} {s s' : Value} {g g' : Int → Int} (h : MidN S w F f R s g W) (hs : StampV (SN S w W) W s' g') : MidN S w F f R s' g' W := ⟨h.grew, h.map, h.flow, hs⟩
theorem FlowS.put {S : Nat → Prop} {w : World} {f f' : Int × Int → Option Value} {R : Int × Int → Int → Int} (h : FlowS S w f R) {d : Int × Int} {s : Value} {g : Int → Int} (hs : StampV S w s g) (hf : f' = putK f d s ∨ (f' = f ∧ ∀ u, g u = 0)) (hz : (∀ u, g u = 0) → ∀ u, R d u = 0) : FlowS S w f' (fun x u => if x = d then g u else R x u) := by
  rcases hf with rfl | ⟨rfl, h0⟩
  · refine ⟨fun x v hx => ?_, fun x hx u => ?_⟩
    · by_cases e : x = d
      · subst e; rw [putK_same] at hx; cases hx; exact hs.congr fun u => by rw [if_pos rfl]
      · rw [putK_other s e] at hx; exact (h.some_ x v hx).congr fun u => by rw [if_neg e]
    · by_cases e : x = d
      · subst e; rw [putK_same] at hx; cases hx
      · rw [putK_other s e] at hx; rw [if_neg e]; exact h.none_ x hx u
  · have hz := hz h0
    refine ⟨fun x v hx => (h.some_ x v hx).congr fun u => ?_, fun x hx u => ?_⟩
    · by_cases e : x = d
      · subst e; rw [if_pos rfl, h0, hz]
      · rw [if_neg e]
    · by_cases e : x = d
      · subst e; rw [if_pos rfl]; exact h0 u
      · rw [if_neg e]; exact h.none_ x hx u

theorem MidN.put {S : Nat → Prop} {w W W' : World} {F n' : Nat} {f f' : Int × Int → Option Value} {R : Int × Int → Int → Int} {s v' : Value} {g g' : Int → Int} {d : Int × Int} (h : MidN S w F f R s g W) (hout : ¬ S F) (hFl : F < w.heap.size) (hlt : ∀ x, S x → x < w.heap.size) (hs : StampV (SN S w W) W v' g') (hM : KMap pk W' F f' n')
    (hf : f' = putK f d v' ∨ (f' = f ∧ ∀ u, g' u = 0)) (hz : (∀ u, g' u = 0) → ∀ u, R d u = 0) (hg : W.grownBy W' (some F)) : MidN S w F f' (fun x u => if x = d then g' u else R x u) s g W' := by
  have hk : ∀ x, SN S w W x → W'.heap[x]? = W.heap[x]? := fun x hx => hg.block x (hx.lt hlt h.grew.size) (fun e => by
    have e' : x = F := by simpa using e
    exact SN.not hout hFl (e' ▸ hx))
  exact ⟨grown_then h.grew hg, ⟨n', hM⟩, ((h.flow.put hs hf hz).kept hg.size hk).mono fun x _ hx => hx.mono hg.size, (h.stamp.kept hg.size hk).mono fun x _ hx => hx.mono hg.size⟩

set_option maxRecDepth 100000 in
set_option maxHeartbeats 2000000 in
theorem next_any {S : Nat → Prop} {F : Nat} {L : Nat → Ev} {c : Nat → Bool} {k : Nat} (t kd o v : Int) (w : World) (hF : FlowW S w F L c k) (hx : L k = ⟨t, kd, o, v⟩) (ht : In64 t) (hk : k < 4611686018427387904) :
    Calls Tryz.prog 23 #[.map (some F), evV ⟨t, kd, o, v⟩, .bool (c k)] w fun e w' => ∃ s, e = .returned s ∧ StampV (SN S w w') w' s (stampN L c k) ∧ FlowW (SN S w w') w' F L c (k + 1) ∧ w.grownBy w' (some F) := by
  obtain ⟨hout, hlt, f, n, R, hM, hS, hN⟩ := hF
  have hFl := hM.lt
  have HN := hide hN
  have HX := hide hx
  clear hN hx
  unfold evV
  obtain ⟨ck, hck⟩ : ∃ b, Hid (c k = b) := ⟨_, rfl⟩
  rw [hck.out]
  go_enter Tryz.func23, Tryz.ntmps23
  go_upto_region 1 with fail
  go_cut [7, 8] (fun p q wx => ∃ b7 b8, p = .pointer (some ⟨b7, 0, none⟩) ∧ q = .pointer (some ⟨b8, 0, none⟩) ∧ b7 < wx.heap.size ∧ b8 < wx.heap.size ∧ w.heap.size ≤ b7 ∧ w.heap.size ≤ b8 ∧ wx.cell? ⟨b7, 0, none⟩ = some (.int .i64 0) ∧ wx.cell? ⟨b7, 1, none⟩ = some (.int .i64 t) ∧ wx.cell? ⟨b8, 0, none⟩ = some (.int .i64 3) ∧ wx.cell? ⟨b8, 1, none⟩ = some (.int .i64 t) ∧ wx.heap[w.heap.size]? = some (.cells #[.int .i64 t, .int .i64 kd, .int .i64 o, .int .i64 v] 33 (0, 0)) ∧ Below w.heap.size w wx)
  case first =>
    go_region
    all_goals
      go_wp2_with fail
      go_meet
    · obtain ⟨h1, h2, h3, h4, h5⟩ := two_made w (.cells #[.int .i64 t, .int .i64 kd, .int .i64 o, .int .i64 v] 33) (.cells #[.int .i64 0, .int .i64 t] 93) (.cells #[.int .i64 3, .int .i64 t] 93)
      exact ⟨_, _, rfl, rfl, by rw [h3]; omega, by rw [h3]; omega, by omega, by omega, (cells_two h1).1, (cells_two h1).2, (cells_two h2).1, (cells_two h2).2, h5, h4⟩
    · obtain ⟨h1, h2, h3, h4, h5⟩ := two_made w (.cells #[.int .i64 t, .int .i64 kd, .int .i64 o, .int .i64 v] 33) (.cells #[.int .i64 3, .int .i64 t] 93) (.cells #[.int .i64 0, .int .i64 t] 93)
      exact ⟨_, _, rfl, rfl, by rw [h3]; omega, by rw [h3]; omega, by omega, by omega, (cells_two h2).1, (cells_two h2).2, (cells_two h1).1, (cells_two h1).2, h5, h4⟩
  case rest =>
    obtain ⟨b7, b8, rfl, rfl, hl7, hl8, hw7, hw8, c70, c71, c80, c81, hev, hbel⟩ := hcut
    have hMc := hM.same (hbel.block _ hFl)
    have hSc := hS.any hbel
    have hsz := hbel.size
    have hlk0 : Sem.run Tryz.prog (Instr.lookup 43 (.map (some F)) (.agg #[.int .i64 0, .int .i64 t]) false) wc.drew = .ok ((f (0, t)).getD (.map none)) wc.drew := (hMc.same (w' := wc.drew) rfl).look flow_key Tryz.underlying43 (zero_stamp _) (0, t)
    have hlk3 : Sem.run Tryz.prog (Instr.lookup 43 (.map (some F)) (.agg #[.int .i64 3, .int .i64 t]) false) wc.drew = .ok ((f (3, t)).getD (.map none)) wc.drew := (hMc.same (w' := wc.drew) rfl).look flow_key Tryz.underlying43 (zero_stamp _) (3, t)
    have HJ := hide (join_st (S := S) wc.drew (((hSc.at (0, t)).any (Below.refl _ _).drew)) (((hSc.at (3, t)).any (Below.refl _ _).drew)) (fun x h => by have := hlt x h; show x < wc.heap.size; omega) (HN.out.nonneg _) (HN.out.nonneg _))
    generalize (f (0, t)).getD (.map none) = v0 at hlk0 HJ
    generalize (f (3, t)).getD (.map none) = v3 at hlk3 HJ
    have HD := hide (⟨hMc, hSc⟩ : KMap pk wc F f n ∧ FlowS S wc f R)
    clear hMc hSc hM hS
    go_upto_region 2 with fail
    go_cut [9] (fun s wx => StampV (SN S w wx) wx s (maxF (R (0, t)) (R (3, t))) ∧ Below wc.heap.size wc wx)
    case first =>
      go_region_with (go_at_call 38; refine HJ.out.mono ?_; rintro e w2 ⟨r, rfl, hst, hb2⟩)
      all_goals
        go_wp2_with fail
        go_meet
        exact ⟨hst.mono fun x _ h => h.imp id fun h => ⟨Nat.le_trans hsz h.1, h.2⟩, (Below.refl _ _).drew.trans hb2⟩
    case rest =>
      obtain ⟨hst, hb2⟩ := hcut
      have hz2 := hb2.size
      have hbw : Below w.heap.size w wc := hbel.trans (hb2.mono hsz)
      have hMc := HD.out.1.same (hb2.block _ HD.out.1.lt)
      obtain ⟨wf, hdel, hMf, hgf, hzf⟩ := hMc.del flow_key Tryz.underlying43 0 (3, t)
      have hdel' : Sem.run Tryz.prog (Builtin.delete_ #[43, 93] 0 #[.map (some F), .agg #[.int .i64 3, .int .i64 t]]) wc = .ok (.tuple #[]) wf := hdel
      have hnF : ∀ W, ¬ SN S w W F := fun W => SN.not hout hFl
      have hkeep : ∀ x, SN S w wc x → wf.heap[x]? = wc.heap[x]? := fun x hx => hgf.block x (hx.lt hlt hbw.size) (fun e => by
        have e' : x = F := by simpa using e
        exact hnF wc (e' ▸ hx))
      have hfl : FlowS (SN S w wc) wc f R := (HD.out.2.any hb2).mono fun x _ h => .inl h
      have hmid : Hid (MidN S w F (delK f (3, t)) (fun x u => if x = (3, t) then 0 else R x u) u9 (maxF (R (0, t)) (R (3, t))) wf) := by
        have e : SN S w wf = SN S w wc := by unfold SN; rw [hzf]
        refine ⟨grown_then (below_grown hbw) hgf, ⟨_, hMf⟩, ?_, ?_⟩
        · rw [e]
          refine ⟨fun x u hx => ?_, fun x hx u => ?_⟩
          · by_cases e2 : x = (3, t)
            · subst e2; rw [delK_same] at hx; cases hx
            · rw [delK_other e2] at hx
              exact ((hfl.some_ x u hx).kept (by omega) hkeep).congr fun u => by rw [if_neg e2]
          · by_cases e2 : x = (3, t)
            · rw [if_pos e2]
            · rw [delK_other e2] at hx; rw [if_neg e2]; exact hfl.none_ x hx u
        · rw [e]; exact hst.kept (by omega) hkeep
      have hcell : Hid (∀ x, x < wc.heap.size → x ≠ F → wf.heap[x]? = wc.heap[x]?) := fun x h1 h2 => hgf.block x h1 (by simpa using h2)
      have c80' := (World.cell?_of_block (w := _) (a := ⟨b8, 0, none⟩) (hb2.block b8 hl8)).trans c80
      have c81' := (World.cell?_of_block (w := _) (a := ⟨b8, 1, none⟩) (hb2.block b8 hl8)).trans c81
      have c70' := (World.cell?_of_block (w := _) (a := ⟨b7, 0, none⟩) ((hcell.out b7 (by omega) (by omega)).trans (hb2.block b7 hl7))).trans c70
      have c71' := (World.cell?_of_block (w := _) (a := ⟨b7, 1, none⟩) ((hcell.out b7 (by omega) (by omega)).trans (hb2.block b7 hl7))).trans c71
      have hev' : wf.heap[w.heap.size]? = some (.cells #[.int .i64 t, .int .i64 kd, .int .i64 o, .int .i64 v] 33 (0, 0)) := (hcell.out w.heap.size (by omega) (by omega)).trans ((hb2.block _ (by omega)).trans hev)
      have hl7' : b7 < wf.heap.size := by omega
      have hlw' : w.heap.size < wf.heap.size := by omega
      have e0 : wf.cell? ⟨w.heap.size, 0, none⟩ = some (.int .i64 t) := by simp [World.cell?, hev']
      have e1 : wf.cell? ⟨w.heap.size, 1, none⟩ = some (.int .i64 kd) := by simp [World.cell?, hev']
      have e2 : wf.cell? ⟨w.heap.size, 2, none⟩ = some (.int .i64 o) := by simp [World.cell?, hev']
      have e3 : wf.cell? ⟨w.heap.size, 3, none⟩ = some (.int .i64 v) := by simp [World.cell?, hev']
      clear c70 c71 c80 c81 hev hlk0 hlk3 HJ HD hst hb2 hMc hMf hgf hzf hdel hfl hkeep hcell hbel hsz hz2 hev' hl7 hl8 hbw
      go_wp2_with fail
      refine (sIn_any t kd o v wf).mono ?_
      rintro e w5 ⟨rfl, hb5⟩
      obtain ⟨dI, hdI⟩ : ∃ d, Hid ((inDoor ⟨t, kd, o, v⟩).getD (0, 0) = d) := ⟨_, rfl⟩
      obtain ⟨bI, hbI⟩ : ∃ b, Hid ((inDoor ⟨t, kd, o, v⟩).isSome = b) := ⟨_, rfl⟩
      rw [hdI.out, hbI.out, show pk dI = .agg #[.int .i64 dI.1, .int .i64 dI.2] from rfl]
      obtain ⟨w6, hw6⟩ : ∃ w6, w5.alloc (.cells #[.int .i64 dI.1, .int .i64 dI.2] 93) = w6 := ⟨_, rfl⟩
      have hb6 : Below wf.heap.size wf w6 := by rw [← hw6]; exact hb5.alloc hb5.size _
      have hm6 := hide (hmid.out.below hb6)
      have d0 : w6.cell? ⟨w5.heap.size, 0, none⟩ = some (.int .i64 dI.1) := by rw [← hw6]; simp
      have d1 : w6.cell? ⟨w5.heap.size, 1, none⟩ = some (.int .i64 dI.2) := by rw [← hw6]; simp
      obtain ⟨R3, hR3⟩ : ∃ R3 : Int × Int → Int → Int, (fun x u => if x = (3, t) then 0 else R x u) = R3 := ⟨_, rfl⟩
      have HR3 : Hid (∀ x u, R3 x u = if x = (3, t) then 0 else R x u) := fun x u => by rw [← hR3]
      rw [hR3] at hm6 hmid
      have h3n : Hid (∀ x u, 0 ≤ R3 x u) := fun x u => by rw [HR3.out]; split; exact Int.le_refl _; exact HN.out.nonneg x u
      have hjn : Hid (∀ u, 0 ≤ maxF (R (0, t)) (R (3, t)) u) := fun u => by have := HN.out.nonneg (0, t) u; unfold maxF; omega
      clear hb5 hR3
      go_upto_if 34 with fail
      go_cut [9] (fun s wx => MidN S w F (delK f (3, t)) R3 s (beforeN L c k) wx ∧ Below wf.heap.size wf wx)
      case first =>
        cases bI with
        | false =>
          have hno : Hid (inDoor (L k) = none) := by rw [HX.out]; exact Option.not_isSome_iff_eq_none.1 (by rw [hbI.out]; simp)
          have hbf : Hid (∀ u, beforeN L c k u = maxF (R (0, t)) (R (3, t)) u) := fun u => by rw [HN.out.before u, hno.out, HX.out]; rfl
          go_wp2_with fail
          go_meet
          exact ⟨hm6.out.stamped (hm6.out.stamp.congr hbf.out), hb6⟩
        | true =>
          have hyes : Hid (inDoor (L k) = some dI) := by
            rw [HX.out]
            cases h : inDoor ⟨t, kd, o, v⟩ with
            | none => have := hbI.out; rw [h] at this; cases this
            | some d => have := hdI.out; rw [h] at this; exact congrArg some this
          have hd3 : Hid (dI ≠ (3, t)) := fun e => inDoor_not3 hyes.out (by rw [e])
          have hbf : Hid (∀ u, beforeN L c k u = maxF (maxF (R (0, t)) (R (3, t))) (R3 dI) u) := fun u => by
            have := HN.out.before u
            rw [hyes.out, HX.out] at this
            rw [this, show maxF (maxF (R (0, t)) (R (3, t))) (R3 dI) u = max (max (R (0, t) u) (R (3, t) u)) (R3 dI u) from rfl, HR3.out, if_neg hd3.out]
          obtain ⟨n6, hM6⟩ := hm6.out.map
          have hlk : Sem.run Tryz.prog (Instr.lookup 43 (.map (some F)) (.agg #[.int .i64 dI.1, .int .i64 dI.2]) false) w6 = .ok _ w6 := hM6.look flow_key Tryz.underlying43 (zero_stamp _) dI
          have HJ := hide (join_st (S := SN S w w6) w6 hm6.out.stamp (hm6.out.flow.at dI) (fun x h => h.lt hlt hm6.out.grew.size) hjn.out (h3n.out dI))
          generalize (delK f (3, t) dI).getD (.map none) = vI at hlk HJ
          clear hM6
          go_wp2_with (go_at_call 38; refine HJ.out.mono ?_; rintro e w7 ⟨r, rfl, hst, hb7⟩)
          go_meet
          refine ⟨(hm6.out.below hb7).stamped ((hst.mono fun x _ h => ?_).congr hbf.out), hb6.trans (hb7.mono hb6.size)⟩
          have := hm6.out.grew.size
          exact h.elim (fun h => h.mono hb7.size) fun h => .inr ⟨by omega, h.2⟩
      case rest =>
        obtain ⟨hmA, hbA⟩ := hcut
        have HmA := hide hmA
        have a0 := (hbA.cell (p := ⟨w.heap.size, 0, none⟩) hlw').trans e0
        have hbn : Hid (∀ u, 0 ≤ beforeN L c k u ∧ beforeN L c k u ≤ k) := fun u => by
          have := num_le (L := L) (c := c) (A := fun i => bef L i k = true) (u := u) k
          unfold beforeN; omega
        clear hmA hm6 hmid hb6 d0 d1 hjn hdI hbI hw6
        go_upto_if 40 with fail
        go_cut [9] (fun s wx => MidN S w F (delK f (3, t)) R3 s (stampN L c k) wx ∧ Below wf.heap.size wf wx)
        case first =>
          cases ck with
          | false =>
            have hsn : Hid (∀ u, stampN L c k u = beforeN L c k u) := fun u => by
              rw [stampN_tick, hck.out]; simp
            go_wp2_with fail
            go_meet
            exact ⟨HmA.out.stamped (HmA.out.stamp.congr hsn.out), hbA⟩
          | true =>
            have hsn : Hid (∀ u, stampN L c k u = tickF (beforeN L c k) t u) := fun u => by
              rw [stampN_tick, hck.out, HX.out]
              unfold tickF
              by_cases e : u = t
              · rw [if_pos ⟨rfl, e⟩, if_pos e]
              · rw [if_neg (fun h => e h.2), if_neg e]; simp
            have HT := hide (tick_st (S := SN S w wc) t wc ht HmA.out.stamp (fun x h => h.lt hlt HmA.out.grew.size) (hbn.out t).1 (by have := (hbn.out t).2; omega))
            go_wp2_with (go_at_call 40; refine HT.out.mono ?_; rintro e w8 ⟨r, rfl, hst, hb8⟩)
            go_meet
            refine ⟨(HmA.out.below hb8).stamped ((hst.mono fun x _ h => ?_).congr hsn.out), hbA.trans (hb8.mono hbA.size)⟩
            have := HmA.out.grew.size
            exact h.elim (fun h => h.mono hb8.size) fun h => .inr ⟨by omega, h.2⟩
        case rest =>
          clear HmA a0 hbA
          obtain ⟨hmB, hbB⟩ := hcut
          have HmB := hide hmB
          obtain ⟨nB, hMB⟩ := hmB.map
          have HP := hide (put_flow (0, t) wc hMB hmB.stamp)
          have b0 := (hbB.cell (p := ⟨b7, 0, none⟩) hl7').trans c70'
          have b1 := (hbB.cell (p := ⟨b7, 1, none⟩) hl7').trans c71'
          have hz0 : Hid ((∀ u, stampN L c k u = 0) → ∀ u, R3 (0, t) u = 0) := fun h u => by
            have h1 := HN.out.door (0, t) (by simp) u
            have h2 := gone_le_stamp L c k (0, t) ((allIn_mem _ _).2 (.inl (by rw [HX.out]))) u
            have h3 := HN.out.nonneg (0, t) u
            have h4 := h u
            rw [HR3.out, if_neg (by simp)]; omega
          clear hmB hMB hbn
          go_wp2_with fail
          refine HP.out.mono ?_
          rintro e wC ⟨f4, n4, rfl, hM4, hf4, hg4⟩
          have hmC := hide (HmB.out.put hout hFl hlt HmB.out.stamp hM4 hf4 hz0.out hg4)
          have hzB := hbB.size
          have hkC : ∀ x, x < wf.heap.size → x ≠ F → wC.heap[x]? = wf.heap[x]? := fun x h1 h2 => (hg4.block x (by omega) (by simpa using h2)).trans (hbB.block x h1)
          have g0 := (World.cell?_of_block (w := wf) (a := ⟨w.heap.size, 0, none⟩) (hkC w.heap.size hlw' (by omega))).trans e0
          have g1 := (World.cell?_of_block (w := wf) (a := ⟨w.heap.size, 1, none⟩) (hkC w.heap.size hlw' (by omega))).trans e1
          have g2 := (World.cell?_of_block (w := wf) (a := ⟨w.heap.size, 2, none⟩) (hkC w.heap.size hlw' (by omega))).trans e2
          have g3 := (World.cell?_of_block (w := wf) (a := ⟨w.heap.size, 3, none⟩) (hkC w.heap.size hlw' (by omega))).trans e3
          clear hkC hM4 hf4 hg4 HP HmB b0 b1 hbB
          go_wp2_with fail
          refine (sOut_any t kd o v wC).mono ?_
          rintro e w9 ⟨rfl, hb9⟩
          obtain ⟨dO, hdO⟩ : ∃ d, Hid ((outDoor ⟨t, kd, o, v⟩).getD (0, 0) = d) := ⟨_, rfl⟩
          obtain ⟨bO, hbO⟩ : ∃ b, Hid ((outDoor ⟨t, kd, o, v⟩).isSome = b) := ⟨_, rfl⟩
          rw [hdO.out, hbO.out, show pk dO = .agg #[.int .i64 dO.1, .int .i64 dO.2] from rfl]
          obtain ⟨w10, hw10⟩ : ∃ w10, w9.alloc (.cells #[.int .i64 dO.1, .int .i64 dO.2] 93) = w10 := ⟨_, rfl⟩
          have hb10 : Below wC.heap.size wC w10 := by rw [← hw10]; exact hb9.alloc hb9.size _
          have hm10 := hide (hmC.out.below hb10)
          have d0 : w10.cell? ⟨w9.heap.size, 0, none⟩ = some (.int .i64 dO.1) := by rw [← hw10]; simp
          have d1 : w10.cell? ⟨w9.heap.size, 1, none⟩ = some (.int .i64 dO.2) := by rw [← hw10]; simp
          obtain ⟨R4, hR4⟩ : ∃ R4 : Int × Int → Int → Int, (fun x u => if x = (0, t) then stampN L c k u else R3 x u) = R4 := ⟨_, rfl⟩
          have HR4 : Hid (∀ x u, R4 x u = if x = (0, t) then stampN L c k u else R3 x u) := fun x u => by rw [← hR4]
          rw [hR4] at hm10
          have hsn : Hid (∀ u, 0 ≤ stampN L c k u) := stampN_nonneg L c k
          have h4n : Hid (∀ x u, 0 ≤ R4 x u) := fun x u => by rw [HR4.out]; split; exact hsn.out u; exact h3n.out x u
          have hfin : Hid (∀ (f' : Int × Int → Option Value) (R' : Int × Int → Int → Int) (W : World), MidN S w F f' R' u9 (stampN L c k) W → FlowN L c (k + 1) R' → StampV (SN S w W) W u9 (stampN L c k) ∧ FlowW (SN S w W) W F L c (k + 1) ∧ w.grownBy W (some F)) := fun f' R' W hm hN => by
            obtain ⟨n', hM'⟩ := hm.map
            exact ⟨hm.stamp, ⟨SN.not hout hFl, fun x h => h.lt hlt hm.grew.size, f', n', R', hM', hm.flow, hN⟩, hm.grew⟩
          have hFC : F < w9.heap.size := by have := hb9.size; have := hmC.out.grew.size; omega
          clear hb9 hR4 hmC g0 g1 g2 g3 hb10
          cases bO with
          | false =>
            have hno : Hid (outDoor (L k) = none) := by rw [HX.out]; exact Option.not_isSome_iff_eq_none.1 (by rw [hbO.out]; simp)
            have hNf : Hid (FlowN L c (k + 1) R4) := HN.out.next (fun u => by rw [HX.out, HR4.out, if_pos rfl]) (fun d h => by rw [hno.out] at h; cases h) (fun d h _ u => by rw [HX.out] at h ⊢; rw [HR4.out, if_neg h, HR3.out])
            go_wp2_with fail
            go_ret
            obtain ⟨q1, q2, q3⟩ := hfin.out _ _ _ hm10.out hNf.out
            exact ⟨_, rfl, q1, q2, q3⟩
          | true =>
            have hyes : Hid (outDoor (L k) = some dO) := by
              rw [HX.out]
              cases h : outDoor ⟨t, kd, o, v⟩ with
              | none => have := hbO.out; rw [h] at this; cases this
              | some d => have := hdO.out; rw [h] at this; exact congrArg some this
            have hd0 : Hid (dO ≠ (0, t)) := outDoor_not0 hyes.out t
            obtain ⟨n10, hM10⟩ := hm10.out.map
            have hbd : Below w10.heap.size w10 w10.drew := (Below.refl _ _).drew
            have hmd := hide (hm10.out.below hbd)
            have hlk : Sem.run Tryz.prog (Instr.lookup 43 (.map (some F)) (.agg #[.int .i64 dO.1, .int .i64 dO.2]) false) w10.drew = .ok _ w10.drew := (hM10.same (w' := w10.drew) rfl).look flow_key Tryz.underlying43 (zero_stamp _) dO
            have HJ := hide (join_st (S := SN S w w10.drew) w10.drew (hmd.out.flow.at dO) hmd.out.stamp (fun x h => h.lt hlt hmd.out.grew.size) (h4n.out dO) hsn.out)
            have hpt : Hid (∀ (W : World) (r : Value), Below w10.drew.heap.size w10.drew W → StampV (fun x => SN S w w10.drew x ∨ (w10.drew.heap.size ≤ x ∧ x < W.heap.size)) W r (maxF (R4 dO) (stampN L c k)) →
                Calls Tryz.prog 41 #[.map (some F), .agg #[.int .i64 dO.1, .int .i64 dO.2], r] W fun e w' => e = .returned (.tuple #[]) ∧ W.grownBy w' (some F) ∧ StampV (SN S w w') w' u9 (stampN L c k) ∧ FlowW (SN S w w') w' F L c (k + 1) ∧ w.grownBy w' (some F)) := by
              intro W r hbW hst
              have hmW := hmd.out.below hbW
              obtain ⟨nW, hMW⟩ := hmW.map
              have hst' : StampV (SN S w W) W r (maxF (R4 dO) (stampN L c k)) := hst.mono fun x _ h => by
                have := hmd.out.grew.size
                exact h.elim (fun h => h.mono hbW.size) fun h => .inr ⟨by omega, h.2⟩
              refine (put_flow dO W hMW hst').mono ?_
              rintro e w' ⟨f5, n5, rfl, hM5, hf5, hg5⟩
              have hm5 := hmW.put hout hFl hlt hst' hM5 hf5 (fun h u => by have h1 := h u; have h2 := h4n.out dO u; have h3 := hsn.out u; unfold maxF at h1; omega) hg5
              refine ⟨rfl, hg5, hfin.out _ _ _ hm5 (HN.out.next (fun u => ?_) (fun d h u => ?_) (fun d h h' u => ?_))⟩
              · rw [HX.out]
                show (if ((0 : Int), t) = dO then maxF (R4 dO) (stampN L c k) u else R4 (0, t) u) = _
                rw [if_neg (fun e => hd0.out e.symm), HR4.out, if_pos rfl]
              · rw [hyes.out] at h; cases h
                show (if dO = dO then maxF (R4 dO) (stampN L c k) u else R4 dO u) = _
                rw [if_pos rfl, HX.out]
                unfold maxF
                rw [HR4.out, if_neg hd0.out, HR3.out]
              · rw [hyes.out] at h'
                rw [HX.out] at h ⊢
                have hne : d ≠ dO := fun e => h' (by rw [e])
                show (if d = dO then maxF (R4 dO) (stampN L c k) u else R4 d u) = _
                rw [if_neg hne, HR4.out, if_neg h, HR3.out]
            generalize (f4 dO).getD (.map none) = vO at hlk HJ
            clear hM10 hm10
            go_upto_region 12 with fail
            refine wp_region_held_drew (S := (fun w' => w'.cell? ⟨w9.heap.size, 0, none⟩ = some (.int .i64 dO.1) ∧ w'.cell? ⟨w9.heap.size, 1, none⟩ = some (.int .i64 dO.2))) (by kernel_rfl) ⟨d0, d1⟩ (fun hHeld => ?_)
            refine wpAnyH_take (i := 0) (v := ?_) rfl (by kernel_rfl) (by kernel_rfl) (by kernel_rfl) (fun _ _ _ h => h) (Or.inl ⟨by rfl, ?_⟩) hHeld ?_
            rotate_left
            · intro w9 hSw; (try dsimp only at hSw); go_simp; try with_reducible rfl
            simp only [Act.put]
            refine wpAnyH_take (i := 1) (v := ?_) rfl (by kernel_rfl) (by kernel_rfl) (by kernel_rfl) (fun _ _ _ h => h) (Or.inl ⟨by rfl, ?_⟩) hHeld ?_
            rotate_left
            · intro w9 hSw; (try dsimp only at hSw); go_simp; try with_reducible rfl
            simp only [Act.put]
            refine wpAnyH_take (i := 2) (v := ?_) rfl (by kernel_rfl) (by kernel_rfl) (by kernel_rfl) (fun _ _ _ h => h) (Or.inl ⟨by rfl, ?_⟩) hHeld ?_
            rotate_left
            · intro w9 hSw; (try dsimp only at hSw); go_simp; try with_reducible rfl
            simp only [Act.put]
            refine wpAnyH_take (i := 3) (v := ?_) rfl (by kernel_rfl) (by kernel_rfl) (by kernel_rfl) (fun _ _ _ h => h) (Or.inl ⟨by rfl, ?_⟩) hHeld ?_
            rotate_left
            · intro w9 hSw; (try dsimp only at hSw); go_simp; try with_reducible rfl
            simp only [Act.put]
            refine wpAnyH_take (i := 5) (v := ?_) rfl (by kernel_rfl) (by kernel_rfl) (by kernel_rfl) (fun _ _ _ h => h) (Or.inl ⟨by rfl, ?_⟩) hHeld ?_
            rotate_left
            · intro w9 hSw; (try dsimp only at hSw); go_simp; try with_reducible rfl
            simp only [Act.put]
            refine wpAnyH_ready (rs := [4]) (by kernel_rfl) (by simp) ?_
            refine AllReadyH.cons rfl (fun K hK => ?_) AllReadyH.nil
            go_simp
            refine hK.out _ _ hHeld (fun _ => ?_)
            clear hK K
            refine wpAnyH_ready (rs := [6]) (by kernel_rfl) (by simp) ?_
            refine AllReadyH.cons rfl (fun K hK => ?_) AllReadyH.nil
            go_simp
            go_at_call 38
            refine HJ.out.mono ?_
            rintro e w11 ⟨r, rfl, hst, hb11⟩
            have hl9 : w9.heap.size < w10.heap.size := by rw [← hw10]; simp
            have hHeld1 : w11.cell? ⟨w9.heap.size, 0, none⟩ = some (.int .i64 dO.1) ∧ w11.cell? ⟨w9.heap.size, 1, none⟩ = some (.int .i64 dO.2) := ⟨(hb11.cell (p := ⟨w9.heap.size, 0, none⟩) hl9).trans d0, (hb11.cell (p := ⟨w9.heap.size, 1, none⟩) hl9).trans d1⟩
            go_wp2_with fail
            refine hK.out _ _ hHeld1 (fun _ => ?_)
            clear hK K
            refine wpAnyH_ready (rs := [7]) (by kernel_rfl) (by simp) ?_
            refine AllReadyH.cons rfl (fun K hK => ?_) AllReadyH.nil
            go_simp
            go_at_call 41
            refine (hpt.out _ _ hb11 hst).mono ?_
            rintro e w12 ⟨rfl, hg12, q1, q2, q3⟩
            have hl11 := hb11.size
            have hHeld2 : w12.cell? ⟨w9.heap.size, 0, none⟩ = some (.int .i64 dO.1) ∧ w12.cell? ⟨w9.heap.size, 1, none⟩ = some (.int .i64 dO.2) := by
              have hbk : w12.heap[w9.heap.size]? = w11.heap[w9.heap.size]? := hg12.block _ (Nat.lt_of_lt_of_le hl9 hl11) (by simp; omega)
              exact ⟨(World.cell?_of_block (w := w11) (a := ⟨w9.heap.size, 0, none⟩) hbk).trans hHeld1.1, (World.cell?_of_block (w := w11) (a := ⟨w9.heap.size, 1, none⟩) hbk).trans hHeld1.2⟩
            go_wp2_with fail
            refine hK.out _ _ hHeld2 (fun _ => ?_)
            clear hK K
            refine wpAnyH_done (by kernel_rfl) ?_ _
            clear hHeld hHeld1 hHeld2
            go_wp2_with fail
            go_ret
            exact ⟨_, rfl, q1, q2, q3⟩
end Go.Proofs.YtbajfapfpcjenaaGreatDoor
