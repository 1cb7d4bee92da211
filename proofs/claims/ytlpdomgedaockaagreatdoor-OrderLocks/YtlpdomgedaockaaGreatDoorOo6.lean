import Derived.Test.YtlpdomgedaockaaGreatDoorOo4
import Derived.Test.YtlpdomgedaockaaGreatDoorOo5
import Derived.Maps.AppendAt
set_option linter.unusedVariables false
set_option linter.unusedSimpArgs false
namespace Go.Proofs.YtlpdomgedaockaaGreatDoor
open Go.RowKit Go.Shelf Go.Proofs.Ord
attribute [local go_sem] Oper.semAt_some
structure RF (l : List Ev) (p K Z : Nat) (W0 : World) (k : Nat) (Q : Int × Int → Nat → Prop) (O : Side) (W : World) : Prop where
  all0 : ∀ b, b < W0.heap.size → O b
  inside : ∀ b, O b → b < W.heap.size
  fixed : ∀ b, b < W0.heap.size → b ≠ Z + 1 + 1 → b ≠ Z + 1 + 1 + 1 → W.heap[b]? = W0.heap[b]?
  os : W.os = W0.os
  tape : W.tape = W0.tape
  output : W.output = W0.output
  size : W0.heap.size ≤ W.heap.size
  races : ∃ v, Boxed W (Z + 1 + 1) 36 v ∧ W.ownsRow Z 40 2 v (rf (ev l) p K k).length (prs (rf (ev l) p K k)) ∧ ∀ b, v.ownBlock = some b → O b ∧ W0.heap.size ≤ b
  map : ∃ f, Own2 K Z (Z + 1 + 1 + 1) Q f (fun _ => False) W ∧ ∀ d v b, f d = some v → v.ownBlock = some b → O b ∧ W0.heap.size ≤ b
theorem ownsRow_same {W W' : World} {B : Nat} {e : TypeId} {size : Nat} {v : Value} {n : Nat} {xs : List Value} (h : W.ownsRow B e size v n xs) (hb : ∀ b, v.ownBlock = some b → W'.heap[b]? = W.heap[b]?) : W'.ownsRow B e size v n xs := by
  refine ⟨h.1, ?_⟩
  rcases h.2 with hn | ⟨g, cap, cur, rfl, hB, hg, rest⟩
  · exact .inl hn
  · exact .inr ⟨g, cap, cur, rfl, hB, (hb g rfl).trans hg, rest⟩
theorem RF.stable {l : List Ev} {p K Z : Nat} {W0 : World} (hz : Z + 1 + 1 + 1 < W0.heap.size) {k : Nat} {Q : Int × Int → Nat → Prop} {O : Side} {W W' : World} (h : RF l p K Z W0 k Q O W) (hs : W.heap.size ≤ W'.heap.size) (ho : W'.os = W.os) (ht : W'.tape = W.tape) (hu : W'.output = W.output) (hsame : ∀ b, O b → W'.heap[b]? = W.heap[b]?) : RF l p K Z W0 k Q O W' := by
  obtain ⟨v, h1, h2, h3⟩ := h.races
  obtain ⟨f, h4, h5⟩ := h.map
  exact ⟨h.all0, fun b hb => Nat.lt_of_lt_of_le (h.inside b hb) hs, fun b hb h1 h2 => (hsame b (h.all0 b hb)).trans (h.fixed b hb h1 h2), ho.trans h.os, ht.trans h.tape, hu.trans h.output, Nat.le_trans h.size hs,
    ⟨v, (hsame _ (h.all0 _ (by omega))).trans h1, ownsRow_same h2 fun b hb => hsame b (h3 b hb).1, h3⟩,
    ⟨f, h4.kept hs (hsame _ (h.all0 _ hz)) (fun d v b hf hb => hsame b (h5 d v b hf hb).1) (fun _ _ h => h), h5⟩⟩
theorem cell_up {W : World} {a : Addr} {v : Value} (o : Obj) (h : W.cell? a = some v) : (W.alloc o).cell? a = some v := (World.cell?_of_block (w := W) (Below.heap_alloc _ _ _ (World.block_lt_of_cell? W a h))).trans h
theorem RF.iff {l : List Ev} {p K Z : Nat} {W0 : World} {k : Nat} {Q Q' : Int × Int → Nat → Prop} {O : Side} {W : World} (h : RF l p K Z W0 k Q O W) (hq : ∀ d i, i < K → (Q d i ↔ Q' d i)) : RF l p K Z W0 k Q' O W := by
  obtain ⟨f, h4, h5⟩ := h.map
  exact ⟨h.all0, h.inside, h.fixed, h.os, h.tape, h.output, h.size, h.races, ⟨f, h4.iff hq, h5⟩⟩
def wrs (p k : Nat) (ys : List Nat) : List Value := ys.flatMap fun (x : Nat) => [.int .i64 (wrap64 ((p : Int) + (x : Int))), .int .i64 ((p : Int) + (k : Int))]
def Inn (Z : Nat) (W2 : World) (vr : Value) (W' : World) (v' : Value) : Prop :=
  W'.os = W2.os ∧ W'.tape = W2.tape ∧ W'.output = W2.output ∧ W2.heap.size ≤ W'.heap.size ∧ (∀ b, b < W2.heap.size → b ≠ Z + 1 + 1 → vr.ownBlock ≠ some b → W'.heap[b]? = W2.heap[b]?) ∧ (v'.ownBlock = vr.ownBlock ∨ ∃ b, v'.ownBlock = some b ∧ W2.heap.size ≤ b)
theorem row_neO {W : World} {B B' : Nat} {e e' : TypeId} {size size' : Nat} {v v' : Value} {n n' : Nat} {xs xs' : List Value} (h : W.ownsRow B e size v n xs) (h' : W.ownsRow B' e' size' v' n' xs') (hne : e ≠ e') : ∀ b, v.ownBlock = some b → v'.ownBlock ≠ some b := by
  intro b hb hb'
  rcases h.2 with ⟨rfl, _⟩ | ⟨g, cap, cur, rfl, _, hg, _⟩
  · cases hb
  · rcases h'.2 with ⟨rfl, _⟩ | ⟨g', cap', cur', rfl, _, hg', _⟩
    · cases hb'
    · simp [Value.ownBlock] at hb hb'
      subst hb; subst hb'
      rw [hg] at hg'; cases hg'; exact hne rfl
theorem RF.widen {l : List Ev} {p K Z : Nat} {W0 : World} {k : Nat} {Q : Int × Int → Nat → Prop} {O O' : Side} {W : World} (h : RF l p K Z W0 k Q O W) (hO : ∀ b, O b → O' b) (hin : ∀ b, O' b → b < W.heap.size) : RF l p K Z W0 k Q O' W := by
  obtain ⟨v, h1, h2, h3⟩ := h.races
  obtain ⟨f, h4, h5⟩ := h.map
  exact ⟨fun b hb => hO b (h.all0 b hb), hin, h.fixed, h.os, h.tape, h.output, h.size, ⟨v, h1, h2, fun b hb => ⟨hO b (h3 b hb).1, (h3 b hb).2⟩⟩, ⟨f, h4, fun d v b hf hb => ⟨hO b (h5 d v b hf hb).1, (h5 d v b hf hb).2⟩⟩⟩
theorem wrs_eq (p k : Nat) (ys : List Nat) (hp : p ≤ 1048576) (hy : ∀ x, x ∈ ys → x ≤ 1048576) : wrs p k ys = prs (ys.map fun i => (p + i, p + k)) := by
  induction ys with
  | nil => rfl
  | cons x ys ih =>
    have h1 : wrap64 ((p : Int) + (x : Int)) = ((p + x : Nat) : Int) := by have := hy x List.mem_cons_self; unfold wrap64; omega
    have h2 := ih fun y h => hy y (List.mem_cons_of_mem _ h)
    simp only [wrs, prs, List.flatMap_cons, List.map_cons] at h2 ⊢
    rw [h1, h2]
    simp
theorem RF.put {l : List Ev} {p K Z : Nat} {W0 : World} (hz : Z + 1 + 1 + 1 + 1 < W0.heap.size) {k : Nat} {Q : Int × Int → Nat → Prop} {O : Side} {wr : World} (h : RF l p K Z W0 k Q O wr) (d : Int × Int) (n : Nat) (hn : n < K) :
    ∃ dv wsd, SetO Z wr dv wsd ∧ wsd.length ≤ K / 64 + 1 ∧ Z ≤ wr.heap.size ∧ (∀ b, dv.ownBlock = some b → O b ∧ W0.heap.size ≤ b) ∧
      ∀ W7, Below wr.heap.size wr W7 → (Instr.lookup 123 (.map (some (Z + 1 + 1 + 1))) (dk d) false).run Tryz.prog W7 = .ok dv W7 ∧
        ∀ w8 v8, SetO Z w8 v8 (withL wsd n) → W7.grownBy w8 dv.ownBlock → (v8.ownBlock = dv.ownBlock ∨ v8.ownBlock = some W7.heap.size) →
          ∃ W9, (Instr.mapUpdate 123 (.map (some (Z + 1 + 1 + 1))) (dk d) v8).run Tryz.prog w8 = .ok () W9 ∧ W7.heap.size ≤ W9.heap.size ∧
            (∀ b, b < W7.heap.size → dv.ownBlock ≠ some b → b ≠ Z + 1 + 1 + 1 → W9.heap[b]? = W7.heap[b]?) ∧
            RF l p K Z W0 k (fun d' i => if d' = d then (Q d i ∨ i = n) else Q d' i) (fun b => O b ∨ (wr.heap.size ≤ b ∧ b < W9.heap.size)) W9 ∧ Steps O wr (fun b => O b ∨ (wr.heap.size ≤ b ∧ b < W9.heap.size)) W9 := by
  obtain ⟨v, h1, h2, h3⟩ := h.races
  obtain ⟨f, h4, h5⟩ := h.map
  obtain ⟨wsd, hsd, hhd⟩ := h4.own d
  obtain ⟨dv, hdv⟩ : ∃ dv, (f d).getD (.slice none 0 0) = dv := ⟨_, rfl⟩
  rw [hdv] at hsd
  have hdb : ∀ b, dv.ownBlock = some b → (O b ∧ W0.heap.size ≤ b) ∧ b ≠ Z + 1 + 1 + 1 ∧ ∀ x vx, x ≠ d → f x = some vx → vx.ownBlock ≠ some b := fun b hb => by
    cases hf : f d with
    | none => rw [hf] at hdv; rw [← hdv] at hb; cases hb
    | some vf =>
      rw [hf] at hdv; obtain rfl : vf = dv := hdv
      exact ⟨h5 d vf b hf hb, h4.notMap hf hb, fun x vx hx hfx hbx => h4.apart x d vx vf b hfx hf hx hbx hb⟩
  refine ⟨dv, wsd, hsd, hhd.2, h4.base, fun b hb => (hdb b hb).1, fun W7 hb7 => ⟨?_, fun w8 v8 hS8 hg8 hb8 => ?_⟩⟩
  · rw [← hdv]; exact (h4.map.same (hb7.block _ h4.map.lt)).look access_key Tryz.underlying123 (zero_set _) d
  · have hz7 := hb7.size
    have hz8 := hg8.size
    have hMlt := h4.map.lt
    have hM8 : DMap w8 (Z + 1 + 1 + 1) f := h4.map.same ((hg8.block _ (by omega) (fun e => (hdb _ e.symm).2.1 rfl)).trans (hb7.block _ hMlt))
    obtain ⟨W9, hput, hM9, hg9, hz9⟩ := hM8.put access_key Tryz.underlying123 d v8
    have h79 : ∀ b, b < W7.heap.size → dv.ownBlock ≠ some b → b ≠ Z + 1 + 1 + 1 → W9.heap[b]? = W7.heap[b]? := fun b hb h6 h7 =>
      (hg9.block b (by omega) (fun e => h7 (by simpa using e))).trans (hg8.block b hb (fun e => h6 e.symm))
    have h9 : ∀ b, b < wr.heap.size → dv.ownBlock ≠ some b → b ≠ Z + 1 + 1 + 1 → W9.heap[b]? = wr.heap[b]? := fun b hb h6 h7 => (h79 b (by omega) h6 h7).trans (hb7.block b hb)
    have hv8 : ∀ b, v8.ownBlock = some b → (O b ∨ (wr.heap.size ≤ b ∧ b < W9.heap.size)) ∧ W0.heap.size ≤ b ∧ b ≠ Z + 1 + 1 + 1 ∧ ∀ x vx, x ≠ d → f x = some vx → vx.ownBlock ≠ some b := fun b hb => by
      have hlt8 := (hS8.lt b hb).2
      rcases hb8 with h6 | h6
      · rw [h6] at hb; obtain ⟨⟨h7, h8⟩, h10, h11⟩ := hdb b hb; exact ⟨.inl h7, h8, h10, h11⟩
      · rw [h6] at hb; cases hb
        have := h.size
        exact ⟨.inr ⟨by omega, by omega⟩, by omega, by omega, fun x vx _ hfx hbx => by obtain ⟨wx, h7, _⟩ := h4.some_ x vx hfx; have := (h7.lt _ hbx).2; omega⟩
    have hW0 := h.size
    have hdn : ∀ b, b < W0.heap.size → dv.ownBlock ≠ some b := fun b hb e => by have := (hdb b e).1.2; omega
    refine ⟨W9, hput, by omega, h79, ⟨fun b hb => .inl (h.all0 b hb), fun b hb => hb.elim (fun h6 => by have := h.inside b h6; omega) (fun h6 => h6.2), fun b hb h6 h7 => (h9 b (by omega) (hdn b hb) h7).trans (h.fixed b hb h6 h7),
      hg9.os.trans (hg8.os.trans (hb7.os.trans h.os)), hg9.tape.trans (hg8.tape.trans (hb7.tape.trans h.tape)), hg9.output.trans (hg8.output.trans (hb7.output.trans h.output)), by omega,
      ⟨v, (h9 _ (by omega) (hdn _ (by omega)) (by omega)).trans h1, ownsRow_same h2 fun b hb => h9 b (h2.lt b hb).2 (fun e => row_neO h2 hsd.1 (by decide) b hb e) (by have := (h3 b hb).2; omega), fun b hb => ⟨.inl (h3 b hb).1, (h3 b hb).2⟩⟩,
      ⟨putD f d v8, ?_, fun x vx b hfx hbx => ?_⟩⟩, ?_⟩
    · refine h4.replace d (by omega) hM9 (fun x vx b hx hfx hbx => h9 b (by obtain ⟨wx, h6, _⟩ := h4.some_ x vx hfx; exact (h6.lt b hbx).2) (fun e => (hdb b e).2.2 x vx hx hfx hbx) (h4.notMap hfx hbx))
        (hS8.kept fun b hb => hg9.block b (hS8.lt b hb).2 (fun e => (hv8 b hb).2.2.1 (by simpa using e))) (hhd.with hn) (fun x vx b hx hfx hbx e => (hv8 b e).2.2.2 x vx hx hfx hbx) (fun _ _ _ h => h) (fun _ _ h => h)
    · by_cases hx : x = d
      · subst hx; rw [putD_same] at hfx; cases hfx; exact ⟨(hv8 b hbx).1, (hv8 b hbx).2.1⟩
      · rw [putD_other v8 hx] at hfx; exact ⟨.inl (h5 x vx b hfx hbx).1, (h5 x vx b hfx hbx).2⟩
    · exact ⟨hg9.os.trans (hg8.os.trans hb7.os), hg9.tape.trans (hg8.tape.trans hb7.tape), hg9.output.trans (hg8.output.trans hb7.output), by omega, fun b hb => .inl hb, fun b hb => hb.imp id And.left,
        fun b hb hO => h9 b hb (fun e => hO (hdb b e).1.1) (fun e => hO (by rw [e]; exact h.all0 _ (by omega)))⟩
set_option maxRecDepth 100000 in
set_option maxHeartbeats 2000000 in
theorem racesFrom_any (b off n cap : Nat) (l : List Ev) (p : Nat) (w : World) (hlen : l.length = n) (hs : EvS w (some ⟨b, off, none⟩) l) (hc : n ≤ cap) (hm : cap ≤ maxLen) (hn : n ≤ 1048576) (hp : p < n) (hT : Tab w) :
    Calls Tryz.prog 16 #[.slice (some ⟨b, off, none⟩) n cap, .int .i64 p] w fun e w' => ∃ v, e = .returned v ∧ w'.ownsRow w.heap.size 40 2 v (rf (ev l) p 16384 (n - p)).length (prs (rf (ev l) p 16384 (n - p))) ∧ Below w.heap.size w w' := by
  have hcap : cap ≤ 9223372036854775807 := hm
  have hmm := @run_makeMap Tryz.prog
  refine (callsIn_wide (n := 8)).1 ?_
  refine callsIn_of_wp_marks Tryz.func16 rfl trivial ?_ rfl
  simp only [Tryz.ntmps16, List.size_toArray, List.length_cons, List.length_nil, Nat.reduceAdd, Nat.reduceSub, Array.replicate_succ, Array.replicate_zero, List.push_toArray, List.append_toArray, List.nil_append, List.cons_append]
  gi_wp2_with (refine ⟨trivial, ?_⟩; gi_at_call 27; refine (pasts_in _ _ _ _ _ _).mono ?_; rintro e w' ⟨rfl, rfl⟩)
  obtain ⟨Z, hZ⟩ : ∃ Z, w.heap.size = Z := ⟨_, rfl⟩
  obtain ⟨V1, hV1⟩ : ∃ V1, w.alloc (.cells #[.slice (some ⟨b, off, none⟩) n cap] 33) = V1 := ⟨_, rfl⟩
  obtain ⟨V2, hV2⟩ : ∃ V2, V1.alloc (.cells #[.int .i64 p] 3) = V2 := ⟨_, rfl⟩
  obtain ⟨V3, hV3⟩ : ∃ V3, V2.alloc (.cells #[.slice none 0 0] 36) = V3 := ⟨_, rfl⟩
  obtain ⟨V4, hV4⟩ : ∃ V4, V3.alloc (.map #[] 0) = V4 := ⟨_, rfl⟩
  obtain ⟨V5, hV5⟩ : ∃ V5, V4.alloc (.cells #[.map (some (Z + 1 + 1 + 1))] 123) = V5 := ⟨_, rfl⟩
  obtain ⟨V6, hV6⟩ : ∃ V6, V5.alloc (.cells #[.slice (some ⟨b, off + p * 4, none⟩) (n - p) (cap - p)] 33) = V6 := ⟨_, rfl⟩
  obtain ⟨W0, hW0⟩ : ∃ W0, V6.alloc (.cells #[.int .i64 16384] 3) = W0 := ⟨_, rfl⟩
  have s1 : V1.heap.size = Z + 1 := by rw [← hV1, World.size_alloc, hZ]
  have s2 : V2.heap.size = Z + 1 + 1 := by rw [← hV2, World.size_alloc, s1]
  have s3 : V3.heap.size = Z + 1 + 1 + 1 := by rw [← hV3, World.size_alloc, s2]
  have s4 : V4.heap.size = Z + 1 + 1 + 1 + 1 := by rw [← hV4, World.size_alloc, s3]
  have s5 : V5.heap.size = Z + 1 + 1 + 1 + 1 + 1 := by rw [← hV5, World.size_alloc, s4]
  have s6 : V6.heap.size = Z + 1 + 1 + 1 + 1 + 1 + 1 := by rw [← hV6, World.size_alloc, s5]
  have s7 : W0.heap.size = Z + 1 + 1 + 1 + 1 + 1 + 1 + 1 := by rw [← hW0, World.size_alloc, s6]
  have hBW : Below w.heap.size w W0 := by
    rw [← hW0, ← hV6, ← hV5, ← hV4, ← hV3, ← hV2, ← hV1]
    exact (((((((Below.refl _ w).alloc (Nat.le_refl _) _).alloc (by simp) _).alloc (by simp; omega) _).alloc (by simp; omega) _).alloc (by simp; omega) _).alloc (by simp; omega) _).alloc (by simp; omega) _
  have b0 : Boxed W0 Z 33 (.slice (some ⟨b, off, none⟩) n cap) := by
    rw [← hW0, ← hV6, ← hV5, ← hV4, ← hV3, ← hV2, ← hV1, ← hZ]; exact ((((((Boxed.new w _ _).alloc _).alloc _).alloc _).alloc _).alloc _).alloc _
  have b1 : Boxed W0 (Z + 1) 3 (.int .i64 p) := by
    rw [← hW0, ← hV6, ← hV5, ← hV4, ← hV3, ← hV2, ← s1]; exact (((((Boxed.new V1 _ _).alloc _).alloc _).alloc _).alloc _).alloc _
  have b2 : Boxed W0 (Z + 1 + 1) 36 (.slice none 0 0) := by
    rw [← hW0, ← hV6, ← hV5, ← hV4, ← hV3, ← s2]; exact ((((Boxed.new V2 _ _).alloc _).alloc _).alloc _).alloc _
  have b3 : DMap W0 (Z + 1 + 1 + 1) (fun _ => none) := by
    have := DMap.made V3
    rw [hV4, s3] at this
    refine this.same ?_
    rw [← hW0, ← hV6, ← hV5]
    exact (Below.heap_alloc _ _ _ (by rw [World.size_alloc, World.size_alloc, s4]; omega)).trans ((Below.heap_alloc _ _ _ (by rw [World.size_alloc, s4]; omega)).trans (Below.heap_alloc _ _ _ (by omega)))
  have b4 : Boxed W0 (Z + 1 + 1 + 1 + 1) 123 (.map (some (Z + 1 + 1 + 1))) := by
    rw [← hW0, ← hV6, ← hV5, ← s4]; exact ((Boxed.new V4 _ _).alloc _).alloc _
  have b5 : Boxed W0 (Z + 1 + 1 + 1 + 1 + 1) 33 (.slice (some ⟨b, off + p * 4, none⟩) (n - p) (cap - p)) := by
    rw [← hW0, ← hV6, ← s5]; exact (Boxed.new V5 _ _).alloc _
  have b6 : Boxed W0 (Z + 1 + 1 + 1 + 1 + 1 + 1) 3 (.int .i64 ((16384 : Nat) : Int)) := by
    rw [← hW0, ← s6]; exact Boxed.new V6 _ _
  have hsub : ((l.drop p).take (n - p)).length = n - p := by rw [List.length_take, List.length_drop]; omega
  have hes := (hs.below hBW).sub p (n - p)
  have hT0 : Tab W0 := fun j hj => (hBW.cell (p := ⟨0, j, none⟩) (World.block_lt_of_cell? _ _ (hT j hj))).trans (hT j hj)
  rw [hZ, hV1, hV2, hV3, hV4, hV5, hV6, hW0]
  clear hV1 hV2 hV3 hV4 hV5 hV6 hW0 s1 s2 s3 s4 s5 s6 hmm
  have hz3 : Z + 1 + 1 + 1 < W0.heap.size := by omega
  refine wpIn_rangeFunc_frame rfl (by decide) (gf := 56) (lb := #[.pointer (some ⟨Z + 1 + 1 + 1 + 1 + 1, 0, none⟩), .pointer (some ⟨Z + 1 + 1 + 1 + 1 + 1 + 1, 0, none⟩)]) rfl trivial (enters_of Tryz.func56 (by kernel_rfl) rfl)
    (SeqF.any _ (pasts_seq (Z + 1 + 1 + 1 + 1 + 1) (Z + 1 + 1 + 1 + 1 + 1 + 1) (n - p) 16384 (some ⟨b, off + p * 4, none⟩) (cap - p) ((l.drop p).take (n - p)) W0 (by omega) (by omega) hsub b5 b6 hes)) (Below.refl _ _) (fun _ => rfl) pastE_steps pastE_anti
    (fun pre O W => RF l p 16384 Z W0 pre.length (fun d i => i < pre.length ∧ d ∈ rivals (ev l (p + i))) O W)
    (fun _ _ _ _ => False)
    (fun pre O W W' h hs ho ht hu hsame => h.stable hz3 hs ho ht hu hsame)
    (fun _ _ _ _ _ h _ _ _ _ _ => h)
    (fun pre O W h => h.inside) (fun _ _ _ _ h => h.elim)
    (fun pre O W h b' hb' => by
      have hlt := pastBase_lt b5.lt b6.lt hsub hes b' hb'
      refine ⟨h.all0 b' hlt, h.fixed b' hlt ?_ ?_⟩
      all_goals
        rintro rfl
        rcases hb' with h1 | h1 | ⟨ad, h1, _, h2⟩
        · omega
        · omega
        · cases h1
          obtain ⟨b9, off9, e9, hlt9, _⟩ := hs p (by omega)
          cases e9
          simp only at h2
          omega)
    (pastBase_lt b5.lt b6.lt hsub hes)
    ⟨fun b' hb' => hb', fun b' hb' => hb', fun b' _ _ _ => rfl, rfl, rfl, rfl, Nat.le_refl _, ⟨_, b2, by simpa [rf, prs] using World.ownsRow_nil W0 Z 40 2, fun b' hb' => by cases hb'⟩,
      ⟨fun _ => none, ⟨b3, by omega, (fun d v h => by cases h), (fun d _ i _ h => absurd h.1 (Nat.not_lt_zero _)), (fun d d' v v' b h => by cases h), (fun h => h), (fun d v b h => by cases h)⟩, fun d v b h => by cases h⟩⟩
    (fun _ x a' O W => ∃ Bj, Boxed W Bj 3 (.int .i64 x.1) ∧ O Bj ∧ W0.heap.size ≤ Bj ∧ a' = { tmps := #[.slice (some ⟨b, off, none⟩) n cap, .int .i64 p, .pointer (some ⟨Z, 0, none⟩), .pointer (some ⟨Z + 1, 0, none⟩), .slice none 0 0, .pointer (some ⟨Z + 1 + 1, 0, none⟩), .pointer (some ⟨Z + 1 + 1 + 1 + 1, 0, none⟩), .pointer (some ⟨Bj, 0, none⟩), x.2, undef, undef, undef, undef, .map (some (Z + 1 + 1 + 1)), .slice (some ⟨b, off, none⟩) n cap, .int .i64 p, .slice (some ⟨b, off + p * 4, none⟩) (n - p) (cap - p), .func (.func 56) #[] #[.pointer (some ⟨Z + 1 + 1 + 1 + 1 + 1, 0, none⟩), .pointer (some ⟨Z + 1 + 1 + 1 + 1 + 1 + 1, 0, none⟩)], .int .i64 x.1, x.2, undef, undef, undef, undef, undef, undef, undef, undef, undef, undef, undef, undef, undef, undef, undef, undef, undef, undef, undef, undef, undef, undef, undef, undef, undef, undef, undef, undef, undef, undef, undef, undef, undef, undef, undef, undef, undef, undef, undef, undef, undef, undef, undef, undef], defers := [] })
    (fun _ x a' _ O W W' h hs ho ht hu hsame => by obtain ⟨Bj, h1, h2, h3, h4⟩ := h; exact ⟨Bj, (hsame Bj h2).trans h1, h2, h3, h4⟩) ?assign ?body ?done ?stop
  case assign =>
    intro l' pre x O W K hi hE hK
    gi_wp2
    refine hK _ (fun b => O b ∨ (W.heap.size ≤ b ∧ b < (W.alloc (.cells #[.int .i64 x.1] 3)).heap.size)) _ (Steps.grown (World.grownBy_alloc W _ none) (fun b e => by cases e)) ?_ ⟨W.heap.size, Boxed.new W _ _, .inr ⟨Nat.le_refl _, by simp⟩, hi.size, rfl⟩
    exact (hi.stable hz3 (W' := W.alloc (.cells #[.int .i64 x.1] 3)) (by simp) rfl rfl rfl (fun b hb => Below.heap_alloc _ _ _ (hi.inside b hb))).widen (fun b hb => .inl hb) (fun b hb => hb.elim (fun h => by have := hi.inside b h; simp; omega) (fun h => h.2))
  case body =>
    rintro l' pre ⟨k, v⟩ a' O W ⟨r, hr⟩ hnl hi ⟨hk, hkn, ⟨B, ws, hset, hh⟩, hnO⟩ ⟨Bj, hj, hOj, hjz, rfl⟩
    simp only at hk
    subst hk
    obtain ⟨k, hk⟩ : ∃ k, pre.length = k := ⟨_, rfl⟩
    rw [hk] at hkn hh hj hi
    have hpl : ∀ y, (pre ++ [y]).length = k + 1 := fun y => by simp [hk]
    obtain ⟨vr, hvr, hrow, hvrO⟩ := hi.races
    obtain ⟨f, hO2, hfO⟩ := hi.map
    have hcZ : W.cell? ⟨Z, 0, none⟩ = some (.slice (some ⟨b, off, none⟩) n cap) := (World.cell?_of_block (w := W0) (a := ⟨Z, 0, none⟩) (hi.fixed Z (by omega) (by omega) (by omega))).trans b0.cell
    have hcZ1 : W.cell? ⟨Z + 1, 0, none⟩ = some (.int .i64 p) := (World.cell?_of_block (w := W0) (a := ⟨Z + 1, 0, none⟩) (hi.fixed (Z + 1) (by omega) (by omega) (by omega))).trans b1.cell
    have hcZ4 : W.cell? ⟨Z + 1 + 1 + 1 + 1, 0, none⟩ = some (.map (some (Z + 1 + 1 + 1))) := (World.cell?_of_block (w := W0) (a := ⟨Z + 1 + 1 + 1 + 1, 0, none⟩) (hi.fixed (Z + 1 + 1 + 1 + 1) (by omega) (by omega) (by omega))).trans b4.cell
    have hjc := hj.cell
    obtain ⟨b9, off9, e9, hlt9, hev9⟩ := (hs.below hBW) (p + k) (by omega)
    cases e9
    obtain ⟨bz, offz, ez, hltz, _⟩ := hs (p + k) (by omega)
    cases ez
    obtain ⟨t, kd, o, vv, hevk, he1, he2, he3, he4⟩ : ∃ t kd o vv, Hid (ev l (p + k) = ⟨t, kd, o, vv⟩) ∧ W.cell? ⟨b, off + (p + k) * 4, none⟩ = some (.int .i64 t) ∧ W.cell? ⟨b, off + (p + k) * 4 + 1, none⟩ = some (.int .i64 kd) ∧ W.cell? ⟨b, off + (p + k) * 4 + 2, none⟩ = some (.int .i64 o) ∧ W.cell? ⟨b, off + (p + k) * 4 + 3, none⟩ = some (.int .i64 vv) := by
      have hcc : ∀ j, W.cell? ⟨b, j, none⟩ = W0.cell? ⟨b, j, none⟩ := fun j => World.cell?_of_block (w := W0) (a := ⟨b, j, none⟩) (hi.fixed b hlt9 (by omega) (by omega))
      exact ⟨_, _, _, _, rfl, (hcc _).trans hev9.1, (hcc _).trans hev9.2.1, (hcc _).trans hev9.2.2.1, (hcc _).trans hev9.2.2.2⟩
    have hcZ4a := cell_up (.cells #[.int .i64 t, .int .i64 kd, .int .i64 o, .int .i64 vv] 49) hcZ4
    obtain ⟨s, hsv, hhs⟩ := hO2.own (kd, o)
    obtain ⟨sv, hsve⟩ : ∃ sv, Hid ((f (kd, o)).getD (.slice none 0 0) = sv) := ⟨_, rfl⟩
    rw [hsve.out] at hsv
    have hsvO : Hid (∀ b', sv.ownBlock = some b' → O b' ∧ W0.heap.size ≤ b') := fun b' hb' => by
      cases hf : f (kd, o) with
      | none => have := hsve.out; rw [hf] at this; rw [← this] at hb'; cases hb'
      | some vf => have := hsve.out; rw [hf] at this; obtain rfl : vf = sv := this; exact hfO _ _ b' hf hb'
    have hMW : Hid (DMap (W.alloc (.cells #[.int .i64 t, .int .i64 kd, .int .i64 o, .int .i64 vv] 49)) (Z + 1 + 1 + 1) f) := hO2.map.same (Below.heap_alloc _ _ _ hO2.map.lt)
    have hlook : Sem.run Tryz.prog (Instr.lookup 123 (.map (some (Z + 1 + 1 + 1))) (.agg #[.int .i64 kd, .int .i64 o]) false) (W.alloc (.cells #[.int .i64 t, .int .i64 kd, .int .i64 o, .int .i64 vv] 49)) = .ok sv (W.alloc (.cells #[.int .i64 t, .int .i64 kd, .int .i64 o, .int .i64 vv] 49)) := by
      rw [← hsve.out]; exact hMW.out.look access_key Tryz.underlying123 (zero_set _) (kd, o)
    obtain ⟨a1, cs, rfl, hcs, -, hsR⟩ := hsv.parts
    obtain ⟨ap, cp, rfl, hcp, -, hpR⟩ := hset.parts
    have hs7 := hhs.2
    have hw7 := hh.2
    gi_wp2_with (refine ⟨trivial, ?_⟩; gi_at_call 39; refine (CallsIn.inRound l' (without_in _ _ _ _ _ _ _ _)).mono ?_; rintro e w' ⟨rfl, rfl⟩)
    obtain ⟨i0, hi0, hz0, hz1, hz2⟩ := info_parts Tryz.infoP
    obtain ⟨W2, hW2⟩ : ∃ W2, ((W.alloc (.cells #[.int .i64 t, .int .i64 kd, .int .i64 o, .int .i64 vv] 49)).alloc (.cells #[.slice a1 s.length cs] 79)).alloc (.cells #[.slice ap ws.length cp] 79) = W2 := ⟨_, rfl⟩
    have hB2 : Below W.heap.size W W2 := by rw [← hW2]; exact (((Below.refl _ _).alloc (Nat.le_refl _) _).alloc (by simp) _).alloc (by simp; omega) _
    have hz2s : W2.heap.size = W.heap.size + 3 := by rw [← hW2]; simp
    have hBs : Boxed W2 (W.heap.size + 1) 79 (.slice a1 s.length cs) := by
      rw [← hW2]; have := Boxed.new (W.alloc (.cells #[.int .i64 t, .int .i64 kd, .int .i64 o, .int .i64 vv] 49)) 79 (.slice a1 s.length cs); rw [World.size_alloc] at this; exact this.alloc _
    have hBo : Boxed W2 (W.heap.size + 1 + 1) 79 (.slice ap ws.length cp) := by
      rw [← hW2]; have := Boxed.new ((W.alloc (.cells #[.int .i64 t, .int .i64 kd, .int .i64 o, .int .i64 vv] 49)).alloc (.cells #[.slice a1 s.length cs] 79)) 79 (.slice ap ws.length cp); rw [World.size_alloc, World.size_alloc] at this; exact this
    have h0lt : 0 < Z := by rw [← hZ]; exact World.block_lt_of_cell? _ ⟨0, 0, none⟩ (hT 0 (by decide))
    have hTW : Tab W := fun j hj => (World.cell?_of_block (w := W0) (a := ⟨0, j, none⟩) (hi.fixed 0 (World.block_lt_of_cell? _ _ (hT0 j hj)) (by omega) (by omega))).trans (hT0 j hj)
    have h0W : 0 < W.heap.size := by have := hi.size; omega
    obtain ⟨Kb, hKbe⟩ : ∃ Kb : Side, Kb = fun b' => b' = W.heap.size + 1 ∨ b' = W.heap.size + 1 + 1 ∨ Value.ownBlock (.slice a1 s.length cs) = some b' ∨ Value.ownBlock (.slice ap ws.length cp) = some b' ∨ b' = 0 := ⟨_, rfl⟩
    have hKblt : ∀ b', Kb b' → b' < W2.heap.size := by
      rw [hKbe]
      rintro b' (rfl | rfl | h | h | rfl)
      · omega
      · omega
      · have := (hsv.lt b' h).2; omega
      · have := (hset.lt b' h).2; omega
      · omega
    have hKbv : ∀ b', Kb b' → b' ≠ Z + 1 + 1 ∧ vr.ownBlock ≠ some b' := by
      have hvlt : ∀ b', vr.ownBlock = some b' → b' < W.heap.size := fun b' hb' => hi.inside b' (hvrO b' hb').1
      rw [hKbe]
      have hWsz := hi.size
      rintro b' (rfl | rfl | h | h | rfl)
      · exact ⟨by omega, fun e => by have := hvlt _ e; omega⟩
      · exact ⟨by omega, fun e => by have := hvlt _ e; omega⟩
      · exact ⟨by have := (hsvO.out b' h).2; omega, row_neO hsv.1 hrow (by decide) b' h⟩
      · exact ⟨fun e => hnO b' h (hi.all0 b' (by omega)), fun e => hnO b' h (hvrO b' e).1⟩
      · exact ⟨by omega, fun e => by have := (hvrO 0 e).2; omega⟩
    have hvr2 : Boxed W2 (Z + 1 + 1) 36 vr := (hB2.block _ hvr.lt).trans hvr
    have hrow2 := ownsRow_same (W' := W2) hrow fun b' hb' => hB2.block b' (hi.inside b' (hvrO b' hb').1)
    rw [hW2]
    refine wpIn_rangeFunc_ownN (l₀ := l') (r₀ := r) rfl ((hB2.block l' (Array.getElem?_eq_some_iff.1 hr).1).trans hr) (by decide) (gf := 89) (lb := #[.pointer (some ⟨W.heap.size + 1, 0, none⟩), .pointer (some ⟨W.heap.size + 1 + 1, 0, none⟩)]) rfl trivial (enters_of Tryz.func89 (by kernel_rfl) rfl)
      ((stops_any _ (without_stops (W.heap.size + 1) (W.heap.size + 1 + 1) a1 cs s ap cp ws Kb W2 hKblt hBs.cell hBo.cell (by rw [hKbe]; exact .inl rfl) (by rw [hKbe]; exact .inr (.inl rfl)) (fun b' hb' => by rw [hKbe]; exact .inr (.inr (.inl (by rw [hb']; rfl)))) (fun b' hb' => by rw [hKbe]; exact .inr (.inr (.inr (.inl (by rw [hb']; rfl))))) (by rw [hKbe]; exact .inr (.inr (.inr (.inr rfl))))
        (hsR.kept hB2.size fun b' hb' => hB2.block _ (hsv.lt _ (by rw [hb']; rfl)).2) (hpR.kept hB2.size fun b' hb' => hB2.block _ (hset.lt _ (by rw [hb']; rfl)).2) hsv.2 (by omega) (by omega) (fun j hj => (hB2.cell (p := ⟨0, j, none⟩) h0W).trans (hTW j hj)))).inRound l') KeptOn.trans
      (fun X l2 o1 o2 hl2 h2 _ _ => fun b' hb' => World.putObj_heap_other (by have := hKblt b' hb'; omega)) (Below.refl _ _) (fun _ => rfl)
      (fun ys X => ∃ v', Boxed X (Z + 1 + 1) 36 v' ∧ X.ownsRow Z 40 2 v' ((rf (ev l) p 16384 k).length + ys.length) (prs (rf (ev l) p 16384 k) ++ wrs p k ys) ∧ Inn Z W2 vr X v')
      (fun _ _ _ => False)
      (by
        rintro ys A B row ⟨v', h1, h2, h3⟩ hg hrr
        refine ⟨v', (hg.block _ h1.lt (fun e => ?_)).trans h1, ownsRow_same h2 fun b' hb' => hg.block b' (h2.lt b' hb').2 (fun e => ?_), hg.os.trans h3.1, hg.tape.trans h3.2.1, hg.output.trans h3.2.2.1, Nat.le_trans h3.2.2.2.1 hg.size, fun b' hb' h4 h5 => (hg.block b' (Nat.lt_of_lt_of_le hb' h3.2.2.2.1) (fun e => ?_)).trans (h3.2.2.2.2.1 b' hb' h4 h5), h3.2.2.2.2.2⟩
        · have := (hrr _ e.symm).1; have := hvr2.lt; omega
        · obtain ⟨_, ob, h4, h5⟩ := hrr b' e.symm
          rcases h2.2 with ⟨rfl, _⟩ | ⟨g, cap, cur, rfl, _, hgc, _⟩
          · cases hb'
          · simp [Value.ownBlock] at hb'; subst hb'; rw [hgc] at h4; cases h4; cases h5
        · have := (hrr b' e.symm).1; omega)
      (fun _ _ _ _ _ h _ _ => h)
      ⟨vr, hvr2, by simpa [wrs] using hrow2, rfl, rfl, rfl, Nat.le_refl _, fun b' _ _ _ => rfl, .inl rfl⟩
      (fun x a' X => a' = { tmps := #[.slice (some ⟨b, off, none⟩) n cap, .int .i64 p, .pointer (some ⟨Z, 0, none⟩), .pointer (some ⟨Z + 1, 0, none⟩), .slice none 0 0, .pointer (some ⟨Z + 1 + 1, 0, none⟩), .pointer (some ⟨Z + 1 + 1 + 1 + 1, 0, none⟩), .pointer (some ⟨Bj, 0, none⟩), .slice ap ws.length cp, .pointer (some ⟨W.heap.size, 0, none⟩), .int .i64 (x : Nat), undef, undef, .map (some (Z + 1 + 1 + 1)), .slice (some ⟨b, off, none⟩) n cap, .int .i64 p, .slice (some ⟨b, off + p * 4, none⟩) (n - p) (cap - p), .func (.func 56) #[] #[.pointer (some ⟨Z + 1 + 1 + 1 + 1 + 1, 0, none⟩), .pointer (some ⟨Z + 1 + 1 + 1 + 1 + 1 + 1, 0, none⟩)], .int .i64 k, .slice ap ws.length cp, .slice (some ⟨b, off, none⟩) n cap, .int .i64 p, .int .i64 k, .int .i64 (p + k), .pointer (some ⟨b, off + (p + k) * 4, none⟩), .agg #[.int .i64 t, .int .i64 kd, .int .i64 o, .int .i64 vv], .map (some (Z + 1 + 1 + 1)), .pointer (some ⟨W.heap.size, 1, none⟩), .int .i64 kd, .pointer (some ⟨W.heap.size, 2, none⟩), .int .i64 o, .agg #[.int .i64 kd, .int .i64 o], .slice a1 s.length cs, .slice ap ws.length cp, .func (.func 89) #[] #[.pointer (some ⟨W.heap.size + 1, 0, none⟩), .pointer (some ⟨W.heap.size + 1 + 1, 0, none⟩)], .int .i64 (x : Nat), undef, undef, undef, undef, undef, undef, undef, undef, undef, undef, undef, undef, undef, undef, undef, undef, undef, undef, undef, undef, undef, undef, undef, undef, undef, undef, undef, undef], defers := [] })
      (fun _ _ _ _ _ _ h _ _ => h) ?assign2 ?body2 ?done2 ?stop2
    case assign2 =>
      intro l2 ys x X K hiX hK
      gi_wp2
      exact hK _ X (KeepsFrom.refl _ _) (KeptOn.refl _ _) hiX rfl
    case body2 =>
      rintro l2 ys x a' X hl2 ⟨r2, hr2⟩ ⟨v', hv', hrow', hinn⟩ rfl hlt2
      have hcR := hv'.cell
      have hvno : ∀ b', b' < W0.heap.size → vr.ownBlock ≠ some b' := fun b' h e => by have := (hvrO b' e).2; omega
      have hWsz := hi.size
      have hX1 : X.cell? ⟨Z + 1, 0, none⟩ = some (.int .i64 p) := (World.cell?_of_block (w := W) (a := ⟨Z + 1, 0, none⟩) ((hinn.2.2.2.2.1 (Z + 1) (by omega) (by omega) (hvno _ (by omega))).trans (hB2.block _ (by omega)))).trans hcZ1
      have hXj : X.cell? ⟨Bj, 0, none⟩ = some (.int .i64 k) := (World.cell?_of_block (w := W) (a := ⟨Bj, 0, none⟩) ((hinn.2.2.2.2.1 Bj (by have := hj.lt; omega) (by omega) (fun e => hj.not_row (by decide) hrow e.symm)).trans (hB2.block _ hj.lt))).trans hjc
      obtain ⟨m, hm1⟩ : ∃ m, (rf (ev l) p 16384 k).length + ys.length = m := ⟨_, rfl⟩
      have hmb : m ≤ 1099511627776 + 16448 := by
        have h1 := rf_len (ev l) p 16384 k
        have h2 : k * k ≤ 1048576 * 1048576 := Nat.mul_le_mul (by omega) (by omega)
        have h3 : (allW s ws s.length).length ≤ 64 * s.length := by rw [allW_filter]; exact Nat.le_trans (List.length_filter_le _ _) (by simp)
        omega
      rw [hm1] at hrow'
      have hfin : Hid (prs (rf (ev l) p 16384 k) ++ wrs p k (ys ++ [x]) = prs (rf (ev l) p 16384 k) ++ wrs p k ys ++ [.int .i64 (wrap64 ((p : Int) + (x : Int))), .int .i64 ((p : Int) + (k : Int))] ∧ (rf (ev l) p 16384 k).length + (ys ++ [x]).length = m + 1) := by
        constructor
        · simp [wrs]
        · rw [List.length_append, ← hm1]; rfl
      have Hm1 := hide' hm1
      clear hm1
      gi_wp2_with (gi_at_builtin; refine wpListIn_append_blk _ rfl _ _ 36 rfl Z 40 i0 (.agg #[.int .i64 0, .int .i64 0]) 2 16 Tryz.underlying36 hi0 hz0 hz1 hz2 rfl _ _ _ rfl (hrow'.alloc _) ⟨X.heap.size, 0, none⟩ 1 1 [.int .i64 (wrap64 ((p : Int) + (x : Int))), .int .i64 ((p : Int) + (k : Int))] rfl (by decide) rfl (door_two_new _ _ _ _) (by simp [Value.oneCell']) (by unfold maxLen; omega) (by omega) (by have := hinn.2.2.2.1; simp; omega) ?_; intro v'' w1 hown' hgrow hblk; obtain ⟨g, cg, rfl⟩ := ownsRow_succ hown'; have hv1 := (hv'.alloc _).kept hgrow (hv'.not_row (by decide) hrow'); have hc1 := hv1.cell; have hf1 := hv1.frozen)
      have hsz1 : X.heap.size ≤ w1.heap.size := by have := hgrow.size; simp at this; omega
      have hv'n : ∀ b', b' < W2.heap.size → vr.ownBlock ≠ some b' → v'.ownBlock ≠ some b' := fun b' h1 h2 e => by
        rcases hinn.2.2.2.2.2 with h3 | ⟨b2, h3, h4⟩
        · exact h2 (h3 ▸ e)
        · rw [h3] at e; cases e; omega
      have hch : ∀ u b', b' < X.heap.size → b' ≠ Z + 1 + 1 → v'.ownBlock ≠ some b' → (w1.setCell ⟨Z + 1 + 1, 0, none⟩ u).heap[b']? = X.heap[b']? := fun u b' h1 h2 h3 =>
        (Below.heap_setCell _ _ _ _ h2).trans ((hgrow.block b' (by simp; omega) (fun e => h3 e.symm)).trans (Below.heap_alloc _ _ _ h1))
      refine ⟨⟨by simpa [World.setCell] using hsz1, fun b' ob hB hb hcl => ?_⟩, fun b' hb' => ?_, ⟨_, hv1.set _, ?_, ?_⟩⟩
      · refine (hch _ b' (Array.getElem?_eq_some_iff.1 hb).1 (by have := hvr2.lt; omega) (fun e => ?_)).trans hb
        rcases hrow'.2 with ⟨rfl, _⟩ | ⟨g', cap', cur, rfl, _, hgc, _⟩
        · cases e
        · simp [Value.ownBlock] at e; subst e; rw [hgc] at hb; cases hb; cases hcl
      · exact hch _ b' (by have := hKblt b' hb'; have := hinn.2.2.2.1; omega) (hKbv b' hb').1 (hv'n b' (hKblt b' hb') (hKbv b' hb').2)
      · rw [hfin.out.1, hfin.out.2]
        exact ownsRow_same hown' fun b' hb' => Below.heap_setCell _ _ _ _ (fun e => hv1.not_row (by decide) hown' (by rw [hb', e]))
      · refine ⟨hgrow.os.trans hinn.1, hgrow.tape.trans hinn.2.1, hgrow.output.trans hinn.2.2.1, by have := hinn.2.2.2.1; simp [World.setCell]; omega, fun b' h1 h2 h3 => (hch _ b' (by have := hinn.2.2.2.1; omega) h2 (hv'n b' h1 h3)).trans (hinn.2.2.2.2.1 b' h1 h2 h3), ?_⟩
        rcases hblk with h1 | h1
        · rw [h1]; exact hinn.2.2.2.2.2
        · exact .inr ⟨_, h1, by have := hinn.2.2.2.1; simp; omega⟩
    case done2 =>
      rintro ys X rfl ⟨v', hv', hrow', hinn⟩
      have hWsz := hi.size
      have hXsz := hinn.2.2.2.1
      have hrw : wrs p k (allW s ws s.length) = prs (rfOne (ev l) p 16384 k) := by
        rw [wrs_eq p k _ (by omega) (fun x hx => by rw [allW_filter] at hx; have := List.mem_range.1 (List.mem_filter.1 hx).1; omega)]
        congr 1
        refine rivals_without (hhs.iff fun i _ => by rw [hevk.out]) (hh.iff fun i _ => ?_)
        show bef (ev ((l.drop p).take (n - p))) i k = true ↔ _
        rw [bef_sub _ _ _ _ _ hkn, Nat.add_comm i p, Nat.add_comm k p]
      have hlen1 : (rf (ev l) p 16384 k).length + (allW s ws s.length).length = (rf (ev l) p 16384 (k + 1)).length := by
        have h1 : (prs (rfOne (ev l) p 16384 k)).length = (wrs p k (allW s ws s.length)).length := by rw [hrw]
        have h2 : (wrs p k (allW s ws s.length)).length = (allW s ws s.length).length * 2 := by
          generalize allW s ws s.length = zs
          induction zs with
          | nil => rfl
          | cons y ys ih => simp only [wrs, List.flatMap_cons, List.length_append, List.length_cons, List.length_nil] at ih ⊢; omega
        rw [prs_len, h2] at h1
        rw [rf_succ, List.length_append]; omega
      rw [hrw, hlen1, ← prs_append, ← rf_succ] at hrow'
      have hXW : ∀ b', b' < W.heap.size → b' ≠ Z + 1 + 1 → vr.ownBlock ≠ some b' → X.heap[b']? = W.heap[b']? := fun b' h1 h2 h3 => (hinn.2.2.2.2.1 b' (by omega) h2 h3).trans (hB2.block b' h1)
      have hvno : ∀ b', b' < W0.heap.size → vr.ownBlock ≠ some b' := fun b' h e => by have := (hvrO b' e).2; omega
      have hRF : RF l p 16384 Z W0 (k + 1) (fun d i => i < k ∧ d ∈ rivals (ev l (p + i))) (fun b' => O b' ∨ (W.heap.size ≤ b' ∧ b' < X.heap.size)) X := by
        refine ⟨fun b' hb' => .inl (hi.all0 b' hb'), fun b' hb' => hb'.elim (fun h => by have := hi.inside b' h; omega) And.right, fun b' h1 h2 h3 => (hXW b' (by omega) h2 (hvno b' h1)).trans (hi.fixed b' h1 h2 h3), hinn.1.trans (hB2.os.trans hi.os), hinn.2.1.trans (hB2.tape.trans hi.tape), hinn.2.2.1.trans (hB2.output.trans hi.output), by omega,
          ⟨v', hv', hrow', fun b' hb' => ?_⟩, ⟨f, hO2.kept (by omega) (hXW _ (by omega) (by omega) (hvno _ (by omega))) (fun d vf b' hf hb' => ?_) (fun _ _ h => h), fun d vf b' hf hb' => ⟨.inl (hfO d vf b' hf hb').1, (hfO d vf b' hf hb').2⟩⟩⟩
        · have hlt8 := (hrow'.lt b' hb').2
          rcases hinn.2.2.2.2.2 with h3 | ⟨b2, h3, h4⟩
          · rw [h3] at hb'; exact ⟨.inl (hvrO b' hb').1, (hvrO b' hb').2⟩
          · rw [h3] at hb'; cases hb'; exact ⟨.inr ⟨by omega, hlt8⟩, by omega⟩
        · obtain ⟨wsf, h6, _⟩ := hO2.some_ d vf hf
          exact hXW b' (h6.lt b' hb').2 (by have := (hfO d vf b' hf hb').2; omega) (row_neO h6.1 hrow (by decide) b' hb')
      have hSt : Steps O W (fun b' => O b' ∨ (W.heap.size ≤ b' ∧ b' < X.heap.size)) X :=
        ⟨hinn.1.trans hB2.os, hinn.2.1.trans hB2.tape, hinn.2.2.1.trans hB2.output, by omega, fun _ h => .inl h, fun _ h => h.imp id And.left, fun b' h1 h2 => hXW b' h1 (fun e => h2 (by rw [e]; exact hi.all0 _ (by omega))) (fun e => h2 (hvrO b' e).1)⟩
      have hXj : Boxed X Bj 3 (.int .i64 k) := (hXW Bj hj.lt (by omega) (fun e => hj.not_row (by decide) hrow e.symm)).trans hj
      have hXjc := hXj.cell
      have hXe : ∀ x, X.cell? ⟨W.heap.size, x, none⟩ = W2.cell? ⟨W.heap.size, x, none⟩ := fun x => World.cell?_of_block (w := W2) (a := ⟨W.heap.size, x, none⟩) (hinn.2.2.2.2.1 W.heap.size (by omega) (by omega) (fun e => by have := hi.inside _ (hvrO _ e).1; omega))
      have hx0 : X.cell? ⟨W.heap.size, 0, none⟩ = some (.int .i64 t) := by rw [hXe, ← hW2]; exact cell_up _ (cell_up _ (by simp))
      have hx1 : X.cell? ⟨W.heap.size, 1, none⟩ = some (.int .i64 kd) := by rw [hXe, ← hW2]; exact cell_up _ (cell_up _ (by simp))
      have hx2 : X.cell? ⟨W.heap.size, 2, none⟩ = some (.int .i64 o) := by rw [hXe, ← hW2]; exact cell_up _ (cell_up _ (by simp))
      have hx3 : X.cell? ⟨W.heap.size, 3, none⟩ = some (.int .i64 vv) := by rw [hXe, ← hW2]; exact cell_up _ (cell_up _ (by simp))
      have HRF := hide' hRF
      have HSt := hide' hSt
      have Hpl := hide' hpl
      clear hRF hSt hpl hrow' hlen1 hrw hXW hinn hlook hXe hW2
      by_cases hkK : 16384 ≤ k
      · gi_wp2
        refine ⟨_, HSt.out, ?_⟩
        show RF l p 16384 Z W0 (pre ++ [(pre.length, Value.slice ap ws.length cp)]).length (fun d i => i < (pre ++ [(pre.length, Value.slice ap ws.length cp)]).length ∧ d ∈ rivals (ev l (p + i))) _ X
        rw [Hpl.out]
        exact HRF.out.iff fun d i hiK => ⟨fun h => ⟨by omega, h.2⟩, fun h => ⟨by omega, h.2⟩⟩
      · obtain ⟨rs, hrs⟩ : ∃ rs, Hid (rivals ⟨t, kd, o, vv⟩ = rs) := ⟨_, rfl⟩
        have HRv : Hid (∀ w, Calls Tryz.prog 40 #[evV ⟨t, kd, o, vv⟩] w fun e w' => ∃ u, e = .returned u ∧ w'.ownsRow w.heap.size 127 2 u rs.length (dcells rs) ∧ Below w.heap.size w w') := fun w => by rw [← hrs.out]; exact rival_any t kd o vv w
        have hkd : decide ((16384 : Int) ≤ (k : Int)) = false := decide_eq_false (by omega)
        gi_wp2_with (refine ⟨trivial, ?_⟩; gi_at_call 40; refine (CallsIn.inRound l' (callsIn_wide.2 (HRv.out _))).mono ?_; rintro e W4 ⟨u, rfl, hdo, hb4⟩; obtain ⟨ad, cd, rfl, -, hdc, hdm, -⟩ := DoorS.of_owns hdo)
        have hz4 : Z + 1 + 1 + 1 + 1 < W0.heap.size := by omega
        have hmix : Tryz.prog.follows Departure.mixedOrders = true := by kernel_rfl
        have hRF4 : RF l p 16384 Z W0 (k + 1) (fun d i => (i < k ∧ d ∈ rivals (ev l (p + i))) ∨ (i = k ∧ ∃ d', d' ∈ rs.take 0 ∧ d' = d)) (fun b' => O b' ∨ (W.heap.size ≤ b' ∧ b' < W4.heap.size)) W4 := by
          refine ((HRF.out.stable hz3 hb4.size hb4.os hb4.tape hb4.output (fun b' hb' => hb4.block b' (HRF.out.inside b' hb'))).widen (fun b' hb' => hb'.imp id (fun h => ⟨h.1, by have := hb4.size; omega⟩)) (fun b' hb' => hb'.elim (fun h => by have := hi.inside b' h; have := hb4.size; omega) And.right)).iff fun d i _ => ?_
          simp
        have hSt4 : Steps O W (fun b' => O b' ∨ (W.heap.size ≤ b' ∧ b' < W4.heap.size)) W4 :=
          ⟨hb4.os.trans HSt.out.os, hb4.tape.trans HSt.out.tape, hb4.output.trans HSt.out.output, Nat.le_trans HSt.out.size hb4.size, fun _ h => .inl h, fun _ h => h.imp id And.left, fun b' h1 h2 => (hb4.block b' (Nat.lt_of_lt_of_le h1 HSt.out.size)).trans (HSt.out.rest b' h1 h2)⟩
        have hj4 : Boxed W4 Bj 3 (.int .i64 k) := (hb4.block Bj hXj.lt).trans hXj
        clear hx0 hx1 hx2 hx3 hXjc HRF HSt hXj hb4
        gi_loopw [51] (fun i w7 => ∃ (j : Nat) (O7 : Side), j ≤ rs.length ∧ i = .int .i64 j ∧ RF l p 16384 Z W0 (k + 1) (fun d i => (i < k ∧ d ∈ rivals (ev l (p + i))) ∨ (i = k ∧ ∃ d', d' ∈ rs.take j ∧ d' = d)) O7 w7 ∧ Steps O W O7 w7 ∧ Boxed w7 Bj 3 (.int .i64 k) ∧ w7.ownsRow X.heap.size 127 2 (.slice ad rs.length cd) rs.length (dcells rs)) (fun i _ => rs.length - (intOf i).toNat)
        case atStart => exact ⟨0, _, Nat.zero_le _, rfl, hRF4, hSt4, hj4, hdo⟩
        case round =>
          obtain ⟨j, O7, hjr, rfl, hRFj, hStj, hBj, hdo7⟩ := hrel
          clear hRF4 hSt4 hj4 hdo
          by_cases hjl : j < rs.length
          · obtain ⟨ad', cd', e', -, -, -, hds⟩ := DoorS.of_owns hdo7
            cases e'
            obtain ⟨bd, rfl, hbd, hd1, hd2⟩ := hds j hjl
            obtain ⟨d, hdd⟩ : ∃ d, Hid (rs.getD j (0, 0) = d) := ⟨_, rfl⟩
            rw [hdd.out] at hd1 hd2
            rw [Nat.mul_comm] at hd1 hd2
            obtain ⟨dv, wsd, hsd, hwl, hZl, hdvO, hput⟩ := hRFj.put hz4 d k (by omega)
            obtain ⟨W7, hW7⟩ : ∃ W7, (wr.alloc (.cells #[.int .i64 d.1, .int .i64 d.2] 127)).drew = W7 := ⟨_, rfl⟩
            have hb7 : Below wr.heap.size wr W7 := by rw [← hW7]; exact ((Below.refl _ _).alloc (Nat.le_refl _) _).drew
            have hz7 : W7.heap.size = wr.heap.size + 1 := by rw [← hW7]; show (wr.alloc _).heap.size = _; simp
            obtain ⟨hlk, hafter⟩ := hput W7 hb7
            unfold dk at hlk hafter
            have hr4 : wr.cell? ⟨Z + 1 + 1 + 1 + 1, 0, none⟩ = some (.map (some (Z + 1 + 1 + 1))) := (World.cell?_of_block (w := W0) (a := ⟨Z + 1 + 1 + 1 + 1, 0, none⟩) (hRFj.fixed (Z + 1 + 1 + 1 + 1) hz4 (by omega) (by omega))).trans b4.cell
            have hr4' := cell_up (.cells #[.int .i64 d.1, .int .i64 d.2] 127) hr4
            have hbjc := hBj.cell
            have hbjc' := cell_up (.cells #[.int .i64 d.1, .int .i64 d.2] 127) hbjc
            have hwith := with_any Z dv wsd k W7 (by omega) (hsd.kept fun b' hb' => hb7.block b' (hsd.lt b' hb').2) (by omega) (by omega)
            have hdvlt : ∀ b', dv.ownBlock = some b' → b' < wr.heap.size := fun b' hb' => (hsd.lt b' hb').2
            have hRsz := hRFj.size
            obtain ⟨S, hSd⟩ : ∃ S : World → Prop, Hid (S = fun w9 => w9.cell? ⟨Z + 1 + 1 + 1 + 1, 0, none⟩ = some (.map (some (Z + 1 + 1 + 1))) ∧ w9.cell? ⟨wr.heap.size, 0, none⟩ = some (.int .i64 d.1) ∧ w9.cell? ⟨wr.heap.size, 1, none⟩ = some (.int .i64 d.2) ∧ w9.cell? ⟨Bj, 0, none⟩ = some (.int .i64 k)) := ⟨_, rfl⟩
            have hSof : ∀ (w8 : World), (∀ b', b' < W7.heap.size → dv.ownBlock ≠ some b' → b' ≠ Z + 1 + 1 + 1 → w8.heap[b']? = W7.heap[b']?) → S w8 := fun w8 hg8 => by
              have hk8 : ∀ b' x, b' < W7.heap.size → dv.ownBlock ≠ some b' → b' ≠ Z + 1 + 1 + 1 → w8.cell? ⟨b', x, none⟩ = W7.cell? ⟨b', x, none⟩ := fun b' x h1 h2 h3 => World.cell?_of_block (w := W7) (a := ⟨b', x, none⟩) (hg8 b' h1 h2 h3)
              rw [hSd.out]
              refine ⟨?_, ?_, ?_, ?_⟩
              · rw [hk8 _ _ (by omega) (fun e => by have := (hdvO _ e).2; omega) (by omega)]; exact (hb7.cell (p := ⟨Z + 1 + 1 + 1 + 1, 0, none⟩) (by show Z + 1 + 1 + 1 + 1 < _; omega)).trans hr4
              · rw [hk8 _ _ (by omega) (fun e => by have := hdvlt _ e; omega) (by omega), ← hW7]; simp
              · rw [hk8 _ _ (by omega) (fun e => by have := hdvlt _ e; omega) (by omega), ← hW7]; simp
              · rw [hk8 _ _ (by have := hBj.lt; omega) (fun e => hBj.not_row (by decide) hsd.1 e.symm) (by omega)]; exact (hb7.cell (p := ⟨Bj, 0, none⟩) hBj.lt).trans hbjc
            have hS7 : S W7 := hSof W7 fun _ _ _ _ => rfl
            have hfin : Hid (∀ (w8 : World) (v8 : Value), SetO Z w8 v8 (withL wsd k) → W7.grownBy w8 dv.ownBlock → (v8.ownBlock = dv.ownBlock ∨ (v8.ownBlock = some W7.heap.size ∧ W7.grownBy w8 none)) → ∃ W9, Sem.run Tryz.prog (Instr.mapUpdate 123 (.map (some (Z + 1 + 1 + 1))) (.agg #[.int .i64 d.1, .int .i64 d.2]) v8) w8 = .ok () W9 ∧ S W9 ∧
                ∃ O9, RF l p 16384 Z W0 (k + 1) (fun d i => (i < k ∧ d ∈ rivals (ev l (p + i))) ∨ (i = k ∧ ∃ d', d' ∈ rs.take (j + 1) ∧ d' = d)) O9 W9 ∧ Steps O W O9 W9 ∧ Boxed W9 Bj 3 (.int .i64 k) ∧ W9.ownsRow X.heap.size 127 2 (.slice (some ⟨bd, 0, none⟩) rs.length cd) rs.length (dcells rs)) := fun w8 v8 hS8 hg8 hb8 => by
              obtain ⟨W9, h1, h2, h3, h4, h5⟩ := hafter w8 v8 hS8 hg8 (hb8.imp id And.left)
              refine ⟨W9, h1, hSof W9 (fun b' e1 e2 e3 => h3 b' e1 e2 e3), _, h4.iff fun d' i _ => ?_, hStj.trans h5, (h3 Bj (by have := hBj.lt; omega) (fun e => hBj.not_row (by decide) hsd.1 e.symm) (by omega)).trans ((hb7.block Bj hBj.lt).trans hBj), ownsRow_same hdo7 fun b' hb' => (h3 b' (by have := (hdo7.lt b' hb').2; omega) (fun e => row_neO hdo7 hsd.1 (by decide) b' hb' e) (by have := (hdo7.lt b' hb').1; omega)).trans (hb7.block b' (hdo7.lt b' hb').2)⟩
              rw [take_succ_mem hjl, hdd.out]
              by_cases hd' : d' = d
              · subst hd'; rw [if_pos rfl]
                constructor
                · rintro ((h | h) | h)
                  · exact .inl h
                  · exact .inr ⟨h.1, .inl h.2⟩
                  · exact .inr ⟨h, .inr rfl⟩
                · rintro (h | ⟨h, h6 | _⟩)
                  · exact .inl (.inl h)
                  · exact .inl (.inr ⟨h, h6⟩)
                  · exact .inr h
              · rw [if_neg hd']
                constructor
                · rintro (h | h)
                  · exact .inl h
                  · exact .inr ⟨h.1, .inl h.2⟩
                · rintro (h | ⟨h, h6 | h6⟩)
                  · exact .inl h
                  · exact .inr ⟨h, h6⟩
                  · exact absurd h6.symm hd'
            have HW := hide' hwith
            have HW7 := hide' hW7
            have Hlk := hide' hlk
            have Hjl := hide' hjl
            have HSof := hide' hSof
            clear hwith hW7 hlk hafter hput hdo7 hds hsd hRFj hStj hBj hr4 hbjc hZl hdvO hSof
            gi_wp2_with fail
            refine region_heldIn S hmix ?_
            rw [HW7.out]
            refine heldIn_take (i := 0) (v := .map (some (Z + 1 + 1 + 1))) rfl (by kernel_rfl) (fun _ _ _ h => h) (by kernel_rfl) (by kernel_rfl) ⟨by rfl, ?_, fun _ => rfl⟩ hS7 ?_
            · intro w9 hSw; rw [hSd.out] at hSw; obtain ⟨hq0, hq1, hq2, hq3⟩ := hSw; go_simp
            simp only [Act.put, List.setIfInBounds_toArray]
            refine heldIn_take (i := 1) (v := .agg #[.int .i64 d.1, .int .i64 d.2]) rfl (by kernel_rfl) (fun _ _ _ h => h) (by kernel_rfl) (by kernel_rfl) ⟨by rfl, ?_, fun _ => rfl⟩ hS7 ?_
            · intro w9 hSw; rw [hSd.out] at hSw; obtain ⟨hq0, hq1, hq2, hq3⟩ := hSw; go_simp
            simp only [Act.put]
            refine heldIn_take (i := 2) (v := .map (some (Z + 1 + 1 + 1))) rfl (by kernel_rfl) (fun _ _ _ h => h) (by kernel_rfl) (by kernel_rfl) ⟨by rfl, ?_, fun _ => rfl⟩ hS7 ?_
            · intro w9 hSw; rw [hSd.out] at hSw; obtain ⟨hq0, hq1, hq2, hq3⟩ := hSw; go_simp
            simp only [Act.put]
            refine heldIn_take (i := 3) (v := .agg #[.int .i64 d.1, .int .i64 d.2]) rfl (by kernel_rfl) (fun _ _ _ h => h) (by kernel_rfl) (by kernel_rfl) ⟨by rfl, ?_, fun _ => rfl⟩ hS7 ?_
            · intro w9 hSw; rw [hSd.out] at hSw; obtain ⟨hq0, hq1, hq2, hq3⟩ := hSw; go_simp
            simp only [Act.put]
            refine heldIn_take (i := 5) (v := .int .i64 k) rfl (by kernel_rfl) (fun _ _ _ h => h) (by kernel_rfl) (by kernel_rfl) ⟨by rfl, ?_, fun _ => rfl⟩ hS7 ?_
            · intro w9 hSw; rw [hSd.out] at hSw; obtain ⟨hq0, hq1, hq2, hq3⟩ := hSw; go_simp
            simp only [Act.put]
            refine heldIn_one (i := 4) (by kernel_rfl) rfl (fun K hK => ?_)
            have hlk := Hlk.out
            go_simp
            refine hK _ _ hS7 ?_
            clear hK K hlk
            refine heldIn_one (i := 6) (by kernel_rfl) rfl (fun K hK => ?_)
            go_simp
            gi_wp2_with (refine ⟨trivial, ?_⟩; gi_at_call 41; refine (CallsIn.inRound l' (callsIn_wide.2 HW.out)).mono ?_; rintro e w8 ⟨v8, rfl, hS8, hg8, hb8⟩)
            refine hK _ _ (HSof.out w8 fun b' e1 e2 _ => hg8.block b' e1 (fun e => e2 e.symm)) ?_
            clear hK K
            obtain ⟨W9, hput9, hS9, hW9⟩ := hfin.out w8 v8 hS8 hg8 hb8
            refine heldIn_one (i := 7) (by kernel_rfl) rfl (fun K hK => ?_)
            go_simp
            refine hK _ _ hS9 ?_
            clear hK K
            refine heldIn_done (by kernel_rfl) ?_
            have HW9 := hide' hW9
            clear hW9 hput9 hfin hS9 hS8 hg8 hb8
            gi_wp2
            go_roundw
            case rel =>
              obtain ⟨O9, g1, g2, g3, g4⟩ := HW9.out
              exact ⟨j + 1, O9, Hjl.out, by simp, g1, g2, g3, g4⟩
            case measure => have := Hjl.out; simp [intOf]; omega
          · obtain rfl : j = rs.length := by omega
            have hfin : Hid (RF l p 16384 Z W0 (k + 1) (fun d i => i < k + 1 ∧ d ∈ rivals (ev l (p + i))) O7 wr) := hRFj.iff fun d i _ => by
              rw [List.take_length]
              constructor
              · rintro (h | ⟨h, d', h1, h2⟩)
                · exact ⟨by omega, h.2⟩
                · subst h; subst h2; exact ⟨by omega, by rw [hevk.out, hrs.out]; exact h1⟩
              · rintro ⟨h, h1⟩
                by_cases hik : i = k
                · subst hik; rw [hevk.out, hrs.out] at h1; exact .inr ⟨rfl, d, h1, rfl⟩
                · exact .inl ⟨by omega, h1⟩
            clear hRFj
            gi_wp2
            refine ⟨O7, hStj, ?_⟩
            show RF l p 16384 Z W0 (pre ++ [(pre.length, Value.slice ap ws.length cp)]).length (fun d i => i < (pre ++ [(pre.length, Value.slice ap ws.length cp)]).length ∧ d ∈ rivals (ev l (p + i))) O7 wr
            rw [Hpl.out]
            exact hfin.out
    case stop2 =>
      rintro c ys X _ h
      exact h.elim
  case done =>
    rintro xs O W hS hi hnD hK
    obtain ⟨v, hv, hrow, hvO⟩ := hi.races
    have hc := hv.cell
    rw [hS] at hrow
    have hrow2 := ownsRow_putObj hrow (.deferred none) hK rfl
    gi_wp2
    refine ⟨by simp, .inl ⟨_, _, rfl, run_takeDeferred hK, ?_⟩⟩
    refine ⟨_, results_tmp rfl _ _ _, v, rfl, by rw [hZ]; exact hrow2, ?_⟩
    refine Below.trans (b := W) ⟨hi.os.trans hBW.os, hi.tape.trans hBW.tape, hi.output.trans hBW.output, Nat.le_trans hBW.size hi.size, fun b' hb' => (hi.fixed b' (by omega) (by omega) (by omega)).trans (hBW.block b' hb')⟩ (belowK_b (w := w) (Nat.le_refl _) _ W0.heap.size _ _ (by omega) hK rfl rfl)
  case stop =>
    rintro c pre O W _ h _ _
    exact h.elim
end Go.Proofs.YtlpdomgedaockaaGreatDoor
