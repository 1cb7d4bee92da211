import Derived.Test.YtcfpedjfofpnkaaGreatDoorRv4
import Derived.Maps.AppendAt
import Derived.Laws.AppendOwnNone
import Derived.OrdersIn
import Derived.TacticsIn
import Derived.Deep.RegionHeld
import Derived.Test.YtcfpedjfofpnkaaGreatDoorRv3
set_option linter.unusedVariables false
set_option linter.unusedSimpArgs false
namespace Go.Proofs.YtcfpedjfofpnkaaGreatDoor
open Go.RowKit Go.Shelf Go.Proofs.Cod Go.Lib
attribute [local go_sem] Oper.semAt_some
def wordsT (t : Tx) : List Tx := (splitT 32 (cutB 35 t)).filter (fun p => !p.isEmpty)
def strV (p : Tx) : Value := .string (bs p)
set_option maxHeartbeats 400000 in
theorem splitSeq_any (t : Tx) (c : UInt8) (w : World) : Calls Tryz.prog 93 #[.string (bs t), .string (bs [c]), .int .i64 0] w fun e w' =>
 e = .returned (.func (.func 109) #[] #[.pointer (some ⟨w.heap.size + 1, 0, none⟩), .pointer (some ⟨w.heap.size, 0, none⟩), .pointer (some ⟨w.heap.size + 2, 0, none⟩)]) ∧ w' = ((w.alloc (.cells #[.string (bs t)] 9)).alloc (.cells #[.string (bs [c])] 9)).alloc (.cells #[.int .i64 0] 3) := by
 go_enter Tryz.func93, Tryz.ntmps93
 go_wp2
 go_ret
 exact ⟨rfl, rfl⟩
set_option maxHeartbeats 400000 in
theorem splitSeqT_any (t : Tx) (c : UInt8) (w : World) : Calls Tryz.prog 80 #[.string (bs t), .string (bs [c])] w fun e w' =>
 e = .returned (.func (.func 109) #[] #[.pointer (some ⟨w.heap.size + 1, 0, none⟩), .pointer (some ⟨w.heap.size, 0, none⟩), .pointer (some ⟨w.heap.size + 2, 0, none⟩)]) ∧ w' = ((w.alloc (.cells #[.string (bs t)] 9)).alloc (.cells #[.string (bs [c])] 9)).alloc (.cells #[.int .i64 0] 3) := by
 go_enter Tryz.func80, Tryz.ntmps80
 go_wp2_with fail
 refine (splitSeq_any t c _).mono ?_
 rintro e w1 ⟨rfl, rfl⟩
 go_wp2_with fail
 go_ret
 exact ⟨rfl, rfl⟩
theorem four_made (w : World) (A B C D : Obj) : ((((w.alloc A).alloc B).alloc C).alloc D).heap[w.heap.size]? = some A ∧ ((((w.alloc A).alloc B).alloc C).alloc D).heap[w.heap.size + 1]? = some B ∧ ((((w.alloc A).alloc B).alloc C).alloc D).heap[w.heap.size + 1 + 1]? = some C ∧ ((((w.alloc A).alloc B).alloc C).alloc D).heap[w.heap.size + 1 + 2]? = some D := by
 obtain ⟨w1, h1⟩ : ∃ x, w.alloc A = x := ⟨_, rfl⟩
 obtain ⟨w2, h2⟩ : ∃ x, w1.alloc B = x := ⟨_, rfl⟩
 obtain ⟨w3, h3⟩ : ∃ x, w2.alloc C = x := ⟨_, rfl⟩
 have z1 : w1.heap.size = w.heap.size + 1 := by rw [← h1]; simp
 have z2 : w2.heap.size = w.heap.size + 1 + 1 := by rw [← h2]; simp; omega
 have z3 : w3.heap.size = w.heap.size + 1 + 2 := by rw [← h3]; simp; omega
 rw [h1, h2, h3]
 have a1 : w1.heap[w.heap.size]? = some A := by rw [← h1]; exact World.alloc_heap_new w A
 have a2 : w2.heap[w.heap.size + 1]? = some B := by rw [← h2, ← z1]; exact World.alloc_heap_new w1 B
 have a3 : w3.heap[w.heap.size + 1 + 1]? = some C := by rw [← h3, ← z2]; exact World.alloc_heap_new w2 C
 have b2 : ∀ k, k < w1.heap.size → w2.heap[k]? = w1.heap[k]? := fun k hk => by rw [← h2]; exact Below.heap_alloc w1 B k hk
 have b3 : ∀ k, k < w2.heap.size → w3.heap[k]? = w2.heap[k]? := fun k hk => by rw [← h3]; exact Below.heap_alloc w2 C k hk
 have b4 : ∀ k, k < w3.heap.size → (w3.alloc D).heap[k]? = w3.heap[k]? := fun k hk => Below.heap_alloc w3 D k hk
 refine ⟨?_, ?_, ?_, ?_⟩
 ·rw [b4 _ (by omega), b3 _ (by omega), b2 _ (by omega)]; exact a1
 ·rw [b4 _ (by omega), b3 _ (by omega)]; exact a2
 ·rw [b4 _ (by omega)]; exact a3
 ·rw [← z3]; exact World.alloc_heap_new w3 D
theorem cutB_len (c : UInt8) (t : Tx) : (cutB c t).length ≤ t.length := by
 unfold cutB
 split
 ·exact Nat.le_refl _
 ·rw [List.length_take]; omega
theorem splitT_len (c : UInt8) (t : Tx) : (splitT c t).length ≤ t.length + 1 := by
 induction t with
 | nil => simp [splitT]
 | cons b l ih =>
  unfold splitT
  split
  ·simp; omega
  ·cases h : splitT c l with
   | nil => simp
   | cons p ps => rw [h] at ih; simp at ih ⊢; omega
theorem c_owns_kept {w w' : World} {base e size n : Nat} {v : Value} {xs : List Value} (h : w.ownsRow base e size v n xs) (hb : ∀ g, base ≤ g → g < w.heap.size → w'.heap[g]? = w.heap[g]?) : w'.ownsRow base e size v n xs := by
 refine ⟨h.1, ?_⟩
 rcases h.2 with hn | ⟨g, cap, cur, rfl, hB, hg, rest⟩
 ·exact .inl hn
 ·exact .inr ⟨g, cap, cur, rfl, hB, (hb g hB (Array.getElem?_eq_some_iff.1 hg).1).trans hg, rest⟩
theorem c_owns_base {w : World} {base base' e size n : Nat} {v : Value} {xs : List Value} (h : w.ownsRow base e size v n xs) (hb : base' ≤ base) : w.ownsRow base' e size v n xs := by
 refine ⟨h.1, ?_⟩
 rcases h.2 with hn | ⟨g, cap, cur, hv, h1, rest⟩
 ·exact .inl hn
 ·exact .inr ⟨g, cap, cur, hv, by omega, rest⟩
theorem Tryz.infoS : (Tryz.prog.info? 9).map (fun i => (i.zero, i.size, i.bytes)) = some (some (.string ByteArray.empty), 1, 16) := by kernel_rfl
theorem take_filter {l : List Tx} {i : Nat} {p : Tx} (h : l[i]? = some p) : (l.take (i + 1)).filter (fun p => !p.isEmpty) = (l.take i).filter (fun p => !p.isEmpty) ++ if p.isEmpty then [] else [p] := by
 obtain ⟨hi, rfl⟩ := List.getElem?_eq_some_iff.1 h
 rw [List.take_succ_eq_append_getElem hi, List.filter_append]
 congr 1
 cases hp : l[i].isEmpty <;> simp [hp]
set_option maxRecDepth 100000 in
set_option maxHeartbeats 1000000 in
theorem split_any (t : Tx) (w : World) (hlen : t.length < 1048576) : Calls Tryz.prog 81 #[.string (bs t)] w fun e w' => ∃ v, e = .returned v ∧ w'.ownsRow w.heap.size 9 1 v (wordsT t).length ((wordsT t).map strV) ∧ Below w.heap.size w w' := by
 refine (callsIn_wide (n := 6)).1 ?_
 refine callsIn_of_wpAt Tryz.func81 rfl trivial ?_ rfl
 simp only [Tryz.ntmps81, List.size_toArray, List.length_cons, List.length_nil, Nat.reduceAdd, Nat.reduceSub, Array.replicate_succ, Array.replicate_zero, List.push_toArray, List.append_toArray, List.nil_append, List.cons_append]
 refine wpAt_seq (wpAt_of ?_)
 gi_wp2
 refine wpAt_seq (wpAt_of ?_)
 gi_wp2_with (refine ⟨trivial, ?_⟩; gi_at_call 94; refine (callsIn_wide.2 (cut_any t 35 _ (by omega))).mono ?_; rintro e w1 ⟨⟨af, f, rfl⟩, hb1⟩)
 refine wpAt_seq (wpAt_of ?_)
 gi_wp2
 refine wpAt_seq (wpAt_seq (wpAt_of ?_))
 gi_wp2_with (refine ⟨trivial, ?_⟩; gi_at_call 80; refine (callsIn_wide.2 (splitSeqT_any (cutB 35 t) 32 _)).mono ?_; rintro e w2 ⟨rfl, rfl⟩)
 refine wpAt_block ?_
 obtain ⟨W0, hW0⟩ : ∃ W0, (((w1.alloc (.cells #[.slice none 0 0] 23)).alloc (.cells #[.string (bs (cutB 35 t))] 9)).alloc (.cells #[.string (bs [32])] 9)).alloc (.cells #[.int .i64 0] 3) = W0 := ⟨_, rfl⟩
 have hz0 : W0.heap.size = w1.heap.size + 4 := by rw [← hW0]; simp
 rw [hW0]
 have hb01 : Below w1.heap.size w1 W0 := by rw [← hW0]; exact ((((Below.refl _ _).alloc (Nat.le_refl _) _).alloc (by simp) _).alloc (by simp; omega) _).alloc (by simp; omega) _
 have hb0 : Below w.heap.size w W0 := hb1.trans (hb01.mono hb1.size)
 have hk := four_made w1 (.cells #[.slice none 0 0] 23) (.cells #[.string (bs (cutB 35 t))] 9) (.cells #[.string (bs [32])] 9) (.cells #[.int .i64 0] 3)
 rw [hW0] at hk
 obtain ⟨k0, k1, k2, k3⟩ := hk
 clear hW0
 refine wpAt_split (fnd := Tryz.f81) Tryz.func81 (w1.heap.size + 1 + 1) (w1.heap.size + 1) (w1.heap.size + 1 + 2) 32 (cutB 35 t) rfl (by have := cutB_len 35 t; omega) (by simp [World.cell?, k2]) (by simp [World.cell?, k1]) (by simp [World.cell?, k3]) (by simp [World.frozen?, k1]) (by omega) (by omega)
  (fun i W => ∃ v, W.cell? ⟨w1.heap.size, 0, none⟩ = some v ∧ W.frozen? ⟨w1.heap.size, 0, none⟩ = false ∧ W.ownsRow (W0.heap.size + 2) 9 1 v (((splitT 32 (cutB 35 t)).take i).filter (fun p => !p.isEmpty)).length ((((splitT 32 (cutB 35 t)).take i).filter (fun p => !p.isEmpty)).map strV) ∧ Below w.heap.size w W)
  (fun _ _ => False) ?free ?start (fun p => { tmps := #[.string (bs t), undef, .slice none 0 0, .string (bs (cutB 35 t)), .string (bs af), .bool f, .pointer (some ⟨w1.heap.size, 0, none⟩), .string (bs p), .tuple #[.string (bs (cutB 35 t)), .string (bs af), .bool f], .string (bs t), .tuple #[.string (bs (cutB 35 t)), .string (bs af), .bool f], .string (bs (cutB 35 t)), .string (bs af), .bool f, .string (bs (cutB 35 t)), .func (.func 109) #[] #[.pointer (some ⟨w1.heap.size + 1 + 1, 0, none⟩), .pointer (some ⟨w1.heap.size + 1, 0, none⟩), .pointer (some ⟨w1.heap.size + 1 + 2, 0, none⟩)], .string (bs p), undef, undef, undef, undef, undef, undef, undef], defers := [] }) ?assign ?body ?done ?panic
 case assign =>
  intro l p W K hK
  gi_wp2
  exact hK
 case start => exact ⟨_, by simp [World.cell?, k0], by simp [World.frozen?, k0], World.ownsRow_nil _ _ _ _, hb0⟩
 case panic => intro chain W h _; exact h.elim
 case free =>
  rintro i W W' ⟨v, hc, hf, hrow, hB⟩ hsame hsz ho ht hp
  have hl : w1.heap.size < W.heap.size := World.block_lt_of_cell? W ⟨w1.heap.size, 0, none⟩ hc
  have hbw : W'.heap[w1.heap.size]? = W.heap[w1.heap.size]? := hsame _ hl (by simp; omega)
  refine ⟨v, (World.cell?_of_block (a := ⟨w1.heap.size, 0, none⟩) hbw).trans hc, (World.frozen?_of_block (a := ⟨w1.heap.size, 0, none⟩) hbw).trans hf, c_owns_kept hrow (fun g hg hgl => hsame g hgl (by simp; omega)), ⟨ho.trans hB.os, ht.trans hB.tape, hp.trans hB.output, Nat.le_trans hB.size hsz, fun k hk => ?_⟩⟩
  exact (hsame k (by have := hB.size; omega) (by have := hb1.size; simp; omega)).trans (hB.block k hk)
 case body =>
  rintro l i p W ⟨v, hc, hf, hrow, hB⟩ hp hlt
  have hfil := take_filter hp
  by_cases he : p = []
  ·subst he
   have hem : (bs []).toList.isEmpty = true := by rw [bs_toList]; rfl
   gi_wp2
   refine ⟨fun b _ => rfl, v, hc, hf, ?_, hB⟩
   rw [hfil]
   simpa using hrow
  ·have hne : (bs p).toList.isEmpty = false := by rw [bs_toList]; simpa using he
   obtain ⟨i0, hi, hy0, hy1, hy2⟩ := info_parts Tryz.infoS
   have hfl : (((splitT 32 (cutB 35 t)).take i).filter (fun p => !p.isEmpty)).length ≤ t.length + 1 := by
    have a1 := splitT_len 32 (cutB 35 t)
    have a2 := cutB_len 35 t
    have a3 := List.length_filter_le (fun p : Tx => !p.isEmpty) ((splitT 32 (cutB 35 t)).take i)
    rw [List.length_take] at a3
    omega
   have hfil2 : ((splitT 32 (cutB 35 t)).take (i + 1)).filter (fun p => !p.isEmpty) = ((splitT 32 (cutB 35 t)).take i).filter (fun p => !p.isEmpty) ++ [p] := by
    rw [hfil]; congr 1
    cases hpe : p.isEmpty with
    | true => exact absurd (List.isEmpty_iff.1 hpe) he
    | false => rfl
   clear hfil
   generalize hFe : ((splitT 32 (cutB 35 t)).take i).filter (fun p => !p.isEmpty) = Fi at *
   have hl1 : w1.heap.size < W.heap.size := World.block_lt_of_cell? W ⟨w1.heap.size, 0, none⟩ hc
   have hvo : ∀ g, v.ownBlock = some g → W0.heap.size + 2 ≤ g ∧ g < W.heap.size := fun g e => hrow.lt g e
   have HB : Hid (∀ w3, (W.alloc (.cells #[.string (bs p)] 9)).grownBy w3 v.ownBlock → w3.cell? ⟨w1.heap.size, 0, none⟩ = some v ∧ w3.frozen? ⟨w1.heap.size, 0, none⟩ = false ∧ W.heap.size ≤ w3.heap.size ∧ (∀ b, b < W0.heap.size + 2 → w3.heap[b]? = W.heap[b]?) ∧ w3.os = W.os ∧ w3.tape = W.tape ∧ w3.output = W.output) := fun w3 hg => by
    have hbl : ∀ b, b < W0.heap.size + 2 → w3.heap[b]? = W.heap[b]? := fun b hb => (hg.block b (by simp; omega) (fun e => by have := (hvo b e.symm).1; omega)).trans (Below.heap_alloc W _ b (by omega))
    have hbw := hbl w1.heap.size (by omega)
    exact ⟨(World.cell?_of_block (a := ⟨w1.heap.size, 0, none⟩) hbw).trans hc, (World.frozen?_of_block (a := ⟨w1.heap.size, 0, none⟩) hbw).trans hf, by have := hg.size; simp at this; omega, hbl, hg.os, hg.tape, hg.output⟩
   gi_wp2_with (gi_at_builtin; refine wpListIn_append_own _ rfl _ _ 23 rfl (W0.heap.size + 2) 9 i0 (.string ByteArray.empty) 1 16 Tryz.underlying23 hi hy0 hy1 hy2 rfl (by decide) _ _ _ rfl (hrow.alloc _) ⟨_, 0, none⟩ 1 1 [strV p] rfl rfl (cell_one_new _ _ _) (by simp [Value.oneCell', strV]) (by unfold maxLen; omega) (by omega) (by simp; omega) ?_; intro v' w3 hown' hgrow _; obtain ⟨c3, f3, z3, b3, o3, t3, p3⟩ := HB.out w3 hgrow; obtain ⟨g', cap', rfl⟩ := ownsRow_succ hown')
   have h1s := hb1.size
   refine ⟨fun b hb => ?_, _, World.cell?_setCell_same _ _ _ c3, by rw [World.frozen?_setCell]; exact f3, ?_, ⟨o3.trans hB.os, t3.trans hB.tape, p3.trans hB.output, by have := hB.size; simp; omega, fun k hk => (Below.heap_setCell w3 ⟨w1.heap.size, 0, none⟩ _ k (by show k ≠ w1.heap.size; omega)).trans ((b3 k (by omega)).trans (hB.block k hk))⟩⟩
   ·have hb' : b ≠ w1.heap.size ∧ b < W0.heap.size + 2 := by
     simp only [List.mem_cons, List.not_mem_nil, or_false] at hb
     omega
    exact (Below.heap_setCell w3 ⟨w1.heap.size, 0, none⟩ _ b hb'.1).trans (b3 b hb'.2)
   ·rw [hfil2, List.length_append, List.map_append]
    exact c_owns_kept hown' (fun g hg _ => Below.heap_setCell w3 ⟨w1.heap.size, 0, none⟩ _ g (by show g ≠ w1.heap.size; omega))
 case done =>
  rintro W ⟨v, hc, hf, hrow, hB⟩ hD
  rw [List.take_length] at hrow
  rw [hz0] at hD hrow
  refine wpAt_of ?_
  gi_wp2
  refine ⟨by simp, .inl ⟨_, _, rfl, run_takeDeferred hD, ?_⟩⟩
  have h1s := hb1.size
  refine ⟨_, results_tmp rfl _ _ _, v, rfl, c_owns_base (c_owns_kept hrow fun g hg _ => World.putObj_heap_other (by omega)) (by omega), ⟨hB.os, hB.tape, hB.output, by simpa using hB.size, fun k hk => (World.putObj_heap_other (by omega)).trans (hB.block k hk)⟩⟩
end Go.Proofs.YtcfpedjfofpnkaaGreatDoor
namespace Go.Proofs.YtcfpedjfofpnkaaGreatDoor
open Go
section
variable {P : Program} {md : Region.Mode} {ops : Array Oper} {Q : Exit → Act → World → Prop} {S : World → Prop} {oi : Oper} {v : Value} {fuel : Nat} {listed : Array Bool} {a a' : Act} {w : World}
theorem sq {α : Type} : (∀ (l : List α) (i : Nat) (h : i < l.toArray.size), l.toArray[i]'h = l[i]'(by simpa using h)) ∧ (∀ (x : α) (l : List α) (h : 0 < (x :: l).length), (x :: l)[0]'h = x) ∧ (∀ (x : α) (l : List α) (i : Nat) (h : i + 1 < (x :: l).length), (x :: l)[i + 1]'h = l[i]'(by simpa using h)) ∧ (∀ (l : List α) (i : Nat) (x : α), l.toArray.setIfInBounds i x = (l.set i x).toArray) ∧ (∀ (x y : α) (l : List α) (i : Nat), (x :: l).set (i + 1) y = x :: l.set i y) ∧ ∀ (x y : α) (l : List α), (x :: l).set 0 y = y :: l :=
 ⟨fun _ _ _ => rfl, fun _ _ _ => rfl, fun _ _ _ _ => rfl, fun l i x => List.setIfInBounds_toArray .., fun _ _ _ _ => rfl, fun _ _ _ => rfl⟩
theorem tk (i : Nat) (hS : S w) (h : wpAnyH P md ops Q S fuel (listed.setIfInBounds i true) a' w)
 (hi : ops[i]? = some oi := by rfl) (hs : Region.noSelect ops = true := by kernel_rfl) (hf : Region.free md ops listed i = true := by kernel_rfl) (hr : (Region.ready md ops listed).contains i = true := by kernel_rfl)
 (hQ : ∀ c a w, Q (.panic c) (a.put oi.dst v) w → Q (.panic c) a w := by exact fun _ _ _ h => h)
 (hw : Region.wanted oi (yielded ops a.tmps) = true := by rfl) (hy : ∀ w9, S w9 → (execOp a.eval oi).run P w9 = .ok (.value v) w9 := by (intro w9 hSw; (try dsimp only at hSw); go_simp; try with_reducible rfl))
 (ha : a.put oi.dst v = a' := by (simp only [Act.put, sq]; first | done | rfl)) : wpAnyH P md ops Q S (fuel + 1) listed a w := by
 subst ha
 exact wpAnyH_take (i := i) (v := v) hi hs hf hr hQ (Or.inl ⟨hw, hy⟩) hS h
theorem tn (i : Nat) (hS : S w) (h : wpAnyH P md ops Q S fuel (listed.setIfInBounds i true) a' w)
 (hi : ops[i]? = some oi := by rfl) (hs : Region.noSelect ops = true := by kernel_rfl) (hf : Region.free md ops listed i = true := by kernel_rfl) (hr : (Region.ready md ops listed).contains i = true := by kernel_rfl)
 (hQ : ∀ c a w, Q (.panic c) (a.put oi.dst undef) w → Q (.panic c) a w := by exact fun _ _ _ h => h)
 (hw : Region.wanted oi (yielded ops a.tmps) = false := by rfl)
 (ha : a.put oi.dst undef = a' := by (simp only [Act.put, sq]; first | done | rfl)) : wpAnyH P md ops Q S (fuel + 1) listed a w := by
 subst ha
 exact wpAnyH_take (i := i) (v := undef) hi hs hf hr hQ (Or.inr ⟨hw, rfl⟩) hS h
theorem rd (i : Nat) (h : ∀ K' : Act → World → Prop, Shut (∀ a w, S w → (S w → wpAnyH P md ops Q S fuel (listed.setIfInBounds i true) a w) → K' a w) → if Region.wanted oi (yielded ops a.tmps) = true then Oper.wp P oi a w K' Q else K' (a.put oi.dst undef) w)
 (hi : ops[i]? = some oi := by rfl) (hr : Region.ready md ops listed = [i] := by kernel_rfl) : wpAnyH P md ops Q S (fuel + 1) listed a w :=
 wpAnyH_ready (rs := [i]) hr (by simp) (AllReadyH.cons hi h AllReadyH.nil)
end
end Go.Proofs.YtcfpedjfofpnkaaGreatDoor
namespace Go.Proofs.YtcfpedjfofpnkaaGreatDoor
open Go.RowKit Go.Proofs.Cod
def putZ {α : Type} (f : Int → α) (k : Int) (v : α) : Int → α := fun x => if x = k then v else f x
theorem putZ_same {α : Type} (f : Int → α) (k : Int) (v : α) : putZ f k v k = v := by simp [putZ]
theorem putZ_other {α : Type} {f : Int → α} {k x : Int} (v : α) (h : x ≠ k) : putZ f k v x = f x := by simp [putZ, h]
def RG.decl (G : RG) (kd : Int) (t : Tx) (v : Value) : RG := { G with N := putT G.N t (kd, (G.nms kd).length), nms := putZ G.nms kd (G.nms kd ++ [t]), V := putZ G.V kd v }
section
variable {w w' : World} {tag tag' : Nat → RT} {base rb nb lb : Nat} {G : RG}
theorem rowV_len {e : TypeId} {k : Int} {v : Value} {l : List Tx} (h : RowOk w tag base e k v (l.map strW)) : ∃ a cap, v = .slice a l.length cap := by
 have h := h.row
 rw [List.length_map] at h
 rcases h.2 with ⟨h1, h2⟩ | ⟨g, cap, cur, h1, _⟩
 ·exact ⟨none, 0, by rw [h1, h2]⟩
 ·exact ⟨_, _, h1⟩
theorem set_row {G : RG} {kd : Int} (hk : isK kd) (v : Value) (nb lb : Nat) : #[Value.int .i64 G.line, G.V 118, G.V 102, G.V 109, .slice none 0 0, G.V 116, G.bV, .map (some nb), .map (some lb), G.lV].setIfInBounds (offK kd) v = #[Value.int .i64 G.line, putZ G.V kd v 118, putZ G.V kd v 102, putZ G.V kd v 109, .slice none 0 0, putZ G.V kd v 116, G.bV, .map (some nb), .map (some lb), G.lV] := by
 rcases hk with rfl | rfl | rfl | rfl <;> simp [offK, putZ]
theorem RdW.decl (h : RdW w tag base rb nb lb G) {kd : Int} (hk : isK kd) (t : Tx) (hlen : (G.nms kd).length < 1048576) :
 ∃ w', (Instr.mapUpdate 130 (.map (some nb)) (.string (bs t)) (.pointer (some ⟨w.heap.size, 0, none⟩))).run Tryz.prog ((w.alloc (.cells #[.int .u8 kd, .int .i64 (G.nms kd).length] 202)).drew) = .ok () w' ∧
  w'.cell? ⟨rb, offK kd, none⟩ = some (G.V kd) ∧ ∃ g cap w3, (Builtin.append_ #[23, 23] 23 #[G.V kd, .slice (some ⟨w'.heap.size, 0, none⟩) 1 1]).run Tryz.prog (w'.alloc (.cells #[.string (bs t)] 9)) = .ok (.slice (some ⟨g, 0, none⟩) ((G.nms kd).length + 1) cap) w3 ∧
  w3.cell? ⟨rb, offK kd, none⟩ = some (G.V kd) ∧ w3.frozen? ⟨rb, offK kd, none⟩ = false ∧
  ∃ tag', RdW (w3.setCell ⟨rb, offK kd, none⟩ (.slice (some ⟨g, 0, none⟩) ((G.nms kd).length + 1) cap)) tag' base rb nb lb (G.decl kd t (.slice (some ⟨g, 0, none⟩) ((G.nms kd).length + 1) cap)) ∧ Ext w tag (w3.setCell ⟨rb, offK kd, none⟩ (.slice (some ⟨g, 0, none⟩) ((G.nms kd).length + 1) cap)) tag' := by
 have hk0 : kd ≠ 0 ∧ kd ≠ 1 := by rcases hk with rfl | rfl | rfl | rfl <;> decide
 have hnl := h.lt h.tnm (by simp)
 have hrl := h.lt h.trd (by simp)
 have hg3 := h.g3
 obtain ⟨w', hrun, hM, hz, ho, ht, hp, hkp⟩ := h.names.put t kd (G.nms kd).length (fun b hb => h.lt hb (by simp)) (by rw [h.tnm]; simp) hnl
 have hrn : rb ≠ nb := fun e => by have := h.trd; rw [e, h.tnm] at this; cases this
 have hrb' : w'.heap[rb]? = w.heap[rb]? := hkp rb hrl hrn
 have hto : ∀ b, tagAt tag w.heap.size .en b ≠ .o → b < w'.heap.size := fun b hb => by
  unfold tagAt at hb
  split at hb
  ·omega
  ·have := (h.tlt b hb).2; omega
 have hrow : RowOk w' (tagAt tag w.heap.size .en) base 9 kd (G.V kd) ((G.nms kd).map strW) := (h.rows kd hk).kept fun b hb => by
  have hl := h.lt hb (by simp)
  exact ⟨hkp b hl (fun e => by rw [e, h.tnm] at hb; cases hb), (tagAt_old _ (by omega)).trans hb⟩
 obtain ⟨i0, hi, hy0, hy1, hy2⟩ := info_parts Tryz.infoTx
 obtain ⟨g, cap, w3, tag3, hr3, hrow3, o3, t3, p3, z3, b3, old3, new3⟩ := hrow.push Tryz.underlying23 hi hy0 hy1 hy2 rfl (by omega) (strW t) (by simp [Value.oneCell', strW]) 23 (by simpa using hlen) (by omega) hto
 rw [List.length_map] at hr3 hrow3
 have e3 : ∀ b, b < w.heap.size → b ≠ nb → tag b ≠ .row kd → w3.heap[b]? = w.heap[b]? := fun b hb h1 h2 => (b3 b (by omega) (by rw [tagAt_old _ (by omega)]; exact h2)).trans (hkp b hb h1)
 have hrb3 : w3.heap[rb]? = w.heap[rb]? := e3 rb hrl hrn (by rw [h.trd]; simp)
 have hc3 : w3.cell? ⟨rb, offK kd, none⟩ = some (G.V kd) := (World.cell?_of_block (w := w) (a := ⟨rb, offK kd, none⟩) hrb3).trans (h.rowC hk)
 have hx : Ext w tag (w3.setCell ⟨rb, offK kd, none⟩ (.slice (some ⟨g, 0, none⟩) ((G.nms kd).length + 1) cap)) tag3 := by
  refine ⟨o3.trans ho, t3.trans ht, p3.trans hp, by simp; omega, fun b hb => (old3 b (by omega)).trans (tagAt_old _ (by omega)), fun b hb hbo => ?_⟩
  rw [Below.heap_setCell w3 ⟨rb, offK kd, none⟩ _ b (ne_tag hbo h.trd (by simp))]
  exact e3 b hb (fun e => by have := h.tnm; rw [← e, hbo] at this; cases this) (by rw [hbo]; simp)
 refine ⟨w', hrun, (World.cell?_of_block (w := w) (a := ⟨rb, offK kd, none⟩) hrb').trans (h.rowC hk), g, cap, w3, hr3, hc3, (World.frozen?_of_block (w := w) (a := ⟨rb, offK kd, none⟩) hrb3).trans (h.frz _), tag3, ?_, hx⟩
 refine h.step (fun x => x = .nm ∨ x = .row kd ∨ x = .rd) hx (fun b hb h1 h2 => ?_) (fun b hb hn => ?_) ?_ (fun k hkk => ?_) (.inl ⟨rfl, rfl, by simp; exact fun e => hk0.1 e.symm⟩) (.inl ⟨rfl, rfl, by simp; exact fun e => hk0.2 e.symm⟩) (.inr ?_) (by simp) (by simp) (by simp) (fun a c hc => .inl ⟨hc, by simp, by simp, by simp⟩) (fun a i hi => .inl ⟨hi, ?_⟩) (fun c hc => .inl hc)
 ·rw [Below.heap_setCell w3 ⟨rb, offK kd, none⟩ _ b (fun e => h2 (by rw [e]; exact .inr (.inr h.trd)))]
  exact e3 b hb (fun e => h2 (by rw [e]; exact .inl h.tnm)) (fun e => h2 (.inr (.inl e)))
 ·simp only [World.size_setCell]
  by_cases e : b = w.heap.size
  ·subst e; omega
  ·exact new3 b (by omega) hn
 ·rw [heap_setCell_same w3 rb (offK kd) _ _ _ (hrb3.trans h.cell), set_row hk]
  rfl
 ·by_cases e : k = kd
  ·subst e
   right
   have e1 : (G.decl k t (.slice (some ⟨g, 0, none⟩) ((G.nms k).length + 1) cap)).V k = .slice (some ⟨g, 0, none⟩) ((G.nms k).length + 1) cap := putZ_same _ _ _
   have e2 : (G.decl k t (.slice (some ⟨g, 0, none⟩) ((G.nms k).length + 1) cap)).nms k = G.nms k ++ [t] := putZ_same _ _ _
   rw [e1, e2, List.map_append]
   refine ⟨owns_same hrow3.row fun x hx => ?_, hrow3.tg⟩
   refine Below.heap_setCell w3 ⟨rb, offK k, none⟩ _ x (fun e => ?_)
   have e : x = rb := e
   have h1 := hrow3.tg x hx
   rw [e, old3 rb (by omega), tagAt_old _ (by omega), h.trd] at h1
   cases h1
  ·exact .inl ⟨putZ_other _ e, putZ_other _ e, by simp; exact e⟩
 ·refine hM.kept ?_ fun b hb => ?_
  ·rw [Below.heap_setCell w3 ⟨rb, offK kd, none⟩ _ nb (fun e => hrn e.symm)]
   exact b3 nb (by omega) (by rw [tagAt_old _ (by omega), h.tnm]; simp)
  ·have hbl := hto b (by rw [hb]; simp)
   refine ⟨?_, (old3 b (by omega)).trans hb⟩
   rw [Below.heap_setCell w3 ⟨rb, offK kd, none⟩ _ b (fun e => ?_)]
   ·exact b3 b (by omega) (by rw [hb]; simp)
   ·have e : b = rb := e
    rw [e, tagAt_old _ (by omega), h.trd] at hb; cases hb
 ·have := h.ins a i hi
  have hl := h.lt this.2 (by simp)
  rw [Below.heap_setCell w3 ⟨rb, offK kd, none⟩ _ a (ne_tag this.2 h.trd (by simp))]
  exact e3 a hl (fun e => by rw [e, h.tnm] at this; cases this.2) (by rw [this.2]; simp)
end
def WsT (w : World) (tag : Nat → RT) (a : Option Addr) (ts : List Tx) : Prop :=
 ∀ i, i < ts.length → ∃ b off, a = some ⟨b, off, none⟩ ∧ b < w.heap.size ∧ w.cell? ⟨b, off + i, none⟩ = some (.string (bs (ts.getD i []))) ∧ tag b = .o
theorem WsT.ws {w : World} {tag : Nat → RT} {a : Option Addr} {ts : List Tx} (h : WsT w tag a ts) : Ws w a ts := fun i hi => by
 obtain ⟨b, off, h1, h2, h3, _⟩ := h i hi; exact ⟨b, off, h1, h2, h3⟩
theorem WsT.ext {w w' : World} {tag tag' : Nat → RT} {a : Option Addr} {ts : List Tx} (h : WsT w tag a ts) (hx : Ext w tag w' tag') : WsT w' tag' a ts := fun i hi => by
 obtain ⟨b, off, h1, h2, h3, h4⟩ := h i hi
 exact ⟨b, off, h1, Nat.lt_of_lt_of_le h2 hx.size, (World.cell?_of_block (w := w) (a := ⟨b, off + i, none⟩) (hx.block b h2 h4)).trans h3, (hx.tags b h2).trans h4⟩
def declAll (kd : Int) : (Tx → Option (Int × Nat)) → List Tx → List Tx → Option ((Tx → Option (Int × Nat)) × List Tx)
 | N, l, [] => some (N, l)
 | N, l, t :: ts => match N t with
  | some _ => none
  | none => declAll kd (putT N t (kd, l.length)) (l ++ [t]) ts
theorem declAll_len {kd : Int} {N : Tx → Option (Int × Nat)} {l ts : List Tx} {p : (Tx → Option (Int × Nat)) × List Tx} (h : declAll kd N l ts = some p) : p.2 = l ++ ts := by
 induction ts generalizing N l with
 | nil => simp only [declAll, Option.some.injEq] at h; rw [← h]; simp
 | cons t ts ih =>
  unfold declAll at h
  split at h
  ·cases h
  ·rw [ih h]; simp
def DeclP (kd : Int) (ts : List Tx) (G G' : RG) : Prop := kd ≠ 0 ∧ ts ≠ [] ∧ ts.all isNam = true ∧ declAll kd G.N (G.nms kd) ts = some (G'.N, G'.nms kd) ∧ (G'.nms kd).length ≤ 4 ∧ (∀ k, k ≠ kd → G'.nms k = G.nms k) ∧ G'.line = G.line ∧ G'.bods = G.bods ∧ G'.bV = G.bV ∧ G'.B = G.B ∧ G'.I = G.I ∧ G'.las = G.las ∧ G'.lV = G.lV
def DeclE (kd : Int) (ts : List Tx) (G : RG) (e : Int) : Prop := ((kd = 0 ∨ ts = [] ∨ ts.all isNam = false) ∧ e = 2) ∨ ((kd ≠ 0 ∧ ts ≠ [] ∧ ts.all isNam = true) ∧ ((declAll kd G.N (G.nms kd) ts = none ∧ e = 3) ∨ ((∃ p, declAll kd G.N (G.nms kd) ts = some p ∧ 4 < p.2.length) ∧ e = 4)))
structure DeclJ (w : World) (tag : Nat → RT) (base rb nb lb : Nat) (kd : Int) (ts : List Tx) (G : RG) (i : Nat) (wr : World) (tr : Nat → RT) (Gr : RG) : Prop where
 rd : RdW wr tr base rb nb lb Gr
 ext : Ext w tag wr tr
 all : declAll kd G.N (G.nms kd) ts = declAll kd Gr.N (Gr.nms kd) (ts.drop i)
 len : (Gr.nms kd).length = (G.nms kd).length + i
 oth : ∀ k, k ≠ kd → Gr.nms k = G.nms k
 line : Gr.line = G.line
 rest : Gr.bods = G.bods ∧ Gr.bV = G.bV ∧ Gr.B = G.B ∧ Gr.I = G.I ∧ Gr.las = G.las ∧ Gr.lV = G.lV
set_option maxRecDepth 100000 in
set_option maxHeartbeats 1000000 in
theorem declare_any {w : World} {tag : Nat → RT} {base rb nb lb : Nat} {G : RG} (h : RdW w tag base rb nb lb G) (kd : Int) (hk : kd = 0 ∨ isK kd) (a : Option Addr) (n cap : Nat) (ts : List Tx) (hn : ts.length = n) (hs : WsT w tag a ts) (hb : (G.nms kd).length + n < 1048576) :
 Calls Tryz.prog 97 #[ptrV rb, .int .u8 kd, .slice a n cap] w (Out w tag base rb nb lb G.line (DeclP kd ts G) (DeclE kd ts G)) := by
 unfold ptrV
 have cl := h.lineC
 have hnb : n < 4294967281 := by omega
 by_cases h0 : kd = 0
 ·subst h0
  have HX := hide (Ext.refl w tag)
  go_enter Tryz.func97, Tryz.ntmps97
  go_wp2_with fail
  refine (demand_no 2 cl).mono ?_
  rintro e w3 ⟨rfl, rfl⟩
  exact ⟨rfl, .inr ⟨tag, 2, rfl, HX.out, .inl ⟨.inl rfl, rfl⟩⟩⟩
 ·have hk : isK kd := hk.resolve_left h0
  have hkd : (kd != 0) = true := by simpa using h0
  by_cases hn0 : n = 0
  ·subst hn0
   have ht : ts = [] := List.eq_nil_of_length_eq_zero hn
   replace ht := hide ht
   have HX := hide (Ext.refl w tag)
   clear hn
   go_enter Tryz.func97, Tryz.ntmps97
   go_wp2_with fail
   refine (demand_no 2 cl).mono ?_
   rintro e w3 ⟨rfl, rfl⟩
   exact ⟨rfl, .inr ⟨tag, 2, rfl, HX.out, .inl ⟨.inr (.inl ht.out), rfl⟩⟩⟩
  ·have hpos : (0 : Int) < n := by omega
   have hne : Hid (ts ≠ []) := by (unfold Hid; intro e; rw [e] at hn; simp at hn; omega)
   have hA := areNames_any a n cap ts w hn hs.ws hnb
   cases ha : ts.all isNam with
   | false =>
    rw [ha] at hA
    have HX := hide (Ext.refl w tag)
    replace ha := hide ha
    go_enter Tryz.func97, Tryz.ntmps97
    go_wp2_with fail
    refine hA.mono ?_
    rintro e w2 ⟨rfl, rfl⟩
    go_wp2_with fail
    refine (demand_no 2 cl).mono ?_
    rintro e w3 ⟨rfl, rfl⟩
    exact ⟨rfl, .inr ⟨tag, 2, rfl, HX.out, .inl ⟨.inr (.inr ha.out), rfl⟩⟩⟩
   | true =>
    rw [ha] at hA
    have c8 := h.lisC
    have hlk : (Instr.lookup 131 (.map (some lb)) (.int .u8 kd) false).run Tryz.prog w = .ok (.pointer (some ⟨rb, offK kd, none⟩)) w := by
     obtain ⟨m, hM⟩ := h.lists
     have := hM.look Tryz.u8Key Tryz.underlying131 (z := .pointer none) (by kernel_rfl) kd
     have e : listF rb kd = some (.pointer (some ⟨rb, offK kd, none⟩)) := by unfold listF; rw [if_pos (show kd = 118 ∨ kd = 102 ∨ kd = 109 ∨ kd = 116 from hk)]
     rw [e] at this
     exact this
    have hJ0 : Hid (DeclJ w tag base rb nb lb kd ts G 0 w tag G) := ⟨h, Ext.refl w tag, by simp, rfl, fun _ _ => rfl, rfl, rfl, rfl, rfl, rfl, rfl, rfl⟩
    replace ha := hide ha
    replace hs := hide hs
    replace hn := hide hn
    replace hb := hide hb
    have h1 := hide (⟨hk, h0⟩ : _ ∧ _)
    clear hk
    clear h
    go_enter Tryz.func97, Tryz.ntmps97
    go_wp2_with fail
    refine hA.mono ?_
    rintro e w2 ⟨rfl, rfl⟩
    go_wp2_with fail
    refine (demand_yes rb 2 _).mono ?_
    rintro e w3 ⟨rfl, rfl⟩
    go_wp2_with fail
    go_loopw [30] (fun iv wr => ∃ (i : Nat) (tr : Nat → RT) (Gr : RG), i ≤ n ∧ iv = .int .i64 i ∧ DeclJ w3 tag base rb nb lb kd ts G i wr tr Gr) (fun iv _ => n - (intOf iv).toNat)
    case atStart => exact ⟨0, tag, G, Nat.zero_le _, rfl, hJ0.out⟩
    case round =>
     clear cl c8 hlk hJ0 hA
     obtain ⟨i, tr, Gr, hi, rfl, hJ⟩ := hrel
     obtain ⟨hk, h0⟩ := h1.out
     have hr := hJ.rd
     have cR := hr.rowC hk
     have hrl := hr.lt hr.trd (by simp)
     obtain ⟨ra, rcap, hV⟩ := rowV_len (hr.rows kd hk)
     have cL := hr.lineC
     rw [hJ.line] at cL
     by_cases h5 : i < n
     ·obtain ⟨b, off, rfl, _, cw, _⟩ := (hs.out.ext hJ.ext) i (by have := hn.out; omega)
      have hlt : (i : Int) < (n : Int) := by omega
      have cN := hr.namC
      have hlook := hr.names.look (ts.getD i [])
      obtain ⟨w', hrun, cR', g, cap', w3', hrun3, cR3, fR3, tag3, hR3, hX3⟩ := hr.decl hk (ts.getD i []) (by have := hJ.len; have := hb.out; omega)
      have hdrop : ts.drop i = ts.getD i [] :: ts.drop (i + 1) := by
       have hi' : i < ts.length := by have := hn.out; omega
       rw [List.drop_eq_getElem_cons hi', List.getD_eq_getElem?_getD, List.getElem?_eq_getElem hi']; rfl
      have hall := hJ.all
      rw [hdrop] at hall
      have HE := hide (⟨hJ, hall, hR3, hX3⟩ : _ ∧ _ ∧ _ ∧ _)
      clear hJ hall hR3 hX3 hdrop
      generalize ts.getD i [] = t at *
      rw [hV] at cR cR' cR3 hrun3
      replace hV := hide hV
      rcases hlook with ⟨h6, h7⟩ | ⟨k6, n6, e6, h6, h7, _⟩
      ·have hpe := ptr_nil_eq
       replace h6 := hide h6
       clear hr hk
       go_wp2_with fail
       refine (demand_yes rb 3 _).mono ?_
       rintro e w4 ⟨rfl, rfl⟩
       go_wp2_with fail
       go_region
       all_goals
        go_wp2_with (at_builtin; refine wpList_append_run rfl _ _ _ rfl rfl rfl rfl hrun3 ?_)
        go_roundw
        case rel =>
         obtain ⟨hJ, hall, hR3, hX3⟩ := HE.out
         refine ⟨i + 1, tag3, _, by omega, by go_num, hR3, hJ.ext.trans hX3, ?_, ?_, fun k hk => ?_, hJ.line, hJ.rest⟩
         ·rw [hall]
          have e1 : (Gr.decl kd t (.slice (some ⟨g, 0, none⟩) ((Gr.nms kd).length + 1) cap')).nms kd = Gr.nms kd ++ [t] := putZ_same _ _ _
          rw [e1]
          conv => lhs; unfold declAll
          rw [h6.out]
          rfl
         ·have e1 : (Gr.decl kd t (.slice (some ⟨g, 0, none⟩) ((Gr.nms kd).length + 1) cap')).nms kd = Gr.nms kd ++ [t] := putZ_same _ _ _
          rw [e1, List.length_append, hJ.len]; simp; omega
         ·have e1 : (Gr.decl kd t (.slice (some ⟨g, 0, none⟩) ((Gr.nms kd).length + 1) cap')).nms k = Gr.nms k := putZ_other _ hk
          rw [e1]; exact hJ.oth k hk
        case measure => simp [intOf]; omega
      ·replace h6 := hide h6
       unfold ptrV at h7
       clear hr hk
       go_wp2_with fail
       refine (demand_no 3 cL).mono ?_
       rintro e w4 ⟨rfl, rfl⟩
       obtain ⟨hJ, hall, _⟩ := HE.out
       refine ⟨rfl, .inr ⟨tr, 3, rfl, hJ.ext, .inr ⟨⟨h0, hne.out, ha.out⟩, .inl ⟨?_, rfl⟩⟩⟩⟩
       rw [hall]
       unfold declAll
       rw [h6.out]
     ·replace hJ := hide hJ
      rw [hV] at cR
      replace hV := hide hV
      have hall : Hid (declAll kd G.N (G.nms kd) ts = some (Gr.N, Gr.nms kd)) := by
       have := hJ.out.all
       rw [List.drop_of_length_le (by have := hn.out; omega)] at this
       exact this
      clear hr hk
      by_cases h7 : (Gr.nms kd).length ≤ 4
      ·have h7' : ((Gr.nms kd).length : Int) ≤ 4 := by omega
       go_wp2_with fail
       refine (demand_yes rb 4 _).mono ?_
       rintro e w4 ⟨rfl, rfl⟩
       go_wp2_with fail
       go_end0
       have hJ := hJ.out
       exact .inl ⟨tr, Gr, rfl, hJ.rd, hJ.ext, h0, hne.out, ha.out, hall.out, h7, hJ.oth, hJ.line, hJ.rest⟩
      ·have h7' : ¬ ((Gr.nms kd).length : Int) ≤ 4 := by omega
       go_wp2_with fail
       refine (demand_no 4 cL).mono ?_
       rintro e w4 ⟨rfl, rfl⟩
       exact ⟨rfl, .inr ⟨tr, 4, rfl, hJ.out.ext, .inr ⟨⟨h0, hne.out, ha.out⟩, .inr ⟨⟨_, hall.out, by show 4 < (Gr.nms kd).length; omega⟩, rfl⟩⟩⟩⟩
end Go.Proofs.YtcfpedjfofpnkaaGreatDoor
