import Derived.Test.YtiaedjnedoemoabDoorStNext
import Derived.Test.YtiaedjnedoemoabDoorDjFlow
import Derived.Test.YtiaedjnedoemoabDoorDjSaid
namespace Go.Proofs.YtiaedjnedoemoabDoor
open Go.RowKit Go.Proofs.Ord

theorem flowW_made {w : World} (L : Nat → Ev) (c : Nat → Bool) : FlowW (fun _ => False) (w.alloc (.map #[] 0)) w.heap.size L c 0 :=
  ⟨id, fun x h => h.elim, _, _, _, KMap.made w, ⟨(fun d v h => by cases h), fun d _ u => rfl⟩, flowN_zero L c⟩
theorem FlowW.kept {S : Nat → Prop} {w w' : World} {F : Nat} {L : Nat → Ev} {c : Nat → Bool} {k : Nat} (h : FlowW S w F L c k) (hs : w.heap.size ≤ w'.heap.size) (hF : w'.heap[F]? = w.heap[F]?) (hb : ∀ b, S b → w'.heap[b]? = w.heap[b]?) : FlowW S w' F L c k := by
  obtain ⟨h1, h2, f, n, R, h3, h4, h5⟩ := h
  exact ⟨h1, fun x hx => by have := h2 x hx; omega, f, n, R, h3.same hF, h4.kept hs hb, h5⟩
theorem FlowW.below {S : Nat → Prop} {w w' : World} {F : Nat} {L : Nat → Ev} {c : Nat → Bool} {k : Nat} (h : FlowW S w F L c k) (hb : Below w.heap.size w w') : FlowW S w' F L c k :=
  h.kept hb.size (by obtain ⟨_, _, f, n, R, h3, _⟩ := h; exact hb.block _ h3.lt) fun b hS => hb.block b (h.lt b hS)
theorem FlowW.mapLt {S : Nat → Prop} {w : World} {F : Nat} {L : Nat → Ev} {c : Nat → Bool} {k : Nat} (h : FlowW S w F L c k) : F < w.heap.size := by
  obtain ⟨_, _, f, n, R, h3, _⟩ := h; exact h3.lt

/-- The rows so far: their list, each in new memory that nothing else is in. -/
structure RowsN (B F : Nat) (S : Nat → Prop) (v : Value) (A : Nat → Option Addr) (C : Nat → Nat) (L : Nat → Ev) (th k : Nat) (w : World) : Prop where
  own : w.ownsRow B 47 1 v k ((List.range k).map fun q => Value.slice (A q) (stamp L th q).length (C q))
  vout : ∀ g, v.ownBlock = some g → ¬ S g ∧ g ≠ F
  row : ∀ q, q < k → New B w (.slice (A q) (stamp L th q).length (C q)) (stamp L th q)
  rout : ∀ q b off, q < k → A q = some ⟨b, off, none⟩ → 0 < (stamp L th q).length → b < w.heap.size ∧ ¬ S b ∧ b ≠ F ∧ v.ownBlock ≠ some b
  apart : ∀ q q' b off b' off', q < k → q' < k → q ≠ q' → A q = some ⟨b, off, none⟩ → A q' = some ⟨b', off', none⟩ → 0 < (stamp L th q).length → 0 < (stamp L th q').length → b ≠ b'

theorem new_kept {B : Nat} {w w' : World} {a : Option Addr} {n cap : Nat} {zs : List Int} (h : New B w (.slice a n cap) zs) (hs : w.heap.size ≤ w'.heap.size) (hb : ∀ b off, a = some ⟨b, off, none⟩ → 0 < zs.length → w'.heap[b]? = w.heap[b]?) : New B w' (.slice a n cap) zs := by
  obtain ⟨a', cap', e, h1, h2, h3, h4⟩ := h
  cases e
  refine ⟨_, _, rfl, h1, h2, h3, fun i hi => ?_⟩
  obtain ⟨b, off, e1, e2, e3, e4, e5⟩ := h4 i hi
  have hbb := hb b off e1 (by omega)
  exact ⟨b, off, e1, e2, by omega, (World.cell?_of_block (w := w) (a := ⟨b, off + i, none⟩) hbb).trans e4, (World.frozen?_of_block (w := w) (a := ⟨b, off + i, none⟩) hbb).trans e5⟩

theorem owns_kept {w w' : World} {base e size n : Nat} {v : Value} {xs : List Value} (h : w.ownsRow base e size v n xs) (hb : ∀ g, v.ownBlock = some g → w'.heap[g]? = w.heap[g]?) : w'.ownsRow base e size v n xs := by
  refine ⟨h.1, ?_⟩
  rcases h.2 with hn | ⟨g, cap, cur, rfl, hB, hg, rest⟩
  · exact .inl hn
  · exact .inr ⟨g, cap, cur, rfl, hB, (hb g rfl).trans hg, rest⟩

theorem RowsN.kept {B F : Nat} {S S' : Nat → Prop} {v : Value} {A : Nat → Option Addr} {C : Nat → Nat} {L : Nat → Ev} {th k : Nat} {w w' : World} (h : RowsN B F S v A C L th k w) (hs : w.heap.size ≤ w'.heap.size)
    (hb : ∀ b, b < w.heap.size → ¬ S b → b ≠ F → w'.heap[b]? = w.heap[b]?) (hS : ∀ b, b < w.heap.size → S' b → S b) : RowsN B F S' v A C L th k w' := by
  refine ⟨owns_kept h.own fun g hg => hb g (h.own.lt g hg).2 (h.vout g hg).1 (h.vout g hg).2, fun g hg => ⟨fun hs' => (h.vout g hg).1 (hS g (h.own.lt g hg).2 hs'), (h.vout g hg).2⟩, fun q hq => new_kept (h.row q hq) hs fun b off e h0 => ?_, fun q b off hq e h0 => ?_, h.apart⟩
  · obtain ⟨h1, h2, h3, _⟩ := h.rout q b off hq e h0
    exact hb b h1 h2 h3
  · obtain ⟨h1, h2, h3, h4⟩ := h.rout q b off hq e h0
    exact ⟨by omega, fun hs' => h2 (hS b h1 hs'), h3, h4⟩

/-- One more row. -/
theorem RowsN.step {B F : Nat} {S : Nat → Prop} {v v' : Value} {A : Nat → Option Addr} {C : Nat → Nat} {L : Nat → Ev} {th k : Nat} {w0 w w' : World} {a : Option Addr} {cap : Nat} (h : RowsN B F S v A C L th k w) (hB0 : w0.heap.size ≤ w.heap.size) (hB : B ≤ w0.heap.size)
    (hn : New w0.heap.size w (.slice a (stamp L th k).length cap) (stamp L th k)) (hold : ∀ q b off, q < k → A q = some ⟨b, off, none⟩ → 0 < (stamp L th q).length → b < w0.heap.size) (hvold : ∀ g, v.ownBlock = some g → g < w0.heap.size) (hSold : ∀ b, S b → b < w0.heap.size) (hFold : F < w0.heap.size)
    (hown : w'.ownsRow B 47 1 v' (k + 1) (((List.range k).map fun q => Value.slice (A q) (stamp L th q).length (C q)) ++ [.slice a (stamp L th k).length cap])) (hg : w.grownBy w' v.ownBlock) (hat : v'.ownBlock = v.ownBlock ∨ v'.ownBlock = some w.heap.size) :
    RowsN B F S v' (fun q => if q = k then a else A q) (fun q => if q = k then cap else C q) L th (k + 1) w' := by
  have hak : ∀ b off, a = some ⟨b, off, none⟩ → 0 < (stamp L th k).length → w0.heap.size ≤ b ∧ b < w.heap.size := fun b off e h0 => by
    obtain ⟨a', cap', e', _, _, _, h4⟩ := hn
    cases e'
    obtain ⟨b', off', e1, e2, e3, _⟩ := h4 0 h0
    rw [e] at e1; cases e1; exact ⟨e2, e3⟩
  have hnv : ∀ b, b < w.heap.size → v.ownBlock ≠ some b → w'.heap[b]? = w.heap[b]? := fun b h1 h2 => hg.block b h1 (fun e => h2 e.symm)
  refine ⟨?_, fun g hgv => ?_, fun q hq => ?_, fun q b off hq e h0 => ?_, fun q q' b off b' off' hq hq' hne e e' h0 h0' => ?_⟩
  · have e : ((List.range (k + 1)).map fun q => Value.slice (if q = k then a else A q) (stamp L th q).length (if q = k then cap else C q)) = ((List.range k).map fun q => Value.slice (A q) (stamp L th q).length (C q)) ++ [.slice a (stamp L th k).length cap] := by
      rw [List.range_succ, List.map_append]
      congr 1
      · apply List.map_congr_left
        intro q hq
        have := List.mem_range.1 hq
        rw [if_neg (by omega), if_neg (by omega)]
      · simp
    rw [e]; exact hown
  · rcases hat with h1 | h1
    · exact h.vout g (h1 ▸ hgv)
    · rw [h1] at hgv; cases hgv
      exact ⟨fun hs => by have := hSold _ hs; omega, by omega⟩
  · by_cases e : q = k
    · subst e
      simp only [if_true]
      refine new_kept (w := w) ?_ hg.size fun b off e h0 => hnv b (hak b off e h0).2 (fun e2 => by have := hvold b e2; have := (hak b off e h0).1; omega)
      obtain ⟨a', cap', e', h1, h2, h3, h4⟩ := hn
      cases e'
      refine ⟨_, _, rfl, h1, h2, h3, fun i hi => ?_⟩
      obtain ⟨b, off, f1, f2, f3⟩ := h4 i hi
      exact ⟨b, off, f1, by omega, f3⟩
    · simp only [e, if_false]
      exact new_kept (h.row q (by omega)) hg.size fun b off e2 h0 => by
        obtain ⟨h1, _, _, h4⟩ := h.rout q b off (by omega) e2 h0
        exact hnv b h1 h4
  · have hz := hg.size
    by_cases e2 : q = k
    · subst e2
      simp only [if_true] at e
      obtain ⟨h1, h2⟩ := hak b off e h0
      refine ⟨by omega, fun hs => by have := hSold _ hs; omega, by omega, fun e3 => ?_⟩
      rcases hat with h3 | h3
      · rw [h3] at e3; have := hvold b e3; omega
      · rw [h3] at e3; cases e3; omega
    · simp only [e2, if_false] at e
      obtain ⟨h1, h2, h3, h4⟩ := h.rout q b off (by omega) e h0
      refine ⟨by omega, h2, h3, fun e3 => ?_⟩
      rcases hat with h5 | h5
      · rw [h5] at e3; exact h4 e3
      · rw [h5] at e3; cases e3; omega
  · by_cases e2 : q = k
    · by_cases e3 : q' = k
      · omega
      · subst e2
        simp only [if_true] at e
        simp only [e3, if_false] at e'
        have := hak b off e h0
        have := hold q' b' off' (by omega) e' h0'
        omega
    · by_cases e3 : q' = k
      · subst e3
        simp only [if_true] at e'
        simp only [e2, if_false] at e
        have := hak b' off' e' h0'
        have := hold q b off (by omega) e h0
        omega
      · simp only [e2, if_false] at e
        simp only [e3, if_false] at e'
        exact h.apart q q' b off b' off' (by omega) (by omega) hne e e' h0 h0'

theorem RowsN.start (B F : Nat) (S : Nat → Prop) (A : Nat → Option Addr) (C : Nat → Nat) (L : Nat → Ev) (th : Nat) (w : World) : RowsN B F S (.slice none 0 0) A C L th 0 w :=
  ⟨World.ownsRow_nil _ _ _ _, (fun g h => by cases h), fun q hq => absurd hq (by omega), fun q b off hq => absurd hq (by omega), fun q q' b off b' off' hq => absurd hq (by omega)⟩

/-- What is answered. -/
theorem RowsN.done {B F : Nat} {S : Nat → Prop} {v : Value} {A : Nat → Option Addr} {C : Nat → Nat} {l : List Ev} {th : Nat} {w : World} (h : RowsN B F S v A C (ev l) th l.length w) : ∃ a' cap', v = .slice a' l.length cap' ∧ RowsNew B w a' cap' A C (stampRows l th) := by
  have hl := stampRows_length l th
  have hrow : ∀ i, i < (stampRows l th).length → New B w (.slice (A i) ((stampRows l th).getD i []).length (C i)) ((stampRows l th).getD i []) := fun i hi => by
    rw [stampRows_getD l th i (by omega)]; exact h.row i (by omega)
  have hap : ∀ i j, i < (stampRows l th).length → j < (stampRows l th).length → i ≠ j → ∀ bi oi bj oj ki kj, A i = some ⟨bi, oi, none⟩ → A j = some ⟨bj, oj, none⟩ → ki < ((stampRows l th).getD i []).length → kj < ((stampRows l th).getD j []).length → ¬ (bi = bj ∧ oi + ki = oj + kj) := by
    intro i j hi hj hne bi oi bj oj ki kj e1 e2 h1 h2 h3
    rw [stampRows_getD l th i (by omega)] at h1
    rw [stampRows_getD l th j (by omega)] at h2
    exact h.apart i j bi oi bj oj (by omega) (by omega) hne e1 e2 (by omega) (by omega) h3.1
  rcases h.own.2 with ⟨rfl, h0⟩ | ⟨g, cap, cur, rfl, hB, hg, hc, hm, _, _⟩
  · exact ⟨none, 0, by rw [h0], by omega, by unfold maxLen; omega, fun i hi => absurd hi (by omega), hrow, hap⟩
  · refine ⟨_, cap, rfl, by omega, hm, fun i hi => ⟨g, 0, rfl, hB, (Array.getElem?_eq_some_iff.1 hg).1, ?_, fun j bj oj hj e h0 => ?_⟩, hrow, hap⟩
    · rw [Nat.zero_add, World.ownsRow.cellAt h.own i (by omega), stampRows_getD l th i (by omega)]
      simp [show i < l.length by omega]
    · rw [stampRows_getD l th j (by omega)] at h0
      intro e2
      exact (h.rout j bj oj (by omega) e h0).2.2.2 (by rw [e2]; rfl)

theorem cnts_at (L : Nat → Ev) (th k : Nat) (t kd o v : Int) (h : L k = ⟨t, kd, o, v⟩) : cnts L th k = (decide (0 ≤ t) && decide (t < th)) := by unfold cnts; rw [h]

set_option maxRecDepth 100000 in
set_option maxHeartbeats 2000000 in
theorem stamps_said : StampsSaid := by
  intro a n cap l th w hn hs hc hm hb hth hthr
  obtain ⟨i1, hi1, hy0, hy1, hy2⟩ := info_parts Tryd.infois
  have hmm := @run_makeMap Tryd.prog
  have hthr := hide hthr
  have h0 : ¬ ((th : Int) < 0) := by omega
  have h1 : ¬ (64 < (th : Int)) := by omega
  go_enter Tryd.func17, Tryd.ntmps17
  go_wp2_with fail
  go_loopw [5, 8, 9, 19] (fun v _ _ kv wr => ∃ (k : Nat) (S : Nat → Prop) (A : Nat → Option Addr) (C : Nat → Nat), k ≤ n ∧ kv = .int .i64 k ∧ FlowW S wr w.heap.size (ev l) (cnts (ev l) th) k ∧ RowsN w.heap.size w.heap.size S v A C (ev l) th k wr ∧ Below w.heap.size w wr) (fun _ _ _ kv _ => n - (intOf kv).toNat)
  case atStart => exact ⟨0, _, fun _ => none, fun _ => 0, Nat.zero_le _, rfl, flowW_made _ _, RowsN.start _ _ _ _ _ _ _ _, (Below.refl _ _).alloc (Nat.le_refl _) _⟩
  case round =>
    obtain ⟨k, S, A, C, hk, rfl, hF, hR, hbel⟩ := hrel
    have hsz := hbel.size
    by_cases h5 : k < n
    · obtain ⟨b, off, rfl, hlt, _⟩ := hs k (by omega)
      obtain ⟨t, kd, o, v, HE, c0, c1, c2, c3⟩ := hs.at hbel (i := k) (by omega)
      have htr : In64 t := by have := hthr.out k (by omega); rw [HE.out] at this; exact this
      obtain ⟨W1, hW1⟩ : ∃ W1, wr.alloc (.cells #[.int .i64 t, .int .i64 kd, .int .i64 o, .int .i64 v] 35) = W1 := ⟨_, rfl⟩
      have hbW : Below wr.heap.size wr W1 := by rw [← hW1]; exact (Below.refl _ _).alloc (Nat.le_refl _) _
      have hz1 : W1.heap.size = wr.heap.size + 1 := by rw [← hW1]; simp
      have d0 : W1.cell? ⟨wr.heap.size, 0, none⟩ = some (.int .i64 t) := by rw [← hW1]; simp
      have d1 : W1.cell? ⟨wr.heap.size, 1, none⟩ = some (.int .i64 kd) := by rw [← hW1]; simp
      have d2 : W1.cell? ⟨wr.heap.size, 2, none⟩ = some (.int .i64 o) := by rw [← hW1]; simp
      have d3 : W1.cell? ⟨wr.heap.size, 3, none⟩ = some (.int .i64 v) := by rw [← hW1]; simp
      have hFl := hF.mapLt
      have hlow : Hid (∀ q b off, q < k → A q = some ⟨b, off, none⟩ → 0 < (stamp (ev l) th q).length → b < wr.heap.size) := fun q b off hq e h0 => (hR.rout q b off hq e h0).1
      have hvlow : Hid (∀ g, Value.ownBlock u5 = some g → g < wr.heap.size) := fun g hg => (hR.own.lt g hg).2
      obtain ⟨cb, hcb, hcase⟩ : ∃ cb, Hid (cnts (ev l) th k = cb) ∧ ((decide (0 ≤ t) = false ∧ t < 0 ∧ cb = false) ∨ (decide (0 ≤ t) = true ∧ 0 ≤ t ∧ t < (th : Int) ∧ cb = true) ∨ (decide (0 ≤ t) = true ∧ 0 ≤ t ∧ (th : Int) ≤ t ∧ decide (t < (th : Int)) = false ∧ cb = false)) := by
        refine ⟨_, rfl, ?_⟩
        rw [cnts_at _ _ _ _ _ _ _ HE.out]
        by_cases g0 : 0 ≤ t
        · by_cases g1 : t < (th : Int)
          · right; left; exact ⟨decide_eq_true g0, g0, g1, by rw [decide_eq_true g0, decide_eq_true g1]; rfl⟩
          · right; right; exact ⟨decide_eq_true g0, g0, by omega, decide_eq_false g1, by rw [decide_eq_false g1, Bool.and_false]⟩
        · left; exact ⟨decide_eq_false g0, by omega, by rw [decide_eq_false g0]; rfl⟩
      have NX := hide (next_any t kd o v W1 (hF.below hbW) HE.out htr (by omega))
      rw [hcb.out] at NX
      have hR1 : RowsN w.heap.size w.heap.size S u5 A C (ev l) th k W1 := hR.kept hbW.size (fun b hb _ _ => hbW.block b hb) (fun b _ h => h)
      have hVX : Hid (∀ (w2 : World) (s : Value), StampV (SN S W1 w2) w2 s (stampN (ev l) (cnts (ev l) th) k) → FlowW (SN S W1 w2) w2 w.heap.size (ev l) (cnts (ev l) th) (k + 1) → W1.grownBy w2 (some w.heap.size) →
          RowsN w.heap.size w.heap.size (SN S W1 w2) u5 A C (ev l) th k w2 ∧ Below w.heap.size w w2 ∧ Calls Tryd.prog 30 #[s] w2 fun e w' => ∃ a cap, e = .returned (.slice a (stamp (ev l) th k).length cap) ∧ New w2.heap.size w' (.slice a (stamp (ev l) th k).length cap) (stamp (ev l) th k) ∧ Below w2.heap.size w2 w') := by
        intro w2 s hst hF2 hg2
        refine ⟨hR1.kept hg2.size (fun b hb hns hnf => hg2.block b hb (by simpa using hnf)) (fun b hb h => h.elim id fun h => by omega), ?_, ?_⟩
        · exact (hbel.trans (hbW.mono hsz)).grown hg2 (by omega) (fun q e => by cases e; exact Nat.le_refl _)
        · obtain ⟨pg, hpg, hp⟩ := hst
          refine (vector_any w2 hp).mono ?_
          rintro e w' ⟨u, rfl, hn', hb'⟩
          rw [vector_stamp hth hp.len64 hpg] at hn'
          obtain ⟨a', cap', rfl, _⟩ := id hn'
          exact ⟨a', cap', rfl, hn', hb'⟩
      have hFX : Hid (∀ (w2 w3 w4 : World) (v' : Value) (av : Option Addr) (cv : Nat), wr.heap.size ≤ w2.heap.size → FlowW (SN S W1 w2) w2 w.heap.size (ev l) (cnts (ev l) th) (k + 1) → RowsN w.heap.size w.heap.size (SN S W1 w2) u5 A C (ev l) th k w2 → Below w.heap.size w w2 → New w2.heap.size w3 (.slice av (stamp (ev l) th k).length cv) (stamp (ev l) th k) → Below w2.heap.size w2 w3 →
          w4.ownsRow w.heap.size 47 1 v' (k + 1) (((List.range k).map fun q => Value.slice (A q) (stamp (ev l) th q).length (C q)) ++ [.slice av (stamp (ev l) th k).length cv]) → (w3.alloc (.cells #[.slice av (stamp (ev l) th k).length cv] 47)).grownBy w4 (Value.ownBlock u5) → (v'.ownBlock = Value.ownBlock u5 ∨ v'.ownBlock = some (w3.alloc (.cells #[.slice av (stamp (ev l) th k).length cv] 47)).heap.size) →
          ∃ (S : Nat → Prop) (A : Nat → Option Addr) (C : Nat → Nat), FlowW S w4 w.heap.size (ev l) (cnts (ev l) th) (k + 1) ∧ RowsN w.heap.size w.heap.size S v' A C (ev l) th (k + 1) w4 ∧ Below w.heap.size w w4) := by
        intro w2 w3 w4 v' av cv hzw hF2 hR2 hb2 hn3 hb3 hown hgr hat
        have hz12 := hF2.mapLt
        have hz3 := hb3.size
        have hb3' : Below w2.heap.size w2 (w3.alloc (.cells #[.slice av (stamp (ev l) th k).length cv] 47)) := hb3.alloc hz3 _
        have hbA : Below w3.heap.size w3 (w3.alloc (.cells #[.slice av (stamp (ev l) th k).length cv] 47)) := (Below.refl _ _).alloc (Nat.le_refl _) _
        have hR3 := hR2.kept hb3'.size (fun b hb _ _ => hb3'.block b hb) (fun b _ h => h)
        have hgz := hgr.size
        refine ⟨_, _, _, hF2.kept (w' := w4) (by have := hb3'.size; omega) ?_ ?_, hR3.step (w0 := w2) hb3'.size hb2.size (hn3.below hbA (Nat.le_refl _)) (fun q b off hq e h0 => Nat.lt_of_lt_of_le (hlow.out q b off hq e h0) hzw) (fun g hg => Nat.lt_of_lt_of_le (hvlow.out g hg) hzw) hF2.lt hz12 hown hgr hat, ?_⟩
        · exact (hgr.block _ (by have := hb3'.size; omega) (fun e => (hR2.vout _ e.symm).2 rfl)).trans (hb3'.block _ hz12)
        · exact fun b hS => (hgr.block b (by have := hb3'.size; have := hF2.lt b hS; omega) (fun e => (hR2.vout _ e.symm).1 hS)).trans (hb3'.block b (hF2.lt b hS))
        · exact (hb2.trans (hb3'.mono hb2.size)).grown hgr (by have := hb3'.size; have := hb2.size; omega) (fun q e => (hR2.own.lt q e).1)
      clear hF hR hR1
      rcases hcase with ⟨g0, g1, rfl⟩ | ⟨g0, g1, g2, rfl⟩ | ⟨g0, g1, g2, g3, rfl⟩
      all_goals
        go_wp2_with fail
        refine NX.out.mono ?_
        rintro e w2 ⟨s2, rfl, hst, hF2, hg2⟩
        obtain ⟨hR2, hb2, HV⟩ := hVX.out w2 s2 hst hF2 hg2
        have HV := hide HV
        have HR2 := hide hR2
        have HF2 := hide hF2
        have hzw : wr.heap.size ≤ w2.heap.size := by have := hg2.size; omega
        have hown := hR2.own
        clear hst hg2 hR2 hF2
        go_wp2_with fail
        refine HV.out.mono ?_
        rintro e w3 ⟨av, cv, rfl, hn3, hb3⟩
        have hown3 := owns_kept hown (fun g hg => hb3.block g (hown.lt g hg).2)
        have hz3 := hb3.size
        have hz2 := hb2.size
        clear hown
        have HN3 := hide hn3
        clear hn3
        go_wp2_with (at_builtin; refine wpList_append_own_at _ rfl _ _ 45 rfl w.heap.size 47 i1 (.slice none 0 0) 1 24 Tryd.underlying45 hi1 hy0 hy1 hy2 rfl (by decide) _ _ _ rfl (hown3.alloc _) ⟨_, 0, none⟩ 1 1 [_] rfl rfl (cell_one_new _ _ _) (by simp [Value.oneCell']) (by unfold maxLen; omega) (by omega) (by simp; omega) ?_; intro v' w4 hown' hgrow _ hat)
        obtain ⟨S', A', C', q1, q2, q3⟩ := hFX.out w2 w3 w4 v' av cv hzw HF2.out HR2.out hb2 HN3.out hb3 hown' hgrow hat
        clear hown' hgrow hat hown3 hb3 hb2
        go_wp2_with fail
        go_roundw
        case rel => exact ⟨k + 1, S', A', C', by omega, by go_num, q1, q2, q3⟩
        case measure => simp [intOf]; omega
    · obtain rfl : k = n := by omega
      subst hn
      obtain ⟨a', cap', hv, hnew⟩ := hR.done
      have HN := hide hnew
      clear hR hF hnew
      subst hv
      go_wp2_with fail
      go_ret
      exact ⟨a', cap', A, C, rfl, HN.out, hbel⟩

set_option maxRecDepth 100000 in
set_option maxHeartbeats 400000 in
theorem stampsNo_said : StampsNoSaid := by
  intro a n cap l th w hn hs hc hm hb hth
  have hlt : (th < 0) ∨ (¬ th < 0 ∧ 64 < th) := by omega
  rcases hlt with h0 | ⟨h0, h1⟩
  all_goals
    go_enter Tryd.func17, Tryd.ntmps17
    go_wp2
    go_ret
    exact ⟨rfl, Below.refl _ _⟩
end Go.Proofs.YtiaedjnedoemoabDoor
