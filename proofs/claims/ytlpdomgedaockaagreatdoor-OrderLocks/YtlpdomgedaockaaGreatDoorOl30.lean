import Derived.Test.YtlpdomgedaockaaGreatDoorOl29
set_option linter.unusedVariables false
set_option linter.unusedSimpArgs false
namespace Go.Proofs.YtlpdomgedaockaaGreatDoor
open Go.RowKit Go.Proofs.Ord

theorem SetO.kept {B : Nat} {W W' : World} {v : Value} {ws : List Nat} (h : SetO B W v ws) (hb : ∀ b, v.ownBlock = some b → W'.heap[b]? = W.heap[b]?) : SetO B W' v ws := by
  refine ⟨⟨h.1.1, ?_⟩, h.2⟩
  rcases h.1.2 with hn | ⟨g, cap, cur, rfl, hB, hg, rest⟩
  · exact .inl hn
  · exact .inr ⟨g, cap, cur, rfl, hB, (hb g rfl).trans hg, rest⟩
theorem SetO.lt {B : Nat} {W : World} {v : Value} {ws : List Nat} (h : SetO B W v ws) : ∀ b, v.ownBlock = some b → B ≤ b ∧ b < W.heap.size := h.1.lt
theorem SetO.cells {B : Nat} {W : World} {v : Value} {ws : List Nat} (h : SetO B W v ws) : ∀ b, v.ownBlock = some b → ∃ cur t, W.heap[b]? = some (.cells cur t (0, 0)) := by
  intro b hb
  rcases h.1.2 with ⟨rfl, _⟩ | ⟨g, cap, cur, rfl, _, hg, _⟩
  · simp [Value.ownBlock] at hb
  · simp [Value.ownBlock] at hb; subst hb; exact ⟨cur, _, hg⟩
theorem SetR.kept {W W' : World} {a : Option Addr} {ws : List Nat} (h : SetR W a ws) (hs : W.heap.size ≤ W'.heap.size) (hb : ∀ b, a = some b → W'.heap[b.block]? = W.heap[b.block]?) : SetR W' a ws := fun i hi => by
  obtain ⟨b, off, rfl, hlt, hc⟩ := h i hi
  have hbb := hb ⟨b, off, none⟩ rfl
  exact ⟨b, off, rfl, by omega, (World.cell?_of_block (w := W) (a := ⟨b, off + i, none⟩) hbb).trans hc⟩
theorem SetO.shape {B : Nat} {W : World} {v : Value} {ws : List Nat} (h : SetO B W v ws) : (v = .slice none 0 0 ∧ ws = []) ∨ ∃ g c, v = .slice (some ⟨g, 0, none⟩) ws.length c ∧ ws.length ≤ c := by
  rcases h.1.2 with ⟨rfl, h0⟩ | ⟨g, cap, cur, rfl, _, _, hc, _⟩
  · exact .inl ⟨rfl, List.eq_nil_of_length_eq_zero h0⟩
  · exact .inr ⟨g, cap, rfl, hc⟩
theorem setO_nil (B : Nat) (W : World) : SetO B W (.slice none 0 0) [] := ⟨World.ownsRow_nil _ _ _ _, fun x hx => by cases hx⟩

theorem bit_take {l : List Nat} {k i : Nat} (h : bitOf (l.take k) i = true) : bitOf l i = true := by
  unfold bitOf at h ⊢
  by_cases hk : i / 64 < k
  · have e : (l.take k).getD (i / 64) 0 = l.getD (i / 64) 0 := by simp [hk]
    rwa [e] at h
  · rw [getDN_past (by simp; omega)] at h; simp at h

/-- What the iterator has of its own: a map of sets, each in a block of its own; what each holds. -/
structure Own2 (K B M : Nat) (Q : Int × Int → Nat → Prop) (f : Int × Int → Option Value) (O : Side) (W : World) : Prop where
  map : DMap W M f
  base : B ≤ W.heap.size
  some_ : ∀ d v, f d = some v → ∃ ws, SetO B W v ws ∧ Holds ws K (Q d)
  none_ : ∀ d, f d = none → ∀ i, i < K → ¬ Q d i
  apart : ∀ d d' v v' b, f d = some v → f d' = some v' → d ≠ d' → v.ownBlock = some b → v'.ownBlock ≠ some b
  mapMine : ¬ O M
  mine : ∀ d v b, f d = some v → v.ownBlock = some b → ¬ O b

theorem Own2.notMap {K B M : Nat} {Q : Int × Int → Nat → Prop} {f : Int × Int → Option Value} {O : Side} {W : World} (h : Own2 K B M Q f O W) {d : Int × Int} {v : Value} {b : Nat} (hf : f d = some v) (hb : v.ownBlock = some b) : b ≠ M := by
  obtain ⟨ws, hs, _⟩ := h.some_ d v hf
  obtain ⟨cur, t, hc⟩ := hs.cells b hb
  obtain ⟨es, clock, hm, _⟩ := h.map
  rintro rfl
  rw [hc] at hm; cases hm

/-- It stays what it is where its blocks do. -/
theorem Own2.kept {K B M : Nat} {Q : Int × Int → Nat → Prop} {f : Int × Int → Option Value} {O O' : Side} {W W' : World} (h : Own2 K B M Q f O W) (hs : W.heap.size ≤ W'.heap.size) (hM : W'.heap[M]? = W.heap[M]?)
    (hr : ∀ d v b, f d = some v → v.ownBlock = some b → W'.heap[b]? = W.heap[b]?) (hO : ∀ b, b < W.heap.size → ¬ O b → ¬ O' b) : Own2 K B M Q f O' W' :=
  ⟨h.map.same hM, Nat.le_trans h.base hs, fun d v hf => by obtain ⟨ws, h1, h2⟩ := h.some_ d v hf; exact ⟨ws, h1.kept (hr d v · hf), h2⟩, h.none_, h.apart, hO M h.map.lt h.mapMine,
    fun d v b hf hb => by obtain ⟨ws, h1, _⟩ := h.some_ d v hf; exact hO b (h1.lt b hb).2 (h.mine d v b hf hb)⟩

/-- One door's set is another one. -/
theorem Own2.replace {K B M : Nat} {Q : Int × Int → Nat → Prop} {f : Int × Int → Option Value} {O O' : Side} {W W' : World} (h : Own2 K B M Q f O W) (own : Int × Int) {v' : Value} {ws' : List Nat} {q : Nat → Prop} (hs : W.heap.size ≤ W'.heap.size)
    (hM : DMap W' M (putD f own v')) (hr : ∀ d v b, d ≠ own → f d = some v → v.ownBlock = some b → W'.heap[b]? = W.heap[b]?) (hset : SetO B W' v' ws') (hh : Holds ws' K q)
    (hap : ∀ d v b, d ≠ own → f d = some v → v.ownBlock = some b → v'.ownBlock ≠ some b) (hOO : ∀ b, b < W.heap.size → ¬ O b → ¬ O' b) (hmine : ∀ b, v'.ownBlock = some b → ¬ O' b) : Own2 K B M (fun d i => if d = own then q i else Q d i) (putD f own v') O' W' := by
  refine ⟨hM, Nat.le_trans h.base hs, fun d v hf => ?_, fun d hf i hi => ?_, fun d d' v v'' b hf hf' hne hb => ?_, hOO M h.map.lt h.mapMine, fun d v b hf hb => ?_⟩
  · by_cases hd : d = own
    · subst hd; rw [putD_same] at hf; cases hf; exact ⟨ws', hset, hh.iff fun i _ => by rw [if_pos rfl]⟩
    · rw [putD_other v' hd] at hf
      obtain ⟨ws, h1, h2⟩ := h.some_ d v hf
      exact ⟨ws, h1.kept (hr d v · hd hf), h2.iff fun i _ => by rw [if_neg hd]⟩
  · by_cases hd : d = own
    · subst hd; rw [putD_same] at hf; cases hf
    · rw [putD_other v' hd] at hf; rw [if_neg hd]; exact h.none_ d hf i hi
  · by_cases hd : d = own
    · subst hd
      rw [putD_same] at hf; cases hf
      rw [putD_other v' (fun e => hne e.symm)] at hf'
      intro hb'; exact hap d' v'' b (fun e => hne e.symm) hf' hb' hb
    · rw [putD_other v' hd] at hf
      by_cases hd' : d' = own
      · subst hd'
        rw [putD_same] at hf'; cases hf'
        exact hap d v b hd hf hb
      · rw [putD_other v' hd'] at hf'
        exact h.apart d d' v v'' b hf hf' hne hb
  · by_cases hd : d = own
    · subst hd; rw [putD_same] at hf; cases hf; exact hmine b hb
    · rw [putD_other v' hd] at hf; obtain ⟨ws, h1, _⟩ := h.some_ d v hf; exact hOO b (h1.lt b hb).2 (h.mine d v b hf hb)

theorem Own2.iff {K B M : Nat} {Q Q' : Int × Int → Nat → Prop} {f : Int × Int → Option Value} {O : Side} {W : World} (h : Own2 K B M Q f O W) (hq : ∀ d i, i < K → (Q d i ↔ Q' d i)) : Own2 K B M Q' f O W :=
  ⟨h.map, h.base, fun d v hf => by obtain ⟨ws, h1, h2⟩ := h.some_ d v hf; exact ⟨ws, h1, h2.iff (hq d)⟩, fun d hf i hi h' => h.none_ d hf i hi ((hq d i hi).2 h'), h.apart, h.mapMine, h.mine⟩

/-- While the sets of an event's doors are joined: the set so far, in the memory of the thread's own one, or in new memory. -/
structure Mid (K B : Nat) (v0 : Value) (Wb w2 : World) (p : Value) (ws : List Nat) (P : Nat → Prop) : Prop where
  grew : Wb.grownBy w2 v0.ownBlock
  past : SetO B w2 p ws
  holds : Holds ws K P
  blk : p.ownBlock = v0.ownBlock ∨ ∃ b, p.ownBlock = some b ∧ Wb.heap.size ≤ b
  under : ∃ a0 c0 o, v0 = .slice a0 o.length c0 ∧ (a0 = none ∨ ∃ g, a0 = some ⟨g, 0, none⟩) ∧ o.length ≤ c0 ∧ SetR w2 a0 o ∧ (∀ x, x ∈ o → x < 18446744073709551616) ∧ (∀ i, bitOf o i = true → bitOf ws i = true) ∧
    (∀ g, v0.ownBlock = some g → p.ownBlock = some g → o.length ≤ ws.length ∧ (∀ i, i < o.length → o.getD i 0 = ws.getD i 0)) ∧ o.length ≤ K / 64 + 1

theorem Own2.own {K B M : Nat} {Q : Int × Int → Nat → Prop} {f : Int × Int → Option Value} {O : Side} {W : World} (h : Own2 K B M Q f O W) (d : Int × Int) : ∃ ws, SetO B W ((f d).getD (.slice none 0 0)) ws ∧ Holds ws K (Q d) := by
  cases hf : f d with
  | some v => exact h.some_ d v hf
  | none => exact ⟨[], setO_nil B W, (Holds.nil K (p := fun _ => False) fun _ h => h).iff fun i hi => ⟨False.elim, fun h' => h.none_ d hf i hi h'⟩⟩

theorem Mid.start {K B : Nat} {W : World} {v0 : Value} {ws : List Nat} {P : Nat → Prop} (hs : SetO B W v0 ws) (hh : Holds ws K P) : Mid K B v0 W W v0 ws P := by
  refine ⟨⟨rfl, rfl, rfl, Nat.le_refl _, fun _ _ _ => rfl⟩, hs, hh, .inl rfl, ?_⟩
  obtain ⟨a, cap, e, hc, _, hr⟩ := hs.parts
  refine ⟨a, cap, ws, e, ?_, hc, hr, hs.2, fun i h => h, fun g _ _ => ⟨Nat.le_refl _, fun i _ => rfl⟩, hh.2⟩
  rcases hs.shape with ⟨h1, _⟩ | ⟨g, c, h1, _⟩
  · rw [e, Value.slice.injEq] at h1; exact .inl h1.1
  · rw [e, Value.slice.injEq] at h1; exact .inr ⟨g, h1.1⟩

theorem Mid.more {K B : Nat} {v0 : Value} {Wb w2 w3 : World} {p : Value} {ws : List Nat} {P : Nat → Prop} (h : Mid K B v0 Wb w2 p ws P) (hb : Below w2.heap.size w2 w3) : Mid K B v0 Wb w3 p ws P := by
  refine ⟨⟨hb.os.trans h.grew.os, hb.tape.trans h.grew.tape, hb.output.trans h.grew.output, Nat.le_trans h.grew.size hb.size, fun k hk hne => (hb.block k (Nat.lt_of_lt_of_le hk h.grew.size)).trans (h.grew.block k hk hne)⟩,
    h.past.kept fun b e => hb.block b (h.past.lt b e).2, h.holds, h.blk, ?_⟩
  obtain ⟨a0, c0, o, e, hz, hc, hr, rest⟩ := h.under
  refine ⟨a0, c0, o, e, hz, hc, fun i hi => ?_, rest⟩
  obtain ⟨b, off, ha, hlt, hcell⟩ := hr i hi
  exact ⟨b, off, ha, Nat.lt_of_lt_of_le hlt hb.size, (hb.cell (p := ⟨b, off + i, none⟩) hlt).trans hcell⟩

/-- What a door's set is then. -/
theorem Mid.door {K B M : Nat} {Q : Int × Int → Nat → Prop} {f : Int × Int → Option Value} {O : Side} {Wb w2 : World} (hO : Own2 K B M Q f O Wb) {own : Int × Int} {p : Value} {ws : List Nat} {P : Nat → Prop} (h : Mid K B ((f own).getD (.slice none 0 0)) Wb w2 p ws P)
    (hP : ∀ i, Q own i → P i) (d : Int × Int) : ∃ ad c o, (f d).getD (.slice none 0 0) = .slice ad o.length c ∧ o.length ≤ c ∧ o.length ≤ K / 64 + 1 ∧ SetR w2 ad o ∧ (∀ x, x ∈ o → x < 18446744073709551616) ∧ Beside p ws ad o ∧ Holds (joinL ws o) K (fun i => P i ∨ Q d i) := by
  by_cases hd : d = own
  · subst hd
    obtain ⟨a0, c0, o, e, hz, hc, hr, hlt, hbits, hsame, hk⟩ := h.under
    refine ⟨a0, c0, o, e, hc, hk, hr, hlt, ?_, ⟨fun i => ?_, by rw [joinL_len]; have := h.holds.2; omega⟩⟩
    · rcases hz with rfl | ⟨g, rfl⟩
      · exact .inl fun b hb => by cases hb
      · by_cases hg : p.ownBlock = some g
        · obtain ⟨h1, h2⟩ := hsame g (by rw [e]; rfl) hg
          rcases h.past.shape with ⟨h3, _⟩ | ⟨g', c, h3, _⟩
          · rw [h3] at hg; cases hg
          · have hgg : g' = g := by rw [h3] at hg; simpa [Value.ownBlock] using hg
            subst hgg
            exact .inr ⟨_, c, h3, rfl, h1, h2⟩
        · exact .inl fun b hb => by cases hb; exact hg
    · rw [bit_join, Bool.or_eq_true]
      constructor
      · rintro (h1 | h1)
        · obtain ⟨h2, h3⟩ := (h.holds.1 i).1 h1; exact ⟨h2, .inl h3⟩
        · obtain ⟨h2, h3⟩ := (h.holds.1 i).1 (hbits i h1); exact ⟨h2, .inl h3⟩
      · rintro ⟨h1, h2 | h2⟩
        · exact .inl ((h.holds.1 i).2 ⟨h1, h2⟩)
        · exact .inl ((h.holds.1 i).2 ⟨h1, hP i h2⟩)
  · cases hf : f d with
    | none =>
      refine ⟨none, 0, [], rfl, Nat.le_refl _, by simp, (fun i hi => absurd hi (by simp)), (fun x hx => by cases hx), .inl (fun b hb => by cases hb), ?_⟩
      exact (h.holds.join (Holds.nil K (p := fun _ => False) fun _ h => h)).iff fun i hi => or_congr_right ⟨False.elim, hO.none_ d hf i hi⟩
    | some v =>
      obtain ⟨ws', h1, h2⟩ := hO.some_ d v hf
      have hne : ∀ b, v.ownBlock = some b → ((f own).getD (.slice none 0 0)).ownBlock ≠ some b := fun b hb e => by
        cases hfo : f own with
        | none => rw [hfo] at e; cases e
        | some vo => rw [hfo] at e; exact hO.apart own d vo v b hfo hf (fun e => hd e.symm) e hb
      have h1' : SetO B w2 v ws' := h1.kept fun b hb => h.grew.block b (h1.lt b hb).2 (fun e => hne b hb e.symm)
      obtain ⟨a, cap, e, hc, _, hr⟩ := h1'.parts
      refine ⟨a, cap, ws', e, hc, h2.2, hr, h1'.2, .inl fun b hb hpb => ?_, h.holds.join h2⟩
      have hvb : v.ownBlock = some b.block := by rw [e, hb]; rfl
      rcases h.blk with h3 | ⟨b', h3, h4⟩
      · exact hne _ hvb (h3 ▸ hpb)
      · rw [h3] at hpb; cases hpb
        have := (h1.lt _ hvb).2; omega

/-- Behind the join. -/
theorem Mid.join {K B : Nat} {v0 : Value} {Wb w2 w3 : World} {p p' : Value} {ws o : List Nat} {P P' : Nat → Prop} (h : Mid K B v0 Wb w2 p ws P) (hs : SetO B w3 p' (joinL ws o)) (hg : w2.grownBy w3 p.ownBlock)
    (hb : p'.ownBlock = p.ownBlock ∨ (p'.ownBlock = some w2.heap.size ∧ w2.grownBy w3 none)) (hh : Holds (joinL ws o) K P') : Mid K B v0 Wb w3 p' (joinL ws o) P' := by
  refine ⟨grownBy_trans h.grew hg (fun g e => ?_), hs, hh, ?_, ?_⟩
  · rcases h.blk with h1 | ⟨b, h1, h2⟩
    · exact .inl (h1 ▸ e)
    · rw [h1] at e; cases e; exact .inr h2
  · rcases hb with hb | ⟨hb, _⟩
    · rw [hb]; exact h.blk
    · exact .inr ⟨_, hb, h.grew.size⟩
  · obtain ⟨a0, c0, o0, e, hz, hc, hr, hlt, hbits, hsame, hk⟩ := h.under
    have hmono : ∀ i, bitOf o0 i = true → bitOf (joinL ws o) i = true := fun i hi => by rw [bit_join, hbits i hi]; rfl
    rcases hz with rfl | ⟨g, rfl⟩
    · exact ⟨none, c0, o0, e, .inl rfl, hc, hr.kept hg.size (fun b hb => by cases hb), hlt, hmono, (fun g hg _ => by rw [e] at hg; cases hg), hk⟩
    · have hv0 : v0.ownBlock = some g := by rw [e]; rfl
      have hglt : 0 < o0.length → g < w2.heap.size := fun h0 => by obtain ⟨b, off, hb, hlt, _⟩ := hr 0 h0; cases hb; exact hlt
      -- a reading that is kept
      have keep : (∀ b : Nat, b = g → b < w2.heap.size → w3.heap[b]? = w2.heap[b]?) → SetR w3 (some ⟨g, 0, none⟩) o0 := fun hkeep i hi => by
        obtain ⟨b, off, hb, hbl, hcell⟩ := hr i hi
        cases hb
        exact ⟨g, 0, rfl, Nat.lt_of_lt_of_le hbl hg.size, (World.cell?_of_block (w := w2) (a := ⟨g, 0 + i, none⟩) (hkeep g rfl hbl)).trans hcell⟩
      by_cases hpg : p.ownBlock = some g
      · rcases hb with hb | ⟨hb, hnone⟩
        · -- in place: a beginning of what is there now
          obtain ⟨h1, h2⟩ := hsame g hv0 hpg
          have hl : o0.length ≤ (joinL ws o).length := by rw [joinL_len]; omega
          have hlen : ((joinL ws o).take o0.length).length = o0.length := by rw [List.length_take]; omega
          obtain ⟨a', cap', e', _, _, hr'⟩ := hs.parts
          have ha' : 0 < (joinL ws o).length → a' = some ⟨g, 0, none⟩ := fun h0 => by
            rcases hs.shape with ⟨_, h3⟩ | ⟨g', c', h3, _⟩
            · rw [h3] at h0; cases h0
            · have : p'.ownBlock = some g' := by rw [h3]; rfl
              rw [hb, hpg] at this; cases this
              rw [h3] at e'; cases e'; rfl
          refine ⟨some ⟨g, 0, none⟩, c0, (joinL ws o).take o0.length, by rw [hlen]; exact e, .inr ⟨g, rfl⟩, by rw [hlen]; exact hc, fun i hi => ?_, fun x hx => hs.2 x (List.mem_of_mem_take hx), fun i hi => bit_take hi, fun g' _ _ => ⟨by rw [hlen]; exact hl, fun i hi => ?_⟩, by rw [hlen]; exact hk⟩
          · rw [hlen] at hi
            obtain ⟨b, off, hb', hbl, hcell⟩ := hr' i (by omega)
            rw [ha' (by omega)] at hb'; cases hb'
            refine ⟨g, 0, rfl, hbl, ?_⟩
            have e2 : ((joinL ws o).take o0.length).getD i 0 = (joinL ws o).getD i 0 := by simp [hi]
            rw [e2]; exact hcell
          · rw [hlen] at hi; simp [hi]
        · refine ⟨some ⟨g, 0, none⟩, c0, o0, e, .inr ⟨g, rfl⟩, hc, keep (fun b _ hbl => hnone.block b hbl (by simp)), hlt, hmono, fun g' hg' hp' => ?_, hk⟩
          rw [hv0] at hg'; cases hg'
          rw [hb] at hp'
          have hgs := (h.past.lt g hpg).2
          have : w2.heap.size = g := by simpa using hp'
          omega
      · refine ⟨some ⟨g, 0, none⟩, c0, o0, e, .inr ⟨g, rfl⟩, hc, keep (fun b hb hbl => hg.block b hbl (fun e => hpg (by rw [← hb]; exact e.symm))), hlt, hmono, fun g' hg' hp' => ?_, hk⟩
        rw [hv0] at hg'; cases hg'
        rcases hb with hb | ⟨hb, _⟩
        · exact absurd (hb ▸ hp') hpg
        · rw [hb] at hp'
          have hgw : w2.heap.size = g := by simpa using hp'
          by_cases h0 : 0 < o0.length
          · have := hglt h0; omega
          · exact ⟨by omega, fun i hi => by omega⟩
end Go.Proofs.YtlpdomgedaockaaGreatDoor
