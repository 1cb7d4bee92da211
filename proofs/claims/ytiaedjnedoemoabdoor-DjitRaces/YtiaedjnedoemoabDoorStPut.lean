import Derived.Test.YtiaedjnedoemoabDoorStNext
namespace Go.Proofs.YtiaedjnedoemoabDoor
open Go.RowKit Go.Proofs.Ord

/-- Nothing is changed but blocks of Q, and new ones. -/
structure Chg (Q : Nat → Prop) (w w' : World) : Prop where
  os : w'.os = w.os
  tape : w'.tape = w.tape
  output : w'.output = w.output
  size : w.heap.size ≤ w'.heap.size
  block : ∀ k, k < w.heap.size → ¬ Q k → w'.heap[k]? = w.heap[k]?
theorem Chg.trans {Q Q' : Nat → Prop} {a b c : World} (h : Chg Q a b) (h' : Chg Q' b c) (hQ : ∀ k, k < a.heap.size → Q' k → Q k) : Chg Q a c :=
  ⟨h'.os.trans h.os, h'.tape.trans h.tape, h'.output.trans h.output, Nat.le_trans h.size h'.size, fun k hk hn => (h'.block k (Nat.lt_of_lt_of_le hk h.size) (fun e => hn (hQ k hk e))).trans (h.block k hk hn)⟩
theorem chg_below {Q : Nat → Prop} {a b : World} (h : Below a.heap.size a b) : Chg Q a b := ⟨h.os, h.tape, h.output, h.size, fun k hk _ => h.block k hk⟩
theorem chg_grown {a b : World} {r : Option Nat} (h : a.grownBy b r) : Chg (fun x => some x = r) a b := ⟨h.os, h.tape, h.output, h.size, fun k hk hn => h.block k hk hn⟩
/-- A stamp that was filled by Put: its map in block b, its pages in blocks of Q, none of them shared. -/
structure PutS (B : Nat) (Q : Nat → Prop) (w : World) (b : Nat) (g : Int → Int) : Prop where
  mine : Q b
  ex : ∃ f n pg, KMap ik w b f n ∧ (∀ p v, f p = some v → w.ownsRow B 3 1 v (pg p).length ((pg p).map (Value.int .i64)) ∧ (pg p).length ≤ 64 ∧ ∀ x, v.ownBlock = some x → Q x ∧ x ≠ b) ∧ (∀ p, f p = none → pg p = []) ∧
    (∀ p p' v v' x, f p = some v → f p' = some v' → p ≠ p' → v.ownBlock = some x → v'.ownBlock ≠ some x) ∧ ∀ u, g u = pageAt pg u

theorem ownsKept {w w' : World} {base e size n : Nat} {v : Value} {xs : List Value} (h : w.ownsRow base e size v n xs) (hb : ∀ g, v.ownBlock = some g → w'.heap[g]? = w.heap[g]?) : w'.ownsRow base e size v n xs := by
  refine ⟨h.1, ?_⟩
  rcases h.2 with hn | ⟨g, cap, cur, rfl, hB, hg, rest⟩
  · exact .inl hn
  · exact .inr ⟨g, cap, cur, rfl, hB, (hb g rfl).trans hg, rest⟩
theorem PutS.kept {B : Nat} {Q : Nat → Prop} {w w' : World} {b : Nat} {g : Int → Int} (h : PutS B Q w b g) (hb : ∀ x, Q x → w'.heap[x]? = w.heap[x]?) : PutS B Q w' b g := by
  obtain ⟨h0, f, n, pg, h1, h2, h3⟩ := h
  exact ⟨h0, f, n, pg, h1.same (hb b h0), fun p v hf => ⟨ownsKept (h2 p v hf).1 fun x hx => hb x ((h2 p v hf).2.2 x hx).1, (h2 p v hf).2⟩, h3⟩
theorem PutS.mono {B : Nat} {Q Q' : Nat → Prop} {w : World} {b : Nat} {g : Int → Int} (h : PutS B Q w b g) (hQ : ∀ x, Q x → Q' x) : PutS B Q' w b g := by
  obtain ⟨h0, f, n, pg, h1, h2, h3⟩ := h
  exact ⟨hQ b h0, f, n, pg, h1, fun p v hf => ⟨(h2 p v hf).1, (h2 p v hf).2.1, fun x hx => ⟨hQ x ((h2 p v hf).2.2 x hx).1, ((h2 p v hf).2.2 x hx).2⟩⟩, h3⟩
theorem PutS.congr {B : Nat} {Q : Nat → Prop} {w : World} {b : Nat} {g g' : Int → Int} (h : PutS B Q w b g) (hg : ∀ u, g' u = g u) : PutS B Q w b g' := by
  obtain ⟨h0, f, n, pg, h1, h2, h3, h4, h5⟩ := h
  exact ⟨h0, f, n, pg, h1, h2, h3, h4, fun u => (hg u).trans (h5 u)⟩
theorem PutS.stamp {B : Nat} {Q : Nat → Prop} {w : World} {b : Nat} {g : Int → Int} (h : PutS B Q w b g) : StampV (fun _ => True) w (.map (some b)) g := by
  obtain ⟨h0, f, n, pg, h1, h2, h3, h4, h5⟩ := h
  refine ⟨pg, h5, .inr ⟨b, f, n, rfl, trivial, h1, fun p v hf => ?_, h3⟩⟩
  obtain ⟨ho, hl, _⟩ := h2 p v hf
  obtain ⟨a, cap, rfl, e1, e2, e3, e4, e5⟩ := New.of_owns ho
  exact ⟨a, cap, rfl, ⟨rfl, e2, e3, e4, fun i hi => by obtain ⟨b', off, q1, _, q3, q4, _⟩ := e5 i hi; exact ⟨b', off, q1, q3, q4⟩, by omega⟩, hl, fun _ _ _ _ => trivial⟩
theorem putS_made (B : Nat) (w : World) : PutS B (fun x => x = w.heap.size) (w.alloc (.map #[] 0)) w.heap.size (fun _ => 0) :=
  ⟨rfl, _, _, fun _ => [], KMap.made w, (fun p v h => by cases h), fun _ _ => rfl, (fun p p' v v' x h => by cases h), fun u => by simp [pageAt]⟩
theorem PutS.lt {B : Nat} {Q : Nat → Prop} {w : World} {b : Nat} {g : Int → Int} (h : PutS B Q w b g) : b < w.heap.size := by
  obtain ⟨h0, f, n, pg, h1, _⟩ := h; exact h1.lt

theorem getD_zeros (zs : List Int) (m i : Nat) : (zs ++ List.replicate m 0).getD i 0 = zs.getD i 0 := by
  rw [List.getD_eq_getElem?_getD, List.getD_eq_getElem?_getD]
  by_cases h : i < zs.length
  · rw [List.getElem?_append_left h]
  · rw [List.getElem?_append_right (by omega), List.getElem?_eq_none (l := zs) (by omega)]
    by_cases h2 : i - zs.length < m
    · rw [List.getElem?_replicate, if_pos h2]; rfl
    · rw [List.getElem?_replicate, if_neg h2]

theorem put_pages (pg : Int → List Int) (t num : Int) (zs : List Int) (k : Nat) (hk : t % 64 = (k : Int)) (hz : ∀ i, zs.getD i 0 = (pg (t / 64)).getD i 0) (hl : k < zs.length) (u : Int) :
    pageAt (fun q => if q = t / 64 then zs.set k num else pg q) u = if u = t then num else pageAt pg u := by
  unfold pageAt
  show (if u / 64 = t / 64 then zs.set k num else pg (u / 64)).getD (u % 64).toNat 0 = _
  by_cases e : u = t
  · subst e
    rw [if_pos rfl, if_pos rfl, hk]
    simp [hl]
  · rw [if_neg e]
    by_cases e2 : u / 64 = t / 64
    · rw [if_pos e2, e2, ← hz, List.getD_eq_getElem?_getD, List.getElem?_set_ne (by omega), ← List.getD_eq_getElem?_getD]
    · rw [if_neg e2]

/-- The stamp behind Put. -/
theorem PutS.put {B : Nat} {Q : Nat → Prop} {w w1 w2 w3 : World} {b : Nat} {f : Int → Option Value} {n3 : Nat} {pg : Int → List Int} {g : Int → Int} {t num : Int} {v : Value} {zs : List Int} {k : Nat} (hk : t % 64 = (k : Int)) (hmine : Q b) (hQ : ∀ x, Q x → x < w.heap.size)
    (h2 : ∀ p v, f p = some v → w.ownsRow B 3 1 v (pg p).length ((pg p).map (Value.int .i64)) ∧ (pg p).length ≤ 64 ∧ ∀ x, v.ownBlock = some x → Q x ∧ x ≠ b) (h3 : ∀ p, f p = none → pg p = []) (h4 : ∀ p p' v v' x, f p = some v → f p' = some v' → p ≠ p' → v.ownBlock = some x → v'.ownBlock ≠ some x) (h5 : ∀ u, g u = pageAt pg u)
    (hz : ∀ i, zs.getD i 0 = (pg (t / 64)).getD i 0) (hl : k < zs.length) (h64 : zs.length ≤ 64) (hg1 : w.grownBy w1 ((f (t / 64)).getD (.slice none 0 0)).ownBlock) (hv : v.ownBlock = ((f (t / 64)).getD (.slice none 0 0)).ownBlock ∨ v.ownBlock = some w.heap.size)
    (hown : w2.ownsRow B 3 1 v zs.length ((zs.set k num).map (Value.int .i64))) (hg2 : w1.grownBy w2 v.ownBlock) (hM3 : KMap ik w3 b (putK f (t / 64) v) n3) (hg3 : w2.grownBy w3 (some b)) :
    PutS B (fun x => Q x ∨ (w.heap.size ≤ x ∧ x < w3.heap.size)) w3 b (fun u => if u = t then num else g u) ∧ Chg Q w w3 := by
  have hbw := hQ b hmine
  have hold : ∀ x, ((f (t / 64)).getD (.slice none 0 0)).ownBlock = some x → Q x ∧ x ≠ b := fun x hx => by
    cases hf : f (t / 64) with
    | none => rw [hf] at hx; cases hx
    | some u => rw [hf] at hx; exact (h2 _ u hf).2.2 x hx
  have hvx : ∀ x, v.ownBlock = some x → (Q x ∨ (w.heap.size ≤ x ∧ x < w3.heap.size)) ∧ x ≠ b := fun x hx => by
    rcases hv with h | h
    · rw [h] at hx; exact ⟨.inl (hold x hx).1, (hold x hx).2⟩
    · have hlt := (hown.lt x hx).2
      rw [h] at hx; cases hx
      exact ⟨.inr ⟨Nat.le_refl _, Nat.lt_of_lt_of_le hlt hg3.size⟩, by omega⟩
  -- what stays
  have hst : ∀ x, x < w.heap.size → ((f (t / 64)).getD (.slice none 0 0)).ownBlock ≠ some x → x ≠ b → w3.heap[x]? = w.heap[x]? := fun x hx h1 hb => by
    have hvn : v.ownBlock ≠ some x := fun e => by
      rcases hv with h | h
      · exact h1 (h ▸ e)
      · rw [h] at e; cases e; omega
    exact (hg3.block x (by have := hg1.size; have := hg2.size; omega) (by simpa using hb)).trans ((hg2.block x (by have := hg1.size; omega) (fun e => hvn e.symm)).trans (hg1.block x hx (fun e => h1 e.symm)))
  refine ⟨⟨.inl hmine, _, _, fun q => if q = t / 64 then zs.set k num else pg q, hM3, fun p u hp => ?_, fun p hp => ?_, fun p p' u u' x hp hp' hne hx => ?_, fun u => ?_⟩, ⟨hg3.os.trans (hg2.os.trans hg1.os), hg3.tape.trans (hg2.tape.trans hg1.tape), hg3.output.trans (hg2.output.trans hg1.output), by have := hg1.size; have := hg2.size; have := hg3.size; omega, fun x hx hn => hst x hx (fun e => hn (hold x e).1) (fun e => hn (e ▸ hmine))⟩⟩
  · by_cases e : p = t / 64
    · subst e
      rw [putK_same] at hp; cases hp
      simp only [if_true, List.length_set]
      exact ⟨ownsKept hown fun x hx => hg3.block x (hown.lt x hx).2 (by simpa using (hvx x hx).2), h64, hvx⟩
    · rw [putK_other v e] at hp
      simp only [e, if_false]
      obtain ⟨q1, q2, q3⟩ := h2 p u hp
      refine ⟨ownsKept q1 fun x hx => hst x (hQ x (q3 x hx).1) (fun e2 => ?_) (q3 x hx).2, q2, fun x hx => ⟨.inl (q3 x hx).1, (q3 x hx).2⟩⟩
      cases hf : f (t / 64) with
      | none => rw [hf] at e2; cases e2
      | some u0 => rw [hf] at e2; exact h4 _ p u0 u x hf hp (fun e' => e e'.symm) e2 hx
  · by_cases e : p = t / 64
    · subst e; rw [putK_same] at hp; cases hp
    · rw [putK_other v e] at hp; simp only [e, if_false]; exact h3 p hp
  · have key : ∀ q uq xq, q ≠ t / 64 → f q = some uq → uq.ownBlock = some xq → v.ownBlock ≠ some xq := fun q uq xq hq hfq hxq hvq => by
      rcases hv with h | h
      · rw [h] at hvq
        cases hf : f (t / 64) with
        | none => rw [hf] at hvq; cases hvq
        | some u0 => rw [hf] at hvq; exact h4 _ q u0 uq xq hf hfq (fun e' => hq e'.symm) hvq hxq
      · have := hQ xq ((h2 q uq hfq).2.2 xq hxq).1
        rw [h] at hvq; cases hvq; omega
    by_cases e : p = t / 64
    · subst e
      rw [putK_same] at hp; cases hp
      rw [putK_other _ (fun e' => hne e'.symm)] at hp'
      exact fun hx' => key p' u' x (fun e' => hne e'.symm) hp' hx' hx
    · rw [putK_other _ e] at hp
      by_cases e' : p' = t / 64
      · subst e'
        rw [putK_same] at hp'; cases hp'
        exact key p u x e hp hx
      · rw [putK_other _ e'] at hp'
        exact h4 p p' u u' x hp hp' hne hx
  · rw [put_pages pg t num zs k hk hz hl u, h5 u]

set_option maxRecDepth 100000 in
set_option maxHeartbeats 1000000 in
/-- Put: a thread's number is set, in the stamp itself. -/
theorem putSt_any {B : Nat} {Q : Nat → Prop} {b : Nat} {g : Int → Int} (t num : Int) (w : World) (ht : In64 t) (h : PutS B Q w b g) (hB : B ≤ w.heap.size) (hQ : ∀ x, Q x → x < w.heap.size) :
    Calls Tryd.prog 21 #[.map (some b), .int .i64 t, .int .i64 num] w fun e w' => e = .returned (.tuple #[]) ∧ PutS B (fun x => Q x ∨ (w.heap.size ≤ x ∧ x < w'.heap.size)) w' b (fun u => if u = t then num else g u) ∧ Chg Q w w' := by
  obtain ⟨hmine, f, n, pg, hM, h2, h3, h4, h5⟩ := h
  obtain ⟨i0, hi, hz0, hz1, hz2⟩ := info_parts Tryd.info3
  obtain ⟨k, hk⟩ : ∃ k : Nat, t % 64 = (k : Int) := Int.eq_ofNat_of_zero_le (by omega)
  have hk64 : k < 64 := by omega
  have hlk : Sem.run Tryd.prog (Instr.lookup 53 (.map (some b)) (.int .i64 (t / 64)) false) w = .ok ((f (t / 64)).getD (.slice none 0 0)) w := hM.look stamp_key Tryd.underlying53 (zero_page w) (t / 64)
  obtain ⟨zs, hzs⟩ : ∃ zs, pg (t / 64) = zs := ⟨_, rfl⟩
  have hown0 : w.ownsRow B 3 1 ((f (t / 64)).getD (.slice none 0 0)) zs.length (zs.map (Value.int .i64)) ∧ zs.length ≤ 64 := by
    cases hf : f (t / 64) with
    | none => rw [← hzs, h3 _ hf]; exact ⟨World.ownsRow_nil _ _ _ _, by simp⟩
    | some u => rw [← hzs]; exact ⟨(h2 _ u hf).1, (h2 _ u hf).2.1⟩
  obtain ⟨hown, hl64⟩ := hown0
  have hfin : Hid (∀ (w1 w2 : World) (v : Value) (us : List Int), (∀ i, us.getD i 0 = zs.getD i 0) → k < us.length → us.length ≤ 64 → w.grownBy w1 ((f (t / 64)).getD (.slice none 0 0)).ownBlock → (v.ownBlock = ((f (t / 64)).getD (.slice none 0 0)).ownBlock ∨ v.ownBlock = some w.heap.size) →
      w2.ownsRow B 3 1 v us.length ((us.set k num).map (Value.int .i64)) → w1.grownBy w2 v.ownBlock → ∃ w3, Sem.run Tryd.prog (Instr.mapUpdate 53 (.map (some b)) (.int .i64 (t / 64)) v) w2 = .ok () w3 ∧ PutS B (fun x => Q x ∨ (w.heap.size ≤ x ∧ x < w3.heap.size)) w3 b (fun u => if u = t then num else g u) ∧ Chg Q w w3) := by
    intro w1 w2 v us hus hl h64 hg1 hv hown2 hg2
    have hbne : ∀ x, ((f (t / 64)).getD (.slice none 0 0)).ownBlock = some x → x ≠ b := fun x hx => by
      cases hf : f (t / 64) with
      | none => rw [hf] at hx; cases hx
      | some u => rw [hf] at hx; exact ((h2 _ u hf).2.2 x hx).2
    have hb2 : w2.heap[b]? = w.heap[b]? := (hg2.block b (by have := hM.lt; have := hg1.size; omega) (fun e => by
      rcases hv with h | h
      · exact hbne b (h ▸ e.symm) rfl
      · rw [h] at e; cases e; have := hM.lt; omega)).trans (hg1.block b hM.lt (fun e => hbne b e.symm rfl))
    obtain ⟨w3, hr, hM3, hg3, _⟩ := (hM.same hb2).put stamp_key Tryd.underlying53 (t / 64) v
    exact ⟨w3, hr, PutS.put hk hmine hQ h2 h3 h4 h5 (fun i => by rw [hus, hzs]) hl h64 hg1 hv hown2 hg2 hM3 hg3⟩
  generalize (f (t / 64)).getD (.slice none 0 0) = v0 at hlk hown hfin
  have HK := hide hk
  clear h2 h3 h4 h5 hM hzs hk
  by_cases hlt : k < zs.length
  · obtain ⟨gb, cb, rfl, hBg, hc2, hc3⟩ := owns_pos hown (by omega)
    have hcell := (hown.cellAt k (by omega)).trans (map_getElem hlt)
    have hfr := hown.frozenAt k
    have hst := hown.stored k (.int .i64 num)
    have hg2 : w.grownBy (w.setCell ⟨gb, k, none⟩ (.int .i64 num)) (some gb) := hst.2
    obtain ⟨w3, hr3, hp3, hc3'⟩ := hfin.out w (w.setCell ⟨gb, k, none⟩ (.int .i64 num)) _ zs (fun _ => rfl) hlt hl64 ⟨rfl, rfl, rfl, Nat.le_refl _, fun _ _ _ => rfl⟩ (.inl rfl) (by rw [List.map_set]; exact hst.1) hg2
    have hcmp : (k : Int) < (zs.length : Int) := by omega
    have hgq : decide ((zs.length : Int) ≤ (k : Int)) = false := decide_eq_false (by omega)
    clear hst hg2 hfin hown
    go_enter Tryd.func21, Tryd.ntmps21
    go_wp2_with fail
    refine (place_any _ _ ht).mono ?_
    rintro e w' ⟨rfl, rfl⟩
    rw [HK.out]
    go_wp2_with fail
    go_end0
    exact ⟨rfl, hp3, hc3'⟩
  · obtain ⟨m, hm⟩ : ∃ m, k + 1 = zs.length + m := ⟨k + 1 - zs.length, by omega⟩
    have hm0 : 0 < m := by omega
    have hnum : ((k : Int) + 1 - (zs.length : Int)) = (m : Int) := by omega
    have hcmp : (zs.length : Int) ≤ (k : Int) := by omega
    have hgq : decide ((zs.length : Int) ≤ (k : Int)) = true := decide_eq_true hcmp
    have HM := hide hm
    obtain ⟨a2, c2, rfl, _, h2, h3, _, h4⟩ := New.of_owns hown
    have hbb : (zs.length + m) * 8 ≤ 140737488355328 := by omega
    have hml : zs.length + m ≤ maxLen := by unfold maxLen; omega
    have hstep : Hid (∀ (v' : Value) (w1 : World), w1.ownsRow B 3 1 v' (zs.length + m) (zs.map (Value.int .i64) ++ List.replicate m (.int .i64 0)) → w.grownBy w1 (Value.ownBlock (.slice a2 zs.length c2)) → (v'.ownBlock = Value.ownBlock (.slice a2 zs.length c2) ∨ (v'.ownBlock = some w.heap.size ∧ w.grownBy w1 none)) →
        ∃ gb cb x, v' = .slice (some ⟨gb, 0, none⟩) (zs.length + m) cb ∧ zs.length + m ≤ cb ∧ cb ≤ 9223372036854775807 ∧ w1.cell? ⟨gb, k, none⟩ = some x ∧ w1.frozen? ⟨gb, k, none⟩ = false ∧ ∃ w3, Sem.run Tryd.prog (Instr.mapUpdate 53 (.map (some b)) (.int .i64 (t / 64)) v') (w1.setCell ⟨gb, k, none⟩ (.int .i64 num)) = .ok () w3 ∧ PutS B (fun x => Q x ∨ (w.heap.size ≤ x ∧ x < w3.heap.size)) w3 b (fun u => if u = t then num else g u) ∧ Chg Q w w3) := by
      intro v' w1 hown' hgrow hat
      have hus : (zs ++ List.replicate m 0).map (Value.int .i64) = zs.map (Value.int .i64) ++ List.replicate m (.int .i64 0) := by rw [List.map_append, List.map_replicate]
      have hul : (zs ++ List.replicate m (0 : Int)).length = zs.length + m := by rw [List.length_append, List.length_replicate]
      rw [← hus] at hown'
      obtain ⟨gb, cb, rfl, hBg, q2, q3⟩ := owns_pos hown' (by omega)
      have hst := hown'.stored k (.int .i64 num)
      obtain ⟨w3, hr3, hp3, hc3'⟩ := hfin.out w1 (w1.setCell ⟨gb, k, none⟩ (.int .i64 num)) _ (zs ++ List.replicate m 0) (getD_zeros zs m) (by rw [hul, ← HM.out]; omega) (by rw [hul, ← HM.out]; omega) hgrow (hat.imp id fun h => h.1) (by rw [hul, List.map_set]; exact hst.1) hst.2
      exact ⟨gb, cb, _, rfl, q2, q3, (hown'.cellAt k (by rw [← HM.out]; omega)).trans (map_getElem (by rw [hul, ← HM.out]; omega)), hown'.frozenAt k, w3, hr3, hp3, hc3'⟩
    have hlt2 : (k : Int) < ((zs.length : Int) + (m : Int)) := by omega
    clear hfin hm hlt h4
    go_enter Tryd.func21, Tryd.ntmps21
    go_wp2_with fail
    refine (place_any _ _ ht).mono ?_
    rintro e w' ⟨rfl, rfl⟩
    rw [HK.out]
    go_wp2_with (at_builtin; refine wpList_append_zeros_own _ rfl _ _ 47 3 rfl B 3 i0 (.int .i64 0) 8 Tryd.underlying47 Tryd.underlying3 hi hz0 hz1 hz2 rfl rfl _ zs.length _ rfl hown m rfl hm0 hml hbb hB ?_; intro v' w1 hown' hgrow hat; obtain ⟨gb, cb, x, rfl, q2, q3, hcell, hfr, w3, hr3, hp3, hc3'⟩ := hstep.out v' w1 hown' hgrow hat; clear hown' hgrow hat)
    go_end0
    exact ⟨rfl, hp3, hc3'⟩
end Go.Proofs.YtiaedjnedoemoabDoor
