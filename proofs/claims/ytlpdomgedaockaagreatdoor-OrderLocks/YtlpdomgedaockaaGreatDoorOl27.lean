import Derived.Test.YtlpdomgedaockaaGreatDoorOl21
import Derived.Test.YtlpdomgedaockaaGreatDoorOl1
import Derived.Deep.RegionHeld3
import Derived.Deep.DrawnRows
import Derived.Deep.QuietTactic
import Derived.BigQuiet
import Derived.Test.YtlpdomgedaockaaGreatDoorOl26
import Derived.Deep.AppendLies
import Derived.WalkSpells
import Derived.StillTactics
import Derived.OwnWalk
import Derived.Laws.Pointers
import Derived.Maps.AppendAt
import Derived.Lib.TrailingZeros
import Derived.Shelf.Spec.TrailingZeros
import Derived.WalkKit
import Derived.ProofKit
set_option linter.unusedVariables false
set_option linter.unusedSimpArgs false
/-
  OrderLocks: who holds a lock, by the events of a run.
-/
namespace Go.Proofs.YtlpdomgedaockaaGreatDoor
open Go.RowKit Go.Proofs.Cod

/-- What an event does to lock j: who had it, who has it. -/
structure LkOk (nl : Nat) (s s' : MS) (e : Ev) : Prop where
  t0 : 0 ≤ e.t
  lock : e.k = 5 → ∀ j : Nat, j < nl → e.o = j → s.locks.getD j 0 = -1 ∧ s'.locks.getD j 0 = e.t
  unlock : e.k = 6 → ∀ j : Nat, j < nl → e.o = j → s.locks.getD j 0 = e.t ∧ s'.locks.getD j 0 = -1
  other : ∀ j : Nat, j < nl → ¬ ((e.k = 5 ∨ e.k = 6) ∧ e.o = j) → s'.locks.getD j 0 = s.locks.getD j 0
section
variable {nv nf nl : Nat} {C : List (List In7)} {s s' : MS}
theorem lk_keep {nl : Nat} {s s' : MS} {t : Nat} {k o v : Int} (h : s'.locks = s.locks) (h5 : k ≠ 5) (h6 : k ≠ 6) : LkOk nl s s' ⟨t, k, o, v⟩ :=
  ⟨by show (0 : Int) ≤ t; omega, fun q => absurd q h5, fun q => absurd q h6, fun j _ _ => by rw [h]⟩
theorem lk_step (hl : s.locks.length = nl) {t : Nat} {x : In7} (h0 : 0 ≤ x.x) (hw : waitsM s x = false) : LkOk nl s (stpM false s t x).1 (stpM false s t x).2 := by
  unfold stpM
  by_cases c1 : x.op = oSet
  · rw [if_pos c1]; exact lk_keep rfl (by decide) (by decide)
  rw [if_neg c1]
  by_cases c2 : x.op = oAdd
  · rw [if_pos c2]; exact lk_keep rfl (by decide) (by decide)
  rw [if_neg c2]
  by_cases c3 : x.op = oSub
  · rw [if_pos c3]; exact lk_keep rfl (by decide) (by decide)
  rw [if_neg c3]
  by_cases c4 : x.op = oMul
  · rw [if_pos c4]; exact lk_keep rfl (by decide) (by decide)
  rw [if_neg c4]
  by_cases c5 : x.op = oLoad
  · rw [if_pos c5]; exact lk_keep rfl (by decide) (by decide)
  rw [if_neg c5]
  by_cases c6 : x.op = oStore
  · rw [if_pos c6]; exact lk_keep rfl (by decide) (by decide)
  rw [if_neg c6]
  by_cases c7 : x.op = oGet
  · rw [if_pos c7]; exact lk_keep rfl (by decide) (by decide)
  rw [if_neg c7]
  by_cases c8 : x.op = oPut
  · rw [if_pos c8]; exact lk_keep rfl (by decide) (by decide)
  rw [if_neg c8]
  by_cases c9 : x.op = oLock
  · rw [if_pos c9]
    have hfree : s.locks.getD x.x.toNat 0 = -1 := by
      unfold waitsM at hw
      rw [if_pos c9] at hw
      simpa using hw
    refine ⟨by show (0 : Int) ≤ t; omega, fun _ j hj e => ?_, fun q => (by cases q), fun j hj e => ?_⟩
    · have e : x.x = (j : Int) := e
      have e2 : x.x.toNat = j := by omega
      rw [e2] at hfree
      refine ⟨hfree, ?_⟩
      show (s.locks.set x.x.toNat (t : Int)).getD j 0 = t
      rw [e2, List.getD_eq_getElem?_getD, List.getElem?_set, if_pos rfl, if_pos (by omega)]; rfl
    · show (s.locks.set x.x.toNat (t : Int)).getD j 0 = _
      rw [List.getD_eq_getElem?_getD, List.getElem?_set, if_neg (fun q => e ⟨.inl rfl, by show x.x = (j : Int); omega⟩), List.getD_eq_getElem?_getD]
  rw [if_neg c9]
  by_cases c10 : x.op = oUnlock
  · rw [if_pos c10]
    by_cases d : s.locks.getD x.x.toNat 0 ≠ t
    · rw [if_pos d]; exact lk_keep rfl (by decide) (by decide)
    · rw [if_neg d]
      have d := Decidable.not_not.1 d
      refine ⟨by show (0 : Int) ≤ t; omega, fun q => (by cases q), fun _ j hj e => ?_, fun j hj e => ?_⟩
      · have e : x.x = (j : Int) := e
        have e2 : x.x.toNat = j := by omega
        rw [e2] at d
        refine ⟨d, ?_⟩
        show (s.locks.set x.x.toNat (-1)).getD j 0 = -1
        rw [e2, List.getD_eq_getElem?_getD, List.getElem?_set, if_pos rfl, if_pos (by omega)]; rfl
      · show (s.locks.set x.x.toNat (-1)).getD j 0 = _
        rw [List.getD_eq_getElem?_getD, List.getElem?_set, if_neg (fun q => e ⟨.inr rfl, by show x.x = (j : Int); omega⟩), List.getD_eq_getElem?_getD]
  rw [if_neg c10]
  by_cases c11 : x.op = oSpawn
  · rw [if_pos c11]; exact lk_keep rfl (by decide) (by decide)
  rw [if_neg c11]
  by_cases c12 : x.op = oJoin
  · rw [if_pos c12]; exact lk_keep rfl (by decide) (by decide)
  rw [if_neg c12]
  by_cases c13 : x.op = oJump
  · rw [if_pos c13]; exact lk_keep rfl (by decide) (by decide)
  rw [if_neg c13]
  by_cases c14 : x.op = oJeq
  · rw [if_pos c14]; exact lk_keep rfl (by decide) (by decide)
  rw [if_neg c14]
  by_cases c15 : x.op = oJlt
  · rw [if_pos c15]; exact lk_keep rfl (by decide) (by decide)
  rw [if_neg c15]
  by_cases c16 : x.op = oCheck
  · rw [if_pos c16]
    split
    · exact lk_keep rfl (by decide) (by decide)
    · exact lk_keep rfl (by decide) (by decide)
  rw [if_neg c16]
  exact lk_keep rfl (by decide) (by decide)
/-- Who has lock j behind some events: -1: nobody. -/
def ownS (j : Nat) (c : Int) (e : Ev) : Int := if e.k = 5 ∧ e.o = j then e.t else if e.k = 6 ∧ e.o = j then -1 else c
def own (j : Nat) (l : List Ev) : Int := l.foldl (ownS j) (-1)
theorem own_snoc (j : Nat) (l : List Ev) (e : Ev) : own j (l ++ [e]) = ownS j (own j l) e := by unfold own; rw [List.foldl_append]; rfl
/-- Locks are taken when they are free, and let go by who has them. -/
def LkL (nl : Nat) (l : List Ev) : Prop := ∀ (i : Nat) (e : Ev), l[i]? = some e → 0 ≤ e.t ∧ ∀ j : Nat, j < nl → (e.k = 5 → e.o = j → own j (l.take i) = -1) ∧ (e.k = 6 → e.o = j → own j (l.take i) = e.t)
theorem LkL.snoc {nl : Nat} {l : List Ev} {e : Ev} (h : LkL nl l) (h0 : 0 ≤ e.t) (he : ∀ j : Nat, j < nl → (e.k = 5 → e.o = j → own j l = -1) ∧ (e.k = 6 → e.o = j → own j l = e.t)) : LkL nl (l ++ [e]) := by
  intro i e' hi
  by_cases q : i < l.length
  · rw [List.getElem?_append_left q] at hi
    rw [List.take_append_of_le_length (by omega)]
    exact h i e' hi
  · have hb : i < (l ++ [e]).length := (List.getElem?_eq_some_iff.1 hi).1
    rw [List.length_append, List.length_singleton] at hb
    have hil : i = l.length := by omega
    subst hil
    rw [List.getElem?_append_right (Nat.le_refl _), Nat.sub_self] at hi
    have hi : some e = some e' := hi
    cases hi
    rw [List.take_append_of_le_length (Nat.le_refl _), List.take_of_length_le (Nat.le_refl _)]
    exact ⟨h0, he⟩
theorem play_lk (hf : PFit nv nf nl C) (hM : MOk nv nf nl C s) (hl : ∀ j : Nat, j < nl → s.locks.getD j 0 = -1) (l : List Int) : LkL nl (playM false C s l).2 := by
  have : ∀ (l : List Int) (x : MS × List Ev), MOk nv nf nl C x.1 → (∀ j : Nat, j < nl → x.1.locks.getD j 0 = own j x.2) → LkL nl x.2 → LkL nl (l.foldl (plM false C) x).2 := by
    intro l
    induction l with
    | nil => exact fun x _ _ h => h
    | cons t r ih =>
      intro x h1 h2 h3
      rw [List.foldl_cons]
      by_cases e : canM C x.1 t = 0
      · have hpl : plM false C x t = ((goM false C x.1 t).1, x.2 ++ [(goM false C x.1 t).2]) := by unfold plM; rw [if_pos e]
        have hok := pl_ok false hf h1 t
        rw [hpl] at hok ⊢
        obtain ⟨u, rfl, hu, p1, hw, hx⟩ := can_info hf h1 e
        have hx0 : 0 ≤ (nextI C u (x.1.th u)).x := by
          rcases hx with q | ⟨q, _⟩
          · rw [q]; decide
          · exact q.x0
        have hk := lk_step (nl := nl) (t := u) h1.ll hx0 hw
        have hgo : goM false C x.1 (u : Int) = stpM false x.1 u (nextI C u (x.1.th u)) := by unfold goM; rw [Int.toNat_natCast]
        rw [hgo] at hok ⊢
        generalize stpM false x.1 u (nextI C u (x.1.th u)) = y at hok hk ⊢
        refine ih _ hok (fun j hj => ?_) (h3.snoc hk.t0 fun j hj => ⟨fun a b => ?_, fun a b => ?_⟩)
        · show y.1.locks.getD j 0 = own j (x.2 ++ [y.2])
          rw [own_snoc, ← h2 j hj]
          unfold ownS
          by_cases q5 : y.2.k = 5 ∧ y.2.o = j
          · rw [if_pos q5]; exact (hk.lock q5.1 j hj q5.2).2
          · rw [if_neg q5]
            by_cases q6 : y.2.k = 6 ∧ y.2.o = j
            · rw [if_pos q6]; exact (hk.unlock q6.1 j hj q6.2).2
            · rw [if_neg q6]
              exact hk.other j hj (fun q => by
                rcases q.1 with q1 | q1
                · exact q5 ⟨q1, q.2⟩
                · exact q6 ⟨q1, q.2⟩)
        · rw [← h2 j hj]; exact (hk.lock a j hj b).1
        · rw [← h2 j hj]; exact (hk.unlock a j hj b).1
      · have hpl : plM false C x t = x := by unfold plM; rw [if_neg e]
        rw [hpl]
        exact ih x h1 h2 h3
  exact this l (s, []) hM hl (fun i e hi => by cases hi)
theorem new_lk {nt : Nat} (j : Nat) (hj : j < nl) : (newM nv nf nl nt).locks.getD j 0 = -1 := by
  show (List.replicate nl (-1 : Int)).getD j 0 = -1
  rw [List.getD_eq_getElem?_getD, List.getElem?_replicate, if_pos hj]; rfl
/-! ### holds -/
def hasS (t : Int) (j : Nat) (c : Bool) (e : Ev) : Bool := if e.t = t ∧ e.o = j then (if e.k = 6 then false else if e.k = 5 then true else c) else c
def has (t : Int) (j : Nat) (l : List Ev) : Bool := l.foldl (hasS t j) false
theorem has_snoc (t : Int) (j : Nat) (l : List Ev) (e : Ev) : has t j (l ++ [e]) = hasS t j (has t j l) e := by unfold has; rw [List.foldl_append]; rfl
theorem take_snoc {l : List Ev} {i : Nat} {e : Ev} (h : l[i]? = some e) : l.take (i + 1) = l.take i ++ [e] := by rw [List.take_add_one, h]; rfl
theorem has_own {l : List Ev} (h : LkL nl l) {j : Nat} (hj : j < nl) {t : Int} (ht : 0 ≤ t) : ∀ i, i ≤ l.length → has t j (l.take i) = true → own j (l.take i) = t := by
  intro i
  induction i with
  | zero => intro _ q; rw [List.take_zero] at q; cases q
  | succ i ih =>
    intro hi q
    obtain ⟨e, he⟩ : ∃ e, l[i]? = some e := ⟨_, List.getElem?_eq_getElem (by omega)⟩
    rw [take_snoc he] at q ⊢
    rw [has_snoc] at q
    rw [own_snoc]
    obtain ⟨e0, hE⟩ := h i e he
    obtain ⟨h5, h6⟩ := hE j hj
    have ih := ih (by omega)
    unfold hasS at q
    unfold ownS
    by_cases c1 : e.t = t ∧ e.o = j
    · rw [if_pos c1] at q
      by_cases c6 : e.k = 6
      · rw [if_pos c6] at q; cases q
      · rw [if_neg c6] at q
        by_cases c5 : e.k = 5
        · rw [if_pos ⟨c5, c1.2⟩]; exact c1.1
        · rw [if_neg c5] at q
          rw [if_neg (fun w => c5 w.1), if_neg (fun w => c6 w.1)]
          exact ih q
    · rw [if_neg c1] at q
      have hq := ih q
      by_cases c5 : e.k = 5 ∧ e.o = j
      · have := h5 c5.1 c5.2
        omega
      · rw [if_neg c5]
        by_cases c6 : e.k = 6 ∧ e.o = j
        · have := h6 c6.1 c6.2
          exact absurd ⟨by omega, c6.2⟩ c1
        · rw [if_neg c6]; exact hq
/-- A place where what was so is so no more. -/
theorem turn_at (f : Nat → Int) (p : Int) : ∀ b a, a < b → f a = p → f b ≠ p → ∃ u, a ≤ u ∧ u < b ∧ f u = p ∧ f (u + 1) ≠ p := by
  intro b
  induction b with
  | zero => intro a h; omega
  | succ b ih =>
    intro a h h1 h2
    by_cases e : f b = p
    · exact ⟨b, by omega, by omega, e, h2⟩
    · have : a ≠ b := fun q => e (by rw [← q]; exact h1)
      obtain ⟨u, q1, q2, q3, q4⟩ := ih a (by omega) h1 e
      exact ⟨u, q1, by omega, q3, q4⟩
theorem turn_to (f : Nat → Int) (p : Int) : ∀ b a, a < b → f a ≠ p → f b = p → ∃ u, a ≤ u ∧ u < b ∧ f u ≠ p ∧ f (u + 1) = p := by
  intro b
  induction b with
  | zero => intro a h; omega
  | succ b ih =>
    intro a h h1 h2
    by_cases e : f b = p
    · have : a ≠ b := fun q => h1 (by rw [q]; exact e)
      obtain ⟨u, q1, q2, q3, q4⟩ := ih a (by omega) h1 e
      exact ⟨u, q1, by omega, q3, q4⟩
    · exact ⟨b, by omega, by omega, e, h2⟩
def toO (e : Ev) : Ord.Ev := ⟨e.t, e.k, e.o, e.v⟩
theorem ev_toO {l : List Ev} {i : Nat} {e : Ev} (h : l[i]? = some e) : Ord.ev (l.map toO) i = toO e := by
  unfold Ord.ev
  rw [List.getD_eq_getElem?_getD, List.getElem?_map, h]; rfl
theorem own_turn {l : List Ev} (h : LkL nl l) {j : Nat} (hj : j < nl) {u : Nat} {e : Ev} (he : l[u]? = some e) {t : Int} (ht : 0 ≤ t) (h1 : own j (l.take u) = t) (h2 : own j (l.take (u + 1)) ≠ t) : e.k = 6 ∧ e.o = j ∧ e.t = t ∧ own j (l.take (u + 1)) = -1 := by
  rw [take_snoc he, own_snoc] at h2 ⊢
  obtain ⟨e0, hE⟩ := h u e he
  obtain ⟨h5, h6⟩ := hE j hj
  unfold ownS at h2 ⊢
  by_cases c5 : e.k = 5 ∧ e.o = j
  · have := h5 c5.1 c5.2
    omega
  · rw [if_neg c5] at h2 ⊢
    by_cases c6 : e.k = 6 ∧ e.o = j
    · have := h6 c6.1 c6.2
      rw [if_pos c6]
      exact ⟨c6.1, c6.2, by omega, rfl⟩
    · rw [if_neg c6] at h2
      exact absurd h1 h2
theorem own_to {l : List Ev} {j : Nat} {u : Nat} {e : Ev} (he : l[u]? = some e) {t : Int} (ht : 0 ≤ t) (h1 : own j (l.take u) ≠ t) (h2 : own j (l.take (u + 1)) = t) : e.k = 5 ∧ e.o = j ∧ e.t = t := by
  rw [take_snoc he, own_snoc] at h2
  unfold ownS at h2
  by_cases c5 : e.k = 5 ∧ e.o = j
  · rw [if_pos c5] at h2
    exact ⟨c5.1, c5.2, h2⟩
  · rw [if_neg c5] at h2
    by_cases c6 : e.k = 6 ∧ e.o = j
    · rw [if_pos c6] at h2; omega
    · rw [if_neg c6] at h2
      exact absurd h2 h1
/-- What is done while one holds a lock is in order with what another does while it holds it. -/
theorem locks_order {l : List Ev} (h : LkL nl l) {j : Nat} (hj : j < nl) {a b : Nat} (hab : a < b) {x y : Ev} (ha : l[a]? = some x) (hb : l[b]? = some y) (hne : x.t ≠ y.t) (hx : has x.t j (l.take a) = true) (hy : has y.t j (l.take b) = true) : Ord.bef (Ord.ev (l.map toO)) a b = true := by
  have hbl := (List.getElem?_eq_some_iff.1 hb).1
  have x0 := (h a x ha).1
  have y0 := (h b y hb).1
  have o1 := has_own h hj x0 a (by omega) hx
  have o2 := has_own h hj y0 b (by omega) hy
  obtain ⟨u, u1, u2, u3, u4⟩ := turn_at (fun k => own j (l.take k)) x.t b a hab o1 (by show own j (l.take b) ≠ x.t; omega)
  obtain ⟨eu, heu⟩ : ∃ e, l[u]? = some e := ⟨_, List.getElem?_eq_getElem (by omega)⟩
  obtain ⟨k6, ko, kt, kn⟩ := own_turn h hj heu x0 u3 u4
  have hub : u + 1 < b := by
    rcases Nat.lt_or_ge (u + 1) b with q | q
    · exact q
    · have : u + 1 = b := by omega
      rw [this, o2] at kn
      omega
  obtain ⟨v, v1, v2, v3, v4⟩ := turn_to (fun k => own j (l.take k)) y.t b (u + 1) hub (by show own j (l.take (u + 1)) ≠ y.t; omega) o2
  obtain ⟨ev, hev⟩ : ∃ e, l[v]? = some e := ⟨_, List.getElem?_eq_getElem (by omega)⟩
  obtain ⟨k5, vo, vt⟩ := own_to hev y0 v3 v4
  have huv : Ord.bef (Ord.ev (l.map toO)) u v = true := Ord.bef_leads (by omega) (by
    rw [ev_toO heu, ev_toO hev]
    show Ord.leads ⟨eu.t, eu.k, eu.o, eu.v⟩ ⟨ev.t, ev.k, ev.o, ev.v⟩ = true
    unfold Ord.leads
    dsimp only
    rw [k6, k5, ko, vo]
    simp)
  have hvb : Ord.bef (Ord.ev (l.map toO)) v b = true := Ord.bef_thread v2 (by rw [ev_toO hev, ev_toO hb]; exact vt)
  have hub2 := Ord.bef_trans huv b hvb
  rcases Nat.lt_or_ge a u with q | q
  · exact Ord.bef_trans (Ord.bef_thread q (by rw [ev_toO ha, ev_toO heu]; exact kt.symm)) b hub2
  · have : u = a := by omega
    subst this
    exact hub2
theorem races_locks {l : List Ev} (h : LkL nl l) {n a b : Nat} (hm : (a, b) ∈ Ord.racesTo (Ord.ev (l.map toO)) n) (hn : n = l.length) {x y : Ev} (ha : l[a]? = some x) (hb : l[b]? = some y) {j : Nat} (hj : j < nl) : (has x.t j (l.take a) && has y.t j (l.take b)) = false := by
  obtain ⟨h1, h2, h3⟩ := (Ord.mem_racesTo _ n a b).1 hm
  unfold Ord.race at h3
  rw [Bool.and_eq_true] at h3
  obtain ⟨h4, h5⟩ := h3
  cases e1 : has x.t j (l.take a) with
  | false => rfl
  | true =>
    cases e2 : has y.t j (l.take b) with
    | false => rfl
    | true =>
      have hne : x.t ≠ y.t := by
        intro q
        rw [Ord.bef_thread h2 (by rw [ev_toO ha, ev_toO hb]; exact q)] at h5
        cases h5
      rw [locks_order h hj h2 ha hb hne e1 e2] at h5
      cases h5
end
end Go.Proofs.YtlpdomgedaockaaGreatDoor
namespace Go.Proofs.YtlpdomgedaockaaGreatDoor
open Go.RowKit Go.Proofs.Ord

/-- An event lies here. -/
def EvAt (w : World) (b o : Nat) (e : Ev) : Prop :=
  w.cell? ⟨b, o, none⟩ = some (.int .i64 e.thread) ∧ w.cell? ⟨b, o + 1, none⟩ = some (.int .i64 e.kind) ∧ w.cell? ⟨b, o + 2, none⟩ = some (.int .i64 e.obj) ∧ w.cell? ⟨b, o + 3, none⟩ = some (.int .i64 e.value)
/-- The first cells that a slice leads to hold these events. -/
def EvS (w : World) (a : Option Addr) (l : List Ev) : Prop :=
  ∀ i, i < l.length → ∃ b off, a = some ⟨b, off, none⟩ ∧ b < w.heap.size ∧ EvAt w b (off + i * 4) (Ord.ev l i)
theorem EvAt.below {B : Nat} {w w' : World} {b o : Nat} {e : Ev} (h : EvAt w b o e) (hb : Below B w w') (hlt : b < B) : EvAt w' b o e :=
  ⟨(hb.cell (p := ⟨b, o, none⟩) hlt).trans h.1, (hb.cell (p := ⟨b, o + 1, none⟩) hlt).trans h.2.1, (hb.cell (p := ⟨b, o + 2, none⟩) hlt).trans h.2.2.1, (hb.cell (p := ⟨b, o + 3, none⟩) hlt).trans h.2.2.2⟩
theorem EvS.below {w w' : World} {a : Option Addr} {l : List Ev} (h : EvS w a l) (hb : Below w.heap.size w w') : EvS w' a l := by
  intro i hi
  obtain ⟨b, off, ha, hlt, hc⟩ := h i hi
  exact ⟨b, off, ha, by have := hb.size; omega, hc.below hb hlt⟩
theorem EvS.at {w w' : World} {b off : Nat} {l : List Ev} (h : EvS w (some ⟨b, off, none⟩) l) (hb : Below w.heap.size w w') {i : Nat} (hi : i < l.length) :
    ∃ t k o v, Hid (Ord.ev l i = ⟨t, k, o, v⟩) ∧ w'.cell? ⟨b, off + i * 4, none⟩ = some (.int .i64 t) ∧ w'.cell? ⟨b, off + i * 4 + 1, none⟩ = some (.int .i64 k) ∧ w'.cell? ⟨b, off + i * 4 + 2, none⟩ = some (.int .i64 o) ∧ w'.cell? ⟨b, off + i * 4 + 3, none⟩ = some (.int .i64 v) := by
  obtain ⟨b', off', e, hlt, hc⟩ := h i hi
  cases e
  have h2 := hc.below hb hlt
  exact ⟨_, _, _, _, o_hide rfl, h2.1, h2.2.1, h2.2.2.1, h2.2.2.2⟩
theorem o_drewN {B : Nat} {w0 w : World} (h : Below B w0 w) (n : Nat) : Below B w0 (w.drewN n) := h.trans ⟨rfl, rfl, rfl, Nat.le_refl _, fun _ _ => rfl⟩
theorem Tryz.infob : (Tryz.prog.info? 4).map (fun i => (i.zero, i.size, i.bytes)) = some (some (.bool false), 1, 1) := by kernel_rfl
theorem bcell {W w1 : World} (hb : Below W.heap.size W w1) : (∀ b o, b < W.heap.size → w1.cell? ⟨b, o, none⟩ = W.cell? ⟨b, o, none⟩) ∧ (∀ b o, b < W.heap.size → w1.frozen? ⟨b, o, none⟩ = W.frozen? ⟨b, o, none⟩) :=
  ⟨fun b o h => hb.cell (p := ⟨b, o, none⟩) h, fun b o h => hb.frozen (p := ⟨b, o, none⟩) h⟩
/-- What a row of truths is, told by a function: what is owned is n cells. -/
def Tells (w : World) (B g : Nat) (n : Nat) (f : Nat → Bool) : Prop :=
  w.ownsRow B 4 1 (.slice (some ⟨g, 0, none⟩) n n) n ((List.range n).map fun q => Value.bool (f q))
theorem Tells.cell {w : World} {B g n : Nat} {f : Nat → Bool} (h : Tells w B g n f) {j : Nat} (hj : j < n) : w.cell? ⟨g, j, none⟩ = some (.bool (f j)) := by
  rw [World.ownsRow.cellAt h j (by omega)]; simp [hj]
theorem Tells.frozen {w : World} {B g n : Nat} {f : Nat → Bool} (h : Tells w B g n f) (j : Nat) : w.frozen? ⟨g, j, none⟩ = false := World.ownsRow.frozenAt h j
theorem ownsRow_below {B base e size n : Nat} {w w' : World} {v : Value} {xs : List Value} (h : w.ownsRow base e size v n xs) (hb : Below B w w') (hB : ∀ g, v.ownBlock = some g → g < B) : w'.ownsRow base e size v n xs := by
  refine ⟨h.1, ?_⟩
  rcases h.2 with hn | ⟨g, cap, cur, rfl, h1, hgg, rest⟩
  · exact .inl hn
  · refine .inr ⟨g, cap, cur, rfl, h1, ?_, rest⟩
    rw [hb.block g (hB g rfl)]; exact hgg
theorem Tells.below {B B' g n : Nat} {f : Nat → Bool} {w w' : World} (h : Tells w B g n f) (hb : Below B' w w') (hB : g < B') : Tells w' B g n f :=
  ownsRow_below h hb (fun q e => by simp [Value.ownBlock] at e; omega)
theorem Tells.congr {B g n : Nat} {f f' : Nat → Bool} {w : World} (h : Tells w B g n f) (e : ∀ q, q < n → f q = f' q) : Tells w B g n f' := by
  unfold Tells at *
  have : ((List.range n).map fun q => Value.bool (f q)) = (List.range n).map fun q => Value.bool (f' q) := by
    apply List.map_congr_left
    intro q hq
    rw [e q (List.mem_range.1 hq)]
  rw [← this]; exact h
theorem Tells.stored {B g n : Nat} {f : Nat → Bool} {w : World} (h : Tells w B g n f) (j : Nat) (x : Bool) : Tells (w.setCell ⟨g, j, none⟩ (.bool x)) B g n (fun q => if q = j then x else f q) := by
  have h1 := (World.ownsRow.stored h j (.bool x)).1
  unfold Tells
  have e : ((List.range n).map fun q => Value.bool (if q = j then x else f q)) = ((List.range n).map fun q => Value.bool (f q)).set j (.bool x) := by
    apply List.ext_getElem?
    intro q
    rw [List.getElem?_set]
    by_cases hq : q < n
    · by_cases e : j = q
      · subst e; simp [hq]
      · have e' : ¬ q = j := fun h => e h.symm
        simp [hq, e, e']
    · simp [hq]
      intro e; omega
  rw [e]; exact h1
end Go.Proofs.YtlpdomgedaockaaGreatDoor
/-
  holds: does the thread of an event hold a lock then?
-/
namespace Go.Proofs.YtlpdomgedaockaaGreatDoor
open Go.RowKit Go.Shelf Go.Proofs.Cod

set_option maxRecDepth 100000 in
set_option maxHeartbeats 2000000 in
theorem holds_any {w : World} {ea : Option Addr} {n ec : Nat} {l : List Ev} (hn : l.length = n) (hS : EvS w ea (l.map toO)) {a : Nat} {x : Ev} (hx : l[a]? = some x) (j : Nat) (hn1 : n ≤ 1048576) :
    Calls Tryz.prog 8 #[.slice ea n ec, .int .i64 a, .int .i64 j] w fun e w' => e = .returned (.bool (has x.t j (l.take a))) ∧ Below w.heap.size w w' := by
  have hal : a < l.length := (List.getElem?_eq_some_iff.1 hx).1
  obtain ⟨gb, off, e1, -, -⟩ := hS a (by rw [List.length_map]; exact hal)
  subst e1
  have HC : Hid (∀ (i : Nat) (e : Ev), l[i]? = some e → ∀ u, Below w.heap.size w u → u.cell? ⟨gb, off + i * 4, none⟩ = some (.int .i64 e.t) ∧ u.cell? ⟨gb, off + i * 4 + 1, none⟩ = some (.int .i64 e.k) ∧ u.cell? ⟨gb, off + i * 4 + 2, none⟩ = some (.int .i64 e.o)) := fun i e hi u hu => by
    obtain ⟨b', off', e', hlt, hc⟩ := hS i (by rw [List.length_map]; exact (List.getElem?_eq_some_iff.1 hi).1)
    cases e'
    rw [ev_toO hi] at hc
    exact ⟨(hu.cell (p := ⟨gb, off + i * 4, none⟩) hlt).trans hc.1, (hu.cell (p := ⟨gb, off + i * 4 + 1, none⟩) hlt).trans hc.2.1, (hu.cell (p := ⟨gb, off + i * 4 + 2, none⟩) hlt).trans hc.2.2.1⟩
  obtain ⟨xt, xk, xo, xv⟩ := x
  have ha0 : decide ((a : Int) < 0) = false := decide_eq_false (by omega)
  have ha1 : decide ((n : Int) ≤ (a : Int)) = false := decide_eq_false (by omega)
  have ha2 : decide (n ≤ a) = false := decide_eq_false (by omega)
  have HX := hide (⟨hn, hx, hal, hn1⟩ : _ ∧ _ ∧ _ ∧ _)
  clear hn hS hx hal hn1
  show Calls _ _ _ _ fun e w' => e = .returned (.bool (has xt j (l.take a))) ∧ _
  go_enter Tryz.func8, Tryz.ntmps8
  go_wp2_with fail
  clear ha0 ha1 ha2
  go_loopw [7, 8] (fun hv iv wr => ∃ i : Nat, i ≤ a ∧ iv = .int .i64 i ∧ hv = .bool (has xt j (l.take i)) ∧ Below w.heap.size w wr) (fun _ iv _ => a - (intOf iv).toNat)
  case atStart => exact ⟨0, Nat.zero_le _, rfl, rfl, Below.refl _ _⟩
  case round =>
    obtain ⟨i, hi, rfl, rfl, hBr⟩ := hrel
    by_cases h5 : i < a
    · obtain ⟨hn, hx, hal, hn1⟩ := HX.out
      obtain ⟨e, he⟩ : ∃ e, l[i]? = some e := ⟨_, List.getElem?_eq_getElem (by omega)⟩
      obtain ⟨c0, c1, c2⟩ := HC.out i e he wr hBr
      obtain ⟨d0, -, -⟩ := HC.out a _ hx wr hBr
      have hlt : (i : Int) < (a : Int) := by omega
      have hin : (i : Int) < (n : Int) := by omega
      have han : (a : Int) < (n : Int) := by omega
      have hwi : Hid (wrap64 ((i : Int) + 1) = (i : Int) + 1) := wrap_lt (by omega)
      obtain ⟨hv, hhv⟩ : ∃ b, has xt j (l.take i) = b := ⟨_, rfl⟩
      rw [hhv]
      obtain ⟨et, ek, eo, ev⟩ := e
      dsimp only at c0 c1 c2 d0
      clear hn hx hal hn1 hi
      by_cases q1 : et = xt
      · subst q1
        by_cases q2 : eo = (j : Int)
        · subst q2
          by_cases q3 : ek = 6
          · subst q3
            have hnx : has et j (l.take (i + 1)) = false := by rw [take_snoc he, has_snoc, hhv]; unfold hasS; dsimp only; simp [*]
            have HJ := hide (⟨h5, hnx, hBr⟩ : _ ∧ _ ∧ _)
            clear hnx h5 hBr he hhv HC HX
            go_wp2_with fail
            go_quiet (fail)
            go_wp2_with fail
            go_roundw
            case rel =>
              (try rw [hwi.out])
              exact ⟨i + 1, HJ.out.1, rfl, by rw [HJ.out.2.1], HJ.out.2.2.trans ⟨rfl, rfl, rfl, Nat.le_refl _, fun _ _ => rfl⟩⟩
            case measure =>
              (try rw [hwi.out])
              exact Nat.sub_lt_sub_left HJ.out.1 (Nat.lt_succ_self i)
          · by_cases q4 : ek = 5
            · subst q4
              have hnx : has et j (l.take (i + 1)) = true := by rw [take_snoc he, has_snoc, hhv]; unfold hasS; dsimp only; simp [*]
              have HJ := hide (⟨h5, hnx, hBr⟩ : _ ∧ _ ∧ _)
              clear hnx h5 hBr he hhv HC HX
              go_wp2_with fail
              go_quiet (fail)
              go_wp2_with fail
              go_roundw
              case rel =>
                (try rw [hwi.out])
                exact ⟨i + 1, HJ.out.1, rfl, by rw [HJ.out.2.1], HJ.out.2.2.trans ⟨rfl, rfl, rfl, Nat.le_refl _, fun _ _ => rfl⟩⟩
              case measure =>
                (try rw [hwi.out])
                exact Nat.sub_lt_sub_left HJ.out.1 (Nat.lt_succ_self i)
            · have q5 : (ek == 5) = false := by simpa using q4
              have q6 : (ek == 6) = false := by simpa using q3
              have hnx : has et j (l.take (i + 1)) = hv := by rw [take_snoc he, has_snoc, hhv]; unfold hasS; dsimp only; simp [*]
              have HJ := hide (⟨h5, hnx, hBr⟩ : _ ∧ _ ∧ _)
              clear hnx h5 hBr he hhv HC HX
              go_wp2_with fail
              go_quiet (fail)
              go_wp2_with fail
              go_roundw
              case rel =>
                (try rw [hwi.out])
                exact ⟨i + 1, HJ.out.1, rfl, by rw [HJ.out.2.1], HJ.out.2.2.trans ⟨rfl, rfl, rfl, Nat.le_refl _, fun _ _ => rfl⟩⟩
              case measure =>
                (try rw [hwi.out])
                exact Nat.sub_lt_sub_left HJ.out.1 (Nat.lt_succ_self i)
        · have q5 : (eo == (j : Int)) = false := by simpa using q2
          have hnx : has et j (l.take (i + 1)) = hv := by rw [take_snoc he, has_snoc, hhv]; unfold hasS; dsimp only; simp [*]
          have HJ := hide (⟨h5, hnx, hBr⟩ : _ ∧ _ ∧ _)
          clear hnx h5 hBr he hhv HC HX
          go_wp2_with fail
          go_quiet (fail)
          go_wp2_with fail
          go_roundw
          case rel =>
            (try rw [hwi.out])
            exact ⟨i + 1, HJ.out.1, rfl, by rw [HJ.out.2.1], HJ.out.2.2.trans ⟨rfl, rfl, rfl, Nat.le_refl _, fun _ _ => rfl⟩⟩
          case measure =>
            (try rw [hwi.out])
            exact Nat.sub_lt_sub_left HJ.out.1 (Nat.lt_succ_self i)
      · have q5 : (et == xt) = false := by simpa using q1
        have hnx : has xt j (l.take (i + 1)) = hv := by rw [take_snoc he, has_snoc, hhv]; unfold hasS; dsimp only; simp [*]
        have HJ := hide (⟨h5, hnx, hBr⟩ : _ ∧ _ ∧ _)
        clear hnx h5 hBr he hhv HC HX
        go_wp2_with fail
        go_quiet (fail)
        go_wp2_with fail
        go_roundw
        case rel =>
          (try rw [hwi.out])
          exact ⟨i + 1, HJ.out.1, rfl, by rw [HJ.out.2.1], HJ.out.2.2.trans ⟨rfl, rfl, rfl, Nat.le_refl _, fun _ _ => rfl⟩⟩
        case measure =>
          (try rw [hwi.out])
          exact Nat.sub_lt_sub_left HJ.out.1 (Nat.lt_succ_self i)
    · have hil : a = i := by omega
      subst hil
      have HB := hide hBr
      clear hi h5 hBr HC HX
      go_wp2_with fail
      go_ret
      exact ⟨rfl, HB.out⟩
end Go.Proofs.YtlpdomgedaockaaGreatDoor
namespace Go.Proofs.YtlpdomgedaockaaGreatDoor
open Go.RowKit Go.Proofs.Ord
attribute [local go_sem ↓] Go.wp_at_zero Go.wp_at_succ

theorem Tryz.infoe : (Tryz.prog.info? 49).map (fun i => (i.zero, i.size, i.bytes)) = some (some (.agg #[.int .i64 0, .int .i64 0, .int .i64 0, .int .i64 0]), 4, 32) := by kernel_rfl

/-- Events as cells. -/
def evCells (l : List Ev) : List Value := l.flatMap fun e => [.int .i64 e.thread, .int .i64 e.kind, .int .i64 e.obj, .int .i64 e.value]
theorem evCells_length (l : List Ev) : (evCells l).length = 4 * l.length := by
  induction l with
  | nil => rfl
  | cons p r ih => simp [evCells] at *; omega
theorem evCells_getElem (l : List Ev) : ∀ i, i < l.length → (evCells l)[4 * i]? = some (.int .i64 (ev l i).thread) ∧ (evCells l)[4 * i + 1]? = some (.int .i64 (ev l i).kind) ∧ (evCells l)[4 * i + 2]? = some (.int .i64 (ev l i).obj) ∧ (evCells l)[4 * i + 3]? = some (.int .i64 (ev l i).value) := by
  induction l with
  | nil => intro i hi; simp at hi
  | cons e r ih =>
    intro i hi
    match i with
    | 0 => exact ⟨rfl, rfl, rfl, rfl⟩
    | j + 1 =>
      have h := ih j (by simpa using hi)
      have e1 : evCells (e :: r) = .int .i64 e.thread :: .int .i64 e.kind :: .int .i64 e.obj :: .int .i64 e.value :: evCells r := rfl
      have e2 : ev (e :: r) (j + 1) = ev r j := rfl
      rw [e1, e2, show 4 * (j + 1) = 4 * j + 4 from by omega, show 4 * j + 4 + 1 = 4 * j + 1 + 4 from by omega, show 4 * j + 4 + 2 = 4 * j + 2 + 4 from by omega, show 4 * j + 4 + 3 = 4 * j + 3 + 4 from by omega]
      exact h

/-- What is owned as events' cells is events. -/
theorem evS_of_owns {w : World} {B t n : Nat} {v : Value} {l : List Ev} (h : w.ownsRow B t 4 v n (evCells l)) : ∃ a cap, v = .slice a n cap ∧ l.length = n ∧ n ≤ cap ∧ cap ≤ maxLen ∧ EvS w a l := by
  have hl : l.length = n := by have := h.1; rw [evCells_length] at this; omega
  rcases h.2 with ⟨rfl, h0⟩ | ⟨g, cap, cur, rfl, hB, hg, hc, hm, _, _⟩
  · subst h0
    exact ⟨none, 0, rfl, hl, Nat.le_refl _, by unfold maxLen; omega, fun i hi => absurd hi (by omega)⟩
  · refine ⟨_, cap, rfl, hl, hc, hm, fun i hi => ⟨g, 0, rfl, (Array.getElem?_eq_some_iff.1 hg).1, ?_⟩⟩
    obtain ⟨c0, c1, c2, c3⟩ := evCells_getElem l i hi
    refine ⟨?_, ?_, ?_, ?_⟩
    · rw [show 0 + i * 4 = 4 * i from by omega, h.cellAt _ (by omega)]; exact c0
    · rw [show 0 + i * 4 + 1 = 4 * i + 1 from by omega, h.cellAt _ (by omega)]; exact c1
    · rw [show 0 + i * 4 + 2 = 4 * i + 2 from by omega, h.cellAt _ (by omega)]; exact c2
    · rw [show 0 + i * 4 + 3 = 4 * i + 3 from by omega, h.cellAt _ (by omega)]; exact c3

theorem evCells_take (l : List Ev) (k : Nat) (h : k < l.length) (t ki o v : Int) (e : ev l k = ⟨t, ki, o, v⟩) : evCells (l.take (k + 1)) = evCells (l.take k) ++ [.int .i64 t, .int .i64 ki, .int .i64 o, .int .i64 v] := by
  rw [List.take_succ_eq_append_getElem h]
  have : l[k] = ⟨t, ki, o, v⟩ := by rw [← e]; unfold ev; simp [h]
  simp [evCells, this]

theorem four_newO (w : World) (x y z u : Value) (t : Nat) : ∀ j c, [x, y, z, u][j]? = some c → (w.alloc (.cells #[x, y, z, u] t)).cell? (Addr.add ⟨w.heap.size, 0, none⟩ j) = some c := by
  intro j c hj
  match j, hj with
  | 0, hj => simp at hj; subst hj; simp [Addr.add]
  | 1, hj => simp at hj; subst hj; simp [Addr.add]
  | 2, hj => simp at hj; subst hj; simp [Addr.add]
  | 3, hj => simp at hj; subst hj; simp [Addr.add]

end Go.Proofs.YtlpdomgedaockaaGreatDoor
namespace Go.Proofs.YtlpdomgedaockaaGreatDoor
open Go.RowKit Go.Proofs.Ord

theorem ownsRow_base {w : World} {base base' e size n : Nat} {v : Value} {xs : List Value} (h : w.ownsRow base e size v n xs) (hb : base' ≤ base) : w.ownsRow base' e size v n xs := by
  refine ⟨h.1, ?_⟩
  rcases h.2 with hn | ⟨g, cap, cur, hv, h1, rest⟩
  · exact .inl hn
  · exact .inr ⟨g, cap, cur, hv, by omega, rest⟩
/-- Pairs as cells. -/
def pairCells (ps : List (Nat × Nat)) : List Value := ps.flatMap fun p => [.int .i64 (p.1 : Int), .int .i64 (p.2 : Int)]
theorem pairCells_snoc (ps : List (Nat × Nat)) (i j : Nat) : pairCells (ps ++ [(i, j)]) = pairCells ps ++ [.int .i64 (i : Int), .int .i64 (j : Int)] := by
  simp [pairCells]
theorem pairCells_length (ps : List (Nat × Nat)) : (pairCells ps).length = 2 * ps.length := by
  induction ps with
  | nil => rfl
  | cons p r ih => simp [pairCells] at *; omega
theorem two_new (w : World) (x y : Value) (t : Nat) : ∀ j u, [x, y][j]? = some u → (w.alloc (.cells #[x, y] t)).cell? (Addr.add ⟨w.heap.size, 0, none⟩ j) = some u := by
  intro j u hj
  match j, hj with
  | 0, hj => simp at hj; subst hj; simp [Addr.add]
  | 1, hj => simp at hj; subst hj; simp [Addr.add]
end Go.Proofs.YtlpdomgedaockaaGreatDoor
namespace Go.Proofs.YtlpdomgedaockaaGreatDoor
open Go.RowKit Go.Proofs.Ord

/-- Whether event i is before event j, for any numbers. -/
def befI (l : List Ev) (i j : Int) : Bool := decide (0 ≤ i ∧ i < l.length ∧ 0 ≤ j ∧ j < l.length) && bef (ev l) i.toNat j.toNat
theorem pairCells_getElem (l : List (Nat × Nat)) : ∀ i, i < l.length → (pairCells l)[2 * i]? = some (.int .i64 ((l.getD i (0, 0)).1 : Int)) ∧ (pairCells l)[2 * i + 1]? = some (.int .i64 ((l.getD i (0, 0)).2 : Int)) := by
  induction l with
  | nil => intro i hi; simp at hi
  | cons e r ih =>
    intro i hi
    match i with
    | 0 => exact ⟨rfl, rfl⟩
    | j + 1 =>
      have h := ih j (by simpa using hi)
      have e1 : pairCells (e :: r) = .int .i64 (e.1 : Int) :: .int .i64 (e.2 : Int) :: pairCells r := rfl
      have e2 : (e :: r).getD (j + 1) (0, 0) = r.getD j (0, 0) := rfl
      rw [e1, e2, show 2 * (j + 1) = 2 * j + 2 from by omega, show 2 * j + 2 + 1 = 2 * j + 1 + 2 from by omega]
      exact h
/-- Pairs lie here. -/
def PairS (w : World) (a : Option Addr) (ps : List (Nat × Nat)) : Prop :=
  ∀ i, i < ps.length → ∃ b off, a = some ⟨b, off, none⟩ ∧ b < w.heap.size ∧ w.cell? ⟨b, off + i * 2, none⟩ = some (.int .i64 ((ps.getD i (0, 0)).1 : Int)) ∧ w.cell? ⟨b, off + i * 2 + 1, none⟩ = some (.int .i64 ((ps.getD i (0, 0)).2 : Int))
theorem PairS.below {w w' : World} {a : Option Addr} {ps : List (Nat × Nat)} (h : PairS w a ps) (hb : Below w.heap.size w w') : PairS w' a ps := by
  intro i hi
  obtain ⟨b, off, ha, hlt, h1, h2⟩ := h i hi
  exact ⟨b, off, ha, by have := hb.size; omega, (hb.cell (p := ⟨b, off + i * 2, none⟩) hlt).trans h1, (hb.cell (p := ⟨b, off + i * 2 + 1, none⟩) hlt).trans h2⟩
theorem pairS_of_owns {w : World} {B t n : Nat} {v : Value} {ps : List (Nat × Nat)} (h : w.ownsRow B t 2 v n (pairCells ps)) : ∃ a cap, v = .slice a n cap ∧ ps.length = n ∧ n ≤ cap ∧ cap ≤ maxLen ∧ PairS w a ps := by
  have hl : ps.length = n := by have := h.1; rw [pairCells_length] at this; omega
  rcases h.2 with ⟨rfl, h0⟩ | ⟨g, cap, cur, rfl, hB, hg, hc, hm, _, _⟩
  · subst h0
    exact ⟨none, 0, rfl, hl, Nat.le_refl _, by unfold maxLen; omega, fun i hi => absurd hi (by omega)⟩
  · refine ⟨_, cap, rfl, hl, hc, hm, fun i hi => ⟨g, 0, rfl, (Array.getElem?_eq_some_iff.1 hg).1, ?_, ?_⟩⟩
    · rw [show 0 + i * 2 = 2 * i from by omega, h.cellAt _ (by omega)]; exact (pairCells_getElem ps i hi).1
    · rw [show 0 + i * 2 + 1 = 2 * i + 1 from by omega, h.cellAt _ (by omega)]; exact (pairCells_getElem ps i hi).2
end Go.Proofs.YtlpdomgedaockaaGreatDoor
namespace Go.Proofs.YtlpdomgedaockaaGreatDoor
open Go.RowKit Go.Proofs.Ord

/-- Pairs in new memory, which can be written. -/
def PairNew (B : Nat) (w : World) (v : Value) (ps : List (Nat × Nat)) : Prop :=
  ∃ a cap, v = .slice a ps.length cap ∧ ps.length ≤ cap ∧ cap ≤ maxLen ∧
    ∀ i, i < ps.length → ∃ b off, a = some ⟨b, off, none⟩ ∧ B ≤ b ∧ b < w.heap.size ∧ w.cell? ⟨b, off + i * 2, none⟩ = some (.int .i64 ((ps.getD i (0, 0)).1 : Int)) ∧ w.cell? ⟨b, off + i * 2 + 1, none⟩ = some (.int .i64 ((ps.getD i (0, 0)).2 : Int)) ∧
      w.frozen? ⟨b, off + i * 2, none⟩ = false ∧ w.frozen? ⟨b, off + i * 2 + 1, none⟩ = false
theorem PairNew.pairS {B : Nat} {w : World} {a : Option Addr} {n cap : Nat} {ps : List (Nat × Nat)} (h : PairNew B w (.slice a n cap) ps) : ps.length = n ∧ PairS w a ps := by
  obtain ⟨a', cap', e, _, _, h3⟩ := h
  cases e
  exact ⟨rfl, fun i hi => by obtain ⟨b, off, e1, _, e3, e4, e5, _, _⟩ := h3 i hi; exact ⟨b, off, e1, e3, e4, e5⟩⟩
theorem evS_lit (w : World) (t : Nat) (l : List Ev) (hl : l.length ≤ 1000) : EvS (w.alloc (.cells (evCells l).toArray t)) (some ⟨w.heap.size, 0, none⟩) l := by
  have h := World.ownsRow_lit (base := w.heap.size) (e := t) (size := 4) w (evCells l).toArray l.length (Nat.le_refl _) (by unfold maxLen; omega) (by simp [evCells_length]; omega)
  obtain ⟨a, cap, e, _, _, _, h2⟩ := evS_of_owns (l := l) (v := .slice (some ⟨w.heap.size, 0, none⟩) l.length l.length) (by simpa using h)
  cases e
  exact h2
theorem PairNew.below {B B' : Nat} {w w' : World} {v : Value} {ps : List (Nat × Nat)} (h : PairNew B w v ps) (hb : Below w.heap.size w w') (hB : B' ≤ B) : PairNew B' w' v ps := by
  obtain ⟨a, cap, e, h1, h2, h3⟩ := h
  refine ⟨a, cap, e, h1, h2, fun i hi => ?_⟩
  obtain ⟨b, off, e1, e2, e3, e4, e5, e6, e7⟩ := h3 i hi
  exact ⟨b, off, e1, by omega, by have := hb.size; omega, (hb.cell (p := ⟨b, off + i * 2, none⟩) e3).trans e4, (hb.cell (p := ⟨b, off + i * 2 + 1, none⟩) e3).trans e5, (hb.frozen (p := ⟨b, off + i * 2, none⟩) e3).trans e6, (hb.frozen (p := ⟨b, off + i * 2 + 1, none⟩) e3).trans e7⟩
theorem size_setCell (w : World) (a : Addr) (u : Value) : (w.setCell a u).heap.size = w.heap.size := by
  have h := (Below.refl 0 w).setCell (p := a) (Nat.zero_le _) u
  simp
theorem PairNew.setCell {B b o : Nat} {w : World} {v : Value} {ps : List (Nat × Nat)} (h : PairNew B w v ps) (hb : b < B) (u : Value) : PairNew B (w.setCell ⟨b, o, none⟩ u) v ps := by
  obtain ⟨a, cap, e, h1, h2, h3⟩ := h
  refine ⟨a, cap, e, h1, h2, fun i hi => ?_⟩
  obtain ⟨b', off, e1, e2, e3, e4, e5, e6, e7⟩ := h3 i hi
  refine ⟨b', off, e1, e2, by rw [size_setCell]; exact e3, ?_, ?_, ?_, ?_⟩
  · rw [World.cell?_setCell_other _ _ _ _ (by intro e; cases e; omega)]; exact e4
  · rw [World.cell?_setCell_other _ _ _ _ (by intro e; cases e; omega)]; exact e5
  · rw [World.frozen?_setCell]; exact e6
  · rw [World.frozen?_setCell]; exact e7
theorem pairNew_of_owns {w : World} {B t n : Nat} {v : Value} {ps : List (Nat × Nat)} (h : w.ownsRow B t 2 v n (pairCells ps)) : PairNew B w v ps := by
  have hl : ps.length = n := by have := h.1; rw [pairCells_length] at this; omega
  rcases h.2 with ⟨rfl, h0⟩ | ⟨g, cap, cur, rfl, hB, hg, hc, hm, _, _⟩
  · subst h0
    exact ⟨none, 0, by rw [hl], by omega, by unfold maxLen; omega, fun i hi => absurd hi (by omega)⟩
  · refine ⟨_, cap, by rw [hl], by omega, hm, fun i hi => ⟨g, 0, rfl, hB, (Array.getElem?_eq_some_iff.1 hg).1, ?_, ?_, h.frozenAt _, h.frozenAt _⟩⟩
    · rw [show 0 + i * 2 = 2 * i from by omega, h.cellAt _ (by omega)]; exact (pairCells_getElem ps i hi).1
    · rw [show 0 + i * 2 + 1 = 2 * i + 1 from by omega, h.cellAt _ (by omega)]; exact (pairCells_getElem ps i hi).2
/-- The first numbers of pairs can be written, in blocks from B to C. -/
def PairOpen (B C : Nat) (w : World) (a : Option Addr) (m : Nat) : Prop :=
  ∀ j, j < m → ∃ b off, a = some ⟨b, off, none⟩ ∧ B ≤ b ∧ b < C ∧ (w.cell? ⟨b, off + j * 2, none⟩).isSome = true ∧ w.frozen? ⟨b, off + j * 2, none⟩ = false
theorem PairNew.opened {B : Nat} {w : World} {a : Option Addr} {n cap : Nat} {ps : List (Nat × Nat)} (h : PairNew B w (.slice a n cap) ps) : PairOpen B w.heap.size w a n := by
  obtain ⟨a', cap', e, _, _, h3⟩ := h
  cases e
  intro j hj
  obtain ⟨b, off, e1, e2, e3, e4, e5, e6, e7⟩ := h3 j hj
  exact ⟨b, off, e1, e2, e3, by rw [e4]; rfl, e6⟩
theorem PairOpen.below {B C m : Nat} {w w' : World} {a : Option Addr} (h : PairOpen B C w a m) (hb : Below C w w') : PairOpen B C w' a m := by
  intro j hj
  obtain ⟨b, off, e1, e2, e3, e4, e5⟩ := h j hj
  exact ⟨b, off, e1, e2, e3, by rw [hb.cell (p := ⟨b, off + j * 2, none⟩) e3]; exact e4, (hb.frozen (p := ⟨b, off + j * 2, none⟩) e3).trans e5⟩
theorem isSome_setCell {w : World} {p q : Addr} {u : Value} (h : (w.cell? q).isSome = true) : ((w.setCell p u).cell? q).isSome = true := by
  obtain ⟨x, hx⟩ := Option.isSome_iff_exists.1 h
  by_cases e : q = p
  · subst e
    rw [World.cell?_setCell_same w q u hx]; rfl
  · rw [World.cell?_setCell_other _ _ _ _ (fun h => e h.symm)]; exact h
theorem PairOpen.setCell {B C m : Nat} {w : World} {a : Option Addr} (h : PairOpen B C w a m) (p : Addr) (u : Value) : PairOpen B C (w.setCell p u) a m := by
  intro j hj
  obtain ⟨b, off, e1, e2, e3, e4, e5⟩ := h j hj
  exact ⟨b, off, e1, e2, e3, isSome_setCell e4, by rw [World.frozen?_setCell]; exact e5⟩
theorem beq_self_bool (b : Bool) : (b == b) = true := by cases b <;> rfl
end Go.Proofs.YtlpdomgedaockaaGreatDoor
namespace Go.Proofs.YtlpdomgedaockaaGreatDoor
open Go.RowKit Go.Proofs.Ord

/-- What the program's Before answers. -/
def BeforeSaid : Prop := ∀ (a : Option Addr) (n cap : Nat) (l : List Ev) (i j : Int) (w : World), l.length = n → EvS w a l → n ≤ cap → cap ≤ maxLen → n * 32 ≤ 140737488351232 →
  Calls Tryz.prog 12 #[.slice a n cap, .int .i64 i, .int .i64 j] w fun e w' => e = .returned (.bool (befI l i j)) ∧ Below w.heap.size w w'
theorem befI_nat (l : List Ev) (p q : Nat) (hp : p < l.length) (hq : q < l.length) : befI l p q = bef (ev l) p q := by
  unfold befI
  rw [decide_eq_true (by omega), Bool.true_and]; rfl
theorem BeforeSaid.as (hB : BeforeSaid) {a : Option Addr} {n cap : Nat} {l : List Ev} {p q : Nat} {c : Bool} (hc : bef (ev l) p q = c) (w : World) (hn : l.length = n) (hs : EvS w a l) (h1 : n ≤ cap) (h2 : cap ≤ maxLen) (h3 : n * 32 ≤ 140737488351232) (hp : p < n) (hq : q < n) :
    Calls Tryz.prog 12 #[.slice a n cap, .int .i64 (p : Int), .int .i64 (q : Int)] w fun e w' => e = .returned (.bool c) ∧ Below w.heap.size w w' := by
  rw [← hc, ← befI_nat l p q (by omega) (by omega)]
  exact hB a n cap l p q w hn hs h1 h2 h3
end Go.Proofs.YtlpdomgedaockaaGreatDoor
namespace Go.Proofs.YtlpdomgedaockaaGreatDoor
open Go.RowKit Go.Shelf

/-- The table of the lowest bits lies in its variable. -/
def Tab (w : World) : Prop := TabAt 0 Lib.deBruijn64tab w
theorem tab_below {w w' : World} (hT : Tab w) (hb : Below w.heap.size w w') : Tab w' := fun j hj => (hb.cell (p := ⟨0, j, none⟩) (World.block_lt_of_cell? _ _ (hT j hj))).trans (hT j hj)
end Go.Proofs.YtlpdomgedaockaaGreatDoor
namespace Go.Proofs.YtlpdomgedaockaaGreatDoor
open Go.RowKit Go.Proofs.Ord

/-- What the program's Races answers. -/
def RacesSaid : Prop := ∀ (a : Option Addr) (n cap : Nat) (l : List Ev) (w : World), l.length = n → EvS w a l → n ≤ cap → cap ≤ maxLen → n ≤ 1048576 → Tab w →
  Calls Tryz.prog 7 #[.slice a n cap] w fun e w' => ∃ v, e = .returned v ∧ PairNew w.heap.size w' v (racesTo (ev l) n) ∧ Below w.heap.size w w'
end Go.Proofs.YtlpdomgedaockaaGreatDoor
