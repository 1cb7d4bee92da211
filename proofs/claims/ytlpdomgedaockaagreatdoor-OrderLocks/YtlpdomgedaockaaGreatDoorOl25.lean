import Derived.Test.YtlpdomgedaockaaGreatDoorOl19
import Derived.Test.YtlpdomgedaockaaGreatDoorOo0
import Derived.Test.YtlpdomgedaockaaGreatDoorOo2
import Derived.Test.YtlpdomgedaockaaGreatDoorOl24
import Derived.BigQuiet
import Derived.Test.YtlpdomgedaockaaGreatDoorOl17
import Derived.Test.YtlpdomgedaockaaGreatDoorOl0
import Derived.Test.YtlpdomgedaockaaGreatDoorOl22
import Derived.Deep.RegionHeld3
set_option linter.unusedVariables false
set_option linter.unusedSimpArgs false
namespace Go.Proofs.YtlpdomgedaockaaGreatDoor
open Go.RowKit Go.Proofs.Cod
structure LkOk (nl : Nat) (s s' : MS) (e : Ev) : Prop where
  t0 : 0 ≤ e.t
  lock : e.k = 5 → ∀ j : Nat, j < nl → e.o = j → s.locks.getD j 0 = -1 ∧ s'.locks.getD j 0 = e.t
  unlock : e.k = 6 → ∀ j : Nat, j < nl → e.o = j → s.locks.getD j 0 = e.t ∧ s'.locks.getD j 0 = -1
  other : ∀ j : Nat, j < nl → ¬ ((e.k = 5 ∨ e.k = 6) ∧ e.o = j) → s'.locks.getD j 0 = s.locks.getD j 0
section
variable {nv nf nl : Nat} {C : List (List In7)} {s s' : MS}
theorem lk_keep {nl : Nat} {s s' : MS} {t : Nat} {k o v : Int} (h : s'.locks = s.locks) (h5 : k ≠ 5) (h6 : k ≠ 6) : LkOk nl s s' ⟨t, k, o, v⟩ :=
  ⟨by show (0 : Int) ≤ t; omega, fun q => absurd q h5, fun q => absurd q h6, fun j _ _ => by rw [h]⟩
theorem lk_step (hl : s.locks.length = nl) {t : Nat} {x : In7} (h0 : 0 ≤ x.x) (hw : waitsM s x = false) : LkOk nl s (stpM false s t x).1 (stpM false s t x).2 := by
  unfold stpM
  by_cases c1 : x.op = oSet
  · rw [if_pos c1]; exact lk_keep rfl (by decide) (by decide)
  rw [if_neg c1]
  by_cases c2 : x.op = oAdd
  · rw [if_pos c2]; exact lk_keep rfl (by decide) (by decide)
  rw [if_neg c2]
  by_cases c3 : x.op = oSub
  · rw [if_pos c3]; exact lk_keep rfl (by decide) (by decide)
  rw [if_neg c3]
  by_cases c4 : x.op = oMul
  · rw [if_pos c4]; exact lk_keep rfl (by decide) (by decide)
  rw [if_neg c4]
  by_cases c5 : x.op = oLoad
  · rw [if_pos c5]; exact lk_keep rfl (by decide) (by decide)
  rw [if_neg c5]
  by_cases c6 : x.op = oStore
  · rw [if_pos c6]; exact lk_keep rfl (by decide) (by decide)
  rw [if_neg c6]
  by_cases c7 : x.op = oGet
  · rw [if_pos c7]; exact lk_keep rfl (by decide) (by decide)
  rw [if_neg c7]
  by_cases c8 : x.op = oPut
  · rw [if_pos c8]; exact lk_keep rfl (by decide) (by decide)
  rw [if_neg c8]
  by_cases c9 : x.op = oLock
  · rw [if_pos c9]
    have hfree : s.locks.getD x.x.toNat 0 = -1 := by
      unfold waitsM at hw
      rw [if_pos c9] at hw
      simpa using hw
    refine ⟨by show (0 : Int) ≤ t; omega, fun _ j hj e => ?_, fun q => (by cases q), fun j hj e => ?_⟩
    · have e : x.x = (j : Int) := e
      have e2 : x.x.toNat = j := by omega
      rw [e2] at hfree
      refine ⟨hfree, ?_⟩
      show (s.locks.set x.x.toNat (t : Int)).getD j 0 = t
      rw [e2, List.getD_eq_getElem?_getD, List.getElem?_set, if_pos rfl, if_pos (by omega)]; rfl
    · show (s.locks.set x.x.toNat (t : Int)).getD j 0 = _
      rw [List.getD_eq_getElem?_getD, List.getElem?_set, if_neg (fun q => e ⟨.inl rfl, by show x.x = (j : Int); omega⟩), List.getD_eq_getElem?_getD]
  rw [if_neg c9]
  by_cases c10 : x.op = oUnlock
  · rw [if_pos c10]
    by_cases d : s.locks.getD x.x.toNat 0 ≠ t
    · rw [if_pos d]; exact lk_keep rfl (by decide) (by decide)
    · rw [if_neg d]
      have d := Decidable.not_not.1 d
      refine ⟨by show (0 : Int) ≤ t; omega, fun q => (by cases q), fun _ j hj e => ?_, fun j hj e => ?_⟩
      · have e : x.x = (j : Int) := e
        have e2 : x.x.toNat = j := by omega
        rw [e2] at d
        refine ⟨d, ?_⟩
        show (s.locks.set x.x.toNat (-1)).getD j 0 = -1
        rw [e2, List.getD_eq_getElem?_getD, List.getElem?_set, if_pos rfl, if_pos (by omega)]; rfl
      · show (s.locks.set x.x.toNat (-1)).getD j 0 = _
        rw [List.getD_eq_getElem?_getD, List.getElem?_set, if_neg (fun q => e ⟨.inr rfl, by show x.x = (j : Int); omega⟩), List.getD_eq_getElem?_getD]
  rw [if_neg c10]
  by_cases c11 : x.op = oSpawn
  · rw [if_pos c11]; exact lk_keep rfl (by decide) (by decide)
  rw [if_neg c11]
  by_cases c12 : x.op = oJoin
  · rw [if_pos c12]; exact lk_keep rfl (by decide) (by decide)
  rw [if_neg c12]
  by_cases c13 : x.op = oJump
  · rw [if_pos c13]; exact lk_keep rfl (by decide) (by decide)
  rw [if_neg c13]
  by_cases c14 : x.op = oJeq
  · rw [if_pos c14]; exact lk_keep rfl (by decide) (by decide)
  rw [if_neg c14]
  by_cases c15 : x.op = oJlt
  · rw [if_pos c15]; exact lk_keep rfl (by decide) (by decide)
  rw [if_neg c15]
  by_cases c16 : x.op = oCheck
  · rw [if_pos c16]
    split
    · exact lk_keep rfl (by decide) (by decide)
    · exact lk_keep rfl (by decide) (by decide)
  rw [if_neg c16]
  exact lk_keep rfl (by decide) (by decide)
def ownS (j : Nat) (c : Int) (e : Ev) : Int := if e.k = 5 ∧ e.o = j then e.t else if e.k = 6 ∧ e.o = j then -1 else c
def own (j : Nat) (l : List Ev) : Int := l.foldl (ownS j) (-1)
theorem own_snoc (j : Nat) (l : List Ev) (e : Ev) : own j (l ++ [e]) = ownS j (own j l) e := by unfold own; rw [List.foldl_append]; rfl
def LkL (nl : Nat) (l : List Ev) : Prop := ∀ (i : Nat) (e : Ev), l[i]? = some e → 0 ≤ e.t ∧ ∀ j : Nat, j < nl → (e.k = 5 → e.o = j → own j (l.take i) = -1) ∧ (e.k = 6 → e.o = j → own j (l.take i) = e.t)
theorem LkL.snoc {nl : Nat} {l : List Ev} {e : Ev} (h : LkL nl l) (h0 : 0 ≤ e.t) (he : ∀ j : Nat, j < nl → (e.k = 5 → e.o = j → own j l = -1) ∧ (e.k = 6 → e.o = j → own j l = e.t)) : LkL nl (l ++ [e]) := by
  intro i e' hi
  by_cases q : i < l.length
  · rw [List.getElem?_append_left q] at hi
    rw [List.take_append_of_le_length (by omega)]
    exact h i e' hi
  · have hb : i < (l ++ [e]).length := (List.getElem?_eq_some_iff.1 hi).1
    rw [List.length_append, List.length_singleton] at hb
    have hil : i = l.length := by omega
    subst hil
    rw [List.getElem?_append_right (Nat.le_refl _), Nat.sub_self] at hi
    have hi : some e = some e' := hi
    cases hi
    rw [List.take_append_of_le_length (Nat.le_refl _), List.take_of_length_le (Nat.le_refl _)]
    exact ⟨h0, he⟩
theorem play_lk (hf : PFit nv nf nl C) (hM : MOk nv nf nl C s) (hl : ∀ j : Nat, j < nl → s.locks.getD j 0 = -1) (l : List Int) : LkL nl (playM false C s l).2 := by
  have : ∀ (l : List Int) (x : MS × List Ev), MOk nv nf nl C x.1 → (∀ j : Nat, j < nl → x.1.locks.getD j 0 = own j x.2) → LkL nl x.2 → LkL nl (l.foldl (plM false C) x).2 := by
    intro l
    induction l with
    | nil => exact fun x _ _ h => h
    | cons t r ih =>
      intro x h1 h2 h3
      rw [List.foldl_cons]
      by_cases e : canM C x.1 t = 0
      · have hpl : plM false C x t = ((goM false C x.1 t).1, x.2 ++ [(goM false C x.1 t).2]) := by unfold plM; rw [if_pos e]
        have hok := pl_ok false hf h1 t
        rw [hpl] at hok ⊢
        obtain ⟨u, rfl, hu, p1, hw, hx⟩ := can_info hf h1 e
        have hx0 : 0 ≤ (nextI C u (x.1.th u)).x := by
          rcases hx with q | ⟨q, _⟩
          · rw [q]; decide
          · exact q.x0
        have hk := lk_step (nl := nl) (t := u) h1.ll hx0 hw
        have hgo : goM false C x.1 (u : Int) = stpM false x.1 u (nextI C u (x.1.th u)) := by unfold goM; rw [Int.toNat_natCast]
        rw [hgo] at hok ⊢
        generalize stpM false x.1 u (nextI C u (x.1.th u)) = y at hok hk ⊢
        refine ih _ hok (fun j hj => ?_) (h3.snoc hk.t0 fun j hj => ⟨fun a b => ?_, fun a b => ?_⟩)
        · show y.1.locks.getD j 0 = own j (x.2 ++ [y.2])
          rw [own_snoc, ← h2 j hj]
          unfold ownS
          by_cases q5 : y.2.k = 5 ∧ y.2.o = j
          · rw [if_pos q5]; exact (hk.lock q5.1 j hj q5.2).2
          · rw [if_neg q5]
            by_cases q6 : y.2.k = 6 ∧ y.2.o = j
            · rw [if_pos q6]; exact (hk.unlock q6.1 j hj q6.2).2
            · rw [if_neg q6]
              exact hk.other j hj (fun q => by
                rcases q.1 with q1 | q1
                · exact q5 ⟨q1, q.2⟩
                · exact q6 ⟨q1, q.2⟩)
        · rw [← h2 j hj]; exact (hk.lock a j hj b).1
        · rw [← h2 j hj]; exact (hk.unlock a j hj b).1
      · have hpl : plM false C x t = x := by unfold plM; rw [if_neg e]
        rw [hpl]
        exact ih x h1 h2 h3
  exact this l (s, []) hM hl (fun i e hi => by cases hi)
theorem new_lk {nt : Nat} (j : Nat) (hj : j < nl) : (newM nv nf nl nt).locks.getD j 0 = -1 := by
  show (List.replicate nl (-1 : Int)).getD j 0 = -1
  rw [List.getD_eq_getElem?_getD, List.getElem?_replicate, if_pos hj]; rfl
def hasS (t : Int) (j : Nat) (c : Bool) (e : Ev) : Bool := if e.t = t ∧ e.o = j then (if e.k = 6 then false else if e.k = 5 then true else c) else c
def has (t : Int) (j : Nat) (l : List Ev) : Bool := l.foldl (hasS t j) false
theorem has_snoc (t : Int) (j : Nat) (l : List Ev) (e : Ev) : has t j (l ++ [e]) = hasS t j (has t j l) e := by unfold has; rw [List.foldl_append]; rfl
theorem take_snoc {l : List Ev} {i : Nat} {e : Ev} (h : l[i]? = some e) : l.take (i + 1) = l.take i ++ [e] := by rw [List.take_add_one, h]; rfl
theorem has_own {l : List Ev} (h : LkL nl l) {j : Nat} (hj : j < nl) {t : Int} (ht : 0 ≤ t) : ∀ i, i ≤ l.length → has t j (l.take i) = true → own j (l.take i) = t := by
  intro i
  induction i with
  | zero => intro _ q; rw [List.take_zero] at q; cases q
  | succ i ih =>
    intro hi q
    obtain ⟨e, he⟩ : ∃ e, l[i]? = some e := ⟨_, List.getElem?_eq_getElem (by omega)⟩
    rw [take_snoc he] at q ⊢
    rw [has_snoc] at q
    rw [own_snoc]
    obtain ⟨e0, hE⟩ := h i e he
    obtain ⟨h5, h6⟩ := hE j hj
    have ih := ih (by omega)
    unfold hasS at q
    unfold ownS
    by_cases c1 : e.t = t ∧ e.o = j
    · rw [if_pos c1] at q
      by_cases c6 : e.k = 6
      · rw [if_pos c6] at q; cases q
      · rw [if_neg c6] at q
        by_cases c5 : e.k = 5
        · rw [if_pos ⟨c5, c1.2⟩]; exact c1.1
        · rw [if_neg c5] at q
          rw [if_neg (fun w => c5 w.1), if_neg (fun w => c6 w.1)]
          exact ih q
    · rw [if_neg c1] at q
      have hq := ih q
      by_cases c5 : e.k = 5 ∧ e.o = j
      · have := h5 c5.1 c5.2
        omega
      · rw [if_neg c5]
        by_cases c6 : e.k = 6 ∧ e.o = j
        · have := h6 c6.1 c6.2
          exact absurd ⟨by omega, c6.2⟩ c1
        · rw [if_neg c6]; exact hq
theorem turn_at (f : Nat → Int) (p : Int) : ∀ b a, a < b → f a = p → f b ≠ p → ∃ u, a ≤ u ∧ u < b ∧ f u = p ∧ f (u + 1) ≠ p := by
  intro b
  induction b with
  | zero => intro a h; omega
  | succ b ih =>
    intro a h h1 h2
    by_cases e : f b = p
    · exact ⟨b, by omega, by omega, e, h2⟩
    · have : a ≠ b := fun q => e (by rw [← q]; exact h1)
      obtain ⟨u, q1, q2, q3, q4⟩ := ih a (by omega) h1 e
      exact ⟨u, q1, by omega, q3, q4⟩
theorem turn_to (f : Nat → Int) (p : Int) : ∀ b a, a < b → f a ≠ p → f b = p → ∃ u, a ≤ u ∧ u < b ∧ f u ≠ p ∧ f (u + 1) = p := by
  intro b
  induction b with
  | zero => intro a h; omega
  | succ b ih =>
    intro a h h1 h2
    by_cases e : f b = p
    · have : a ≠ b := fun q => h1 (by rw [q]; exact e)
      obtain ⟨u, q1, q2, q3, q4⟩ := ih a (by omega) h1 e
      exact ⟨u, q1, by omega, q3, q4⟩
    · exact ⟨b, by omega, by omega, e, h2⟩
def toO (e : Ev) : Ord.Ev := ⟨e.t, e.k, e.o, e.v⟩
theorem ev_toO {l : List Ev} {i : Nat} {e : Ev} (h : l[i]? = some e) : Ord.ev (l.map toO) i = toO e := by
  unfold Ord.ev
  rw [List.getD_eq_getElem?_getD, List.getElem?_map, h]; rfl
theorem own_turn {l : List Ev} (h : LkL nl l) {j : Nat} (hj : j < nl) {u : Nat} {e : Ev} (he : l[u]? = some e) {t : Int} (ht : 0 ≤ t) (h1 : own j (l.take u) = t) (h2 : own j (l.take (u + 1)) ≠ t) : e.k = 6 ∧ e.o = j ∧ e.t = t ∧ own j (l.take (u + 1)) = -1 := by
  rw [take_snoc he, own_snoc] at h2 ⊢
  obtain ⟨e0, hE⟩ := h u e he
  obtain ⟨h5, h6⟩ := hE j hj
  unfold ownS at h2 ⊢
  by_cases c5 : e.k = 5 ∧ e.o = j
  · have := h5 c5.1 c5.2
    omega
  · rw [if_neg c5] at h2 ⊢
    by_cases c6 : e.k = 6 ∧ e.o = j
    · have := h6 c6.1 c6.2
      rw [if_pos c6]
      exact ⟨c6.1, c6.2, by omega, rfl⟩
    · rw [if_neg c6] at h2
      exact absurd h1 h2
theorem own_to {l : List Ev} {j : Nat} {u : Nat} {e : Ev} (he : l[u]? = some e) {t : Int} (ht : 0 ≤ t) (h1 : own j (l.take u) ≠ t) (h2 : own j (l.take (u + 1)) = t) : e.k = 5 ∧ e.o = j ∧ e.t = t := by
  rw [take_snoc he, own_snoc] at h2
  unfold ownS at h2
  by_cases c5 : e.k = 5 ∧ e.o = j
  · rw [if_pos c5] at h2
    exact ⟨c5.1, c5.2, h2⟩
  · rw [if_neg c5] at h2
    by_cases c6 : e.k = 6 ∧ e.o = j
    · rw [if_pos c6] at h2; omega
    · rw [if_neg c6] at h2
      exact absurd h2 h1
theorem locks_order {l : List Ev} (h : LkL nl l) {j : Nat} (hj : j < nl) {a b : Nat} (hab : a < b) {x y : Ev} (ha : l[a]? = some x) (hb : l[b]? = some y) (hne : x.t ≠ y.t) (hx : has x.t j (l.take a) = true) (hy : has y.t j (l.take b) = true) : Ord.bef (Ord.ev (l.map toO)) a b = true := by
  have hbl := (List.getElem?_eq_some_iff.1 hb).1
  have x0 := (h a x ha).1
  have y0 := (h b y hb).1
  have o1 := has_own h hj x0 a (by omega) hx
  have o2 := has_own h hj y0 b (by omega) hy
  obtain ⟨u, u1, u2, u3, u4⟩ := turn_at (fun k => own j (l.take k)) x.t b a hab o1 (by show own j (l.take b) ≠ x.t; omega)
  obtain ⟨eu, heu⟩ : ∃ e, l[u]? = some e := ⟨_, List.getElem?_eq_getElem (by omega)⟩
  obtain ⟨k6, ko, kt, kn⟩ := own_turn h hj heu x0 u3 u4
  have hub : u + 1 < b := by
    rcases Nat.lt_or_ge (u + 1) b with q | q
    · exact q
    · have : u + 1 = b := by omega
      rw [this, o2] at kn
      omega
  obtain ⟨v, v1, v2, v3, v4⟩ := turn_to (fun k => own j (l.take k)) y.t b (u + 1) hub (by show own j (l.take (u + 1)) ≠ y.t; omega) o2
  obtain ⟨ev, hev⟩ : ∃ e, l[v]? = some e := ⟨_, List.getElem?_eq_getElem (by omega)⟩
  obtain ⟨k5, vo, vt⟩ := own_to hev y0 v3 v4
  have huv : Ord.bef (Ord.ev (l.map toO)) u v = true := Ord.bef_leads (by omega) (by
    rw [ev_toO heu, ev_toO hev]
    show Ord.leads ⟨eu.t, eu.k, eu.o, eu.v⟩ ⟨ev.t, ev.k, ev.o, ev.v⟩ = true
    unfold Ord.leads
    dsimp only
    rw [k6, k5, ko, vo]
    simp)
  have hvb : Ord.bef (Ord.ev (l.map toO)) v b = true := Ord.bef_thread v2 (by rw [ev_toO hev, ev_toO hb]; exact vt)
  have hub2 := Ord.bef_trans huv b hvb
  rcases Nat.lt_or_ge a u with q | q
  · exact Ord.bef_trans (Ord.bef_thread q (by rw [ev_toO ha, ev_toO heu]; exact kt.symm)) b hub2
  · have : u = a := by omega
    subst this
    exact hub2
theorem races_locks {l : List Ev} (h : LkL nl l) {n a b : Nat} (hm : (a, b) ∈ Ord.racesTo (Ord.ev (l.map toO)) n) (hn : n = l.length) {x y : Ev} (ha : l[a]? = some x) (hb : l[b]? = some y) {j : Nat} (hj : j < nl) : (has x.t j (l.take a) && has y.t j (l.take b)) = false := by
  obtain ⟨h1, h2, h3⟩ := (Ord.mem_racesTo _ n a b).1 hm
  unfold Ord.race at h3
  rw [Bool.and_eq_true] at h3
  obtain ⟨h4, h5⟩ := h3
  cases e1 : has x.t j (l.take a) with
  | false => rfl
  | true =>
    cases e2 : has y.t j (l.take b) with
    | false => rfl
    | true =>
      have hne : x.t ≠ y.t := by
        intro q
        rw [Ord.bef_thread h2 (by rw [ev_toO ha, ev_toO hb]; exact q)] at h5
        cases h5
      rw [locks_order h hj h2 ha hb hne e1 e2] at h5
      cases h5
end
end Go.Proofs.YtlpdomgedaockaaGreatDoor
namespace Go.Proofs.YtlpdomgedaockaaGreatDoor
open Go.RowKit Go.Shelf Go.Proofs.Cod
set_option maxRecDepth 100000 in
set_option maxHeartbeats 2000000 in
theorem holds_any {w : World} {ea : Option Addr} {n ec : Nat} {l : List Ev} (hn : l.length = n) (hS : EvS w ea (l.map toO)) {a : Nat} {x : Ev} (hx : l[a]? = some x) (j : Nat) (hn1 : n ≤ 1048576) :
    Calls Tryz.prog 8 #[.slice ea n ec, .int .i64 a, .int .i64 j] w fun e w' => e = .returned (.bool (has x.t j (l.take a))) ∧ Below w.heap.size w w' := by
  have hal : a < l.length := (List.getElem?_eq_some_iff.1 hx).1
  obtain ⟨gb, off, e1, -, -⟩ := hS a (by rw [List.length_map]; exact hal)
  subst e1
  have HC : Hid (∀ (i : Nat) (e : Ev), l[i]? = some e → ∀ u, Below w.heap.size w u → u.cell? ⟨gb, off + i * 4, none⟩ = some (.int .i64 e.t) ∧ u.cell? ⟨gb, off + i * 4 + 1, none⟩ = some (.int .i64 e.k) ∧ u.cell? ⟨gb, off + i * 4 + 2, none⟩ = some (.int .i64 e.o)) := fun i e hi u hu => by
    obtain ⟨b', off', e', hlt, hc⟩ := hS i (by rw [List.length_map]; exact (List.getElem?_eq_some_iff.1 hi).1)
    cases e'
    rw [ev_toO hi] at hc
    exact ⟨(hu.cell (p := ⟨gb, off + i * 4, none⟩) hlt).trans hc.1, (hu.cell (p := ⟨gb, off + i * 4 + 1, none⟩) hlt).trans hc.2.1, (hu.cell (p := ⟨gb, off + i * 4 + 2, none⟩) hlt).trans hc.2.2.1⟩
  obtain ⟨xt, xk, xo, xv⟩ := x
  have ha0 : decide ((a : Int) < 0) = false := decide_eq_false (by omega)
  have ha1 : decide ((n : Int) ≤ (a : Int)) = false := decide_eq_false (by omega)
  have ha2 : decide (n ≤ a) = false := decide_eq_false (by omega)
  have HX := hide (⟨hn, hx, hal, hn1⟩ : _ ∧ _ ∧ _ ∧ _)
  clear hn hS hx hal hn1
  show Calls _ _ _ _ fun e w' => e = .returned (.bool (has xt j (l.take a))) ∧ _
  go_enter Tryz.func8, Tryz.ntmps8
  go_wp2_with fail
  clear ha0 ha1 ha2
  go_loopw [7, 8] (fun hv iv wr => ∃ i : Nat, i ≤ a ∧ iv = .int .i64 i ∧ hv = .bool (has xt j (l.take i)) ∧ Below w.heap.size w wr) (fun _ iv _ => a - (intOf iv).toNat)
  case atStart => exact ⟨0, Nat.zero_le _, rfl, rfl, Below.refl _ _⟩
  case round =>
    obtain ⟨i, hi, rfl, rfl, hBr⟩ := hrel
    by_cases h5 : i < a
    · obtain ⟨hn, hx, hal, hn1⟩ := HX.out
      obtain ⟨e, he⟩ : ∃ e, l[i]? = some e := ⟨_, List.getElem?_eq_getElem (by omega)⟩
      obtain ⟨c0, c1, c2⟩ := HC.out i e he wr hBr
      obtain ⟨d0, -, -⟩ := HC.out a _ hx wr hBr
      have hlt : (i : Int) < (a : Int) := by omega
      have hin : (i : Int) < (n : Int) := by omega
      have han : (a : Int) < (n : Int) := by omega
      have hwi : Hid (wrap64 ((i : Int) + 1) = (i : Int) + 1) := wrap_lt (by omega)
      obtain ⟨hv, hhv⟩ : ∃ b, has xt j (l.take i) = b := ⟨_, rfl⟩
      rw [hhv]
      obtain ⟨et, ek, eo, ev⟩ := e
      dsimp only at c0 c1 c2 d0
      clear hn hx hal hn1 hi
      by_cases q1 : et = xt
      · subst q1
        by_cases q2 : eo = (j : Int)
        · subst q2
          by_cases q3 : ek = 6
          · subst q3
            have hnx : has et j (l.take (i + 1)) = false := by rw [take_snoc he, has_snoc, hhv]; unfold hasS; dsimp only; simp [*]
            have HJ := hide (⟨h5, hnx, hBr⟩ : _ ∧ _ ∧ _)
            clear hnx h5 hBr he hhv HC HX
            go_wp2_with fail
            go_quiet (fail)
            go_wp2_with fail
            go_roundw
            case rel =>
              (try rw [hwi.out])
              exact ⟨i + 1, HJ.out.1, rfl, by rw [HJ.out.2.1], HJ.out.2.2.trans ⟨rfl, rfl, rfl, Nat.le_refl _, fun _ _ => rfl⟩⟩
            case measure =>
              (try rw [hwi.out])
              exact Nat.sub_lt_sub_left HJ.out.1 (Nat.lt_succ_self i)
          · by_cases q4 : ek = 5
            · subst q4
              have hnx : has et j (l.take (i + 1)) = true := by rw [take_snoc he, has_snoc, hhv]; unfold hasS; dsimp only; simp [*]
              have HJ := hide (⟨h5, hnx, hBr⟩ : _ ∧ _ ∧ _)
              clear hnx h5 hBr he hhv HC HX
              go_wp2_with fail
              go_quiet (fail)
              go_wp2_with fail
              go_roundw
              case rel =>
                (try rw [hwi.out])
                exact ⟨i + 1, HJ.out.1, rfl, by rw [HJ.out.2.1], HJ.out.2.2.trans ⟨rfl, rfl, rfl, Nat.le_refl _, fun _ _ => rfl⟩⟩
              case measure =>
                (try rw [hwi.out])
                exact Nat.sub_lt_sub_left HJ.out.1 (Nat.lt_succ_self i)
            · have q5 : (ek == 5) = false := by simpa using q4
              have q6 : (ek == 6) = false := by simpa using q3
              have hnx : has et j (l.take (i + 1)) = hv := by rw [take_snoc he, has_snoc, hhv]; unfold hasS; dsimp only; simp [*]
              have HJ := hide (⟨h5, hnx, hBr⟩ : _ ∧ _ ∧ _)
              clear hnx h5 hBr he hhv HC HX
              go_wp2_with fail
              go_quiet (fail)
              go_wp2_with fail
              go_roundw
              case rel =>
                (try rw [hwi.out])
                exact ⟨i + 1, HJ.out.1, rfl, by rw [HJ.out.2.1], HJ.out.2.2.trans ⟨rfl, rfl, rfl, Nat.le_refl _, fun _ _ => rfl⟩⟩
              case measure =>
                (try rw [hwi.out])
                exact Nat.sub_lt_sub_left HJ.out.1 (Nat.lt_succ_self i)
        · have q5 : (eo == (j : Int)) = false := by simpa using q2
          have hnx : has et j (l.take (i + 1)) = hv := by rw [take_snoc he, has_snoc, hhv]; unfold hasS; dsimp only; simp [*]
          have HJ := hide (⟨h5, hnx, hBr⟩ : _ ∧ _ ∧ _)
          clear hnx h5 hBr he hhv HC HX
          go_wp2_with fail
          go_quiet (fail)
          go_wp2_with fail
          go_roundw
          case rel =>
            (try rw [hwi.out])
            exact ⟨i + 1, HJ.out.1, rfl, by rw [HJ.out.2.1], HJ.out.2.2.trans ⟨rfl, rfl, rfl, Nat.le_refl _, fun _ _ => rfl⟩⟩
          case measure =>
            (try rw [hwi.out])
            exact Nat.sub_lt_sub_left HJ.out.1 (Nat.lt_succ_self i)
      · have q5 : (et == xt) = false := by simpa using q1
        have hnx : has xt j (l.take (i + 1)) = hv := by rw [take_snoc he, has_snoc, hhv]; unfold hasS; dsimp only; simp [*]
        have HJ := hide (⟨h5, hnx, hBr⟩ : _ ∧ _ ∧ _)
        clear hnx h5 hBr he hhv HC HX
        go_wp2_with fail
        go_quiet (fail)
        go_wp2_with fail
        go_roundw
        case rel =>
          (try rw [hwi.out])
          exact ⟨i + 1, HJ.out.1, rfl, by rw [HJ.out.2.1], HJ.out.2.2.trans ⟨rfl, rfl, rfl, Nat.le_refl _, fun _ _ => rfl⟩⟩
        case measure =>
          (try rw [hwi.out])
          exact Nat.sub_lt_sub_left HJ.out.1 (Nat.lt_succ_self i)
    · have hil : a = i := by omega
      subst hil
      have HB := hide hBr
      clear hi h5 hBr HC HX
      go_wp2_with fail
      go_ret
      exact ⟨rfl, HB.out⟩
end Go.Proofs.YtlpdomgedaockaaGreatDoor
namespace Go.Proofs.YtlpdomgedaockaaGreatDoor
open Go.RowKit Go.Shelf Go.Proofs.Cod
set_option maxRecDepth 100000 in
theorem num_any (n : Int) (w : World) : Calls Tryz.prog 11 #[.int .i64 n] w fun e w' => e = .returned (.int .i64 n) ∧ w' = w := by
  go_enter Tryz.func11, Tryz.ntmps11
  go_wp2_with fail
  go_ret
  exact ⟨rfl, rfl⟩
theorem Tryz.sizePg : (Tryz.prog.info? 26).map (·.size) = some 4 := by kernel_rfl
theorem Tryz.sizeRg : (Tryz.prog.info? 29).map (·.size) = some 4 := by kernel_rfl
theorem load_val {P : Program} {w : World} {fn : Func} {tmps : Array Value} {b c T U : Nat} {v u x : Value} (hr : fn.results = #[.cell 2 T, .cell 3 U, .tmp 4]) (h2 : tmps[2]? = some (.pointer (some ⟨b, 0, none⟩))) (h3 : tmps[3]? = some (.pointer (some ⟨c, 0, none⟩))) (h4 : tmps[4]? = some x) (hl : (loadVar T ⟨b, 0, none⟩).run P w = .ok v w) (hm : (loadVar U ⟨c, 0, none⟩).run P w = .ok u w) : (results fn tmps).run P w = .ok (.tuple #[v, u, x]) w := by
  simp [results, hr, h2, h3, h4, asAddr, hl, hm]
def four (a b c d : Value) (k : Nat) : Value := if k = 0 then a else if k = 1 then b else if k = 2 then c else d
theorem four_row (a b c d : Value) : ((List.range 4).map (four a b c d)).toArray = #[a, b, c, d] := rfl
theorem four_new {w : World} {b T : Nat} {x y z u : Value} (h : w.heap[b]? = some (.cells #[x, y, z, u] T)) : RowF w b T 4 (four x y z u) := by
  refine ⟨_, h, rfl, fun k hk => ?_⟩
  have : k = 0 ∨ k = 1 ∨ k = 2 ∨ k = 3 := by omega
  rcases this with rfl | rfl | rfl | rfl <;> rfl
def nilV : Value := .slice none 0 0
def LoadR (w : World) (t : Tx) (e : Ending) (w' : World) : Prop := Below w.heap.size w w' ∧
  (e = .returned (.tuple #[.agg #[nilV, nilV, nilV, nilV], .agg #[nilV, nilV, nilV, nilV], .bool false]) ∨
   (∃ s C vV fV lV thV L qv qf ql qt P TV, parseT t = .ok (s, C) ∧ e = .returned (.tuple #[.agg #[vV, fV, lV, thV], .agg #[qv, qf, ql, qt], .bool true]) ∧
     ProgW w' w.heap.size vV fV lV thV (s.nms 118) (s.nms 102) (s.nms 109) L C ∧ L.map Prod.fst = s.nms 116 ∧ QView w' w.heap.size qv qf ql qt P TV ∧ P.vs = s.nms 118 ∧ P.fs = s.nms 102 ∧ P.ls = s.nms 109 ∧ P.names = s.nms 116 ∧ (P.thr.map fun th => th.code.map RI.i) = C))
theorem QView.belowW {w w' : World} {base : Nat} {vV fV lV tV : Value} {P : RP} {TV : List (Value × Value)} (h : QView w base vV fV lV tV P TV) (hb : Below w.heap.size w w') : QView w' base vV fV lV tV P TV := h.above fun k _ hk => hb.block k hk
theorem QView.base {w : World} {base base' : Nat} {vV fV lV tV : Value} {P : RP} {TV : List (Value × Value)} (h : QView w base vV fV lV tV P TV) (hb : base' ≤ base) : QView w base' vV fV lV tV P TV :=
  ⟨c_base h.v hb, c_base h.f hb, c_base h.l hb, c_base h.t hb, h.len, fun j th p h1 h2 => c_base (h.c j th p h1 h2) hb⟩
theorem ProgW.sameAt {w w' : World} {base : Nat} {vV fV lV thV : Value} {vs fs ls : List Tx} {L : List (Tx × Value)} {C : List (List In7)} (h : ProgW w base vV fV lV thV vs fs ls L C) (hb : ∀ k, base ≤ k → k < w.heap.size → w'.heap[k]? = w.heap[k]?) : ProgW w' base vV fV lV thV vs fs ls L C :=
  ⟨c_above h.v hb, c_above h.f hb, c_above h.l hb, c_above h.t hb, fun i p is h1 h2 => c_above (h.c i p is h1 h2) hb, h.len⟩
end Go.Proofs.YtlpdomgedaockaaGreatDoor
