import Derived.Test.YtomhdopbbnmcnabFa3
import Derived.Test.YtomhdopbbnmcnabFa0
import Derived.Deep.RegionHeld3
import Derived.Deep.DrawnRows
import Derived.Deep.QuietTactic
import Derived.BigQuiet
import Derived.Deep.AppendLies
import Derived.WalkSpells
import Derived.StillTactics
import Derived.OwnWalk
import Derived.Laws.Pointers
import Derived.Maps.AppendAt
import Derived.Test.YtomhdopbbnmcnabFa12
import Derived.Test.YtomhdopbbnmcnabFa5
/-
  Accesses of other variables change nothing of a variable's races: they may be told as local events.
-/
namespace Go.Proofs.Ytomhdopbbnmcnab
open Go.Proofs.Ord

/-- An access of another variable, as a local event. -/
def calmE (x : Int) (e : Ev) : Ev := if access e && !(e.obj == x) then ⟨e.thread, 0, e.obj, e.value⟩ else e
theorem calm_thread (x : Int) (e : Ev) : (calmE x e).thread = e.thread := by unfold calmE; split <;> rfl
theorem calm_obj (x : Int) (e : Ev) : (calmE x e).obj = e.obj := by unfold calmE; split <;> rfl
theorem calm_kind (x : Int) (e : Ev) : ((calmE x e).kind = e.kind ∧ (access e = false ∨ e.obj = x)) ∨ ((calmE x e).kind = 0 ∧ (e.kind = 1 ∨ e.kind = 2) ∧ e.obj ≠ x) := by
  unfold calmE
  split
  · rename_i h
    rw [Bool.and_eq_true] at h
    refine .inr ⟨rfl, by have := h.1; unfold access at this; simpa using this, by simpa using h.2⟩
  · rename_i h
    rw [Bool.and_eq_true] at h
    refine .inl ⟨rfl, ?_⟩
    cases ha : access e with
    | false => exact .inl rfl
    | true => right; exact Classical.byContradiction fun e' => h ⟨ha, by simpa using e'⟩
theorem calm_beq (x : Int) (e : Ev) {n : Int} (h1 : n ≠ 1) (h2 : n ≠ 2) (h9 : n ≠ 0) : ((calmE x e).kind == n) = (e.kind == n) := by
  rcases calm_kind x e with ⟨h, _⟩ | ⟨h, hk, _⟩
  · rw [h]
  · rw [h]
    have a : ((0 : Int) == n) = false := by simp; omega
    have b : (e.kind == n) = false := by simp; omega
    rw [a, b]
theorem calm_access (x : Int) (e : Ev) : access (calmE x e) = (access e && e.obj == x) := by
  rw [Bool.eq_iff_iff, Bool.and_eq_true]
  rcases calm_kind x e with ⟨h, h'⟩ | ⟨h, hk, hne⟩
  · have e1 : access (calmE x e) = access e := by unfold access; rw [h]
    rw [e1]
    rcases h' with h' | h'
    · simp [h']
    · simp [h']
  · have e1 : access (calmE x e) = false := by unfold access; rw [h]; rfl
    simp [e1, hne]
theorem calm_kind2 (x : Int) (e : Ev) (h : e.obj = x) : (calmE x e).kind = e.kind := by
  rcases calm_kind x e with ⟨h', _⟩ | ⟨_, _, hne⟩
  · exact h'
  · exact absurd h hne
theorem calm_leads (x : Int) (a b : Ev) : leads (calmE x a) (calmE x b) = leads a b := by
  unfold leads
  rw [calm_thread, calm_thread, calm_obj, calm_obj, calm_beq x a (n := 6) (by decide) (by decide) (by decide), calm_beq x b (n := 5) (by decide) (by decide) (by decide), calm_beq x a (n := 4) (by decide) (by decide) (by decide), calm_beq x b (n := 3) (by decide) (by decide) (by decide), calm_beq x a (n := 7) (by decide) (by decide) (by decide), calm_beq x b (n := 8) (by decide) (by decide) (by decide)]
theorem bef_leads_same {l m : Nat → Ev} (h : ∀ i j, leads (l i) (l j) = leads (m i) (m j)) (i : Nat) : ∀ j, bef l i j = bef m i j := by
  intro j
  induction j using Nat.strongRecOn with
  | ind j ih =>
    rw [Bool.eq_iff_iff, bef_iff, bef_iff]
    constructor
    · rintro ⟨h1, h2 | ⟨k, h3, h4, h5, h6⟩⟩
      · exact ⟨h1, .inl (by rw [← h]; exact h2)⟩
      · exact ⟨h1, .inr ⟨k, h3, h4, by rw [← ih k h4]; exact h5, by rw [← h]; exact h6⟩⟩
    · rintro ⟨h1, h2 | ⟨k, h3, h4, h5, h6⟩⟩
      · exact ⟨h1, .inl (by rw [h]; exact h2)⟩
      · exact ⟨h1, .inr ⟨k, h3, h4, by rw [ih k h4]; exact h5, by rw [h]; exact h6⟩⟩
/-- The list with the other variables' accesses as local events. -/
def calmL (L : Nat → Ev) (x : Int) (i : Nat) : Ev := calmE x (L i)
theorem calm_race (L : Nat → Ev) (x : Int) (i j : Nat) : race (calmL L x) i j = (race L i j && (L j).obj == x) := by
  have hb : bef (calmL L x) i j = bef L i j := bef_leads_same (fun i j => calm_leads x _ _) i j
  unfold race
  rw [hb]
  have hc : conflict (calmL L x i) (calmL L x j) = (conflict (L i) (L j) && (L j).obj == x) := by
    unfold calmL conflict
    rw [calm_access, calm_access, calm_obj, calm_obj, calm_thread, calm_thread]
    by_cases hi : (L i).obj = x
    · by_cases hj : (L j).obj = x
      · rw [calm_kind2 x _ hi, calm_kind2 x _ hj]; simp [hi, hj]
      · have : ((L j).obj == x) = false := by simpa using hj
        simp [this]
    · have h1 : ((L i).obj == x) = false := by simpa using hi
      by_cases hj : (L j).obj = x
      · have h2 : ((L i).obj == (L j).obj) = false := by rw [hj]; exact h1
        simp [h1, h2]
      · have : ((L j).obj == x) = false := by simpa using hj
        simp [h1, this]
  rw [hc]
  cases conflict (L i) (L j) <;> cases bef L i j <;> cases ((L j).obj == x) <;> rfl
theorem calm_racy (L : Nat → Ev) (x : Int) (j : Nat) : racy (calmL L x) j = hits L x j := by
  rw [Bool.eq_iff_iff, racy_iff]
  unfold hits
  rw [Bool.and_eq_true, racy_iff]
  constructor
  · rintro ⟨i, h1, h2⟩
    rw [calm_race, Bool.and_eq_true] at h2
    exact ⟨⟨i, h1, h2.1⟩, h2.2⟩
  · rintro ⟨⟨i, h1, h2⟩, h3⟩
    exact ⟨i, h1, by rw [calm_race, h2, h3]; rfl⟩
/-- A first race of what is told so is the variable's first race. -/
theorem calm_first (L : Nat → Ev) (x : Int) (j : Nat) : isFirst (calmL L x) j = true ↔ hits L x j = true ∧ ∀ q, q < j → hits L x q = false := by
  rw [isFirst_iff, calm_racy]
  have ho : ∀ i, (calmL L x i).obj = (L i).obj := fun i => calm_obj x _
  constructor
  · rintro ⟨h1, h2⟩
    have hx : (L j).obj = x := by unfold hits at h1; rw [Bool.and_eq_true] at h1; simpa using h1.2
    refine ⟨h1, fun q hq => ?_⟩
    have := h2 q hq
    unfold hits at this
    rw [calm_racy, ho, ho, hx] at this
    unfold hits at this ⊢
    cases hr : racy L q <;> cases he : ((L q).obj == x) <;> simp [hr, he] at this ⊢
  · rintro ⟨h1, h2⟩
    refine ⟨h1, fun q hq => ?_⟩
    unfold hits
    rw [calm_racy, h2 q hq]; rfl
end Go.Proofs.Ytomhdopbbnmcnab
namespace Go.Proofs.Ytomhdopbbnmcnab
open Go.RowKit Go.Proofs.Ord

/-- An event lies here. -/
def EvAt (w : World) (b o : Nat) (e : Ev) : Prop :=
  w.cell? ⟨b, o, none⟩ = some (.int .i64 e.thread) ∧ w.cell? ⟨b, o + 1, none⟩ = some (.int .i64 e.kind) ∧ w.cell? ⟨b, o + 2, none⟩ = some (.int .i64 e.obj) ∧ w.cell? ⟨b, o + 3, none⟩ = some (.int .i64 e.value)
/-- The first cells that a slice leads to hold these events. -/
def EvS (w : World) (a : Option Addr) (l : List Ev) : Prop :=
  ∀ i, i < l.length → ∃ b off, a = some ⟨b, off, none⟩ ∧ b < w.heap.size ∧ EvAt w b (off + i * 4) (Ord.ev l i)
theorem EvAt.below {B : Nat} {w w' : World} {b o : Nat} {e : Ev} (h : EvAt w b o e) (hb : Below B w w') (hlt : b < B) : EvAt w' b o e :=
  ⟨(hb.cell (p := ⟨b, o, none⟩) hlt).trans h.1, (hb.cell (p := ⟨b, o + 1, none⟩) hlt).trans h.2.1, (hb.cell (p := ⟨b, o + 2, none⟩) hlt).trans h.2.2.1, (hb.cell (p := ⟨b, o + 3, none⟩) hlt).trans h.2.2.2⟩
theorem EvS.below {w w' : World} {a : Option Addr} {l : List Ev} (h : EvS w a l) (hb : Below w.heap.size w w') : EvS w' a l := by
  intro i hi
  obtain ⟨b, off, ha, hlt, hc⟩ := h i hi
  exact ⟨b, off, ha, by have := hb.size; omega, hc.below hb hlt⟩
theorem EvS.at {w w' : World} {b off : Nat} {l : List Ev} (h : EvS w (some ⟨b, off, none⟩) l) (hb : Below w.heap.size w w') {i : Nat} (hi : i < l.length) :
    ∃ t k o v, Hid (Ord.ev l i = ⟨t, k, o, v⟩) ∧ w'.cell? ⟨b, off + i * 4, none⟩ = some (.int .i64 t) ∧ w'.cell? ⟨b, off + i * 4 + 1, none⟩ = some (.int .i64 k) ∧ w'.cell? ⟨b, off + i * 4 + 2, none⟩ = some (.int .i64 o) ∧ w'.cell? ⟨b, off + i * 4 + 3, none⟩ = some (.int .i64 v) := by
  obtain ⟨b', off', e, hlt, hc⟩ := h i hi
  cases e
  have h2 := hc.below hb hlt
  exact ⟨_, _, _, _, o_hide rfl, h2.1, h2.2.1, h2.2.2.1, h2.2.2.2⟩
theorem o_drewN {B : Nat} {w0 w : World} (h : Below B w0 w) (n : Nat) : Below B w0 (w.drewN n) := h.trans ⟨rfl, rfl, rfl, Nat.le_refl _, fun _ _ => rfl⟩
theorem Try.infob : (Try.prog.info? 4).map (fun i => (i.zero, i.size, i.bytes)) = some (some (.bool false), 1, 1) := by kernel_rfl
theorem bcell {W w1 : World} (hb : Below W.heap.size W w1) : (∀ b o, b < W.heap.size → w1.cell? ⟨b, o, none⟩ = W.cell? ⟨b, o, none⟩) ∧ (∀ b o, b < W.heap.size → w1.frozen? ⟨b, o, none⟩ = W.frozen? ⟨b, o, none⟩) :=
  ⟨fun b o h => hb.cell (p := ⟨b, o, none⟩) h, fun b o h => hb.frozen (p := ⟨b, o, none⟩) h⟩
/-- What a row of truths is, told by a function: what is owned is n cells. -/
def Tells (w : World) (B g : Nat) (n : Nat) (f : Nat → Bool) : Prop :=
  w.ownsRow B 4 1 (.slice (some ⟨g, 0, none⟩) n n) n ((List.range n).map fun q => Value.bool (f q))
theorem Tells.cell {w : World} {B g n : Nat} {f : Nat → Bool} (h : Tells w B g n f) {j : Nat} (hj : j < n) : w.cell? ⟨g, j, none⟩ = some (.bool (f j)) := by
  rw [World.ownsRow.cellAt h j (by omega)]; simp [hj]
theorem Tells.frozen {w : World} {B g n : Nat} {f : Nat → Bool} (h : Tells w B g n f) (j : Nat) : w.frozen? ⟨g, j, none⟩ = false := World.ownsRow.frozenAt h j
theorem ownsRow_below {B base e size n : Nat} {w w' : World} {v : Value} {xs : List Value} (h : w.ownsRow base e size v n xs) (hb : Below B w w') (hB : ∀ g, v.ownBlock = some g → g < B) : w'.ownsRow base e size v n xs := by
  refine ⟨h.1, ?_⟩
  rcases h.2 with hn | ⟨g, cap, cur, rfl, h1, hgg, rest⟩
  · exact .inl hn
  · refine .inr ⟨g, cap, cur, rfl, h1, ?_, rest⟩
    rw [hb.block g (hB g rfl)]; exact hgg
theorem Tells.below {B B' g n : Nat} {f : Nat → Bool} {w w' : World} (h : Tells w B g n f) (hb : Below B' w w') (hB : g < B') : Tells w' B g n f :=
  ownsRow_below h hb (fun q e => by simp [Value.ownBlock] at e; omega)
theorem Tells.congr {B g n : Nat} {f f' : Nat → Bool} {w : World} (h : Tells w B g n f) (e : ∀ q, q < n → f q = f' q) : Tells w B g n f' := by
  unfold Tells at *
  have : ((List.range n).map fun q => Value.bool (f q)) = (List.range n).map fun q => Value.bool (f' q) := by
    apply List.map_congr_left
    intro q hq
    rw [e q (List.mem_range.1 hq)]
  rw [← this]; exact h
theorem Tells.stored {B g n : Nat} {f : Nat → Bool} {w : World} (h : Tells w B g n f) (j : Nat) (x : Bool) : Tells (w.setCell ⟨g, j, none⟩ (.bool x)) B g n (fun q => if q = j then x else f q) := by
  have h1 := (World.ownsRow.stored h j (.bool x)).1
  unfold Tells
  have e : ((List.range n).map fun q => Value.bool (if q = j then x else f q)) = ((List.range n).map fun q => Value.bool (f q)).set j (.bool x) := by
    apply List.ext_getElem?
    intro q
    rw [List.getElem?_set]
    by_cases hq : q < n
    · by_cases e : j = q
      · subst e; simp [hq]
      · have e' : ¬ q = j := fun h => e h.symm
        simp [hq, e, e']
    · simp [hq]
      intro e; omega
  rw [e]; exact h1
end Go.Proofs.Ytomhdopbbnmcnab
namespace Go.Proofs.Ytomhdopbbnmcnab
open Go.RowKit Go.Proofs.Ord
attribute [local go_sem ↓] Go.wp_at_zero Go.wp_at_succ

theorem Try.infoe : (Try.prog.info? 48).map (fun i => (i.zero, i.size, i.bytes)) = some (some (.agg #[.int .i64 0, .int .i64 0, .int .i64 0, .int .i64 0]), 4, 32) := by kernel_rfl

/-- Events as cells. -/
def evCells (l : List Ev) : List Value := l.flatMap fun e => [.int .i64 e.thread, .int .i64 e.kind, .int .i64 e.obj, .int .i64 e.value]
theorem evCells_length (l : List Ev) : (evCells l).length = 4 * l.length := by
  induction l with
  | nil => rfl
  | cons p r ih => simp [evCells] at *; omega
theorem evCells_getElem (l : List Ev) : ∀ i, i < l.length → (evCells l)[4 * i]? = some (.int .i64 (ev l i).thread) ∧ (evCells l)[4 * i + 1]? = some (.int .i64 (ev l i).kind) ∧ (evCells l)[4 * i + 2]? = some (.int .i64 (ev l i).obj) ∧ (evCells l)[4 * i + 3]? = some (.int .i64 (ev l i).value) := by
  induction l with
  | nil => intro i hi; simp at hi
  | cons e r ih =>
    intro i hi
    match i with
    | 0 => exact ⟨rfl, rfl, rfl, rfl⟩
    | j + 1 =>
      have h := ih j (by simpa using hi)
      have e1 : evCells (e :: r) = .int .i64 e.thread :: .int .i64 e.kind :: .int .i64 e.obj :: .int .i64 e.value :: evCells r := rfl
      have e2 : ev (e :: r) (j + 1) = ev r j := rfl
      rw [e1, e2, show 4 * (j + 1) = 4 * j + 4 from by omega, show 4 * j + 4 + 1 = 4 * j + 1 + 4 from by omega, show 4 * j + 4 + 2 = 4 * j + 2 + 4 from by omega, show 4 * j + 4 + 3 = 4 * j + 3 + 4 from by omega]
      exact h

/-- What is owned as events' cells is events. -/
theorem evS_of_owns {w : World} {B t n : Nat} {v : Value} {l : List Ev} (h : w.ownsRow B t 4 v n (evCells l)) : ∃ a cap, v = .slice a n cap ∧ l.length = n ∧ n ≤ cap ∧ cap ≤ maxLen ∧ EvS w a l := by
  have hl : l.length = n := by have := h.1; rw [evCells_length] at this; omega
  rcases h.2 with ⟨rfl, h0⟩ | ⟨g, cap, cur, rfl, hB, hg, hc, hm, _, _⟩
  · subst h0
    exact ⟨none, 0, rfl, hl, Nat.le_refl _, by unfold maxLen; omega, fun i hi => absurd hi (by omega)⟩
  · refine ⟨_, cap, rfl, hl, hc, hm, fun i hi => ⟨g, 0, rfl, (Array.getElem?_eq_some_iff.1 hg).1, ?_⟩⟩
    obtain ⟨c0, c1, c2, c3⟩ := evCells_getElem l i hi
    refine ⟨?_, ?_, ?_, ?_⟩
    · rw [show 0 + i * 4 = 4 * i from by omega, h.cellAt _ (by omega)]; exact c0
    · rw [show 0 + i * 4 + 1 = 4 * i + 1 from by omega, h.cellAt _ (by omega)]; exact c1
    · rw [show 0 + i * 4 + 2 = 4 * i + 2 from by omega, h.cellAt _ (by omega)]; exact c2
    · rw [show 0 + i * 4 + 3 = 4 * i + 3 from by omega, h.cellAt _ (by omega)]; exact c3

theorem evCells_take (l : List Ev) (k : Nat) (h : k < l.length) (t ki o v : Int) (e : ev l k = ⟨t, ki, o, v⟩) : evCells (l.take (k + 1)) = evCells (l.take k) ++ [.int .i64 t, .int .i64 ki, .int .i64 o, .int .i64 v] := by
  rw [List.take_succ_eq_append_getElem h]
  have : l[k] = ⟨t, ki, o, v⟩ := by rw [← e]; unfold ev; simp [h]
  simp [evCells, this]

theorem four_new (w : World) (x y z u : Value) (t : Nat) : ∀ j c, [x, y, z, u][j]? = some c → (w.alloc (.cells #[x, y, z, u] t)).cell? (Addr.add ⟨w.heap.size, 0, none⟩ j) = some c := by
  intro j c hj
  match j, hj with
  | 0, hj => simp at hj; subst hj; simp [Addr.add]
  | 1, hj => simp at hj; subst hj; simp [Addr.add]
  | 2, hj => simp at hj; subst hj; simp [Addr.add]
  | 3, hj => simp at hj; subst hj; simp [Addr.add]

set_option maxRecDepth 100000 in
set_option maxHeartbeats 3200000 in
theorem given_any (a : Option Addr) (n cap : Nat) (l : List Ev) (w : World) (hn : l.length = n) (hs : EvS w a l) (hb : n * 32 ≤ 140737488351232) :
    Calls Try.prog 23 #[.slice a n cap] w fun e w' => ∃ v, e = .returned v ∧ w'.ownsRow w.heap.size 48 4 v n (evCells l) ∧ Below w.heap.size w w' := by
  obtain ⟨i0, hi0, hz0, hz1, hz2⟩ := info_parts Try.infoe
  go_enter Try.func23, Try.ntmps23
  go_wp2
  go_loopw [3, 4] (fun v i wr => ∃ k : Nat, k ≤ n ∧ i = .int .i64 k ∧ wr.ownsRow w.heap.size 48 4 v k (evCells (l.take k)) ∧ Below w.heap.size w wr) (fun _ i _ => n - (intOf i).toNat)
  case atStart => exact ⟨0, Nat.zero_le _, rfl, World.ownsRow_nil _ _ _ _, Below.refl _ _⟩
  case round =>
    obtain ⟨k, hk, rfl, hown, hbel⟩ := hrel
    have hsz := hbel.size
    by_cases h5 : k < n
    · obtain ⟨b, off, rfl, hlt, _⟩ := hs k (by omega)
      obtain ⟨t1, k1, o1, v1, HE1, c0, c1, c2, c3⟩ := hs.at hbel (i := k) (by omega)
      have HT : Hid (evCells (l.take (k + 1)) = evCells (l.take k) ++ [.int .i64 t1, .int .i64 k1, .int .i64 o1, .int .i64 v1]) := evCells_take l k (by omega) _ _ _ _ HE1.out
      have hkn : (k : Int) < (n : Int) := by omega
      have hk0 : (0 : Int) ≤ (k : Int) := Int.natCast_nonneg _
      have hblt : b < wr.heap.size := by omega
      have ag : u3.ownBlock ≠ some b := fun e => by have := (hown.lt b e).1; omega
      clear HE1
      go_wp2_with fail
      go_region_held3 (fun w' => w'.cell? ⟨b, off + k * 4, none⟩ = some (.int .i64 t1) ∧ w'.cell? ⟨b, off + k * 4 + 1, none⟩ = some (.int .i64 k1) ∧ w'.cell? ⟨b, off + k * 4 + 2, none⟩ = some (.int .i64 o1) ∧ w'.cell? ⟨b, off + k * 4 + 3, none⟩ = some (.int .i64 v1))
        (first
          | go_keep
          | (go_split_ands
             refine ⟨?_, ?_, ?_, ?_⟩
             · (rw [hgrow.cell_far _ (by simp; omega) (Ne.symm ag)]; assumption)
             · (rw [hgrow.cell_far _ (by simp; omega) (Ne.symm ag)]; assumption)
             · (rw [hgrow.cell_far _ (by simp; omega) (Ne.symm ag)]; assumption)
             · (rw [hgrow.cell_far _ (by simp; omega) (Ne.symm ag)]; assumption)))
        ((refine step_append_lies _ (by rfl) _ _ _ (by rfl) w.heap.size 48 i0 _ 4 32 Try.underlying32 hi0 hz0 hz1 hz2 rfl (by omega) u3 k (evCells (l.take k)) (by rfl) ((hown.alloc _).drew)
            ⟨wr.heap.size, 0, none⟩ 1 1 [.int .i64 t1, .int .i64 k1, .int .i64 o1, .int .i64 v1] (by rfl) (by rfl) (World.news_of_block (cs := #[.int .i64 t1, .int .i64 k1, .int .i64 o1, .int .i64 v1]) (t := 48) (fr := (0, 0)) (heap_alloc_new wr _)) (by simp [Value.oneCell'])
            (by omega) (by unfold maxLen; omega) (by omega) (by simp; omega) (wr.heap.size + 1) (by simp) ?_; intro gg cap2 w1 hown1 hgrow hat hlt1))
      have hown2 : w1.ownsRow w.heap.size 48 4 (.slice (some ⟨gg, 0, none⟩) (k + 1) cap2) (k + 1) (evCells (l.take (k + 1))) := by rw [HT.out]; exact hown1
      have hbel2 : Below w.heap.size w w1 := Below.grown ((hbel.alloc hbel.size _).drew) hgrow (by simp; omega) (fun q e => (hown.lt q e).1)
      clear hown1 hgrow hown hbel hat
      go_wp2
      go_roundw
      case rel => exact ⟨k + 1, by omega, by go_num, hown2, hbel2⟩
      case measure => simp [intOf]; omega
    · have hkn : k = n := by omega
      have hfin : Hid (wr.ownsRow w.heap.size 48 4 u3 n (evCells l)) := by
        have e : l.take k = l := List.take_of_length_le (by omega)
        rw [e] at hown
        rw [← hkn]; exact hown
      clear hkn hown
      go_wp2
      go_ret
      exact ⟨_, rfl, hfin.out, hbel⟩
end Go.Proofs.Ytomhdopbbnmcnab
namespace Go.Proofs.Ytomhdopbbnmcnab
open Go.RowKit Go.Proofs.Ord

theorem ownsRow_base {w : World} {base base' e size n : Nat} {v : Value} {xs : List Value} (h : w.ownsRow base e size v n xs) (hb : base' ≤ base) : w.ownsRow base' e size v n xs := by
  refine ⟨h.1, ?_⟩
  rcases h.2 with hn | ⟨g, cap, cur, hv, h1, rest⟩
  · exact .inl hn
  · exact .inr ⟨g, cap, cur, hv, by omega, rest⟩
/-- Pairs as cells. -/
def pairCells (ps : List (Nat × Nat)) : List Value := ps.flatMap fun p => [.int .i64 (p.1 : Int), .int .i64 (p.2 : Int)]
theorem pairCells_snoc (ps : List (Nat × Nat)) (i j : Nat) : pairCells (ps ++ [(i, j)]) = pairCells ps ++ [.int .i64 (i : Int), .int .i64 (j : Int)] := by
  simp [pairCells]
theorem pairCells_length (ps : List (Nat × Nat)) : (pairCells ps).length = 2 * ps.length := by
  induction ps with
  | nil => rfl
  | cons p r ih => simp [pairCells] at *; omega
theorem two_new (w : World) (x y : Value) (t : Nat) : ∀ j u, [x, y][j]? = some u → (w.alloc (.cells #[x, y] t)).cell? (Addr.add ⟨w.heap.size, 0, none⟩ j) = some u := by
  intro j u hj
  match j, hj with
  | 0, hj => simp at hj; subst hj; simp [Addr.add]
  | 1, hj => simp at hj; subst hj; simp [Addr.add]
end Go.Proofs.Ytomhdopbbnmcnab
namespace Go.Proofs.Ytomhdopbbnmcnab
open Go.RowKit Go.Proofs.Ord

/-- Whether event i is before event j, for any numbers. -/
def befI (l : List Ev) (i j : Int) : Bool := decide (0 ≤ i ∧ i < l.length ∧ 0 ≤ j ∧ j < l.length) && bef (ev l) i.toNat j.toNat
theorem pairCells_getElem (l : List (Nat × Nat)) : ∀ i, i < l.length → (pairCells l)[2 * i]? = some (.int .i64 ((l.getD i (0, 0)).1 : Int)) ∧ (pairCells l)[2 * i + 1]? = some (.int .i64 ((l.getD i (0, 0)).2 : Int)) := by
  induction l with
  | nil => intro i hi; simp at hi
  | cons e r ih =>
    intro i hi
    match i with
    | 0 => exact ⟨rfl, rfl⟩
    | j + 1 =>
      have h := ih j (by simpa using hi)
      have e1 : pairCells (e :: r) = .int .i64 (e.1 : Int) :: .int .i64 (e.2 : Int) :: pairCells r := rfl
      have e2 : (e :: r).getD (j + 1) (0, 0) = r.getD j (0, 0) := rfl
      rw [e1, e2, show 2 * (j + 1) = 2 * j + 2 from by omega, show 2 * j + 2 + 1 = 2 * j + 1 + 2 from by omega]
      exact h
/-- Pairs lie here. -/
def PairS (w : World) (a : Option Addr) (ps : List (Nat × Nat)) : Prop :=
  ∀ i, i < ps.length → ∃ b off, a = some ⟨b, off, none⟩ ∧ b < w.heap.size ∧ w.cell? ⟨b, off + i * 2, none⟩ = some (.int .i64 ((ps.getD i (0, 0)).1 : Int)) ∧ w.cell? ⟨b, off + i * 2 + 1, none⟩ = some (.int .i64 ((ps.getD i (0, 0)).2 : Int))
theorem PairS.below {w w' : World} {a : Option Addr} {ps : List (Nat × Nat)} (h : PairS w a ps) (hb : Below w.heap.size w w') : PairS w' a ps := by
  intro i hi
  obtain ⟨b, off, ha, hlt, h1, h2⟩ := h i hi
  exact ⟨b, off, ha, by have := hb.size; omega, (hb.cell (p := ⟨b, off + i * 2, none⟩) hlt).trans h1, (hb.cell (p := ⟨b, off + i * 2 + 1, none⟩) hlt).trans h2⟩
theorem pairS_of_owns {w : World} {B t n : Nat} {v : Value} {ps : List (Nat × Nat)} (h : w.ownsRow B t 2 v n (pairCells ps)) : ∃ a cap, v = .slice a n cap ∧ ps.length = n ∧ n ≤ cap ∧ cap ≤ maxLen ∧ PairS w a ps := by
  have hl : ps.length = n := by have := h.1; rw [pairCells_length] at this; omega
  rcases h.2 with ⟨rfl, h0⟩ | ⟨g, cap, cur, rfl, hB, hg, hc, hm, _, _⟩
  · subst h0
    exact ⟨none, 0, rfl, hl, Nat.le_refl _, by unfold maxLen; omega, fun i hi => absurd hi (by omega)⟩
  · refine ⟨_, cap, rfl, hl, hc, hm, fun i hi => ⟨g, 0, rfl, (Array.getElem?_eq_some_iff.1 hg).1, ?_, ?_⟩⟩
    · rw [show 0 + i * 2 = 2 * i from by omega, h.cellAt _ (by omega)]; exact (pairCells_getElem ps i hi).1
    · rw [show 0 + i * 2 + 1 = 2 * i + 1 from by omega, h.cellAt _ (by omega)]; exact (pairCells_getElem ps i hi).2
end Go.Proofs.Ytomhdopbbnmcnab
namespace Go.Proofs.Ytomhdopbbnmcnab
open Go.RowKit Go.Proofs.Ord

/-- Pairs in new memory, which can be written. -/
def PairNew (B : Nat) (w : World) (v : Value) (ps : List (Nat × Nat)) : Prop :=
  ∃ a cap, v = .slice a ps.length cap ∧ ps.length ≤ cap ∧ cap ≤ maxLen ∧
    ∀ i, i < ps.length → ∃ b off, a = some ⟨b, off, none⟩ ∧ B ≤ b ∧ b < w.heap.size ∧ w.cell? ⟨b, off + i * 2, none⟩ = some (.int .i64 ((ps.getD i (0, 0)).1 : Int)) ∧ w.cell? ⟨b, off + i * 2 + 1, none⟩ = some (.int .i64 ((ps.getD i (0, 0)).2 : Int)) ∧
      w.frozen? ⟨b, off + i * 2, none⟩ = false ∧ w.frozen? ⟨b, off + i * 2 + 1, none⟩ = false
theorem PairNew.pairS {B : Nat} {w : World} {a : Option Addr} {n cap : Nat} {ps : List (Nat × Nat)} (h : PairNew B w (.slice a n cap) ps) : ps.length = n ∧ PairS w a ps := by
  obtain ⟨a', cap', e, _, _, h3⟩ := h
  cases e
  exact ⟨rfl, fun i hi => by obtain ⟨b, off, e1, _, e3, e4, e5, _, _⟩ := h3 i hi; exact ⟨b, off, e1, e3, e4, e5⟩⟩
theorem evS_lit (w : World) (t : Nat) (l : List Ev) (hl : l.length ≤ 1000) : EvS (w.alloc (.cells (evCells l).toArray t)) (some ⟨w.heap.size, 0, none⟩) l := by
  have h := World.ownsRow_lit (base := w.heap.size) (e := t) (size := 4) w (evCells l).toArray l.length (Nat.le_refl _) (by unfold maxLen; omega) (by simp [evCells_length]; omega)
  obtain ⟨a, cap, e, _, _, _, h2⟩ := evS_of_owns (l := l) (v := .slice (some ⟨w.heap.size, 0, none⟩) l.length l.length) (by simpa using h)
  cases e
  exact h2
theorem PairNew.below {B B' : Nat} {w w' : World} {v : Value} {ps : List (Nat × Nat)} (h : PairNew B w v ps) (hb : Below w.heap.size w w') (hB : B' ≤ B) : PairNew B' w' v ps := by
  obtain ⟨a, cap, e, h1, h2, h3⟩ := h
  refine ⟨a, cap, e, h1, h2, fun i hi => ?_⟩
  obtain ⟨b, off, e1, e2, e3, e4, e5, e6, e7⟩ := h3 i hi
  exact ⟨b, off, e1, by omega, by have := hb.size; omega, (hb.cell (p := ⟨b, off + i * 2, none⟩) e3).trans e4, (hb.cell (p := ⟨b, off + i * 2 + 1, none⟩) e3).trans e5, (hb.frozen (p := ⟨b, off + i * 2, none⟩) e3).trans e6, (hb.frozen (p := ⟨b, off + i * 2 + 1, none⟩) e3).trans e7⟩
theorem size_setCell (w : World) (a : Addr) (u : Value) : (w.setCell a u).heap.size = w.heap.size := by
  have h := (Below.refl 0 w).setCell (p := a) (Nat.zero_le _) u
  simp
theorem PairNew.setCell {B b o : Nat} {w : World} {v : Value} {ps : List (Nat × Nat)} (h : PairNew B w v ps) (hb : b < B) (u : Value) : PairNew B (w.setCell ⟨b, o, none⟩ u) v ps := by
  obtain ⟨a, cap, e, h1, h2, h3⟩ := h
  refine ⟨a, cap, e, h1, h2, fun i hi => ?_⟩
  obtain ⟨b', off, e1, e2, e3, e4, e5, e6, e7⟩ := h3 i hi
  refine ⟨b', off, e1, e2, by rw [size_setCell]; exact e3, ?_, ?_, ?_, ?_⟩
  · rw [World.cell?_setCell_other _ _ _ _ (by intro e; cases e; omega)]; exact e4
  · rw [World.cell?_setCell_other _ _ _ _ (by intro e; cases e; omega)]; exact e5
  · rw [World.frozen?_setCell]; exact e6
  · rw [World.frozen?_setCell]; exact e7
theorem pairNew_of_owns {w : World} {B t n : Nat} {v : Value} {ps : List (Nat × Nat)} (h : w.ownsRow B t 2 v n (pairCells ps)) : PairNew B w v ps := by
  have hl : ps.length = n := by have := h.1; rw [pairCells_length] at this; omega
  rcases h.2 with ⟨rfl, h0⟩ | ⟨g, cap, cur, rfl, hB, hg, hc, hm, _, _⟩
  · subst h0
    exact ⟨none, 0, by rw [hl], by omega, by unfold maxLen; omega, fun i hi => absurd hi (by omega)⟩
  · refine ⟨_, cap, by rw [hl], by omega, hm, fun i hi => ⟨g, 0, rfl, hB, (Array.getElem?_eq_some_iff.1 hg).1, ?_, ?_, h.frozenAt _, h.frozenAt _⟩⟩
    · rw [show 0 + i * 2 = 2 * i from by omega, h.cellAt _ (by omega)]; exact (pairCells_getElem ps i hi).1
    · rw [show 0 + i * 2 + 1 = 2 * i + 1 from by omega, h.cellAt _ (by omega)]; exact (pairCells_getElem ps i hi).2
/-- The first numbers of pairs can be written, in blocks from B to C. -/
def PairOpen (B C : Nat) (w : World) (a : Option Addr) (m : Nat) : Prop :=
  ∀ j, j < m → ∃ b off, a = some ⟨b, off, none⟩ ∧ B ≤ b ∧ b < C ∧ (w.cell? ⟨b, off + j * 2, none⟩).isSome = true ∧ w.frozen? ⟨b, off + j * 2, none⟩ = false
theorem PairNew.opened {B : Nat} {w : World} {a : Option Addr} {n cap : Nat} {ps : List (Nat × Nat)} (h : PairNew B w (.slice a n cap) ps) : PairOpen B w.heap.size w a n := by
  obtain ⟨a', cap', e, _, _, h3⟩ := h
  cases e
  intro j hj
  obtain ⟨b, off, e1, e2, e3, e4, e5, e6, e7⟩ := h3 j hj
  exact ⟨b, off, e1, e2, e3, by rw [e4]; rfl, e6⟩
theorem PairOpen.below {B C m : Nat} {w w' : World} {a : Option Addr} (h : PairOpen B C w a m) (hb : Below C w w') : PairOpen B C w' a m := by
  intro j hj
  obtain ⟨b, off, e1, e2, e3, e4, e5⟩ := h j hj
  exact ⟨b, off, e1, e2, e3, by rw [hb.cell (p := ⟨b, off + j * 2, none⟩) e3]; exact e4, (hb.frozen (p := ⟨b, off + j * 2, none⟩) e3).trans e5⟩
theorem isSome_setCell {w : World} {p q : Addr} {u : Value} (h : (w.cell? q).isSome = true) : ((w.setCell p u).cell? q).isSome = true := by
  obtain ⟨x, hx⟩ := Option.isSome_iff_exists.1 h
  by_cases e : q = p
  · subst e
    rw [World.cell?_setCell_same w q u hx]; rfl
  · rw [World.cell?_setCell_other _ _ _ _ (fun h => e h.symm)]; exact h
theorem PairOpen.setCell {B C m : Nat} {w : World} {a : Option Addr} (h : PairOpen B C w a m) (p : Addr) (u : Value) : PairOpen B C (w.setCell p u) a m := by
  intro j hj
  obtain ⟨b, off, e1, e2, e3, e4, e5⟩ := h j hj
  exact ⟨b, off, e1, e2, e3, isSome_setCell e4, by rw [World.frozen?_setCell]; exact e5⟩
theorem beq_self_bool (b : Bool) : (b == b) = true := by cases b <;> rfl
end Go.Proofs.Ytomhdopbbnmcnab
namespace Go.Proofs.Ytomhdopbbnmcnab
open Go.RowKit Go.Proofs.Ord

/-- Ahead of round i of First: the detector has seen the events ahead, with the other variables' accesses as local ones, and none was a race. -/
def FirstW (w : World) (bd bf bk br : Nat) (L : Nat → Ev) (x : Int) (i : Nat) (w' : World) : Prop :=
  (∃ tag S K R T, DetW w' tag bd bf bk br S K R T (calmL L x) i i ∧ ∀ b, tag b ≠ .o → w.heap.size ≤ b) ∧ Below w.heap.size w w' ∧ ∀ q, q < i → hits L x q = false

theorem SeeFin.below {w w' w2 : World} {bd bf bk br : Nat} {L : Nat → Ev} {i : Nat} {tag : Nat → Tag} (hs : SeeFin w' tag bd bf bk br L i w2) (hw : Below w.heap.size w w') (htag : ∀ b, tag b ≠ .o → w.heap.size ≤ b) : Below w.heap.size w w2 := by
  obtain ⟨tag', S', K', R', T', h1, h2, h3⟩ := hs
  exact ⟨h3.os.trans hw.os, h3.tape.trans hw.tape, h3.output.trans hw.output, Nat.le_trans hw.size h3.size, fun b hb => (h3.block b (by have := hw.size; omega) (fun e => by have := htag b e; omega)).trans (hw.block b hb)⟩
theorem hide_frozen (w : World) (x y z u : Value) (T : TypeId) (i : Nat) : (w.alloc (.cells #[x, y, z, u] T)).frozen? ⟨w.heap.size, i, none⟩ = false := by
  have e := heap_alloc_new w (.cells #[x, y, z, u] T)
  generalize w.alloc (.cells #[x, y, z, u] T) = W at e
  simp [World.frozen?, e]
theorem FirstW.see {w w' w2 : World} {bd bf bk br : Nat} {L : Nat → Ev} {x : Int} {i : Nat} {tag : Nat → Tag} (hw : Below w.heap.size w w') (htag : ∀ b, tag b ≠ .o → w.heap.size ≤ b) (hno : ∀ q, q < i → hits L x q = false)
    (hs : SeeFin w' tag bd bf bk br (calmL L x) i w2) (hf : isFirst (calmL L x) i = false) : FirstW w bd bf bk br L x (i + 1) w2 := by
  have hbel := hs.below hw htag
  obtain ⟨tag', S', K', R', T', h1, h2, h3⟩ := hs
  refine ⟨⟨tag', S', K', R', T', h1, fun b hb => ?_⟩, hbel, fun q hq => ?_⟩
  · by_cases e : b < w'.heap.size
    · exact htag b (h2 b e hb)
    · have := hw.size; omega
  · by_cases e : q < i
    · exact hno q e
    · obtain rfl : q = i := by omega
      cases hh : hits L x q with
      | false => rfl
      | true => rw [(calm_first L x q).2 ⟨hh, hno⟩] at hf; cases hf

set_option maxRecDepth 100000 in
set_option maxHeartbeats 1000000 in
theorem firstF_any (a : Option Addr) (n cap : Nat) (l : List Ev) (x : Int) (w : World) (hn : l.length = n) (hs : EvS w a l) (hb : n ≤ 1048576) (hr : EvR l) :
    Calls Try.prog 41 #[.slice a n cap, .int .i64 x] w fun e w' => e = .returned (.int .i64 (firstOf (ev l) x n)) ∧ Below w.heap.size w w' := by
  have HR := hide hr
  clear hr
  go_enter Try.func41, Try.ntmps41
  go_wp2_with fail
  refine (newF_any w (calmL (ev l) x)).mono ?_
  rintro e w1 ⟨rfl, hD, hb1⟩
  have hF1 : Hid (FirstW w (w.heap.size + 3) w.heap.size (w.heap.size + 1) (w.heap.size + 2) (ev l) x 0 w1) := ⟨⟨_, _, _, _, _, hD, fun b hb => (tag0_new hb).1⟩, hb1, fun q hq => absurd hq (by omega)⟩
  have hs1 := hs.below hb1
  obtain ⟨bd, hbd⟩ : ∃ x, w.heap.size + 3 = x := ⟨_, rfl⟩
  obtain ⟨bk, hbk⟩ : ∃ x, w.heap.size + 1 = x := ⟨_, rfl⟩
  obtain ⟨br, hbr⟩ : ∃ x, w.heap.size + 2 = x := ⟨_, rfl⟩
  rw [hbd, hbk, hbr] at hF1
  rw [hbd]
  have HB := hide (⟨hbd, hbk, hbr⟩ : _ ∧ _ ∧ _)
  clear hD hb1 hbd hbk hbr
  go_wp2_with fail
  go_loopw [11] (fun iv wr => ∃ i : Nat, i ≤ n ∧ iv = .int .i64 i ∧ FirstW w bd w.heap.size bk br (ev l) x i wr) (fun iv _ => n - (intOf iv).toNat)
  case atStart => exact ⟨0, Nat.zero_le _, rfl, hF1.out⟩
  case round =>
    obtain ⟨i, hi, rfl, ⟨tag, S, K, R, T, hD, htag⟩, hbr', hno⟩ := hrel
    have HN := hide hno
    have HD := hide hD
    have HT := hide htag
    clear hno hD htag
    by_cases h5 : i < n
    · obtain ⟨b, off, rfl, hlt, _⟩ := hs i (by omega)
      obtain ⟨t1, k1, o1, v1, HE1, c0, c1, c2, c3⟩ := hs.at hbr' (i := i) (by omega)
      have hin : (i : Int) < (n : Int) := by omega
      obtain ⟨W, hW⟩ : ∃ W, wr.alloc (.cells #[.int .i64 t1, .int .i64 k1, .int .i64 o1, .int .i64 v1] 48) = W := ⟨_, rfl⟩
      have hbW : Hid (Below wr.heap.size wr W) := by rw [← hW]; exact (Below.refl _ _).alloc (Nat.le_refl _) _
      have hzW : Hid (W.heap.size = wr.heap.size + 1) := by rw [← hW]; unfold Hid; simp
      obtain ⟨g0, g1, g2, g3⟩ := cells_ev (w := W) (b := wr.heap.size) (by rw [← hW]; exact heap_alloc_new wr _)
      have hfz : Hid (W.frozen? ⟨wr.heap.size, 1, none⟩ = false) := by rw [← hW]; exact hide_frozen wr _ _ _ _ _ _
      have hnum := HR.out.at (i := i) (by omega) HE1.out
      have HNum := hide hnum
      clear hnum
      go_wp2_with fail
      refine (isAccessF_any t1 k1 o1 v1 W).mono ?_
      rintro e w2 ⟨rfl, hb2⟩
      have hl2 : wr.heap.size < W.heap.size := by have := hzW.out; omega
      have e0 := (hb2.cell (p := ⟨wr.heap.size, 0, none⟩) hl2).trans g0
      have e1 := (hb2.cell (p := ⟨wr.heap.size, 1, none⟩) hl2).trans g1
      have e2 := (hb2.cell (p := ⟨wr.heap.size, 2, none⟩) hl2).trans g2
      have e3 := (hb2.cell (p := ⟨wr.heap.size, 3, none⟩) hl2).trans g3
      have hz2 : Hid (wr.heap.size < w2.heap.size) := Nat.lt_of_lt_of_le hl2 hb2.size
      have hf2 : w2.frozen? ⟨wr.heap.size, 1, none⟩ = false := (hb2.frozen (p := ⟨wr.heap.size, 1, none⟩) hl2).trans hfz.out
      have hbr2 : Hid (Below wr.heap.size wr w2) := hbW.out.trans (hb2.mono hbW.out.size)
      have hBS : Hid (Below w.heap.size w w2) := hbr'.trans (hbr2.out.mono hbr'.size)
      have HD2 := hide (HD.out.below hbr2.out)
      clear g0 g1 g2 g3 hb2 hW
      obtain ⟨ac, hac⟩ : ∃ ac, Hid (access ⟨t1, k1, o1, v1⟩ = ac) := ⟨_, rfl⟩
      rw [hac.out]
      have hcE : Hid (calmL (ev l) x i = calmE x ⟨t1, k1, o1, v1⟩) := by unfold Hid calmL; rw [HE1.out]
      cases ac with
      | false =>
        have hx' : calmL (ev l) x i = ⟨t1, k1, o1, v1⟩ := by rw [hcE.out]; unfold calmE; rw [hac.out]; rfl
        have HSee := hide (see_any t1 k1 o1 v1 w2 HD2.out hx' HNum.out.1 HNum.out.2 (by omega))
        clear hx'
        go_wp2_with fail
        refine HSee.out.mono ?_
        rintro e w4 ⟨rfl, hfin⟩
        have HNx := hide (fun hf => FirstW.see hBS.out HT.out HN.out hfin hf)
        have HBx := hide (hfin.below hBS.out HT.out)
        obtain ⟨fb, hfb⟩ : ∃ fb, Hid (isFirst (calmL (ev l) x) i = fb) := ⟨_, rfl⟩
        rw [hfb.out]
        clear hfin HSee
        cases fb with
        | false =>
          go_wp2_with fail
          go_roundw
          case rel => exact ⟨i + 1, by omega, by go_num, HNx.out hfb.out⟩
          case measure => simp [intOf]; omega
        | true =>
          have hfi : Hid (firstOf (ev l) x n = i) := by
            obtain ⟨h1, h2⟩ := (calm_first (ev l) x i).1 hfb.out
            exact firstOf_some h5 h2 h1
          go_wp2_with fail
          go_ret
          exact ⟨by rw [hfi.out]; rfl, HBx.out⟩
      | true =>
        by_cases hox : o1 = x
        · subst hox
          have hx' : calmL (ev l) o1 i = ⟨t1, k1, o1, v1⟩ := by rw [hcE.out]; unfold calmE; rw [hac.out]; simp
          have HSee := hide (see_any t1 k1 o1 v1 w2 HD2.out hx' HNum.out.1 HNum.out.2 (by omega))
          clear hx'
          go_wp2_with fail
          refine HSee.out.mono ?_
          rintro e w4 ⟨rfl, hfin⟩
          have HNx := hide (fun hf => FirstW.see hBS.out HT.out HN.out hfin hf)
          have HBx := hide (hfin.below hBS.out HT.out)
          obtain ⟨fb, hfb⟩ : ∃ fb, Hid (isFirst (calmL (ev l) o1) i = fb) := ⟨_, rfl⟩
          rw [hfb.out]
          clear hfin HSee
          cases fb with
          | false =>
            go_wp2_with fail
            go_roundw
            case rel => exact ⟨i + 1, by omega, by go_num, HNx.out hfb.out⟩
            case measure => simp [intOf]; omega
          | true =>
            have hfi : Hid (firstOf (ev l) o1 n = i) := by
              obtain ⟨h1, h2⟩ := (calm_first (ev l) o1 i).1 hfb.out
              exact firstOf_some h5 h2 h1
            go_wp2_with fail
            go_ret
            exact ⟨by rw [hfi.out]; rfl, HBx.out⟩
        · have hx' : calmL (ev l) x i = ⟨t1, 0, o1, v1⟩ := by
            have hob : (o1 == x) = false := by simpa using hox
            rw [hcE.out]; unfold calmE; rw [hac.out]; simp [hob]
          obtain ⟨w3, hw3⟩ : ∃ w3, w2.setCell ⟨wr.heap.size, 1, none⟩ (.int .i64 0) = w3 := ⟨_, rfl⟩
          have hz3 : w3.heap.size = w2.heap.size := by rw [← hw3]; simp
          have hbl3 : ∀ b, b ≠ wr.heap.size → w3.heap[b]? = w2.heap[b]? := fun b hb => by rw [← hw3]; exact Below.heap_setCell w2 ⟨wr.heap.size, 1, none⟩ _ b hb
          have hD3 := HD2.out.own (w' := w3) (fun b hb => hbl3 b (by have := HD.out.tlt b hb; omega)) (by omega)
          have hBS : Hid (Below w.heap.size w w3) := by rw [← hw3]; exact hBS.out.setCell (p := ⟨wr.heap.size, 1, none⟩) hbr'.size _
          have HSee := hide (see_any t1 0 o1 v1 w3 hD3 hx' HNum.out.1 HNum.out.2 (by omega))
          have hzz := hz2.out
          have f0 : w3.cell? ⟨wr.heap.size, 0, none⟩ = some (.int .i64 t1) := by rw [← hw3, World.cell?_setCell_other _ _ _ _ (by simp)]; exact e0
          have f1 : w3.cell? ⟨wr.heap.size, 1, none⟩ = some (.int .i64 0) := by rw [← hw3]; exact World.cell?_setCell_same _ _ _ e1
          have f2 : w3.cell? ⟨wr.heap.size, 2, none⟩ = some (.int .i64 o1) := by rw [← hw3, World.cell?_setCell_other _ _ _ _ (by simp)]; exact e2
          have f3 : w3.cell? ⟨wr.heap.size, 3, none⟩ = some (.int .i64 v1) := by rw [← hw3, World.cell?_setCell_other _ _ _ _ (by simp)]; exact e3
          clear hx' hz3 hbl3 hD3
          go_wp2_with fail
          refine HSee.out.mono ?_
          rintro e w4 ⟨rfl, hfin⟩
          have HNx := hide (fun hf => FirstW.see hBS.out HT.out HN.out hfin hf)
          have HBx := hide (hfin.below hBS.out HT.out)
          obtain ⟨fb, hfb⟩ : ∃ fb, Hid (isFirst (calmL (ev l) x) i = fb) := ⟨_, rfl⟩
          rw [hfb.out]
          clear hfin HSee
          cases fb with
          | false =>
            go_wp2_with fail
            go_roundw
            case rel => exact ⟨i + 1, by omega, by go_num, HNx.out hfb.out⟩
            case measure => simp [intOf]; omega
          | true =>
            have hfi : Hid (firstOf (ev l) x n = i) := by
              obtain ⟨h1, h2⟩ := (calm_first (ev l) x i).1 hfb.out
              exact firstOf_some h5 h2 h1
            go_wp2_with fail
            go_ret
            exact ⟨by rw [hfi.out]; rfl, HBx.out⟩
    · have hfi : Hid (firstOf (ev l) x n = -1) := firstOf_none (fun j hj => HN.out j (by omega))
      go_wp2_with fail
      go_ret
      exact ⟨by rw [hfi.out]; rfl, hbr'⟩
end Go.Proofs.Ytomhdopbbnmcnab
namespace Go.Proofs.Ytomhdopbbnmcnab
open Go.RowKit Go.Proofs.Ord

/-- Nothing is changed but blocks of F, and new ones. -/
structure Only (F : Nat → Prop) (w w' : World) : Prop where
  os : w'.os = w.os
  tape : w'.tape = w.tape
  output : w'.output = w.output
  size : w.heap.size ≤ w'.heap.size
  block : ∀ k, k < w.heap.size → ¬ F k → w'.heap[k]? = w.heap[k]?

theorem Only.below {F : Nat → Prop} {B : Nat} {w w' : World} (h : Only F w w') (hB : B ≤ w.heap.size) (hF : ∀ k, F k → B ≤ k) : Below B w w' :=
  ⟨h.os, h.tape, h.output, h.size, fun k hk => h.block k (by omega) (fun e => by have := hF k e; omega)⟩
theorem Only.cell {F : Nat → Prop} {w w' : World} (h : Only F w w') {p : Addr} (hp : p.block < w.heap.size) (hF : ¬ F p.block) : w'.cell? p = w.cell? p := World.cell?_of_block (w := w) (h.block p.block hp hF)
theorem Only.frozen {F : Nat → Prop} {w w' : World} (h : Only F w w') {p : Addr} (hp : p.block < w.heap.size) (hF : ¬ F p.block) : w'.frozen? p = w.frozen? p := World.frozen?_of_block (w := w) (h.block p.block hp hF)

/-- What the program's detector keeps to. Det: what stands in memory when these events have been seen; F: the blocks that it is kept in. -/
structure DetSaid (Det : World → (Nat → Prop) → Addr → List Ev → Prop) : Prop where
  /-- It hangs on its own blocks alone. -/
  own : ∀ {w w' : World} {F : Nat → Prop} {p : Addr} {l : List Ev}, Det w F p l → (∀ k, F k → w'.heap[k]? = w.heap[k]?) → w.heap.size ≤ w'.heap.size → w'.os = w.os → w'.tape = w.tape → w'.output = w.output → Det w' F p l
  lt : ∀ {w : World} {F : Nat → Prop} {p : Addr} {l : List Ev}, Det w F p l → ∀ k, F k → k < w.heap.size
  new : ∀ (w : World), Calls Try.prog 34 #[] w fun e w' => ∃ p F, e = .returned (.pointer (some p)) ∧ Det w' F p [] ∧ (∀ k, F k → w.heap.size ≤ k) ∧ Below w.heap.size w w'
  see : ∀ (w : World) (F : Nat → Prop) (p : Addr) (l : List Ev) (x : Ev), Det w F p l → l.length < 1048576 → NumR x.thread → NumR x.obj →
    Calls Try.prog 36 #[.pointer (some p), .agg #[.int .i64 x.thread, .int .i64 x.kind, .int .i64 x.obj, .int .i64 x.value]] w fun e w' => ∃ F', e = .returned (.bool (isFirst (ev (l ++ [x])) l.length)) ∧ Det w' F' p (l ++ [x]) ∧ (∀ k, k < w.heap.size → F' k → F k) ∧ Only F w w'
  racy : ∀ (w : World) (F : Nat → Prop) (p : Addr) (l : List Ev), Det w F p l → l.length ≤ 1048576 →
    Calls Try.prog 37 #[.pointer (some p)] w fun e w' => ∃ v, e = .returned v ∧ New w.heap.size w' v (varsTo (ev l) (isFirst (ev l)) l.length) ∧ Below w.heap.size w w'
def FastSaid : Prop := ∃ Det, DetSaid Det

def FirstSaid : Prop := ∀ (a : Option Addr) (n cap : Nat) (l : List Ev) (obj : Int) (w : World), l.length = n → EvS w a l → n ≤ cap → cap ≤ maxLen → n ≤ 1048576 → EvR l →
  Calls Try.prog 41 #[.slice a n cap, .int .i64 obj] w fun e w' => e = .returned (.int .i64 (firstOf (ev l) obj n)) ∧ Below w.heap.size w w'

theorem first6a : isFirst (ev ([] ++ [⟨0, 2, 3, 0⟩])) 0 = false := by decide +kernel
theorem first6b : isFirst (ev ([] ++ [⟨0, 2, 3, 0⟩] ++ [⟨1, 2, 3, 0⟩])) 1 = true := by decide +kernel
theorem first6c : isFirst (ev ([] ++ [⟨0, 2, 3, 0⟩] ++ [⟨1, 2, 3, 0⟩] ++ [⟨2, 1, 3, 0⟩])) 2 = false := by decide +kernel
theorem vars6 : varsTo (ev ([] ++ [⟨0, 2, 3, 0⟩] ++ [⟨1, 2, 3, 0⟩] ++ [⟨2, 1, 3, 0⟩])) (isFirst (ev ([] ++ [⟨0, 2, 3, 0⟩] ++ [⟨1, 2, 3, 0⟩] ++ [⟨2, 1, 3, 0⟩]))) 3 = [3] := by decide +kernel

set_option maxRecDepth 100000 in
set_option maxHeartbeats 1000000 in
theorem alive6_true (hF : FastSaid) (w : World) : Calls Try.prog 40 #[] w fun e w' => e = .returned (.bool true) ∧ Below w.heap.size w w' := by
  obtain ⟨Det, hD⟩ := hF
  go_enter Try.func40, Try.ntmps40
  go_wp2_with fail
  refine (hD.new _).mono ?_
  rintro e w1 ⟨p, F, rfl, hd1, hF1, hb1⟩
  go_wp2_with fail
  refine (hD.see _ _ _ _ ⟨0, 2, 3, 0⟩ hd1 (by simp) (by unfold NumR; decide) (by unfold NumR; decide)).mono ?_
  rintro e w2 ⟨F2, rfl, hd2, hF2, ho2⟩
  rw [show ([] : List Ev).length = 0 from rfl, first6a]
  have hb2 : Below w.heap.size w w2 := hb1.trans (ho2.below hb1.size hF1)
  have hF2' : ∀ k, F2 k → w.heap.size ≤ k := fun k hk => by
    by_cases e : k < w1.heap.size
    · exact hF1 k (hF2 k e hk)
    · have := hb1.size; omega
  clear hd1 hF1 hb1 hF2 ho2
  go_wp2_with fail
  refine (hD.see _ _ _ _ ⟨1, 2, 3, 0⟩ hd2 (by simp) (by unfold NumR; decide) (by unfold NumR; decide)).mono ?_
  rintro e w3 ⟨F3, rfl, hd3, hF3, ho3⟩
  rw [show ([] ++ [⟨0, 2, 3, 0⟩] : List Ev).length = 1 from rfl, first6b]
  have hb3 : Below w.heap.size w w3 := hb2.trans (ho3.below hb2.size hF2')
  have hF3' : ∀ k, F3 k → w.heap.size ≤ k := fun k hk => by
    by_cases e : k < w2.heap.size
    · exact hF2' k (hF3 k e hk)
    · have := hb2.size; omega
  clear hd2 hF2' hb2 hF3 ho3
  go_wp2_with fail
  refine (hD.see _ _ _ _ ⟨2, 1, 3, 0⟩ hd3 (by simp) (by unfold NumR; decide) (by unfold NumR; decide)).mono ?_
  rintro e w4 ⟨F4, rfl, hd4, hF4, ho4⟩
  rw [show ([] ++ [⟨0, 2, 3, 0⟩] ++ [⟨1, 2, 3, 0⟩] : List Ev).length = 2 from rfl, first6c]
  have hb4 : Below w.heap.size w w4 := hb3.trans (ho4.below hb3.size hF3')
  clear hd3 hF3' hb3 hF4 ho4
  go_wp2_with fail
  refine (hD.racy _ _ _ _ hd4 (by simp)).mono ?_
  rintro e w5 ⟨v, rfl, hv, hb5⟩
  rw [show ([] ++ [⟨0, 2, 3, 0⟩] ++ [⟨1, 2, 3, 0⟩] ++ [⟨2, 1, 3, 0⟩] : List Ev).length = 3 from rfl, vars6] at hv
  obtain ⟨a5, c5, rfl, _, _, _, h5⟩ := hv
  obtain ⟨b, off, rfl, _, _, e4, _⟩ := h5 0 (by simp)
  simp only [List.getD_cons_zero, Nat.add_zero, List.length_cons, List.length_nil, Nat.zero_add] at e4 ⊢
  have hk := o_hide (hb4.trans (hb5.mono hb4.size))
  clear h5 hb4 hb5 hd4
  go_wp2
  go_ret
  exact ⟨rfl, hk.out⟩
end Go.Proofs.Ytomhdopbbnmcnab
