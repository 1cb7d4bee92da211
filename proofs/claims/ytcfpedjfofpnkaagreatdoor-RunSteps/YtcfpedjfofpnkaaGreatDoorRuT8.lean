import Derived.Test.YtcfpedjfofpnkaaGreatDoorRuT7
set_option linter.unusedVariables false
set_option linter.unusedSimpArgs false
/-
  RunSound: the rows it keeps.
-/
namespace Go.Proofs.YtcfpedjfofpnkaaGreatDoor
open Go.RowKit Go.Shelf Go.Proofs.Cod

theorem Tryz.infoBool : (Tryz.prog.info? 4).map (fun i => (i.zero, i.size, i.bytes)) = some (some (.bool false), 1, 1) := by kernel_rfl
/-- A row of cells of its own, by its places. -/
theorem row_F {w : World} {base e g n : Nat} {xs : List Value} (h : w.ownsRow base e 1 (.slice (some ⟨g, 0, none⟩) n n) n xs) : RowF w g e n (fun k => xs.getD k undef) := by
  rcases h.2 with ⟨q, _⟩ | ⟨g', cap, cur, q, _, q2, q3, q4, q5, q6⟩
  · injection q with q _ _; cases q
  · injection q with q _ qc
    injection q with q
    injection q with q _ _
    subst q
    subst qc
    have hcs : cur.size = n := by omega
    refine ⟨cur, q2, hcs, fun k hk => ?_⟩
    have hx : cur.toList.take (n * 1) = xs := q6
    have hk2 : k < cur.size := by omega
    show cur[k]? = some (xs.getD k undef)
    rw [← hx, Nat.mul_one, List.getD_eq_getElem?_getD, List.getElem?_take, if_pos hk, Array.getElem?_toList, Array.getElem?_eq_getElem hk2]; rfl
theorem made_get (z : Value) (hz : z.cells = #[z]) (n k : Nat) (hk : k < n) : (madeCells z.cells (n * 1)).toList.getD k undef = z := by
  rw [hz, Nat.mul_one]
  have : (madeCells #[z] n).toList = List.replicate n z := toList_madeCells_one z n
  rw [this, List.getD_eq_getElem?_getD, List.getElem?_replicate, if_pos hk]; rfl
theorem grown_below {w u : World} {B : Nat} (hB : B ≤ w.heap.size) (g : w.grownBy u none) : Below B w u := ⟨g.os, g.tape, g.output, g.size, fun k hk => g.block k (by omega) (by simp)⟩
theorem grown_trans {w u u' : World} (G : Below w.heap.size w u) (g : u.grownBy u' none) : Below w.heap.size w u' := G.trans (grown_below G.size g)
theorem play_len (C : List (List In7)) (s : MS) (l : List Int) : (playM false C s l).2.length ≤ l.length := by
  have : ∀ (r : List Int) (x : MS × List Ev), (r.foldl (plM false C) x).2.length ≤ x.2.length + r.length := by
    intro r
    induction r with
    | nil => intro x; exact Nat.le_refl _
    | cons t r ih =>
      intro x
      have := ih (plM false C x t)
      have h2 : (plM false C x t).2.length ≤ x.2.length + 1 := by
        rw [pl_trn]; dsimp only; split
        · simp
        · omega
      rw [List.foldl_cons, List.length_cons]
      omega
  have q := this l (s, [])
  simp only [List.length_nil, Nat.zero_add] at q
  exact q
theorem newM_th (nv nf nl nt t : Nat) (h : t < nt) : (newM nv nf nl nt).th t = if t = 0 then { ts0 with ph := 1 } else ts0 := by
  unfold MS.th newM
  dsimp only
  rw [List.getD_eq_getElem?_getD, List.getElem?_map, List.getElem?_range h]; rfl
theorem newM_len (nv nf nl nt : Nat) : (newM nv nf nl nt).thr.length = nt := by unfold newM; simp
theorem beg_new0 (nv nf nl nt : Nat) : begM (newM nv nf nl nt) = List.replicate nt false := by
  refine begM_ext (by rw [List.length_replicate, newM_len]) fun t ht => ?_
  rw [newM_len] at ht
  rw [newM_th nv nf nl nt t ht, List.getElem?_replicate, if_pos ht]
  by_cases e : t = 0
  · rw [if_pos e, e]; rfl
  · rw [if_neg e]; simp [ts0]
theorem end_new0 (nv nf nl nt : Nat) : endM (newM nv nf nl nt) = List.replicate nt false := by
  refine endM_ext (by rw [List.length_replicate, newM_len]) fun t ht => ?_
  rw [newM_len] at ht
  rw [newM_th nv nf nl nt t ht, List.getElem?_replicate, if_pos ht]
  by_cases e : t = 0
  · rw [if_pos e]; rfl
  · rw [if_neg e]; rfl
def boolV (l : List Bool) (k : Nat) : Value := .bool (l.getD k false)
def numV (l : List Int) (k : Nat) : Value := .int .i64 (l.getD k 0)
/-- What the law keeps while it goes through the events. -/
structure SndW (w : World) (gb ge gv gf n nv nf : Nat) (m : MS) : Prop where
  b : RowF w gb 4 n (boolV (begM m))
  e : RowF w ge 4 n (boolV (endM m))
  v : RowF w gv 3 nv (numV m.vars)
  f : RowF w gf 3 nf (numV m.flags)
theorem SndW.below {w w' : World} {gb ge gv gf n nv nf : Nat} {m : MS} (h : SndW w gb ge gv gf n nv nf m) (hb : Below w.heap.size w w') : SndW w' gb ge gv gf n nv nf m := ⟨h.b.below hb, h.e.below hb, h.v.below hb, h.f.below hb⟩
theorem SndW.congr {w : World} {gb ge gv gf n nv nf : Nat} {m m' : MS} (h : SndW w gb ge gv gf n nv nf m) (h1 : begM m' = begM m) (h2 : endM m' = endM m) (h3 : m'.vars = m.vars) (h4 : m'.flags = m.flags) : SndW w gb ge gv gf n nv nf m' := ⟨by rw [h1]; exact h.b, by rw [h2]; exact h.e, by rw [h3]; exact h.v, by rw [h4]; exact h.f⟩
theorem row_rep {w : World} {e g n : Nat} {z : Value} (hz : z.cells = #[z]) (h : w.ownsRow g e 1 (.slice (some ⟨g, 0, none⟩) n n) n (madeCells z.cells (n * 1)).toList) : RowF w g e n (fun _ => z) := (row_F h).congr fun k hk => made_get z hz n k hk
theorem boolV_rep (n k : Nat) (hk : k < n) : Value.bool false = boolV (List.replicate n false) k := by unfold boolV; rw [List.getD_eq_getElem?_getD, List.getElem?_replicate, if_pos hk]; rfl
theorem numV_rep (n k : Nat) (hk : k < n) : Value.int .i64 0 = numV (List.replicate n 0) k := by unfold numV; rw [List.getD_eq_getElem?_getD, List.getElem?_replicate, if_pos hk]; rfl
theorem snd_start {u1 u2 u3 u4 : World} {g n nv nf : Nat} {m : MS} (o1 : u1.ownsRow g 4 1 (.slice (some ⟨g, 0, none⟩) n n) n (madeCells (Value.bool false).cells (n * 1)).toList) (o2 : u2.ownsRow u1.heap.size 4 1 (.slice (some ⟨u1.heap.size, 0, none⟩) n n) n (madeCells (Value.bool false).cells (n * 1)).toList) (o3 : u3.ownsRow u2.heap.size 3 1 (.slice (some ⟨u2.heap.size, 0, none⟩) nv nv) nv (madeCells (Value.int .i64 0).cells (nv * 1)).toList) (o4 : u4.ownsRow u3.heap.size 3 1 (.slice (some ⟨u3.heap.size, 0, none⟩) nf nf) nf (madeCells (Value.int .i64 0).cells (nf * 1)).toList)
    (g2 : u1.grownBy u2 none) (g3 : u2.grownBy u3 none) (g4 : u3.grownBy u4 none) (hb : begM m = List.replicate n false ∧ endM m = List.replicate n false ∧ m.vars = List.replicate nv 0 ∧ m.flags = List.replicate nf 0) : SndW u4 g u1.heap.size u2.heap.size u3.heap.size n nv nf m ∧ g < u1.heap.size ∧ u1.heap.size < u2.heap.size ∧ u2.heap.size < u3.heap.size ∧ u3.heap.size < u4.heap.size := by
  obtain ⟨b1, b2, b3, b4⟩ := hb
  have r1 := row_rep rfl o1
  have r2 := row_rep rfl o2
  have r3 := row_rep rfl o3
  have r4 := row_rep rfl o4
  have B2 := grown_below (Nat.le_refl _) g2
  have B3 := grown_below (Nat.le_refl _) g3
  have B4 := grown_below (Nat.le_refl _) g4
  refine ⟨⟨(((r1.below B2).below B3).below B4).congr fun k hk => ?_, ((r2.below B3).below B4).congr fun k hk => ?_, (r3.below B4).congr fun k hk => ?_, r4.congr fun k hk => ?_⟩, r1.lt, r2.lt, r3.lt, r4.lt⟩
  · rw [b1]; exact boolV_rep n k hk
  · rw [b2]; exact boolV_rep n k hk
  · rw [b3]; exact numV_rep nv k hk
  · rw [b4]; exact numV_rep nf k hk
theorem boolV_set {l : List Bool} {i : Nat} (hi : i < l.length) (k : Nat) : (if k = i then Value.bool true else boolV l k) = boolV (l.set i true) k := by
  unfold boolV
  by_cases e : k = i
  · subst e
    rw [if_pos rfl, List.getD_eq_getElem?_getD, List.getElem?_set, if_pos rfl, if_pos hi]; rfl
  · rw [if_neg e, List.getD_eq_getElem?_getD, List.getD_eq_getElem?_getD, List.getElem?_set, if_neg (fun q => e q.symm)]
theorem numV_set {l : List Int} {i : Nat} (hi : i < l.length) (x : Int) (k : Nat) : (if k = i then Value.int .i64 x else numV l k) = numV (l.set i x) k := by
  unfold numV
  by_cases e : k = i
  · subst e
    rw [if_pos rfl, List.getD_eq_getElem?_getD, List.getElem?_set, if_pos rfl, if_pos hi]; rfl
  · rw [if_neg e, List.getD_eq_getElem?_getD, List.getD_eq_getElem?_getD, List.getElem?_set, if_neg (fun q => e q.symm)]
end Go.Proofs.YtcfpedjfofpnkaaGreatDoor
