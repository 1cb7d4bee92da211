import Derived.Test.YtohnhfopigjpmaaDoorRacesFrom
import Derived.Test.YtohnhfopigjpmaaDoorRaceSort
import Derived.Test.YtohnhfopigjpmaaDoorOrdAll
import Derived.Deep.Upon
namespace Go.Proofs.YtohnhfopigjpmaaDoor
open Go.RowKit Go.Shelf Go.Proofs.Ord Go.Sort

/-- 'append(r, v...)' of two slices that are owned. -/
theorem run_append_rows {P : Program} (w : World) (base base' : Nat) (t ty e : TypeId) (i : TypeInfo) (z : Value) (size bytes : Nat) (ht : P.underlying t = some (.slice e)) (hi : P.info? e = some i) (hz : i.zero = some z)
    (hsize : i.size = size) (hby : i.bytes = bytes) (hzs : z.cells.size = size) (v : Value) (n : Nat) (xs : List Value) (hown : w.ownsRow base e size v n xs) (u : Value) (m : Nat) (ys : List Value) (hu : w.ownsRow base' e size u m ys)
    (h1 : ∀ y ∈ ys, y.oneCell' = true) (h63 : n + m ≤ maxLen) (hbytes : (n + m) * bytes ≤ 140737488355328) (hbase : base ≤ w.heap.size) :
    ∃ v' w', (Builtin.append_ #[t, t] ty #[v, u]).run P w = .ok v' w' ∧ w'.ownsRow base e size v' (n + m) (xs ++ ys) ∧ w.grownBy w' v.ownBlock := by
  by_cases h0 : m = 0
  · subst h0
    have hys : ys = [] := List.eq_nil_of_length_eq_zero (by have := hu.1; omega)
    subst hys
    have hsrc : Src P i.size t u 0 [] w := by
      rcases hu.2 with ⟨rfl, _⟩ | ⟨g, cap, cur, rfl, _, hg, _, _, _, _⟩
      · exact Src.ofNil w ht 0
      · exact Src.ofSlice w ht ⟨g, 0, none⟩ 0 cap [] (by simp) (fun j u h => by simp at h) (fun _ h => by cases h)
    refine ⟨v, w, ?_, by simpa using hown, World.grownBy.refl _ _⟩
    rcases hown.2 with ⟨rfl, rfl⟩ | ⟨g, cap, cur, rfl, _, _, hnc, _, _, _⟩
    · exact run_append_nothing w t t ty e i ht hi none 0 0 (Nat.le_refl _) u hsrc
    · exact run_append_nothing w t t ty e i ht hi (some ⟨g, 0, none⟩) n cap hnc u hsrc
  · rcases hu.2 with ⟨rfl, h⟩ | ⟨g, cap, cur, rfl, _, hg, _, _, _, _⟩
    · omega
    · obtain ⟨v', w', a1, a2, a3, _⟩ := run_append_blk w base t ty e i z size bytes ht hi hz hsize hby hzs v n xs hown ⟨g, 0, none⟩ m cap ys (by omega) hu.1 (hu.cells (g := g) rfl) h1 h63 hbytes hbase
      exact ⟨v', w', a1, a2, a3⟩

/-- The same at an operation. -/
theorem wpList_append_rows {P : Program} (w : World) {ops : Array Oper} {rest : List Oper} {o : Oper} {a : Act} {Q : Exit → Act → World → Prop} (hgd : o.guard = none) (s x : Operand) (t : TypeId)
    (ho : o.op = .call { callee := .builtin .append, args := #[s, x], argTypes := #[t, t] }) (base base' : Nat) (e : TypeId) (i : TypeInfo) (z : Value) (size bytes : Nat) (ht : P.underlying t = some (.slice e)) (hi : P.info? e = some i) (hz : i.zero = some z)
    (hsize : i.size = size) (hby : i.bytes = bytes) (hzs : z.cells.size = size) (v : Value) (n : Nat) (xs : List Value) (hs : a.eval s = v) (hown : w.ownsRow base e size v n xs) (u : Value) (m : Nat) (ys : List Value) (hx : a.eval x = u) (hu : w.ownsRow base' e size u m ys)
    (h1 : ∀ y ∈ ys, y.oneCell' = true) (h63 : n + m ≤ maxLen) (hbytes : (n + m) * bytes ≤ 140737488355328) (hbase : base ≤ w.heap.size)
    (h : ∀ v' w', w'.ownsRow base e size v' (n + m) (xs ++ ys) → w.grownBy w' v.ownBlock → wpList P ops Q rest (a.put o.dst v') w') : wpList P ops Q (o :: rest) a w :=
  wpList_plain hgd fun K hK => by
    obtain ⟨v', w', hr, r1, r2⟩ := run_append_rows (P := P) w base base' t o.type e i z size bytes ht hi hz hsize hby hzs v n xs hown u m ys hu h1 h63 hbytes hbase
    simp [Oper.wp, Oper.upon, execOp, ho, resolve, invoke, builtin, hs, hx, hr, Result.andThen]
    exact hK _ _ (h v' w' r1 r2)

theorem spans_le (l : Nat → Ev) (n m : Nat) : (spans l n m).length ≤ n * n := by
  have h : ∀ k, (spans l n m).length ≤ (spans l n (m + k)).length := fun k => by
    induction k with
    | zero => exact Nat.le_refl _
    | succ k ih => rw [← Nat.add_assoc, spans_succ, List.length_append]; omega
  have h1 := h n
  rw [spans_len l n (m + n) (by omega)] at h1
  exact Nat.le_trans h1 (racesTo_length l n)

/-- What slices.SortFunc does with the races. -/
def SortSaid : Prop := ∀ (w : World) (B : Nat) (v : Value) (ps : List (Nat × Nat)), B ≤ w.heap.size → w.ownsRow B 32 2 v ps.length (prs ps) → ps.length < 4611686018427387904 →
  Calls Tryd.prog 17 #[v, .func (.func 18) #[] #[]] w fun e w' => e = .returned (.tuple #[]) ∧ PairNew B w' v (ps.mergeSort fun x y => !(ltOf cmpP) y x) ∧ Below B w w'

theorem prs_one (ps : List (Nat × Nat)) : ∀ y ∈ prs ps, y.oneCell' = true := by
  intro y hy
  unfold prs at hy
  rw [List.mem_flatMap] at hy
  obtain ⟨p, _, hp⟩ := hy
  simp at hp
  rcases hp with rfl | rfl <;> rfl

set_option maxRecDepth 100000 in
set_option maxHeartbeats 500000 in
theorem races_any (hS : SortSaid) (a : Option Addr) (n cap : Nat) (l : List Ev) (w : World) (hlen : l.length = n) (hs : EvS w a l) (hc : n ≤ cap) (hm : cap ≤ maxLen) (hn : n ≤ 1048576) (hT : Tab w) :
    Calls Tryd.prog 8 #[.slice a n cap] w fun e w' => ∃ v, e = .returned v ∧ PairNew w.heap.size w' v (racesTo (ev l) n) ∧ Below w.heap.size w w' := by
  have hcap : cap ≤ 9223372036854775807 := hm
  have hF : Hid (∀ (p : Nat) (w7 : World), p < n → Below w.heap.size w w7 → Calls Tryd.prog 16 #[.slice a n cap, .int .i64 p] w7 fun e w' => ∃ v, e = .returned v ∧ w'.ownsRow w7.heap.size 32 2 v (rf (ev l) p 16384 (n - p)).length (prs (rf (ev l) p 16384 (n - p))) ∧ Below w7.heap.size w7 w') := fun p w7 hp hb => by
    obtain ⟨b, off, rfl, _⟩ := hs 0 (by omega)
    exact racesFrom_any b off n cap l p w7 hlen (hs.below hb) hc hm hn hp (tab_below hT hb)
  have hsl : Hid (∀ m, (spans (ev l) n m).length ≤ 1099511627776) := fun m => Nat.le_trans (spans_le _ _ _) (Nat.mul_le_mul hn hn)
  have HS := hide' hS
  obtain ⟨i0, hi0, hi1⟩ := Option.map_eq_some_iff.1 Tryd.infoP
  obtain ⟨hz0, hz1, hz2⟩ : i0.zero = some (.agg #[.int .i64 0, .int .i64 0]) ∧ i0.size = 2 ∧ i0.bytes = 16 := by simpa using hi1
  clear hi1
  have Hhs := hide' hs
  have HT := hide' hT
  clear hS hs hT
  go_enter Tryd.func8, Tryd.ntmps8
  go_wp2_with fail
  go_loopw [3, 4] (fun r i w7 => ∃ m p : Nat, p = m * 16384 ∧ (m = 0 ∨ p < n + 16384) ∧ i = .int .i64 p ∧ w7.ownsRow w.heap.size 32 2 r (spans (ev l) n m).length (prs (spans (ev l) n m)) ∧ Below w.heap.size w w7) (fun _ i _ => n + 16384 - (intOf i).toNat)
  case atStart => exact ⟨0, 0, rfl, .inl rfl, rfl, ⟨rfl, .inl ⟨rfl, rfl⟩⟩, Below.refl _ _⟩
  case round =>
    obtain ⟨m, p, hpm, hm0, rfl, hr, hbr⟩ := hrel
    by_cases hp : p < n
    · have Hr := hide' hr
      have Hb := hide' hbr
      have Hp := hide' hp
      have hd : decide ((p : Int) < (n : Int)) = true := decide_eq_true (by omega)
      clear hr hbr hm0
      have hlen9 : Hid ((spans (ev l) n m).length + (rf (ev l) p 16384 (n - p)).length = (spans (ev l) n (m + 1)).length ∧ prs (spans (ev l) n m) ++ prs (rf (ev l) p 16384 (n - p)) = prs (spans (ev l) n (m + 1))) := by
        rw [spans_succ, ← hpm, prs_append, List.length_append]; exact ⟨rfl, rfl⟩
      have Hpm := hide' hpm
      have Hlen := hide' hlen
      clear hpm hlen hp
      go_wp2_with (first | (go_at_call 16; refine (hF.out p _ Hp.out Hb.out).mono ?_; rintro e w8 ⟨v, rfl, hv, hb8⟩; have Hv := hide' hv; have Hb8 := hide' hb8; clear hv hb8) | (at_builtin; refine wpList_append_rows _ rfl _ _ 26 rfl w.heap.size _ 32 i0 (.agg #[.int .i64 0, .int .i64 0]) 2 16 Tryd.underlying26 hi0 hz0 hz1 hz2 rfl _ _ _ rfl (ownsRow_below Hr.out Hb8.out (fun g e => (Hr.out.lt g e).2)) _ _ _ rfl Hv.out (prs_one _) (by rw [hlen9.out.1]; have := hsl.out (m + 1); unfold maxLen; omega) (by rw [hlen9.out.1]; have := hsl.out (m + 1); omega) (by have := Hb.out.size; have := Hb8.out.size; omega) ?_; intro v' w1 hown' hgrow))
      have hg : w8.grownBy w1 u3.ownBlock := hgrow
      rw [hlen9.out.1, hlen9.out.2] at hown'
      have h1 := Hpm.out
      have h2 := Hp.out
      refine ⟨⟨m + 1, p + 16384, by omega, .inr (by omega), by rw [Int.natCast_add]; rfl, hown', (Hb.out.trans (Hb8.out.mono Hb.out.size)).grown hg (Nat.le_trans Hb.out.size Hb8.out.size) fun g e => (Hr.out.lt g e).1⟩, ?_⟩
      simp [intOf]
      omega
    · have Hr := hide' hr
      have Hb := hide' hbr
      have Hnm : Hid (n ≤ m * 16384) := by show n ≤ m * 16384; omega
      have Hlen := hide' hlen
      have hd : decide (p < n) = false := decide_eq_false (by omega)
      clear hr hbr hm0 hpm hlen hp
      go_wp2_with (go_at_call 17; refine (HS.out _ w.heap.size _ (spans (ev l) n m) Hb.out.size Hr.out (by have := hsl.out m; omega)).mono ?_; rintro e w8 ⟨rfl, hP, hB⟩; rw [spans_sorted (ev l) n m Hnm.out] at hP; have HP := hide' hP; have HB := hide' hB; clear hP hB)
      go_ret
      exact ⟨_, rfl, HP.out, Hb.out.trans HB.out⟩
end Go.Proofs.YtohnhfopigjpmaaDoor
