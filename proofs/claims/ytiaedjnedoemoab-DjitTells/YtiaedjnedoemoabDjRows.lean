import Derived.Test.YtiaedjnedoemoabDjStamps
import Derived.Test.YtiaedjnedoemoabSlBase
namespace Go.Proofs.Ytiaedjnedoemoab
open Go.RowKit Go.Proofs.Ord
attribute [local go_sem ↓] Go.wp_at_zero Go.wp_at_succ

set_option maxRecDepth 100000 in
set_option maxHeartbeats 400000 in
theorem ints5_any (a : Option Addr) (n cap : Nat) (xs : List Int) (a' : Option Addr) (n' cap' : Nat) (ys : List Int) (w : World) (hn : xs.length = n) (hs : Sl w a xs) (hb : n * 8 ≤ 140737488351232) (hn' : ys.length = n') (hs' : Sl w a' ys) :
    Calls Try.prog 28 #[.slice a n cap, .slice a' n' cap'] w fun e w' => e = .returned (.bool (decide (xs = ys))) ∧ Below w.heap.size w w' := by
  by_cases hne : n = n'
  · subst hne
    go_enter Try.func28, Try.ntmps28
    go_wp2
    go_loopw [5] (fun i wr => ∃ k : Nat, k ≤ n ∧ i = .int .i64 k ∧ (∀ j, j < k → xs.getD j 0 = ys.getD j 0) ∧ Below w.heap.size w wr) (fun i _ => n - (intOf i).toNat)
    case atStart => exact ⟨0, Nat.zero_le _, rfl, fun j hj => absurd hj (by omega), Below.refl _ _⟩
    case round =>
      obtain ⟨k, hk, rfl, hall, hbel⟩ := hrel
      have H := hide hall
      clear hall
      by_cases h5 : k < n
      · obtain ⟨b, off, rfl, hlt, hc⟩ := (hs.below hbel) k (by omega)
        obtain ⟨b', off', rfl, hlt', hc'⟩ := (hs'.below hbel) k (by omega)
        generalize hx : xs.getD k 0 = x at hc
        generalize hy : ys.getD k 0 = y at hc'
        have HX := hide hx
        have HY := hide hy
        clear hx hy
        by_cases h6 : x = y
        · have h7 : (x != y) = false := by simpa using h6
          have H2 : Hid (∀ j, j < k + 1 → xs.getD j 0 = ys.getD j 0) := fun j hj => by
            by_cases e : j < k
            · exact H.out j e
            · obtain rfl : j = k := by omega
              rw [HX.out, HY.out]; exact h6
          clear h6
          go_wp2
          go_quiet (fail)
          go_wp2
          go_roundw
          case rel => exact ⟨k + 1, by omega, by go_num, H2.out, drewN_below hbel _⟩
          case measure => simp [intOf]; omega
        · have h7 : (x != y) = true := by simpa using h6
          have hres : Hid (decide (xs = ys) = false) := by
            apply decide_eq_false; intro e; apply h6; rw [← HX.out, ← HY.out, e]
          clear h6
          go_wp2
          go_quiet (fail)
          go_wp2
          go_ret
          exact ⟨ret_bool hres.out.symm, drewN_below hbel _⟩
      · have hres : Hid (decide (xs = ys) = true) := decide_eq_true (ext_getD (by omega) (fun j hj => H.out j (by omega)))
        go_wp2
        go_ret
        exact ⟨ret_bool hres.out.symm, hbel⟩
  · have hres : Hid (decide (xs = ys) = false) := by
      apply decide_eq_false; intro e; subst e; omega
    have h7 : ((n : Int) != (n' : Int)) = true := bne_iff_ne.2 (by omega)
    go_enter Try.func28, Try.ntmps28
    go_wp2
    go_ret
    exact ⟨ret_bool hres.out.symm, Below.refl _ _⟩

theorem ints5_same {a : Option Addr} {n cap : Nat} {a' : Option Addr} {n' cap' : Nat} {xs : List Int} {w : World} (h : SlV w a n cap xs) (h' : SlV w a' n' cap' xs) :
    Calls Try.prog 28 #[.slice a n cap, .slice a' n' cap'] w fun e w' => e = .returned (.bool true) ∧ Below w.heap.size w w' := by
  have := ints5_any a n cap xs a' n' cap' xs w h.1 h.2.2.2.2.1 h.2.2.2.2.2 h'.1 h'.2.2.2.2.1
  rw [decide_eq_true rfl] at this
  exact this

/-- Rows that can be read. -/
def RowS (w : World) (a : Option Addr) (A : Nat → Option Addr) (C : Nat → Nat) (rows : List (List Int)) : Prop :=
  ∀ i, i < rows.length → ∃ b off, a = some ⟨b, off, none⟩ ∧ b < w.heap.size ∧ w.cell? ⟨b, off + i, none⟩ = some (.slice (A i) (rows.getD i []).length (C i)) ∧ SlV w (A i) (rows.getD i []).length (C i) (rows.getD i [])
theorem RowS.below {w w' : World} {a : Option Addr} {A : Nat → Option Addr} {C : Nat → Nat} {rows : List (List Int)} (h : RowS w a A C rows) (hb : Below w.heap.size w w') : RowS w' a A C rows := by
  intro i hi
  obtain ⟨b, off, e1, e2, e3, e4⟩ := h i hi
  exact ⟨b, off, e1, by have := hb.size; omega, (hb.cell (p := ⟨b, off + i, none⟩) e2).trans e3, e4.below hb⟩
theorem rowS_of_new {B cap : Nat} {w : World} {a : Option Addr} {A : Nat → Option Addr} {C : Nat → Nat} {l : List Ev} {th : Nat} (h : RowsNew B w a cap A C (stampRows l th)) (hth : th ≤ 64) : RowS w a A C (stampRows l th) := by
  intro i hi
  exact h.row (Below.refl _ _) (fun q hq => by
    rw [stampRows_length] at hq
    rw [stampRows_getD l th q hq]
    exact Nat.le_trans (stamp_length (ev l) th q) hth) hi
theorem rowS_of_irows {w : World} {B th n : Nat} {a : Option Addr} {cap : Nat} {g : Nat → Nat} {l : List Ev} (hn : l.length = n) (hth : th ≤ 64)
    (h : IRows w B th (.slice a n cap) n g (fun q => (stamp (ev l) th q).length) (fun q => full (ev l) th q (q + 1))) : RowS w a (fun q => some ⟨g q, 0, none⟩) (fun _ => th) (stampRows l th) := by
  intro i hi
  rw [stampRows_length, hn] at hi
  obtain ⟨gv, cv, e, _, hlt⟩ := h.own.form (by omega)
  cases e
  rw [stampRows_getD l th i (by omega)]
  refine ⟨gv, 0, rfl, hlt, by rw [Nat.zero_add]; exact h.cell hi, rfl, stamp_length (ev l) th i, by show th ≤ 9223372036854775807; omega, (fun e => by cases e), fun t ht => ⟨g i, 0, rfl, ((h.row i hi).2.1.lt _ rfl).2, ?_⟩, by have := stamp_length (ev l) th i; omega⟩
  have hl := stamp_length (ev l) th i
  rw [Nat.zero_add, h.num hi (by omega)]
  congr 2
  unfold stamp
  rw [Vec.trim_getD]

set_option maxRecDepth 100000 in
set_option maxHeartbeats 1000000 in
theorem stamps5_true (a : Option Addr) (n cap : Nat) (A : Nat → Option Addr) (C : Nat → Nat) (a' : Option Addr) (cap' : Nat) (A' : Nat → Option Addr) (C' : Nat → Nat) (rows : List (List Int)) (w : World) (hn : rows.length = n) (hs : RowS w a A C rows) (hs' : RowS w a' A' C' rows) (hb : n ≤ 9223372036854775806) :
    Calls Try.prog 27 #[.slice a n cap, .slice a' n cap'] w fun e w' => e = .returned (.bool true) ∧ Below w.heap.size w w' := by
  go_enter Try.func27, Try.ntmps27
  go_wp2_with fail
  go_loopw [5, 6] (fun iv _ wr => ∃ i : Nat, i ≤ n ∧ iv = .int .i64 i ∧ Below w.heap.size w wr) (fun iv _ _ => n - (intOf iv).toNat)
  case atStart => exact ⟨0, Nat.zero_le _, rfl, Below.refl _ _⟩
  case round =>
    obtain ⟨i, hi, rfl, hbr⟩ := hrel
    by_cases h5 : i < n
    · obtain ⟨b, off, rfl, hlt, c0, s0⟩ := (hs.below hbr) i (by omega)
      obtain ⟨b', off', rfl, hlt', d0, t0⟩ := (hs'.below hbr) i (by omega)
      have hin : (i : Int) < (n : Int) := by omega
      generalize rows.getD i [] = r at c0 s0 d0 t0
      go_wp2_with fail
      go_region_held3 (fun w' => w'.cell? ⟨b, off + i, none⟩ = some (.slice (A i) r.length (C i)) ∧ w'.cell? ⟨b', off' + i, none⟩ = some (.slice (A' i) r.length (C' i))) (first | exact ⟨c5, d5⟩ | go_keep) ((go_at_call 28; refine (ints5_same (xs := r) ?_ ?_).mono ?_; exact s0.below (Below.refl _ _).drew; exact t0.below (Below.refl _ _).drew; rintro e w5 ⟨rfl, hb5⟩; have hB5 := hbr.drew.trans (hb5.mono hbr.size); have c5 := (hb5.cell (p := ⟨b, off + i, none⟩) hlt).trans c0; have d5 := (hb5.cell (p := ⟨b', off' + i, none⟩) hlt').trans d0; clear hb5))
      clear c0 d0 c5 d5 s0 t0 hbr
      go_wp2_with fail
      go_roundw
      case rel => exact ⟨i + 1, by omega, by go_num, hB5⟩
      case measure => simp [intOf]; omega
    · go_wp2_with fail
      go_ret
      exact ⟨rfl, hbr⟩
end Go.Proofs.Ytiaedjnedoemoab
