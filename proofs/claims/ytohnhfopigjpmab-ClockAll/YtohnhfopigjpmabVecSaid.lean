import Derived.Test.YtohnhfopigjpmabVecInts
namespace Go.Proofs.Ytohnhfopigjpmab
open Go.RowKit

/-- What the program's calls answer. -/
def AtSaid : Prop := ∀ (a : Option Addr) (n cap : Nat) (xs : List Int) (t : Int) (w : World), SlV w a n cap xs →
  Calls Try.prog 11 #[.slice a n cap, .int .i64 t] w fun e w' => e = .returned (.int .i64 (Vec.at_ xs t)) ∧ Below w.heap.size w w'
def LeqSaid : Prop := ∀ (a : Option Addr) (n cap : Nat) (xs : List Int) (a' : Option Addr) (n' cap' : Nat) (ys : List Int) (w : World), SlV w a n cap xs → SlV w a' n' cap' ys →
  Calls Try.prog 13 #[.slice a n cap, .slice a' n' cap'] w fun e w' => e = .returned (.bool (Vec.leq xs ys)) ∧ Below w.heap.size w w'
def SameSaid : Prop := ∀ (a : Option Addr) (n cap : Nat) (xs : List Int) (a' : Option Addr) (n' cap' : Nat) (ys : List Int) (w : World), SlV w a n cap xs → SlV w a' n' cap' ys →
  Calls Try.prog 15 #[.slice a n cap, .slice a' n' cap'] w fun e w' => e = .returned (.bool (Vec.same xs ys)) ∧ Below w.heap.size w w'
def MaxSaid : Prop := ∀ (a : Option Addr) (n cap : Nat) (xs : List Int) (a' : Option Addr) (n' cap' : Nat) (ys : List Int) (w : World), SlV w a n cap xs → SlV w a' n' cap' ys →
  Calls Try.prog 6 #[.slice a n cap, .slice a' n' cap'] w fun e w' => ∃ v, e = .returned v ∧ New w.heap.size w' v (Vec.maxV xs ys) ∧ Below w.heap.size w w'
def TickSaid : Prop := ∀ (a : Option Addr) (n cap : Nat) (xs : List Int) (t : Int) (w : World), SlV w a n cap xs →
  Calls Try.prog 7 #[.slice a n cap, .int .i64 t] w fun e w' => ∃ v, e = .returned v ∧ New w.heap.size w' v (Vec.tickV wrap64 xs t) ∧ Below w.heap.size w w'

theorem New.parts {B : Nat} {w : World} {v : Value} {zs : List Int} (h : New B w v zs) (hb : zs.length * 8 ≤ 140737488351232) : ∃ a cap, v = .slice a zs.length cap ∧ SlV w a zs.length cap zs := by
  obtain ⟨a, cap, rfl, _⟩ := id h
  exact ⟨a, cap, rfl, h.slV hb⟩

theorem slV_lit (w : World) (x : Array Value) (zs : List Int) (t : Nat) (h : x.toList = zs.map (Value.int .i64)) (hl : zs.length ≤ 1000) : SlV (w.alloc (.cells x t)) (some ⟨w.heap.size, 0, none⟩) zs.length zs.length zs := by
  refine ⟨rfl, Nat.le_refl _, by omega, (fun e => by cases e), fun i hi => ⟨w.heap.size, 0, rfl, by simp, ?_⟩, by omega⟩
  rw [World.cell?_alloc_mark w x t (0, 0) (0 + i), Nat.zero_add]
  have e : x[i]? = x.toList[i]? := by simp
  rw [e, h]
  exact map_getElem hi
theorem slV_nil (w : World) : SlV w none 0 0 [] := ⟨rfl, Nat.le_refl _, by omega, fun _ => rfl, fun i hi => absurd hi (by simp), by omega⟩

theorem max5 : Vec.maxV [1, 0, 2] [0, 3] = [1, 3, 2] := by decide
theorem leq5a : Vec.leq [1] [1, 3, 2] = true := by decide
theorem leq5b : Vec.leq [1, 3, 2] [1] = false := by decide

theorem tick5 : Vec.at_ (Vec.tickV wrap64 [] 2) 2 = 1 := by
  have h := Vec.tickV_getD wrap64 [] 2 2
  have e : Vec.at_ (Vec.tickV wrap64 [] 2) 2 = (Vec.tickV wrap64 [] 2).getD 2 0 := Vec.at_nat _ 2
  rw [e, h]
  simp [wrap64]

set_option maxRecDepth 100000 in
set_option maxHeartbeats 1000000 in
theorem alive4_true (hA : AtSaid) (hL : LeqSaid) (hM : MaxSaid) (hT : TickSaid) (w : World) : Calls Try.prog 17 #[] w fun e w' => e = .returned (.bool true) ∧ Below w.heap.size w w' := by
  go_enter Try.func17, Try.ntmps17
  go_wp2_with fail
  have h1 : SlV (w.alloc (.cells #[.int .i64 1, .int .i64 0, .int .i64 2] 3)) (some ⟨w.heap.size, 0, none⟩) 3 3 [1, 0, 2] := slV_lit w _ [1, 0, 2] _ rfl (by decide)
  have h2 : SlV ((w.alloc (.cells #[.int .i64 1, .int .i64 0, .int .i64 2] 3)).alloc (.cells #[.int .i64 0, .int .i64 3] 3)) (some ⟨w.heap.size + 1, 0, none⟩) 2 2 [0, 3] := by
    have := slV_lit (w.alloc (.cells #[.int .i64 1, .int .i64 0, .int .i64 2] 3)) #[.int .i64 0, .int .i64 3] [0, 3] 3 rfl (by decide)
    simpa using this
  have h1' := h1.below ((Below.refl _ (w.alloc (.cells #[.int .i64 1, .int .i64 0, .int .i64 2] 3))).alloc (Nat.le_refl _) (.cells #[.int .i64 0, .int .i64 3] 3))
  have hb0 : Below w.heap.size w ((w.alloc (.cells #[.int .i64 1, .int .i64 0, .int .i64 2] 3)).alloc (.cells #[.int .i64 0, .int .i64 3] 3)) := ((Below.refl _ _).alloc (Nat.le_refl _) _).alloc (by simp) _
  refine (hM _ 3 3 [1, 0, 2] _ 2 2 [0, 3] _ h1' h2).mono ?_
  rintro e w1 ⟨v, rfl, hn, hb1⟩
  rw [max5] at hn
  obtain ⟨a, cap, rfl, hv⟩ := hn.parts (by simp)
  have hb2 : Hid (Below w.heap.size w w1) := hb0.trans (hb1.mono (by simp; omega))
  obtain ⟨b, off, rfl, hlt, hc⟩ := hv.2.2.2.2.1 1 (by simp)
  simp only [List.getD_cons_succ, List.getD_cons_zero] at hc
  clear h1 h2 h1' hb0 hb1 hn
  go_wp2_with fail
  have h3 : SlV (w1.alloc (.cells #[.int .i64 1] 3)) (some ⟨w1.heap.size, 0, none⟩) 1 1 [1] := slV_lit w1 _ [1] _ rfl (by decide)
  have hb3 := (Below.refl w1.heap.size w1).alloc (Nat.le_refl _) (.cells #[.int .i64 1] 3)
  refine (hL _ 1 1 [1] _ 3 _ [1, 3, 2] _ h3 (hv.below hb3)).mono ?_
  rintro e w2 ⟨rfl, hb4⟩
  rw [leq5a]
  have hb5 : Below w1.heap.size w1 w2 := hb3.trans (hb4.mono (by simp))
  have hv2 := hv.below hb5
  have hb6 : Hid (Below w.heap.size w w2) := hb2.out.trans (hb5.mono hb2.out.size)
  clear h3 hb3 hb4 hb5 hv hb2 hc
  go_wp2_with fail
  have h4 : SlV (w2.alloc (.cells #[.int .i64 1] 3)) (some ⟨w2.heap.size, 0, none⟩) 1 1 [1] := slV_lit w2 _ [1] _ rfl (by decide)
  have hb3 := (Below.refl w2.heap.size w2).alloc (Nat.le_refl _) (.cells #[.int .i64 1] 3)
  refine (hL _ 3 _ [1, 3, 2] _ 1 1 [1] _ (hv2.below hb3) h4).mono ?_
  rintro e w3 ⟨rfl, hb4⟩
  rw [leq5b]
  have hb5 : Below w2.heap.size w2 w3 := hb3.trans (hb4.mono (by simp))
  have hb7 : Hid (Below w.heap.size w w3) := hb6.out.trans (hb5.mono hb6.out.size)
  clear h4 hb3 hb4 hb5 hv2 hb6
  go_wp2_with fail
  refine (hT _ 0 0 [] 2 _ (slV_nil _)).mono ?_
  rintro e w4 ⟨v, rfl, hn, hb4⟩
  have hlen := Vec.tickV_len wrap64 [] 2
  obtain ⟨a4, cap4, rfl, hv4⟩ := hn.parts (by simp at hlen; omega)
  have hb8 : Hid (Below w.heap.size w w4) := hb7.out.trans (hb4.mono hb7.out.size)
  clear hn hb4 hb7 hlen
  go_wp2_with fail
  refine (hA _ _ _ _ 2 _ hv4).mono ?_
  rintro e w5 ⟨rfl, hb4⟩
  rw [tick5]
  have hb9 : Hid (Below w.heap.size w w5) := hb8.out.trans (hb4.mono hb8.out.size)
  clear hb4 hb8 hv4
  go_wp2
  go_ret
  exact ⟨rfl, hb9.out⟩
end Go.Proofs.Ytohnhfopigjpmab
