import Derived.Test.YtiaedjnedoemoabDoorPasts
namespace Go.Proofs.YtiaedjnedoemoabDoor
open Go.RowKit Go.Shelf Go.Proofs.Ord

attribute [local go_sem] Oper.semAt_some

set_option maxHeartbeats 1000000 in
/-- pasts: the list and the number are boxed; the function value captures the boxes. -/
theorem pasts_in (m : Nat) (a : Option Addr) (n cap : Nat) (K : Int) (w : World) :
    CallsIn Fence.wide m Tryd.prog 23 #[.slice a n cap, .int .i64 K] w fun e w' =>
      e = .returned (.func (.func 39) #[] #[.pointer (some ⟨w.heap.size, 0, none⟩), .pointer (some ⟨w.heap.size + 1, 0, none⟩)]) ∧ w' = (w.alloc (.cells #[.slice a n cap] 23)).alloc (.cells #[.int .i64 K] 3) := by
  refine callsIn_of_wp Tryd.func23 rfl trivial ?_ rfl
  simp only [Tryd.ntmps23, List.size_toArray, List.length_cons, List.length_nil, Nat.reduceAdd, Nat.reduceSub, Array.replicate_succ, Array.replicate_zero, List.push_toArray, List.append_toArray, List.nil_append, List.cons_append]
  gi_wp2
  go_ret
  exact ⟨by simp, rfl⟩

/-- What is read of what was there. -/
def pastBase (Bl Bk n : Nat) (a : Option Addr) : Side := fun b => b = Bl ∨ b = Bk ∨ ∃ ad, a = some ad ∧ 0 < n ∧ b = ad.block
/-- What is handed over: the event's number, and the set of those before it among the first K. -/
def pastE (es : List Ev) (n K : Nat) (pre : List (Nat × Value)) (x : Nat × Value) (O : Side) (W : World) : Prop :=
  x.1 = pre.length ∧ pre.length < n ∧ (∃ B ws, SetO B W x.2 ws ∧ Holds ws K (fun i => bef (ev es) i x.1 = true)) ∧ ∀ b, x.2.ownBlock = some b → ¬ O b

theorem pastE_steps {es : List Ev} {n K : Nat} (pre : List (Nat × Value)) (x : Nat × Value) (O : Side) (W : World) (O' : Side) (W' : World) (h : pastE es n K pre x O W) (hs : Steps O W O' W') : pastE es n K pre x O' W' := by
  obtain ⟨h1, h2, ⟨B, ws, h3, h4⟩, h5⟩ := h
  refine ⟨h1, h2, ⟨B, ws, h3.kept fun b hb => hs.rest b (h3.lt b hb).2 (h5 b hb), h4⟩, fun b hb hO => ?_⟩
  rcases hs.fresh b hO with h | h
  · exact h5 b hb h
  · have := (h3.lt b hb).2; omega
theorem pastE_anti {es : List Ev} {n K : Nat} (pre : List (Nat × Value)) (x : Nat × Value) (O O' : Side) (W : World) (h : pastE es n K pre x O W) (hs : ∀ b, O' b → O b) : pastE es n K pre x O' W :=
  ⟨h.1, h.2.1, h.2.2.1, fun b hb hO => h.2.2.2 b hb (hs b hO)⟩

theorem pasts_seq (Bl Bk n K : Nat) (a : Option Addr) (cap : Nat) (es : List Ev) (w : World) (hK : K ≤ 1048576) (hn : n * 32 ≤ 140737488351232) (hlen : es.length = n) (hcl : Boxed w Bl 23 (.slice a n cap)) (hck : Boxed w Bk 3 (.int .i64 K)) (hes : EvS w a es) :
    SeqF Fence.wide 3 Tryd.prog 39 #[.pointer (some ⟨Bl, 0, none⟩), .pointer (some ⟨Bk, 0, none⟩)] (fun x : Nat × Value => #[.int .i64 x.1, x.2]) (pastBase Bl Bk n a) (pastE es n K) (fun xs => xs.length = n) (fun pre => pre.length ≤ n) w :=
  fun l J Jx W hW hJ _ hin hbase hY h0 => pasts1_in l Bl Bk n K a cap es J Jx W hJ hin hK hn hlen ((hW.block Bl hcl.lt).trans hcl) ((hW.block Bk hck.lt).trans hck) (hes.below hW)
    (fun pre O W1 hj => ⟨(hbase pre O W1 hj Bl (.inl rfl)).1, (hbase pre O W1 hj Bl (.inl rfl)).2, (hbase pre O W1 hj Bk (.inr (.inl rfl))).1, (hbase pre O W1 hj Bk (.inr (.inl rfl))).2, fun b hb h0 => hbase pre O W1 hj b.block (.inr (.inr ⟨b, hb, h0, rfl⟩))⟩)
    hY h0

theorem pastBase_lt {Bl Bk n : Nat} {a : Option Addr} {es : List Ev} {w : World} (h1 : Bl < w.heap.size) (h2 : Bk < w.heap.size) (hlen : es.length = n) (hes : EvS w a es) : ∀ b, pastBase Bl Bk n a b → b < w.heap.size := by
  rintro b (rfl | rfl | ⟨ad, rfl, h0, rfl⟩)
  · exact h1
  · exact h2
  · obtain ⟨b, off, e, hlt, _⟩ := hes 0 (by omega)
    cases e; exact hlt

/-- Events later on in a list, told from one of them on. -/
theorem bef_shift (l : Nat → Ev) (i : Nat) : ∀ b a, bef (fun k => l (k + i)) a b = true ↔ bef l (a + i) (b + i) = true := by
  intro b
  induction b using Nat.strongRecOn with
  | ind b ih =>
    intro a
    rw [bef_iff, bef_iff]
    constructor
    · rintro ⟨h1, h | ⟨k, h2, h3, h4, h5⟩⟩
      · exact ⟨by omega, .inl h⟩
      · exact ⟨by omega, .inr ⟨k + i, by omega, by omega, (ih k h3 a).1 h4, h5⟩⟩
    · rintro ⟨h1, h | ⟨k, h2, h3, h4, h5⟩⟩
      · exact ⟨by omega, .inl h⟩
      · obtain ⟨k', rfl⟩ : ∃ k', k = k' + i := ⟨k - i, by omega⟩
        exact ⟨by omega, .inr ⟨k', by omega, by omega, (ih k' (by omega) a).2 h4, h5⟩⟩

theorem ev_sub (l : List Ev) (i m k : Nat) (h : k < m) : ev ((l.drop i).take m) k = ev l (k + i) := by
  unfold ev
  rw [List.getD_eq_getElem?_getD, List.getElem?_take, if_pos h, List.getElem?_drop, List.getD_eq_getElem?_getD, Nat.add_comm]

theorem bef_sub (l : List Ev) (i m a b : Nat) (h : b < m) : bef (ev ((l.drop i).take m)) a b = true ↔ bef (ev l) (a + i) (b + i) = true := by
  rw [← bef_shift (ev l) i b a, bef_congr (m := fun k => ev l (k + i)) b (fun k hk => ev_sub l i m k (by omega))]

theorem EvS.sub {w : World} {b off : Nat} {l : List Ev} (h : EvS w (some ⟨b, off, none⟩) l) (i m : Nat) : EvS w (some ⟨b, off + i * 4, none⟩) ((l.drop i).take m) := fun k hk => by
  rw [List.length_take, List.length_drop] at hk
  obtain ⟨b', off', e, hlt, hc⟩ := h (k + i) (by omega)
  cases e
  refine ⟨b, off + i * 4, rfl, hlt, ?_⟩
  rw [ev_sub _ _ _ _ (by omega)]
  have e : off + i * 4 + k * 4 = off + (k + i) * 4 := by omega
  rw [e]; exact hc
end Go.Proofs.YtiaedjnedoemoabDoor
