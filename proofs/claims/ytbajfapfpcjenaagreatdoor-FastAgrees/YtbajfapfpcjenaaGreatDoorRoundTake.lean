import Derived.OrdersIn
import Derived.TacticsIn
namespace Go.Proofs.YtbajfapfpcjenaaGreatDoor
open Go

/-! A drawn region inside a round of a range over a function: a load is taken ahead of the others, where a condition on the world holds all through the region. -/

section
variable {F : Fence} {n : Nat} {P : Program} {ops : Array Oper} {Q : Exit → Act → World → Prop} {md : Region.Mode} {S : World → Prop}

/-- No operation of the region is a defer or a select. -/
def calm (ops : Array Oper) : Bool := ops.all fun o => match o.op with | .defer _ => false | .select .. => false | _ => true

theorem calm_spec (h : calm ops = true) {j : Nat} {o : Oper} (ho : ops[j]? = some o) : (∀ c, o.op ≠ .defer c) ∧ ∀ cs b, o.op ≠ .select cs b := by
  have := Array.all_eq_true_iff_forall_mem.1 h o (Array.mem_of_getElem? ho)
  exact ⟨fun c e => by simp [e] at this, fun cs b e => by simp [e] at this⟩

/-- An operation over a value that is put where it does not look. -/
theorem op_over {j : Nat} {oj : Oper} {d : Option Tmp} {v : Value} {K : Act → World → Prop} {a : Act} {w : World} (hj : ops[j]? = some oj)
    (hd : (∀ c, oj.op ≠ .defer c) ∧ ∀ cs b, oj.op ≠ .select cs b) (h1 : ∀ x, d = some x → x ∉ oj.looksAt ops) (h2 : ∀ x, d = some x → oj.dst ≠ some x)
    (hQ : ∀ c a w, Q (.panic c) (a.put d v) w → Q (.panic c) a w) (h : wpOpIn F n P ops Q j K (a.put d v) w) :
    wpOpIn F n P ops Q j (fun a' w' => (∃ u ds, a' = ({ a with defers := ds } : Act).put oj.dst u) ∧ K (a'.put d v) w') a w := by
  have ex : oj.semAt F.round (a.put d v).eval = oj.semAt F.round a.eval := by
    rw [Oper.semAt_eq _ _ _ hd.1, Oper.semAt_eq _ _ _ hd.1]; exact execOp_put oj hd.2 a d v h1
  have cm : ∀ (b : Act) u, (b.put d v).put oj.dst u = (b.put oj.dst u).put d v := fun b u => Act.put_comm b v u h2
  unfold wpOpIn Oper.wpIn at h ⊢
  simp only [hj, wanted_put oj a d v h1, about_put oj w a d v h1, ex] at h ⊢
  by_cases hw : Region.wanted oj (yielded ops a.tmps) = true
  · rw [if_pos hw] at h ⊢
    refine ⟨h.1, ?_⟩
    have h := h.2
    revert h
    generalize (oj.semAt F.round a.eval).run P w = r
    intro h
    rcases r with ⟨x, w'⟩ | ⟨x, w'⟩
    · cases x with
      | value u => simp only [Oper.uponIn] at h ⊢; exact ⟨⟨u, a.defers, rfl⟩, cm a u ▸ h⟩
      | skip => simp only [Oper.uponIn] at h ⊢; exact ⟨⟨_, a.defers, rfl⟩, cm a _ ▸ h⟩
      | defer e =>
        simp only [Oper.uponIn] at h ⊢
        rw [Act.put_defers, cm] at h
        exact ⟨⟨_, e :: a.defers, rfl⟩, h⟩
      | enter f args =>
        simp only [Oper.uponIn] at h ⊢
        refine ⟨h.1, h.2.mono fun e w'' he => ?_⟩
        cases e with
        | returned u => exact ⟨⟨u, a.defers, rfl⟩, cm a u ▸ he⟩
        | panicked c => exact hQ _ _ _ he
        | outgrown => exact he
      | row r args =>
        simp only [Oper.uponIn] at h ⊢
        exact ⟨h.1, h.2.mono fun u w'' he => ⟨⟨u, a.defers, rfl⟩, cm a u ▸ he⟩⟩
      | round l f tmps assign body =>
        simp only [Oper.uponIn] at h ⊢
        refine ⟨h.1, h.2.mono fun e w'' he => ?_⟩
        cases e with
        | returned u => exact ⟨⟨u, a.defers, rfl⟩, cm a u ▸ he⟩
        | panicked c => exact hQ _ _ _ he
        | outgrown => exact he
      | _ => simp only [Oper.uponIn] at h
    · cases x <;> simp only [Oper.uponIn] at h ⊢
      exact hQ _ _ _ h
  · rw [if_neg hw] at h ⊢
    exact ⟨h.1, ⟨_, a.defers, rfl⟩, cm a _ ▸ h.2⟩

/-- Whatever order comes up, and S holds behind each operation. -/
def heldIn (F : Fence) (n : Nat) (P : Program) (md : Region.Mode) (ops : Array Oper) (Q : Exit → Act → World → Prop) (S : World → Prop) : Nat → Array Bool → Act → World → Prop
  | 0, listed, a, w => Region.ready md ops listed = [] ∧ Q .normal a w
  | k + 1, listed, a, w => (Region.ready md ops listed = [] → Q .normal a w) ∧
    ∀ i ∈ Region.ready md ops listed, wpOpIn F n P ops Q i (fun a' w' => S w' ∧ heldIn F n P md ops Q S k (listed.setIfInBounds i true) a' w') a w

theorem heldIn_any {k : Nat} {listed : Array Bool} {a : Act} {w : World} (h : heldIn F n P md ops Q S k listed a w) : wpAnyIn F n P md ops Q k listed a w := by
  induction k generalizing listed a w with
  | zero => exact h
  | succ k ih => exact ⟨h.1, fun i hi => wpOpIn_mono (fun _ _ h' => ih h'.2) (h.2 i hi)⟩

/-- What 'oi' yields, in each world that meets S, in this state. -/
def Gives (P : Program) (ops : Array Oper) (S : World → Prop) (o : Oper) (v : Value) (a : Act) : Prop :=
  Region.wanted o (yielded ops a.tmps) = true ∧ (∀ w, S w → (execOp a.eval o).run P w = .ok (.value v) w) ∧ ∀ w, o.about P w a.eval = none

theorem heldIn_take {i : Nat} {oi : Oper} {v : Value} (hi : ops[i]? = some oi) (hc : calm ops = true) (hQ : ∀ c a w, Q (.panic c) (a.put oi.dst v) w → Q (.panic c) a w) :
    ∀ {k : Nat} {listed : Array Bool} {a : Act} {w : World}, Region.free md ops listed i = true → (Region.ready md ops listed).contains i = true → Gives P ops S oi v a → S w →
      heldIn F n P md ops Q S k (listed.setIfInBounds i true) (a.put oi.dst v) w → heldIn F n P md ops Q S (k + 1) listed a w := by
  intro k
  induction k with
  | zero =>
    intro listed a w _ hr hy hS H
    have hr' : i ∈ Region.ready md ops listed := by simpa using hr
    refine ⟨fun h => absurd (h ▸ hr') (by simp), fun j hj => ?_⟩
    by_cases hji : j = i
    · subst hji
      unfold wpOpIn Oper.wpIn
      simp only [hi, if_pos hy.1, Oper.semAt_eq _ _ _ (calm_spec hc hi).1, hy.2.1 w hS, Oper.uponIn]
      exact ⟨fun f hf => absurd (hy.2.2 w ▸ hf) (by simp), hS, H⟩
    · have h0 := ready_mono hj hji
      rw [H.1] at h0; cases h0
  | succ k ih =>
    intro listed a w hfr hr hy hS H
    have hr' : i ∈ Region.ready md ops listed := by simpa using hr
    refine ⟨fun h => absurd (h ▸ hr') (by simp), fun j hj => ?_⟩
    by_cases hji : j = i
    · subst hji
      unfold wpOpIn Oper.wpIn
      simp only [hi, if_pos hy.1, Oper.semAt_eq _ _ _ (calm_spec hc hi).1, hy.2.1 w hS, Oper.uponIn]
      exact ⟨fun f hf => absurd (hy.2.2 w ▸ hf) (by simp), hS, H⟩
    · obtain ⟨hjun, oj, hoj, hall⟩ := mem_ready.1 hj
      have hun := (mem_ready.1 hr').1
      have hno : ∀ e ∈ oj.after, Region.binds md e = true → e.on ≠ i := fun e he hb heq => by
        have h1 := hall e he hb
        rw [heq] at h1
        rcases Nat.lt_or_ge i listed.size with h' | h'
        · simp [h'] at hun h1; rw [hun] at h1; cases h1
        · simp [Array.getElem?_eq_none h'] at h1
      obtain ⟨g1, g2, g3⟩ := Oper.apart_spec (Region.free_spec hi hfr j oj hoj hji hjun hno)
      refine wpOpIn_mono (fun a' w' h3 => ?_) (op_over hoj (calm_spec hc hoj) g1 g2 hQ (H.2 j (ready_mono hj hji)))
      obtain ⟨⟨u, ds, rfl⟩, hS', h4⟩ := h3
      refine ⟨hS', ih ?_ (by simpa using ready_mono hr' (Ne.symm hji)) ⟨?_, fun w hw => ?_, fun w => ?_⟩ hS' ?_⟩
      · simp only [Region.free, hi, List.all_eq_true] at hfr ⊢
        intro m hm
        have h5 := hfr m hm
        by_cases hjm : j = m
        · subst hjm
          have : (listed.setIfInBounds j true).getD j true = true := by
            rcases Nat.lt_or_ge j listed.size with h' | h' <;> simp [h']
          rw [this]; simp
        · rw [getD_set_ne true hjm]; exact h5
      · rw [wanted_put oi _ oj.dst u g3]; exact hy.1
      · rw [execOp_put oi (calm_spec hc hi).2 _ oj.dst u g3]; exact hy.2.1 w hw
      · rw [about_put oi w _ oj.dst u g3]; exact hy.2.2 w
      · rw [Array.setIfInBounds_comm _ _ hji]; exact h4

/-- One operation may come up. -/
theorem heldIn_one {i : Nat} {o : Oper} {k : Nat} {listed : Array Bool} {a : Act} {w : World} (hr : Region.ready md ops listed = [i]) (ho : ops[i]? = some o)
    (h : ∀ K' : Act → World → Prop, (∀ a w, S w → heldIn F n P md ops Q S k (listed.setIfInBounds i true) a w → K' a w) →
      if Region.wanted o (yielded ops a.tmps) = true then Oper.wpIn F n P o a w K' Q else (∀ f, o.about P w a.eval = some f → F.fn f) ∧ K' (a.put o.dst undef) w) :
    heldIn F n P md ops Q S (k + 1) listed a w := by
  refine ⟨fun h0 => absurd (hr ▸ h0) (by simp), fun j hj => ?_⟩
  rw [hr] at hj
  obtain rfl : j = i := by simpa using hj
  exact wpOpIn_step ho fun K' hK => h K' fun a w h1 h2 => hK a w ⟨h1, h2⟩

theorem heldIn_done {k : Nat} {listed : Array Bool} {a : Act} {w : World} (hr : Region.ready md ops listed = []) (h : Q .normal a w) : heldIn F n P md ops Q S k listed a w := by
  cases k with
  | zero => exact ⟨hr, h⟩
  | succ k => exact ⟨fun _ => h, by rw [hr]; simp⟩

theorem region_heldIn {id : Nat} {a : Act} {w : World} (S : World → Prop) (hm : P.follows .mixedOrders = true)
    (h : heldIn F n P .any ops Q S ops.size (Array.replicate ops.size false) a w.drew) : (Code.region id ops true).wpIn F n P Q a w :=
  wpIn_region_any hm (heldIn_any h)

end
end Go.Proofs.YtbajfapfpcjenaaGreatDoor
