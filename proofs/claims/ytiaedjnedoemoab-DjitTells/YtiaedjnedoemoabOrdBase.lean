import Derived.Test.YtiaedjnedoemoabChecked
import Derived.Test.YtiaedjnedoemoabOrdMath
import Derived.WalkKit
import Derived.ProofKit
namespace Go.Proofs.Ytiaedjnedoemoab
open Go.RowKit Go.Proofs.Ord

theorem o_hide {p : Prop} (h : p) : Hid p := h
theorem o_ret_bool {a b : Bool} (h : a = b) : Ending.returned (.bool a) = .returned (.bool b) := by rw [h]

/-- An event as a value. -/
def evV (e : Ev) : Value := .agg #[.int .i64 e.thread, .int .i64 e.kind, .int .i64 e.obj, .int .i64 e.value]

theorem leads_mk (t k o v t' k' o' v' : Int) : leads ⟨t, k, o, v⟩ ⟨t', k', o', v'⟩ = (t == t' || (k == 6 && k' == 5 && o == o') || (k == 4 && k' == 3 && o == o') || (k == 7 && o == t') || (k' == 8 && o' == t)) := rfl

set_option maxHeartbeats 1000000 in
theorem rLeads_any (t k o v t' k' o' v' : Int) (w : World) :
    Calls Try.prog 69 #[.agg #[.int .i64 t, .int .i64 k, .int .i64 o, .int .i64 v], .agg #[.int .i64 t', .int .i64 k', .int .i64 o', .int .i64 v']] w fun e w' =>
      e = .returned (.bool (leads ⟨t, k, o, v⟩ ⟨t', k', o', v'⟩)) ∧ Below w.heap.size w w' := by
  have hb : Hid (∀ x y, Below w.heap.size w ((w.alloc x).alloc y)) := fun x y => ((Below.refl _ _).alloc (Nat.le_refl _) _).alloc (by simp) _
  rw [leads_mk]
  go_enter Try.func69, Try.ntmps69
  go_wp2
  all_goals
    go_ret
    exact ⟨o_ret_bool (by simp [*]), hb.out _ _⟩

theorem access_mk (t k o v : Int) : access ⟨t, k, o, v⟩ = (k == 1 || k == 2) := rfl
theorem conflict_mk (t k o v t' k' o' v' : Int) : conflict ⟨t, k, o, v⟩ ⟨t', k', o', v'⟩ = (access ⟨t, k, o, v⟩ && access ⟨t', k', o', v'⟩ && o == o' && t != t' && (k == 2 || k' == 2)) := rfl

theorem rAccess_any (t k o v : Int) (w : World) :
    Calls Try.prog 90 #[.agg #[.int .i64 t, .int .i64 k, .int .i64 o, .int .i64 v]] w fun e w' =>
      e = .returned (.bool (access ⟨t, k, o, v⟩)) ∧ Below w.heap.size w w' := by
  have hb : Hid (∀ x, Below w.heap.size w (w.alloc x)) := fun x => (Below.refl _ _).alloc (Nat.le_refl _) _
  rw [access_mk]
  go_enter Try.func90, Try.ntmps90
  go_wp2
  all_goals
    go_ret
    exact ⟨o_ret_bool (by simp [*]), hb.out _⟩
end Go.Proofs.Ytiaedjnedoemoab
