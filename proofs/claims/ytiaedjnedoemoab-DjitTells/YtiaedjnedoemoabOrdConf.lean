import Derived.Test.YtiaedjnedoemoabOrdBase
namespace Go.Proofs.Ytiaedjnedoemoab
open Go.RowKit Go.Proofs.Ord

set_option maxHeartbeats 1000000 in
theorem rConflict_any (t k o v t' k' o' v' : Int) (w : World) :
    Calls Try.prog 74 #[.agg #[.int .i64 t, .int .i64 k, .int .i64 o, .int .i64 v], .agg #[.int .i64 t', .int .i64 k', .int .i64 o', .int .i64 v']] w fun e w' =>
      e = .returned (.bool (conflict ⟨t, k, o, v⟩ ⟨t', k', o', v'⟩)) ∧ Below w.heap.size w w' := by
  have hb2 : Hid (∀ x y z, Below w.heap.size w (((w.alloc x).alloc y).alloc z)) := fun x y z => (((Below.refl _ _).alloc (Nat.le_refl _) _).alloc (by simp) _).alloc (by simp; omega) _
  have hb3 : Hid (∀ x y z u, Below w.heap.size w ((((w.alloc x).alloc y).alloc z).alloc u)) := fun x y z u => ((((Below.refl _ _).alloc (Nat.le_refl _) _).alloc (by simp) _).alloc (by simp; omega) _).alloc (by simp; omega) _
  rw [conflict_mk, access_mk, access_mk]
  go_enter Try.func74, Try.ntmps74
  go_wp2
  all_goals
    go_ret
    refine ⟨o_ret_bool (by simp [*]), ?_⟩
    first | exact hb2.out _ _ _ | exact hb3.out _ _ _ _
end Go.Proofs.Ytiaedjnedoemoab
