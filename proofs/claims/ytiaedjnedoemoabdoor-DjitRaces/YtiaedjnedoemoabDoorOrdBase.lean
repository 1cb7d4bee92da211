import Derived.Test.YtiaedjnedoemoabDoorChecked
import Derived.Test.YtiaedjnedoemoabDoorOrdMath
import Derived.WalkKit
import Derived.ProofKit
namespace Go.Proofs.YtiaedjnedoemoabDoor
open Go.RowKit Go.Proofs.Ord

theorem o_hide {p : Prop} (h : p) : Hid p := h
theorem o_ret_bool {a b : Bool} (h : a = b) : Ending.returned (.bool a) = .returned (.bool b) := by rw [h]

/-- An event as a value. -/
def evV (e : Ev) : Value := .agg #[.int .i64 e.thread, .int .i64 e.kind, .int .i64 e.obj, .int .i64 e.value]

theorem leads_mk (t k o v t' k' o' v' : Int) : leads ⟨t, k, o, v⟩ ⟨t', k', o', v'⟩ = (t == t' || (k == 6 && k' == 5 && o == o') || (k == 4 && k' == 3 && o == o') || (k == 7 && o == t') || (k' == 8 && o' == t)) := rfl

theorem access_mk (t k o v : Int) : access ⟨t, k, o, v⟩ = (k == 1 || k == 2) := rfl
theorem conflict_mk (t k o v t' k' o' v' : Int) : conflict ⟨t, k, o, v⟩ ⟨t', k', o', v'⟩ = (access ⟨t, k, o, v⟩ && access ⟨t', k', o', v'⟩ && o == o' && t != t' && (k == 2 || k' == 2)) := rfl

end Go.Proofs.YtiaedjnedoemoabDoor
