import Derived.Lib.TrailingZeros
import Derived.Shelf.Spec.TrailingZeros
import Derived.WalkKit
import Derived.ProofKit
namespace Go.Proofs.YtiaedjnedoemoabDoor
open Go.RowKit Go.Shelf

/-- The table of the lowest bits lies in its variable. -/
def Tab (w : World) : Prop := TabAt 0 Lib.deBruijn64tab w
theorem tab_below {w w' : World} (hT : Tab w) (hb : Below w.heap.size w w') : Tab w' := fun j hj => (hb.cell (p := ⟨0, j, none⟩) (World.block_lt_of_cell? _ _ (hT j hj))).trans (hT j hj)
end Go.Proofs.YtiaedjnedoemoabDoor
