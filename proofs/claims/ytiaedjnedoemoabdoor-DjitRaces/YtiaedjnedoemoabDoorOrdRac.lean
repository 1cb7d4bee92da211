import Derived.Test.YtiaedjnedoemoabDoorOrdGen
import Derived.Test.YtiaedjnedoemoabDoorTab
namespace Go.Proofs.YtiaedjnedoemoabDoor
open Go.RowKit Go.Proofs.Ord

/-- What the program's Races answers. -/
def RacesSaid : Prop := ∀ (a : Option Addr) (n cap : Nat) (l : List Ev) (w : World), l.length = n → EvS w a l → n ≤ cap → cap ≤ maxLen → n ≤ 1048576 → Tab w →
  Calls Tryd.prog 6 #[.slice a n cap] w fun e w' => ∃ v, e = .returned v ∧ PairNew w.heap.size w' v (racesTo (ev l) n) ∧ Below w.heap.size w w'
end Go.Proofs.YtiaedjnedoemoabDoor
