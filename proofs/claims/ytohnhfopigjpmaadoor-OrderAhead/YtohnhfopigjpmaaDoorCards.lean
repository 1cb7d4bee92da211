/-
  DERIVED. GIVEN WITH THE SEED: THE CARDS: each row of YtohnhfopigjpmaaDoorRows.lean that lists a variable, with what it lists TIED to the program's text (the seventh form; the later family's looks); each row that meets fmt, with fmt's text TOLD by the authors' own Lean function (tested against real Go, not proved from fmt's source: count such statements apart). THE CARD IS WHAT COUNTS. Prove the row's statement (the work); the ties are given (YtohnhfopigjpmaaDoorTie.lean); close each card by the builder's one call (the guide's Derived/Test/ToyasCard.lean, 'card_holds'). Laid BY PROGRAM, IN A SANDBOX (cutbox-door.mjs). By AI agents, Wed Nov 11 2026. No macro, syntax, notation, axiom, sorry.
-/
import Derived.Test.YtohnhfopigjpmaaDoorRows
import GoSem.ClaimSeven
namespace Go.Proofs.YtohnhfopigjpmaaDoor
namespace Rows

/-- THE TIED CARD OF 'weavelaw03.OrderAll'. -/
def orderAllCard : Claim7 := { stood := { row := orderAllRow, standIns := [], harness := (true, "631579b72c3daf26ebdb3d27f6c98cd2820c649855b1ef4bd5e6c9152c882afd"), looks := false }, kinds := [], alts := [], laidByText := true, laidKinds := [.data], laidTests := true, laidLooks := .later }
def OrderAllCardSaid : Prop := Claim7.holds Tryd.pinned (.plain (OpenSpec.ofChange orderAllSpec)) orderAllCard

/-- THE TIED CARD OF 'weavelaw03.OrderLaws'. -/
def orderLawsCard : Claim7 := { stood := { row := orderLawsRow, standIns := [], harness := (true, "631579b72c3daf26ebdb3d27f6c98cd2820c649855b1ef4bd5e6c9152c882afd"), looks := false }, kinds := [], alts := [], laidByText := true, laidKinds := [.data], laidTests := true, laidLooks := .later }
def OrderLawsCardSaid : Prop := Claim7.holds Tryd.pinned (.plain (OpenSpec.ofChange orderLawsSpec)) orderLawsCard

/-- THE TIED CARD OF 'weavelaw03.OrderAhead'. -/
def orderAheadCard : Claim7 := { stood := { row := orderAheadRow, standIns := [], harness := (true, "631579b72c3daf26ebdb3d27f6c98cd2820c649855b1ef4bd5e6c9152c882afd"), looks := false }, kinds := [], alts := [], laidByText := true, laidKinds := [.data], laidTests := true, laidLooks := .later }
def OrderAheadCardSaid : Prop := Claim7.holds Tryd.pinned (.plain (OpenSpec.ofChange orderAheadSpec)) orderAheadCard

/-- THE SECOND FORM's CARD OF 'weavelaw03.OrderAll'. -/
def orderAllUptoCard : Claim7 := { stood := { row := orderAllUptoRow, standIns := [], harness := (true, "631579b72c3daf26ebdb3d27f6c98cd2820c649855b1ef4bd5e6c9152c882afd"), looks := false }, kinds := [], alts := [], laidByText := true, laidKinds := [.data], laidTests := true, laidLooks := .later }
def OrderAllUptoCardSaid : Prop := Claim7.holds Tryd.pinned (.plain (OpenSpec.upto orderAllSpec)) orderAllUptoCard

/-- THE SECOND FORM's CARD OF 'weavelaw03.OrderLaws'. -/
def orderLawsUptoCard : Claim7 := { stood := { row := orderLawsUptoRow, standIns := [], harness := (true, "631579b72c3daf26ebdb3d27f6c98cd2820c649855b1ef4bd5e6c9152c882afd"), looks := false }, kinds := [], alts := [], laidByText := true, laidKinds := [.data], laidTests := true, laidLooks := .later }
def OrderLawsUptoCardSaid : Prop := Claim7.holds Tryd.pinned (.plain (OpenSpec.upto orderLawsSpec)) orderLawsUptoCard

/-- THE SECOND FORM's CARD OF 'weavelaw03.OrderAhead'. -/
def orderAheadUptoCard : Claim7 := { stood := { row := orderAheadUptoRow, standIns := [], harness := (true, "631579b72c3daf26ebdb3d27f6c98cd2820c649855b1ef4bd5e6c9152c882afd"), looks := false }, kinds := [], alts := [], laidByText := true, laidKinds := [.data], laidTests := true, laidLooks := .later }
def OrderAheadUptoCardSaid : Prop := Claim7.holds Tryd.pinned (.plain (OpenSpec.upto orderAheadSpec)) orderAheadUptoCard
end Rows
end Go.Proofs.YtohnhfopigjpmaaDoor
