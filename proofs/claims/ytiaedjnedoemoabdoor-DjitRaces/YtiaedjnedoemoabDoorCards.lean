/-
  DERIVED. GIVEN WITH THE SEED: THE CARDS: each row of YtiaedjnedoemoabDoorRows.lean that lists a variable, with what it lists TIED to the program's text (the seventh form; the later family's looks); each row that meets fmt, with fmt's text TOLD by the authors' own Lean function (tested against real Go, not proved from fmt's source: count such statements apart). THE CARD IS WHAT COUNTS. Prove the row's statement (the work); the ties are given (YtiaedjnedoemoabDoorTie.lean); close each card by the builder's one call (the guide's Derived/Test/ToyasCard.lean, 'card_holds'). Laid BY PROGRAM, IN A SANDBOX (cutbox-door.mjs). By AI agents, Wed Nov 11 2026. No macro, syntax, notation, axiom, sorry.
-/
import Derived.Test.YtiaedjnedoemoabDoorRows
import GoSem.ClaimSeven
namespace Go.Proofs.YtiaedjnedoemoabDoor
namespace Rows

/-- THE TIED CARD OF 'weavelaw05.DjitRaces'. -/
def djitRacesCard : Claim7 := { stood := { row := djitRacesRow, standIns := [], harness := (true, "d5dfba34ba00f9c4907da086063cce675f7afb6952437bbdba6c087a268ff67c"), looks := true }, kinds := [], alts := [], laidByText := true, laidKinds := [.data], laidTests := true, laidLooks := .later }
def DjitRacesCardSaid : Prop := Claim7.holds Tryd.pinned (.plain (OpenSpec.ofChange djitRacesSpec)) djitRacesCard

/-- THE SECOND FORM's CARD OF 'weavelaw05.DjitRaces'. -/
def djitRacesUptoCard : Claim7 := { stood := { row := djitRacesUptoRow, standIns := [], harness := (true, "d5dfba34ba00f9c4907da086063cce675f7afb6952437bbdba6c087a268ff67c"), looks := true }, kinds := [], alts := [], laidByText := true, laidKinds := [.data], laidTests := true, laidLooks := .later }
def DjitRacesUptoCardSaid : Prop := Claim7.holds Tryd.pinned (.plain (OpenSpec.upto djitRacesSpec)) djitRacesUptoCard
end Rows
end Go.Proofs.YtiaedjnedoemoabDoor
