/-
  DERIVED. GIVEN WITH THE SEED: THE CARDS: each row of YtbajfapfpcjenaaGreatDoorRows.lean that lists a variable, with what it lists TIED to the program's text (the seventh form; the later family's looks); each row that meets fmt, with fmt's text TOLD by the authors' own Lean function (tested against real Go, not proved from fmt's source: count such statements apart). THE CARD IS WHAT COUNTS. Prove the row's statement (the work); the ties are given (YtbajfapfpcjenaaGreatDoorTie.lean); close each card by the builder's one call (the guide's Derived/Test/ToyasCard.lean, 'card_holds'). Laid BY PROGRAM, IN A SANDBOX (cutbox-door.mjs). By AI agents, Wed Nov 11 2026. No macro, syntax, notation, axiom, sorry.
-/
import Derived.Test.YtbajfapfpcjenaaGreatDoorRows
import GoSem.ClaimSeven
namespace Go.Proofs.YtbajfapfpcjenaaGreatDoor
namespace Rows

/-- THE TIED CARD OF 'weavelaw06.FastAgrees'. -/
def fastAgreesCard : Claim7 := { stood := { row := fastAgreesRow, standIns := [], harness := (true, "4cec510f31e73b2dd21b88c50030c1fd2684c4917a2b109030a88664161ef297"), looks := true }, kinds := [], alts := [], laidByText := true, laidKinds := [.data], laidTests := true, laidLooks := .later }
def FastAgreesCardSaid : Prop := Claim7.holds Tryz.pinned (.plain (OpenSpec.ofChange fastAgreesSpec)) fastAgreesCard

/-- THE SECOND FORM's CARD OF 'weavelaw06.FastAgrees'. -/
def fastAgreesUptoCard : Claim7 := { stood := { row := fastAgreesUptoRow, standIns := [], harness := (true, "4cec510f31e73b2dd21b88c50030c1fd2684c4917a2b109030a88664161ef297"), looks := true }, kinds := [], alts := [], laidByText := true, laidKinds := [.data], laidTests := true, laidLooks := .later }
def FastAgreesUptoCardSaid : Prop := Claim7.holds Tryz.pinned (.plain (OpenSpec.upto fastAgreesSpec)) fastAgreesUptoCard
end Rows
end Go.Proofs.YtbajfapfpcjenaaGreatDoor
