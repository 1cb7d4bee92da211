/-
  DERIVED. GIVEN WITH THE SEED: THE CARDS: each row of YtlpdomgedaockaaGreatDoorRows.lean that lists a variable, with what it lists TIED to the program's text (the seventh form; the later family's looks); each row that meets fmt, with fmt's text TOLD by the authors' own Lean function (tested against real Go, not proved from fmt's source: count such statements apart). THE CARD IS WHAT COUNTS. Prove the row's statement (the work); the ties are given (YtlpdomgedaockaaGreatDoorTie.lean); close each card by the builder's one call (the guide's Derived/Test/ToyasCard.lean, 'card_holds'). Laid BY PROGRAM, IN A SANDBOX (cutbox-door.mjs). By AI agents, Wed Nov 11 2026. No macro, syntax, notation, axiom, sorry.
-/
import Derived.Test.YtlpdomgedaockaaGreatDoorRows
import GoSem.ClaimSeven
namespace Go.Proofs.YtlpdomgedaockaaGreatDoor
namespace Rows

/-- THE TIED CARD OF 'weavelaw03.OrderLocks'. -/
def orderLocksCard : Claim7 := { stood := { row := orderLocksRow, standIns := [], harness := (true, "1d99687c608468909dc5a06495be37989e832e1a71f1144f311ec44e061b3bd1"), looks := true }, kinds := [], alts := [], laidByText := true, laidKinds := [.data, .data, .data, .data, .sentinel, .sentinel, .data, .data, .pinned], laidTests := true, laidLooks := .later }
def OrderLocksCardSaid : Prop := Claim7.holds Tryz.pinned (.plain (OpenSpec.ofChange orderLocksSpec)) orderLocksCard

/-- THE SECOND FORM's CARD OF 'weavelaw03.OrderLocks'. -/
def orderLocksUptoCard : Claim7 := { stood := { row := orderLocksUptoRow, standIns := [], harness := (true, "1d99687c608468909dc5a06495be37989e832e1a71f1144f311ec44e061b3bd1"), looks := true }, kinds := [], alts := [], laidByText := true, laidKinds := [.data, .data, .data, .data, .sentinel, .sentinel, .data, .data, .pinned], laidTests := true, laidLooks := .later }
def OrderLocksUptoCardSaid : Prop := Claim7.holds Tryz.pinned (.plain (OpenSpec.upto orderLocksSpec)) orderLocksUptoCard
end Rows
end Go.Proofs.YtlpdomgedaockaaGreatDoor
