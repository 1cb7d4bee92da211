/-
  DERIVED. GIVEN WITH THE SEED: THE CARDS: each row of YtdcacoifehkioaaGreatDoorRows.lean that lists a variable, with what it lists TIED to the program's text (the seventh form; the later family's looks); each row that meets fmt, with fmt's text TOLD by the authors' own Lean function (tested against real Go, not proved from fmt's source: count such statements apart). THE CARD IS WHAT COUNTS. Prove the row's statement (the work); the ties are given (YtdcacoifehkioaaGreatDoorTie.lean); close each card by the builder's one call (the guide's Derived/Test/ToyasCard.lean, 'card_holds'). Laid BY PROGRAM, IN A SANDBOX (cutbox-door.mjs). By AI agents, Wed Nov 11 2026. No macro, syntax, notation, axiom, sorry.
-/
import Derived.Test.YtdcacoifehkioaaGreatDoorRows
import GoSem.ClaimSeven
namespace Go.Proofs.YtdcacoifehkioaaGreatDoor
namespace Rows

/-- THE TIED CARD OF 'weavelaw07.ExploreAll'. -/
def exploreAllCard : Claim7 := { stood := { row := exploreAllRow, standIns := [], harness := (true, "862da83d796895ece952c513011959eb7d1ea36771bd936f1dd1fcb005f9ad98"), looks := true }, kinds := [], alts := [], laidByText := true, laidKinds := [.data, .data, .data, .data, .sentinel, .sentinel, .data, .data, .sentinel, .sentinel, .pinned], laidTests := true, laidLooks := .later }
def ExploreAllCardSaid : Prop := Claim7.holds Tryz.pinned (.plain (OpenSpec.ofChange exploreAllSpec)) exploreAllCard

/-- THE TIED CARD OF 'weavelaw07.ExploreRuns'. -/
def exploreRunsCard : Claim7 := { stood := { row := exploreRunsRow, standIns := [], harness := (true, "862da83d796895ece952c513011959eb7d1ea36771bd936f1dd1fcb005f9ad98"), looks := true }, kinds := [], alts := [], laidByText := true, laidKinds := [.data, .data, .data, .data, .sentinel, .sentinel, .data, .data, .sentinel, .sentinel, .pinned], laidTests := true, laidLooks := .later }
def ExploreRunsCardSaid : Prop := Claim7.holds Tryz.pinned (.plain (OpenSpec.ofChange exploreRunsSpec)) exploreRunsCard

/-- THE TIED CARD OF 'weavelaw07.ExploreReach'. -/
def exploreReachCard : Claim7 := { stood := { row := exploreReachRow, standIns := [], harness := (true, "862da83d796895ece952c513011959eb7d1ea36771bd936f1dd1fcb005f9ad98"), looks := true }, kinds := [], alts := [], laidByText := true, laidKinds := [.data, .data, .data, .data, .sentinel, .sentinel, .data, .data, .sentinel, .sentinel, .pinned], laidTests := true, laidLooks := .later }
def ExploreReachCardSaid : Prop := Claim7.holds Tryz.pinned (.plain (OpenSpec.ofChange exploreReachSpec)) exploreReachCard

/-- THE SECOND FORM's CARD OF 'weavelaw07.ExploreAll'. -/
def exploreAllUptoCard : Claim7 := { stood := { row := exploreAllUptoRow, standIns := [], harness := (true, "862da83d796895ece952c513011959eb7d1ea36771bd936f1dd1fcb005f9ad98"), looks := true }, kinds := [], alts := [], laidByText := true, laidKinds := [.data, .data, .data, .data, .sentinel, .sentinel, .data, .data, .sentinel, .sentinel, .pinned], laidTests := true, laidLooks := .later }
def ExploreAllUptoCardSaid : Prop := Claim7.holds Tryz.pinned (.plain (OpenSpec.upto exploreAllSpec)) exploreAllUptoCard

/-- THE SECOND FORM's CARD OF 'weavelaw07.ExploreRuns'. -/
def exploreRunsUptoCard : Claim7 := { stood := { row := exploreRunsUptoRow, standIns := [], harness := (true, "862da83d796895ece952c513011959eb7d1ea36771bd936f1dd1fcb005f9ad98"), looks := true }, kinds := [], alts := [], laidByText := true, laidKinds := [.data, .data, .data, .data, .sentinel, .sentinel, .data, .data, .sentinel, .sentinel, .pinned], laidTests := true, laidLooks := .later }
def ExploreRunsUptoCardSaid : Prop := Claim7.holds Tryz.pinned (.plain (OpenSpec.upto exploreRunsSpec)) exploreRunsUptoCard

/-- THE SECOND FORM's CARD OF 'weavelaw07.ExploreReach'. -/
def exploreReachUptoCard : Claim7 := { stood := { row := exploreReachUptoRow, standIns := [], harness := (true, "862da83d796895ece952c513011959eb7d1ea36771bd936f1dd1fcb005f9ad98"), looks := true }, kinds := [], alts := [], laidByText := true, laidKinds := [.data, .data, .data, .data, .sentinel, .sentinel, .data, .data, .sentinel, .sentinel, .pinned], laidTests := true, laidLooks := .later }
def ExploreReachUptoCardSaid : Prop := Claim7.holds Tryz.pinned (.plain (OpenSpec.upto exploreReachSpec)) exploreReachUptoCard
end Rows
end Go.Proofs.YtdcacoifehkioaaGreatDoor
