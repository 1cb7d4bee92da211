/-
  DERIVED. GIVEN WITH THE SEED: THE CARDS: each row of YtcfpedjfofpnkaaGreatDoorRows.lean that lists a variable, with what it lists TIED to the program's text (the seventh form; the later family's looks); each row that meets fmt, with fmt's text TOLD by the authors' own Lean function (tested against real Go, not proved from fmt's source: count such statements apart). THE CARD IS WHAT COUNTS. Prove the row's statement (the work); the ties are given (YtcfpedjfofpnkaaGreatDoorTie.lean); close each card by the builder's one call (the guide's Derived/Test/ToyasCard.lean, 'card_holds'). Laid BY PROGRAM, IN A SANDBOX (cutbox-door.mjs). By AI agents, Wed Nov 11 2026. No macro, syntax, notation, axiom, sorry.
-/
import Derived.Test.YtcfpedjfofpnkaaGreatDoorRows
import GoSem.ClaimSeven
namespace Go.Proofs.YtcfpedjfofpnkaaGreatDoor
namespace Rows

/-- THE TIED CARD OF 'weavelaw02.RunSteps'. -/
def runStepsCard : Claim7 := { stood := { row := runStepsRow, standIns := [], harness := (true, "5d936fa0379f3cfe09bb7cf87055b55df73a90f67bcacb65068aced1e7f708df"), looks := true }, kinds := [], alts := [], laidByText := true, laidKinds := [.data, .data, .data, .data, .sentinel, .sentinel, .data, .data, .pinned], laidTests := true, laidLooks := .later }
def RunStepsCardSaid : Prop := Claim7.holds Tryz.pinned (.plain (OpenSpec.ofChange runStepsSpec)) runStepsCard

/-- THE TIED CARD OF 'weavelaw02.RunRuns'. -/
def runRunsCard : Claim7 := { stood := { row := runRunsRow, standIns := [], harness := (true, "5d936fa0379f3cfe09bb7cf87055b55df73a90f67bcacb65068aced1e7f708df"), looks := true }, kinds := [], alts := [], laidByText := true, laidKinds := [.data, .data, .data, .data, .sentinel, .sentinel, .data, .data, .pinned], laidTests := true, laidLooks := .later }
def RunRunsCardSaid : Prop := Claim7.holds Tryz.pinned (.plain (OpenSpec.ofChange runRunsSpec)) runRunsCard

/-- THE TIED CARD OF 'weavelaw02.RunCopies'. -/
def runCopiesCard : Claim7 := { stood := { row := runCopiesRow, standIns := [], harness := (true, "5d936fa0379f3cfe09bb7cf87055b55df73a90f67bcacb65068aced1e7f708df"), looks := true }, kinds := [], alts := [], laidByText := true, laidKinds := [.data, .data, .data, .data, .sentinel, .sentinel, .data, .data, .pinned], laidTests := true, laidLooks := .later }
def RunCopiesCardSaid : Prop := Claim7.holds Tryz.pinned (.plain (OpenSpec.ofChange runCopiesSpec)) runCopiesCard

/-- THE TIED CARD OF 'weavelaw02.RunSound'. -/
def runSoundCard : Claim7 := { stood := { row := runSoundRow, standIns := [], harness := (true, "5d936fa0379f3cfe09bb7cf87055b55df73a90f67bcacb65068aced1e7f708df"), looks := true }, kinds := [], alts := [], laidByText := true, laidKinds := [.data, .data, .data, .data, .sentinel, .sentinel, .data, .data, .pinned], laidTests := true, laidLooks := .later }
def RunSoundCardSaid : Prop := Claim7.holds Tryz.pinned (.plain (OpenSpec.ofChange runSoundSpec)) runSoundCard

/-- THE SECOND FORM's CARD OF 'weavelaw02.RunSteps'. -/
def runStepsUptoCard : Claim7 := { stood := { row := runStepsUptoRow, standIns := [], harness := (true, "5d936fa0379f3cfe09bb7cf87055b55df73a90f67bcacb65068aced1e7f708df"), looks := true }, kinds := [], alts := [], laidByText := true, laidKinds := [.data, .data, .data, .data, .sentinel, .sentinel, .data, .data, .pinned], laidTests := true, laidLooks := .later }
def RunStepsUptoCardSaid : Prop := Claim7.holds Tryz.pinned (.plain (OpenSpec.upto runStepsSpec)) runStepsUptoCard

/-- THE SECOND FORM's CARD OF 'weavelaw02.RunRuns'. -/
def runRunsUptoCard : Claim7 := { stood := { row := runRunsUptoRow, standIns := [], harness := (true, "5d936fa0379f3cfe09bb7cf87055b55df73a90f67bcacb65068aced1e7f708df"), looks := true }, kinds := [], alts := [], laidByText := true, laidKinds := [.data, .data, .data, .data, .sentinel, .sentinel, .data, .data, .pinned], laidTests := true, laidLooks := .later }
def RunRunsUptoCardSaid : Prop := Claim7.holds Tryz.pinned (.plain (OpenSpec.upto runRunsSpec)) runRunsUptoCard

/-- THE SECOND FORM's CARD OF 'weavelaw02.RunCopies'. -/
def runCopiesUptoCard : Claim7 := { stood := { row := runCopiesUptoRow, standIns := [], harness := (true, "5d936fa0379f3cfe09bb7cf87055b55df73a90f67bcacb65068aced1e7f708df"), looks := true }, kinds := [], alts := [], laidByText := true, laidKinds := [.data, .data, .data, .data, .sentinel, .sentinel, .data, .data, .pinned], laidTests := true, laidLooks := .later }
def RunCopiesUptoCardSaid : Prop := Claim7.holds Tryz.pinned (.plain (OpenSpec.upto runCopiesSpec)) runCopiesUptoCard

/-- THE SECOND FORM's CARD OF 'weavelaw02.RunSound'. -/
def runSoundUptoCard : Claim7 := { stood := { row := runSoundUptoRow, standIns := [], harness := (true, "5d936fa0379f3cfe09bb7cf87055b55df73a90f67bcacb65068aced1e7f708df"), looks := true }, kinds := [], alts := [], laidByText := true, laidKinds := [.data, .data, .data, .data, .sentinel, .sentinel, .data, .data, .pinned], laidTests := true, laidLooks := .later }
def RunSoundUptoCardSaid : Prop := Claim7.holds Tryz.pinned (.plain (OpenSpec.upto runSoundSpec)) runSoundUptoCard
end Rows
end Go.Proofs.YtcfpedjfofpnkaaGreatDoor
