/-
  No cell of these rows narrows 'for every input' (looked for: loops, veiled, ifaces, maps, wideKeys, modest, calm, conditions, laid).
  DERIVED. THE GIVEN ROWS OF THIS SEAT. 5 by the template 'for every input the law returns true; each argument reads behind the call as it read before'; 0 by the template 'total and deterministic' (their statements: YtbajfapfpcjenaaTotals.lean).
  GIVEN WITH THE SEED: the statements are not yours to turn. If you find one false, say at which input.
  Laid BY PROGRAM, IN A SANDBOX (cutbox-rows.mjs): the forced cells as the released guide's own fill.sh prints them over the translation ef4224ae7aa9bd5c… (all of the seat's roots in one cut). By AI agents, Wed Nov 11 2026. No macro, syntax, notation, axiom, sorry.
-/
import Derived.Test.YtbajfapfpcjenaaChecked
import GoSem.Claim
import GoSem.ClaimJoined
import GoSem.ClaimMapViews
import Derived.JoinedTies
import Derived.KernelRfl
namespace Go.Proofs.Ytbajfapfpcjenaa
/- THE CELL 'sum', in the pinned program and in every row, IS THE sha256 OF THE DUMP (.gsa) THAT YtbajfapfpcjenaaProg.lean LOADS. Nothing in Lean hashes anything: it is a label: what it is worth is what the hold of that sum in a sandbox is worth. -/
noncomputable def Try.pinned : Pinned := { name := "ytbajfapfpcjenaa", sum := "ef4224ae7aa9bd5c30bda1ac777b5a52868501c47a5c66cac62727f3ed3a80da", checked := Try.checked }
namespace Rows
def none {H : Type} : Left H := { results := [], args := [] }

/-- 'weavelaw05.DjitStamps': WHATEVER THE INPUT: true; the input reads as it did. -/
def djitStampsSpec : ChangeSpec := { name := "djitStamps", fn := fun _ => fun
  | [d1, d2] => { results := [.lit (.bool true)], args := [d1, d2] }
  | _ => none }
def djitStampsRow : OpenClaim := { program := "ytbajfapfpcjenaa", sum := "ef4224ae7aa9bd5c30bda1ac777b5a52868501c47a5c66cac62727f3ed3a80da", func := "weave/weavelaw05.DjitStamps", spec := "djitStamps", inPlace := ["maps.clone"], unfollowed := true, recurses := true, plainKeys := false, apart := false }
def DjitStampsSaid : Prop := djitStampsRow.holds Try.pinned (OpenSpec.ofChange djitStampsSpec)

/-- ITS FALSE NEIGHBOUR: 'it returns false'. Refute it at one input. -/
def djitStampsWrong : ChangeSpec := { name := "djitStamps", fn := fun _ => fun
  | [d1, d2] => { results := [.lit (.bool false)], args := [d1, d2] }
  | _ => none }
def DjitStampsWrongFalsely : Prop := djitStampsRow.holds Try.pinned (OpenSpec.ofChange djitStampsWrong)

/-- 'weavelaw05.DjitRacy': WHATEVER THE INPUT: true; the input reads as it did. -/
def djitRacySpec : ChangeSpec := { name := "djitRacy", fn := fun _ => fun
  | [d] => { results := [.lit (.bool true)], args := [d] }
  | _ => none }
def djitRacyRow : OpenClaim := { program := "ytbajfapfpcjenaa", sum := "ef4224ae7aa9bd5c30bda1ac777b5a52868501c47a5c66cac62727f3ed3a80da", func := "weave/weavelaw05.DjitRacy", spec := "djitRacy", inPlace := ["maps.clone"], unfollowed := true, recurses := true, plainKeys := false, apart := false }
def DjitRacySaid : Prop := djitRacyRow.holds Try.pinned (OpenSpec.ofChange djitRacySpec)

/-- ITS FALSE NEIGHBOUR: 'it returns false'. Refute it at one input. -/
def djitRacyWrong : ChangeSpec := { name := "djitRacy", fn := fun _ => fun
  | [d] => { results := [.lit (.bool false)], args := [d] }
  | _ => none }
def DjitRacyWrongFalsely : Prop := djitRacyRow.holds Try.pinned (OpenSpec.ofChange djitRacyWrong)

/-- 'weavelaw05.DjitTells': WHATEVER THE INPUT: true; the input reads as it did. -/
def djitTellsSpec : ChangeSpec := { name := "djitTells", fn := fun _ => fun
  | [d] => { results := [.lit (.bool true)], args := [d] }
  | _ => none }
def djitTellsRow : OpenClaim := { program := "ytbajfapfpcjenaa", sum := "ef4224ae7aa9bd5c30bda1ac777b5a52868501c47a5c66cac62727f3ed3a80da", func := "weave/weavelaw05.DjitTells", spec := "djitTells", inPlace := ["maps.clone"], unfollowed := true, recurses := true, plainKeys := false, apart := false }
def DjitTellsSaid : Prop := djitTellsRow.holds Try.pinned (OpenSpec.ofChange djitTellsSpec)

/-- ITS FALSE NEIGHBOUR: 'it returns false'. Refute it at one input. -/
def djitTellsWrong : ChangeSpec := { name := "djitTells", fn := fun _ => fun
  | [d] => { results := [.lit (.bool false)], args := [d] }
  | _ => none }
def DjitTellsWrongFalsely : Prop := djitTellsRow.holds Try.pinned (OpenSpec.ofChange djitTellsWrong)

/-- 'weavelaw06.FastSees': WHATEVER THE INPUT: true; the input reads as it did. -/
def fastSeesSpec : ChangeSpec := { name := "fastSees", fn := fun _ => fun
  | [d1, d2] => { results := [.lit (.bool true)], args := [d1, d2] }
  | _ => none }
def fastSeesRow : OpenClaim := { program := "ytbajfapfpcjenaa", sum := "ef4224ae7aa9bd5c30bda1ac777b5a52868501c47a5c66cac62727f3ed3a80da", func := "weave/weavelaw06.FastSees", spec := "fastSees", inPlace := ["maps.clone"], unfollowed := true, recurses := true, plainKeys := false, apart := false }
def FastSeesSaid : Prop := fastSeesRow.holds Try.pinned (OpenSpec.ofChange fastSeesSpec)

/-- ITS FALSE NEIGHBOUR: 'it returns false'. Refute it at one input. -/
def fastSeesWrong : ChangeSpec := { name := "fastSees", fn := fun _ => fun
  | [d1, d2] => { results := [.lit (.bool false)], args := [d1, d2] }
  | _ => none }
def FastSeesWrongFalsely : Prop := fastSeesRow.holds Try.pinned (OpenSpec.ofChange fastSeesWrong)

/-- 'weavelaw06.FastFirst': WHATEVER THE INPUT: true; the input reads as it did. -/
def fastFirstSpec : ChangeSpec := { name := "fastFirst", fn := fun _ => fun
  | [d1, d2] => { results := [.lit (.bool true)], args := [d1, d2] }
  | _ => none }
def fastFirstRow : OpenClaim := { program := "ytbajfapfpcjenaa", sum := "ef4224ae7aa9bd5c30bda1ac777b5a52868501c47a5c66cac62727f3ed3a80da", func := "weave/weavelaw06.FastFirst", spec := "fastFirst", inPlace := ["maps.clone"], unfollowed := true, recurses := true, plainKeys := false, apart := false }
def FastFirstSaid : Prop := fastFirstRow.holds Try.pinned (OpenSpec.ofChange fastFirstSpec)

/-- ITS FALSE NEIGHBOUR: 'it returns false'. Refute it at one input. -/
def fastFirstWrong : ChangeSpec := { name := "fastFirst", fn := fun _ => fun
  | [d1, d2] => { results := [.lit (.bool false)], args := [d1, d2] }
  | _ => none }
def FastFirstWrongFalsely : Prop := fastFirstRow.holds Try.pinned (OpenSpec.ofChange fastFirstWrong)

/- THE SECOND FORM. 'bulk': how many values and letters a reading holds, each counted each time it is reached (what is shared counts as often as it is met; a slice's spare places count too). A statement '..UptoSaid' is the law's where the arguments, and the package variables that the reading takes, are together of bulk at most 1048576: NARROWER than '..Said'. Prove '..Said' where nothing that the law and all that it calls make is longer than what came in: it says more and counts as full. Else prove '..UptoSaid'. A law counts once. -/
mutual
def uptoBulk {H : Type} : DataW H → Nat
  | .lit (.string bytes) => bytes.length + 1
  | .lit _ => 1
  | .nil => 1
  | .ptr d => uptoBulk d + 1
  | .slice elems spare => uptoBulkAll elems + uptoBulkAll spare + 1
  | .agg parts => uptoBulkAll parts + 1
  | .iface _ d => uptoBulk d + 1
  | .map entries => uptoBulkEntries entries + 1
  | .held _ => 1
def uptoBulkAll {H : Type} : List (DataW H) → Nat
  | [] => 0
  | d :: r => uptoBulk d + uptoBulkAll r
def uptoBulkEntries {H : Type} : List (Lit × DataW H) → Nat
  | [] => 0
  | x :: r => uptoBulkEntry x + uptoBulkEntries r
def uptoBulkEntry {H : Type} : Lit × DataW H → Nat
  | (.string bytes, d) => bytes.length + uptoBulk d + 1
  | (_, d) => uptoBulk d + 1
 end
def uptoSmall : (H : Type) → List (DataW H) → Bool := fun _ ds => decide (uptoBulkAll ds ≤ 1048576)
def OpenSpec.upto (s : _root_.Go.ChangeSpec) : _root_.Go.OpenSpec := { _root_.Go.OpenSpec.ofChange s with cond := some uptoSmall }

/-- 'weavelaw05.DjitStamps', WHERE WHAT IT READS IS OF BULK AT MOST 1048576: true; the input reads as it did. -/
def djitStampsUptoRow : OpenClaim := { program := "ytbajfapfpcjenaa", sum := "ef4224ae7aa9bd5c30bda1ac777b5a52868501c47a5c66cac62727f3ed3a80da", func := "weave/weavelaw05.DjitStamps", spec := "djitStamps", inPlace := ["maps.clone"], unfollowed := true, recurses := true, plainKeys := false, apart := false, narrowed := true }
def DjitStampsUptoSaid : Prop := djitStampsUptoRow.holds Try.pinned (OpenSpec.upto djitStampsSpec)

/-- 'weavelaw05.DjitRacy', WHERE WHAT IT READS IS OF BULK AT MOST 1048576: true; the input reads as it did. -/
def djitRacyUptoRow : OpenClaim := { program := "ytbajfapfpcjenaa", sum := "ef4224ae7aa9bd5c30bda1ac777b5a52868501c47a5c66cac62727f3ed3a80da", func := "weave/weavelaw05.DjitRacy", spec := "djitRacy", inPlace := ["maps.clone"], unfollowed := true, recurses := true, plainKeys := false, apart := false, narrowed := true }
def DjitRacyUptoSaid : Prop := djitRacyUptoRow.holds Try.pinned (OpenSpec.upto djitRacySpec)

/-- 'weavelaw05.DjitTells', WHERE WHAT IT READS IS OF BULK AT MOST 1048576: true; the input reads as it did. -/
def djitTellsUptoRow : OpenClaim := { program := "ytbajfapfpcjenaa", sum := "ef4224ae7aa9bd5c30bda1ac777b5a52868501c47a5c66cac62727f3ed3a80da", func := "weave/weavelaw05.DjitTells", spec := "djitTells", inPlace := ["maps.clone"], unfollowed := true, recurses := true, plainKeys := false, apart := false, narrowed := true }
def DjitTellsUptoSaid : Prop := djitTellsUptoRow.holds Try.pinned (OpenSpec.upto djitTellsSpec)

/-- 'weavelaw06.FastSees', WHERE WHAT IT READS IS OF BULK AT MOST 1048576: true; the input reads as it did. -/
def fastSeesUptoRow : OpenClaim := { program := "ytbajfapfpcjenaa", sum := "ef4224ae7aa9bd5c30bda1ac777b5a52868501c47a5c66cac62727f3ed3a80da", func := "weave/weavelaw06.FastSees", spec := "fastSees", inPlace := ["maps.clone"], unfollowed := true, recurses := true, plainKeys := false, apart := false, narrowed := true }
def FastSeesUptoSaid : Prop := fastSeesUptoRow.holds Try.pinned (OpenSpec.upto fastSeesSpec)

/-- 'weavelaw06.FastFirst', WHERE WHAT IT READS IS OF BULK AT MOST 1048576: true; the input reads as it did. -/
def fastFirstUptoRow : OpenClaim := { program := "ytbajfapfpcjenaa", sum := "ef4224ae7aa9bd5c30bda1ac777b5a52868501c47a5c66cac62727f3ed3a80da", func := "weave/weavelaw06.FastFirst", spec := "fastFirst", inPlace := ["maps.clone"], unfollowed := true, recurses := true, plainKeys := false, apart := false, narrowed := true }
def FastFirstUptoSaid : Prop := fastFirstUptoRow.holds Try.pinned (OpenSpec.upto fastFirstSpec)

end Rows
end Go.Proofs.Ytbajfapfpcjenaa
