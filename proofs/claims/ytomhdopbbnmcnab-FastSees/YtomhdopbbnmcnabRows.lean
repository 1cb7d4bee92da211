/-
  No cell of these rows narrows 'for every input' (looked for: loops, veiled, ifaces, maps, wideKeys, modest, calm, conditions, laid).
  DERIVED. THE GIVEN ROWS OF THIS SEAT. 7 by the template 'for every input the law returns true; each argument reads behind the call as it read before'; 0 by the template 'total and deterministic' (their statements: YtomhdopbbnmcnabTotals.lean).
  GIVEN WITH THE SEED: the statements are not yours to turn. If you find one false, say at which input.
  Laid BY PROGRAM, IN A SANDBOX (cutbox-rows.mjs): the forced cells as the released guide's own fill.sh prints them over the translation 39b27371ddeca2f9… (all of the seat's roots in one cut). By AI agents, Wed Nov 11 2026. No macro, syntax, notation, axiom, sorry.
-/
import Derived.Test.YtomhdopbbnmcnabChecked
import GoSem.Claim
import GoSem.ClaimJoined
import GoSem.ClaimMapViews
import Derived.JoinedTies
import Derived.KernelRfl
namespace Go.Proofs.Ytomhdopbbnmcnab
/- THE CELL 'sum', in the pinned program and in every row, IS THE sha256 OF THE DUMP (.gsa) THAT YtomhdopbbnmcnabProg.lean LOADS. Nothing in Lean hashes anything: it is a label: what it is worth is what the hold of that sum in a sandbox is worth. -/
noncomputable def Try.pinned : Pinned := { name := "ytomhdopbbnmcnab", sum := "39b27371ddeca2f93d72c706d544e4d613e221a19453a952cf58340d21493917", checked := Try.checked }
namespace Rows
def none {H : Type} : Left H := { results := [], args := [] }

/-- 'weavelaw04.ClockAll': WHATEVER THE INPUT: true; the input reads as it did. -/
def clockAllSpec : ChangeSpec := { name := "clockAll", fn := fun _ => fun
  | [d1, d2, d3] => { results := [.lit (.bool true)], args := [d1, d2, d3] }
  | _ => none }
def clockAllRow : OpenClaim := { program := "ytomhdopbbnmcnab", sum := "39b27371ddeca2f93d72c706d544e4d613e221a19453a952cf58340d21493917", func := "weave/weavelaw04.ClockAll", spec := "clockAll", unfollowed := true, recurses := true, plainKeys := false, apart := false }
def ClockAllSaid : Prop := clockAllRow.holds Try.pinned (OpenSpec.ofChange clockAllSpec)

/-- ITS FALSE NEIGHBOUR: 'it returns false'. Refute it at one input. -/
def clockAllWrong : ChangeSpec := { name := "clockAll", fn := fun _ => fun
  | [d1, d2, d3] => { results := [.lit (.bool false)], args := [d1, d2, d3] }
  | _ => none }
def ClockAllWrongFalsely : Prop := clockAllRow.holds Try.pinned (OpenSpec.ofChange clockAllWrong)

/-- 'weavelaw04.ClockLaws': WHATEVER THE INPUT: true; the input reads as it did. -/
def clockLawsSpec : ChangeSpec := { name := "clockLaws", fn := fun _ => fun
  | [d1, d2, d3, d4] => { results := [.lit (.bool true)], args := [d1, d2, d3, d4] }
  | _ => none }
def clockLawsRow : OpenClaim := { program := "ytomhdopbbnmcnab", sum := "39b27371ddeca2f93d72c706d544e4d613e221a19453a952cf58340d21493917", func := "weave/weavelaw04.ClockLaws", spec := "clockLaws", unfollowed := true, recurses := true, plainKeys := false, apart := false }
def ClockLawsSaid : Prop := clockLawsRow.holds Try.pinned (OpenSpec.ofChange clockLawsSpec)

/-- ITS FALSE NEIGHBOUR: 'it returns false'. Refute it at one input. -/
def clockLawsWrong : ChangeSpec := { name := "clockLaws", fn := fun _ => fun
  | [d1, d2, d3, d4] => { results := [.lit (.bool false)], args := [d1, d2, d3, d4] }
  | _ => none }
def ClockLawsWrongFalsely : Prop := clockLawsRow.holds Try.pinned (OpenSpec.ofChange clockLawsWrong)

/-- 'weavelaw05.DjitStamps': WHATEVER THE INPUT: true; the input reads as it did. -/
def djitStampsSpec : ChangeSpec := { name := "djitStamps", fn := fun _ => fun
  | [d1, d2] => { results := [.lit (.bool true)], args := [d1, d2] }
  | _ => none }
def djitStampsRow : OpenClaim := { program := "ytomhdopbbnmcnab", sum := "39b27371ddeca2f93d72c706d544e4d613e221a19453a952cf58340d21493917", func := "weave/weavelaw05.DjitStamps", spec := "djitStamps", inPlace := ["maps.clone"], unfollowed := true, recurses := true, plainKeys := false, apart := false }
def DjitStampsSaid : Prop := djitStampsRow.holds Try.pinned (OpenSpec.ofChange djitStampsSpec)

/-- ITS FALSE NEIGHBOUR: 'it returns false'. Refute it at one input. -/
def djitStampsWrong : ChangeSpec := { name := "djitStamps", fn := fun _ => fun
  | [d1, d2] => { results := [.lit (.bool false)], args := [d1, d2] }
  | _ => none }
def DjitStampsWrongFalsely : Prop := djitStampsRow.holds Try.pinned (OpenSpec.ofChange djitStampsWrong)

/-- 'weavelaw05.DjitRacy': WHATEVER THE INPUT: true; the input reads as it did. -/
def djitRacySpec : ChangeSpec := { name := "djitRacy", fn := fun _ => fun
  | [d] => { results := [.lit (.bool true)], args := [d] }
  | _ => none }
def djitRacyRow : OpenClaim := { program := "ytomhdopbbnmcnab", sum := "39b27371ddeca2f93d72c706d544e4d613e221a19453a952cf58340d21493917", func := "weave/weavelaw05.DjitRacy", spec := "djitRacy", inPlace := ["maps.clone"], unfollowed := true, recurses := true, plainKeys := false, apart := false }
def DjitRacySaid : Prop := djitRacyRow.holds Try.pinned (OpenSpec.ofChange djitRacySpec)

/-- ITS FALSE NEIGHBOUR: 'it returns false'. Refute it at one input. -/
def djitRacyWrong : ChangeSpec := { name := "djitRacy", fn := fun _ => fun
  | [d] => { results := [.lit (.bool false)], args := [d] }
  | _ => none }
def DjitRacyWrongFalsely : Prop := djitRacyRow.holds Try.pinned (OpenSpec.ofChange djitRacyWrong)

/-- 'weavelaw05.DjitTells': WHATEVER THE INPUT: true; the input reads as it did. -/
def djitTellsSpec : ChangeSpec := { name := "djitTells", fn := fun _ => fun
  | [d] => { results := [.lit (.bool true)], args := [d] }
  | _ => none }
def djitTellsRow : OpenClaim := { program := "ytomhdopbbnmcnab", sum := "39b27371ddeca2f93d72c706d544e4d613e221a19453a952cf58340d21493917", func := "weave/weavelaw05.DjitTells", spec := "djitTells", inPlace := ["maps.clone"], unfollowed := true, recurses := true, plainKeys := false, apart := false }
def DjitTellsSaid : Prop := djitTellsRow.holds Try.pinned (OpenSpec.ofChange djitTellsSpec)

/-- ITS FALSE NEIGHBOUR: 'it returns false'. Refute it at one input. -/
def djitTellsWrong : ChangeSpec := { name := "djitTells", fn := fun _ => fun
  | [d] => { results := [.lit (.bool false)], args := [d] }
  | _ => none }
def DjitTellsWrongFalsely : Prop := djitTellsRow.holds Try.pinned (OpenSpec.ofChange djitTellsWrong)

/-- 'weavelaw06.FastSees': WHATEVER THE INPUT: true; the input reads as it did. -/
def fastSeesSpec : ChangeSpec := { name := "fastSees", fn := fun _ => fun
  | [d1, d2] => { results := [.lit (.bool true)], args := [d1, d2] }
  | _ => none }
def fastSeesRow : OpenClaim := { program := "ytomhdopbbnmcnab", sum := "39b27371ddeca2f93d72c706d544e4d613e221a19453a952cf58340d21493917", func := "weave/weavelaw06.FastSees", spec := "fastSees", inPlace := ["maps.clone"], unfollowed := true, recurses := true, plainKeys := false, apart := false }
def FastSeesSaid : Prop := fastSeesRow.holds Try.pinned (OpenSpec.ofChange fastSeesSpec)

/-- ITS FALSE NEIGHBOUR: 'it returns false'. Refute it at one input. -/
def fastSeesWrong : ChangeSpec := { name := "fastSees", fn := fun _ => fun
  | [d1, d2] => { results := [.lit (.bool false)], args := [d1, d2] }
  | _ => none }
def FastSeesWrongFalsely : Prop := fastSeesRow.holds Try.pinned (OpenSpec.ofChange fastSeesWrong)

/-- 'weavelaw06.FastFirst': WHATEVER THE INPUT: true; the input reads as it did. -/
def fastFirstSpec : ChangeSpec := { name := "fastFirst", fn := fun _ => fun
  | [d1, d2] => { results := [.lit (.bool true)], args := [d1, d2] }
  | _ => none }
def fastFirstRow : OpenClaim := { program := "ytomhdopbbnmcnab", sum := "39b27371ddeca2f93d72c706d544e4d613e221a19453a952cf58340d21493917", func := "weave/weavelaw06.FastFirst", spec := "fastFirst", inPlace := ["maps.clone"], unfollowed := true, recurses := true, plainKeys := false, apart := false }
def FastFirstSaid : Prop := fastFirstRow.holds Try.pinned (OpenSpec.ofChange fastFirstSpec)

/-- ITS FALSE NEIGHBOUR: 'it returns false'. Refute it at one input. -/
def fastFirstWrong : ChangeSpec := { name := "fastFirst", fn := fun _ => fun
  | [d1, d2] => { results := [.lit (.bool false)], args := [d1, d2] }
  | _ => none }
def FastFirstWrongFalsely : Prop := fastFirstRow.holds Try.pinned (OpenSpec.ofChange fastFirstWrong)

/- THE SECOND FORM. 'bulk': how many values and letters a reading holds, each counted each time it is reached (what is shared counts as often as it is met; a slice's spare places count too). A statement '..UptoSaid' is the law's where the arguments, and the package variables that the reading takes, are together of bulk at most 1048576: NARROWER than '..Said'. Prove '..Said' where nothing that the law and all that it calls make is longer than what came in: it says more and counts as full. Else prove '..UptoSaid'. A law counts once. -/
mutual
def uptoBulk {H : Type} : DataW H → Nat
  | .lit (.string bytes) => bytes.length + 1
  | .lit _ => 1
  | .nil => 1
  | .ptr d => uptoBulk d + 1
  | .slice elems spare => uptoBulkAll elems + uptoBulkAll spare + 1
  | .agg parts => uptoBulkAll parts + 1
  | .iface _ d => uptoBulk d + 1
  | .map entries => uptoBulkEntries entries + 1
  | .held _ => 1
def uptoBulkAll {H : Type} : List (DataW H) → Nat
  | [] => 0
  | d :: r => uptoBulk d + uptoBulkAll r
def uptoBulkEntries {H : Type} : List (Lit × DataW H) → Nat
  | [] => 0
  | x :: r => uptoBulkEntry x + uptoBulkEntries r
def uptoBulkEntry {H : Type} : Lit × DataW H → Nat
  | (.string bytes, d) => bytes.length + uptoBulk d + 1
  | (_, d) => uptoBulk d + 1
 end
def uptoSmall : (H : Type) → List (DataW H) → Bool := fun _ ds => decide (uptoBulkAll ds ≤ 1048576)
def OpenSpec.upto (s : _root_.Go.ChangeSpec) : _root_.Go.OpenSpec := { _root_.Go.OpenSpec.ofChange s with cond := some uptoSmall }

/-- 'weavelaw04.ClockAll', WHERE WHAT IT READS IS OF BULK AT MOST 1048576: true; the input reads as it did. -/
def clockAllUptoRow : OpenClaim := { program := "ytomhdopbbnmcnab", sum := "39b27371ddeca2f93d72c706d544e4d613e221a19453a952cf58340d21493917", func := "weave/weavelaw04.ClockAll", spec := "clockAll", unfollowed := true, recurses := true, plainKeys := false, apart := false, narrowed := true }
def ClockAllUptoSaid : Prop := clockAllUptoRow.holds Try.pinned (OpenSpec.upto clockAllSpec)

/-- 'weavelaw04.ClockLaws', WHERE WHAT IT READS IS OF BULK AT MOST 1048576: true; the input reads as it did. -/
def clockLawsUptoRow : OpenClaim := { program := "ytomhdopbbnmcnab", sum := "39b27371ddeca2f93d72c706d544e4d613e221a19453a952cf58340d21493917", func := "weave/weavelaw04.ClockLaws", spec := "clockLaws", unfollowed := true, recurses := true, plainKeys := false, apart := false, narrowed := true }
def ClockLawsUptoSaid : Prop := clockLawsUptoRow.holds Try.pinned (OpenSpec.upto clockLawsSpec)

/-- 'weavelaw05.DjitStamps', WHERE WHAT IT READS IS OF BULK AT MOST 1048576: true; the input reads as it did. -/
def djitStampsUptoRow : OpenClaim := { program := "ytomhdopbbnmcnab", sum := "39b27371ddeca2f93d72c706d544e4d613e221a19453a952cf58340d21493917", func := "weave/weavelaw05.DjitStamps", spec := "djitStamps", inPlace := ["maps.clone"], unfollowed := true, recurses := true, plainKeys := false, apart := false, narrowed := true }
def DjitStampsUptoSaid : Prop := djitStampsUptoRow.holds Try.pinned (OpenSpec.upto djitStampsSpec)

/-- 'weavelaw05.DjitRacy', WHERE WHAT IT READS IS OF BULK AT MOST 1048576: true; the input reads as it did. -/
def djitRacyUptoRow : OpenClaim := { program := "ytomhdopbbnmcnab", sum := "39b27371ddeca2f93d72c706d544e4d613e221a19453a952cf58340d21493917", func := "weave/weavelaw05.DjitRacy", spec := "djitRacy", inPlace := ["maps.clone"], unfollowed := true, recurses := true, plainKeys := false, apart := false, narrowed := true }
def DjitRacyUptoSaid : Prop := djitRacyUptoRow.holds Try.pinned (OpenSpec.upto djitRacySpec)

/-- 'weavelaw05.DjitTells', WHERE WHAT IT READS IS OF BULK AT MOST 1048576: true; the input reads as it did. -/
def djitTellsUptoRow : OpenClaim := { program := "ytomhdopbbnmcnab", sum := "39b27371ddeca2f93d72c706d544e4d613e221a19453a952cf58340d21493917", func := "weave/weavelaw05.DjitTells", spec := "djitTells", inPlace := ["maps.clone"], unfollowed := true, recurses := true, plainKeys := false, apart := false, narrowed := true }
def DjitTellsUptoSaid : Prop := djitTellsUptoRow.holds Try.pinned (OpenSpec.upto djitTellsSpec)

/-- 'weavelaw06.FastSees', WHERE WHAT IT READS IS OF BULK AT MOST 1048576: true; the input reads as it did. -/
def fastSeesUptoRow : OpenClaim := { program := "ytomhdopbbnmcnab", sum := "39b27371ddeca2f93d72c706d544e4d613e221a19453a952cf58340d21493917", func := "weave/weavelaw06.FastSees", spec := "fastSees", inPlace := ["maps.clone"], unfollowed := true, recurses := true, plainKeys := false, apart := false, narrowed := true }
def FastSeesUptoSaid : Prop := fastSeesUptoRow.holds Try.pinned (OpenSpec.upto fastSeesSpec)

/-- 'weavelaw06.FastFirst', WHERE WHAT IT READS IS OF BULK AT MOST 1048576: true; the input reads as it did. -/
def fastFirstUptoRow : OpenClaim := { program := "ytomhdopbbnmcnab", sum := "39b27371ddeca2f93d72c706d544e4d613e221a19453a952cf58340d21493917", func := "weave/weavelaw06.FastFirst", spec := "fastFirst", inPlace := ["maps.clone"], unfollowed := true, recurses := true, plainKeys := false, apart := false, narrowed := true }
def FastFirstUptoSaid : Prop := fastFirstUptoRow.holds Try.pinned (OpenSpec.upto fastFirstSpec)

end Rows
end Go.Proofs.Ytomhdopbbnmcnab
