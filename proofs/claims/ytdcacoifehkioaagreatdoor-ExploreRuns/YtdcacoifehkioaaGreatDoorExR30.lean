import Derived.Test.YtdcacoifehkioaaGreatDoorExR3
import Derived.Test.YtdcacoifehkioaaGreatDoorExR29
import Derived.Deep.Cut
import Derived.Deep.DeepCutAuto
set_option linter.unusedVariables false
set_option linter.unusedSimpArgs false
namespace Go.Proofs.YtdcacoifehkioaaGreatDoor
open Go.RowKit Go.Shelf Go.Proofs.Cod
section
variable {w w':World} {nv nf nl nt nr:Nat} {P:RP} {TV:List (Value×Value)} {x1 x2 x3 x4:Option Addr} {z1 z2 z3 z4:Nat}
end
end Go.Proofs.YtdcacoifehkioaaGreatDoor
