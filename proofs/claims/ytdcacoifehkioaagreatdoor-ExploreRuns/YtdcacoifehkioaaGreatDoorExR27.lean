import Derived.Test.YtdcacoifehkioaaGreatDoorExR3
import Derived.Test.YtdcacoifehkioaaGreatDoorExR26
set_option linter.unusedVariables false
set_option linter.unusedSimpArgs false
namespace Go.Proofs.YtdcacoifehkioaaGreatDoor
open Go.RowKit Go.Shelf Go.Proofs.Cod
structure SwR (Wp:World) (lo:Nat) (b0 b1 b2 b3 b4 b5:Option Addr) (p1 p2 p3 p4 p5 p6 be:Nat) (r:MS×Ev×Nat) (wx:World):Prop where
 rows:KP wx lo b0 b1 b2 b3 b4 b5 r.1 p1 p2 p3 p4 p5 p6
 ev:wx.heap[be]?=some (.cells #[.int .i64 r.2.1.t,.int .i64 r.2.1.k,.int .i64 r.2.1.o,.int .i64 r.2.1.v] 169)
 keep:Ae (λk=>(lo<=k/\k<p6)\/k=be) Wp wx
section
variable {w w':World} {a0 a1 a2 a3 a4 a5:Option Addr} {nv nf nl nt nr:Nat} {m:MS} {P:RP} {TV:List (Value×Value)} {x1 x2 x3 x4:Option Addr} {y1 y2 y3 z1 z2 z3 z4:Nat}
end
end Go.Proofs.YtdcacoifehkioaaGreatDoor
