import Derived.Test.YtdcacoifehkioaaGreatDoorExR24
import Derived.BigQuiet
import Derived.Deep.DeepCutAuto
open Go renaming World->Xg,Value->Xj
open Array renaming getElem?_eq_some_iff->Xa
set_option linter.unusedVariables false
set_option linter.unusedSimpArgs false
namespace Go.Proofs.YtdcacoifehkioaaGreatDoor
open Go.RowKit Go.Shelf Go.Proofs.Cod
def Tf (s:Tx):Nat:=s.foldl (λh c=>(h*31+c.toNat) % 4096) 0
structure Ib (w:Xg) (base sb g:Nat) (f:Nat->Xj) (L:Nat->List Tx) (keys:List Tx):Prop where
 blk:w.heap[sb]?=some (.cells #[.slice (some ⟨g,0,none⟩) 4096 4096] 167)
 lo:base<=sb/\base<=g
 tab:Ak w g 22 4096 f
 row:∀h,h<4096->w.ownsRow base 9 1 (f h) (L h).length ((L h).map λx=>Value.string (bs x))
 mem:∀h x,h<4096->(x∈L h↔x∈keys/\Tf x=h)
 len:∀h,h<4096->(L h).length<=keys.length
 apart:∀h h' b,h<4096->h'<4096->(f h).ownBlock=some b->(f h').ownBlock=some b->h=h'
structure Fk (base:Nat) (w w':Xg):Prop where
 bel:Below base w w'
 other:∀(b:Nat) (cs:Array Xj) (T:Nat),w.heap[b]?=some (.cells cs T)->T≠167->T≠22->T≠9->w'.heap[b]?=w.heap[b]?
theorem Fk.refl (base:Nat) (w:Xg):Fk base w w:=⟨Below.refl _ _,λ_ _ _ _ _ _ _=>rfl⟩
theorem Fk.trans {base:Nat} {w w' g:Xg} (h:Fk base w w') (f:Fk base w' g):Fk base w g:=
 ⟨h.bel.trans f.bel,λb cs T e c d a=>(f.other b cs T ((h.other b cs T e c d a).trans e) c d a).trans (h.other b cs T e c d a)⟩
theorem Fk.Ch {base:Nat} {w w':Xg} (a:base<=w.heap.size) (h:Below w.heap.size w w'):Fk base w w':=
 ⟨h.mono a,λb cs T e _ _ _=>h.block b (Xa.1 e).1⟩
theorem Ph {w:Xg} {base e c n:Nat} {v:Xj} {d:List Xj} (h:w.ownsRow base e c v n d) {b:Nat} (a:v.ownBlock=some b):∃cs,w.heap[b]?=some (.cells cs e):=by
 rcases h.2 with⟨rfl,_⟩|⟨g,cap,f,rfl,j,i,-⟩
 ·cases a
 ·have:g=b:=by injection a
  subst this
  exact⟨f,i⟩
section
variable {w w':Xg} {base sb g:Nat} {f:Nat->Xj} {L:Nat->List Tx} {keys:List Tx}
theorem Ib.keep (h:Ib w base sb g f L keys) (a:∀(b:Nat) (cs:Array Xj) (T:Nat),w.heap[b]?=some (.cells cs T)->T≠92->w'.heap[b]?=w.heap[b]?):Ib w' base sb g f L keys:=by
 refine⟨(a _ _ _ h.blk (by decide)).trans h.blk,h.lo,?_,λk c=>Eu (h.row k c) λb d=>?_,h.mem,h.len,h.apart⟩
 ·obtain⟨cs,q,-,-⟩:=id h.tab;exact h.tab.same (a _ _ _ q (by decide))
 ·obtain⟨cs,q⟩:=Ph (h.row k c) d;exact a _ _ _ q (by decide)
theorem Ib.below (h:Ib w base sb g f L keys) (a:Below w.heap.size w w'):Ib w' base sb g f L keys:=h.keep λb cs T e _=>a.block b (Xa.1 e).1
end
def Ic (w:Xg) (base sb:Nat) (keys:List Tx):Prop:=(w.heap[sb]?=some (.cells #[.slice none 0 0] 167)/\base<=sb/\keys=[])\/∃g f L,Ib w base sb g f L keys
def Kv (P:RP):List (List Ac):=P.thr.map λth=>th.code.map RI.i
section
variable {w w':Xg} {a0 a1 a2 a3 a4 a5:Option Addr} {nv nf nl nt nr:Nat} {m:MS} {P:RP} {TV:List (Xj×Xj)} {x1 x2 x3 x4:Option Addr} {y1 y2 y3 z1 z2 z3 z4:Nat}
end
structure XB (nv nf nl nt:Nat) (x:Ac):Prop where
 x0:0<=x.x
 vr:x.op=BH\/x.op=Bl->x.x<nv
 fl:x.op=Eg\/x.op=Ef->x.x<nf
 lk:x.op=CD\/x.op=Ee->x.x<nl
 th:x.op=Cy\/x.op=CE->x.x<nt
 r:0<=x.r/\x.r<4
 a:En x.aR x.aN
 b:En x.bR x.bN
 op:x.op=Ex\/x.op=ED\/x.op=Ew\/x.op=Ey\/x.op=BH\/x.op=Bl\/x.op=Eg\/x.op=Ef\/x.op=CD\/x.op=Ee\/x.op=Cy\/x.op=CE\/x.op=Ez\/x.op=EB\/x.op=EA\/x.op=EC\/x.op=EW
section
variable {w w':Xg} {a0 a1 a2 a3 a4 a5:Option Addr} {nv nf nl nt nr:Nat} {m:MS} {P:RP} {TV:List (Xj×Xj)} {x1 x2 x3 x4:Option Addr} {y1 y2 y3 z1 z2 z3 z4:Nat}
end
end Go.Proofs.YtdcacoifehkioaaGreatDoor
namespace Go.Proofs.YtdcacoifehkioaaGreatDoor
open Go.RowKit Go.Proofs.Cod
section
variable {m:MS} {t:Nat} {x:Ac}
end
end Go.Proofs.YtdcacoifehkioaaGreatDoor
