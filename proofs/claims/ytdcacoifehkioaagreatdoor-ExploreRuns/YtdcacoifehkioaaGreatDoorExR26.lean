import Derived.Test.YtdcacoifehkioaaGreatDoorExR3
import Derived.Test.YtdcacoifehkioaaGreatDoorExR25
import Derived.Test.YtdcacoifehkioaaGreatDoorExR24
import Derived.Test.YtdcacoifehkioaaGreatDoorExR19
open Go renaming World->Xg,Addr->Y7,Value->Xj
open Array renaming getElem?_eq_some_iff->Xa
set_option linter.unusedVariables false
set_option linter.unusedSimpArgs false
namespace Go.Proofs.YtdcacoifehkioaaGreatDoor
open Go.RowKit Go.Shelf Go.Proofs.Cod
section
variable {w w':Xg} {a0 a1 a2 a3 a4 a5:Option Y7} {nv nf nl nt nr:Nat} {m:MS}
end
section
variable {m:MS} {t:Nat} {x:Ac}
structure ac0 (m m1:MS):Prop where
 v:m1.vars.length=m.vars.length
 f:m1.flags.length=m.flags.length
 l:m1.locks.length=m.locks.length
 t:m1.thr.length=m.thr.length
 r:R4 m1
end
structure S6 where
 a0:Option Y7
 a1:Option Y7
 a2:Option Y7
 a3:Option Y7
 a4:Option Y7
 a5:Option Y7
 c0:Nat
 c1:Nat
 c2:Nat
 c3:Nat
 c4:Nat
 c5:Nat
structure D5 where
 nv:Nat
 nf:Nat
 nl:Nat
 nt:Nat
 nr:Nat
def S6.L (s:S6) (d:D5):List Xj:=[.slice s.a0 d.nv s.c0,.slice s.a1 d.nf s.c1,.slice s.a2 d.nl s.c2,.slice s.a3 d.nt s.c3,.slice s.a4 d.nt s.c4,.slice s.a5 d.nr s.c5]
theorem S6.len (s:S6) (d:D5):(s.L d).length=6:=rfl
def Fm (w:Xg) (a:Option Y7) (l:List Int):Prop:=∃lo hi,BG w lo hi a l
def Fl (w w':Xg):Prop:=∀(b:Nat) (cs:Array Xj),w.heap[b]?=some (.cells cs 3)->w'.heap[b]?=w.heap[b]?
theorem Fm.keep {w w':Xg} {a:Option Y7} {l:List Int} (h:Fm w a l) (k:Fl w w'):Fm w' a l:=by
 obtain⟨g,e,h⟩:=h;refine⟨g,e,?_⟩
 rcases h with h|⟨b,N,f,d,m,n,c,i,j⟩
 ·exact .inl h
 ·obtain⟨cs,q,-⟩:=id c;exact .inr ⟨b,N,f,d,m,n,c.same (k b cs q),i,j⟩
theorem Fm.is {w:Xg} {a:Option Y7} {l:List Int} (h:Fm w a l):Is w a l:=by
 obtain⟨c,b,h⟩:=h;exact h.is
structure IF (w:Xg) (q:S6) (d:D5) (m:MS):Prop where
 v:Fm w q.a0 m.vars
 f:Fm w q.a1 m.flags
 l:Fm w q.a2 m.locks
 p:Fm w q.a3 (EK m)
 s:Fm w q.a4 (Fu m)
 r:Fm w q.a5 (IT m)
 lv:m.vars.length=d.nv
 lf:m.flags.length=d.nf
 ll:m.locks.length=d.nl
 lt:m.thr.length=d.nt
 lr:d.nt*4=d.nr
 r4:R4 m
section
variable {w w':Xg} {s:S6} {d:D5} {m:MS}
theorem IF.keep (h:IF w s d m) (a:Fl w w'):IF w' s d m:=⟨h.v.keep a,h.f.keep a,h.l.keep a,h.p.keep a,h.s.keep a,h.r.keep a,h.lv,h.lf,h.ll,h.lt,h.lr,h.r4⟩
theorem IF.of {f g i c j b e:Nat} (h:KP w f s.a0 s.a1 s.a2 s.a3 s.a4 s.a5 m g i c j b e) (a:Jy w s.a0 s.a1 s.a2 s.a3 s.a4 s.a5 d.nv d.nf d.nl d.nt d.nr m):IF w s d m:=
 ⟨⟨_,_,h.r0⟩,⟨_,_,h.r1⟩,⟨_,_,h.r2⟩,⟨_,_,h.r3⟩,⟨_,_,h.r4⟩,⟨_,_,h.r5⟩,a.lv,a.lf,a.ll,a.lt,a.lr,a.r4⟩
end
theorem Fl.below {w w':Xg} (h:Below w.heap.size w w'):Fl w w':=λb _ e=>h.block b (Xa.1 e).1
theorem Fl.trans {w w' a:Xg} (h:Fl w w') (c:Fl w' a):Fl w a:=λb cs e=>(c b cs ((h b cs e).trans e)).trans (h b cs e)
theorem Fk.WT {base:Nat} {w w':Xg} (h:Fk base w w'):Fl w w':=λb cs e=>h.other b cs _ e (by decide) (by decide) (by decide)
structure FS (w:Xg) (base:Nat) (d:D5) (v:Xj) (S:List S6) (ms:List MS):Prop where
 row:w.ownsRow base 92 6 v ms.length (S.flatMap λs=>s.L d)
 len:S.length=ms.length
 doc:∀(i:Nat) (s:S6) (m:MS),S[i]?=some s->ms[i]?=some m->IF w s d m
section
variable {w w':Xg} {base:Nat} {d:D5} {v:Xj} {S:List S6} {ms:List MS}
theorem FS.keep (h:FS w base d v S ms) (c:Fl w w') (a:∀(b:Nat) (cs:Array Xj),w.heap[b]?=some (.cells cs 92)->w'.heap[b]?=w.heap[b]?):FS w' base d v S ms:=
 ⟨Eu h.row λb e=>by
  obtain⟨cs,q⟩:=Ph h.row e;exact a b cs q,h.len,λi s m f g=>(h.doc i s m f g).keep c⟩
theorem FS.below (h:FS w base d v S ms) (a:Below w.heap.size w w'):FS w' base d v S ms:=h.keep (Fl.below a) λb _ e=>a.block b (Xa.1 e).1
theorem FS.keepN {c:Nat} (h:FS w base d v S ms) (a:Fk c w w'):FS w' base d v S ms:=h.keep a.WT λb cs e=>a.other b cs _ e (by decide) (by decide) (by decide)
end
end Go.Proofs.YtdcacoifehkioaaGreatDoor
namespace Go.Proofs.YtdcacoifehkioaaGreatDoor
open Go.RowKit Go.Proofs.Cod
section
variable (m:MS) (t:Nat) {x:Ac}
end
end Go.Proofs.YtdcacoifehkioaaGreatDoor
