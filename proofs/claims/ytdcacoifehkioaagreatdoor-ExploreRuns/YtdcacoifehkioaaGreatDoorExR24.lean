import Derived.Test.YtdcacoifehkioaaGreatDoorExR23
import Derived.Test.YtdcacoifehkioaaGreatDoorExR17
import Derived.Test.YtdcacoifehkioaaGreatDoorExR14
import Derived.Deep.Upon
import Derived.Test.YtdcacoifehkioaaGreatDoorExR3
import Derived.Test.YtdcacoifehkioaaGreatDoorExR12
import Derived.Deep.Cut
import Derived.Deep.DeepCutAuto
open Go renaming World->Xg,Addr->Y7,Value->Xj,heap_setCell_other->XC,heap_setCell_same->Xk
open Array renaming getElem?_eq_some_iff->Xa,getD_eq_getD_getElem?->Y0,getElem?_eq_getElem->YS
open List renaming getElem?_map->Xp,getElem?_eq_getElem->Xc,getD_eq_getElem?_getD->Xb,length_map->Xm,flatMap_cons->XP
open Go.World renaming cell?->Xh,alloc_heap_new->Xi
set_option linter.unusedVariables false
set_option linter.unusedSimpArgs false
namespace Go.Proofs.YtdcacoifehkioaaGreatDoor
open Go.RowKit Go.Shelf Go.Proofs.Cod
def Ts (w:Xg) (a:Option Y7) (l:List Tx):Prop:=∀i,i<l.length->∃b off,a=some ⟨b,off,none⟩/\b<w.heap.size/\w.cell? ⟨b,off+i,none⟩=some (.string (bs (l.getD i [])))
theorem Ts.below {w w':Xg} {a:Option Y7} {l:List Tx} (h:Ts w a l) (d:Below w.heap.size w w'):Ts w' a l:=λi e=>by
 obtain⟨b,c,f,g,j⟩:=h i e
 exact⟨b,c,f,by have:=d.size;omega,(d.cell (p:=⟨b,c+i,none⟩) g).trans j⟩
theorem Nz {w:Xg} {base:Nat} {v:Xj} {l:List Tx} (h:w.ownsRow base 9 1 v l.length (l.map λx=>Value.string (bs x))):∃a cap,v = .slice a l.length cap/\Ts w a l:=by
 obtain⟨a,cap,e⟩:=At h;refine⟨a,cap,e,λi c=>?_⟩
 rcases id h.2 with⟨b,j⟩|⟨g,m,k,b,f,d,-⟩
 ·omega
 ·rw[e] at b;injection b with b _ _
  refine⟨g,0,b,(Xa.1 d).1,?_⟩;subst b;rw[e] at h;rw[Nat.zero_add,h.cellAt i (by omega),Xp,Xc c,Xb,Xc c]
  rfl
end Go.Proofs.YtdcacoifehkioaaGreatDoor
namespace Go.Proofs.YtdcacoifehkioaaGreatDoor
open Go.RowKit Go.Proofs.Cod
def EK (s:MS):List Int:=s.thr.map λth=>(th.pc:Int)
def Fu (s:MS):List Int:=s.thr.map λth=>th.ph
def IT (s:MS):List Int:=s.thr.flatMap λth=>th.regs
def R4 (s:MS):Prop:=∀th,th∈s.thr->th.regs.length=4
theorem acx (s:MS):(EK s).length=s.thr.length:=by unfold EK;rw[Xm]
theorem acU (s:MS):(Fu s).length=s.thr.length:=by unfold Fu;rw[Xm]
theorem QQ:∀(l:List TS) (t:Nat) (y:TS),t<l.length->y.regs=(l.getD t Aw).regs->((l.set t y).flatMap λth=>th.regs)=l.flatMap λth=>th.regs
 |[],t,y,ht,_=>by cases ht
 |a::l,t,y,ht,hy=>by
  cases t with
  |zero=>
   rw[List.set_cons_zero,XP,XP,hy];rfl
  |succ t=>rw[List.set_cons_succ,XP,XP,QQ l t y (by simp at ht;omega) hy]
section
variable {s:MS}
theorem acy (s:MS) {t:Nat} (h:t<s.thr.length):(EK s).getD t 0=((s.th t).pc:Int):=by
 unfold EK MS.th;rw[Xb,Xp,Xb,Xc h];rfl
theorem acV (s:MS) {t:Nat} (h:t<s.thr.length):(Fu s).getD t 0=(s.th t).ph:=by
 unfold Fu MS.th;rw[Xb,Xp,Xb,Xc h];rfl
theorem acw (s:MS) (t:Nat) (y:TS):EK (s.Af t y)=(EK s).set t (y.pc:Int):=by unfold EK MS.Af;rw[List.map_set]
theorem acT (s:MS) (t:Nat) (y:TS):Fu (s.Af t y)=(Fu s).set t y.ph:=by unfold Fu MS.Af;rw[List.map_set]
theorem acW {t:Nat} (a:t<s.thr.length) {y:TS} (b:y.regs=(s.th t).regs):IT (s.Af t y)=IT s:=QQ _ t y a b
theorem WZ {l:List Int} {k:Nat} {v:Int} (a:k<l.length) (h:l.getD k 0=v):l.set k v=l:=by
 apply List.ext_getElem?
 intro i;rw[List.getElem?_set]
 split
 ·rename_i e;subst e;rw[<-h,Xb,Xc a];rfl
 ·rfl
end
end Go.Proofs.YtdcacoifehkioaaGreatDoor
namespace Go.Proofs.YtdcacoifehkioaaGreatDoor
open Go.RowKit Go.Shelf Go.Proofs.Cod
section
variable {w w':Xg} {base lo hi:Nat} {a:Option Y7} {l:List Int}
def BG (w:Xg) (lo hi:Nat) (a:Option Y7) (l:List Int):Prop:=l=[]\/∃b N f,a=some ⟨b,0,none⟩/\lo<=b/\b<hi/\Ak w b 3 N f/\l.length<=N/\∀i,i<l.length->f i = .int .i64 (l.getD i 0)
theorem BG.is (h:BG w lo hi a l):Is w a l:=λi hi=>by
 rcases h with rfl|⟨b,N,f,d,j,k,c,g,e⟩
 ·cases hi
 ·exact⟨b,0,d,c.lt,by rw[Nat.zero_add,c.cell (by omega),e i hi]⟩
theorem BG.keep (h:BG w lo hi a l) (k:∀b,lo<=b->b<hi->w'.heap[b]?=w.heap[b]?):BG w' lo hi a l:=by
 rcases h with rfl|⟨b,N,f,g,c,d,e,i,j⟩
 ·exact .inl rfl
 ·exact .inr ⟨b,N,f,g,c,d,e.same (k b c d),i,j⟩
theorem BG.below (h:BG w lo hi a l) (d:hi<=w.heap.size) (c:Below w.heap.size w w'):BG w' lo hi a l:=h.keep λb _ e=>c.block b (by omega)
theorem BG.mono (h:BG w lo hi a l) {c d:Nat} (j:c<=lo) (g:hi<=d):BG w c d a l:=by
 rcases h with rfl|⟨b,N,f,e,i,k,r⟩
 ·exact .inl rfl
 ·exact .inr ⟨b,N,f,e,by omega,by omega,r⟩
theorem BG.other (h:BG w lo hi a l) {p:Y7} (c:p.block<lo\/hi<=p.block) (v:Xj):BG (w.setCell p v) lo hi a l:=h.keep λb d e=>XC w p b v (by omega)
theorem BG.of {v:Xj} (h:w.ownsRow base 3 1 v l.length (l.map EI)):∃a cap,v = .slice a l.length cap/\BG w base w.heap.size a l:=by
 rcases h.2 with⟨rfl,d⟩|⟨g,cap,b,rfl,j,d,n,o,m,i⟩
 ·have e:l=[]:=List.eq_nil_of_length_eq_zero d;subst e
  exact⟨none,0,rfl,.inl rfl⟩
 ·refine⟨_,_,rfl,.inr ⟨g,b.size,λk=>b.getD k undef,rfl,j,(Xa.1 d).1,⟨b,d,rfl,λk c=>?_⟩,by omega,λk c=>?_⟩⟩
  ·show b[k]?=some (b.getD k undef);rw[Y0,YS c];rfl
  ·have f:k<b.size:=by omega
   have q:(b.toList.take (l.length*1))[k]?=(l.map EI)[k]?:=by rw[i]
   rw[Nat.mul_one,List.getElem?_take,if_pos c,Array.getElem?_toList,Xp,Xc c,YS f] at q;have q:some b[k]=some (EI l[k]):=q;injection q with q
   show b.getD k undef=_;rw[Y0,YS f,Xb,Xc c];exact q
end
section
variable {w w':Xg} {b:Nat}
theorem TK {v:Xg} {b:Nat} {T:TypeId} {m l k j i f:Xj} (a c d e g a5:Xj) (h:v.heap[b]?=some (.cells #[m,l,k,j,i,f] T)) :
 ((((((v.setCell ⟨b,0,none⟩ a).setCell ⟨b,1,none⟩ c).setCell ⟨b,2,none⟩ d).setCell ⟨b,3,none⟩ e).setCell ⟨b,4,none⟩ g).setCell ⟨b,5,none⟩ a5).heap[b]?=some (.cells #[a,c,d,e,g,a5] T):=by
 have q:=(Xk _ b 0 _ _ a h).trans (show _=some (.cells #[a,l,k,j,i,f] T) from rfl);have p:=(Xk _ b 1 _ _ c q).trans (show _=some (.cells #[a,c,k,j,i,f] T) from rfl);have s:=(Xk _ b 2 _ _ d p).trans (show _=some (.cells #[a,c,d,j,i,f] T) from rfl);have o:=(Xk _ b 3 _ _ e s).trans (show _=some (.cells #[a,c,d,e,i,f] T) from rfl);have r:=(Xk _ b 4 _ _ g o).trans (show _=some (.cells #[a,c,d,e,g,f] T) from rfl);have n:=(Xk _ b 5 _ _ a5 r).trans (show _=some (.cells #[a,c,d,e,g,a5] T) from rfl);exact n
structure GV (w:Xg) (lo:Nat) (b0 b1 b2 b3 b4 b5:Option Y7) (l0 l1 l2 l3 l4 l5:List Int) (p1 p2 p3 p4 p5 p6:Nat):Prop where
 r0:BG w lo p1 b0 l0
 r1:BG w p1 p2 b1 l1
 r2:BG w p2 p3 b2 l2
 r3:BG w p3 p4 b3 l3
 r4:BG w p4 p5 b4 l4
 r5:BG w p5 p6 b5 l5
 le:lo<=p1/\p1<=p2/\p2<=p3/\p3<=p4/\p4<=p5/\p5<=p6/\p6<=w.heap.size
end
section
variable {w w':Xg} {lo p1 p2 p3 p4 p5 p6:Nat} {b0 b1 b2 b3 b4 b5:Option Y7} {l0 l1 l2 l3 l4 l5:List Int}
theorem GV.keep (h:GV w lo b0 b1 b2 b3 b4 b5 l0 l1 l2 l3 l4 l5 p1 p2 p3 p4 p5 p6) (a:∀b,lo<=b->b<p6->w'.heap[b]?=w.heap[b]?) (r:w.heap.size<=w'.heap.size):GV w' lo b0 b1 b2 b3 b4 b5 l0 l1 l2 l3 l4 l5 p1 p2 p3 p4 p5 p6:=by
 obtain⟨m,o,e,i,f,l,k,p,q,n,g,j,s⟩:=h
 exact⟨m.keep λb c d=>a b (by omega) (by omega),o.keep λb c d=>a b (by omega) (by omega),e.keep λb c d=>a b (by omega) (by omega),i.keep λb c d=>a b (by omega) (by omega),f.keep λb c d=>a b (by omega) (by omega),l.keep λb c d=>a b (by omega) (by omega),⟨k,p,q,n,g,j,by omega⟩⟩
theorem GV.other (h:GV w lo b0 b1 b2 b3 b4 b5 l0 l1 l2 l3 l4 l5 p1 p2 p3 p4 p5 p6) {p:Y7} (c:p.block<lo\/p6<=p.block) (v:Xj):GV (w.setCell p v) lo b0 b1 b2 b3 b4 b5 l0 l1 l2 l3 l4 l5 p1 p2 p3 p4 p5 p6:=
 h.keep (λb a d=>XC w p b v (by omega)) (by rw[World.size_setCell];exact Nat.le_refl _)
end
structure Jy (w:Xg) (a0 a1 a2 a3 a4 a5:Option Y7) (nv nf nl nt nr:Nat) (m:MS):Prop where
 v:Is w a0 m.vars
 f:Is w a1 m.flags
 l:Is w a2 m.locks
 p:Is w a3 (EK m)
 s:Is w a4 (Fu m)
 r:Is w a5 (IT m)
 lv:m.vars.length=nv
 lf:m.flags.length=nf
 ll:m.locks.length=nl
 lt:m.thr.length=nt
 lr:nt*4=nr
 r4:R4 m
section
variable {w w':Xg} {a0 a1 a2 a3 a4 a5:Option Y7} {nv nf nl nt nr:Nat} {m:MS}
theorem Jy.below (h:Jy w a0 a1 a2 a3 a4 a5 nv nf nl nt nr m) (a:Below w.heap.size w w'):Jy w' a0 a1 a2 a3 a4 a5 nv nf nl nt nr m:=
 ⟨h.v.below a,h.f.below a,h.l.below a,h.p.below a,h.s.below a,h.r.below a,h.lv,h.lf,h.ll,h.lt,h.lr,h.r4⟩
theorem Iv {W:Xg} {g T:Nat} {c d a b:Xj} (h:W.heap[g]?=some (.cells #[c,d,a,b] T)):W.cell? ⟨g,0,none⟩=some c/\W.cell? ⟨g,1,none⟩=some d/\W.cell? ⟨g,2,none⟩=some a/\W.cell? ⟨g,3,none⟩=some b:=
 ⟨by simp[Xh,h],by simp[Xh,h],by simp[Xh,h],by simp[Xh,h]⟩
theorem SN (w:Xg) (x y:Obj) {W:Xg} (a:(w.alloc x).alloc y=W):Below w.heap.size w W/\W.heap[w.heap.size]?=some x/\W.heap[w.heap.size+1]?=some y/\W.heap.size=w.heap.size+1+1:=by
 have b:(w.alloc x).heap.size=w.heap.size+1:=by show (w.heap.push _).size=_;simp
 refine⟨by rw[<-a];exact((Below.refl _ _).alloc (Nat.le_refl _) _).alloc (by rw[b];omega) _,?_,?_,?_⟩
 ·rw[<-a,Below.heap_alloc _ _ _ (by rw[b];omega)];exact Xi w _
 ·have q:=Xi (w.alloc x) y;rw[b,a] at q;exact q
 ·rw[<-a];show ((w.heap.push _).push _).size=_;simp
theorem KU {n:Nat} (h:n<2000000):wrap64 ((n:Int))=(n:Int):=by unfold wrap64;omega
end
abbrev KP (w:Xg) (lo:Nat) (b0 b1 b2 b3 b4 b5:Option Y7) (m:MS) (p1 p2 p3 p4 p5 p6:Nat):Prop:=GV w lo b0 b1 b2 b3 b4 b5 m.vars m.flags m.locks (EK m) (Fu m) (IT m) p1 p2 p3 p4 p5 p6
section
variable {w w':Xg} {lo p1 p2 p3 p4 p5 p6:Nat} {b0 b1 b2 b3 b4 b5:Option Y7} {m:MS}
theorem acY {t:Nat} (a:t<m.thr.length) {y:TS} (b:y.pc=(m.th t).pc):EK (m.Af t y)=EK m:=by
 rw[acw];exact WZ (by rw[acx];exact a) (by rw[acy m a,b])
theorem KP.doc (h:KP w lo b0 b1 b2 b3 b4 b5 m p1 p2 p3 p4 p5 p6) {b d nl a c:Nat} (j:m.vars.length=b) (e:m.flags.length=d) (g:m.locks.length=nl) (lt:m.thr.length=a) (i:a*4=c) (f:R4 m):Jy w b0 b1 b2 b3 b4 b5 b d nl a c m:=
 ⟨h.r0.is,h.r1.is,h.r2.is,h.r3.is,h.r4.is,h.r5.is,j,e,g,lt,i,f⟩
end
end Go.Proofs.YtdcacoifehkioaaGreatDoor
