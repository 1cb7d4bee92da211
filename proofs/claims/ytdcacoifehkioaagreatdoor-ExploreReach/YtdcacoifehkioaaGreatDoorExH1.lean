import Derived.Test.YtdcacoifehkioaaGreatDoorExH0
import Derived.Laws.StructEq
import Derived.Laws.IdiomRangeMap
import Derived.MapKept
import Derived.Test.YtdcacoifehkioaaGreatDoorChecked
import Derived.WalkKit
import Derived.ProofKit
import Derived.Below
import Derived.Laws.AppendOwn
import Derived.OwnWalkIn
import Derived.Laws.Rows
open Go renaming Value->Xk,TypeId->YM,World->Xh,MapEntry->Y9,run_underlying->ZK
open Go.Instr renaming findNow->agi,lookup->Zl,mapUpdate->YA
open Nat renaming zero_add->XE,add_mul->afV,le_trans->Xu,lt_of_lt_of_le->XK
open Go.MapKept renaming run_findKey->afU,run_getObj_map->Y6
open Array renaming getElem?_eq_some_iff->Xa,getElem?_toList->Ys,getElem?_modify->afy,toList_push->af2
open List renaming mem_of_getElem?->XA,getElem?_of_mem->ZD,getElem?_map->Xs,length_append->Xb,size_toArray->Yt
set_option linter.unusedVariables false
set_option linter.unusedSimpArgs false
namespace Go.Proofs.YtdcacoifehkioaaGreatDoor
open Go.RowKit
structure Hv {κ:Type} (enc:κ->Xk) (K:YM):Prop where
 inj:∀{a b:κ},enc a=enc b->a=b
 check:∀(e:Bool) (d:κ) (w:Xh),(Instr.checkKey e 10000 K (enc d)).run Tryz.prog w = .ok () w
 find:∀(d:κ) (w:Xh) (es:List Y9),(∀e,e∈es->∃d',e.key=enc d')->
  (∃j e,es[j]?=some e/\e.key=enc d/\(Instr.findKey K (enc d) es).run Tryz.prog w = .ok (some (j,e.val)) w)\/((∀e,e∈es->e.key≠enc d)/\(Instr.findKey K (enc d) es).run Tryz.prog w = .ok none w)
 stays:∀(d:κ) (w:Xh),(Instr.keyThatStays (enc d) (enc d)).run Tryz.prog w = .ok (enc d) w
def ik (i:Int):Xk:=.int .i64 i
theorem SK {a b:Int} (h:ik a=ik b):a=b:=by simpa [ik] using h
theorem acx {K:YM} (o:Tryz.prog.underlying K=some (.int .i64)):Hv ik K:=by
 refine⟨SK,λe d w=>MapKept.run_checkKey o (show MapKept.IsKey (.int .i64) (.int .i64 d) from rfl) e 9999,λd w a g=>?_,λd w=>MapKept.run_keyThatStays (show MapKept.IsKey (.int .i64) (.int .i64 d) from rfl)⟩;have key:∀(a:List Y9) (i:Nat),(∀e,e∈a->∃m,e.key=ik m)->(∃j e,a[j]?=some e/\e.key=ik d/\agi (.int .i64) (ik d) a i=some (some (i+j,e.val)))\/((∀e,e∈a->e.key≠ik d)/\agi (.int .i64) (ik d) a i=some none):=by
  intro a
  induction a with
  |nil=>intro i _;exact .inr ⟨(λe l=>by cases l),rfl⟩
  |cons e a r=>
   intro i g;obtain⟨m,f⟩:=g e (by simp)
   by_cases h:d=m
   ·subst h;exact .inl ⟨0,e,rfl,f,by simp[agi,f,ik,Instr.sameNow]⟩
   ·have q:Instr.sameNow (.int .i64) (ik d) e.key=some false:=by rw[f];simp[ik,Instr.sameNow,h]
    rcases r (i+1) (λe l=>g e (by simp[l])) with⟨j,n,b,c,k⟩|⟨b,c⟩
    ·refine .inl ⟨j+1,n,by simpa using b,c,?_⟩;simp only[agi,q,k];rw[show i+1+j=i+(j+1) from by omega]
    ·refine .inr ⟨λn p=>?_,by simp only[agi,q,c]⟩
     rcases List.mem_cons.1 p with rfl|p
     ·rw[f];exact λe=>h (SK e).symm
     ·exact b n p
 rcases key a 0 g with⟨j,e,b,c,k⟩|⟨b,c⟩
 ·rw[XE] at k;exact .inl ⟨j,e,b,c,afU o k⟩
 ·exact .inr ⟨b,afU o c⟩
structure Hx {κ:Type} (enc:κ->Xk) (es:Array Y9) (clock:Nat) (f:κ->Option Xk):Prop where
 stamped:MapKept.Stamped es clock
 mem:∀e,e∈es.toList->∃k,e.key=enc k/\f k=some e.val
 has:∀k v,f k=some v->∃e,e∈es.toList/\e.key=enc k
def AB {κ:Type} (enc:κ->Xk) (w:Xh) (b:Nat) (f:κ->Option Xk) (n:Nat):Prop:=
 ∃es clock,w.heap[b]?=some (.map es clock)/\Hx enc es clock f/\es.size=n
variable {κ:Type} {enc:κ->Xk} {K:YM}
theorem AB.lt {w:Xh} {b n:Nat} {f:κ->Option Xk} (h:AB enc w b f n):b<w.heap.size:=by
 obtain⟨c,d,a,_⟩:=h;exact(Xa.1 a).1
theorem AB.same {w w':Xh} {b n:Nat} {f:κ->Option Xk} (h:AB enc w b f n) (a:w'.heap[b]?=w.heap[b]?):AB enc w' b f n:=by
 obtain⟨d,c,e,g⟩:=h;exact⟨d,c,a.trans e,g⟩
theorem AB.made (w:Xh):AB enc (w.alloc (.map #[] 0)) w.heap.size (λ_=>none) 0:=
 ⟨#[],0,heap_alloc_new w _,⟨MapKept.stamped_empty 0,(λe a=>by simp at a),(λd v h=>by cases h)⟩,rfl⟩
theorem Hx.congr {b:Array Y9} {a:Nat} {f g:κ->Option Xk} (h:Hx enc b a f) (c:∀k,g k=f k):Hx enc b a g:=by
 have:g=f:=funext c;rw[this];exact h
theorem AB.congr {w:Xh} {b n:Nat} {f g:κ->Option Xk} (h:AB enc w b f n) (a:∀k,g k=f k):AB enc w b g n:=by
 have:g=f:=funext a;rw[this];exact h
theorem Hx.key {a:Array Y9} {g:Nat} {f:κ->Option Xk} (d:Hv enc K) (h:Hx enc a g f) {e:Y9} {k:κ} (b:e∈a.toList) (c:e.key=enc k):f k=some e.val:=by
 obtain⟨k',i,j⟩:=h.mem e b
 obtain rfl:=d.inj (c.symm.trans i)
 exact j
theorem Hx.found {b:Array Y9} {m:Nat} {f:κ->Option Xk} (g:Hv enc K) (h:Hx enc b m f) (k:κ) (w:Xh) :
 (∃j e,b[j]?=some e/\e.key=enc k/\f k=some e.val/\(Instr.findKey K (enc k) b.toList).run Tryz.prog w = .ok (some (j,e.val)) w)\/(f k=none/\(∀e,e∈b.toList->e.key≠enc k)/\(Instr.findKey K (enc k) b.toList).run Tryz.prog w = .ok none w):=by
 rcases g.find k w b.toList (λe d=>by obtain⟨k',a,_⟩:=h.mem e d;exact⟨k',a⟩) with⟨j,e,a,c,n⟩|⟨a,c⟩
 ·exact .inl ⟨j,e,by simpa using a,c,h.key g (XA a) c,n⟩
 ·refine .inr ⟨?_,a,c⟩
  cases l:f k with
  |none=>rfl
  |some v=>obtain⟨e,d,i⟩:=h.has k v l;exact absurd i (a e d)
theorem AB.look {w:Xh} {b n:Nat} {f:κ->Option Xk} (h:AB enc w b f n) {T E:YM} (a:Hv enc K) (g:Tryz.prog.underlying T=some (.map K E)) {z:Xk} (l:(zeroValue E).run Tryz.prog w = .ok z w) (k:κ) :
 (Zl T (.map (some b)) (enc k) false).run Tryz.prog w = .ok ((f k).getD z) w:=by
 obtain⟨p,o,d,h,_⟩:=h
 rcases h.found a k w with⟨j,e,_,_,c,i⟩|⟨m,_,c⟩
 ·simp[Zl,ZK g,Y6 d,a.check,i,c]
 ·simp[Zl,ZK g,Y6 d,a.check,c,m,l]
theorem AB.abN {w:Xh} {b n:Nat} {f:κ->Option Xk} (h:AB enc w b f n) {T E:YM} (a:Hv enc K) (g:Tryz.prog.underlying T=some (.map K E)) {z:Xk} (l:(zeroValue E).run Tryz.prog w = .ok z w) (k:κ) :
 (Zl T (.map (some b)) (enc k) true).run Tryz.prog w = .ok (.tuple #[(f k).getD z,.bool (f k).isSome]) w:=by
 obtain⟨p,o,d,h,_⟩:=h
 rcases h.found a k w with⟨j,e,_,_,c,i⟩|⟨m,_,c⟩
 ·simp[Zl,ZK g,Y6 d,a.check,i,c]
 ·simp[Zl,ZK g,Y6 d,a.check,c,m,l]
def Bz [DecidableEq κ] (f:κ->Option Xk) (d:κ) (v:Xk):κ->Option Xk:=λx=>if x=d then some v else f x
theorem Lg [DecidableEq κ] (f:κ->Option Xk) (d:κ) (v:Xk):Bz f d v d=some v:=by simp[Bz]
theorem CU [DecidableEq κ] {f:κ->Option Xk} {d x:κ} (v:Xk) (h:x≠d):Bz f d v x=f x:=by simp[Bz,h]
theorem SO (w:Xh) (b:Nat) (o:Obj):w.grownBy {w with heap:=w.heap.setIfInBounds b o} (some b):=
 ⟨rfl,rfl,rfl,by simp,λk c a=>by simp only[Array.getElem?_setIfInBounds];rw[if_neg (λe=>a (by rw[e]))]⟩
theorem abv {b:Array Y9} {j:Nat} {g:Y9->Y9} {e:Y9} (d:b[j]?=some e) {x:Y9} (f:x∈(b.modify j g).toList):x=g e\/(x∈b.toList/\∃i,i≠j/\b[i]?=some x):=by
 obtain⟨i,a⟩:=ZD f;rw[Ys,afy] at a
 by_cases c:j=i
 ·subst c;rw[if_pos rfl,d] at a;cases a;exact .inl rfl
 ·rw[if_neg c] at a;exact .inr ⟨XA (i:=i) (by simpa using a),i,λe=>c e.symm,a⟩
theorem RC {a:Array Y9} {j:Nat} {g:Y9->Y9} {e:Y9} (d:a[j]?=some e):g e∈(a.modify j g).toList/\∀i x,i≠j->a[i]?=some x->x∈(a.modify j g).toList:=by
 refine⟨XA (i:=j) (by rw[Ys,afy,if_pos rfl,d];rfl),λi x b c=>XA (i:=i) (by rw[Ys,afy,if_neg (λe=>b e.symm)];exact c)⟩
theorem acJ {a:Array Y9} {l:Nat} (h:MapKept.Stamped a l) {i j:Nat} {x y:Y9} (b:a[i]?=some x) (d:a[j]?=some y) (g:x.key=y.key):i=j:=by
 have e:=h.2.2;have k:i<a.toList.length:=by simpa using (Xa.1 b).1
 have c:(a.toList.map (·.key))[i]?=some x.key:=by rw[Xs,Ys,b];rfl
 have f:(a.toList.map (·.key))[j]?=some x.key:=by rw[Xs,Ys,d,g];rfl
 exact(List.getElem?_inj (by simpa using k) e).1 (c.trans f.symm)
theorem AB.put [DecidableEq κ] {w:Xh} {b n:Nat} {f:κ->Option Xk} (h:AB enc w b f n) {T E:YM} (s:Hv enc K) (D:Tryz.prog.underlying T=some (.map K E)) (d:κ) (v:Xk) :
 ∃w',(YA T (.map (some b)) (enc d) v).run Tryz.prog w = .ok () w'/\AB enc w' b (Bz f d v) (if (f d).isSome then n else n+1)/\w.grownBy w' (some b)/\w'.heap.size=w.heap.size:=by
 obtain⟨G,u,r,h,F⟩:=h;have M:=(Xa.1 r).1;have C:∀o:Obj,({w with heap:=w.heap.setIfInBounds b o}:Xh).heap[b]?=some o:=λo=>by simp[M]
 rcases h.found s d w with⟨j,e,g,k,z,I⟩|⟨g,k,z⟩
 ·refine⟨{w with heap:=w.heap.setIfInBounds b (.map (G.modify j λl=>{l with key:=enc d,val:=v}) u)},?_,⟨_,_,C _,⟨?_,λx a=>?_,λc A q=>?_⟩,by simp[z,F]⟩,SO _ _ _,by simp⟩
  ·simp[YA,ZK D,Y6 r,s.check,I,g,k,s.stays,MapKept.run_setObj_map _ r,Result.andThen]
  ·exact MapKept.stamped_modify h.stamped j _ (λ_ _=>rfl) (λx _ a=>by rw[g] at a;cases a;exact k.symm)
  ·rcases abv g a with rfl|⟨H,i,p,J⟩
   ·exact⟨d,rfl,Lg _ _ _⟩
   ·obtain⟨c,t,B⟩:=h.mem x H;refine⟨c,t,?_⟩;rw[CU v (λl=>p (acJ h.stamped J g (by rw[t,l,k])))];exact B
  ·by_cases m:c=d
   ·subst m
    exact⟨_,(RC g).1,rfl⟩
   ·rw[CU v m] at q;obtain⟨x,a,y⟩:=h.has c A q;obtain⟨i,p⟩:=ZD a;rw[Ys] at p;have N:i≠j:=λl=>by subst l;rw[g] at p;cases p;exact m (s.inj (y.symm.trans k))
    exact⟨x,(RC g).2 i x N p,y⟩
 ·refine⟨{w with heap:=w.heap.setIfInBounds b (.map (G.push {key:=enc d,val:=v,born:=u}) (u+1))},?_,⟨_,_,C _,⟨MapKept.stamped_push h.stamped k,λx a=>?_,λc A q=>?_⟩,by simp[g,F]⟩,SO _ _ _,by simp⟩
  ·simp[YA,ZK D,Y6 r,s.check,z,MapKept.run_setObj_map _ r,Result.andThen]
  ·rw[af2,List.mem_append,List.mem_singleton] at a
   rcases a with a|rfl
   ·obtain⟨c,t,B⟩:=h.mem x a
    exact⟨c,t,by rw[CU v (λl=>k x a (by rw[t,l]))];exact B⟩
   ·exact⟨d,rfl,Lg _ _ _⟩
  ·by_cases m:c=d
   ·subst m
    exact⟨{key:=enc c,val:=v,born:=u},by rw[af2];simp,rfl⟩
   ·rw[CU v m] at q;obtain⟨x,a,y⟩:=h.has c A q
    exact⟨x,by rw[af2];exact List.mem_append_left _ a,y⟩
theorem AB.len {w:Xh} {b n:Nat} {f:κ->Option Xk} (h:AB enc w b f n) {T E:YM} (e:Tryz.prog.underlying T=some (.map K E)) (c:YM) :
 (Builtin.len_ #[T] c #[.map (some b)]).run Tryz.prog w = .ok (goInt n) w:=by
 obtain⟨i,g,a,h,d⟩:=h;simp[Builtin.len_,ZK e,Y6 a,d]
def afn (w:Xh) (r b:Nat):Nat:=match w.heap[r]?,w.heap[b]? with
 |some (.mapIter _ _ seen _),some (.map es _)=>(leftOf es seen).size
 |_,_=>0
def Hw (enc:κ->Xk) (w:Xh) (r b:Nat) (f:κ->Option Xk) (left:κ->Prop):Prop:=
 ∃es clock since seen c0,w.heap[b]?=some (.map es clock)/\Hx enc es clock f/\w.heap[r]?=some (.mapIter (some b) since seen c0)/\since<=c0/\since<=clock/\(∀e,e∈es.toList->e.born<since)/\
  (∀k,left k↔∃e,e∈es.toList/\e.key=enc k/\seen.contains e.born=false)
theorem Hw.same {w w':Xh} {r b:Nat} {f:κ->Option Xk} {left:κ->Prop} (h:Hw enc w r b f left) (a:w'.heap[r]?=w.heap[r]?) (c:w'.heap[b]?=w.heap[b]?):Hw enc w' r b f left:=by
 obtain⟨k,j,d,e,c0,l,m,i,g⟩:=h
 exact⟨k,j,d,e,c0,c.trans l,m,a.trans i,g⟩
theorem Hw.map {w:Xh} {r b:Nat} {f:κ->Option Xk} {left:κ->Prop} (h:Hw enc w r b f left):∃n,AB enc w b f n:=by
 obtain⟨c,a,g,i,c0,d,e,_⟩:=h
 exact⟨_,c,a,d,e,rfl⟩
theorem Hw.ne {w:Xh} {r b:Nat} {f:κ->Option Xk} {left:κ->Prop} (h:Hw enc w r b f left):b≠r:=by
 obtain⟨j,i,d,e,c0,c,k,a,g⟩:=h;rintro rfl;rw[c] at a;cases a
theorem Hw.lt {w:Xh} {r b:Nat} {f:κ->Option Xk} {left:κ->Prop} (h:Hw enc w r b f left):r<w.heap.size:=by
 obtain⟨i,g,c,d,c0,j,k,a,e⟩:=h
 exact(Xa.1 a).1
theorem acT (w:Xh) (o:Obj):(w.alloc o).heap[w.heap.size]?=some o:=by
 show (w.heap.push o)[w.heap.size]?=some o;exact Array.getElem?_push_size
section
variable {P:Program} (w:Xh)
end
section
variable {P:Program}
theorem JS (w:Xh) (base:Nat) (t x e:YM) (i:TypeInfo) (z:Xk) (q F:Nat) (C:P.underlying t=some (.slice e)) (A:P.info? e=some i) (J:i.zero=some z)
 (U:i.size=q) (Y:i.bytes=F) (V:z.cells.size=q)
 (v:Xk) (n:Nat) (d:List Xk) (o:w.ownsRow base e q v n d)
 (a:Addr) (m c:Nat) (b:List Xk) (S:0<m) (h:b.length=m*q) (D:∀j u,b[j]?=some u->w.cell? (a.add j)=some u) (R:∀u∈b,u.oneCell'=true)
 (I:n+m<=maxLen) (G:(n+m)*F<=140737488355328) (M:base<=w.heap.size) :
 ∃s w',(Builtin.append_ #[t,t] x #[v,.slice (some a) m c]).run P w = .ok s w'/\w'.ownsRow base e q s (n+m) (d++b)/\w.grownBy w' v.ownBlock/\(s.ownBlock=v.ownBlock\/s.ownBlock=some w.heap.size):=by
 subst U;subst Y;have ac:n+m<=9223372036854775807:=by simp only[maxLen] at I;omega
 have r:(d++b).length=(n+m)*i.size:=by rw[Xb,o.1,h,afV]
 have new:∀(f:Nat),f<n+m->∀row:Option Nat,
  (w.drew.alloc (.cells (d.toArray++b.toArray++Builtin.zeroCells z.cells (grownCap w (n+m) f e - (n+m))) e)).ownsRow base e i.size (.slice (some ⟨w.heap.size,0,none⟩) (n+m) (grownCap w (n+m) f e)) (n+m) (d++b)/\
  w.grownBy (w.drew.alloc (.cells (d.toArray++b.toArray++Builtin.zeroCells z.cells (grownCap w (n+m) f e - (n+m))) e)) row:=by
  intro f ho row;have K:=grownCap_ge w (n+m) f e;refine⟨⟨r,.inr ⟨w.heap.size,_,_,rfl,M,acT w.drew _,K,grownCap_le_maxLen w (n+m) f e I,?_,?_⟩⟩,⟨rfl,rfl,rfl,by simp,λk E _=>Below.heap_alloc w.drew _ k E⟩⟩
  ·rw[Array.size_append,Array.size_append,size_zeroCells,V,Yt,Yt,o.1,h,<-afV,<-afV]
   congr 1
   omega
  ·rw[<-r,Array.toList_append,Array.toList_append];exact List.take_left
 rcases o.2 with⟨rfl,rfl⟩|⟨g,cap,y,rfl,W,H,ab,X,Z,N⟩
 ·obtain rfl:d=[]:=List.eq_nil_of_length_eq_zero (by simpa using o.1)
  have p:=run_append_nil (P:=P) w t x e i z C A J a m c b h D S (by omega) (by have O:=G;simp only[XE] at O;omega);have l:=new 0 (by omega) (Value.ownBlock (.slice none 0 0));simp only[XE,List.nil_append,Array.empty_append] at l |-
  exact⟨_,_,p,l.1,l.2,.inr rfl⟩
 ·by_cases B:n+m<=cap
  ·have T:n*i.size+b.length<=y.size:=by rw[h,Z,<-afV];exact Nat.mul_le_mul_right _ B
   have p:=run_append_room (P:=P) w t x e i C A g n cap y H a m c b h D R B T;refine⟨_,_,p,⟨r,.inr ⟨g,cap,_,rfl,W,setRow_heap w g y _ e _ H,B,X,?_,?_⟩⟩,⟨rfl,rfl,rfl,by simp,λk _ E=>setRow_other w g k _ (λe=>E (by simp[Value.ownBlock,e]))⟩,.inl rfl⟩
   ·rw[Yt,Xb,Xb,List.length_take,List.length_drop,Array.length_toList];omega
   ·rw[N,<-r];exact List.take_left
  ·have Q:∀j u,d[j]?=some u->w.cell? ((⟨g,0,none⟩:Addr).add j)=some u:=o.cells (g:=g) rfl;have p:=run_append_grow (P:=P) w t x e i z C A J ⟨g,0,none⟩ n cap d o.1 Q a m c b h D (by omega) (by omega) (growslice_fits (by omega) G);have l:=new cap (by omega) (Value.ownBlock (.slice (some ⟨g,0,none⟩) n cap))
   exact⟨_,_,p,l.1,l.2,.inr rfl⟩
end
end Go.Proofs.YtdcacoifehkioaaGreatDoor
namespace Go.Proofs.YtdcacoifehkioaaGreatDoor
open Go.RowKit Go.Proofs.Cod
def BV (p:Tx):Xk:=.string (bs p)
def Ab (b:Nat):Xk:=.pointer (some ⟨b,0,none⟩)
def FD (e l:Int):List PanicEntry:=[{v:=.iface 138 (.agg #[.int .i64 e,.int .i64 l]),recovered:=false}]
inductive RT where
 |o|rd|nm|li|en|ins|clo
 |row (k:Int)
 |bd (a:Nat)
 |cd (a:Nat)
 |lb (a:Nat)
structure Ad where
 op:Tx
 r:Int
 aR:Bool
 aN:Int
 bR:Bool
 bN:Int
 x:Int
def Bv (i:Ad):Array Xk := #[.string (bs i.op),.int .i64 i.r,.bool i.aR,.int .i64 i.aN,.bool i.bR,.int .i64 i.bN,.int .i64 i.x]
structure EW where
 lm:Nat
 cv:Xk
 ins:List Nat
 labs:Tx->Option Nat
structure Cc where
 ia:Nat
 tb:Nat
 kd:Int
 nm:Tx
 ln:Int
 c0:Nat
 c1:Nat
 c2:Nat
 c3:Nat
 c4:Nat
def Cc.val (c:Cc):Xk:=.func (.func 228) #[] #[Ab c.c0,Ab c.c1,Ab c.c2,Ab c.c3,Ab c.c4]
structure RG where
 line:Int
 nms:Int->List Tx
 V:Int->Xk
 bods:List Nat
 bV:Xk
 B:Nat->Option EW
 N:Tx->Option (Int×Nat)
 I:Nat->Option Ad
 las:List Cc
 lV:Xk
def sk (t:Tx):Xk:=.string (bs t)
theorem VX {a b:Tx} (h:sk a=sk b):a=b:=by
 simp only[sk,Value.string.injEq] at h;exact aeI h
def uk (k:Int):Xk:=.int .u8 k
def AU (k:Int):Prop:=k=118\/k=102\/k=109\/k=116
def Cw (k:Int):Nat:=if k=118 then 1 else if k=102 then 2 else if k=109 then 3 else 5
open Classical in
def GE (rb:Nat) (k:Int):Option Xk:=if k=118\/k=102\/k=109\/k=116 then some (.pointer (some ⟨rb,Cw k,none⟩)) else none
def Mh (w:Xh) (tag:Nat->RT) (v:Option Xk) (e:Option (Int×Nat)):Prop:=
 match e with
 |none=>v=none
 |some (k,n)=>∃b,v=some (Ab b)/\w.heap[b]?=some (.cells #[.int .u8 k,.int .i64 n] 289)/\tag b = .en
def EK (w:Xh) (tag:Nat->RT) (b:Nat) (N:Tx->Option (Int×Nat)):Prop:=∃f n,AB sk w b f n/\∀t,Mh w tag (f t) (N t)
def Qq0 (l:Tx->Option Nat):Tx->Option (Int×Nat):=λt=>(l t).map λn=>(108,n)
structure KG (w:Xh) (tag:Nat->RT) (base a:Nat) (c:EW):Prop where
 cell:w.heap[a]?=some (.cells #[c.cv,.map (some c.lm)] 243)
 code:w.ownsRow base 244 1 c.cv c.ins.length (c.ins.map Ab)
 tcode:∀g,c.cv.ownBlock=some g->tag g = .cd a
 labs:EK w tag c.lm (Qq0 c.labs)
 ta:tag a = .bd a
 tl:tag c.lm = .lb a
structure KF (w:Xh) (tag:Nat->RT) (c:Cc):Prop where
 d0:w.heap[c.c0]?=some (.cells #[.map (some c.tb)] 141)
 d1:w.heap[c.c1]?=some (.cells #[.int .u8 c.kd] 5)
 d2:w.heap[c.c2]?=some (.cells #[.string (bs c.nm)] 9)
 d3:w.heap[c.c3]?=some (.cells #[.int .i64 c.ln] 3)
 d4:w.heap[c.c4]?=some (.cells #[Ab c.ia] 244)
 t0:tag c.c0 = .clo
 t1:tag c.c1 = .clo
 t2:tag c.c2 = .clo
 t3:tag c.c3 = .clo
 t4:tag c.c4 = .clo
structure Du (w:Xh) (tag:Nat->RT) (base:Nat) (e:YM) (k:Int) (v:Xk) (xs:List Xk):Prop where
 row:w.ownsRow base e 1 v xs.length xs
 tg:∀g,v.ownBlock=some g->tag g = .row k
structure Al (w:Xh) (tag:Nat->RT) (base rb nb lb:Nat) (G:RG):Prop where
 cell:w.heap[rb]?=some (.cells #[.int .i64 G.line,G.V 118,G.V 102,G.V 109,.slice none 0 0,G.V 116,G.bV,.map (some nb),.map (some lb),G.lV] 145)
 rows:∀k,AU k->Du w tag base 9 k (G.V k) ((G.nms k).map BV)
 brow:Du w tag base 240 0 G.bV (G.bods.map Ab)
 lrow:Du w tag base 1 1 G.lV (G.las.map Cc.val)
 names:EK w tag nb G.N
 lists:∃n,AB uk w lb (GE rb) n
 bodies:∀a c,G.B a=some c->KG w tag base a c
 ins:∀a i,G.I a=some i->w.heap[a]?=some (.cells (Bv i) 108)/\tag a = .ins
 clos:∀c,c∈G.las->KF w tag c
 trd:tag rb = .rd
 tnm:tag nb = .nm
 tli:tag lb = .li
 tlt:∀b,tag b≠.o->base<=b/\b<w.heap.size
 heads:GX w
 shapes:GU w
 g1:2<base
 g2:3<base
 g3:base<=w.heap.size
structure Ah (w:Xh) (tag:Nat->RT) (w':Xh) (tag':Nat->RT):Prop where
 os:w'.os=w.os
 tape:w'.tape=w.tape
 output:w'.output=w.output
 size:w.heap.size<=w'.heap.size
 tags:∀b,b<w.heap.size->tag' b=tag b
 block:∀b,b<w.heap.size->tag b = .o->w'.heap[b]?=w.heap[b]?
theorem Ah.refl (w:Xh) (a:Nat->RT):Ah w a w a:=⟨rfl,rfl,rfl,Nat.le_refl _,λ_ _=>rfl,λ_ _ _=>rfl⟩
theorem Ah.trans {w w' d:Xh} {t t' f:Nat->RT} (h:Ah w t w' t') (c:Ah w' t' d f):Ah w t d f:=
 ⟨c.os.trans h.os,c.tape.trans h.tape,c.output.trans h.output,Xu h.size c.size,λb a=>(c.tags b (XK a h.size)).trans (h.tags b a),λb a e=>(c.block b (XK a h.size) ((h.tags b a).trans e)).trans (h.block b a e)⟩
theorem Ah.CH {w w':Xh} {t:Nat->RT} (h:Below w.heap.size w w'):Ah w t w' t:=⟨h.os,h.tape,h.output,h.size,λ_ _=>rfl,λb a _=>h.block b a⟩
section
variable {w w':Xh} {tag tag':Nat->RT} {base rb nb lb:Nat} {G:RG}
theorem Mh.kept {v:Option Xk} {e:Option (Int×Nat)} (h:Mh w tag v e) (a:∀b,tag b = .en->w'.heap[b]?=w.heap[b]?/\tag' b = .en):Mh w' tag' v e:=by
 match e,h with
 |none,h=>exact h
 |some (k,n),⟨b,h1,h2,h3⟩=>exact⟨b,h1,(a b h3).1.trans h2,(a b h3).2⟩
theorem EK.kept {b:Nat} {N:Tx->Option (Int×Nat)} (h:EK w tag b N) (c:w'.heap[b]?=w.heap[b]?) (a:∀b,tag b = .en->w'.heap[b]?=w.heap[b]?/\tag' b = .en):EK w' tag' b N:=by
 obtain⟨f,n,d,e⟩:=h
 exact⟨f,n,d.same c,λt=>(e t).kept a⟩
theorem BA {base e a n:Nat} {v:Xk} {b:List Xk} (h:w.ownsRow base e a v n b) (d:∀g,v.ownBlock=some g->w'.heap[g]?=w.heap[g]?):w'.ownsRow base e a v n b:=by
 refine⟨h.1,?_⟩
 rcases h.2 with f|⟨g,cap,i,rfl,c,j,rest⟩
 ·exact .inl f
 ·exact .inr ⟨g,cap,i,rfl,c,(d g rfl).trans j,rest⟩
theorem Du.kept {e:YM} {k:Int} {v:Xk} {a:List Xk} (h:Du w tag base e k v a) (c:∀b,tag b = .row k->w'.heap[b]?=w.heap[b]?/\tag' b = .row k):Du w' tag' base e k v a:=
 ⟨BA h.row λg e=>(c g (h.tg g e)).1,λg e=>(c g (h.tg g e)).2⟩
theorem KG.kept {a:Nat} {c:EW} (h:KG w tag base a c) (d:∀b,(tag b = .en\/tag b = .bd a\/tag b = .cd a\/tag b = .lb a)->w'.heap[b]?=w.heap[b]?/\tag' b=tag b):KG w' tag' base a c:=by
 refine⟨(d a (.inr (.inl h.ta))).1.trans h.cell,BA h.code λg e=>(d g (.inr (.inr (.inl (h.tcode g e))))).1,λg e=>(d g (.inr (.inr (.inl (h.tcode g e))))).2.trans (h.tcode g e),h.labs.kept (d c.lm (.inr (.inr (.inr h.tl)))).1 (λb e=>?_),(d a (.inr (.inl h.ta))).2.trans h.ta,(d c.lm (.inr (.inr (.inr h.tl)))).2.trans h.tl⟩;have:=d b (.inl e)
 exact⟨this.1,this.2.trans e⟩
theorem KF.kept {c:Cc} (h:KF w tag c) (a:∀b,tag b = .clo->w'.heap[b]?=w.heap[b]?/\tag' b = .clo):KF w' tag' c:=
 ⟨(a _ h.t0).1.trans h.d0,(a _ h.t1).1.trans h.d1,(a _ h.t2).1.trans h.d2,(a _ h.t3).1.trans h.d3,(a _ h.t4).1.trans h.d4,(a _ h.t0).2,(a _ h.t1).2,(a _ h.t2).2,(a _ h.t3).2,(a _ h.t4).2⟩
theorem Al.lt (h:Al w tag base rb nb lb G) {b:Nat} {g:RT} (e:tag b=g) (a:g≠.o):b<w.heap.size:=(h.tlt b (by rw[e];exact a)).2
theorem Al.low (h:Al w tag base rb nb lb G) {b:Nat} (e:b<base):tag b = .o:=by
 cases a:tag b with
 |o=>rfl
 |_=>exact absurd (h.tlt b (by rw[a];simp)).1 (by omega)
theorem GX.kept (h:GX w) (a:w'.heap[2]?=w.heap[2]?):GX w':=by
 obtain⟨fr,h⟩:=h;exact⟨fr,a.trans h⟩
theorem GU.kept (h:GU w) (a:w'.heap[3]?=w.heap[3]?):GU w':=by
 obtain⟨fr,h⟩:=h;exact⟨fr,a.trans h⟩
theorem Al.step (h:Al w tag base rb nb lb G) {f:RG} (C:RT->Prop) (p:Ah w tag w' tag') (Q:∀b,b<w.heap.size->tag b≠.o->¬C (tag b)->w'.heap[b]?=w.heap[b]?)
 (E:∀b,w.heap.size<=b->tag' b≠.o->b<w'.heap.size)
 (z:w'.heap[rb]?=some (.cells #[.int .i64 f.line,f.V 118,f.V 102,f.V 109,.slice none 0 0,f.V 116,f.bV,.map (some nb),.map (some lb),f.lV] 145))
 (A:∀k,AU k->(f.V k=G.V k/\f.nms k=G.nms k/\¬C (.row k))\/Du w' tag' base 9 k (f.V k) ((f.nms k).map BV))
 (M:(f.bV=G.bV/\f.bods=G.bods/\¬C (.row 0))\/Du w' tag' base 240 0 f.bV (f.bods.map Ab))
 (F:(f.lV=G.lV/\f.las=G.las/\¬C (.row 1))\/Du w' tag' base 1 1 f.lV (f.las.map Cc.val))
 (S:(f.N=G.N/\¬C .nm)\/EK w' tag' nb f.N)
 (U:¬C .li) (u:¬C .en) (K:¬C .clo)
 (T:∀a c,f.B a=some c->(G.B a=some c/\¬C (.bd a)/\¬C (.cd a)/\¬C (.lb a))\/KG w' tag' base a c)
 (H:∀a i,f.I a=some i->(G.I a=some i/\w'.heap[a]?=w.heap[a]?)\/(w'.heap[a]?=some (.cells (Bv i) 108)/\tag' a = .ins))
 (O:∀c,c∈f.las->c∈G.las\/KF w' tag' c):Al w' tag' base rb nb lb f:=by
 have key:∀{b:Nat} {g:RT},tag b=g->g≠.o->¬C g->w'.heap[b]?=w.heap[b]?/\tag' b=g:=λ{b g} e r W=>by
  have q:=h.lt e r
  exact⟨Q b q (by rw[e];exact r) (by rw[e];exact W),(p.tags b q).trans e⟩
 have s:∀{b:Nat} {g:RT},tag b=g->g≠.o->tag' b=g:=λ{b g} e r=>(p.tags b (h.lt e r)).trans e;have y:=h.g1;have x:=h.g2;have D:=h.g3;refine⟨z,λk v=>?_,?_,?_,?_,?_,λa c t=>?_,λa i J=>?_,λc t=>?_,s h.trd (by simp),s h.tnm (by simp),s h.tli (by simp),λb d=>?_,h.heads.kept (p.block _ (by omega) (h.low y)),h.shapes.kept (p.block _ (by omega) (h.low x)),y,x,Xu D p.size⟩
 ·rcases A k v with⟨l,j,m⟩|e
  ·rw[l,j];exact(h.rows k v).kept λb d=>key d (by simp) m
  ·exact e
 ·rcases M with⟨l,j,m⟩|e
  ·rw[l,j];exact h.brow.kept λb d=>key d (by simp) m
  ·exact e
 ·rcases F with⟨l,j,m⟩|e
  ·rw[l,j];exact h.lrow.kept λb d=>key d (by simp) m
  ·exact e
 ·rcases S with⟨l,j⟩|e
  ·rw[l];exact h.names.kept (key h.tnm (by simp) j).1 λb d=>key d (by simp) u
  ·exact e
 ·obtain⟨n,R⟩:=h.lists
  exact⟨n,R.same (key h.tli (by simp) U).1⟩
 ·rcases T a c t with⟨l,j,m,P⟩|e
  ·refine(h.bodies a c l).kept λb d=>?_
   rcases d with d|d|d|d
   ·rw[d];exact key d (by simp) u
   ·rw[d];exact key d (by simp) j
   ·rw[d];exact key d (by simp) m
   ·rw[d];exact key d (by simp) P
  ·exact e
 ·rcases H a i J with⟨l,j⟩|e
  ·have:=h.ins a i l
   exact⟨j.trans this.1,s this.2 (by simp)⟩
  ·exact e
 ·rcases O c t with e|e
  ·exact(h.clos c e).kept λb d=>key d (by simp) K
  ·exact e
 ·by_cases q:b<w.heap.size
  ·rw[p.tags b q] at d;have:=h.tlt b d
   exact⟨this.1,XK q p.size⟩
  ·exact⟨by omega,E b (by omega) d⟩
theorem Al.keep (h:Al w tag base rb nb lb G) (d:∀b,b<w.heap.size->w'.heap[b]?=w.heap[b]?) (l:Ah w tag w' tag):Al w' tag base rb nb lb G:=
 h.step (λ_=>False) l (λb g _ _=>d b g) (λb g e=>absurd (h.tlt b e).2 (by omega)) ((d rb (h.lt h.trd (by simp))).trans h.cell)
  (λk _=>.inl ⟨rfl,rfl,id⟩) (.inl ⟨rfl,rfl,id⟩) (.inl ⟨rfl,rfl,id⟩) (.inl ⟨rfl,id⟩) id id id (λa c f=>.inl ⟨f,id,id,id⟩) (λa i j=>.inl ⟨j,d a (h.lt (h.ins a i j).2 (by simp))⟩) (λc f=>.inl f)
theorem Al.below (h:Al w tag base rb nb lb G) (a:Below w.heap.size w w'):Al w' tag base rb nb lb G:=h.keep a.block (.CH a)
end
end Go.Proofs.YtdcacoifehkioaaGreatDoor
