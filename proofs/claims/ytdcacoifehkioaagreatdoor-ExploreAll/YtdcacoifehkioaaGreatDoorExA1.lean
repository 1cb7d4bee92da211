import Derived.Test.YtdcacoifehkioaaGreatDoorExA0
import Derived.Laws.StructEq
import Derived.Laws.IdiomRangeMap
import Derived.MapKept
import Derived.Test.YtdcacoifehkioaaGreatDoorChecked
import Derived.WalkKit
import Derived.ProofKit
import Derived.Below
import Derived.Laws.AppendOwn
import Derived.OwnWalkIn
import Derived.Laws.Rows
open Go renaming Value->Xk,TypeId->YH,World->Xh,MapEntry->Y9,run_underlying->ZI
open Go.Instr renaming findNow->af1,lookup->Zj,mapUpdate->Yz
open Nat renaming zero_add->XD,add_mul->afE,le_trans->Xu,lt_of_lt_of_le->XF
open Go.MapKept renaming run_findKey->afD,run_getObj_map->Y6
open Array renaming getElem?_eq_some_iff->Xa,getElem?_toList->Yr,getElem?_modify->afk,toList_push->afO
open List renaming mem_of_getElem?->Xz,getElem?_of_mem->Zz,getElem?_map->Xs,length_append->Xb,size_toArray->Yt
set_option linter.unusedVariables false
set_option linter.unusedSimpArgs false
namespace Go.Proofs.YtdcacoifehkioaaGreatDoor
open Go.RowKit
structure Ht {κ:Type} (enc:κ->Xk) (K:YH):Prop where
 inj:∀{a b:κ},enc a=enc b->a=b
 check:∀(e:Bool) (d:κ) (w:Xh),(Instr.checkKey e 10000 K (enc d)).run Tryz.prog w = .ok () w
 find:∀(d:κ) (w:Xh) (es:List Y9),(∀e,e∈es->∃d',e.key=enc d')->
  (∃j e,es[j]?=some e/\e.key=enc d/\(Instr.findKey K (enc d) es).run Tryz.prog w = .ok (some (j,e.val)) w)\/((∀e,e∈es->e.key≠enc d)/\(Instr.findKey K (enc d) es).run Tryz.prog w = .ok none w)
 stays:∀(d:κ) (w:Xh),(Instr.keyThatStays (enc d) (enc d)).run Tryz.prog w = .ok (enc d) w
def ik (i:Int):Xk:=.int .i64 i
theorem Sx {a b:Int} (h:ik a=ik b):a=b:=by simpa [ik] using h
theorem acr {K:YH} (p:Tryz.prog.underlying K=some (.int .i64)):Ht ik K:=by
 refine⟨Sx,λe d w=>MapKept.run_checkKey p (show MapKept.IsKey (.int .i64) (.int .i64 d) from rfl) e 9999,λd w a g=>?_,λd w=>MapKept.run_keyThatStays (show MapKept.IsKey (.int .i64) (.int .i64 d) from rfl)⟩;have key:∀(a:List Y9) (i:Nat),(∀e,e∈a->∃m,e.key=ik m)->(∃j e,a[j]?=some e/\e.key=ik d/\af1 (.int .i64) (ik d) a i=some (some (i+j,e.val)))\/((∀e,e∈a->e.key≠ik d)/\af1 (.int .i64) (ik d) a i=some none):=by
  intro a
  induction a with
  |nil=>intro i _;exact .inr ⟨(λe l=>by cases l),rfl⟩
  |cons e a r=>
   intro i g;obtain⟨m,k⟩:=g e (by simp)
   by_cases h:d=m
   ·subst h;exact .inl ⟨0,e,rfl,k,by simp[af1,k,ik,Instr.sameNow]⟩
   ·have q:Instr.sameNow (.int .i64) (ik d) e.key=some false:=by rw[k];simp[ik,Instr.sameNow,h]
    rcases r (i+1) (λe l=>g e (by simp[l])) with⟨j,o,c,b,f⟩|⟨c,b⟩
    ·refine .inl ⟨j+1,o,by simpa using c,b,?_⟩;simp only[af1,q,f];rw[show i+1+j=i+(j+1) from by omega]
    ·refine .inr ⟨λo n=>?_,by simp only[af1,q,b]⟩
     rcases List.mem_cons.1 n with rfl|n
     ·rw[k];exact λe=>h (Sx e).symm
     ·exact c o n
 rcases key a 0 g with⟨j,e,c,b,f⟩|⟨c,b⟩
 ·rw[XD] at f;exact .inl ⟨j,e,c,b,afD p f⟩
 ·exact .inr ⟨c,afD p b⟩
structure Hv {κ:Type} (enc:κ->Xk) (es:Array Y9) (clock:Nat) (f:κ->Option Xk):Prop where
 stamped:MapKept.Stamped es clock
 mem:∀e,e∈es.toList->∃k,e.key=enc k/\f k=some e.val
 has:∀k v,f k=some v->∃e,e∈es.toList/\e.key=enc k
def AA {κ:Type} (enc:κ->Xk) (w:Xh) (b:Nat) (f:κ->Option Xk) (n:Nat):Prop:=
 ∃es clock,w.heap[b]?=some (.map es clock)/\Hv enc es clock f/\es.size=n
variable {κ:Type} {enc:κ->Xk} {K:YH}
theorem AA.lt {w:Xh} {b n:Nat} {f:κ->Option Xk} (h:AA enc w b f n):b<w.heap.size:=by
 obtain⟨d,c,a,_⟩:=h;exact(Xa.1 a).1
theorem AA.same {w w':Xh} {b n:Nat} {f:κ->Option Xk} (h:AA enc w b f n) (a:w'.heap[b]?=w.heap[b]?):AA enc w' b f n:=by
 obtain⟨g,c,e,d⟩:=h;exact⟨g,c,a.trans e,d⟩
theorem AA.made (w:Xh):AA enc (w.alloc (.map #[] 0)) w.heap.size (λ_=>none) 0:=
 ⟨#[],0,heap_alloc_new w _,⟨MapKept.stamped_empty 0,(λe a=>by simp at a),(λd v h=>by cases h)⟩,rfl⟩
theorem Hv.congr {b:Array Y9} {a:Nat} {f g:κ->Option Xk} (h:Hv enc b a f) (c:∀k,g k=f k):Hv enc b a g:=by
 have:g=f:=funext c;rw[this];exact h
theorem AA.congr {w:Xh} {b n:Nat} {f g:κ->Option Xk} (h:AA enc w b f n) (a:∀k,g k=f k):AA enc w b g n:=by
 have:g=f:=funext a;rw[this];exact h
theorem Hv.key {a:Array Y9} {c:Nat} {f:κ->Option Xk} (i:Ht enc K) (h:Hv enc a c f) {e:Y9} {k:κ} (b:e∈a.toList) (g:e.key=enc k):f k=some e.val:=by
 obtain⟨k',j,d⟩:=h.mem e b
 obtain rfl:=i.inj (g.symm.trans j)
 exact d
theorem Hv.found {b:Array Y9} {n:Nat} {f:κ->Option Xk} (g:Ht enc K) (h:Hv enc b n f) (k:κ) (w:Xh) :
 (∃j e,b[j]?=some e/\e.key=enc k/\f k=some e.val/\(Instr.findKey K (enc k) b.toList).run Tryz.prog w = .ok (some (j,e.val)) w)\/(f k=none/\(∀e,e∈b.toList->e.key≠enc k)/\(Instr.findKey K (enc k) b.toList).run Tryz.prog w = .ok none w):=by
 rcases g.find k w b.toList (λe d=>by obtain⟨k',a,_⟩:=h.mem e d;exact⟨k',a⟩) with⟨j,e,a,c,m⟩|⟨a,c⟩
 ·exact .inl ⟨j,e,by simpa using a,c,h.key g (Xz a) c,m⟩
 ·refine .inr ⟨?_,a,c⟩
  cases i:f k with
  |none=>rfl
  |some v=>obtain⟨e,d,l⟩:=h.has k v i;exact absurd l (a e d)
theorem AA.look {w:Xh} {b n:Nat} {f:κ->Option Xk} (h:AA enc w b f n) {T E:YH} (a:Ht enc K) (g:Tryz.prog.underlying T=some (.map K E)) {z:Xk} (l:(zeroValue E).run Tryz.prog w = .ok z w) (k:κ) :
 (Zj T (.map (some b)) (enc k) false).run Tryz.prog w = .ok ((f k).getD z) w:=by
 obtain⟨p,o,d,h,_⟩:=h
 rcases h.found a k w with⟨j,e,_,_,c,i⟩|⟨m,_,c⟩
 ·simp[Zj,ZI g,Y6 d,a.check,i,c]
 ·simp[Zj,ZI g,Y6 d,a.check,c,m,l]
theorem AA.abE {w:Xh} {b n:Nat} {f:κ->Option Xk} (h:AA enc w b f n) {T E:YH} (a:Ht enc K) (g:Tryz.prog.underlying T=some (.map K E)) {z:Xk} (l:(zeroValue E).run Tryz.prog w = .ok z w) (k:κ) :
 (Zj T (.map (some b)) (enc k) true).run Tryz.prog w = .ok (.tuple #[(f k).getD z,.bool (f k).isSome]) w:=by
 obtain⟨p,o,d,h,_⟩:=h
 rcases h.found a k w with⟨j,e,_,_,c,i⟩|⟨m,_,c⟩
 ·simp[Zj,ZI g,Y6 d,a.check,i,c]
 ·simp[Zj,ZI g,Y6 d,a.check,c,m,l]
def Bv [DecidableEq κ] (f:κ->Option Xk) (d:κ) (v:Xk):κ->Option Xk:=λx=>if x=d then some v else f x
theorem Lg [DecidableEq κ] (f:κ->Option Xk) (d:κ) (v:Xk):Bv f d v d=some v:=by simp[Bv]
theorem CT [DecidableEq κ] {f:κ->Option Xk} {d x:κ} (v:Xk) (h:x≠d):Bv f d v x=f x:=by simp[Bv,h]
theorem SB (w:Xh) (b:Nat) (o:Obj):w.grownBy {w with heap:=w.heap.setIfInBounds b o} (some b):=
 ⟨rfl,rfl,rfl,by simp,λk c a=>by simp only[Array.getElem?_setIfInBounds];rw[if_neg (λe=>a (by rw[e]))]⟩
theorem abm {b:Array Y9} {j:Nat} {g:Y9->Y9} {e:Y9} (d:b[j]?=some e) {x:Y9} (f:x∈(b.modify j g).toList):x=g e\/(x∈b.toList/\∃i,i≠j/\b[i]?=some x):=by
 obtain⟨i,a⟩:=Zz f;rw[Yr,afk] at a
 by_cases c:j=i
 ·subst c;rw[if_pos rfl,d] at a;cases a;exact .inl rfl
 ·rw[if_neg c] at a;exact .inr ⟨Xz (i:=i) (by simpa using a),i,λe=>c e.symm,a⟩
theorem Rs {a:Array Y9} {j:Nat} {g:Y9->Y9} {e:Y9} (c:a[j]?=some e):g e∈(a.modify j g).toList/\∀i x,i≠j->a[i]?=some x->x∈(a.modify j g).toList:=by
 refine⟨Xz (i:=j) (by rw[Yr,afk,if_pos rfl,c];rfl),λi x b d=>Xz (i:=i) (by rw[Yr,afk,if_neg (λe=>b e.symm)];exact d)⟩
theorem acD {a:Array Y9} {e:Nat} (h:MapKept.Stamped a e) {i j:Nat} {x y:Y9} (b:a[i]?=some x) (d:a[j]?=some y) (g:x.key=y.key):i=j:=by
 have k:=h.2.2;have c:i<a.toList.length:=by simpa using (Xa.1 b).1
 have f:(a.toList.map (·.key))[i]?=some x.key:=by rw[Xs,Yr,b];rfl
 have l:(a.toList.map (·.key))[j]?=some x.key:=by rw[Xs,Yr,d,g];rfl
 exact(List.getElem?_inj (by simpa using c) k).1 (f.trans l.symm)
theorem AA.put [DecidableEq κ] {w:Xh} {b n:Nat} {f:κ->Option Xk} (h:AA enc w b f n) {T E:YH} (s:Ht enc K) (D:Tryz.prog.underlying T=some (.map K E)) (d:κ) (v:Xk) :
 ∃w',(Yz T (.map (some b)) (enc d) v).run Tryz.prog w = .ok () w'/\AA enc w' b (Bv f d v) (if (f d).isSome then n else n+1)/\w.grownBy w' (some b)/\w'.heap.size=w.heap.size:=by
 obtain⟨C,u,r,h,F⟩:=h;have I:=(Xa.1 r).1;have G:∀o:Obj,({w with heap:=w.heap.setIfInBounds b o}:Xh).heap[b]?=some o:=λo=>by simp[I]
 rcases h.found s d w with⟨j,e,g,l,B,M⟩|⟨g,l,B⟩
 ·refine⟨{w with heap:=w.heap.setIfInBounds b (.map (C.modify j λk=>{k with key:=enc d,val:=v}) u)},?_,⟨_,_,G _,⟨?_,λx a=>?_,λc z q=>?_⟩,by simp[B,F]⟩,SB _ _ _,by simp⟩
  ·simp[Yz,ZI D,Y6 r,s.check,M,g,l,s.stays,MapKept.run_setObj_map _ r,Result.andThen]
  ·exact MapKept.stamped_modify h.stamped j _ (λ_ _=>rfl) (λx _ a=>by rw[g] at a;cases a;exact l.symm)
  ·rcases abm g a with rfl|⟨N,i,m,J⟩
   ·exact⟨d,rfl,Lg _ _ _⟩
   ·obtain⟨c,t,A⟩:=h.mem x N;refine⟨c,t,?_⟩;rw[CT v (λk=>m (acD h.stamped J g (by rw[t,k,l])))];exact A
  ·by_cases p:c=d
   ·subst p
    exact⟨_,(Rs g).1,rfl⟩
   ·rw[CT v p] at q;obtain⟨x,a,y⟩:=h.has c z q;obtain⟨i,m⟩:=Zz a;rw[Yr] at m;have H:i≠j:=λk=>by subst k;rw[g] at m;cases m;exact p (s.inj (y.symm.trans l))
    exact⟨x,(Rs g).2 i x H m,y⟩
 ·refine⟨{w with heap:=w.heap.setIfInBounds b (.map (C.push {key:=enc d,val:=v,born:=u}) (u+1))},?_,⟨_,_,G _,⟨MapKept.stamped_push h.stamped l,λx a=>?_,λc z q=>?_⟩,by simp[g,F]⟩,SB _ _ _,by simp⟩
  ·simp[Yz,ZI D,Y6 r,s.check,B,MapKept.run_setObj_map _ r,Result.andThen]
  ·rw[afO,List.mem_append,List.mem_singleton] at a
   rcases a with a|rfl
   ·obtain⟨c,t,A⟩:=h.mem x a
    exact⟨c,t,by rw[CT v (λk=>l x a (by rw[t,k]))];exact A⟩
   ·exact⟨d,rfl,Lg _ _ _⟩
  ·by_cases p:c=d
   ·subst p
    exact⟨{key:=enc c,val:=v,born:=u},by rw[afO];simp,rfl⟩
   ·rw[CT v p] at q;obtain⟨x,a,y⟩:=h.has c z q
    exact⟨x,by rw[afO];exact List.mem_append_left _ a,y⟩
theorem AA.len {w:Xh} {b n:Nat} {f:κ->Option Xk} (h:AA enc w b f n) {T E:YH} (d:Tryz.prog.underlying T=some (.map K E)) (c:YH) :
 (Builtin.len_ #[T] c #[.map (some b)]).run Tryz.prog w = .ok (goInt n) w:=by
 obtain⟨i,g,a,h,e⟩:=h;simp[Builtin.len_,ZI d,Y6 a,e]
def afc (w:Xh) (r b:Nat):Nat:=match w.heap[r]?,w.heap[b]? with
 |some (.mapIter _ _ seen _),some (.map es _)=>(leftOf es seen).size
 |_,_=>0
def Hu (enc:κ->Xk) (w:Xh) (r b:Nat) (f:κ->Option Xk) (left:κ->Prop):Prop:=
 ∃es clock since seen c0,w.heap[b]?=some (.map es clock)/\Hv enc es clock f/\w.heap[r]?=some (.mapIter (some b) since seen c0)/\since<=c0/\since<=clock/\(∀e,e∈es.toList->e.born<since)/\
  (∀k,left k↔∃e,e∈es.toList/\e.key=enc k/\seen.contains e.born=false)
theorem Hu.same {w w':Xh} {r b:Nat} {f:κ->Option Xk} {left:κ->Prop} (h:Hu enc w r b f left) (m:w'.heap[r]?=w.heap[r]?) (a:w'.heap[b]?=w.heap[b]?):Hu enc w' r b f left:=by
 obtain⟨j,g,c,k,c0,l,i,d,e⟩:=h
 exact⟨j,g,c,k,c0,a.trans l,i,m.trans d,e⟩
theorem Hu.map {w:Xh} {r b:Nat} {f:κ->Option Xk} {left:κ->Prop} (h:Hu enc w r b f left):∃n,AA enc w b f n:=by
 obtain⟨e,a,g,i,c0,d,c,_⟩:=h
 exact⟨_,e,a,d,c,rfl⟩
theorem Hu.ne {w:Xh} {r b:Nat} {f:κ->Option Xk} {left:κ->Prop} (h:Hu enc w r b f left):b≠r:=by
 obtain⟨k,g,d,j,c0,c,i,a,e⟩:=h;rintro rfl;rw[c] at a;cases a
theorem Hu.lt {w:Xh} {r b:Nat} {f:κ->Option Xk} {left:κ->Prop} (h:Hu enc w r b f left):r<w.heap.size:=by
 obtain⟨k,e,c,i,c0,j,g,a,d⟩:=h
 exact(Xa.1 a).1
theorem acN (w:Xh) (o:Obj):(w.alloc o).heap[w.heap.size]?=some o:=by
 show (w.heap.push o)[w.heap.size]?=some o;exact Array.getElem?_push_size
section
variable {P:Program} (w:Xh)
end
section
variable {P:Program}
theorem JO (w:Xh) (base:Nat) (t x e:YH) (i:TypeInfo) (z:Xk) (q J:Nat) (D:P.underlying t=some (.slice e)) (B:P.info? e=some i) (G:i.zero=some z)
 (M:i.size=q) (V:i.bytes=J) (Z:z.cells.size=q)
 (v:Xk) (n:Nat) (d:List Xk) (l:w.ownsRow base e q v n d)
 (a:Addr) (m c:Nat) (b:List Xk) (X:0<m) (h:b.length=m*q) (A:∀j u,b[j]?=some u->w.cell? (a.add j)=some u) (U:∀u∈b,u.oneCell'=true)
 (I:n+m<=maxLen) (F:(n+m)*J<=140737488355328) (N:base<=w.heap.size) :
 ∃r w',(Builtin.append_ #[t,t] x #[v,.slice (some a) m c]).run P w = .ok r w'/\w'.ownsRow base e q r (n+m) (d++b)/\w.grownBy w' v.ownBlock/\(r.ownBlock=v.ownBlock\/r.ownBlock=some w.heap.size):=by
 subst M;subst V;have aa:n+m<=9223372036854775807:=by simp only[maxLen] at I;omega
 have s:(d++b).length=(n+m)*i.size:=by rw[Xb,l.1,h,afE]
 have new:∀(f:Nat),f<n+m->∀row:Option Nat,
  (w.drew.alloc (.cells (d.toArray++b.toArray++Builtin.zeroCells z.cells (grownCap w (n+m) f e - (n+m))) e)).ownsRow base e i.size (.slice (some ⟨w.heap.size,0,none⟩) (n+m) (grownCap w (n+m) f e)) (n+m) (d++b)/\
  w.grownBy (w.drew.alloc (.cells (d.toArray++b.toArray++Builtin.zeroCells z.cells (grownCap w (n+m) f e - (n+m))) e)) row:=by
  intro f ho row;have K:=grownCap_ge w (n+m) f e;refine⟨⟨s,.inr ⟨w.heap.size,_,_,rfl,N,acN w.drew _,K,grownCap_le_maxLen w (n+m) f e I,?_,?_⟩⟩,⟨rfl,rfl,rfl,by simp,λk E _=>Below.heap_alloc w.drew _ k E⟩⟩
  ·rw[Array.size_append,Array.size_append,size_zeroCells,Z,Yt,Yt,l.1,h,<-afE,<-afE]
   congr 1
   omega
  ·rw[<-s,Array.toList_append,Array.toList_append];exact List.take_left
 rcases l.2 with⟨rfl,rfl⟩|⟨g,cap,C,rfl,S,H,ac,T,W,Y⟩
 ·obtain rfl:d=[]:=List.eq_nil_of_length_eq_zero (by simpa using l.1)
  have p:=run_append_nil (P:=P) w t x e i z D B G a m c b h A X (by omega) (by have R:=F;simp only[XD] at R;omega);have o:=new 0 (by omega) (Value.ownBlock (.slice none 0 0));simp only[XD,List.nil_append,Array.empty_append] at o |-
  exact⟨_,_,p,o.1,o.2,.inr rfl⟩
 ·by_cases y:n+m<=cap
  ·have O:n*i.size+b.length<=C.size:=by rw[h,W,<-afE];exact Nat.mul_le_mul_right _ y
   have p:=run_append_room (P:=P) w t x e i D B g n cap C H a m c b h A U y O;refine⟨_,_,p,⟨s,.inr ⟨g,cap,_,rfl,S,setRow_heap w g C _ e _ H,y,T,?_,?_⟩⟩,⟨rfl,rfl,rfl,by simp,λk _ E=>setRow_other w g k _ (λe=>E (by simp[Value.ownBlock,e]))⟩,.inl rfl⟩
   ·rw[Yt,Xb,Xb,List.length_take,List.length_drop,Array.length_toList];omega
   ·rw[Y,<-s];exact List.take_left
  ·have Q:∀j u,d[j]?=some u->w.cell? ((⟨g,0,none⟩:Addr).add j)=some u:=l.cells (g:=g) rfl;have p:=run_append_grow (P:=P) w t x e i z D B G ⟨g,0,none⟩ n cap d l.1 Q a m c b h A (by omega) (by omega) (growslice_fits (by omega) F);have o:=new cap (by omega) (Value.ownBlock (.slice (some ⟨g,0,none⟩) n cap))
   exact⟨_,_,p,o.1,o.2,.inr rfl⟩
end
end Go.Proofs.YtdcacoifehkioaaGreatDoor
namespace Go.Proofs.YtdcacoifehkioaaGreatDoor
open Go.RowKit Go.Proofs.Cod
def BS (p:Tx):Xk:=.string (bs p)
def Ab (b:Nat):Xk:=.pointer (some ⟨b,0,none⟩)
def FC (e l:Int):List PanicEntry:=[{v:=.iface 138 (.agg #[.int .i64 e,.int .i64 l]),recovered:=false}]
inductive RT where
 |o|rd|nm|li|en|ins|clo
 |row (k:Int)
 |bd (a:Nat)
 |cd (a:Nat)
 |lb (a:Nat)
structure Ad where
 op:Tx
 r:Int
 aR:Bool
 aN:Int
 bR:Bool
 bN:Int
 x:Int
def Br (i:Ad):Array Xk := #[.string (bs i.op),.int .i64 i.r,.bool i.aR,.int .i64 i.aN,.bool i.bR,.int .i64 i.bN,.int .i64 i.x]
structure EV where
 lm:Nat
 cv:Xk
 ins:List Nat
 labs:Tx->Option Nat
structure Ca where
 ia:Nat
 tb:Nat
 kd:Int
 nm:Tx
 ln:Int
 c0:Nat
 c1:Nat
 c2:Nat
 c3:Nat
 c4:Nat
def Ca.val (c:Ca):Xk:=.func (.func 228) #[] #[Ab c.c0,Ab c.c1,Ab c.c2,Ab c.c3,Ab c.c4]
structure RG where
 line:Int
 nms:Int->List Tx
 V:Int->Xk
 bods:List Nat
 bV:Xk
 B:Nat->Option EV
 N:Tx->Option (Int×Nat)
 I:Nat->Option Ad
 las:List Ca
 lV:Xk
def sk (t:Tx):Xk:=.string (bs t)
theorem VK {a b:Tx} (h:sk a=sk b):a=b:=by
 simp only[sk,Value.string.injEq] at h;exact aey h
def uk (k:Int):Xk:=.int .u8 k
def AR (k:Int):Prop:=k=118\/k=102\/k=109\/k=116
def Cs (k:Int):Nat:=if k=118 then 1 else if k=102 then 2 else if k=109 then 3 else 5
open Classical in
def GC (rb:Nat) (k:Int):Option Xk:=if k=118\/k=102\/k=109\/k=116 then some (.pointer (some ⟨rb,Cs k,none⟩)) else none
def Mi (w:Xh) (tag:Nat->RT) (v:Option Xk) (e:Option (Int×Nat)):Prop:=
 match e with
 |none=>v=none
 |some (k,n)=>∃b,v=some (Ab b)/\w.heap[b]?=some (.cells #[.int .u8 k,.int .i64 n] 289)/\tag b = .en
def EK (w:Xh) (tag:Nat->RT) (b:Nat) (N:Tx->Option (Int×Nat)):Prop:=∃f n,AA sk w b f n/\∀t,Mi w tag (f t) (N t)
def IL (l:Tx->Option Nat):Tx->Option (Int×Nat):=λt=>(l t).map λn=>(108,n)
structure KE (w:Xh) (tag:Nat->RT) (base a:Nat) (c:EV):Prop where
 cell:w.heap[a]?=some (.cells #[c.cv,.map (some c.lm)] 243)
 code:w.ownsRow base 244 1 c.cv c.ins.length (c.ins.map Ab)
 tcode:∀g,c.cv.ownBlock=some g->tag g = .cd a
 labs:EK w tag c.lm (IL c.labs)
 ta:tag a = .bd a
 tl:tag c.lm = .lb a
structure KD (w:Xh) (tag:Nat->RT) (c:Ca):Prop where
 d0:w.heap[c.c0]?=some (.cells #[.map (some c.tb)] 141)
 d1:w.heap[c.c1]?=some (.cells #[.int .u8 c.kd] 5)
 d2:w.heap[c.c2]?=some (.cells #[.string (bs c.nm)] 9)
 d3:w.heap[c.c3]?=some (.cells #[.int .i64 c.ln] 3)
 d4:w.heap[c.c4]?=some (.cells #[Ab c.ia] 244)
 t0:tag c.c0 = .clo
 t1:tag c.c1 = .clo
 t2:tag c.c2 = .clo
 t3:tag c.c3 = .clo
 t4:tag c.c4 = .clo
structure Dr (w:Xh) (tag:Nat->RT) (base:Nat) (e:YH) (k:Int) (v:Xk) (xs:List Xk):Prop where
 row:w.ownsRow base e 1 v xs.length xs
 tg:∀g,v.ownBlock=some g->tag g = .row k
structure Al (w:Xh) (tag:Nat->RT) (base rb nb lb:Nat) (G:RG):Prop where
 cell:w.heap[rb]?=some (.cells #[.int .i64 G.line,G.V 118,G.V 102,G.V 109,.slice none 0 0,G.V 116,G.bV,.map (some nb),.map (some lb),G.lV] 145)
 rows:∀k,AR k->Dr w tag base 9 k (G.V k) ((G.nms k).map BS)
 brow:Dr w tag base 240 0 G.bV (G.bods.map Ab)
 lrow:Dr w tag base 1 1 G.lV (G.las.map Ca.val)
 names:EK w tag nb G.N
 lists:∃n,AA uk w lb (GC rb) n
 bodies:∀a c,G.B a=some c->KE w tag base a c
 ins:∀a i,G.I a=some i->w.heap[a]?=some (.cells (Br i) 108)/\tag a = .ins
 clos:∀c,c∈G.las->KD w tag c
 trd:tag rb = .rd
 tnm:tag nb = .nm
 tli:tag lb = .li
 tlt:∀b,tag b≠.o->base<=b/\b<w.heap.size
 heads:GV w
 shapes:GT w
 g1:2<base
 g2:3<base
 g3:base<=w.heap.size
structure Ah (w:Xh) (tag:Nat->RT) (w':Xh) (tag':Nat->RT):Prop where
 os:w'.os=w.os
 tape:w'.tape=w.tape
 output:w'.output=w.output
 size:w.heap.size<=w'.heap.size
 tags:∀b,b<w.heap.size->tag' b=tag b
 block:∀b,b<w.heap.size->tag b = .o->w'.heap[b]?=w.heap[b]?
theorem Ah.refl (w:Xh) (a:Nat->RT):Ah w a w a:=⟨rfl,rfl,rfl,Nat.le_refl _,λ_ _=>rfl,λ_ _ _=>rfl⟩
theorem Ah.trans {w w' e:Xh} {t t' f:Nat->RT} (h:Ah w t w' t') (c:Ah w' t' e f):Ah w t e f:=
 ⟨c.os.trans h.os,c.tape.trans h.tape,c.output.trans h.output,Xu h.size c.size,λb a=>(c.tags b (XF a h.size)).trans (h.tags b a),λb a d=>(c.block b (XF a h.size) ((h.tags b a).trans d)).trans (h.block b a d)⟩
theorem Ah.CF {w w':Xh} {t:Nat->RT} (h:Below w.heap.size w w'):Ah w t w' t:=⟨h.os,h.tape,h.output,h.size,λ_ _=>rfl,λb a _=>h.block b a⟩
section
variable {w w':Xh} {tag tag':Nat->RT} {base rb nb lb:Nat} {G:RG}
theorem Mi.kept {v:Option Xk} {e:Option (Int×Nat)} (h:Mi w tag v e) (a:∀b,tag b = .en->w'.heap[b]?=w.heap[b]?/\tag' b = .en):Mi w' tag' v e:=by
 match e,h with
 |none,h=>exact h
 |some (k,n),⟨b,h1,h2,h3⟩=>exact⟨b,h1,(a b h3).1.trans h2,(a b h3).2⟩
theorem EK.kept {b:Nat} {N:Tx->Option (Int×Nat)} (h:EK w tag b N) (c:w'.heap[b]?=w.heap[b]?) (a:∀b,tag b = .en->w'.heap[b]?=w.heap[b]?/\tag' b = .en):EK w' tag' b N:=by
 obtain⟨f,n,e,d⟩:=h
 exact⟨f,n,e.same c,λt=>(d t).kept a⟩
theorem Bw {base e a n:Nat} {v:Xk} {b:List Xk} (h:w.ownsRow base e a v n b) (c:∀g,v.ownBlock=some g->w'.heap[g]?=w.heap[g]?):w'.ownsRow base e a v n b:=by
 refine⟨h.1,?_⟩
 rcases h.2 with d|⟨g,cap,i,rfl,f,j,rest⟩
 ·exact .inl d
 ·exact .inr ⟨g,cap,i,rfl,f,(c g rfl).trans j,rest⟩
theorem Dr.kept {e:YH} {k:Int} {v:Xk} {c:List Xk} (h:Dr w tag base e k v c) (a:∀b,tag b = .row k->w'.heap[b]?=w.heap[b]?/\tag' b = .row k):Dr w' tag' base e k v c:=
 ⟨Bw h.row λg e=>(a g (h.tg g e)).1,λg e=>(a g (h.tg g e)).2⟩
theorem KE.kept {a:Nat} {c:EV} (h:KE w tag base a c) (d:∀b,(tag b = .en\/tag b = .bd a\/tag b = .cd a\/tag b = .lb a)->w'.heap[b]?=w.heap[b]?/\tag' b=tag b):KE w' tag' base a c:=by
 refine⟨(d a (.inr (.inl h.ta))).1.trans h.cell,Bw h.code λg e=>(d g (.inr (.inr (.inl (h.tcode g e))))).1,λg e=>(d g (.inr (.inr (.inl (h.tcode g e))))).2.trans (h.tcode g e),h.labs.kept (d c.lm (.inr (.inr (.inr h.tl)))).1 (λb e=>?_),(d a (.inr (.inl h.ta))).2.trans h.ta,(d c.lm (.inr (.inr (.inr h.tl)))).2.trans h.tl⟩;have:=d b (.inl e)
 exact⟨this.1,this.2.trans e⟩
theorem KD.kept {c:Ca} (h:KD w tag c) (a:∀b,tag b = .clo->w'.heap[b]?=w.heap[b]?/\tag' b = .clo):KD w' tag' c:=
 ⟨(a _ h.t0).1.trans h.d0,(a _ h.t1).1.trans h.d1,(a _ h.t2).1.trans h.d2,(a _ h.t3).1.trans h.d3,(a _ h.t4).1.trans h.d4,(a _ h.t0).2,(a _ h.t1).2,(a _ h.t2).2,(a _ h.t3).2,(a _ h.t4).2⟩
theorem Al.lt (h:Al w tag base rb nb lb G) {b:Nat} {g:RT} (e:tag b=g) (a:g≠.o):b<w.heap.size:=(h.tlt b (by rw[e];exact a)).2
theorem Al.low (h:Al w tag base rb nb lb G) {b:Nat} (e:b<base):tag b = .o:=by
 cases a:tag b with
 |o=>rfl
 |_=>exact absurd (h.tlt b (by rw[a];simp)).1 (by omega)
theorem GV.kept (h:GV w) (a:w'.heap[2]?=w.heap[2]?):GV w':=by
 obtain⟨fr,h⟩:=h;exact⟨fr,a.trans h⟩
theorem GT.kept (h:GT w) (a:w'.heap[3]?=w.heap[3]?):GT w':=by
 obtain⟨fr,h⟩:=h;exact⟨fr,a.trans h⟩
theorem Al.step (h:Al w tag base rb nb lb G) {f:RG} (C:RT->Prop) (p:Ah w tag w' tag') (T:∀b,b<w.heap.size->tag b≠.o->¬C (tag b)->w'.heap[b]?=w.heap[b]?)
 (U:∀b,w.heap.size<=b->tag' b≠.o->b<w'.heap.size)
 (R:w'.heap[rb]?=some (.cells #[.int .i64 f.line,f.V 118,f.V 102,f.V 109,.slice none 0 0,f.V 116,f.bV,.map (some nb),.map (some lb),f.lV] 145))
 (D:∀k,AR k->(f.V k=G.V k/\f.nms k=G.nms k/\¬C (.row k))\/Dr w' tag' base 9 k (f.V k) ((f.nms k).map BS))
 (H:(f.bV=G.bV/\f.bods=G.bods/\¬C (.row 0))\/Dr w' tag' base 240 0 f.bV (f.bods.map Ab))
 (K:(f.lV=G.lV/\f.las=G.las/\¬C (.row 1))\/Dr w' tag' base 1 1 f.lV (f.las.map Ca.val))
 (W:(f.N=G.N/\¬C .nm)\/EK w' tag' nb f.N)
 (J:¬C .li) (y:¬C .en) (M:¬C .clo)
 (O:∀a c,f.B a=some c->(G.B a=some c/\¬C (.bd a)/\¬C (.cd a)/\¬C (.lb a))\/KE w' tag' base a c)
 (S:∀a i,f.I a=some i->(G.I a=some i/\w'.heap[a]?=w.heap[a]?)\/(w'.heap[a]?=some (.cells (Br i) 108)/\tag' a = .ins))
 (z:∀c,c∈f.las->c∈G.las\/KD w' tag' c):Al w' tag' base rb nb lb f:=by
 have key:∀{b:Nat} {g:RT},tag b=g->g≠.o->¬C g->w'.heap[b]?=w.heap[b]?/\tag' b=g:=λ{b g} e s F=>by
  have q:=h.lt e s
  exact⟨T b q (by rw[e];exact s) (by rw[e];exact F),(p.tags b q).trans e⟩
 have r:∀{b:Nat} {g:RT},tag b=g->g≠.o->tag' b=g:=λ{b g} e s=>(p.tags b (h.lt e s)).trans e;have x:=h.g1;have u:=h.g2;have A:=h.g3;refine⟨R,λk v=>?_,?_,?_,?_,?_,λa c t=>?_,λa i E=>?_,λc t=>?_,r h.trd (by simp),r h.tnm (by simp),r h.tli (by simp),λb d=>?_,h.heads.kept (p.block _ (by omega) (h.low x)),h.shapes.kept (p.block _ (by omega) (h.low u)),x,u,Xu A p.size⟩
 ·rcases D k v with⟨j,l,m⟩|e
  ·rw[j,l];exact(h.rows k v).kept λb d=>key d (by simp) m
  ·exact e
 ·rcases H with⟨j,l,m⟩|e
  ·rw[j,l];exact h.brow.kept λb d=>key d (by simp) m
  ·exact e
 ·rcases K with⟨j,l,m⟩|e
  ·rw[j,l];exact h.lrow.kept λb d=>key d (by simp) m
  ·exact e
 ·rcases W with⟨j,l⟩|e
  ·rw[j];exact h.names.kept (key h.tnm (by simp) l).1 λb d=>key d (by simp) y
  ·exact e
 ·obtain⟨n,Q⟩:=h.lists
  exact⟨n,Q.same (key h.tli (by simp) J).1⟩
 ·rcases O a c t with⟨j,l,m,P⟩|e
  ·refine(h.bodies a c j).kept λb d=>?_
   rcases d with d|d|d|d
   ·rw[d];exact key d (by simp) y
   ·rw[d];exact key d (by simp) l
   ·rw[d];exact key d (by simp) m
   ·rw[d];exact key d (by simp) P
  ·exact e
 ·rcases S a i E with⟨j,l⟩|e
  ·have:=h.ins a i j
   exact⟨l.trans this.1,r this.2 (by simp)⟩
  ·exact e
 ·rcases z c t with e|e
  ·exact(h.clos c e).kept λb d=>key d (by simp) M
  ·exact e
 ·by_cases q:b<w.heap.size
  ·rw[p.tags b q] at d;have:=h.tlt b d
   exact⟨this.1,XF q p.size⟩
  ·exact⟨by omega,U b (by omega) d⟩
theorem Al.keep (h:Al w tag base rb nb lb G) (d:∀b,b<w.heap.size->w'.heap[b]?=w.heap[b]?) (l:Ah w tag w' tag):Al w' tag base rb nb lb G:=
 h.step (λ_=>False) l (λb g _ _=>d b g) (λb g e=>absurd (h.tlt b e).2 (by omega)) ((d rb (h.lt h.trd (by simp))).trans h.cell)
  (λk _=>.inl ⟨rfl,rfl,id⟩) (.inl ⟨rfl,rfl,id⟩) (.inl ⟨rfl,rfl,id⟩) (.inl ⟨rfl,id⟩) id id id (λa c f=>.inl ⟨f,id,id,id⟩) (λa i j=>.inl ⟨j,d a (h.lt (h.ins a i j).2 (by simp))⟩) (λc f=>.inl f)
theorem Al.below (h:Al w tag base rb nb lb G) (a:Below w.heap.size w w'):Al w' tag base rb nb lb G:=h.keep a.block (.CF a)
end
end Go.Proofs.YtdcacoifehkioaaGreatDoor
