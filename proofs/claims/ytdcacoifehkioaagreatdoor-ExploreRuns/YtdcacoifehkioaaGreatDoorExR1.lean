import Derived.Test.YtdcacoifehkioaaGreatDoorExR0
import Derived.Laws.StructEq
import Derived.Laws.IdiomRangeMap
import Derived.MapKept
import Derived.Test.YtdcacoifehkioaaGreatDoorChecked
import Derived.WalkKit
import Derived.ProofKit
import Derived.Below
import Derived.Laws.AppendOwn
import Derived.OwnWalkIn
import Derived.Laws.Rows
open Go renaming Value->Xj,TypeId->YD,World->Xg,MapEntry->YT,run_underlying->Zp
open Go.Instr renaming findNow->adA,lookup->Y3,mapUpdate->Ys
open Nat renaming zero_add->X8,add_mul->ac3,le_trans->Xu,lt_of_lt_of_le->XF
open Go.MapKept renaming run_findKey->ac2,run_getObj_map->YQ
open Array renaming getElem?_eq_some_iff->Xa,getElem?_toList->Yv,getElem?_modify->ZU,toList_push->adh
open List renaming mem_of_getElem?->Xz,getElem?_of_mem->Zk,getElem?_map->Xp,length_append->Xd,size_toArray->Ym
set_option linter.unusedVariables false
set_option linter.unusedSimpArgs false
namespace Go.Proofs.YtdcacoifehkioaaGreatDoor
open Go.RowKit
structure Gv {κ:Type} (enc:κ->Xj) (K:YD):Prop where
 inj:∀{a b:κ},enc a=enc b->a=b
 check:∀(e:Bool) (d:κ) (w:Xg),(Instr.checkKey e 10000 K (enc d)).run Tryz.prog w = .ok () w
 find:∀(d:κ) (w:Xg) (es:List YT),(∀e,e∈es->∃d',e.key=enc d')->
  (∃j e,es[j]?=some e/\e.key=enc d/\(Instr.findKey K (enc d) es).run Tryz.prog w = .ok (some (j,e.val)) w)\/((∀e,e∈es->e.key≠enc d)/\(Instr.findKey K (enc d) es).run Tryz.prog w = .ok none w)
 stays:∀(d:κ) (w:Xg),(Instr.keyThatStays (enc d) (enc d)).run Tryz.prog w = .ok (enc d) w
def ik (i:Int):Xj:=.int .i64 i
theorem QB {a b:Int} (h:ik a=ik b):a=b:=by simpa [ik] using h
theorem aah {K:YD} (m:Tryz.prog.underlying K=some (.int .i64)):Gv ik K:=by
 refine⟨QB,λe d w=>MapKept.run_checkKey m (show MapKept.IsKey (.int .i64) (.int .i64 d) from rfl) e 9999,λd w a k=>?_,λd w=>MapKept.run_keyThatStays (show MapKept.IsKey (.int .i64) (.int .i64 d) from rfl)⟩;have key:∀(a:List YT) (i:Nat),(∀e,e∈a->∃n,e.key=ik n)->(∃j e,a[j]?=some e/\e.key=ik d/\adA (.int .i64) (ik d) a i=some (some (i+j,e.val)))\/((∀e,e∈a->e.key≠ik d)/\adA (.int .i64) (ik d) a i=some none):=by
  intro a
  induction a with
  |nil=>intro i _;exact .inr ⟨(λe l=>by cases l),rfl⟩
  |cons e a r=>
   intro i k;obtain⟨n,f⟩:=k e (by simp)
   by_cases h:d=n
   ·subst h;exact .inl ⟨0,e,rfl,f,by simp[adA,f,ik,Instr.sameNow]⟩
   ·have q:Instr.sameNow (.int .i64) (ik d) e.key=some false:=by rw[f];simp[ik,Instr.sameNow,h]
    rcases r (i+1) (λe l=>k e (by simp[l])) with⟨j,o,c,b,g⟩|⟨c,b⟩
    ·refine .inl ⟨j+1,o,by simpa using c,b,?_⟩;simp only[adA,q,g];rw[show i+1+j=i+(j+1) from by omega]
    ·refine .inr ⟨λo p=>?_,by simp only[adA,q,b]⟩
     rcases List.mem_cons.1 p with rfl|p
     ·rw[f];exact λe=>h (QB e).symm
     ·exact c o p
 rcases key a 0 k with⟨j,e,c,b,g⟩|⟨c,b⟩
 ·rw[X8] at g;exact .inl ⟨j,e,c,b,ac2 m g⟩
 ·exact .inr ⟨c,ac2 m b⟩
structure Gx {κ:Type} (enc:κ->Xj) (es:Array YT) (clock:Nat) (f:κ->Option Xj):Prop where
 stamped:MapKept.Stamped es clock
 mem:∀e,e∈es.toList->∃k,e.key=enc k/\f k=some e.val
 has:∀k v,f k=some v->∃e,e∈es.toList/\e.key=enc k
def Av {κ:Type} (enc:κ->Xj) (w:Xg) (b:Nat) (f:κ->Option Xj) (n:Nat):Prop:=
 ∃es clock,w.heap[b]?=some (.map es clock)/\Gx enc es clock f/\es.size=n
variable {κ:Type} {enc:κ->Xj} {K:YD}
theorem Av.lt {w:Xg} {b n:Nat} {f:κ->Option Xj} (h:Av enc w b f n):b<w.heap.size:=by
 obtain⟨c,d,a,_⟩:=h;exact(Xa.1 a).1
theorem Av.same {w w':Xg} {b n:Nat} {f:κ->Option Xj} (h:Av enc w b f n) (a:w'.heap[b]?=w.heap[b]?):Av enc w' b f n:=by
 obtain⟨d,e,c,g⟩:=h;exact⟨d,e,a.trans c,g⟩
theorem Av.made (w:Xg):Av enc (w.alloc (.map #[] 0)) w.heap.size (λ_=>none) 0:=
 ⟨#[],0,heap_alloc_new w _,⟨MapKept.stamped_empty 0,(λe a=>by simp at a),(λd v h=>by cases h)⟩,rfl⟩
theorem Gx.congr {a:Array YT} {b:Nat} {f g:κ->Option Xj} (h:Gx enc a b f) (c:∀k,g k=f k):Gx enc a b g:=by
 have:g=f:=funext c;rw[this];exact h
theorem Av.congr {w:Xg} {b n:Nat} {f g:κ->Option Xj} (h:Av enc w b f n) (a:∀k,g k=f k):Av enc w b g n:=by
 have:g=f:=funext a;rw[this];exact h
theorem Gx.key {a:Array YT} {i:Nat} {f:κ->Option Xj} (d:Gv enc K) (h:Gx enc a i f) {e:YT} {k:κ} (b:e∈a.toList) (c:e.key=enc k):f k=some e.val:=by
 obtain⟨k',g,j⟩:=h.mem e b
 obtain rfl:=d.inj (c.symm.trans g)
 exact j
theorem Gx.found {b:Array YT} {n:Nat} {f:κ->Option Xj} (g:Gv enc K) (h:Gx enc b n f) (k:κ) (w:Xg) :
 (∃j e,b[j]?=some e/\e.key=enc k/\f k=some e.val/\(Instr.findKey K (enc k) b.toList).run Tryz.prog w = .ok (some (j,e.val)) w)\/(f k=none/\(∀e,e∈b.toList->e.key≠enc k)/\(Instr.findKey K (enc k) b.toList).run Tryz.prog w = .ok none w):=by
 rcases g.find k w b.toList (λe d=>by obtain⟨k',a,_⟩:=h.mem e d;exact⟨k',a⟩) with⟨j,e,a,c,i⟩|⟨a,c⟩
 ·exact .inl ⟨j,e,by simpa using a,c,h.key g (Xz a) c,i⟩
 ·refine .inr ⟨?_,a,c⟩
  cases m:f k with
  |none=>rfl
  |some v=>obtain⟨e,d,l⟩:=h.has k v m;exact absurd l (a e d)
theorem Av.look {w:Xg} {b n:Nat} {f:κ->Option Xj} (h:Av enc w b f n) {T E:YD} (a:Gv enc K) (d:Tryz.prog.underlying T=some (.map K E)) {z:Xj} (i:(zeroValue E).run Tryz.prog w = .ok z w) (k:κ) :
 (Y3 T (.map (some b)) (enc k) false).run Tryz.prog w = .ok ((f k).getD z) w:=by
 obtain⟨p,o,g,h,_⟩:=h
 rcases h.found a k w with⟨j,e,_,_,c,m⟩|⟨l,_,c⟩
 ·simp[Y3,Zp d,YQ g,a.check,m,c]
 ·simp[Y3,Zp d,YQ g,a.check,c,l,i]
theorem Av.Wq {w:Xg} {b n:Nat} {f:κ->Option Xj} (h:Av enc w b f n) {T E:YD} (a:Gv enc K) (d:Tryz.prog.underlying T=some (.map K E)) {z:Xj} (i:(zeroValue E).run Tryz.prog w = .ok z w) (k:κ) :
 (Y3 T (.map (some b)) (enc k) true).run Tryz.prog w = .ok (.tuple #[(f k).getD z,.bool (f k).isSome]) w:=by
 obtain⟨p,o,g,h,_⟩:=h
 rcases h.found a k w with⟨j,e,_,_,c,m⟩|⟨l,_,c⟩
 ·simp[Y3,Zp d,YQ g,a.check,m,c]
 ·simp[Y3,Zp d,YQ g,a.check,c,l,i]
def Be [DecidableEq κ] (f:κ->Option Xj) (d:κ) (v:Xj):κ->Option Xj:=λx=>if x=d then some v else f x
theorem JQ [DecidableEq κ] (f:κ->Option Xj) (d:κ) (v:Xj):Be f d v d=some v:=by simp[Be]
theorem Cg [DecidableEq κ] {f:κ->Option Xj} {d x:κ} (v:Xj) (h:x≠d):Be f d v x=f x:=by simp[Be,h]
theorem QH (w:Xg) (b:Nat) (o:Obj):w.grownBy {w with heap:=w.heap.setIfInBounds b o} (some b):=
 ⟨rfl,rfl,rfl,by simp,λk c a=>by simp only[Array.getElem?_setIfInBounds];rw[if_neg (λe=>a (by rw[e]))]⟩
theorem VW {b:Array YT} {j:Nat} {g:YT->YT} {e:YT} (f:b[j]?=some e) {x:YT} (d:x∈(b.modify j g).toList):x=g e\/(x∈b.toList/\∃i,i≠j/\b[i]?=some x):=by
 obtain⟨i,a⟩:=Zk d;rw[Yv,ZU] at a
 by_cases c:j=i
 ·subst c;rw[if_pos rfl,f] at a;cases a;exact .inl rfl
 ·rw[if_neg c] at a;exact .inr ⟨Xz (i:=i) (by simpa using a),i,λe=>c e.symm,a⟩
theorem Pu {a:Array YT} {j:Nat} {g:YT->YT} {e:YT} (c:a[j]?=some e):g e∈(a.modify j g).toList/\∀i x,i≠j->a[i]?=some x->x∈(a.modify j g).toList:=by
 refine⟨Xz (i:=j) (by rw[Yv,ZU,if_pos rfl,c];rfl),λi x d b=>Xz (i:=i) (by rw[Yv,ZU,if_neg (λe=>d e.symm)];exact b)⟩
theorem aau {a:Array YT} {k:Nat} (h:MapKept.Stamped a k) {i j:Nat} {x y:YT} (b:a[i]?=some x) (l:a[j]?=some y) (e:x.key=y.key):i=j:=by
 have d:=h.2.2;have c:i<a.toList.length:=by simpa using (Xa.1 b).1
 have f:(a.toList.map (·.key))[i]?=some x.key:=by rw[Xp,Yv,b];rfl
 have g:(a.toList.map (·.key))[j]?=some x.key:=by rw[Xp,Yv,l,e];rfl
 exact(List.getElem?_inj (by simpa using c) d).1 (f.trans g.symm)
theorem Av.put [DecidableEq κ] {w:Xg} {b n:Nat} {f:κ->Option Xj} (h:Av enc w b f n) {T E:YD} (s:Gv enc K) (F:Tryz.prog.underlying T=some (.map K E)) (d:κ) (v:Xj) :
 ∃w',(Ys T (.map (some b)) (enc d) v).run Tryz.prog w = .ok () w'/\Av enc w' b (Be f d v) (if (f d).isSome then n else n+1)/\w.grownBy w' (some b)/\w'.heap.size=w.heap.size:=by
 obtain⟨G,u,t,h,D⟩:=h;have N:=(Xa.1 t).1;have C:∀o:Obj,({w with heap:=w.heap.setIfInBounds b o}:Xg).heap[b]?=some o:=λo=>by simp[N]
 rcases h.found s d w with⟨j,e,g,l,A,I⟩|⟨g,l,A⟩
 ·refine⟨{w with heap:=w.heap.setIfInBounds b (.map (G.modify j λk=>{k with key:=enc d,val:=v}) u)},?_,⟨_,_,C _,⟨?_,λx a=>?_,λc z r=>?_⟩,by simp[A,D]⟩,QH _ _ _,by simp⟩
  ·simp[Ys,Zp F,YQ t,s.check,I,g,l,s.stays,MapKept.run_setObj_map _ t,Result.andThen]
  ·exact MapKept.stamped_modify h.stamped j _ (λ_ _=>rfl) (λx _ a=>by rw[g] at a;cases a;exact l.symm)
  ·rcases VW g a with rfl|⟨J,i,m,M⟩
   ·exact⟨d,rfl,JQ _ _ _⟩
   ·obtain⟨c,q,B⟩:=h.mem x J;refine⟨c,q,?_⟩;rw[Cg v (λk=>m (aau h.stamped M g (by rw[q,k,l])))];exact B
  ·by_cases p:c=d
   ·subst p
    exact⟨_,(Pu g).1,rfl⟩
   ·rw[Cg v p] at r;obtain⟨x,a,y⟩:=h.has c z r;obtain⟨i,m⟩:=Zk a;rw[Yv] at m;have H:i≠j:=λk=>by subst k;rw[g] at m;cases m;exact p (s.inj (y.symm.trans l))
    exact⟨x,(Pu g).2 i x H m,y⟩
 ·refine⟨{w with heap:=w.heap.setIfInBounds b (.map (G.push {key:=enc d,val:=v,born:=u}) (u+1))},?_,⟨_,_,C _,⟨MapKept.stamped_push h.stamped l,λx a=>?_,λc z r=>?_⟩,by simp[g,D]⟩,QH _ _ _,by simp⟩
  ·simp[Ys,Zp F,YQ t,s.check,A,MapKept.run_setObj_map _ t,Result.andThen]
  ·rw[adh,List.mem_append,List.mem_singleton] at a
   rcases a with a|rfl
   ·obtain⟨c,q,B⟩:=h.mem x a
    exact⟨c,q,by rw[Cg v (λk=>l x a (by rw[q,k]))];exact B⟩
   ·exact⟨d,rfl,JQ _ _ _⟩
  ·by_cases p:c=d
   ·subst p
    exact⟨{key:=enc c,val:=v,born:=u},by rw[adh];simp,rfl⟩
   ·rw[Cg v p] at r;obtain⟨x,a,y⟩:=h.has c z r
    exact⟨x,by rw[adh];exact List.mem_append_left _ a,y⟩
theorem Av.len {w:Xg} {b n:Nat} {f:κ->Option Xj} (h:Av enc w b f n) {T E:YD} (d:Tryz.prog.underlying T=some (.map K E)) (a:YD) :
 (Builtin.len_ #[T] a #[.map (some b)]).run Tryz.prog w = .ok (goInt n) w:=by
 obtain⟨g,i,e,h,c⟩:=h;simp[Builtin.len_,Zp d,YQ e,c]
def acX (w:Xg) (r b:Nat):Nat:=match w.heap[r]?,w.heap[b]? with
 |some (.mapIter _ _ seen _),some (.map es _)=>(leftOf es seen).size
 |_,_=>0
def Gw (enc:κ->Xj) (w:Xg) (r b:Nat) (f:κ->Option Xj) (left:κ->Prop):Prop:=
 ∃es clock since seen c0,w.heap[b]?=some (.map es clock)/\Gx enc es clock f/\w.heap[r]?=some (.mapIter (some b) since seen c0)/\since<=c0/\since<=clock/\(∀e,e∈es.toList->e.born<since)/\
  (∀k,left k↔∃e,e∈es.toList/\e.key=enc k/\seen.contains e.born=false)
theorem Gw.same {w w':Xg} {r b:Nat} {f:κ->Option Xj} {left:κ->Prop} (h:Gw enc w r b f left) (c:w'.heap[r]?=w.heap[r]?) (g:w'.heap[b]?=w.heap[b]?):Gw enc w' r b f left:=by
 obtain⟨j,l,a,m,d,i,n,e,k⟩:=h
 exact⟨j,l,a,m,d,g.trans i,n,c.trans e,k⟩
theorem Gw.map {w:Xg} {r b:Nat} {f:κ->Option Xj} {left:κ->Prop} (h:Gw enc w r b f left):∃n,Av enc w b f n:=by
 obtain⟨c,d,g,j,i,a,e,_⟩:=h
 exact⟨_,c,d,a,e,rfl⟩
theorem Gw.ne {w:Xg} {r b:Nat} {f:κ->Option Xj} {left:κ->Prop} (h:Gw enc w r b f left):b≠r:=by
 obtain⟨g,j,d,k,e,c,l,a,i⟩:=h;rintro rfl;rw[c] at a;cases a
theorem Gw.lt {w:Xg} {r b:Nat} {f:κ->Option Xj} {left:κ->Prop} (h:Gw enc w r b f left):r<w.heap.size:=by
 obtain⟨g,j,c,k,d,e,l,a,i⟩:=h
 exact(Xa.1 a).1
theorem aaE (w:Xg) (o:Obj):(w.alloc o).heap[w.heap.size]?=some o:=by
 show (w.heap.push o)[w.heap.size]?=some o;exact Array.getElem?_push_size
section
variable {P:Program} (w:Xg)
end
section
variable {P:Program}
theorem Lo (w:Xg) (base:Nat) (t x e:YD) (i:TypeInfo) (z:Xj) (q F:Nat) (D:P.underlying t=some (.slice e)) (A:P.info? e=some i) (H:i.zero=some z)
 (M:i.size=q) (O:i.bytes=F) (X:z.cells.size=q)
 (v:Xj) (n:Nat) (d:List Xj) (h:w.ownsRow base e q v n d)
 (a:Addr) (m c:Nat) (b:List Xj) (T:0<m) (o:b.length=m*q) (C:∀j u,b[j]?=some u->w.cell? (a.add j)=some u) (N:∀u∈b,u.oneCell'=true)
 (J:n+m<=maxLen) (I:(n+m)*F<=140737488355328) (W:base<=w.heap.size) :
 ∃s w',(Builtin.append_ #[t,t] x #[v,.slice (some a) m c]).run P w = .ok s w'/\w'.ownsRow base e q s (n+m) (d++b)/\w.grownBy w' v.ownBlock/\(s.ownBlock=v.ownBlock\/s.ownBlock=some w.heap.size):=by
 subst M;subst O;have aa:n+m<=9223372036854775807:=by simp only[maxLen] at J;omega
 have r:(d++b).length=(n+m)*i.size:=by rw[Xd,h.1,o,ac3]
 have new:∀(f:Nat),f<n+m->∀row:Option Nat,
  (w.drew.alloc (.cells (d.toArray++b.toArray++Builtin.zeroCells z.cells (grownCap w (n+m) f e - (n+m))) e)).ownsRow base e i.size (.slice (some ⟨w.heap.size,0,none⟩) (n+m) (grownCap w (n+m) f e)) (n+m) (d++b)/\
  w.grownBy (w.drew.alloc (.cells (d.toArray++b.toArray++Builtin.zeroCells z.cells (grownCap w (n+m) f e - (n+m))) e)) row:=by
  intro f ho row;have R:=grownCap_ge w (n+m) f e;refine⟨⟨r,.inr ⟨w.heap.size,_,_,rfl,W,aaE w.drew _,R,grownCap_le_maxLen w (n+m) f e J,?_,?_⟩⟩,⟨rfl,rfl,rfl,by simp,λk B _=>Below.heap_alloc w.drew _ k B⟩⟩
  ·rw[Array.size_append,Array.size_append,size_zeroCells,X,Ym,Ym,h.1,o,<-ac3,<-ac3]
   congr 1
   omega
  ·rw[<-r,Array.toList_append,Array.toList_append];exact List.take_left
 rcases h.2 with⟨rfl,rfl⟩|⟨g,cap,E,rfl,Q,G,ab,K,U,S⟩
 ·obtain rfl:d=[]:=List.eq_nil_of_length_eq_zero (by simpa using h.1)
  have p:=run_append_nil (P:=P) w t x e i z D A H a m c b o C T (by omega) (by have Z:=I;simp only[X8] at Z;omega);have l:=new 0 (by omega) (Value.ownBlock (.slice none 0 0));simp only[X8,List.nil_append,Array.empty_append] at l |-
  exact⟨_,_,p,l.1,l.2,.inr rfl⟩
 ·by_cases y:n+m<=cap
  ·have Y:n*i.size+b.length<=E.size:=by rw[o,U,<-ac3];exact Nat.mul_le_mul_right _ y
   have p:=run_append_room (P:=P) w t x e i D A g n cap E G a m c b o C N y Y;refine⟨_,_,p,⟨r,.inr ⟨g,cap,_,rfl,Q,setRow_heap w g E _ e _ G,y,K,?_,?_⟩⟩,⟨rfl,rfl,rfl,by simp,λk _ B=>setRow_other w g k _ (λe=>B (by simp[Value.ownBlock,e]))⟩,.inl rfl⟩
   ·rw[Ym,Xd,Xd,List.length_take,List.length_drop,Array.length_toList];omega
   ·rw[S,<-r];exact List.take_left
  ·have V:∀j u,d[j]?=some u->w.cell? ((⟨g,0,none⟩:Addr).add j)=some u:=h.cells (g:=g) rfl;have p:=run_append_grow (P:=P) w t x e i z D A H ⟨g,0,none⟩ n cap d h.1 V a m c b o C (by omega) (by omega) (growslice_fits (by omega) I);have l:=new cap (by omega) (Value.ownBlock (.slice (some ⟨g,0,none⟩) n cap))
   exact⟨_,_,p,l.1,l.2,.inr rfl⟩
end
end Go.Proofs.YtdcacoifehkioaaGreatDoor
namespace Go.Proofs.YtdcacoifehkioaaGreatDoor
open Go.RowKit Go.Proofs.Cod
def BB (p:Tx):Xj:=.string (bs p)
def Ab (b:Nat):Xj:=.pointer (some ⟨b,0,none⟩)
def El (e l:Int):List PanicEntry:=[{v:=.iface 138 (.agg #[.int .i64 e,.int .i64 l]),recovered:=false}]
inductive RT where
 |o|rd|nm|li|en|ins|clo
 |row (k:Int)
 |bd (a:Nat)
 |cd (a:Nat)
 |lb (a:Nat)
structure Ac where
 op:Tx
 r:Int
 aR:Bool
 aN:Int
 bR:Bool
 bN:Int
 x:Int
def Bd (i:Ac):Array Xj := #[.string (bs i.op),.int .i64 i.r,.bool i.aR,.int .i64 i.aN,.bool i.bR,.int .i64 i.bN,.int .i64 i.x]
structure DM where
 lm:Nat
 cv:Xj
 ins:List Nat
 labs:Tx->Option Nat
structure BA where
 ia:Nat
 tb:Nat
 kd:Int
 nm:Tx
 ln:Int
 c0:Nat
 c1:Nat
 c2:Nat
 c3:Nat
 c4:Nat
def BA.val (c:BA):Xj:=.func (.func 228) #[] #[Ab c.c0,Ab c.c1,Ab c.c2,Ab c.c3,Ab c.c4]
structure RG where
 line:Int
 nms:Int->List Tx
 V:Int->Xj
 bods:List Nat
 bV:Xj
 B:Nat->Option DM
 N:Tx->Option (Int×Nat)
 I:Nat->Option Ac
 las:List BA
 lV:Xj
def sk (t:Tx):Xj:=.string (bs t)
theorem TJ {a b:Tx} (h:sk a=sk b):a=b:=by
 simp only[sk,Value.string.injEq] at h;exact ach h
def uk (k:Int):Xj:=.int .u8 k
def AH (k:Int):Prop:=k=118\/k=102\/k=109\/k=116
def BN (k:Int):Nat:=if k=118 then 1 else if k=102 then 2 else if k=109 then 3 else 5
open Classical in
def FB (rb:Nat) (k:Int):Option Xj:=if k=118\/k=102\/k=109\/k=116 then some (.pointer (some ⟨rb,BN k,none⟩)) else none
def KN (w:Xg) (tag:Nat->RT) (v:Option Xj) (e:Option (Int×Nat)):Prop:=
 match e with
 |none=>v=none
 |some (k,n)=>∃b,v=some (Ab b)/\w.heap[b]?=some (.cells #[.int .u8 k,.int .i64 n] 289)/\tag b = .en
def DD (w:Xg) (tag:Nat->RT) (b:Nat) (N:Tx->Option (Int×Nat)):Prop:=∃f n,Av sk w b f n/\∀t,KN w tag (f t) (N t)
def Hr (l:Tx->Option Nat):Tx->Option (Int×Nat):=λt=>(l t).map λn=>(108,n)
structure JC (w:Xg) (tag:Nat->RT) (base a:Nat) (c:DM):Prop where
 cell:w.heap[a]?=some (.cells #[c.cv,.map (some c.lm)] 243)
 code:w.ownsRow base 244 1 c.cv c.ins.length (c.ins.map Ab)
 tcode:∀g,c.cv.ownBlock=some g->tag g = .cd a
 labs:DD w tag c.lm (Hr c.labs)
 ta:tag a = .bd a
 tl:tag c.lm = .lb a
structure JB (w:Xg) (tag:Nat->RT) (c:BA):Prop where
 d0:w.heap[c.c0]?=some (.cells #[.map (some c.tb)] 141)
 d1:w.heap[c.c1]?=some (.cells #[.int .u8 c.kd] 5)
 d2:w.heap[c.c2]?=some (.cells #[.string (bs c.nm)] 9)
 d3:w.heap[c.c3]?=some (.cells #[.int .i64 c.ln] 3)
 d4:w.heap[c.c4]?=some (.cells #[Ab c.ia] 244)
 t0:tag c.c0 = .clo
 t1:tag c.c1 = .clo
 t2:tag c.c2 = .clo
 t3:tag c.c3 = .clo
 t4:tag c.c4 = .clo
structure CB (w:Xg) (tag:Nat->RT) (base:Nat) (e:YD) (k:Int) (v:Xj) (xs:List Xj):Prop where
 row:w.ownsRow base e 1 v xs.length xs
 tg:∀g,v.ownBlock=some g->tag g = .row k
structure Ai (w:Xg) (tag:Nat->RT) (base rb nb lb:Nat) (G:RG):Prop where
 cell:w.heap[rb]?=some (.cells #[.int .i64 G.line,G.V 118,G.V 102,G.V 109,.slice none 0 0,G.V 116,G.bV,.map (some nb),.map (some lb),G.lV] 145)
 rows:∀k,AH k->CB w tag base 9 k (G.V k) ((G.nms k).map BB)
 brow:CB w tag base 240 0 G.bV (G.bods.map Ab)
 lrow:CB w tag base 1 1 G.lV (G.las.map BA.val)
 names:DD w tag nb G.N
 lists:∃n,Av uk w lb (FB rb) n
 bodies:∀a c,G.B a=some c->JC w tag base a c
 ins:∀a i,G.I a=some i->w.heap[a]?=some (.cells (Bd i) 108)/\tag a = .ins
 clos:∀c,c∈G.las->JB w tag c
 trd:tag rb = .rd
 tnm:tag nb = .nm
 tli:tag lb = .li
 tlt:∀b,tag b≠.o->base<=b/\b<w.heap.size
 heads:FQ w
 shapes:FL w
 g1:2<base
 g2:3<base
 g3:base<=w.heap.size
structure Ag (w:Xg) (tag:Nat->RT) (w':Xg) (tag':Nat->RT):Prop where
 os:w'.os=w.os
 tape:w'.tape=w.tape
 output:w'.output=w.output
 size:w.heap.size<=w'.heap.size
 tags:∀b,b<w.heap.size->tag' b=tag b
 block:∀b,b<w.heap.size->tag b = .o->w'.heap[b]?=w.heap[b]?
theorem Ag.refl (w:Xg) (a:Nat->RT):Ag w a w a:=⟨rfl,rfl,rfl,Nat.le_refl _,λ_ _=>rfl,λ_ _ _=>rfl⟩
theorem Ag.trans {w w' d:Xg} {t t' e:Nat->RT} (h:Ag w t w' t') (a:Ag w' t' d e):Ag w t d e:=
 ⟨a.os.trans h.os,a.tape.trans h.tape,a.output.trans h.output,Xu h.size a.size,λb c=>(a.tags b (XF c h.size)).trans (h.tags b c),λb c f=>(a.block b (XF c h.size) ((h.tags b c).trans f)).trans (h.block b c f)⟩
theorem Ag.Ch {w w':Xg} {t:Nat->RT} (h:Below w.heap.size w w'):Ag w t w' t:=⟨h.os,h.tape,h.output,h.size,λ_ _=>rfl,λb a _=>h.block b a⟩
section
variable {w w':Xg} {tag tag':Nat->RT} {base rb nb lb:Nat} {G:RG}
theorem KN.kept {v:Option Xj} {e:Option (Int×Nat)} (h:KN w tag v e) (a:∀b,tag b = .en->w'.heap[b]?=w.heap[b]?/\tag' b = .en):KN w' tag' v e:=by
 match e,h with
 |none,h=>exact h
 |some (k,n),⟨b,h1,h2,h3⟩=>exact⟨b,h1,(a b h3).1.trans h2,(a b h3).2⟩
theorem DD.kept {b:Nat} {N:Tx->Option (Int×Nat)} (h:DD w tag b N) (c:w'.heap[b]?=w.heap[b]?) (a:∀b,tag b = .en->w'.heap[b]?=w.heap[b]?/\tag' b = .en):DD w' tag' b N:=by
 obtain⟨f,n,d,e⟩:=h
 exact⟨f,n,d.same c,λt=>(e t).kept a⟩
theorem Bg {base e a n:Nat} {v:Xj} {b:List Xj} (h:w.ownsRow base e a v n b) (j:∀g,v.ownBlock=some g->w'.heap[g]?=w.heap[g]?):w'.ownsRow base e a v n b:=by
 refine⟨h.1,?_⟩
 rcases h.2 with c|⟨g,cap,i,rfl,f,d,rest⟩
 ·exact .inl c
 ·exact .inr ⟨g,cap,i,rfl,f,(j g rfl).trans d,rest⟩
theorem CB.kept {e:YD} {k:Int} {v:Xj} {a:List Xj} (h:CB w tag base e k v a) (c:∀b,tag b = .row k->w'.heap[b]?=w.heap[b]?/\tag' b = .row k):CB w' tag' base e k v a:=
 ⟨Bg h.row λg e=>(c g (h.tg g e)).1,λg e=>(c g (h.tg g e)).2⟩
theorem JC.kept {a:Nat} {c:DM} (h:JC w tag base a c) (d:∀b,(tag b = .en\/tag b = .bd a\/tag b = .cd a\/tag b = .lb a)->w'.heap[b]?=w.heap[b]?/\tag' b=tag b):JC w' tag' base a c:=by
 refine⟨(d a (.inr (.inl h.ta))).1.trans h.cell,Bg h.code λg e=>(d g (.inr (.inr (.inl (h.tcode g e))))).1,λg e=>(d g (.inr (.inr (.inl (h.tcode g e))))).2.trans (h.tcode g e),h.labs.kept (d c.lm (.inr (.inr (.inr h.tl)))).1 (λb e=>?_),(d a (.inr (.inl h.ta))).2.trans h.ta,(d c.lm (.inr (.inr (.inr h.tl)))).2.trans h.tl⟩;have:=d b (.inl e)
 exact⟨this.1,this.2.trans e⟩
theorem JB.kept {c:BA} (h:JB w tag c) (a:∀b,tag b = .clo->w'.heap[b]?=w.heap[b]?/\tag' b = .clo):JB w' tag' c:=
 ⟨(a _ h.t0).1.trans h.d0,(a _ h.t1).1.trans h.d1,(a _ h.t2).1.trans h.d2,(a _ h.t3).1.trans h.d3,(a _ h.t4).1.trans h.d4,(a _ h.t0).2,(a _ h.t1).2,(a _ h.t2).2,(a _ h.t3).2,(a _ h.t4).2⟩
theorem Ai.lt (h:Ai w tag base rb nb lb G) {b:Nat} {g:RT} (e:tag b=g) (a:g≠.o):b<w.heap.size:=(h.tlt b (by rw[e];exact a)).2
theorem Ai.low (h:Ai w tag base rb nb lb G) {b:Nat} (e:b<base):tag b = .o:=by
 cases a:tag b with
 |o=>rfl
 |_=>exact absurd (h.tlt b (by rw[a];simp)).1 (by omega)
theorem FQ.kept (h:FQ w) (a:w'.heap[2]?=w.heap[2]?):FQ w':=by
 obtain⟨fr,h⟩:=h;exact⟨fr,a.trans h⟩
theorem FL.kept (h:FL w) (a:w'.heap[3]?=w.heap[3]?):FL w':=by
 obtain⟨fr,h⟩:=h;exact⟨fr,a.trans h⟩
theorem Ai.step (h:Ai w tag base rb nb lb G) {f:RG} (C:RT->Prop) (p:Ag w tag w' tag') (F:∀b,b<w.heap.size->tag b≠.o->¬C (tag b)->w'.heap[b]?=w.heap[b]?)
 (U:∀b,w.heap.size<=b->tag' b≠.o->b<w'.heap.size)
 (P:w'.heap[rb]?=some (.cells #[.int .i64 f.line,f.V 118,f.V 102,f.V 109,.slice none 0 0,f.V 116,f.bV,.map (some nb),.map (some lb),f.lV] 145))
 (z:∀k,AH k->(f.V k=G.V k/\f.nms k=G.nms k/\¬C (.row k))\/CB w' tag' base 9 k (f.V k) ((f.nms k).map BB))
 (S:(f.bV=G.bV/\f.bods=G.bods/\¬C (.row 0))\/CB w' tag' base 240 0 f.bV (f.bods.map Ab))
 (T:(f.lV=G.lV/\f.las=G.las/\¬C (.row 1))\/CB w' tag' base 1 1 f.lV (f.las.map BA.val))
 (W:(f.N=G.N/\¬C .nm)\/DD w' tag' nb f.N)
 (E:¬C .li) (y:¬C .en) (Q:¬C .clo)
 (H:∀a c,f.B a=some c->(G.B a=some c/\¬C (.bd a)/\¬C (.cd a)/\¬C (.lb a))\/JC w' tag' base a c)
 (A:∀a i,f.I a=some i->(G.I a=some i/\w'.heap[a]?=w.heap[a]?)\/(w'.heap[a]?=some (.cells (Bd i) 108)/\tag' a = .ins))
 (D:∀c,c∈f.las->c∈G.las\/JB w' tag' c):Ai w' tag' base rb nb lb f:=by
 have key:∀{b:Nat} {g:RT},tag b=g->g≠.o->¬C g->w'.heap[b]?=w.heap[b]?/\tag' b=g:=λ{b g} e r R=>by
  have q:=h.lt e r
  exact⟨F b q (by rw[e];exact r) (by rw[e];exact R),(p.tags b q).trans e⟩
 have s:∀{b:Nat} {g:RT},tag b=g->g≠.o->tag' b=g:=λ{b g} e r=>(p.tags b (h.lt e r)).trans e;have u:=h.g1;have x:=h.g2;have J:=h.g3;refine⟨P,λk v=>?_,?_,?_,?_,?_,λa c t=>?_,λa i M=>?_,λc t=>?_,s h.trd (by simp),s h.tnm (by simp),s h.tli (by simp),λb d=>?_,h.heads.kept (p.block _ (by omega) (h.low u)),h.shapes.kept (p.block _ (by omega) (h.low x)),u,x,Xu J p.size⟩
 ·rcases z k v with⟨j,l,m⟩|e
  ·rw[j,l];exact(h.rows k v).kept λb d=>key d (by simp) m
  ·exact e
 ·rcases S with⟨j,l,m⟩|e
  ·rw[j,l];exact h.brow.kept λb d=>key d (by simp) m
  ·exact e
 ·rcases T with⟨j,l,m⟩|e
  ·rw[j,l];exact h.lrow.kept λb d=>key d (by simp) m
  ·exact e
 ·rcases W with⟨j,l⟩|e
  ·rw[j];exact h.names.kept (key h.tnm (by simp) l).1 λb d=>key d (by simp) y
  ·exact e
 ·obtain⟨n,O⟩:=h.lists
  exact⟨n,O.same (key h.tli (by simp) E).1⟩
 ·rcases H a c t with⟨j,l,m,K⟩|e
  ·refine(h.bodies a c j).kept λb d=>?_
   rcases d with d|d|d|d
   ·rw[d];exact key d (by simp) y
   ·rw[d];exact key d (by simp) l
   ·rw[d];exact key d (by simp) m
   ·rw[d];exact key d (by simp) K
  ·exact e
 ·rcases A a i M with⟨j,l⟩|e
  ·have:=h.ins a i j
   exact⟨l.trans this.1,s this.2 (by simp)⟩
  ·exact e
 ·rcases D c t with e|e
  ·exact(h.clos c e).kept λb d=>key d (by simp) Q
  ·exact e
 ·by_cases q:b<w.heap.size
  ·rw[p.tags b q] at d;have:=h.tlt b d
   exact⟨this.1,XF q p.size⟩
  ·exact⟨by omega,U b (by omega) d⟩
theorem Ai.keep (h:Ai w tag base rb nb lb G) (f:∀b,b<w.heap.size->w'.heap[b]?=w.heap[b]?) (l:Ag w tag w' tag):Ai w' tag base rb nb lb G:=
 h.step (λ_=>False) l (λb j _ _=>f b j) (λb j e=>absurd (h.tlt b e).2 (by omega)) ((f rb (h.lt h.trd (by simp))).trans h.cell)
  (λk _=>.inl ⟨rfl,rfl,id⟩) (.inl ⟨rfl,rfl,id⟩) (.inl ⟨rfl,rfl,id⟩) (.inl ⟨rfl,id⟩) id id id (λa c d=>.inl ⟨d,id,id,id⟩) (λa i g=>.inl ⟨g,f a (h.lt (h.ins a i g).2 (by simp))⟩) (λc d=>.inl d)
theorem Ai.below (h:Ai w tag base rb nb lb G) (a:Below w.heap.size w w'):Ai w' tag base rb nb lb G:=h.keep a.block (.Ch a)
end
end Go.Proofs.YtdcacoifehkioaaGreatDoor
