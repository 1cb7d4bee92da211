import Derived.Test.YtdcacoifehkioaaGreatDoorExA5
import Derived.Test.YtdcacoifehkioaaGreatDoorExA3
import Derived.Deep.RegionHeld3
open List renaming take_of_length_le->XQ,getElem?_eq_some_iff->Xf,length_map->Xp,length_take->Yc,take_succ_eq_append_getElem->XR,drop_eq_getElem_cons->X4,foldl_append->Y0,find?_append->afu,take_append_drop->YK,length_set->Yb,ext_getElem?->Y3,getElem?_set_self->YF,getElem?_set_ne->Zi,getD_eq_getElem?_getD->Xc,getElem?_take->Zf,getElem?_eq_getElem->Xe
open Nat renaming sub_self->YR,add_sub_cancel->afL,le_refl->Xd
open Go renaming World->Xh,Value->Xk,ownsRow_succ->Y5,Calls->XY,wp_region_held_drew->Xy,wpAnyH_done->Yd
open Go.Builtin renaming append_->XL
open Go.IntWalk renaming wrap64_in->XZ
set_option maxRecDepth 100000
set_option maxHeartbeats 2000000
set_option linter.unusedVariables false
set_option linter.unusedSimpArgs false
namespace Go.Proofs.YtdcacoifehkioaaGreatDoor
open Go.RowKit Go.Proofs.Cod
def Cz {α:Type} (f:α->α) (l:List α) (i:Nat):List α:=(l.take i).map f++l.drop i
theorem Jh {α:Type} (f:α->α) (l:List α) (i:Nat):(Cz f l i).length=l.length:=by simp[Cz];omega
theorem aax {α:Type} (f:α->α) (l:List α):Cz f l 0=l:=rfl
theorem QP {α:Type} (f:α->α) (l:List α) {i:Nat} (h:l.length<=i):Cz f l i=l.map f:=by simp[Cz,XQ h,List.drop_eq_nil_of_le h]
theorem Li {α:Type} (f:α->α) {l:List α} {i:Nat} {x:α} (h:l[i]?=some x):(Cz f l i)[i]?=some x:=by
 have a:=(Xf.1 h).1;unfold Cz;rw[List.getElem?_append_right (by simp;omega),Xp,Yc,Nat.min_eq_left (by omega),YR,List.getElem?_drop]
 simpa using h
theorem QO {α:Type} (f:α->α) {l:List α} {i:Nat} {x:α} (h:l[i]?=some x):(Cz f l i).set i (f x)=Cz f l (i+1):=by
 have a:=(Xf.1 h).1;have b:=(Xf.1 h).2;unfold Cz;rw[List.set_append_right _ _ (by simp;omega),Xp,Yc,Nat.min_eq_left (by omega),YR,XR a,List.map_append,List.append_assoc]
 congr 1
 rw[X4 a,b];rfl
def Gd (x:Tx) (l:List (Tx×Nat)) (a:Int):Int:=l.foldl (λa p=>if p.1=x then(p.2:Int) else a) a
theorem RY {x:Tx} {l:List (Tx×Nat)} {j:Nat} {p:Tx×Nat} (h:l[j]?=some p) (a:Int):Gd x (l.take (j+1)) a=if p.1=x then(p.2:Int) else Gd x (l.take j) a:=by
 have b:=(Xf.1 h).1;have c:=(Xf.1 h).2;unfold Gd;rw[XR b,Y0,c];rfl
def IN (f:Tx):Bool:=f == [108]||f == [97,98,108]
def rX (P:RP) (th:AE) (r:RI):Int:=if AG r.i.op=[116] then Aq P.names r.word else if IN (AG r.i.op) then Gd r.word th.labs (-1) else r.i.x
def RI.at (r:RI) (x:Int):RI:={r with i:={r.i with x:=x}}
def DA (P:RP) (th:AE) (r:RI):RI:=r.at (rX P th r)
def Ez (P:RP) (th:AE):AE:={th with code:=th.code.map (DA P th)}
def RP.res (P:RP) (i:Nat):RP:={P with thr:=Cz (Ez P) P.thr i}
def EI (P:RP) (th:AE) (l:List RI):Option Int:=(l.find? λr=>decide (rX P th r<0)).map RI.line
def FE (P:RP) (l:List AE):Option Int:=l.findSome? λth=>EI P th th.code
theorem LV {P:RP} {th:AE} {k:Nat} {r:RI} (a:th.code[k]?=some r) (h:EI P th (th.code.take k)=none) (d:¬rX P th r<0):EI P th (th.code.take (k+1))=none:=by
 have c:=(Xf.1 a).1;have b:=(Xf.1 a).2;unfold EI at h |-;rw[XR c,afu,b];simp only[Option.map_eq_none_iff] at h |-;rw[h];simp;omega
theorem LW {P:RP} {th:AE} {k:Nat} {r:RI} (a:th.code[k]?=some r) (h:EI P th (th.code.take k)=none) (d:rX P th r<0):EI P th th.code=some r.line:=by
 have c:=(Xf.1 a).1;have b:=(Xf.1 a).2;have e:th.code=th.code.take k++(r::th.code.drop (k+1)):=by
  conv=>lhs;rw[<-YK k th.code,X4 c,b]
 unfold EI at h |-;rw[e,afu];simp only[Option.map_eq_none_iff] at h;rw[h];simp[d]
theorem aeJ {P:RP} {i:Nat} {th:AE} (a:P.thr[i]?=some th) (h:FE P (P.thr.take i)=none) (d:EI P th th.code=none):FE P (P.thr.take (i+1))=none:=by
 have c:=(Xf.1 a).1;have b:=(Xf.1 a).2;unfold FE at h |-;rw[XR c,List.findSome?_append,b,h];simp[d]
theorem LU {P:RP} {i:Nat} {th:AE} {e:Int} (a:P.thr[i]?=some th) (h:FE P (P.thr.take i)=none) (f:EI P th th.code=some e):FE P P.thr=some e:=by
 have c:=(Xf.1 a).1;have b:=(Xf.1 a).2;have d:P.thr=P.thr.take i++(th::P.thr.drop (i+1)):=by
  conv=>lhs;rw[<-YK i P.thr,X4 c,b]
 unfold FE at h |-;rw[d,List.findSome?_append,h];simp[f]
section
variable {w w':Xh} {tag tag':Nat->RT} {base pb:Nat} {P:RP} {U:RV}
theorem Ak.VR (h:Ak w tag base pb P U) {j k:Nat} {th:AE} {r:RI} {p:Xk×Xk} (y:P.thr[j]?=some th) (t:U.TV[j]?=some p) (K:th.code[k]?=some r) {c n G:Nat} (E:p.1 = .slice (some ⟨c,0,none⟩) n G) (v:Int) :
 Ak (w.setCell ⟨c,k*9+6,none⟩ (.int .i64 v)) tag base pb {P with thr:=P.thr.set j {th with code:=th.code.set k (r.at v)}} U/\Ah w tag (w.setCell ⟨c,k*9+6,none⟩ (.int .i64 v)) tag:=by
 have f:=h.ths j th p y t;have l:tag c = .cd j:=f.tc c (by rw[E];rfl);have C:=(Xf.1 y).1;have q:∀b,b≠c->(w.setCell ⟨c,k*9+6,none⟩ (.int .i64 v)).heap[b]?=w.heap[b]?:=λb s=>Below.heap_setCell w ⟨c,k*9+6,none⟩ _ b s;have F:Ah w tag (w.setCell ⟨c,k*9+6,none⟩ (.int .i64 v)) tag:=⟨rfl,rfl,rfl,by simp,λ_ _=>rfl,λb s I=>q b (Co I l (by simp))⟩;refine⟨h.step (λx=>x = .cd j) F (λb s d o=>q b (λe=>o (by rw[e];exact l))) (λb s A=>absurd (h.tlt b A).2 (by omega)) ((q pb (Co h.tp l (by simp))).trans h.cell) (λk' N=>.inl ⟨rfl,rfl,by simp⟩) (.inr ⟨?_,h.tt,by simp[h.len]⟩) (λi M O d o=>?_),F⟩
 ·show World.ownsRow _ _ _ _ U.tV (P.thr.set j _).length (((P.thr.set j _).zip U.TV).flatMap DK);rw[Yb];have H:((P.thr.set j {th with code:=th.code.set k (r.at v)}).zip U.TV).flatMap DK=(P.thr.zip U.TV).flatMap DK:=by
   have J:U.TV.set j p=U.TV:=by
    apply Y3
    intro m
    by_cases e:m=j
    ·subst e;rw[YF (by rw[h.len];exact C),t]
    ·rw[Zi (λa=>e a.symm)]
   conv=>lhs;rw[<-J,<-PU (th:=th) (p:=p)]
   have D:(P.thr.zip U.TV)[j]?=some (th,p):=by rw[List.getElem?_zip_eq_some];exact⟨y,t⟩
   rw[<-NK (r:=0) (u:=.string (bs th.name)) IZ D (by omega) rfl]
   apply Y3
   intro m
   by_cases e:m=j*3+0
   ·subst e;have B:=GJ (r:=0) IZ D (by omega);rw[YF (Xf.1 B).1,B];rfl
   ·rw[Zi (λa=>e a.symm)]
  rw[H];exact Bw h.trow λg e=>q g (Co (h.tt g e) l (by simp))
 ·have d:(P.thr.set j _)[i]?=some M:=d
  by_cases e:i=j
  ·subst e;right;rw[YF C] at d
   cases d
   rw[t] at o
   cases o
   refine⟨?_,f.tc,Bw f.labs λg e=>q g (Co (f.tl g e) l (by simp)),f.tl⟩;show World.ownsRow _ _ _ _ p.1 (th.code.set k _).length ((th.code.set k _).flatMap AK);have z:=f.code;rw[E] at z |-;have A:n=th.code.length:=by obtain⟨_,_,a⟩:=As z;cases a;rfl
   subst A;rw[Yb,<-NK (r:=6) (u:=.int .i64 v) MK K (by omega) rfl]
   exact(z.stored (k*9+6) _).1
  ·rw[Zi (λa=>e a.symm)] at d;exact .inl ⟨d,o,(λa=>by cases a;exact e rfl),by simp⟩
theorem Ak.Km (h:Ak w tag base pb P U) {j k q:Nat} {th:AE} {r:RI} {p:Xk×Xk} (e:P.thr[j]?=some th) (f:U.TV[j]?=some p) (c:th.code[k]?=some r) (g:q<9) {a i:Nat} (d:p.1 = .slice (some ⟨a,0,none⟩) th.code.length i):w.cell? ⟨a,k*9+q,none⟩=(AK r)[q]?/\w.frozen? ⟨a,k*9+q,none⟩=false:=by
 have l:=(Xf.1 c).1;have b:=(h.ths j th p e f).code;rw[d] at b;refine⟨?_,b.frozenAt _⟩;rw[b.cellAt (k*9+q) (by omega)];exact GJ MK c g
theorem Ak.aek (h:Ak w tag base pb P U) {j k:Nat} {th:AE} {r:RI} {p:Xk×Xk} (a:P.thr[j]?=some th) (c:U.TV[j]?=some p) (d:th.code[k]?=some r):∃b f,p.1 = .slice (some ⟨b,0,none⟩) th.code.length f:=by
 have g:=(Xf.1 d).1;obtain⟨m,e⟩:∃m,th.code.length=m+1:=⟨th.code.length - 1,by omega⟩;have:=(h.ths j th p a c).code;rw[e] at this |-;exact Y5 this
theorem Ak.Sa (h:Ak w tag base pb P U) {j k q:Nat} {th:AE} {l:Tx×Nat} {p:Xk×Xk} (e:P.thr[j]?=some th) (f:U.TV[j]?=some p) (c:th.labs[k]?=some l) (g:q<2) {b i:Nat} (d:p.2 = .slice (some ⟨b,0,none⟩) th.labs.length i):w.cell? ⟨b,k*2+q,none⟩=(Lv l)[q]?:=by
 have m:=(Xf.1 c).1;have a:=(h.ths j th p e f).labs;rw[d] at a;rw[a.cellAt (k*2+q) (by omega)];exact GJ Sb c g
theorem Ak.ab3 (h:Ak w tag base pb P U) {j k:Nat} {th:AE} {l:Tx×Nat} {p:Xk×Xk} (a:P.thr[j]?=some th) (b:U.TV[j]?=some p) (d:th.labs[k]?=some l):∃c f,p.2 = .slice (some ⟨c,0,none⟩) th.labs.length f:=by
 have g:=(Xf.1 d).1;obtain⟨m,e⟩:∃m,th.labs.length=m+1:=⟨th.labs.length - 1,by omega⟩;have:=(h.ths j th p a b).labs;rw[e] at this |-;exact Y5 this
end
theorem QK {w:Xh} {D:Nat->RT} {base c:Nat} {P:RP} {U:RV} (h:Ak w D base c P U) (x:Tx) (C:P.thr.length<1048576) (f:∀k,(P.get k).length<1048576) :
 XY Tryz.prog 111 #[Ab c,.string (bs x)] w λe w'=>e = .returned (.bool (ED P x))/\w'=w:=by
 have i:=QJ h x C;have c0:=h.Ei (k:=118) (.inl rfl);have c1:=h.Ei (k:=102) (.inr (.inl rfl));have c2:=h.Ei (k:=109) (.inr (.inr rfl));obtain⟨n,u,z,m⟩:=FJ (h.rows 118 (.inl rfl));obtain⟨A,y,p,v⟩:=FJ (h.rows 102 (.inr (.inl rfl)));obtain⟨t,r,s,l⟩:=FJ (h.rows 109 (.inr (.inr rfl)));rw[z] at c0;rw[p] at c1;rw[s] at c2;have c0:w.cell? ⟨c,0,none⟩=some (.slice n P.vs.length u):=c0;have c1:w.cell? ⟨c,1,none⟩=some (.slice A P.fs.length y):=c1;have c2:w.cell? ⟨c,2,none⟩=some (.slice t P.ls.length r):=c2;have d:=II n P.vs.length u P.vs x w rfl m (by have:P.vs.length<1048576:=f 118;omega);have g:=II A P.fs.length y P.fs x w rfl v (by have:P.fs.length<1048576:=f 102;omega);have j:=II t P.ls.length r P.ls x w rfl l (by have:P.ls.length<1048576:=f 109;omega);have a:Hid (ED P x=(decide (0<=Aq P.vs x)||decide (0<=Aq P.fs x)||decide (0<=Aq P.ls x)||decide (0<=Aq P.names x))):=rfl;generalize Aq P.vs x=z0 at d a;generalize Aq P.fs x=z1 at g a;generalize Aq P.ls x=z2 at j a;generalize Aq P.names x=z3 at i a;unfold Ab at i |-;clear h m v l z p s f
 by_cases o:0<=z0
 ·have b:Hid (ED P x=true):=by rw[a.out,decide_eq_true o];rfl
  go_enter Tryz.func111,Tryz.ntmps111
  go_wp2_with fail
  refine d.mono ?_;rintro e w1 ⟨rfl,rfl⟩
  go_wp2_with fail
  go_ret
  exact⟨by rw[b.out];rfl,rfl⟩
 ·by_cases q:0<=z1
  ·have b:Hid (ED P x=true):=by unfold Hid;rw[a.out,decide_eq_true q];simp
   go_enter Tryz.func111,Tryz.ntmps111
   go_wp2_with fail
   refine d.mono ?_;rintro e w1 ⟨rfl,rfl⟩
   go_wp2_with fail
   refine g.mono ?_;rintro e w1 ⟨rfl,rfl⟩
   go_wp2_with fail
   go_ret
   exact⟨by rw[b.out];rfl,rfl⟩
  ·by_cases B:0<=z2
   ·have b:Hid (ED P x=true):=by unfold Hid;rw[a.out,decide_eq_true B];simp
    go_enter Tryz.func111,Tryz.ntmps111
    go_wp2_with fail
    refine d.mono ?_;rintro e w1 ⟨rfl,rfl⟩
    go_wp2_with fail
    refine g.mono ?_;rintro e w1 ⟨rfl,rfl⟩
    go_wp2_with fail
    refine j.mono ?_;rintro e w1 ⟨rfl,rfl⟩
    go_wp2_with fail
    go_ret
    exact⟨by rw[b.out];rfl,rfl⟩
   ·have b:Hid (ED P x=decide (0<=z3)):=by rw[a.out,decide_eq_false o,decide_eq_false q,decide_eq_false B];rfl
    go_enter Tryz.func111,Tryz.ntmps111
    go_wp2_with fail
    refine d.mono ?_;rintro e w1 ⟨rfl,rfl⟩
    go_wp2_with fail
    refine g.mono ?_;rintro e w1 ⟨rfl,rfl⟩
    go_wp2_with fail
    refine j.mono ?_;rintro e w1 ⟨rfl,rfl⟩
    go_wp2_with fail
    refine i.mono ?_;rintro e w1 ⟨rfl,rfl⟩
    go_wp2_with fail
    go_ret
    exact⟨by rw[a.out];rfl,rfl⟩
def Gt (P:RP) (ts:List Tx) (i:Nat):Prop:=ED P (ts.getD i [])=true\/∃j,j<i/\ts.getD j []=ts.getD i []
def RP.AM (P:RP) (k:Int) (ts:List Tx):RP:=ts.foldl (λP x=>P.put k x) P
def BB (f:Tx):Int:=if f=Iz then 118 else if f=IA then 102 else 109
theorem ab5 (f:Tx):Cd (BB f):=by
 unfold BB Cd
 split
 ·simp
 ·split<;>simp
theorem Ws.tail {w:Xh} {b a:Nat} {f:Tx} {ts:List Tx} (h:Ws w (some ⟨b,a,none⟩) (f::ts)) (i:Nat) (l:i<=ts.length):Ws w (some ⟨b,a+1,none⟩) (ts.take i):=λj d=>by
 rw[Yc] at d;obtain⟨n,m,g,c,k⟩:=h (j+1) (by simp;omega)
 cases g
 refine⟨b,a+1,rfl,c,?_⟩;have e:(ts.take i).getD j []=(f::ts).getD (j+1) []:=by
  rw[Xc,Zf,if_pos (by omega),Xc,List.getElem?_cons_succ]
 rw[e,show a+1+j=a+(j+1) by omega];exact k
theorem MR {P:RP} {k:Int} {ts:List Tx} {i:Nat} (h:i<ts.length):P.AM k (ts.take (i+1))=(P.AM k (ts.take i)).put k (ts.getD i []):=by
 unfold RP.AM;rw[XR h,Y0,Xc,Xe h];rfl
theorem aar {P:RP} {k:Int} (a:Cd k) (x:Tx):(P.put k x).get k=P.get k++[x]:=by
 rcases a with rfl|rfl|rfl<;>simp[RP.put,RP.get]
theorem MT {k:Int} (a:Cd k):∀(ts:List Tx) (P:RP),(P.AM k ts).get k=P.get k++ts
 |[],P=>by simp[RP.AM]
 |x::ts,P=>by
  show ((P.put k x).AM k ts).get k=_;rw[MT a ts,aar a];simp
theorem adr {ts:List Tx} {i:Nat} (s:i<ts.length):0<=Aq (ts.take i) (ts.getD i [])↔∃j,j<i/\ts.getD j []=ts.getD i []:=by
 have r:(ts.take i).length=i:=by rw[Yc];omega
 have f:∀j,j<i->(ts.take i).getD j []=ts.getD j []:=λj a=>by
  rw[Xc,Zf,if_pos a,Xc]
 constructor
 ·intro h
  by_cases g:∃j,j<i/\ts.getD j []=ts.getD i []
  ·exact g
  ·rw[NN (λj a=>by rw[f j (by omega)];exact λe=>g ⟨j,by omega,e⟩)] at h
   omega
 ·rintro⟨j,a,e⟩;have l:∃k,k<i/\ts.getD k []=ts.getD i []/\∀m,m<k->ts.getD m []≠ts.getD i []:=by
   induction j using Nat.strongRecOn with
   |ind j q=>
    by_cases b:∃m,m<j/\ts.getD m []=ts.getD i []
    ·obtain⟨m,c,d⟩:=b;exact q m c (by omega) d
    ·exact⟨j,a,e,λm c d=>b ⟨m,c,d⟩⟩
  obtain⟨k,o,p,n⟩:=l;rw[NO (i:=k) (by omega) (λm b=>by rw[f m (by omega)];exact n m b) (by rw[f k o];exact p)]
  omega
def GU (w:Xh) (tag:Nat->RT) (base pb:Nat) (R:Int->RP->Prop) (en:Ending) (w':Xh):Prop:=
 ∃e tag' P' U',en = .returned (.int .i64 e)/\Ak w' tag' base pb P' U'/\Ah w tag w' tag'/\R e P'
def Kv (P:RP) (f:Tx) (ts:List Tx) (e:Int) (P':RP):Prop:=
 ((ts=[]\/ts.all Av=false)/\e=2)\/((ts≠[]/\ts.all Av=true)/\(((∃i,i<ts.length/\Gt P ts i)/\e=3)\/((∀i,i<ts.length->¬Gt P ts i)/\P'=P.AM (BB f) ts/\((4<P'.vs.length\/4<P'.fs.length\/4<P'.ls.length)/\e=4\/(P'.vs.length<=4/\P'.fs.length<=4/\P'.ls.length<=4)/\e=0))))
theorem CX.at {w:Xh} {d:Nat->RT} {b a:Nat} {ws:List Tx} (h:CX w d (some ⟨b,a,none⟩) ws) {i:Nat} (c:i<ws.length):w.cell? ⟨b,a+i,none⟩=some (.string (bs (ws.getD i []))):=by
 obtain⟨j,g,e,_,f,_⟩:=h i c
 cases e;exact f
theorem Gm (s t:Tx):((bs s).toList == t)=decide (s=t):=by
 rw[AL]
 by_cases e:s=t<;>simp[e]
theorem aal {w:Xh} {A:Nat->RT} {base j:Nat} {P:RP} {U:RV} (h:Ak w A base j P U) (b af n cap:Nat) (f:Tx) (ts:List Tx) (hn:ts.length+1=n) (hs:CX w A (some ⟨b,af,none⟩) (f::ts)) (bz:n<=cap) (hb:P.thr.length<1000) (hl:∀k,(P.get k).length<=4) (bm:n<4000) :
 XY Tryz.prog 109 #[Ab j,.slice (some ⟨b,af,none⟩) n cap] w (GU w A base j (Kv P f ts)):=by
 have HX:=Aa (Ah.refl w A);have H:=Aa h;have aB:=Aa hs;have Q:=Aa hn;unfold Ab
 go_enter Tryz.func109,Tryz.ntmps109
 clear h hs hn
 go_wp2_with fail
 go_loopw [5] (λC wr=>∃i:Nat,1<=i/\i<=n/\C = .int .i64 i/\(ts.take (i - 1)).all Av=true/\wr=w) (λC _=>n - (intOf C).toNat)
 case atStart=>exact⟨1,by omega,by have:=Q.out;omega,rfl,by simp,rfl⟩
 case round=>
  obtain⟨i,bf,hi,rfl,ak,rfl⟩:=hrel
  by_cases h5:i<n
  ·have aH:(i:Int)<(n:Int):=by omega
   obtain⟨m,rfl⟩:∃m,i=m+1:=⟨i - 1,by omega⟩;have N:m<ts.length:=by have:=Q.out;omega
   have c0:=aB.out.at (i:=m+1) (by simp;omega);have J:(f::ts).getD (m+1) []=ts.getD m []:=by simp
   rw[J] at c0;have HA:=Aa (⟨TN (p:=Av) N,TO (p:=Av) N,ak⟩:_/\_/\_);generalize ts.getD m []=t at c0 HA;clear ak J
   go_wp2_with fail
   refine(Le t _).mono ?_;rintro e w2 ⟨rfl,rfl⟩
   cases y:Av t with
   |true=>
    go_wp2_with fail
    go_roundw
    case rel=>exact⟨m+1+1,by omega,by omega,by go_num,by show (ts.take (m+1)).all Av=true;rw[HA.out.1,y];have:=HA.out.2.2;simp only[afL] at this;rw[this];rfl,by trivial⟩
    case measure=>simp[intOf];omega
   |false=>
    go_wp2_with fail
    go_ret
    exact⟨2,A,P,U,rfl,H.out,HX.out,.inl ⟨.inr (HA.out.2.1 y),rfl⟩⟩
  ·have bd:i=n:=by omega
   subst bd;have ah:Hid (ts.all Av=true):=by
    rw[XQ (by have:=Q.out;omega)] at ak;exact ak
   clear ak
   by_cases h1:i=1
   ·subst h1;have ht:Hid (ts=[]):=List.eq_nil_of_length_eq_zero (by have:=Q.out;omega)
    go_wp2_with fail
    go_ret
    exact⟨2,A,P,U,rfl,H.out,HX.out,.inl ⟨.inl ht.out,rfl⟩⟩
   ·have bD:((i:Int) == 1)=false:=by simp;omega
    have ai:Hid (ts≠[]):=λe=>h1 (by have:=Q.out;rw[e] at this;simp at this;omega);have bq:2<=i:=by omega
    rename Xh=>w0
    go_wp2_with fail
    go_loopw [7] (λC wr=>∃k:Nat,1<=k/\k<=i/\C = .int .i64 k/\(∀m,m+1<k->¬Gt P ts m)/\Below w0.heap.size w0 wr) (λC _=>i - (intOf C).toNat)
    case atStart=>exact⟨1,by omega,by omega,rfl,λm hm=>by omega,Below.refl _ _⟩
    case round=>
     obtain⟨k,bC,hk,rfl,W,O⟩:=hrel;have I:=H.out.below O;have G:Ah w0 A wr A:=.CF O;have F:=aB.out.ext G
     by_cases h6:k<i
     ·have aH:(k:Int)<(i:Int):=by omega
      obtain⟨m,rfl⟩:∃m,k=m+1:=⟨k - 1,by omega⟩;have N:m<ts.length:=by have:=Q.out;omega
      have c0:=F.at (i:=m+1) (by simp;omega);have J:(f::ts).getD (m+1) []=ts.getD m []:=by simp
      rw[J] at c0;have y:Ah wr A wr.drew A:=⟨rfl,rfl,rfl,Xd _,λ_ _=>rfl,λ_ _ _=>rfl⟩;have aK:=Ak.keep (w':=wr.drew) I (λ_ _=>rfl) y;have hH:=QK aK (ts.getD m []) (by omega) (λk=>by have:=hl k;omega);have hF:=II (some ⟨b,af+1,none⟩) m (cap - 1) (ts.take m) (ts.getD m []) wr.drew (by rw[Yc];omega) (Ws.tail (CX.ext (w':=wr.drew) F y).ws m (by omega)) (by omega);have aM:=adr N;have am:Hid (Gt P ts m↔(ED P (ts.getD m [])=true\/0<=Aq (ts.take m) (ts.getD m []))):=by
       unfold Hid Gt;rw[aM]
      unfold Ab at hH;generalize Aq (ts.take m) (ts.getD m [])=z at hF am;have HE:=Aa (⟨I,G,W,O⟩:_/\_/\_/\_);have bj:¬(cap=1):=by omega
      have a5:(0:Int)<=(m:Int)+1:=by omega
      have bA:(1:Int)<=(m:Int)+1:=by omega
      have bt:(m:Int)+1<=(cap:Int):=by omega
      generalize Z:ts.getD m []=x at c0 hH am hF;replace Z:=Aa Z;clear I G F J aM aK W O y
      cases ap:ED P x with
      |true=>
       rw[ap] at hH;have az:Hid (Gt P ts m):=am.out.2 (.inl ap)
       go_wp2_with fail
       refine Xy (S:=(λw'=>w'.cell? ⟨b,af+(m+1),none⟩=some (.string (bs x)))) (by kernel_rfl) c0 (λa=>?_);refine tk 0 a ?_;refine tk 1 a ?_;refine tk 2 a ?_;refine tk 3 a ?_;refine tk 4 a ?_;refine rd 5 (λK M=>?_)
       go_simp
       go_at_call 111
       refine hH.mono ?_;rintro e w5 ⟨rfl,rfl⟩
       go_wp2_with fail
       refine M.out _ _ c0 (λa=>?_);clear M K
       try simp only[Act.put,sq]
       refine tk 6 a ?_;refine tn 7 a ?_;refine tn 8 a ?_;refine tn 9 a ?_;refine tn 10 a ?_;refine tn 11 a ?_;refine tn 12 a ?_;refine tn 13 a ?_;refine tn 14 a ?_;refine tn 15 a ?_;refine tk 16 a ?_;refine Yd (by kernel_rfl) ?_ _;clear a
       go_wp2_with fail
       go_ret
       obtain⟨I,G,W,O⟩:=HE.out
       exact⟨3,A,P,U,rfl,Ak.keep (w':=wr.drew) I (λ_ _=>rfl) ⟨rfl,rfl,rfl,Xd _,λ_ _=>rfl,λ_ _ _=>rfl⟩,G.trans ⟨rfl,rfl,rfl,Xd _,λ_ _=>rfl,λ_ _ _=>rfl⟩,.inr ⟨⟨ai.out,ah.out⟩,.inl ⟨⟨m,N,az.out⟩,rfl⟩⟩⟩
      |false=>
       rw[ap] at hH
       go_wp2_with fail
       refine Xy (S:=(λw'=>w'.cell? ⟨b,af+(m+1),none⟩=some (.string (bs x)))) (by kernel_rfl) c0 (λa=>?_);refine tk 0 a ?_;refine tk 1 a ?_;refine tk 2 a ?_;refine tk 3 a ?_;refine tk 4 a ?_;refine rd 5 (λK M=>?_)
       go_simp
       go_at_call 111
       refine hH.mono ?_;rintro e w5 ⟨rfl,rfl⟩
       go_wp2_with fail
       refine M.out _ _ c0 (λa=>?_);clear M K
       try simp only[Act.put,sq]
       refine tk 6 a ?_;refine tk 7 a ?_;refine tk 8 a ?_;refine tk 9 a ?_;refine tk 10 a ?_;refine tk 11 a ?_;refine tk 12 a ?_;refine tk 13 a ?_;refine rd 14 (λK M=>?_)
       go_simp
       go_at_call 145
       refine hF.mono ?_;rintro e w6 ⟨rfl,rfl⟩
       go_wp2_with fail
       refine M.out _ _ c0 (λa=>?_);clear M K
       try simp only[Act.put,sq]
       refine tk 15 a ?_;refine tk 16 a ?_;refine Yd (by kernel_rfl) ?_ _;clear a
       by_cases hz:0<=z
       ·have bb:decide (0<=z)=true:=decide_eq_true hz;have az:Hid (Gt P ts m):=am.out.2 (.inr hz)
        go_wp2_with fail
        go_ret
        obtain⟨I,G,W,O⟩:=HE.out
        exact⟨3,A,P,U,rfl,Ak.keep (w':=wr.drew) I (λ_ _=>rfl) ⟨rfl,rfl,rfl,Xd _,λ_ _=>rfl,λ_ _ _=>rfl⟩,G.trans ⟨rfl,rfl,rfl,Xd _,λ_ _=>rfl,λ_ _ _=>rfl⟩,.inr ⟨⟨ai.out,ah.out⟩,.inl ⟨⟨m,N,az.out⟩,rfl⟩⟩⟩
       ·have bb:decide (0<=z)=false:=decide_eq_false hz;have ba:Hid (¬Gt P ts m):=λhD=>by
         rcases am.out.1 hD with e|e
         ·rw[ap] at e;cases e
         ·exact hz e
        go_wp2_with fail
        go_roundw
        case rel=>
         obtain⟨I,G,W,O⟩:=HE.out;refine⟨m+1+1,by omega,by omega,by go_num,λm' bl=>?_,O.trans ⟨rfl,rfl,rfl,Xd _,λ_ _=>rfl⟩⟩
         by_cases e:m'=m
         ·subst e;exact ba.out
         ·exact W m' (by omega)
        case measure=>simp[intOf];omega
     ·have a8:k=i:=by omega
      subst a8;have ao:Hid (∀m,m<ts.length->¬Gt P ts m):=λm hm=>W m (by have:=Q.out;omega);have HE:=Aa (⟨I,G⟩:_/\_);clear I G F W O
      rename Xh=>w1
      go_wp2_with fail
      go_loopw [8] (λC wr=>∃(q:Nat) (R:Nat->RT) (l:RV),1<=q/\q<=k/\C = .int .i64 q/\Ak wr R base j (P.AM (BB f) (ts.take (q - 1))) l/\Ah w0 A wr R) (λC _=>k - (intOf C).toNat)
      case atStart=>exact⟨1,A,U,by omega,by omega,rfl,by simpa [RP.AM] using HE.out.1,HE.out.2⟩
      case round=>
       clear HE;obtain⟨q,R,l,bE,hq,rfl,c,o⟩:=hrel
       by_cases h7:q<k
       ·have aH:(q:Int)<(k:Int):=by omega
        obtain⟨m,rfl⟩:∃m,q=m+1:=⟨q - 1,by omega⟩;have N:m<ts.length:=by have:=Q.out;omega
        have F:=aB.out.ext o;have c0:=F.at (i:=m+1) (by simp;omega);have cf:=F.at (i:=0) (by simp);have J:(f::ts).getD (m+1) []=ts.getD m []:=by simp
        rw[J] at c0;have cf:wr.cell? ⟨b,af,none⟩=some (.string (bs f)):=cf;simp only[afL] at c;have a5:(0:Int)<=(m:Int)+1:=by omega
        have bp:(0:Int)<(k:Int):=by omega
        have b1:=Gm f [118,97,114];have b2:=Gm f [102,108,97,103];have bi:=c.lt c.tp (by simp);have bo:b<wr.heap.size:=by obtain⟨b',o',e1,e2,_⟩:=F 0 (by simp);cases e1;exact e2
        have ad:∀KK,Cd KK->((P.AM KK (ts.take m)).get KK).length<1048576:=λKK M=>by
         rw[MT M,List.length_append,Yc];have:=hl KK;omega
        have y:Ah wr R wr.drew R:=⟨rfl,rfl,rfl,Xd _,λ_ _=>rfl,λ_ _ _=>rfl⟩;have T:=Ak.keep (w':=wr.drew) c (λ_ _=>rfl) y;generalize Z:ts.getD m []=x at c0;replace Z:=Aa Z
        by_cases f1:f=Iz
        ·have d:BB f=118:=by unfold BB;rw[if_pos f1]
         rw[d] at c T;rw[show decide (f=[118,97,114])=true from decide_eq_true f1] at b1;obtain⟨g,X,w3,s,E,Y,tag3,v,r⟩:=T.name (k:=118) (.inl rfl) x (ad 118 (.inl rfl));have D:=c.Ei (k:=118) (.inl rfl);obtain⟨va,vc,B,_⟩:=FJ (c.rows 118 (.inl rfl));have u:=Aa (⟨v,r,o.trans y,d⟩:_/\_/\_/\_);clear c T v r F J y ad o d f1;have s:(XL #[22,22] 22 #[l.V 118,.slice (some ⟨wr.heap.size,0,none⟩) 1 1]).run Tryz.prog (wr.alloc (.cells #[.string (bs x)] 9)).drew = .ok (.slice (some ⟨g,0,none⟩) (((P.AM 118 (ts.take m)).get 118).length+1) X) w3:=s;rw[B] at s D E;have D:wr.cell? ⟨j,0,none⟩=some (.slice va ((P.AM 118 (ts.take m)).get 118).length vc):=D;have E:w3.cell? ⟨j,0,none⟩=some (.slice va ((P.AM 118 (ts.take m)).get 118).length vc):=E;have Y:w3.frozen? ⟨j,0,none⟩=false:=Y;replace B:=Aa B
         go_wp2_with fail
         go_region_law (refine FV rfl _ _ _ rfl rfl rfl rfl s ?_)
         all_goals
          go_wp2_with fail
          go_roundw
          case rel=>
           obtain⟨v,r,o,d⟩:=u.out;have e:P.AM (BB f) (ts.take (m+1))=(P.AM (BB f) (ts.take m)).put (BB f) x:=by rw[MR N,Z.out]
           refine⟨m+1+1,tag3,{l with V:=AT l.V (BB f) (.slice (some ⟨g,0,none⟩) (((P.AM (BB f) (ts.take m)).get (BB f)).length+1) X)},by omega,by omega,by go_num,?_,o.trans r⟩;show Ak _ _ _ _ (P.AM (BB f) (ts.take (m+1))) _;rw[e,d];exact v
          case measure=>simp[intOf];omega
        ·rw[show decide (f=[118,97,114])=false from decide_eq_false f1] at b1
         by_cases f2:f=IA
         ·have d:BB f=102:=by unfold BB;rw[if_neg f1,if_pos f2]
          rw[d] at c T;rw[show decide (f=[102,108,97,103])=true from decide_eq_true f2] at b2;obtain⟨g,X,w3,s,E,Y,tag3,v,r⟩:=T.name (k:=102) (.inr (.inl rfl)) x (ad 102 (.inr (.inl rfl)));have D:=c.Ei (k:=102) (.inr (.inl rfl));obtain⟨va,vc,B,_⟩:=FJ (c.rows 102 (.inr (.inl rfl)));have u:=Aa (⟨v,r,o.trans y,d⟩:_/\_/\_/\_);clear c T v r F J y ad o d f1 f2;have s:(XL #[22,22] 22 #[l.V 102,.slice (some ⟨wr.heap.size,0,none⟩) 1 1]).run Tryz.prog (wr.alloc (.cells #[.string (bs x)] 9)).drew = .ok (.slice (some ⟨g,0,none⟩) (((P.AM 102 (ts.take m)).get 102).length+1) X) w3:=s;rw[B] at s D E;have D:wr.cell? ⟨j,1,none⟩=some (.slice va ((P.AM 102 (ts.take m)).get 102).length vc):=D;have E:w3.cell? ⟨j,1,none⟩=some (.slice va ((P.AM 102 (ts.take m)).get 102).length vc):=E;have Y:w3.frozen? ⟨j,1,none⟩=false:=Y;replace B:=Aa B
          go_wp2_with fail
          go_region_law (refine FV rfl _ _ _ rfl rfl rfl rfl s ?_)
          all_goals
           go_wp2_with fail
           go_roundw
           case rel=>
            obtain⟨v,r,o,d⟩:=u.out;have e:P.AM (BB f) (ts.take (m+1))=(P.AM (BB f) (ts.take m)).put (BB f) x:=by rw[MR N,Z.out]
            refine⟨m+1+1,tag3,{l with V:=AT l.V (BB f) (.slice (some ⟨g,0,none⟩) (((P.AM (BB f) (ts.take m)).get (BB f)).length+1) X)},by omega,by omega,by go_num,?_,o.trans r⟩;show Ak _ _ _ _ (P.AM (BB f) (ts.take (m+1))) _;rw[e,d];exact v
           case measure=>simp[intOf];omega
         ·have d:BB f=109:=by unfold BB;rw[if_neg f1,if_neg f2]
          rw[d] at c T;rw[show decide (f=[102,108,97,103])=false from decide_eq_false f2] at b2;obtain⟨g,X,w3,s,E,Y,tag3,v,r⟩:=T.name (k:=109) (.inr (.inr rfl)) x (ad 109 (.inr (.inr rfl)));have D:=c.Ei (k:=109) (.inr (.inr rfl));obtain⟨va,vc,B,_⟩:=FJ (c.rows 109 (.inr (.inr rfl)));have u:=Aa (⟨v,r,o.trans y,d⟩:_/\_/\_/\_);clear c T v r F J y ad o d f1 f2;have s:(XL #[22,22] 22 #[l.V 109,.slice (some ⟨wr.heap.size,0,none⟩) 1 1]).run Tryz.prog (wr.alloc (.cells #[.string (bs x)] 9)).drew = .ok (.slice (some ⟨g,0,none⟩) (((P.AM 109 (ts.take m)).get 109).length+1) X) w3:=s;rw[B] at s D E;have D:wr.cell? ⟨j,2,none⟩=some (.slice va ((P.AM 109 (ts.take m)).get 109).length vc):=D;have E:w3.cell? ⟨j,2,none⟩=some (.slice va ((P.AM 109 (ts.take m)).get 109).length vc):=E;have Y:w3.frozen? ⟨j,2,none⟩=false:=Y;replace B:=Aa B
          go_wp2_with fail
          go_region_law (refine FV rfl _ _ _ rfl rfl rfl rfl s ?_)
          all_goals
           go_wp2_with fail
           go_roundw
           case rel=>
            obtain⟨v,r,o,d⟩:=u.out;have e:P.AM (BB f) (ts.take (m+1))=(P.AM (BB f) (ts.take m)).put (BB f) x:=by rw[MR N,Z.out]
            refine⟨m+1+1,tag3,{l with V:=AT l.V (BB f) (.slice (some ⟨g,0,none⟩) (((P.AM (BB f) (ts.take m)).get (BB f)).length+1) X)},by omega,by omega,by go_num,?_,o.trans r⟩;show Ak _ _ _ _ (P.AM (BB f) (ts.take (m+1))) _;rw[e,d];exact v
           case measure=>simp[intOf];omega
       ·have aV:q=k:=by omega
        subst aV;have aG:ts.take (q - 1)=ts:=XQ (by have:=Q.out;omega);rw[aG] at c;have ax:=c.Ei (k:=118) (.inl rfl);have aA:=c.Ei (k:=102) (.inr (.inl rfl));have aw:=c.Ei (k:=109) (.inr (.inr rfl));obtain⟨a0,d0,e0,_⟩:=FJ (c.rows 118 (.inl rfl));obtain⟨a1,d1,e1,_⟩:=FJ (c.rows 102 (.inr (.inl rfl)));obtain⟨a2,d2,e2,_⟩:=FJ (c.rows 109 (.inr (.inr rfl)));rw[e0] at ax;rw[e1] at aA;rw[e2] at aw;have ax:wr.cell? ⟨j,0,none⟩=some (.slice a0 (P.AM (BB f) ts).vs.length d0):=ax;have aA:wr.cell? ⟨j,1,none⟩=some (.slice a1 (P.AM (BB f) ts).fs.length d1):=aA;have aw:wr.cell? ⟨j,2,none⟩=some (.slice a2 (P.AM (BB f) ts).ls.length d2):=aw;have u:=Aa (⟨c,o⟩:_/\_);generalize aj:P.AM (BB f) ts=P' at *;replace aj:=Aa aj;clear c o e0 e1 e2 aG
        by_cases k0:4<P'.vs.length
        ·have a4:(4:Int)<(P'.vs.length:Int):=by omega
         go_wp2_with fail
         go_ret
         exact⟨4,R,P',l,rfl,u.out.1,u.out.2,.inr ⟨⟨ai.out,ah.out⟩,.inr ⟨ao.out,aj.out.symm,.inl ⟨.inl k0,rfl⟩⟩⟩⟩
        ·have a4:¬(4:Int)<(P'.vs.length:Int):=by omega
         by_cases k1:4<P'.fs.length
         ·have bc:(4:Int)<(P'.fs.length:Int):=by omega
          go_wp2_with fail
          go_ret
          exact⟨4,R,P',l,rfl,u.out.1,u.out.2,.inr ⟨⟨ai.out,ah.out⟩,.inr ⟨ao.out,aj.out.symm,.inl ⟨.inr (.inl k1),rfl⟩⟩⟩⟩
         ·have bc:¬(4:Int)<(P'.fs.length:Int):=by omega
          by_cases k2:4<P'.ls.length
          ·have a6:(4:Int)<(P'.ls.length:Int):=by omega
           go_wp2_with fail
           go_ret
           exact⟨4,R,P',l,rfl,u.out.1,u.out.2,.inr ⟨⟨ai.out,ah.out⟩,.inr ⟨ao.out,aj.out.symm,.inl ⟨.inr (.inr k2),rfl⟩⟩⟩⟩
          ·have a6:¬(4:Int)<(P'.ls.length:Int):=by omega
           go_wp2_with fail
           go_ret
           exact⟨0,R,P',l,rfl,u.out.1,u.out.2,.inr ⟨⟨ai.out,ah.out⟩,.inr ⟨ao.out,aj.out.symm,.inr ⟨⟨by omega,by omega,by omega⟩,rfl⟩⟩⟩⟩
def Hl (f:Tx):Bool:=f == [118,97,114]||f == [102,108,97,103]||f == [108,111,99,107]
def Ku (P:RP) (ts:List Tx) (e:Int) (P':RP):Prop:=
 ((ts.length≠1\/Av (ts.getD 0 [])=false)/\e=2)\/((ts.length=1/\Av (ts.getD 0 [])=true)/\((ED P (ts.getD 0 [])=true/\e=3)\/(ED P (ts.getD 0 [])=false/\((P.thr.length=4/\e=4)\/(P.thr.length≠4/\e=0/\P'={P with thr:=P.thr++[⟨ts.getD 0 [],[],[]⟩]})))))
theorem aai {w:Xh} {y:Nat->RT} {base u:Nat} {P:RP} {U:RV} (h:Ak w y base u P U) (b t n cap:Nat) (f:Tx) (ts:List Tx) (G:ts.length+1=n) (z:CX w y (some ⟨b,t,none⟩) (f::ts)) (C:n<=cap) (E:P.thr.length=0) (F:∀k,(P.get k).length<=4) (J:n<4000) (line:Int) (r:Hl f=true) :
 XY Tryz.prog 51 #[Ab u,.slice (some ⟨b,t,none⟩) n cap,.int .i64 line] w (GU w y base u (Kv P f ts)):=by
 have s:=aal h b t n cap f ts G z C (by omega) F J;have c3:=h.Ha;obtain⟨N,M,I⟩:=As h.trow;rw[I,E] at c3;have D:=z.at (i:=0) (by simp);have D:w.cell? ⟨b,t,none⟩=some (.string (bs f)):=D;have K:(0:Int)<(n:Int):=by omega
 have B:=Gm f [118,97,114];have v:=Gm f [102,108,97,103];have x:=Gm f [108,111,99,107];unfold Ab at s |-;clear h z I G C E F J
 go_enter Tryz.func51,Tryz.ntmps51
 by_cases c:f=[118,97,114]
 ·rw[decide_eq_true c] at B;clear r v x;replace c:=Aa c
  go_wp2_with fail
  refine s.mono ?_;rintro e H ⟨q,o,m,p,rfl,d,g,j⟩;have a:=Aa (⟨d,g,j⟩:_/\_/\_);clear d g j
  go_wp2_with fail
  go_ret
  exact⟨q,o,m,p,rfl,a.out.1,a.out.2.1,a.out.2.2⟩
 ·rw[decide_eq_false c] at B
  by_cases l:f=[102,108,97,103]
  ·rw[decide_eq_true l] at v;clear r x;replace c:=Aa c;replace l:=Aa l
   go_wp2_with fail
   refine s.mono ?_;rintro e H ⟨q,o,m,p,rfl,d,g,j⟩;have a:=Aa (⟨d,g,j⟩:_/\_/\_);clear d g j
   go_wp2_with fail
   go_ret
   exact⟨q,o,m,p,rfl,a.out.1,a.out.2.1,a.out.2.2⟩
  ·rw[decide_eq_false l] at v;have A:f=[108,111,99,107]:=by simpa [Hl,c,l] using r
   rw[decide_eq_true A] at x;clear r;replace c:=Aa c;replace l:=Aa l;replace A:=Aa A
   go_wp2_with fail
   refine s.mono ?_;rintro e H ⟨q,o,m,p,rfl,d,g,j⟩;have a:=Aa (⟨d,g,j⟩:_/\_/\_);clear d g j
   go_wp2_with fail
   go_ret
   exact⟨q,o,m,p,rfl,a.out.1,a.out.2.1,a.out.2.2⟩
theorem Rm {f:Tx} (a:Hl f=false):f≠[118,97,114]/\f≠[102,108,97,103]/\f≠[108,111,99,107]:=by
 refine⟨?_,?_,?_⟩<;>rintro rfl<;>cases a
theorem aae {w:Xh} {a:Nat->RT} {base B:Nat} {P:RP} {U:RV} (h:Ak w a base B P U) (b D n cap:Nat) (f:Tx) (ts:List Tx) (K:ts.length+1=n) (t:CX w a (some ⟨b,D,none⟩) (f::ts)) (hb:P.thr.length<1000) (C:∀k,(P.get k).length<=4) (O:n<4000) (line:Int) (o:f=[116,104,114,101,97,100]) :
 XY Tryz.prog 51 #[Ab B,.slice (some ⟨b,D,none⟩) n cap,.int .i64 line] w (GU w a base B (Ku P ts)):=by
 have c3:=h.Ha;obtain⟨V,Y,z⟩:=As h.trow;rw[z] at c3;have I:=t.at (i:=0) (by simp);have I:w.cell? ⟨b,D,none⟩=some (.string (bs f)):=I;have ag:(0:Int)<(n:Int):=by omega
 have b1:((bs f).toList == [118,97,114])=false:=by rw[AL,o];rfl
 have b2:((bs f).toList == [102,108,97,103])=false:=by rw[AL,o];rfl
 have b3:((bs f).toList == [108,111,99,107])=false:=by rw[AL,o];rfl
 have b4:((bs f).toList == [116,104,114,101,97,100])=true:=by rw[AL,o];rfl
 have A:=Aa (Ah.refl w a);have H:=Aa h;have y:Ah w a w.drew a:=⟨rfl,rfl,rfl,Xd _,λ_ _=>rfl,λ_ _ _=>rfl⟩;have E:=Ak.keep (w':=w.drew) h (λ_ _=>rfl) y;have ai:=h.lt h.tp (by simp);have ab:b<w.heap.size:=by obtain⟨b',Z,S,W,_⟩:=t 0 (by simp);cases S;exact W
 unfold Ab
 by_cases j:ts.length=1
 ·have ad:(1:Int)<(n:Int):=by omega
  have R:((n:Int) != 2)=false:=by simp;omega
  have c1:=t.at (i:=1) (by simp;omega);have J:(f::ts).getD 1 []=ts.getD 0 []:=by simp
  rw[J] at c1;have l:=λu=>Le (ts.getD 0 []) u;have m:=QK h (ts.getD 0 []) (by omega) (λk=>by have:=C k;omega);unfold Ab at m;obtain⟨g,T,w3,s,X,aa,tag3,N,F⟩:=E.thread (ts.getD 0 []) (by omega);rw[z] at s X;have s:(XL #[26,26] 26 #[.slice V P.thr.length Y,.slice (some ⟨w.heap.size,0,none⟩) 1 1]).run Tryz.prog (w.alloc (.cells #[.string (bs (ts.getD 0 [])),.slice none 0 0,.slice none 0 0] 199)).drew = .ok (.slice (some ⟨g,0,none⟩) (P.thr.length+1) T) w3:=s;have M:=Aa (⟨N,y.trans F⟩:_/\_);replace j:=Aa j;have ac:Hid (∀e G,Ku P ts e G↔Ku P ts e G):=λ_ _=>Iff.rfl;clear h t z K E N F y J C O o;generalize d:ts.getD 0 []=x at c1 l m s;replace d:=Aa d
  cases q:Av x with
  |false=>
   rw[q] at l
   go_enter Tryz.func51,Tryz.ntmps51
   cases v:decide (0<P.thr.length)
   all_goals
    go_wp2_with fail
    refine(l _).mono ?_;rintro e r ⟨rfl,rfl⟩
    go_wp2_with fail
    go_ret
    exact⟨2,a,P,U,rfl,H.out,A.out,.inl ⟨.inr (by rw[d.out];exact q),rfl⟩⟩
  |true=>
   rw[q] at l
   go_enter Tryz.func51,Tryz.ntmps51
   cases c:ED P x with
   |true=>
    rw[c] at m;replace c:=Aa c
    cases v:decide (0<P.thr.length)
    all_goals
     go_wp2_with fail
     refine(l _).mono ?_;rintro e r ⟨rfl,rfl⟩
     go_wp2_with fail
     refine m.mono ?_;rintro e r ⟨rfl,rfl⟩
     go_wp2_with fail
     go_ret
     exact⟨3,a,P,U,rfl,H.out,A.out,.inr ⟨⟨j.out,by rw[d.out];exact q⟩,.inl ⟨by rw[d.out];exact c.out,rfl⟩⟩⟩
   |false=>
    rw[c] at m;replace c:=Aa c
    by_cases p:P.thr.length=4
    ·have Q:((P.thr.length:Int) == 4)=true:=by simp;omega
     have v:decide (0<P.thr.length)=true:=by simp;omega
     replace p:=Aa p
     go_wp2_with fail
     refine(l _).mono ?_;rintro e r ⟨rfl,rfl⟩
     go_wp2_with fail
     refine m.mono ?_;rintro e r ⟨rfl,rfl⟩
     go_wp2_with fail
     go_ret
     exact⟨4,a,P,U,rfl,H.out,A.out,.inr ⟨⟨j.out,by rw[d.out];exact q⟩,.inr ⟨by rw[d.out];exact c.out,.inl ⟨p.out,rfl⟩⟩⟩⟩
    ·have Q:((P.thr.length:Int) == 4)=false:=by simp;omega
     replace p:=Aa p
     cases v:decide (0<P.thr.length)
     all_goals
      go_wp2_with fail
      refine(l _).mono ?_;rintro e r ⟨rfl,rfl⟩
      go_wp2_with fail
      refine m.mono ?_;rintro e r ⟨rfl,rfl⟩
      go_wp2_with fail
      go_region_law (refine FV rfl _ _ _ rfl rfl rfl rfl s ?_)
      all_goals
       go_wp2_with fail
       go_ret
       exact⟨0,tag3,_,_,rfl,M.out.1,M.out.2,.inr ⟨⟨j.out,by rw[d.out];exact q⟩,.inr ⟨by rw[d.out];exact c.out,.inr ⟨p.out,rfl,rfl⟩⟩⟩⟩
 ·have R:((n:Int) != 2)=true:=by simp;omega
  replace j:=Aa j;clear h t z K E y C O o
  go_enter Tryz.func51,Tryz.ntmps51
  cases v:decide (0<P.thr.length)
  all_goals
   go_wp2_with fail
   go_ret
   exact⟨2,a,P,U,rfl,H.out,A.out,.inl ⟨.inl j.out,rfl⟩⟩
theorem aaf {w:Xh} {a:Nat->RT} {base c:Nat} {P:RP} {U:RV} (h:Ak w a base c P U) (b d n cap:Nat) (f:Tx) (ts:List Tx) (v:ts.length+1=n) (o:CX w a (some ⟨b,d,none⟩) (f::ts)) (k:P.thr.length=0) (line:Int) (g:Hl f=false) (l:f≠[116,104,114,101,97,100]) :
 XY Tryz.prog 51 #[Ab c,.slice (some ⟨b,d,none⟩) n cap,.int .i64 line] w (GU w a base c (λe _=>e=2)):=by
 have c3:=h.Ha;obtain⟨A,B,p⟩:=As h.trow;rw[p,k] at c3;have j:=o.at (i:=0) (by simp);have j:w.cell? ⟨b,d,none⟩=some (.string (bs f)):=j;have z:(0:Int)<(n:Int):=by omega
 obtain⟨r,m,q⟩:=Rm g;have y:=Gm f [118,97,114];have t:=Gm f [102,108,97,103];have u:=Gm f [108,111,99,107];have s:=Gm f [116,104,114,101,97,100];rw[decide_eq_false r] at y;rw[decide_eq_false m] at t;rw[decide_eq_false q] at u;rw[decide_eq_false l] at s;have x:=Aa (Ah.refl w a);have H:=Aa h;unfold Ab;clear h o p v k g l r m q
 go_enter Tryz.func51,Tryz.ntmps51
 go_wp2_with fail
 go_ret
 exact⟨2,a,P,U,rfl,H.out,x.out,rfl⟩
def Oq (P:RP) (k:Nat) (th:AE) (x:Tx) (e:Int) (P':RP):Prop:=
 (Av x=false/\e=2)\/(Av x=true/\(((∃i,i<th.labs.length/\(th.labs.map Prod.fst).getD i []=x)/\e=3)\/((∀i,i<th.labs.length->(th.labs.map Prod.fst).getD i []≠x)/\e=0/\P'={P with thr:=P.thr.set k {th with labs:=th.labs++[(x,th.code.length)]}})))
theorem aag {w:Xh} {c:Nat->RT} {base G:Nat} {P:RP} {U:RV} (h:Ak w c base G P U) (b aa cap:Nat) (f:Tx) (hs:CX w c (some ⟨b,aa,none⟩) [f]) (k:Nat) (th:AE) (hk:P.thr.length=k+1) (n:P.thr[k]?=some th) (Q:P.thr.length<1000) (y:th.labs.length<4000) (aD:th.code.length<4000) (V:f.length<4000) (line:Int) (x:Tx) (D:f=x++[58]) (ay:f≠[116,104,114,101,97,100]) :
 XY Tryz.prog 51 #[Ab G,.slice (some ⟨b,aa,none⟩) 1 cap,.int .i64 line] w (GU w c base G (Oq P k th x)):=by
 obtain⟨p,o⟩:∃p,U.TV[k]?=some p:=⟨_,Xe (by rw[h.len];omega)⟩;obtain⟨d,aR,t⟩:=h.KJ n;have c3:=h.Ha;rw[t,hk] at c3;have t1:w.cell? ⟨d,k*3+1,none⟩=some p.1:=h.Hb n o (r:=1) (by omega) t;have Y:w.cell? ⟨d,k*3+2,none⟩=some p.2:=h.Hb n o (r:=2) (by omega) t;obtain⟨ca,cc,K⟩:=As (h.ths k th p n o).code;obtain⟨M,R,A⟩:=As (h.ths k th p n o).labs;rw[K] at t1;rw[A] at Y;have cf:=hs.at (i:=0) (by simp);have cf:w.cell? ⟨b,aa,none⟩=some (.string (bs f)):=cf;have b4:=Gm f [116,104,114,101,97,100];rw[decide_eq_false ay] at b4;have aG:(bs f).size=x.length+1:=by rw[Bg,D];simp
 have an:∀B:x.length<(bs f).size,(bs f)[x.length]'B=58:=λB=>by
  rw[Dx f x.length B];simp[D]
 have aK:(bs f).extract 0 x.length=bs x:=by rw[Hp,D];simp
 have hN:=λu=>Le x u;have HX:=Aa (Ah.refl w c);have H:=Aa h;have s:Ah w c w.drew c:=⟨rfl,rfl,rfl,Xd _,λ_ _=>rfl,λ_ _ _=>rfl⟩;have HD:=Aa (⟨Ak.keep (w':=w.drew) h (λ_ _=>rfl) s,s⟩:_/\_);have aL:wrap64 (k:Int)=(k:Int):=XZ _ (by omega);have aB:wrap64 (x.length:Int)=(x.length:Int):=XZ _ (by rw[D] at V;simp at V;omega);have az:x.length<(bs f).size:=by omega
 have aF:=an az;unfold Ab;replace o:=Aa o;replace n:=Aa n;replace K:=Aa K;replace A:=Aa A;replace t:=Aa t;replace Q:=Aa Q;replace y:=Aa y;clear h hs an D ay hk s
 go_enter Tryz.func51,Tryz.ntmps51
 go_wp2_with fail
 go_region
 go_wp2_with fail
 refine(hN _).mono ?_;rintro e z ⟨rfl,C⟩;have aw:Ak z c base G P U:=by rw[C];exact HD.out.1
 have ak:Ah w c z c:=by rw[C];exact HD.out.2
 have s1:z.cell? ⟨d,k*3+1,none⟩=some (.slice ca th.code.length cc):=by rw[C];exact t1
 have s2:z.cell? ⟨d,k*3+2,none⟩=some (.slice M th.labs.length R):=by rw[C];exact Y
 have l:=Aa (⟨aw,ak⟩:_/\_);clear C t1 Y c3 cf aw ak hN
 cases ag:Av x with
 |false=>
  go_wp2_with fail
  go_ret
  exact⟨2,c,P,U,rfl,l.out.1,l.out.2,.inl ⟨ag,rfl⟩⟩
 |true=>
  go_wp2_with fail
  go_loopw [12] (λO wr=>∃i:Nat,i<=th.labs.length/\O = .int .i64 i/\(∀j:Nat,j<i->(th.labs.map Prod.fst).getD j []≠x)/\wr=z) (λO _=>th.labs.length - (intOf O).toNat)
  case atStart=>exact⟨0,Nat.zero_le _,rfl,λj N=>by omega,rfl⟩
  case round=>
   clear aL aB aG aK az aF b4 aD V;obtain⟨i,B,rfl,F,rfl⟩:=hrel
   by_cases X:i<th.labs.length
   ·have aO:(i:Int)<(th.labs.length:Int):=by omega
    obtain⟨q,hq⟩:∃q,th.labs[i]?=some q:=⟨_,Xe X⟩;have E:=(l.out.1.ths k th p n.out o.out).labs;have T:=E;obtain⟨m,W⟩:∃m,th.labs.length=m+1:=⟨th.labs.length - 1,by omega⟩;rw[W] at T;obtain⟨lg,aU,J⟩:=Y5 T;rw[<-W] at J;have aJ:M=some ⟨lg,0,none⟩:=by have e:=A.out;rw[J] at e;cases e;rfl
    subst aJ;have cN:wr.cell? ⟨lg,i*2,none⟩=some (.string (bs q.1)):=by
     rw[J] at E;have e:=E.cellAt (i*2+0) (by have:=X;omega);exact e.trans (GJ (m:=2) (r:=0) Sb hq (by omega))
    have ar:(th.labs.map Prod.fst).getD i []=q.1:=by rw[Xc,List.getElem?_map,hq];rfl
    have ax:wrap64 ((i:Int)+1)=(i:Int)+1:=XZ _ (by have:=y.out;omega);have hF:((bs q.1).toList == (bs x).toList)=decide (q.1=x):=by
     rw[AL,AL]
     by_cases e:q.1=x<;>simp[e]
    have v:=Aa (⟨F,ar,X⟩:_/\_/\_);clear F ar E T W J hq;clear s1 K B HX H HD Q y
    by_cases e:q.1=x
    ·rw[decide_eq_true e] at hF;replace e:=Aa e
     go_wp2_with fail
     go_ret
     exact⟨3,c,P,U,rfl,l.out.1,l.out.2,.inr ⟨ag,.inl ⟨⟨i,v.out.2.2,v.out.2.1.trans e.out⟩,rfl⟩⟩⟩
    ·rw[decide_eq_false e] at hF;replace e:=Aa e
     go_wp2_with fail
     go_roundw
     case rel=>
      rw[ax]
      exact⟨i+1,v.out.2.2,rfl,λj N=>if h6:j=i then by subst h6;rw[v.out.2.1];exact e.out else v.out.1 j (Nat.lt_of_le_of_ne (Nat.le_of_lt_succ N) h6),trivial⟩
     case measure=>
      rw[ax];exact Nat.sub_lt_sub_left v.out.2.2 (Nat.lt_succ_self i)
   ·have aN:decide ((i:Int)<(th.labs.length:Int))=false:=by simp;omega
    have aQ:¬((i:Int)<(th.labs.length:Int)):=by omega
    have s:Ah wr c wr.drew c:=⟨rfl,rfl,rfl,Xd _,λ_ _=>rfl,λ_ _ _=>rfl⟩;have ao:=Ak.keep (w':=wr.drew) l.out.1 (λ_ _=>rfl) s;obtain⟨g,aA,w3,I,aH,aP,tag3,am,ai⟩:=ao.label n.out o.out x th.code.length (by have:=y.out;omega) t.out;rw[A.out] at I aH;have I:(XL #[197,197] 197 #[.slice M th.labs.length R,.slice (some ⟨wr.heap.size,0,none⟩) 1 1]).run Tryz.prog (wr.alloc (.cells #[.string (bs x),.int .i64 th.code.length] 202)).drew = .ok (.slice (some ⟨g,0,none⟩) (th.labs.length+1) aA) w3:=I;have Z:d<wr.heap.size:=l.out.1.lt (l.out.1.tt d (by rw[t.out];rfl)) (by simp);have aT:(wr.alloc (.cells #[.string (bs x),.int .i64 th.code.length] 202)).cell? ⟨d,k*3+2,none⟩=some (.slice M th.labs.length R):=(World.cell?_of_block (w:=wr) (a:=⟨d,k*3+2,none⟩) (Below.heap_alloc wr _ d Z)).trans s2;replace Z:=Aa Z;have S:=Aa (⟨am,(l.out.2.trans s).trans ai,λj N=>F j (by omega)⟩:_/\_/\(∀j,j<th.labs.length->_));clear F s ao am ai
    go_wp2_with fail
    go_region_law (refine FV rfl _ _ _ rfl rfl rfl rfl I ?_)
    all_goals
     go_wp2_with fail
     go_ret
     exact⟨0,tag3,_,_,rfl,S.out.1,S.out.2.1,.inr ⟨ag,.inr ⟨S.out.2.2,rfl,rfl⟩⟩⟩
end Go.Proofs.YtdcacoifehkioaaGreatDoor
