import Derived.Test.YtdcacoifehkioaaGreatDoorExR5
import Derived.Test.YtdcacoifehkioaaGreatDoorExR3
import Derived.Deep.RegionHeld3
open List renaming take_of_length_le->XY,getElem?_eq_some_iff->Xe,length_map->Xm,length_take->X2,take_succ_eq_append_getElem->XA,drop_eq_getElem_cons->X4,foldl_append->ZG,find?_append->Z2,take_append_drop->YL,length_set->Yq,ext_getElem?->Y8,getElem?_set_self->Yz,getElem?_set_ne->Zm,getD_eq_getElem?_getD->Xb,getElem?_take->Zg,getElem?_eq_getElem->Xc
open Nat renaming sub_self->YO,add_sub_cancel->adb,le_refl->Xf
open Go renaming World->Xg,Value->Xj,ownsRow_succ->YV,Calls->X3,wp_region_held_drew->XV,wpAnyH_done->YH
open Go.Builtin renaming append_->XM
open Go.IntWalk renaming wrap64_in->XQ
set_option maxRecDepth 100000
set_option maxHeartbeats 2000000
set_option linter.unusedVariables false
set_option linter.unusedSimpArgs false
namespace Go.Proofs.YtdcacoifehkioaaGreatDoor
open Go.RowKit Go.Proofs.Cod
def BU {α:Type} (f:α->α) (l:List α) (i:Nat):List α:=(l.take i).map f++l.drop i
theorem Il {α:Type} (f:α->α) (l:List α) (i:Nat):(BU f l i).length=l.length:=by simp[BU];omega
theorem Va {α:Type} (f:α->α) (l:List α):BU f l 0=l:=rfl
theorem OT {α:Type} (f:α->α) (l:List α) {i:Nat} (h:l.length<=i):BU f l i=l.map f:=by simp[BU,XY h,List.drop_eq_nil_of_le h]
theorem JS {α:Type} (f:α->α) {l:List α} {i:Nat} {x:α} (h:l[i]?=some x):(BU f l i)[i]?=some x:=by
 have a:=(Xe.1 h).1;unfold BU;rw[List.getElem?_append_right (by simp;omega),Xm,X2,Nat.min_eq_left (by omega),YO,List.getElem?_drop]
 simpa using h
theorem OS {α:Type} (f:α->α) {l:List α} {i:Nat} {x:α} (h:l[i]?=some x):(BU f l i).set i (f x)=BU f l (i+1):=by
 have a:=(Xe.1 h).1;have b:=(Xe.1 h).2;unfold BU;rw[List.set_append_right _ _ (by simp;omega),Xm,X2,Nat.min_eq_left (by omega),YO,XA a,List.map_append,List.append_assoc]
 congr 1
 rw[X4 a,b];rfl
def EX (x:Tx) (l:List (Tx×Nat)) (a:Int):Int:=l.foldl (λa p=>if p.1=x then(p.2:Int) else a) a
theorem Qf {x:Tx} {l:List (Tx×Nat)} {j:Nat} {p:Tx×Nat} (h:l[j]?=some p) (a:Int):EX x (l.take (j+1)) a=if p.1=x then(p.2:Int) else EX x (l.take j) a:=by
 have c:=(Xe.1 h).1;have b:=(Xe.1 h).2;unfold EX;rw[XA c,ZG,b];rfl
def Ht (f:Tx):Bool:=f == [108]||f == [97,98,108]
def rX (P:RP) (th:Az) (r:RI):Int:=if AA r.i.op=[116] then Ao P.names r.word else if Ht (AA r.i.op) then EX r.word th.labs (-1) else r.i.x
def RI.at (r:RI) (x:Int):RI:={r with i:={r.i with x:=x}}
def CH (P:RP) (th:Az) (r:RI):RI:=r.at (rX P th r)
def Dw (P:RP) (th:Az):Az:={th with code:=th.code.map (CH P th)}
def RP.res (P:RP) (i:Nat):RP:={P with thr:=BU (Dw P) P.thr i}
def DC (P:RP) (th:Az) (l:List RI):Option Int:=(l.find? λr=>decide (rX P th r<0)).map RI.line
def Em (P:RP) (l:List Az):Option Int:=l.findSome? λth=>DC P th th.code
theorem Kz {P:RP} {th:Az} {k:Nat} {r:RI} (a:th.code[k]?=some r) (h:DC P th (th.code.take k)=none) (d:¬rX P th r<0):DC P th (th.code.take (k+1))=none:=by
 have c:=(Xe.1 a).1;have b:=(Xe.1 a).2;unfold DC at h |-;rw[XA c,Z2,b];simp only[Option.map_eq_none_iff] at h |-;rw[h];simp;omega
theorem KA {P:RP} {th:Az} {k:Nat} {r:RI} (a:th.code[k]?=some r) (h:DC P th (th.code.take k)=none) (c:rX P th r<0):DC P th th.code=some r.line:=by
 have d:=(Xe.1 a).1;have b:=(Xe.1 a).2;have e:th.code=th.code.take k++(r::th.code.drop (k+1)):=by
  conv=>lhs;rw[<-YL k th.code,X4 d,b]
 unfold DC at h |-;rw[e,Z2];simp only[Option.map_eq_none_iff] at h;rw[h];simp[c]
theorem act {P:RP} {i:Nat} {th:Az} (a:P.thr[i]?=some th) (h:Em P (P.thr.take i)=none) (c:DC P th th.code=none):Em P (P.thr.take (i+1))=none:=by
 have d:=(Xe.1 a).1;have b:=(Xe.1 a).2;unfold Em at h |-;rw[XA d,List.findSome?_append,b,h];simp[c]
theorem Ky {P:RP} {i:Nat} {th:Az} {e:Int} (a:P.thr[i]?=some th) (h:Em P (P.thr.take i)=none) (c:DC P th th.code=some e):Em P P.thr=some e:=by
 have f:=(Xe.1 a).1;have b:=(Xe.1 a).2;have d:P.thr=P.thr.take i++(th::P.thr.drop (i+1)):=by
  conv=>lhs;rw[<-YL i P.thr,X4 f,b]
 unfold Em at h |-;rw[d,List.findSome?_append,h];simp[c]
section
variable {w w':Xg} {tag tag':Nat->RT} {base pb:Nat} {P:RP} {U:RV}
theorem Ah.TR (h:Ah w tag base pb P U) {j k:Nat} {th:Az} {r:RI} {p:Xj×Xj} (y:P.thr[j]?=some th) (s:U.TV[j]?=some p) (J:th.code[k]?=some r) {c n K:Nat} (C:p.1 = .slice (some ⟨c,0,none⟩) n K) (v:Int) :
 Ah (w.setCell ⟨c,k*9+6,none⟩ (.int .i64 v)) tag base pb {P with thr:=P.thr.set j {th with code:=th.code.set k (r.at v)}} U/\Ag w tag (w.setCell ⟨c,k*9+6,none⟩ (.int .i64 v)) tag:=by
 have f:=h.ths j th p y s;have o:tag c = .cd j:=f.tc c (by rw[C];rfl);have B:=(Xe.1 y).1;have l:∀b,b≠c->(w.setCell ⟨c,k*9+6,none⟩ (.int .i64 v)).heap[b]?=w.heap[b]?:=λb t=>Below.heap_setCell w ⟨c,k*9+6,none⟩ _ b t;have F:Ag w tag (w.setCell ⟨c,k*9+6,none⟩ (.int .i64 v)) tag:=⟨rfl,rfl,rfl,by simp,λ_ _=>rfl,λb t G=>l b (BI G o (by simp))⟩;refine⟨h.step (λx=>x = .cd j) F (λb t d q=>l b (λe=>q (by rw[e];exact o))) (λb t A=>absurd (h.tlt b A).2 (by omega)) ((l pb (BI h.tp o (by simp))).trans h.cell) (λk' O=>.inl ⟨rfl,rfl,by simp⟩) (.inr ⟨?_,h.tt,by simp[h.len]⟩) (λi M N d q=>?_),F⟩
 ·show World.ownsRow _ _ _ _ U.tV (P.thr.set j _).length (((P.thr.set j _).zip U.TV).flatMap Da);rw[Yq];have I:((P.thr.set j {th with code:=th.code.set k (r.at v)}).zip U.TV).flatMap Da=(P.thr.zip U.TV).flatMap Da:=by
   have H:U.TV.set j p=U.TV:=by
    apply Y8
    intro m
    by_cases e:m=j
    ·subst e;rw[Yz (by rw[h.len];exact B),s]
    ·rw[Zm (λa=>e a.symm)]
   conv=>lhs;rw[<-H,<-Od (th:=th) (p:=p)]
   have E:(P.thr.zip U.TV)[j]?=some (th,p):=by rw[List.getElem?_zip_eq_some];exact⟨y,s⟩
   rw[<-Mw (r:=0) (u:=.string (bs th.name)) IM E (by omega) rfl]
   apply Y8
   intro m
   by_cases e:m=j*3+0
   ·subst e;have D:=GN (r:=0) IM E (by omega);rw[Yz (Xe.1 D).1,D];rfl
   ·rw[Zm (λa=>e a.symm)]
  rw[I];exact Bg h.trow λg e=>l g (BI (h.tt g e) o (by simp))
 ·have d:(P.thr.set j _)[i]?=some M:=d
  by_cases e:i=j
  ·subst e;right;rw[Yz B] at d
   cases d
   rw[s] at q
   cases q
   refine⟨?_,f.tc,Bg f.labs λg e=>l g (BI (f.tl g e) o (by simp)),f.tl⟩;show World.ownsRow _ _ _ _ p.1 (th.code.set k _).length ((th.code.set k _).flatMap AC);have z:=f.code;rw[C] at z |-;have A:n=th.code.length:=by obtain⟨_,_,a⟩:=At z;cases a;rfl
   subst A;rw[Yq,<-Mw (r:=6) (u:=.int .i64 v) Ow J (by omega) rfl]
   exact(z.stored (k*9+6) _).1
  ·rw[Zm (λa=>e a.symm)] at d;exact .inl ⟨d,q,(λa=>by cases a;exact e rfl),by simp⟩
theorem Ah.Jg (h:Ah w tag base pb P U) {j k q:Nat} {th:Az} {r:RI} {p:Xj×Xj} (i:P.thr[j]?=some th) (d:U.TV[j]?=some p) (c:th.code[k]?=some r) (e:q<9) {a f:Nat} (g:p.1 = .slice (some ⟨a,0,none⟩) th.code.length f):w.cell? ⟨a,k*9+q,none⟩=(AC r)[q]?/\w.frozen? ⟨a,k*9+q,none⟩=false:=by
 have l:=(Xe.1 c).1;have b:=(h.ths j th p i d).code;rw[g] at b;refine⟨?_,b.frozenAt _⟩;rw[b.cellAt (k*9+q) (by omega)];exact GN Ow c e
theorem Ah.ab2 (h:Ah w tag base pb P U) {j k:Nat} {th:Az} {r:RI} {p:Xj×Xj} (f:P.thr[j]?=some th) (a:U.TV[j]?=some p) (d:th.code[k]?=some r):∃b e,p.1 = .slice (some ⟨b,0,none⟩) th.code.length e:=by
 have g:=(Xe.1 d).1;obtain⟨m,c⟩:∃m,th.code.length=m+1:=⟨th.code.length - 1,by omega⟩;have:=(h.ths j th p f a).code;rw[c] at this |-;exact YV this
theorem Ah.Qh (h:Ah w tag base pb P U) {j k q:Nat} {th:Az} {l:Tx×Nat} {p:Xj×Xj} (i:P.thr[j]?=some th) (d:U.TV[j]?=some p) (c:th.labs[k]?=some l) (f:q<2) {b e:Nat} (g:p.2 = .slice (some ⟨b,0,none⟩) th.labs.length e):w.cell? ⟨b,k*2+q,none⟩=(Kf l)[q]?:=by
 have m:=(Xe.1 c).1;have a:=(h.ths j th p i d).labs;rw[g] at a;rw[a.cellAt (k*2+q) (by omega)];exact GN Qi c f
theorem Ah.WK (h:Ah w tag base pb P U) {j k:Nat} {th:Az} {l:Tx×Nat} {p:Xj×Xj} (f:P.thr[j]?=some th) (a:U.TV[j]?=some p) (e:th.labs[k]?=some l):∃d c,p.2 = .slice (some ⟨d,0,none⟩) th.labs.length c:=by
 have g:=(Xe.1 e).1;obtain⟨m,b⟩:∃m,th.labs.length=m+1:=⟨th.labs.length - 1,by omega⟩;have:=(h.ths j th p f a).labs;rw[b] at this |-;exact YV this
end
theorem OO {w:Xg} {F:Nat->RT} {base d:Nat} {P:RP} {U:RV} (h:Ah w F base d P U) (x:Tx) (G:P.thr.length<1048576) (f:∀k,(P.get k).length<1048576) :
 X3 Tryz.prog 111 #[Ab d,.string (bs x)] w λe w'=>e = .returned (.bool (DA P x))/\w'=w:=by
 have n:=ON h x G;have i:=h.Dm (k:=118) (.inl rfl);have j:=h.Dm (k:=102) (.inr (.inl rfl));have m:=h.Dm (k:=109) (.inr (.inr rfl));obtain⟨D,A,p,E⟩:=Es (h.rows 118 (.inl rfl));obtain⟨y,v,t,s⟩:=Es (h.rows 102 (.inr (.inl rfl)));obtain⟨z,r,B,o⟩:=Es (h.rows 109 (.inr (.inr rfl)));rw[p] at i;rw[t] at j;rw[B] at m;have i:w.cell? ⟨d,0,none⟩=some (.slice D P.vs.length A):=i;have j:w.cell? ⟨d,1,none⟩=some (.slice y P.fs.length v):=j;have m:w.cell? ⟨d,2,none⟩=some (.slice z P.ls.length r):=m;have c:=Hn D P.vs.length A P.vs x w rfl E (by have:P.vs.length<1048576:=f 118;omega);have g:=Hn y P.fs.length v P.fs x w rfl s (by have:P.fs.length<1048576:=f 102;omega);have l:=Hn z P.ls.length r P.ls x w rfl o (by have:P.ls.length<1048576:=f 109;omega);have a:Hid (DA P x=(decide (0<=Ao P.vs x)||decide (0<=Ao P.fs x)||decide (0<=Ao P.ls x)||decide (0<=Ao P.names x))):=rfl;generalize Ao P.vs x=z0 at c a;generalize Ao P.fs x=z1 at g a;generalize Ao P.ls x=z2 at l a;generalize Ao P.names x=z3 at n a;unfold Ab at n |-;clear h E s o p t B f
 by_cases u:0<=z0
 ·have b:Hid (DA P x=true):=by rw[a.out,decide_eq_true u];rfl
  go_enter Tryz.func111,Tryz.ntmps111
  go_wp2_with fail
  refine c.mono ?_;rintro e w1 ⟨rfl,rfl⟩
  go_wp2_with fail
  go_ret
  exact⟨by rw[b.out];rfl,rfl⟩
 ·by_cases C:0<=z1
  ·have b:Hid (DA P x=true):=by unfold Hid;rw[a.out,decide_eq_true C];simp
   go_enter Tryz.func111,Tryz.ntmps111
   go_wp2_with fail
   refine c.mono ?_;rintro e w1 ⟨rfl,rfl⟩
   go_wp2_with fail
   refine g.mono ?_;rintro e w1 ⟨rfl,rfl⟩
   go_wp2_with fail
   go_ret
   exact⟨by rw[b.out];rfl,rfl⟩
  ·by_cases q:0<=z2
   ·have b:Hid (DA P x=true):=by unfold Hid;rw[a.out,decide_eq_true q];simp
    go_enter Tryz.func111,Tryz.ntmps111
    go_wp2_with fail
    refine c.mono ?_;rintro e w1 ⟨rfl,rfl⟩
    go_wp2_with fail
    refine g.mono ?_;rintro e w1 ⟨rfl,rfl⟩
    go_wp2_with fail
    refine l.mono ?_;rintro e w1 ⟨rfl,rfl⟩
    go_wp2_with fail
    go_ret
    exact⟨by rw[b.out];rfl,rfl⟩
   ·have b:Hid (DA P x=decide (0<=z3)):=by rw[a.out,decide_eq_false u,decide_eq_false C,decide_eq_false q];rfl
    go_enter Tryz.func111,Tryz.ntmps111
    go_wp2_with fail
    refine c.mono ?_;rintro e w1 ⟨rfl,rfl⟩
    go_wp2_with fail
    refine g.mono ?_;rintro e w1 ⟨rfl,rfl⟩
    go_wp2_with fail
    refine l.mono ?_;rintro e w1 ⟨rfl,rfl⟩
    go_wp2_with fail
    refine n.mono ?_;rintro e w1 ⟨rfl,rfl⟩
    go_wp2_with fail
    go_ret
    exact⟨by rw[a.out];rfl,rfl⟩
def Fp (P:RP) (ts:List Tx) (i:Nat):Prop:=DA P (ts.getD i [])=true\/∃j,j<i/\ts.getD j []=ts.getD i []
def RP.AE (P:RP) (k:Int) (ts:List Tx):RP:=ts.foldl (λP x=>P.put k x) P
def Bh (f:Tx):Int:=if f=Hd then 118 else if f=He then 102 else 109
theorem WM (f:Tx):BE (Bh f):=by
 unfold Bh BE
 split
 ·simp
 ·split<;>simp
theorem Ws.tail {w:Xg} {b a:Nat} {f:Tx} {ts:List Tx} (h:Ws w (some ⟨b,a,none⟩) (f::ts)) (i:Nat) (m:i<=ts.length):Ws w (some ⟨b,a+1,none⟩) (ts.take i):=λj k=>by
 rw[X2] at k;obtain⟨n,l,c,e,g⟩:=h (j+1) (by simp;omega)
 cases c
 refine⟨b,a+1,rfl,e,?_⟩;have d:(ts.take i).getD j []=(f::ts).getD (j+1) []:=by
  rw[Xb,Zg,if_pos (by omega),Xb,List.getElem?_cons_succ]
 rw[d,show a+1+j=a+(j+1) by omega];exact g
theorem LA {P:RP} {k:Int} {ts:List Tx} {i:Nat} (h:i<ts.length):P.AE k (ts.take (i+1))=(P.AE k (ts.take i)).put k (ts.getD i []):=by
 unfold RP.AE;rw[XA h,ZG,Xb,Xc h];rfl
theorem UU {P:RP} {k:Int} (a:BE k) (x:Tx):(P.put k x).get k=P.get k++[x]:=by
 rcases a with rfl|rfl|rfl<;>simp[RP.put,RP.get]
theorem LC {k:Int} (a:BE k):∀(ts:List Tx) (P:RP),(P.AE k ts).get k=P.get k++ts
 |[],P=>by simp[RP.AE]
 |x::ts,P=>by
  show ((P.put k x).AE k ts).get k=_;rw[LC a ts,UU a];simp
theorem abf {ts:List Tx} {i:Nat} (r:i<ts.length):0<=Ao (ts.take i) (ts.getD i [])↔∃j,j<i/\ts.getD j []=ts.getD i []:=by
 have s:(ts.take i).length=i:=by rw[X2];omega
 have d:∀j,j<i->(ts.take i).getD j []=ts.getD j []:=λj b=>by
  rw[Xb,Zg,if_pos b,Xb]
 constructor
 ·intro h
  by_cases g:∃j,j<i/\ts.getD j []=ts.getD i []
  ·exact g
  ·rw[My (λj b=>by rw[d j (by omega)];exact λe=>g ⟨j,by omega,e⟩)] at h
   omega
 ·rintro⟨j,b,e⟩;have q:∃k,k<i/\ts.getD k []=ts.getD i []/\∀m,m<k->ts.getD m []≠ts.getD i []:=by
   induction j using Nat.strongRecOn with
   |ind j o=>
    by_cases a:∃m,m<j/\ts.getD m []=ts.getD i []
    ·obtain⟨m,c,f⟩:=a;exact o m c (by omega) f
    ·exact⟨j,b,e,λm c f=>a ⟨m,c,f⟩⟩
  obtain⟨k,n,l,p⟩:=q;rw[Mz (i:=k) (by omega) (λm a=>by rw[d m (by omega)];exact p m a) (by rw[d k n];exact l)]
  omega
def FN (w:Xg) (tag:Nat->RT) (base pb:Nat) (R:Int->RP->Prop) (en:Ending) (w':Xg):Prop:=
 ∃e tag' P' U',en = .returned (.int .i64 e)/\Ah w' tag' base pb P' U'/\Ag w tag w' tag'/\R e P'
def Jr (P:RP) (f:Tx) (ts:List Tx) (e:Int) (P':RP):Prop:=
 ((ts=[]\/ts.all Ar=false)/\e=2)\/((ts≠[]/\ts.all Ar=true)/\(((∃i,i<ts.length/\Fp P ts i)/\e=3)\/((∀i,i<ts.length->¬Fp P ts i)/\P'=P.AE (Bh f) ts/\((4<P'.vs.length\/4<P'.fs.length\/4<P'.ls.length)/\e=4\/(P'.vs.length<=4/\P'.fs.length<=4/\P'.ls.length<=4)/\e=0))))
theorem Cm.at {w:Xg} {c:Nat->RT} {b a:Nat} {ws:List Tx} (h:Cm w c (some ⟨b,a,none⟩) ws) {i:Nat} (d:i<ws.length):w.cell? ⟨b,a+i,none⟩=some (.string (bs (ws.getD i []))):=by
 obtain⟨j,g,e,_,f,_⟩:=h i d
 cases e;exact f
theorem Fg (s t:Tx):((bs s).toList == t)=decide (s=t):=by
 rw[AR]
 by_cases e:s=t<;>simp[e]
theorem UO {w:Xg} {v:Nat->RT} {base j:Nat} {P:RP} {U:RV} (h:Ah w v base j P U) (b ai n cap:Nat) (f:Tx) (ts:List Tx) (hn:ts.length+1=n) (hs:Cm w v (some ⟨b,ai,none⟩) (f::ts)) (bv:n<=cap) (hb:P.thr.length<1000) (hl:∀k,(P.get k).length<=4) (bf:n<4000) :
 X3 Tryz.prog 109 #[Ab j,.slice (some ⟨b,ai,none⟩) n cap] w (FN w v base j (Jr P f ts)):=by
 have HX:=Aa (Ag.refl w v);have H:=Aa h;have aw:=Aa hs;have W:=Aa hn;unfold Ab
 go_enter Tryz.func109,Tryz.ntmps109
 clear h hs hn
 go_wp2_with fail
 go_loopw [5] (λE wr=>∃i:Nat,1<=i/\i<=n/\E = .int .i64 i/\(ts.take (i - 1)).all Ar=true/\wr=w) (λE _=>n - (intOf E).toNat)
 case atStart=>exact⟨1,by omega,by have:=W.out;omega,rfl,by simp,rfl⟩
 case round=>
  obtain⟨i,bE,hi,rfl,ak,rfl⟩:=hrel
  by_cases h5:i<n
  ·have aH:(i:Int)<(n:Int):=by omega
   obtain⟨m,rfl⟩:∃m,i=m+1:=⟨i - 1,by omega⟩;have O:m<ts.length:=by have:=W.out;omega
   have B:=aw.out.at (i:=m+1) (by simp;omega);have N:(f::ts).getD (m+1) []=ts.getD m []:=by simp
   rw[N] at B;have HA:=Aa (⟨RR (p:=Ar) O,RS (p:=Ar) O,ak⟩:_/\_/\_);generalize ts.getD m []=t at B HA;clear ak N
   go_wp2_with fail
   refine(JO t _).mono ?_;rintro e w2 ⟨rfl,rfl⟩
   cases r:Ar t with
   |true=>
    go_wp2_with fail
    go_roundw
    case rel=>exact⟨m+1+1,by omega,by omega,by go_num,by show (ts.take (m+1)).all Ar=true;rw[HA.out.1,r];have:=HA.out.2.2;simp only[adb] at this;rw[this];rfl,by trivial⟩
    case measure=>simp[intOf];omega
   |false=>
    go_wp2_with fail
    go_ret
    exact⟨2,v,P,U,rfl,H.out,HX.out,.inl ⟨.inr (HA.out.2.1 r),rfl⟩⟩
  ·have a7:i=n:=by omega
   subst a7;have aj:Hid (ts.all Ar=true):=by
    rw[XY (by have:=W.out;omega)] at ak;exact ak
   clear ak
   by_cases h1:i=1
   ·subst h1;have ht:Hid (ts=[]):=List.eq_nil_of_length_eq_zero (by have:=W.out;omega)
    go_wp2_with fail
    go_ret
    exact⟨2,v,P,U,rfl,H.out,HX.out,.inl ⟨.inl ht.out,rfl⟩⟩
   ·have bj:((i:Int) == 1)=false:=by simp;omega
    have ad:Hid (ts≠[]):=λe=>h1 (by have:=W.out;rw[e] at this;simp at this;omega);have bi:2<=i:=by omega
    rename Xg=>w0
    go_wp2_with fail
    go_loopw [7] (λE wr=>∃k:Nat,1<=k/\k<=i/\E = .int .i64 k/\(∀m,m+1<k->¬Fp P ts m)/\Below w0.heap.size w0 wr) (λE _=>i - (intOf E).toNat)
    case atStart=>exact⟨1,by omega,by omega,rfl,λm hm=>by omega,Below.refl _ _⟩
    case round=>
     obtain⟨k,bz,hk,rfl,Z,Q⟩:=hrel;have M:=H.out.below Q;have J:Ag w0 v wr v:=.Ch Q;have G:=aw.out.ext J
     by_cases h6:k<i
     ·have aH:(k:Int)<(i:Int):=by omega
      obtain⟨m,rfl⟩:∃m,k=m+1:=⟨k - 1,by omega⟩;have O:m<ts.length:=by have:=W.out;omega
      have B:=G.at (i:=m+1) (by simp;omega);have N:(f::ts).getD (m+1) []=ts.getD m []:=by simp
      rw[N] at B;have r:Ag wr v wr.drew v:=⟨rfl,rfl,rfl,Xf _,λ_ _=>rfl,λ_ _ _=>rfl⟩;have aO:=Ah.keep (w':=wr.drew) M (λ_ _=>rfl) r;have hH:=OO aO (ts.getD m []) (by omega) (λk=>by have:=hl k;omega);have hF:=Hn (some ⟨b,ai+1,none⟩) m (cap - 1) (ts.take m) (ts.getD m []) wr.drew (by rw[X2];omega) (Ws.tail (Cm.ext (w':=wr.drew) G r).ws m (by omega)) (by omega);have aM:=abf O;have am:Hid (Fp P ts m↔(DA P (ts.getD m [])=true\/0<=Ao (ts.take m) (ts.getD m []))):=by
       unfold Hid Fp;rw[aM]
      unfold Ab at hH;generalize Ao (ts.take m) (ts.getD m [])=z at hF am;have HE:=Aa (⟨M,J,Z,Q⟩:_/\_/\_/\_);have bq:¬(cap=1):=by omega
      have bb:(0:Int)<=(m:Int)+1:=by omega
      have be:(1:Int)<=(m:Int)+1:=by omega
      have bA:(m:Int)+1<=(cap:Int):=by omega
      generalize X:ts.getD m []=x at B hH am hF;replace X:=Aa X;clear M J G N aM aO Z Q r
      cases ap:DA P x with
      |true=>
       rw[ap] at hH;have aA:Hid (Fp P ts m):=am.out.2 (.inl ap)
       go_wp2_with fail
       refine XV (S:=(λw'=>w'.cell? ⟨b,ai+(m+1),none⟩=some (.string (bs x)))) (by kernel_rfl) B (λa=>?_);refine tk 0 a ?_;refine tk 1 a ?_;refine tk 2 a ?_;refine tk 3 a ?_;refine tk 4 a ?_;refine rd 5 (λK I=>?_)
       go_simp
       go_at_call 111
       refine hH.mono ?_;rintro e w5 ⟨rfl,rfl⟩
       go_wp2_with fail
       refine I.out _ _ B (λa=>?_);clear I K
       try simp only[Act.put,sq]
       refine tk 6 a ?_;refine tn 7 a ?_;refine tn 8 a ?_;refine tn 9 a ?_;refine tn 10 a ?_;refine tn 11 a ?_;refine tn 12 a ?_;refine tn 13 a ?_;refine tn 14 a ?_;refine tn 15 a ?_;refine tk 16 a ?_;refine YH (by kernel_rfl) ?_ _;clear a
       go_wp2_with fail
       go_ret
       obtain⟨M,J,Z,Q⟩:=HE.out
       exact⟨3,v,P,U,rfl,Ah.keep (w':=wr.drew) M (λ_ _=>rfl) ⟨rfl,rfl,rfl,Xf _,λ_ _=>rfl,λ_ _ _=>rfl⟩,J.trans ⟨rfl,rfl,rfl,Xf _,λ_ _=>rfl,λ_ _ _=>rfl⟩,.inr ⟨⟨ad.out,aj.out⟩,.inl ⟨⟨m,O,aA.out⟩,rfl⟩⟩⟩
      |false=>
       rw[ap] at hH
       go_wp2_with fail
       refine XV (S:=(λw'=>w'.cell? ⟨b,ai+(m+1),none⟩=some (.string (bs x)))) (by kernel_rfl) B (λa=>?_);refine tk 0 a ?_;refine tk 1 a ?_;refine tk 2 a ?_;refine tk 3 a ?_;refine tk 4 a ?_;refine rd 5 (λK I=>?_)
       go_simp
       go_at_call 111
       refine hH.mono ?_;rintro e w5 ⟨rfl,rfl⟩
       go_wp2_with fail
       refine I.out _ _ B (λa=>?_);clear I K
       try simp only[Act.put,sq]
       refine tk 6 a ?_;refine tk 7 a ?_;refine tk 8 a ?_;refine tk 9 a ?_;refine tk 10 a ?_;refine tk 11 a ?_;refine tk 12 a ?_;refine tk 13 a ?_;refine rd 14 (λK I=>?_)
       go_simp
       go_at_call 145
       refine hF.mono ?_;rintro e w6 ⟨rfl,rfl⟩
       go_wp2_with fail
       refine I.out _ _ B (λa=>?_);clear I K
       try simp only[Act.put,sq]
       refine tk 15 a ?_;refine tk 16 a ?_;refine YH (by kernel_rfl) ?_ _;clear a
       by_cases hz:0<=z
       ·have bd:decide (0<=z)=true:=decide_eq_true hz;have aA:Hid (Fp P ts m):=am.out.2 (.inr hz)
        go_wp2_with fail
        go_ret
        obtain⟨M,J,Z,Q⟩:=HE.out
        exact⟨3,v,P,U,rfl,Ah.keep (w':=wr.drew) M (λ_ _=>rfl) ⟨rfl,rfl,rfl,Xf _,λ_ _=>rfl,λ_ _ _=>rfl⟩,J.trans ⟨rfl,rfl,rfl,Xf _,λ_ _=>rfl,λ_ _ _=>rfl⟩,.inr ⟨⟨ad.out,aj.out⟩,.inl ⟨⟨m,O,aA.out⟩,rfl⟩⟩⟩
       ·have bd:decide (0<=z)=false:=decide_eq_false hz;have aQ:Hid (¬Fp P ts m):=λhD=>by
         rcases am.out.1 hD with e|e
         ·rw[ap] at e;cases e
         ·exact hz e
        go_wp2_with fail
        go_roundw
        case rel=>
         obtain⟨M,J,Z,Q⟩:=HE.out;refine⟨m+1+1,by omega,by omega,by go_num,λm' bw=>?_,Q.trans ⟨rfl,rfl,rfl,Xf _,λ_ _=>rfl⟩⟩
         by_cases e:m'=m
         ·subst e;exact aQ.out
         ·exact Z m' (by omega)
        case measure=>simp[intOf];omega
     ·have aR:k=i:=by omega
      subst aR;have aq:Hid (∀m,m<ts.length->¬Fp P ts m):=λm hm=>Z m (by have:=W.out;omega);have HE:=Aa (⟨M,J⟩:_/\_);clear M J G Z Q
      rename Xg=>w1
      go_wp2_with fail
      go_loopw [8] (λE wr=>∃(q:Nat) (T:Nat->RT) (o:RV),1<=q/\q<=k/\E = .int .i64 q/\Ah wr T base j (P.AE (Bh f) (ts.take (q - 1))) o/\Ag w0 v wr T) (λE _=>k - (intOf E).toNat)
      case atStart=>exact⟨1,v,U,by omega,by omega,rfl,by simpa [RP.AE] using HE.out.1,HE.out.2⟩
      case round=>
       clear HE;obtain⟨q,T,o,bt,hq,rfl,c,l⟩:=hrel
       by_cases h7:q<k
       ·have aH:(q:Int)<(k:Int):=by omega
        obtain⟨m,rfl⟩:∃m,q=m+1:=⟨q - 1,by omega⟩;have O:m<ts.length:=by have:=W.out;omega
        have G:=aw.out.ext l;have B:=G.at (i:=m+1) (by simp;omega);have cf:=G.at (i:=0) (by simp);have N:(f::ts).getD (m+1) []=ts.getD m []:=by simp
        rw[N] at B;have cf:wr.cell? ⟨b,ai,none⟩=some (.string (bs f)):=cf;simp only[adb] at c;have bb:(0:Int)<=(m:Int)+1:=by omega
        have bg:(0:Int)<(k:Int):=by omega
        have b1:=Fg f [118,97,114];have b2:=Fg f [102,108,97,103];have bo:=c.lt c.tp (by simp);have bm:b<wr.heap.size:=by obtain⟨b',o',e1,e2,_⟩:=G 0 (by simp);cases e1;exact e2
        have ag:∀KK,BE KK->((P.AE KK (ts.take m)).get KK).length<1048576:=λKK I=>by
         rw[LC I,List.length_append,X2];have:=hl KK;omega
        have r:Ag wr T wr.drew T:=⟨rfl,rfl,rfl,Xf _,λ_ _=>rfl,λ_ _ _=>rfl⟩;have R:=Ah.keep (w':=wr.drew) c (λ_ _=>rfl) r;generalize X:ts.getD m []=x at B;replace X:=Aa X
        by_cases Y:f=Hd
        ·have d:Bh f=118:=by unfold Bh;rw[if_pos Y]
         rw[d] at c R;rw[show decide (f=[118,97,114])=true from decide_eq_true Y] at b1;obtain⟨g,ab,w3,A,F,aa,tag3,u,s⟩:=R.name (k:=118) (.inl rfl) x (ag 118 (.inl rfl));have C:=c.Dm (k:=118) (.inl rfl);obtain⟨va,vc,D,_⟩:=Es (c.rows 118 (.inl rfl));have y:=Aa (⟨u,s,l.trans r,d⟩:_/\_/\_/\_);clear c R u s G N r ag l d Y;have A:(XM #[22,22] 22 #[o.V 118,.slice (some ⟨wr.heap.size,0,none⟩) 1 1]).run Tryz.prog (wr.alloc (.cells #[.string (bs x)] 9)).drew = .ok (.slice (some ⟨g,0,none⟩) (((P.AE 118 (ts.take m)).get 118).length+1) ab) w3:=A;rw[D] at A C F;have C:wr.cell? ⟨j,0,none⟩=some (.slice va ((P.AE 118 (ts.take m)).get 118).length vc):=C;have F:w3.cell? ⟨j,0,none⟩=some (.slice va ((P.AE 118 (ts.take m)).get 118).length vc):=F;have aa:w3.frozen? ⟨j,0,none⟩=false:=aa;replace D:=Aa D
         go_wp2_with fail
         go_region_law (refine Fs rfl _ _ _ rfl rfl rfl rfl A ?_)
         all_goals
          go_wp2_with fail
          go_roundw
          case rel=>
           obtain⟨u,s,l,d⟩:=y.out;have e:P.AE (Bh f) (ts.take (m+1))=(P.AE (Bh f) (ts.take m)).put (Bh f) x:=by rw[LA O,X.out]
           refine⟨m+1+1,tag3,{o with V:=AM o.V (Bh f) (.slice (some ⟨g,0,none⟩) (((P.AE (Bh f) (ts.take m)).get (Bh f)).length+1) ab)},by omega,by omega,by go_num,?_,l.trans s⟩;show Ah _ _ _ _ (P.AE (Bh f) (ts.take (m+1))) _;rw[e,d];exact u
          case measure=>simp[intOf];omega
        ·rw[show decide (f=[118,97,114])=false from decide_eq_false Y] at b1
         by_cases f2:f=He
         ·have d:Bh f=102:=by unfold Bh;rw[if_neg Y,if_pos f2]
          rw[d] at c R;rw[show decide (f=[102,108,97,103])=true from decide_eq_true f2] at b2;obtain⟨g,ab,w3,A,F,aa,tag3,u,s⟩:=R.name (k:=102) (.inr (.inl rfl)) x (ag 102 (.inr (.inl rfl)));have C:=c.Dm (k:=102) (.inr (.inl rfl));obtain⟨va,vc,D,_⟩:=Es (c.rows 102 (.inr (.inl rfl)));have y:=Aa (⟨u,s,l.trans r,d⟩:_/\_/\_/\_);clear c R u s G N r ag l d Y f2;have A:(XM #[22,22] 22 #[o.V 102,.slice (some ⟨wr.heap.size,0,none⟩) 1 1]).run Tryz.prog (wr.alloc (.cells #[.string (bs x)] 9)).drew = .ok (.slice (some ⟨g,0,none⟩) (((P.AE 102 (ts.take m)).get 102).length+1) ab) w3:=A;rw[D] at A C F;have C:wr.cell? ⟨j,1,none⟩=some (.slice va ((P.AE 102 (ts.take m)).get 102).length vc):=C;have F:w3.cell? ⟨j,1,none⟩=some (.slice va ((P.AE 102 (ts.take m)).get 102).length vc):=F;have aa:w3.frozen? ⟨j,1,none⟩=false:=aa;replace D:=Aa D
          go_wp2_with fail
          go_region_law (refine Fs rfl _ _ _ rfl rfl rfl rfl A ?_)
          all_goals
           go_wp2_with fail
           go_roundw
           case rel=>
            obtain⟨u,s,l,d⟩:=y.out;have e:P.AE (Bh f) (ts.take (m+1))=(P.AE (Bh f) (ts.take m)).put (Bh f) x:=by rw[LA O,X.out]
            refine⟨m+1+1,tag3,{o with V:=AM o.V (Bh f) (.slice (some ⟨g,0,none⟩) (((P.AE (Bh f) (ts.take m)).get (Bh f)).length+1) ab)},by omega,by omega,by go_num,?_,l.trans s⟩;show Ah _ _ _ _ (P.AE (Bh f) (ts.take (m+1))) _;rw[e,d];exact u
           case measure=>simp[intOf];omega
         ·have d:Bh f=109:=by unfold Bh;rw[if_neg Y,if_neg f2]
          rw[d] at c R;rw[show decide (f=[102,108,97,103])=false from decide_eq_false f2] at b2;obtain⟨g,ab,w3,A,F,aa,tag3,u,s⟩:=R.name (k:=109) (.inr (.inr rfl)) x (ag 109 (.inr (.inr rfl)));have C:=c.Dm (k:=109) (.inr (.inr rfl));obtain⟨va,vc,D,_⟩:=Es (c.rows 109 (.inr (.inr rfl)));have y:=Aa (⟨u,s,l.trans r,d⟩:_/\_/\_/\_);clear c R u s G N r ag l d Y f2;have A:(XM #[22,22] 22 #[o.V 109,.slice (some ⟨wr.heap.size,0,none⟩) 1 1]).run Tryz.prog (wr.alloc (.cells #[.string (bs x)] 9)).drew = .ok (.slice (some ⟨g,0,none⟩) (((P.AE 109 (ts.take m)).get 109).length+1) ab) w3:=A;rw[D] at A C F;have C:wr.cell? ⟨j,2,none⟩=some (.slice va ((P.AE 109 (ts.take m)).get 109).length vc):=C;have F:w3.cell? ⟨j,2,none⟩=some (.slice va ((P.AE 109 (ts.take m)).get 109).length vc):=F;have aa:w3.frozen? ⟨j,2,none⟩=false:=aa;replace D:=Aa D
          go_wp2_with fail
          go_region_law (refine Fs rfl _ _ _ rfl rfl rfl rfl A ?_)
          all_goals
           go_wp2_with fail
           go_roundw
           case rel=>
            obtain⟨u,s,l,d⟩:=y.out;have e:P.AE (Bh f) (ts.take (m+1))=(P.AE (Bh f) (ts.take m)).put (Bh f) x:=by rw[LA O,X.out]
            refine⟨m+1+1,tag3,{o with V:=AM o.V (Bh f) (.slice (some ⟨g,0,none⟩) (((P.AE (Bh f) (ts.take m)).get (Bh f)).length+1) ab)},by omega,by omega,by go_num,?_,l.trans s⟩;show Ah _ _ _ _ (P.AE (Bh f) (ts.take (m+1))) _;rw[e,d];exact u
           case measure=>simp[intOf];omega
       ·have aX:q=k:=by omega
        subst aX;have aL:ts.take (q - 1)=ts:=XY (by have:=W.out;omega);rw[aL] at c;have az:=c.Dm (k:=118) (.inl rfl);have ax:=c.Dm (k:=102) (.inr (.inl rfl));have aB:=c.Dm (k:=109) (.inr (.inr rfl));obtain⟨a0,d0,e0,_⟩:=Es (c.rows 118 (.inl rfl));obtain⟨a1,d1,e1,_⟩:=Es (c.rows 102 (.inr (.inl rfl)));obtain⟨a2,d2,e2,_⟩:=Es (c.rows 109 (.inr (.inr rfl)));rw[e0] at az;rw[e1] at ax;rw[e2] at aB;have az:wr.cell? ⟨j,0,none⟩=some (.slice a0 (P.AE (Bh f) ts).vs.length d0):=az;have ax:wr.cell? ⟨j,1,none⟩=some (.slice a1 (P.AE (Bh f) ts).fs.length d1):=ax;have aB:wr.cell? ⟨j,2,none⟩=some (.slice a2 (P.AE (Bh f) ts).ls.length d2):=aB;have y:=Aa (⟨c,l⟩:_/\_);generalize ae:P.AE (Bh f) ts=P' at *;replace ae:=Aa ae;clear c l e0 e1 e2 aL
        by_cases k0:4<P'.vs.length
        ·have aS:(4:Int)<(P'.vs.length:Int):=by omega
         go_wp2_with fail
         go_ret
         exact⟨4,T,P',o,rfl,y.out.1,y.out.2,.inr ⟨⟨ad.out,aj.out⟩,.inr ⟨aq.out,ae.out.symm,.inl ⟨.inl k0,rfl⟩⟩⟩⟩
        ·have aS:¬(4:Int)<(P'.vs.length:Int):=by omega
         by_cases k1:4<P'.fs.length
         ·have bc:(4:Int)<(P'.fs.length:Int):=by omega
          go_wp2_with fail
          go_ret
          exact⟨4,T,P',o,rfl,y.out.1,y.out.2,.inr ⟨⟨ad.out,aj.out⟩,.inr ⟨aq.out,ae.out.symm,.inl ⟨.inr (.inl k1),rfl⟩⟩⟩⟩
         ·have bc:¬(4:Int)<(P'.fs.length:Int):=by omega
          by_cases k2:4<P'.ls.length
          ·have a3:(4:Int)<(P'.ls.length:Int):=by omega
           go_wp2_with fail
           go_ret
           exact⟨4,T,P',o,rfl,y.out.1,y.out.2,.inr ⟨⟨ad.out,aj.out⟩,.inr ⟨aq.out,ae.out.symm,.inl ⟨.inr (.inr k2),rfl⟩⟩⟩⟩
          ·have a3:¬(4:Int)<(P'.ls.length:Int):=by omega
           go_wp2_with fail
           go_ret
           exact⟨0,T,P',o,rfl,y.out.1,y.out.2,.inr ⟨⟨ad.out,aj.out⟩,.inr ⟨aq.out,ae.out.symm,.inr ⟨⟨by omega,by omega,by omega⟩,rfl⟩⟩⟩⟩
def Gg (f:Tx):Bool:=f == [118,97,114]||f == [102,108,97,103]||f == [108,111,99,107]
def Jq (P:RP) (ts:List Tx) (e:Int) (P':RP):Prop:=
 ((ts.length≠1\/Ar (ts.getD 0 [])=false)/\e=2)\/((ts.length=1/\Ar (ts.getD 0 [])=true)/\((DA P (ts.getD 0 [])=true/\e=3)\/(DA P (ts.getD 0 [])=false/\((P.thr.length=4/\e=4)\/(P.thr.length≠4/\e=0/\P'={P with thr:=P.thr++[⟨ts.getD 0 [],[],[]⟩]})))))
theorem UL {w:Xg} {u:Nat->RT} {base z:Nat} {P:RP} {U:RV} (h:Ah w u base z P U) (b s n cap:Nat) (f:Tx) (ts:List Tx) (H:ts.length+1=n) (v:Cm w u (some ⟨b,s,none⟩) (f::ts)) (J:n<=cap) (I:P.thr.length=0) (E:∀k,(P.get k).length<=4) (F:n<4000) (line:Int) (r:Gg f=true) :
 X3 Tryz.prog 51 #[Ab z,.slice (some ⟨b,s,none⟩) n cap,.int .i64 line] w (FN w u base z (Jr P f ts)):=by
 have t:=UO h b s n cap f ts H v J (by omega) E F;have K:=h.FX;obtain⟨ta,M,D⟩:=At h.trow;rw[D,I] at K;have G:=v.at (i:=0) (by simp);have G:w.cell? ⟨b,s,none⟩=some (.string (bs f)):=G;have N:(0:Int)<(n:Int):=by omega
 have B:=Fg f [118,97,114];have A:=Fg f [102,108,97,103];have x:=Fg f [108,111,99,107];unfold Ab at t |-;clear h v D H J I E F
 go_enter Tryz.func51,Tryz.ntmps51
 by_cases c:f=[118,97,114]
 ·rw[decide_eq_true c] at B;clear r A x;replace c:=Aa c
  go_wp2_with fail
  refine t.mono ?_;rintro e C ⟨p,q,m,o,rfl,g,j,d⟩;have a:=Aa (⟨g,j,d⟩:_/\_/\_);clear g j d
  go_wp2_with fail
  go_ret
  exact⟨p,q,m,o,rfl,a.out.1,a.out.2.1,a.out.2.2⟩
 ·rw[decide_eq_false c] at B
  by_cases l:f=[102,108,97,103]
  ·rw[decide_eq_true l] at A;clear r x;replace c:=Aa c;replace l:=Aa l
   go_wp2_with fail
   refine t.mono ?_;rintro e C ⟨p,q,m,o,rfl,g,j,d⟩;have a:=Aa (⟨g,j,d⟩:_/\_/\_);clear g j d
   go_wp2_with fail
   go_ret
   exact⟨p,q,m,o,rfl,a.out.1,a.out.2.1,a.out.2.2⟩
  ·rw[decide_eq_false l] at A;have y:f=[108,111,99,107]:=by simpa [Gg,c,l] using r
   rw[decide_eq_true y] at x;clear r;replace c:=Aa c;replace l:=Aa l;replace y:=Aa y
   go_wp2_with fail
   refine t.mono ?_;rintro e C ⟨p,q,m,o,rfl,g,j,d⟩;have a:=Aa (⟨g,j,d⟩:_/\_/\_);clear g j d
   go_wp2_with fail
   go_ret
   exact⟨p,q,m,o,rfl,a.out.1,a.out.2.1,a.out.2.2⟩
theorem Pn {f:Tx} (a:Gg f=false):f≠[118,97,114]/\f≠[102,108,97,103]/\f≠[108,111,99,107]:=by
 refine⟨?_,?_,?_⟩<;>rintro rfl<;>cases a
theorem UH {w:Xg} {a:Nat->RT} {base E:Nat} {P:RP} {U:RV} (h:Ah w a base E P U) (b D n cap:Nat) (f:Tx) (ts:List Tx) (M:ts.length+1=n) (s:Cm w a (some ⟨b,D,none⟩) (f::ts)) (hb:P.thr.length<1000) (C:∀k,(P.get k).length<=4) (N:n<4000) (line:Int) (p:f=[116,104,114,101,97,100]) :
 X3 Tryz.prog 51 #[Ab E,.slice (some ⟨b,D,none⟩) n cap,.int .i64 line] w (FN w a base E (Jq P ts)):=by
 have R:=h.FX;obtain⟨ta,Z,z⟩:=At h.trow;rw[z] at R;have O:=s.at (i:=0) (by simp);have O:w.cell? ⟨b,D,none⟩=some (.string (bs f)):=O;have an:(0:Int)<(n:Int):=by omega
 have b1:((bs f).toList == [118,97,114])=false:=by rw[AR,p];rfl
 have b2:((bs f).toList == [102,108,97,103])=false:=by rw[AR,p];rfl
 have b3:((bs f).toList == [108,111,99,107])=false:=by rw[AR,p];rfl
 have b4:((bs f).toList == [116,104,114,101,97,100])=true:=by rw[AR,p];rfl
 have y:=Aa (Ag.refl w a);have H:=Aa h;have A:Ag w a w.drew a:=⟨rfl,rfl,rfl,Xf _,λ_ _=>rfl,λ_ _ _=>rfl⟩;have B:=Ah.keep (w':=w.drew) h (λ_ _=>rfl) A;have aj:=h.lt h.tp (by simp);have ah:b<w.heap.size:=by obtain⟨b',o',V,X,_⟩:=s 0 (by simp);cases V;exact X
 unfold Ab
 by_cases j:ts.length=1
 ·have aa:(1:Int)<(n:Int):=by omega
  have S:((n:Int) != 2)=false:=by simp;omega
  have J:=s.at (i:=1) (by simp;omega);have K:(f::ts).getD 1 []=ts.getD 0 []:=by simp
  rw[K] at J;have l:=λu=>JO (ts.getD 0 []) u;have m:=OO h (ts.getD 0 []) (by omega) (λk=>by have:=C k;omega);unfold Ab at m;obtain⟨g,T,w3,t,W,ad,tag3,G,Q⟩:=B.thread (ts.getD 0 []) (by omega);rw[z] at t W;have t:(XM #[26,26] 26 #[.slice ta P.thr.length Z,.slice (some ⟨w.heap.size,0,none⟩) 1 1]).run Tryz.prog (w.alloc (.cells #[.string (bs (ts.getD 0 [])),.slice none 0 0,.slice none 0 0] 199)).drew = .ok (.slice (some ⟨g,0,none⟩) (P.thr.length+1) T) w3:=t;have F:=Aa (⟨G,A.trans Q⟩:_/\_);replace j:=Aa j;have ab:Hid (∀e I,Jq P ts e I↔Jq P ts e I):=λ_ _=>Iff.rfl;clear h s z M B G Q A K C N p;generalize d:ts.getD 0 []=x at J l m t;replace d:=Aa d
  cases q:Ar x with
  |false=>
   rw[q] at l
   go_enter Tryz.func51,Tryz.ntmps51
   cases v:decide (0<P.thr.length)
   all_goals
    go_wp2_with fail
    refine(l _).mono ?_;rintro e o ⟨rfl,rfl⟩
    go_wp2_with fail
    go_ret
    exact⟨2,a,P,U,rfl,H.out,y.out,.inl ⟨.inr (by rw[d.out];exact q),rfl⟩⟩
  |true=>
   rw[q] at l
   go_enter Tryz.func51,Tryz.ntmps51
   cases c:DA P x with
   |true=>
    rw[c] at m;replace c:=Aa c
    cases v:decide (0<P.thr.length)
    all_goals
     go_wp2_with fail
     refine(l _).mono ?_;rintro e o ⟨rfl,rfl⟩
     go_wp2_with fail
     refine m.mono ?_;rintro e o ⟨rfl,rfl⟩
     go_wp2_with fail
     go_ret
     exact⟨3,a,P,U,rfl,H.out,y.out,.inr ⟨⟨j.out,by rw[d.out];exact q⟩,.inl ⟨by rw[d.out];exact c.out,rfl⟩⟩⟩
   |false=>
    rw[c] at m;replace c:=Aa c
    by_cases r:P.thr.length=4
    ·have Y:((P.thr.length:Int) == 4)=true:=by simp;omega
     have v:decide (0<P.thr.length)=true:=by simp;omega
     replace r:=Aa r
     go_wp2_with fail
     refine(l _).mono ?_;rintro e o ⟨rfl,rfl⟩
     go_wp2_with fail
     refine m.mono ?_;rintro e o ⟨rfl,rfl⟩
     go_wp2_with fail
     go_ret
     exact⟨4,a,P,U,rfl,H.out,y.out,.inr ⟨⟨j.out,by rw[d.out];exact q⟩,.inr ⟨by rw[d.out];exact c.out,.inl ⟨r.out,rfl⟩⟩⟩⟩
    ·have Y:((P.thr.length:Int) == 4)=false:=by simp;omega
     replace r:=Aa r
     cases v:decide (0<P.thr.length)
     all_goals
      go_wp2_with fail
      refine(l _).mono ?_;rintro e o ⟨rfl,rfl⟩
      go_wp2_with fail
      refine m.mono ?_;rintro e o ⟨rfl,rfl⟩
      go_wp2_with fail
      go_region_law (refine Fs rfl _ _ _ rfl rfl rfl rfl t ?_)
      all_goals
       go_wp2_with fail
       go_ret
       exact⟨0,tag3,_,_,rfl,F.out.1,F.out.2,.inr ⟨⟨j.out,by rw[d.out];exact q⟩,.inr ⟨by rw[d.out];exact c.out,.inr ⟨r.out,rfl,rfl⟩⟩⟩⟩
 ·have S:((n:Int) != 2)=true:=by simp;omega
  replace j:=Aa j;clear h s z M B A C N p
  go_enter Tryz.func51,Tryz.ntmps51
  cases v:decide (0<P.thr.length)
  all_goals
   go_wp2_with fail
   go_ret
   exact⟨2,a,P,U,rfl,H.out,y.out,.inl ⟨.inl j.out,rfl⟩⟩
theorem UI {w:Xg} {a:Nat->RT} {base d:Nat} {P:RP} {U:RV} (h:Ah w a base d P U) (b c n cap:Nat) (f:Tx) (ts:List Tx) (x:ts.length+1=n) (g:Cm w a (some ⟨b,c,none⟩) (f::ts)) (r:P.thr.length=0) (line:Int) (k:Gg f=false) (j:f≠[116,104,114,101,97,100]) :
 X3 Tryz.prog 51 #[Ab d,.slice (some ⟨b,c,none⟩) n cap,.int .i64 line] w (FN w a base d (λe _=>e=2)):=by
 have s:=h.FX;obtain⟨ta,A,m⟩:=At h.trow;rw[m,r] at s;have o:=g.at (i:=0) (by simp);have o:w.cell? ⟨b,c,none⟩=some (.string (bs f)):=o;have B:(0:Int)<(n:Int):=by omega
 obtain⟨q,p,l⟩:=Pn k;have t:=Fg f [118,97,114];have z:=Fg f [102,108,97,103];have v:=Fg f [108,111,99,107];have y:=Fg f [116,104,114,101,97,100];rw[decide_eq_false q] at t;rw[decide_eq_false p] at z;rw[decide_eq_false l] at v;rw[decide_eq_false j] at y;have u:=Aa (Ag.refl w a);have H:=Aa h;unfold Ab;clear h g m x r k j q p l
 go_enter Tryz.func51,Tryz.ntmps51
 go_wp2_with fail
 go_ret
 exact⟨2,a,P,U,rfl,H.out,u.out,rfl⟩
def MX (P:RP) (k:Nat) (th:Az) (x:Tx) (e:Int) (P':RP):Prop:=
 (Ar x=false/\e=2)\/(Ar x=true/\(((∃i,i<th.labs.length/\(th.labs.map Prod.fst).getD i []=x)/\e=3)\/((∀i,i<th.labs.length->(th.labs.map Prod.fst).getD i []≠x)/\e=0/\P'={P with thr:=P.thr.set k {th with labs:=th.labs++[(x,th.code.length)]}})))
theorem UJ {w:Xg} {c:Nat->RT} {base G:Nat} {P:RP} {U:RV} (h:Ah w c base G P U) (b V cap:Nat) (f:Tx) (hs:Cm w c (some ⟨b,V,none⟩) [f]) (k:Nat) (th:Az) (hk:P.thr.length=k+1) (n:P.thr[k]?=some th) (hb:P.thr.length<1000) (A:th.labs.length<4000) (aJ:th.code.length<4000) (ab:f.length<4000) (line:Int) (x:Tx) (D:f=x++[58]) (am:f≠[116,104,114,101,97,100]) :
 X3 Tryz.prog 51 #[Ab G,.slice (some ⟨b,V,none⟩) 1 cap,.int .i64 line] w (FN w c base G (MX P k th x)):=by
 obtain⟨p,o⟩:∃p,U.TV[k]?=some p:=⟨_,Xc (by rw[h.len];omega)⟩;obtain⟨d,aQ,s⟩:=h.JE n;have c3:=h.FX;rw[s,hk] at c3;have t1:w.cell? ⟨d,k*3+1,none⟩=some p.1:=h.FY n o (r:=1) (by omega) s;have Y:w.cell? ⟨d,k*3+2,none⟩=some p.2:=h.FY n o (r:=2) (by omega) s;obtain⟨ca,cc,F⟩:=At (h.ths k th p n o).code;obtain⟨la,lc,C⟩:=At (h.ths k th p n o).labs;rw[F] at t1;rw[C] at Y;have W:=hs.at (i:=0) (by simp);have W:w.cell? ⟨b,V,none⟩=some (.string (bs f)):=W;have b4:=Fg f [116,104,114,101,97,100];rw[decide_eq_false am] at b4;have az:(bs f).size=x.length+1:=by rw[AY,D];simp
 have av:∀B:x.length<(bs f).size,(bs f)[x.length]'B=58:=λB=>by
  rw[CO f x.length B];simp[D]
 have aF:(bs f).extract 0 x.length=bs x:=by rw[FG,D];simp
 have hN:=λu=>JO x u;have HX:=Aa (Ag.refl w c);have H:=Aa h;have t:Ag w c w.drew c:=⟨rfl,rfl,rfl,Xf _,λ_ _=>rfl,λ_ _ _=>rfl⟩;have O:=Aa (⟨Ah.keep (w':=w.drew) h (λ_ _=>rfl) t,t⟩:_/\_);have aG:wrap64 (k:Int)=(k:Int):=XQ _ (by omega);have aA:wrap64 (x.length:Int)=(x.length:Int):=XQ _ (by rw[D] at ab;simp at ab;omega);have ah:x.length<(bs f).size:=by omega
 have aC:=av ah;unfold Ab;replace o:=Aa o;replace n:=Aa n;replace F:=Aa F;replace C:=Aa C;replace s:=Aa s;replace hb:=Aa hb;replace A:=Aa A;clear h hs av D am hk t
 go_enter Tryz.func51,Tryz.ntmps51
 go_wp2_with fail
 go_region
 go_wp2_with fail
 refine(hN _).mono ?_;rintro e y ⟨rfl,z⟩;have aq:Ah y c base G P U:=by rw[z];exact O.out.1
 have aw:Ag w c y c:=by rw[z];exact O.out.2
 have s1:y.cell? ⟨d,k*3+1,none⟩=some (.slice ca th.code.length cc):=by rw[z];exact t1
 have s2:y.cell? ⟨d,k*3+2,none⟩=some (.slice la th.labs.length lc):=by rw[z];exact Y
 have l:=Aa (⟨aq,aw⟩:_/\_);clear z t1 Y c3 W aq aw hN
 cases S:Ar x with
 |false=>
  go_wp2_with fail
  go_ret
  exact⟨2,c,P,U,rfl,l.out.1,l.out.2,.inl ⟨S,rfl⟩⟩
 |true=>
  go_wp2_with fail
  go_loopw [12] (λQ wr=>∃i:Nat,i<=th.labs.length/\Q = .int .i64 i/\(∀j:Nat,j<i->(th.labs.map Prod.fst).getD j []≠x)/\wr=y) (λQ _=>th.labs.length - (intOf Q).toNat)
  case atStart=>exact⟨0,Nat.zero_le _,rfl,λj R=>by omega,rfl⟩
  case round=>
   clear aG aA az aF ah aC b4 aJ ab;obtain⟨i,B,rfl,E,rfl⟩:=hrel
   by_cases X:i<th.labs.length
   ·have aR:(i:Int)<(th.labs.length:Int):=by omega
    obtain⟨q,M⟩:∃q,th.labs[i]?=some q:=⟨_,Xc X⟩;have J:=(l.out.1.ths k th p n.out o.out).labs;have Z:=J;obtain⟨m,T⟩:∃m,th.labs.length=m+1:=⟨th.labs.length - 1,by omega⟩;rw[T] at Z;obtain⟨lg,aN,I⟩:=YV Z;rw[<-T] at I;have aI:la=some ⟨lg,0,none⟩:=by have e:=C.out;rw[I] at e;cases e;rfl
    subst aI;have cN:wr.cell? ⟨lg,i*2,none⟩=some (.string (bs q.1)):=by
     rw[I] at J;have e:=J.cellAt (i*2+0) (by have:=X;omega);exact e.trans (GN (m:=2) (r:=0) Qi M (by omega))
    have ap:(th.labs.map Prod.fst).getD i []=q.1:=by rw[Xb,List.getElem?_map,M];rfl
    have aj:wrap64 ((i:Int)+1)=(i:Int)+1:=XQ _ (by have:=A.out;omega);have hF:((bs q.1).toList == (bs x).toList)=decide (q.1=x):=by
     rw[AR,AR]
     by_cases e:q.1=x<;>simp[e]
    have v:=Aa (⟨E,ap,X⟩:_/\_/\_);clear E ap J Z T I M;clear s1 F B HX H O hb A
    by_cases e:q.1=x
    ·rw[decide_eq_true e] at hF;replace e:=Aa e
     go_wp2_with fail
     go_ret
     exact⟨3,c,P,U,rfl,l.out.1,l.out.2,.inr ⟨S,.inl ⟨⟨i,v.out.2.2,v.out.2.1.trans e.out⟩,rfl⟩⟩⟩
    ·rw[decide_eq_false e] at hF;replace e:=Aa e
     go_wp2_with fail
     go_roundw
     case rel=>
      rw[aj]
      exact⟨i+1,v.out.2.2,rfl,λj R=>if h6:j=i then by subst h6;rw[v.out.2.1];exact e.out else v.out.1 j (Nat.lt_of_le_of_ne (Nat.le_of_lt_succ R) h6),trivial⟩
     case measure=>
      rw[aj];exact Nat.sub_lt_sub_left v.out.2.2 (Nat.lt_succ_self i)
   ·have aO:decide ((i:Int)<(th.labs.length:Int))=false:=by simp;omega
    have aP:¬((i:Int)<(th.labs.length:Int)):=by omega
    have t:Ag wr c wr.drew c:=⟨rfl,rfl,rfl,Xf _,λ_ _=>rfl,λ_ _ _=>rfl⟩;have an:=Ah.keep (w':=wr.drew) l.out.1 (λ_ _=>rfl) t;obtain⟨g,aB,w3,K,aH,aM,tag3,ak,ax⟩:=an.label n.out o.out x th.code.length (by have:=A.out;omega) s.out;rw[C.out] at K aH;have K:(XM #[197,197] 197 #[.slice la th.labs.length lc,.slice (some ⟨wr.heap.size,0,none⟩) 1 1]).run Tryz.prog (wr.alloc (.cells #[.string (bs x),.int .i64 th.code.length] 202)).drew = .ok (.slice (some ⟨g,0,none⟩) (th.labs.length+1) aB) w3:=K;have ad:d<wr.heap.size:=l.out.1.lt (l.out.1.tt d (by rw[s.out];rfl)) (by simp);have aS:(wr.alloc (.cells #[.string (bs x),.int .i64 th.code.length] 202)).cell? ⟨d,k*3+2,none⟩=some (.slice la th.labs.length lc):=(World.cell?_of_block (w:=wr) (a:=⟨d,k*3+2,none⟩) (Below.heap_alloc wr _ d ad)).trans s2;replace ad:=Aa ad;have N:=Aa (⟨ak,(l.out.2.trans t).trans ax,λj R=>E j (by omega)⟩:_/\_/\(∀j,j<th.labs.length->_));clear E t an ak ax
    go_wp2_with fail
    go_region_law (refine Fs rfl _ _ _ rfl rfl rfl rfl K ?_)
    all_goals
     go_wp2_with fail
     go_ret
     exact⟨0,tag3,_,_,rfl,N.out.1,N.out.2.1,.inr ⟨S,.inr ⟨N.out.2.2,rfl,rfl⟩⟩⟩
end Go.Proofs.YtdcacoifehkioaaGreatDoor
