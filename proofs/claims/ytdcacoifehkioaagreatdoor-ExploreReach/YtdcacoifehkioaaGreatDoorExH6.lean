import Derived.Test.YtdcacoifehkioaaGreatDoorExH5
import Derived.Test.YtdcacoifehkioaaGreatDoorExH3
import Derived.Deep.RegionHeld3
open List renaming take_of_length_le->XM,getElem?_eq_some_iff->Xf,length_map->Xp,length_take->X5,take_succ_eq_append_getElem->XQ,drop_eq_getElem_cons->X1,foldl_append->Y0,find?_append->afJ,take_append_drop->YF,length_set->Yc,ext_getElem?->Y3,getElem?_set_self->YJ,getElem?_set_ne->Zk,getD_eq_getElem?_getD->Xc,getElem?_take->Zf,getElem?_eq_getElem->Xe
open Nat renaming sub_self->YK,add_sub_cancel->afZ,le_refl->Xd
open Go renaming World->Xh,Value->Xk,ownsRow_succ->Y5,Calls->XX,wp_region_held_drew->Xx,wpAnyH_done->Yd
open Go.Builtin renaming append_->XN
open Go.IntWalk renaming wrap64_in->X2
set_option maxRecDepth 100000
set_option maxHeartbeats 2000000
set_option linter.unusedVariables false
set_option linter.unusedSimpArgs false
namespace Go.Proofs.YtdcacoifehkioaaGreatDoor
open Go.RowKit Go.Proofs.Cod
def CC {α:Type} (f:α->α) (l:List α) (i:Nat):List α:=(l.take i).map f++l.drop i
theorem Jk {α:Type} (f:α->α) (l:List α) (i:Nat):(CC f l i).length=l.length:=by simp[CC];omega
theorem aaG {α:Type} (f:α->α) (l:List α):CC f l 0=l:=rfl
theorem QW {α:Type} (f:α->α) (l:List α) {i:Nat} (h:l.length<=i):CC f l i=l.map f:=by simp[CC,XM h,List.drop_eq_nil_of_le h]
theorem Li {α:Type} (f:α->α) {l:List α} {i:Nat} {x:α} (h:l[i]?=some x):(CC f l i)[i]?=some x:=by
 have a:=(Xf.1 h).1;unfold CC;rw[List.getElem?_append_right (by simp;omega),Xp,X5,Nat.min_eq_left (by omega),YK,List.getElem?_drop]
 simpa using h
theorem QV {α:Type} (f:α->α) {l:List α} {i:Nat} {x:α} (h:l[i]?=some x):(CC f l i).set i (f x)=CC f l (i+1):=by
 have a:=(Xf.1 h).1;have b:=(Xf.1 h).2;unfold CC;rw[List.set_append_right _ _ (by simp;omega),Xp,X5,Nat.min_eq_left (by omega),YK,XQ a,List.map_append,List.append_assoc]
 congr 1
 rw[X1 a,b];rfl
def Gf (x:Tx) (l:List (Tx×Nat)) (a:Int):Int:=l.foldl (λa p=>if p.1=x then(p.2:Int) else a) a
theorem Si {x:Tx} {l:List (Tx×Nat)} {j:Nat} {p:Tx×Nat} (h:l[j]?=some p) (a:Int):Gf x (l.take (j+1)) a=if p.1=x then(p.2:Int) else Gf x (l.take j) a:=by
 have c:=(Xf.1 h).1;have b:=(Xf.1 h).2;unfold Gf;rw[XQ c,Y0,b];rfl
def IQ (f:Tx):Bool:=f == [108]||f == [97,98,108]
def rX (P:RP) (th:AE) (r:RI):Int:=if AJ r.i.op=[116] then Aq P.names r.word else if IQ (AJ r.i.op) then Gf r.word th.labs (-1) else r.i.x
def RI.at (r:RI) (x:Int):RI:={r with i:={r.i with x:=x}}
def DD (P:RP) (th:AE) (r:RI):RI:=r.at (rX P th r)
def EB (P:RP) (th:AE):AE:={th with code:=th.code.map (DD P th)}
def RP.res (P:RP) (i:Nat):RP:={P with thr:=CC (EB P) P.thr i}
def EJ (P:RP) (th:AE) (l:List RI):Option Int:=(l.find? λr=>decide (rX P th r<0)).map RI.line
def FF (P:RP) (l:List AE):Option Int:=l.findSome? λth=>EJ P th th.code
theorem LT {P:RP} {th:AE} {k:Nat} {r:RI} (a:th.code[k]?=some r) (h:EJ P th (th.code.take k)=none) (d:¬rX P th r<0):EJ P th (th.code.take (k+1))=none:=by
 have c:=(Xf.1 a).1;have b:=(Xf.1 a).2;unfold EJ at h |-;rw[XQ c,afJ,b];simp only[Option.map_eq_none_iff] at h |-;rw[h];simp;omega
theorem LU {P:RP} {th:AE} {k:Nat} {r:RI} (a:th.code[k]?=some r) (h:EJ P th (th.code.take k)=none) (d:rX P th r<0):EJ P th th.code=some r.line:=by
 have c:=(Xf.1 a).1;have b:=(Xf.1 a).2;have e:th.code=th.code.take k++(r::th.code.drop (k+1)):=by
  conv=>lhs;rw[<-YF k th.code,X1 c,b]
 unfold EJ at h |-;rw[e,afJ];simp only[Option.map_eq_none_iff] at h;rw[h];simp[d]
theorem aeT {P:RP} {i:Nat} {th:AE} (a:P.thr[i]?=some th) (h:FF P (P.thr.take i)=none) (d:EJ P th th.code=none):FF P (P.thr.take (i+1))=none:=by
 have c:=(Xf.1 a).1;have b:=(Xf.1 a).2;unfold FF at h |-;rw[XQ c,List.findSome?_append,b,h];simp[d]
theorem LS {P:RP} {i:Nat} {th:AE} {e:Int} (a:P.thr[i]?=some th) (h:FF P (P.thr.take i)=none) (f:EJ P th th.code=some e):FF P P.thr=some e:=by
 have c:=(Xf.1 a).1;have b:=(Xf.1 a).2;have d:P.thr=P.thr.take i++(th::P.thr.drop (i+1)):=by
  conv=>lhs;rw[<-YF i P.thr,X1 c,b]
 unfold FF at h |-;rw[d,List.findSome?_append,h];simp[f]
section
variable {w w':Xh} {tag tag':Nat->RT} {base pb:Nat} {P:RP} {U:RV}
theorem Ak.Wf (h:Ak w tag base pb P U) {j k:Nat} {th:AE} {r:RI} {p:Xk×Xk} (y:P.thr[j]?=some th) (t:U.TV[j]?=some p) (M:th.code[k]?=some r) {a n H:Nat} (F:p.1 = .slice (some ⟨a,0,none⟩) n H) (v:Int) :
 Ak (w.setCell ⟨a,k*9+6,none⟩ (.int .i64 v)) tag base pb {P with thr:=P.thr.set j {th with code:=th.code.set k (r.at v)}} U/\Ah w tag (w.setCell ⟨a,k*9+6,none⟩ (.int .i64 v)) tag:=by
 have f:=h.ths j th p y t;have o:tag a = .cd j:=f.tc a (by rw[F];rfl);have C:=(Xf.1 y).1;have l:∀b,b≠a->(w.setCell ⟨a,k*9+6,none⟩ (.int .i64 v)).heap[b]?=w.heap[b]?:=λb s=>Below.heap_setCell w ⟨a,k*9+6,none⟩ _ b s;have B:Ah w tag (w.setCell ⟨a,k*9+6,none⟩ (.int .i64 v)) tag:=⟨rfl,rfl,rfl,by simp,λ_ _=>rfl,λb s I=>l b (Co I o (by simp))⟩;refine⟨h.step (λx=>x = .cd j) B (λb s d q=>l b (λe=>q (by rw[e];exact o))) (λb s A=>absurd (h.tlt b A).2 (by omega)) ((l pb (Co h.tp o (by simp))).trans h.cell) (λk' O=>.inl ⟨rfl,rfl,by simp⟩) (.inr ⟨?_,h.tt,by simp[h.len]⟩) (λi G N d q=>?_),B⟩
 ·show World.ownsRow _ _ _ _ U.tV (P.thr.set j _).length (((P.thr.set j _).zip U.TV).flatMap DN);rw[Yc];have J:((P.thr.set j {th with code:=th.code.set k (r.at v)}).zip U.TV).flatMap DN=(P.thr.zip U.TV).flatMap DN:=by
   have K:U.TV.set j p=U.TV:=by
    apply Y3
    intro m
    by_cases e:m=j
    ·subst e;rw[YJ (by rw[h.len];exact C),t]
    ·rw[Zk (λc=>e c.symm)]
   conv=>lhs;rw[<-K,<-Qa (th:=th) (p:=p)]
   have E:(P.thr.zip U.TV)[j]?=some (th,p):=by rw[List.getElem?_zip_eq_some];exact⟨y,t⟩
   rw[<-NQ (r:=0) (u:=.string (bs th.name)) Jc E (by omega) rfl]
   apply Y3
   intro m
   by_cases e:m=j*3+0
   ·subst e;have D:=GL (r:=0) Jc E (by omega);rw[YJ (Xf.1 D).1,D];rfl
   ·rw[Zk (λc=>e c.symm)]
  rw[J];exact BA h.trow λg e=>l g (Co (h.tt g e) o (by simp))
 ·have d:(P.thr.set j _)[i]?=some G:=d
  by_cases e:i=j
  ·subst e;right;rw[YJ C] at d
   cases d
   rw[t] at q
   cases q
   refine⟨?_,f.tc,BA f.labs λg e=>l g (Co (f.tl g e) o (by simp)),f.tl⟩;show World.ownsRow _ _ _ _ p.1 (th.code.set k _).length ((th.code.set k _).flatMap AN);have z:=f.code;rw[F] at z |-;have A:n=th.code.length:=by obtain⟨_,_,c⟩:=At z;cases c;rfl
   subst A;rw[Yc,<-NQ (r:=6) (u:=.int .i64 v) MN M (by omega) rfl]
   exact(z.stored (k*9+6) _).1
  ·rw[Zk (λc=>e c.symm)] at d;exact .inl ⟨d,q,(λc=>by cases c;exact e rfl),by simp⟩
theorem Ak.Kp (h:Ak w tag base pb P U) {j k q:Nat} {th:AE} {r:RI} {p:Xk×Xk} (f:P.thr[j]?=some th) (g:U.TV[j]?=some p) (c:th.code[k]?=some r) (i:q<9) {b d:Nat} (e:p.1 = .slice (some ⟨b,0,none⟩) th.code.length d):w.cell? ⟨b,k*9+q,none⟩=(AN r)[q]?/\w.frozen? ⟨b,k*9+q,none⟩=false:=by
 have l:=(Xf.1 c).1;have a:=(h.ths j th p f g).code;rw[e] at a;refine⟨?_,a.frozenAt _⟩;rw[a.cellAt (k*9+q) (by omega)];exact GL MN c i
theorem Ak.aeu (h:Ak w tag base pb P U) {j k:Nat} {th:AE} {r:RI} {p:Xk×Xk} (b:P.thr[j]?=some th) (e:U.TV[j]?=some p) (d:th.code[k]?=some r):∃c a,p.1 = .slice (some ⟨c,0,none⟩) th.code.length a:=by
 have g:=(Xf.1 d).1;obtain⟨m,f⟩:∃m,th.code.length=m+1:=⟨th.code.length - 1,by omega⟩;have:=(h.ths j th p b e).code;rw[f] at this |-;exact Y5 this
theorem Ak.Sk (h:Ak w tag base pb P U) {j k q:Nat} {th:AE} {l:Tx×Nat} {p:Xk×Xk} (f:P.thr[j]?=some th) (g:U.TV[j]?=some p) (b:th.labs[k]?=some l) (i:q<2) {c e:Nat} (d:p.2 = .slice (some ⟨c,0,none⟩) th.labs.length e):w.cell? ⟨c,k*2+q,none⟩=(Lu l)[q]?:=by
 have m:=(Xf.1 b).1;have a:=(h.ths j th p f g).labs;rw[d] at a;rw[a.cellAt (k*2+q) (by omega)];exact GL Sl b i
theorem Ak.acd (h:Ak w tag base pb P U) {j k:Nat} {th:AE} {l:Tx×Nat} {p:Xk×Xk} (b:P.thr[j]?=some th) (d:U.TV[j]?=some p) (c:th.labs[k]?=some l):∃e a,p.2 = .slice (some ⟨e,0,none⟩) th.labs.length a:=by
 have g:=(Xf.1 c).1;obtain⟨m,f⟩:∃m,th.labs.length=m+1:=⟨th.labs.length - 1,by omega⟩;have:=(h.ths j th p b d).labs;rw[f] at this |-;exact Y5 this
end
theorem QR {w:Xh} {C:Nat->RT} {base c:Nat} {P:RP} {U:RV} (h:Ak w C base c P U) (x:Tx) (D:P.thr.length<1048576) (f:∀k,(P.get k).length<1048576) :
 XX Tryz.prog 111 #[Ab c,.string (bs x)] w λe w'=>e = .returned (.bool (EF P x))/\w'=w:=by
 have j:=QQ h x D;have c0:=h.El (k:=118) (.inl rfl);have c1:=h.El (k:=102) (.inr (.inl rfl));have c2:=h.El (k:=109) (.inr (.inr rfl));obtain⟨p,A,u,l⟩:=FM (h.rows 118 (.inl rfl));obtain⟨m,q,v,o⟩:=FM (h.rows 102 (.inr (.inl rfl)));obtain⟨y,n,r,s⟩:=FM (h.rows 109 (.inr (.inr rfl)));rw[u] at c0;rw[v] at c1;rw[r] at c2;have c0:w.cell? ⟨c,0,none⟩=some (.slice p P.vs.length A):=c0;have c1:w.cell? ⟨c,1,none⟩=some (.slice m P.fs.length q):=c1;have c2:w.cell? ⟨c,2,none⟩=some (.slice y P.ls.length n):=c2;have d:=IK p P.vs.length A P.vs x w rfl l (by have:P.vs.length<1048576:=f 118;omega);have g:=IK m P.fs.length q P.fs x w rfl o (by have:P.fs.length<1048576:=f 102;omega);have i:=IK y P.ls.length n P.ls x w rfl s (by have:P.ls.length<1048576:=f 109;omega);have a:Hid (EF P x=(decide (0<=Aq P.vs x)||decide (0<=Aq P.fs x)||decide (0<=Aq P.ls x)||decide (0<=Aq P.names x))):=rfl;generalize Aq P.vs x=z0 at d a;generalize Aq P.fs x=z1 at g a;generalize Aq P.ls x=z2 at i a;generalize Aq P.names x=z3 at j a;unfold Ab at j |-;clear h l o s u v r f
 by_cases t:0<=z0
 ·have b:Hid (EF P x=true):=by rw[a.out,decide_eq_true t];rfl
  go_enter Tryz.func111,Tryz.ntmps111
  go_wp2_with fail
  refine d.mono ?_;rintro e w1 ⟨rfl,rfl⟩
  go_wp2_with fail
  go_ret
  exact⟨by rw[b.out];rfl,rfl⟩
 ·by_cases B:0<=z1
  ·have b:Hid (EF P x=true):=by unfold Hid;rw[a.out,decide_eq_true B];simp
   go_enter Tryz.func111,Tryz.ntmps111
   go_wp2_with fail
   refine d.mono ?_;rintro e w1 ⟨rfl,rfl⟩
   go_wp2_with fail
   refine g.mono ?_;rintro e w1 ⟨rfl,rfl⟩
   go_wp2_with fail
   go_ret
   exact⟨by rw[b.out];rfl,rfl⟩
  ·by_cases z:0<=z2
   ·have b:Hid (EF P x=true):=by unfold Hid;rw[a.out,decide_eq_true z];simp
    go_enter Tryz.func111,Tryz.ntmps111
    go_wp2_with fail
    refine d.mono ?_;rintro e w1 ⟨rfl,rfl⟩
    go_wp2_with fail
    refine g.mono ?_;rintro e w1 ⟨rfl,rfl⟩
    go_wp2_with fail
    refine i.mono ?_;rintro e w1 ⟨rfl,rfl⟩
    go_wp2_with fail
    go_ret
    exact⟨by rw[b.out];rfl,rfl⟩
   ·have b:Hid (EF P x=decide (0<=z3)):=by rw[a.out,decide_eq_false t,decide_eq_false B,decide_eq_false z];rfl
    go_enter Tryz.func111,Tryz.ntmps111
    go_wp2_with fail
    refine d.mono ?_;rintro e w1 ⟨rfl,rfl⟩
    go_wp2_with fail
    refine g.mono ?_;rintro e w1 ⟨rfl,rfl⟩
    go_wp2_with fail
    refine i.mono ?_;rintro e w1 ⟨rfl,rfl⟩
    go_wp2_with fail
    refine j.mono ?_;rintro e w1 ⟨rfl,rfl⟩
    go_wp2_with fail
    go_ret
    exact⟨by rw[a.out];rfl,rfl⟩
def Gx (P:RP) (ts:List Tx) (i:Nat):Prop:=EF P (ts.getD i [])=true\/∃j,j<i/\ts.getD j []=ts.getD i []
def RP.AQ (P:RP) (k:Int) (ts:List Tx):RP:=ts.foldl (λP x=>P.put k x) P
def BD (f:Tx):Int:=if f=IB then 118 else if f=IC then 102 else 109
theorem acf (f:Tx):Cf (BD f):=by
 unfold BD Cf
 split
 ·simp
 ·split<;>simp
theorem Ws.tail {w:Xh} {b a:Nat} {f:Tx} {ts:List Tx} (h:Ws w (some ⟨b,a,none⟩) (f::ts)) (i:Nat) (m:i<=ts.length):Ws w (some ⟨b,a+1,none⟩) (ts.take i):=λj d=>by
 rw[X5] at d;obtain⟨n,l,g,c,k⟩:=h (j+1) (by simp;omega)
 cases g
 refine⟨b,a+1,rfl,c,?_⟩;have e:(ts.take i).getD j []=(f::ts).getD (j+1) []:=by
  rw[Xc,Zf,if_pos (by omega),Xc,List.getElem?_cons_succ]
 rw[e,show a+1+j=a+(j+1) by omega];exact k
theorem MV {P:RP} {k:Int} {ts:List Tx} {i:Nat} (h:i<ts.length):P.AQ k (ts.take (i+1))=(P.AQ k (ts.take i)).put k (ts.getD i []):=by
 unfold RP.AQ;rw[XQ h,Y0,Xc,Xe h];rfl
theorem aaA {P:RP} {k:Int} (a:Cf k) (x:Tx):(P.put k x).get k=P.get k++[x]:=by
 rcases a with rfl|rfl|rfl<;>simp[RP.put,RP.get]
theorem MW {k:Int} (a:Cf k):∀(ts:List Tx) (P:RP),(P.AQ k ts).get k=P.get k++ts
 |[],P=>by simp[RP.AQ]
 |x::ts,P=>by
  show ((P.put k x).AQ k ts).get k=_;rw[MW a ts,aaA a];simp
theorem adA {ts:List Tx} {i:Nat} (s:i<ts.length):0<=Aq (ts.take i) (ts.getD i [])↔∃j,j<i/\ts.getD j []=ts.getD i []:=by
 have r:(ts.take i).length=i:=by rw[X5];omega
 have d:∀j,j<i->(ts.take i).getD j []=ts.getD j []:=λj a=>by
  rw[Xc,Zf,if_pos a,Xc]
 constructor
 ·intro h
  by_cases g:∃j,j<i/\ts.getD j []=ts.getD i []
  ·exact g
  ·rw[NT (λj a=>by rw[d j (by omega)];exact λe=>g ⟨j,by omega,e⟩)] at h
   omega
 ·rintro⟨j,a,e⟩;have q:∃k,k<i/\ts.getD k []=ts.getD i []/\∀m,m<k->ts.getD m []≠ts.getD i []:=by
   induction j using Nat.strongRecOn with
   |ind j n=>
    by_cases b:∃m,m<j/\ts.getD m []=ts.getD i []
    ·obtain⟨m,c,f⟩:=b;exact n m c (by omega) f
    ·exact⟨j,a,e,λm c f=>b ⟨m,c,f⟩⟩
  obtain⟨k,o,p,l⟩:=q;rw[NU (i:=k) (by omega) (λm b=>by rw[d m (by omega)];exact l m b) (by rw[d k o];exact p)]
  omega
def GV (w:Xh) (tag:Nat->RT) (base pb:Nat) (R:Int->RP->Prop) (en:Ending) (w':Xh):Prop:=
 ∃e tag' P' U',en = .returned (.int .i64 e)/\Ak w' tag' base pb P' U'/\Ah w tag w' tag'/\R e P'
def Kx (P:RP) (f:Tx) (ts:List Tx) (e:Int) (P':RP):Prop:=
 ((ts=[]\/ts.all Aw=false)/\e=2)\/((ts≠[]/\ts.all Aw=true)/\(((∃i,i<ts.length/\Gx P ts i)/\e=3)\/((∀i,i<ts.length->¬Gx P ts i)/\P'=P.AQ (BD f) ts/\((4<P'.vs.length\/4<P'.fs.length\/4<P'.ls.length)/\e=4\/(P'.vs.length<=4/\P'.fs.length<=4/\P'.ls.length<=4)/\e=0))))
theorem CZ.at {w:Xh} {d:Nat->RT} {b a:Nat} {ws:List Tx} (h:CZ w d (some ⟨b,a,none⟩) ws) {i:Nat} (c:i<ws.length):w.cell? ⟨b,a+i,none⟩=some (.string (bs (ws.getD i []))):=by
 obtain⟨j,g,e,_,f,_⟩:=h i c
 cases e;exact f
theorem Gs (s t:Tx):((bs s).toList == t)=decide (s=t):=by
 rw[AK]
 by_cases e:s=t<;>simp[e]
theorem aau {w:Xh} {r:Nat->RT} {base j:Nat} {P:RP} {U:RV} (h:Ak w r base j P U) (b ah n cap:Nat) (f:Tx) (ts:List Tx) (hn:ts.length+1=n) (hs:CZ w r (some ⟨b,ah,none⟩) (f::ts)) (bo:n<=cap) (hb:P.thr.length<1000) (hl:∀k,(P.get k).length<=4) (bA:n<4000) :
 XX Tryz.prog 109 #[Ab j,.slice (some ⟨b,ah,none⟩) n cap] w (GV w r base j (Kx P f ts)):=by
 have HX:=Aa (Ah.refl w r);have H:=Aa h;have aA:=Aa hs;have Q:=Aa hn;unfold Ab
 go_enter Tryz.func109,Tryz.ntmps109
 clear h hs hn
 go_wp2_with fail
 go_loopw [5] (λD wr=>∃i:Nat,1<=i/\i<=n/\D = .int .i64 i/\(ts.take (i - 1)).all Aw=true/\wr=w) (λD _=>n - (intOf D).toNat)
 case atStart=>exact⟨1,by omega,by have:=Q.out;omega,rfl,by simp,rfl⟩
 case round=>
  obtain⟨i,bm,hi,rfl,am,rfl⟩:=hrel
  by_cases h5:i<n
  ·have aO:(i:Int)<(n:Int):=by omega
   obtain⟨m,rfl⟩:∃m,i=m+1:=⟨i - 1,by omega⟩;have G:m<ts.length:=by have:=Q.out;omega
   have c0:=aA.out.at (i:=m+1) (by simp;omega);have N:(f::ts).getD (m+1) []=ts.getD m []:=by simp
   rw[N] at c0;have HA:=Aa (⟨Ub (p:=Aw) G,Uc (p:=Aw) G,am⟩:_/\_/\_);generalize ts.getD m []=t at c0 HA;clear am N
   go_wp2_with fail
   refine(Le t _).mono ?_;rintro e w2 ⟨rfl,rfl⟩
   cases y:Aw t with
   |true=>
    go_wp2_with fail
    go_roundw
    case rel=>exact⟨m+1+1,by omega,by omega,by go_num,by show (ts.take (m+1)).all Aw=true;rw[HA.out.1,y];have:=HA.out.2.2;simp only[afZ] at this;rw[this];rfl,by trivial⟩
    case measure=>simp[intOf];omega
   |false=>
    go_wp2_with fail
    go_ret
    exact⟨2,r,P,U,rfl,H.out,HX.out,.inl ⟨.inr (HA.out.2.1 y),rfl⟩⟩
  ·have be:i=n:=by omega
   subst be;have ag:Hid (ts.all Aw=true):=by
    rw[XM (by have:=Q.out;omega)] at am;exact am
   clear am
   by_cases h1:i=1
   ·subst h1;have ht:Hid (ts=[]):=List.eq_nil_of_length_eq_zero (by have:=Q.out;omega)
    go_wp2_with fail
    go_ret
    exact⟨2,r,P,U,rfl,H.out,HX.out,.inl ⟨.inl ht.out,rfl⟩⟩
   ·have bp:((i:Int) == 1)=false:=by simp;omega
    have ai:Hid (ts≠[]):=λe=>h1 (by have:=Q.out;rw[e] at this;simp at this;omega);have bj:2<=i:=by omega
    rename Xh=>w0
    go_wp2_with fail
    go_loopw [7] (λD wr=>∃k:Nat,1<=k/\k<=i/\D = .int .i64 k/\(∀m,m+1<k->¬Gx P ts m)/\Below w0.heap.size w0 wr) (λD _=>i - (intOf D).toNat)
    case atStart=>exact⟨1,by omega,by omega,rfl,λm hm=>by omega,Below.refl _ _⟩
    case round=>
     obtain⟨k,bg,hk,rfl,W,R⟩:=hrel;have J:=H.out.below R;have I:Ah w0 r wr r:=.CH R;have E:=aA.out.ext I
     by_cases h6:k<i
     ·have aO:(k:Int)<(i:Int):=by omega
      obtain⟨m,rfl⟩:∃m,k=m+1:=⟨k - 1,by omega⟩;have G:m<ts.length:=by have:=Q.out;omega
      have c0:=E.at (i:=m+1) (by simp;omega);have N:(f::ts).getD (m+1) []=ts.getD m []:=by simp
      rw[N] at c0;have y:Ah wr r wr.drew r:=⟨rfl,rfl,rfl,Xd _,λ_ _=>rfl,λ_ _ _=>rfl⟩;have aG:=Ak.keep (w':=wr.drew) J (λ_ _=>rfl) y;have hH:=QR aG (ts.getD m []) (by omega) (λk=>by have:=hl k;omega);have hF:=IK (some ⟨b,ah+1,none⟩) m (cap - 1) (ts.take m) (ts.getD m []) wr.drew (by rw[X5];omega) (Ws.tail (CZ.ext (w':=wr.drew) E y).ws m (by omega)) (by omega);have aL:=adA G;have an:Hid (Gx P ts m↔(EF P (ts.getD m [])=true\/0<=Aq (ts.take m) (ts.getD m []))):=by
       unfold Hid Gx;rw[aL]
      unfold Ab at hH;generalize Aq (ts.take m) (ts.getD m [])=z at hF an;have HE:=Aa (⟨J,I,W,R⟩:_/\_/\_/\_);have bC:¬(cap=1):=by omega
      have a7:(0:Int)<=(m:Int)+1:=by omega
      have bu:(1:Int)<=(m:Int)+1:=by omega
      have bD:(m:Int)+1<=(cap:Int):=by omega
      generalize aa:ts.getD m []=x at c0 hH an hF;replace aa:=Aa aa;clear J I E N aL aG W R y
      cases aq:EF P x with
      |true=>
       rw[aq] at hH;have ay:Hid (Gx P ts m):=an.out.2 (.inl aq)
       go_wp2_with fail
       refine Xx (S:=(λw'=>w'.cell? ⟨b,ah+(m+1),none⟩=some (.string (bs x)))) (by kernel_rfl) c0 (λa=>?_);refine tk 0 a ?_;refine tk 1 a ?_;refine tk 2 a ?_;refine tk 3 a ?_;refine tk 4 a ?_;refine rd 5 (λK M=>?_)
       go_simp
       go_at_call 111
       refine hH.mono ?_;rintro e w5 ⟨rfl,rfl⟩
       go_wp2_with fail
       refine M.out _ _ c0 (λa=>?_);clear M K
       try simp only[Act.put,sq]
       refine tk 6 a ?_;refine tn 7 a ?_;refine tn 8 a ?_;refine tn 9 a ?_;refine tn 10 a ?_;refine tn 11 a ?_;refine tn 12 a ?_;refine tn 13 a ?_;refine tn 14 a ?_;refine tn 15 a ?_;refine tk 16 a ?_;refine Yd (by kernel_rfl) ?_ _;clear a
       go_wp2_with fail
       go_ret
       obtain⟨J,I,W,R⟩:=HE.out
       exact⟨3,r,P,U,rfl,Ak.keep (w':=wr.drew) J (λ_ _=>rfl) ⟨rfl,rfl,rfl,Xd _,λ_ _=>rfl,λ_ _ _=>rfl⟩,I.trans ⟨rfl,rfl,rfl,Xd _,λ_ _=>rfl,λ_ _ _=>rfl⟩,.inr ⟨⟨ai.out,ag.out⟩,.inl ⟨⟨m,G,ay.out⟩,rfl⟩⟩⟩
      |false=>
       rw[aq] at hH
       go_wp2_with fail
       refine Xx (S:=(λw'=>w'.cell? ⟨b,ah+(m+1),none⟩=some (.string (bs x)))) (by kernel_rfl) c0 (λa=>?_);refine tk 0 a ?_;refine tk 1 a ?_;refine tk 2 a ?_;refine tk 3 a ?_;refine tk 4 a ?_;refine rd 5 (λK M=>?_)
       go_simp
       go_at_call 111
       refine hH.mono ?_;rintro e w5 ⟨rfl,rfl⟩
       go_wp2_with fail
       refine M.out _ _ c0 (λa=>?_);clear M K
       try simp only[Act.put,sq]
       refine tk 6 a ?_;refine tk 7 a ?_;refine tk 8 a ?_;refine tk 9 a ?_;refine tk 10 a ?_;refine tk 11 a ?_;refine tk 12 a ?_;refine tk 13 a ?_;refine rd 14 (λK M=>?_)
       go_simp
       go_at_call 145
       refine hF.mono ?_;rintro e w6 ⟨rfl,rfl⟩
       go_wp2_with fail
       refine M.out _ _ c0 (λa=>?_);clear M K
       try simp only[Act.put,sq]
       refine tk 15 a ?_;refine tk 16 a ?_;refine Yd (by kernel_rfl) ?_ _;clear a
       by_cases hz:0<=z
       ·have a8:decide (0<=z)=true:=decide_eq_true hz;have ay:Hid (Gx P ts m):=an.out.2 (.inr hz)
        go_wp2_with fail
        go_ret
        obtain⟨J,I,W,R⟩:=HE.out
        exact⟨3,r,P,U,rfl,Ak.keep (w':=wr.drew) J (λ_ _=>rfl) ⟨rfl,rfl,rfl,Xd _,λ_ _=>rfl,λ_ _ _=>rfl⟩,I.trans ⟨rfl,rfl,rfl,Xd _,λ_ _=>rfl,λ_ _ _=>rfl⟩,.inr ⟨⟨ai.out,ag.out⟩,.inl ⟨⟨m,G,ay.out⟩,rfl⟩⟩⟩
       ·have a8:decide (0<=z)=false:=decide_eq_false hz;have a4:Hid (¬Gx P ts m):=λhD=>by
         rcases an.out.1 hD with e|e
         ·rw[aq] at e;cases e
         ·exact hz e
        go_wp2_with fail
        go_roundw
        case rel=>
         obtain⟨J,I,W,R⟩:=HE.out;refine⟨m+1+1,by omega,by omega,by go_num,λm' bn=>?_,R.trans ⟨rfl,rfl,rfl,Xd _,λ_ _=>rfl⟩⟩
         by_cases e:m'=m
         ·subst e;exact a4.out
         ·exact W m' (by omega)
        case measure=>simp[intOf];omega
     ·have bc:k=i:=by omega
      subst bc;have au:Hid (∀m,m<ts.length->¬Gx P ts m):=λm hm=>W m (by have:=Q.out;omega);have HE:=Aa (⟨J,I⟩:_/\_);clear J I E W R
      rename Xh=>w1
      go_wp2_with fail
      go_loopw [8] (λD wr=>∃(q:Nat) (T:Nat->RT) (l:RV),1<=q/\q<=k/\D = .int .i64 q/\Ak wr T base j (P.AQ (BD f) (ts.take (q - 1))) l/\Ah w0 r wr T) (λD _=>k - (intOf D).toNat)
      case atStart=>exact⟨1,r,U,by omega,by omega,rfl,by simpa [RP.AQ] using HE.out.1,HE.out.2⟩
      case round=>
       clear HE;obtain⟨q,T,l,bx,hq,rfl,c,o⟩:=hrel
       by_cases h7:q<k
       ·have aO:(q:Int)<(k:Int):=by omega
        obtain⟨m,rfl⟩:∃m,q=m+1:=⟨q - 1,by omega⟩;have G:m<ts.length:=by have:=Q.out;omega
        have E:=aA.out.ext o;have c0:=E.at (i:=m+1) (by simp;omega);have cf:=E.at (i:=0) (by simp);have N:(f::ts).getD (m+1) []=ts.getD m []:=by simp
        rw[N] at c0;have cf:wr.cell? ⟨b,ah,none⟩=some (.string (bs f)):=cf;simp only[afZ] at c;have a7:(0:Int)<=(m:Int)+1:=by omega
        have bq:(0:Int)<(k:Int):=by omega
        have b1:=Gs f [118,97,114];have b2:=Gs f [102,108,97,103];have bz:=c.lt c.tp (by simp);have bw:b<wr.heap.size:=by obtain⟨b',o',e1,e2,_⟩:=E 0 (by simp);cases e1;exact e2
        have aj:∀KK,Cf KK->((P.AQ KK (ts.take m)).get KK).length<1048576:=λKK M=>by
         rw[MW M,List.length_append,X5];have:=hl KK;omega
        have y:Ah wr T wr.drew T:=⟨rfl,rfl,rfl,Xd _,λ_ _=>rfl,λ_ _ _=>rfl⟩;have O:=Ak.keep (w':=wr.drew) c (λ_ _=>rfl) y;generalize aa:ts.getD m []=x at c0;replace aa:=Aa aa
        by_cases X:f=IB
        ·have d:BD f=118:=by unfold BD;rw[if_pos X]
         rw[d] at c O;rw[show decide (f=[118,97,114])=true from decide_eq_true X] at b1;obtain⟨g,Y,w3,v,F,Z,tag3,u,s⟩:=O.name (k:=118) (.inl rfl) x (aj 118 (.inl rfl));have B:=c.El (k:=118) (.inl rfl);obtain⟨va,vc,C,_⟩:=FM (c.rows 118 (.inl rfl));have A:=Aa (⟨u,s,o.trans y,d⟩:_/\_/\_/\_);clear c O u s E N y aj o d X;have v:(XN #[22,22] 22 #[l.V 118,.slice (some ⟨wr.heap.size,0,none⟩) 1 1]).run Tryz.prog (wr.alloc (.cells #[.string (bs x)] 9)).drew = .ok (.slice (some ⟨g,0,none⟩) (((P.AQ 118 (ts.take m)).get 118).length+1) Y) w3:=v;rw[C] at v B F;have B:wr.cell? ⟨j,0,none⟩=some (.slice va ((P.AQ 118 (ts.take m)).get 118).length vc):=B;have F:w3.cell? ⟨j,0,none⟩=some (.slice va ((P.AQ 118 (ts.take m)).get 118).length vc):=F;have Z:w3.frozen? ⟨j,0,none⟩=false:=Z;replace C:=Aa C
         go_wp2_with fail
         go_region_law (refine FY rfl _ _ _ rfl rfl rfl rfl v ?_)
         all_goals
          go_wp2_with fail
          go_roundw
          case rel=>
           obtain⟨u,s,o,d⟩:=A.out;have e:P.AQ (BD f) (ts.take (m+1))=(P.AQ (BD f) (ts.take m)).put (BD f) x:=by rw[MV G,aa.out]
           refine⟨m+1+1,tag3,{l with V:=AY l.V (BD f) (.slice (some ⟨g,0,none⟩) (((P.AQ (BD f) (ts.take m)).get (BD f)).length+1) Y)},by omega,by omega,by go_num,?_,o.trans s⟩;show Ak _ _ _ _ (P.AQ (BD f) (ts.take (m+1))) _;rw[e,d];exact u
          case measure=>simp[intOf];omega
        ·rw[show decide (f=[118,97,114])=false from decide_eq_false X] at b1
         by_cases f2:f=IC
         ·have d:BD f=102:=by unfold BD;rw[if_neg X,if_pos f2]
          rw[d] at c O;rw[show decide (f=[102,108,97,103])=true from decide_eq_true f2] at b2;obtain⟨g,Y,w3,v,F,Z,tag3,u,s⟩:=O.name (k:=102) (.inr (.inl rfl)) x (aj 102 (.inr (.inl rfl)));have B:=c.El (k:=102) (.inr (.inl rfl));obtain⟨va,vc,C,_⟩:=FM (c.rows 102 (.inr (.inl rfl)));have A:=Aa (⟨u,s,o.trans y,d⟩:_/\_/\_/\_);clear c O u s E N y aj o d X f2;have v:(XN #[22,22] 22 #[l.V 102,.slice (some ⟨wr.heap.size,0,none⟩) 1 1]).run Tryz.prog (wr.alloc (.cells #[.string (bs x)] 9)).drew = .ok (.slice (some ⟨g,0,none⟩) (((P.AQ 102 (ts.take m)).get 102).length+1) Y) w3:=v;rw[C] at v B F;have B:wr.cell? ⟨j,1,none⟩=some (.slice va ((P.AQ 102 (ts.take m)).get 102).length vc):=B;have F:w3.cell? ⟨j,1,none⟩=some (.slice va ((P.AQ 102 (ts.take m)).get 102).length vc):=F;have Z:w3.frozen? ⟨j,1,none⟩=false:=Z;replace C:=Aa C
          go_wp2_with fail
          go_region_law (refine FY rfl _ _ _ rfl rfl rfl rfl v ?_)
          all_goals
           go_wp2_with fail
           go_roundw
           case rel=>
            obtain⟨u,s,o,d⟩:=A.out;have e:P.AQ (BD f) (ts.take (m+1))=(P.AQ (BD f) (ts.take m)).put (BD f) x:=by rw[MV G,aa.out]
            refine⟨m+1+1,tag3,{l with V:=AY l.V (BD f) (.slice (some ⟨g,0,none⟩) (((P.AQ (BD f) (ts.take m)).get (BD f)).length+1) Y)},by omega,by omega,by go_num,?_,o.trans s⟩;show Ak _ _ _ _ (P.AQ (BD f) (ts.take (m+1))) _;rw[e,d];exact u
           case measure=>simp[intOf];omega
         ·have d:BD f=109:=by unfold BD;rw[if_neg X,if_neg f2]
          rw[d] at c O;rw[show decide (f=[102,108,97,103])=false from decide_eq_false f2] at b2;obtain⟨g,Y,w3,v,F,Z,tag3,u,s⟩:=O.name (k:=109) (.inr (.inr rfl)) x (aj 109 (.inr (.inr rfl)));have B:=c.El (k:=109) (.inr (.inr rfl));obtain⟨va,vc,C,_⟩:=FM (c.rows 109 (.inr (.inr rfl)));have A:=Aa (⟨u,s,o.trans y,d⟩:_/\_/\_/\_);clear c O u s E N y aj o d X f2;have v:(XN #[22,22] 22 #[l.V 109,.slice (some ⟨wr.heap.size,0,none⟩) 1 1]).run Tryz.prog (wr.alloc (.cells #[.string (bs x)] 9)).drew = .ok (.slice (some ⟨g,0,none⟩) (((P.AQ 109 (ts.take m)).get 109).length+1) Y) w3:=v;rw[C] at v B F;have B:wr.cell? ⟨j,2,none⟩=some (.slice va ((P.AQ 109 (ts.take m)).get 109).length vc):=B;have F:w3.cell? ⟨j,2,none⟩=some (.slice va ((P.AQ 109 (ts.take m)).get 109).length vc):=F;have Z:w3.frozen? ⟨j,2,none⟩=false:=Z;replace C:=Aa C
          go_wp2_with fail
          go_region_law (refine FY rfl _ _ _ rfl rfl rfl rfl v ?_)
          all_goals
           go_wp2_with fail
           go_roundw
           case rel=>
            obtain⟨u,s,o,d⟩:=A.out;have e:P.AQ (BD f) (ts.take (m+1))=(P.AQ (BD f) (ts.take m)).put (BD f) x:=by rw[MV G,aa.out]
            refine⟨m+1+1,tag3,{l with V:=AY l.V (BD f) (.slice (some ⟨g,0,none⟩) (((P.AQ (BD f) (ts.take m)).get (BD f)).length+1) Y)},by omega,by omega,by go_num,?_,o.trans s⟩;show Ak _ _ _ _ (P.AQ (BD f) (ts.take (m+1))) _;rw[e,d];exact u
           case measure=>simp[intOf];omega
       ·have aW:q=k:=by omega
        subst aW;have aF:ts.take (q - 1)=ts:=XM (by have:=Q.out;omega);rw[aF] at c;have aB:=c.El (k:=118) (.inl rfl);have ax:=c.El (k:=102) (.inr (.inl rfl));have az:=c.El (k:=109) (.inr (.inr rfl));obtain⟨a0,d0,e0,_⟩:=FM (c.rows 118 (.inl rfl));obtain⟨a1,d1,e1,_⟩:=FM (c.rows 102 (.inr (.inl rfl)));obtain⟨a2,d2,e2,_⟩:=FM (c.rows 109 (.inr (.inr rfl)));rw[e0] at aB;rw[e1] at ax;rw[e2] at az;have aB:wr.cell? ⟨j,0,none⟩=some (.slice a0 (P.AQ (BD f) ts).vs.length d0):=aB;have ax:wr.cell? ⟨j,1,none⟩=some (.slice a1 (P.AQ (BD f) ts).fs.length d1):=ax;have az:wr.cell? ⟨j,2,none⟩=some (.slice a2 (P.AQ (BD f) ts).ls.length d2):=az;have A:=Aa (⟨c,o⟩:_/\_);generalize ac:P.AQ (BD f) ts=P' at *;replace ac:=Aa ac;clear c o e0 e1 e2 aF
        by_cases k0:4<P'.vs.length
        ·have aR:(4:Int)<(P'.vs.length:Int):=by omega
         go_wp2_with fail
         go_ret
         exact⟨4,T,P',l,rfl,A.out.1,A.out.2,.inr ⟨⟨ai.out,ag.out⟩,.inr ⟨au.out,ac.out.symm,.inl ⟨.inl k0,rfl⟩⟩⟩⟩
        ·have aR:¬(4:Int)<(P'.vs.length:Int):=by omega
         by_cases k1:4<P'.fs.length
         ·have a3:(4:Int)<(P'.fs.length:Int):=by omega
          go_wp2_with fail
          go_ret
          exact⟨4,T,P',l,rfl,A.out.1,A.out.2,.inr ⟨⟨ai.out,ag.out⟩,.inr ⟨au.out,ac.out.symm,.inl ⟨.inr (.inl k1),rfl⟩⟩⟩⟩
         ·have a3:¬(4:Int)<(P'.fs.length:Int):=by omega
          by_cases k2:4<P'.ls.length
          ·have bb:(4:Int)<(P'.ls.length:Int):=by omega
           go_wp2_with fail
           go_ret
           exact⟨4,T,P',l,rfl,A.out.1,A.out.2,.inr ⟨⟨ai.out,ag.out⟩,.inr ⟨au.out,ac.out.symm,.inl ⟨.inr (.inr k2),rfl⟩⟩⟩⟩
          ·have bb:¬(4:Int)<(P'.ls.length:Int):=by omega
           go_wp2_with fail
           go_ret
           exact⟨0,T,P',l,rfl,A.out.1,A.out.2,.inr ⟨⟨ai.out,ag.out⟩,.inr ⟨au.out,ac.out.symm,.inr ⟨⟨by omega,by omega,by omega⟩,rfl⟩⟩⟩⟩
def Hp (f:Tx):Bool:=f == [118,97,114]||f == [102,108,97,103]||f == [108,111,99,107]
def Kw (P:RP) (ts:List Tx) (e:Int) (P':RP):Prop:=
 ((ts.length≠1\/Aw (ts.getD 0 [])=false)/\e=2)\/((ts.length=1/\Aw (ts.getD 0 [])=true)/\((EF P (ts.getD 0 [])=true/\e=3)\/(EF P (ts.getD 0 [])=false/\((P.thr.length=4/\e=4)\/(P.thr.length≠4/\e=0/\P'={P with thr:=P.thr++[⟨ts.getD 0 [],[],[]⟩]})))))
theorem aar {w:Xh} {u:Nat->RT} {base x:Nat} {P:RP} {U:RV} (h:Ak w u base x P U) (b s n cap:Nat) (f:Tx) (ts:List Tx) (J:ts.length+1=n) (z:CZ w u (some ⟨b,s,none⟩) (f::ts)) (G:n<=cap) (D:P.thr.length=0) (E:∀k,(P.get k).length<=4) (C:n<4000) (line:Int) (r:Hp f=true) :
 XX Tryz.prog 51 #[Ab x,.slice (some ⟨b,s,none⟩) n cap,.int .i64 line] w (GV w u base x (Kx P f ts)):=by
 have t:=aau h b s n cap f ts J z G (by omega) E C;have c3:=h.Hc;obtain⟨M,K,I⟩:=At h.trow;rw[I,D] at c3;have H:=z.at (i:=0) (by simp);have H:w.cell? ⟨b,s,none⟩=some (.string (bs f)):=H;have N:(0:Int)<(n:Int):=by omega
 have B:=Gs f [118,97,114];have A:=Gs f [102,108,97,103];have v:=Gs f [108,111,99,107];unfold Ab at t |-;clear h z I J G D E C
 go_enter Tryz.func51,Tryz.ntmps51
 by_cases c:f=[118,97,114]
 ·rw[decide_eq_true c] at B;clear r A v;replace c:=Aa c
  go_wp2_with fail
  refine t.mono ?_;rintro e F ⟨o,m,p,q,rfl,j,d,g⟩;have a:=Aa (⟨j,d,g⟩:_/\_/\_);clear j d g
  go_wp2_with fail
  go_ret
  exact⟨o,m,p,q,rfl,a.out.1,a.out.2.1,a.out.2.2⟩
 ·rw[decide_eq_false c] at B
  by_cases l:f=[102,108,97,103]
  ·rw[decide_eq_true l] at A;clear r v;replace c:=Aa c;replace l:=Aa l
   go_wp2_with fail
   refine t.mono ?_;rintro e F ⟨o,m,p,q,rfl,j,d,g⟩;have a:=Aa (⟨j,d,g⟩:_/\_/\_);clear j d g
   go_wp2_with fail
   go_ret
   exact⟨o,m,p,q,rfl,a.out.1,a.out.2.1,a.out.2.2⟩
  ·rw[decide_eq_false l] at A;have y:f=[108,111,99,107]:=by simpa [Hp,c,l] using r
   rw[decide_eq_true y] at v;clear r;replace c:=Aa c;replace l:=Aa l;replace y:=Aa y
   go_wp2_with fail
   refine t.mono ?_;rintro e F ⟨o,m,p,q,rfl,j,d,g⟩;have a:=Aa (⟨j,d,g⟩:_/\_/\_);clear j d g
   go_wp2_with fail
   go_ret
   exact⟨o,m,p,q,rfl,a.out.1,a.out.2.1,a.out.2.2⟩
theorem Rv {f:Tx} (a:Hp f=false):f≠[118,97,114]/\f≠[102,108,97,103]/\f≠[108,111,99,107]:=by
 refine⟨?_,?_,?_⟩<;>rintro rfl<;>cases a
theorem aan {w:Xh} {a:Nat->RT} {base E:Nat} {P:RP} {U:RV} (h:Ak w a base E P U) (b C n cap:Nat) (f:Tx) (ts:List Tx) (O:ts.length+1=n) (t:CZ w a (some ⟨b,C,none⟩) (f::ts)) (hb:P.thr.length<1000) (B:∀k,(P.get k).length<=4) (F:n<4000) (line:Int) (o:f=[116,104,114,101,97,100]) :
 XX Tryz.prog 51 #[Ab E,.slice (some ⟨b,C,none⟩) n cap,.int .i64 line] w (GV w a base E (Kw P ts)):=by
 have c3:=h.Hc;obtain⟨R,Q,A⟩:=At h.trow;rw[A] at c3;have M:=t.at (i:=0) (by simp);have M:w.cell? ⟨b,C,none⟩=some (.string (bs f)):=M;have ai:(0:Int)<(n:Int):=by omega
 have Z:((bs f).toList == [118,97,114])=false:=by rw[AK,o];rfl
 have b2:((bs f).toList == [102,108,97,103])=false:=by rw[AK,o];rfl
 have b3:((bs f).toList == [108,111,99,107])=false:=by rw[AK,o];rfl
 have b4:((bs f).toList == [116,104,114,101,97,100])=true:=by rw[AK,o];rfl
 have z:=Aa (Ah.refl w a);have H:=Aa h;have v:Ah w a w.drew a:=⟨rfl,rfl,rfl,Xd _,λ_ _=>rfl,λ_ _ _=>rfl⟩;have D:=Ak.keep (w':=w.drew) h (λ_ _=>rfl) v;have am:=h.lt h.tp (by simp);have ah:b<w.heap.size:=by obtain⟨b',o',Y,W,_⟩:=t 0 (by simp);cases Y;exact W
 unfold Ab
 by_cases j:ts.length=1
 ·have ab:(1:Int)<(n:Int):=by omega
  have T:((n:Int) != 2)=false:=by simp;omega
  have c1:=t.at (i:=1) (by simp;omega);have I:(f::ts).getD 1 []=ts.getD 0 []:=by simp
  rw[I] at c1;have m:=λu=>Le (ts.getD 0 []) u;have l:=QR h (ts.getD 0 []) (by omega) (λk=>by have:=B k;omega);unfold Ab at l;obtain⟨g,S,w3,s,X,af,tag3,N,K⟩:=D.thread (ts.getD 0 []) (by omega);rw[A] at s X;have s:(XN #[26,26] 26 #[.slice R P.thr.length Q,.slice (some ⟨w.heap.size,0,none⟩) 1 1]).run Tryz.prog (w.alloc (.cells #[.string (bs (ts.getD 0 [])),.slice none 0 0,.slice none 0 0] 199)).drew = .ok (.slice (some ⟨g,0,none⟩) (P.thr.length+1) S) w3:=s;have G:=Aa (⟨N,v.trans K⟩:_/\_);replace j:=Aa j;have aj:Hid (∀e J,Kw P ts e J↔Kw P ts e J):=λ_ _=>Iff.rfl;clear h t A O D N K v I B F o;generalize c:ts.getD 0 []=x at c1 m l s;replace c:=Aa c
  cases r:Aw x with
  |false=>
   rw[r] at m
   go_enter Tryz.func51,Tryz.ntmps51
   cases y:decide (0<P.thr.length)
   all_goals
    go_wp2_with fail
    refine(m _).mono ?_;rintro e q ⟨rfl,rfl⟩
    go_wp2_with fail
    go_ret
    exact⟨2,a,P,U,rfl,H.out,z.out,.inl ⟨.inr (by rw[c.out];exact r),rfl⟩⟩
  |true=>
   rw[r] at m
   go_enter Tryz.func51,Tryz.ntmps51
   cases d:EF P x with
   |true=>
    rw[d] at l;replace d:=Aa d
    cases y:decide (0<P.thr.length)
    all_goals
     go_wp2_with fail
     refine(m _).mono ?_;rintro e q ⟨rfl,rfl⟩
     go_wp2_with fail
     refine l.mono ?_;rintro e q ⟨rfl,rfl⟩
     go_wp2_with fail
     go_ret
     exact⟨3,a,P,U,rfl,H.out,z.out,.inr ⟨⟨j.out,by rw[c.out];exact r⟩,.inl ⟨by rw[c.out];exact d.out,rfl⟩⟩⟩
   |false=>
    rw[d] at l;replace d:=Aa d
    by_cases p:P.thr.length=4
    ·have V:((P.thr.length:Int) == 4)=true:=by simp;omega
     have y:decide (0<P.thr.length)=true:=by simp;omega
     replace p:=Aa p
     go_wp2_with fail
     refine(m _).mono ?_;rintro e q ⟨rfl,rfl⟩
     go_wp2_with fail
     refine l.mono ?_;rintro e q ⟨rfl,rfl⟩
     go_wp2_with fail
     go_ret
     exact⟨4,a,P,U,rfl,H.out,z.out,.inr ⟨⟨j.out,by rw[c.out];exact r⟩,.inr ⟨by rw[c.out];exact d.out,.inl ⟨p.out,rfl⟩⟩⟩⟩
    ·have V:((P.thr.length:Int) == 4)=false:=by simp;omega
     replace p:=Aa p
     cases y:decide (0<P.thr.length)
     all_goals
      go_wp2_with fail
      refine(m _).mono ?_;rintro e q ⟨rfl,rfl⟩
      go_wp2_with fail
      refine l.mono ?_;rintro e q ⟨rfl,rfl⟩
      go_wp2_with fail
      go_region_law (refine FY rfl _ _ _ rfl rfl rfl rfl s ?_)
      all_goals
       go_wp2_with fail
       go_ret
       exact⟨0,tag3,_,_,rfl,G.out.1,G.out.2,.inr ⟨⟨j.out,by rw[c.out];exact r⟩,.inr ⟨by rw[c.out];exact d.out,.inr ⟨p.out,rfl,rfl⟩⟩⟩⟩
 ·have T:((n:Int) != 2)=true:=by simp;omega
  replace j:=Aa j;clear h t A O D v B F o
  go_enter Tryz.func51,Tryz.ntmps51
  cases y:decide (0<P.thr.length)
  all_goals
   go_wp2_with fail
   go_ret
   exact⟨2,a,P,U,rfl,H.out,z.out,.inl ⟨.inl j.out,rfl⟩⟩
theorem aao {w:Xh} {a:Nat->RT} {base d:Nat} {P:RP} {U:RV} (h:Ak w a base d P U) (b c n cap:Nat) (f:Tx) (ts:List Tx) (v:ts.length+1=n) (r:CZ w a (some ⟨b,c,none⟩) (f::ts)) (l:P.thr.length=0) (line:Int) (k:Hp f=false) (g:f≠[116,104,114,101,97,100]) :
 XX Tryz.prog 51 #[Ab d,.slice (some ⟨b,c,none⟩) n cap,.int .i64 line] w (GV w a base d (λe _=>e=2)):=by
 have c3:=h.Hc;obtain⟨A,z,q⟩:=At h.trow;rw[q,l] at c3;have o:=r.at (i:=0) (by simp);have o:w.cell? ⟨b,c,none⟩=some (.string (bs f)):=o;have B:(0:Int)<(n:Int):=by omega
 obtain⟨m,j,p⟩:=Rv k;have s:=Gs f [118,97,114];have x:=Gs f [102,108,97,103];have t:=Gs f [108,111,99,107];have y:=Gs f [116,104,114,101,97,100];rw[decide_eq_false m] at s;rw[decide_eq_false j] at x;rw[decide_eq_false p] at t;rw[decide_eq_false g] at y;have u:=Aa (Ah.refl w a);have H:=Aa h;unfold Ab;clear h r q v l k g m j p
 go_enter Tryz.func51,Tryz.ntmps51
 go_wp2_with fail
 go_ret
 exact⟨2,a,P,U,rfl,H.out,u.out,rfl⟩
def Oz (P:RP) (k:Nat) (th:AE) (x:Tx) (e:Int) (P':RP):Prop:=
 (Aw x=false/\e=2)\/(Aw x=true/\(((∃i,i<th.labs.length/\(th.labs.map Prod.fst).getD i []=x)/\e=3)\/((∀i,i<th.labs.length->(th.labs.map Prod.fst).getD i []≠x)/\e=0/\P'={P with thr:=P.thr.set k {th with labs:=th.labs++[(x,th.code.length)]}})))
theorem aap {w:Xh} {c:Nat->RT} {base E:Nat} {P:RP} {U:RV} (h:Ak w c base E P U) (b V cap:Nat) (f:Tx) (hs:CZ w c (some ⟨b,V,none⟩) [f]) (k:Nat) (th:AE) (hk:P.thr.length=k+1) (l:P.thr[k]?=some th) (N:P.thr.length<1000) (A:th.labs.length<4000) (aM:th.code.length<4000) (ab:f.length<4000) (line:Int) (x:Tx) (B:f=x++[58]) (av:f≠[116,104,114,101,97,100]) :
 XX Tryz.prog 51 #[Ab E,.slice (some ⟨b,V,none⟩) 1 cap,.int .i64 line] w (GV w c base E (Oz P k th x)):=by
 obtain⟨p,o⟩:∃p,U.TV[k]?=some p:=⟨_,Xe (by rw[h.len];omega)⟩;obtain⟨d,aP,s⟩:=h.KM l;have c3:=h.Hc;rw[s,hk] at c3;have Z:w.cell? ⟨d,k*3+1,none⟩=some p.1:=h.Hd l o (r:=1) (by omega) s;have t2:w.cell? ⟨d,k*3+2,none⟩=some p.2:=h.Hd l o (r:=2) (by omega) s;obtain⟨ca,cc,F⟩:=At (h.ths k th p l o).code;obtain⟨K,W,z⟩:=At (h.ths k th p l o).labs;rw[F] at Z;rw[z] at t2;have S:=hs.at (i:=0) (by simp);have S:w.cell? ⟨b,V,none⟩=some (.string (bs f)):=S;have b4:=Gs f [116,104,114,101,97,100];rw[decide_eq_false av] at b4;have aA:(bs f).size=x.length+1:=by rw[Ba,B];simp
 have az:∀D:x.length<(bs f).size,(bs f)[x.length]'D=58:=λD=>by
  rw[Dj f x.length D];simp[B]
 have aG:(bs f).extract 0 x.length=bs x:=by rw[GO,B];simp
 have hN:=λu=>Le x u;have HX:=Aa (Ah.refl w c);have H:=Aa h;have t:Ah w c w.drew c:=⟨rfl,rfl,rfl,Xd _,λ_ _=>rfl,λ_ _ _=>rfl⟩;have O:=Aa (⟨Ak.keep (w':=w.drew) h (λ_ _=>rfl) t,t⟩:_/\_);have aK:wrap64 (k:Int)=(k:Int):=X2 _ (by omega);have aB:wrap64 (x.length:Int)=(x.length:Int):=X2 _ (by rw[B] at ab;simp at ab;omega);have ap:x.length<(bs f).size:=by omega
 have aC:=az ap;unfold Ab;replace o:=Aa o;replace l:=Aa l;replace F:=Aa F;replace z:=Aa z;replace s:=Aa s;replace N:=Aa N;replace A:=Aa A;clear h hs az B av hk t
 go_enter Tryz.func51,Tryz.ntmps51
 go_wp2_with fail
 go_region
 go_wp2_with fail
 refine(hN _).mono ?_;rintro e y ⟨rfl,C⟩;have ah:Ak y c base E P U:=by rw[C];exact O.out.1
 have aw:Ah w c y c:=by rw[C];exact O.out.2
 have s1:y.cell? ⟨d,k*3+1,none⟩=some (.slice ca th.code.length cc):=by rw[C];exact Z
 have s2:y.cell? ⟨d,k*3+2,none⟩=some (.slice K th.labs.length W):=by rw[C];exact t2
 have n:=Aa (⟨ah,aw⟩:_/\_);clear C Z t2 c3 S ah aw hN
 cases Y:Aw x with
 |false=>
  go_wp2_with fail
  go_ret
  exact⟨2,c,P,U,rfl,n.out.1,n.out.2,.inl ⟨Y,rfl⟩⟩
 |true=>
  go_wp2_with fail
  go_loopw [12] (λT wr=>∃i:Nat,i<=th.labs.length/\T = .int .i64 i/\(∀j:Nat,j<i->(th.labs.map Prod.fst).getD j []≠x)/\wr=y) (λT _=>th.labs.length - (intOf T).toNat)
  case atStart=>exact⟨0,Nat.zero_le _,rfl,λj hj=>by omega,rfl⟩
  case round=>
   clear aK aB aA aG ap aC b4 aM ab;obtain⟨i,D,rfl,J,rfl⟩:=hrel
   by_cases h5:i<th.labs.length
   ·have aU:(i:Int)<(th.labs.length:Int):=by omega
    obtain⟨q,Q⟩:∃q,th.labs[i]?=some q:=⟨_,Xe h5⟩;have M:=(n.out.1.ths k th p l.out o.out).labs;have R:=M;obtain⟨m,X⟩:∃m,th.labs.length=m+1:=⟨th.labs.length - 1,by omega⟩;rw[X] at R;obtain⟨lg,aN,G⟩:=Y5 R;rw[<-X] at G;have aD:K=some ⟨lg,0,none⟩:=by have e:=z.out;rw[G] at e;cases e;rfl
    subst aD;have cN:wr.cell? ⟨lg,i*2,none⟩=some (.string (bs q.1)):=by
     rw[G] at M;have e:=M.cellAt (i*2+0) (by have:=h5;omega);exact e.trans (GL (m:=2) (r:=0) Sl Q (by omega))
    have ax:(th.labs.map Prod.fst).getD i []=q.1:=by rw[Xc,List.getElem?_map,Q];rfl
    have ar:wrap64 ((i:Int)+1)=(i:Int)+1:=X2 _ (by have:=A.out;omega);have hF:((bs q.1).toList == (bs x).toList)=decide (q.1=x):=by
     rw[AK,AK]
     by_cases e:q.1=x<;>simp[e]
    have v:=Aa (⟨J,ax,h5⟩:_/\_/\_);clear J ax M R X G Q;clear s1 F D HX H O N A
    by_cases e:q.1=x
    ·rw[decide_eq_true e] at hF;replace e:=Aa e
     go_wp2_with fail
     go_ret
     exact⟨3,c,P,U,rfl,n.out.1,n.out.2,.inr ⟨Y,.inl ⟨⟨i,v.out.2.2,v.out.2.1.trans e.out⟩,rfl⟩⟩⟩
    ·rw[decide_eq_false e] at hF;replace e:=Aa e
     go_wp2_with fail
     go_roundw
     case rel=>
      rw[ar]
      exact⟨i+1,v.out.2.2,rfl,λj hj=>if h6:j=i then by subst h6;rw[v.out.2.1];exact e.out else v.out.1 j (Nat.lt_of_le_of_ne (Nat.le_of_lt_succ hj) h6),trivial⟩
     case measure=>
      rw[ar];exact Nat.sub_lt_sub_left v.out.2.2 (Nat.lt_succ_self i)
   ·have aQ:decide ((i:Int)<(th.labs.length:Int))=false:=by simp;omega
    have aR:¬((i:Int)<(th.labs.length:Int)):=by omega
    have t:Ah wr c wr.drew c:=⟨rfl,rfl,rfl,Xd _,λ_ _=>rfl,λ_ _ _=>rfl⟩;have ai:=Ak.keep (w':=wr.drew) n.out.1 (λ_ _=>rfl) t;obtain⟨g,aJ,w3,I,aH,aS,tag3,an,ak⟩:=ai.label l.out o.out x th.code.length (by have:=A.out;omega) s.out;rw[z.out] at I aH;have I:(XN #[197,197] 197 #[.slice K th.labs.length W,.slice (some ⟨wr.heap.size,0,none⟩) 1 1]).run Tryz.prog (wr.alloc (.cells #[.string (bs x),.int .i64 th.code.length] 202)).drew = .ok (.slice (some ⟨g,0,none⟩) (th.labs.length+1) aJ) w3:=I;have af:d<wr.heap.size:=n.out.1.lt (n.out.1.tt d (by rw[s.out];rfl)) (by simp);have aT:(wr.alloc (.cells #[.string (bs x),.int .i64 th.code.length] 202)).cell? ⟨d,k*3+2,none⟩=some (.slice K th.labs.length W):=(World.cell?_of_block (w:=wr) (a:=⟨d,k*3+2,none⟩) (Below.heap_alloc wr _ d af)).trans s2;replace af:=Aa af;have HN:=Aa (⟨an,(n.out.2.trans t).trans ak,λj hj=>J j (by omega)⟩:_/\_/\(∀j,j<th.labs.length->_));clear J t ai an ak
    go_wp2_with fail
    go_region_law (refine FY rfl _ _ _ rfl rfl rfl rfl I ?_)
    all_goals
     go_wp2_with fail
     go_ret
     exact⟨0,tag3,_,_,rfl,HN.out.1,HN.out.2.1,.inr ⟨Y,.inr ⟨HN.out.2.2,rfl,rfl⟩⟩⟩
end Go.Proofs.YtdcacoifehkioaaGreatDoor
