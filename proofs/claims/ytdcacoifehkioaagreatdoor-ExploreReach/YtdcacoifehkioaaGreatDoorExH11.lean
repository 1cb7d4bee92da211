import Derived.Test.YtdcacoifehkioaaGreatDoorExH10
import Derived.Test.YtdcacoifehkioaaGreatDoorExH6
open List renaming length_append->Xb,map_append->XI,mem_append->XY,mem_singleton->XT,foldl_append->Y0,eq_nil_or_concat->YX,concat_eq_append->YY,getD_eq_getElem?_getD->Xc,ext_getElem?->Y3,getElem?_map->Xs,getElem?_set_self->YJ,getElem?_eq_some_iff->Xf,getElem?_set_ne->Zk,mem_or_eq_of_mem_set->Zt,mem_of_getElem?->XA,map_cons->Za,zip_cons_cons->agz,map_map->Zy,length_set->Yc
set_option linter.unusedVariables false
set_option linter.unusedSimpArgs false
namespace Go.Proofs.YtdcacoifehkioaaGreatDoor
open Go.RowKit Go.Proofs.Cod
theorem Fo.congr {N:Tx->Option (Int×Nat)} {G d:Int->List Tx} (h:Fo N G) (c:∀k,AU k->d k=G k):Fo N d:=λt k n=>by
 rw[h t k n];constructor
 ·rintro⟨a,b⟩;exact⟨a,by rw[c k a];exact b⟩
 ·rintro⟨a,b⟩;exact⟨a,by rw[c k a] at b;exact b⟩
theorem aay {P:RP} {k:Int} (x:Tx):(P.put k x).thr=P.thr:=by
 unfold RP.put
 split
 ·rfl
 ·split<;>rfl
theorem Ji {k:Int}:∀(ts:List Tx) (P:RP),(P.AQ k ts).thr=P.thr
 |[],P=>rfl
 |x::ts,P=>by
  show ((P.put k x).AQ k ts).thr=_;rw[Ji ts,aay]
theorem aaz {P:RP} {k k':Int} (b:Cf k) (a:Cf k') (c:k'≠k) (x:Tx):(P.put k x).get k'=P.get k':=by
 rcases b with rfl|rfl|rfl<;>rcases a with rfl|rfl|rfl<;>simp_all [RP.put,RP.get]
theorem QS {k k':Int} (c:Cf k) (b:Cf k') (a:k'≠k):∀(ts:List Tx) (P:RP),(P.AQ k ts).get k'=P.get k'
 |[],P=>rfl
 |x::ts,P=>by
  show ((P.put k x).AQ k ts).get k'=_;rw[QS c b a ts,aaz c b a]
theorem Ju {P:RP} {k:Int} (h:Cf k):Ao P k=P.get k:=by rcases h with rfl|rfl|rfl<;>simp[Ao]
theorem SF {k:Int} (h:AU k):Cf k\/k=116:=by
 rcases h with h|h|h|h
 ·exact .inl (.inl h)
 ·exact .inl (.inr (.inl h))
 ·exact .inl (.inr (.inr h))
 ·exact .inr h
theorem aax {P:RP} {k k':Int} (a:Cf k) (b:AU k') (ts:List Tx):Ao (P.AQ k ts) k'=AY (Ao P) k (Ao P k++ts) k':=by
 rcases SF b with h|h
 ·by_cases e:k'=k
  ·subst e;rw[Cm,Ju a,Ju a,MW a]
  ·rw[CB _ e,Ju h,Ju h,QS a h e]
 ·subst h;rw[CB _ (by rcases a with rfl|rfl|rfl<;>decide)];show (P.AQ k ts).names=P.names;unfold RP.names;rw[Ji]
theorem ace {f:Tx} (a:Hp f=true):Di f=BD f:=by
 unfold Hp at a;simp only[Bool.or_eq_true,beq_iff_eq] at a
 rcases a with (rfl|rfl)|rfl<;>decide
theorem acV {f:Tx} (b:Hp f=false):Di f=0:=by
 obtain⟨c,d,a⟩:=Rv b;unfold Di;rw[if_neg (λe=>c e.symm),if_neg (λe=>d e.symm),if_neg (λe=>a e.symm)]
section
variable {P P':RP} {s:PS} {f:Tx} {ts:List Tx} {e:Int}
def GY (o:Except Int PS) (e:Int) (P':RP):Prop:=(e≠0/\o = .error e)\/(e=0/\∃s',o = .ok s'/\PL P' s')
theorem aaN (h:PL P s) (B:Hp f=true) (b:Kx P f ts e P'):GY (Ci (Di f) ts s) e P':=by
 rw[ace B];unfold Kx at b;have j:=acf f;have n:=act j;generalize BD f=kd at b j n |-;have G:kd≠0:=by rcases j with rfl|rfl|rfl<;>decide
 rcases b with⟨r,rfl⟩|⟨⟨r,J⟩,b⟩
 ·left;refine⟨by decide,?_⟩;unfold Ci;rw[if_pos (.inr r)]
 ·have u:=TH n ts (Ao P) s.N h.N;have E:Ci kd ts s=match BF kd s.N (Ao P kd) ts with
   |none=>.error 3
   |some p=>if 4<p.2.length then .error 4 else .ok {s with N:=p.1,nms:=AY s.nms kd p.2}:=by
   unfold Ci;rw[if_neg (by simp[G,r,J]),h.nms kd n]
   cases BF kd s.N (Ao P kd) ts<;>rfl
  rw[E]
  rcases b with⟨⟨i,o,t⟩,rfl⟩|⟨I,rfl,b⟩
  ·left;refine⟨by decide,?_⟩;rw[u.1 ⟨i,o,(Tq P ts i).1 t⟩]
  ·obtain⟨K,F,C⟩:=u.2 (λi o t=>I i o ((Tq P ts i).2 t));rw[F];show GY (if 4<(Ao P kd++ts).length then _ else _) e _;have m:∀k,AU k->(Ao (P.AQ kd ts) k)=AY (Ao P) kd (Ao P kd++ts) k:=λk a=>aax j a ts;have l:∀k,AU k->k≠kd->(Ao (P.AQ kd ts) k).length<=4:=λk a H=>by
    rw[m k a,CB _ H];exact h.few k a
   have A:Ao (P.AQ kd ts) kd=Ao P kd++ts:=by rw[m kd n,Cm]
   have x:Ao (P.AQ kd ts) 118=(P.AQ kd ts).vs:=by simp[Ao,RP.get]
   have v:Ao (P.AQ kd ts) 102=(P.AQ kd ts).fs:=by simp[Ao,RP.get]
   have y:Ao (P.AQ kd ts) 109=(P.AQ kd ts).ls:=by simp[Ao,RP.get]
   have d:=l 118 (by simp[AU]);have g:=l 102 (by simp[AU]);have c:=l 109 (by simp[AU]);rw[x] at d;rw[v] at g;rw[y] at c;have z:4<(P.AQ kd ts).vs.length\/4<(P.AQ kd ts).fs.length\/4<(P.AQ kd ts).ls.length↔4<(Ao P kd++ts).length:=by
    rw[<-A]
    rcases j with rfl|rfl|rfl
    ·rw[x];have g:=g (by decide);have c:=c (by decide);omega
    ·rw[v];have d:=d (by decide);have c:=c (by decide);omega
    ·rw[y];have g:=g (by decide);have d:=d (by decide);omega
   rcases b with⟨w,rfl⟩|⟨w,rfl⟩
   ·left
    exact⟨by decide,by rw[if_pos (z.1 w)]⟩
   ·right;have D:¬4<(Ao P kd++ts).length:=λq=>by have:=z.2 q;omega
    refine⟨rfl,_,by rw[if_neg D],?_⟩;refine⟨C.congr m,λk a=>?_,?_,?_,λk a=>?_,?_⟩
    ·show AY s.nms kd (Ao P kd++ts) k=_;rw[m k a]
     by_cases e:k=kd
     ·subst e;rw[Cm,Cm]
     ·rw[CB _ e,CB _ e];exact h.nms k a
    ·rw[Ji];exact h.bod
    ·rw[Ji];exact h.pos
    ·by_cases e:k=kd
     ·subst e;rw[A];omega
     ·exact l k a e
    ·rw[Ji];exact h.code
theorem aaK (h:PL P s) (c:Kw P ts e P'):GY (if ts.length=1 then(Ci 116 ts s).map JA else .error 2) e P':=by
 have m:AU 116:=by simp[AU]
 rcases c with⟨b,rfl⟩|⟨⟨b,f⟩,c⟩
 ·left;refine⟨by decide,?_⟩
  by_cases q:ts.length=1
  ·rw[if_pos q]
   rcases b with b|b
   ·exact absurd q b
   ·match ts,q,b with
    |[t],_,b=>
     unfold Ci;rw[if_pos (by simpa using b)];rfl
  ·rw[if_neg q]
 ·rw[if_pos b]
  match ts,b,f,c with
  |[t],_,f,c=>
   have f:Aw t=true:=f;have c:(EF P t=true/\e=3)\/(EF P t=false/\((P.thr.length=4/\e=4)\/(P.thr.length≠4/\e=0/\P'={P with thr:=P.thr++[⟨t,[],[]⟩]}))):=c;have w:Ci 116 [t] s=match BF 116 s.N (Ao P 116) [t] with
    |none=>.error 3
    |some p=>if 4<p.2.length then .error 4 else .ok {s with N:=p.1,nms:=AY s.nms 116 p.2}:=by
    unfold Ci;rw[if_neg (by simp[f]),h.nms 116 m]
    cases BF 116 s.N (Ao P 116) [t]<;>rfl
   rw[w];have u:Ao P 116=P.names:=by simp[Ao]
   have j:(Ao P 116).length=P.thr.length:=by rw[u];simp[RP.names]
   have x:=h.few 116 m
   rcases c with⟨g,rfl⟩|⟨g,c⟩
   ·left;refine⟨by decide,?_⟩
    cases d:s.N t with
    |none=>exact absurd ((NL P t).1 g) ((h.N.free t).1 d)
    |some p=>simp only[BF,d];rfl
   ·have d:s.N t=none:=(h.N.free t).2 (λq=>by rw[(NL P t).2 q] at g;cases g);have v:BF 116 s.N (Ao P 116) [t]=some (Be s.N t (116,(Ao P 116).length),Ao P 116++[t]):=by simp[BF,d]
    rw[v];show GY (Except.map JA (if 4<(Ao P 116++[t]).length then _ else _)) e _
    rcases c with⟨o,rfl⟩|⟨o,rfl,rfl⟩
    ·left;refine⟨by decide,?_⟩;rw[if_pos (by rw[Xb,j,o];simp)];rfl
    ·right;refine⟨rfl,_,by rw[if_neg (by rw[Xb,j];simp;omega)];rfl,?_⟩;have l:∀k,AU k->Ao {P with thr:=P.thr++[⟨t,[],[]⟩]} k=AY (Ao P) 116 (Ao P 116++[t]) k:=λk a=>by
      rcases SF a with a|a
      ·rw[CB _ (by rcases a with rfl|rfl|rfl<;>decide),Ju a,Ju a];rfl
      ·subst a;rw[Cm,u];simp[Ao,RP.names]
     refine⟨(h.N.put d m).congr l,λk a=>?_,?_,?_,λk a=>?_,?_⟩
     ·show AY s.nms 116 (Ao P 116++[t]) k=_;rw[l k a]
      by_cases e:k=116
      ·subst e;rw[Cm,Cm]
      ·rw[CB _ e,CB _ e];exact h.nms k a
     ·show s.bod++[_]=(P.thr++[_]).map CD;rw[h.bod,XI];rfl
     ·intro th i r n
      rcases XY.1 i with q|q
      ·exact h.pos th q r n
      ·obtain rfl:=XT.1 q
       cases n
     ·rw[l k a]
      by_cases e:k=116
      ·subst e;rw[Cm,Xb,j];simp;omega
      ·rw[CB _ e];exact h.few k a
     ·intro th i
      rcases XY.1 i with q|q
      ·exact h.code th q
      ·obtain rfl:=XT.1 q
       simp
theorem NC (l:List (Tx×Nat)) (x:Tx) (n:Nat):CY (l++[(x,n)])=Be (CY l) x n:=by
 funext y
 unfold CY Be;rw[Y0];show (if x=y then some n else _)=_
 by_cases q:x=y
 ·rw[if_pos q,if_pos q.symm]
 ·rw[if_neg q,if_neg (λa=>q a.symm)]
theorem NB (l:List (Tx×Nat)) (x:Tx):CY l x=none↔∀i,i<l.length->(l.map Prod.fst).getD i []≠x:=by
 rcases YX l with q|⟨a,p,q⟩
 ·subst q;simp[CY]
 ·rw[YY] at q;have h:=NB a x;subst q;obtain⟨y,n⟩:=p;rw[NC];have f:∀i,i<a.length->((a++[(y,n)]).map Prod.fst).getD i []=(a.map Prod.fst).getD i []:=λi c=>by
   rw[Xc,Xc,XI,List.getElem?_append_left (by simpa using c)]
  have e:((a++[(y,n)]).map Prod.fst).getD a.length []=y:=by
   rw[Xc,XI,List.getElem?_append_right (by simp)];simp
  unfold Be
  by_cases q:x=y
  ·rw[if_pos q];constructor
   ·intro b;cases b
   ·intro b;exact absurd (e.trans q.symm) (b a.length (by simp))
  ·rw[if_neg q,h];constructor
   ·intro b i c
    by_cases d:i<a.length
    ·rw[f i d];exact b i d
    ·have:i=a.length:=by simp at c;omega
     subst this;rw[e];exact λg=>q g.symm
   ·intro b i c;rw[<-f i c];exact b i (by simp;omega)
 termination_by l.length
 decreasing_by subst q;simp
theorem ab7 {α β:Type} (g:α->β) {l:List α} {k:Nat} (a:l.length=k+1) (x:α):(l.map g).dropLast++[g x]=(l.set k x).map g:=by
 rcases YX l with q|⟨b,p,q⟩
 ·subst q;simp at a
 ·rw[YY] at q;subst q;have:k=b.length:=by simp at a;omega
  subst this;rw[List.set_append_right _ _ (Nat.le_refl _)]
  simp
theorem ab9 {α β:Type} (g:α->β) {l:List α} {k:Nat} {x:α} (b:l.length=k+1) (a:l[k]?=some x):(l.map g).getLast?=some (g x):=by
 rw[List.getLast?_map,List.getLast?_eq_getElem?,b];simp[a]
theorem abp {P:RP} {k:Nat} {th th':AE} (a:P.thr[k]?=some th) (c:th'.name=th.name):({P with thr:=P.thr.set k th'}:RP).names=P.names:=by
 unfold RP.names
 apply Y3
 intro m;rw[Xs,Xs]
 by_cases q:m=k
 ·subst q;show Option.map _ ((P.thr.set m th')[m]?)=_;rw[YJ (Xf.1 a).1,a];simp[c]
 ·show Option.map _ ((P.thr.set k th')[m]?)=_;rw[Zk (λb=>q b.symm)]
theorem PL.Qe (h:PL P s) {k:Nat} {th th':AE} (l:P.thr.length=k+1) (g:P.thr[k]?=some th) (j:th'.name=th.name) (m:∀r,r∈th'.code->0<=r.i.x/\0<r.line) (f:th'.code.length<=24):PL {P with thr:=P.thr.set k th'} (Id s (CD th')):=by
 have b:∀k',Ao {P with thr:=P.thr.set k th'} k'=Ao P k':=λk'=>by
  unfold Ao;rw[abp g j];rfl
 refine⟨h.N.congr λk' _=>b k',λk' c=>by rw[b];exact h.nms k' c,?_,?_,λk' c=>by rw[b];exact h.few k' c,?_⟩
 ·show s.bod.dropLast++[CD th']=(P.thr.set k th').map CD;rw[h.bod];exact ab7 CD l th'
 ·intro a d r e
  rcases Zt d with q|q
  ·exact h.pos a q r e
  ·subst q;exact m r e
 ·intro a d
  rcases Zt d with q|q
  ·exact h.code a q
  ·subst q;exact f
theorem aaL (h:PL P s) {k:Nat} {th:AE} {x:Tx} (m:P.thr.length=k+1) (c:P.thr[k]?=some th) (r:f=x++[58]) (a:Oz P k th x e P'):GY (Ge f s (CD th)) e P':=by
 have j:f.dropLast=x:=by rw[r];simp
 unfold Ge;rw[j];have d:=XA c
 rcases a with⟨b,rfl⟩|⟨b,a⟩
 ·exact .inl ⟨by decide,by rw[if_pos b]⟩
 ·rw[if_neg (by rw[b];simp)];show GY (match CY th.labs x with|some _=>_|none=>_) e P'
  rcases a with⟨⟨i,o,q⟩,rfl⟩|⟨l,rfl,rfl⟩
  ·left;refine⟨by decide,?_⟩
   cases g:CY th.labs x with
   |none=>exact absurd q ((NB _ _).1 g i o)
   |some n=>rfl
  ·right;refine⟨rfl,_,by rw[(NB _ _).2 l],?_⟩;have:=h.Qe m c (th':={th with labs:=th.labs++[(x,th.code.length)]}) rfl (h.pos th d) (h.code th d);have p:({CD th with labs:=Be (CD th).labs x (CD th).code.length}:PB)=CD {th with labs:=th.labs++[(x,th.code.length)]}:=by
    unfold CD;show PB.mk _ (Be (CY th.labs) x (th.code.map If).length)=PB.mk _ (CY (th.labs++[(x,th.code.length)]));rw[NC,List.length_map]
   rw[p];exact this
end
def Fj:List UInt8:=[114,97,98,118,102,109,116,108]
theorem Kj {c:UInt8} (h:c∈Fj):c=114\/c=97\/c=98\/c=118\/c=102\/c=109\/c=116\/c=108:=by simpa [Fj] using h
theorem KR {p:Tx×Tx} (h:p∈Bd):∀c,c∈p.2->c∈Fj:=by
 have:∀p,p∈Bd->p.2.all (λc=>Fj.contains c)=true:=by decide
 intro c a;have:=List.all_eq_true.1 (this p h) c a
 simpa using this
section
variable {P:RP} {N:Tx->Option (Int×Nat)}
theorem Px {c:UInt8} (a:c∈Fj) (t:Tx):Do (Cp c) t=Cy t (c.toNat:Int):=by
 rcases Kj a with rfl|rfl|rfl|rfl|rfl|rfl|rfl|rfl<;>simp[Do,Cp,Cy,DT]
theorem NY (h:Fo N (Ao P)) {k:Int} (b:AU k) (i:Ad) (t:Tx):((match N t with|some (k',n)=>if k'=k then some {i with x:=(n:Int)} else none|none=>none)=(none:Option Ad)/\Aq (Ao P k) t<0)\/((match N t with|some (k',n)=>if k'=k then some {i with x:=(n:Int)} else none|none=>none)=some {i with x:=Aq (Ao P k) t}/\0<=Aq (Ao P k) t):=by
 by_cases q:Aq (Ao P k) t = -1
 ·left;refine⟨?_,by omega⟩
  cases a:N t with
  |none=>rfl
  |some p=>
   obtain⟨k',n⟩:=p;show (if k'=k then _ else _)=_
   by_cases e:k'=k
   ·subst e;have:=((h t k' n).1 a).2
    omega
   ·rw[if_neg e]
 ·right;have c:=In (Ao P k) t;refine⟨?_,by omega⟩;have a:=(h t k (Aq (Ao P k) t).toNat).2 ⟨b,by omega⟩;rw[a];show (if k=k then _ else _)=_;rw[if_pos rfl,Int.toNat_of_nonneg (by omega)]
theorem VE (h:Fo N (Ao P)) {c:UInt8} (b:c∈Fj) (r:RI) (a:0<=r.i.x) (t:Tx):(Ds N r.i ((c.toNat:Int),t)=none/\(Az P r (Cp c) t).i.x<0)\/(Ds N r.i ((c.toNat:Int),t)=some (Az P r (Cp c) t).i/\0<=(Az P r (Cp c) t).i.x):=by
 rcases Kj b with rfl|rfl|rfl|rfl|rfl|rfl|rfl|rfl
 ·exact .inr ⟨rfl,a⟩
 ·exact .inr ⟨rfl,a⟩
 ·exact .inr ⟨rfl,a⟩
 ·exact NY (P:=P) h (k:=118) (by simp[AU]) r.i t
 ·exact NY (P:=P) h (k:=102) (by simp[AU]) r.i t
 ·exact NY (P:=P) h (k:=109) (by simp[AU]) r.i t
 ·exact .inr ⟨rfl,a⟩
 ·exact .inr ⟨rfl,a⟩
def Mn:Tx->List (UInt8×Tx)->Tx
 |x,[]=>x
 |x,p::l=>Mn (if p.1=114\/p.1=97\/p.1=98 then x else p.2) l
theorem Wb (r:RI) {c:UInt8} (a:c∈Fj) (t:Tx):(Az P r (Cp c) t).word=(if Cp c=114\/Cp c=97\/Cp c=98 then r.word else t)/\(Az P r (Cp c) t).line=r.line/\(Az P r (Cp c) t).i.op=r.i.op:=by
 rcases Kj a with rfl|rfl|rfl|rfl|rfl|rfl|rfl|rfl<;>exact⟨rfl,rfl,rfl⟩
theorem SR:∀(ps:Tx) (ts:List Tx) (r:RI),ts.length=ps.length->(∀c,c∈ps->c∈Fj)->(Bk ts ps=false/\Fw P r 5 ((ps.map Cp).zip ts)=none)\/(Bk ts ps=true/\∃r',Fw P r 5 ((ps.map Cp).zip ts)=some (r',5))
 |[],[],r,_,_=>.inr ⟨rfl,r,rfl⟩
 |[],_::_,_,h,_=>by simp at h
 |_::_,[],_,h,_=>by simp at h
 |c::ps,t::ts,r,hl,hc=>by
  have b:=hc c (by simp);rw[Za,agz,MU,Px b];show (Cy t (c.toNat:Int)&&Bk ts ps)=false/\_\/(Cy t (c.toNat:Int)&&Bk ts ps)=true/\_
  cases f:Cy t (c.toNat:Int) with
  |false=>exact .inl ⟨rfl,by simp⟩
  |true=>
   rw[if_pos rfl,Bool.true_and];have d:(if (Az P r (Cp c) t).i.x<0 then(5:Int) else 5)=5:=by split<;>rfl
   rw[d];exact SR ps ts _ (by simpa using hl) (λa e=>hc a (by simp[e]))
theorem SQ (h:Fo N (Ao P)):∀(ps:Tx) (ts:List Tx) (r:RI),ts.length=ps.length->(∀c,c∈ps->c∈Fj)->0<=r.i.x->(Bk ts ps=false/\Fw P r 0 ((ps.map Cp).zip ts)=none)\/(Bk ts ps=true/\((Ch N r.i (AT ps ts)=none/\∃r',Fw P r 0 ((ps.map Cp).zip ts)=some (r',5))\/∃r',Ch N r.i (AT ps ts)=some r'.i/\Fw P r 0 ((ps.map Cp).zip ts)=some (r',0)/\0<=r'.i.x/\r'.line=r.line/\r'.i.op=r.i.op/\r'.word=Mn r.word ((ps.map Cp).zip ts)))
 |[],[],r,_,_,hx=>.inr ⟨rfl,.inr ⟨r,rfl,rfl,hx,rfl,rfl,rfl⟩⟩
 |[],_::_,_,h,_,_=>by simp at h
 |_::_,[],_,h,_,_=>by simp at h
 |c::ps,t::ts,r,hl,hc,hx=>by
  have f:=hc c (by simp);have j:ts.length=ps.length:=by simpa using hl
  have k:∀d,d∈ps->d∈Fj:=λd z=>hc d (by simp[z]);have v:AT (c::ps) (t::ts)=((c.toNat:Int),t)::AT ps ts:=rfl;rw[Za,agz,MU,Px f,v];show (Cy t (c.toNat:Int)&&Bk ts ps)=false/\_\/(Cy t (c.toNat:Int)&&Bk ts ps)=true/\_
  cases B:Cy t (c.toNat:Int) with
  |false=>exact .inl ⟨rfl,by simp⟩
  |true=>
   rw[if_pos rfl,Bool.true_and];have l:∀o,Ds N r.i ((c.toNat:Int),t)=o->Ch N r.i (((c.toNat:Int),t)::AT ps ts)=match o with|some i'=>Ch N i' (AT ps ts)|none=>none:=λo n=>by
    conv=>lhs;unfold Ch
    rw[n]
    cases o<;>rfl
   rcases VE h f r hx t with⟨e,g⟩|⟨e,g⟩
   ·rw[if_pos g,l _ e]
    rcases SR (P:=P) ps ts (Az P r (Cp c) t) j k with⟨b,a⟩|⟨b,a⟩
    ·exact .inl ⟨b,a⟩
    ·exact .inr ⟨b,.inl ⟨rfl,a⟩⟩
   ·rw[if_neg (by omega),l _ e];obtain⟨q,s,y⟩:=Wb (P:=P) r f t
    rcases SQ h ps ts (Az P r (Cp c) t) j k g with⟨b,a⟩|⟨b,a|⟨r',a,u,A,w,m,p⟩⟩
    ·exact .inl ⟨b,a⟩
    ·exact .inr ⟨b,.inl a⟩
    ·refine .inr ⟨b,.inr ⟨r',a,u,A,w.trans s,m.trans y,?_⟩⟩;rw[p,q];rfl
end
theorem Se {l:List Tx} (h:l.length=2):∃a b,l=[a,b]:=by
 rcases l with _|⟨a,_|⟨b,_|⟨c,l⟩⟩⟩
 ·simp at h
 ·simp at h
 ·exact⟨a,b,rfl⟩
 ·simp at h
theorem Sd {l:List Tx} (h:l.length=3):∃a b c,l=[a,b,c]:=by
 rcases l with _|⟨a,_|⟨b,_|⟨c,_|⟨d,l⟩⟩⟩⟩
 ·simp at h
 ·simp at h
 ·simp at h
 ·exact⟨a,b,c,rfl⟩
 ·simp at h
theorem abb {f:Tx} {p:Tx×Tx} (j:p∈Bd) (l:f=p.1) (e:Df f=some p.2) {ts:List Tx} (d:ts.length=p.2.length) {r:RI} (k:r.i.op=f) (h:r.word=Mn [] ((p.2.map Cp).zip ts)):ER (AT p.2 ts)=IN r:=by
 have g:AJ r.i.op=p.2.map Cp:=by rw[k];unfold AJ;rw[e]
 unfold IN;rw[g,h];clear h g k e l;simp only[Bd,List.mem_cons,List.not_mem_nil,or_false] at j
 rcases j with rfl|rfl|rfl|rfl|rfl|rfl|rfl|rfl|rfl|rfl|rfl|rfl|rfl|rfl|rfl|rfl|rfl<;>
  (first
    |(obtain rfl:=List.length_eq_zero_iff.1 d;rfl)
    |(obtain⟨a,rfl⟩:=List.length_eq_one_iff.1 d;rfl)
    |(obtain⟨a,b,rfl⟩:=Se d;rfl)
    |(obtain⟨a,b,c,rfl⟩:=Sd d;rfl))
section
variable {P P':RP} {s:PS} {f:Tx} {ts:List Tx} {e:Int}
theorem aaM (h:PL P s) {k:Nat} {th:AE} {line:Int} (x:0<line) (z:P.thr.length=k+1) (t:P.thr[k]?=some th) (a:FG P k th line f ts e P'):GY (ES line f ts s (CD th)) e P':=by
 have u:=XA t;unfold FG at a;unfold ES
 rcases Jm f with⟨p,o,A,j⟩|⟨v,-⟩
 ·rw[j];have w:AJ f=p.2.map Cp:=by unfold AJ;rw[j]
  show GY (if Bk ts p.2=false then _ else _) e P'
  by_cases c:ts.length=p.2.length
  ·have d:DZ P line f ts=Fw P (Hi f line) 0 ((p.2.map Cp).zip ts):=by
    unfold DZ;rw[w,if_neg (by simp[j,c])]
   rw[d] at a
   rcases SQ h.N p.2 ts (Hi f line) c (KR o) (Int.le_refl _) with⟨l,b⟩|⟨l,b⟩
   ·rw[b] at a;have a:e=2:=a;exact .inl ⟨by rw[a];decide,by rw[if_pos l,a]⟩
   ·rw[if_neg (by rw[l];simp)];have B:(CD th).code.length=th.code.length:=by simp[CD]
    rw[B];have H:=h.code th u
    rcases b with⟨b,r',m⟩|⟨r',b,m,G,g,y,C⟩
    ·rw[m] at a;have a:((5:Int)=2/\e=2)\/((5:Int)≠2/\((th.code.length=24/\e=4)\/(th.code.length≠24/\e=5/\P'={P with thr:=P.thr.set k {th with code:=th.code++[r']}}))):=a
     rcases a with⟨q,_⟩|⟨_,a⟩
     ·omega
     ·rcases a with⟨n,rfl⟩|⟨n,rfl,_⟩
      ·exact .inl ⟨by decide,by rw[if_pos (by omega)]⟩
      ·refine .inl ⟨by decide,?_⟩;rw[if_neg (by omega)];show (match Ch s.N (CE f) (AT p.2 ts) with|none=>_|some i=>_)=_;have b:Ch s.N (CE f) (AT p.2 ts)=none:=b;rw[b]
    ·rw[m] at a;have a:((0:Int)=2/\e=2)\/((0:Int)≠2/\((th.code.length=24/\e=4)\/(th.code.length≠24/\e=0/\P'={P with thr:=P.thr.set k {th with code:=th.code++[r']}}))):=a
     rcases a with⟨q,_⟩|⟨_,a⟩
     ·omega
     ·rcases a with⟨n,rfl⟩|⟨n,rfl,rfl⟩
      ·exact .inl ⟨by decide,by rw[if_pos (by omega)]⟩
      ·right;have b:Ch s.N (CE f) (AT p.2 ts)=some r'.i:=b;refine⟨rfl,_,by rw[if_neg (by omega),b],?_⟩;have E:=abb o A j c y C;have:=h.Qe z t (th':={th with code:=th.code++[r']}) rfl (λr D=>by
        rcases XY.1 D with q|q
        ·exact h.pos th u r q
        ·obtain rfl:=XT.1 q
         exact⟨G,by rw[g];exact x⟩) (by simp;omega)
       have F:({CD th with code:=(CD th).code++[⟨r'.i,line,ER (AT p.2 ts)⟩]}:PB)=CD {th with code:=th.code++[r']}:=by
        unfold CD;have g:r'.line=line:=g;show PB.mk (th.code.map If++_) _=PB.mk ((th.code++[r']).map If) _;rw[XI,E];show PB.mk (_++[(⟨r'.i,line,IN r'⟩:PI)]) _=PB.mk (_++[(⟨r'.i,r'.line,IN r'⟩:PI)]) _;rw[g]
       rw[F];exact this
  ·have d:DZ P line f ts=none:=by
    unfold DZ;rw[w,if_pos (.inr (by simpa using c))]
   rw[d] at a;have a:e=2:=a;exact .inl ⟨by rw[a];decide,by rw[if_pos (LE c),a]⟩
 ·have d:DZ P line f ts=none:=by
   unfold DZ;rw[if_pos (.inl v)]
  rw[d] at a;have a:e=2:=a;rw[v];exact .inl ⟨by rw[a];decide,by rw[a]⟩
theorem Sj (x:Tx) (l:List (Tx×Nat)):Gf x l (-1)=match CY l x with|some n=>(n:Int)|none=>-1:=by
 rcases YX l with q|⟨c,p,q⟩
 ·subst q;rfl
 ·rw[YY] at q;have a:=Sj x c;subst q;obtain⟨y,n⟩:=p;rw[NC];unfold Gf at a |-;rw[Y0,a];unfold Be;show (if y=x then(n:Int) else _)=_
  by_cases q:y=x
  ·rw[if_pos q,if_pos q.symm]
  ·rw[if_neg q,if_neg (λb=>q b.symm)]
 termination_by l.length
 decreasing_by subst q;simp
theorem WN (h:PL P s) {th:AE} {r:RI} (m:0<=r.i.x):DE s.N (CY th.labs) r.i (IN r)=if rX P th r<0 then none else some (DD P th r).i:=by
 unfold IN
 by_cases b:AJ r.i.op=[116]
 ·have a:rX P th r=Aq (Ao P 116) r.word:=by unfold rX;rw[if_pos b];simp[Ao]
  have k:(DD P th r).i={r.i with x:=Aq (Ao P 116) r.word}:=by unfold DD RI.at;rw[a]
  rw[if_pos b,a,k];have c:FN s.N (CY th.labs) (116,r.word)=match s.N r.word with|some p=>if p.1=116 then some p.2 else none|none=>none:=rfl
  by_cases q:Aq (Ao P 116) r.word = -1
  ·rw[if_pos (by omega)];have g:FN s.N (CY th.labs) (116,r.word)=none:=by
    rw[c]
    cases f:s.N r.word with
    |none=>rfl
    |some p=>
     obtain⟨k',n⟩:=p;show (if k'=116 then _ else _)=_
     by_cases e:k'=116
     ·subst e;have:=((h.N r.word 116 n).1 f).2
      omega
     ·rw[if_neg e]
   unfold DE;rw[g]
  ·have l:=In (Ao P 116) r.word;have f:=(h.N r.word 116 (Aq (Ao P 116) r.word).toNat).2 ⟨by simp[AU],by omega⟩;have g:FN s.N (CY th.labs) (116,r.word)=some (Aq (Ao P 116) r.word).toNat:=by
    rw[c,f];show (if (116:Int)=116 then _ else _)=_;rw[if_pos rfl]
   rw[if_neg (by omega)];unfold DE;rw[g];show DE _ _ {r.i with x:=(((Aq (Ao P 116) r.word).toNat:Nat):Int)} []=_;rw[Int.toNat_of_nonneg (by omega)];rfl
 ·rw[if_neg b]
  by_cases d:IQ (AJ r.i.op)=true
  ·have a:rX P th r=match CY th.labs r.word with|some n=>(n:Int)|none=>-1:=by unfold rX;rw[if_neg b,if_pos d,Sj]
   have c:FN s.N (CY th.labs) (108,r.word)=CY th.labs r.word:=by
    show (match (CY th.labs r.word).map λn=>((108:Int),n) with|some p=>if p.1=108 then some p.2 else none|none=>none)=_
    cases CY th.labs r.word with
    |none=>rfl
    |some n=>rfl
   rw[if_pos d];unfold DE;rw[c]
   cases j:CY th.labs r.word with
   |none=>
    rw[j] at a;have a:rX P th r = -1:=a;rw[if_pos (by omega)]
   |some n=>
    rw[j] at a;have a:rX P th r=(n:Int):=a;rw[if_neg (by omega)];show DE _ _ {r.i with x:=(n:Int)} []=_;unfold DD RI.at;rw[a];rfl
  ·have a:rX P th r=r.i.x:=by unfold rX;rw[if_neg b,if_neg d]
   rw[if_neg d,a,if_neg (by omega)];unfold DD RI.at;rw[a];rfl
theorem Qx (h:PL P s) {th:AE}:∀(l:List RI),(∀r,r∈l->0<=r.i.x)->EP s.N (CY th.labs) (l.map If)=match EJ P th l with|some e=>.error e|none=>.ok (l.map λr=>(DD P th r).i)
 |[],_=>rfl
 |r::l,hr=>by
  have a:=Qx h (th:=th) l (λr' d=>hr r' (by simp[d]));have c:=WN h (th:=th) (hr r (by simp));rw[Za];unfold EP;have b:DE s.N (CY th.labs) (If r).i (If r).off=if rX P th r<0 then none else some (DD P th r).i:=c
  rw[b];unfold EJ at a |-;rw[List.find?_cons]
  by_cases q:rX P th r<0
  ·rw[if_pos q,decide_eq_true q];rfl
  ·rw[if_neg q,decide_eq_false q];show Except.map _ (EP s.N (CY th.labs) (l.map If))=_;rw[a];dsimp only
   cases (l.find? λr=>decide (rX P th r<0)) with
   |none=>rfl
   |some x=>rfl
theorem Qy (h:PL P s):∀(l:List AE),(∀th,th∈l->∀r,r∈th.code->0<=r.i.x)->DF s.N (l.map CD)=match FF P l with|some e=>.error e|none=>.ok (l.map λth=>(EB P th).code.map RI.i)
 |[],_=>rfl
 |th::l,hr=>by
  have a:=Qy h l (λth' f=>hr th' (by simp[f]));have d:=Qx h (th:=th) th.code (hr th (by simp));rw[Za];unfold DF;have c:EP s.N (CD th).labs (CD th).code=match EJ P th th.code with|some e=>.error e|none=>.ok (th.code.map λr=>(DD P th r).i):=d
  rw[c];unfold FF at a |-;rw[List.findSome?_cons]
  cases g:EJ P th th.code with
  |some e=>rfl
  |none=>
   show Except.map _ (DF s.N (l.map CD))=_;rw[a];dsimp only
   cases l.findSome? (λth=>EJ P th th.code) with
   |some e=>rfl
   |none=>
    show Except.ok _=Except.ok _
    congr 1
    rw[Za];have b:(EB P th).code.map RI.i=th.code.map λr=>(DD P th r).i:=by
     show (th.code.map (DD P th)).map RI.i=_;rw[Zy];rfl
    rw[b]
end
def EL (P:RP) (m:Nat):Prop:=∀th,th∈P.thr->th.labs.length<=m
def Ux (o:Except Int PS) (m:Nat) (e:Int) (P':RP):Prop:=(e≠0/\o = .error e)\/(e=0/\(∃s',o = .ok s'/\PL P' s')/\EL P' (m+1))
theorem GY.labs {o:Except Int PS} {m:Nat} {e:Int} {a:RP} (h:GY o e a) (c:e=0->EL a (m+1)):Ux o m e a:=by
 rcases h with h|⟨b,d⟩
 ·exact .inl h
 ·exact .inr ⟨b,d,c b⟩
theorem GV.mono {w:World} {c:Nat->RT} {base d:Nat} {R R':Int->RP->Prop} {b:Ending} {w':World} (h:GV w c base d R b w') (j:∀e a,R e a->R' e a):GV w c base d R' b w':=by
 obtain⟨e,i,a,f,l,m,k,g⟩:=h
 exact⟨e,i,a,f,l,m,k,j _ _ g⟩
section
variable {P P':RP} {f:Tx} {ts:List Tx} {e:Int} {m:Nat}
theorem Lt (h:EL P m):EL P (m+1):=λth a=>Nat.le_succ_of_le (h th a)
theorem Sh (h:EL P m) {k:Nat} {th':AE} (a:th'.labs.length<=m+1):EL {P with thr:=P.thr.set k th'} (m+1):=λth b=>by
 rcases Zt b with q|q
 ·exact Lt h th q
 ·subst q;exact a
theorem ad8 (h:EL P m) (b:Kx P f ts e P') (c:e=0):EL P' (m+1):=by
 rcases b with⟨_,q⟩|⟨_,⟨_,q⟩|⟨_,q,_⟩⟩
 ·omega
 ·omega
 ·intro th a;rw[q,Ji] at a;exact Lt h th a
theorem UZ (h:EL P m) (a:Kw P ts e P') (c:e=0):EL P' (m+1):=by
 rcases a with⟨_,q⟩|⟨_,⟨_,q⟩|⟨_,⟨_,q⟩|⟨_,_,q⟩⟩⟩
 ·omega
 ·omega
 ·omega
 ·subst q;intro th b
  rcases XY.1 b with q|q
  ·exact Lt h th q
  ·obtain rfl:=XT.1 q
   simp
theorem acb (h:EL P m) {k:Nat} {th:AE} {x:Tx} (b:P.thr[k]?=some th) (a:Oz P k th x e P') (c:e=0):EL P' (m+1):=by
 have:=h th (XA b)
 rcases a with⟨_,q⟩|⟨_,⟨_,q⟩|⟨_,_,q⟩⟩
 ·omega
 ·omega
 ·subst q;exact Sh h (by simp;omega)
theorem acD (h:EL P m) {k:Nat} {th:AE} {line:Int} (b:P.thr[k]?=some th) (a:FG P k th line f ts e P') (c:e=0):EL P' (m+1):=by
 have:=h th (XA b);unfold FG at a
 split at a
 ·omega
 ·rcases a with⟨_,q⟩|⟨_,⟨_,q⟩|⟨_,_,q⟩⟩
  ·omega
  ·omega
  ·subst q;exact Sh h (by simp;omega)
end
theorem aas {w:World} {B:Nat->RT} {base C:Nat} {P:RP} {U:RV} (h:Ak w B base C P U) {s:PS} (d:PL P s) {m:Nat} (r:EL P m) (ab:m<3500) (b l n cap:Nat) (f:Tx) (ts:List Tx) (t:ts.length+1=n) (u:CZ w B (some ⟨b,l,none⟩) (f::ts)) (T:n<=cap) (A:n<4000) (line:Int) (O:0<line) (I:f≠[]) (F:f.length<4000) :
 Calls Tryz.prog 51 #[Ab C,.slice (some ⟨b,l,none⟩) n cap,.int .i64 line] w (GV w B base C (Ux (stepT line f ts s) m)):=by
 have R:Ao P 116=P.names:=by simp[Ao]
 have af:P.thr.length<=4:=by
  have:=d.few 116 (by simp[AU]);rw[R] at this
  simpa [RP.names] using this
 have E:∀k,(P.get k).length<=4:=λk=>by
  unfold RP.get;have V:Ao P 118=P.vs:=by simp[Ao,RP.get]
  have S:Ao P 102=P.fs:=by simp[Ao,RP.get]
  have X:Ao P 109=P.ls:=by simp[Ao,RP.get]
  have J:=d.few 118 (by simp[AU]);have N:=d.few 102 (by simp[AU]);have K:=d.few 109 (by simp[AU]);rw[V] at J;rw[S] at N;rw[X] at K
  split
  ·exact J
  ·split
   ·exact N
   ·exact K
 by_cases p:f=FX
 ·refine(aan h b l n cap f ts t u (by omega) E A line p).mono ?_;intro z w' i;refine i.mono λe x a=>?_;have g:stepT line f ts s=if ts.length=1 then(Ci 116 ts s).map JA else .error 2:=by unfold stepT;rw[if_pos p]
  rw[g]
  exact(aaK d a).labs (UZ r a)
 ·have g:stepT line f ts s=match s.bod.getLast? with|none=>Ci (Di f) ts s|some b=>if BI f=true/\ts=[] then Ge f s b else ES line f ts s b:=by unfold stepT;rw[if_neg p];cases s.bod.getLast?<;>rfl
  by_cases D:P.thr.length=0
  ·have W:s.bod=[]:=by rw[d.bod,List.eq_nil_of_length_eq_zero D];rfl
   rw[W] at g;have g:stepT line f ts s=Ci (Di f) ts s:=g;rw[g]
   cases y:Hp f with
   |true=>
    refine(aar h b l n cap f ts t u T D E A line y).mono ?_;intro z w' i;exact i.mono λe x a=>(aaN d y a).labs (ad8 r a)
   |false=>
    refine(aao h b l n cap f ts t u D line y p).mono ?_;intro z w' i;refine i.mono λe x a=>.inl ⟨by rw[a];decide,?_⟩;rw[acV y,a];unfold Ci;rw[if_pos (.inl rfl)]
  ·obtain⟨k,v⟩:∃k,P.thr.length=k+1:=⟨P.thr.length - 1,by omega⟩;obtain⟨th,j⟩:∃th,P.thr[k]?=some th:=⟨_,List.getElem?_eq_getElem (by omega)⟩;have M:=XA j;have Z:s.bod.getLast?=some (CD th):=by rw[d.bod];exact ab9 CD v j
   rw[Z] at g;have g:stepT line f ts s=if BI f=true/\ts=[] then Ge f s (CD th) else ES line f ts s (CD th):=g
   rw[g];have ac:=r th M;have ag:=d.code th M
   by_cases o:BI f=true/\ts=[]
   ·rw[if_pos o];obtain⟨o,rfl⟩:=o;have G:f=f.dropLast++[58]:=by
     have H:f.getLast?=some 58:=by simpa [BI] using o
     rcases YX f with q|⟨f0,c,q⟩
     ·exact absurd q I
     ·rw[YY] at q;subst q
      simp at H
      simp[H]
    have Q:n=1:=by simp at t;omega
    subst Q;refine(aap h b l cap f u k th v j (by omega) (by omega) (by omega) F line f.dropLast G p).mono ?_;intro z w' i;exact i.mono λe x a=>(aaL d v j G a).labs (acb r j a)
   ·rw[if_neg o];have Y:ts≠[]\/f.getLast?≠some 58:=by
     by_cases q:ts=[]
     ·right;intro q2;exact o ⟨by simp[BI,q2],q⟩
     ·exact .inl q
    refine(aaq h b l n cap f ts t u A (λk=>by have:=E k;omega) k th v j (by omega) (by omega) line p I F Y).mono ?_;intro z w' i;exact i.mono λe x a=>(aaM d O v j a).labs (acD r j a)
theorem aeS {P:RP} {l:List AE} {n:Int} (d:∀th,th∈l->∀r,r∈th.code->0<r.line) (h:FF P l=some n):0<n:=by
 unfold FF at h;obtain⟨th,c,a⟩:=List.exists_of_findSome?_eq_some h;unfold EJ at a
 cases b:th.code.find? (λr=>decide (rX P th r<0)) with
 |none=>rw[b] at a;cases a
 |some r=>
  rw[b] at a
  cases a
  exact d th c r (List.mem_of_find?_eq_some b)
theorem Ak.Lv {w w':World} {a:Nat->RT} {base d:Nat} {P:RP} {U:RV} (h:Ak w a base d P U) (f:∀b,a b≠.o->w'.heap[b]?=w.heap[b]?) (c:w.heap.size<=w'.heap.size):Ak w' a base d P U:=by
 have key:∀{b:Nat} {g:RT},a b=g->g≠.o->w'.heap[b]?=w.heap[b]?:=λ{b g} e i=>f b (by rw[e];exact i);refine⟨(key h.tp (by simp)).trans h.cell,λk l=>(h.rows k l).kept λb e=>⟨key e (by simp),e⟩,BA h.trow λg e=>key (h.tt g e) (by simp),h.tt,h.len,λj th p m n=>(h.ths j th p m n).kept λb e=>?_,h.tp,λb e=>⟨(h.tlt b e).1,Nat.lt_of_lt_of_le (h.tlt b e).2 c⟩,Nat.le_trans h.g3 c⟩
 rcases e with e|e
 ·exact⟨key e (by simp),rfl⟩
 ·exact⟨key e (by simp),rfl⟩
theorem UJ {l f:Tx} (h:f∈CQ l):f≠[]:=by
 unfold CQ at h;have:=(List.mem_filter.1 h).2;intro e;rw[e] at this
 simp at this
def RP.GC (P:RP) (i k:Nat) (th:AE):RP:={P with thr:=(CC (EB P) P.thr i).set i {th with code:=CC (DD P th) th.code k}}
def RP.Dy (P:RP) (i k:Nat) (th:AE) (r:RI) (v:Int):RP:={P with thr:=(CC (EB P) P.thr i).set i {th with code:=(CC (DD P th) th.code k).set k (r.at v)}}
theorem MC {α:Type} {l:List α} {i:Nat} {x:α} (h:l[i]?=some x):l.set i x=l:=by
 apply Y3
 intro m
 by_cases e:m=i
 ·subst e;rw[YJ (Xf.1 h).1,h]
 ·rw[Zk (λa=>e a.symm)]
section
variable {w w':World} {tag:Nat->RT} {base pb:Nat} {P:RP} {U:RV} {i k:Nat} {th:AE} {r:RI} {v:Int} {p:Value×Value}
theorem WM (P:RP):P.res 0=P:=rfl
theorem WR (P:RP):P.res P.thr.length={P with thr:=P.thr.map (EB P)}:=by unfold RP.res;rw[QW _ _ (Nat.le_refl _)]
theorem WX (a:P.thr[i]?=some th):P.GC i 0 th=P.res i:=by
 unfold RP.GC RP.res;rw[aaG,MC (Li _ a)]
theorem WY (a:P.thr[i]?=some th):P.GC i th.code.length th=P.res (i+1):=by
 unfold RP.GC RP.res;rw[QW _ _ (Nat.le_refl _),<-QV _ a];rfl
theorem WS (a:th.code[k]?=some r):P.GC i k th=P.Dy i k th r r.i.x:=by
 unfold RP.GC RP.Dy;have e:r.at r.i.x=r:=rfl;rw[e,MC (Li _ a)]
theorem KY (a:th.code[k]?=some r):P.Dy i k th r (rX P th r)=P.GC i (k+1) th:=by
 unfold RP.GC RP.Dy;rw[<-QV _ a];rfl
theorem GB (b:P.thr[i]?=some th):(P.Dy i k th r v).thr[i]?=some {th with code:=(CC (DD P th) th.code k).set k (r.at v)}:=by
 have a:=(Xf.1 b).1;exact YJ (by rw[Jk];exact a)
theorem IJ (b:th.code[k]?=some r):((CC (DD P th) th.code k).set k (r.at v))[k]?=some (r.at v):=by
 have a:=(Xf.1 b).1;exact YJ (by rw[Jk];exact a)
theorem aaF (P:RP) (i:Nat):(CC (EB P) P.thr i).map AE.name=P.names:=by
 unfold CC RP.names;rw[XI,Zy]
 conv=>rhs;rw[<-List.take_append_drop i P.thr,XI]
 rfl
theorem WT (a:P.thr[i]?=some th):(P.Dy i k th r v).names=P.names:=by
 rw[<-aaF P i];unfold RP.names RP.Dy;show ((CC (EB P) P.thr i).set i _).map AE.name=_;rw[List.map_set]
 apply MC
 rw[Xs,Li _ a];rfl
theorem WU:(P.Dy i k th r v).thr.length=P.thr.length:=by
 show ((CC (EB P) P.thr i).set i _).length=_;rw[Yc,Jk]
theorem MQ:(P.res i).thr.length=P.thr.length:=Jk _ _ _
theorem WQ (a:P.thr[i]?=some th):(P.res i).thr[i]?=some th:=Li _ a
theorem WV (h:Ak w tag base pb (P.Dy i k th r v) U) (c:P.thr[i]?=some th) (f:U.TV[i]?=some p) (d:th.code[k]?=some r):∃b a,p.1 = .slice (some ⟨b,0,none⟩) th.code.length a:=by
 obtain⟨b,a,e⟩:=h.aeu (GB c) f (IJ d);refine⟨b,a,e.trans ?_⟩;show Value.slice _ ((CC (DD P th) th.code k).set k (r.at v)).length _=_;rw[Yc,Jk]
theorem KZ (h:Ak w tag base pb (P.Dy i k th r v) U) (c:P.thr[i]?=some th) (e:U.TV[i]?=some p) (d:th.code[k]?=some r) {a f:Nat} (g:p.1 = .slice (some ⟨a,0,none⟩) th.code.length f) :
 w.cell? ⟨a,k*9,none⟩=some (.string (bs r.i.op))/\w.cell? ⟨a,k*9+6,none⟩=some (.int .i64 v)/\w.cell? ⟨a,k*9+7,none⟩=some (.int .i64 r.line)/\w.cell? ⟨a,k*9+8,none⟩=some (.string (bs r.word))/\w.frozen? ⟨a,k*9+6,none⟩=false:=by
 have b:p.1 = .slice (some ⟨a,0,none⟩) ({th with code:=(CC (DD P th) th.code k).set k (r.at v)}:AE).code.length f:=by
  show p.1 = .slice _ ((CC (DD P th) th.code k).set k (r.at v)).length _;rw[Yc,Jk];exact g
 exact⟨(h.Kp (GB c) e (IJ d) (q:=0) (by omega) b).1,(h.Kp (GB c) e (IJ d) (q:=6) (by omega) b).1,(h.Kp (GB c) e (IJ d) (q:=7) (by omega) b).1,(h.Kp (GB c) e (IJ d) (q:=8) (by omega) b).1,(h.Kp (GB c) e (IJ d) (q:=6) (by omega) b).2⟩
theorem KX (h:Ak w tag base pb (P.Dy i k th r v) U) (f:P.thr[i]?=some th) (j:U.TV[i]?=some p) (g:th.code[k]?=some r) {b n c:Nat} (d:p.1 = .slice (some ⟨b,0,none⟩) n c) (a:Int) :
 Ak (w.setCell ⟨b,k*9+6,none⟩ (.int .i64 a)) tag base pb (P.Dy i k th r a) U/\Ah w tag (w.setCell ⟨b,k*9+6,none⟩ (.int .i64 a)) tag:=by
 have:=h.Wf (GB f) j (IJ g) d a;refine⟨?_,this.2⟩;have e:P.Dy i k th r a={P.Dy i k th r v with thr:=(P.Dy i k th r v).thr.set i {({th with code:=(CC (DD P th) th.code k).set k (r.at v)}:AE) with code:=((CC (DD P th) th.code k).set k (r.at v)).set k ((r.at v).at a)}}:=by
  unfold RP.Dy;show RP.mk _ _ _ _=RP.mk _ _ _ (((CC (EB P) P.thr i).set i _).set i _);rw[List.set_set,List.set_set];rfl
 rw[e];exact this.1
theorem Qz (h:Ak w tag base pb (P.Dy i k th r v) U) (d:P.thr[i]?=some th) (f:U.TV[i]?=some p) {j:Nat} {l:Tx×Nat} (b:th.labs[j]?=some l):∃a c,p.2 = .slice (some ⟨a,0,none⟩) th.labs.length c/\w.cell? ⟨a,j*2,none⟩=some (.string (bs l.1))/\w.cell? ⟨a,j*2+1,none⟩=some (.int .i64 l.2):=by
 obtain⟨a,c,e⟩:=h.acd (GB d) f (l:=l) b
 exact⟨a,c,e,h.Sk (GB d) f (l:=l) b (q:=0) (by omega) e,h.Sk (GB d) f (l:=l) b (q:=1) (by omega) e⟩
end
end Go.Proofs.YtdcacoifehkioaaGreatDoor
