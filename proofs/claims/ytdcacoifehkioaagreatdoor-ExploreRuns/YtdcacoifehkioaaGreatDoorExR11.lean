import Derived.Test.YtdcacoifehkioaaGreatDoorExR10
import Derived.Test.YtdcacoifehkioaaGreatDoorExR6
open List renaming length_append->Xd,map_append->XH,mem_append->XX,mem_singleton->XR,foldl_append->ZG,eq_nil_or_concat->YW,concat_eq_append->YX,getD_eq_getElem?_getD->Xb,ext_getElem?->Y8,getElem?_map->Xp,getElem?_set_self->Yz,getElem?_eq_some_iff->Xe,getElem?_set_ne->Zm,mem_or_eq_of_mem_set->ZE,mem_of_getElem?->Xz,map_cons->YZ,zip_cons_cons->adR,map_map->Ze,length_set->Yq
set_option linter.unusedVariables false
set_option linter.unusedSimpArgs false
namespace Go.Proofs.YtdcacoifehkioaaGreatDoor
open Go.RowKit Go.Proofs.Cod
theorem DW.congr {N:Tx->Option (Int×Nat)} {G c:Int->List Tx} (h:DW N G) (d:∀k,AH k->c k=G k):DW N c:=λt k n=>by
 rw[h t k n];constructor
 ·rintro⟨a,b⟩;exact⟨a,by rw[d k a];exact b⟩
 ·rintro⟨a,b⟩;exact⟨a,by rw[d k a] at b;exact b⟩
theorem US {P:RP} {k:Int} (x:Tx):(P.put k x).thr=P.thr:=by
 unfold RP.put
 split
 ·rfl
 ·split<;>rfl
theorem Ij {k:Int}:∀(ts:List Tx) (P:RP),(P.AE k ts).thr=P.thr
 |[],P=>rfl
 |x::ts,P=>by
  show ((P.put k x).AE k ts).thr=_;rw[Ij ts,US]
theorem UT {P:RP} {k k':Int} (a:BE k) (b:BE k') (c:k'≠k) (x:Tx):(P.put k x).get k'=P.get k':=by
 rcases a with rfl|rfl|rfl<;>rcases b with rfl|rfl|rfl<;>simp_all [RP.put,RP.get]
theorem OP {k k':Int} (b:BE k) (c:BE k') (a:k'≠k):∀(ts:List Tx) (P:RP),(P.AE k ts).get k'=P.get k'
 |[],P=>rfl
 |x::ts,P=>by
  show ((P.put k x).AE k ts).get k'=_;rw[OP b c a ts,UT b c a]
theorem Iu {P:RP} {k:Int} (h:BE k):An P k=P.get k:=by rcases h with rfl|rfl|rfl<;>simp[An]
theorem Qw {k:Int} (h:AH k):BE k\/k=116:=by
 rcases h with h|h|h|h
 ·exact .inl (.inl h)
 ·exact .inl (.inr (.inl h))
 ·exact .inl (.inr (.inr h))
 ·exact .inr h
theorem UR {P:RP} {k k':Int} (a:BE k) (b:AH k') (ts:List Tx):An (P.AE k ts) k'=AM (An P) k (An P k++ts) k':=by
 rcases Qw b with h|h
 ·by_cases e:k'=k
  ·subst e;rw[BC,Iu a,Iu a,LC a]
  ·rw[BM _ e,Iu h,Iu h,OP a h e]
 ·subst h;rw[BM _ (by rcases a with rfl|rfl|rfl<;>decide)];show (P.AE k ts).names=P.names;unfold RP.names;rw[Ij]
theorem WL {f:Tx} (a:Gg f=true):Cu f=Bh f:=by
 unfold Gg at a;simp only[Bool.or_eq_true,beq_iff_eq] at a
 rcases a with (rfl|rfl)|rfl<;>decide
theorem aaG {f:Tx} (b:Gg f=false):Cu f=0:=by
 obtain⟨c,d,a⟩:=Pn b;unfold Cu;rw[if_neg (λe=>c e.symm),if_neg (λe=>d e.symm),if_neg (λe=>a e.symm)]
section
variable {P P':RP} {s:PS} {f:Tx} {ts:List Tx} {e:Int}
def FR (o:Except Int PS) (e:Int) (P':RP):Prop:=(e≠0/\o = .error e)\/(e=0/\∃s',o = .ok s'/\PL P' s')
theorem Vg (h:PL P s) (D:Gg f=true) (b:Jr P f ts e P'):FR (Bq (Cu f) ts s) e P':=by
 rw[WL D];unfold Jr at b;have c:=WM f;have n:=aae c;generalize Bh f=kd at b c n |-;have H:kd≠0:=by rcases c with rfl|rfl|rfl<;>decide
 rcases b with⟨r,rfl⟩|⟨⟨r,J⟩,b⟩
 ·left;refine⟨by decide,?_⟩;unfold Bq;rw[if_pos (.inr r)]
 ·have x:=Rt n ts (An P) s.N h.N;have C:Bq kd ts s=match AZ kd s.N (An P kd) ts with
   |none=>.error 3
   |some p=>if 4<p.2.length then .error 4 else .ok {s with N:=p.1,nms:=AM s.nms kd p.2}:=by
   unfold Bq;rw[if_neg (by simp[H,r,J]),h.nms kd n]
   cases AZ kd s.N (An P kd) ts<;>rfl
  rw[C]
  rcases b with⟨⟨i,t,o⟩,rfl⟩|⟨I,rfl,b⟩
  ·left;refine⟨by decide,?_⟩;rw[x.1 ⟨i,t,(Rg P ts i).1 o⟩]
  ·obtain⟨K,E,B⟩:=x.2 (λi t o=>I i t ((Rg P ts i).2 o));rw[E];show FR (if 4<(An P kd++ts).length then _ else _) e _;have m:∀k,AH k->(An (P.AE kd ts) k)=AM (An P) kd (An P kd++ts) k:=λk a=>UR c a ts;have l:∀k,AH k->k≠kd->(An (P.AE kd ts) k).length<=4:=λk a F=>by
    rw[m k a,BM _ F];exact h.few k a
   have y:An (P.AE kd ts) kd=An P kd++ts:=by rw[m kd n,BC]
   have v:An (P.AE kd ts) 118=(P.AE kd ts).vs:=by simp[An,RP.get]
   have w:An (P.AE kd ts) 102=(P.AE kd ts).fs:=by simp[An,RP.get]
   have z:An (P.AE kd ts) 109=(P.AE kd ts).ls:=by simp[An,RP.get]
   have d:=l 118 (by simp[AH]);have g:=l 102 (by simp[AH]);have j:=l 109 (by simp[AH]);rw[v] at d;rw[w] at g;rw[z] at j;have u:4<(P.AE kd ts).vs.length\/4<(P.AE kd ts).fs.length\/4<(P.AE kd ts).ls.length↔4<(An P kd++ts).length:=by
    rw[<-y]
    rcases c with rfl|rfl|rfl
    ·rw[v];have g:=g (by decide);have j:=j (by decide);omega
    ·rw[w];have d:=d (by decide);have j:=j (by decide);omega
    ·rw[z];have g:=g (by decide);have d:=d (by decide);omega
   rcases b with⟨A,rfl⟩|⟨A,rfl⟩
   ·left
    exact⟨by decide,by rw[if_pos (u.1 A)]⟩
   ·right;have G:¬4<(An P kd++ts).length:=λq=>by have:=u.2 q;omega
    refine⟨rfl,_,by rw[if_neg G],?_⟩;refine⟨B.congr m,λk a=>?_,?_,?_,λk a=>?_,?_⟩
    ·show AM s.nms kd (An P kd++ts) k=_;rw[m k a]
     by_cases e:k=kd
     ·subst e;rw[BC,BC]
     ·rw[BM _ e,BM _ e];exact h.nms k a
    ·rw[Ij];exact h.bod
    ·rw[Ij];exact h.pos
    ·by_cases e:k=kd
     ·subst e;rw[y];omega
     ·exact l k a e
    ·rw[Ij];exact h.code
theorem Vd (h:PL P s) (c:Jq P ts e P'):FR (if ts.length=1 then(Bq 116 ts s).map IA else .error 2) e P':=by
 have l:AH 116:=by simp[AH]
 rcases c with⟨b,rfl⟩|⟨⟨b,f⟩,c⟩
 ·left;refine⟨by decide,?_⟩
  by_cases q:ts.length=1
  ·rw[if_pos q]
   rcases b with b|b
   ·exact absurd q b
   ·match ts,q,b with
    |[t],_,b=>
     unfold Bq;rw[if_pos (by simpa using b)];rfl
  ·rw[if_neg q]
 ·rw[if_pos b]
  match ts,b,f,c with
  |[t],_,f,c=>
   have f:Ar t=true:=f;have c:(DA P t=true/\e=3)\/(DA P t=false/\((P.thr.length=4/\e=4)\/(P.thr.length≠4/\e=0/\P'={P with thr:=P.thr++[⟨t,[],[]⟩]}))):=c;have v:Bq 116 [t] s=match AZ 116 s.N (An P 116) [t] with
    |none=>.error 3
    |some p=>if 4<p.2.length then .error 4 else .ok {s with N:=p.1,nms:=AM s.nms 116 p.2}:=by
    unfold Bq;rw[if_neg (by simp[f]),h.nms 116 l]
    cases AZ 116 s.N (An P 116) [t]<;>rfl
   rw[v];have o:An P 116=P.names:=by simp[An]
   have m:(An P 116).length=P.thr.length:=by rw[o];simp[RP.names]
   have x:=h.few 116 l
   rcases c with⟨g,rfl⟩|⟨g,c⟩
   ·left;refine⟨by decide,?_⟩
    cases d:s.N t with
    |none=>exact absurd ((Mp P t).1 g) ((h.N.free t).1 d)
    |some p=>simp only[AZ,d];rfl
   ·have d:s.N t=none:=(h.N.free t).2 (λq=>by rw[(Mp P t).2 q] at g;cases g);have w:AZ 116 s.N (An P 116) [t]=some (AN s.N t (116,(An P 116).length),An P 116++[t]):=by simp[AZ,d]
    rw[w];show FR (Except.map IA (if 4<(An P 116++[t]).length then _ else _)) e _
    rcases c with⟨u,rfl⟩|⟨u,rfl,rfl⟩
    ·left;refine⟨by decide,?_⟩;rw[if_pos (by rw[Xd,m,u];simp)];rfl
    ·right;refine⟨rfl,_,by rw[if_neg (by rw[Xd,m];simp;omega)];rfl,?_⟩;have j:∀k,AH k->An {P with thr:=P.thr++[⟨t,[],[]⟩]} k=AM (An P) 116 (An P 116++[t]) k:=λk a=>by
      rcases Qw a with a|a
      ·rw[BM _ (by rcases a with rfl|rfl|rfl<;>decide),Iu a,Iu a];rfl
      ·subst a;rw[BC,o];simp[An,RP.names]
     refine⟨(h.N.put d l).congr j,λk a=>?_,?_,?_,λk a=>?_,?_⟩
     ·show AM s.nms 116 (An P 116++[t]) k=_;rw[j k a]
      by_cases e:k=116
      ·subst e;rw[BC,BC]
      ·rw[BM _ e,BM _ e];exact h.nms k a
     ·show s.bod++[_]=(P.thr++[_]).map BV;rw[h.bod,XH];rfl
     ·intro th i r n
      rcases XX.1 i with q|q
      ·exact h.pos th q r n
      ·obtain rfl:=XR.1 q
       cases n
     ·rw[j k a]
      by_cases e:k=116
      ·subst e;rw[BC,Xd,m];simp;omega
      ·rw[BM _ e];exact h.few k a
     ·intro th i
      rcases XX.1 i with q|q
      ·exact h.code th q
      ·obtain rfl:=XR.1 q
       simp
theorem Mg (l:List (Tx×Nat)) (x:Tx) (n:Nat):Cj (l++[(x,n)])=AN (Cj l) x n:=by
 funext y
 unfold Cj AN;rw[ZG];show (if x=y then some n else _)=_
 by_cases q:x=y
 ·rw[if_pos q,if_pos q.symm]
 ·rw[if_neg q,if_neg (λa=>q a.symm)]
theorem Mf (l:List (Tx×Nat)) (x:Tx):Cj l x=none↔∀i,i<l.length->(l.map Prod.fst).getD i []≠x:=by
 rcases YW l with q|⟨a,p,q⟩
 ·subst q;simp[Cj]
 ·rw[YX] at q;have g:=Mf a x;subst q;obtain⟨y,n⟩:=p;rw[Mg];have d:∀i,i<a.length->((a++[(y,n)]).map Prod.fst).getD i []=(a.map Prod.fst).getD i []:=λi c=>by
   rw[Xb,Xb,XH,List.getElem?_append_left (by simpa using c)]
  have f:((a++[(y,n)]).map Prod.fst).getD a.length []=y:=by
   rw[Xb,XH,List.getElem?_append_right (by simp)];simp
  unfold AN
  by_cases q:x=y
  ·rw[if_pos q];constructor
   ·intro b;cases b
   ·intro b;exact absurd (f.trans q.symm) (b a.length (by simp))
  ·rw[if_neg q,g];constructor
   ·intro b i c
    by_cases e:i<a.length
    ·rw[d i e];exact b i e
    ·have:i=a.length:=by simp at c;omega
     subst this;rw[f];exact λh=>q h.symm
   ·intro b i c;rw[<-d i c];exact b i (by simp;omega)
 termination_by l.length
 decreasing_by subst q;simp
theorem WE {α β:Type} (g:α->β) {l:List α} {k:Nat} (a:l.length=k+1) (x:α):(l.map g).dropLast++[g x]=(l.set k x).map g:=by
 rcases YW l with q|⟨b,p,q⟩
 ·subst q;simp at a
 ·rw[YX] at q;subst q;have:k=b.length:=by simp at a;omega
  subst this;rw[List.set_append_right _ _ (Nat.le_refl _)]
  simp
theorem WG {α β:Type} (g:α->β) {l:List α} {k:Nat} {x:α} (b:l.length=k+1) (a:l[k]?=some x):(l.map g).getLast?=some (g x):=by
 rw[List.getLast?_map,List.getLast?_eq_getElem?,b];simp[a]
theorem VQ {P:RP} {k:Nat} {th th':Az} (a:P.thr[k]?=some th) (c:th'.name=th.name):({P with thr:=P.thr.set k th'}:RP).names=P.names:=by
 unfold RP.names
 apply Y8
 intro m;rw[Xp,Xp]
 by_cases q:m=k
 ·subst q;show Option.map _ ((P.thr.set m th')[m]?)=_;rw[Yz (Xe.1 a).1,a];simp[c]
 ·show Option.map _ ((P.thr.set k th')[m]?)=_;rw[Zm (λb=>q b.symm)]
theorem PL.Oh (h:PL P s) {k:Nat} {th th':Az} (m:P.thr.length=k+1) (j:P.thr[k]?=some th) (l:th'.name=th.name) (g:∀r,r∈th'.code->0<=r.i.x/\0<r.line) (f:th'.code.length<=24):PL {P with thr:=P.thr.set k th'} (GC s (BV th')):=by
 have c:∀k',An {P with thr:=P.thr.set k th'} k'=An P k':=λk'=>by
  unfold An;rw[VQ j l];rfl
 refine⟨h.N.congr λk' _=>c k',λk' b=>by rw[c];exact h.nms k' b,?_,?_,λk' b=>by rw[c];exact h.few k' b,?_⟩
 ·show s.bod.dropLast++[BV th']=(P.thr.set k th').map BV;rw[h.bod];exact WE BV m th'
 ·intro a d r e
  rcases ZE d with q|q
  ·exact h.pos a q r e
  ·subst q;exact g r e
 ·intro a d
  rcases ZE d with q|q
  ·exact h.code a q
  ·subst q;exact f
theorem Ve (h:PL P s) {k:Nat} {th:Az} {x:Tx} (o:P.thr.length=k+1) (c:P.thr[k]?=some th) (m:f=x++[58]) (a:MX P k th x e P'):FR (EF f s (BV th)) e P':=by
 have g:f.dropLast=x:=by rw[m];simp
 unfold EF;rw[g];have d:=Xz c
 rcases a with⟨b,rfl⟩|⟨b,a⟩
 ·exact .inl ⟨by decide,by rw[if_pos b]⟩
 ·rw[if_neg (by rw[b];simp)];show FR (match Cj th.labs x with|some _=>_|none=>_) e P'
  rcases a with⟨⟨i,j,q⟩,rfl⟩|⟨p,rfl,rfl⟩
  ·left;refine⟨by decide,?_⟩
   cases r:Cj th.labs x with
   |none=>exact absurd q ((Mf _ _).1 r i j)
   |some n=>rfl
  ·right;refine⟨rfl,_,by rw[(Mf _ _).2 p],?_⟩;have:=h.Oh o c (th':={th with labs:=th.labs++[(x,th.code.length)]}) rfl (h.pos th d) (h.code th d);have l:({BV th with labs:=AN (BV th).labs x (BV th).code.length}:PB)=BV {th with labs:=th.labs++[(x,th.code.length)]}:=by
    unfold BV;show PB.mk _ (AN (Cj th.labs) x (th.code.map GE).length)=PB.mk _ (Cj (th.labs++[(x,th.code.length)]));rw[Mg,List.length_map]
   rw[l];exact this
end
def DU:List UInt8:=[114,97,98,118,102,109,116,108]
theorem Jc {c:UInt8} (h:c∈DU):c=114\/c=97\/c=98\/c=118\/c=102\/c=109\/c=116\/c=108:=by simpa [DU] using h
theorem JG {p:Tx×Tx} (h:p∈AQ):∀c,c∈p.2->c∈DU:=by
 have:∀p,p∈AQ->p.2.all (λc=>DU.contains c)=true:=by decide
 intro c a;have:=List.all_eq_true.1 (this p h) c a
 simpa using this
section
variable {P:RP} {N:Tx->Option (Int×Nat)}
theorem NK {c:UInt8} (a:c∈DU) (t:Tx):Cx (BK c) t=BR t (c.toNat:Int):=by
 rcases Jc a with rfl|rfl|rfl|rfl|rfl|rfl|rfl|rfl<;>simp[Cx,BK,BR,CV]
theorem MC (h:DW N (An P)) {k:Int} (b:AH k) (i:Ac) (t:Tx):((match N t with|some (k',n)=>if k'=k then some {i with x:=(n:Int)} else none|none=>none)=(none:Option Ac)/\Ao (An P k) t<0)\/((match N t with|some (k',n)=>if k'=k then some {i with x:=(n:Int)} else none|none=>none)=some {i with x:=Ao (An P k) t}/\0<=Ao (An P k) t):=by
 by_cases q:Ao (An P k) t = -1
 ·left;refine⟨?_,by omega⟩
  cases a:N t with
  |none=>rfl
  |some p=>
   obtain⟨k',n⟩:=p;show (if k'=k then _ else _)=_
   by_cases e:k'=k
   ·subst e;have:=((h t k' n).1 a).2
    omega
   ·rw[if_neg e]
 ·right;have c:=GP (An P k) t;refine⟨?_,by omega⟩;have a:=(h t k (Ao (An P k) t).toNat).2 ⟨b,by omega⟩;rw[a];show (if k=k then _ else _)=_;rw[if_pos rfl,Int.toNat_of_nonneg (by omega)]
theorem Tp (h:DW N (An P)) {c:UInt8} (b:c∈DU) (r:RI) (a:0<=r.i.x) (t:Tx):(CA N r.i ((c.toNat:Int),t)=none/\(As P r (BK c) t).i.x<0)\/(CA N r.i ((c.toNat:Int),t)=some (As P r (BK c) t).i/\0<=(As P r (BK c) t).i.x):=by
 rcases Jc b with rfl|rfl|rfl|rfl|rfl|rfl|rfl|rfl
 ·exact .inr ⟨rfl,a⟩
 ·exact .inr ⟨rfl,a⟩
 ·exact .inr ⟨rfl,a⟩
 ·exact MC (P:=P) h (k:=118) (by simp[AH]) r.i t
 ·exact MC (P:=P) h (k:=102) (by simp[AH]) r.i t
 ·exact MC (P:=P) h (k:=109) (by simp[AH]) r.i t
 ·exact .inr ⟨rfl,a⟩
 ·exact .inr ⟨rfl,a⟩
def KX:Tx->List (UInt8×Tx)->Tx
 |x,[]=>x
 |x,p::l=>KX (if p.1=114\/p.1=97\/p.1=98 then x else p.2) l
theorem TN (r:RI) {c:UInt8} (a:c∈DU) (t:Tx):(As P r (BK c) t).word=(if BK c=114\/BK c=97\/BK c=98 then r.word else t)/\(As P r (BK c) t).line=r.line/\(As P r (BK c) t).i.op=r.i.op:=by
 rcases Jc a with rfl|rfl|rfl|rfl|rfl|rfl|rfl|rfl<;>exact⟨rfl,rfl,rfl⟩
theorem QK:∀(ps:Tx) (ts:List Tx) (r:RI),ts.length=ps.length->(∀c,c∈ps->c∈DU)->(AV ts ps=false/\Ec P r 5 ((ps.map BK).zip ts)=none)\/(AV ts ps=true/\∃r',Ec P r 5 ((ps.map BK).zip ts)=some (r',5))
 |[],[],r,_,_=>.inr ⟨rfl,r,rfl⟩
 |[],_::_,_,h,_=>by simp at h
 |_::_,[],_,h,_=>by simp at h
 |c::ps,t::ts,r,hl,hc=>by
  have d:=hc c (by simp);rw[YZ,adR,Lz,NK d];show (BR t (c.toNat:Int)&&AV ts ps)=false/\_\/(BR t (c.toNat:Int)&&AV ts ps)=true/\_
  cases f:BR t (c.toNat:Int) with
  |false=>exact .inl ⟨rfl,by simp⟩
  |true=>
   rw[if_pos rfl,Bool.true_and];have b:(if (As P r (BK c) t).i.x<0 then(5:Int) else 5)=5:=by split<;>rfl
   rw[b];exact QK ps ts _ (by simpa using hl) (λe a=>hc e (by simp[a]))
theorem QI (h:DW N (An P)):∀(ps:Tx) (ts:List Tx) (r:RI),ts.length=ps.length->(∀c,c∈ps->c∈DU)->0<=r.i.x->(AV ts ps=false/\Ec P r 0 ((ps.map BK).zip ts)=none)\/(AV ts ps=true/\((BF N r.i (AG ps ts)=none/\∃r',Ec P r 0 ((ps.map BK).zip ts)=some (r',5))\/∃r',BF N r.i (AG ps ts)=some r'.i/\Ec P r 0 ((ps.map BK).zip ts)=some (r',0)/\0<=r'.i.x/\r'.line=r.line/\r'.i.op=r.i.op/\r'.word=KX r.word ((ps.map BK).zip ts)))
 |[],[],r,_,_,hx=>.inr ⟨rfl,.inr ⟨r,rfl,rfl,hx,rfl,rfl,rfl⟩⟩
 |[],_::_,_,h,_,_=>by simp at h
 |_::_,[],_,h,_,_=>by simp at h
 |c::ps,t::ts,r,hl,hc,hx=>by
  have f:=hc c (by simp);have l:ts.length=ps.length:=by simpa using hl
  have k:∀d,d∈ps->d∈DU:=λd u=>hc d (by simp[u]);have v:AG (c::ps) (t::ts)=((c.toNat:Int),t)::AG ps ts:=rfl;rw[YZ,adR,Lz,NK f,v];show (BR t (c.toNat:Int)&&AV ts ps)=false/\_\/(BR t (c.toNat:Int)&&AV ts ps)=true/\_
  cases B:BR t (c.toNat:Int) with
  |false=>exact .inl ⟨rfl,by simp⟩
  |true=>
   rw[if_pos rfl,Bool.true_and];have j:∀o,CA N r.i ((c.toNat:Int),t)=o->BF N r.i (((c.toNat:Int),t)::AG ps ts)=match o with|some i'=>BF N i' (AG ps ts)|none=>none:=λo A=>by
    conv=>lhs;unfold BF
    rw[A]
    cases o<;>rfl
   rcases Tp h f r hx t with⟨e,g⟩|⟨e,g⟩
   ·rw[if_pos g,j _ e]
    rcases QK (P:=P) ps ts (As P r (BK c) t) l k with⟨b,a⟩|⟨b,a⟩
    ·exact .inl ⟨b,a⟩
    ·exact .inr ⟨b,.inl ⟨rfl,a⟩⟩
   ·rw[if_neg (by omega),j _ e];obtain⟨n,m,y⟩:=TN (P:=P) r f t
    rcases QI h ps ts (As P r (BK c) t) l k g with⟨b,a⟩|⟨b,a|⟨r',a,z,w,p,q,s⟩⟩
    ·exact .inl ⟨b,a⟩
    ·exact .inr ⟨b,.inl a⟩
    ·refine .inr ⟨b,.inr ⟨r',a,z,w,p.trans m,q.trans y,?_⟩⟩;rw[s,n];rfl
end
theorem Qb {l:List Tx} (h:l.length=2):∃a b,l=[a,b]:=by
 rcases l with _|⟨a,_|⟨b,_|⟨c,l⟩⟩⟩
 ·simp at h
 ·simp at h
 ·exact⟨a,b,rfl⟩
 ·simp at h
theorem Qa {l:List Tx} (h:l.length=3):∃a b c,l=[a,b,c]:=by
 rcases l with _|⟨a,_|⟨b,_|⟨c,_|⟨d,l⟩⟩⟩⟩
 ·simp at h
 ·simp at h
 ·simp at h
 ·exact⟨a,b,c,rfl⟩
 ·simp at h
theorem VF {f:Tx} {p:Tx×Tx} (e:p∈AQ) (l:f=p.1) (h:Ct f=some p.2) {ts:List Tx} (d:ts.length=p.2.length) {r:RI} (k:r.i.op=f) (g:r.word=KX [] ((p.2.map BK).zip ts)):DH (AG p.2 ts)=Hp r:=by
 have j:AA r.i.op=p.2.map BK:=by rw[k];unfold AA;rw[h]
 unfold Hp;rw[j,g];clear g j k h l;simp only[AQ,List.mem_cons,List.not_mem_nil,or_false] at e
 rcases e with rfl|rfl|rfl|rfl|rfl|rfl|rfl|rfl|rfl|rfl|rfl|rfl|rfl|rfl|rfl|rfl|rfl<;>
  (first
    |(obtain rfl:=List.length_eq_zero_iff.1 d;rfl)
    |(obtain⟨a,rfl⟩:=List.length_eq_one_iff.1 d;rfl)
    |(obtain⟨a,b,rfl⟩:=Qb d;rfl)
    |(obtain⟨a,b,c,rfl⟩:=Qa d;rfl))
section
variable {P P':RP} {s:PS} {f:Tx} {ts:List Tx} {e:Int}
theorem Vf (h:PL P s) {k:Nat} {th:Az} {line:Int} (D:0<line) (E:P.thr.length=k+1) (w:P.thr[k]?=some th) (a:Eo P k th line f ts e P'):FR (Dn line f ts s (BV th)) e P':=by
 have t:=Xz w;unfold Eo at a;unfold Dn
 rcases In f with⟨p,v,A,g⟩|⟨u,-⟩
 ·rw[g];have o:AA f=p.2.map BK:=by unfold AA;rw[g]
  show FR (if AV ts p.2=false then _ else _) e P'
  by_cases c:ts.length=p.2.length
  ·have d:Db P line f ts=Ec P (Gc f line) 0 ((p.2.map BK).zip ts):=by
    unfold Db;rw[o,if_neg (by simp[g,c])]
   rw[d] at a
   rcases QI h.N p.2 ts (Gc f line) c (JG v) (Int.le_refl _) with⟨l,b⟩|⟨l,b⟩
   ·rw[b] at a;have a:e=2:=a;exact .inl ⟨by rw[a];decide,by rw[if_pos l,a]⟩
   ·rw[if_neg (by rw[l];simp)];have x:(BV th).code.length=th.code.length:=by simp[BV]
    rw[x];have H:=h.code th t
    rcases b with⟨b,r',n⟩|⟨r',b,n,F,j,B,C⟩
    ·rw[n] at a;have a:((5:Int)=2/\e=2)\/((5:Int)≠2/\((th.code.length=24/\e=4)\/(th.code.length≠24/\e=5/\P'={P with thr:=P.thr.set k {th with code:=th.code++[r']}}))):=a
     rcases a with⟨q,_⟩|⟨_,a⟩
     ·omega
     ·rcases a with⟨m,rfl⟩|⟨m,rfl,_⟩
      ·exact .inl ⟨by decide,by rw[if_pos (by omega)]⟩
      ·refine .inl ⟨by decide,?_⟩;rw[if_neg (by omega)];show (match BF s.N (BX f) (AG p.2 ts) with|none=>_|some i=>_)=_;have b:BF s.N (BX f) (AG p.2 ts)=none:=b;rw[b]
    ·rw[n] at a;have a:((0:Int)=2/\e=2)\/((0:Int)≠2/\((th.code.length=24/\e=4)\/(th.code.length≠24/\e=0/\P'={P with thr:=P.thr.set k {th with code:=th.code++[r']}}))):=a
     rcases a with⟨q,_⟩|⟨_,a⟩
     ·omega
     ·rcases a with⟨m,rfl⟩|⟨m,rfl,rfl⟩
      ·exact .inl ⟨by decide,by rw[if_pos (by omega)]⟩
      ·right;have b:BF s.N (BX f) (AG p.2 ts)=some r'.i:=b;refine⟨rfl,_,by rw[if_neg (by omega),b],?_⟩;have G:=VF v A g c B C;have:=h.Oh E w (th':={th with code:=th.code++[r']}) rfl (λr y=>by
        rcases XX.1 y with q|q
        ·exact h.pos th t r q
        ·obtain rfl:=XR.1 q
         exact⟨F,by rw[j];exact D⟩) (by simp;omega)
       have z:({BV th with code:=(BV th).code++[⟨r'.i,line,DH (AG p.2 ts)⟩]}:PB)=BV {th with code:=th.code++[r']}:=by
        unfold BV;have j:r'.line=line:=j;show PB.mk (th.code.map GE++_) _=PB.mk ((th.code++[r']).map GE) _;rw[XH,G];show PB.mk (_++[(⟨r'.i,line,Hp r'⟩:PI)]) _=PB.mk (_++[(⟨r'.i,r'.line,Hp r'⟩:PI)]) _;rw[j]
       rw[z];exact this
  ·have d:Db P line f ts=none:=by
    unfold Db;rw[o,if_pos (.inr (by simpa using c))]
   rw[d] at a;have a:e=2:=a;exact .inl ⟨by rw[a];decide,by rw[if_pos (Kn c),a]⟩
 ·have d:Db P line f ts=none:=by
   unfold Db;rw[if_pos (.inl u)]
  rw[d] at a;have a:e=2:=a;rw[u];exact .inl ⟨by rw[a];decide,by rw[a]⟩
theorem Qg (x:Tx) (l:List (Tx×Nat)):EX x l (-1)=match Cj l x with|some n=>(n:Int)|none=>-1:=by
 rcases YW l with q|⟨c,p,q⟩
 ·subst q;rfl
 ·rw[YX] at q;have a:=Qg x c;subst q;obtain⟨y,n⟩:=p;rw[Mg];unfold EX at a |-;rw[ZG,a];unfold AN;show (if y=x then(n:Int) else _)=_
  by_cases q:y=x
  ·rw[if_pos q,if_pos q.symm]
  ·rw[if_neg q,if_neg (λb=>q b.symm)]
 termination_by l.length
 decreasing_by subst q;simp
theorem Ug (h:PL P s) {th:Az} {r:RI} (l:0<=r.i.x):CI s.N (Cj th.labs) r.i (Hp r)=if rX P th r<0 then none else some (CH P th r).i:=by
 unfold Hp
 by_cases b:AA r.i.op=[116]
 ·have a:rX P th r=Ao (An P 116) r.word:=by unfold rX;rw[if_pos b];simp[An]
  have k:(CH P th r).i={r.i with x:=Ao (An P 116) r.word}:=by unfold CH RI.at;rw[a]
  rw[if_pos b,a,k];have d:EG s.N (Cj th.labs) (116,r.word)=match s.N r.word with|some p=>if p.1=116 then some p.2 else none|none=>none:=rfl
  by_cases q:Ao (An P 116) r.word = -1
  ·rw[if_pos (by omega)];have g:EG s.N (Cj th.labs) (116,r.word)=none:=by
    rw[d]
    cases f:s.N r.word with
    |none=>rfl
    |some p=>
     obtain⟨k',n⟩:=p;show (if k'=116 then _ else _)=_
     by_cases e:k'=116
     ·subst e;have:=((h.N r.word 116 n).1 f).2
      omega
     ·rw[if_neg e]
   unfold CI;rw[g]
  ·have m:=GP (An P 116) r.word;have f:=(h.N r.word 116 (Ao (An P 116) r.word).toNat).2 ⟨by simp[AH],by omega⟩;have g:EG s.N (Cj th.labs) (116,r.word)=some (Ao (An P 116) r.word).toNat:=by
    rw[d,f];show (if (116:Int)=116 then _ else _)=_;rw[if_pos rfl]
   rw[if_neg (by omega)];unfold CI;rw[g];show CI _ _ {r.i with x:=(((Ao (An P 116) r.word).toNat:Nat):Int)} []=_;rw[Int.toNat_of_nonneg (by omega)];rfl
 ·rw[if_neg b]
  by_cases c:Ht (AA r.i.op)=true
  ·have a:rX P th r=match Cj th.labs r.word with|some n=>(n:Int)|none=>-1:=by unfold rX;rw[if_neg b,if_pos c,Qg]
   have d:EG s.N (Cj th.labs) (108,r.word)=Cj th.labs r.word:=by
    show (match (Cj th.labs r.word).map λn=>((108:Int),n) with|some p=>if p.1=108 then some p.2 else none|none=>none)=_
    cases Cj th.labs r.word with
    |none=>rfl
    |some n=>rfl
   rw[if_pos c];unfold CI;rw[d]
   cases j:Cj th.labs r.word with
   |none=>
    rw[j] at a;have a:rX P th r = -1:=a;rw[if_pos (by omega)]
   |some n=>
    rw[j] at a;have a:rX P th r=(n:Int):=a;rw[if_neg (by omega)];show CI _ _ {r.i with x:=(n:Int)} []=_;unfold CH RI.at;rw[a];rfl
  ·have a:rX P th r=r.i.x:=by unfold rX;rw[if_neg b,if_neg c]
   rw[if_neg c,a,if_neg (by omega)];unfold CH RI.at;rw[a];rfl
theorem Oy (h:PL P s) {th:Az}:∀(l:List RI),(∀r,r∈l->0<=r.i.x)->DG s.N (Cj th.labs) (l.map GE)=match DC P th l with|some e=>.error e|none=>.ok (l.map λr=>(CH P th r).i)
 |[],_=>rfl
 |r::l,hr=>by
  have a:=Oy h (th:=th) l (λr' b=>hr r' (by simp[b]));have d:=Ug h (th:=th) (hr r (by simp));rw[YZ];unfold DG;have c:CI s.N (Cj th.labs) (GE r).i (GE r).off=if rX P th r<0 then none else some (CH P th r).i:=d
  rw[c];unfold DC at a |-;rw[List.find?_cons]
  by_cases q:rX P th r<0
  ·rw[if_pos q,decide_eq_true q];rfl
  ·rw[if_neg q,decide_eq_false q];show Except.map _ (DG s.N (Cj th.labs) (l.map GE))=_;rw[a];dsimp only
   cases (l.find? λr=>decide (rX P th r<0)) with
   |none=>rfl
   |some x=>rfl
theorem Oz (h:PL P s):∀(l:List Az),(∀th,th∈l->∀r,r∈th.code->0<=r.i.x)->CJ s.N (l.map BV)=match Em P l with|some e=>.error e|none=>.ok (l.map λth=>(Dw P th).code.map RI.i)
 |[],_=>rfl
 |th::l,hr=>by
  have a:=Oz h l (λth' b=>hr th' (by simp[b]));have f:=Oy h (th:=th) th.code (hr th (by simp));rw[YZ];unfold CJ;have c:DG s.N (BV th).labs (BV th).code=match DC P th th.code with|some e=>.error e|none=>.ok (th.code.map λr=>(CH P th r).i):=f
  rw[c];unfold Em at a |-;rw[List.findSome?_cons]
  cases g:DC P th th.code with
  |some e=>rfl
  |none=>
   show Except.map _ (CJ s.N (l.map BV))=_;rw[a];dsimp only
   cases l.findSome? (λth=>DC P th th.code) with
   |some e=>rfl
   |none=>
    show Except.ok _=Except.ok _
    congr 1
    rw[YZ];have d:(Dw P th).code.map RI.i=th.code.map λr=>(CH P th r).i:=by
     show (th.code.map (CH P th)).map RI.i=_;rw[Ze];rfl
    rw[d]
end
def DE (P:RP) (m:Nat):Prop:=∀th,th∈P.thr->th.labs.length<=m
def Sn (o:Except Int PS) (m:Nat) (e:Int) (P':RP):Prop:=(e≠0/\o = .error e)\/(e=0/\(∃s',o = .ok s'/\PL P' s')/\DE P' (m+1))
theorem FR.labs {o:Except Int PS} {m:Nat} {e:Int} {a:RP} (h:FR o e a) (d:e=0->DE a (m+1)):Sn o m e a:=by
 rcases h with h|⟨b,c⟩
 ·exact .inl h
 ·exact .inr ⟨b,c,d b⟩
theorem FN.mono {w:World} {c:Nat->RT} {base b:Nat} {R R':Int->RP->Prop} {d:Ending} {w':World} (h:FN w c base b R d w') (f:∀e a,R e a->R' e a):FN w c base b R' d w':=by
 obtain⟨e,l,a,i,k,m,g,j⟩:=h
 exact⟨e,l,a,i,k,m,g,f _ _ j⟩
section
variable {P P':RP} {f:Tx} {ts:List Tx} {e:Int} {m:Nat}
theorem Ke (h:DE P m):DE P (m+1):=λth a=>Nat.le_succ_of_le (h th a)
theorem Qe (h:DE P m) {k:Nat} {th':Az} (b:th'.labs.length<=m+1):DE {P with thr:=P.thr.set k th'} (m+1):=λth a=>by
 rcases ZE a with q|q
 ·exact Ke h th q
 ·subst q;exact b
theorem abG (h:DE P m) (b:Jr P f ts e P') (c:e=0):DE P' (m+1):=by
 rcases b with⟨_,q⟩|⟨_,⟨_,q⟩|⟨_,q,_⟩⟩
 ·omega
 ·omega
 ·intro th a;rw[q,Ij] at a;exact Ke h th a
theorem SR (h:DE P m) (a:Jq P ts e P') (c:e=0):DE P' (m+1):=by
 rcases a with⟨_,q⟩|⟨_,⟨_,q⟩|⟨_,⟨_,q⟩|⟨_,_,q⟩⟩⟩
 ·omega
 ·omega
 ·omega
 ·subst q;intro th b
  rcases XX.1 b with q|q
  ·exact Ke h th q
  ·obtain rfl:=XR.1 q
   simp
theorem WJ (h:DE P m) {k:Nat} {th:Az} {x:Tx} (b:P.thr[k]?=some th) (a:MX P k th x e P') (c:e=0):DE P' (m+1):=by
 have:=h th (Xz b)
 rcases a with⟨_,q⟩|⟨_,⟨_,q⟩|⟨_,_,q⟩⟩
 ·omega
 ·omega
 ·subst q;exact Qe h (by simp;omega)
theorem aao (h:DE P m) {k:Nat} {th:Az} {line:Int} (b:P.thr[k]?=some th) (a:Eo P k th line f ts e P') (c:e=0):DE P' (m+1):=by
 have:=h th (Xz b);unfold Eo at a
 split at a
 ·omega
 ·rcases a with⟨_,q⟩|⟨_,⟨_,q⟩|⟨_,_,q⟩⟩
  ·omega
  ·omega
  ·subst q;exact Qe h (by simp;omega)
end
theorem UM {w:World} {A:Nat->RT} {base E:Nat} {P:RP} {U:RV} (h:Ah w A base E P U) {s:PS} (d:PL P s) {m:Nat} (t:DE P m) (ab:m<3500) (b l n cap:Nat) (f:Tx) (ts:List Tx) (u:ts.length+1=n) (r:Cm w A (some ⟨b,l,none⟩) (f::ts)) (Y:n<=cap) (C:n<4000) (line:Int) (V:0<line) (N:f≠[]) (K:f.length<4000) :
 Calls Tryz.prog 51 #[Ab E,.slice (some ⟨b,l,none⟩) n cap,.int .i64 line] w (FN w A base E (Sn (stepT line f ts s) m)):=by
 have X:An P 116=P.names:=by simp[An]
 have ae:P.thr.length<=4:=by
  have:=d.few 116 (by simp[AH]);rw[X] at this
  simpa [RP.names] using this
 have B:∀k,(P.get k).length<=4:=λk=>by
  unfold RP.get;have S:An P 118=P.vs:=by simp[An,RP.get]
  have W:An P 102=P.fs:=by simp[An,RP.get]
  have g3:An P 109=P.ls:=by simp[An,RP.get]
  have H:=d.few 118 (by simp[AH]);have J:=d.few 102 (by simp[AH]);have F:=d.few 109 (by simp[AH]);rw[S] at H;rw[W] at J;rw[g3] at F
  split
  ·exact H
  ·split
   ·exact J
   ·exact F
 by_cases p:f=ES
 ·refine(UH h b l n cap f ts u r (by omega) B C line p).mono ?_;intro x w' i;refine i.mono λe y a=>?_;have g:stepT line f ts s=if ts.length=1 then(Bq 116 ts s).map IA else .error 2:=by unfold stepT;rw[if_pos p]
  rw[g]
  exact(Vd d a).labs (SR t a)
 ·have g:stepT line f ts s=match s.bod.getLast? with|none=>Bq (Cu f) ts s|some b=>if Bn f=true/\ts=[] then EF f s b else Dn line f ts s b:=by unfold stepT;rw[if_neg p];cases s.bod.getLast?<;>rfl
  by_cases D:P.thr.length=0
  ·have T:s.bod=[]:=by rw[d.bod,List.eq_nil_of_length_eq_zero D];rfl
   rw[T] at g;have g:stepT line f ts s=Bq (Cu f) ts s:=g;rw[g]
   cases z:Gg f with
   |true=>
    refine(UL h b l n cap f ts u r Y D B C line z).mono ?_;intro x w' i;exact i.mono λe y a=>(Vg d z a).labs (abG t a)
   |false=>
    refine(UI h b l n cap f ts u r D line z p).mono ?_;intro x w' i;refine i.mono λe y a=>.inl ⟨by rw[a];decide,?_⟩;rw[aaG z,a];unfold Bq;rw[if_pos (.inl rfl)]
  ·obtain⟨k,v⟩:∃k,P.thr.length=k+1:=⟨P.thr.length - 1,by omega⟩;obtain⟨th,j⟩:∃th,P.thr[k]?=some th:=⟨_,List.getElem?_eq_getElem (by omega)⟩;have G:=Xz j;have Z:s.bod.getLast?=some (BV th):=by rw[d.bod];exact WG BV v j
   rw[Z] at g;have g:stepT line f ts s=if Bn f=true/\ts=[] then EF f s (BV th) else Dn line f ts s (BV th):=g
   rw[g];have ac:=t th G;have af:=d.code th G
   by_cases o:Bn f=true/\ts=[]
   ·rw[if_pos o];obtain⟨o,rfl⟩:=o;have M:f=f.dropLast++[58]:=by
     have I:f.getLast?=some 58:=by simpa [Bn] using o
     rcases YW f with q|⟨f0,c,q⟩
     ·exact absurd q N
     ·rw[YX] at q;subst q
      simp at I
      simp[I]
    have O:n=1:=by simp at u;omega
    subst O;refine(UJ h b l cap f r k th v j (by omega) (by omega) (by omega) K line f.dropLast M p).mono ?_;intro x w' i;exact i.mono λe y a=>(Ve d v j M a).labs (WJ t j a)
   ·rw[if_neg o];have R:ts≠[]\/f.getLast?≠some 58:=by
     by_cases q:ts=[]
     ·right;intro Q;exact o ⟨by simp[Bn,Q],q⟩
     ·exact .inl q
    refine(UK h b l n cap f ts u r C (λk=>by have:=B k;omega) k th v j (by omega) (by omega) line p N K R).mono ?_;intro x w' i;exact i.mono λe y a=>(Vf d V v j a).labs (aao t j a)
theorem acs {P:RP} {l:List Az} {n:Int} (c:∀th,th∈l->∀r,r∈th.code->0<r.line) (h:Em P l=some n):0<n:=by
 unfold Em at h;obtain⟨th,d,a⟩:=List.exists_of_findSome?_eq_some h;unfold DC at a
 cases b:th.code.find? (λr=>decide (rX P th r<0)) with
 |none=>rw[b] at a;cases a
 |some r=>
  rw[b] at a
  cases a
  exact c th d r (List.mem_of_find?_eq_some b)
theorem Ah.Kg {w w':World} {a:Nat->RT} {base d:Nat} {P:RP} {U:RV} (h:Ah w a base d P U) (l:∀b,a b≠.o->w'.heap[b]?=w.heap[b]?) (c:w.heap.size<=w'.heap.size):Ah w' a base d P U:=by
 have key:∀{b:Nat} {g:RT},a b=g->g≠.o->w'.heap[b]?=w.heap[b]?:=λ{b g} e i=>l b (by rw[e];exact i);refine⟨(key h.tp (by simp)).trans h.cell,λk f=>(h.rows k f).kept λb e=>⟨key e (by simp),e⟩,Bg h.trow λg e=>key (h.tt g e) (by simp),h.tt,h.len,λj th p m n=>(h.ths j th p m n).kept λb e=>?_,h.tp,λb e=>⟨(h.tlt b e).1,Nat.lt_of_lt_of_le (h.tlt b e).2 c⟩,Nat.le_trans h.g3 c⟩
 rcases e with e|e
 ·exact⟨key e (by simp),rfl⟩
 ·exact⟨key e (by simp),rfl⟩
theorem SD {l f:Tx} (h:f∈Cf l):f≠[]:=by
 unfold Cf at h;have:=(List.mem_filter.1 h).2;intro e;rw[e] at this
 simp at this
def RP.Fz (P:RP) (i k:Nat) (th:Az):RP:={P with thr:=(BU (Dw P) P.thr i).set i {th with code:=BU (CH P th) th.code k}}
def RP.CC (P:RP) (i k:Nat) (th:Az) (r:RI) (v:Int):RP:={P with thr:=(BU (Dw P) P.thr i).set i {th with code:=(BU (CH P th) th.code k).set k (r.at v)}}
theorem Lj {α:Type} {l:List α} {i:Nat} {x:α} (h:l[i]?=some x):l.set i x=l:=by
 apply Y8
 intro m
 by_cases e:m=i
 ·subst e;rw[Yz (Xe.1 h).1,h]
 ·rw[Zm (λa=>e a.symm)]
section
variable {w w':World} {tag:Nat->RT} {base pb:Nat} {P:RP} {U:RV} {i k:Nat} {th:Az} {r:RI} {v:Int} {p:Value×Value}
theorem Uf (P:RP):P.res 0=P:=rfl
theorem Uj (P:RP):P.res P.thr.length={P with thr:=P.thr.map (Dw P)}:=by unfold RP.res;rw[OT _ _ (Nat.le_refl _)]
theorem Up (a:P.thr[i]?=some th):P.Fz i 0 th=P.res i:=by
 unfold RP.Fz RP.res;rw[Va,Lj (JS _ a)]
theorem Uq (a:P.thr[i]?=some th):P.Fz i th.code.length th=P.res (i+1):=by
 unfold RP.Fz RP.res;rw[OT _ _ (Nat.le_refl _),<-OS _ a];rfl
theorem Uk (a:th.code[k]?=some r):P.Fz i k th=P.CC i k th r r.i.x:=by
 unfold RP.Fz RP.CC;have e:r.at r.i.x=r:=rfl;rw[e,Lj (JS _ a)]
theorem JJ (a:th.code[k]?=some r):P.CC i k th r (rX P th r)=P.Fz i (k+1) th:=by
 unfold RP.Fz RP.CC;rw[<-OS _ a];rfl
theorem Fy (a:P.thr[i]?=some th):(P.CC i k th r v).thr[i]?=some {th with code:=(BU (CH P th) th.code k).set k (r.at v)}:=by
 have b:=(Xe.1 a).1;exact Yz (by rw[Il];exact b)
theorem Hk (a:th.code[k]?=some r):((BU (CH P th) th.code k).set k (r.at v))[k]?=some (r.at v):=by
 have b:=(Xe.1 a).1;exact Yz (by rw[Il];exact b)
theorem UZ (P:RP) (i:Nat):(BU (Dw P) P.thr i).map Az.name=P.names:=by
 unfold BU RP.names;rw[XH,Ze]
 conv=>rhs;rw[<-List.take_append_drop i P.thr,XH]
 rfl
theorem Ul (a:P.thr[i]?=some th):(P.CC i k th r v).names=P.names:=by
 rw[<-UZ P i];unfold RP.names RP.CC;show ((BU (Dw P) P.thr i).set i _).map Az.name=_;rw[List.map_set]
 apply Lj
 rw[Xp,JS _ a];rfl
theorem Um:(P.CC i k th r v).thr.length=P.thr.length:=by
 show ((BU (Dw P) P.thr i).set i _).length=_;rw[Yq,Il]
theorem Lv:(P.res i).thr.length=P.thr.length:=Il _ _ _
theorem Ui (a:P.thr[i]?=some th):(P.res i).thr[i]?=some th:=JS _ a
theorem Un (h:Ah w tag base pb (P.CC i k th r v) U) (d:P.thr[i]?=some th) (c:U.TV[i]?=some p) (f:th.code[k]?=some r):∃a b,p.1 = .slice (some ⟨a,0,none⟩) th.code.length b:=by
 obtain⟨a,b,e⟩:=h.ab2 (Fy d) c (Hk f);refine⟨a,b,e.trans ?_⟩;show Value.slice _ ((BU (CH P th) th.code k).set k (r.at v)).length _=_;rw[Yq,Il]
theorem JK (h:Ah w tag base pb (P.CC i k th r v) U) (d:P.thr[i]?=some th) (b:U.TV[i]?=some p) (e:th.code[k]?=some r) {a f:Nat} (g:p.1 = .slice (some ⟨a,0,none⟩) th.code.length f) :
 w.cell? ⟨a,k*9,none⟩=some (.string (bs r.i.op))/\w.cell? ⟨a,k*9+6,none⟩=some (.int .i64 v)/\w.cell? ⟨a,k*9+7,none⟩=some (.int .i64 r.line)/\w.cell? ⟨a,k*9+8,none⟩=some (.string (bs r.word))/\w.frozen? ⟨a,k*9+6,none⟩=false:=by
 have c:p.1 = .slice (some ⟨a,0,none⟩) ({th with code:=(BU (CH P th) th.code k).set k (r.at v)}:Az).code.length f:=by
  show p.1 = .slice _ ((BU (CH P th) th.code k).set k (r.at v)).length _;rw[Yq,Il];exact g
 exact⟨(h.Jg (Fy d) b (Hk e) (q:=0) (by omega) c).1,(h.Jg (Fy d) b (Hk e) (q:=6) (by omega) c).1,(h.Jg (Fy d) b (Hk e) (q:=7) (by omega) c).1,(h.Jg (Fy d) b (Hk e) (q:=8) (by omega) c).1,(h.Jg (Fy d) b (Hk e) (q:=6) (by omega) c).2⟩
theorem JI (h:Ah w tag base pb (P.CC i k th r v) U) (d:P.thr[i]?=some th) (c:U.TV[i]?=some p) (f:th.code[k]?=some r) {b n g:Nat} (j:p.1 = .slice (some ⟨b,0,none⟩) n g) (a:Int) :
 Ah (w.setCell ⟨b,k*9+6,none⟩ (.int .i64 a)) tag base pb (P.CC i k th r a) U/\Ag w tag (w.setCell ⟨b,k*9+6,none⟩ (.int .i64 a)) tag:=by
 have:=h.TR (Fy d) c (Hk f) j a;refine⟨?_,this.2⟩;have e:P.CC i k th r a={P.CC i k th r v with thr:=(P.CC i k th r v).thr.set i {({th with code:=(BU (CH P th) th.code k).set k (r.at v)}:Az) with code:=((BU (CH P th) th.code k).set k (r.at v)).set k ((r.at v).at a)}}:=by
  unfold RP.CC;show RP.mk _ _ _ _=RP.mk _ _ _ (((BU (Dw P) P.thr i).set i _).set i _);rw[List.set_set,List.set_set];rfl
 rw[e];exact this.1
theorem OA (h:Ah w tag base pb (P.CC i k th r v) U) (d:P.thr[i]?=some th) (b:U.TV[i]?=some p) {j:Nat} {l:Tx×Nat} (f:th.labs[j]?=some l):∃a c,p.2 = .slice (some ⟨a,0,none⟩) th.labs.length c/\w.cell? ⟨a,j*2,none⟩=some (.string (bs l.1))/\w.cell? ⟨a,j*2+1,none⟩=some (.int .i64 l.2):=by
 obtain⟨a,c,e⟩:=h.WK (Fy d) b (l:=l) f
 exact⟨a,c,e,h.Qh (Fy d) b (l:=l) f (q:=0) (by omega) e,h.Qh (Fy d) b (l:=l) f (q:=1) (by omega) e⟩
end
end Go.Proofs.YtdcacoifehkioaaGreatDoor
