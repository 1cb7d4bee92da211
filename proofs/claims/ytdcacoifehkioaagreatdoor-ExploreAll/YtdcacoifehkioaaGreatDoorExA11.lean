import Derived.Test.YtdcacoifehkioaaGreatDoorExA10
import Derived.Test.YtdcacoifehkioaaGreatDoorExA6
open List renaming length_append->Xb,map_append->XH,mem_append->XX,mem_singleton->XT,foldl_append->Y0,eq_nil_or_concat->YY,concat_eq_append->YZ,getD_eq_getElem?_getD->Xc,ext_getElem?->Y3,getElem?_map->Xs,getElem?_set_self->YF,getElem?_eq_some_iff->Xf,getElem?_set_ne->Zi,mem_or_eq_of_mem_set->Zq,mem_of_getElem?->Xz,map_cons->Za,zip_cons_cons->agh,map_map->Zv,length_set->Yb
set_option linter.unusedVariables false
set_option linter.unusedSimpArgs false
namespace Go.Proofs.YtdcacoifehkioaaGreatDoor
open Go.RowKit Go.Proofs.Cod
theorem Fm.congr {N:Tx->Option (Int×Nat)} {G c:Int->List Tx} (h:Fm N G) (d:∀k,AR k->c k=G k):Fm N c:=λt k n=>by
 rw[h t k n];constructor
 ·rintro⟨a,b⟩;exact⟨a,by rw[d k a];exact b⟩
 ·rintro⟨a,b⟩;exact⟨a,by rw[d k a] at b;exact b⟩
theorem aap {P:RP} {k:Int} (x:Tx):(P.put k x).thr=P.thr:=by
 unfold RP.put
 split
 ·rfl
 ·split<;>rfl
theorem Jf {k:Int}:∀(ts:List Tx) (P:RP),(P.AM k ts).thr=P.thr
 |[],P=>rfl
 |x::ts,P=>by
  show ((P.put k x).AM k ts).thr=_;rw[Jf ts,aap]
theorem aaq {P:RP} {k k':Int} (b:Cd k) (a:Cd k') (c:k'≠k) (x:Tx):(P.put k x).get k'=P.get k':=by
 rcases b with rfl|rfl|rfl<;>rcases a with rfl|rfl|rfl<;>simp_all [RP.put,RP.get]
theorem QL {k k':Int} (b:Cd k) (a:Cd k') (c:k'≠k):∀(ts:List Tx) (P:RP),(P.AM k ts).get k'=P.get k'
 |[],P=>rfl
 |x::ts,P=>by
  show ((P.put k x).AM k ts).get k'=_;rw[QL b a c ts,aaq b a c]
theorem Jr {P:RP} {k:Int} (h:Cd k):An P k=P.get k:=by rcases h with rfl|rfl|rfl<;>simp[An]
theorem Ss {k:Int} (h:AR k):Cd k\/k=116:=by
 rcases h with h|h|h|h
 ·exact .inl (.inl h)
 ·exact .inl (.inr (.inl h))
 ·exact .inl (.inr (.inr h))
 ·exact .inr h
theorem aao {P:RP} {k k':Int} (a:Cd k) (b:AR k') (ts:List Tx):An (P.AM k ts) k'=AT (An P) k (An P k++ts) k':=by
 rcases Ss b with h|h
 ·by_cases e:k'=k
  ·subst e;rw[Cj,Jr a,Jr a,MT a]
  ·rw[Cy _ e,Jr h,Jr h,QL a h e]
 ·subst h;rw[Cy _ (by rcases a with rfl|rfl|rfl<;>decide)];show (P.AM k ts).names=P.names;unfold RP.names;rw[Jf]
theorem ab4 {f:Tx} (a:Hl f=true):Di f=BB f:=by
 unfold Hl at a;simp only[Bool.or_eq_true,beq_iff_eq] at a
 rcases a with (rfl|rfl)|rfl<;>decide
theorem acP {f:Tx} (b:Hl f=false):Di f=0:=by
 obtain⟨a,d,c⟩:=Rm b;unfold Di;rw[if_neg (λe=>a e.symm),if_neg (λe=>d e.symm),if_neg (λe=>c e.symm)]
section
variable {P P':RP} {s:PS} {f:Tx} {ts:List Tx} {e:Int}
def GW (o:Except Int PS) (e:Int) (P':RP):Prop:=(e≠0/\o = .error e)\/(e=0/\∃s',o = .ok s'/\PL P' s')
theorem aaC (h:PL P s) (B:Hl f=true) (b:Kv P f ts e P'):GW (Cg (Di f) ts s) e P':=by
 rw[ab4 B];unfold Kv at b;have c:=ab5 f;have m:=acn c;generalize BB f=kd at b c m |-;have D:kd≠0:=by rcases c with rfl|rfl|rfl<;>decide
 rcases b with⟨t,rfl⟩|⟨⟨t,E⟩,b⟩
 ·left;refine⟨by decide,?_⟩;unfold Cg;rw[if_pos (.inr t)]
 ·have z:=Tr m ts (An P) s.N h.N;have J:Cg kd ts s=match BD kd s.N (An P kd) ts with
   |none=>.error 3
   |some p=>if 4<p.2.length then .error 4 else .ok {s with N:=p.1,nms:=AT s.nms kd p.2}:=by
   unfold Cg;rw[if_neg (by simp[D,t,E]),h.nms kd m]
   cases BD kd s.N (An P kd) ts<;>rfl
  rw[J]
  rcases b with⟨⟨i,r,o⟩,rfl⟩|⟨G,rfl,b⟩
  ·left;refine⟨by decide,?_⟩;rw[z.1 ⟨i,r,(Te P ts i).1 o⟩]
  ·obtain⟨K,I,F⟩:=z.2 (λi r o=>G i r ((Te P ts i).2 o));rw[I];show GW (if 4<(An P kd++ts).length then _ else _) e _;have l:∀k,AR k->(An (P.AM kd ts) k)=AT (An P) kd (An P kd++ts) k:=λk a=>aao c a ts;have n:∀k,AR k->k≠kd->(An (P.AM kd ts) k).length<=4:=λk a H=>by
    rw[l k a,Cy _ H];exact h.few k a
   have w:An (P.AM kd ts) kd=An P kd++ts:=by rw[l kd m,Cj]
   have u:An (P.AM kd ts) 118=(P.AM kd ts).vs:=by simp[An,RP.get]
   have y:An (P.AM kd ts) 102=(P.AM kd ts).fs:=by simp[An,RP.get]
   have A:An (P.AM kd ts) 109=(P.AM kd ts).ls:=by simp[An,RP.get]
   have j:=n 118 (by simp[AR]);have g:=n 102 (by simp[AR]);have d:=n 109 (by simp[AR]);rw[u] at j;rw[y] at g;rw[A] at d;have x:4<(P.AM kd ts).vs.length\/4<(P.AM kd ts).fs.length\/4<(P.AM kd ts).ls.length↔4<(An P kd++ts).length:=by
    rw[<-w]
    rcases c with rfl|rfl|rfl
    ·rw[u];have g:=g (by decide);have d:=d (by decide);omega
    ·rw[y];have j:=j (by decide);have d:=d (by decide);omega
    ·rw[A];have g:=g (by decide);have j:=j (by decide);omega
   rcases b with⟨v,rfl⟩|⟨v,rfl⟩
   ·left
    exact⟨by decide,by rw[if_pos (x.1 v)]⟩
   ·right;have C:¬4<(An P kd++ts).length:=λq=>by have:=x.2 q;omega
    refine⟨rfl,_,by rw[if_neg C],?_⟩;refine⟨F.congr l,λk a=>?_,?_,?_,λk a=>?_,?_⟩
    ·show AT s.nms kd (An P kd++ts) k=_;rw[l k a]
     by_cases e:k=kd
     ·subst e;rw[Cj,Cj]
     ·rw[Cy _ e,Cy _ e];exact h.nms k a
    ·rw[Jf];exact h.bod
    ·rw[Jf];exact h.pos
    ·by_cases e:k=kd
     ·subst e;rw[w];omega
     ·exact n k a e
    ·rw[Jf];exact h.code
theorem aaz (h:PL P s) (c:Ku P ts e P'):GW (if ts.length=1 then(Cg 116 ts s).map Jw else .error 2) e P':=by
 have l:AR 116:=by simp[AR]
 rcases c with⟨b,rfl⟩|⟨⟨b,f⟩,c⟩
 ·left;refine⟨by decide,?_⟩
  by_cases q:ts.length=1
  ·rw[if_pos q]
   rcases b with b|b
   ·exact absurd q b
   ·match ts,q,b with
    |[t],_,b=>
     unfold Cg;rw[if_pos (by simpa using b)];rfl
  ·rw[if_neg q]
 ·rw[if_pos b]
  match ts,b,f,c with
  |[t],_,f,c=>
   have f:Av t=true:=f;have c:(ED P t=true/\e=3)\/(ED P t=false/\((P.thr.length=4/\e=4)\/(P.thr.length≠4/\e=0/\P'={P with thr:=P.thr++[⟨t,[],[]⟩]}))):=c;have v:Cg 116 [t] s=match BD 116 s.N (An P 116) [t] with
    |none=>.error 3
    |some p=>if 4<p.2.length then .error 4 else .ok {s with N:=p.1,nms:=AT s.nms 116 p.2}:=by
    unfold Cg;rw[if_neg (by simp[f]),h.nms 116 l]
    cases BD 116 s.N (An P 116) [t]<;>rfl
   rw[v];have n:An P 116=P.names:=by simp[An]
   have j:(An P 116).length=P.thr.length:=by rw[n];simp[RP.names]
   have x:=h.few 116 l
   rcases c with⟨g,rfl⟩|⟨g,c⟩
   ·left;refine⟨by decide,?_⟩
    cases d:s.N t with
    |none=>exact absurd ((NF P t).1 g) ((h.N.free t).1 d)
    |some p=>simp only[BD,d];rfl
   ·have d:s.N t=none:=(h.N.free t).2 (λq=>by rw[(NF P t).2 q] at g;cases g);have w:BD 116 s.N (An P 116) [t]=some (Bc s.N t (116,(An P 116).length),An P 116++[t]):=by simp[BD,d]
    rw[w];show GW (Except.map Jw (if 4<(An P 116++[t]).length then _ else _)) e _
    rcases c with⟨o,rfl⟩|⟨o,rfl,rfl⟩
    ·left;refine⟨by decide,?_⟩;rw[if_pos (by rw[Xb,j,o];simp)];rfl
    ·right;refine⟨rfl,_,by rw[if_neg (by rw[Xb,j];simp;omega)];rfl,?_⟩;have m:∀k,AR k->An {P with thr:=P.thr++[⟨t,[],[]⟩]} k=AT (An P) 116 (An P 116++[t]) k:=λk a=>by
      rcases Ss a with a|a
      ·rw[Cy _ (by rcases a with rfl|rfl|rfl<;>decide),Jr a,Jr a];rfl
      ·subst a;rw[Cj,n];simp[An,RP.names]
     refine⟨(h.N.put d l).congr m,λk a=>?_,?_,?_,λk a=>?_,?_⟩
     ·show AT s.nms 116 (An P 116++[t]) k=_;rw[m k a]
      by_cases e:k=116
      ·subst e;rw[Cj,Cj]
      ·rw[Cy _ e,Cy _ e];exact h.nms k a
     ·show s.bod++[_]=(P.thr++[_]).map CA;rw[h.bod,XH];rfl
     ·intro th i r u
      rcases XX.1 i with q|q
      ·exact h.pos th q r u
      ·obtain rfl:=XT.1 q
       cases u
     ·rw[m k a]
      by_cases e:k=116
      ·subst e;rw[Cj,Xb,j];simp;omega
      ·rw[Cy _ e];exact h.few k a
     ·intro th i
      rcases XX.1 i with q|q
      ·exact h.code th q
      ·obtain rfl:=XT.1 q
       simp
theorem Nx (l:List (Tx×Nat)) (x:Tx) (n:Nat):CW (l++[(x,n)])=Bc (CW l) x n:=by
 funext y
 unfold CW Bc;rw[Y0];show (if x=y then some n else _)=_
 by_cases q:x=y
 ·rw[if_pos q,if_pos q.symm]
 ·rw[if_neg q,if_neg (λa=>q a.symm)]
theorem Nw (l:List (Tx×Nat)) (x:Tx):CW l x=none↔∀i,i<l.length->(l.map Prod.fst).getD i []≠x:=by
 rcases YY l with q|⟨a,p,q⟩
 ·subst q;simp[CW]
 ·rw[YZ] at q;have h:=Nw a x;subst q;obtain⟨y,n⟩:=p;rw[Nx];have f:∀i,i<a.length->((a++[(y,n)]).map Prod.fst).getD i []=(a.map Prod.fst).getD i []:=λi c=>by
   rw[Xc,Xc,XH,List.getElem?_append_left (by simpa using c)]
  have d:((a++[(y,n)]).map Prod.fst).getD a.length []=y:=by
   rw[Xc,XH,List.getElem?_append_right (by simp)];simp
  unfold Bc
  by_cases q:x=y
  ·rw[if_pos q];constructor
   ·intro b;cases b
   ·intro b;exact absurd (d.trans q.symm) (b a.length (by simp))
  ·rw[if_neg q,h];constructor
   ·intro b i c
    by_cases e:i<a.length
    ·rw[f i e];exact b i e
    ·have:i=a.length:=by simp at c;omega
     subst this;rw[d];exact λg=>q g.symm
   ·intro b i c;rw[<-f i c];exact b i (by simp;omega)
 termination_by l.length
 decreasing_by subst q;simp
theorem abY {α β:Type} (g:α->β) {l:List α} {k:Nat} (a:l.length=k+1) (x:α):(l.map g).dropLast++[g x]=(l.set k x).map g:=by
 rcases YY l with q|⟨b,p,q⟩
 ·subst q;simp at a
 ·rw[YZ] at q;subst q;have:k=b.length:=by simp at a;omega
  subst this;rw[List.set_append_right _ _ (Nat.le_refl _)]
  simp
theorem ab0 {α β:Type} (g:α->β) {l:List α} {k:Nat} {x:α} (b:l.length=k+1) (a:l[k]?=some x):(l.map g).getLast?=some (g x):=by
 rw[List.getLast?_map,List.getLast?_eq_getElem?,b];simp[a]
theorem abg {P:RP} {k:Nat} {th th':AE} (a:P.thr[k]?=some th) (c:th'.name=th.name):({P with thr:=P.thr.set k th'}:RP).names=P.names:=by
 unfold RP.names
 apply Y3
 intro m;rw[Xs,Xs]
 by_cases q:m=k
 ·subst q;show Option.map _ ((P.thr.set m th')[m]?)=_;rw[YF (Xf.1 a).1,a];simp[c]
 ·show Option.map _ ((P.thr.set k th')[m]?)=_;rw[Zi (λb=>q b.symm)]
theorem PL.Qa (h:PL P s) {k:Nat} {th th':AE} (l:P.thr.length=k+1) (f:P.thr[k]?=some th) (m:th'.name=th.name) (g:∀r,r∈th'.code->0<=r.i.x/\0<r.line) (j:th'.code.length<=24):PL {P with thr:=P.thr.set k th'} (HU s (CA th')):=by
 have d:∀k',An {P with thr:=P.thr.set k th'} k'=An P k':=λk'=>by
  unfold An;rw[abg f m];rfl
 refine⟨h.N.congr λk' _=>d k',λk' a=>by rw[d];exact h.nms k' a,?_,?_,λk' a=>by rw[d];exact h.few k' a,?_⟩
 ·show s.bod.dropLast++[CA th']=(P.thr.set k th').map CA;rw[h.bod];exact abY CA l th'
 ·intro c b r e
  rcases Zq b with q|q
  ·exact h.pos c q r e
  ·subst q;exact g r e
 ·intro c b
  rcases Zq b with q|q
  ·exact h.code c q
  ·subst q;exact j
theorem aaA (h:PL P s) {k:Nat} {th:AE} {x:Tx} (m:P.thr.length=k+1) (c:P.thr[k]?=some th) (p:f=x++[58]) (a:Oq P k th x e P'):GW (Gc f s (CA th)) e P':=by
 have r:f.dropLast=x:=by rw[p];simp
 unfold Gc;rw[r];have d:=Xz c
 rcases a with⟨b,rfl⟩|⟨b,a⟩
 ·exact .inl ⟨by decide,by rw[if_pos b]⟩
 ·rw[if_neg (by rw[b];simp)];show GW (match CW th.labs x with|some _=>_|none=>_) e P'
  rcases a with⟨⟨i,l,q⟩,rfl⟩|⟨j,rfl,rfl⟩
  ·left;refine⟨by decide,?_⟩
   cases g:CW th.labs x with
   |none=>exact absurd q ((Nw _ _).1 g i l)
   |some n=>rfl
  ·right;refine⟨rfl,_,by rw[(Nw _ _).2 j],?_⟩;have:=h.Qa m c (th':={th with labs:=th.labs++[(x,th.code.length)]}) rfl (h.pos th d) (h.code th d);have o:({CA th with labs:=Bc (CA th).labs x (CA th).code.length}:PB)=CA {th with labs:=th.labs++[(x,th.code.length)]}:=by
    unfold CA;show PB.mk _ (Bc (CW th.labs) x (th.code.map Ib).length)=PB.mk _ (CW (th.labs++[(x,th.code.length)]));rw[Nx,List.length_map]
   rw[o];exact this
end
def Fh:List UInt8:=[114,97,98,118,102,109,116,108]
theorem Kf {c:UInt8} (h:c∈Fh):c=114\/c=97\/c=98\/c=118\/c=102\/c=109\/c=116\/c=108:=by simpa [Fh] using h
theorem KQ {p:Tx×Tx} (h:p∈Bb):∀c,c∈p.2->c∈Fh:=by
 have:∀p,p∈Bb->p.2.all (λc=>Fh.contains c)=true:=by decide
 intro c a;have:=List.all_eq_true.1 (this p h) c a
 simpa using this
section
variable {P:RP} {N:Tx->Option (Int×Nat)}
theorem Pr {c:UInt8} (a:c∈Fh) (t:Tx):Dm (Cp c) t=Cu t (c.toNat:Int):=by
 rcases Kf a with rfl|rfl|rfl|rfl|rfl|rfl|rfl|rfl<;>simp[Dm,Cp,Cu,DQ]
theorem NS (h:Fm N (An P)) {k:Int} (b:AR k) (i:Ad) (t:Tx):((match N t with|some (k',n)=>if k'=k then some {i with x:=(n:Int)} else none|none=>none)=(none:Option Ad)/\Aq (An P k) t<0)\/((match N t with|some (k',n)=>if k'=k then some {i with x:=(n:Int)} else none|none=>none)=some {i with x:=Aq (An P k) t}/\0<=Aq (An P k) t):=by
 by_cases q:Aq (An P k) t = -1
 ·left;refine⟨?_,by omega⟩
  cases a:N t with
  |none=>rfl
  |some p=>
   obtain⟨k',n⟩:=p;show (if k'=k then _ else _)=_
   by_cases e:k'=k
   ·subst e;have:=((h t k' n).1 a).2
    omega
   ·rw[if_neg e]
 ·right;have c:=Ik (An P k) t;refine⟨?_,by omega⟩;have a:=(h t k (Aq (An P k) t).toNat).2 ⟨b,by omega⟩;rw[a];show (if k=k then _ else _)=_;rw[if_pos rfl,Int.toNat_of_nonneg (by omega)]
theorem Vr (h:Fm N (An P)) {c:UInt8} (b:c∈Fh) (r:RI) (a:0<=r.i.x) (t:Tx):(Dp N r.i ((c.toNat:Int),t)=none/\(Aw P r (Cp c) t).i.x<0)\/(Dp N r.i ((c.toNat:Int),t)=some (Aw P r (Cp c) t).i/\0<=(Aw P r (Cp c) t).i.x):=by
 rcases Kf b with rfl|rfl|rfl|rfl|rfl|rfl|rfl|rfl
 ·exact .inr ⟨rfl,a⟩
 ·exact .inr ⟨rfl,a⟩
 ·exact .inr ⟨rfl,a⟩
 ·exact NS (P:=P) h (k:=118) (by simp[AR]) r.i t
 ·exact NS (P:=P) h (k:=102) (by simp[AR]) r.i t
 ·exact NS (P:=P) h (k:=109) (by simp[AR]) r.i t
 ·exact .inr ⟨rfl,a⟩
 ·exact .inr ⟨rfl,a⟩
def Mo:Tx->List (UInt8×Tx)->Tx
 |x,[]=>x
 |x,p::l=>Mo (if p.1=114\/p.1=97\/p.1=98 then x else p.2) l
theorem VN (r:RI) {c:UInt8} (a:c∈Fh) (t:Tx):(Aw P r (Cp c) t).word=(if Cp c=114\/Cp c=97\/Cp c=98 then r.word else t)/\(Aw P r (Cp c) t).line=r.line/\(Aw P r (Cp c) t).i.op=r.i.op:=by
 rcases Kf a with rfl|rfl|rfl|rfl|rfl|rfl|rfl|rfl<;>exact⟨rfl,rfl,rfl⟩
theorem SE:∀(ps:Tx) (ts:List Tx) (r:RI),ts.length=ps.length->(∀c,c∈ps->c∈Fh)->(Bi ts ps=false/\Fv P r 5 ((ps.map Cp).zip ts)=none)\/(Bi ts ps=true/\∃r',Fv P r 5 ((ps.map Cp).zip ts)=some (r',5))
 |[],[],r,_,_=>.inr ⟨rfl,r,rfl⟩
 |[],_::_,_,h,_=>by simp at h
 |_::_,[],_,h,_=>by simp at h
 |c::ps,t::ts,r,hl,hc=>by
  have d:=hc c (by simp);rw[Za,agh,MQ,Pr d];show (Cu t (c.toNat:Int)&&Bi ts ps)=false/\_\/(Cu t (c.toNat:Int)&&Bi ts ps)=true/\_
  cases f:Cu t (c.toNat:Int) with
  |false=>exact .inl ⟨rfl,by simp⟩
  |true=>
   rw[if_pos rfl,Bool.true_and];have b:(if (Aw P r (Cp c) t).i.x<0 then(5:Int) else 5)=5:=by split<;>rfl
   rw[b];exact SE ps ts _ (by simpa using hl) (λe a=>hc e (by simp[a]))
theorem SD (h:Fm N (An P)):∀(ps:Tx) (ts:List Tx) (r:RI),ts.length=ps.length->(∀c,c∈ps->c∈Fh)->0<=r.i.x->(Bi ts ps=false/\Fv P r 0 ((ps.map Cp).zip ts)=none)\/(Bi ts ps=true/\((Cf N r.i (AQ ps ts)=none/\∃r',Fv P r 0 ((ps.map Cp).zip ts)=some (r',5))\/∃r',Cf N r.i (AQ ps ts)=some r'.i/\Fv P r 0 ((ps.map Cp).zip ts)=some (r',0)/\0<=r'.i.x/\r'.line=r.line/\r'.i.op=r.i.op/\r'.word=Mo r.word ((ps.map Cp).zip ts)))
 |[],[],r,_,_,hx=>.inr ⟨rfl,.inr ⟨r,rfl,rfl,hx,rfl,rfl,rfl⟩⟩
 |[],_::_,_,h,_,_=>by simp at h
 |_::_,[],_,h,_,_=>by simp at h
 |c::ps,t::ts,r,hl,hc,hx=>by
  have f:=hc c (by simp);have k:ts.length=ps.length:=by simpa using hl
  have j:∀d,d∈ps->d∈Fh:=λd z=>hc d (by simp[z]);have u:AQ (c::ps) (t::ts)=((c.toNat:Int),t)::AQ ps ts:=rfl;rw[Za,agh,MQ,Pr f,u];show (Cu t (c.toNat:Int)&&Bi ts ps)=false/\_\/(Cu t (c.toNat:Int)&&Bi ts ps)=true/\_
  cases B:Cu t (c.toNat:Int) with
  |false=>exact .inl ⟨rfl,by simp⟩
  |true=>
   rw[if_pos rfl,Bool.true_and];have l:∀o,Dp N r.i ((c.toNat:Int),t)=o->Cf N r.i (((c.toNat:Int),t)::AQ ps ts)=match o with|some i'=>Cf N i' (AQ ps ts)|none=>none:=λo w=>by
    conv=>lhs;unfold Cf
    rw[w]
    cases o<;>rfl
   rcases Vr h f r hx t with⟨g,e⟩|⟨g,e⟩
   ·rw[if_pos e,l _ g]
    rcases SE (P:=P) ps ts (Aw P r (Cp c) t) k j with⟨b,a⟩|⟨b,a⟩
    ·exact .inl ⟨b,a⟩
    ·exact .inr ⟨b,.inl ⟨rfl,a⟩⟩
   ·rw[if_neg (by omega),l _ g];obtain⟨v,n,m⟩:=VN (P:=P) r f t
    rcases SD h ps ts (Aw P r (Cp c) t) k j e with⟨b,a⟩|⟨b,a|⟨r',a,A,q,s,p,y⟩⟩
    ·exact .inl ⟨b,a⟩
    ·exact .inr ⟨b,.inl a⟩
    ·refine .inr ⟨b,.inr ⟨r',a,A,q,s.trans n,p.trans m,?_⟩⟩;rw[y,v];rfl
end
theorem RR {l:List Tx} (h:l.length=2):∃a b,l=[a,b]:=by
 rcases l with _|⟨a,_|⟨b,_|⟨c,l⟩⟩⟩
 ·simp at h
 ·simp at h
 ·exact⟨a,b,rfl⟩
 ·simp at h
theorem RQ {l:List Tx} (h:l.length=3):∃a b c,l=[a,b,c]:=by
 rcases l with _|⟨a,_|⟨b,_|⟨c,_|⟨d,l⟩⟩⟩⟩
 ·simp at h
 ·simp at h
 ·simp at h
 ·exact⟨a,b,c,rfl⟩
 ·simp at h
theorem aa2 {f:Tx} {p:Tx×Tx} (j:p∈Bb) (l:f=p.1) (g:Df f=some p.2) {ts:List Tx} (d:ts.length=p.2.length) {r:RI} (k:r.i.op=f) (h:r.word=Mo [] ((p.2.map Cp).zip ts)):EQ (AQ p.2 ts)=IK r:=by
 have e:AG r.i.op=p.2.map Cp:=by rw[k];unfold AG;rw[g]
 unfold IK;rw[e,h];clear h e k g l;simp only[Bb,List.mem_cons,List.not_mem_nil,or_false] at j
 rcases j with rfl|rfl|rfl|rfl|rfl|rfl|rfl|rfl|rfl|rfl|rfl|rfl|rfl|rfl|rfl|rfl|rfl<;>
  (first
    |(obtain rfl:=List.length_eq_zero_iff.1 d;rfl)
    |(obtain⟨a,rfl⟩:=List.length_eq_one_iff.1 d;rfl)
    |(obtain⟨a,b,rfl⟩:=RR d;rfl)
    |(obtain⟨a,b,c,rfl⟩:=RQ d;rfl))
section
variable {P P':RP} {s:PS} {f:Tx} {ts:List Tx} {e:Int}
theorem aaB (h:PL P s) {k:Nat} {th:AE} {line:Int} (z:0<line) (F:P.thr.length=k+1) (v:P.thr[k]?=some th) (a:FF P k th line f ts e P'):GW (ER line f ts s (CA th)) e P':=by
 have t:=Xz v;unfold FF at a;unfold ER
 rcases Jk f with⟨p,w,x,j⟩|⟨u,-⟩
 ·rw[j];have o:AG f=p.2.map Cp:=by unfold AG;rw[j]
  show GW (if Bi ts p.2=false then _ else _) e P'
  by_cases d:ts.length=p.2.length
  ·have c:DV P line f ts=Fv P (Hf f line) 0 ((p.2.map Cp).zip ts):=by
    unfold DV;rw[o,if_neg (by simp[j,d])]
   rw[c] at a
   rcases SD h.N p.2 ts (Hf f line) d (KQ w) (Int.le_refl _) with⟨l,b⟩|⟨l,b⟩
   ·rw[b] at a;have a:e=2:=a;exact .inl ⟨by rw[a];decide,by rw[if_pos l,a]⟩
   ·rw[if_neg (by rw[l];simp)];have B:(CA th).code.length=th.code.length:=by simp[CA]
    rw[B];have H:=h.code th t
    rcases b with⟨b,r',n⟩|⟨r',b,n,C,g,y,G⟩
    ·rw[n] at a;have a:((5:Int)=2/\e=2)\/((5:Int)≠2/\((th.code.length=24/\e=4)\/(th.code.length≠24/\e=5/\P'={P with thr:=P.thr.set k {th with code:=th.code++[r']}}))):=a
     rcases a with⟨q,_⟩|⟨_,a⟩
     ·omega
     ·rcases a with⟨m,rfl⟩|⟨m,rfl,_⟩
      ·exact .inl ⟨by decide,by rw[if_pos (by omega)]⟩
      ·refine .inl ⟨by decide,?_⟩;rw[if_neg (by omega)];show (match Cf s.N (CB f) (AQ p.2 ts) with|none=>_|some i=>_)=_;have b:Cf s.N (CB f) (AQ p.2 ts)=none:=b;rw[b]
    ·rw[n] at a;have a:((0:Int)=2/\e=2)\/((0:Int)≠2/\((th.code.length=24/\e=4)\/(th.code.length≠24/\e=0/\P'={P with thr:=P.thr.set k {th with code:=th.code++[r']}}))):=a
     rcases a with⟨q,_⟩|⟨_,a⟩
     ·omega
     ·rcases a with⟨m,rfl⟩|⟨m,rfl,rfl⟩
      ·exact .inl ⟨by decide,by rw[if_pos (by omega)]⟩
      ·right;have b:Cf s.N (CB f) (AQ p.2 ts)=some r'.i:=b;refine⟨rfl,_,by rw[if_neg (by omega),b],?_⟩;have E:=aa2 w x j d y G;have:=h.Qa F v (th':={th with code:=th.code++[r']}) rfl (λr A=>by
        rcases XX.1 A with q|q
        ·exact h.pos th t r q
        ·obtain rfl:=XT.1 q
         exact⟨C,by rw[g];exact z⟩) (by simp;omega)
       have D:({CA th with code:=(CA th).code++[⟨r'.i,line,EQ (AQ p.2 ts)⟩]}:PB)=CA {th with code:=th.code++[r']}:=by
        unfold CA;have g:r'.line=line:=g;show PB.mk (th.code.map Ib++_) _=PB.mk ((th.code++[r']).map Ib) _;rw[XH,E];show PB.mk (_++[(⟨r'.i,line,IK r'⟩:PI)]) _=PB.mk (_++[(⟨r'.i,r'.line,IK r'⟩:PI)]) _;rw[g]
       rw[D];exact this
  ·have c:DV P line f ts=none:=by
    unfold DV;rw[o,if_pos (.inr (by simpa using d))]
   rw[c] at a;have a:e=2:=a;exact .inl ⟨by rw[a];decide,by rw[if_pos (LG d),a]⟩
 ·have c:DV P line f ts=none:=by
   unfold DV;rw[if_pos (.inl u)]
  rw[c] at a;have a:e=2:=a;rw[u];exact .inl ⟨by rw[a];decide,by rw[a]⟩
theorem RZ (x:Tx) (l:List (Tx×Nat)):Gd x l (-1)=match CW l x with|some n=>(n:Int)|none=>-1:=by
 rcases YY l with q|⟨c,p,q⟩
 ·subst q;rfl
 ·rw[YZ] at q;have a:=RZ x c;subst q;obtain⟨y,n⟩:=p;rw[Nx];unfold Gd at a |-;rw[Y0,a];unfold Bc;show (if y=x then(n:Int) else _)=_
  by_cases q:y=x
  ·rw[if_pos q,if_pos q.symm]
  ·rw[if_neg q,if_neg (λb=>q b.symm)]
 termination_by l.length
 decreasing_by subst q;simp
theorem WB (h:PL P s) {th:AE} {r:RI} (m:0<=r.i.x):DB s.N (CW th.labs) r.i (IK r)=if rX P th r<0 then none else some (DA P th r).i:=by
 unfold IK
 by_cases b:AG r.i.op=[116]
 ·have a:rX P th r=Aq (An P 116) r.word:=by unfold rX;rw[if_pos b];simp[An]
  have k:(DA P th r).i={r.i with x:=Aq (An P 116) r.word}:=by unfold DA RI.at;rw[a]
  rw[if_pos b,a,k];have c:FL s.N (CW th.labs) (116,r.word)=match s.N r.word with|some p=>if p.1=116 then some p.2 else none|none=>none:=rfl
  by_cases q:Aq (An P 116) r.word = -1
  ·rw[if_pos (by omega)];have f:FL s.N (CW th.labs) (116,r.word)=none:=by
    rw[c]
    cases g:s.N r.word with
    |none=>rfl
    |some p=>
     obtain⟨k',n⟩:=p;show (if k'=116 then _ else _)=_
     by_cases e:k'=116
     ·subst e;have:=((h.N r.word 116 n).1 g).2
      omega
     ·rw[if_neg e]
   unfold DB;rw[f]
  ·have l:=Ik (An P 116) r.word;have g:=(h.N r.word 116 (Aq (An P 116) r.word).toNat).2 ⟨by simp[AR],by omega⟩;have f:FL s.N (CW th.labs) (116,r.word)=some (Aq (An P 116) r.word).toNat:=by
    rw[c,g];show (if (116:Int)=116 then _ else _)=_;rw[if_pos rfl]
   rw[if_neg (by omega)];unfold DB;rw[f];show DB _ _ {r.i with x:=(((Aq (An P 116) r.word).toNat:Nat):Int)} []=_;rw[Int.toNat_of_nonneg (by omega)];rfl
 ·rw[if_neg b]
  by_cases d:IN (AG r.i.op)=true
  ·have a:rX P th r=match CW th.labs r.word with|some n=>(n:Int)|none=>-1:=by unfold rX;rw[if_neg b,if_pos d,RZ]
   have c:FL s.N (CW th.labs) (108,r.word)=CW th.labs r.word:=by
    show (match (CW th.labs r.word).map λn=>((108:Int),n) with|some p=>if p.1=108 then some p.2 else none|none=>none)=_
    cases CW th.labs r.word with
    |none=>rfl
    |some n=>rfl
   rw[if_pos d];unfold DB;rw[c]
   cases j:CW th.labs r.word with
   |none=>
    rw[j] at a;have a:rX P th r = -1:=a;rw[if_pos (by omega)]
   |some n=>
    rw[j] at a;have a:rX P th r=(n:Int):=a;rw[if_neg (by omega)];show DB _ _ {r.i with x:=(n:Int)} []=_;unfold DA RI.at;rw[a];rfl
  ·have a:rX P th r=r.i.x:=by unfold rX;rw[if_neg b,if_neg d]
   rw[if_neg d,a,if_neg (by omega)];unfold DA RI.at;rw[a];rfl
theorem Qt (h:PL P s) {th:AE}:∀(l:List RI),(∀r,r∈l->0<=r.i.x)->EO s.N (CW th.labs) (l.map Ib)=match EI P th l with|some e=>.error e|none=>.ok (l.map λr=>(DA P th r).i)
 |[],_=>rfl
 |r::l,hr=>by
  have a:=Qt h (th:=th) l (λr' c=>hr r' (by simp[c]));have d:=WB h (th:=th) (hr r (by simp));rw[Za];unfold EO;have b:DB s.N (CW th.labs) (Ib r).i (Ib r).off=if rX P th r<0 then none else some (DA P th r).i:=d
  rw[b];unfold EI at a |-;rw[List.find?_cons]
  by_cases q:rX P th r<0
  ·rw[if_pos q,decide_eq_true q];rfl
  ·rw[if_neg q,decide_eq_false q];show Except.map _ (EO s.N (CW th.labs) (l.map Ib))=_;rw[a];dsimp only
   cases (l.find? λr=>decide (rX P th r<0)) with
   |none=>rfl
   |some x=>rfl
theorem Qu (h:PL P s):∀(l:List AE),(∀th,th∈l->∀r,r∈th.code->0<=r.i.x)->DC s.N (l.map CA)=match FE P l with|some e=>.error e|none=>.ok (l.map λth=>(Ez P th).code.map RI.i)
 |[],_=>rfl
 |th::l,hr=>by
  have a:=Qu h l (λth' c=>hr th' (by simp[c]));have f:=Qt h (th:=th) th.code (hr th (by simp));rw[Za];unfold DC;have b:EO s.N (CA th).labs (CA th).code=match EI P th th.code with|some e=>.error e|none=>.ok (th.code.map λr=>(DA P th r).i):=f
  rw[b];unfold FE at a |-;rw[List.findSome?_cons]
  cases g:EI P th th.code with
  |some e=>rfl
  |none=>
   show Except.map _ (DC s.N (l.map CA))=_;rw[a];dsimp only
   cases l.findSome? (λth=>EI P th th.code) with
   |some e=>rfl
   |none=>
    show Except.ok _=Except.ok _
    congr 1
    rw[Za];have d:(Ez P th).code.map RI.i=th.code.map λr=>(DA P th r).i:=by
     show (th.code.map (DA P th)).map RI.i=_;rw[Zv];rfl
    rw[d]
end
def EL (P:RP) (m:Nat):Prop:=∀th,th∈P.thr->th.labs.length<=m
def Uk (o:Except Int PS) (m:Nat) (e:Int) (P':RP):Prop:=(e≠0/\o = .error e)\/(e=0/\(∃s',o = .ok s'/\PL P' s')/\EL P' (m+1))
theorem GW.labs {o:Except Int PS} {m:Nat} {e:Int} {a:RP} (h:GW o e a) (c:e=0->EL a (m+1)):Uk o m e a:=by
 rcases h with h|⟨b,d⟩
 ·exact .inl h
 ·exact .inr ⟨b,d,c b⟩
theorem GU.mono {w:World} {b:Nat->RT} {base c:Nat} {R R':Int->RP->Prop} {d:Ending} {w':World} (h:GU w b base c R d w') (j:∀e a,R e a->R' e a):GU w b base c R' d w':=by
 obtain⟨e,k,a,m,l,i,f,g⟩:=h
 exact⟨e,k,a,m,l,i,f,j _ _ g⟩
section
variable {P P':RP} {f:Tx} {ts:List Tx} {e:Int} {m:Nat}
theorem Lu (h:EL P m):EL P (m+1):=λth a=>Nat.le_succ_of_le (h th a)
theorem RX (h:EL P m) {k:Nat} {th':AE} (b:th'.labs.length<=m+1):EL {P with thr:=P.thr.set k th'} (m+1):=λth a=>by
 rcases Zq a with q|q
 ·exact Lu h th q
 ·subst q;exact b
theorem adY (h:EL P m) (b:Kv P f ts e P') (c:e=0):EL P' (m+1):=by
 rcases b with⟨_,q⟩|⟨_,⟨_,q⟩|⟨_,q,_⟩⟩
 ·omega
 ·omega
 ·intro th a;rw[q,Jf] at a;exact Lu h th a
theorem UM (h:EL P m) (b:Ku P ts e P') (c:e=0):EL P' (m+1):=by
 rcases b with⟨_,q⟩|⟨_,⟨_,q⟩|⟨_,⟨_,q⟩|⟨_,_,q⟩⟩⟩
 ·omega
 ·omega
 ·omega
 ·subst q;intro th a
  rcases XX.1 a with q|q
  ·exact Lu h th q
  ·obtain rfl:=XT.1 q
   simp
theorem ab2 (h:EL P m) {k:Nat} {th:AE} {x:Tx} (a:P.thr[k]?=some th) (b:Oq P k th x e P') (c:e=0):EL P' (m+1):=by
 have:=h th (Xz a)
 rcases b with⟨_,q⟩|⟨_,⟨_,q⟩|⟨_,_,q⟩⟩
 ·omega
 ·omega
 ·subst q;exact RX h (by simp;omega)
theorem acx (h:EL P m) {k:Nat} {th:AE} {line:Int} (b:P.thr[k]?=some th) (a:FF P k th line f ts e P') (c:e=0):EL P' (m+1):=by
 have:=h th (Xz b);unfold FF at a
 split at a
 ·omega
 ·rcases a with⟨_,q⟩|⟨_,⟨_,q⟩|⟨_,_,q⟩⟩
  ·omega
  ·omega
  ·subst q;exact RX h (by simp;omega)
end
theorem aaj {w:World} {C:Nat->RT} {base B:Nat} {P:RP} {U:RV} (h:Ak w C base B P U) {s:PS} (d:PL P s) {m:Nat} (v:EL P m) (af:m<3500) (b l n cap:Nat) (f:Tx) (ts:List Tx) (r:ts.length+1=n) (t:CX w C (some ⟨b,l,none⟩) (f::ts)) (R:n<=cap) (E:n<4000) (line:Int) (Q:0<line) (G:f≠[]) (M:f.length<4000) :
 Calls Tryz.prog 51 #[Ab B,.slice (some ⟨b,l,none⟩) n cap,.int .i64 line] w (GU w C base B (Uk (stepT line f ts s) m)):=by
 have T:An P 116=P.names:=by simp[An]
 have ad:P.thr.length<=4:=by
  have:=d.few 116 (by simp[AR]);rw[T] at this
  simpa [RP.names] using this
 have D:∀k,(P.get k).length<=4:=λk=>by
  unfold RP.get;have S:An P 118=P.vs:=by simp[An,RP.get]
  have V:An P 102=P.fs:=by simp[An,RP.get]
  have Y:An P 109=P.ls:=by simp[An,RP.get]
  have J:=d.few 118 (by simp[AR]);have H:=d.few 102 (by simp[AR]);have K:=d.few 109 (by simp[AR]);rw[S] at J;rw[V] at H;rw[Y] at K
  split
  ·exact J
  ·split
   ·exact H
   ·exact K
 by_cases o:f=FU
 ·refine(aae h b l n cap f ts r t (by omega) D E line o).mono ?_;intro z w' i;refine i.mono λe x a=>?_;have g:stepT line f ts s=if ts.length=1 then(Cg 116 ts s).map Jw else .error 2:=by unfold stepT;rw[if_pos o]
  rw[g]
  exact(aaz d a).labs (UM v a)
 ·have g:stepT line f ts s=match s.bod.getLast? with|none=>Cg (Di f) ts s|some b=>if BG f=true/\ts=[] then Gc f s b else ER line f ts s b:=by unfold stepT;rw[if_neg o];cases s.bod.getLast?<;>rfl
  by_cases A:P.thr.length=0
  ·have aa:s.bod=[]:=by rw[d.bod,List.eq_nil_of_length_eq_zero A];rfl
   rw[aa] at g;have g:stepT line f ts s=Cg (Di f) ts s:=g;rw[g]
   cases y:Hl f with
   |true=>
    refine(aai h b l n cap f ts r t R A D E line y).mono ?_;intro z w' i;exact i.mono λe x a=>(aaC d y a).labs (adY v a)
   |false=>
    refine(aaf h b l n cap f ts r t A line y o).mono ?_;intro z w' i;refine i.mono λe x a=>.inl ⟨by rw[a];decide,?_⟩;rw[acP y,a];unfold Cg;rw[if_pos (.inl rfl)]
  ·obtain⟨k,u⟩:∃k,P.thr.length=k+1:=⟨P.thr.length - 1,by omega⟩;obtain⟨th,j⟩:∃th,P.thr[k]?=some th:=⟨_,List.getElem?_eq_getElem (by omega)⟩;have F:=Xz j;have W:s.bod.getLast?=some (CA th):=by rw[d.bod];exact ab0 CA u j
   rw[W] at g;have g:stepT line f ts s=if BG f=true/\ts=[] then Gc f s (CA th) else ER line f ts s (CA th):=g
   rw[g];have ab:=v th F;have ac:=d.code th F
   by_cases p:BG f=true/\ts=[]
   ·rw[if_pos p];obtain⟨p,rfl⟩:=p;have N:f=f.dropLast++[58]:=by
     have I:f.getLast?=some 58:=by simpa [BG] using p
     rcases YY f with q|⟨f0,c,q⟩
     ·exact absurd q G
     ·rw[YZ] at q;subst q
      simp at I
      simp[I]
    have O:n=1:=by simp at r;omega
    subst O;refine(aag h b l cap f t k th u j (by omega) (by omega) (by omega) M line f.dropLast N o).mono ?_;intro z w' i;exact i.mono λe x a=>(aaA d u j N a).labs (ab2 v j a)
   ·rw[if_neg p];have X:ts≠[]\/f.getLast?≠some 58:=by
     by_cases q:ts=[]
     ·right;intro Z;exact p ⟨by simp[BG,Z],q⟩
     ·exact .inl q
    refine(aah h b l n cap f ts r t E (λk=>by have:=D k;omega) k th u j (by omega) (by omega) line o G M X).mono ?_;intro z w' i;exact i.mono λe x a=>(aaB d Q u j a).labs (acx v j a)
theorem aeI {P:RP} {l:List AE} {n:Int} (d:∀th,th∈l->∀r,r∈th.code->0<r.line) (h:FE P l=some n):0<n:=by
 unfold FE at h;obtain⟨th,c,a⟩:=List.exists_of_findSome?_eq_some h;unfold EI at a
 cases b:th.code.find? (λr=>decide (rX P th r<0)) with
 |none=>rw[b] at a;cases a
 |some r=>
  rw[b] at a
  cases a
  exact d th c r (List.mem_of_find?_eq_some b)
theorem Ak.Lw {w w':World} {a:Nat->RT} {base d:Nat} {P:RP} {U:RV} (h:Ak w a base d P U) (f:∀b,a b≠.o->w'.heap[b]?=w.heap[b]?) (c:w.heap.size<=w'.heap.size):Ak w' a base d P U:=by
 have key:∀{b:Nat} {g:RT},a b=g->g≠.o->w'.heap[b]?=w.heap[b]?:=λ{b g} e n=>f b (by rw[e];exact n);refine⟨(key h.tp (by simp)).trans h.cell,λk l=>(h.rows k l).kept λb e=>⟨key e (by simp),e⟩,Bw h.trow λg e=>key (h.tt g e) (by simp),h.tt,h.len,λj th p m i=>(h.ths j th p m i).kept λb e=>?_,h.tp,λb e=>⟨(h.tlt b e).1,Nat.lt_of_lt_of_le (h.tlt b e).2 c⟩,Nat.le_trans h.g3 c⟩
 rcases e with e|e
 ·exact⟨key e (by simp),rfl⟩
 ·exact⟨key e (by simp),rfl⟩
theorem Uw {l f:Tx} (h:f∈CP l):f≠[]:=by
 unfold CP at h;have:=(List.mem_filter.1 h).2;intro e;rw[e] at this
 simp at this
def RP.GA (P:RP) (i k:Nat) (th:AE):RP:={P with thr:=(Cz (Ez P) P.thr i).set i {th with code:=Cz (DA P th) th.code k}}
def RP.Dt (P:RP) (i k:Nat) (th:AE) (r:RI) (v:Int):RP:={P with thr:=(Cz (Ez P) P.thr i).set i {th with code:=(Cz (DA P th) th.code k).set k (r.at v)}}
theorem MA {α:Type} {l:List α} {i:Nat} {x:α} (h:l[i]?=some x):l.set i x=l:=by
 apply Y3
 intro m
 by_cases e:m=i
 ·subst e;rw[YF (Xf.1 h).1,h]
 ·rw[Zi (λa=>e a.symm)]
section
variable {w w':World} {tag:Nat->RT} {base pb:Nat} {P:RP} {U:RV} {i k:Nat} {th:AE} {r:RI} {v:Int} {p:Value×Value}
theorem WA (P:RP):P.res 0=P:=rfl
theorem WF (P:RP):P.res P.thr.length={P with thr:=P.thr.map (Ez P)}:=by unfold RP.res;rw[QP _ _ (Nat.le_refl _)]
theorem WM (a:P.thr[i]?=some th):P.GA i 0 th=P.res i:=by
 unfold RP.GA RP.res;rw[aax,MA (Li _ a)]
theorem WN (a:P.thr[i]?=some th):P.GA i th.code.length th=P.res (i+1):=by
 unfold RP.GA RP.res;rw[QP _ _ (Nat.le_refl _),<-QO _ a];rfl
theorem WG (a:th.code[k]?=some r):P.GA i k th=P.Dt i k th r r.i.x:=by
 unfold RP.GA RP.Dt;have e:r.at r.i.x=r:=rfl;rw[e,MA (Li _ a)]
theorem KY (a:th.code[k]?=some r):P.Dt i k th r (rX P th r)=P.GA i (k+1) th:=by
 unfold RP.GA RP.Dt;rw[<-QO _ a];rfl
theorem Gz (a:P.thr[i]?=some th):(P.Dt i k th r v).thr[i]?=some {th with code:=(Cz (DA P th) th.code k).set k (r.at v)}:=by
 have b:=(Xf.1 a).1;exact YF (by rw[Jh];exact b)
theorem IH (b:th.code[k]?=some r):((Cz (DA P th) th.code k).set k (r.at v))[k]?=some (r.at v):=by
 have a:=(Xf.1 b).1;exact YF (by rw[Jh];exact a)
theorem aaw (P:RP) (i:Nat):(Cz (Ez P) P.thr i).map AE.name=P.names:=by
 unfold Cz RP.names;rw[XH,Zv]
 conv=>rhs;rw[<-List.take_append_drop i P.thr,XH]
 rfl
theorem WH (a:P.thr[i]?=some th):(P.Dt i k th r v).names=P.names:=by
 rw[<-aaw P i];unfold RP.names RP.Dt;show ((Cz (Ez P) P.thr i).set i _).map AE.name=_;rw[List.map_set]
 apply MA
 rw[Xs,Li _ a];rfl
theorem WJ:(P.Dt i k th r v).thr.length=P.thr.length:=by
 show ((Cz (Ez P) P.thr i).set i _).length=_;rw[Yb,Jh]
theorem MN:(P.res i).thr.length=P.thr.length:=Jh _ _ _
theorem WE (a:P.thr[i]?=some th):(P.res i).thr[i]?=some th:=Li _ a
theorem WK (h:Ak w tag base pb (P.Dt i k th r v) U) (c:P.thr[i]?=some th) (d:U.TV[i]?=some p) (f:th.code[k]?=some r):∃a b,p.1 = .slice (some ⟨a,0,none⟩) th.code.length b:=by
 obtain⟨a,b,e⟩:=h.aek (Gz c) d (IH f);refine⟨a,b,e.trans ?_⟩;show Value.slice _ ((Cz (DA P th) th.code k).set k (r.at v)).length _=_;rw[Yb,Jh]
theorem KZ (h:Ak w tag base pb (P.Dt i k th r v) U) (b:P.thr[i]?=some th) (c:U.TV[i]?=some p) (d:th.code[k]?=some r) {a f:Nat} (g:p.1 = .slice (some ⟨a,0,none⟩) th.code.length f) :
 w.cell? ⟨a,k*9,none⟩=some (.string (bs r.i.op))/\w.cell? ⟨a,k*9+6,none⟩=some (.int .i64 v)/\w.cell? ⟨a,k*9+7,none⟩=some (.int .i64 r.line)/\w.cell? ⟨a,k*9+8,none⟩=some (.string (bs r.word))/\w.frozen? ⟨a,k*9+6,none⟩=false:=by
 have e:p.1 = .slice (some ⟨a,0,none⟩) ({th with code:=(Cz (DA P th) th.code k).set k (r.at v)}:AE).code.length f:=by
  show p.1 = .slice _ ((Cz (DA P th) th.code k).set k (r.at v)).length _;rw[Yb,Jh];exact g
 exact⟨(h.Km (Gz b) c (IH d) (q:=0) (by omega) e).1,(h.Km (Gz b) c (IH d) (q:=6) (by omega) e).1,(h.Km (Gz b) c (IH d) (q:=7) (by omega) e).1,(h.Km (Gz b) c (IH d) (q:=8) (by omega) e).1,(h.Km (Gz b) c (IH d) (q:=6) (by omega) e).2⟩
theorem KX (h:Ak w tag base pb (P.Dt i k th r v) U) (c:P.thr[i]?=some th) (f:U.TV[i]?=some p) (g:th.code[k]?=some r) {b n j:Nat} (d:p.1 = .slice (some ⟨b,0,none⟩) n j) (a:Int) :
 Ak (w.setCell ⟨b,k*9+6,none⟩ (.int .i64 a)) tag base pb (P.Dt i k th r a) U/\Ah w tag (w.setCell ⟨b,k*9+6,none⟩ (.int .i64 a)) tag:=by
 have:=h.VR (Gz c) f (IH g) d a;refine⟨?_,this.2⟩;have e:P.Dt i k th r a={P.Dt i k th r v with thr:=(P.Dt i k th r v).thr.set i {({th with code:=(Cz (DA P th) th.code k).set k (r.at v)}:AE) with code:=((Cz (DA P th) th.code k).set k (r.at v)).set k ((r.at v).at a)}}:=by
  unfold RP.Dt;show RP.mk _ _ _ _=RP.mk _ _ _ (((Cz (Ez P) P.thr i).set i _).set i _);rw[List.set_set,List.set_set];rfl
 rw[e];exact this.1
theorem Qv (h:Ak w tag base pb (P.Dt i k th r v) U) (b:P.thr[i]?=some th) (d:U.TV[i]?=some p) {j:Nat} {l:Tx×Nat} (c:th.labs[j]?=some l):∃a f,p.2 = .slice (some ⟨a,0,none⟩) th.labs.length f/\w.cell? ⟨a,j*2,none⟩=some (.string (bs l.1))/\w.cell? ⟨a,j*2+1,none⟩=some (.int .i64 l.2):=by
 obtain⟨a,f,e⟩:=h.ab3 (Gz b) d (l:=l) c
 exact⟨a,f,e,h.Sa (Gz b) d (l:=l) c (q:=0) (by omega) e,h.Sa (Gz b) d (l:=l) c (q:=1) (by omega) e⟩
end
end Go.Proofs.YtdcacoifehkioaaGreatDoor
