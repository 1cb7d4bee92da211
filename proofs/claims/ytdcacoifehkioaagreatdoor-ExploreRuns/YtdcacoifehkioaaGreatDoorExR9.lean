import Derived.Test.YtdcacoifehkioaaGreatDoorExR8
import Derived.Test.YtdcacoifehkioaaGreatDoorExR3
import Derived.Test.YtdcacoifehkioaaGreatDoorExR7
import Derived.Test.YtdcacoifehkioaaGreatDoorExR2
import Derived.OrdersIn
import Derived.TacticsIn
open List renaming flatMap_cons->XP,getElem?_eq_some_iff->Xe,map_append->XH,mem_append->XX,mem_append_left->YM,nodup_append->ado,mem_of_getElem?->Xz,mem_singleton->XR,flatMap_append->XZ,append_assoc->Xx,append_nil->Yf,length_map->Xm,getElem?_append_left->Xv,getElem?_append_right->XI,length_append->Xd,mem_flatMap->acZ,mem_map->Yg,map_map->Ze,map_cons->YZ,getElem?_map->Xp
open Option.some renaming inj->Yb
open Nat renaming le_refl->Xf,sub_self->YO,lt_or_ge->Z1
open Go renaming World->Xg,Program->Y4,Value->Xj,run_takeDeferred->Zv
open Go.World renaming cell?->Xh,putObj_heap_other->X9
open Array renaming getElem?_eq_some_iff->Xa
open Go.Region renaming wanted->ZA,ready->Zq
open Go.Oper renaming uponIn->ZO
set_option linter.unusedVariables false
set_option linter.unusedSimpArgs false
namespace Go.Proofs.YtdcacoifehkioaaGreatDoor
open Go.RowKit Go.Proofs.Cod
theorem Pl (b lm a:Nat) (line:Int) (l:List (Int×Tx)):l.flatMap (Dz b lm a line)=(DH l).map λq=>(a,(if q.1=116 then b else lm),q.1,q.2,line):=by
 induction l with
 |nil=>rfl
 |cons p l e=>
  rw[XP,e];unfold DH Dz
  by_cases c:p.1=116
  ·simp[c]
  ·by_cases d:p.1=108
   ·simp[d]
   ·simp[c,d]
section
variable {G G':RG} {nb n0:Nat} {s:PS} {X:List LB}
theorem KR.addr {x:LB} (h:KR G x) {a:Nat} (e:a∈x.c.ins):∃i,G.I a=some i:=by
 obtain⟨k,b⟩:=List.getElem?_of_mem e;have f:=(Xe.1 b).1;obtain⟨p,d⟩:∃p,x.pb.code[k]?=some p:=⟨_,List.getElem?_eq_getElem (by rw[<-h.len];exact f)⟩
 exact⟨_,h.ins k a p b d⟩
theorem PO {x x':LB} {f:List LB} (h:Cb G nb s (f++[x])) (j:x'.a=x.a) (l:G'.N=G.N) (n:G'.nms=G.nms) (u:G'.bods=G.bods) (o:∀a,a≠x.a->G'.B a=G.B a) (E:∀y,y∈f->∀d,d∈y.c.ins->G'.I d=G.I d)
 (A:KR G' x') (g:G'.las.map BA.key=G.las.map BA.key++(CS nb x').drop (CS nb x).length) (r:(CS nb x').take (CS nb x).length=CS nb x) (D:(f.flatMap (λx=>x.c.ins)++x'.c.ins).Nodup):Cb G' nb (GC s x'.pb) (f++[x']):=by
 have i:=h.nda;rw[XH] at i;refine⟨l.trans h.N,n.trans h.nms,?_,?_,λy b=>?_,?_,?_,?_⟩
 ·rw[u,h.bods];simp[j]
 ·show s.bod.dropLast++[x'.pb]=_;rw[h.bod];simp
 ·rcases XX.1 b with b|b
  ·obtain⟨m,C,t,v,z⟩:=h.each y (YM _ b);have q:y.a≠x.a:=λe=>by
    have:=(ado.1 i).2.2 y.a (List.mem_map_of_mem b) x.a (by simp);exact this e
   exact⟨(o _ q).trans m,C,t,λk d p g w=>(E y b d (Xz g)).trans (v k d p g w),z⟩
  ·obtain rfl:=XR.1 b
   exact A
 ·rw[g,h.keys,XZ,XZ,Xx]
  congr 1
  simp only[XP,List.flatMap_nil,Yf]
  conv=>rhs;rw[<-List.take_append_drop (CS nb x).length (CS nb x'),r]
 ·rw[XH];show (f.map LB.a++[x'.a]).Nodup;rw[j];exact i
 ·rw[XZ];simpa using D
theorem Wi {a:Nat} {f:DM} {n:Tx} (h:Cb G nb s X) (i:G.bods.getLast?=some a) (g:G.B a=some f) (j:f.labs n=none):∃b m,s.bod.getLast?=some b/\b.labs n=none/\Cb (G.mark a f n) nb (GC s {b with labs:=AN b.labs n b.code.length}) m:=by
 obtain⟨l,x,rfl,rfl,k,o⟩:=LZ h i;have d:=h.each x (by simp);have e:x.c=f:=by have:=d.b;rw[g] at this;exact(Yb this).symm
 subst e;refine⟨x.pb,l++[⟨x.a,{x.c with labs:=AN x.c.labs n x.c.ins.length},{x.pb with labs:=AN x.pb.labs n x.pb.code.length}⟩],k,by rw[<-d.labs];exact j,?_⟩;refine PO (x':=⟨x.a,{x.c with labs:=AN x.c.labs n x.c.ins.length},{x.pb with labs:=AN x.pb.labs n x.pb.code.length}⟩) h rfl rfl rfl rfl (λb g=>Ik _ g) (λ_ _ _ _=>rfl) ⟨Ho _ _ _,?_,d.len,d.ins,d.small⟩ ?_ ?_ ?_
 ·show AN x.c.labs n x.c.ins.length=AN x.pb.labs n x.pb.code.length;rw[d.labs,d.len]
 ·show G.las.map BA.key=G.las.map BA.key++(CS nb x).drop (CS nb x).length
  simp
 ·show (CS nb x).take (CS nb x).length=CS nb x
  simp
 ·have:=h.ndi;rw[XZ] at this
  simpa using this
theorem Sq {α β:Type} {l:List α} {m:List β} (h:l.length=m.length) (x:α) (y:β):(l++[x]).zip (m++[y])=l.zip m++[(x,y)]:=by
 rw[List.zip_append h];rfl
theorem aan {a:Nat} {r:DM} {C:Tx} {ts:List Tx} (h:Cb G nb s X) (Q:KL G n0) (R:G.bods.getLast?=some a) (u:G.B a=some r) (K:Nc n0 nb a r C ts G G') :
 ∃b T s',s.bod.getLast?=some b/\Dn G.line C ts s b = .ok s'/\Cb G' nb s' T/\s'.nms=s.nms/\s'.bod.length=s.bod.length/\G'.las.length<=G.las.length+3/\G'.line=G.line:=by
 obtain⟨z,x,rfl,rfl,J,Z⟩:=LZ h R;have f:=h.each x (by simp);have e:x.c=r:=by have:=f.b;rw[u] at this;exact(Yb this).symm
 subst e;obtain⟨ps,E,O,U,g,i,cs,lV,v,Y,D,F,rfl⟩:=K;have V:(AG ps ts).length<=3:=by
  have:=Pb E;unfold AG;rw[List.length_zip,Xm];omega
 have aa:cs.length<=3:=by
  have M:=congrArg List.length F;rw[Xm,Pl,Xm] at M;have W:(DH (AG ps ts)).length<=(AG ps ts).length:=List.length_filter_le _ _
  omega
 have o:∀y,y∈z++[x]->∀k,k∈y.c.ins->k≠g:=λy m k d e=>by
  obtain⟨j,t⟩:=(h.each y m).addr d;have:=Q.2 k j t
  omega
 obtain⟨x',n⟩:∃x':LB,(⟨x.a,{x.c with ins:=x.c.ins++[g],cv:=v},{x.pb with code:=x.pb.code++[⟨i,G.line,DH (AG ps ts)⟩]}⟩:LB)=x':=⟨_,rfl⟩;have A:CS nb x'=CS nb x++(AG ps ts).flatMap (Dz nb x.c.lm g G.line):=by
  rw[<-n,Pl];unfold CS;show ((x.c.ins++[g]).zip (x.pb.code++[_])).flatMap _=_;rw[Sq f.len,XZ]
  simp
 refine⟨x.pb,z++[x'],GC s x'.pb,J,?_,?_,rfl,?_,?_,rfl⟩
 ·unfold Dn;rw[E];show (if AV ts ps=false then _ else _)=_;rw[if_neg (by rw[O];simp),if_neg (by rw[<-f.len];omega)];rw[h.N] at D;rw[D,<-n]
 ·refine PO h (by rw[<-n]) rfl rfl rfl (λb u=>Ik _ u) (λy m k d=>Ik _ (o y (YM _ m) k d)) ?_ ?_ ?_ ?_
  ·rw[<-n];refine⟨Ho _ _ _,f.labs,by simp[f.len],λk q p d l=>?_,?_⟩
   ·have d:(x.c.ins++[g])[k]?=some q:=d;have l:(x.pb.code++[⟨i,G.line,DH (AG ps ts)⟩])[k]?=some p:=l
    by_cases e:k<x.c.ins.length
    ·rw[Xv e] at d;rw[Xv (by rw[<-f.len];exact e)] at l;show Bw G.I g i q=_;rw[Ik _ (o x (by simp) q (Xz d))];exact f.ins k q p d l
    ·have P:=(Xe.1 d).1
     simp at P
     have H:k=x.c.ins.length:=by omega
     subst H;rw[XI (Xf _),YO] at d;rw[f.len,XI (Xf _),YO] at l
     cases d;cases l
     exact Ho _ _ _
   ·show (x.pb.code++[_]).length<=24;rw[Xd,<-f.len];simp;omega
  ·show (G.las++cs).map BA.key=_;rw[XH,F,A,List.drop_left]
  ·rw[A,List.take_left]
  ·have w:=h.ndi;rw[XZ] at w;simp only[XP,List.flatMap_nil,Yf] at w;rw[<-n];show (z.flatMap (λx=>x.c.ins)++(x.c.ins++[g])).Nodup;rw[<-Xx,ado];refine⟨w,by simp,λk d j t=>?_⟩
   obtain rfl:=XR.1 t
   rcases XX.1 d with d|d
   ·obtain⟨y,m,S⟩:=acZ.1 d;exact o y (YM _ m) k S
   ·exact o x (by simp) k d
 ·show (s.bod.dropLast++[x'.pb]).length=s.bod.length;rw[h.bod];simp
 ·show (G.las++cs).length<=_;rw[Xd];omega
theorem acn {ts:List Tx} (h:Cb G nb s X) (z:KL G n0) (t:Ng n0 ts G G'):∃f C,ts.length=1/\Bq 116 ts s = .ok f/\Cb G' nb (IA f) C/\(∀k,(s.nms k).length<=4->(f.nms k).length<=4)/\(f.nms 116).length=(s.nms 116).length+1/\f.bod=s.bod/\G'.las=G.las/\G'.line=G.line:=by
 obtain⟨n,i,a,lm,v,m,Q,rfl⟩:=t;obtain⟨f,w,g,K,F,x,P,J,E⟩:=Rr m h;have O:i.B=G.B/\i.I=G.I:=⟨m.2.2.2.2.2.2.2.2.2.1,m.2.2.2.2.2.2.2.2.2.2.1⟩;have o:∀y,y∈X->y.a≠a:=λy d e=>by
  have:=z.1 y.a y.c (h.each y d).b
  omega
 refine⟨f,X++[⟨a,{lm:=lm,cv:=.slice none 0 0,ins:=[],labs:=λ_=>none},⟨[],λ_=>none⟩⟩],n,w,⟨g.N,g.nms,?_,?_,λy d=>?_,?_,?_,?_⟩,F,by rw[x,Xd,n],K,J,E⟩
 ·show i.bods++[a]=_;rw[g.bods];simp
 ·show f.bod++[⟨[],λ_=>none⟩]=_;rw[g.bod];simp
 ·rcases XX.1 d with d|d
  ·obtain⟨r,H,u,A,D⟩:=g.each y d
   exact⟨(Ik _ (o y d)).trans r,H,u,A,D⟩
  ·obtain rfl:=XR.1 d
   exact⟨Ho _ _ _,rfl,rfl,(λk M p l=>by cases l),by simp⟩
 ·show i.las.map BA.key=_;rw[g.keys,XZ];simp[CS]
 ·rw[XH,ado];refine⟨h.nda,by simp,λk l j q=>?_⟩
  simp at q
  obtain⟨y,d,rfl⟩:=Yg.1 l;rw[q];exact o y d
 ·rw[XZ];simpa using g.ndi
theorem SZ {f:Tx} {ts:List Tx} (c:RZ n0 nb f ts G G') (h:Cb G nb s X) (d:KJ s) (o:KL G n0):∃s' g,stepT G.line f ts s = .ok s'/\Cb G' nb s' g/\KJ s'/\G'.las.length<=G.las.length+3/\G'.line=G.line:=by
 rcases c with⟨i,c⟩|⟨i,M,c⟩|⟨i,a,bc,p,r,c⟩
 ·obtain⟨j,g,v,V,A,I,N,C,K,U⟩:=acn h o c;refine⟨IA j,g,?_,A,⟨?_,λk=>I k (d.few k)⟩,by rw[K];omega,U⟩
  ·unfold stepT;rw[if_pos i,if_pos v,V];rfl
  ·show (j.nms 116).length=(j.bod++[_]).length;rw[N,C,Xd,d.thr];rfl
 ·obtain⟨j,B,z,Z,R,d5,E,Y,O⟩:=Rr c h;have F:s.bod=[]:=by
   have:=h.bods;rw[M] at this;have J:X=[]:=by
    cases X with
    |nil=>rfl
    |cons x X=>simp at this
   rw[h.bod,J];rfl
  refine⟨j,X,?_,z,⟨?_,λk=>R k (d.few k)⟩,by rw[Y];omega,O⟩
  ·unfold stepT;rw[if_neg i,F];exact B
  ·have l:(116:Int)≠Cu f:=by
    unfold Cu
    split
    ·decide
    ·split
     ·decide
     ·split<;>decide
   rw[E 116 l,Z];exact d.thr
 ·rcases c with⟨n,S,u,t,rfl⟩|⟨n,c⟩
  ·obtain⟨b,g,m,Q,w⟩:=Wi h p r t;refine⟨_,g,?_,w,⟨?_,d.few⟩,by show G.las.length<=_;omega,rfl⟩
   ·unfold stepT;rw[if_neg i,m];show (if Bn f=true/\ts=[] then _ else _)=_;rw[if_pos ⟨n,S⟩];unfold EF;rw[if_neg (by rw[u];simp),Q]
   ·show (s.nms 116).length=(s.bod.dropLast++[_]).length;have l:s.bod≠[]:=λe=>by rw[e] at m;cases m
    have:=List.length_pos_iff.2 l;rw[Xd,List.length_dropLast,d.thr];simp;omega
  ·obtain⟨b,g,s',H,W,D,q,P,T,y⟩:=aan h o p r c;refine⟨s',g,?_,D,⟨by rw[q,P];exact d.thr,by rw[q];exact d.few⟩,T,y⟩;unfold stepT;rw[if_neg i,H];show (if Bn f=true/\ts=[] then _ else _)=_;rw[if_neg n];exact W
theorem Tb {f:Tx} {ts:List Tx} {e:Int} (d:Sa f ts G e) (h:Cb G nb s X):stepT G.line f ts s = .error e:=by
 unfold stepT
 rcases d with⟨i,d⟩|⟨i,j,d⟩|⟨i,a,r,t,B,d⟩
 ·rw[if_pos i]
  rcases d with⟨j,rfl⟩|⟨j,d⟩
  ·rw[if_neg j]
  ·rw[if_pos j,Rs d h];rfl
 ·have u:s.bod=[]:=by
   have:=h.bods;rw[j] at this;have w:X=[]:=by
    cases X with
    |nil=>rfl
    |cons x X=>simp at this
   rw[h.bod,w];rfl
  rw[if_neg i,u];exact Rs d h
 ·rw[if_neg i];obtain⟨D,x,rfl,rfl,z,C⟩:=LZ h t;have m:=h.each x (by simp);have p:x.c=r:=by have:=m.b;rw[B] at this;exact(Yb this).symm
  subst p;rw[z]
  rcases d with⟨l,A,d⟩|⟨l,d⟩
  ·show (if Bn f=true/\ts=[] then _ else _)=_;rw[if_pos ⟨l,A⟩];unfold EF
   rcases d with⟨g,rfl⟩|⟨g,⟨n,v⟩,rfl⟩
   ·rw[if_pos g]
   ·rw[if_neg (by rw[g];simp),<-m.labs,v]
  ·show (if Bn f=true/\ts=[] then _ else _)=_;rw[if_neg l];unfold Dn
   rcases d with⟨g,rfl⟩|⟨ps,g,q,k⟩
   ·cases y:Ct f with
    |none=>rfl
    |some ps=>
     show (if AV ts ps=false then _ else _)=_;rw[if_pos (g ps y)]
   ·rw[g];show (if AV ts ps=false then _ else _)=_;rw[if_neg (by rw[q];simp)];rw[<-m.len]
    rcases k with⟨k,rfl⟩|⟨k,o,rfl⟩
    ·rw[if_pos k]
    ·rw[h.N] at o;rw[if_neg (by omega),o]
end
def Ea (N:Tx->Option (Int×Nat)) (labs:Tx->Option Nat) (k:Int):Tx->Option (Int×Nat):=if k=116 then N else Hr labs
def EG (N:Tx->Option (Int×Nat)) (labs:Tx->Option Nat) (q:Int×Tx):Option Nat:=match Ea N labs q.1 q.2 with
 |some p=>if p.1=q.1 then some p.2 else none
 |none=>none
def CI (N:Tx->Option (Int×Nat)) (labs:Tx->Option Nat):Ac->List (Int×Tx)->Option Ac
 |i,[]=>some i
 |i,q::l=>match EG N labs q with
  |some n=>CI N labs {i with x:=(n:Int)} l
  |none=>none
def DG (N:Tx->Option (Int×Nat)) (labs:Tx->Option Nat):List PI->Except Int (List Ac)
 |[]=>.ok []
 |p::l=>match CI N labs p.i p.off with
  |some i=>(DG N labs l).map (i :: ·)
  |none=>.error p.line
def CJ (N:Tx->Option (Int×Nat)):List PB->Except Int (List (List Ac))
 |[]=>.ok []
 |b::l=>match DG N b.labs b.code with
  |.ok c=>(CJ N l).map (c :: ·)
  |.error e=>.error e
structure QE where
 ia:Nat
 kd:Int
 nm:Tx
 ln:Int
 T:Tx->Option (Int×Nat)
def Cp:List QE->(Nat->Option Ac)->Except Int (Nat->Option Ac)
 |[],I=>.ok I
 |q::l,I=>match q.T q.nm with
  |some p=>if p.1=q.kd then(match I q.ia with
   |some i=>Cp l (Bw I q.ia {i with x:=(p.2:Int)})
   |none=>.error q.ln) else .error q.ln
  |none=>.error q.ln
abbrev EE:=LB×(Nat×PI)×(Int×Tx)
def Dh (x:LB):List EE:=(x.c.ins.zip x.pb.code).flatMap λp=>p.2.off.map λq=>(x,p,q)
def Qo (nb:Nat) (e:EE):Nat×Nat×Int×Tx×Int:=(e.2.1.1,(if e.2.2.1=116 then nb else e.1.c.lm),e.2.2.1,e.2.2.2,e.2.1.2.line)
def BT (N:Tx->Option (Int×Nat)) (e:EE):QE:=⟨e.2.1.1,e.2.2.1,e.2.2.2,e.2.1.2.line,Ea N e.1.pb.labs e.2.2.1⟩
theorem Qj (a:Nat) (X:List LB):X.flatMap (CS a)=(X.flatMap Dh).map (Qo a):=by
 rw[List.map_flatMap]
 congr 1
 funext x
 unfold CS Dh;rw[List.map_flatMap]
 congr 1
 funext p
 rw[Ze]
 rfl
theorem Om (N:Tx->Option (Int×Nat)) (x:LB) (a:Nat) (p:PI) (rest:List QE):∀(c:List (Int×Tx)) (i:Ac) (I:Nat->Option Ac),I a=some i->
 (∃i' e,CI N x.pb.labs i c=some i'/\(∀b,b≠a->e b=I b)/\e a=some i'/\Cp ((c.map λq=>BT N (x,(a,p),q))++rest) I=Cp rest e)\/(CI N x.pb.labs i c=none/\Cp ((c.map λq=>BT N (x,(a,p),q))++rest) I = .error p.line)
 |[],i,I,h=>.inl ⟨i,I,rfl,λ_ _=>rfl,h,rfl⟩
 |q::c,i,I,h=>by
  cases d:Ea N x.pb.labs q.1 q.2 with
  |none=>
   right;constructor
   ·unfold CI EG;rw[d]
   ·show Cp (BT N (x,(a,p),q)::_) I=_;unfold Cp;show (match Ea N x.pb.labs q.1 q.2 with|some j=>_|none=>_)=_;rw[d];rfl
  |some t=>
   by_cases f:t.1=q.1
   ·have g:EG N x.pb.labs q=some t.2:=by unfold EG;rw[d];show (if t.1=q.1 then _ else _)=_;rw[if_pos f]
    have l:Cp (((q::c).map λq=>BT N (x,(a,p),q))++rest) I=Cp ((c.map λq=>BT N (x,(a,p),q))++rest) (Bw I a {i with x:=(t.2:Int)}):=by
     show Cp (BT N (x,(a,p),q)::_) I=_
     conv=>lhs;unfold Cp
     show (match Ea N x.pb.labs q.1 q.2 with|some j=>_|none=>_)=_;rw[d];show (if t.1=q.1 then _ else _)=_;rw[if_pos f];show (match I a with|some i=>_|none=>_)=_;rw[h];rfl
    have m:CI N x.pb.labs i (q::c)=CI N x.pb.labs {i with x:=(t.2:Int)} c:=by
     conv=>lhs;unfold CI
     rw[g]
    rw[l,m]
    rcases Om N x a p rest c {i with x:=(t.2:Int)} (Bw I a {i with x:=(t.2:Int)}) (Ho _ _ _) with⟨i',e,h1,h2,h3,h4⟩|⟨h1,h2⟩
    ·exact .inl ⟨i',e,h1,λb k=>(h2 b k).trans (Ik _ k),h3,h4⟩
    ·exact .inr ⟨h1,h2⟩
   ·right;constructor
    ·have g:EG N x.pb.labs q=none:=by unfold EG;rw[d];show (if t.1=q.1 then _ else _)=_;rw[if_neg f]
     unfold CI;rw[g]
    ·show Cp (BT N (x,(a,p),q)::_) I=_;unfold Cp;show (match Ea N x.pb.labs q.1 q.2 with|some j=>_|none=>_)=_;rw[d];show (if t.1=q.1 then _ else _)=_;rw[if_neg f];rfl
theorem Oo (N:Tx->Option (Int×Nat)) (x:LB) (rest:List QE):∀(al:List Nat) (ps:List PI) (I:Nat->Option Ac),al.length=ps.length->al.Nodup->(∀(k a:Nat) (p:PI),al[k]?=some a->ps[k]?=some p->I a=some p.i)->
 (∃is c,DG N x.pb.labs ps = .ok is/\is.length=al.length/\(∀b,b∉al->c b=I b)/\(∀(k a:Nat) (i:Ac),al[k]?=some a->is[k]?=some i->c a=some i)/\Cp (((al.zip ps).flatMap λp=>p.2.off.map λq=>BT N (x,p,q))++rest) I=Cp rest c)\/∃e,DG N x.pb.labs ps = .error e/\Cp (((al.zip ps).flatMap λp=>p.2.off.map λq=>BT N (x,p,q))++rest) I = .error e
 |[],[],I,_,_,_=>.inl ⟨[],I,rfl,rfl,λ_ _=>rfl,(λk a i h=>by cases h),rfl⟩
 |[],_::_,_,h,_,_=>by simp at h
 |_::_,[],_,h,_,_=>by simp at h
 |a::al,p::ps,I,hl,hn,hI=>by
  rw[List.nodup_cons] at hn;have v:I a=some p.i:=hI 0 a p rfl rfl;have y:(((a::al).zip (p::ps)).flatMap λp=>p.2.off.map λq=>BT N (x,p,q))++rest=(p.off.map λq=>BT N (x,(a,p),q))++(((al.zip ps).flatMap λp=>p.2.off.map λq=>BT N (x,p,q))++rest):=by
   rw[List.zip_cons_cons,XP,Xx]
  rw[y]
  rcases Om N x a p (((al.zip ps).flatMap λp=>p.2.off.map λq=>BT N (x,p,q))++rest) p.off p.i I v with⟨i',n,f,g,t,A⟩|⟨f,g⟩
  ·rw[A];have w:∀(k b:Nat) (q:PI),al[k]?=some b->ps[k]?=some q->n b=some q.i:=λk b q d s=>by
    rw[g b (λe=>hn.1 (by rw[<-e];exact Xz d))];exact hI (k+1) b q (by simpa using d) (by simpa using s)
   rcases Oo N x rest al ps n (by simpa using hl) hn.2 w with⟨is,c,j,l,r,z,u⟩|⟨e,j,l⟩
   ·refine .inl ⟨i'::is,c,?_,by simp[l],λb m=>?_,λk b i d o=>?_,u⟩
    ·unfold DG;rw[f,j];rfl
    ·simp only[List.mem_cons,not_or] at m;rw[r b m.2,g b m.1]
    ·cases k with
     |zero=>
      cases d;cases o
      rw[r a hn.1];exact t
     |succ k=>exact z k b i (by simpa using d) (by simpa using o)
   ·refine .inr ⟨e,?_,l⟩;unfold DG;rw[f,j];rfl
  ·refine .inr ⟨p.line,?_,g⟩;unfold DG;rw[f]
theorem Lp (N:Tx->Option (Int×Nat)):∀(X:List LB) (I:Nat->Option Ac),(X.flatMap λx=>x.c.ins).Nodup->(∀x,x∈X->x.c.ins.length=x.pb.code.length/\∀(k a:Nat) (p:PI),x.c.ins[k]?=some a->x.pb.code[k]?=some p->I a=some p.i)->
 (∃C d,CJ N (X.map LB.pb) = .ok C/\C.length=X.length/\(∀b,b∉(X.flatMap λx=>x.c.ins)->d b=I b)/\(∀(j:Nat) (x:LB) (is:List Ac),X[j]?=some x->C[j]?=some is->is.length=x.c.ins.length/\∀(k a:Nat) (i:Ac),x.c.ins[k]?=some a->is[k]?=some i->d a=some i)/\Cp ((X.flatMap Dh).map (BT N)) I = .ok d)\/∃e,CJ N (X.map LB.pb) = .error e/\Cp ((X.flatMap Dh).map (BT N)) I = .error e
 |[],I,_,_=>.inl ⟨[],I,rfl,rfl,λ_ _=>rfl,(λj x is h=>by cases h),rfl⟩
 |x::X,I,hn,hI=>by
  rw[XP,ado] at hn;obtain⟨D,J,w⟩:=hn;have A:=hI x (by simp);have M:((x::X).flatMap Dh).map (BT N)=((x.c.ins.zip x.pb.code).flatMap λp=>p.2.off.map λq=>BT N (x,p,q))++(X.flatMap Dh).map (BT N):=by
   rw[XP,XH]
   congr 1
   unfold Dh;rw[List.map_flatMap]
   congr 1
   funext p
   rw[Ze]
   rfl
  rw[M]
  rcases Oo N x ((X.flatMap Dh).map (BT N)) x.c.ins x.pb.code I A.1 D A.2 with⟨is,u,g,o,t,Q,O⟩|⟨e,g,o⟩
  ·rw[O];have H:∀y,y∈X->y.c.ins.length=y.pb.code.length/\∀(k a:Nat) (p:PI),y.c.ins[k]?=some a->y.pb.code[k]?=some p->u a=some p.i:=λy v=>by
    have:=hI y (by simp[v]);refine⟨this.1,λk a p f K=>?_⟩;rw[t a (λl=>w a l a (acZ.2 ⟨y,v,Xz f⟩) rfl)];exact this.2 k a p f K
   rcases Lp N X u J H with⟨C,d,m,n,B,P,E⟩|⟨e,m,n⟩
   ·refine .inl ⟨is::C,d,?_,by simp[n],λb r=>?_,λj y F z s=>?_,E⟩
    ·rw[YZ];unfold CJ;rw[g];show (CJ N (X.map LB.pb)).map _=_;rw[m];rfl
    ·rw[XP,XX,not_or] at r;rw[B b r.2,t b r.1]
    ·cases j with
     |zero=>
      cases z;cases s
      refine⟨o,λk a i f G=>?_⟩;rw[B a (λl=>w a (Xz f) a l rfl)];exact Q k a i f G
     |succ j=>exact P j y F (by simpa using z) (by simpa using s)
   ·refine .inr ⟨e,?_,n⟩;rw[YZ];unfold CJ;rw[g];show (CJ N (X.map LB.pb)).map _=_;rw[m];rfl
  ·refine .inr ⟨e,?_,o⟩;rw[YZ];unfold CJ;rw[g]
def BJ (n:Int) (l:Tx) (s:PS):Except Int PS:=match Cf l with
 |[]=>.ok s
 |f::ts=>stepT n f ts s
def BP:List Tx->Int->PS->Except (Int×Int) PS
 |[],_,s=>.ok s
 |l::ls,n,s=>match BJ (n+1) l s with
  |.ok s'=>BP ls (n+1) s'
  |.error e=>.error (e,n+1)
end Go.Proofs.YtdcacoifehkioaaGreatDoor
namespace Go.Proofs.YtdcacoifehkioaaGreatDoor
open Go.RowKit Go.Shelf Go.Proofs.Cod
theorem Ai.Kg {w w':Xg} {d:Nat->RT} {base rb m lb:Nat} {G:RG} (h:Ai w d base rb m lb G) (j:∀b,b<w.heap.size->d b≠.o\/b<base->w'.heap[b]?=w.heap[b]?) (r:w.heap.size<=w'.heap.size):Ai w' d base rb m lb G:=by
 have key:∀{b:Nat} {g:RT},d b=g->g≠.o->w'.heap[b]?=w.heap[b]?/\d b=g:=λ{b g} e p=>⟨j b (h.lt e p) (.inl (by rw[e];exact p)),e⟩
 have l:=h.g1;have q:=h.g2;have v:=h.g3;refine⟨(key h.trd (by simp)).1.trans h.cell,λk u=>(h.rows k u).kept λb e=>key e (by simp),h.brow.kept λb e=>key e (by simp),h.lrow.kept λb e=>key e (by simp),h.names.kept (key h.tnm (by simp)).1 λb e=>key e (by simp),?_,λa c f=>?_,λa i s=>?_,λc f=>(h.clos c f).kept λb e=>key e (by simp),h.trd,h.tnm,h.tli,λb e=>⟨(h.tlt b e).1,Nat.lt_of_lt_of_le (h.tlt b e).2 r⟩,h.heads.kept (j _ (by omega) (.inr l)),h.shapes.kept (j _ (by omega) (.inr q)),l,q,by omega⟩
 ·obtain⟨n,t⟩:=h.lists
  exact⟨n,t.same (key h.tli (by simp)).1⟩
 ·refine(h.bodies a c f).kept λb e=>?_
  rcases e with e|e|e|e
  ·exact⟨(key e (by simp)).1,rfl⟩
  ·exact⟨(key e (by simp)).1,rfl⟩
  ·exact⟨(key e (by simp)).1,rfl⟩
  ·exact⟨(key e (by simp)).1,rfl⟩
 ·have:=h.ins a i s
  exact⟨(key this.2 (by simp)).1.trans this.1,this.2⟩
theorem Ai.fresh {w:Xg} {d:Nat->RT} {base rb g lb:Nat} {G:RG} (h:Ai w d base rb g lb G):KL G w.heap.size:=
 ⟨λa c b=>h.lt (h.bodies a c b).ta (by simp),λf i e=>h.lt (h.ins f i e).2 (by simp)⟩
theorem Ai.TU {w:Xg} {d:Nat->RT} {base rb m lb:Nat} {G:RG} (h:Ai w d base rb m lb G) (n:Int):Ai (w.setCell ⟨rb,0,none⟩ (.int .i64 n)) d base rb m lb {G with line:=n}/\Ag w d (w.setCell ⟨rb,0,none⟩ (.int .i64 n)) d:=by
 have l:Ag w d (w.setCell ⟨rb,0,none⟩ (.int .i64 n)) d:=⟨rfl,rfl,rfl,by simp,λ_ _=>rfl,λb _ o=>Below.heap_setCell w ⟨rb,0,none⟩ _ b (BI o h.trd (by simp))⟩;refine⟨h.step (λg=>g = .rd) l (λb _ _ q=>Below.heap_setCell w ⟨rb,0,none⟩ _ b (λe=>q (by rw[e];exact h.trd))) (λb r p=>absurd (h.tlt b p).2 (by omega)) (by rw[heap_setCell_same w rb 0 _ _ _ h.cell];rfl) (λk _=>.inl ⟨rfl,rfl,by simp⟩) (.inl ⟨rfl,rfl,by simp⟩) (.inl ⟨rfl,rfl,by simp⟩) (.inl ⟨rfl,by simp⟩) (by simp) (by simp) (by simp) (λa c f=>.inl ⟨f,by simp,by simp,by simp⟩) (λa i j=>.inl ⟨j,?_⟩) (λc f=>.inl f),l⟩;exact Below.heap_setCell w ⟨rb,0,none⟩ _ a (BI (h.ins a i j).2 h.trd (by simp))
theorem Cb.line {G:RG} {c:Nat} {s:PS} {X:List LB} (h:Cb G c s X) (n:Int):Cb {G with line:=n} c s X:=
 ⟨h.N,h.nms,h.bods,h.bod,λx a=>⟨(h.each x a).b,(h.each x a).labs,(h.each x a).len,(h.each x a).ins,(h.each x a).small⟩,h.keys,h.nda,h.ndi⟩
theorem Ma {ls:List Tx} {i:Nat} {l:Tx} (c:ls[i]?=some l) {n:Int} {a s:PS} (h:BP (ls.take i) n a = .ok s):(∀s',BJ (n+i+1) l s = .ok s'->BP (ls.take (i+1)) n a = .ok s')/\(∀e,BJ (n+i+1) l s = .error e->BP ls n a = .error (e,n+i+1)):=by
 induction ls generalizing i n a with
 |nil=>cases c
 |cons x ls k=>
  cases i with
  |zero=>
   have c:some x=some l:=c
   cases c
   have e:a=s:=by
    have h:(Except.ok a:Except (Int×Int) PS) = .ok s:=h;exact Except.ok.inj h
   subst e;constructor
   ·intro s' b;have b:BJ (n+1) l a = .ok s':=by simpa using b
    show (match BJ (n+1) l a with | .ok s'=>BP (ls.take 0) (n+1) s' | .error e=>.error (e,n+1))=_;rw[b];rfl
   ·intro e b;have b:BJ (n+1) l a = .error e:=by simpa using b
    show (match BJ (n+1) l a with | .ok s'=>BP ls (n+1) s' | .error e=>.error (e,n+1))=_;rw[b]
    simp
  |succ i=>
   have h:(match BJ (n+1) x a with | .ok s'=>BP (ls.take i) (n+1) s' | .error e=>.error (e,n+1)) = .ok s:=h
   cases d:BJ (n+1) x a with
   |error e=>rw[d] at h;cases h
   |ok m=>
    rw[d] at h;have g:n+((i+1:Nat):Int)+1=(n+1)+(i:Int)+1:=by omega
    rw[g];obtain⟨f,j⟩:=k (by simpa using c) h;constructor
    ·intro s' b;show (match BJ (n+1) x a with | .ok s'=>BP (ls.take (i+1)) (n+1) s' | .error e=>.error (e,n+1))=_;rw[d];exact f s' b
    ·intro e b;show (match BJ (n+1) x a with | .ok s'=>BP ls (n+1) s' | .error e=>.error (e,n+1))=_;rw[d];exact j e b
attribute [local go_sem] Oper.semAt_some
theorem QY {P:Y4} {w:Xg} {fn:Func} {tmps:Array Xj} {b:Nat} {e l:Int} (c:fn.results = #[.cell 4 138]) (g:tmps[4]?=some (.pointer (some ⟨b,0,none⟩))) (a:w.heap[b]?=some (.cells #[.int .i64 e,.int .i64 l] 138)):(results fn tmps).run Tryz.prog w = .ok (.agg #[.int .i64 e,.int .i64 l]) w:=by
 have d:w.cell? ⟨b,0,none⟩=some (.int .i64 e):=by simp[Xh,a]
 have f:w.cell? ⟨b,1,none⟩=some (.int .i64 l):=by simp[Xh,a]
 simp[results,c,g,go_sem,d,f]
theorem Qc {W:Xg} {n:Nat} {tmps:Array Xj} {R:Ending->Xg->Prop} {e l x y:Int} (q:tmps[4]?=some (.pointer (some ⟨n+1,0,none⟩))) (c:W.heap[n+5]?=some (.deferred (some []))) (j:W.heap[n+1]?=some (.cells #[.int .i64 x,.int .i64 y] 138))
 (h:∀a,(∀b,b<W.heap.size->b≠n+1->b≠n+5->a.heap[b]?=W.heap[b]?)->W.heap.size<=a.heap.size->a.os=W.os->a.tape=W.tape->a.output=W.output->R (.returned (.agg #[.int .i64 e,.int .i64 l])) a) :
 LeavesInM Fence.wide 9 Tryz.prog Tryz.f48 tmps R [{target:=.collected (n+5),args := #[]},{target:=.fn (.func 104) #[.pointer (some ⟨n+1,0,none⟩)],args := #[]}] (.panicking (El e l)) W:=by
 have w:n+5<W.heap.size:=(Xa.1 c).1;refine⟨by simp,.inl ⟨n+5,_,rfl,Zv c,?_⟩⟩;refine⟨by simp,.inr ⟨λ_=>by omega,_,_,104,#[.pointer (some ⟨n+1,0,none⟩)],rfl,by simp[invoke,go_sem],λ_ _=>trivial,?_⟩⟩;refine(ab9 (n+1) _ e l x y _ ((X9 (by omega)).trans j)).mono ?_;rintro u t w' ⟨rfl,⟨v,rfl⟩,f,o,d,s,p,k⟩;have g:settle (.panicking [{v:=v,recovered:=true}]) = .returning:=rfl;show LeavesInM _ _ _ _ _ _ [] (settle _) w';rw[g];refine⟨_,QY (P:=Tryz.prog) rfl q f,h w' (λb r m i=>(o b (by simpa using r) m).trans (X9 i)) (by simpa using d) s p k⟩
theorem WC {W:Xg} {n:Nat} {tmps:Array Xj} {R:Ending->Xg->Prop} {e l:Int} (h:tmps[4]?=some (.pointer (some ⟨n+1,0,none⟩))) (c:W.heap[n+5]?=some (.deferred (some []))) (g:W.heap[n+1]?=some (.cells #[.int .i64 e,.int .i64 l] 138))
 (i:∀a,(∀b,b<W.heap.size->b≠n+5->a.heap[b]?=W.heap[b]?)->W.heap.size<=a.heap.size->a.os=W.os->a.tape=W.tape->a.output=W.output->R (.returned (.agg #[.int .i64 e,.int .i64 l])) a) :
 LeavesInM Fence.wide 9 Tryz.prog Tryz.f48 tmps R [{target:=.collected (n+5),args := #[]},{target:=.fn (.func 104) #[.pointer (some ⟨n+1,0,none⟩)],args := #[]}] .returning W:=by
 have m:n+5<W.heap.size:=(Xa.1 c).1;refine⟨by simp,.inl ⟨n+5,_,rfl,Zv c,?_⟩⟩;refine⟨by simp,.inr ⟨λ_=>by omega,_,_,104,#[.pointer (some ⟨n+1,0,none⟩)],rfl,by simp[invoke,go_sem],λ_ _=>trivial,?_⟩⟩;refine(ab8 ⟨n+1,0,none⟩ _ _).mono ?_;rintro k j w' ⟨rfl,rfl,rfl⟩;have f:settle .returning = .returning:=rfl;show LeavesInM _ _ _ _ _ _ [] (settle _) _;rw[f];refine⟨_,QY (P:=Tryz.prog) rfl h ((X9 (by omega)).trans g),i _ (λb o d=>X9 d) (by simp) rfl rfl rfl⟩
structure Bz (w:Xg) (base:Nat) (vV fV lV thV:Xj) (vs fs ls:List Tx) (L:List (Tx×Xj)) (C:List (List Ac)):Prop where
 v:w.ownsRow base 9 1 vV vs.length (vs.map BB)
 f:w.ownsRow base 9 1 fV fs.length (fs.map BB)
 l:w.ownsRow base 9 1 lV ls.length (ls.map BB)
 t:w.ownsRow base 122 2 thV L.length (If L)
 c:∀(i:Nat) (p:Tx×Xj) (is:List Ac),L[i]?=some p->C[i]?=some is->w.ownsRow base 108 7 p.2 is.length (FE is)
 len:C.length=L.length
def Sd (w:Xg) (b:Nat):Prop:=∀cs e,w.heap[b]?=some (.cells cs e)->e≠9/\e≠122/\e≠108
theorem IY {w w':Xg} {base e d n:Nat} {v:Xj} {i:List Xj} (h:w.ownsRow base e d v n i) (l:e=9\/e=122\/e=108) (k:∀b,base<=b->b<w.heap.size->¬Sd w b->w'.heap[b]?=w.heap[b]?):w'.ownsRow base e d v n i:=by
 refine⟨h.1,?_⟩
 rcases h.2 with m|⟨g,cap,j,rfl,f,c,rest⟩
 ·exact .inl m
 ·refine .inr ⟨g,cap,j,rfl,f,(k g f (Xa.1 c).1 (λo=>?_)).trans c,rest⟩;have:=o j e c
  rcases l with a|a|a
  ·exact this.1 a
  ·exact this.2.1 a
  ·exact this.2.2 a
theorem Bz.kept {w w':Xg} {base:Nat} {d e lV g:Xj} {vs fs ls:List Tx} {L:List (Tx×Xj)} {C:List (List Ac)} (h:Bz w base d e lV g vs fs ls L C) (a:∀b,base<=b->b<w.heap.size->¬Sd w b->w'.heap[b]?=w.heap[b]?):Bz w' base d e lV g vs fs ls L C:=
 ⟨IY h.v (.inl rfl) a,IY h.f (.inl rfl) a,IY h.l (.inl rfl) a,IY h.t (.inr (.inl rfl)) a,λi p is j k=>IY (h.c i p is j k) (.inr (.inr rfl)) a,h.len⟩
def Dc (t:Tx):Except (Int×Int) (PS×List (List Ac)):=match BP (Ap 10 t) 0 PS.new with
 |.error e=>.error e
 |.ok s=>match CJ s.N s.bod with
  |.error l=>.error (5,l)
  |.ok C=>.ok (s,C)
structure Sb (w':Xg) (base rb:Nat) (s:PS) (C:List (List Ac)):Prop where
 ex:∃vV fV lV thV L,w'.cell? ⟨rb,1,none⟩=some vV/\w'.cell? ⟨rb,2,none⟩=some fV/\w'.cell? ⟨rb,3,none⟩=some lV/\w'.cell? ⟨rb,4,none⟩=some thV/\Bz w' base vV fV lV thV (s.nms 118) (s.nms 102) (s.nms 109) L C/\L.map Prod.fst=s.nms 116
def acP (w:Xg) (base rb:Nat) (t:Tx) (e:Ending) (w':Xg):Prop:=Below base w w'/\((∃er ln,Dc t = .error (er,ln)/\e = .returned (.agg #[.int .i64 er,.int .i64 ln]))\/(∃s C,Dc t = .ok (s,C)/\e = .returned (.agg #[.int .i64 0,.int .i64 0])/\Sb w' base rb s C))
theorem Pf {t:Tx} {e l:Int} (h:BP (Ap 10 t) 0 PS.new = .error (e,l)):Dc t = .error (e,l):=by unfold Dc;rw[h]
theorem Pe {t:Tx} {s:PS} {l:Int} (h:BP (Ap 10 t) 0 PS.new = .ok s) (a:CJ s.N s.bod = .error l):Dc t = .error (5,l):=by unfold Dc;rw[h];show (match CJ s.N s.bod with | .error l=>_ | .ok C=>_)=_;rw[a]
theorem Pc {t:Tx} {s:PS} {C:List (List Ac)} (h:BP (Ap 10 t) 0 PS.new = .ok s) (a:CJ s.N s.bod = .ok C):Dc t = .ok (s,C):=by unfold Dc;rw[h];show (match CJ s.N s.bod with | .error l=>_ | .ok C=>_)=_;rw[a]
structure Se (W:Xg) (tag:Nat->RT) (base rb nb lb:Nat) (G:RG) (s:PS) (X:List LB) (j:Nat) (Wj:Xg) (I:Nat->Option Ac):Prop where
 rd:Ai Wj tag base rb nb lb {G with I:=I}
 ext:Ag W tag Wj tag
 run:Cp ((X.flatMap Dh).map (BT s.N)) G.I=Cp (((X.flatMap Dh).map (BT s.N)).drop j) I
 some:∀ia,(G.I ia).isSome=true->(I ia).isSome=true
theorem Cb.WH {G:RG} {d:Nat} {s:PS} {X:List LB} (h:Cb G d s X) {j:Nat} {c:BA} (i:G.las[j]?=some c):∃x p q,(X.flatMap Dh)[j]?=some (x,p,q)/\x∈X/\c.ia=p.1/\c.tb=(if q.1=116 then d else x.c.lm)/\c.kd=q.1/\c.nm=q.2/\c.ln=p.2.line/\p.1∈x.c.ins:=by
 have f:(G.las.map BA.key)[j]?=some c.key:=by rw[Xp,i];rfl
 rw[h.keys,Qj,Xp] at f;obtain⟨⟨x,p,q⟩,g,b⟩:=Option.map_eq_some_iff.1 f;have a:=Xz g;obtain⟨y,m,a⟩:=acZ.1 a;unfold Dh at a;obtain⟨p',r,a⟩:=acZ.1 a;obtain⟨l,v,e⟩:=Yg.1 a;simp only[Prod.mk.injEq] at e;obtain⟨rfl,rfl,rfl⟩:=e;simp only[Qo,BA.key,Prod.mk.injEq] at b;obtain⟨n,t,u,o,k⟩:=b
 exact⟨y,p',l,g,m,n.symm,t.symm,u.symm,o.symm,k.symm,(List.of_mem_zip r).1⟩
end Go.Proofs.YtdcacoifehkioaaGreatDoor
namespace Go.Proofs.YtdcacoifehkioaaGreatDoor
open Go
section
variable {F:Fence} {n:Nat} {P:Y4} {ops:Array Oper} {Q:Exit->Act->Xg->Prop} {md:Region.Mode} {S:Xg->Prop}
def RB (ops:Array Oper):Bool:=ops.all λo=>match o.op with | .defer _=>false | .select .. =>false|_=>true
theorem Kx (h:RB ops=true) {j:Nat} {o:Oper} (a:ops[j]?=some o):(∀c,o.op≠.defer c)/\∀cs b,o.op≠.select cs b:=by
 have:=Array.all_eq_true_iff_forall_mem.1 h o (Array.mem_of_getElem? a)
 exact⟨λc e=>by simp[e] at this,λcs b e=>by simp[e] at this⟩
theorem VC {j:Nat} {g:Oper} {d:Option Tmp} {v:Xj} {K:Act->Xg->Prop} {a:Act} {w:Xg} (A:ops[j]?=some g)
 (o:(∀c,g.op≠.defer c)/\∀cs b,g.op≠.select cs b) (p:∀x,d=some x->x∉g.looksAt ops) (B:∀x,d=some x->g.dst≠some x)
 (m:∀c a w,Q (.panic c) (a.put d v) w->Q (.panic c) a w) (h:wpOpIn F n P ops Q j K (a.put d v) w) :
 wpOpIn F n P ops Q j (λt w'=>(∃u z,t=({a with defers:=z}:Act).put g.dst u)/\K (t.put d v) w') a w:=by
 have y:g.semAt F.round (a.put d v).eval=g.semAt F.round a.eval:=by
  rw[Oper.semAt_eq _ _ _ o.1,Oper.semAt_eq _ _ _ o.1];exact execOp_put g o.2 a d v p
 have k:∀(b:Act) u,(b.put d v).put g.dst u=(b.put g.dst u).put d v:=λb u=>Act.put_comm b v u B;unfold wpOpIn Oper.wpIn at h |-;simp only[A,wanted_put g a d v p,about_put g w a d v p,y] at h |-
 by_cases q:ZA g (yielded ops a.tmps)=true
 ·rw[if_pos q] at h |-;refine⟨h.1,?_⟩;have h:=h.2
  revert h
  generalize (g.semAt F.round a.eval).run P w=r;intro h
  rcases r with⟨x,w'⟩|⟨x,w'⟩
  ·cases x with
   |value u=>simp only[ZO] at h |-;exact⟨⟨u,a.defers,rfl⟩,k a u ▸ h⟩
   |skip=>simp only[ZO] at h |-;exact⟨⟨_,a.defers,rfl⟩,k a _ ▸ h⟩
   |defer e=>
    simp only[ZO] at h |-;rw[Act.put_defers,k] at h
    exact⟨⟨_,e::a.defers,rfl⟩,h⟩
   |enter f args=>
    simp only[ZO] at h |-;refine⟨h.1,h.2.mono λe s i=>?_⟩
    cases e with
    |returned u=>exact⟨⟨u,a.defers,rfl⟩,k a u ▸ i⟩
    |panicked c=>exact m _ _ _ i
    |outgrown=>exact i
   |row r args=>
    simp only[ZO] at h |-
    exact⟨h.1,h.2.mono λu s i=>⟨⟨u,a.defers,rfl⟩,k a u ▸ i⟩⟩
   |round l f tmps C body=>
    simp only[ZO] at h |-;refine⟨h.1,h.2.mono λe s i=>?_⟩
    cases e with
    |returned u=>exact⟨⟨u,a.defers,rfl⟩,k a u ▸ i⟩
    |panicked c=>exact m _ _ _ i
    |outgrown=>exact i
   |_=>simp only[ZO] at h
  ·cases x<;>simp only[ZO] at h |-
   exact m _ _ _ h
 ·rw[if_neg q] at h |-
  exact⟨h.1,⟨_,a.defers,rfl⟩,k a _ ▸ h.2⟩
def GL (F:Fence) (n:Nat) (P:Y4) (md:Region.Mode) (ops:Array Oper) (Q:Exit->Act->Xg->Prop) (S:Xg->Prop):Nat->Array Bool->Act->Xg->Prop
 |0,listed,a,w=>Zq md ops listed=[]/\Q .normal a w
 |k+1,listed,a,w=>(Zq md ops listed=[]->Q .normal a w)/\
  ∀i∈Zq md ops listed,wpOpIn F n P ops Q i (λa' w'=>S w'/\GL F n P md ops Q S k (listed.setIfInBounds i true) a' w') a w
theorem aaC {k:Nat} {b:Array Bool} {a:Act} {w:Xg} (h:GL F n P md ops Q S k b a w):wpAnyIn F n P md ops Q k b a w:=by
 induction k generalizing b a w with
 |zero=>exact h
 |succ k e=>exact⟨h.1,λi d=>wpOpIn_mono (λ_ _ c=>e c.2) (h.2 i d)⟩
def acS (P:Y4) (ops:Array Oper) (S:Xg->Prop) (o:Oper) (v:Xj) (a:Act):Prop:=
 ZA o (yielded ops a.tmps)=true/\(∀w,S w->(execOp a.eval o).run P w = .ok (.value v) w)/\∀w,o.about P w a.eval=none
theorem FD {i:Nat} {o:Oper} {v:Xj} (l:ops[i]?=some o) (y:RB ops=true) (N:∀c a w,Q (.panic c) (a.put o.dst v) w->Q (.panic c) a w) :
 ∀{k:Nat} {b:Array Bool} {a:Act} {w:Xg},Region.free md ops b i=true->(Zq md ops b).contains i=true->acS P ops S o v a->S w->
  GL F n P md ops Q S k (b.setIfInBounds i true) (a.put o.dst v) w->GL F n P md ops Q S (k+1) b a w:=by
 intro k
 induction k with
 |zero=>
  intro b a w _ z d t H;have s:i∈Zq md ops b:=by simpa using z
  refine⟨λh=>absurd (h ▸ s) (by simp),λj x=>?_⟩
  by_cases g:j=i
  ·subst g;unfold wpOpIn Oper.wpIn;simp only[l,if_pos d.1,Oper.semAt_eq _ _ _ (Kx y l).1,d.2.1 w t,ZO]
   exact⟨λf A=>absurd (d.2.2 w ▸ A) (by simp),t,H⟩
  ·have I:=ready_mono x g;rw[H.1] at I;cases I
 |succ k U=>
  intro b a w C z d t H;have s:i∈Zq md ops b:=by simpa using z
  refine⟨λh=>absurd (h ▸ s) (by simp),λj x=>?_⟩
  by_cases g:j=i
  ·subst g;unfold wpOpIn Oper.wpIn;simp only[l,if_pos d.1,Oper.semAt_eq _ _ _ (Kx y l).1,d.2.1 w t,ZO]
   exact⟨λf A=>absurd (d.2.2 w ▸ A) (by simp),t,H⟩
  ·obtain⟨Y,q,B,M⟩:=mem_ready.1 x;have E:=(mem_ready.1 s).1;have Z:∀e∈q.after,Region.binds md e=true->e.on≠i:=λe T hb O=>by
    have r:=M e T hb;rw[O] at r
    rcases Z1 i b.size with p|p
    ·simp[p] at E r;rw[E] at r;cases r
    ·simp[Array.getElem?_eq_none p] at r
   obtain⟨W,X,D⟩:=Oper.apart_spec (Region.free_spec l C j q B g Y Z);refine wpOpIn_mono (λa' w' K=>?_) (VC B (Kx y B) W X N (H.2 j (ready_mono x g)));obtain⟨⟨u,ds,rfl⟩,G,h4⟩:=K;refine⟨G,U ?_ (by simpa using ready_mono s (Ne.symm g)) ⟨?_,λw R=>?_,λw=>?_⟩ G ?_⟩
   ·simp only[Region.free,l,List.all_eq_true] at C |-;intro m V;have h5:=C m V
    by_cases J:j=m
    ·subst J;have:(b.setIfInBounds j true).getD j true=true:=by
      rcases Z1 j b.size with p|p<;>simp[p]
     rw[this];simp
    ·rw[getD_set_ne true J];exact h5
   ·rw[wanted_put o _ q.dst u D];exact d.1
   ·rw[execOp_put o (Kx y l).2 _ q.dst u D];exact d.2.1 w R
   ·rw[about_put o w _ q.dst u D];exact d.2.2 w
   ·rw[Array.setIfInBounds_comm _ _ g];exact h4
theorem Mo {i:Nat} {o:Oper} {k:Nat} {c:Array Bool} {a:Act} {w:Xg} (d:Zq md ops c=[i]) (q:ops[i]?=some o)
 (h:∀b:Act->Xg->Prop,(∀a w,S w->GL F n P md ops Q S k (c.setIfInBounds i true) a w->b a w)->
   if ZA o (yielded ops a.tmps)=true then Oper.wpIn F n P o a w b Q else(∀f,o.about P w a.eval=some f->F.fn f)/\b (a.put o.dst undef) w) :
 GL F n P md ops Q S (k+1) c a w:=by
 refine⟨λp=>absurd (d ▸ p) (by simp),λj e=>?_⟩;rw[d] at e
 obtain rfl:j=i:=by simpa using e
 exact wpOpIn_step q λb l=>h b λa w m g=>l a w ⟨m,g⟩
theorem QD {k:Nat} {c:Array Bool} {a:Act} {w:Xg} (b:Zq md ops c=[]) (h:Q .normal a w):GL F n P md ops Q S k c a w:=by
 cases k with
 |zero=>exact⟨b,h⟩
 |succ k=>exact⟨λ_=>h,by rw[b];simp⟩
theorem OJ {id:Nat} {a:Act} {w:Xg} (S:Xg->Prop) (b:P.follows .mixedOrders=true)
 (h:GL F n P .any ops Q S ops.size (Array.replicate ops.size false) a w.drew):(Code.region id ops true).wpIn F n P Q a w:=
 wpIn_region_any b (aaC h)
end
end Go.Proofs.YtdcacoifehkioaaGreatDoor
