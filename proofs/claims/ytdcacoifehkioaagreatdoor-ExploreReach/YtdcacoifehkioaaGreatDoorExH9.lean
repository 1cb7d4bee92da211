import Derived.Test.YtdcacoifehkioaaGreatDoorExH8
import Derived.Test.YtdcacoifehkioaaGreatDoorExH3
import Derived.Test.YtdcacoifehkioaaGreatDoorExH7
import Derived.Test.YtdcacoifehkioaaGreatDoorExH2
import Derived.OrdersIn
import Derived.TacticsIn
open List renaming flatMap_cons->XL,getElem?_eq_some_iff->Xf,map_append->XI,mem_append->XY,mem_append_left->ZF,nodup_append->af6,mem_of_getElem?->XA,mem_singleton->XT,flatMap_append->X6,append_assoc->XZ,append_nil->Ye,length_map->Xp,getElem?_append_left->Xz,getElem?_append_right->XD,length_append->Xb,mem_flatMap->afT,mem_map->Yx,map_map->Zy,map_cons->Za,getElem?_map->Xs
open Option.some renaming inj->Yk
open Go renaming World->Xh,Program->Zm,Value->Xk,run_takeDeferred->ZP
open Go.World renaming cell?->Xg,putObj_heap_other->Yi
open Array renaming getElem?_eq_some_iff->Xa
open Go.Region renaming wanted->ZW,ready->ZL
open Go.Oper renaming uponIn->afp
set_option linter.unusedVariables false
set_option linter.unusedSimpArgs false
namespace Go.Proofs.YtdcacoifehkioaaGreatDoor
open Go.RowKit Go.Proofs.Cod
theorem Rt (a lm b:Nat) (line:Int) (l:List (Int×Tx)):l.flatMap (ED a lm b line)=(ER l).map λq=>(b,(if q.1=116 then a else lm),q.1,q.2,line):=by
 induction l with
 |nil=>rfl
 |cons p l e=>
  rw[XL,e];unfold ER ED
  by_cases c:p.1=116
  ·simp[c]
  ·by_cases d:p.1=108
   ·simp[d]
   ·simp[c,d]
section
variable {G G':RG} {nb n0:Nat} {s:PS} {X:List LB}
theorem Mk.addr {x:LB} (h:Mk G x) {a:Nat} (f:a∈x.c.ins):∃i,G.I a=some i:=by
 obtain⟨k,b⟩:=List.getElem?_of_mem f;have d:=(Xf.1 b).1;obtain⟨p,e⟩:∃p,x.pb.code[k]?=some p:=⟨_,List.getElem?_eq_getElem (by rw[<-h.len];exact d)⟩
 exact⟨_,h.ins k a p b e⟩
theorem RX {x x':LB} {f:List LB} (h:CN G nb s (f++[x])) (j:x'.a=x.a) (C:G'.N=G.N) (D:G'.nms=G.nms) (w:G'.bods=G.bods) (r:∀a,a≠x.a->G'.B a=G.B a) (l:∀y,y∈f->∀d,d∈y.c.ins->G'.I d=G.I d)
 (o:Mk G' x') (g:G'.las.map Cc.key=G.las.map Cc.key++(DP nb x').drop (DP nb x).length) (q:(DP nb x').take (DP nb x).length=DP nb x) (z:(f.flatMap (λx=>x.c.ins)++x'.c.ins).Nodup):CN G' nb (Id s x'.pb) (f++[x']):=by
 have i:=h.nda;rw[XI] at i;refine⟨C.trans h.N,D.trans h.nms,?_,?_,λy b=>?_,?_,?_,?_⟩
 ·rw[w,h.bods];simp[j]
 ·show s.bod.dropLast++[x'.pb]=_;rw[h.bod];simp
 ·rcases XY.1 b with b|b
  ·obtain⟨m,A,u,E,n⟩:=h.each y (ZF _ b);have t:y.a≠x.a:=λe=>by
    have:=(af6.1 i).2.2 y.a (List.mem_map_of_mem b) x.a (by simp);exact this e
   exact⟨(r _ t).trans m,A,u,λk d p g v=>(l y b d (XA g)).trans (E k d p g v),n⟩
  ·obtain rfl:=XT.1 b
   exact o
 ·rw[g,h.keys,X6,X6,XZ]
  congr 1
  simp only[XL,List.flatMap_nil,Ye]
  conv=>rhs;rw[<-List.take_append_drop (DP nb x).length (DP nb x'),q]
 ·rw[XI];show (f.map LB.a++[x'.a]).Nodup;rw[j];exact i
 ·rw[X6];simpa using z
theorem abF {a:Nat} {f:EW} {n:Tx} (h:CN G nb s X) (l:G.bods.getLast?=some a) (g:G.B a=some f) (k:f.labs n=none):∃b i,s.bod.getLast?=some b/\b.labs n=none/\CN (G.mark a f n) nb (Id s {b with labs:=Be b.labs n b.code.length}) i:=by
 obtain⟨j,x,rfl,rfl,m,o⟩:=Nu h l;have d:=h.each x (by simp);have e:x.c=f:=by have:=d.b;rw[g] at this;exact(Yk this).symm
 subst e;refine⟨x.pb,j++[⟨x.a,{x.c with labs:=Be x.c.labs n x.c.ins.length},{x.pb with labs:=Be x.pb.labs n x.pb.code.length}⟩],m,by rw[<-d.labs];exact k,?_⟩;refine RX (x':=⟨x.a,{x.c with labs:=Be x.c.labs n x.c.ins.length},{x.pb with labs:=Be x.pb.labs n x.pb.code.length}⟩) h rfl rfl rfl rfl (λb g=>Jj _ g) (λ_ _ _ _=>rfl) ⟨IL _ _ _,?_,d.len,d.ins,d.small⟩ ?_ ?_ ?_
 ·show Be x.c.labs n x.c.ins.length=Be x.pb.labs n x.pb.code.length;rw[d.labs,d.len]
 ·show G.las.map Cc.key=G.las.map Cc.key++(DP nb x).drop (DP nb x).length
  simp
 ·show (DP nb x).take (DP nb x).length=DP nb x
  simp
 ·have:=h.ndi;rw[X6] at this
  simpa using this
theorem Uz {α β:Type} {l:List α} {m:List β} (h:l.length=m.length) (x:α) (y:β):(l++[x]).zip (m++[y])=l.zip m++[(x,y)]:=by
 rw[List.zip_append h];rfl
theorem acC {a:Nat} {w:EW} {D:Tx} {ts:List Tx} (h:CN G nb s X) (Q:Mf G n0) (P:G.bods.getLast?=some a) (t:G.B a=some w) (T:OE n0 nb a w D ts G G') :
 ∃b S s',s.bod.getLast?=some b/\ES G.line D ts s b = .ok s'/\CN G' nb s' S/\s'.nms=s.nms/\s'.bod.length=s.bod.length/\G'.las.length<=G.las.length+3/\G'.line=G.line:=by
 obtain⟨u,x,rfl,rfl,O,h2⟩:=Nu h P;have f:=h.each x (by simp);have e:x.c=w:=by have:=f.b;rw[t] at this;exact(Yk this).symm
 subst e;obtain⟨ps,E,H,V,g,i,cs,lV,v,W,F,C,rfl⟩:=T;have U:(AT ps ts).length<=3:=by
  have:=Re E;unfold AT;rw[List.length_zip,Xp];omega
 have Z:cs.length<=3:=by
  have R:=congrArg List.length C;rw[Xp,Rt,Xp] at R;have Y:(ER (AT ps ts)).length<=(AT ps ts).length:=List.length_filter_le _ _
  omega
 have o:∀y,y∈u++[x]->∀k,k∈y.c.ins->k≠g:=λy m k d e=>by
  obtain⟨j,r⟩:=(h.each y m).addr d;have:=Q.2 k j r
  omega
 obtain⟨x',n⟩:∃x':LB,(⟨x.a,{x.c with ins:=x.c.ins++[g],cv:=v},{x.pb with code:=x.pb.code++[⟨i,G.line,ER (AT ps ts)⟩]}⟩:LB)=x':=⟨_,rfl⟩;have A:DP nb x'=DP nb x++(AT ps ts).flatMap (ED nb x.c.lm g G.line):=by
  rw[<-n,Rt];unfold DP;show ((x.c.ins++[g]).zip (x.pb.code++[_])).flatMap _=_;rw[Uz f.len,X6]
  simp
 refine⟨x.pb,u++[x'],Id s x'.pb,O,?_,?_,rfl,?_,?_,rfl⟩
 ·unfold ES;rw[E];show (if Bk ts ps=false then _ else _)=_;rw[if_neg (by rw[H];simp),if_neg (by rw[<-f.len];omega)];rw[h.N] at F;rw[F,<-n]
 ·refine RX h (by rw[<-n]) rfl rfl rfl (λb t=>Jj _ t) (λy m k d=>Jj _ (o y (ZF _ m) k d)) ?_ ?_ ?_ ?_
  ·rw[<-n];refine⟨IL _ _ _,f.labs,by simp[f.len],λk q p d l=>?_,?_⟩
   ·have d:(x.c.ins++[g])[k]?=some q:=d;have l:(x.pb.code++[⟨i,G.line,ER (AT ps ts)⟩])[k]?=some p:=l
    by_cases e:k<x.c.ins.length
    ·rw[Xz e] at d;rw[Xz (by rw[<-f.len];exact e)] at l;show BY G.I g i q=_;rw[Jj _ (o x (by simp) q (XA d))];exact f.ins k q p d l
    ·have M:=(Xf.1 d).1
     simp at M
     have J:k=x.c.ins.length:=by omega
     subst J;rw[XD (Nat.le_refl _),Nat.sub_self] at d;rw[f.len,XD (Nat.le_refl _),Nat.sub_self] at l
     cases d;cases l
     exact IL _ _ _
   ·show (x.pb.code++[_]).length<=24;rw[Xb,<-f.len];simp;omega
  ·show (G.las++cs).map Cc.key=_;rw[XI,C,A,List.drop_left]
  ·rw[A,List.take_left]
  ·have z:=h.ndi;rw[X6] at z;simp only[XL,List.flatMap_nil,Ye] at z;rw[<-n];show (u.flatMap (λx=>x.c.ins)++(x.c.ins++[g])).Nodup;rw[<-XZ,af6];refine⟨z,by simp,λk d j r=>?_⟩
   obtain rfl:=XT.1 r
   rcases XY.1 d with d|d
   ·obtain⟨y,m,K⟩:=afT.1 d;exact o y (ZF _ m) k K
   ·exact o x (by simp) k d
 ·show (s.bod.dropLast++[x'.pb]).length=s.bod.length;rw[h.bod];simp
 ·show (G.las++cs).length<=_;rw[Xb];omega
theorem aeN {ts:List Tx} (h:CN G nb s X) (A:Mf G n0) (H:OG n0 ts G G'):∃f D,ts.length=1/\Ci 116 ts s = .ok f/\CN G' nb (JA f) D/\(∀k,(s.nms k).length<=4->(f.nms k).length<=4)/\(f.nms 116).length=(s.nms 116).length+1/\f.bod=s.bod/\G'.las=G.las/\G'.line=G.line:=by
 obtain⟨q,i,a,lm,v,m,O,rfl⟩:=H;obtain⟨f,z,g,F,C,E,M,x,u⟩:=TF m h;have Q:i.B=G.B/\i.I=G.I:=⟨m.2.2.2.2.2.2.2.2.2.1,m.2.2.2.2.2.2.2.2.2.2.1⟩;have o:∀y,y∈X->y.a≠a:=λy d e=>by
  have:=A.1 y.a y.c (h.each y d).b
  omega
 refine⟨f,X++[⟨a,{lm:=lm,cv:=.slice none 0 0,ins:=[],labs:=λ_=>none},⟨[],λ_=>none⟩⟩],q,z,⟨g.N,g.nms,?_,?_,λy d=>?_,?_,?_,?_⟩,C,by rw[E,Xb,q],F,x,u⟩
 ·show i.bods++[a]=_;rw[g.bods];simp
 ·show f.bod++[⟨[],λ_=>none⟩]=_;rw[g.bod];simp
 ·rcases XY.1 d with d|d
  ·obtain⟨r,J,w,K,t⟩:=g.each y d
   exact⟨(Jj _ (o y d)).trans r,J,w,K,t⟩
  ·obtain rfl:=XT.1 d
   exact⟨IL _ _ _,rfl,rfl,(λk P p l=>by cases l),by simp⟩
 ·show i.las.map Cc.key=_;rw[g.keys,X6];simp[DP]
 ·rw[XI,af6];refine⟨h.nda,by simp,λk l j n=>?_⟩
  simp at n
  obtain⟨y,d,rfl⟩:=Yx.1 l;rw[n];exact o y d
 ·rw[X6];simpa using g.ndi
theorem Vk {f:Tx} {ts:List Tx} (c:Uh n0 nb f ts G G') (h:CN G nb s X) (d:Me s) (o:Mf G n0):∃s' g,stepT G.line f ts s = .ok s'/\CN G' nb s' g/\Me s'/\G'.las.length<=G.las.length+3/\G'.line=G.line:=by
 rcases c with⟨i,c⟩|⟨i,T,c⟩|⟨i,a,U,n,m,c⟩
 ·obtain⟨j,g,u,Q,C,R,y,J,H,E⟩:=aeN h o c;refine⟨JA j,g,?_,C,⟨?_,λk=>R k (d.few k)⟩,by rw[H];omega,E⟩
  ·unfold stepT;rw[if_pos i,if_pos u,Q];rfl
  ·show (j.nms 116).length=(j.bod++[_]).length;rw[y,J,Xb,d.thr];rfl
 ·obtain⟨j,F,A,P,M,V,B,D,z⟩:=TF c h;have I:s.bod=[]:=by
   have:=h.bods;rw[T] at this;have v:X=[]:=by
    cases X with
    |nil=>rfl
    |cons x X=>simp at this
   rw[h.bod,v];rfl
  refine⟨j,X,?_,A,⟨?_,λk=>M k (d.few k)⟩,by rw[D];omega,z⟩
  ·unfold stepT;rw[if_neg i,I];exact F
  ·have l:(116:Int)≠Di f:=by
    unfold Di
    split
    ·decide
    ·split
     ·decide
     ·split<;>decide
   rw[B 116 l,P];exact d.thr
 ·rcases c with⟨c1,c2,c3,c4,rfl⟩|⟨c1,c⟩
  ·obtain⟨b,g,m1,O,w⟩:=abF h n m c4;refine⟨_,g,?_,w,⟨?_,d.few⟩,by show G.las.length<=_;omega,rfl⟩
   ·unfold stepT;rw[if_neg i,m1];show (if BI f=true/\ts=[] then _ else _)=_;rw[if_pos ⟨c1,c2⟩];unfold Ge;rw[if_neg (by rw[c3];simp),O]
   ·show (s.nms 116).length=(s.bod.dropLast++[_]).length;have l:s.bod≠[]:=λe=>by rw[e] at m1;cases m1
    have:=List.length_pos_iff.2 l;rw[Xb,List.length_dropLast,d.thr];simp;omega
  ·obtain⟨b,g,s',t,S,N,p,K,r,q⟩:=acC h o n m c;refine⟨s',g,?_,N,⟨by rw[p,K];exact d.thr,by rw[p];exact d.few⟩,r,q⟩;unfold stepT;rw[if_neg i,t];show (if BI f=true/\ts=[] then _ else _)=_;rw[if_neg c1];exact S
theorem Vn {f:Tx} {ts:List Tx} {e:Int} (d:Ui f ts G e) (h:CN G nb s X):stepT G.line f ts s = .error e:=by
 unfold stepT
 rcases d with⟨i,d⟩|⟨i,j,d⟩|⟨i,a,w,v,p,d⟩
 ·rw[if_pos i]
  rcases d with⟨j,rfl⟩|⟨j,d⟩
  ·rw[if_neg j]
  ·rw[if_pos j,TG d h];rfl
 ·have u:s.bod=[]:=by
   have:=h.bods;rw[j] at this;have o:X=[]:=by
    cases X with
    |nil=>rfl
    |cons x X=>simp at this
   rw[h.bod,o];rfl
  rw[if_neg i,u];exact TG d h
 ·rw[if_neg i];obtain⟨A,x,rfl,rfl,q,B⟩:=Nu h v;have l:=h.each x (by simp);have z:x.c=w:=by have:=l.b;rw[p] at this;exact(Yk this).symm
  subst z;rw[q]
  rcases d with⟨c1,c2,d⟩|⟨c1,d⟩
  ·show (if BI f=true/\ts=[] then _ else _)=_;rw[if_pos ⟨c1,c2⟩];unfold Ge
   rcases d with⟨g,rfl⟩|⟨g,⟨n,y⟩,rfl⟩
   ·rw[if_pos g]
   ·rw[if_neg (by rw[g];simp),<-l.labs,y]
  ·show (if BI f=true/\ts=[] then _ else _)=_;rw[if_neg c1];unfold ES
   rcases d with⟨g,rfl⟩|⟨ps,g,r,k⟩
   ·cases t:Df f with
    |none=>rfl
    |some ps=>
     show (if Bk ts ps=false then _ else _)=_;rw[if_pos (g ps t)]
   ·rw[g];show (if Bk ts ps=false then _ else _)=_;rw[if_neg (by rw[r];simp)];rw[<-l.len]
    rcases k with⟨k,rfl⟩|⟨k,m,rfl⟩
    ·rw[if_pos k]
    ·rw[h.N] at m;rw[if_neg (by omega),m]
end
def Fu (N:Tx->Option (Int×Nat)) (labs:Tx->Option Nat) (k:Int):Tx->Option (Int×Nat):=if k=116 then N else Qq0 labs
def FN (N:Tx->Option (Int×Nat)) (labs:Tx->Option Nat) (q:Int×Tx):Option Nat:=match Fu N labs q.1 q.2 with
 |some p=>if p.1=q.1 then some p.2 else none
 |none=>none
def DE (N:Tx->Option (Int×Nat)) (labs:Tx->Option Nat):Ad->List (Int×Tx)->Option Ad
 |i,[]=>some i
 |i,q::l=>match FN N labs q with
  |some n=>DE N labs {i with x:=(n:Int)} l
  |none=>none
def EP (N:Tx->Option (Int×Nat)) (labs:Tx->Option Nat):List PI->Except Int (List Ad)
 |[]=>.ok []
 |p::l=>match DE N labs p.i p.off with
  |some i=>(EP N labs l).map (i :: ·)
  |none=>.error p.line
def DF (N:Tx->Option (Int×Nat)):List PB->Except Int (List (List Ad))
 |[]=>.ok []
 |b::l=>match EP N b.labs b.code with
  |.ok c=>(DF N l).map (c :: ·)
  |.error e=>.error e
structure QE where
 ia:Nat
 kd:Int
 nm:Tx
 ln:Int
 T:Tx->Option (Int×Nat)
def Db:List QE->(Nat->Option Ad)->Except Int (Nat->Option Ad)
 |[],I=>.ok I
 |q::l,I=>match q.T q.nm with
  |some p=>if p.1=q.kd then(match I q.ia with
   |some i=>Db l (BY I q.ia {i with x:=(p.2:Int)})
   |none=>.error q.ln) else .error q.ln
  |none=>.error q.ln
abbrev EE:=LB×(Nat×PI)×(Int×Tx)
def Eg (x:LB):List EE:=(x.c.ins.zip x.pb.code).flatMap λp=>p.2.off.map λq=>(x,p,q)
def Ss (nb:Nat) (e:EE):Nat×Nat×Int×Tx×Int:=(e.2.1.1,(if e.2.2.1=116 then nb else e.1.c.lm),e.2.2.1,e.2.2.2,e.2.1.2.line)
def CA (N:Tx->Option (Int×Nat)) (e:EE):QE:=⟨e.2.1.1,e.2.2.1,e.2.2.2,e.2.1.2.line,Fu N e.1.pb.labs e.2.2.1⟩
theorem Sm (a:Nat) (X:List LB):X.flatMap (DP a)=(X.flatMap Eg).map (Ss a):=by
 rw[List.map_flatMap]
 congr 1
 funext x
 unfold DP Eg;rw[List.map_flatMap]
 congr 1
 funext p
 rw[Zy]
 rfl
theorem Qo (N:Tx->Option (Int×Nat)) (x:LB) (a:Nat) (p:PI) (rest:List QE):∀(c:List (Int×Tx)) (i:Ad) (I:Nat->Option Ad),I a=some i->
 (∃i' e,DE N x.pb.labs i c=some i'/\(∀b,b≠a->e b=I b)/\e a=some i'/\Db ((c.map λq=>CA N (x,(a,p),q))++rest) I=Db rest e)\/(DE N x.pb.labs i c=none/\Db ((c.map λq=>CA N (x,(a,p),q))++rest) I = .error p.line)
 |[],i,I,h=>.inl ⟨i,I,rfl,λ_ _=>rfl,h,rfl⟩
 |q::c,i,I,h=>by
  cases d:Fu N x.pb.labs q.1 q.2 with
  |none=>
   right;constructor
   ·unfold DE FN;rw[d]
   ·show Db (CA N (x,(a,p),q)::_) I=_;unfold Db;show (match Fu N x.pb.labs q.1 q.2 with|some j=>_|none=>_)=_;rw[d];rfl
  |some t=>
   by_cases f:t.1=q.1
   ·have g:FN N x.pb.labs q=some t.2:=by unfold FN;rw[d];show (if t.1=q.1 then _ else _)=_;rw[if_pos f]
    have l:Db (((q::c).map λq=>CA N (x,(a,p),q))++rest) I=Db ((c.map λq=>CA N (x,(a,p),q))++rest) (BY I a {i with x:=(t.2:Int)}):=by
     show Db (CA N (x,(a,p),q)::_) I=_
     conv=>lhs;unfold Db
     show (match Fu N x.pb.labs q.1 q.2 with|some j=>_|none=>_)=_;rw[d];show (if t.1=q.1 then _ else _)=_;rw[if_pos f];show (match I a with|some i=>_|none=>_)=_;rw[h];rfl
    have m:DE N x.pb.labs i (q::c)=DE N x.pb.labs {i with x:=(t.2:Int)} c:=by
     conv=>lhs;unfold DE
     rw[g]
    rw[l,m]
    rcases Qo N x a p rest c {i with x:=(t.2:Int)} (BY I a {i with x:=(t.2:Int)}) (IL _ _ _) with⟨i',e,h1,h2,h3,h4⟩|⟨h1,h2⟩
    ·exact .inl ⟨i',e,h1,λb k=>(h2 b k).trans (Jj _ k),h3,h4⟩
    ·exact .inr ⟨h1,h2⟩
   ·right;constructor
    ·have g:FN N x.pb.labs q=none:=by unfold FN;rw[d];show (if t.1=q.1 then _ else _)=_;rw[if_neg f]
     unfold DE;rw[g]
    ·show Db (CA N (x,(a,p),q)::_) I=_;unfold Db;show (match Fu N x.pb.labs q.1 q.2 with|some j=>_|none=>_)=_;rw[d];show (if t.1=q.1 then _ else _)=_;rw[if_neg f];rfl
theorem Qq (N:Tx->Option (Int×Nat)) (x:LB) (rest:List QE):∀(al:List Nat) (ps:List PI) (I:Nat->Option Ad),al.length=ps.length->al.Nodup->(∀(k a:Nat) (p:PI),al[k]?=some a->ps[k]?=some p->I a=some p.i)->
 (∃is c,EP N x.pb.labs ps = .ok is/\is.length=al.length/\(∀b,b∉al->c b=I b)/\(∀(k a:Nat) (i:Ad),al[k]?=some a->is[k]?=some i->c a=some i)/\Db (((al.zip ps).flatMap λp=>p.2.off.map λq=>CA N (x,p,q))++rest) I=Db rest c)\/∃e,EP N x.pb.labs ps = .error e/\Db (((al.zip ps).flatMap λp=>p.2.off.map λq=>CA N (x,p,q))++rest) I = .error e
 |[],[],I,_,_,_=>.inl ⟨[],I,rfl,rfl,λ_ _=>rfl,(λk a i h=>by cases h),rfl⟩
 |[],_::_,_,h,_,_=>by simp at h
 |_::_,[],_,h,_,_=>by simp at h
 |a::al,p::ps,I,hl,hn,hI=>by
  rw[List.nodup_cons] at hn;have u:I a=some p.i:=hI 0 a p rfl rfl;have w:(((a::al).zip (p::ps)).flatMap λp=>p.2.off.map λq=>CA N (x,p,q))++rest=(p.off.map λq=>CA N (x,(a,p),q))++(((al.zip ps).flatMap λp=>p.2.off.map λq=>CA N (x,p,q))++rest):=by
   rw[List.zip_cons_cons,XL,XZ]
  rw[w]
  rcases Qo N x a p (((al.zip ps).flatMap λp=>p.2.off.map λq=>CA N (x,p,q))++rest) p.off p.i I u with⟨i',n,f,g,z,t⟩|⟨f,g⟩
  ·rw[t];have A:∀(k b:Nat) (q:PI),al[k]?=some b->ps[k]?=some q->n b=some q.i:=λk b q d y=>by
    rw[g b (λe=>hn.1 (by rw[<-e];exact XA d))];exact hI (k+1) b q (by simpa using d) (by simpa using y)
   rcases Qq N x rest al ps n (by simpa using hl) hn.2 A with⟨is,c,m,l,r,s,v⟩|⟨e,m,l⟩
   ·refine .inl ⟨i'::is,c,?_,by simp[l],λb j=>?_,λk b i d o=>?_,v⟩
    ·unfold EP;rw[f,m];rfl
    ·simp only[List.mem_cons,not_or] at j;rw[r b j.2,g b j.1]
    ·cases k with
     |zero=>
      cases d;cases o
      rw[r a hn.1];exact z
     |succ k=>exact s k b i (by simpa using d) (by simpa using o)
   ·refine .inr ⟨e,?_,l⟩;unfold EP;rw[f,m];rfl
  ·refine .inr ⟨p.line,?_,g⟩;unfold EP;rw[f]
theorem MH (N:Tx->Option (Int×Nat)):∀(X:List LB) (I:Nat->Option Ad),(X.flatMap λx=>x.c.ins).Nodup->(∀x,x∈X->x.c.ins.length=x.pb.code.length/\∀(k a:Nat) (p:PI),x.c.ins[k]?=some a->x.pb.code[k]?=some p->I a=some p.i)->
 (∃C f,DF N (X.map LB.pb) = .ok C/\C.length=X.length/\(∀b,b∉(X.flatMap λx=>x.c.ins)->f b=I b)/\(∀(j:Nat) (x:LB) (is:List Ad),X[j]?=some x->C[j]?=some is->is.length=x.c.ins.length/\∀(k a:Nat) (i:Ad),x.c.ins[k]?=some a->is[k]?=some i->f a=some i)/\Db ((X.flatMap Eg).map (CA N)) I = .ok f)\/∃e,DF N (X.map LB.pb) = .error e/\Db ((X.flatMap Eg).map (CA N)) I = .error e
 |[],I,_,_=>.inl ⟨[],I,rfl,rfl,λ_ _=>rfl,(λj x is h=>by cases h),rfl⟩
 |x::X,I,hn,hI=>by
  rw[XL,af6] at hn;obtain⟨D,P,z⟩:=hn;have u:=hI x (by simp);have M:((x::X).flatMap Eg).map (CA N)=((x.c.ins.zip x.pb.code).flatMap λp=>p.2.off.map λq=>CA N (x,p,q))++(X.flatMap Eg).map (CA N):=by
   rw[XL,XI]
   congr 1
   unfold Eg;rw[List.map_flatMap]
   congr 1
   funext p
   rw[Zy]
   rfl
  rw[M]
  rcases Qq N x ((X.flatMap Eg).map (CA N)) x.c.ins x.pb.code I u.1 D u.2 with⟨is,t,g,r,B,G,F⟩|⟨e,g,r⟩
  ·rw[F];have O:∀y,y∈X->y.c.ins.length=y.pb.code.length/\∀(k a:Nat) (p:PI),y.c.ins[k]?=some a->y.pb.code[k]?=some p->t a=some p.i:=λy w=>by
    have:=hI y (by simp[w]);refine⟨this.1,λk a p d J=>?_⟩;rw[B a (λn=>z a n a (afT.2 ⟨y,w,XA d⟩) rfl)];exact this.2 k a p d J
   rcases MH N X t P O with⟨C,f,o,m,A,Q,K⟩|⟨e,o,m⟩
   ·refine .inl ⟨is::C,f,?_,by simp[m],λb l=>?_,λj y E s v=>?_,K⟩
    ·rw[Za];unfold DF;rw[g];show (DF N (X.map LB.pb)).map _=_;rw[o];rfl
    ·rw[XL,XY,not_or] at l;rw[A b l.2,B b l.1]
    ·cases j with
     |zero=>
      cases s;cases v
      refine⟨r,λk a i d H=>?_⟩;rw[A a (λn=>z a (XA d) a n rfl)];exact G k a i d H
     |succ j=>exact Q j y E (by simpa using s) (by simpa using v)
   ·refine .inr ⟨e,?_,m⟩;rw[Za];unfold DF;rw[g];show (DF N (X.map LB.pb)).map _=_;rw[o];rfl
  ·refine .inr ⟨e,?_,r⟩;rw[Za];unfold DF;rw[g]
def CF (n:Int) (l:Tx) (s:PS):Except Int PS:=match CQ l with
 |[]=>.ok s
 |f::ts=>stepT n f ts s
def CJ:List Tx->Int->PS->Except (Int×Int) PS
 |[],_,s=>.ok s
 |l::ls,n,s=>match CF (n+1) l s with
  |.ok s'=>CJ ls (n+1) s'
  |.error e=>.error (e,n+1)
end Go.Proofs.YtdcacoifehkioaaGreatDoor
namespace Go.Proofs.YtdcacoifehkioaaGreatDoor
open Go.RowKit Go.Shelf Go.Proofs.Cod
theorem Al.Lv {w w':Xh} {d:Nat->RT} {base rb l lb:Nat} {G:RG} (h:Al w d base rb l lb G) (f:∀b,b<w.heap.size->d b≠.o\/b<base->w'.heap[b]?=w.heap[b]?) (s:w.heap.size<=w'.heap.size):Al w' d base rb l lb G:=by
 have key:∀{b:Nat} {g:RT},d b=g->g≠.o->w'.heap[b]?=w.heap[b]?/\d b=g:=λ{b g} e q=>⟨f b (h.lt e q) (.inl (by rw[e];exact q)),e⟩
 have p:=h.g1;have m:=h.g2;have v:=h.g3;refine⟨(key h.trd (by simp)).1.trans h.cell,λk u=>(h.rows k u).kept λb e=>key e (by simp),h.brow.kept λb e=>key e (by simp),h.lrow.kept λb e=>key e (by simp),h.names.kept (key h.tnm (by simp)).1 λb e=>key e (by simp),?_,λa c j=>?_,λa i t=>?_,λc j=>(h.clos c j).kept λb e=>key e (by simp),h.trd,h.tnm,h.tli,λb e=>⟨(h.tlt b e).1,Nat.lt_of_lt_of_le (h.tlt b e).2 s⟩,h.heads.kept (f _ (by omega) (.inr p)),h.shapes.kept (f _ (by omega) (.inr m)),p,m,by omega⟩
 ·obtain⟨n,r⟩:=h.lists
  exact⟨n,r.same (key h.tli (by simp)).1⟩
 ·refine(h.bodies a c j).kept λb e=>?_
  rcases e with e|e|e|e
  ·exact⟨(key e (by simp)).1,rfl⟩
  ·exact⟨(key e (by simp)).1,rfl⟩
  ·exact⟨(key e (by simp)).1,rfl⟩
  ·exact⟨(key e (by simp)).1,rfl⟩
 ·have:=h.ins a i t
  exact⟨(key this.2 (by simp)).1.trans this.1,this.2⟩
theorem Al.fresh {w:Xh} {g:Nat->RT} {base rb d lb:Nat} {G:RG} (h:Al w g base rb d lb G):Mf G w.heap.size:=
 ⟨λa c b=>h.lt (h.bodies a c b).ta (by simp),λe i f=>h.lt (h.ins e i f).2 (by simp)⟩
theorem Al.Wh {w:Xh} {d:Nat->RT} {base rb j lb:Nat} {G:RG} (h:Al w d base rb j lb G) (n:Int):Al (w.setCell ⟨rb,0,none⟩ (.int .i64 n)) d base rb j lb {G with line:=n}/\Ah w d (w.setCell ⟨rb,0,none⟩ (.int .i64 n)) d:=by
 have m:Ah w d (w.setCell ⟨rb,0,none⟩ (.int .i64 n)) d:=⟨rfl,rfl,rfl,by simp,λ_ _=>rfl,λb _ p=>Below.heap_setCell w ⟨rb,0,none⟩ _ b (Co p h.trd (by simp))⟩;refine⟨h.step (λg=>g = .rd) m (λb _ _ q=>Below.heap_setCell w ⟨rb,0,none⟩ _ b (λe=>q (by rw[e];exact h.trd))) (λb r o=>absurd (h.tlt b o).2 (by omega)) (by rw[heap_setCell_same w rb 0 _ _ _ h.cell];rfl) (λk _=>.inl ⟨rfl,rfl,by simp⟩) (.inl ⟨rfl,rfl,by simp⟩) (.inl ⟨rfl,rfl,by simp⟩) (.inl ⟨rfl,by simp⟩) (by simp) (by simp) (by simp) (λa c f=>.inl ⟨f,by simp,by simp,by simp⟩) (λa i l=>.inl ⟨l,?_⟩) (λc f=>.inl f),m⟩;exact Below.heap_setCell w ⟨rb,0,none⟩ _ a (Co (h.ins a i l).2 h.trd (by simp))
theorem CN.line {G:RG} {c:Nat} {s:PS} {X:List LB} (h:CN G c s X) (n:Int):CN {G with line:=n} c s X:=
 ⟨h.N,h.nms,h.bods,h.bod,λx a=>⟨(h.each x a).b,(h.each x a).labs,(h.each x a).len,(h.each x a).ins,(h.each x a).small⟩,h.keys,h.nda,h.ndi⟩
theorem Nv {ls:List Tx} {i:Nat} {l:Tx} (c:ls[i]?=some l) {n:Int} {a s:PS} (h:CJ (ls.take i) n a = .ok s):(∀s',CF (n+i+1) l s = .ok s'->CJ (ls.take (i+1)) n a = .ok s')/\(∀e,CF (n+i+1) l s = .error e->CJ ls n a = .error (e,n+i+1)):=by
 induction ls generalizing i n a with
 |nil=>cases c
 |cons x ls g=>
  cases i with
  |zero=>
   have c:some x=some l:=c
   cases c
   have e:a=s:=by
    have h:(Except.ok a:Except (Int×Int) PS) = .ok s:=h;exact Except.ok.inj h
   subst e;constructor
   ·intro s' b;have b:CF (n+1) l a = .ok s':=by simpa using b
    show (match CF (n+1) l a with | .ok s'=>CJ (ls.take 0) (n+1) s' | .error e=>.error (e,n+1))=_;rw[b];rfl
   ·intro e b;have b:CF (n+1) l a = .error e:=by simpa using b
    show (match CF (n+1) l a with | .ok s'=>CJ ls (n+1) s' | .error e=>.error (e,n+1))=_;rw[b]
    simp
  |succ i=>
   have h:(match CF (n+1) x a with | .ok s'=>CJ (ls.take i) (n+1) s' | .error e=>.error (e,n+1)) = .ok s:=h
   cases d:CF (n+1) x a with
   |error e=>rw[d] at h;cases h
   |ok m=>
    rw[d] at h;have j:n+((i+1:Nat):Int)+1=(n+1)+(i:Int)+1:=by omega
    rw[j];obtain⟨k,f⟩:=g (by simpa using c) h;constructor
    ·intro s' b;show (match CF (n+1) x a with | .ok s'=>CJ (ls.take (i+1)) (n+1) s' | .error e=>.error (e,n+1))=_;rw[d];exact k s' b
    ·intro e b;show (match CF (n+1) x a with | .ok s'=>CJ ls (n+1) s' | .error e=>.error (e,n+1))=_;rw[d];exact f e b
attribute [local go_sem] Oper.semAt_some
theorem Ti {P:Zm} {w:Xh} {fn:Func} {tmps:Array Xk} {b:Nat} {e l:Int} (d:fn.results = #[.cell 4 138]) (c:tmps[4]?=some (.pointer (some ⟨b,0,none⟩))) (a:w.heap[b]?=some (.cells #[.int .i64 e,.int .i64 l] 138)):(results fn tmps).run Tryz.prog w = .ok (.agg #[.int .i64 e,.int .i64 l]) w:=by
 have c0:w.cell? ⟨b,0,none⟩=some (.int .i64 e):=by simp[Xg,a]
 have c1:w.cell? ⟨b,1,none⟩=some (.int .i64 l):=by simp[Xg,a]
 simp[results,d,c,go_sem,c0,c1]
theorem Sf {W:Xh} {n:Nat} {tmps:Array Xk} {R:Ending->Xh->Prop} {e l x y:Int} (o:tmps[4]?=some (.pointer (some ⟨n+1,0,none⟩))) (c:W.heap[n+5]?=some (.deferred (some []))) (j:W.heap[n+1]?=some (.cells #[.int .i64 x,.int .i64 y] 138))
 (f:∀a,(∀b,b<W.heap.size->b≠n+1->b≠n+5->a.heap[b]?=W.heap[b]?)->W.heap.size<=a.heap.size->a.os=W.os->a.tape=W.tape->a.output=W.output->R (.returned (.agg #[.int .i64 e,.int .i64 l])) a) :
 LeavesInM Fence.wide 9 Tryz.prog Tryz.f48 tmps R [{target:=.collected (n+5),args := #[]},{target:=.fn (.func 104) #[.pointer (some ⟨n+1,0,none⟩)],args := #[]}] (.panicking (FD e l)) W:=by
 have t:n+5<W.heap.size:=(Xa.1 c).1;refine⟨by simp,.inl ⟨n+5,_,rfl,ZP c,?_⟩⟩;refine⟨by simp,.inr ⟨λ_=>by omega,_,_,104,#[.pointer (some ⟨n+1,0,none⟩)],rfl,by simp[invoke,go_sem],λ_ _=>trivial,?_⟩⟩;refine(aeC (n+1) _ e l x y _ ((Yi (by omega)).trans j)).mono ?_;rintro w u w' ⟨rfl,⟨v,rfl⟩,m,s,p,k,h,r⟩;have q:settle (.panicking [{v:=v,recovered:=true}]) = .returning:=rfl;show LeavesInM _ _ _ _ _ _ [] (settle _) w';rw[q];refine⟨_,Ti (P:=Tryz.prog) rfl o m,f w' (λb i d g=>(s b (by simpa using i) d).trans (Yi g)) (by simpa using p) k h r⟩
theorem ab5 {W:Xh} {n:Nat} {tmps:Array Xk} {R:Ending->Xh->Prop} {e l:Int} (h:tmps[4]?=some (.pointer (some ⟨n+1,0,none⟩))) (c:W.heap[n+5]?=some (.deferred (some []))) (d:W.heap[n+1]?=some (.cells #[.int .i64 e,.int .i64 l] 138))
 (g:∀a,(∀b,b<W.heap.size->b≠n+5->a.heap[b]?=W.heap[b]?)->W.heap.size<=a.heap.size->a.os=W.os->a.tape=W.tape->a.output=W.output->R (.returned (.agg #[.int .i64 e,.int .i64 l])) a) :
 LeavesInM Fence.wide 9 Tryz.prog Tryz.f48 tmps R [{target:=.collected (n+5),args := #[]},{target:=.fn (.func 104) #[.pointer (some ⟨n+1,0,none⟩)],args := #[]}] .returning W:=by
 have m:n+5<W.heap.size:=(Xa.1 c).1;refine⟨by simp,.inl ⟨n+5,_,rfl,ZP c,?_⟩⟩;refine⟨by simp,.inr ⟨λ_=>by omega,_,_,104,#[.pointer (some ⟨n+1,0,none⟩)],rfl,by simp[invoke,go_sem],λ_ _=>trivial,?_⟩⟩;refine(aeB ⟨n+1,0,none⟩ _ _).mono ?_;rintro o k w' ⟨rfl,rfl,rfl⟩;have f:settle .returning = .returning:=rfl;show LeavesInM _ _ _ _ _ _ [] (settle _) _;rw[f];refine⟨_,Ti (P:=Tryz.prog) rfl h ((Yi (by omega)).trans d),g _ (λb j i=>Yi i) (by simp) rfl rfl rfl⟩
structure BS (w:Xh) (base:Nat) (vV fV lV thV:Xk) (vs fs ls:List Tx) (L:List (Tx×Xk)) (C:List (List Ad)):Prop where
 v:w.ownsRow base 9 1 vV vs.length (vs.map BV)
 f:w.ownsRow base 9 1 fV fs.length (fs.map BV)
 l:w.ownsRow base 9 1 lV ls.length (ls.map BV)
 t:w.ownsRow base 122 2 thV L.length (Jb L)
 c:∀(i:Nat) (p:Tx×Xk) (is:List Ad),L[i]?=some p->C[i]?=some is->w.ownsRow base 108 7 p.2 is.length (GM is)
 len:C.length=L.length
def Un (w:Xh) (b:Nat):Prop:=∀cs e,w.heap[b]?=some (.cells cs e)->e≠9/\e≠122/\e≠108
theorem Kc {w w':Xh} {base e d n:Nat} {v:Xk} {j:List Xk} (h:w.ownsRow base e d v n j) (k:e=9\/e=122\/e=108) (l:∀b,base<=b->b<w.heap.size->¬Un w b->w'.heap[b]?=w.heap[b]?):w'.ownsRow base e d v n j:=by
 refine⟨h.1,?_⟩
 rcases h.2 with m|⟨g,cap,i,rfl,f,c,rest⟩
 ·exact .inl m
 ·refine .inr ⟨g,cap,i,rfl,f,(l g f (Xa.1 c).1 (λo=>?_)).trans c,rest⟩;have:=o i e c
  rcases k with a|a|a
  ·exact this.1 a
  ·exact this.2.1 a
  ·exact this.2.2 a
theorem BS.kept {w w':Xh} {base:Nat} {e g lV d:Xk} {vs fs ls:List Tx} {L:List (Tx×Xk)} {C:List (List Ad)} (h:BS w base e g lV d vs fs ls L C) (a:∀b,base<=b->b<w.heap.size->¬Un w b->w'.heap[b]?=w.heap[b]?):BS w' base e g lV d vs fs ls L C:=
 ⟨Kc h.v (.inl rfl) a,Kc h.f (.inl rfl) a,Kc h.l (.inl rfl) a,Kc h.t (.inr (.inl rfl)) a,λi p is j k=>Kc (h.c i p is j k) (.inr (.inr rfl)) a,h.len⟩
def Em (t:Tx):Except (Int×Int) (PS×List (List Ad)):=match CJ (Ar 10 t) 0 PS.new with
 |.error e=>.error e
 |.ok s=>match DF s.N s.bod with
  |.error l=>.error (5,l)
  |.ok C=>.ok (s,C)
structure Uk (w':Xh) (base rb:Nat) (s:PS) (C:List (List Ad)):Prop where
 ex:∃vV fV lV thV L,w'.cell? ⟨rb,1,none⟩=some vV/\w'.cell? ⟨rb,2,none⟩=some fV/\w'.cell? ⟨rb,3,none⟩=some lV/\w'.cell? ⟨rb,4,none⟩=some thV/\BS w' base vV fV lV thV (s.nms 118) (s.nms 102) (s.nms 109) L C/\L.map Prod.fst=s.nms 116
def afh (w:Xh) (base rb:Nat) (t:Tx) (e:Ending) (w':Xh):Prop:=Below base w w'/\((∃er ln,Em t = .error (er,ln)/\e = .returned (.agg #[.int .i64 er,.int .i64 ln]))\/(∃s C,Em t = .ok (s,C)/\e = .returned (.agg #[.int .i64 0,.int .i64 0])/\Uk w' base rb s C))
theorem Rj {t:Tx} {e l:Int} (h:CJ (Ar 10 t) 0 PS.new = .error (e,l)):Em t = .error (e,l):=by unfold Em;rw[h]
theorem Ri {t:Tx} {s:PS} {l:Int} (h:CJ (Ar 10 t) 0 PS.new = .ok s) (a:DF s.N s.bod = .error l):Em t = .error (5,l):=by unfold Em;rw[h];show (match DF s.N s.bod with | .error l=>_ | .ok C=>_)=_;rw[a]
theorem Rg {t:Tx} {s:PS} {C:List (List Ad)} (h:CJ (Ar 10 t) 0 PS.new = .ok s) (a:DF s.N s.bod = .ok C):Em t = .ok (s,C):=by unfold Em;rw[h];show (match DF s.N s.bod with | .error l=>_ | .ok C=>_)=_;rw[a]
structure Uo (W:Xh) (tag:Nat->RT) (base rb nb lb:Nat) (G:RG) (s:PS) (X:List LB) (j:Nat) (Wj:Xh) (I:Nat->Option Ad):Prop where
 rd:Al Wj tag base rb nb lb {G with I:=I}
 ext:Ah W tag Wj tag
 run:Db ((X.flatMap Eg).map (CA s.N)) G.I=Db (((X.flatMap Eg).map (CA s.N)).drop j) I
 some:∀ia,(G.I ia).isSome=true->(I ia).isSome=true
theorem CN.aca {G:RG} {d:Nat} {s:PS} {X:List LB} (h:CN G d s X) {j:Nat} {c:Cc} (k:G.las[j]?=some c):∃x p q,(X.flatMap Eg)[j]?=some (x,p,q)/\x∈X/\c.ia=p.1/\c.tb=(if q.1=116 then d else x.c.lm)/\c.kd=q.1/\c.nm=q.2/\c.ln=p.2.line/\p.1∈x.c.ins:=by
 have g:(G.las.map Cc.key)[j]?=some c.key:=by rw[Xs,k];rfl
 rw[h.keys,Sm,Xs] at g;obtain⟨⟨x,p,q⟩,b,f⟩:=Option.map_eq_some_iff.1 g;have a:=XA b;obtain⟨y,o,a⟩:=afT.1 a;unfold Eg at a;obtain⟨p',t,a⟩:=afT.1 a;obtain⟨m,v,e⟩:=Yx.1 a;simp only[Prod.mk.injEq] at e;obtain⟨rfl,rfl,rfl⟩:=e;simp only[Ss,Cc.key,Prod.mk.injEq] at f;obtain⟨r,i,u,l,n⟩:=f
 exact⟨y,p',m,b,o,r.symm,i.symm,u.symm,l.symm,n.symm,(List.of_mem_zip t).1⟩
end Go.Proofs.YtdcacoifehkioaaGreatDoor
namespace Go.Proofs.YtdcacoifehkioaaGreatDoor
open Go
section
variable {F:Fence} {n:Nat} {P:Zm} {ops:Array Oper} {Q:Exit->Act->Xh->Prop} {md:Region.Mode} {S:Xh->Prop}
def TO (ops:Array Oper):Bool:=ops.all λo=>match o.op with | .defer _=>false | .select .. =>false|_=>true
theorem LR (h:TO ops=true) {j:Nat} {o:Oper} (a:ops[j]?=some o):(∀c,o.op≠.defer c)/\∀cs b,o.op≠.select cs b:=by
 have:=Array.all_eq_true_iff_forall_mem.1 h o (Array.mem_of_getElem? a)
 exact⟨λc e=>by simp[e] at this,λcs b e=>by simp[e] at this⟩
theorem aba {j:Nat} {g:Oper} {d:Option Tmp} {v:Xk} {K:Act->Xh->Prop} {a:Act} {w:Xh} (z:ops[j]?=some g)
 (m:(∀c,g.op≠.defer c)/\∀cs b,g.op≠.select cs b) (p:∀x,d=some x->x∉g.looksAt ops) (B:∀x,d=some x->g.dst≠some x)
 (o:∀c a w,Q (.panic c) (a.put d v) w->Q (.panic c) a w) (h:wpOpIn F n P ops Q j K (a.put d v) w) :
 wpOpIn F n P ops Q j (λs w'=>(∃u A,s=({a with defers:=A}:Act).put g.dst u)/\K (s.put d v) w') a w:=by
 have y:g.semAt F.round (a.put d v).eval=g.semAt F.round a.eval:=by
  rw[Oper.semAt_eq _ _ _ m.1,Oper.semAt_eq _ _ _ m.1];exact execOp_put g m.2 a d v p
 have k:∀(b:Act) u,(b.put d v).put g.dst u=(b.put g.dst u).put d v:=λb u=>Act.put_comm b v u B;unfold wpOpIn Oper.wpIn at h |-;simp only[z,wanted_put g a d v p,about_put g w a d v p,y] at h |-
 by_cases t:ZW g (yielded ops a.tmps)=true
 ·rw[if_pos t] at h |-;refine⟨h.1,?_⟩;have h:=h.2
  revert h
  generalize (g.semAt F.round a.eval).run P w=r;intro h
  rcases r with⟨x,w'⟩|⟨x,w'⟩
  ·cases x with
   |value u=>simp only[afp] at h |-;exact⟨⟨u,a.defers,rfl⟩,k a u ▸ h⟩
   |skip=>simp only[afp] at h |-;exact⟨⟨_,a.defers,rfl⟩,k a _ ▸ h⟩
   |defer e=>
    simp only[afp] at h |-;rw[Act.put_defers,k] at h
    exact⟨⟨_,e::a.defers,rfl⟩,h⟩
   |enter f args=>
    simp only[afp] at h |-;refine⟨h.1,h.2.mono λe q i=>?_⟩
    cases e with
    |returned u=>exact⟨⟨u,a.defers,rfl⟩,k a u ▸ i⟩
    |panicked c=>exact o _ _ _ i
    |outgrown=>exact i
   |row r args=>
    simp only[afp] at h |-
    exact⟨h.1,h.2.mono λu q i=>⟨⟨u,a.defers,rfl⟩,k a u ▸ i⟩⟩
   |round l f tmps C body=>
    simp only[afp] at h |-;refine⟨h.1,h.2.mono λe q i=>?_⟩
    cases e with
    |returned u=>exact⟨⟨u,a.defers,rfl⟩,k a u ▸ i⟩
    |panicked c=>exact o _ _ _ i
    |outgrown=>exact i
   |_=>simp only[afp] at h
  ·cases x<;>simp only[afp] at h |-
   exact o _ _ _ h
 ·rw[if_neg t] at h |-
  exact⟨h.1,⟨_,a.defers,rfl⟩,k a _ ▸ h.2⟩
def Ij (F:Fence) (n:Nat) (P:Zm) (md:Region.Mode) (ops:Array Oper) (Q:Exit->Act->Xh->Prop) (S:Xh->Prop):Nat->Array Bool->Act->Xh->Prop
 |0,listed,a,w=>ZL md ops listed=[]/\Q .normal a w
 |k+1,listed,a,w=>(ZL md ops listed=[]->Q .normal a w)/\
  ∀i∈ZL md ops listed,wpOpIn F n P ops Q i (λa' w'=>S w'/\Ij F n P md ops Q S k (listed.setIfInBounds i true) a' w') a w
theorem acR {k:Nat} {b:Array Bool} {a:Act} {w:Xh} (h:Ij F n P md ops Q S k b a w):wpAnyIn F n P md ops Q k b a w:=by
 induction k generalizing b a w with
 |zero=>exact h
 |succ k c=>exact⟨h.1,λi d=>wpOpIn_mono (λ_ _ e=>c e.2) (h.2 i d)⟩
def afm (P:Zm) (ops:Array Oper) (S:Xh->Prop) (o:Oper) (v:Xk) (a:Act):Prop:=
 ZW o (yielded ops a.tmps)=true/\(∀w,S w->(execOp a.eval o).run P w = .ok (.value v) w)/\∀w,o.about P w a.eval=none
theorem GJ {i:Nat} {l:Oper} {v:Xk} (o:ops[i]?=some l) (y:TO ops=true) (T:∀c a w,Q (.panic c) (a.put l.dst v) w->Q (.panic c) a w) :
 ∀{k:Nat} {b:Array Bool} {a:Act} {w:Xh},Region.free md ops b i=true->(ZL md ops b).contains i=true->afm P ops S l v a->S w->
  Ij F n P md ops Q S k (b.setIfInBounds i true) (a.put l.dst v) w->Ij F n P md ops Q S (k+1) b a w:=by
 intro k
 induction k with
 |zero=>
  intro b a w _ B d t H;have r:i∈ZL md ops b:=by simpa using B
  refine⟨λh=>absurd (h ▸ r) (by simp),λj x=>?_⟩
  by_cases g:j=i
  ·subst g;unfold wpOpIn Oper.wpIn;simp only[o,if_pos d.1,Oper.semAt_eq _ _ _ (LR y o).1,d.2.1 w t,afp]
   exact⟨λf z=>absurd (d.2.2 w ▸ z) (by simp),t,H⟩
  ·have G:=ready_mono x g;rw[H.1] at G;cases G
 |succ k X=>
  intro b a w C B d t H;have r:i∈ZL md ops b:=by simpa using B
  refine⟨λh=>absurd (h ▸ r) (by simp),λj x=>?_⟩
  by_cases g:j=i
  ·subst g;unfold wpOpIn Oper.wpIn;simp only[o,if_pos d.1,Oper.semAt_eq _ _ _ (LR y o).1,d.2.1 w t,afp]
   exact⟨λf z=>absurd (d.2.2 w ▸ z) (by simp),t,H⟩
  ·obtain⟨W,q,A,aa⟩:=mem_ready.1 x;have I:=(mem_ready.1 r).1;have ab:∀e∈q.after,Region.binds md e=true->e.on≠i:=λe Z N M=>by
    have s:=aa e Z N;rw[M] at s
    rcases Nat.lt_or_ge i b.size with p|p
    ·simp[p] at I s;rw[I] at s;cases s
    ·simp[Array.getElem?_eq_none p] at s
   obtain⟨V,O,D⟩:=Oper.apart_spec (Region.free_spec o C j q A g W ab);refine wpOpIn_mono (λa' w' Y=>?_) (aba A (LR y A) V O T (H.2 j (ready_mono x g)));obtain⟨⟨u,ds,rfl⟩,E,R⟩:=Y;refine⟨E,X ?_ (by simpa using ready_mono r (Ne.symm g)) ⟨?_,λw hw=>?_,λw=>?_⟩ E ?_⟩
   ·simp only[Region.free,o,List.all_eq_true] at C |-;intro m U;have K:=C m U
    by_cases J:j=m
    ·subst J;have:(b.setIfInBounds j true).getD j true=true:=by
      rcases Nat.lt_or_ge j b.size with p|p<;>simp[p]
     rw[this];simp
    ·rw[getD_set_ne true J];exact K
   ·rw[wanted_put l _ q.dst u D];exact d.1
   ·rw[execOp_put l (LR y o).2 _ q.dst u D];exact d.2.1 w hw
   ·rw[about_put l w _ q.dst u D];exact d.2.2 w
   ·rw[Array.setIfInBounds_comm _ _ g];exact R
theorem NK {i:Nat} {o:Oper} {k:Nat} {c:Array Bool} {a:Act} {w:Xh} (d:ZL md ops c=[i]) (m:ops[i]?=some o)
 (h:∀b:Act->Xh->Prop,(∀a w,S w->Ij F n P md ops Q S k (c.setIfInBounds i true) a w->b a w)->
   if ZW o (yielded ops a.tmps)=true then Oper.wpIn F n P o a w b Q else(∀f,o.about P w a.eval=some f->F.fn f)/\b (a.put o.dst undef) w) :
 Ij F n P md ops Q S (k+1) c a w:=by
 refine⟨λg=>absurd (d ▸ g) (by simp),λj e=>?_⟩;rw[d] at e
 obtain rfl:j=i:=by simpa using e
 exact wpOpIn_step m λb l=>h b λa w p q=>l a w ⟨p,q⟩
theorem SL {k:Nat} {c:Array Bool} {a:Act} {w:Xh} (b:ZL md ops c=[]) (h:Q .normal a w):Ij F n P md ops Q S k c a w:=by
 cases k with
 |zero=>exact⟨b,h⟩
 |succ k=>exact⟨λ_=>h,by rw[b];simp⟩
theorem QI {id:Nat} {a:Act} {w:Xh} (S:Xh->Prop) (b:P.follows .mixedOrders=true)
 (h:Ij F n P .any ops Q S ops.size (Array.replicate ops.size false) a w.drew):(Code.region id ops true).wpIn F n P Q a w:=
 wpIn_region_any b (acR h)
end
end Go.Proofs.YtdcacoifehkioaaGreatDoor
