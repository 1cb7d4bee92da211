import Derived.Test.YtdcacoifehkioaaGreatDoorExA8
import Derived.Test.YtdcacoifehkioaaGreatDoorExA3
import Derived.Test.YtdcacoifehkioaaGreatDoorExA7
import Derived.Test.YtdcacoifehkioaaGreatDoorExA2
import Derived.OrdersIn
import Derived.TacticsIn
open List renaming flatMap_cons->XO,getElem?_eq_some_iff->Xf,map_append->XH,mem_append->XX,mem_append_left->ZA,nodup_append->afS,mem_of_getElem?->Xz,mem_singleton->XT,flatMap_append->Ya,append_assoc->X3,append_nil->Yf,length_map->Xp,getElem?_append_left->XC,getElem?_append_right->XK,length_append->Xb,mem_flatMap->afC,mem_map->YA,map_map->Zv,map_cons->Za,getElem?_map->Xs
open Option.some renaming inj->Ys
open Go renaming World->Xh,Program->Zk,Value->Xk,run_takeDeferred->ZO
open Go.World renaming cell?->Xg,putObj_heap_other->Yg
open Array renaming getElem?_eq_some_iff->Xa
open Go.Region renaming wanted->ZU,ready->ZJ
open Go.Oper renaming uponIn->aeH
set_option linter.unusedVariables false
set_option linter.unusedSimpArgs false
namespace Go.Proofs.YtdcacoifehkioaaGreatDoor
open Go.RowKit Go.Proofs.Cod
theorem Rj (c lm a:Nat) (line:Int) (l:List (Int×Tx)):l.flatMap (EB c lm a line)=(EQ l).map λq=>(a,(if q.1=116 then c else lm),q.1,q.2,line):=by
 induction l with
 |nil=>rfl
 |cons p l e=>
  rw[XO,e];unfold EQ EB
  by_cases d:p.1=116
  ·simp[d]
  ·by_cases b:p.1=108
   ·simp[b]
   ·simp[d,b]
section
variable {G G':RG} {nb n0:Nat} {s:PS} {X:List LB}
theorem Ml.addr {x:LB} (h:Ml G x) {a:Nat} (f:a∈x.c.ins):∃i,G.I a=some i:=by
 obtain⟨k,b⟩:=List.getElem?_of_mem f;have d:=(Xf.1 b).1;obtain⟨p,e⟩:∃p,x.pb.code[k]?=some p:=⟨_,List.getElem?_eq_getElem (by rw[<-h.len];exact d)⟩
 exact⟨_,h.ins k a p b e⟩
theorem RH {x x':LB} {f:List LB} (h:CL G nb s (f++[x])) (j:x'.a=x.a) (m:G'.N=G.N) (z:G'.nms=G.nms) (t:G'.bods=G.bods) (n:∀a,a≠x.a->G'.B a=G.B a) (o:∀y,y∈f->∀d,d∈y.c.ins->G'.I d=G.I d)
 (D:Ml G' x') (g:G'.las.map Ca.key=G.las.map Ca.key++(DN nb x').drop (DN nb x).length) (A:(DN nb x').take (DN nb x).length=DN nb x) (u:(f.flatMap (λx=>x.c.ins)++x'.c.ins).Nodup):CL G' nb (HU s x'.pb) (f++[x']):=by
 have i:=h.nda;rw[XH] at i;refine⟨m.trans h.N,z.trans h.nms,?_,?_,λy b=>?_,?_,?_,?_⟩
 ·rw[t,h.bods];simp[j]
 ·show s.bod.dropLast++[x'.pb]=_;rw[h.bod];simp
 ·rcases XX.1 b with b|b
  ·obtain⟨E,v,w,q,l⟩:=h.each y (ZA _ b);have r:y.a≠x.a:=λe=>by
    have:=(afS.1 i).2.2 y.a (List.mem_map_of_mem b) x.a (by simp);exact this e
   exact⟨(n _ r).trans E,v,w,λk d p g C=>(o y b d (Xz g)).trans (q k d p g C),l⟩
  ·obtain rfl:=XT.1 b
   exact D
 ·rw[g,h.keys,Ya,Ya,X3]
  congr 1
  simp only[XO,List.flatMap_nil,Yf]
  conv=>rhs;rw[<-List.take_append_drop (DN nb x).length (DN nb x'),A]
 ·rw[XH];show (f.map LB.a++[x'.a]).Nodup;rw[j];exact i
 ·rw[Ya];simpa using u
theorem abw {a:Nat} {f:EV} {n:Tx} (h:CL G nb s X) (l:G.bods.getLast?=some a) (g:G.B a=some f) (i:f.labs n=none):∃b k,s.bod.getLast?=some b/\b.labs n=none/\CL (G.mark a f n) nb (HU s {b with labs:=Bc b.labs n b.code.length}) k:=by
 obtain⟨j,x,rfl,rfl,m,o⟩:=Np h l;have d:=h.each x (by simp);have e:x.c=f:=by have:=d.b;rw[g] at this;exact(Ys this).symm
 subst e;refine⟨x.pb,j++[⟨x.a,{x.c with labs:=Bc x.c.labs n x.c.ins.length},{x.pb with labs:=Bc x.pb.labs n x.pb.code.length}⟩],m,by rw[<-d.labs];exact i,?_⟩;refine RH (x':=⟨x.a,{x.c with labs:=Bc x.c.labs n x.c.ins.length},{x.pb with labs:=Bc x.pb.labs n x.pb.code.length}⟩) h rfl rfl rfl rfl (λb g=>Jg _ g) (λ_ _ _ _=>rfl) ⟨IJ _ _ _,?_,d.len,d.ins,d.small⟩ ?_ ?_ ?_
 ·show Bc x.c.labs n x.c.ins.length=Bc x.pb.labs n x.pb.code.length;rw[d.labs,d.len]
 ·show G.las.map Ca.key=G.las.map Ca.key++(DN nb x).drop (DN nb x).length
  simp
 ·show (DN nb x).take (DN nb x).length=DN nb x
  simp
 ·have:=h.ndi;rw[Ya] at this
  simpa using this
theorem Um {α β:Type} {l:List α} {m:List β} (h:l.length=m.length) (x:α) (y:β):(l++[x]).zip (m++[y])=l.zip m++[(x,y)]:=by
 rw[List.zip_append h];rfl
theorem acw {a:Nat} {t:EV} {D:Tx} {ts:List Tx} (h:CL G nb s X) (Q:Mg G n0) (R:G.bods.getLast?=some a) (w:G.B a=some t) (T:Ox n0 nb a t D ts G G') :
 ∃b H s',s.bod.getLast?=some b/\ER G.line D ts s b = .ok s'/\CL G' nb s' H/\s'.nms=s.nms/\s'.bod.length=s.bod.length/\G'.las.length<=G.las.length+3/\G'.line=G.line:=by
 obtain⟨z,x,rfl,rfl,P,U⟩:=Np h R;have f:=h.each x (by simp);have e:x.c=t:=by have:=f.b;rw[w] at this;exact(Ys this).symm
 subst e;obtain⟨ps,A,K,p3,g,i,cs,lV,v,W,F,E,rfl⟩:=T;have Z:(AQ ps ts).length<=3:=by
  have:=QX A;unfold AQ;rw[List.length_zip,Xp];omega
 have V:cs.length<=3:=by
  have J:=congrArg List.length E;rw[Xp,Rj,Xp] at J;have Y:(EQ (AQ ps ts)).length<=(AQ ps ts).length:=List.length_filter_le _ _
  omega
 have q:∀y,y∈z++[x]->∀k,k∈y.c.ins->k≠g:=λy n k d e=>by
  obtain⟨j,r⟩:=(h.each y n).addr d;have:=Q.2 k j r
  omega
 obtain⟨x',m⟩:∃x':LB,(⟨x.a,{x.c with ins:=x.c.ins++[g],cv:=v},{x.pb with code:=x.pb.code++[⟨i,G.line,EQ (AQ ps ts)⟩]}⟩:LB)=x':=⟨_,rfl⟩;have C:DN nb x'=DN nb x++(AQ ps ts).flatMap (EB nb x.c.lm g G.line):=by
  rw[<-m,Rj];unfold DN;show ((x.c.ins++[g]).zip (x.pb.code++[_])).flatMap _=_;rw[Um f.len,Ya]
  simp
 refine⟨x.pb,z++[x'],HU s x'.pb,P,?_,?_,rfl,?_,?_,rfl⟩
 ·unfold ER;rw[A];show (if Bi ts ps=false then _ else _)=_;rw[if_neg (by rw[K];simp),if_neg (by rw[<-f.len];omega)];rw[h.N] at F;rw[F,<-m]
 ·refine RH h (by rw[<-m]) rfl rfl rfl (λb w=>Jg _ w) (λy n k d=>Jg _ (q y (ZA _ n) k d)) ?_ ?_ ?_ ?_
  ·rw[<-m];refine⟨IJ _ _ _,f.labs,by simp[f.len],λk o p d l=>?_,?_⟩
   ·have d:(x.c.ins++[g])[k]?=some o:=d;have l:(x.pb.code++[⟨i,G.line,EQ (AQ ps ts)⟩])[k]?=some p:=l
    by_cases e:k<x.c.ins.length
    ·rw[XC e] at d;rw[XC (by rw[<-f.len];exact e)] at l;show BU G.I g i o=_;rw[Jg _ (q x (by simp) o (Xz d))];exact f.ins k o p d l
    ·have M:=(Xf.1 d).1
     simp at M
     have S:k=x.c.ins.length:=by omega
     subst S;rw[XK (Nat.le_refl _),Nat.sub_self] at d;rw[f.len,XK (Nat.le_refl _),Nat.sub_self] at l
     cases d;cases l
     exact IJ _ _ _
   ·show (x.pb.code++[_]).length<=24;rw[Xb,<-f.len];simp;omega
  ·show (G.las++cs).map Ca.key=_;rw[XH,E,C,List.drop_left]
  ·rw[C,List.take_left]
  ·have u:=h.ndi;rw[Ya] at u;simp only[XO,List.flatMap_nil,Yf] at u;rw[<-m];show (z.flatMap (λx=>x.c.ins)++(x.c.ins++[g])).Nodup;rw[<-X3,afS];refine⟨u,by simp,λk d j r=>?_⟩
   obtain rfl:=XT.1 r
   rcases XX.1 d with d|d
   ·obtain⟨y,n,O⟩:=afC.1 d;exact q y (ZA _ n) k O
   ·exact q x (by simp) k d
 ·show (s.bod.dropLast++[x'.pb]).length=s.bod.length;rw[h.bod];simp
 ·show (G.las++cs).length<=_;rw[Xb];omega
theorem aeD {ts:List Tx} (h:CL G nb s X) (H:Mg G n0) (K:Oz n0 ts G G'):∃f x,ts.length=1/\Cg 116 ts s = .ok f/\CL G' nb (Jw f) x/\(∀k,(s.nms k).length<=4->(f.nms k).length<=4)/\(f.nms 116).length=(s.nms 116).length+1/\f.bod=s.bod/\G'.las=G.las/\G'.line=G.line:=by
 obtain⟨q,i,a,lm,v,l,Q,rfl⟩:=K;obtain⟨f,E,g,z,F,w,M,A,r⟩:=Tp l h;have O:i.B=G.B/\i.I=G.I:=⟨l.2.2.2.2.2.2.2.2.2.1,l.2.2.2.2.2.2.2.2.2.2.1⟩;have o:∀y,y∈X->y.a≠a:=λy d e=>by
  have:=H.1 y.a y.c (h.each y d).b
  omega
 refine⟨f,X++[⟨a,{lm:=lm,cv:=.slice none 0 0,ins:=[],labs:=λ_=>none},⟨[],λ_=>none⟩⟩],q,E,⟨g.N,g.nms,?_,?_,λy d=>?_,?_,?_,?_⟩,F,by rw[w,Xb,q],z,A,r⟩
 ·show i.bods++[a]=_;rw[g.bods];simp
 ·show f.bod++[⟨[],λ_=>none⟩]=_;rw[g.bod];simp
 ·rcases XX.1 d with d|d
  ·obtain⟨J,C,D,u,t⟩:=g.each y d
   exact⟨(Jg _ (o y d)).trans J,C,D,u,t⟩
  ·obtain rfl:=XT.1 d
   exact⟨IJ _ _ _,rfl,rfl,(λk P p m=>by cases m),by simp⟩
 ·show i.las.map Ca.key=_;rw[g.keys,Ya];simp[DN]
 ·rw[XH,afS];refine⟨h.nda,by simp,λk m j n=>?_⟩
  simp at n
  obtain⟨y,d,rfl⟩:=YA.1 m;rw[n];exact o y d
 ·rw[Ya];simpa using g.ndi
theorem UX {f:Tx} {ts:List Tx} (c:TU n0 nb f ts G G') (h:CL G nb s X) (d:Mf s) (o:Mg G n0):∃s' g,stepT G.line f ts s = .ok s'/\CL G' nb s' g/\Mf s'/\G'.las.length<=G.las.length+3/\G'.line=G.line:=by
 rcases c with⟨i,c⟩|⟨i,B,c⟩|⟨i,a,U,p,n,c⟩
 ·obtain⟨j,g,S,H,I,y,t,v,Q,K⟩:=aeD h o c;refine⟨Jw j,g,?_,I,⟨?_,λk=>y k (d.few k)⟩,by rw[Q];omega,K⟩
  ·unfold stepT;rw[if_pos i,if_pos S,H];rfl
  ·show (j.nms 116).length=(j.bod++[_]).length;rw[t,v,Xb,d.thr];rfl
 ·obtain⟨j,N,E,C,O,V,q,F,r⟩:=Tp c h;have T:s.bod=[]:=by
   have:=h.bods;rw[B] at this;have z:X=[]:=by
    cases X with
    |nil=>rfl
    |cons x X=>simp at this
   rw[h.bod,z];rfl
  refine⟨j,X,?_,E,⟨?_,λk=>O k (d.few k)⟩,by rw[F];omega,r⟩
  ·unfold stepT;rw[if_neg i,T];exact N
  ·have l:(116:Int)≠Di f:=by
    unfold Di
    split
    ·decide
    ·split
     ·decide
     ·split<;>decide
   rw[q 116 l,C];exact d.thr
 ·rcases c with⟨c1,c2,c3,c4,rfl⟩|⟨c1,c⟩
  ·obtain⟨b,g,m1,J,w⟩:=abw h p n c4;refine⟨_,g,?_,w,⟨?_,d.few⟩,by show G.las.length<=_;omega,rfl⟩
   ·unfold stepT;rw[if_neg i,m1];show (if BG f=true/\ts=[] then _ else _)=_;rw[if_pos ⟨c1,c2⟩];unfold Gc;rw[if_neg (by rw[c3];simp),J]
   ·show (s.nms 116).length=(s.bod.dropLast++[_]).length;have l:s.bod≠[]:=λe=>by rw[e] at m1;cases m1
    have:=List.length_pos_iff.2 l;rw[Xb,List.length_dropLast,d.thr];simp;omega
  ·obtain⟨b,g,s',M,D,R,m,A,P,u⟩:=acw h o p n c;refine⟨s',g,?_,R,⟨by rw[m,A];exact d.thr,by rw[m];exact d.few⟩,P,u⟩;unfold stepT;rw[if_neg i,M];show (if BG f=true/\ts=[] then _ else _)=_;rw[if_neg c1];exact D
theorem UZ {f:Tx} {ts:List Tx} {e:Int} (d:TW f ts G e) (h:CL G nb s X):stepT G.line f ts s = .error e:=by
 unfold stepT
 rcases d with⟨j,d⟩|⟨j,i,d⟩|⟨j,a,p,y,u,d⟩
 ·rw[if_pos j]
  rcases d with⟨i,rfl⟩|⟨i,d⟩
  ·rw[if_neg i]
  ·rw[if_pos i,Tq d h];rfl
 ·have z:s.bod=[]:=by
   have:=h.bods;rw[i] at this;have q:X=[]:=by
    cases X with
    |nil=>rfl
    |cons x X=>simp at this
   rw[h.bod,q];rfl
  rw[if_neg j,z];exact Tq d h
 ·rw[if_neg j];obtain⟨A,x,rfl,rfl,r,B⟩:=Np h y;have l:=h.each x (by simp);have o:x.c=p:=by have:=l.b;rw[u] at this;exact(Ys this).symm
  subst o;rw[r]
  rcases d with⟨c1,c2,d⟩|⟨c1,d⟩
  ·show (if BG f=true/\ts=[] then _ else _)=_;rw[if_pos ⟨c1,c2⟩];unfold Gc
   rcases d with⟨g,rfl⟩|⟨g,⟨n,v⟩,rfl⟩
   ·rw[if_pos g]
   ·rw[if_neg (by rw[g];simp),<-l.labs,v]
  ·show (if BG f=true/\ts=[] then _ else _)=_;rw[if_neg c1];unfold ER
   rcases d with⟨g,rfl⟩|⟨ps,g,t,k⟩
   ·cases w:Df f with
    |none=>rfl
    |some ps=>
     show (if Bi ts ps=false then _ else _)=_;rw[if_pos (g ps w)]
   ·rw[g];show (if Bi ts ps=false then _ else _)=_;rw[if_neg (by rw[t];simp)];rw[<-l.len]
    rcases k with⟨k,rfl⟩|⟨k,m,rfl⟩
    ·rw[if_pos k]
    ·rw[h.N] at m;rw[if_neg (by omega),m]
end
def Fu (N:Tx->Option (Int×Nat)) (labs:Tx->Option Nat) (k:Int):Tx->Option (Int×Nat):=if k=116 then N else IL labs
def FL (N:Tx->Option (Int×Nat)) (labs:Tx->Option Nat) (q:Int×Tx):Option Nat:=match Fu N labs q.1 q.2 with
 |some p=>if p.1=q.1 then some p.2 else none
 |none=>none
def DB (N:Tx->Option (Int×Nat)) (labs:Tx->Option Nat):Ad->List (Int×Tx)->Option Ad
 |i,[]=>some i
 |i,q::l=>match FL N labs q with
  |some n=>DB N labs {i with x:=(n:Int)} l
  |none=>none
def EO (N:Tx->Option (Int×Nat)) (labs:Tx->Option Nat):List PI->Except Int (List Ad)
 |[]=>.ok []
 |p::l=>match DB N labs p.i p.off with
  |some i=>(EO N labs l).map (i :: ·)
  |none=>.error p.line
def DC (N:Tx->Option (Int×Nat)):List PB->Except Int (List (List Ad))
 |[]=>.ok []
 |b::l=>match EO N b.labs b.code with
  |.ok c=>(DC N l).map (c :: ·)
  |.error e=>.error e
structure QE where
 ia:Nat
 kd:Int
 nm:Tx
 ln:Int
 T:Tx->Option (Int×Nat)
def Db:List QE->(Nat->Option Ad)->Except Int (Nat->Option Ad)
 |[],I=>.ok I
 |q::l,I=>match q.T q.nm with
  |some p=>if p.1=q.kd then(match I q.ia with
   |some i=>Db l (BU I q.ia {i with x:=(p.2:Int)})
   |none=>.error q.ln) else .error q.ln
  |none=>.error q.ln
abbrev EE:=LB×(Nat×PI)×(Int×Tx)
def Ec (x:LB):List EE:=(x.c.ins.zip x.pb.code).flatMap λp=>p.2.off.map λq=>(x,p,q)
def Sh (nb:Nat) (e:EE):Nat×Nat×Int×Tx×Int:=(e.2.1.1,(if e.2.2.1=116 then nb else e.1.c.lm),e.2.2.1,e.2.2.2,e.2.1.2.line)
def Cx (N:Tx->Option (Int×Nat)) (e:EE):QE:=⟨e.2.1.1,e.2.2.1,e.2.2.2,e.2.1.2.line,Fu N e.1.pb.labs e.2.2.1⟩
theorem Sc (a:Nat) (X:List LB):X.flatMap (DN a)=(X.flatMap Ec).map (Sh a):=by
 rw[List.map_flatMap]
 congr 1
 funext x
 unfold DN Ec;rw[List.map_flatMap]
 congr 1
 funext p
 rw[Zv]
 rfl
theorem Qk (N:Tx->Option (Int×Nat)) (x:LB) (a:Nat) (p:PI) (rest:List QE):∀(c:List (Int×Tx)) (i:Ad) (I:Nat->Option Ad),I a=some i->
 (∃i' e,DB N x.pb.labs i c=some i'/\(∀b,b≠a->e b=I b)/\e a=some i'/\Db ((c.map λq=>Cx N (x,(a,p),q))++rest) I=Db rest e)\/(DB N x.pb.labs i c=none/\Db ((c.map λq=>Cx N (x,(a,p),q))++rest) I = .error p.line)
 |[],i,I,h=>.inl ⟨i,I,rfl,λ_ _=>rfl,h,rfl⟩
 |q::c,i,I,h=>by
  cases d:Fu N x.pb.labs q.1 q.2 with
  |none=>
   right;constructor
   ·unfold DB FL;rw[d]
   ·show Db (Cx N (x,(a,p),q)::_) I=_;unfold Db;show (match Fu N x.pb.labs q.1 q.2 with|some k=>_|none=>_)=_;rw[d];rfl
  |some t=>
   by_cases f:t.1=q.1
   ·have g:FL N x.pb.labs q=some t.2:=by unfold FL;rw[d];show (if t.1=q.1 then _ else _)=_;rw[if_pos f]
    have m:Db (((q::c).map λq=>Cx N (x,(a,p),q))++rest) I=Db ((c.map λq=>Cx N (x,(a,p),q))++rest) (BU I a {i with x:=(t.2:Int)}):=by
     show Db (Cx N (x,(a,p),q)::_) I=_
     conv=>lhs;unfold Db
     show (match Fu N x.pb.labs q.1 q.2 with|some k=>_|none=>_)=_;rw[d];show (if t.1=q.1 then _ else _)=_;rw[if_pos f];show (match I a with|some i=>_|none=>_)=_;rw[h];rfl
    have l:DB N x.pb.labs i (q::c)=DB N x.pb.labs {i with x:=(t.2:Int)} c:=by
     conv=>lhs;unfold DB
     rw[g]
    rw[m,l]
    rcases Qk N x a p rest c {i with x:=(t.2:Int)} (BU I a {i with x:=(t.2:Int)}) (IJ _ _ _) with⟨i',e,h1,h2,h3,h4⟩|⟨h1,h2⟩
    ·exact .inl ⟨i',e,h1,λb j=>(h2 b j).trans (Jg _ j),h3,h4⟩
    ·exact .inr ⟨h1,h2⟩
   ·right;constructor
    ·have g:FL N x.pb.labs q=none:=by unfold FL;rw[d];show (if t.1=q.1 then _ else _)=_;rw[if_neg f]
     unfold DB;rw[g]
    ·show Db (Cx N (x,(a,p),q)::_) I=_;unfold Db;show (match Fu N x.pb.labs q.1 q.2 with|some k=>_|none=>_)=_;rw[d];show (if t.1=q.1 then _ else _)=_;rw[if_neg f];rfl
theorem Qm (N:Tx->Option (Int×Nat)) (x:LB) (rest:List QE):∀(al:List Nat) (ps:List PI) (I:Nat->Option Ad),al.length=ps.length->al.Nodup->(∀(k a:Nat) (p:PI),al[k]?=some a->ps[k]?=some p->I a=some p.i)->
 (∃is c,EO N x.pb.labs ps = .ok is/\is.length=al.length/\(∀b,b∉al->c b=I b)/\(∀(k a:Nat) (i:Ad),al[k]?=some a->is[k]?=some i->c a=some i)/\Db (((al.zip ps).flatMap λp=>p.2.off.map λq=>Cx N (x,p,q))++rest) I=Db rest c)\/∃e,EO N x.pb.labs ps = .error e/\Db (((al.zip ps).flatMap λp=>p.2.off.map λq=>Cx N (x,p,q))++rest) I = .error e
 |[],[],I,_,_,_=>.inl ⟨[],I,rfl,rfl,λ_ _=>rfl,(λk a i h=>by cases h),rfl⟩
 |[],_::_,_,h,_,_=>by simp at h
 |_::_,[],_,h,_,_=>by simp at h
 |a::al,p::ps,I,hl,hn,hI=>by
  rw[List.nodup_cons] at hn;have A:I a=some p.i:=hI 0 a p rfl rfl;have v:(((a::al).zip (p::ps)).flatMap λp=>p.2.off.map λq=>Cx N (x,p,q))++rest=(p.off.map λq=>Cx N (x,(a,p),q))++(((al.zip ps).flatMap λp=>p.2.off.map λq=>Cx N (x,p,q))++rest):=by
   rw[List.zip_cons_cons,XO,X3]
  rw[v]
  rcases Qk N x a p (((al.zip ps).flatMap λp=>p.2.off.map λq=>Cx N (x,p,q))++rest) p.off p.i I A with⟨i',o,g,f,y,s⟩|⟨g,f⟩
  ·rw[s];have w:∀(k b:Nat) (q:PI),al[k]?=some b->ps[k]?=some q->o b=some q.i:=λk b q d z=>by
    rw[f b (λe=>hn.1 (by rw[<-e];exact Xz d))];exact hI (k+1) b q (by simpa using d) (by simpa using z)
   rcases Qm N x rest al ps o (by simpa using hl) hn.2 w with⟨is,c,j,l,r,t,u⟩|⟨e,j,l⟩
   ·refine .inl ⟨i'::is,c,?_,by simp[l],λb m=>?_,λk b i d n=>?_,u⟩
    ·unfold EO;rw[g,j];rfl
    ·simp only[List.mem_cons,not_or] at m;rw[r b m.2,f b m.1]
    ·cases k with
     |zero=>
      cases d;cases n
      rw[r a hn.1];exact y
     |succ k=>exact t k b i (by simpa using d) (by simpa using n)
   ·refine .inr ⟨e,?_,l⟩;unfold EO;rw[g,j];rfl
  ·refine .inr ⟨p.line,?_,f⟩;unfold EO;rw[g]
theorem MF (N:Tx->Option (Int×Nat)):∀(X:List LB) (I:Nat->Option Ad),(X.flatMap λx=>x.c.ins).Nodup->(∀x,x∈X->x.c.ins.length=x.pb.code.length/\∀(k a:Nat) (p:PI),x.c.ins[k]?=some a->x.pb.code[k]?=some p->I a=some p.i)->
 (∃C d,DC N (X.map LB.pb) = .ok C/\C.length=X.length/\(∀b,b∉(X.flatMap λx=>x.c.ins)->d b=I b)/\(∀(j:Nat) (x:LB) (is:List Ad),X[j]?=some x->C[j]?=some is->is.length=x.c.ins.length/\∀(k a:Nat) (i:Ad),x.c.ins[k]?=some a->is[k]?=some i->d a=some i)/\Db ((X.flatMap Ec).map (Cx N)) I = .ok d)\/∃e,DC N (X.map LB.pb) = .error e/\Db ((X.flatMap Ec).map (Cx N)) I = .error e
 |[],I,_,_=>.inl ⟨[],I,rfl,rfl,λ_ _=>rfl,(λj x is h=>by cases h),rfl⟩
 |x::X,I,hn,hI=>by
  rw[XO,afS] at hn;obtain⟨F,O,u⟩:=hn;have z:=hI x (by simp);have M:((x::X).flatMap Ec).map (Cx N)=((x.c.ins.zip x.pb.code).flatMap λp=>p.2.off.map λq=>Cx N (x,p,q))++(X.flatMap Ec).map (Cx N):=by
   rw[XO,XH]
   congr 1
   unfold Ec;rw[List.map_flatMap]
   congr 1
   funext p
   rw[Zv]
   rfl
  rw[M]
  rcases Qm N x ((X.flatMap Ec).map (Cx N)) x.c.ins x.pb.code I z.1 F z.2 with⟨is,t,g,m,v,G,E⟩|⟨e,g,m⟩
  ·rw[E];have P:∀y,y∈X->y.c.ins.length=y.pb.code.length/\∀(k a:Nat) (p:PI),y.c.ins[k]?=some a->y.pb.code[k]?=some p->t a=some p.i:=λy w=>by
    have:=hI y (by simp[w]);refine⟨this.1,λk a p f Q=>?_⟩;rw[v a (λr=>u a r a (afC.2 ⟨y,w,Xz f⟩) rfl)];exact this.2 k a p f Q
   rcases MF N X t O P with⟨C,d,l,n,A,H,J⟩|⟨e,l,n⟩
   ·refine .inl ⟨is::C,d,?_,by simp[n],λb o=>?_,λj y D s B=>?_,J⟩
    ·rw[Za];unfold DC;rw[g];show (DC N (X.map LB.pb)).map _=_;rw[l];rfl
    ·rw[XO,XX,not_or] at o;rw[A b o.2,v b o.1]
    ·cases j with
     |zero=>
      cases s;cases B
      refine⟨m,λk a i f K=>?_⟩;rw[A a (λr=>u a (Xz f) a r rfl)];exact G k a i f K
     |succ j=>exact H j y D (by simpa using s) (by simpa using B)
   ·refine .inr ⟨e,?_,n⟩;rw[Za];unfold DC;rw[g];show (DC N (X.map LB.pb)).map _=_;rw[l];rfl
  ·refine .inr ⟨e,?_,m⟩;rw[Za];unfold DC;rw[g]
def CC (n:Int) (l:Tx) (s:PS):Except Int PS:=match CP l with
 |[]=>.ok s
 |f::ts=>stepT n f ts s
def CH:List Tx->Int->PS->Except (Int×Int) PS
 |[],_,s=>.ok s
 |l::ls,n,s=>match CC (n+1) l s with
  |.ok s'=>CH ls (n+1) s'
  |.error e=>.error (e,n+1)
end Go.Proofs.YtdcacoifehkioaaGreatDoor
namespace Go.Proofs.YtdcacoifehkioaaGreatDoor
open Go.RowKit Go.Shelf Go.Proofs.Cod
theorem Al.Lw {w w':Xh} {d:Nat->RT} {base rb l lb:Nat} {G:RG} (h:Al w d base rb l lb G) (f:∀b,b<w.heap.size->d b≠.o\/b<base->w'.heap[b]?=w.heap[b]?) (r:w.heap.size<=w'.heap.size):Al w' d base rb l lb G:=by
 have key:∀{b:Nat} {g:RT},d b=g->g≠.o->w'.heap[b]?=w.heap[b]?/\d b=g:=λ{b g} e p=>⟨f b (h.lt e p) (.inl (by rw[e];exact p)),e⟩
 have q:=h.g1;have m:=h.g2;have v:=h.g3;refine⟨(key h.trd (by simp)).1.trans h.cell,λk t=>(h.rows k t).kept λb e=>key e (by simp),h.brow.kept λb e=>key e (by simp),h.lrow.kept λb e=>key e (by simp),h.names.kept (key h.tnm (by simp)).1 λb e=>key e (by simp),?_,λa c j=>?_,λa i s=>?_,λc j=>(h.clos c j).kept λb e=>key e (by simp),h.trd,h.tnm,h.tli,λb e=>⟨(h.tlt b e).1,Nat.lt_of_lt_of_le (h.tlt b e).2 r⟩,h.heads.kept (f _ (by omega) (.inr q)),h.shapes.kept (f _ (by omega) (.inr m)),q,m,by omega⟩
 ·obtain⟨n,u⟩:=h.lists
  exact⟨n,u.same (key h.tli (by simp)).1⟩
 ·refine(h.bodies a c j).kept λb e=>?_
  rcases e with e|e|e|e
  ·exact⟨(key e (by simp)).1,rfl⟩
  ·exact⟨(key e (by simp)).1,rfl⟩
  ·exact⟨(key e (by simp)).1,rfl⟩
  ·exact⟨(key e (by simp)).1,rfl⟩
 ·have:=h.ins a i s
  exact⟨(key this.2 (by simp)).1.trans this.1,this.2⟩
theorem Al.fresh {w:Xh} {g:Nat->RT} {base rb f lb:Nat} {G:RG} (h:Al w g base rb f lb G):Mg G w.heap.size:=
 ⟨λa c b=>h.lt (h.bodies a c b).ta (by simp),λe i d=>h.lt (h.ins e i d).2 (by simp)⟩
theorem Al.VT {w:Xh} {d:Nat->RT} {base rb l lb:Nat} {G:RG} (h:Al w d base rb l lb G) (n:Int):Al (w.setCell ⟨rb,0,none⟩ (.int .i64 n)) d base rb l lb {G with line:=n}/\Ah w d (w.setCell ⟨rb,0,none⟩ (.int .i64 n)) d:=by
 have m:Ah w d (w.setCell ⟨rb,0,none⟩ (.int .i64 n)) d:=⟨rfl,rfl,rfl,by simp,λ_ _=>rfl,λb _ q=>Below.heap_setCell w ⟨rb,0,none⟩ _ b (Co q h.trd (by simp))⟩;refine⟨h.step (λg=>g = .rd) m (λb _ _ o=>Below.heap_setCell w ⟨rb,0,none⟩ _ b (λe=>o (by rw[e];exact h.trd))) (λb r p=>absurd (h.tlt b p).2 (by omega)) (by rw[heap_setCell_same w rb 0 _ _ _ h.cell];rfl) (λk _=>.inl ⟨rfl,rfl,by simp⟩) (.inl ⟨rfl,rfl,by simp⟩) (.inl ⟨rfl,rfl,by simp⟩) (.inl ⟨rfl,by simp⟩) (by simp) (by simp) (by simp) (λa c f=>.inl ⟨f,by simp,by simp,by simp⟩) (λa i j=>.inl ⟨j,?_⟩) (λc f=>.inl f),m⟩;exact Below.heap_setCell w ⟨rb,0,none⟩ _ a (Co (h.ins a i j).2 h.trd (by simp))
theorem CL.line {G:RG} {c:Nat} {s:PS} {X:List LB} (h:CL G c s X) (n:Int):CL {G with line:=n} c s X:=
 ⟨h.N,h.nms,h.bods,h.bod,λx a=>⟨(h.each x a).b,(h.each x a).labs,(h.each x a).len,(h.each x a).ins,(h.each x a).small⟩,h.keys,h.nda,h.ndi⟩
theorem Nq {ls:List Tx} {i:Nat} {l:Tx} (c:ls[i]?=some l) {n:Int} {a s:PS} (h:CH (ls.take i) n a = .ok s):(∀s',CC (n+i+1) l s = .ok s'->CH (ls.take (i+1)) n a = .ok s')/\(∀e,CC (n+i+1) l s = .error e->CH ls n a = .error (e,n+i+1)):=by
 induction ls generalizing i n a with
 |nil=>cases c
 |cons x ls g=>
  cases i with
  |zero=>
   have c:some x=some l:=c
   cases c
   have e:a=s:=by
    have h:(Except.ok a:Except (Int×Int) PS) = .ok s:=h;exact Except.ok.inj h
   subst e;constructor
   ·intro s' b;have b:CC (n+1) l a = .ok s':=by simpa using b
    show (match CC (n+1) l a with | .ok s'=>CH (ls.take 0) (n+1) s' | .error e=>.error (e,n+1))=_;rw[b];rfl
   ·intro e b;have b:CC (n+1) l a = .error e:=by simpa using b
    show (match CC (n+1) l a with | .ok s'=>CH ls (n+1) s' | .error e=>.error (e,n+1))=_;rw[b]
    simp
  |succ i=>
   have h:(match CC (n+1) x a with | .ok s'=>CH (ls.take i) (n+1) s' | .error e=>.error (e,n+1)) = .ok s:=h
   cases d:CC (n+1) x a with
   |error e=>rw[d] at h;cases h
   |ok m=>
    rw[d] at h;have j:n+((i+1:Nat):Int)+1=(n+1)+(i:Int)+1:=by omega
    rw[j];obtain⟨k,f⟩:=g (by simpa using c) h;constructor
    ·intro s' b;show (match CC (n+1) x a with | .ok s'=>CH (ls.take (i+1)) (n+1) s' | .error e=>.error (e,n+1))=_;rw[d];exact k s' b
    ·intro e b;show (match CC (n+1) x a with | .ok s'=>CH ls (n+1) s' | .error e=>.error (e,n+1))=_;rw[d];exact f e b
attribute [local go_sem] Oper.semAt_some
theorem SV {P:Zk} {w:Xh} {fn:Func} {tmps:Array Xk} {b:Nat} {e l:Int} (c:fn.results = #[.cell 4 138]) (d:tmps[4]?=some (.pointer (some ⟨b,0,none⟩))) (a:w.heap[b]?=some (.cells #[.int .i64 e,.int .i64 l] 138)):(results fn tmps).run Tryz.prog w = .ok (.agg #[.int .i64 e,.int .i64 l]) w:=by
 have c0:w.cell? ⟨b,0,none⟩=some (.int .i64 e):=by simp[Xg,a]
 have c1:w.cell? ⟨b,1,none⟩=some (.int .i64 l):=by simp[Xg,a]
 simp[results,c,d,go_sem,c0,c1]
theorem RS {W:Xh} {n:Nat} {tmps:Array Xk} {R:Ending->Xh->Prop} {e l x y:Int} (m:tmps[4]?=some (.pointer (some ⟨n+1,0,none⟩))) (c:W.heap[n+5]?=some (.deferred (some []))) (k:W.heap[n+1]?=some (.cells #[.int .i64 x,.int .i64 y] 138))
 (o:∀a,(∀b,b<W.heap.size->b≠n+1->b≠n+5->a.heap[b]?=W.heap[b]?)->W.heap.size<=a.heap.size->a.os=W.os->a.tape=W.tape->a.output=W.output->R (.returned (.agg #[.int .i64 e,.int .i64 l])) a) :
 LeavesInM Fence.wide 9 Tryz.prog Tryz.f48 tmps R [{target:=.collected (n+5),args := #[]},{target:=.fn (.func 104) #[.pointer (some ⟨n+1,0,none⟩)],args := #[]}] (.panicking (FC e l)) W:=by
 have t:n+5<W.heap.size:=(Xa.1 c).1;refine⟨by simp,.inl ⟨n+5,_,rfl,ZO c,?_⟩⟩;refine⟨by simp,.inr ⟨λ_=>by omega,_,_,104,#[.pointer (some ⟨n+1,0,none⟩)],rfl,by simp[invoke,go_sem],λ_ _=>trivial,?_⟩⟩;refine(aes (n+1) _ e l x y _ ((Yg (by omega)).trans k)).mono ?_;rintro w u w' ⟨rfl,⟨v,rfl⟩,p,i,s,h,d,q⟩;have r:settle (.panicking [{v:=v,recovered:=true}]) = .returning:=rfl;show LeavesInM _ _ _ _ _ _ [] (settle _) w';rw[r];refine⟨_,SV (P:=Tryz.prog) rfl m p,o w' (λb j f g=>(i b (by simpa using j) f).trans (Yg g)) (by simpa using s) h d q⟩
theorem abW {W:Xh} {n:Nat} {tmps:Array Xk} {R:Ending->Xh->Prop} {e l:Int} (h:tmps[4]?=some (.pointer (some ⟨n+1,0,none⟩))) (c:W.heap[n+5]?=some (.deferred (some []))) (g:W.heap[n+1]?=some (.cells #[.int .i64 e,.int .i64 l] 138))
 (i:∀a,(∀b,b<W.heap.size->b≠n+5->a.heap[b]?=W.heap[b]?)->W.heap.size<=a.heap.size->a.os=W.os->a.tape=W.tape->a.output=W.output->R (.returned (.agg #[.int .i64 e,.int .i64 l])) a) :
 LeavesInM Fence.wide 9 Tryz.prog Tryz.f48 tmps R [{target:=.collected (n+5),args := #[]},{target:=.fn (.func 104) #[.pointer (some ⟨n+1,0,none⟩)],args := #[]}] .returning W:=by
 have k:n+5<W.heap.size:=(Xa.1 c).1;refine⟨by simp,.inl ⟨n+5,_,rfl,ZO c,?_⟩⟩;refine⟨by simp,.inr ⟨λ_=>by omega,_,_,104,#[.pointer (some ⟨n+1,0,none⟩)],rfl,by simp[invoke,go_sem],λ_ _=>trivial,?_⟩⟩;refine(aer ⟨n+1,0,none⟩ _ _).mono ?_;rintro m o w' ⟨rfl,rfl,rfl⟩;have f:settle .returning = .returning:=rfl;show LeavesInM _ _ _ _ _ _ [] (settle _) _;rw[f];refine⟨_,SV (P:=Tryz.prog) rfl h ((Yg (by omega)).trans g),i _ (λb j d=>Yg d) (by simp) rfl rfl rfl⟩
structure BZ (w:Xh) (base:Nat) (vV fV lV thV:Xk) (vs fs ls:List Tx) (L:List (Tx×Xk)) (C:List (List Ad)):Prop where
 v:w.ownsRow base 9 1 vV vs.length (vs.map BS)
 f:w.ownsRow base 9 1 fV fs.length (fs.map BS)
 l:w.ownsRow base 9 1 lV ls.length (ls.map BS)
 t:w.ownsRow base 122 2 thV L.length (IY L)
 c:∀(i:Nat) (p:Tx×Xk) (is:List Ad),L[i]?=some p->C[i]?=some is->w.ownsRow base 108 7 p.2 is.length (GL is)
 len:C.length=L.length
def Ub (w:Xh) (b:Nat):Prop:=∀cs e,w.heap[b]?=some (.cells cs e)->e≠9/\e≠122/\e≠108
theorem JY {w w':Xh} {base e i n:Nat} {v:Xk} {j:List Xk} (h:w.ownsRow base e i v n j) (k:e=9\/e=122\/e=108) (l:∀b,base<=b->b<w.heap.size->¬Ub w b->w'.heap[b]?=w.heap[b]?):w'.ownsRow base e i v n j:=by
 refine⟨h.1,?_⟩
 rcases h.2 with o|⟨g,cap,f,rfl,d,c,rest⟩
 ·exact .inl o
 ·refine .inr ⟨g,cap,f,rfl,d,(l g d (Xa.1 c).1 (λm=>?_)).trans c,rest⟩;have:=m f e c
  rcases k with a|a|a
  ·exact this.1 a
  ·exact this.2.1 a
  ·exact this.2.2 a
theorem BZ.kept {w w':Xh} {base:Nat} {d e lV g:Xk} {vs fs ls:List Tx} {L:List (Tx×Xk)} {C:List (List Ad)} (h:BZ w base d e lV g vs fs ls L C) (a:∀b,base<=b->b<w.heap.size->¬Ub w b->w'.heap[b]?=w.heap[b]?):BZ w' base d e lV g vs fs ls L C:=
 ⟨JY h.v (.inl rfl) a,JY h.f (.inl rfl) a,JY h.l (.inl rfl) a,JY h.t (.inr (.inl rfl)) a,λi p is k j=>JY (h.c i p is k j) (.inr (.inr rfl)) a,h.len⟩
def Ej (t:Tx):Except (Int×Int) (PS×List (List Ad)):=match CH (Ar 10 t) 0 PS.new with
 |.error e=>.error e
 |.ok s=>match DC s.N s.bod with
  |.error l=>.error (5,l)
  |.ok C=>.ok (s,C)
structure TZ (w':Xh) (base rb:Nat) (s:PS) (C:List (List Ad)):Prop where
 ex:∃vV fV lV thV L,w'.cell? ⟨rb,1,none⟩=some vV/\w'.cell? ⟨rb,2,none⟩=some fV/\w'.cell? ⟨rb,3,none⟩=some lV/\w'.cell? ⟨rb,4,none⟩=some thV/\BZ w' base vV fV lV thV (s.nms 118) (s.nms 102) (s.nms 109) L C/\L.map Prod.fst=s.nms 116
def ae6 (w:Xh) (base rb:Nat) (t:Tx) (e:Ending) (w':Xh):Prop:=Below base w w'/\((∃er ln,Ej t = .error (er,ln)/\e = .returned (.agg #[.int .i64 er,.int .i64 ln]))\/(∃s C,Ej t = .ok (s,C)/\e = .returned (.agg #[.int .i64 0,.int .i64 0])/\TZ w' base rb s C))
theorem Rc {t:Tx} {e l:Int} (h:CH (Ar 10 t) 0 PS.new = .error (e,l)):Ej t = .error (e,l):=by unfold Ej;rw[h]
theorem Rb {t:Tx} {s:PS} {l:Int} (h:CH (Ar 10 t) 0 PS.new = .ok s) (a:DC s.N s.bod = .error l):Ej t = .error (5,l):=by unfold Ej;rw[h];show (match DC s.N s.bod with | .error l=>_ | .ok C=>_)=_;rw[a]
theorem QZ {t:Tx} {s:PS} {C:List (List Ad)} (h:CH (Ar 10 t) 0 PS.new = .ok s) (a:DC s.N s.bod = .ok C):Ej t = .ok (s,C):=by unfold Ej;rw[h];show (match DC s.N s.bod with | .error l=>_ | .ok C=>_)=_;rw[a]
structure Uc (W:Xh) (tag:Nat->RT) (base rb nb lb:Nat) (G:RG) (s:PS) (X:List LB) (j:Nat) (Wj:Xh) (I:Nat->Option Ad):Prop where
 rd:Al Wj tag base rb nb lb {G with I:=I}
 ext:Ah W tag Wj tag
 run:Db ((X.flatMap Ec).map (Cx s.N)) G.I=Db (((X.flatMap Ec).map (Cx s.N)).drop j) I
 some:∀ia,(G.I ia).isSome=true->(I ia).isSome=true
theorem CL.ab1 {G:RG} {f:Nat} {s:PS} {X:List LB} (h:CL G f s X) {j:Nat} {c:Ca} (l:G.las[j]?=some c):∃x p q,(X.flatMap Ec)[j]?=some (x,p,q)/\x∈X/\c.ia=p.1/\c.tb=(if q.1=116 then f else x.c.lm)/\c.kd=q.1/\c.nm=q.2/\c.ln=p.2.line/\p.1∈x.c.ins:=by
 have g:(G.las.map Ca.key)[j]?=some c.key:=by rw[Xs,l];rfl
 rw[h.keys,Sc,Xs] at g;obtain⟨⟨x,p,q⟩,d,b⟩:=Option.map_eq_some_iff.1 g;have a:=Xz d;obtain⟨y,k,a⟩:=afC.1 a;unfold Ec at a;obtain⟨p',o,a⟩:=afC.1 a;obtain⟨n,v,e⟩:=YA.1 a;simp only[Prod.mk.injEq] at e;obtain⟨rfl,rfl,rfl⟩:=e;simp only[Sh,Ca.key,Prod.mk.injEq] at b;obtain⟨u,i,t,m,r⟩:=b
 exact⟨y,p',n,d,k,u.symm,i.symm,t.symm,m.symm,r.symm,(List.of_mem_zip o).1⟩
end Go.Proofs.YtdcacoifehkioaaGreatDoor
namespace Go.Proofs.YtdcacoifehkioaaGreatDoor
open Go
section
variable {F:Fence} {n:Nat} {P:Zk} {ops:Array Oper} {Q:Exit->Act->Xh->Prop} {md:Region.Mode} {S:Xh->Prop}
def Tz (ops:Array Oper):Bool:=ops.all λo=>match o.op with | .defer _=>false | .select .. =>false|_=>true
theorem LT (h:Tz ops=true) {j:Nat} {o:Oper} (a:ops[j]?=some o):(∀c,o.op≠.defer c)/\∀cs b,o.op≠.select cs b:=by
 have:=Array.all_eq_true_iff_forall_mem.1 h o (Array.mem_of_getElem? a)
 exact⟨λc e=>by simp[e] at this,λcs b e=>by simp[e] at this⟩
theorem aa1 {j:Nat} {g:Oper} {d:Option Tmp} {v:Xk} {K:Act->Xh->Prop} {a:Act} {w:Xh} (y:ops[j]?=some g)
 (p:(∀c,g.op≠.defer c)/\∀cs b,g.op≠.select cs b) (o:∀x,d=some x->x∉g.looksAt ops) (B:∀x,d=some x->g.dst≠some x)
 (m:∀c a w,Q (.panic c) (a.put d v) w->Q (.panic c) a w) (h:wpOpIn F n P ops Q j K (a.put d v) w) :
 wpOpIn F n P ops Q j (λt w'=>(∃u A,t=({a with defers:=A}:Act).put g.dst u)/\K (t.put d v) w') a w:=by
 have z:g.semAt F.round (a.put d v).eval=g.semAt F.round a.eval:=by
  rw[Oper.semAt_eq _ _ _ p.1,Oper.semAt_eq _ _ _ p.1];exact execOp_put g p.2 a d v o
 have k:∀(b:Act) u,(b.put d v).put g.dst u=(b.put g.dst u).put d v:=λb u=>Act.put_comm b v u B;unfold wpOpIn Oper.wpIn at h |-;simp only[y,wanted_put g a d v o,about_put g w a d v o,z] at h |-
 by_cases q:ZU g (yielded ops a.tmps)=true
 ·rw[if_pos q] at h |-;refine⟨h.1,?_⟩;have h:=h.2
  revert h
  generalize (g.semAt F.round a.eval).run P w=r;intro h
  rcases r with⟨x,w'⟩|⟨x,w'⟩
  ·cases x with
   |value u=>simp only[aeH] at h |-;exact⟨⟨u,a.defers,rfl⟩,k a u ▸ h⟩
   |skip=>simp only[aeH] at h |-;exact⟨⟨_,a.defers,rfl⟩,k a _ ▸ h⟩
   |defer e=>
    simp only[aeH] at h |-;rw[Act.put_defers,k] at h
    exact⟨⟨_,e::a.defers,rfl⟩,h⟩
   |enter f args=>
    simp only[aeH] at h |-;refine⟨h.1,h.2.mono λe s i=>?_⟩
    cases e with
    |returned u=>exact⟨⟨u,a.defers,rfl⟩,k a u ▸ i⟩
    |panicked c=>exact m _ _ _ i
    |outgrown=>exact i
   |row r args=>
    simp only[aeH] at h |-
    exact⟨h.1,h.2.mono λu s i=>⟨⟨u,a.defers,rfl⟩,k a u ▸ i⟩⟩
   |round l f tmps C body=>
    simp only[aeH] at h |-;refine⟨h.1,h.2.mono λe s i=>?_⟩
    cases e with
    |returned u=>exact⟨⟨u,a.defers,rfl⟩,k a u ▸ i⟩
    |panicked c=>exact m _ _ _ i
    |outgrown=>exact i
   |_=>simp only[aeH] at h
  ·cases x<;>simp only[aeH] at h |-
   exact m _ _ _ h
 ·rw[if_neg q] at h |-
  exact⟨h.1,⟨_,a.defers,rfl⟩,k a _ ▸ h.2⟩
def Ig (F:Fence) (n:Nat) (P:Zk) (md:Region.Mode) (ops:Array Oper) (Q:Exit->Act->Xh->Prop) (S:Xh->Prop):Nat->Array Bool->Act->Xh->Prop
 |0,listed,a,w=>ZJ md ops listed=[]/\Q .normal a w
 |k+1,listed,a,w=>(ZJ md ops listed=[]->Q .normal a w)/\
  ∀i∈ZJ md ops listed,wpOpIn F n P ops Q i (λa' w'=>S w'/\Ig F n P md ops Q S k (listed.setIfInBounds i true) a' w') a w
theorem acL {k:Nat} {b:Array Bool} {a:Act} {w:Xh} (h:Ig F n P md ops Q S k b a w):wpAnyIn F n P md ops Q k b a w:=by
 induction k generalizing b a w with
 |zero=>exact h
 |succ k e=>exact⟨h.1,λi c=>wpOpIn_mono (λ_ _ d=>e d.2) (h.2 i c)⟩
def afb (P:Zk) (ops:Array Oper) (S:Xh->Prop) (o:Oper) (v:Xk) (a:Act):Prop:=
 ZU o (yielded ops a.tmps)=true/\(∀w,S w->(execOp a.eval o).run P w = .ok (.value v) w)/\∀w,o.about P w a.eval=none
theorem GH {i:Nat} {o:Oper} {v:Xk} (l:ops[i]?=some o) (y:Tz ops=true) (V:∀c a w,Q (.panic c) (a.put o.dst v) w->Q (.panic c) a w) :
 ∀{k:Nat} {b:Array Bool} {a:Act} {w:Xh},Region.free md ops b i=true->(ZJ md ops b).contains i=true->afb P ops S o v a->S w->
  Ig F n P md ops Q S k (b.setIfInBounds i true) (a.put o.dst v) w->Ig F n P md ops Q S (k+1) b a w:=by
 intro k
 induction k with
 |zero=>
  intro b a w _ B d t H;have q:i∈ZJ md ops b:=by simpa using B
  refine⟨λh=>absurd (h ▸ q) (by simp),λj x=>?_⟩
  by_cases g:j=i
  ·subst g;unfold wpOpIn Oper.wpIn;simp only[l,if_pos d.1,Oper.semAt_eq _ _ _ (LT y l).1,d.2.1 w t,aeH]
   exact⟨λf z=>absurd (d.2.2 w ▸ z) (by simp),t,H⟩
  ·have E:=ready_mono x g;rw[H.1] at E;cases E
 |succ k Y=>
  intro b a w A B d t H;have q:i∈ZJ md ops b:=by simpa using B
  refine⟨λh=>absurd (h ▸ q) (by simp),λj x=>?_⟩
  by_cases g:j=i
  ·subst g;unfold wpOpIn Oper.wpIn;simp only[l,if_pos d.1,Oper.semAt_eq _ _ _ (LT y l).1,d.2.1 w t,aeH]
   exact⟨λf z=>absurd (d.2.2 w ▸ z) (by simp),t,H⟩
  ·obtain⟨M,r,C,W⟩:=mem_ready.1 x;have I:=(mem_ready.1 q).1;have aa:∀e∈r.after,Region.binds md e=true->e.on≠i:=λe R Z U=>by
    have s:=W e R Z;rw[U] at s
    rcases Nat.lt_or_ge i b.size with p|p
    ·simp[p] at I s;rw[I] at s;cases s
    ·simp[Array.getElem?_eq_none p] at s
   obtain⟨O,X,D⟩:=Oper.apart_spec (Region.free_spec l A j r C g M aa);refine wpOpIn_mono (λa' w' h3=>?_) (aa1 C (LT y C) O X V (H.2 j (ready_mono x g)));obtain⟨⟨u,ds,rfl⟩,J,T⟩:=h3;refine⟨J,Y ?_ (by simpa using ready_mono q (Ne.symm g)) ⟨?_,λw K=>?_,λw=>?_⟩ J ?_⟩
   ·simp only[Region.free,l,List.all_eq_true] at A |-;intro m hm;have N:=A m hm
    by_cases G:j=m
    ·subst G;have:(b.setIfInBounds j true).getD j true=true:=by
      rcases Nat.lt_or_ge j b.size with p|p<;>simp[p]
     rw[this];simp
    ·rw[getD_set_ne true G];exact N
   ·rw[wanted_put o _ r.dst u D];exact d.1
   ·rw[execOp_put o (LT y l).2 _ r.dst u D];exact d.2.1 w K
   ·rw[about_put o w _ r.dst u D];exact d.2.2 w
   ·rw[Array.setIfInBounds_comm _ _ g];exact T
theorem NE {i:Nat} {o:Oper} {k:Nat} {c:Array Bool} {a:Act} {w:Xh} (e:ZJ md ops c=[i]) (l:ops[i]?=some o)
 (h:∀b:Act->Xh->Prop,(∀a w,S w->Ig F n P md ops Q S k (c.setIfInBounds i true) a w->b a w)->
   if ZU o (yielded ops a.tmps)=true then Oper.wpIn F n P o a w b Q else(∀f,o.about P w a.eval=some f->F.fn f)/\b (a.put o.dst undef) w) :
 Ig F n P md ops Q S (k+1) c a w:=by
 refine⟨λp=>absurd (e ▸ p) (by simp),λj d=>?_⟩;rw[e] at d
 obtain rfl:j=i:=by simpa using d
 exact wpOpIn_step l λb m=>h b λa w q g=>m a w ⟨q,g⟩
theorem Sy {k:Nat} {b:Array Bool} {a:Act} {w:Xh} (c:ZJ md ops b=[]) (h:Q .normal a w):Ig F n P md ops Q S k b a w:=by
 cases k with
 |zero=>exact⟨c,h⟩
 |succ k=>exact⟨λ_=>h,by rw[c];simp⟩
theorem QD {id:Nat} {a:Act} {w:Xh} (S:Xh->Prop) (b:P.follows .mixedOrders=true)
 (h:Ig F n P .any ops Q S ops.size (Array.replicate ops.size false) a w.drew):(Code.region id ops true).wpIn F n P Q a w:=
 wpIn_region_any b (acL h)
end
end Go.Proofs.YtdcacoifehkioaaGreatDoor
