import Derived.Test.YtdcacoifehkioaaGreatDoorExH13
import Derived.Test.YtdcacoifehkioaaGreatDoorExH17
import Derived.ChangeSlices
import Derived.Test.YtdcacoifehkioaaGreatDoorExH11
import Derived.Test.YtdcacoifehkioaaGreatDoorExH10
import Derived.Test.YtdcacoifehkioaaGreatDoorExH12
import Derived.Test.YtdcacoifehkioaaGreatDoorExH0
import Derived.Test.YtdcacoifehkioaaGreatDoorExH15
import Derived.Deep.RegionHeld3
open Go renaming Value->Xk,World->Xh
open Bool renaming and_eq_true->Ym
open List renaming mem_cons->XR,not_mem_nil->X8,length_append->Xb,mem_append->XY,all_eq_true->ZA,mem_singleton->XT,mem_of_getLast?->afN,getElem?_append_left->Xz,getElem?_eq_some_iff->Xf
open Except renaming ok->afr
set_option maxRecDepth 100000
set_option linter.unusedVariables false
set_option linter.unusedSimpArgs false
namespace Go.Proofs.YtdcacoifehkioaaGreatDoor
open Go.ChangeShapes Go.WideShapes Go.ChangeAt Go.RowKit Go.Proofs.Cod
set_option linter.unusedVariables false
section
variable {H:Type} {enc:TypeId×Xk->H} {w:Xh} {base:Nat} {spare:Nat->Bool} {held:Bool}
end
end Go.Proofs.YtdcacoifehkioaaGreatDoor
namespace Go.Proofs.YtdcacoifehkioaaGreatDoor
open Go.RowKit Go.Shelf Go.Proofs.Cod
def sm (i:Ad):Prop:=(0<=i.r/\i.r<=1000)/\(0<=i.aN/\i.aN<=1000)/\(0<=i.bN/\i.bN<=1000)/\(0<=i.x/\i.x<=1000)
theorem PQ (f:Tx):sm (CE f):=by unfold sm CE;simp
theorem Lc {t:Tx} (h:As t=true):De t<=3:=by
 obtain⟨a,b,rfl,c,d⟩:=NF h;show b.toNat - 48<=3
 omega
theorem TX {t:Tx} (h:(As t||CK t)=true):Bg t<=1000:=by
 unfold Bg
 by_cases b:As t=true
 ·rw[if_pos b];have:=Lc b
  omega
 ·rw[if_neg b];have a:CK t=true:=by simpa [b] using h
  unfold CK at a;simp only[Ym,decide_eq_true_eq] at a;have:=Nd a.2;have c:10 ^ t.length<=10 ^ 3:=Nat.pow_le_pow_right (by omega) a.1.2
  omega
section
variable {N:Tx->Option (Int×Nat)} {len:Int->Nat}
def Gh (c:Int):Bool:=c == 118||c == 102||c == 109
def Ii:List (Int×Tx)->Option Int
 |[]=>none
 |p::l=>match Ii l with
  |some c=>some c
  |none=>if Gh p.1 then some p.1 else none
theorem NX (e:∀t k n,N t=some (k,n)->n<len k) (f:∀k,len k<=4) {i i':Ad} {t:Tx} {c:Int} (b:sm i) (h:(match N t with|some (k,n)=>if k=c then some {i with x:=(n:Int)} else none|none=>none)=some i'):sm i'/\i'.op=i.op/\0<=i'.x/\i'.x<len c:=by
 cases a:N t with
 |none=>rw[a] at h;cases h
 |some q=>
  obtain⟨k,n⟩:=q;rw[a] at h;have h:(if k=c then some {i with x:=(n:Int)} else none)=some i':=h
  by_cases d:k=c
  ·subst d;rw[if_pos rfl] at h
   cases h
   have j:=e t k n a;have g:=f k
   exact⟨⟨b.1,b.2.1,b.2.2.1,⟨by show (0:Int)<=(n:Int);omega,by show (n:Int)<=1000;omega⟩⟩,rfl,by show (0:Int)<=(n:Int);omega,by show (n:Int)<(len k:Int);omega⟩
  ·rw[if_neg d] at h;cases h
theorem adG (g:∀t k n,N t=some (k,n)->n<len k) (j:∀k,len k<=4) {i i':Ad} {c:UInt8} {t:Tx} (p:c∈Fj) (a:sm i) (m:Cy t (c.toNat:Int)=true) (h:Ds N i ((c.toNat:Int),t)=some i'):sm i'/\i'.op=i.op/\(Gh (c.toNat:Int)=false->i'.x=i.x)/\(Gh (c.toNat:Int)=true->0<=i'.x/\i'.x<len (c.toNat:Int)):=by
 rcases Kj p with rfl|rfl|rfl|rfl|rfl|rfl|rfl|rfl
 ·have h:some {i with r:=(De t:Int)}=some i':=h
  cases h
  have o:As t=true:=m;have:=Lc o
  exact⟨⟨⟨by show (0:Int)<=(De t:Int);omega,by show (De t:Int)<=1000;omega⟩,a.2.1,a.2.2.1,a.2.2.2⟩,rfl,λ_=>rfl,λe=>absurd e (by decide)⟩
 ·have h:some {i with aR:=As t,aN:=(Bg t:Int)}=some i':=h
  cases h
  have l:(As t||CK t)=true:=m;have:=TX l
  exact⟨⟨a.1,⟨by show (0:Int)<=(Bg t:Int);omega,by show (Bg t:Int)<=1000;omega⟩,a.2.2.1,a.2.2.2⟩,rfl,λ_=>rfl,λe=>absurd e (by decide)⟩
 ·have h:some {i with bR:=As t,bN:=(Bg t:Int)}=some i':=h
  cases h
  have l:(As t||CK t)=true:=m;have:=TX l
  exact⟨⟨a.1,a.2.1,⟨by show (0:Int)<=(Bg t:Int);omega,by show (Bg t:Int)<=1000;omega⟩,a.2.2.2⟩,rfl,λ_=>rfl,λe=>absurd e (by decide)⟩
 ·obtain⟨f,d,b⟩:=NX g j (c:=118) a h
  exact⟨f,d,λe=>absurd e (by decide),λ_=>b⟩
 ·obtain⟨f,d,b⟩:=NX g j (c:=102) a h
  exact⟨f,d,λe=>absurd e (by decide),λ_=>b⟩
 ·obtain⟨f,d,b⟩:=NX g j (c:=109) a h
  exact⟨f,d,λe=>absurd e (by decide),λ_=>b⟩
 ·have h:some i=some i':=h
  cases h
  exact⟨a,rfl,λ_=>rfl,λe=>absurd e (by decide)⟩
 ·have h:some i=some i':=h
  cases h
  exact⟨a,rfl,λ_=>rfl,λe=>absurd e (by decide)⟩
theorem NZ (o:∀t k n,N t=some (k,n)->n<len k) (l:∀k,len k<=4):∀(ps:Tx) (ts:List Tx) (i i':Ad),(∀c,c∈ps->c∈Fj)->Bk ts ps=true->sm i->Ch N i (AT ps ts)=some i'->sm i'/\i'.op=i.op/\(Ii (AT ps ts)=none->i'.x=i.x)/\(∀c,Ii (AT ps ts)=some c->0<=i'.x/\i'.x<len c)
 |[],[],i,i',_,_,hi,h=>by
  have h:some i=some i':=h
  cases h
  exact⟨hi,rfl,λ_=>rfl,λc e=>by cases e⟩
 |[],_::_,_,_,_,h,_,_=>by cases h
 |_::_,[],_,_,_,h,_,_=>by cases h
 |c::ps,t::ts,i,i',hc,f,hi,h=>by
  have f:(Cy t (c.toNat:Int)&&Bk ts ps)=true:=f;rw[Ym] at f;have y:AT (c::ps) (t::ts)=((c.toNat:Int),t)::AT ps ts:=rfl;rw[y] at h |-
  cases g:Ds N i ((c.toNat:Int),t) with
  |none=>
   unfold Ch at h;rw[g] at h;cases h
  |some j=>
   have h:Ch N j (AT ps ts)=some i':=by
    unfold Ch at h;rw[g] at h;exact h
   obtain⟨s,w,r,u⟩:=adG o l (hc c (by simp)) hi f.1 g;obtain⟨q,A,m,B⟩:=NZ o l ps ts j i' (λp z=>hc p (by simp[z])) f.2 s h;refine⟨q,A.trans w,λe=>?_,λd e=>?_⟩
   ·unfold Ii at e
    cases a:Ii (AT ps ts) with
    |some d=>rw[a] at e;cases e
    |none=>
     rw[a] at e;have e:(if Gh (c.toNat:Int) then some (c.toNat:Int) else none)=none:=e;have b:Gh (c.toNat:Int)=false:=by
      cases b:Gh (c.toNat:Int) with
      |false=>rfl
      |true=>rw[b] at e;cases e
     rw[m a,r b]
   ·unfold Ii at e
    cases a:Ii (AT ps ts) with
    |some v=>
     rw[a] at e;have e:some v=some d:=e
     cases e
     exact B _ a
    |none=>
     rw[a] at e;have e:(if Gh (c.toNat:Int) then some (c.toNat:Int) else none)=some d:=e
     cases b:Gh (c.toNat:Int) with
     |false=>rw[b] at e;cases e
     |true=>
      rw[b] at e;have e:some (c.toNat:Int)=some d:=e
      cases e
      rw[m a];exact u b
end
structure ShP (q:Tx×Tx) (ts:List Tx):Prop where
 n:∀c,c∈q.2->Gh (c.toNat:Int)=true->Ii (AT q.2 ts)=some (c.toNat:Int)/\(116:UInt8)∉q.2/\(108:UInt8)∉q.2
 t:(116:UInt8)∈q.2->∃x,ER (AT q.2 ts)=[(116,x)]
 l:(108:UInt8)∈q.2->∃x,ER (AT q.2 ts)=[(108,x)]
 o:(116:UInt8)∉q.2->(108:UInt8)∉q.2->ER (AT q.2 ts)=[]
theorem PX {q:Tx×Tx} (i:q∈Bd) {ts:List Tx} (f:ts.length=q.2.length):ShP q ts:=by
 simp only[Bd,XR,X8,or_false] at i
 rcases i with rfl|rfl|rfl|rfl|rfl|rfl|rfl|rfl|rfl|rfl|rfl|rfl|rfl|rfl|rfl|rfl|rfl<;>
  (first
    |(obtain rfl:=List.length_eq_zero_iff.1 f)
    |(obtain⟨a,rfl⟩:=List.length_eq_one_iff.1 f)
    |(obtain⟨a,b,rfl⟩:=Se f)
    |(obtain⟨a,b,c,rfl⟩:=Sd f))<;>
  (refine⟨λd e g=>?_,λh=>?_,λh=>?_,λj k=>?_⟩
   ·first
     |(exact absurd e X8)
     |(simp at e;rcases e with rfl|rfl|rfl<;>first|(exact⟨rfl,by decide,by decide⟩)|(exact absurd g (by decide)))
     |(simp at e;rcases e with rfl|rfl<;>first|(exact⟨rfl,by decide,by decide⟩)|(exact absurd g (by decide)))
     |(simp at e;subst e;first|(exact⟨rfl,by decide,by decide⟩)|(exact absurd g (by decide)))
   ·first
     |(exact⟨_,rfl⟩)
     |(exact absurd h (by decide))
   ·first
     |(exact⟨_,rfl⟩)
     |(exact absurd h (by decide))
   ·first
     |rfl
     |(exact absurd (by decide) j)
     |(exact absurd (by decide) k))
structure KA (len:Int->Nat) (p:PI):Prop where
 ex:∃q ts,q∈Bd/\p.i.op=q.1/\ts.length=q.2.length/\p.off=ER (AT q.2 ts)/\sm p.i/\∀c,c∈q.2->Gh (c.toNat:Int)=true->0<=p.i.x/\p.i.x<len (c.toNat:Int)
theorem KA.mono {len a:Int->Nat} {p:PI} (h:KA len p) (e:∀k,len k<=a k):KA a p:=by
 obtain⟨q,ts,l,m,j,f,g,i⟩:=h.ex;refine⟨q,ts,l,m,j,f,g,λc d b=>?_⟩;have:=i c d b;have:=e (c.toNat:Int)
 omega
structure PW (s:PS):Prop where
 nlt:∀t k n,s.N t=some (k,n)->n<(s.nms k).length
 few:∀k,(s.nms k).length<=4
 nm8:∀k x,x∈s.nms k->x.length<=8
 thr:(s.nms 116).length=s.bod.length
 bod:∀b,b∈s.bod->b.code.length<=24/\(∀t n,b.labs t=some n->n<=b.code.length)/\∀p,p∈b.code->KA (λk=>(s.nms k).length) p
theorem PW.new:PW PS.new:=⟨(λt k n h=>by cases h),(λk=>by simp[PS.new]),(λk x h=>by cases h),rfl,(λb h=>by cases h)⟩
theorem TK {kd:Int} {len:Int->Nat}:∀(ts:List Tx) (N:Tx->Option (Int×Nat)) (l:List Tx) (p:(Tx->Option (Int×Nat))×List Tx),(∀t k n,N t=some (k,n)->n<(if k=kd then l.length else len k))->BF kd N l ts=some p->∀t k n,p.1 t=some (k,n)->n<(if k=kd then p.2.length else len k)
 |[],N,l,p,h,e=>by
  have e:some (N,l)=some p:=e
  cases e
  exact h
 |t::ts,N,l,p,h,e=>by
  cases c:N t with
  |some q=>simp[BF,c] at e
  |none=>
   have e:BF kd (Be N t (kd,l.length)) (l++[t]) ts=some p:=by
    simp only[BF,c] at e;exact e
   refine TK ts _ _ p (λx k n a=>?_) e;unfold Be at a
   split at a
   ·have a:some (kd,l.length)=some (k,n):=a
    cases a
    rw[if_pos rfl,Xb];simp
   ·have:=h x k n a
    split
    ·rename_i b;rw[if_pos b] at this;rw[Xb];omega
    ·rename_i b;rw[if_neg b] at this;exact this
theorem abr {t:Tx} (h:Aw t=true):t.length<=8:=by
 unfold Aw at h;simp only[Ym,decide_eq_true_eq] at h
 omega
section
variable {s s':PS}
theorem TC {kd:Int} {ts:List Tx} (h:PW s) (e:Ci kd ts s = .ok s'):(∀t k n,s'.N t=some (k,n)->n<(s'.nms k).length)/\(∀k,(s'.nms k).length<=4)/\(∀k x,x∈s'.nms k->x.length<=8)/\s'.bod=s.bod/\(∀k,(s.nms k).length<=(s'.nms k).length)/\(∀k,k≠kd->s'.nms k=s.nms k)/\s'.nms kd=s.nms kd++ts:=by
 unfold Ci at e
 split at e
 ·cases e
 ·rename_i i
  split at e
  ·cases e
  ·rename_i p f
   split at e
   ·cases e
   ·rename_i m
    cases e
    have d:=LO f;have l:=TK (len:=λk=>(s.nms k).length) ts s.N (s.nms kd) p (λt k n c=>by
     have:=h.nlt t k n c
     split
     ·rename_i a;subst a;exact this
     ·exact this) f
    refine⟨λt k n c=>?_,λk=>?_,λk x b=>?_,rfl,λk=>?_,λk a=>CB _ a,?_⟩
    ·have:=l t k n c;show n<(AY s.nms kd p.2 k).length
     by_cases a:k=kd
     ·subst a;rw[Cm];rw[if_pos rfl] at this;exact this
     ·rw[CB _ a];rw[if_neg a] at this;exact this
    ·show (AY s.nms kd p.2 k).length<=4
     by_cases a:k=kd
     ·subst a;rw[Cm];omega
     ·rw[CB _ a];exact h.few k
    ·have b:x∈AY s.nms kd p.2 k:=b
     by_cases a:k=kd
     ·subst a;rw[Cm,d] at b
      rcases XY.1 b with b|b
      ·exact h.nm8 k x b
      ·have j:ts.all Aw=true:=by
        cases g:ts.all Aw with
        |true=>rfl
        |false=>exact absurd (.inr (.inr g)) i
       exact abr (ZA.1 j x b)
     ·rw[CB _ a] at b;exact h.nm8 k x b
    ·show (s.nms k).length<=(AY s.nms kd p.2 k).length
     by_cases a:k=kd
     ·subst a;rw[Cm,d,Xb];omega
     ·rw[CB _ a];exact Nat.le_refl _
    ·show AY s.nms kd p.2 kd=_;rw[Cm,d]
theorem Qb (h:PW s) {b a:PB} (d:s.bod.getLast?=some b) (f:a.code.length<=24/\(∀t n,a.labs t=some n->n<=a.code.length)/\∀p,p∈a.code->KA (λk=>(s.nms k).length) p):PW (Id s a):=by
 refine⟨h.nlt,h.few,h.nm8,?_,λx c=>?_⟩
 ·show (s.nms 116).length=(s.bod.dropLast++[a]).length;have g:s.bod≠[]:=λe=>by rw[e] at d;cases d
  have:=List.length_pos_iff.2 g;rw[Xb,List.length_dropLast,h.thr];simp;omega
 ·have c:x∈s.bod.dropLast++[a]:=c
  rcases XY.1 c with c|c
  ·exact h.bod x (List.dropLast_subset _ c)
  ·obtain rfl:=XT.1 c
   exact f
theorem acz {line:Int} {f:Tx} {ts:List Tx} {b:PB} (h:PW s) (m:s.bod.getLast?=some b) (e:ES line f ts s b = .ok s'):PW s':=by
 unfold ES at e
 split at e
 ·cases e
 ·rename_i ps v
  split at e
  ·cases e
  ·rename_i w
   split at e
   ·cases e
   ·rename_i F
    split at e
    ·cases e
    ·rename_i i z
     cases e
     have o:=h.bod b (afN m);have g:Bk ts ps=true:=by
      cases A:Bk ts ps with
      |true=>rfl
      |false=>exact absurd A w
     rcases Jm f with⟨q,j,D,u⟩|⟨d,-⟩
     ·rw[v] at u
      cases u
      have l:ts.length=q.2.length:=by
       by_cases r:ts.length=q.2.length
       ·exact r
       ·rw[LE r] at g;cases g
      obtain⟨C,x,G,E⟩:=NZ (len:=λk=>(s.nms k).length) h.nlt h.few q.2 ts (CE f) i (KR j) g (PQ f) z;refine Qb h m ⟨by show (b.code++[_]).length<=24;rw[Xb];simp;omega,λt n d=>?_,λp a=>?_⟩
      ·have:=o.2.1 t n d;show n<=(b.code++[_]).length;rw[Xb];omega
      ·have a:p∈b.code++[⟨i,line,ER (AT q.2 ts)⟩]:=a
       rcases XY.1 a with a|a
       ·exact o.2.2 p a
       ·obtain rfl:=XT.1 a
        exact⟨q,ts,j,x.trans D,l,rfl,C,λc y B=>E _ ((PX j l).n c y B).1⟩
     ·rw[v] at d;cases d
theorem VB {line:Int} {f:Tx} {ts:List Tx} (h:PW s) (e:stepT line f ts s = .ok s'):PW s':=by
 unfold stepT at e
 split at e
 ·split at e
  ·rename_i B
   cases i:Ci 116 ts s with
   |error x=>rw[i] at e;cases e
   |ok o=>
    rw[i] at e
    cases e
    obtain⟨r,k,u,g,A,w,z⟩:=TC h i;refine⟨r,k,u,?_,λb c=>?_⟩
    ·show (o.nms 116).length=(o.bod++[_]).length;rw[z,Xb,Xb,h.thr,g,B];rfl
    ·have c:b∈o.bod++[⟨[],λ_=>none⟩]:=c
     rcases XY.1 c with c|c
     ·rw[g] at c;obtain⟨j,v,m⟩:=h.bod b c
      exact⟨j,v,λp q=>(m p q).mono A⟩
     ·obtain rfl:=XT.1 c
      exact⟨by simp,(λt n d=>by cases d),(λp q=>by cases q)⟩
  ·cases e
 ·rename_i E
  split at e
  ·rename_i y;have D:s.bod=[]:=by
    cases c:s.bod with
    |nil=>rfl
    |cons a l=>rw[c] at y;simp at y
   obtain⟨r,k,u,g,A,w,z⟩:=TC h e;have C:(116:Int)≠Di f:=by
    unfold Di
    split
    ·decide
    ·split
     ·decide
     ·split<;>decide
   refine⟨r,k,u,?_,λb c=>?_⟩
   ·rw[w 116 C,g];exact h.thr
   ·rw[g,D] at c;cases c
  ·rename_i b c
   split at e
   ·unfold Ge at e
    split at e
    ·cases e
    ·split at e
     ·cases e
     ·cases e
      obtain⟨j,v,m⟩:=h.bod b (afN c);refine Qb h c ⟨j,λt n d=>?_,m⟩;have d:Be b.labs f.dropLast b.code.length t=some n:=d;unfold Be at d
      split at d
      ·cases d;exact Nat.le_refl _
      ·exact v t n d
   ·exact acz h c e
theorem RY:∀(ls:List Tx) (n:Int) (s s':PS),PW s->CJ ls n s = .ok s'->PW s'
 |[],_,s,s',h,e=>by
  have e:afr s=afr s':=e
  cases e;exact h
 |l::ls,n,s,s',h,e=>by
  unfold CJ at e
  cases a:CF (n+1) l s with
  |error x=>rw[a] at e;cases e
  |ok b=>
   rw[a] at e;refine RY ls (n+1) b s' ?_ e;unfold CF at a
   split at a
   ·cases a;exact h
   ·exact VB h a
end
def Kz (N:Tx->Option (Int×Nat)) (p:PI):Prop:=∃q ts,q∈Bd/\Bk ts q.2=true/\Ch N (CE q.1) (AT q.2 ts)=some p.i/\p.off=ER (AT q.2 ts)
def KB (N N':Tx->Option (Int×Nat)):Prop:=∀t z,N t=some z->N' t=some z
theorem adH {N c:Tx->Option (Int×Nat)} (h:KB N c) {i i':Ad} {p:Int×Tx} (e:Ds N i p=some i'):Ds c i p=some i':=by
 unfold Ds at e |-
 split
 ·rename_i a;rw[if_pos a] at e;exact e
 ·rename_i a;rw[if_neg a] at e
  split
  ·rename_i a;rw[if_pos a] at e;exact e
  ·rename_i a;rw[if_neg a] at e
   split
   ·rename_i a;rw[if_pos a] at e;exact e
   ·rename_i a;rw[if_neg a] at e
    split
    ·rename_i a;rw[if_pos a] at e;exact e
    ·rename_i a;rw[if_neg a] at e
     split
     ·rename_i a;rw[if_pos a] at e;exact e
     ·rename_i a;rw[if_neg a] at e
      cases b:N p.2 with
      |none=>rw[b] at e;cases e
      |some z=>rw[b] at e;rw[h _ _ b];exact e
theorem Tg {N b:Tx->Option (Int×Nat)} (h:KB N b):∀(l:List (Int×Tx)) (i i':Ad),Ch N i l=some i'->Ch b i l=some i'
 |[],i,i',e=>e
 |p::l,i,i',e=>by
  unfold Ch at e |-
  cases a:Ds N i p with
  |none=>rw[a] at e;cases e
  |some c=>
   rw[a] at e;rw[adH h a];exact Tg h l c i' e
theorem Kz.mono {N a:Tx->Option (Int×Nat)} {p:PI} (h:Kz N p) (b:KB N a):Kz a p:=by
 obtain⟨q,ts,e,f,d,c⟩:=h
 exact⟨q,ts,e,f,Tg b _ _ _ d,c⟩
structure PR (s:PS):Prop where
 nam:∀k x,x∈s.nms k->Aw x=true
 nt:∀t k n,s.N t=some (k,n)->(s.nms k)[n]?=some t
 nf:∀t k n,(s.nms k)[n]?=some t->s.N t=some (k,n)
 bod:∀b,b∈s.bod->∀p,p∈b.code->Kz s.N p
theorem PR.new:PR PS.new:=⟨(λk x h=>by cases h),(λt k n h=>by cases h),(λt k n h=>by cases h),(λb h=>by cases h)⟩
def FA (kd:Int) (l:List Tx) (M:Int->List Tx) (k:Int):List Tx:=if k=kd then l else M k
theorem TJ {kd:Int} {M:Int->List Tx}:∀(ts:List Tx) (N:Tx->Option (Int×Nat)) (l:List Tx) (p:(Tx->Option (Int×Nat))×List Tx),(∀t k n,N t=some (k,n)->(FA kd l M k)[n]?=some t)->(∀t k n,(FA kd l M k)[n]?=some t->N t=some (k,n))->BF kd N l ts=some p->(∀t k n,p.1 t=some (k,n)->(FA kd p.2 M k)[n]?=some t)/\(∀t k n,(FA kd p.2 M k)[n]?=some t->p.1 t=some (k,n))/\KB N p.1
 |[],N,l,p,h1,h2,e=>by
  have e:some (N,l)=some p:=e
  cases e
  exact⟨h1,h2,λ_ _ h=>h⟩
 |t::ts,N,l,p,h1,h2,e=>by
  cases c:N t with
  |some q=>simp[BF,c] at e
  |none=>
   have e:BF kd (Be N t (kd,l.length)) (l++[t]) ts=some p:=by
    simp only[BF,c] at e;exact e
   have f:∀x,x≠t->Be N t (kd,l.length) x=N x:=λx a=>by unfold Be;rw[if_neg a]
   have j:Be N t (kd,l.length) t=some (kd,l.length):=by unfold Be;rw[if_pos rfl]
   have r:∀x k n,Be N t (kd,l.length) x=some (k,n)->(FA kd (l++[t]) M k)[n]?=some x:=λx k n a=>by
    by_cases i:x=t
    ·subst i;rw[j] at a
     cases a
     unfold FA;rw[if_pos rfl];simp
    ·rw[f x i] at a;have:=h1 x k n a;unfold FA at this |-
     split
     ·rename_i b;rw[if_pos b] at this;rw[Xz (Xf.1 this).1];exact this
     ·rename_i b;rw[if_neg b] at this;exact this
   have v:∀x k n,(FA kd (l++[t]) M k)[n]?=some x->Be N t (kd,l.length) x=some (k,n):=λx k n a=>by
    have d:(FA kd l M k)[n]?=some x->Be N t (kd,l.length) x=some (k,n):=λh=>by
     have g:=h2 x k n h;rw[f x (λe=>by rw[e,c] at g;cases g)];exact g
    by_cases b:k=kd
    ·subst b;unfold FA at a d;rw[if_pos rfl] at a d
     by_cases u:n<l.length
     ·rw[Xz u] at a;exact d a
     ·rw[List.getElem?_append_right (by omega)] at a;have m:n - l.length=0:=by
       have:=(Xf.1 a).1
       simp at this;omega
      rw[m] at a;have a:some t=some x:=a
      cases a
      rw[j,show n=l.length by omega]
    ·refine d ?_;unfold FA at a |-;rw[if_neg b] at a |-;exact a
   obtain⟨w,o,s⟩:=TJ (M:=M) ts _ _ p r v e;refine⟨w,o,λx z a=>s x z ?_⟩;rw[f x (λe=>by rw[e,c] at a;cases a)];exact a
section
variable {s s':PS}
theorem RR (s:PS) (kd:Int):FA kd (s.nms kd) s.nms=s.nms:=by
 funext k
 unfold FA
 split
 ·rename_i h;rw[h]
 ·rfl
theorem TD {kd:Int} {ts:List Tx} (h:PR s) (e:Ci kd ts s = .ok s'):PR s'/\s'.bod=s.bod/\KB s.N s'.N:=by
 unfold Ci at e
 split at e
 ·cases e
 ·rename_i i
  split at e
  ·cases e
  ·rename_i p g
   split at e
   ·cases e
   ·cases e
    have n:=LO g;obtain⟨o,j,d⟩:=TJ (M:=s.nms) ts s.N (s.nms kd) p (by rw[RR];exact h.nt) (by rw[RR];exact h.nf) g;refine⟨⟨λk x a=>?_,o,j,λb c p' l=>(h.bod b c p' l).mono d⟩,rfl,d⟩;have a:x∈AY s.nms kd p.2 k:=a
    by_cases f:k=kd
    ·subst f;rw[Cm,n] at a
     rcases XY.1 a with a|a
     ·exact h.nam k x a
     ·have m:ts.all Aw=true:=by
       cases c:ts.all Aw with
       |true=>rfl
       |false=>exact absurd (.inr (.inr c)) i
      exact ZA.1 m x a
    ·rw[CB _ f] at a;exact h.nam k x a
theorem Qc (h:PR s) {b:PB} (c:∀p,p∈b.code->Kz s.N p):PR (Id s b):=by
 refine⟨h.nam,h.nt,h.nf,λx a=>?_⟩;have a:x∈s.bod.dropLast++[b]:=a
 rcases XY.1 a with a|a
 ·exact h.bod x (List.dropLast_subset _ a)
 ·obtain rfl:=XT.1 a
  exact c
theorem acA {line:Int} {f:Tx} {ts:List Tx} {b:PB} (h:PR s) (n:s.bod.getLast?=some b) (e:ES line f ts s b = .ok s'):PR s':=by
 unfold ES at e
 split at e
 ·cases e
 ·rename_i ps g
  split at e
  ·cases e
  ·rename_i m
   split at e
   ·cases e
   ·split at e
    ·cases e
    ·rename_i i j
     cases e
     have k:Bk ts ps=true:=by
      cases r:Bk ts ps with
      |true=>rfl
      |false=>exact absurd r m
     rcases Jm f with⟨q,l,o,d⟩|⟨c,-⟩
     ·rw[g] at d
      cases d
      refine Qc h λp a=>?_;have a:p∈b.code++[⟨i,line,ER (AT q.2 ts)⟩]:=a
      rcases XY.1 a with a|a
      ·exact h.bod b (afN n) p a
      ·obtain rfl:=XT.1 a
       rw[o] at j
       exact⟨q,ts,l,k,j,rfl⟩
     ·rw[g] at c;cases c
theorem VC {line:Int} {f:Tx} {ts:List Tx} (h:PR s) (e:stepT line f ts s = .ok s'):PR s':=by
 unfold stepT at e
 split at e
 ·split at e
  ·cases d:Ci 116 ts s with
   |error x=>rw[d] at e;cases e
   |ok g=>
    rw[d] at e
    cases e
    obtain⟨c,-,-⟩:=TD h d;refine⟨c.nam,c.nt,c.nf,λb a=>?_⟩;have a:b∈g.bod++[⟨[],λ_=>none⟩]:=a
    rcases XY.1 a with a|a
    ·exact c.bod b a
    ·obtain rfl:=XT.1 a
     exact λp i=>by cases i
  ·cases e
 ·split at e
  ·exact(TD h e).1
  ·rename_i b a
   split at e
   ·unfold Ge at e
    split at e
    ·cases e
    ·split at e
     ·cases e
     ·cases e
      exact Qc h (h.bod b (afN a))
   ·exact acA h a e
theorem RZ:∀(ls:List Tx) (n:Int) (s s':PS),PR s->CJ ls n s = .ok s'->PR s'
 |[],_,s,s',h,e=>by
  have e:afr s=afr s':=e
  cases e;exact h
 |l::ls,n,s,s',h,e=>by
  unfold CJ at e
  cases a:CF (n+1) l s with
  |error x=>rw[a] at e;cases e
  |ok b=>
   rw[a] at e;refine RZ ls (n+1) b s' ?_ e;unfold CF at a
   split at a
   ·cases a;exact h
   ·exact VC h a
end
end Go.Proofs.YtdcacoifehkioaaGreatDoor
namespace Go.Proofs.YtdcacoifehkioaaGreatDoor
open Go.RowKit Go.Proofs.Cod
theorem VW (f:Tx):Hh (CE f):=by unfold Hh Fk CE;simp
theorem TY {t:Tx} (h:(As t||CK t)=true):Fk (As t) (Bg t:Int):=by
 have c:Bg t<1000/\(As t=true->Bg t<4):=by
  unfold Bg
  by_cases a:As t=true
  ·rw[if_pos a];have:=Lc a
   exact⟨by omega,λ_=>by omega⟩
  ·rw[if_neg a];have b:CK t=true:=by simpa [a] using h
   unfold CK at b;simp only[Ym,decide_eq_true_eq] at b;have:=Nd b.2;have d:10 ^ t.length<=10 ^ 3:=Nat.pow_le_pow_right (by omega) b.1.2
   exact⟨by omega,λe=>absurd e a⟩
 refine⟨by omega,by omega,λe=>by have:=c.2 e;omega⟩
section
variable {N:Tx->Option (Int×Nat)}
theorem NW {i i':Ad} {t:Tx} {c:Int} (d:Hh i) (h:(match N t with|some (k,n)=>if k=c then some {i with x:=(n:Int)} else none|none=>none)=some i'):Hh i':=by
 cases a:N t with
 |none=>rw[a] at h;cases h
 |some q=>
  obtain⟨k,n⟩:=q;rw[a] at h;have h:(if k=c then some {i with x:=(n:Int)} else none)=some i':=h
  by_cases b:k=c
  ·rw[if_pos b] at h
   cases h
   exact d
  ·rw[if_neg b] at h;cases h
theorem adF {i i':Ad} {c:UInt8} {t:Tx} (e:c∈Fj) (a:Hh i) (b:Cy t (c.toNat:Int)=true) (h:Ds N i ((c.toNat:Int),t)=some i'):Hh i':=by
 rcases Kj e with rfl|rfl|rfl|rfl|rfl|rfl|rfl|rfl
 ·have h:some {i with r:=(De t:Int)}=some i':=h
  cases h
  have d:As t=true:=b;have:=Lc d
  exact⟨⟨by show (0:Int)<=(De t:Int);omega,by show (De t:Int)<4;omega⟩,a.2⟩
 ·have h:some {i with aR:=As t,aN:=(Bg t:Int)}=some i':=h
  cases h
  exact⟨a.1,TY b,a.2.2⟩
 ·have h:some {i with bR:=As t,bN:=(Bg t:Int)}=some i':=h
  cases h
  exact⟨a.1,a.2.1,TY b⟩
 ·exact NW (c:=118) a h
 ·exact NW (c:=102) a h
 ·exact NW (c:=109) a h
 ·have h:some i=some i':=h
  cases h
  exact a
 ·have h:some i=some i':=h
  cases h
  exact a
theorem Tf:∀(ps:Tx) (ts:List Tx) (i i':Ad),(∀c,c∈ps->c∈Fj)->Bk ts ps=true->Hh i->Ch N i (AT ps ts)=some i'->Hh i'
 |[],[],i,i',_,_,hi,h=>by
  have h:some i=some i':=h
  cases h
  exact hi
 |[],_::_,_,_,_,h,_,_=>by cases h
 |_::_,[],_,_,_,h,_,_=>by cases h
 |c::ps,t::ts,i,i',hc,a,hi,h=>by
  have a:(Cy t (c.toNat:Int)&&Bk ts ps)=true:=a;rw[Ym] at a;have f:AT (c::ps) (t::ts)=((c.toNat:Int),t)::AT ps ts:=rfl;rw[f] at h
  cases b:Ds N i ((c.toNat:Int),t) with
  |none=>
   unfold Ch at h;rw[b] at h;cases h
  |some d=>
   have h:Ch N d (AT ps ts)=some i':=by
    unfold Ch at h;rw[b] at h;exact h
   exact Tf ps ts d i' (λe g=>hc e (by simp[g])) a.2 (adF (hc c (by simp)) hi a.1 b) h
end
section
variable {s:PS}
theorem WP (h:PW s) (S:PR s) {b:PB} (D:b∈s.bod) {p:PI} (P:p∈b.code) {i:Ad} (c:DE s.N b.labs p.i p.off=some i):Gv (s.nms 118).length (s.nms 102).length (s.nms 109).length (s.nms 116).length b.code.length i:=by
 obtain⟨W,U,X⟩:=h.bod b D;obtain⟨q,ts,j,u,E,B⟩:=S.bod b D p P;have H:ts.length=q.2.length:=by
  by_cases F:ts.length=q.2.length
  ·exact F
  ·rw[LE F] at u;cases u
 have v:=PX j H;have J:=Tf q.2 ts (CE q.1) p.i (KR j) u (VW q.1) E;obtain⟨R,K,Y,I⟩:=NZ (len:=λk=>(s.nms k).length) h.nlt h.few q.2 ts (CE q.1) p.i (KR j) u (PQ q.1) E;have G:p.i.op=q.1:=K;have key:∃x:Int,i={p.i with x:=x}/\0<=x/\((116:UInt8)∈q.2->x<(s.nms 116).length)/\((108:UInt8)∈q.2->x<=b.code.length)/\((116:UInt8)∉q.2->(108:UInt8)∉q.2->x=p.i.x):=by
  by_cases g:(116:UInt8)∈q.2
  ·obtain⟨w,C⟩:=v.t g;have f:(108:UInt8)∉q.2:=by
    have:∀q,q∈Bd->(116:UInt8)∈q.2->(108:UInt8)∉q.2:=by decide
    exact this q j g
   rw[B,C] at c;unfold DE at c
   cases a:FN s.N b.labs (116,w) with
   |none=>rw[a] at c;cases c
   |some n=>
    rw[a] at c;have c:some {p.i with x:=(n:Int)}=some i:=c
    cases c
    have r:n<(s.nms 116).length:=by
     have a:(match s.N w with|some p=>if p.1=116 then some p.2 else none|none=>none)=some n:=a
     cases d:s.N w with
     |none=>rw[d] at a;cases a
     |some z=>
      obtain⟨k,m⟩:=z;rw[d] at a;have a:(if k=116 then some m else none)=some n:=a
      by_cases y:k=116
      ·subst y;rw[if_pos rfl] at a
       cases a
       exact h.nlt w 116 n d
      ·rw[if_neg y] at a;cases a
    exact⟨n,rfl,by omega,λ_=>by omega,λe=>absurd e f,λe=>absurd g e⟩
  ·by_cases f:(108:UInt8)∈q.2
   ·obtain⟨w,C⟩:=v.l f;rw[B,C] at c;unfold DE at c
    cases a:FN s.N b.labs (108,w) with
    |none=>rw[a] at c;cases c
    |some n=>
     rw[a] at c;have c:some {p.i with x:=(n:Int)}=some i:=c
     cases c
     have r:n<=b.code.length:=by
      have a:(match (b.labs w).map λn=>((108:Int),n) with|some p=>if p.1=108 then some p.2 else none|none=>none)=some n:=a
      cases d:b.labs w with
      |none=>rw[d] at a;cases a
      |some z=>
       rw[d] at a;have a:some z=some n:=a
       cases a
       exact U w n d
     exact⟨n,rfl,by omega,λe=>absurd e g,λ_=>by omega,λ_ e=>absurd f e⟩
   ·rw[B,v.o g f] at c;have c:some p.i=some i:=c
    cases c
    exact⟨p.i.x,rfl,R.2.2.2.1,λe=>absurd e g,λe=>absurd e f,λ_ _=>rfl⟩
 obtain⟨x,rfl,V,T,O,M⟩:=key;have A:∀(k:UInt8),Gh (k.toNat:Int)=true->k∈q.2->x<(s.nms (k.toNat:Int)).length:=λk y Q=>by
  have r:=v.n k Q y;have:=I _ r.1;rw[M r.2.1 r.2.2];exact this.2
 exact⟨J,V,q,j,G,A 118 (by decide),A 102 (by decide),A 109 (by decide),T,O⟩
theorem QA (h:PW s) (g:PR s) {b:PB} (k:b∈s.bod):∀(l:List PI) (c:List Ad),(∀p,p∈l->p∈b.code)->EP s.N b.labs l = .ok c->c.length=l.length/\∀i,i∈c->Gv (s.nms 118).length (s.nms 102).length (s.nms 109).length (s.nms 116).length b.code.length i
 |[],c,_,e=>by
  have e:afr []=afr c:=e
  cases e
  exact⟨rfl,λi n=>by cases n⟩
 |p::l,c,hl,e=>by
  unfold EP at e
  cases f:DE s.N b.labs p.i p.off with
  |none=>rw[f] at e;cases e
  |some i=>
   rw[f] at e
   cases d:EP s.N b.labs l with
   |error x=>rw[d] at e;cases e
   |ok m=>
    rw[d] at e
    cases e
    obtain⟨o,q⟩:=QA h g k l m (λp' r=>hl p' (by simp[r])) d;refine⟨by simp[o],λj a=>?_⟩
    rcases XR.1 a with rfl|a
    ·exact WP h g k (hl p (by simp)) f
    ·exact q j a
theorem QB (h:PW s) (j:PR s):∀(l:List PB) (C:List (List Ad)),(∀b,b∈l->b∈s.bod)->DF s.N l = .ok C->C.length=l.length/\∀c,c∈C->c.length<=24/\∀i,i∈c->Gv (s.nms 118).length (s.nms 102).length (s.nms 109).length (s.nms 116).length c.length i
 |[],C,_,e=>by
  have e:afr []=afr C:=e
  cases e
  exact⟨rfl,λc a=>by cases a⟩
 |b::l,C,hl,e=>by
  unfold DF at e
  cases d:EP s.N b.labs b.code with
  |error x=>rw[d] at e;cases e
  |ok c0=>
   rw[d] at e
   cases a:DF s.N l with
   |error x=>rw[a] at e;cases e
   |ok m=>
    rw[a] at e
    cases e
    have k:=hl b (by simp);obtain⟨r,n⟩:=QA h j k b.code c0 (λ_ g=>g) d;obtain⟨q,o⟩:=QB h j l m (λp g=>hl p (by simp[g])) a;refine⟨by simp[q],λc f=>?_⟩
    rcases XR.1 f with rfl|f
    ·rw[r]
     exact⟨(h.bod b k).1,n⟩
    ·exact o c f
end
theorem aa0 {t:Tx} {s:PS} {C:List (List Ad)} (h:BO t = .ok (s,C)):afj (s.nms 118) (s.nms 102) (s.nms 109) (s.nms 116) C:=by
 unfold BO at h
 split at h
 ·cases h
 ·unfold Em at h
  split at h
  ·cases h
  ·rename_i i b
   split at h
   ·cases h
   ·rename_i j d
    cases h
    have a:=RY _ _ _ _ PW.new b;have c:=RZ _ _ _ _ PR.new b;obtain⟨e,f⟩:=QB a c s.bod C (λ_ g=>g) d
    exact⟨a.few _,a.few _,a.few _,a.few _,a.nm8 _,a.nm8 _,a.nm8 _,a.nm8 _,by rw[e,a.thr],f⟩
end Go.Proofs.YtdcacoifehkioaaGreatDoor
namespace Go.Proofs.YtdcacoifehkioaaGreatDoor
open Go.RowKit Go.Shelf Go.Proofs.Cod
theorem abe (n:Int) (w:Xh):Calls Tryz.prog 22 #[.int .i64 n] w λe w'=>e = .returned (.int .i64 n)/\w'=w:=by
 go_enter Tryz.func22,Tryz.ntmps22
 go_wp2_with fail
 go_ret
 exact⟨rfl,rfl⟩
theorem Tryz.sizePg:(Tryz.prog.info? 25).map (·.size)=some 4:=by kernel_rfl
theorem Tryz.sizeRg:(Tryz.prog.info? 28).map (·.size)=some 4:=by kernel_rfl
theorem RS {P:Program} {w:Xh} {fn:Func} {tmps:Array Xk} {b c T U:Nat} {v u x:Xk} (a:fn.results = #[.cell 2 T,.cell 3 U,.tmp 4]) (e:tmps[2]?=some (.pointer (some ⟨b,0,none⟩))) (g:tmps[3]?=some (.pointer (some ⟨c,0,none⟩))) (f:tmps[4]?=some x) (d:(loadVar T ⟨b,0,none⟩).run P w = .ok v w) (h:(loadVar U ⟨c,0,none⟩).run P w = .ok u w):(results fn tmps).run P w = .ok (.tuple #[v,u,x]) w:=by
 simp[results,a,e,g,f,asAddr,d,h]
def four (a b c d:Xk) (k:Nat):Xk:=if k=0 then a else if k=1 then b else if k=2 then c else d
theorem adn (a b c d:Xk):((List.range 4).map (four a b c d)).toArray = #[a,b,c,d]:=rfl
theorem LC {w:Xh} {b T:Nat} {x y z u:Xk} (h:w.heap[b]?=some (.cells #[x,y,z,u] T)):An w b T 4 (four x y z u):=by
 refine⟨_,h,rfl,λk a=>?_⟩;have:k=0\/k=1\/k=2\/k=3:=by omega
 rcases this with rfl|rfl|rfl|rfl<;>rfl
def Hk:Xk:=.slice none 0 0
def Up (w:Xh) (t:Tx) (e:Ending) (w':Xh):Prop:=Below w.heap.size w w'/\
 (e = .returned (.tuple #[.agg #[Hk,Hk,Hk,Hk],.agg #[Hk,Hk,Hk,Hk],.bool false])\/
  (∃s C vV fV lV thV L qv qf ql qt P TV,BO t = .ok (s,C)/\e = .returned (.tuple #[.agg #[vV,fV,lV,thV],.agg #[qv,qf,ql,qt],.bool true])/\
    BS w' w.heap.size vV fV lV thV (s.nms 118) (s.nms 102) (s.nms 109) L C/\L.map Prod.fst=s.nms 116/\DW w' w.heap.size qv qf ql qt P TV/\P.vs=s.nms 118/\P.fs=s.nms 102/\P.ls=s.nms 109/\P.names=s.nms 116/\(P.thr.map λth=>th.code.map RI.i)=C))
theorem DW.aeK {w w':Xh} {base:Nat} {a b lV tV:Xk} {P:RP} {TV:List (Xk×Xk)} (h:DW w base a b lV tV P TV) (c:Below w.heap.size w w'):DW w' base a b lV tV P TV:=h.Ue λk _ d=>c.block k d
theorem DW.base {w:Xh} {base b:Nat} {d e lV tV:Xk} {P:RP} {TV:List (Xk×Xk)} (h:DW w base d e lV tV P TV) (a:b<=base):DW w b d e lV tV P TV:=
 ⟨Dt h.v a,Dt h.f a,Dt h.l a,Dt h.t a,h.len,λj th p g i=>Dt (h.c j th p g i) a⟩
theorem BS.sameAt {w w':Xh} {base:Nat} {d e lV b:Xk} {vs fs ls:List Tx} {L:List (Tx×Xk)} {C:List (List Ad)} (h:BS w base d e lV b vs fs ls L C) (a:∀k,base<=k->k<w.heap.size->w'.heap[k]?=w.heap[k]?):BS w' base d e lV b vs fs ls L C:=
 ⟨GN h.v a,GN h.f a,GN h.l a,GN h.t a,λi p is g j=>GN (h.c i p is g j) a,h.len⟩
end Go.Proofs.YtdcacoifehkioaaGreatDoor
