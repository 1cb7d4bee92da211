import Derived.Test.YtdcacoifehkioaaGreatDoorExA13
import Derived.Test.YtdcacoifehkioaaGreatDoorExA17
import Derived.ChangeSlices
import Derived.Test.YtdcacoifehkioaaGreatDoorExA11
import Derived.Test.YtdcacoifehkioaaGreatDoorExA10
import Derived.Test.YtdcacoifehkioaaGreatDoorExA12
import Derived.Test.YtdcacoifehkioaaGreatDoorExA0
import Derived.Test.YtdcacoifehkioaaGreatDoorExA15
import Derived.Deep.RegionHeld3
open Go renaming Value->Xk,World->Xh
open Bool renaming and_eq_true->Yl
open List renaming mem_cons->XP,not_mem_nil->X6,length_append->Xb,mem_append->XX,all_eq_true->Zx,mem_singleton->XT,mem_of_getLast?->afy,getElem?_append_left->XC,getElem?_eq_some_iff->Xf
open Except renaming ok->afd
set_option maxRecDepth 100000
set_option linter.unusedVariables false
set_option linter.unusedSimpArgs false
namespace Go.Proofs.YtdcacoifehkioaaGreatDoor
open Go.ChangeShapes Go.WideShapes Go.ChangeAt Go.RowKit Go.Proofs.Cod
set_option linter.unusedVariables false
section
variable {H:Type} {enc:TypeId×Xk->H} {w:Xh} {base:Nat} {spare:Nat->Bool} {held:Bool}
end
end Go.Proofs.YtdcacoifehkioaaGreatDoor
namespace Go.Proofs.YtdcacoifehkioaaGreatDoor
open Go.RowKit Go.Shelf Go.Proofs.Cod
def sm (i:Ad):Prop:=(0<=i.r/\i.r<=1000)/\(0<=i.aN/\i.aN<=1000)/\(0<=i.bN/\i.bN<=1000)/\(0<=i.x/\i.x<=1000)
theorem PJ (f:Tx):sm (CB f):=by unfold sm CB;simp
theorem Lc {t:Tx} (h:At t=true):De t<=3:=by
 obtain⟨a,b,rfl,c,d⟩:=NA h;show b.toNat - 48<=3
 omega
theorem TI {t:Tx} (h:(At t||CI t)=true):Bd t<=1000:=by
 unfold Bd
 by_cases a:At t=true
 ·rw[if_pos a];have:=Lc a
  omega
 ·rw[if_neg a];have b:CI t=true:=by simpa [a] using h
  unfold CI at b;simp only[Yl,decide_eq_true_eq] at b;have:=MZ b.2;have c:10 ^ t.length<=10 ^ 3:=Nat.pow_le_pow_right (by omega) b.1.2
  omega
section
variable {N:Tx->Option (Int×Nat)} {len:Int->Nat}
def Gf (c:Int):Bool:=c == 118||c == 102||c == 109
def Ie:List (Int×Tx)->Option Int
 |[]=>none
 |p::l=>match Ie l with
  |some c=>some c
  |none=>if Gf p.1 then some p.1 else none
theorem NR (f:∀t k n,N t=some (k,n)->n<len k) (e:∀k,len k<=4) {i i':Ad} {t:Tx} {c:Int} (a:sm i) (h:(match N t with|some (k,n)=>if k=c then some {i with x:=(n:Int)} else none|none=>none)=some i'):sm i'/\i'.op=i.op/\0<=i'.x/\i'.x<len c:=by
 cases b:N t with
 |none=>rw[b] at h;cases h
 |some q=>
  obtain⟨k,n⟩:=q;rw[b] at h;have h:(if k=c then some {i with x:=(n:Int)} else none)=some i':=h
  by_cases d:k=c
  ·subst d;rw[if_pos rfl] at h
   cases h
   have g:=f t k n b;have j:=e k
   exact⟨⟨a.1,a.2.1,a.2.2.1,⟨by show (0:Int)<=(n:Int);omega,by show (n:Int)<=1000;omega⟩⟩,rfl,by show (0:Int)<=(n:Int);omega,by show (n:Int)<(len k:Int);omega⟩
  ·rw[if_neg d] at h;cases h
theorem adx (j:∀t k n,N t=some (k,n)->n<len k) (g:∀k,len k<=4) {i i':Ad} {c:UInt8} {t:Tx} (o:c∈Fh) (a:sm i) (l:Cu t (c.toNat:Int)=true) (h:Dp N i ((c.toNat:Int),t)=some i'):sm i'/\i'.op=i.op/\(Gf (c.toNat:Int)=false->i'.x=i.x)/\(Gf (c.toNat:Int)=true->0<=i'.x/\i'.x<len (c.toNat:Int)):=by
 rcases Kf o with rfl|rfl|rfl|rfl|rfl|rfl|rfl|rfl
 ·have h:some {i with r:=(De t:Int)}=some i':=h
  cases h
  have p:At t=true:=l;have:=Lc p
  exact⟨⟨⟨by show (0:Int)<=(De t:Int);omega,by show (De t:Int)<=1000;omega⟩,a.2.1,a.2.2.1,a.2.2.2⟩,rfl,λ_=>rfl,λe=>absurd e (by decide)⟩
 ·have h:some {i with aR:=At t,aN:=(Bd t:Int)}=some i':=h
  cases h
  have m:(At t||CI t)=true:=l;have:=TI m
  exact⟨⟨a.1,⟨by show (0:Int)<=(Bd t:Int);omega,by show (Bd t:Int)<=1000;omega⟩,a.2.2.1,a.2.2.2⟩,rfl,λ_=>rfl,λe=>absurd e (by decide)⟩
 ·have h:some {i with bR:=At t,bN:=(Bd t:Int)}=some i':=h
  cases h
  have m:(At t||CI t)=true:=l;have:=TI m
  exact⟨⟨a.1,a.2.1,⟨by show (0:Int)<=(Bd t:Int);omega,by show (Bd t:Int)<=1000;omega⟩,a.2.2.2⟩,rfl,λ_=>rfl,λe=>absurd e (by decide)⟩
 ·obtain⟨f,d,b⟩:=NR j g (c:=118) a h
  exact⟨f,d,λe=>absurd e (by decide),λ_=>b⟩
 ·obtain⟨f,d,b⟩:=NR j g (c:=102) a h
  exact⟨f,d,λe=>absurd e (by decide),λ_=>b⟩
 ·obtain⟨f,d,b⟩:=NR j g (c:=109) a h
  exact⟨f,d,λe=>absurd e (by decide),λ_=>b⟩
 ·have h:some i=some i':=h
  cases h
  exact⟨a,rfl,λ_=>rfl,λe=>absurd e (by decide)⟩
 ·have h:some i=some i':=h
  cases h
  exact⟨a,rfl,λ_=>rfl,λe=>absurd e (by decide)⟩
theorem NT (j:∀t k n,N t=some (k,n)->n<len k) (l:∀k,len k<=4):∀(ps:Tx) (ts:List Tx) (i i':Ad),(∀c,c∈ps->c∈Fh)->Bi ts ps=true->sm i->Cf N i (AQ ps ts)=some i'->sm i'/\i'.op=i.op/\(Ie (AQ ps ts)=none->i'.x=i.x)/\(∀c,Ie (AQ ps ts)=some c->0<=i'.x/\i'.x<len c)
 |[],[],i,i',_,_,hi,h=>by
  have h:some i=some i':=h
  cases h
  exact⟨hi,rfl,λ_=>rfl,λc e=>by cases e⟩
 |[],_::_,_,_,_,h,_,_=>by cases h
 |_::_,[],_,_,_,h,_,_=>by cases h
 |c::ps,t::ts,i,i',hc,f,hi,h=>by
  have f:(Cu t (c.toNat:Int)&&Bi ts ps)=true:=f;rw[Yl] at f;have u:AQ (c::ps) (t::ts)=((c.toNat:Int),t)::AQ ps ts:=rfl;rw[u] at h |-
  cases g:Dp N i ((c.toNat:Int),t) with
  |none=>
   unfold Cf at h;rw[g] at h;cases h
  |some o=>
   have h:Cf N o (AQ ps ts)=some i':=by
    unfold Cf at h;rw[g] at h;exact h
   obtain⟨A,w,s,y⟩:=adx j l (hc c (by simp)) hi f.1 g;obtain⟨B,v,m,r⟩:=NT j l ps ts o i' (λp z=>hc p (by simp[z])) f.2 A h;refine⟨B,v.trans w,λe=>?_,λd e=>?_⟩
   ·unfold Ie at e
    cases a:Ie (AQ ps ts) with
    |some d=>rw[a] at e;cases e
    |none=>
     rw[a] at e;have e:(if Gf (c.toNat:Int) then some (c.toNat:Int) else none)=none:=e;have b:Gf (c.toNat:Int)=false:=by
      cases b:Gf (c.toNat:Int) with
      |false=>rfl
      |true=>rw[b] at e;cases e
     rw[m a,s b]
   ·unfold Ie at e
    cases a:Ie (AQ ps ts) with
    |some q=>
     rw[a] at e;have e:some q=some d:=e
     cases e
     exact r _ a
    |none=>
     rw[a] at e;have e:(if Gf (c.toNat:Int) then some (c.toNat:Int) else none)=some d:=e
     cases b:Gf (c.toNat:Int) with
     |false=>rw[b] at e;cases e
     |true=>
      rw[b] at e;have e:some (c.toNat:Int)=some d:=e
      cases e
      rw[m a];exact y b
end
structure ShP (q:Tx×Tx) (ts:List Tx):Prop where
 n:∀c,c∈q.2->Gf (c.toNat:Int)=true->Ie (AQ q.2 ts)=some (c.toNat:Int)/\(116:UInt8)∉q.2/\(108:UInt8)∉q.2
 t:(116:UInt8)∈q.2->∃x,EQ (AQ q.2 ts)=[(116,x)]
 l:(108:UInt8)∈q.2->∃x,EQ (AQ q.2 ts)=[(108,x)]
 o:(116:UInt8)∉q.2->(108:UInt8)∉q.2->EQ (AQ q.2 ts)=[]
theorem PP {q:Tx×Tx} (i:q∈Bb) {ts:List Tx} (f:ts.length=q.2.length):ShP q ts:=by
 simp only[Bb,XP,X6,or_false] at i
 rcases i with rfl|rfl|rfl|rfl|rfl|rfl|rfl|rfl|rfl|rfl|rfl|rfl|rfl|rfl|rfl|rfl|rfl<;>
  (first
    |(obtain rfl:=List.length_eq_zero_iff.1 f)
    |(obtain⟨a,rfl⟩:=List.length_eq_one_iff.1 f)
    |(obtain⟨a,b,rfl⟩:=RR f)
    |(obtain⟨a,b,c,rfl⟩:=RQ f))<;>
  (refine⟨λd e g=>?_,λh=>?_,λh=>?_,λk j=>?_⟩
   ·first
     |(exact absurd e X6)
     |(simp at e;rcases e with rfl|rfl|rfl<;>first|(exact⟨rfl,by decide,by decide⟩)|(exact absurd g (by decide)))
     |(simp at e;rcases e with rfl|rfl<;>first|(exact⟨rfl,by decide,by decide⟩)|(exact absurd g (by decide)))
     |(simp at e;subst e;first|(exact⟨rfl,by decide,by decide⟩)|(exact absurd g (by decide)))
   ·first
     |(exact⟨_,rfl⟩)
     |(exact absurd h (by decide))
   ·first
     |(exact⟨_,rfl⟩)
     |(exact absurd h (by decide))
   ·first
     |rfl
     |(exact absurd (by decide) k)
     |(exact absurd (by decide) j))
structure Ky (len:Int->Nat) (p:PI):Prop where
 ex:∃q ts,q∈Bb/\p.i.op=q.1/\ts.length=q.2.length/\p.off=EQ (AQ q.2 ts)/\sm p.i/\∀c,c∈q.2->Gf (c.toNat:Int)=true->0<=p.i.x/\p.i.x<len (c.toNat:Int)
theorem Ky.mono {len a:Int->Nat} {p:PI} (h:Ky len p) (f:∀k,len k<=a k):Ky a p:=by
 obtain⟨q,ts,m,j,e,g,l,d⟩:=h.ex;refine⟨q,ts,m,j,e,g,l,λc i b=>?_⟩;have:=d c i b;have:=f (c.toNat:Int)
 omega
structure PW (s:PS):Prop where
 nlt:∀t k n,s.N t=some (k,n)->n<(s.nms k).length
 few:∀k,(s.nms k).length<=4
 nm8:∀k x,x∈s.nms k->x.length<=8
 thr:(s.nms 116).length=s.bod.length
 bod:∀b,b∈s.bod->b.code.length<=24/\(∀t n,b.labs t=some n->n<=b.code.length)/\∀p,p∈b.code->Ky (λk=>(s.nms k).length) p
theorem PW.new:PW PS.new:=⟨(λt k n h=>by cases h),(λk=>by simp[PS.new]),(λk x h=>by cases h),rfl,(λb h=>by cases h)⟩
theorem Tv {kd:Int} {len:Int->Nat}:∀(ts:List Tx) (N:Tx->Option (Int×Nat)) (l:List Tx) (p:(Tx->Option (Int×Nat))×List Tx),(∀t k n,N t=some (k,n)->n<(if k=kd then l.length else len k))->BD kd N l ts=some p->∀t k n,p.1 t=some (k,n)->n<(if k=kd then p.2.length else len k)
 |[],N,l,p,h,e=>by
  have e:some (N,l)=some p:=e
  cases e
  exact h
 |t::ts,N,l,p,h,e=>by
  cases c:N t with
  |some q=>simp[BD,c] at e
  |none=>
   have e:BD kd (Bc N t (kd,l.length)) (l++[t]) ts=some p:=by
    simp only[BD,c] at e;exact e
   refine Tv ts _ _ p (λx k n a=>?_) e;unfold Bc at a
   split at a
   ·have a:some (kd,l.length)=some (k,n):=a
    cases a
    rw[if_pos rfl,Xb];simp
   ·have:=h x k n a
    split
    ·rename_i b;rw[if_pos b] at this;rw[Xb];omega
    ·rename_i b;rw[if_neg b] at this;exact this
theorem abi {t:Tx} (h:Av t=true):t.length<=8:=by
 unfold Av at h;simp only[Yl,decide_eq_true_eq] at h
 omega
section
variable {s s':PS}
theorem Tm {kd:Int} {ts:List Tx} (h:PW s) (e:Cg kd ts s = .ok s'):(∀t k n,s'.N t=some (k,n)->n<(s'.nms k).length)/\(∀k,(s'.nms k).length<=4)/\(∀k x,x∈s'.nms k->x.length<=8)/\s'.bod=s.bod/\(∀k,(s.nms k).length<=(s'.nms k).length)/\(∀k,k≠kd->s'.nms k=s.nms k)/\s'.nms kd=s.nms kd++ts:=by
 unfold Cg at e
 split at e
 ·cases e
 ·rename_i i
  split at e
  ·cases e
  ·rename_i p f
   split at e
   ·cases e
   ·rename_i m
    cases e
    have c:=LQ f;have l:=Tv (len:=λk=>(s.nms k).length) ts s.N (s.nms kd) p (λt k n d=>by
     have:=h.nlt t k n d
     split
     ·rename_i a;subst a;exact this
     ·exact this) f
    refine⟨λt k n d=>?_,λk=>?_,λk x b=>?_,rfl,λk=>?_,λk a=>Cy _ a,?_⟩
    ·have:=l t k n d;show n<(AT s.nms kd p.2 k).length
     by_cases a:k=kd
     ·subst a;rw[Cj];rw[if_pos rfl] at this;exact this
     ·rw[Cy _ a];rw[if_neg a] at this;exact this
    ·show (AT s.nms kd p.2 k).length<=4
     by_cases a:k=kd
     ·subst a;rw[Cj];omega
     ·rw[Cy _ a];exact h.few k
    ·have b:x∈AT s.nms kd p.2 k:=b
     by_cases a:k=kd
     ·subst a;rw[Cj,c] at b
      rcases XX.1 b with b|b
      ·exact h.nm8 k x b
      ·have j:ts.all Av=true:=by
        cases g:ts.all Av with
        |true=>rfl
        |false=>exact absurd (.inr (.inr g)) i
       exact abi (Zx.1 j x b)
     ·rw[Cy _ a] at b;exact h.nm8 k x b
    ·show (s.nms k).length<=(AT s.nms kd p.2 k).length
     by_cases a:k=kd
     ·subst a;rw[Cj,c,Xb];omega
     ·rw[Cy _ a];exact Nat.le_refl _
    ·show AT s.nms kd p.2 kd=_;rw[Cj,c]
theorem PX (h:PW s) {b a:PB} (d:s.bod.getLast?=some b) (f:a.code.length<=24/\(∀t n,a.labs t=some n->n<=a.code.length)/\∀p,p∈a.code->Ky (λk=>(s.nms k).length) p):PW (HU s a):=by
 refine⟨h.nlt,h.few,h.nm8,?_,λx c=>?_⟩
 ·show (s.nms 116).length=(s.bod.dropLast++[a]).length;have g:s.bod≠[]:=λe=>by rw[e] at d;cases d
  have:=List.length_pos_iff.2 g;rw[Xb,List.length_dropLast,h.thr];simp;omega
 ·have c:x∈s.bod.dropLast++[a]:=c
  rcases XX.1 c with c|c
  ·exact h.bod x (List.dropLast_subset _ c)
  ·obtain rfl:=XT.1 c
   exact f
theorem act {line:Int} {f:Tx} {ts:List Tx} {b:PB} (h:PW s) (v:s.bod.getLast?=some b) (e:ER line f ts s b = .ok s'):PW s':=by
 unfold ER at e
 split at e
 ·cases e
 ·rename_i ps l
  split at e
  ·cases e
  ·rename_i w
   split at e
   ·cases e
   ·rename_i F
    split at e
    ·cases e
    ·rename_i i z
     cases e
     have m:=h.bod b (afy v);have g:Bi ts ps=true:=by
      cases E:Bi ts ps with
      |true=>rfl
      |false=>exact absurd E w
     rcases Jk f with⟨q,j,D,o⟩|⟨d,-⟩
     ·rw[l] at o
      cases o
      have u:ts.length=q.2.length:=by
       by_cases r:ts.length=q.2.length
       ·exact r
       ·rw[LG r] at g;cases g
      obtain⟨x,A,G,y⟩:=NT (len:=λk=>(s.nms k).length) h.nlt h.few q.2 ts (CB f) i (KQ j) g (PJ f) z;refine PX h v ⟨by show (b.code++[_]).length<=24;rw[Xb];simp;omega,λt n d=>?_,λp a=>?_⟩
      ·have:=m.2.1 t n d;show n<=(b.code++[_]).length;rw[Xb];omega
      ·have a:p∈b.code++[⟨i,line,EQ (AQ q.2 ts)⟩]:=a
       rcases XX.1 a with a|a
       ·exact m.2.2 p a
       ·obtain rfl:=XT.1 a
        exact⟨q,ts,j,A.trans D,u,rfl,x,λc B C=>y _ ((PP j u).n c B C).1⟩
     ·rw[l] at d;cases d
theorem Vo {line:Int} {f:Tx} {ts:List Tx} (h:PW s) (e:stepT line f ts s = .ok s'):PW s':=by
 unfold stepT at e
 split at e
 ·split at e
  ·rename_i C
   cases j:Cg 116 ts s with
   |error x=>rw[j] at e;cases e
   |ok q=>
    rw[j] at e
    cases e
    obtain⟨r,k,i,g,y,w,z⟩:=Tm h j;refine⟨r,k,i,?_,λb c=>?_⟩
    ·show (q.nms 116).length=(q.bod++[_]).length;rw[z,Xb,Xb,h.thr,g,C];rfl
    ·have c:b∈q.bod++[⟨[],λ_=>none⟩]:=c
     rcases XX.1 c with c|c
     ·rw[g] at c;obtain⟨v,m,o⟩:=h.bod b c
      exact⟨v,m,λp u=>(o p u).mono y⟩
     ·obtain rfl:=XT.1 c
      exact⟨by simp,(λt n d=>by cases d),(λp u=>by cases u)⟩
  ·cases e
 ·rename_i E
  split at e
  ·rename_i A;have D:s.bod=[]:=by
    cases c:s.bod with
    |nil=>rfl
    |cons a l=>rw[c] at A;simp at A
   obtain⟨r,k,i,g,y,w,z⟩:=Tm h e;have B:(116:Int)≠Di f:=by
    unfold Di
    split
    ·decide
    ·split
     ·decide
     ·split<;>decide
   refine⟨r,k,i,?_,λb c=>?_⟩
   ·rw[w 116 B,g];exact h.thr
   ·rw[g,D] at c;cases c
  ·rename_i b c
   split at e
   ·unfold Gc at e
    split at e
    ·cases e
    ·split at e
     ·cases e
     ·cases e
      obtain⟨v,m,o⟩:=h.bod b (afy c);refine PX h c ⟨v,λt n d=>?_,o⟩;have d:Bc b.labs f.dropLast b.code.length t=some n:=d;unfold Bc at d
      split at d
      ·cases d;exact Nat.le_refl _
      ·exact m t n d
   ·exact act h c e
theorem RJ:∀(ls:List Tx) (n:Int) (s s':PS),PW s->CH ls n s = .ok s'->PW s'
 |[],_,s,s',h,e=>by
  have e:afd s=afd s':=e
  cases e;exact h
 |l::ls,n,s,s',h,e=>by
  unfold CH at e
  cases a:CC (n+1) l s with
  |error x=>rw[a] at e;cases e
  |ok b=>
   rw[a] at e;refine RJ ls (n+1) b s' ?_ e;unfold CC at a
   split at a
   ·cases a;exact h
   ·exact Vo h a
end
def Kx (N:Tx->Option (Int×Nat)) (p:PI):Prop:=∃q ts,q∈Bb/\Bi ts q.2=true/\Cf N (CB q.1) (AQ q.2 ts)=some p.i/\p.off=EQ (AQ q.2 ts)
def Kz (N N':Tx->Option (Int×Nat)):Prop:=∀t z,N t=some z->N' t=some z
theorem ady {N c:Tx->Option (Int×Nat)} (h:Kz N c) {i i':Ad} {p:Int×Tx} (e:Dp N i p=some i'):Dp c i p=some i':=by
 unfold Dp at e |-
 split
 ·rename_i a;rw[if_pos a] at e;exact e
 ·rename_i a;rw[if_neg a] at e
  split
  ·rename_i a;rw[if_pos a] at e;exact e
  ·rename_i a;rw[if_neg a] at e
   split
   ·rename_i a;rw[if_pos a] at e;exact e
   ·rename_i a;rw[if_neg a] at e
    split
    ·rename_i a;rw[if_pos a] at e;exact e
    ·rename_i a;rw[if_neg a] at e
     split
     ·rename_i a;rw[if_pos a] at e;exact e
     ·rename_i a;rw[if_neg a] at e
      cases b:N p.2 with
      |none=>rw[b] at e;cases e
      |some z=>rw[b] at e;rw[h _ _ b];exact e
theorem ST {N b:Tx->Option (Int×Nat)} (h:Kz N b):∀(l:List (Int×Tx)) (i i':Ad),Cf N i l=some i'->Cf b i l=some i'
 |[],i,i',e=>e
 |p::l,i,i',e=>by
  unfold Cf at e |-
  cases a:Dp N i p with
  |none=>rw[a] at e;cases e
  |some c=>
   rw[a] at e;rw[ady h a];exact ST h l c i' e
theorem Kx.mono {N a:Tx->Option (Int×Nat)} {p:PI} (h:Kx N p) (d:Kz N a):Kx a p:=by
 obtain⟨q,ts,f,e,b,c⟩:=h
 exact⟨q,ts,f,e,ST d _ _ _ b,c⟩
structure PR (s:PS):Prop where
 nam:∀k x,x∈s.nms k->Av x=true
 nt:∀t k n,s.N t=some (k,n)->(s.nms k)[n]?=some t
 nf:∀t k n,(s.nms k)[n]?=some t->s.N t=some (k,n)
 bod:∀b,b∈s.bod->∀p,p∈b.code->Kx s.N p
theorem PR.new:PR PS.new:=⟨(λk x h=>by cases h),(λt k n h=>by cases h),(λt k n h=>by cases h),(λb h=>by cases h)⟩
def Fz (kd:Int) (l:List Tx) (M:Int->List Tx) (k:Int):List Tx:=if k=kd then l else M k
theorem Tu {kd:Int} {M:Int->List Tx}:∀(ts:List Tx) (N:Tx->Option (Int×Nat)) (l:List Tx) (p:(Tx->Option (Int×Nat))×List Tx),(∀t k n,N t=some (k,n)->(Fz kd l M k)[n]?=some t)->(∀t k n,(Fz kd l M k)[n]?=some t->N t=some (k,n))->BD kd N l ts=some p->(∀t k n,p.1 t=some (k,n)->(Fz kd p.2 M k)[n]?=some t)/\(∀t k n,(Fz kd p.2 M k)[n]?=some t->p.1 t=some (k,n))/\Kz N p.1
 |[],N,l,p,h1,h2,e=>by
  have e:some (N,l)=some p:=e
  cases e
  exact⟨h1,h2,λ_ _ h=>h⟩
 |t::ts,N,l,p,h1,h2,e=>by
  cases c:N t with
  |some q=>simp[BD,c] at e
  |none=>
   have e:BD kd (Bc N t (kd,l.length)) (l++[t]) ts=some p:=by
    simp only[BD,c] at e;exact e
   have g:∀x,x≠t->Bc N t (kd,l.length) x=N x:=λx a=>by unfold Bc;rw[if_neg a]
   have j:Bc N t (kd,l.length) t=some (kd,l.length):=by unfold Bc;rw[if_pos rfl]
   have m:∀x k n,Bc N t (kd,l.length) x=some (k,n)->(Fz kd (l++[t]) M k)[n]?=some x:=λx k n a=>by
    by_cases i:x=t
    ·subst i;rw[j] at a
     cases a
     unfold Fz;rw[if_pos rfl];simp
    ·rw[g x i] at a;have:=h1 x k n a;unfold Fz at this |-
     split
     ·rename_i b;rw[if_pos b] at this;rw[XC (Xf.1 this).1];exact this
     ·rename_i b;rw[if_neg b] at this;exact this
   have u:∀x k n,(Fz kd (l++[t]) M k)[n]?=some x->Bc N t (kd,l.length) x=some (k,n):=λx k n a=>by
    have d:(Fz kd l M k)[n]?=some x->Bc N t (kd,l.length) x=some (k,n):=λh=>by
     have f:=h2 x k n h;rw[g x (λe=>by rw[e,c] at f;cases f)];exact f
    by_cases b:k=kd
    ·subst b;unfold Fz at a d;rw[if_pos rfl] at a d
     by_cases o:n<l.length
     ·rw[XC o] at a;exact d a
     ·rw[List.getElem?_append_right (by omega)] at a;have s:n - l.length=0:=by
       have:=(Xf.1 a).1
       simp at this;omega
      rw[s] at a;have a:some t=some x:=a
      cases a
      rw[j,show n=l.length by omega]
    ·refine d ?_;unfold Fz at a |-;rw[if_neg b] at a |-;exact a
   obtain⟨w,r,v⟩:=Tu (M:=M) ts _ _ p m u e;refine⟨w,r,λx z a=>v x z ?_⟩;rw[g x (λe=>by rw[e,c] at a;cases a)];exact a
section
variable {s s':PS}
theorem RD (s:PS) (kd:Int):Fz kd (s.nms kd) s.nms=s.nms:=by
 funext k
 unfold Fz
 split
 ·rename_i h;rw[h]
 ·rfl
theorem Tn {kd:Int} {ts:List Tx} (h:PR s) (e:Cg kd ts s = .ok s'):PR s'/\s'.bod=s.bod/\Kz s.N s'.N:=by
 unfold Cg at e
 split at e
 ·cases e
 ·rename_i j
  split at e
  ·cases e
  ·rename_i p d
   split at e
   ·cases e
   ·cases e
    have i:=LQ d;obtain⟨o,m,g⟩:=Tu (M:=s.nms) ts s.N (s.nms kd) p (by rw[RD];exact h.nt) (by rw[RD];exact h.nf) d;refine⟨⟨λk x a=>?_,o,m,λb c p' n=>(h.bod b c p' n).mono g⟩,rfl,g⟩;have a:x∈AT s.nms kd p.2 k:=a
    by_cases f:k=kd
    ·subst f;rw[Cj,i] at a
     rcases XX.1 a with a|a
     ·exact h.nam k x a
     ·have l:ts.all Av=true:=by
       cases c:ts.all Av with
       |true=>rfl
       |false=>exact absurd (.inr (.inr c)) j
      exact Zx.1 l x a
    ·rw[Cy _ f] at a;exact h.nam k x a
theorem PY (h:PR s) {b:PB} (c:∀p,p∈b.code->Kx s.N p):PR (HU s b):=by
 refine⟨h.nam,h.nt,h.nf,λx a=>?_⟩;have a:x∈s.bod.dropLast++[b]:=a
 rcases XX.1 a with a|a
 ·exact h.bod x (List.dropLast_subset _ a)
 ·obtain rfl:=XT.1 a
  exact c
theorem acu {line:Int} {f:Tx} {ts:List Tx} {b:PB} (h:PR s) (m:s.bod.getLast?=some b) (e:ER line f ts s b = .ok s'):PR s':=by
 unfold ER at e
 split at e
 ·cases e
 ·rename_i ps d
  split at e
  ·cases e
  ·rename_i l
   split at e
   ·cases e
   ·split at e
    ·cases e
    ·rename_i i g
     cases e
     have o:Bi ts ps=true:=by
      cases k:Bi ts ps with
      |true=>rfl
      |false=>exact absurd k l
     rcases Jk f with⟨q,n,r,c⟩|⟨j,-⟩
     ·rw[d] at c
      cases c
      refine PY h λp a=>?_;have a:p∈b.code++[⟨i,line,EQ (AQ q.2 ts)⟩]:=a
      rcases XX.1 a with a|a
      ·exact h.bod b (afy m) p a
      ·obtain rfl:=XT.1 a
       rw[r] at g
       exact⟨q,ts,n,o,g,rfl⟩
     ·rw[d] at j;cases j
theorem Vp {line:Int} {f:Tx} {ts:List Tx} (h:PR s) (e:stepT line f ts s = .ok s'):PR s':=by
 unfold stepT at e
 split at e
 ·split at e
  ·cases d:Cg 116 ts s with
   |error x=>rw[d] at e;cases e
   |ok i=>
    rw[d] at e
    cases e
    obtain⟨c,-,-⟩:=Tn h d;refine⟨c.nam,c.nt,c.nf,λb a=>?_⟩;have a:b∈i.bod++[⟨[],λ_=>none⟩]:=a
    rcases XX.1 a with a|a
    ·exact c.bod b a
    ·obtain rfl:=XT.1 a
     exact λp g=>by cases g
  ·cases e
 ·split at e
  ·exact(Tn h e).1
  ·rename_i b a
   split at e
   ·unfold Gc at e
    split at e
    ·cases e
    ·split at e
     ·cases e
     ·cases e
      exact PY h (h.bod b (afy a))
   ·exact acu h a e
theorem RK:∀(ls:List Tx) (n:Int) (s s':PS),PR s->CH ls n s = .ok s'->PR s'
 |[],_,s,s',h,e=>by
  have e:afd s=afd s':=e
  cases e;exact h
 |l::ls,n,s,s',h,e=>by
  unfold CH at e
  cases a:CC (n+1) l s with
  |error x=>rw[a] at e;cases e
  |ok b=>
   rw[a] at e;refine RK ls (n+1) b s' ?_ e;unfold CC at a
   split at a
   ·cases a;exact h
   ·exact Vp h a
end
end Go.Proofs.YtdcacoifehkioaaGreatDoor
namespace Go.Proofs.YtdcacoifehkioaaGreatDoor
open Go.RowKit Go.Proofs.Cod
theorem VJ (f:Tx):He (CB f):=by unfold He Fj CB;simp
theorem TJ {t:Tx} (h:(At t||CI t)=true):Fj (At t) (Bd t:Int):=by
 have c:Bd t<1000/\(At t=true->Bd t<4):=by
  unfold Bd
  by_cases a:At t=true
  ·rw[if_pos a];have:=Lc a
   exact⟨by omega,λ_=>by omega⟩
  ·rw[if_neg a];have b:CI t=true:=by simpa [a] using h
   unfold CI at b;simp only[Yl,decide_eq_true_eq] at b;have:=MZ b.2;have d:10 ^ t.length<=10 ^ 3:=Nat.pow_le_pow_right (by omega) b.1.2
   exact⟨by omega,λe=>absurd e a⟩
 refine⟨by omega,by omega,λe=>by have:=c.2 e;omega⟩
section
variable {N:Tx->Option (Int×Nat)}
theorem NQ {i i':Ad} {t:Tx} {c:Int} (d:He i) (h:(match N t with|some (k,n)=>if k=c then some {i with x:=(n:Int)} else none|none=>none)=some i'):He i':=by
 cases a:N t with
 |none=>rw[a] at h;cases h
 |some q=>
  obtain⟨k,n⟩:=q;rw[a] at h;have h:(if k=c then some {i with x:=(n:Int)} else none)=some i':=h
  by_cases b:k=c
  ·rw[if_pos b] at h
   cases h
   exact d
  ·rw[if_neg b] at h;cases h
theorem adw {i i':Ad} {c:UInt8} {t:Tx} (d:c∈Fh) (a:He i) (b:Cu t (c.toNat:Int)=true) (h:Dp N i ((c.toNat:Int),t)=some i'):He i':=by
 rcases Kf d with rfl|rfl|rfl|rfl|rfl|rfl|rfl|rfl
 ·have h:some {i with r:=(De t:Int)}=some i':=h
  cases h
  have e:At t=true:=b;have:=Lc e
  exact⟨⟨by show (0:Int)<=(De t:Int);omega,by show (De t:Int)<4;omega⟩,a.2⟩
 ·have h:some {i with aR:=At t,aN:=(Bd t:Int)}=some i':=h
  cases h
  exact⟨a.1,TJ b,a.2.2⟩
 ·have h:some {i with bR:=At t,bN:=(Bd t:Int)}=some i':=h
  cases h
  exact⟨a.1,a.2.1,TJ b⟩
 ·exact NQ (c:=118) a h
 ·exact NQ (c:=102) a h
 ·exact NQ (c:=109) a h
 ·have h:some i=some i':=h
  cases h
  exact a
 ·have h:some i=some i':=h
  cases h
  exact a
theorem SS:∀(ps:Tx) (ts:List Tx) (i i':Ad),(∀c,c∈ps->c∈Fh)->Bi ts ps=true->He i->Cf N i (AQ ps ts)=some i'->He i'
 |[],[],i,i',_,_,hi,h=>by
  have h:some i=some i':=h
  cases h
  exact hi
 |[],_::_,_,_,_,h,_,_=>by cases h
 |_::_,[],_,_,_,h,_,_=>by cases h
 |c::ps,t::ts,i,i',hc,a,hi,h=>by
  have a:(Cu t (c.toNat:Int)&&Bi ts ps)=true:=a;rw[Yl] at a;have f:AQ (c::ps) (t::ts)=((c.toNat:Int),t)::AQ ps ts:=rfl;rw[f] at h
  cases b:Dp N i ((c.toNat:Int),t) with
  |none=>
   unfold Cf at h;rw[b] at h;cases h
  |some d=>
   have h:Cf N d (AQ ps ts)=some i':=by
    unfold Cf at h;rw[b] at h;exact h
   exact SS ps ts d i' (λg e=>hc g (by simp[e])) a.2 (adw (hc c (by simp)) hi a.1 b) h
end
section
variable {s:PS}
theorem WD (h:PW s) (I:PR s) {b:PB} (F:b∈s.bod) {p:PI} (T:p∈b.code) {i:Ad} (c:DB s.N b.labs p.i p.off=some i):Gq (s.nms 118).length (s.nms 102).length (s.nms 109).length (s.nms 116).length b.code.length i:=by
 obtain⟨Y,R,W⟩:=h.bod b F;obtain⟨q,ts,r,u,D,C⟩:=I.bod b F p T;have Q:ts.length=q.2.length:=by
  by_cases E:ts.length=q.2.length
  ·exact E
  ·rw[LG E] at u;cases u
 have y:=PP r Q;have J:=SS q.2 ts (CB q.1) p.i (KQ r) u (VJ q.1) D;obtain⟨K,P,X,O⟩:=NT (len:=λk=>(s.nms k).length) h.nlt h.few q.2 ts (CB q.1) p.i (KQ r) u (PJ q.1) D;have M:p.i.op=q.1:=P;have key:∃x:Int,i={p.i with x:=x}/\0<=x/\((116:UInt8)∈q.2->x<(s.nms 116).length)/\((108:UInt8)∈q.2->x<=b.code.length)/\((116:UInt8)∉q.2->(108:UInt8)∉q.2->x=p.i.x):=by
  by_cases g:(116:UInt8)∈q.2
  ·obtain⟨w,A⟩:=y.t g;have f:(108:UInt8)∉q.2:=by
    have:∀q,q∈Bb->(116:UInt8)∈q.2->(108:UInt8)∉q.2:=by decide
    exact this q r g
   rw[C,A] at c;unfold DB at c
   cases a:FL s.N b.labs (116,w) with
   |none=>rw[a] at c;cases c
   |some n=>
    rw[a] at c;have c:some {p.i with x:=(n:Int)}=some i:=c
    cases c
    have j:n<(s.nms 116).length:=by
     have a:(match s.N w with|some p=>if p.1=116 then some p.2 else none|none=>none)=some n:=a
     cases d:s.N w with
     |none=>rw[d] at a;cases a
     |some z=>
      obtain⟨k,m⟩:=z;rw[d] at a;have a:(if k=116 then some m else none)=some n:=a
      by_cases v:k=116
      ·subst v;rw[if_pos rfl] at a
       cases a
       exact h.nlt w 116 n d
      ·rw[if_neg v] at a;cases a
    exact⟨n,rfl,by omega,λ_=>by omega,λe=>absurd e f,λe=>absurd g e⟩
  ·by_cases f:(108:UInt8)∈q.2
   ·obtain⟨w,A⟩:=y.l f;rw[C,A] at c;unfold DB at c
    cases a:FL s.N b.labs (108,w) with
    |none=>rw[a] at c;cases c
    |some n=>
     rw[a] at c;have c:some {p.i with x:=(n:Int)}=some i:=c
     cases c
     have j:n<=b.code.length:=by
      have a:(match (b.labs w).map λn=>((108:Int),n) with|some p=>if p.1=108 then some p.2 else none|none=>none)=some n:=a
      cases d:b.labs w with
      |none=>rw[d] at a;cases a
      |some z=>
       rw[d] at a;have a:some z=some n:=a
       cases a
       exact R w n d
     exact⟨n,rfl,by omega,λe=>absurd e g,λ_=>by omega,λ_ e=>absurd f e⟩
   ·rw[C,y.o g f] at c;have c:some p.i=some i:=c
    cases c
    exact⟨p.i.x,rfl,K.2.2.2.1,λe=>absurd e g,λe=>absurd e f,λ_ _=>rfl⟩
 obtain⟨x,rfl,H,S,G,U⟩:=key;have B:∀(k:UInt8),Gf (k.toNat:Int)=true->k∈q.2->x<(s.nms (k.toNat:Int)).length:=λk v V=>by
  have j:=y.n k V v;have:=O _ j.1;rw[U j.2.1 j.2.2];exact this.2
 exact⟨J,H,q,r,M,B 118 (by decide),B 102 (by decide),B 109 (by decide),S,G⟩
theorem Qw (h:PW s) (k:PR s) {b:PB} (g:b∈s.bod):∀(l:List PI) (c:List Ad),(∀p,p∈l->p∈b.code)->EO s.N b.labs l = .ok c->c.length=l.length/\∀i,i∈c->Gq (s.nms 118).length (s.nms 102).length (s.nms 109).length (s.nms 116).length b.code.length i
 |[],c,_,e=>by
  have e:afd []=afd c:=e
  cases e
  exact⟨rfl,λi m=>by cases m⟩
 |p::l,c,hl,e=>by
  unfold EO at e
  cases f:DB s.N b.labs p.i p.off with
  |none=>rw[f] at e;cases e
  |some i=>
   rw[f] at e
   cases d:EO s.N b.labs l with
   |error x=>rw[d] at e;cases e
   |ok r=>
    rw[d] at e
    cases e
    obtain⟨q,n⟩:=Qw h k g l r (λp' o=>hl p' (by simp[o])) d;refine⟨by simp[q],λj a=>?_⟩
    rcases XP.1 a with rfl|a
    ·exact WD h k g (hl p (by simp)) f
    ·exact n j a
theorem Qx (h:PW s) (k:PR s):∀(l:List PB) (C:List (List Ad)),(∀b,b∈l->b∈s.bod)->DC s.N l = .ok C->C.length=l.length/\∀c,c∈C->c.length<=24/\∀i,i∈c->Gq (s.nms 118).length (s.nms 102).length (s.nms 109).length (s.nms 116).length c.length i
 |[],C,_,e=>by
  have e:afd []=afd C:=e
  cases e
  exact⟨rfl,λc a=>by cases a⟩
 |b::l,C,hl,e=>by
  unfold DC at e
  cases f:EO s.N b.labs b.code with
  |error x=>rw[f] at e;cases e
  |ok c0=>
   rw[f] at e
   cases a:DC s.N l with
   |error x=>rw[a] at e;cases e
   |ok p=>
    rw[a] at e
    cases e
    have j:=hl b (by simp);obtain⟨r,n⟩:=Qw h k j b.code c0 (λ_ g=>g) f;obtain⟨q,m⟩:=Qx h k l p (λo g=>hl o (by simp[g])) a;refine⟨by simp[q],λc d=>?_⟩
    rcases XP.1 d with rfl|d
    ·rw[r]
     exact⟨(h.bod b j).1,n⟩
    ·exact m c d
end
theorem aaP {t:Tx} {s:PS} {C:List (List Ad)} (h:BM t = .ok (s,C)):ae8 (s.nms 118) (s.nms 102) (s.nms 109) (s.nms 116) C:=by
 unfold BM at h
 split at h
 ·cases h
 ·unfold Ej at h
  split at h
  ·cases h
  ·rename_i j b
   split at h
   ·cases h
   ·rename_i i c
    cases h
    have a:=RJ _ _ _ _ PW.new b;have g:=RK _ _ _ _ PR.new b;obtain⟨f,d⟩:=Qx a g s.bod C (λ_ e=>e) c
    exact⟨a.few _,a.few _,a.few _,a.few _,a.nm8 _,a.nm8 _,a.nm8 _,a.nm8 _,by rw[f,a.thr],d⟩
end Go.Proofs.YtdcacoifehkioaaGreatDoor
namespace Go.Proofs.YtdcacoifehkioaaGreatDoor
open Go.RowKit Go.Shelf Go.Proofs.Cod
theorem aa5 (n:Int) (w:Xh):Calls Tryz.prog 22 #[.int .i64 n] w λe w'=>e = .returned (.int .i64 n)/\w'=w:=by
 go_enter Tryz.func22,Tryz.ntmps22
 go_wp2_with fail
 go_ret
 exact⟨rfl,rfl⟩
theorem Tryz.sizePg:(Tryz.prog.info? 25).map (·.size)=some 4:=by kernel_rfl
theorem Tryz.sizeRg:(Tryz.prog.info? 28).map (·.size)=some 4:=by kernel_rfl
theorem RE {P:Program} {w:Xh} {fn:Func} {tmps:Array Xk} {b c T U:Nat} {v u x:Xk} (h:fn.results = #[.cell 2 T,.cell 3 U,.tmp 4]) (f:tmps[2]?=some (.pointer (some ⟨b,0,none⟩))) (d:tmps[3]?=some (.pointer (some ⟨c,0,none⟩))) (e:tmps[4]?=some x) (a:(loadVar T ⟨b,0,none⟩).run P w = .ok v w) (g:(loadVar U ⟨c,0,none⟩).run P w = .ok u w):(results fn tmps).run P w = .ok (.tuple #[v,u,x]) w:=by
 simp[results,h,f,d,e,asAddr,a,g]
def four (a b c d:Xk) (k:Nat):Xk:=if k=0 then a else if k=1 then b else if k=2 then c else d
theorem adf (a b c d:Xk):((List.range 4).map (four a b c d)).toArray = #[a,b,c,d]:=rfl
theorem LE {w:Xh} {b T:Nat} {x y z u:Xk} (h:w.heap[b]?=some (.cells #[x,y,z,u] T)):Am w b T 4 (four x y z u):=by
 refine⟨_,h,rfl,λk a=>?_⟩;have:k=0\/k=1\/k=2\/k=3:=by omega
 rcases this with rfl|rfl|rfl|rfl<;>rfl
def Hh:Xk:=.slice none 0 0
def Ud (w:Xh) (t:Tx) (e:Ending) (w':Xh):Prop:=Below w.heap.size w w'/\
 (e = .returned (.tuple #[.agg #[Hh,Hh,Hh,Hh],.agg #[Hh,Hh,Hh,Hh],.bool false])\/
  (∃s C vV fV lV thV L qv qf ql qt P TV,BM t = .ok (s,C)/\e = .returned (.tuple #[.agg #[vV,fV,lV,thV],.agg #[qv,qf,ql,qt],.bool true])/\
    BZ w' w.heap.size vV fV lV thV (s.nms 118) (s.nms 102) (s.nms 109) L C/\L.map Prod.fst=s.nms 116/\DT w' w.heap.size qv qf ql qt P TV/\P.vs=s.nms 118/\P.fs=s.nms 102/\P.ls=s.nms 109/\P.names=s.nms 116/\(P.thr.map λth=>th.code.map RI.i)=C))
theorem DT.aeA {w w':Xh} {base:Nat} {a b lV tV:Xk} {P:RP} {TV:List (Xk×Xk)} (h:DT w base a b lV tV P TV) (c:Below w.heap.size w w'):DT w' base a b lV tV P TV:=h.TQ λk _ d=>c.block k d
theorem DT.base {w:Xh} {base d:Nat} {b e lV tV:Xk} {P:RP} {TV:List (Xk×Xk)} (h:DT w base b e lV tV P TV) (a:d<=base):DT w d b e lV tV P TV:=
 ⟨Dq h.v a,Dq h.f a,Dq h.l a,Dq h.t a,h.len,λj th p i g=>Dq (h.c j th p i g) a⟩
theorem BZ.sameAt {w w':Xh} {base:Nat} {b d lV e:Xk} {vs fs ls:List Tx} {L:List (Tx×Xk)} {C:List (List Ad)} (h:BZ w base b d lV e vs fs ls L C) (a:∀k,base<=k->k<w.heap.size->w'.heap[k]?=w.heap[k]?):BZ w' base b d lV e vs fs ls L C:=
 ⟨GN h.v a,GN h.f a,GN h.l a,GN h.t a,λi p is j g=>GN (h.c i p is j g) a,h.len⟩
end Go.Proofs.YtdcacoifehkioaaGreatDoor
