import Derived.Test.YtdcacoifehkioaaGreatDoorExR13
import Derived.Test.YtdcacoifehkioaaGreatDoorExR17
import Derived.ChangeSlices
import Derived.Test.YtdcacoifehkioaaGreatDoorExR11
import Derived.Test.YtdcacoifehkioaaGreatDoorExR10
import Derived.Test.YtdcacoifehkioaaGreatDoorExR12
import Derived.Test.YtdcacoifehkioaaGreatDoorExR0
import Derived.Test.YtdcacoifehkioaaGreatDoorExR15
import Derived.Deep.RegionHeld3
open Go renaming Rows->adC,Value->Xj,World->Xg
open List renaming getD_eq_getElem?_getD->Xb,mem_cons->XL,not_mem_nil->Yd,length_append->Xd,mem_append->XX,all_eq_true->Zi,mem_singleton->XR,mem_of_getLast?->Z8,getElem?_append_left->Xv,getElem?_eq_some_iff->Xe
open Bool renaming and_eq_true->Yh
open Except renaming ok->Zy
set_option maxRecDepth 100000
set_option linter.unusedVariables false
set_option linter.unusedSimpArgs false
namespace Go.Proofs.YtdcacoifehkioaaGreatDoor
open Go.ChangeShapes Go.WideShapes Go.ChangeAt Go.RowKit Go.Proofs.Cod
set_option linter.unusedVariables false
theorem RD {H:Type} (d:DataW H):1<=Rows.uptoBulk d:=by
 cases d with
 |lit l=>cases l<;>simp[Rows.uptoBulk]
 |nil=>simp[Rows.uptoBulk]
 |ptr d=>simp[Rows.uptoBulk]
 |slice e b=>simp[Rows.uptoBulk]
 |agg c=>simp[Rows.uptoBulk]
 |iface t d=>simp[Rows.uptoBulk]
 |map a=>simp[Rows.uptoBulk]
 |held h=>simp[Rows.uptoBulk]
theorem acg {H:Type} (l:List (DataW H)):l.length<=Rows.uptoBulkAll l:=by
 induction l with
 |nil=>simp[Rows.uptoBulkAll]
 |cons x r a=>have:=RD x;simp only[Rows.uptoBulkAll,List.length_cons];omega
theorem acf {H:Type} (a b:List (DataW H)):a.length+1<=Rows.uptoBulk (.slice a b):=by
 have c:=acg a;simp only[Rows.uptoBulk]
 omega
section
variable {H:Type} {enc:TypeId×Xj->H} {w:Xg} {base:Nat} {spare:Nat->Bool} {held:Bool}
theorem aaf {t:Nat} {a:Option Addr} {len cap:Nat} {x:DataW H×List MemPlace} (h:DataW.trod enc Tryz.prog w base spare held t 32 [.slice a len cap]=some x) :
 ∃l:List Int,l.length=len/\Is w a l/\len<Rows.uptoBulk x.1:=by
 rcases open_ints Tryz.underlying32 Tryz.underlying3 (by kernel_rfl) h with⟨f,n⟩|⟨p,B,C,c,f,_,E,F,A,n,m,_⟩
 ·simp only[List.cons.injEq,and_true,Value.slice.injEq] at f;obtain⟨rfl,rfl,rfl⟩:=f;refine⟨[],rfl,(λi g=>by cases g),?_⟩;have:=RD x.1
  omega
 ·simp only[List.cons.injEq,and_true,Value.slice.injEq] at f;obtain⟨rfl,rfl,rfl⟩:=f;have D:len<=c.length:=by rw[A];split<;>omega
  have j:(c.take len).length=len:=by rw[List.length_take];omega
  refine⟨c.take len,j,λi g=>?_,?_⟩
  ·rw[j] at g;have q:=m i (by omega);have s:(c.take len).getD i 0=c.getD i 0:=by rw[Xb,List.getElem?_take,if_pos g,Xb]
   obtain⟨b,e,k⟩:=p;have r:k=none:=by
    cases k with
    |none=>rfl
    |some y=>
     exfalso
     have d:=m 0 (by omega);have o:(⟨b,e,some y⟩:Addr).add 0=⟨b,e,some y⟩:=by simp[Addr.add]
     rw[o] at d;unfold World.cell? at d
     split at d
     ·simp at d
     ·cases d
   subst r;have u:(⟨b,e,none⟩:Addr).add i=⟨b,e+i,none⟩:=by simp[Addr.add]
   rw[u] at q;refine⟨b,e,rfl,?_,by rw[q,s]⟩;unfold World.cell? at q
   split at q
   ·rename_i z
    exact(Array.getElem?_eq_some_iff.1 z).1
   ·cases q
  ·rw[n];have q:=acf (lits (H:=H) .i64 (c.take len)) (lits .i64 (c.drop len));have v:(lits (H:=H) .i64 (c.take len)).length=len:=by unfold lits;rw[List.length_map];exact j
   rw[v] at q;exact q
end
end Go.Proofs.YtdcacoifehkioaaGreatDoor
namespace Go.Proofs.YtdcacoifehkioaaGreatDoor
open Go.RowKit Go.Shelf Go.Proofs.Cod
def sm (i:Ac):Prop:=(0<=i.r/\i.r<=1000)/\(0<=i.aN/\i.aN<=1000)/\(0<=i.bN/\i.bN<=1000)/\(0<=i.x/\i.x<=1000)
theorem NV (f:Tx):sm (BX f):=by unfold sm BX;simp
theorem JL {t:Tx} (h:Aq t=true):Cs t<=3:=by
 obtain⟨a,b,rfl,c,d⟩:=Mj h;show b.toNat - 48<=3
 omega
theorem RK {t:Tx} (h:(Aq t||BZ t)=true):AS t<=1000:=by
 unfold AS
 by_cases a:Aq t=true
 ·rw[if_pos a];have:=JL a
  omega
 ·rw[if_neg a];have b:BZ t=true:=by simpa [a] using h
  unfold BZ at b;simp only[Yh,decide_eq_true_eq] at b;have:=LH b.2;have c:10 ^ t.length<=10 ^ 3:=Nat.pow_le_pow_right (by omega) b.1.2
  omega
section
variable {N:Tx->Option (Int×Nat)} {len:Int->Nat}
def EZ (c:Int):Bool:=c == 118||c == 102||c == 109
def GI:List (Int×Tx)->Option Int
 |[]=>none
 |p::l=>match GI l with
  |some c=>some c
  |none=>if EZ p.1 then some p.1 else none
theorem MB (e:∀t k n,N t=some (k,n)->n<len k) (f:∀k,len k<=4) {i i':Ac} {t:Tx} {c:Int} (b:sm i) (h:(match N t with|some (k,n)=>if k=c then some {i with x:=(n:Int)} else none|none=>none)=some i'):sm i'/\i'.op=i.op/\0<=i'.x/\i'.x<len c:=by
 cases a:N t with
 |none=>rw[a] at h;cases h
 |some q=>
  obtain⟨k,n⟩:=q;rw[a] at h;have h:(if k=c then some {i with x:=(n:Int)} else none)=some i':=h
  by_cases d:k=c
  ·subst d;rw[if_pos rfl] at h
   cases h
   have g:=e t k n a;have j:=f k
   exact⟨⟨b.1,b.2.1,b.2.2.1,⟨by show (0:Int)<=(n:Int);omega,by show (n:Int)<=1000;omega⟩⟩,rfl,by show (0:Int)<=(n:Int);omega,by show (n:Int)<(len k:Int);omega⟩
  ·rw[if_neg d] at h;cases h
theorem abk (g:∀t k n,N t=some (k,n)->n<len k) (m:∀k,len k<=4) {i i':Ac} {c:UInt8} {t:Tx} (p:c∈DU) (a:sm i) (j:BR t (c.toNat:Int)=true) (h:CA N i ((c.toNat:Int),t)=some i'):sm i'/\i'.op=i.op/\(EZ (c.toNat:Int)=false->i'.x=i.x)/\(EZ (c.toNat:Int)=true->0<=i'.x/\i'.x<len (c.toNat:Int)):=by
 rcases Jc p with rfl|rfl|rfl|rfl|rfl|rfl|rfl|rfl
 ·have h:some {i with r:=(Cs t:Int)}=some i':=h
  cases h
  have o:Aq t=true:=j;have:=JL o
  exact⟨⟨⟨by show (0:Int)<=(Cs t:Int);omega,by show (Cs t:Int)<=1000;omega⟩,a.2.1,a.2.2.1,a.2.2.2⟩,rfl,λ_=>rfl,λe=>absurd e (by decide)⟩
 ·have h:some {i with aR:=Aq t,aN:=(AS t:Int)}=some i':=h
  cases h
  have l:(Aq t||BZ t)=true:=j;have:=RK l
  exact⟨⟨a.1,⟨by show (0:Int)<=(AS t:Int);omega,by show (AS t:Int)<=1000;omega⟩,a.2.2.1,a.2.2.2⟩,rfl,λ_=>rfl,λe=>absurd e (by decide)⟩
 ·have h:some {i with bR:=Aq t,bN:=(AS t:Int)}=some i':=h
  cases h
  have l:(Aq t||BZ t)=true:=j;have:=RK l
  exact⟨⟨a.1,a.2.1,⟨by show (0:Int)<=(AS t:Int);omega,by show (AS t:Int)<=1000;omega⟩,a.2.2.2⟩,rfl,λ_=>rfl,λe=>absurd e (by decide)⟩
 ·obtain⟨b,f,d⟩:=MB g m (c:=118) a h
  exact⟨b,f,λe=>absurd e (by decide),λ_=>d⟩
 ·obtain⟨b,f,d⟩:=MB g m (c:=102) a h
  exact⟨b,f,λe=>absurd e (by decide),λ_=>d⟩
 ·obtain⟨b,f,d⟩:=MB g m (c:=109) a h
  exact⟨b,f,λe=>absurd e (by decide),λ_=>d⟩
 ·have h:some i=some i':=h
  cases h
  exact⟨a,rfl,λ_=>rfl,λe=>absurd e (by decide)⟩
 ·have h:some i=some i':=h
  cases h
  exact⟨a,rfl,λ_=>rfl,λe=>absurd e (by decide)⟩
theorem MD (j:∀t k n,N t=some (k,n)->n<len k) (m:∀k,len k<=4):∀(ps:Tx) (ts:List Tx) (i i':Ac),(∀c,c∈ps->c∈DU)->AV ts ps=true->sm i->BF N i (AG ps ts)=some i'->sm i'/\i'.op=i.op/\(GI (AG ps ts)=none->i'.x=i.x)/\(∀c,GI (AG ps ts)=some c->0<=i'.x/\i'.x<len c)
 |[],[],i,i',_,_,hi,h=>by
  have h:some i=some i':=h
  cases h
  exact⟨hi,rfl,λ_=>rfl,λc e=>by cases e⟩
 |[],_::_,_,_,_,h,_,_=>by cases h
 |_::_,[],_,_,_,h,_,_=>by cases h
 |c::ps,t::ts,i,i',hc,f,hi,h=>by
  have f:(BR t (c.toNat:Int)&&AV ts ps)=true:=f;rw[Yh] at f;have A:AG (c::ps) (t::ts)=((c.toNat:Int),t)::AG ps ts:=rfl;rw[A] at h |-
  cases g:CA N i ((c.toNat:Int),t) with
  |none=>
   unfold BF at h;rw[g] at h;cases h
  |some o=>
   have h:BF N o (AG ps ts)=some i':=by
    unfold BF at h;rw[g] at h;exact h
   obtain⟨r,v,y,p⟩:=abk j m (hc c (by simp)) hi f.1 g;obtain⟨q,B,l,z⟩:=MD j m ps ts o i' (λs u=>hc s (by simp[u])) f.2 r h;refine⟨q,B.trans v,λe=>?_,λd e=>?_⟩
   ·unfold GI at e
    cases a:GI (AG ps ts) with
    |some d=>rw[a] at e;cases e
    |none=>
     rw[a] at e;have e:(if EZ (c.toNat:Int) then some (c.toNat:Int) else none)=none:=e;have b:EZ (c.toNat:Int)=false:=by
      cases b:EZ (c.toNat:Int) with
      |false=>rfl
      |true=>rw[b] at e;cases e
     rw[l a,y b]
   ·unfold GI at e
    cases a:GI (AG ps ts) with
    |some w=>
     rw[a] at e;have e:some w=some d:=e
     cases e
     exact z _ a
    |none=>
     rw[a] at e;have e:(if EZ (c.toNat:Int) then some (c.toNat:Int) else none)=some d:=e
     cases b:EZ (c.toNat:Int) with
     |false=>rw[b] at e;cases e
     |true=>
      rw[b] at e;have e:some (c.toNat:Int)=some d:=e
      cases e
      rw[l a];exact p b
end
structure ShP (q:Tx×Tx) (ts:List Tx):Prop where
 n:∀c,c∈q.2->EZ (c.toNat:Int)=true->GI (AG q.2 ts)=some (c.toNat:Int)/\(116:UInt8)∉q.2/\(108:UInt8)∉q.2
 t:(116:UInt8)∈q.2->∃x,DH (AG q.2 ts)=[(116,x)]
 l:(108:UInt8)∈q.2->∃x,DH (AG q.2 ts)=[(108,x)]
 o:(116:UInt8)∉q.2->(108:UInt8)∉q.2->DH (AG q.2 ts)=[]
theorem NZ {q:Tx×Tx} (i:q∈AQ) {ts:List Tx} (f:ts.length=q.2.length):ShP q ts:=by
 simp only[AQ,XL,Yd,or_false] at i
 rcases i with rfl|rfl|rfl|rfl|rfl|rfl|rfl|rfl|rfl|rfl|rfl|rfl|rfl|rfl|rfl|rfl|rfl<;>
  (first
    |(obtain rfl:=List.length_eq_zero_iff.1 f)
    |(obtain⟨a,rfl⟩:=List.length_eq_one_iff.1 f)
    |(obtain⟨a,b,rfl⟩:=Qb f)
    |(obtain⟨a,b,c,rfl⟩:=Qa f))<;>
  (refine⟨λd e g=>?_,λh=>?_,λh=>?_,λk j=>?_⟩
   ·first
     |(exact absurd e Yd)
     |(simp at e;rcases e with rfl|rfl|rfl<;>first|(exact⟨rfl,by decide,by decide⟩)|(exact absurd g (by decide)))
     |(simp at e;rcases e with rfl|rfl<;>first|(exact⟨rfl,by decide,by decide⟩)|(exact absurd g (by decide)))
     |(simp at e;subst e;first|(exact⟨rfl,by decide,by decide⟩)|(exact absurd g (by decide)))
   ·first
     |(exact⟨_,rfl⟩)
     |(exact absurd h (by decide))
   ·first
     |(exact⟨_,rfl⟩)
     |(exact absurd h (by decide))
   ·first
     |rfl
     |(exact absurd (by decide) k)
     |(exact absurd (by decide) j))
structure Ju (len:Int->Nat) (p:PI):Prop where
 ex:∃q ts,q∈AQ/\p.i.op=q.1/\ts.length=q.2.length/\p.off=DH (AG q.2 ts)/\sm p.i/\∀c,c∈q.2->EZ (c.toNat:Int)=true->0<=p.i.x/\p.i.x<len (c.toNat:Int)
theorem Ju.mono {len a:Int->Nat} {p:PI} (h:Ju len p) (g:∀k,len k<=a k):Ju a p:=by
 obtain⟨q,ts,j,m,e,l,d,f⟩:=h.ex;refine⟨q,ts,j,m,e,l,d,λc b i=>?_⟩;have:=f c b i;have:=g (c.toNat:Int)
 omega
structure PW (s:PS):Prop where
 nlt:∀t k n,s.N t=some (k,n)->n<(s.nms k).length
 few:∀k,(s.nms k).length<=4
 nm8:∀k x,x∈s.nms k->x.length<=8
 thr:(s.nms 116).length=s.bod.length
 bod:∀b,b∈s.bod->b.code.length<=24/\(∀t n,b.labs t=some n->n<=b.code.length)/\∀p,p∈b.code->Ju (λk=>(s.nms k).length) p
theorem PW.new:PW PS.new:=⟨(λt k n h=>by cases h),(λk=>by simp[PS.new]),(λk x h=>by cases h),rfl,(λb h=>by cases h)⟩
theorem Rx {kd:Int} {len:Int->Nat}:∀(ts:List Tx) (N:Tx->Option (Int×Nat)) (l:List Tx) (p:(Tx->Option (Int×Nat))×List Tx),(∀t k n,N t=some (k,n)->n<(if k=kd then l.length else len k))->AZ kd N l ts=some p->∀t k n,p.1 t=some (k,n)->n<(if k=kd then p.2.length else len k)
 |[],N,l,p,h,e=>by
  have e:some (N,l)=some p:=e
  cases e
  exact h
 |t::ts,N,l,p,h,e=>by
  cases c:N t with
  |some q=>simp[AZ,c] at e
  |none=>
   have e:AZ kd (AN N t (kd,l.length)) (l++[t]) ts=some p:=by
    simp only[AZ,c] at e;exact e
   refine Rx ts _ _ p (λx k n a=>?_) e;unfold AN at a
   split at a
   ·have a:some (kd,l.length)=some (k,n):=a
    cases a
    rw[if_pos rfl,Xd];simp
   ·have:=h x k n a
    split
    ·rename_i b;rw[if_pos b] at this;rw[Xd];omega
    ·rename_i b;rw[if_neg b] at this;exact this
theorem VS {t:Tx} (h:Ar t=true):t.length<=8:=by
 unfold Ar at h;simp only[Yh,decide_eq_true_eq] at h
 omega
section
variable {s s':PS}
theorem Rn {kd:Int} {ts:List Tx} (h:PW s) (e:Bq kd ts s = .ok s'):(∀t k n,s'.N t=some (k,n)->n<(s'.nms k).length)/\(∀k,(s'.nms k).length<=4)/\(∀k x,x∈s'.nms k->x.length<=8)/\s'.bod=s.bod/\(∀k,(s.nms k).length<=(s'.nms k).length)/\(∀k,k≠kd->s'.nms k=s.nms k)/\s'.nms kd=s.nms kd++ts:=by
 unfold Bq at e
 split at e
 ·cases e
 ·rename_i g
  split at e
  ·cases e
  ·rename_i p f
   split at e
   ·cases e
   ·rename_i m
    cases e
    have d:=Kt f;have j:=Rx (len:=λk=>(s.nms k).length) ts s.N (s.nms kd) p (λt k n c=>by
     have:=h.nlt t k n c
     split
     ·rename_i a;subst a;exact this
     ·exact this) f
    refine⟨λt k n c=>?_,λk=>?_,λk x b=>?_,rfl,λk=>?_,λk a=>BM _ a,?_⟩
    ·have:=j t k n c;show n<(AM s.nms kd p.2 k).length
     by_cases a:k=kd
     ·subst a;rw[BC];rw[if_pos rfl] at this;exact this
     ·rw[BM _ a];rw[if_neg a] at this;exact this
    ·show (AM s.nms kd p.2 k).length<=4
     by_cases a:k=kd
     ·subst a;rw[BC];omega
     ·rw[BM _ a];exact h.few k
    ·have b:x∈AM s.nms kd p.2 k:=b
     by_cases a:k=kd
     ·subst a;rw[BC,d] at b
      rcases XX.1 b with b|b
      ·exact h.nm8 k x b
      ·have i:ts.all Ar=true:=by
        cases l:ts.all Ar with
        |true=>rfl
        |false=>exact absurd (.inr (.inr l)) g
       exact VS (Zi.1 i x b)
     ·rw[BM _ a] at b;exact h.nm8 k x b
    ·show (s.nms k).length<=(AM s.nms kd p.2 k).length
     by_cases a:k=kd
     ·subst a;rw[BC,d,Xd];omega
     ·rw[BM _ a];exact Nat.le_refl _
    ·show AM s.nms kd p.2 kd=_;rw[BC,d]
theorem Oe (h:PW s) {b c:PB} (d:s.bod.getLast?=some b) (f:c.code.length<=24/\(∀t n,c.labs t=some n->n<=c.code.length)/\∀p,p∈c.code->Ju (λk=>(s.nms k).length) p):PW (GC s c):=by
 refine⟨h.nlt,h.few,h.nm8,?_,λx a=>?_⟩
 ·show (s.nms 116).length=(s.bod.dropLast++[c]).length;have g:s.bod≠[]:=λe=>by rw[e] at d;cases d
  have:=List.length_pos_iff.2 g;rw[Xd,List.length_dropLast,h.thr];simp;omega
 ·have a:x∈s.bod.dropLast++[c]:=a
  rcases XX.1 a with a|a
  ·exact h.bod x (List.dropLast_subset _ a)
  ·obtain rfl:=XR.1 a
   exact f
theorem aaj {line:Int} {f:Tx} {ts:List Tx} {b:PB} (h:PW s) (v:s.bod.getLast?=some b) (e:Dn line f ts s b = .ok s'):PW s':=by
 unfold Dn at e
 split at e
 ·cases e
 ·rename_i ps m
  split at e
  ·cases e
  ·rename_i x
   split at e
   ·cases e
   ·rename_i F
    split at e
    ·cases e
    ·rename_i i B
     cases e
     have l:=h.bod b (Z8 v);have g:AV ts ps=true:=by
      cases w:AV ts ps with
      |true=>rfl
      |false=>exact absurd w x
     rcases In f with⟨q,j,D,o⟩|⟨d,-⟩
     ·rw[m] at o
      cases o
      have u:ts.length=q.2.length:=by
       by_cases r:ts.length=q.2.length
       ·exact r
       ·rw[Kn r] at g;cases g
      obtain⟨A,C,G,E⟩:=MD (len:=λk=>(s.nms k).length) h.nlt h.few q.2 ts (BX f) i (JG j) g (NV f) B;refine Oe h v ⟨by show (b.code++[_]).length<=24;rw[Xd];simp;omega,λt n d=>?_,λp a=>?_⟩
      ·have:=l.2.1 t n d;show n<=(b.code++[_]).length;rw[Xd];omega
      ·have a:p∈b.code++[⟨i,line,DH (AG q.2 ts)⟩]:=a
       rcases XX.1 a with a|a
       ·exact l.2.2 p a
       ·obtain rfl:=XR.1 a
        exact⟨q,ts,j,C.trans D,u,rfl,A,λc z y=>E _ ((NZ j u).n c z y).1⟩
     ·rw[m] at d;cases d
theorem Tl {line:Int} {f:Tx} {ts:List Tx} (h:PW s) (e:stepT line f ts s = .ok s'):PW s':=by
 unfold stepT at e
 split at e
 ·split at e
  ·rename_i C
   cases r:Bq 116 ts s with
   |error x=>rw[r] at e;cases e
   |ok k=>
    rw[r] at e
    cases e
    obtain⟨o,j,v,g,y,z,A⟩:=Rn h r;refine⟨o,j,v,?_,λb c=>?_⟩
    ·show (k.nms 116).length=(k.bod++[_]).length;rw[A,Xd,Xd,h.thr,g,C];rfl
    ·have c:b∈k.bod++[⟨[],λ_=>none⟩]:=c
     rcases XX.1 c with c|c
     ·rw[g] at c;obtain⟨i,u,m⟩:=h.bod b c
      exact⟨i,u,λp q=>(m p q).mono y⟩
     ·obtain rfl:=XR.1 c
      exact⟨by simp,(λt n d=>by cases d),(λp q=>by cases q)⟩
  ·cases e
 ·rename_i E
  split at e
  ·rename_i w;have D:s.bod=[]:=by
    cases c:s.bod with
    |nil=>rfl
    |cons a l=>rw[c] at w;simp at w
   obtain⟨o,j,v,g,y,z,A⟩:=Rn h e;have B:(116:Int)≠Cu f:=by
    unfold Cu
    split
    ·decide
    ·split
     ·decide
     ·split<;>decide
   refine⟨o,j,v,?_,λb c=>?_⟩
   ·rw[z 116 B,g];exact h.thr
   ·rw[g,D] at c;cases c
  ·rename_i b c
   split at e
   ·unfold EF at e
    split at e
    ·cases e
    ·split at e
     ·cases e
     ·cases e
      obtain⟨i,u,m⟩:=h.bod b (Z8 c);refine Oe h c ⟨i,λt n d=>?_,m⟩;have d:AN b.labs f.dropLast b.code.length t=some n:=d;unfold AN at d
      split at d
      ·cases d;exact Nat.le_refl _
      ·exact u t n d
   ·exact aaj h c e
theorem PP:∀(ls:List Tx) (n:Int) (s s':PS),PW s->BP ls n s = .ok s'->PW s'
 |[],_,s,s',h,e=>by
  have e:Zy s=Zy s':=e
  cases e;exact h
 |l::ls,n,s,s',h,e=>by
  unfold BP at e
  cases a:BJ (n+1) l s with
  |error x=>rw[a] at e;cases e
  |ok b=>
   rw[a] at e;refine PP ls (n+1) b s' ?_ e;unfold BJ at a
   split at a
   ·cases a;exact h
   ·exact Tl h a
end
def Jt (N:Tx->Option (Int×Nat)) (p:PI):Prop:=∃q ts,q∈AQ/\AV ts q.2=true/\BF N (BX q.1) (AG q.2 ts)=some p.i/\p.off=DH (AG q.2 ts)
def Jv (N N':Tx->Option (Int×Nat)):Prop:=∀t z,N t=some z->N' t=some z
theorem abl {N c:Tx->Option (Int×Nat)} (h:Jv N c) {i i':Ac} {p:Int×Tx} (e:CA N i p=some i'):CA c i p=some i':=by
 unfold CA at e |-
 split
 ·rename_i a;rw[if_pos a] at e;exact e
 ·rename_i a;rw[if_neg a] at e
  split
  ·rename_i a;rw[if_pos a] at e;exact e
  ·rename_i a;rw[if_neg a] at e
   split
   ·rename_i a;rw[if_pos a] at e;exact e
   ·rename_i a;rw[if_neg a] at e
    split
    ·rename_i a;rw[if_pos a] at e;exact e
    ·rename_i a;rw[if_neg a] at e
     split
     ·rename_i a;rw[if_pos a] at e;exact e
     ·rename_i a;rw[if_neg a] at e
      cases b:N p.2 with
      |none=>rw[b] at e;cases e
      |some z=>rw[b] at e;rw[h _ _ b];exact e
theorem QW {N b:Tx->Option (Int×Nat)} (h:Jv N b):∀(l:List (Int×Tx)) (i i':Ac),BF N i l=some i'->BF b i l=some i'
 |[],i,i',e=>e
 |p::l,i,i',e=>by
  unfold BF at e |-
  cases a:CA N i p with
  |none=>rw[a] at e;cases e
  |some c=>
   rw[a] at e;rw[abl h a];exact QW h l c i' e
theorem Jt.mono {N a:Tx->Option (Int×Nat)} {p:PI} (h:Jt N p) (b:Jv N a):Jt a p:=by
 obtain⟨q,ts,d,f,c,e⟩:=h
 exact⟨q,ts,d,f,QW b _ _ _ c,e⟩
structure PR (s:PS):Prop where
 nam:∀k x,x∈s.nms k->Ar x=true
 nt:∀t k n,s.N t=some (k,n)->(s.nms k)[n]?=some t
 nf:∀t k n,(s.nms k)[n]?=some t->s.N t=some (k,n)
 bod:∀b,b∈s.bod->∀p,p∈b.code->Jt s.N p
theorem PR.new:PR PS.new:=⟨(λk x h=>by cases h),(λt k n h=>by cases h),(λt k n h=>by cases h),(λb h=>by cases h)⟩
def Ej (kd:Int) (l:List Tx) (M:Int->List Tx) (k:Int):List Tx:=if k=kd then l else M k
theorem Rv {kd:Int} {M:Int->List Tx}:∀(ts:List Tx) (N:Tx->Option (Int×Nat)) (l:List Tx) (p:(Tx->Option (Int×Nat))×List Tx),(∀t k n,N t=some (k,n)->(Ej kd l M k)[n]?=some t)->(∀t k n,(Ej kd l M k)[n]?=some t->N t=some (k,n))->AZ kd N l ts=some p->(∀t k n,p.1 t=some (k,n)->(Ej kd p.2 M k)[n]?=some t)/\(∀t k n,(Ej kd p.2 M k)[n]?=some t->p.1 t=some (k,n))/\Jv N p.1
 |[],N,l,p,h1,h2,e=>by
  have e:some (N,l)=some p:=e
  cases e
  exact⟨h1,h2,λ_ _ h=>h⟩
 |t::ts,N,l,p,h1,h2,e=>by
  cases c:N t with
  |some q=>simp[AZ,c] at e
  |none=>
   have e:AZ kd (AN N t (kd,l.length)) (l++[t]) ts=some p:=by
    simp only[AZ,c] at e;exact e
   have g:∀x,x≠t->AN N t (kd,l.length) x=N x:=λx a=>by unfold AN;rw[if_neg a]
   have j:AN N t (kd,l.length) t=some (kd,l.length):=by unfold AN;rw[if_pos rfl]
   have w:∀x k n,AN N t (kd,l.length) x=some (k,n)->(Ej kd (l++[t]) M k)[n]?=some x:=λx k n a=>by
    by_cases i:x=t
    ·subst i;rw[j] at a
     cases a
     unfold Ej;rw[if_pos rfl];simp
    ·rw[g x i] at a;have:=h1 x k n a;unfold Ej at this |-
     split
     ·rename_i b;rw[if_pos b] at this;rw[Xv (Xe.1 this).1];exact this
     ·rename_i b;rw[if_neg b] at this;exact this
   have v:∀x k n,(Ej kd (l++[t]) M k)[n]?=some x->AN N t (kd,l.length) x=some (k,n):=λx k n a=>by
    have d:(Ej kd l M k)[n]?=some x->AN N t (kd,l.length) x=some (k,n):=λh=>by
     have f:=h2 x k n h;rw[g x (λe=>by rw[e,c] at f;cases f)];exact f
    by_cases b:k=kd
    ·subst b;unfold Ej at a d;rw[if_pos rfl] at a d
     by_cases o:n<l.length
     ·rw[Xv o] at a;exact d a
     ·rw[List.getElem?_append_right (by omega)] at a;have u:n - l.length=0:=by
       have:=(Xe.1 a).1
       simp at this;omega
      rw[u] at a;have a:some t=some x:=a
      cases a
      rw[j,show n=l.length by omega]
    ·refine d ?_;unfold Ej at a |-;rw[if_neg b] at a |-;exact a
   obtain⟨m,r,s⟩:=Rv (M:=M) ts _ _ p w v e;refine⟨m,r,λx z a=>s x z ?_⟩;rw[g x (λe=>by rw[e,c] at a;cases a)];exact a
section
variable {s s':PS}
theorem PJ (s:PS) (kd:Int):Ej kd (s.nms kd) s.nms=s.nms:=by
 funext k
 unfold Ej
 split
 ·rename_i h;rw[h]
 ·rfl
theorem Ro {kd:Int} {ts:List Tx} (h:PR s) (e:Bq kd ts s = .ok s'):PR s'/\s'.bod=s.bod/\Jv s.N s'.N:=by
 unfold Bq at e
 split at e
 ·cases e
 ·rename_i i
  split at e
  ·cases e
  ·rename_i p d
   split at e
   ·cases e
   ·cases e
    have o:=Kt d;obtain⟨l,n,g⟩:=Rv (M:=s.nms) ts s.N (s.nms kd) p (by rw[PJ];exact h.nt) (by rw[PJ];exact h.nf) d;refine⟨⟨λk x a=>?_,l,n,λb c p' m=>(h.bod b c p' m).mono g⟩,rfl,g⟩;have a:x∈AM s.nms kd p.2 k:=a
    by_cases f:k=kd
    ·subst f;rw[BC,o] at a
     rcases XX.1 a with a|a
     ·exact h.nam k x a
     ·have j:ts.all Ar=true:=by
       cases c:ts.all Ar with
       |true=>rfl
       |false=>exact absurd (.inr (.inr c)) i
      exact Zi.1 j x a
    ·rw[BM _ f] at a;exact h.nam k x a
theorem Of (h:PR s) {b:PB} (c:∀p,p∈b.code->Jt s.N p):PR (GC s b):=by
 refine⟨h.nam,h.nt,h.nf,λx a=>?_⟩;have a:x∈s.bod.dropLast++[b]:=a
 rcases XX.1 a with a|a
 ·exact h.bod x (List.dropLast_subset _ a)
 ·obtain rfl:=XR.1 a
  exact c
theorem aak {line:Int} {f:Tx} {ts:List Tx} {b:PB} (h:PR s) (l:s.bod.getLast?=some b) (e:Dn line f ts s b = .ok s'):PR s':=by
 unfold Dn at e
 split at e
 ·cases e
 ·rename_i ps c
  split at e
  ·cases e
  ·rename_i n
   split at e
   ·cases e
   ·split at e
    ·cases e
    ·rename_i i g
     cases e
     have k:AV ts ps=true:=by
      cases o:AV ts ps with
      |true=>rfl
      |false=>exact absurd o n
     rcases In f with⟨q,m,r,d⟩|⟨j,-⟩
     ·rw[c] at d
      cases d
      refine Of h λp a=>?_;have a:p∈b.code++[⟨i,line,DH (AG q.2 ts)⟩]:=a
      rcases XX.1 a with a|a
      ·exact h.bod b (Z8 l) p a
      ·obtain rfl:=XR.1 a
       rw[r] at g
       exact⟨q,ts,m,k,g,rfl⟩
     ·rw[c] at j;cases j
theorem Tm {line:Int} {f:Tx} {ts:List Tx} (h:PR s) (e:stepT line f ts s = .ok s'):PR s':=by
 unfold stepT at e
 split at e
 ·split at e
  ·cases d:Bq 116 ts s with
   |error x=>rw[d] at e;cases e
   |ok i=>
    rw[d] at e
    cases e
    obtain⟨c,-,-⟩:=Ro h d;refine⟨c.nam,c.nt,c.nf,λb a=>?_⟩;have a:b∈i.bod++[⟨[],λ_=>none⟩]:=a
    rcases XX.1 a with a|a
    ·exact c.bod b a
    ·obtain rfl:=XR.1 a
     exact λp g=>by cases g
  ·cases e
 ·split at e
  ·exact(Ro h e).1
  ·rename_i b a
   split at e
   ·unfold EF at e
    split at e
    ·cases e
    ·split at e
     ·cases e
     ·cases e
      exact Of h (h.bod b (Z8 a))
   ·exact aak h a e
theorem PQ:∀(ls:List Tx) (n:Int) (s s':PS),PR s->BP ls n s = .ok s'->PR s'
 |[],_,s,s',h,e=>by
  have e:Zy s=Zy s':=e
  cases e;exact h
 |l::ls,n,s,s',h,e=>by
  unfold BP at e
  cases a:BJ (n+1) l s with
  |error x=>rw[a] at e;cases e
  |ok b=>
   rw[a] at e;refine PQ ls (n+1) b s' ?_ e;unfold BJ at a
   split at a
   ·cases a;exact h
   ·exact Tm h a
end
end Go.Proofs.YtdcacoifehkioaaGreatDoor
namespace Go.Proofs.YtdcacoifehkioaaGreatDoor
open Go.RowKit Go.Proofs.Cod
theorem TI (f:Tx):Gb (BX f):=by unfold Gb En BX;simp
theorem RM {t:Tx} (h:(Aq t||BZ t)=true):En (Aq t) (AS t:Int):=by
 have c:AS t<1000/\(Aq t=true->AS t<4):=by
  unfold AS
  by_cases a:Aq t=true
  ·rw[if_pos a];have:=JL a
   exact⟨by omega,λ_=>by omega⟩
  ·rw[if_neg a];have b:BZ t=true:=by simpa [a] using h
   unfold BZ at b;simp only[Yh,decide_eq_true_eq] at b;have:=LH b.2;have d:10 ^ t.length<=10 ^ 3:=Nat.pow_le_pow_right (by omega) b.1.2
   exact⟨by omega,λe=>absurd e a⟩
 refine⟨by omega,by omega,λe=>by have:=c.2 e;omega⟩
section
variable {N:Tx->Option (Int×Nat)}
theorem MA {i i':Ac} {t:Tx} {c:Int} (d:Gb i) (h:(match N t with|some (k,n)=>if k=c then some {i with x:=(n:Int)} else none|none=>none)=some i'):Gb i':=by
 cases a:N t with
 |none=>rw[a] at h;cases h
 |some q=>
  obtain⟨k,n⟩:=q;rw[a] at h;have h:(if k=c then some {i with x:=(n:Int)} else none)=some i':=h
  by_cases b:k=c
  ·rw[if_pos b] at h
   cases h
   exact d
  ·rw[if_neg b] at h;cases h
theorem abj {i i':Ac} {c:UInt8} {t:Tx} (d:c∈DU) (a:Gb i) (b:BR t (c.toNat:Int)=true) (h:CA N i ((c.toNat:Int),t)=some i'):Gb i':=by
 rcases Jc d with rfl|rfl|rfl|rfl|rfl|rfl|rfl|rfl
 ·have h:some {i with r:=(Cs t:Int)}=some i':=h
  cases h
  have e:Aq t=true:=b;have:=JL e
  exact⟨⟨by show (0:Int)<=(Cs t:Int);omega,by show (Cs t:Int)<4;omega⟩,a.2⟩
 ·have h:some {i with aR:=Aq t,aN:=(AS t:Int)}=some i':=h
  cases h
  exact⟨a.1,RM b,a.2.2⟩
 ·have h:some {i with bR:=Aq t,bN:=(AS t:Int)}=some i':=h
  cases h
  exact⟨a.1,a.2.1,RM b⟩
 ·exact MA (c:=118) a h
 ·exact MA (c:=102) a h
 ·exact MA (c:=109) a h
 ·have h:some i=some i':=h
  cases h
  exact a
 ·have h:some i=some i':=h
  cases h
  exact a
theorem QV:∀(ps:Tx) (ts:List Tx) (i i':Ac),(∀c,c∈ps->c∈DU)->AV ts ps=true->Gb i->BF N i (AG ps ts)=some i'->Gb i'
 |[],[],i,i',_,_,hi,h=>by
  have h:some i=some i':=h
  cases h
  exact hi
 |[],_::_,_,_,_,h,_,_=>by cases h
 |_::_,[],_,_,_,h,_,_=>by cases h
 |c::ps,t::ts,i,i',hc,a,hi,h=>by
  have a:(BR t (c.toNat:Int)&&AV ts ps)=true:=a;rw[Yh] at a;have e:AG (c::ps) (t::ts)=((c.toNat:Int),t)::AG ps ts:=rfl;rw[e] at h
  cases b:CA N i ((c.toNat:Int),t) with
  |none=>
   unfold BF at h;rw[b] at h;cases h
  |some d=>
   have h:BF N d (AG ps ts)=some i':=by
    unfold BF at h;rw[b] at h;exact h
   exact QV ps ts d i' (λg f=>hc g (by simp[f])) a.2 (abj (hc c (by simp)) hi a.1 b) h
end
section
variable {s:PS}
theorem Uh (h:PW s) (J:PR s) {b:PB} (F:b∈s.bod) {p:PI} (R:p∈b.code) {i:Ac} (c:CI s.N b.labs p.i p.off=some i):FP (s.nms 118).length (s.nms 102).length (s.nms 109).length (s.nms 116).length b.code.length i:=by
 obtain⟨W,T,X⟩:=h.bod b F;obtain⟨q,ts,j,u,D,C⟩:=J.bod b F p R;have S:ts.length=q.2.length:=by
  by_cases E:ts.length=q.2.length
  ·exact E
  ·rw[Kn E] at u;cases u
 have v:=NZ j S;have K:=QV q.2 ts (BX q.1) p.i (JG j) u (TI q.1) D;obtain⟨O,Q,Y,V⟩:=MD (len:=λk=>(s.nms k).length) h.nlt h.few q.2 ts (BX q.1) p.i (JG j) u (NV q.1) D;have G:p.i.op=q.1:=Q;have key:∃x:Int,i={p.i with x:=x}/\0<=x/\((116:UInt8)∈q.2->x<(s.nms 116).length)/\((108:UInt8)∈q.2->x<=b.code.length)/\((116:UInt8)∉q.2->(108:UInt8)∉q.2->x=p.i.x):=by
  by_cases g:(116:UInt8)∈q.2
  ·obtain⟨w,B⟩:=v.t g;have f:(108:UInt8)∉q.2:=by
    have:∀q,q∈AQ->(116:UInt8)∈q.2->(108:UInt8)∉q.2:=by decide
    exact this q j g
   rw[C,B] at c;unfold CI at c
   cases a:EG s.N b.labs (116,w) with
   |none=>rw[a] at c;cases c
   |some n=>
    rw[a] at c;have c:some {p.i with x:=(n:Int)}=some i:=c
    cases c
    have r:n<(s.nms 116).length:=by
     have a:(match s.N w with|some p=>if p.1=116 then some p.2 else none|none=>none)=some n:=a
     cases d:s.N w with
     |none=>rw[d] at a;cases a
     |some z=>
      obtain⟨k,m⟩:=z;rw[d] at a;have a:(if k=116 then some m else none)=some n:=a
      by_cases y:k=116
      ·subst y;rw[if_pos rfl] at a
       cases a
       exact h.nlt w 116 n d
      ·rw[if_neg y] at a;cases a
    exact⟨n,rfl,by omega,λ_=>by omega,λe=>absurd e f,λe=>absurd g e⟩
  ·by_cases f:(108:UInt8)∈q.2
   ·obtain⟨w,B⟩:=v.l f;rw[C,B] at c;unfold CI at c
    cases a:EG s.N b.labs (108,w) with
    |none=>rw[a] at c;cases c
    |some n=>
     rw[a] at c;have c:some {p.i with x:=(n:Int)}=some i:=c
     cases c
     have r:n<=b.code.length:=by
      have a:(match (b.labs w).map λn=>((108:Int),n) with|some p=>if p.1=108 then some p.2 else none|none=>none)=some n:=a
      cases d:b.labs w with
      |none=>rw[d] at a;cases a
      |some z=>
       rw[d] at a;have a:some z=some n:=a
       cases a
       exact T w n d
     exact⟨n,rfl,by omega,λe=>absurd e g,λ_=>by omega,λ_ e=>absurd f e⟩
   ·rw[C,v.o g f] at c;have c:some p.i=some i:=c
    cases c
    exact⟨p.i.x,rfl,O.2.2.2.1,λe=>absurd e g,λe=>absurd e f,λ_ _=>rfl⟩
 obtain⟨x,rfl,H,U,I,P⟩:=key;have A:∀(k:UInt8),EZ (k.toNat:Int)=true->k∈q.2->x<(s.nms (k.toNat:Int)).length:=λk y M=>by
  have r:=v.n k M y;have:=V _ r.1;rw[P r.2.1 r.2.2];exact this.2
 exact⟨K,H,q,j,G,A 118 (by decide),A 102 (by decide),A 109 (by decide),U,I⟩
theorem OB (h:PW s) (g:PR s) {b:PB} (k:b∈s.bod):∀(l:List PI) (c:List Ac),(∀p,p∈l->p∈b.code)->DG s.N b.labs l = .ok c->c.length=l.length/\∀i,i∈c->FP (s.nms 118).length (s.nms 102).length (s.nms 109).length (s.nms 116).length b.code.length i
 |[],c,_,e=>by
  have e:Zy []=Zy c:=e
  cases e
  exact⟨rfl,λi n=>by cases n⟩
 |p::l,c,hl,e=>by
  unfold DG at e
  cases d:CI s.N b.labs p.i p.off with
  |none=>rw[d] at e;cases e
  |some i=>
   rw[d] at e
   cases a:DG s.N b.labs l with
   |error x=>rw[a] at e;cases e
   |ok q=>
    rw[a] at e
    cases e
    obtain⟨o,r⟩:=OB h g k l q (λp' m=>hl p' (by simp[m])) a;refine⟨by simp[o],λj f=>?_⟩
    rcases XL.1 f with rfl|f
    ·exact Uh h g k (hl p (by simp)) d
    ·exact r j f
theorem OC (h:PW s) (j:PR s):∀(l:List PB) (C:List (List Ac)),(∀b,b∈l->b∈s.bod)->CJ s.N l = .ok C->C.length=l.length/\∀c,c∈C->c.length<=24/\∀i,i∈c->FP (s.nms 118).length (s.nms 102).length (s.nms 109).length (s.nms 116).length c.length i
 |[],C,_,e=>by
  have e:Zy []=Zy C:=e
  cases e
  exact⟨rfl,λc a=>by cases a⟩
 |b::l,C,hl,e=>by
  unfold CJ at e
  cases g:DG s.N b.labs b.code with
  |error x=>rw[g] at e;cases e
  |ok m=>
   rw[g] at e
   cases a:CJ s.N l with
   |error x=>rw[a] at e;cases e
   |ok n=>
    rw[a] at e
    cases e
    have k:=hl b (by simp);obtain⟨o,p⟩:=OB h j k b.code m (λ_ d=>d) g;obtain⟨r,t⟩:=OC h j l n (λq d=>hl q (by simp[d])) a;refine⟨by simp[r],λc f=>?_⟩
    rcases XL.1 f with rfl|f
    ·rw[o]
     exact⟨(h.bod b k).1,p⟩
    ·exact t c f
end
theorem Vr {t:Tx} {s:PS} {C:List (List Ac)} (h:Bk t = .ok (s,C)):acQ (s.nms 118) (s.nms 102) (s.nms 109) (s.nms 116) C:=by
 unfold Bk at h
 split at h
 ·cases h
 ·unfold Dc at h
  split at h
  ·cases h
  ·rename_i j b
   split at h
   ·cases h
   ·rename_i i e
    cases h
    have a:=PP _ _ _ _ PW.new b;have c:=PQ _ _ _ _ PR.new b;obtain⟨f,g⟩:=OC a c s.bod C (λ_ d=>d) e
    exact⟨a.few _,a.few _,a.few _,a.few _,a.nm8 _,a.nm8 _,a.nm8 _,a.nm8 _,by rw[f,a.thr],g⟩
end Go.Proofs.YtdcacoifehkioaaGreatDoor
namespace Go.Proofs.YtdcacoifehkioaaGreatDoor
open Go.RowKit Go.Shelf Go.Proofs.Cod
theorem VI (n:Int) (w:Xg):Calls Tryz.prog 22 #[.int .i64 n] w λe w'=>e = .returned (.int .i64 n)/\w'=w:=by
 go_enter Tryz.func22,Tryz.ntmps22
 go_wp2_with fail
 go_ret
 exact⟨rfl,rfl⟩
theorem Tryz.sizePg:(Tryz.prog.info? 25).map (·.size)=some 4:=by kernel_rfl
theorem Tryz.sizeRg:(Tryz.prog.info? 28).map (·.size)=some 4:=by kernel_rfl
theorem PK {P:Program} {w:Xg} {fn:Func} {tmps:Array Xj} {b c T U:Nat} {v u x:Xj} (a:fn.results = #[.cell 2 T,.cell 3 U,.tmp 4]) (e:tmps[2]?=some (.pointer (some ⟨b,0,none⟩))) (f:tmps[3]?=some (.pointer (some ⟨c,0,none⟩))) (g:tmps[4]?=some x) (h:(loadVar T ⟨b,0,none⟩).run P w = .ok v w) (d:(loadVar U ⟨c,0,none⟩).run P w = .ok u w):(results fn tmps).run P w = .ok (.tuple #[v,u,x]) w:=by
 simp[results,a,e,f,g,asAddr,h,d]
def four (a b c d:Xj) (k:Nat):Xj:=if k=0 then a else if k=1 then b else if k=2 then c else d
theorem aa3 (a b c d:Xj):((List.range 4).map (four a b c d)).toArray = #[a,b,c,d]:=rfl
theorem Km {w:Xg} {b T:Nat} {x y z u:Xj} (h:w.heap[b]?=some (.cells #[x,y,z,u] T)):Ak w b T 4 (four x y z u):=by
 refine⟨_,h,rfl,λk a=>?_⟩;have:k=0\/k=1\/k=2\/k=3:=by omega
 rcases this with rfl|rfl|rfl|rfl<;>rfl
def Ge:Xj:=.slice none 0 0
def Sf (w:Xg) (t:Tx) (e:Ending) (w':Xg):Prop:=Below w.heap.size w w'/\
 (e = .returned (.tuple #[.agg #[Ge,Ge,Ge,Ge],.agg #[Ge,Ge,Ge,Ge],.bool false])\/
  (∃s C vV fV lV thV L qv qf ql qt P TV,Bk t = .ok (s,C)/\e = .returned (.tuple #[.agg #[vV,fV,lV,thV],.agg #[qv,qf,ql,qt],.bool true])/\
    Bz w' w.heap.size vV fV lV thV (s.nms 118) (s.nms 102) (s.nms 109) L C/\L.map Prod.fst=s.nms 116/\CX w' w.heap.size qv qf ql qt P TV/\P.vs=s.nms 118/\P.fs=s.nms 102/\P.ls=s.nms 109/\P.names=s.nms 116/\(P.thr.map λth=>th.code.map RI.i)=C))
theorem CX.ack {w w':Xg} {base:Nat} {a b lV tV:Xj} {P:RP} {TV:List (Xj×Xj)} (h:CX w base a b lV tV P TV) (d:Below w.heap.size w w'):CX w' base a b lV tV P TV:=h.RW λk _ c=>d.block k c
theorem CX.base {w:Xg} {base e:Nat} {b d lV tV:Xj} {P:RP} {TV:List (Xj×Xj)} (h:CX w base b d lV tV P TV) (a:e<=base):CX w e b d lV tV P TV:=
 ⟨CN h.v a,CN h.f a,CN h.l a,CN h.t a,h.len,λj th p g i=>CN (h.c j th p g i) a⟩
theorem Bz.sameAt {w w':Xg} {base:Nat} {b d lV e:Xj} {vs fs ls:List Tx} {L:List (Tx×Xj)} {C:List (List Ac)} (h:Bz w base b d lV e vs fs ls L C) (a:∀k,base<=k->k<w.heap.size->w'.heap[k]?=w.heap[k]?):Bz w' base b d lV e vs fs ls L C:=
 ⟨FF h.v a,FF h.f a,FF h.l a,FF h.t a,λi p is g j=>FF (h.c i p is g j) a,h.len⟩
end Go.Proofs.YtdcacoifehkioaaGreatDoor
