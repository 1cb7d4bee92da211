import Derived.Test.YtdcacoifehkioaaGreatDoorChecked
import Derived.Laws.Strings
import Derived.WalkKit
import Derived.ProofKit
import Derived.Below
import Derived.Laws.Rows
import Derived.Shelf.Lay
import Derived.Shelf.Strconv.Itoa3
import Derived.Lib.SmallJoins
import Derived.Lib.AppendIntMem
import Derived.Lib.ItoaLen
open List renaming extract_eq_take_drop->adU,take_succ_eq_append_getElem->XA,take_of_length_le->XY,flatMap_cons->XP,getElem?_eq_some_iff->Xe,getElem?_eq_getElem->Xc,mem_of_getElem?->Xz,range->Yt
open Go renaming World->Xg,Calls->X3,Value->Xj
open Nat renaming zero_le->XD
set_option maxHeartbeats 1000000
set_option maxRecDepth 100000
set_option linter.unusedVariables false
set_option linter.unusedSimpArgs false
namespace Go.Proofs.Cod
abbrev Tx:=List UInt8
def bs (t:Tx):ByteArray:=⟨t.toArray⟩
theorem AY (t:Tx):(bs t).size=t.length:=by simp[bs,ByteArray.size]
theorem CO (t:Tx) (i:Nat) (h:i<(bs t).size):(bs t)[i]=t[i]'(by rw[AY] at h;exact h):=by
 simp[bs,ByteArray.getElem_eq_getElem_data]
theorem ach {a b:Tx} (h:bs a=bs b):a=b:=by
 have:(bs a).data=(bs b).data:=by rw[h]
 simpa [bs] using this
theorem RE (s:ByteArray):bs s.data.toList=s:=by simp[bs]
theorem Ji (a b:Tx):bs a++bs b=bs (a++b):=by
 apply ByteArray.ext
 rw[ByteArray.data_append];simp[bs]
theorem FG (t:Tx) (i j:Nat):(bs t).extract i j=bs ((t.take j).drop i):=by
 apply ByteArray.ext
 rw[ByteArray.data_extract];simp[bs,adU,List.drop_take]
theorem AR (t:Tx):(bs t).toList=t:=ByteArray.toList_mk t
def AW (c:UInt8):Bool:=decide (48<=(c.toNat:Int))&&decide ((c.toNat:Int)<=57)
def BQ (c:UInt8):Bool:=decide (97<=(c.toNat:Int))&&decide ((c.toNat:Int)<=122)
def Aq (t:Tx):Bool:=match t with
 |[a,b]=>decide ((a.toNat:Int)=114)&&decide (48<=(b.toNat:Int))&&decide ((b.toNat:Int)<=51)
 |_=>false
def BZ (t:Tx):Bool:=decide (1<=t.length)&&decide (t.length<=3)&&t.all AW
def Ar (t:Tx):Bool:=decide (1<=t.length)&&decide (t.length<=8) && !Aq t&&t.all (λc=>BQ c||AW c)&&BQ (t.headD 0)
end Go.Proofs.Cod
namespace Go.Proofs.YtdcacoifehkioaaGreatDoor
open Go.RowKit Go.Proofs.Cod
theorem Aa {p:Prop} (h:p):Hid p:=h
theorem Qv (c:UInt8) (w:Xg):X3 Tryz.prog 209 #[.int .u8 c.toNat] w λe w'=>e = .returned (.bool (BQ c))/\w'=w:=by
 unfold BQ;generalize (c.toNat:Int)=x
 go_enter Tryz.func209,Tryz.ntmps209
 go_wp2
 all_goals
  go_ret
  simp_all<;>omega
theorem Qy (c:UInt8) (w:Xg):X3 Tryz.prog 210 #[.int .u8 c.toNat] w λe w'=>e = .returned (.bool (AW c))/\w'=w:=by
 unfold AW;generalize (c.toNat:Int)=x
 go_enter Tryz.func210,Tryz.ntmps210
 go_wp2
 all_goals
  go_ret
  simp_all<;>omega
theorem Je (t:Tx) (w:Xg):X3 Tryz.prog 208 #[.string (bs t)] w λe w'=>e = .returned (.bool (Aq t))/\w'=w:=by
 have d:=AY t
 by_cases c:t.length=2
 ·obtain⟨a,b,rfl⟩:∃a b,t=[a,b]:=by
   match t,c with
   |[a,b],_=>exact⟨a,b,rfl⟩
  have j:∀h,(bs [a,b])[0]'h=a:=λh=>CO _ 0 h;have i:∀h,(bs [a,b])[1]'h=b:=λh=>CO _ 1 h;have k:(bs [a,b]).size=2:=d;unfold Aq
  simp only
  go_enter Tryz.func208,Tryz.ntmps208
  go_wp2
  all_goals
   go_ret
   simp_all<;>omega
 ·have g:¬((t.length:Int)=2):=by omega
  have f:Aq t=false:=by
   match t,c with
   |[],_=>rfl
   |[_],_=>rfl
   |_::_::_::_,_=>rfl
  rw[f]
  go_enter Tryz.func208,Tryz.ntmps208
  go_wp2
  all_goals
   go_ret
   simp_all
theorem KC {p:UInt8->Bool} {t:Tx} {i:Nat} (h:i<t.length):(t.take (i+1)).all p=((t.take i).all p&&p t[i]):=by
 rw[XA h,List.all_append];simp
theorem KD {p:UInt8->Bool} {t:Tx} {i:Nat} (h:i<t.length) (a:p t[i]=false):t.all p=false:=by
 rw[List.all_eq_false]
 exact⟨t[i],List.getElem_mem h,by rw[a];simp⟩
theorem aac (t:Tx) (w:Xg):X3 Tryz.prog 226 #[.string (bs t)] w λe w'=>e = .returned (.bool (BZ t))/\w'=w:=by
 have r:=AY t
 by_cases j:1<=t.length/\t.length<=3
 ·have b:Hid (BZ t=t.all AW):=by unfold Hid BZ;rw[decide_eq_true j.1,decide_eq_true j.2];rfl
  have m:¬((t.length:Int)<1):=by omega
  have f:¬(3<(t.length:Int)):=by omega
  go_enter Tryz.func226,Tryz.ntmps226
  go_wp2_with fail
  go_loopw [14] (λd wr=>∃i:Nat,i<=t.length/\d = .int .i64 i/\(t.take i).all AW=true/\wr=w) (λd _=>t.length - (intOf d).toNat)
  case atStart=>exact⟨0,XD _,rfl,by simp,rfl⟩
  case round=>
   obtain⟨i,s,rfl,a,rfl⟩:=hrel
   by_cases l:i<t.length
   ·have u:∀h,(bs t)[i]'h=t[i]:=λh=>CO t i h;have v:(i:Int)<(t.length:Int):=by omega
    have o:=KC (p:=AW) l;have k:=KD (p:=AW) l;have c:=Aa (⟨o,k,a⟩:_/\_/\_);clear o k a
    go_wp2_with fail
    refine(Qy t[i] _).mono ?_;rintro e x ⟨rfl,rfl⟩
    cases n:AW t[i] with
    |true=>
     go_wp2_with fail
     go_roundw
     case rel=>exact⟨i+1,by omega,by go_num,by rw[c.out.1,c.out.2.2,n];rfl,by trivial⟩
     case measure=>simp[intOf];omega
    |false=>
     go_wp2_with fail
     go_ret
     exact⟨by rw[b.out,c.out.2.1 n];rfl,rfl⟩
   ·have q:Hid (t.all AW=true):=by rw[XY (by omega)] at a;exact a
    clear a
    go_wp2_with fail
    go_ret
    exact⟨by rw[b.out,q.out];rfl,rfl⟩
 ·have b:BZ t=false:=by
   unfold BZ
   by_cases g:1<=t.length
   ·have f:¬t.length<=3:=λh=>j ⟨g,h⟩;rw[decide_eq_false f];simp
   ·rw[decide_eq_false g];rfl
  rw[b]
  by_cases g:t.length=0
  ·have m:((t.length:Int)<1):=by omega
   go_enter Tryz.func226,Tryz.ntmps226
   go_wp2_with fail
   go_ret
   exact⟨rfl,rfl⟩
  ·have m:¬((t.length:Int)<1):=by omega
   have f:(3<(t.length:Int)):=by omega
   go_enter Tryz.func226,Tryz.ntmps226
   go_wp2_with fail
   go_ret
   exact⟨rfl,rfl⟩
theorem Qu {t:Tx} (b:1<=t.length) (d:t.length<=8) (a:Aq t=false):Ar t=(t.all (λc=>BQ c||AW c)&&BQ (t.headD 0)):=by
 unfold Ar;rw[decide_eq_true b,decide_eq_true d,a];rfl
theorem Kj {t:Tx} (h:¬(1<=t.length/\t.length<=8/\Aq t=false)):Ar t=false:=by
 cases a:Ar t with
 |false=>rfl
 |true=>
  unfold Ar at a;simp only[Bool.and_eq_true,decide_eq_true_eq,Bool.not_eq_true'] at a;exact absurd ⟨a.1.1.1.1,a.1.1.1.2,a.1.1.2⟩ h
theorem Mk (t:Tx) (w:Xg):X3 Tryz.prog 183 #[.string (bs t)] w λe w'=>e = .returned (.bool (Ar t))/\w'=w:=by
 have B:=AY t
 by_cases k:1<=t.length/\t.length<=8
 ·have n:¬((t.length:Int)<1):=by omega
  have v:¬(8<(t.length:Int)):=by omega
  have j:=Je t
  cases f:Aq t with
  |true=>
   have a:Ar t=false:=Kj (λh=>by rw[f] at h;exact absurd h.2.2 (by simp));rw[a];rw[f] at j
   go_enter Tryz.func183,Tryz.ntmps183
   go_wp2_with fail
   refine(j _).mono ?_;rintro e w1 ⟨rfl,rfl⟩
   go_wp2_with fail
   go_ret
   exact⟨rfl,rfl⟩
  |false=>
   have a:Hid (Ar t=(t.all (λc=>BQ c||AW c)&&BQ (t.headD 0))):=Qu k.1 k.2 f;rw[f] at j
   go_enter Tryz.func183,Tryz.ntmps183
   go_wp2_with fail
   refine(j _).mono ?_;rintro e w1 ⟨rfl,rfl⟩
   go_wp2_with fail
   go_loopw [18] (λl wr=>∃i:Nat,i<=t.length/\l = .int .i64 i/\(t.take i).all (λc=>BQ c||AW c)=true/\wr=w1) (λl _=>t.length - (intOf l).toNat)
   case atStart=>exact⟨0,XD _,rfl,by simp,rfl⟩
   case round=>
    obtain⟨i,A,rfl,b,rfl⟩:=hrel
    by_cases o:i<t.length
    ·have z:∀h,(bs t)[i]'h=t[i]:=λh=>CO t i h;have C:(i:Int)<(t.length:Int):=by omega
     have d:=Aa (⟨KC (p:=λc=>BQ c||AW c) o,KD (p:=λc=>BQ c||AW c) o,b⟩:_/\_/\_);clear b
     go_wp2_with fail
     refine(Qv t[i] _).mono ?_;rintro e u ⟨rfl,rfl⟩
     cases m:BQ t[i] with
     |true=>
      go_wp2_with fail
      go_roundw
      case rel=>exact⟨i+1,by omega,by go_num,by rw[d.out.1,d.out.2.2,m];rfl,by trivial⟩
      case measure=>simp[intOf];omega
     |false=>
      go_wp2_with fail
      refine(Qy t[i] _).mono ?_;rintro e w3 ⟨rfl,rfl⟩
      cases q:AW t[i] with
      |true=>
       go_wp2_with fail
       go_roundw
       case rel=>exact⟨i+1,by omega,by go_num,by rw[d.out.1,d.out.2.2,m,q];rfl,by trivial⟩
       case measure=>simp[intOf];omega
      |false=>
       go_wp2_with fail
       go_ret
       exact⟨by rw[a.out,d.out.2.1 (by rw[m,q];rfl)];rfl,by trivial⟩
    ·have y:Hid (t.all (λc=>BQ c||AW c)=true):=by rw[XY (by omega)] at b;exact b
     have x:0<t.length:=by omega
     have z:∀h,(bs t)[0]'h=t[0]:=λh=>CO t 0 h;have s:Hid (t.headD 0=t[0]):=by
      match t,x with
      |c::r,_=>rfl
     clear b
     go_wp2_with fail
     refine(Qv t[0] _).mono ?_;rintro e u ⟨rfl,rfl⟩
     go_wp2_with fail
     go_ret
     exact⟨by rw[a.out,y.out,s.out];rfl,by trivial⟩
 ·have a:Ar t=false:=Kj (λh=>k ⟨h.1,h.2.1⟩);rw[a]
  by_cases g:t.length=0
  ·have n:((t.length:Int)<1):=by omega
   go_enter Tryz.func183,Tryz.ntmps183
   go_wp2_with fail
   go_ret
   exact⟨rfl,rfl⟩
  ·have n:¬((t.length:Int)<1):=by omega
   have v:(8<(t.length:Int)):=by omega
   go_enter Tryz.func183,Tryz.ntmps183
   go_wp2_with fail
   go_ret
   exact⟨rfl,rfl⟩
def Ws (w:Xg) (a:Option Addr) (ts:List Tx):Prop:=
 ∀i,i<ts.length->∃b off,a=some ⟨b,off,none⟩/\b<w.heap.size/\w.cell? ⟨b,off+i,none⟩=some (.string (bs (ts.getD i [])))
theorem Ws.below {w w':Xg} {a:Option Addr} {ts:List Tx} (h:Ws w a ts) (d:Below w.heap.size w w'):Ws w' a ts:=by
 intro i e;obtain⟨b,c,f,g,j⟩:=h i e
 exact⟨b,c,f,by have:=d.size;omega,(d.cell (p:=⟨b,c+i,none⟩) g).trans j⟩
theorem RR {p:Tx->Bool} {ts:List Tx} {i:Nat} (h:i<ts.length):(ts.take (i+1)).all p=((ts.take i).all p&&p (ts.getD i [])):=by
 rw[XA h,List.all_append];simp[h]
theorem RS {p:Tx->Bool} {ts:List Tx} {i:Nat} (h:i<ts.length) (a:p (ts.getD i [])=false):ts.all p=false:=by
 rw[List.all_eq_false]
 exact⟨ts.getD i [],by simp[h],by rw[a];simp⟩
theorem acB (a:Option Addr) (n cap:Nat) (ts:List Tx) (w:Xg) (q:ts.length=n) (j:Ws w a ts) (r:n<4294967281) :
 X3 Tryz.prog 181 #[.slice a n cap] w λe w'=>e = .returned (.bool (ts.all Ar))/\w'=w:=by
 go_enter Tryz.func181,Tryz.ntmps181
 go_wp2_with fail
 go_loopw [7] (λf wr=>∃i:Nat,i<=n/\f = .int .i64 i/\(ts.take i).all Ar=true/\wr=w) (λf _=>n - (intOf f).toNat)
 case atStart=>exact⟨0,XD _,rfl,by simp,rfl⟩
 case round=>
  obtain⟨i,o,rfl,c,rfl⟩:=hrel
  by_cases m:i<n
  ·obtain⟨b,l,rfl,_,h⟩:=j i (by omega);have s:(i:Int)<(n:Int):=by omega
   have d:=Aa (⟨RR (p:=Ar) (by omega:i<ts.length),RS (p:=Ar) (by omega:i<ts.length),c⟩:_/\_/\_);generalize ts.getD i []=t at h d;clear c
   go_wp2_with fail
   refine(Mk t _).mono ?_;rintro e u ⟨rfl,rfl⟩
   cases g:Ar t with
   |true=>
    go_wp2_with fail
    go_roundw
    case rel=>exact⟨i+1,by omega,by go_num,by rw[d.out.1,d.out.2.2,g];rfl,by trivial⟩
    case measure=>simp[intOf];omega
   |false=>
    go_wp2_with fail
    go_ret
    exact⟨by rw[d.out.2.1 g];rfl,by trivial⟩
  ·have k:Hid (ts.all Ar=true):=by rw[XY (by omega)] at c;exact c
   clear c
   go_wp2_with fail
   go_ret
   exact⟨by rw[k.out];rfl,by trivial⟩
def BR (t:Tx) (c:Int):Bool:=if c=114 then Aq t else if c=97\/c=98 then(Aq t||BZ t) else Ar t
theorem abe (t:Tx) (c:Int) (w:Xg):X3 Tryz.prog 211 #[.string (bs t),.int .u8 c] w λe w'=>e = .returned (.bool (BR t c))/\w'=w:=by
 by_cases d:c=114
 ·subst d;have a:BR t 114=Aq t:=rfl;rw[a]
  go_enter Tryz.func211,Tryz.ntmps211
  go_wp2_with fail
  refine(Je t _).mono ?_;rintro e g ⟨rfl,rfl⟩
  go_wp2_with fail
  go_ret
  exact⟨rfl,rfl⟩
 ·by_cases b:c=97\/c=98
  ·have a:Hid (BR t c=(Aq t||BZ t)):=by unfold Hid BR;rw[if_neg d,if_pos b]
   have key:X3 Tryz.prog 211 #[.string (bs t),.int .u8 c] w λe w'=>e = .returned (.bool (Aq t||BZ t))/\w'=w:=by
    rcases b with rfl|rfl
    all_goals
     go_enter Tryz.func211,Tryz.ntmps211
     go_wp2_with fail
     refine(Je t _).mono ?_;rintro e g ⟨rfl,rfl⟩
     cases f:Aq t with
     |true=>
      go_wp2_with fail
      go_ret
      exact⟨by rw[f];rfl,by trivial⟩
     |false=>
      go_wp2_with fail
      refine(aac t _).mono ?_;rintro e w3 ⟨rfl,rfl⟩
      go_wp2_with fail
      go_ret
      exact⟨by rw[f];rfl,by trivial⟩
   rw[a.out];exact key
  ·have a:BR t c=Ar t:=by unfold BR;rw[if_neg d,if_neg b]
   rw[a];have i:¬(c=97):=λh=>b (.inl h);have j:¬(c=98):=λh=>b (.inr h)
   go_enter Tryz.func211,Tryz.ntmps211
   go_wp2_with fail
   refine(Mk t _).mono ?_;rintro e g ⟨rfl,rfl⟩
   go_wp2_with fail
   go_ret
   exact⟨rfl,rfl⟩
def Hd:Tx:=[118,97,114]
def He:Tx:=[102,108,97,103]
def IN:Tx:=[108,111,99,107]
def tabC (l:List (Tx×Xj)):Array Xj:=(l.flatMap λp=>[.string (bs p.1),p.2]).toArray
theorem NG (l:List (Tx×Xj)):(tabC l).size=2*l.length:=by
 unfold tabC;simp
 induction l with
 |nil=>rfl
 |cons p l a=>simp[XP,a];omega
theorem aa9 (l:List (Tx×Xj)) (i:Nat):(l.flatMap λp=>[Value.string (bs p.1),p.2]).drop (i*2)=(l.drop i).flatMap λp=>[Value.string (bs p.1),p.2]:=by
 induction l generalizing i with
 |nil=>simp
 |cons p l a=>
  cases i with
  |zero=>simp
  |succ i=>rw[XP,show (i+1)*2=i*2+2 by omega];simpa using a i
theorem Te {l:List (Tx×Xj)} {i:Nat} {p:Tx×Xj} (h:l[i]?=some p):(tabC l).extract (i*2) (i*2+2) = #[.string (bs p.1),p.2]:=by
 unfold tabC;obtain⟨a,rfl⟩:=Xe.1 h;rw[List.extract_toArray]
 congr 1
 rw[adU,aa9,List.drop_eq_getElem_cons a,XP];have:i*2+2 - i*2=2:=by omega
 rw[this];rfl
theorem RF {s t:Tx} (h:¬s=t):((bs s).toList == (bs t).toList)=false:=by rw[AR,AR];simpa using h
def GB (l:List (Tx×Xj)) (t:Tx):Option Xj:=(l.find? λp=>p.1=t).map (·.2)
theorem NI {l:List (Tx×Xj)} {t:Tx} (h:∀(j:Nat) (p:Tx×Xj),l[j]?=some p->p.1≠t):GB l t=none:=by
 unfold GB;rw[List.find?_eq_none.2];·rfl
 intro p a;obtain⟨j,b⟩:=List.getElem?_of_mem a
 simpa using h j p b
theorem NH {l:List (Tx×Xj)} {i:Nat} {p:Tx×Xj} (b:l[i]?=some p) (h:∀(j:Nat) (q:Tx×Xj),j<i->l[j]?=some q->q.1≠p.1):GB l p.1=some p.2:=by
 unfold GB;have:l.find? (λq=>q.1=p.1)=some p:=by
  rw[List.find?_eq_some_iff_getElem];obtain⟨c,e⟩:=Xe.1 b;refine⟨by simp,i,c,e,λj a=>?_⟩
  simpa using h j l[j] a (Xc (by omega))
 rw[this];rfl
theorem On {P:Program} {t e:TypeId} {n:Nat} {l:List (Tx×Xj)} {i:Nat} {p:Tx×Xj} (a:l[i]?=some p) {w:Xg} (d:P.underlying t=some (.array n e)) (k:l.length=n) (b:(sizeOf e).run P w = .ok 2 w) (f:(isAgg e).run P w = .ok true w) :
 (Instr.index t (.agg (tabC l)) (.int .i64 i)).run P w = .ok (.agg #[.string (bs p.1),p.2]) w:=by
 have j:i<n:=by obtain⟨h,_⟩:=Xe.1 a;omega
 have g:(0:Int)<=i/\(i:Int)<n:=by omega
 have c:¬(n<=i):=by omega
 simp[Instr.index,run_underlying d,asIntOf,g,c,part,b,f,go_sem,Te a]
def Gh:List (Tx×Xj):=[(Hd,.int .u8 118),(He,.int .u8 102),(IN,.int .u8 109)]
def FQ (w:Xg):Prop:=∃fr,w.heap[2]?=some (.cells (tabC Gh) 291 fr)
def Cu (t:Tx):Int:=if Hd=t then 118 else if He=t then 102 else if IN=t then 109 else 0
theorem aaH (t:Tx):Value.int .u8 (Cu t)=(GB Gh t).getD (.int .u8 0):=by
 unfold Cu GB Gh;simp only[List.find?_cons]
 by_cases a:Hd=t
 ·simp[a]
 ·by_cases b:He=t
  ·simp[a,b]
  ·by_cases c:IN=t
   ·simp[a,b,c]
   ·simp[a,b,c]
theorem aaI {i:Nat} {p:Tx×Xj} (h:Gh[i]?=some p):∃c,p.2 = .int .u8 c:=by
 have:=Xz h;simp[Gh] at this
 rcases this with rfl|rfl|rfl<;>exact⟨_,rfl⟩
attribute [irreducible] tabC
def Si (l:List (Tx×Xj)) (p:Xj->Prop):Prop:=∀(i:Nat) (q:Tx×Xj),l[i]?=some q->p q.2
theorem aaF (t:Tx) (w:Xg) (h:FQ w):X3 Tryz.prog 142 #[.string (bs t)] w λe w'=>e = .returned (.int .u8 (Cu t))/\Below w.heap.size w w':=by
 obtain⟨fr,h⟩:=h;rw[aaH];have o:Gh.length=3:=rfl;have u:Si Gh (λv=>∃c,v = .int .u8 c):=λi q d=>aaI d;generalize Gh=l at *
 go_enter Tryz.func142,Tryz.ntmps142
 go_wp2_with (refine wpList_load_row rfl _ _ rfl 2 rfl _ _ fr _ h Tryz.underlying291 rfl (by rw[NG,o];kernel_rfl) ?_)
 go_loopw [6] (λm wr=>∃i:Nat,i<=3/\m = .int .i64 i/\(∀(j:Nat) (p:Tx×Xj),j<i->l[j]?=some p->p.1≠t)/\Below w.heap.size w wr) (λm _=>3 - (intOf m).toNat)
 case atStart=>exact⟨0,by omega,rfl,λj p r=>by omega,Below.refl _ _⟩
 case round=>
  obtain⟨i,A,rfl,f,g⟩:=hrel
  by_cases B:i<3
  ·have D:(i:Int)<3:=by omega
   obtain⟨⟨s,v⟩,b⟩:∃p,l[i]?=some p:=⟨l[i],Xc (by omega)⟩;obtain⟨c,n⟩:=u i _ b;have n:v = .int .u8 c:=n;subst n;have C:=On b (w:=wr) Tryz.underlying291 o (by kernel_rfl) (by kernel_rfl);have y:=(g.alloc g.size (.cells #[.string (bs s),.int .u8 c] 290));have a:=Aa (⟨f,y,NH b⟩:_/\_/\_);clear f g
   by_cases k:s=t
   ·subst k
    go_wp2_with fail
    go_ret
    refine⟨?_,a.out.2.1⟩;rw[a.out.2.2 a.out.1];rfl
   ·have z:=RF k
    go_wp2_with fail
    go_roundw
    case rel=>
     refine⟨i+1,by omega,by go_num,λj q r d=>?_,a.out.2.1⟩
     by_cases x:j=i
     ·subst x;rw[b] at d;cases d;exact k
     ·exact a.out.1 j q (by omega) d
    case measure=>simp[intOf];omega
  ·have a:=Aa (⟨f,g,NI (l:=l) (t:=t) λj p b=>f j p (by obtain⟨h,_⟩:=Xe.1 b;omega) b⟩:_/\_/\_);clear f g
   go_wp2_with fail
   go_ret
   refine⟨?_,a.out.2.1⟩;rw[a.out.2.2];rfl
def AQ:List (Tx×Tx):=[([115,101,116],[114,97]),([97,100,100],[114,97,98]),([115,117,98],[114,97,98]),([109,117,108],[114,97,98]),([108,111,97,100],[114,118]),([115,116,111,114,101],[118,97]),([103,101,116],[114,102]),([112,117,116],[102,97]),([108,111,99,107],[109]),([117,110,108,111,99,107],[109]),([115,112,97,119,110],[116]),([106,111,105,110],[116]),([106,117,109,112],[108]),([106,101,113],[97,98,108]),([106,108,116],[97,98,108]),([99,104,101,99,107],[97,98]),([101,110,100],[])]
def Hh:List (Tx×Xj):=AQ.map λp=>(p.1,.string (bs p.2))
def FL (w:Xg):Prop:=∃fr,w.heap[3]?=some (.cells (tabC Hh) 312 fr)
def Ct (t:Tx):Option Tx:=(AQ.find? λp=>p.1=t).map (·.2)
theorem Vn (t:Tx):GB Hh t=(Ct t).map λp=>.string (bs p):=by
 unfold GB Ct Hh;rw[List.find?_map]
 cases h:List.find? (λp=>decide (p.1=t)) AQ with
 |none=>simp[Function.comp_def,h]
 |some p=>simp[Function.comp_def,h]
theorem Vo (t:Tx) (w:Xg) (h:FL w):X3 Tryz.prog 184 #[.string (bs t)] w λe w'=>e = .returned (.tuple #[.string (bs ((Ct t).getD [])),.bool (Ct t).isSome])/\Below w.heap.size w w':=by
 obtain⟨fr,h⟩:=h;have u:=Aa (Vn t);have r:Hh.length=17:=rfl;have z:Si Hh (λv=>∃c,v = .string (bs c)):=λi q a=>by
  obtain⟨p,_,rfl⟩:=List.mem_map.1 (Xz a)
  exact⟨_,rfl⟩
 generalize Hh=l at *
 go_enter Tryz.func184,Tryz.ntmps184
 go_wp2_with (refine wpList_load_row rfl _ _ rfl 3 rfl _ _ fr _ h Tryz.underlying312 rfl (by rw[NG,r];kernel_rfl) ?_)
 go_loopw [7] (λm wr=>∃i:Nat,i<=17/\m = .int .i64 i/\(∀(j:Nat) (p:Tx×Xj),j<i->l[j]?=some p->p.1≠t)/\Below w.heap.size w wr) (λm _=>17 - (intOf m).toNat)
 case atStart=>exact⟨0,by omega,rfl,λj p y=>by omega,Below.refl _ _⟩
 case round=>
  obtain⟨i,D,rfl,f,g⟩:=hrel
  by_cases E:i<17
  ·have G:(i:Int)<17:=by omega
   obtain⟨⟨s,v⟩,d⟩:∃p,l[i]?=some p:=⟨l[i],Xc (by omega)⟩;obtain⟨c,n⟩:=z i _ d;have n:v = .string (bs c):=n;subst n;have F:=On d (w:=wr) Tryz.underlying312 r (by kernel_rfl) (by kernel_rfl);have B:=(g.alloc g.size (.cells #[.string (bs s),.string (bs c)] 311));have b:=Aa (⟨f,B,NH d⟩:_/\_/\_);clear f g
   by_cases k:s=t
   ·subst k;have o:Ct s=some c:=by
     have e:=u.out;rw[b.out.2.2 b.out.1] at e
     cases a:Ct s with
     |none=>rw[a] at e;cases e
     |some x=>
      rw[a] at e;have e:bs c=bs x:=by simpa using e
      have:=congrArg ByteArray.toList e;rw[AR,AR] at this;rw[this]
    go_wp2_with fail
    go_ret2
    exact⟨by first|rfl|(rw[o];rfl),b.out.2.1⟩
   ·have C:=RF k
    go_wp2_with fail
    go_roundw
    case rel=>
     refine⟨i+1,by omega,by go_num,λj q y a=>?_,b.out.2.1⟩
     by_cases A:j=i
     ·subst A;rw[d] at a;cases a;exact k
     ·exact b.out.1 j q (by omega) a
    case measure=>simp[intOf];omega
  ·have b:=Aa (⟨f,g,NI (l:=l) (t:=t) λj p d=>f j p (by obtain⟨h,_⟩:=Xe.1 d;omega) d⟩:_/\_/\_);have o:Ct t=none:=by
    have e:=u.out;rw[b.out.2.2] at e
    cases a:Ct t with
    |none=>rfl
    |some x=>rw[a] at e;cases e
   clear f g
   go_wp2_with fail
   go_ret2
   exact⟨by first|rfl|(rw[o];rfl),b.out.2.1⟩
end Go.Proofs.YtdcacoifehkioaaGreatDoor
namespace Go.Proofs
open Go.Shelf
shelf_lay LaysM.n171 Nm 171 at Tryz as Tryz.laysM171
end Go.Proofs
namespace Go.Proofs.YtdcacoifehkioaaGreatDoor
open Go.RowKit Go.Shelf Go.Proofs.Cod
theorem Tryz.powG:Tryz.prog.globalNamed "internal/strconv.uint64pow10" = some 5:=by kernel_rfl
structure Cn (w:Xg) (B:Nat):Prop where
 heads:FQ w
 shapes:FL w
 pow:Lib.TabIs Tryz.prog w "internal/strconv.uint64pow10" .u64 Lib.pow10Tab
 lt:6<=B
theorem Cn.keep {w w':Xg} {B:Nat} (h:Cn w B) (b:Below B w w'):Cn w' B:=by
 have c:=h.lt;refine⟨?_,?_,?_,c⟩
 ·obtain⟨fr,q⟩:=h.heads
  exact⟨fr,(b.block _ (by show 2<B;omega)).trans q⟩
 ·obtain⟨fr,q⟩:=h.shapes
  exact⟨fr,(b.block _ (by show 3<B;omega)).trans q⟩
 have a:=h.pow;unfold Lib.TabIs World.var? at a |-;rw[Tryz.powG] at a |-;simp only[Option.bind_some] at a |-;rw[b.block 5 (by omega)];exact a
theorem Cn.mono {w:Xg} {B a:Nat} (h:Cn w B) (b:B<=a):Cn w a:=⟨h.heads,h.shapes,h.pow,Nat.le_trans h.lt b⟩
theorem Ki (n:Int) (c : -9223372036854775808<=n) (a:n<=9223372036854775807) (w:Xg) {B:Nat} (d:Cn w B):X3 Tryz.prog 72 #[.int .i64 n] w λe w'=>e = .returned (.string (bs (Lib.itoa n)))/\Below w.heap.size w w':=by
 refine(Any.strconv_Itoa Tryz.laysM171 n c a w d.pow).mono ?_;rintro e w' ⟨rfl,k,b,rfl⟩
 exact⟨rfl,Lib.below_grow w.heap.size w (Nat.le_refl _) k b⟩
end Go.Proofs.YtdcacoifehkioaaGreatDoor
namespace Go.Proofs.YtdcacoifehkioaaGreatDoor
open Go.RowKit Go.Proofs.Cod
def AV:List Tx->Tx->Bool
 |[],[]=>true
 |t::ts,c::ps=>BR t (c.toNat:Int)&&AV ts ps
 |_,_=>false
theorem Kn {ts:List Tx} {ps:Tx} (h:ts.length≠ps.length):AV ts ps=false:=by
 induction ts generalizing ps with
 |nil=>cases ps with
  |nil=>simp at h
  |cons c ps=>rfl
 |cons t ts a=>cases ps with
  |nil=>rfl
  |cons c ps=>simp only[AV];rw[a (by simpa using h)];simp
theorem abc {ts:List Tx} {ps:Tx} {i:Nat} (b:i<ts.length) (a:i<ps.length) (h:BR (ts.getD i []) ((ps[i]'a).toNat:Int)=false):AV ts ps=false:=by
 induction ts generalizing ps i with
 |nil=>simp at b
 |cons t ts d=>cases ps with
  |nil=>rfl
  |cons c ps=>
   cases i with
   |zero=>simp only[AV];simp at h;rw[h];rfl
   |succ i=>simp only[AV];rw[d (by simpa using b) (by simpa using a) (by simpa using h)];simp
theorem abb {ts:List Tx} {ps:Tx} (b:ts.length=ps.length) (h:∀i (a:i<ps.length),BR (ts.getD i []) ((ps[i]'a).toNat:Int)=true):AV ts ps=true:=by
 induction ts generalizing ps with
 |nil=>cases ps with
  |nil=>rfl
  |cons c ps=>simp at b
 |cons t ts e=>cases ps with
  |nil=>simp at b
  |cons c ps=>
   simp only[AV];have d:=h 0 (by simp)
   simp at d
   rw[d,e (by simpa using b) (λi a=>h (i+1) (by simpa using a))];rfl
theorem aba (a:Option Addr) (n cap:Nat) (ts:List Tx) (ps:Tx) (w:Xg) (H:ts.length=n) (v:Ws w a ts) (J:n<4294967281) (A:ps.length<4294967281) :
 X3 Tryz.prog 185 #[.slice a n cap,.string (bs ps)] w λe w'=>e = .returned (.bool (AV ts ps))/\w'=w:=by
 have r:=Aa (AY ps)
 by_cases f:n=ps.length
 ·have B:(bs ps).size=n:=by rw[r.out,f]
  replace f:=Aa f
  go_enter Tryz.func185,Tryz.ntmps185
  go_wp2_with fail
  go_loopw [14] (λl wr=>∃i:Nat,i<=n/\l = .int .i64 i/\(∀j (d:j<ps.length),j<i->BR (ts.getD j []) ((ps[j]'d).toNat:Int)=true)/\wr=w) (λl _=>n - (intOf l).toNat)
  case atStart=>exact⟨0,XD _,rfl,λj _ h=>by omega,rfl⟩
  case round=>
   obtain⟨i,G,rfl,g,rfl⟩:=hrel
   by_cases I:i<n
   ·obtain⟨b,F,rfl,_,u⟩:=v i (by omega);have K:(i:Int)<(n:Int):=by omega
    have o:i<ps.length:=by have:=f.out;omega
    have x:=CO ps i (by omega);have E:=Aa o;have k:=Aa (⟨g,abc (ts:=ts) (ps:=ps) (i:=i) (by omega) o⟩:_/\_);generalize m:ts.getD i []=t at u k;generalize p:ps[i]=c at x k;clear g o;replace m:=Aa m;replace p:=Aa p
    go_wp2_with fail
    refine(abe t c.toNat _).mono ?_;rintro e D ⟨rfl,rfl⟩
    cases s:BR t c.toNat with
    |true=>
     go_wp2_with fail
     go_roundw
     case rel=>
      refine⟨i+1,by omega,by go_num,λj d z=>?_,by trivial⟩
      by_cases y:j=i
      ·subst y;have e:(ps[j]'d)=c:=p.out;rw[m.out,e];exact s
      ·exact k.out.1 j d (by omega)
     case measure=>simp[intOf];omega
    |false=>
     go_wp2_with fail
     go_ret
     exact⟨by rw[k.out.2 s];rfl,by trivial⟩
   ·have q:Hid (AV ts ps=true):=abb (by have:=f.out;omega) λj d=>g j d (by have:=f.out;omega);clear g
    go_wp2_with fail
    go_ret
    exact⟨by rw[q.out];rfl,by trivial⟩
 ·have q:Hid (AV ts ps=false):=Kn (by omega);have C:¬((n:Int)=(bs ps).size):=by have:=r.out;omega
  go_enter Tryz.func185,Tryz.ntmps185
  go_wp2_with fail
  go_ret
  exact⟨by rw[q.out];rfl,rfl⟩
def Cs (t:Tx):Nat:=match t with
 |[_,b]=>b.toNat - 48
 |_=>0
theorem Mj {t:Tx} (h:Aq t=true):∃a b:UInt8,t=[a,b]/\(48:Int)<=b.toNat/\(b.toNat:Int)<=51:=by
 match t,h with
 |[a,b],h=>
  simp[Aq] at h
  exact⟨a,b,rfl,by omega,by omega⟩
theorem OI (t:Tx) (h:Aq t=true) (w:Xg):X3 Tryz.prog 212 #[.string (bs t)] w λe w'=>e = .returned (.int .i64 (Cs t))/\w'=w:=by
 obtain⟨a,b,rfl,g,i⟩:=Mj h;have c:=AY [a,b];have d:=CO [a,b] 1 (by rw[c];simp);have d:(bs [a,b])[1]'(by rw[c];simp)=b:=d;have c:(bs [a,b]).size=2:=c;have f:Hid ((Cs [a,b]:Int)=(b.toNat:Int) - 48):=by unfold Hid;simp only[Cs];omega
 go_enter Tryz.func212,Tryz.ntmps212
 go_wp2
 go_ret
 refine⟨?_,rfl⟩;rw[f.out]
 rfl
end Go.Proofs.YtdcacoifehkioaaGreatDoor
namespace Go.Proofs.Ord
structure Ev where
 thread:Int
 kind:Int
 obj:Int
 value:Int
def Ev.zero:Ev:=⟨0,0,0,0⟩
def ev (l:List Ev) (k:Nat):Ev:=l.getD k Ev.zero
def Kd (a b:Ev):Bool:=
 a.thread == b.thread||(a.kind == 6&&b.kind == 5&&a.obj == b.obj)||(a.kind == 4&&b.kind == 3&&a.obj == b.obj)||(a.kind == 7&&a.obj == b.thread)||(b.kind == 8&&b.obj == a.thread)
def row (l:Nat->Ev) (i:Nat):Nat->List Bool
 |0=>[]
 |n+1=>row l i n++[decide (i<n)&&(Kd (l i) (l n)||(Yt n).any λk=>decide (i<k)&&((row l i n).getD k false&&Kd (l k) (l n)))]
def bef (l:Nat->Ev) (i j:Nat):Bool:=(row l i (j+1)).getD j false
def part (l:Nat->Ev) (i j k:Nat):Bool:=Kd (l i) (l j)||(Yt k).any λq=>decide (i<q)&&(bef l i q&&Kd (l q) (l j))
end Go.Proofs.Ord
namespace Go.Proofs.YtdcacoifehkioaaGreatDoor
open Go.RowKit Go.Proofs.Ord
theorem VG {p:Prop} (h:p):Hid p:=h
end Go.Proofs.YtdcacoifehkioaaGreatDoor
