import Derived.Test.YtdcacoifehkioaaGreatDoorChecked
import Derived.Laws.Strings
import Derived.WalkKit
import Derived.ProofKit
import Derived.Below
import Derived.Laws.Rows
import Derived.Shelf.Lay
import Derived.Shelf.Strconv.Itoa3
import Derived.Lib.SmallJoins
import Derived.Lib.AppendIntMem
import Derived.Lib.ItoaLen
open List renaming extract_eq_take_drop->agm,take_succ_eq_append_getElem->XR,take_of_length_le->XQ,flatMap_cons->XO,getElem?_eq_some_iff->Xf,getElem?_eq_getElem->Xe,mem_of_getElem?->Xz,range->YB
open Go renaming World->Xh,Calls->XY,Value->Xk
open Nat renaming zero_le->Xx
set_option maxHeartbeats 1000000
set_option maxRecDepth 100000
set_option linter.unusedVariables false
set_option linter.unusedSimpArgs false
namespace Go.Proofs.Cod
abbrev Tx:=List UInt8
def bs (t:Tx):ByteArray:=⟨t.toArray⟩
theorem Bg (t:Tx):(bs t).size=t.length:=by simp[bs,ByteArray.size]
theorem Dx (t:Tx) (i:Nat) (h:i<(bs t).size):(bs t)[i]=t[i]'(by rw[Bg] at h;exact h):=by
 simp[bs,ByteArray.getElem_eq_getElem_data]
theorem aey {a b:Tx} (h:bs a=bs b):a=b:=by
 have:(bs a).data=(bs b).data:=by rw[h]
 simpa [bs] using this
theorem TD (s:ByteArray):bs s.data.toList=s:=by simp[bs]
theorem BE (a b:Tx):bs a++bs b=bs (a++b):=by
 apply ByteArray.ext
 rw[ByteArray.data_append];simp[bs]
theorem Hp (t:Tx) (i j:Nat):(bs t).extract i j=bs ((t.take j).drop i):=by
 apply ByteArray.ext
 rw[ByteArray.data_extract];simp[bs,agm,List.drop_take]
theorem AL (t:Tx):(bs t).toList=t:=ByteArray.toList_mk t
def Bj (c:UInt8):Bool:=decide (48<=(c.toNat:Int))&&decide ((c.toNat:Int)<=57)
def Ct (c:UInt8):Bool:=decide (97<=(c.toNat:Int))&&decide ((c.toNat:Int)<=122)
def At (t:Tx):Bool:=match t with
 |[a,b]=>decide ((a.toNat:Int)=114)&&decide (48<=(b.toNat:Int))&&decide ((b.toNat:Int)<=51)
 |_=>false
def CI (t:Tx):Bool:=decide (1<=t.length)&&decide (t.length<=3)&&t.all Bj
def Av (t:Tx):Bool:=decide (1<=t.length)&&decide (t.length<=8) && !At t&&t.all (λc=>Ct c||Bj c)&&Ct (t.headD 0)
end Go.Proofs.Cod
namespace Go.Proofs.YtdcacoifehkioaaGreatDoor
open Go.RowKit Go.Proofs.Cod
theorem Aa {p:Prop} (h:p):Hid p:=h
theorem Sr (c:UInt8) (w:Xh):XY Tryz.prog 209 #[.int .u8 c.toNat] w λe w'=>e = .returned (.bool (Ct c))/\w'=w:=by
 unfold Ct;generalize (c.toNat:Int)=x
 go_enter Tryz.func209,Tryz.ntmps209
 go_wp2
 all_goals
  go_ret
  simp_all<;>omega
theorem Su (c:UInt8) (w:Xh):XY Tryz.prog 210 #[.int .u8 c.toNat] w λe w'=>e = .returned (.bool (Bj c))/\w'=w:=by
 unfold Bj;generalize (c.toNat:Int)=x
 go_enter Tryz.func210,Tryz.ntmps210
 go_wp2
 all_goals
  go_ret
  simp_all<;>omega
theorem Kj (t:Tx) (w:Xh):XY Tryz.prog 208 #[.string (bs t)] w λe w'=>e = .returned (.bool (At t))/\w'=w:=by
 have f:=Bg t
 by_cases c:t.length=2
 ·obtain⟨a,b,rfl⟩:∃a b,t=[a,b]:=by
   match t,c with
   |[a,b],_=>exact⟨a,b,rfl⟩
  have i:∀h,(bs [a,b])[0]'h=a:=λh=>Dx _ 0 h;have k:∀h,(bs [a,b])[1]'h=b:=λh=>Dx _ 1 h;have g:(bs [a,b]).size=2:=f;unfold At
  simp only
  go_enter Tryz.func208,Tryz.ntmps208
  go_wp2
  all_goals
   go_ret
   simp_all<;>omega
 ·have j:¬((t.length:Int)=2):=by omega
  have d:At t=false:=by
   match t,c with
   |[],_=>rfl
   |[_],_=>rfl
   |_::_::_::_,_=>rfl
  rw[d]
  go_enter Tryz.func208,Tryz.ntmps208
  go_wp2
  all_goals
   go_ret
   simp_all
theorem LZ {p:UInt8->Bool} {t:Tx} {i:Nat} (h:i<t.length):(t.take (i+1)).all p=((t.take i).all p&&p t[i]):=by
 rw[XR h,List.all_append];simp
theorem Ma {p:UInt8->Bool} {t:Tx} {i:Nat} (h:i<t.length) (a:p t[i]=false):t.all p=false:=by
 rw[List.all_eq_false]
 exact⟨t[i],List.getElem_mem h,by rw[a];simp⟩
theorem acl (t:Tx) (w:Xh):XY Tryz.prog 226 #[.string (bs t)] w λe w'=>e = .returned (.bool (CI t))/\w'=w:=by
 have v:=Bg t
 by_cases j:1<=t.length/\t.length<=3
 ·have b:Hid (CI t=t.all Bj):=by unfold Hid CI;rw[decide_eq_true j.1,decide_eq_true j.2];rfl
  have o:¬((t.length:Int)<1):=by omega
  have f:¬(3<(t.length:Int)):=by omega
  go_enter Tryz.func226,Tryz.ntmps226
  go_wp2_with fail
  go_loopw [14] (λc wr=>∃i:Nat,i<=t.length/\c = .int .i64 i/\(t.take i).all Bj=true/\wr=w) (λc _=>t.length - (intOf c).toNat)
  case atStart=>exact⟨0,Xx _,rfl,by simp,rfl⟩
  case round=>
   obtain⟨i,u,rfl,a,rfl⟩:=hrel
   by_cases m:i<t.length
   ·have s:∀h,(bs t)[i]'h=t[i]:=λh=>Dx t i h;have r:(i:Int)<(t.length:Int):=by omega
    have k:=LZ (p:=Bj) m;have l:=Ma (p:=Bj) m;have d:=Aa (⟨k,l,a⟩:_/\_/\_);clear k l a
    go_wp2_with fail
    refine(Su t[i] _).mono ?_;rintro e x ⟨rfl,rfl⟩
    cases n:Bj t[i] with
    |true=>
     go_wp2_with fail
     go_roundw
     case rel=>exact⟨i+1,by omega,by go_num,by rw[d.out.1,d.out.2.2,n];rfl,by trivial⟩
     case measure=>simp[intOf];omega
    |false=>
     go_wp2_with fail
     go_ret
     exact⟨by rw[b.out,d.out.2.1 n];rfl,rfl⟩
   ·have q:Hid (t.all Bj=true):=by rw[XQ (by omega)] at a;exact a
    clear a
    go_wp2_with fail
    go_ret
    exact⟨by rw[b.out,q.out];rfl,rfl⟩
 ·have b:CI t=false:=by
   unfold CI
   by_cases g:1<=t.length
   ·have f:¬t.length<=3:=λh=>j ⟨g,h⟩;rw[decide_eq_false f];simp
   ·rw[decide_eq_false g];rfl
  rw[b]
  by_cases g:t.length=0
  ·have o:((t.length:Int)<1):=by omega
   go_enter Tryz.func226,Tryz.ntmps226
   go_wp2_with fail
   go_ret
   exact⟨rfl,rfl⟩
  ·have o:¬((t.length:Int)<1):=by omega
   have f:(3<(t.length:Int)):=by omega
   go_enter Tryz.func226,Tryz.ntmps226
   go_wp2_with fail
   go_ret
   exact⟨rfl,rfl⟩
theorem Sq {t:Tx} (a:1<=t.length) (d:t.length<=8) (b:At t=false):Av t=(t.all (λc=>Ct c||Bj c)&&Ct (t.headD 0)):=by
 unfold Av;rw[decide_eq_true a,decide_eq_true d,b];rfl
theorem Ly {t:Tx} (h:¬(1<=t.length/\t.length<=8/\At t=false)):Av t=false:=by
 cases a:Av t with
 |false=>rfl
 |true=>
  unfold Av at a;simp only[Bool.and_eq_true,decide_eq_true_eq,Bool.not_eq_true'] at a;exact absurd ⟨a.1.1.1.1,a.1.1.1.2,a.1.1.2⟩ h
theorem NB (t:Tx) (w:Xh):XY Tryz.prog 183 #[.string (bs t)] w λe w'=>e = .returned (.bool (Av t))/\w'=w:=by
 have C:=Bg t
 by_cases m:1<=t.length/\t.length<=8
 ·have o:¬((t.length:Int)<1):=by omega
  have v:¬(8<(t.length:Int)):=by omega
  have j:=Kj t
  cases f:At t with
  |true=>
   have a:Av t=false:=Ly (λh=>by rw[f] at h;exact absurd h.2.2 (by simp));rw[a];rw[f] at j
   go_enter Tryz.func183,Tryz.ntmps183
   go_wp2_with fail
   refine(j _).mono ?_;rintro e w1 ⟨rfl,rfl⟩
   go_wp2_with fail
   go_ret
   exact⟨rfl,rfl⟩
  |false=>
   have a:Hid (Av t=(t.all (λc=>Ct c||Bj c)&&Ct (t.headD 0))):=Sq m.1 m.2 f;rw[f] at j
   go_enter Tryz.func183,Tryz.ntmps183
   go_wp2_with fail
   refine(j _).mono ?_;rintro e w1 ⟨rfl,rfl⟩
   go_wp2_with fail
   go_loopw [18] (λk wr=>∃i:Nat,i<=t.length/\k = .int .i64 i/\(t.take i).all (λc=>Ct c||Bj c)=true/\wr=w1) (λk _=>t.length - (intOf k).toNat)
   case atStart=>exact⟨0,Xx _,rfl,by simp,rfl⟩
   case round=>
    obtain⟨i,B,rfl,b,rfl⟩:=hrel
    by_cases n:i<t.length
    ·have x:∀h,(bs t)[i]'h=t[i]:=λh=>Dx t i h;have A:(i:Int)<(t.length:Int):=by omega
     have d:=Aa (⟨LZ (p:=λc=>Ct c||Bj c) n,Ma (p:=λc=>Ct c||Bj c) n,b⟩:_/\_/\_);clear b
     go_wp2_with fail
     refine(Sr t[i] _).mono ?_;rintro e z ⟨rfl,rfl⟩
     cases l:Ct t[i] with
     |true=>
      go_wp2_with fail
      go_roundw
      case rel=>exact⟨i+1,by omega,by go_num,by rw[d.out.1,d.out.2.2,l];rfl,by trivial⟩
      case measure=>simp[intOf];omega
     |false=>
      go_wp2_with fail
      refine(Su t[i] _).mono ?_;rintro e w3 ⟨rfl,rfl⟩
      cases q:Bj t[i] with
      |true=>
       go_wp2_with fail
       go_roundw
       case rel=>exact⟨i+1,by omega,by go_num,by rw[d.out.1,d.out.2.2,l,q];rfl,by trivial⟩
       case measure=>simp[intOf];omega
      |false=>
       go_wp2_with fail
       go_ret
       exact⟨by rw[a.out,d.out.2.1 (by rw[l,q];rfl)];rfl,by trivial⟩
    ·have u:Hid (t.all (λc=>Ct c||Bj c)=true):=by rw[XQ (by omega)] at b;exact b
     have s:0<t.length:=by omega
     have x:∀h,(bs t)[0]'h=t[0]:=λh=>Dx t 0 h;have y:Hid (t.headD 0=t[0]):=by
      match t,s with
      |c::r,_=>rfl
     clear b
     go_wp2_with fail
     refine(Sr t[0] _).mono ?_;rintro e z ⟨rfl,rfl⟩
     go_wp2_with fail
     go_ret
     exact⟨by rw[a.out,u.out,y.out];rfl,by trivial⟩
 ·have a:Av t=false:=Ly (λh=>m ⟨h.1,h.2.1⟩);rw[a]
  by_cases g:t.length=0
  ·have o:((t.length:Int)<1):=by omega
   go_enter Tryz.func183,Tryz.ntmps183
   go_wp2_with fail
   go_ret
   exact⟨rfl,rfl⟩
  ·have o:¬((t.length:Int)<1):=by omega
   have v:(8<(t.length:Int)):=by omega
   go_enter Tryz.func183,Tryz.ntmps183
   go_wp2_with fail
   go_ret
   exact⟨rfl,rfl⟩
def Ws (w:Xh) (a:Option Addr) (ts:List Tx):Prop:=
 ∀i,i<ts.length->∃b off,a=some ⟨b,off,none⟩/\b<w.heap.size/\w.cell? ⟨b,off+i,none⟩=some (.string (bs (ts.getD i [])))
theorem Ws.below {w w':Xh} {a:Option Addr} {ts:List Tx} (h:Ws w a ts) (c:Below w.heap.size w w'):Ws w' a ts:=by
 intro i f;obtain⟨b,d,g,e,j⟩:=h i f
 exact⟨b,d,g,by have:=c.size;omega,(c.cell (p:=⟨b,d+i,none⟩) e).trans j⟩
theorem TN {p:Tx->Bool} {ts:List Tx} {i:Nat} (h:i<ts.length):(ts.take (i+1)).all p=((ts.take i).all p&&p (ts.getD i [])):=by
 rw[XR h,List.all_append];simp[h]
theorem TO {p:Tx->Bool} {ts:List Tx} {i:Nat} (h:i<ts.length) (a:p (ts.getD i [])=false):ts.all p=false:=by
 rw[List.all_eq_false]
 exact⟨ts.getD i [],by simp[h],by rw[a];simp⟩
theorem aeO (a:Option Addr) (n cap:Nat) (ts:List Tx) (w:Xh) (q:ts.length=n) (h:Ws w a ts) (l:n<4294967281) :
 XY Tryz.prog 181 #[.slice a n cap] w λe w'=>e = .returned (.bool (ts.all Av))/\w'=w:=by
 go_enter Tryz.func181,Tryz.ntmps181
 go_wp2_with fail
 go_loopw [7] (λf wr=>∃i:Nat,i<=n/\f = .int .i64 i/\(ts.take i).all Av=true/\wr=w) (λf _=>n - (intOf f).toNat)
 case atStart=>exact⟨0,Xx _,rfl,by simp,rfl⟩
 case round=>
  obtain⟨i,m,rfl,c,rfl⟩:=hrel
  by_cases r:i<n
  ·obtain⟨b,o,rfl,_,c0⟩:=h i (by omega);have k:(i:Int)<(n:Int):=by omega
   have d:=Aa (⟨TN (p:=Av) (by omega:i<ts.length),TO (p:=Av) (by omega:i<ts.length),c⟩:_/\_/\_);generalize ts.getD i []=t at c0 d;clear c
   go_wp2_with fail
   refine(NB t _).mono ?_;rintro e s ⟨rfl,rfl⟩
   cases g:Av t with
   |true=>
    go_wp2_with fail
    go_roundw
    case rel=>exact⟨i+1,by omega,by go_num,by rw[d.out.1,d.out.2.2,g];rfl,by trivial⟩
    case measure=>simp[intOf];omega
   |false=>
    go_wp2_with fail
    go_ret
    exact⟨by rw[d.out.2.1 g];rfl,by trivial⟩
  ·have j:Hid (ts.all Av=true):=by rw[XQ (by omega)] at c;exact c
   clear c
   go_wp2_with fail
   go_ret
   exact⟨by rw[j.out];rfl,by trivial⟩
def Cu (t:Tx) (c:Int):Bool:=if c=114 then At t else if c=97\/c=98 then(At t||CI t) else Av t
theorem adq (t:Tx) (c:Int) (w:Xh):XY Tryz.prog 211 #[.string (bs t),.int .u8 c] w λe w'=>e = .returned (.bool (Cu t c))/\w'=w:=by
 by_cases d:c=114
 ·subst d;have a:Cu t 114=At t:=rfl;rw[a]
  go_enter Tryz.func211,Tryz.ntmps211
  go_wp2_with fail
  refine(Kj t _).mono ?_;rintro e g ⟨rfl,rfl⟩
  go_wp2_with fail
  go_ret
  exact⟨rfl,rfl⟩
 ·by_cases b:c=97\/c=98
  ·have a:Hid (Cu t c=(At t||CI t)):=by unfold Hid Cu;rw[if_neg d,if_pos b]
   have key:XY Tryz.prog 211 #[.string (bs t),.int .u8 c] w λe w'=>e = .returned (.bool (At t||CI t))/\w'=w:=by
    rcases b with rfl|rfl
    all_goals
     go_enter Tryz.func211,Tryz.ntmps211
     go_wp2_with fail
     refine(Kj t _).mono ?_;rintro e g ⟨rfl,rfl⟩
     cases f:At t with
     |true=>
      go_wp2_with fail
      go_ret
      exact⟨by rw[f];rfl,by trivial⟩
     |false=>
      go_wp2_with fail
      refine(acl t _).mono ?_;rintro e w3 ⟨rfl,rfl⟩
      go_wp2_with fail
      go_ret
      exact⟨by rw[f];rfl,by trivial⟩
   rw[a.out];exact key
  ·have a:Cu t c=Av t:=by unfold Cu;rw[if_neg d,if_neg b]
   rw[a];have j:¬(c=97):=λh=>b (.inl h);have i:¬(c=98):=λh=>b (.inr h)
   go_enter Tryz.func211,Tryz.ntmps211
   go_wp2_with fail
   refine(NB t _).mono ?_;rintro e g ⟨rfl,rfl⟩
   go_wp2_with fail
   go_ret
   exact⟨rfl,rfl⟩
def Iz:Tx:=[118,97,114]
def IA:Tx:=[102,108,97,103]
def JI:Tx:=[108,111,99,107]
def tabC (l:List (Tx×Xk)):Array Xk:=(l.flatMap λp=>[.string (bs p.1),p.2]).toArray
theorem Pa (l:List (Tx×Xk)):(tabC l).size=2*l.length:=by
 unfold tabC;simp
 induction l with
 |nil=>rfl
 |cons p l a=>simp[XO,a];omega
theorem adk (l:List (Tx×Xk)) (i:Nat):(l.flatMap λp=>[Value.string (bs p.1),p.2]).drop (i*2)=(l.drop i).flatMap λp=>[Value.string (bs p.1),p.2]:=by
 induction l generalizing i with
 |nil=>simp
 |cons p l a=>
  cases i with
  |zero=>simp
  |succ i=>rw[XO,show (i+1)*2=i*2+2 by omega];simpa using a i
theorem Vd {l:List (Tx×Xk)} {i:Nat} {p:Tx×Xk} (h:l[i]?=some p):(tabC l).extract (i*2) (i*2+2) = #[.string (bs p.1),p.2]:=by
 unfold tabC;obtain⟨a,rfl⟩:=Xf.1 h;rw[List.extract_toArray]
 congr 1
 rw[agm,adk,List.drop_eq_getElem_cons a,XO];have:i*2+2 - i*2=2:=by omega
 rw[this];rfl
theorem TE {s t:Tx} (h:¬s=t):((bs s).toList == (bs t).toList)=false:=by rw[AL,AL];simpa using h
def HH (l:List (Tx×Xk)) (t:Tx):Option Xk:=(l.find? λp=>p.1=t).map (·.2)
theorem Pc {l:List (Tx×Xk)} {t:Tx} (h:∀(j:Nat) (p:Tx×Xk),l[j]?=some p->p.1≠t):HH l t=none:=by
 unfold HH;rw[List.find?_eq_none.2];·rfl
 intro p b;obtain⟨j,a⟩:=List.getElem?_of_mem b
 simpa using h j p a
theorem Pb {l:List (Tx×Xk)} {i:Nat} {p:Tx×Xk} (a:l[i]?=some p) (h:∀(j:Nat) (q:Tx×Xk),j<i->l[j]?=some q->q.1≠p.1):HH l p.1=some p.2:=by
 unfold HH;have:l.find? (λq=>q.1=p.1)=some p:=by
  rw[List.find?_eq_some_iff_getElem];obtain⟨b,e⟩:=Xf.1 a;refine⟨by simp,i,b,e,λj c=>?_⟩
  simpa using h j l[j] c (Xe (by omega))
 rw[this];rfl
theorem Ql {P:Program} {t e:TypeId} {n:Nat} {l:List (Tx×Xk)} {i:Nat} {p:Tx×Xk} (a:l[i]?=some p) {w:Xh} (g:P.underlying t=some (.array n e)) (j:l.length=n) (b:(sizeOf e).run P w = .ok 2 w) (d:(isAgg e).run P w = .ok true w) :
 (Instr.index t (.agg (tabC l)) (.int .i64 i)).run P w = .ok (.agg #[.string (bs p.1),p.2]) w:=by
 have k:i<n:=by obtain⟨h,_⟩:=Xf.1 a;omega
 have f:(0:Int)<=i/\(i:Int)<n:=by omega
 have c:¬(n<=i):=by omega
 simp[Instr.index,run_underlying g,asIntOf,f,c,part,b,d,go_sem,Vd a]
def Hm:List (Tx×Xk):=[(Iz,.int .u8 118),(IA,.int .u8 102),(JI,.int .u8 109)]
def GV (w:Xh):Prop:=∃fr,w.heap[2]?=some (.cells (tabC Hm) 291 fr)
def Di (t:Tx):Int:=if Iz=t then 118 else if IA=t then 102 else if JI=t then 109 else 0
theorem acQ (t:Tx):Value.int .u8 (Di t)=(HH Hm t).getD (.int .u8 0):=by
 unfold Di HH Hm;simp only[List.find?_cons]
 by_cases a:Iz=t
 ·simp[a]
 ·by_cases b:IA=t
  ·simp[a,b]
  ·by_cases c:JI=t
   ·simp[a,b,c]
   ·simp[a,b,c]
theorem acR {i:Nat} {p:Tx×Xk} (h:Hm[i]?=some p):∃c,p.2 = .int .u8 c:=by
 have:=Xz h;simp[Hm] at this
 rcases this with rfl|rfl|rfl<;>exact⟨_,rfl⟩
attribute [irreducible] tabC
def Uf (l:List (Tx×Xk)) (p:Xk->Prop):Prop:=∀(i:Nat) (q:Tx×Xk),l[i]?=some q->p q.2
theorem acO (t:Tx) (w:Xh) (h:GV w):XY Tryz.prog 142 #[.string (bs t)] w λe w'=>e = .returned (.int .u8 (Di t))/\Below w.heap.size w w':=by
 obtain⟨fr,h⟩:=h;rw[acQ];have o:Hm.length=3:=rfl;have u:Uf Hm (λv=>∃c,v = .int .u8 c):=λi q g=>acR g;generalize Hm=l at *
 go_enter Tryz.func142,Tryz.ntmps142
 go_wp2_with (refine wpList_load_row rfl _ _ rfl 2 rfl _ _ fr _ h Tryz.underlying291 rfl (by rw[Pa,o];kernel_rfl) ?_)
 go_loopw [6] (λm wr=>∃i:Nat,i<=3/\m = .int .i64 i/\(∀(j:Nat) (p:Tx×Xk),j<i->l[j]?=some p->p.1≠t)/\Below w.heap.size w wr) (λm _=>3 - (intOf m).toNat)
 case atStart=>exact⟨0,by omega,rfl,λj p r=>by omega,Below.refl _ _⟩
 case round=>
  obtain⟨i,B,rfl,d,f⟩:=hrel
  by_cases z:i<3
  ·have A:(i:Int)<3:=by omega
   obtain⟨⟨s,v⟩,b⟩:∃p,l[i]?=some p:=⟨l[i],Xe (by omega)⟩;obtain⟨c,n⟩:=u i _ b;have n:v = .int .u8 c:=n;subst n;have D:=Ql b (w:=wr) Tryz.underlying291 o (by kernel_rfl) (by kernel_rfl);have x:=(f.alloc f.size (.cells #[.string (bs s),.int .u8 c] 290));have a:=Aa (⟨d,x,Pb b⟩:_/\_/\_);clear d f
   by_cases k:s=t
   ·subst k
    go_wp2_with fail
    go_ret
    refine⟨?_,a.out.2.1⟩;rw[a.out.2.2 a.out.1];rfl
   ·have C:=TE k
    go_wp2_with fail
    go_roundw
    case rel=>
     refine⟨i+1,by omega,by go_num,λj q r g=>?_,a.out.2.1⟩
     by_cases y:j=i
     ·subst y;rw[b] at g;cases g;exact k
     ·exact a.out.1 j q (by omega) g
    case measure=>simp[intOf];omega
  ·have a:=Aa (⟨d,f,Pc (l:=l) (t:=t) λj p b=>d j p (by obtain⟨h,_⟩:=Xf.1 b;omega) b⟩:_/\_/\_);clear d f
   go_wp2_with fail
   go_ret
   refine⟨?_,a.out.2.1⟩;rw[a.out.2.2];rfl
def Bb:List (Tx×Tx):=[([115,101,116],[114,97]),([97,100,100],[114,97,98]),([115,117,98],[114,97,98]),([109,117,108],[114,97,98]),([108,111,97,100],[114,118]),([115,116,111,114,101],[118,97]),([103,101,116],[114,102]),([112,117,116],[102,97]),([108,111,99,107],[109]),([117,110,108,111,99,107],[109]),([115,112,97,119,110],[116]),([106,111,105,110],[116]),([106,117,109,112],[108]),([106,101,113],[97,98,108]),([106,108,116],[97,98,108]),([99,104,101,99,107],[97,98]),([101,110,100],[])]
def ID:List (Tx×Xk):=Bb.map λp=>(p.1,.string (bs p.2))
def GT (w:Xh):Prop:=∃fr,w.heap[3]?=some (.cells (tabC ID) 312 fr)
def Df (t:Tx):Option Tx:=(Bb.find? λp=>p.1=t).map (·.2)
theorem aaJ (t:Tx):HH ID t=(Df t).map λp=>.string (bs p):=by
 unfold HH Df ID;rw[List.find?_map]
 cases h:List.find? (λp=>decide (p.1=t)) Bb with
 |none=>simp[Function.comp_def,h]
 |some p=>simp[Function.comp_def,h]
theorem aaK (t:Tx) (w:Xh) (h:GT w):XY Tryz.prog 184 #[.string (bs t)] w λe w'=>e = .returned (.tuple #[.string (bs ((Df t).getD [])),.bool (Df t).isSome])/\Below w.heap.size w w':=by
 obtain⟨fr,h⟩:=h;have u:=Aa (aaJ t);have x:ID.length=17:=rfl;have z:Uf ID (λv=>∃c,v = .string (bs c)):=λi q a=>by
  obtain⟨p,_,rfl⟩:=List.mem_map.1 (Xz a)
  exact⟨_,rfl⟩
 generalize ID=l at *
 go_enter Tryz.func184,Tryz.ntmps184
 go_wp2_with (refine wpList_load_row rfl _ _ rfl 3 rfl _ _ fr _ h Tryz.underlying312 rfl (by rw[Pa,x];kernel_rfl) ?_)
 go_loopw [7] (λn wr=>∃i:Nat,i<=17/\n = .int .i64 i/\(∀(j:Nat) (p:Tx×Xk),j<i->l[j]?=some p->p.1≠t)/\Below w.heap.size w wr) (λn _=>17 - (intOf n).toNat)
 case atStart=>exact⟨0,by omega,rfl,λj p y=>by omega,Below.refl _ _⟩
 case round=>
  obtain⟨i,E,rfl,f,g⟩:=hrel
  by_cases C:i<17
  ·have D:(i:Int)<17:=by omega
   obtain⟨⟨s,v⟩,d⟩:∃p,l[i]?=some p:=⟨l[i],Xe (by omega)⟩;obtain⟨c,o⟩:=z i _ d;have o:v = .string (bs c):=o;subst o;have G:=Ql d (w:=wr) Tryz.underlying312 x (by kernel_rfl) (by kernel_rfl);have A:=(g.alloc g.size (.cells #[.string (bs s),.string (bs c)] 311));have b:=Aa (⟨f,A,Pb d⟩:_/\_/\_);clear f g
   by_cases m:s=t
   ·subst m;have k:Df s=some c:=by
     have e:=u.out;rw[b.out.2.2 b.out.1] at e
     cases a:Df s with
     |none=>rw[a] at e;cases e
     |some r=>
      rw[a] at e;have e:bs c=bs r:=by simpa using e
      have:=congrArg ByteArray.toList e;rw[AL,AL] at this;rw[this]
    go_wp2_with fail
    go_ret2
    exact⟨by first|rfl|(rw[k];rfl),b.out.2.1⟩
   ·have F:=TE m
    go_wp2_with fail
    go_roundw
    case rel=>
     refine⟨i+1,by omega,by go_num,λj q y a=>?_,b.out.2.1⟩
     by_cases B:j=i
     ·subst B;rw[d] at a;cases a;exact m
     ·exact b.out.1 j q (by omega) a
    case measure=>simp[intOf];omega
  ·have b:=Aa (⟨f,g,Pc (l:=l) (t:=t) λj p d=>f j p (by obtain⟨h,_⟩:=Xf.1 d;omega) d⟩:_/\_/\_);have k:Df t=none:=by
    have e:=u.out;rw[b.out.2.2] at e
    cases a:Df t with
    |none=>rfl
    |some r=>rw[a] at e;cases e
   clear f g
   go_wp2_with fail
   go_ret2
   exact⟨by first|rfl|(rw[k];rfl),b.out.2.1⟩
end Go.Proofs.YtdcacoifehkioaaGreatDoor
namespace Go.Proofs
open Go.Shelf
shelf_lay LaysM.n171 Nm 171 at Tryz as Tryz.laysM171
end Go.Proofs
namespace Go.Proofs.YtdcacoifehkioaaGreatDoor
open Go.RowKit Go.Shelf Go.Proofs.Cod
theorem Tryz.powG:Tryz.prog.globalNamed "internal/strconv.uint64pow10" = some 5:=by kernel_rfl
structure Cn (w:Xh) (B:Nat):Prop where
 heads:GV w
 shapes:GT w
 pow:Lib.TabIs Tryz.prog w "internal/strconv.uint64pow10" .u64 Lib.pow10Tab
 lt:6<=B
theorem Cn.keep {w w':Xh} {B:Nat} (h:Cn w B) (b:Below B w w'):Cn w' B:=by
 have c:=h.lt;refine⟨?_,?_,?_,c⟩
 ·obtain⟨fr,q⟩:=h.heads
  exact⟨fr,(b.block _ (by show 2<B;omega)).trans q⟩
 ·obtain⟨fr,q⟩:=h.shapes
  exact⟨fr,(b.block _ (by show 3<B;omega)).trans q⟩
 have a:=h.pow;unfold Lib.TabIs World.var? at a |-;rw[Tryz.powG] at a |-;simp only[Option.bind_some] at a |-;rw[b.block 5 (by omega)];exact a
theorem Cn.mono {w:Xh} {B a:Nat} (h:Cn w B) (b:B<=a):Cn w a:=⟨h.heads,h.shapes,h.pow,Nat.le_trans h.lt b⟩
theorem IM (n:Int) (c : -9223372036854775808<=n) (b:n<=9223372036854775807) (w:Xh) {B:Nat} (d:Cn w B):XY Tryz.prog 72 #[.int .i64 n] w λe w'=>e = .returned (.string (bs (Lib.itoa n)))/\Below w.heap.size w w':=by
 refine(Any.strconv_Itoa Tryz.laysM171 n c b w d.pow).mono ?_;rintro e w' ⟨rfl,k,a,rfl⟩
 exact⟨rfl,Lib.below_grow w.heap.size w (Nat.le_refl _) k a⟩
end Go.Proofs.YtdcacoifehkioaaGreatDoor
namespace Go.Proofs.YtdcacoifehkioaaGreatDoor
open Go.RowKit Go.Proofs.Cod
def Bi:List Tx->Tx->Bool
 |[],[]=>true
 |t::ts,c::ps=>Cu t (c.toNat:Int)&&Bi ts ps
 |_,_=>false
theorem LG {ts:List Tx} {ps:Tx} (h:ts.length≠ps.length):Bi ts ps=false:=by
 induction ts generalizing ps with
 |nil=>cases ps with
  |nil=>simp at h
  |cons c ps=>rfl
 |cons t ts a=>cases ps with
  |nil=>rfl
  |cons c ps=>simp only[Bi];rw[a (by simpa using h)];simp
theorem ado {ts:List Tx} {ps:Tx} {i:Nat} (a:i<ts.length) (b:i<ps.length) (h:Cu (ts.getD i []) ((ps[i]'b).toNat:Int)=false):Bi ts ps=false:=by
 induction ts generalizing ps i with
 |nil=>simp at a
 |cons t ts d=>cases ps with
  |nil=>rfl
  |cons c ps=>
   cases i with
   |zero=>simp only[Bi];simp at h;rw[h];rfl
   |succ i=>simp only[Bi];rw[d (by simpa using a) (by simpa using b) (by simpa using h)];simp
theorem adn {ts:List Tx} {ps:Tx} (a:ts.length=ps.length) (h:∀i (b:i<ps.length),Cu (ts.getD i []) ((ps[i]'b).toNat:Int)=true):Bi ts ps=true:=by
 induction ts generalizing ps with
 |nil=>cases ps with
  |nil=>rfl
  |cons c ps=>simp at a
 |cons t ts e=>cases ps with
  |nil=>simp at a
  |cons c ps=>
   simp only[Bi];have d:=h 0 (by simp)
   simp at d
   rw[d,e (by simpa using a) (λi b=>h (i+1) (by simpa using b))];rfl
theorem adm (a:Option Addr) (n cap:Nat) (ts:List Tx) (ps:Tx) (w:Xh) (G:ts.length=n) (x:Ws w a ts) (E:n<4294967281) (H:ps.length<4294967281) :
 XY Tryz.prog 185 #[.slice a n cap,.string (bs ps)] w λe w'=>e = .returned (.bool (Bi ts ps))/\w'=w:=by
 have r:=Aa (Bg ps)
 by_cases f:n=ps.length
 ·have y:(bs ps).size=n:=by rw[r.out,f]
  replace f:=Aa f
  go_enter Tryz.func185,Tryz.ntmps185
  go_wp2_with fail
  go_loopw [14] (λp wr=>∃i:Nat,i<=n/\p = .int .i64 i/\(∀j (d:j<ps.length),j<i->Cu (ts.getD j []) ((ps[j]'d).toNat:Int)=true)/\wr=w) (λp _=>n - (intOf p).toNat)
  case atStart=>exact⟨0,Xx _,rfl,λj _ h=>by omega,rfl⟩
  case round=>
   obtain⟨i,B,rfl,g,rfl⟩:=hrel
   by_cases z:i<n
   ·obtain⟨b,F,rfl,_,c0⟩:=x i (by omega);have A:(i:Int)<(n:Int):=by omega
    have m:i<ps.length:=by have:=f.out;omega
    have u:=Dx ps i (by omega);have D:=Aa m;have k:=Aa (⟨g,ado (ts:=ts) (ps:=ps) (i:=i) (by omega) m⟩:_/\_);generalize q:ts.getD i []=t at c0 k;generalize l:ps[i]=c at u k;clear g m;replace q:=Aa q;replace l:=Aa l
    go_wp2_with fail
    refine(adq t c.toNat _).mono ?_;rintro e I ⟨rfl,rfl⟩
    cases s:Cu t c.toNat with
    |true=>
     go_wp2_with fail
     go_roundw
     case rel=>
      refine⟨i+1,by omega,by go_num,λj d J=>?_,by trivial⟩
      by_cases v:j=i
      ·subst v;have e:(ps[j]'d)=c:=l.out;rw[q.out,e];exact s
      ·exact k.out.1 j d (by omega)
     case measure=>simp[intOf];omega
    |false=>
     go_wp2_with fail
     go_ret
     exact⟨by rw[k.out.2 s];rfl,by trivial⟩
   ·have o:Hid (Bi ts ps=true):=adn (by have:=f.out;omega) λj d=>g j d (by have:=f.out;omega);clear g
    go_wp2_with fail
    go_ret
    exact⟨by rw[o.out];rfl,by trivial⟩
 ·have o:Hid (Bi ts ps=false):=LG (by omega);have C:¬((n:Int)=(bs ps).size):=by have:=r.out;omega
  go_enter Tryz.func185,Tryz.ntmps185
  go_wp2_with fail
  go_ret
  exact⟨by rw[o.out];rfl,rfl⟩
def De (t:Tx):Nat:=match t with
 |[_,b]=>b.toNat - 48
 |_=>0
theorem NA {t:Tx} (h:At t=true):∃a b:UInt8,t=[a,b]/\(48:Int)<=b.toNat/\(b.toNat:Int)<=51:=by
 match t,h with
 |[a,b],h=>
  simp[At] at h
  exact⟨a,b,rfl,by omega,by omega⟩
theorem QC (t:Tx) (h:At t=true) (w:Xh):XY Tryz.prog 212 #[.string (bs t)] w λe w'=>e = .returned (.int .i64 (De t))/\w'=w:=by
 obtain⟨a,b,rfl,i,g⟩:=NA h;have c:=Bg [a,b];have d:=Dx [a,b] 1 (by rw[c];simp);have d:(bs [a,b])[1]'(by rw[c];simp)=b:=d;have c:(bs [a,b]).size=2:=c;have f:Hid ((De [a,b]:Int)=(b.toNat:Int) - 48):=by unfold Hid;simp only[De];omega
 go_enter Tryz.func212,Tryz.ntmps212
 go_wp2
 go_ret
 refine⟨?_,rfl⟩;rw[f.out]
 rfl
end Go.Proofs.YtdcacoifehkioaaGreatDoor
namespace Go.Proofs.Ord
structure Ev where
 thread:Int
 kind:Int
 obj:Int
 value:Int
def Ev.zero:Ev:=⟨0,0,0,0⟩
def ev (l:List Ev) (k:Nat):Ev:=l.getD k Ev.zero
def Lt (a b:Ev):Bool:=
 a.thread == b.thread||(a.kind == 6&&b.kind == 5&&a.obj == b.obj)||(a.kind == 4&&b.kind == 3&&a.obj == b.obj)||(a.kind == 7&&a.obj == b.thread)||(b.kind == 8&&b.obj == a.thread)
def row (l:Nat->Ev) (i:Nat):Nat->List Bool
 |0=>[]
 |n+1=>row l i n++[decide (i<n)&&(Lt (l i) (l n)||(YB n).any λk=>decide (i<k)&&((row l i n).getD k false&&Lt (l k) (l n)))]
def bef (l:Nat->Ev) (i j:Nat):Bool:=(row l i (j+1)).getD j false
def part (l:Nat->Ev) (i j k:Nat):Bool:=Lt (l i) (l j)||(YB k).any λq=>decide (i<q)&&(bef l i q&&Lt (l q) (l j))
end Go.Proofs.Ord
namespace Go.Proofs.YtdcacoifehkioaaGreatDoor
open Go.RowKit Go.Proofs.Ord
theorem aa3 {p:Prop} (h:p):Hid p:=h
end Go.Proofs.YtdcacoifehkioaaGreatDoor
