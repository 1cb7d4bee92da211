import Derived.Test.YtdcacoifehkioaaGreatDoorChecked
import Derived.Laws.Strings
import Derived.WalkKit
import Derived.ProofKit
import Derived.Below
import Derived.Laws.Rows
import Derived.Shelf.Lay
import Derived.Shelf.Strconv.Itoa3
import Derived.Lib.SmallJoins
import Derived.Lib.AppendIntMem
import Derived.Lib.ItoaLen
open List renaming extract_eq_take_drop->agF,take_succ_eq_append_getElem->XQ,take_of_length_le->XM,flatMap_cons->XL,getElem?_eq_some_iff->Xf,getElem?_eq_getElem->Xe,mem_of_getElem?->XA,range->YB
open Go renaming World->Xh,Calls->XX,Value->Xk
open Nat renaming zero_le->Xw
set_option maxHeartbeats 1000000
set_option maxRecDepth 100000
set_option linter.unusedVariables false
set_option linter.unusedSimpArgs false
namespace Go.Proofs.Cod
abbrev Tx:=List UInt8
def bs (t:Tx):ByteArray:=⟨t.toArray⟩
theorem Ba (t:Tx):(bs t).size=t.length:=by simp[bs,ByteArray.size]
theorem Dj (t:Tx) (i:Nat) (h:i<(bs t).size):(bs t)[i]=t[i]'(by rw[Ba] at h;exact h):=by
 simp[bs,ByteArray.getElem_eq_getElem_data]
theorem aeI {a b:Tx} (h:bs a=bs b):a=b:=by
 have:(bs a).data=(bs b).data:=by rw[h]
 simpa [bs] using this
theorem Ol (s:ByteArray):bs s.data.toList=s:=by simp[bs]
theorem Bx (a b:Tx):bs a++bs b=bs (a++b):=by
 apply ByteArray.ext
 rw[ByteArray.data_append];simp[bs]
theorem GO (t:Tx) (i j:Nat):(bs t).extract i j=bs ((t.take j).drop i):=by
 apply ByteArray.ext
 rw[ByteArray.data_extract];simp[bs,agF,List.drop_take]
theorem AK (t:Tx):(bs t).toList=t:=ByteArray.toList_mk t
def Bn (c:UInt8):Bool:=decide (48<=(c.toNat:Int))&&decide ((c.toNat:Int)<=57)
def Cx (c:UInt8):Bool:=decide (97<=(c.toNat:Int))&&decide ((c.toNat:Int)<=122)
def As (t:Tx):Bool:=match t with
 |[a,b]=>decide ((a.toNat:Int)=114)&&decide (48<=(b.toNat:Int))&&decide ((b.toNat:Int)<=51)
 |_=>false
def CK (t:Tx):Bool:=decide (1<=t.length)&&decide (t.length<=3)&&t.all Bn
def Aw (t:Tx):Bool:=decide (1<=t.length)&&decide (t.length<=8) && !As t&&t.all (λc=>Cx c||Bn c)&&Cx (t.headD 0)
end Go.Proofs.Cod
namespace Go.Proofs.YtdcacoifehkioaaGreatDoor
open Go.RowKit Go.Proofs.Cod
theorem Aa {p:Prop} (h:p):Hid p:=h
theorem SE (c:UInt8) (w:Xh):XX Tryz.prog 209 #[.int .u8 c.toNat] w λe w'=>e = .returned (.bool (Cx c))/\w'=w:=by
 unfold Cx;generalize (c.toNat:Int)=x
 go_enter Tryz.func209,Tryz.ntmps209
 go_wp2
 all_goals
  go_ret
  simp_all<;>omega
theorem SH (c:UInt8) (w:Xh):XX Tryz.prog 210 #[.int .u8 c.toNat] w λe w'=>e = .returned (.bool (Bn c))/\w'=w:=by
 unfold Bn;generalize (c.toNat:Int)=x
 go_enter Tryz.func210,Tryz.ntmps210
 go_wp2
 all_goals
  go_ret
  simp_all<;>omega
theorem Kn (t:Tx) (w:Xh):XX Tryz.prog 208 #[.string (bs t)] w λe w'=>e = .returned (.bool (As t))/\w'=w:=by
 have f:=Ba t
 by_cases c:t.length=2
 ·obtain⟨a,b,rfl⟩:∃a b,t=[a,b]:=by
   match t,c with
   |[a,b],_=>exact⟨a,b,rfl⟩
  have k:∀h,(bs [a,b])[0]'h=a:=λh=>Dj _ 0 h;have j:∀h,(bs [a,b])[1]'h=b:=λh=>Dj _ 1 h;have g:(bs [a,b]).size=2:=f;unfold As
  simp only
  go_enter Tryz.func208,Tryz.ntmps208
  go_wp2
  all_goals
   go_ret
   simp_all<;>omega
 ·have i:¬((t.length:Int)=2):=by omega
  have d:As t=false:=by
   match t,c with
   |[],_=>rfl
   |[_],_=>rfl
   |_::_::_::_,_=>rfl
  rw[d]
  go_enter Tryz.func208,Tryz.ntmps208
  go_wp2
  all_goals
   go_ret
   simp_all
theorem LX {p:UInt8->Bool} {t:Tx} {i:Nat} (h:i<t.length):(t.take (i+1)).all p=((t.take i).all p&&p t[i]):=by
 rw[XQ h,List.all_append];simp
theorem LY {p:UInt8->Bool} {t:Tx} {i:Nat} (h:i<t.length) (a:p t[i]=false):t.all p=false:=by
 rw[List.all_eq_false]
 exact⟨t[i],List.getElem_mem h,by rw[a];simp⟩
theorem acr (t:Tx) (w:Xh):XX Tryz.prog 226 #[.string (bs t)] w λe w'=>e = .returned (.bool (CK t))/\w'=w:=by
 have x:=Ba t
 by_cases j:1<=t.length/\t.length<=3
 ·have b:Hid (CK t=t.all Bn):=by unfold Hid CK;rw[decide_eq_true j.1,decide_eq_true j.2];rfl
  have o:¬((t.length:Int)<1):=by omega
  have c:¬(3<(t.length:Int)):=by omega
  go_enter Tryz.func226,Tryz.ntmps226
  go_wp2_with fail
  go_loopw [14] (λd wr=>∃i:Nat,i<=t.length/\d = .int .i64 i/\(t.take i).all Bn=true/\wr=w) (λd _=>t.length - (intOf d).toNat)
  case atStart=>exact⟨0,Xw _,rfl,by simp,rfl⟩
  case round=>
   obtain⟨i,v,rfl,a,rfl⟩:=hrel
   by_cases n:i<t.length
   ·have s:∀h,(bs t)[i]'h=t[i]:=λh=>Dj t i h;have r:(i:Int)<(t.length:Int):=by omega
    have l:=LX (p:=Bn) n;have k:=LY (p:=Bn) n;have f:=Aa (⟨l,k,a⟩:_/\_/\_);clear l k a
    go_wp2_with fail
    refine(SH t[i] _).mono ?_;rintro e u ⟨rfl,rfl⟩
    cases m:Bn t[i] with
    |true=>
     go_wp2_with fail
     go_roundw
     case rel=>exact⟨i+1,by omega,by go_num,by rw[f.out.1,f.out.2.2,m];rfl,by trivial⟩
     case measure=>simp[intOf];omega
    |false=>
     go_wp2_with fail
     go_ret
     exact⟨by rw[b.out,f.out.2.1 m];rfl,rfl⟩
   ·have q:Hid (t.all Bn=true):=by rw[XM (by omega)] at a;exact a
    clear a
    go_wp2_with fail
    go_ret
    exact⟨by rw[b.out,q.out];rfl,rfl⟩
 ·have b:CK t=false:=by
   unfold CK
   by_cases g:1<=t.length
   ·have c:¬t.length<=3:=λh=>j ⟨g,h⟩;rw[decide_eq_false c];simp
   ·rw[decide_eq_false g];rfl
  rw[b]
  by_cases g:t.length=0
  ·have o:((t.length:Int)<1):=by omega
   go_enter Tryz.func226,Tryz.ntmps226
   go_wp2_with fail
   go_ret
   exact⟨rfl,rfl⟩
  ·have o:¬((t.length:Int)<1):=by omega
   have c:(3<(t.length:Int)):=by omega
   go_enter Tryz.func226,Tryz.ntmps226
   go_wp2_with fail
   go_ret
   exact⟨rfl,rfl⟩
theorem SD {t:Tx} (b:1<=t.length) (d:t.length<=8) (a:As t=false):Aw t=(t.all (λc=>Cx c||Bn c)&&Cx (t.headD 0)):=by
 unfold Aw;rw[decide_eq_true b,decide_eq_true d,a];rfl
theorem Lx {t:Tx} (h:¬(1<=t.length/\t.length<=8/\As t=false)):Aw t=false:=by
 cases a:Aw t with
 |false=>rfl
 |true=>
  unfold Aw at a;simp only[Bool.and_eq_true,decide_eq_true_eq,Bool.not_eq_true'] at a;exact absurd ⟨a.1.1.1.1,a.1.1.1.2,a.1.1.2⟩ h
theorem NG (t:Tx) (w:Xh):XX Tryz.prog 183 #[.string (bs t)] w λe w'=>e = .returned (.bool (Aw t))/\w'=w:=by
 have B:=Ba t
 by_cases l:1<=t.length/\t.length<=8
 ·have q:¬((t.length:Int)<1):=by omega
  have v:¬(8<(t.length:Int)):=by omega
  have f:=Kn t
  cases j:As t with
  |true=>
   have a:Aw t=false:=Lx (λh=>by rw[j] at h;exact absurd h.2.2 (by simp));rw[a];rw[j] at f
   go_enter Tryz.func183,Tryz.ntmps183
   go_wp2_with fail
   refine(f _).mono ?_;rintro e w1 ⟨rfl,rfl⟩
   go_wp2_with fail
   go_ret
   exact⟨rfl,rfl⟩
  |false=>
   have a:Hid (Aw t=(t.all (λc=>Cx c||Bn c)&&Cx (t.headD 0))):=SD l.1 l.2 j;rw[j] at f
   go_enter Tryz.func183,Tryz.ntmps183
   go_wp2_with fail
   refine(f _).mono ?_;rintro e w1 ⟨rfl,rfl⟩
   go_wp2_with fail
   go_loopw [18] (λm wr=>∃i:Nat,i<=t.length/\m = .int .i64 i/\(t.take i).all (λc=>Cx c||Bn c)=true/\wr=w1) (λm _=>t.length - (intOf m).toNat)
   case atStart=>exact⟨0,Xw _,rfl,by simp,rfl⟩
   case round=>
    obtain⟨i,A,rfl,b,rfl⟩:=hrel
    by_cases o:i<t.length
    ·have u:∀h,(bs t)[i]'h=t[i]:=λh=>Dj t i h;have C:(i:Int)<(t.length:Int):=by omega
     have d:=Aa (⟨LX (p:=λc=>Cx c||Bn c) o,LY (p:=λc=>Cx c||Bn c) o,b⟩:_/\_/\_);clear b
     go_wp2_with fail
     refine(SE t[i] _).mono ?_;rintro e x ⟨rfl,rfl⟩
     cases k:Cx t[i] with
     |true=>
      go_wp2_with fail
      go_roundw
      case rel=>exact⟨i+1,by omega,by go_num,by rw[d.out.1,d.out.2.2,k];rfl,by trivial⟩
      case measure=>simp[intOf];omega
     |false=>
      go_wp2_with fail
      refine(SH t[i] _).mono ?_;rintro e w3 ⟨rfl,rfl⟩
      cases n:Bn t[i] with
      |true=>
       go_wp2_with fail
       go_roundw
       case rel=>exact⟨i+1,by omega,by go_num,by rw[d.out.1,d.out.2.2,k,n];rfl,by trivial⟩
       case measure=>simp[intOf];omega
      |false=>
       go_wp2_with fail
       go_ret
       exact⟨by rw[a.out,d.out.2.1 (by rw[k,n];rfl)];rfl,by trivial⟩
    ·have z:Hid (t.all (λc=>Cx c||Bn c)=true):=by rw[XM (by omega)] at b;exact b
     have y:0<t.length:=by omega
     have u:∀h,(bs t)[0]'h=t[0]:=λh=>Dj t 0 h;have s:Hid (t.headD 0=t[0]):=by
      match t,y with
      |c::r,_=>rfl
     clear b
     go_wp2_with fail
     refine(SE t[0] _).mono ?_;rintro e x ⟨rfl,rfl⟩
     go_wp2_with fail
     go_ret
     exact⟨by rw[a.out,z.out,s.out];rfl,by trivial⟩
 ·have a:Aw t=false:=Lx (λh=>l ⟨h.1,h.2.1⟩);rw[a]
  by_cases g:t.length=0
  ·have q:((t.length:Int)<1):=by omega
   go_enter Tryz.func183,Tryz.ntmps183
   go_wp2_with fail
   go_ret
   exact⟨rfl,rfl⟩
  ·have q:¬((t.length:Int)<1):=by omega
   have v:(8<(t.length:Int)):=by omega
   go_enter Tryz.func183,Tryz.ntmps183
   go_wp2_with fail
   go_ret
   exact⟨rfl,rfl⟩
def Ws (w:Xh) (a:Option Addr) (ts:List Tx):Prop:=
 ∀i,i<ts.length->∃b off,a=some ⟨b,off,none⟩/\b<w.heap.size/\w.cell? ⟨b,off+i,none⟩=some (.string (bs (ts.getD i [])))
theorem Ws.below {w w':Xh} {a:Option Addr} {ts:List Tx} (h:Ws w a ts) (c:Below w.heap.size w w'):Ws w' a ts:=by
 intro i f;obtain⟨b,d,g,e,j⟩:=h i f
 exact⟨b,d,g,by have:=c.size;omega,(c.cell (p:=⟨b,d+i,none⟩) e).trans j⟩
theorem Ub {p:Tx->Bool} {ts:List Tx} {i:Nat} (h:i<ts.length):(ts.take (i+1)).all p=((ts.take i).all p&&p (ts.getD i [])):=by
 rw[XQ h,List.all_append];simp[h]
theorem Uc {p:Tx->Bool} {ts:List Tx} {i:Nat} (h:i<ts.length) (a:p (ts.getD i [])=false):ts.all p=false:=by
 rw[List.all_eq_false]
 exact⟨ts.getD i [],by simp[h],by rw[a];simp⟩
theorem aeY (a:Option Addr) (n cap:Nat) (ts:List Tx) (w:Xh) (m:ts.length=n) (j:Ws w a ts) (l:n<4294967281) :
 XX Tryz.prog 181 #[.slice a n cap] w λe w'=>e = .returned (.bool (ts.all Aw))/\w'=w:=by
 go_enter Tryz.func181,Tryz.ntmps181
 go_wp2_with fail
 go_loopw [7] (λf wr=>∃i:Nat,i<=n/\f = .int .i64 i/\(ts.take i).all Aw=true/\wr=w) (λf _=>n - (intOf f).toNat)
 case atStart=>exact⟨0,Xw _,rfl,by simp,rfl⟩
 case round=>
  obtain⟨i,r,rfl,c,rfl⟩:=hrel
  by_cases s:i<n
  ·obtain⟨b,q,rfl,_,c0⟩:=j i (by omega);have k:(i:Int)<(n:Int):=by omega
   have d:=Aa (⟨Ub (p:=Aw) (by omega:i<ts.length),Uc (p:=Aw) (by omega:i<ts.length),c⟩:_/\_/\_);generalize ts.getD i []=t at c0 d;clear c
   go_wp2_with fail
   refine(NG t _).mono ?_;rintro e o ⟨rfl,rfl⟩
   cases g:Aw t with
   |true=>
    go_wp2_with fail
    go_roundw
    case rel=>exact⟨i+1,by omega,by go_num,by rw[d.out.1,d.out.2.2,g];rfl,by trivial⟩
    case measure=>simp[intOf];omega
   |false=>
    go_wp2_with fail
    go_ret
    exact⟨by rw[d.out.2.1 g];rfl,by trivial⟩
  ·have h:Hid (ts.all Aw=true):=by rw[XM (by omega)] at c;exact c
   clear c
   go_wp2_with fail
   go_ret
   exact⟨by rw[h.out];rfl,by trivial⟩
def Cy (t:Tx) (c:Int):Bool:=if c=114 then As t else if c=97\/c=98 then(As t||CK t) else Aw t
theorem adz (t:Tx) (c:Int) (w:Xh):XX Tryz.prog 211 #[.string (bs t),.int .u8 c] w λe w'=>e = .returned (.bool (Cy t c))/\w'=w:=by
 by_cases d:c=114
 ·subst d;have a:Cy t 114=As t:=rfl;rw[a]
  go_enter Tryz.func211,Tryz.ntmps211
  go_wp2_with fail
  refine(Kn t _).mono ?_;rintro e g ⟨rfl,rfl⟩
  go_wp2_with fail
  go_ret
  exact⟨rfl,rfl⟩
 ·by_cases b:c=97\/c=98
  ·have a:Hid (Cy t c=(As t||CK t)):=by unfold Hid Cy;rw[if_neg d,if_pos b]
   have key:XX Tryz.prog 211 #[.string (bs t),.int .u8 c] w λe w'=>e = .returned (.bool (As t||CK t))/\w'=w:=by
    rcases b with rfl|rfl
    all_goals
     go_enter Tryz.func211,Tryz.ntmps211
     go_wp2_with fail
     refine(Kn t _).mono ?_;rintro e g ⟨rfl,rfl⟩
     cases f:As t with
     |true=>
      go_wp2_with fail
      go_ret
      exact⟨by rw[f];rfl,by trivial⟩
     |false=>
      go_wp2_with fail
      refine(acr t _).mono ?_;rintro e w3 ⟨rfl,rfl⟩
      go_wp2_with fail
      go_ret
      exact⟨by rw[f];rfl,by trivial⟩
   rw[a.out];exact key
  ·have a:Cy t c=Aw t:=by unfold Cy;rw[if_neg d,if_neg b]
   rw[a];have j:¬(c=97):=λh=>b (.inl h);have i:¬(c=98):=λh=>b (.inr h)
   go_enter Tryz.func211,Tryz.ntmps211
   go_wp2_with fail
   refine(NG t _).mono ?_;rintro e g ⟨rfl,rfl⟩
   go_wp2_with fail
   go_ret
   exact⟨rfl,rfl⟩
def IB:Tx:=[118,97,114]
def IC:Tx:=[102,108,97,103]
def JL:Tx:=[108,111,99,107]
def tabC (l:List (Tx×Xk)):Array Xk:=(l.flatMap λp=>[.string (bs p.1),p.2]).toArray
theorem Pg (l:List (Tx×Xk)):(tabC l).size=2*l.length:=by
 unfold tabC;simp
 induction l with
 |nil=>rfl
 |cons p l a=>simp[XL,a];omega
theorem adt (l:List (Tx×Xk)) (i:Nat):(l.flatMap λp=>[Value.string (bs p.1),p.2]).drop (i*2)=(l.drop i).flatMap λp=>[Value.string (bs p.1),p.2]:=by
 induction l generalizing i with
 |nil=>simp
 |cons p l a=>
  cases i with
  |zero=>simp
  |succ i=>rw[XL,show (i+1)*2=i*2+2 by omega];simpa using a i
theorem Vr {l:List (Tx×Xk)} {i:Nat} {p:Tx×Xk} (h:l[i]?=some p):(tabC l).extract (i*2) (i*2+2) = #[.string (bs p.1),p.2]:=by
 unfold tabC;obtain⟨a,rfl⟩:=Xf.1 h;rw[List.extract_toArray]
 congr 1
 rw[agF,adt,List.drop_eq_getElem_cons a,XL];have:i*2+2 - i*2=2:=by omega
 rw[this];rfl
theorem TQ {s t:Tx} (h:¬s=t):((bs s).toList == (bs t).toList)=false:=by rw[AK,AK];simpa using h
def Ic (l:List (Tx×Xk)) (t:Tx):Option Xk:=(l.find? λp=>p.1=t).map (·.2)
theorem Pi {l:List (Tx×Xk)} {t:Tx} (h:∀(j:Nat) (p:Tx×Xk),l[j]?=some p->p.1≠t):Ic l t=none:=by
 unfold Ic;rw[List.find?_eq_none.2];·rfl
 intro p a;obtain⟨j,b⟩:=List.getElem?_of_mem a
 simpa using h j p b
theorem Ph {l:List (Tx×Xk)} {i:Nat} {p:Tx×Xk} (b:l[i]?=some p) (h:∀(j:Nat) (q:Tx×Xk),j<i->l[j]?=some q->q.1≠p.1):Ic l p.1=some p.2:=by
 unfold Ic;have:l.find? (λq=>q.1=p.1)=some p:=by
  rw[List.find?_eq_some_iff_getElem];obtain⟨a,e⟩:=Xf.1 b;refine⟨by simp,i,a,e,λj c=>?_⟩
  simpa using h j l[j] c (Xe (by omega))
 rw[this];rfl
theorem Qp {P:Program} {t e:TypeId} {n:Nat} {l:List (Tx×Xk)} {i:Nat} {p:Tx×Xk} (a:l[i]?=some p) {w:Xh} (d:P.underlying t=some (.array n e)) (j:l.length=n) (c:(sizeOf e).run P w = .ok 2 w) (b:(isAgg e).run P w = .ok true w) :
 (Instr.index t (.agg (tabC l)) (.int .i64 i)).run P w = .ok (.agg #[.string (bs p.1),p.2]) w:=by
 have k:i<n:=by obtain⟨h,_⟩:=Xf.1 a;omega
 have f:(0:Int)<=i/\(i:Int)<n:=by omega
 have g:¬(n<=i):=by omega
 simp[Instr.index,run_underlying d,asIntOf,f,g,part,c,b,go_sem,Vr a]
def Hq:List (Tx×Xk):=[(IB,.int .u8 118),(IC,.int .u8 102),(JL,.int .u8 109)]
def GX (w:Xh):Prop:=∃fr,w.heap[2]?=some (.cells (tabC Hq) 291 fr)
def Di (t:Tx):Int:=if IB=t then 118 else if IC=t then 102 else if JL=t then 109 else 0
theorem acW (t:Tx):Value.int .u8 (Di t)=(Ic Hq t).getD (.int .u8 0):=by
 unfold Di Ic Hq;simp only[List.find?_cons]
 by_cases a:IB=t
 ·simp[a]
 ·by_cases b:IC=t
  ·simp[a,b]
  ·by_cases c:JL=t
   ·simp[a,b,c]
   ·simp[a,b,c]
theorem acX {i:Nat} {p:Tx×Xk} (h:Hq[i]?=some p):∃c,p.2 = .int .u8 c:=by
 have:=XA h;simp[Hq] at this
 rcases this with rfl|rfl|rfl<;>exact⟨_,rfl⟩
attribute [irreducible] tabC
def Us (l:List (Tx×Xk)) (p:Xk->Prop):Prop:=∀(i:Nat) (q:Tx×Xk),l[i]?=some q->p q.2
theorem acU (t:Tx) (w:Xh) (h:GX w):XX Tryz.prog 142 #[.string (bs t)] w λe w'=>e = .returned (.int .u8 (Di t))/\Below w.heap.size w w':=by
 obtain⟨fr,h⟩:=h;rw[acW];have o:Hq.length=3:=rfl;have y:Us Hq (λv=>∃c,v = .int .u8 c):=λi q f=>acX f;generalize Hq=l at *
 go_enter Tryz.func142,Tryz.ntmps142
 go_wp2_with (refine wpList_load_row rfl _ _ rfl 2 rfl _ _ fr _ h Tryz.underlying291 rfl (by rw[Pg,o];kernel_rfl) ?_)
 go_loopw [6] (λn wr=>∃i:Nat,i<=3/\n = .int .i64 i/\(∀(j:Nat) (p:Tx×Xk),j<i->l[j]?=some p->p.1≠t)/\Below w.heap.size w wr) (λn _=>3 - (intOf n).toNat)
 case atStart=>exact⟨0,by omega,rfl,λj p u=>by omega,Below.refl _ _⟩
 case round=>
  obtain⟨i,C,rfl,g,d⟩:=hrel
  by_cases z:i<3
  ·have D:(i:Int)<3:=by omega
   obtain⟨⟨s,v⟩,b⟩:∃p,l[i]?=some p:=⟨l[i],Xe (by omega)⟩;obtain⟨c,k⟩:=y i _ b;have k:v = .int .u8 c:=k;subst k;have A:=Qp b (w:=wr) Tryz.underlying291 o (by kernel_rfl) (by kernel_rfl);have r:=(d.alloc d.size (.cells #[.string (bs s),.int .u8 c] 290));have a:=Aa (⟨g,r,Ph b⟩:_/\_/\_);clear g d
   by_cases m:s=t
   ·subst m
    go_wp2_with fail
    go_ret
    refine⟨?_,a.out.2.1⟩;rw[a.out.2.2 a.out.1];rfl
   ·have B:=TQ m
    go_wp2_with fail
    go_roundw
    case rel=>
     refine⟨i+1,by omega,by go_num,λj q u f=>?_,a.out.2.1⟩
     by_cases x:j=i
     ·subst x;rw[b] at f;cases f;exact m
     ·exact a.out.1 j q (by omega) f
    case measure=>simp[intOf];omega
  ·have a:=Aa (⟨g,d,Pi (l:=l) (t:=t) λj p b=>g j p (by obtain⟨h,_⟩:=Xf.1 b;omega) b⟩:_/\_/\_);clear g d
   go_wp2_with fail
   go_ret
   refine⟨?_,a.out.2.1⟩;rw[a.out.2.2];rfl
def Bd:List (Tx×Tx):=[([115,101,116],[114,97]),([97,100,100],[114,97,98]),([115,117,98],[114,97,98]),([109,117,108],[114,97,98]),([108,111,97,100],[114,118]),([115,116,111,114,101],[118,97]),([103,101,116],[114,102]),([112,117,116],[102,97]),([108,111,99,107],[109]),([117,110,108,111,99,107],[109]),([115,112,97,119,110],[116]),([106,111,105,110],[116]),([106,117,109,112],[108]),([106,101,113],[97,98,108]),([106,108,116],[97,98,108]),([99,104,101,99,107],[97,98]),([101,110,100],[])]
def IF:List (Tx×Xk):=Bd.map λp=>(p.1,.string (bs p.2))
def GU (w:Xh):Prop:=∃fr,w.heap[3]?=some (.cells (tabC IF) 312 fr)
def Df (t:Tx):Option Tx:=(Bd.find? λp=>p.1=t).map (·.2)
theorem aaU (t:Tx):Ic IF t=(Df t).map λp=>.string (bs p):=by
 unfold Ic Df IF;rw[List.find?_map]
 cases h:List.find? (λp=>decide (p.1=t)) Bd with
 |none=>simp[Function.comp_def,h]
 |some p=>simp[Function.comp_def,h]
theorem aaV (t:Tx) (w:Xh) (h:GU w):XX Tryz.prog 184 #[.string (bs t)] w λe w'=>e = .returned (.tuple #[.string (bs ((Df t).getD [])),.bool (Df t).isSome])/\Below w.heap.size w w':=by
 obtain⟨fr,h⟩:=h;have x:=Aa (aaU t);have u:IF.length=17:=rfl;have B:Us IF (λv=>∃c,v = .string (bs c)):=λi q a=>by
  obtain⟨p,_,rfl⟩:=List.mem_map.1 (XA a)
  exact⟨_,rfl⟩
 generalize IF=l at *
 go_enter Tryz.func184,Tryz.ntmps184
 go_wp2_with (refine wpList_load_row rfl _ _ rfl 3 rfl _ _ fr _ h Tryz.underlying312 rfl (by rw[Pg,u];kernel_rfl) ?_)
 go_loopw [7] (λn wr=>∃i:Nat,i<=17/\n = .int .i64 i/\(∀(j:Nat) (p:Tx×Xk),j<i->l[j]?=some p->p.1≠t)/\Below w.heap.size w wr) (λn _=>17 - (intOf n).toNat)
 case atStart=>exact⟨0,by omega,rfl,λj p z=>by omega,Below.refl _ _⟩
 case round=>
  obtain⟨i,F,rfl,g,f⟩:=hrel
  by_cases C:i<17
  ·have G:(i:Int)<17:=by omega
   obtain⟨⟨s,v⟩,d⟩:∃p,l[i]?=some p:=⟨l[i],Xe (by omega)⟩;obtain⟨c,k⟩:=B i _ d;have k:v = .string (bs c):=k;subst k;have D:=Qp d (w:=wr) Tryz.underlying312 u (by kernel_rfl) (by kernel_rfl);have y:=(f.alloc f.size (.cells #[.string (bs s),.string (bs c)] 311));have b:=Aa (⟨g,y,Ph d⟩:_/\_/\_);clear g f
   by_cases m:s=t
   ·subst m;have o:Df s=some c:=by
     have e:=x.out;rw[b.out.2.2 b.out.1] at e
     cases a:Df s with
     |none=>rw[a] at e;cases e
     |some r=>
      rw[a] at e;have e:bs c=bs r:=by simpa using e
      have:=congrArg ByteArray.toList e;rw[AK,AK] at this;rw[this]
    go_wp2_with fail
    go_ret2
    exact⟨by first|rfl|(rw[o];rfl),b.out.2.1⟩
   ·have E:=TQ m
    go_wp2_with fail
    go_roundw
    case rel=>
     refine⟨i+1,by omega,by go_num,λj q z a=>?_,b.out.2.1⟩
     by_cases A:j=i
     ·subst A;rw[d] at a;cases a;exact m
     ·exact b.out.1 j q (by omega) a
    case measure=>simp[intOf];omega
  ·have b:=Aa (⟨g,f,Pi (l:=l) (t:=t) λj p d=>g j p (by obtain⟨h,_⟩:=Xf.1 d;omega) d⟩:_/\_/\_);have o:Df t=none:=by
    have e:=x.out;rw[b.out.2.2] at e
    cases a:Df t with
    |none=>rfl
    |some r=>rw[a] at e;cases e
   clear g f
   go_wp2_with fail
   go_ret2
   exact⟨by first|rfl|(rw[o];rfl),b.out.2.1⟩
end Go.Proofs.YtdcacoifehkioaaGreatDoor
namespace Go.Proofs
open Go.Shelf
shelf_lay LaysM.n171 Nm 171 at Tryz as Tryz.laysM171
end Go.Proofs
namespace Go.Proofs.YtdcacoifehkioaaGreatDoor
open Go.RowKit Go.Shelf Go.Proofs.Cod
theorem Tryz.powG:Tryz.prog.globalNamed "internal/strconv.uint64pow10" = some 5:=by kernel_rfl
structure Ck (w:Xh) (B:Nat):Prop where
 heads:GX w
 shapes:GU w
 pow:Lib.TabIs Tryz.prog w "internal/strconv.uint64pow10" .u64 Lib.pow10Tab
 lt:6<=B
theorem Ck.keep {w w':Xh} {B:Nat} (h:Ck w B) (b:Below B w w'):Ck w' B:=by
 have c:=h.lt;refine⟨?_,?_,?_,c⟩
 ·obtain⟨fr,q⟩:=h.heads
  exact⟨fr,(b.block _ (by show 2<B;omega)).trans q⟩
 ·obtain⟨fr,q⟩:=h.shapes
  exact⟨fr,(b.block _ (by show 3<B;omega)).trans q⟩
 have a:=h.pow;unfold Lib.TabIs World.var? at a |-;rw[Tryz.powG] at a |-;simp only[Option.bind_some] at a |-;rw[b.block 5 (by omega)];exact a
theorem Ck.mono {w:Xh} {B a:Nat} (h:Ck w B) (b:B<=a):Ck w a:=⟨h.heads,h.shapes,h.pow,Nat.le_trans h.lt b⟩
theorem IP (n:Int) (b : -9223372036854775808<=n) (c:n<=9223372036854775807) (w:Xh) {B:Nat} (a:Ck w B):XX Tryz.prog 72 #[.int .i64 n] w λe w'=>e = .returned (.string (bs (Lib.itoa n)))/\Below w.heap.size w w':=by
 refine(Any.strconv_Itoa Tryz.laysM171 n b c w a.pow).mono ?_;rintro e w' ⟨rfl,k,d,rfl⟩
 exact⟨rfl,Lib.below_grow w.heap.size w (Nat.le_refl _) k d⟩
end Go.Proofs.YtdcacoifehkioaaGreatDoor
namespace Go.Proofs.YtdcacoifehkioaaGreatDoor
open Go.RowKit Go.Proofs.Cod
def Bk:List Tx->Tx->Bool
 |[],[]=>true
 |t::ts,c::ps=>Cy t (c.toNat:Int)&&Bk ts ps
 |_,_=>false
theorem LE {ts:List Tx} {ps:Tx} (h:ts.length≠ps.length):Bk ts ps=false:=by
 induction ts generalizing ps with
 |nil=>cases ps with
  |nil=>simp at h
  |cons c ps=>rfl
 |cons t ts a=>cases ps with
  |nil=>rfl
  |cons c ps=>simp only[Bk];rw[a (by simpa using h)];simp
theorem adx {ts:List Tx} {ps:Tx} {i:Nat} (a:i<ts.length) (b:i<ps.length) (h:Cy (ts.getD i []) ((ps[i]'b).toNat:Int)=false):Bk ts ps=false:=by
 induction ts generalizing ps i with
 |nil=>simp at a
 |cons t ts d=>cases ps with
  |nil=>rfl
  |cons c ps=>
   cases i with
   |zero=>simp only[Bk];simp at h;rw[h];rfl
   |succ i=>simp only[Bk];rw[d (by simpa using a) (by simpa using b) (by simpa using h)];simp
theorem adw {ts:List Tx} {ps:Tx} (b:ts.length=ps.length) (h:∀i (a:i<ps.length),Cy (ts.getD i []) ((ps[i]'a).toNat:Int)=true):Bk ts ps=true:=by
 induction ts generalizing ps with
 |nil=>cases ps with
  |nil=>rfl
  |cons c ps=>simp at b
 |cons t ts e=>cases ps with
  |nil=>simp at b
  |cons c ps=>
   simp only[Bk];have d:=h 0 (by simp)
   simp at d
   rw[d,e (by simpa using b) (λi a=>h (i+1) (by simpa using a))];rfl
theorem adv (a:Option Addr) (n cap:Nat) (ts:List Tx) (ps:Tx) (w:Xh) (J:ts.length=n) (v:Ws w a ts) (A:n<4294967281) (G:ps.length<4294967281) :
 XX Tryz.prog 185 #[.slice a n cap,.string (bs ps)] w λe w'=>e = .returned (.bool (Bk ts ps))/\w'=w:=by
 have s:=Aa (Ba ps)
 by_cases f:n=ps.length
 ·have D:(bs ps).size=n:=by rw[s.out,f]
  replace f:=Aa f
  go_enter Tryz.func185,Tryz.ntmps185
  go_wp2_with fail
  go_loopw [14] (λp wr=>∃i:Nat,i<=n/\p = .int .i64 i/\(∀j (d:j<ps.length),j<i->Cy (ts.getD j []) ((ps[j]'d).toNat:Int)=true)/\wr=w) (λp _=>n - (intOf p).toNat)
  case atStart=>exact⟨0,Xw _,rfl,λj _ h=>by omega,rfl⟩
  case round=>
   obtain⟨i,F,rfl,g,rfl⟩:=hrel
   by_cases y:i<n
   ·obtain⟨b,B,rfl,_,c0⟩:=v i (by omega);have I:(i:Int)<(n:Int):=by omega
    have o:i<ps.length:=by have:=f.out;omega
    have u:=Dj ps i (by omega);have z:=Aa o;have k:=Aa (⟨g,adx (ts:=ts) (ps:=ps) (i:=i) (by omega) o⟩:_/\_);generalize m:ts.getD i []=t at c0 k;generalize l:ps[i]=c at u k;clear g o;replace m:=Aa m;replace l:=Aa l
    go_wp2_with fail
    refine(adz t c.toNat _).mono ?_;rintro e C ⟨rfl,rfl⟩
    cases r:Cy t c.toNat with
    |true=>
     go_wp2_with fail
     go_roundw
     case rel=>
      refine⟨i+1,by omega,by go_num,λj d H=>?_,by trivial⟩
      by_cases x:j=i
      ·subst x;have e:(ps[j]'d)=c:=l.out;rw[m.out,e];exact r
      ·exact k.out.1 j d (by omega)
     case measure=>simp[intOf];omega
    |false=>
     go_wp2_with fail
     go_ret
     exact⟨by rw[k.out.2 r];rfl,by trivial⟩
   ·have q:Hid (Bk ts ps=true):=adw (by have:=f.out;omega) λj d=>g j d (by have:=f.out;omega);clear g
    go_wp2_with fail
    go_ret
    exact⟨by rw[q.out];rfl,by trivial⟩
 ·have q:Hid (Bk ts ps=false):=LE (by omega);have E:¬((n:Int)=(bs ps).size):=by have:=s.out;omega
  go_enter Tryz.func185,Tryz.ntmps185
  go_wp2_with fail
  go_ret
  exact⟨by rw[q.out];rfl,rfl⟩
def De (t:Tx):Nat:=match t with
 |[_,b]=>b.toNat - 48
 |_=>0
theorem NF {t:Tx} (h:As t=true):∃a b:UInt8,t=[a,b]/\(48:Int)<=b.toNat/\(b.toNat:Int)<=51:=by
 match t,h with
 |[a,b],h=>
  simp[As] at h
  exact⟨a,b,rfl,by omega,by omega⟩
theorem QH (t:Tx) (h:As t=true) (w:Xh):XX Tryz.prog 212 #[.string (bs t)] w λe w'=>e = .returned (.int .i64 (De t))/\w'=w:=by
 obtain⟨a,b,rfl,g,i⟩:=NF h;have c:=Ba [a,b];have d:=Dj [a,b] 1 (by rw[c];simp);have d:(bs [a,b])[1]'(by rw[c];simp)=b:=d;have c:(bs [a,b]).size=2:=c;have f:Hid ((De [a,b]:Int)=(b.toNat:Int) - 48):=by unfold Hid;simp only[De];omega
 go_enter Tryz.func212,Tryz.ntmps212
 go_wp2
 go_ret
 refine⟨?_,rfl⟩;rw[f.out]
 rfl
end Go.Proofs.YtdcacoifehkioaaGreatDoor
namespace Go.Proofs.Ord
structure Ev where
 thread:Int
 kind:Int
 obj:Int
 value:Int
def Ev.zero:Ev:=⟨0,0,0,0⟩
def ev (l:List Ev) (k:Nat):Ev:=l.getD k Ev.zero
def Ls (a b:Ev):Bool:=
 a.thread == b.thread||(a.kind == 6&&b.kind == 5&&a.obj == b.obj)||(a.kind == 4&&b.kind == 3&&a.obj == b.obj)||(a.kind == 7&&a.obj == b.thread)||(b.kind == 8&&b.obj == a.thread)
def row (l:Nat->Ev) (i:Nat):Nat->List Bool
 |0=>[]
 |n+1=>row l i n++[decide (i<n)&&(Ls (l i) (l n)||(YB n).any λk=>decide (i<k)&&((row l i n).getD k false&&Ls (l k) (l n)))]
def bef (l:Nat->Ev) (i j:Nat):Bool:=(row l i (j+1)).getD j false
def part (l:Nat->Ev) (i j k:Nat):Bool:=Ls (l i) (l j)||(YB k).any λq=>decide (i<q)&&(bef l i q&&Ls (l q) (l j))
end Go.Proofs.Ord
namespace Go.Proofs.YtdcacoifehkioaaGreatDoor
open Go.RowKit Go.Proofs.Ord
theorem abc {p:Prop} (h:p):Hid p:=h
end Go.Proofs.YtdcacoifehkioaaGreatDoor
