import Derived.Test.YtdcacoifehkioaaGreatDoorExH0
import Derived.Test.YtdcacoifehkioaaGreatDoorExH4
import Derived.Test.YtdcacoifehkioaaGreatDoorExH3
open Go renaming World->Xh,Calls->XX,Value->Xk,bodyPost_ret->XJ,TypeId->YM,info_parts->YN,heap_setCell_same->Xj,ownsRow_succ->Y5
open Go.World renaming cell?->Xg,alloc_heap_new->Xi,cell?_of_block->Xy,frozen?_of_block->YS,size_setCell->XC,ownsRow->afM,ownsRow_nil->XG
open Nat renaming lt_of_lt_of_le->XK,le_refl->Xd,zero_le->Xw,zero_add->XE,zero_mul->aga,add_mul->afV,sub_self->YK
open Go.IntWalk renaming wrap64_in->X2
open List renaming take_length->Yo,length_map->Xp,getElem?_map->Xs,getElem?_eq_getElem->Xe,getD_eq_getElem?_getD->Xc,flatMap_cons->XL,getElem?_append_left->Xz,getElem?_append_right->XD,getElem?_eq_some_iff->Xf,length_append->Xb,flatMap_append->X6,getElem?_zip_eq_some->Zu,getElem?_set_self->YJ
open Go.Builtin renaming append_->XN
open Go.Value renaming oneCell'->Zw,slice->Yq
open Go.RowKit.Below renaming heap_setCell->Xo
open ByteArray renaming empty->Yv
set_option maxRecDepth 100000
set_option maxHeartbeats 1000000
set_option linter.unusedVariables false
set_option linter.unusedSimpArgs false
namespace Go.Proofs.YtdcacoifehkioaaGreatDoor
open Go.RowKit Go.Proofs.Cod
def Cp (c:UInt8):UInt8:=if c == 118 then 120 else c
def AJ (t:Tx):Tx:=match Df t with
 |some ps=>ps.map Cp
 |none=>[63]
theorem Jm (t:Tx):(∃p,p∈Bd/\t=p.1/\Df t=some p.2)\/(Df t=none/\∀p,p∈Bd->(t == p.1)=false):=by
 unfold Df
 cases h:Bd.find? (λp=>decide (p.1=t)) with
 |some p=>
  have b:=List.mem_of_find?_eq_some h;have c:=List.find?_some h;exact .inl ⟨p,b,by simpa using (of_decide_eq_true c).symm,rfl⟩
 |none=>
  refine .inr ⟨rfl,λp a=>?_⟩;have:=List.find?_eq_none.1 h p a
  simp at this
  exact beq_eq_false_iff_ne.2 (λe=>this e.symm)
theorem Lf (t:Tx) (w:Xh):XX Tryz.prog 113 #[.string (bs t)] w λe w'=>e = .returned (.string (bs (AJ t)))/\w'=w:=by
 have C:∀o:List UInt8,((bs t).toList == o)=(t == o):=λo=>by rw[AK]
 rcases Jm t with⟨p,c,r,f⟩|⟨d,a⟩
 ·have b:AJ t=p.2.map Cp:=by unfold AJ;rw[f]
  rw[b];clear b f;simp only[Bd,List.mem_cons,List.not_mem_nil,or_false] at c
  rcases c with rfl|rfl|rfl|rfl|rfl|rfl|rfl|rfl|rfl|rfl|rfl|rfl|rfl|rfl|rfl|rfl|rfl
  all_goals
   subst r
   go_enter Tryz.func113,Tryz.ntmps113
   go_wp2_with fail
   go_ret
   exact⟨rfl,rfl⟩
 ·have b:AJ t=[63]:=by unfold AJ;rw[d]
  rw[b];have B:=a ([115,101,116],[114,97]) (by simp[Bd]);have v:=a ([97,100,100],[114,97,98]) (by simp[Bd]);have m:=a ([115,117,98],[114,97,98]) (by simp[Bd]);have A:=a ([109,117,108],[114,97,98]) (by simp[Bd]);have h:=a ([108,111,97,100],[114,118]) (by simp[Bd]);have i:=a ([115,116,111,114,101],[118,97]) (by simp[Bd]);have u:=a ([103,101,116],[114,102]) (by simp[Bd]);have q:=a ([112,117,116],[102,97]) (by simp[Bd]);have k:=a ([108,111,99,107],[109]) (by simp[Bd]);have l:=a ([117,110,108,111,99,107],[109]) (by simp[Bd]);have y:=a ([115,112,97,119,110],[116]) (by simp[Bd]);have z:=a ([106,111,105,110],[116]) (by simp[Bd]);have j:=a ([106,117,109,112],[108]) (by simp[Bd]);have x:=a ([106,101,113],[97,98,108]) (by simp[Bd]);have s:=a ([106,108,116],[97,98,108]) (by simp[Bd]);have g:=a ([99,104,101,99,107],[97,98]) (by simp[Bd]);have n:=a ([101,110,100],[]) (by simp[Bd]);dsimp only at B v m A h i u q k l y z j x s g n;clear a d b
  go_enter Tryz.func113,Tryz.ntmps113
  go_wp2_with fail
  go_ret
  exact⟨rfl,rfl⟩
theorem Jz {w:Xh} {fn:Func} {tmps:Array Xk} {b:Nat} {x a c:Xk} (e:fn.results = #[.cell 2 175,.tmp 3]) (f:tmps[2]?=some (.pointer (some ⟨b,0,none⟩))) (g:tmps[3]?=some x) (d:w.heap[b]?=some (.cells #[a,c] 175)):(results fn tmps).run Tryz.prog w = .ok (.tuple #[.agg #[a,c],x]) w:=by
 have c0:w.cell? ⟨b,0,none⟩=some a:=by simp[Xg,d]
 have c1:w.cell? ⟨b,1,none⟩=some c:=by simp[Xg,d]
 simp[results,e,f,g,go_sem,c0,c1]
theorem QJ (t:Tx):Fb t=if As t then(De t:Int) else -1:=by
 unfold Fb
 cases h:As t with
 |false=>rfl
 |true=>
  obtain⟨a,b,rfl,c,d⟩:=NF h;simp only[if_true,De];show (b.toNat:Int) - 48=((b.toNat - 48:Nat):Int)
  omega
theorem abd {t:Tx} {i:Nat} (h:i<t.length):Dp (t.take (i+1))=Dp (t.take i)*10+(t[i].toNat - 48):=by
 unfold Dp;rw[List.take_succ_eq_append_getElem h,List.foldl_append];rfl
theorem Nd {t:Tx} (h:t.all Bn=true):Dp t<10 ^ t.length:=by
 have key:∀(t:Tx) (a:Nat),t.all Bn=true->t.foldl (λn c=>n*10+(c.toNat - 48)) a<(a+1)*10 ^ t.length:=by
  intro t
  induction t with
  |nil=>intro a _;simp
  |cons c t b=>
   intro a h;simp only[List.all_cons,Bool.and_eq_true] at h;have d:=h.1;simp[Bn] at d;have:=b (a*10+(c.toNat - 48)) h.2;simp only[List.foldl_cons,List.length_cons];refine XK this ?_;rw[Nat.pow_succ,Nat.mul_comm (10 ^ t.length) 10,<-Nat.mul_assoc];exact Nat.mul_le_mul_right _ (by omega)
 have:=key t 0 h
 simpa [Dp] using this
def DT (t:Tx):Bool:=As t||CK t
def Gt (t:Tx):Xk:=if DT t then .agg #[.bool (As t),.int .i64 (Bg t)] else .agg #[.bool false,.int .i64 0]
theorem aav (t:Tx) (w:Xh):XX Tryz.prog 147 #[.string (bs t)] w λe w'=>e = .returned (.tuple #[Gt t,.bool (DT t)])/\Below w.heap.size w w':=by
 have k:Hid (∀x,Below w.heap.size w (w.alloc x)):=λx=>(Below.refl _ _).alloc (Xd _) _;have P:=Ba t;have f:=λu=>MT t u;rw[QJ] at f
 cases b:As t with
 |true=>
  rw[b] at f;simp only[if_true] at f;have a:Hid (Gt t = .agg #[.bool true,.int .i64 (De t)]/\DT t=true):=by
   unfold Hid Gt DT Bg;rw[b];exact⟨rfl,rfl⟩
  have I:(0:Int)<=(De t:Int):=by omega
  go_enter Tryz.func147,Tryz.ntmps147
  go_wp2_with fail
  refine(f _).mono ?_;rintro e w1 ⟨rfl,rfl⟩
  go_wp2_with fail
  exact XJ (Jz rfl rfl rfl (Xi w _)) rfl ⟨by first|(rw[a.out.1,a.out.2];done)|(rw[a.out.1,a.out.2];rfl),k.out _⟩
 |false=>
  rw[b] at f;simp only[Bool.false_eq_true,if_false] at f
  by_cases r:1<=t.length/\t.length<=3
  ·have A:Hid (CK t=t.all Bn):=by unfold Hid CK;rw[decide_eq_true r.1,decide_eq_true r.2];rfl
   have z:¬((t.length:Int)<1):=by omega
   have q:¬(3<(t.length:Int)):=by omega
   replace b:=Aa b
   go_enter Tryz.func147,Tryz.ntmps147
   go_wp2_with fail
   refine(f _).mono ?_;rintro e w1 ⟨rfl,rfl⟩
   go_wp2_with fail
   go_loopw [5,6] (λnv v wr=>∃i:Nat,i<=t.length/\v = .int .i64 i/\nv = .int .i64 (Dp (t.take i))/\(t.take i).all Bn=true/\wr=w.alloc (.cells #[.bool false,.int .i64 0] 175)) (λ_ v _=>t.length - (intOf v).toNat)
   case atStart=>exact⟨0,Xw _,rfl,by simp[Dp],by simp,rfl⟩
   case round=>
    obtain⟨i,N,rfl,rfl,c,rfl⟩:=hrel
    by_cases o:i<t.length
    ·have K:∀h,(bs t)[i]'h=t[i]:=λh=>Dj t i h;have R:(i:Int)<(t.length:Int):=by omega
     have j:=LX (p:=Bn) o;have n:=Nd c;rw[List.length_take] at n;have s:(10:Nat) ^ min i t.length<=10 ^ 3:=Nat.pow_le_pow_right (by omega) (by omega);have Q:Dp (t.take i)<1000:=by omega
     have m:=abd o
     cases d:Bn t[i] with
     |true=>
      have y:=d;simp[Bn] at y;have E:¬((t[i].toNat:Int)<48):=by omega
      have C:¬(57<(t[i].toNat:Int)):=by omega
      have M:wrap64 (10*(Dp (t.take i):Int))=10*(Dp (t.take i):Int):=X2 _ (by omega);have S:wrap64 (10*(Dp (t.take i):Int)+(t[i].toNat:Int))=10*(Dp (t.take i):Int)+(t[i].toNat:Int):=X2 _ (by omega);have O:wrap64 (10*(Dp (t.take i):Int)+(t[i].toNat:Int) - 48)=10*(Dp (t.take i):Int)+(t[i].toNat:Int) - 48:=X2 _ (by omega);have l:(Dp (t.take (i+1)):Int)=10*(Dp (t.take i):Int)+(t[i].toNat:Int) - 48:=by rw[m];omega
      have G:=Aa (⟨j,c,d,l⟩:_/\_/\_/\_);clear j c d n m l y s
      go_wp2_with fail
      go_roundw
      case rel=>
       obtain⟨j,c,d,l⟩:=G.out;refine⟨i+1,by omega,by go_num,?_,by rw[j,c,d];rfl,by trivial⟩;rw[l];rfl
      case measure=>simp[intOf];omega
     |false=>
      have a:Hid (Gt t = .agg #[.bool false,.int .i64 0]/\DT t=false):=by
       have:DT t=false:=by unfold DT;rw[b.out,A.out,LY o d];rfl
       unfold Hid Gt;rw[this];exact⟨rfl,rfl⟩
      by_cases E:(t[i].toNat:Int)<48
      ·clear j c n m s d
       go_wp2_with fail
       exact XJ (Jz rfl rfl rfl (Xi w _)) rfl ⟨by first|(rw[a.out.1,a.out.2];done)|(rw[a.out.1,a.out.2];rfl),k.out _⟩
      ·have C:(57<(t[i].toNat:Int)):=by
        simp[Bn] at d
        omega
       clear j c n m s d
       go_wp2_with fail
       exact XJ (Jz rfl rfl rfl (Xi w _)) rfl ⟨by first|(rw[a.out.1,a.out.2];done)|(rw[a.out.1,a.out.2];rfl),k.out _⟩
    ·have B:i=t.length:=by omega
     subst B;rw[Yo] at c;have a:Hid (Gt t = .agg #[.bool false,.int .i64 (Dp t)]/\DT t=true):=by
      have D:DT t=true:=by unfold DT;rw[b.out,A.out,c];rfl
      have H:Bg t=Dp t:=by unfold Bg;rw[b.out];rfl
      unfold Hid Gt;rw[D,b.out,H];exact⟨rfl,rfl⟩
     have J:t.take t.length=t:=Yo;clear c
     go_wp2_with fail
     exact XJ (Jz rfl rfl rfl (Xi w _)) rfl ⟨by first|(rw[a.out.1,a.out.2];done)|(rw[a.out.1,a.out.2];rfl),k.out _⟩
  ·have a:Hid (Gt t = .agg #[.bool false,.int .i64 0]/\DT t=false):=by
    have F:CK t=false:=by
     unfold CK
     by_cases g:1<=t.length
     ·have q:¬t.length<=3:=λh=>r ⟨g,h⟩;rw[decide_eq_false q];simp
     ·rw[decide_eq_false g];rfl
    have:DT t=false:=by unfold DT;rw[b,F];rfl
    unfold Hid Gt;rw[this];exact⟨rfl,rfl⟩
   replace b:=Aa b
   by_cases g:t.length=0
   ·have z:((t.length:Int)<1):=by omega
    go_enter Tryz.func147,Tryz.ntmps147
    go_wp2_with fail
    refine(f _).mono ?_;rintro e w1 ⟨rfl,rfl⟩
    go_wp2_with fail
    exact XJ (Jz rfl rfl rfl (Xi w _)) rfl ⟨by first|(rw[a.out.1,a.out.2];done)|(rw[a.out.1,a.out.2];rfl),k.out _⟩
   ·have z:¬((t.length:Int)<1):=by omega
    have q:(3<(t.length:Int)):=by omega
    go_enter Tryz.func147,Tryz.ntmps147
    go_wp2_with fail
    refine(f _).mono ?_;rintro e w1 ⟨rfl,rfl⟩
    go_wp2_with fail
    exact XJ (Jz rfl rfl rfl (Xi w _)) rfl ⟨by first|(rw[a.out.1,a.out.2];done)|(rw[a.out.1,a.out.2];rfl),k.out _⟩
def Aq:List Tx->Tx->Int
 |[],_=>-1
 |t::l,n=>if t=n then 0 else if Aq l n = -1 then -1 else Aq l n+1
theorem In (l:List Tx) (n:Tx) : -1<=Aq l n:=by
 induction l with
 |nil=>simp[Aq]
 |cons t l a=>
  unfold Aq
  split
  ·omega
  ·split<;>omega
theorem NT {l:List Tx} {n:Tx} (h:∀j:Nat,j<l.length->l.getD j []≠n):Aq l n = -1:=by
 induction l with
 |nil=>rfl
 |cons t l a=>
  unfold Aq;rw[if_neg (by simpa using h 0 (by simp)),a (λj b=>by simpa using h (j+1) (by simpa using b)),if_pos rfl]
theorem NU {l:List Tx} {n:Tx} {i:Nat} (b:i<l.length) (h:∀j:Nat,j<i->l.getD j []≠n) (a:l.getD i []=n):Aq l n=i:=by
 induction l generalizing i with
 |nil=>simp at b
 |cons t l c=>
  unfold Aq
  cases i with
  |zero=>rw[if_pos (by simpa using a)];rfl
  |succ i=>
   rw[if_neg (by simpa using h 0 (by omega))];have:=c (i:=i) (by simpa using b) (λj d=>by simpa using h (j+1) (by omega)) (by simpa using a);rw[this,if_neg (by omega)];omega
theorem IK (a:Option Addr) (n cap:Nat) (ts:List Tx) (x:Tx) (w:Xh) (v:ts.length=n) (p:Ws w a ts) (s:n<4294967281) :
 XX Tryz.prog 145 #[.slice a n cap,.string (bs x)] w λe w'=>e = .returned (.int .i64 (Aq ts x))/\w'=w:=by
 go_enter Tryz.func145,Tryz.ntmps145
 go_wp2_with fail
 go_loopw [5] (λd wr=>∃i:Nat,i<=n/\d = .int .i64 i/\(∀j:Nat,j<i->ts.getD j []≠x)/\wr=w) (λd _=>n - (intOf d).toNat)
 case atStart=>exact⟨0,Xw _,rfl,λj k=>by omega,rfl⟩
 case round=>
  obtain⟨i,y,rfl,c,rfl⟩:=hrel
  by_cases z:i<n
  ·obtain⟨b,u,rfl,_,c0⟩:=p i (by omega);have r:(i:Int)<(n:Int):=by omega
   have g:=Aa (⟨c,λh=>NU (l:=ts) (n:=x) (i:=i) (by omega) c h⟩:_/\(ts.getD i []=x->_));generalize f:ts.getD i []=t at c0 g;replace f:=Aa f;have m:((bs t).toList == (bs x).toList)=decide (t=x):=by
    rw[AK,AK]
    by_cases e:t=x<;>simp[e]
   clear c
   by_cases e:t=x
   ·rw[decide_eq_true e] at m;replace e:=Aa e
    go_wp2_with fail
    go_ret
    exact⟨by rw[g.out.2 e.out];rfl,by trivial⟩
   ·rw[decide_eq_false e] at m;replace e:=Aa e
    go_wp2_with fail
    go_roundw
    case rel=>
     refine⟨i+1,by omega,by go_num,λj k=>?_,by trivial⟩
     by_cases q:j=i
     ·subst q;rw[f.out];exact e.out
     ·exact g.out.1 j (by omega)
    case measure=>simp[intOf];omega
  ·have o:Hid (Aq ts x = -1):=NT (λj k=>c j (by omega));clear c
   go_wp2_with fail
   go_ret
   exact⟨by rw[o.out];rfl,by trivial⟩
structure RI where
 i:Ad
 line:Int
 word:Tx
structure AE where
 name:Tx
 code:List RI
 labs:List (Tx×Nat)
structure RP where
 vs:List Tx
 fs:List Tx
 ls:List Tx
 thr:List AE
def AN (r:RI):List Xk:=[.string (bs r.i.op),.int .i64 r.i.r,.bool r.i.aR,.int .i64 r.i.aN,.bool r.i.bR,.int .i64 r.i.bN,.int .i64 r.i.x,.int .i64 r.line,.string (bs r.word)]
def Lu (p:Tx×Nat):List Xk:=[.string (bs p.1),.int .i64 p.2]
def DN (p:AE×(Xk×Xk)):List Xk:=[.string (bs p.1.name),p.2.1,p.2.2]
def RP.get (P:RP) (k:Int):List Tx:=if k=118 then P.vs else if k=102 then P.fs else P.ls
def RP.put (P:RP) (k:Int) (x:Tx):RP:=if k=118 then {P with vs:=P.vs++[x]} else if k=102 then {P with fs:=P.fs++[x]} else {P with ls:=P.ls++[x]}
structure RV where
 V:Int->Xk
 tV:Xk
 TV:List (Xk×Xk)
def Cf (k:Int):Prop:=k=118\/k=102\/k=109
def Fe (k:Int):Nat:=if k=118 then 0 else if k=102 then 1 else 2
structure JC (w:Xh) (tag:Nat->RT) (base j:Nat) (th:AE) (p:Xk×Xk):Prop where
 code:w.ownsRow base 177 9 p.1 th.code.length (th.code.flatMap AN)
 tc:∀g,p.1.ownBlock=some g->tag g = .cd j
 labs:w.ownsRow base 202 2 p.2 th.labs.length (th.labs.flatMap Lu)
 tl:∀g,p.2.ownBlock=some g->tag g = .lb j
structure Ak (w:Xh) (tag:Nat->RT) (base pb:Nat) (P:RP) (U:RV):Prop where
 cell:w.heap[pb]?=some (.cells #[U.V 118,U.V 102,U.V 109,U.tV] 28)
 rows:∀k,Cf k->Du w tag base 9 k (U.V k) ((P.get k).map BV)
 trow:w.ownsRow base 199 3 U.tV P.thr.length ((P.thr.zip U.TV).flatMap DN)
 tt:∀g,U.tV.ownBlock=some g->tag g = .row 116
 len:U.TV.length=P.thr.length
 ths:∀(j:Nat) (th:AE) (p:Xk×Xk),P.thr[j]?=some th->U.TV[j]?=some p->JC w tag base j th p
 tp:tag pb = .rd
 tlt:∀b,tag b≠.o->base<=b/\b<w.heap.size
 g3:base<=w.heap.size
section
variable {w w':Xh} {tag tag':Nat->RT} {base pb:Nat} {P P':RP} {U U':RV}
theorem JC.kept {j:Nat} {th:AE} {p:Xk×Xk} (h:JC w tag base j th p) (a:∀b,tag b = .cd j\/tag b = .lb j->w'.heap[b]?=w.heap[b]?/\tag' b=tag b):JC w' tag' base j th p:=
 ⟨BA h.code λg e=>(a g (.inl (h.tc g e))).1,λg e=>(a g (.inl (h.tc g e))).2.trans (h.tc g e),BA h.labs λg e=>(a g (.inr (h.tl g e))).1,λg e=>(a g (.inr (h.tl g e))).2.trans (h.tl g e)⟩
theorem Ak.lt (h:Ak w tag base pb P U) {b:Nat} {g:RT} (e:tag b=g) (a:g≠.o):b<w.heap.size:=(h.tlt b (by rw[e];exact a)).2
theorem Ak.low (h:Ak w tag base pb P U) {b:Nat} (e:b<base):tag b = .o:=by
 cases a:tag b with
 |o=>rfl
 |_=>exact absurd (h.tlt b (by rw[a];simp)).1 (by omega)
theorem Ak.step (h:Ak w tag base pb P U) (C:RT->Prop) (f:Ah w tag w' tag') (z:∀b,b<w.heap.size->tag b≠.o->¬C (tag b)->w'.heap[b]?=w.heap[b]?)
 (v:∀b,w.heap.size<=b->tag' b≠.o->b<w'.heap.size)
 (t:w'.heap[pb]?=some (.cells #[U'.V 118,U'.V 102,U'.V 109,U'.tV] 28))
 (u:∀k,Cf k->(U'.V k=U.V k/\P'.get k=P.get k/\¬C (.row k))\/Du w' tag' base 9 k (U'.V k) ((P'.get k).map BV))
 (x:(U'.tV=U.tV/\P'.thr=P.thr/\U'.TV=U.TV/\¬C (.row 116))\/(w'.ownsRow base 199 3 U'.tV P'.thr.length ((P'.thr.zip U'.TV).flatMap DN)/\(∀g,U'.tV.ownBlock=some g->tag' g = .row 116)/\U'.TV.length=P'.thr.length))
 (A:∀(j:Nat) (th:AE) (p:Xk×Xk),P'.thr[j]?=some th->U'.TV[j]?=some p->(P.thr[j]?=some th/\U.TV[j]?=some p/\¬C (.cd j)/\¬C (.lb j))\/JC w' tag' base j th p):Ak w' tag' base pb P' U':=by
 have key:∀{b:Nat} {g:RT},tag b=g->g≠.o->¬C g->w'.heap[b]?=w.heap[b]?/\tag' b=g:=λ{b g} e c r=>by
  have i:=h.lt e c
  exact⟨z b i (by rw[e];exact c) (by rw[e];exact r),(f.tags b i).trans e⟩
 have y:∀{b:Nat} {g:RT},tag b=g->g≠.o->tag' b=g:=λ{b g} e c=>(f.tags b (h.lt e c)).trans e;have q:w'.ownsRow base 199 3 U'.tV P'.thr.length ((P'.thr.zip U'.TV).flatMap DN)/\(∀g,U'.tV.ownBlock=some g->tag' g = .row 116)/\U'.TV.length=P'.thr.length:=by
  rcases x with⟨m,l,d,n⟩|e
  ·rw[m,l,d]
   exact⟨BA h.trow λg e=>(key (h.tt g e) (by simp) n).1,λg e=>(key (h.tt g e) (by simp) n).2,h.len⟩
  ·exact e
 refine⟨t,λk s=>?_,q.1,q.2.1,q.2.2,λj th p c r=>?_,y h.tp (by simp),λb a=>?_,Nat.le_trans h.g3 f.size⟩
 ·rcases u k s with⟨m,l,d⟩|e
  ·rw[m,l];exact(h.rows k s).kept λb a=>key a (by simp) d
  ·exact e
 ·rcases A j th p c r with⟨m,l,d,n⟩|e
  ·refine(h.ths j th p m l).kept λb a=>?_
   rcases a with a|a
   ·have:=key a (by simp) d;exact⟨this.1,this.2.trans a.symm⟩
   ·have:=key a (by simp) n;exact⟨this.1,this.2.trans a.symm⟩
  ·exact e
 ·by_cases i:b<w.heap.size
  ·rw[f.tags b i] at a
   exact⟨(h.tlt b a).1,XK i f.size⟩
  ·exact⟨by have:=h.g3;omega,v b (by omega) a⟩
theorem Ak.keep (h:Ak w tag base pb P U) (a:∀b,b<w.heap.size->w'.heap[b]?=w.heap[b]?) (d:Ah w tag w' tag):Ak w' tag base pb P U:=
 h.step (λ_=>False) d (λb c _ _=>a b c) (λb c e=>absurd (h.tlt b e).2 (by omega)) ((a pb (h.lt h.tp (by simp))).trans h.cell) (λk _=>.inl ⟨rfl,rfl,id⟩) (.inl ⟨rfl,rfl,rfl,id⟩) (λj th p f g=>.inl ⟨f,g,id,id⟩)
theorem Ak.below (h:Ak w tag base pb P U) (a:Below w.heap.size w w'):Ak w' tag base pb P U:=h.keep a.block (.CH a)
theorem Ak.El (h:Ak w tag base pb P U) {k:Int} (a:Cf k):w.cell? ⟨pb,Fe k,none⟩=some (U.V k):=by
 rcases a with rfl|rfl|rfl<;>simp[Xg,h.cell,Fe]
theorem Ak.Hc (h:Ak w tag base pb P U):w.cell? ⟨pb,3,none⟩=some U.tV:=by simp[Xg,h.cell]
theorem Ak.Ed (h:Ak w tag base pb P U) (i:Nat):w.frozen? ⟨pb,i,none⟩=false:=by simp[World.frozen?,h.cell]
theorem FM {e:YM} {k:Int} {v:Xk} {l:List Tx} (h:Du w tag base e k v (l.map BV)):∃a cap,v = .slice a l.length cap/\Ws w a l:=by
 have b:=h.row;rw[Xp] at b
 rcases b.2 with⟨c,f⟩|⟨g,cap,j,c,_⟩
 ·exact⟨none,0,by rw[c,f],λi d=>by omega⟩
 ·refine⟨_,cap,c,λi d=>⟨g,0,rfl,(b.lt g (by rw[c];rfl)).2,?_⟩⟩;rw[c] at b;rw[XE,b.cellAt i (by omega),Xs,Xe d,Xc,Xe d];rfl
theorem Ak.name (h:Ak w tag base pb P U) {k:Int} (d:Cf k) (x:Tx) (F:(P.get k).length<1048576) :
 ∃g cap w3,(XN #[22,22] 22 #[U.V k,.slice (some ⟨w.heap.size,0,none⟩) 1 1]).run Tryz.prog (w.alloc (.cells #[.string (bs x)] 9)) = .ok (.slice (some ⟨g,0,none⟩) ((P.get k).length+1) cap) w3/\w3.cell? ⟨pb,Fe k,none⟩=some (U.V k)/\w3.frozen? ⟨pb,Fe k,none⟩=false/\
  ∃tag',Ak (w3.setCell ⟨pb,Fe k,none⟩ (.slice (some ⟨g,0,none⟩) ((P.get k).length+1) cap)) tag' base pb (P.put k x) {U with V:=AY U.V k (.slice (some ⟨g,0,none⟩) ((P.get k).length+1) cap)}/\Ah w tag (w3.setCell ⟨pb,Fe k,none⟩ (.slice (some ⟨g,0,none⟩) ((P.get k).length+1) cap)) tag':=by
 have A:∀b,tag b≠.o->b<w.heap.size:=λb c=>(h.tlt b c).2;have N:=h.lt h.tp (by simp);have O:=h.g3;obtain⟨Q,H,K,z,C⟩:=YN Tryz.infoTx;obtain⟨g,cap,w3,tag3,q,l,E,G,D,z3,t,v,B⟩:=(h.rows k d).push Tryz.underlying22 H K z C rfl (by omega) (BV x) (by simp[Zw,BV]) 22 (by simpa using F) (by omega) A;rw[Xp] at q l;have m:w3.heap[pb]?=w.heap[pb]?:=t pb N (by rw[h.tp];simp);have s:∀b,b<w.heap.size->tag b≠.row k->b≠pb->(w3.setCell ⟨pb,Fe k,none⟩ (.slice (some ⟨g,0,none⟩) ((P.get k).length+1) cap)).heap[b]?=w.heap[b]?:=λb c i f=>(Xo w3 ⟨pb,Fe k,none⟩ _ b f).trans (t b c i);have r:Ah w tag (w3.setCell ⟨pb,Fe k,none⟩ (.slice (some ⟨g,0,none⟩) ((P.get k).length+1) cap)) tag3:=⟨E,G,D,by simp;omega,λb c=>v b (by omega),λb c u=>s b c (by rw[u];simp) (Co u h.tp (by simp))⟩;refine⟨g,cap,w3,q,(Xy (w:=w) (a:=⟨pb,Fe k,none⟩) m).trans (h.El d),(YS (w:=w) (a:=⟨pb,Fe k,none⟩) m).trans (h.Ed _),tag3,?_,r⟩;have J:∀k',Cf k'->(P.put k x).get k'=if k'=k then P.get k++[x] else P.get k':=λk' n=>by
  rcases d with rfl|rfl|rfl<;>rcases n with rfl|rfl|rfl<;>simp[RP.put,RP.get]
 refine h.step (λx=>x = .row k\/x = .rd) r (λb c i f=>s b c (λe=>f (.inl e)) (λe=>f (by rw[e];exact .inr h.tp))) (λb c M=>by simp only[XC];exact B b c M) ?_ (λk' n=>?_) (.inl ⟨rfl,?_,rfl,?_⟩) (λj th p i f=>.inl ⟨?_,f,by simp,by simp⟩)
 ·rw[Xj w3 pb (Fe k) _ _ _ (m.trans h.cell)]
  rcases d with rfl|rfl|rfl<;>simp[Fe,AY]
 ·rw[J k' n]
  by_cases e:k'=k
  ·subst e;right;rw[if_pos rfl,List.map_append];show Du _ _ _ _ _ (AY U.V k' _ k') _;rw[Cm];refine⟨BA l.row λy I=>?_,l.tg⟩;exact Xo w3 ⟨pb,Fe k',none⟩ _ y (Co (l.tg y I) ((v pb (by omega)).trans h.tp) (by simp))
  ·left;rw[if_neg e]
   exact⟨CB _ e,rfl,by simp;exact e⟩
 ·rcases d with rfl|rfl|rfl<;>simp[RP.put]
 ·rcases d with rfl|rfl|rfl<;>simp
 ·have e:(P.put k x).thr=P.thr:=by rcases d with rfl|rfl|rfl<;>simp[RP.put]
  rw[<-e];exact i
end
theorem GL {α:Type} {f:α->List Xk} {m:Nat} (b:∀x,(f x).length=m) {l:List α} {j r:Nat} {x:α} (a:l[j]?=some x) (c:r<m):(l.flatMap f)[j*m+r]?=(f x)[r]?:=by
 induction l generalizing j with
 |nil=>cases a
 |cons y l d=>
  rw[XL]
  cases j with
  |zero=>
   have a:some y=some x:=a
   cases a
   rw[aga,XE,Xz (by rw[b];exact c)]
  |succ j=>
   rw[XD (by rw[b,afV];omega),b,show (j+1)*m+r - m=j*m+r by rw[afV];omega];exact d (by simpa using a)
theorem NQ {α:Type} {f:α->List Xk} {m:Nat} (b:∀x,(f x).length=m) {l:List α} {j r:Nat} {x y:α} {u:Xk} (a:l[j]?=some x) (c:r<m) (e:f y=(f x).set r u):(l.flatMap f).set (j*m+r) u=(l.set j y).flatMap f:=by
 induction l generalizing j with
 |nil=>cases a
 |cons z l d=>
  rw[XL]
  cases j with
  |zero=>
   have a:some z=some x:=a
   cases a
   rw[aga,XE,List.set_append_left _ _ (by rw[b];exact c),List.set_cons_zero,XL,e]
  |succ j=>
   rw[List.set_append_right _ _ (by rw[b,afV];omega),b,show (j+1)*m+r - m=j*m+r by rw[afV];omega,d (by simpa using a),List.set_cons_succ,XL]
theorem aeH {w w':Xh} {base e a n:Nat} {v:Xk} {b:List Xk} {B:Nat} (h:w.ownsRow base e a v n b) (d:Below B w w') (c:∀g,v.ownBlock=some g->g<B):w'.ownsRow base e a v n b:=BA h λg e=>d.block g (c g e)
theorem EI {w w':Xh} {base e b n:Nat} {v:Xk} {a:List Xk} (h:w.ownsRow base e b v n a) (c:Below w.heap.size w w'):w'.ownsRow base e b v n a:=aeH h c λg e=>(h.lt g e).2
theorem IH {w:Xh} {base e n:Nat} {v:Xk} {l:List Tx} (c:w.ownsRow base e 1 v n (l.map BV)) (h:l.length=n):∃a cap,v = .slice a n cap/\Ws w a l:=by
 rcases c.2 with⟨b,f⟩|⟨g,cap,j,b,_⟩
 ·exact⟨none,0,by rw[b,f],λi d=>by omega⟩
 ·refine⟨_,cap,b,λi d=>⟨g,0,rfl,(c.lt g (by rw[b];rfl)).2,?_⟩⟩;rw[b] at c;rw[XE,c.cellAt i (by omega),Xs,Xe d,Xc,Xe d];rfl
theorem KS {w:Xh} {base e a n:Nat} {v:Xk} {b:List Xk} (h:w.ownsRow base e a v n b) {k:Nat} (d:k<n):∃g cap,v = .slice (some ⟨g,0,none⟩) n cap/\g<w.heap.size/\∀j,j<n*a->w.cell? ⟨g,j,none⟩=b[j]?:=by
 obtain⟨m,rfl⟩:∃m,n=m+1:=⟨n - 1,by omega⟩;obtain⟨g,cap,rfl⟩:=Y5 h
 exact⟨g,cap,rfl,(h.lt g rfl).2,λj c=>h.cellAt j c⟩
theorem acE (i:Ad):(Bv i).toList.length=7:=rfl
theorem Vh (p:Tx×Xk):[Value.string (bs p.1),p.2].length=2:=rfl
structure afl (w:Xh) (g k:Nat) (i:Ad):Prop where
 c0:w.cell? ⟨g,k*7,none⟩=some (.string (bs i.op))
 c1:w.cell? ⟨g,k*7+1,none⟩=some (.int .i64 i.r)
 c2:w.cell? ⟨g,k*7+2,none⟩=some (.bool i.aR)
 c3:w.cell? ⟨g,k*7+3,none⟩=some (.int .i64 i.aN)
 c4:w.cell? ⟨g,k*7+4,none⟩=some (.bool i.bR)
 c5:w.cell? ⟨g,k*7+5,none⟩=some (.int .i64 i.bN)
 c6:w.cell? ⟨g,k*7+6,none⟩=some (.int .i64 i.x)
theorem acP {w:Xh} {base:Nat} {v:Xk} {is:List Ad} {k:Nat} {i:Ad} (h:w.ownsRow base 108 7 v is.length (GM is)) (a:is[k]?=some i):∃g cap,v = .slice (some ⟨g,0,none⟩) is.length cap/\g<w.heap.size/\afl w g k i:=by
 have c:=(Xf.1 a).1;obtain⟨g,cap,e,d,b⟩:=KS h c;have key:∀q,q<7->w.cell? ⟨g,k*7+q,none⟩=(Bv i).toList[q]?:=λq f=>by
  rw[b (k*7+q) (by omega)];exact GL acE a f
 exact⟨g,cap,e,d,key 0 (by omega),key 1 (by omega),key 2 (by omega),key 3 (by omega),key 4 (by omega),key 5 (by omega),key 6 (by omega)⟩
theorem MK {w:Xh} {l:Nat->RT} {base e f n:Nat} {k:RT} {v:Xk} {s:List Xk} {T:YM} {i:TypeInfo} {z:Xk} {p:Nat} (R:w.ownsRow base e f v n s) (q:∀g,v.ownBlock=some g->l g=k) (E:k≠.o) (M:Tryz.prog.underlying T=some (.slice e)) (G:Tryz.prog.info? e=some i) (N:i.zero=some z) (Q:i.size=f) (I:i.bytes=p) (K:z.cells.size=f) (O:p<=128)
 (c:List Xk) (S:c.length=f) (D:∀u∈c,u.oneCell'=true) (B:YM) (V:n<1048576) (U:base<=w.heap.size) (y:∀b,l b≠.o->b<w.heap.size) :
 ∃(g cap:Nat) (w':Xh) (r:Nat->RT),(XN #[T,T] B #[v,.slice (some ⟨w.heap.size,0,none⟩) 1 1]).run Tryz.prog (w.alloc (.cells c.toArray e)) = .ok (.slice (some ⟨g,0,none⟩) (n+1) cap) w'/\
  w'.ownsRow base e f (.slice (some ⟨g,0,none⟩) (n+1) cap) (n+1) (s++c)/\r g=k/\w'.os=w.os/\w'.tape=w.tape/\w'.output=w.output/\w.heap.size+1<=w'.heap.size/\
  (∀b,b<w.heap.size->l b≠k->w'.heap[b]?=w.heap[b]?)/\(∀b,b<=w.heap.size->r b=l b)/\(∀b,w.heap.size<=b->r b≠.o->b<w'.heap.size):=by
 obtain⟨W,w',J,x,h,a⟩:=JS (P:=Tryz.prog) (w.alloc (.cells c.toArray e)) base T B e i z f p M G N Q I K v n s (R.alloc _) ⟨w.heap.size,0,none⟩ 1 1 c (by omega) (by simp[S])
  (λj u H=>Oj (Xi w _) (by simpa using H)) D (by unfold maxLen;omega)
  (by have:(n+1)*p<=1048576*128:=Nat.mul_le_mul (by omega) O
      omega) (by simp;omega)
 obtain⟨g,cap,rfl⟩:=Y5 x;have F:=x.lt g rfl;have C:v.ownBlock=some g\/g=w.heap.size+1:=by
  rcases a with a|a
  ·exact .inl a.symm
  ·right;have a:some g=some (w.alloc (.cells c.toArray e)).heap.size:=a;rw[World.size_alloc] at a;exact Option.some.inj a
 have rb:∀b,b<w.heap.size->v.ownBlock≠some b->w'.heap[b]?=w.heap[b]?:=λb m d=>(h.block b (by simp;omega) (λe=>d e.symm)).trans (Below.heap_alloc w _ b m);refine⟨g,cap,w',Hg l (w.heap.size+1) k (.slice (some ⟨g,0,none⟩) (n+1) cap),J,x,?_,h.os,h.tape,h.output,by have:=h.size;simpa using this,λb m d=>rb b m (λe=>d (q b e)),λb m=>Hf (by omega),λb m d=>?_⟩
 ·rcases C with e|e
  ·have:=y g (by rw[q g e];exact E);rw[Hf (by omega)];exact q g e
  ·subst e;exact Mq rfl
 ·by_cases e:b=w.heap.size+1
  ·subst e
   by_cases A:g=w.heap.size+1
   ·rw[<-A];exact F.2
   ·exfalso;apply d
    unfold Hg;rw[FV,if_neg];intro t;have t:some g=some (w.heap.size+1):=t;exact A (Option.some.inj t)
  ·rw[Hf e] at d;have:=y b d;omega
theorem Tryz.infoRT:(Tryz.prog.info? 199).map (λi=>(i.zero,i.size,i.bytes))=some (some (.agg #[.string Yv,.slice none 0 0,.slice none 0 0]),3,64):=by kernel_rfl
theorem Tryz.infoRI:(Tryz.prog.info? 177).map (λi=>(i.zero,i.size,i.bytes))=some (some (.agg #[.string Yv,.int .i64 0,.bool false,.int .i64 0,.bool false,.int .i64 0,.int .i64 0,.int .i64 0,.string Yv]),9,88):=by kernel_rfl
theorem Tryz.infoRL:(Tryz.prog.info? 202).map (λi=>(i.zero,i.size,i.bytes))=some (some (.agg #[.string Yv,.int .i64 0]),2,24):=by kernel_rfl
theorem MN (x:RI):(AN x).length=9:=rfl
theorem Sl (x:Tx×Nat):(Lu x).length=2:=rfl
theorem Jc (x:AE×(Xk×Xk)):(DN x).length=3:=rfl
section
variable {w w':Xh} {tag tag':Nat->RT} {base pb:Nat} {P:RP} {U:RV}
theorem Ak.thread (h:Ak w tag base pb P U) (x:Tx) (F:P.thr.length<1048576) :
 ∃g cap w3,(XN #[26,26] 26 #[U.tV,.slice (some ⟨w.heap.size,0,none⟩) 1 1]).run Tryz.prog (w.alloc (.cells #[.string (bs x),.slice none 0 0,.slice none 0 0] 199)) = .ok (.slice (some ⟨g,0,none⟩) (P.thr.length+1) cap) w3/\w3.cell? ⟨pb,3,none⟩=some U.tV/\w3.frozen? ⟨pb,3,none⟩=false/\
  ∃tag',Ak (w3.setCell ⟨pb,3,none⟩ (.slice (some ⟨g,0,none⟩) (P.thr.length+1) cap)) tag' base pb {P with thr:=P.thr++[⟨x,[],[]⟩]} {U with tV:=.slice (some ⟨g,0,none⟩) (P.thr.length+1) cap,TV:=U.TV++[(.slice none 0 0,.slice none 0 0)]}/\Ah w tag (w3.setCell ⟨pb,3,none⟩ (.slice (some ⟨g,0,none⟩) (P.thr.length+1) cap)) tag':=by
 have z:∀b,tag b≠.o->b<w.heap.size:=λb d=>(h.tlt b d).2;have O:=h.lt h.tp (by simp);have Q:=h.g3;obtain⟨R,H,K,t,B⟩:=YN Tryz.infoRT;obtain⟨g,cap,w3,tag3,u,M,q,E,G,C,z3,n,s,A⟩:=MK h.trow h.tt (by simp) Tryz.underlying26 H K t B rfl (by omega) [.string (bs x),.slice none 0 0,.slice none 0 0] rfl (by simp[Zw]) 26 F (by omega) z;have i:w3.heap[pb]?=w.heap[pb]?:=n pb O (by rw[h.tp];simp);have m:∀b,b<w.heap.size->tag b≠.row 116->b≠pb->(w3.setCell ⟨pb,3,none⟩ (.slice (some ⟨g,0,none⟩) (P.thr.length+1) cap)).heap[b]?=w.heap[b]?:=λb d f c=>(Xo w3 ⟨pb,3,none⟩ _ b c).trans (n b d f);have l:Ah w tag (w3.setCell ⟨pb,3,none⟩ (.slice (some ⟨g,0,none⟩) (P.thr.length+1) cap)) tag3:=⟨E,G,C,by simp;omega,λb d=>s b (by omega),λb d r=>m b d (by rw[r];simp) (Co r h.tp (by simp))⟩;refine⟨g,cap,w3,u,(Xy (w:=w) (a:=⟨pb,3,none⟩) i).trans h.Hc,(YS (w:=w) (a:=⟨pb,3,none⟩) i).trans (h.Ed _),tag3,?_,l⟩;refine h.step (λx=>x = .row 116\/x = .rd) l (λb d f c=>m b d (λe=>c (.inl e)) (λe=>c (by rw[e];exact .inr h.tp))) (λb d N=>by simp only[XC];exact A b d N) ?_ (λk' D=>.inl ⟨rfl,rfl,?_⟩) (.inr ⟨?_,λJ e=>?_,by simp[h.len]⟩) (λj th p f c=>?_)
 ·rw[Xj w3 pb 3 _ _ _ (i.trans h.cell)];rfl
 ·rcases D with rfl|rfl|rfl<;>simp
 ·show afM _ _ _ _ _ (P.thr++[(⟨x,[],[]⟩:AE)]).length (((P.thr++[(⟨x,[],[]⟩:AE)]).zip (U.TV++[(Yq none 0 0,Yq none 0 0)])).flatMap DN);rw[Xb,List.zip_append h.len.symm,X6];refine BA M λy k=>?_;have k:some g=some y:=k
  cases k
  exact Xo w3 ⟨pb,3,none⟩ _ g (Co q ((s pb (by omega)).trans h.tp) (by simp))
 ·have e:some g=some J:=e
  cases e
  exact q
 ·have f:(P.thr++[⟨x,[],[]⟩])[j]?=some th:=f;have c:(U.TV++[(.slice none 0 0,.slice none 0 0)])[j]?=some p:=c
  by_cases e:j<P.thr.length
  ·rw[Xz e] at f;rw[Xz (by rw[h.len];exact e)] at c;exact .inl ⟨f,c,by simp,by simp⟩
  ·right;have I:=(Xf.1 f).1
   simp at I
   have v:j=P.thr.length:=by omega
   subst v;rw[XD (Xd _),YK] at f;rw[<-h.len,XD (Xd _),YK] at c
   cases f;cases c
   exact⟨XG _ _ _ _,(λg e=>by cases e),XG _ _ _ _,(λg e=>by cases e)⟩
theorem Qa {th th':AE} {p p':Xk×Xk} {j:Nat} (l:List AE) (m:List (Xk×Xk)):(l.zip m).set j (th',p')=(l.set j th').zip (m.set j p'):=by
 induction l generalizing j m with
 |nil=>simp
 |cons a l c=>
  cases m with
  |nil=>simp
  |cons b m=>
   cases j with
   |zero=>simp
   |succ j=>simp[c]
theorem Ak.Pa {w3:Xh} {tag3:Nat->RT} {j r a y:Nat} {th th':AE} {p p':Xk×Xk} {v:Xk} {gk:RT} (h:Ak w tag base pb P U) (z:P.thr[j]?=some th) (R:U.TV[j]?=some p) (D:r<3) (S:DN (th',p')=(DN (th,p)).set r v) (s:gk = .cd j\/gk = .lb j)
 (q:U.tV = .slice (some ⟨a,0,none⟩) P.thr.length y) (Z:w.heap.size+1<=w3.heap.size) (N:w3.os=w.os) (W:w3.tape=w.tape) (T:w3.output=w.output)
 (B:∀b,b<w.heap.size->tag b≠gk->w3.heap[b]?=w.heap[b]?) (H:∀b,b<=w.heap.size->tag3 b=tag b) (K:∀b,w.heap.size<=b->tag3 b≠.o->b<w3.heap.size)
 (V:∀A:Xh,(∀b,b≠a->A.heap[b]?=w3.heap[b]?)->JC A tag3 base j th' p') :
 w3.cell? ⟨a,j*3+r,none⟩=(DN (th,p))[r]?/\w3.frozen? ⟨a,j*3+r,none⟩=false/\Ak (w3.setCell ⟨a,j*3+r,none⟩ v) tag3 base pb {P with thr:=P.thr.set j th'} {U with TV:=U.TV.set j p'}/\Ah w tag (w3.setCell ⟨a,j*3+r,none⟩ v) tag3:=by
 have Y:=h.lt h.tp (by simp);have m:tag a = .row 116:=h.tt a (by rw[q];rfl);have Q:=h.lt m (by simp);have C:=(Xf.1 z).1;have n:gk≠.o/\gk≠.row 116/\gk≠.rd/\∀k,gk≠.row k:=by rcases s with rfl|rfl<;>simp
 have F:=h.trow;rw[q] at F;have u:w3.ownsRow base 199 3 (.slice (some ⟨a,0,none⟩) P.thr.length y) P.thr.length ((P.thr.zip U.TV).flatMap DN):=BA F λx l=>by
  have l:some a=some x:=l
  cases l
  exact B a Q (by rw[m];exact λe=>n.2.1 e.symm)
 have I:(P.thr.zip U.TV)[j]?=some (th,p):=by
  rw[Zu];exact⟨z,R⟩
 have t:∀b,b<w.heap.size->tag b≠gk->b≠a->(w3.setCell ⟨a,j*3+r,none⟩ v).heap[b]?=w.heap[b]?:=λb f g d=>(Xo w3 ⟨a,j*3+r,none⟩ _ b d).trans (B b f g);have l:Ah w tag (w3.setCell ⟨a,j*3+r,none⟩ v) tag3:=⟨N,W,T,by simp;omega,λb f=>H b (by omega),λb f G=>t b f (by rw[G];exact λe=>n.1 e.symm) (Co G m (by simp))⟩;refine⟨?_,u.frozenAt _,?_,l⟩
 ·rw[u.cellAt (j*3+r) (by omega)];exact GL Jc I D
 refine h.step (λx=>x=gk\/x = .row 116) l (λb f g d=>t b f (λe=>d (.inl e)) (λe=>d (by rw[e];exact .inr m))) (λb f X=>by simp only[XC];exact K b f X) ?_ (λk' O=>.inl ⟨rfl,rfl,?_⟩) (.inr ⟨?_,λE e=>?_,by simp[h.len]⟩) (λi J M g d=>?_)
 ·exact(t pb Y (by rw[h.tp];exact λe=>n.2.2.1 e.symm) (Co h.tp m (by simp))).trans h.cell
 ·rintro(e|e)
  ·exact n.2.2.2 k' e.symm
  ·rcases O with rfl|rfl|rfl<;>cases e
 ·show afM _ _ _ _ U.tV (P.thr.set j th').length (((P.thr.set j th').zip (U.TV.set j p')).flatMap DN);rw[List.length_set,<-Qa (th:=th) (p:=p),q,<-NQ Jc I D S]
  exact(u.stored (j*3+r) v).1
 ·have e:U.tV.ownBlock=some E:=e;rw[q] at e;have e:some a=some E:=e
  cases e
  exact(H a (by omega)).trans m
 ·have g:(P.thr.set j th')[i]?=some J:=g;have d:(U.TV.set j p')[i]?=some M:=d
  by_cases e:i=j
  ·subst e;right;rw[YJ C] at g;rw[YJ (by rw[h.len];exact C)] at d
   cases g;cases d
   exact V _ (λb f=>Xo w3 ⟨a,i*3+r,none⟩ _ b f)
  ·rw[List.getElem?_set_ne (λc=>e c.symm)] at g d;refine .inl ⟨g,d,?_,?_⟩
   ·rintro(c|c)
    ·rcases s with rfl|rfl
     ·cases c;exact e rfl
     ·cases c
    ·cases c
   ·rintro(c|c)
    ·rcases s with rfl|rfl
     ·cases c
     ·cases c;exact e rfl
    ·cases c
end
section
variable {w w':Xh} {tag tag':Nat->RT} {base pb:Nat} {P:RP} {U:RV}
theorem Ak.KM (h:Ak w tag base pb P U) {j:Nat} {th:AE} (b:P.thr[j]?=some th):∃c a,U.tV = .slice (some ⟨c,0,none⟩) P.thr.length a:=by
 have e:=(Xf.1 b).1;obtain⟨m,d⟩:∃m,P.thr.length=m+1:=⟨P.thr.length - 1,by omega⟩;have:=h.trow;rw[d] at this |-;exact Y5 this
theorem Ak.label (h:Ak w tag base pb P U) {j:Nat} {th:AE} {p:Xk×Xk} (k:P.thr[j]?=some th) (q:U.TV[j]?=some p) (x:Tx) (n:Nat) (H:th.labs.length<1048576) {c u:Nat} (t:U.tV = .slice (some ⟨c,0,none⟩) P.thr.length u) :
 ∃g cap w3,(XN #[197,197] 197 #[p.2,.slice (some ⟨w.heap.size,0,none⟩) 1 1]).run Tryz.prog (w.alloc (.cells #[.string (bs x),.int .i64 n] 202)) = .ok (.slice (some ⟨g,0,none⟩) (th.labs.length+1) cap) w3/\w3.cell? ⟨c,j*3+2,none⟩=some p.2/\w3.frozen? ⟨c,j*3+2,none⟩=false/\
  ∃tag',Ak (w3.setCell ⟨c,j*3+2,none⟩ (.slice (some ⟨g,0,none⟩) (th.labs.length+1) cap)) tag' base pb {P with thr:=P.thr.set j {th with labs:=th.labs++[(x,n)]}} {U with TV:=U.TV.set j (p.1,.slice (some ⟨g,0,none⟩) (th.labs.length+1) cap)}/\Ah w tag (w3.setCell ⟨c,j*3+2,none⟩ (.slice (some ⟨g,0,none⟩) (th.labs.length+1) cap)) tag':=by
 have e:∀b,tag b≠.o->b<w.heap.size:=λb F=>(h.tlt b F).2;have R:=h.g3;have d:=h.ths j th p k q;have f:tag c = .row 116:=h.tt c (by rw[t];rfl);obtain⟨T,J,M,z,C⟩:=YN Tryz.infoRL;obtain⟨g,cap,w3,tag3,A,N,s,E,I,D,z3,m,i,B⟩:=MK d.labs d.tl (by simp) Tryz.underlying197 J M z C rfl (by omega) [.string (bs x),.int .i64 n] rfl (by simp[Zw]) 197 H (by omega) e;obtain⟨Q,O,K,G⟩:=h.Pa (w3:=w3) (tag3:=tag3) (r:=2) (th':={th with labs:=th.labs++[(x,n)]}) (p':=(p.1,.slice (some ⟨g,0,none⟩) (th.labs.length+1) cap)) (v:=.slice (some ⟨g,0,none⟩) (th.labs.length+1) cap) (gk:=.lb j) k q (by omega) rfl (.inr rfl) t z3 E I D m i B (λS l=>by
  refine⟨BA d.code λy a=>?_,λy a=>(i y (by have:=e y (by rw[d.tc y a];simp);omega)).trans (d.tc y a),?_,λy a=>?_⟩
  ·rw[l y (Co (d.tc y a) f (by simp))];exact m y (e y (by rw[d.tc y a];simp)) (by rw[d.tc y a];simp)
  ·show afM _ _ _ _ _ (th.labs++[(x,n)]).length ((th.labs++[(x,n)]).flatMap Lu);rw[Xb,X6];refine BA N λy a=>?_;have a:some g=some y:=a
   cases a
   exact l g (Co s ((i c (by have:=e c (by rw[f];simp);omega)).trans f) (by simp))
  ·have a:some g=some y:=a
   cases a;exact s)
 exact⟨g,cap,w3,A,Q,O,tag3,K,G⟩
theorem Ak.Ud (h:Ak w tag base pb P U) {j:Nat} {th:AE} {p:Xk×Xk} (l:P.thr[j]?=some th) (q:U.TV[j]?=some p) (r:RI) (G:th.code.length<1048576) {c u:Nat} (t:U.tV = .slice (some ⟨c,0,none⟩) P.thr.length u) :
 ∃g cap w3,(XN #[196,196] 196 #[p.1,.slice (some ⟨w.heap.size,0,none⟩) 1 1]).run Tryz.prog (w.alloc (.cells (AN r).toArray 177)) = .ok (.slice (some ⟨g,0,none⟩) (th.code.length+1) cap) w3/\w3.cell? ⟨c,j*3+1,none⟩=some p.1/\w3.frozen? ⟨c,j*3+1,none⟩=false/\
  ∃tag',Ak (w3.setCell ⟨c,j*3+1,none⟩ (.slice (some ⟨g,0,none⟩) (th.code.length+1) cap)) tag' base pb {P with thr:=P.thr.set j {th with code:=th.code++[r]}} {U with TV:=U.TV.set j (.slice (some ⟨g,0,none⟩) (th.code.length+1) cap,p.2)}/\Ah w tag (w3.setCell ⟨c,j*3+1,none⟩ (.slice (some ⟨g,0,none⟩) (th.code.length+1) cap)) tag':=by
 have f:∀b,tag b≠.o->b<w.heap.size:=λb E=>(h.tlt b E).2;have Q:=h.g3;have d:=h.ths j th p l q;have i:tag c = .row 116:=h.tt c (by rw[t];rfl);obtain⟨S,I,K,x,B⟩:=YN Tryz.infoRI;obtain⟨g,cap,w3,tag3,z,M,s,D,H,C,z3,n,k,A⟩:=MK d.code d.tc (by simp) Tryz.underlying196 I K x B rfl (by omega) (AN r) rfl (by simp[AN,Zw]) 196 G (by omega) f;obtain⟨O,N,J,F⟩:=h.Pa (w3:=w3) (tag3:=tag3) (r:=1) (th':={th with code:=th.code++[r]}) (p':=(.slice (some ⟨g,0,none⟩) (th.code.length+1) cap,p.2)) (v:=.slice (some ⟨g,0,none⟩) (th.code.length+1) cap) (gk:=.cd j) l q (by omega) rfl (.inl rfl) t z3 D H C n k A (λR m=>by
  refine⟨?_,λy a=>?_,BA d.labs λy a=>?_,λy a=>(k y (by have:=f y (by rw[d.tl y a];simp);omega)).trans (d.tl y a)⟩
  ·show afM _ _ _ _ _ (th.code++[r]).length ((th.code++[r]).flatMap AN);rw[Xb,X6];have e:[r].flatMap AN=AN r:=by simp
   rw[e];refine BA M λy a=>?_;have a:some g=some y:=a
   cases a
   exact m g (Co s ((k c (by have:=f c (by rw[i];simp);omega)).trans i) (by simp))
  ·have a:some g=some y:=a
   cases a;exact s
  ·rw[m y (Co (d.tl y a) i (by simp))];exact n y (f y (by rw[d.tl y a];simp)) (by rw[d.tl y a];simp))
 exact⟨g,cap,w3,z,O,N,tag3,J,F⟩
theorem Ak.Hd (h:Ak w tag base pb P U) {j r:Nat} {th:AE} {p:Xk×Xk} (a:P.thr[j]?=some th) (g:U.TV[j]?=some p) (e:r<3) {c d:Nat} (f:U.tV = .slice (some ⟨c,0,none⟩) P.thr.length d):w.cell? ⟨c,j*3+r,none⟩=(DN (th,p))[r]?:=by
 have i:=(Xf.1 a).1;have b:=h.trow;rw[f] at b;rw[b.cellAt (j*3+r) (by omega)];exact GL Jc (by rw[Zu];exact⟨a,g⟩) e
end
def RP.names (P:RP):List Tx:=P.thr.map AE.name
theorem QQ {w:Xh} {u:Nat->RT} {base q:Nat} {P:RP} {U:RV} (h:Ak w u base q P U) (x:Tx) (E:P.thr.length<1048576) :
 XX Tryz.prog 114 #[Ab q,.string (bs x)] w λe w'=>e = .returned (.int .i64 (Aq P.names x))/\w'=w:=by
 have c3:=h.Hc;obtain⟨D,B,b⟩:=At h.trow;rw[b] at c3;have H:=Aa h;replace b:=Aa b;unfold Ab;clear h
 go_enter Tryz.func114,Tryz.ntmps114
 go_wp2_with fail
 go_loopw [5] (λf wr=>∃i:Nat,i<=P.thr.length/\f = .int .i64 i/\(∀j:Nat,j<i->P.names.getD j []≠x)/\wr=w) (λf _=>P.thr.length - (intOf f).toNat)
 case atStart=>exact⟨0,Xw _,rfl,λj k=>by omega,rfl⟩
 case round=>
  obtain⟨i,F,rfl,a,rfl⟩:=hrel;have z:P.names.length=P.thr.length:=by simp[RP.names]
  by_cases m:i<P.thr.length
  ·obtain⟨th,d⟩:∃th,P.thr[i]?=some th:=⟨_,Xe m⟩;obtain⟨p,v⟩:∃p,U.TV[i]?=some p:=⟨_,Xe (by rw[H.out.len];exact m)⟩;obtain⟨t,C,o⟩:=H.out.KM d;have e:=b.out;rw[o] at e
   cases e
   have G:(i:Int)<(P.thr.length:Int):=by omega
   have c0:wr.cell? ⟨t,i*3,none⟩=some (.string (bs th.name)):=H.out.Hd d v (r:=0) (by omega) o;have c:P.names.getD i []=th.name:=by
    rw[Xc,RP.names,Xs,d];rfl
   have g:=Aa (⟨a,λh=>NU (l:=P.names) (n:=x) (i:=i) (by omega) a (by rw[c];exact h),c⟩:_/\(th.name=x->_)/\_);have s:((bs th.name).toList == (bs x).toList)=decide (th.name=x):=by
    rw[AK,AK]
    by_cases e:th.name=x<;>simp[e]
   clear a c z
   by_cases e:th.name=x
   ·rw[decide_eq_true e] at s;replace e:=Aa e
    go_wp2_with fail
    go_ret
    exact⟨by rw[g.out.2.1 e.out];rfl,by trivial⟩
   ·rw[decide_eq_false e] at s;replace e:=Aa e
    go_wp2_with fail
    go_roundw
    case rel=>
     refine⟨i+1,by omega,by go_num,λj k=>?_,by trivial⟩
     by_cases A:j=i
     ·subst A;rw[g.out.2.2];exact e.out
     ·exact g.out.1 j (by omega)
    case measure=>simp[intOf];omega
  ·have y:Hid (Aq P.names x = -1):=NT (λj k=>a j (by omega));clear a
   go_wp2_with fail
   go_ret
   exact⟨by rw[y.out];rfl,by trivial⟩
def EF (P:RP) (x:Tx):Bool:=decide (0<=Aq P.vs x)||decide (0<=Aq P.fs x)||decide (0<=Aq P.ls x)||decide (0<=Aq P.names x)
end Go.Proofs.YtdcacoifehkioaaGreatDoor
