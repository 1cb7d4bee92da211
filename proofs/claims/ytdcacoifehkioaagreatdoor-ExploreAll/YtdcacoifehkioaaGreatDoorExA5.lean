import Derived.Test.YtdcacoifehkioaaGreatDoorExA0
import Derived.Test.YtdcacoifehkioaaGreatDoorExA4
import Derived.Test.YtdcacoifehkioaaGreatDoorExA3
open Go renaming World->Xh,Calls->XY,Value->Xk,bodyPost_ret->XI,TypeId->YH,info_parts->YI,heap_setCell_same->Xj,ownsRow_succ->Y5
open Go.World renaming cell?->Xg,alloc_heap_new->Xi,cell?_of_block->Xw,frozen?_of_block->YS,size_setCell->XA,ownsRow->afx,ownsRow_nil->XE
open Nat renaming lt_of_lt_of_le->XF,le_refl->Xd,zero_le->Xx,zero_add->XD,zero_mul->afU,add_mul->afE,sub_self->YR
open Go.IntWalk renaming wrap64_in->XZ
open List renaming take_length->Yp,length_map->Xp,getElem?_map->Xs,getElem?_eq_getElem->Xe,getD_eq_getElem?_getD->Xc,flatMap_cons->XO,getElem?_append_left->XC,getElem?_append_right->XK,getElem?_eq_some_iff->Xf,length_append->Xb,flatMap_append->Ya,getElem?_zip_eq_some->Zr,getElem?_set_self->YF
open Go.Builtin renaming append_->XL
open Go.Value renaming oneCell'->Zt,slice->Yn
open Go.RowKit.Below renaming heap_setCell->Xn
open ByteArray renaming empty->Yv
set_option maxRecDepth 100000
set_option maxHeartbeats 1000000
set_option linter.unusedVariables false
set_option linter.unusedSimpArgs false
namespace Go.Proofs.YtdcacoifehkioaaGreatDoor
open Go.RowKit Go.Proofs.Cod
def Cp (c:UInt8):UInt8:=if c == 118 then 120 else c
def AG (t:Tx):Tx:=match Df t with
 |some ps=>ps.map Cp
 |none=>[63]
theorem Jk (t:Tx):(∃p,p∈Bb/\t=p.1/\Df t=some p.2)\/(Df t=none/\∀p,p∈Bb->(t == p.1)=false):=by
 unfold Df
 cases h:Bb.find? (λp=>decide (p.1=t)) with
 |some p=>
  have a:=List.mem_of_find?_eq_some h;have b:=List.find?_some h;exact .inl ⟨p,a,by simpa using (of_decide_eq_true b).symm,rfl⟩
 |none=>
  refine .inr ⟨rfl,λp c=>?_⟩;have:=List.find?_eq_none.1 h p c
  simp at this
  exact beq_eq_false_iff_ne.2 (λe=>this e.symm)
theorem Lf (t:Tx) (w:Xh):XY Tryz.prog 113 #[.string (bs t)] w λe w'=>e = .returned (.string (bs (AG t)))/\w'=w:=by
 have C:∀o:List UInt8,((bs t).toList == o)=(t == o):=λo=>by rw[AL]
 rcases Jk t with⟨p,f,q,d⟩|⟨c,a⟩
 ·have b:AG t=p.2.map Cp:=by unfold AG;rw[d]
  rw[b];clear b d;simp only[Bb,List.mem_cons,List.not_mem_nil,or_false] at f
  rcases f with rfl|rfl|rfl|rfl|rfl|rfl|rfl|rfl|rfl|rfl|rfl|rfl|rfl|rfl|rfl|rfl|rfl
  all_goals
   subst q
   go_enter Tryz.func113,Tryz.ntmps113
   go_wp2_with fail
   go_ret
   exact⟨rfl,rfl⟩
 ·have b:AG t=[63]:=by unfold AG;rw[c]
  rw[b];have r:=a ([115,101,116],[114,97]) (by simp[Bb]);have y:=a ([97,100,100],[114,97,98]) (by simp[Bb]);have g:=a ([115,117,98],[114,97,98]) (by simp[Bb]);have m:=a ([109,117,108],[114,97,98]) (by simp[Bb]);have x:=a ([108,111,97,100],[114,118]) (by simp[Bb]);have j:=a ([115,116,111,114,101],[118,97]) (by simp[Bb]);have u:=a ([103,101,116],[114,102]) (by simp[Bb]);have l:=a ([112,117,116],[102,97]) (by simp[Bb]);have B:=a ([108,111,99,107],[109]) (by simp[Bb]);have h:=a ([117,110,108,111,99,107],[109]) (by simp[Bb]);have s:=a ([115,112,97,119,110],[116]) (by simp[Bb]);have n:=a ([106,111,105,110],[116]) (by simp[Bb]);have k:=a ([106,117,109,112],[108]) (by simp[Bb]);have v:=a ([106,101,113],[97,98,108]) (by simp[Bb]);have z:=a ([106,108,116],[97,98,108]) (by simp[Bb]);have i:=a ([99,104,101,99,107],[97,98]) (by simp[Bb]);have A:=a ([101,110,100],[]) (by simp[Bb]);dsimp only at r y g m x j u l B h s n k v z i A;clear a c b
  go_enter Tryz.func113,Tryz.ntmps113
  go_wp2_with fail
  go_ret
  exact⟨rfl,rfl⟩
theorem Jv {w:Xh} {fn:Func} {tmps:Array Xk} {b:Nat} {x a c:Xk} (g:fn.results = #[.cell 2 175,.tmp 3]) (f:tmps[2]?=some (.pointer (some ⟨b,0,none⟩))) (e:tmps[3]?=some x) (d:w.heap[b]?=some (.cells #[a,c] 175)):(results fn tmps).run Tryz.prog w = .ok (.tuple #[.agg #[a,c],x]) w:=by
 have c0:w.cell? ⟨b,0,none⟩=some a:=by simp[Xg,d]
 have c1:w.cell? ⟨b,1,none⟩=some c:=by simp[Xg,d]
 simp[results,g,f,e,go_sem,c0,c1]
theorem QF (t:Tx):Fa t=if At t then(De t:Int) else -1:=by
 unfold Fa
 cases h:At t with
 |false=>rfl
 |true=>
  obtain⟨a,b,rfl,c,d⟩:=NA h;simp only[if_true,De];show (b.toNat:Int) - 48=((b.toNat - 48:Nat):Int)
  omega
theorem aa4 {t:Tx} {i:Nat} (h:i<t.length):Dn (t.take (i+1))=Dn (t.take i)*10+(t[i].toNat - 48):=by
 unfold Dn;rw[List.take_succ_eq_append_getElem h,List.foldl_append];rfl
theorem MZ {t:Tx} (h:t.all Bj=true):Dn t<10 ^ t.length:=by
 have key:∀(t:Tx) (a:Nat),t.all Bj=true->t.foldl (λn c=>n*10+(c.toNat - 48)) a<(a+1)*10 ^ t.length:=by
  intro t
  induction t with
  |nil=>intro a _;simp
  |cons c t b=>
   intro a h;simp only[List.all_cons,Bool.and_eq_true] at h;have d:=h.1;simp[Bj] at d;have:=b (a*10+(c.toNat - 48)) h.2;simp only[List.foldl_cons,List.length_cons];refine XF this ?_;rw[Nat.pow_succ,Nat.mul_comm (10 ^ t.length) 10,<-Nat.mul_assoc];exact Nat.mul_le_mul_right _ (by omega)
 have:=key t 0 h
 simpa [Dn] using this
def DQ (t:Tx):Bool:=At t||CI t
def Gn (t:Tx):Xk:=if DQ t then .agg #[.bool (At t),.int .i64 (Bd t)] else .agg #[.bool false,.int .i64 0]
theorem aam (t:Tx) (w:Xh):XY Tryz.prog 147 #[.string (bs t)] w λe w'=>e = .returned (.tuple #[Gn t,.bool (DQ t)])/\Below w.heap.size w w':=by
 have k:Hid (∀x,Below w.heap.size w (w.alloc x)):=λx=>(Below.refl _ _).alloc (Xd _) _;have M:=Bg t;have f:=λu=>MP t u;rw[QF] at f
 cases b:At t with
 |true=>
  rw[b] at f;simp only[if_true] at f;have a:Hid (Gn t = .agg #[.bool true,.int .i64 (De t)]/\DQ t=true):=by
   unfold Hid Gn DQ Bd;rw[b];exact⟨rfl,rfl⟩
  have I:(0:Int)<=(De t:Int):=by omega
  go_enter Tryz.func147,Tryz.ntmps147
  go_wp2_with fail
  refine(f _).mono ?_;rintro e w1 ⟨rfl,rfl⟩
  go_wp2_with fail
  exact XI (Jv rfl rfl rfl (Xi w _)) rfl ⟨by first|(rw[a.out.1,a.out.2];done)|(rw[a.out.1,a.out.2];rfl),k.out _⟩
 |false=>
  rw[b] at f;simp only[Bool.false_eq_true,if_false] at f
  by_cases s:1<=t.length/\t.length<=3
  ·have y:Hid (CI t=t.all Bj):=by unfold Hid CI;rw[decide_eq_true s.1,decide_eq_true s.2];rfl
   have z:¬((t.length:Int)<1):=by omega
   have r:¬(3<(t.length:Int)):=by omega
   replace b:=Aa b
   go_enter Tryz.func147,Tryz.ntmps147
   go_wp2_with fail
   refine(f _).mono ?_;rintro e w1 ⟨rfl,rfl⟩
   go_wp2_with fail
   go_loopw [5,6] (λnv q wr=>∃i:Nat,i<=t.length/\q = .int .i64 i/\nv = .int .i64 (Dn (t.take i))/\(t.take i).all Bj=true/\wr=w.alloc (.cells #[.bool false,.int .i64 0] 175)) (λ_ q _=>t.length - (intOf q).toNat)
   case atStart=>exact⟨0,Xx _,rfl,by simp[Dn],by simp,rfl⟩
   case round=>
    obtain⟨i,K,rfl,rfl,c,rfl⟩:=hrel
    by_cases o:i<t.length
    ·have P:∀h,(bs t)[i]'h=t[i]:=λh=>Dx t i h;have J:(i:Int)<(t.length:Int):=by omega
     have j:=LZ (p:=Bj) o;have m:=MZ c;rw[List.length_take] at m;have v:(10:Nat) ^ min i t.length<=10 ^ 3:=Nat.pow_le_pow_right (by omega) (by omega);have Q:Dn (t.take i)<1000:=by omega
     have n:=aa4 o
     cases d:Bj t[i] with
     |true=>
      have A:=d;simp[Bj] at A;have H:¬((t[i].toNat:Int)<48):=by omega
      have F:¬(57<(t[i].toNat:Int)):=by omega
      have N:wrap64 (10*(Dn (t.take i):Int))=10*(Dn (t.take i):Int):=XZ _ (by omega);have S:wrap64 (10*(Dn (t.take i):Int)+(t[i].toNat:Int))=10*(Dn (t.take i):Int)+(t[i].toNat:Int):=XZ _ (by omega);have R:wrap64 (10*(Dn (t.take i):Int)+(t[i].toNat:Int) - 48)=10*(Dn (t.take i):Int)+(t[i].toNat:Int) - 48:=XZ _ (by omega);have l:(Dn (t.take (i+1)):Int)=10*(Dn (t.take i):Int)+(t[i].toNat:Int) - 48:=by rw[n];omega
      have D:=Aa (⟨j,c,d,l⟩:_/\_/\_/\_);clear j c d m n l A v
      go_wp2_with fail
      go_roundw
      case rel=>
       obtain⟨j,c,d,l⟩:=D.out;refine⟨i+1,by omega,by go_num,?_,by rw[j,c,d];rfl,by trivial⟩;rw[l];rfl
      case measure=>simp[intOf];omega
     |false=>
      have a:Hid (Gn t = .agg #[.bool false,.int .i64 0]/\DQ t=false):=by
       have:DQ t=false:=by unfold DQ;rw[b.out,y.out,Ma o d];rfl
       unfold Hid Gn;rw[this];exact⟨rfl,rfl⟩
      by_cases H:(t[i].toNat:Int)<48
      ·clear j c m n v d
       go_wp2_with fail
       exact XI (Jv rfl rfl rfl (Xi w _)) rfl ⟨by first|(rw[a.out.1,a.out.2];done)|(rw[a.out.1,a.out.2];rfl),k.out _⟩
      ·have F:(57<(t[i].toNat:Int)):=by
        simp[Bj] at d
        omega
       clear j c m n v d
       go_wp2_with fail
       exact XI (Jv rfl rfl rfl (Xi w _)) rfl ⟨by first|(rw[a.out.1,a.out.2];done)|(rw[a.out.1,a.out.2];rfl),k.out _⟩
    ·have G:i=t.length:=by omega
     subst G;rw[Yp] at c;have a:Hid (Gn t = .agg #[.bool false,.int .i64 (Dn t)]/\DQ t=true):=by
      have E:DQ t=true:=by unfold DQ;rw[b.out,y.out,c];rfl
      have C:Bd t=Dn t:=by unfold Bd;rw[b.out];rfl
      unfold Hid Gn;rw[E,b.out,C];exact⟨rfl,rfl⟩
     have O:t.take t.length=t:=Yp;clear c
     go_wp2_with fail
     exact XI (Jv rfl rfl rfl (Xi w _)) rfl ⟨by first|(rw[a.out.1,a.out.2];done)|(rw[a.out.1,a.out.2];rfl),k.out _⟩
  ·have a:Hid (Gn t = .agg #[.bool false,.int .i64 0]/\DQ t=false):=by
    have B:CI t=false:=by
     unfold CI
     by_cases g:1<=t.length
     ·have r:¬t.length<=3:=λh=>s ⟨g,h⟩;rw[decide_eq_false r];simp
     ·rw[decide_eq_false g];rfl
    have:DQ t=false:=by unfold DQ;rw[b,B];rfl
    unfold Hid Gn;rw[this];exact⟨rfl,rfl⟩
   replace b:=Aa b
   by_cases g:t.length=0
   ·have z:((t.length:Int)<1):=by omega
    go_enter Tryz.func147,Tryz.ntmps147
    go_wp2_with fail
    refine(f _).mono ?_;rintro e w1 ⟨rfl,rfl⟩
    go_wp2_with fail
    exact XI (Jv rfl rfl rfl (Xi w _)) rfl ⟨by first|(rw[a.out.1,a.out.2];done)|(rw[a.out.1,a.out.2];rfl),k.out _⟩
   ·have z:¬((t.length:Int)<1):=by omega
    have r:(3<(t.length:Int)):=by omega
    go_enter Tryz.func147,Tryz.ntmps147
    go_wp2_with fail
    refine(f _).mono ?_;rintro e w1 ⟨rfl,rfl⟩
    go_wp2_with fail
    exact XI (Jv rfl rfl rfl (Xi w _)) rfl ⟨by first|(rw[a.out.1,a.out.2];done)|(rw[a.out.1,a.out.2];rfl),k.out _⟩
def Aq:List Tx->Tx->Int
 |[],_=>-1
 |t::l,n=>if t=n then 0 else if Aq l n = -1 then -1 else Aq l n+1
theorem Ik (l:List Tx) (n:Tx) : -1<=Aq l n:=by
 induction l with
 |nil=>simp[Aq]
 |cons t l a=>
  unfold Aq
  split
  ·omega
  ·split<;>omega
theorem NN {l:List Tx} {n:Tx} (h:∀j:Nat,j<l.length->l.getD j []≠n):Aq l n = -1:=by
 induction l with
 |nil=>rfl
 |cons t l a=>
  unfold Aq;rw[if_neg (by simpa using h 0 (by simp)),a (λj b=>by simpa using h (j+1) (by simpa using b)),if_pos rfl]
theorem NO {l:List Tx} {n:Tx} {i:Nat} (b:i<l.length) (h:∀j:Nat,j<i->l.getD j []≠n) (a:l.getD i []=n):Aq l n=i:=by
 induction l generalizing i with
 |nil=>simp at b
 |cons t l c=>
  unfold Aq
  cases i with
  |zero=>rw[if_pos (by simpa using a)];rfl
  |succ i=>
   rw[if_neg (by simpa using h 0 (by omega))];have:=c (i:=i) (by simpa using b) (λj d=>by simpa using h (j+1) (by omega)) (by simpa using a);rw[this,if_neg (by omega)];omega
theorem II (a:Option Addr) (n cap:Nat) (ts:List Tx) (x:Tx) (w:Xh) (y:ts.length=n) (p:Ws w a ts) (s:n<4294967281) :
 XY Tryz.prog 145 #[.slice a n cap,.string (bs x)] w λe w'=>e = .returned (.int .i64 (Aq ts x))/\w'=w:=by
 go_enter Tryz.func145,Tryz.ntmps145
 go_wp2_with fail
 go_loopw [5] (λd wr=>∃i:Nat,i<=n/\d = .int .i64 i/\(∀j:Nat,j<i->ts.getD j []≠x)/\wr=w) (λd _=>n - (intOf d).toNat)
 case atStart=>exact⟨0,Xx _,rfl,λj k=>by omega,rfl⟩
 case round=>
  obtain⟨i,u,rfl,c,rfl⟩:=hrel
  by_cases z:i<n
  ·obtain⟨b,v,rfl,_,c0⟩:=p i (by omega);have r:(i:Int)<(n:Int):=by omega
   have f:=Aa (⟨c,λh=>NO (l:=ts) (n:=x) (i:=i) (by omega) c h⟩:_/\(ts.getD i []=x->_));generalize g:ts.getD i []=t at c0 f;replace g:=Aa g;have m:((bs t).toList == (bs x).toList)=decide (t=x):=by
    rw[AL,AL]
    by_cases e:t=x<;>simp[e]
   clear c
   by_cases e:t=x
   ·rw[decide_eq_true e] at m;replace e:=Aa e
    go_wp2_with fail
    go_ret
    exact⟨by rw[f.out.2 e.out];rfl,by trivial⟩
   ·rw[decide_eq_false e] at m;replace e:=Aa e
    go_wp2_with fail
    go_roundw
    case rel=>
     refine⟨i+1,by omega,by go_num,λj k=>?_,by trivial⟩
     by_cases o:j=i
     ·subst o;rw[g.out];exact e.out
     ·exact f.out.1 j (by omega)
    case measure=>simp[intOf];omega
  ·have q:Hid (Aq ts x = -1):=NN (λj k=>c j (by omega));clear c
   go_wp2_with fail
   go_ret
   exact⟨by rw[q.out];rfl,by trivial⟩
structure RI where
 i:Ad
 line:Int
 word:Tx
structure AE where
 name:Tx
 code:List RI
 labs:List (Tx×Nat)
structure RP where
 vs:List Tx
 fs:List Tx
 ls:List Tx
 thr:List AE
def AK (r:RI):List Xk:=[.string (bs r.i.op),.int .i64 r.i.r,.bool r.i.aR,.int .i64 r.i.aN,.bool r.i.bR,.int .i64 r.i.bN,.int .i64 r.i.x,.int .i64 r.line,.string (bs r.word)]
def Lv (p:Tx×Nat):List Xk:=[.string (bs p.1),.int .i64 p.2]
def DK (p:AE×(Xk×Xk)):List Xk:=[.string (bs p.1.name),p.2.1,p.2.2]
def RP.get (P:RP) (k:Int):List Tx:=if k=118 then P.vs else if k=102 then P.fs else P.ls
def RP.put (P:RP) (k:Int) (x:Tx):RP:=if k=118 then {P with vs:=P.vs++[x]} else if k=102 then {P with fs:=P.fs++[x]} else {P with ls:=P.ls++[x]}
structure RV where
 V:Int->Xk
 tV:Xk
 TV:List (Xk×Xk)
def Cd (k:Int):Prop:=k=118\/k=102\/k=109
def Fd (k:Int):Nat:=if k=118 then 0 else if k=102 then 1 else 2
structure Jy (w:Xh) (tag:Nat->RT) (base j:Nat) (th:AE) (p:Xk×Xk):Prop where
 code:w.ownsRow base 177 9 p.1 th.code.length (th.code.flatMap AK)
 tc:∀g,p.1.ownBlock=some g->tag g = .cd j
 labs:w.ownsRow base 202 2 p.2 th.labs.length (th.labs.flatMap Lv)
 tl:∀g,p.2.ownBlock=some g->tag g = .lb j
structure Ak (w:Xh) (tag:Nat->RT) (base pb:Nat) (P:RP) (U:RV):Prop where
 cell:w.heap[pb]?=some (.cells #[U.V 118,U.V 102,U.V 109,U.tV] 28)
 rows:∀k,Cd k->Dr w tag base 9 k (U.V k) ((P.get k).map BS)
 trow:w.ownsRow base 199 3 U.tV P.thr.length ((P.thr.zip U.TV).flatMap DK)
 tt:∀g,U.tV.ownBlock=some g->tag g = .row 116
 len:U.TV.length=P.thr.length
 ths:∀(j:Nat) (th:AE) (p:Xk×Xk),P.thr[j]?=some th->U.TV[j]?=some p->Jy w tag base j th p
 tp:tag pb = .rd
 tlt:∀b,tag b≠.o->base<=b/\b<w.heap.size
 g3:base<=w.heap.size
section
variable {w w':Xh} {tag tag':Nat->RT} {base pb:Nat} {P P':RP} {U U':RV}
theorem Jy.kept {j:Nat} {th:AE} {p:Xk×Xk} (h:Jy w tag base j th p) (a:∀b,tag b = .cd j\/tag b = .lb j->w'.heap[b]?=w.heap[b]?/\tag' b=tag b):Jy w' tag' base j th p:=
 ⟨Bw h.code λg e=>(a g (.inl (h.tc g e))).1,λg e=>(a g (.inl (h.tc g e))).2.trans (h.tc g e),Bw h.labs λg e=>(a g (.inr (h.tl g e))).1,λg e=>(a g (.inr (h.tl g e))).2.trans (h.tl g e)⟩
theorem Ak.lt (h:Ak w tag base pb P U) {b:Nat} {g:RT} (e:tag b=g) (a:g≠.o):b<w.heap.size:=(h.tlt b (by rw[e];exact a)).2
theorem Ak.low (h:Ak w tag base pb P U) {b:Nat} (e:b<base):tag b = .o:=by
 cases a:tag b with
 |o=>rfl
 |_=>exact absurd (h.tlt b (by rw[a];simp)).1 (by omega)
theorem Ak.step (h:Ak w tag base pb P U) (C:RT->Prop) (m:Ah w tag w' tag') (z:∀b,b<w.heap.size->tag b≠.o->¬C (tag b)->w'.heap[b]?=w.heap[b]?)
 (A:∀b,w.heap.size<=b->tag' b≠.o->b<w'.heap.size)
 (y:w'.heap[pb]?=some (.cells #[U'.V 118,U'.V 102,U'.V 109,U'.tV] 28))
 (u:∀k,Cd k->(U'.V k=U.V k/\P'.get k=P.get k/\¬C (.row k))\/Dr w' tag' base 9 k (U'.V k) ((P'.get k).map BS))
 (x:(U'.tV=U.tV/\P'.thr=P.thr/\U'.TV=U.TV/\¬C (.row 116))\/(w'.ownsRow base 199 3 U'.tV P'.thr.length ((P'.thr.zip U'.TV).flatMap DK)/\(∀g,U'.tV.ownBlock=some g->tag' g = .row 116)/\U'.TV.length=P'.thr.length))
 (t:∀(j:Nat) (th:AE) (p:Xk×Xk),P'.thr[j]?=some th->U'.TV[j]?=some p->(P.thr[j]?=some th/\U.TV[j]?=some p/\¬C (.cd j)/\¬C (.lb j))\/Jy w' tag' base j th p):Ak w' tag' base pb P' U':=by
 have key:∀{b:Nat} {g:RT},tag b=g->g≠.o->¬C g->w'.heap[b]?=w.heap[b]?/\tag' b=g:=λ{b g} e c q=>by
  have l:=h.lt e c
  exact⟨z b l (by rw[e];exact c) (by rw[e];exact q),(m.tags b l).trans e⟩
 have v:∀{b:Nat} {g:RT},tag b=g->g≠.o->tag' b=g:=λ{b g} e c=>(m.tags b (h.lt e c)).trans e;have r:w'.ownsRow base 199 3 U'.tV P'.thr.length ((P'.thr.zip U'.TV).flatMap DK)/\(∀g,U'.tV.ownBlock=some g->tag' g = .row 116)/\U'.TV.length=P'.thr.length:=by
  rcases x with⟨f,i,d,n⟩|e
  ·rw[f,i,d]
   exact⟨Bw h.trow λg e=>(key (h.tt g e) (by simp) n).1,λg e=>(key (h.tt g e) (by simp) n).2,h.len⟩
  ·exact e
 refine⟨y,λk s=>?_,r.1,r.2.1,r.2.2,λj th p c q=>?_,v h.tp (by simp),λb a=>?_,Nat.le_trans h.g3 m.size⟩
 ·rcases u k s with⟨f,i,d⟩|e
  ·rw[f,i];exact(h.rows k s).kept λb a=>key a (by simp) d
  ·exact e
 ·rcases t j th p c q with⟨f,i,d,n⟩|e
  ·refine(h.ths j th p f i).kept λb a=>?_
   rcases a with a|a
   ·have:=key a (by simp) d;exact⟨this.1,this.2.trans a.symm⟩
   ·have:=key a (by simp) n;exact⟨this.1,this.2.trans a.symm⟩
  ·exact e
 ·by_cases l:b<w.heap.size
  ·rw[m.tags b l] at a
   exact⟨(h.tlt b a).1,XF l m.size⟩
  ·exact⟨by have:=h.g3;omega,A b (by omega) a⟩
theorem Ak.keep (h:Ak w tag base pb P U) (a:∀b,b<w.heap.size->w'.heap[b]?=w.heap[b]?) (f:Ah w tag w' tag):Ak w' tag base pb P U:=
 h.step (λ_=>False) f (λb c _ _=>a b c) (λb c e=>absurd (h.tlt b e).2 (by omega)) ((a pb (h.lt h.tp (by simp))).trans h.cell) (λk _=>.inl ⟨rfl,rfl,id⟩) (.inl ⟨rfl,rfl,rfl,id⟩) (λj th p g d=>.inl ⟨g,d,id,id⟩)
theorem Ak.below (h:Ak w tag base pb P U) (a:Below w.heap.size w w'):Ak w' tag base pb P U:=h.keep a.block (.CF a)
theorem Ak.Ei (h:Ak w tag base pb P U) {k:Int} (a:Cd k):w.cell? ⟨pb,Fd k,none⟩=some (U.V k):=by
 rcases a with rfl|rfl|rfl<;>simp[Xg,h.cell,Fd]
theorem Ak.Ha (h:Ak w tag base pb P U):w.cell? ⟨pb,3,none⟩=some U.tV:=by simp[Xg,h.cell]
theorem Ak.DZ (h:Ak w tag base pb P U) (i:Nat):w.frozen? ⟨pb,i,none⟩=false:=by simp[World.frozen?,h.cell]
theorem FJ {e:YH} {k:Int} {v:Xk} {l:List Tx} (h:Dr w tag base e k v (l.map BS)):∃a cap,v = .slice a l.length cap/\Ws w a l:=by
 have b:=h.row;rw[Xp] at b
 rcases b.2 with⟨c,f⟩|⟨g,cap,j,c,_⟩
 ·exact⟨none,0,by rw[c,f],λi d=>by omega⟩
 ·refine⟨_,cap,c,λi d=>⟨g,0,rfl,(b.lt g (by rw[c];rfl)).2,?_⟩⟩;rw[c] at b;rw[XD,b.cellAt i (by omega),Xs,Xe d,Xc,Xe d];rfl
theorem Ak.name (h:Ak w tag base pb P U) {k:Int} (d:Cd k) (x:Tx) (A:(P.get k).length<1048576) :
 ∃g cap w3,(XL #[22,22] 22 #[U.V k,.slice (some ⟨w.heap.size,0,none⟩) 1 1]).run Tryz.prog (w.alloc (.cells #[.string (bs x)] 9)) = .ok (.slice (some ⟨g,0,none⟩) ((P.get k).length+1) cap) w3/\w3.cell? ⟨pb,Fd k,none⟩=some (U.V k)/\w3.frozen? ⟨pb,Fd k,none⟩=false/\
  ∃tag',Ak (w3.setCell ⟨pb,Fd k,none⟩ (.slice (some ⟨g,0,none⟩) ((P.get k).length+1) cap)) tag' base pb (P.put k x) {U with V:=AT U.V k (.slice (some ⟨g,0,none⟩) ((P.get k).length+1) cap)}/\Ah w tag (w3.setCell ⟨pb,Fd k,none⟩ (.slice (some ⟨g,0,none⟩) ((P.get k).length+1) cap)) tag':=by
 have I:∀b,tag b≠.o->b<w.heap.size:=λb c=>(h.tlt b c).2;have E:=h.lt h.tp (by simp);have O:=h.g3;obtain⟨Q,B,C,N,J⟩:=YI Tryz.infoTx;obtain⟨g,cap,w3,tag3,t,i,G,z,M,z3,r,q,D⟩:=(h.rows k d).push Tryz.underlying22 B C N J rfl (by omega) (BS x) (by simp[Zt,BS]) 22 (by simpa using A) (by omega) I;rw[Xp] at t i;have n:w3.heap[pb]?=w.heap[pb]?:=r pb E (by rw[h.tp];simp);have u:∀b,b<w.heap.size->tag b≠.row k->b≠pb->(w3.setCell ⟨pb,Fd k,none⟩ (.slice (some ⟨g,0,none⟩) ((P.get k).length+1) cap)).heap[b]?=w.heap[b]?:=λb c l f=>(Xn w3 ⟨pb,Fd k,none⟩ _ b f).trans (r b c l);have v:Ah w tag (w3.setCell ⟨pb,Fd k,none⟩ (.slice (some ⟨g,0,none⟩) ((P.get k).length+1) cap)) tag3:=⟨G,z,M,by simp;omega,λb c=>q b (by omega),λb c s=>u b c (by rw[s];simp) (Co s h.tp (by simp))⟩;refine⟨g,cap,w3,t,(Xw (w:=w) (a:=⟨pb,Fd k,none⟩) n).trans (h.Ei d),(YS (w:=w) (a:=⟨pb,Fd k,none⟩) n).trans (h.DZ _),tag3,?_,v⟩;have H:∀k',Cd k'->(P.put k x).get k'=if k'=k then P.get k++[x] else P.get k':=λk' m=>by
  rcases d with rfl|rfl|rfl<;>rcases m with rfl|rfl|rfl<;>simp[RP.put,RP.get]
 refine h.step (λx=>x = .row k\/x = .rd) v (λb c l f=>u b c (λe=>f (.inl e)) (λe=>f (by rw[e];exact .inr h.tp))) (λb c F=>by simp only[XA];exact D b c F) ?_ (λk' m=>?_) (.inl ⟨rfl,?_,rfl,?_⟩) (λj th p l f=>.inl ⟨?_,f,by simp,by simp⟩)
 ·rw[Xj w3 pb (Fd k) _ _ _ (n.trans h.cell)]
  rcases d with rfl|rfl|rfl<;>simp[Fd,AT]
 ·rw[H k' m]
  by_cases e:k'=k
  ·subst e;right;rw[if_pos rfl,List.map_append];show Dr _ _ _ _ _ (AT U.V k' _ k') _;rw[Cj];refine⟨Bw i.row λy K=>?_,i.tg⟩;exact Xn w3 ⟨pb,Fd k',none⟩ _ y (Co (i.tg y K) ((q pb (by omega)).trans h.tp) (by simp))
  ·left;rw[if_neg e]
   exact⟨Cy _ e,rfl,by simp;exact e⟩
 ·rcases d with rfl|rfl|rfl<;>simp[RP.put]
 ·rcases d with rfl|rfl|rfl<;>simp
 ·have e:(P.put k x).thr=P.thr:=by rcases d with rfl|rfl|rfl<;>simp[RP.put]
  rw[<-e];exact l
end
theorem GJ {α:Type} {f:α->List Xk} {m:Nat} (b:∀x,(f x).length=m) {l:List α} {j r:Nat} {x:α} (a:l[j]?=some x) (d:r<m):(l.flatMap f)[j*m+r]?=(f x)[r]?:=by
 induction l generalizing j with
 |nil=>cases a
 |cons y l c=>
  rw[XO]
  cases j with
  |zero=>
   have a:some y=some x:=a
   cases a
   rw[afU,XD,XC (by rw[b];exact d)]
  |succ j=>
   rw[XK (by rw[b,afE];omega),b,show (j+1)*m+r - m=j*m+r by rw[afE];omega];exact c (by simpa using a)
theorem NK {α:Type} {f:α->List Xk} {m:Nat} (b:∀x,(f x).length=m) {l:List α} {j r:Nat} {x y:α} {u:Xk} (a:l[j]?=some x) (e:r<m) (c:f y=(f x).set r u):(l.flatMap f).set (j*m+r) u=(l.set j y).flatMap f:=by
 induction l generalizing j with
 |nil=>cases a
 |cons z l d=>
  rw[XO]
  cases j with
  |zero=>
   have a:some z=some x:=a
   cases a
   rw[afU,XD,List.set_append_left _ _ (by rw[b];exact e),List.set_cons_zero,XO,c]
  |succ j=>
   rw[List.set_append_right _ _ (by rw[b,afE];omega),b,show (j+1)*m+r - m=j*m+r by rw[afE];omega,d (by simpa using a),List.set_cons_succ,XO]
theorem aex {w w':Xh} {base e a n:Nat} {v:Xk} {b:List Xk} {B:Nat} (h:w.ownsRow base e a v n b) (c:Below B w w') (d:∀g,v.ownBlock=some g->g<B):w'.ownsRow base e a v n b:=Bw h λg e=>c.block g (d g e)
theorem EH {w w':Xh} {base e a n:Nat} {v:Xk} {b:List Xk} (h:w.ownsRow base e a v n b) (c:Below w.heap.size w w'):w'.ownsRow base e a v n b:=aex h c λg e=>(h.lt g e).2
theorem IF {w:Xh} {base e n:Nat} {v:Xk} {l:List Tx} (c:w.ownsRow base e 1 v n (l.map BS)) (h:l.length=n):∃a cap,v = .slice a n cap/\Ws w a l:=by
 rcases c.2 with⟨b,f⟩|⟨g,cap,j,b,_⟩
 ·exact⟨none,0,by rw[b,f],λi d=>by omega⟩
 ·refine⟨_,cap,b,λi d=>⟨g,0,rfl,(c.lt g (by rw[b];rfl)).2,?_⟩⟩;rw[b] at c;rw[XD,c.cellAt i (by omega),Xs,Xe d,Xc,Xe d];rfl
theorem KR {w:Xh} {base e a n:Nat} {v:Xk} {b:List Xk} (h:w.ownsRow base e a v n b) {k:Nat} (d:k<n):∃g cap,v = .slice (some ⟨g,0,none⟩) n cap/\g<w.heap.size/\∀j,j<n*a->w.cell? ⟨g,j,none⟩=b[j]?:=by
 obtain⟨m,rfl⟩:∃m,n=m+1:=⟨n - 1,by omega⟩;obtain⟨g,cap,rfl⟩:=Y5 h
 exact⟨g,cap,rfl,(h.lt g rfl).2,λj c=>h.cellAt j c⟩
theorem acy (i:Ad):(Br i).toList.length=7:=rfl
theorem UU (p:Tx×Xk):[Value.string (bs p.1),p.2].length=2:=rfl
structure afa (w:Xh) (g k:Nat) (i:Ad):Prop where
 c0:w.cell? ⟨g,k*7,none⟩=some (.string (bs i.op))
 c1:w.cell? ⟨g,k*7+1,none⟩=some (.int .i64 i.r)
 c2:w.cell? ⟨g,k*7+2,none⟩=some (.bool i.aR)
 c3:w.cell? ⟨g,k*7+3,none⟩=some (.int .i64 i.aN)
 c4:w.cell? ⟨g,k*7+4,none⟩=some (.bool i.bR)
 c5:w.cell? ⟨g,k*7+5,none⟩=some (.int .i64 i.bN)
 c6:w.cell? ⟨g,k*7+6,none⟩=some (.int .i64 i.x)
theorem acJ {w:Xh} {base:Nat} {v:Xk} {is:List Ad} {k:Nat} {i:Ad} (h:w.ownsRow base 108 7 v is.length (GL is)) (a:is[k]?=some i):∃g cap,v = .slice (some ⟨g,0,none⟩) is.length cap/\g<w.heap.size/\afa w g k i:=by
 have b:=(Xf.1 a).1;obtain⟨g,cap,e,f,c⟩:=KR h b;have key:∀q,q<7->w.cell? ⟨g,k*7+q,none⟩=(Br i).toList[q]?:=λq d=>by
  rw[c (k*7+q) (by omega)];exact GJ acy a d
 exact⟨g,cap,e,f,key 0 (by omega),key 1 (by omega),key 2 (by omega),key 3 (by omega),key 4 (by omega),key 5 (by omega),key 6 (by omega)⟩
theorem MI {w:Xh} {m:Nat->RT} {base e f n:Nat} {k:RT} {v:Xk} {r:List Xk} {T:YH} {i:TypeInfo} {z:Xk} {p:Nat} (J:w.ownsRow base e f v n r) (x:∀g,v.ownBlock=some g->m g=k) (E:k≠.o) (I:Tryz.prog.underlying T=some (.slice e)) (D:Tryz.prog.info? e=some i) (F:i.zero=some z) (K:i.size=f) (N:i.bytes=p) (S:z.cells.size=f) (M:p<=128)
 (c:List Xk) (R:c.length=f) (O:∀u∈c,u.oneCell'=true) (A:YH) (W:n<1048576) (U:base<=w.heap.size) (B:∀b,m b≠.o->b<w.heap.size) :
 ∃(g cap:Nat) (w':Xh) (t:Nat->RT),(XL #[T,T] A #[v,.slice (some ⟨w.heap.size,0,none⟩) 1 1]).run Tryz.prog (w.alloc (.cells c.toArray e)) = .ok (.slice (some ⟨g,0,none⟩) (n+1) cap) w'/\
  w'.ownsRow base e f (.slice (some ⟨g,0,none⟩) (n+1) cap) (n+1) (r++c)/\t g=k/\w'.os=w.os/\w'.tape=w.tape/\w'.output=w.output/\w.heap.size+1<=w'.heap.size/\
  (∀b,b<w.heap.size->m b≠k->w'.heap[b]?=w.heap[b]?)/\(∀b,b<=w.heap.size->t b=m b)/\(∀b,w.heap.size<=b->t b≠.o->b<w'.heap.size):=by
 obtain⟨V,w',C,q,h,a⟩:=JO (P:=Tryz.prog) (w.alloc (.cells c.toArray e)) base T A e i z f p I D F K N S v n r (J.alloc _) ⟨w.heap.size,0,none⟩ 1 1 c (by omega) (by simp[R])
  (λj u Q=>Od (Xi w _) (by simpa using Q)) O (by unfold maxLen;omega)
  (by have:(n+1)*p<=1048576*128:=Nat.mul_le_mul (by omega) M
      omega) (by simp;omega)
 obtain⟨g,cap,rfl⟩:=Y5 q;have G:=q.lt g rfl;have H:v.ownBlock=some g\/g=w.heap.size+1:=by
  rcases a with a|a
  ·exact .inl a.symm
  ·right;have a:some g=some (w.alloc (.cells c.toArray e)).heap.size:=a;rw[World.size_alloc] at a;exact Option.some.inj a
 have rb:∀b,b<w.heap.size->v.ownBlock≠some b->w'.heap[b]?=w.heap[b]?:=λb l d=>(h.block b (by simp;omega) (λe=>d e.symm)).trans (Below.heap_alloc w _ b l);refine⟨g,cap,w',Hd m (w.heap.size+1) k (.slice (some ⟨g,0,none⟩) (n+1) cap),C,q,?_,h.os,h.tape,h.output,by have:=h.size;simpa using this,λb l d=>rb b l (λe=>d (x b e)),λb l=>Hc (by omega),λb l d=>?_⟩
 ·rcases H with e|e
  ·have:=B g (by rw[x g e];exact E);rw[Hc (by omega)];exact x g e
  ·subst e;exact Mr rfl
 ·by_cases e:b=w.heap.size+1
  ·subst e
   by_cases y:g=w.heap.size+1
   ·rw[<-y];exact G.2
   ·exfalso;apply d
    unfold Hd;rw[FT,if_neg];intro s;have s:some g=some (w.heap.size+1):=s;exact y (Option.some.inj s)
  ·rw[Hc e] at d;have:=B b d;omega
theorem Tryz.infoRT:(Tryz.prog.info? 199).map (λi=>(i.zero,i.size,i.bytes))=some (some (.agg #[.string Yv,.slice none 0 0,.slice none 0 0]),3,64):=by kernel_rfl
theorem Tryz.infoRI:(Tryz.prog.info? 177).map (λi=>(i.zero,i.size,i.bytes))=some (some (.agg #[.string Yv,.int .i64 0,.bool false,.int .i64 0,.bool false,.int .i64 0,.int .i64 0,.int .i64 0,.string Yv]),9,88):=by kernel_rfl
theorem Tryz.infoRL:(Tryz.prog.info? 202).map (λi=>(i.zero,i.size,i.bytes))=some (some (.agg #[.string Yv,.int .i64 0]),2,24):=by kernel_rfl
theorem MK (x:RI):(AK x).length=9:=rfl
theorem Sb (x:Tx×Nat):(Lv x).length=2:=rfl
theorem IZ (x:AE×(Xk×Xk)):(DK x).length=3:=rfl
section
variable {w w':Xh} {tag tag':Nat->RT} {base pb:Nat} {P:RP} {U:RV}
theorem Ak.thread (h:Ak w tag base pb P U) (x:Tx) (A:P.thr.length<1048576) :
 ∃g cap w3,(XL #[26,26] 26 #[U.tV,.slice (some ⟨w.heap.size,0,none⟩) 1 1]).run Tryz.prog (w.alloc (.cells #[.string (bs x),.slice none 0 0,.slice none 0 0] 199)) = .ok (.slice (some ⟨g,0,none⟩) (P.thr.length+1) cap) w3/\w3.cell? ⟨pb,3,none⟩=some U.tV/\w3.frozen? ⟨pb,3,none⟩=false/\
  ∃tag',Ak (w3.setCell ⟨pb,3,none⟩ (.slice (some ⟨g,0,none⟩) (P.thr.length+1) cap)) tag' base pb {P with thr:=P.thr++[⟨x,[],[]⟩]} {U with tV:=.slice (some ⟨g,0,none⟩) (P.thr.length+1) cap,TV:=U.TV++[(.slice none 0 0,.slice none 0 0)]}/\Ah w tag (w3.setCell ⟨pb,3,none⟩ (.slice (some ⟨g,0,none⟩) (P.thr.length+1) cap)) tag':=by
 have J:∀b,tag b≠.o->b<w.heap.size:=λb d=>(h.tlt b d).2;have F:=h.lt h.tp (by simp);have Q:=h.g3;obtain⟨R,B,C,O,K⟩:=YI Tryz.infoRT;obtain⟨g,cap,w3,tag3,I,v,l,H,t,N,z3,n,m,E⟩:=MI h.trow h.tt (by simp) Tryz.underlying26 B C O K rfl (by omega) [.string (bs x),.slice none 0 0,.slice none 0 0] rfl (by simp[Zt]) 26 A (by omega) J;have i:w3.heap[pb]?=w.heap[pb]?:=n pb F (by rw[h.tp];simp);have r:∀b,b<w.heap.size->tag b≠.row 116->b≠pb->(w3.setCell ⟨pb,3,none⟩ (.slice (some ⟨g,0,none⟩) (P.thr.length+1) cap)).heap[b]?=w.heap[b]?:=λb d f c=>(Xn w3 ⟨pb,3,none⟩ _ b c).trans (n b d f);have s:Ah w tag (w3.setCell ⟨pb,3,none⟩ (.slice (some ⟨g,0,none⟩) (P.thr.length+1) cap)) tag3:=⟨H,t,N,by simp;omega,λb d=>m b (by omega),λb d q=>r b d (by rw[q];simp) (Co q h.tp (by simp))⟩;refine⟨g,cap,w3,I,(Xw (w:=w) (a:=⟨pb,3,none⟩) i).trans h.Ha,(YS (w:=w) (a:=⟨pb,3,none⟩) i).trans (h.DZ _),tag3,?_,s⟩;refine h.step (λx=>x = .row 116\/x = .rd) s (λb d f c=>r b d (λe=>c (.inl e)) (λe=>c (by rw[e];exact .inr h.tp))) (λb d G=>by simp only[XA];exact E b d G) ?_ (λk' u=>.inl ⟨rfl,rfl,?_⟩) (.inr ⟨?_,λM e=>?_,by simp[h.len]⟩) (λj th p f c=>?_)
 ·rw[Xj w3 pb 3 _ _ _ (i.trans h.cell)];rfl
 ·rcases u with rfl|rfl|rfl<;>simp
 ·show afx _ _ _ _ _ (P.thr++[(⟨x,[],[]⟩:AE)]).length (((P.thr++[(⟨x,[],[]⟩:AE)]).zip (U.TV++[(Yn none 0 0,Yn none 0 0)])).flatMap DK);rw[Xb,List.zip_append h.len.symm,Ya];refine Bw v λy k=>?_;have k:some g=some y:=k
  cases k
  exact Xn w3 ⟨pb,3,none⟩ _ g (Co l ((m pb (by omega)).trans h.tp) (by simp))
 ·have e:some g=some M:=e
  cases e
  exact l
 ·have f:(P.thr++[⟨x,[],[]⟩])[j]?=some th:=f;have c:(U.TV++[(.slice none 0 0,.slice none 0 0)])[j]?=some p:=c
  by_cases e:j<P.thr.length
  ·rw[XC e] at f;rw[XC (by rw[h.len];exact e)] at c;exact .inl ⟨f,c,by simp,by simp⟩
  ·right;have z:=(Xf.1 f).1
   simp at z
   have D:j=P.thr.length:=by omega
   subst D;rw[XK (Xd _),YR] at f;rw[<-h.len,XK (Xd _),YR] at c
   cases f;cases c
   exact⟨XE _ _ _ _,(λg e=>by cases e),XE _ _ _ _,(λg e=>by cases e)⟩
theorem PU {th th':AE} {p p':Xk×Xk} {j:Nat} (l:List AE) (m:List (Xk×Xk)):(l.zip m).set j (th',p')=(l.set j th').zip (m.set j p'):=by
 induction l generalizing j m with
 |nil=>simp
 |cons a l c=>
  cases m with
  |nil=>simp
  |cons b m=>
   cases j with
   |zero=>simp
   |succ j=>simp[c]
theorem Ak.OS {w3:Xh} {tag3:Nat->RT} {j r a I:Nat} {th th':AE} {p p':Xk×Xk} {v:Xk} {gk:RT} (h:Ak w tag base pb P U) (y:P.thr[j]?=some th) (W:U.TV[j]?=some p) (z:r<3) (S:DK (th',p')=(DK (th,p)).set r v) (u:gk = .cd j\/gk = .lb j)
 (q:U.tV = .slice (some ⟨a,0,none⟩) P.thr.length I) (Z:w.heap.size+1<=w3.heap.size) (X:w3.os=w.os) (Q:w3.tape=w.tape) (T:w3.output=w.output)
 (D:∀b,b<w.heap.size->tag b≠gk->w3.heap[b]?=w.heap[b]?) (A:∀b,b<=w.heap.size->tag3 b=tag b) (M:∀b,w.heap.size<=b->tag3 b≠.o->b<w3.heap.size)
 (V:∀G:Xh,(∀b,b≠a->G.heap[b]?=w3.heap[b]?)->Jy G tag3 base j th' p') :
 w3.cell? ⟨a,j*3+r,none⟩=(DK (th,p))[r]?/\w3.frozen? ⟨a,j*3+r,none⟩=false/\Ak (w3.setCell ⟨a,j*3+r,none⟩ v) tag3 base pb {P with thr:=P.thr.set j th'} {U with TV:=U.TV.set j p'}/\Ah w tag (w3.setCell ⟨a,j*3+r,none⟩ v) tag3:=by
 have N:=h.lt h.tp (by simp);have l:tag a = .row 116:=h.tt a (by rw[q];rfl);have O:=h.lt l (by simp);have B:=(Xf.1 y).1;have n:gk≠.o/\gk≠.row 116/\gk≠.rd/\∀k,gk≠.row k:=by rcases u with rfl|rfl<;>simp
 have C:=h.trow;rw[q] at C;have s:w3.ownsRow base 199 3 (.slice (some ⟨a,0,none⟩) P.thr.length I) P.thr.length ((P.thr.zip U.TV).flatMap DK):=Bw C λx m=>by
  have m:some a=some x:=m
  cases m
  exact D a O (by rw[l];exact λe=>n.2.1 e.symm)
 have F:(P.thr.zip U.TV)[j]?=some (th,p):=by
  rw[Zr];exact⟨y,W⟩
 have t:∀b,b<w.heap.size->tag b≠gk->b≠a->(w3.setCell ⟨a,j*3+r,none⟩ v).heap[b]?=w.heap[b]?:=λb f g d=>(Xn w3 ⟨a,j*3+r,none⟩ _ b d).trans (D b f g);have m:Ah w tag (w3.setCell ⟨a,j*3+r,none⟩ v) tag3:=⟨X,Q,T,by simp;omega,λb f=>A b (by omega),λb f E=>t b f (by rw[E];exact λe=>n.1 e.symm) (Co E l (by simp))⟩;refine⟨?_,s.frozenAt _,?_,m⟩
 ·rw[s.cellAt (j*3+r) (by omega)];exact GJ IZ F z
 refine h.step (λx=>x=gk\/x = .row 116) m (λb f g d=>t b f (λe=>d (.inl e)) (λe=>d (by rw[e];exact .inr l))) (λb f R=>by simp only[XA];exact M b f R) ?_ (λk' J=>.inl ⟨rfl,rfl,?_⟩) (.inr ⟨?_,λH e=>?_,by simp[h.len]⟩) (λi Y K g d=>?_)
 ·exact(t pb N (by rw[h.tp];exact λe=>n.2.2.1 e.symm) (Co h.tp l (by simp))).trans h.cell
 ·rintro(e|e)
  ·exact n.2.2.2 k' e.symm
  ·rcases J with rfl|rfl|rfl<;>cases e
 ·show afx _ _ _ _ U.tV (P.thr.set j th').length (((P.thr.set j th').zip (U.TV.set j p')).flatMap DK);rw[List.length_set,<-PU (th:=th) (p:=p),q,<-NK IZ F z S]
  exact(s.stored (j*3+r) v).1
 ·have e:U.tV.ownBlock=some H:=e;rw[q] at e;have e:some a=some H:=e
  cases e
  exact(A a (by omega)).trans l
 ·have g:(P.thr.set j th')[i]?=some Y:=g;have d:(U.TV.set j p')[i]?=some K:=d
  by_cases e:i=j
  ·subst e;right;rw[YF B] at g;rw[YF (by rw[h.len];exact B)] at d
   cases g;cases d
   exact V _ (λb f=>Xn w3 ⟨a,i*3+r,none⟩ _ b f)
  ·rw[List.getElem?_set_ne (λc=>e c.symm)] at g d;refine .inl ⟨g,d,?_,?_⟩
   ·rintro(c|c)
    ·rcases u with rfl|rfl
     ·cases c;exact e rfl
     ·cases c
    ·cases c
   ·rintro(c|c)
    ·rcases u with rfl|rfl
     ·cases c
     ·cases c;exact e rfl
    ·cases c
end
section
variable {w w':Xh} {tag tag':Nat->RT} {base pb:Nat} {P:RP} {U:RV}
theorem Ak.KJ (h:Ak w tag base pb P U) {j:Nat} {th:AE} (a:P.thr[j]?=some th):∃d b,U.tV = .slice (some ⟨d,0,none⟩) P.thr.length b:=by
 have e:=(Xf.1 a).1;obtain⟨m,c⟩:∃m,P.thr.length=m+1:=⟨P.thr.length - 1,by omega⟩;have:=h.trow;rw[c] at this |-;exact Y5 this
theorem Ak.label (h:Ak w tag base pb P U) {j:Nat} {th:AE} {p:Xk×Xk} (k:P.thr[j]?=some th) (t:U.TV[j]?=some p) (x:Tx) (n:Nat) (B:th.labs.length<1048576) {c K:Nat} (s:U.tV = .slice (some ⟨c,0,none⟩) P.thr.length K) :
 ∃g cap w3,(XL #[197,197] 197 #[p.2,.slice (some ⟨w.heap.size,0,none⟩) 1 1]).run Tryz.prog (w.alloc (.cells #[.string (bs x),.int .i64 n] 202)) = .ok (.slice (some ⟨g,0,none⟩) (th.labs.length+1) cap) w3/\w3.cell? ⟨c,j*3+2,none⟩=some p.2/\w3.frozen? ⟨c,j*3+2,none⟩=false/\
  ∃tag',Ak (w3.setCell ⟨c,j*3+2,none⟩ (.slice (some ⟨g,0,none⟩) (th.labs.length+1) cap)) tag' base pb {P with thr:=P.thr.set j {th with labs:=th.labs++[(x,n)]}} {U with TV:=U.TV.set j (p.1,.slice (some ⟨g,0,none⟩) (th.labs.length+1) cap)}/\Ah w tag (w3.setCell ⟨c,j*3+2,none⟩ (.slice (some ⟨g,0,none⟩) (th.labs.length+1) cap)) tag':=by
 have e:∀b,tag b≠.o->b<w.heap.size:=λb G=>(h.tlt b G).2;have R:=h.g3;have d:=h.ths j th p k t;have i:tag c = .row 116:=h.tt c (by rw[s];rfl);obtain⟨T,C,D,Q,J⟩:=YI Tryz.infoRL;obtain⟨g,cap,w3,tag3,I,A,l,H,u,N,z3,q,f,F⟩:=MI d.labs d.tl (by simp) Tryz.underlying197 C D Q J rfl (by omega) [.string (bs x),.int .i64 n] rfl (by simp[Zt]) 197 B (by omega) e;obtain⟨E,O,M,z⟩:=h.OS (w3:=w3) (tag3:=tag3) (r:=2) (th':={th with labs:=th.labs++[(x,n)]}) (p':=(p.1,.slice (some ⟨g,0,none⟩) (th.labs.length+1) cap)) (v:=.slice (some ⟨g,0,none⟩) (th.labs.length+1) cap) (gk:=.lb j) k t (by omega) rfl (.inr rfl) s z3 H u N q f F (λS m=>by
  refine⟨Bw d.code λy a=>?_,λy a=>(f y (by have:=e y (by rw[d.tc y a];simp);omega)).trans (d.tc y a),?_,λy a=>?_⟩
  ·rw[m y (Co (d.tc y a) i (by simp))];exact q y (e y (by rw[d.tc y a];simp)) (by rw[d.tc y a];simp)
  ·show afx _ _ _ _ _ (th.labs++[(x,n)]).length ((th.labs++[(x,n)]).flatMap Lv);rw[Xb,Ya];refine Bw A λy a=>?_;have a:some g=some y:=a
   cases a
   exact m g (Co l ((f c (by have:=e c (by rw[i];simp);omega)).trans i) (by simp))
  ·have a:some g=some y:=a
   cases a;exact l)
 exact⟨g,cap,w3,I,E,O,tag3,M,z⟩
theorem Ak.TP (h:Ak w tag base pb P U) {j:Nat} {th:AE} {p:Xk×Xk} (l:P.thr[j]?=some th) (t:U.TV[j]?=some p) (r:RI) (A:th.code.length<1048576) {c J:Nat} (s:U.tV = .slice (some ⟨c,0,none⟩) P.thr.length J) :
 ∃g cap w3,(XL #[196,196] 196 #[p.1,.slice (some ⟨w.heap.size,0,none⟩) 1 1]).run Tryz.prog (w.alloc (.cells (AK r).toArray 177)) = .ok (.slice (some ⟨g,0,none⟩) (th.code.length+1) cap) w3/\w3.cell? ⟨c,j*3+1,none⟩=some p.1/\w3.frozen? ⟨c,j*3+1,none⟩=false/\
  ∃tag',Ak (w3.setCell ⟨c,j*3+1,none⟩ (.slice (some ⟨g,0,none⟩) (th.code.length+1) cap)) tag' base pb {P with thr:=P.thr.set j {th with code:=th.code++[r]}} {U with TV:=U.TV.set j (.slice (some ⟨g,0,none⟩) (th.code.length+1) cap,p.2)}/\Ah w tag (w3.setCell ⟨c,j*3+1,none⟩ (.slice (some ⟨g,0,none⟩) (th.code.length+1) cap)) tag':=by
 have f:∀b,tag b≠.o->b<w.heap.size:=λb F=>(h.tlt b F).2;have Q:=h.g3;have d:=h.ths j th p l t;have k:tag c = .row 116:=h.tt c (by rw[s];rfl);obtain⟨S,B,C,O,I⟩:=YI Tryz.infoRI;obtain⟨g,cap,w3,tag3,H,z,m,G,u,M,z3,q,i,E⟩:=MI d.code d.tc (by simp) Tryz.underlying196 B C O I rfl (by omega) (AK r) rfl (by simp[AK,Zt]) 196 A (by omega) f;obtain⟨D,N,K,x⟩:=h.OS (w3:=w3) (tag3:=tag3) (r:=1) (th':={th with code:=th.code++[r]}) (p':=(.slice (some ⟨g,0,none⟩) (th.code.length+1) cap,p.2)) (v:=.slice (some ⟨g,0,none⟩) (th.code.length+1) cap) (gk:=.cd j) l t (by omega) rfl (.inl rfl) s z3 G u M q i E (λR n=>by
  refine⟨?_,λy a=>?_,Bw d.labs λy a=>?_,λy a=>(i y (by have:=f y (by rw[d.tl y a];simp);omega)).trans (d.tl y a)⟩
  ·show afx _ _ _ _ _ (th.code++[r]).length ((th.code++[r]).flatMap AK);rw[Xb,Ya];have e:[r].flatMap AK=AK r:=by simp
   rw[e];refine Bw z λy a=>?_;have a:some g=some y:=a
   cases a
   exact n g (Co m ((i c (by have:=f c (by rw[k];simp);omega)).trans k) (by simp))
  ·have a:some g=some y:=a
   cases a;exact m
  ·rw[n y (Co (d.tl y a) k (by simp))];exact q y (f y (by rw[d.tl y a];simp)) (by rw[d.tl y a];simp))
 exact⟨g,cap,w3,H,D,N,tag3,K,x⟩
theorem Ak.Hb (h:Ak w tag base pb P U) {j r:Nat} {th:AE} {p:Xk×Xk} (a:P.thr[j]?=some th) (f:U.TV[j]?=some p) (g:r<3) {c e:Nat} (d:U.tV = .slice (some ⟨c,0,none⟩) P.thr.length e):w.cell? ⟨c,j*3+r,none⟩=(DK (th,p))[r]?:=by
 have i:=(Xf.1 a).1;have b:=h.trow;rw[d] at b;rw[b.cellAt (j*3+r) (by omega)];exact GJ IZ (by rw[Zr];exact⟨a,f⟩) g
end
def RP.names (P:RP):List Tx:=P.thr.map AE.name
theorem QJ {w:Xh} {y:Nat->RT} {base q:Nat} {P:RP} {U:RV} (h:Ak w y base q P U) (x:Tx) (D:P.thr.length<1048576) :
 XY Tryz.prog 114 #[Ab q,.string (bs x)] w λe w'=>e = .returned (.int .i64 (Aq P.names x))/\w'=w:=by
 have c3:=h.Ha;obtain⟨G,F,b⟩:=As h.trow;rw[b] at c3;have H:=Aa h;replace b:=Aa b;unfold Ab;clear h
 go_enter Tryz.func114,Tryz.ntmps114
 go_wp2_with fail
 go_loopw [5] (λc wr=>∃i:Nat,i<=P.thr.length/\c = .int .i64 i/\(∀j:Nat,j<i->P.names.getD j []≠x)/\wr=w) (λc _=>P.thr.length - (intOf c).toNat)
 case atStart=>exact⟨0,Xx _,rfl,λj k=>by omega,rfl⟩
 case round=>
  obtain⟨i,C,rfl,a,rfl⟩:=hrel;have v:P.names.length=P.thr.length:=by simp[RP.names]
  by_cases m:i<P.thr.length
  ·obtain⟨th,g⟩:∃th,P.thr[i]?=some th:=⟨_,Xe m⟩;obtain⟨p,A⟩:∃p,U.TV[i]?=some p:=⟨_,Xe (by rw[H.out.len];exact m)⟩;obtain⟨u,E,o⟩:=H.out.KJ g;have e:=b.out;rw[o] at e
   cases e
   have B:(i:Int)<(P.thr.length:Int):=by omega
   have c0:wr.cell? ⟨u,i*3,none⟩=some (.string (bs th.name)):=H.out.Hb g A (r:=0) (by omega) o;have d:P.names.getD i []=th.name:=by
    rw[Xc,RP.names,Xs,g];rfl
   have f:=Aa (⟨a,λh=>NO (l:=P.names) (n:=x) (i:=i) (by omega) a (by rw[d];exact h),d⟩:_/\(th.name=x->_)/\_);have s:((bs th.name).toList == (bs x).toList)=decide (th.name=x):=by
    rw[AL,AL]
    by_cases e:th.name=x<;>simp[e]
   clear a d v
   by_cases e:th.name=x
   ·rw[decide_eq_true e] at s;replace e:=Aa e
    go_wp2_with fail
    go_ret
    exact⟨by rw[f.out.2.1 e.out];rfl,by trivial⟩
   ·rw[decide_eq_false e] at s;replace e:=Aa e
    go_wp2_with fail
    go_roundw
    case rel=>
     refine⟨i+1,by omega,by go_num,λj k=>?_,by trivial⟩
     by_cases z:j=i
     ·subst z;rw[f.out.2.2];exact e.out
     ·exact f.out.1 j (by omega)
    case measure=>simp[intOf];omega
  ·have t:Hid (Aq P.names x = -1):=NN (λj k=>a j (by omega));clear a
   go_wp2_with fail
   go_ret
   exact⟨by rw[t.out];rfl,by trivial⟩
def ED (P:RP) (x:Tx):Bool:=decide (0<=Aq P.vs x)||decide (0<=Aq P.fs x)||decide (0<=Aq P.ls x)||decide (0<=Aq P.names x)
end Go.Proofs.YtdcacoifehkioaaGreatDoor
