import Derived.Test.YtdcacoifehkioaaGreatDoorExR0
import Derived.Test.YtdcacoifehkioaaGreatDoorExR4
import Derived.Test.YtdcacoifehkioaaGreatDoorExR3
open Go renaming World->Xg,Calls->X3,Value->Xj,bodyPost_ret->XN,TypeId->YD,info_parts->Y2,heap_setCell_same->Xk,ownsRow_succ->YV
open Go.World renaming cell?->Xh,alloc_heap_new->Xi,cell?_of_block->Xr,frozen?_of_block->YI,size_setCell->XG,ownsRow->Z4,ownsRow_nil->Xy
open Nat renaming lt_of_lt_of_le->XF,le_refl->Xf,zero_le->XD,zero_add->X8,add_mul->ac3,sub_self->YO
open Go.IntWalk renaming wrap64_in->XQ
open List renaming take_length->Yi,length_map->Xm,getElem?_map->Xp,getElem?_eq_getElem->Xc,getD_eq_getElem?_getD->Xb,flatMap_cons->XP,getElem?_append_left->Xv,getElem?_append_right->XI,getElem?_eq_some_iff->Xe,length_append->Xd,flatMap_append->XZ,getElem?_zip_eq_some->ZF,getElem?_set_self->Yz
open Go.Builtin renaming append_->XM
open Go.Value renaming oneCell'->Zc,slice->YN
open Go.RowKit.Below renaming heap_setCell->Xl
open ByteArray renaming empty->Yr
set_option maxRecDepth 100000
set_option maxHeartbeats 1000000
set_option linter.unusedVariables false
set_option linter.unusedSimpArgs false
namespace Go.Proofs.YtdcacoifehkioaaGreatDoor
open Go.RowKit Go.Proofs.Cod
def BK (c:UInt8):UInt8:=if c == 118 then 120 else c
def AA (t:Tx):Tx:=match Ct t with
 |some ps=>ps.map BK
 |none=>[63]
theorem In (t:Tx):(∃p,p∈AQ/\t=p.1/\Ct t=some p.2)\/(Ct t=none/\∀p,p∈AQ->(t == p.1)=false):=by
 unfold Ct
 cases h:AQ.find? (λp=>decide (p.1=t)) with
 |some p=>
  have a:=List.mem_of_find?_eq_some h;have c:=List.find?_some h;exact .inl ⟨p,a,by simpa using (of_decide_eq_true c).symm,rfl⟩
 |none=>
  refine .inr ⟨rfl,λp b=>?_⟩;have:=List.find?_eq_none.1 h p b
  simp at this
  exact beq_eq_false_iff_ne.2 (λe=>this e.symm)
theorem JP (t:Tx) (w:Xg):X3 Tryz.prog 113 #[.string (bs t)] w λe w'=>e = .returned (.string (bs (AA t)))/\w'=w:=by
 have C:∀o:List UInt8,((bs t).toList == o)=(t == o):=λo=>by rw[AR]
 rcases In t with⟨p,f,A,c⟩|⟨d,a⟩
 ·have b:AA t=p.2.map BK:=by unfold AA;rw[c]
  rw[b];clear b c;simp only[AQ,List.mem_cons,List.not_mem_nil,or_false] at f
  rcases f with rfl|rfl|rfl|rfl|rfl|rfl|rfl|rfl|rfl|rfl|rfl|rfl|rfl|rfl|rfl|rfl|rfl
  all_goals
   subst A
   go_enter Tryz.func113,Tryz.ntmps113
   go_wp2_with fail
   go_ret
   exact⟨rfl,rfl⟩
 ·have b:AA t=[63]:=by unfold AA;rw[d]
  rw[b];have y:=a ([115,101,116],[114,97]) (by simp[AQ]);have i:=a ([97,100,100],[114,97,98]) (by simp[AQ]);have j:=a ([115,117,98],[114,97,98]) (by simp[AQ]);have k:=a ([109,117,108],[114,97,98]) (by simp[AQ]);have l:=a ([108,111,97,100],[114,118]) (by simp[AQ]);have z:=a ([115,116,111,114,101],[118,97]) (by simp[AQ]);have v:=a ([103,101,116],[114,102]) (by simp[AQ]);have n:=a ([112,117,116],[102,97]) (by simp[AQ]);have B:=a ([108,111,99,107],[109]) (by simp[AQ]);have u:=a ([117,110,108,111,99,107],[109]) (by simp[AQ]);have r:=a ([115,112,97,119,110],[116]) (by simp[AQ]);have g:=a ([106,111,105,110],[116]) (by simp[AQ]);have s:=a ([106,117,109,112],[108]) (by simp[AQ]);have x:=a ([106,101,113],[97,98,108]) (by simp[AQ]);have q:=a ([106,108,116],[97,98,108]) (by simp[AQ]);have h:=a ([99,104,101,99,107],[97,98]) (by simp[AQ]);have m:=a ([101,110,100],[]) (by simp[AQ]);dsimp only at y i j k l z v n B u r g s x q h m;clear a d b
  go_enter Tryz.func113,Tryz.ntmps113
  go_wp2_with fail
  go_ret
  exact⟨rfl,rfl⟩
theorem Iz {w:Xg} {fn:Func} {tmps:Array Xj} {b:Nat} {x a c:Xj} (e:fn.results = #[.cell 2 175,.tmp 3]) (i:tmps[2]?=some (.pointer (some ⟨b,0,none⟩))) (h:tmps[3]?=some x) (d:w.heap[b]?=some (.cells #[a,c] 175)):(results fn tmps).run Tryz.prog w = .ok (.tuple #[.agg #[a,c],x]) w:=by
 have f:w.cell? ⟨b,0,none⟩=some a:=by simp[Xh,d]
 have g:w.cell? ⟨b,1,none⟩=some c:=by simp[Xh,d]
 simp[results,e,i,h,go_sem,f,g]
theorem OK (t:Tx):DO t=if Aq t then(Cs t:Int) else -1:=by
 unfold DO
 cases h:Aq t with
 |false=>rfl
 |true=>
  obtain⟨a,b,rfl,c,d⟩:=Mj h;simp only[if_true,Cs];show (b.toNat:Int) - 48=((b.toNat - 48:Nat):Int)
  omega
theorem VH {t:Tx} {i:Nat} (h:i<t.length):Cz (t.take (i+1))=Cz (t.take i)*10+(t[i].toNat - 48):=by
 unfold Cz;rw[List.take_succ_eq_append_getElem h,List.foldl_append];rfl
theorem LH {t:Tx} (h:t.all AW=true):Cz t<10 ^ t.length:=by
 have key:∀(t:Tx) (a:Nat),t.all AW=true->t.foldl (λn c=>n*10+(c.toNat - 48)) a<(a+1)*10 ^ t.length:=by
  intro t
  induction t with
  |nil=>intro a _;simp
  |cons c t d=>
   intro a h;simp only[List.all_cons,Bool.and_eq_true] at h;have b:=h.1;simp[AW] at b;have:=d (a*10+(c.toNat - 48)) h.2;simp only[List.foldl_cons,List.length_cons];refine XF this ?_;rw[Nat.pow_succ,Nat.mul_comm (10 ^ t.length) 10,<-Nat.mul_assoc];exact Nat.mul_le_mul_right _ (by omega)
 have:=key t 0 h
 simpa [Cz] using this
def CV (t:Tx):Bool:=Aq t||BZ t
def Fh (t:Tx):Xj:=if CV t then .agg #[.bool (Aq t),.int .i64 (AS t)] else .agg #[.bool false,.int .i64 0]
theorem UP (t:Tx) (w:Xg):X3 Tryz.prog 147 #[.string (bs t)] w λe w'=>e = .returned (.tuple #[Fh t,.bool (CV t)])/\Below w.heap.size w w':=by
 have k:Hid (∀x,Below w.heap.size w (w.alloc x)):=λx=>(Below.refl _ _).alloc (Xf _) _;have P:=AY t;have d:=λu=>Ly t u;rw[OK] at d
 cases b:Aq t with
 |true=>
  rw[b] at d;simp only[if_true] at d;have a:Hid (Fh t = .agg #[.bool true,.int .i64 (Cs t)]/\CV t=true):=by
   unfold Hid Fh CV AS;rw[b];exact⟨rfl,rfl⟩
  have K:(0:Int)<=(Cs t:Int):=by omega
  go_enter Tryz.func147,Tryz.ntmps147
  go_wp2_with fail
  refine(d _).mono ?_;rintro e w1 ⟨rfl,rfl⟩
  go_wp2_with fail
  exact XN (Iz rfl rfl rfl (Xi w _)) rfl ⟨by first|(rw[a.out.1,a.out.2];done)|(rw[a.out.1,a.out.2];rfl),k.out _⟩
 |false=>
  rw[b] at d;simp only[Bool.false_eq_true,if_false] at d
  by_cases q:1<=t.length/\t.length<=3
  ·have A:Hid (BZ t=t.all AW):=by unfold Hid BZ;rw[decide_eq_true q.1,decide_eq_true q.2];rfl
   have z:¬((t.length:Int)<1):=by omega
   have r:¬(3<(t.length:Int)):=by omega
   replace b:=Aa b
   go_enter Tryz.func147,Tryz.ntmps147
   go_wp2_with fail
   refine(d _).mono ?_;rintro e w1 ⟨rfl,rfl⟩
   go_wp2_with fail
   go_loopw [5,6] (λH o wr=>∃i:Nat,i<=t.length/\o = .int .i64 i/\H = .int .i64 (Cz (t.take i))/\(t.take i).all AW=true/\wr=w.alloc (.cells #[.bool false,.int .i64 0] 175)) (λ_ o _=>t.length - (intOf o).toNat)
   case atStart=>exact⟨0,XD _,rfl,by simp[Cz],by simp,rfl⟩
   case round=>
    obtain⟨i,M,rfl,rfl,c,rfl⟩:=hrel
    by_cases v:i<t.length
    ·have R:∀h,(bs t)[i]'h=t[i]:=λh=>CO t i h;have S:(i:Int)<(t.length:Int):=by omega
     have j:=KC (p:=AW) v;have n:=LH c;rw[List.length_take] at n;have s:(10:Nat) ^ min i t.length<=10 ^ 3:=Nat.pow_le_pow_right (by omega) (by omega);have N:Cz (t.take i)<1000:=by omega
     have l:=VH v
     cases f:AW t[i] with
     |true=>
      have y:=f;simp[AW] at y;have I:¬((t[i].toNat:Int)<48):=by omega
      have G:¬(57<(t[i].toNat:Int)):=by omega
      have O:wrap64 (10*(Cz (t.take i):Int))=10*(Cz (t.take i):Int):=XQ _ (by omega);have J:wrap64 (10*(Cz (t.take i):Int)+(t[i].toNat:Int))=10*(Cz (t.take i):Int)+(t[i].toNat:Int):=XQ _ (by omega);have T:wrap64 (10*(Cz (t.take i):Int)+(t[i].toNat:Int) - 48)=10*(Cz (t.take i):Int)+(t[i].toNat:Int) - 48:=XQ _ (by omega);have m:(Cz (t.take (i+1)):Int)=10*(Cz (t.take i):Int)+(t[i].toNat:Int) - 48:=by rw[l];omega
      have C:=Aa (⟨j,c,f,m⟩:_/\_/\_/\_);clear j c f n l m y s
      go_wp2_with fail
      go_roundw
      case rel=>
       obtain⟨j,c,f,m⟩:=C.out;refine⟨i+1,by omega,by go_num,?_,by rw[j,c,f];rfl,by trivial⟩;rw[m];rfl
      case measure=>simp[intOf];omega
     |false=>
      have a:Hid (Fh t = .agg #[.bool false,.int .i64 0]/\CV t=false):=by
       have:CV t=false:=by unfold CV;rw[b.out,A.out,KD v f];rfl
       unfold Hid Fh;rw[this];exact⟨rfl,rfl⟩
      by_cases I:(t[i].toNat:Int)<48
      ·clear j c n l s f
       go_wp2_with fail
       exact XN (Iz rfl rfl rfl (Xi w _)) rfl ⟨by first|(rw[a.out.1,a.out.2];done)|(rw[a.out.1,a.out.2];rfl),k.out _⟩
      ·have G:(57<(t[i].toNat:Int)):=by
        simp[AW] at f
        omega
       clear j c n l s f
       go_wp2_with fail
       exact XN (Iz rfl rfl rfl (Xi w _)) rfl ⟨by first|(rw[a.out.1,a.out.2];done)|(rw[a.out.1,a.out.2];rfl),k.out _⟩
    ·have D:i=t.length:=by omega
     subst D;rw[Yi] at c;have a:Hid (Fh t = .agg #[.bool false,.int .i64 (Cz t)]/\CV t=true):=by
      have B:CV t=true:=by unfold CV;rw[b.out,A.out,c];rfl
      have F:AS t=Cz t:=by unfold AS;rw[b.out];rfl
      unfold Hid Fh;rw[B,b.out,F];exact⟨rfl,rfl⟩
     have Q:t.take t.length=t:=Yi;clear c
     go_wp2_with fail
     exact XN (Iz rfl rfl rfl (Xi w _)) rfl ⟨by first|(rw[a.out.1,a.out.2];done)|(rw[a.out.1,a.out.2];rfl),k.out _⟩
  ·have a:Hid (Fh t = .agg #[.bool false,.int .i64 0]/\CV t=false):=by
    have E:BZ t=false:=by
     unfold BZ
     by_cases g:1<=t.length
     ·have r:¬t.length<=3:=λh=>q ⟨g,h⟩;rw[decide_eq_false r];simp
     ·rw[decide_eq_false g];rfl
    have:CV t=false:=by unfold CV;rw[b,E];rfl
    unfold Hid Fh;rw[this];exact⟨rfl,rfl⟩
   replace b:=Aa b
   by_cases g:t.length=0
   ·have z:((t.length:Int)<1):=by omega
    go_enter Tryz.func147,Tryz.ntmps147
    go_wp2_with fail
    refine(d _).mono ?_;rintro e w1 ⟨rfl,rfl⟩
    go_wp2_with fail
    exact XN (Iz rfl rfl rfl (Xi w _)) rfl ⟨by first|(rw[a.out.1,a.out.2];done)|(rw[a.out.1,a.out.2];rfl),k.out _⟩
   ·have z:¬((t.length:Int)<1):=by omega
    have r:(3<(t.length:Int)):=by omega
    go_enter Tryz.func147,Tryz.ntmps147
    go_wp2_with fail
    refine(d _).mono ?_;rintro e w1 ⟨rfl,rfl⟩
    go_wp2_with fail
    exact XN (Iz rfl rfl rfl (Xi w _)) rfl ⟨by first|(rw[a.out.1,a.out.2];done)|(rw[a.out.1,a.out.2];rfl),k.out _⟩
def Ao:List Tx->Tx->Int
 |[],_=>-1
 |t::l,n=>if t=n then 0 else if Ao l n = -1 then -1 else Ao l n+1
theorem GP (l:List Tx) (n:Tx) : -1<=Ao l n:=by
 induction l with
 |nil=>simp[Ao]
 |cons t l a=>
  unfold Ao
  split
  ·omega
  ·split<;>omega
theorem My {l:List Tx} {n:Tx} (h:∀j:Nat,j<l.length->l.getD j []≠n):Ao l n = -1:=by
 induction l with
 |nil=>rfl
 |cons t l a=>
  unfold Ao;rw[if_neg (by simpa using h 0 (by simp)),a (λj b=>by simpa using h (j+1) (by simpa using b)),if_pos rfl]
theorem Mz {l:List Tx} {n:Tx} {i:Nat} (b:i<l.length) (h:∀j:Nat,j<i->l.getD j []≠n) (a:l.getD i []=n):Ao l n=i:=by
 induction l generalizing i with
 |nil=>simp at b
 |cons t l c=>
  unfold Ao
  cases i with
  |zero=>rw[if_pos (by simpa using a)];rfl
  |succ i=>
   rw[if_neg (by simpa using h 0 (by omega))];have:=c (i:=i) (by simpa using b) (λj d=>by simpa using h (j+1) (by omega)) (by simpa using a);rw[this,if_neg (by omega)];omega
theorem Hn (a:Option Addr) (n cap:Nat) (ts:List Tx) (x:Tx) (w:Xg) (y:ts.length=n) (o:Ws w a ts) (z:n<4294967281) :
 X3 Tryz.prog 145 #[.slice a n cap,.string (bs x)] w λe w'=>e = .returned (.int .i64 (Ao ts x))/\w'=w:=by
 go_enter Tryz.func145,Tryz.ntmps145
 go_wp2_with fail
 go_loopw [5] (λd wr=>∃i:Nat,i<=n/\d = .int .i64 i/\(∀j:Nat,j<i->ts.getD j []≠x)/\wr=w) (λd _=>n - (intOf d).toNat)
 case atStart=>exact⟨0,XD _,rfl,λj m=>by omega,rfl⟩
 case round=>
  obtain⟨i,v,rfl,c,rfl⟩:=hrel
  by_cases u:i<n
  ·obtain⟨b,s,rfl,_,p⟩:=o i (by omega);have A:(i:Int)<(n:Int):=by omega
   have f:=Aa (⟨c,λh=>Mz (l:=ts) (n:=x) (i:=i) (by omega) c h⟩:_/\(ts.getD i []=x->_));generalize g:ts.getD i []=t at p f;replace g:=Aa g;have k:((bs t).toList == (bs x).toList)=decide (t=x):=by
    rw[AR,AR]
    by_cases e:t=x<;>simp[e]
   clear c
   by_cases e:t=x
   ·rw[decide_eq_true e] at k;replace e:=Aa e
    go_wp2_with fail
    go_ret
    exact⟨by rw[f.out.2 e.out];rfl,by trivial⟩
   ·rw[decide_eq_false e] at k;replace e:=Aa e
    go_wp2_with fail
    go_roundw
    case rel=>
     refine⟨i+1,by omega,by go_num,λj m=>?_,by trivial⟩
     by_cases r:j=i
     ·subst r;rw[g.out];exact e.out
     ·exact f.out.1 j (by omega)
    case measure=>simp[intOf];omega
  ·have q:Hid (Ao ts x = -1):=My (λj m=>c j (by omega));clear c
   go_wp2_with fail
   go_ret
   exact⟨by rw[q.out];rfl,by trivial⟩
structure RI where
 i:Ac
 line:Int
 word:Tx
structure Az where
 name:Tx
 code:List RI
 labs:List (Tx×Nat)
structure RP where
 vs:List Tx
 fs:List Tx
 ls:List Tx
 thr:List Az
def AC (r:RI):List Xj:=[.string (bs r.i.op),.int .i64 r.i.r,.bool r.i.aR,.int .i64 r.i.aN,.bool r.i.bR,.int .i64 r.i.bN,.int .i64 r.i.x,.int .i64 r.line,.string (bs r.word)]
def Kf (p:Tx×Nat):List Xj:=[.string (bs p.1),.int .i64 p.2]
def Da (p:Az×(Xj×Xj)):List Xj:=[.string (bs p.1.name),p.2.1,p.2.2]
def RP.get (P:RP) (k:Int):List Tx:=if k=118 then P.vs else if k=102 then P.fs else P.ls
def RP.put (P:RP) (k:Int) (x:Tx):RP:=if k=118 then {P with vs:=P.vs++[x]} else if k=102 then {P with fs:=P.fs++[x]} else {P with ls:=P.ls++[x]}
structure RV where
 V:Int->Xj
 tV:Xj
 TV:List (Xj×Xj)
def BE (k:Int):Prop:=k=118\/k=102\/k=109
def DQ (k:Int):Nat:=if k=118 then 0 else if k=102 then 1 else 2
structure ID (w:Xg) (tag:Nat->RT) (base j:Nat) (th:Az) (p:Xj×Xj):Prop where
 code:w.ownsRow base 177 9 p.1 th.code.length (th.code.flatMap AC)
 tc:∀g,p.1.ownBlock=some g->tag g = .cd j
 labs:w.ownsRow base 202 2 p.2 th.labs.length (th.labs.flatMap Kf)
 tl:∀g,p.2.ownBlock=some g->tag g = .lb j
structure Ah (w:Xg) (tag:Nat->RT) (base pb:Nat) (P:RP) (U:RV):Prop where
 cell:w.heap[pb]?=some (.cells #[U.V 118,U.V 102,U.V 109,U.tV] 28)
 rows:∀k,BE k->CB w tag base 9 k (U.V k) ((P.get k).map BB)
 trow:w.ownsRow base 199 3 U.tV P.thr.length ((P.thr.zip U.TV).flatMap Da)
 tt:∀g,U.tV.ownBlock=some g->tag g = .row 116
 len:U.TV.length=P.thr.length
 ths:∀(j:Nat) (th:Az) (p:Xj×Xj),P.thr[j]?=some th->U.TV[j]?=some p->ID w tag base j th p
 tp:tag pb = .rd
 tlt:∀b,tag b≠.o->base<=b/\b<w.heap.size
 g3:base<=w.heap.size
section
variable {w w':Xg} {tag tag':Nat->RT} {base pb:Nat} {P P':RP} {U U':RV}
theorem ID.kept {j:Nat} {th:Az} {p:Xj×Xj} (h:ID w tag base j th p) (a:∀b,tag b = .cd j\/tag b = .lb j->w'.heap[b]?=w.heap[b]?/\tag' b=tag b):ID w' tag' base j th p:=
 ⟨Bg h.code λg e=>(a g (.inl (h.tc g e))).1,λg e=>(a g (.inl (h.tc g e))).2.trans (h.tc g e),Bg h.labs λg e=>(a g (.inr (h.tl g e))).1,λg e=>(a g (.inr (h.tl g e))).2.trans (h.tl g e)⟩
theorem Ah.lt (h:Ah w tag base pb P U) {b:Nat} {g:RT} (e:tag b=g) (a:g≠.o):b<w.heap.size:=(h.tlt b (by rw[e];exact a)).2
theorem Ah.low (h:Ah w tag base pb P U) {b:Nat} (e:b<base):tag b = .o:=by
 cases a:tag b with
 |o=>rfl
 |_=>exact absurd (h.tlt b (by rw[a];simp)).1 (by omega)
theorem Ah.step (h:Ah w tag base pb P U) (C:RT->Prop) (m:Ag w tag w' tag') (u:∀b,b<w.heap.size->tag b≠.o->¬C (tag b)->w'.heap[b]?=w.heap[b]?)
 (A:∀b,w.heap.size<=b->tag' b≠.o->b<w'.heap.size)
 (y:w'.heap[pb]?=some (.cells #[U'.V 118,U'.V 102,U'.V 109,U'.tV] 28))
 (t:∀k,BE k->(U'.V k=U.V k/\P'.get k=P.get k/\¬C (.row k))\/CB w' tag' base 9 k (U'.V k) ((P'.get k).map BB))
 (v:(U'.tV=U.tV/\P'.thr=P.thr/\U'.TV=U.TV/\¬C (.row 116))\/(w'.ownsRow base 199 3 U'.tV P'.thr.length ((P'.thr.zip U'.TV).flatMap Da)/\(∀g,U'.tV.ownBlock=some g->tag' g = .row 116)/\U'.TV.length=P'.thr.length))
 (z:∀(j:Nat) (th:Az) (p:Xj×Xj),P'.thr[j]?=some th->U'.TV[j]?=some p->(P.thr[j]?=some th/\U.TV[j]?=some p/\¬C (.cd j)/\¬C (.lb j))\/ID w' tag' base j th p):Ah w' tag' base pb P' U':=by
 have key:∀{b:Nat} {g:RT},tag b=g->g≠.o->¬C g->w'.heap[b]?=w.heap[b]?/\tag' b=g:=λ{b g} e c q=>by
  have f:=h.lt e c
  exact⟨u b f (by rw[e];exact c) (by rw[e];exact q),(m.tags b f).trans e⟩
 have x:∀{b:Nat} {g:RT},tag b=g->g≠.o->tag' b=g:=λ{b g} e c=>(m.tags b (h.lt e c)).trans e;have r:w'.ownsRow base 199 3 U'.tV P'.thr.length ((P'.thr.zip U'.TV).flatMap Da)/\(∀g,U'.tV.ownBlock=some g->tag' g = .row 116)/\U'.TV.length=P'.thr.length:=by
  rcases v with⟨d,i,l,n⟩|e
  ·rw[d,i,l]
   exact⟨Bg h.trow λg e=>(key (h.tt g e) (by simp) n).1,λg e=>(key (h.tt g e) (by simp) n).2,h.len⟩
  ·exact e
 refine⟨y,λk s=>?_,r.1,r.2.1,r.2.2,λj th p c q=>?_,x h.tp (by simp),λb a=>?_,Nat.le_trans h.g3 m.size⟩
 ·rcases t k s with⟨d,i,l⟩|e
  ·rw[d,i];exact(h.rows k s).kept λb a=>key a (by simp) l
  ·exact e
 ·rcases z j th p c q with⟨d,i,l,n⟩|e
  ·refine(h.ths j th p d i).kept λb a=>?_
   rcases a with a|a
   ·have:=key a (by simp) l;exact⟨this.1,this.2.trans a.symm⟩
   ·have:=key a (by simp) n;exact⟨this.1,this.2.trans a.symm⟩
  ·exact e
 ·by_cases f:b<w.heap.size
  ·rw[m.tags b f] at a
   exact⟨(h.tlt b a).1,XF f m.size⟩
  ·exact⟨by have:=h.g3;omega,A b (by omega) a⟩
theorem Ah.keep (h:Ah w tag base pb P U) (a:∀b,b<w.heap.size->w'.heap[b]?=w.heap[b]?) (f:Ag w tag w' tag):Ah w' tag base pb P U:=
 h.step (λ_=>False) f (λb c _ _=>a b c) (λb c e=>absurd (h.tlt b e).2 (by omega)) ((a pb (h.lt h.tp (by simp))).trans h.cell) (λk _=>.inl ⟨rfl,rfl,id⟩) (.inl ⟨rfl,rfl,rfl,id⟩) (λj th p g d=>.inl ⟨g,d,id,id⟩)
theorem Ah.below (h:Ah w tag base pb P U) (a:Below w.heap.size w w'):Ah w' tag base pb P U:=h.keep a.block (.Ch a)
theorem Ah.Dm (h:Ah w tag base pb P U) {k:Int} (a:BE k):w.cell? ⟨pb,DQ k,none⟩=some (U.V k):=by
 rcases a with rfl|rfl|rfl<;>simp[Xh,h.cell,DQ]
theorem Ah.FX (h:Ah w tag base pb P U):w.cell? ⟨pb,3,none⟩=some U.tV:=by simp[Xh,h.cell]
theorem Ah.De (h:Ah w tag base pb P U) (i:Nat):w.frozen? ⟨pb,i,none⟩=false:=by simp[World.frozen?,h.cell]
theorem Es {e:YD} {k:Int} {v:Xj} {l:List Tx} (h:CB w tag base e k v (l.map BB)):∃a cap,v = .slice a l.length cap/\Ws w a l:=by
 have b:=h.row;rw[Xm] at b
 rcases b.2 with⟨c,f⟩|⟨g,cap,j,c,_⟩
 ·exact⟨none,0,by rw[c,f],λi d=>by omega⟩
 ·refine⟨_,cap,c,λi d=>⟨g,0,rfl,(b.lt g (by rw[c];rfl)).2,?_⟩⟩;rw[c] at b;rw[X8,b.cellAt i (by omega),Xp,Xc d,Xb,Xc d];rfl
theorem Ah.name (h:Ah w tag base pb P U) {k:Int} (d:BE k) (x:Tx) (A:(P.get k).length<1048576) :
 ∃g cap w3,(XM #[22,22] 22 #[U.V k,.slice (some ⟨w.heap.size,0,none⟩) 1 1]).run Tryz.prog (w.alloc (.cells #[.string (bs x)] 9)) = .ok (.slice (some ⟨g,0,none⟩) ((P.get k).length+1) cap) w3/\w3.cell? ⟨pb,DQ k,none⟩=some (U.V k)/\w3.frozen? ⟨pb,DQ k,none⟩=false/\
  ∃tag',Ah (w3.setCell ⟨pb,DQ k,none⟩ (.slice (some ⟨g,0,none⟩) ((P.get k).length+1) cap)) tag' base pb (P.put k x) {U with V:=AM U.V k (.slice (some ⟨g,0,none⟩) ((P.get k).length+1) cap)}/\Ag w tag (w3.setCell ⟨pb,DQ k,none⟩ (.slice (some ⟨g,0,none⟩) ((P.get k).length+1) cap)) tag':=by
 have E:∀b,tag b≠.o->b<w.heap.size:=λb c=>(h.tlt b c).2;have M:=h.lt h.tp (by simp);have Q:=h.g3;obtain⟨O,G,B,H,K⟩:=Y2 Tryz.infoTx;obtain⟨g,cap,w3,tag3,v,l,N,C,z,R,s,t,D⟩:=(h.rows k d).push Tryz.underlying22 G B H K rfl (by omega) (BB x) (by simp[Zc,BB]) 22 (by simpa using A) (by omega) E;rw[Xm] at v l;have m:w3.heap[pb]?=w.heap[pb]?:=s pb M (by rw[h.tp];simp);have r:∀b,b<w.heap.size->tag b≠.row k->b≠pb->(w3.setCell ⟨pb,DQ k,none⟩ (.slice (some ⟨g,0,none⟩) ((P.get k).length+1) cap)).heap[b]?=w.heap[b]?:=λb c i f=>(Xl w3 ⟨pb,DQ k,none⟩ _ b f).trans (s b c i);have u:Ag w tag (w3.setCell ⟨pb,DQ k,none⟩ (.slice (some ⟨g,0,none⟩) ((P.get k).length+1) cap)) tag3:=⟨N,C,z,by simp;omega,λb c=>t b (by omega),λb c q=>r b c (by rw[q];simp) (BI q h.tp (by simp))⟩;refine⟨g,cap,w3,v,(Xr (w:=w) (a:=⟨pb,DQ k,none⟩) m).trans (h.Dm d),(YI (w:=w) (a:=⟨pb,DQ k,none⟩) m).trans (h.De _),tag3,?_,u⟩;have I:∀k',BE k'->(P.put k x).get k'=if k'=k then P.get k++[x] else P.get k':=λk' n=>by
  rcases d with rfl|rfl|rfl<;>rcases n with rfl|rfl|rfl<;>simp[RP.put,RP.get]
 refine h.step (λx=>x = .row k\/x = .rd) u (λb c i f=>r b c (λe=>f (.inl e)) (λe=>f (by rw[e];exact .inr h.tp))) (λb c J=>by simp only[XG];exact D b c J) ?_ (λk' n=>?_) (.inl ⟨rfl,?_,rfl,?_⟩) (λj th p i f=>.inl ⟨?_,f,by simp,by simp⟩)
 ·rw[Xk w3 pb (DQ k) _ _ _ (m.trans h.cell)]
  rcases d with rfl|rfl|rfl<;>simp[DQ,AM]
 ·rw[I k' n]
  by_cases e:k'=k
  ·subst e;right;rw[if_pos rfl,List.map_append];show CB _ _ _ _ _ (AM U.V k' _ k') _;rw[BC];refine⟨Bg l.row λy F=>?_,l.tg⟩;exact Xl w3 ⟨pb,DQ k',none⟩ _ y (BI (l.tg y F) ((t pb (by omega)).trans h.tp) (by simp))
  ·left;rw[if_neg e]
   exact⟨BM _ e,rfl,by simp;exact e⟩
 ·rcases d with rfl|rfl|rfl<;>simp[RP.put]
 ·rcases d with rfl|rfl|rfl<;>simp
 ·have e:(P.put k x).thr=P.thr:=by rcases d with rfl|rfl|rfl<;>simp[RP.put]
  rw[<-e];exact i
end
theorem GN {α:Type} {f:α->List Xj} {m:Nat} (b:∀x,(f x).length=m) {l:List α} {j r:Nat} {x:α} (a:l[j]?=some x) (c:r<m):(l.flatMap f)[j*m+r]?=(f x)[r]?:=by
 induction l generalizing j with
 |nil=>cases a
 |cons y l d=>
  rw[XP]
  cases j with
  |zero=>
   have a:some y=some x:=a
   cases a
   rw[Nat.zero_mul,X8,Xv (by rw[b];exact c)]
  |succ j=>
   rw[XI (by rw[b,ac3];omega),b,show (j+1)*m+r - m=j*m+r by rw[ac3];omega];exact d (by simpa using a)
theorem Mw {α:Type} {f:α->List Xj} {m:Nat} (b:∀x,(f x).length=m) {l:List α} {j r:Nat} {x y:α} {u:Xj} (a:l[j]?=some x) (c:r<m) (d:f y=(f x).set r u):(l.flatMap f).set (j*m+r) u=(l.set j y).flatMap f:=by
 induction l generalizing j with
 |nil=>cases a
 |cons z l e=>
  rw[XP]
  cases j with
  |zero=>
   have a:some z=some x:=a
   cases a
   rw[Nat.zero_mul,X8,List.set_append_left _ _ (by rw[b];exact c),List.set_cons_zero,XP,d]
  |succ j=>
   rw[List.set_append_right _ _ (by rw[b,ac3];omega),b,show (j+1)*m+r - m=j*m+r by rw[ac3];omega,e (by simpa using a),List.set_cons_succ,XP]
theorem ace {w w':Xg} {base e a n:Nat} {v:Xj} {b:List Xj} {B:Nat} (h:w.ownsRow base e a v n b) (d:Below B w w') (c:∀g,v.ownBlock=some g->g<B):w'.ownsRow base e a v n b:=Bg h λg e=>d.block g (c g e)
theorem EJ {w w':Xg} {base e a n:Nat} {v:Xj} {b:List Xj} (h:w.ownsRow base e a v n b) (c:Below w.heap.size w w'):w'.ownsRow base e a v n b:=ace h c λg e=>(h.lt g e).2
theorem Lq {w:Xg} {base e n:Nat} {v:Xj} {l:List Tx} (c:w.ownsRow base e 1 v n (l.map BB)) (h:l.length=n):∃a cap,v = .slice a n cap/\Ws w a l:=by
 rcases c.2 with⟨b,f⟩|⟨g,cap,j,b,_⟩
 ·exact⟨none,0,by rw[b,f],λi d=>by omega⟩
 ·refine⟨_,cap,b,λi d=>⟨g,0,rfl,(c.lt g (by rw[b];rfl)).2,?_⟩⟩;rw[b] at c;rw[X8,c.cellAt i (by omega),Xp,Xc d,Xb,Xc d];rfl
theorem Ot {w:Xg} {base e a n:Nat} {v:Xj} {b:List Xj} (h:w.ownsRow base e a v n b) {k:Nat} (d:k<n):∃g cap,v = .slice (some ⟨g,0,none⟩) n cap/\g<w.heap.size/\∀j,j<n*a->w.cell? ⟨g,j,none⟩=b[j]?:=by
 obtain⟨m,rfl⟩:∃m,n=m+1:=⟨n - 1,by omega⟩;obtain⟨g,cap,rfl⟩:=YV h
 exact⟨g,cap,rfl,(h.lt g rfl).2,λj c=>h.cellAt j c⟩
theorem aap (i:Ac):(Bd i).toList.length=7:=rfl
theorem SV (p:Tx×Xj):[Value.string (bs p.1),p.2].length=2:=rfl
structure acR (w:Xg) (g k:Nat) (i:Ac):Prop where
 c0:w.cell? ⟨g,k*7,none⟩=some (.string (bs i.op))
 c1:w.cell? ⟨g,k*7+1,none⟩=some (.int .i64 i.r)
 c2:w.cell? ⟨g,k*7+2,none⟩=some (.bool i.aR)
 c3:w.cell? ⟨g,k*7+3,none⟩=some (.int .i64 i.aN)
 c4:w.cell? ⟨g,k*7+4,none⟩=some (.bool i.bR)
 c5:w.cell? ⟨g,k*7+5,none⟩=some (.int .i64 i.bN)
 c6:w.cell? ⟨g,k*7+6,none⟩=some (.int .i64 i.x)
theorem aaz {w:Xg} {base:Nat} {v:Xj} {is:List Ac} {k:Nat} {i:Ac} (h:w.ownsRow base 108 7 v is.length (FE is)) (a:is[k]?=some i):∃g cap,v = .slice (some ⟨g,0,none⟩) is.length cap/\g<w.heap.size/\acR w g k i:=by
 have f:=(Xe.1 a).1;obtain⟨g,cap,e,d,b⟩:=Ot h f;have key:∀q,q<7->w.cell? ⟨g,k*7+q,none⟩=(Bd i).toList[q]?:=λq c=>by
  rw[b (k*7+q) (by omega)];exact GN aap a c
 exact⟨g,cap,e,d,key 0 (by omega),key 1 (by omega),key 2 (by omega),key 3 (by omega),key 4 (by omega),key 5 (by omega),key 6 (by omega)⟩
theorem Ls {w:Xg} {k:Nat->RT} {base e f n:Nat} {l:RT} {v:Xj} {s:List Xj} {T:YD} {i:TypeInfo} {z:Xj} {p:Nat} (R:w.ownsRow base e f v n s) (q:∀g,v.ownBlock=some g->k g=l) (H:l≠.o) (Q:Tryz.prog.underlying T=some (.slice e)) (K:Tryz.prog.info? e=some i) (M:i.zero=some z) (E:i.size=f) (J:i.bytes=p) (N:z.cells.size=f) (G:p<=128)
 (d:List Xj) (C:d.length=f) (O:∀u∈d,u.oneCell'=true) (B:YD) (U:n<1048576) (W:base<=w.heap.size) (y:∀b,k b≠.o->b<w.heap.size) :
 ∃(g cap:Nat) (w':Xg) (x:Nat->RT),(XM #[T,T] B #[v,.slice (some ⟨w.heap.size,0,none⟩) 1 1]).run Tryz.prog (w.alloc (.cells d.toArray e)) = .ok (.slice (some ⟨g,0,none⟩) (n+1) cap) w'/\
  w'.ownsRow base e f (.slice (some ⟨g,0,none⟩) (n+1) cap) (n+1) (s++d)/\x g=l/\w'.os=w.os/\w'.tape=w.tape/\w'.output=w.output/\w.heap.size+1<=w'.heap.size/\
  (∀b,b<w.heap.size->k b≠l->w'.heap[b]?=w.heap[b]?)/\(∀b,b<=w.heap.size->x b=k b)/\(∀b,w.heap.size<=b->x b≠.o->b<w'.heap.size):=by
 obtain⟨V,w',D,r,h,a⟩:=Lo (P:=Tryz.prog) (w.alloc (.cells d.toArray e)) base T B e i z f p Q K M E J N v n s (R.alloc _) ⟨w.heap.size,0,none⟩ 1 1 d (by omega) (by simp[C])
  (λj u I=>Rz (Xi w _) (by simpa using I)) O (by unfold maxLen;omega)
  (by have:(n+1)*p<=1048576*128:=Nat.mul_le_mul (by omega) G
      omega) (by simp;omega)
 obtain⟨g,cap,rfl⟩:=YV r;have S:=r.lt g rfl;have F:v.ownBlock=some g\/g=w.heap.size+1:=by
  rcases a with a|a
  ·exact .inl a.symm
  ·right;have a:some g=some (w.alloc (.cells d.toArray e)).heap.size:=a;rw[World.size_alloc] at a;exact Option.some.inj a
 have rb:∀b,b<w.heap.size->v.ownBlock≠some b->w'.heap[b]?=w.heap[b]?:=λb m c=>(h.block b (by simp;omega) (λe=>c e.symm)).trans (Below.heap_alloc w _ b m);refine⟨g,cap,w',Ga k (w.heap.size+1) l (.slice (some ⟨g,0,none⟩) (n+1) cap),D,r,?_,h.os,h.tape,h.output,by have:=h.size;simpa using this,λb m c=>rb b m (λe=>c (q b e)),λb m=>FZ (by omega),λb m c=>?_⟩
 ·rcases F with e|e
  ·have:=y g (by rw[q g e];exact H);rw[FZ (by omega)];exact q g e
  ·subst e;exact Lb rfl
 ·by_cases e:b=w.heap.size+1
  ·subst e
   by_cases A:g=w.heap.size+1
   ·rw[<-A];exact S.2
   ·exfalso;apply c
    unfold Ga;rw[ER,if_neg];intro t;have t:some g=some (w.heap.size+1):=t;exact A (Option.some.inj t)
  ·rw[FZ e] at c;have:=y b c;omega
theorem Tryz.infoRT:(Tryz.prog.info? 199).map (λi=>(i.zero,i.size,i.bytes))=some (some (.agg #[.string Yr,.slice none 0 0,.slice none 0 0]),3,64):=by kernel_rfl
theorem Tryz.infoRI:(Tryz.prog.info? 177).map (λi=>(i.zero,i.size,i.bytes))=some (some (.agg #[.string Yr,.int .i64 0,.bool false,.int .i64 0,.bool false,.int .i64 0,.int .i64 0,.int .i64 0,.string Yr]),9,88):=by kernel_rfl
theorem Tryz.infoRL:(Tryz.prog.info? 202).map (λi=>(i.zero,i.size,i.bytes))=some (some (.agg #[.string Yr,.int .i64 0]),2,24):=by kernel_rfl
theorem Ow (x:RI):(AC x).length=9:=rfl
theorem Qi (x:Tx×Nat):(Kf x).length=2:=rfl
theorem IM (x:Az×(Xj×Xj)):(Da x).length=3:=rfl
section
variable {w w':Xg} {tag tag':Nat->RT} {base pb:Nat} {P:RP} {U:RV}
theorem Ah.thread (h:Ah w tag base pb P U) (x:Tx) (u:P.thr.length<1048576) :
 ∃g cap w3,(XM #[26,26] 26 #[U.tV,.slice (some ⟨w.heap.size,0,none⟩) 1 1]).run Tryz.prog (w.alloc (.cells #[.string (bs x),.slice none 0 0,.slice none 0 0] 199)) = .ok (.slice (some ⟨g,0,none⟩) (P.thr.length+1) cap) w3/\w3.cell? ⟨pb,3,none⟩=some U.tV/\w3.frozen? ⟨pb,3,none⟩=false/\
  ∃tag',Ah (w3.setCell ⟨pb,3,none⟩ (.slice (some ⟨g,0,none⟩) (P.thr.length+1) cap)) tag' base pb {P with thr:=P.thr++[⟨x,[],[]⟩]} {U with tV:=.slice (some ⟨g,0,none⟩) (P.thr.length+1) cap,TV:=U.TV++[(.slice none 0 0,.slice none 0 0)]}/\Ag w tag (w3.setCell ⟨pb,3,none⟩ (.slice (some ⟨g,0,none⟩) (P.thr.length+1) cap)) tag':=by
 have C:∀b,tag b≠.o->b<w.heap.size:=λb f=>(h.tlt b f).2;have M:=h.lt h.tp (by simp);have R:=h.g3;obtain⟨Q,H,z,I,K⟩:=Y2 Tryz.infoRT;obtain⟨g,cap,w3,tag3,O,E,r,N,A,t,S,n,q,B⟩:=Ls h.trow h.tt (by simp) Tryz.underlying26 H z I K rfl (by omega) [.string (bs x),.slice none 0 0,.slice none 0 0] rfl (by simp[Zc]) 26 u (by omega) C;have i:w3.heap[pb]?=w.heap[pb]?:=n pb M (by rw[h.tp];simp);have m:∀b,b<w.heap.size->tag b≠.row 116->b≠pb->(w3.setCell ⟨pb,3,none⟩ (.slice (some ⟨g,0,none⟩) (P.thr.length+1) cap)).heap[b]?=w.heap[b]?:=λb f d c=>(Xl w3 ⟨pb,3,none⟩ _ b c).trans (n b f d);have s:Ag w tag (w3.setCell ⟨pb,3,none⟩ (.slice (some ⟨g,0,none⟩) (P.thr.length+1) cap)) tag3:=⟨N,A,t,by simp;omega,λb f=>q b (by omega),λb f l=>m b f (by rw[l];simp) (BI l h.tp (by simp))⟩;refine⟨g,cap,w3,O,(Xr (w:=w) (a:=⟨pb,3,none⟩) i).trans h.FX,(YI (w:=w) (a:=⟨pb,3,none⟩) i).trans (h.De _),tag3,?_,s⟩;refine h.step (λx=>x = .row 116\/x = .rd) s (λb f d c=>m b f (λe=>c (.inl e)) (λe=>c (by rw[e];exact .inr h.tp))) (λb f J=>by simp only[XG];exact B b f J) ?_ (λk' G=>.inl ⟨rfl,rfl,?_⟩) (.inr ⟨?_,λF e=>?_,by simp[h.len]⟩) (λj th p d c=>?_)
 ·rw[Xk w3 pb 3 _ _ _ (i.trans h.cell)];rfl
 ·rcases G with rfl|rfl|rfl<;>simp
 ·show Z4 _ _ _ _ _ (P.thr++[(⟨x,[],[]⟩:Az)]).length (((P.thr++[(⟨x,[],[]⟩:Az)]).zip (U.TV++[(YN none 0 0,YN none 0 0)])).flatMap Da);rw[Xd,List.zip_append h.len.symm,XZ];refine Bg E λy k=>?_;have k:some g=some y:=k
  cases k
  exact Xl w3 ⟨pb,3,none⟩ _ g (BI r ((q pb (by omega)).trans h.tp) (by simp))
 ·have e:some g=some F:=e
  cases e
  exact r
 ·have d:(P.thr++[⟨x,[],[]⟩])[j]?=some th:=d;have c:(U.TV++[(.slice none 0 0,.slice none 0 0)])[j]?=some p:=c
  by_cases e:j<P.thr.length
  ·rw[Xv e] at d;rw[Xv (by rw[h.len];exact e)] at c;exact .inl ⟨d,c,by simp,by simp⟩
  ·right;have D:=(Xe.1 d).1
   simp at D
   have v:j=P.thr.length:=by omega
   subst v;rw[XI (Xf _),YO] at d;rw[<-h.len,XI (Xf _),YO] at c
   cases d;cases c
   exact⟨Xy _ _ _ _,(λg e=>by cases e),Xy _ _ _ _,(λg e=>by cases e)⟩
theorem Od {th th':Az} {p p':Xj×Xj} {j:Nat} (l:List Az) (m:List (Xj×Xj)):(l.zip m).set j (th',p')=(l.set j th').zip (m.set j p'):=by
 induction l generalizing j m with
 |nil=>simp
 |cons a l c=>
  cases m with
  |nil=>simp
  |cons b m=>
   cases j with
   |zero=>simp
   |succ j=>simp[c]
theorem Ah.Nx {w3:Xg} {tag3:Nat->RT} {j r a I:Nat} {th th':Az} {p p':Xj×Xj} {v:Xj} {gk:RT} (h:Ah w tag base pb P U) (F:P.thr[j]?=some th) (S:U.TV[j]?=some p) (z:r<3) (M:Da (th',p')=(Da (th,p)).set r v) (s:gk = .cd j\/gk = .lb j)
 (n:U.tV = .slice (some ⟨a,0,none⟩) P.thr.length I) (Z:w.heap.size+1<=w3.heap.size) (X:w3.os=w.os) (W:w3.tape=w.tape) (J:w3.output=w.output)
 (A:∀b,b<w.heap.size->tag b≠gk->w3.heap[b]?=w.heap[b]?) (C:∀b,b<=w.heap.size->tag3 b=tag b) (K:∀b,w.heap.size<=b->tag3 b≠.o->b<w3.heap.size)
 (V:∀H:Xg,(∀b,b≠a->H.heap[b]?=w3.heap[b]?)->ID H tag3 base j th' p') :
 w3.cell? ⟨a,j*3+r,none⟩=(Da (th,p))[r]?/\w3.frozen? ⟨a,j*3+r,none⟩=false/\Ah (w3.setCell ⟨a,j*3+r,none⟩ v) tag3 base pb {P with thr:=P.thr.set j th'} {U with TV:=U.TV.set j p'}/\Ag w tag (w3.setCell ⟨a,j*3+r,none⟩ v) tag3:=by
 have R:=h.lt h.tp (by simp);have l:tag a = .row 116:=h.tt a (by rw[n];rfl);have Y:=h.lt l (by simp);have B:=(Xe.1 F).1;have q:gk≠.o/\gk≠.row 116/\gk≠.rd/\∀k,gk≠.row k:=by rcases s with rfl|rfl<;>simp
 have E:=h.trow;rw[n] at E;have u:w3.ownsRow base 199 3 (.slice (some ⟨a,0,none⟩) P.thr.length I) P.thr.length ((P.thr.zip U.TV).flatMap Da):=Bg E λx m=>by
  have m:some a=some x:=m
  cases m
  exact A a Y (by rw[l];exact λe=>q.2.1 e.symm)
 have G:(P.thr.zip U.TV)[j]?=some (th,p):=by
  rw[ZF];exact⟨F,S⟩
 have t:∀b,b<w.heap.size->tag b≠gk->b≠a->(w3.setCell ⟨a,j*3+r,none⟩ v).heap[b]?=w.heap[b]?:=λb f g d=>(Xl w3 ⟨a,j*3+r,none⟩ _ b d).trans (A b f g);have m:Ag w tag (w3.setCell ⟨a,j*3+r,none⟩ v) tag3:=⟨X,W,J,by simp;omega,λb f=>C b (by omega),λb f y=>t b f (by rw[y];exact λe=>q.1 e.symm) (BI y l (by simp))⟩;refine⟨?_,u.frozenAt _,?_,m⟩
 ·rw[u.cellAt (j*3+r) (by omega)];exact GN IM G z
 refine h.step (λx=>x=gk\/x = .row 116) m (λb f g d=>t b f (λe=>d (.inl e)) (λe=>d (by rw[e];exact .inr l))) (λb f Q=>by simp only[XG];exact K b f Q) ?_ (λk' O=>.inl ⟨rfl,rfl,?_⟩) (.inr ⟨?_,λD e=>?_,by simp[h.len]⟩) (λi T N g d=>?_)
 ·exact(t pb R (by rw[h.tp];exact λe=>q.2.2.1 e.symm) (BI h.tp l (by simp))).trans h.cell
 ·rintro(e|e)
  ·exact q.2.2.2 k' e.symm
  ·rcases O with rfl|rfl|rfl<;>cases e
 ·show Z4 _ _ _ _ U.tV (P.thr.set j th').length (((P.thr.set j th').zip (U.TV.set j p')).flatMap Da);rw[List.length_set,<-Od (th:=th) (p:=p),n,<-Mw IM G z M]
  exact(u.stored (j*3+r) v).1
 ·have e:U.tV.ownBlock=some D:=e;rw[n] at e;have e:some a=some D:=e
  cases e
  exact(C a (by omega)).trans l
 ·have g:(P.thr.set j th')[i]?=some T:=g;have d:(U.TV.set j p')[i]?=some N:=d
  by_cases e:i=j
  ·subst e;right;rw[Yz B] at g;rw[Yz (by rw[h.len];exact B)] at d
   cases g;cases d
   exact V _ (λb f=>Xl w3 ⟨a,i*3+r,none⟩ _ b f)
  ·rw[List.getElem?_set_ne (λc=>e c.symm)] at g d;refine .inl ⟨g,d,?_,?_⟩
   ·rintro(c|c)
    ·rcases s with rfl|rfl
     ·cases c;exact e rfl
     ·cases c
    ·cases c
   ·rintro(c|c)
    ·rcases s with rfl|rfl
     ·cases c
     ·cases c;exact e rfl
    ·cases c
end
section
variable {w w':Xg} {tag tag':Nat->RT} {base pb:Nat} {P:RP} {U:RV}
theorem Ah.JE (h:Ah w tag base pb P U) {j:Nat} {th:Az} (d:P.thr[j]?=some th):∃a c,U.tV = .slice (some ⟨a,0,none⟩) P.thr.length c:=by
 have e:=(Xe.1 d).1;obtain⟨m,b⟩:∃m,P.thr.length=m+1:=⟨P.thr.length - 1,by omega⟩;have:=h.trow;rw[b] at this |-;exact YV this
theorem Ah.label (h:Ah w tag base pb P U) {j:Nat} {th:Az} {p:Xj×Xj} (m:P.thr[j]?=some th) (s:U.TV[j]?=some p) (x:Tx) (n:Nat) (z:th.labs.length<1048576) {c O:Nat} (l:U.tV = .slice (some ⟨c,0,none⟩) P.thr.length O) :
 ∃g cap w3,(XM #[197,197] 197 #[p.2,.slice (some ⟨w.heap.size,0,none⟩) 1 1]).run Tryz.prog (w.alloc (.cells #[.string (bs x),.int .i64 n] 202)) = .ok (.slice (some ⟨g,0,none⟩) (th.labs.length+1) cap) w3/\w3.cell? ⟨c,j*3+2,none⟩=some p.2/\w3.frozen? ⟨c,j*3+2,none⟩=false/\
  ∃tag',Ah (w3.setCell ⟨c,j*3+2,none⟩ (.slice (some ⟨g,0,none⟩) (th.labs.length+1) cap)) tag' base pb {P with thr:=P.thr.set j {th with labs:=th.labs++[(x,n)]}} {U with TV:=U.TV.set j (p.1,.slice (some ⟨g,0,none⟩) (th.labs.length+1) cap)}/\Ag w tag (w3.setCell ⟨c,j*3+2,none⟩ (.slice (some ⟨g,0,none⟩) (th.labs.length+1) cap)) tag':=by
 have e:∀b,tag b≠.o->b<w.heap.size:=λb Q=>(h.tlt b Q).2;have T:=h.g3;have d:=h.ths j th p m s;have f:tag c = .row 116:=h.tt c (by rw[l];rfl);obtain⟨S,G,B,H,I⟩:=Y2 Tryz.infoRL;obtain⟨g,cap,w3,tag3,F,E,q,M,C,u,N,k,i,D⟩:=Ls d.labs d.tl (by simp) Tryz.underlying197 G B H I rfl (by omega) [.string (bs x),.int .i64 n] rfl (by simp[Zc]) 197 z (by omega) e;obtain⟨K,A,R,J⟩:=h.Nx (w3:=w3) (tag3:=tag3) (r:=2) (th':={th with labs:=th.labs++[(x,n)]}) (p':=(p.1,.slice (some ⟨g,0,none⟩) (th.labs.length+1) cap)) (v:=.slice (some ⟨g,0,none⟩) (th.labs.length+1) cap) (gk:=.lb j) m s (by omega) rfl (.inr rfl) l N M C u k i D (λV t=>by
  refine⟨Bg d.code λy a=>?_,λy a=>(i y (by have:=e y (by rw[d.tc y a];simp);omega)).trans (d.tc y a),?_,λy a=>?_⟩
  ·rw[t y (BI (d.tc y a) f (by simp))];exact k y (e y (by rw[d.tc y a];simp)) (by rw[d.tc y a];simp)
  ·show Z4 _ _ _ _ _ (th.labs++[(x,n)]).length ((th.labs++[(x,n)]).flatMap Kf);rw[Xd,XZ];refine Bg E λy a=>?_;have a:some g=some y:=a
   cases a
   exact t g (BI q ((i c (by have:=e c (by rw[f];simp);omega)).trans f) (by simp))
  ·have a:some g=some y:=a
   cases a;exact q)
 exact⟨g,cap,w3,F,K,A,tag3,R,J⟩
theorem Ah.RU (h:Ah w tag base pb P U) {j:Nat} {th:Az} {p:Xj×Xj} (q:P.thr[j]?=some th) (t:U.TV[j]?=some p) (r:RI) (x:th.code.length<1048576) {c M:Nat} (n:U.tV = .slice (some ⟨c,0,none⟩) P.thr.length M) :
 ∃g cap w3,(XM #[196,196] 196 #[p.1,.slice (some ⟨w.heap.size,0,none⟩) 1 1]).run Tryz.prog (w.alloc (.cells (AC r).toArray 177)) = .ok (.slice (some ⟨g,0,none⟩) (th.code.length+1) cap) w3/\w3.cell? ⟨c,j*3+1,none⟩=some p.1/\w3.frozen? ⟨c,j*3+1,none⟩=false/\
  ∃tag',Ah (w3.setCell ⟨c,j*3+1,none⟩ (.slice (some ⟨g,0,none⟩) (th.code.length+1) cap)) tag' base pb {P with thr:=P.thr.set j {th with code:=th.code++[r]}} {U with TV:=U.TV.set j (.slice (some ⟨g,0,none⟩) (th.code.length+1) cap,p.2)}/\Ag w tag (w3.setCell ⟨c,j*3+1,none⟩ (.slice (some ⟨g,0,none⟩) (th.code.length+1) cap)) tag':=by
 have f:∀b,tag b≠.o->b<w.heap.size:=λb N=>(h.tlt b N).2;have S:=h.g3;have d:=h.ths j th p q t;have i:tag c = .row 116:=h.tt c (by rw[n];rfl);obtain⟨R,E,A,F,G⟩:=Y2 Tryz.infoRI;obtain⟨g,cap,w3,tag3,O,D,s,J,B,u,K,l,k,C⟩:=Ls d.code d.tc (by simp) Tryz.underlying196 E A F G rfl (by omega) (AC r) rfl (by simp[AC,Zc]) 196 x (by omega) f;obtain⟨I,z,Q,H⟩:=h.Nx (w3:=w3) (tag3:=tag3) (r:=1) (th':={th with code:=th.code++[r]}) (p':=(.slice (some ⟨g,0,none⟩) (th.code.length+1) cap,p.2)) (v:=.slice (some ⟨g,0,none⟩) (th.code.length+1) cap) (gk:=.cd j) q t (by omega) rfl (.inl rfl) n K J B u l k C (λT m=>by
  refine⟨?_,λy a=>?_,Bg d.labs λy a=>?_,λy a=>(k y (by have:=f y (by rw[d.tl y a];simp);omega)).trans (d.tl y a)⟩
  ·show Z4 _ _ _ _ _ (th.code++[r]).length ((th.code++[r]).flatMap AC);rw[Xd,XZ];have e:[r].flatMap AC=AC r:=by simp
   rw[e];refine Bg D λy a=>?_;have a:some g=some y:=a
   cases a
   exact m g (BI s ((k c (by have:=f c (by rw[i];simp);omega)).trans i) (by simp))
  ·have a:some g=some y:=a
   cases a;exact s
  ·rw[m y (BI (d.tl y a) i (by simp))];exact l y (f y (by rw[d.tl y a];simp)) (by rw[d.tl y a];simp))
 exact⟨g,cap,w3,O,I,z,tag3,Q,H⟩
theorem Ah.FY (h:Ah w tag base pb P U) {j r:Nat} {th:Az} {p:Xj×Xj} (c:P.thr[j]?=some th) (e:U.TV[j]?=some p) (d:r<3) {a f:Nat} (g:U.tV = .slice (some ⟨a,0,none⟩) P.thr.length f):w.cell? ⟨a,j*3+r,none⟩=(Da (th,p))[r]?:=by
 have i:=(Xe.1 c).1;have b:=h.trow;rw[g] at b;rw[b.cellAt (j*3+r) (by omega)];exact GN IM (by rw[ZF];exact⟨c,e⟩) d
end
def RP.names (P:RP):List Tx:=P.thr.map Az.name
theorem ON {w:Xg} {t:Nat->RT} {base q:Nat} {P:RP} {U:RV} (h:Ah w t base q P U) (x:Tx) (G:P.thr.length<1048576) :
 X3 Tryz.prog 114 #[Ab q,.string (bs x)] w λe w'=>e = .returned (.int .i64 (Ao P.names x))/\w'=w:=by
 have v:=h.FX;obtain⟨ta,F,b⟩:=At h.trow;rw[b] at v;have H:=Aa h;replace b:=Aa b;unfold Ab;clear h
 go_enter Tryz.func114,Tryz.ntmps114
 go_wp2_with fail
 go_loopw [5] (λc wr=>∃i:Nat,i<=P.thr.length/\c = .int .i64 i/\(∀j:Nat,j<i->P.names.getD j []≠x)/\wr=w) (λc _=>P.thr.length - (intOf c).toNat)
 case atStart=>exact⟨0,XD _,rfl,λj m=>by omega,rfl⟩
 case round=>
  obtain⟨i,E,rfl,a,rfl⟩:=hrel;have y:P.names.length=P.thr.length:=by simp[RP.names]
  by_cases s:i<P.thr.length
  ·obtain⟨th,g⟩:∃th,P.thr[i]?=some th:=⟨_,Xc s⟩;obtain⟨p,A⟩:∃p,U.TV[i]?=some p:=⟨_,Xc (by rw[H.out.len];exact s)⟩;obtain⟨u,C,k⟩:=H.out.JE g;have e:=b.out;rw[k] at e
   cases e
   have I:(i:Int)<(P.thr.length:Int):=by omega
   have D:wr.cell? ⟨u,i*3,none⟩=some (.string (bs th.name)):=H.out.FY g A (r:=0) (by omega) k;have f:P.names.getD i []=th.name:=by
    rw[Xb,RP.names,Xp,g];rfl
   have d:=Aa (⟨a,λh=>Mz (l:=P.names) (n:=x) (i:=i) (by omega) a (by rw[f];exact h),f⟩:_/\(th.name=x->_)/\_);have o:((bs th.name).toList == (bs x).toList)=decide (th.name=x):=by
    rw[AR,AR]
    by_cases e:th.name=x<;>simp[e]
   clear a f y
   by_cases e:th.name=x
   ·rw[decide_eq_true e] at o;replace e:=Aa e
    go_wp2_with fail
    go_ret
    exact⟨by rw[d.out.2.1 e.out];rfl,by trivial⟩
   ·rw[decide_eq_false e] at o;replace e:=Aa e
    go_wp2_with fail
    go_roundw
    case rel=>
     refine⟨i+1,by omega,by go_num,λj m=>?_,by trivial⟩
     by_cases z:j=i
     ·subst z;rw[d.out.2.2];exact e.out
     ·exact d.out.1 j (by omega)
    case measure=>simp[intOf];omega
  ·have B:Hid (Ao P.names x = -1):=My (λj m=>a j (by omega));clear a
   go_wp2_with fail
   go_ret
   exact⟨by rw[B.out];rfl,by trivial⟩
def DA (P:RP) (x:Tx):Bool:=decide (0<=Ao P.vs x)||decide (0<=Ao P.fs x)||decide (0<=Ao P.ls x)||decide (0<=Ao P.names x)
end Go.Proofs.YtdcacoifehkioaaGreatDoor
