import Derived.Test.YtdcacoifehkioaaGreatDoorExA20
import Derived.Test.YtdcacoifehkioaaGreatDoorExA22
import Derived.LaidEql
import Derived.Stop.Asserts
import Derived.RowKitTokens
import Derived.Test.YtdcacoifehkioaaGreatDoorExA14
import Derived.Shelf.SlIter.Nil
import Derived.Shelf.SlIterI.Nil
import Derived.Shelf.SortM.Plain
import Derived.Shelf.SortM.SortNone
import Derived.Shelf.Lay
import Derived.Ground.GgzProg
import Derived.Ground.SlgmProg
import Derived.Maps.OwnSet
import Derived.Lib.SlKeysI
import Derived.Test.YtdcacoifehkioaaGreatDoorExA13
import Derived.Stop.LaidTwo
import Derived.Deep.QuietTactic
open Go renaming World->Xh,Calls->XY,maxLen->ZY,Addr->YV,Value->Xk,TypeId->YH,run_typeAssert_lacksB->afV,run_callFunc_extern->Z7,callsIn_wide->X1,MapEntry->Y9,CallsIn->af9
open Go.Lib renaming join->YU
open Go.RowKit renaming Below->Xm,wrap64->XN
open List renaming map_map->Zv,getElem?_map->Xs,length_map->Xp,length_append->Xb,map_append->XH,append_nil->Yf,getElem?_eq_some_iff->Xf,mem_cons->XP,pairwise_cons->Zw,mem_cons_self->Ye,mem_cons_of_mem->Yk,map_congr_left->aga,pairwise_map->afv,mem_map->YA,mergeSort_perm->afF,mem_append->XX,mem_singleton->XT,mem_append_left->ZA,take_succ_cons->agc,take_add_one->Yo,getElem?_eq_getElem->Xe,drop_eq_nil_of_le->Y7
open Option renaming map_eq_some_iff->Yu,ne_none_iff_exists'->age
open Go.Value renaming string->Yi,int->Yw
open Nat renaming mul_one->afp,le_succ->af7,le_refl->Xd,lt_of_lt_of_le->XF,le_trans->Xu,lt_or_ge->afI,zero_le->Xx,le_of_not_lt->afe
open Array renaming getElem?_eq_some_iff->Xa,getElem?_eq_none->YT
open Go.RowKit.Below renaming refl->Xq,heap_alloc->Xv
open Go.World renaming alloc_heap_new->Xi,cell?->Xg
open Go.Extern.ReflectliteType renaming typeOf->afg
open Bool renaming false_eq_true->Zh,not_eq_true'->afr
open Go.Fence renaming wide->Ym
open Go.Maps renaming size->agb
open Go.IntKind renaming i64->Z8
open Go.Ending renaming returned->YE
set_option maxRecDepth 100000
set_option maxHeartbeats 2000000
set_option linter.unusedVariables false
set_option linter.unusedSimpArgs false
namespace Go.Proofs.YtdcacoifehkioaaGreatDoor
open Go.RowKit Go.Shelf Go.Proofs.Cod
theorem VD (s:ByteArray) (n:Nat) (a:Int) (w:Xh) (b:s.size<4294967281) (d:w.cell? ⟨4,0,none⟩=some (.int .i64 a)) (g:n<=s.size) (f:n<=8) :
 XY Tryz.prog 57 #[.string s,.string ⟨#[10]⟩,.int .i64 ((n:Int)+1)] w λe w'=>e = .returned (.slice (some ⟨w.heap.size,0,none⟩) (Lib.splitB ⟨#[10]⟩ 0 n s).length (n+1))/\w'=w.alloc (.cells (Lib.cellsOf (Lib.splitB ⟨#[10]⟩ 0 n s) (n+1)) 9):=by
 have c:=Any.strings_SplitN Tryz.lays147 Tryz.hi147 s ⟨#[10]⟩ (n+1) a w b d (by decide) (by omega) (by omega);rw[show min (n+1) (s.size+1)=n+1 by omega,Nat.add_sub_cancel] at c;exact c
theorem Si (b c:Nat) (a:List Tx) (w:Xh) (i:∀(j:Nat) x,a[j]?=some x->w.cell? ⟨b,j,none⟩=some (.string (bs x))) (k:b<w.heap.size) (m:a.length<=9) (l:a.length<=c) (g:(YU a [32]).length<=140737488355328) :
 XY Tryz.prog 58 #[.slice (some ⟨b,0,none⟩) a.length c,.string ⟨#[32]⟩] w λe w'=>e = .returned (.string (bs (YU a [32])))/\Xm w.heap.size w w':=by
 have f:(a.map bs).map (λx=>x.data.toList)=a:=by
  rw[Zv];have:(λx:ByteArray=>x.data.toList) ∘ bs=id:=by funext x;unfold bs;rfl
  rw[this,List.map_id]
 have q:=Any.strings_Join Tryz.lays156 Tryz.extra156 b 0 c (a.map bs) ⟨#[32]⟩ w (λj x d=>by
  rw[Xs] at d;obtain⟨y,h,rfl⟩:=Yu.1 d;rw[Nat.zero_add];exact i j y h) k (by rw[Xp];omega) (by rw[Xp];exact l) (by rw[f];exact g)
 rw[f,Xp] at q;exact q
theorem RU {a b c:Nat} (d:a<=b) (f:b<=c+6) (e:c<4294967000):a<=140737488355328:=by omega
theorem Sk {p:PD} {m:MS} (h:(Aj p m).length<4294967000):(YU (AU p m) [32]).length<=140737488355328/\(YU (AU p m++[EM]) [32]).length<=140737488355328:=by
 obtain⟨r,f⟩:=PK p m;have e:(Aj p m).length=((AU p m).flatMap (λx=>x++[10])).length+r.length:=by rw[f,Xb]
 have g:((AU p m++[EM]).flatMap (λx=>x++[10])).length=((AU p m).flatMap (λx=>x++[10])).length+6:=by rw[List.flatMap_append,Xb];rfl
 generalize ((AU p m).flatMap (λx=>x++[10])).length=a at *;have i:=Kh (AU p m);have d:=Kh (AU p m++[EM]);rw[g] at d
 exact⟨RU i (b:=((AU p m).flatMap (λx=>x++[10])).length) (c:=(Aj p m).length) (by rw[f,Xb];omega) h,RU d (c:=(Aj p m).length) (by omega) h⟩
theorem Wn {b:Xh} {base sb n:Nat} {ls:List Tx} {e:Tx} (d:b.heap[sb]?=some (.cells ((ls++[e]).map λx=>Yi (bs x)).toArray 9)) (a:ls.length=n) (f:n<=8) (c:base<=sb) :
 b.ownsRow base 9 1 (.slice (some ⟨sb,0,none⟩) n (n+1)) n (ls.map λx=>Yi (bs x)):=by
 refine⟨by rw[Xp,a,afp],.inr ⟨sb,n+1,_,rfl,c,d,af7 _,by unfold ZY;omega,?_,?_⟩⟩
 ·rw[List.size_toArray,Xp,Xb,a,afp];rfl
 ·rw[XH,afp];exact List.take_left' (by rw[Xp];exact a)
theorem Ut {a b n:Nat} (h:a+b=n) (c:n<=8):XN ((a:Int)+(b:Int))=(n:Int)/\XN ((n:Int)+1)=(n:Int)+1:=by
 constructor<;>unfold XN<;>omega
theorem Rf {w:Xh} {b vn fn_ vc fc:Nat} {va fa:Option YV} {mv mo fr nx lV tV:Xk} {y mx:Int} {f:Bool} {p:PD} {m:MS} (h:AY w b mv (Aj p m) (Ay m) f mo fr y nx) (hn:Iq p) (hM:CY p m) (hf:CK p) (B:(Aj p m).length<4294967000) (V:w.cell? ⟨4,0,none⟩=some (.int .i64 mx)) (aL:vn=p.vs.length) (aw:fn_=p.fs.length) :
 XY Tryz.prog 26 #[Ab b,.agg #[.slice va vn vc,.slice fa fn_ fc,lV,tV]] w λe w'=>e = .returned (.string (bs (Bz p m)))/\Xm w.heap.size w w':=by
 obtain⟨H,ac,ad⟩:=Vv hn hM;have c:=Jj p m;have D:=hf.v;have C:=hf.f;obtain⟨aO,I⟩:=Sk B;have Y:b<w.heap.size:=(Xa.1 h).1;have P:4<w.heap.size:=World.block_lt_of_cell? _ _ V;obtain⟨W,J⟩:∃W,w.alloc (.cells #[.slice va vn vc,.slice fa fn_ fc,lV,tV] 25)=W:=⟨_,rfl⟩;have A:Xm w.heap.size w W:=by rw[<-J];exact(Xq _ _).alloc (Xd _) _
 have kp:W.heap[w.heap.size]?=some (.cells #[.slice va vn vc,.slice fa fn_ fc,lV,tV] 25):=by rw[<-J];exact Xi w _
 obtain⟨p0,p1,p2,p3⟩:=Ea kp;have hS:=(A.block b Y).trans h;obtain⟨-,s1,s2,-⟩:=DO hS;have aD:=(A.cell (p:=⟨4,0,none⟩) P).trans V;obtain⟨n,o⟩:∃n,p.vs.length+p.fs.length=n:=⟨_,rfl⟩;rw[o] at ac ad c;have k:n<=8:=by rw[<-o];exact Nat.add_le_add D C
 have t:=VD (bs (Aj p m)) n mx W (by rw[Bg];exact Nat.lt_trans B (by decide)) aD ad k;rw[ac] at t;rw[Xp,Xb,c,show (([H]:List Tx)).length=1 from rfl] at t;have aN:Lib.cellsOf ((AU p m++[H]).map bs) (n+1)=((AU p m++[H]).map λx=>Yi (bs x)).toArray:=by
  unfold Lib.cellsOf;rw[Xp,Xb,c,show (([H]:List Tx)).length=1 from rfl,Nat.sub_self,List.replicate_zero,Yf,Zv]
  rfl
 rw[aN] at t;obtain⟨i,U⟩:∃i,W.alloc (.cells ((AU p m++[H]).map λx=>Yi (bs x)).toArray 9)=i:=⟨_,rfl⟩;rw[U] at t;have ah:Xm W.heap.size W i:=by rw[<-U];exact(Xq _ _).alloc (Xd _) _
 have T:i.heap[W.heap.size]?=some (.cells ((AU p m++[H]).map λx=>Yi (bs x)).toArray 9):=by rw[<-U];exact Xi W _
 obtain⟨sb,X⟩:∃x,W.heap.size=x:=⟨_,rfl⟩;rw[X] at t T;have d:Xm w.heap.size w i:=A.trans (ah.mono A.size);obtain⟨-,-,t2,-⟩:=DO ((ah.block b (XF Y A.size)).trans hS);obtain⟨aA,a5⟩:=Ut (a:=vn) (b:=fn_) (by rw[aL,aw];exact o) k;have s:i.ownsRow w.heap.size 9 1 (.slice (some ⟨sb,0,none⟩) n (n+1)) n ((AU p m).map λx=>Yi (bs x)):=Wn T c k (by rw[<-X];exact A.size);have aE:sb<i.heap.size:=(Xa.1 T).1;have K:∀(j:Nat) x,(AU p m)[j]?=some x->i.cell? ⟨sb,j,none⟩=some (.string (bs x)):=λj x M=>by
  have S:=(Xf.1 M).1;rw[s.cellAt j (by rw[afp,<-c];exact S),Xs,M];rfl
 have r:Ay m=0->Bz p m=YU (AU p m) [32]:=λz=>by unfold Bz;rw[if_neg (by omega),Yf]
 have q:0<Ay m->Bz p m=YU (AU p m++[EM]) [32]:=λz=>by unfold Bz;rw[if_pos z]
 have N:=Si sb (n+1) (AU p m) i K aE (by rw[c];exact Nat.le_succ_of_le k) (by rw[c];exact af7 n) aO;rw[c] at N;obtain⟨pc,l⟩:∃x,w.heap.size=x:=⟨_,rfl⟩;rw[l] at p0 p1 p2 p3;obtain⟨G,E⟩:∃x,Ay m=x:=⟨_,rfl⟩;rw[E] at s2 t2 r q;obtain⟨sh,am⟩:∃x,Aj p m=x:=⟨_,rfl⟩;rw[am] at s1 t;obtain⟨O,hO⟩:∃x,Bz p m=x:=⟨_,rfl⟩;rw[hO] at r q |-;have Z:=Aa (⟨d,s,K,r,q,I,c,B,l,D,C,o⟩:_/\_/\_/\_/\_/\_/\_/\_/\_/\_/\_/\_);replace J:=Aa J;replace l:=Aa l;replace aA:=aA;clear h hn hM hf V aL aw ac ad c D C aO I k B Y P A kp hS aD o aN U ah T X d s aE K r q E am hO;unfold Ab
 go_enter Tryz.func26,Tryz.ntmps26
 go_upto_region 1 with fail
 try rw[J.out]
 try rw[l.out]
 clear J l
 go_wp2_with fail
 refine t.mono ?_;rintro e w2 ⟨rfl,he⟩;rw[he];clear he t s1 s2 p0 p1 p2 p3;obtain⟨d,s,K,r,q,I,c,B,l,D,C,o⟩:=Z.out;have k:n<=8:=by rw[<-o];exact Nat.add_le_add D C
 by_cases E:0<G
 ·have d1:decide ((0:Int)<(G:Int))=true:=decide_eq_true (by omega);have d2:(0:Int)<(G:Int):=by omega
  have d3:decide (0<G)=true:=decide_eq_true E;obtain⟨i0,hi,ak,av,ax⟩:=info_parts Tryz.infoStrX;obtain⟨g,cap,w3,ap,R,ro,rt,rp,rz,rb,rg⟩:=Ic s Tryz.underlying22 hi ak av ax rfl (by omega) [.string (bs EM)] rfl (by intro u hu;simp at hu;subst hu;rfl) 22 (by omega) d.size;have az:Xm w.heap.size w w3:=⟨ro.trans d.os,rt.trans d.tape,rp.trans d.output,by have:=d.size;omega,λx hx=>(rb x (XF hx d.size) (λe=>by have:=(s.lt x e).1;omega)).trans (d.block x hx)⟩;have P:=(R.lt g rfl).2;have aJ:n+1<=cap:=by
   rcases id R.2 with⟨z,-⟩|⟨g',aZ,a3,z,-,-,h3,-⟩
   ·cases z
   ·injection z with _ _ z
    rw[z];exact h3
  have ag:=Si g cap (AU p m++[EM]) w3 (λj x M=>by
   have S:=(Xf.1 M).1;rw[Xb,c,show (([EM]:List Tx)).length=1 from rfl] at S;rw[R.cellAt j (by rw[afp];exact S)];have e:(AU p m).map (λx=>Yi (bs x))++[Yi (bs EM)]=(AU p m++[EM]).map λx=>Yi (bs x):=by rw[XH];rfl
   rw[e,Xs,M];rfl) P (by rw[Xb,c];exact Nat.succ_le_succ k) (by rw[Xb,c];exact aJ) I
  rw[Xb,c,show (([EM]:List Tx)).length=1 from rfl,<-q E] at ag;have F:=Aa az;have aW:i.heap.size=i.heap.size:=rfl;clear aW d s K r q I c B l D C o k E hi ak av ax R ro rt rp rz rb rg az P aJ Z N;unfold EM bs at ap
  go_wp2_with (at_builtin;refine Dl rfl _ _ _ rfl rfl rfl rfl ap ?_)
  refine ag.mono ?_;rintro e w4 ⟨rfl,Q⟩;have HF:=Aa (F.out.trans (Q.mono F.out.size));clear ag F Q
  go_wp2_with fail
  go_ret
  exact⟨rfl,HF.out⟩
 ·have aU:G=0:=by omega
  subst aU;have d1:decide ((0:Int)<((0:Nat):Int))=false:=by decide
  rw[<-r rfl] at N;have F:=Aa d;clear d s K r q I c B l D C o k E Z
  go_wp2_with fail
  refine N.mono ?_;rintro e w4 ⟨rfl,Q⟩;have HF:=Aa (F.out.trans (Q.mono F.out.size));clear N F Q
  go_wp2_with fail
  go_ret
  exact⟨rfl,HF.out⟩
end Go.Proofs.YtdcacoifehkioaaGreatDoor
namespace Go.Proofs.YtdcacoifehkioaaGreatDoor
open Go.RowKit Go.Extern.Stop Go.Stop Go.Extern Go.Shelf
def Oa:Array Xk->Sem Xk:=Extern.ReflectliteType.method λt=>do
 Extern.Rtype.noPackHeld "Comparable" t
 pure (.bool (<-typeInfo t).comparable)
theorem Tryz.isTypeOf (v:Xk) (w:Xh):(afg #[.iface 346 v]).run Tryz.prog w = .ok (.iface 251 (.agg #[.pointer (some ⟨12,346,none⟩)])) w:=by kernel_rfl
theorem Tryz.isComparable (w:Xh):(Oa #[.agg #[.pointer (some ⟨12,346,none⟩)]]).run Tryz.prog w = .ok (.bool true) w:=by kernel_rfl
theorem Tryz.isComp:(Tryz.prog.info? 346).map (·.comparable)=some true:=by kernel_rfl
theorem Tryz.isSize:(Tryz.prog.info? 348).map (·.size)=some 1:=by kernel_rfl
theorem Tryz.noIsE (v:Xk) (a:YH) (w:Xh):(Instr.typeAssert (.iface 346 v) a 253 true).run Tryz.prog w = .ok (.tuple #[.nilIface,.bool false]) w:=afV Tryz.underlying253 (by kernel_rfl) (by kernel_rfl) v a w
theorem Tryz.noUnwrapE (v:Xk) (a:YH) (w:Xh):(Instr.typeAssert (.iface 346 v) a 256 true).run Tryz.prog w = .ok (.tuple #[.nilIface,.bool false]) w:=afV Tryz.underlying256 (by kernel_rfl) (by kernel_rfl) v a w
theorem Tryz.noUnwrapsE (v:Xk) (a:YH) (w:Xh):(Instr.typeAssert (.iface 346 v) a 258 true).run Tryz.prog w = .ok (.tuple #[.nilIface,.bool false]) w:=afV Tryz.underlying258 (by kernel_rfl) (by kernel_rfl) v a w
theorem So (a:YV) (w:Xh) :
 XY Tryz.prog 56 #[.iface 346 (.pointer (some a)),.iface 346 (.pointer (some a))] w λe w'=>e = .returned (.bool true)/\w'=w:=by
 obtain⟨i,c,d⟩:=Yu.1 Tryz.isComp;obtain⟨j,b,m⟩:=Yu.1 Tryz.isSize;have f:=@Z7 Tryz.prog 117 _ afg Tryz.func117 (by kernel_rfl) (by kernel_rfl) (by kernel_rfl) (by kernel_rfl);have g:=@Z7 Tryz.prog 264 _ Oa Tryz.func264 (by kernel_rfl) (by kernel_rfl) (by kernel_rfl) (by kernel_rfl);have h:=Tryz.isTypeOf;have l:=Tryz.isComparable;have k:=run_eql_iface_ptr_same (P:=Tryz.prog) w a Tryz.underlying71 Tryz.underlying346 c d b
 go_enter Tryz.func56,Tryz.ntmps56
 go_wp2
 refine wp_loop_rounds 1 ?_;rw[rounds_succ]
 go_wp2
 go_ret
 exact⟨rfl,rfl⟩
theorem acj (a b:YV) (ca cb:Array Xk) (m l:YH) (w:Xh) (h:a≠b) (k:w.heap[a.block]?=some (.cells ca m (0,0))) (c:w.heap[b.block]?=some (.cells cb l (0,0))) :
 XY Tryz.prog 56 #[.iface 346 (.pointer (some a)),.iface 346 (.pointer (some b))] w λe w'=>e = .returned (.bool false)/\w'=w:=by
 obtain⟨i,f,g⟩:=Yu.1 Tryz.isComp;obtain⟨j,d,n⟩:=Yu.1 Tryz.isSize;have p:=@Z7 Tryz.prog 117 _ afg Tryz.func117 (by kernel_rfl) (by kernel_rfl) (by kernel_rfl) (by kernel_rfl);have t:=@Z7 Tryz.prog 264 _ Oa Tryz.func264 (by kernel_rfl) (by kernel_rfl) (by kernel_rfl) (by kernel_rfl);have s:=Tryz.isTypeOf;have u:=Tryz.isComparable;have q:=Tryz.noIsE;have v:=Tryz.noUnwrapE;have o:=Tryz.noUnwrapsE;have r:=run_eql_iface_ptr_other (P:=Tryz.prog) w Tryz.underlying71 Tryz.underlying346 f g d (by rw[n];decide) h k c
 go_enter Tryz.func56,Tryz.ntmps56
 go_wp2
 refine wp_loop_rounds 1 ?_;rw[rounds_succ]
 go_wp2
 go_ret
 exact⟨rfl,rfl⟩
structure Oy (w:Xh) (er em:YV):Prop where
 ne:er≠em
 r:∃c t,w.heap[er.block]?=some (.cells c t (0,0))
 m:∃c t,w.heap[em.block]?=some (.cells c t (0,0))
def CO (er em:YV) (b:Bool):Xk:=.iface 346 (.pointer (some (if b then em else er)))
def EG (b:Bool):Int:=if b then 4 else 8
theorem Rk {w:Xh} {c a:YV} (h:Oy w c a) (l:It w (CO c a)) (b:Bool) :
 XY Tryz.prog 24 #[CO c a b] w λe w'=>e = .returned (.int .i64 (EG b))/\w'=w:=by
 obtain⟨n,⟨c1,m,g⟩,⟨c2,o,d⟩⟩:=h;obtain⟨i,j⟩:=l;unfold CO EG at *
 cases b with
 |false=>
  have f:=So c w;clear g d;simp only[Zh,if_false,if_true] at i j |-
  go_enter Tryz.func24,Tryz.ntmps24
  go_wp2_with fail
  refine f.mono ?_;rintro e w' ⟨rfl,rfl⟩
  go_wp2_with fail
  go_ret
  exact⟨rfl,rfl⟩
 |true=>
  have f:=acj a c c2 c1 o m w (λe=>n e.symm) d g;have k:=So a w;clear g d;simp only[Zh,if_false,if_true] at i j |-
  go_enter Tryz.func24,Tryz.ntmps24
  go_wp2_with fail
  refine f.mono ?_;rintro e w' ⟨rfl,rfl⟩
  go_wp2_with fail
  refine k.mono ?_;rintro e w' ⟨rfl,rfl⟩
  go_wp2_with fail
  go_ret
  exact⟨rfl,rfl⟩
end Go.Proofs.YtdcacoifehkioaaGreatDoor
namespace Go.Proofs.YtdcacoifehkioaaGreatDoor
open Go.RowKit Go.Proofs.Cod
def AN:Tx->Tx->Bool
 |[],[]=>false
 |[],_::_=>true
 |_::_,[]=>false
 |a::l,b::r=>if a=b then AN l r else decide (a<b)
theorem Kb:∀a:Tx,AN a a=false
 |[]=>rfl
 |a::l=>by unfold AN;rw[if_pos rfl];exact Kb l
theorem Ls:∀a b:Tx,AN a b=false->AN b a=false->a=b
 |[],[],_,_=>rfl
 |[],_::_,h,_=>by cases h
 |_::_,[],_,h=>by cases h
 |a::l,b::r,c,d=>by
  unfold AN at c d
  by_cases e:a=b
  ·subst e;rw[if_pos rfl] at c d;rw[Ls l r c d]
  ·rw[if_neg e] at c;rw[if_neg (λq=>e q.symm)] at d;have c:=of_decide_eq_false c;have d:=of_decide_eq_false d;have g:¬a.toNat<b.toNat:=c;have f:¬b.toNat<a.toNat:=d;exact absurd (UInt8.toNat_inj.1 (by omega)) e
theorem Jn:∀a b c:Tx,AN a b=true->AN b c=true->AN a c=true
 |_,[],[],_,h=>by cases h
 |[],[],_::_,h,_=>by cases h
 |[],_::_,[],_,h=>by cases h
 |[],_::_,_::_,_,_=>rfl
 |_::_,[],_::_,h,_=>by cases h
 |_::_,_::_,[],_,h=>by cases h
 |a::l,b::m,c::r,h1,h2=>by
  unfold AN at h1 h2 |-
  by_cases e:a=b
  ·subst e;rw[if_pos rfl] at h1
   by_cases d:a=c
   ·subst d;rw[if_pos rfl] at h2 |-;exact Jn l m r h1 h2
   ·rw[if_neg d] at h2 |-;exact h2
  ·rw[if_neg e] at h1
   by_cases d:b=c
   ·subst d;rw[if_neg e];exact h1
   ·rw[if_neg d] at h2;have g:a.toNat<b.toNat:=of_decide_eq_true h1;have i:b.toNat<c.toNat:=of_decide_eq_true h2;have f:a≠c:=λq=>by subst q;omega
    rw[if_neg f];exact decide_eq_true (show a.toNat<c.toNat by omega)
def FN (l:List Tx):Prop:=l.Pairwise λa b=>AN a b=true
def Cb (s:Tx):List Tx->List Tx
 |[]=>[s]
 |a::r=>if a=s then a::r else if AN s a=true then s::a::r else a::Cb s r
theorem Ni (s x:Tx):∀l,x∈Cb s l↔x=s\/x∈l
 |[]=>by unfold Cb;simp
 |a::r=>by
  unfold Cb
  by_cases e:a=s
  ·rw[if_pos e,<-e]
   simp
  ·rw[if_neg e]
   by_cases q:AN s a=true
   ·rw[if_pos q];simp
   ·rw[if_neg q,XP,XP,Ni s x r];constructor
    ·rintro(h|h|h)
     ·exact .inr (.inl h)
     ·exact .inl h
     ·exact .inr (.inr h)
    ·rintro(h|h|h)
     ·exact .inr (.inl h)
     ·exact .inl h
     ·exact .inr (.inr h)
theorem OI (s:Tx):∀{l},FN l->FN (Cb s l)
 |[],_=>by unfold Cb;exact List.pairwise_singleton _ _
 |a::r,h=>by
  have⟨d,f⟩:=Zw.1 h;unfold Cb
  by_cases e:a=s
  ·rw[if_pos e];exact h
  ·rw[if_neg e]
   by_cases q:AN s a=true
   ·rw[if_pos q];refine Zw.2 ⟨λb c=>?_,h⟩
    rcases XP.1 c with rfl|c
    ·exact q
    ·exact Jn s a b q (d b c)
   ·rw[if_neg q];refine Zw.2 ⟨λb c=>?_,OI s f⟩
    rcases (Ni s b r).1 c with rfl|c
    ·cases w:AN a b with
     |true=>rfl
     |false=>exact absurd (Ls a b w (Bool.eq_false_iff.2 q)) e
    ·exact d b c
theorem KU:∀{l r:List Tx},FN l->FN r->(∀x,x∈l↔x∈r)->l=r
 |[],[],_,_,_=>rfl
 |[],b::r,_,_,h=>absurd ((h b).2 (Ye ..)) (by simp)
 |a::l,[],_,_,h=>absurd ((h a).1 (Ye ..)) (by simp)
 |a::l,b::r,h1,h2,h=>by
  have⟨i,o⟩:=Zw.1 h1;have⟨g,n⟩:=Zw.1 h2;have e:a=b:=by
   rcases XP.1 ((h a).1 (Ye ..)) with e|e
   ·exact e
   ·rcases XP.1 ((h b).2 (Ye ..)) with d|d
    ·exact d.symm
    ·have w1:=g a e;have p:=i b d;have:=Jn a b a p w1;rw[Kb] at this
     cases this
  subst e;have f:∀{m:List Tx},(∀x,x∈m->AN a x=true)->a∉m:=λk j=>by
   have:=k a j;rw[Kb] at this
   cases this
  rw[KU o n λx=>?_];constructor
  ·intro c
   rcases XP.1 ((h x).1 (Yk _ c)) with e|e
   ·subst e;exact absurd c (f i)
   ·exact e
  ·intro c
   rcases XP.1 ((h x).2 (Yk _ c)) with e|e
   ·subst e;exact absurd c (f g)
   ·exact e
end Go.Proofs.YtdcacoifehkioaaGreatDoor
namespace Go.Proofs
open Go.RowKit Go.Maps Go.Sort Go.Shelf
shelf_lay_g SlLaysZI.n7 Ggz 7 at Tryz 31 as Tryz.keysI
shelf_lay_g SlLaysZI.n6 Ggz 6 at Tryz 30 as Tryz.sortedI
shelf_lay_g SlLaysM.n5 Slgm 5 at Tryz 64 as Tryz.sortI
shelf_lay_g SlLaysZ.n7 Ggz 7 at Tryz 29 as Tryz.keysS
shelf_lay_g SlLaysZ.n6 Ggz 6 at Tryz 28 as Tryz.sortedS
shelf_lay_g SlLaysM.n6 Slgm 6 at Tryz 61 as Tryz.sortS
theorem Tryz.sortsI (m:Nat):AnyZI.SortsIn Tryz.prog Tryz.sortedI_ren Ym m:=
 ⟨λa d cap b W f c e=>X1.2 (AnyM.slices_Sort_int Tryz.sortI a d cap b W f c e),
  λp cap W=>X1.2 (AnyM.slices_Sort_int_none Tryz.sortI p cap W)⟩
theorem Tryz.sortsS (m:Nat):AnyZ.SortsIn Tryz.prog Tryz.sortedS_ren Ym m:=
 ⟨λa d cap b W f c e=>X1.2 (AnyM.slices_Sort_string Tryz.sortS a d cap b W f c e),
  λp cap W=>X1.2 (AnyM.slices_Sort_string_none Tryz.sortS p cap W)⟩
end Go.Proofs
namespace Go.Proofs.YtdcacoifehkioaaGreatDoor
open Go.RowKit Go.Shelf Go.Proofs.Cod Go.Maps Go.Sort
def GO (_:Xk):Option (DataW Unit×List MemPlace):=some (.nil,[])
def Jp (e:Y9):Tx:=match e.key with
 |.string b=>b.data.toList
 |_=>[]
def Jq (e:Y9):Int:=match e.key with
 |.int _ a=>a
 |_=>0
theorem ab6 {a:Y9->Lit×DataW Unit} {l:List Y9} {kf:Y9->Tx} (h:∀e,e∈l->strOf (a e).1=kf e):(strKeys (.map ((l.map a).foldr DataW.insert []))).Perm (l.map kf):=by
 show (((l.map a).foldr DataW.insert []).map λp=>strOf p.1).Perm _;refine((WideShapes.sorted_perm _).map _).trans ?_;rw[Zv];exact List.Perm.of_eq (aga λe b=>h e b)
theorem ab8 {a:Y9->Lit×DataW Unit} {l:List Y9} {kf:Y9->Int} (h:∀e,e∈l->Go.intOf (a e).1=kf e):(intKeys (.map ((l.map a).foldr DataW.insert []))).Perm (l.map kf):=by
 show (((l.map a).foldr DataW.insert []).map λp=>Go.intOf p.1).Perm _;refine((WideShapes.sorted_perm _).map _).trans ?_;rw[Zv];exact List.Perm.of_eq (aga λe b=>h e b)
theorem AA.aaV {w:Xh} {b n:Nat} {f:Tx->Option Xk} (h:AA sk w b f n) (F:∀x,f x≠none->x.length<=ZY) (o:n<=ZY) :
 ∃m:DataW Unit,w.ownsMap Tryz.prog 9 GO b n m/\agb m=n/\(strKeys m).Nodup/\∀x,x∈strKeys m↔f x≠none:=by
 obtain⟨j,u,C,q,s⟩:=h;have p:∀e,e∈j.toList->∃x:Tx,e.key = .string (bs x)/\f x=some e.val/\keyOf Tryz.prog 9 e.key=some (.string x):=λe g=>by
  obtain⟨x,d,i⟩:=q.mem e g;have d:e.key = .string (bs x):=d;refine⟨x,d,i,?_⟩;rw[d,keyOf_string Tryz.underlying9];unfold mapKey;rw[Tryz.underlying9];dsimp only;rw[if_pos (by rw[Bg];exact F x (by rw[i];simp))]
  rfl
 have z:∀e,e∈j.toList->∃x:Tx,e.key = .string (bs x)/\f x=some e.val/\WideElems.rd Tryz.prog 9 GO e=some (.string x,.nil):=λe g=>by
  obtain⟨x,d,i,k⟩:=p e g
  exact⟨x,d,i,by simp[WideElems.rd,k,GO]⟩
 have E:WideElems.Fit Tryz.prog 9 GO j u:=⟨by rw[s];exact o,q.stamped,λe g=>by obtain⟨x,_,_,k⟩:=z e g;exact⟨_,k⟩⟩;have I:∀e,e∈j.toList->strOf (WideElems.rg Tryz.prog 9 GO e).1=Jp e:=λe g=>by
  obtain⟨x,d,_,k⟩:=z e g;rw[WideElems.rg_of k];unfold Jp;rw[d];rfl
 have t:=ab6 (l:=j.toList) (kf:=Jp) I;refine⟨_,⟨j,u,C,E,Nat.le_of_eq s,rfl⟩,?_,?_,λx=>?_⟩
 ·rw[Maps.size_eq,length_read,s]
 ·refine t.nodup_iff.2 ?_;refine afv.2 ?_;have o:=q.stamped.2.2;rw[List.Nodup,afv] at o;refine o.imp_of_mem λ{a c} G D A e=>A ?_;obtain⟨x,d,_⟩:=p a G;obtain⟨y,i,_⟩:=p c D;unfold Jp at e;rw[d,i] at e |-;have e:x=y:=e;rw[e]
 ·rw[t.mem_iff,YA];constructor
  ·rintro⟨e,g,rfl⟩;obtain⟨y,d,i,_⟩:=p e g;unfold Jp;rw[d];show f y≠none;rw[i];simp
  ·intro H;obtain⟨v,B⟩:=age.1 H;obtain⟨e,g,r⟩:=q.has x v B;have r:e.key = .string (bs x):=r
   exact⟨e,g,by unfold Jp;rw[r];rfl⟩
theorem AA.aaW {w:Xh} {b n:Nat} {f:Int->Option Xk} (h:AA ik w b f n) (F:∀x,f x≠none->0<=x/\x<1000) (o:n<=ZY) :
 ∃m:DataW Unit,w.ownsMap Tryz.prog 3 GO b n m/\agb m=n/\(intKeys m).Nodup/\∀x,x∈intKeys m↔f x≠none:=by
 obtain⟨k,t,C,q,r⟩:=h;have p:∀e,e∈k.toList->∃x,e.key = .int .i64 x/\f x=some e.val/\keyOf Tryz.prog 3 e.key=some (.int .i64 x):=λe g=>by
  obtain⟨x,d,i⟩:=q.mem e g;refine⟨x,d,i,?_⟩;rw[d];refine keyOf_int_mk Tryz.underlying3 ?_;obtain⟨z1,z2⟩:=F x (by rw[i];simp);have d:Z8.min<=x:=by show -9223372036854775808<=x;omega
  have j:x<=9223372036854775807:=by omega
  simp[Lit.wf,d,j]
 have u:∀e,e∈k.toList->∃x,e.key = .int .i64 x/\f x=some e.val/\WideElems.rd Tryz.prog 3 GO e=some (.int .i64 x,.nil):=λe g=>by
  obtain⟨x,d,i,j⟩:=p e g
  exact⟨x,d,i,by simp[WideElems.rd,j,GO]⟩
 have E:WideElems.Fit Tryz.prog 3 GO k t:=⟨by rw[r];exact o,q.stamped,λe g=>by obtain⟨x,_,_,j⟩:=u e g;exact⟨_,j⟩⟩;have I:∀e,e∈k.toList->Go.intOf (WideElems.rg Tryz.prog 3 GO e).1=Jq e:=λe g=>by
  obtain⟨x,d,_,j⟩:=u e g;rw[WideElems.rg_of j];unfold Jq;rw[d];rfl
 have s:=ab8 (l:=k.toList) (kf:=Jq) I;refine⟨_,⟨k,t,C,E,Nat.le_of_eq r,rfl⟩,?_,?_,λx=>?_⟩
 ·rw[Maps.size_eq,length_read,r]
 ·refine s.nodup_iff.2 ?_;refine afv.2 ?_;have o:=q.stamped.2.2;rw[List.Nodup,afv] at o;refine o.imp_of_mem λ{a c} G D A e=>A ?_;obtain⟨x,d,_⟩:=p a G;obtain⟨y,i,_⟩:=p c D;unfold Jq at e;rw[d,i] at e |-;simp only at e;rw[e]
 ·rw[s.mem_iff,YA];constructor
  ·rintro⟨e,g,rfl⟩;obtain⟨y,d,i,_⟩:=p e g;unfold Jq;rw[d];simp only;rw[i];simp
  ·intro H;obtain⟨v,B⟩:=age.1 H;obtain⟨e,g,z⟩:=q.has x v B
   exact⟨e,g,by unfold Jq;rw[z];rfl⟩
theorem No:∀a b:Tx,AN a b=true↔a<b
 |[],[]=>by simp[AN]
 |[],_::_=>by simp[AN]
 |_::_,[]=>by simp[AN]
 |a::l,b::r=>by
  have c:=No l r;unfold AN;rw[List.cons_lt_cons_iff]
  by_cases e:a=b
  ·subst e;rw[if_pos rfl,c]
   simp
  ·rw[if_neg e];simp[e]
theorem abX (a b:Tx):decide (a<=b) = !AN b a:=by
 cases h:AN b a with
 |true=>
  have:=(No b a).1 h;simp[this]
 |false=>
  have:¬b<a:=λz=>by rw[(No b a).2 z] at h;cases h
  simpa using this
theorem VH {f:List Tx} (l:f.Nodup):FN (f.mergeSort λx y=>decide (x<=y))/\∀x,x∈(f.mergeSort λx y=>decide (x<=y))↔x∈f:=by
 have e:(λx y:Tx=>decide (x<=y))=λx y => !AN y x:=by funext a b;exact abX a b
 rw[e];have n:∀a b c:Tx,(!AN b a)=true->(!AN c b)=true->(!AN c a)=true:=λa b c i d=>by
  simp only[afr] at *
  cases h:AN c a with
  |false=>rfl
  |true=>
   cases g:AN a b with
   |true=>rw[Jn c a b h g] at d;cases d
   |false=>rw[Ls a b g i] at h;rw[h] at d;cases d
 have m:∀a b:Tx,(!AN b a || !AN a b)=true:=λa b=>by
  cases h:AN b a with
  |false=>rfl
  |true=>
   cases d:AN a b with
   |false=>rfl
   |true=>
    have:=Jn a b a d h;rw[Kb] at this;cases this
 have j:=afF f (λx y => !AN y x);refine⟨?_,λx=>j.mem_iff⟩;have i:=List.pairwise_mergeSort (le:=λx y => !AN y x) n m f;have d:(f.mergeSort λx y => !AN y x).Nodup:=j.nodup_iff.2 l;refine(i.and d).imp λ{a b} ⟨g,k⟩=>?_;simp only[afr] at g
 cases h:AN a b with
 |true=>rfl
 |false=>exact absurd (Ls a b h g) k
theorem VI {d:List Int} (h:d.Nodup):(d.mergeSort λx y=>decide (x<=y)).Pairwise (λa b=>a<b)/\∀x,x∈(d.mergeSort λx y=>decide (x<=y))↔x∈d:=by
 have f:=afF d (λx y=>decide (x<=y));have j:∀a b c:Int,decide (a<=b)=true->decide (b<=c)=true->decide (a<=c)=true:=λa b c l g=>by simp only[decide_eq_true_eq] at *;omega
 have i:∀a b:Int,(decide (a<=b)||decide (b<=a))=true:=λa b=>by simp only[Bool.or_eq_true,decide_eq_true_eq];omega
 refine⟨?_,λx=>f.mem_iff⟩;have g:(d.mergeSort λx y=>decide (x<=y)).Nodup:=f.nodup_iff.2 h;refine((List.pairwise_mergeSort j i d).and g).imp λ{a b} ⟨e,k⟩=>?_;have e:a<=b:=by simpa using e
 omega
theorem ab7 (m:Nat) (mb:Option Nat) (W:Xh):af9 Ym m Tryz.prog 29 #[.map mb] W λe w'=>e = .returned (.func (.func 62) #[] #[.pointer (some ⟨W.heap.size,0,none⟩)])/\w'=W.alloc (.cells #[.map mb] 64):=
 X1.2 (X1.1 (AnyZ.keys_in Tryz.keysS Ym 5 trivial rfl mb W))
theorem ab9 (m:Nat) (mb:Option Nat) (W:Xh):af9 Ym m Tryz.prog 31 #[.map mb] W λe w'=>e = .returned (.func (.func 65) #[] #[.pointer (some ⟨W.heap.size,0,none⟩)])/\w'=W.alloc (.cells #[.map mb] 65):=
 X1.2 (X1.1 (AnyZI.keys_in Tryz.keysI Ym 5 trivial rfl mb W))
theorem VF (m:Nat) {w:Xh} {b n:Nat} {f:Tx->Option Xk} (h:AA sk w b f n) (F:∀x,f x≠none->x.length<=ZY) (K:n<=1048576) :
 af9 Ym m Tryz.prog 28 #[.func (.func 62) #[] #[.pointer (some ⟨w.heap.size,0,none⟩)]] (w.alloc (.cells #[.map (some b)] 64)) λe w'=>∃(v:Xk) (l:List Tx),e = .returned v/\w'.ownsRow w.heap.size 9 1 v l.length (l.map λx=>Yi (bs x))/\FN l/\(∀x,x∈l↔f x≠none)/\Xm w.heap.size w w':=by
 obtain⟨a,j,g,A,p⟩:=h.aaV F (by unfold ZY;omega);have r:=j.lt;have u:agb a<=ZY:=by rw[g];unfold ZY;omega
 have o:agb a*16<=140737488355328:=by rw[g];omega
 have H:SeqGives Ym 2 Tryz.prog 62 #[.pointer (some ⟨w.heap.size,0,none⟩)] encStr (λc=>c.Perm (strKeys a)) (agb a) (w.alloc (.cells #[.map (some b)] 64)):=
  AnyZ.keys_gives (ρ:=Tryz.keysS_ren) {Tryz.keysS with} Ym _ trivial rfl (by omega) w.heap.size b n a _ (by simp) (by simp) (by
   obtain⟨s,t,d,q,G,D⟩:=j
   exact⟨s,t,(Xv _ _ b r).trans d,q,G,D⟩)
 have i:=AnyZ.sorted_in Tryz.sortedS Ym 5 trivial trivial trivial trivial rfl (by omega) (Tryz.sortsS _) (enters_of Tryz.func61 (by kernel_rfl) rfl) 62 #[.pointer (some ⟨w.heap.size,0,none⟩)] trivial (enters_of Tryz.func62 (by kernel_rfl) rfl) _ _ u o _ H
 change af9 _ _ Tryz.prog 28 _ _ _ at i
 refine X1.2 ((X1.1 i).mono ?_);rintro e w' ⟨v,c,rfl,k,E,J,d⟩;have B:=k.nodup_iff.2 A;obtain⟨z,I⟩:=VH B;have C:(c.mergeSort λx y=>decide (x<=y)).length=c.length:=(afF _ _).length_eq;refine⟨v,_,rfl,?_,z,λx=>by rw[I,k.mem_iff,p],((Xq _ w).alloc (Xd _) _).trans (d.mono (by simp))⟩;rw[C];exact ownsRow_base_a E (by simp)
theorem VG (m:Nat) {w:Xh} {b n:Nat} {f:Int->Option Xk} (h:AA ik w b f n) (G:∀x,f x≠none->0<=x/\x<1000) (M:n<=1048576) :
 af9 Ym m Tryz.prog 30 #[.func (.func 65) #[] #[.pointer (some ⟨w.heap.size,0,none⟩)]] (w.alloc (.cells #[.map (some b)] 65)) λe w'=>∃(v:Xk) (l:List Int),e = .returned v/\w'.ownsRow w.heap.size 3 1 v l.length (l.map (Yw .i64))/\l.Pairwise (λa b=>a<b)/\(∀x,x∈l↔f x≠none)/\Xm w.heap.size w w':=by
 obtain⟨c,k,i,B,q⟩:=h.aaW G (by unfold ZY;omega);have s:=k.lt;have z:agb c<=ZY:=by rw[i];unfold ZY;omega
 have p:agb c*8<=140737488355328:=by rw[i];omega
 have I:SeqGives Ym 2 Tryz.prog 65 #[.pointer (some ⟨w.heap.size,0,none⟩)] encZ (λd=>d.Perm (intKeys c)) (agb c) (w.alloc (.cells #[.map (some b)] 65)):=
  AnyZI.keys_gives (ρ:=Tryz.keysI_ren) {Tryz.keysI with} Ym _ trivial rfl (by omega) w.heap.size b n c _ (by simp) (by simp) (by
   obtain⟨t,u,g,r,H,E⟩:=k
   exact⟨t,u,(Xv _ _ b s).trans g,r,H,E⟩)
 have j:=AnyZI.sorted_in Tryz.sortedI Ym 5 trivial trivial trivial trivial rfl (by omega) (Tryz.sortsI _) (enters_of Tryz.func64 (by kernel_rfl) rfl) 65 #[.pointer (some ⟨w.heap.size,0,none⟩)] trivial (enters_of Tryz.func65 (by kernel_rfl) rfl) _ _ z p _ I
 change af9 _ _ Tryz.prog 30 _ _ _ at j
 refine X1.2 ((X1.1 j).mono ?_);rintro e w' ⟨v,d,rfl,o,F,K,g⟩;have C:=o.nodup_iff.2 B;obtain⟨A,J⟩:=VI C;have D:(d.mergeSort λx y=>decide (x<=y)).length=d.length:=(afF _ _).length_eq;refine⟨v,_,rfl,?_,A,λx=>by rw[J,o.mem_iff,q],((Xq _ w).alloc (Xd _) _).trans (g.mono (by simp))⟩;rw[D];exact ownsRow_base_a F (by simp)
end Go.Proofs.YtdcacoifehkioaaGreatDoor
namespace Go.Proofs.YtdcacoifehkioaaGreatDoor
open Go.RowKit Go.Shelf Go.Proofs.Cod
def Gg (C:List (List Ad)) (m:MS):Bool:=decide ((Bh C m).length=0)
def BC (C:List (List Ad)) (l:List MS):Bool:=l.any λm=>Gg C m&&decide (0<Ay m)
def CE (l:List MS):Bool:=l.any Bt
def FK (p:PD) (l:List MS) (x:Tx):Prop:=∃m,m∈l/\Gg p.C m=true/\Bz p m=x
def EP (p:PD) (l:List MS) (x:Int):Prop:=(0<=x/\x<p.vs.length)/\∃m,m∈l/\(Dd x (Bh p.C m)).isSome=true
theorem Oj {α:Type} (q:α->Bool) (l:List α) (a:α):(l++[a]).any q=(l.any q||q a):=by rw[List.any_append];simp
theorem QA (p:PD) (l:List MS) (m:MS) (x:Tx):FK p (l++[m]) x↔FK p l x\/(Gg p.C m=true/\Bz p m=x):=by
 unfold FK;constructor
 ·rintro⟨a,b,h⟩
  rcases XX.1 b with b|b
  ·exact .inl ⟨a,b,h⟩
  ·rw[XT.1 b] at h;exact .inr h
 ·rintro(⟨a,b,h⟩|h)
  ·exact⟨a,ZA _ b,h⟩
  ·exact⟨m,by simp,h⟩
theorem WP (p:PD) (l:List MS) (m:MS) (x:Int):EP p (l++[m]) x↔EP p l x\/((0<=x/\x<p.vs.length)/\(Dd x (Bh p.C m)).isSome=true):=by
 unfold EP;constructor
 ·rintro⟨c,a,b,h⟩
  rcases XX.1 b with b|b
  ·exact .inl ⟨c,a,b,h⟩
  ·rw[XT.1 b] at h;exact .inr ⟨c,h⟩
 ·rintro(⟨c,a,b,h⟩|⟨c,h⟩)
  ·exact⟨c,a,ZA _ b,h⟩
  ·exact⟨c,m,by simp,h⟩
structure XW (w:Xh) (Z:Nat) (er em:YV):Prop where
 t:Cn w Z
 c:It w (CO er em)
 e:Oy w er em
 m:∃mx,w.cell? ⟨4,0,none⟩=some (.int .i64 mx)
 g:0<Z/\1<Z/\4<Z
 b:er.block<Z/\em.block<Z
theorem XW.same {w w':Xh} {Z:Nat} {i f:YV} (h:XW w Z i f) (d:∀x,x<Z->w'.heap[x]?=w.heap[x]?):XW w' Z i f:=by
 refine⟨h.t.same d,h.c.same (d _ h.g.1) (d _ h.g.2.1),⟨h.e.ne,?_,?_⟩,?_,h.g,h.b⟩
 ·obtain⟨c,t,q⟩:=h.e.r
  exact⟨c,t,(d _ h.b.1).trans q⟩
 ·obtain⟨c,t,q⟩:=h.e.m
  exact⟨c,t,(d _ h.b.2).trans q⟩
 ·obtain⟨j,q⟩:=h.m
  exact⟨j,(World.cell?_of_block (w:=w) (a:=⟨4,0,none⟩) (d _ h.g.2.2)).trans q⟩
structure ae5 (W:Xh) (Z:Nat) (O:Tx->Prop) (Y:Int->Prop) (no ny:Nat):Prop where
 o:∃f n,AA sk W (Z+4) f n/\n<=no/\(∀x,f x≠none↔O x)
 y:∃f n,AA ik W (Z+5) f n/\n<=ny/\(∀x,f x≠none↔Y x)
def FZ (n:Nat) (st fa:Bool):Array Xk := #[.int .i64 n,.slice none 0 0,.bool st,.bool fa,.slice none 0 0]
structure AI (W0:Xh) (Z:Nat) (p:PD) (pre:List XS) (O:AO) (W:Xh):Prop where
 all0:∀b,b<W0.heap.size->O b
 inside:∀b,O b->b<W.heap.size
 fixed:∀b,b<W0.heap.size->b≠Z+3->b≠Z+4->b≠Z+5->W.heap[b]?=W0.heap[b]?
 os:W.os=W0.os
 tape:W.tape=W0.tape
 output:W.output=W0.output
 size:W0.heap.size<=W.heap.size
 rep:∃R:List Ag,pre=R.map XS.st/\R.length<=20000/\W.heap[Z+3]?=some (.cells (FZ R.length (BC p.C (R.map Ag.m)) (CE (R.map Ag.m))) 34)/\ae5 W Z (FK p (R.map Ag.m)) (EP p (R.map Ag.m)) R.length (R.length*4)
theorem AI.IB {i:Xh} {Z:Nat} {p:PD} (w:Z+5<i.heap.size):GR (AI i Z p):=by
 intro v O W x h j t o u c;refine⟨h.all0,λb m=>XF (h.inside b m) j,λb a e g d=>(c b (h.all0 b a)).trans (h.fixed b a e g d),t.trans h.os,o.trans h.tape,u.trans h.output,Xu h.size j,?_⟩;obtain⟨R,a,k,e,⟨f,n,g,d⟩,⟨s,r,l,q⟩⟩:=h.rep
 exact⟨R,a,k,(c _ (h.all0 _ (by omega))).trans e,⟨f,n,g.same (c _ (h.all0 _ (by omega))),d⟩,⟨s,r,l.same (c _ (h.all0 _ (by omega))),q⟩⟩
structure AX (W0:Xh) (Z:Nat) (p:PD) (most:Int) (O:AO) (W:Xh):Prop where
 all0:∀b,b<W0.heap.size->O b
 inside:∀b,O b->b<W.heap.size
 fixed:∀b,b<Z->W.heap[b]?=W0.heap[b]?
 os:W.os=W0.os
 tape:W.tape=W0.tape
 output:W.output=W0.output
 size:W0.heap.size<=W.heap.size
 rep:∃b:Bool,(if b then BV most/\CS p most.toNat=none else ¬BV most)/\W.heap[Z+1]?=some (.cells (FZ 0 false false) 34)/\W.heap[Z+2]?=some (.cells #[.int .i64 (EG b)] 35)
theorem AX.IB {e:Xh} {Z:Nat} {p:PD} {most:Int} (n:Z+5<e.heap.size):GR (fun(_:List XS)=>AX e Z p most):=by
 intro m O W o h d l k j a;refine⟨h.all0,λb f=>XF (h.inside b f) d,λb c=>(a b (h.all0 b (by omega))).trans (h.fixed b c),l.trans h.os,k.trans h.tape,j.trans h.output,Xu h.size d,?_⟩;obtain⟨b,c,i,g⟩:=h.rep
 exact⟨b,c,(a _ (h.all0 _ (by omega))).trans i,(a _ (h.all0 _ (by omega))).trans g⟩
theorem Qs {w:Xh} {fn:Func} {tmps:Array Xk} {a b:Nat} {i g d h f e:Xk} (m:fn.results = #[.cell 4 34,.cell 5 35]) (k:tmps[4]?=some (.pointer (some ⟨a,0,none⟩))) (l:tmps[5]?=some (.pointer (some ⟨b,0,none⟩))) (c:w.heap[a]?=some (.cells #[i,g,d,h,f] 34)) (j:w.heap[b]?=some (.cells #[e] 35)):(results fn tmps).run Tryz.prog w = .ok (.tuple #[.agg #[i,g,d,h,f],e]) w:=by
 have c0:w.cell? ⟨a,0,none⟩=some i:=by simp[Xg,c]
 have c1:w.cell? ⟨a,1,none⟩=some g:=by simp[Xg,c]
 have c2:w.cell? ⟨a,2,none⟩=some d:=by simp[Xg,c]
 have c3:w.cell? ⟨a,3,none⟩=some h:=by simp[Xg,c]
 have c4:w.cell? ⟨a,4,none⟩=some f:=by simp[Xg,c]
 have c5:w.cell? ⟨b,0,none⟩=some e:=by simp[Xg,j]
 simp[results,m,k,l,go_sem,c0,c1,c2,c3,c4,c5]
def KF (w w':Xh) (p:PD) (most:Int) (e:Ending):Prop:=
 (∃b:Bool,(if b then BV most/\CS p most.toNat=none else ¬BV most)/\e = .returned (.tuple #[.agg (FZ 0 false false),.int .i64 (EG b)]))\/
 (BV most/\∃(l:List MS) (ov rv:Xk) (os:List Tx) (rs:List Int),CS p most.toNat=some l/\e = .returned (.tuple #[.agg #[.int .i64 l.length,ov,.bool (BC p.C l),.bool (CE l),rv],.int .i64 0])/\
   w'.ownsRow w.heap.size 9 1 ov os.length (os.map λx=>Yi (bs x))/\FN os/\(∀x,x∈os↔FK p l x)/\
   w'.ownsRow w.heap.size 3 1 rv rs.length (rs.map (Yw .i64))/\rs.Pairwise (λa b=>a<b)/\(∀x,x∈rs↔EP p l x))
end Go.Proofs.YtdcacoifehkioaaGreatDoor
namespace Go.Proofs.YtdcacoifehkioaaGreatDoor
open Go.ChangeShapes Go.WideShapes Go.ChangeAt Go.RowKit Go.Shelf Go.Proofs.Cod
theorem Tryz.star7 : "*" ++ "errors.errorString" = "*errors.errorString" :=by decide
theorem Tryz.row7 (u:YH) (h:Tryz.prog.typeName? 3 u=some "*errors.errorString"):u=346:=
 typeName_ptr_named (nm:= "errors.errorString") (by rw[Tryz.star7];kernel_rfl) (by kernel_rfl) (by decide) u (by rw[Tryz.star7];exact h)
theorem Tryz.gErrR:Tryz.prog.globalNamed "weave/explore.errRange" = some 0:=by kernel_rfl
theorem Tryz.gErrM:Tryz.prog.globalNamed "weave/explore.errMany" = some 1:=by kernel_rfl
theorem adP {W:Xh} (h:laidMet Tryz.prog Rows.exploreAllRow.laid W):∃b a,It W (CO b a)/\Oy W b a:=by
 have e:laidMet Tryz.prog [("weave/explore.errRange",Rows.laid_weave_explore_errRange),("weave/explore.errMany",Rows.laid_weave_explore_errMany)] W:=h.filter (λx=>x.1 == "weave/explore.errRange" || x.1 == "weave/explore.errMany");obtain⟨j,l,o,n,c0,c1,f,g,c,m,-,-,-,-,-,-,i,k,d⟩:=laid_sentinels2 (tp:=346) e Tryz.gErrR (by kernel_rfl) Tryz.gErrM (by kernel_rfl) Tryz.underlying71 Tryz.row7 Tryz.underlying346 Tryz.underlying348 rfl rfl Tryz.underlying9 (by kernel_rfl) (by kernel_rfl);refine⟨j,l,⟨?_,?_⟩,⟨i,⟨c0,f,k⟩,⟨c1,g,d⟩⟩⟩
 ·have:=World.var?_cell Tryz.gErrR c 0;exact this
 ·have:=World.var?_cell Tryz.gErrM m 0;exact this
theorem acq {P:Program} {w:Xh} {g:Nat} {t:YH} {k:IntKind} {zero:Array Xk} (h:w.ShapedOpen P) (r:g<P.globals.size)
 (o:((begin P (λ_ _=>0) default).world.heap[g]?).bind Obj.row?=some (zero,t)) (v:zero.size=1)
 (d:P.buildable t=true) (e:P.cellTypes P.depth t=some [t]) (i:P.underlying t=some (.int k)):∃n,w.cell? ⟨g,0,none⟩=some (.int k n):=by
 obtain⟨cs,f,s,p⟩:=h.1 g zero t r o;obtain⟨ts,b,_,j⟩:=p d;rw[e] at b
 cases b
 have c:0<cs.size:=by omega
 obtain⟨u,l,a⟩:=j 0 cs[0] (by simp[c]);have:u=t:=by simpa using l.symm
 subst this;have m:w.cell? ⟨g,0,none⟩=some cs[0]:=by simp[Xg,f,c]
 rw[m];unfold Cell.ok at a;rw[i] at a
 cases q:cs[0]<;>rw[q] at a<;>first|exact(by obtain⟨rfl,-⟩:=a;exact⟨_,rfl⟩)|(simp at a;done)|(simp at a;obtain⟨rfl,-⟩:=a;exact⟨_,rfl⟩)|(simp at a;subst a;exact⟨_,rfl⟩)
theorem abv {W:Xh} (h:W.ShapedOpen Tryz.prog):∃a,W.cell? ⟨4,0,none⟩=some (.int .i64 a):=
 acq (g:=4) (t:=3) (k:=.i64) (zero := #[.int .i64 0]) h (of_decide_eq_true (by kernel_rfl)) (by kernel_rfl) rfl (by kernel_rfl) (by kernel_rfl) Tryz.underlying3
theorem Og {w:Xh} {a:YV} {v:Xk} (h:w.cell? a=some v):a.block<w.heap.size:=by
 rcases afI a.block w.heap.size with b|b
 ·exact b
 ·simp[Xg,YT b] at h
theorem Sz {w:Xh} {b:Nat} {o:Obj} (h:w.heap[b]?=some o):b<w.heap.size:=by
 rcases afI b w.heap.size with a|a
 ·exact a
 ·rw[YT a] at h;cases h
theorem Up {W:Xh} (h:laidMet Tryz.prog Rows.exploreAllRow.laid W) (j:W.ShapedOpen Tryz.prog):∃e c,XW W W.heap.size e c:=by
 obtain⟨e,c,g,f⟩:=adP h;have q:laidMet Tryz.prog Nv W:=h.filter (λx => !(x.1 == "weave/explore.errRange" || x.1 == "weave/explore.errMany"));have b:=Vc q j;obtain⟨p,k⟩:=abv j;have o:=Og g.r;have v:=Og g.m;have y:=Og k;obtain⟨c0,A,l⟩:=f.r;obtain⟨c1,D,i⟩:=f.m;have t:e.block<W.heap.size:=by
  rcases afI e.block W.heap.size with a|a
  ·exact a
  ·rw[YT a] at l;cases l
 have n:c.block<W.heap.size:=by
  rcases afI c.block W.heap.size with a|a
  ·exact a
  ·rw[YT a] at i;cases i
 have u:6<=W.heap.size:=by
  obtain⟨B,s⟩:=b.heads;obtain⟨F,w⟩:=b.shapes;have E:=Sz s;have z:=Sz w;have C:5<W.heap.size:=by
   have d:=b.pow;unfold Lib.TabIs World.var? at d;rw[Tryz.powG] at d;simp only[Option.bind_some] at d
   rcases afI 5 W.heap.size with a|a
   ·exact a
   ·rw[YT a] at d;cases d
  omega
 exact⟨e,c,⟨b.heads,b.shapes,b.pow,u⟩,g,f,⟨p,k⟩,⟨o,v,y⟩,⟨t,n⟩⟩
end Go.Proofs.YtdcacoifehkioaaGreatDoor
namespace Go.Proofs.YtdcacoifehkioaaGreatDoor
open Go.ChangeShapes Go.WideShapes Go.ChangeAt Go.RowKit Go.Proofs.Cod
set_option linter.unusedVariables false
noncomputable def Nu (os:Os):Xh:=
 let w0:=World.holding Tryz.prog os ⟨#[.cells #[.string (LJ Rows.laid_strconv_ErrRange)] 348,.cells #[.string (LJ Rows.laid_strconv_ErrSyntax)] 348,.cells #[.string (LJ Rows.laid_weave_explore_errRange)] 348,.cells #[.string (LJ Rows.laid_weave_explore_errMany)] 348],#[],[]⟩
 {w0 with heap:=((((((((((w0.heap.modify 8 (Ga (Kn Rows.laid_math_bits_deBruijn32tab))).modify 9 (Ga (Kn Rows.laid_math_bits_deBruijn64tab))).modify 5 (Ga (Kn Rows.laid_internal_strconv_uint64pow10))).modify 7 (Ga (Ob Rows.laid_unicode_utf8_acceptRanges))).modify 11 (Ga #[.iface 346 (.pointer (some ⟨low,0,none⟩))])).modify 10 (Ga #[.iface 346 (.pointer (some ⟨low+1,0,none⟩))])).modify 2 (Ga (Ob Rows.laid_weave_code_headings))).modify 3 (Ga (Ob Rows.laid_weave_code_shapes))).modify 6 (Ga (Kn Rows.laid_unicode_utf8_first))).modify 0 (Ga #[.iface 346 (.pointer (some ⟨low+2,0,none⟩))])).modify 1 (Ga #[.iface 346 (.pointer (some ⟨low+3,0,none⟩))])}
theorem acp {n:Int} (h:(Lit.int .i64 n).wf=true) : -9223372036854775808<=n/\n<=9223372036854775807:=by
 have h:(decide (Z8.min<=n)&&decide (n<=Z8.max))=true:=h;have b:Z8.min = -9223372036854775808:=by decide
 have a:Z8.max=9223372036854775807:=by decide
 rw[Bool.and_eq_true,b,a] at h
 exact⟨of_decide_eq_true h.1,of_decide_eq_true h.2⟩
end Go.Proofs.YtdcacoifehkioaaGreatDoor
namespace Go.Proofs.YtdcacoifehkioaaGreatDoor
open Go.RowKit Go.Shelf Go.Proofs.Cod
theorem RC:∀(i:Nat) (a b:Tx),a.take i=b.take i->i<=a.length->i<=b.length->AN a b=AN (a.drop i) (b.drop i)
 |0,_,_,_,_,_=>rfl
 |i+1,[],_,_,h,_=>by cases h
 |i+1,_::_,[],_,_,h=>by cases h
 |i+1,x::a,y::b,h,h1,h2=>by
  rw[agc,agc] at h;injection h with e1 e2
  rw[e1];show (if y=y then AN a b else decide (y<y))=_;rw[if_pos rfl];exact RC i a b e2 (by simpa using h1) (by simpa using h2)
theorem abD (x y:UInt8) (l r:Tx):AN (x::l) (y::r)=if x=y then AN l r else decide (x<y):=rfl
theorem LM {a:Tx} {i:Nat} (h:i<a.length):a.drop i=a[i]::a.drop (i+1):=List.drop_eq_getElem_cons h
theorem abU (a b:Tx) (w:Xh) (M:a.length<4294967296) (H:b.length<4294967296) :
 XY Tryz.prog 71 #[.string (bs a),.string (bs b)] w λe w'=>e = .returned (.bool (AN a b))/\Xm w.heap.size w w':=by
 have F:(bs a).size=a.length:=Bg a;have J:(bs b).size=b.length:=Bg b
 go_enter Tryz.func71,Tryz.ntmps71
 go_wp2_with fail
 go_loopw [5] (λs wr=>∃i:Nat,i<=a.length/\i<=b.length/\s = .int .i64 i/\a.take i=b.take i/\Xm w.heap.size w wr) (λs _=>a.length - (intOf s).toNat)
 case atStart=>exact⟨0,Xx _,Xx _,rfl,rfl,Xq _ _⟩
 case round=>
  obtain⟨i,l,j,rfl,g,c⟩:=hrel;have d:=RC i a b g l j;have t:XN ((i:Int)+1)=(i:Int)+1:=by unfold XN;omega
  by_cases m:i<a.length
  ·have E:decide ((i:Int)<(a.length:Int))=true:=decide_eq_true (by omega);have G:(i:Int)<(a.length:Int):=by omega
   by_cases o:i<b.length
   ·have D:decide ((i:Int)<(b.length:Int))=true:=decide_eq_true (by omega);have I:(i:Int)<(b.length:Int):=by omega
    rw[LM m,LM o] at d;have n:a[i]=b[i]->a.take (i+1)=b.take (i+1):=λe=>by
     rw[Yo,Yo,g,Xe m,Xe o,e]
    obtain⟨x,r⟩:∃x,a[i]=x:=⟨_,rfl⟩;obtain⟨y,p⟩:∃x,b[i]=x:=⟨_,rfl⟩;have C:∀h,(bs a)[i]'h=x:=λh=>(Dx a i h).trans r;have A:∀h,(bs b)[i]'h=y:=λh=>(Dx b i h).trans p;rw[r,p] at d n;rw[abD] at d
    by_cases e:x=y
    ·subst e;have k:Hid (i+1<=a.length/\i+1<=b.length/\a.take (i+1)=b.take (i+1)/\∀q,Xm w.heap.size w (wr.drewN q)):=⟨m,o,n rfl,λq=>⟨c.os,c.tape,c.output,c.size,c.block⟩⟩;have B:((x.toNat:Int) != (x.toNat:Int))=false:=by simp
     clear l j g c d n r p
     go_wp2_with fail
     go_quiet (fail)
     clear C A
     go_wp2_with fail
     go_roundw
     case rel=>
      (try rw[t])
      exact⟨i+1,k.out.1,k.out.2.1,rfl,k.out.2.2.1,k.out.2.2.2 _⟩
     case measure=>
      (try rw[t])
      exact Nat.sub_lt_sub_left k.out.1 (Nat.lt_succ_self i)
    ·have B:((x.toNat:Int) != (y.toNat:Int))=true:=by
      have:x.toNat≠y.toNat:=λz=>e (UInt8.toNat_inj.1 z);simp only[bne_iff_ne,ne_eq]
      omega
     rw[if_neg e] at d;have u:decide (x.toNat<y.toNat)=decide (x<y):=by
      by_cases z:x.toNat<y.toNat
      ·rw[decide_eq_true z,decide_eq_true (show x<y from z)]
      ·rw[decide_eq_false z,decide_eq_false (show ¬x<y from z)]
     have f:Hid (decide (x.toNat<y.toNat)=AN a b/\∀q v,Xm w.heap.size w ((wr.drewN q).drewN v)):=⟨by rw[u,<-d],λq v=>⟨c.os,c.tape,c.output,c.size,c.block⟩⟩;clear l j g c d n r p u e
     go_wp2_with fail
     go_quiet (fail)
     go_wp2_with fail
     go_quiet (fail)
     go_wp2_with fail
     go_ret
     exact⟨congrArg (λz=>YE (.bool z)) f.out.1,f.out.2 _ _⟩
   ·have D:decide ((i:Int)<(b.length:Int))=false:=decide_eq_false (by omega);have f:Hid (decide (a.length<b.length)=AN a b/\Xm w.heap.size w wr):=by
     refine⟨?_,c⟩;have e:b.drop i=[]:=Y7 (afe o);rw[d,LM m,e,decide_eq_false (by omega)]
     rfl
    clear l j g c d
    go_wp2_with fail
    go_ret
    exact⟨congrArg (λz=>YE (.bool z)) f.out.1,f.out.2⟩
  ·have K:i=a.length:=by omega
   have E:decide ((i:Int)<(a.length:Int))=false:=decide_eq_false (by omega);have f:Hid (decide (a.length<b.length)=AN a b/\Xm w.heap.size w wr):=by
    refine⟨?_,c⟩;have e:a.drop i=[]:=Y7 (afe m);rw[d,e]
    by_cases z:i<b.length
    ·rw[LM z,decide_eq_true (by omega)];rfl
    ·rw[Y7 (by omega),decide_eq_false (by omega)];rfl
   clear l j g c d
   go_wp2_with fail
   go_ret
   exact⟨congrArg (λz=>YE (.bool z)) f.out.1,f.out.2⟩
end Go.Proofs.YtdcacoifehkioaaGreatDoor
