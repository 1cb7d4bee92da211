import Derived.Test.YtdcacoifehkioaaGreatDoorExH20
import Derived.Test.YtdcacoifehkioaaGreatDoorExH22
import Derived.LaidEql
import Derived.Stop.Asserts
import Derived.RowKitTokens
import Derived.Test.YtdcacoifehkioaaGreatDoorExH14
import Derived.Shelf.SlIter.Nil
import Derived.Shelf.SlIterI.Nil
import Derived.Shelf.SortM.Plain
import Derived.Shelf.SortM.SortNone
import Derived.Shelf.Lay
import Derived.Ground.GgzProg
import Derived.Ground.SlgmProg
import Derived.Maps.OwnSet
import Derived.Lib.SlKeysI
import Derived.Test.YtdcacoifehkioaaGreatDoorExH13
import Derived.Stop.LaidTwo
import Derived.Deep.QuietTactic
open Go renaming World->Xh,Calls->XX,maxLen->Z7,Addr->YZ,Value->Xk,TypeId->YM,run_typeAssert_lacksB->agb,run_callFunc_extern->Z9,callsIn_wide->X4,MapEntry->Y9,CallsIn->agq
open Go.Lib renaming join->YI
open Go.RowKit renaming Below->Xm,wrap64->XO
open List renaming map_map->Zy,getElem?_map->Xs,length_map->Xp,length_append->Xb,map_append->XI,append_nil->Ye,getElem?_eq_some_iff->Xf,mem_cons->XR,pairwise_cons->Zz,mem_cons_self->Yf,mem_cons_of_mem->Yl,map_congr_left->agt,pairwise_map->afK,mem_map->Yx,mergeSort_perm->afW,mem_append->XY,mem_singleton->XT,mem_append_left->ZF,take_succ_cons->agv,take_add_one->Yh,getElem?_eq_getElem->Xe,drop_eq_nil_of_le->YT
open Option renaming map_eq_some_iff->Yu,ne_none_iff_exists'->agx
open Go.Value renaming string->Yn,int->Yw
open Nat renaming mul_one->afF,le_succ->ago,le_refl->Xd,lt_of_lt_of_le->XK,le_trans->Xu,lt_or_ge->afG,zero_le->Xw,le_of_not_lt->afs
open Array renaming getElem?_eq_some_iff->Xa,getElem?_eq_none->YU
open Go.RowKit.Below renaming refl->Xq,heap_alloc->Xv
open Go.World renaming alloc_heap_new->Xi,cell?->Xg
open Go.Extern.ReflectliteType renaming typeOf->afu
open Bool renaming false_eq_true->Zi,not_eq_true'->afH
open Go.Fence renaming wide->Yp
open Go.Maps renaming size->agu
open Go.IntKind renaming i64->aeR
open Go.Ending renaming returned->YG
set_option maxRecDepth 100000
set_option maxHeartbeats 2000000
set_option linter.unusedVariables false
set_option linter.unusedSimpArgs false
namespace Go.Proofs.YtdcacoifehkioaaGreatDoor
open Go.RowKit Go.Shelf Go.Proofs.Cod
theorem VP (s:ByteArray) (n:Nat) (a:Int) (w:Xh) (b:s.size<4294967281) (d:w.cell? ⟨4,0,none⟩=some (.int .i64 a)) (f:n<=s.size) (g:n<=8) :
 XX Tryz.prog 57 #[.string s,.string ⟨#[10]⟩,.int .i64 ((n:Int)+1)] w λe w'=>e = .returned (.slice (some ⟨w.heap.size,0,none⟩) (Lib.splitB ⟨#[10]⟩ 0 n s).length (n+1))/\w'=w.alloc (.cells (Lib.cellsOf (Lib.splitB ⟨#[10]⟩ 0 n s) (n+1)) 9):=by
 have c:=Any.strings_SplitN Tryz.lays147 Tryz.hi147 s ⟨#[10]⟩ (n+1) a w b d (by decide) (by omega) (by omega);rw[show min (n+1) (s.size+1)=n+1 by omega,Nat.add_sub_cancel] at c;exact c
theorem St (b c:Nat) (a:List Tx) (w:Xh) (g:∀(j:Nat) x,a[j]?=some x->w.cell? ⟨b,j,none⟩=some (.string (bs x))) (l:b<w.heap.size) (m:a.length<=9) (i:a.length<=c) (h:(YI a [32]).length<=140737488355328) :
 XX Tryz.prog 58 #[.slice (some ⟨b,0,none⟩) a.length c,.string ⟨#[32]⟩] w λe w'=>e = .returned (.string (bs (YI a [32])))/\Xm w.heap.size w w':=by
 have f:(a.map bs).map (λx=>x.data.toList)=a:=by
  rw[Zy];have:(λx:ByteArray=>x.data.toList) ∘ bs=id:=by funext x;unfold bs;rfl
  rw[this,List.map_id]
 have q:=Any.strings_Join Tryz.lays156 Tryz.extra156 b 0 c (a.map bs) ⟨#[32]⟩ w (λj x d=>by
  rw[Xs] at d;obtain⟨y,k,rfl⟩:=Yu.1 d;rw[Nat.zero_add];exact g j y k) l (by rw[Xp];omega) (by rw[Xp];exact i) (by rw[f];exact h)
 rw[f,Xp] at q;exact q
theorem Sg {a b c:Nat} (e:a<=b) (f:b<=c+6) (d:c<4294967000):a<=140737488355328:=by omega
theorem Sw {p:PD} {m:MS} (h:(Aj p m).length<4294967000):(YI (AW p m) [32]).length<=140737488355328/\(YI (AW p m++[EN]) [32]).length<=140737488355328:=by
 obtain⟨r,d⟩:=Mz p m;have e:(Aj p m).length=((AW p m).flatMap (λx=>x++[10])).length+r.length:=by rw[d,Xb]
 have g:((AW p m++[EN]).flatMap (λx=>x++[10])).length=((AW p m).flatMap (λx=>x++[10])).length+6:=by rw[List.flatMap_append,Xb];rfl
 generalize ((AW p m).flatMap (λx=>x++[10])).length=a at *;have i:=Kl (AW p m);have f:=Kl (AW p m++[EN]);rw[g] at f
 exact⟨Sg i (b:=((AW p m).flatMap (λx=>x++[10])).length) (c:=(Aj p m).length) (by rw[d,Xb];omega) h,Sg f (c:=(Aj p m).length) (by omega) h⟩
theorem WD {b:Xh} {base sb n:Nat} {ls:List Tx} {e:Tx} (c:b.heap[sb]?=some (.cells ((ls++[e]).map λx=>Yn (bs x)).toArray 9)) (a:ls.length=n) (f:n<=8) (d:base<=sb) :
 b.ownsRow base 9 1 (.slice (some ⟨sb,0,none⟩) n (n+1)) n (ls.map λx=>Yn (bs x)):=by
 refine⟨by rw[Xp,a,afF],.inr ⟨sb,n+1,_,rfl,d,c,ago _,by unfold Z7;omega,?_,?_⟩⟩
 ·rw[List.size_toArray,Xp,Xb,a,afF];rfl
 ·rw[XI,afF];exact List.take_left' (by rw[Xp];exact a)
theorem UG {a b n:Nat} (h:a+b=n) (c:n<=8):XO ((a:Int)+(b:Int))=(n:Int)/\XO ((n:Int)+1)=(n:Int)+1:=by
 constructor<;>unfold XO<;>omega
theorem Rm {w:Xh} {b vn fn_ vc fc:Nat} {va fa:Option YZ} {mv mo fr nx lV tV:Xk} {y mx:Int} {f:Bool} {p:PD} {m:MS} (h:Bb w b mv (Aj p m) (Au m) f mo fr y nx) (hn:Hu p) (hM:BT p m) (hf:Cs p) (B:(Aj p m).length<4294967000) (X:w.cell? ⟨4,0,none⟩=some (.int .i64 mx)) (ai:vn=p.vs.length) (aP:fn_=p.fs.length) :
 XX Tryz.prog 26 #[Ab b,.agg #[.slice va vn vc,.slice fa fn_ fc,lV,tV]] w λe w'=>e = .returned (.string (bs (Bl p m)))/\Xm w.heap.size w w':=by
 obtain⟨J,aa,Z⟩:=VH hn hM;have c:=IM p m;have F:=hf.v;have A:=hf.f;obtain⟨aK,H⟩:=Sw B;have af:b<w.heap.size:=(Xa.1 h).1;have P:4<w.heap.size:=World.block_lt_of_cell? _ _ X;obtain⟨W,K⟩:∃W,w.alloc (.cells #[.slice va vn vc,.slice fa fn_ fc,lV,tV] 25)=W:=⟨_,rfl⟩;have C:Xm w.heap.size w W:=by rw[<-K];exact(Xq _ _).alloc (Xd _) _
 have kp:W.heap[w.heap.size]?=some (.cells #[.slice va vn vc,.slice fa fn_ fc,lV,tV] 25):=by rw[<-K];exact Xi w _
 obtain⟨p0,p1,p2,p3⟩:=Ee kp;have hS:=(C.block b af).trans h;obtain⟨-,s1,s2,-⟩:=DR hS;have an:=(C.cell (p:=⟨4,0,none⟩) P).trans X;obtain⟨n,k⟩:∃n,p.vs.length+p.fs.length=n:=⟨_,rfl⟩;rw[k] at aa Z c;have l:n<=8:=by rw[<-k];exact Nat.add_le_add F A
 have s:=VP (bs (Aj p m)) n mx W (by rw[Ba];exact Nat.lt_trans B (by decide)) an Z l;rw[aa] at s;rw[Xp,Xb,c,show (([J]:List Tx)).length=1 from rfl] at s;have aN:Lib.cellsOf ((AW p m++[J]).map bs) (n+1)=((AW p m++[J]).map λx=>Yn (bs x)).toArray:=by
  unfold Lib.cellsOf;rw[Xp,Xb,c,show (([J]:List Tx)).length=1 from rfl,Nat.sub_self,List.replicate_zero,Ye,Zy]
  rfl
 rw[aN] at s;obtain⟨i,R⟩:∃i,W.alloc (.cells ((AW p m++[J]).map λx=>Yn (bs x)).toArray 9)=i:=⟨_,rfl⟩;rw[R] at s;have V:Xm W.heap.size W i:=by rw[<-R];exact(Xq _ _).alloc (Xd _) _
 have U:i.heap[W.heap.size]?=some (.cells ((AW p m++[J]).map λx=>Yn (bs x)).toArray 9):=by rw[<-R];exact Xi W _
 obtain⟨sb,ag⟩:∃x,W.heap.size=x:=⟨_,rfl⟩;rw[ag] at s U;have d:Xm w.heap.size w i:=C.trans (V.mono C.size);obtain⟨-,-,t2,-⟩:=DR ((V.block b (XK af C.size)).trans hS);obtain⟨aH,a5⟩:=UG (a:=vn) (b:=fn_) (by rw[ai,aP];exact k) l;have r:i.ownsRow w.heap.size 9 1 (.slice (some ⟨sb,0,none⟩) n (n+1)) n ((AW p m).map λx=>Yn (bs x)):=WD U c l (by rw[<-ag];exact C.size);have aO:sb<i.heap.size:=(Xa.1 U).1;have I:∀(j:Nat) x,(AW p m)[j]?=some x->i.cell? ⟨sb,j,none⟩=some (.string (bs x)):=λj x N=>by
  have S:=(Xf.1 N).1;rw[r.cellAt j (by rw[afF,<-c];exact S),Xs,N];rfl
 have t:Au m=0->Bl p m=YI (AW p m) [32]:=λz=>by unfold Bl;rw[if_neg (by omega),Ye]
 have q:0<Au m->Bl p m=YI (AW p m++[EN]) [32]:=λz=>by unfold Bl;rw[if_pos z]
 have Q:=St sb (n+1) (AW p m) i I aO (by rw[c];exact Nat.le_succ_of_le l) (by rw[c];exact ago n) aK;rw[c] at Q;obtain⟨pc,o⟩:∃x,w.heap.size=x:=⟨_,rfl⟩;rw[o] at p0 p1 p2 p3;obtain⟨G,E⟩:∃x,Au m=x:=⟨_,rfl⟩;rw[E] at s2 t2 t q;obtain⟨sh,ay⟩:∃x,Aj p m=x:=⟨_,rfl⟩;rw[ay] at s1 s;obtain⟨O,hO⟩:∃x,Bl p m=x:=⟨_,rfl⟩;rw[hO] at t q |-;have HP:=Aa (⟨d,r,I,t,q,H,c,B,o,F,A,k⟩:_/\_/\_/\_/\_/\_/\_/\_/\_/\_/\_/\_);replace K:=Aa K;replace o:=Aa o;replace aH:=aH;clear h hn hM hf X ai aP aa Z c F A aK H l B af P C kp hS an k aN R V U ag d r aO I t q E ay hO;unfold Ab
 go_enter Tryz.func26,Tryz.ntmps26
 go_upto_region 1 with fail
 try rw[K.out]
 try rw[o.out]
 clear K o
 go_wp2_with fail
 refine s.mono ?_;rintro e w2 ⟨rfl,he⟩;rw[he];clear he s s1 s2 p0 p1 p2 p3;obtain⟨d,r,I,t,q,H,c,B,o,F,A,k⟩:=HP.out;have l:n<=8:=by rw[<-k];exact Nat.add_le_add F A
 by_cases E:0<G
 ·have d1:decide ((0:Int)<(G:Int))=true:=decide_eq_true (by omega);have d2:(0:Int)<(G:Int):=by omega
  have d3:decide (0<G)=true:=decide_eq_true E;obtain⟨i0,hi,aA,aF,ar⟩:=info_parts Tryz.infoStrX;obtain⟨g,cap,w3,av,T,ro,rt,rp,rz,rb,rg⟩:=Ig r Tryz.underlying22 hi aA aF ar rfl (by omega) [.string (bs EN)] rfl (by intro u hu;simp at hu;subst hu;rfl) 22 (by omega) d.size;have ap:Xm w.heap.size w w3:=⟨ro.trans d.os,rt.trans d.tape,rp.trans d.output,by have:=d.size;omega,λx hx=>(rb x (XK hx d.size) (λe=>by have:=(r.lt x e).1;omega)).trans (d.block x hx)⟩;have P:=(T.lt g rfl).2;have aw:n+1<=cap:=by
   rcases id T.2 with⟨z,-⟩|⟨g',a2,a0,z,-,-,h3,-⟩
   ·cases z
   ·injection z with _ _ z
    rw[z];exact h3
  have Y:=St g cap (AW p m++[EN]) w3 (λj x N=>by
   have S:=(Xf.1 N).1;rw[Xb,c,show (([EN]:List Tx)).length=1 from rfl] at S;rw[T.cellAt j (by rw[afF];exact S)];have e:(AW p m).map (λx=>Yn (bs x))++[Yn (bs EN)]=(AW p m++[EN]).map λx=>Yn (bs x):=by rw[XI];rfl
   rw[e,Xs,N];rfl) P (by rw[Xb,c];exact Nat.succ_le_succ l) (by rw[Xb,c];exact aw) H
  rw[Xb,c,show (([EN]:List Tx)).length=1 from rfl,<-q E] at Y;have D:=Aa ap;have aW:i.heap.size=i.heap.size:=rfl;clear aW d r I t q H c B o F A k l E hi aA aF ar T ro rt rp rz rb rg ap P aw HP Q;unfold EN bs at av
  go_wp2_with (at_builtin;refine Dm rfl _ _ _ rfl rfl rfl rfl av ?_)
  refine Y.mono ?_;rintro e w4 ⟨rfl,M⟩;have HF:=Aa (D.out.trans (M.mono D.out.size));clear Y D M
  go_wp2_with fail
  go_ret
  exact⟨rfl,HF.out⟩
 ·have aU:G=0:=by omega
  subst aU;have d1:decide ((0:Int)<((0:Nat):Int))=false:=by decide
  rw[<-t rfl] at Q;have D:=Aa d;clear d r I t q H c B o F A k l E HP
  go_wp2_with fail
  refine Q.mono ?_;rintro e w4 ⟨rfl,M⟩;have HF:=Aa (D.out.trans (M.mono D.out.size));clear Q D M
  go_wp2_with fail
  go_ret
  exact⟨rfl,HF.out⟩
end Go.Proofs.YtdcacoifehkioaaGreatDoor
namespace Go.Proofs.YtdcacoifehkioaaGreatDoor
open Go.RowKit Go.Extern.Stop Go.Stop Go.Extern Go.Shelf
def Oh:Array Xk->Sem Xk:=Extern.ReflectliteType.method λt=>do
 Extern.Rtype.noPackHeld "Comparable" t
 pure (.bool (<-typeInfo t).comparable)
theorem Tryz.isTypeOf (v:Xk) (w:Xh):(afu #[.iface 346 v]).run Tryz.prog w = .ok (.iface 251 (.agg #[.pointer (some ⟨12,346,none⟩)])) w:=by kernel_rfl
theorem Tryz.isComparable (w:Xh):(Oh #[.agg #[.pointer (some ⟨12,346,none⟩)]]).run Tryz.prog w = .ok (.bool true) w:=by kernel_rfl
theorem Tryz.isComp:(Tryz.prog.info? 346).map (·.comparable)=some true:=by kernel_rfl
theorem Tryz.isSize:(Tryz.prog.info? 348).map (·.size)=some 1:=by kernel_rfl
theorem Tryz.noIsE (v:Xk) (a:YM) (w:Xh):(Instr.typeAssert (.iface 346 v) a 253 true).run Tryz.prog w = .ok (.tuple #[.nilIface,.bool false]) w:=agb Tryz.underlying253 (by kernel_rfl) (by kernel_rfl) v a w
theorem Tryz.noUnwrapE (v:Xk) (a:YM) (w:Xh):(Instr.typeAssert (.iface 346 v) a 256 true).run Tryz.prog w = .ok (.tuple #[.nilIface,.bool false]) w:=agb Tryz.underlying256 (by kernel_rfl) (by kernel_rfl) v a w
theorem Tryz.noUnwrapsE (v:Xk) (a:YM) (w:Xh):(Instr.typeAssert (.iface 346 v) a 258 true).run Tryz.prog w = .ok (.tuple #[.nilIface,.bool false]) w:=agb Tryz.underlying258 (by kernel_rfl) (by kernel_rfl) v a w
theorem SC (a:YZ) (w:Xh) :
 XX Tryz.prog 56 #[.iface 346 (.pointer (some a)),.iface 346 (.pointer (some a))] w λe w'=>e = .returned (.bool true)/\w'=w:=by
 obtain⟨i,d,c⟩:=Yu.1 Tryz.isComp;obtain⟨j,b,k⟩:=Yu.1 Tryz.isSize;have g:=@Z9 Tryz.prog 117 _ afu Tryz.func117 (by kernel_rfl) (by kernel_rfl) (by kernel_rfl) (by kernel_rfl);have f:=@Z9 Tryz.prog 264 _ Oh Tryz.func264 (by kernel_rfl) (by kernel_rfl) (by kernel_rfl) (by kernel_rfl);have h:=Tryz.isTypeOf;have m:=Tryz.isComparable;have l:=run_eql_iface_ptr_same (P:=Tryz.prog) w a Tryz.underlying71 Tryz.underlying346 d c b
 go_enter Tryz.func56,Tryz.ntmps56
 go_wp2
 refine wp_loop_rounds 1 ?_;rw[rounds_succ]
 go_wp2
 go_ret
 exact⟨rfl,rfl⟩
theorem acp (a b:YZ) (ca o:Array Xk) (l h:YM) (w:Xh) (g:a≠b) (f:w.heap[a.block]?=some (.cells ca l (0,0))) (c:w.heap[b.block]?=some (.cells o h (0,0))) :
 XX Tryz.prog 56 #[.iface 346 (.pointer (some a)),.iface 346 (.pointer (some b))] w λe w'=>e = .returned (.bool false)/\w'=w:=by
 obtain⟨i,m,k⟩:=Yu.1 Tryz.isComp;obtain⟨j,d,n⟩:=Yu.1 Tryz.isSize;have t:=@Z9 Tryz.prog 117 _ afu Tryz.func117 (by kernel_rfl) (by kernel_rfl) (by kernel_rfl) (by kernel_rfl);have s:=@Z9 Tryz.prog 264 _ Oh Tryz.func264 (by kernel_rfl) (by kernel_rfl) (by kernel_rfl) (by kernel_rfl);have u:=Tryz.isTypeOf;have x:=Tryz.isComparable;have p:=Tryz.noIsE;have q:=Tryz.noUnwrapE;have r:=Tryz.noUnwrapsE;have v:=run_eql_iface_ptr_other (P:=Tryz.prog) w Tryz.underlying71 Tryz.underlying346 m k d (by rw[n];decide) g f c
 go_enter Tryz.func56,Tryz.ntmps56
 go_wp2
 refine wp_loop_rounds 1 ?_;rw[rounds_succ]
 go_wp2
 go_ret
 exact⟨rfl,rfl⟩
structure OF (w:Xh) (er em:YZ):Prop where
 ne:er≠em
 r:∃c t,w.heap[er.block]?=some (.cells c t (0,0))
 m:∃c t,w.heap[em.block]?=some (.cells c t (0,0))
def CP (er em:YZ) (b:Bool):Xk:=.iface 346 (.pointer (some (if b then em else er)))
def EH (b:Bool):Int:=if b then 4 else 8
theorem Ru {w:Xh} {c a:YZ} (h:OF w c a) (k:Iv w (CP c a)) (b:Bool) :
 XX Tryz.prog 24 #[CP c a b] w λe w'=>e = .returned (.int .i64 (EH b))/\w'=w:=by
 obtain⟨n,⟨c1,o,f⟩,⟨c2,m,g⟩⟩:=h;obtain⟨j,i⟩:=k;unfold CP EH at *
 cases b with
 |false=>
  have d:=SC c w;clear f g;simp only[Zi,if_false,if_true] at j i |-
  go_enter Tryz.func24,Tryz.ntmps24
  go_wp2_with fail
  refine d.mono ?_;rintro e w' ⟨rfl,rfl⟩
  go_wp2_with fail
  go_ret
  exact⟨rfl,rfl⟩
 |true=>
  have d:=acp a c c2 c1 m o w (λe=>n e.symm) g f;have l:=SC a w;clear f g;simp only[Zi,if_false,if_true] at j i |-
  go_enter Tryz.func24,Tryz.ntmps24
  go_wp2_with fail
  refine d.mono ?_;rintro e w' ⟨rfl,rfl⟩
  go_wp2_with fail
  refine l.mono ?_;rintro e w' ⟨rfl,rfl⟩
  go_wp2_with fail
  go_ret
  exact⟨rfl,rfl⟩
end Go.Proofs.YtdcacoifehkioaaGreatDoor
namespace Go.Proofs.YtdcacoifehkioaaGreatDoor
open Go.RowKit Go.Proofs.Cod
def AR:Tx->Tx->Bool
 |[],[]=>false
 |[],_::_=>true
 |_::_,[]=>false
 |a::l,b::r=>if a=b then AR l r else decide (a<b)
theorem Kf:∀a:Tx,AR a a=false
 |[]=>rfl
 |a::l=>by unfold AR;rw[if_pos rfl];exact Kf l
theorem Lr:∀a b:Tx,AR a b=false->AR b a=false->a=b
 |[],[],_,_=>rfl
 |[],_::_,h,_=>by cases h
 |_::_,[],_,h=>by cases h
 |a::l,b::r,c,d=>by
  unfold AR at c d
  by_cases e:a=b
  ·subst e;rw[if_pos rfl] at c d;rw[Lr l r c d]
  ·rw[if_neg e] at c;rw[if_neg (λq=>e q.symm)] at d;have c:=of_decide_eq_false c;have d:=of_decide_eq_false d;have f:¬a.toNat<b.toNat:=c;have g:¬b.toNat<a.toNat:=d;exact absurd (UInt8.toNat_inj.1 (by omega)) e
theorem Jq:∀a b c:Tx,AR a b=true->AR b c=true->AR a c=true
 |_,[],[],_,h=>by cases h
 |[],[],_::_,h,_=>by cases h
 |[],_::_,[],_,h=>by cases h
 |[],_::_,_::_,_,_=>rfl
 |_::_,[],_::_,h,_=>by cases h
 |_::_,_::_,[],_,h=>by cases h
 |a::l,b::m,c::r,h1,h2=>by
  unfold AR at h1 h2 |-
  by_cases e:a=b
  ·subst e;rw[if_pos rfl] at h1
   by_cases d:a=c
   ·subst d;rw[if_pos rfl] at h2 |-;exact Jq l m r h1 h2
   ·rw[if_neg d] at h2 |-;exact h2
  ·rw[if_neg e] at h1
   by_cases d:b=c
   ·subst d;rw[if_neg e];exact h1
   ·rw[if_neg d] at h2;have i:a.toNat<b.toNat:=of_decide_eq_true h1;have g:b.toNat<c.toNat:=of_decide_eq_true h2;have f:a≠c:=λq=>by subst q;omega
    rw[if_neg f];exact decide_eq_true (show a.toNat<c.toNat by omega)
def FP (l:List Tx):Prop:=l.Pairwise λa b=>AR a b=true
def Cd (s:Tx):List Tx->List Tx
 |[]=>[s]
 |a::r=>if a=s then a::r else if AR s a=true then s::a::r else a::Cd s r
theorem Nn (s x:Tx):∀l,x∈Cd s l↔x=s\/x∈l
 |[]=>by unfold Cd;simp
 |a::r=>by
  unfold Cd
  by_cases e:a=s
  ·rw[if_pos e,<-e]
   simp
  ·rw[if_neg e]
   by_cases q:AR s a=true
   ·rw[if_pos q];simp
   ·rw[if_neg q,XR,XR,Nn s x r];constructor
    ·rintro(h|h|h)
     ·exact .inr (.inl h)
     ·exact .inl h
     ·exact .inr (.inr h)
    ·rintro(h|h|h)
     ·exact .inr (.inl h)
     ·exact .inl h
     ·exact .inr (.inr h)
theorem OQ (s:Tx):∀{l},FP l->FP (Cd s l)
 |[],_=>by unfold Cd;exact List.pairwise_singleton _ _
 |a::r,h=>by
  have⟨d,f⟩:=Zz.1 h;unfold Cd
  by_cases e:a=s
  ·rw[if_pos e];exact h
  ·rw[if_neg e]
   by_cases q:AR s a=true
   ·rw[if_pos q];refine Zz.2 ⟨λb c=>?_,h⟩
    rcases XR.1 c with rfl|c
    ·exact q
    ·exact Jq s a b q (d b c)
   ·rw[if_neg q];refine Zz.2 ⟨λb c=>?_,OQ s f⟩
    rcases (Nn s b r).1 c with rfl|c
    ·cases w:AR a b with
     |true=>rfl
     |false=>exact absurd (Lr a b w (Bool.eq_false_iff.2 q)) e
    ·exact d b c
theorem MM:∀{l r:List Tx},FP l->FP r->(∀x,x∈l↔x∈r)->l=r
 |[],[],_,_,_=>rfl
 |[],b::r,_,_,h=>absurd ((h b).2 (Yf ..)) (by simp)
 |a::l,[],_,_,h=>absurd ((h a).1 (Yf ..)) (by simp)
 |a::l,b::r,h1,h2,h=>by
  have⟨f,p⟩:=Zz.1 h1;have⟨i,o⟩:=Zz.1 h2;have e:a=b:=by
   rcases XR.1 ((h a).1 (Yf ..)) with e|e
   ·exact e
   ·rcases XR.1 ((h b).2 (Yf ..)) with d|d
    ·exact d.symm
    ·have w1:=i a e;have n:=f b d;have:=Jq a b a n w1;rw[Kf] at this
     cases this
  subst e;have g:∀{m:List Tx},(∀x,x∈m->AR a x=true)->a∉m:=λj k=>by
   have:=j a k;rw[Kf] at this
   cases this
  rw[MM p o λx=>?_];constructor
  ·intro c
   rcases XR.1 ((h x).1 (Yl _ c)) with e|e
   ·subst e;exact absurd c (g f)
   ·exact e
  ·intro c
   rcases XR.1 ((h x).2 (Yl _ c)) with e|e
   ·subst e;exact absurd c (g i)
   ·exact e
end Go.Proofs.YtdcacoifehkioaaGreatDoor
namespace Go.Proofs
open Go.RowKit Go.Maps Go.Sort Go.Shelf
shelf_lay_g SlLaysZI.n7 Ggz 7 at Tryz 31 as Tryz.keysI
shelf_lay_g SlLaysZI.n6 Ggz 6 at Tryz 30 as Tryz.sortedI
shelf_lay_g SlLaysM.n5 Slgm 5 at Tryz 64 as Tryz.sortI
shelf_lay_g SlLaysZ.n7 Ggz 7 at Tryz 29 as Tryz.keysS
shelf_lay_g SlLaysZ.n6 Ggz 6 at Tryz 28 as Tryz.sortedS
shelf_lay_g SlLaysM.n6 Slgm 6 at Tryz 61 as Tryz.sortS
theorem Tryz.sortsI (m:Nat):AnyZI.SortsIn Tryz.prog Tryz.sortedI_ren Yp m:=
 ⟨λc b cap e W d f a=>X4.2 (AnyM.slices_Sort_int Tryz.sortI c b cap e W d f a),
  λp cap W=>X4.2 (AnyM.slices_Sort_int_none Tryz.sortI p cap W)⟩
theorem Tryz.sortsS (m:Nat):AnyZ.SortsIn Tryz.prog Tryz.sortedS_ren Yp m:=
 ⟨λc b cap e W d f a=>X4.2 (AnyM.slices_Sort_string Tryz.sortS c b cap e W d f a),
  λp cap W=>X4.2 (AnyM.slices_Sort_string_none Tryz.sortS p cap W)⟩
end Go.Proofs
namespace Go.Proofs.YtdcacoifehkioaaGreatDoor
open Go.RowKit Go.Shelf Go.Proofs.Cod Go.Maps Go.Sort
def GP (_:Xk):Option (DataW Unit×List MemPlace):=some (.nil,[])
def Js (e:Y9):Tx:=match e.key with
 |.string b=>b.data.toList
 |_=>[]
def Jt (e:Y9):Int:=match e.key with
 |.int _ a=>a
 |_=>0
theorem acg {a:Y9->Lit×DataW Unit} {l:List Y9} {kf:Y9->Tx} (h:∀e,e∈l->strOf (a e).1=kf e):(strKeys (.map ((l.map a).foldr DataW.insert []))).Perm (l.map kf):=by
 show (((l.map a).foldr DataW.insert []).map λp=>strOf p.1).Perm _;refine((WideShapes.sorted_perm _).map _).trans ?_;rw[Zy];exact List.Perm.of_eq (agt λe b=>h e b)
theorem aci {a:Y9->Lit×DataW Unit} {l:List Y9} {kf:Y9->Int} (h:∀e,e∈l->Go.intOf (a e).1=kf e):(intKeys (.map ((l.map a).foldr DataW.insert []))).Perm (l.map kf):=by
 show (((l.map a).foldr DataW.insert []).map λp=>Go.intOf p.1).Perm _;refine((WideShapes.sorted_perm _).map _).trans ?_;rw[Zy];exact List.Perm.of_eq (agt λe b=>h e b)
theorem AB.aa6 {w:Xh} {b n:Nat} {f:Tx->Option Xk} (h:AB sk w b f n) (I:∀x,f x≠none->x.length<=Z7) (q:n<=Z7) :
 ∃o:DataW Unit,w.ownsMap Tryz.prog 9 GP b n o/\agu o=n/\(strKeys o).Nodup/\∀x,x∈strKeys o↔f x≠none:=by
 obtain⟨j,t,E,p,s⟩:=h;have m:∀e,e∈j.toList->∃x:Tx,e.key = .string (bs x)/\f x=some e.val/\keyOf Tryz.prog 9 e.key=some (.string x):=λe g=>by
  obtain⟨x,d,i⟩:=p.mem e g;have d:e.key = .string (bs x):=d;refine⟨x,d,i,?_⟩;rw[d,keyOf_string Tryz.underlying9];unfold mapKey;rw[Tryz.underlying9];dsimp only;rw[if_pos (by rw[Ba];exact I x (by rw[i];simp))]
  rfl
 have u:∀e,e∈j.toList->∃x:Tx,e.key = .string (bs x)/\f x=some e.val/\WideElems.rd Tryz.prog 9 GP e=some (.string x,.nil):=λe g=>by
  obtain⟨x,d,i,k⟩:=m e g
  exact⟨x,d,i,by simp[WideElems.rd,k,GP]⟩
 have H:WideElems.Fit Tryz.prog 9 GP j t:=⟨by rw[s];exact q,p.stamped,λe g=>by obtain⟨x,_,_,k⟩:=u e g;exact⟨_,k⟩⟩;have C:∀e,e∈j.toList->strOf (WideElems.rg Tryz.prog 9 GP e).1=Js e:=λe g=>by
  obtain⟨x,d,_,k⟩:=u e g;rw[WideElems.rg_of k];unfold Js;rw[d];rfl
 have z:=acg (l:=j.toList) (kf:=Js) C;refine⟨_,⟨j,t,E,H,Nat.le_of_eq s,rfl⟩,?_,?_,λx=>?_⟩
 ·rw[Maps.size_eq,length_read,s]
 ·refine z.nodup_iff.2 ?_;refine afK.2 ?_;have q:=p.stamped.2.2;rw[List.Nodup,afK] at q;refine q.imp_of_mem λ{a c} G D F e=>F ?_;obtain⟨x,d,_⟩:=m a G;obtain⟨y,i,_⟩:=m c D;unfold Js at e;rw[d,i] at e |-;have e:x=y:=e;rw[e]
 ·rw[z.mem_iff,Yx];constructor
  ·rintro⟨e,g,rfl⟩;obtain⟨y,d,i,_⟩:=m e g;unfold Js;rw[d];show f y≠none;rw[i];simp
  ·intro B;obtain⟨v,A⟩:=agx.1 B;obtain⟨e,g,r⟩:=p.has x v A;have r:e.key = .string (bs x):=r
   exact⟨e,g,by unfold Js;rw[r];rfl⟩
theorem AB.aa7 {w:Xh} {b n:Nat} {f:Int->Option Xk} (h:AB ik w b f n) (I:∀x,f x≠none->0<=x/\x<1000) (q:n<=Z7) :
 ∃o:DataW Unit,w.ownsMap Tryz.prog 3 GP b n o/\agu o=n/\(intKeys o).Nodup/\∀x,x∈intKeys o↔f x≠none:=by
 obtain⟨k,s,E,p,r⟩:=h;have m:∀e,e∈k.toList->∃x,e.key = .int .i64 x/\f x=some e.val/\keyOf Tryz.prog 3 e.key=some (.int .i64 x):=λe g=>by
  obtain⟨x,d,i⟩:=p.mem e g;refine⟨x,d,i,?_⟩;rw[d];refine keyOf_int_mk Tryz.underlying3 ?_;obtain⟨z1,z2⟩:=I x (by rw[i];simp);have d:aeR.min<=x:=by show -9223372036854775808<=x;omega
  have j:x<=9223372036854775807:=by omega
  simp[Lit.wf,d,j]
 have t:∀e,e∈k.toList->∃x,e.key = .int .i64 x/\f x=some e.val/\WideElems.rd Tryz.prog 3 GP e=some (.int .i64 x,.nil):=λe g=>by
  obtain⟨x,d,i,j⟩:=m e g
  exact⟨x,d,i,by simp[WideElems.rd,j,GP]⟩
 have H:WideElems.Fit Tryz.prog 3 GP k s:=⟨by rw[r];exact q,p.stamped,λe g=>by obtain⟨x,_,_,j⟩:=t e g;exact⟨_,j⟩⟩;have B:∀e,e∈k.toList->Go.intOf (WideElems.rg Tryz.prog 3 GP e).1=Jt e:=λe g=>by
  obtain⟨x,d,_,j⟩:=t e g;rw[WideElems.rg_of j];unfold Jt;rw[d];rfl
 have u:=aci (l:=k.toList) (kf:=Jt) B;refine⟨_,⟨k,s,E,H,Nat.le_of_eq r,rfl⟩,?_,?_,λx=>?_⟩
 ·rw[Maps.size_eq,length_read,r]
 ·refine u.nodup_iff.2 ?_;refine afK.2 ?_;have q:=p.stamped.2.2;rw[List.Nodup,afK] at q;refine q.imp_of_mem λ{a c} G D F e=>F ?_;obtain⟨x,d,_⟩:=m a G;obtain⟨y,i,_⟩:=m c D;unfold Jt at e;rw[d,i] at e |-;simp only at e;rw[e]
 ·rw[u.mem_iff,Yx];constructor
  ·rintro⟨e,g,rfl⟩;obtain⟨y,d,i,_⟩:=m e g;unfold Jt;rw[d];simp only;rw[i];simp
  ·intro A;obtain⟨v,z⟩:=agx.1 A;obtain⟨e,g,C⟩:=p.has x v z
   exact⟨e,g,by unfold Jt;rw[C];rfl⟩
theorem Nt:∀a b:Tx,AR a b=true↔a<b
 |[],[]=>by simp[AR]
 |[],_::_=>by simp[AR]
 |_::_,[]=>by simp[AR]
 |a::l,b::r=>by
  have c:=Nt l r;unfold AR;rw[List.cons_lt_cons_iff]
  by_cases e:a=b
  ·subst e;rw[if_pos rfl,c]
   simp
  ·rw[if_neg e];simp[e]
theorem ab6 (a b:Tx):decide (a<=b) = !AR b a:=by
 cases h:AR b a with
 |true=>
  have:=(Nt b a).1 h;simp[this]
 |false=>
  have:¬b<a:=λz=>by rw[(Nt b a).2 z] at h;cases h
  simpa using this
theorem VT {f:List Tx} (k:f.Nodup):FP (f.mergeSort λx y=>decide (x<=y))/\∀x,x∈(f.mergeSort λx y=>decide (x<=y))↔x∈f:=by
 have e:(λx y:Tx=>decide (x<=y))=λx y => !AR y x:=by funext a b;exact ab6 a b
 rw[e];have n:∀a b c:Tx,(!AR b a)=true->(!AR c b)=true->(!AR c a)=true:=λa b c i d=>by
  simp only[afH] at *
  cases h:AR c a with
  |false=>rfl
  |true=>
   cases g:AR a b with
   |true=>rw[Jq c a b h g] at d;cases d
   |false=>rw[Lr a b g i] at h;rw[h] at d;cases d
 have m:∀a b:Tx,(!AR b a || !AR a b)=true:=λa b=>by
  cases h:AR b a with
  |false=>rfl
  |true=>
   cases d:AR a b with
   |false=>rfl
   |true=>
    have:=Jq a b a d h;rw[Kf] at this;cases this
 have j:=afW f (λx y => !AR y x);refine⟨?_,λx=>j.mem_iff⟩;have i:=List.pairwise_mergeSort (le:=λx y => !AR y x) n m f;have d:(f.mergeSort λx y => !AR y x).Nodup:=j.nodup_iff.2 k;refine(i.and d).imp λ{a b} ⟨g,l⟩=>?_;simp only[afH] at g
 cases h:AR a b with
 |true=>rfl
 |false=>exact absurd (Lr a b h g) l
theorem VU {d:List Int} (h:d.Nodup):(d.mergeSort λx y=>decide (x<=y)).Pairwise (λa b=>a<b)/\∀x,x∈(d.mergeSort λx y=>decide (x<=y))↔x∈d:=by
 have e:=afW d (λx y=>decide (x<=y));have j:∀a b c:Int,decide (a<=b)=true->decide (b<=c)=true->decide (a<=c)=true:=λa b c l g=>by simp only[decide_eq_true_eq] at *;omega
 have i:∀a b:Int,(decide (a<=b)||decide (b<=a))=true:=λa b=>by simp only[Bool.or_eq_true,decide_eq_true_eq];omega
 refine⟨?_,λx=>e.mem_iff⟩;have g:(d.mergeSort λx y=>decide (x<=y)).Nodup:=e.nodup_iff.2 h;refine((List.pairwise_mergeSort j i d).and g).imp λ{a b} ⟨f,k⟩=>?_;have f:a<=b:=by simpa using f
 omega
theorem ach (m:Nat) (mb:Option Nat) (W:Xh):agq Yp m Tryz.prog 29 #[.map mb] W λe w'=>e = .returned (.func (.func 62) #[] #[.pointer (some ⟨W.heap.size,0,none⟩)])/\w'=W.alloc (.cells #[.map mb] 64):=
 X4.2 (X4.1 (AnyZ.keys_in Tryz.keysS Yp 5 trivial rfl mb W))
theorem acj (m:Nat) (mb:Option Nat) (W:Xh):agq Yp m Tryz.prog 31 #[.map mb] W λe w'=>e = .returned (.func (.func 65) #[] #[.pointer (some ⟨W.heap.size,0,none⟩)])/\w'=W.alloc (.cells #[.map mb] 65):=
 X4.2 (X4.1 (AnyZI.keys_in Tryz.keysI Yp 5 trivial rfl mb W))
theorem VR (m:Nat) {w:Xh} {b n:Nat} {f:Tx->Option Xk} (h:AB sk w b f n) (A:∀x,f x≠none->x.length<=Z7) (J:n<=1048576) :
 agq Yp m Tryz.prog 28 #[.func (.func 62) #[] #[.pointer (some ⟨w.heap.size,0,none⟩)]] (w.alloc (.cells #[.map (some b)] 64)) λe w'=>∃(v:Xk) (l:List Tx),e = .returned v/\w'.ownsRow w.heap.size 9 1 v l.length (l.map λx=>Yn (bs x))/\FP l/\(∀x,x∈l↔f x≠none)/\Xm w.heap.size w w':=by
 obtain⟨a,j,i,u,z⟩:=h.aa6 A (by unfold Z7;omega);have s:=j.lt;have t:agu a<=Z7:=by rw[i];unfold Z7;omega
 have q:agu a*16<=140737488355328:=by rw[i];omega
 have I:SeqGives Yp 2 Tryz.prog 62 #[.pointer (some ⟨w.heap.size,0,none⟩)] encStr (λc=>c.Perm (strKeys a)) (agu a) (w.alloc (.cells #[.map (some b)] 64)):=
  AnyZ.keys_gives (ρ:=Tryz.keysS_ren) {Tryz.keysS with} Yp _ trivial rfl (by omega) w.heap.size b n a _ (by simp) (by simp) (by
   obtain⟨G,r,d,o,C,F⟩:=j
   exact⟨G,r,(Xv _ _ b s).trans d,o,C,F⟩)
 have g:=AnyZ.sorted_in Tryz.sortedS Yp 5 trivial trivial trivial trivial rfl (by omega) (Tryz.sortsS _) (enters_of Tryz.func61 (by kernel_rfl) rfl) 62 #[.pointer (some ⟨w.heap.size,0,none⟩)] trivial (enters_of Tryz.func62 (by kernel_rfl) rfl) _ _ t q _ I
 change agq _ _ Tryz.prog 28 _ _ _ at g
 refine X4.2 ((X4.1 g).mono ?_);rintro e w' ⟨v,c,rfl,k,E,K,d⟩;have B:=k.nodup_iff.2 u;obtain⟨H,D⟩:=VT B;have p:(c.mergeSort λx y=>decide (x<=y)).length=c.length:=(afW _ _).length_eq;refine⟨v,_,rfl,?_,H,λx=>by rw[D,k.mem_iff,z],((Xq _ w).alloc (Xd _) _).trans (d.mono (by simp))⟩;rw[p];exact ownsRow_base_a E (by simp)
theorem VS (m:Nat) {w:Xh} {b n:Nat} {f:Int->Option Xk} (h:AB ik w b f n) (B:∀x,f x≠none->0<=x/\x<1000) (K:n<=1048576) :
 agq Yp m Tryz.prog 30 #[.func (.func 65) #[] #[.pointer (some ⟨w.heap.size,0,none⟩)]] (w.alloc (.cells #[.map (some b)] 65)) λe w'=>∃(v:Xk) (l:List Int),e = .returned v/\w'.ownsRow w.heap.size 3 1 v l.length (l.map (Yw .i64))/\l.Pairwise (λa b=>a<b)/\(∀x,x∈l↔f x≠none)/\Xm w.heap.size w w':=by
 obtain⟨c,k,j,z,A⟩:=h.aa7 B (by unfold Z7;omega);have t:=k.lt;have u:agu c<=Z7:=by rw[j];unfold Z7;omega
 have r:agu c*8<=140737488355328:=by rw[j];omega
 have J:SeqGives Yp 2 Tryz.prog 65 #[.pointer (some ⟨w.heap.size,0,none⟩)] encZ (λd=>d.Perm (intKeys c)) (agu c) (w.alloc (.cells #[.map (some b)] 65)):=
  AnyZI.keys_gives (ρ:=Tryz.keysI_ren) {Tryz.keysI with} Yp _ trivial rfl (by omega) w.heap.size b n c _ (by simp) (by simp) (by
   obtain⟨H,s,g,p,D,G⟩:=k
   exact⟨H,s,(Xv _ _ b t).trans g,p,D,G⟩)
 have i:=AnyZI.sorted_in Tryz.sortedI Yp 5 trivial trivial trivial trivial rfl (by omega) (Tryz.sortsI _) (enters_of Tryz.func64 (by kernel_rfl) rfl) 65 #[.pointer (some ⟨w.heap.size,0,none⟩)] trivial (enters_of Tryz.func65 (by kernel_rfl) rfl) _ _ u r _ J
 change agq _ _ Tryz.prog 30 _ _ _ at i
 refine X4.2 ((X4.1 i).mono ?_);rintro e w' ⟨v,d,rfl,o,F,M,g⟩;have C:=o.nodup_iff.2 z;obtain⟨I,E⟩:=VU C;have q:(d.mergeSort λx y=>decide (x<=y)).length=d.length:=(afW _ _).length_eq;refine⟨v,_,rfl,?_,I,λx=>by rw[E,o.mem_iff,A],((Xq _ w).alloc (Xd _) _).trans (g.mono (by simp))⟩;rw[q];exact ownsRow_base_a F (by simp)
end Go.Proofs.YtdcacoifehkioaaGreatDoor
namespace Go.Proofs.YtdcacoifehkioaaGreatDoor
open Go.RowKit Go.Shelf Go.Proofs.Cod
def Gi (C:List (List Ad)) (m:MS):Bool:=decide ((Bj C m).length=0)
def BE (C:List (List Ad)) (l:List MS):Bool:=l.any λm=>Gi C m&&decide (0<Au m)
def CG (l:List MS):Bool:=l.any Bw
def Fv (p:PD) (l:List MS) (x:Tx):Prop:=∃m,m∈l/\Gi p.C m=true/\Bl p m=x
def EQ (p:PD) (l:List MS) (x:Int):Prop:=(0<=x/\x<p.vs.length)/\∃m,m∈l/\(Dd x (Bj p.C m)).isSome=true
theorem Ot {α:Type} (q:α->Bool) (l:List α) (a:α):(l++[a]).any q=(l.any q||q a):=by rw[List.any_append];simp
theorem QF (p:PD) (l:List MS) (m:MS) (x:Tx):Fv p (l++[m]) x↔Fv p l x\/(Gi p.C m=true/\Bl p m=x):=by
 unfold Fv;constructor
 ·rintro⟨a,b,h⟩
  rcases XY.1 b with b|b
  ·exact .inl ⟨a,b,h⟩
  ·rw[XT.1 b] at h;exact .inr h
 ·rintro(⟨a,b,h⟩|h)
  ·exact⟨a,ZF _ b,h⟩
  ·exact⟨m,by simp,h⟩
theorem aaa (p:PD) (l:List MS) (m:MS) (x:Int):EQ p (l++[m]) x↔EQ p l x\/((0<=x/\x<p.vs.length)/\(Dd x (Bj p.C m)).isSome=true):=by
 unfold EQ;constructor
 ·rintro⟨c,a,b,h⟩
  rcases XY.1 b with b|b
  ·exact .inl ⟨c,a,b,h⟩
  ·rw[XT.1 b] at h;exact .inr ⟨c,h⟩
 ·rintro(⟨c,a,b,h⟩|⟨c,h⟩)
  ·exact⟨c,a,ZF _ b,h⟩
  ·exact⟨c,m,by simp,h⟩
structure XW (w:Xh) (Z:Nat) (er em:YZ):Prop where
 t:Ck w Z
 c:Iv w (CP er em)
 e:OF w er em
 m:∃mx,w.cell? ⟨4,0,none⟩=some (.int .i64 mx)
 g:0<Z/\1<Z/\4<Z
 b:er.block<Z/\em.block<Z
theorem XW.same {w w':Xh} {Z:Nat} {i f:YZ} (h:XW w Z i f) (d:∀x,x<Z->w'.heap[x]?=w.heap[x]?):XW w' Z i f:=by
 refine⟨h.t.same d,h.c.same (d _ h.g.1) (d _ h.g.2.1),⟨h.e.ne,?_,?_⟩,?_,h.g,h.b⟩
 ·obtain⟨c,t,q⟩:=h.e.r
  exact⟨c,t,(d _ h.b.1).trans q⟩
 ·obtain⟨c,t,q⟩:=h.e.m
  exact⟨c,t,(d _ h.b.2).trans q⟩
 ·obtain⟨j,q⟩:=h.m
  exact⟨j,(World.cell?_of_block (w:=w) (a:=⟨4,0,none⟩) (d _ h.g.2.2)).trans q⟩
structure afg (W:Xh) (Z:Nat) (O:Tx->Prop) (Y:Int->Prop) (no ny:Nat):Prop where
 o:∃f n,AB sk W (Z+4) f n/\n<=no/\(∀x,f x≠none↔O x)
 y:∃f n,AB ik W (Z+5) f n/\n<=ny/\(∀x,f x≠none↔Y x)
def Gb (n:Nat) (st fa:Bool):Array Xk := #[.int .i64 n,.slice none 0 0,.bool st,.bool fa,.slice none 0 0]
structure AI (W0:Xh) (Z:Nat) (p:PD) (pre:List XS) (O:AS) (W:Xh):Prop where
 all0:∀b,b<W0.heap.size->O b
 inside:∀b,O b->b<W.heap.size
 fixed:∀b,b<W0.heap.size->b≠Z+3->b≠Z+4->b≠Z+5->W.heap[b]?=W0.heap[b]?
 os:W.os=W0.os
 tape:W.tape=W0.tape
 output:W.output=W0.output
 size:W0.heap.size<=W.heap.size
 rep:∃R:List Ag,pre=R.map XS.st/\R.length<=20000/\W.heap[Z+3]?=some (.cells (Gb R.length (BE p.C (R.map Ag.m)) (CG (R.map Ag.m))) 34)/\afg W Z (Fv p (R.map Ag.m)) (EQ p (R.map Ag.m)) R.length (R.length*4)
theorem AI.ID {i:Xh} {Z:Nat} {p:PD} (w:Z+5<i.heap.size):GS (AI i Z p):=by
 intro v O W x h j l s q a;refine⟨h.all0,λb o=>XK (h.inside b o) j,λb c g e d=>(a b (h.all0 b c)).trans (h.fixed b c g e d),l.trans h.os,s.trans h.tape,q.trans h.output,Xu h.size j,?_⟩;obtain⟨R,c,r,g,⟨f,n,e,d⟩,⟨m,t,k,u⟩⟩:=h.rep
 exact⟨R,c,r,(a _ (h.all0 _ (by omega))).trans g,⟨f,n,e.same (a _ (h.all0 _ (by omega))),d⟩,⟨m,t,k.same (a _ (h.all0 _ (by omega))),u⟩⟩
structure AX (W0:Xh) (Z:Nat) (p:PD) (most:Int) (O:AS) (W:Xh):Prop where
 all0:∀b,b<W0.heap.size->O b
 inside:∀b,O b->b<W.heap.size
 fixed:∀b,b<Z->W.heap[b]?=W0.heap[b]?
 os:W.os=W0.os
 tape:W.tape=W0.tape
 output:W.output=W0.output
 size:W0.heap.size<=W.heap.size
 rep:∃b:Bool,(if b then BZ most/\CT p most.toNat=none else ¬BZ most)/\W.heap[Z+1]?=some (.cells (Gb 0 false false) 34)/\W.heap[Z+2]?=some (.cells #[.int .i64 (EH b)] 35)
theorem AX.ID {d:Xh} {Z:Nat} {p:PD} {most:Int} (o:Z+5<d.heap.size):GS (fun(_:List XS)=>AX d Z p most):=by
 intro n O W m h e k g i a;refine⟨h.all0,λb f=>XK (h.inside b f) e,λb c=>(a b (h.all0 b (by omega))).trans (h.fixed b c),k.trans h.os,g.trans h.tape,i.trans h.output,Xu h.size e,?_⟩;obtain⟨b,c,l,j⟩:=h.rep
 exact⟨b,c,(a _ (h.all0 _ (by omega))).trans l,(a _ (h.all0 _ (by omega))).trans j⟩
theorem Qw {w:Xh} {fn:Func} {tmps:Array Xk} {a b:Nat} {h f i g d e:Xk} (j:fn.results = #[.cell 4 34,.cell 5 35]) (l:tmps[4]?=some (.pointer (some ⟨a,0,none⟩))) (m:tmps[5]?=some (.pointer (some ⟨b,0,none⟩))) (c:w.heap[a]?=some (.cells #[h,f,i,g,d] 34)) (k:w.heap[b]?=some (.cells #[e] 35)):(results fn tmps).run Tryz.prog w = .ok (.tuple #[.agg #[h,f,i,g,d],e]) w:=by
 have c0:w.cell? ⟨a,0,none⟩=some h:=by simp[Xg,c]
 have c1:w.cell? ⟨a,1,none⟩=some f:=by simp[Xg,c]
 have c2:w.cell? ⟨a,2,none⟩=some i:=by simp[Xg,c]
 have c3:w.cell? ⟨a,3,none⟩=some g:=by simp[Xg,c]
 have c4:w.cell? ⟨a,4,none⟩=some d:=by simp[Xg,c]
 have c5:w.cell? ⟨b,0,none⟩=some e:=by simp[Xg,k]
 simp[results,j,l,m,go_sem,c0,c1,c2,c3,c4,c5]
def OH (w w':Xh) (p:PD) (most:Int) (e:Ending):Prop:=
 (∃b:Bool,(if b then BZ most/\CT p most.toNat=none else ¬BZ most)/\e = .returned (.tuple #[.agg (Gb 0 false false),.int .i64 (EH b)]))\/
 (BZ most/\∃(l:List MS) (ov rv:Xk) (os:List Tx) (rs:List Int),CT p most.toNat=some l/\e = .returned (.tuple #[.agg #[.int .i64 l.length,ov,.bool (BE p.C l),.bool (CG l),rv],.int .i64 0])/\
   w'.ownsRow w.heap.size 9 1 ov os.length (os.map λx=>Yn (bs x))/\FP os/\(∀x,x∈os↔Fv p l x)/\
   w'.ownsRow w.heap.size 3 1 rv rs.length (rs.map (Yw .i64))/\rs.Pairwise (λa b=>a<b)/\(∀x,x∈rs↔EQ p l x))
end Go.Proofs.YtdcacoifehkioaaGreatDoor
namespace Go.Proofs.YtdcacoifehkioaaGreatDoor
open Go.ChangeShapes Go.WideShapes Go.ChangeAt Go.RowKit Go.Shelf Go.Proofs.Cod
theorem Tryz.star7 : "*" ++ "errors.errorString" = "*errors.errorString" :=by decide
theorem Tryz.row7 (u:YM) (h:Tryz.prog.typeName? 3 u=some "*errors.errorString"):u=346:=
 typeName_ptr_named (nm:= "errors.errorString") (by rw[Tryz.star7];kernel_rfl) (by kernel_rfl) (by decide) u (by rw[Tryz.star7];exact h)
theorem Tryz.gErrR:Tryz.prog.globalNamed "weave/explore.errRange" = some 0:=by kernel_rfl
theorem Tryz.gErrM:Tryz.prog.globalNamed "weave/explore.errMany" = some 1:=by kernel_rfl
theorem adY {W:Xh} (h:laidMet Tryz.prog Rows.exploreAllRow.laid W):∃b a,Iv W (CP b a)/\OF W b a:=by
 have m:laidMet Tryz.prog [("weave/explore.errRange",Rows.laid_weave_explore_errRange),("weave/explore.errMany",Rows.laid_weave_explore_errMany)] W:=h.filter (λx=>x.1 == "weave/explore.errRange" || x.1 == "weave/explore.errMany");obtain⟨j,l,n,o,c0,c1,e,d,f,k,-,-,-,-,-,-,g,c,i⟩:=laid_sentinels2 (tp:=346) m Tryz.gErrR (by kernel_rfl) Tryz.gErrM (by kernel_rfl) Tryz.underlying71 Tryz.row7 Tryz.underlying346 Tryz.underlying348 rfl rfl Tryz.underlying9 (by kernel_rfl) (by kernel_rfl);refine⟨j,l,⟨?_,?_⟩,⟨g,⟨c0,e,c⟩,⟨c1,d,i⟩⟩⟩
 ·have:=World.var?_cell Tryz.gErrR f 0;exact this
 ·have:=World.var?_cell Tryz.gErrM k 0;exact this
theorem acw {P:Program} {w:Xh} {g:Nat} {t:YM} {k:IntKind} {zero:Array Xk} (h:w.ShapedOpen P) (o:g<P.globals.size)
 (r:((begin P (λ_ _=>0) default).world.heap[g]?).bind Obj.row?=some (zero,t)) (v:zero.size=1)
 (f:P.buildable t=true) (i:P.cellTypes P.depth t=some [t]) (q:P.underlying t=some (.int k)):∃n,w.cell? ⟨g,0,none⟩=some (.int k n):=by
 obtain⟨cs,j,s,e⟩:=h.1 g zero t o r;obtain⟨ts,b,_,l⟩:=e f;rw[i] at b
 cases b
 have c:0<cs.size:=by omega
 obtain⟨u,p,a⟩:=l 0 cs[0] (by simp[c]);have:u=t:=by simpa using p.symm
 subst this;have d:w.cell? ⟨g,0,none⟩=some cs[0]:=by simp[Xg,j,c]
 rw[d];unfold Cell.ok at a;rw[q] at a
 cases m:cs[0]<;>rw[m] at a<;>first|exact(by obtain⟨rfl,-⟩:=a;exact⟨_,rfl⟩)|(simp at a;done)|(simp at a;obtain⟨rfl,-⟩:=a;exact⟨_,rfl⟩)|(simp at a;subst a;exact⟨_,rfl⟩)
theorem abE {W:Xh} (h:W.ShapedOpen Tryz.prog):∃a,W.cell? ⟨4,0,none⟩=some (.int .i64 a):=
 acw (g:=4) (t:=3) (k:=.i64) (zero := #[.int .i64 0]) h (of_decide_eq_true (by kernel_rfl)) (by kernel_rfl) rfl (by kernel_rfl) (by kernel_rfl) Tryz.underlying3
theorem On {w:Xh} {a:YZ} {v:Xk} (h:w.cell? a=some v):a.block<w.heap.size:=by
 rcases afG a.block w.heap.size with b|b
 ·exact b
 ·simp[Xg,YU b] at h
theorem SM {w:Xh} {b:Nat} {o:Obj} (h:w.heap[b]?=some o):b<w.heap.size:=by
 rcases afG b w.heap.size with a|a
 ·exact a
 ·rw[YU a] at h;cases h
theorem UC {W:Xh} (h:laidMet Tryz.prog Rows.exploreAllRow.laid W) (j:W.ShapedOpen Tryz.prog):∃e c,XW W W.heap.size e c:=by
 obtain⟨e,c,f,g⟩:=adY h;have n:laidMet Tryz.prog NA W:=h.filter (λx => !(x.1 == "weave/explore.errRange" || x.1 == "weave/explore.errMany"));have b:=Vq n j;obtain⟨w,k⟩:=abE j;have s:=On f.r;have q:=On f.m;have p:=On k;obtain⟨c0,C,i⟩:=g.r;obtain⟨c1,E,l⟩:=g.m;have v:e.block<W.heap.size:=by
  rcases afG e.block W.heap.size with a|a
  ·exact a
  ·rw[YU a] at i;cases i
 have o:c.block<W.heap.size:=by
  rcases afG c.block W.heap.size with a|a
  ·exact a
  ·rw[YU a] at l;cases l
 have t:6<=W.heap.size:=by
  obtain⟨D,y⟩:=b.heads;obtain⟨z,u⟩:=b.shapes;have B:=SM y;have A:=SM u;have F:5<W.heap.size:=by
   have d:=b.pow;unfold Lib.TabIs World.var? at d;rw[Tryz.powG] at d;simp only[Option.bind_some] at d
   rcases afG 5 W.heap.size with a|a
   ·exact a
   ·rw[YU a] at d;cases d
  omega
 exact⟨e,c,⟨b.heads,b.shapes,b.pow,t⟩,f,g,⟨w,k⟩,⟨s,q,p⟩,⟨v,o⟩⟩
end Go.Proofs.YtdcacoifehkioaaGreatDoor
namespace Go.Proofs.YtdcacoifehkioaaGreatDoor
open Go.ChangeShapes Go.WideShapes Go.ChangeAt Go.RowKit Go.Proofs.Cod
set_option linter.unusedVariables false
noncomputable def Nz (os:Os):Xh:=
 let w0:=World.holding Tryz.prog os ⟨#[.cells #[.string (LG Rows.laid_strconv_ErrRange)] 348,.cells #[.string (LG Rows.laid_strconv_ErrSyntax)] 348,.cells #[.string (LG Rows.laid_weave_explore_errRange)] 348,.cells #[.string (LG Rows.laid_weave_explore_errMany)] 348],#[],[]⟩
 {w0 with heap:=((((((((((w0.heap.modify 8 (Gc (Kq Rows.laid_math_bits_deBruijn32tab))).modify 9 (Gc (Kq Rows.laid_math_bits_deBruijn64tab))).modify 5 (Gc (Kq Rows.laid_internal_strconv_uint64pow10))).modify 7 (Gc (Oi Rows.laid_unicode_utf8_acceptRanges))).modify 11 (Gc #[.iface 346 (.pointer (some ⟨low,0,none⟩))])).modify 10 (Gc #[.iface 346 (.pointer (some ⟨low+1,0,none⟩))])).modify 2 (Gc (Oi Rows.laid_weave_code_headings))).modify 3 (Gc (Oi Rows.laid_weave_code_shapes))).modify 6 (Gc (Kq Rows.laid_unicode_utf8_first))).modify 0 (Gc #[.iface 346 (.pointer (some ⟨low+2,0,none⟩))])).modify 1 (Gc #[.iface 346 (.pointer (some ⟨low+3,0,none⟩))])}
theorem acv {n:Int} (h:(Lit.int .i64 n).wf=true) : -9223372036854775808<=n/\n<=9223372036854775807:=by
 have h:(decide (aeR.min<=n)&&decide (n<=aeR.max))=true:=h;have b:aeR.min = -9223372036854775808:=by decide
 have a:aeR.max=9223372036854775807:=by decide
 rw[Bool.and_eq_true,b,a] at h
 exact⟨of_decide_eq_true h.1,of_decide_eq_true h.2⟩
end Go.Proofs.YtdcacoifehkioaaGreatDoor
namespace Go.Proofs.YtdcacoifehkioaaGreatDoor
open Go.RowKit Go.Shelf Go.Proofs.Cod
theorem RQ:∀(i:Nat) (a b:Tx),a.take i=b.take i->i<=a.length->i<=b.length->AR a b=AR (a.drop i) (b.drop i)
 |0,_,_,_,_,_=>rfl
 |i+1,[],_,_,h,_=>by cases h
 |i+1,_::_,[],_,_,h=>by cases h
 |i+1,x::a,y::b,h,h1,h2=>by
  rw[agv,agv] at h;injection h with e1 e2
  rw[e1];show (if y=y then AR a b else decide (y<y))=_;rw[if_pos rfl];exact RQ i a b e2 (by simpa using h1) (by simpa using h2)
theorem abM (x y:UInt8) (l r:Tx):AR (x::l) (y::r)=if x=y then AR l r else decide (x<y):=rfl
theorem LJ {a:Tx} {i:Nat} (h:i<a.length):a.drop i=a[i]::a.drop (i+1):=List.drop_eq_getElem_cons h
theorem ab3 (a b:Tx) (w:Xh) (J:a.length<4294967296) (G:b.length<4294967296) :
 XX Tryz.prog 71 #[.string (bs a),.string (bs b)] w λe w'=>e = .returned (.bool (AR a b))/\Xm w.heap.size w w':=by
 have H:(bs a).size=a.length:=Ba a;have M:(bs b).size=b.length:=Ba b
 go_enter Tryz.func71,Tryz.ntmps71
 go_wp2_with fail
 go_loopw [5] (λs wr=>∃i:Nat,i<=a.length/\i<=b.length/\s = .int .i64 i/\a.take i=b.take i/\Xm w.heap.size w wr) (λs _=>a.length - (intOf s).toNat)
 case atStart=>exact⟨0,Xw _,Xw _,rfl,rfl,Xq _ _⟩
 case round=>
  obtain⟨i,l,m,rfl,g,c⟩:=hrel;have d:=RQ i a b g l m;have v:XO ((i:Int)+1)=(i:Int)+1:=by unfold XO;omega
  by_cases j:i<a.length
  ·have D:decide ((i:Int)<(a.length:Int))=true:=decide_eq_true (by omega);have K:(i:Int)<(a.length:Int):=by omega
   by_cases r:i<b.length
   ·have B:decide ((i:Int)<(b.length:Int))=true:=decide_eq_true (by omega);have I:(i:Int)<(b.length:Int):=by omega
    rw[LJ j,LJ r] at d;have p:a[i]=b[i]->a.take (i+1)=b.take (i+1):=λe=>by
     rw[Yh,Yh,g,Xe j,Xe r,e]
    obtain⟨x,n⟩:∃x,a[i]=x:=⟨_,rfl⟩;obtain⟨y,o⟩:∃x,b[i]=x:=⟨_,rfl⟩;have A:∀h,(bs a)[i]'h=x:=λh=>(Dj a i h).trans n;have E:∀h,(bs b)[i]'h=y:=λh=>(Dj b i h).trans o;rw[n,o] at d p;rw[abM] at d
    by_cases e:x=y
    ·subst e;have k:Hid (i+1<=a.length/\i+1<=b.length/\a.take (i+1)=b.take (i+1)/\∀q,Xm w.heap.size w (wr.drewN q)):=⟨j,r,p rfl,λq=>⟨c.os,c.tape,c.output,c.size,c.block⟩⟩;have C:((x.toNat:Int) != (x.toNat:Int))=false:=by simp
     clear l m g c d p n o
     go_wp2_with fail
     go_quiet (fail)
     clear A E
     go_wp2_with fail
     go_roundw
     case rel=>
      (try rw[v])
      exact⟨i+1,k.out.1,k.out.2.1,rfl,k.out.2.2.1,k.out.2.2.2 _⟩
     case measure=>
      (try rw[v])
      exact Nat.sub_lt_sub_left k.out.1 (Nat.lt_succ_self i)
    ·have C:((x.toNat:Int) != (y.toNat:Int))=true:=by
      have:x.toNat≠y.toNat:=λz=>e (UInt8.toNat_inj.1 z);simp only[bne_iff_ne,ne_eq]
      omega
     rw[if_neg e] at d;have t:decide (x.toNat<y.toNat)=decide (x<y):=by
      by_cases z:x.toNat<y.toNat
      ·rw[decide_eq_true z,decide_eq_true (show x<y from z)]
      ·rw[decide_eq_false z,decide_eq_false (show ¬x<y from z)]
     have f:Hid (decide (x.toNat<y.toNat)=AR a b/\∀q u,Xm w.heap.size w ((wr.drewN q).drewN u)):=⟨by rw[t,<-d],λq u=>⟨c.os,c.tape,c.output,c.size,c.block⟩⟩;clear l m g c d p n o t e
     go_wp2_with fail
     go_quiet (fail)
     go_wp2_with fail
     go_quiet (fail)
     go_wp2_with fail
     go_ret
     exact⟨congrArg (λz=>YG (.bool z)) f.out.1,f.out.2 _ _⟩
   ·have B:decide ((i:Int)<(b.length:Int))=false:=decide_eq_false (by omega);have f:Hid (decide (a.length<b.length)=AR a b/\Xm w.heap.size w wr):=by
     refine⟨?_,c⟩;have e:b.drop i=[]:=YT (afs r);rw[d,LJ j,e,decide_eq_false (by omega)]
     rfl
    clear l m g c d
    go_wp2_with fail
    go_ret
    exact⟨congrArg (λz=>YG (.bool z)) f.out.1,f.out.2⟩
  ·have F:i=a.length:=by omega
   have D:decide ((i:Int)<(a.length:Int))=false:=decide_eq_false (by omega);have f:Hid (decide (a.length<b.length)=AR a b/\Xm w.heap.size w wr):=by
    refine⟨?_,c⟩;have e:a.drop i=[]:=YT (afs j);rw[d,e]
    by_cases z:i<b.length
    ·rw[LJ z,decide_eq_true (by omega)];rfl
    ·rw[YT (by omega),decide_eq_false (by omega)];rfl
   clear l m g c d
   go_wp2_with fail
   go_ret
   exact⟨congrArg (λz=>YG (.bool z)) f.out.1,f.out.2⟩
end Go.Proofs.YtdcacoifehkioaaGreatDoor
