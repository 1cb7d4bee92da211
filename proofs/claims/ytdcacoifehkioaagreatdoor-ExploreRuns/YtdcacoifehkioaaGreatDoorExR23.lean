import Derived.Test.YtdcacoifehkioaaGreatDoorExR20
import Derived.Test.YtdcacoifehkioaaGreatDoorExR22
import Derived.LaidEql
import Derived.Stop.Asserts
import Derived.RowKitTokens
import Derived.Test.YtdcacoifehkioaaGreatDoorExR14
import Derived.Shelf.SlIter.Nil
import Derived.Shelf.SlIterI.Nil
import Derived.Shelf.SortM.Plain
import Derived.Shelf.SortM.SortNone
import Derived.Shelf.Lay
import Derived.Ground.GgzProg
import Derived.Ground.SlgmProg
import Derived.Maps.OwnSet
import Derived.Lib.SlKeysI
import Derived.Test.YtdcacoifehkioaaGreatDoorExR13
import Derived.Stop.LaidTwo
import Derived.Deep.QuietTactic
open Go renaming World->Xg,Calls->X3,maxLen->Z5,Addr->Y7,Value->Xj,TypeId->YD,run_typeAssert_lacksB->adt,run_callFunc_extern->ZL,callsIn_wide->XT,MapEntry->YT,CallsIn->adL,Rows->adC
open Go.Lib renaming join->YP
open List renaming map_map->Ze,getElem?_map->Xp,length_map->Xm,length_append->Xd,map_append->XH,append_nil->Yf,getElem?_eq_some_iff->Xe,mem_cons->XL,pairwise_cons->Zh,mem_cons_self->Yc,mem_cons_of_mem->Yk,pairwise_map->Z3,mem_map->Yg,mergeSort_perm->ac5,mem_append->XX,mem_singleton->XR,mem_append_left->YM
open Option renaming map_eq_some_iff->Yn,ne_none_iff_exists'->adP
open Go.Value renaming string->Yl,int->YB
open Nat renaming mul_one->adM,le_succ->adJ,le_refl->Xf,lt_of_lt_of_le->XF,le_trans->Xu,lt_or_ge->Z1
open Array renaming getElem?_eq_some_iff->Xa,getElem?_eq_none->YJ
open Go.RowKit.Below renaming refl->Xo,heap_alloc->Xq
open Go.World renaming alloc_heap_new->Xi,cell?->Xh
open Go.Extern.ReflectliteType renaming typeOf->ZQ
open Bool renaming false_eq_true->Y1,not_eq_true'->adg
open Go.Fence renaming wide->Ye
open Go.Maps renaming size->adN
set_option maxRecDepth 100000
set_option maxHeartbeats 2000000
set_option linter.unusedVariables false
set_option linter.unusedSimpArgs false
namespace Go.Proofs.YtdcacoifehkioaaGreatDoor
open Go.RowKit Go.Shelf Go.Proofs.Cod
theorem TC (s:ByteArray) (n:Nat) (a:Int) (w:Xg) (b:s.size<4294967281) (d:w.cell? ⟨4,0,none⟩=some (.int .i64 a)) (g:n<=s.size) (f:n<=8) :
 X3 Tryz.prog 57 #[.string s,.string ⟨#[10]⟩,.int .i64 ((n:Int)+1)] w λe w'=>e = .returned (.slice (some ⟨w.heap.size,0,none⟩) (Lib.splitB ⟨#[10]⟩ 0 n s).length (n+1))/\w'=w.alloc (.cells (Lib.cellsOf (Lib.splitB ⟨#[10]⟩ 0 n s) (n+1)) 9):=by
 have c:=Any.strings_SplitN Tryz.lays147 Tryz.hi147 s ⟨#[10]⟩ (n+1) a w b d (by decide) (by omega) (by omega);rw[show min (n+1) (s.size+1)=n+1 by omega,Nat.add_sub_cancel] at c;exact c
theorem Qp (b c:Nat) (a:List Tx) (w:Xg) (h:∀(j:Nat) x,a[j]?=some x->w.cell? ⟨b,j,none⟩=some (.string (bs x))) (g:b<w.heap.size) (m:a.length<=9) (l:a.length<=c) (k:(YP a [32]).length<=140737488355328) :
 X3 Tryz.prog 58 #[.slice (some ⟨b,0,none⟩) a.length c,.string ⟨#[32]⟩] w λe w'=>e = .returned (.string (bs (YP a [32])))/\Below w.heap.size w w':=by
 have d:(a.map bs).map (λx=>x.data.toList)=a:=by
  rw[Ze];have:(λx:ByteArray=>x.data.toList) ∘ bs=id:=by funext x;unfold bs;rfl
  rw[this,List.map_id]
 have q:=Any.strings_Join Tryz.lays156 Tryz.extra156 b 0 c (a.map bs) ⟨#[32]⟩ w (λj x f=>by
  rw[Xp] at f;obtain⟨y,i,rfl⟩:=Yn.1 f;rw[Nat.zero_add];exact h j y i) g (by rw[Xm];omega) (by rw[Xm];exact l) (by rw[d];exact k)
 rw[d,Xm] at q;exact q
theorem Qd {a b c:Nat} (e:a<=b) (f:b<=c+6) (d:c<4294967000):a<=140737488355328:=by omega
theorem Qr {p:PD} {m:MS} (h:(Aj p m).length<4294967000):(YP (Bb p m) [32]).length<=140737488355328/\(YP (Bb p m++[Er]) [32]).length<=140737488355328:=by
 obtain⟨r,d⟩:=Lg p m;have e:(Aj p m).length=((Bb p m).flatMap (λx=>x++[10])).length+r.length:=by rw[d,Xd]
 have i:((Bb p m++[Er]).flatMap (λx=>x++[10])).length=((Bb p m).flatMap (λx=>x++[10])).length+6:=by rw[List.flatMap_append,Xd];rfl
 generalize ((Bb p m).flatMap (λx=>x++[10])).length=a at *;have g:=Kh (Bb p m);have f:=Kh (Bb p m++[Er]);rw[i] at f
 exact⟨Qd g (b:=((Bb p m).flatMap (λx=>x++[10])).length) (c:=(Aj p m).length) (by rw[d,Xd];omega) h,Qd f (c:=(Aj p m).length) (by omega) h⟩
theorem Ua {b:Xg} {base sb n:Nat} {ls:List Tx} {e:Tx} (c:b.heap[sb]?=some (.cells ((ls++[e]).map λx=>Yl (bs x)).toArray 9)) (a:ls.length=n) (f:n<=8) (d:base<=sb) :
 b.ownsRow base 9 1 (.slice (some ⟨sb,0,none⟩) n (n+1)) n (ls.map λx=>Yl (bs x)):=by
 refine⟨by rw[Xm,a,adM],.inr ⟨sb,n+1,_,rfl,d,c,adJ _,by unfold Z5;omega,?_,?_⟩⟩
 ·rw[List.size_toArray,Xm,Xd,a,adM];rfl
 ·rw[XH,adM];exact List.take_left' (by rw[Xm];exact a)
theorem SA {a b n:Nat} (h:a+b=n) (c:n<=8):wrap64 ((a:Int)+(b:Int))=(n:Int)/\wrap64 ((n:Int)+1)=(n:Int)+1:=by
 constructor<;>unfold wrap64<;>omega
theorem Pj {w:Xg} {b vn fn_ vc fc:Nat} {va fa:Option Y7} {mv mo fr nx lV tV:Xj} {y mx:Int} {f:Bool} {p:PD} {m:MS} (h:AP w b mv (Aj p m) (AB m) f mo fr y nx) (hn:Gt p) (hM:Bt p m) (Y:BL p) (E:(Aj p m).length<4294967000) (Z:w.cell? ⟨4,0,none⟩=some (.int .i64 mx)) (aL:vn=p.vs.length) (aD:fn_=p.fs.length) :
 X3 Tryz.prog 26 #[Ab b,.agg #[.slice va vn vc,.slice fa fn_ fc,lV,tV]] w λe w'=>e = .returned (.string (bs (BD p m)))/\Below w.heap.size w w':=by
 obtain⟨K,ae,aa⟩:=Tt hn hM;have c:=IW p m;have D:=Y.v;have A:=Y.f;obtain⟨aF,H⟩:=Qr E;have ab:b<w.heap.size:=(Xa.1 h).1;have M:4<w.heap.size:=World.block_lt_of_cell? _ _ Z;obtain⟨W,I⟩:∃W,w.alloc (.cells #[.slice va vn vc,.slice fa fn_ fc,lV,tV] 25)=W:=⟨_,rfl⟩;have C:Below w.heap.size w W:=by rw[<-I];exact(Xo _ _).alloc (Xf _) _
 have kp:W.heap[w.heap.size]?=some (.cells #[.slice va vn vc,.slice fa fn_ fc,lV,tV] 25):=by rw[<-I];exact Xi w _
 obtain⟨p0,p1,p2,p3⟩:=Df kp;have hS:=(C.block b ab).trans h;obtain⟨-,s1,s2,-⟩:=CT hS;have aE:=(C.cell (p:=⟨4,0,none⟩) M).trans Z;obtain⟨n,l⟩:∃n,p.vs.length+p.fs.length=n:=⟨_,rfl⟩;rw[l] at ae aa c;have o:n<=8:=by rw[<-l];exact Nat.add_le_add D A
 have t:=TC (bs (Aj p m)) n mx W (by rw[AY];exact Nat.lt_trans E (by decide)) aE aa o;rw[ae] at t;rw[Xm,Xd,c,show (([K]:List Tx)).length=1 from rfl] at t;have aP:Lib.cellsOf ((Bb p m++[K]).map bs) (n+1)=((Bb p m++[K]).map λx=>Yl (bs x)).toArray:=by
  unfold Lib.cellsOf;rw[Xm,Xd,c,show (([K]:List Tx)).length=1 from rfl,Nat.sub_self,List.replicate_zero,Yf,Ze]
  rfl
 rw[aP] at t;obtain⟨i,R⟩:∃i,W.alloc (.cells ((Bb p m++[K]).map λx=>Yl (bs x)).toArray 9)=i:=⟨_,rfl⟩;rw[R] at t;have af:Below W.heap.size W i:=by rw[<-R];exact(Xo _ _).alloc (Xf _) _
 have S:i.heap[W.heap.size]?=some (.cells ((Bb p m++[K]).map λx=>Yl (bs x)).toArray 9):=by rw[<-R];exact Xi W _
 obtain⟨sb,X⟩:∃x,W.heap.size=x:=⟨_,rfl⟩;rw[X] at t S;have d:Below w.heap.size w i:=C.trans (af.mono C.size);obtain⟨-,-,t2,-⟩:=CT ((af.block b (XF ab C.size)).trans hS);obtain⟨an,aY⟩:=SA (a:=vn) (b:=fn_) (by rw[aL,aD];exact l) o;have r:i.ownsRow w.heap.size 9 1 (.slice (some ⟨sb,0,none⟩) n (n+1)) n ((Bb p m).map λx=>Yl (bs x)):=Ua S c o (by rw[<-X];exact C.size);have ak:sb<i.heap.size:=(Xa.1 S).1;have J:∀(j:Nat) x,(Bb p m)[j]?=some x->i.cell? ⟨sb,j,none⟩=some (.string (bs x)):=λj x Q=>by
  have U:=(Xe.1 Q).1;rw[r.cellAt j (by rw[adM,<-c];exact U),Xp,Q];rfl
 have s:AB m=0->BD p m=YP (Bb p m) [32]:=λz=>by unfold BD;rw[if_neg (by omega),Yf]
 have q:0<AB m->BD p m=YP (Bb p m++[Er]) [32]:=λz=>by unfold BD;rw[if_pos z]
 have N:=Qp sb (n+1) (Bb p m) i J ak (by rw[c];exact Nat.le_succ_of_le o) (by rw[c];exact adJ n) aF;rw[c] at N;obtain⟨pc,k⟩:∃x,w.heap.size=x:=⟨_,rfl⟩;rw[k] at p0 p1 p2 p3;obtain⟨G,F⟩:∃x,AB m=x:=⟨_,rfl⟩;rw[F] at s2 t2 s q;obtain⟨sh,am⟩:∃x,Aj p m=x:=⟨_,rfl⟩;rw[am] at s1 t;obtain⟨O,hO⟩:∃x,BD p m=x:=⟨_,rfl⟩;rw[hO] at s q |-;have HP:=Aa (⟨d,r,J,s,q,H,c,E,k,D,A,l⟩:_/\_/\_/\_/\_/\_/\_/\_/\_/\_/\_/\_);replace I:=Aa I;replace k:=Aa k;replace an:=an;clear h hn hM Y Z aL aD ae aa c D A aF H o E ab M C kp hS aE l aP R af S X d r ak J s q F am hO;unfold Ab
 go_enter Tryz.func26,Tryz.ntmps26
 go_upto_region 1 with fail
 try rw[I.out]
 try rw[k.out]
 clear I k
 go_wp2_with fail
 refine t.mono ?_;rintro e w2 ⟨rfl,he⟩;rw[he];clear he t s1 s2 p0 p1 p2 p3;obtain⟨d,r,J,s,q,H,c,E,k,D,A,l⟩:=HP.out;have o:n<=8:=by rw[<-l];exact Nat.add_le_add D A
 by_cases F:0<G
 ·have d1:decide ((0:Int)<(G:Int))=true:=decide_eq_true (by omega);have d2:(0:Int)<(G:Int):=by omega
  have d3:decide (0<G)=true:=decide_eq_true F;obtain⟨i0,hi,az,aB,aN⟩:=info_parts Tryz.infoStrX;obtain⟨g,cap,w3,aj,T,ro,rt,rp,rz,rb,rg⟩:=IX r Tryz.underlying22 hi az aB aN rfl (by omega) [.string (bs Er)] rfl (by intro u hu;simp at hu;subst hu;rfl) 22 (by omega) d.size;have aK:Below w.heap.size w w3:=⟨ro.trans d.os,rt.trans d.tape,rp.trans d.output,by have:=d.size;omega,λx hx=>(rb x (XF hx d.size) (λe=>by have:=(r.lt x e).1;omega)).trans (d.block x hx)⟩;have M:=(T.lt g rfl).2;have aG:n+1<=cap:=by
   rcases id T.2 with⟨z,-⟩|⟨g',a3,a2,z,-,-,h3,-⟩
   ·cases z
   ·injection z with _ _ z
    rw[z];exact h3
  have ac:=Qp g cap (Bb p m++[Er]) w3 (λj x Q=>by
   have U:=(Xe.1 Q).1;rw[Xd,c,show (([Er]:List Tx)).length=1 from rfl] at U;rw[T.cellAt j (by rw[adM];exact U)];have e:(Bb p m).map (λx=>Yl (bs x))++[Yl (bs Er)]=(Bb p m++[Er]).map λx=>Yl (bs x):=by rw[XH];rfl
   rw[e,Xp,Q];rfl) M (by rw[Xd,c];exact Nat.succ_le_succ o) (by rw[Xd,c];exact aG) H
  rw[Xd,c,show (([Er]:List Tx)).length=1 from rfl,<-q F] at ac;have B:=Aa aK;have aU:i.heap.size=i.heap.size:=rfl;clear aU d r J s q H c E k D A l o F hi az aB aN T ro rt rp rz rb rg aK M aG HP N;unfold Er bs at aj
  go_wp2_with (at_builtin;refine Eq rfl _ _ _ rfl rfl rfl rfl aj ?_)
  refine ac.mono ?_;rintro e w4 ⟨rfl,P⟩;have V:=Aa (B.out.trans (P.mono B.out.size));clear ac B P
  go_wp2_with fail
  go_ret
  exact⟨rfl,V.out⟩
 ·have aT:G=0:=by omega
  subst aT;have d1:decide ((0:Int)<((0:Nat):Int))=false:=by decide
  rw[<-s rfl] at N;have B:=Aa d;clear d r J s q H c E k D A l o F HP
  go_wp2_with fail
  refine N.mono ?_;rintro e w4 ⟨rfl,P⟩;have V:=Aa (B.out.trans (P.mono B.out.size));clear N B P
  go_wp2_with fail
  go_ret
  exact⟨rfl,V.out⟩
end Go.Proofs.YtdcacoifehkioaaGreatDoor
namespace Go.Proofs.YtdcacoifehkioaaGreatDoor
open Go.RowKit Go.Extern.Stop Go.Stop Go.Extern Go.Shelf
def MJ:Array Xj->Sem Xj:=Extern.ReflectliteType.method λt=>do
 Extern.Rtype.noPackHeld "Comparable" t
 pure (.bool (<-typeInfo t).comparable)
theorem Tryz.isTypeOf (v:Xj) (w:Xg):(ZQ #[.iface 346 v]).run Tryz.prog w = .ok (.iface 251 (.agg #[.pointer (some ⟨12,346,none⟩)])) w:=by kernel_rfl
theorem Tryz.isComparable (w:Xg):(MJ #[.agg #[.pointer (some ⟨12,346,none⟩)]]).run Tryz.prog w = .ok (.bool true) w:=by kernel_rfl
theorem Tryz.isComp:(Tryz.prog.info? 346).map (·.comparable)=some true:=by kernel_rfl
theorem Tryz.isSize:(Tryz.prog.info? 348).map (·.size)=some 1:=by kernel_rfl
theorem Tryz.noIsE (v:Xj) (a:YD) (w:Xg):(Instr.typeAssert (.iface 346 v) a 253 true).run Tryz.prog w = .ok (.tuple #[.nilIface,.bool false]) w:=adt Tryz.underlying253 (by kernel_rfl) (by kernel_rfl) v a w
theorem Tryz.noUnwrapE (v:Xj) (a:YD) (w:Xg):(Instr.typeAssert (.iface 346 v) a 256 true).run Tryz.prog w = .ok (.tuple #[.nilIface,.bool false]) w:=adt Tryz.underlying256 (by kernel_rfl) (by kernel_rfl) v a w
theorem Tryz.noUnwrapsE (v:Xj) (a:YD) (w:Xg):(Instr.typeAssert (.iface 346 v) a 258 true).run Tryz.prog w = .ok (.tuple #[.nilIface,.bool false]) w:=adt Tryz.underlying258 (by kernel_rfl) (by kernel_rfl) v a w
theorem Qt (a:Y7) (w:Xg) :
 X3 Tryz.prog 56 #[.iface 346 (.pointer (some a)),.iface 346 (.pointer (some a))] w λe w'=>e = .returned (.bool true)/\w'=w:=by
 obtain⟨i,b,c⟩:=Yn.1 Tryz.isComp;obtain⟨j,d,h⟩:=Yn.1 Tryz.isSize;have f:=@ZL Tryz.prog 117 _ ZQ Tryz.func117 (by kernel_rfl) (by kernel_rfl) (by kernel_rfl) (by kernel_rfl);have g:=@ZL Tryz.prog 264 _ MJ Tryz.func264 (by kernel_rfl) (by kernel_rfl) (by kernel_rfl) (by kernel_rfl);have m:=Tryz.isTypeOf;have k:=Tryz.isComparable;have l:=run_eql_iface_ptr_same (P:=Tryz.prog) w a Tryz.underlying71 Tryz.underlying346 b c d
 go_enter Tryz.func56,Tryz.ntmps56
 go_wp2
 refine wp_loop_rounds 1 ?_;rw[rounds_succ]
 go_wp2
 go_ret
 exact⟨rfl,rfl⟩
theorem aaa (a b:Y7) (ca c:Array Xj) (ta f:YD) (w:Xg) (m:a≠b) (g:w.heap[a.block]?=some (.cells ca ta (0,0))) (l:w.heap[b.block]?=some (.cells c f (0,0))) :
 X3 Tryz.prog 56 #[.iface 346 (.pointer (some a)),.iface 346 (.pointer (some b))] w λe w'=>e = .returned (.bool false)/\w'=w:=by
 obtain⟨i,h,k⟩:=Yn.1 Tryz.isComp;obtain⟨j,n,d⟩:=Yn.1 Tryz.isSize;have p:=@ZL Tryz.prog 117 _ ZQ Tryz.func117 (by kernel_rfl) (by kernel_rfl) (by kernel_rfl) (by kernel_rfl);have r:=@ZL Tryz.prog 264 _ MJ Tryz.func264 (by kernel_rfl) (by kernel_rfl) (by kernel_rfl) (by kernel_rfl);have u:=Tryz.isTypeOf;have t:=Tryz.isComparable;have o:=Tryz.noIsE;have v:=Tryz.noUnwrapE;have q:=Tryz.noUnwrapsE;have s:=run_eql_iface_ptr_other (P:=Tryz.prog) w Tryz.underlying71 Tryz.underlying346 h k n (by rw[d];decide) m g l
 go_enter Tryz.func56,Tryz.ntmps56
 go_wp2
 refine wp_loop_rounds 1 ?_;rw[rounds_succ]
 go_wp2
 go_ret
 exact⟨rfl,rfl⟩
structure Nf (w:Xg) (er em:Y7):Prop where
 ne:er≠em
 r:∃c t,w.heap[er.block]?=some (.cells c t (0,0))
 m:∃c t,w.heap[em.block]?=some (.cells c t (0,0))
def Ce (er em:Y7) (b:Bool):Xj:=.iface 346 (.pointer (some (if b then em else er)))
def DB (b:Bool):Int:=if b then 4 else 8
theorem Pm {w:Xg} {c a:Y7} (h:Nf w c a) (l:GY w (Ce c a)) (b:Bool) :
 X3 Tryz.prog 24 #[Ce c a b] w λe w'=>e = .returned (.int .i64 (DB b))/\w'=w:=by
 obtain⟨q,⟨m,o,f⟩,⟨n,p,g⟩⟩:=h;obtain⟨j,i⟩:=l;unfold Ce DB at *
 cases b with
 |false=>
  have d:=Qt c w;clear f g;simp only[Y1,if_false,if_true] at j i |-
  go_enter Tryz.func24,Tryz.ntmps24
  go_wp2_with fail
  refine d.mono ?_;rintro e w' ⟨rfl,rfl⟩
  go_wp2_with fail
  go_ret
  exact⟨rfl,rfl⟩
 |true=>
  have d:=aaa a c n m p o w (λe=>q e.symm) g f;have k:=Qt a w;clear f g;simp only[Y1,if_false,if_true] at j i |-
  go_enter Tryz.func24,Tryz.ntmps24
  go_wp2_with fail
  refine d.mono ?_;rintro e w' ⟨rfl,rfl⟩
  go_wp2_with fail
  refine k.mono ?_;rintro e w' ⟨rfl,rfl⟩
  go_wp2_with fail
  go_ret
  exact⟨rfl,rfl⟩
end Go.Proofs.YtdcacoifehkioaaGreatDoor
namespace Go.Proofs.YtdcacoifehkioaaGreatDoor
open Go.RowKit Go.Proofs.Cod
def Bc:Tx->Tx->Bool
 |[],[]=>false
 |[],_::_=>true
 |_::_,[]=>false
 |a::l,b::r=>if a=b then Bc l r else decide (a<b)
theorem Kb:∀a:Tx,Bc a a=false
 |[]=>rfl
 |a::l=>by unfold Bc;rw[if_pos rfl];exact Kb l
theorem Ka:∀a b:Tx,Bc a b=false->Bc b a=false->a=b
 |[],[],_,_=>rfl
 |[],_::_,h,_=>by cases h
 |_::_,[],_,h=>by cases h
 |a::l,b::r,c,d=>by
  unfold Bc at c d
  by_cases e:a=b
  ·subst e;rw[if_pos rfl] at c d;rw[Ka l r c d]
  ·rw[if_neg e] at c;rw[if_neg (λq=>e q.symm)] at d;have c:=of_decide_eq_false c;have d:=of_decide_eq_false d;have f:¬a.toNat<b.toNat:=c;have g:¬b.toNat<a.toNat:=d;exact absurd (UInt8.toNat_inj.1 (by omega)) e
theorem Ja:∀a b c:Tx,Bc a b=true->Bc b c=true->Bc a c=true
 |_,[],[],_,h=>by cases h
 |[],[],_::_,h,_=>by cases h
 |[],_::_,[],_,h=>by cases h
 |[],_::_,_::_,_,_=>rfl
 |_::_,[],_::_,h,_=>by cases h
 |_::_,_::_,[],_,h=>by cases h
 |a::l,b::m,c::r,h1,h2=>by
  unfold Bc at h1 h2 |-
  by_cases e:a=b
  ·subst e;rw[if_pos rfl] at h1
   by_cases d:a=c
   ·subst d;rw[if_pos rfl] at h2 |-;exact Ja l m r h1 h2
   ·rw[if_neg d] at h2 |-;exact h2
  ·rw[if_neg e] at h1
   by_cases d:b=c
   ·subst d;rw[if_neg e];exact h1
   ·rw[if_neg d] at h2;have i:a.toNat<b.toNat:=of_decide_eq_true h1;have g:b.toNat<c.toNat:=of_decide_eq_true h2;have f:a≠c:=λq=>by subst q;omega
    rw[if_neg f];exact decide_eq_true (show a.toNat<c.toNat by omega)
def FM (l:List Tx):Prop:=l.Pairwise λa b=>Bc a b=true
def EO (s:Tx):List Tx->List Tx
 |[]=>[s]
 |a::r=>if a=s then a::r else if Bc s a=true then s::a::r else a::EO s r
theorem LQ (s x:Tx):∀l,x∈EO s l↔x=s\/x∈l
 |[]=>by unfold EO;simp
 |a::r=>by
  unfold EO
  by_cases e:a=s
  ·rw[if_pos e,<-e]
   simp
  ·rw[if_neg e]
   by_cases q:Bc s a=true
   ·rw[if_pos q];simp
   ·rw[if_neg q,XL,XL,LQ s x r];constructor
    ·rintro(h|h|h)
     ·exact .inr (.inl h)
     ·exact .inl h
     ·exact .inr (.inr h)
    ·rintro(h|h|h)
     ·exact .inr (.inl h)
     ·exact .inl h
     ·exact .inr (.inr h)
theorem No (s:Tx):∀{l},FM l->FM (EO s l)
 |[],_=>by unfold EO;exact List.pairwise_singleton _ _
 |a::r,h=>by
  have⟨d,f⟩:=Zh.1 h;unfold EO
  by_cases e:a=s
  ·rw[if_pos e];exact h
  ·rw[if_neg e]
   by_cases q:Bc s a=true
   ·rw[if_pos q];refine Zh.2 ⟨λb c=>?_,h⟩
    rcases XL.1 c with rfl|c
    ·exact q
    ·exact Ja s a b q (d b c)
   ·rw[if_neg q];refine Zh.2 ⟨λb c=>?_,No s f⟩
    rcases (LQ s b r).1 c with rfl|c
    ·cases w:Bc a b with
     |true=>rfl
     |false=>exact absurd (Ka a b w (Bool.eq_false_iff.2 q)) e
    ·exact d b c
theorem Lt:∀{l r:List Tx},FM l->FM r->(∀x,x∈l↔x∈r)->l=r
 |[],[],_,_,_=>rfl
 |[],b::r,_,_,h=>absurd ((h b).2 (Yc ..)) (by simp)
 |a::l,[],_,_,h=>absurd ((h a).1 (Yc ..)) (by simp)
 |a::l,b::r,h1,h2,h=>by
  have⟨f,o⟩:=Zh.1 h1;have⟨i,n⟩:=Zh.1 h2;have e:a=b:=by
   rcases XL.1 ((h a).1 (Yc ..)) with e|e
   ·exact e
   ·rcases XL.1 ((h b).2 (Yc ..)) with d|d
    ·exact d.symm
    ·have w1:=i a e;have p:=f b d;have:=Ja a b a p w1;rw[Kb] at this
     cases this
  subst e;have g:∀{m:List Tx},(∀x,x∈m->Bc a x=true)->a∉m:=λj k=>by
   have:=j a k;rw[Kb] at this
   cases this
  rw[Lt o n λx=>?_];constructor
  ·intro c
   rcases XL.1 ((h x).1 (Yk _ c)) with e|e
   ·subst e;exact absurd c (g f)
   ·exact e
  ·intro c
   rcases XL.1 ((h x).2 (Yk _ c)) with e|e
   ·subst e;exact absurd c (g i)
   ·exact e
end Go.Proofs.YtdcacoifehkioaaGreatDoor
namespace Go.Proofs
open Go.RowKit Go.Maps Go.Sort Go.Shelf
shelf_lay_g SlLaysZI.n7 Ggz 7 at Tryz 31 as Tryz.keysI
shelf_lay_g SlLaysZI.n6 Ggz 6 at Tryz 30 as Tryz.sortedI
shelf_lay_g SlLaysM.n5 Slgm 5 at Tryz 64 as Tryz.sortI
shelf_lay_g SlLaysZ.n7 Ggz 7 at Tryz 29 as Tryz.keysS
shelf_lay_g SlLaysZ.n6 Ggz 6 at Tryz 28 as Tryz.sortedS
shelf_lay_g SlLaysM.n6 Slgm 6 at Tryz 61 as Tryz.sortS
theorem Tryz.sortsI (m:Nat):AnyZI.SortsIn Tryz.prog Tryz.sortedI_ren Ye m:=
 ⟨λd c cap e W b f a=>XT.2 (AnyM.slices_Sort_int Tryz.sortI d c cap e W b f a),
  λp cap W=>XT.2 (AnyM.slices_Sort_int_none Tryz.sortI p cap W)⟩
theorem Tryz.sortsS (m:Nat):AnyZ.SortsIn Tryz.prog Tryz.sortedS_ren Ye m:=
 ⟨λd c cap e W b f a=>XT.2 (AnyM.slices_Sort_string Tryz.sortS d c cap e W b f a),
  λp cap W=>XT.2 (AnyM.slices_Sort_string_none Tryz.sortS p cap W)⟩
end Go.Proofs
namespace Go.Proofs.YtdcacoifehkioaaGreatDoor
open Go.RowKit Go.Shelf Go.Proofs.Cod Go.Maps Go.Sort
def FH (_:Xj):Option (DataW Unit×List MemPlace):=some (.nil,[])
def Iq (e:YT):Tx:=match e.key with
 |.string b=>b.data.toList
 |_=>[]
def Ir (e:YT):Int:=match e.key with
 |.int _ a=>a
 |_=>0
theorem WN {a:YT->Lit×DataW Unit} {l:List YT} {kf:YT->Tx} (h:∀e,e∈l->strOf (a e).1=kf e):(strKeys (.map ((l.map a).foldr DataW.insert []))).Perm (l.map kf):=by
 show (((l.map a).foldr DataW.insert []).map λp=>strOf p.1).Perm _;refine((WideShapes.sorted_perm _).map _).trans ?_;rw[Ze];exact List.Perm.of_eq (List.map_congr_left λe b=>h e b)
theorem WP {a:YT->Lit×DataW Unit} {l:List YT} {kf:YT->Int} (h:∀e,e∈l->Go.intOf (a e).1=kf e):(intKeys (.map ((l.map a).foldr DataW.insert []))).Perm (l.map kf):=by
 show (((l.map a).foldr DataW.insert []).map λp=>Go.intOf p.1).Perm _;refine((WideShapes.sorted_perm _).map _).trans ?_;rw[Ze];exact List.Perm.of_eq (List.map_congr_left λe b=>h e b)
theorem Av.Vw {w:Xg} {b n:Nat} {f:Tx->Option Xj} (h:Av sk w b f n) (G:∀x,f x≠none->x.length<=Z5) (p:n<=Z5) :
 ∃m:DataW Unit,w.ownsMap Tryz.prog 9 FH b n m/\adN m=n/\(strKeys m).Nodup/\∀x,x∈strKeys m↔f x≠none:=by
 obtain⟨j,t,I,q,r⟩:=h;have o:∀e,e∈j.toList->∃x:Tx,e.key = .string (bs x)/\f x=some e.val/\keyOf Tryz.prog 9 e.key=some (.string x):=λe g=>by
  obtain⟨x,d,i⟩:=q.mem e g;have d:e.key = .string (bs x):=d;refine⟨x,d,i,?_⟩;rw[d,keyOf_string Tryz.underlying9];unfold mapKey;rw[Tryz.underlying9];dsimp only;rw[if_pos (by rw[AY];exact G x (by rw[i];simp))]
  rfl
 have z:∀e,e∈j.toList->∃x:Tx,e.key = .string (bs x)/\f x=some e.val/\WideElems.rd Tryz.prog 9 FH e=some (.string x,.nil):=λe g=>by
  obtain⟨x,d,i,k⟩:=o e g
  exact⟨x,d,i,by simp[WideElems.rd,k,FH]⟩
 have F:WideElems.Fit Tryz.prog 9 FH j t:=⟨by rw[r];exact p,q.stamped,λe g=>by obtain⟨x,_,_,k⟩:=z e g;exact⟨_,k⟩⟩;have A:∀e,e∈j.toList->strOf (WideElems.rg Tryz.prog 9 FH e).1=Iq e:=λe g=>by
  obtain⟨x,d,_,k⟩:=z e g;rw[WideElems.rg_of k];unfold Iq;rw[d];rfl
 have u:=WN (l:=j.toList) (kf:=Iq) A;refine⟨_,⟨j,t,I,F,Nat.le_of_eq r,rfl⟩,?_,?_,λx=>?_⟩
 ·rw[Maps.size_eq,length_read,r]
 ·refine u.nodup_iff.2 ?_;refine Z3.2 ?_;have p:=q.stamped.2.2;rw[List.Nodup,Z3] at p;refine p.imp_of_mem λ{a c} E D C e=>C ?_;obtain⟨x,d,_⟩:=o a E;obtain⟨y,i,_⟩:=o c D;unfold Iq at e;rw[d,i] at e |-;have e:x=y:=e;rw[e]
 ·rw[u.mem_iff,Yg];constructor
  ·rintro⟨e,g,rfl⟩;obtain⟨y,d,i,_⟩:=o e g;unfold Iq;rw[d];show f y≠none;rw[i];simp
  ·intro H;obtain⟨v,B⟩:=adP.1 H;obtain⟨e,g,s⟩:=q.has x v B;have s:e.key = .string (bs x):=s
   exact⟨e,g,by unfold Iq;rw[s];rfl⟩
theorem Av.Vx {w:Xg} {b n:Nat} {f:Int->Option Xj} (h:Av ik w b f n) (G:∀x,f x≠none->0<=x/\x<1000) (p:n<=Z5) :
 ∃m:DataW Unit,w.ownsMap Tryz.prog 3 FH b n m/\adN m=n/\(intKeys m).Nodup/\∀x,x∈intKeys m↔f x≠none:=by
 obtain⟨k,s,I,q,r⟩:=h;have o:∀e,e∈k.toList->∃x,e.key = .int .i64 x/\f x=some e.val/\keyOf Tryz.prog 3 e.key=some (.int .i64 x):=λe g=>by
  obtain⟨x,d,i⟩:=q.mem e g;refine⟨x,d,i,?_⟩;rw[d];refine keyOf_int_mk Tryz.underlying3 ?_;obtain⟨J,K⟩:=G x (by rw[i];simp);have d:IntKind.i64.min<=x:=by show -9223372036854775808<=x;omega
  have j:x<=9223372036854775807:=by omega
  simp[Lit.wf,d,j]
 have u:∀e,e∈k.toList->∃x,e.key = .int .i64 x/\f x=some e.val/\WideElems.rd Tryz.prog 3 FH e=some (.int .i64 x,.nil):=λe g=>by
  obtain⟨x,d,i,j⟩:=o e g
  exact⟨x,d,i,by simp[WideElems.rd,j,FH]⟩
 have E:WideElems.Fit Tryz.prog 3 FH k s:=⟨by rw[r];exact p,q.stamped,λe g=>by obtain⟨x,_,_,j⟩:=u e g;exact⟨_,j⟩⟩;have z:∀e,e∈k.toList->Go.intOf (WideElems.rg Tryz.prog 3 FH e).1=Ir e:=λe g=>by
  obtain⟨x,d,_,j⟩:=u e g;rw[WideElems.rg_of j];unfold Ir;rw[d];rfl
 have t:=WP (l:=k.toList) (kf:=Ir) z;refine⟨_,⟨k,s,I,E,Nat.le_of_eq r,rfl⟩,?_,?_,λx=>?_⟩
 ·rw[Maps.size_eq,length_read,r]
 ·refine t.nodup_iff.2 ?_;refine Z3.2 ?_;have p:=q.stamped.2.2;rw[List.Nodup,Z3] at p;refine p.imp_of_mem λ{a c} D C B e=>B ?_;obtain⟨x,d,_⟩:=o a D;obtain⟨y,i,_⟩:=o c C;unfold Ir at e;rw[d,i] at e |-;simp only at e;rw[e]
 ·rw[t.mem_iff,Yg];constructor
  ·rintro⟨e,g,rfl⟩;obtain⟨y,d,i,_⟩:=o e g;unfold Ir;rw[d];simp only;rw[i];simp
  ·intro H;obtain⟨v,A⟩:=adP.1 H;obtain⟨e,g,F⟩:=q.has x v A
   exact⟨e,g,by unfold Ir;rw[F];rfl⟩
theorem LW:∀a b:Tx,Bc a b=true↔a<b
 |[],[]=>by simp[Bc]
 |[],_::_=>by simp[Bc]
 |_::_,[]=>by simp[Bc]
 |a::l,b::r=>by
  have c:=LW l r;unfold Bc;rw[List.cons_lt_cons_iff]
  by_cases e:a=b
  ·subst e;rw[if_pos rfl,c]
   simp
  ·rw[if_neg e];simp[e]
theorem WD (a b:Tx):decide (a<=b) = !Bc b a:=by
 cases h:Bc b a with
 |true=>
  have:=(LW b a).1 h;simp[this]
 |false=>
  have:¬b<a:=λz=>by rw[(LW b a).2 z] at h;cases h
  simpa using this
theorem TG {f:List Tx} (m:f.Nodup):FM (f.mergeSort λx y=>decide (x<=y))/\∀x,x∈(f.mergeSort λx y=>decide (x<=y))↔x∈f:=by
 have e:(λx y:Tx=>decide (x<=y))=λx y => !Bc y x:=by funext a b;exact WD a b
 rw[e];have k:∀a b c:Tx,(!Bc b a)=true->(!Bc c b)=true->(!Bc c a)=true:=λa b c i d=>by
  simp only[adg] at *
  cases h:Bc c a with
  |false=>rfl
  |true=>
   cases g:Bc a b with
   |true=>rw[Ja c a b h g] at d;cases d
   |false=>rw[Ka a b g i] at h;rw[h] at d;cases d
 have l:∀a b:Tx,(!Bc b a || !Bc a b)=true:=λa b=>by
  cases h:Bc b a with
  |false=>rfl
  |true=>
   cases d:Bc a b with
   |false=>rfl
   |true=>
    have:=Ja a b a d h;rw[Kb] at this;cases this
 have j:=ac5 f (λx y => !Bc y x);refine⟨?_,λx=>j.mem_iff⟩;have i:=List.pairwise_mergeSort (le:=λx y => !Bc y x) k l f;have d:(f.mergeSort λx y => !Bc y x).Nodup:=j.nodup_iff.2 m;refine(i.and d).imp λ{a b} ⟨g,n⟩=>?_;simp only[adg] at g
 cases h:Bc a b with
 |true=>rfl
 |false=>exact absurd (Ka a b h g) n
theorem TH {d:List Int} (j:d.Nodup):(d.mergeSort λx y=>decide (x<=y)).Pairwise (λa b=>a<b)/\∀x,x∈(d.mergeSort λx y=>decide (x<=y))↔x∈d:=by
 have e:=ac5 d (λx y=>decide (x<=y));have i:∀a b c:Int,decide (a<=b)=true->decide (b<=c)=true->decide (a<=c)=true:=λa b c k g=>by simp only[decide_eq_true_eq] at *;omega
 have h:∀a b:Int,(decide (a<=b)||decide (b<=a))=true:=λa b=>by simp only[Bool.or_eq_true,decide_eq_true_eq];omega
 refine⟨?_,λx=>e.mem_iff⟩;have g:(d.mergeSort λx y=>decide (x<=y)).Nodup:=e.nodup_iff.2 j;refine((List.pairwise_mergeSort i h d).and g).imp λ{a b} ⟨f,l⟩=>?_;have f:a<=b:=by simpa using f
 omega
theorem WO (m:Nat) (mb:Option Nat) (W:Xg):adL Ye m Tryz.prog 29 #[.map mb] W λe w'=>e = .returned (.func (.func 62) #[] #[.pointer (some ⟨W.heap.size,0,none⟩)])/\w'=W.alloc (.cells #[.map mb] 64):=
 XT.2 (XT.1 (AnyZ.keys_in Tryz.keysS Ye 5 trivial rfl mb W))
theorem WQ (m:Nat) (mb:Option Nat) (W:Xg):adL Ye m Tryz.prog 31 #[.map mb] W λe w'=>e = .returned (.func (.func 65) #[] #[.pointer (some ⟨W.heap.size,0,none⟩)])/\w'=W.alloc (.cells #[.map mb] 65):=
 XT.2 (XT.1 (AnyZI.keys_in Tryz.keysI Ye 5 trivial rfl mb W))
theorem TE (m:Nat) {w:Xg} {b n:Nat} {f:Tx->Option Xj} (h:Av sk w b f n) (G:∀x,f x≠none->x.length<=Z5) (K:n<=1048576) :
 adL Ye m Tryz.prog 28 #[.func (.func 62) #[] #[.pointer (some ⟨w.heap.size,0,none⟩)]] (w.alloc (.cells #[.map (some b)] 64)) λe w'=>∃(v:Xj) (l:List Tx),e = .returned v/\w'.ownsRow w.heap.size 9 1 v l.length (l.map λx=>Yl (bs x))/\FM l/\(∀x,x∈l↔f x≠none)/\Below w.heap.size w w':=by
 obtain⟨a,j,i,p,q⟩:=h.Vw G (by unfold Z5;omega);have B:=j.lt;have o:adN a<=Z5:=by rw[i];unfold Z5;omega
 have F:adN a*16<=140737488355328:=by rw[i];omega
 have A:SeqGives Ye 2 Tryz.prog 62 #[.pointer (some ⟨w.heap.size,0,none⟩)] encStr (λc=>c.Perm (strKeys a)) (adN a) (w.alloc (.cells #[.map (some b)] 64)):=
  AnyZ.keys_gives (ρ:=Tryz.keysS_ren) {Tryz.keysS with} Ye _ trivial rfl (by omega) w.heap.size b n a _ (by simp) (by simp) (by
   obtain⟨H,r,d,I,t,E⟩:=j
   exact⟨H,r,(Xq _ _ b B).trans d,I,t,E⟩)
 have g:=AnyZ.sorted_in Tryz.sortedS Ye 5 trivial trivial trivial trivial rfl (by omega) (Tryz.sortsS _) (enters_of Tryz.func61 (by kernel_rfl) rfl) 62 #[.pointer (some ⟨w.heap.size,0,none⟩)] trivial (enters_of Tryz.func62 (by kernel_rfl) rfl) _ _ o F _ A
 change adL _ _ Tryz.prog 28 _ _ _ at g
 refine XT.2 ((XT.1 g).mono ?_);rintro e w' ⟨v,c,rfl,k,u,J,d⟩;have C:=k.nodup_iff.2 p;obtain⟨D,s⟩:=TG C;have z:(c.mergeSort λx y=>decide (x<=y)).length=c.length:=(ac5 _ _).length_eq;refine⟨v,_,rfl,?_,D,λx=>by rw[s,k.mem_iff,q],((Xo _ w).alloc (Xf _) _).trans (d.mono (by simp))⟩;rw[z];exact ownsRow_base_a u (by simp)
theorem TF (m:Nat) {w:Xg} {b n:Nat} {f:Int->Option Xj} (h:Av ik w b f n) (H:∀x,f x≠none->0<=x/\x<1000) (M:n<=1048576) :
 adL Ye m Tryz.prog 30 #[.func (.func 65) #[] #[.pointer (some ⟨w.heap.size,0,none⟩)]] (w.alloc (.cells #[.map (some b)] 65)) λe w'=>∃(v:Xj) (l:List Int),e = .returned v/\w'.ownsRow w.heap.size 3 1 v l.length (l.map (YB .i64))/\l.Pairwise (λa b=>a<b)/\(∀x,x∈l↔f x≠none)/\Below w.heap.size w w':=by
 obtain⟨c,k,j,q,r⟩:=h.Vx H (by unfold Z5;omega);have B:=k.lt;have p:adN c<=Z5:=by rw[j];unfold Z5;omega
 have G:adN c*8<=140737488355328:=by rw[j];omega
 have A:SeqGives Ye 2 Tryz.prog 65 #[.pointer (some ⟨w.heap.size,0,none⟩)] encZ (λd=>d.Perm (intKeys c)) (adN c) (w.alloc (.cells #[.map (some b)] 65)):=
  AnyZI.keys_gives (ρ:=Tryz.keysI_ren) {Tryz.keysI with} Ye _ trivial rfl (by omega) w.heap.size b n c _ (by simp) (by simp) (by
   obtain⟨D,s,g,J,u,F⟩:=k
   exact⟨D,s,(Xq _ _ b B).trans g,J,u,F⟩)
 have i:=AnyZI.sorted_in Tryz.sortedI Ye 5 trivial trivial trivial trivial rfl (by omega) (Tryz.sortsI _) (enters_of Tryz.func64 (by kernel_rfl) rfl) 65 #[.pointer (some ⟨w.heap.size,0,none⟩)] trivial (enters_of Tryz.func65 (by kernel_rfl) rfl) _ _ p G _ A
 change adL _ _ Tryz.prog 30 _ _ _ at i
 refine XT.2 ((XT.1 i).mono ?_);rintro e w' ⟨v,d,rfl,o,I,K,g⟩;have C:=o.nodup_iff.2 q;obtain⟨E,t⟩:=TH C;have z:(d.mergeSort λx y=>decide (x<=y)).length=d.length:=(ac5 _ _).length_eq;refine⟨v,_,rfl,?_,E,λx=>by rw[t,o.mem_iff,r],((Xo _ w).alloc (Xf _) _).trans (g.mono (by simp))⟩;rw[z];exact ownsRow_base_a I (by simp)
end Go.Proofs.YtdcacoifehkioaaGreatDoor
namespace Go.Proofs.YtdcacoifehkioaaGreatDoor
open Go.RowKit Go.Shelf Go.Proofs.Cod
def Fa (C:List (List Ac)) (m:MS):Bool:=decide ((AU C m).length=0)
def EU (C:List (List Ac)) (l:List MS):Bool:=l.any λm=>Fa C m&&decide (0<AB m)
def Gd (l:List MS):Bool:=l.any Bf
def FA (p:PD) (l:List MS) (x:Tx):Prop:=∃m,m∈l/\Fa p.C m=true/\BD p m=x
def Eb (p:PD) (l:List MS) (x:Int):Prop:=(0<=x/\x<p.vs.length)/\∃m,m∈l/\(Cr x (AU p.C m)).isSome=true
theorem MQ {α:Type} (q:α->Bool) (l:List α) (a:α):(l++[a]).any q=(l.any q||q a):=by rw[List.any_append];simp
theorem OF (p:PD) (l:List MS) (m:MS) (x:Tx):FA p (l++[m]) x↔FA p l x\/(Fa p.C m=true/\BD p m=x):=by
 unfold FA;constructor
 ·rintro⟨a,b,h⟩
  rcases XX.1 b with b|b
  ·exact .inl ⟨a,b,h⟩
  ·rw[XR.1 b] at h;exact .inr h
 ·rintro(⟨a,b,h⟩|h)
  ·exact⟨a,YM _ b,h⟩
  ·exact⟨m,by simp,h⟩
theorem Us (p:PD) (l:List MS) (m:MS) (x:Int):Eb p (l++[m]) x↔Eb p l x\/((0<=x/\x<p.vs.length)/\(Cr x (AU p.C m)).isSome=true):=by
 unfold Eb;constructor
 ·rintro⟨c,a,b,h⟩
  rcases XX.1 b with b|b
  ·exact .inl ⟨c,a,b,h⟩
  ·rw[XR.1 b] at h;exact .inr ⟨c,h⟩
 ·rintro(⟨c,a,b,h⟩|⟨c,h⟩)
  ·exact⟨c,a,YM _ b,h⟩
  ·exact⟨c,m,by simp,h⟩
structure XW (w:Xg) (Z:Nat) (er em:Y7):Prop where
 t:Cn w Z
 c:GY w (Ce er em)
 e:Nf w er em
 m:∃mx,w.cell? ⟨4,0,none⟩=some (.int .i64 mx)
 g:0<Z/\1<Z/\4<Z
 b:er.block<Z/\em.block<Z
theorem XW.same {w w':Xg} {Z:Nat} {i f:Y7} (h:XW w Z i f) (d:∀x,x<Z->w'.heap[x]?=w.heap[x]?):XW w' Z i f:=by
 refine⟨h.t.same d,h.c.same (d _ h.g.1) (d _ h.g.2.1),⟨h.e.ne,?_,?_⟩,?_,h.g,h.b⟩
 ·obtain⟨c,t,q⟩:=h.e.r
  exact⟨c,t,(d _ h.b.1).trans q⟩
 ·obtain⟨c,t,q⟩:=h.e.m
  exact⟨c,t,(d _ h.b.2).trans q⟩
 ·obtain⟨j,q⟩:=h.m
  exact⟨j,(World.cell?_of_block (w:=w) (a:=⟨4,0,none⟩) (d _ h.g.2.2)).trans q⟩
structure acO (W:Xg) (Z:Nat) (O:Tx->Prop) (Y:Int->Prop) (no ny:Nat):Prop where
 o:∃f n,Av sk W (Z+4) f n/\n<=no/\(∀x,f x≠none↔O x)
 y:∃f n,Av ik W (Z+5) f n/\n<=ny/\(∀x,f x≠none↔Y x)
def Hl (n:Nat) (st fa:Bool):Array Xj := #[.int .i64 n,.slice none 0 0,.bool st,.bool fa,.slice none 0 0]
structure AI (W0:Xg) (Z:Nat) (p:PD) (pre:List XS) (O:AF) (W:Xg):Prop where
 all0:∀b,b<W0.heap.size->O b
 inside:∀b,O b->b<W.heap.size
 fixed:∀b,b<W0.heap.size->b≠Z+3->b≠Z+4->b≠Z+5->W.heap[b]?=W0.heap[b]?
 os:W.os=W0.os
 tape:W.tape=W0.tape
 output:W.output=W0.output
 size:W0.heap.size<=W.heap.size
 rep:∃R:List Ad,pre=R.map XS.st/\R.length<=20000/\W.heap[Z+3]?=some (.cells (Hl R.length (EU p.C (R.map Ad.m)) (Gd (R.map Ad.m))) 34)/\acO W Z (FA p (R.map Ad.m)) (Eb p (R.map Ad.m)) R.length (R.length*4)
theorem AI.Hf {j:Xg} {Z:Nat} {p:PD} (x:Z+5<j.heap.size):FK (AI j Z p):=by
 intro w O W v h i u s k c;refine⟨h.all0,λb t=>XF (h.inside b t) i,λb a e d g=>(c b (h.all0 b a)).trans (h.fixed b a e d g),u.trans h.os,s.trans h.tape,k.trans h.output,Xu h.size i,?_⟩;obtain⟨R,a,q,e,⟨f,n,d,g⟩,⟨o,l,r,m⟩⟩:=h.rep
 exact⟨R,a,q,(c _ (h.all0 _ (by omega))).trans e,⟨f,n,d.same (c _ (h.all0 _ (by omega))),g⟩,⟨o,l,r.same (c _ (h.all0 _ (by omega))),m⟩⟩
structure AX (W0:Xg) (Z:Nat) (p:PD) (most:Int) (O:AF) (W:Xg):Prop where
 all0:∀b,b<W0.heap.size->O b
 inside:∀b,O b->b<W.heap.size
 fixed:∀b,b<Z->W.heap[b]?=W0.heap[b]?
 os:W.os=W0.os
 tape:W.tape=W0.tape
 output:W.output=W0.output
 size:W0.heap.size<=W.heap.size
 rep:∃b:Bool,(if b then Ck most/\BS p most.toNat=none else ¬Ck most)/\W.heap[Z+1]?=some (.cells (Hl 0 false false) 34)/\W.heap[Z+2]?=some (.cells #[.int .i64 (DB b)] 35)
theorem AX.Hf {e:Xg} {Z:Nat} {p:PD} {most:Int} (m:Z+5<e.heap.size):FK (fun(_:List XS)=>AX e Z p most):=by
 intro n O W o h d k i f c;refine⟨h.all0,λb j=>XF (h.inside b j) d,λb a=>(c b (h.all0 b (by omega))).trans (h.fixed b a),k.trans h.os,i.trans h.tape,f.trans h.output,Xu h.size d,?_⟩;obtain⟨b,a,l,g⟩:=h.rep
 exact⟨b,a,(c _ (h.all0 _ (by omega))).trans l,(c _ (h.all0 _ (by omega))).trans g⟩
theorem Ox {w:Xg} {fn:Func} {tmps:Array Xj} {a b:Nat} {f i d g h e:Xj} (j:fn.results = #[.cell 4 34,.cell 5 35]) (q:tmps[4]?=some (.pointer (some ⟨a,0,none⟩))) (n:tmps[5]?=some (.pointer (some ⟨b,0,none⟩))) (c:w.heap[a]?=some (.cells #[f,i,d,g,h] 34)) (s:w.heap[b]?=some (.cells #[e] 35)):(results fn tmps).run Tryz.prog w = .ok (.tuple #[.agg #[f,i,d,g,h],e]) w:=by
 have k:w.cell? ⟨a,0,none⟩=some f:=by simp[Xh,c]
 have l:w.cell? ⟨a,1,none⟩=some i:=by simp[Xh,c]
 have o:w.cell? ⟨a,2,none⟩=some d:=by simp[Xh,c]
 have p:w.cell? ⟨a,3,none⟩=some g:=by simp[Xh,c]
 have m:w.cell? ⟨a,4,none⟩=some h:=by simp[Xh,c]
 have r:w.cell? ⟨b,0,none⟩=some e:=by simp[Xh,s]
 simp[results,j,q,n,go_sem,k,l,o,p,m,r]
def KS (w w':Xg) (p:PD) (most:Int) (e:Ending):Prop:=
 (∃b:Bool,(if b then Ck most/\BS p most.toNat=none else ¬Ck most)/\e = .returned (.tuple #[.agg (Hl 0 false false),.int .i64 (DB b)]))\/
 (Ck most/\∃(l:List MS) (ov rv:Xj) (os:List Tx) (rs:List Int),BS p most.toNat=some l/\e = .returned (.tuple #[.agg #[.int .i64 l.length,ov,.bool (EU p.C l),.bool (Gd l),rv],.int .i64 0])/\
   w'.ownsRow w.heap.size 9 1 ov os.length (os.map λx=>Yl (bs x))/\FM os/\(∀x,x∈os↔FA p l x)/\
   w'.ownsRow w.heap.size 3 1 rv rs.length (rs.map (YB .i64))/\rs.Pairwise (λa b=>a<b)/\(∀x,x∈rs↔Eb p l x))
end Go.Proofs.YtdcacoifehkioaaGreatDoor
namespace Go.Proofs.YtdcacoifehkioaaGreatDoor
open Go.ChangeShapes Go.WideShapes Go.ChangeAt Go.RowKit Go.Shelf Go.Proofs.Cod
theorem Tryz.star7 : "*" ++ "errors.errorString" = "*errors.errorString" :=by decide
theorem Tryz.row7 (u:YD) (h:Tryz.prog.typeName? 3 u=some "*errors.errorString"):u=346:=
 typeName_ptr_named (nm:= "errors.errorString") (by rw[Tryz.star7];kernel_rfl) (by kernel_rfl) (by decide) u (by rw[Tryz.star7];exact h)
theorem Tryz.gErrR:Tryz.prog.globalNamed "weave/explore.errRange" = some 0:=by kernel_rfl
theorem Tryz.gErrM:Tryz.prog.globalNamed "weave/explore.errMany" = some 1:=by kernel_rfl
theorem abw {W:Xg} (h:laidMet Tryz.prog Rows.exploreAllRow.laid W):∃b a,GY W (Ce b a)/\Nf W b a:=by
 have o:laidMet Tryz.prog [("weave/explore.errRange",Rows.laid_weave_explore_errRange),("weave/explore.errMany",Rows.laid_weave_explore_errMany)] W:=h.filter (λx=>x.1 == "weave/explore.errRange" || x.1 == "weave/explore.errMany");obtain⟨k,m,q,p,d,e,g,f,c,l,-,-,-,-,-,-,n,i,j⟩:=laid_sentinels2 (tp:=346) o Tryz.gErrR (by kernel_rfl) Tryz.gErrM (by kernel_rfl) Tryz.underlying71 Tryz.row7 Tryz.underlying346 Tryz.underlying348 rfl rfl Tryz.underlying9 (by kernel_rfl) (by kernel_rfl);refine⟨k,m,⟨?_,?_⟩,⟨n,⟨d,g,i⟩,⟨e,f,j⟩⟩⟩
 ·have:=World.var?_cell Tryz.gErrR c 0;exact this
 ·have:=World.var?_cell Tryz.gErrM l 0;exact this
theorem aag {P:Program} {w:Xg} {g:Nat} {t:YD} {k:IntKind} {zero:Array Xj} (h:w.ShapedOpen P) (o:g<P.globals.size)
 (q:((begin P (λ_ _=>0) default).world.heap[g]?).bind Obj.row?=some (zero,t)) (v:zero.size=1)
 (p:P.buildable t=true) (f:P.cellTypes P.depth t=some [t]) (j:P.underlying t=some (.int k)):∃n,w.cell? ⟨g,0,none⟩=some (.int k n):=by
 obtain⟨cs,l,s,d⟩:=h.1 g zero t o q;obtain⟨ts,b,_,m⟩:=d p;rw[f] at b
 cases b
 have c:0<cs.size:=by omega
 obtain⟨u,e,a⟩:=m 0 cs[0] (by simp[c]);have:u=t:=by simpa using e.symm
 subst this;have r:w.cell? ⟨g,0,none⟩=some cs[0]:=by simp[Xh,l,c]
 rw[r];unfold Cell.ok at a;rw[j] at a
 cases i:cs[0]<;>rw[i] at a<;>first|exact(by obtain⟨rfl,-⟩:=a;exact⟨_,rfl⟩)|(simp at a;done)|(simp at a;obtain⟨rfl,-⟩:=a;exact⟨_,rfl⟩)|(simp at a;subst a;exact⟨_,rfl⟩)
theorem Wh {W:Xg} (h:W.ShapedOpen Tryz.prog):∃a,W.cell? ⟨4,0,none⟩=some (.int .i64 a):=
 aag (g:=4) (t:=3) (k:=.i64) (zero := #[.int .i64 0]) h (of_decide_eq_true (by kernel_rfl)) (by kernel_rfl) rfl (by kernel_rfl) (by kernel_rfl) Tryz.underlying3
theorem MO {w:Xg} {a:Y7} {v:Xj} (h:w.cell? a=some v):a.block<w.heap.size:=by
 rcases Z1 a.block w.heap.size with b|b
 ·exact b
 ·simp[Xh,YJ b] at h
theorem QF {w:Xg} {b:Nat} {o:Obj} (h:w.heap[b]?=some o):b<w.heap.size:=by
 rcases Z1 b w.heap.size with a|a
 ·exact a
 ·rw[YJ a] at h;cases h
theorem St {W:Xg} (h:laidMet Tryz.prog Rows.exploreAllRow.laid W) (j:W.ShapedOpen Tryz.prog):∃d c,XW W W.heap.size d c:=by
 obtain⟨d,c,g,f⟩:=abw h;have n:laidMet Tryz.prog Me W:=h.filter (λx => !(x.1 == "weave/explore.errRange" || x.1 == "weave/explore.errMany"));have b:=Td n j;obtain⟨t,i⟩:=Wh j;have p:=MO g.r;have s:=MO g.m;have w:=MO i;obtain⟨D,C,k⟩:=f.r;obtain⟨E,H,l⟩:=f.m;have y:d.block<W.heap.size:=by
  rcases Z1 d.block W.heap.size with a|a
  ·exact a
  ·rw[YJ a] at k;cases k
 have u:c.block<W.heap.size:=by
  rcases Z1 c.block W.heap.size with a|a
  ·exact a
  ·rw[YJ a] at l;cases l
 have q:6<=W.heap.size:=by
  obtain⟨F,v⟩:=b.heads;obtain⟨G,o⟩:=b.shapes;have z:=QF v;have A:=QF o;have B:5<W.heap.size:=by
   have e:=b.pow;unfold Lib.TabIs World.var? at e;rw[Tryz.powG] at e;simp only[Option.bind_some] at e
   rcases Z1 5 W.heap.size with a|a
   ·exact a
   ·rw[YJ a] at e;cases e
  omega
 exact⟨d,c,⟨b.heads,b.shapes,b.pow,q⟩,g,f,⟨t,i⟩,⟨p,s,w⟩,⟨y,u⟩⟩
end Go.Proofs.YtdcacoifehkioaaGreatDoor
namespace Go.Proofs.YtdcacoifehkioaaGreatDoor
open Go.ChangeShapes Go.WideShapes Go.ChangeAt Go.RowKit Go.Proofs.Cod
set_option linter.unusedVariables false
noncomputable def Md (os:Os):Xg:=
 let w0:=World.holding Tryz.prog os ⟨#[.cells #[.string (Kq Rows.laid_strconv_ErrRange)] 348,.cells #[.string (Kq Rows.laid_strconv_ErrSyntax)] 348,.cells #[.string (Kq Rows.laid_weave_explore_errRange)] 348,.cells #[.string (Kq Rows.laid_weave_explore_errMany)] 348],#[],[]⟩
 {w0 with heap:=((((((((((w0.heap.modify 8 (EV (Jh Rows.laid_math_bits_deBruijn32tab))).modify 9 (EV (Jh Rows.laid_math_bits_deBruijn64tab))).modify 5 (EV (Jh Rows.laid_internal_strconv_uint64pow10))).modify 7 (EV (MK Rows.laid_unicode_utf8_acceptRanges))).modify 11 (EV #[.iface 346 (.pointer (some ⟨low,0,none⟩))])).modify 10 (EV #[.iface 346 (.pointer (some ⟨low+1,0,none⟩))])).modify 2 (EV (MK Rows.laid_weave_code_headings))).modify 3 (EV (MK Rows.laid_weave_code_shapes))).modify 6 (EV (Jh Rows.laid_unicode_utf8_first))).modify 0 (EV #[.iface 346 (.pointer (some ⟨low+2,0,none⟩))])).modify 1 (EV #[.iface 346 (.pointer (some ⟨low+3,0,none⟩))])}
theorem VE {w:Xg} {r:Reach} {base n c:Nat} {a:Option Y7} (h:Value.okWide Tryz.prog w r base 32 (.slice a n c)):n<=9223372036854775807:=by
 simp only[Value.okWide,Tryz.underlying32,Cell.okWide,Cell.ok] at h
 cases a with
 |none=>
  match n,c,h with
  |0,0,_=>omega
 |some a=>
  obtain⟨b,d,_⟩:=h;have e:IntKind.i64.max=9223372036854775807:=by decide
  omega
end Go.Proofs.YtdcacoifehkioaaGreatDoor
namespace Go.Proofs.YtdcacoifehkioaaGreatDoor
open Go.RowKit Go.Shelf Go.Proofs.Cod
end Go.Proofs.YtdcacoifehkioaaGreatDoor
