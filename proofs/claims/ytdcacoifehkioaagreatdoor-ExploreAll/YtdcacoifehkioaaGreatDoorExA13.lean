import Derived.Test.YtdcacoifehkioaaGreatDoorExA0
import Derived.Test.YtdcacoifehkioaaGreatDoorExA12
import Derived.Test.YtdcacoifehkioaaGreatDoorCards
import Derived.Test.YtdcacoifehkioaaGreatDoorTie
import Derived.SizedLaws
import Derived.ShutString
import Derived.ChangeOld
import Derived.JoinedCond
import Derived.OpenShut
import Derived.Deep.DeepHandedRow
import Derived.Lib.LaidTab
import Derived.LaidSub
import Derived.ChangeMaps5
import Derived.Test.YtdcacoifehkioaaGreatDoorExA1
import Derived.Shelf.Strings.Builder1
import Derived.Lib.Builder
import Derived.Lib.AppendStr
import Derived.Lib.UnsafeStr
import Derived.Below
import Derived.Test.YtdcacoifehkioaaGreatDoorExA4
import Derived.Laws.IdiomCopy
import Derived.Laws.Rows
import Derived.Laws.Tables
open Go renaming Value->Xk,TypeId->YH,World->Xh,Calls->XY,heap_setCell_same->Xj,info_parts->YI,heap_setCell_other->Xt
open Prod renaming fst->YL
open List renaming length_cons->XJ,getElem?_map->Xs,length_append->Xb,replicate->Xr,range->YB,mem_replicate->agi,getD_eq_getElem?_getD->Xc,getElem?_eq_getElem->Xe,getElem?_set->Yy,length_set->Yb
open Option renaming map_eq_some_iff->Yu
open Option.some renaming inj->Ys
open Nat renaming le_refl->Xd,zero_le->Xx,add_zero->agj
open Go.Value renaming string->Yi,slice->Yn,int->Yw
open Go.Lib renaming byteCells->ZF
open Array renaming getElem?_eq_some_iff->Xa
open Go.World renaming cell?->Xg,frozen?->XM,size_setCell->XA
open Go.Result renaming andThen->ZV,andThen_ok->afP
open Go.RowKit.Below renaming heap_setCell->Xn
set_option maxRecDepth 100000
set_option maxHeartbeats 1000000
set_option linter.unusedVariables false
set_option linter.unusedSimpArgs false
namespace Go.Proofs.YtdcacoifehkioaaGreatDoor
open Go.ChangeShapes Go.WideShapes Go.ChangeAt Go.RowKit Go.Proofs.Cod
set_option linter.unusedVariables false
theorem Tryz.own:ownKnob Tryz.prog.godebug=none:=by kernel_rfl
def Hj:Lit->Xk
 |.string b=>.string ⟨b.toArray⟩
 |.int k n=>.int k n
 |_=>.int .i64 0
section
variable {H:Type} {enc:YH×Xk->H} {P:Program} {w:Xh} {base:Nat} {sp:Nat->Bool} {held:Bool}
theorem Tw {d:Nat} {t:YH} {cs:List Xk} {x:Lit} {p:List MemPlace} (a:P.underlying t=some .string\/P.underlying t=some (.int .u8)) (h:DataW.trod enc P w base sp held d t cs=some (.lit x,p)):cs=[Hj x]:=by
 rcases a with a|a
 ·obtain⟨s,b,c,f⟩:=DataW.trod_string a h;have e:DataW.lit (H:=H) x = .lit (.string s.data.toList):=(congrArg YL c)
  cases e
  rw[b];rfl
 ·obtain⟨z,b,c,_⟩:=DataW.trod_int a h;have e:DataW.lit (H:=H) x = .lit (.int .u8 z):=(congrArg YL c)
  cases e
  rw[b];rfl
theorem aaT {y:Nat} {e:YH} {f c:Field} {cs:List Xk} {s:List UInt8} {x:Lit} {p:List MemPlace} (u:P.underlying e=some (.struct #[f,c])) (z:f.offset=0) (v:c.offset=1) (t:P.underlying f.type=some .string) (A:P.underlying c.type=some .string\/P.underlying c.type=some (.int .u8)) (c0:P.cellsOf f.type=1) (c1:P.cellsOf c.type=1) (r:P.cellsOf e=2)
 (h:DataW.trod enc P w base sp held y e cs=some (.agg [.lit (.string s),.lit x],p)):cs=[.string ⟨s.toArray⟩,Hj x]:=by
 obtain⟨d,n,rfl,D,o,E,m⟩:=DataW.trod_struct u h;have k:d.map (·.1)=[.lit (.string s),.lit x]:=by
  have i:=congrArg YL D;have i:DataW.agg (H:=H) [.lit (.string s),.lit x] = .agg (d.map (·.1)):=i;injection i with e2
  exact e2.symm
 obtain⟨⟨B,G⟩,⟨C,F⟩,rfl⟩:∃a b,d=[a,b]:=by
  have:d.length=2:=by simpa using E
  match d,this with
  |[a,b],_=>exact⟨a,b,rfl⟩
 have k:[B,C]=[DataW.lit (.string s),.lit x]:=k
 cases k
 have l:=m 0 f rfl;have q:=m 1 c rfl;rw[z,c0] at l;rw[v,c1] at q;have j:=Tw (.inl t) l;have g:=Tw A q;rw[r] at o
 match cs,o with
 |[a,b],_=>
  have j:[a]=[Hj (.string s)]:=j;have g:[b]=[Hj x]:=g
  cases j;cases g
  rfl
theorem OQ {α:Type} (g:α->List Xk):∀(l:List α) (cs:List Xk),cs.length=l.length*2->(∀i q,l[i]?=some q->(cs.drop (i*2)).take 2=g q)->cs=l.flatMap g
 |[],cs,hl,_=>by
  have:cs.length=0:=by simpa using hl
  rw[List.eq_nil_of_length_eq_zero this];rfl
 |q::l,cs,hl,h=>by
  have c:cs.take 2=g q:=by simpa using h 0 q rfl
  have d:=OQ g l (cs.drop 2) (by rw[List.length_drop,hl,XJ];omega) (λi a b=>by
   have:=h (i+1) a (by simpa using b);rw[List.drop_drop,show 2+i*2=(i+1)*2 by omega];exact this)
  rw[List.flatMap_cons,<-c,<-d,List.take_append_drop]
theorem aaS {g:Nat} {t e:YH} {n:Nat} {f c:Field} {cs:List Xk} {l:List (List UInt8×Lit)} {p:List MemPlace} (D:P.underlying t=some (.array n e)) (x:P.underlying e=some (.struct #[f,c])) (A:f.offset=0) (y:c.offset=1) (v:P.underlying f.type=some .string) (E:P.underlying c.type=some .string\/P.underlying c.type=some (.int .u8)) (c0:P.cellsOf f.type=1) (c1:P.cellsOf c.type=1) (k:P.cellsOf e=2) (u:P.cellsOf t=n*2)
 (h:DataW.trod enc P w base sp held g t cs=some (.agg (l.map λq=>.agg [.lit (.string q.1),.lit q.2]),p)):cs=l.flatMap λq=>[.string ⟨q.1.toArray⟩,Hj q.2]:=by
 cases g with
 |zero=>simp[DataW.trod] at h
 |succ g=>
  simp only[DataW.trod,D,k,u] at h
  split at h
  ·rename_i C;obtain⟨d,o,F⟩:=Yu.1 h;have r:d.map (·.1)=l.map λq=>(DataW.agg [.lit (.string q.1),.lit q.2]:DataW H):=by
    have j:=congrArg YL F;have j:DataW.agg (H:=H) (d.map (·.1)) = .agg (l.map λq=>.agg [.lit (.string q.1),.lit q.2]):=j;injection j
   have K:d.length=n:=by simpa using Lib.mapM_length o
   have G:l.length=n:=by
    have:=congrArg List.length r
    simp at this
    omega
   refine OQ _ l cs (by rw[G];exact C) (λi q m=>?_);have z:i<n:=by have:=(List.getElem?_eq_some_iff.1 m).1;omega
   obtain⟨b,B,s⟩:=Lib.mapM_at o i i (by simp[z]);have a:(d.map (·.1))[i]?=some b.1:=by simp[B]
   rw[r,Xs,m] at a;have a:b.1 = .agg [.lit (.string q.1),.lit q.2]:=(Ys a).symm;obtain⟨I,J⟩:=b;have a:I = .agg [.lit (.string q.1),.lit q.2]:=a;subst a;exact aaT x A y v E c0 c1 k s
  ·cases h
end
theorem OK {W:Xh} {name:String} {l:List (List UInt8×Lit)} {g:Nat} {t e:YH} {n:Nat} {c b:Field} (i:Tryz.prog.globalNamed name=some g) (v:(Tryz.prog.globals[g]?).map (·.type)=some t) (C:Tryz.prog.underlying t=some (.array n e)) (s:Tryz.prog.underlying e=some (.struct #[c,b])) (A:c.offset=0) (u:b.offset=1) (o:Tryz.prog.underlying c.type=some .string) (D:Tryz.prog.underlying b.type=some .string\/Tryz.prog.underlying b.type=some (.int .u8)) (c0:Tryz.prog.cellsOf c.type=1) (c1:Tryz.prog.cellsOf b.type=1) (k:Tryz.prog.cellsOf e=2) (m:Tryz.prog.cellsOf t=n*2)
 (F:(((begin Tryz.prog (λ_ _=>0) default).world.heap[g]?).bind Obj.row?).map (·.2)=some t) (B:g<Tryz.prog.globals.size) (x:W.ShapedOpen Tryz.prog)
 (h:laidMet Tryz.prog [(name,.agg (l.map λq=>.agg [.lit (.string q.1),.lit q.2]))] W):∃fr,W.heap[g]?=some (.cells (l.flatMap λq=>[.string ⟨q.1.toArray⟩,Hj q.2]).toArray t fr):=by
 obtain⟨ps,⟨I,t',cs,H,p,q,E,y,a,z,_,_⟩,_⟩:=h
 obtain rfl:=Ys (i.symm.trans E)
 obtain rfl:=Ys (v.symm.trans y)
 have G:=aaS C s A u o D c0 c1 k m z;obtain⟨⟨zero,j⟩,w,d⟩:=Yu.1 F;have d:j=t:=d;subst d;obtain⟨r,f,-,-⟩:=x.1 g zero j B w;unfold World.var? at a;rw[i] at a;simp only[Option.bind_some] at a;rw[f] at a;have a:some r=some cs:=a
 cases a
 refine⟨(0,0),?_⟩;rw[f,<-G]
def Nv:List (String×DataW Unit):=[("math/bits.deBruijn32tab",Rows.laid_math_bits_deBruijn32tab),("math/bits.deBruijn64tab",Rows.laid_math_bits_deBruijn64tab),("internal/strconv.uint64pow10",Rows.laid_internal_strconv_uint64pow10),("unicode/utf8.acceptRanges",Rows.laid_unicode_utf8_acceptRanges),("strconv.ErrRange",Rows.laid_strconv_ErrRange),("strconv.ErrSyntax",Rows.laid_strconv_ErrSyntax),("weave/code.headings",Rows.laid_weave_code_headings),("weave/code.shapes",Rows.laid_weave_code_shapes),("unicode/utf8.first",Rows.laid_unicode_utf8_first)]
def SA:List (List UInt8×Lit):=[(Iz,.int .u8 118),(IA,.int .u8 102),(JI,.int .u8 109)]
def PQ:List (List UInt8×Lit):=Bb.map λp=>(p.1,.string p.2)
theorem Vc {W:Xh} (h:laidMetH Tryz.prog Nv W) (b:W.ShapedOpen Tryz.prog):Cn W 6:=by
 have a:laidMet Tryz.prog Nv W:=h;have f:laidMet Tryz.prog [("internal/strconv.uint64pow10",Lib.tabData .u64 Lib.pow10Tab)] W:=a.filter (λx=>x.1 == "internal/strconv.uint64pow10");have d:laidMet Tryz.prog [("weave/code.headings",.agg (SA.map λq=>.agg [.lit (.string q.1),.lit q.2]))] W:=a.filter (λx=>x.1 == "weave/code.headings");have c:laidMet Tryz.prog [("weave/code.shapes",.agg (PQ.map λq=>.agg [.lit (.string q.1),.lit q.2]))] W:=a.filter (λx=>x.1 == "weave/code.shapes");refine⟨?_,?_,Lib.tabIs_of_head (rest:=[]) Tryz.powG (by kernel_rfl) Tryz.underlying323 Tryz.underlying274 (by kernel_rfl) (by kernel_rfl) f,Xd _⟩
 ·have:=OK (g:=2) (by kernel_rfl) (by kernel_rfl) Tryz.underlying291 Tryz.underlying290 rfl rfl Tryz.underlying9 (.inr Tryz.underlying5) (by kernel_rfl) (by kernel_rfl) (by kernel_rfl) (by kernel_rfl) (by kernel_rfl) (of_decide_eq_true (by kernel_rfl)) b d;obtain⟨fr,e⟩:=this;rw[show (SA.flatMap λq=>[Yi ⟨q.1.toArray⟩,Hj q.2]).toArray=tabC Hm by kernel_rfl] at e
  exact⟨fr,e⟩
 ·have:=OK (g:=3) (by kernel_rfl) (by kernel_rfl) Tryz.underlying312 Tryz.underlying311 rfl rfl Tryz.underlying9 (.inl Tryz.underlying9) (by kernel_rfl) (by kernel_rfl) (by kernel_rfl) (by kernel_rfl) (by kernel_rfl) (of_decide_eq_true (by kernel_rfl)) b c;obtain⟨fr,e⟩:=this;rw[show (PQ.flatMap λq=>[Yi ⟨q.1.toArray⟩,Hj q.2]).toArray=tabC ID by kernel_rfl] at e
  exact⟨fr,e⟩
def abO:DataW Unit->Xk
 |.lit x=>Hj x
 |_=>.int .i64 0
def Kn:DataW Unit->Array Xk
 |.agg l=>(l.map abO).toArray
 |_ => #[]
def Ob:DataW Unit->Array Xk
 |.agg l=>(l.flatMap λd=>(Kn d).toList).toArray
 |_ => #[]
def LJ:DataW Unit->ByteArray
 |.iface _ (.ptr (.agg [.lit (.string b)]))=>⟨b.toArray⟩
 |_=>.empty
noncomputable def low:Nat:=(World.holding Tryz.prog default ⟨#[],#[],[]⟩).heap.size
def Ga (cs:Array Xk):Obj->Obj
 |.cells _ t frozen=>.cells cs t frozen
 |o=>o
end Go.Proofs.YtdcacoifehkioaaGreatDoor
namespace Go.Proofs
open Go.Shelf
shelf_lay Lays.n169 Nm 169 at Tryz as Tryz.lays169
theorem Tryz.extra169:Builder.Extra Tryz.prog Tryz.lays169_ren:={sizeBuilder:=by kernel_rfl,liesBuilder:=by kernel_rfl,t5:=Tryz.underlying5,a5:=Tryz.isAgg5,z5:=Tryz.sizeOf5,v5:=Tryz.zeroValue5,infoByte:=by kernel_rfl,cellsByte:=by kernel_rfl,sizeByte:=by kernel_rfl,neB5:=by decide}
end Go.Proofs
namespace Go.Proofs.YtdcacoifehkioaaGreatDoor
open Go.RowKit Go.Shelf Go.Proofs.Cod
theorem Tryz.infoU8b:(Tryz.prog.info? 5).map (λi=>(i.zero,i.size,i.bytes))=some (some (.int .u8 0),1,1):=by kernel_rfl
theorem Tryz.sizeBdb:(Tryz.prog.info? 188).map (·.size)=some 2:=by kernel_rfl
theorem Tryz.liesBdb:liesAt Tryz.prog Tryz.prog.depth 188 (2 / Tryz.prog.cellsOf 188) 0 188 1=true:=by kernel_rfl
structure Mk (w:Xh) (B b:Nat) (buf:Xk) (out:Tx):Prop where
 cell:∃p,(p = .pointer none\/p = .pointer (some ⟨b,0,none⟩))/\w.heap[b]?=some (.cells #[p,buf] 188)
 row:w.ownsRow B 5 1 buf out.length (ZF out)
 ne:buf.ownBlock≠some b
 hb:B<=b
def BW (w:Xh) (B b:Nat) (out:Tx):Prop:=∃buf,Mk w B b buf out
section
variable {w w':Xh} {B b:Nat} {buf:Xk} {out:Tx}
theorem Mk.lt (h:Mk w B b buf out):b<w.heap.size:=by
 obtain⟨p,_,a⟩:=h.cell
 exact(Xa.1 a).1
theorem BW.below (h:BW w B b out) (a:Below w.heap.size w w'):BW w' B b out:=by
 obtain⟨buf,h⟩:=h;have c:=h.lt;obtain⟨p,f,d⟩:=h.cell
 exact⟨buf,⟨p,f,(a.block b c).trans d⟩,Bw h.row (λg e=>a.block g (h.row.lt g e).2),h.ne,h.hb⟩
theorem BW.fresh (w:Xh):BW (w.alloc (.cells #[.pointer none,.slice none 0 0] 188)) w.heap.size w.heap.size []:=
 ⟨.slice none 0 0,⟨_,.inl rfl,by show (w.heap.push _)[w.heap.size]?=_;simp⟩,World.ownsRow_nil _ _ _ _,by simp[Value.ownBlock],Xd _⟩
theorem TF (h:Mk w B b buf out):XY Tryz.prog 152 #[.pointer (some ⟨b,0,none⟩)] w λe w'=>e = .returned (.tuple #[])/\w'.heap[b]?=some (.cells #[.pointer (some ⟨b,0,none⟩),buf] 188)/\w'.heap.size=w.heap.size/\(∀k,k≠b->w'.heap[k]?=w.heap[k]?)/\w'.os=w.os/\w'.tape=w.tape/\w'.output=w.output:=by
 obtain⟨j,c,l⟩:=Yu.1 Tryz.sizeBdb;obtain⟨p,i,a⟩:=h.cell;have c4:w.cell? ⟨b,0,none⟩=some p:=by simp[Xg,a]
 have d:w.shape? b=some (188,2):=by simp[World.shape?,a]
 have m:w.frozen? ⟨b,0,none⟩=false:=by simp[XM,a]
 have f:=Aa a;clear h a
 rcases i with rfl|rfl
 ·go_enter Tryz.func152,Tryz.ntmps152
  go_wp2
  rw[Lib.run_to_unsafe w ⟨b,0,none⟩ Tryz.underlying185 Tryz.underlying296 c (by rw[l];decide) d (by show 0<2;omega)];simp only[ZV];rw[Oper.upon_value]
  go_wp2
  rw[run_callFunc_extern Tryz.func190 (by kernel_rfl) (by kernel_rfl) (by kernel_rfl) (e:=Extern.AbiNoEscape.same) (by kernel_rfl)];rw[Lib.run_noEscape];simp only[ZV];rw[Oper.upon_value]
  go_wp2
  rw[Lib.run_from_unsafe w ⟨b,0,none⟩ Tryz.underlying296 Tryz.underlying185 c d Tryz.liesBdb];simp only[ZV];rw[Oper.upon_value]
  go_wp2
  go_end0
  exact⟨rfl,(Xj _ b 0 _ _ _ f.out).trans rfl,by simp,λk g=>Xn _ ⟨b,0,none⟩ _ k g,rfl,rfl,rfl⟩
 ·go_enter Tryz.func152,Tryz.ntmps152
  go_wp2
  rw[Lib.run_neq_ptr_same w _ Tryz.underlying185 c]
  go_wp2
  go_end0
  exact⟨rfl,f.out,rfl,λ_ _=>rfl,rfl,rfl,rfl⟩
theorem GP (h:BW w B b out) (s:Tx) (E:out.length+s.length<=140737488355328) (R:B<=w.heap.size) :
 XY Tryz.prog 121 #[Ab b,.string (bs s)] w λe w'=>e = .returned (.tuple #[.int .i64 s.length,.nilIface])/\BW w' B b (out++s)/\Below B w w':=by
 obtain⟨buf,h⟩:=h;obtain⟨N,I,K,D,C⟩:=YI Tryz.infoU8b;have z:=Bg s;have M:=Aa (TF h);have H:=Aa h;clear h;unfold Ab
 go_enter Tryz.func121,Tryz.ntmps121
 go_wp2_with fail
 refine M.out.mono ?_;rintro e w1 ⟨rfl,c,j,d,i,l,m⟩;have y:w1.ownsRow B 5 1 buf out.length (ZF out):=Bw H.out.row λg e=>d g (λq=>H.out.ne (by rw[e,q]));have c5:w1.cell? ⟨b,1,none⟩=some buf:=by simp[Xg,c]
 have t:=Aa (⟨c,j,d,i,l,m⟩:_/\_/\_/\_/\_/\_);clear c j d i l m
 go_wp2_with (at_builtin;refine Lib.wpList_append_own_string _ rfl _ _ 186 9 rfl B 5 N Tryz.underlying186 Tryz.underlying9 I K D C _ _ _ rfl y (bs s) rfl ?c3 ?c4 ?c5 ?_)
 case c3=>rw[z];unfold maxLen;omega
 case c4=>rw[z];exact E
 case c5=>have:=t.out.2.1;omega
 intro F u n a G;obtain⟨c,j,d,i,l,m⟩:=t.out;have f:u.heap[b]?=some (.cells #[.pointer (some ⟨b,0,none⟩),buf] 188):=(a.block b (by rw[j];exact H.out.lt) (λe=>H.out.ne e.symm)).trans c;have O:u.cell? ⟨b,1,none⟩=some buf:=by simp[Xg,f]
 have Q:u.frozen? ⟨b,1,none⟩=false:=by simp[XM,f]
 obtain⟨o,p,cap,rfl⟩:∃o p cap,F = .slice o p cap:=by
  rcases n.2 with⟨r,_⟩|⟨g,cap,P,r,_⟩
  ·exact⟨_,_,_,r⟩
  ·exact⟨_,_,_,r⟩
 have J:=Aa (⟨f,n,a⟩:_/\_/\_);clear f n a G c j d i l m y
 go_wp2
 go_ret2
 obtain⟨c,j,d,i,l,m⟩:=t.out;obtain⟨f,n,a⟩:=J.out;have v:(Yn o p cap).ownBlock≠some b:=Lib.ownBlock_ne n f (by decide);have A:ZF out++Lib.strCells (bs s)=ZF (out++s):=by rw[Lib.strCells_eq,Lib.byteCells_append];rfl
 refine⟨rfl,⟨.slice o p cap,⟨_,.inr rfl,(Xj _ b 1 _ _ _ f).trans rfl⟩,?_,v,H.out.hb⟩,⟨a.os.trans i,a.tape.trans l,a.output.trans m,by simp only[XA];have:=a.size;omega,λk S=>?_⟩⟩
 ·rw[Xb,<-A];exact Bw n λg e=>Xn _ ⟨b,1,none⟩ _ g (λq=>v (by rw[e,q]))
 ·have x:k≠b:=by have:=H.out.hb;omega
  rw[Xn _ ⟨b,1,none⟩ _ k x,a.block k (by omega) (λe=>by have:=(H.out.row.lt k e.symm).1;omega),d k x]
theorem Ip (h:BW w B b out) (c:UInt8) (R:out.length+1<=140737488355328) (U:B<=w.heap.size) :
 XY Tryz.prog 135 #[Ab b,.int .u8 c.toNat] w λe w'=>e = .returned .nilIface/\BW w' B b (out++[c])/\Below B w w':=by
 obtain⟨buf,h⟩:=h;obtain⟨O,I,M,D,C⟩:=YI Tryz.infoU8b;have N:=Aa (TF h);have H:=Aa h;clear h;unfold Ab
 go_enter Tryz.func135,Tryz.ntmps135
 go_wp2_with fail
 refine N.out.mono ?_;rintro e w1 ⟨rfl,d,m,f,l,n,o⟩;have y:w1.ownsRow B 5 1 buf out.length (ZF out):=Bw H.out.row λg e=>f g (λr=>H.out.ne (by rw[e,r]));have c5:w1.cell? ⟨b,1,none⟩=some buf:=by simp[Xg,d]
 have s:=Aa (⟨d,m,f,l,n,o⟩:_/\_/\_/\_/\_/\_);clear d m f l n o
 go_wp2_with (at_builtin;refine wpList_append_own _ rfl _ _ 186 rfl B 5 O (.int .u8 0) 1 1 Tryz.underlying186 I M D C rfl (by decide) _ _ _ rfl (y.alloc _) ⟨w1.heap.size,0,none⟩ 1 1 [.int .u8 c.toNat] rfl rfl ?c1 ?c2 ?c3 ?c4 ?c5 ?_)
 case c1=>
  intro j u q
  match j,q with
  |0,q=>simp at q;subst q;simp[Addr.add]
 case c2=>intro u z;simp at z;subst z;rfl
 case c3=>unfold maxLen;omega
 case c4=>omega
 case c5=>have:=s.out.2.1;simp;omega
 intro F t p a G;obtain⟨d,m,f,l,n,o⟩:=s.out;have i:t.heap[b]?=some (.cells #[.pointer (some ⟨b,0,none⟩),buf] 188):=by
  rw[a.block b (by simp;have:=H.out.lt;omega) (λe=>H.out.ne e.symm),Lib.alloc_old w1 _ b (by rw[m];exact H.out.lt)];exact d
 have Q:t.cell? ⟨b,1,none⟩=some buf:=by simp[Xg,i]
 have T:t.frozen? ⟨b,1,none⟩=false:=by simp[XM,i]
 obtain⟨g,cap,rfl⟩:∃g cap,F = .slice (some ⟨g,0,none⟩) (out.length+1) cap:=by
  rcases p.2 with⟨_,P⟩|⟨g,cap,S,J,_⟩
  ·omega
  ·exact⟨g,cap,J⟩
 have K:=Aa (⟨i,p,a⟩:_/\_/\_);clear i p a G d m f l n o y
 go_wp2
 go_ret
 obtain⟨d,m,f,l,n,o⟩:=s.out;obtain⟨i,p,a⟩:=K.out;have v:(Yn (some ⟨g,0,none⟩) (out.length+1) cap).ownBlock≠some b:=Lib.ownBlock_ne p i (by decide);have A:ZF out++[.int .u8 c.toNat]=ZF (out++[c]):=by rw[Lib.byteCells_append];rfl
 have E:=a.size
 simp at E
 refine⟨rfl,⟨.slice (some ⟨g,0,none⟩) (out.length+1) cap,⟨_,.inr rfl,(Xj _ b 1 _ _ _ i).trans rfl⟩,?_,v,H.out.hb⟩,⟨a.os.trans l,a.tape.trans n,a.output.trans o,by simp only[XA];omega,λk V=>?_⟩⟩
 ·rw[Xb,<-A];exact Bw p λg e=>Xn _ ⟨b,1,none⟩ _ g (λr=>v (by rw[e,r]))
 ·have x:k≠b:=by have:=H.out.hb;omega
  rw[Xn _ ⟨b,1,none⟩ _ k x,a.block k (by simp;omega) (λe=>by have:=(H.out.row.lt k e.symm).1;omega),Lib.alloc_old w1 _ k (by omega),f k x]
theorem aeK (h:BW w B b out) (g:B<=w.heap.size) :
 XY Tryz.prog 102 #[Ab b] w λe w'=>e = .returned (.string (bs out))/\Below B w w':=by
 obtain⟨buf,h⟩:=h;have i:Lib.IsBuilder 188 5 B b (ZF out) w:=by
  obtain⟨p,d,c⟩:=h.cell;have a:=h.row;have e:(ZF out).length=out.length:=by simp[ZF]
  rw[<-e] at a
  rcases d with rfl|rfl
  ·exact .inl ⟨h.hb,buf,c,a,h.ne⟩
  ·exact .inr ⟨h.hb,buf,c,a,h.ne⟩
 refine(Any.Builder_String_any Tryz.lays169 Tryz.extra169 B b out w i g).mono ?_;rintro e w' ⟨rfl,f⟩
 exact⟨rfl,f⟩
end
end Go.Proofs.YtdcacoifehkioaaGreatDoor
namespace Go.Proofs.YtdcacoifehkioaaGreatDoor
open Go.RowKit Go.Proofs.Cod
def Fj (r:Bool) (n:Int):Prop:=0<=n/\n<1000/\(r=true->n<4)
def He (i:Ad):Prop:=(0<=i.r/\i.r<4)/\Fj i.aR i.aN/\Fj i.bR i.bN
structure Gq (nv nf nl nt n:Nat) (i:Ad):Prop where
 sm:He i
 x0:0<=i.x
 ex:∃q,q∈Bb/\i.op=q.1/\((118:UInt8)∈q.2->i.x<nv)/\((102:UInt8)∈q.2->i.x<nf)/\((109:UInt8)∈q.2->i.x<nl)/\((116:UInt8)∈q.2->i.x<nt)/\((108:UInt8)∈q.2->i.x<=n)
structure ae8 (vs fs ls ts:List Tx) (C:List (List Ad)):Prop where
 v:vs.length<=4
 f:fs.length<=4
 l:ls.length<=4
 t:ts.length<=4
 v8:∀x,x∈vs->x.length<=8
 f8:∀x,x∈fs->x.length<=8
 l8:∀x,x∈ls->x.length<=8
 t8:∀x,x∈ts->x.length<=8
 len:C.length=ts.length
 code:∀c,c∈C->c.length<=24/\∀i,i∈c->Gq vs.length fs.length ls.length ts.length c.length i
def El:Tx:=[115,101,116]
def Eo:Tx:=[97,100,100]
def Ek:Tx:=[115,117,98]
def Em:Tx:=[109,117,108]
def Bq:Tx:=[108,111,97,100]
def AH:Tx:=[115,116,111,114,101]
def DY:Tx:=[103,101,116]
def DX:Tx:=[112,117,116]
def BN:Tx:=[108,111,99,107]
def CG:Tx:=[117,110,108,111,99,107]
def BI:Tx:=[115,112,97,119,110]
def BO:Tx:=[106,111,105,110]
def Dg:Tx:=[106,117,109,112]
def CV:Tx:=[106,101,113]
def CU:Tx:=[106,108,116]
def Dh:Tx:=[99,104,101,99,107]
def En:Tx:=[101,110,100]
structure TS where
 ph:Int
 pc:Nat
 regs:List Int
structure MS where
 vars:List Int
 flags:List Int
 locks:List Int
 thr:List TS
structure Ev where
 t:Int
 k:Int
 o:Int
 v:Int
def AC:TS:=⟨0,0,[0,0,0,0]⟩
def Cm:Ad:=CB En
def BA (C:List (List Ad)) (t:Nat) (th:TS):Ad:=(C.getD t []).getD th.pc Cm
def Af (th:TS) (r:Bool) (n:Int):Int:=if r then th.regs.getD n.toNat 0 else n
def MS.th (s:MS) (t:Nat):TS:=s.thr.getD t AC
def MS.Ae (s:MS) (t:Nat) (th:TS):MS:={s with thr:=s.thr.set t th}
def Du (th:TS):Bool:=th.ph == 2||th.ph == 3
def BH (s:MS) (x:Ad):Bool:=
 if x.op=BN then decide (s.locks.getD x.x.toNat 0≠-1) else if x.op=BO then !Du (s.th x.x.toNat) else if x.op=BI then decide ((s.th x.x.toNat).ph≠0) else false
def AV (C:List (List Ad)) (s:MS) (t:Int):Int:=
 if t<0\/(s.thr.length:Int)<=t\/(s.th t.toNat).ph=0 then 5 else if Du (s.th t.toNat)=true then 6 else if BH s (BA C t.toNat (s.th t.toNat))=true then 7 else 0
def Ba (k:Bool) (s:MS) (t:Nat) (x:Ad):MS×Ev:=
 let th:=s.th t
 let a:=Af th x.aR x.aN
 let b:=Af th x.bR x.bN
 let to:=th.pc+1
 let ov:=if k then th.pc else th.pc+1
 let n:=x.x.toNat
 let reg:=λv=>s.Ae t {th with pc:=to,regs:=th.regs.set x.r.toNat v}
 if x.op=El then(reg a,⟨t,0,0,0⟩)
 else if x.op=Eo then(reg ((a+b) % 1000),⟨t,0,0,0⟩)
 else if x.op=Ek then(reg ((a - b+1000) % 1000),⟨t,0,0,0⟩)
 else if x.op=Em then(reg (a*b % 1000),⟨t,0,0,0⟩)
 else if x.op=Bq then(reg (s.vars.getD n 0),⟨t,1,x.x,s.vars.getD n 0⟩)
 else if x.op=AH then({s.Ae t {th with pc:=to} with vars:=s.vars.set n a},⟨t,2,x.x,a⟩)
 else if x.op=DY then(reg (s.flags.getD n 0),⟨t,3,x.x,s.flags.getD n 0⟩)
 else if x.op=DX then({s.Ae t {th with pc:=to} with flags:=s.flags.set n a},⟨t,4,x.x,a⟩)
 else if x.op=BN then({s.Ae t {th with pc:=to} with locks:=s.locks.set n t},⟨t,5,x.x,0⟩)
 else if x.op=CG then(if s.locks.getD n 0≠t then(s.Ae t {th with ph:=3,pc:=ov},⟨t,9,0,0⟩) else({s.Ae t {th with pc:=to} with locks:=s.locks.set n (-1)},⟨t,6,x.x,0⟩))
 else if x.op=BI then((s.Ae t {th with pc:=to}).Ae n {(s.Ae t {th with pc:=to}).th n with ph:=1},⟨t,7,x.x,0⟩)
 else if x.op=BO then(s.Ae t {th with pc:=to},⟨t,8,x.x,0⟩)
 else if x.op=Dg then(s.Ae t {th with pc:=n},⟨t,0,0,0⟩)
 else if x.op=CV then(s.Ae t {th with pc:=if a=b then n else to},⟨t,0,0,0⟩)
 else if x.op=CU then(s.Ae t {th with pc:=if a<b then n else to},⟨t,0,0,0⟩)
 else if x.op=Dh then(if a≠b then(s.Ae t {th with ph:=3,pc:=ov},⟨t,9,0,0⟩) else(s.Ae t {th with pc:=to},⟨t,0,0,0⟩))
 else(s.Ae t {th with ph:=2,pc:=ov},⟨t,10,0,0⟩)
def AJ (nv nf nl nt:Nat):MS:=⟨Xr nv 0,Xr nf 0,Xr nl (-1),(YB nt).map λt=>if t=0 then {AC with ph:=1} else AC⟩
def CD (n:Int):Prop:=0<=n/\n<1000
structure GQ (n:Nat) (th:TS):Prop where
 ph:0<=th.ph/\th.ph<=3
 pc:th.ph<=1->th.pc<=n
 pc2:th.pc<=n+1
 rl:th.regs.length=4
 rv:∀v,v∈th.regs->CD v
structure AW (nv nf nl:Nat) (C:List (List Ad)) (s:MS):Prop where
 vl:s.vars.length=nv
 fl:s.flags.length=nf
 ll:s.locks.length=nl
 tl:s.thr.length=C.length
 vv:∀v,v∈s.vars->CD v
 fv:∀v,v∈s.flags->CD v
 lv:∀v,v∈s.locks->-1<=v/\v<C.length
 th:∀t,t<C.length->GQ (C.getD t []).length (s.th t)
theorem JZ (nv nf nl:Nat) (C:List (List Ad)):AW nv nf nl C (AJ nv nf nl C.length):=by
 refine⟨by simp[AJ],by simp[AJ],by simp[AJ],by simp[AJ],λv a=>?_,λv a=>?_,λv a=>?_,λt c=>?_⟩
 ·obtain⟨-,rfl⟩:=agi.1 a
  exact⟨by omega,by omega⟩
 ·obtain⟨-,rfl⟩:=agi.1 a
  exact⟨by omega,by omega⟩
 ·obtain⟨-,rfl⟩:=agi.1 a
  exact⟨by omega,by omega⟩
 ·have e:(AJ nv nf nl C.length).th t=if t=0 then {AC with ph:=1} else AC:=by
   unfold MS.th AJ;rw[Xc,Xs,List.getElem?_range c];rfl
  rw[e];have b:∀v,v∈AC.regs->CD v:=by
   intro v a;simp[AC] at a;subst a
   exact⟨by omega,by omega⟩
  split
  ·exact⟨⟨by decide,by decide⟩,λ_=>Xx _,Xx _,rfl,b⟩
  ·exact⟨⟨by decide,by decide⟩,λ_=>Xx _,Xx _,rfl,b⟩
theorem CN {α:Type} {l:List α} {k:Nat} {d:α} (h:k<l.length):l.getD k d∈l:=by
 rw[Xc,Xe h];exact List.getElem_mem h
theorem JM {α:Type} {l:List α} {p:α->Prop} (h:∀v,v∈l->p v) {k:Nat} {x:α} (b:p x):∀v,v∈l.set k x->p v:=λv a=>by
 rcases List.mem_or_eq_of_mem_set a with a|rfl
 ·exact h v a
 ·exact b
theorem Fr (s:MS) (t u:Nat) (th:TS) (b:t<s.thr.length):(s.Ae t th).th u=if u=t then th else s.th u:=by
 unfold MS.th MS.Ae;rw[Xc,Yy,Xc]
 by_cases e:u=t
 ·subst e;rw[if_pos rfl,if_pos b,if_pos rfl];rfl
 ·rw[if_neg (λa=>e a.symm),if_neg e]
section
variable {nv nf nl:Nat} {C:List (List Ad)} {s:MS}
theorem AW.Ae (h:AW nv nf nl C s) {t:Nat} (c:t<C.length) {th:TS} (a:GQ (C.getD t []).length th):AW nv nf nl C (s.Ae t th):=by
 refine⟨h.vl,h.fl,h.ll,by show (s.thr.set t th).length=_;rw[Yb];exact h.tl,h.vv,h.fv,h.lv,λu b=>?_⟩;rw[Fr s t u th (by rw[h.tl];exact c)]
 split
 ·rename_i e;subst e;exact a
 ·exact h.th u b
theorem JD {n:Nat} {th:TS} (h:GQ n th) {r:Bool} {m:Int} (a:Fj r m):CD (Af th r m):=by
 unfold Af
 split
 ·rename_i e;have:=a.2.2 e;have b:=a.1;exact h.rv _ (CN (by rw[h.rl];omega))
 ·exact⟨a.1,a.2.1⟩
theorem Nh (a:Int):CD (a % 1000):=⟨by omega,by omega⟩
theorem KO (k:Bool) (h:AW nv nf nl C s) {t:Nat} (a:t<C.length) (B:(s.th t).ph=1) {x:Ad} (f:BH s x=false) (d:x=Cm\/(Gq nv nf nl C.length (C.getD t []).length x/\(s.th t).pc<(C.getD t []).length)):AW nv nf nl C (Ba k s t x).1:=by
 have b:=h.th t a;have D:=b.pc (by omega);have y:(if k then(s.th t).pc else(s.th t).pc+1)<=(C.getD t []).length+1:=by split<;>omega
 have fin:∀p:Int,p=2\/p=3->GQ (C.getD t []).length {s.th t with ph:=p,pc:=if k then(s.th t).pc else(s.th t).pc+1}:=λp G=>
  ⟨by show 0<=p/\p<=3;omega,λe=>by have e:p<=1:=e;omega,y,b.rl,b.rv⟩
 rcases d with rfl|⟨d,A⟩
 ·exact h.Ae a (fin 2 (.inl rfl))
 ·have g:∀n,n<=(C.getD t []).length->GQ (C.getD t []).length {s.th t with pc:=n}:=λn i=>⟨b.ph,λ_=>i,by show n<=_;omega,b.rl,b.rv⟩
  have c:∀v,CD v->GQ (C.getD t []).length {s.th t with pc:=(s.th t).pc+1,regs:=(s.th t).regs.set x.r.toNat v}:=λv w=>
   ⟨b.ph,λ_=>by show _+1<=_;omega,by show _+1<=_;omega,by show (List.set _ _ _).length=4;rw[Yb];exact b.rl,JM b.rv w⟩
  have go:=h.Ae a (g ((s.th t).pc+1) (by omega));have m:=JD b d.sm.2.1;have F:=JD b d.sm.2.2;obtain⟨q,u,o,x1,x2,x3,x4,l⟩:=d.ex;have z:=d.x0;simp only[Bb,List.mem_cons,List.not_mem_nil,or_false] at u
  rcases u with rfl|rfl|rfl|rfl|rfl|rfl|rfl|rfl|rfl|rfl|rfl|rfl|rfl|rfl|rfl|rfl|rfl<;>unfold Ba<;>rw[o]
  ·exact h.Ae a (c _ m)
  ·exact h.Ae a (c _ (Nh _))
  ·exact h.Ae a (c _ (Nh _))
  ·exact h.Ae a (c _ (Nh _))
  ·exact h.Ae a (c _ (h.vv _ (CN (by rw[h.vl];have:=x1 (by decide);omega))))
  ·exact⟨by show (List.set _ _ _).length=_;rw[Yb];exact h.vl,go.fl,go.ll,go.tl,JM h.vv m,go.fv,go.lv,go.th⟩
  ·exact h.Ae a (c _ (h.fv _ (CN (by rw[h.fl];have:=x2 (by decide);omega))))
  ·exact⟨go.vl,by show (List.set _ _ _).length=_;rw[Yb];exact h.fl,go.ll,go.tl,go.vv,JM h.fv m,go.lv,go.th⟩
  ·exact⟨go.vl,go.fl,by show (List.set _ _ _).length=_;rw[Yb];exact h.ll,go.tl,go.vv,go.fv,JM h.lv ⟨by omega,by omega⟩,go.th⟩
  ·show AW nv nf nl C (YL (if s.locks.getD x.x.toNat 0≠t then _ else _:MS×Ev))
   split
   ·exact h.Ae a (fin 3 (.inr rfl))
   ·exact⟨go.vl,go.fl,by show (List.set _ _ _).length=_;rw[Yb];exact h.ll,go.tl,go.vv,go.fv,JM h.lv ⟨by omega,by omega⟩,go.th⟩
  ·have i:x.x.toNat<C.length:=by have:=x4 (by decide);omega
   have j:=go.th _ i;refine go.Ae i ⟨⟨by show (0:Int)<=1;decide,by show (1:Int)<=3;decide⟩,λ_=>j.pc ?_,j.pc2,j.rl,j.rv⟩;have E:(s.th x.x.toNat).ph=0:=by
    unfold BH at f;rw[o] at f;have f:decide ((s.th x.x.toNat).ph≠0)=false:=f
    simpa using f
   rw[Fr s t _ _ (by rw[h.tl];exact a)]
   split
   ·show (s.th t).ph<=1;omega
   ·omega
  ·exact go
  ·exact h.Ae a (g _ (by have:=l (by decide);omega))
  ·exact h.Ae a (g _ (by have:=l (by decide);split<;>omega))
  ·exact h.Ae a (g _ (by have:=l (by decide);split<;>omega))
  ·show AW nv nf nl C (YL (if Af _ _ _≠Af _ _ _ then _ else _:MS×Ev))
   split
   ·exact h.Ae a (fin 3 (.inr rfl))
   ·exact go
  ·exact h.Ae a (fin 2 (.inl rfl))
end
def Am (w:Xh) (b T n:Nat) (f:Nat->Xk):Prop:=∃cs:Array Xk,w.heap[b]?=some (.cells cs T)/\cs.size=n/\∀k,k<n->cs[k]?=some (f k)
structure Ac (S:Nat->Prop) (w w':Xh):Prop where
 os:w'.os=w.os
 tape:w'.tape=w.tape
 output:w'.output=w.output
 size:w.heap.size<=w'.heap.size
 block:∀k,k<w.heap.size->¬S k->w'.heap[k]?=w.heap[k]?
section
variable {w w' w'':Xh} {b T n:Nat} {f g:Nat->Xk} {S S':Nat->Prop}
theorem Am.lt (h:Am w b T n f):b<w.heap.size:=by
 obtain⟨cs,a,-,-⟩:=h
 exact(Xa.1 a).1
theorem Am.cell (h:Am w b T n f) {k:Nat} (c:k<n):w.cell? ⟨b,k,none⟩=some (f k):=by
 obtain⟨cs,d,e,a⟩:=h;rw[cell_of_row w b k cs T (0,0) d,a k c]
theorem Am.frozen (h:Am w b T n f) (k:Nat):w.frozen? ⟨b,k,none⟩=false:=by
 obtain⟨cs,a,d,c⟩:=h;simp[XM,a]
theorem Am.same (h:Am w b T n f) (e:w'.heap[b]?=w.heap[b]?):Am w' b T n f:=by
 obtain⟨cs,a,c⟩:=h
 exact⟨cs,e.trans a,c⟩
theorem Am.congr (h:Am w b T n f) (e:∀k,k<n->f k=g k):Am w b T n g:=by
 obtain⟨cs,i,d,c⟩:=h
 exact⟨cs,i,d,λk a=>by rw[c k a,e k a]⟩
theorem Am.set (h:Am w b T n f) (k:Nat) (v:Xk):Am (w.setCell ⟨b,k,none⟩ v) b T n (λj=>if j=k then v else f j):=by
 obtain⟨cs,i,g,a⟩:=h;refine⟨cs.setIfInBounds k v,Xj w b k cs T v i,by simp[g],λj c=>?_⟩;rw[Array.getElem?_setIfInBounds]
 by_cases e:k=j
 ·subst e;rw[if_pos rfl,if_pos (by omega)];show some v=some (if k=k then v else f k);rw[if_pos rfl]
 ·rw[if_neg e,a j c];show some (f j)=some (if j=k then v else f j);rw[if_neg (λd:j=k=>e d.symm)]
theorem Am.other (h:Am w b T n f) {a:Addr} (c:b≠a.block) (v:Xk):Am (w.setCell a v) b T n f:=h.same (Xt w a b v c)
theorem Am.below (h:Am w b T n f) (a:Below w.heap.size w w'):Am w' b T n f:=h.same (a.block b h.lt)
theorem Am.keep (h:Am w b T n f) (c:Ac S w w') (a:¬S b):Am w' b T n f:=h.same (c.block b h.lt a)
theorem Am.new (w:Xh) (cs:Array Xk) (T:Nat) (a:∀k,k<cs.size->cs[k]?=some (f k)):Am (w.alloc (.cells cs T)) w.heap.size T cs.size f:=⟨cs,by show (w.heap.push _)[w.heap.size]?=_;simp,rfl,a⟩
theorem Ac.refl (w:Xh):Ac S w w:=⟨rfl,rfl,rfl,Xd _,λ_ _ _=>rfl⟩
theorem Ac.trans (h:Ac S w w') (a:Ac S w' w''):Ac S w w'':=⟨a.os.trans h.os,a.tape.trans h.tape,a.output.trans h.output,Nat.le_trans h.size a.size,λk c b=>(a.block k (Nat.lt_of_lt_of_le c h.size) b).trans (h.block k c b)⟩
theorem Ac.mono (h:Ac S w w') (c:∀k,k<w.heap.size->S k->S' k):Ac S' w w':=⟨h.os,h.tape,h.output,h.size,λk a b=>h.block k a (λe=>b (c k a e))⟩
theorem Ac.set (h:Ac S w w') {a:Addr} (b:S a.block\/w.heap.size<=a.block) (v:Xk):Ac S w (w'.setCell a v):=
 ⟨h.os,h.tape,h.output,by rw[XA];exact h.size,λk d c=>(Xt w' a k v (λe=>by subst e;rcases b with b|b;exact c b;omega)).trans (h.block k d c)⟩
theorem Ac.DM (h:Below w.heap.size w w'):Ac S w w':=⟨h.os,h.tape,h.output,h.size,λk a _=>h.block k a⟩
theorem Ac.alloc (h:Ac S w w') (o:Obj):Ac S w (w'.alloc o):=h.trans (Ac.DM ((Below.refl _ _).alloc (Xd _) o))
theorem Ac.drew (h:Ac S w w'):Ac S w w'.drew:=⟨h.os,h.tape,h.output,h.size,h.block⟩
theorem ME (vs:List Xk) (o:Nat):∀{w:Xh} {f:Nat->Xk},Am w b T n f->o+vs.length<=n->Am (w.setCells b o vs) b T n (λj=>if o<=j/\j<o+vs.length then vs.getD (j - o) undef else f j):=by
 induction vs generalizing o with
 |nil=>
  intro w f h _;exact h.congr λk _=>by
   rw[if_neg];simp only[List.length_nil];omega
 |cons v r d=>
  intro w f h c;simp only[XJ] at c;have:=d (o+1) (h.set o v) (by omega);show Am ((w.setCell ⟨b,o,none⟩ v).setCells b (o+1) r) b T n _;refine this.congr λk g=>?_;simp only[XJ]
  by_cases e:k=o
  ·subst e;rw[if_neg (by omega),if_pos rfl,if_pos ⟨Xd _,by omega⟩,Nat.sub_self];rfl
  ·by_cases a:o+1<=k/\k<o+1+r.length
   ·rw[if_pos a,if_pos (by omega),show k - o=(k - (o+1))+1 by omega];rfl
   ·rw[if_neg a,if_neg e,if_neg (by omega)]
theorem EZ (vs:List Xk) (o:Nat):∀{w':Xh},Ac S w w'->S b\/w.heap.size<=b->Ac S w (w'.setCells b o vs):=by
 induction vs generalizing o with
 |nil=>exact λh _=>h
 |cons v r c=>exact λh a=>c (o+1) (h.set a v) a
theorem Qe (vs:List Xk) (o:Nat) {k:Nat} (c:k≠b):∀{w:Xh},(w.setCells b o vs).heap[k]?=w.heap[k]?:=by
 induction vs generalizing o with
 |nil=>exact rfl
 |cons v r a=>exact(a (o+1)).trans (Xt _ _ k v c)
end
section
variable {P:Program}
theorem aeU (b o j:Nat):(⟨b,o,none⟩:Addr).add j=⟨b,o+j,none⟩:=by unfold Addr.add;split<;>simp_all
theorem JN (w:Xh) (b o n a:Nat) (f:Nat->Xk) (d:TypeDesc) (l:∀j,j<n->w.cell? ⟨b,o+j,none⟩=some (f j)) (p:P.underlying a=some d) (q:(match d with | .struct _ | .array _ _=>true|_=>false)=true) (e:(P.info? a).map (·.size)=some n) :
 (loadVar a ⟨b,o,none⟩).run P w = .ok (.agg ((YB n).map f).toArray) w:=by
 have h:=run_loadCells (P:=P) w ⟨b,o,none⟩ n f (λj k=>by rw[aeU];exact l j k)
 cases c:P.info? a with
 |none=>simp[c] at e
 |some i=>
  have g:i.size=n:=by simpa [c] using e
  have m:(isAgg a).run P w = .ok true w:=by
   unfold isAgg;rw[Sem.run_bind,run_underlying p w]
   cases d<;>simp_all
  simp[loadVar,Sem.run_bind,m,sizeOf,typeInfo,c,g,h]
theorem Qj (w:Xh) (b o c:Nat) (vs:Array Xk) (h:∀j,j<vs.size->(w.cell? ⟨b,o+j,none⟩).isSome=true) (f:∀j,j<vs.size->w.frozen? ⟨b,o+j,none⟩=false) (e:(P.info? c).map (·.size)=some vs.size) (k:∀v∈vs.toList,v.oneCell'=true) :
 (storeVar c ⟨b,o,none⟩ (.agg vs)).run P w = .ok () (w.setCells b o vs.toList):=by
 have:=run_storeCells_cells (P:=P) b o vs.toList 0 w (λj a=>by rw[agj];exact h j (by simpa using a)) (λj a=>by rw[agj];exact f j (by simpa using a)) k;rw[agj] at this
 cases d:P.info? c with
 |none=>simp[d] at e
 |some i=>
  have g:vs.size=i.size:=by simp[d] at e;omega
  simp[storeVar,sizeOf,typeInfo,d,Value.cells,g,this]
theorem Mn {g:Array Oper} {rest:List Oper} {o:Oper} {a:Act} {w:Xh} {Q:Exit->Act->Xh->Prop} (q:o.guard=none) (c:YH) (x:Operand) (m:o.op = .load c x)
 (b e n:Nat) (p:a.eval x = .pointer (some ⟨b,e,none⟩)) (f:Nat->Xk) (d:TypeDesc) (i:∀j,j<n->w.cell? ⟨b,e+j,none⟩=some (f j)) (s:P.underlying c=some d) (r:(match d with | .struct _ | .array _ _=>true|_=>false)=true) (k:(P.info? c).map (·.size)=some n)
 (h:wpList P g Q rest (a.put o.dst (.agg ((YB n).map f).toArray)) w):wpList P g Q (o::rest) a w:=
 wpList_plain q λ_ l=>by
  unfold Oper.wp execOp;simp only[m,p,Instr.loadAt,Instr.sureAddr,Sem.run_bind,Sem.run_pure,afP,JN w b e n c f d i s r k];exact l _ _ h
theorem Iv {e:Array Oper} {rest:List Oper} {o:Oper} {a:Act} {w:Xh} {Q:Exit->Act->Xh->Prop} (q:o.guard=none) (d:YH) (x y:Operand) (n:o.op = .store d x y)
 (b c:Nat) (vs:Array Xk) (p:a.eval x = .pointer (some ⟨b,c,none⟩)) (i:a.eval y = .agg vs) (l:∀j,j<vs.size->(w.cell? ⟨b,c+j,none⟩).isSome=true) (g:∀j,j<vs.size->w.frozen? ⟨b,c+j,none⟩=false) (k:(P.info? d).map (·.size)=some vs.size) (f:∀v∈vs.toList,v.oneCell'=true)
 (h:wpList P e Q rest (a.put o.dst undef) (w.setCells b c vs.toList)):wpList P e Q (o::rest) a w:=
 wpList_plain q λ_ m=>by
  unfold Oper.wp execOp;simp only[n,p,i,Instr.storeAt,Instr.sureAddr,Sem.run_bind,Sem.run_pure,afP,Qj w b c d vs l g k f];exact m _ _ h
end
structure PD where
 vs:List Tx
 fs:List Tx
 ls:List Tx
 ts:List Tx
 C:List (List Ad)
def LP:List (Tx×Nat):=[(El,74),(Eo,77),(Ek,78),(Em,79),(Bq,80),(AH,82),(DY,84),(DX,85),(BN,86),(CG,87),(BI,88),(BO,89),(Dg,91),(CV,93),(CU,94),(Dh,95),(En,96)]
def Ed (op:Tx):Xk:=match LP.find? λp=>p.1=op with
 |some p=>.func (.func p.2) #[] #[]
 |none=>.nilFunc
def LC (i:Ad) (j:Nat):Xk:=if j=0 then .string (bs i.op) else if j=1 then .int .i64 i.r else if j=2 then .bool i.aR else if j=3 then .int .i64 i.aN else if j=4 then .bool i.bR else if j=5 then .int .i64 i.bN else .int .i64 i.x
def Gk (i:Ad) (j:Nat):Xk:=if j<7 then LC i j else Ed i.op
def Tj (c:Option (List Ad)) (k j:Nat):Xk:=match c with
 |none=>Gk (CB []) j
 |some c=>if k<c.length then Gk (c.getD k Cm) j else if k=c.length then Gk Cm j else Gk (CB []) j
def BR (nm:Tx) (c:Option (List Ad)) (th:TS) (j:Nat):Xk:=if j=0 then .string (bs nm) else if j=1 then .int .i64 th.ph else if j=2 then .int .i64 th.pc else if j<7 then .int .i64 (th.regs.getD (j - 3) 0) else Tj c ((j - 7) / 8) ((j - 7) % 8)
def BK (ns:List Tx) (l:List Int) (k:Nat):Xk:=if k=8 then .int .i64 ns.length else if k % 2=0 then .string (bs (ns.getD (k / 2) [])) else .int .i64 (l.getD (k / 2) 0)
def Az (p:PD) (s:MS) (k:Nat):Xk:=if k<9 then BK p.vs s.vars k else if k<18 then BK p.fs s.flags (k - 9) else if k<27 then BK p.ls s.locks (k - 18) else if k<855 then BR (p.ts.getD ((k - 27) / 207) []) (p.C[(k - 27) / 207]?) (s.th ((k - 27) / 207)) ((k - 27) % 207) else .int .i64 p.ts.length
section
variable (p:PD) (s:MS)
theorem Rt {i:Nat} (h:i<4):Az p s (i*2+1) = .int .i64 (s.vars.getD i 0):=by
 unfold Az BK;rw[if_pos (by omega),if_neg (by omega),if_neg (by omega),show (i*2+1) / 2=i by omega]
theorem Rx {i:Nat} (h:i<4):Az p s (9+(i*2+1)) = .int .i64 (s.flags.getD i 0):=by
 unfold Az BK;rw[if_neg (by omega),if_pos (by omega),if_neg (by omega),if_neg (by omega),show (9+(i*2+1) - 9) / 2=i by omega]
theorem Nk {i:Nat} (h:i<4):Az p s (18+(i*2+1)) = .int .i64 (s.locks.getD i 0):=by
 unfold Az BK;rw[if_neg (by omega),if_neg (by omega),if_pos (by omega),if_neg (by omega),if_neg (by omega),show (18+(i*2+1) - 18) / 2=i by omega]
theorem Fy {t j:Nat} (h:t<4) (a:j<207):Az p s (27+t*207+j)=BR (p.ts.getD t []) (p.C[t]?) (s.th t) j:=by
 unfold Az;rw[if_neg (by omega),if_neg (by omega),if_neg (by omega),if_pos (by omega),show (27+t*207+j - 27) / 207=t by omega,show (27+t*207+j - 27) % 207=j by omega]
theorem Ry:Az p s 855 = .int .i64 p.ts.length:=rfl
variable {p s}
theorem abn {i:Nat} (h:i<4) (b:i<s.vars.length) (v:Int) {k:Nat}:(if k=i*2+1 then Yw .i64 v else Az p s k)=Az p {s with vars:=s.vars.set i v} k:=by
 by_cases e:k=i*2+1
 ·subst e;rw[if_pos rfl,Rt _ _ h];show _=Yw .i64 ((s.vars.set i v).getD i 0);rw[Xc,Yy,if_pos rfl,if_pos b];rfl
 ·rw[if_neg e];unfold Az
  by_cases a:k<9
  ·rw[if_pos a,if_pos a];unfold BK
   split
   ·rfl
   ·split
    ·rfl
    ·show _=Yw .i64 ((s.vars.set i v).getD (k / 2) 0);rw[Xc,Xc,Yy,if_neg (by omega)]
  ·rw[if_neg a,if_neg a];rfl
theorem abq {i:Nat} (h:i<4) (c:i<s.flags.length) (v:Int) {k:Nat}:(if k=9+(i*2+1) then Yw .i64 v else Az p s k)=Az p {s with flags:=s.flags.set i v} k:=by
 by_cases e:k=9+(i*2+1)
 ·subst e;rw[if_pos rfl,Rx _ _ h];show _=Yw .i64 ((s.flags.set i v).getD i 0);rw[Xc,Yy,if_pos rfl,if_pos c];rfl
 ·rw[if_neg e];unfold Az
  by_cases a:k<9
  ·rw[if_pos a,if_pos a]
  ·rw[if_neg a,if_neg a]
   by_cases b:k<18
   ·rw[if_pos b,if_pos b];unfold BK
    split
    ·rfl
    ·split
     ·rfl
     ·show _=Yw .i64 ((s.flags.set i v).getD ((k - 9) / 2) 0);rw[Xc,Xc,Yy,if_neg (by omega)]
   ·rw[if_neg b,if_neg b];rfl
theorem abp {i:Nat} (h:i<4) (d:i<s.locks.length) (v:Int) {k:Nat}:(if k=18+(i*2+1) then Yw .i64 v else Az p s k)=Az p {s with locks:=s.locks.set i v} k:=by
 by_cases e:k=18+(i*2+1)
 ·subst e;rw[if_pos rfl,Nk _ _ h];show _=Yw .i64 ((s.locks.set i v).getD i 0);rw[Xc,Yy,if_pos rfl,if_pos d];rfl
 ·rw[if_neg e];unfold Az
  by_cases b:k<9
  ·rw[if_pos b,if_pos b]
  ·rw[if_neg b,if_neg b]
   by_cases c:k<18
   ·rw[if_pos c,if_pos c]
   ·rw[if_neg c,if_neg c]
    by_cases a:k<27
    ·rw[if_pos a,if_pos a];unfold BK
     split
     ·rfl
     ·split
      ·rfl
      ·show _=Yw .i64 ((s.locks.set i v).getD ((k - 18) / 2) 0);rw[Xc,Xc,Yy,if_neg (by omega)]
    ·rw[if_neg a,if_neg a];rfl
theorem Nj {t d:Nat} (h:t<4) (l:t<s.thr.length) (n:d<207) {th':TS} {v:Xk} (i:∀j,j<207->BR (p.ts.getD t []) (p.C[t]?) th' j=if j=d then v else BR (p.ts.getD t []) (p.C[t]?) (s.th t) j) {k:Nat}:(if k=27+t*207+d then v else Az p s k)=Az p (s.Ae t th') k:=by
 unfold Az
 by_cases c:k<9
 ·rw[if_neg (by omega),if_pos c,if_pos c];rfl
 ·rw[if_neg c,if_neg c]
  by_cases f:k<18
  ·rw[if_neg (by omega),if_pos f,if_pos f];rfl
  ·rw[if_neg f,if_neg f]
   by_cases b:k<27
   ·rw[if_neg (by omega),if_pos b,if_pos b];rfl
   ·rw[if_neg b,if_neg b]
    by_cases a:k<855
    ·rw[if_pos a,if_pos a,Fr s t _ th' l];have m:(k - 27) % 207<207:=Nat.mod_lt _ (by omega)
     by_cases e:(k - 27) / 207=t
     ·rw[if_pos e,e,i _ m]
      by_cases g:(k - 27) % 207=d
      ·rw[if_pos (by omega),if_pos g]
      ·rw[if_neg (by omega),if_neg g]
     ·rw[if_neg e,if_neg];intro g;exact e (by omega)
    ·rw[if_neg (by omega),if_neg a,if_neg a]
theorem Lp {t:Nat} (h:t<4) (a:t<s.thr.length) (v:Int) {k:Nat}:(if k=27+t*207+1 then Yw .i64 v else Az p s k)=Az p (s.Ae t {s.th t with ph:=v}) k:=by
 refine Nj h a (by omega) λj _=>?_;unfold BR
 by_cases e:j=1
 ·subst e;rfl
 ·rw[if_neg e,if_neg e,if_neg e]
theorem Rv {t:Nat} (h:t<4) (a:t<s.thr.length) (v:Nat) {k:Nat}:(if k=27+t*207+2 then Yw .i64 v else Az p s k)=Az p (s.Ae t {s.th t with pc:=v}) k:=by
 refine Nj h a (by omega) λj _=>?_;unfold BR
 by_cases e:j=2
 ·subst e;rfl
 ·rw[if_neg e,if_neg e,if_neg e]
theorem Ru {t n:Nat} (h:t<4) (a:t<s.thr.length) (c:n<4) (b:(s.th t).regs.length=4) (v:Int) {k:Nat}:(if k=27+t*207+(3+n) then Yw .i64 v else Az p s k)=Az p (s.Ae t {s.th t with regs:=(s.th t).regs.set n v}) k:=by
 refine Nj h a (by omega) λj _=>?_;unfold BR
 by_cases e:j=3+n
 ·subst e;rw[if_neg (by omega),if_neg (by omega),if_neg (by omega),if_pos (by omega),if_pos rfl];show Yw .i64 (((s.th t).regs.set n v).getD (3+n - 3) 0)=_;rw[Xc,Yy,if_pos (by omega),if_pos (by omega)];rfl
 ·rw[if_neg e]
  split
  ·rfl
  ·split
   ·rfl
   ·split
    ·rfl
    ·split
     ·show Yw .i64 (((s.th t).regs.set n v).getD (j - 3) 0)=_;rw[Xc,Yy,if_neg (by omega),Xc]
     ·rfl
theorem abr {t j:Nat} (h:t<4) (a:t<p.C.length) (f:(s.th t).pc<=(p.C.getD t []).length) (c:(p.C.getD t []).length<=24) (d:j<8):Az p s (27+t*207+(7+((s.th t).pc*8+j)))=Gk (BA p.C t (s.th t)) j:=by
 rw[Fy p s h (by omega)];unfold BR;rw[if_neg (by omega),if_neg (by omega),if_neg (by omega),if_neg (by omega),show (7+((s.th t).pc*8+j) - 7) / 8=(s.th t).pc by omega,show (7+((s.th t).pc*8+j) - 7) % 8=j by omega];have b:p.C[t]?=some (p.C.getD t []):=by rw[Xc,Xe a];rfl
 rw[b];show (if (s.th t).pc<(p.C.getD t []).length then _ else if (s.th t).pc=(p.C.getD t []).length then _ else _)=_;unfold BA
 by_cases e:(s.th t).pc<(p.C.getD t []).length
 ·rw[if_pos e]
 ·rw[if_neg e,if_pos (by omega)];have:(p.C.getD t []).getD (s.th t).pc Cm=Cm:=by rw[Xc,List.getElem?_eq_none (by omega)];rfl
  rw[this]
end
end Go.Proofs.YtdcacoifehkioaaGreatDoor
