import Derived.Test.YtdcacoifehkioaaGreatDoorExH0
import Derived.Test.YtdcacoifehkioaaGreatDoorExH12
import Derived.Test.YtdcacoifehkioaaGreatDoorCards
import Derived.Test.YtdcacoifehkioaaGreatDoorTie
import Derived.SizedLaws
import Derived.ShutString
import Derived.ChangeOld
import Derived.JoinedCond
import Derived.OpenShut
import Derived.Deep.DeepHandedRow
import Derived.Lib.LaidTab
import Derived.LaidSub
import Derived.ChangeMaps5
import Derived.Test.YtdcacoifehkioaaGreatDoorExH1
import Derived.Shelf.Strings.Builder1
import Derived.Lib.Builder
import Derived.Lib.AppendStr
import Derived.Lib.UnsafeStr
import Derived.Below
import Derived.Test.YtdcacoifehkioaaGreatDoorExH4
import Derived.Laws.IdiomCopy
import Derived.Laws.Rows
import Derived.Laws.Tables
open Go renaming Value->Xk,TypeId->YM,World->Xh,Calls->XX,heap_setCell_same->Xj,info_parts->YN,heap_setCell_other->Xt
open Prod renaming fst->YO
open List renaming length_cons->XH,getElem?_map->Xs,length_append->Xb,replicate->Xr,range->YB,mem_replicate->agA,getD_eq_getElem?_getD->Xc,getElem?_eq_getElem->Xe,getElem?_set->Yz,length_set->Yc
open Option renaming map_eq_some_iff->Yu
open Option.some renaming inj->Yk
open Nat renaming le_refl->Xd,zero_le->Xw,add_zero->agB
open Go.Value renaming string->Yn,slice->Yq,int->Yw
open Go.Lib renaming byteCells->ZI
open Array renaming getElem?_eq_some_iff->Xa
open Go.World renaming cell?->Xg,frozen?->XP,size_setCell->XC
open Go.Result renaming andThen->ZX,andThen_ok->af3
open Go.RowKit.Below renaming heap_setCell->Xo
set_option maxRecDepth 100000
set_option maxHeartbeats 1000000
set_option linter.unusedVariables false
set_option linter.unusedSimpArgs false
namespace Go.Proofs.YtdcacoifehkioaaGreatDoor
open Go.ChangeShapes Go.WideShapes Go.ChangeAt Go.RowKit Go.Proofs.Cod
set_option linter.unusedVariables false
theorem Tryz.own:ownKnob Tryz.prog.godebug=none:=by kernel_rfl
def Hm:Lit->Xk
 |.string b=>.string ⟨b.toArray⟩
 |.int k n=>.int k n
 |_=>.int .i64 0
section
variable {H:Type} {enc:YM×Xk->H} {P:Program} {w:Xh} {base:Nat} {sp:Nat->Bool} {held:Bool}
theorem TL {d:Nat} {t:YM} {cs:List Xk} {x:Lit} {p:List MemPlace} (a:P.underlying t=some .string\/P.underlying t=some (.int .u8)) (h:DataW.trod enc P w base sp held d t cs=some (.lit x,p)):cs=[Hm x]:=by
 rcases a with a|a
 ·obtain⟨s,b,c,f⟩:=DataW.trod_string a h;have e:DataW.lit (H:=H) x = .lit (.string s.data.toList):=(congrArg YO c)
  cases e
  rw[b];rfl
 ·obtain⟨z,b,c,_⟩:=DataW.trod_int a h;have e:DataW.lit (H:=H) x = .lit (.int .u8 z):=(congrArg YO c)
  cases e
  rw[b];rfl
theorem aa4 {u:Nat} {e:YM} {f c:Field} {cs:List Xk} {s:List UInt8} {x:Lit} {p:List MemPlace} (A:P.underlying e=some (.struct #[f,c])) (r:f.offset=0) (y:c.offset=1) (B:P.underlying f.type=some .string) (D:P.underlying c.type=some .string\/P.underlying c.type=some (.int .u8)) (c0:P.cellsOf f.type=1) (c1:P.cellsOf c.type=1) (v:P.cellsOf e=2)
 (h:DataW.trod enc P w base sp held u e cs=some (.agg [.lit (.string s),.lit x],p)):cs=[.string ⟨s.toArray⟩,Hm x]:=by
 obtain⟨d,n,rfl,t,l,E,q⟩:=DataW.trod_struct A h;have j:d.map (·.1)=[.lit (.string s),.lit x]:=by
  have k:=congrArg YO t;have k:DataW.agg (H:=H) [.lit (.string s),.lit x] = .agg (d.map (·.1)):=k;injection k with e2
  exact e2.symm
 obtain⟨⟨C,F⟩,⟨z,G⟩,rfl⟩:∃a b,d=[a,b]:=by
  have:d.length=2:=by simpa using E
  match d,this with
  |[a,b],_=>exact⟨a,b,rfl⟩
 have j:[C,z]=[DataW.lit (.string s),.lit x]:=j
 cases j
 have o:=q 0 f rfl;have m:=q 1 c rfl;rw[r,c0] at o;rw[y,c1] at m;have g:=TL (.inl B) o;have i:=TL D m;rw[v] at l
 match cs,l with
 |[a,b],_=>
  have g:[a]=[Hm (.string s)]:=g;have i:[b]=[Hm x]:=i
  cases g;cases i
  rfl
theorem OY {α:Type} (g:α->List Xk):∀(l:List α) (cs:List Xk),cs.length=l.length*2->(∀i q,l[i]?=some q->(cs.drop (i*2)).take 2=g q)->cs=l.flatMap g
 |[],cs,hl,_=>by
  have:cs.length=0:=by simpa using hl
  rw[List.eq_nil_of_length_eq_zero this];rfl
 |q::l,cs,hl,h=>by
  have d:cs.take 2=g q:=by simpa using h 0 q rfl
  have a:=OY g l (cs.drop 2) (by rw[List.length_drop,hl,XH];omega) (λi b c=>by
   have:=h (i+1) b (by simpa using c);rw[List.drop_drop,show 2+i*2=(i+1)*2 by omega];exact this)
  rw[List.flatMap_cons,<-d,<-a,List.take_append_drop]
theorem aa3 {g:Nat} {t e:YM} {n:Nat} {f c:Field} {cs:List Xk} {l:List (List UInt8×Lit)} {p:List MemPlace} (E:P.underlying t=some (.array n e)) (F:P.underlying e=some (.struct #[f,c])) (s:f.offset=0) (B:c.offset=1) (G:P.underlying f.type=some .string) (I:P.underlying c.type=some .string\/P.underlying c.type=some (.int .u8)) (c0:P.cellsOf f.type=1) (c1:P.cellsOf c.type=1) (k:P.cellsOf e=2) (D:P.cellsOf t=n*2)
 (h:DataW.trod enc P w base sp held g t cs=some (.agg (l.map λq=>.agg [.lit (.string q.1),.lit q.2]),p)):cs=l.flatMap λq=>[.string ⟨q.1.toArray⟩,Hm q.2]:=by
 cases g with
 |zero=>simp[DataW.trod] at h
 |succ g=>
  simp only[DataW.trod,E,k,D] at h
  split at h
  ·rename_i A;obtain⟨d,m,x⟩:=Yu.1 h;have o:d.map (·.1)=l.map λq=>(DataW.agg [.lit (.string q.1),.lit q.2]:DataW H):=by
    have j:=congrArg YO x;have j:DataW.agg (H:=H) (d.map (·.1)) = .agg (l.map λq=>.agg [.lit (.string q.1),.lit q.2]):=j;injection j
   have K:d.length=n:=by simpa using Lib.mapM_length m
   have v:l.length=n:=by
    have:=congrArg List.length o
    simp at this
    omega
   refine OY _ l cs (by rw[v];exact A) (λi q r=>?_);have C:i<n:=by have:=(List.getElem?_eq_some_iff.1 r).1;omega
   obtain⟨b,z,y⟩:=Lib.mapM_at m i i (by simp[C]);have a:(d.map (·.1))[i]?=some b.1:=by simp[z]
   rw[o,Xs,r] at a;have a:b.1 = .agg [.lit (.string q.1),.lit q.2]:=(Yk a).symm;obtain⟨u,J⟩:=b;have a:u = .agg [.lit (.string q.1),.lit q.2]:=a;subst a;exact aa4 F s B G I c0 c1 k y
  ·cases h
end
theorem OS {W:Xh} {name:String} {l:List (List UInt8×Lit)} {g:Nat} {t e:YM} {n:Nat} {c b:Field} (i:Tryz.prog.globalNamed name=some g) (y:(Tryz.prog.globals[g]?).map (·.type)=some t) (z:Tryz.prog.underlying t=some (.array n e)) (B:Tryz.prog.underlying e=some (.struct #[c,b])) (k:c.offset=0) (u:b.offset=1) (D:Tryz.prog.underlying c.type=some .string) (F:Tryz.prog.underlying b.type=some .string\/Tryz.prog.underlying b.type=some (.int .u8)) (c0:Tryz.prog.cellsOf c.type=1) (c1:Tryz.prog.cellsOf b.type=1) (r:Tryz.prog.cellsOf e=2) (w:Tryz.prog.cellsOf t=n*2)
 (E:(((begin Tryz.prog (λ_ _=>0) default).world.heap[g]?).bind Obj.row?).map (·.2)=some t) (s:g<Tryz.prog.globals.size) (x:W.ShapedOpen Tryz.prog)
 (h:laidMet Tryz.prog [(name,.agg (l.map λq=>.agg [.lit (.string q.1),.lit q.2]))] W):∃fr,W.heap[g]?=some (.cells (l.flatMap λq=>[.string ⟨q.1.toArray⟩,Hm q.2]).toArray t fr):=by
 obtain⟨ps,⟨I,t',cs,H,p,q,G,o,a,m,_,_⟩,_⟩:=h
 obtain rfl:=Yk (i.symm.trans G)
 obtain rfl:=Yk (y.symm.trans o)
 have C:=aa3 z B k u D F c0 c1 r w m;obtain⟨⟨zero,j⟩,A,d⟩:=Yu.1 E;have d:j=t:=d;subst d;obtain⟨v,f,-,-⟩:=x.1 g zero j s A;unfold World.var? at a;rw[i] at a;simp only[Option.bind_some] at a;rw[f] at a;have a:some v=some cs:=a
 cases a
 refine⟨(0,0),?_⟩;rw[f,<-C]
def NA:List (String×DataW Unit):=[("math/bits.deBruijn32tab",Rows.laid_math_bits_deBruijn32tab),("math/bits.deBruijn64tab",Rows.laid_math_bits_deBruijn64tab),("internal/strconv.uint64pow10",Rows.laid_internal_strconv_uint64pow10),("unicode/utf8.acceptRanges",Rows.laid_unicode_utf8_acceptRanges),("strconv.ErrRange",Rows.laid_strconv_ErrRange),("strconv.ErrSyntax",Rows.laid_strconv_ErrSyntax),("weave/code.headings",Rows.laid_weave_code_headings),("weave/code.shapes",Rows.laid_weave_code_shapes),("unicode/utf8.first",Rows.laid_unicode_utf8_first)]
def SN:List (List UInt8×Lit):=[(IB,.int .u8 118),(IC,.int .u8 102),(JL,.int .u8 109)]
def PY:List (List UInt8×Lit):=Bd.map λp=>(p.1,.string p.2)
theorem Vq {W:Xh} (h:laidMetH Tryz.prog NA W) (b:W.ShapedOpen Tryz.prog):Ck W 6:=by
 have a:laidMet Tryz.prog NA W:=h;have d:laidMet Tryz.prog [("internal/strconv.uint64pow10",Lib.tabData .u64 Lib.pow10Tab)] W:=a.filter (λx=>x.1 == "internal/strconv.uint64pow10");have f:laidMet Tryz.prog [("weave/code.headings",.agg (SN.map λq=>.agg [.lit (.string q.1),.lit q.2]))] W:=a.filter (λx=>x.1 == "weave/code.headings");have c:laidMet Tryz.prog [("weave/code.shapes",.agg (PY.map λq=>.agg [.lit (.string q.1),.lit q.2]))] W:=a.filter (λx=>x.1 == "weave/code.shapes");refine⟨?_,?_,Lib.tabIs_of_head (rest:=[]) Tryz.powG (by kernel_rfl) Tryz.underlying323 Tryz.underlying274 (by kernel_rfl) (by kernel_rfl) d,Xd _⟩
 ·have:=OS (g:=2) (by kernel_rfl) (by kernel_rfl) Tryz.underlying291 Tryz.underlying290 rfl rfl Tryz.underlying9 (.inr Tryz.underlying5) (by kernel_rfl) (by kernel_rfl) (by kernel_rfl) (by kernel_rfl) (by kernel_rfl) (of_decide_eq_true (by kernel_rfl)) b f;obtain⟨fr,e⟩:=this;rw[show (SN.flatMap λq=>[Yn ⟨q.1.toArray⟩,Hm q.2]).toArray=tabC Hq by kernel_rfl] at e
  exact⟨fr,e⟩
 ·have:=OS (g:=3) (by kernel_rfl) (by kernel_rfl) Tryz.underlying312 Tryz.underlying311 rfl rfl Tryz.underlying9 (.inl Tryz.underlying9) (by kernel_rfl) (by kernel_rfl) (by kernel_rfl) (by kernel_rfl) (by kernel_rfl) (of_decide_eq_true (by kernel_rfl)) b c;obtain⟨fr,e⟩:=this;rw[show (PY.flatMap λq=>[Yn ⟨q.1.toArray⟩,Hm q.2]).toArray=tabC IF by kernel_rfl] at e
  exact⟨fr,e⟩
def abX:DataW Unit->Xk
 |.lit x=>Hm x
 |_=>.int .i64 0
def Kq:DataW Unit->Array Xk
 |.agg l=>(l.map abX).toArray
 |_ => #[]
def Oi:DataW Unit->Array Xk
 |.agg l=>(l.flatMap λd=>(Kq d).toList).toArray
 |_ => #[]
def LG:DataW Unit->ByteArray
 |.iface _ (.ptr (.agg [.lit (.string b)]))=>⟨b.toArray⟩
 |_=>.empty
noncomputable def low:Nat:=(World.holding Tryz.prog default ⟨#[],#[],[]⟩).heap.size
def Gc (cs:Array Xk):Obj->Obj
 |.cells _ t frozen=>.cells cs t frozen
 |o=>o
end Go.Proofs.YtdcacoifehkioaaGreatDoor
namespace Go.Proofs
open Go.Shelf
shelf_lay Lays.n169 Nm 169 at Tryz as Tryz.lays169
theorem Tryz.extra169:Builder.Extra Tryz.prog Tryz.lays169_ren:={sizeBuilder:=by kernel_rfl,liesBuilder:=by kernel_rfl,t5:=Tryz.underlying5,a5:=Tryz.isAgg5,z5:=Tryz.sizeOf5,v5:=Tryz.zeroValue5,infoByte:=by kernel_rfl,cellsByte:=by kernel_rfl,sizeByte:=by kernel_rfl,neB5:=by decide}
end Go.Proofs
namespace Go.Proofs.YtdcacoifehkioaaGreatDoor
open Go.RowKit Go.Shelf Go.Proofs.Cod
theorem Tryz.infoU8b:(Tryz.prog.info? 5).map (λi=>(i.zero,i.size,i.bytes))=some (some (.int .u8 0),1,1):=by kernel_rfl
theorem Tryz.sizeBdb:(Tryz.prog.info? 188).map (·.size)=some 2:=by kernel_rfl
theorem Tryz.liesBdb:liesAt Tryz.prog Tryz.prog.depth 188 (2 / Tryz.prog.cellsOf 188) 0 188 1=true:=by kernel_rfl
structure Mj (w:Xh) (B b:Nat) (buf:Xk) (out:Tx):Prop where
 cell:∃p,(p = .pointer none\/p = .pointer (some ⟨b,0,none⟩))/\w.heap[b]?=some (.cells #[p,buf] 188)
 row:w.ownsRow B 5 1 buf out.length (ZI out)
 ne:buf.ownBlock≠some b
 hb:B<=b
def BW (w:Xh) (B b:Nat) (out:Tx):Prop:=∃buf,Mj w B b buf out
section
variable {w w':Xh} {B b:Nat} {buf:Xk} {out:Tx}
theorem Mj.lt (h:Mj w B b buf out):b<w.heap.size:=by
 obtain⟨p,_,a⟩:=h.cell
 exact(Xa.1 a).1
theorem BW.below (h:BW w B b out) (a:Below w.heap.size w w'):BW w' B b out:=by
 obtain⟨buf,h⟩:=h;have c:=h.lt;obtain⟨p,f,d⟩:=h.cell
 exact⟨buf,⟨p,f,(a.block b c).trans d⟩,BA h.row (λg e=>a.block g (h.row.lt g e).2),h.ne,h.hb⟩
theorem BW.fresh (w:Xh):BW (w.alloc (.cells #[.pointer none,.slice none 0 0] 188)) w.heap.size w.heap.size []:=
 ⟨.slice none 0 0,⟨_,.inl rfl,by show (w.heap.push _)[w.heap.size]?=_;simp⟩,World.ownsRow_nil _ _ _ _,by simp[Value.ownBlock],Xd _⟩
theorem TT (h:Mj w B b buf out):XX Tryz.prog 152 #[.pointer (some ⟨b,0,none⟩)] w λe w'=>e = .returned (.tuple #[])/\w'.heap[b]?=some (.cells #[.pointer (some ⟨b,0,none⟩),buf] 188)/\w'.heap.size=w.heap.size/\(∀k,k≠b->w'.heap[k]?=w.heap[k]?)/\w'.os=w.os/\w'.tape=w.tape/\w'.output=w.output:=by
 obtain⟨j,c,i⟩:=Yu.1 Tryz.sizeBdb;obtain⟨p,l,a⟩:=h.cell;have c4:w.cell? ⟨b,0,none⟩=some p:=by simp[Xg,a]
 have d:w.shape? b=some (188,2):=by simp[World.shape?,a]
 have m:w.frozen? ⟨b,0,none⟩=false:=by simp[XP,a]
 have f:=Aa a;clear h a
 rcases l with rfl|rfl
 ·go_enter Tryz.func152,Tryz.ntmps152
  go_wp2
  rw[Lib.run_to_unsafe w ⟨b,0,none⟩ Tryz.underlying185 Tryz.underlying296 c (by rw[i];decide) d (by show 0<2;omega)];simp only[ZX];rw[Oper.upon_value]
  go_wp2
  rw[run_callFunc_extern Tryz.func190 (by kernel_rfl) (by kernel_rfl) (by kernel_rfl) (e:=Extern.AbiNoEscape.same) (by kernel_rfl)];rw[Lib.run_noEscape];simp only[ZX];rw[Oper.upon_value]
  go_wp2
  rw[Lib.run_from_unsafe w ⟨b,0,none⟩ Tryz.underlying296 Tryz.underlying185 c d Tryz.liesBdb];simp only[ZX];rw[Oper.upon_value]
  go_wp2
  go_end0
  exact⟨rfl,(Xj _ b 0 _ _ _ f.out).trans rfl,by simp,λk g=>Xo _ ⟨b,0,none⟩ _ k g,rfl,rfl,rfl⟩
 ·go_enter Tryz.func152,Tryz.ntmps152
  go_wp2
  rw[Lib.run_neq_ptr_same w _ Tryz.underlying185 c]
  go_wp2
  go_end0
  exact⟨rfl,f.out,rfl,λ_ _=>rfl,rfl,rfl,rfl⟩
theorem GQ (h:BW w B b out) (s:Tx) (C:out.length+s.length<=140737488355328) (O:B<=w.heap.size) :
 XX Tryz.prog 121 #[Ab b,.string (bs s)] w λe w'=>e = .returned (.tuple #[.int .i64 s.length,.nilIface])/\BW w' B b (out++s)/\Below B w w':=by
 obtain⟨buf,h⟩:=h;obtain⟨G,D,I,K,A⟩:=YN Tryz.infoU8b;have y:=Ba s;have J:=Aa (TT h);have H:=Aa h;clear h;unfold Ab
 go_enter Tryz.func121,Tryz.ntmps121
 go_wp2_with fail
 refine J.out.mono ?_;rintro e w1 ⟨rfl,c,n,d,l,j,i⟩;have x:w1.ownsRow B 5 1 buf out.length (ZI out):=BA H.out.row λg e=>d g (λu=>H.out.ne (by rw[e,u]));have c5:w1.cell? ⟨b,1,none⟩=some buf:=by simp[Xg,c]
 have t:=Aa (⟨c,n,d,l,j,i⟩:_/\_/\_/\_/\_/\_);clear c n d l j i
 go_wp2_with (at_builtin;refine Lib.wpList_append_own_string _ rfl _ _ 186 9 rfl B 5 G Tryz.underlying186 Tryz.underlying9 D I K A _ _ _ rfl x (bs s) rfl ?c3 ?c4 ?c5 ?_)
 case c3=>rw[y];unfold maxLen;omega
 case c4=>rw[y];exact C
 case c5=>have:=t.out.2.1;omega
 intro F r m a M;obtain⟨c,n,d,l,j,i⟩:=t.out;have f:r.heap[b]?=some (.cells #[.pointer (some ⟨b,0,none⟩),buf] 188):=(a.block b (by rw[n];exact H.out.lt) (λe=>H.out.ne e.symm)).trans c;have R:r.cell? ⟨b,1,none⟩=some buf:=by simp[Xg,f]
 have P:r.frozen? ⟨b,1,none⟩=false:=by simp[XP,f]
 obtain⟨p,o,cap,rfl⟩:∃p o cap,F = .slice p o cap:=by
  rcases m.2 with⟨q,_⟩|⟨g,cap,Q,q,_⟩
  ·exact⟨_,_,_,q⟩
  ·exact⟨_,_,_,q⟩
 have E:=Aa (⟨f,m,a⟩:_/\_/\_);clear f m a M c n d l j i x
 go_wp2
 go_ret2
 obtain⟨c,n,d,l,j,i⟩:=t.out;obtain⟨f,m,a⟩:=E.out;have v:(Yq p o cap).ownBlock≠some b:=Lib.ownBlock_ne m f (by decide);have N:ZI out++Lib.strCells (bs s)=ZI (out++s):=by rw[Lib.strCells_eq,Lib.byteCells_append];rfl
 refine⟨rfl,⟨.slice p o cap,⟨_,.inr rfl,(Xj _ b 1 _ _ _ f).trans rfl⟩,?_,v,H.out.hb⟩,⟨a.os.trans l,a.tape.trans j,a.output.trans i,by simp only[XC];have:=a.size;omega,λk S=>?_⟩⟩
 ·rw[Xb,<-N];exact BA m λg e=>Xo _ ⟨b,1,none⟩ _ g (λu=>v (by rw[e,u]))
 ·have z:k≠b:=by have:=H.out.hb;omega
  rw[Xo _ ⟨b,1,none⟩ _ k z,a.block k (by omega) (λe=>by have:=(H.out.row.lt k e.symm).1;omega),d k z]
theorem It (h:BW w B b out) (c:UInt8) (R:out.length+1<=140737488355328) (P:B<=w.heap.size) :
 XX Tryz.prog 135 #[Ab b,.int .u8 c.toNat] w λe w'=>e = .returned .nilIface/\BW w' B b (out++[c])/\Below B w w':=by
 obtain⟨buf,h⟩:=h;obtain⟨G,D,I,K,C⟩:=YN Tryz.infoU8b;have J:=Aa (TT h);have H:=Aa h;clear h;unfold Ab
 go_enter Tryz.func135,Tryz.ntmps135
 go_wp2_with fail
 refine J.out.mono ?_;rintro e w1 ⟨rfl,d,p,i,n,m,l⟩;have y:w1.ownsRow B 5 1 buf out.length (ZI out):=BA H.out.row λg e=>i g (λt=>H.out.ne (by rw[e,t]));have c5:w1.cell? ⟨b,1,none⟩=some buf:=by simp[Xg,d]
 have s:=Aa (⟨d,p,i,n,m,l⟩:_/\_/\_/\_/\_/\_);clear d p i n m l
 go_wp2_with (at_builtin;refine wpList_append_own _ rfl _ _ 186 rfl B 5 G (.int .u8 0) 1 1 Tryz.underlying186 D I K C rfl (by decide) _ _ _ rfl (y.alloc _) ⟨w1.heap.size,0,none⟩ 1 1 [.int .u8 c.toNat] rfl rfl ?c1 ?c2 ?c3 ?c4 ?c5 ?_)
 case c1=>
  intro j u q
  match j,q with
  |0,q=>simp at q;subst q;simp[Addr.add]
 case c2=>intro u x;simp at x;subst x;rfl
 case c3=>unfold maxLen;omega
 case c4=>omega
 case c5=>have:=s.out.2.1;simp;omega
 intro F r o a N;obtain⟨d,p,i,n,m,l⟩:=s.out;have f:r.heap[b]?=some (.cells #[.pointer (some ⟨b,0,none⟩),buf] 188):=by
  rw[a.block b (by simp;have:=H.out.lt;omega) (λe=>H.out.ne e.symm),Lib.alloc_old w1 _ b (by rw[p];exact H.out.lt)];exact d
 have U:r.cell? ⟨b,1,none⟩=some buf:=by simp[Xg,f]
 have Q:r.frozen? ⟨b,1,none⟩=false:=by simp[XP,f]
 obtain⟨g,cap,rfl⟩:∃g cap,F = .slice (some ⟨g,0,none⟩) (out.length+1) cap:=by
  rcases o.2 with⟨_,T⟩|⟨g,cap,S,A,_⟩
  ·omega
  ·exact⟨g,cap,A⟩
 have E:=Aa (⟨f,o,a⟩:_/\_/\_);clear f o a N d p i n m l y
 go_wp2
 go_ret
 obtain⟨d,p,i,n,m,l⟩:=s.out;obtain⟨f,o,a⟩:=E.out;have v:(Yq (some ⟨g,0,none⟩) (out.length+1) cap).ownBlock≠some b:=Lib.ownBlock_ne o f (by decide);have M:ZI out++[.int .u8 c.toNat]=ZI (out++[c]):=by rw[Lib.byteCells_append];rfl
 have O:=a.size
 simp at O
 refine⟨rfl,⟨.slice (some ⟨g,0,none⟩) (out.length+1) cap,⟨_,.inr rfl,(Xj _ b 1 _ _ _ f).trans rfl⟩,?_,v,H.out.hb⟩,⟨a.os.trans n,a.tape.trans m,a.output.trans l,by simp only[XC];omega,λk V=>?_⟩⟩
 ·rw[Xb,<-M];exact BA o λg e=>Xo _ ⟨b,1,none⟩ _ g (λt=>v (by rw[e,t]))
 ·have z:k≠b:=by have:=H.out.hb;omega
  rw[Xo _ ⟨b,1,none⟩ _ k z,a.block k (by simp;omega) (λe=>by have:=(H.out.row.lt k e.symm).1;omega),Lib.alloc_old w1 _ k (by omega),i k z]
theorem aeU (h:BW w B b out) (d:B<=w.heap.size) :
 XX Tryz.prog 102 #[Ab b] w λe w'=>e = .returned (.string (bs out))/\Below B w w':=by
 obtain⟨buf,h⟩:=h;have f:Lib.IsBuilder 188 5 B b (ZI out) w:=by
  obtain⟨p,g,c⟩:=h.cell;have a:=h.row;have e:(ZI out).length=out.length:=by simp[ZI]
  rw[<-e] at a
  rcases g with rfl|rfl
  ·exact .inl ⟨h.hb,buf,c,a,h.ne⟩
  ·exact .inr ⟨h.hb,buf,c,a,h.ne⟩
 refine(Any.Builder_String_any Tryz.lays169 Tryz.extra169 B b out w f d).mono ?_;rintro e w' ⟨rfl,i⟩
 exact⟨rfl,i⟩
end
end Go.Proofs.YtdcacoifehkioaaGreatDoor
namespace Go.Proofs.YtdcacoifehkioaaGreatDoor
open Go.RowKit Go.Proofs.Cod
def Fk (r:Bool) (n:Int):Prop:=0<=n/\n<1000/\(r=true->n<4)
def Hh (i:Ad):Prop:=(0<=i.r/\i.r<4)/\Fk i.aR i.aN/\Fk i.bR i.bN
structure Gv (nv nf nl nt n:Nat) (i:Ad):Prop where
 sm:Hh i
 x0:0<=i.x
 ex:∃q,q∈Bd/\i.op=q.1/\((118:UInt8)∈q.2->i.x<nv)/\((102:UInt8)∈q.2->i.x<nf)/\((109:UInt8)∈q.2->i.x<nl)/\((116:UInt8)∈q.2->i.x<nt)/\((108:UInt8)∈q.2->i.x<=n)
structure afj (vs fs ls ts:List Tx) (C:List (List Ad)):Prop where
 v:vs.length<=4
 f:fs.length<=4
 l:ls.length<=4
 t:ts.length<=4
 v8:∀x,x∈vs->x.length<=8
 f8:∀x,x∈fs->x.length<=8
 l8:∀x,x∈ls->x.length<=8
 t8:∀x,x∈ts->x.length<=8
 len:C.length=ts.length
 code:∀c,c∈C->c.length<=24/\∀i,i∈c->Gv vs.length fs.length ls.length ts.length c.length i
def Eo:Tx:=[115,101,116]
def Er:Tx:=[97,100,100]
def En:Tx:=[115,117,98]
def Ep:Tx:=[109,117,108]
def Bu:Tx:=[108,111,97,100]
def AM:Tx:=[115,116,111,114,101]
def Ec:Tx:=[103,101,116]
def Eb:Tx:=[112,117,116]
def BP:Tx:=[108,111,99,107]
def CI:Tx:=[117,110,108,111,99,107]
def BJ:Tx:=[115,112,97,119,110]
def BQ:Tx:=[106,111,105,110]
def Dg:Tx:=[106,117,109,112]
def CX:Tx:=[106,101,113]
def CW:Tx:=[106,108,116]
def Dh:Tx:=[99,104,101,99,107]
def Eq:Tx:=[101,110,100]
structure TS where
 ph:Int
 pc:Nat
 regs:List Int
structure MS where
 vars:List Int
 flags:List Int
 locks:List Int
 thr:List TS
structure Ev where
 t:Int
 k:Int
 o:Int
 v:Int
def AC:TS:=⟨0,0,[0,0,0,0]⟩
def Cn:Ad:=CE Eq
def BB (C:List (List Ad)) (t:Nat) (th:TS):Ad:=(C.getD t []).getD th.pc Cn
def Af (th:TS) (r:Bool) (n:Int):Int:=if r then th.regs.getD n.toNat 0 else n
def MS.th (s:MS) (t:Nat):TS:=s.thr.getD t AC
def MS.Ae (s:MS) (t:Nat) (th:TS):MS:={s with thr:=s.thr.set t th}
def CV (th:TS):Bool:=th.ph == 2||th.ph == 3
def BG (s:MS) (x:Ad):Bool:=
 if x.op=BP then decide (s.locks.getD x.x.toNat 0≠-1) else if x.op=BQ then !CV (s.th x.x.toNat) else if x.op=BJ then decide ((s.th x.x.toNat).ph≠0) else false
def AO (C:List (List Ad)) (s:MS) (t:Int):Int:=
 if t<0\/(s.thr.length:Int)<=t\/(s.th t.toNat).ph=0 then 5 else if CV (s.th t.toNat)=true then 6 else if BG s (BB C t.toNat (s.th t.toNat))=true then 7 else 0
def Bc (k:Bool) (s:MS) (t:Nat) (x:Ad):MS×Ev:=
 let th:=s.th t
 let a:=Af th x.aR x.aN
 let b:=Af th x.bR x.bN
 let to:=th.pc+1
 let ov:=if k then th.pc else th.pc+1
 let n:=x.x.toNat
 let reg:=λv=>s.Ae t {th with pc:=to,regs:=th.regs.set x.r.toNat v}
 if x.op=Eo then(reg a,⟨t,0,0,0⟩)
 else if x.op=Er then(reg ((a+b) % 1000),⟨t,0,0,0⟩)
 else if x.op=En then(reg ((a - b+1000) % 1000),⟨t,0,0,0⟩)
 else if x.op=Ep then(reg (a*b % 1000),⟨t,0,0,0⟩)
 else if x.op=Bu then(reg (s.vars.getD n 0),⟨t,1,x.x,s.vars.getD n 0⟩)
 else if x.op=AM then({s.Ae t {th with pc:=to} with vars:=s.vars.set n a},⟨t,2,x.x,a⟩)
 else if x.op=Ec then(reg (s.flags.getD n 0),⟨t,3,x.x,s.flags.getD n 0⟩)
 else if x.op=Eb then({s.Ae t {th with pc:=to} with flags:=s.flags.set n a},⟨t,4,x.x,a⟩)
 else if x.op=BP then({s.Ae t {th with pc:=to} with locks:=s.locks.set n t},⟨t,5,x.x,0⟩)
 else if x.op=CI then(if s.locks.getD n 0≠t then(s.Ae t {th with ph:=3,pc:=ov},⟨t,9,0,0⟩) else({s.Ae t {th with pc:=to} with locks:=s.locks.set n (-1)},⟨t,6,x.x,0⟩))
 else if x.op=BJ then((s.Ae t {th with pc:=to}).Ae n {(s.Ae t {th with pc:=to}).th n with ph:=1},⟨t,7,x.x,0⟩)
 else if x.op=BQ then(s.Ae t {th with pc:=to},⟨t,8,x.x,0⟩)
 else if x.op=Dg then(s.Ae t {th with pc:=n},⟨t,0,0,0⟩)
 else if x.op=CX then(s.Ae t {th with pc:=if a=b then n else to},⟨t,0,0,0⟩)
 else if x.op=CW then(s.Ae t {th with pc:=if a<b then n else to},⟨t,0,0,0⟩)
 else if x.op=Dh then(if a≠b then(s.Ae t {th with ph:=3,pc:=ov},⟨t,9,0,0⟩) else(s.Ae t {th with pc:=to},⟨t,0,0,0⟩))
 else(s.Ae t {th with ph:=2,pc:=ov},⟨t,10,0,0⟩)
def AH (nv nf nl nt:Nat):MS:=⟨Xr nv 0,Xr nf 0,Xr nl (-1),(YB nt).map λt=>if t=0 then {AC with ph:=1} else AC⟩
def Cu (n:Int):Prop:=0<=n/\n<1000
structure GR (n:Nat) (th:TS):Prop where
 ph:0<=th.ph/\th.ph<=3
 pc:th.ph<=1->th.pc<=n
 pc2:th.pc<=n+1
 rl:th.regs.length=4
 rv:∀v,v∈th.regs->Cu v
structure AZ (nv nf nl:Nat) (C:List (List Ad)) (s:MS):Prop where
 vl:s.vars.length=nv
 fl:s.flags.length=nf
 ll:s.locks.length=nl
 tl:s.thr.length=C.length
 vv:∀v,v∈s.vars->Cu v
 fv:∀v,v∈s.flags->Cu v
 lv:∀v,v∈s.locks->-1<=v/\v<C.length
 th:∀t,t<C.length->GR (C.getD t []).length (s.th t)
theorem Jo (nv nf nl:Nat) (C:List (List Ad)):AZ nv nf nl C (AH nv nf nl C.length):=by
 refine⟨by simp[AH],by simp[AH],by simp[AH],by simp[AH],λv a=>?_,λv a=>?_,λv a=>?_,λt c=>?_⟩
 ·obtain⟨-,rfl⟩:=agA.1 a
  exact⟨by omega,by omega⟩
 ·obtain⟨-,rfl⟩:=agA.1 a
  exact⟨by omega,by omega⟩
 ·obtain⟨-,rfl⟩:=agA.1 a
  exact⟨by omega,by omega⟩
 ·have e:(AH nv nf nl C.length).th t=if t=0 then {AC with ph:=1} else AC:=by
   unfold MS.th AH;rw[Xc,Xs,List.getElem?_range c];rfl
  rw[e];have b:∀v,v∈AC.regs->Cu v:=by
   intro v a;simp[AC] at a;subst a
   exact⟨by omega,by omega⟩
  split
  ·exact⟨⟨by decide,by decide⟩,λ_=>Xw _,Xw _,rfl,b⟩
  ·exact⟨⟨by decide,by decide⟩,λ_=>Xw _,Xw _,rfl,b⟩
theorem CL {α:Type} {l:List α} {k:Nat} {d:α} (h:k<l.length):l.getD k d∈l:=by
 rw[Xc,Xe h];exact List.getElem_mem h
theorem JQ {α:Type} {l:List α} {p:α->Prop} (h:∀v,v∈l->p v) {k:Nat} {x:α} (b:p x):∀v,v∈l.set k x->p v:=λv a=>by
 rcases List.mem_or_eq_of_mem_set a with a|rfl
 ·exact h v a
 ·exact b
theorem Fr (s:MS) (t u:Nat) (th:TS) (b:t<s.thr.length):(s.Ae t th).th u=if u=t then th else s.th u:=by
 unfold MS.th MS.Ae;rw[Xc,Yz,Xc]
 by_cases e:u=t
 ·subst e;rw[if_pos rfl,if_pos b,if_pos rfl];rfl
 ·rw[if_neg (λa=>e a.symm),if_neg e]
section
variable {nv nf nl:Nat} {C:List (List Ad)} {s:MS}
theorem AZ.Ae (h:AZ nv nf nl C s) {t:Nat} (a:t<C.length) {th:TS} (c:GR (C.getD t []).length th):AZ nv nf nl C (s.Ae t th):=by
 refine⟨h.vl,h.fl,h.ll,by show (s.thr.set t th).length=_;rw[Yc];exact h.tl,h.vv,h.fv,h.lv,λu b=>?_⟩;rw[Fr s t u th (by rw[h.tl];exact a)]
 split
 ·rename_i e;subst e;exact c
 ·exact h.th u b
theorem JH {n:Nat} {th:TS} (h:GR n th) {r:Bool} {m:Int} (a:Fk r m):Cu (Af th r m):=by
 unfold Af
 split
 ·rename_i e;have:=a.2.2 e;have b:=a.1;exact h.rv _ (CL (by rw[h.rl];omega))
 ·exact⟨a.1,a.2.1⟩
theorem Nl (a:Int):Cu (a % 1000):=⟨by omega,by omega⟩
theorem JN (k:Bool) (h:AZ nv nf nl C s) {t:Nat} (a:t<C.length) (z:(s.th t).ph=1) {x:Ad} (f:BG s x=false) (c:x=Cn\/(Gv nv nf nl C.length (C.getD t []).length x/\(s.th t).pc<(C.getD t []).length)):AZ nv nf nl C (Bc k s t x).1:=by
 have b:=h.th t a;have F:=b.pc (by omega);have y:(if k then(s.th t).pc else(s.th t).pc+1)<=(C.getD t []).length+1:=by split<;>omega
 have fin:∀p:Int,p=2\/p=3->GR (C.getD t []).length {s.th t with ph:=p,pc:=if k then(s.th t).pc else(s.th t).pc+1}:=λp B=>
  ⟨by show 0<=p/\p<=3;omega,λe=>by have e:p<=1:=e;omega,y,b.rl,b.rv⟩
 rcases c with rfl|⟨c,E⟩
 ·exact h.Ae a (fin 2 (.inl rfl))
 ·have j:∀n,n<=(C.getD t []).length->GR (C.getD t []).length {s.th t with pc:=n}:=λn i=>⟨b.ph,λ_=>i,by show n<=_;omega,b.rl,b.rv⟩
  have d:∀v,Cu v->GR (C.getD t []).length {s.th t with pc:=(s.th t).pc+1,regs:=(s.th t).regs.set x.r.toNat v}:=λv w=>
   ⟨b.ph,λ_=>by show _+1<=_;omega,by show _+1<=_;omega,by show (List.set _ _ _).length=4;rw[Yc];exact b.rl,JQ b.rv w⟩
  have go:=h.Ae a (j ((s.th t).pc+1) (by omega));have l:=JH b c.sm.2.1;have A:=JH b c.sm.2.2;obtain⟨q,u,o,x1,x2,x3,x4,m⟩:=c.ex;have G:=c.x0;simp only[Bd,List.mem_cons,List.not_mem_nil,or_false] at u
  rcases u with rfl|rfl|rfl|rfl|rfl|rfl|rfl|rfl|rfl|rfl|rfl|rfl|rfl|rfl|rfl|rfl|rfl<;>unfold Bc<;>rw[o]
  ·exact h.Ae a (d _ l)
  ·exact h.Ae a (d _ (Nl _))
  ·exact h.Ae a (d _ (Nl _))
  ·exact h.Ae a (d _ (Nl _))
  ·exact h.Ae a (d _ (h.vv _ (CL (by rw[h.vl];have:=x1 (by decide);omega))))
  ·exact⟨by show (List.set _ _ _).length=_;rw[Yc];exact h.vl,go.fl,go.ll,go.tl,JQ h.vv l,go.fv,go.lv,go.th⟩
  ·exact h.Ae a (d _ (h.fv _ (CL (by rw[h.fl];have:=x2 (by decide);omega))))
  ·exact⟨go.vl,by show (List.set _ _ _).length=_;rw[Yc];exact h.fl,go.ll,go.tl,go.vv,JQ h.fv l,go.lv,go.th⟩
  ·exact⟨go.vl,go.fl,by show (List.set _ _ _).length=_;rw[Yc];exact h.ll,go.tl,go.vv,go.fv,JQ h.lv ⟨by omega,by omega⟩,go.th⟩
  ·show AZ nv nf nl C (YO (if s.locks.getD x.x.toNat 0≠t then _ else _:MS×Ev))
   split
   ·exact h.Ae a (fin 3 (.inr rfl))
   ·exact⟨go.vl,go.fl,by show (List.set _ _ _).length=_;rw[Yc];exact h.ll,go.tl,go.vv,go.fv,JQ h.lv ⟨by omega,by omega⟩,go.th⟩
  ·have i:x.x.toNat<C.length:=by have:=x4 (by decide);omega
   have g:=go.th _ i;refine go.Ae i ⟨⟨by show (0:Int)<=1;decide,by show (1:Int)<=3;decide⟩,λ_=>g.pc ?_,g.pc2,g.rl,g.rv⟩;have D:(s.th x.x.toNat).ph=0:=by
    unfold BG at f;rw[o] at f;have f:decide ((s.th x.x.toNat).ph≠0)=false:=f
    simpa using f
   rw[Fr s t _ _ (by rw[h.tl];exact a)]
   split
   ·show (s.th t).ph<=1;omega
   ·omega
  ·exact go
  ·exact h.Ae a (j _ (by have:=m (by decide);omega))
  ·exact h.Ae a (j _ (by have:=m (by decide);split<;>omega))
  ·exact h.Ae a (j _ (by have:=m (by decide);split<;>omega))
  ·show AZ nv nf nl C (YO (if Af _ _ _≠Af _ _ _ then _ else _:MS×Ev))
   split
   ·exact h.Ae a (fin 3 (.inr rfl))
   ·exact go
  ·exact h.Ae a (fin 2 (.inl rfl))
end
def An (w:Xh) (b T n:Nat) (f:Nat->Xk):Prop:=∃cs:Array Xk,w.heap[b]?=some (.cells cs T)/\cs.size=n/\∀k,k<n->cs[k]?=some (f k)
structure Ac (S:Nat->Prop) (w w':Xh):Prop where
 os:w'.os=w.os
 tape:w'.tape=w.tape
 output:w'.output=w.output
 size:w.heap.size<=w'.heap.size
 block:∀k,k<w.heap.size->¬S k->w'.heap[k]?=w.heap[k]?
section
variable {w w' w'':Xh} {b T n:Nat} {f g:Nat->Xk} {S S':Nat->Prop}
theorem An.lt (h:An w b T n f):b<w.heap.size:=by
 obtain⟨cs,a,-,-⟩:=h
 exact(Xa.1 a).1
theorem An.cell (h:An w b T n f) {k:Nat} (a:k<n):w.cell? ⟨b,k,none⟩=some (f k):=by
 obtain⟨cs,d,e,c⟩:=h;rw[cell_of_row w b k cs T (0,0) d,c k a]
theorem An.frozen (h:An w b T n f) (k:Nat):w.frozen? ⟨b,k,none⟩=false:=by
 obtain⟨cs,a,d,c⟩:=h;simp[XP,a]
theorem An.same (h:An w b T n f) (e:w'.heap[b]?=w.heap[b]?):An w' b T n f:=by
 obtain⟨cs,a,c⟩:=h
 exact⟨cs,e.trans a,c⟩
theorem An.congr (h:An w b T n f) (e:∀k,k<n->f k=g k):An w b T n g:=by
 obtain⟨cs,d,i,c⟩:=h
 exact⟨cs,d,i,λk a=>by rw[c k a,e k a]⟩
theorem An.set (h:An w b T n f) (k:Nat) (v:Xk):An (w.setCell ⟨b,k,none⟩ v) b T n (λj=>if j=k then v else f j):=by
 obtain⟨cs,g,i,d⟩:=h;refine⟨cs.setIfInBounds k v,Xj w b k cs T v g,by simp[i],λj a=>?_⟩;rw[Array.getElem?_setIfInBounds]
 by_cases e:k=j
 ·subst e;rw[if_pos rfl,if_pos (by omega)];show some v=some (if k=k then v else f k);rw[if_pos rfl]
 ·rw[if_neg e,d j a];show some (f j)=some (if j=k then v else f j);rw[if_neg (λc:j=k=>e c.symm)]
theorem An.other (h:An w b T n f) {a:Addr} (c:b≠a.block) (v:Xk):An (w.setCell a v) b T n f:=h.same (Xt w a b v c)
theorem An.below (h:An w b T n f) (a:Below w.heap.size w w'):An w' b T n f:=h.same (a.block b h.lt)
theorem An.keep (h:An w b T n f) (a:Ac S w w') (c:¬S b):An w' b T n f:=h.same (a.block b h.lt c)
theorem An.new (w:Xh) (cs:Array Xk) (T:Nat) (a:∀k,k<cs.size->cs[k]?=some (f k)):An (w.alloc (.cells cs T)) w.heap.size T cs.size f:=⟨cs,by show (w.heap.push _)[w.heap.size]?=_;simp,rfl,a⟩
theorem Ac.refl (w:Xh):Ac S w w:=⟨rfl,rfl,rfl,Xd _,λ_ _ _=>rfl⟩
theorem Ac.trans (h:Ac S w w') (a:Ac S w' w''):Ac S w w'':=⟨a.os.trans h.os,a.tape.trans h.tape,a.output.trans h.output,Nat.le_trans h.size a.size,λk c b=>(a.block k (Nat.lt_of_lt_of_le c h.size) b).trans (h.block k c b)⟩
theorem Ac.mono (h:Ac S w w') (c:∀k,k<w.heap.size->S k->S' k):Ac S' w w':=⟨h.os,h.tape,h.output,h.size,λk a b=>h.block k a (λe=>b (c k a e))⟩
theorem Ac.set (h:Ac S w w') {a:Addr} (b:S a.block\/w.heap.size<=a.block) (v:Xk):Ac S w (w'.setCell a v):=
 ⟨h.os,h.tape,h.output,by rw[XC];exact h.size,λk d c=>(Xt w' a k v (λe=>by subst e;rcases b with b|b;exact c b;omega)).trans (h.block k d c)⟩
theorem Ac.DG (h:Below w.heap.size w w'):Ac S w w':=⟨h.os,h.tape,h.output,h.size,λk a _=>h.block k a⟩
theorem Ac.alloc (h:Ac S w w') (o:Obj):Ac S w (w'.alloc o):=h.trans (Ac.DG ((Below.refl _ _).alloc (Xd _) o))
theorem Ac.drew (h:Ac S w w'):Ac S w w'.drew:=⟨h.os,h.tape,h.output,h.size,h.block⟩
theorem MG (vs:List Xk) (o:Nat):∀{w:Xh} {f:Nat->Xk},An w b T n f->o+vs.length<=n->An (w.setCells b o vs) b T n (λj=>if o<=j/\j<o+vs.length then vs.getD (j - o) undef else f j):=by
 induction vs generalizing o with
 |nil=>
  intro w f h _;exact h.congr λk _=>by
   rw[if_neg];simp only[List.length_nil];omega
 |cons v r d=>
  intro w f h c;simp only[XH] at c;have:=d (o+1) (h.set o v) (by omega);show An ((w.setCell ⟨b,o,none⟩ v).setCells b (o+1) r) b T n _;refine this.congr λk g=>?_;simp only[XH]
  by_cases e:k=o
  ·subst e;rw[if_neg (by omega),if_pos rfl,if_pos ⟨Xd _,by omega⟩,Nat.sub_self];rfl
  ·by_cases a:o+1<=k/\k<o+1+r.length
   ·rw[if_pos a,if_pos (by omega),show k - o=(k - (o+1))+1 by omega];rfl
   ·rw[if_neg a,if_neg e,if_neg (by omega)]
theorem Fa (vs:List Xk) (o:Nat):∀{w':Xh},Ac S w w'->S b\/w.heap.size<=b->Ac S w (w'.setCells b o vs):=by
 induction vs generalizing o with
 |nil=>exact λh _=>h
 |cons v r c=>exact λh a=>c (o+1) (h.set a v) a
theorem Qi (vs:List Xk) (o:Nat) {k:Nat} (c:k≠b):∀{w:Xh},(w.setCells b o vs).heap[k]?=w.heap[k]?:=by
 induction vs generalizing o with
 |nil=>exact rfl
 |cons v r a=>exact(a (o+1)).trans (Xt _ _ k v c)
end
section
variable {P:Program}
theorem ae5 (b o j:Nat):(⟨b,o,none⟩:Addr).add j=⟨b,o+j,none⟩:=by unfold Addr.add;split<;>simp_all
theorem JR (w:Xh) (b o n a:Nat) (f:Nat->Xk) (d:TypeDesc) (h:∀j,j<n->w.cell? ⟨b,o+j,none⟩=some (f j)) (p:P.underlying a=some d) (q:(match d with | .struct _ | .array _ _=>true|_=>false)=true) (e:(P.info? a).map (·.size)=some n) :
 (loadVar a ⟨b,o,none⟩).run P w = .ok (.agg ((YB n).map f).toArray) w:=by
 have k:=run_loadCells (P:=P) w ⟨b,o,none⟩ n f (λj g=>by rw[ae5];exact h j g)
 cases c:P.info? a with
 |none=>simp[c] at e
 |some i=>
  have l:i.size=n:=by simpa [c] using e
  have m:(isAgg a).run P w = .ok true w:=by
   unfold isAgg;rw[Sem.run_bind,run_underlying p w]
   cases d<;>simp_all
  simp[loadVar,Sem.run_bind,m,sizeOf,typeInfo,c,l,k]
theorem Qn (w:Xh) (b o c:Nat) (vs:Array Xk) (g:∀j,j<vs.size->(w.cell? ⟨b,o+j,none⟩).isSome=true) (f:∀j,j<vs.size->w.frozen? ⟨b,o+j,none⟩=false) (e:(P.info? c).map (·.size)=some vs.size) (k:∀v∈vs.toList,v.oneCell'=true) :
 (storeVar c ⟨b,o,none⟩ (.agg vs)).run P w = .ok () (w.setCells b o vs.toList):=by
 have:=run_storeCells_cells (P:=P) b o vs.toList 0 w (λj a=>by rw[agB];exact g j (by simpa using a)) (λj a=>by rw[agB];exact f j (by simpa using a)) k;rw[agB] at this
 cases d:P.info? c with
 |none=>simp[d] at e
 |some i=>
  have h:vs.size=i.size:=by simp[d] at e;omega
  simp[storeVar,sizeOf,typeInfo,d,Value.cells,h,this]
theorem Mm {g:Array Oper} {rest:List Oper} {o:Oper} {a:Act} {w:Xh} {Q:Exit->Act->Xh->Prop} (q:o.guard=none) (c:YM) (x:Operand) (s:o.op = .load c x)
 (b e n:Nat) (i:a.eval x = .pointer (some ⟨b,e,none⟩)) (f:Nat->Xk) (d:TypeDesc) (k:∀j,j<n->w.cell? ⟨b,e+j,none⟩=some (f j)) (p:P.underlying c=some d) (l:(match d with | .struct _ | .array _ _=>true|_=>false)=true) (m:(P.info? c).map (·.size)=some n)
 (h:wpList P g Q rest (a.put o.dst (.agg ((YB n).map f).toArray)) w):wpList P g Q (o::rest) a w:=
 wpList_plain q λ_ r=>by
  unfold Oper.wp execOp;simp only[s,i,Instr.loadAt,Instr.sureAddr,Sem.run_bind,Sem.run_pure,af3,JR w b e n c f d k p l m];exact r _ _ h
theorem Iy {e:Array Oper} {rest:List Oper} {o:Oper} {a:Act} {w:Xh} {Q:Exit->Act->Xh->Prop} (m:o.guard=none) (d:YM) (x y:Operand) (p:o.op = .store d x y)
 (b c:Nat) (vs:Array Xk) (g:a.eval x = .pointer (some ⟨b,c,none⟩)) (l:a.eval y = .agg vs) (i:∀j,j<vs.size->(w.cell? ⟨b,c+j,none⟩).isSome=true) (f:∀j,j<vs.size->w.frozen? ⟨b,c+j,none⟩=false) (k:(P.info? d).map (·.size)=some vs.size) (q:∀v∈vs.toList,v.oneCell'=true)
 (h:wpList P e Q rest (a.put o.dst undef) (w.setCells b c vs.toList)):wpList P e Q (o::rest) a w:=
 wpList_plain m λ_ n=>by
  unfold Oper.wp execOp;simp only[p,g,l,Instr.storeAt,Instr.sureAddr,Sem.run_bind,Sem.run_pure,af3,Qn w b c d vs i f k q];exact n _ _ h
end
structure PD where
 vs:List Tx
 fs:List Tx
 ls:List Tx
 ts:List Tx
 C:List (List Ad)
def LN:List (Tx×Nat):=[(Eo,74),(Er,77),(En,78),(Ep,79),(Bu,80),(AM,82),(Ec,84),(Eb,85),(BP,86),(CI,87),(BJ,88),(BQ,89),(Dg,91),(CX,93),(CW,94),(Dh,95),(Eq,96)]
def Eh (op:Tx):Xk:=match LN.find? λp=>p.1=op with
 |some p=>.func (.func p.2) #[] #[]
 |none=>.nilFunc
def Ly (i:Ad) (j:Nat):Xk:=if j=0 then .string (bs i.op) else if j=1 then .int .i64 i.r else if j=2 then .bool i.aR else if j=3 then .int .i64 i.aN else if j=4 then .bool i.bR else if j=5 then .int .i64 i.bN else .int .i64 i.x
def Gn (i:Ad) (j:Nat):Xk:=if j<7 then Ly i j else Eh i.op
def Tw (c:Option (List Ad)) (k j:Nat):Xk:=match c with
 |none=>Gn (CE []) j
 |some c=>if k<c.length then Gn (c.getD k Cn) j else if k=c.length then Gn Cn j else Gn (CE []) j
def BU (nm:Tx) (c:Option (List Ad)) (th:TS) (j:Nat):Xk:=if j=0 then .string (bs nm) else if j=1 then .int .i64 th.ph else if j=2 then .int .i64 th.pc else if j<7 then .int .i64 (th.regs.getD (j - 3) 0) else Tw c ((j - 7) / 8) ((j - 7) % 8)
def BM (ns:List Tx) (l:List Int) (k:Nat):Xk:=if k=8 then .int .i64 ns.length else if k % 2=0 then .string (bs (ns.getD (k / 2) [])) else .int .i64 (l.getD (k / 2) 0)
def AA (p:PD) (s:MS) (k:Nat):Xk:=if k<9 then BM p.vs s.vars k else if k<18 then BM p.fs s.flags (k - 9) else if k<27 then BM p.ls s.locks (k - 18) else if k<855 then BU (p.ts.getD ((k - 27) / 207) []) (p.C[(k - 27) / 207]?) (s.th ((k - 27) / 207)) ((k - 27) % 207) else .int .i64 p.ts.length
section
variable (p:PD) (s:MS)
theorem RD {i:Nat} (h:i<4):AA p s (i*2+1) = .int .i64 (s.vars.getD i 0):=by
 unfold AA BM;rw[if_pos (by omega),if_neg (by omega),if_neg (by omega),show (i*2+1) / 2=i by omega]
theorem RJ {i:Nat} (h:i<4):AA p s (9+(i*2+1)) = .int .i64 (s.flags.getD i 0):=by
 unfold AA BM;rw[if_neg (by omega),if_pos (by omega),if_neg (by omega),if_neg (by omega),show (9+(i*2+1) - 9) / 2=i by omega]
theorem Nq {i:Nat} (h:i<4):AA p s (18+(i*2+1)) = .int .i64 (s.locks.getD i 0):=by
 unfold AA BM;rw[if_neg (by omega),if_neg (by omega),if_pos (by omega),if_neg (by omega),if_neg (by omega),show (18+(i*2+1) - 18) / 2=i by omega]
theorem Fz {t j:Nat} (h:t<4) (a:j<207):AA p s (27+t*207+j)=BU (p.ts.getD t []) (p.C[t]?) (s.th t) j:=by
 unfold AA;rw[if_neg (by omega),if_neg (by omega),if_neg (by omega),if_pos (by omega),show (27+t*207+j - 27) / 207=t by omega,show (27+t*207+j - 27) % 207=j by omega]
theorem RK:AA p s 855 = .int .i64 p.ts.length:=rfl
variable {p s}
theorem abw {i:Nat} (h:i<4) (b:i<s.vars.length) (v:Int) {k:Nat}:(if k=i*2+1 then Yw .i64 v else AA p s k)=AA p {s with vars:=s.vars.set i v} k:=by
 by_cases e:k=i*2+1
 ·subst e;rw[if_pos rfl,RD _ _ h];show _=Yw .i64 ((s.vars.set i v).getD i 0);rw[Xc,Yz,if_pos rfl,if_pos b];rfl
 ·rw[if_neg e];unfold AA
  by_cases a:k<9
  ·rw[if_pos a,if_pos a];unfold BM
   split
   ·rfl
   ·split
    ·rfl
    ·show _=Yw .i64 ((s.vars.set i v).getD (k / 2) 0);rw[Xc,Xc,Yz,if_neg (by omega)]
  ·rw[if_neg a,if_neg a];rfl
theorem abz {i:Nat} (h:i<4) (c:i<s.flags.length) (v:Int) {k:Nat}:(if k=9+(i*2+1) then Yw .i64 v else AA p s k)=AA p {s with flags:=s.flags.set i v} k:=by
 by_cases e:k=9+(i*2+1)
 ·subst e;rw[if_pos rfl,RJ _ _ h];show _=Yw .i64 ((s.flags.set i v).getD i 0);rw[Xc,Yz,if_pos rfl,if_pos c];rfl
 ·rw[if_neg e];unfold AA
  by_cases a:k<9
  ·rw[if_pos a,if_pos a]
  ·rw[if_neg a,if_neg a]
   by_cases b:k<18
   ·rw[if_pos b,if_pos b];unfold BM
    split
    ·rfl
    ·split
     ·rfl
     ·show _=Yw .i64 ((s.flags.set i v).getD ((k - 9) / 2) 0);rw[Xc,Xc,Yz,if_neg (by omega)]
   ·rw[if_neg b,if_neg b];rfl
theorem aby {i:Nat} (h:i<4) (d:i<s.locks.length) (v:Int) {k:Nat}:(if k=18+(i*2+1) then Yw .i64 v else AA p s k)=AA p {s with locks:=s.locks.set i v} k:=by
 by_cases e:k=18+(i*2+1)
 ·subst e;rw[if_pos rfl,Nq _ _ h];show _=Yw .i64 ((s.locks.set i v).getD i 0);rw[Xc,Yz,if_pos rfl,if_pos d];rfl
 ·rw[if_neg e];unfold AA
  by_cases a:k<9
  ·rw[if_pos a,if_pos a]
  ·rw[if_neg a,if_neg a]
   by_cases c:k<18
   ·rw[if_pos c,if_pos c]
   ·rw[if_neg c,if_neg c]
    by_cases b:k<27
    ·rw[if_pos b,if_pos b];unfold BM
     split
     ·rfl
     ·split
      ·rfl
      ·show _=Yw .i64 ((s.locks.set i v).getD ((k - 18) / 2) 0);rw[Xc,Xc,Yz,if_neg (by omega)]
    ·rw[if_neg b,if_neg b];rfl
theorem Np {t a:Nat} (h:t<4) (l:t<s.thr.length) (n:a<207) {th':TS} {v:Xk} (i:∀j,j<207->BU (p.ts.getD t []) (p.C[t]?) th' j=if j=a then v else BU (p.ts.getD t []) (p.C[t]?) (s.th t) j) {k:Nat}:(if k=27+t*207+a then v else AA p s k)=AA p (s.Ae t th') k:=by
 unfold AA
 by_cases b:k<9
 ·rw[if_neg (by omega),if_pos b,if_pos b];rfl
 ·rw[if_neg b,if_neg b]
  by_cases f:k<18
  ·rw[if_neg (by omega),if_pos f,if_pos f];rfl
  ·rw[if_neg f,if_neg f]
   by_cases d:k<27
   ·rw[if_neg (by omega),if_pos d,if_pos d];rfl
   ·rw[if_neg d,if_neg d]
    by_cases c:k<855
    ·rw[if_pos c,if_pos c,Fr s t _ th' l];have m:(k - 27) % 207<207:=Nat.mod_lt _ (by omega)
     by_cases e:(k - 27) / 207=t
     ·rw[if_pos e,e,i _ m]
      by_cases g:(k - 27) % 207=a
      ·rw[if_pos (by omega),if_pos g]
      ·rw[if_neg (by omega),if_neg g]
     ·rw[if_neg e,if_neg];intro g;exact e (by omega)
    ·rw[if_neg (by omega),if_neg c,if_neg c]
theorem Lo {t:Nat} (h:t<4) (a:t<s.thr.length) (v:Int) {k:Nat}:(if k=27+t*207+1 then Yw .i64 v else AA p s k)=AA p (s.Ae t {s.th t with ph:=v}) k:=by
 refine Np h a (by omega) λj _=>?_;unfold BU
 by_cases e:j=1
 ·subst e;rfl
 ·rw[if_neg e,if_neg e,if_neg e]
theorem RF {t:Nat} (h:t<4) (a:t<s.thr.length) (v:Nat) {k:Nat}:(if k=27+t*207+2 then Yw .i64 v else AA p s k)=AA p (s.Ae t {s.th t with pc:=v}) k:=by
 refine Np h a (by omega) λj _=>?_;unfold BU
 by_cases e:j=2
 ·subst e;rfl
 ·rw[if_neg e,if_neg e,if_neg e]
theorem RE {t n:Nat} (h:t<4) (a:t<s.thr.length) (b:n<4) (c:(s.th t).regs.length=4) (v:Int) {k:Nat}:(if k=27+t*207+(3+n) then Yw .i64 v else AA p s k)=AA p (s.Ae t {s.th t with regs:=(s.th t).regs.set n v}) k:=by
 refine Np h a (by omega) λj _=>?_;unfold BU
 by_cases e:j=3+n
 ·subst e;rw[if_neg (by omega),if_neg (by omega),if_neg (by omega),if_pos (by omega),if_pos rfl];show Yw .i64 (((s.th t).regs.set n v).getD (3+n - 3) 0)=_;rw[Xc,Yz,if_pos (by omega),if_pos (by omega)];rfl
 ·rw[if_neg e]
  split
  ·rfl
  ·split
   ·rfl
   ·split
    ·rfl
    ·split
     ·show Yw .i64 (((s.th t).regs.set n v).getD (j - 3) 0)=_;rw[Xc,Yz,if_neg (by omega),Xc]
     ·rfl
theorem abA {t j:Nat} (h:t<4) (b:t<p.C.length) (f:(s.th t).pc<=(p.C.getD t []).length) (c:(p.C.getD t []).length<=24) (d:j<8):AA p s (27+t*207+(7+((s.th t).pc*8+j)))=Gn (BB p.C t (s.th t)) j:=by
 rw[Fz p s h (by omega)];unfold BU;rw[if_neg (by omega),if_neg (by omega),if_neg (by omega),if_neg (by omega),show (7+((s.th t).pc*8+j) - 7) / 8=(s.th t).pc by omega,show (7+((s.th t).pc*8+j) - 7) % 8=j by omega];have a:p.C[t]?=some (p.C.getD t []):=by rw[Xc,Xe b];rfl
 rw[a];show (if (s.th t).pc<(p.C.getD t []).length then _ else if (s.th t).pc=(p.C.getD t []).length then _ else _)=_;unfold BB
 by_cases e:(s.th t).pc<(p.C.getD t []).length
 ·rw[if_pos e]
 ·rw[if_neg e,if_pos (by omega)];have:(p.C.getD t []).getD (s.th t).pc Cn=Cn:=by rw[Xc,List.getElem?_eq_none (by omega)];rfl
  rw[this]
end
end Go.Proofs.YtdcacoifehkioaaGreatDoor
