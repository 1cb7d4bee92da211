import Derived.Test.YtdcacoifehkioaaGreatDoorExR0
import Derived.Test.YtdcacoifehkioaaGreatDoorExR12
import Derived.Test.YtdcacoifehkioaaGreatDoorCards
import Derived.Test.YtdcacoifehkioaaGreatDoorTie
import Derived.SizedLaws
import Derived.ShutString
import Derived.ChangeOld
import Derived.JoinedCond
import Derived.OpenShut
import Derived.Deep.DeepHandedRow
import Derived.Lib.LaidTab
import Derived.LaidSub
import Derived.ChangeMaps5
import Derived.Test.YtdcacoifehkioaaGreatDoorExR1
import Derived.Shelf.Strings.Builder1
import Derived.Lib.Builder
import Derived.Lib.AppendStr
import Derived.Lib.UnsafeStr
import Derived.Below
import Derived.Test.YtdcacoifehkioaaGreatDoorExR4
import Derived.Laws.IdiomCopy
import Derived.Laws.Rows
import Derived.Laws.Tables
open Go renaming Value->Xj,TypeId->YD,World->Xg,Calls->X3,heap_setCell_same->Xk,info_parts->Y2,heap_setCell_other->XC
open Go.DataW renaming trod->adZ
open Prod renaming fst->YA
open List renaming length_cons->Xw,getElem?_map->Xp,length_append->Xd,replicate->XJ,range->Yt,mem_replicate->adS,getD_eq_getElem?_getD->Xb,getElem?_eq_getElem->Xc,getElem?_set->YC,length_set->Yq
open Option renaming map_eq_some_iff->Yn
open Option.some renaming inj->Yb
open Nat renaming le_refl->Xf,zero_le->XD,add_zero->ads
open Go.Value renaming string->Yl,slice->YN,int->YB
open Go.Lib renaming byteCells->Zo
open Array renaming getElem?_eq_some_iff->Xa
open Go.World renaming cell?->Xh,frozen?->XE,size_setCell->XG
open Go.Result renaming andThen->ZC,andThen_ok->adj
open Go.RowKit.Below renaming heap_setCell->Xl
set_option maxRecDepth 100000
set_option maxHeartbeats 1000000
set_option linter.unusedVariables false
set_option linter.unusedSimpArgs false
namespace Go.Proofs.YtdcacoifehkioaaGreatDoor
open Go.ChangeShapes Go.WideShapes Go.ChangeAt Go.RowKit Go.Proofs.Cod
set_option linter.unusedVariables false
theorem Tryz.own:ownKnob Tryz.prog.godebug=none:=by kernel_rfl
theorem Tryz.laidOut:laidOutB Tryz.prog=true:=by kernel_rfl
def Gf:Lit->Xj
 |.string b=>.string ⟨b.toArray⟩
 |.int k n=>.int k n
 |_=>.int .i64 0
section
variable {H:Type} {enc:YD×Xj->H} {P:Program} {w:Xg} {base:Nat} {sp:Nat->Bool} {held:Bool}
theorem Ry {d:Nat} {t:YD} {cs:List Xj} {x:Lit} {p:List MemPlace} (a:P.underlying t=some .string\/P.underlying t=some (.int .u8)) (h:adZ enc P w base sp held d t cs=some (.lit x,p)):cs=[Gf x]:=by
 rcases a with a|a
 ·obtain⟨s,b,c,f⟩:=DataW.trod_string a h;have e:DataW.lit (H:=H) x = .lit (.string s.data.toList):=(congrArg YA c)
  cases e
  rw[b];rfl
 ·obtain⟨z,b,c,_⟩:=DataW.trod_int a h;have e:DataW.lit (H:=H) x = .lit (.int .u8 z):=(congrArg YA c)
  cases e
  rw[b];rfl
theorem Vv {D:Nat} {e:YD} {d c:Field} {cs:List Xj} {s:List UInt8} {x:Lit} {p:List MemPlace} (z:P.underlying e=some (.struct #[d,c])) (r:d.offset=0) (u:c.offset=1) (v:P.underlying d.type=some .string) (F:P.underlying c.type=some .string\/P.underlying c.type=some (.int .u8)) (y:P.cellsOf d.type=1) (C:P.cellsOf c.type=1) (B:P.cellsOf e=2)
 (h:adZ enc P w base sp held D e cs=some (.agg [.lit (.string s),.lit x],p)):cs=[.string ⟨s.toArray⟩,Gf x]:=by
 obtain⟨f,n,rfl,G,o,t,l⟩:=DataW.trod_struct z h;have k:f.map (·.1)=[.lit (.string s),.lit x]:=by
  have g:=congrArg YA G;have g:DataW.agg (H:=H) [.lit (.string s),.lit x] = .agg (f.map (·.1)):=g;injection g with e2
  exact e2.symm
 obtain⟨⟨E,J⟩,⟨A,I⟩,rfl⟩:∃a b,f=[a,b]:=by
  have:f.length=2:=by simpa using t
  match f,this with
  |[a,b],_=>exact⟨a,b,rfl⟩
 have k:[E,A]=[DataW.lit (.string s),.lit x]:=k
 cases k
 have q:=l 0 d rfl;have m:=l 1 c rfl;rw[r,y] at q;rw[u,C] at m;have i:=Ry (.inl v) q;have j:=Ry F m;rw[B] at o
 match cs,o with
 |[a,b],_=>
  have i:[a]=[Gf (.string s)]:=i;have j:[b]=[Gf x]:=j
  cases i;cases j
  rfl
theorem Nw {α:Type} (g:α->List Xj):∀(l:List α) (cs:List Xj),cs.length=l.length*2->(∀i q,l[i]?=some q->(cs.drop (i*2)).take 2=g q)->cs=l.flatMap g
 |[],cs,hl,_=>by
  have:cs.length=0:=by simpa using hl
  rw[List.eq_nil_of_length_eq_zero this];rfl
 |q::l,cs,hl,h=>by
  have d:cs.take 2=g q:=by simpa using h 0 q rfl
  have c:=Nw g l (cs.drop 2) (by rw[List.length_drop,hl,Xw];omega) (λi b a=>by
   have:=h (i+1) b (by simpa using a);rw[List.drop_drop,show 2+i*2=(i+1)*2 by omega];exact this)
  rw[List.flatMap_cons,<-d,<-c,List.take_append_drop]
theorem Vu {j:Nat} {t e:YD} {n:Nat} {d c:Field} {cs:List Xj} {l:List (List UInt8×Lit)} {p:List MemPlace} (J:P.underlying t=some (.array n e)) (z:P.underlying e=some (.struct #[d,c])) (s:d.offset=0) (v:c.offset=1) (x:P.underlying d.type=some .string) (G:P.underlying c.type=some .string\/P.underlying c.type=some (.int .u8)) (y:P.cellsOf d.type=1) (C:P.cellsOf c.type=1) (m:P.cellsOf e=2) (E:P.cellsOf t=n*2)
 (h:adZ enc P w base sp held j t cs=some (.agg (l.map λq=>.agg [.lit (.string q.1),.lit q.2]),p)):cs=l.flatMap λq=>[.string ⟨q.1.toArray⟩,Gf q.2]:=by
 cases j with
 |zero=>simp[adZ] at h
 |succ j=>
  simp only[adZ,J,m,E] at h
  split at h
  ·rename_i B;obtain⟨f,r,I⟩:=Yn.1 h;have o:f.map (·.1)=l.map λq=>(DataW.agg [.lit (.string q.1),.lit q.2]:DataW H):=by
    have g:=congrArg YA I;have g:DataW.agg (H:=H) (f.map (·.1)) = .agg (l.map λq=>.agg [.lit (.string q.1),.lit q.2]):=g;injection g
   have M:f.length=n:=by simpa using Lib.mapM_length r
   have F:l.length=n:=by
    have:=congrArg List.length o
    simp at this
    omega
   refine Nw _ l cs (by rw[F];exact B) (λi q k=>?_);have D:i<n:=by have:=(List.getElem?_eq_some_iff.1 k).1;omega
   obtain⟨b,K,A⟩:=Lib.mapM_at r i i (by simp[D]);have a:(f.map (·.1))[i]?=some b.1:=by simp[K]
   rw[o,Xp,k] at a;have a:b.1 = .agg [.lit (.string q.1),.lit q.2]:=(Yb a).symm;obtain⟨u,N⟩:=b;have a:u = .agg [.lit (.string q.1),.lit q.2]:=a;subst a;exact Vv z s v x G y C m A
  ·cases h
end
theorem Np {W:Xg} {name:String} {l:List (List UInt8×Lit)} {g:Nat} {t e:YD} {n:Nat} {c b:Field} (f:Tryz.prog.globalNamed name=some g) (F:(Tryz.prog.globals[g]?).map (·.type)=some t) (G:Tryz.prog.underlying t=some (.array n e)) (s:Tryz.prog.underlying e=some (.struct #[c,b])) (k:c.offset=0) (m:b.offset=1) (o:Tryz.prog.underlying c.type=some .string) (D:Tryz.prog.underlying b.type=some .string\/Tryz.prog.underlying b.type=some (.int .u8)) (r:Tryz.prog.cellsOf c.type=1) (w:Tryz.prog.cellsOf b.type=1) (v:Tryz.prog.cellsOf e=2) (z:Tryz.prog.cellsOf t=n*2)
 (H:(((begin Tryz.prog (λ_ _=>0) default).world.heap[g]?).bind Obj.row?).map (·.2)=some t) (I:g<Tryz.prog.globals.size) (x:W.ShapedOpen Tryz.prog)
 (h:laidMet Tryz.prog [(name,.agg (l.map λq=>.agg [.lit (.string q.1),.lit q.2]))] W):∃fr,W.heap[g]?=some (.cells (l.flatMap λq=>[.string ⟨q.1.toArray⟩,Gf q.2]).toArray t fr):=by
 obtain⟨ps,⟨J,t',cs,K,p,q,C,u,a,E,_,_⟩,_⟩:=h
 obtain rfl:=Yb (f.symm.trans C)
 obtain rfl:=Yb (F.symm.trans u)
 have y:=Vu G s k m o D r w v z E;obtain⟨⟨zero,i⟩,B,d⟩:=Yn.1 H;have d:i=t:=d;subst d;obtain⟨A,j,-,-⟩:=x.1 g zero i I B;unfold World.var? at a;rw[f] at a;simp only[Option.bind_some] at a;rw[j] at a;have a:some A=some cs:=a
 cases a
 refine⟨(0,0),?_⟩;rw[j,<-y]
def Me:List (String×DataW Unit):=[("math/bits.deBruijn32tab",Rows.laid_math_bits_deBruijn32tab),("math/bits.deBruijn64tab",Rows.laid_math_bits_deBruijn64tab),("internal/strconv.uint64pow10",Rows.laid_internal_strconv_uint64pow10),("unicode/utf8.acceptRanges",Rows.laid_unicode_utf8_acceptRanges),("strconv.ErrRange",Rows.laid_strconv_ErrRange),("strconv.ErrSyntax",Rows.laid_strconv_ErrSyntax),("weave/code.headings",Rows.laid_weave_code_headings),("weave/code.shapes",Rows.laid_weave_code_shapes),("unicode/utf8.first",Rows.laid_unicode_utf8_first)]
def QG:List (List UInt8×Lit):=[(Hd,.int .u8 118),(He,.int .u8 102),(IN,.int .u8 109)]
def Oa:List (List UInt8×Lit):=AQ.map λp=>(p.1,.string p.2)
theorem Td {W:Xg} (h:laidMetH Tryz.prog Me W) (b:W.ShapedOpen Tryz.prog):Cn W 6:=by
 have a:laidMet Tryz.prog Me W:=h;have d:laidMet Tryz.prog [("internal/strconv.uint64pow10",Lib.tabData .u64 Lib.pow10Tab)] W:=a.filter (λx=>x.1 == "internal/strconv.uint64pow10");have f:laidMet Tryz.prog [("weave/code.headings",.agg (QG.map λq=>.agg [.lit (.string q.1),.lit q.2]))] W:=a.filter (λx=>x.1 == "weave/code.headings");have c:laidMet Tryz.prog [("weave/code.shapes",.agg (Oa.map λq=>.agg [.lit (.string q.1),.lit q.2]))] W:=a.filter (λx=>x.1 == "weave/code.shapes");refine⟨?_,?_,Lib.tabIs_of_head (rest:=[]) Tryz.powG (by kernel_rfl) Tryz.underlying323 Tryz.underlying274 (by kernel_rfl) (by kernel_rfl) d,Xf _⟩
 ·have:=Np (g:=2) (by kernel_rfl) (by kernel_rfl) Tryz.underlying291 Tryz.underlying290 rfl rfl Tryz.underlying9 (.inr Tryz.underlying5) (by kernel_rfl) (by kernel_rfl) (by kernel_rfl) (by kernel_rfl) (by kernel_rfl) (of_decide_eq_true (by kernel_rfl)) b f;obtain⟨fr,e⟩:=this;rw[show (QG.flatMap λq=>[Yl ⟨q.1.toArray⟩,Gf q.2]).toArray=tabC Gh by kernel_rfl] at e
  exact⟨fr,e⟩
 ·have:=Np (g:=3) (by kernel_rfl) (by kernel_rfl) Tryz.underlying312 Tryz.underlying311 rfl rfl Tryz.underlying9 (.inl Tryz.underlying9) (by kernel_rfl) (by kernel_rfl) (by kernel_rfl) (by kernel_rfl) (by kernel_rfl) (of_decide_eq_true (by kernel_rfl)) b c;obtain⟨fr,e⟩:=this;rw[show (Oa.flatMap λq=>[Yl ⟨q.1.toArray⟩,Gf q.2]).toArray=tabC Hh by kernel_rfl] at e
  exact⟨fr,e⟩
def Wv:DataW Unit->Xj
 |.lit x=>Gf x
 |_=>.int .i64 0
def Jh:DataW Unit->Array Xj
 |.agg l=>(l.map Wv).toArray
 |_ => #[]
def MK:DataW Unit->Array Xj
 |.agg l=>(l.flatMap λd=>(Jh d).toList).toArray
 |_ => #[]
def Kq:DataW Unit->ByteArray
 |.iface _ (.ptr (.agg [.lit (.string b)]))=>⟨b.toArray⟩
 |_=>.empty
noncomputable def low:Nat:=(World.holding Tryz.prog default ⟨#[],#[],[]⟩).heap.size
def EV (cs:Array Xj):Obj->Obj
 |.cells _ t frozen=>.cells cs t frozen
 |o=>o
end Go.Proofs.YtdcacoifehkioaaGreatDoor
namespace Go.Proofs
open Go.Shelf
shelf_lay Lays.n169 Nm 169 at Tryz as Tryz.lays169
theorem Tryz.extra169:Builder.Extra Tryz.prog Tryz.lays169_ren:={sizeBuilder:=by kernel_rfl,liesBuilder:=by kernel_rfl,t5:=Tryz.underlying5,a5:=Tryz.isAgg5,z5:=Tryz.sizeOf5,v5:=Tryz.zeroValue5,infoByte:=by kernel_rfl,cellsByte:=by kernel_rfl,sizeByte:=by kernel_rfl,neB5:=by decide}
end Go.Proofs
namespace Go.Proofs.YtdcacoifehkioaaGreatDoor
open Go.RowKit Go.Shelf Go.Proofs.Cod
theorem Tryz.infoU8b:(Tryz.prog.info? 5).map (λi=>(i.zero,i.size,i.bytes))=some (some (.int .u8 0),1,1):=by kernel_rfl
theorem Tryz.sizeBdb:(Tryz.prog.info? 188).map (·.size)=some 2:=by kernel_rfl
theorem Tryz.liesBdb:liesAt Tryz.prog Tryz.prog.depth 188 (2 / Tryz.prog.cellsOf 188) 0 188 1=true:=by kernel_rfl
structure KQ (w:Xg) (B b:Nat) (buf:Xj) (out:Tx):Prop where
 cell:∃p,(p = .pointer none\/p = .pointer (some ⟨b,0,none⟩))/\w.heap[b]?=some (.cells #[p,buf] 188)
 row:w.ownsRow B 5 1 buf out.length (Zo out)
 ne:buf.ownBlock≠some b
 hb:B<=b
def BW (w:Xg) (B b:Nat) (out:Tx):Prop:=∃buf,KQ w B b buf out
section
variable {w w':Xg} {B b:Nat} {buf:Xj} {out:Tx}
theorem KQ.lt (h:KQ w B b buf out):b<w.heap.size:=by
 obtain⟨p,_,a⟩:=h.cell
 exact(Xa.1 a).1
theorem BW.below (h:BW w B b out) (a:Below w.heap.size w w'):BW w' B b out:=by
 obtain⟨buf,h⟩:=h;have c:=h.lt;obtain⟨p,f,d⟩:=h.cell
 exact⟨buf,⟨p,f,(a.block b c).trans d⟩,Bg h.row (λg e=>a.block g (h.row.lt g e).2),h.ne,h.hb⟩
theorem BW.fresh (w:Xg):BW (w.alloc (.cells #[.pointer none,.slice none 0 0] 188)) w.heap.size w.heap.size []:=
 ⟨.slice none 0 0,⟨_,.inl rfl,by show (w.heap.push _)[w.heap.size]?=_;simp⟩,World.ownsRow_nil _ _ _ _,by simp[Value.ownBlock],Xf _⟩
theorem RJ (h:KQ w B b buf out):X3 Tryz.prog 152 #[.pointer (some ⟨b,0,none⟩)] w λe w'=>e = .returned (.tuple #[])/\w'.heap[b]?=some (.cells #[.pointer (some ⟨b,0,none⟩),buf] 188)/\w'.heap.size=w.heap.size/\(∀k,k≠b->w'.heap[k]?=w.heap[k]?)/\w'.os=w.os/\w'.tape=w.tape/\w'.output=w.output:=by
 obtain⟨j,c,g⟩:=Yn.1 Tryz.sizeBdb;obtain⟨p,l,a⟩:=h.cell;have m:w.cell? ⟨b,0,none⟩=some p:=by simp[Xh,a]
 have d:w.shape? b=some (188,2):=by simp[World.shape?,a]
 have n:w.frozen? ⟨b,0,none⟩=false:=by simp[XE,a]
 have f:=Aa a;clear h a
 rcases l with rfl|rfl
 ·go_enter Tryz.func152,Tryz.ntmps152
  go_wp2
  rw[Lib.run_to_unsafe w ⟨b,0,none⟩ Tryz.underlying185 Tryz.underlying296 c (by rw[g];decide) d (by show 0<2;omega)];simp only[ZC];rw[Oper.upon_value]
  go_wp2
  rw[run_callFunc_extern Tryz.func190 (by kernel_rfl) (by kernel_rfl) (by kernel_rfl) (e:=Extern.AbiNoEscape.same) (by kernel_rfl)];rw[Lib.run_noEscape];simp only[ZC];rw[Oper.upon_value]
  go_wp2
  rw[Lib.run_from_unsafe w ⟨b,0,none⟩ Tryz.underlying296 Tryz.underlying185 c d Tryz.liesBdb];simp only[ZC];rw[Oper.upon_value]
  go_wp2
  go_end0
  exact⟨rfl,(Xk _ b 0 _ _ _ f.out).trans rfl,by simp,λk i=>Xl _ ⟨b,0,none⟩ _ k i,rfl,rfl,rfl⟩
 ·go_enter Tryz.func152,Tryz.ntmps152
  go_wp2
  rw[Lib.run_neq_ptr_same w _ Tryz.underlying185 c]
  go_wp2
  go_end0
  exact⟨rfl,f.out,rfl,λ_ _=>rfl,rfl,rfl,rfl⟩
theorem FI (h:BW w B b out) (s:Tx) (D:out.length+s.length<=140737488355328) (R:B<=w.heap.size) :
 X3 Tryz.prog 121 #[Ab b,.string (bs s)] w λe w'=>e = .returned (.tuple #[.int .i64 s.length,.nilIface])/\BW w' B b (out++s)/\Below B w w':=by
 obtain⟨buf,h⟩:=h;obtain⟨A,K,F,M,N⟩:=Y2 Tryz.infoU8b;have z:=AY s;have G:=Aa (RJ h);have H:=Aa h;clear h;unfold Ab
 go_enter Tryz.func121,Tryz.ntmps121
 go_wp2_with fail
 refine G.out.mono ?_;rintro e w1 ⟨rfl,f,n,d,j,l,m⟩;have v:w1.ownsRow B 5 1 buf out.length (Zo out):=Bg H.out.row λg e=>d g (λr=>H.out.ne (by rw[e,r]));have c5:w1.cell? ⟨b,1,none⟩=some buf:=by simp[Xh,f]
 have u:=Aa (⟨f,n,d,j,l,m⟩:_/\_/\_/\_/\_/\_);clear f n d j l m
 go_wp2_with (at_builtin;refine Lib.wpList_append_own_string _ rfl _ _ 186 9 rfl B 5 A Tryz.underlying186 Tryz.underlying9 K F M N _ _ _ rfl v (bs s) rfl ?c3 ?c4 ?c5 ?_)
 case c3=>rw[z];unfold maxLen;omega
 case c4=>rw[z];exact D
 case c5=>have:=u.out.2.1;omega
 intro E t i a C;obtain⟨f,n,d,j,l,m⟩:=u.out;have c:t.heap[b]?=some (.cells #[.pointer (some ⟨b,0,none⟩),buf] 188):=(a.block b (by rw[n];exact H.out.lt) (λe=>H.out.ne e.symm)).trans f;have P:t.cell? ⟨b,1,none⟩=some buf:=by simp[Xh,c]
 have O:t.frozen? ⟨b,1,none⟩=false:=by simp[XE,c]
 obtain⟨o,p,cap,rfl⟩:∃o p cap,E = .slice o p cap:=by
  rcases i.2 with⟨q,_⟩|⟨g,cap,S,q,_⟩
  ·exact⟨_,_,_,q⟩
  ·exact⟨_,_,_,q⟩
 have I:=Aa (⟨c,i,a⟩:_/\_/\_);clear c i a C f n d j l m v
 go_wp2
 go_ret2
 obtain⟨f,n,d,j,l,m⟩:=u.out;obtain⟨c,i,a⟩:=I.out;have x:(YN o p cap).ownBlock≠some b:=Lib.ownBlock_ne i c (by decide);have J:Zo out++Lib.strCells (bs s)=Zo (out++s):=by rw[Lib.strCells_eq,Lib.byteCells_append];rfl
 refine⟨rfl,⟨.slice o p cap,⟨_,.inr rfl,(Xk _ b 1 _ _ _ c).trans rfl⟩,?_,x,H.out.hb⟩,⟨a.os.trans j,a.tape.trans l,a.output.trans m,by simp only[XG];have:=a.size;omega,λk Q=>?_⟩⟩
 ·rw[Xd,<-J];exact Bg i λg e=>Xl _ ⟨b,1,none⟩ _ g (λr=>x (by rw[e,r]))
 ·have y:k≠b:=by have:=H.out.hb;omega
  rw[Xl _ ⟨b,1,none⟩ _ k y,a.block k (by omega) (λe=>by have:=(H.out.row.lt k e.symm).1;omega),d k y]
theorem GU (h:BW w B b out) (c:UInt8) (P:out.length+1<=140737488355328) (U:B<=w.heap.size) :
 X3 Tryz.prog 135 #[Ab b,.int .u8 c.toNat] w λe w'=>e = .returned .nilIface/\BW w' B b (out++[c])/\Below B w w':=by
 obtain⟨buf,h⟩:=h;obtain⟨C,K,F,M,O⟩:=Y2 Tryz.infoU8b;have G:=Aa (RJ h);have H:=Aa h;clear h;unfold Ab
 go_enter Tryz.func135,Tryz.ntmps135
 go_wp2_with fail
 refine G.out.mono ?_;rintro e w1 ⟨rfl,i,p,f,m,n,o⟩;have v:w1.ownsRow B 5 1 buf out.length (Zo out):=Bg H.out.row λg e=>f g (λr=>H.out.ne (by rw[e,r]));have c5:w1.cell? ⟨b,1,none⟩=some buf:=by simp[Xh,i]
 have t:=Aa (⟨i,p,f,m,n,o⟩:_/\_/\_/\_/\_/\_);clear i p f m n o
 go_wp2_with (at_builtin;refine wpList_append_own _ rfl _ _ 186 rfl B 5 C (.int .u8 0) 1 1 Tryz.underlying186 K F M O rfl (by decide) _ _ _ rfl (v.alloc _) ⟨w1.heap.size,0,none⟩ 1 1 [.int .u8 c.toNat] rfl rfl ?c1 ?c2 ?c3 ?c4 ?c5 ?_)
 case c1=>
  intro j u q
  match j,q with
  |0,q=>simp at q;subst q;simp[Addr.add]
 case c2=>intro u y;simp at y;subst y;rfl
 case c3=>unfold maxLen;omega
 case c4=>omega
 case c5=>have:=t.out.2.1;simp;omega
 intro E s l a D;obtain⟨i,p,f,m,n,o⟩:=t.out;have d:s.heap[b]?=some (.cells #[.pointer (some ⟨b,0,none⟩),buf] 188):=by
  rw[a.block b (by simp;have:=H.out.lt;omega) (λe=>H.out.ne e.symm),Lib.alloc_old w1 _ b (by rw[p];exact H.out.lt)];exact i
 have R:s.cell? ⟨b,1,none⟩=some buf:=by simp[Xh,d]
 have Q:s.frozen? ⟨b,1,none⟩=false:=by simp[XE,d]
 obtain⟨g,cap,rfl⟩:∃g cap,E = .slice (some ⟨g,0,none⟩) (out.length+1) cap:=by
  rcases l.2 with⟨_,T⟩|⟨g,cap,V,A,_⟩
  ·omega
  ·exact⟨g,cap,A⟩
 have I:=Aa (⟨d,l,a⟩:_/\_/\_);clear d l a D i p f m n o v
 go_wp2
 go_ret
 obtain⟨i,p,f,m,n,o⟩:=t.out;obtain⟨d,l,a⟩:=I.out;have x:(YN (some ⟨g,0,none⟩) (out.length+1) cap).ownBlock≠some b:=Lib.ownBlock_ne l d (by decide);have J:Zo out++[.int .u8 c.toNat]=Zo (out++[c]):=by rw[Lib.byteCells_append];rfl
 have N:=a.size
 simp at N
 refine⟨rfl,⟨.slice (some ⟨g,0,none⟩) (out.length+1) cap,⟨_,.inr rfl,(Xk _ b 1 _ _ _ d).trans rfl⟩,?_,x,H.out.hb⟩,⟨a.os.trans m,a.tape.trans n,a.output.trans o,by simp only[XG];omega,λk S=>?_⟩⟩
 ·rw[Xd,<-J];exact Bg l λg e=>Xl _ ⟨b,1,none⟩ _ g (λr=>x (by rw[e,r]))
 ·have z:k≠b:=by have:=H.out.hb;omega
  rw[Xl _ ⟨b,1,none⟩ _ k z,a.block k (by simp;omega) (λe=>by have:=(H.out.row.lt k e.symm).1;omega),Lib.alloc_old w1 _ k (by omega),f k z]
theorem acu (h:BW w B b out) (d:B<=w.heap.size) :
 X3 Tryz.prog 102 #[Ab b] w λe w'=>e = .returned (.string (bs out))/\Below B w w':=by
 obtain⟨buf,h⟩:=h;have g:Lib.IsBuilder 188 5 B b (Zo out) w:=by
  obtain⟨p,f,c⟩:=h.cell;have a:=h.row;have e:(Zo out).length=out.length:=by simp[Zo]
  rw[<-e] at a
  rcases f with rfl|rfl
  ·exact .inl ⟨h.hb,buf,c,a,h.ne⟩
  ·exact .inr ⟨h.hb,buf,c,a,h.ne⟩
 refine(Any.Builder_String_any Tryz.lays169 Tryz.extra169 B b out w g d).mono ?_;rintro e w' ⟨rfl,i⟩
 exact⟨rfl,i⟩
end
end Go.Proofs.YtdcacoifehkioaaGreatDoor
namespace Go.Proofs.YtdcacoifehkioaaGreatDoor
open Go.RowKit Go.Proofs.Cod
def En (r:Bool) (n:Int):Prop:=0<=n/\n<1000/\(r=true->n<4)
def Gb (i:Ac):Prop:=(0<=i.r/\i.r<4)/\En i.aR i.aN/\En i.bR i.bN
structure FP (nv nf nl nt n:Nat) (i:Ac):Prop where
 sm:Gb i
 x0:0<=i.x
 ex:∃q,q∈AQ/\i.op=q.1/\((118:UInt8)∈q.2->i.x<nv)/\((102:UInt8)∈q.2->i.x<nf)/\((109:UInt8)∈q.2->i.x<nl)/\((116:UInt8)∈q.2->i.x<nt)/\((108:UInt8)∈q.2->i.x<=n)
structure acQ (vs fs ls ts:List Tx) (C:List (List Ac)):Prop where
 v:vs.length<=4
 f:fs.length<=4
 l:ls.length<=4
 t:ts.length<=4
 v8:∀x,x∈vs->x.length<=8
 f8:∀x,x∈fs->x.length<=8
 l8:∀x,x∈ls->x.length<=8
 t8:∀x,x∈ts->x.length<=8
 len:C.length=ts.length
 code:∀c,c∈C->c.length<=24/\∀i,i∈c->FP vs.length fs.length ls.length ts.length c.length i
def Ex:Tx:=[115,101,116]
def ED:Tx:=[97,100,100]
def Ew:Tx:=[115,117,98]
def Ey:Tx:=[109,117,108]
def BH:Tx:=[108,111,97,100]
def Bl:Tx:=[115,116,111,114,101]
def Eg:Tx:=[103,101,116]
def Ef:Tx:=[112,117,116]
def CD:Tx:=[108,111,99,107]
def Ee:Tx:=[117,110,108,111,99,107]
def Cy:Tx:=[115,112,97,119,110]
def CE:Tx:=[106,111,105,110]
def Ez:Tx:=[106,117,109,112]
def EB:Tx:=[106,101,113]
def EA:Tx:=[106,108,116]
def EC:Tx:=[99,104,101,99,107]
def EW:Tx:=[101,110,100]
structure TS where
 ph:Int
 pc:Nat
 regs:List Int
structure MS where
 vars:List Int
 flags:List Int
 locks:List Int
 thr:List TS
structure Ev where
 t:Int
 k:Int
 o:Int
 v:Int
def Aw:TS:=⟨0,0,[0,0,0,0]⟩
def Cl:Ac:=BX EW
def Ci (C:List (List Ac)) (t:Nat) (th:TS):Ac:=(C.getD t []).getD th.pc Cl
def Am (th:TS) (r:Bool) (n:Int):Int:=if r then th.regs.getD n.toNat 0 else n
def MS.th (s:MS) (t:Nat):TS:=s.thr.getD t Aw
def MS.Af (s:MS) (t:Nat) (th:TS):MS:={s with thr:=s.thr.set t th}
def Dd (th:TS):Bool:=th.ph == 2||th.ph == 3
def Cc (s:MS) (x:Ac):Bool:=
 if x.op=CD then decide (s.locks.getD x.x.toNat 0≠-1) else if x.op=CE then !Dd (s.th x.x.toNat) else if x.op=Cy then decide ((s.th x.x.toNat).ph≠0) else false
def AK (C:List (List Ac)) (s:MS) (t:Int):Int:=
 if t<0\/(s.thr.length:Int)<=t\/(s.th t.toNat).ph=0 then 5 else if Dd (s.th t.toNat)=true then 6 else if Cc s (Ci C t.toNat (s.th t.toNat))=true then 7 else 0
def AT (k:Bool) (s:MS) (t:Nat) (x:Ac):MS×Ev:=
 let th:=s.th t
 let a:=Am th x.aR x.aN
 let b:=Am th x.bR x.bN
 let to:=th.pc+1
 let ov:=if k then th.pc else th.pc+1
 let n:=x.x.toNat
 let reg:=λv=>s.Af t {th with pc:=to,regs:=th.regs.set x.r.toNat v}
 if x.op=Ex then(reg a,⟨t,0,0,0⟩)
 else if x.op=ED then(reg ((a+b) % 1000),⟨t,0,0,0⟩)
 else if x.op=Ew then(reg ((a - b+1000) % 1000),⟨t,0,0,0⟩)
 else if x.op=Ey then(reg (a*b % 1000),⟨t,0,0,0⟩)
 else if x.op=BH then(reg (s.vars.getD n 0),⟨t,1,x.x,s.vars.getD n 0⟩)
 else if x.op=Bl then({s.Af t {th with pc:=to} with vars:=s.vars.set n a},⟨t,2,x.x,a⟩)
 else if x.op=Eg then(reg (s.flags.getD n 0),⟨t,3,x.x,s.flags.getD n 0⟩)
 else if x.op=Ef then({s.Af t {th with pc:=to} with flags:=s.flags.set n a},⟨t,4,x.x,a⟩)
 else if x.op=CD then({s.Af t {th with pc:=to} with locks:=s.locks.set n t},⟨t,5,x.x,0⟩)
 else if x.op=Ee then(if s.locks.getD n 0≠t then(s.Af t {th with ph:=3,pc:=ov},⟨t,9,0,0⟩) else({s.Af t {th with pc:=to} with locks:=s.locks.set n (-1)},⟨t,6,x.x,0⟩))
 else if x.op=Cy then((s.Af t {th with pc:=to}).Af n {(s.Af t {th with pc:=to}).th n with ph:=1},⟨t,7,x.x,0⟩)
 else if x.op=CE then(s.Af t {th with pc:=to},⟨t,8,x.x,0⟩)
 else if x.op=Ez then(s.Af t {th with pc:=n},⟨t,0,0,0⟩)
 else if x.op=EB then(s.Af t {th with pc:=if a=b then n else to},⟨t,0,0,0⟩)
 else if x.op=EA then(s.Af t {th with pc:=if a<b then n else to},⟨t,0,0,0⟩)
 else if x.op=EC then(if a≠b then(s.Af t {th with ph:=3,pc:=ov},⟨t,9,0,0⟩) else(s.Af t {th with pc:=to},⟨t,0,0,0⟩))
 else(s.Af t {th with ph:=2,pc:=ov},⟨t,10,0,0⟩)
def BO (nv nf nl nt:Nat):MS:=⟨XJ nv 0,XJ nf 0,XJ nl (-1),(Yt nt).map λt=>if t=0 then {Aw with ph:=1} else Aw⟩
def CZ (n:Int):Prop:=0<=n/\n<1000
structure FJ (n:Nat) (th:TS):Prop where
 ph:0<=th.ph/\th.ph<=3
 pc:th.ph<=1->th.pc<=n
 pc2:th.pc<=n+1
 rl:th.regs.length=4
 rv:∀v,v∈th.regs->CZ v
structure CG (nv nf nl:Nat) (C:List (List Ac)) (s:MS):Prop where
 vl:s.vars.length=nv
 fl:s.flags.length=nf
 ll:s.locks.length=nl
 tl:s.thr.length=C.length
 vv:∀v,v∈s.vars->CZ v
 fv:∀v,v∈s.flags->CZ v
 lv:∀v,v∈s.locks->-1<=v/\v<C.length
 th:∀t,t<C.length->FJ (C.getD t []).length (s.th t)
theorem JV (b c nl:Nat) (C:List (List Ac)):CG b c nl C (BO b c nl C.length):=by
 refine⟨by simp[BO],by simp[BO],by simp[BO],by simp[BO],λv a=>?_,λv a=>?_,λv a=>?_,λt f=>?_⟩
 ·obtain⟨-,rfl⟩:=adS.1 a
  exact⟨by omega,by omega⟩
 ·obtain⟨-,rfl⟩:=adS.1 a
  exact⟨by omega,by omega⟩
 ·obtain⟨-,rfl⟩:=adS.1 a
  exact⟨by omega,by omega⟩
 ·have e:(BO b c nl C.length).th t=if t=0 then {Aw with ph:=1} else Aw:=by
   unfold MS.th BO;rw[Xb,Xp,List.getElem?_range f];rfl
  rw[e];have d:∀v,v∈Aw.regs->CZ v:=by
   intro v a;simp[Aw] at a;subst a
   exact⟨by omega,by omega⟩
  split
  ·exact⟨⟨by decide,by decide⟩,λ_=>XD _,XD _,rfl,d⟩
  ·exact⟨⟨by decide,by decide⟩,λ_=>XD _,XD _,rfl,d⟩
theorem CF {α:Type} {l:List α} {k:Nat} {d:α} (h:k<l.length):l.getD k d∈l:=by
 rw[Xb,Xc h];exact List.getElem_mem h
theorem IP {α:Type} {l:List α} {p:α->Prop} (h:∀v,v∈l->p v) {k:Nat} {x:α} (b:p x):∀v,v∈l.set k x->p v:=λv a=>by
 rcases List.mem_or_eq_of_mem_set a with a|rfl
 ·exact h v a
 ·exact b
theorem Fr (s:MS) (t u:Nat) (th:TS) (b:t<s.thr.length):(s.Af t th).th u=if u=t then th else s.th u:=by
 unfold MS.th MS.Af;rw[Xb,YC,Xb]
 by_cases e:u=t
 ·subst e;rw[if_pos rfl,if_pos b,if_pos rfl];rfl
 ·rw[if_neg (λa=>e a.symm),if_neg e]
section
variable {nv nf nl:Nat} {C:List (List Ac)} {s:MS}
theorem CG.Af (h:CG nv nf nl C s) {t:Nat} (b:t<C.length) {th:TS} (a:FJ (C.getD t []).length th):CG nv nf nl C (s.Af t th):=by
 refine⟨h.vl,h.fl,h.ll,by show (s.thr.set t th).length=_;rw[Yq];exact h.tl,h.vv,h.fv,h.lv,λu c=>?_⟩;rw[Fr s t u th (by rw[h.tl];exact b)]
 split
 ·rename_i e;subst e;exact a
 ·exact h.th u c
theorem KY {n:Nat} {th:TS} (h:FJ n th) {r:Bool} {m:Int} (a:En r m):CZ (Am th r m):=by
 unfold Am
 split
 ·rename_i e;have:=a.2.2 e;have b:=a.1;exact h.rv _ (CF (by rw[h.rl];omega))
 ·exact⟨a.1,a.2.1⟩
theorem LP (a:Int):CZ (a % 1000):=⟨by omega,by omega⟩
theorem Lc (k:Bool) (h:CG nv nf nl C s) {t:Nat} (a:t<C.length) (E:(s.th t).ph=1) {x:Ac} (f:Cc s x=false) (d:x=Cl\/(FP nv nf nl C.length (C.getD t []).length x/\(s.th t).pc<(C.getD t []).length)):CG nv nf nl C (AT k s t x).1:=by
 have b:=h.th t a;have K:=b.pc (by omega);have A:(if k then(s.th t).pc else(s.th t).pc+1)<=(C.getD t []).length+1:=by split<;>omega
 have fin:∀p:Int,p=2\/p=3->FJ (C.getD t []).length {s.th t with ph:=p,pc:=if k then(s.th t).pc else(s.th t).pc+1}:=λp F=>
  ⟨by show 0<=p/\p<=3;omega,λe=>by have e:p<=1:=e;omega,A,b.rl,b.rv⟩
 rcases d with rfl|⟨d,J⟩
 ·exact h.Af a (fin 2 (.inl rfl))
 ·have g:∀n,n<=(C.getD t []).length->FJ (C.getD t []).length {s.th t with pc:=n}:=λn i=>⟨b.ph,λ_=>i,by show n<=_;omega,b.rl,b.rv⟩
  have c:∀v,CZ v->FJ (C.getD t []).length {s.th t with pc:=(s.th t).pc+1,regs:=(s.th t).regs.set x.r.toNat v}:=λv w=>
   ⟨b.ph,λ_=>by show _+1<=_;omega,by show _+1<=_;omega,by show (List.set _ _ _).length=4;rw[Yq];exact b.rl,IP b.rv w⟩
  have go:=h.Af a (g ((s.th t).pc+1) (by omega));have m:=KY b d.sm.2.1;have I:=KY b d.sm.2.2;obtain⟨q,u,o,z,y,H,B,l⟩:=d.ex;have D:=d.x0;simp only[AQ,List.mem_cons,List.not_mem_nil,or_false] at u
  rcases u with rfl|rfl|rfl|rfl|rfl|rfl|rfl|rfl|rfl|rfl|rfl|rfl|rfl|rfl|rfl|rfl|rfl<;>unfold AT<;>rw[o]
  ·exact h.Af a (c _ m)
  ·exact h.Af a (c _ (LP _))
  ·exact h.Af a (c _ (LP _))
  ·exact h.Af a (c _ (LP _))
  ·exact h.Af a (c _ (h.vv _ (CF (by rw[h.vl];have:=z (by decide);omega))))
  ·exact⟨by show (List.set _ _ _).length=_;rw[Yq];exact h.vl,go.fl,go.ll,go.tl,IP h.vv m,go.fv,go.lv,go.th⟩
  ·exact h.Af a (c _ (h.fv _ (CF (by rw[h.fl];have:=y (by decide);omega))))
  ·exact⟨go.vl,by show (List.set _ _ _).length=_;rw[Yq];exact h.fl,go.ll,go.tl,go.vv,IP h.fv m,go.lv,go.th⟩
  ·exact⟨go.vl,go.fl,by show (List.set _ _ _).length=_;rw[Yq];exact h.ll,go.tl,go.vv,go.fv,IP h.lv ⟨by omega,by omega⟩,go.th⟩
  ·show CG nv nf nl C (YA (if s.locks.getD x.x.toNat 0≠t then _ else _:MS×Ev))
   split
   ·exact h.Af a (fin 3 (.inr rfl))
   ·exact⟨go.vl,go.fl,by show (List.set _ _ _).length=_;rw[Yq];exact h.ll,go.tl,go.vv,go.fv,IP h.lv ⟨by omega,by omega⟩,go.th⟩
  ·have i:x.x.toNat<C.length:=by have:=B (by decide);omega
   have j:=go.th _ i;refine go.Af i ⟨⟨by show (0:Int)<=1;decide,by show (1:Int)<=3;decide⟩,λ_=>j.pc ?_,j.pc2,j.rl,j.rv⟩;have G:(s.th x.x.toNat).ph=0:=by
    unfold Cc at f;rw[o] at f;have f:decide ((s.th x.x.toNat).ph≠0)=false:=f
    simpa using f
   rw[Fr s t _ _ (by rw[h.tl];exact a)]
   split
   ·show (s.th t).ph<=1;omega
   ·omega
  ·exact go
  ·exact h.Af a (g _ (by have:=l (by decide);omega))
  ·exact h.Af a (g _ (by have:=l (by decide);split<;>omega))
  ·exact h.Af a (g _ (by have:=l (by decide);split<;>omega))
  ·show CG nv nf nl C (YA (if Am _ _ _≠Am _ _ _ then _ else _:MS×Ev))
   split
   ·exact h.Af a (fin 3 (.inr rfl))
   ·exact go
  ·exact h.Af a (fin 2 (.inl rfl))
end
def Ak (w:Xg) (b T n:Nat) (f:Nat->Xj):Prop:=∃cs:Array Xj,w.heap[b]?=some (.cells cs T)/\cs.size=n/\∀k,k<n->cs[k]?=some (f k)
structure Ae (S:Nat->Prop) (w w':Xg):Prop where
 os:w'.os=w.os
 tape:w'.tape=w.tape
 output:w'.output=w.output
 size:w.heap.size<=w'.heap.size
 block:∀k,k<w.heap.size->¬S k->w'.heap[k]?=w.heap[k]?
section
variable {w w' w'':Xg} {b T n:Nat} {f g:Nat->Xj} {S S':Nat->Prop}
theorem Ak.lt (h:Ak w b T n f):b<w.heap.size:=by
 obtain⟨cs,a,-,-⟩:=h
 exact(Xa.1 a).1
theorem Ak.cell (h:Ak w b T n f) {k:Nat} (c:k<n):w.cell? ⟨b,k,none⟩=some (f k):=by
 obtain⟨cs,d,e,a⟩:=h;rw[cell_of_row w b k cs T (0,0) d,a k c]
theorem Ak.frozen (h:Ak w b T n f) (k:Nat):w.frozen? ⟨b,k,none⟩=false:=by
 obtain⟨cs,a,d,c⟩:=h;simp[XE,a]
theorem Ak.same (h:Ak w b T n f) (e:w'.heap[b]?=w.heap[b]?):Ak w' b T n f:=by
 obtain⟨cs,a,c⟩:=h
 exact⟨cs,e.trans a,c⟩
theorem Ak.congr (h:Ak w b T n f) (e:∀k,k<n->f k=g k):Ak w b T n g:=by
 obtain⟨cs,d,i,c⟩:=h
 exact⟨cs,d,i,λk a=>by rw[c k a,e k a]⟩
theorem Ak.set (h:Ak w b T n f) (k:Nat) (v:Xj):Ak (w.setCell ⟨b,k,none⟩ v) b T n (λj=>if j=k then v else f j):=by
 obtain⟨cs,c,i,a⟩:=h;refine⟨cs.setIfInBounds k v,Xk w b k cs T v c,by simp[i],λj g=>?_⟩;rw[Array.getElem?_setIfInBounds]
 by_cases e:k=j
 ·subst e;rw[if_pos rfl,if_pos (by omega)];show some v=some (if k=k then v else f k);rw[if_pos rfl]
 ·rw[if_neg e,a j g];show some (f j)=some (if j=k then v else f j);rw[if_neg (λd:j=k=>e d.symm)]
theorem Ak.other (h:Ak w b T n f) {a:Addr} (c:b≠a.block) (v:Xj):Ak (w.setCell a v) b T n f:=h.same (XC w a b v c)
theorem Ak.below (h:Ak w b T n f) (a:Below w.heap.size w w'):Ak w' b T n f:=h.same (a.block b h.lt)
theorem Ak.keep (h:Ak w b T n f) (c:Ae S w w') (a:¬S b):Ak w' b T n f:=h.same (c.block b h.lt a)
theorem Ak.new (w:Xg) (cs:Array Xj) (T:Nat) (a:∀k,k<cs.size->cs[k]?=some (f k)):Ak (w.alloc (.cells cs T)) w.heap.size T cs.size f:=⟨cs,by show (w.heap.push _)[w.heap.size]?=_;simp,rfl,a⟩
theorem Ae.refl (w:Xg):Ae S w w:=⟨rfl,rfl,rfl,Xf _,λ_ _ _=>rfl⟩
theorem Ae.trans (h:Ae S w w') (a:Ae S w' w''):Ae S w w'':=⟨a.os.trans h.os,a.tape.trans h.tape,a.output.trans h.output,Nat.le_trans h.size a.size,λk b c=>(a.block k (Nat.lt_of_lt_of_le b h.size) c).trans (h.block k b c)⟩
theorem Ae.mono (h:Ae S w w') (c:∀k,k<w.heap.size->S k->S' k):Ae S' w w':=⟨h.os,h.tape,h.output,h.size,λk a b=>h.block k a (λe=>b (c k a e))⟩
theorem Ae.set (h:Ae S w w') {a:Addr} (b:S a.block\/w.heap.size<=a.block) (v:Xj):Ae S w (w'.setCell a v):=
 ⟨h.os,h.tape,h.output,by rw[XG];exact h.size,λk d c=>(XC w' a k v (λe=>by subst e;rcases b with b|b;exact c b;omega)).trans (h.block k d c)⟩
theorem Ae.CK (h:Below w.heap.size w w'):Ae S w w':=⟨h.os,h.tape,h.output,h.size,λk a _=>h.block k a⟩
theorem Ae.alloc (h:Ae S w w') (o:Obj):Ae S w (w'.alloc o):=h.trans (Ae.CK ((Below.refl _ _).alloc (Xf _) o))
theorem Ae.drew (h:Ae S w w'):Ae S w w'.drew:=⟨h.os,h.tape,h.output,h.size,h.block⟩
theorem Ln (vs:List Xj) (o:Nat):∀{w:Xg} {f:Nat->Xj},Ak w b T n f->o+vs.length<=n->Ak (w.setCells b o vs) b T n (λj=>if o<=j/\j<o+vs.length then vs.getD (j - o) undef else f j):=by
 induction vs generalizing o with
 |nil=>
  intro w f h _;exact h.congr λk _=>by
   rw[if_neg];simp only[List.length_nil];omega
 |cons v r c=>
  intro w f h d;simp only[Xw] at d;have:=c (o+1) (h.set o v) (by omega);show Ak ((w.setCell ⟨b,o,none⟩ v).setCells b (o+1) r) b T n _;refine this.congr λk g=>?_;simp only[Xw]
  by_cases e:k=o
  ·subst e;rw[if_neg (by omega),if_pos rfl,if_pos ⟨Xf _,by omega⟩,Nat.sub_self];rfl
  ·by_cases a:o+1<=k/\k<o+1+r.length
   ·rw[if_pos a,if_pos (by omega),show k - o=(k - (o+1))+1 by omega];rfl
   ·rw[if_neg a,if_neg e,if_neg (by omega)]
theorem Fx (vs:List Xj) (o:Nat):∀{w':Xg},Ae S w w'->S b\/w.heap.size<=b->Ae S w (w'.setCells b o vs):=by
 induction vs generalizing o with
 |nil=>exact λh _=>h
 |cons v r c=>exact λh a=>c (o+1) (h.set a v) a
theorem Ok (vs:List Xj) (o:Nat) {k:Nat} (c:k≠b):∀{w:Xg},(w.setCells b o vs).heap[k]?=w.heap[k]?:=by
 induction vs generalizing o with
 |nil=>exact rfl
 |cons v r a=>exact(a (o+1)).trans (XC _ _ k v c)
end
section
variable {P:Program}
theorem acF (b o j:Nat):(⟨b,o,none⟩:Addr).add j=⟨b,o+j,none⟩:=by unfold Addr.add;split<;>simp_all
theorem IQ (w:Xg) (b o n a:Nat) (f:Nat->Xj) (d:TypeDesc) (h:∀j,j<n->w.cell? ⟨b,o+j,none⟩=some (f j)) (k:P.underlying a=some d) (q:(match d with | .struct _ | .array _ _=>true|_=>false)=true) (e:(P.info? a).map (·.size)=some n) :
 (loadVar a ⟨b,o,none⟩).run P w = .ok (.agg ((Yt n).map f).toArray) w:=by
 have p:=run_loadCells (P:=P) w ⟨b,o,none⟩ n f (λj m=>by rw[acF];exact h j m)
 cases c:P.info? a with
 |none=>simp[c] at e
 |some i=>
  have g:i.size=n:=by simpa [c] using e
  have l:(isAgg a).run P w = .ok true w:=by
   unfold isAgg;rw[Sem.run_bind,run_underlying k w]
   cases d<;>simp_all
  simp[loadVar,Sem.run_bind,l,sizeOf,typeInfo,c,g,p]
theorem Ol (w:Xg) (b o c:Nat) (vs:Array Xj) (g:∀j,j<vs.size->(w.cell? ⟨b,o+j,none⟩).isSome=true) (h:∀j,j<vs.size->w.frozen? ⟨b,o+j,none⟩=false) (e:(P.info? c).map (·.size)=some vs.size) (k:∀v∈vs.toList,v.oneCell'=true) :
 (storeVar c ⟨b,o,none⟩ (.agg vs)).run P w = .ok () (w.setCells b o vs.toList):=by
 have:=run_storeCells_cells (P:=P) b o vs.toList 0 w (λj d=>by rw[ads];exact g j (by simpa using d)) (λj d=>by rw[ads];exact h j (by simpa using d)) k;rw[ads] at this
 cases a:P.info? c with
 |none=>simp[a] at e
 |some i=>
  have f:vs.size=i.size:=by simp[a] at e;omega
  simp[storeVar,sizeOf,typeInfo,a,Value.cells,f,this]
theorem KW {g:Array Oper} {rest:List Oper} {o:Oper} {a:Act} {w:Xg} {Q:Exit->Act->Xg->Prop} (p:o.guard=none) (c:YD) (x:Operand) (s:o.op = .load c x)
 (b e n:Nat) (q:a.eval x = .pointer (some ⟨b,e,none⟩)) (f:Nat->Xj) (d:TypeDesc) (i:∀j,j<n->w.cell? ⟨b,e+j,none⟩=some (f j)) (k:P.underlying c=some d) (l:(match d with | .struct _ | .array _ _=>true|_=>false)=true) (m:(P.info? c).map (·.size)=some n)
 (h:wpList P g Q rest (a.put o.dst (.agg ((Yt n).map f).toArray)) w):wpList P g Q (o::rest) a w:=
 wpList_plain p λ_ r=>by
  unfold Oper.wp execOp;simp only[s,q,Instr.loadAt,Instr.sureAddr,Sem.run_bind,Sem.run_pure,adj,IQ w b e n c f d i k l m];exact r _ _ h
theorem Ha {e:Array Oper} {rest:List Oper} {o:Oper} {a:Act} {w:Xg} {Q:Exit->Act->Xg->Prop} (k:o.guard=none) (d:YD) (x y:Operand) (q:o.op = .store d x y)
 (b c:Nat) (vs:Array Xj) (l:a.eval x = .pointer (some ⟨b,c,none⟩)) (g:a.eval y = .agg vs) (f:∀j,j<vs.size->(w.cell? ⟨b,c+j,none⟩).isSome=true) (m:∀j,j<vs.size->w.frozen? ⟨b,c+j,none⟩=false) (i:(P.info? d).map (·.size)=some vs.size) (p:∀v∈vs.toList,v.oneCell'=true)
 (h:wpList P e Q rest (a.put o.dst undef) (w.setCells b c vs.toList)):wpList P e Q (o::rest) a w:=
 wpList_plain k λ_ n=>by
  unfold Oper.wp execOp;simp only[q,l,g,Instr.storeAt,Instr.sureAddr,Sem.run_bind,Sem.run_pure,adj,Ol w b c d vs f m i p];exact n _ _ h
end
structure PD where
 vs:List Tx
 fs:List Tx
 ls:List Tx
 ts:List Tx
 C:List (List Ac)
def Ks:List (Tx×Nat):=[(Ex,74),(ED,77),(Ew,78),(Ey,79),(BH,80),(Bl,82),(Eg,84),(Ef,85),(CD,86),(Ee,87),(Cy,88),(CE,89),(Ez,91),(EB,93),(EA,94),(EC,95),(EW,96)]
def Di (op:Tx):Xj:=match Ks.find? λp=>p.1=op with
 |some p=>.func (.func p.2) #[] #[]
 |none=>.nilFunc
def Kk (i:Ac) (j:Nat):Xj:=if j=0 then .string (bs i.op) else if j=1 then .int .i64 i.r else if j=2 then .bool i.aR else if j=3 then .int .i64 i.aN else if j=4 then .bool i.bR else if j=5 then .int .i64 i.bN else .int .i64 i.x
def Fe (i:Ac) (j:Nat):Xj:=if j<7 then Kk i j else Di i.op
def Rk (c:Option (List Ac)) (k j:Nat):Xj:=match c with
 |none=>Fe (BX []) j
 |some c=>if k<c.length then Fe (c.getD k Cl) j else if k=c.length then Fe Cl j else Fe (BX []) j
def Bv (nm:Tx) (c:Option (List Ac)) (th:TS) (j:Nat):Xj:=if j=0 then .string (bs nm) else if j=1 then .int .i64 th.ph else if j=2 then .int .i64 th.pc else if j<7 then .int .i64 (th.regs.getD (j - 3) 0) else Rk c ((j - 7) / 8) ((j - 7) % 8)
def Br (ns:List Tx) (l:List Int) (k:Nat):Xj:=if k=8 then .int .i64 ns.length else if k % 2=0 then .string (bs (ns.getD (k / 2) [])) else .int .i64 (l.getD (k / 2) 0)
def Au (p:PD) (s:MS) (k:Nat):Xj:=if k<9 then Br p.vs s.vars k else if k<18 then Br p.fs s.flags (k - 9) else if k<27 then Br p.ls s.locks (k - 18) else if k<855 then Bv (p.ts.getD ((k - 27) / 207) []) (p.C[(k - 27) / 207]?) (s.th ((k - 27) / 207)) ((k - 27) % 207) else .int .i64 p.ts.length
section
variable (p:PD) (s:MS)
theorem Px {i:Nat} (h:i<4):Au p s (i*2+1) = .int .i64 (s.vars.getD i 0):=by
 unfold Au Br;rw[if_pos (by omega),if_neg (by omega),if_neg (by omega),show (i*2+1) / 2=i by omega]
theorem PC {i:Nat} (h:i<4):Au p s (9+(i*2+1)) = .int .i64 (s.flags.getD i 0):=by
 unfold Au Br;rw[if_neg (by omega),if_pos (by omega),if_neg (by omega),if_neg (by omega),show (9+(i*2+1) - 9) / 2=i by omega]
theorem LT {i:Nat} (h:i<4):Au p s (18+(i*2+1)) = .int .i64 (s.locks.getD i 0):=by
 unfold Au Br;rw[if_neg (by omega),if_neg (by omega),if_pos (by omega),if_neg (by omega),if_neg (by omega),show (18+(i*2+1) - 18) / 2=i by omega]
theorem Ei {t j:Nat} (h:t<4) (a:j<207):Au p s (27+t*207+j)=Bv (p.ts.getD t []) (p.C[t]?) (s.th t) j:=by
 unfold Au;rw[if_neg (by omega),if_neg (by omega),if_neg (by omega),if_pos (by omega),show (27+t*207+j - 27) / 207=t by omega,show (27+t*207+j - 27) % 207=j by omega]
theorem PE:Au p s 855 = .int .i64 p.ts.length:=rfl
variable {p s}
theorem VY {i:Nat} (h:i<4) (b:i<s.vars.length) (v:Int) {k:Nat}:(if k=i*2+1 then YB .i64 v else Au p s k)=Au p {s with vars:=s.vars.set i v} k:=by
 by_cases e:k=i*2+1
 ·subst e;rw[if_pos rfl,Px _ _ h];show _=YB .i64 ((s.vars.set i v).getD i 0);rw[Xb,YC,if_pos rfl,if_pos b];rfl
 ·rw[if_neg e];unfold Au
  by_cases a:k<9
  ·rw[if_pos a,if_pos a];unfold Br
   split
   ·rfl
   ·split
    ·rfl
    ·show _=YB .i64 ((s.vars.set i v).getD (k / 2) 0);rw[Xb,Xb,YC,if_neg (by omega)]
  ·rw[if_neg a,if_neg a];rfl
theorem Wc {i:Nat} (h:i<4) (c:i<s.flags.length) (v:Int) {k:Nat}:(if k=9+(i*2+1) then YB .i64 v else Au p s k)=Au p {s with flags:=s.flags.set i v} k:=by
 by_cases e:k=9+(i*2+1)
 ·subst e;rw[if_pos rfl,PC _ _ h];show _=YB .i64 ((s.flags.set i v).getD i 0);rw[Xb,YC,if_pos rfl,if_pos c];rfl
 ·rw[if_neg e];unfold Au
  by_cases a:k<9
  ·rw[if_pos a,if_pos a]
  ·rw[if_neg a,if_neg a]
   by_cases b:k<18
   ·rw[if_pos b,if_pos b];unfold Br
    split
    ·rfl
    ·split
     ·rfl
     ·show _=YB .i64 ((s.flags.set i v).getD ((k - 9) / 2) 0);rw[Xb,Xb,YC,if_neg (by omega)]
   ·rw[if_neg b,if_neg b];rfl
theorem Wb {i:Nat} (h:i<4) (d:i<s.locks.length) (v:Int) {k:Nat}:(if k=18+(i*2+1) then YB .i64 v else Au p s k)=Au p {s with locks:=s.locks.set i v} k:=by
 by_cases e:k=18+(i*2+1)
 ·subst e;rw[if_pos rfl,LT _ _ h];show _=YB .i64 ((s.locks.set i v).getD i 0);rw[Xb,YC,if_pos rfl,if_pos d];rfl
 ·rw[if_neg e];unfold Au
  by_cases b:k<9
  ·rw[if_pos b,if_pos b]
  ·rw[if_neg b,if_neg b]
   by_cases c:k<18
   ·rw[if_pos c,if_pos c]
   ·rw[if_neg c,if_neg c]
    by_cases a:k<27
    ·rw[if_pos a,if_pos a];unfold Br
     split
     ·rfl
     ·split
      ·rfl
      ·show _=YB .i64 ((s.locks.set i v).getD ((k - 18) / 2) 0);rw[Xb,Xb,YC,if_neg (by omega)]
    ·rw[if_neg a,if_neg a];rfl
theorem LS {t f:Nat} (h:t<4) (m:t<s.thr.length) (n:f<207) {th':TS} {v:Xj} (l:∀j,j<207->Bv (p.ts.getD t []) (p.C[t]?) th' j=if j=f then v else Bv (p.ts.getD t []) (p.C[t]?) (s.th t) j) {k:Nat}:(if k=27+t*207+f then v else Au p s k)=Au p (s.Af t th') k:=by
 unfold Au
 by_cases c:k<9
 ·rw[if_neg (by omega),if_pos c,if_pos c];rfl
 ·rw[if_neg c,if_neg c]
  by_cases d:k<18
  ·rw[if_neg (by omega),if_pos d,if_pos d];rfl
  ·rw[if_neg d,if_neg d]
   by_cases a:k<27
   ·rw[if_neg (by omega),if_pos a,if_pos a];rfl
   ·rw[if_neg a,if_neg a]
    by_cases b:k<855
    ·rw[if_pos b,if_pos b,Fr s t _ th' m];have i:(k - 27) % 207<207:=Nat.mod_lt _ (by omega)
     by_cases e:(k - 27) / 207=t
     ·rw[if_pos e,e,l _ i]
      by_cases g:(k - 27) % 207=f
      ·rw[if_pos (by omega),if_pos g]
      ·rw[if_neg (by omega),if_neg g]
     ·rw[if_neg e,if_neg];intro g;exact e (by omega)
    ·rw[if_neg (by omega),if_neg b,if_neg b]
theorem JX {t:Nat} (h:t<4) (a:t<s.thr.length) (v:Int) {k:Nat}:(if k=27+t*207+1 then YB .i64 v else Au p s k)=Au p (s.Af t {s.th t with ph:=v}) k:=by
 refine LS h a (by omega) λj _=>?_;unfold Bv
 by_cases e:j=1
 ·subst e;rfl
 ·rw[if_neg e,if_neg e,if_neg e]
theorem Pz {t:Nat} (h:t<4) (a:t<s.thr.length) (v:Nat) {k:Nat}:(if k=27+t*207+2 then YB .i64 v else Au p s k)=Au p (s.Af t {s.th t with pc:=v}) k:=by
 refine LS h a (by omega) λj _=>?_;unfold Bv
 by_cases e:j=2
 ·subst e;rfl
 ·rw[if_neg e,if_neg e,if_neg e]
theorem Py {t n:Nat} (h:t<4) (a:t<s.thr.length) (c:n<4) (b:(s.th t).regs.length=4) (v:Int) {k:Nat}:(if k=27+t*207+(3+n) then YB .i64 v else Au p s k)=Au p (s.Af t {s.th t with regs:=(s.th t).regs.set n v}) k:=by
 refine LS h a (by omega) λj _=>?_;unfold Bv
 by_cases e:j=3+n
 ·subst e;rw[if_neg (by omega),if_neg (by omega),if_neg (by omega),if_pos (by omega),if_pos rfl];show YB .i64 (((s.th t).regs.set n v).getD (3+n - 3) 0)=_;rw[Xb,YC,if_pos (by omega),if_pos (by omega)];rfl
 ·rw[if_neg e]
  split
  ·rfl
  ·split
   ·rfl
   ·split
    ·rfl
    ·split
     ·show YB .i64 (((s.th t).regs.set n v).getD (j - 3) 0)=_;rw[Xb,YC,if_neg (by omega),Xb]
     ·rfl
theorem Wd {t j:Nat} (h:t<4) (b:t<p.C.length) (d:(s.th t).pc<=(p.C.getD t []).length) (f:(p.C.getD t []).length<=24) (c:j<8):Au p s (27+t*207+(7+((s.th t).pc*8+j)))=Fe (Ci p.C t (s.th t)) j:=by
 rw[Ei p s h (by omega)];unfold Bv;rw[if_neg (by omega),if_neg (by omega),if_neg (by omega),if_neg (by omega),show (7+((s.th t).pc*8+j) - 7) / 8=(s.th t).pc by omega,show (7+((s.th t).pc*8+j) - 7) % 8=j by omega];have a:p.C[t]?=some (p.C.getD t []):=by rw[Xb,Xc b];rfl
 rw[a];show (if (s.th t).pc<(p.C.getD t []).length then _ else if (s.th t).pc=(p.C.getD t []).length then _ else _)=_;unfold Ci
 by_cases e:(s.th t).pc<(p.C.getD t []).length
 ·rw[if_pos e]
 ·rw[if_neg e,if_pos (by omega)];have:(p.C.getD t []).getD (s.th t).pc Cl=Cl:=by rw[Xb,List.getElem?_eq_none (by omega)];rfl
  rw[this]
end
end Go.Proofs.YtdcacoifehkioaaGreatDoor
