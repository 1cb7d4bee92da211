import Derived.Test.YtdcacoifehkioaaGreatDoorExA2
import Derived.Maps.AppendAt
import Derived.Laws.AppendOwnNone
import Derived.OrdersIn
import Derived.TacticsIn
import Derived.Deep.RegionHeld
import Derived.Test.YtdcacoifehkioaaGreatDoorExA0
import Derived.Shelf.Lay
import Derived.Laws.Rows
import Derived.Shelf.Strconv.Atoi
import Derived.Lib.SmallJoins
open Go renaming Value->Xk,World->Xh,Calls->XY,callsIn_wide->X1,undef->X7,info_parts->YI,heap_setCell_same->Xj,Addr->YV,bodyPost_ret->XI
open Go.World renaming alloc_heap_new->Xi,cell?->Xg,frozen?->XM,ownsRow_nil->XE,block_lt_of_cell?->YD,cell?_of_block->Xw,frozen?_of_block->YS,putObj_heap_other->Yg,size_setCell->XA,size_alloc->Yq
open Go.RowKit.Below renaming heap_alloc->Xv,refl->Xq,heap_setCell->Xn
open Nat renaming le_refl->Xd
open List renaming length_take->Yc,length_append->Xb,map_append->XH,length_map->Xp
open Array renaming getElem?_eq_some_iff->Xa
open Go.Value renaming oneCell'->Zt,int->Yw
open Go.Region renaming ready->ZJ,wanted->ZU
open Go.Builtin renaming append_->XL
open Bool renaming and_eq_true->Yl
set_option maxHeartbeats 1000000
set_option maxRecDepth 100000
set_option linter.unusedVariables false
set_option linter.unusedSimpArgs false
namespace Go.Proofs.YtdcacoifehkioaaGreatDoor
open Go.RowKit Go.Shelf Go.Proofs.Cod Go.Lib
attribute [local go_sem] Oper.semAt_some
def CP (t:Tx):List Tx:=(Ar 32 (BQ 35 t)).filter (λp => !p.isEmpty)
def Jb (p:Tx):Xk:=.string (bs p)
theorem VB (t:Tx) (c:UInt8) (w:Xh):XY Tryz.prog 137 #[.string (bs t),.string (bs [c]),.int .i64 0] w λe w'=>
 e = .returned (.func (.func 176) #[] #[.pointer (some ⟨w.heap.size+1,0,none⟩),.pointer (some ⟨w.heap.size,0,none⟩),.pointer (some ⟨w.heap.size+2,0,none⟩)])/\w'=((w.alloc (.cells #[.string (bs t)] 9)).alloc (.cells #[.string (bs [c])] 9)).alloc (.cells #[.int .i64 0] 3):=by
 go_enter Tryz.func137,Tryz.ntmps137
 go_wp2
 go_ret
 exact⟨rfl,rfl⟩
theorem PF (t:Tx) (c:UInt8) (w:Xh):XY Tryz.prog 105 #[.string (bs t),.string (bs [c])] w λe w'=>
 e = .returned (.func (.func 176) #[] #[.pointer (some ⟨w.heap.size+1,0,none⟩),.pointer (some ⟨w.heap.size,0,none⟩),.pointer (some ⟨w.heap.size+2,0,none⟩)])/\w'=((w.alloc (.cells #[.string (bs t)] 9)).alloc (.cells #[.string (bs [c])] 9)).alloc (.cells #[.int .i64 0] 3):=by
 go_enter Tryz.func105,Tryz.ntmps105
 go_wp2_with fail
 refine(VB t c _).mono ?_;rintro e w1 ⟨rfl,rfl⟩
 go_wp2_with fail
 go_ret
 exact⟨rfl,rfl⟩
theorem adg (w:Xh) (A B C D:Obj):((((w.alloc A).alloc B).alloc C).alloc D).heap[w.heap.size]?=some A/\((((w.alloc A).alloc B).alloc C).alloc D).heap[w.heap.size+1]?=some B/\((((w.alloc A).alloc B).alloc C).alloc D).heap[w.heap.size+1+1]?=some C/\((((w.alloc A).alloc B).alloc C).alloc D).heap[w.heap.size+1+2]?=some D:=by
 obtain⟨w1,f⟩:∃x,w.alloc A=x:=⟨_,rfl⟩;obtain⟨a,d⟩:∃x,w1.alloc B=x:=⟨_,rfl⟩;obtain⟨w3,c⟩:∃x,a.alloc C=x:=⟨_,rfl⟩;have z1:w1.heap.size=w.heap.size+1:=by rw[<-f];simp
 have z2:a.heap.size=w.heap.size+1+1:=by rw[<-d];simp;omega
 have z3:w3.heap.size=w.heap.size+1+2:=by rw[<-c];simp;omega
 rw[f,d,c];have l:w1.heap[w.heap.size]?=some A:=by rw[<-f];exact Xi w A
 have i:a.heap[w.heap.size+1]?=some B:=by rw[<-d,<-z1];exact Xi w1 B
 have j:w3.heap[w.heap.size+1+1]?=some C:=by rw[<-c,<-z2];exact Xi a C
 have h:∀k,k<w1.heap.size->a.heap[k]?=w1.heap[k]?:=λk b=>by rw[<-d];exact Xv w1 B k b
 have g:∀k,k<a.heap.size->w3.heap[k]?=a.heap[k]?:=λk b=>by rw[<-c];exact Xv a C k b
 have e:∀k,k<w3.heap.size->(w3.alloc D).heap[k]?=w3.heap[k]?:=λk b=>Xv w3 D k b;refine⟨?_,?_,?_,?_⟩
 ·rw[e _ (by omega),g _ (by omega),h _ (by omega)];exact l
 ·rw[e _ (by omega),g _ (by omega)];exact i
 ·rw[e _ (by omega)];exact j
 ·rw[<-z3];exact Xi w3 D
theorem LR (c:UInt8) (t:Tx):(BQ c t).length<=t.length:=by
 unfold BQ
 split
 ·exact Xd _
 ·rw[Yc];omega
theorem JK (c:UInt8) (t:Tx):(Ar c t).length<=t.length+1:=by
 induction t with
 |nil=>simp[Ar]
 |cons b l a=>
  unfold Ar
  split
  ·simp;omega
  ·cases h:Ar c l with
   |nil=>simp
   |cons p ps=>rw[h] at a;simp at a |-;omega
theorem Oe {w w':Xh} {base e b n:Nat} {v:Xk} {c:List Xk} (h:w.ownsRow base e b v n c) (f:∀g,base<=g->g<w.heap.size->w'.heap[g]?=w.heap[g]?):w'.ownsRow base e b v n c:=by
 refine⟨h.1,?_⟩
 rcases h.2 with i|⟨g,cap,j,rfl,a,d,rest⟩
 ·exact .inl i
 ·exact .inr ⟨g,cap,j,rfl,a,(f g a (Xa.1 d).1).trans d,rest⟩
theorem aew {w:Xh} {base a e c n:Nat} {v:Xk} {b:List Xk} (h:w.ownsRow base e c v n b) (j:a<=base):w.ownsRow a e c v n b:=by
 refine⟨h.1,?_⟩
 rcases h.2 with d|⟨g,cap,f,i,k,rest⟩
 ·exact .inl d
 ·exact .inr ⟨g,cap,f,i,by omega,rest⟩
theorem Tryz.infoS:(Tryz.prog.info? 9).map (λi=>(i.zero,i.size,i.bytes))=some (some (.string ByteArray.empty),1,16):=by kernel_rfl
theorem UY {l:List Tx} {i:Nat} {p:Tx} (h:l[i]?=some p):(l.take (i+1)).filter (λp => !p.isEmpty)=(l.take i).filter (λp => !p.isEmpty)++if p.isEmpty then [] else [p]:=by
 obtain⟨b,rfl⟩:=List.getElem?_eq_some_iff.1 h;rw[List.take_succ_eq_append_getElem b,List.filter_append]
 congr 1
 cases a:l[i].isEmpty<;>simp[a]
theorem Vz (t:Tx) (w:Xh) (ax:t.length<1048576):XY Tryz.prog 106 #[.string (bs t)] w λe w'=>∃v,e = .returned v/\w'.ownsRow w.heap.size 9 1 v (CP t).length ((CP t).map Jb)/\Below w.heap.size w w':=by
 refine(X1 (n:=6)).1 ?_;refine TC Tryz.func106 rfl trivial ?_ rfl;simp only[Tryz.ntmps106,List.size_toArray,List.length_cons,List.length_nil,Nat.reduceAdd,Nat.reduceSub,Array.replicate_succ,Array.replicate_zero,List.push_toArray,List.append_toArray,List.nil_append,List.cons_append];refine GX (GY ?_)
 gi_wp2
 refine GX (GY ?_)
 gi_wp2_with (refine⟨trivial,?_⟩;gi_at_call 138;refine(X1.2 (aec t 35 _ (by omega))).mono ?_;rintro e w1 ⟨⟨y,f,rfl⟩,s⟩)
 refine GX (GY ?_)
 gi_wp2
 refine GX (GX (GY ?_))
 gi_wp2_with (refine⟨trivial,?_⟩;gi_at_call 105;refine(X1.2 (PF (BQ 35 t) 32 _)).mono ?_;rintro e w2 ⟨rfl,rfl⟩)
 refine OF ?_;obtain⟨d,x⟩:∃d,(((w1.alloc (.cells #[.slice none 0 0] 22)).alloc (.cells #[.string (bs (BQ 35 t))] 9)).alloc (.cells #[.string (bs [32])] 9)).alloc (.cells #[.int .i64 0] 3)=d:=⟨_,rfl⟩;have aj:d.heap.size=w1.heap.size+4:=by rw[<-x];simp
 rw[x];have ah:Below w1.heap.size w1 d:=by rw[<-x];exact((((Xq _ _).alloc (Xd _) _).alloc (by simp) _).alloc (by simp;omega) _).alloc (by simp;omega) _
 have ar:Below w.heap.size w d:=s.trans (ah.mono s.size);have o:=adg w1 (.cells #[.slice none 0 0] 22) (.cells #[.string (bs (BQ 35 t))] 9) (.cells #[.string (bs [32])] 9) (.cells #[.int .i64 0] 3);rw[x] at o;obtain⟨I,M,O,X⟩:=o;clear x;refine OE (fnd:=Tryz.f106) Tryz.func106 (w1.heap.size+1+1) (w1.heap.size+1) (w1.heap.size+1+2) 32 (BQ 35 t) rfl (by have:=LR 35 t;omega) (by simp[Xg,O]) (by simp[Xg,M]) (by simp[Xg,X]) (by simp[XM,M]) (by omega) (by omega)
  (λi W=>∃v,W.cell? ⟨w1.heap.size,0,none⟩=some v/\W.frozen? ⟨w1.heap.size,0,none⟩=false/\W.ownsRow (d.heap.size+2) 9 1 v (((Ar 32 (BQ 35 t)).take i).filter (λp => !p.isEmpty)).length ((((Ar 32 (BQ 35 t)).take i).filter (λp => !p.isEmpty)).map Jb)/\Below w.heap.size w W)
  (λ_ _=>False) ?free ?start (λp=>{tmps := #[.string (bs t),X7,.slice none 0 0,.string (bs (BQ 35 t)),.string (bs y),.bool f,.pointer (some ⟨w1.heap.size,0,none⟩),.string (bs p),.tuple #[.string (bs (BQ 35 t)),.string (bs y),.bool f],.string (bs t),.tuple #[.string (bs (BQ 35 t)),.string (bs y),.bool f],.string (bs (BQ 35 t)),.string (bs y),.bool f,.string (bs (BQ 35 t)),.func (.func 176) #[] #[.pointer (some ⟨w1.heap.size+1+1,0,none⟩),.pointer (some ⟨w1.heap.size+1,0,none⟩),.pointer (some ⟨w1.heap.size+1+2,0,none⟩)],.string (bs p),X7,X7,X7,X7,X7,X7,X7],defers:=[]}) ?assign ?body ?done ?panic
 case assign=>
  intro l p W K hK
  gi_wp2
  exact hK
 case start=>exact⟨_,by simp[Xg,I],by simp[XM,I],XE _ _ _ _,ar⟩
 case panic=>intro ay W h _;exact h.elim
 case free=>
  rintro i W W' ⟨v,q,r,j,c⟩ A P ho ht B;have Y:w1.heap.size<W.heap.size:=YD W ⟨w1.heap.size,0,none⟩ q;have u:W'.heap[w1.heap.size]?=W.heap[w1.heap.size]?:=A _ Y (by simp;omega);refine⟨v,(Xw (a:=⟨w1.heap.size,0,none⟩) u).trans q,(YS (a:=⟨w1.heap.size,0,none⟩) u).trans r,Oe j (λg m aa=>A g aa (by simp;omega)),⟨ho.trans c.os,ht.trans c.tape,B.trans c.output,Nat.le_trans c.size P,λk o=>?_⟩⟩
  exact(A k (by have:=c.size;omega) (by have:=s.size;simp;omega)).trans (c.block k o)
 case body=>
  rintro l i p W ⟨v,q,r,j,c⟩ B av;have C:=UY B
  by_cases z:p=[]
  ·subst z;have aG:(bs []).toList.isEmpty=true:=by rw[AL];rfl
   gi_wp2
   refine⟨λb _=>rfl,v,q,r,?_,c⟩;rw[C]
   simpa using j
  ·have az:(bs p).toList.isEmpty=false:=by rw[AL];simpa using z
   obtain⟨i0,S,T,aq,af⟩:=YI Tryz.infoS;have aF:(((Ar 32 (BQ 35 t)).take i).filter (λp => !p.isEmpty)).length<=t.length+1:=by
    have a1:=JK 32 (BQ 35 t);have a2:=LR 35 t;have V:=List.length_filter_le (λp:Tx => !p.isEmpty) ((Ar 32 (BQ 35 t)).take i);rw[Yc] at V
    omega
   have Z:((Ar 32 (BQ 35 t)).take (i+1)).filter (λp => !p.isEmpty)=((Ar 32 (BQ 35 t)).take i).filter (λp => !p.isEmpty)++[p]:=by
    rw[C];congr 1
    cases Q:p.isEmpty with
    |true=>exact absurd (List.isEmpty_iff.1 Q) z
    |false=>rfl
   clear C;generalize aB:((Ar 32 (BQ 35 t)).take i).filter (λp => !p.isEmpty)=Fi at *;have au:w1.heap.size<W.heap.size:=YD W ⟨w1.heap.size,0,none⟩ q;have R:∀g,v.ownBlock=some g->d.heap.size+2<=g/\g<W.heap.size:=λg e=>j.lt g e;have HB:Hid (∀w3,(W.alloc (.cells #[.string (bs p)] 9)).grownBy w3 v.ownBlock->w3.cell? ⟨w1.heap.size,0,none⟩=some v/\w3.frozen? ⟨w1.heap.size,0,none⟩=false/\W.heap.size<=w3.heap.size/\(∀b,b<d.heap.size+2->w3.heap[b]?=W.heap[b]?)/\w3.os=W.os/\w3.tape=W.tape/\w3.output=W.output):=λw3 m=>by
    have D:∀b,b<d.heap.size+2->w3.heap[b]?=W.heap[b]?:=λb E=>(m.block b (by simp;omega) (λe=>by have:=(R b e.symm).1;omega)).trans (Xv W _ b (by omega));have u:=D w1.heap.size (by omega)
    exact⟨(Xw (a:=⟨w1.heap.size,0,none⟩) u).trans q,(YS (a:=⟨w1.heap.size,0,none⟩) u).trans r,by have:=m.size;simp at this;omega,D,m.os,m.tape,m.output⟩
   gi_wp2_with (gi_at_builtin;refine wpListIn_append_own _ rfl _ _ 22 rfl (d.heap.size+2) 9 i0 (.string ByteArray.empty) 1 16 Tryz.underlying22 S T aq af rfl (by decide) _ _ _ rfl (j.alloc _) ⟨_,0,none⟩ 1 1 [Jb p] rfl rfl (cell_one_new _ _ _) (by simp[Zt,Jb]) (by unfold maxLen;omega) (by omega) (by simp;omega) ?_;intro v' w3 J ag _;obtain⟨c3,f3,z3,G,o3,N,p3⟩:=HB.out w3 ag;obtain⟨g',aA,rfl⟩:=ownsRow_succ J)
   have U:=s.size;refine⟨λb E=>?_,_,World.cell?_setCell_same _ _ _ c3,by rw[World.frozen?_setCell];exact f3,?_,⟨o3.trans c.os,N.trans c.tape,p3.trans c.output,by have:=c.size;simp;omega,λk o=>(Xn w3 ⟨w1.heap.size,0,none⟩ _ k (by show k≠w1.heap.size;omega)).trans ((G k (by omega)).trans (c.block k o))⟩⟩
   ·have F:b≠w1.heap.size/\b<d.heap.size+2:=by
     simp only[List.mem_cons,List.not_mem_nil,or_false] at E
     omega
    exact(Xn w3 ⟨w1.heap.size,0,none⟩ _ b F.1).trans (G b F.2)
   ·rw[Z,Xb,XH];exact Oe J (λg m _=>Xn w3 ⟨w1.heap.size,0,none⟩ _ g (by show g≠w1.heap.size;omega))
 case done=>
  rintro W ⟨v,q,r,j,c⟩ H;rw[List.take_length] at j;rw[aj] at H j;refine GY ?_
  gi_wp2
  refine⟨by simp,.inl ⟨_,_,rfl,run_takeDeferred H,?_⟩⟩;have U:=s.size;refine⟨_,results_tmp rfl _ _ _,v,rfl,aew (Oe j λg m _=>Yg (by omega)) (by omega),⟨c.os,c.tape,c.output,by simpa using c.size,λk o=>(Yg (by omega)).trans (c.block k o)⟩⟩
end Go.Proofs.YtdcacoifehkioaaGreatDoor
namespace Go.Proofs.YtdcacoifehkioaaGreatDoor
open Go
section
variable {P:Program} {md:Region.Mode} {ops:Array Oper} {Q:Exit->Act->Xh->Prop} {S:Xh->Prop} {oi:Oper} {v:Xk} {fuel:Nat} {listed:Array Bool} {a a':Act} {w:Xh}
theorem sq {α:Type}:(∀(l:List α) (i:Nat) (h:i<l.toArray.size),l.toArray[i]'h=l[i]'(by simpa using h))/\(∀(x:α) (l:List α) (h:0<(x::l).length),(x::l)[0]'h=x)/\(∀(x:α) (l:List α) (i:Nat) (h:i+1<(x::l).length),(x::l)[i+1]'h=l[i]'(by simpa using h))/\(∀(l:List α) (i:Nat) (x:α),l.toArray.setIfInBounds i x=(l.set i x).toArray)/\(∀(x y:α) (l:List α) (i:Nat),(x::l).set (i+1) y=x::l.set i y)/\∀(x y:α) (l:List α),(x::l).set 0 y=y::l:=
 ⟨λ_ _ _=>rfl,λ_ _ _=>rfl,λ_ _ _ _=>rfl,λl i x=>List.setIfInBounds_toArray ..,λ_ _ _ _=>rfl,λ_ _ _=>rfl⟩
theorem tk (i:Nat) (g:S w) (h:wpAnyH P md ops Q S fuel (listed.setIfInBounds i true) a' w)
 (l:ops[i]?=some oi:=by rfl) (e:Region.noSelect ops=true:=by kernel_rfl) (d:Region.free md ops listed i=true:=by kernel_rfl) (o:(ZJ md ops listed).contains i=true:=by kernel_rfl)
 (m:∀c a w,Q (.panic c) (a.put oi.dst v) w->Q (.panic c) a w:=by exact λ_ _ _ h=>h)
 (f:ZU oi (yielded ops a.tmps)=true:=by rfl) (j:∀b,S b->(execOp a.eval oi).run P b = .ok (.value v) b:=by(intro b k;(try dsimp only at k);go_simp;try with_reducible rfl))
 (n:a.put oi.dst v=a':=by(simp only[Act.put,sq];first|done|rfl)):wpAnyH P md ops Q S (fuel+1) listed a w:=by
 subst n;exact wpAnyH_take (i:=i) (v:=v) l e d o m (Or.inl ⟨f,j⟩) g h
theorem tn (i:Nat) (f:S w) (h:wpAnyH P md ops Q S fuel (listed.setIfInBounds i true) a' w)
 (g:ops[i]?=some oi:=by rfl) (d:Region.noSelect ops=true:=by kernel_rfl) (b:Region.free md ops listed i=true:=by kernel_rfl) (l:(ZJ md ops listed).contains i=true:=by kernel_rfl)
 (j:∀c a w,Q (.panic c) (a.put oi.dst X7) w->Q (.panic c) a w:=by exact λ_ _ _ h=>h)
 (e:ZU oi (yielded ops a.tmps)=false:=by rfl)
 (k:a.put oi.dst X7=a':=by(simp only[Act.put,sq];first|done|rfl)):wpAnyH P md ops Q S (fuel+1) listed a w:=by
 subst k;exact wpAnyH_take (i:=i) (v:=X7) g d b l j (Or.inr ⟨e,rfl⟩) f h
theorem rd (i:Nat) (h:∀b:Act->Xh->Prop,Shut (∀a w,S w->(S w->wpAnyH P md ops Q S fuel (listed.setIfInBounds i true) a w)->b a w)->if ZU oi (yielded ops a.tmps)=true then Oper.wp P oi a w b Q else b (a.put oi.dst X7) w)
 (c:ops[i]?=some oi:=by rfl) (d:ZJ md ops listed=[i]:=by kernel_rfl):wpAnyH P md ops Q S (fuel+1) listed a w:=
 wpAnyH_ready (rs:=[i]) d (by simp) (AllReadyH.cons c h AllReadyH.nil)
end
end Go.Proofs.YtdcacoifehkioaaGreatDoor
namespace Go.Proofs.YtdcacoifehkioaaGreatDoor
open Go.RowKit Go.Proofs.Cod
def AT {α:Type} (f:Int->α) (k:Int) (v:α):Int->α:=λx=>if x=k then v else f x
theorem Cj {α:Type} (f:Int->α) (k:Int) (v:α):AT f k v k=v:=by simp[AT]
theorem Cy {α:Type} {f:Int->α} {k x:Int} (v:α) (h:x≠k):AT f k v x=f x:=by simp[AT,h]
def RG.decl (G:RG) (kd:Int) (t:Tx) (v:Xk):RG:={G with N:=Bc G.N t (kd,(G.nms kd).length),nms:=AT G.nms kd (G.nms kd++[t]),V:=AT G.V kd v}
section
variable {w w':Xh} {tag tag':Nat->RT} {base rb nb lb:Nat} {G:RG}
theorem KS {e:TypeId} {k:Int} {v:Xk} {l:List Tx} (h:Dr w tag base e k v (l.map BS)):∃a cap,v = .slice a l.length cap:=by
 have h:=h.row;rw[Xp] at h
 rcases h.2 with⟨b,c⟩|⟨g,cap,d,b,_⟩
 ·exact⟨none,0,by rw[b,c]⟩
 ·exact⟨_,_,b⟩
theorem VP {G:RG} {kd:Int} (a:AR kd) (v:Xk) (nb lb:Nat) : #[Yw .i64 G.line,G.V 118,G.V 102,G.V 109,.slice none 0 0,G.V 116,G.bV,.map (some nb),.map (some lb),G.lV].setIfInBounds (Cs kd) v = #[Yw .i64 G.line,AT G.V kd v 118,AT G.V kd v 102,AT G.V kd v 109,.slice none 0 0,AT G.V kd v 116,G.bV,.map (some nb),.map (some lb),G.lV]:=by
 rcases a with rfl|rfl|rfl|rfl<;>simp[Cs,AT]
theorem Al.decl (h:Al w tag base rb nb lb G) {kd:Int} (l:AR kd) (t:Tx) (J:(G.nms kd).length<1048576) :
 ∃w',(Instr.mapUpdate 141 (.map (some nb)) (.string (bs t)) (.pointer (some ⟨w.heap.size,0,none⟩))).run Tryz.prog ((w.alloc (.cells #[.int .u8 kd,.int .i64 (G.nms kd).length] 289)).drew) = .ok () w'/\
  w'.cell? ⟨rb,Cs kd,none⟩=some (G.V kd)/\∃g cap w3,(XL #[22,22] 22 #[G.V kd,.slice (some ⟨w'.heap.size,0,none⟩) 1 1]).run Tryz.prog (w'.alloc (.cells #[.string (bs t)] 9)) = .ok (.slice (some ⟨g,0,none⟩) ((G.nms kd).length+1) cap) w3/\
  w3.cell? ⟨rb,Cs kd,none⟩=some (G.V kd)/\w3.frozen? ⟨rb,Cs kd,none⟩=false/\
  ∃tag',Al (w3.setCell ⟨rb,Cs kd,none⟩ (.slice (some ⟨g,0,none⟩) ((G.nms kd).length+1) cap)) tag' base rb nb lb (G.decl kd t (.slice (some ⟨g,0,none⟩) ((G.nms kd).length+1) cap))/\Ah w tag (w3.setCell ⟨rb,Cs kd,none⟩ (.slice (some ⟨g,0,none⟩) ((G.nms kd).length+1) cap)) tag':=by
 have C:kd≠0/\kd≠1:=by rcases l with rfl|rfl|rfl|rfl<;>decide
 have O:=h.lt h.tnm (by simp);have D:=h.lt h.trd (by simp);have ad:=h.g3;obtain⟨w',R,hM,hz,Z,S,Y,u⟩:=h.names.put t kd (G.nms kd).length (λb d=>h.lt d (by simp)) (by rw[h.tnm];simp) O;have B:rb≠nb:=λe=>by have:=h.trd;rw[e,h.tnm] at this;cases this
 have I:w'.heap[rb]?=w.heap[rb]?:=u rb D B;have F:∀b,CM tag w.heap.size .en b≠.o->b<w'.heap.size:=λb d=>by
  unfold CM at d
  split at d
  ·omega
  ·have:=(h.tlt b d).2;omega
 have X:Dr w' (CM tag w.heap.size .en) base 9 kd (G.V kd) ((G.nms kd).map BS):=(h.rows kd l).kept λb d=>by
  have v:=h.lt d (by simp)
  exact⟨u b v (λe=>by rw[e,h.tnm] at d;cases d),(Da _ (by omega)).trans d⟩
 obtain⟨i0,n,M,ac,W⟩:=YI Tryz.infoTx;obtain⟨g,cap,w3,tag3,E,m,U,H,p3,z3,y,r,P⟩:=X.push Tryz.underlying22 n M ac W rfl (by omega) (BS t) (by simp[Zt,BS]) 22 (by simpa using J) (by omega) F;rw[Xp] at E m;have p:∀b,b<w.heap.size->b≠nb->tag b≠.row kd->w3.heap[b]?=w.heap[b]?:=λb d j f=>(y b (by omega) (by rw[Da _ (by omega)];exact f)).trans (u b d j);have s:w3.heap[rb]?=w.heap[rb]?:=p rb D B (by rw[h.trd];simp);have K:w3.cell? ⟨rb,Cs kd,none⟩=some (G.V kd):=(Xw (w:=w) (a:=⟨rb,Cs kd,none⟩) s).trans (h.Ei l);have q:Ah w tag (w3.setCell ⟨rb,Cs kd,none⟩ (.slice (some ⟨g,0,none⟩) ((G.nms kd).length+1) cap)) tag3:=by
  refine⟨U.trans Z,H.trans S,p3.trans Y,by simp;omega,λb d=>(r b (by omega)).trans (Da _ (by omega)),λb d A=>?_⟩;rw[Xn w3 ⟨rb,Cs kd,none⟩ _ b (Co A h.trd (by simp))];exact p b d (λe=>by have:=h.tnm;rw[<-e,A] at this;cases this) (by rw[A];simp)
 refine⟨w',R,(Xw (w:=w) (a:=⟨rb,Cs kd,none⟩) I).trans (h.Ei l),g,cap,w3,E,K,(YS (w:=w) (a:=⟨rb,Cs kd,none⟩) s).trans (h.DZ _),tag3,?_,q⟩;refine h.step (λx=>x = .nm\/x = .row kd\/x = .rd) q (λb d j f=>?_) (λb d T=>?_) ?_ (λk ag=>?_) (.inl ⟨rfl,rfl,by simp;exact λe=>C.1 e.symm⟩) (.inl ⟨rfl,rfl,by simp;exact λe=>C.2 e.symm⟩) (.inr ?_) (by simp) (by simp) (by simp) (λa c z=>.inl ⟨z,by simp,by simp,by simp⟩) (λa i n=>.inl ⟨n,?_⟩) (λc z=>.inl z)
 ·rw[Xn w3 ⟨rb,Cs kd,none⟩ _ b (λe=>f (by rw[e];exact .inr (.inr h.trd)))];exact p b d (λe=>f (by rw[e];exact .inl h.tnm)) (λe=>f (.inr (.inl e)))
 ·simp only[XA]
  by_cases e:b=w.heap.size
  ·subst e;omega
  ·exact P b (by omega) T
 ·rw[Xj w3 rb (Cs kd) _ _ _ (s.trans h.cell),VP l]
  rfl
 ·by_cases e:k=kd
  ·subst e;right;have N:(G.decl k t (.slice (some ⟨g,0,none⟩) ((G.nms k).length+1) cap)).V k = .slice (some ⟨g,0,none⟩) ((G.nms k).length+1) cap:=Cj _ _ _;have Q:(G.decl k t (.slice (some ⟨g,0,none⟩) ((G.nms k).length+1) cap)).nms k=G.nms k++[t]:=Cj _ _ _;rw[N,Q,XH];refine⟨Bw m.row λx q=>?_,m.tg⟩;refine Xn w3 ⟨rb,Cs k,none⟩ _ x (λe=>?_);have e:x=rb:=e;have j:=m.tg x q;rw[e,r rb (by omega),Da _ (by omega),h.trd] at j
   cases j
  ·exact .inl ⟨Cy _ e,Cy _ e,by simp;exact e⟩
 ·refine hM.kept ?_ λb d=>?_
  ·rw[Xn w3 ⟨rb,Cs kd,none⟩ _ nb (λe=>B e.symm)];exact y nb (by omega) (by rw[Da _ (by omega),h.tnm];simp)
  ·have af:=F b (by rw[d];simp);refine⟨?_,(r b (by omega)).trans d⟩;rw[Xn w3 ⟨rb,Cs kd,none⟩ _ b (λe=>?_)]
   ·exact y b (by omega) (by rw[d];simp)
   ·have e:b=rb:=e;rw[e,Da _ (by omega),h.trd] at d;cases d
 ·have:=h.ins a i n;have v:=h.lt this.2 (by simp);rw[Xn w3 ⟨rb,Cs kd,none⟩ _ a (Co this.2 h.trd (by simp))];exact p a v (λe=>by rw[e,h.tnm] at this;cases this.2) (by rw[this.2];simp)
end
def CX (w:Xh) (tag:Nat->RT) (a:Option YV) (ts:List Tx):Prop:=
 ∀i,i<ts.length->∃b off,a=some ⟨b,off,none⟩/\b<w.heap.size/\w.cell? ⟨b,off+i,none⟩=some (.string (bs (ts.getD i [])))/\tag b = .o
theorem CX.ws {w:Xh} {g:Nat->RT} {a:Option YV} {ts:List Tx} (h:CX w g a ts):Ws w a ts:=λi d=>by
 obtain⟨b,f,j,e,c,_⟩:=h i d;exact⟨b,f,j,e,c⟩
theorem CX.ext {w w':Xh} {g j:Nat->RT} {a:Option YV} {ts:List Tx} (h:CX w g a ts) (d:Ah w g w' j):CX w' j a ts:=λi l=>by
 obtain⟨b,f,m,c,k,e⟩:=h i l
 exact⟨b,f,m,Nat.lt_of_lt_of_le c d.size,(Xw (w:=w) (a:=⟨b,f+i,none⟩) (d.block b c e)).trans k,(d.tags b c).trans e⟩
def BD (kd:Int):(Tx->Option (Int×Nat))->List Tx->List Tx->Option ((Tx->Option (Int×Nat))×List Tx)
 |N,l,[]=>some (N,l)
 |N,l,t::ts=>match N t with
  |some _=>none
  |none=>BD kd (Bc N t (kd,l.length)) (l++[t]) ts
theorem LQ {kd:Int} {N:Tx->Option (Int×Nat)} {l ts:List Tx} {p:(Tx->Option (Int×Nat))×List Tx} (h:BD kd N l ts=some p):p.2=l++ts:=by
 induction ts generalizing N l with
 |nil=>simp only[BD,Option.some.injEq] at h;rw[<-h];simp
 |cons t ts a=>
  unfold BD at h
  split at h
  ·cases h
  ·rw[a h];simp
def KB (kd:Int) (ts:List Tx) (G G':RG):Prop:=kd≠0/\ts≠[]/\ts.all Av=true/\BD kd G.N (G.nms kd) ts=some (G'.N,G'.nms kd)/\(G'.nms kd).length<=4/\(∀k,k≠kd->G'.nms k=G.nms k)/\G'.line=G.line/\G'.bods=G.bods/\G'.bV=G.bV/\G'.B=G.B/\G'.I=G.I/\G'.las=G.las/\G'.lV=G.lV
def KC (kd:Int) (ts:List Tx) (G:RG) (e:Int):Prop:=((kd=0\/ts=[]\/ts.all Av=false)/\e=2)\/((kd≠0/\ts≠[]/\ts.all Av=true)/\((BD kd G.N (G.nms kd) ts=none/\e=3)\/((∃p,BD kd G.N (G.nms kd) ts=some p/\4<p.2.length)/\e=4)))
structure Uj (w:Xh) (tag:Nat->RT) (base rb nb lb:Nat) (kd:Int) (ts:List Tx) (G:RG) (i:Nat) (wr:Xh) (tr:Nat->RT) (Gr:RG):Prop where
 rd:Al wr tr base rb nb lb Gr
 ext:Ah w tag wr tr
 all:BD kd G.N (G.nms kd) ts=BD kd Gr.N (Gr.nms kd) (ts.drop i)
 len:(Gr.nms kd).length=(G.nms kd).length+i
 oth:∀k,k≠kd->Gr.nms k=G.nms k
 line:Gr.line=G.line
 rest:Gr.bods=G.bods/\Gr.bV=G.bV/\Gr.B=G.B/\Gr.I=G.I/\Gr.las=G.las/\Gr.lV=G.lV
theorem Tl {w:Xh} {j:Nat->RT} {base rb B lb:Nat} {G:RG} (h:Al w j base rb B lb G) (kd:Int) (f:kd=0\/AR kd) (a:Option YV) (n cap:Nat) (ts:List Tx) (p:ts.length=n) (E:CX w j a ts) (O:(G.nms kd).length+n<1048576) :
 XY Tryz.prog 141 #[Ab rb,.int .u8 kd,.slice a n cap] w (Out w j base rb B lb G.line (KB kd ts G) (KC kd ts G)):=by
 unfold Ab;have H:=h.GE;have ai:n<4294967281:=by omega
 by_cases r:kd=0
 ·subst r;have A:=Aa (Ah.refl w j)
  go_enter Tryz.func141,Tryz.ntmps141
  go_wp2_with fail
  refine(Gj 2 H).mono ?_;rintro e w3 ⟨rfl,rfl⟩
  exact⟨rfl,.inr ⟨j,2,rfl,A.out,.inl ⟨.inl rfl,rfl⟩⟩⟩
 ·have f:AR kd:=f.resolve_left r;have av:(kd != 0)=true:=by simpa using r
  by_cases aa:n=0
  ·subst aa;have P:ts=[]:=List.eq_nil_of_length_eq_zero p;replace P:=Aa P;have A:=Aa (Ah.refl w j);clear p
   go_enter Tryz.func141,Tryz.ntmps141
   go_wp2_with fail
   refine(Gj 2 H).mono ?_;rintro e w3 ⟨rfl,rfl⟩
   exact⟨rfl,.inr ⟨j,2,rfl,A.out,.inl ⟨.inr (.inl P.out),rfl⟩⟩⟩
  ·have an:(0:Int)<n:=by omega
   have K:Hid (ts≠[]):=by(unfold Hid;intro e;rw[e] at p;simp at p;omega)
   have v:=aeO a n cap ts w p E.ws ai
   cases q:ts.all Av with
   |false=>
    rw[q] at v;have A:=Aa (Ah.refl w j);replace q:=Aa q
    go_enter Tryz.func141,Tryz.ntmps141
    go_wp2_with fail
    refine v.mono ?_;rintro e w2 ⟨rfl,rfl⟩
    go_wp2_with fail
    refine(Gj 2 H).mono ?_;rintro e w3 ⟨rfl,rfl⟩
    exact⟨rfl,.inr ⟨j,2,rfl,A.out,.inl ⟨.inr (.inr q.out),rfl⟩⟩⟩
   |true=>
    rw[q] at v;have c8:=h.abQ;have ab:(Instr.lookup 142 (.map (some lb)) (.int .u8 kd) false).run Tryz.prog w = .ok (.pointer (some ⟨rb,Cs kd,none⟩)) w:=by
     obtain⟨m,hM⟩:=h.lists;have:=hM.look Tryz.u8Key Tryz.underlying142 (z:=.pointer none) (by kernel_rfl) kd;have e:GC rb kd=some (.pointer (some ⟨rb,Cs kd,none⟩)):=by unfold GC;rw[if_pos (show kd=118\/kd=102\/kd=109\/kd=116 from f)]
     rw[e] at this;exact this
    have T:Hid (Uj w j base rb B lb kd ts G 0 w j G):=⟨h,Ah.refl w j,by simp,rfl,λ_ _=>rfl,rfl,rfl,rfl,rfl,rfl,rfl,rfl⟩;replace q:=Aa q;replace E:=Aa E;replace p:=Aa p;replace O:=Aa O;have h1:=Aa (⟨f,r⟩:_/\_);clear f;clear h
    go_enter Tryz.func141,Tryz.ntmps141
    go_wp2_with fail
    refine v.mono ?_;rintro e w2 ⟨rfl,rfl⟩
    go_wp2_with fail
    refine(In rb 2 _).mono ?_;rintro e w3 ⟨rfl,rfl⟩
    go_wp2_with fail
    go_loopw [30] (λJ wr=>∃(i:Nat) (y:Nat->RT) (d:RG),i<=n/\J = .int .i64 i/\Uj w3 j base rb B lb kd ts G i wr y d) (λJ _=>n - (intOf J).toNat)
    case atStart=>exact⟨0,j,G,Nat.zero_le _,rfl,T.out⟩
    case round=>
     clear H c8 ab T v;obtain⟨i,y,d,hi,rfl,c⟩:=hrel;obtain⟨f,r⟩:=h1.out;have l:=c.rd;have R:=l.Ei f;have ay:=l.lt l.trd (by simp);obtain⟨ra,ap,u⟩:=KS (l.rows kd f);have I:=l.GE;rw[c.line] at I
     by_cases h5:i<n
     ·obtain⟨b,aB,rfl,_,cw,_⟩:=(E.out.ext c.ext) i (by have:=p.out;omega);have aq:(i:Int)<(n:Int):=by omega
      have cN:=l.Nc;have Y:=l.names.look (ts.getD i []);obtain⟨w',aA,Z,g,M,aw,S,ac,ar,tag3,F,C⟩:=l.decl f (ts.getD i []) (by have:=c.len;have:=O.out;omega);have U:ts.drop i=ts.getD i []::ts.drop (i+1):=by
       have W:i<ts.length:=by have:=p.out;omega
       rw[List.drop_eq_getElem_cons W,List.getD_eq_getElem?_getD,List.getElem?_eq_getElem W];rfl
      have o:=c.all;rw[U] at o;have V:=Aa (⟨c,o,F,C⟩:_/\_/\_/\_);clear c o F C U;generalize ts.getD i []=t at *;rw[u] at R Z ac S;replace u:=Aa u
      rcases Y with⟨s,D⟩|⟨k6,n6,e6,s,D,_⟩
      ·have ao:=QN;replace s:=Aa s;clear l f
       go_wp2_with fail
       refine(In rb 3 _).mono ?_;rintro e Q ⟨rfl,rfl⟩
       go_wp2_with fail
       go_region
       all_goals
        go_wp2_with (at_builtin;refine Dl rfl _ _ _ rfl rfl rfl rfl S ?_)
        go_roundw
        case rel=>
         obtain⟨c,o,F,C⟩:=V.out;refine⟨i+1,tag3,_,by omega,by go_num,F,c.ext.trans C,?_,?_,λk f=>?_,c.line,c.rest⟩
         ·rw[o];have x:(d.decl kd t (.slice (some ⟨g,0,none⟩) ((d.nms kd).length+1) M)).nms kd=d.nms kd++[t]:=Cj _ _ _;rw[x]
          conv=>lhs;unfold BD
          rw[s.out]
          rfl
         ·have x:(d.decl kd t (.slice (some ⟨g,0,none⟩) ((d.nms kd).length+1) M)).nms kd=d.nms kd++[t]:=Cj _ _ _;rw[x,Xb,c.len];simp;omega
         ·have x:(d.decl kd t (.slice (some ⟨g,0,none⟩) ((d.nms kd).length+1) M)).nms k=d.nms k:=Cy _ f;rw[x];exact c.oth k f
        case measure=>simp[intOf];omega
      ·replace s:=Aa s;unfold Ab at D;clear l f
       go_wp2_with fail
       refine(Gj 3 I).mono ?_;rintro e Q ⟨rfl,rfl⟩;obtain⟨c,o,_⟩:=V.out;refine⟨rfl,.inr ⟨y,3,rfl,c.ext,.inr ⟨⟨r,K.out,q.out⟩,.inl ⟨?_,rfl⟩⟩⟩⟩;rw[o];unfold BD;rw[s.out]
     ·replace c:=Aa c;rw[u] at R;replace u:=Aa u;have o:Hid (BD kd G.N (G.nms kd) ts=some (d.N,d.nms kd)):=by
       have:=c.out.all;rw[List.drop_of_length_le (by have:=p.out;omega)] at this;exact this
      clear l f
      by_cases D:(d.nms kd).length<=4
      ·have X:((d.nms kd).length:Int)<=4:=by omega
       go_wp2_with fail
       refine(In rb 4 _).mono ?_;rintro e Q ⟨rfl,rfl⟩
       go_wp2_with fail
       go_end0
       have c:=c.out;exact .inl ⟨y,d,rfl,c.rd,c.ext,r,K.out,q.out,o.out,D,c.oth,c.line,c.rest⟩
      ·have X:¬((d.nms kd).length:Int)<=4:=by omega
       go_wp2_with fail
       refine(Gj 4 I).mono ?_;rintro e Q ⟨rfl,rfl⟩
       exact⟨rfl,.inr ⟨y,4,rfl,c.out.ext,.inr ⟨⟨r,K.out,q.out⟩,.inr ⟨⟨_,o.out,by show 4<(d.nms kd).length;omega⟩,rfl⟩⟩⟩⟩
def RG.body (G:RG) (a lm:Nat) (v:Xk):RG:={G with bods:=G.bods++[a],bV:=v,B:=BU G.B a {lm:=lm,cv:=.slice none 0 0,ins:=[],labs:=λ_=>none}}
section
variable {w w':Xh} {tag tag':Nat->RT} {base rb nb lb:Nat} {G:RG}
theorem JQ {e:TypeId} {k:Int} {v:Xk} {c:List Xk} (h:Dr w tag base e k v c):∃a cap,v = .slice a c.length cap:=by
 rcases h.row.2 with⟨b,d⟩|⟨g,cap,f,b,_⟩
 ·exact⟨none,0,by rw[b,d]⟩
 ·exact⟨_,_,b⟩
theorem Al.body (h:Al w tag base rb nb lb G) (R:G.bods.length<1048576) :
 ∃w1,(w.alloc (.map #[] 0)).alloc (.cells #[.slice none 0 0,.map (some w.heap.size)] 243)=w1/\∃g cap w3,(XL #[140,140] 140 #[G.bV,.slice (some ⟨w1.heap.size,0,none⟩) 1 1]).run Tryz.prog (w1.alloc (.cells #[Ab (w.heap.size+1)] 240)) = .ok (.slice (some ⟨g,0,none⟩) (G.bods.length+1) cap) w3/\
  w3.cell? ⟨rb,6,none⟩=some G.bV/\w3.frozen? ⟨rb,6,none⟩=false/\
  ∃tag',Al (w3.setCell ⟨rb,6,none⟩ (.slice (some ⟨g,0,none⟩) (G.bods.length+1) cap)) tag' base rb nb lb (G.body (w.heap.size+1) w.heap.size (.slice (some ⟨g,0,none⟩) (G.bods.length+1) cap))/\Ah w tag (w3.setCell ⟨rb,6,none⟩ (.slice (some ⟨g,0,none⟩) (G.bods.length+1) cap)) tag':=by
 have A:=h.lt h.trd (by simp);have ah:=h.g3;obtain⟨w1,j⟩:∃w1,(w.alloc (.map #[] 0)).alloc (.cells #[.slice none 0 0,.map (some w.heap.size)] 243)=w1:=⟨_,rfl⟩;have ag:w1.heap.size=w.heap.size+2:=by rw[<-j];simp
 have F:∀b,b<w.heap.size->w1.heap[b]?=w.heap[b]?:=λb d=>by
  rw[<-j,Xv _ _ b (by simp;omega),Xv _ _ b d]
 have Q:AA sk w1 w.heap.size (λ_=>none) 0:=by
  have:=(AA.made (enc:=sk) w).same (w':=w1) (by rw[<-j,Xv _ _ _ (by simp)]);exact this
 have P:w1.heap[w.heap.size+1]?=some (.cells #[.slice none 0 0,.map (some w.heap.size)] 243):=by
  have:=Xi (w.alloc (.map #[] 0)) (.cells #[.slice none 0 0,.map (some w.heap.size)] 243);rw[Yq] at this;rw[<-j];exact this
 obtain⟨f,v⟩:∃f,CM (CM tag w.heap.size (.lb (w.heap.size+1))) (w.heap.size+1) (.bd (w.heap.size+1))=f:=⟨_,rfl⟩;have m:∀b,b<w.heap.size->f b=tag b:=λb d=>by rw[<-v,Da _ (by omega),Da _ (by omega)]
 have E:f w.heap.size = .lb (w.heap.size+1):=by rw[<-v,Da _ (by omega),FT]
 have D:f (w.heap.size+1) = .bd (w.heap.size+1):=by rw[<-v,FT]
 have W:∀b,w.heap.size+2<=b->f b = .o:=λb d=>by
  rw[<-v,Da _ (by omega),Da _ (by omega)]
  cases hq:tag b with
  |o=>rfl
  |_=>exact absurd (h.tlt b (by rw[hq];simp)).2 (by omega)
 have aa:∀b,f b≠.o->b<w1.heap.size:=λb d=>by
  by_cases e:w.heap.size+2<=b
  ·exact absurd (W b e) d
  ·omega
 have ab:Dr w1 f base 240 0 G.bV (G.bods.map Ab):=h.brow.kept λb d=>by
  have y:=h.lt d (by simp)
  exact⟨F b y,(m b y).trans d⟩
 obtain⟨i0,r,T,af,Z⟩:=YI Tryz.infoBd;obtain⟨g,cap,w3,tag3,K,n,Y,M,p3,z3,I,p,V⟩:=ab.push Tryz.underlying140 r T af Z rfl (by omega) (Ab (w.heap.size+1)) (by simp[Zt,Ab]) 140 (by simpa using R) (by omega) aa;rw[Xp] at K n;have u:∀b,b<w.heap.size->tag b≠.row 0->w3.heap[b]?=w.heap[b]?:=λb d s=>(I b (by omega) (by rw[m b d];exact s)).trans (F b d);have z:w3.heap[rb]?=w.heap[rb]?:=u rb A (by rw[h.trd];simp);have l:Ah w tag (w3.setCell ⟨rb,6,none⟩ (.slice (some ⟨g,0,none⟩) (G.bods.length+1) cap)) tag3:=by
  refine⟨Y.trans (by rw[<-j];rfl),M.trans (by rw[<-j];rfl),p3.trans (by rw[<-j];rfl),by simp;omega,λb d=>(p b (by omega)).trans (m b d),λb d J=>?_⟩;rw[Xn w3 ⟨rb,6,none⟩ _ b (Co J h.trd (by simp))];exact u b d (by rw[J];simp)
 have S:w3.cell? ⟨rb,6,none⟩=some G.bV:=(Xw (w:=w) (a:=⟨rb,6,none⟩) z).trans h.Ko;refine⟨w1,j,g,cap,w3,K,S,(YS (w:=w) (a:=⟨rb,6,none⟩) z).trans (h.DZ _),tag3,?_,l⟩;refine h.step (λx=>x = .row 0\/x = .rd) l (λb d h1 s=>?_) (λb d X=>?_) ?_ (λk O=>.inl ⟨rfl,rfl,?_⟩) (.inr ?_) (.inl ⟨rfl,rfl,by simp⟩) (.inl ⟨rfl,by simp⟩) (by simp) (by simp) (by simp) (λa c C=>?_) (λa i r=>.inl ⟨r,?_⟩) (λc C=>.inl C)
 ·rw[Xn w3 ⟨rb,6,none⟩ _ b (λe=>s (by rw[e];exact .inr h.trd))];exact u b d (λe=>s (.inl e))
 ·simp only[XA]
  by_cases e:b<w1.heap.size
  ·omega
  ·exact V b (by omega) X
 ·rw[Xj w3 rb 6 _ _ _ (z.trans h.cell)]
  rfl
 ·rcases O with rfl|rfl|rfl|rfl<;>simp
 ·have U:(G.body (w.heap.size+1) w.heap.size (.slice (some ⟨g,0,none⟩) (G.bods.length+1) cap)).bods.map Ab=G.bods.map Ab++[Ab (w.heap.size+1)]:=by simp[RG.body]
  rw[U];refine⟨Bw n.row λx l=>?_,n.tg⟩;exact Xn w3 ⟨rb,6,none⟩ _ x (Co (n.tg x l) ((p rb (by omega)).trans ((m rb A).trans h.trd)) (by simp))
 ·have q:BU G.B (w.heap.size+1) {lm:=w.heap.size,cv:=.slice none 0 0,ins:=[],labs:=λ_=>none} a=some c:=C;unfold BU at q
  split at q
  ·rename_i e;subst e
   cases q
   right;have H:∀x,f x≠.rd->x<w1.heap.size->f x≠.row 0->(w3.setCell ⟨rb,6,none⟩ (.slice (some ⟨g,0,none⟩) (G.bods.length+1) cap)).heap[x]?=w1.heap[x]?:=λx l y N=>by
    rw[Xn w3 ⟨rb,6,none⟩ _ x (λe=>l (by have e:x=rb:=e;rw[e,m rb A];exact h.trd))];exact I x y N
   refine⟨(H _ (by rw[D];simp) (by omega) (by rw[D];simp)).trans P,XE _ _ _ _,(λx l=>by cases l),⟨λ_=>none,0,Q.same (H _ (by rw[E];simp) (by omega) (by rw[E];simp)),λt=>rfl⟩,(p _ (by omega)).trans D,(p _ (by show w.heap.size<=_;omega)).trans E⟩
  ·exact .inl ⟨q,by simp,by simp,by simp⟩
 ·have:=h.ins a i r;rw[Xn w3 ⟨rb,6,none⟩ _ a (Co this.2 h.trd (by simp))];exact u a (h.lt this.2 (by simp)) (by rw[this.2];simp)
end
def Oz (n0:Nat) (ts:List Tx) (G G':RG):Prop:=ts.length=1/\∃G1 a lm v,KB 116 ts G G1/\n0<=a/\G'=G1.body a lm v
def Ul (ts:List Tx) (G:RG) (e:Int):Prop:=(ts.length≠1/\e=2)\/(ts.length=1/\KC 116 ts G e)
theorem aeE {w:Xh} {j:Nat->RT} {base rb u lb:Nat} {G:RG} (h:Al w j base rb u lb G) (a:Option YV) (n cap:Nat) (ts:List Tx) (c:ts.length=n) (t:CX w j a ts) (r:(G.nms 116).length+n<1048576) (x:G.bods.length<1048576) :
 XY Tryz.prog 140 #[Ab rb,.slice a n cap] w (Out w j base rb u lb G.line (Oz w.heap.size ts G) (Ul ts G)):=by
 have C:=h.GE;have s:=Tl h 116 (.inr (.inr (.inr (.inr rfl)))) a n cap ts c t r;have D:=Aa (Ah.refl w j);unfold Ab at s |-;replace c:=Aa c
 by_cases B:n=1
 ·subst B;clear h t r
  go_enter Tryz.func140,Tryz.ntmps140
  go_wp2_with fail
  refine(In rb 2 _).mono ?_;rintro e w1 ⟨rfl,rfl⟩
  go_wp2_with fail
  refine s.mono ?_;rintro e l (⟨v,E,rfl,d,b,f⟩|⟨v,z,rfl,b,H⟩)
  ·obtain⟨w3,p,g,c3,P,i,c4,Q,F,k,o⟩:=d.body (by rw[f.2.2.2.2.2.2.2.1];exact x);have A:=Aa (⟨f,k,o,b⟩:_/\_/\_/\_);have y:=d.Ko;obtain⟨I,J,m⟩:=JQ d.brow;rw[Xp] at m;have M:=d.lt d.trd (by simp);rw[m] at y i c4;have N:=@run_makeMap Tryz.prog;replace p:=Aa p;replace m:=Aa m;have K:Hid (w3.heap.size=l.heap.size+2):=by unfold Hid;rw[<-p.out];simp
   rw[<-p.out] at i;unfold Ab at i;have q:((l.alloc (.map #[] 0)).alloc (.cells #[.slice none 0 0,.map (some l.heap.size)] 243)).heap.size=l.heap.size+1+1:=by simp
   rw[q] at i;replace q:=Aa q;clear d f b k o
   go_wp2_with (at_builtin;refine Dl rfl _ _ _ rfl rfl rfl rfl i ?_)
   go_end0
   obtain⟨f,k,o,b⟩:=A.out;exact .inl ⟨F,_,rfl,k,b.trans o,c.out,E,_,_,_,f,by have:=b.size;omega,rfl⟩
  ·exact⟨rfl,.inr ⟨v,z,rfl,b,.inr ⟨c.out,H⟩⟩⟩
 ·have O:((n:Int) == 1)=false:=by simp;omega
  clear h t r s
  go_enter Tryz.func140,Tryz.ntmps140
  go_wp2_with fail
  refine(Gj 2 C).mono ?_;rintro e w1 ⟨rfl,rfl⟩
  exact⟨rfl,.inr ⟨j,2,rfl,D.out,.inl ⟨by have:=c.out;omega,rfl⟩⟩⟩
def RG.later (G:RG) (c:Ca) (v:Xk):RG:={G with las:=G.las++[c],lV:=v}
section
variable {w w':Xh} {tag tag':Nat->RT} {base rb nb lb:Nat} {G:RG}
theorem SO (w:Xh) (A B C D E:Obj):∃a,((((w.alloc A).alloc B).alloc C).alloc D).alloc E=a/\a.heap.size=w.heap.size+5/\(∀b,b<w.heap.size->a.heap[b]?=w.heap[b]?)/\
 a.heap[w.heap.size]?=some A/\a.heap[w.heap.size+1]?=some B/\a.heap[w.heap.size+1+1]?=some C/\a.heap[w.heap.size+1+1+1]?=some D/\a.heap[w.heap.size+1+1+1+1]?=some E/\a.os=w.os/\a.tape=w.tape/\a.output=w.output:=by
 obtain⟨w1,h⟩:∃x,w.alloc A=x:=⟨_,rfl⟩;obtain⟨e,g⟩:∃x,w1.alloc B=x:=⟨_,rfl⟩;obtain⟨w3,j⟩:∃x,e.alloc C=x:=⟨_,rfl⟩;obtain⟨d,f⟩:∃x,w3.alloc D=x:=⟨_,rfl⟩;obtain⟨o,i⟩:∃x,d.alloc E=x:=⟨_,rfl⟩;rw[h,g,j,f,i];have z1:w1.heap.size=w.heap.size+1:=by rw[<-h];simp
 have z2:e.heap.size=w.heap.size+1+1:=by rw[<-g,Yq,z1]
 have z3:w3.heap.size=w.heap.size+1+1+1:=by rw[<-j,Yq,z2]
 have z4:d.heap.size=w.heap.size+1+1+1+1:=by rw[<-f,Yq,z3]
 have t:o.heap.size=w.heap.size+5:=by rw[<-i,Yq,z4]
 have y:w1.heap[w.heap.size]?=some A:=by rw[<-h];exact Xi w A
 have s:e.heap[w.heap.size+1]?=some B:=by rw[<-g,<-z1];exact Xi w1 B
 have q:w3.heap[w.heap.size+1+1]?=some C:=by rw[<-j,<-z2];exact Xi e C
 have u:d.heap[w.heap.size+1+1+1]?=some D:=by rw[<-f,<-z3];exact Xi w3 D
 have v:o.heap[w.heap.size+1+1+1+1]?=some E:=by rw[<-i,<-z4];exact Xi d _
 have z:∀k,k<w.heap.size->w1.heap[k]?=w.heap[k]?:=λk c=>by rw[<-h];exact Xv w A k c
 have p:∀k,k<w1.heap.size->e.heap[k]?=w1.heap[k]?:=λk c=>by rw[<-g];exact Xv w1 B k c
 have n:∀k,k<e.heap.size->w3.heap[k]?=e.heap[k]?:=λk c=>by rw[<-j];exact Xv e C k c
 have m:∀k,k<w3.heap.size->d.heap[k]?=w3.heap[k]?:=λk c=>by rw[<-f];exact Xv w3 D k c
 have l:∀k,k<d.heap.size->o.heap[k]?=d.heap[k]?:=λk c=>by rw[<-i];exact Xv d _ k c
 refine⟨_,rfl,by simp[t],λb r=>?_,?_,?_,?_,?_,?_,?_,?_,?_⟩
 ·rw[l b (by omega),m b (by omega),n b (by omega),p b (by omega),z b r]
 ·rw[l _ (by omega),m _ (by omega),n _ (by omega),p _ (by omega)];exact y
 ·rw[l _ (by omega),m _ (by omega),n _ (by omega)];exact s
 ·rw[l _ (by omega),m _ (by omega)];exact q
 ·rw[l _ (by omega)];exact u
 ·exact v
 ·rw[<-i,<-f,<-j,<-g,<-h];rfl
 ·rw[<-i,<-f,<-j,<-g,<-h];rfl
 ·rw[<-i,<-f,<-j,<-g,<-h];rfl
theorem Al.later (h:Al w tag base rb nb lb G) (W:G.las.length<1048576) (s z:Nat) (kd:Int) (t:Tx) :
 ∃j,((((w.alloc (.cells #[Ab s] 244)).alloc (.cells #[.map (some z)] 141)).alloc (.cells #[.int .u8 kd] 5)).alloc (.cells #[.string (bs t)] 9)).alloc (.cells #[.int .i64 G.line] 3)=j/\j.heap.size=w.heap.size+1+1+1+1+1/\j.cell? ⟨rb,9,none⟩=some G.lV/\
  ∃g cap w3,(XL #[143,143] 143 #[G.lV,.slice (some ⟨j.heap.size,0,none⟩) 1 1]).run Tryz.prog (j.alloc (.cells #[.func (.func 228) #[] #[Ab (w.heap.size+1),Ab (w.heap.size+1+1),Ab (w.heap.size+1+1+1),Ab (w.heap.size+1+1+1+1),Ab w.heap.size]] 1)) = .ok (.slice (some ⟨g,0,none⟩) (G.las.length+1) cap) w3/\
  w3.cell? ⟨rb,9,none⟩=some G.lV/\w3.frozen? ⟨rb,9,none⟩=false/\
  ∃tag',Al (w3.setCell ⟨rb,9,none⟩ (.slice (some ⟨g,0,none⟩) (G.las.length+1) cap)) tag' base rb nb lb (G.later ⟨s,z,kd,t,G.line,w.heap.size+1,w.heap.size+1+1,w.heap.size+1+1+1,w.heap.size+1+1+1+1,w.heap.size⟩ (.slice (some ⟨g,0,none⟩) (G.las.length+1) cap))/\Ah w tag (w3.setCell ⟨rb,9,none⟩ (.slice (some ⟨g,0,none⟩) (G.las.length+1) cap)) tag':=by
 have D:=h.lt h.trd (by simp);have ay:=h.g3;obtain⟨j,am,az,F,d4,d0,d1,d2,d3,X,t5,p5⟩:=SO w (.cells #[Ab s] 244) (.cells #[.map (some z)] 141) (.cells #[.int .u8 kd] 5) (.cells #[.string (bs t)] 9) (.cells #[.int .i64 G.line] 3);obtain⟨l,C⟩:∃l:Nat->RT,(λb=>if w.heap.size<=b/\b<w.heap.size+5 then RT.clo else tag b)=l:=⟨_,rfl⟩;have r:∀b,b<w.heap.size->l b=tag b:=λb f=>by rw[<-C];exact if_neg (by omega)
 have Q:∀b,w.heap.size<=b->b<w.heap.size+5->l b = .clo:=λb f ag=>by rw[<-C];exact if_pos ⟨f,ag⟩
 have ah:∀b,w.heap.size+5<=b->l b = .o:=λb f=>by
  rw[<-C];have e:(if w.heap.size<=b/\b<w.heap.size+5 then RT.clo else tag b)=tag b:=if_neg (by omega);show (if w.heap.size<=b/\b<w.heap.size+5 then RT.clo else tag b) = .o;rw[e]
  cases hq:tag b with
  |o=>rfl
  |_=>exact absurd (h.tlt b (by rw[hq];simp)).2 (by omega)
 have aq:∀b,l b≠.o->b<j.heap.size:=λb f=>by
  by_cases e:w.heap.size+5<=b
  ·exact absurd (ah b e) f
  ·omega
 have ap:Dr j l base 1 1 G.lV (G.las.map Ca.val):=h.lrow.kept λb f=>by
  have K:=h.lt f (by simp)
  exact⟨F b K,(r b K).trans f⟩
 obtain⟨c,E⟩:∃c:Ca,(⟨s,z,kd,t,G.line,w.heap.size+1,w.heap.size+1+1,w.heap.size+1+1+1,w.heap.size+1+1+1+1,w.heap.size⟩:Ca)=c:=⟨_,rfl⟩;have P:c.val = .func (.func 228) #[] #[Ab (w.heap.size+1),Ab (w.heap.size+1+1),Ab (w.heap.size+1+1+1),Ab (w.heap.size+1+1+1+1),Ab w.heap.size]:=by rw[<-E];rfl
 rw[E,<-P];obtain⟨i0,v,Y,aw,an⟩:=YI Tryz.infoFn;obtain⟨g,cap,w3,tag3,O,q,o3,U,p3,z3,M,A,af⟩:=ap.push Tryz.underlying143 v Y aw an rfl (by omega) c.val (by rw[P];rfl) 143 (by simpa using W) (by omega) aq;rw[Xp] at O q;have y:∀b,b<w.heap.size->tag b≠.row 1->w3.heap[b]?=w.heap[b]?:=λb f u=>(M b (by omega) (by rw[r b f];exact u)).trans (F b f);have B:w3.heap[rb]?=w.heap[rb]?:=y rb D (by rw[h.trd];simp);have m:Ah w tag (w3.setCell ⟨rb,9,none⟩ (.slice (some ⟨g,0,none⟩) (G.las.length+1) cap)) tag3:=by
  refine⟨o3.trans X,U.trans t5,p3.trans p5,by simp;omega,λb f=>(A b (by omega)).trans (r b f),λb f N=>?_⟩;rw[Xn w3 ⟨rb,9,none⟩ _ b (Co N h.trd (by simp))];exact y b f (by rw[N];simp)
 have aa:j.cell? ⟨rb,9,none⟩=some G.lV:=(Xw (w:=w) (a:=⟨rb,9,none⟩) (F rb D)).trans h.Nt;have Z:w3.cell? ⟨rb,9,none⟩=some G.lV:=(Xw (w:=w) (a:=⟨rb,9,none⟩) B).trans h.Nt;refine⟨j,am,by omega,aa,g,cap,w3,O,Z,(YS (w:=w) (a:=⟨rb,9,none⟩) B).trans (h.DZ _),tag3,?_,m⟩;refine h.step (λx=>x = .row 1\/x = .rd) m (λb f h1 u=>?_) (λb f hn=>?_) ?_ (λk V=>.inl ⟨rfl,rfl,?_⟩) (.inl ⟨rfl,rfl,by simp⟩) (.inr ?_) (.inl ⟨rfl,by simp⟩) (by simp) (by simp) (by simp) (λa d n=>.inl ⟨n,by simp,by simp,by simp⟩) (λa i v=>.inl ⟨v,?_⟩) (λd n=>?_)
 ·rw[Xn w3 ⟨rb,9,none⟩ _ b (λe=>u (by rw[e];exact .inr h.trd))];exact y b f (λe=>u (.inl e))
 ·simp only[XA]
  by_cases e:b<j.heap.size
  ·omega
  ·exact af b (by omega) hn
 ·rw[Xj w3 rb 9 _ _ _ (B.trans h.cell)]
  rfl
 ·rcases V with rfl|rfl|rfl|rfl<;>simp
 ·have e1:(G.later c (.slice (some ⟨g,0,none⟩) (G.las.length+1) cap)).las.map Ca.val=G.las.map Ca.val++[c.val]:=by simp[RG.later]
  rw[e1];refine⟨Bw q.row λx m=>?_,q.tg⟩;exact Xn w3 ⟨rb,9,none⟩ _ x (Co (q.tg x m) ((A rb (by omega)).trans ((r rb D).trans h.trd)) (by simp))
 ·have:=h.ins a i v;rw[Xn w3 ⟨rb,9,none⟩ _ a (Co this.2 h.trd (by simp))];exact y a (h.lt this.2 (by simp)) (by rw[this.2];simp)
 ·have n:d∈G.las++[c]:=n
  rcases List.mem_append.1 n with e|e
  ·exact .inl e
  ·right
   obtain rfl:=List.mem_singleton.1 e
   have p:∀x,w.heap.size<=x->x<w.heap.size+5->(w3.setCell ⟨rb,9,none⟩ (.slice (some ⟨g,0,none⟩) (G.las.length+1) cap)).heap[x]?=j.heap[x]?/\tag3 x = .clo:=λx m R=>by
    rw[Xn w3 ⟨rb,9,none⟩ _ x (by show x≠rb;omega)]
    exact⟨M x (by omega) (by rw[Q x m R];simp),(A x (by omega)).trans (Q x m R)⟩
   rw[<-E];have I:=p (w.heap.size+1) (by omega) (by omega);have J:=p (w.heap.size+1+1) (by omega) (by omega);have T:=p (w.heap.size+1+1+1) (by omega) (by omega);have S:=p (w.heap.size+1+1+1+1) (by omega) (by omega);have H:=p w.heap.size (by omega) (by omega)
   exact⟨I.1.trans d0,J.1.trans d1,T.1.trans d2,S.1.trans d3,H.1.trans d4,I.2,J.2,T.2,S.2,H.2⟩
end
theorem aeq (w:Xh) (A B C D:Obj) {b:Nat} (i:Nat) (h:b<w.heap.size):((((w.alloc A).alloc B).alloc C).alloc D).cell? ⟨b,i,none⟩=w.cell? ⟨b,i,none⟩:=by
 refine Xw (w:=w) (a:=⟨b,i,none⟩) ?_;show ((((w.alloc A).alloc B).alloc C).alloc D).heap[b]?=w.heap[b]?;rw[Xv _ _ b (by simp;omega),Xv _ _ b (by simp;omega),Xv _ _ b (by simp;omega),Xv _ _ b h]
def KA (ia tb:Nat) (kd:Int) (t:Tx) (G G':RG):Prop:=∃c v,c.ia=ia/\c.tb=tb/\c.kd=kd/\c.nm=t/\c.ln=G.line/\G'=G.later c v
theorem SR {w:Xh} {o:Nat->RT} {base rb i lb:Nat} {G:RG} (h:Al w o base rb i lb G) (p:G.las.length<1048576) (a b:Nat) (kd:Int) (t:Tx) :
 XY Tryz.prog 214 #[Ab rb,Ab a,.map (some b),.int .u8 kd,.string (bs t)] w λr w'=>r = .returned (.tuple #[])/\∃c j,Al w' c base rb i lb j/\Ah w o w' c/\KA a b kd t G j:=by
 have s:=h.GE;have q:=h.lt h.trd (by simp);have v:=(aeq w (.cells #[Ab a] 244) (.cells #[.map (some b)] 141) (.cells #[.int .u8 kd] 5) (.cells #[.string (bs t)] 9) 0 q).trans s;have y:∀(fn:Fn) (first cap:Array Xk) (w:Xh),(Instr.makeFunc fn first cap).run Tryz.prog w = .ok (.func fn first cap) w:=λ_ _ _ _=>rfl;obtain⟨z,f,l,c5,g,cap,w3,e,c3,A,c,m,k⟩:=h.later p a b kd t;obtain⟨u,x,d⟩:=JQ h.lrow;rw[Xp] at d;rw[d] at c5 e c3;have n:=Aa (⟨m,k⟩:_/\_);replace d:=Aa d;unfold Ab at *;rw[l,<-f] at e;rw[<-f] at c5;clear h m k l f
 go_enter Tryz.func214,Tryz.ntmps214
 go_wp2_with (at_builtin;refine Dl rfl _ _ _ rfl rfl rfl rfl e ?_)
 go_end0
 exact⟨rfl,c,_,n.out.1,n.out.2,_,_,rfl,rfl,rfl,rfl,rfl,rfl⟩
end Go.Proofs.YtdcacoifehkioaaGreatDoor
namespace Go.Proofs
open Go.Shelf
shelf_lay Lays.n172 Nm 172 at Tryz as Tryz.lays172
end Go.Proofs
namespace Go.Proofs.YtdcacoifehkioaaGreatDoor
open Go.RowKit Go.Shelf Go.Proofs.Cod
def Dn (t:Tx):Nat:=t.foldl (λn c=>n*10+(c.toNat - 48)) 0
theorem adZ (t:Tx) (h:t.all Bj=true) (a:Nat):Lib.decFrom a t=some (t.foldl (λn c=>n*10+(c.toNat - 48)) a):=by
 induction t generalizing a with
 |nil=>rfl
 |cons c t b=>
  simp only[List.all_cons,Yl] at h;have e:Lib.digitVal c=some (c.toNat - 48):=by
   have d:=h.1;simp[Bj] at d;unfold Lib.digitVal;rw[if_pos (by omega)]
  simp only[Lib.decFrom,e,List.foldl_cons];exact b h.2 _
theorem aeL {t:Tx} (h:CI t=true):Lib.atoi t=some (Dn t:Int)/\t.length<=3:=by
 simp only[CI,Yl,decide_eq_true_eq] at h;obtain⟨⟨f,d⟩,a⟩:=h;refine⟨?_,d⟩
 match t,f,a with
 |c::r,_,a=>
  have b:Bj c=true:=by simp only[List.all_cons,Yl] at a;exact a.1
  simp[Bj] at b;have n1:¬(c=45):=λe=>by subst e;revert b;decide
  have n2:¬(c=43):=λe=>by subst e;revert b;decide
  simp only[Lib.atoi,Lib.decNat,List.isEmpty_cons];simp only[beq_iff_eq,n1,n2,if_false,Bool.false_eq_true];rw[adZ _ a];rfl
def Bd (t:Tx):Nat:=if At t then De t else Dn t
theorem TK (t:Tx) (h:(At t||CI t)=true) (w:Xh):XY Tryz.prog 213 #[.string (bs t)] w λe w'=>e = .returned (.agg #[.bool (At t),.int .i64 (Bd t)])/\Below w.heap.size w w':=by
 have d:Hid (∀x,Below w.heap.size w (w.alloc x)):=λx=>(Xq _ _).alloc (Xd _) _
 cases b:At t with
 |true=>
  have c:Hid (Bd t=De t):=by unfold Hid Bd;rw[if_pos b]
  go_enter Tryz.func213,Tryz.ntmps213
  go_wp2_with fail
  refine(Kj t _).mono ?_;rintro e n ⟨rfl,rfl⟩;rw[b]
  go_wp2_with fail
  refine(QC t b _).mono ?_;rintro e w3 ⟨rfl,rfl⟩
  go_wp2_with fail
  exact XI (results_cell_row rfl _ _ w.heap.size 106 _ (0,0) _ rfl (Xi w _) Tryz.underlying106 rfl (by kernel_rfl)) rfl ⟨by rw[c.out],d.out _⟩
 |false=>
  rw[b,Bool.false_or] at h;have c:Hid (Bd t=Dn t):=by unfold Hid Bd;rw[b];rfl
  obtain⟨g,l⟩:=aeL h;have f:(bs t).data.toList=t:=by simp[bs]
  have k:=Aa (λW=>Any.strconv_Atoi Tryz.lays172 (bs t) (Dn t) (by rw[Bg];omega) (by rw[f];exact g) W);clear f g l
  go_enter Tryz.func213,Tryz.ntmps213
  go_wp2_with fail
  refine(Kj t _).mono ?_;rintro e n ⟨rfl,rfl⟩;rw[b]
  go_wp2_with fail
  refine(k.out _).mono ?_;rintro e w3 ⟨rfl,s,i⟩;obtain⟨a,m⟩:w3.heap[w.heap.size]?=some (.cells #[.bool false,.int .i64 0] 106)/\Below w.heap.size w w3:=by
   rw[i];refine⟨(Lib.bytesWorld_at_old _ _ _ _ (by simp)).trans (Xi w _),(d.out _).trans (Joins.below_bytesWorld _ _ _ _ (by simp))⟩
  clear i;have o:w.heap.size<w3.heap.size:=(Xa.1 a).1;have c0:w3.cell? ⟨w.heap.size,0,none⟩=some (.bool false):=by simp[Xg,a]
  have c1:w3.cell? ⟨w.heap.size,1,none⟩=some (.int .i64 0):=by simp[Xg,a]
  have p:w3.frozen? ⟨w.heap.size,0,none⟩=false:=by simp[XM,a]
  have q:w3.frozen? ⟨w.heap.size,1,none⟩=false:=by simp[XM,a]
  have j:=Aa a;clear a
  go_wp2_with fail
  refine XI (results_cell_row rfl _ _ w.heap.size 106 _ (0,0) _ rfl (Xj _ _ 1 _ _ _ (Xj _ _ 0 _ _ _ j.out)) Tryz.underlying106 rfl (by kernel_rfl)) rfl ⟨by rw[c.out];rfl,?_⟩
  exact(m.setCell (Xd _) _).setCell (Xd _) _
end Go.Proofs.YtdcacoifehkioaaGreatDoor
