import Derived.Test.YtdcacoifehkioaaGreatDoorExH2
import Derived.Maps.AppendAt
import Derived.Laws.AppendOwnNone
import Derived.OrdersIn
import Derived.TacticsIn
import Derived.Deep.RegionHeld
import Derived.Test.YtdcacoifehkioaaGreatDoorExH0
import Derived.Shelf.Lay
import Derived.Laws.Rows
import Derived.Shelf.Strconv.Atoi
import Derived.Lib.SmallJoins
open Go renaming Value->Xk,World->Xh,Calls->XX,callsIn_wide->X4,undef->Ya,info_parts->YN,heap_setCell_same->Xj,Addr->YZ,bodyPost_ret->XJ
open Go.World renaming alloc_heap_new->Xi,cell?->Xg,frozen?->XP,ownsRow_nil->XG,block_lt_of_cell?->YE,cell?_of_block->Xy,frozen?_of_block->YS,putObj_heap_other->Yi,size_setCell->XC,size_alloc->Yr
open Go.RowKit.Below renaming heap_alloc->Xv,refl->Xq,heap_setCell->Xo
open Nat renaming le_refl->Xd
open List renaming length_take->X5,length_append->Xb,map_append->XI,length_map->Xp
open Array renaming getElem?_eq_some_iff->Xa
open Go.Value renaming oneCell'->Zw,int->Yw
open Go.Region renaming ready->ZL,wanted->ZW
open Go.Builtin renaming append_->XN
open Bool renaming and_eq_true->Ym
set_option maxHeartbeats 1000000
set_option maxRecDepth 100000
set_option linter.unusedVariables false
set_option linter.unusedSimpArgs false
namespace Go.Proofs.YtdcacoifehkioaaGreatDoor
open Go.RowKit Go.Shelf Go.Proofs.Cod Go.Lib
attribute [local go_sem] Oper.semAt_some
def CQ (t:Tx):List Tx:=(Ar 32 (BR 35 t)).filter (λp => !p.isEmpty)
def Je (p:Tx):Xk:=.string (bs p)
theorem VN (t:Tx) (c:UInt8) (w:Xh):XX Tryz.prog 137 #[.string (bs t),.string (bs [c]),.int .i64 0] w λe w'=>
 e = .returned (.func (.func 176) #[] #[.pointer (some ⟨w.heap.size+1,0,none⟩),.pointer (some ⟨w.heap.size,0,none⟩),.pointer (some ⟨w.heap.size+2,0,none⟩)])/\w'=((w.alloc (.cells #[.string (bs t)] 9)).alloc (.cells #[.string (bs [c])] 9)).alloc (.cells #[.int .i64 0] 3):=by
 go_enter Tryz.func137,Tryz.ntmps137
 go_wp2
 go_ret
 exact⟨rfl,rfl⟩
theorem PN (t:Tx) (c:UInt8) (w:Xh):XX Tryz.prog 105 #[.string (bs t),.string (bs [c])] w λe w'=>
 e = .returned (.func (.func 176) #[] #[.pointer (some ⟨w.heap.size+1,0,none⟩),.pointer (some ⟨w.heap.size,0,none⟩),.pointer (some ⟨w.heap.size+2,0,none⟩)])/\w'=((w.alloc (.cells #[.string (bs t)] 9)).alloc (.cells #[.string (bs [c])] 9)).alloc (.cells #[.int .i64 0] 3):=by
 go_enter Tryz.func105,Tryz.ntmps105
 go_wp2_with fail
 refine(VN t c _).mono ?_;rintro e w1 ⟨rfl,rfl⟩
 go_wp2_with fail
 go_ret
 exact⟨rfl,rfl⟩
theorem ado (w:Xh) (A B C D:Obj):((((w.alloc A).alloc B).alloc C).alloc D).heap[w.heap.size]?=some A/\((((w.alloc A).alloc B).alloc C).alloc D).heap[w.heap.size+1]?=some B/\((((w.alloc A).alloc B).alloc C).alloc D).heap[w.heap.size+1+1]?=some C/\((((w.alloc A).alloc B).alloc C).alloc D).heap[w.heap.size+1+2]?=some D:=by
 obtain⟨w1,f⟩:∃x,w.alloc A=x:=⟨_,rfl⟩;obtain⟨a,d⟩:∃x,w1.alloc B=x:=⟨_,rfl⟩;obtain⟨w3,c⟩:∃x,a.alloc C=x:=⟨_,rfl⟩;have z1:w1.heap.size=w.heap.size+1:=by rw[<-f];simp
 have z2:a.heap.size=w.heap.size+1+1:=by rw[<-d];simp;omega
 have z3:w3.heap.size=w.heap.size+1+2:=by rw[<-c];simp;omega
 rw[f,d,c];have l:w1.heap[w.heap.size]?=some A:=by rw[<-f];exact Xi w A
 have j:a.heap[w.heap.size+1]?=some B:=by rw[<-d,<-z1];exact Xi w1 B
 have i:w3.heap[w.heap.size+1+1]?=some C:=by rw[<-c,<-z2];exact Xi a C
 have h:∀k,k<w1.heap.size->a.heap[k]?=w1.heap[k]?:=λk b=>by rw[<-d];exact Xv w1 B k b
 have g:∀k,k<a.heap.size->w3.heap[k]?=a.heap[k]?:=λk b=>by rw[<-c];exact Xv a C k b
 have e:∀k,k<w3.heap.size->(w3.alloc D).heap[k]?=w3.heap[k]?:=λk b=>Xv w3 D k b;refine⟨?_,?_,?_,?_⟩
 ·rw[e _ (by omega),g _ (by omega),h _ (by omega)];exact l
 ·rw[e _ (by omega),g _ (by omega)];exact j
 ·rw[e _ (by omega)];exact i
 ·rw[<-z3];exact Xi w3 D
theorem LP (c:UInt8) (t:Tx):(BR c t).length<=t.length:=by
 unfold BR
 split
 ·exact Xd _
 ·rw[X5];omega
theorem JO (c:UInt8) (t:Tx):(Ar c t).length<=t.length+1:=by
 induction t with
 |nil=>simp[Ar]
 |cons b l a=>
  unfold Ar
  split
  ·simp;omega
  ·cases h:Ar c l with
   |nil=>simp
   |cons p ps=>rw[h] at a;simp at a |-;omega
theorem Ok {w w':Xh} {base e a n:Nat} {v:Xk} {d:List Xk} (h:w.ownsRow base e a v n d) (f:∀g,base<=g->g<w.heap.size->w'.heap[g]?=w.heap[g]?):w'.ownsRow base e a v n d:=by
 refine⟨h.1,?_⟩
 rcases h.2 with i|⟨g,cap,j,rfl,b,c,rest⟩
 ·exact .inl i
 ·exact .inr ⟨g,cap,j,rfl,b,(f g b (Xa.1 c).1).trans c,rest⟩
theorem aeG {w:Xh} {base b e a n:Nat} {v:Xk} {c:List Xk} (h:w.ownsRow base e a v n c) (j:b<=base):w.ownsRow b e a v n c:=by
 refine⟨h.1,?_⟩
 rcases h.2 with d|⟨g,cap,f,i,k,rest⟩
 ·exact .inl d
 ·exact .inr ⟨g,cap,f,i,by omega,rest⟩
theorem Tryz.infoS:(Tryz.prog.info? 9).map (λi=>(i.zero,i.size,i.bytes))=some (some (.string ByteArray.empty),1,16):=by kernel_rfl
theorem Vl {l:List Tx} {i:Nat} {p:Tx} (h:l[i]?=some p):(l.take (i+1)).filter (λp => !p.isEmpty)=(l.take i).filter (λp => !p.isEmpty)++if p.isEmpty then [] else [p]:=by
 obtain⟨b,rfl⟩:=List.getElem?_eq_some_iff.1 h;rw[List.take_succ_eq_append_getElem b,List.filter_append]
 congr 1
 cases a:l[i].isEmpty<;>simp[a]
theorem VL (t:Tx) (w:Xh) (ay:t.length<1048576):XX Tryz.prog 106 #[.string (bs t)] w λe w'=>∃v,e = .returned v/\w'.ownsRow w.heap.size 9 1 v (CQ t).length ((CQ t).map Je)/\Below w.heap.size w w':=by
 refine(X4 (n:=6)).1 ?_;refine TP Tryz.func106 rfl trivial ?_ rfl;simp only[Tryz.ntmps106,List.size_toArray,List.length_cons,List.length_nil,Nat.reduceAdd,Nat.reduceSub,Array.replicate_succ,Array.replicate_zero,List.push_toArray,List.append_toArray,List.nil_append,List.cons_append];refine GZ (Ha ?_)
 gi_wp2
 refine GZ (Ha ?_)
 gi_wp2_with (refine⟨trivial,?_⟩;gi_at_call 138;refine(X4.2 (aem t 35 _ (by omega))).mono ?_;rintro e w1 ⟨⟨y,f,rfl⟩,x⟩)
 refine GZ (Ha ?_)
 gi_wp2
 refine GZ (GZ (Ha ?_))
 gi_wp2_with (refine⟨trivial,?_⟩;gi_at_call 105;refine(X4.2 (PN (BR 35 t) 32 _)).mono ?_;rintro e w2 ⟨rfl,rfl⟩)
 refine ON ?_;obtain⟨d,u⟩:∃d,(((w1.alloc (.cells #[.slice none 0 0] 22)).alloc (.cells #[.string (bs (BR 35 t))] 9)).alloc (.cells #[.string (bs [32])] 9)).alloc (.cells #[.int .i64 0] 3)=d:=⟨_,rfl⟩;have ah:d.heap.size=w1.heap.size+4:=by rw[<-u];simp
 rw[u];have ao:Below w1.heap.size w1 d:=by rw[<-u];exact((((Xq _ _).alloc (Xd _) _).alloc (by simp) _).alloc (by simp;omega) _).alloc (by simp;omega) _
 have aa:Below w.heap.size w d:=x.trans (ao.mono x.size);have o:=ado w1 (.cells #[.slice none 0 0] 22) (.cells #[.string (bs (BR 35 t))] 9) (.cells #[.string (bs [32])] 9) (.cells #[.int .i64 0] 3);rw[u] at o;obtain⟨M,H,k2,k3⟩:=o;clear u;refine OM (fnd:=Tryz.f106) Tryz.func106 (w1.heap.size+1+1) (w1.heap.size+1) (w1.heap.size+1+2) 32 (BR 35 t) rfl (by have:=LP 35 t;omega) (by simp[Xg,k2]) (by simp[Xg,H]) (by simp[Xg,k3]) (by simp[XP,H]) (by omega) (by omega)
  (λi W=>∃v,W.cell? ⟨w1.heap.size,0,none⟩=some v/\W.frozen? ⟨w1.heap.size,0,none⟩=false/\W.ownsRow (d.heap.size+2) 9 1 v (((Ar 32 (BR 35 t)).take i).filter (λp => !p.isEmpty)).length ((((Ar 32 (BR 35 t)).take i).filter (λp => !p.isEmpty)).map Je)/\Below w.heap.size w W)
  (λ_ _=>False) ?free ?start (λp=>{tmps := #[.string (bs t),Ya,.slice none 0 0,.string (bs (BR 35 t)),.string (bs y),.bool f,.pointer (some ⟨w1.heap.size,0,none⟩),.string (bs p),.tuple #[.string (bs (BR 35 t)),.string (bs y),.bool f],.string (bs t),.tuple #[.string (bs (BR 35 t)),.string (bs y),.bool f],.string (bs (BR 35 t)),.string (bs y),.bool f,.string (bs (BR 35 t)),.func (.func 176) #[] #[.pointer (some ⟨w1.heap.size+1+1,0,none⟩),.pointer (some ⟨w1.heap.size+1,0,none⟩),.pointer (some ⟨w1.heap.size+1+2,0,none⟩)],.string (bs p),Ya,Ya,Ya,Ya,Ya,Ya,Ya],defers:=[]}) ?assign ?body ?done ?panic
 case assign=>
  intro l p W K Z
  gi_wp2
  exact Z
 case start=>exact⟨_,by simp[Xg,M],by simp[XP,M],XG _ _ _ _,aa⟩
 case panic=>intro ax W h _;exact h.elim
 case free=>
  rintro i W W' ⟨v,q,s,j,c⟩ z af S ht B;have U:w1.heap.size<W.heap.size:=YE W ⟨w1.heap.size,0,none⟩ q;have r:W'.heap[w1.heap.size]?=W.heap[w1.heap.size]?:=z _ U (by simp;omega);refine⟨v,(Xy (a:=⟨w1.heap.size,0,none⟩) r).trans q,(YS (a:=⟨w1.heap.size,0,none⟩) r).trans s,Ok j (λg m V=>z g V (by simp;omega)),⟨S.trans c.os,ht.trans c.tape,B.trans c.output,Nat.le_trans c.size af,λk o=>?_⟩⟩
  exact(z k (by have:=c.size;omega) (by have:=x.size;simp;omega)).trans (c.block k o)
 case body=>
  rintro l i p W ⟨v,q,s,j,c⟩ B aG;have A:=Vl B
  by_cases C:p=[]
  ·subst C;have aH:(bs []).toList.isEmpty=true:=by rw[AK];rfl
   gi_wp2
   refine⟨λb _=>rfl,v,q,s,?_,c⟩;rw[A]
   simpa using j
  ·have aA:(bs p).toList.isEmpty=false:=by rw[AK];simpa using C
   obtain⟨i0,Y,ak,N,Q⟩:=YN Tryz.infoS;have au:(((Ar 32 (BR 35 t)).take i).filter (λp => !p.isEmpty)).length<=t.length+1:=by
    have a1:=JO 32 (BR 35 t);have a2:=LP 35 t;have P:=List.length_filter_le (λp:Tx => !p.isEmpty) ((Ar 32 (BR 35 t)).take i);rw[X5] at P
    omega
   have ab:((Ar 32 (BR 35 t)).take (i+1)).filter (λp => !p.isEmpty)=((Ar 32 (BR 35 t)).take i).filter (λp => !p.isEmpty)++[p]:=by
    rw[A];congr 1
    cases O:p.isEmpty with
    |true=>exact absurd (List.isEmpty_iff.1 O) C
    |false=>rfl
   clear A;generalize aF:((Ar 32 (BR 35 t)).take i).filter (λp => !p.isEmpty)=Fi at *;have aE:w1.heap.size<W.heap.size:=YE W ⟨w1.heap.size,0,none⟩ q;have ar:∀g,v.ownBlock=some g->d.heap.size+2<=g/\g<W.heap.size:=λg e=>j.lt g e;have HB:Hid (∀w3,(W.alloc (.cells #[.string (bs p)] 9)).grownBy w3 v.ownBlock->w3.cell? ⟨w1.heap.size,0,none⟩=some v/\w3.frozen? ⟨w1.heap.size,0,none⟩=false/\W.heap.size<=w3.heap.size/\(∀b,b<d.heap.size+2->w3.heap[b]?=W.heap[b]?)/\w3.os=W.os/\w3.tape=W.tape/\w3.output=W.output):=λw3 m=>by
    have G:∀b,b<d.heap.size+2->w3.heap[b]?=W.heap[b]?:=λb D=>(m.block b (by simp;omega) (λe=>by have:=(ar b e.symm).1;omega)).trans (Xv W _ b (by omega));have r:=G w1.heap.size (by omega)
    exact⟨(Xy (a:=⟨w1.heap.size,0,none⟩) r).trans q,(YS (a:=⟨w1.heap.size,0,none⟩) r).trans s,by have:=m.size;simp at this;omega,G,m.os,m.tape,m.output⟩
   gi_wp2_with (gi_at_builtin;refine wpListIn_append_own _ rfl _ _ 22 rfl (d.heap.size+2) 9 i0 (.string ByteArray.empty) 1 16 Tryz.underlying22 Y ak N Q rfl (by decide) _ _ _ rfl (j.alloc _) ⟨_,0,none⟩ 1 1 [Je p] rfl rfl (cell_one_new _ _ _) (by simp[Zw,Je]) (by unfold maxLen;omega) (by omega) (by simp;omega) ?_;intro v' w3 I an _;obtain⟨c3,f3,z3,F,T,X,R⟩:=HB.out w3 an;obtain⟨g',av,rfl⟩:=ownsRow_succ I)
   have am:=x.size;refine⟨λb D=>?_,_,World.cell?_setCell_same _ _ _ c3,by rw[World.frozen?_setCell];exact f3,?_,⟨T.trans c.os,X.trans c.tape,R.trans c.output,by have:=c.size;simp;omega,λk o=>(Xo w3 ⟨w1.heap.size,0,none⟩ _ k (by show k≠w1.heap.size;omega)).trans ((F k (by omega)).trans (c.block k o))⟩⟩
   ·have E:b≠w1.heap.size/\b<d.heap.size+2:=by
     simp only[List.mem_cons,List.not_mem_nil,or_false] at D
     omega
    exact(Xo w3 ⟨w1.heap.size,0,none⟩ _ b E.1).trans (F b E.2)
   ·rw[ab,Xb,XI];exact Ok I (λg m _=>Xo w3 ⟨w1.heap.size,0,none⟩ _ g (by show g≠w1.heap.size;omega))
 case done=>
  rintro W ⟨v,q,s,j,c⟩ J;rw[List.take_length] at j;rw[ah] at J j;refine Ha ?_
  gi_wp2
  refine⟨by simp,.inl ⟨_,_,rfl,run_takeDeferred J,?_⟩⟩;have am:=x.size;refine⟨_,results_tmp rfl _ _ _,v,rfl,aeG (Ok j λg m _=>Yi (by omega)) (by omega),⟨c.os,c.tape,c.output,by simpa using c.size,λk o=>(Yi (by omega)).trans (c.block k o)⟩⟩
end Go.Proofs.YtdcacoifehkioaaGreatDoor
namespace Go.Proofs.YtdcacoifehkioaaGreatDoor
open Go
section
variable {P:Program} {md:Region.Mode} {ops:Array Oper} {Q:Exit->Act->Xh->Prop} {S:Xh->Prop} {oi:Oper} {v:Xk} {fuel:Nat} {listed:Array Bool} {a a':Act} {w:Xh}
theorem sq {α:Type}:(∀(l:List α) (i:Nat) (h:i<l.toArray.size),l.toArray[i]'h=l[i]'(by simpa using h))/\(∀(x:α) (l:List α) (h:0<(x::l).length),(x::l)[0]'h=x)/\(∀(x:α) (l:List α) (i:Nat) (h:i+1<(x::l).length),(x::l)[i+1]'h=l[i]'(by simpa using h))/\(∀(l:List α) (i:Nat) (x:α),l.toArray.setIfInBounds i x=(l.set i x).toArray)/\(∀(x y:α) (l:List α) (i:Nat),(x::l).set (i+1) y=x::l.set i y)/\∀(x y:α) (l:List α),(x::l).set 0 y=y::l:=
 ⟨λ_ _ _=>rfl,λ_ _ _=>rfl,λ_ _ _ _=>rfl,λl i x=>List.setIfInBounds_toArray ..,λ_ _ _ _=>rfl,λ_ _ _=>rfl⟩
theorem tk (i:Nat) (j:S w) (h:wpAnyH P md ops Q S fuel (listed.setIfInBounds i true) a' w)
 (k:ops[i]?=some oi:=by rfl) (g:Region.noSelect ops=true:=by kernel_rfl) (e:Region.free md ops listed i=true:=by kernel_rfl) (d:(ZL md ops listed).contains i=true:=by kernel_rfl)
 (o:∀c a w,Q (.panic c) (a.put oi.dst v) w->Q (.panic c) a w:=by exact λ_ _ _ h=>h)
 (l:ZW oi (yielded ops a.tmps)=true:=by rfl) (m:∀b,S b->(execOp a.eval oi).run P b = .ok (.value v) b:=by(intro b n;(try dsimp only at n);go_simp;try with_reducible rfl))
 (f:a.put oi.dst v=a':=by(simp only[Act.put,sq];first|done|rfl)):wpAnyH P md ops Q S (fuel+1) listed a w:=by
 subst f;exact wpAnyH_take (i:=i) (v:=v) k g e d o (Or.inl ⟨l,m⟩) j h
theorem tn (i:Nat) (g:S w) (h:wpAnyH P md ops Q S fuel (listed.setIfInBounds i true) a' w)
 (j:ops[i]?=some oi:=by rfl) (f:Region.noSelect ops=true:=by kernel_rfl) (d:Region.free md ops listed i=true:=by kernel_rfl) (b:(ZL md ops listed).contains i=true:=by kernel_rfl)
 (l:∀c a w,Q (.panic c) (a.put oi.dst Ya) w->Q (.panic c) a w:=by exact λ_ _ _ h=>h)
 (k:ZW oi (yielded ops a.tmps)=false:=by rfl)
 (e:a.put oi.dst Ya=a':=by(simp only[Act.put,sq];first|done|rfl)):wpAnyH P md ops Q S (fuel+1) listed a w:=by
 subst e;exact wpAnyH_take (i:=i) (v:=Ya) j f d b l (Or.inr ⟨k,rfl⟩) g h
theorem rd (i:Nat) (h:∀b:Act->Xh->Prop,Shut (∀a w,S w->(S w->wpAnyH P md ops Q S fuel (listed.setIfInBounds i true) a w)->b a w)->if ZW oi (yielded ops a.tmps)=true then Oper.wp P oi a w b Q else b (a.put oi.dst Ya) w)
 (d:ops[i]?=some oi:=by rfl) (c:ZL md ops listed=[i]:=by kernel_rfl):wpAnyH P md ops Q S (fuel+1) listed a w:=
 wpAnyH_ready (rs:=[i]) c (by simp) (AllReadyH.cons d h AllReadyH.nil)
end
end Go.Proofs.YtdcacoifehkioaaGreatDoor
namespace Go.Proofs.YtdcacoifehkioaaGreatDoor
open Go.RowKit Go.Proofs.Cod
def AY {α:Type} (f:Int->α) (k:Int) (v:α):Int->α:=λx=>if x=k then v else f x
theorem Cm {α:Type} (f:Int->α) (k:Int) (v:α):AY f k v k=v:=by simp[AY]
theorem CB {α:Type} {f:Int->α} {k x:Int} (v:α) (h:x≠k):AY f k v x=f x:=by simp[AY,h]
def RG.decl (G:RG) (kd:Int) (t:Tx) (v:Xk):RG:={G with N:=Be G.N t (kd,(G.nms kd).length),nms:=AY G.nms kd (G.nms kd++[t]),V:=AY G.V kd v}
section
variable {w w':Xh} {tag tag':Nat->RT} {base rb nb lb:Nat} {G:RG}
theorem KT {e:TypeId} {k:Int} {v:Xk} {l:List Tx} (h:Du w tag base e k v (l.map BV)):∃a cap,v = .slice a l.length cap:=by
 have h:=h.row;rw[Xp] at h
 rcases h.2 with⟨b,c⟩|⟨g,cap,d,b,_⟩
 ·exact⟨none,0,by rw[b,c]⟩
 ·exact⟨_,_,b⟩
theorem Wd {G:RG} {kd:Int} (a:AU kd) (v:Xk) (nb lb:Nat) : #[Yw .i64 G.line,G.V 118,G.V 102,G.V 109,.slice none 0 0,G.V 116,G.bV,.map (some nb),.map (some lb),G.lV].setIfInBounds (Cw kd) v = #[Yw .i64 G.line,AY G.V kd v 118,AY G.V kd v 102,AY G.V kd v 109,.slice none 0 0,AY G.V kd v 116,G.bV,.map (some nb),.map (some lb),G.lV]:=by
 rcases a with rfl|rfl|rfl|rfl<;>simp[Cw,AY]
theorem Al.decl (h:Al w tag base rb nb lb G) {kd:Int} (l:AU kd) (t:Tx) (O:(G.nms kd).length<1048576) :
 ∃w',(Instr.mapUpdate 141 (.map (some nb)) (.string (bs t)) (.pointer (some ⟨w.heap.size,0,none⟩))).run Tryz.prog ((w.alloc (.cells #[.int .u8 kd,.int .i64 (G.nms kd).length] 289)).drew) = .ok () w'/\
  w'.cell? ⟨rb,Cw kd,none⟩=some (G.V kd)/\∃g cap w3,(XN #[22,22] 22 #[G.V kd,.slice (some ⟨w'.heap.size,0,none⟩) 1 1]).run Tryz.prog (w'.alloc (.cells #[.string (bs t)] 9)) = .ok (.slice (some ⟨g,0,none⟩) ((G.nms kd).length+1) cap) w3/\
  w3.cell? ⟨rb,Cw kd,none⟩=some (G.V kd)/\w3.frozen? ⟨rb,Cw kd,none⟩=false/\
  ∃tag',Al (w3.setCell ⟨rb,Cw kd,none⟩ (.slice (some ⟨g,0,none⟩) ((G.nms kd).length+1) cap)) tag' base rb nb lb (G.decl kd t (.slice (some ⟨g,0,none⟩) ((G.nms kd).length+1) cap))/\Ah w tag (w3.setCell ⟨rb,Cw kd,none⟩ (.slice (some ⟨g,0,none⟩) ((G.nms kd).length+1) cap)) tag':=by
 have F:kd≠0/\kd≠1:=by rcases l with rfl|rfl|rfl|rfl<;>decide
 have ac:=h.lt h.tnm (by simp);have C:=h.lt h.trd (by simp);have ad:=h.g3;obtain⟨w',Q,T,hz,M,U,R,v⟩:=h.names.put t kd (G.nms kd).length (λb d=>h.lt d (by simp)) (by rw[h.tnm];simp) ac;have A:rb≠nb:=λe=>by have:=h.trd;rw[e,h.tnm] at this;cases this
 have W:w'.heap[rb]?=w.heap[rb]?:=v rb C A;have E:∀b,CO tag w.heap.size .en b≠.o->b<w'.heap.size:=λb d=>by
  unfold CO at d
  split at d
  ·omega
  ·have:=(h.tlt b d).2;omega
 have ab:Du w' (CO tag w.heap.size .en) base 9 kd (G.V kd) ((G.nms kd).map BV):=(h.rows kd l).kept λb d=>by
  have s:=h.lt d (by simp)
  exact⟨v b s (λe=>by rw[e,h.tnm] at d;cases d),(Da _ (by omega)).trans d⟩
 obtain⟨i0,p,Y,H,J⟩:=YN Tryz.infoTx;obtain⟨g,cap,w3,tag3,D,q,N,P,K,z3,u,z,I⟩:=ab.push Tryz.underlying22 p Y H J rfl (by omega) (BV t) (by simp[Zw,BV]) 22 (by simpa using O) (by omega) E;rw[Xp] at D q;have m:∀b,b<w.heap.size->b≠nb->tag b≠.row kd->w3.heap[b]?=w.heap[b]?:=λb d f j=>(u b (by omega) (by rw[Da _ (by omega)];exact j)).trans (v b d f);have B:w3.heap[rb]?=w.heap[rb]?:=m rb C A (by rw[h.trd];simp);have Z:w3.cell? ⟨rb,Cw kd,none⟩=some (G.V kd):=(Xy (w:=w) (a:=⟨rb,Cw kd,none⟩) B).trans (h.El l);have n:Ah w tag (w3.setCell ⟨rb,Cw kd,none⟩ (.slice (some ⟨g,0,none⟩) ((G.nms kd).length+1) cap)) tag3:=by
  refine⟨N.trans M,P.trans U,K.trans R,by simp;omega,λb d=>(z b (by omega)).trans (Da _ (by omega)),λb d y=>?_⟩;rw[Xo w3 ⟨rb,Cw kd,none⟩ _ b (Co y h.trd (by simp))];exact m b d (λe=>by have:=h.tnm;rw[<-e,y] at this;cases this) (by rw[y];simp)
 refine⟨w',Q,(Xy (w:=w) (a:=⟨rb,Cw kd,none⟩) W).trans (h.El l),g,cap,w3,D,Z,(YS (w:=w) (a:=⟨rb,Cw kd,none⟩) B).trans (h.Ed _),tag3,?_,n⟩;refine h.step (λx=>x = .nm\/x = .row kd\/x = .rd) n (λb d f j=>?_) (λb d hn=>?_) ?_ (λk ah=>?_) (.inl ⟨rfl,rfl,by simp;exact λe=>F.1 e.symm⟩) (.inl ⟨rfl,rfl,by simp;exact λe=>F.2 e.symm⟩) (.inr ?_) (by simp) (by simp) (by simp) (λa c r=>.inl ⟨r,by simp,by simp,by simp⟩) (λa i p=>.inl ⟨p,?_⟩) (λc r=>.inl r)
 ·rw[Xo w3 ⟨rb,Cw kd,none⟩ _ b (λe=>j (by rw[e];exact .inr (.inr h.trd)))];exact m b d (λe=>j (by rw[e];exact .inl h.tnm)) (λe=>j (.inr (.inl e)))
 ·simp only[XC]
  by_cases e:b=w.heap.size
  ·subst e;omega
  ·exact I b (by omega) hn
 ·rw[Xj w3 rb (Cw kd) _ _ _ (B.trans h.cell),Wd l]
  rfl
 ·by_cases e:k=kd
  ·subst e;right;have X:(G.decl k t (.slice (some ⟨g,0,none⟩) ((G.nms k).length+1) cap)).V k = .slice (some ⟨g,0,none⟩) ((G.nms k).length+1) cap:=Cm _ _ _;have S:(G.decl k t (.slice (some ⟨g,0,none⟩) ((G.nms k).length+1) cap)).nms k=G.nms k++[t]:=Cm _ _ _;rw[X,S,XI];refine⟨BA q.row λx n=>?_,q.tg⟩;refine Xo w3 ⟨rb,Cw k,none⟩ _ x (λe=>?_);have e:x=rb:=e;have f:=q.tg x n;rw[e,z rb (by omega),Da _ (by omega),h.trd] at f
   cases f
  ·exact .inl ⟨CB _ e,CB _ e,by simp;exact e⟩
 ·refine T.kept ?_ λb d=>?_
  ·rw[Xo w3 ⟨rb,Cw kd,none⟩ _ nb (λe=>A e.symm)];exact u nb (by omega) (by rw[Da _ (by omega),h.tnm];simp)
  ·have af:=E b (by rw[d];simp);refine⟨?_,(z b (by omega)).trans d⟩;rw[Xo w3 ⟨rb,Cw kd,none⟩ _ b (λe=>?_)]
   ·exact u b (by omega) (by rw[d];simp)
   ·have e:b=rb:=e;rw[e,Da _ (by omega),h.trd] at d;cases d
 ·have:=h.ins a i p;have s:=h.lt this.2 (by simp);rw[Xo w3 ⟨rb,Cw kd,none⟩ _ a (Co this.2 h.trd (by simp))];exact m a s (λe=>by rw[e,h.tnm] at this;cases this.2) (by rw[this.2];simp)
end
def CZ (w:Xh) (tag:Nat->RT) (a:Option YZ) (ts:List Tx):Prop:=
 ∀i,i<ts.length->∃b off,a=some ⟨b,off,none⟩/\b<w.heap.size/\w.cell? ⟨b,off+i,none⟩=some (.string (bs (ts.getD i [])))/\tag b = .o
theorem CZ.ws {w:Xh} {e:Nat->RT} {a:Option YZ} {ts:List Tx} (h:CZ w e a ts):Ws w a ts:=λi d=>by
 obtain⟨b,c,g,j,f,_⟩:=h i d;exact⟨b,c,g,j,f⟩
theorem CZ.ext {w w':Xh} {j g:Nat->RT} {a:Option YZ} {ts:List Tx} (h:CZ w j a ts) (c:Ah w j w' g):CZ w' g a ts:=λi k=>by
 obtain⟨b,e,m,d,l,f⟩:=h i k
 exact⟨b,e,m,Nat.lt_of_lt_of_le d c.size,(Xy (w:=w) (a:=⟨b,e+i,none⟩) (c.block b d f)).trans l,(c.tags b d).trans f⟩
def BF (kd:Int):(Tx->Option (Int×Nat))->List Tx->List Tx->Option ((Tx->Option (Int×Nat))×List Tx)
 |N,l,[]=>some (N,l)
 |N,l,t::ts=>match N t with
  |some _=>none
  |none=>BF kd (Be N t (kd,l.length)) (l++[t]) ts
theorem LO {kd:Int} {N:Tx->Option (Int×Nat)} {l ts:List Tx} {p:(Tx->Option (Int×Nat))×List Tx} (h:BF kd N l ts=some p):p.2=l++ts:=by
 induction ts generalizing N l with
 |nil=>simp only[BF,Option.some.injEq] at h;rw[<-h];simp
 |cons t ts a=>
  unfold BF at h
  split at h
  ·cases h
  ·rw[a h];simp
def KD (kd:Int) (ts:List Tx) (G G':RG):Prop:=kd≠0/\ts≠[]/\ts.all Aw=true/\BF kd G.N (G.nms kd) ts=some (G'.N,G'.nms kd)/\(G'.nms kd).length<=4/\(∀k,k≠kd->G'.nms k=G.nms k)/\G'.line=G.line/\G'.bods=G.bods/\G'.bV=G.bV/\G'.B=G.B/\G'.I=G.I/\G'.las=G.las/\G'.lV=G.lV
def KE (kd:Int) (ts:List Tx) (G:RG) (e:Int):Prop:=((kd=0\/ts=[]\/ts.all Aw=false)/\e=2)\/((kd≠0/\ts≠[]/\ts.all Aw=true)/\((BF kd G.N (G.nms kd) ts=none/\e=3)\/((∃p,BF kd G.N (G.nms kd) ts=some p/\4<p.2.length)/\e=4)))
structure Uw (w:Xh) (tag:Nat->RT) (base rb nb lb:Nat) (kd:Int) (ts:List Tx) (G:RG) (i:Nat) (wr:Xh) (tr:Nat->RT) (Gr:RG):Prop where
 rd:Al wr tr base rb nb lb Gr
 ext:Ah w tag wr tr
 all:BF kd G.N (G.nms kd) ts=BF kd Gr.N (Gr.nms kd) (ts.drop i)
 len:(Gr.nms kd).length=(G.nms kd).length+i
 oth:∀k,k≠kd->Gr.nms k=G.nms k
 line:Gr.line=G.line
 rest:Gr.bods=G.bods/\Gr.bV=G.bV/\Gr.B=G.B/\Gr.I=G.I/\Gr.las=G.las/\Gr.lV=G.lV
theorem Tz {w:Xh} {j:Nat->RT} {base rb E lb:Nat} {G:RG} (h:Al w j base rb E lb G) (kd:Int) (f:kd=0\/AU kd) (a:Option YZ) (n cap:Nat) (ts:List Tx) (p:ts.length=n) (H:CZ w j a ts) (K:(G.nms kd).length+n<1048576) :
 XX Tryz.prog 141 #[Ab rb,.int .u8 kd,.slice a n cap] w (Out w j base rb E lb G.line (KD kd ts G) (KE kd ts G)):=by
 unfold Ab;have C:=h.GH;have X:n<4294967281:=by omega
 by_cases r:kd=0
 ·subst r;have x:=Aa (Ah.refl w j)
  go_enter Tryz.func141,Tryz.ntmps141
  go_wp2_with fail
  refine(Gm 2 C).mono ?_;rintro e w3 ⟨rfl,rfl⟩
  exact⟨rfl,.inr ⟨j,2,rfl,x.out,.inl ⟨.inl rfl,rfl⟩⟩⟩
 ·have f:AU kd:=f.resolve_left r;have aD:(kd != 0)=true:=by simpa using r
  by_cases ad:n=0
  ·subst ad;have P:ts=[]:=List.eq_nil_of_length_eq_zero p;replace P:=Aa P;have x:=Aa (Ah.refl w j);clear p
   go_enter Tryz.func141,Tryz.ntmps141
   go_wp2_with fail
   refine(Gm 2 C).mono ?_;rintro e w3 ⟨rfl,rfl⟩
   exact⟨rfl,.inr ⟨j,2,rfl,x.out,.inl ⟨.inr (.inl P.out),rfl⟩⟩⟩
  ·have aj:(0:Int)<n:=by omega
   have O:Hid (ts≠[]):=by(unfold Hid;intro e;rw[e] at p;simp at p;omega)
   have v:=aeY a n cap ts w p H.ws X
   cases o:ts.all Aw with
   |false=>
    rw[o] at v;have x:=Aa (Ah.refl w j);replace o:=Aa o
    go_enter Tryz.func141,Tryz.ntmps141
    go_wp2_with fail
    refine v.mono ?_;rintro e Z ⟨rfl,rfl⟩
    go_wp2_with fail
    refine(Gm 2 C).mono ?_;rintro e w3 ⟨rfl,rfl⟩
    exact⟨rfl,.inr ⟨j,2,rfl,x.out,.inl ⟨.inr (.inr o.out),rfl⟩⟩⟩
   |true=>
    rw[o] at v;have c8:=h.abZ;have af:(Instr.lookup 142 (.map (some lb)) (.int .u8 kd) false).run Tryz.prog w = .ok (.pointer (some ⟨rb,Cw kd,none⟩)) w:=by
     obtain⟨m,hM⟩:=h.lists;have:=hM.look Tryz.u8Key Tryz.underlying142 (z:=.pointer none) (by kernel_rfl) kd;have e:GE rb kd=some (.pointer (some ⟨rb,Cw kd,none⟩)):=by unfold GE;rw[if_pos (show kd=118\/kd=102\/kd=109\/kd=116 from f)]
     rw[e] at this;exact this
    have S:Hid (Uw w j base rb E lb kd ts G 0 w j G):=⟨h,Ah.refl w j,by simp,rfl,λ_ _=>rfl,rfl,rfl,rfl,rfl,rfl,rfl,rfl⟩;replace o:=Aa o;replace H:=Aa H;replace p:=Aa p;replace K:=Aa K;have h1:=Aa (⟨f,r⟩:_/\_);clear f;clear h
    go_enter Tryz.func141,Tryz.ntmps141
    go_wp2_with fail
    refine v.mono ?_;rintro e Z ⟨rfl,rfl⟩
    go_wp2_with fail
    refine(Iq rb 2 _).mono ?_;rintro e w3 ⟨rfl,rfl⟩
    go_wp2_with fail
    go_loopw [30] (λQ wr=>∃(i:Nat) (y:Nat->RT) (d:RG),i<=n/\Q = .int .i64 i/\Uw w3 j base rb E lb kd ts G i wr y d) (λQ _=>n - (intOf Q).toNat)
    case atStart=>exact⟨0,j,G,Nat.zero_le _,rfl,S.out⟩
    case round=>
     clear C c8 af S v;obtain⟨i,y,d,hi,rfl,c⟩:=hrel;obtain⟨f,r⟩:=h1.out;have l:=c.rd;have V:=l.El f;have am:=l.lt l.trd (by simp);obtain⟨ra,aw,u⟩:=KT (l.rows kd f);have M:=l.GH;rw[c.line] at M
     by_cases h5:i<n
     ·obtain⟨b,au,rfl,_,cw,_⟩:=(H.out.ext c.ext) i (by have:=p.out;omega);have aB:(i:Int)<(n:Int):=by omega
      have cN:=l.Nh;have ab:=l.names.look (ts.getD i []);obtain⟨w',ar,Y,g,I,ap,T,ah,aq,tag3,F,D⟩:=l.decl f (ts.getD i []) (by have:=c.len;have:=K.out;omega);have W:ts.drop i=ts.getD i []::ts.drop (i+1):=by
       have R:i<ts.length:=by have:=p.out;omega
       rw[List.drop_eq_getElem_cons R,List.getD_eq_getElem?_getD,List.getElem?_eq_getElem R];rfl
      have q:=c.all;rw[W] at q;have U:=Aa (⟨c,q,F,D⟩:_/\_/\_/\_);clear c q F D W;generalize ts.getD i []=t at *;rw[u] at V Y ah T;replace u:=Aa u
      rcases ab with⟨s,B⟩|⟨k6,n6,e6,s,B,_⟩
      ·have ak:=QU;replace s:=Aa s;clear l f
       go_wp2_with fail
       refine(Iq rb 3 _).mono ?_;rintro e J ⟨rfl,rfl⟩
       go_wp2_with fail
       go_region
       all_goals
        go_wp2_with (at_builtin;refine Dm rfl _ _ _ rfl rfl rfl rfl T ?_)
        go_roundw
        case rel=>
         obtain⟨c,q,F,D⟩:=U.out;refine⟨i+1,tag3,_,by omega,by go_num,F,c.ext.trans D,?_,?_,λk f=>?_,c.line,c.rest⟩
         ·rw[q];have A:(d.decl kd t (.slice (some ⟨g,0,none⟩) ((d.nms kd).length+1) I)).nms kd=d.nms kd++[t]:=Cm _ _ _;rw[A]
          conv=>lhs;unfold BF
          rw[s.out]
          rfl
         ·have A:(d.decl kd t (.slice (some ⟨g,0,none⟩) ((d.nms kd).length+1) I)).nms kd=d.nms kd++[t]:=Cm _ _ _;rw[A,Xb,c.len];simp;omega
         ·have A:(d.decl kd t (.slice (some ⟨g,0,none⟩) ((d.nms kd).length+1) I)).nms k=d.nms k:=CB _ f;rw[A];exact c.oth k f
        case measure=>simp[intOf];omega
      ·replace s:=Aa s;unfold Ab at B;clear l f
       go_wp2_with fail
       refine(Gm 3 M).mono ?_;rintro e J ⟨rfl,rfl⟩;obtain⟨c,q,_⟩:=U.out;refine⟨rfl,.inr ⟨y,3,rfl,c.ext,.inr ⟨⟨r,O.out,o.out⟩,.inl ⟨?_,rfl⟩⟩⟩⟩;rw[q];unfold BF;rw[s.out]
     ·replace c:=Aa c;rw[u] at V;replace u:=Aa u;have q:Hid (BF kd G.N (G.nms kd) ts=some (d.N,d.nms kd)):=by
       have:=c.out.all;rw[List.drop_of_length_le (by have:=p.out;omega)] at this;exact this
      clear l f
      by_cases B:(d.nms kd).length<=4
      ·have aa:((d.nms kd).length:Int)<=4:=by omega
       go_wp2_with fail
       refine(Iq rb 4 _).mono ?_;rintro e J ⟨rfl,rfl⟩
       go_wp2_with fail
       go_end0
       have c:=c.out;exact .inl ⟨y,d,rfl,c.rd,c.ext,r,O.out,o.out,q.out,B,c.oth,c.line,c.rest⟩
      ·have aa:¬((d.nms kd).length:Int)<=4:=by omega
       go_wp2_with fail
       refine(Gm 4 M).mono ?_;rintro e J ⟨rfl,rfl⟩
       exact⟨rfl,.inr ⟨y,4,rfl,c.out.ext,.inr ⟨⟨r,O.out,o.out⟩,.inr ⟨⟨_,q.out,by show 4<(d.nms kd).length;omega⟩,rfl⟩⟩⟩⟩
def RG.body (G:RG) (a lm:Nat) (v:Xk):RG:={G with bods:=G.bods++[a],bV:=v,B:=BY G.B a {lm:=lm,cv:=.slice none 0 0,ins:=[],labs:=λ_=>none}}
section
variable {w w':Xh} {tag tag':Nat->RT} {base rb nb lb:Nat} {G:RG}
theorem JU {e:TypeId} {k:Int} {v:Xk} {c:List Xk} (h:Du w tag base e k v c):∃a cap,v = .slice a c.length cap:=by
 rcases h.row.2 with⟨b,d⟩|⟨g,cap,f,b,_⟩
 ·exact⟨none,0,by rw[b,d]⟩
 ·exact⟨_,_,b⟩
theorem Al.body (h:Al w tag base rb nb lb G) (U:G.bods.length<1048576) :
 ∃w1,(w.alloc (.map #[] 0)).alloc (.cells #[.slice none 0 0,.map (some w.heap.size)] 243)=w1/\∃g cap w3,(XN #[140,140] 140 #[G.bV,.slice (some ⟨w1.heap.size,0,none⟩) 1 1]).run Tryz.prog (w1.alloc (.cells #[Ab (w.heap.size+1)] 240)) = .ok (.slice (some ⟨g,0,none⟩) (G.bods.length+1) cap) w3/\
  w3.cell? ⟨rb,6,none⟩=some G.bV/\w3.frozen? ⟨rb,6,none⟩=false/\
  ∃tag',Al (w3.setCell ⟨rb,6,none⟩ (.slice (some ⟨g,0,none⟩) (G.bods.length+1) cap)) tag' base rb nb lb (G.body (w.heap.size+1) w.heap.size (.slice (some ⟨g,0,none⟩) (G.bods.length+1) cap))/\Ah w tag (w3.setCell ⟨rb,6,none⟩ (.slice (some ⟨g,0,none⟩) (G.bods.length+1) cap)) tag':=by
 have z:=h.lt h.trd (by simp);have ag:=h.g3;obtain⟨w1,l⟩:∃w1,(w.alloc (.map #[] 0)).alloc (.cells #[.slice none 0 0,.map (some w.heap.size)] 243)=w1:=⟨_,rfl⟩;have aj:w1.heap.size=w.heap.size+2:=by rw[<-l];simp
 have I:∀b,b<w.heap.size->w1.heap[b]?=w.heap[b]?:=λb d=>by
  rw[<-l,Xv _ _ b (by simp;omega),Xv _ _ b d]
 have N:AB sk w1 w.heap.size (λ_=>none) 0:=by
  have:=(AB.made (enc:=sk) w).same (w':=w1) (by rw[<-l,Xv _ _ _ (by simp)]);exact this
 have X:w1.heap[w.heap.size+1]?=some (.cells #[.slice none 0 0,.map (some w.heap.size)] 243):=by
  have:=Xi (w.alloc (.map #[] 0)) (.cells #[.slice none 0 0,.map (some w.heap.size)] 243);rw[Yr] at this;rw[<-l];exact this
 obtain⟨f,r⟩:∃f,CO (CO tag w.heap.size (.lb (w.heap.size+1))) (w.heap.size+1) (.bd (w.heap.size+1))=f:=⟨_,rfl⟩;have m:∀b,b<w.heap.size->f b=tag b:=λb d=>by rw[<-r,Da _ (by omega),Da _ (by omega)]
 have A:f w.heap.size = .lb (w.heap.size+1):=by rw[<-r,Da _ (by omega),FV]
 have D:f (w.heap.size+1) = .bd (w.heap.size+1):=by rw[<-r,FV]
 have P:∀b,w.heap.size+2<=b->f b = .o:=λb d=>by
  rw[<-r,Da _ (by omega),Da _ (by omega)]
  cases hq:tag b with
  |o=>rfl
  |_=>exact absurd (h.tlt b (by rw[hq];simp)).2 (by omega)
 have O:∀b,f b≠.o->b<w1.heap.size:=λb d=>by
  by_cases e:w.heap.size+2<=b
  ·exact absurd (P b e) d
  ·omega
 have af:Du w1 f base 240 0 G.bV (G.bods.map Ab):=h.brow.kept λb d=>by
  have p:=h.lt d (by simp)
  exact⟨I b p,(m b p).trans d⟩
 obtain⟨i0,s,ab,M,R⟩:=YN Tryz.infoBd;obtain⟨g,cap,w3,tag3,F,v,T,V,S,z3,H,u,Q⟩:=af.push Tryz.underlying140 s ab M R rfl (by omega) (Ab (w.heap.size+1)) (by simp[Zw,Ab]) 140 (by simpa using U) (by omega) O;rw[Xp] at F v;have n:∀b,b<w.heap.size->tag b≠.row 0->w3.heap[b]?=w.heap[b]?:=λb d y=>(H b (by omega) (by rw[m b d];exact y)).trans (I b d);have E:w3.heap[rb]?=w.heap[rb]?:=n rb z (by rw[h.trd];simp);have j:Ah w tag (w3.setCell ⟨rb,6,none⟩ (.slice (some ⟨g,0,none⟩) (G.bods.length+1) cap)) tag3:=by
  refine⟨T.trans (by rw[<-l];rfl),V.trans (by rw[<-l];rfl),S.trans (by rw[<-l];rfl),by simp;omega,λb d=>(u b (by omega)).trans (m b d),λb d K=>?_⟩;rw[Xo w3 ⟨rb,6,none⟩ _ b (Co K h.trd (by simp))];exact n b d (by rw[K];simp)
 have ac:w3.cell? ⟨rb,6,none⟩=some G.bV:=(Xy (w:=w) (a:=⟨rb,6,none⟩) E).trans h.Kr;refine⟨w1,l,g,cap,w3,F,ac,(YS (w:=w) (a:=⟨rb,6,none⟩) E).trans (h.Ed _),tag3,?_,j⟩;refine h.step (λx=>x = .row 0\/x = .rd) j (λb d h1 y=>?_) (λb d hn=>?_) ?_ (λk Y=>.inl ⟨rfl,rfl,?_⟩) (.inr ?_) (.inl ⟨rfl,rfl,by simp⟩) (.inl ⟨rfl,by simp⟩) (by simp) (by simp) (by simp) (λa c C=>?_) (λa i s=>.inl ⟨s,?_⟩) (λc C=>.inl C)
 ·rw[Xo w3 ⟨rb,6,none⟩ _ b (λe=>y (by rw[e];exact .inr h.trd))];exact n b d (λe=>y (.inl e))
 ·simp only[XC]
  by_cases e:b<w1.heap.size
  ·omega
  ·exact Q b (by omega) hn
 ·rw[Xj w3 rb 6 _ _ _ (E.trans h.cell)]
  rfl
 ·rcases Y with rfl|rfl|rfl|rfl<;>simp
 ·have Z:(G.body (w.heap.size+1) w.heap.size (.slice (some ⟨g,0,none⟩) (G.bods.length+1) cap)).bods.map Ab=G.bods.map Ab++[Ab (w.heap.size+1)]:=by simp[RG.body]
  rw[Z];refine⟨BA v.row λx j=>?_,v.tg⟩;exact Xo w3 ⟨rb,6,none⟩ _ x (Co (v.tg x j) ((u rb (by omega)).trans ((m rb z).trans h.trd)) (by simp))
 ·have q:BY G.B (w.heap.size+1) {lm:=w.heap.size,cv:=.slice none 0 0,ins:=[],labs:=λ_=>none} a=some c:=C;unfold BY at q
  split at q
  ·rename_i e;subst e
   cases q
   right;have J:∀x,f x≠.rd->x<w1.heap.size->f x≠.row 0->(w3.setCell ⟨rb,6,none⟩ (.slice (some ⟨g,0,none⟩) (G.bods.length+1) cap)).heap[x]?=w1.heap[x]?:=λx j p W=>by
    rw[Xo w3 ⟨rb,6,none⟩ _ x (λe=>j (by have e:x=rb:=e;rw[e,m rb z];exact h.trd))];exact H x p W
   refine⟨(J _ (by rw[D];simp) (by omega) (by rw[D];simp)).trans X,XG _ _ _ _,(λx j=>by cases j),⟨λ_=>none,0,N.same (J _ (by rw[A];simp) (by omega) (by rw[A];simp)),λt=>rfl⟩,(u _ (by omega)).trans D,(u _ (by show w.heap.size<=_;omega)).trans A⟩
  ·exact .inl ⟨q,by simp,by simp,by simp⟩
 ·have:=h.ins a i s;rw[Xo w3 ⟨rb,6,none⟩ _ a (Co this.2 h.trd (by simp))];exact n a (h.lt this.2 (by simp)) (by rw[this.2];simp)
end
def OG (n0:Nat) (ts:List Tx) (G G':RG):Prop:=ts.length=1/\∃G1 a lm v,KD 116 ts G G1/\n0<=a/\G'=G1.body a lm v
def Uy (ts:List Tx) (G:RG) (e:Int):Prop:=(ts.length≠1/\e=2)\/(ts.length=1/\KE 116 ts G e)
theorem aeO {w:Xh} {f:Nat->RT} {base rb u lb:Nat} {G:RG} (h:Al w f base rb u lb G) (a:Option YZ) (n cap:Nat) (ts:List Tx) (d:ts.length=n) (s:CZ w f a ts) (q:(G.nms 116).length+n<1048576) (D:G.bods.length<1048576) :
 XX Tryz.prog 140 #[Ab rb,.slice a n cap] w (Out w f base rb u lb G.line (OG w.heap.size ts G) (Uy ts G)):=by
 have B:=h.GH;have t:=Tz h 116 (.inr (.inr (.inr (.inr rfl)))) a n cap ts d s q;have z:=Aa (Ah.refl w f);unfold Ab at t |-;replace d:=Aa d
 by_cases C:n=1
 ·subst C;clear h s q
  go_enter Tryz.func140,Tryz.ntmps140
  go_wp2_with fail
  refine(Iq rb 2 _).mono ?_;rintro e w1 ⟨rfl,rfl⟩
  go_wp2_with fail
  refine t.mono ?_;rintro e l (⟨v,y,rfl,c,b,j⟩|⟨v,E,rfl,b,H⟩)
  ·obtain⟨w3,k,g,c3,K,i,c4,J,A,m,o⟩:=c.body (by rw[j.2.2.2.2.2.2.2.1];exact D);have F:=Aa (⟨j,m,o,b⟩:_/\_/\_/\_);have x:=c.Kr;obtain⟨P,O,p⟩:=JU c.brow;rw[Xp] at p;have I:=c.lt c.trd (by simp);rw[p] at x i c4;have M:=@run_makeMap Tryz.prog;replace k:=Aa k;replace p:=Aa p;have N:Hid (w3.heap.size=l.heap.size+2):=by unfold Hid;rw[<-k.out];simp
   rw[<-k.out] at i;unfold Ab at i;have r:((l.alloc (.map #[] 0)).alloc (.cells #[.slice none 0 0,.map (some l.heap.size)] 243)).heap.size=l.heap.size+1+1:=by simp
   rw[r] at i;replace r:=Aa r;clear c j b m o
   go_wp2_with (at_builtin;refine Dm rfl _ _ _ rfl rfl rfl rfl i ?_)
   go_end0
   obtain⟨j,m,o,b⟩:=F.out;exact .inl ⟨A,_,rfl,m,b.trans o,d.out,y,_,_,_,j,by have:=b.size;omega,rfl⟩
  ·exact⟨rfl,.inr ⟨v,E,rfl,b,.inr ⟨d.out,H⟩⟩⟩
 ·have Q:((n:Int) == 1)=false:=by simp;omega
  clear h s q t
  go_enter Tryz.func140,Tryz.ntmps140
  go_wp2_with fail
  refine(Gm 2 B).mono ?_;rintro e w1 ⟨rfl,rfl⟩
  exact⟨rfl,.inr ⟨f,2,rfl,z.out,.inl ⟨by have:=d.out;omega,rfl⟩⟩⟩
def RG.later (G:RG) (c:Cc) (v:Xk):RG:={G with las:=G.las++[c],lV:=v}
section
variable {w w':Xh} {tag tag':Nat->RT} {base rb nb lb:Nat} {G:RG}
theorem Tb (w:Xh) (A B C D E:Obj):∃a,((((w.alloc A).alloc B).alloc C).alloc D).alloc E=a/\a.heap.size=w.heap.size+5/\(∀b,b<w.heap.size->a.heap[b]?=w.heap[b]?)/\
 a.heap[w.heap.size]?=some A/\a.heap[w.heap.size+1]?=some B/\a.heap[w.heap.size+1+1]?=some C/\a.heap[w.heap.size+1+1+1]?=some D/\a.heap[w.heap.size+1+1+1+1]?=some E/\a.os=w.os/\a.tape=w.tape/\a.output=w.output:=by
 obtain⟨w1,g⟩:∃x,w.alloc A=x:=⟨_,rfl⟩;obtain⟨e,j⟩:∃x,w1.alloc B=x:=⟨_,rfl⟩;obtain⟨w3,h⟩:∃x,e.alloc C=x:=⟨_,rfl⟩;obtain⟨d,f⟩:∃x,w3.alloc D=x:=⟨_,rfl⟩;obtain⟨o,i⟩:∃x,d.alloc E=x:=⟨_,rfl⟩;rw[g,j,h,f,i];have z1:w1.heap.size=w.heap.size+1:=by rw[<-g];simp
 have z2:e.heap.size=w.heap.size+1+1:=by rw[<-j,Yr,z1]
 have z3:w3.heap.size=w.heap.size+1+1+1:=by rw[<-h,Yr,z2]
 have z4:d.heap.size=w.heap.size+1+1+1+1:=by rw[<-f,Yr,z3]
 have q:o.heap.size=w.heap.size+5:=by rw[<-i,Yr,z4]
 have t:w1.heap[w.heap.size]?=some A:=by rw[<-g];exact Xi w A
 have z:e.heap[w.heap.size+1]?=some B:=by rw[<-j,<-z1];exact Xi w1 B
 have s:w3.heap[w.heap.size+1+1]?=some C:=by rw[<-h,<-z2];exact Xi e C
 have u:d.heap[w.heap.size+1+1+1]?=some D:=by rw[<-f,<-z3];exact Xi w3 D
 have y:o.heap[w.heap.size+1+1+1+1]?=some E:=by rw[<-i,<-z4];exact Xi d _
 have r:∀k,k<w.heap.size->w1.heap[k]?=w.heap[k]?:=λk c=>by rw[<-g];exact Xv w A k c
 have p:∀k,k<w1.heap.size->e.heap[k]?=w1.heap[k]?:=λk c=>by rw[<-j];exact Xv w1 B k c
 have n:∀k,k<e.heap.size->w3.heap[k]?=e.heap[k]?:=λk c=>by rw[<-h];exact Xv e C k c
 have m:∀k,k<w3.heap.size->d.heap[k]?=w3.heap[k]?:=λk c=>by rw[<-f];exact Xv w3 D k c
 have l:∀k,k<d.heap.size->o.heap[k]?=d.heap[k]?:=λk c=>by rw[<-i];exact Xv d _ k c
 refine⟨_,rfl,by simp[q],λb v=>?_,?_,?_,?_,?_,?_,?_,?_,?_⟩
 ·rw[l b (by omega),m b (by omega),n b (by omega),p b (by omega),r b v]
 ·rw[l _ (by omega),m _ (by omega),n _ (by omega),p _ (by omega)];exact t
 ·rw[l _ (by omega),m _ (by omega),n _ (by omega)];exact z
 ·rw[l _ (by omega),m _ (by omega)];exact s
 ·rw[l _ (by omega)];exact u
 ·exact y
 ·rw[<-i,<-f,<-h,<-j,<-g];rfl
 ·rw[<-i,<-f,<-h,<-j,<-g];rfl
 ·rw[<-i,<-f,<-h,<-j,<-g];rfl
theorem Al.later (h:Al w tag base rb nb lb G) (ad:G.las.length<1048576) (v z:Nat) (kd:Int) (t:Tx) :
 ∃j,((((w.alloc (.cells #[Ab v] 244)).alloc (.cells #[.map (some z)] 141)).alloc (.cells #[.int .u8 kd] 5)).alloc (.cells #[.string (bs t)] 9)).alloc (.cells #[.int .i64 G.line] 3)=j/\j.heap.size=w.heap.size+1+1+1+1+1/\j.cell? ⟨rb,9,none⟩=some G.lV/\
  ∃g cap w3,(XN #[143,143] 143 #[G.lV,.slice (some ⟨j.heap.size,0,none⟩) 1 1]).run Tryz.prog (j.alloc (.cells #[.func (.func 228) #[] #[Ab (w.heap.size+1),Ab (w.heap.size+1+1),Ab (w.heap.size+1+1+1),Ab (w.heap.size+1+1+1+1),Ab w.heap.size]] 1)) = .ok (.slice (some ⟨g,0,none⟩) (G.las.length+1) cap) w3/\
  w3.cell? ⟨rb,9,none⟩=some G.lV/\w3.frozen? ⟨rb,9,none⟩=false/\
  ∃tag',Al (w3.setCell ⟨rb,9,none⟩ (.slice (some ⟨g,0,none⟩) (G.las.length+1) cap)) tag' base rb nb lb (G.later ⟨v,z,kd,t,G.line,w.heap.size+1,w.heap.size+1+1,w.heap.size+1+1+1,w.heap.size+1+1+1+1,w.heap.size⟩ (.slice (some ⟨g,0,none⟩) (G.las.length+1) cap))/\Ah w tag (w3.setCell ⟨rb,9,none⟩ (.slice (some ⟨g,0,none⟩) (G.las.length+1) cap)) tag':=by
 have A:=h.lt h.trd (by simp);have ay:=h.g3;obtain⟨j,ap,aB,E,d4,d0,d1,d2,d3,o5,t5,p5⟩:=Tb w (.cells #[Ab v] 244) (.cells #[.map (some z)] 141) (.cells #[.int .u8 kd] 5) (.cells #[.string (bs t)] 9) (.cells #[.int .i64 G.line] 3);obtain⟨m,C⟩:∃m:Nat->RT,(λb=>if w.heap.size<=b/\b<w.heap.size+5 then RT.clo else tag b)=m:=⟨_,rfl⟩;have u:∀b,b<w.heap.size->m b=tag b:=λb f=>by rw[<-C];exact if_neg (by omega)
 have I:∀b,w.heap.size<=b->b<w.heap.size+5->m b = .clo:=λb f ag=>by rw[<-C];exact if_pos ⟨f,ag⟩
 have W:∀b,w.heap.size+5<=b->m b = .o:=λb f=>by
  rw[<-C];have e:(if w.heap.size<=b/\b<w.heap.size+5 then RT.clo else tag b)=tag b:=if_neg (by omega);show (if w.heap.size<=b/\b<w.heap.size+5 then RT.clo else tag b) = .o;rw[e]
  cases hq:tag b with
  |o=>rfl
  |_=>exact absurd (h.tlt b (by rw[hq];simp)).2 (by omega)
 have V:∀b,m b≠.o->b<j.heap.size:=λb f=>by
  by_cases e:w.heap.size+5<=b
  ·exact absurd (W b e) f
  ·omega
 have aw:Du j m base 1 1 G.lV (G.las.map Cc.val):=h.lrow.kept λb f=>by
  have K:=h.lt f (by simp)
  exact⟨E b K,(u b K).trans f⟩
 obtain⟨c,B⟩:∃c:Cc,(⟨v,z,kd,t,G.line,w.heap.size+1,w.heap.size+1+1,w.heap.size+1+1+1,w.heap.size+1+1+1+1,w.heap.size⟩:Cc)=c:=⟨_,rfl⟩;have O:c.val = .func (.func 228) #[] #[Ab (w.heap.size+1),Ab (w.heap.size+1+1),Ab (w.heap.size+1+1+1),Ab (w.heap.size+1+1+1+1),Ab w.heap.size]:=by rw[<-B];rfl
 rw[B,<-O];obtain⟨i0,r,aq,U,Y⟩:=YN Tryz.infoFn;obtain⟨g,cap,w3,tag3,H,y,o3,t3,Z,z3,M,D,X⟩:=aw.push Tryz.underlying143 r aq U Y rfl (by omega) c.val (by rw[O];rfl) 143 (by simpa using ad) (by omega) V;rw[Xp] at H y;have q:∀b,b<w.heap.size->tag b≠.row 1->w3.heap[b]?=w.heap[b]?:=λb f s=>(M b (by omega) (by rw[u b f];exact s)).trans (E b f);have F:w3.heap[rb]?=w.heap[rb]?:=q rb A (by rw[h.trd];simp);have l:Ah w tag (w3.setCell ⟨rb,9,none⟩ (.slice (some ⟨g,0,none⟩) (G.las.length+1) cap)) tag3:=by
  refine⟨o3.trans o5,t3.trans t5,Z.trans p5,by simp;omega,λb f=>(D b (by omega)).trans (u b f),λb f Q=>?_⟩;rw[Xo w3 ⟨rb,9,none⟩ _ b (Co Q h.trd (by simp))];exact q b f (by rw[Q];simp)
 have aj:j.cell? ⟨rb,9,none⟩=some G.lV:=(Xy (w:=w) (a:=⟨rb,9,none⟩) (E rb A)).trans h.Ny;have ar:w3.cell? ⟨rb,9,none⟩=some G.lV:=(Xy (w:=w) (a:=⟨rb,9,none⟩) F).trans h.Ny;refine⟨j,ap,by omega,aj,g,cap,w3,H,ar,(YS (w:=w) (a:=⟨rb,9,none⟩) F).trans (h.Ed _),tag3,?_,l⟩;refine h.step (λx=>x = .row 1\/x = .rd) l (λb f h1 s=>?_) (λb f hn=>?_) ?_ (λk am=>.inl ⟨rfl,rfl,?_⟩) (.inl ⟨rfl,rfl,by simp⟩) (.inr ?_) (.inl ⟨rfl,by simp⟩) (by simp) (by simp) (by simp) (λa d n=>.inl ⟨n,by simp,by simp,by simp⟩) (λa i r=>.inl ⟨r,?_⟩) (λd n=>?_)
 ·rw[Xo w3 ⟨rb,9,none⟩ _ b (λe=>s (by rw[e];exact .inr h.trd))];exact q b f (λe=>s (.inl e))
 ·simp only[XC]
  by_cases e:b<j.heap.size
  ·omega
  ·exact X b (by omega) hn
 ·rw[Xj w3 rb 9 _ _ _ (F.trans h.cell)]
  rfl
 ·rcases am with rfl|rfl|rfl|rfl<;>simp
 ·have e1:(G.later c (.slice (some ⟨g,0,none⟩) (G.las.length+1) cap)).las.map Cc.val=G.las.map Cc.val++[c.val]:=by simp[RG.later]
  rw[e1];refine⟨BA y.row λx l=>?_,y.tg⟩;exact Xo w3 ⟨rb,9,none⟩ _ x (Co (y.tg x l) ((D rb (by omega)).trans ((u rb A).trans h.trd)) (by simp))
 ·have:=h.ins a i r;rw[Xo w3 ⟨rb,9,none⟩ _ a (Co this.2 h.trd (by simp))];exact q a (h.lt this.2 (by simp)) (by rw[this.2];simp)
 ·have n:d∈G.las++[c]:=n
  rcases List.mem_append.1 n with e|e
  ·exact .inl e
  ·right
   obtain rfl:=List.mem_singleton.1 e
   have p:∀x,w.heap.size<=x->x<w.heap.size+5->(w3.setCell ⟨rb,9,none⟩ (.slice (some ⟨g,0,none⟩) (G.las.length+1) cap)).heap[x]?=j.heap[x]?/\tag3 x = .clo:=λx l R=>by
    rw[Xo w3 ⟨rb,9,none⟩ _ x (by show x≠rb;omega)]
    exact⟨M x (by omega) (by rw[I x l R];simp),(D x (by omega)).trans (I x l R)⟩
   rw[<-B];have P:=p (w.heap.size+1) (by omega) (by omega);have T:=p (w.heap.size+1+1) (by omega) (by omega);have S:=p (w.heap.size+1+1+1) (by omega) (by omega);have N:=p (w.heap.size+1+1+1+1) (by omega) (by omega);have J:=p w.heap.size (by omega) (by omega)
   exact⟨P.1.trans d0,T.1.trans d1,S.1.trans d2,N.1.trans d3,J.1.trans d4,P.2,T.2,S.2,N.2,J.2⟩
end
theorem aeA (w:Xh) (A B C D:Obj) {b:Nat} (i:Nat) (h:b<w.heap.size):((((w.alloc A).alloc B).alloc C).alloc D).cell? ⟨b,i,none⟩=w.cell? ⟨b,i,none⟩:=by
 refine Xy (w:=w) (a:=⟨b,i,none⟩) ?_;show ((((w.alloc A).alloc B).alloc C).alloc D).heap[b]?=w.heap[b]?;rw[Xv _ _ b (by simp;omega),Xv _ _ b (by simp;omega),Xv _ _ b (by simp;omega),Xv _ _ b h]
def KC (ia tb:Nat) (kd:Int) (t:Tx) (G G':RG):Prop:=∃c v,c.ia=ia/\c.tb=tb/\c.kd=kd/\c.nm=t/\c.ln=G.line/\G'=G.later c v
theorem Te {w:Xh} {k:Nat->RT} {base rb m lb:Nat} {G:RG} (h:Al w k base rb m lb G) (q:G.las.length<1048576) (b d:Nat) (kd:Int) (t:Tx) :
 XX Tryz.prog 214 #[Ab rb,Ab b,.map (some d),.int .u8 kd,.string (bs t)] w λs w'=>s = .returned (.tuple #[])/\∃a o,Al w' a base rb m lb o/\Ah w k w' a/\KC b d kd t G o:=by
 have r:=h.GH;have p:=h.lt h.trd (by simp);have v:=(aeA w (.cells #[Ab b] 244) (.cells #[.map (some d)] 141) (.cells #[.int .u8 kd] 5) (.cells #[.string (bs t)] 9) 0 p).trans r;have u:∀(fn:Fn) (first cap:Array Xk) (w:Xh),(Instr.makeFunc fn first cap).run Tryz.prog w = .ok (.func fn first cap) w:=λ_ _ _ _=>rfl;obtain⟨z,f,n,c5,g,cap,w3,e,c3,A,a,j,i⟩:=h.later q b d kd t;obtain⟨y,x,c⟩:=JU h.lrow;rw[Xp] at c;rw[c] at c5 e c3;have l:=Aa (⟨j,i⟩:_/\_);replace c:=Aa c;unfold Ab at *;rw[n,<-f] at e;rw[<-f] at c5;clear h j i n f
 go_enter Tryz.func214,Tryz.ntmps214
 go_wp2_with (at_builtin;refine Dm rfl _ _ _ rfl rfl rfl rfl e ?_)
 go_end0
 exact⟨rfl,a,_,l.out.1,l.out.2,_,_,rfl,rfl,rfl,rfl,rfl,rfl⟩
end Go.Proofs.YtdcacoifehkioaaGreatDoor
namespace Go.Proofs
open Go.Shelf
shelf_lay Lays.n172 Nm 172 at Tryz as Tryz.lays172
end Go.Proofs
namespace Go.Proofs.YtdcacoifehkioaaGreatDoor
open Go.RowKit Go.Shelf Go.Proofs.Cod
def Dp (t:Tx):Nat:=t.foldl (λn c=>n*10+(c.toNat - 48)) 0
theorem ad9 (t:Tx) (h:t.all Bn=true) (a:Nat):Lib.decFrom a t=some (t.foldl (λn c=>n*10+(c.toNat - 48)) a):=by
 induction t generalizing a with
 |nil=>rfl
 |cons c t d=>
  simp only[List.all_cons,Ym] at h;have b:Lib.digitVal c=some (c.toNat - 48):=by
   have e:=h.1;simp[Bn] at e;unfold Lib.digitVal;rw[if_pos (by omega)]
  simp only[Lib.decFrom,b,List.foldl_cons];exact d h.2 _
theorem aeV {t:Tx} (h:CK t=true):Lib.atoi t=some (Dp t:Int)/\t.length<=3:=by
 simp only[CK,Ym,decide_eq_true_eq] at h;obtain⟨⟨d,f⟩,a⟩:=h;refine⟨?_,f⟩
 match t,d,a with
 |c::r,_,a=>
  have b:Bn c=true:=by simp only[List.all_cons,Ym] at a;exact a.1
  simp[Bn] at b;have n1:¬(c=45):=λe=>by subst e;revert b;decide
  have n2:¬(c=43):=λe=>by subst e;revert b;decide
  simp only[Lib.atoi,Lib.decNat,List.isEmpty_cons];simp only[beq_iff_eq,n1,n2,if_false,Bool.false_eq_true];rw[ad9 _ a];rfl
def Bg (t:Tx):Nat:=if As t then De t else Dp t
theorem TZ (t:Tx) (h:(As t||CK t)=true) (w:Xh):XX Tryz.prog 213 #[.string (bs t)] w λe w'=>e = .returned (.agg #[.bool (As t),.int .i64 (Bg t)])/\Below w.heap.size w w':=by
 have g:Hid (∀x,Below w.heap.size w (w.alloc x)):=λx=>(Xq _ _).alloc (Xd _) _
 cases b:As t with
 |true=>
  have c:Hid (Bg t=De t):=by unfold Hid Bg;rw[if_pos b]
  go_enter Tryz.func213,Tryz.ntmps213
  go_wp2_with fail
  refine(Kn t _).mono ?_;rintro e l ⟨rfl,rfl⟩;rw[b]
  go_wp2_with fail
  refine(QH t b _).mono ?_;rintro e w3 ⟨rfl,rfl⟩
  go_wp2_with fail
  exact XJ (results_cell_row rfl _ _ w.heap.size 106 _ (0,0) _ rfl (Xi w _) Tryz.underlying106 rfl (by kernel_rfl)) rfl ⟨by rw[c.out],g.out _⟩
 |false=>
  rw[b,Bool.false_or] at h;have c:Hid (Bg t=Dp t):=by unfold Hid Bg;rw[b];rfl
  obtain⟨i,k⟩:=aeV h;have d:(bs t).data.toList=t:=by simp[bs]
  have j:=Aa (λW=>Any.strconv_Atoi Tryz.lays172 (bs t) (Dp t) (by rw[Ba];omega) (by rw[d];exact i) W);clear d i k
  go_enter Tryz.func213,Tryz.ntmps213
  go_wp2_with fail
  refine(Kn t _).mono ?_;rintro e l ⟨rfl,rfl⟩;rw[b]
  go_wp2_with fail
  refine(j.out _).mono ?_;rintro e w3 ⟨rfl,s,f⟩;obtain⟨a,m⟩:w3.heap[w.heap.size]?=some (.cells #[.bool false,.int .i64 0] 106)/\Below w.heap.size w w3:=by
   rw[f];refine⟨(Lib.bytesWorld_at_old _ _ _ _ (by simp)).trans (Xi w _),(g.out _).trans (Joins.below_bytesWorld _ _ _ _ (by simp))⟩
  clear f;have o:w.heap.size<w3.heap.size:=(Xa.1 a).1;have c0:w3.cell? ⟨w.heap.size,0,none⟩=some (.bool false):=by simp[Xg,a]
  have c1:w3.cell? ⟨w.heap.size,1,none⟩=some (.int .i64 0):=by simp[Xg,a]
  have p:w3.frozen? ⟨w.heap.size,0,none⟩=false:=by simp[XP,a]
  have q:w3.frozen? ⟨w.heap.size,1,none⟩=false:=by simp[XP,a]
  have n:=Aa a;clear a
  go_wp2_with fail
  refine XJ (results_cell_row rfl _ _ w.heap.size 106 _ (0,0) _ rfl (Xj _ _ 1 _ _ _ (Xj _ _ 0 _ _ _ n.out)) Tryz.underlying106 rfl (by kernel_rfl)) rfl ⟨by rw[c.out];rfl,?_⟩
  exact(m.setCell (Xd _) _).setCell (Xd _) _
end Go.Proofs.YtdcacoifehkioaaGreatDoor
