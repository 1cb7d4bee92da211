import Derived.Test.YtdcacoifehkioaaGreatDoorExR2
import Derived.Maps.AppendAt
import Derived.Laws.AppendOwnNone
import Derived.OrdersIn
import Derived.TacticsIn
import Derived.Deep.RegionHeld
import Derived.Test.YtdcacoifehkioaaGreatDoorExR0
import Derived.Shelf.Lay
import Derived.Laws.Rows
import Derived.Shelf.Strconv.Atoi
import Derived.Lib.SmallJoins
open Go renaming Value->Xj,World->Xg,Calls->X3,callsIn_wide->XT,undef->X1,info_parts->Y2,heap_setCell_same->Xk,Addr->Y7,bodyPost_ret->XN
open Go.World renaming alloc_heap_new->Xi,cell?->Xh,frozen?->XE,ownsRow_nil->Xy,block_lt_of_cell?->Yx,cell?_of_block->Xr,frozen?_of_block->YI,putObj_heap_other->X9,size_setCell->XG,size_alloc->Yj
open Go.RowKit.Below renaming heap_alloc->Xq,refl->Xo,heap_setCell->Xl
open Nat renaming le_refl->Xf
open List renaming length_take->X2,length_append->Xd,map_append->XH,length_map->Xm
open Array renaming getElem?_eq_some_iff->Xa
open Go.Value renaming oneCell'->Zc,int->YB
open Go.Region renaming ready->Zq,wanted->ZA
open Go.Builtin renaming append_->XM
open Bool renaming and_eq_true->Yh
set_option maxHeartbeats 1000000
set_option maxRecDepth 100000
set_option linter.unusedVariables false
set_option linter.unusedSimpArgs false
namespace Go.Proofs.YtdcacoifehkioaaGreatDoor
open Go.RowKit Go.Shelf Go.Proofs.Cod Go.Lib
attribute [local go_sem] Oper.semAt_some
def Cf (t:Tx):List Tx:=(Ap 32 (Bu 35 t)).filter (λp => !p.isEmpty)
def Ih (p:Tx):Xj:=.string (bs p)
theorem TA (t:Tx) (c:UInt8) (w:Xg):X3 Tryz.prog 137 #[.string (bs t),.string (bs [c]),.int .i64 0] w λe w'=>
 e = .returned (.func (.func 176) #[] #[.pointer (some ⟨w.heap.size+1,0,none⟩),.pointer (some ⟨w.heap.size,0,none⟩),.pointer (some ⟨w.heap.size+2,0,none⟩)])/\w'=((w.alloc (.cells #[.string (bs t)] 9)).alloc (.cells #[.string (bs [c])] 9)).alloc (.cells #[.int .i64 0] 3):=by
 go_enter Tryz.func137,Tryz.ntmps137
 go_wp2
 go_ret
 exact⟨rfl,rfl⟩
theorem NU (t:Tx) (c:UInt8) (w:Xg):X3 Tryz.prog 105 #[.string (bs t),.string (bs [c])] w λe w'=>
 e = .returned (.func (.func 176) #[] #[.pointer (some ⟨w.heap.size+1,0,none⟩),.pointer (some ⟨w.heap.size,0,none⟩),.pointer (some ⟨w.heap.size+2,0,none⟩)])/\w'=((w.alloc (.cells #[.string (bs t)] 9)).alloc (.cells #[.string (bs [c])] 9)).alloc (.cells #[.int .i64 0] 3):=by
 go_enter Tryz.func105,Tryz.ntmps105
 go_wp2_with fail
 refine(TA t c _).mono ?_;rintro e w1 ⟨rfl,rfl⟩
 go_wp2_with fail
 go_ret
 exact⟨rfl,rfl⟩
theorem aa4 (w:Xg) (A B C D:Obj):((((w.alloc A).alloc B).alloc C).alloc D).heap[w.heap.size]?=some A/\((((w.alloc A).alloc B).alloc C).alloc D).heap[w.heap.size+1]?=some B/\((((w.alloc A).alloc B).alloc C).alloc D).heap[w.heap.size+1+1]?=some C/\((((w.alloc A).alloc B).alloc C).alloc D).heap[w.heap.size+1+2]?=some D:=by
 obtain⟨w1,f⟩:∃x,w.alloc A=x:=⟨_,rfl⟩;obtain⟨a,d⟩:∃x,w1.alloc B=x:=⟨_,rfl⟩;obtain⟨w3,c⟩:∃x,a.alloc C=x:=⟨_,rfl⟩;have i:w1.heap.size=w.heap.size+1:=by rw[<-f];simp
 have l:a.heap.size=w.heap.size+1+1:=by rw[<-d];simp;omega
 have j:w3.heap.size=w.heap.size+1+2:=by rw[<-c];simp;omega
 rw[f,d,c];have n:w1.heap[w.heap.size]?=some A:=by rw[<-f];exact Xi w A
 have h:a.heap[w.heap.size+1]?=some B:=by rw[<-d,<-i];exact Xi w1 B
 have m:w3.heap[w.heap.size+1+1]?=some C:=by rw[<-c,<-l];exact Xi a C
 have o:∀k,k<w1.heap.size->a.heap[k]?=w1.heap[k]?:=λk b=>by rw[<-d];exact Xq w1 B k b
 have g:∀k,k<a.heap.size->w3.heap[k]?=a.heap[k]?:=λk b=>by rw[<-c];exact Xq a C k b
 have e:∀k,k<w3.heap.size->(w3.alloc D).heap[k]?=w3.heap[k]?:=λk b=>Xq w3 D k b;refine⟨?_,?_,?_,?_⟩
 ·rw[e _ (by omega),g _ (by omega),o _ (by omega)];exact n
 ·rw[e _ (by omega),g _ (by omega)];exact h
 ·rw[e _ (by omega)];exact m
 ·rw[<-j];exact Xi w3 D
theorem Ku (c:UInt8) (t:Tx):(Bu c t).length<=t.length:=by
 unfold Bu
 split
 ·exact Xf _
 ·rw[X2];omega
theorem Qq0 (c:UInt8) (t:Tx):(Ap c t).length<=t.length+1:=by
 induction t with
 |nil=>simp[Ap]
 |cons b l a=>
  unfold Ap
  split
  ·simp;omega
  ·cases h:Ap c l with
   |nil=>simp
   |cons p ps=>rw[h] at a;simp at a |-;omega
theorem MM {w w':Xg} {base e a n:Nat} {v:Xj} {d:List Xj} (h:w.ownsRow base e a v n d) (j:∀g,base<=g->g<w.heap.size->w'.heap[g]?=w.heap[g]?):w'.ownsRow base e a v n d:=by
 refine⟨h.1,?_⟩
 rcases h.2 with f|⟨g,cap,i,rfl,c,b,rest⟩
 ·exact .inl f
 ·exact .inr ⟨g,cap,i,rfl,c,(j g c (Xa.1 b).1).trans b,rest⟩
theorem acd {w:Xg} {base c e b n:Nat} {v:Xj} {a:List Xj} (h:w.ownsRow base e b v n a) (j:c<=base):w.ownsRow c e b v n a:=by
 refine⟨h.1,?_⟩
 rcases h.2 with f|⟨g,cap,i,d,k,rest⟩
 ·exact .inl f
 ·exact .inr ⟨g,cap,i,d,by omega,rest⟩
theorem Tryz.infoS:(Tryz.prog.info? 9).map (λi=>(i.zero,i.size,i.bytes))=some (some (.string ByteArray.empty),1,16):=by kernel_rfl
theorem Ta {l:List Tx} {i:Nat} {p:Tx} (h:l[i]?=some p):(l.take (i+1)).filter (λp => !p.isEmpty)=(l.take i).filter (λp => !p.isEmpty)++if p.isEmpty then [] else [p]:=by
 obtain⟨b,rfl⟩:=List.getElem?_eq_some_iff.1 h;rw[List.take_succ_eq_append_getElem b,List.filter_append]
 congr 1
 cases a:l[i].isEmpty<;>simp[a]
theorem Ty (t:Tx) (w:Xg) (au:t.length<1048576):X3 Tryz.prog 106 #[.string (bs t)] w λe w'=>∃v,e = .returned v/\w'.ownsRow w.heap.size 9 1 v (Cf t).length ((Cf t).map Ih)/\Below w.heap.size w w':=by
 refine(XT (n:=6)).1 ?_;refine RC Tryz.func106 rfl trivial ?_ rfl;simp only[Tryz.ntmps106,List.size_toArray,List.length_cons,List.length_nil,Nat.reduceAdd,Nat.reduceSub,Array.replicate_succ,Array.replicate_zero,List.push_toArray,List.append_toArray,List.nil_append,List.cons_append];refine FT (FU ?_)
 gi_wp2
 refine FT (FU ?_)
 gi_wp2_with (refine⟨trivial,?_⟩;gi_at_call 138;refine(XT.2 (abU t 35 _ (by omega))).mono ?_;rintro e w1 ⟨⟨y,f,rfl⟩,x⟩)
 refine FT (FU ?_)
 gi_wp2
 refine FT (FT (FU ?_))
 gi_wp2_with (refine⟨trivial,?_⟩;gi_at_call 105;refine(XT.2 (NU (Bu 35 t) 32 _)).mono ?_;rintro e w2 ⟨rfl,rfl⟩)
 refine Nk ?_;obtain⟨d,s⟩:∃d,(((w1.alloc (.cells #[.slice none 0 0] 22)).alloc (.cells #[.string (bs (Bu 35 t))] 9)).alloc (.cells #[.string (bs [32])] 9)).alloc (.cells #[.int .i64 0] 3)=d:=⟨_,rfl⟩;have ab:d.heap.size=w1.heap.size+4:=by rw[<-s];simp
 rw[s];have N:Below w1.heap.size w1 d:=by rw[<-s];exact((((Xo _ _).alloc (Xf _) _).alloc (by simp) _).alloc (by simp;omega) _).alloc (by simp;omega) _
 have ah:Below w.heap.size w d:=x.trans (N.mono x.size);have o:=aa4 w1 (.cells #[.slice none 0 0] 22) (.cells #[.string (bs (Bu 35 t))] 9) (.cells #[.string (bs [32])] 9) (.cells #[.int .i64 0] 3);rw[s] at o;obtain⟨I,E,V,X⟩:=o;clear s;refine Nj (fnd:=Tryz.f106) Tryz.func106 (w1.heap.size+1+1) (w1.heap.size+1) (w1.heap.size+1+2) 32 (Bu 35 t) rfl (by have:=Ku 35 t;omega) (by simp[Xh,V]) (by simp[Xh,E]) (by simp[Xh,X]) (by simp[XE,E]) (by omega) (by omega)
  (λi W=>∃v,W.cell? ⟨w1.heap.size,0,none⟩=some v/\W.frozen? ⟨w1.heap.size,0,none⟩=false/\W.ownsRow (d.heap.size+2) 9 1 v (((Ap 32 (Bu 35 t)).take i).filter (λp => !p.isEmpty)).length ((((Ap 32 (Bu 35 t)).take i).filter (λp => !p.isEmpty)).map Ih)/\Below w.heap.size w W)
  (λ_ _=>False) ?free ?start (λp=>{tmps := #[.string (bs t),X1,.slice none 0 0,.string (bs (Bu 35 t)),.string (bs y),.bool f,.pointer (some ⟨w1.heap.size,0,none⟩),.string (bs p),.tuple #[.string (bs (Bu 35 t)),.string (bs y),.bool f],.string (bs t),.tuple #[.string (bs (Bu 35 t)),.string (bs y),.bool f],.string (bs (Bu 35 t)),.string (bs y),.bool f,.string (bs (Bu 35 t)),.func (.func 176) #[] #[.pointer (some ⟨w1.heap.size+1+1,0,none⟩),.pointer (some ⟨w1.heap.size+1,0,none⟩),.pointer (some ⟨w1.heap.size+1+2,0,none⟩)],.string (bs p),X1,X1,X1,X1,X1,X1,X1],defers:=[]}) ?assign ?body ?done ?panic
 case assign=>
  intro l p W K hK
  gi_wp2
  exact hK
 case start=>exact⟨_,by simp[Xh,I],by simp[XE,I],Xy _ _ _ _,ah⟩
 case panic=>intro aC W h _;exact h.elim
 case free=>
  rintro i W Y ⟨v,q,r,j,c⟩ C P O ht B;have hl:w1.heap.size<W.heap.size:=Yx W ⟨w1.heap.size,0,none⟩ q;have u:Y.heap[w1.heap.size]?=W.heap[w1.heap.size]?:=C _ hl (by simp;omega);refine⟨v,(Xr (a:=⟨w1.heap.size,0,none⟩) u).trans q,(YI (a:=⟨w1.heap.size,0,none⟩) u).trans r,MM j (λg m ar=>C g ar (by simp;omega)),⟨O.trans c.os,ht.trans c.tape,B.trans c.output,Nat.le_trans c.size P,λk o=>?_⟩⟩
  exact(C k (by have:=c.size;omega) (by have:=x.size;simp;omega)).trans (c.block k o)
 case body=>
  rintro l i p W ⟨v,q,r,j,c⟩ B aH;have A:=Ta B
  by_cases z:p=[]
  ·subst z;have aE:(bs []).toList.isEmpty=true:=by rw[AR];rfl
   gi_wp2
   refine⟨λb _=>rfl,v,q,r,?_,c⟩;rw[A]
   simpa using j
  ·have av:(bs p).toList.isEmpty=false:=by rw[AR];simpa using z
   obtain⟨T,hi,Z,aj,am⟩:=Y2 Tryz.infoS;have aG:(((Ap 32 (Bu 35 t)).take i).filter (λp => !p.isEmpty)).length<=t.length+1:=by
    have a1:=Qq0 32 (Bu 35 t);have a2:=Ku 35 t;have a3:=List.length_filter_le (λp:Tx => !p.isEmpty) ((Ap 32 (Bu 35 t)).take i);rw[X2] at a3
    omega
   have U:((Ap 32 (Bu 35 t)).take (i+1)).filter (λp => !p.isEmpty)=((Ap 32 (Bu 35 t)).take i).filter (λp => !p.isEmpty)++[p]:=by
    rw[A];congr 1
    cases Q:p.isEmpty with
    |true=>exact absurd (List.isEmpty_iff.1 Q) z
    |false=>rfl
   clear A;generalize az:((Ap 32 (Bu 35 t)).take i).filter (λp => !p.isEmpty)=Fi at *;have aI:w1.heap.size<W.heap.size:=Yx W ⟨w1.heap.size,0,none⟩ q;have ad:∀g,v.ownBlock=some g->d.heap.size+2<=g/\g<W.heap.size:=λg e=>j.lt g e;have HB:Hid (∀w3,(W.alloc (.cells #[.string (bs p)] 9)).grownBy w3 v.ownBlock->w3.cell? ⟨w1.heap.size,0,none⟩=some v/\w3.frozen? ⟨w1.heap.size,0,none⟩=false/\W.heap.size<=w3.heap.size/\(∀b,b<d.heap.size+2->w3.heap[b]?=W.heap[b]?)/\w3.os=W.os/\w3.tape=W.tape/\w3.output=W.output):=λw3 m=>by
    have H:∀b,b<d.heap.size+2->w3.heap[b]?=W.heap[b]?:=λb M=>(m.block b (by simp;omega) (λe=>by have:=(ad b e.symm).1;omega)).trans (Xq W _ b (by omega));have u:=H w1.heap.size (by omega)
    exact⟨(Xr (a:=⟨w1.heap.size,0,none⟩) u).trans q,(YI (a:=⟨w1.heap.size,0,none⟩) u).trans r,by have:=m.size;simp at this;omega,H,m.os,m.tape,m.output⟩
   gi_wp2_with (gi_at_builtin;refine wpListIn_append_own _ rfl _ _ 22 rfl (d.heap.size+2) 9 T (.string ByteArray.empty) 1 16 Tryz.underlying22 hi Z aj am rfl (by decide) _ _ _ rfl (j.alloc _) ⟨_,0,none⟩ 1 1 [Ih p] rfl rfl (cell_one_new _ _ _) (by simp[Zc,Ih]) (by unfold maxLen;omega) (by omega) (by simp;omega) ?_;intro v' w3 D aq _;obtain⟨S,f3,z3,G,o3,t3,R⟩:=HB.out w3 aq;obtain⟨g',aw,rfl⟩:=ownsRow_succ D)
   have ag:=x.size;refine⟨λb M=>?_,_,World.cell?_setCell_same _ _ _ S,by rw[World.frozen?_setCell];exact f3,?_,⟨o3.trans c.os,t3.trans c.tape,R.trans c.output,by have:=c.size;simp;omega,λk o=>(Xl w3 ⟨w1.heap.size,0,none⟩ _ k (by show k≠w1.heap.size;omega)).trans ((G k (by omega)).trans (c.block k o))⟩⟩
   ·have F:b≠w1.heap.size/\b<d.heap.size+2:=by
     simp only[List.mem_cons,List.not_mem_nil,or_false] at M
     omega
    exact(Xl w3 ⟨w1.heap.size,0,none⟩ _ b F.1).trans (G b F.2)
   ·rw[U,Xd,XH];exact MM D (λg m _=>Xl w3 ⟨w1.heap.size,0,none⟩ _ g (by show g≠w1.heap.size;omega))
 case done=>
  rintro W ⟨v,q,r,j,c⟩ J;rw[List.take_length] at j;rw[ab] at J j;refine FU ?_
  gi_wp2
  refine⟨by simp,.inl ⟨_,_,rfl,run_takeDeferred J,?_⟩⟩;have ag:=x.size;refine⟨_,results_tmp rfl _ _ _,v,rfl,acd (MM j λg m _=>X9 (by omega)) (by omega),⟨c.os,c.tape,c.output,by simpa using c.size,λk o=>(X9 (by omega)).trans (c.block k o)⟩⟩
end Go.Proofs.YtdcacoifehkioaaGreatDoor
namespace Go.Proofs.YtdcacoifehkioaaGreatDoor
open Go
section
variable {P:Program} {md:Region.Mode} {ops:Array Oper} {Q:Exit->Act->Xg->Prop} {S:Xg->Prop} {oi:Oper} {v:Xj} {fuel:Nat} {listed:Array Bool} {a a':Act} {w:Xg}
theorem sq {α:Type}:(∀(l:List α) (i:Nat) (h:i<l.toArray.size),l.toArray[i]'h=l[i]'(by simpa using h))/\(∀(x:α) (l:List α) (h:0<(x::l).length),(x::l)[0]'h=x)/\(∀(x:α) (l:List α) (i:Nat) (h:i+1<(x::l).length),(x::l)[i+1]'h=l[i]'(by simpa using h))/\(∀(l:List α) (i:Nat) (x:α),l.toArray.setIfInBounds i x=(l.set i x).toArray)/\(∀(x y:α) (l:List α) (i:Nat),(x::l).set (i+1) y=x::l.set i y)/\∀(x y:α) (l:List α),(x::l).set 0 y=y::l:=
 ⟨λ_ _ _=>rfl,λ_ _ _=>rfl,λ_ _ _ _=>rfl,λl i x=>List.setIfInBounds_toArray ..,λ_ _ _ _=>rfl,λ_ _ _=>rfl⟩
theorem tk (i:Nat) (g:S w) (h:wpAnyH P md ops Q S fuel (listed.setIfInBounds i true) a' w)
 (m:ops[i]?=some oi:=by rfl) (d:Region.noSelect ops=true:=by kernel_rfl) (n:Region.free md ops listed i=true:=by kernel_rfl) (e:(Zq md ops listed).contains i=true:=by kernel_rfl)
 (j:∀c a w,Q (.panic c) (a.put oi.dst v) w->Q (.panic c) a w:=by exact λ_ _ _ h=>h)
 (f:ZA oi (yielded ops a.tmps)=true:=by rfl) (k:∀b,S b->(execOp a.eval oi).run P b = .ok (.value v) b:=by(intro b o;(try dsimp only at o);go_simp;try with_reducible rfl))
 (l:a.put oi.dst v=a':=by(simp only[Act.put,sq];first|done|rfl)):wpAnyH P md ops Q S (fuel+1) listed a w:=by
 subst l;exact wpAnyH_take (i:=i) (v:=v) m d n e j (Or.inl ⟨f,k⟩) g h
theorem tn (i:Nat) (f:S w) (h:wpAnyH P md ops Q S fuel (listed.setIfInBounds i true) a' w)
 (k:ops[i]?=some oi:=by rfl) (b:Region.noSelect ops=true:=by kernel_rfl) (l:Region.free md ops listed i=true:=by kernel_rfl) (d:(Zq md ops listed).contains i=true:=by kernel_rfl)
 (g:∀c a w,Q (.panic c) (a.put oi.dst X1) w->Q (.panic c) a w:=by exact λ_ _ _ h=>h)
 (e:ZA oi (yielded ops a.tmps)=false:=by rfl)
 (j:a.put oi.dst X1=a':=by(simp only[Act.put,sq];first|done|rfl)):wpAnyH P md ops Q S (fuel+1) listed a w:=by
 subst j;exact wpAnyH_take (i:=i) (v:=X1) k b l d g (Or.inr ⟨e,rfl⟩) f h
theorem rd (i:Nat) (h:∀b:Act->Xg->Prop,Shut (∀a w,S w->(S w->wpAnyH P md ops Q S fuel (listed.setIfInBounds i true) a w)->b a w)->if ZA oi (yielded ops a.tmps)=true then Oper.wp P oi a w b Q else b (a.put oi.dst X1) w)
 (d:ops[i]?=some oi:=by rfl) (c:Zq md ops listed=[i]:=by kernel_rfl):wpAnyH P md ops Q S (fuel+1) listed a w:=
 wpAnyH_ready (rs:=[i]) c (by simp) (AllReadyH.cons d h AllReadyH.nil)
end
end Go.Proofs.YtdcacoifehkioaaGreatDoor
namespace Go.Proofs.YtdcacoifehkioaaGreatDoor
open Go.RowKit Go.Proofs.Cod
def AM {α:Type} (f:Int->α) (k:Int) (v:α):Int->α:=λx=>if x=k then v else f x
theorem BC {α:Type} (f:Int->α) (k:Int) (v:α):AM f k v k=v:=by simp[AM]
theorem BM {α:Type} {f:Int->α} {k x:Int} (v:α) (h:x≠k):AM f k v x=f x:=by simp[AM,h]
def RG.decl (G:RG) (kd:Int) (t:Tx) (v:Xj):RG:={G with N:=AN G.N t (kd,(G.nms kd).length),nms:=AM G.nms kd (G.nms kd++[t]),V:=AM G.V kd v}
section
variable {w w':Xg} {tag tag':Nat->RT} {base rb nb lb:Nat} {G:RG}
theorem JH {e:TypeId} {k:Int} {v:Xj} {l:List Tx} (h:CB w tag base e k v (l.map BB)):∃a cap,v = .slice a l.length cap:=by
 have h:=h.row;rw[Xm] at h
 rcases h.2 with⟨b,c⟩|⟨g,cap,d,b,_⟩
 ·exact⟨none,0,by rw[b,c]⟩
 ·exact⟨_,_,b⟩
theorem TP {G:RG} {kd:Int} (a:AH kd) (v:Xj) (nb lb:Nat) : #[YB .i64 G.line,G.V 118,G.V 102,G.V 109,.slice none 0 0,G.V 116,G.bV,.map (some nb),.map (some lb),G.lV].setIfInBounds (BN kd) v = #[YB .i64 G.line,AM G.V kd v 118,AM G.V kd v 102,AM G.V kd v 109,.slice none 0 0,AM G.V kd v 116,G.bV,.map (some nb),.map (some lb),G.lV]:=by
 rcases a with rfl|rfl|rfl|rfl<;>simp[BN,AM]
theorem Ai.decl (h:Ai w tag base rb nb lb G) {kd:Int} (j:AH kd) (t:Tx) (K:(G.nms kd).length<1048576) :
 ∃w',(Instr.mapUpdate 141 (.map (some nb)) (.string (bs t)) (.pointer (some ⟨w.heap.size,0,none⟩))).run Tryz.prog ((w.alloc (.cells #[.int .u8 kd,.int .i64 (G.nms kd).length] 289)).drew) = .ok () w'/\
  w'.cell? ⟨rb,BN kd,none⟩=some (G.V kd)/\∃g cap w3,(XM #[22,22] 22 #[G.V kd,.slice (some ⟨w'.heap.size,0,none⟩) 1 1]).run Tryz.prog (w'.alloc (.cells #[.string (bs t)] 9)) = .ok (.slice (some ⟨g,0,none⟩) ((G.nms kd).length+1) cap) w3/\
  w3.cell? ⟨rb,BN kd,none⟩=some (G.V kd)/\w3.frozen? ⟨rb,BN kd,none⟩=false/\
  ∃tag',Ai (w3.setCell ⟨rb,BN kd,none⟩ (.slice (some ⟨g,0,none⟩) ((G.nms kd).length+1) cap)) tag' base rb nb lb (G.decl kd t (.slice (some ⟨g,0,none⟩) ((G.nms kd).length+1) cap))/\Ag w tag (w3.setCell ⟨rb,BN kd,none⟩ (.slice (some ⟨g,0,none⟩) ((G.nms kd).length+1) cap)) tag':=by
 have D:kd≠0/\kd≠1:=by rcases j with rfl|rfl|rfl|rfl<;>decide
 have P:=h.lt h.tnm (by simp);have E:=h.lt h.trd (by simp);have ae:=h.g3;obtain⟨w',aa,I,hz,ho,Z,X,z⟩:=h.names.put t kd (G.nms kd).length (λb d=>h.lt d (by simp)) (by rw[h.tnm];simp) P;have A:rb≠nb:=λe=>by have:=h.trd;rw[e,h.tnm] at this;cases this
 have J:w'.heap[rb]?=w.heap[rb]?:=z rb E A;have C:∀b,Cd tag w.heap.size .en b≠.o->b<w'.heap.size:=λb d=>by
  unfold Cd at d
  split at d
  ·omega
  ·have:=(h.tlt b d).2;omega
 have ab:CB w' (Cd tag w.heap.size .en) base 9 kd (G.V kd) ((G.nms kd).map BB):=(h.rows kd j).kept λb d=>by
  have v:=h.lt d (by simp)
  exact⟨z b v (λe=>by rw[e,h.tnm] at d;cases d),(Co _ (by omega)).trans d⟩
 obtain⟨i0,n,M,S,U⟩:=Y2 Tryz.infoTx;obtain⟨g,cap,w3,tag3,F,m,Y,N,H,z3,s,u,O⟩:=ab.push Tryz.underlying22 n M S U rfl (by omega) (BB t) (by simp[Zc,BB]) 22 (by simpa using K) (by omega) C;rw[Xm] at F m;have p:∀b,b<w.heap.size->b≠nb->tag b≠.row kd->w3.heap[b]?=w.heap[b]?:=λb d f l=>(s b (by omega) (by rw[Co _ (by omega)];exact l)).trans (z b d f);have B:w3.heap[rb]?=w.heap[rb]?:=p rb E A (by rw[h.trd];simp);have R:w3.cell? ⟨rb,BN kd,none⟩=some (G.V kd):=(Xr (w:=w) (a:=⟨rb,BN kd,none⟩) B).trans (h.Dm j);have q:Ag w tag (w3.setCell ⟨rb,BN kd,none⟩ (.slice (some ⟨g,0,none⟩) ((G.nms kd).length+1) cap)) tag3:=by
  refine⟨Y.trans ho,N.trans Z,H.trans X,by simp;omega,λb d=>(u b (by omega)).trans (Co _ (by omega)),λb d r=>?_⟩;rw[Xl w3 ⟨rb,BN kd,none⟩ _ b (BI r h.trd (by simp))];exact p b d (λe=>by have:=h.tnm;rw[<-e,r] at this;cases this) (by rw[r];simp)
 refine⟨w',aa,(Xr (w:=w) (a:=⟨rb,BN kd,none⟩) J).trans (h.Dm j),g,cap,w3,F,R,(YI (w:=w) (a:=⟨rb,BN kd,none⟩) B).trans (h.De _),tag3,?_,q⟩;refine h.step (λx=>x = .nm\/x = .row kd\/x = .rd) q (λb d f l=>?_) (λb d T=>?_) ?_ (λk ah=>?_) (.inl ⟨rfl,rfl,by simp;exact λe=>D.1 e.symm⟩) (.inl ⟨rfl,rfl,by simp;exact λe=>D.2 e.symm⟩) (.inr ?_) (by simp) (by simp) (by simp) (λa c y=>.inl ⟨y,by simp,by simp,by simp⟩) (λa i n=>.inl ⟨n,?_⟩) (λc y=>.inl y)
 ·rw[Xl w3 ⟨rb,BN kd,none⟩ _ b (λe=>l (by rw[e];exact .inr (.inr h.trd)))];exact p b d (λe=>l (by rw[e];exact .inl h.tnm)) (λe=>l (.inr (.inl e)))
 ·simp only[XG]
  by_cases e:b=w.heap.size
  ·subst e;omega
  ·exact O b (by omega) T
 ·rw[Xk w3 rb (BN kd) _ _ _ (B.trans h.cell),TP j]
  rfl
 ·by_cases e:k=kd
  ·subst e;right;have Q:(G.decl k t (.slice (some ⟨g,0,none⟩) ((G.nms k).length+1) cap)).V k = .slice (some ⟨g,0,none⟩) ((G.nms k).length+1) cap:=BC _ _ _;have W:(G.decl k t (.slice (some ⟨g,0,none⟩) ((G.nms k).length+1) cap)).nms k=G.nms k++[t]:=BC _ _ _;rw[Q,W,XH];refine⟨Bg m.row λx q=>?_,m.tg⟩;refine Xl w3 ⟨rb,BN k,none⟩ _ x (λe=>?_);have e:x=rb:=e;have f:=m.tg x q;rw[e,u rb (by omega),Co _ (by omega),h.trd] at f
   cases f
  ·exact .inl ⟨BM _ e,BM _ e,by simp;exact e⟩
 ·refine I.kept ?_ λb d=>?_
  ·rw[Xl w3 ⟨rb,BN kd,none⟩ _ nb (λe=>A e.symm)];exact s nb (by omega) (by rw[Co _ (by omega),h.tnm];simp)
  ·have af:=C b (by rw[d];simp);refine⟨?_,(u b (by omega)).trans d⟩;rw[Xl w3 ⟨rb,BN kd,none⟩ _ b (λe=>?_)]
   ·exact s b (by omega) (by rw[d];simp)
   ·have e:b=rb:=e;rw[e,Co _ (by omega),h.trd] at d;cases d
 ·have:=h.ins a i n;have v:=h.lt this.2 (by simp);rw[Xl w3 ⟨rb,BN kd,none⟩ _ a (BI this.2 h.trd (by simp))];exact p a v (λe=>by rw[e,h.tnm] at this;cases this.2) (by rw[this.2];simp)
end
def Cm (w:Xg) (tag:Nat->RT) (a:Option Y7) (ts:List Tx):Prop:=
 ∀i,i<ts.length->∃b off,a=some ⟨b,off,none⟩/\b<w.heap.size/\w.cell? ⟨b,off+i,none⟩=some (.string (bs (ts.getD i [])))/\tag b = .o
theorem Cm.ws {w:Xg} {c:Nat->RT} {a:Option Y7} {ts:List Tx} (h:Cm w c a ts):Ws w a ts:=λi f=>by
 obtain⟨b,d,g,j,e,_⟩:=h i f;exact⟨b,d,g,j,e⟩
theorem Cm.ext {w w':Xg} {e j:Nat->RT} {a:Option Y7} {ts:List Tx} (h:Cm w e a ts) (c:Ag w e w' j):Cm w' j a ts:=λi l=>by
 obtain⟨b,f,m,d,k,g⟩:=h i l
 exact⟨b,f,m,Nat.lt_of_lt_of_le d c.size,(Xr (w:=w) (a:=⟨b,f+i,none⟩) (c.block b d g)).trans k,(c.tags b d).trans g⟩
def AZ (kd:Int):(Tx->Option (Int×Nat))->List Tx->List Tx->Option ((Tx->Option (Int×Nat))×List Tx)
 |N,l,[]=>some (N,l)
 |N,l,t::ts=>match N t with
  |some _=>none
  |none=>AZ kd (AN N t (kd,l.length)) (l++[t]) ts
theorem Kt {kd:Int} {N:Tx->Option (Int×Nat)} {l ts:List Tx} {p:(Tx->Option (Int×Nat))×List Tx} (h:AZ kd N l ts=some p):p.2=l++ts:=by
 induction ts generalizing N l with
 |nil=>simp only[AZ,Option.some.injEq] at h;rw[<-h];simp
 |cons t ts a=>
  unfold AZ at h
  split at h
  ·cases h
  ·rw[a h];simp
def Jz (kd:Int) (ts:List Tx) (G G':RG):Prop:=kd≠0/\ts≠[]/\ts.all Ar=true/\AZ kd G.N (G.nms kd) ts=some (G'.N,G'.nms kd)/\(G'.nms kd).length<=4/\(∀k,k≠kd->G'.nms k=G.nms k)/\G'.line=G.line/\G'.bods=G.bods/\G'.bV=G.bV/\G'.B=G.B/\G'.I=G.I/\G'.las=G.las/\G'.lV=G.lV
def JA (kd:Int) (ts:List Tx) (G:RG) (e:Int):Prop:=((kd=0\/ts=[]\/ts.all Ar=false)/\e=2)\/((kd≠0/\ts≠[]/\ts.all Ar=true)/\((AZ kd G.N (G.nms kd) ts=none/\e=3)\/((∃p,AZ kd G.N (G.nms kd) ts=some p/\4<p.2.length)/\e=4)))
structure Sm (w:Xg) (tag:Nat->RT) (base rb nb lb:Nat) (kd:Int) (ts:List Tx) (G:RG) (i:Nat) (wr:Xg) (tr:Nat->RT) (Gr:RG):Prop where
 rd:Ai wr tr base rb nb lb Gr
 ext:Ag w tag wr tr
 all:AZ kd G.N (G.nms kd) ts=AZ kd Gr.N (Gr.nms kd) (ts.drop i)
 len:(Gr.nms kd).length=(G.nms kd).length+i
 oth:∀k,k≠kd->Gr.nms k=G.nms k
 line:Gr.line=G.line
 rest:Gr.bods=G.bods/\Gr.bV=G.bV/\Gr.B=G.B/\Gr.I=G.I/\Gr.las=G.las/\Gr.lV=G.lV
theorem Rm {w:Xg} {j:Nat->RT} {base rb B lb:Nat} {G:RG} (h:Ai w j base rb B lb G) (kd:Int) (f:kd=0\/AH kd) (a:Option Y7) (n cap:Nat) (ts:List Tx) (q:ts.length=n) (C:Cm w j a ts) (Q:(G.nms kd).length+n<1048576) :
 X3 Tryz.prog 141 #[Ab rb,.int .u8 kd,.slice a n cap] w (Out w j base rb B lb G.line (Jz kd ts G) (JA kd ts G)):=by
 unfold Ab;have E:=h.FC;have ae:n<4294967281:=by omega
 by_cases r:kd=0
 ·subst r;have x:=Aa (Ag.refl w j)
  go_enter Tryz.func141,Tryz.ntmps141
  go_wp2_with fail
  refine(Fd 2 E).mono ?_;rintro e w3 ⟨rfl,rfl⟩
  exact⟨rfl,.inr ⟨j,2,rfl,x.out,.inl ⟨.inl rfl,rfl⟩⟩⟩
 ·have f:AH kd:=f.resolve_left r;have ay:(kd != 0)=true:=by simpa using r
  by_cases ah:n=0
  ·subst ah;have P:ts=[]:=List.eq_nil_of_length_eq_zero q;replace P:=Aa P;have x:=Aa (Ag.refl w j);clear q
   go_enter Tryz.func141,Tryz.ntmps141
   go_wp2_with fail
   refine(Fd 2 E).mono ?_;rintro e w3 ⟨rfl,rfl⟩
   exact⟨rfl,.inr ⟨j,2,rfl,x.out,.inl ⟨.inr (.inl P.out),rfl⟩⟩⟩
  ·have av:(0:Int)<n:=by omega
   have I:Hid (ts≠[]):=by(unfold Hid;intro e;rw[e] at q;simp at q;omega)
   have v:=acB a n cap ts w q C.ws ae
   cases p:ts.all Ar with
   |false=>
    rw[p] at v;have x:=Aa (Ag.refl w j);replace p:=Aa p
    go_enter Tryz.func141,Tryz.ntmps141
    go_wp2_with fail
    refine v.mono ?_;rintro e w2 ⟨rfl,rfl⟩
    go_wp2_with fail
    refine(Fd 2 E).mono ?_;rintro e w3 ⟨rfl,rfl⟩
    exact⟨rfl,.inr ⟨j,2,rfl,x.out,.inl ⟨.inr (.inr p.out),rfl⟩⟩⟩
   |true=>
    rw[p] at v;have c8:=h.Wx;have ag:(Instr.lookup 142 (.map (some lb)) (.int .u8 kd) false).run Tryz.prog w = .ok (.pointer (some ⟨rb,BN kd,none⟩)) w:=by
     obtain⟨m,X⟩:=h.lists;have:=X.look Tryz.u8Key Tryz.underlying142 (z:=.pointer none) (by kernel_rfl) kd;have e:FB rb kd=some (.pointer (some ⟨rb,BN kd,none⟩)):=by unfold FB;rw[if_pos (show kd=118\/kd=102\/kd=109\/kd=116 from f)]
     rw[e] at this;exact this
    have V:Hid (Sm w j base rb B lb kd ts G 0 w j G):=⟨h,Ag.refl w j,by simp,rfl,λ_ _=>rfl,rfl,rfl,rfl,rfl,rfl,rfl,rfl⟩;replace p:=Aa p;replace C:=Aa C;replace q:=Aa q;replace Q:=Aa Q;have Y:=Aa (⟨f,r⟩:_/\_);clear f;clear h
    go_enter Tryz.func141,Tryz.ntmps141
    go_wp2_with fail
    refine v.mono ?_;rintro e w2 ⟨rfl,rfl⟩
    go_wp2_with fail
    refine(GS rb 2 _).mono ?_;rintro e w3 ⟨rfl,rfl⟩
    go_wp2_with fail
    go_loopw [30] (λK wr=>∃(i:Nat) (A:Nat->RT) (d:RG),i<=n/\K = .int .i64 i/\Sm w3 j base rb B lb kd ts G i wr A d) (λK _=>n - (intOf K).toNat)
    case atStart=>exact⟨0,j,G,Nat.zero_le _,rfl,V.out⟩
    case round=>
     clear E c8 ag V v;obtain⟨i,A,d,hi,rfl,c⟩:=hrel;obtain⟨f,r⟩:=Y.out;have l:=c.rd;have U:=l.Dm f;have aA:=l.lt l.trd (by simp);obtain⟨ra,au,u⟩:=JH (l.rows kd f);have O:=l.FC;rw[c.line] at O
     by_cases h5:i<n
     ·obtain⟨b,aq,rfl,_,cw,_⟩:=(C.out.ext c.ext) i (by have:=q.out;omega);have aC:(i:Int)<(n:Int):=by omega
      have cN:=l.LM;have Z:=l.names.look (ts.getD i []);obtain⟨w',aB,ad,g,J,az,R,af,ak,tag3,D,H⟩:=l.decl f (ts.getD i []) (by have:=c.len;have:=Q.out;omega);have S:ts.drop i=ts.getD i []::ts.drop (i+1):=by
       have W:i<ts.length:=by have:=q.out;omega
       rw[List.drop_eq_getElem_cons W,List.getD_eq_getElem?_getD,List.getElem?_eq_getElem W];rfl
      have o:=c.all;rw[S] at o;have T:=Aa (⟨c,o,D,H⟩:_/\_/\_/\_);clear c o D H S;generalize ts.getD i []=t at *;rw[u] at U ad af R;replace u:=Aa u
      rcases Z with⟨s,F⟩|⟨k6,n6,e6,s,F,_⟩
      ·have ai:=OR;replace s:=Aa s;clear l f
       go_wp2_with fail
       refine(GS rb 3 _).mono ?_;rintro e M ⟨rfl,rfl⟩
       go_wp2_with fail
       go_region
       all_goals
        go_wp2_with (at_builtin;refine Eq rfl _ _ _ rfl rfl rfl rfl R ?_)
        go_roundw
        case rel=>
         obtain⟨c,o,D,H⟩:=T.out;refine⟨i+1,tag3,_,by omega,by go_num,D,c.ext.trans H,?_,?_,λk f=>?_,c.line,c.rest⟩
         ·rw[o];have y:(d.decl kd t (.slice (some ⟨g,0,none⟩) ((d.nms kd).length+1) J)).nms kd=d.nms kd++[t]:=BC _ _ _;rw[y]
          conv=>lhs;unfold AZ
          rw[s.out]
          rfl
         ·have y:(d.decl kd t (.slice (some ⟨g,0,none⟩) ((d.nms kd).length+1) J)).nms kd=d.nms kd++[t]:=BC _ _ _;rw[y,Xd,c.len];simp;omega
         ·have y:(d.decl kd t (.slice (some ⟨g,0,none⟩) ((d.nms kd).length+1) J)).nms k=d.nms k:=BM _ f;rw[y];exact c.oth k f
        case measure=>simp[intOf];omega
      ·replace s:=Aa s;unfold Ab at F;clear l f
       go_wp2_with fail
       refine(Fd 3 O).mono ?_;rintro e M ⟨rfl,rfl⟩;obtain⟨c,o,_⟩:=T.out;refine⟨rfl,.inr ⟨A,3,rfl,c.ext,.inr ⟨⟨r,I.out,p.out⟩,.inl ⟨?_,rfl⟩⟩⟩⟩;rw[o];unfold AZ;rw[s.out]
     ·replace c:=Aa c;rw[u] at U;replace u:=Aa u;have o:Hid (AZ kd G.N (G.nms kd) ts=some (d.N,d.nms kd)):=by
       have:=c.out.all;rw[List.drop_of_length_le (by have:=q.out;omega)] at this;exact this
      clear l f
      by_cases F:(d.nms kd).length<=4
      ·have ab:((d.nms kd).length:Int)<=4:=by omega
       go_wp2_with fail
       refine(GS rb 4 _).mono ?_;rintro e M ⟨rfl,rfl⟩
       go_wp2_with fail
       go_end0
       have c:=c.out;exact .inl ⟨A,d,rfl,c.rd,c.ext,r,I.out,p.out,o.out,F,c.oth,c.line,c.rest⟩
      ·have ab:¬((d.nms kd).length:Int)<=4:=by omega
       go_wp2_with fail
       refine(Fd 4 O).mono ?_;rintro e M ⟨rfl,rfl⟩
       exact⟨rfl,.inr ⟨A,4,rfl,c.out.ext,.inr ⟨⟨r,I.out,p.out⟩,.inr ⟨⟨_,o.out,by show 4<(d.nms kd).length;omega⟩,rfl⟩⟩⟩⟩
def RG.body (G:RG) (a lm:Nat) (v:Xj):RG:={G with bods:=G.bods++[a],bV:=v,B:=Bw G.B a {lm:=lm,cv:=.slice none 0 0,ins:=[],labs:=λ_=>none}}
section
variable {w w':Xg} {tag tag':Nat->RT} {base rb nb lb:Nat} {G:RG}
theorem IS {e:TypeId} {k:Int} {v:Xj} {c:List Xj} (h:CB w tag base e k v c):∃a cap,v = .slice a c.length cap:=by
 rcases h.row.2 with⟨b,d⟩|⟨g,cap,f,b,_⟩
 ·exact⟨none,0,by rw[b,d]⟩
 ·exact⟨_,_,b⟩
theorem Ai.body (h:Ai w tag base rb nb lb G) (P:G.bods.length<1048576) :
 ∃w1,(w.alloc (.map #[] 0)).alloc (.cells #[.slice none 0 0,.map (some w.heap.size)] 243)=w1/\∃g cap w3,(XM #[140,140] 140 #[G.bV,.slice (some ⟨w1.heap.size,0,none⟩) 1 1]).run Tryz.prog (w1.alloc (.cells #[Ab (w.heap.size+1)] 240)) = .ok (.slice (some ⟨g,0,none⟩) (G.bods.length+1) cap) w3/\
  w3.cell? ⟨rb,6,none⟩=some G.bV/\w3.frozen? ⟨rb,6,none⟩=false/\
  ∃tag',Ai (w3.setCell ⟨rb,6,none⟩ (.slice (some ⟨g,0,none⟩) (G.bods.length+1) cap)) tag' base rb nb lb (G.body (w.heap.size+1) w.heap.size (.slice (some ⟨g,0,none⟩) (G.bods.length+1) cap))/\Ag w tag (w3.setCell ⟨rb,6,none⟩ (.slice (some ⟨g,0,none⟩) (G.bods.length+1) cap)) tag':=by
 have E:=h.lt h.trd (by simp);have ah:=h.g3;obtain⟨w1,j⟩:∃w1,(w.alloc (.map #[] 0)).alloc (.cells #[.slice none 0 0,.map (some w.heap.size)] 243)=w1:=⟨_,rfl⟩;have ai:w1.heap.size=w.heap.size+2:=by rw[<-j];simp
 have H:∀b,b<w.heap.size->w1.heap[b]?=w.heap[b]?:=λb d=>by
  rw[<-j,Xq _ _ b (by simp;omega),Xq _ _ b d]
 have M:Av sk w1 w.heap.size (λ_=>none) 0:=by
  have:=(Av.made (enc:=sk) w).same (w':=w1) (by rw[<-j,Xq _ _ _ (by simp)]);exact this
 have ac:w1.heap[w.heap.size+1]?=some (.cells #[.slice none 0 0,.map (some w.heap.size)] 243):=by
  have:=Xi (w.alloc (.map #[] 0)) (.cells #[.slice none 0 0,.map (some w.heap.size)] 243);rw[Yj] at this;rw[<-j];exact this
 obtain⟨f,q⟩:∃f,Cd (Cd tag w.heap.size (.lb (w.heap.size+1))) (w.heap.size+1) (.bd (w.heap.size+1))=f:=⟨_,rfl⟩;have m:∀b,b<w.heap.size->f b=tag b:=λb d=>by rw[<-q,Co _ (by omega),Co _ (by omega)]
 have z:f w.heap.size = .lb (w.heap.size+1):=by rw[<-q,Co _ (by omega),ER]
 have A:f (w.heap.size+1) = .bd (w.heap.size+1):=by rw[<-q,ER]
 have ad:∀b,w.heap.size+2<=b->f b = .o:=λb d=>by
  rw[<-q,Co _ (by omega),Co _ (by omega)]
  cases N:tag b with
  |o=>rfl
  |_=>exact absurd (h.tlt b (by rw[N];simp)).2 (by omega)
 have U:∀b,f b≠.o->b<w1.heap.size:=λb d=>by
  by_cases e:w.heap.size+2<=b
  ·exact absurd (ad b e) d
  ·omega
 have ae:CB w1 f base 240 0 G.bV (G.bods.map Ab):=h.brow.kept λb d=>by
  have r:=h.lt d (by simp)
  exact⟨H b r,(m b r).trans d⟩
 obtain⟨i0,s,R,X,Z⟩:=Y2 Tryz.infoBd;obtain⟨g,cap,w3,tag3,J,n,o3,Q,O,z3,I,p,T⟩:=ae.push Tryz.underlying140 s R X Z rfl (by omega) (Ab (w.heap.size+1)) (by simp[Zc,Ab]) 140 (by simpa using P) (by omega) U;rw[Xm] at J n;have u:∀b,b<w.heap.size->tag b≠.row 0->w3.heap[b]?=w.heap[b]?:=λb d y=>(I b (by omega) (by rw[m b d];exact y)).trans (H b d);have D:w3.heap[rb]?=w.heap[rb]?:=u rb E (by rw[h.trd];simp);have l:Ag w tag (w3.setCell ⟨rb,6,none⟩ (.slice (some ⟨g,0,none⟩) (G.bods.length+1) cap)) tag3:=by
  refine⟨o3.trans (by rw[<-j];rfl),Q.trans (by rw[<-j];rfl),O.trans (by rw[<-j];rfl),by simp;omega,λb d=>(p b (by omega)).trans (m b d),λb d F=>?_⟩;rw[Xl w3 ⟨rb,6,none⟩ _ b (BI F h.trd (by simp))];exact u b d (by rw[F];simp)
 have W:w3.cell? ⟨rb,6,none⟩=some G.bV:=(Xr (w:=w) (a:=⟨rb,6,none⟩) D).trans h.Jj;refine⟨w1,j,g,cap,w3,J,W,(YI (w:=w) (a:=⟨rb,6,none⟩) D).trans (h.De _),tag3,?_,l⟩;refine h.step (λx=>x = .row 0\/x = .rd) l (λb d h1 y=>?_) (λb d Y=>?_) ?_ (λk ab=>.inl ⟨rfl,rfl,?_⟩) (.inr ?_) (.inl ⟨rfl,rfl,by simp⟩) (.inl ⟨rfl,by simp⟩) (by simp) (by simp) (by simp) (λa c C=>?_) (λa i s=>.inl ⟨s,?_⟩) (λc C=>.inl C)
 ·rw[Xl w3 ⟨rb,6,none⟩ _ b (λe=>y (by rw[e];exact .inr h.trd))];exact u b d (λe=>y (.inl e))
 ·simp only[XG]
  by_cases e:b<w1.heap.size
  ·omega
  ·exact T b (by omega) Y
 ·rw[Xk w3 rb 6 _ _ _ (D.trans h.cell)]
  rfl
 ·rcases ab with rfl|rfl|rfl|rfl<;>simp
 ·have V:(G.body (w.heap.size+1) w.heap.size (.slice (some ⟨g,0,none⟩) (G.bods.length+1) cap)).bods.map Ab=G.bods.map Ab++[Ab (w.heap.size+1)]:=by simp[RG.body]
  rw[V];refine⟨Bg n.row λx l=>?_,n.tg⟩;exact Xl w3 ⟨rb,6,none⟩ _ x (BI (n.tg x l) ((p rb (by omega)).trans ((m rb E).trans h.trd)) (by simp))
 ·have v:Bw G.B (w.heap.size+1) {lm:=w.heap.size,cv:=.slice none 0 0,ins:=[],labs:=λ_=>none} a=some c:=C;unfold Bw at v
  split at v
  ·rename_i e;subst e
   cases v
   right;have K:∀x,f x≠.rd->x<w1.heap.size->f x≠.row 0->(w3.setCell ⟨rb,6,none⟩ (.slice (some ⟨g,0,none⟩) (G.bods.length+1) cap)).heap[x]?=w1.heap[x]?:=λx l r S=>by
    rw[Xl w3 ⟨rb,6,none⟩ _ x (λe=>l (by have e:x=rb:=e;rw[e,m rb E];exact h.trd))];exact I x r S
   refine⟨(K _ (by rw[A];simp) (by omega) (by rw[A];simp)).trans ac,Xy _ _ _ _,(λx l=>by cases l),⟨λ_=>none,0,M.same (K _ (by rw[z];simp) (by omega) (by rw[z];simp)),λt=>rfl⟩,(p _ (by omega)).trans A,(p _ (by show w.heap.size<=_;omega)).trans z⟩
  ·exact .inl ⟨v,by simp,by simp,by simp⟩
 ·have:=h.ins a i s;rw[Xl w3 ⟨rb,6,none⟩ _ a (BI this.2 h.trd (by simp))];exact u a (h.lt this.2 (by simp)) (by rw[this.2];simp)
end
def Ng (n0:Nat) (ts:List Tx) (G G':RG):Prop:=ts.length=1/\∃G1 a lm v,Jz 116 ts G G1/\n0<=a/\G'=G1.body a lm v
def So (ts:List Tx) (G:RG) (e:Int):Prop:=(ts.length≠1/\e=2)\/(ts.length=1/\JA 116 ts G e)
theorem aco {w:Xg} {f:Nat->RT} {base rb u lb:Nat} {G:RG} (h:Ai w f base rb u lb G) (a:Option Y7) (n cap:Nat) (ts:List Tx) (d:ts.length=n) (q:Cm w f a ts) (t:(G.nms 116).length+n<1048576) (B:G.bods.length<1048576) :
 X3 Tryz.prog 140 #[Ab rb,.slice a n cap] w (Out w f base rb u lb G.line (Ng w.heap.size ts G) (So ts G)):=by
 have D:=h.FC;have s:=Rm h 116 (.inr (.inr (.inr (.inr rfl)))) a n cap ts d q t;have C:=Aa (Ag.refl w f);unfold Ab at s |-;replace d:=Aa d
 by_cases z:n=1
 ·subst z;clear h q t
  go_enter Tryz.func140,Tryz.ntmps140
  go_wp2_with fail
  refine(GS rb 2 _).mono ?_;rintro e w1 ⟨rfl,rfl⟩
  go_wp2_with fail
  refine s.mono ?_;rintro e k (⟨v,E,rfl,c,b,i⟩|⟨v,H,rfl,b,F⟩)
  ·obtain⟨w3,o,g,J,P,j,y,K,I,p,l⟩:=c.body (by rw[i.2.2.2.2.2.2.2.1];exact B);have A:=Aa (⟨i,p,l,b⟩:_/\_/\_/\_);have x:=c.Jj;obtain⟨N,O,m⟩:=IS c.brow;rw[Xm] at m;have R:=c.lt c.trd (by simp);rw[m] at x j y;have M:=@run_makeMap Tryz.prog;replace o:=Aa o;replace m:=Aa m;have Q:Hid (w3.heap.size=k.heap.size+2):=by unfold Hid;rw[<-o.out];simp
   rw[<-o.out] at j;unfold Ab at j;have r:((k.alloc (.map #[] 0)).alloc (.cells #[.slice none 0 0,.map (some k.heap.size)] 243)).heap.size=k.heap.size+1+1:=by simp
   rw[r] at j;replace r:=Aa r;clear c i b p l
   go_wp2_with (at_builtin;refine Eq rfl _ _ _ rfl rfl rfl rfl j ?_)
   go_end0
   obtain⟨i,p,l,b⟩:=A.out;exact .inl ⟨I,_,rfl,p,b.trans l,d.out,E,_,_,_,i,by have:=b.size;omega,rfl⟩
  ·exact⟨rfl,.inr ⟨v,H,rfl,b,.inr ⟨d.out,F⟩⟩⟩
 ·have S:((n:Int) == 1)=false:=by simp;omega
  clear h q t s
  go_enter Tryz.func140,Tryz.ntmps140
  go_wp2_with fail
  refine(Fd 2 D).mono ?_;rintro e w1 ⟨rfl,rfl⟩
  exact⟨rfl,.inr ⟨f,2,rfl,C.out,.inl ⟨by have:=d.out;omega,rfl⟩⟩⟩
def RG.later (G:RG) (c:BA) (v:Xj):RG:={G with las:=G.las++[c],lV:=v}
section
variable {w w':Xg} {tag tag':Nat->RT} {base rb nb lb:Nat} {G:RG}
theorem QR (w:Xg) (A B C D E:Obj):∃a,((((w.alloc A).alloc B).alloc C).alloc D).alloc E=a/\a.heap.size=w.heap.size+5/\(∀b,b<w.heap.size->a.heap[b]?=w.heap[b]?)/\
 a.heap[w.heap.size]?=some A/\a.heap[w.heap.size+1]?=some B/\a.heap[w.heap.size+1+1]?=some C/\a.heap[w.heap.size+1+1+1]?=some D/\a.heap[w.heap.size+1+1+1+1]?=some E/\a.os=w.os/\a.tape=w.tape/\a.output=w.output:=by
 obtain⟨w1,g⟩:∃x,w.alloc A=x:=⟨_,rfl⟩;obtain⟨d,i⟩:∃x,w1.alloc B=x:=⟨_,rfl⟩;obtain⟨w3,f⟩:∃x,d.alloc C=x:=⟨_,rfl⟩;obtain⟨e,j⟩:∃x,w3.alloc D=x:=⟨_,rfl⟩;obtain⟨o,h⟩:∃x,e.alloc E=x:=⟨_,rfl⟩;rw[g,i,f,j,h];have p:w1.heap.size=w.heap.size+1:=by rw[<-g];simp
 have q:d.heap.size=w.heap.size+1+1:=by rw[<-i,Yj,p]
 have r:w3.heap.size=w.heap.size+1+1+1:=by rw[<-f,Yj,q]
 have s:e.heap.size=w.heap.size+1+1+1+1:=by rw[<-j,Yj,r]
 have G:o.heap.size=w.heap.size+5:=by rw[<-h,Yj,s]
 have z:w1.heap[w.heap.size]?=some A:=by rw[<-g];exact Xi w A
 have F:d.heap[w.heap.size+1]?=some B:=by rw[<-i,<-p];exact Xi w1 B
 have H:w3.heap[w.heap.size+1+1]?=some C:=by rw[<-f,<-q];exact Xi d C
 have u:e.heap[w.heap.size+1+1+1]?=some D:=by rw[<-j,<-r];exact Xi w3 D
 have v:o.heap[w.heap.size+1+1+1+1]?=some E:=by rw[<-h,<-s];exact Xi e _
 have y:∀k,k<w.heap.size->w1.heap[k]?=w.heap[k]?:=λk c=>by rw[<-g];exact Xq w A k c
 have t:∀k,k<w1.heap.size->d.heap[k]?=w1.heap[k]?:=λk c=>by rw[<-i];exact Xq w1 B k c
 have n:∀k,k<d.heap.size->w3.heap[k]?=d.heap[k]?:=λk c=>by rw[<-f];exact Xq d C k c
 have m:∀k,k<w3.heap.size->e.heap[k]?=w3.heap[k]?:=λk c=>by rw[<-j];exact Xq w3 D k c
 have l:∀k,k<e.heap.size->o.heap[k]?=e.heap[k]?:=λk c=>by rw[<-h];exact Xq e _ k c
 refine⟨_,rfl,by simp[G],λb I=>?_,?_,?_,?_,?_,?_,?_,?_,?_⟩
 ·rw[l b (by omega),m b (by omega),n b (by omega),t b (by omega),y b I]
 ·rw[l _ (by omega),m _ (by omega),n _ (by omega),t _ (by omega)];exact z
 ·rw[l _ (by omega),m _ (by omega),n _ (by omega)];exact F
 ·rw[l _ (by omega),m _ (by omega)];exact H
 ·rw[l _ (by omega)];exact u
 ·exact v
 ·rw[<-h,<-j,<-f,<-i,<-g];rfl
 ·rw[<-h,<-j,<-f,<-i,<-g];rfl
 ·rw[<-h,<-j,<-f,<-i,<-g];rfl
theorem Ai.later (h:Ai w tag base rb nb lb G) (X:G.las.length<1048576) (r q:Nat) (kd:Int) (t:Tx) :
 ∃j,((((w.alloc (.cells #[Ab r] 244)).alloc (.cells #[.map (some q)] 141)).alloc (.cells #[.int .u8 kd] 5)).alloc (.cells #[.string (bs t)] 9)).alloc (.cells #[.int .i64 G.line] 3)=j/\j.heap.size=w.heap.size+1+1+1+1+1/\j.cell? ⟨rb,9,none⟩=some G.lV/\
  ∃g cap w3,(XM #[143,143] 143 #[G.lV,.slice (some ⟨j.heap.size,0,none⟩) 1 1]).run Tryz.prog (j.alloc (.cells #[.func (.func 228) #[] #[Ab (w.heap.size+1),Ab (w.heap.size+1+1),Ab (w.heap.size+1+1+1),Ab (w.heap.size+1+1+1+1),Ab w.heap.size]] 1)) = .ok (.slice (some ⟨g,0,none⟩) (G.las.length+1) cap) w3/\
  w3.cell? ⟨rb,9,none⟩=some G.lV/\w3.frozen? ⟨rb,9,none⟩=false/\
  ∃tag',Ai (w3.setCell ⟨rb,9,none⟩ (.slice (some ⟨g,0,none⟩) (G.las.length+1) cap)) tag' base rb nb lb (G.later ⟨r,q,kd,t,G.line,w.heap.size+1,w.heap.size+1+1,w.heap.size+1+1+1,w.heap.size+1+1+1+1,w.heap.size⟩ (.slice (some ⟨g,0,none⟩) (G.las.length+1) cap))/\Ag w tag (w3.setCell ⟨rb,9,none⟩ (.slice (some ⟨g,0,none⟩) (G.las.length+1) cap)) tag':=by
 have F:=h.lt h.trd (by simp);have az:=h.g3;obtain⟨j,av,aA,A,d4,d0,d1,d2,d3,o5,t5,U⟩:=QR w (.cells #[Ab r] 244) (.cells #[.map (some q)] 141) (.cells #[.int .u8 kd] 5) (.cells #[.string (bs t)] 9) (.cells #[.int .i64 G.line] 3);obtain⟨l,C⟩:∃l:Nat->RT,(λb=>if w.heap.size<=b/\b<w.heap.size+5 then RT.clo else tag b)=l:=⟨_,rfl⟩;have s:∀b,b<w.heap.size->l b=tag b:=λb f=>by rw[<-C];exact if_neg (by omega)
 have I:∀b,w.heap.size<=b->b<w.heap.size+5->l b = .clo:=λb f ae=>by rw[<-C];exact if_pos ⟨f,ae⟩
 have au:∀b,w.heap.size+5<=b->l b = .o:=λb f=>by
  rw[<-C];have e:(if w.heap.size<=b/\b<w.heap.size+5 then RT.clo else tag b)=tag b:=if_neg (by omega);show (if w.heap.size<=b/\b<w.heap.size+5 then RT.clo else tag b) = .o;rw[e]
  cases V:tag b with
  |o=>rfl
  |_=>exact absurd (h.tlt b (by rw[V];simp)).2 (by omega)
 have ab:∀b,l b≠.o->b<j.heap.size:=λb f=>by
  by_cases e:w.heap.size+5<=b
  ·exact absurd (au b e) f
  ·omega
 have aw:CB j l base 1 1 G.lV (G.las.map BA.val):=h.lrow.kept λb f=>by
  have O:=h.lt f (by simp)
  exact⟨A b O,(s b O).trans f⟩
 obtain⟨c,D⟩:∃c:BA,(⟨r,q,kd,t,G.line,w.heap.size+1,w.heap.size+1+1,w.heap.size+1+1+1,w.heap.size+1+1+1+1,w.heap.size⟩:BA)=c:=⟨_,rfl⟩;have S:c.val = .func (.func 228) #[] #[Ab (w.heap.size+1),Ab (w.heap.size+1+1),Ab (w.heap.size+1+1+1),Ab (w.heap.size+1+1+1+1),Ab w.heap.size]:=by rw[<-D];rfl
 rw[D,<-S];obtain⟨i0,v,Y,aj,am⟩:=Y2 Tryz.infoFn;obtain⟨g,cap,w3,tag3,T,u,o3,Z,W,z3,M,B,aa⟩:=aw.push Tryz.underlying143 v Y aj am rfl (by omega) c.val (by rw[S];rfl) 143 (by simpa using X) (by omega) ab;rw[Xm] at T u;have y:∀b,b<w.heap.size->tag b≠.row 1->w3.heap[b]?=w.heap[b]?:=λb f z=>(M b (by omega) (by rw[s b f];exact z)).trans (A b f);have E:w3.heap[rb]?=w.heap[rb]?:=y rb F (by rw[h.trd];simp);have m:Ag w tag (w3.setCell ⟨rb,9,none⟩ (.slice (some ⟨g,0,none⟩) (G.las.length+1) cap)) tag3:=by
  refine⟨o3.trans o5,Z.trans t5,W.trans U,by simp;omega,λb f=>(B b (by omega)).trans (s b f),λb f H=>?_⟩;rw[Xl w3 ⟨rb,9,none⟩ _ b (BI H h.trd (by simp))];exact y b f (by rw[H];simp)
 have ag:j.cell? ⟨rb,9,none⟩=some G.lV:=(Xr (w:=w) (a:=⟨rb,9,none⟩) (A rb F)).trans h.Mc;have ah:w3.cell? ⟨rb,9,none⟩=some G.lV:=(Xr (w:=w) (a:=⟨rb,9,none⟩) E).trans h.Mc;refine⟨j,av,by omega,ag,g,cap,w3,T,ah,(YI (w:=w) (a:=⟨rb,9,none⟩) E).trans (h.De _),tag3,?_,m⟩;refine h.step (λx=>x = .row 1\/x = .rd) m (λb f h1 z=>?_) (λb f hn=>?_) ?_ (λk ar=>.inl ⟨rfl,rfl,?_⟩) (.inl ⟨rfl,rfl,by simp⟩) (.inr ?_) (.inl ⟨rfl,by simp⟩) (by simp) (by simp) (by simp) (λa d n=>.inl ⟨n,by simp,by simp,by simp⟩) (λa i v=>.inl ⟨v,?_⟩) (λd n=>?_)
 ·rw[Xl w3 ⟨rb,9,none⟩ _ b (λe=>z (by rw[e];exact .inr h.trd))];exact y b f (λe=>z (.inl e))
 ·simp only[XG]
  by_cases e:b<j.heap.size
  ·omega
  ·exact aa b (by omega) hn
 ·rw[Xk w3 rb 9 _ _ _ (E.trans h.cell)]
  rfl
 ·rcases ar with rfl|rfl|rfl|rfl<;>simp
 ·have e1:(G.later c (.slice (some ⟨g,0,none⟩) (G.las.length+1) cap)).las.map BA.val=G.las.map BA.val++[c.val]:=by simp[RG.later]
  rw[e1];refine⟨Bg u.row λx m=>?_,u.tg⟩;exact Xl w3 ⟨rb,9,none⟩ _ x (BI (u.tg x m) ((B rb (by omega)).trans ((s rb F).trans h.trd)) (by simp))
 ·have:=h.ins a i v;rw[Xl w3 ⟨rb,9,none⟩ _ a (BI this.2 h.trd (by simp))];exact y a (h.lt this.2 (by simp)) (by rw[this.2];simp)
 ·have n:d∈G.las++[c]:=n
  rcases List.mem_append.1 n with e|e
  ·exact .inl e
  ·right
   obtain rfl:=List.mem_singleton.1 e
   have p:∀x,w.heap.size<=x->x<w.heap.size+5->(w3.setCell ⟨rb,9,none⟩ (.slice (some ⟨g,0,none⟩) (G.las.length+1) cap)).heap[x]?=j.heap[x]?/\tag3 x = .clo:=λx m P=>by
    rw[Xl w3 ⟨rb,9,none⟩ _ x (by show x≠rb;omega)]
    exact⟨M x (by omega) (by rw[I x m P];simp),(B x (by omega)).trans (I x m P)⟩
   rw[<-D];have K:=p (w.heap.size+1) (by omega) (by omega);have R:=p (w.heap.size+1+1) (by omega) (by omega);have J:=p (w.heap.size+1+1+1) (by omega) (by omega);have N:=p (w.heap.size+1+1+1+1) (by omega) (by omega);have Q:=p w.heap.size (by omega) (by omega)
   exact⟨K.1.trans d0,R.1.trans d1,J.1.trans d2,N.1.trans d3,Q.1.trans d4,K.2,R.2,J.2,N.2,Q.2⟩
end
theorem ab7 (w:Xg) (A B C D:Obj) {b:Nat} (i:Nat) (h:b<w.heap.size):((((w.alloc A).alloc B).alloc C).alloc D).cell? ⟨b,i,none⟩=w.cell? ⟨b,i,none⟩:=by
 refine Xr (w:=w) (a:=⟨b,i,none⟩) ?_;show ((((w.alloc A).alloc B).alloc C).alloc D).heap[b]?=w.heap[b]?;rw[Xq _ _ b (by simp;omega),Xq _ _ b (by simp;omega),Xq _ _ b (by simp;omega),Xq _ _ b h]
def Jw (ia tb:Nat) (kd:Int) (t:Tx) (G G':RG):Prop:=∃c v,c.ia=ia/\c.tb=tb/\c.kd=kd/\c.nm=t/\c.ln=G.line/\G'=G.later c v
theorem QU {w:Xg} {i:Nat->RT} {base rb j lb:Nat} {G:RG} (h:Ai w i base rb j lb G) (s:G.las.length<1048576) (b a:Nat) (kd:Int) (t:Tx) :
 X3 Tryz.prog 214 #[Ab rb,Ab b,.map (some a),.int .u8 kd,.string (bs t)] w λr w'=>r = .returned (.tuple #[])/\∃d k,Ai w' d base rb j lb k/\Ag w i w' d/\Jw b a kd t G k:=by
 have u:=h.FC;have v:=h.lt h.trd (by simp);have z:=(ab7 w (.cells #[Ab b] 244) (.cells #[.map (some a)] 141) (.cells #[.int .u8 kd] 5) (.cells #[.string (bs t)] 9) 0 v).trans u;have x:∀(fn:Fn) (first cap:Array Xj) (w:Xg),(Instr.makeFunc fn first cap).run Tryz.prog w = .ok (.func fn first cap) w:=λ_ _ _ _=>rfl;obtain⟨C,e,n,p,g,cap,w3,f,q,y,d,m,o⟩:=h.later s b a kd t;obtain⟨A,B,c⟩:=IS h.lrow;rw[Xm] at c;rw[c] at p f q;have l:=Aa (⟨m,o⟩:_/\_);replace c:=Aa c;unfold Ab at *;rw[n,<-e] at f;rw[<-e] at p;clear h m o n e
 go_enter Tryz.func214,Tryz.ntmps214
 go_wp2_with (at_builtin;refine Eq rfl _ _ _ rfl rfl rfl rfl f ?_)
 go_end0
 exact⟨rfl,d,_,l.out.1,l.out.2,_,_,rfl,rfl,rfl,rfl,rfl,rfl⟩
end Go.Proofs.YtdcacoifehkioaaGreatDoor
namespace Go.Proofs
open Go.Shelf
shelf_lay Lays.n172 Nm 172 at Tryz as Tryz.lays172
end Go.Proofs
namespace Go.Proofs.YtdcacoifehkioaaGreatDoor
open Go.RowKit Go.Shelf Go.Proofs.Cod
def Cz (t:Tx):Nat:=t.foldl (λn c=>n*10+(c.toNat - 48)) 0
theorem abH (t:Tx) (h:t.all AW=true) (a:Nat):Lib.decFrom a t=some (t.foldl (λn c=>n*10+(c.toNat - 48)) a):=by
 induction t generalizing a with
 |nil=>rfl
 |cons c t d=>
  simp only[List.all_cons,Yh] at h;have b:Lib.digitVal c=some (c.toNat - 48):=by
   have e:=h.1;simp[AW] at e;unfold Lib.digitVal;rw[if_pos (by omega)]
  simp only[Lib.decFrom,b,List.foldl_cons];exact d h.2 _
theorem acv {t:Tx} (h:BZ t=true):Lib.atoi t=some (Cz t:Int)/\t.length<=3:=by
 simp only[BZ,Yh,decide_eq_true_eq] at h;obtain⟨⟨g,i⟩,a⟩:=h;refine⟨?_,i⟩
 match t,g,a with
 |c::r,_,a=>
  have b:AW c=true:=by simp only[List.all_cons,Yh] at a;exact a.1
  simp[AW] at b;have d:¬(c=45):=λe=>by subst e;revert b;decide
  have f:¬(c=43):=λe=>by subst e;revert b;decide
  simp only[Lib.atoi,Lib.decNat,List.isEmpty_cons];simp only[beq_iff_eq,d,f,if_false,Bool.false_eq_true];rw[abH _ a];rfl
def AS (t:Tx):Nat:=if Aq t then Cs t else Cz t
theorem RN (t:Tx) (h:(Aq t||BZ t)=true) (w:Xg):X3 Tryz.prog 213 #[.string (bs t)] w λe w'=>e = .returned (.agg #[.bool (Aq t),.int .i64 (AS t)])/\Below w.heap.size w w':=by
 have g:Hid (∀x,Below w.heap.size w (w.alloc x)):=λx=>(Xo _ _).alloc (Xf _) _
 cases b:Aq t with
 |true=>
  have c:Hid (AS t=Cs t):=by unfold Hid AS;rw[if_pos b]
  go_enter Tryz.func213,Tryz.ntmps213
  go_wp2_with fail
  refine(Je t _).mono ?_;rintro e k ⟨rfl,rfl⟩;rw[b]
  go_wp2_with fail
  refine(OI t b _).mono ?_;rintro e w3 ⟨rfl,rfl⟩
  go_wp2_with fail
  exact XN (results_cell_row rfl _ _ w.heap.size 106 _ (0,0) _ rfl (Xi w _) Tryz.underlying106 rfl (by kernel_rfl)) rfl ⟨by rw[c.out],g.out _⟩
 |false=>
  rw[b,Bool.false_or] at h;have c:Hid (AS t=Cz t):=by unfold Hid AS;rw[b];rfl
  obtain⟨d,n⟩:=acv h;have i:(bs t).data.toList=t:=by simp[bs]
  have j:=Aa (λW=>Any.strconv_Atoi Tryz.lays172 (bs t) (Cz t) (by rw[AY];omega) (by rw[i];exact d) W);clear i d n
  go_enter Tryz.func213,Tryz.ntmps213
  go_wp2_with fail
  refine(Je t _).mono ?_;rintro e k ⟨rfl,rfl⟩;rw[b]
  go_wp2_with fail
  refine(j.out _).mono ?_;rintro e w3 ⟨rfl,s,f⟩;obtain⟨a,l⟩:w3.heap[w.heap.size]?=some (.cells #[.bool false,.int .i64 0] 106)/\Below w.heap.size w w3:=by
   rw[f];refine⟨(Lib.bytesWorld_at_old _ _ _ _ (by simp)).trans (Xi w _),(g.out _).trans (Joins.below_bytesWorld _ _ _ _ (by simp))⟩
  clear f;have u:w.heap.size<w3.heap.size:=(Xa.1 a).1;have o:w3.cell? ⟨w.heap.size,0,none⟩=some (.bool false):=by simp[Xh,a]
  have p:w3.cell? ⟨w.heap.size,1,none⟩=some (.int .i64 0):=by simp[Xh,a]
  have q:w3.frozen? ⟨w.heap.size,0,none⟩=false:=by simp[XE,a]
  have r:w3.frozen? ⟨w.heap.size,1,none⟩=false:=by simp[XE,a]
  have m:=Aa a;clear a
  go_wp2_with fail
  refine XN (results_cell_row rfl _ _ w.heap.size 106 _ (0,0) _ rfl (Xk _ _ 1 _ _ _ (Xk _ _ 0 _ _ _ m.out)) Tryz.underlying106 rfl (by kernel_rfl)) rfl ⟨by rw[c.out];rfl,?_⟩
  exact(l.setCell (Xf _) _).setCell (Xf _) _
end Go.Proofs.YtdcacoifehkioaaGreatDoor
