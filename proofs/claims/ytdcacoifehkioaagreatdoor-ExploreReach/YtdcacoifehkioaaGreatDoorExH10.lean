import Derived.Test.YtdcacoifehkioaaGreatDoorExH3
import Derived.Test.YtdcacoifehkioaaGreatDoorExH9
import Derived.Test.YtdcacoifehkioaaGreatDoorExH6
import Derived.Test.YtdcacoifehkioaaGreatDoorExH7
open Go renaming World->Xh,Calls->XX,Value->Xk,callsIn_wide->X4,undef->Ya,heap_setCell_same->Xj,bodyPost_ret->XJ
open Array renaming getElem?_eq_some_iff->Xa
open Nat renaming le_trans->Xu,le_refl->Xd
open List renaming mem_cons->XR,not_mem_nil->X8,mem_of_getElem?->XA,length_cons->XH,cons_append->YL,getElem?_eq_some_iff->Xf,getElem?_map->Xs,getElem?_eq_getElem->Xe,length_map->Xp,getElem_toArray->ZG,getElem_cons_zero->Zo,getElem_cons_succ->Zp,setIfInBounds_toArray->XV,set_cons_succ->X9,set_cons_zero->X7
open Go.World renaming cell?->Xg,frozen?->XP,cell?_of_block->Xy,alloc_heap_new->Xi
open Go.CallsIn renaming inRound->Zx
open Go.RowKit.Below renaming heap_setCell->Xo,heap_alloc->Xv,refl->Xq
open Option.some renaming injEq->YP
set_option maxRecDepth 100000
set_option maxHeartbeats 2000000
set_option linter.unusedVariables false
set_option linter.unusedSimpArgs false
namespace Go.Proofs.YtdcacoifehkioaaGreatDoor
open Go.RowKit Go.Shelf Go.Proofs.Cod
attribute [local go_sem] Oper.semAt_some
structure FI (w:Xh) (base rb nb lb n:Nat) (t:Tx) (i:Nat) (W:Xh) (tag:Nat->RT) (G:RG) (s:PS) (X:List LB):Prop where
 rd:Al W tag base rb nb lb G
 link:CN G nb s X
 ok:Me s
 lines:CJ ((Ar 10 t).take i) 0 PS.new = .ok s
 line:G.line=i
 las:G.las.length<=3*i
 own:∀b,n<=b->b<n+7->tag b = .o
 cr:W.heap[n]?=some (.cells #[Ab rb] 135)
 cf:W.heap[n+1]?=some (.cells #[.int .i64 0,.int .i64 0] 138)
 low:Below base w W
structure Uq (w:Xh) (base n:Nat) (t:Tx) (chain:List PanicEntry) (W:Xh):Prop where
 ex:∃e l,chain=FD e l/\CJ (Ar 10 t) 0 PS.new = .error (e,l)
 cf:W.heap[n+1]?=some (.cells #[.int .i64 0,.int .i64 0] 138)
 low:Below base w W
theorem FI.free {w:Xh} {base rb j lb n:Nat} {t:Tx} {i:Nat} {W a:Xh} {k:Nat->RT} {G:RG} {s:PS} {X:List LB} (h:FI w base rb j lb n t i W k G s X) (u:base<=n) (c:∀b,b<W.heap.size->b∉[n+5,n+6,n+2]->a.heap[b]?=W.heap[b]?) (g:W.heap.size<=a.heap.size) (q:a.os=W.os) (l:a.tape=W.tape) (p:a.output=W.output):FI w base rb j lb n t i a k G s X:=by
 have o:n<W.heap.size:=(Xa.1 h.cr).1;have r:n+1<W.heap.size:=(Xa.1 h.cf).1;refine⟨h.rd.Lv (λb d m=>c b d (λf=>?_)) g,h.link,h.ok,h.lines,h.line,h.las,h.own,(c n o (by simp)).trans h.cr,(c (n+1) r (by simp)).trans h.cf,⟨q.trans h.low.os,l.trans h.low.tape,p.trans h.low.output,Xu h.low.size g,λb d=>(c b (by omega) (λf=>?_)).trans (h.low.block b d)⟩⟩
 ·simp only[XR,X8,or_false] at f
  rcases m with e|e
  ·exact e (h.own b (by omega) (by omega))
  ·omega
 ·simp only[XR,X8,or_false] at f
  omega
theorem Jl {c:UInt8}:∀{t:Tx} {i:Nat} {p:Tx},(Ar c t)[i]?=some p->p.length<=t.length
 |[],i,p,h=>by
  have:=XA h;simp[Ar] at this;subst this;simp
 |b::l,i,p,h=>by
  unfold Ar at h
  split at h
  ·cases i with
   |zero=>cases h;simp
   |succ i=>have:=Jl (t:=l) (i:=i) (p:=p) (by simpa using h);simp;omega
  ·cases a:Ar c l with
   |nil=>exact absurd a (PM c l)
   |cons q d=>
    rw[a] at h
    cases i with
    |zero=>
     cases h
     have:=Jl (t:=l) (i:=0) (p:=q) (by rw[a];rfl)
     simp;omega
    |succ i=>
     have:=Jl (t:=l) (i:=i+1) (p:=p) (by rw[a];simpa using h)
     simp;omega
theorem OO (t:Tx):(CQ t).length<=t.length+1:=by
 unfold CQ;have b:=List.length_filter_le (λp:Tx => !p.isEmpty) (Ar 32 (BR 35 t));have c:=JO 32 (BR 35 t);have a:=LP 35 t
 omega
theorem OP {t p:Tx} (h:p∈CQ t):p.length<=t.length:=by
 unfold CQ at h;obtain⟨i,a⟩:=List.getElem?_of_mem (List.mem_filter.1 h).1;have:=Jl a;have:=LP 35 t
 omega
theorem ND {W a:Xh} {c f:Nat->RT} {n:Nat} (g:Ah W c a f) (h:n+6<W.heap.size) (e:∀b,n<=b->b<n+7->c b = .o):OC [n+5,n+6,n+1+1+1,n+1+1,n+1+1+2] W a:=λb d=>by
 simp only[XR,X8,or_false] at d;exact g.block b (by omega) (e b (by omega) (by omega))
theorem FI.count {w:Xh} {base rb b lb n:Nat} {t:Tx} {i:Nat} {W c:Xh} {a:Nat->RT} {G:RG} {s:PS} {X:List LB} (h:FI w base rb b lb n t i W a G s X) (d:Below (W.setCell ⟨rb,0,none⟩ (.int .i64 ((i:Int)+1))).heap.size (W.setCell ⟨rb,0,none⟩ (.int .i64 ((i:Int)+1))) c) :
 Al c a base rb b lb {G with line:=(i:Int)+1}/\Ah W a c a/\CN {G with line:=(i:Int)+1} b s X:=by
 obtain⟨e,f⟩:=h.rd.Wh ((i:Int)+1)
 exact⟨e.below d,f.trans (.CH d),h.link.line _⟩
theorem FI.ext {w:Xh} {base rb e lb n:Nat} {t:Tx} {i j:Nat} {W f:Xh} {k g:Nat->RT} {G d:RG} {s s':PS} {X l:List LB} (h:FI w base rb e lb n t i W k G s X) (y:base<=n) (z:n+6<W.heap.size) (a:Ah W k f g) (o:Al f g base rb e lb d) (m:CN d e s' l) (x:Me s') (p:CJ ((Ar 10 t).take j) 0 PS.new = .ok s') (v:d.line=j) (r:d.las.length<=3*j):FI w base rb e lb n t j f g d s' l:=by
 have u:∀b,b<base->f.heap[b]?=W.heap[b]?:=λb c=>a.block b (by omega) (h.rd.low c)
 exact⟨o,m,x,p,v,r,λb c q=>(a.tags b (by omega)).trans (h.own b c q),(a.block n (by omega) (h.own n (by omega) (by omega))).trans h.cr,(a.block (n+1) (by omega) (h.own (n+1) (by omega) (by omega))).trans h.cf,⟨a.os.trans h.low.os,a.tape.trans h.low.tape,a.output.trans h.low.output,Xu h.low.size a.size,λb c=>(u b c).trans (h.low.block b c)⟩⟩
theorem FI.fault {w:Xh} {base rb k lb n:Nat} {t:Tx} {i:Nat} {W d:Xh} {f j:Nat->RT} {G:RG} {s:PS} {X:List LB} (h:FI w base rb k lb n t i W f G s X) (p:base<=n) (o:n+6<W.heap.size) (a:Ah W f d j) {e l:Int} (g:CJ (Ar 10 t) 0 PS.new = .error (e,l)):Uq w base n t (FD e l) d:=by
 have m:∀b,b<base->d.heap[b]?=W.heap[b]?:=λb c=>a.block b (by omega) (h.rd.low c)
 exact⟨⟨e,l,rfl,g⟩,(a.block (n+1) (by omega) (h.own (n+1) (by omega) (by omega))).trans h.cf,⟨a.os.trans h.low.os,a.tape.trans h.low.tape,a.output.trans h.low.output,Xu h.low.size a.size,λb c=>(m b c).trans (h.low.block b c)⟩⟩
theorem aaf {w:Xh} {bg:Nat->RT} {base rb nb lb:Nat} (h:Al w bg base rb nb lb RG.new) (t:Tx) (ht:t.length<=3000) :
 XX Tryz.prog 48 #[Ab rb,.string (bs t)] w (afh w base rb t):=by
 have cG:∀(fn:Fn) (first cap:Array Xk) (w:Xh),(Instr.makeFunc fn first cap).run Tryz.prog w = .ok (.func fn first cap) w:=λ_ _ _ _=>rfl;unfold Ab;refine(X4 (n:=9)).1 ?_;refine TP Tryz.func48 rfl trivial ?_ rfl;simp only[Tryz.ntmps48,List.size_toArray,XH,List.length_nil,Nat.reduceAdd,Nat.reduceSub,Array.replicate_succ,Array.replicate_zero,List.push_toArray,List.append_toArray,List.nil_append,YL];refine GZ (Ha ?_)
 gi_wp2
 refine GZ (Ha ?_)
 gi_wp2
 refine GZ (GZ (Ha ?_))
 gi_wp2_with (refine⟨trivial,?_⟩;gi_at_call 105;refine(X4.2 (PN t 10 _)).mono ?_;rintro e w2 ⟨rfl,rfl⟩)
 refine ON ?_;obtain⟨W0,bF,Z,aE,k0,k1,k2,k3,k4,o0,t0,p0⟩:=Tb w (.cells #[.pointer (some ⟨rb,0,none⟩)] 135) (.cells #[.int .i64 0,.int .i64 0] 138) (.cells #[.string (bs t)] 9) (.cells #[.string (bs [10])] 9) (.cells #[.int .i64 0] 3);rw[bF];clear bF;have aM:=h.g3;have aY:FI w base rb nb lb w.heap.size t 0 W0 bg RG.new PS.new []:=by
  refine⟨h.Lv (λb z _=>aE b z) (by omega),CN.new nb,⟨rfl,λk=>by simp[PS.new]⟩,rfl,rfl,by simp[RG.new],λb z _=>?_,k0,k1,⟨o0,t0,p0,by omega,λb z=>aE b (by omega)⟩⟩
  cases R:bg b with
  |o=>rfl
  |_=>exact absurd (h.tlt b (by rw[R];simp)).2 (by omega)
 refine OM (fnd:=Tryz.f48) Tryz.func48 (w.heap.size+1+1+1) (w.heap.size+1+1) (w.heap.size+1+1+2) 10 t rfl (by omega) (by simp[Xg,k3]) (by simp[Xg,k2]) (by simp[Xg,k4]) (by simp[XP,k2]) (by omega) (by omega)
  (λi W=>∃O G s X,FI w base rb nb lb w.heap.size t i W O G s X)
  (Uq w base w.heap.size t) ?free ?start (λp=>{tmps := #[.pointer (some ⟨rb,0,none⟩),.string (bs t),.pointer (some ⟨w.heap.size,0,none⟩),Ya,.pointer (some ⟨w.heap.size+1,0,none⟩),.string (bs p),Ya,Ya,Ya,.func (.func 104) #[] #[.pointer (some ⟨w.heap.size+1,0,none⟩)],.string (bs t),.func (.func 176) #[] #[.pointer (some ⟨w.heap.size+1+1+1,0,none⟩),.pointer (some ⟨w.heap.size+1+1,0,none⟩),.pointer (some ⟨w.heap.size+1+1+2,0,none⟩)],.string (bs p),Ya,Ya,Ya,Ya,Ya,Ya,Ya,Ya,Ya,Ya,Ya,Ya,Ya,Ya,Ya,Ya,Ya,Ya,Ya,Ya,Ya,Ya,Ya,Ya,Ya,Ya,Ya,Ya,Ya,Ya,Ya,Ya,Ya,Ya],defers:=[]}) ?assign ?body ?done ?panic
 case assign=>
  intro l p W K m
  gi_wp2
  exact m
 case start=>exact⟨_,_,_,_,aY⟩
 case free=>
  rintro i W W' ⟨O,G,s,X,d⟩ bl b4 h1 h2 h3;rw[Z] at bl
  exact⟨O,G,s,X,d.free aM bl b4 h1 h2 h3⟩
 case body=>
  rintro l i p W ⟨O,G,s,X,d⟩ hp bh;have S:w.heap.size+6<W.heap.size:=by omega
  have cu:i<(Ar 10 t).length:=(Xf.1 hp).1;have bB:=JO 10 t;have cK:=Jl hp;have cr:W.cell? ⟨w.heap.size,0,none⟩=some (.pointer (some ⟨rb,0,none⟩)):=by simp[Xg,d.cr,Ab]
  have cl:=d.rd.GH;rw[d.line] at cl;have fl:=d.rd.Ed 0;have cy:wrap64 ((i:Int)+1)=(i:Int)+1:=IntWalk.wrap64_in _ (by omega);have HS:Hid (∀u:Xh,XX Tryz.prog 106 #[.string (bs p)] u λe w'=>∃v,e = .returned v/\w'.ownsRow u.heap.size 9 1 v (CQ p).length ((CQ p).map Je)/\Below u.heap.size u w'):=λu=>VL p u (by omega);have HL:=Aa (Nv hp d.lines);have aX:Hid (rb≠w.heap.size):=λe=>by have:=d.own rb (by omega) (by omega);rw[d.rd.trd] at this;cases this
  have cS:=Aa Z;have H:=Aa d;rw[Z]
  cases hw:CQ p with
  |nil=>
   rw[hw] at HS;have a1:=Aa hw;clear hw d h aY k0 k1 k2 k3 k4 aE Z hp bB bh
   gi_wp2_with (refine⟨trivial,rfl,?_⟩;gi_at_call 106;refine(Zx l (X4.2 (HS.out _))).mono ?_;rintro e P ⟨v,rfl,A,aW⟩;obtain⟨va,av,rfl⟩:=At A)
   have d:=H.out;obtain⟨Q,F,U⟩:=d.count aW;refine⟨ND F S d.own,O,_,s,X,d.ext aM S F Q U d.ok (HL.out.1 s ?_) (by simp) (by show G.las.length<=_;have:=d.las;omega)⟩;unfold CF;rw[a1.out]
  |cons f ts=>
   rw[hw] at HS;have a1:=Aa hw;have br:=OO p;have cL:=OP (t:=p) (p:=f) (by rw[hw];simp);rw[hw] at br;simp only[XH] at br;have cg:Hid (∀u b2 G' s' X',FI w base rb nb lb w.heap.size t i u b2 G' s' X'->True):=λ_ _ _ _ _ _=>trivial;clear hw d h aY k0 k1 k2 k3 k4 aE Z hp bh cg
   gi_wp2_with (refine⟨trivial,rfl,?_⟩;gi_at_call 106;refine(Zx l (X4.2 (HS.out _))).mono ?_;rintro e P ⟨v,rfl,A,aW⟩;obtain⟨J,av,rfl⟩:=ownsRow_succ (k:=ts.length) A)
   have d:=H.out;obtain⟨Q,F,U⟩:=d.count aW;have aZ:=A.lt J rfl;simp only[World.size_setCell] at aZ;have be:O J = .o:=by
    cases R:O J with
    |o=>rfl
    |_=>exact absurd (d.rd.tlt J (by rw[R];simp)).2 (by omega)
   have T:Ah P O P.drew O:=⟨rfl,rfl,rfl,Xd _,λ_ _=>rfl,λ_ _ _=>rfl⟩;have a8:∀j,P.cell? ⟨J,j,none⟩=if j<ts.length+1 then((f::ts).map Je)[j]? else P.cell? ⟨J,j,none⟩:=λj=>by
    split
    ·rename_i hj;exact A.cellAt j (by simpa using hj)
    ·rfl
   have c0:P.cell? ⟨J,0,none⟩=some (.string (bs f)):=by rw[a8 0,if_pos (by omega)];rfl
   have cv:ts.length+1<=av:=by
    rcases A.2 with⟨e,_⟩|⟨g,c',bW,e,_,_,h4,_⟩
    ·cases e
    ·cases e;exact h4
   have bv:CZ P O (if av=1 then some ⟨J,0,none⟩ else some ⟨J,1,none⟩) ts:=λj hj=>⟨J,1,if_neg (by omega),aZ.2,by
    rw[a8 (1+j),if_pos (by omega),Xs,Nat.add_comm 1 j,List.getElem?_cons_succ,Xe hj,List.getD_eq_getElem?_getD,Xe hj];rfl,be⟩
   have bq:G.bods=[]\/∃a bc,G.bods.getLast?=some a/\G.B a=some bc/\bc.ins.length<=24:=by
    rcases List.eq_nil_or_concat X with e|⟨X0,x,e⟩
    ·exact .inl (by rw[d.link.bods,e];rfl)
    ·rw[List.concat_eq_append] at e;have r:=d.link.each x (by rw[e];simp);exact .inr ⟨x.a,x.c,by rw[d.link.bods,e];simp,r.b,by rw[r.len];exact r.small⟩
   have b7:G.bods.length<=4:=by
    have e1:G.bods.length=X.length:=by rw[d.link.bods,Xp]
    have e2:s.bod.length=X.length:=by rw[d.link.bod,Xp]
    have:=d.ok.thr;have:=d.ok.few 116
    omega
   have hT:=Vo (w:=P.drew) (Al.keep (w':=P.drew) Q (λ_ _=>rfl) T) bq f (if av=1 then some ⟨J,0,none⟩ else some ⟨J,1,none⟩) ts.length (av - 1) ts rfl (CZ.ext (w':=P.drew) bv T) (by omega) (λk=>by show (G.nms k).length+ts.length<_;rw[d.link.nms];have:=d.ok.few k;omega) (by show G.bods.length<_;omega) (by show G.las.length+ts.length<_;have:=d.las;omega);have bY:P.cell? ⟨w.heap.size,0,none⟩=some (.pointer (some ⟨rb,0,none⟩)):=(Xy (w:=W) (a:=⟨w.heap.size,0,none⟩) (F.block w.heap.size (by omega) (d.own w.heap.size (by omega) (by omega)))).trans cr;have bT:Tryz.prog.follows .mixedOrders=true:=by kernel_rfl
   have HE:=Aa (⟨Q,F,U,T⟩:_/\_/\_/\_);unfold Ab at hT;replace hT:=Aa hT;have aw:P.drew.cell? ⟨w.heap.size,0,none⟩=some (.pointer (some ⟨rb,0,none⟩))/\P.drew.cell? ⟨J,0,none⟩=some (.string (bs f)):=⟨bY,c0⟩;have bx:(1:Int)<=(ts.length:Int)+1:=by omega
   have cx:(ts.length:Int)+1<=av:=by omega
   have bk:=Aa (⟨be,aZ.2⟩:_/\_);clear a8 bv bq b7 Q F U T d A aW aZ be;refine QI (λw'=>w'.cell? ⟨w.heap.size,0,none⟩=some (.pointer (some ⟨rb,0,none⟩))/\w'.cell? ⟨J,0,none⟩=some (.string (bs f))) bT ?_;refine GJ (i:=0) (v:=?_) rfl (by kernel_rfl) (λ_ _ _ h=>h) (by kernel_rfl) (by kernel_rfl) ⟨by rfl,?_,λ_=>rfl⟩ aw ?_
   rotate_left
   ·intro w9 M;(try dsimp only at M);obtain⟨aC,aH⟩:=M;go_simp;try with_reducible rfl
   simp only[Act.put,ZG,Zo,Zp,XV,X9,X7];refine GJ (i:=1) (v:=?_) rfl (by kernel_rfl) (λ_ _ _ h=>h) (by kernel_rfl) (by kernel_rfl) ⟨by rfl,?_,λ_=>rfl⟩ aw ?_
   rotate_left
   ·intro w9 M;(try dsimp only at M);obtain⟨aC,aH⟩:=M;go_simp;try with_reducible rfl
   simp only[Act.put,ZG,Zo,Zp,XV,X9,X7];refine GJ (i:=2) (v:=?_) rfl (by kernel_rfl) (λ_ _ _ h=>h) (by kernel_rfl) (by kernel_rfl) ⟨by rfl,?_,λ_=>rfl⟩ aw ?_
   rotate_left
   ·intro w9 M;(try dsimp only at M);obtain⟨aC,aH⟩:=M;go_simp;try with_reducible rfl
   simp only[Act.put,ZG,Zo,Zp,XV,X9,X7];refine GJ (i:=3) (v:=?_) rfl (by kernel_rfl) (λ_ _ _ h=>h) (by kernel_rfl) (by kernel_rfl) ⟨by rfl,?_,λ_=>rfl⟩ aw ?_
   rotate_left
   ·intro w9 M;(try dsimp only at M);obtain⟨aC,aH⟩:=M;go_simp;try with_reducible rfl
   simp only[Act.put,ZG,Zo,Zp,XV,X9,X7];refine GJ (i:=4) (v:=?_) rfl (by kernel_rfl) (λ_ _ _ h=>h) (by kernel_rfl) (by kernel_rfl) ⟨by rfl,?_,λ_=>rfl⟩ aw ?_
   rotate_left
   ·intro w9 M;(try dsimp only at M);obtain⟨aC,aH⟩:=M;go_simp;try with_reducible rfl
   simp only[Act.put,ZG,Zo,Zp,XV,X9,X7];refine GJ (i:=5) (v:=?_) rfl (by kernel_rfl) (λ_ _ _ h=>h) (by kernel_rfl) (by kernel_rfl) ⟨by rfl,?_,λ_=>rfl⟩ aw ?_
   rotate_left
   ·intro w9 M;(try dsimp only at M);obtain⟨aC,aH⟩:=M;go_simp;try with_reducible rfl
   simp only[Act.put,ZG,Zo,Zp,XV,X9,X7];refine NK (i:=6) (by kernel_rfl) rfl (λK m=>?_)
   go_simp
   refine⟨trivial,rfl,?_⟩
   gi_at_call 107
   refine(Zx l (X4.2 hT.out)).mono ?_;rintro e w6 (⟨t6,G6,rfl,bX,aP,b5⟩|⟨t6,e6,rfl,aP,ca⟩)
   ·obtain⟨Q,F,U,T⟩:=HE.out;have r:=F.trans (T.trans aP);have d:=H.out;have c1:w6.cell? ⟨w.heap.size,0,none⟩=some (.pointer (some ⟨rb,0,none⟩)):=(Xy (w:=W) (a:=⟨w.heap.size,0,none⟩) (r.block w.heap.size (by omega) (d.own w.heap.size (by omega) (by omega)))).trans cr;have c2:w6.cell? ⟨J,0,none⟩=some (.string (bs f)):=(Xy (w:=P) (a:=⟨J,0,none⟩) ((T.trans aP).block J bk.out.2 bk.out.1)).trans c0;refine m _ _ ⟨c1,c2⟩ ?_;clear m K;refine SL (by kernel_rfl) ?_;obtain⟨s',X',q1,q2,q3,q4,q5⟩:=Vk b5 U d.ok (Al.fresh (w:=P.drew) (Al.keep (w':=P.drew) Q (λ_ _=>rfl) T));have a2:CF (0+(i:Int)+1) p s = .ok s':=by unfold CF;rw[a1.out,Int.zero_add];exact q1
    have b3:=d.ext (j:=i+1) aM S r bX q2 q3 (HL.out.1 s' a2) (by rw[q5];simp) (by have:=d.las;have q4:G6.las.length<=G.las.length+3:=q4;omega)
    exact⟨ND r S d.own,t6,G6,s',X',b3⟩
   ·obtain⟨Q,F,U,T⟩:=HE.out;have r:=F.trans (T.trans aP);have d:=H.out;have q1:=Vn ca U;have a2:CF (0+(i:Int)+1) p s = .error e6:=by unfold CF;rw[a1.out,Int.zero_add];exact q1
    have bn:=HL.out.2 e6 a2;rw[Int.zero_add] at bn
    exact⟨rfl,ND r S d.own,d.fault aM S r bn⟩
 case panic=>
  intro cw W hX Y;rw[Z] at Y |-;obtain⟨e,l,rfl,hl⟩:=hX.ex;refine Sf (x:=0) (y:=0) rfl Y hX.cf (λW' h1 h2 h3 h4 h5=>⟨⟨h3.trans hX.low.os,h4.trans hX.low.tape,h5.trans hX.low.output,Xu hX.low.size h2,λb z=>(h1 b (by have:=hX.low.size;omega) (by omega) (by omega)).trans (hX.low.block b z)⟩,.inl ⟨e,l,Rj hl,rfl⟩⟩)
 case done=>
  rintro W ⟨O,G,s,X,d⟩ Y;rw[Z] at Y |-;have aF:=d.lines;rw[List.take_length] at aF;have S:w.heap.size+5<W.heap.size:=(Xa.1 Y).1;have cr:W.cell? ⟨w.heap.size,0,none⟩=some (.pointer (some ⟨rb,0,none⟩)):=by simp[Xg,d.cr,Ab]
  have bG:=d.rd.Ny;obtain⟨la,cN,hV⟩:=JU d.rd.lrow;rw[Xp] at hV;rw[hV] at bG;have bB:=JO 10 t;have cJ:G.las.length<1048576:=by have:=d.las;omega
  have bz:Hid (Uo W O base rb nb lb G s X 0 W G.I):=⟨d.rd,Ah.refl W O,by simp,λ_ h=>h⟩;replace hV:=Aa hV;replace aF:=Aa aF;have H:=Aa d;replace Y:=Aa Y;have cP:=Aa Z;replace S:=Aa S;clear d h aY k0 k1 k2 k3 k4 aE Z o0 t0 p0;refine Ha ?_
  gi_wp2
  gi_loopw [37] (λiv wr=>∃(j:Nat) (I:Nat->Option Ad),j<=G.las.length/\iv = .int .i64 j/\Uo W O base rb nb lb G s X j wr I) (λiv _=>G.las.length - (intOf iv).toNat)
  case atStart=>exact⟨0,G.I,Nat.zero_le _,rfl,bz.out⟩
  case round=>
   clear bz bG cr;obtain⟨j,I,hj,rfl,m⟩:=hrel;have d:=H.out
   by_cases h5:j<G.las.length
   ·obtain⟨c,hc⟩:∃c,G.las[j]?=some c:=⟨_,Xe h5⟩;obtain⟨x,p,q,e1,e2,e3,e4,e5,e6,e7,e8⟩:=d.link.aca hc;have r:=d.link.each x e2;obtain⟨i,hi⟩:∃i,I c.ia=some i:=by
     obtain⟨i0,bH⟩:=r.addr e8;rw[<-e3] at bH;exact Option.isSome_iff_exists.1 (m.some c.ia (by rw[bH];rfl))
    have hM:EK wr O c.tb (Fu s.N x.pb.labs c.kd):=by
     unfold Fu;rw[e4,e5]
     by_cases h6:q.1=116
     ·rw[if_pos h6,if_pos h6,<-d.link.N];exact m.rd.names
     ·rw[if_neg h6,if_neg h6,<-r.labs];exact(m.rd.bodies x.a x.c r.b).labs
    have hC:=aew m.rd (c:=c) (XA hc) hi hM;have A:=m.rd.lrow.row;have A:wr.ownsRow base 1 1 G.lV (G.las.map Cc.val).length (G.las.map Cc.val):=A;rw[Xp] at A;obtain⟨gl,rfl⟩:∃g,la=some ⟨g,0,none⟩:=by
     rcases A.2 with⟨_,e⟩|⟨g,cap,bW,e,_⟩
     ·omega
     ·rw[hV.out] at e;cases e;exact⟨_,rfl⟩
    rw[hV.out] at A;have cc:wr.cell? ⟨gl,j,none⟩=some c.val:=by rw[A.cellAt j (by omega),Xs,hc];rfl
    have bh:(j:Int)<(G.las.length:Int):=by omega
    have hQ:((X.flatMap Eg).map (CA s.N)).drop j=⟨c.ia,c.kd,c.nm,c.ln,Fu s.N x.pb.labs c.kd⟩::((X.flatMap Eg).map (CA s.N)).drop (j+1):=by
     have hg:((X.flatMap Eg).map (CA s.N))[j]?=some ⟨c.ia,c.kd,c.nm,c.ln,Fu s.N x.pb.labs c.kd⟩:=by
      rw[Xs,e1,e3,e5,e6,e7];rfl
     obtain⟨bU,e⟩:=Xf.1 hg;rw[List.drop_eq_getElem_cons bU,e]
    unfold Cc.val at cc;have HE:=Aa (⟨m,hi,hQ⟩:_/\_/\_);unfold Ab at hC cc;clear m hM hi hQ r e1 e2 e3 e4 e5 e6 e7 e8 d A;clear A
    gi_wp2_with fail
    refine⟨trivial,?_⟩
    gi_at_call 228
    refine(X4.2 hC).mono ?_;rintro e w6 (⟨n,q1,rfl,q3,q4⟩|⟨q1,rfl,q3⟩)
    ·gi_wp2
     go_roundw
     case rel=>
      obtain⟨m,hi,hQ⟩:=HE.out;refine⟨j+1,BY I c.ia {i with x:=(n:Int)},by omega,by go_num,q3,m.ext.trans q4,?_,λia h=>?_⟩
      ·rw[m.run,hQ]
       conv=>lhs;unfold Db
       show (match Fu s.N x.pb.labs c.kd c.nm with|some p=>_|none=>_)=_;rw[q1];show (if c.kd=c.kd then _ else _)=_;rw[if_pos rfl];show (match I c.ia with|some i=>_|none=>_)=_;rw[hi]
      ·unfold BY
       split
       ·rfl
       ·exact m.some ia h
     case measure=>simp[intOf];omega
    ·obtain⟨m,hi,hQ⟩:=HE.out;have d:=H.out;have ar:Db ((X.flatMap Eg).map (CA s.N)) G.I = .error c.ln:=by
      rw[m.run,hQ];unfold Db;show (match Fu s.N x.pb.labs c.kd c.nm with|some p=>_|none=>_)=_
      cases R:Fu s.N x.pb.labs c.kd c.nm with
      |none=>rfl
      |some p'=>
       show (if p'.1=c.kd then _ else _)=_;rw[if_neg];intro e;exact q1 p'.2 (by rw[R,<-e])
     have cm:DF s.N s.bod = .error c.ln:=by
      rw[d.link.bod]
      rcases MH s.N X G.I d.link.ndi (λx r=>⟨(d.link.each x r).len,(d.link.each x r).ins⟩) with⟨C,I',_,_,_,_,g5⟩|⟨e,Q,F⟩
      ·rw[ar] at g5;cases g5
      ·rw[ar] at F;cases F;exact Q
     have r:=m.ext.trans q3;have hzw:=S.out;refine Sf (n:=w.heap.size) (x:=0) (y:=0) rfl ((r.block _ hzw (d.own (w.heap.size+5) (by omega) (by omega))).trans Y.out) ((r.block (w.heap.size+1) (by omega) (d.own (w.heap.size+1) (by omega) (by omega))).trans d.cf) (λW' h1 h2 h3 h4 h5=>⟨⟨h3.trans (r.os.trans d.low.os),h4.trans (r.tape.trans d.low.tape),h5.trans (r.output.trans d.low.output),Xu d.low.size (Xu r.size h2),λb z=>(h1 b (by have:=r.size;omega) (by omega) (by omega)).trans ((r.block b (by omega) (d.rd.low z)).trans (d.low.block b z))⟩,.inl ⟨5,c.ln,Ri aF.out cm,rfl⟩⟩)
   ·have bo:j=G.las.length:=by omega
    subst bo;have cd:((X.flatMap Eg).map (CA s.N)).length=G.las.length:=by
     have:=congrArg List.length d.link.keys;rw[Xp,Sm,Xp] at this;rw[Xp,this]
    have ar:Db ((X.flatMap Eg).map (CA s.N)) G.I = .ok I:=by
     rw[m.run,List.drop_of_length_le (by omega)];rfl
    rcases MH s.N X G.I d.link.ndi (λx r=>⟨(d.link.each x r).len,(d.link.each x r).ins⟩) with⟨C,I',Q,F,U,g4,g5⟩|⟨e,Q,F⟩
    case inr=>rw[ar] at F;cases F
    rw[ar] at g5;have eI:I=I':=Except.ok.inj g5;subst eI;have a9:G.bods.length=X.length:=by rw[d.link.bods,Xp]
    have bx:s.bod.length=X.length:=by rw[d.link.bod,Xp]
    have cq:=d.ok.thr;have cp:=d.ok.few 116;have bS:=aes m.rd C (by show C.length=G.bods.length;omega) (by show (G.nms 116).length=G.bods.length;rw[d.link.nms];omega) (λk a is ha bb=>by
     have ha:G.bods[k]?=some a:=ha;rw[d.link.bods,Xs] at ha;obtain⟨x,r,rfl⟩:=Option.map_eq_some_iff.1 ha;have z:=d.link.each x (XA r);obtain⟨m1,m2⟩:=g4 k x is r bb;have:=z.small;have:=z.len;refine⟨x.c,z.b,m1.symm,by omega,λj ia hj=>?_⟩;have bo:=(Xf.1 hj).1
     exact⟨_,Xe (by omega),m2 j ia _ hj (Xe (by omega))⟩) (by show G.bods.length<_;omega)
    have hzw:=S.out;have cr:wr.cell? ⟨w.heap.size,0,none⟩=some (.pointer (some ⟨rb,0,none⟩)):=(Xy (w:=W) (a:=⟨w.heap.size,0,none⟩) (m.ext.block w.heap.size (by omega) (d.own w.heap.size (by omega) (by omega)))).trans (by simp[Xg,d.cr,Ab]);have aX:rb≠w.heap.size+1:=λe=>by have:=d.own (w.heap.size+1) (by omega) (by omega);rw[<-e,d.rd.trd] at this;cases this
    have bA:∀D:Xh,(∀b,b<wr.heap.size->b≠rb->D.heap[b]?=wr.heap[b]?)->D.heap[w.heap.size+1]?=some (.cells #[.int .i64 0,.int .i64 0] 138):=λD h7=>(h7 (w.heap.size+1) (by have:=m.ext.size;omega) (λe=>aX e.symm)).trans ((m.ext.block (w.heap.size+1) (by omega) (d.own (w.heap.size+1) (by omega) (by omega))).trans d.cf);have HE:=Aa (⟨m,Q,bA,aX⟩:_/\_/\_/\_);unfold Ab at bS;clear m d Q F U g4 g5 ar cd a9 bx cq cp bA
    gi_wp2_with (refine⟨trivial,?_⟩;gi_at_call 108;refine(X4.2 bS).mono ?_;rintro e D ⟨rfl,bM,L,E,ci⟩;have ab:=HE.out.2.2.1 D E.old;have d0:D.cell? ⟨w.heap.size+1,0,none⟩=some (.int .i64 0):=(by simp[Xg,ab]);have d1:D.cell? ⟨w.heap.size+1,1,none⟩=some (.int .i64 0):=(by simp[Xg,ab]);have f0:D.frozen? ⟨w.heap.size+1,0,none⟩=false:=(by simp[XP,ab]);have f1:D.frozen? ⟨w.heap.size+1,1,none⟩=false:=(by simp[XP,ab]);replace ab:=Aa ab;replace E:=Aa E)
    obtain⟨m,Q,_,_⟩:=HE.out;have d:=H.out;have E:=E.out;have cA:=E.size;have cR:=m.ext.size;have bj:rb≠w.heap.size+5:=λe=>by have:=d.own (w.heap.size+5) (by omega) (by omega);rw[<-e,d.rd.trd] at this;cases this
    have cM:=m.rd.lt m.rd.trd (by simp);have cQ:=(m.rd.tlt rb (by rw[m.rd.trd];simp)).1;have h8:∀b,b≠w.heap.size+1->((D.setCell ⟨w.heap.size+1,0,none⟩ (.int .i64 0)).setCell ⟨w.heap.size+1,1,none⟩ (.int .i64 0)).heap[b]?=D.heap[b]?:=λb z=>(Xo _ ⟨w.heap.size+1,1,none⟩ _ b z).trans (Xo _ ⟨w.heap.size+1,0,none⟩ _ b z);have cj:((D.setCell ⟨w.heap.size+1,0,none⟩ (.int .i64 0)).setCell ⟨w.heap.size+1,1,none⟩ (.int .i64 0)).heap.size=D.heap.size:=by simp
    have bi:D.heap[w.heap.size+5]?=some (.deferred (some [])):=(E.old _ (by omega) (λe=>bj e.symm)).trans ((m.ext.block _ hzw (d.own (w.heap.size+5) (by omega) (by omega))).trans Y.out);refine ab5 (n:=w.heap.size) (e:=0) (l:=0) rfl ((h8 _ (by omega)).trans bi) (by rw[Xj _ _ 1 _ _ _ (Xj _ _ 0 _ _ _ ab.out)];rfl) (λW' h1 h2 h3 h4 h5=>?_);rw[cj] at h1 h2;have h7:∀b,b<D.heap.size->b≠w.heap.size+1->b≠w.heap.size+5->W'.heap[b]?=D.heap[b]?:=λb z e1 e2=>(h1 b z e2).trans (h8 b e1);have A:∀{v:Xk} {l:List Tx} {k:Int},Du wr O base 9 k v (l.map BV)->D.ownsRow base 9 1 v l.length (l.map BV):=λ{v l k} hr=>by
     have:=hr.row;rw[Xp] at this;exact BA this λg e=>E.old g (this.lt g e).2 (Co (hr.tg g e) m.rd.trd (by simp))
    have ck:BS D base (G.V 118) (G.V 102) (G.V 109) bM (G.nms 118) (G.nms 102) (G.nms 109) L C:=⟨A (m.rd.rows 118 (.inl rfl)),A (m.rd.rows 102 (.inr (.inl rfl))),A (m.rd.rows 109 (.inr (.inr (.inl rfl)))),Dt E.row (by have:=m.rd.g3;omega),λi p is hp bb=>Dt (E.codes i p is hp bb) (by have:=m.rd.g3;omega),E.len⟩;have aO:W'.heap[rb]?=D.heap[rb]?:=h7 rb (by omega) aX bj;refine⟨⟨h3.trans (E.os.trans (m.ext.os.trans d.low.os)),h4.trans (E.tape.trans (m.ext.tape.trans d.low.tape)),h5.trans (E.output.trans (m.ext.output.trans d.low.output)),by have:=d.low.size;omega,λb z=>?_⟩,.inr ⟨s,C,Rg aF.out (by rw[d.link.bod];exact Q),rfl,⟨G.V 118,G.V 102,G.V 109,bM,L,?_,?_,?_,?_,?_,by rw[<-d.link.nms];exact ci⟩⟩⟩
    ·rw[h7 b (by omega) (by omega) (by omega),E.old b (by omega) (by omega),m.ext.block b (by omega) (d.rd.low z)];exact d.low.block b z
    ·simp[Xg,aO,E.cell]
    ·simp[Xg,aO,E.cell]
    ·simp[Xg,aO,E.cell]
    ·simp[Xg,aO,E.cell]
    ·rw[<-d.link.nms];refine ck.kept λb z a9 bt=>h7 b a9 (λe=>bt ?_) (λe=>bt ?_)
     ·intro cs e' R;rw[e,ab.out] at R;simp only[YP,Obj.cells.injEq] at R;rw[<-R.2.1];decide
     ·intro cs e' R;rw[e,bi] at R;cases R
theorem TI {kd:Int} {ts:List Tx} {s:PS} {e:Int} (h:Ci kd ts s = .error e):e≠0:=by
 unfold Ci at h
 split at h
 ·cases h;decide
 ·split at h
  ·cases h;decide
  ·split at h
   ·cases h;decide
   ·cases h
theorem VF {n:Int} {f:Tx} {ts:List Tx} {s:PS} {e:Int} (h:stepT n f ts s = .error e):e≠0:=by
 unfold stepT at h
 split at h
 ·split at h
  ·cases a:Ci 116 ts s with
   |error b=>rw[a] at h;cases h;exact TI a
   |ok s'=>rw[a] at h;cases h
  ·cases h;decide
 ·split at h
  ·exact TI h
  ·split at h
   ·unfold Ge at h
    split at h
    ·cases h;decide
    ·split at h
     ·cases h;decide
     ·cases h
   ·unfold ES at h
    split at h
    ·cases h;decide
    ·split at h
     ·cases h;decide
     ·split at h
      ·cases h;decide
      ·split at h
       ·cases h;decide
       ·cases h
theorem ab0 {ls:List Tx} {n:Int} {s:PS} {p:Int×Int} (h:CJ ls n s = .error p):p.1≠0:=by
 induction ls generalizing n s with
 |nil=>cases h
 |cons l ls b=>
  unfold CJ at h
  split at h
  ·exact b h
  ·rename_i e a
   cases h
   unfold CF at a
   split at a
   ·cases a
   ·exact VF a
theorem Rk {t:Tx} {e l:Int} (h:Em t = .error (e,l)):e≠0:=by
 unfold Em at h
 split at h
 ·rename_i p a
  cases h
  exact ab0 a
 ·split at h
  ·cases h;decide
  ·cases h
def BO (t:Tx):Except (Int×Int) (PS×List (List Ad)):=if 3000<t.length then .error (1,0) else Em t
def Md (w:Xh) (t:Tx) (e:Ending) (w':Xh):Prop:=Below w.heap.size w w'/\((∃er ln,BO t = .error (er,ln)/\e = .returned (.tuple #[.agg #[.slice none 0 0,.slice none 0 0,.slice none 0 0,.slice none 0 0],.int .i64 er,.int .i64 ln]))\/
 (∃s C vV fV lV thV L,BO t = .ok (s,C)/\e = .returned (.tuple #[.agg #[vV,fV,lV,thV],.int .i64 0,.int .i64 0])/\BS w' w.heap.size vV fV lV thV (s.nms 118) (s.nms 102) (s.nms 109) L C/\L.map Prod.fst=s.nms 116))
theorem Lh {w:Xh} {fn:Func} {tmps:Array Xk} {b:Nat} {x y d f e c:Xk} (g:fn.results = #[.cell 2 25,.tmp 3,.tmp 4]) (i:tmps[2]?=some (.pointer (some ⟨b,0,none⟩))) (j:tmps[3]?=some x) (h:tmps[4]?=some y) (a:w.heap[b]?=some (.cells #[d,f,e,c] 25)):(results fn tmps).run Tryz.prog w = .ok (.tuple #[.agg #[d,f,e,c],x,y]) w:=by
 have c0:w.cell? ⟨b,0,none⟩=some d:=by simp[Xg,a]
 have c1:w.cell? ⟨b,1,none⟩=some f:=by simp[Xg,a]
 have c2:w.cell? ⟨b,2,none⟩=some e:=by simp[Xg,a]
 have c3:w.cell? ⟨b,3,none⟩=some c:=by simp[Xg,a]
 simp[results,g,i,j,h,go_sem,c0,c1,c2,c3]
theorem SU {w:Xh} {n T:Nat} {k m l j:Xk} (e:w.heap[n]?=some (.cells #[k,m,l,j] T)) (f d g c:Xk) (o:Obj):∃W,(((((w.setCell ⟨n,0,none⟩ f).setCell ⟨n,1,none⟩ d).setCell ⟨n,2,none⟩ g).setCell ⟨n,3,none⟩ c).alloc o)=W/\W.heap[n]?=some (.cells #[f,d,g,c] T)/\(∀b,b<w.heap.size->b≠n->W.heap[b]?=w.heap[b]?)/\w.heap.size<=W.heap.size/\W.os=w.os/\W.tape=w.tape/\W.output=w.output:=by
 have i:n<w.heap.size:=(Xa.1 e).1;refine⟨_,rfl,?_,λb h a=>?_,by simp,rfl,rfl,rfl⟩
 ·rw[Xv _ _ n (by simpa using i),Xj _ _ 3 _ _ _ (Xj _ _ 2 _ _ _ (Xj _ _ 1 _ _ _ (Xj _ _ 0 _ _ _ e)))]
  rfl
 ·rw[Xv _ _ b (by simpa using h),Xo _ ⟨n,3,none⟩ _ b a,Xo _ ⟨n,2,none⟩ _ b a,Xo _ ⟨n,1,none⟩ _ b a,Xo _ ⟨n,0,none⟩ _ b a]
theorem BS.base {w:Xh} {base d:Nat} {e g lV b:Xk} {vs fs ls:List Tx} {L:List (Tx×Xk)} {C:List (List Ad)} (h:BS w base e g lV b vs fs ls L C) (a:d<=base):BS w d e g lV b vs fs ls L C:=
 ⟨Dt h.v a,Dt h.f a,Dt h.l a,Dt h.t a,λi p is j k=>Dt (h.c i p is j k) a,h.len⟩
theorem aa1 (t:Tx) (w:Xh) (T:GX w) (V:GU w) (S:2<w.heap.size) (X:3<w.heap.size) (aH:t.length<140737488355328) :
 XX Tryz.prog 20 #[.string (bs t)] w (Md w t):=by
 have hz:=Ba t
 by_cases R:3000<t.length
 ·have ad:(3000:Int)<(t.length:Int):=by omega
  have I:Hid (BO t = .error (1,0)):=by unfold Hid BO;rw[if_pos R]
  have z:Hid (∀x,Below w.heap.size w (w.alloc x)):=λx=>(Xq _ _).alloc (Xd _) _
  go_enter Tryz.func20,Tryz.ntmps20
  go_wp2_with fail
  exact XJ (Lh rfl rfl rfl rfl (Xi w _)) rfl ⟨z.out _,.inl ⟨1,0,I.out,rfl⟩⟩
 ·have ad:¬(3000:Int)<(t.length:Int):=by omega
  have I:Hid (BO t=Em t):=by unfold Hid BO;rw[if_neg R]
  obtain⟨w1,m⟩:∃w1,w.alloc (.cells #[.slice none 0 0,.slice none 0 0,.slice none 0 0,.slice none 0 0] 25)=w1:=⟨_,rfl⟩;have G:w1.heap.size=w.heap.size+1:=by rw[<-m];simp
  have q:Below w.heap.size w w1:=by rw[<-m];exact(Xq _ _).alloc (Xd _) _
  have ak:w1.heap[w.heap.size]?=some (.cells #[.slice none 0 0,.slice none 0 0,.slice none 0 0,.slice none 0 0] 25):=by rw[<-m];exact Xi w _
  have P:=abm w1 (T.kept (q.block _ S)) (V.kept (q.block _ X)) (by omega) (by omega);have U:Hid (∀(u:Xh) (r:Nat->RT),Al u r w1.heap.size (w1.heap.size+1) w1.heap.size (w1.heap.size+1+1) RG.new->Ah w1 (λ_=>.o) u r->XX Tryz.prog 48 #[.pointer (some ⟨w1.heap.size+1,0,none⟩),.string (bs t)] u λe y=>Below w.heap.size w y/\y.heap[w.heap.size]?=some (.cells #[.slice none 0 0,.slice none 0 0,.slice none 0 0,.slice none 0 0] 25)/\((∃p A,Em t = .error (p,A)/\e = .returned (.agg #[.int .i64 p,.int .i64 A]))\/(∃s C,Em t = .ok (s,C)/\e = .returned (.agg #[.int .i64 0,.int .i64 0])/\Uk y w1.heap.size (w1.heap.size+1) s C))):=λu r B j=>by
   refine(aaf B t (by omega)).mono ?_;rintro e y ⟨d,Z⟩;have Q:∀b,b<w1.heap.size->y.heap[b]?=w1.heap[b]?:=λb h=>(d.block b h).trans (j.block b h rfl);have:=j.size
   exact⟨⟨d.os.trans (j.os.trans q.os),d.tape.trans (j.tape.trans q.tape),d.output.trans (j.output.trans q.output),by have:=d.size;omega,λb h=>(Q b (by omega)).trans (q.block b h)⟩,(Q _ (by omega)).trans ak,Z⟩
  replace m:=Aa m;replace G:=Aa G;unfold Ab at P;clear T V S X
  go_enter Tryz.func20,Tryz.ntmps20
  go_wp2_with fail
  rw[m.out];refine P.mono ?_;rintro e w2 ⟨rfl,r,B,j⟩;have aj:=U.out w2 r B j;clear U P B j
  go_wp2_with fail
  refine aj.mono ?_;rintro e w3 ⟨d,g,(⟨p,A,H,rfl⟩|⟨s,C,D,rfl,Y⟩)⟩
  ·have az:=Rk H;have aF:(p != 0)=true:=by simpa using az
   have aw:w.heap.size<w3.heap.size:=(Xa.1 g).1;have c0:w3.cell? ⟨w.heap.size,0,none⟩=some (.slice none 0 0):=by simp[Xg,g]
   have c1:w3.cell? ⟨w.heap.size,1,none⟩=some (.slice none 0 0):=by simp[Xg,g]
   have c2:w3.cell? ⟨w.heap.size,2,none⟩=some (.slice none 0 0):=by simp[Xg,g]
   have c3:w3.cell? ⟨w.heap.size,3,none⟩=some (.slice none 0 0):=by simp[Xg,g]
   have f0:∀i,w3.frozen? ⟨w.heap.size,i,none⟩=false:=λi=>by simp[XP,g]
   have z:=Aa d;replace g:=Aa g;replace H:=Aa H;clear d
   go_wp2_with fail
   go_region
   all_goals
    go_wp2_with fail
    obtain⟨W,M,O,F,k3,J,K,N⟩:=SU g.out (.slice none 0 0) (.slice none 0 0) (.slice none 0 0) (.slice none 0 0) (.cells #[.int .i64 p,.int .i64 A] 138);rw[M];have d:=z.out;exact XJ (Lh rfl rfl rfl rfl O) rfl ⟨⟨J.trans d.os,K.trans d.tape,N.trans d.output,by have:=d.size;show _<=W.heap.size;omega,λb h=>(F b (by have:=d.size;omega) (by omega)).trans (d.block b h)⟩,.inl ⟨p,A,by rw[I.out];exact H.out,rfl⟩⟩
  ·obtain⟨vV,fV,lV,ah,L,r1,r2,r3,r4,k,E⟩:=Y.ex;have aB:w1.heap.size+1<w3.heap.size:=World.block_lt_of_cell? w3 ⟨w1.heap.size+1,1,none⟩ r1;have aw:w.heap.size<w3.heap.size:=(Xa.1 g).1;have c0:w3.cell? ⟨w.heap.size,0,none⟩=some (.slice none 0 0):=by simp[Xg,g]
   have c1:w3.cell? ⟨w.heap.size,1,none⟩=some (.slice none 0 0):=by simp[Xg,g]
   have c2:w3.cell? ⟨w.heap.size,2,none⟩=some (.slice none 0 0):=by simp[Xg,g]
   have c3:w3.cell? ⟨w.heap.size,3,none⟩=some (.slice none 0 0):=by simp[Xg,g]
   have f0:∀i,w3.frozen? ⟨w.heap.size,i,none⟩=false:=λi=>by simp[XP,g]
   have ac:(∃a n c,vV = .slice a n c)/\(∃a n c,fV = .slice a n c)/\(∃a n c,lV = .slice a n c)/\(∃a n c,ah = .slice a n c):=by
    obtain⟨a1,b1,e1⟩:=At k.v;obtain⟨a2,b2,e2⟩:=At k.f;obtain⟨a3,b3,e3⟩:=At k.l;obtain⟨a4,b4,e4⟩:=At k.t
    exact⟨⟨_,_,_,e1⟩,⟨_,_,_,e2⟩,⟨_,_,_,e3⟩,⟨_,_,_,e4⟩⟩
   have z:=Aa (⟨d,k,E,D⟩:_/\_/\_/\_);replace g:=Aa g;obtain⟨⟨x1,y1,z1,rfl⟩,⟨x2,y2,z2,rfl⟩,⟨x3,y3,z3,rfl⟩,⟨x4,y4,z4,rfl⟩⟩:=ac;clear d k E D Y
   go_wp2_with fail
   obtain⟨W,M,O,F,k3,J,K,N⟩:=SU g.out (.slice x1 y1 z1) (.slice x2 y2 z2) (.slice x3 y3 z3) (.slice x4 y4 z4) (.cells #[.int .i64 0,.int .i64 0] 138);rw[M];obtain⟨d,k,E,D⟩:=z.out;refine XJ (Lh rfl rfl rfl rfl O) rfl ⟨⟨J.trans d.os,K.trans d.tape,N.trans d.output,by have:=d.size;omega,λb h=>(F b (by have:=d.size;omega) (by omega)).trans (d.block b h)⟩,.inr ⟨s,C,_,_,_,_,L,by rw[I.out];exact D,rfl,?_,E⟩⟩
   exact(k.kept λb h an aN=>F b an (by have:=G.out;omega)).base (by have:=G.out;omega)
end Go.Proofs.YtdcacoifehkioaaGreatDoor
namespace Go.Proofs.YtdcacoifehkioaaGreatDoor
open Go.RowKit Go.Proofs.Cod
theorem Ko (l:List Tx) (t x:Tx):Aq (l++[t]) x=if Aq l x = -1 then(if t=x then(l.length:Int) else -1) else Aq l x:=by
 induction l with
 |nil=>simp[Aq]
 |cons y l d=>
  have e:=In l x;rw[YL];unfold Aq;rw[d]
  by_cases b:y=x
  ·simp[b]
  ·simp only[if_neg b]
   by_cases c:Aq l x = -1
   ·simp only[c,if_true]
    by_cases a:t=x
    ·simp only[a,if_true,XH];rw[if_neg (by omega)];omega
    ·simp[a]
   ·have a:¬Aq l x+1 = -1:=by omega
    simp[c,a]
def Fo (N:Tx->Option (Int×Nat)) (G:Int->List Tx):Prop:=∀t k n,N t=some (k,n)↔AU k/\Aq (G k) t=(n:Int)
def Ik (G:Int->List Tx) (t:Tx):Prop:=∃k,AU k/\Aq (G k) t≠-1
theorem Fo.free {N:Tx->Option (Int×Nat)} {G:Int->List Tx} (h:Fo N G) (t:Tx):N t=none↔¬Ik G t:=by
 constructor
 ·rintro e ⟨k,b,d⟩;have c:=In (G k) t;have:=(h t k (Aq (G k) t).toNat).2 ⟨b,by omega⟩;rw[e] at this;cases this
 ·intro e
  cases a:N t with
  |none=>rfl
  |some p=>
   obtain⟨k,n⟩:=p;have:=(h t k n).1 a;exact absurd ⟨k,this.1,by omega⟩ e
theorem Fo.put {N:Tx->Option (Int×Nat)} {G:Int->List Tx} (h:Fo N G) {t:Tx} (f:N t=none) {kd:Int} (d:AU kd):Fo (Be N t (kd,(G kd).length)) (AY G kd (G kd++[t])):=by
 have c:=(h.free t).1 f;intro x k n
 by_cases b:x=t
 ·subst b;have a:Be N x (kd,(G kd).length) x=some (kd,(G kd).length):=by simp[Be]
  rw[a]
  by_cases e:k=kd
  ·subst e;rw[Cm,Ko];have:Aq (G k) x = -1:=by
    by_cases q:Aq (G k) x = -1
    ·exact q
    ·exact absurd ⟨k,d,q⟩ c
   rw[if_pos this,if_pos rfl];simp only[YP,Prod.mk.injEq,true_and]
   exact⟨λq=>⟨d,by omega⟩,λq=>by omega⟩
  ·rw[CB _ e];constructor
   ·intro q;simp only[YP,Prod.mk.injEq] at q;exact absurd q.1.symm e
   ·rintro⟨i,j⟩;exact absurd ⟨k,i,by omega⟩ c
 ·have a:Be N t (kd,(G kd).length) x=N x:=by simp[Be,b]
  rw[a,h x k n]
  by_cases e:k=kd
  ·subst e;have g:¬t=x:=λe=>b e.symm;rw[Cm,Ko]
   by_cases q:Aq (G k) x = -1
   ·rw[if_pos q,if_neg g,q]
   ·rw[if_neg q]
  ·rw[CB _ e]
def HH (G:Int->List Tx) (ts:List Tx) (i:Nat):Prop:=Ik G (ts.getD i [])\/∃j,j<i/\ts.getD j []=ts.getD i []
theorem ac0 {G:Int->List Tx} {kd:Int} (d:AU kd) (t x:Tx):Ik (AY G kd (G kd++[t])) x↔Ik G x\/t=x:=by
 constructor
 ·rintro⟨k,b,a⟩
  by_cases e:k=kd
  ·subst e;rw[Cm,Ko] at a
   by_cases q:Aq (G k) x = -1
   ·rw[if_pos q] at a
    by_cases c:t=x
    ·exact .inr c
    ·rw[if_neg c] at a;exact absurd rfl a
   ·exact .inl ⟨k,b,q⟩
  ·rw[CB _ e] at a;exact .inl ⟨k,b,a⟩
 ·rintro(⟨k,b,a⟩|rfl)
  ·refine⟨k,b,?_⟩
   by_cases e:k=kd
   ·subst e;rw[Cm,Ko,if_neg a];exact a
   ·rw[CB _ e];exact a
  ·refine⟨kd,d,?_⟩;rw[Cm,Ko]
   by_cases q:Aq (G kd) t = -1
   ·rw[if_pos q,if_pos rfl];omega
   ·rw[if_neg q];exact q
theorem Tp {G:Int->List Tx} {kd:Int} (c:AU kd) (t:Tx) (ts:List Tx) (i:Nat):HH G (t::ts) (i+1)↔HH (AY G kd (G kd++[t])) ts i:=by
 unfold HH;rw[ac0 c];have a:(t::ts).getD (i+1) []=ts.getD i []:=by simp
 rw[a];constructor
 ·rintro(h|⟨j,b,e⟩)
  ·exact .inl (.inl h)
  ·cases j with
   |zero=>exact .inl (.inr (by simpa using e))
   |succ j=>exact .inr ⟨j,by omega,by simpa using e⟩
 ·rintro((h|h)|⟨j,b,e⟩)
  ·exact .inl h
  ·exact .inr ⟨0,by omega,by simpa using h⟩
  ·exact .inr ⟨j+1,by omega,by simpa using e⟩
theorem To {G:Int->List Tx} (t:Tx) (ts:List Tx):HH G (t::ts) 0↔Ik G t:=by
 unfold HH;constructor
 ·rintro(h|⟨j,a,_⟩)
  ·simpa using h
  ·omega
 ·exact λh=>.inl (by simpa using h)
theorem aaB {G:Int->List Tx} {kd:Int} (t:Tx) (ts:List Tx):AY (AY G kd (G kd++[t])) kd ((AY G kd (G kd++[t])) kd++ts)=AY G kd (G kd++(t::ts)):=by
 funext k
 by_cases e:k=kd
 ·subst e;simp[AY]
 ·simp[AY,e]
theorem TH {kd:Int} (f:AU kd):∀(ts:List Tx) (G:Int->List Tx) (N:Tx->Option (Int×Nat)),Fo N G->
 ((∃i,i<ts.length/\HH G ts i)->BF kd N (G kd) ts=none)/\((∀i,i<ts.length->¬HH G ts i)->∃d,BF kd N (G kd) ts=some (d,G kd++ts)/\Fo d (AY G kd (G kd++ts)))
 |[],G,N,h=>by
  refine⟨?_,λ_=>⟨N,by simp[BF],?_⟩⟩
  ·rintro⟨i,b,_⟩;simp at b
  ·have e:AY G kd (G kd++[])=G:=by
    funext k
    by_cases e:k=kd
    ·subst e;simp[AY]
    ·simp[AY,e]
   rw[e];exact h
 |t::ts,G,N,h=>by
  cases a:N t with
  |some p=>
   have g:BF kd N (G kd) (t::ts)=none:=by simp[BF,a]
   refine⟨λ_=>g,λl=>?_⟩
   exfalso
   apply l 0 (by simp)
   rw[To]
   by_cases q:Ik G t
   ·exact q
   ·rw[(h.free t).2 q] at a;cases a
  |none=>
   have o:=h.put a f;have j:=TH f ts _ _ o;rw[Cm] at j;have g:BF kd N (G kd) (t::ts)=BF kd (Be N t (kd,(G kd).length)) (G kd++[t]) ts:=by
    conv=>lhs;unfold BF
    rw[a]
   have n:=(h.free t).1 a;rw[g];refine⟨?_,λl=>?_⟩
   ·rintro⟨i,b,c⟩
    cases i with
    |zero=>rw[To] at c;exact absurd c n
    |succ i=>exact j.1 ⟨i,by simpa using b,(Tp f t ts i).1 c⟩
   ·obtain⟨d,r,m⟩:=j.2 (λi b c=>l (i+1) (by simpa using b) ((Tp f t ts i).2 c));refine⟨d,by rw[r];simp,?_⟩;have:=aaB (G:=G) (kd:=kd) t ts;rw[Cm] at this;rw[<-this];exact m
def Ao (P:RP) (k:Int):List Tx:=if k=116 then P.names else P.get k
def IN (r:RI):List (Int×Tx):=if AJ r.i.op=[116] then [(116,r.word)] else if IQ (AJ r.i.op) then [(108,r.word)] else []
def If (r:RI):PI:=⟨r.i,r.line,IN r⟩
def CY (l:List (Tx×Nat)):Tx->Option Nat:=λx=>l.foldl (λa p=>if p.1=x then some p.2 else a) none
def CD (th:AE):PB:=⟨th.code.map If,CY th.labs⟩
structure PL (P:RP) (s:PS):Prop where
 N:Fo s.N (Ao P)
 nms:∀k,AU k->s.nms k=Ao P k
 bod:s.bod=P.thr.map CD
 pos:∀th,th∈P.thr->∀r,r∈th.code->0<=r.i.x/\0<r.line
 few:∀k,AU k->(Ao P k).length<=4
 code:∀th,th∈P.thr->th.code.length<=24
def RP.new:RP:=⟨[],[],[],[]⟩
theorem NM (k:Int):Ao RP.new k=[]:=by simp[Ao,RP.names,RP.get,RP.new]
theorem PL.new:PL RP.new PS.new:=by
 refine⟨λt k n=>?_,λk _=>?_,rfl,(λth h=>by cases h),λk _=>?_,(λth h=>by cases h)⟩
 ·rw[NM];constructor
  ·intro h;cases h
  ·rintro⟨_,h⟩;simp[Aq] at h
 ·rw[NM];rfl
 ·rw[NM];simp
theorem act {k:Int} (h:Cf k):AU k:=by rcases h with rfl|rfl|rfl<;>simp[AU]
theorem NL (P:RP) (t:Tx):EF P t=true↔Ik (Ao P) t:=by
 have e:Ao P 118=P.vs:=by simp[Ao,RP.get]
 have b:Ao P 102=P.fs:=by simp[Ao,RP.get]
 have c:Ao P 109=P.ls:=by simp[Ao,RP.get]
 have d:Ao P 116=P.names:=by simp[Ao]
 have z1:=In P.vs t;have z2:=In P.fs t;have z3:=In P.ls t;have z4:=In P.names t;unfold EF Ik;simp only[Bool.or_eq_true,decide_eq_true_eq];constructor
 ·rintro(((h|h)|h)|h)
  ·exact⟨118,by simp[AU],by rw[e];omega⟩
  ·exact⟨102,by simp[AU],by rw[b];omega⟩
  ·exact⟨109,by simp[AU],by rw[c];omega⟩
  ·exact⟨116,by simp[AU],by rw[d];omega⟩
 ·rintro⟨k,a,h⟩;have a:k=118\/k=102\/k=109\/k=116:=by simpa [AU] using a
  rcases a with rfl|rfl|rfl|rfl
  ·rw[e] at h;exact .inl (.inl (.inl (by omega)))
  ·rw[b] at h;exact .inl (.inl (.inr (by omega)))
  ·rw[c] at h;exact .inl (.inr (by omega))
  ·rw[d] at h;exact .inr (by omega)
theorem Tq (P:RP) (ts:List Tx) (i:Nat):Gx P ts i↔HH (Ao P) ts i:=by
 unfold Gx HH;rw[NL]
end Go.Proofs.YtdcacoifehkioaaGreatDoor
