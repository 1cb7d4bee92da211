import Derived.Test.YtdcacoifehkioaaGreatDoorExA3
import Derived.Test.YtdcacoifehkioaaGreatDoorExA9
import Derived.Test.YtdcacoifehkioaaGreatDoorExA6
import Derived.Test.YtdcacoifehkioaaGreatDoorExA7
open Go renaming World->Xh,Calls->XY,Value->Xk,callsIn_wide->X1,undef->X7,heap_setCell_same->Xj,bodyPost_ret->XI
open Array renaming getElem?_eq_some_iff->Xa
open Nat renaming le_trans->Xu,le_refl->Xd
open List renaming mem_cons->XP,not_mem_nil->X6,mem_of_getElem?->Xz,length_cons->XJ,cons_append->YG,getElem?_eq_some_iff->Xf,getElem?_map->Xs,getElem?_eq_getElem->Xe,length_map->Xp,getElem_toArray->ZC,getElem_cons_zero->Zm,getElem_cons_succ->Zn,setIfInBounds_toArray->XV,set_cons_succ->X8,set_cons_zero->X5
open Go.World renaming cell?->Xg,frozen?->XM,cell?_of_block->Xw,alloc_heap_new->Xi
open Go.CallsIn renaming inRound->Zu
open Go.RowKit.Below renaming heap_setCell->Xn,heap_alloc->Xv,refl->Xq
open Option.some renaming injEq->YN
set_option maxRecDepth 100000
set_option maxHeartbeats 2000000
set_option linter.unusedVariables false
set_option linter.unusedSimpArgs false
namespace Go.Proofs.YtdcacoifehkioaaGreatDoor
open Go.RowKit Go.Shelf Go.Proofs.Cod
attribute [local go_sem] Oper.semAt_some
structure FG (w:Xh) (base rb nb lb n:Nat) (t:Tx) (i:Nat) (W:Xh) (tag:Nat->RT) (G:RG) (s:PS) (X:List LB):Prop where
 rd:Al W tag base rb nb lb G
 link:CL G nb s X
 ok:Mf s
 lines:CH ((Ar 10 t).take i) 0 PS.new = .ok s
 line:G.line=i
 las:G.las.length<=3*i
 own:∀b,n<=b->b<n+7->tag b = .o
 cr:W.heap[n]?=some (.cells #[Ab rb] 135)
 cf:W.heap[n+1]?=some (.cells #[.int .i64 0,.int .i64 0] 138)
 low:Below base w W
structure Ue (w:Xh) (base n:Nat) (t:Tx) (chain:List PanicEntry) (W:Xh):Prop where
 ex:∃e l,chain=FC e l/\CH (Ar 10 t) 0 PS.new = .error (e,l)
 cf:W.heap[n+1]?=some (.cells #[.int .i64 0,.int .i64 0] 138)
 low:Below base w W
theorem FG.free {w:Xh} {base rb j lb n:Nat} {t:Tx} {i:Nat} {W a:Xh} {k:Nat->RT} {G:RG} {s:PS} {X:List LB} (h:FG w base rb j lb n t i W k G s X) (u:base<=n) (c:∀b,b<W.heap.size->b∉[n+5,n+6,n+2]->a.heap[b]?=W.heap[b]?) (g:W.heap.size<=a.heap.size) (l:a.os=W.os) (o:a.tape=W.tape) (m:a.output=W.output):FG w base rb j lb n t i a k G s X:=by
 have q:n<W.heap.size:=(Xa.1 h.cr).1;have r:n+1<W.heap.size:=(Xa.1 h.cf).1;refine⟨h.rd.Lw (λb d p=>c b d (λf=>?_)) g,h.link,h.ok,h.lines,h.line,h.las,h.own,(c n q (by simp)).trans h.cr,(c (n+1) r (by simp)).trans h.cf,⟨l.trans h.low.os,o.trans h.low.tape,m.trans h.low.output,Xu h.low.size g,λb d=>(c b (by omega) (λf=>?_)).trans (h.low.block b d)⟩⟩
 ·simp only[XP,X6,or_false] at f
  rcases p with e|e
  ·exact e (h.own b (by omega) (by omega))
  ·omega
 ·simp only[XP,X6,or_false] at f
  omega
theorem Ji {c:UInt8}:∀{t:Tx} {i:Nat} {p:Tx},(Ar c t)[i]?=some p->p.length<=t.length
 |[],i,p,h=>by
  have:=Xz h;simp[Ar] at this;subst this;simp
 |b::l,i,p,h=>by
  unfold Ar at h
  split at h
  ·cases i with
   |zero=>cases h;simp
   |succ i=>have:=Ji (t:=l) (i:=i) (p:=p) (by simpa using h);simp;omega
  ·cases a:Ar c l with
   |nil=>exact absurd a (PE c l)
   |cons q d=>
    rw[a] at h
    cases i with
    |zero=>
     cases h
     have:=Ji (t:=l) (i:=0) (p:=q) (by rw[a];rfl)
     simp;omega
    |succ i=>
     have:=Ji (t:=l) (i:=i+1) (p:=p) (by rw[a];simpa using h)
     simp;omega
theorem OG (t:Tx):(CP t).length<=t.length+1:=by
 unfold CP;have a:=List.length_filter_le (λp:Tx => !p.isEmpty) (Ar 32 (BQ 35 t));have c:=JK 32 (BQ 35 t);have b:=LR 35 t
 omega
theorem OH {t p:Tx} (h:p∈CP t):p.length<=t.length:=by
 unfold CP at h;obtain⟨i,a⟩:=List.getElem?_of_mem (List.mem_filter.1 h).1;have:=Ji a;have:=LR 35 t
 omega
theorem Ny {W c:Xh} {a f:Nat->RT} {n:Nat} (e:Ah W a c f) (h:n+6<W.heap.size) (g:∀b,n<=b->b<n+7->a b = .o):Ov [n+5,n+6,n+1+1+1,n+1+1,n+1+1+2] W c:=λb d=>by
 simp only[XP,X6,or_false] at d;exact e.block b (by omega) (g b (by omega) (by omega))
theorem FG.count {w:Xh} {base rb b lb n:Nat} {t:Tx} {i:Nat} {W c:Xh} {a:Nat->RT} {G:RG} {s:PS} {X:List LB} (h:FG w base rb b lb n t i W a G s X) (d:Below (W.setCell ⟨rb,0,none⟩ (.int .i64 ((i:Int)+1))).heap.size (W.setCell ⟨rb,0,none⟩ (.int .i64 ((i:Int)+1))) c) :
 Al c a base rb b lb {G with line:=(i:Int)+1}/\Ah W a c a/\CL {G with line:=(i:Int)+1} b s X:=by
 obtain⟨f,e⟩:=h.rd.VT ((i:Int)+1)
 exact⟨f.below d,e.trans (.CF d),h.link.line _⟩
theorem FG.ext {w:Xh} {base rb e lb n:Nat} {t:Tx} {i j:Nat} {W f:Xh} {l g:Nat->RT} {G d:RG} {s s':PS} {X k:List LB} (h:FG w base rb e lb n t i W l G s X) (y:base<=n) (z:n+6<W.heap.size) (a:Ah W l f g) (u:Al f g base rb e lb d) (x:CL d e s' k) (v:Mf s') (p:CH ((Ar 10 t).take j) 0 PS.new = .ok s') (r:d.line=j) (m:d.las.length<=3*j):FG w base rb e lb n t j f g d s' k:=by
 have o:∀b,b<base->f.heap[b]?=W.heap[b]?:=λb c=>a.block b (by omega) (h.rd.low c)
 exact⟨u,x,v,p,r,m,λb c q=>(a.tags b (by omega)).trans (h.own b c q),(a.block n (by omega) (h.own n (by omega) (by omega))).trans h.cr,(a.block (n+1) (by omega) (h.own (n+1) (by omega) (by omega))).trans h.cf,⟨a.os.trans h.low.os,a.tape.trans h.low.tape,a.output.trans h.low.output,Xu h.low.size a.size,λb c=>(o b c).trans (h.low.block b c)⟩⟩
theorem FG.fault {w:Xh} {base rb k lb n:Nat} {t:Tx} {i:Nat} {W d:Xh} {f m:Nat->RT} {G:RG} {s:PS} {X:List LB} (h:FG w base rb k lb n t i W f G s X) (p:base<=n) (o:n+6<W.heap.size) (a:Ah W f d m) {e l:Int} (g:CH (Ar 10 t) 0 PS.new = .error (e,l)):Ue w base n t (FC e l) d:=by
 have j:∀b,b<base->d.heap[b]?=W.heap[b]?:=λb c=>a.block b (by omega) (h.rd.low c)
 exact⟨⟨e,l,rfl,g⟩,(a.block (n+1) (by omega) (h.own (n+1) (by omega) (by omega))).trans h.cf,⟨a.os.trans h.low.os,a.tape.trans h.low.tape,a.output.trans h.low.output,Xu h.low.size a.size,λb c=>(j b c).trans (h.low.block b c)⟩⟩
theorem WV {w:Xh} {be:Nat->RT} {base rb nb lb:Nat} (h:Al w be base rb nb lb RG.new) (t:Tx) (ht:t.length<=3000) :
 XY Tryz.prog 48 #[Ab rb,.string (bs t)] w (ae6 w base rb t):=by
 have cM:∀(fn:Fn) (first cap:Array Xk) (w:Xh),(Instr.makeFunc fn first cap).run Tryz.prog w = .ok (.func fn first cap) w:=λ_ _ _ _=>rfl;unfold Ab;refine(X1 (n:=9)).1 ?_;refine TC Tryz.func48 rfl trivial ?_ rfl;simp only[Tryz.ntmps48,List.size_toArray,XJ,List.length_nil,Nat.reduceAdd,Nat.reduceSub,Array.replicate_succ,Array.replicate_zero,List.push_toArray,List.append_toArray,List.nil_append,YG];refine GX (GY ?_)
 gi_wp2
 refine GX (GY ?_)
 gi_wp2
 refine GX (GX (GY ?_))
 gi_wp2_with (refine⟨trivial,?_⟩;gi_at_call 105;refine(X1.2 (PF t 10 _)).mono ?_;rintro e w2 ⟨rfl,rfl⟩)
 refine OF ?_;obtain⟨W0,bK,Z,aB,k0,k1,k2,k3,k4,o0,t0,p0⟩:=SO w (.cells #[.pointer (some ⟨rb,0,none⟩)] 135) (.cells #[.int .i64 0,.int .i64 0] 138) (.cells #[.string (bs t)] 9) (.cells #[.string (bs [10])] 9) (.cells #[.int .i64 0] 3);rw[bK];clear bK;have a1:=h.g3;have aX:FG w base rb nb lb w.heap.size t 0 W0 be RG.new PS.new []:=by
  refine⟨h.Lw (λb z _=>aB b z) (by omega),CL.new nb,⟨rfl,λk=>by simp[PS.new]⟩,rfl,rfl,by simp[RG.new],λb z _=>?_,k0,k1,⟨o0,t0,p0,by omega,λb z=>aB b (by omega)⟩⟩
  cases R:be b with
  |o=>rfl
  |_=>exact absurd (h.tlt b (by rw[R];simp)).2 (by omega)
 refine OE (fnd:=Tryz.f48) Tryz.func48 (w.heap.size+1+1+1) (w.heap.size+1+1) (w.heap.size+1+1+2) 10 t rfl (by omega) (by simp[Xg,k3]) (by simp[Xg,k2]) (by simp[Xg,k4]) (by simp[XM,k2]) (by omega) (by omega)
  (λi W=>∃Q G s X,FG w base rb nb lb w.heap.size t i W Q G s X)
  (Ue w base w.heap.size t) ?free ?start (λp=>{tmps := #[.pointer (some ⟨rb,0,none⟩),.string (bs t),.pointer (some ⟨w.heap.size,0,none⟩),X7,.pointer (some ⟨w.heap.size+1,0,none⟩),.string (bs p),X7,X7,X7,.func (.func 104) #[] #[.pointer (some ⟨w.heap.size+1,0,none⟩)],.string (bs t),.func (.func 176) #[] #[.pointer (some ⟨w.heap.size+1+1+1,0,none⟩),.pointer (some ⟨w.heap.size+1+1,0,none⟩),.pointer (some ⟨w.heap.size+1+1+2,0,none⟩)],.string (bs p),X7,X7,X7,X7,X7,X7,X7,X7,X7,X7,X7,X7,X7,X7,X7,X7,X7,X7,X7,X7,X7,X7,X7,X7,X7,X7,X7,X7,X7,X7,X7,X7,X7,X7],defers:=[]}) ?assign ?body ?done ?panic
 case assign=>
  intro l p W K m
  gi_wp2
  exact m
 case start=>exact⟨_,_,_,_,aX⟩
 case free=>
  rintro i W W' ⟨Q,G,s,X,d⟩ bx b1 h1 h2 h3;rw[Z] at bx
  exact⟨Q,G,s,X,d.free a1 bx b1 h1 h2 h3⟩
 case body=>
  rintro l i p W ⟨Q,G,s,X,d⟩ hp a6;have S:w.heap.size+6<W.heap.size:=by omega
  have cK:i<(Ar 10 t).length:=(Xf.1 hp).1;have bv:=JK 10 t;have ct:=Ji hp;have cr:W.cell? ⟨w.heap.size,0,none⟩=some (.pointer (some ⟨rb,0,none⟩)):=by simp[Xg,d.cr,Ab]
  have cl:=d.rd.GE;rw[d.line] at cl;have fl:=d.rd.DZ 0;have cq:wrap64 ((i:Int)+1)=(i:Int)+1:=IntWalk.wrap64_in _ (by omega);have HS:Hid (∀u:Xh,XY Tryz.prog 106 #[.string (bs p)] u λe w'=>∃v,e = .returned v/\w'.ownsRow u.heap.size 9 1 v (CP p).length ((CP p).map Jb)/\Below u.heap.size u w'):=λu=>Vz p u (by omega);have HL:=Aa (Nq hp d.lines);have aR:Hid (rb≠w.heap.size):=λe=>by have:=d.own rb (by omega) (by omega);rw[d.rd.trd] at this;cases this
  have cP:=Aa Z;have H:=Aa d;rw[Z]
  cases hw:CP p with
  |nil=>
   rw[hw] at HS;have a0:=Aa hw;clear hw d h aX k0 k1 k2 k3 k4 aB Z hp bv a6
   gi_wp2_with (refine⟨trivial,rfl,?_⟩;gi_at_call 106;refine(Zu l (X1.2 (HS.out _))).mono ?_;rintro e O ⟨v,rfl,A,aN⟩;obtain⟨va,ar,rfl⟩:=As A)
   have d:=H.out;obtain⟨P,F,U⟩:=d.count aN;refine⟨Ny F S d.own,Q,_,s,X,d.ext a1 S F P U d.ok (HL.out.1 s ?_) (by simp) (by show G.las.length<=_;have:=d.las;omega)⟩;unfold CC;rw[a0.out]
  |cons f ts=>
   rw[hw] at HS;have a0:=Aa hw;have bM:=OG p;have cy:=OH (t:=p) (p:=f) (by rw[hw];simp);rw[hw] at bM;simp only[XJ] at bM;have b8:Hid (∀u b2 G' s' X',FG w base rb nb lb w.heap.size t i u b2 G' s' X'->True):=λ_ _ _ _ _ _=>trivial;clear hw d h aX k0 k1 k2 k3 k4 aB Z hp a6 b8
   gi_wp2_with (refine⟨trivial,rfl,?_⟩;gi_at_call 106;refine(Zu l (X1.2 (HS.out _))).mono ?_;rintro e O ⟨v,rfl,A,aN⟩;obtain⟨J,ar,rfl⟩:=ownsRow_succ (k:=ts.length) A)
   have d:=H.out;obtain⟨P,F,U⟩:=d.count aN;have aT:=A.lt J rfl;simp only[World.size_setCell] at aT;have a4:Q J = .o:=by
    cases R:Q J with
    |o=>rfl
    |_=>exact absurd (d.rd.tlt J (by rw[R];simp)).2 (by omega)
   have T:Ah O Q O.drew Q:=⟨rfl,rfl,rfl,Xd _,λ_ _=>rfl,λ_ _ _=>rfl⟩;have bd:∀j,O.cell? ⟨J,j,none⟩=if j<ts.length+1 then((f::ts).map Jb)[j]? else O.cell? ⟨J,j,none⟩:=λj=>by
    split
    ·rename_i hj;exact A.cellAt j (by simpa using hj)
    ·rfl
   have c0:O.cell? ⟨J,0,none⟩=some (.string (bs f)):=by rw[bd 0,if_pos (by omega)];rfl
   have cv:ts.length+1<=ar:=by
    rcases A.2 with⟨e,_⟩|⟨g,c',cd,e,_,_,h4,_⟩
    ·cases e
    ·cases e;exact h4
   have bR:CX O Q (if ar=1 then some ⟨J,0,none⟩ else some ⟨J,1,none⟩) ts:=λj hj=>⟨J,1,if_neg (by omega),aT.2,by
    rw[bd (1+j),if_pos (by omega),Xs,Nat.add_comm 1 j,List.getElem?_cons_succ,Xe hj,List.getD_eq_getElem?_getD,Xe hj];rfl,a4⟩
   have bN:G.bods=[]\/∃a bc,G.bods.getLast?=some a/\G.B a=some bc/\bc.ins.length<=24:=by
    rcases List.eq_nil_or_concat X with e|⟨X0,x,e⟩
    ·exact .inl (by rw[d.link.bods,e];rfl)
    ·rw[List.concat_eq_append] at e;have r:=d.link.each x (by rw[e];simp);exact .inr ⟨x.a,x.c,by rw[d.link.bods,e];simp,r.b,by rw[r.len];exact r.small⟩
   have co:G.bods.length<=4:=by
    have e1:G.bods.length=X.length:=by rw[d.link.bods,Xp]
    have e2:s.bod.length=X.length:=by rw[d.link.bod,Xp]
    have:=d.ok.thr;have:=d.ok.few 116
    omega
   have hT:=Va (w:=O.drew) (Al.keep (w':=O.drew) P (λ_ _=>rfl) T) bN f (if ar=1 then some ⟨J,0,none⟩ else some ⟨J,1,none⟩) ts.length (ar - 1) ts rfl (CX.ext (w':=O.drew) bR T) (by omega) (λk=>by show (G.nms k).length+ts.length<_;rw[d.link.nms];have:=d.ok.few k;omega) (by show G.bods.length<_;omega) (by show G.las.length+ts.length<_;have:=d.las;omega);have ch:O.cell? ⟨w.heap.size,0,none⟩=some (.pointer (some ⟨rb,0,none⟩)):=(Xw (w:=W) (a:=⟨w.heap.size,0,none⟩) (F.block w.heap.size (by omega) (d.own w.heap.size (by omega) (by omega)))).trans cr;have cb:Tryz.prog.follows .mixedOrders=true:=by kernel_rfl
   have HE:=Aa (⟨P,F,U,T⟩:_/\_/\_/\_);unfold Ab at hT;replace hT:=Aa hT;have au:O.drew.cell? ⟨w.heap.size,0,none⟩=some (.pointer (some ⟨rb,0,none⟩))/\O.drew.cell? ⟨J,0,none⟩=some (.string (bs f)):=⟨ch,c0⟩;have bG:(1:Int)<=(ts.length:Int)+1:=by omega
   have cH:(ts.length:Int)+1<=ar:=by omega
   have bI:=Aa (⟨a4,aT.2⟩:_/\_);clear bd bR bN co P F U T d A aN aT a4;refine QD (λw'=>w'.cell? ⟨w.heap.size,0,none⟩=some (.pointer (some ⟨rb,0,none⟩))/\w'.cell? ⟨J,0,none⟩=some (.string (bs f))) cb ?_;refine GH (i:=0) (v:=?_) rfl (by kernel_rfl) (λ_ _ _ h=>h) (by kernel_rfl) (by kernel_rfl) ⟨by rfl,?_,λ_=>rfl⟩ au ?_
   rotate_left
   ·intro w9 M;(try dsimp only at M);obtain⟨aA,aJ⟩:=M;go_simp;try with_reducible rfl
   simp only[Act.put,ZC,Zm,Zn,XV,X8,X5];refine GH (i:=1) (v:=?_) rfl (by kernel_rfl) (λ_ _ _ h=>h) (by kernel_rfl) (by kernel_rfl) ⟨by rfl,?_,λ_=>rfl⟩ au ?_
   rotate_left
   ·intro w9 M;(try dsimp only at M);obtain⟨aA,aJ⟩:=M;go_simp;try with_reducible rfl
   simp only[Act.put,ZC,Zm,Zn,XV,X8,X5];refine GH (i:=2) (v:=?_) rfl (by kernel_rfl) (λ_ _ _ h=>h) (by kernel_rfl) (by kernel_rfl) ⟨by rfl,?_,λ_=>rfl⟩ au ?_
   rotate_left
   ·intro w9 M;(try dsimp only at M);obtain⟨aA,aJ⟩:=M;go_simp;try with_reducible rfl
   simp only[Act.put,ZC,Zm,Zn,XV,X8,X5];refine GH (i:=3) (v:=?_) rfl (by kernel_rfl) (λ_ _ _ h=>h) (by kernel_rfl) (by kernel_rfl) ⟨by rfl,?_,λ_=>rfl⟩ au ?_
   rotate_left
   ·intro w9 M;(try dsimp only at M);obtain⟨aA,aJ⟩:=M;go_simp;try with_reducible rfl
   simp only[Act.put,ZC,Zm,Zn,XV,X8,X5];refine GH (i:=4) (v:=?_) rfl (by kernel_rfl) (λ_ _ _ h=>h) (by kernel_rfl) (by kernel_rfl) ⟨by rfl,?_,λ_=>rfl⟩ au ?_
   rotate_left
   ·intro w9 M;(try dsimp only at M);obtain⟨aA,aJ⟩:=M;go_simp;try with_reducible rfl
   simp only[Act.put,ZC,Zm,Zn,XV,X8,X5];refine GH (i:=5) (v:=?_) rfl (by kernel_rfl) (λ_ _ _ h=>h) (by kernel_rfl) (by kernel_rfl) ⟨by rfl,?_,λ_=>rfl⟩ au ?_
   rotate_left
   ·intro w9 M;(try dsimp only at M);obtain⟨aA,aJ⟩:=M;go_simp;try with_reducible rfl
   simp only[Act.put,ZC,Zm,Zn,XV,X8,X5];refine NE (i:=6) (by kernel_rfl) rfl (λK m=>?_)
   go_simp
   refine⟨trivial,rfl,?_⟩
   gi_at_call 107
   refine(Zu l (X1.2 hT.out)).mono ?_;rintro e w6 (⟨t6,G6,rfl,ce,aU,ci⟩|⟨t6,e6,rfl,aU,cg⟩)
   ·obtain⟨P,F,U,T⟩:=HE.out;have r:=F.trans (T.trans aU);have d:=H.out;have c1:w6.cell? ⟨w.heap.size,0,none⟩=some (.pointer (some ⟨rb,0,none⟩)):=(Xw (w:=W) (a:=⟨w.heap.size,0,none⟩) (r.block w.heap.size (by omega) (d.own w.heap.size (by omega) (by omega)))).trans cr;have c2:w6.cell? ⟨J,0,none⟩=some (.string (bs f)):=(Xw (w:=O) (a:=⟨J,0,none⟩) ((T.trans aU).block J bI.out.2 bI.out.1)).trans c0;refine m _ _ ⟨c1,c2⟩ ?_;clear m K;refine Sy (by kernel_rfl) ?_;obtain⟨s',X',q1,q2,q3,q4,q5⟩:=UX ci U d.ok (Al.fresh (w:=O.drew) (Al.keep (w':=O.drew) P (λ_ _=>rfl) T));have ba:CC (0+(i:Int)+1) p s = .ok s':=by unfold CC;rw[a0.out,Int.zero_add];exact q1
    have ca:=d.ext (j:=i+1) a1 S r ce q2 q3 (HL.out.1 s' ba) (by rw[q5];simp) (by have:=d.las;have q4:G6.las.length<=G.las.length+3:=q4;omega)
    exact⟨Ny r S d.own,t6,G6,s',X',ca⟩
   ·obtain⟨P,F,U,T⟩:=HE.out;have r:=F.trans (T.trans aU);have d:=H.out;have q1:=UZ cg U;have ba:CC (0+(i:Int)+1) p s = .error e6:=by unfold CC;rw[a0.out,Int.zero_add];exact q1
    have bC:=HL.out.2 e6 ba;rw[Int.zero_add] at bC
    exact⟨rfl,Ny r S d.own,d.fault a1 S r bC⟩
 case panic=>
  intro cC W hX Y;rw[Z] at Y |-;obtain⟨e,l,rfl,hl⟩:=hX.ex;refine RS (x:=0) (y:=0) rfl Y hX.cf (λW' h1 h2 h3 h4 h5=>⟨⟨h3.trans hX.low.os,h4.trans hX.low.tape,h5.trans hX.low.output,Xu hX.low.size h2,λb z=>(h1 b (by have:=hX.low.size;omega) (by omega) (by omega)).trans (hX.low.block b z)⟩,.inl ⟨e,l,Rc hl,rfl⟩⟩)
 case done=>
  rintro W ⟨Q,G,s,X,d⟩ Y;rw[Z] at Y |-;have az:=d.lines;rw[List.take_length] at az;have S:w.heap.size+5<W.heap.size:=(Xa.1 Y).1;have cr:W.cell? ⟨w.heap.size,0,none⟩=some (.pointer (some ⟨rb,0,none⟩)):=by simp[Xg,d.cr,Ab]
  have bn:=d.rd.Nt;obtain⟨la,cE,hV⟩:=JQ d.rd.lrow;rw[Xp] at hV;rw[hV] at bn;have bv:=JK 10 t;have cL:G.las.length<1048576:=by have:=d.las;omega
  have bw:Hid (Uc W Q base rb nb lb G s X 0 W G.I):=⟨d.rd,Ah.refl W Q,by simp,λ_ h=>h⟩;replace hV:=Aa hV;replace az:=Aa az;have H:=Aa d;replace Y:=Aa Y;have cu:=Aa Z;replace S:=Aa S;clear d h aX k0 k1 k2 k3 k4 aB Z o0 t0 p0;refine GY ?_
  gi_wp2
  gi_loopw [37] (λiv wr=>∃(j:Nat) (I:Nat->Option Ad),j<=G.las.length/\iv = .int .i64 j/\Uc W Q base rb nb lb G s X j wr I) (λiv _=>G.las.length - (intOf iv).toNat)
  case atStart=>exact⟨0,G.I,Nat.zero_le _,rfl,bw.out⟩
  case round=>
   clear bw bn cr;obtain⟨j,I,hj,rfl,m⟩:=hrel;have d:=H.out
   by_cases h5:j<G.las.length
   ·obtain⟨c,hc⟩:∃c,G.las[j]?=some c:=⟨_,Xe h5⟩;obtain⟨x,p,q,e1,e2,e3,e4,e5,e6,e7,e8⟩:=d.link.ab1 hc;have r:=d.link.each x e2;obtain⟨i,hi⟩:∃i,I c.ia=some i:=by
     obtain⟨i0,bp⟩:=r.addr e8;rw[<-e3] at bp;exact Option.isSome_iff_exists.1 (m.some c.ia (by rw[bp];rfl))
    have hM:EK wr Q c.tb (Fu s.N x.pb.labs c.kd):=by
     unfold Fu;rw[e4,e5]
     by_cases h6:q.1=116
     ·rw[if_pos h6,if_pos h6,<-d.link.N];exact m.rd.names
     ·rw[if_neg h6,if_neg h6,<-r.labs];exact(m.rd.bodies x.a x.c r.b).labs
    have hC:=aem m.rd (c:=c) (Xz hc) hi hM;have A:=m.rd.lrow.row;have A:wr.ownsRow base 1 1 G.lV (G.las.map Ca.val).length (G.las.map Ca.val):=A;rw[Xp] at A;obtain⟨gl,rfl⟩:∃g,la=some ⟨g,0,none⟩:=by
     rcases A.2 with⟨_,e⟩|⟨g,cap,cd,e,_⟩
     ·omega
     ·rw[hV.out] at e;cases e;exact⟨_,rfl⟩
    rw[hV.out] at A;have cc:wr.cell? ⟨gl,j,none⟩=some c.val:=by rw[A.cellAt j (by omega),Xs,hc];rfl
    have a6:(j:Int)<(G.las.length:Int):=by omega
    have hQ:((X.flatMap Ec).map (Cx s.N)).drop j=⟨c.ia,c.kd,c.nm,c.ln,Fu s.N x.pb.labs c.kd⟩::((X.flatMap Ec).map (Cx s.N)).drop (j+1):=by
     have hg:((X.flatMap Ec).map (Cx s.N))[j]?=some ⟨c.ia,c.kd,c.nm,c.ln,Fu s.N x.pb.labs c.kd⟩:=by
      rw[Xs,e1,e3,e5,e6,e7];rfl
     obtain⟨b0,e⟩:=Xf.1 hg;rw[List.drop_eq_getElem_cons b0,e]
    unfold Ca.val at cc;have HE:=Aa (⟨m,hi,hQ⟩:_/\_/\_);unfold Ab at hC cc;clear m hM hi hQ r e1 e2 e3 e4 e5 e6 e7 e8 d A;clear A
    gi_wp2_with fail
    refine⟨trivial,?_⟩
    gi_at_call 228
    refine(X1.2 hC).mono ?_;rintro e w6 (⟨n,q1,rfl,q3,q4⟩|⟨q1,rfl,q3⟩)
    ·gi_wp2
     go_roundw
     case rel=>
      obtain⟨m,hi,hQ⟩:=HE.out;refine⟨j+1,BU I c.ia {i with x:=(n:Int)},by omega,by go_num,q3,m.ext.trans q4,?_,λia h=>?_⟩
      ·rw[m.run,hQ]
       conv=>lhs;unfold Db
       show (match Fu s.N x.pb.labs c.kd c.nm with|some p=>_|none=>_)=_;rw[q1];show (if c.kd=c.kd then _ else _)=_;rw[if_pos rfl];show (match I c.ia with|some i=>_|none=>_)=_;rw[hi]
      ·unfold BU
       split
       ·rfl
       ·exact m.some ia h
     case measure=>simp[intOf];omega
    ·obtain⟨m,hi,hQ⟩:=HE.out;have d:=H.out;have aq:Db ((X.flatMap Ec).map (Cx s.N)) G.I = .error c.ln:=by
      rw[m.run,hQ];unfold Db;show (match Fu s.N x.pb.labs c.kd c.nm with|some p=>_|none=>_)=_
      cases R:Fu s.N x.pb.labs c.kd c.nm with
      |none=>rfl
      |some p'=>
       show (if p'.1=c.kd then _ else _)=_;rw[if_neg];intro e;exact q1 p'.2 (by rw[R,<-e])
     have cn:DC s.N s.bod = .error c.ln:=by
      rw[d.link.bod]
      rcases MF s.N X G.I d.link.ndi (λx r=>⟨(d.link.each x r).len,(d.link.each x r).ins⟩) with⟨C,I',_,_,_,_,g5⟩|⟨e,P,F⟩
      ·rw[aq] at g5;cases g5
      ·rw[aq] at F;cases F;exact P
     have r:=m.ext.trans q3;have bf:=S.out;refine RS (n:=w.heap.size) (x:=0) (y:=0) rfl ((r.block _ bf (d.own (w.heap.size+5) (by omega) (by omega))).trans Y.out) ((r.block (w.heap.size+1) (by omega) (d.own (w.heap.size+1) (by omega) (by omega))).trans d.cf) (λW' h1 h2 h3 h4 h5=>⟨⟨h3.trans (r.os.trans d.low.os),h4.trans (r.tape.trans d.low.tape),h5.trans (r.output.trans d.low.output),Xu d.low.size (Xu r.size h2),λb z=>(h1 b (by have:=r.size;omega) (by omega) (by omega)).trans ((r.block b (by omega) (d.rd.low z)).trans (d.low.block b z))⟩,.inl ⟨5,c.ln,Rb az.out cn,rfl⟩⟩)
   ·have bl:j=G.las.length:=by omega
    subst bl;have bZ:((X.flatMap Ec).map (Cx s.N)).length=G.las.length:=by
     have:=congrArg List.length d.link.keys;rw[Xp,Sc,Xp] at this;rw[Xp,this]
    have aq:Db ((X.flatMap Ec).map (Cx s.N)) G.I = .ok I:=by
     rw[m.run,List.drop_of_length_le (by omega)];rfl
    rcases MF s.N X G.I d.link.ndi (λx r=>⟨(d.link.each x r).len,(d.link.each x r).ins⟩) with⟨C,I',P,F,U,g4,g5⟩|⟨e,P,F⟩
    case inr=>rw[aq] at F;cases F
    rw[aq] at g5;have eI:I=I':=Except.ok.inj g5;subst eI;have a5:G.bods.length=X.length:=by rw[d.link.bods,Xp]
    have bG:s.bod.length=X.length:=by rw[d.link.bod,Xp]
    have cj:=d.ok.thr;have ck:=d.ok.few 116;have bL:=aei m.rd C (by show C.length=G.bods.length;omega) (by show (G.nms 116).length=G.bods.length;rw[d.link.nms];omega) (λk a is ha bg=>by
     have ha:G.bods[k]?=some a:=ha;rw[d.link.bods,Xs] at ha;obtain⟨x,r,rfl⟩:=Option.map_eq_some_iff.1 ha;have z:=d.link.each x (Xz r);obtain⟨m1,m2⟩:=g4 k x is r bg;have:=z.small;have:=z.len;refine⟨x.c,z.b,m1.symm,by omega,λj ia hj=>?_⟩;have bl:=(Xf.1 hj).1
     exact⟨_,Xe (by omega),m2 j ia _ hj (Xe (by omega))⟩) (by show G.bods.length<_;omega)
    have bf:=S.out;have cr:wr.cell? ⟨w.heap.size,0,none⟩=some (.pointer (some ⟨rb,0,none⟩)):=(Xw (w:=W) (a:=⟨w.heap.size,0,none⟩) (m.ext.block w.heap.size (by omega) (d.own w.heap.size (by omega) (by omega)))).trans (by simp[Xg,d.cr,Ab]);have aR:rb≠w.heap.size+1:=λe=>by have:=d.own (w.heap.size+1) (by omega) (by omega);rw[<-e,d.rd.trd] at this;cases this
    have br:∀E:Xh,(∀b,b<wr.heap.size->b≠rb->E.heap[b]?=wr.heap[b]?)->E.heap[w.heap.size+1]?=some (.cells #[.int .i64 0,.int .i64 0] 138):=λE h7=>(h7 (w.heap.size+1) (by have:=m.ext.size;omega) (λe=>aR e.symm)).trans ((m.ext.block (w.heap.size+1) (by omega) (d.own (w.heap.size+1) (by omega) (by omega))).trans d.cf);have HE:=Aa (⟨m,P,br,aR⟩:_/\_/\_/\_);unfold Ab at bL;clear m d P F U g4 g5 aq bZ a5 bG cj ck br
    gi_wp2_with (refine⟨trivial,?_⟩;gi_at_call 108;refine(X1.2 bL).mono ?_;rintro e E ⟨rfl,bu,L,D,b4⟩;have ag:=HE.out.2.2.1 E D.old;have d0:E.cell? ⟨w.heap.size+1,0,none⟩=some (.int .i64 0):=(by simp[Xg,ag]);have d1:E.cell? ⟨w.heap.size+1,1,none⟩=some (.int .i64 0):=(by simp[Xg,ag]);have f0:E.frozen? ⟨w.heap.size+1,0,none⟩=false:=(by simp[XM,ag]);have f1:E.frozen? ⟨w.heap.size+1,1,none⟩=false:=(by simp[XM,ag]);replace ag:=Aa ag;replace D:=Aa D)
    obtain⟨m,P,_,_⟩:=HE.out;have d:=H.out;have D:=D.out;have cN:=D.size;have cz:=m.ext.size;have bB:rb≠w.heap.size+5:=λe=>by have:=d.own (w.heap.size+5) (by omega) (by omega);rw[<-e,d.rd.trd] at this;cases this
    have cF:=m.rd.lt m.rd.trd (by simp);have cO:=(m.rd.tlt rb (by rw[m.rd.trd];simp)).1;have h8:∀b,b≠w.heap.size+1->((E.setCell ⟨w.heap.size+1,0,none⟩ (.int .i64 0)).setCell ⟨w.heap.size+1,1,none⟩ (.int .i64 0)).heap[b]?=E.heap[b]?:=λb z=>(Xn _ ⟨w.heap.size+1,1,none⟩ _ b z).trans (Xn _ ⟨w.heap.size+1,0,none⟩ _ b z);have bU:((E.setCell ⟨w.heap.size+1,0,none⟩ (.int .i64 0)).setCell ⟨w.heap.size+1,1,none⟩ (.int .i64 0)).heap.size=E.heap.size:=by simp
    have bj:E.heap[w.heap.size+5]?=some (.deferred (some [])):=(D.old _ (by omega) (λe=>bB e.symm)).trans ((m.ext.block _ bf (d.own (w.heap.size+5) (by omega) (by omega))).trans Y.out);refine abW (n:=w.heap.size) (e:=0) (l:=0) rfl ((h8 _ (by omega)).trans bj) (by rw[Xj _ _ 1 _ _ _ (Xj _ _ 0 _ _ _ ag.out)];rfl) (λW' h1 h2 h3 h4 h5=>?_);rw[bU] at h1 h2;have h7:∀b,b<E.heap.size->b≠w.heap.size+1->b≠w.heap.size+5->W'.heap[b]?=E.heap[b]?:=λb z e1 e2=>(h1 b z e2).trans (h8 b e1);have A:∀{v:Xk} {l:List Tx} {k:Int},Dr wr Q base 9 k v (l.map BS)->E.ownsRow base 9 1 v l.length (l.map BS):=λ{v l k} hr=>by
     have:=hr.row;rw[Xp] at this;exact Bw this λg e=>D.old g (this.lt g e).2 (Co (hr.tg g e) m.rd.trd (by simp))
    have b7:BZ E base (G.V 118) (G.V 102) (G.V 109) bu (G.nms 118) (G.nms 102) (G.nms 109) L C:=⟨A (m.rd.rows 118 (.inl rfl)),A (m.rd.rows 102 (.inr (.inl rfl))),A (m.rd.rows 109 (.inr (.inr (.inl rfl)))),Dq D.row (by have:=m.rd.g3;omega),λi p is hp bg=>Dq (D.codes i p is hp bg) (by have:=m.rd.g3;omega),D.len⟩;have aS:W'.heap[rb]?=E.heap[rb]?:=h7 rb (by omega) aR bB;refine⟨⟨h3.trans (D.os.trans (m.ext.os.trans d.low.os)),h4.trans (D.tape.trans (m.ext.tape.trans d.low.tape)),h5.trans (D.output.trans (m.ext.output.trans d.low.output)),by have:=d.low.size;omega,λb z=>?_⟩,.inr ⟨s,C,QZ az.out (by rw[d.link.bod];exact P),rfl,⟨G.V 118,G.V 102,G.V 109,bu,L,?_,?_,?_,?_,?_,by rw[<-d.link.nms];exact b4⟩⟩⟩
    ·rw[h7 b (by omega) (by omega) (by omega),D.old b (by omega) (by omega),m.ext.block b (by omega) (d.rd.low z)];exact d.low.block b z
    ·simp[Xg,aS,D.cell]
    ·simp[Xg,aS,D.cell]
    ·simp[Xg,aS,D.cell]
    ·simp[Xg,aS,D.cell]
    ·rw[<-d.link.nms];refine b7.kept λb z a5 bQ=>h7 b a5 (λe=>bQ ?_) (λe=>bQ ?_)
     ·intro cs e' R;rw[e,ag.out] at R;simp only[YN,Obj.cells.injEq] at R;rw[<-R.2.1];decide
     ·intro cs e' R;rw[e,bj] at R;cases R
theorem Tt {kd:Int} {ts:List Tx} {s:PS} {e:Int} (h:Cg kd ts s = .error e):e≠0:=by
 unfold Cg at h
 split at h
 ·cases h;decide
 ·split at h
  ·cases h;decide
  ·split at h
   ·cases h;decide
   ·cases h
theorem Vt {n:Int} {f:Tx} {ts:List Tx} {s:PS} {e:Int} (h:stepT n f ts s = .error e):e≠0:=by
 unfold stepT at h
 split at h
 ·split at h
  ·cases a:Cg 116 ts s with
   |error b=>rw[a] at h;cases h;exact Tt a
   |ok s'=>rw[a] at h;cases h
  ·cases h;decide
 ·split at h
  ·exact Tt h
  ·split at h
   ·unfold Gc at h
    split at h
    ·cases h;decide
    ·split at h
     ·cases h;decide
     ·cases h
   ·unfold ER at h
    split at h
    ·cases h;decide
    ·split at h
     ·cases h;decide
     ·split at h
      ·cases h;decide
      ·split at h
       ·cases h;decide
       ·cases h
theorem abR {ls:List Tx} {n:Int} {s:PS} {p:Int×Int} (h:CH ls n s = .error p):p.1≠0:=by
 induction ls generalizing n s with
 |nil=>cases h
 |cons l ls b=>
  unfold CH at h
  split at h
  ·exact b h
  ·rename_i e a
   cases h
   unfold CC at a
   split at a
   ·cases a
   ·exact Vt a
theorem Rd {t:Tx} {e l:Int} (h:Ej t = .error (e,l)):e≠0:=by
 unfold Ej at h
 split at h
 ·rename_i p a
  cases h
  exact abR a
 ·split at h
  ·cases h;decide
  ·cases h
def BM (t:Tx):Except (Int×Int) (PS×List (List Ad)):=if 3000<t.length then .error (1,0) else Ej t
def Me (w:Xh) (t:Tx) (e:Ending) (w':Xh):Prop:=Below w.heap.size w w'/\((∃er ln,BM t = .error (er,ln)/\e = .returned (.tuple #[.agg #[.slice none 0 0,.slice none 0 0,.slice none 0 0,.slice none 0 0],.int .i64 er,.int .i64 ln]))\/
 (∃s C vV fV lV thV L,BM t = .ok (s,C)/\e = .returned (.tuple #[.agg #[vV,fV,lV,thV],.int .i64 0,.int .i64 0])/\BZ w' w.heap.size vV fV lV thV (s.nms 118) (s.nms 102) (s.nms 109) L C/\L.map Prod.fst=s.nms 116))
theorem Lh {w:Xh} {fn:Func} {tmps:Array Xk} {b:Nat} {x y c f d e:Xk} (j:fn.results = #[.cell 2 25,.tmp 3,.tmp 4]) (i:tmps[2]?=some (.pointer (some ⟨b,0,none⟩))) (g:tmps[3]?=some x) (h:tmps[4]?=some y) (a:w.heap[b]?=some (.cells #[c,f,d,e] 25)):(results fn tmps).run Tryz.prog w = .ok (.tuple #[.agg #[c,f,d,e],x,y]) w:=by
 have c0:w.cell? ⟨b,0,none⟩=some c:=by simp[Xg,a]
 have c1:w.cell? ⟨b,1,none⟩=some f:=by simp[Xg,a]
 have c2:w.cell? ⟨b,2,none⟩=some d:=by simp[Xg,a]
 have c3:w.cell? ⟨b,3,none⟩=some e:=by simp[Xg,a]
 simp[results,j,i,g,h,go_sem,c0,c1,c2,c3]
theorem SH {w:Xh} {n T:Nat} {j m k l:Xk} (d:w.heap[n]?=some (.cells #[j,m,k,l] T)) (g e c f:Xk) (o:Obj):∃W,(((((w.setCell ⟨n,0,none⟩ g).setCell ⟨n,1,none⟩ e).setCell ⟨n,2,none⟩ c).setCell ⟨n,3,none⟩ f).alloc o)=W/\W.heap[n]?=some (.cells #[g,e,c,f] T)/\(∀b,b<w.heap.size->b≠n->W.heap[b]?=w.heap[b]?)/\w.heap.size<=W.heap.size/\W.os=w.os/\W.tape=w.tape/\W.output=w.output:=by
 have i:n<w.heap.size:=(Xa.1 d).1;refine⟨_,rfl,?_,λb h a=>?_,by simp,rfl,rfl,rfl⟩
 ·rw[Xv _ _ n (by simpa using i),Xj _ _ 3 _ _ _ (Xj _ _ 2 _ _ _ (Xj _ _ 1 _ _ _ (Xj _ _ 0 _ _ _ d)))]
  rfl
 ·rw[Xv _ _ b (by simpa using h),Xn _ ⟨n,3,none⟩ _ b a,Xn _ ⟨n,2,none⟩ _ b a,Xn _ ⟨n,1,none⟩ _ b a,Xn _ ⟨n,0,none⟩ _ b a]
theorem BZ.base {w:Xh} {base d:Nat} {b e lV g:Xk} {vs fs ls:List Tx} {L:List (Tx×Xk)} {C:List (List Ad)} (h:BZ w base b e lV g vs fs ls L C) (a:d<=base):BZ w d b e lV g vs fs ls L C:=
 ⟨Dq h.v a,Dq h.f a,Dq h.l a,Dq h.t a,λi p is k j=>Dq (h.c i p is k j) a,h.len⟩
theorem aaQ (t:Tx) (w:Xh) (R:GV w) (Y:GT w) (X:2<w.heap.size) (S:3<w.heap.size) (aB:t.length<140737488355328) :
 XY Tryz.prog 20 #[.string (bs t)] w (Me w t):=by
 have hz:=Bg t
 by_cases V:3000<t.length
 ·have ai:(3000:Int)<(t.length:Int):=by omega
  have I:Hid (BM t = .error (1,0)):=by unfold Hid BM;rw[if_pos V]
  have A:Hid (∀x,Below w.heap.size w (w.alloc x)):=λx=>(Xq _ _).alloc (Xd _) _
  go_enter Tryz.func20,Tryz.ntmps20
  go_wp2_with fail
  exact XI (Lh rfl rfl rfl rfl (Xi w _)) rfl ⟨A.out _,.inl ⟨1,0,I.out,rfl⟩⟩
 ·have ai:¬(3000:Int)<(t.length:Int):=by omega
  have I:Hid (BM t=Ej t):=by unfold Hid BM;rw[if_neg V]
  obtain⟨w1,p⟩:∃w1,w.alloc (.cells #[.slice none 0 0,.slice none 0 0,.slice none 0 0,.slice none 0 0] 25)=w1:=⟨_,rfl⟩;have D:w1.heap.size=w.heap.size+1:=by rw[<-p];simp
  have m:Below w.heap.size w w1:=by rw[<-p];exact(Xq _ _).alloc (Xd _) _
  have ak:w1.heap[w.heap.size]?=some (.cells #[.slice none 0 0,.slice none 0 0,.slice none 0 0,.slice none 0 0] 25):=by rw[<-p];exact Xi w _
  have K:=abd w1 (R.kept (m.block _ X)) (Y.kept (m.block _ S)) (by omega) (by omega);have U:Hid (∀(u:Xh) (z:Nat->RT),Al u z w1.heap.size (w1.heap.size+1) w1.heap.size (w1.heap.size+1+1) RG.new->Ah w1 (λ_=>.o) u z->XY Tryz.prog 48 #[.pointer (some ⟨w1.heap.size+1,0,none⟩),.string (bs t)] u λe r=>Below w.heap.size w r/\r.heap[w.heap.size]?=some (.cells #[.slice none 0 0,.slice none 0 0,.slice none 0 0,.slice none 0 0] 25)/\((∃q y,Ej t = .error (q,y)/\e = .returned (.agg #[.int .i64 q,.int .i64 y]))\/(∃s C,Ej t = .ok (s,C)/\e = .returned (.agg #[.int .i64 0,.int .i64 0])/\TZ r w1.heap.size (w1.heap.size+1) s C))):=λu z F j=>by
   refine(WV F t (by omega)).mono ?_;rintro e r ⟨d,ax⟩;have T:∀b,b<w1.heap.size->r.heap[b]?=w1.heap[b]?:=λb h=>(d.block b h).trans (j.block b h rfl);have:=j.size
   exact⟨⟨d.os.trans (j.os.trans m.os),d.tape.trans (j.tape.trans m.tape),d.output.trans (j.output.trans m.output),by have:=d.size;omega,λb h=>(T b (by omega)).trans (m.block b h)⟩,(T _ (by omega)).trans ak,ax⟩
  replace p:=Aa p;replace D:=Aa D;unfold Ab at K;clear R Y X S
  go_enter Tryz.func20,Tryz.ntmps20
  go_wp2_with fail
  rw[p.out];refine K.mono ?_;rintro e w2 ⟨rfl,z,F,j⟩;have az:=U.out w2 z F j;clear U K F j
  go_wp2_with fail
  refine az.mono ?_;rintro e w3 ⟨d,g,(⟨q,y,E,rfl⟩|⟨s,C,G,rfl,Q⟩)⟩
  ·have an:=Rd E;have aG:(q != 0)=true:=by simpa using an
   have aj:w.heap.size<w3.heap.size:=(Xa.1 g).1;have c0:w3.cell? ⟨w.heap.size,0,none⟩=some (.slice none 0 0):=by simp[Xg,g]
   have c1:w3.cell? ⟨w.heap.size,1,none⟩=some (.slice none 0 0):=by simp[Xg,g]
   have c2:w3.cell? ⟨w.heap.size,2,none⟩=some (.slice none 0 0):=by simp[Xg,g]
   have c3:w3.cell? ⟨w.heap.size,3,none⟩=some (.slice none 0 0):=by simp[Xg,g]
   have f0:∀i,w3.frozen? ⟨w.heap.size,i,none⟩=false:=λi=>by simp[XM,g]
   have A:=Aa d;replace g:=Aa g;replace E:=Aa E;clear d
   go_wp2_with fail
   go_region
   all_goals
    go_wp2_with fail
    obtain⟨W,J,O,B,k3,P,M,N⟩:=SH g.out (.slice none 0 0) (.slice none 0 0) (.slice none 0 0) (.slice none 0 0) (.cells #[.int .i64 q,.int .i64 y] 138);rw[J];have d:=A.out;exact XI (Lh rfl rfl rfl rfl O) rfl ⟨⟨P.trans d.os,M.trans d.tape,N.trans d.output,by have:=d.size;show _<=W.heap.size;omega,λb h=>(B b (by have:=d.size;omega) (by omega)).trans (d.block b h)⟩,.inl ⟨q,y,by rw[I.out];exact E.out,rfl⟩⟩
  ·obtain⟨vV,fV,lV,ad,L,Z,r2,r3,r4,k,H⟩:=Q.ex;have aH:w1.heap.size+1<w3.heap.size:=World.block_lt_of_cell? w3 ⟨w1.heap.size+1,1,none⟩ Z;have aj:w.heap.size<w3.heap.size:=(Xa.1 g).1;have c0:w3.cell? ⟨w.heap.size,0,none⟩=some (.slice none 0 0):=by simp[Xg,g]
   have c1:w3.cell? ⟨w.heap.size,1,none⟩=some (.slice none 0 0):=by simp[Xg,g]
   have c2:w3.cell? ⟨w.heap.size,2,none⟩=some (.slice none 0 0):=by simp[Xg,g]
   have c3:w3.cell? ⟨w.heap.size,3,none⟩=some (.slice none 0 0):=by simp[Xg,g]
   have f0:∀i,w3.frozen? ⟨w.heap.size,i,none⟩=false:=λi=>by simp[XM,g]
   have ab:(∃a n c,vV = .slice a n c)/\(∃a n c,fV = .slice a n c)/\(∃a n c,lV = .slice a n c)/\(∃a n c,ad = .slice a n c):=by
    obtain⟨a1,b1,e1⟩:=As k.v;obtain⟨a2,b2,e2⟩:=As k.f;obtain⟨a3,b3,e3⟩:=As k.l;obtain⟨a4,b4,e4⟩:=As k.t
    exact⟨⟨_,_,_,e1⟩,⟨_,_,_,e2⟩,⟨_,_,_,e3⟩,⟨_,_,_,e4⟩⟩
   have A:=Aa (⟨d,k,H,G⟩:_/\_/\_/\_);replace g:=Aa g;obtain⟨⟨x1,y1,z1,rfl⟩,⟨x2,y2,z2,rfl⟩,⟨x3,y3,z3,rfl⟩,⟨x4,y4,z4,rfl⟩⟩:=ab;clear d k H G Q
   go_wp2_with fail
   obtain⟨W,J,O,B,k3,P,M,N⟩:=SH g.out (.slice x1 y1 z1) (.slice x2 y2 z2) (.slice x3 y3 z3) (.slice x4 y4 z4) (.cells #[.int .i64 0,.int .i64 0] 138);rw[J];obtain⟨d,k,H,G⟩:=A.out;refine XI (Lh rfl rfl rfl rfl O) rfl ⟨⟨P.trans d.os,M.trans d.tape,N.trans d.output,by have:=d.size;omega,λb h=>(B b (by have:=d.size;omega) (by omega)).trans (d.block b h)⟩,.inr ⟨s,C,_,_,_,_,L,by rw[I.out];exact G,rfl,?_,H⟩⟩
   exact(k.kept λb h aa aI=>B b aa (by have:=D.out;omega)).base (by have:=D.out;omega)
end Go.Proofs.YtdcacoifehkioaaGreatDoor
namespace Go.Proofs.YtdcacoifehkioaaGreatDoor
open Go.RowKit Go.Proofs.Cod
theorem Kk (l:List Tx) (t x:Tx):Aq (l++[t]) x=if Aq l x = -1 then(if t=x then(l.length:Int) else -1) else Aq l x:=by
 induction l with
 |nil=>simp[Aq]
 |cons y l d=>
  have e:=Ik l x;rw[YG];unfold Aq;rw[d]
  by_cases c:y=x
  ·simp[c]
  ·simp only[if_neg c]
   by_cases b:Aq l x = -1
   ·simp only[b,if_true]
    by_cases a:t=x
    ·simp only[a,if_true,XJ];rw[if_neg (by omega)];omega
    ·simp[a]
   ·have a:¬Aq l x+1 = -1:=by omega
    simp[b,a]
def Fm (N:Tx->Option (Int×Nat)) (G:Int->List Tx):Prop:=∀t k n,N t=some (k,n)↔AR k/\Aq (G k) t=(n:Int)
def Ih (G:Int->List Tx) (t:Tx):Prop:=∃k,AR k/\Aq (G k) t≠-1
theorem Fm.free {N:Tx->Option (Int×Nat)} {G:Int->List Tx} (h:Fm N G) (t:Tx):N t=none↔¬Ih G t:=by
 constructor
 ·rintro e ⟨k,b,c⟩;have d:=Ik (G k) t;have:=(h t k (Aq (G k) t).toNat).2 ⟨b,by omega⟩;rw[e] at this;cases this
 ·intro e
  cases a:N t with
  |none=>rfl
  |some p=>
   obtain⟨k,n⟩:=p;have:=(h t k n).1 a;exact absurd ⟨k,this.1,by omega⟩ e
theorem Fm.put {N:Tx->Option (Int×Nat)} {G:Int->List Tx} (h:Fm N G) {t:Tx} (g:N t=none) {kd:Int} (d:AR kd):Fm (Bc N t (kd,(G kd).length)) (AT G kd (G kd++[t])):=by
 have c:=(h.free t).1 g;intro x k n
 by_cases a:x=t
 ·subst a;have b:Bc N x (kd,(G kd).length) x=some (kd,(G kd).length):=by simp[Bc]
  rw[b]
  by_cases e:k=kd
  ·subst e;rw[Cj,Kk];have:Aq (G k) x = -1:=by
    by_cases q:Aq (G k) x = -1
    ·exact q
    ·exact absurd ⟨k,d,q⟩ c
   rw[if_pos this,if_pos rfl];simp only[YN,Prod.mk.injEq,true_and]
   exact⟨λq=>⟨d,by omega⟩,λq=>by omega⟩
  ·rw[Cy _ e];constructor
   ·intro q;simp only[YN,Prod.mk.injEq] at q;exact absurd q.1.symm e
   ·rintro⟨i,j⟩;exact absurd ⟨k,i,by omega⟩ c
 ·have b:Bc N t (kd,(G kd).length) x=N x:=by simp[Bc,a]
  rw[b,h x k n]
  by_cases e:k=kd
  ·subst e;have f:¬t=x:=λe=>a e.symm;rw[Cj,Kk]
   by_cases q:Aq (G k) x = -1
   ·rw[if_pos q,if_neg f,q]
   ·rw[if_neg q]
  ·rw[Cy _ e]
def Hy (G:Int->List Tx) (ts:List Tx) (i:Nat):Prop:=Ih G (ts.getD i [])\/∃j,j<i/\ts.getD j []=ts.getD i []
theorem acU {G:Int->List Tx} {kd:Int} (d:AR kd) (t x:Tx):Ih (AT G kd (G kd++[t])) x↔Ih G x\/t=x:=by
 constructor
 ·rintro⟨k,b,a⟩
  by_cases e:k=kd
  ·subst e;rw[Cj,Kk] at a
   by_cases q:Aq (G k) x = -1
   ·rw[if_pos q] at a
    by_cases c:t=x
    ·exact .inr c
    ·rw[if_neg c] at a;exact absurd rfl a
   ·exact .inl ⟨k,b,q⟩
  ·rw[Cy _ e] at a;exact .inl ⟨k,b,a⟩
 ·rintro(⟨k,b,a⟩|rfl)
  ·refine⟨k,b,?_⟩
   by_cases e:k=kd
   ·subst e;rw[Cj,Kk,if_neg a];exact a
   ·rw[Cy _ e];exact a
  ·refine⟨kd,d,?_⟩;rw[Cj,Kk]
   by_cases q:Aq (G kd) t = -1
   ·rw[if_pos q,if_pos rfl];omega
   ·rw[if_neg q];exact q
theorem Td {G:Int->List Tx} {kd:Int} (c:AR kd) (t:Tx) (ts:List Tx) (i:Nat):Hy G (t::ts) (i+1)↔Hy (AT G kd (G kd++[t])) ts i:=by
 unfold Hy;rw[acU c];have a:(t::ts).getD (i+1) []=ts.getD i []:=by simp
 rw[a];constructor
 ·rintro(h|⟨j,b,e⟩)
  ·exact .inl (.inl h)
  ·cases j with
   |zero=>exact .inl (.inr (by simpa using e))
   |succ j=>exact .inr ⟨j,by omega,by simpa using e⟩
 ·rintro((h|h)|⟨j,b,e⟩)
  ·exact .inl h
  ·exact .inr ⟨0,by omega,by simpa using h⟩
  ·exact .inr ⟨j+1,by omega,by simpa using e⟩
theorem Tc {G:Int->List Tx} (t:Tx) (ts:List Tx):Hy G (t::ts) 0↔Ih G t:=by
 unfold Hy;constructor
 ·rintro(h|⟨j,a,_⟩)
  ·simpa using h
  ·omega
 ·exact λh=>.inl (by simpa using h)
theorem aas {G:Int->List Tx} {kd:Int} (t:Tx) (ts:List Tx):AT (AT G kd (G kd++[t])) kd ((AT G kd (G kd++[t])) kd++ts)=AT G kd (G kd++(t::ts)):=by
 funext k
 by_cases e:k=kd
 ·subst e;simp[AT]
 ·simp[AT,e]
theorem Tr {kd:Int} (f:AR kd):∀(ts:List Tx) (G:Int->List Tx) (N:Tx->Option (Int×Nat)),Fm N G->
 ((∃i,i<ts.length/\Hy G ts i)->BD kd N (G kd) ts=none)/\((∀i,i<ts.length->¬Hy G ts i)->∃d,BD kd N (G kd) ts=some (d,G kd++ts)/\Fm d (AT G kd (G kd++ts)))
 |[],G,N,h=>by
  refine⟨?_,λ_=>⟨N,by simp[BD],?_⟩⟩
  ·rintro⟨i,b,_⟩;simp at b
  ·have e:AT G kd (G kd++[])=G:=by
    funext k
    by_cases e:k=kd
    ·subst e;simp[AT]
    ·simp[AT,e]
   rw[e];exact h
 |t::ts,G,N,h=>by
  cases a:N t with
  |some p=>
   have l:BD kd N (G kd) (t::ts)=none:=by simp[BD,a]
   refine⟨λ_=>l,λg=>?_⟩
   exfalso
   apply g 0 (by simp)
   rw[Tc]
   by_cases q:Ih G t
   ·exact q
   ·rw[(h.free t).2 q] at a;cases a
  |none=>
   have n:=h.put a f;have j:=Tr f ts _ _ n;rw[Cj] at j;have l:BD kd N (G kd) (t::ts)=BD kd (Bc N t (kd,(G kd).length)) (G kd++[t]) ts:=by
    conv=>lhs;unfold BD
    rw[a]
   have m:=(h.free t).1 a;rw[l];refine⟨?_,λg=>?_⟩
   ·rintro⟨i,b,c⟩
    cases i with
    |zero=>rw[Tc] at c;exact absurd c m
    |succ i=>exact j.1 ⟨i,by simpa using b,(Td f t ts i).1 c⟩
   ·obtain⟨d,r,o⟩:=j.2 (λi b c=>g (i+1) (by simpa using b) ((Td f t ts i).2 c));refine⟨d,by rw[r];simp,?_⟩;have:=aas (G:=G) (kd:=kd) t ts;rw[Cj] at this;rw[<-this];exact o
def An (P:RP) (k:Int):List Tx:=if k=116 then P.names else P.get k
def IK (r:RI):List (Int×Tx):=if AG r.i.op=[116] then [(116,r.word)] else if IN (AG r.i.op) then [(108,r.word)] else []
def Ib (r:RI):PI:=⟨r.i,r.line,IK r⟩
def CW (l:List (Tx×Nat)):Tx->Option Nat:=λx=>l.foldl (λa p=>if p.1=x then some p.2 else a) none
def CA (th:AE):PB:=⟨th.code.map Ib,CW th.labs⟩
structure PL (P:RP) (s:PS):Prop where
 N:Fm s.N (An P)
 nms:∀k,AR k->s.nms k=An P k
 bod:s.bod=P.thr.map CA
 pos:∀th,th∈P.thr->∀r,r∈th.code->0<=r.i.x/\0<r.line
 few:∀k,AR k->(An P k).length<=4
 code:∀th,th∈P.thr->th.code.length<=24
def RP.new:RP:=⟨[],[],[],[]⟩
theorem NG (k:Int):An RP.new k=[]:=by simp[An,RP.names,RP.get,RP.new]
theorem PL.new:PL RP.new PS.new:=by
 refine⟨λt k n=>?_,λk _=>?_,rfl,(λth h=>by cases h),λk _=>?_,(λth h=>by cases h)⟩
 ·rw[NG];constructor
  ·intro h;cases h
  ·rintro⟨_,h⟩;simp[Aq] at h
 ·rw[NG];rfl
 ·rw[NG];simp
theorem acn {k:Int} (h:Cd k):AR k:=by rcases h with rfl|rfl|rfl<;>simp[AR]
theorem NF (P:RP) (t:Tx):ED P t=true↔Ih (An P) t:=by
 have e:An P 118=P.vs:=by simp[An,RP.get]
 have c:An P 102=P.fs:=by simp[An,RP.get]
 have d:An P 109=P.ls:=by simp[An,RP.get]
 have b:An P 116=P.names:=by simp[An]
 have z1:=Ik P.vs t;have z2:=Ik P.fs t;have z3:=Ik P.ls t;have z4:=Ik P.names t;unfold ED Ih;simp only[Bool.or_eq_true,decide_eq_true_eq];constructor
 ·rintro(((h|h)|h)|h)
  ·exact⟨118,by simp[AR],by rw[e];omega⟩
  ·exact⟨102,by simp[AR],by rw[c];omega⟩
  ·exact⟨109,by simp[AR],by rw[d];omega⟩
  ·exact⟨116,by simp[AR],by rw[b];omega⟩
 ·rintro⟨k,a,h⟩;have a:k=118\/k=102\/k=109\/k=116:=by simpa [AR] using a
  rcases a with rfl|rfl|rfl|rfl
  ·rw[e] at h;exact .inl (.inl (.inl (by omega)))
  ·rw[c] at h;exact .inl (.inl (.inr (by omega)))
  ·rw[d] at h;exact .inl (.inr (by omega))
  ·rw[b] at h;exact .inr (by omega)
theorem Te (P:RP) (ts:List Tx) (i:Nat):Gt P ts i↔Hy (An P) ts i:=by
 unfold Gt Hy;rw[NF]
end Go.Proofs.YtdcacoifehkioaaGreatDoor
