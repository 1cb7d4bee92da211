import Derived.Test.YtdcacoifehkioaaGreatDoorExR3
import Derived.Test.YtdcacoifehkioaaGreatDoorExR9
import Derived.Test.YtdcacoifehkioaaGreatDoorExR6
import Derived.Test.YtdcacoifehkioaaGreatDoorExR7
open Go renaming World->Xg,Calls->X3,Value->Xj,callsIn_wide->XT,undef->X1,heap_setCell_same->Xk,bodyPost_ret->XN
open Array renaming getElem?_eq_some_iff->Xa
open Nat renaming le_trans->Xu,le_refl->Xf
open List renaming mem_cons->XL,not_mem_nil->Yd,mem_of_getElem?->Xz,length_cons->Xw,cons_append->Yp,getElem?_eq_some_iff->Xe,getElem?_map->Xp,getElem?_eq_getElem->Xc,length_map->Xm,getElem_toArray->Zl,getElem_cons_zero->Y5,getElem_cons_succ->Y6,setIfInBounds_toArray->XK,set_cons_succ->X5,set_cons_zero->X6
open Go.World renaming cell?->Xh,frozen?->XE,cell?_of_block->Xr,alloc_heap_new->Xi
open Go.CallsIn renaming inRound->Zd
open Go.RowKit.Below renaming heap_setCell->Xl,heap_alloc->Xq,refl->Xo
open Option.some renaming injEq->adi
set_option maxRecDepth 100000
set_option maxHeartbeats 2000000
set_option linter.unusedVariables false
set_option linter.unusedSimpArgs false
namespace Go.Proofs.YtdcacoifehkioaaGreatDoor
open Go.RowKit Go.Shelf Go.Proofs.Cod
attribute [local go_sem] Oper.semAt_some
structure Ep (w:Xg) (base rb nb lb n:Nat) (t:Tx) (i:Nat) (W:Xg) (tag:Nat->RT) (G:RG) (s:PS) (X:List LB):Prop where
 rd:Ai W tag base rb nb lb G
 link:Cb G nb s X
 ok:KJ s
 lines:BP ((Ap 10 t).take i) 0 PS.new = .ok s
 line:G.line=i
 las:G.las.length<=3*i
 own:∀b,n<=b->b<n+7->tag b = .o
 cr:W.heap[n]?=some (.cells #[Ab rb] 135)
 cf:W.heap[n+1]?=some (.cells #[.int .i64 0,.int .i64 0] 138)
 low:Below base w W
structure Sh (w:Xg) (base n:Nat) (t:Tx) (chain:List PanicEntry) (W:Xg):Prop where
 ex:∃e l,chain=El e l/\BP (Ap 10 t) 0 PS.new = .error (e,l)
 cf:W.heap[n+1]?=some (.cells #[.int .i64 0,.int .i64 0] 138)
 low:Below base w W
theorem Ep.free {w:Xg} {base rb k lb n:Nat} {t:Tx} {i:Nat} {W a:Xg} {j:Nat->RT} {G:RG} {s:PS} {X:List LB} (h:Ep w base rb k lb n t i W j G s X) (u:base<=n) (c:∀b,b<W.heap.size->b∉[n+5,n+6,n+2]->a.heap[b]?=W.heap[b]?) (g:W.heap.size<=a.heap.size) (q:a.os=W.os) (r:a.tape=W.tape) (l:a.output=W.output):Ep w base rb k lb n t i a j G s X:=by
 have m:n<W.heap.size:=(Xa.1 h.cr).1;have p:n+1<W.heap.size:=(Xa.1 h.cf).1;refine⟨h.rd.Kg (λb f o=>c b f (λd=>?_)) g,h.link,h.ok,h.lines,h.line,h.las,h.own,(c n m (by simp)).trans h.cr,(c (n+1) p (by simp)).trans h.cf,⟨q.trans h.low.os,r.trans h.low.tape,l.trans h.low.output,Xu h.low.size g,λb f=>(c b (by omega) (λd=>?_)).trans (h.low.block b f)⟩⟩
 ·simp only[XL,Yd,or_false] at d
  rcases o with e|e
  ·exact e (h.own b (by omega) (by omega))
  ·omega
 ·simp only[XL,Yd,or_false] at d
  omega
theorem Im {c:UInt8}:∀{t:Tx} {i:Nat} {p:Tx},(Ap c t)[i]?=some p->p.length<=t.length
 |[],i,p,h=>by
  have:=Xz h;simp[Ap] at this;subst this;simp
 |b::l,i,p,h=>by
  unfold Ap at h
  split at h
  ·cases i with
   |zero=>cases h;simp
   |succ i=>have:=Im (t:=l) (i:=i) (p:=p) (by simpa using h);simp;omega
  ·cases a:Ap c l with
   |nil=>exact absurd a (NT c l)
   |cons q d=>
    rw[a] at h
    cases i with
    |zero=>
     cases h
     have:=Im (t:=l) (i:=0) (p:=q) (by rw[a];rfl)
     simp;omega
    |succ i=>
     have:=Im (t:=l) (i:=i+1) (p:=p) (by rw[a];simpa using h)
     simp;omega
theorem Nl (t:Tx):(Cf t).length<=t.length+1:=by
 unfold Cf;have b:=List.length_filter_le (λp:Tx => !p.isEmpty) (Ap 32 (Bu 35 t));have c:=Qq0 32 (Bu 35 t);have a:=Ku 35 t
 omega
theorem Nn {t p:Tx} (h:p∈Cf t):p.length<=t.length:=by
 unfold Cf at h;obtain⟨i,a⟩:=List.getElem?_of_mem (List.mem_filter.1 h).1;have:=Im a;have:=Ku 35 t
 omega
theorem Mh {W c:Xg} {a d:Nat->RT} {n:Nat} (e:Ag W a c d) (h:n+6<W.heap.size) (g:∀b,n<=b->b<n+7->a b = .o):Na [n+5,n+6,n+1+1+1,n+1+1,n+1+1+2] W c:=λb f=>by
 simp only[XL,Yd,or_false] at f;exact e.block b (by omega) (g b (by omega) (by omega))
theorem Ep.count {w:Xg} {base rb b lb n:Nat} {t:Tx} {i:Nat} {W c:Xg} {a:Nat->RT} {G:RG} {s:PS} {X:List LB} (h:Ep w base rb b lb n t i W a G s X) (d:Below (W.setCell ⟨rb,0,none⟩ (.int .i64 ((i:Int)+1))).heap.size (W.setCell ⟨rb,0,none⟩ (.int .i64 ((i:Int)+1))) c) :
 Ai c a base rb b lb {G with line:=(i:Int)+1}/\Ag W a c a/\Cb {G with line:=(i:Int)+1} b s X:=by
 obtain⟨e,f⟩:=h.rd.TU ((i:Int)+1)
 exact⟨e.below d,f.trans (.Ch d),h.link.line _⟩
theorem Ep.ext {w:Xg} {base rb e lb n:Nat} {t:Tx} {i j:Nat} {W f:Xg} {k g:Nat->RT} {G d:RG} {s s':PS} {X l:List LB} (h:Ep w base rb e lb n t i W k G s X) (y:base<=n) (z:n+6<W.heap.size) (a:Ag W k f g) (r:Ai f g base rb e lb d) (m:Cb d e s' l) (o:KJ s') (u:BP ((Ap 10 t).take j) 0 PS.new = .ok s') (x:d.line=j) (v:d.las.length<=3*j):Ep w base rb e lb n t j f g d s' l:=by
 have p:∀b,b<base->f.heap[b]?=W.heap[b]?:=λb c=>a.block b (by omega) (h.rd.low c)
 exact⟨r,m,o,u,x,v,λb c q=>(a.tags b (by omega)).trans (h.own b c q),(a.block n (by omega) (h.own n (by omega) (by omega))).trans h.cr,(a.block (n+1) (by omega) (h.own (n+1) (by omega) (by omega))).trans h.cf,⟨a.os.trans h.low.os,a.tape.trans h.low.tape,a.output.trans h.low.output,Xu h.low.size a.size,λb c=>(p b c).trans (h.low.block b c)⟩⟩
theorem Ep.fault {w:Xg} {base rb m lb n:Nat} {t:Tx} {i:Nat} {W d:Xg} {f g:Nat->RT} {G:RG} {s:PS} {X:List LB} (h:Ep w base rb m lb n t i W f G s X) (o:base<=n) (p:n+6<W.heap.size) (a:Ag W f d g) {e l:Int} (k:BP (Ap 10 t) 0 PS.new = .error (e,l)):Sh w base n t (El e l) d:=by
 have j:∀b,b<base->d.heap[b]?=W.heap[b]?:=λb c=>a.block b (by omega) (h.rd.low c)
 exact⟨⟨e,l,rfl,k⟩,(a.block (n+1) (by omega) (h.own (n+1) (by omega) (by omega))).trans h.cf,⟨a.os.trans h.low.os,a.tape.trans h.low.tape,a.output.trans h.low.output,Xu h.low.size a.size,λb c=>(j b c).trans (h.low.block b c)⟩⟩
theorem Uz {w:Xg} {a8:Nat->RT} {base rb nb lb:Nat} (h:Ai w a8 base rb nb lb RG.new) (t:Tx) (ht:t.length<=3000) :
 X3 Tryz.prog 48 #[Ab rb,.string (bs t)] w (acP w base rb t):=by
 have cv:∀(fn:Fn) (first cap:Array Xj) (w:Xg),(Instr.makeFunc fn first cap).run Tryz.prog w = .ok (.func fn first cap) w:=λ_ _ _ _=>rfl;unfold Ab;refine(XT (n:=9)).1 ?_;refine RC Tryz.func48 rfl trivial ?_ rfl;simp only[Tryz.ntmps48,List.size_toArray,Xw,List.length_nil,Nat.reduceAdd,Nat.reduceSub,Array.replicate_succ,Array.replicate_zero,List.push_toArray,List.append_toArray,List.nil_append,Yp];refine FT (FU ?_)
 gi_wp2
 refine FT (FU ?_)
 gi_wp2
 refine FT (FT (FU ?_))
 gi_wp2_with (refine⟨trivial,?_⟩;gi_at_call 105;refine(XT.2 (NU t 10 _)).mono ?_;rintro e w2 ⟨rfl,rfl⟩)
 refine Nk ?_;obtain⟨W0,bE,Y,az,k0,k1,k2,k3,k4,o0,t0,p0⟩:=QR w (.cells #[.pointer (some ⟨rb,0,none⟩)] 135) (.cells #[.int .i64 0,.int .i64 0] 138) (.cells #[.string (bs t)] 9) (.cells #[.string (bs [10])] 9) (.cells #[.int .i64 0] 3);rw[bE];clear bE;have aL:=h.g3;have aR:Ep w base rb nb lb w.heap.size t 0 W0 a8 RG.new PS.new []:=by
  refine⟨h.Kg (λb z _=>az b z) (by omega),Cb.new nb,⟨rfl,λk=>by simp[PS.new]⟩,rfl,rfl,by simp[RG.new],λb z _=>?_,k0,k1,⟨o0,t0,p0,by omega,λb z=>az b (by omega)⟩⟩
  cases R:a8 b with
  |o=>rfl
  |_=>exact absurd (h.tlt b (by rw[R];simp)).2 (by omega)
 refine Nj (fnd:=Tryz.f48) Tryz.func48 (w.heap.size+1+1+1) (w.heap.size+1+1) (w.heap.size+1+1+2) 10 t rfl (by omega) (by simp[Xh,k3]) (by simp[Xh,k2]) (by simp[Xh,k4]) (by simp[XE,k2]) (by omega) (by omega)
  (λi W=>∃P G s X,Ep w base rb nb lb w.heap.size t i W P G s X)
  (Sh w base w.heap.size t) ?free ?start (λp=>{tmps := #[.pointer (some ⟨rb,0,none⟩),.string (bs t),.pointer (some ⟨w.heap.size,0,none⟩),X1,.pointer (some ⟨w.heap.size+1,0,none⟩),.string (bs p),X1,X1,X1,.func (.func 104) #[] #[.pointer (some ⟨w.heap.size+1,0,none⟩)],.string (bs t),.func (.func 176) #[] #[.pointer (some ⟨w.heap.size+1+1+1,0,none⟩),.pointer (some ⟨w.heap.size+1+1,0,none⟩),.pointer (some ⟨w.heap.size+1+1+2,0,none⟩)],.string (bs p),X1,X1,X1,X1,X1,X1,X1,X1,X1,X1,X1,X1,X1,X1,X1,X1,X1,X1,X1,X1,X1,X1,X1,X1,X1,X1,X1,X1,X1,X1,X1,X1,X1,X1],defers:=[]}) ?assign ?body ?done ?panic
 case assign=>
  intro l p W K m
  gi_wp2
  exact m
 case start=>exact⟨_,_,_,_,aR⟩
 case free=>
  rintro i W W' ⟨P,G,s,X,d⟩ bw cm h1 h2 h3;rw[Y] at bw
  exact⟨P,G,s,X,d.free aL bw cm h1 h2 h3⟩
 case body=>
  rintro l i p W ⟨P,G,s,X,d⟩ hp a6;have S:w.heap.size+6<W.heap.size:=by omega
  have cL:i<(Ap 10 t).length:=(Xe.1 hp).1;have bL:=Qq0 10 t;have cF:=Im hp;have cr:W.cell? ⟨w.heap.size,0,none⟩=some (.pointer (some ⟨rb,0,none⟩)):=by simp[Xh,d.cr,Ab]
  have cl:=d.rd.FC;rw[d.line] at cl;have fl:=d.rd.De 0;have cB:wrap64 ((i:Int)+1)=(i:Int)+1:=IntWalk.wrap64_in _ (by omega);have HS:Hid (∀u:Xg,X3 Tryz.prog 106 #[.string (bs p)] u λe w'=>∃v,e = .returned v/\w'.ownsRow u.heap.size 9 1 v (Cf p).length ((Cf p).map Ih)/\Below u.heap.size u w'):=λu=>Ty p u (by omega);have HL:=Aa (Ma hp d.lines);have aV:Hid (rb≠w.heap.size):=λe=>by have:=d.own rb (by omega) (by omega);rw[d.rd.trd] at this;cases this
  have cw:=Aa Y;have H:=Aa d;rw[Y]
  cases hw:Cf p with
  |nil=>
   rw[hw] at HS;have aK:=Aa hw;clear hw d h aR k0 k1 k2 k3 k4 az Y hp bL a6
   gi_wp2_with (refine⟨trivial,rfl,?_⟩;gi_at_call 106;refine(Zd l (XT.2 (HS.out _))).mono ?_;rintro e O ⟨v,rfl,A,aO⟩;obtain⟨va,av,rfl⟩:=At A)
   have d:=H.out;obtain⟨Q,F,U⟩:=d.count aO;refine⟨Mh F S d.own,P,_,s,X,d.ext aL S F Q U d.ok (HL.out.1 s ?_) (by simp) (by show G.las.length<=_;have:=d.las;omega)⟩;unfold BJ;rw[aK.out]
  |cons f ts=>
   rw[hw] at HS;have aK:=Aa hw;have br:=Nl p;have cN:=Nn (t:=p) (p:=f) (by rw[hw];simp);rw[hw] at br;simp only[Xw] at br;have b5:Hid (∀u b2 G' s' X',Ep w base rb nb lb w.heap.size t i u b2 G' s' X'->True):=λ_ _ _ _ _ _=>trivial;clear hw d h aR k0 k1 k2 k3 k4 az Y hp a6 b5
   gi_wp2_with (refine⟨trivial,rfl,?_⟩;gi_at_call 106;refine(Zd l (XT.2 (HS.out _))).mono ?_;rintro e O ⟨v,rfl,A,aO⟩;obtain⟨J,av,rfl⟩:=ownsRow_succ (k:=ts.length) A)
   have d:=H.out;obtain⟨Q,F,U⟩:=d.count aO;have aP:=A.lt J rfl;simp only[World.size_setCell] at aP;have a7:P J = .o:=by
    cases R:P J with
    |o=>rfl
    |_=>exact absurd (d.rd.tlt J (by rw[R];simp)).2 (by omega)
   have T:Ag O P O.drew P:=⟨rfl,rfl,rfl,Xf _,λ_ _=>rfl,λ_ _ _=>rfl⟩;have a9:∀j,O.cell? ⟨J,j,none⟩=if j<ts.length+1 then((f::ts).map Ih)[j]? else O.cell? ⟨J,j,none⟩:=λj=>by
    split
    ·rename_i hj;exact A.cellAt j (by simpa using hj)
    ·rfl
   have c0:O.cell? ⟨J,0,none⟩=some (.string (bs f)):=by rw[a9 0,if_pos (by omega)];rfl
   have cy:ts.length+1<=av:=by
    rcases A.2 with⟨e,_⟩|⟨g,c',ck,e,_,_,h4,_⟩
    ·cases e
    ·cases e;exact h4
   have bu:Cm O P (if av=1 then some ⟨J,0,none⟩ else some ⟨J,1,none⟩) ts:=λj hj=>⟨J,1,if_neg (by omega),aP.2,by
    rw[a9 (1+j),if_pos (by omega),Xp,Nat.add_comm 1 j,List.getElem?_cons_succ,Xc hj,List.getD_eq_getElem?_getD,Xc hj];rfl,a7⟩
   have bP:G.bods=[]\/∃a bc,G.bods.getLast?=some a/\G.B a=some bc/\bc.ins.length<=24:=by
    rcases List.eq_nil_or_concat X with e|⟨X0,x,e⟩
    ·exact .inl (by rw[d.link.bods,e];rfl)
    ·rw[List.concat_eq_append] at e;have r:=d.link.each x (by rw[e];simp);exact .inr ⟨x.a,x.c,by rw[d.link.bods,e];simp,r.b,by rw[r.len];exact r.small⟩
   have b9:G.bods.length<=4:=by
    have e1:G.bods.length=X.length:=by rw[d.link.bods,Xm]
    have e2:s.bod.length=X.length:=by rw[d.link.bod,Xm]
    have:=d.ok.thr;have:=d.ok.few 116
    omega
   have hT:=Tc (w:=O.drew) (Ai.keep (w':=O.drew) Q (λ_ _=>rfl) T) bP f (if av=1 then some ⟨J,0,none⟩ else some ⟨J,1,none⟩) ts.length (av - 1) ts rfl (Cm.ext (w':=O.drew) bu T) (by omega) (λk=>by show (G.nms k).length+ts.length<_;rw[d.link.nms];have:=d.ok.few k;omega) (by show G.bods.length<_;omega) (by show G.las.length+ts.length<_;have:=d.las;omega);have bX:O.cell? ⟨w.heap.size,0,none⟩=some (.pointer (some ⟨rb,0,none⟩)):=(Xr (w:=W) (a:=⟨w.heap.size,0,none⟩) (F.block w.heap.size (by omega) (d.own w.heap.size (by omega) (by omega)))).trans cr;have cn:Tryz.prog.follows .mixedOrders=true:=by kernel_rfl
   have HE:=Aa (⟨Q,F,U,T⟩:_/\_/\_/\_);unfold Ab at hT;replace hT:=Aa hT;have au:O.drew.cell? ⟨w.heap.size,0,none⟩=some (.pointer (some ⟨rb,0,none⟩))/\O.drew.cell? ⟨J,0,none⟩=some (.string (bs f)):=⟨bX,c0⟩;have bl:(1:Int)<=(ts.length:Int)+1:=by omega
   have cM:(ts.length:Int)+1<=av:=by omega
   have bt:=Aa (⟨a7,aP.2⟩:_/\_);clear a9 bu bP b9 Q F U T d A aO aP a7;refine OJ (λw'=>w'.cell? ⟨w.heap.size,0,none⟩=some (.pointer (some ⟨rb,0,none⟩))/\w'.cell? ⟨J,0,none⟩=some (.string (bs f))) cn ?_;refine FD (i:=0) (v:=?_) rfl (by kernel_rfl) (λ_ _ _ h=>h) (by kernel_rfl) (by kernel_rfl) ⟨by rfl,?_,λ_=>rfl⟩ au ?_
   rotate_left
   ·intro w9 M;(try dsimp only at M);obtain⟨ay,aF⟩:=M;go_simp;try with_reducible rfl
   simp only[Act.put,Zl,Y5,Y6,XK,X5,X6];refine FD (i:=1) (v:=?_) rfl (by kernel_rfl) (λ_ _ _ h=>h) (by kernel_rfl) (by kernel_rfl) ⟨by rfl,?_,λ_=>rfl⟩ au ?_
   rotate_left
   ·intro w9 M;(try dsimp only at M);obtain⟨ay,aF⟩:=M;go_simp;try with_reducible rfl
   simp only[Act.put,Zl,Y5,Y6,XK,X5,X6];refine FD (i:=2) (v:=?_) rfl (by kernel_rfl) (λ_ _ _ h=>h) (by kernel_rfl) (by kernel_rfl) ⟨by rfl,?_,λ_=>rfl⟩ au ?_
   rotate_left
   ·intro w9 M;(try dsimp only at M);obtain⟨ay,aF⟩:=M;go_simp;try with_reducible rfl
   simp only[Act.put,Zl,Y5,Y6,XK,X5,X6];refine FD (i:=3) (v:=?_) rfl (by kernel_rfl) (λ_ _ _ h=>h) (by kernel_rfl) (by kernel_rfl) ⟨by rfl,?_,λ_=>rfl⟩ au ?_
   rotate_left
   ·intro w9 M;(try dsimp only at M);obtain⟨ay,aF⟩:=M;go_simp;try with_reducible rfl
   simp only[Act.put,Zl,Y5,Y6,XK,X5,X6];refine FD (i:=4) (v:=?_) rfl (by kernel_rfl) (λ_ _ _ h=>h) (by kernel_rfl) (by kernel_rfl) ⟨by rfl,?_,λ_=>rfl⟩ au ?_
   rotate_left
   ·intro w9 M;(try dsimp only at M);obtain⟨ay,aF⟩:=M;go_simp;try with_reducible rfl
   simp only[Act.put,Zl,Y5,Y6,XK,X5,X6];refine FD (i:=5) (v:=?_) rfl (by kernel_rfl) (λ_ _ _ h=>h) (by kernel_rfl) (by kernel_rfl) ⟨by rfl,?_,λ_=>rfl⟩ au ?_
   rotate_left
   ·intro w9 M;(try dsimp only at M);obtain⟨ay,aF⟩:=M;go_simp;try with_reducible rfl
   simp only[Act.put,Zl,Y5,Y6,XK,X5,X6];refine Mo (i:=6) (by kernel_rfl) rfl (λK m=>?_)
   go_simp
   refine⟨trivial,rfl,?_⟩
   gi_at_call 107
   refine(Zd l (XT.2 hT.out)).mono ?_;rintro e w6 (⟨t6,G6,rfl,b3,a0,bY⟩|⟨t6,e6,rfl,a0,b0⟩)
   ·obtain⟨Q,F,U,T⟩:=HE.out;have r:=F.trans (T.trans a0);have d:=H.out;have c1:w6.cell? ⟨w.heap.size,0,none⟩=some (.pointer (some ⟨rb,0,none⟩)):=(Xr (w:=W) (a:=⟨w.heap.size,0,none⟩) (r.block w.heap.size (by omega) (d.own w.heap.size (by omega) (by omega)))).trans cr;have c2:w6.cell? ⟨J,0,none⟩=some (.string (bs f)):=(Xr (w:=O) (a:=⟨J,0,none⟩) ((T.trans a0).block J bt.out.2 bt.out.1)).trans c0;refine m _ _ ⟨c1,c2⟩ ?_;clear m K;refine QD (by kernel_rfl) ?_;obtain⟨s',X',q1,q2,q3,q4,q5⟩:=SZ bY U d.ok (Ai.fresh (w:=O.drew) (Ai.keep (w':=O.drew) Q (λ_ _=>rfl) T));have bg:BJ (0+(i:Int)+1) p s = .ok s':=by unfold BJ;rw[aK.out,Int.zero_add];exact q1
    have ct:=d.ext (j:=i+1) aL S r b3 q2 q3 (HL.out.1 s' bg) (by rw[q5];simp) (by have:=d.las;have q4:G6.las.length<=G.las.length+3:=q4;omega)
    exact⟨Mh r S d.own,t6,G6,s',X',ct⟩
   ·obtain⟨Q,F,U,T⟩:=HE.out;have r:=F.trans (T.trans a0);have d:=H.out;have q1:=Tb b0 U;have bg:BJ (0+(i:Int)+1) p s = .error e6:=by unfold BJ;rw[aK.out,Int.zero_add];exact q1
    have bH:=HL.out.2 e6 bg;rw[Int.zero_add] at bH
    exact⟨rfl,Mh r S d.own,d.fault aL S r bH⟩
 case panic=>
  intro cK W hX Z;rw[Y] at Z |-;obtain⟨e,l,rfl,hl⟩:=hX.ex;refine Qc (x:=0) (y:=0) rfl Z hX.cf (λW' h1 h2 h3 h4 h5=>⟨⟨h3.trans hX.low.os,h4.trans hX.low.tape,h5.trans hX.low.output,Xu hX.low.size h2,λb z=>(h1 b (by have:=hX.low.size;omega) (by omega) (by omega)).trans (hX.low.block b z)⟩,.inl ⟨e,l,Pf hl,rfl⟩⟩)
 case done=>
  rintro W ⟨P,G,s,X,d⟩ Z;rw[Y] at Z |-;have aG:=d.lines;rw[List.take_length] at aG;have S:w.heap.size+5<W.heap.size:=(Xa.1 Z).1;have cr:W.cell? ⟨w.heap.size,0,none⟩=some (.pointer (some ⟨rb,0,none⟩)):=by simp[Xh,d.cr,Ab]
  have bx:=d.rd.Mc;obtain⟨la,cI,hV⟩:=IS d.rd.lrow;rw[Xm] at hV;rw[hV] at bx;have bL:=Qq0 10 t;have cJ:G.las.length<1048576:=by have:=d.las;omega
  have bv:Hid (Se W P base rb nb lb G s X 0 W G.I):=⟨d.rd,Ag.refl W P,by simp,λ_ h=>h⟩;replace hV:=Aa hV;replace aG:=Aa aG;have H:=Aa d;replace Z:=Aa Z;have cQ:=Aa Y;replace S:=Aa S;clear d h aR k0 k1 k2 k3 k4 az Y o0 t0 p0;refine FU ?_
  gi_wp2
  gi_loopw [37] (λiv wr=>∃(j:Nat) (I:Nat->Option Ac),j<=G.las.length/\iv = .int .i64 j/\Se W P base rb nb lb G s X j wr I) (λiv _=>G.las.length - (intOf iv).toNat)
  case atStart=>exact⟨0,G.I,Nat.zero_le _,rfl,bv.out⟩
  case round=>
   clear bv bx cr;obtain⟨j,I,hj,rfl,m⟩:=hrel;have d:=H.out
   by_cases h5:j<G.las.length
   ·obtain⟨c,hc⟩:∃c,G.las[j]?=some c:=⟨_,Xc h5⟩;obtain⟨x,p,q,e1,e2,e3,e4,e5,e6,e7,e8⟩:=d.link.WH hc;have r:=d.link.each x e2;obtain⟨i,hi⟩:∃i,I c.ia=some i:=by
     obtain⟨i0,bi⟩:=r.addr e8;rw[<-e3] at bi;exact Option.isSome_iff_exists.1 (m.some c.ia (by rw[bi];rfl))
    have hM:DD wr P c.tb (Ea s.N x.pb.labs c.kd):=by
     unfold Ea;rw[e4,e5]
     by_cases h6:q.1=116
     ·rw[if_pos h6,if_pos h6,<-d.link.N];exact m.rd.names
     ·rw[if_neg h6,if_neg h6,<-r.labs];exact(m.rd.bodies x.a x.c r.b).labs
    have hC:=ab3 m.rd (c:=c) (Xz hc) hi hM;have A:=m.rd.lrow.row;have A:wr.ownsRow base 1 1 G.lV (G.las.map BA.val).length (G.las.map BA.val):=A;rw[Xm] at A;obtain⟨gl,rfl⟩:∃g,la=some ⟨g,0,none⟩:=by
     rcases A.2 with⟨_,e⟩|⟨g,cap,ck,e,_⟩
     ·omega
     ·rw[hV.out] at e;cases e;exact⟨_,rfl⟩
    rw[hV.out] at A;have cc:wr.cell? ⟨gl,j,none⟩=some c.val:=by rw[A.cellAt j (by omega),Xp,hc];rfl
    have a6:(j:Int)<(G.las.length:Int):=by omega
    have hQ:((X.flatMap Dh).map (BT s.N)).drop j=⟨c.ia,c.kd,c.nm,c.ln,Ea s.N x.pb.labs c.kd⟩::((X.flatMap Dh).map (BT s.N)).drop (j+1):=by
     have hg:((X.flatMap Dh).map (BT s.N))[j]?=some ⟨c.ia,c.kd,c.nm,c.ln,Ea s.N x.pb.labs c.kd⟩:=by
      rw[Xp,e1,e3,e5,e6,e7];rfl
     obtain⟨b1,e⟩:=Xe.1 hg;rw[List.drop_eq_getElem_cons b1,e]
    unfold BA.val at cc;have HE:=Aa (⟨m,hi,hQ⟩:_/\_/\_);unfold Ab at hC cc;clear m hM hi hQ r e1 e2 e3 e4 e5 e6 e7 e8 d A;clear A
    gi_wp2_with fail
    refine⟨trivial,?_⟩
    gi_at_call 228
    refine(XT.2 hC).mono ?_;rintro e w6 (⟨n,q1,rfl,q3,q4⟩|⟨q1,rfl,q3⟩)
    ·gi_wp2
     go_roundw
     case rel=>
      obtain⟨m,hi,hQ⟩:=HE.out;refine⟨j+1,Bw I c.ia {i with x:=(n:Int)},by omega,by go_num,q3,m.ext.trans q4,?_,λia h=>?_⟩
      ·rw[m.run,hQ]
       conv=>lhs;unfold Cp
       show (match Ea s.N x.pb.labs c.kd c.nm with|some p=>_|none=>_)=_;rw[q1];show (if c.kd=c.kd then _ else _)=_;rw[if_pos rfl];show (match I c.ia with|some i=>_|none=>_)=_;rw[hi]
      ·unfold Bw
       split
       ·rfl
       ·exact m.some ia h
     case measure=>simp[intOf];omega
    ·obtain⟨m,hi,hQ⟩:=HE.out;have d:=H.out;have aw:Cp ((X.flatMap Dh).map (BT s.N)) G.I = .error c.ln:=by
      rw[m.run,hQ];unfold Cp;show (match Ea s.N x.pb.labs c.kd c.nm with|some p=>_|none=>_)=_
      cases R:Ea s.N x.pb.labs c.kd c.nm with
      |none=>rfl
      |some p'=>
       show (if p'.1=c.kd then _ else _)=_;rw[if_neg];intro e;exact q1 p'.2 (by rw[R,<-e])
     have cg:CJ s.N s.bod = .error c.ln:=by
      rw[d.link.bod]
      rcases Lp s.N X G.I d.link.ndi (λx r=>⟨(d.link.each x r).len,(d.link.each x r).ins⟩) with⟨C,I',_,_,_,_,g5⟩|⟨e,Q,F⟩
      ·rw[aw] at g5;cases g5
      ·rw[aw] at F;cases F;exact Q
     have r:=m.ext.trans q3;have ba:=S.out;refine Qc (n:=w.heap.size) (x:=0) (y:=0) rfl ((r.block _ ba (d.own (w.heap.size+5) (by omega) (by omega))).trans Z.out) ((r.block (w.heap.size+1) (by omega) (d.own (w.heap.size+1) (by omega) (by omega))).trans d.cf) (λW' h1 h2 h3 h4 h5=>⟨⟨h3.trans (r.os.trans d.low.os),h4.trans (r.tape.trans d.low.tape),h5.trans (r.output.trans d.low.output),Xu d.low.size (Xu r.size h2),λb z=>(h1 b (by have:=r.size;omega) (by omega) (by omega)).trans ((r.block b (by omega) (d.rd.low z)).trans (d.low.block b z))⟩,.inl ⟨5,c.ln,Pe aG.out cg,rfl⟩⟩)
   ·have bO:j=G.las.length:=by omega
    subst bO;have cu:((X.flatMap Dh).map (BT s.N)).length=G.las.length:=by
     have:=congrArg List.length d.link.keys;rw[Xm,Qj,Xm] at this;rw[Xm,this]
    have aw:Cp ((X.flatMap Dh).map (BT s.N)) G.I = .ok I:=by
     rw[m.run,List.drop_of_length_le (by omega)];rfl
    rcases Lp s.N X G.I d.link.ndi (λx r=>⟨(d.link.each x r).len,(d.link.each x r).ins⟩) with⟨C,I',Q,F,U,g4,g5⟩|⟨e,Q,F⟩
    case inr=>rw[aw] at F;cases F
    rw[aw] at g5;have eI:I=I':=Except.ok.inj g5;subst eI;have a5:G.bods.length=X.length:=by rw[d.link.bods,Xm]
    have bl:s.bod.length=X.length:=by rw[d.link.bod,Xm]
    have bW:=d.ok.thr;have ch:=d.ok.few 116;have bp:=ab0 m.rd C (by show C.length=G.bods.length;omega) (by show (G.nms 116).length=G.bods.length;rw[d.link.nms];omega) (λk a is ha his=>by
     have ha:G.bods[k]?=some a:=ha;rw[d.link.bods,Xp] at ha;obtain⟨x,r,rfl⟩:=Option.map_eq_some_iff.1 ha;have z:=d.link.each x (Xz r);obtain⟨m1,m2⟩:=g4 k x is r his;have:=z.small;have:=z.len;refine⟨x.c,z.b,m1.symm,by omega,λj ia hj=>?_⟩;have bO:=(Xe.1 hj).1
     exact⟨_,Xc (by omega),m2 j ia _ hj (Xc (by omega))⟩) (by show G.bods.length<_;omega)
    have ba:=S.out;have cr:wr.cell? ⟨w.heap.size,0,none⟩=some (.pointer (some ⟨rb,0,none⟩)):=(Xr (w:=W) (a:=⟨w.heap.size,0,none⟩) (m.ext.block w.heap.size (by omega) (d.own w.heap.size (by omega) (by omega)))).trans (by simp[Xh,d.cr,Ab]);have aV:rb≠w.heap.size+1:=λe=>by have:=d.own (w.heap.size+1) (by omega) (by omega);rw[<-e,d.rd.trd] at this;cases this
    have bF:∀E:Xg,(∀b,b<wr.heap.size->b≠rb->E.heap[b]?=wr.heap[b]?)->E.heap[w.heap.size+1]?=some (.cells #[.int .i64 0,.int .i64 0] 138):=λE h7=>(h7 (w.heap.size+1) (by have:=m.ext.size;omega) (λe=>aV e.symm)).trans ((m.ext.block (w.heap.size+1) (by omega) (d.own (w.heap.size+1) (by omega) (by omega))).trans d.cf);have HE:=Aa (⟨m,Q,bF,aV⟩:_/\_/\_/\_);unfold Ab at bp;clear m d Q F U g4 g5 aw cu a5 bl bW ch bF
    gi_wp2_with (refine⟨trivial,?_⟩;gi_at_call 108;refine(XT.2 bp).mono ?_;rintro e E ⟨rfl,bS,L,D,ci⟩;have ab:=HE.out.2.2.1 E D.old;have d0:E.cell? ⟨w.heap.size+1,0,none⟩=some (.int .i64 0):=(by simp[Xh,ab]);have d1:E.cell? ⟨w.heap.size+1,1,none⟩=some (.int .i64 0):=(by simp[Xh,ab]);have f0:E.frozen? ⟨w.heap.size+1,0,none⟩=false:=(by simp[XE,ab]);have f1:E.frozen? ⟨w.heap.size+1,1,none⟩=false:=(by simp[XE,ab]);replace ab:=Aa ab;replace D:=Aa D)
    obtain⟨m,Q,_,_⟩:=HE.out;have d:=H.out;have D:=D.out;have cx:=D.size;have cO:=m.ext.size;have bh:rb≠w.heap.size+5:=λe=>by have:=d.own (w.heap.size+5) (by omega) (by omega);rw[<-e,d.rd.trd] at this;cases this
    have cG:=m.rd.lt m.rd.trd (by simp);have cC:=(m.rd.tlt rb (by rw[m.rd.trd];simp)).1;have h8:∀b,b≠w.heap.size+1->((E.setCell ⟨w.heap.size+1,0,none⟩ (.int .i64 0)).setCell ⟨w.heap.size+1,1,none⟩ (.int .i64 0)).heap[b]?=E.heap[b]?:=λb z=>(Xl _ ⟨w.heap.size+1,1,none⟩ _ b z).trans (Xl _ ⟨w.heap.size+1,0,none⟩ _ b z);have bU:((E.setCell ⟨w.heap.size+1,0,none⟩ (.int .i64 0)).setCell ⟨w.heap.size+1,1,none⟩ (.int .i64 0)).heap.size=E.heap.size:=by simp
    have bQ:E.heap[w.heap.size+5]?=some (.deferred (some [])):=(D.old _ (by omega) (λe=>bh e.symm)).trans ((m.ext.block _ ba (d.own (w.heap.size+5) (by omega) (by omega))).trans Z.out);refine WC (n:=w.heap.size) (e:=0) (l:=0) rfl ((h8 _ (by omega)).trans bQ) (by rw[Xk _ _ 1 _ _ _ (Xk _ _ 0 _ _ _ ab.out)];rfl) (λW' h1 h2 h3 h4 h5=>?_);rw[bU] at h1 h2;have h7:∀b,b<E.heap.size->b≠w.heap.size+1->b≠w.heap.size+5->W'.heap[b]?=E.heap[b]?:=λb z e1 e2=>(h1 b z e2).trans (h8 b e1);have A:∀{v:Xj} {l:List Tx} {k:Int},CB wr P base 9 k v (l.map BB)->E.ownsRow base 9 1 v l.length (l.map BB):=λ{v l k} hr=>by
     have:=hr.row;rw[Xm] at this;exact Bg this λg e=>D.old g (this.lt g e).2 (BI (hr.tg g e) m.rd.trd (by simp))
    have co:Bz E base (G.V 118) (G.V 102) (G.V 109) bS (G.nms 118) (G.nms 102) (G.nms 109) L C:=⟨A (m.rd.rows 118 (.inl rfl)),A (m.rd.rows 102 (.inr (.inl rfl))),A (m.rd.rows 109 (.inr (.inr (.inl rfl)))),CN D.row (by have:=m.rd.g3;omega),λi p is hp his=>CN (D.codes i p is hp his) (by have:=m.rd.g3;omega),D.len⟩;have aS:W'.heap[rb]?=E.heap[rb]?:=h7 rb (by omega) aV bh;refine⟨⟨h3.trans (D.os.trans (m.ext.os.trans d.low.os)),h4.trans (D.tape.trans (m.ext.tape.trans d.low.tape)),h5.trans (D.output.trans (m.ext.output.trans d.low.output)),by have:=d.low.size;omega,λb z=>?_⟩,.inr ⟨s,C,Pc aG.out (by rw[d.link.bod];exact Q),rfl,⟨G.V 118,G.V 102,G.V 109,bS,L,?_,?_,?_,?_,?_,by rw[<-d.link.nms];exact ci⟩⟩⟩
    ·rw[h7 b (by omega) (by omega) (by omega),D.old b (by omega) (by omega),m.ext.block b (by omega) (d.rd.low z)];exact d.low.block b z
    ·simp[Xh,aS,D.cell]
    ·simp[Xh,aS,D.cell]
    ·simp[Xh,aS,D.cell]
    ·simp[Xh,aS,D.cell]
    ·rw[<-d.link.nms];refine co.kept λb z a5 bI=>h7 b a5 (λe=>bI ?_) (λe=>bI ?_)
     ·intro cs e' R;rw[e,ab.out] at R;simp only[adi,Obj.cells.injEq] at R;rw[<-R.2.1];decide
     ·intro cs e' R;rw[e,bQ] at R;cases R
theorem Ru {kd:Int} {ts:List Tx} {s:PS} {e:Int} (h:Bq kd ts s = .error e):e≠0:=by
 unfold Bq at h
 split at h
 ·cases h;decide
 ·split at h
  ·cases h;decide
  ·split at h
   ·cases h;decide
   ·cases h
theorem Tq {n:Int} {f:Tx} {ts:List Tx} {s:PS} {e:Int} (h:stepT n f ts s = .error e):e≠0:=by
 unfold stepT at h
 split at h
 ·split at h
  ·cases a:Bq 116 ts s with
   |error b=>rw[a] at h;cases h;exact Ru a
   |ok s'=>rw[a] at h;cases h
  ·cases h;decide
 ·split at h
  ·exact Ru h
  ·split at h
   ·unfold EF at h
    split at h
    ·cases h;decide
    ·split at h
     ·cases h;decide
     ·cases h
   ·unfold Dn at h
    split at h
    ·cases h;decide
    ·split at h
     ·cases h;decide
     ·split at h
      ·cases h;decide
      ·split at h
       ·cases h;decide
       ·cases h
theorem Wy {ls:List Tx} {n:Int} {s:PS} {p:Int×Int} (h:BP ls n s = .error p):p.1≠0:=by
 induction ls generalizing n s with
 |nil=>cases h
 |cons l ls b=>
  unfold BP at h
  split at h
  ·exact b h
  ·rename_i e a
   cases h
   unfold BJ at a
   split at a
   ·cases a
   ·exact Tq a
theorem Pg {t:Tx} {e l:Int} (h:Dc t = .error (e,l)):e≠0:=by
 unfold Dc at h
 split at h
 ·rename_i p a
  cases h
  exact Wy a
 ·split at h
  ·cases h;decide
  ·cases h
def Bk (t:Tx):Except (Int×Int) (PS×List (List Ac)):=if 3000<t.length then .error (1,0) else Dc t
def KI (w:Xg) (t:Tx) (e:Ending) (w':Xg):Prop:=Below w.heap.size w w'/\((∃er ln,Bk t = .error (er,ln)/\e = .returned (.tuple #[.agg #[.slice none 0 0,.slice none 0 0,.slice none 0 0,.slice none 0 0],.int .i64 er,.int .i64 ln]))\/
 (∃s C vV fV lV thV L,Bk t = .ok (s,C)/\e = .returned (.tuple #[.agg #[vV,fV,lV,thV],.int .i64 0,.int .i64 0])/\Bz w' w.heap.size vV fV lV thV (s.nms 118) (s.nms 102) (s.nms 109) L C/\L.map Prod.fst=s.nms 116))
theorem JR {w:Xg} {fn:Func} {tmps:Array Xj} {b:Nat} {x y d f c e:Xj} (g:fn.results = #[.cell 2 25,.tmp 3,.tmp 4]) (m:tmps[2]?=some (.pointer (some ⟨b,0,none⟩))) (k:tmps[3]?=some x) (n:tmps[4]?=some y) (a:w.heap[b]?=some (.cells #[d,f,c,e] 25)):(results fn tmps).run Tryz.prog w = .ok (.tuple #[.agg #[d,f,c,e],x,y]) w:=by
 have h:w.cell? ⟨b,0,none⟩=some d:=by simp[Xh,a]
 have i:w.cell? ⟨b,1,none⟩=some f:=by simp[Xh,a]
 have j:w.cell? ⟨b,2,none⟩=some c:=by simp[Xh,a]
 have l:w.cell? ⟨b,3,none⟩=some e:=by simp[Xh,a]
 simp[results,g,m,k,n,go_sem,h,i,j,l]
theorem QM {w:Xg} {n T:Nat} {i l h j:Xj} (e:w.heap[n]?=some (.cells #[i,l,h,j] T)) (f g c d:Xj) (o:Obj):∃W,(((((w.setCell ⟨n,0,none⟩ f).setCell ⟨n,1,none⟩ g).setCell ⟨n,2,none⟩ c).setCell ⟨n,3,none⟩ d).alloc o)=W/\W.heap[n]?=some (.cells #[f,g,c,d] T)/\(∀b,b<w.heap.size->b≠n->W.heap[b]?=w.heap[b]?)/\w.heap.size<=W.heap.size/\W.os=w.os/\W.tape=w.tape/\W.output=w.output:=by
 have m:n<w.heap.size:=(Xa.1 e).1;refine⟨_,rfl,?_,λb k a=>?_,by simp,rfl,rfl,rfl⟩
 ·rw[Xq _ _ n (by simpa using m),Xk _ _ 3 _ _ _ (Xk _ _ 2 _ _ _ (Xk _ _ 1 _ _ _ (Xk _ _ 0 _ _ _ e)))]
  rfl
 ·rw[Xq _ _ b (by simpa using k),Xl _ ⟨n,3,none⟩ _ b a,Xl _ ⟨n,2,none⟩ _ b a,Xl _ ⟨n,1,none⟩ _ b a,Xl _ ⟨n,0,none⟩ _ b a]
theorem Bz.base {w:Xg} {base e:Nat} {b d lV g:Xj} {vs fs ls:List Tx} {L:List (Tx×Xj)} {C:List (List Ac)} (h:Bz w base b d lV g vs fs ls L C) (a:e<=base):Bz w e b d lV g vs fs ls L C:=
 ⟨CN h.v a,CN h.f a,CN h.l a,CN h.t a,λi p is j k=>CN (h.c i p is j k) a,h.len⟩
theorem Vs (t:Tx) (w:Xg) (X:FQ w) (Q:FL w) (T:2<w.heap.size) (U:3<w.heap.size) (aN:t.length<140737488355328) :
 X3 Tryz.prog 20 #[.string (bs t)] w (KI w t):=by
 have hz:=AY t
 by_cases R:3000<t.length
 ·have ac:(3000:Int)<(t.length:Int):=by omega
  have E:Hid (Bk t = .error (1,0)):=by unfold Hid Bk;rw[if_pos R]
  have r:Hid (∀x,Below w.heap.size w (w.alloc x)):=λx=>(Xo _ _).alloc (Xf _) _
  go_enter Tryz.func20,Tryz.ntmps20
  go_wp2_with fail
  exact XN (JR rfl rfl rfl rfl (Xi w _)) rfl ⟨r.out _,.inl ⟨1,0,E.out,rfl⟩⟩
 ·have ac:¬(3000:Int)<(t.length:Int):=by omega
  have E:Hid (Bk t=Dc t):=by unfold Hid Bk;rw[if_neg R]
  obtain⟨w1,m⟩:∃w1,w.alloc (.cells #[.slice none 0 0,.slice none 0 0,.slice none 0 0,.slice none 0 0] 25)=w1:=⟨_,rfl⟩;have D:w1.heap.size=w.heap.size+1:=by rw[<-m];simp
  have p:Below w.heap.size w w1:=by rw[<-m];exact(Xo _ _).alloc (Xf _) _
  have az:w1.heap[w.heap.size]?=some (.cells #[.slice none 0 0,.slice none 0 0,.slice none 0 0,.slice none 0 0] 25):=by rw[<-m];exact Xi w _
  have J:=VN w1 (X.kept (p.block _ T)) (Q.kept (p.block _ U)) (by omega) (by omega);have V:Hid (∀(u:Xg) (A:Nat->RT),Ai u A w1.heap.size (w1.heap.size+1) w1.heap.size (w1.heap.size+1+1) RG.new->Ag w1 (λ_=>.o) u A->X3 Tryz.prog 48 #[.pointer (some ⟨w1.heap.size+1,0,none⟩),.string (bs t)] u λe z=>Below w.heap.size w z/\z.heap[w.heap.size]?=some (.cells #[.slice none 0 0,.slice none 0 0,.slice none 0 0,.slice none 0 0] 25)/\((∃q y,Dc t = .error (q,y)/\e = .returned (.agg #[.int .i64 q,.int .i64 y]))\/(∃s C,Dc t = .ok (s,C)/\e = .returned (.agg #[.int .i64 0,.int .i64 0])/\Sb z w1.heap.size (w1.heap.size+1) s C))):=λu A F j=>by
   refine(Uz F t (by omega)).mono ?_;rintro e z ⟨d,aE⟩;have Y:∀b,b<w1.heap.size->z.heap[b]?=w1.heap[b]?:=λb h=>(d.block b h).trans (j.block b h rfl);have:=j.size
   exact⟨⟨d.os.trans (j.os.trans p.os),d.tape.trans (j.tape.trans p.tape),d.output.trans (j.output.trans p.output),by have:=d.size;omega,λb h=>(Y b (by omega)).trans (p.block b h)⟩,(Y _ (by omega)).trans az,aE⟩
  replace m:=Aa m;replace D:=Aa D;unfold Ab at J;clear X Q T U
  go_enter Tryz.func20,Tryz.ntmps20
  go_wp2_with fail
  rw[m.out];refine J.mono ?_;rintro e w2 ⟨rfl,A,F,j⟩;have af:=V.out w2 A F j;clear V J F j
  go_wp2_with fail
  refine af.mono ?_;rintro e w3 ⟨d,g,(⟨q,y,H,rfl⟩|⟨s,C,I,rfl,S⟩)⟩
  ·have ao:=Pg H;have aR:(q != 0)=true:=by simpa using ao
   have aa:w.heap.size<w3.heap.size:=(Xa.1 g).1;have Z:w3.cell? ⟨w.heap.size,0,none⟩=some (.slice none 0 0):=by simp[Xh,g]
   have c1:w3.cell? ⟨w.heap.size,1,none⟩=some (.slice none 0 0):=by simp[Xh,g]
   have c2:w3.cell? ⟨w.heap.size,2,none⟩=some (.slice none 0 0):=by simp[Xh,g]
   have c3:w3.cell? ⟨w.heap.size,3,none⟩=some (.slice none 0 0):=by simp[Xh,g]
   have f0:∀i,w3.frozen? ⟨w.heap.size,i,none⟩=false:=λi=>by simp[XE,g]
   have r:=Aa d;replace g:=Aa g;replace H:=Aa H;clear d
   go_wp2_with fail
   go_region
   all_goals
    go_wp2_with fail
    obtain⟨W,O,K,B,k3,N,P,M⟩:=QM g.out (.slice none 0 0) (.slice none 0 0) (.slice none 0 0) (.slice none 0 0) (.cells #[.int .i64 q,.int .i64 y] 138);rw[O];have d:=r.out;exact XN (JR rfl rfl rfl rfl K) rfl ⟨⟨N.trans d.os,P.trans d.tape,M.trans d.output,by have:=d.size;show _<=W.heap.size;omega,λb h=>(B b (by have:=d.size;omega) (by omega)).trans (d.block b h)⟩,.inl ⟨q,y,by rw[E.out];exact H.out,rfl⟩⟩
  ·obtain⟨vV,fV,lV,aK,L,r1,r2,r3,r4,k,G⟩:=S.ex;have aT:w1.heap.size+1<w3.heap.size:=World.block_lt_of_cell? w3 ⟨w1.heap.size+1,1,none⟩ r1;have aa:w.heap.size<w3.heap.size:=(Xa.1 g).1;have Z:w3.cell? ⟨w.heap.size,0,none⟩=some (.slice none 0 0):=by simp[Xh,g]
   have c1:w3.cell? ⟨w.heap.size,1,none⟩=some (.slice none 0 0):=by simp[Xh,g]
   have c2:w3.cell? ⟨w.heap.size,2,none⟩=some (.slice none 0 0):=by simp[Xh,g]
   have c3:w3.cell? ⟨w.heap.size,3,none⟩=some (.slice none 0 0):=by simp[Xh,g]
   have f0:∀i,w3.frozen? ⟨w.heap.size,i,none⟩=false:=λi=>by simp[XE,g]
   have an:(∃a n c,vV = .slice a n c)/\(∃a n c,fV = .slice a n c)/\(∃a n c,lV = .slice a n c)/\(∃a n c,aK = .slice a n c):=by
    obtain⟨a1,b1,e1⟩:=At k.v;obtain⟨a2,b2,e2⟩:=At k.f;obtain⟨a3,b3,e3⟩:=At k.l;obtain⟨a4,b4,e4⟩:=At k.t
    exact⟨⟨_,_,_,e1⟩,⟨_,_,_,e2⟩,⟨_,_,_,e3⟩,⟨_,_,_,e4⟩⟩
   have r:=Aa (⟨d,k,G,I⟩:_/\_/\_/\_);replace g:=Aa g;obtain⟨⟨x1,y1,z1,rfl⟩,⟨x2,y2,z2,rfl⟩,⟨x3,y3,z3,rfl⟩,⟨x4,y4,z4,rfl⟩⟩:=an;clear d k G I S
   go_wp2_with fail
   obtain⟨W,O,K,B,k3,N,P,M⟩:=QM g.out (.slice x1 y1 z1) (.slice x2 y2 z2) (.slice x3 y3 z3) (.slice x4 y4 z4) (.cells #[.int .i64 0,.int .i64 0] 138);rw[O];obtain⟨d,k,G,I⟩:=r.out;refine XN (JR rfl rfl rfl rfl K) rfl ⟨⟨N.trans d.os,P.trans d.tape,M.trans d.output,by have:=d.size;omega,λb h=>(B b (by have:=d.size;omega) (by omega)).trans (d.block b h)⟩,.inr ⟨s,C,_,_,_,_,L,by rw[E.out];exact I,rfl,?_,G⟩⟩
   exact(k.kept λb h ai aY=>B b ai (by have:=D.out;omega)).base (by have:=D.out;omega)
end Go.Proofs.YtdcacoifehkioaaGreatDoor
namespace Go.Proofs.YtdcacoifehkioaaGreatDoor
open Go.RowKit Go.Proofs.Cod
theorem Jf (l:List Tx) (t x:Tx):Ao (l++[t]) x=if Ao l x = -1 then(if t=x then(l.length:Int) else -1) else Ao l x:=by
 induction l with
 |nil=>simp[Ao]
 |cons y l d=>
  have e:=GP l x;rw[Yp];unfold Ao;rw[d]
  by_cases b:y=x
  ·simp[b]
  ·simp only[if_neg b]
   by_cases c:Ao l x = -1
   ·simp only[c,if_true]
    by_cases a:t=x
    ·simp only[a,if_true,Xw];rw[if_neg (by omega)];omega
    ·simp[a]
   ·have a:¬Ao l x+1 = -1:=by omega
    simp[c,a]
def DW (N:Tx->Option (Int×Nat)) (G:Int->List Tx):Prop:=∀t k n,N t=some (k,n)↔AH k/\Ao (G k) t=(n:Int)
def GM (G:Int->List Tx) (t:Tx):Prop:=∃k,AH k/\Ao (G k) t≠-1
theorem DW.free {N:Tx->Option (Int×Nat)} {G:Int->List Tx} (h:DW N G) (t:Tx):N t=none↔¬GM G t:=by
 constructor
 ·rintro e ⟨k,b,d⟩;have c:=GP (G k) t;have:=(h t k (Ao (G k) t).toNat).2 ⟨b,by omega⟩;rw[e] at this;cases this
 ·intro e
  cases a:N t with
  |none=>rfl
  |some p=>
   obtain⟨k,n⟩:=p;have:=(h t k n).1 a;exact absurd ⟨k,this.1,by omega⟩ e
theorem DW.put {N:Tx->Option (Int×Nat)} {G:Int->List Tx} (h:DW N G) {t:Tx} (g:N t=none) {kd:Int} (c:AH kd):DW (AN N t (kd,(G kd).length)) (AM G kd (G kd++[t])):=by
 have d:=(h.free t).1 g;intro x k n
 by_cases b:x=t
 ·subst b;have a:AN N x (kd,(G kd).length) x=some (kd,(G kd).length):=by simp[AN]
  rw[a]
  by_cases e:k=kd
  ·subst e;rw[BC,Jf];have:Ao (G k) x = -1:=by
    by_cases q:Ao (G k) x = -1
    ·exact q
    ·exact absurd ⟨k,c,q⟩ d
   rw[if_pos this,if_pos rfl];simp only[adi,Prod.mk.injEq,true_and]
   exact⟨λq=>⟨c,by omega⟩,λq=>by omega⟩
  ·rw[BM _ e];constructor
   ·intro q;simp only[adi,Prod.mk.injEq] at q;exact absurd q.1.symm e
   ·rintro⟨i,j⟩;exact absurd ⟨k,i,by omega⟩ d
 ·have a:AN N t (kd,(G kd).length) x=N x:=by simp[AN,b]
  rw[a,h x k n]
  by_cases e:k=kd
  ·subst e;have f:¬t=x:=λe=>b e.symm;rw[BC,Jf]
   by_cases q:Ao (G k) x = -1
   ·rw[if_pos q,if_neg f,q]
   ·rw[if_neg q]
  ·rw[BM _ e]
def GA (G:Int->List Tx) (ts:List Tx) (i:Nat):Prop:=GM G (ts.getD i [])\/∃j,j<i/\ts.getD j []=ts.getD i []
theorem aaL {G:Int->List Tx} {kd:Int} (d:AH kd) (t x:Tx):GM (AM G kd (G kd++[t])) x↔GM G x\/t=x:=by
 constructor
 ·rintro⟨k,b,a⟩
  by_cases e:k=kd
  ·subst e;rw[BC,Jf] at a
   by_cases q:Ao (G k) x = -1
   ·rw[if_pos q] at a
    by_cases c:t=x
    ·exact .inr c
    ·rw[if_neg c] at a;exact absurd rfl a
   ·exact .inl ⟨k,b,q⟩
  ·rw[BM _ e] at a;exact .inl ⟨k,b,a⟩
 ·rintro(⟨k,b,a⟩|rfl)
  ·refine⟨k,b,?_⟩
   by_cases e:k=kd
   ·subst e;rw[BC,Jf,if_neg a];exact a
   ·rw[BM _ e];exact a
  ·refine⟨kd,d,?_⟩;rw[BC,Jf]
   by_cases q:Ao (G kd) t = -1
   ·rw[if_pos q,if_pos rfl];omega
   ·rw[if_neg q];exact q
theorem Rf {G:Int->List Tx} {kd:Int} (b:AH kd) (t:Tx) (ts:List Tx) (i:Nat):GA G (t::ts) (i+1)↔GA (AM G kd (G kd++[t])) ts i:=by
 unfold GA;rw[aaL b];have c:(t::ts).getD (i+1) []=ts.getD i []:=by simp
 rw[c];constructor
 ·rintro(h|⟨j,a,e⟩)
  ·exact .inl (.inl h)
  ·cases j with
   |zero=>exact .inl (.inr (by simpa using e))
   |succ j=>exact .inr ⟨j,by omega,by simpa using e⟩
 ·rintro((h|h)|⟨j,a,e⟩)
  ·exact .inl h
  ·exact .inr ⟨0,by omega,by simpa using h⟩
  ·exact .inr ⟨j+1,by omega,by simpa using e⟩
theorem Re {G:Int->List Tx} (t:Tx) (ts:List Tx):GA G (t::ts) 0↔GM G t:=by
 unfold GA;constructor
 ·rintro(h|⟨j,a,_⟩)
  ·simpa using h
  ·omega
 ·exact λh=>.inl (by simpa using h)
theorem UV {G:Int->List Tx} {kd:Int} (t:Tx) (ts:List Tx):AM (AM G kd (G kd++[t])) kd ((AM G kd (G kd++[t])) kd++ts)=AM G kd (G kd++(t::ts)):=by
 funext k
 by_cases e:k=kd
 ·subst e;simp[AM]
 ·simp[AM,e]
theorem Rt {kd:Int} (f:AH kd):∀(ts:List Tx) (G:Int->List Tx) (N:Tx->Option (Int×Nat)),DW N G->
 ((∃i,i<ts.length/\GA G ts i)->AZ kd N (G kd) ts=none)/\((∀i,i<ts.length->¬GA G ts i)->∃d,AZ kd N (G kd) ts=some (d,G kd++ts)/\DW d (AM G kd (G kd++ts)))
 |[],G,N,h=>by
  refine⟨?_,λ_=>⟨N,by simp[AZ],?_⟩⟩
  ·rintro⟨i,c,_⟩;simp at c
  ·have e:AM G kd (G kd++[])=G:=by
    funext k
    by_cases e:k=kd
    ·subst e;simp[AM]
    ·simp[AM,e]
   rw[e];exact h
 |t::ts,G,N,h=>by
  cases a:N t with
  |some p=>
   have j:AZ kd N (G kd) (t::ts)=none:=by simp[AZ,a]
   refine⟨λ_=>j,λg=>?_⟩
   exfalso
   apply g 0 (by simp)
   rw[Re]
   by_cases q:GM G t
   ·exact q
   ·rw[(h.free t).2 q] at a;cases a
  |none=>
   have m:=h.put a f;have l:=Rt f ts _ _ m;rw[BC] at l;have j:AZ kd N (G kd) (t::ts)=AZ kd (AN N t (kd,(G kd).length)) (G kd++[t]) ts:=by
    conv=>lhs;unfold AZ
    rw[a]
   have o:=(h.free t).1 a;rw[j];refine⟨?_,λg=>?_⟩
   ·rintro⟨i,c,b⟩
    cases i with
    |zero=>rw[Re] at b;exact absurd b o
    |succ i=>exact l.1 ⟨i,by simpa using c,(Rf f t ts i).1 b⟩
   ·obtain⟨d,n,r⟩:=l.2 (λi c b=>g (i+1) (by simpa using c) ((Rf f t ts i).2 b));refine⟨d,by rw[n];simp,?_⟩;have:=UV (G:=G) (kd:=kd) t ts;rw[BC] at this;rw[<-this];exact r
def An (P:RP) (k:Int):List Tx:=if k=116 then P.names else P.get k
def Hp (r:RI):List (Int×Tx):=if AA r.i.op=[116] then [(116,r.word)] else if Ht (AA r.i.op) then [(108,r.word)] else []
def GE (r:RI):PI:=⟨r.i,r.line,Hp r⟩
def Cj (l:List (Tx×Nat)):Tx->Option Nat:=λx=>l.foldl (λa p=>if p.1=x then some p.2 else a) none
def BV (th:Az):PB:=⟨th.code.map GE,Cj th.labs⟩
structure PL (P:RP) (s:PS):Prop where
 N:DW s.N (An P)
 nms:∀k,AH k->s.nms k=An P k
 bod:s.bod=P.thr.map BV
 pos:∀th,th∈P.thr->∀r,r∈th.code->0<=r.i.x/\0<r.line
 few:∀k,AH k->(An P k).length<=4
 code:∀th,th∈P.thr->th.code.length<=24
def RP.new:RP:=⟨[],[],[],[]⟩
theorem Mq (k:Int):An RP.new k=[]:=by simp[An,RP.names,RP.get,RP.new]
theorem PL.new:PL RP.new PS.new:=by
 refine⟨λt k n=>?_,λk _=>?_,rfl,(λth h=>by cases h),λk _=>?_,(λth h=>by cases h)⟩
 ·rw[Mq];constructor
  ·intro h;cases h
  ·rintro⟨_,h⟩;simp[Ao] at h
 ·rw[Mq];rfl
 ·rw[Mq];simp
theorem aae {k:Int} (h:BE k):AH k:=by rcases h with rfl|rfl|rfl<;>simp[AH]
theorem Mp (P:RP) (t:Tx):DA P t=true↔GM (An P) t:=by
 have b:An P 118=P.vs:=by simp[An,RP.get]
 have c:An P 102=P.fs:=by simp[An,RP.get]
 have e:An P 109=P.ls:=by simp[An,RP.get]
 have d:An P 116=P.names:=by simp[An]
 have f:=GP P.vs t;have i:=GP P.fs t;have j:=GP P.ls t;have g:=GP P.names t;unfold DA GM;simp only[Bool.or_eq_true,decide_eq_true_eq];constructor
 ·rintro(((h|h)|h)|h)
  ·exact⟨118,by simp[AH],by rw[b];omega⟩
  ·exact⟨102,by simp[AH],by rw[c];omega⟩
  ·exact⟨109,by simp[AH],by rw[e];omega⟩
  ·exact⟨116,by simp[AH],by rw[d];omega⟩
 ·rintro⟨k,a,h⟩;have a:k=118\/k=102\/k=109\/k=116:=by simpa [AH] using a
  rcases a with rfl|rfl|rfl|rfl
  ·rw[b] at h;exact .inl (.inl (.inl (by omega)))
  ·rw[c] at h;exact .inl (.inl (.inr (by omega)))
  ·rw[e] at h;exact .inl (.inr (by omega))
  ·rw[d] at h;exact .inr (by omega)
theorem Rg (P:RP) (ts:List Tx) (i:Nat):Fp P ts i↔GA (An P) ts i:=by
 unfold Fp GA;rw[Mp]
end Go.Proofs.YtdcacoifehkioaaGreatDoor
