import Derived.Test.YtdcacoifehkioaaGreatDoorExA23
import Derived.Test.YtdcacoifehkioaaGreatDoorExA30
import Derived.Test.YtdcacoifehkioaaGreatDoorExA31
import Derived.Test.YtdcacoifehkioaaGreatDoorExA19
import Derived.Test.YtdcacoifehkioaaGreatDoorExA29
open List renaming length_map->Xp,map_append->XH,foldl_cons->afn,mem_cons_self->Ye,mem_cons_of_mem->Yk,mem_cons->XP,getD_eq_getElem?_getD->Xc,getElem?_eq_getElem->Xe,getElem?_map->Xs,getElem?_eq_none->XU,any_cons->ZH,pairwise_cons->Zw,any_eq_true->YM,mem_range->agr,length_append->Xb,take_add_one->Yo,any_append->afK,length->afl
open Nat renaming le_trans->Xu,le_refl->Xd,le_succ->af7,lt_of_lt_of_le->XF,not_lt_zero->ZN
open Go renaming World->Xh,Addr->YV,Value->Xk,heap_setCell_same->Xj
open Go.World renaming cell?->Xg,ownsRow_nil->XE
open Array renaming getElem?_eq_some_iff->Xa
set_option linter.unusedVariables false
set_option linter.unusedSimpArgs false
namespace Go.Proofs.YtdcacoifehkioaaGreatDoor
open Go.RowKit Go.Shelf Go.Proofs.Cod
def GK (C:List (List Ad)) (m:MS):Bool:=decide ((AP C m).length=0)
theorem If (C:List (List Ad)) (m:MS):Gg C m=GK C m:=by unfold Gg Bh GK;rw[Xp]
def FD (p:PD) (o:List Tx) (m:MS):List Tx:=if GK p.C m=true then Cb (Bz p m) o else o
def Bx (p:PD) (r:List MS):List Tx:=r.foldl (FD p) []
def BJ (p:PD) (r:List MS) (k:Nat):List Int:=((List.range k).map Int.ofNat).filter λx=>r.any λm=>DU p.C m x
theorem adQ (p:PD) (r:List MS) (k:Nat):BJ p r (k+1)=BJ p r k++(if (r.any λm=>DU p.C m (k:Int))=true then [(k:Int)] else []):=by
 unfold BJ;rw[List.range_succ,XH,List.filter_append]
 congr 1
 show List.filter _ [Int.ofNat k]=_;rw[List.filter_cons,List.filter_nil]
 rfl
theorem Tf (p:PD) (r:List MS) (k:Nat):(BJ p r k).length<=k:=by
 unfold BJ;refine Xu (List.length_filter_le _ _) ?_;rw[Xp,List.length_range];exact Xd _
theorem adR (p:PD) (r:List MS) (m:MS):Bx p (r++[m])=FD p (Bx p r) m:=by unfold Bx;rw[List.foldl_append];rfl
theorem Kl (p:PD) (r:List MS):FN (Bx p r):=by
 have:∀(r:List MS) (o:List Tx),FN o->FN (r.foldl (FD p) o):=by
  intro r
  induction r with
  |nil=>exact λ_ h=>h
  |cons m r a=>
   intro o h;refine a _ ?_;unfold FD
   split
   ·exact OI _ h
   ·exact h
 exact this r [] List.Pairwise.nil
theorem Ka (p:PD) (r:List MS) (x:Tx):x∈Bx p r↔FK p r x:=by
 have:∀(r:List MS) (o:List Tx),x∈r.foldl (FD p) o↔x∈o\/FK p r x:=by
  intro r
  induction r with
  |nil=>exact λo=>⟨.inl,λh=>h.elim id fun⟨m,c,_⟩=>by cases c⟩
  |cons m r d=>
   intro o;rw[afn,d];have f:x∈FD p o m↔x∈o\/(GK p.C m=true/\Bz p m=x):=by
    unfold FD
    split
    ·rename_i e;rw[Ni]
     exact⟨λh=>h.elim (λq=>.inr ⟨e,q.symm⟩) .inl,λh=>h.elim .inr λq=>.inl q.2.symm⟩
    ·rename_i e
     exact⟨.inl,λh=>h.elim id λq=>absurd q.1 e⟩
   rw[f];unfold FK;constructor
   ·rintro((h|h)|⟨a,b,h⟩)
    ·exact .inl h
    ·exact .inr ⟨m,Ye ..,by rw[If];exact h⟩
    ·exact .inr ⟨a,Yk _ b,h⟩
   ·rintro(h|⟨a,b,h⟩)
    ·exact .inl (.inl h)
    ·rcases XP.1 b with rfl|b
     ·exact .inl (.inr (by rw[<-If];exact h))
     ·exact .inr ⟨a,b,h⟩
 exact(this r []).trans ⟨λh=>h.elim (λq=>by cases q) id,.inr⟩
theorem Th (p:PD) (r:List MS):(Bx p r).length<=r.length:=by
 have c:∀(s:Tx) (l:List Tx),(Cb s l).length<=l.length+1:=by
  intro s l
  induction l with
  |nil=>exact Xd _
  |cons a l b=>
   unfold Cb
   split
   ·exact af7 _
   ·split
    ·exact Xd _
    ·exact Nat.succ_le_succ b
 have:∀(r:List MS) (o:List Tx),(r.foldl (FD p) o).length<=o.length+r.length:=by
  intro r
  induction r with
  |nil=>exact λo=>Xd _
  |cons m r b=>
   intro o;rw[afn,List.length_cons];refine Xu (b _) ?_;have:(FD p o m).length<=o.length+1:=by
    unfold FD
    split
    ·exact c _ _
    ·exact af7 _
   omega
 have:=this r [];rw[List.length_nil,Nat.zero_add] at this;exact this
section
variable {nv nf nl:Nat} {p:PD} {m m':MS} {l r:List MS}
theorem BL.QS (h:BL m m'):(m'.thr.map λth=>th.ph)=(m.thr.map λth=>th.ph):=by
 apply List.ext_getElem?
 intro t
 by_cases a:t<m.thr.length
 ·have e:=h.ph t;unfold MS.th at e;rw[Xc,Xc,Xe a,Xe (by rw[h.n];exact a)] at e;rw[Xs,Xs,Xe a,Xe (by rw[h.n];exact a)];exact congrArg some e
 ·rw[XU (by rw[Xp,h.n];omega),XU (by rw[Xp];omega)]
theorem BL.going (h:BL m m'):Ay m'=Ay m:=by
 unfold Ay;have e:∀l:List TS,l.countP (λth=>th.ph == 1)=(l.map λth=>th.ph).countP (λx=>x == 1):=λl=>by rw[List.countP_map];rfl
 rw[e,e,h.QS]
theorem BL.outM (h:BL m m'):Bz p m'=Bz p m:=by
 have a:=h.going;unfold Go.Proofs.YtdcacoifehkioaaGreatDoor.Bz AU;rw[h.v,h.f,a]
theorem BL.failed (h:BL m m'):Bt m'=Bt m:=by
 unfold Bt;have e:∀l:List TS,l.any (λth=>th.ph == 3)=(l.map λth=>th.ph).any (λx=>x == 3):=λl=>by rw[List.any_map];rfl
 rw[e,e,h.QS]
theorem FP.raced (a:Ef nv nf nl p.C) (h:FP nv nf nl p.C m m') (x:Int):DU p.C m' x=DU p.C m x:=by
 unfold DU;have e:((AP p.C m').map λt=>BA p.C t.toNat (m'.th t.toNat))=((AP p.C m).map λt=>BA p.C t.toNat (m.th t.toNat)):=by
  rw[h.sim.ready h.ok];refine List.map_congr_left λt b=>?_;obtain⟨u,rfl,g,f,c,d⟩:=GM a h.ok (Ia b);rw[Int.toNat_natCast,h.sim.th (t:=u) (by omega)]
 rw[e]
theorem FP.ended (h:FP nv nf nl p.C m m'):GK p.C m'=GK p.C m:=by unfold GK;rw[h.sim.ready h.ok]
theorem F2.left {A B:Type} {R:A->B->Prop} {l:List A} {r:List B} (h:F2 R l r) {a:A} (c:a∈l):∃b,b∈r/\R a b:=by
 induction h with
 |nil=>cases c
 |cons q _ e=>
  rcases XP.1 c with rfl|c
  ·exact⟨_,Ye ..,q⟩
  ·obtain⟨b,d,f⟩:=e c
   exact⟨b,Yk _ d,f⟩
theorem F2.right {A B:Type} {R:A->B->Prop} {l:List A} {r:List B} (h:F2 R l r) {b:B} (c:b∈r):∃a,a∈l/\R a b:=by
 induction h with
 |nil=>cases c
 |cons q _ e=>
  rcases XP.1 c with rfl|c
  ·exact⟨_,Ye ..,q⟩
  ·obtain⟨a,d,f⟩:=e c
   exact⟨a,Yk _ d,f⟩
theorem F2.any {A B:Type} {R:A->B->Prop} {f:A->Bool} {g:B->Bool} (c:∀a b,R a b->g b=f a) {l:List A} {r:List B} (h:F2 R l r):r.any g=l.any f:=by
 induction h with
 |nil=>rfl
 |cons q _ d=>rw[ZH,ZH,d,c _ _ q]
theorem Lz:∀{l r:List Int},l.Pairwise (λa b=>a<b)->r.Pairwise (λa b=>a<b)->(∀x,x∈l↔x∈r)->l=r
 |[],[],_,_,_=>rfl
 |[],b::r,_,_,h=>absurd ((h b).2 (Ye ..)) (by simp)
 |a::l,[],_,_,h=>absurd ((h a).1 (Ye ..)) (by simp)
 |a::l,b::r,h1,h2,h=>by
  have⟨i,o⟩:=Zw.1 h1;have⟨g,n⟩:=Zw.1 h2;have e:a=b:=by
   rcases XP.1 ((h a).1 (Ye ..)) with e|e
   ·exact e
   ·rcases XP.1 ((h b).2 (Ye ..)) with d|d
    ·exact d.symm
    ·have w1:=g a e;have p:=i b d
     omega
  subst e;have f:∀{m:List Int},(∀x,x∈m->a<x)->a∉m:=λk j=>by
   have:=k a j
   omega
  rw[Lz o n λx=>?_];constructor
  ·intro c
   rcases XP.1 ((h x).1 (Yk _ c)) with e|e
   ·subst e;exact absurd c (f i)
   ·exact e
  ·intro c
   rcases XP.1 ((h x).2 (Yk _ c)) with e|e
   ·subst e;exact absurd c (f g)
   ·exact e
theorem LN (p:PD) (r:List MS) (k:Nat):(BJ p r k).Pairwise (λa b=>a<b):=by
 unfold BJ;refine List.Pairwise.filter _ ?_;rw[List.pairwise_map];exact List.pairwise_lt_range.imp λh=>Int.ofNat_lt.2 h
theorem Lo (p:PD) (r:List MS) (x:Int):x∈BJ p r p.vs.length↔EP p r x:=by
 unfold BJ EP;rw[List.mem_filter,List.mem_map,YM];have b:∀m,(Dd x (Bh p.C m)).isSome=DU p.C m x:=λm=>by rw[KT,MO]
 constructor
 ·rintro⟨⟨k,c,rfl⟩,m,a,h⟩;have:=agr.1 c
  exact⟨⟨Int.natCast_nonneg k,Int.ofNat_lt.2 this⟩,m,a,by rw[b];exact h⟩
 ·rintro⟨⟨d,e⟩,m,a,h⟩
  exact⟨⟨x.toNat,agr.2 (by omega),Int.toNat_of_nonneg d⟩,m,a,by rw[<-b];exact h⟩
theorem WO (i:Ef nv nf nl p.C) (h:F2 (FP nv nf nl p.C) l r):r.length=l.length/\(∀x,FK p l x↔FK p r x)/\BC p.C r=BC p.C l/\CE r=CE l/\∀x,EP p l x↔EP p r x:=by
 refine⟨h.len,λx=>⟨?_,?_⟩,?_,?_,λx=>⟨?_,?_⟩⟩
 ·rintro⟨m,d,c,f⟩;obtain⟨m',e,q⟩:=h.left d
  exact⟨m',e,by rw[If] at c |-;rw[q.ended];exact c,by rw[q.sim.outM];exact f⟩
 ·rintro⟨m',e,c,f⟩;obtain⟨m,d,q⟩:=h.right e
  exact⟨m,d,by rw[If] at c |-;rw[<-q.ended];exact c,by rw[<-q.sim.outM];exact f⟩
 ·unfold BC;exact h.any λa b q=>by rw[If,If,q.ended,q.sim.going]
 ·unfold CE;exact h.any λa b q=>q.sim.failed
 ·rintro⟨g,m,d,c⟩;obtain⟨m',e,q⟩:=h.left d;refine⟨g,m',e,?_⟩;rw[KT,MO] at c |-;rw[q.raced i];exact c
 ·rintro⟨g,m',e,c⟩;obtain⟨m,d,q⟩:=h.right e;refine⟨g,m,d,?_⟩;rw[KT,MO] at c |-;rw[<-q.raced i];exact c
end
def JR (p:PD) (d:D5) (most:Nat):Option (List MS):=Cq (Aj p) (By true p.C) most (most+1) [AJ d.nv d.nf d.nl d.nt] 0
def IV (w:Xh) (d:D5) (p:PD) (most:Int) (e:Ending) (w':Xh):Prop:=
 Below w.heap.size w w'/\((¬BV most/\e = .returned (.tuple #[.agg (FZ 0 false false),.int .i64 8]))\/(BV most/\JR p d most.toNat=none/\e = .returned (.tuple #[.agg (FZ 0 false false),.int .i64 4]))\/
  (BV most/\∃(r:List MS) (oa ra:Option YV) (oc rc:Nat),JR p d most.toNat=some r/\e = .returned (.tuple #[.agg #[.int .i64 r.length,.slice oa (Bx p r).length oc,.bool (BC p.C r),.bool (CE r),.slice ra (BJ p r d.nv).length rc],.int .i64 0])/\Ts w' oa (Bx p r)/\Is w' ra (BJ p r d.nv)/\CZ w.heap.size oa/\CZ w.heap.size ra))
theorem BP {W:Xh} {g T:Nat} {e c a d b:Xk} (h:W.heap[g]?=some (.cells #[e,c,a,d,b] T)):W.cell? ⟨g,0,none⟩=some e/\W.cell? ⟨g,1,none⟩=some c/\W.cell? ⟨g,2,none⟩=some a/\W.cell? ⟨g,3,none⟩=some d/\W.cell? ⟨g,4,none⟩=some b:=
 ⟨by simp[Xg,h],by simp[Xg,h],by simp[Xg,h],by simp[Xg,h],by simp[Xg,h]⟩
theorem FM {W:Xh} {g T:Nat} {cs:Array Xk} (h:W.heap[g]?=some (.cells cs T)):W.frozen? ⟨g,0,none⟩=false/\W.frozen? ⟨g,1,none⟩=false/\W.frozen? ⟨g,2,none⟩=false/\W.frozen? ⟨g,3,none⟩=false/\W.frozen? ⟨g,4,none⟩=false:=⟨Ao h 0,Ao h 1,Ao h 2,Ao h 3,Ao h 4⟩
theorem NM {v:Xh} {b:Nat} {T:TypeId} {c0 c1 c2 c3 c4:Xk} (a c d e f:Xk) (h:v.heap[b]?=some (.cells #[c0,c1,c2,c3,c4] T)) :
 (((((v.setCell ⟨b,0,none⟩ a).setCell ⟨b,1,none⟩ c).setCell ⟨b,2,none⟩ d).setCell ⟨b,3,none⟩ e).setCell ⟨b,4,none⟩ f).heap[b]?=some (.cells #[a,c,d,e,f] T):=by
 have k:=(Xj _ b 0 _ _ a h).trans (show _=some (.cells #[a,c1,c2,c3,c4] T) from rfl);have l:=(Xj _ b 1 _ _ c k).trans (show _=some (.cells #[a,c,c2,c3,c4] T) from rfl);have j:=(Xj _ b 2 _ _ d l).trans (show _=some (.cells #[a,c,d,c3,c4] T) from rfl);have g:=(Xj _ b 3 _ _ e j).trans (show _=some (.cells #[a,c,d,e,c4] T) from rfl);have i:=(Xj _ b 4 _ _ f g).trans (show _=some (.cells #[a,c,d,e,f] T) from rfl);exact i
theorem Oh {B:Nat} {u v:Xh} {b:Nat} (c g d f e:Xk) (h:Below B u v) (a:B<=b) :
 Below B u (((((v.setCell ⟨b,0,none⟩ c).setCell ⟨b,1,none⟩ g).setCell ⟨b,2,none⟩ d).setCell ⟨b,3,none⟩ f).setCell ⟨b,4,none⟩ e):=
 ((((h.setCell a _).setCell a _).setCell a _).setCell a _).setCell a _
theorem KW {w:Xh} {fn:Func} {tmps:Array Xk} {b:Nat} {g d a f c e:Xk} (k:fn.results = #[.cell 4 38,.tmp 5]) (i:tmps[4]?=some (.pointer (some ⟨b,0,none⟩))) (j:tmps[5]?=some e) (h:w.heap[b]?=some (.cells #[g,d,a,f,c] 38)):(results fn tmps).run Tryz.prog w = .ok (.tuple #[.agg #[g,d,a,f,c],e]) w:=by
 obtain⟨c0,c1,c2,c3,c4⟩:=BP h;simp[results,k,i,j,go_sem,c0,c1,c2,c3,c4]
theorem Ds.at' {w:Xh} {base n cap g i:Nat} {d:D5} {S:List S6} {ms:List MS} {s:S6} {m:MS} (h:Ds w base d (.slice (some ⟨g,0,none⟩) n cap) S ms) (b:S[i]?=some s) (c:ms[i]?=some m):g<w.heap.size/\Dk w s d m/\
 w.cell? ⟨g,i*6,none⟩=some (.slice s.a0 d.nv s.c0)/\w.cell? ⟨g,i*6+1,none⟩=some (.slice s.a1 d.nf s.c1)/\w.cell? ⟨g,i*6+2,none⟩=some (.slice s.a2 d.nl s.c2)/\w.cell? ⟨g,i*6+3,none⟩=some (.slice s.a3 d.nt s.c3)/\w.cell? ⟨g,i*6+4,none⟩=some (.slice s.a4 d.nt s.c4)/\w.cell? ⟨g,i*6+5,none⟩=some (.slice s.a5 d.nr s.c5):=by
 obtain⟨j,f,s',e,a,r⟩:=h.at c;rw[b] at a
 cases a
 injection e with e _ _
 injection e with e
 injection e with e _ _
 subst e;exact r
theorem Ds.GF {w w':Xh} {base rb:Nat} {d:D5} {v:Xk} {S:List S6} {ms:List MS} {cs:Array Xk} (h:Ds w base d v S ms) (c:w.heap[rb]?=some (.cells cs 38)) (a:Ac (λk=>k=rb) w w'):Ds w' base d v S ms:=
 h.keep (λb f e=>a.block b (Xa.1 e).1 (Gw e c (by decide))) λb f e=>a.block b (Xa.1 e).1 (Gw e c (by decide))
def Cc (n:Nat) (oa:Option YV) (on oc:Nat) (st fa:Bool) (ra:Option YV) (rn rc:Nat):Array Xk := #[.int .i64 n,.slice oa on oc,.bool st,.bool fa,.slice ra rn rc]
theorem Lb {w:Xh} {rb n j i b d:Nat} {g e:Option YV} {f fa:Bool} (h:w.heap[rb]?=some (.cells (Cc n g j i f fa e b d) 38)) (a:Option YV) (k c:Nat):(w.setCell ⟨rb,1,none⟩ (.slice a k c)).heap[rb]?=some (.cells (Cc n a k c f fa e b d) 38):=Xj w rb 1 _ _ (.slice a k c) h
theorem La {w:Xh} {rb n g f a d:Nat} {c e:Option YV} {i fa:Bool} (h:w.heap[rb]?=some (.cells (Cc n c g f i fa e a d) 38)) (b:Bool):(w.setCell ⟨rb,2,none⟩ (.bool b)).heap[rb]?=some (.cells (Cc n c g f b fa e a d) 38):=Xj w rb 2 _ _ (.bool b) h
theorem WQ {w:Xh} {rb n i f a d:Nat} {c e:Option YV} {g fa:Bool} (h:w.heap[rb]?=some (.cells (Cc n c i f g fa e a d) 38)) (b:Bool):(w.setCell ⟨rb,3,none⟩ (.bool b)).heap[rb]?=some (.cells (Cc n c i f g b e a d) 38):=Xj w rb 3 _ _ (.bool b) h
theorem QB {w:Xh} {rb n f d g i:Nat} {b j:Option YV} {e fa:Bool} (h:w.heap[rb]?=some (.cells (Cc n b f d e fa j g i) 38)) (a:Option YV) (k c:Nat):(w.setCell ⟨rb,4,none⟩ (.slice a k c)).heap[rb]?=some (.cells (Cc n b f d e fa a k c) 38):=Xj w rb 4 _ _ (.slice a k c) h
theorem Ts.GF {w w':Xh} {rb n u p f o:Nat} {a g m:Option YV} {t fa:Bool} {l:List Tx} (h:Ts w a l) (v:w.heap[rb]?=some (.cells (Cc n g u p t fa m f o) 38)) (s:Ac (λk=>k=rb) w w'):Ts w' a l:=λi y=>by
 obtain⟨b,d,e,j,c⟩:=h i y;refine⟨b,d,e,XF j s.size,?_⟩;have z:b≠rb:=by
  intro x;subst x;obtain⟨c0,c1,c2,c3,c4⟩:=BP v;have r:d+i<5:=by
   have q:(Cc n g u p t fa m f o)[d+i]?=some (.string (bs (l.getD i []))):=by simpa [Xg,v] using c
   exact(Xa.1 q).1
  generalize d+i=k at c r
  match k,r with
  |0,_=>rw[c0] at c;cases c
  |1,_=>rw[c1] at c;cases c
  |2,_=>rw[c2] at c;cases c
  |3,_=>rw[c3] at c;cases c
  |4,_=>rw[c4] at c;cases c
 exact(World.cell?_of_block (w:=w) (w':=w') (a:=⟨b,d+i,none⟩) (s.block b j z)).trans c
theorem aaX {p:PD} {m:MS} (d:Eg p) (c:CY p m) (b:CK p):(Bz p m).length<4294967296:=by
 have e:=QW d (λk=>Gv c.vv k) (λk=>Gv c.fv k);unfold Bz;have g:=Kh (AU p m++if 0<Ay m then [EM] else []);have i:=NL (AU p m++if 0<Ay m then [EM] else []) λx a=>by
  rcases List.mem_append.1 a with a|a
  ·exact(e x a).1
  ·split at a
   ·rw[List.mem_singleton.1 a];decide
   ·cases a
 have h:(AU p m++if 0<Ay m then [EM] else []).length<=9:=by
  rw[Xb,Jj];have:=b.v;have:=b.f
  split
  ·show _+1<=9;omega
  ·show _+0<=9;omega
 omega
theorem Ep (w:Xh) (rb k:Nat) (v:Xk):Ac (λx=>x=rb) w (w.setCell ⟨rb,k,none⟩ v):=by
 have h:=Ac.refl (S:=λx=>x=rb) w;exact h.set (.inl rfl) v
theorem aca (w:Xh) (rb:Nat) (a e b c d:Xk):Ac (λx=>x=rb) w (((((w.setCell ⟨rb,0,none⟩ a).setCell ⟨rb,1,none⟩ e).setCell ⟨rb,2,none⟩ b).setCell ⟨rb,3,none⟩ c).setCell ⟨rb,4,none⟩ d):=((((Ep w rb 0 a).trans (Ep _ rb 1 e)).trans (Ep _ rb 2 b)).trans (Ep _ rb 3 c)).trans (Ep _ rb 4 d)
theorem QI {w:Xh} {base:Nat} {v:Xk} {l:List Int} (h:w.ownsRow base 3 1 v l.length (l.map Ck)) (x:Int) (d:l.length<1048576) (b:base<=w.heap.size) :
 ∃g cap w',(Builtin.append_ #[32,32] 32 #[v,.slice (some ⟨w.heap.size,0,none⟩) 1 1]).run Tryz.prog (w.alloc (.cells #[.int .i64 x] 3)) = .ok (.slice (some ⟨g,0,none⟩) (l.length+1) cap) w'/\
  w'.ownsRow base 3 1 (.slice (some ⟨g,0,none⟩) (l.length+1) cap) (l++[x]).length ((l++[x]).map Ck)/\Below base w w':=by
 obtain⟨s,j,m,f,p⟩:=info_parts Tryz.infoInt;obtain⟨g,cap,w',q,i,c,n,o,y,rb,r⟩:=Ic h Tryz.underlying32 j m f p rfl (by omega) [.int .i64 x] rfl (by intro u a;simp at a;subst a;rfl) 32 d b;refine⟨g,cap,w',q,by rw[Xb,XH];exact i,⟨c,n,o,by omega,λk t=>rb k (by omega) (λe=>?_)⟩⟩;have:=(h.lt k e).1
 omega
theorem Ac.Fq {S:Nat->Prop} {u v b:Xh} (h:Ac S u v) (a:Below v.heap.size v b):Ac S u b:=
 ⟨a.os.trans h.os,a.tape.trans h.tape,a.output.trans h.output,Xu h.size a.size,λk c d=>(a.block k (XF c h.size)).trans (h.block k c d)⟩
theorem Ac.below {u v:Xh} {rb B:Nat} (h:Ac (λk=>k=rb) u v) (a:B<=rb) (b:B<=u.heap.size):Below B u v:=⟨h.os,h.tape,h.output,h.size,λk c=>h.block k (by omega) (by omega)⟩
theorem adB {m:MS} (t:Nat) (a:t<m.thr.length):(m.thr.take (t+1)).any (λth=>th.ph == 3)=((m.thr.take t).any (λth=>th.ph == 3)||((m.th t).ph == 3)):=by
 have e:m.thr[t]?=some (m.th t):=by unfold MS.th;rw[Xc,Xe a];rfl
 rw[Yo,e,afK];show (_||List.any [m.th t] _)=_;rw[ZH,List.any_nil,Bool.or_false]
theorem KL {q:MS->Bool} {r:List MS} {i:Nat} {m:MS} (h:r[i]?=some m):(r.take (i+1)).any q=((r.take i).any q||q m):=by
 rw[Yo,h,afK];show (_||List.any [m] q)=_;rw[ZH,List.any_nil,Bool.or_false]
theorem Vb {q:MS->Bool} {r:List MS} {i:Nat} (h:(r.take i).any q=true):r.any q=true:=by
 obtain⟨a,b,c⟩:=YM.1 h;exact YM.2 ⟨a,List.mem_of_mem_take b,c⟩
theorem Tg {p:PD} {r:List MS} {i:Nat} {m:MS} (h:r[i]?=some m):Bx p (r.take (i+1))=FD p (Bx p (r.take i)) m:=by
 rw[Yo,h];exact adR p _ m
structure Gp (w:Xh) (base:Nat) (vV fV lV thV qv qf ql qt:Xk) (vs fs ls:List Tx) (L:List (Tx×Xk)) (C:List (List Ad)) (P:RP) (TV:List (Xk×Xk)) (nv nf nl nt:Nat):Prop where
 prog:BZ w base vV fV lV thV vs fs ls L C
 doc:DI w qv qf ql qt P TV
 lv:vs.length=nv
 lf:fs.length=nf
 ll:ls.length=nl
 lt:L.length=nt
 pv:P.vs.length=nv
 pf:P.fs.length=nf
 pl:P.ls.length=nl
 pt:P.thr.length=nt
 code:Ai P=C
 pd:AD P=Ap vs fs ls L C
 b:Hs vs fs ls L C
 fit:CK (Ap vs fs ls L C)
 n8:Eg (Ap vs fs ls L C)
 cl:C.length=nt
section
variable {w w':Xh} {base:Nat} {vV fV lV thV qv qf ql qt:Xk} {vs fs ls:List Tx} {L:List (Tx×Xk)} {C:List (List Ad)} {P:RP} {TV:List (Xk×Xk)} {nv nf nl nt:Nat}
theorem Gp.below (h:Gp w base vV fV lV thV qv qf ql qt vs fs ls L C P TV nv nf nl nt) (a:Below w.heap.size w w'):Gp w' base vV fV lV thV qv qf ql qt vs fs ls L C P TV nv nf nl nt:={h with prog:=h.prog.below a,doc:=h.doc.below a}
theorem Gp.four (h:Gp w base vV fV lV thV qv qf ql qt vs fs ls L C P TV nv nf nl nt):nv<=4/\nf<=4/\nl<=4/\nt<=4:=by
 have a:vs.length<=4:=h.fit.v;have b:fs.length<=4:=h.fit.f;have c:ls.length<=4:=h.fit.l;have d:C.length<=4:=h.fit.fit.four;have:=h.lv;have:=h.lf;have:=h.ll;have:=h.cl
 omega
theorem UG {t:Tx} {s:PS} (y:BM t = .ok (s,C)) (c:BZ w base vV fV lV thV (s.nms 118) (s.nms 102) (s.nms 109) L C) (n:L.map Prod.fst=s.nms 116) (d:DT w base qv qf ql qt P TV) (j:P.vs=s.nms 118) (e:P.fs=s.nms 102) (k:P.ls=s.nms 109) (q:P.names=s.nms 116) (r:(P.thr.map λth=>th.code.map RI.i)=C) :
 ∃nv nf nl nt va fa h o vc fc g m x1 x2 x3 x4 z1 z2 z3 z4,vV = .slice va nv vc/\fV = .slice fa nf fc/\lV = .slice h nl g/\thV = .slice o nt m/\qv = .slice x1 nv z1/\qf = .slice x2 nf z2/\ql = .slice x3 nl z3/\qt = .slice x4 nt z4/\Gp w base vV fV lV thV qv qf ql qt (s.nms 118) (s.nms 102) (s.nms 109) L C P TV nv nf nl nt:=by
 obtain⟨va,vc,B⟩:=As c.v;obtain⟨fa,fc,F⟩:=As c.f;obtain⟨h,g,D⟩:=As c.l;obtain⟨o,m,H⟩:=As c.t;obtain⟨x1,z1,J⟩:=As d.v;obtain⟨x2,z2,E⟩:=As d.f;obtain⟨x3,z3,u⟩:=As d.l;obtain⟨x4,z4,z⟩:=As d.t;obtain⟨x,G,I⟩:=SP y n;have p:L.length=P.thr.length:=by
  have a:=congrArg afl n;have b:=congrArg afl q;unfold RP.names at b;rw[Xp] at a b;rw[a,b]
 have A:C.length=L.length:=c.len;refine⟨(s.nms 118).length,(s.nms 102).length,(s.nms 109).length,L.length,va,fa,h,o,vc,fc,g,m,x1,x2,x3,x4,z1,z2,z3,z4,B,F,D,H,by rw[J,j],by rw[E,e],by rw[u,k],by rw[z,p],c,d.view,rfl,rfl,rfl,rfl,by rw[j],by rw[e],by rw[k],p.symm,r,?_,x,G,I,A⟩;unfold AD Ap;rw[j,e,k,q,n];show PD.mk _ _ _ _ (Ai P)=_;unfold Ai;rw[r]
end
def Told (p:PD) (most:Int) (n:Int) (os:List Tx) (st fa:Bool) (rs:List Int) (er:Int):Prop:=
 (¬BV most/\n=0/\os=[]/\st=false/\fa=false/\rs=[]/\er=8)\/(BV most/\CS p most.toNat=none/\n=0/\os=[]/\st=false/\fa=false/\rs=[]/\er=4)\/
   (BV most/\∃l,CS p most.toNat=some l/\n=l.length/\os=Bx p l/\st=BC p.C l/\fa=CE l/\rs=BJ p l p.vs.length/\er=0)
theorem Told.eq {p:PD} {most n z A u:Int} {w x:List Tx} {B fa y C:Bool} {rs v:List Int} (h:Told p most n w B fa rs A) (D:Told p most z x y C v u):z=n/\x=w/\y=B/\C=fa/\v=rs/\u=A:=by
 rcases h with⟨a,m,j,r,i,f,q⟩|⟨a,b,m,j,r,i,f,q⟩|⟨a,l,b,m,j,r,i,f,q⟩<;>rcases D with⟨d,s,e,k,t,g,o⟩|⟨d,c,s,e,k,t,g,o⟩|⟨d,E,c,s,e,k,t,g,o⟩
 ·exact⟨s.trans m.symm,e.trans j.symm,k.trans r.symm,t.trans i.symm,g.trans f.symm,o.trans q.symm⟩
 ·exact absurd d a
 ·exact absurd d a
 ·exact absurd a d
 ·exact⟨s.trans m.symm,e.trans j.symm,k.trans r.symm,t.trans i.symm,g.trans f.symm,o.trans q.symm⟩
 ·rw[b] at c;cases c
 ·exact absurd a d
 ·rw[b] at c;cases c
 ·rw[b] at c
  cases c
  exact⟨s.trans m.symm,e.trans j.symm,k.trans r.symm,t.trans i.symm,g.trans f.symm,o.trans q.symm⟩
theorem Told.len {p:PD} {most n f:Int} {e:List Tx} {g fa:Bool} {rs:List Int} (h:Told p most n e g fa rs f) (m:p.vs.length<=4):e.length<=20000/\rs.length<=4:=by
 rcases h with⟨-,-,c,-,-,d,-⟩|⟨-,-,-,c,-,-,d,-⟩|⟨a,l,b,-,c,-,-,d,-⟩
 ·rw[c,d];exact⟨by decide,by decide⟩
 ·rw[c,d];exact⟨by decide,by decide⟩
 ·unfold BV at a;have k:=NW (key:=Aj p) (succ:=By false p.C) most.toNat _ _ _ (by show 1<=most.toNat;omega) b;have i:=Th p l;have j:=Tf p l p.vs.length;rw[c,d]
  omega
theorem OT {w w':Xh} {p:PD} {most:Int} {e:Ending} (h:KF w w' p most e):∃(n:Int) (d c:Option YV) (g f:Nat) (a:List Tx) (o fa:Bool) (rs:List Int) (m:Int),e = .returned (.tuple #[.agg #[.int .i64 n,.slice d a.length g,.bool o,.bool fa,.slice c rs.length f],.int .i64 m])/\
 w'.ownsRow w.heap.size 9 1 (.slice d a.length g) a.length (a.map λx=>Value.string (bs x))/\w'.ownsRow w.heap.size 3 1 (.slice c rs.length f) rs.length (rs.map Ck)/\Told p most n a o fa rs m:=by
 rcases h with⟨b,i,rfl⟩|⟨s,l,z,y,a,rs,t,rfl,j,u,q,k,v,r⟩
 ·refine⟨0,none,none,0,0,[],false,false,[],EG b,rfl,XE _ _ _ _,XE _ _ _ _,?_⟩
  cases b with
  |true=>exact .inr (.inl ⟨i.1,i.2,rfl,rfl,rfl,rfl,rfl,rfl⟩)
  |false=>exact .inl ⟨i,rfl,rfl,rfl,rfl,rfl,rfl⟩
 ·obtain⟨d,g,rfl⟩:=As j;obtain⟨c,f,rfl⟩:=As k
  exact⟨l.length,d,c,g,f,a,_,_,rs,0,rfl,j,k,.inr (.inr ⟨s,l,t,rfl,KU u (Kl p l) λx=>by rw[q,Ka],rfl,rfl,Lz v (LN p l _) λx=>by rw[r,Lo],rfl⟩)⟩
theorem WC {p:PD} {d:D5} (b:CK p) (g:p.vs.length=d.nv) (c:p.fs.length=d.nf) (e:p.ls.length=d.nl) (f:p.C.length=d.nt) (a:Nat):(CS p a=none/\JR p d a=none)\/∃l r,CS p a=some l/\JR p d a=some r/\F2 (FP p.vs.length p.fs.length p.ls.length p.C) l r:=by
 have h:=aeR b.fit p a (a+1);unfold CS JR EC;rw[<-g,<-c,<-e,<-f];exact h
theorem UI {w w':Xh} {p:PD} {d:D5} {most:Int} {e:Ending} (s:CK p) (u:p.vs.length=d.nv) (J:p.fs.length=d.nf) (G:p.ls.length=d.nl) (H:p.C.length=d.nt) (h:IV w d p most e w'):Below w.heap.size w w'/\∃(n:Int) (f c:Option YV) (q o:Nat) (m:List Tx) (y fa:Bool) (rs:List Int) (v:Int),e = .returned (.tuple #[.agg #[.int .i64 n,.slice f m.length q,.bool y,.bool fa,.slice c rs.length o],.int .i64 v])/\
 Ts w' f m/\Is w' c rs/\CZ w.heap.size f/\CZ w.heap.size c/\Told p most n m y fa rs v:=by
 obtain⟨F,h⟩:=h;refine⟨F,?_⟩;have t:=WC s u J G H most.toNat
 rcases h with⟨j,rfl⟩|⟨j,k,rfl⟩|⟨j,r,f,c,q,o,k,rfl,z,E,N,I⟩
 ·exact⟨0,none,none,0,0,[],false,false,[],8,rfl,(λi b=>absurd b (ZN i)),(λi b=>absurd b (ZN i)),.inl rfl,.inl rfl,.inl ⟨j,rfl,rfl,rfl,rfl,rfl,rfl⟩⟩
 ·rcases t with⟨g,a⟩|⟨l,r,g,a,-⟩
  ·exact⟨0,none,none,0,0,[],false,false,[],4,rfl,(λi b=>absurd b (ZN i)),(λi b=>absurd b (ZN i)),.inl rfl,.inl rfl,.inr (.inl ⟨j,g,rfl,rfl,rfl,rfl,rfl,rfl⟩)⟩
  ·rw[k] at a;cases a
 ·rcases t with⟨g,a⟩|⟨l,r',g,a,K⟩
  ·rw[k] at a;cases a
  ·rw[k] at a
   cases a
   obtain⟨D,O,M,A,B⟩:=WO s.fit K;refine⟨r.length,f,c,q,o,Bx p r,_,_,BJ p r d.nv,0,rfl,z,E,N,I,.inr (.inr ⟨j,l,g,?_,?_,M,A,?_,rfl⟩)⟩
   ·rw[D]
   ·exact KU (Kl p r) (Kl p l) λx=>by rw[Ka,Ka,O]
   ·rw[<-u];exact Lz (LN p r _) (LN p l _) λx=>by rw[Lo,Lo,B]
def EJ (wr:Xh) (T lo hi:Nat) (a:Option YV) (n:Nat):Prop:=n=0\/∃g N f,a=some ⟨g,0,none⟩/\Am wr g T N f/\n<=N/\lo<=g/\g<hi
theorem OC {w:Xh} {base T n c:Nat} {a:Option YV} {l:List Xk} (h:w.ownsRow base T 1 (.slice a n c) n l):EJ w T base w.heap.size a n:=by
 rcases h.2 with⟨_,d⟩|⟨g,cap,b,i,j,d,e,o,q,m⟩
 ·exact .inl d
 ·refine .inr ⟨g,cap,λk=>b[k]?.getD undef,by injection i,⟨b,d,by omega,λk p=>?_⟩,e,j,(Xa.1 d).1⟩;have f:k<b.size:=by omega
  show b[k]?=some (b[k]?.getD undef);rw[Array.getElem?_eq_getElem f];rfl
theorem EJ.keep {w w':Xh} {T c d n:Nat} {a:Option YV} (h:EJ w T c d a n) (j:∀(b:Nat) (cs:Array Xk),w.heap[b]?=some (.cells cs T)->w'.heap[b]?=w.heap[b]?):EJ w' T c d a n:=by
 rcases h with h|⟨g,N,f,e,i,k⟩
 ·exact .inl h
 ·obtain⟨cs,q,-⟩:=id i;exact .inr ⟨g,N,f,e,i.same (j g cs q),k⟩
theorem EJ.below {w w':Xh} {T d c n:Nat} {a:Option YV} (h:EJ w T d c a n) (f:Below w.heap.size w w'):EJ w' T d c a n:=h.keep λb _ e=>f.block b (Xa.1 e).1
theorem EJ.put {w:Xh} {T c d n i:Nat} {a:Option YV} (h:EJ w T c d a n) (m:i<n):∃g v,a=some ⟨g,0,none⟩/\w.cell? ⟨g,i,none⟩=some v/\w.frozen? ⟨g,i,none⟩=false/\c<=g/\g<d/\(∃cs,w.heap[g]?=some (.cells cs T))/\∀u,EJ (w.setCell ⟨g,i,none⟩ u) T c d a n:=by
 rcases h with h|⟨g,N,f,e,b,l,k,j⟩
 ·omega
 ·obtain⟨cs,q,-⟩:=id b
  exact⟨g,f i,e,b.cell (by omega),b.frozen i,k,j,⟨cs,q⟩,λu=>.inr ⟨g,N,_,e,b.set i u,l,k,j⟩⟩
end Go.Proofs.YtdcacoifehkioaaGreatDoor
