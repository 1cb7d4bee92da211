import Derived.Test.YtdcacoifehkioaaGreatDoorExH23
import Derived.Test.YtdcacoifehkioaaGreatDoorExH30
import Derived.Test.YtdcacoifehkioaaGreatDoorExH31
import Derived.Test.YtdcacoifehkioaaGreatDoorExH19
import Derived.Test.YtdcacoifehkioaaGreatDoorExH29
open List renaming length_map->Xp,map_append->XI,foldl_cons->afC,mem_cons_self->Yf,mem_cons_of_mem->Yl,mem_cons->XR,getD_eq_getElem?_getD->Xc,getElem?_eq_getElem->Xe,getElem?_map->Xs,getElem?_eq_none->XU,any_cons->Zv,pairwise_cons->Zz,any_eq_true->YD,mem_range->af8,length_append->Xb,take_add_one->Yh,any_append->afE,any_nil->agD,length->afA
open Nat renaming le_trans->Xu,le_refl->Xd,le_succ->ago,lt_of_lt_of_le->XK,not_lt_zero->Zj
open Go renaming World->Xh,Addr->YZ,Value->Xk,heap_setCell_same->Xj
open Go.World renaming cell?->Xg
open Array renaming getElem?_eq_some_iff->Xa
set_option linter.unusedVariables false
set_option linter.unusedSimpArgs false
namespace Go.Proofs.YtdcacoifehkioaaGreatDoor
open Go.RowKit Go.Shelf Go.Proofs.Cod
def Gl (C:List (List Ad)) (m:MS):Bool:=decide ((AG C m).length=0)
theorem Ho (C:List (List Ad)) (m:MS):Gi C m=Gl C m:=by unfold Gi Bj Gl;rw[Xp]
def FE (p:PD) (o:List Tx) (m:MS):List Tx:=if Gl p.C m=true then Cd (Bl p m) o else o
def Bq (p:PD) (r:List MS):List Tx:=r.foldl (FE p) []
def BL (p:PD) (r:List MS) (k:Nat):List Int:=((List.range k).map Int.ofNat).filter λx=>r.any λm=>DY p.C m x
theorem ad0 (p:PD) (r:List MS) (k:Nat):BL p r (k+1)=BL p r k++(if (r.any λm=>DY p.C m (k:Int))=true then [(k:Int)] else []):=by
 unfold BL;rw[List.range_succ,XI,List.filter_append]
 congr 1
 show List.filter _ [Int.ofNat k]=_;rw[List.filter_cons,List.filter_nil]
 rfl
theorem Tr (p:PD) (r:List MS) (k:Nat):(BL p r k).length<=k:=by
 unfold BL;refine Xu (List.length_filter_le _ _) ?_;rw[Xp,List.length_range];exact Xd _
theorem ad1 (p:PD) (r:List MS) (m:MS):Bq p (r++[m])=FE p (Bq p r) m:=by unfold Bq;rw[List.foldl_append];rfl
theorem LK (p:PD) (r:List MS):FP (Bq p r):=by
 have:∀(r:List MS) (o:List Tx),FP o->FP (r.foldl (FE p) o):=by
  intro r
  induction r with
  |nil=>exact λ_ h=>h
  |cons m r a=>
   intro o h;refine a _ ?_;unfold FE
   split
   ·exact OQ _ h
   ·exact h
 exact this r [] List.Pairwise.nil
theorem Ke (p:PD) (r:List MS) (x:Tx):x∈Bq p r↔Fv p r x:=by
 have:∀(r:List MS) (o:List Tx),x∈r.foldl (FE p) o↔x∈o\/Fv p r x:=by
  intro r
  induction r with
  |nil=>exact λo=>⟨.inl,λh=>h.elim id fun⟨m,f,_⟩=>by cases f⟩
  |cons m r c=>
   intro o;rw[afC,c];have d:x∈FE p o m↔x∈o\/(Gl p.C m=true/\Bl p m=x):=by
    unfold FE
    split
    ·rename_i e;rw[Nn]
     exact⟨λh=>h.elim (λq=>.inr ⟨e,q.symm⟩) .inl,λh=>h.elim .inr λq=>.inl q.2.symm⟩
    ·rename_i e
     exact⟨.inl,λh=>h.elim id λq=>absurd q.1 e⟩
   rw[d];unfold Fv;constructor
   ·rintro((h|h)|⟨a,b,h⟩)
    ·exact .inl h
    ·exact .inr ⟨m,Yf ..,by rw[Ho];exact h⟩
    ·exact .inr ⟨a,Yl _ b,h⟩
   ·rintro(h|⟨a,b,h⟩)
    ·exact .inl (.inl h)
    ·rcases XR.1 b with rfl|b
     ·exact .inl (.inr (by rw[<-Ho];exact h))
     ·exact .inr ⟨a,b,h⟩
 exact(this r []).trans ⟨λh=>h.elim (λq=>by cases q) id,.inr⟩
theorem Tu (p:PD) (r:List MS):(Bq p r).length<=r.length:=by
 have c:∀(s:Tx) (l:List Tx),(Cd s l).length<=l.length+1:=by
  intro s l
  induction l with
  |nil=>exact Xd _
  |cons a l b=>
   unfold Cd
   split
   ·exact ago _
   ·split
    ·exact Xd _
    ·exact Nat.succ_le_succ b
 have:∀(r:List MS) (o:List Tx),(r.foldl (FE p) o).length<=o.length+r.length:=by
  intro r
  induction r with
  |nil=>exact λo=>Xd _
  |cons m r b=>
   intro o;rw[afC,List.length_cons];refine Xu (b _) ?_;have:(FE p o m).length<=o.length+1:=by
    unfold FE
    split
    ·exact c _ _
    ·exact ago _
   omega
 have:=this r [];rw[List.length_nil,Nat.zero_add] at this;exact this
section
variable {nv nf nl:Nat} {p:PD} {m m':MS} {l r:List MS}
theorem BN.QZ (h:BN m m'):(m'.thr.map λth=>th.ph)=(m.thr.map λth=>th.ph):=by
 apply List.ext_getElem?
 intro t
 by_cases a:t<m.thr.length
 ·have e:=h.ph t;unfold MS.th at e;rw[Xc,Xc,Xe a,Xe (by rw[h.n];exact a)] at e;rw[Xs,Xs,Xe a,Xe (by rw[h.n];exact a)];exact congrArg some e
 ·rw[XU (by rw[Xp,h.n];omega),XU (by rw[Xp];omega)]
theorem BN.going (h:BN m m'):Au m'=Au m:=by
 unfold Au;have e:∀l:List TS,l.countP (λth=>th.ph == 1)=(l.map λth=>th.ph).countP (λx=>x == 1):=λl=>by rw[List.countP_map];rfl
 rw[e,e,h.QZ]
theorem BN.outM (h:BN m m'):Bl p m'=Bl p m:=by
 have a:=h.going;unfold Go.Proofs.YtdcacoifehkioaaGreatDoor.Bl AW;rw[h.v,h.f,a]
theorem BN.failed (h:BN m m'):Bw m'=Bw m:=by
 unfold Bw;have e:∀l:List TS,l.any (λth=>th.ph == 3)=(l.map λth=>th.ph).any (λx=>x == 3):=λl=>by rw[List.any_map];rfl
 rw[e,e,h.QZ]
theorem FR.raced (a:Ej nv nf nl p.C) (h:FR nv nf nl p.C m m') (x:Int):DY p.C m' x=DY p.C m x:=by
 unfold DY;have e:((AG p.C m').map λt=>BB p.C t.toNat (m'.th t.toNat))=((AG p.C m).map λt=>BB p.C t.toNat (m.th t.toNat)):=by
  rw[h.sim.ready h.ok];refine List.map_congr_left λt b=>?_;obtain⟨u,rfl,c,g,d,f⟩:=Gq a h.ok (Ie b);rw[Int.toNat_natCast,h.sim.th (t:=u) (by omega)]
 rw[e]
theorem FR.ended (h:FR nv nf nl p.C m m'):Gl p.C m'=Gl p.C m:=by unfold Gl;rw[h.sim.ready h.ok]
theorem F2.left {A B:Type} {R:A->B->Prop} {l:List A} {r:List B} (h:F2 R l r) {a:A} (c:a∈l):∃b,b∈r/\R a b:=by
 induction h with
 |nil=>cases c
 |cons q _ f=>
  rcases XR.1 c with rfl|c
  ·exact⟨_,Yf ..,q⟩
  ·obtain⟨b,e,d⟩:=f c
   exact⟨b,Yl _ e,d⟩
theorem F2.right {A B:Type} {R:A->B->Prop} {l:List A} {r:List B} (h:F2 R l r) {b:B} (c:b∈r):∃a,a∈l/\R a b:=by
 induction h with
 |nil=>cases c
 |cons q _ f=>
  rcases XR.1 c with rfl|c
  ·exact⟨_,Yf ..,q⟩
  ·obtain⟨a,e,d⟩:=f c
   exact⟨a,Yl _ e,d⟩
theorem F2.any {A B:Type} {R:A->B->Prop} {f:A->Bool} {g:B->Bool} (c:∀a b,R a b->g b=f a) {l:List A} {r:List B} (h:F2 R l r):r.any g=l.any f:=by
 induction h with
 |nil=>rfl
 |cons q _ d=>rw[Zv,Zv,d,c _ _ q]
theorem NI:∀{l r:List Int},l.Pairwise (λa b=>a<b)->r.Pairwise (λa b=>a<b)->(∀x,x∈l↔x∈r)->l=r
 |[],[],_,_,_=>rfl
 |[],b::r,_,_,h=>absurd ((h b).2 (Yf ..)) (by simp)
 |a::l,[],_,_,h=>absurd ((h a).1 (Yf ..)) (by simp)
 |a::l,b::r,h1,h2,h=>by
  have⟨f,o⟩:=Zz.1 h1;have⟨i,n⟩:=Zz.1 h2;have e:a=b:=by
   rcases XR.1 ((h a).1 (Yf ..)) with e|e
   ·exact e
   ·rcases XR.1 ((h b).2 (Yf ..)) with d|d
    ·exact d.symm
    ·have w1:=i a e;have p:=f b d
     omega
  subst e;have g:∀{m:List Int},(∀x,x∈m->a<x)->a∉m:=λj k=>by
   have:=j a k
   omega
  rw[NI o n λx=>?_];constructor
  ·intro c
   rcases XR.1 ((h x).1 (Yl _ c)) with e|e
   ·subst e;exact absurd c (g f)
   ·exact e
  ·intro c
   rcases XR.1 ((h x).2 (Yl _ c)) with e|e
   ·subst e;exact absurd c (g i)
   ·exact e
theorem Oe (p:PD) (r:List MS) (k:Nat):(BL p r k).Pairwise (λa b=>a<b):=by
 unfold BL;refine List.Pairwise.filter _ ?_;rw[List.pairwise_map];exact List.pairwise_lt_range.imp λh=>Int.ofNat_lt.2 h
theorem No (p:PD) (r:List MS) (x:Int):x∈BL p r p.vs.length↔EQ p r x:=by
 unfold BL EQ;rw[List.mem_filter,List.mem_map,YD];have b:∀m,(Dd x (Bj p.C m)).isSome=DY p.C m x:=λm=>by rw[KU,MR]
 constructor
 ·rintro⟨⟨k,d,rfl⟩,m,a,h⟩;have:=af8.1 d
  exact⟨⟨Int.natCast_nonneg k,Int.ofNat_lt.2 this⟩,m,a,by rw[b];exact h⟩
 ·rintro⟨⟨c,e⟩,m,a,h⟩
  exact⟨⟨x.toNat,af8.2 (by omega),Int.toNat_of_nonneg c⟩,m,a,by rw[<-b];exact h⟩
theorem WZ (i:Ej nv nf nl p.C) (h:F2 (FR nv nf nl p.C) l r):r.length=l.length/\(∀x,Fv p l x↔Fv p r x)/\BE p.C r=BE p.C l/\CG r=CG l/\∀x,EQ p l x↔EQ p r x:=by
 refine⟨h.len,λx=>⟨?_,?_⟩,?_,?_,λx=>⟨?_,?_⟩⟩
 ·rintro⟨m,d,c,g⟩;obtain⟨m',e,q⟩:=h.left d
  exact⟨m',e,by rw[Ho] at c |-;rw[q.ended];exact c,by rw[q.sim.outM];exact g⟩
 ·rintro⟨m',e,c,g⟩;obtain⟨m,d,q⟩:=h.right e
  exact⟨m,d,by rw[Ho] at c |-;rw[<-q.ended];exact c,by rw[<-q.sim.outM];exact g⟩
 ·unfold BE;exact h.any λa b q=>by rw[Ho,Ho,q.ended,q.sim.going]
 ·unfold CG;exact h.any λa b q=>q.sim.failed
 ·rintro⟨f,m,d,c⟩;obtain⟨m',e,q⟩:=h.left d;refine⟨f,m',e,?_⟩;rw[KU,MR] at c |-;rw[q.raced i];exact c
 ·rintro⟨f,m',e,c⟩;obtain⟨m,d,q⟩:=h.right e;refine⟨f,m,d,?_⟩;rw[KU,MR] at c |-;rw[<-q.raced i];exact c
end
def JV (p:PD) (d:D5) (most:Nat):Option (List MS):=Cr (Aj p) (BC true p.C) most (most+1) [AH d.nv d.nf d.nl d.nt] 0
def IZ (w:Xh) (d:D5) (p:PD) (most:Int) (e:Ending) (w':Xh):Prop:=
 Below w.heap.size w w'/\((¬BZ most/\e = .returned (.tuple #[.agg (Gb 0 false false),.int .i64 8]))\/(BZ most/\JV p d most.toNat=none/\e = .returned (.tuple #[.agg (Gb 0 false false),.int .i64 4]))\/
  (BZ most/\∃(r:List MS) (oa ra:Option YZ) (oc rc:Nat),JV p d most.toNat=some r/\e = .returned (.tuple #[.agg #[.int .i64 r.length,.slice oa (Bq p r).length oc,.bool (BE p.C r),.bool (CG r),.slice ra (BL p r d.nv).length rc],.int .i64 0])/\Ts w' oa (Bq p r)/\Is w' ra (BL p r d.nv)/\Dv w.heap.size oa/\Dv w.heap.size ra))
theorem Dr {W:Xh} {g T:Nat} {c b e d a:Xk} (h:W.heap[g]?=some (.cells #[c,b,e,d,a] T)):W.cell? ⟨g,0,none⟩=some c/\W.cell? ⟨g,1,none⟩=some b/\W.cell? ⟨g,2,none⟩=some e/\W.cell? ⟨g,3,none⟩=some d/\W.cell? ⟨g,4,none⟩=some a:=
 ⟨by simp[Xg,h],by simp[Xg,h],by simp[Xg,h],by simp[Xg,h],by simp[Xg,h]⟩
theorem FO {W:Xh} {g T:Nat} {cs:Array Xk} (h:W.heap[g]?=some (.cells cs T)):W.frozen? ⟨g,0,none⟩=false/\W.frozen? ⟨g,1,none⟩=false/\W.frozen? ⟨g,2,none⟩=false/\W.frozen? ⟨g,3,none⟩=false/\W.frozen? ⟨g,4,none⟩=false:=⟨Ap h 0,Ap h 1,Ap h 2,Ap h 3,Ap h 4⟩
theorem NS {v:Xh} {b:Nat} {T:TypeId} {c0 c1 c2 c3 c4:Xk} (a c d e f:Xk) (h:v.heap[b]?=some (.cells #[c0,c1,c2,c3,c4] T)) :
 (((((v.setCell ⟨b,0,none⟩ a).setCell ⟨b,1,none⟩ c).setCell ⟨b,2,none⟩ d).setCell ⟨b,3,none⟩ e).setCell ⟨b,4,none⟩ f).heap[b]?=some (.cells #[a,c,d,e,f] T):=by
 have l:=(Xj _ b 0 _ _ a h).trans (show _=some (.cells #[a,c1,c2,c3,c4] T) from rfl);have k:=(Xj _ b 1 _ _ c l).trans (show _=some (.cells #[a,c,c2,c3,c4] T) from rfl);have g:=(Xj _ b 2 _ _ d k).trans (show _=some (.cells #[a,c,d,c3,c4] T) from rfl);have j:=(Xj _ b 3 _ _ e g).trans (show _=some (.cells #[a,c,d,e,c4] T) from rfl);have i:=(Xj _ b 4 _ _ f j).trans (show _=some (.cells #[a,c,d,e,f] T) from rfl);exact i
theorem Oo {B:Nat} {u v:Xh} {b:Nat} (d f e c g:Xk) (h:Below B u v) (a:B<=b) :
 Below B u (((((v.setCell ⟨b,0,none⟩ d).setCell ⟨b,1,none⟩ f).setCell ⟨b,2,none⟩ e).setCell ⟨b,3,none⟩ c).setCell ⟨b,4,none⟩ g):=
 ((((h.setCell a _).setCell a _).setCell a _).setCell a _).setCell a _
theorem KW {w:Xh} {fn:Func} {tmps:Array Xk} {b:Nat} {f c g d a e:Xk} (h:fn.results = #[.cell 4 38,.tmp 5]) (j:tmps[4]?=some (.pointer (some ⟨b,0,none⟩))) (k:tmps[5]?=some e) (i:w.heap[b]?=some (.cells #[f,c,g,d,a] 38)):(results fn tmps).run Tryz.prog w = .ok (.tuple #[.agg #[f,c,g,d,a],e]) w:=by
 obtain⟨c0,c1,c2,c3,c4⟩:=Dr i;simp[results,h,j,k,go_sem,c0,c1,c2,c3,c4]
theorem Dw.at' {w:Xh} {base n cap g i:Nat} {d:D5} {S:List S6} {ms:List MS} {s:S6} {m:MS} (h:Dw w base d (.slice (some ⟨g,0,none⟩) n cap) S ms) (b:S[i]?=some s) (c:ms[i]?=some m):g<w.heap.size/\Dl w s d m/\
 w.cell? ⟨g,i*6,none⟩=some (.slice s.a0 d.nv s.c0)/\w.cell? ⟨g,i*6+1,none⟩=some (.slice s.a1 d.nf s.c1)/\w.cell? ⟨g,i*6+2,none⟩=some (.slice s.a2 d.nl s.c2)/\w.cell? ⟨g,i*6+3,none⟩=some (.slice s.a3 d.nt s.c3)/\w.cell? ⟨g,i*6+4,none⟩=some (.slice s.a4 d.nt s.c4)/\w.cell? ⟨g,i*6+5,none⟩=some (.slice s.a5 d.nr s.c5):=by
 obtain⟨f,j,s',e,a,r⟩:=h.at c;rw[b] at a
 cases a
 injection e with e _ _
 injection e with e
 injection e with e _ _
 subst e;exact r
theorem Dw.GI {w w':Xh} {base rb:Nat} {d:D5} {v:Xk} {S:List S6} {ms:List MS} {cs:Array Xk} (h:Dw w base d v S ms) (a:w.heap[rb]?=some (.cells cs 38)) (c:Ac (λk=>k=rb) w w'):Dw w' base d v S ms:=
 h.keep (λb f e=>c.block b (Xa.1 e).1 (He e a (by decide))) λb f e=>c.block b (Xa.1 e).1 (He e a (by decide))
def Ce (n:Nat) (oa:Option YZ) (on oc:Nat) (st fa:Bool) (ra:Option YZ) (rn rc:Nat):Array Xk := #[.int .i64 n,.slice oa on oc,.bool st,.bool fa,.slice ra rn rc]
theorem Lb {w:Xh} {rb n j i d f:Nat} {g e:Option YZ} {b fa:Bool} (h:w.heap[rb]?=some (.cells (Ce n g j i b fa e d f) 38)) (a:Option YZ) (k c:Nat):(w.setCell ⟨rb,1,none⟩ (.slice a k c)).heap[rb]?=some (.cells (Ce n a k c b fa e d f) 38):=Xj w rb 1 _ _ (.slice a k c) h
theorem La {w:Xh} {rb n d c e g:Nat} {a f:Option YZ} {i fa:Bool} (h:w.heap[rb]?=some (.cells (Ce n a d c i fa f e g) 38)) (b:Bool):(w.setCell ⟨rb,2,none⟩ (.bool b)).heap[rb]?=some (.cells (Ce n a d c b fa f e g) 38):=Xj w rb 2 _ _ (.bool b) h
theorem aab {w:Xh} {rb n e d f i:Nat} {a g:Option YZ} {c fa:Bool} (h:w.heap[rb]?=some (.cells (Ce n a e d c fa g f i) 38)) (b:Bool):(w.setCell ⟨rb,3,none⟩ (.bool b)).heap[rb]?=some (.cells (Ce n a e d c b g f i) 38):=Xj w rb 3 _ _ (.bool b) h
theorem QG {w:Xh} {rb n f e g j:Nat} {b i:Option YZ} {d fa:Bool} (h:w.heap[rb]?=some (.cells (Ce n b f e d fa i g j) 38)) (a:Option YZ) (k c:Nat):(w.setCell ⟨rb,4,none⟩ (.slice a k c)).heap[rb]?=some (.cells (Ce n b f e d fa a k c) 38):=Xj w rb 4 _ _ (.slice a k c) h
theorem Ts.GI {w w':Xh} {rb n o p r u:Nat} {a j s:Option YZ} {t fa:Bool} {l:List Tx} (h:Ts w a l) (f:w.heap[rb]?=some (.cells (Ce n j o p t fa s r u) 38)) (v:Ac (λk=>k=rb) w w'):Ts w' a l:=λi z=>by
 obtain⟨b,d,e,g,c⟩:=h i z;refine⟨b,d,e,XK g v.size,?_⟩;have x:b≠rb:=by
  intro y;subst y;obtain⟨c0,c1,c2,c3,c4⟩:=Dr f;have m:d+i<5:=by
   have q:(Ce n j o p t fa s r u)[d+i]?=some (.string (bs (l.getD i []))):=by simpa [Xg,f] using c
   exact(Xa.1 q).1
  generalize d+i=k at c m
  match k,m with
  |0,_=>rw[c0] at c;cases c
  |1,_=>rw[c1] at c;cases c
  |2,_=>rw[c2] at c;cases c
  |3,_=>rw[c3] at c;cases c
  |4,_=>rw[c4] at c;cases c
 exact(World.cell?_of_block (w:=w) (w':=w') (a:=⟨b,d+i,none⟩) (v.block b g x)).trans c
theorem aa9 {p:PD} {m:MS} (d:DX p) (c:BT p m) (b:Cs p):(Bl p m).length<4294967296:=by
 have e:=Na d (λk=>FJ c.vv k) (λk=>FJ c.fv k);unfold Bl;have g:=Kl (AW p m++if 0<Au m then [EN] else []);have i:=NR (AW p m++if 0<Au m then [EN] else []) λx a=>by
  rcases List.mem_append.1 a with a|a
  ·exact(e x a).1
  ·split at a
   ·rw[List.mem_singleton.1 a];decide
   ·cases a
 have h:(AW p m++if 0<Au m then [EN] else []).length<=9:=by
  rw[Xb,IM];have:=b.v;have:=b.f
  split
  ·show _+1<=9;omega
  ·show _+0<=9;omega
 omega
theorem Es (w:Xh) (rb k:Nat) (v:Xk):Ac (λx=>x=rb) w (w.setCell ⟨rb,k,none⟩ v):=by
 have h:=Ac.refl (S:=λx=>x=rb) w;exact h.set (.inl rfl) v
theorem ack (w:Xh) (rb:Nat) (b d c a e:Xk):Ac (λx=>x=rb) w (((((w.setCell ⟨rb,0,none⟩ b).setCell ⟨rb,1,none⟩ d).setCell ⟨rb,2,none⟩ c).setCell ⟨rb,3,none⟩ a).setCell ⟨rb,4,none⟩ e):=((((Es w rb 0 b).trans (Es _ rb 1 d)).trans (Es _ rb 2 c)).trans (Es _ rb 3 a)).trans (Es _ rb 4 e)
theorem QP {w:Xh} {base:Nat} {v:Xk} {l:List Int} (h:w.ownsRow base 3 1 v l.length (l.map Cq)) (x:Int) (i:l.length<1048576) (f:base<=w.heap.size) :
 ∃g cap w',(Builtin.append_ #[32,32] 32 #[v,.slice (some ⟨w.heap.size,0,none⟩) 1 1]).run Tryz.prog (w.alloc (.cells #[.int .i64 x] 3)) = .ok (.slice (some ⟨g,0,none⟩) (l.length+1) cap) w'/\
  w'.ownsRow base 3 1 (.slice (some ⟨g,0,none⟩) (l.length+1) cap) (l++[x]).length ((l++[x]).map Cq)/\Below base w w':=by
 obtain⟨r,m,q,c,n⟩:=info_parts Tryz.infoInt;obtain⟨g,cap,w',d,j,b,o,p,y,rb,t⟩:=Ig h Tryz.underlying32 m q c n rfl (by omega) [.int .i64 x] rfl (by intro u a;simp at a;subst a;rfl) 32 i f;refine⟨g,cap,w',d,by rw[Xb,XI];exact j,⟨b,o,p,by omega,λk s=>rb k (by omega) (λe=>?_)⟩⟩;have:=(h.lt k e).1
 omega
theorem Ac.EM {S:Nat->Prop} {u v c:Xh} (h:Ac S u v) (a:Below v.heap.size v c):Ac S u c:=
 ⟨a.os.trans h.os,a.tape.trans h.tape,a.output.trans h.output,Xu h.size a.size,λk b d=>(a.block k (XK b h.size)).trans (h.block k b d)⟩
theorem Ac.below {u v:Xh} {rb B:Nat} (h:Ac (λk=>k=rb) u v) (a:B<=rb) (b:B<=u.heap.size):Below B u v:=⟨h.os,h.tape,h.output,h.size,λk c=>h.block k (by omega) (by omega)⟩
theorem adK {m:MS} (t:Nat) (a:t<m.thr.length):(m.thr.take (t+1)).any (λth=>th.ph == 3)=((m.thr.take t).any (λth=>th.ph == 3)||((m.th t).ph == 3)):=by
 have e:m.thr[t]?=some (m.th t):=by unfold MS.th;rw[Xc,Xe a];rfl
 rw[Yh,e,afE];show (_||List.any [m.th t] _)=_;rw[Zv,agD,Bool.or_false]
theorem KN {q:MS->Bool} {r:List MS} {i:Nat} {m:MS} (h:r[i]?=some m):(r.take (i+1)).any q=((r.take i).any q||q m):=by
 rw[Yh,h,afE];show (_||List.any [m] q)=_;rw[Zv,agD,Bool.or_false]
theorem Vp {q:MS->Bool} {r:List MS} {i:Nat} (h:(r.take i).any q=true):r.any q=true:=by
 obtain⟨a,c,b⟩:=YD.1 h;exact YD.2 ⟨a,List.mem_of_mem_take c,b⟩
theorem Tt {p:PD} {r:List MS} {i:Nat} {m:MS} (h:r[i]?=some m):Bq p (r.take (i+1))=FE p (Bq p (r.take i)) m:=by
 rw[Yh,h];exact ad1 p _ m
structure Gu (w:Xh) (base:Nat) (vV fV lV thV qv qf ql qt:Xk) (vs fs ls:List Tx) (L:List (Tx×Xk)) (C:List (List Ad)) (P:RP) (TV:List (Xk×Xk)) (nv nf nl nt:Nat):Prop where
 prog:BS w base vV fV lV thV vs fs ls L C
 doc:DM w qv qf ql qt P TV
 lv:vs.length=nv
 lf:fs.length=nf
 ll:ls.length=nl
 lt:L.length=nt
 pv:P.vs.length=nv
 pf:P.fs.length=nf
 pl:P.ls.length=nl
 pt:P.thr.length=nt
 code:Ai P=C
 pd:AD P=Am vs fs ls L C
 b:GW vs fs ls L C
 fit:Cs (Am vs fs ls L C)
 n8:DX (Am vs fs ls L C)
 cl:C.length=nt
section
variable {w w':Xh} {base:Nat} {vV fV lV thV qv qf ql qt:Xk} {vs fs ls:List Tx} {L:List (Tx×Xk)} {C:List (List Ad)} {P:RP} {TV:List (Xk×Xk)} {nv nf nl nt:Nat}
theorem Gu.below (h:Gu w base vV fV lV thV qv qf ql qt vs fs ls L C P TV nv nf nl nt) (a:Below w.heap.size w w'):Gu w' base vV fV lV thV qv qf ql qt vs fs ls L C P TV nv nf nl nt:={h with prog:=h.prog.below a,doc:=h.doc.below a}
theorem Gu.four (h:Gu w base vV fV lV thV qv qf ql qt vs fs ls L C P TV nv nf nl nt):nv<=4/\nf<=4/\nl<=4/\nt<=4:=by
 have a:vs.length<=4:=h.fit.v;have b:fs.length<=4:=h.fit.f;have c:ls.length<=4:=h.fit.l;have d:C.length<=4:=h.fit.fit.four;have:=h.lv;have:=h.lf;have:=h.ll;have:=h.cl
 omega
theorem UT {t:Tx} {s:PS} (H:BO t = .ok (s,C)) (c:BS w base vV fV lV thV (s.nms 118) (s.nms 102) (s.nms 109) L C) (n:L.map Prod.fst=s.nms 116) (d:DW w base qv qf ql qt P TV) (k:P.vs=s.nms 118) (o:P.fs=s.nms 102) (m:P.ls=s.nms 109) (p:P.names=s.nms 116) (r:(P.thr.map λth=>th.code.map RI.i)=C) :
 ∃nv nf nl nt va fa j e vc fc h g x1 x2 x3 x4 z1 z2 z3 z4,vV = .slice va nv vc/\fV = .slice fa nf fc/\lV = .slice j nl h/\thV = .slice e nt g/\qv = .slice x1 nv z1/\qf = .slice x2 nf z2/\ql = .slice x3 nl z3/\qt = .slice x4 nt z4/\Gu w base vV fV lV thV qv qf ql qt (s.nms 118) (s.nms 102) (s.nms 109) L C P TV nv nf nl nt:=by
 obtain⟨va,vc,F⟩:=At c.v;obtain⟨fa,fc,A⟩:=At c.f;obtain⟨j,h,x⟩:=At c.l;obtain⟨e,g,D⟩:=At c.t;obtain⟨x1,z1,E⟩:=At d.v;obtain⟨x2,z2,u⟩:=At d.f;obtain⟨x3,z3,I⟩:=At d.l;obtain⟨x4,z4,y⟩:=At d.t;obtain⟨B,z,J⟩:=Tc H n;have q:L.length=P.thr.length:=by
  have a:=congrArg afA n;have b:=congrArg afA p;unfold RP.names at b;rw[Xp] at a b;rw[a,b]
 have G:C.length=L.length:=c.len;refine⟨(s.nms 118).length,(s.nms 102).length,(s.nms 109).length,L.length,va,fa,j,e,vc,fc,h,g,x1,x2,x3,x4,z1,z2,z3,z4,F,A,x,D,by rw[E,k],by rw[u,o],by rw[I,m],by rw[y,q],c,d.view,rfl,rfl,rfl,rfl,by rw[k],by rw[o],by rw[m],q.symm,r,?_,B,z,J,G⟩;unfold AD Am;rw[k,o,m,p,n];show PD.mk _ _ _ _ (Ai P)=_;unfold Ai;rw[r]
end
def Told (p:PD) (most:Int) (n:Int) (os:List Tx) (st fa:Bool) (rs:List Int) (er:Int):Prop:=
 (¬BZ most/\n=0/\os=[]/\st=false/\fa=false/\rs=[]/\er=8)\/(BZ most/\CT p most.toNat=none/\n=0/\os=[]/\st=false/\fa=false/\rs=[]/\er=4)\/
   (BZ most/\∃l,CT p most.toNat=some l/\n=l.length/\os=Bq p l/\st=BE p.C l/\fa=CG l/\rs=BL p l p.vs.length/\er=0)
theorem Told.len {p:PD} {most n g:Int} {e:List Tx} {f fa:Bool} {rs:List Int} (h:Told p most n e f fa rs g) (j:p.vs.length<=4):e.length<=20000/\rs.length<=4:=by
 rcases h with⟨-,-,d,-,-,c,-⟩|⟨-,-,-,d,-,-,c,-⟩|⟨a,l,b,-,d,-,-,c,-⟩
 ·rw[d,c];exact⟨by decide,by decide⟩
 ·rw[d,c];exact⟨by decide,by decide⟩
 ·unfold BZ at a;have m:=Ob (key:=Aj p) (succ:=BC false p.C) most.toNat _ _ _ (by show 1<=most.toNat;omega) b;have k:=Tu p l;have i:=Tr p l p.vs.length;rw[d,c]
  omega
theorem WO {p:PD} {d:D5} (b:Cs p) (g:p.vs.length=d.nv) (f:p.fs.length=d.nf) (e:p.ls.length=d.nl) (c:p.C.length=d.nt) (a:Nat):(CT p a=none/\JV p d a=none)\/∃l r,CT p a=some l/\JV p d a=some r/\F2 (FR p.vs.length p.fs.length p.ls.length p.C) l r:=by
 have h:=ae1 b.fit p a (a+1);unfold CT JV DH;rw[<-g,<-f,<-e,<-c];exact h
theorem UV {w w':Xh} {p:PD} {d:D5} {most:Int} {e:Ending} (t:Cs p) (s:p.vs.length=d.nv) (J:p.fs.length=d.nf) (F:p.ls.length=d.nl) (G:p.C.length=d.nt) (h:IZ w d p most e w'):Below w.heap.size w w'/\∃(n:Int) (c g:Option YZ) (q m:Nat) (o:List Tx) (y fa:Bool) (rs:List Int) (u:Int),e = .returned (.tuple #[.agg #[.int .i64 n,.slice c o.length q,.bool y,.bool fa,.slice g rs.length m],.int .i64 u])/\
 Ts w' c o/\Is w' g rs/\Dv w.heap.size c/\Dv w.heap.size g/\Told p most n o y fa rs u:=by
 obtain⟨D,h⟩:=h;refine⟨D,?_⟩;have v:=WO t s J F G most.toNat
 rcases h with⟨j,rfl⟩|⟨j,k,rfl⟩|⟨j,r,c,g,q,m,k,rfl,M,z,H,B⟩
 ·exact⟨0,none,none,0,0,[],false,false,[],8,rfl,(λi b=>absurd b (Zj i)),(λi b=>absurd b (Zj i)),.inl rfl,.inl rfl,.inl ⟨j,rfl,rfl,rfl,rfl,rfl,rfl⟩⟩
 ·rcases v with⟨f,a⟩|⟨l,r,f,a,-⟩
  ·exact⟨0,none,none,0,0,[],false,false,[],4,rfl,(λi b=>absurd b (Zj i)),(λi b=>absurd b (Zj i)),.inl rfl,.inl rfl,.inr (.inl ⟨j,f,rfl,rfl,rfl,rfl,rfl,rfl⟩)⟩
  ·rw[k] at a;cases a
 ·rcases v with⟨f,a⟩|⟨l,r',f,a,K⟩
  ·rw[k] at a;cases a
  ·rw[k] at a
   cases a
   obtain⟨O,N,I,E,A⟩:=WZ t.fit K;refine⟨r.length,c,g,q,m,Bq p r,_,_,BL p r d.nv,0,rfl,M,z,H,B,.inr (.inr ⟨j,l,f,?_,?_,I,E,?_,rfl⟩)⟩
   ·rw[O]
   ·exact MM (LK p r) (LK p l) λx=>by rw[Ke,Ke,N]
   ·rw[<-s];exact NI (Oe p r _) (Oe p l _) λx=>by rw[No,No,A]
def JB (wr:Xh) (T lo hi:Nat) (a:Option YZ) (n:Nat):Prop:=n=0\/∃g N f,a=some ⟨g,0,none⟩/\An wr g T N f/\n<=N/\lo<=g/\g<hi
theorem JB.keep {w w':Xh} {T c i n:Nat} {a:Option YZ} (h:JB w T c i a n) (j:∀(b:Nat) (cs:Array Xk),w.heap[b]?=some (.cells cs T)->w'.heap[b]?=w.heap[b]?):JB w' T c i a n:=by
 rcases h with h|⟨g,N,f,e,d,k⟩
 ·exact .inl h
 ·obtain⟨cs,q,-⟩:=id d;exact .inr ⟨g,N,f,e,d.same (j g cs q),k⟩
theorem JB.below {w w':Xh} {T c d n:Nat} {a:Option YZ} (h:JB w T c d a n) (f:Below w.heap.size w w'):JB w' T c d a n:=h.keep λb _ e=>f.block b (Xa.1 e).1
end Go.Proofs.YtdcacoifehkioaaGreatDoor
