import Derived.Test.YtdcacoifehkioaaGreatDoorExR24
import Derived.Test.YtdcacoifehkioaaGreatDoorExR23
import Derived.Test.YtdcacoifehkioaaGreatDoorExR31
import Derived.Test.YtdcacoifehkioaaGreatDoorExR30
import Derived.Test.YtdcacoifehkioaaGreatDoorExR19
import Derived.Test.YtdcacoifehkioaaGreatDoorExR29
open Go renaming World->Xg,Value->Xj,Addr->Y7
open Nat renaming le_trans->Xu,le_refl->Xf,le_succ->adJ
open List renaming length_map->Xm,foldl_cons->Zf,mem_cons_self->Yc,mem_cons_of_mem->Yk,mem_cons->XL,getD_eq_getElem?_getD->Xb,getElem?_eq_getElem->Xc,getElem?_map->Xp,getElem?_eq_none->XO,any_cons->ZM,pairwise_cons->Zh,mem_range->adp,length->ZW
open Go.World renaming cell?->Xh,ownsRow_nil->Xy
set_option linter.unusedVariables false
set_option linter.unusedSimpArgs false
namespace Go.Proofs.YtdcacoifehkioaaGreatDoor
open Go.RowKit Go.Shelf Go.Proofs.Cod
structure WI (w wr:Xg) (l:List Tx) (s:Tx) (i:Nat) (d:Bool) (ov:Xj) (ol:List Tx):Prop where
 le:i<=l.length
 row:wr.ownsRow w.heap.size 9 1 ov ol.length (ol.map λx=>Value.string (bs x))
 bel:Below w.heap.size w wr
 len:ol.length<=i+1
 no:d=false->ol=l.take i/\∀j x,j<i->l[j]?=some x->x≠s/\Bc s x=false
 yes:d=true->ol++l.drop i=EO s l/\∃k x,k<i/\l[k]?=some x/\Bc s x=true
def Nd (lo:Nat) (a:Option Y7):Prop:=a=none\/∃b off,a=some ⟨b,off,none⟩/\lo<=b
theorem Nd.mono {d c:Nat} {a:Option Y7} (h:Nd d a) (g:c<=d):Nd c a:=h.imp id fun⟨b,f,e,q⟩=>⟨b,f,e,Xu g q⟩
def GR (C:List (List Ac)) (m:MS):Bool:=decide ((Bj C m).length=0)
theorem Ml (C:List (List Ac)) (m:MS):Fa C m=GR C m:=by unfold Fa AU GR;rw[Xm]
def Gk (p:PD) (o:List Tx) (m:MS):List Tx:=if GR p.C m=true then EO (BD p m) o else o
def Hw (p:PD) (r:List MS):List Tx:=r.foldl (Gk p) []
def Gj (p:PD) (r:List MS) (k:Nat):List Int:=((List.range k).map Int.ofNat).filter λx=>r.any λm=>JM p.C m x
theorem aby (p:PD) (r:List MS) (k:Nat):(Gj p r k).length<=k:=by
 unfold Gj;refine Xu (List.length_filter_le _ _) ?_;rw[Xm,List.length_range];exact Xf _
theorem Ri (p:PD) (r:List MS):FM (Hw p r):=by
 have:∀(r:List MS) (o:List Tx),FM o->FM (r.foldl (Gk p) o):=by
  intro r
  induction r with
  |nil=>exact λ_ h=>h
  |cons m r a=>
   intro o h;refine a _ ?_;unfold Gk
   split
   ·exact No _ h
   ·exact h
 exact this r [] List.Pairwise.nil
theorem LR (p:PD) (r:List MS) (x:Tx):x∈Hw p r↔FA p r x:=by
 have:∀(r:List MS) (o:List Tx),x∈r.foldl (Gk p) o↔x∈o\/FA p r x:=by
  intro r
  induction r with
  |nil=>exact λo=>⟨.inl,λh=>h.elim id fun⟨m,c,_⟩=>by cases c⟩
  |cons m r d=>
   intro o;rw[Zf,d];have f:x∈Gk p o m↔x∈o\/(GR p.C m=true/\BD p m=x):=by
    unfold Gk
    split
    ·rename_i e;rw[LQ]
     exact⟨λh=>h.elim (λq=>.inr ⟨e,q.symm⟩) .inl,λh=>h.elim .inr λq=>.inl q.2.symm⟩
    ·rename_i e
     exact⟨.inl,λh=>h.elim id λq=>absurd q.1 e⟩
   rw[f];unfold FA;constructor
   ·rintro((h|h)|⟨a,b,h⟩)
    ·exact .inl h
    ·exact .inr ⟨m,Yc ..,by rw[Ml];exact h⟩
    ·exact .inr ⟨a,Yk _ b,h⟩
   ·rintro(h|⟨a,b,h⟩)
    ·exact .inl (.inl h)
    ·rcases XL.1 b with rfl|b
     ·exact .inl (.inr (by rw[<-Ml];exact h))
     ·exact .inr ⟨a,b,h⟩
 exact(this r []).trans ⟨λh=>h.elim (λq=>by cases q) id,.inr⟩
theorem abz (p:PD) (r:List MS):(Hw p r).length<=r.length:=by
 have c:∀(s:Tx) (l:List Tx),(EO s l).length<=l.length+1:=by
  intro s l
  induction l with
  |nil=>exact Xf _
  |cons a l b=>
   unfold EO
   split
   ·exact adJ _
   ·split
    ·exact Xf _
    ·exact Nat.succ_le_succ b
 have:∀(r:List MS) (o:List Tx),(r.foldl (Gk p) o).length<=o.length+r.length:=by
  intro r
  induction r with
  |nil=>exact λo=>Xf _
  |cons m r b=>
   intro o;rw[Zf,List.length_cons];refine Xu (b _) ?_;have:(Gk p o m).length<=o.length+1:=by
    unfold Gk
    split
    ·exact c _ _
    ·exact adJ _
   omega
 have:=this r [];rw[List.length_nil,Nat.zero_add] at this;exact this
section
variable {nv nf nl:Nat} {p:PD} {m m':MS} {l r:List MS}
theorem Bi.OW (h:Bi m m'):(m'.thr.map λth=>th.ph)=(m.thr.map λth=>th.ph):=by
 apply List.ext_getElem?
 intro t
 by_cases a:t<m.thr.length
 ·have e:=h.ph t;unfold MS.th at e;rw[Xb,Xb,Xc a,Xc (by rw[h.n];exact a)] at e;rw[Xp,Xp,Xc a,Xc (by rw[h.n];exact a)];exact congrArg some e
 ·rw[XO (by rw[Xm,h.n];omega),XO (by rw[Xm];omega)]
theorem Bi.going (h:Bi m m'):AB m'=AB m:=by
 unfold AB;have e:∀l:List TS,l.countP (λth=>th.ph == 1)=(l.map λth=>th.ph).countP (λx=>x == 1):=λl=>by rw[List.countP_map];rfl
 rw[e,e,h.OW]
theorem Bi.outM (h:Bi m m'):BD p m'=BD p m:=by
 have a:=h.going;unfold Go.Proofs.YtdcacoifehkioaaGreatDoor.BD Bb;rw[h.v,h.f,a]
theorem Bi.failed (h:Bi m m'):Bf m'=Bf m:=by
 unfold Bf;have e:∀l:List TS,l.any (λth=>th.ph == 3)=(l.map λth=>th.ph).any (λx=>x == 3):=λl=>by rw[List.any_map];rfl
 rw[e,e,h.OW]
theorem Sg.ended (h:Sg nv nf nl p.C m m'):GR p.C m'=GR p.C m:=by unfold GR;rw[h.sim.ready h.ok]
theorem F2.left {A B:Type} {R:A->B->Prop} {l:List A} {r:List B} (h:F2 R l r) {a:A} (c:a∈l):∃b,b∈r/\R a b:=by
 induction h with
 |nil=>cases c
 |cons q _ f=>
  rcases XL.1 c with rfl|c
  ·exact⟨_,Yc ..,q⟩
  ·obtain⟨b,e,d⟩:=f c
   exact⟨b,Yk _ e,d⟩
theorem F2.right {A B:Type} {R:A->B->Prop} {l:List A} {r:List B} (h:F2 R l r) {b:B} (c:b∈r):∃a,a∈l/\R a b:=by
 induction h with
 |nil=>cases c
 |cons q _ f=>
  rcases XL.1 c with rfl|c
  ·exact⟨_,Yc ..,q⟩
  ·obtain⟨a,e,d⟩:=f c
   exact⟨a,Yk _ e,d⟩
theorem F2.any {A B:Type} {R:A->B->Prop} {f:A->Bool} {g:B->Bool} (c:∀a b,R a b->g b=f a) {l:List A} {r:List B} (h:F2 R l r):r.any g=l.any f:=by
 induction h with
 |nil=>rfl
 |cons q _ d=>rw[ZM,ZM,d,c _ _ q]
theorem Mm:∀{l r:List Int},l.Pairwise (λa b=>a<b)->r.Pairwise (λa b=>a<b)->(∀x,x∈l↔x∈r)->l=r
 |[],[],_,_,_=>rfl
 |[],b::r,_,_,h=>absurd ((h b).2 (Yc ..)) (by simp)
 |a::l,[],_,_,h=>absurd ((h a).1 (Yc ..)) (by simp)
 |a::l,b::r,h1,h2,h=>by
  have⟨f,o⟩:=Zh.1 h1;have⟨i,n⟩:=Zh.1 h2;have e:a=b:=by
   rcases XL.1 ((h a).1 (Yc ..)) with e|e
   ·exact e
   ·rcases XL.1 ((h b).2 (Yc ..)) with d|d
    ·exact d.symm
    ·have w1:=i a e;have p:=f b d
     omega
  subst e;have g:∀{m:List Int},(∀x,x∈m->a<x)->a∉m:=λj k=>by
   have:=j a k
   omega
  rw[Mm o n λx=>?_];constructor
  ·intro c
   rcases XL.1 ((h x).1 (Yk _ c)) with e|e
   ·subst e;exact absurd c (g f)
   ·exact e
  ·intro c
   rcases XL.1 ((h x).2 (Yk _ c)) with e|e
   ·subst e;exact absurd c (g i)
   ·exact e
theorem Rh (p:PD) (r:List MS) (k:Nat):(Gj p r k).Pairwise (λa b=>a<b):=by
 unfold Gj;refine List.Pairwise.filter _ ?_;rw[List.pairwise_map];exact List.pairwise_lt_range.imp λh=>Int.ofNat_lt.2 h
theorem Pw (p:PD) (r:List MS) (x:Int):x∈Gj p r p.vs.length↔Eb p r x:=by
 unfold Gj Eb;rw[List.mem_filter,List.mem_map,List.any_eq_true];have b:∀m,(Cr x (AU p.C m)).isSome=JM p.C m x:=λm=>by rw[Ou,UB]
 constructor
 ·rintro⟨⟨k,c,rfl⟩,m,a,h⟩;have:=adp.1 c
  exact⟨⟨Int.natCast_nonneg k,Int.ofNat_lt.2 this⟩,m,a,by rw[b];exact h⟩
 ·rintro⟨⟨d,e⟩,m,a,h⟩
  exact⟨⟨x.toNat,adp.2 (by omega),Int.toNat_of_nonneg d⟩,m,a,by rw[<-b];exact h⟩
end
theorem Mx {W:Xg} {g T:Nat} {b e a c d:Xj} (h:W.heap[g]?=some (.cells #[b,e,a,c,d] T)):W.cell? ⟨g,0,none⟩=some b/\W.cell? ⟨g,1,none⟩=some e/\W.cell? ⟨g,2,none⟩=some a/\W.cell? ⟨g,3,none⟩=some c/\W.cell? ⟨g,4,none⟩=some d:=
 ⟨by simp[Xh,h],by simp[Xh,h],by simp[Xh,h],by simp[Xh,h],by simp[Xh,h]⟩
theorem Ae.NE {S:Nat->Prop} {u v b:Xg} (h:Ae S u v) (a:Below v.heap.size v b):Ae S u b:=
 ⟨a.os.trans h.os,a.tape.trans h.tape,a.output.trans h.output,Xu h.size a.size,λk c d=>(a.block k (Nat.lt_of_lt_of_le c h.size)).trans (h.block k c d)⟩
theorem Ae.below {u v:Xg} {rb B:Nat} (h:Ae (λk=>k=rb) u v) (a:B<=rb) (c:B<=u.heap.size):Below B u v:=⟨h.os,h.tape,h.output,h.size,λk b=>h.block k (by omega) (by omega)⟩
structure Fj (w:Xg) (base:Nat) (vV fV lV thV qv qf ql qt:Xj) (vs fs ls:List Tx) (L:List (Tx×Xj)) (C:List (List Ac)) (P:RP) (TV:List (Xj×Xj)) (nv nf nl nt:Nat):Prop where
 prog:Bz w base vV fV lV thV vs fs ls L C
 doc:Ie w qv qf ql qt P TV
 lv:vs.length=nv
 lf:fs.length=nf
 ll:ls.length=nl
 lt:L.length=nt
 pv:P.vs.length=nv
 pf:P.fs.length=nf
 pl:P.ls.length=nl
 pt:P.thr.length=nt
 code:Kv P=C
 pd:OZ P=Al vs fs ls L C
 b:Gu vs fs ls L C
 fit:BL (Al vs fs ls L C)
 n8:DK (Al vs fs ls L C)
 cl:C.length=nt
section
variable {w w':Xg} {base:Nat} {vV fV lV thV qv qf ql qt:Xj} {vs fs ls:List Tx} {L:List (Tx×Xj)} {C:List (List Ac)} {P:RP} {TV:List (Xj×Xj)} {nv nf nl nt:Nat}
theorem Fj.below (h:Fj w base vV fV lV thV qv qf ql qt vs fs ls L C P TV nv nf nl nt) (a:Below w.heap.size w w'):Fj w' base vV fV lV thV qv qf ql qt vs fs ls L C P TV nv nf nl nt:={h with prog:=h.prog.below a,doc:=h.doc.below a}
theorem Fj.four (h:Fj w base vV fV lV thV qv qf ql qt vs fs ls L C P TV nv nf nl nt):nv<=4/\nf<=4/\nl<=4/\nt<=4:=by
 have a:vs.length<=4:=h.fit.v;have b:fs.length<=4:=h.fit.f;have c:ls.length<=4:=h.fit.l;have d:C.length<=4:=h.fit.fit.four;have:=h.lv;have:=h.lf;have:=h.ll;have:=h.cl
 omega
theorem SM {t:Tx} {s:PS} (B:Bk t = .ok (s,C)) (c:Bz w base vV fV lV thV (s.nms 118) (s.nms 102) (s.nms 109) L C) (n:L.map Prod.fst=s.nms 116) (d:CX w base qv qf ql qt P TV) (h:P.vs=s.nms 118) (o:P.fs=s.nms 102) (e:P.ls=s.nms 109) (z:P.names=s.nms 116) (x:(P.thr.map λth=>th.code.map RI.i)=C) :
 ∃nv nf nl nt va fa la ta vc fc lc tc j g p u k m r q,vV = .slice va nv vc/\fV = .slice fa nf fc/\lV = .slice la nl lc/\thV = .slice ta nt tc/\qv = .slice j nv k/\qf = .slice g nf m/\ql = .slice p nl r/\qt = .slice u nt q/\Fj w base vV fV lV thV qv qf ql qt (s.nms 118) (s.nms 102) (s.nms 109) L C P TV nv nf nl nt:=by
 obtain⟨va,vc,E⟩:=At c.v;obtain⟨fa,fc,J⟩:=At c.f;obtain⟨la,lc,K⟩:=At c.l;obtain⟨ta,tc,F⟩:=At c.t;obtain⟨j,k,A⟩:=At d.v;obtain⟨g,m,D⟩:=At d.f;obtain⟨p,r,M⟩:=At d.l;obtain⟨u,q,I⟩:=At d.t;obtain⟨H,N,G⟩:=QS B n;have y:L.length=P.thr.length:=by
  have a:=congrArg ZW n;have b:=congrArg ZW z;unfold RP.names at b;rw[Xm] at a b;rw[a,b]
 have O:C.length=L.length:=c.len;refine⟨(s.nms 118).length,(s.nms 102).length,(s.nms 109).length,L.length,va,fa,la,ta,vc,fc,lc,tc,j,g,p,u,k,m,r,q,E,J,K,F,by rw[A,h],by rw[D,o],by rw[M,e],by rw[I,y],c,d.view,rfl,rfl,rfl,rfl,by rw[h],by rw[o],by rw[e],y.symm,x,?_,H,N,G,O⟩;unfold OZ Al;rw[h,o,e,z,n];show PD.mk _ _ _ _ (Kv P)=_;unfold Kv;rw[x]
end
def Told (p:PD) (most:Int) (n:Int) (os:List Tx) (st fa:Bool) (rs:List Int) (er:Int):Prop:=
 (¬Ck most/\n=0/\os=[]/\st=false/\fa=false/\rs=[]/\er=8)\/(Ck most/\BS p most.toNat=none/\n=0/\os=[]/\st=false/\fa=false/\rs=[]/\er=4)\/
   (Ck most/\∃l,BS p most.toNat=some l/\n=l.length/\os=Hw p l/\st=EU p.C l/\fa=Gd l/\rs=Gj p l p.vs.length/\er=0)
theorem Told.len {p:PD} {most n g:Int} {e:List Tx} {f fa:Bool} {rs:List Int} (h:Told p most n e f fa rs g) (i:p.vs.length<=4):e.length<=20000/\rs.length<=4:=by
 rcases h with⟨-,-,d,-,-,c,-⟩|⟨-,-,-,d,-,-,c,-⟩|⟨a,l,b,-,d,-,-,c,-⟩
 ·rw[d,c];exact⟨by decide,by decide⟩
 ·rw[d,c];exact⟨by decide,by decide⟩
 ·unfold Ck at a;have k:=Kp (key:=Aj p) (succ:=Dl false p.C) most.toNat _ _ _ (by show 1<=most.toNat;omega) b;have j:=abz p l;have m:=aby p l p.vs.length;rw[d,c]
  omega
theorem SP {w w':Xg} {p:PD} {most:Int} {e:Ending} (h:KS w w' p most e):∃(n:Int) (d f:Option Y7) (c g:Nat) (a:List Tx) (j fa:Bool) (rs:List Int) (o:Int),e = .returned (.tuple #[.agg #[.int .i64 n,.slice d a.length c,.bool j,.bool fa,.slice f rs.length g],.int .i64 o])/\
 w'.ownsRow w.heap.size 9 1 (.slice d a.length c) a.length (a.map λx=>Value.string (bs x))/\w'.ownsRow w.heap.size 3 1 (.slice f rs.length g) rs.length (rs.map EI)/\Told p most n a j fa rs o:=by
 rcases h with⟨b,i,rfl⟩|⟨u,l,y,z,a,rs,r,rfl,m,s,t,k,v,q⟩
 ·refine⟨0,none,none,0,0,[],false,false,[],DB b,rfl,Xy _ _ _ _,Xy _ _ _ _,?_⟩
  cases b with
  |true=>exact .inr (.inl ⟨i.1,i.2,rfl,rfl,rfl,rfl,rfl,rfl⟩)
  |false=>exact .inl ⟨i,rfl,rfl,rfl,rfl,rfl,rfl⟩
 ·obtain⟨d,c,rfl⟩:=At m;obtain⟨f,g,rfl⟩:=At k
  exact⟨l.length,d,f,c,g,a,_,_,rs,0,rfl,m,k,.inr (.inr ⟨u,l,r,rfl,Lt s (Ri p l) λx=>by rw[t,LR],rfl,rfl,Mm v (Rh p l _) λx=>by rw[q,Pw],rfl⟩)⟩
def IB (wr:Xg) (T lo hi:Nat) (a:Option Y7) (n:Nat):Prop:=n=0\/∃g N f,a=some ⟨g,0,none⟩/\Ak wr g T N f/\n<=N/\lo<=g/\g<hi
theorem IB.keep {w w':Xg} {T i d n:Nat} {a:Option Y7} (h:IB w T i d a n) (j:∀(b:Nat) (cs:Array Xj),w.heap[b]?=some (.cells cs T)->w'.heap[b]?=w.heap[b]?):IB w' T i d a n:=by
 rcases h with h|⟨g,N,f,e,c,k⟩
 ·exact .inl h
 ·obtain⟨cs,q,-⟩:=id c;exact .inr ⟨g,N,f,e,c.same (j g cs q),k⟩
theorem IB.below {w w':Xg} {T d c n:Nat} {a:Option Y7} (h:IB w T d c a n) (f:Below w.heap.size w w'):IB w' T d c a n:=h.keep λb _ e=>f.block b (Array.getElem?_eq_some_iff.1 e).1
end Go.Proofs.YtdcacoifehkioaaGreatDoor
