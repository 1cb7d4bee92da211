import Derived.Test.YtdcacoifehkioaaGreatDoorExA21
import Derived.Sort.LoopGhostIn
import Derived.Sort.CutIn
import Derived.Sort.QuietIn
import Derived.Shelf.Abstract
import Derived.Shelf.RegionOpen
import Derived.WalkKit
import Derived.OwnWalkIn
import Derived.TacticsInMore
import Derived.LoopNIn
import Derived.LoopIn
import Derived.Maps.OwnIn
import Derived.Test.YtdcacoifehkioaaGreatDoorExA20
open Go renaming Value->Xk,World->Xh,callsIn_wide->X1,heap_setCell_other->Xt,bodyPost_ret->XI,results_none->ZZ
open Go.Fence renaming wide->Ym
open Array renaming getElem?_eq_some_iff->Xa,replicate_succ->YP,replicate_zero->YQ
open List renaming range->YB,map_append->XH,take_zero->agp,take_add_one->Yo,getElem?_take->Zf,getElem?_eq_getElem->Xe,getElem?_eq_some_iff->Xf,getElem?_map->Xs,getD_eq_getElem?_getD->Xc,length_take->Yc,size_toArray->Yt,length_cons->XJ,length_nil->X2,push_toArray->Zc,append_toArray->YX,nil_append->YW,cons_append->YG,length_map->Xp,drop_eq_getElem_cons->X4,find?_append->afu
open Nat renaming lt_succ_self->Xo,lt_irrefl->aft,le_refl->Xd,zero_le->Xx,le_trans->Xu,sub_lt_sub_left->Xl,reduceAdd->Zp,reduceSub->ZQ
open Go.World renaming cell?_of_block->Xw,alloc_heap_new->Xi,frozen?->XM,cell?->Xg
open Go.RowKit renaming wrap64->XN,Below->Xm
open Go.RowKit.Below renaming refl->Xq
set_option maxRecDepth 100000
set_option maxHeartbeats 4000000
set_option linter.unusedVariables false
set_option linter.unusedSimpArgs false
namespace Go.Proofs.YtdcacoifehkioaaGreatDoor
open Go.RowKit
theorem Uo {m:Nat} (d:Nat) {P:Program} {l:Nat} {args:Array Xk} {W:Xh} {R:Ending->Xh->Prop} (h:YieldAt Ym m P l args W R):YieldAt Ym d P l args W R:=by
 obtain⟨fn,tmps,e,body,b,a⟩:=h
 exact⟨fn,tmps,e,body,b,a.1,λc cs _=>a.2 c cs (room_wide _)⟩
theorem IS.any {α:Type} {n:Nat} (m:Nat) {P:Program} {g:Nat} {lb:Array Xk} {b:α->Array Xk} {a:AO} {E:List α->α->AO->Xh->Prop} {S:List α->AO->Xh->Prop} {c:List α->Prop} {w:Xh} (h:IS Ym n P g lb b a E S c w):IS Ym m P g lb b a E S c w:=
 λl J j W d o f t p s k=>X1.2 (X1.1 (h l J j W d o f t p (λi x O r e q=>Uo _ (s i x O r e q)) k))
end Go.Proofs.YtdcacoifehkioaaGreatDoor
namespace Go.Proofs.YtdcacoifehkioaaGreatDoor
open Go.RowKit Go.Shelf Go.Proofs.Cod
inductive XS where
 |st (r:Ag)
 |er (b:Bool)
def CJ (eV:Bool->Xk):XS->Array Xk
 |.st r => #[Ab r.b,.nilIface]
 |.er b => #[.pointer none,eV b]
def EC (p:PD):MS:=AJ p.vs.length p.fs.length p.ls.length p.C.length
def CS (p:PD) (most:Nat):Option (List MS):=Cq (Aj p) (By false p.C) most (most+1) [EC p] 0
def BV (most:Int):Prop:=1<=most/\most<=20000
structure IR (p:PD) (r:Ag) (O:AO) (W:Xh):Prop where
 ok:CY p r.m
 st:∃nx,AY W r.b (.pointer none) (Aj p r.m) (Ay r.m) (Bt r.m) r.mo (DL r.fr) r.y nx
 mo:∃base,W.ownsRow base 48 4 r.mo (Bh p.C r.m).length ((Bh p.C r.m).flatMap Eb)
 nb:¬O r.b
 nm:∀x,r.mo.ownBlock=some x->¬O x
def Gx (p:PD) (most:Int) (pre:List XS) (x:XS) (O:AO) (W:Xh):Prop:=match x with
 |.st r=>pre.length<20000/\IR p r O W
 |.er false=>¬BV most
 |.er true=>BV most/\CS p most.toNat=none
def IC (p:PD) (most:Int) (xs:List XS) (O:AO) (W:Xh):Prop:=(∃pre e,xs=pre++[.er e])\/
 (BV most/\∃base fb kb R,xs=R.map XS.st/\FW W p base fb kb R R.length 0/\(∀x,DG fb kb R R.length x->¬O x)/\CS p most.toNat=some (R.map Ag.m))
theorem IR.lt {p:PD} {r:Ag} {O:AO} {W:Xh} (h:IR p r O W):r.b<W.heap.size:=by
 obtain⟨nx,q⟩:=h.st
 exact(Xa.1 q).1
theorem IR.same {p:PD} {r:Ag} {O c:AO} {W a:Xh} (h:IR p r O W) (d:a.heap[r.b]?=W.heap[r.b]?) (f:∀x,r.mo.ownBlock=some x->a.heap[x]?=W.heap[x]?) (e:¬c r.b) (nm:∀x,r.mo.ownBlock=some x->¬c x):IR p r c a:=by
 refine⟨h.ok,?_,?_,e,nm⟩
 ·obtain⟨nx,q⟩:=h.st
  exact⟨nx,d.trans q⟩
 ·obtain⟨base,q⟩:=h.mo
  exact⟨base,DW q f⟩
theorem Py {p:PD} {most:Int} (e:List XS) (x:XS) (O:AO) (W:Xh) (g:AO) (f:Xh) (h:Gx p most e x O W) (c:Steps O W g f):Gx p most e x g f:=by
 cases x with
 |st r=>
  obtain⟨i,h⟩:=h;obtain⟨base,q⟩:=h.mo;refine⟨i,h.same (c.rest r.b h.lt h.nb) (λx a=>c.rest x (q.lt x a).2 (h.nm x a)) (λd=>?_) (λx a d=>?_)⟩
  ·rcases c.fresh _ d with z|z
   ·exact h.nb z
   ·have:=h.lt;omega
  ·rcases c.fresh _ d with z|z
   ·exact h.nm x a z
   ·have:=(q.lt x a).2;omega
 |er b=>cases b<;>exact h
theorem Pz {p:PD} {most:Int} (c:List XS) (x:XS) (O d:AO) (W:Xh) (h:Gx p most c x O W) (a:∀b,d b->O b):Gx p most c x d W:=by
 cases x with
 |st r=>exact⟨h.1,h.2.same rfl (λ_ _=>rfl) (λz=>h.2.nb (a _ z)) (λx e z=>h.2.nm x e (a _ z))⟩
 |er b=>cases b<;>exact h
theorem Pu {p:PD} {most:Int} (f:List XS) (O:AO) (W a:Xh) (h:IC p most f O W) (_:W.heap.size<=a.heap.size) (g:∀b,b<W.heap.size->¬O b->a.heap[b]?=W.heap[b]?):IC p most f O a:=by
 rcases h with h|⟨k,base,i,l,R,m,d,c,j⟩
 ·exact .inl h
 ·exact .inr ⟨k,base,i,l,R,m,d.same (λx e=>g x (d.lt e) (c x e)),c,j⟩
theorem Pv {p:PD} {most:Int} (c:List XS) (O a:AO) (W:Xh) (h:IC p most c O W) (d:∀b,a b->O b):IC p most c a W:=by
 rcases h with h|⟨j,base,e,k,R,m,i,f,g⟩
 ·exact .inl h
 ·exact .inr ⟨j,base,e,k,R,m,i,λx l z=>f x l (d x z),g⟩
def Ow (p:PD) (most base fb kb:Nat) (J:List XS->AO->Xh->Prop) (n:Nat) (iv:Xk) (wr:Xh):Prop:=
 ∃(i:Nat) (R:List Ag) (O:AO),n+i=most+1/\iv=DL ((R[i]?).map Ag.b)/\i<=R.length/\R.length<=most/\FW wr p base fb kb R i 0/\(∀x,DG fb kb R i x->¬O x)/\J ((R.take i).map XS.st) O wr/\Cq (Aj p) (By false p.C) most n (R.map Ag.m) i=CS p most
theorem ac2 (nv nf nl nt:Nat):(Ay (AJ nv nf nl nt):Int)=min (nt:Int) 1/\Bt (AJ nv nf nl nt)=false:=by
 have b:∀n,((YB n).map λt=>if t=0 then({AC with ph:=1}:TS) else AC).countP (λth=>th.ph == 1)=min n 1/\((YB n).map λt=>if t=0 then({AC with ph:=1}:TS) else AC).any (λth=>th.ph == 3)=false:=by
  intro n
  induction n with
  |zero=>exact⟨rfl,rfl⟩
  |succ n a=>
   rw[List.range_succ,XH,List.countP_append,List.any_append,a.1,a.2]
   cases n with
   |zero=>exact⟨rfl,rfl⟩
   |succ n=>
    have e:[n+1].map (λt=>if t=0 then({AC with ph:=1}:TS) else AC)=[AC]:=by simp
    rw[e];refine⟨?_,rfl⟩;show min (n+1) 1+0=_
    omega
 constructor
 ·show (((((YB nt).map λt=>if t=0 then({AC with ph:=1}:TS) else AC).countP λth=>th.ph == 1:Nat)):Int)=_;rw[(b nt).1]
  omega
 ·exact(b nt).2
theorem FW.start {w:Xh} {p:PD} {base d c sb mb:Nat} (i:Eh w d (Ab sb) sb c) (k:AY w sb (Ab mb) (Aj p (EC p)) (Ay (EC p)) (Bt (EC p)) (.slice none 0 0) (.pointer none) 0 (.pointer none)) (l:AA sk w c (Bv (λ_=>none) (Aj p (EC p)) (.agg #[])) 1) (m:Bn w mb p (EC p)) (b:base<=d/\base<=sb/\base<=c/\base<=mb) :
 FW w p base d c [⟨sb,EC p,mb,none,0,.slice none 0 0⟩] 0 0:=by
 have a:∀(j:Nat) (r:Ag),([⟨sb,EC p,mb,none,0,.slice none 0 0⟩]:List Ag)[j]?=some r->j=0/\r=⟨sb,EC p,mb,none,0,.slice none 0 0⟩:=λj r h=>by
  cases j with
  |zero=>cases h;exact⟨rfl,rfl⟩
  |succ j=>cases h
 refine⟨⟨_,_,rfl,rfl,i⟩,⟨_,l,λx u h=>?_,λx=>?_⟩,λj r h=>?_,λj r h _=>?_,λj r h=>?_,λj r h _=>?_,λj r h=>?_,λj g r r' h f _=>?_,λj g r r' x h f _ _=>?_,⟨b.1,b.2.2.1,λj r h=>?_⟩,λj r h=>?_⟩
 ·unfold Bv at h
  by_cases e:x=Aj p (EC p)
  ·rw[if_pos e] at h;cases h;rfl
  ·rw[if_neg e] at h;cases h
 ·unfold Bv Ge
  by_cases e:x=Aj p (EC p)
  ·rw[if_pos e];simp[e]
  ·rw[if_neg e];simp[e]
 ·obtain⟨rfl,rfl⟩:=a j r h;exact k
 ·obtain⟨rfl,rfl⟩:=a j r h;exact m
 ·obtain⟨rfl,rfl⟩:=a j r h;rw[Nd,agp];exact World.ownsRow_nil w base 48 4
 ·obtain⟨rfl,rfl⟩:=a j r h
  rfl
 ·obtain⟨rfl,rfl⟩:=a j r h;exact JZ _ _ _ _
 ·rw[(a j r h).1,(a g r' f).1]
 ·rw[(a j r h).1,(a g r' f).1]
 ·obtain⟨rfl,rfl⟩:=a j r h
  exact⟨b.2.1,b.2.2.2⟩
 ·obtain⟨rfl,rfl⟩:=a j r h;exact .inl ⟨rfl,rfl,rfl⟩
theorem Cn.same {w w':Xh} {B:Nat} (h:Cn w B) (b:∀x,x<B->w'.heap[x]?=w.heap[x]?):Cn w' B:=by
 have c:=h.lt;refine⟨?_,?_,?_,c⟩
 ·obtain⟨fr,q⟩:=h.heads
  exact⟨fr,(b _ (by show 2<B;omega)).trans q⟩
 ·obtain⟨fr,q⟩:=h.shapes
  exact⟨fr,(b _ (by show 3<B;omega)).trans q⟩
 have a:=h.pow;unfold Lib.TabIs World.var? at a |-;rw[Tryz.powG] at a |-;simp only[Option.bind_some] at a |-;rw[b 5 (by omega)];exact a
theorem Hx.abl {wr u:Xh} {p:PD} {base f k i:Nat} {R R':List Ag} {m:MS} (h:Hx wr u p base f k R i m R') {O:AO} (r:∀b,O b->b<wr.heap.size) (c:∀x,DG f k R i x->¬O x):∀x,DG f k R' (i+1) x->¬O x:=by
 rintro x (rfl|rfl|⟨j,q,g,a⟩)
 ·exact c x (.inl rfl)
 ·exact c x (.inr (.inl rfl))
 ·rcases h.ext.new j q g with⟨o,d⟩|⟨z1,z2,z3⟩
  ·obtain⟨v,n,l,t⟩:=h.ext.old j o d;rw[g] at n
   cases n
   rcases a with rfl|⟨s,rfl⟩|a
   ·exact c _ (.inr (.inr ⟨j,o,d,.inl l.1⟩))
   ·exact c _ (.inr (.inr ⟨j,o,d,.inr (.inl ⟨by omega,l.2.2.1⟩)⟩))
   ·by_cases e:j=i
    ·subst e;have:=h.mo q x g a;intro z;have:=r x z
     omega
    ·rw[t e] at a;exact c _ (.inr (.inr ⟨j,o,d,.inr (.inr a)⟩))
  ·intro z;have w:=r x z
   rcases a with rfl|⟨s,rfl⟩|a
   ·omega
   ·omega
   ·rw[z3] at a;cases a
theorem Hx.take {wr g:Xh} {p:PD} {base a d i:Nat} {R R':List Ag} {m:MS} {r':Ag} (h:Hx wr g p base a d R i m R') (k:i<R.length) (f:R'[i]?=some r'):R'.take (i+1)=R.take i++[r']:=by
 rw[Yo,f]
 congr 1
 apply List.ext_getElem?
 intro j;rw[Zf,Zf]
 by_cases e:j<i
 ·rw[if_pos e,if_pos e];obtain⟨q,c,-,b⟩:=h.ext.old j R[j] (Xe (by omega));rw[c,b (by omega),Xe (by omega)]
 ·rw[if_neg e,if_neg e]
theorem Hx.stE {wr e:Xh} {p:PD} {base b d i:Nat} {R R':List Ag} {m:MS} {r':Ag} (h:Hx wr e p base b d R i m R') (a:R'[i]?=some r') {O:AO} (c:∀x,DG b d R' (i+1) x->¬O x):IR p r' O e:=by
 refine⟨h.fw.ok i r' a,⟨_,by have:=h.fw.st i r' a;rw[if_pos (Xo i)] at this;exact this⟩,⟨base,?_⟩,c _ (.inr (.inr ⟨i,r',a,.inl rfl⟩)),λx f=>c _ (.inr (.inr ⟨i,r',a,.inr (.inr f)⟩))⟩;have:=h.fw.mo i r' a;unfold Fx at this;rw[if_pos (Xo i)] at this;exact this
theorem ac7 {w:Xh} {B base J M i:Nat} {p:PD} {R:List Ag} {r:Ag} (ht:Cn w B) (hB:B<=base) (ak:base<=w.heap.size) (D:CK p) (S:Eg p) (h:FW w p base J M R i 0) (F:R[i]?=some r) :
 Calls Tryz.prog 55 #[Ab J,Ab r.b] w λe w'=>e = .returned (.tuple #[])/\∃R',Hx w w' p base J M R i r.m R':=by
 have hS:=h.st i r F;rw[if_neg (aft _)] at hS;obtain⟨c0,-⟩:=DO hS;have au:=WU (h.ma i r F (Xd _)) D (h.ok i r F);have O:=(Xf.1 F).1;have N:(AP p.C r.m).length<=4:=by
  have:=Je p.C r.m r.m.thr.length;have e:=(h.ok i r F).tl;have:=D.fit.four;unfold AP
  omega
 obtain⟨m,s⟩:∃x,r.m=x:=⟨_,rfl⟩;obtain⟨rb,G⟩:∃x,r.b=x:=⟨_,rfl⟩;obtain⟨mb,K⟩:∃x,r.mb=x:=⟨_,rfl⟩;rw[s] at au N;rw[G,K] at c0;rw[K] at au;rw[G,s];obtain⟨l,n⟩:∃x,AP p.C m=x:=⟨_,rfl⟩;rw[n] at au N;have HP:=Aa (⟨ht,hB,ak,D,S,h,F,O,s,G,K,n,N⟩:_/\_/\_/\_/\_/\_/\_/\_/\_/\_/\_/\_/\_);clear ht hB ak D S h F O s G K n hS N;unfold Ab at au c0 |-
 go_enter Tryz.func55,Tryz.ntmps55
 go_wp2_with fail
 refine au.mono ?_;rintro e w1 ⟨v,rfl,aP,aU⟩;clear au c0;obtain⟨ra,rc,rfl⟩:=As aP;have hz:Hid (∀k,k<l.length->∃g,ra=some ⟨g,0,none⟩/\w.heap.size<=g/\g<w1.heap.size/\w1.cell? ⟨g,k,none⟩=some (.int .i64 (l.getD k 0))):=λk hk=>by
  rcases id aP.2 with⟨e,e2⟩|⟨g,cap,b9,e,h1,h2,-⟩
  ·omega
  ·injection e with e _ _
   subst e;refine⟨g,rfl,h1,(Xa.1 h2).1,?_⟩;have:=aP.cellAt k (by omega);rw[this,Xs,Xe hk,Xc,Xe hk]
   rfl
 have d:LI w1 w1 p base J M R i m 0 0 R:=by
  obtain⟨ht,hB,ak,D,S,h,F,O,s,G,K,n,N⟩:=HP.out;refine⟨h.below aU,by rw[agp];rfl,Gs.refl _ _ _,λq x c H=>?_,Ac.refl _⟩;rw[h.mn i q c (.inr ⟨rfl,rfl⟩)] at H
  cases H
 have H1:=Aa (⟨d,aU⟩:_/\_);clear d aU aP
 go_wp2_with fail
 go_loopw [15] (λiv wr=>∃(k:Nat) (R':List Ag),k<=l.length/\iv = .int .i64 k/\LI w1 wr p base J M R i m k k R') (λiv _=>l.length - (intOf iv).toNat)
 case atStart=>exact⟨0,R,Xx _,rfl,H1.out.1⟩
 case round=>
  obtain⟨k,R',hk,rfl,d⟩:=hrel;obtain⟨ht,hB,ak,D,S,h,F,O,s,G,K,n,N⟩:=HP.out;obtain⟨q,c,E,-⟩:=d.ext.old i r F;have ax:=d.fw.st i q c;rw[if_neg (aft _),E.1,E.2.1,E.2.2.1,G,s,K] at ax;obtain⟨c0,-⟩:=DO ax;unfold Ab at c0
  by_cases h5:k<l.length
  ·obtain⟨g,rfl,bQ,bj,ca⟩:=hz.out k h5;have bf:wr.cell? ⟨g,k,none⟩=_:=(Xw (w:=w1) (a:=⟨g,k,none⟩) (d.kp.block g bj (λe=>by
    have I:∀x,DG J M R i x->x<w.heap.size:=λx H=>h.lt H
    rcases e with rfl|rfl|⟨j,o,ho,rfl⟩
    ·have:=I g (.inl rfl);omega
    ·have:=I g (.inr (.inl rfl));omega
    ·have:=I o.b (.inr (.inr ⟨j,o,ho,.inl rfl⟩));omega))).trans ca
   have cd:(k:Int)<(l.length:Int):=by omega
   obtain⟨t,aM⟩:∃x,l.getD k 0=x:=⟨_,rfl⟩;rw[aM] at bf;clear ca;have I:l[k]?=some t:=by rw[<-aM,Xc,Xe h5];rfl
   have aw:=d.fw.ma i q c (Xd _);rw[E.2.1,E.2.2.1,s,K] at aw;have hC:=aeh aw;have ai:=d.fw.ok i q c;rw[E.2.1,s] at ai;have ao:AV p.C m t=0:=by rw[<-n] at I;exact Ia (List.mem_of_getElem? I)
   have aS:=fun(w2:Xh) (av:Bn w2 wr.heap.size p m)=>Vs av D ai t;have bz:XN ((k:Int)+1)=(k:Int)+1:=by unfold XN;omega
   have HO:=Aa (⟨d,c,E,aw,ao,I,h5,N,ai⟩:_/\_/\_/\_/\_/\_/\_/\_/\_);replace aS:=Aa aS;replace aM:=Aa aM;unfold Ab at hC;clear d c E aw ao I h5 N ai ht hB ak D S h F O s G K n ax hk bQ bj
   go_wp2_with fail
   refine hC.mono ?_;rintro e w2 ⟨rfl,av,X⟩;have aK:=aS.out w2 av;unfold Ab at aK;replace X:=Aa X;replace av:=Aa av;clear hC aS c0 bf;obtain⟨mB,an⟩:∃x,wr.heap.size=x:=⟨_,rfl⟩;rw[an] at aK |-;replace an:=Aa an
   go_wp2_with fail
   refine aK.mono ?_;rintro e w3 ⟨rfl,aE,aq⟩;obtain⟨d,c,E,aw,ao,I,h5,N,ai⟩:=HO.out;obtain⟨ht,hB,ak,D,S,h,F,O,s,G,K,n,-⟩:=HP.out;have e3:JG p.C m t=AB false p.C m t:=by unfold JG;rw[if_pos ao]
   rw[e3] at aE |-;rw[ao];have aO:Xm wr.heap.size wr w3:=⟨aq.os.trans X.out.os,aq.tape.trans X.out.tape,aq.output.trans X.out.output,Xu X.out.size aq.size,λx H=>(aq.block x (by have:=X.out.size;omega) (by have:=an.out;omega)).trans (X.out.block x H)⟩;obtain⟨ev,aJ⟩:∃x,(AB false p.C m t).2=x:=⟨_,rfl⟩;obtain⟨m',aL⟩:∃x,(AB false p.C m t).1=x:=⟨_,rfl⟩;rw[aJ];rw[aL] at aE;obtain⟨Y,T,U,Q⟩:=ev;obtain⟨u,ay⟩:∃x,w3.alloc (.cells #[.int .i64 Y,.int .i64 T,.int .i64 U,.int .i64 Q] 48)=x:=⟨_,rfl⟩;have aN:Xm w3.heap.size w3 u:=by rw[<-ay];exact(Xq _ _).alloc (Xd _) _
   have kE:u.heap[w3.heap.size]?=some (.cells #[.int .i64 Y,.int .i64 T,.int .i64 U,.int .i64 Q] 48):=by rw[<-ay];exact Xi w3 _
   obtain⟨eb,aA⟩:∃x,w3.heap.size=x:=⟨_,rfl⟩;rw[aA] at kE;have aX:Xm wr.heap.size wr u:=aO.trans (aN.mono aO.size);have hd:Xm u.heap.size u u.drew:=⟨rfl,rfl,rfl,Xd _,λ_ _=>rfl⟩;have az:=(d.below (r:=⟨rb,m,mb,none,0,.slice none 0 0⟩) (aX.trans (hd.mono aX.size)));have A:q.m=m:=E.2.1.trans s;have ab:q.b=rb:=E.1.trans G;have bv:(Bh p.C q.m)[k]?=some ⟨Y,T,U,Q⟩:=by rw[A,<-aJ];exact abk (by rw[n];exact I)
   have aR:=az.fw.mo i q c;rw[Nd] at aR;have aQ:((Bh p.C q.m).take k).length=k:=by rw[Yc,Ng,A,n];omega
   have bI:base<=u.drew.heap.size:=by have:=az.kp.size;have:=H1.out.2.size;omega
   obtain⟨gg,b0,W,ad,a4,aC,bx⟩:=adN aR ⟨Y,T,U,Q⟩ (by omega) bI;obtain⟨nv,aF⟩:∃x,Value.slice (some ⟨gg,0,none⟩) (((Bh p.C q.m).take k).length+1) b0=x:=⟨_,rfl⟩;rw[aF] at ad a4;have Z:=LI.push (r:=q) (by rw[A];exact az) c O bv aC a4 (λx H=>by rw[<-aF] at H;cases H;exact bx);obtain⟨P,aj⟩:∃x,W.setCell ⟨rb,4,none⟩ nv=x:=⟨_,rfl⟩;have bE:W.setCell ⟨q.b,4,none⟩ nv=P:=by rw[ab];exact aj
   rw[bE] at Z;clear bE;have aB:=az.fw.st i q c;rw[ab] at aB;have bD:rb<u.heap.size:=(Xa.1 aB).1;obtain⟨bV,b1,bg,bS⟩:=az.fw.kinds;have a5:W.heap[rb]?=u.heap[rb]?:=aC.block rb bD (λz=>((bg i i q q c c).2 _ z).1 ab.symm);obtain⟨-,-,-,-,bl,-⟩:=DO aB;have c4:u.cell? ⟨rb,4,none⟩=some q.mo:=bl;clear bl;have d4:W.cell? ⟨rb,4,none⟩=some q.mo:=(Xw (w:=u) (a:=⟨rb,4,none⟩) a5).trans c4;have f4:W.frozen? ⟨rb,4,none⟩=false:=by
    have z:=a5.trans aB;simp[XM,z]
   have bT:=d.kp.size;have bO:=aO.size;have b5:wr.heap.size<=eb:=by omega
   have ba:∀x,q.mo.ownBlock=some x->x<wr.heap.size:=λx H=>((d.fw.mo i q c).lt x H).2;have bG:eb<u.heap.size:=(Xa.1 kE).1;have bU:rb<wr.heap.size:=by have:=d.fw.lt (.inr (.inr ⟨i,q,c,.inl rfl⟩):DG J M R' i q.b);omega
   have k5:P.heap[eb]?=some (.cells #[.int .i64 Y,.int .i64 T,.int .i64 U,.int .i64 Q] 48):=by
    rw[<-aj,Xt W ⟨rb,4,none⟩ eb _ (by show eb≠rb;omega)]
    exact(aC.block eb bG (λz=>by have:=ba eb z;omega)).trans kE
   obtain⟨x0,x1,x2,x3⟩:=Ea kE;obtain⟨y0,y1,y2,y3⟩:=Ea k5;have bc:Bn P mB p m':=by
    have a:=aE.below aN;have cb:=aE.lt;refine(a.same (w':=W) (aC.block mB (by show mB<u.heap.size;have:=aN.size;omega) (λz=>by have:=ba mB z;have:=an.out;omega))).same ?_;rw[<-aj];exact Xt W ⟨rb,4,none⟩ mB _ (by show mB≠rb;have:=an.out;omega)
   have aY:=(IE c nv i).trans (if_pos rfl);have a3:=Z.fw.st i _ aY;have bd:AY P rb (Ab q.mb) (Aj p q.m) (Ay q.m) (Bt q.m) nv (DL q.fr) q.y (Fe (R'.set i {q with mo:=nv}) i):=by
    rw[if_neg (aft _)] at a3;rw[<-ab];exact a3
   clear a3;obtain⟨r0,f,g0,gl,bB⟩:=Z.fw.fo;obtain⟨fk,br,hU,bH⟩:=Z.fw.km;have aT:=Z.fw.st _ f gl;have bo:Fe (R'.set i {q with mo:=nv}) ((R'.set i {q with mo:=nv}).length - 1) = .pointer none:=by
    unfold Fe;rw[List.getElem?_eq_none (by omega)];rfl
   rw[bo] at aT;obtain⟨b2,bb⟩:=QU D.fit ai ao;rw[aL] at bb;have bm:Cn P B:=by
    refine ht.keep ((H1.out.2.mono (by omega)).trans (Z.kp.aeB (λx H=>?_) (by have:=H1.out.2.size;omega)))
    rcases H with rfl|rfl|⟨j,o,ho,rfl⟩
    ·have:=h.lo.1;omega
    ·have:=h.lo.2.1;omega
    ·have:=(h.lo.2.2 j o ho).1;omega
   have be:B<=P.heap.size:=by have:=Z.kp.size;have:=H1.out.2.size;omega
   have hA:=aeW bm be bB br bd (by rw[A];exact ac3 ai D.fit.four) aT bc D bb S hU ⟨Y,T,U,Q⟩;have ad:(Builtin.append_ #[73,73] 73 #[q.mo,.slice (some ⟨u.heap.size,0,none⟩) 1 1]).run Tryz.prog (u.alloc (.cells #[.int .i64 Y,.int .i64 T,.int .i64 U,.int .i64 Q] 48)).drew = .ok nv W:=ad;have bF:Hid (∀w6,Mm P w6 J f.b M rb mB (Ab r0.b) fk (R'.set i {q with mo:=nv}).length (Aj p m') (Ay q.m) (Bt q.m) (if (R'.set i {q with mo:=nv}).length - 1<i then .pointer none else Ab f.mb) f.mo (DL f.fr) (Aj p f.m) (Ay f.m) f.y (Bt f.m) ⟨Y,T,U,Q⟩->k+1<=l.length/\∃ar,LI w1 w6 p base J M R i m (k+1) (k+1) ar):=λw6 ap=>by
    have e1:(AB false p.C q.m t).1=m':=by rw[A];exact aL
    have e2:(AB false p.C q.m t).2=⟨Y,T,U,Q⟩:=by rw[A];exact aJ
    obtain⟨ar,z⟩:=LI.add (w1:=w1) (V:=P) (V6:=w6) (r:={q with mo:=nv}) (t:=t) (k:=k+1) (ks:=k) Z D aY (show (AP p.C q.m)[k]?=some t by rw[A,n];exact I) (by have:=H1.out.2.size;omega) gl g0 hU bH (mB:=mB) (show Bn P mB p (AB false p.C q.m t).1 by rw[e1];exact bc) (by have:=an.out;omega)
     (by show Mm P w6 J f.b M q.b mB (Ab r0.b) fk (R'.set i {q with mo:=nv}).length (Aj p (AB false p.C q.m t).1) (Ay q.m) (Bt q.m) (if (R'.set i {q with mo:=nv}).length - 1<i then .pointer none else Ab f.mb) f.mo (DL f.fr) (Aj p f.m) (Ay f.m) f.y (Bt f.m) (AB false p.C q.m t).2
         rw[e1,e2];rw[<-ab] at ap;exact ap)
    have z:LI w1 w6 p base J M R i q.m (k+1) (k+1) ar:=z;rw[A] at z
    exact⟨h5,ar,z⟩
   obtain⟨b7,a9⟩:∃x,q.mo=x:=⟨_,rfl⟩;rw[a9] at c4 d4 ad;obtain⟨ma,mc,bt⟩:=As aR;rw[a9] at bt;subst bt;rw[aQ] at c4 d4 ad;rw[<-aF,aQ] at ad;rw[<-aF,aQ] at aj;replace aj:=Aa aj;replace ay:=Aa ay;replace aA:=Aa aA;unfold Er Ab at hA;dsimp only at hA;unfold Er;clear d c E aw ao I h5 N ai ht hB ak D S h F O s G K n aE aq e3 aO aN kE aX hd az A ab bv aR aQ bI a4 aC bx aF Z aB bV b1 bg bS a5 bT bO b5 ba bU k5 bc aY bd g0 gl bB hU bH br aT bo b2 bb bm be a9 HO HP aK X av aJ aL
   go_upto_region 5 with fail
   try rw[ay.out]
   try rw[aA.out]
   clear ay aA
   go_region_law (refine FV rfl _ _ _ rfl rfl rfl rfl ad ?_)
   all_goals
    try rw[aj.out]
    clear c4 d4 f4 x0 x1 x2 x3 ad bD bG aj
    go_wp2_with fail
    refine hA.mono ?_;rintro e w6 ⟨rfl,ap⟩;replace ap:=Aa (bF.out w6 ap);clear hA bF y0 y1 y2 y3
    go_wp2_with fail
    go_roundw
    case rel=>
     (try rw[bz])
     obtain⟨h6,ar,z⟩:=ap.out
     exact⟨k+1,ar,h6,rfl,z⟩
    case measure=>
     (try rw[bz])
     exact Xl ap.out.1 (Xo k)
  ·have b3:k=l.length:=by omega
   have fz:wr.frozen? ⟨rb,0,none⟩=false:=by unfold AY at ax;simp[XM,ax]
   have A:q.m=m:=E.2.1.trans s;have ab:q.b=rb:=E.1.trans G;have bw:Hx w (wr.setCell ⟨rb,0,none⟩ (.pointer none)) p base J M R i m R':=by
    have z:=LI.done (r:=q) (by rw[A];exact d) c O (by rw[A,n];omega) (by rw[A,n];omega) H1.out.2;rw[A] at z;rw[<-ab];exact z
   have HN:=Aa bw;subst b3;clear d c E A ab bw ax ht hB ak D S h F O s G K n N HP H1 hz hk h5
   go_wp2_with fail
   go_end0
   exact⟨rfl,R',HN.out⟩
attribute [local go_sem] Oper.semAt_some
theorem Pt (m:Nat) (b a lV tV:Xk) (K:Int) (w:Xh) :
 CallsIn Ym m Tryz.prog 23 #[.agg #[b,a,lV,tV],.int .i64 K] w λe w'=>
  e = .returned (.func (.func 53) #[] #[.pointer (some ⟨w.heap.size+1,0,none⟩),.pointer (some ⟨w.heap.size,0,none⟩)])/\w'=(w.alloc (.cells #[b,a,lV,tV] 25)).alloc (.cells #[.int .i64 K] 3):=by
 refine callsIn_of_wp Tryz.func23 rfl trivial ?_ rfl;simp only[Tryz.ntmps23,Yt,XJ,X2,Zp,ZQ,YP,YQ,Zc,YX,YW,YG]
 gi_wp2
 go_ret
 exact⟨by simp,rfl⟩
structure It (w:Xh) (eV:Bool->Xk):Prop where
 r:w.cell? ⟨0,0,none⟩=some (eV false)
 m:w.cell? ⟨1,0,none⟩=some (eV true)
theorem It.same {w w':Xh} {eV:Bool->Xk} (h:It w eV) (b:w'.heap[0]?=w.heap[0]?) (c:w'.heap[1]?=w.heap[1]?):It w' eV:=
 ⟨(Xw (w:=w) (a:=⟨0,0,none⟩) b).trans h.r,(Xw (w:=w) (a:=⟨1,0,none⟩) c).trans h.m⟩
def Mw (Z Bp Bm:Nat):AO:=λb=>b<Z\/b=Bp\/b=Bm
theorem Vu (l:Nat) {Z Bp Bm bt nv nf nl nt vc fc lc tc:Nat} {va fa la ta:Option Addr} {vs fs ls:List Tx} {L:List (Tx×Xk)} {C:List (List Ad)} {most:Int} {eV:Bool->Xk} {J Jx:List XS->AO->Xh->Prop} {W:Xh}
 (H:GR J) (T:∀d O f,J d O f->∀b,O b->b<f.heap.size) (bh : -9223372036854775808<=most/\most<=9223372036854775807)
 (P:Cn W Z) (K:0<Z/\1<Z) (G:Z<=W.heap.size) (S:It W eV)
 (Q:BZ W bt (.slice va nv vc) (.slice fa nf fc) (.slice la nl lc) (.slice ta nt tc) vs fs ls L C) (k:Hs vs fs ls L C) (D:CK (Ap vs fs ls L C)) (E:Eg (Ap vs fs ls L C))
 (Y:W.heap[Bp]?=some (.cells #[.slice va nv vc,.slice fa nf fc,.slice la nl lc,.slice ta nt tc] 25)) (M:W.heap[Bm]?=some (.cells #[.int .i64 most] 3))
 (I:∀d O f,J d O f->∀b,Mw Z Bp Bm b->O b/\f.heap[b]?=W.heap[b]?)
 (hY:∀d x O f,J d O f->Gx (Ap vs fs ls L C) most d x O f->YieldAt Ym (3 - 1) Tryz.prog l (CJ eV x) f λe N=>∃a,Steps O f a N/\((e = .returned (.bool true)/\J (d++[x]) a N)\/(e = .returned (.bool false)/\Jx (d++[x]) a N)))
 (F:J [] (λb=>b<W.heap.size) W) :
 CallsIn Ym 3 Tryz.prog 53 #[.func (.yield l) #[] #[],.pointer (some ⟨Bm,0,none⟩),.pointer (some ⟨Bp,0,none⟩)] W λe N=>(∃v,e = .returned v)/\∃a,((∃xs,IC (Ap vs fs ls L C) most xs a N/\J xs a N)\/(∃d,True/\Jx d a N)):=by
 have A:∀(d:List XS) (x:XS) (O:AO) (f:Xh),J d O f->Gx (Ap vs fs ls L C) most d x O f->YieldAt Ym (3 - 1) Tryz.prog l (CJ eV x) f λe N=>∃bb,e = .returned (.bool bb)/\∃a,Steps O f a N/\((bb=true/\J (d++[x]) a N)\/(bb=false/\Jx (d++[x]) a N)):=λd x O f h1 h2=>
  (hY d x O f h1 h2).mono λe N h=>by
    obtain⟨a,h1,⟨rfl,h2⟩|⟨rfl,h2⟩⟩:=h
    ·exact⟨true,rfl,a,h1,.inl ⟨rfl,h2⟩⟩
    ·exact⟨false,rfl,a,h1,.inr ⟨rfl,h2⟩⟩
 obtain⟨p,ai⟩:∃x,Ap vs fs ls L C=x:=⟨_,rfl⟩;have cm:W.cell? ⟨Bm,0,none⟩=some (.int .i64 most):=by simp[Xg,M]
 obtain⟨a6,bc,a7,aY⟩:=Ea Y;have ce:=S.r;refine callsIn_of_wp Tryz.func53 rfl trivial ?_ rfl;simp only[Tryz.ntmps53,Yt,XJ,X2,Zp,ZQ,YP,YQ,Zc,YX,YW,YG];have HP:=Aa (⟨H,T,P,K,G,S,Q,k,D,E,Y,M,I,A,F⟩:_/\_/\_/\_/\_/\_/\_/\_/\_/\_/\_/\_/\_/\_/\_)
 by_cases hr:BV most
 ·have d1:decide (most<1)=false:=decide_eq_false (by have:=hr.1;omega);have d2:decide (20000<most)=false:=decide_eq_false (by have:=hr.2;omega);have aP:L.length=C.length:=by
   have:=D.tc;have this:(L.map Prod.fst).length=C.length:=this
   rwa [Xp] at this
  have aI:=Us (B:=Z) P G Q k D E (by rw[aP];exact JZ _ _ _ _);rw[aP] at aI;replace aI:=Aa aI;clear H T P K G S Q k D E Y M I A F hY bh ce
  gi_wp2_with fail
  refine⟨trivial,(X1.2 aI.out).mono ?_⟩;rintro e w1 ⟨fb,sb,kb,mb,rfl,hF,hS,hK,hM,an,am⟩;clear cm a6 bc a7 aY aI;obtain⟨f0,f1,f2⟩:=Iy hF;have aw:Ow p most.toNat W.heap.size fb kb J (most.toNat+1) (.pointer (some ⟨sb,0,none⟩)) w1:=by
   obtain⟨H,T,P,K,G,S,Q,k,D,E,Y,M,I,A,F⟩:=HP.out;have bp:nt=C.length:=by
    obtain⟨x,y,e⟩:=As Q.t;injection e with _ e _
    rw[e,aP]
   obtain⟨g1,g2⟩:=ac2 vs.length fs.length ls.length C.length;rw[bp,<-g1,<-g2] at hS;have q:=FW.start (p:=Ap vs fs ls L C) (base:=W.heap.size) hF hS hK hM an;rw[ai] at q;refine⟨0,_,λb=>b<W.heap.size,rfl,rfl,Xx _,by show 1<=most.toNat;have:=hr.1;omega,q,λx w=>?_,H _ _ W w1 F am.size am.os am.tape am.output (λb k=>am.block b k),rfl⟩
   rcases w with rfl|rfl|⟨j,r,hj,w⟩
   ·have:=an.1;omega
   ·have:=an.2.2.1;omega
   ·cases j with
    |succ j=>cases hj
    |zero=>
     cases hj
     rcases w with rfl|⟨-,rfl⟩|w
     ·have:=an.2.1;dsimp only;omega
     ·have:=an.2.2.2;dsimp only;omega
     ·cases w
  replace aw:=Aa aw;have aN:=Aa (⟨am,an⟩:_/\_);clear hF hS hK hM an am f1 f2;unfold Ab at f0 |-
  gi_wp2_with fail
  gi_loopg [5] (most.toNat+1) (λn iv wr=>Ow p most.toNat W.heap.size fb kb J n iv wr)
  case atStart=>exact aw.out
  case round=>
   obtain⟨i,R,O,hn,rfl,hi,ay,ab,ag,U,u⟩:=hrel;obtain⟨H,T,P,K,G,S,Q,k,D,E,Y,M,I,A,F⟩:=HP.out
   cases V:R[i]? with
   |none=>
    have aa:i=R.length:=by have:=List.getElem?_eq_none_iff.1 V;omega
    have a3:IC (Ap vs fs ls L C) most (R.map XS.st) O wr:=by
     refine .inr ⟨hr,_,fb,kb,R,rfl,by rw[<-aa,ai];exact ab,by rw[<-aa];exact ag,?_⟩;rw[ai,<-u];obtain⟨n,rfl⟩:∃n,gk=n+1:=⟨gk - 1,by omega⟩;unfold Cq;rw[Xs,V]
     rfl
    have bm:J (R.map XS.st) O wr:=by rw[aa,List.take_length] at U;exact U
    have X:=Aa (⟨a3,bm⟩:_/\_);clear H T P K G S Q k D E Y M I A F hn hi ay ab ag U u aa a3 bm HP aw aN V;unfold DL;dsimp only[Option.map_none]
    gi_wp2_with fail
    go_end0
    exact⟨⟨_,rfl⟩,O,.inl ⟨_,X.out⟩⟩
   |some r=>
    have aa:i<R.length:=(Xf.1 V).1;have be:Cn wr Z:=P.same (λx w=>(I _ O wr U x (.inl w)).2);have a5:W.heap.size<=wr.heap.size:=by
     have h1:=ab.lo.1;have h2:=ab.lt (.inl rfl:DG fb kb R i fb)
     omega
    have aH:=ac7 (B:=Z) be G a5 (by rw[<-ai];exact D) (by rw[<-ai];exact E) ab V;replace aH:=Aa aH;have HO:=Aa (⟨hn,hi,ay,ab,ag,U,u,aa,V⟩:_/\_/\_/\_/\_/\_/\_/\_/\_);clear H T P K G S Q k D E Y M I A F hn hi ay ab ag U u aa V be a5;unfold DL;dsimp only[Option.map_some];unfold Ab at aH |-
    gi_wp2_with fail
    refine⟨trivial,(X1.2 aH.out).mono ?_⟩;rintro e s ⟨rfl,R',c⟩;clear aH;obtain⟨hn,hi,ay,ab,ag,U,u,aa,V⟩:=HO.out;obtain⟨H,T,P,K,G,S,Q,k,D,E,Y,M,I,A,F⟩:=HP.out;obtain⟨fk,aT,-⟩:=c.fw.km;have a9:∀q,(Builtin.len_ #[64] 3 #[.map (some kb)]).run Tryz.prog (s.drewN q) = .ok (.int .i64 (R'.length:Int)) (s.drewN q):=λq=>(aT.same (w':=s.drewN q) rfl).len Tryz.underlying64 3;obtain⟨r0,rl,-,-,aM⟩:=c.fw.fo;obtain⟨-,-,g2⟩:=Iy aM;have aE:∀q,J ((R.take i).map XS.st) O (s.drewN q):=λq=>H _ O wr _ U c.kp.size c.kp.os c.kp.tape c.kp.output (λb k=>c.kp.block b (T _ _ _ U b k) (λz=>by
     refine ag b ?_ k
     rcases z with z|z|⟨j,o,ho,z⟩
     ·exact .inl z
     ·exact .inr (.inl z)
     ·exact .inr (.inr ⟨j,o,ho,.inl z⟩)))
    have aG:∀q x,Mw Z Bp Bm x->(s.drewN q).heap[x]?=W.heap[x]?:=λq x w=>(I _ O _ (aE q) x w).2;have bH:s.cell? ⟨Bm,0,none⟩=some (.int .i64 most):=by
     have:=aG 0 Bm (.inr (.inr rfl));have:=this.trans M;have this:s.heap[Bm]?=_:=this;simp[Xg,this]
    have aU:∀q,(s.drewN q).cell? ⟨1,0,none⟩=some (eV true):=λq=>(S.same (w':=s.drewN q) (aG q _ (.inl K.1)) (aG q _ (.inl K.2))).m;have aq:=c.abl (T _ _ _ U) ag;have aV:R'.length=(DE (Aj p) (By false p.C) (R.map Ag.m) r.m).length:=by rw[<-c.ms,Xp]
    obtain⟨n,rfl⟩:∃n,gk=n+1:=⟨gk - 1,by omega⟩;unfold Cq at u;rw[Xs,V] at u;dsimp only[Option.map_some] at u;rw[<-aV] at u
    by_cases aK:most.toNat<R'.length
    ·have dm:decide (most<(R'.length:Int))=true:=decide_eq_true (by omega);rw[if_pos aK] at u;have aF:Gx (Ap vs fs ls L C) most ((R.take i).map XS.st) (.er true) O s:=⟨hr,by rw[ai];exact u.symm⟩;have g:=λq=>A _ (.er true) O (s.drewN q) (aE q) aF;unfold CJ at g;dsimp only at g;replace g:=Aa g;clear H T P K G S Q k D E Y M I A F hn hi ay ab ag U u aa V aT aM aE aG aq aV aK aF c HO HP aw aN
     gi_wp2_with fail
     gi_quiet (fail)
     obtain⟨fn,tmps,bj,body,hy,hR⟩:=g.out nq;have bI:=aU nq;clear aU a9
     gi_wp2_with fail
     refine hR.mono ?_;clear hR hy;rintro e W3 ⟨bb,rfl,a,af,⟨rfl,ad⟩|⟨rfl,aj⟩⟩
     ·have X:=Aa ad;clear ad af g
      gi_wp2_with fail
      refine XI (ZZ rfl _ _ _) rfl ?_
      exact⟨⟨_,rfl⟩,a,.inl ⟨_,.inl ⟨_,_,rfl⟩,X.out⟩⟩
     ·have X:=Aa aj;clear aj af g
      gi_wp2_with fail
      refine XI (ZZ rfl _ _ _) rfl ?_
      exact⟨⟨_,rfl⟩,a,.inr ⟨_,trivial,X.out⟩⟩
    ·have dm:decide (most<(R'.length:Int))=false:=decide_eq_false (by omega);rw[if_neg aK] at u;obtain⟨r',ap,aW,-⟩:=c.ext.old i r V;have a1:((R.take i).map XS.st).length<20000:=by rw[Xp,Yc];have:=hr.2;omega
     have bi:∀q,Gx (Ap vs fs ls L C) most ((R.take i).map XS.st) (.st r') O (s.drewN q):=λq=>⟨a1,by rw[ai];exact(c.stE ap aq).same rfl (λ_ _=>rfl) (c.stE ap aq).nb (c.stE ap aq).nm⟩
     have g:=λq=>A _ (.st r') O (s.drewN q) (aE q) (bi q);unfold CJ Ab at g;dsimp only at g;rw[aW.1] at g;have aJ:∀(W3:Xh) (a:AO) (q:Nat),Steps O (s.drewN q) a W3->J ((R.take i).map XS.st++[.st r']) a W3->W3.cell? ⟨r.b,7,none⟩=some (DL ((R'[i+1]?).map Ag.b))/\Ow p most.toNat W.heap.size fb kb J n (DL ((R'[i+1]?).map Ag.b)) W3:=λW3 a q hS ad=>by
      have hk:∀x,DG fb kb R' (i+1) x->W3.heap[x]?=s.heap[x]?:=λx w=>hS.rest x (c.fw.lt w) (aq x w);have bn:=c.fw.same hk;have bf:=bn.st i r' ap;rw[aW.1] at bf;obtain⟨-,-,-,-,-,-,-,c7⟩:=DO bf;refine⟨c7,i+1,R',a,by omega,rfl,?_,by omega,bn,λx w hO=>?_,?_,?_⟩
      ·have:=(Xf.1 ap).1;omega
      ·rcases hS.fresh x hO with z|z
       ·exact aq x w z
       ·have:=c.fw.lt w;have z:s.heap.size<=x:=z
        omega
      ·rw[c.take aa ap,XH];exact ad
      ·rw[c.ms];exact u
     replace g:=Aa g;replace aJ:=Aa aJ;clear H T P K G S Q k D E Y M I A F hn hi ay ab ag U u aa V aT aM aE aG aq aV aK c HO HP aw aN ap aW a1 bi aU
     gi_wp2_with fail
     gi_quiet (fail)
     obtain⟨fn,tmps,bj,body,hy,hR⟩:=g.out nq;clear a9
     gi_wp2_with fail
     refine hR.mono ?_;clear hR hy;rintro e W3 ⟨bb,rfl,a,af,⟨rfl,ad⟩|⟨rfl,aj⟩⟩
     ·obtain⟨c7,hI⟩:=aJ.out W3 a nq af ad;replace hI:=Aa hI;clear ad af g aJ
      gi_wp2_with fail
      gi_roundg n
      case measure=>exact Xo n
      case rel=>exact hI.out
     ·have X:=Aa aj;clear aj af g aJ
      gi_wp2_with fail
      refine XI (ZZ rfl _ _ _) rfl ?_
      exact⟨⟨_,rfl⟩,a,.inr ⟨_,trivial,X.out⟩⟩
 ·have bu:(decide (most<1)=true)\/(decide (most<1)=false/\decide (20000<most)=true):=by
   by_cases z:most<1
   ·exact .inl (decide_eq_true z)
   ·refine .inr ⟨decide_eq_false z,decide_eq_true ?_⟩
    by_cases z2:20000<most
    ·exact z2
    ·exact absurd (⟨by omega,by omega⟩:BV most) hr
  have aF:Gx (Ap vs fs ls L C) most [] (.er false) (λb=>b<W.heap.size) W:=hr;obtain⟨fn,tmps,bj,body,hy,hR⟩:=A [] (.er false) _ W F aF;unfold CJ at hy;dsimp only at hy;clear H T P K G S Q k D E Y M I A F hY bh aF HP a6 bc a7 aY ai
  rcases bu with d1|⟨d1,d2⟩
  all_goals
   gi_wp2_with fail
   refine hR.mono ?_;clear hR hy;rintro e W3 ⟨bb,rfl,a,af,⟨rfl,ad⟩|⟨rfl,aj⟩⟩
   ·have X:=Aa ad;clear ad af
    gi_wp2_with fail
    refine XI (ZZ rfl _ _ _) rfl ?_
    exact⟨⟨_,rfl⟩,a,.inl ⟨_,.inl ⟨[],_,rfl⟩,X.out⟩⟩
   ·have X:=Aa aj;clear aj af
    gi_wp2_with fail
    refine XI (ZZ rfl _ _ _) rfl ?_
    exact⟨⟨_,rfl⟩,a,.inr ⟨_,trivial,X.out⟩⟩
theorem Ps {Z Bp Bm u nv nf nl nt vc fc c f:Nat} {va fa d g:Option Addr} {vs fs ls:List Tx} {L:List (Tx×Xk)} {C:List (List Ad)} {most:Int} {eV:Bool->Xk} {w:Xh} (s : -9223372036854775808<=most/\most<=9223372036854775807)
 (q:Cn w Z) (p:0<Z/\1<Z) (k:Z<=w.heap.size) (y:It w eV)
 (v:BZ w u (.slice va nv vc) (.slice fa nf fc) (.slice d nl c) (.slice g nt f) vs fs ls L C) (o:Hs vs fs ls L C) (h:CK (Ap vs fs ls L C)) (i:Eg (Ap vs fs ls L C))
 (b:w.heap[Bp]?=some (.cells #[.slice va nv vc,.slice fa nf fc,.slice d nl c,.slice g nt f] 25)) (e:w.heap[Bm]?=some (.cells #[.int .i64 most] 3)) :
 IS Ym 3 Tryz.prog 53 #[.pointer (some ⟨Bm,0,none⟩),.pointer (some ⟨Bp,0,none⟩)] (CJ eV) (Mw Z Bp Bm) (Gx (Ap vs fs ls L C) most) (IC (Ap vs fs ls L C) most) (λ_=>True) w:=
 λl J z W a m _ t n r j=>Vu l m t s (q.same λx A=>a.block x (by omega)) p (Xu k a.size) (y.same (a.block _ (by omega)) (a.block _ (by omega))) (v.below a) o h i
  ((a.block Bp (Xa.1 b).1).trans b) ((a.block Bm (Xa.1 e).1).trans e) n r j
theorem adO {w:Xh} {base:Nat} {v:Xk} {l:List Ev} (h:w.ownsRow base 48 4 v l.length (l.flatMap Eb)) (u:0<l.length) :
 ∃g cap,v = .slice (some ⟨g,0,none⟩) l.length cap/\base<=g/\g<w.heap.size/\l.length<=cap/\cap<=maxLen/\∀j e,l[j]?=some e->w.cell? ⟨g,j*4,none⟩=some (.int .i64 e.t)/\w.cell? ⟨g,j*4+1,none⟩=some (.int .i64 e.k)/\w.cell? ⟨g,j*4+2,none⟩=some (.int .i64 e.o)/\w.cell? ⟨g,j*4+3,none⟩=some (.int .i64 e.v):=by
 rcases id h.2 with⟨-,e⟩|⟨g,cap,y,rfl,q,n,i,m,x,s⟩
 ·omega
 ·refine⟨g,cap,rfl,q,(Xa.1 n).1,i,m,λj e f=>?_⟩;have b:=(Xf.1 f).1;have d:∀c,c<4->w.cell? ⟨g,j*4+c,none⟩=(Eb e)[c]?:=λc d=>by
   rw[h.cellAt (j*4+c) (by omega)];have key:∀(l:List Ev) (j:Nat),l[j]?=some e->(l.flatMap Eb)[j*4+c]?=(Eb e)[c]?:=by
    intro l
    induction l with
    |nil=>intro j b;cases b
    |cons a r p=>
     intro j b;rw[List.flatMap_cons]
     cases j with
     |zero=>
      cases b
      rw[List.getElem?_append_left (by rw[NX];omega),Nat.zero_mul,Nat.zero_add]
     |succ j=>
      rw[List.getElem?_append_right (by rw[NX];omega),NX,show (j+1)*4+c - 4=j*4+c by omega];exact p j b
   exact key l j f
  exact⟨d 0 (by omega),d 1 (by omega),d 2 (by omega),d 3 (by omega)⟩
theorem Qp {x:Int} {l:List Ev} {i:Nat} {a:Ev} (h:l[i]?=some a):Dd x (l.drop i)=match (l.drop (i+1)).find? (λb=>DP a b x) with
 |some b=>some (a,b)
 |none=>Dd x (l.drop (i+1)):=by
 have e:l.drop i=a::l.drop (i+1):=by
  obtain⟨c,e⟩:=Xf.1 h;rw[<-e];exact(X4 c)
 rw[e]
 rfl
theorem adt {q:Ev->Bool} {l:List Ev} {j:Nat} {b:Ev} (h:(l.take j).find? q=none) (c:l[j]?=some b):((l.take (j+1)).find? q=none↔q b=false)/\(q b=true->l.find? q=some b):=by
 have e:l.take (j+1)=l.take j++[b]:=by rw[Yo,c];rfl
 constructor
 ·rw[e,afu,h]
  cases a:q b with
  |false=>simp[a]
  |true=>simp[a]
 ·intro a;have d:l=l.take j++(b::l.drop (j+1)):=by
   obtain⟨f,g⟩:=Xf.1 c;rw[<-g,<-X4 f,List.take_append_drop]
  rw[d,afu,h];simp[a]
def IT (w w':Xh) (x:Int) (l:List Ev) (v:Xk):Prop:=match Dd x l with
 |none=>v = .slice none 0 0
 |some (a,b)=>∃g,v = .slice (some ⟨g,0,none⟩) 2 2/\w.heap.size<=g/\w'.heap[g]?=some (.cells #[.int .i64 a.t,.int .i64 b.t] 3)
theorem Wu {w:Xh} {b base:Nat} {mv mo fr nx:Xk} {sh:Tx} {g y x:Int} {f:Bool} {l:List Ev} (h:AY w b mv sh g f mo fr y nx) (hm:w.ownsRow base 48 4 mo l.length (l.flatMap Eb)) (hl:l.length<=4) :
 Calls Tryz.prog 27 #[Ab b,.int .i64 x] w λe w'=>∃v,e = .returned v/\IT w w' x l v/\Xm w.heap.size w w':=by
 obtain⟨-,-,-,-,aR,-⟩:=DO h;have aT:b<w.heap.size:=(Xa.1 h).1;obtain⟨ma,mc,aE⟩:=As hm;have HC:Hid (∀u,Xm w.heap.size w u->u.cell? ⟨b,4,none⟩=some (.slice ma l.length mc)):=λu D=>(D.cell (p:=⟨b,4,none⟩) aT).trans (by rw[aR,aE]);have HE:Hid (∀i e,l[i]?=some e->∃d,ma=some ⟨d,0,none⟩/\l.length<=mc/\mc<=maxLen/\∀u,Xm w.heap.size w u->∀j e,l[j]?=some e->u.cell? ⟨d,j*4,none⟩=some (.int .i64 e.t)/\u.cell? ⟨d,j*4+1,none⟩=some (.int .i64 e.k)/\u.cell? ⟨d,j*4+2,none⟩=some (.int .i64 e.o)/\u.cell? ⟨d,j*4+3,none⟩=some (.int .i64 e.v)):=λi e he=>by
  obtain⟨d,cap,q,q1,T,q3,q4,q5⟩:=adO hm (by have:=(Xf.1 he).1;omega);rw[aE] at q;injection q with e1 _ e2
  subst e1 e2;refine⟨d,rfl,q3,q4,λu D j e hj=>?_⟩;obtain⟨z1,z2,z3,z4⟩:=q5 j e hj
  exact⟨(D.cell (p:=⟨d,j*4,none⟩) T).trans z1,(D.cell (p:=⟨d,j*4+1,none⟩) T).trans z2,(D.cell (p:=⟨d,j*4+2,none⟩) T).trans z3,(D.cell (p:=⟨d,j*4+3,none⟩) T).trans z4⟩
 have c4:=HC.out w (Xq _ _);replace hl:=Aa hl;clear h hm aE aT aR;unfold Ab
 go_enter Tryz.func27,Tryz.ntmps27
 go_wp2_with fail
 go_loopw [14] (λiv wr=>∃i:Nat,i<=l.length/\iv = .int .i64 i/\Dd x l=Dd x (l.drop i)/\Xm w.heap.size w wr) (λiv _=>l.length - (intOf iv).toNat)
 case atStart=>exact⟨0,Xx _,rfl,rfl,Xq _ _⟩
 case round=>
  obtain⟨i,Q,rfl,A,r⟩:=hrel
  by_cases s:i<l.length
  ·have bB:(i:Int)<(l.length:Int):=by omega
   obtain⟨a,B⟩:∃a,l[i]?=some a:=⟨_,Xe s⟩;obtain⟨d,rfl,S,U,K⟩:=HE.out i a B;obtain⟨a0,a1,a2,a3⟩:=K wr r i a B;obtain⟨at',G,E,F⟩:=a;dsimp only at a0 a1 a2 a3;have V:=hl.out;have am:XN ((i:Int)+1)=(i:Int)+1:=by unfold XN;omega
   obtain⟨C,J⟩:∃W,wr.alloc (.cells #[.int .i64 at',.int .i64 G,.int .i64 E,.int .i64 F] 48)=W:=⟨_,rfl⟩;have N:Xm wr.heap.size wr C:=by rw[<-J];exact(Xq _ _).alloc (Xd _) _
   have H:C.heap[wr.heap.size]?=some (.cells #[.int .i64 at',.int .i64 G,.int .i64 E,.int .i64 F] 48):=by rw[<-J];exact Xi wr _
   have c:=r.trans (N.mono r.size);have bz:=HC.out C c;have bA:(0:Int)<=(i:Int)+1:=by omega
   have bo:(i:Int)+1<=(mc:Int):=by omega
   have bE:(i:Int)+1<=(l.length:Int):=by omega
   have HO:=Aa (⟨Q,A,r,s,B,S,U,K,V,N,H,c⟩:_/\_/\_/\_/\_/\_/\_/\_/\_/\_/\_/\_);replace J:=Aa J;obtain⟨wo,a7⟩:∃z,z=wr:=⟨wr,rfl⟩;subst a7;have ao:Hid (((l.drop (i+1)).find? (λe=>DP ⟨at',G,E,F⟩ e x)=none)->Dd x l=Dd x (l.drop (i+1))):=λz=>by
    rw[A,Qp B,z]
   by_cases bf:mc=i+1
   ·subst bf;have bu:l.length - (i+1)=0:=by omega
    have aU:Hid (i+1<=l.length):=s;have P:Hid (Dd x l=Dd x (l.drop (i+1))):=ao.out (by rw[List.drop_eq_nil_of_le (by omega)];rfl);replace c:=Aa c;clear Q A r s B S U K V N H c4 HO ao
    go_upto_region 4 with fail
    try rw[J.out]
    clear J
    go_wp2_with fail
    go_loopw [27] (λjv w2=>jv = .int .i64 0/\w2=C) (λ_ _=>0)
    case atStart=>exact⟨rfl,rfl⟩
    case round=>
     obtain⟨rfl,rfl⟩:=hrel
     go_wp2_with fail
     go_roundw
     case rel=>
      (try rw[am])
      exact⟨i+1,aU.out,rfl,P.out,c.out⟩
     case measure=>
      (try rw[am])
      exact Xl aU.out (Xo i)
   ·clear Q A r s B S U K V N H c c4
    go_upto_region 4 with fail
    try rw[J.out]
    clear J
    go_wp2_with fail
    obtain⟨n,hn⟩:∃n,l.length - (i+1)=n:=⟨_,rfl⟩;rw[hn]
    try rw[am]
    replace hn:=Aa hn
    go_loopw [27] (λjv w2=>∃j:Nat,j<=n/\jv = .int .i64 j/\((l.drop (i+1)).take j).find? (λe=>DP ⟨at',G,E,F⟩ e x)=none/\Xm C.heap.size C w2) (λjv _=>n - (intOf jv).toNat)
    case atStart=>exact⟨0,Xx _,rfl,rfl,Xq _ _⟩
    case round=>
     obtain⟨j,hj,rfl,ad,R⟩:=hrel;obtain⟨Q,A,r,s,B,S,U,K,V,N,H,c⟩:=HO.out;have hnn:=hn.out
     by_cases aH:j<n
     ·have bq:(j:Int)<(n:Int):=by omega
      obtain⟨e,he⟩:∃e,l[i+1+j]?=some e:=⟨_,Xe (by omega)⟩;have aS:(l.drop (i+1))[j]?=some e:=by rw[List.getElem?_drop];exact he
      have ar:=c.trans (R.mono c.size);obtain⟨b0,b1,b2,b3⟩:=K wr ar _ e he;have e4:(i+1+j)*4=(i+1)*4+j*4:=by omega
      rw[e4] at b0 b1 b2 b3;obtain⟨M,bk,Y,bv⟩:=e;dsimp only at b0 b1 b2 b3;obtain⟨m,X⟩:∃W,wr.alloc (.cells #[.int .i64 M,.int .i64 bk,.int .i64 Y,.int .i64 bv] 48)=W:=⟨_,rfl⟩;have aA:Xm wr.heap.size wr m:=by rw[<-X];exact(Xq _ _).alloc (Xd _) _
      have kB:m.heap[wr.heap.size]?=some (.cells #[.int .i64 M,.int .i64 bk,.int .i64 Y,.int .i64 bv] 48):=by rw[<-X];exact Xi wr _
      have aL:wr.heap[wo.heap.size]?=_:=(R.block wo.heap.size (Xa.1 H).1).trans H;have aB:m.heap[wo.heap.size]?=_:=(aA.block wo.heap.size (Xa.1 aL).1).trans aL;have ab:=fun(u:Xh) (D:Xm m.heap.size m u)=>Ea ((D.block _ (Xa.1 aB).1).trans aB);have aj:=fun(u:Xh) (D:Xm m.heap.size m u)=>Ea ((D.block _ (Xa.1 kB).1).trans kB);obtain⟨p0,p1,p2,p3⟩:=ab m (Xq _ _);obtain⟨q0,q1,T,q3⟩:=aj m (Xq _ _);have af:=aen ⟨at',G,E,F⟩ ⟨M,bk,Y,bv⟩ x m;unfold Er at af;dsimp only at af;obtain⟨aM,a4⟩:=adt ad aS;have ac:Xm w.heap.size w m:=ar.trans (aA.mono ar.size);have aX:Xm C.heap.size C m:=R.trans (aA.mono R.size);have hw2:XN ((j:Int)+1)=(j:Int)+1:=by unfold XN;omega
      have av:Hid (DP ⟨at',G,E,F⟩ ⟨M,bk,Y,bv⟩ x=true->∀(u:Xh) (Z:Nat),w.heap.size<=Z->u.heap[Z]?=some (.cells #[.int .i64 at',.int .i64 M] 3)->IT w u x l (.slice (some ⟨Z,0,none⟩) 2 2)):=λz u Z h1 h2=>by
       unfold IT;rw[A,Qp B,a4 z]
       exact⟨Z,rfl,h1,h2⟩
      generalize DP ⟨at',G,E,F⟩ ⟨M,bk,Y,bv⟩ x=cl at af aM av;have HJ:=Aa (⟨aH,aM,ac,aX⟩:_/\_/\_/\_);replace ab:=Aa ab;replace aj:=Aa aj;replace X:=Aa X;clear hj ad R Q A r s B S U K V N H c hnn aH he aS ar e4 aA kB aL aB aM a4 ac aX HO HE HC ao
      go_upto_region 7 with fail
      try rw[X.out]
      clear X
      go_wp2_with fail
      refine af.mono ?_;rintro e' O ⟨rfl,I⟩;obtain⟨br,bp,bm,bD⟩:=ab.out O I;obtain⟨bC,bx,bw,bn⟩:=aj.out O I;replace I:=Aa I;clear af ab aj p0 p1 p2 p3 q0 q1 T q3
      cases cl with
      |true=>
       have bb:Hid (∃v,Ending.returned (Value.slice (some ⟨O.heap.size,0,none⟩) 2 2) = .returned v/\IT w (O.alloc (.cells #[.int .i64 at',.int .i64 M] 3)) x l v/\Xm w.heap.size w (O.alloc (.cells #[.int .i64 at',.int .i64 M] 3))):=by
        obtain⟨-,-,ac,-⟩:=HJ.out;have aI:=ac.trans (I.out.mono ac.size)
        exact⟨_,rfl,av.out rfl _ _ aI.size (Xi O _),aI.alloc aI.size _⟩
       clear HJ av I
       go_wp2_with fail
       go_ret
       exact bb.out
      |false=>
       have az:Hid (j+1<=n/\((l.drop (i+1)).take (j+1)).find? (λe=>DP ⟨at',G,E,F⟩ e x)=none/\Xm C.heap.size C O):=by
        obtain⟨h1,h2,-,h4⟩:=HJ.out
        exact⟨h1,h2.2 rfl,h4.trans (I.out.mono h4.size)⟩
       clear HJ av I
       go_wp2_with fail
       go_roundw
       case rel=>
        (try rw[hw2])
        exact⟨j+1,az.out.1,rfl,az.out.2.1,az.out.2.2⟩
       case measure=>
        (try rw[hw2])
        exact Xl az.out.1 (Xo j)
     ·have bh:j=n:=by omega
      subst bh;have P:Hid (i+1<=l.length/\Dd x l=Dd x (l.drop (i+1))/\Xm w.heap.size w wr):=by
       refine⟨s,ao.out ?_,c.trans (R.mono c.size)⟩;rw[List.take_of_length_le (by rw[List.length_drop];omega)] at ad;exact ad
      clear hj ad R Q A r s B S U K V N H c hnn aH HO HE HC ao
      go_wp2_with fail
      go_roundw
      case rel=>
       (try rw[am])
       exact⟨i+1,P.out.1,rfl,P.out.2⟩
      case measure=>
       (try rw[am])
       exact Xl P.out.1 (Xo i)
  ·have hil:i=l.length:=by omega
   have P:Hid (IT w wr x l (.slice none 0 0)/\Xm w.heap.size w wr):=by
    refine⟨?_,r⟩;unfold IT;rw[A,hil,List.drop_length]
    rfl
   subst hil;clear A r Q s HC HE c4
   go_wp2_with fail
   go_ret
   exact⟨_,rfl,P.out⟩
end Go.Proofs.YtdcacoifehkioaaGreatDoor
