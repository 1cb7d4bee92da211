import Derived.Test.YtdcacoifehkioaaGreatDoorExR21
import Derived.Sort.LoopGhostIn
import Derived.Sort.CutIn
import Derived.Sort.QuietIn
import Derived.Shelf.Abstract
import Derived.Shelf.RegionOpen
import Derived.WalkKit
import Derived.OwnWalkIn
import Derived.TacticsInMore
import Derived.LoopNIn
import Derived.LoopIn
import Derived.Maps.OwnIn
import Derived.Test.YtdcacoifehkioaaGreatDoorExR20
open Go renaming Value->Xj,World->Xg,callsIn_wide->XT,heap_setCell_other->XC,bodyPost_ret->XN,results_none->ZJ
open Go.Fence renaming wide->Ye
open Array renaming getElem?_eq_some_iff->Xa,replicate_succ->YF,replicate_zero->YG
open List renaming range->Yt,map_append->XH,take_zero->adX,take_add_one->YY,getElem?_take->Zg,getElem?_eq_getElem->Xc,getElem?_eq_some_iff->Xe,getElem?_map->Xp,getD_eq_getElem?_getD->Xb,length_take->X2,size_toArray->Ym,length_cons->Xw,length_nil->XU,push_toArray->YU,append_toArray->YK,nil_append->Yw,cons_append->Yp,length_map->Xm,drop_eq_getElem_cons->X4,find?_append->Z2
open Nat renaming lt_succ_self->Xt,lt_irrefl->ada,le_refl->Xf,zero_le->XD,le_trans->Xu,sub_lt_sub_left->Xs,reduceAdd->Zb,reduceSub->Zx
open Go.World renaming cell?_of_block->Xr,alloc_heap_new->Xi,frozen?->XE,cell?->Xh
open Go.RowKit renaming wrap64->Ya,Below->Xn
open Go.RowKit.Below renaming refl->Xo
set_option maxRecDepth 100000
set_option maxHeartbeats 4000000
set_option linter.unusedVariables false
set_option linter.unusedSimpArgs false
namespace Go.Proofs.YtdcacoifehkioaaGreatDoor
open Go.RowKit
theorem Ss {m:Nat} (d:Nat) {P:Program} {l:Nat} {args:Array Xj} {W:Xg} {R:Ending->Xg->Prop} (h:YieldAt Ye m P l args W R):YieldAt Ye d P l args W R:=by
 obtain⟨fn,tmps,e,body,b,a⟩:=h
 exact⟨fn,tmps,e,body,b,a.1,λc cs _=>a.2 c cs (room_wide _)⟩
theorem Ia.any {α:Type} {n:Nat} (m:Nat) {P:Program} {g:Nat} {lb:Array Xj} {b:α->Array Xj} {a:AF} {E:List α->α->AF->Xg->Prop} {S:List α->AF->Xg->Prop} {c:List α->Prop} {w:Xg} (h:Ia Ye n P g lb b a E S c w):Ia Ye m P g lb b a E S c w:=
 λl J i W k d q t s r p=>XT.2 (XT.1 (h l J i W k d q t s (λf x O o j e=>Ss _ (r f x O o j e)) p))
end Go.Proofs.YtdcacoifehkioaaGreatDoor
namespace Go.Proofs.YtdcacoifehkioaaGreatDoor
open Go.RowKit Go.Shelf Go.Proofs.Cod
inductive XS where
 |st (r:Ad)
 |er (b:Bool)
def Ca (eV:Bool->Xj):XS->Array Xj
 |.st r => #[Ab r.b,.nilIface]
 |.er b => #[.pointer none,eV b]
def CL (p:PD):MS:=BO p.vs.length p.fs.length p.ls.length p.C.length
def BS (p:PD) (most:Nat):Option (List MS):=Fc (Aj p) (Dl false p.C) most (most+1) [CL p] 0
def Ck (most:Int):Prop:=1<=most/\most<=20000
structure HH (p:PD) (r:Ad) (O:AF) (W:Xg):Prop where
 ok:Bt p r.m
 st:∃nx,AP W r.b (.pointer none) (Aj p r.m) (AB r.m) (Bf r.m) r.mo (CR r.fr) r.y nx
 mo:∃base,W.ownsRow base 48 4 r.mo (AU p.C r.m).length ((AU p.C r.m).flatMap Dg)
 nb:¬O r.b
 nm:∀x,r.mo.ownBlock=some x->¬O x
def Fv (p:PD) (most:Int) (pre:List XS) (x:XS) (O:AF) (W:Xg):Prop:=match x with
 |.st r=>pre.length<20000/\HH p r O W
 |.er false=>¬Ck most
 |.er true=>Ck most/\BS p most.toNat=none
def Hg (p:PD) (most:Int) (xs:List XS) (O:AF) (W:Xg):Prop:=(∃pre e,xs=pre++[.er e])\/
 (Ck most/\∃base fb kb R,xs=R.map XS.st/\FW W p base fb kb R R.length 0/\(∀x,CP fb kb R R.length x->¬O x)/\BS p most.toNat=some (R.map Ad.m))
theorem HH.lt {p:PD} {r:Ad} {O:AF} {W:Xg} (h:HH p r O W):r.b<W.heap.size:=by
 obtain⟨nx,q⟩:=h.st
 exact(Xa.1 q).1
theorem HH.same {p:PD} {r:Ad} {O a:AF} {W c:Xg} (h:HH p r O W) (f:c.heap[r.b]?=W.heap[r.b]?) (d:∀x,r.mo.ownBlock=some x->c.heap[x]?=W.heap[x]?) (e:¬a r.b) (nm:∀x,r.mo.ownBlock=some x->¬a x):HH p r a c:=by
 refine⟨h.ok,?_,?_,e,nm⟩
 ·obtain⟨nx,q⟩:=h.st
  exact⟨nx,f.trans q⟩
 ·obtain⟨base,q⟩:=h.mo
  exact⟨base,Eu q d⟩
theorem NP {p:PD} {most:Int} (f:List XS) (x:XS) (O:AF) (W:Xg) (e:AF) (g:Xg) (h:Fv p most f x O W) (c:Steps O W e g):Fv p most f x e g:=by
 cases x with
 |st r=>
  obtain⟨i,h⟩:=h;obtain⟨base,q⟩:=h.mo;refine⟨i,h.same (c.rest r.b h.lt h.nb) (λx a=>c.rest x (q.lt x a).2 (h.nm x a)) (λd=>?_) (λx a d=>?_)⟩
  ·rcases c.fresh _ d with z|z
   ·exact h.nb z
   ·have:=h.lt;omega
  ·rcases c.fresh _ d with z|z
   ·exact h.nm x a z
   ·have:=(q.lt x a).2;omega
 |er b=>cases b<;>exact h
theorem NQ {p:PD} {most:Int} (d:List XS) (x:XS) (O c:AF) (W:Xg) (h:Fv p most d x O W) (a:∀b,c b->O b):Fv p most d x c W:=by
 cases x with
 |st r=>exact⟨h.1,h.2.same rfl (λ_ _=>rfl) (λz=>h.2.nb (a _ z)) (λx e z=>h.2.nm x e (a _ z))⟩
 |er b=>cases b<;>exact h
theorem NN {p:PD} {most:Int} (d:List XS) (O:AF) (W a:Xg) (h:Hg p most d O W) (_:W.heap.size<=a.heap.size) (g:∀b,b<W.heap.size->¬O b->a.heap[b]?=W.heap[b]?):Hg p most d O a:=by
 rcases h with h|⟨m,base,i,j,R,l,f,c,k⟩
 ·exact .inl h
 ·exact .inr ⟨m,base,i,j,R,l,f.same (λx e=>g x (f.lt e) (c x e)),c,k⟩
theorem NO {p:PD} {most:Int} (c:List XS) (O a:AF) (W:Xg) (h:Hg p most c O W) (d:∀b,a b->O b):Hg p most c a W:=by
 rcases h with h|⟨l,base,e,f,R,k,m,g,j⟩
 ·exact .inl h
 ·exact .inr ⟨l,base,e,f,R,k,m,λx i z=>g x i (d x z),j⟩
def Nb (p:PD) (most base fb kb:Nat) (J:List XS->AF->Xg->Prop) (n:Nat) (iv:Xj) (wr:Xg):Prop:=
 ∃(i:Nat) (R:List Ad) (O:AF),n+i=most+1/\iv=CR ((R[i]?).map Ad.b)/\i<=R.length/\R.length<=most/\FW wr p base fb kb R i 0/\(∀x,CP fb kb R i x->¬O x)/\J ((R.take i).map XS.st) O wr/\Fc (Aj p) (Dl false p.C) most n (R.map Ad.m) i=BS p most
theorem aaR (c f nl a:Nat):(AB (BO c f nl a):Int)=min (a:Int) 1/\Bf (BO c f nl a)=false:=by
 have b:∀n,((Yt n).map λt=>if t=0 then({Aw with ph:=1}:TS) else Aw).countP (λth=>th.ph == 1)=min n 1/\((Yt n).map λt=>if t=0 then({Aw with ph:=1}:TS) else Aw).any (λth=>th.ph == 3)=false:=by
  intro n
  induction n with
  |zero=>exact⟨rfl,rfl⟩
  |succ n d=>
   rw[List.range_succ,XH,List.countP_append,List.any_append,d.1,d.2]
   cases n with
   |zero=>exact⟨rfl,rfl⟩
   |succ n=>
    have e:[n+1].map (λt=>if t=0 then({Aw with ph:=1}:TS) else Aw)=[Aw]:=by simp
    rw[e];refine⟨?_,rfl⟩;show min (n+1) 1+0=_
    omega
 constructor
 ·show (((((Yt a).map λt=>if t=0 then({Aw with ph:=1}:TS) else Aw).countP λth=>th.ph == 1:Nat)):Int)=_;rw[(b a).1]
  omega
 ·exact(b a).2
theorem FW.start {w:Xg} {p:PD} {base f b sb mb:Nat} (i:Dj w f (Ab sb) sb b) (k:AP w sb (Ab mb) (Aj p (CL p)) (AB (CL p)) (Bf (CL p)) (.slice none 0 0) (.pointer none) 0 (.pointer none)) (m:Av sk w b (Be (λ_=>none) (Aj p (CL p)) (.agg #[])) 1) (l:AD w mb p (CL p)) (c:base<=f/\base<=sb/\base<=b/\base<=mb) :
 FW w p base f b [⟨sb,CL p,mb,none,0,.slice none 0 0⟩] 0 0:=by
 have a:∀(j:Nat) (r:Ad),([⟨sb,CL p,mb,none,0,.slice none 0 0⟩]:List Ad)[j]?=some r->j=0/\r=⟨sb,CL p,mb,none,0,.slice none 0 0⟩:=λj r h=>by
  cases j with
  |zero=>cases h;exact⟨rfl,rfl⟩
  |succ j=>cases h
 refine⟨⟨_,_,rfl,rfl,i⟩,⟨_,m,λx u h=>?_,λx=>?_⟩,λj r h=>?_,λj r h _=>?_,λj r h=>?_,λj r h _=>?_,λj r h=>?_,λj g r r' h d _=>?_,λj g r r' x h d _ _=>?_,⟨c.1,c.2.2.1,λj r h=>?_⟩,λj r h=>?_⟩
 ·unfold Be at h
  by_cases e:x=Aj p (CL p)
  ·rw[if_pos e] at h;cases h;rfl
  ·rw[if_neg e] at h;cases h
 ·unfold Be EY
  by_cases e:x=Aj p (CL p)
  ·rw[if_pos e];simp[e]
  ·rw[if_neg e];simp[e]
 ·obtain⟨rfl,rfl⟩:=a j r h;exact k
 ·obtain⟨rfl,rfl⟩:=a j r h;exact l
 ·obtain⟨rfl,rfl⟩:=a j r h;rw[LN,adX];exact World.ownsRow_nil w base 48 4
 ·obtain⟨rfl,rfl⟩:=a j r h
  rfl
 ·obtain⟨rfl,rfl⟩:=a j r h;exact JV _ _ _ _
 ·rw[(a j r h).1,(a g r' d).1]
 ·rw[(a j r h).1,(a g r' d).1]
 ·obtain⟨rfl,rfl⟩:=a j r h
  exact⟨c.2.1,c.2.2.2⟩
 ·obtain⟨rfl,rfl⟩:=a j r h;exact .inl ⟨rfl,rfl,rfl⟩
theorem Cn.same {w w':Xg} {B:Nat} (h:Cn w B) (b:∀x,x<B->w'.heap[x]?=w.heap[x]?):Cn w' B:=by
 have c:=h.lt;refine⟨?_,?_,?_,c⟩
 ·obtain⟨fr,q⟩:=h.heads
  exact⟨fr,(b _ (by show 2<B;omega)).trans q⟩
 ·obtain⟨fr,q⟩:=h.shapes
  exact⟨fr,(b _ (by show 3<B;omega)).trans q⟩
 have a:=h.pow;unfold Lib.TabIs World.var? at a |-;rw[Tryz.powG] at a |-;simp only[Option.bind_some] at a |-;rw[b 5 (by omega)];exact a
theorem Gz.VV {wr t:Xg} {p:PD} {base k g i:Nat} {R R':List Ad} {m:MS} (h:Gz wr t p base k g R i m R') {O:AF} (r:∀b,O b->b<wr.heap.size) (c:∀x,CP k g R i x->¬O x):∀x,CP k g R' (i+1) x->¬O x:=by
 rintro x (rfl|rfl|⟨j,q,f,a⟩)
 ·exact c x (.inl rfl)
 ·exact c x (.inr (.inl rfl))
 ·rcases h.ext.new j q f with⟨o,d⟩|⟨w,A,v⟩
  ·obtain⟨y,l,n,s⟩:=h.ext.old j o d;rw[f] at l
   cases l
   rcases a with rfl|⟨u,rfl⟩|a
   ·exact c _ (.inr (.inr ⟨j,o,d,.inl n.1⟩))
   ·exact c _ (.inr (.inr ⟨j,o,d,.inr (.inl ⟨by omega,n.2.2.1⟩)⟩))
   ·by_cases e:j=i
    ·subst e;have:=h.mo q x f a;intro z;have:=r x z
     omega
    ·rw[s e] at a;exact c _ (.inr (.inr ⟨j,o,d,.inr (.inr a)⟩))
  ·intro z;have B:=r x z
   rcases a with rfl|⟨u,rfl⟩|a
   ·omega
   ·omega
   ·rw[v] at a;cases a
theorem Gz.take {wr g:Xg} {p:PD} {base b d i:Nat} {R R':List Ad} {m:MS} {r':Ad} (h:Gz wr g p base b d R i m R') (k:i<R.length) (a:R'[i]?=some r'):R'.take (i+1)=R.take i++[r']:=by
 rw[YY,a]
 congr 1
 apply List.ext_getElem?
 intro j;rw[Zg,Zg]
 by_cases e:j<i
 ·rw[if_pos e,if_pos e];obtain⟨q,c,-,f⟩:=h.ext.old j R[j] (Xc (by omega));rw[c,f (by omega),Xc (by omega)]
 ·rw[if_neg e,if_neg e]
theorem Gz.stE {wr e:Xg} {p:PD} {base b d i:Nat} {R R':List Ad} {m:MS} {r':Ad} (h:Gz wr e p base b d R i m R') (a:R'[i]?=some r') {O:AF} (c:∀x,CP b d R' (i+1) x->¬O x):HH p r' O e:=by
 refine⟨h.fw.ok i r' a,⟨_,by have:=h.fw.st i r' a;rw[if_pos (Xt i)] at this;exact this⟩,⟨base,?_⟩,c _ (.inr (.inr ⟨i,r',a,.inl rfl⟩)),λx f=>c _ (.inr (.inr ⟨i,r',a,.inr (.inr f)⟩))⟩;have:=h.fw.mo i r' a;unfold Eh at this;rw[if_pos (Xt i)] at this;exact this
theorem aaW {w:Xg} {B base J N i:Nat} {p:PD} {R:List Ad} {r:Ad} (U:Cn w B) (hB:B<=base) (aj:base<=w.heap.size) (n:BL p) (W:DK p) (h:FW w p base J N R i 0) (F:R[i]?=some r) :
 Calls Tryz.prog 55 #[Ab J,Ab r.b] w λe w'=>e = .returned (.tuple #[])/\∃R',Gz w w' p base J N R i r.m R':=by
 have hS:=h.st i r F;rw[if_neg (ada _)] at hS;obtain⟨c0,-⟩:=CT hS;have au:=OM (h.ma i r F (Xf _)) n (h.ok i r F);have P:=(Xe.1 F).1;have O:(Bj p.C r.m).length<=4:=by
  have:=Lx p.C r.m r.m.thr.length;have e:=(h.ok i r F).tl;have:=n.fit.four;unfold Bj
  omega
 obtain⟨m,D⟩:∃x,r.m=x:=⟨_,rfl⟩;obtain⟨rb,H⟩:∃x,r.b=x:=⟨_,rfl⟩;obtain⟨mb,K⟩:∃x,r.mb=x:=⟨_,rfl⟩;rw[D] at au O;rw[H,K] at c0;rw[K] at au;rw[H,D];obtain⟨l,u⟩:∃x,Bj p.C m=x:=⟨_,rfl⟩;rw[u] at au O;have HP:=Aa (⟨U,hB,aj,n,W,h,F,P,D,H,K,u,O⟩:_/\_/\_/\_/\_/\_/\_/\_/\_/\_/\_/\_/\_);clear U hB aj n W h F P D H K u hS O;unfold Ab at au c0 |-
 go_enter Tryz.func55,Tryz.ntmps55
 go_wp2_with fail
 refine au.mono ?_;rintro e w1 ⟨v,rfl,aO,a2⟩;clear au c0;obtain⟨ra,rc,rfl⟩:=At aO;have hz:Hid (∀k,k<l.length->∃g,ra=some ⟨g,0,none⟩/\w.heap.size<=g/\g<w1.heap.size/\w1.cell? ⟨g,k,none⟩=some (.int .i64 (l.getD k 0))):=λk hk=>by
  rcases id aO.2 with⟨e,e2⟩|⟨g,cap,cg,e,h1,h2,-⟩
  ·omega
  ·injection e with e _ _
   subst e;refine⟨g,rfl,h1,(Xa.1 h2).1,?_⟩;have:=aO.cellAt k (by omega);rw[this,Xp,Xc hk,Xb,Xc hk]
   rfl
 have d:LI w1 w1 p base J N R i m 0 0 R:=by
  obtain⟨U,hB,aj,n,W,h,F,P,D,H,K,u,O⟩:=HP.out;refine⟨h.below a2,by rw[adX];rfl,Fo.refl _ _ _,λq x c I=>?_,Ae.refl _⟩;rw[h.mn i q c (.inr ⟨rfl,rfl⟩)] at I
  cases I
 have H1:=Aa (⟨d,a2⟩:_/\_);clear d a2 aO
 go_wp2_with fail
 go_loopw [15] (λiv wr=>∃(k:Nat) (R':List Ad),k<=l.length/\iv = .int .i64 k/\LI w1 wr p base J N R i m k k R') (λiv _=>l.length - (intOf iv).toNat)
 case atStart=>exact⟨0,R,XD _,rfl,H1.out.1⟩
 case round=>
  obtain⟨k,R',hk,rfl,d⟩:=hrel;obtain⟨U,hB,aj,n,W,h,F,P,D,H,K,u,O⟩:=HP.out;obtain⟨q,c,A,-⟩:=d.ext.old i r F;have az:=d.fw.st i q c;rw[if_neg (ada _),A.1,A.2.1,A.2.2.1,H,D,K] at az;obtain⟨c0,-⟩:=CT az;unfold Ab at c0
  by_cases h5:k<l.length
  ·obtain⟨g,rfl,bO,bF,ca⟩:=hz.out k h5;have bi:wr.cell? ⟨g,k,none⟩=_:=(Xr (w:=w1) (a:=⟨g,k,none⟩) (d.kp.block g bF (λe=>by
    have M:∀x,CP J N R i x->x<w.heap.size:=λx I=>h.lt I
    rcases e with rfl|rfl|⟨j,o,ho,rfl⟩
    ·have:=M g (.inl rfl);omega
    ·have:=M g (.inr (.inl rfl));omega
    ·have:=M o.b (.inr (.inr ⟨j,o,ho,.inl rfl⟩));omega))).trans ca
   have cd:(k:Int)<(l.length:Int):=by omega
   obtain⟨t,aN⟩:∃x,l.getD k 0=x:=⟨_,rfl⟩;rw[aN] at bi;clear ca;have M:l[k]?=some t:=by rw[<-aN,Xb,Xc h5];rfl
   have av:=d.fw.ma i q c (Xf _);rw[A.2.1,A.2.2.1,D,K] at av;have hC:=abZ av;have ah:=d.fw.ok i q c;rw[A.2.1,D] at ah;have am:AK p.C m t=0:=by rw[<-u] at M;exact Lw (List.mem_of_getElem? M)
   have aS:=fun(w2:Xg) (ay:AD w2 wr.heap.size p m)=>Ld ay n ah t;have bj:Ya ((k:Int)+1)=(k:Int)+1:=by unfold Ya;omega
   have HO:=Aa (⟨d,c,A,av,am,M,h5,O,ah⟩:_/\_/\_/\_/\_/\_/\_/\_/\_);replace aS:=Aa aS;replace aN:=Aa aN;unfold Ab at hC;clear d c A av am M h5 O ah U hB aj n W h F P D H K u az hk bO bF
   go_wp2_with fail
   refine hC.mono ?_;rintro e w2 ⟨rfl,ay,X⟩;have aP:=aS.out w2 ay;unfold Ab at aP;replace X:=Aa X;replace ay:=Aa ay;clear hC aS c0 bi;obtain⟨mB,an⟩:∃x,wr.heap.size=x:=⟨_,rfl⟩;rw[an] at aP |-;replace an:=Aa an
   go_wp2_with fail
   refine aP.mono ?_;rintro e w3 ⟨rfl,aB,ax⟩;obtain⟨d,c,A,av,am,M,h5,O,ah⟩:=HO.out;obtain⟨U,hB,aj,n,W,h,F,P,D,H,K,u,-⟩:=HP.out;have e3:DF p.C m t=AO false p.C m t:=by unfold DF;rw[if_pos am]
   rw[e3] at aB |-;rw[am];have aK:Xn wr.heap.size wr w3:=⟨ax.os.trans X.out.os,ax.tape.trans X.out.tape,ax.output.trans X.out.output,Xu X.out.size ax.size,λx I=>(ax.block x (by have:=X.out.size;omega) (by have:=an.out;omega)).trans (X.out.block x I)⟩;obtain⟨ev,aT⟩:∃x,(AO false p.C m t).2=x:=⟨_,rfl⟩;obtain⟨m',aR⟩:∃x,(AO false p.C m t).1=x:=⟨_,rfl⟩;rw[aT];rw[aR] at aB;obtain⟨Y,Z,eo,ez⟩:=ev;obtain⟨E,aA⟩:∃x,w3.alloc (.cells #[.int .i64 Y,.int .i64 Z,.int .i64 eo,.int .i64 ez] 48)=x:=⟨_,rfl⟩;have aQ:Xn w3.heap.size w3 E:=by rw[<-aA];exact(Xo _ _).alloc (Xf _) _
   have kE:E.heap[w3.heap.size]?=some (.cells #[.int .i64 Y,.int .i64 Z,.int .i64 eo,.int .i64 ez] 48):=by rw[<-aA];exact Xi w3 _
   obtain⟨eb,aC⟩:∃x,w3.heap.size=x:=⟨_,rfl⟩;rw[aC] at kE;have bd:Xn wr.heap.size wr E:=aK.trans (aQ.mono aK.size);have hd:Xn E.heap.size E E.drew:=⟨rfl,rfl,rfl,Xf _,λ_ _=>rfl⟩;have aq:=(d.below (r:=⟨rb,m,mb,none,0,.slice none 0 0⟩) (bd.trans (hd.mono bd.size)));have s:q.m=m:=A.2.1.trans D;have ab:q.b=rb:=A.1.trans H;have bu:(AU p.C q.m)[k]?=some ⟨Y,Z,eo,ez⟩:=by rw[s,<-aT];exact VU (by rw[u];exact M)
   have aM:=aq.fw.mo i q c;rw[LN] at aM;have aU:((AU p.C q.m).take k).length=k:=by rw[X2,LO,s,u];omega
   have bq:base<=E.drew.heap.size:=by have:=aq.kp.size;have:=H1.out.2.size;omega
   obtain⟨gg,bU,T,ak,a4,aH,bC⟩:=abu aM ⟨Y,Z,eo,ez⟩ (by omega) bq;obtain⟨G,aF⟩:∃x,Value.slice (some ⟨gg,0,none⟩) (((AU p.C q.m).take k).length+1) bU=x:=⟨_,rfl⟩;rw[aF] at ak a4;have S:=LI.push (r:=q) (by rw[s];exact aq) c P bu aH a4 (λx I=>by rw[<-aF] at I;cases I;exact bC);obtain⟨Q,af⟩:∃x,T.setCell ⟨rb,4,none⟩ G=x:=⟨_,rfl⟩;have bn:T.setCell ⟨q.b,4,none⟩ G=Q:=by rw[ab];exact af
   rw[bn] at S;clear bn;have aI:=aq.fw.st i q c;rw[ab] at aI;have bm:rb<E.heap.size:=(Xa.1 aI).1;obtain⟨bR,b4,bw,bY⟩:=aq.fw.kinds;have aV:T.heap[rb]?=E.heap[rb]?:=aH.block rb bm (λz=>((bw i i q q c c).2 _ z).1 ab.symm);obtain⟨-,-,-,-,bl,-⟩:=CT aI;have c4:E.cell? ⟨rb,4,none⟩=some q.mo:=bl;clear bl;have d4:T.cell? ⟨rb,4,none⟩=some q.mo:=(Xr (w:=E) (a:=⟨rb,4,none⟩) aV).trans c4;have f4:T.frozen? ⟨rb,4,none⟩=false:=by
    have z:=aV.trans aI;simp[XE,z]
   have b9:=d.kp.size;have b7:=aK.size;have bT:wr.heap.size<=eb:=by omega
   have aW:∀x,q.mo.ownBlock=some x->x<wr.heap.size:=λx I=>((d.fw.mo i q c).lt x I).2;have bx:eb<E.heap.size:=(Xa.1 kE).1;have bS:rb<wr.heap.size:=by have:=d.fw.lt (.inr (.inr ⟨i,q,c,.inl rfl⟩):CP J N R' i q.b);omega
   have k5:Q.heap[eb]?=some (.cells #[.int .i64 Y,.int .i64 Z,.int .i64 eo,.int .i64 ez] 48):=by
    rw[<-af,XC T ⟨rb,4,none⟩ eb _ (by show eb≠rb;omega)]
    exact(aH.block eb bx (λz=>by have:=aW eb z;omega)).trans kE
   obtain⟨x0,x1,x2,x3⟩:=Df kE;obtain⟨y0,y1,y2,y3⟩:=Df k5;have a0:AD Q mB p m':=by
    have a:=aB.below aQ;have ch:=aB.lt;refine(a.same (w':=T) (aH.block mB (by show mB<E.heap.size;have:=aQ.size;omega) (λz=>by have:=aW mB z;have:=an.out;omega))).same ?_;rw[<-af];exact XC T ⟨rb,4,none⟩ mB _ (by show mB≠rb;have:=an.out;omega)
   have a5:=(Hi c G i).trans (if_pos rfl);have ba:=S.fw.st i _ a5;have bh:AP Q rb (Ab q.mb) (Aj p q.m) (AB q.m) (Bf q.m) G (CR q.fr) q.y (DR (R'.set i {q with mo:=G}) i):=by
    rw[if_neg (ada _)] at ba;rw[<-ab];exact ba
   clear ba;obtain⟨r0,f,g0,gl,bD⟩:=S.fw.fo;obtain⟨fk,bp,hU,bk⟩:=S.fw.km;have aY:=S.fw.st _ f gl;have bJ:DR (R'.set i {q with mo:=G}) ((R'.set i {q with mo:=G}).length - 1) = .pointer none:=by
    unfold DR;rw[List.getElem?_eq_none (by omega)];rfl
   rw[bJ] at aY;obtain⟨bV,aZ⟩:=OY n.fit ah am;rw[aR] at aZ;have bE:Cn Q B:=by
    refine U.keep ((H1.out.2.mono (by omega)).trans (S.kp.acl (λx I=>?_) (by have:=H1.out.2.size;omega)))
    rcases I with rfl|rfl|⟨j,o,ho,rfl⟩
    ·have:=h.lo.1;omega
    ·have:=h.lo.2.1;omega
    ·have:=(h.lo.2.2 j o ho).1;omega
   have bA:B<=Q.heap.size:=by have:=S.kp.size;have:=H1.out.2.size;omega
   have hA:=acG bE bA bD bp bh (by rw[s];exact aaS ah n.fit.four) aY a0 n aZ W hU ⟨Y,Z,eo,ez⟩;have ak:(Builtin.append_ #[73,73] 73 #[q.mo,.slice (some ⟨E.heap.size,0,none⟩) 1 1]).run Tryz.prog (E.alloc (.cells #[.int .i64 Y,.int .i64 Z,.int .i64 eo,.int .i64 ez] 48)).drew = .ok G T:=ak;have bK:Hid (∀w6,KT Q w6 J f.b N rb mB (Ab r0.b) fk (R'.set i {q with mo:=G}).length (Aj p m') (AB q.m) (Bf q.m) (if (R'.set i {q with mo:=G}).length - 1<i then .pointer none else Ab f.mb) f.mo (CR f.fr) (Aj p f.m) (AB f.m) f.y (Bf f.m) ⟨Y,Z,eo,ez⟩->k+1<=l.length/\∃aw,LI w1 w6 p base J N R i m (k+1) (k+1) aw):=λw6 ap=>by
    have e1:(AO false p.C q.m t).1=m':=by rw[s];exact aR
    have e2:(AO false p.C q.m t).2=⟨Y,Z,eo,ez⟩:=by rw[s];exact aT
    obtain⟨aw,z⟩:=LI.add (w1:=w1) (V:=Q) (V6:=w6) (r:={q with mo:=G}) (t:=t) (k:=k+1) (ks:=k) S n a5 (show (Bj p.C q.m)[k]?=some t by rw[s,u];exact M) (by have:=H1.out.2.size;omega) gl g0 hU bk (mB:=mB) (show AD Q mB p (AO false p.C q.m t).1 by rw[e1];exact a0) (by have:=an.out;omega)
     (by show KT Q w6 J f.b N q.b mB (Ab r0.b) fk (R'.set i {q with mo:=G}).length (Aj p (AO false p.C q.m t).1) (AB q.m) (Bf q.m) (if (R'.set i {q with mo:=G}).length - 1<i then .pointer none else Ab f.mb) f.mo (CR f.fr) (Aj p f.m) (AB f.m) f.y (Bf f.m) (AO false p.C q.m t).2
         rw[e1,e2];rw[<-ab] at ap;exact ap)
    have z:LI w1 w6 p base J N R i q.m (k+1) (k+1) aw:=z;rw[s] at z
    exact⟨h5,aw,z⟩
   obtain⟨cf,a8⟩:∃x,q.mo=x:=⟨_,rfl⟩;rw[a8] at c4 d4 ak;obtain⟨ma,mc,bf⟩:=At aM;rw[a8] at bf;subst bf;rw[aU] at c4 d4 ak;rw[<-aF,aU] at ak;rw[<-aF,aU] at af;replace af:=Aa af;replace aA:=Aa aA;replace aC:=Aa aC;unfold CM Ab at hA;dsimp only at hA;unfold CM;clear d c A av am M h5 O ah U hB aj n W h F P D H K u aB ax e3 aK aQ kE bd hd aq s ab bu aM aU bq a4 aH bC aF S aI bR b4 bw bY aV b9 b7 bT aW bS k5 a0 a5 bh g0 gl bD hU bk bp aY bJ bV aZ bE bA a8 HO HP aP X ay aT aR
   go_upto_region 5 with fail
   try rw[aA.out]
   try rw[aC.out]
   clear aA aC
   go_region_law (refine Fs rfl _ _ _ rfl rfl rfl rfl ak ?_)
   all_goals
    try rw[af.out]
    clear c4 d4 f4 x0 x1 x2 x3 ak bm bx af
    go_wp2_with fail
    refine hA.mono ?_;rintro e w6 ⟨rfl,ap⟩;replace ap:=Aa (bK.out w6 ap);clear hA bK y0 y1 y2 y3
    go_wp2_with fail
    go_roundw
    case rel=>
     (try rw[bj])
     obtain⟨h6,aw,z⟩:=ap.out
     exact⟨k+1,aw,h6,rfl,z⟩
    case measure=>
     (try rw[bj])
     exact Xs ap.out.1 (Xt k)
  ·have cc:k=l.length:=by omega
   have fz:wr.frozen? ⟨rb,0,none⟩=false:=by unfold AP at az;simp[XE,az]
   have s:q.m=m:=A.2.1.trans D;have ab:q.b=rb:=A.1.trans H;have bG:Gz w (wr.setCell ⟨rb,0,none⟩ (.pointer none)) p base J N R i m R':=by
    have z:=LI.done (r:=q) (by rw[s];exact d) c P (by rw[s,u];omega) (by rw[s,u];omega) H1.out.2;rw[s] at z;rw[<-ab];exact z
   have HN:=Aa bG;subst cc;clear d c A s ab bG az U hB aj n W h F P D H K u O HP H1 hz hk h5
   go_wp2_with fail
   go_end0
   exact⟨rfl,R',HN.out⟩
attribute [local go_sem] Oper.semAt_some
theorem NM (m:Nat) (b a lV tV:Xj) (K:Int) (w:Xg) :
 CallsIn Ye m Tryz.prog 23 #[.agg #[b,a,lV,tV],.int .i64 K] w λe w'=>
  e = .returned (.func (.func 53) #[] #[.pointer (some ⟨w.heap.size+1,0,none⟩),.pointer (some ⟨w.heap.size,0,none⟩)])/\w'=(w.alloc (.cells #[b,a,lV,tV] 25)).alloc (.cells #[.int .i64 K] 3):=by
 refine callsIn_of_wp Tryz.func23 rfl trivial ?_ rfl;simp only[Tryz.ntmps23,Ym,Xw,XU,Zb,Zx,YF,YG,YU,YK,Yw,Yp]
 gi_wp2
 go_ret
 exact⟨by simp,rfl⟩
structure GY (w:Xg) (eV:Bool->Xj):Prop where
 r:w.cell? ⟨0,0,none⟩=some (eV false)
 m:w.cell? ⟨1,0,none⟩=some (eV true)
theorem GY.same {w w':Xg} {eV:Bool->Xj} (h:GY w eV) (b:w'.heap[0]?=w.heap[0]?) (c:w'.heap[1]?=w.heap[1]?):GY w' eV:=
 ⟨(Xr (w:=w) (a:=⟨0,0,none⟩) b).trans h.r,(Xr (w:=w) (a:=⟨1,0,none⟩) c).trans h.m⟩
def Lf (Z Bp Bm:Nat):AF:=λb=>b<Z\/b=Bp\/b=Bm
theorem Tr (l:Nat) {Z Bp Bm bv nv nf nl nt vc fc lc tc:Nat} {va fa la ta:Option Addr} {vs fs ls:List Tx} {L:List (Tx×Xj)} {C:List (List Ac)} {most:Int} {eV:Bool->Xj} {J Jx:List XS->AF->Xg->Prop} {W:Xg}
 (E:FK J) (S:∀d O f,J d O f->∀b,O b->b<f.heap.size) (ba : -9223372036854775808<=most/\most<=9223372036854775807)
 (H:Cn W Z) (K:0<Z/\1<Z) (F:Z<=W.heap.size) (P:GY W eV)
 (Q:Bz W bv (.slice va nv vc) (.slice fa nf fc) (.slice la nl lc) (.slice ta nt tc) vs fs ls L C) (g:Gu vs fs ls L C) (A:BL (Al vs fs ls L C)) (M:DK (Al vs fs ls L C))
 (X:W.heap[Bp]?=some (.cells #[.slice va nv vc,.slice fa nf fc,.slice la nl lc,.slice ta nt tc] 25)) (T:W.heap[Bm]?=some (.cells #[.int .i64 most] 3))
 (G:∀d O f,J d O f->∀b,Lf Z Bp Bm b->O b/\f.heap[b]?=W.heap[b]?)
 (hY:∀d x O f,J d O f->Fv (Al vs fs ls L C) most d x O f->YieldAt Ye (3 - 1) Tryz.prog l (Ca eV x) f λe N=>∃a,Steps O f a N/\((e = .returned (.bool true)/\J (d++[x]) a N)\/(e = .returned (.bool false)/\Jx (d++[x]) a N)))
 (U:J [] (λb=>b<W.heap.size) W) :
 CallsIn Ye 3 Tryz.prog 53 #[.func (.yield l) #[] #[],.pointer (some ⟨Bm,0,none⟩),.pointer (some ⟨Bp,0,none⟩)] W λe N=>(∃v,e = .returned v)/\∃a,((∃xs,Hg (Al vs fs ls L C) most xs a N/\J xs a N)\/(∃d,True/\Jx d a N)):=by
 have D:∀(d:List XS) (x:XS) (O:AF) (f:Xg),J d O f->Fv (Al vs fs ls L C) most d x O f->YieldAt Ye (3 - 1) Tryz.prog l (Ca eV x) f λe N=>∃bb,e = .returned (.bool bb)/\∃a,Steps O f a N/\((bb=true/\J (d++[x]) a N)\/(bb=false/\Jx (d++[x]) a N)):=λd x O f h1 h2=>
  (hY d x O f h1 h2).mono λe N h=>by
    obtain⟨a,h1,⟨rfl,h2⟩|⟨rfl,h2⟩⟩:=h
    ·exact⟨true,rfl,a,h1,.inl ⟨rfl,h2⟩⟩
    ·exact⟨false,rfl,a,h1,.inr ⟨rfl,h2⟩⟩
 obtain⟨p,aj⟩:∃x,Al vs fs ls L C=x:=⟨_,rfl⟩;have cm:W.cell? ⟨Bm,0,none⟩=some (.int .i64 most):=by simp[Xh,T]
 obtain⟨a6,be,aZ,bc⟩:=Df X;have ce:=P.r;refine callsIn_of_wp Tryz.func53 rfl trivial ?_ rfl;simp only[Tryz.ntmps53,Ym,Xw,XU,Zb,Zx,YF,YG,YU,YK,Yw,Yp];have HP:=Aa (⟨E,S,H,K,F,P,Q,g,A,M,X,T,G,D,U⟩:_/\_/\_/\_/\_/\_/\_/\_/\_/\_/\_/\_/\_/\_/\_)
 by_cases hr:Ck most
 ·have d1:decide (most<1)=false:=decide_eq_false (by have:=hr.1;omega);have d2:decide (20000<most)=false:=decide_eq_false (by have:=hr.2;omega);have aM:L.length=C.length:=by
   have:=A.tc;have this:(L.map Prod.fst).length=C.length:=this
   rwa [Xm] at this
  have aG:=Sv (B:=Z) H F Q g A M (by rw[aM];exact JV _ _ _ _);rw[aM] at aG;replace aG:=Aa aG;clear E S H K F P Q g A M X T G D U hY ba ce
  gi_wp2_with fail
  refine⟨trivial,(XT.2 aG.out).mono ?_⟩;rintro e w1 ⟨fb,sb,kb,mb,rfl,hF,hS,hK,hM,aq,ao⟩;clear cm a6 be aZ bc aG;obtain⟨f0,f1,f2⟩:=Hc hF;have aw:Nb p most.toNat W.heap.size fb kb J (most.toNat+1) (.pointer (some ⟨sb,0,none⟩)) w1:=by
   obtain⟨E,S,H,K,F,P,Q,g,A,M,X,T,G,D,U⟩:=HP.out;have bx:nt=C.length:=by
    obtain⟨x,y,e⟩:=At Q.t;injection e with _ e _
    rw[e,aM]
   obtain⟨g1,g2⟩:=aaR vs.length fs.length ls.length C.length;rw[bx,<-g1,<-g2] at hS;have q:=FW.start (p:=Al vs fs ls L C) (base:=W.heap.size) hF hS hK hM aq;rw[aj] at q;refine⟨0,_,λb=>b<W.heap.size,rfl,rfl,XD _,by show 1<=most.toNat;have:=hr.1;omega,q,λx w=>?_,E _ _ W w1 U ao.size ao.os ao.tape ao.output (λb g=>ao.block b g),rfl⟩
   rcases w with rfl|rfl|⟨j,r,hj,w⟩
   ·have:=aq.1;omega
   ·have:=aq.2.2.1;omega
   ·cases j with
    |succ j=>cases hj
    |zero=>
     cases hj
     rcases w with rfl|⟨-,rfl⟩|w
     ·have:=aq.2.1;dsimp only;omega
     ·have:=aq.2.2.2;dsimp only;omega
     ·cases w
  replace aw:=Aa aw;have aK:=Aa (⟨ao,aq⟩:_/\_);clear hF hS hK hM aq ao f1 f2;unfold Ab at f0 |-
  gi_wp2_with fail
  gi_loopg [5] (most.toNat+1) (λn iv wr=>Nb p most.toNat W.heap.size fb kb J n iv wr)
  case atStart=>exact aw.out
  case round=>
   obtain⟨i,R,O,hn,rfl,hi,aA,ab,ae,I,u⟩:=hrel;obtain⟨E,S,H,K,F,P,Q,g,A,M,X,T,G,D,U⟩:=HP.out
   cases V:R[i]? with
   |none=>
    have Y:i=R.length:=by have:=List.getElem?_eq_none_iff.1 V;omega
    have a3:Hg (Al vs fs ls L C) most (R.map XS.st) O wr:=by
     refine .inr ⟨hr,_,fb,kb,R,rfl,by rw[<-Y,aj];exact ab,by rw[<-Y];exact ae,?_⟩;rw[aj,<-u];obtain⟨n,rfl⟩:∃n,gk=n+1:=⟨gk - 1,by omega⟩;unfold Fc;rw[Xp,V]
     rfl
    have a4:J (R.map XS.st) O wr:=by rw[Y,List.take_length] at I;exact I
    have HN:=Aa (⟨a3,a4⟩:_/\_);clear E S H K F P Q g A M X T G D U hn hi aA ab ae I u Y a3 a4 HP aw aK V;unfold CR;dsimp only[Option.map_none]
    gi_wp2_with fail
    go_end0
    exact⟨⟨_,rfl⟩,O,.inl ⟨_,HN.out⟩⟩
   |some r=>
    have Y:i<R.length:=(Xe.1 V).1;have bd:Cn wr Z:=H.same (λx w=>(G _ O wr I x (.inl w)).2);have bf:W.heap.size<=wr.heap.size:=by
     have h1:=ab.lo.1;have h2:=ab.lt (.inl rfl:CP fb kb R i fb)
     omega
    have aI:=aaW (B:=Z) bd F bf (by rw[<-aj];exact A) (by rw[<-aj];exact M) ab V;replace aI:=Aa aI;have HO:=Aa (⟨hn,hi,aA,ab,ae,I,u,Y,V⟩:_/\_/\_/\_/\_/\_/\_/\_/\_);clear E S H K F P Q g A M X T G D U hn hi aA ab ae I u Y V bd bf;unfold CR;dsimp only[Option.map_some];unfold Ab at aI |-
    gi_wp2_with fail
    refine⟨trivial,(XT.2 aI.out).mono ?_⟩;rintro e s ⟨rfl,R',c⟩;clear aI;obtain⟨hn,hi,aA,ab,ae,I,u,Y,V⟩:=HO.out;obtain⟨E,S,H,K,F,P,Q,g,A,M,X,T,G,D,U⟩:=HP.out;obtain⟨fk,aN,-⟩:=c.fw.km;have aY:∀q,(Builtin.len_ #[64] 3 #[.map (some kb)]).run Tryz.prog (s.drewN q) = .ok (.int .i64 (R'.length:Int)) (s.drewN q):=λq=>(aN.same (w':=s.drewN q) rfl).len Tryz.underlying64 3;obtain⟨r0,rl,-,-,aO⟩:=c.fw.fo;obtain⟨-,-,g2⟩:=Hc aO;have aD:∀q,J ((R.take i).map XS.st) O (s.drewN q):=λq=>E _ O wr _ I c.kp.size c.kp.os c.kp.tape c.kp.output (λb g=>c.kp.block b (S _ _ _ I b g) (λz=>by
     refine ae b ?_ g
     rcases z with z|z|⟨j,o,ho,z⟩
     ·exact .inl z
     ·exact .inr (.inl z)
     ·exact .inr (.inr ⟨j,o,ho,.inl z⟩)))
    have aC:∀q x,Lf Z Bp Bm x->(s.drewN q).heap[x]?=W.heap[x]?:=λq x w=>(G _ O _ (aD q) x w).2;have bE:s.cell? ⟨Bm,0,none⟩=some (.int .i64 most):=by
     have:=aC 0 Bm (.inr (.inr rfl));have:=this.trans T;have this:s.heap[Bm]?=_:=this;simp[Xh,this]
    have aS:∀q,(s.drewN q).cell? ⟨1,0,none⟩=some (eV true):=λq=>(P.same (w':=s.drewN q) (aC q _ (.inl K.1)) (aC q _ (.inl K.2))).m;have au:=c.VV (S _ _ _ I) ae;have aL:R'.length=(It (Aj p) (Dl false p.C) (R.map Ad.m) r.m).length:=by rw[<-c.ms,Xm]
    obtain⟨n,rfl⟩:∃n,gk=n+1:=⟨gk - 1,by omega⟩;unfold Fc at u;rw[Xp,V] at u;dsimp only[Option.map_some] at u;rw[<-aL] at u
    by_cases aJ:most.toNat<R'.length
    ·have dm:decide (most<(R'.length:Int))=true:=decide_eq_true (by omega);rw[if_pos aJ] at u;have aH:Fv (Al vs fs ls L C) most ((R.take i).map XS.st) (.er true) O s:=⟨hr,by rw[aj];exact u.symm⟩;have k:=λq=>D _ (.er true) O (s.drewN q) (aD q) aH;unfold Ca at k;dsimp only at k;replace k:=Aa k;clear E S H K F P Q g A M X T G D U hn hi aA ab ae I u Y V aN aO aD aC au aL aJ aH c HO HP aw aK
     gi_wp2_with fail
     gi_quiet (fail)
     obtain⟨fn,tmps,a0,body,hy,hR⟩:=k.out nq;have bF:=aS nq;clear aS aY
     gi_wp2_with fail
     refine hR.mono ?_;clear hR hy;rintro e W3 ⟨bb,rfl,a,af,⟨rfl,ac⟩|⟨rfl,ag⟩⟩
     ·have HN:=Aa ac;clear ac af k
      gi_wp2_with fail
      refine XN (ZJ rfl _ _ _) rfl ?_
      exact⟨⟨_,rfl⟩,a,.inl ⟨_,.inl ⟨_,_,rfl⟩,HN.out⟩⟩
     ·have HN:=Aa ag;clear ag af k
      gi_wp2_with fail
      refine XN (ZJ rfl _ _ _) rfl ?_
      exact⟨⟨_,rfl⟩,a,.inr ⟨_,trivial,HN.out⟩⟩
    ·have dm:decide (most<(R'.length:Int))=false:=decide_eq_false (by omega);rw[if_neg aJ] at u;obtain⟨r',am,aQ,-⟩:=c.ext.old i r V;have a7:((R.take i).map XS.st).length<20000:=by rw[Xm,X2];have:=hr.2;omega
     have bj:∀q,Fv (Al vs fs ls L C) most ((R.take i).map XS.st) (.st r') O (s.drewN q):=λq=>⟨a7,by rw[aj];exact(c.stE am au).same rfl (λ_ _=>rfl) (c.stE am au).nb (c.stE am au).nm⟩
     have k:=λq=>D _ (.st r') O (s.drewN q) (aD q) (bj q);unfold Ca Ab at k;dsimp only at k;rw[aQ.1] at k;have aE:∀(W3:Xg) (a:AF) (q:Nat),Steps O (s.drewN q) a W3->J ((R.take i).map XS.st++[.st r']) a W3->W3.cell? ⟨r.b,7,none⟩=some (CR ((R'[i+1]?).map Ad.b))/\Nb p most.toNat W.heap.size fb kb J n (CR ((R'[i+1]?).map Ad.b)) W3:=λW3 a q hS ac=>by
      have hk:∀x,CP fb kb R' (i+1) x->W3.heap[x]?=s.heap[x]?:=λx w=>hS.rest x (c.fw.lt w) (au x w);have aX:=c.fw.same hk;have a8:=aX.st i r' am;rw[aQ.1] at a8;obtain⟨-,-,-,-,-,-,-,c7⟩:=CT a8;refine⟨c7,i+1,R',a,by omega,rfl,?_,by omega,aX,λx w hO=>?_,?_,?_⟩
      ·have:=(Xe.1 am).1;omega
      ·rcases hS.fresh x hO with z|z
       ·exact au x w z
       ·have:=c.fw.lt w;have z:s.heap.size<=x:=z
        omega
      ·rw[c.take Y am,XH];exact ac
      ·rw[c.ms];exact u
     replace k:=Aa k;replace aE:=Aa aE;clear E S H K F P Q g A M X T G D U hn hi aA ab ae I u Y V aN aO aD aC au aL aJ c HO HP aw aK am aQ a7 bj aS
     gi_wp2_with fail
     gi_quiet (fail)
     obtain⟨fn,tmps,a0,body,hy,hR⟩:=k.out nq;clear aY
     gi_wp2_with fail
     refine hR.mono ?_;clear hR hy;rintro e W3 ⟨bb,rfl,a,af,⟨rfl,ac⟩|⟨rfl,ag⟩⟩
     ·obtain⟨c7,hI⟩:=aE.out W3 a nq af ac;replace hI:=Aa hI;clear ac af k aE
      gi_wp2_with fail
      gi_roundg n
      case measure=>exact Xt n
      case rel=>exact hI.out
     ·have HN:=Aa ag;clear ag af k aE
      gi_wp2_with fail
      refine XN (ZJ rfl _ _ _) rfl ?_
      exact⟨⟨_,rfl⟩,a,.inr ⟨_,trivial,HN.out⟩⟩
 ·have bz:(decide (most<1)=true)\/(decide (most<1)=false/\decide (20000<most)=true):=by
   by_cases z:most<1
   ·exact .inl (decide_eq_true z)
   ·refine .inr ⟨decide_eq_false z,decide_eq_true ?_⟩
    by_cases z2:20000<most
    ·exact z2
    ·exact absurd (⟨by omega,by omega⟩:Ck most) hr
  have aH:Fv (Al vs fs ls L C) most [] (.er false) (λb=>b<W.heap.size) W:=hr;obtain⟨fn,tmps,a0,body,hy,hR⟩:=D [] (.er false) _ W U aH;unfold Ca at hy;dsimp only at hy;clear E S H K F P Q g A M X T G D U hY ba aH HP a6 be aZ bc aj
  rcases bz with d1|⟨d1,d2⟩
  all_goals
   gi_wp2_with fail
   refine hR.mono ?_;clear hR hy;rintro e W3 ⟨bb,rfl,a,af,⟨rfl,ac⟩|⟨rfl,ag⟩⟩
   ·have HN:=Aa ac;clear ac af
    gi_wp2_with fail
    refine XN (ZJ rfl _ _ _) rfl ?_
    exact⟨⟨_,rfl⟩,a,.inl ⟨_,.inl ⟨[],_,rfl⟩,HN.out⟩⟩
   ·have HN:=Aa ag;clear ag af
    gi_wp2_with fail
    refine XN (ZJ rfl _ _ _) rfl ?_
    exact⟨⟨_,rfl⟩,a,.inr ⟨_,trivial,HN.out⟩⟩
theorem NL {Z Bp Bm j e f nl d vc fc lc tc:Nat} {va fa la ta:Option Addr} {vs fs ls:List Tx} {L:List (Tx×Xj)} {C:List (List Ac)} {most:Int} {eV:Bool->Xj} {w:Xg} (i : -9223372036854775808<=most/\most<=9223372036854775807)
 (t:Cn w Z) (v:0<Z/\1<Z) (k:Z<=w.heap.size) (n:GY w eV)
 (p:Bz w j (.slice va e vc) (.slice fa f fc) (.slice la nl lc) (.slice ta d tc) vs fs ls L C) (u:Gu vs fs ls L C) (m:BL (Al vs fs ls L C)) (g:DK (Al vs fs ls L C))
 (c:w.heap[Bp]?=some (.cells #[.slice va e vc,.slice fa f fc,.slice la nl lc,.slice ta d tc] 25)) (b:w.heap[Bm]?=some (.cells #[.int .i64 most] 3)) :
 Ia Ye 3 Tryz.prog 53 #[.pointer (some ⟨Bm,0,none⟩),.pointer (some ⟨Bp,0,none⟩)] (Ca eV) (Lf Z Bp Bm) (Fv (Al vs fs ls L C) most) (Hg (Al vs fs ls L C) most) (λ_=>True) w:=
 λl J y W a h _ s r q o=>Tr l h s i (t.same λx z=>a.block x (by omega)) v (Xu k a.size) (n.same (a.block _ (by omega)) (a.block _ (by omega))) (p.below a) u m g
  ((a.block Bp (Xa.1 c).1).trans c) ((a.block Bm (Xa.1 b).1).trans b) r q o
theorem abv {w:Xg} {base:Nat} {v:Xj} {l:List Ev} (h:w.ownsRow base 48 4 v l.length (l.flatMap Dg)) (x:0<l.length) :
 ∃g cap,v = .slice (some ⟨g,0,none⟩) l.length cap/\base<=g/\g<w.heap.size/\l.length<=cap/\cap<=maxLen/\∀j e,l[j]?=some e->w.cell? ⟨g,j*4,none⟩=some (.int .i64 e.t)/\w.cell? ⟨g,j*4+1,none⟩=some (.int .i64 e.k)/\w.cell? ⟨g,j*4+2,none⟩=some (.int .i64 e.o)/\w.cell? ⟨g,j*4+3,none⟩=some (.int .i64 e.v):=by
 rcases id h.2 with⟨-,e⟩|⟨g,cap,y,rfl,n,q,i,p,s,u⟩
 ·omega
 ·refine⟨g,cap,rfl,n,(Xa.1 q).1,i,p,λj e f=>?_⟩;have d:=(Xe.1 f).1;have b:∀c,c<4->w.cell? ⟨g,j*4+c,none⟩=(Dg e)[c]?:=λc b=>by
   rw[h.cellAt (j*4+c) (by omega)];have key:∀(l:List Ev) (j:Nat),l[j]?=some e->(l.flatMap Dg)[j*4+c]?=(Dg e)[c]?:=by
    intro l
    induction l with
    |nil=>intro j d;cases d
    |cons a r m=>
     intro j d;rw[List.flatMap_cons]
     cases j with
     |zero=>
      cases d
      rw[List.getElem?_append_left (by rw[MG];omega),Nat.zero_mul,Nat.zero_add]
     |succ j=>
      rw[List.getElem?_append_right (by rw[MG];omega),MG,show (j+1)*4+c - 4=j*4+c by omega];exact m j d
   exact key l j f
  exact⟨b 0 (by omega),b 1 (by omega),b 2 (by omega),b 3 (by omega)⟩
theorem Ov {x:Int} {l:List Ev} {i:Nat} {a:Ev} (h:l[i]?=some a):Cr x (l.drop i)=match (l.drop (i+1)).find? (λb=>CU a b x) with
 |some b=>some (a,b)
 |none=>Cr x (l.drop (i+1)):=by
 have e:l.drop i=a::l.drop (i+1):=by
  obtain⟨c,e⟩:=Xe.1 h;rw[<-e];exact(X4 c)
 rw[e]
 rfl
theorem abh {q:Ev->Bool} {l:List Ev} {j:Nat} {b:Ev} (h:(l.take j).find? q=none) (c:l[j]?=some b):((l.take (j+1)).find? q=none↔q b=false)/\(q b=true->l.find? q=some b):=by
 have e:l.take (j+1)=l.take j++[b]:=by rw[YY,c];rfl
 constructor
 ·rw[e,Z2,h]
  cases a:q b with
  |false=>simp[a]
  |true=>simp[a]
 ·intro a;have d:l=l.take j++(b::l.drop (j+1)):=by
   obtain⟨g,f⟩:=Xe.1 c;rw[<-f,<-X4 g,List.take_append_drop]
  rw[d,Z2,h];simp[a]
def Id (w w':Xg) (x:Int) (l:List Ev) (v:Xj):Prop:=match Cr x l with
 |none=>v = .slice none 0 0
 |some (a,b)=>∃g,v = .slice (some ⟨g,0,none⟩) 2 2/\w.heap.size<=g/\w'.heap[g]?=some (.cells #[.int .i64 a.t,.int .i64 b.t] 3)
theorem Ue {w:Xg} {b base:Nat} {mv mo fr nx:Xj} {sh:Tx} {g y x:Int} {f:Bool} {l:List Ev} (h:AP w b mv sh g f mo fr y nx) (hm:w.ownsRow base 48 4 mo l.length (l.flatMap Dg)) (hl:l.length<=4) :
 Calls Tryz.prog 27 #[Ab b,.int .i64 x] w λe w'=>∃v,e = .returned v/\Id w w' x l v/\Xn w.heap.size w w':=by
 obtain⟨-,-,-,-,aY,-⟩:=CT h;have aW:b<w.heap.size:=(Xa.1 h).1;obtain⟨ma,mc,aF⟩:=At hm;have HC:Hid (∀u,Xn w.heap.size w u->u.cell? ⟨b,4,none⟩=some (.slice ma l.length mc)):=λu C=>(C.cell (p:=⟨b,4,none⟩) aW).trans (by rw[aY,aF]);have HE:Hid (∀i e,l[i]?=some e->∃m,ma=some ⟨m,0,none⟩/\l.length<=mc/\mc<=maxLen/\∀u,Xn w.heap.size w u->∀j e,l[j]?=some e->u.cell? ⟨m,j*4,none⟩=some (.int .i64 e.t)/\u.cell? ⟨m,j*4+1,none⟩=some (.int .i64 e.k)/\u.cell? ⟨m,j*4+2,none⟩=some (.int .i64 e.o)/\u.cell? ⟨m,j*4+3,none⟩=some (.int .i64 e.v)):=λi e he=>by
  obtain⟨m,cap,q,q1,Y,q3,q4,q5⟩:=abv hm (by have:=(Xe.1 he).1;omega);rw[aF] at q;injection q with e1 _ e2
  subst e1 e2;refine⟨m,rfl,q3,q4,λu C j e hj=>?_⟩;obtain⟨z1,z2,z3,z4⟩:=q5 j e hj
  exact⟨(C.cell (p:=⟨m,j*4,none⟩) Y).trans z1,(C.cell (p:=⟨m,j*4+1,none⟩) Y).trans z2,(C.cell (p:=⟨m,j*4+2,none⟩) Y).trans z3,(C.cell (p:=⟨m,j*4+3,none⟩) Y).trans z4⟩
 have c4:=HC.out w (Xo _ _);replace hl:=Aa hl;clear h hm aF aW aY;unfold Ab
 go_enter Tryz.func27,Tryz.ntmps27
 go_wp2_with fail
 go_loopw [14] (λiv wr=>∃i:Nat,i<=l.length/\iv = .int .i64 i/\Cr x l=Cr x (l.drop i)/\Xn w.heap.size w wr) (λiv _=>l.length - (intOf iv).toNat)
 case atStart=>exact⟨0,XD _,rfl,rfl,Xo _ _⟩
 case round=>
  obtain⟨i,S,rfl,D,s⟩:=hrel
  by_cases B:i<l.length
  ·have bC:(i:Int)<(l.length:Int):=by omega
   obtain⟨a,A⟩:∃a,l[i]?=some a:=⟨_,Xc B⟩;obtain⟨m,rfl,U,V,N⟩:=HE.out i a A;obtain⟨a0,a1,a2,a3⟩:=N wr s i a A;obtain⟨r,H,K,J⟩:=a;dsimp only at a0 a1 a2 a3;have X:=hl.out;have Z:Ya ((i:Int)+1)=(i:Int)+1:=by unfold Ya;omega
   obtain⟨E,G⟩:∃W,wr.alloc (.cells #[.int .i64 r,.int .i64 H,.int .i64 K,.int .i64 J] 48)=W:=⟨_,rfl⟩;have O:Xn wr.heap.size wr E:=by rw[<-G];exact(Xo _ _).alloc (Xf _) _
   have M:E.heap[wr.heap.size]?=some (.cells #[.int .i64 r,.int .i64 H,.int .i64 K,.int .i64 J] 48):=by rw[<-G];exact Xi wr _
   have c:=s.trans (O.mono s.size);have bw:=HC.out E c;have bz:(0:Int)<=(i:Int)+1:=by omega
   have bA:(i:Int)+1<=(mc:Int):=by omega
   have bI:(i:Int)+1<=(l.length:Int):=by omega
   have HO:=Aa (⟨S,D,s,B,A,U,V,N,X,O,M,c⟩:_/\_/\_/\_/\_/\_/\_/\_/\_/\_/\_/\_);replace G:=Aa G;obtain⟨wo,bj⟩:∃z,z=wr:=⟨wr,rfl⟩;subst bj;have ab:Hid (((l.drop (i+1)).find? (λe=>CU ⟨r,H,K,J⟩ e x)=none)->Cr x l=Cr x (l.drop (i+1))):=λz=>by
    rw[D,Ov A,z]
   by_cases bh:mc=i+1
   ·subst bh;have bD:l.length - (i+1)=0:=by omega
    have hlt:Hid (i+1<=l.length):=B;have Q:Hid (Cr x l=Cr x (l.drop (i+1))):=ab.out (by rw[List.drop_eq_nil_of_le (by omega)];rfl);replace c:=Aa c;clear S D s B A U V N X O M c4 HO ab
    go_upto_region 4 with fail
    try rw[G.out]
    clear G
    go_wp2_with fail
    go_loopw [27] (λjv w2=>jv = .int .i64 0/\w2=E) (λ_ _=>0)
    case atStart=>exact⟨rfl,rfl⟩
    case round=>
     obtain⟨rfl,rfl⟩:=hrel
     go_wp2_with fail
     go_roundw
     case rel=>
      (try rw[Z])
      exact⟨i+1,hlt.out,rfl,Q.out,c.out⟩
     case measure=>
      (try rw[Z])
      exact Xs hlt.out (Xt i)
   ·clear S D s B A U V N X O M c c4
    go_upto_region 4 with fail
    try rw[G.out]
    clear G
    go_wp2_with fail
    obtain⟨n,hn⟩:∃n,l.length - (i+1)=n:=⟨_,rfl⟩;rw[hn]
    try rw[Z]
    replace hn:=Aa hn
    go_loopw [27] (λjv w2=>∃j:Nat,j<=n/\jv = .int .i64 j/\((l.drop (i+1)).take j).find? (λe=>CU ⟨r,H,K,J⟩ e x)=none/\Xn E.heap.size E w2) (λjv _=>n - (intOf jv).toNat)
    case atStart=>exact⟨0,XD _,rfl,rfl,Xo _ _⟩
    case round=>
     obtain⟨j,hj,rfl,ag,P⟩:=hrel;obtain⟨S,D,s,B,A,U,V,N,X,O,M,c⟩:=HO.out;have hnn:=hn.out
     by_cases aM:j<n
     ·have bF:(j:Int)<(n:Int):=by omega
      obtain⟨e,he⟩:∃e,l[i+1+j]?=some e:=⟨_,Xc (by omega)⟩;have aX:(l.drop (i+1))[j]?=some e:=by rw[List.getElem?_drop];exact he
      have ax:=c.trans (P.mono c.size);obtain⟨b0,b1,b2,b3⟩:=N wr ax _ e he;have e4:(i+1+j)*4=(i+1)*4+j*4:=by omega
      rw[e4] at b0 b1 b2 b3;obtain⟨I,bk,bo,bv⟩:=e;dsimp only at b0 b1 b2 b3;obtain⟨d,T⟩:∃W,wr.alloc (.cells #[.int .i64 I,.int .i64 bk,.int .i64 bo,.int .i64 bv] 48)=W:=⟨_,rfl⟩;have ay:Xn wr.heap.size wr d:=by rw[<-T];exact(Xo _ _).alloc (Xf _) _
      have kB:d.heap[wr.heap.size]?=some (.cells #[.int .i64 I,.int .i64 bk,.int .i64 bo,.int .i64 bv] 48):=by rw[<-T];exact Xi wr _
      have aC:wr.heap[wo.heap.size]?=_:=(P.block wo.heap.size (Xa.1 M).1).trans M;have aD:d.heap[wo.heap.size]?=_:=(ay.block wo.heap.size (Xa.1 aC).1).trans aC;have ac:=fun(u:Xg) (C:Xn d.heap.size d u)=>Df ((C.block _ (Xa.1 aD).1).trans aD);have ah:=fun(u:Xg) (C:Xn d.heap.size d u)=>Df ((C.block _ (Xa.1 kB).1).trans kB);obtain⟨p0,p1,p2,p3⟩:=ac d (Xo _ _);obtain⟨q0,q1,Y,q3⟩:=ah d (Xo _ _);have ao:=ab4 ⟨r,H,K,J⟩ ⟨I,bk,bo,bv⟩ x d;unfold CM at ao;dsimp only at ao;obtain⟨aE,aR⟩:=abh ag aX;have aj:Xn w.heap.size w d:=ax.trans (ay.mono ax.size);have a5:Xn E.heap.size E d:=P.trans (ay.mono P.size);have aV:Ya ((j:Int)+1)=(j:Int)+1:=by unfold Ya;omega
      have ap:Hid (CU ⟨r,H,K,J⟩ ⟨I,bk,bo,bv⟩ x=true->∀(u:Xg) (gq:Nat),w.heap.size<=gq->u.heap[gq]?=some (.cells #[.int .i64 r,.int .i64 I] 3)->Id w u x l (.slice (some ⟨gq,0,none⟩) 2 2)):=λz u gq h1 h2=>by
       unfold Id;rw[D,Ov A,aR z]
       exact⟨gq,rfl,h1,h2⟩
      generalize CU ⟨r,H,K,J⟩ ⟨I,bk,bo,bv⟩ x=cl at ao aE ap;have HJ:=Aa (⟨aM,aE,aj,a5⟩:_/\_/\_/\_);replace ac:=Aa ac;replace ah:=Aa ah;replace T:=Aa T;clear hj ag P S D s B A U V N X O M c hnn aM he aX ax e4 ay kB aC aD aE aR aj a5 HO HE HC ab
      go_upto_region 7 with fail
      try rw[T.out]
      clear T
      go_wp2_with fail
      refine ao.mono ?_;rintro e' R ⟨rfl,F⟩;obtain⟨bB,bt,bE,bK⟩:=ac.out R F;obtain⟨bx,bG,bJ,bH⟩:=ah.out R F;replace F:=Aa F;clear ao ac ah p0 p1 p2 p3 q0 q1 Y q3
      cases cl with
      |true=>
       have a7:Hid (∃v,Ending.returned (Value.slice (some ⟨R.heap.size,0,none⟩) 2 2) = .returned v/\Id w (R.alloc (.cells #[.int .i64 r,.int .i64 I] 3)) x l v/\Xn w.heap.size w (R.alloc (.cells #[.int .i64 r,.int .i64 I] 3))):=by
        obtain⟨-,-,aj,-⟩:=HJ.out;have aI:=aj.trans (F.out.mono aj.size)
        exact⟨_,rfl,ap.out rfl _ _ aI.size (Xi R _),aI.alloc aI.size _⟩
       clear HJ ap F
       go_wp2_with fail
       go_ret
       exact a7.out
      |false=>
       have av:Hid (j+1<=n/\((l.drop (i+1)).take (j+1)).find? (λe=>CU ⟨r,H,K,J⟩ e x)=none/\Xn E.heap.size E R):=by
        obtain⟨h1,h2,-,h4⟩:=HJ.out
        exact⟨h1,h2.2 rfl,h4.trans (F.out.mono h4.size)⟩
       clear HJ ap F
       go_wp2_with fail
       go_roundw
       case rel=>
        (try rw[aV])
        exact⟨j+1,av.out.1,rfl,av.out.2.1,av.out.2.2⟩
       case measure=>
        (try rw[aV])
        exact Xs av.out.1 (Xt j)
     ·have a9:j=n:=by omega
      subst a9;have Q:Hid (i+1<=l.length/\Cr x l=Cr x (l.drop (i+1))/\Xn w.heap.size w wr):=by
       refine⟨B,ab.out ?_,c.trans (P.mono c.size)⟩;rw[List.take_of_length_le (by rw[List.length_drop];omega)] at ag;exact ag
      clear hj ag P S D s B A U V N X O M c hnn aM HO HE HC ab
      go_wp2_with fail
      go_roundw
      case rel=>
       (try rw[Z])
       exact⟨i+1,Q.out.1,rfl,Q.out.2⟩
      case measure=>
       (try rw[Z])
       exact Xs Q.out.1 (Xt i)
  ·have a6:i=l.length:=by omega
   have Q:Hid (Id w wr x l (.slice none 0 0)/\Xn w.heap.size w wr):=by
    refine⟨?_,s⟩;unfold Id;rw[D,a6,List.drop_length]
    rfl
   subst a6;clear D s S B HC HE c4
   go_wp2_with fail
   go_ret
   exact⟨_,rfl,Q.out⟩
end Go.Proofs.YtdcacoifehkioaaGreatDoor
