import Derived.Test.YtdcacoifehkioaaGreatDoorExH21
import Derived.Sort.LoopGhostIn
import Derived.Sort.CutIn
import Derived.Sort.QuietIn
import Derived.Shelf.Abstract
import Derived.Shelf.RegionOpen
import Derived.WalkKit
import Derived.OwnWalkIn
import Derived.TacticsInMore
import Derived.LoopNIn
import Derived.LoopIn
import Derived.Maps.OwnIn
import Derived.Test.YtdcacoifehkioaaGreatDoorExH20
open Go renaming Value->Xk,World->Xh,callsIn_wide->X4,heap_setCell_other->Xt,bodyPost_ret->XJ,results_none->Z8
open Go.Fence renaming wide->Yp
open Array renaming getElem?_eq_some_iff->Xa,replicate_succ->YQ,replicate_zero->YR
open List renaming range->YB,map_append->XI,take_zero->af7,take_add_one->Yh,getElem?_take->Zf,getElem?_eq_getElem->Xe,getElem?_eq_some_iff->Xf,getElem?_map->Xs,getD_eq_getElem?_getD->Xc,length_take->X5,size_toArray->Yt,length_cons->XH,length_nil->X3,push_toArray->Zc,append_toArray->YW,nil_append->YV,cons_append->YL,length_map->Xp,drop_eq_getElem_cons->X1,find?_append->afJ
open Nat renaming lt_succ_self->Xn,lt_irrefl->afI,le_refl->Xd,zero_le->Xw,le_trans->Xu,sub_lt_sub_left->Xl,reduceAdd->Zs,reduceSub->ZR
open Go.World renaming cell?_of_block->Xy,alloc_heap_new->Xi,frozen?->XP,cell?->Xg
open Go.RowKit renaming wrap64->XO,Below->Xm
open Go.RowKit.Below renaming refl->Xq
set_option maxRecDepth 100000
set_option maxHeartbeats 4000000
set_option linter.unusedVariables false
set_option linter.unusedSimpArgs false
namespace Go.Proofs.YtdcacoifehkioaaGreatDoor
open Go.RowKit
theorem UB {m:Nat} (d:Nat) {P:Program} {l:Nat} {args:Array Xk} {W:Xh} {R:Ending->Xh->Prop} (h:YieldAt Yp m P l args W R):YieldAt Yp d P l args W R:=by
 obtain⟨fn,tmps,b,body,e,a⟩:=h
 exact⟨fn,tmps,b,body,e,a.1,λc cs _=>a.2 c cs (room_wide _)⟩
theorem IV.any {α:Type} {n:Nat} (m:Nat) {P:Program} {g:Nat} {lb:Array Xk} {a:α->Array Xk} {c:AS} {E:List α->α->AS->Xh->Prop} {S:List α->AS->Xh->Prop} {b:List α->Prop} {w:Xh} (h:IV Yp n P g lb a c E S b w):IV Yp m P g lb a c E S b w:=
 λl J f W j i t s e p k=>X4.2 (X4.1 (h l J f W j i t s e (λq x O o d r=>UB _ (p q x O o d r)) k))
end Go.Proofs.YtdcacoifehkioaaGreatDoor
namespace Go.Proofs.YtdcacoifehkioaaGreatDoor
open Go.RowKit Go.Shelf Go.Proofs.Cod
inductive XS where
 |st (r:Ag)
 |er (b:Bool)
def CM (eV:Bool->Xk):XS->Array Xk
 |.st r => #[Ab r.b,.nilIface]
 |.er b => #[.pointer none,eV b]
def DH (p:PD):MS:=AH p.vs.length p.fs.length p.ls.length p.C.length
def CT (p:PD) (most:Nat):Option (List MS):=Cr (Aj p) (BC false p.C) most (most+1) [DH p] 0
def BZ (most:Int):Prop:=1<=most/\most<=20000
structure IU (p:PD) (r:Ag) (O:AS) (W:Xh):Prop where
 ok:BT p r.m
 st:∃nx,Bb W r.b (.pointer none) (Aj p r.m) (Au r.m) (Bw r.m) r.mo (DO r.fr) r.y nx
 mo:∃base,W.ownsRow base 48 4 r.mo (Bj p.C r.m).length ((Bj p.C r.m).flatMap Ef)
 nb:¬O r.b
 nm:∀x,r.mo.ownBlock=some x->¬O x
def Gz (p:PD) (most:Int) (pre:List XS) (x:XS) (O:AS) (W:Xh):Prop:=match x with
 |.st r=>pre.length<20000/\IU p r O W
 |.er false=>¬BZ most
 |.er true=>BZ most/\CT p most.toNat=none
def IE (p:PD) (most:Int) (xs:List XS) (O:AS) (W:Xh):Prop:=(∃pre e,xs=pre++[.er e])\/
 (BZ most/\∃base fb kb R,xs=R.map XS.st/\FW W p base fb kb R R.length 0/\(∀x,DK fb kb R R.length x->¬O x)/\CT p most.toNat=some (R.map Ag.m))
theorem IU.lt {p:PD} {r:Ag} {O:AS} {W:Xh} (h:IU p r O W):r.b<W.heap.size:=by
 obtain⟨nx,q⟩:=h.st
 exact(Xa.1 q).1
theorem IU.same {p:PD} {r:Ag} {O c:AS} {W a:Xh} (h:IU p r O W) (d:a.heap[r.b]?=W.heap[r.b]?) (f:∀x,r.mo.ownBlock=some x->a.heap[x]?=W.heap[x]?) (e:¬c r.b) (nm:∀x,r.mo.ownBlock=some x->¬c x):IU p r c a:=by
 refine⟨h.ok,?_,?_,e,nm⟩
 ·obtain⟨nx,q⟩:=h.st
  exact⟨nx,d.trans q⟩
 ·obtain⟨base,q⟩:=h.mo
  exact⟨base,Ea q f⟩
theorem PG {p:PD} {most:Int} (f:List XS) (x:XS) (O:AS) (W:Xh) (g:AS) (e:Xh) (h:Gz p most f x O W) (c:Steps O W g e):Gz p most f x g e:=by
 cases x with
 |st r=>
  obtain⟨i,h⟩:=h;obtain⟨base,q⟩:=h.mo;refine⟨i,h.same (c.rest r.b h.lt h.nb) (λx a=>c.rest x (q.lt x a).2 (h.nm x a)) (λd=>?_) (λx a d=>?_)⟩
  ·rcases c.fresh _ d with z|z
   ·exact h.nb z
   ·have:=h.lt;omega
  ·rcases c.fresh _ d with z|z
   ·exact h.nm x a z
   ·have:=(q.lt x a).2;omega
 |er b=>cases b<;>exact h
theorem PH {p:PD} {most:Int} (d:List XS) (x:XS) (O c:AS) (W:Xh) (h:Gz p most d x O W) (a:∀b,c b->O b):Gz p most d x c W:=by
 cases x with
 |st r=>exact⟨h.1,h.2.same rfl (λ_ _=>rfl) (λz=>h.2.nb (a _ z)) (λx e z=>h.2.nm x e (a _ z))⟩
 |er b=>cases b<;>exact h
theorem PA {p:PD} {most:Int} (d:List XS) (O:AS) (W a:Xh) (h:IE p most d O W) (_:W.heap.size<=a.heap.size) (i:∀b,b<W.heap.size->¬O b->a.heap[b]?=W.heap[b]?):IE p most d O a:=by
 rcases h with h|⟨m,base,g,k,R,l,c,e,j⟩
 ·exact .inl h
 ·exact .inr ⟨m,base,g,k,R,l,c.same (λx f=>i x (c.lt f) (e x f)),e,j⟩
theorem PC {p:PD} {most:Int} (a:List XS) (O c:AS) (W:Xh) (h:IE p most a O W) (f:∀b,c b->O b):IE p most a c W:=by
 rcases h with h|⟨m,base,e,i,R,l,d,j,g⟩
 ·exact .inl h
 ·exact .inr ⟨m,base,e,i,R,l,d,λx k z=>j x k (f x z),g⟩
def OD (p:PD) (most base fb kb:Nat) (J:List XS->AS->Xh->Prop) (n:Nat) (iv:Xk) (wr:Xh):Prop:=
 ∃(i:Nat) (R:List Ag) (O:AS),n+i=most+1/\iv=DO ((R[i]?).map Ag.b)/\i<=R.length/\R.length<=most/\FW wr p base fb kb R i 0/\(∀x,DK fb kb R i x->¬O x)/\J ((R.take i).map XS.st) O wr/\Cr (Aj p) (BC false p.C) most n (R.map Ag.m) i=CT p most
theorem ac9 (nv nf nl nt:Nat):(Au (AH nv nf nl nt):Int)=min (nt:Int) 1/\Bw (AH nv nf nl nt)=false:=by
 have b:∀n,((YB n).map λt=>if t=0 then({AC with ph:=1}:TS) else AC).countP (λth=>th.ph == 1)=min n 1/\((YB n).map λt=>if t=0 then({AC with ph:=1}:TS) else AC).any (λth=>th.ph == 3)=false:=by
  intro n
  induction n with
  |zero=>exact⟨rfl,rfl⟩
  |succ n a=>
   rw[List.range_succ,XI,List.countP_append,List.any_append,a.1,a.2]
   cases n with
   |zero=>exact⟨rfl,rfl⟩
   |succ n=>
    have e:[n+1].map (λt=>if t=0 then({AC with ph:=1}:TS) else AC)=[AC]:=by simp
    rw[e];refine⟨?_,rfl⟩;show min (n+1) 1+0=_
    omega
 constructor
 ·show (((((YB nt).map λt=>if t=0 then({AC with ph:=1}:TS) else AC).countP λth=>th.ph == 1:Nat)):Int)=_;rw[(b nt).1]
  omega
 ·exact(b nt).2
theorem FW.start {w:Xh} {p:PD} {base d c sb mb:Nat} (i:Ek w d (Ab sb) sb c) (l:Bb w sb (Ab mb) (Aj p (DH p)) (Au (DH p)) (Bw (DH p)) (.slice none 0 0) (.pointer none) 0 (.pointer none)) (m:AB sk w c (Bz (λ_=>none) (Aj p (DH p)) (.agg #[])) 1) (k:AP w mb p (DH p)) (b:base<=d/\base<=sb/\base<=c/\base<=mb) :
 FW w p base d c [⟨sb,DH p,mb,none,0,.slice none 0 0⟩] 0 0:=by
 have a:∀(j:Nat) (r:Ag),([⟨sb,DH p,mb,none,0,.slice none 0 0⟩]:List Ag)[j]?=some r->j=0/\r=⟨sb,DH p,mb,none,0,.slice none 0 0⟩:=λj r h=>by
  cases j with
  |zero=>cases h;exact⟨rfl,rfl⟩
  |succ j=>cases h
 refine⟨⟨_,_,rfl,rfl,i⟩,⟨_,m,λx u h=>?_,λx=>?_⟩,λj r h=>?_,λj r h _=>?_,λj r h=>?_,λj r h _=>?_,λj r h=>?_,λj f r r' h g _=>?_,λj f r r' x h g _ _=>?_,⟨b.1,b.2.2.1,λj r h=>?_⟩,λj r h=>?_⟩
 ·unfold Bz at h
  by_cases e:x=Aj p (DH p)
  ·rw[if_pos e] at h;cases h;rfl
  ·rw[if_neg e] at h;cases h
 ·unfold Bz Gg
  by_cases e:x=Aj p (DH p)
  ·rw[if_pos e];simp[e]
  ·rw[if_neg e];simp[e]
 ·obtain⟨rfl,rfl⟩:=a j r h;exact l
 ·obtain⟨rfl,rfl⟩:=a j r h;exact k
 ·obtain⟨rfl,rfl⟩:=a j r h;rw[Ni,af7];exact World.ownsRow_nil w base 48 4
 ·obtain⟨rfl,rfl⟩:=a j r h
  rfl
 ·obtain⟨rfl,rfl⟩:=a j r h;exact Jo _ _ _ _
 ·rw[(a j r h).1,(a f r' g).1]
 ·rw[(a j r h).1,(a f r' g).1]
 ·obtain⟨rfl,rfl⟩:=a j r h
  exact⟨b.2.1,b.2.2.2⟩
 ·obtain⟨rfl,rfl⟩:=a j r h;exact .inl ⟨rfl,rfl,rfl⟩
theorem Ck.same {w w':Xh} {B:Nat} (h:Ck w B) (b:∀x,x<B->w'.heap[x]?=w.heap[x]?):Ck w' B:=by
 have c:=h.lt;refine⟨?_,?_,?_,c⟩
 ·obtain⟨fr,q⟩:=h.heads
  exact⟨fr,(b _ (by show 2<B;omega)).trans q⟩
 ·obtain⟨fr,q⟩:=h.shapes
  exact⟨fr,(b _ (by show 3<B;omega)).trans q⟩
 have a:=h.pow;unfold Lib.TabIs World.var? at a |-;rw[Tryz.powG] at a |-;simp only[Option.bind_some] at a |-;rw[b 5 (by omega)];exact a
theorem Hz.abu {wr t:Xh} {p:PD} {base f g i:Nat} {R R':List Ag} {m:MS} (h:Hz wr t p base f g R i m R') {O:AS} (l:∀b,O b->b<wr.heap.size) (c:∀x,DK f g R i x->¬O x):∀x,DK f g R' (i+1) x->¬O x:=by
 rintro x (rfl|rfl|⟨j,q,k,a⟩)
 ·exact c x (.inl rfl)
 ·exact c x (.inr (.inl rfl))
 ·rcases h.ext.new j q k with⟨o,d⟩|⟨z1,z2,z3⟩
  ·obtain⟨v,r,n,u⟩:=h.ext.old j o d;rw[k] at r
   cases r
   rcases a with rfl|⟨s,rfl⟩|a
   ·exact c _ (.inr (.inr ⟨j,o,d,.inl n.1⟩))
   ·exact c _ (.inr (.inr ⟨j,o,d,.inr (.inl ⟨by omega,n.2.2.1⟩)⟩))
   ·by_cases e:j=i
    ·subst e;have:=h.mo q x k a;intro z;have:=l x z
     omega
    ·rw[u e] at a;exact c _ (.inr (.inr ⟨j,o,d,.inr (.inr a)⟩))
  ·intro z;have w:=l x z
   rcases a with rfl|⟨s,rfl⟩|a
   ·omega
   ·omega
   ·rw[z3] at a;cases a
theorem Hz.take {wr c:Xh} {p:PD} {base b f i:Nat} {R R':List Ag} {m:MS} {r':Ag} (h:Hz wr c p base b f R i m R') (k:i<R.length) (a:R'[i]?=some r'):R'.take (i+1)=R.take i++[r']:=by
 rw[Yh,a]
 congr 1
 apply List.ext_getElem?
 intro j;rw[Zf,Zf]
 by_cases e:j<i
 ·rw[if_pos e,if_pos e];obtain⟨q,g,-,d⟩:=h.ext.old j R[j] (Xe (by omega));rw[g,d (by omega),Xe (by omega)]
 ·rw[if_neg e,if_neg e]
theorem Hz.stE {wr c:Xh} {p:PD} {base b d i:Nat} {R R':List Ag} {m:MS} {r':Ag} (h:Hz wr c p base b d R i m R') (a:R'[i]?=some r') {O:AS} (e:∀x,DK b d R' (i+1) x->¬O x):IU p r' O c:=by
 refine⟨h.fw.ok i r' a,⟨_,by have:=h.fw.st i r' a;rw[if_pos (Xn i)] at this;exact this⟩,⟨base,?_⟩,e _ (.inr (.inr ⟨i,r',a,.inl rfl⟩)),λx f=>e _ (.inr (.inr ⟨i,r',a,.inr (.inr f)⟩))⟩;have:=h.fw.mo i r' a;unfold Fy at this;rw[if_pos (Xn i)] at this;exact this
theorem adg {w:Xh} {B base J M i:Nat} {p:PD} {R:List Ag} {r:Ag} (Y:Ck w B) (hB:B<=base) (af:base<=w.heap.size) (u:Cs p) (S:DX p) (h:FW w p base J M R i 0) (F:R[i]?=some r) :
 Calls Tryz.prog 55 #[Ab J,Ab r.b] w λe w'=>e = .returned (.tuple #[])/\∃R',Hz w w' p base J M R i r.m R':=by
 have hS:=h.st i r F;rw[if_neg (afI _)] at hS;obtain⟨c0,-⟩:=DR hS;have au:=QL (h.ma i r F (Xd _)) u (h.ok i r F);have P:=(Xf.1 F).1;have N:(AG p.C r.m).length<=4:=by
  have:=Jh p.C r.m r.m.thr.length;have e:=(h.ok i r F).tl;have:=u.fit.four;unfold AG
  omega
 obtain⟨m,D⟩:∃x,r.m=x:=⟨_,rfl⟩;obtain⟨rb,H⟩:∃x,r.b=x:=⟨_,rfl⟩;obtain⟨mb,I⟩:∃x,r.mb=x:=⟨_,rfl⟩;rw[D] at au N;rw[H,I] at c0;rw[I] at au;rw[H,D];obtain⟨l,n⟩:∃x,AG p.C m=x:=⟨_,rfl⟩;rw[n] at au N;have HP:=Aa (⟨Y,hB,af,u,S,h,F,P,D,H,I,n,N⟩:_/\_/\_/\_/\_/\_/\_/\_/\_/\_/\_/\_/\_);clear Y hB af u S h F P D H I n hS N;unfold Ab at au c0 |-
 go_enter Tryz.func55,Tryz.ntmps55
 go_wp2_with fail
 refine au.mono ?_;rintro e w1 ⟨v,rfl,aK,bb⟩;clear au c0;obtain⟨ra,rc,rfl⟩:=At aK;have hz:Hid (∀k,k<l.length->∃g,ra=some ⟨g,0,none⟩/\w.heap.size<=g/\g<w1.heap.size/\w1.cell? ⟨g,k,none⟩=some (.int .i64 (l.getD k 0))):=λk hk=>by
  rcases id aK.2 with⟨e,e2⟩|⟨g,cap,b8,e,h1,h2,-⟩
  ·omega
  ·injection e with e _ _
   subst e;refine⟨g,rfl,h1,(Xa.1 h2).1,?_⟩;have:=aK.cellAt k (by omega);rw[this,Xs,Xe hk,Xc,Xe hk]
   rfl
 have d:LI w1 w1 p base J M R i m 0 0 R:=by
  obtain⟨Y,hB,af,u,S,h,F,P,D,H,I,n,N⟩:=HP.out;refine⟨h.below bb,by rw[af7];rfl,Gw.refl _ _ _,λq x c G=>?_,Ac.refl _⟩;rw[h.mn i q c (.inr ⟨rfl,rfl⟩)] at G
  cases G
 have H1:=Aa (⟨d,bb⟩:_/\_);clear d bb aK
 go_wp2_with fail
 go_loopw [15] (λiv wr=>∃(k:Nat) (R':List Ag),k<=l.length/\iv = .int .i64 k/\LI w1 wr p base J M R i m k k R') (λiv _=>l.length - (intOf iv).toNat)
 case atStart=>exact⟨0,R,Xw _,rfl,H1.out.1⟩
 case round=>
  obtain⟨k,R',hk,rfl,d⟩:=hrel;obtain⟨Y,hB,af,u,S,h,F,P,D,H,I,n,N⟩:=HP.out;obtain⟨q,c,E,-⟩:=d.ext.old i r F;have ay:=d.fw.st i q c;rw[if_neg (afI _),E.1,E.2.1,E.2.2.1,H,D,I] at ay;obtain⟨c0,-⟩:=DR ay;unfold Ab at c0
  by_cases h5:k<l.length
  ·obtain⟨g,rfl,b1,bu,ca⟩:=hz.out k h5;have bH:wr.cell? ⟨g,k,none⟩=_:=(Xy (w:=w1) (a:=⟨g,k,none⟩) (d.kp.block g bu (λe=>by
    have K:∀x,DK J M R i x->x<w.heap.size:=λx G=>h.lt G
    rcases e with rfl|rfl|⟨j,o,ho,rfl⟩
    ·have:=K g (.inl rfl);omega
    ·have:=K g (.inr (.inl rfl));omega
    ·have:=K o.b (.inr (.inr ⟨j,o,ho,.inl rfl⟩));omega))).trans ca
   have ce:(k:Int)<(l.length:Int):=by omega
   obtain⟨t,aP⟩:∃x,l.getD k 0=x:=⟨_,rfl⟩;rw[aP] at bH;clear ca;have K:l[k]?=some t:=by rw[<-aP,Xc,Xe h5];rfl
   have aq:=d.fw.ma i q c (Xd _);rw[E.2.1,E.2.2.1,D,I] at aq;have hC:=aer aq;have ak:=d.fw.ok i q c;rw[E.2.1,D] at ak;have am:AO p.C m t=0:=by rw[<-n] at K;exact Ie (List.mem_of_getElem? K)
   have aO:=fun(w2:Xh) (az:AP w2 wr.heap.size p m)=>Mu az u ak t;have bk:XO ((k:Int)+1)=(k:Int)+1:=by unfold XO;omega
   have HO:=Aa (⟨d,c,E,aq,am,K,h5,N,ak⟩:_/\_/\_/\_/\_/\_/\_/\_/\_);replace aO:=Aa aO;replace aP:=Aa aP;unfold Ab at hC;clear d c E aq am K h5 N ak Y hB af u S h F P D H I n ay hk b1 bu
   go_wp2_with fail
   refine hC.mono ?_;rintro e w2 ⟨rfl,az,ab⟩;have aI:=aO.out w2 az;unfold Ab at aI;replace ab:=Aa ab;replace az:=Aa az;clear hC aO c0 bH;obtain⟨mB,an⟩:∃x,wr.heap.size=x:=⟨_,rfl⟩;rw[an] at aI |-;replace an:=Aa an
   go_wp2_with fail
   refine aI.mono ?_;rintro e w3 ⟨rfl,aG,aw⟩;obtain⟨d,c,E,aq,am,K,h5,N,ak⟩:=HO.out;obtain⟨Y,hB,af,u,S,h,F,P,D,H,I,n,-⟩:=HP.out;have e3:Ib p.C m t=Ay false p.C m t:=by unfold Ib;rw[if_pos am]
   rw[e3] at aG |-;rw[am];have aL:Xm wr.heap.size wr w3:=⟨aw.os.trans ab.out.os,aw.tape.trans ab.out.tape,aw.output.trans ab.out.output,Xu ab.out.size aw.size,λx G=>(aw.block x (by have:=ab.out.size;omega) (by have:=an.out;omega)).trans (ab.out.block x G)⟩;obtain⟨ev,aS⟩:∃x,(Ay false p.C m t).2=x:=⟨_,rfl⟩;obtain⟨m',aJ⟩:∃x,(Ay false p.C m t).1=x:=⟨_,rfl⟩;rw[aS];rw[aJ] at aG;obtain⟨T,Q,X,ez⟩:=ev;obtain⟨s,ar⟩:∃x,w3.alloc (.cells #[.int .i64 T,.int .i64 Q,.int .i64 X,.int .i64 ez] 48)=x:=⟨_,rfl⟩;have aM:Xm w3.heap.size w3 s:=by rw[<-ar];exact(Xq _ _).alloc (Xd _) _
   have kE:s.heap[w3.heap.size]?=some (.cells #[.int .i64 T,.int .i64 Q,.int .i64 X,.int .i64 ez] 48):=by rw[<-ar];exact Xi w3 _
   obtain⟨eb,aH⟩:∃x,w3.heap.size=x:=⟨_,rfl⟩;rw[aH] at kE;have aX:Xm wr.heap.size wr s:=aL.trans (aM.mono aL.size);have hd:Xm s.heap.size s s.drew:=⟨rfl,rfl,rfl,Xd _,λ_ _=>rfl⟩;have av:=(d.below (r:=⟨rb,m,mb,none,0,.slice none 0 0⟩) (aX.trans (hd.mono aX.size)));have A:q.m=m:=E.2.1.trans D;have Z:q.b=rb:=E.1.trans H;have be:(Bj p.C q.m)[k]?=some ⟨T,Q,X,ez⟩:=by rw[A,<-aS];exact abt (by rw[n];exact K)
   have aN:=av.fw.mo i q c;rw[Ni] at aN;have aR:((Bj p.C q.m).take k).length=k:=by rw[X5,Nk,A,n];omega
   have bf:base<=s.drew.heap.size:=by have:=av.kp.size;have:=H1.out.2.size;omega
   obtain⟨gg,bL,W,ah,aV,aA,bj⟩:=adW aN ⟨T,Q,X,ez⟩ (by omega) bf;obtain⟨nv,aC⟩:∃x,Value.slice (some ⟨gg,0,none⟩) (((Bj p.C q.m).take k).length+1) bL=x:=⟨_,rfl⟩;rw[aC] at ah aV;have U:=LI.push (r:=q) (by rw[A];exact av) c P be aA aV (λx G=>by rw[<-aC] at G;cases G;exact bj);obtain⟨O,ac⟩:∃x,W.setCell ⟨rb,4,none⟩ nv=x:=⟨_,rfl⟩;have bg:W.setCell ⟨q.b,4,none⟩ nv=O:=by rw[Z];exact ac
   rw[bg] at U;clear bg;have aB:=av.fw.st i q c;rw[Z] at aB;have bI:rb<s.heap.size:=(Xa.1 aB).1;obtain⟨bS,bW,bn,bP⟩:=av.fw.kinds;have ba:W.heap[rb]?=s.heap[rb]?:=aA.block rb bI (λz=>((bn i i q q c c).2 _ z).1 Z.symm);obtain⟨-,-,-,-,bq,-⟩:=DR aB;have c4:s.cell? ⟨rb,4,none⟩=some q.mo:=bq;clear bq;have d4:W.cell? ⟨rb,4,none⟩=some q.mo:=(Xy (w:=s) (a:=⟨rb,4,none⟩) ba).trans c4;have f4:W.frozen? ⟨rb,4,none⟩=false:=by
    have z:=ba.trans aB;simp[XP,z]
   have bQ:=d.kp.size;have bM:=aL.size;have b6:wr.heap.size<=eb:=by omega
   have a0:∀x,q.mo.ownBlock=some x->x<wr.heap.size:=λx G=>((d.fw.mo i q c).lt x G).2;have bA:eb<s.heap.size:=(Xa.1 kE).1;have bX:rb<wr.heap.size:=by have:=d.fw.lt (.inr (.inr ⟨i,q,c,.inl rfl⟩):DK J M R' i q.b);omega
   have k5:O.heap[eb]?=some (.cells #[.int .i64 T,.int .i64 Q,.int .i64 X,.int .i64 ez] 48):=by
    rw[<-ac,Xt W ⟨rb,4,none⟩ eb _ (by show eb≠rb;omega)]
    exact(aA.block eb bA (λz=>by have:=a0 eb z;omega)).trans kE
   obtain⟨x0,x1,x2,x3⟩:=Ee kE;obtain⟨y0,y1,y2,y3⟩:=Ee k5;have aT:AP O mB p m':=by
    have a:=aG.below aM;have b7:=aG.lt;refine(a.same (w':=W) (aA.block mB (by show mB<s.heap.size;have:=aM.size;omega) (λz=>by have:=a0 mB z;have:=an.out;omega))).same ?_;rw[<-ac];exact Xt W ⟨rb,4,none⟩ mB _ (by show mB≠rb;have:=an.out;omega)
   have aZ:=(IG c nv i).trans (if_pos rfl);have a5:=U.fw.st i _ aZ;have br:Bb O rb (Ab q.mb) (Aj p q.m) (Au q.m) (Bw q.m) nv (DO q.fr) q.y (Ff (R'.set i {q with mo:=nv}) i):=by
    rw[if_neg (afI _)] at a5;rw[<-Z];exact a5
   clear a5;obtain⟨r0,f,g0,gl,bw⟩:=U.fw.fo;obtain⟨fk,bp,hU,bt⟩:=U.fw.km;have a9:=U.fw.st _ f gl;have bi:Ff (R'.set i {q with mo:=nv}) ((R'.set i {q with mo:=nv}).length - 1) = .pointer none:=by
    unfold Ff;rw[List.getElem?_eq_none (by omega)];rfl
   rw[bi] at a9;obtain⟨bK,aW⟩:=Rb u.fit ak am;rw[aJ] at aW;have bx:Ck O B:=by
    refine Y.keep ((H1.out.2.mono (by omega)).trans (U.kp.aeL (λx G=>?_) (by have:=H1.out.2.size;omega)))
    rcases G with rfl|rfl|⟨j,o,ho,rfl⟩
    ·have:=h.lo.1;omega
    ·have:=h.lo.2.1;omega
    ·have:=(h.lo.2.2 j o ho).1;omega
   have bh:B<=O.heap.size:=by have:=U.kp.size;have:=H1.out.2.size;omega
   have hA:=ae7 bx bh bw bp br (by rw[A];exact ada ak u.fit.four) a9 aT u aW S hU ⟨T,Q,X,ez⟩;have ah:(Builtin.append_ #[73,73] 73 #[q.mo,.slice (some ⟨s.heap.size,0,none⟩) 1 1]).run Tryz.prog (s.alloc (.cells #[.int .i64 T,.int .i64 Q,.int .i64 X,.int .i64 ez] 48)).drew = .ok nv W:=ah;have bJ:Hid (∀w6,Ml O w6 J f.b M rb mB (Ab r0.b) fk (R'.set i {q with mo:=nv}).length (Aj p m') (Au q.m) (Bw q.m) (if (R'.set i {q with mo:=nv}).length - 1<i then .pointer none else Ab f.mb) f.mo (DO f.fr) (Aj p f.m) (Au f.m) f.y (Bw f.m) ⟨T,Q,X,ez⟩->k+1<=l.length/\∃ax,LI w1 w6 p base J M R i m (k+1) (k+1) ax):=λw6 ao=>by
    have e1:(Ay false p.C q.m t).1=m':=by rw[A];exact aJ
    have e2:(Ay false p.C q.m t).2=⟨T,Q,X,ez⟩:=by rw[A];exact aS
    obtain⟨ax,z⟩:=LI.add (w1:=w1) (V:=O) (V6:=w6) (r:={q with mo:=nv}) (t:=t) (k:=k+1) (ks:=k) U u aZ (show (AG p.C q.m)[k]?=some t by rw[A,n];exact K) (by have:=H1.out.2.size;omega) gl g0 hU bt (mB:=mB) (show AP O mB p (Ay false p.C q.m t).1 by rw[e1];exact aT) (by have:=an.out;omega)
     (by show Ml O w6 J f.b M q.b mB (Ab r0.b) fk (R'.set i {q with mo:=nv}).length (Aj p (Ay false p.C q.m t).1) (Au q.m) (Bw q.m) (if (R'.set i {q with mo:=nv}).length - 1<i then .pointer none else Ab f.mb) f.mo (DO f.fr) (Aj p f.m) (Au f.m) f.y (Bw f.m) (Ay false p.C q.m t).2
         rw[e1,e2];rw[<-Z] at ao;exact ao)
    have z:LI w1 w6 p base J M R i q.m (k+1) (k+1) ax:=z;rw[A] at z
    exact⟨h5,ax,z⟩
   obtain⟨cb,a4⟩:∃x,q.mo=x:=⟨_,rfl⟩;rw[a4] at c4 d4 ah;obtain⟨ma,mc,bz⟩:=At aN;rw[a4] at bz;subst bz;rw[aR] at c4 d4 ah;rw[<-aC,aR] at ah;rw[<-aC,aR] at ac;replace ac:=Aa ac;replace ar:=Aa ar;replace aH:=Aa aH;unfold DQ Ab at hA;dsimp only at hA;unfold DQ;clear d c E aq am K h5 N ak Y hB af u S h F P D H I n aG aw e3 aL aM kE aX hd av A Z be aN aR bf aV aA bj aC U aB bS bW bn bP ba bQ bM b6 a0 bX k5 aT aZ br g0 gl bw hU bt bp a9 bi bK aW bx bh a4 HO HP aI ab az aS aJ
   go_upto_region 5 with fail
   try rw[ar.out]
   try rw[aH.out]
   clear ar aH
   go_region_law (refine FY rfl _ _ _ rfl rfl rfl rfl ah ?_)
   all_goals
    try rw[ac.out]
    clear c4 d4 f4 x0 x1 x2 x3 ah bI bA ac
    go_wp2_with fail
    refine hA.mono ?_;rintro e w6 ⟨rfl,ao⟩;replace ao:=Aa (bJ.out w6 ao);clear hA bJ y0 y1 y2 y3
    go_wp2_with fail
    go_roundw
    case rel=>
     (try rw[bk])
     obtain⟨h6,ax,z⟩:=ao.out
     exact⟨k+1,ax,h6,rfl,z⟩
    case measure=>
     (try rw[bk])
     exact Xl ao.out.1 (Xn k)
  ·have bO:k=l.length:=by omega
   have fz:wr.frozen? ⟨rb,0,none⟩=false:=by unfold Bb at ay;simp[XP,ay]
   have A:q.m=m:=E.2.1.trans D;have Z:q.b=rb:=E.1.trans H;have bD:Hz w (wr.setCell ⟨rb,0,none⟩ (.pointer none)) p base J M R i m R':=by
    have z:=LI.done (r:=q) (by rw[A];exact d) c P (by rw[A,n];omega) (by rw[A,n];omega) H1.out.2;rw[A] at z;rw[<-Z];exact z
   have HN:=Aa bD;subst bO;clear d c E A Z bD ay Y hB af u S h F P D H I n N HP H1 hz hk h5
   go_wp2_with fail
   go_end0
   exact⟨rfl,R',HN.out⟩
attribute [local go_sem] Oper.semAt_some
theorem Pz (m:Nat) (b a lV tV:Xk) (K:Int) (w:Xh) :
 CallsIn Yp m Tryz.prog 23 #[.agg #[b,a,lV,tV],.int .i64 K] w λe w'=>
  e = .returned (.func (.func 53) #[] #[.pointer (some ⟨w.heap.size+1,0,none⟩),.pointer (some ⟨w.heap.size,0,none⟩)])/\w'=(w.alloc (.cells #[b,a,lV,tV] 25)).alloc (.cells #[.int .i64 K] 3):=by
 refine callsIn_of_wp Tryz.func23 rfl trivial ?_ rfl;simp only[Tryz.ntmps23,Yt,XH,X3,Zs,ZR,YQ,YR,Zc,YW,YV,YL]
 gi_wp2
 go_ret
 exact⟨by simp,rfl⟩
structure Iv (w:Xh) (eV:Bool->Xk):Prop where
 r:w.cell? ⟨0,0,none⟩=some (eV false)
 m:w.cell? ⟨1,0,none⟩=some (eV true)
theorem Iv.same {w w':Xh} {eV:Bool->Xk} (h:Iv w eV) (b:w'.heap[0]?=w.heap[0]?) (c:w'.heap[1]?=w.heap[1]?):Iv w' eV:=
 ⟨(Xy (w:=w) (a:=⟨0,0,none⟩) b).trans h.r,(Xy (w:=w) (a:=⟨1,0,none⟩) c).trans h.m⟩
def Mw (Z Bp Bm:Nat):AS:=λb=>b<Z\/b=Bp\/b=Bm
theorem VG (l:Nat) {Z Bp Bm bq nv nf nl nt vc fc lc tc:Nat} {va fa la ta:Option Addr} {vs fs ls:List Tx} {L:List (Tx×Xk)} {C:List (List Ad)} {most:Int} {eV:Bool->Xk} {J Jx:List XS->AS->Xh->Prop} {W:Xh}
 (T:GS J) (U:∀f O d,J f O d->∀b,O b->b<d.heap.size) (aY : -9223372036854775808<=most/\most<=9223372036854775807)
 (P:Ck W Z) (S:0<Z/\1<Z) (V:Z<=W.heap.size) (Q:Iv W eV)
 (N:BS W bq (.slice va nv vc) (.slice fa nf fc) (.slice la nl lc) (.slice ta nt tc) vs fs ls L C) (k:GW vs fs ls L C) (A:Cs (Am vs fs ls L C)) (H:DX (Am vs fs ls L C))
 (X:W.heap[Bp]?=some (.cells #[.slice va nv vc,.slice fa nf fc,.slice la nl lc,.slice ta nt tc] 25)) (G:W.heap[Bm]?=some (.cells #[.int .i64 most] 3))
 (E:∀f O d,J f O d->∀b,Mw Z Bp Bm b->O b/\d.heap[b]?=W.heap[b]?)
 (hY:∀f x O d,J f O d->Gz (Am vs fs ls L C) most f x O d->YieldAt Yp (3 - 1) Tryz.prog l (CM eV x) d λe I=>∃a,Steps O d a I/\((e = .returned (.bool true)/\J (f++[x]) a I)\/(e = .returned (.bool false)/\Jx (f++[x]) a I)))
 (K:J [] (λb=>b<W.heap.size) W) :
 CallsIn Yp 3 Tryz.prog 53 #[.func (.yield l) #[] #[],.pointer (some ⟨Bm,0,none⟩),.pointer (some ⟨Bp,0,none⟩)] W λe I=>(∃v,e = .returned v)/\∃a,((∃xs,IE (Am vs fs ls L C) most xs a I/\J xs a I)\/(∃f,True/\Jx f a I)):=by
 have D:∀(f:List XS) (x:XS) (O:AS) (d:Xh),J f O d->Gz (Am vs fs ls L C) most f x O d->YieldAt Yp (3 - 1) Tryz.prog l (CM eV x) d λe I=>∃bb,e = .returned (.bool bb)/\∃a,Steps O d a I/\((bb=true/\J (f++[x]) a I)\/(bb=false/\Jx (f++[x]) a I)):=λf x O d h1 h2=>
  (hY f x O d h1 h2).mono λe I h=>by
    obtain⟨a,h1,⟨rfl,h2⟩|⟨rfl,h2⟩⟩:=h
    ·exact⟨true,rfl,a,h1,.inl ⟨rfl,h2⟩⟩
    ·exact⟨false,rfl,a,h1,.inr ⟨rfl,h2⟩⟩
 obtain⟨p,ah⟩:∃x,Am vs fs ls L C=x:=⟨_,rfl⟩;have cm:W.cell? ⟨Bm,0,none⟩=some (.int .i64 most):=by simp[Xg,G]
 obtain⟨bg,bf,ba,bn⟩:=Ee X;have ce:=Q.r;refine callsIn_of_wp Tryz.func53 rfl trivial ?_ rfl;simp only[Tryz.ntmps53,Yt,XH,X3,Zs,ZR,YQ,YR,Zc,YW,YV,YL];have HP:=Aa (⟨T,U,P,S,V,Q,N,k,A,H,X,G,E,D,K⟩:_/\_/\_/\_/\_/\_/\_/\_/\_/\_/\_/\_/\_/\_/\_)
 by_cases hr:BZ most
 ·have d1:decide (most<1)=false:=decide_eq_false (by have:=hr.1;omega);have d2:decide (20000<most)=false:=decide_eq_false (by have:=hr.2;omega);have aO:L.length=C.length:=by
   have:=A.tc;have this:(L.map Prod.fst).length=C.length:=this
   rwa [Xp] at this
  have aE:=UE (B:=Z) P V N k A H (by rw[aO];exact Jo _ _ _ _);rw[aO] at aE;replace aE:=Aa aE;clear T U P S V Q N k A H X G E D K hY aY ce
  gi_wp2_with fail
  refine⟨trivial,(X4.2 aE.out).mono ?_⟩;rintro e w1 ⟨fb,sb,kb,mb,rfl,hF,hS,hK,hM,am,av⟩;clear cm bg bf ba bn aE;obtain⟨f0,f1,f2⟩:=IA hF;have az:OD p most.toNat W.heap.size fb kb J (most.toNat+1) (.pointer (some ⟨sb,0,none⟩)) w1:=by
   obtain⟨T,U,P,S,V,Q,N,k,A,H,X,G,E,D,K⟩:=HP.out;have bu:nt=C.length:=by
    obtain⟨x,y,e⟩:=At N.t;injection e with _ e _
    rw[e,aO]
   obtain⟨g1,g2⟩:=ac9 vs.length fs.length ls.length C.length;rw[bu,<-g1,<-g2] at hS;have q:=FW.start (p:=Am vs fs ls L C) (base:=W.heap.size) hF hS hK hM am;rw[ah] at q;refine⟨0,_,λb=>b<W.heap.size,rfl,rfl,Xw _,by show 1<=most.toNat;have:=hr.1;omega,q,λx w=>?_,T _ _ W w1 K av.size av.os av.tape av.output (λb k=>av.block b k),rfl⟩
   rcases w with rfl|rfl|⟨j,r,hj,w⟩
   ·have:=am.1;omega
   ·have:=am.2.2.1;omega
   ·cases j with
    |succ j=>cases hj
    |zero=>
     cases hj
     rcases w with rfl|⟨-,rfl⟩|w
     ·have:=am.2.1;dsimp only;omega
     ·have:=am.2.2.2;dsimp only;omega
     ·cases w
  replace az:=Aa az;have aN:=Aa (⟨av,am⟩:_/\_);clear hF hS hK hM am av f1 f2;unfold Ab at f0 |-
  gi_wp2_with fail
  gi_loopg [5] (most.toNat+1) (λn iv wr=>OD p most.toNat W.heap.size fb kb J n iv wr)
  case atStart=>exact az.out
  case round=>
   obtain⟨i,R,O,hn,rfl,hi,aw,ac,af,M,u⟩:=hrel;obtain⟨T,U,P,S,V,Q,N,k,A,H,X,G,E,D,K⟩:=HP.out
   cases F:R[i]? with
   |none=>
    have aa:i=R.length:=by have:=List.getElem?_eq_none_iff.1 F;omega
    have a5:IE (Am vs fs ls L C) most (R.map XS.st) O wr:=by
     refine .inr ⟨hr,_,fb,kb,R,rfl,by rw[<-aa,ah];exact ac,by rw[<-aa];exact af,?_⟩;rw[ah,<-u];obtain⟨n,rfl⟩:∃n,gk=n+1:=⟨gk - 1,by omega⟩;unfold Cr;rw[Xs,F]
     rfl
    have aZ:J (R.map XS.st) O wr:=by rw[aa,List.take_length] at M;exact M
    have Y:=Aa (⟨a5,aZ⟩:_/\_);clear T U P S V Q N k A H X G E D K hn hi aw ac af M u aa a5 aZ HP az aN F;unfold DO;dsimp only[Option.map_none]
    gi_wp2_with fail
    go_end0
    exact⟨⟨_,rfl⟩,O,.inl ⟨_,Y.out⟩⟩
   |some r=>
    have aa:i<R.length:=(Xf.1 F).1;have a6:Ck wr Z:=P.same (λx w=>(E _ O wr M x (.inl w)).2);have a3:W.heap.size<=wr.heap.size:=by
     have h1:=ac.lo.1;have h2:=ac.lt (.inl rfl:DK fb kb R i fb)
     omega
    have aG:=adg (B:=Z) a6 V a3 (by rw[<-ah];exact A) (by rw[<-ah];exact H) ac F;replace aG:=Aa aG;have HO:=Aa (⟨hn,hi,aw,ac,af,M,u,aa,F⟩:_/\_/\_/\_/\_/\_/\_/\_/\_);clear T U P S V Q N k A H X G E D K hn hi aw ac af M u aa F a6 a3;unfold DO;dsimp only[Option.map_some];unfold Ab at aG |-
    gi_wp2_with fail
    refine⟨trivial,(X4.2 aG.out).mono ?_⟩;rintro e s ⟨rfl,R',c⟩;clear aG;obtain⟨hn,hi,aw,ac,af,M,u,aa,F⟩:=HO.out;obtain⟨T,U,P,S,V,Q,N,k,A,H,X,G,E,D,K⟩:=HP.out;obtain⟨fk,aS,-⟩:=c.fw.km;have a1:∀q,(Builtin.len_ #[64] 3 #[.map (some kb)]).run Tryz.prog (s.drewN q) = .ok (.int .i64 (R'.length:Int)) (s.drewN q):=λq=>(aS.same (w':=s.drewN q) rfl).len Tryz.underlying64 3;obtain⟨r0,rl,-,-,aP⟩:=c.fw.fo;obtain⟨-,-,g2⟩:=IA aP;have aF:∀q,J ((R.take i).map XS.st) O (s.drewN q):=λq=>T _ O wr _ M c.kp.size c.kp.os c.kp.tape c.kp.output (λb k=>c.kp.block b (U _ _ _ M b k) (λz=>by
     refine af b ?_ k
     rcases z with z|z|⟨j,o,ho,z⟩
     ·exact .inl z
     ·exact .inr (.inl z)
     ·exact .inr (.inr ⟨j,o,ho,.inl z⟩)))
    have aD:∀q x,Mw Z Bp Bm x->(s.drewN q).heap[x]?=W.heap[x]?:=λq x w=>(E _ O _ (aF q) x w).2;have bG:s.cell? ⟨Bm,0,none⟩=some (.int .i64 most):=by
     have:=aD 0 Bm (.inr (.inr rfl));have:=this.trans G;have this:s.heap[Bm]?=_:=this;simp[Xg,this]
    have aU:∀q,(s.drewN q).cell? ⟨1,0,none⟩=some (eV true):=λq=>(Q.same (w':=s.drewN q) (aD q _ (.inl S.1)) (aD q _ (.inl S.2))).m;have ar:=c.abu (U _ _ _ M) af;have aW:R'.length=(DI (Aj p) (BC false p.C) (R.map Ag.m) r.m).length:=by rw[<-c.ms,Xp]
    obtain⟨n,rfl⟩:∃n,gk=n+1:=⟨gk - 1,by omega⟩;unfold Cr at u;rw[Xs,F] at u;dsimp only[Option.map_some] at u;rw[<-aW] at u
    by_cases aK:most.toNat<R'.length
    ·have dm:decide (most<(R'.length:Int))=true:=decide_eq_true (by omega);rw[if_pos aK] at u;have aH:Gz (Am vs fs ls L C) most ((R.take i).map XS.st) (.er true) O s:=⟨hr,by rw[ah];exact u.symm⟩;have g:=λq=>D _ (.er true) O (s.drewN q) (aF q) aH;unfold CM at g;dsimp only at g;replace g:=Aa g;clear T U P S V Q N k A H X G E D K hn hi aw ac af M u aa F aS aP aF aD ar aW aK aH c HO HP az aN
     gi_wp2_with fail
     gi_quiet (fail)
     obtain⟨fn,tmps,a4,body,hy,hR⟩:=g.out nq;have bF:=aU nq;clear aU a1
     gi_wp2_with fail
     refine hR.mono ?_;clear hR hy;rintro e W3 ⟨bb,rfl,a,ag,⟨rfl,ab⟩|⟨rfl,aj⟩⟩
     ·have Y:=Aa ab;clear ab ag g
      gi_wp2_with fail
      refine XJ (Z8 rfl _ _ _) rfl ?_
      exact⟨⟨_,rfl⟩,a,.inl ⟨_,.inl ⟨_,_,rfl⟩,Y.out⟩⟩
     ·have Y:=Aa aj;clear aj ag g
      gi_wp2_with fail
      refine XJ (Z8 rfl _ _ _) rfl ?_
      exact⟨⟨_,rfl⟩,a,.inr ⟨_,trivial,Y.out⟩⟩
    ·have dm:decide (most<(R'.length:Int))=false:=decide_eq_false (by omega);rw[if_neg aK] at u;obtain⟨r',an,aR,-⟩:=c.ext.old i r F;have bh:((R.take i).map XS.st).length<20000:=by rw[Xp,X5];have:=hr.2;omega
     have bl:∀q,Gz (Am vs fs ls L C) most ((R.take i).map XS.st) (.st r') O (s.drewN q):=λq=>⟨bh,by rw[ah];exact(c.stE an ar).same rfl (λ_ _=>rfl) (c.stE an ar).nb (c.stE an ar).nm⟩
     have g:=λq=>D _ (.st r') O (s.drewN q) (aF q) (bl q);unfold CM Ab at g;dsimp only at g;rw[aR.1] at g;have aJ:∀(W3:Xh) (a:AS) (q:Nat),Steps O (s.drewN q) a W3->J ((R.take i).map XS.st++[.st r']) a W3->W3.cell? ⟨r.b,7,none⟩=some (DO ((R'[i+1]?).map Ag.b))/\OD p most.toNat W.heap.size fb kb J n (DO ((R'[i+1]?).map Ag.b)) W3:=λW3 a q hS ab=>by
      have hk:∀x,DK fb kb R' (i+1) x->W3.heap[x]?=s.heap[x]?:=λx w=>hS.rest x (c.fw.lt w) (ar x w);have a0:=c.fw.same hk;have bj:=a0.st i r' an;rw[aR.1] at bj;obtain⟨-,-,-,-,-,-,-,c7⟩:=DR bj;refine⟨c7,i+1,R',a,by omega,rfl,?_,by omega,a0,λx w hO=>?_,?_,?_⟩
      ·have:=(Xf.1 an).1;omega
      ·rcases hS.fresh x hO with z|z
       ·exact ar x w z
       ·have:=c.fw.lt w;have z:s.heap.size<=x:=z
        omega
      ·rw[c.take aa an,XI];exact ab
      ·rw[c.ms];exact u
     replace g:=Aa g;replace aJ:=Aa aJ;clear T U P S V Q N k A H X G E D K hn hi aw ac af M u aa F aS aP aF aD ar aW aK c HO HP az aN an aR bh bl aU
     gi_wp2_with fail
     gi_quiet (fail)
     obtain⟨fn,tmps,a4,body,hy,hR⟩:=g.out nq;clear a1
     gi_wp2_with fail
     refine hR.mono ?_;clear hR hy;rintro e W3 ⟨bb,rfl,a,ag,⟨rfl,ab⟩|⟨rfl,aj⟩⟩
     ·obtain⟨c7,hI⟩:=aJ.out W3 a nq ag ab;replace hI:=Aa hI;clear ab ag g aJ
      gi_wp2_with fail
      gi_roundg n
      case measure=>exact Xn n
      case rel=>exact hI.out
     ·have Y:=Aa aj;clear aj ag g aJ
      gi_wp2_with fail
      refine XJ (Z8 rfl _ _ _) rfl ?_
      exact⟨⟨_,rfl⟩,a,.inr ⟨_,trivial,Y.out⟩⟩
 ·have bE:(decide (most<1)=true)\/(decide (most<1)=false/\decide (20000<most)=true):=by
   by_cases z:most<1
   ·exact .inl (decide_eq_true z)
   ·refine .inr ⟨decide_eq_false z,decide_eq_true ?_⟩
    by_cases z2:20000<most
    ·exact z2
    ·exact absurd (⟨by omega,by omega⟩:BZ most) hr
  have aH:Gz (Am vs fs ls L C) most [] (.er false) (λb=>b<W.heap.size) W:=hr;obtain⟨fn,tmps,a4,body,hy,hR⟩:=D [] (.er false) _ W K aH;unfold CM at hy;dsimp only at hy;clear T U P S V Q N k A H X G E D K hY aY aH HP bg bf ba bn ah
  rcases bE with d1|⟨d1,d2⟩
  all_goals
   gi_wp2_with fail
   refine hR.mono ?_;clear hR hy;rintro e W3 ⟨bb,rfl,a,ag,⟨rfl,ab⟩|⟨rfl,aj⟩⟩
   ·have Y:=Aa ab;clear ab ag
    gi_wp2_with fail
    refine XJ (Z8 rfl _ _ _) rfl ?_
    exact⟨⟨_,rfl⟩,a,.inl ⟨_,.inl ⟨[],_,rfl⟩,Y.out⟩⟩
   ·have Y:=Aa aj;clear aj ag
    gi_wp2_with fail
    refine XJ (Z8 rfl _ _ _) rfl ?_
    exact⟨⟨_,rfl⟩,a,.inr ⟨_,trivial,Y.out⟩⟩
theorem Py {Z Bp Bm i nv nf nl nt vc fc e d:Nat} {va fa f c:Option Addr} {vs fs ls:List Tx} {L:List (Tx×Xk)} {C:List (List Ad)} {most:Int} {eV:Bool->Xk} {w:Xh} (p : -9223372036854775808<=most/\most<=9223372036854775807)
 (r:Ck w Z) (m:0<Z/\1<Z) (v:Z<=w.heap.size) (y:Iv w eV)
 (o:BS w i (.slice va nv vc) (.slice fa nf fc) (.slice f nl e) (.slice c nt d) vs fs ls L C) (k:GW vs fs ls L C) (j:Cs (Am vs fs ls L C)) (t:DX (Am vs fs ls L C))
 (b:w.heap[Bp]?=some (.cells #[.slice va nv vc,.slice fa nf fc,.slice f nl e,.slice c nt d] 25)) (g:w.heap[Bm]?=some (.cells #[.int .i64 most] 3)) :
 IV Yp 3 Tryz.prog 53 #[.pointer (some ⟨Bm,0,none⟩),.pointer (some ⟨Bp,0,none⟩)] (CM eV) (Mw Z Bp Bm) (Gz (Am vs fs ls L C) most) (IE (Am vs fs ls L C) most) (λ_=>True) w:=
 λl J A W a n _ u h s q=>VG l n u p (r.same λx z=>a.block x (by omega)) m (Xu v a.size) (y.same (a.block _ (by omega)) (a.block _ (by omega))) (o.below a) k j t
  ((a.block Bp (Xa.1 b).1).trans b) ((a.block Bm (Xa.1 g).1).trans g) h s q
theorem adX {w:Xh} {base:Nat} {v:Xk} {l:List Ev} (h:w.ownsRow base 48 4 v l.length (l.flatMap Ef)) (y:0<l.length) :
 ∃g cap,v = .slice (some ⟨g,0,none⟩) l.length cap/\base<=g/\g<w.heap.size/\l.length<=cap/\cap<=maxLen/\∀j e,l[j]?=some e->w.cell? ⟨g,j*4,none⟩=some (.int .i64 e.t)/\w.cell? ⟨g,j*4+1,none⟩=some (.int .i64 e.k)/\w.cell? ⟨g,j*4+2,none⟩=some (.int .i64 e.o)/\w.cell? ⟨g,j*4+3,none⟩=some (.int .i64 e.v):=by
 rcases id h.2 with⟨-,e⟩|⟨g,cap,s,rfl,q,i,p,n,u,x⟩
 ·omega
 ·refine⟨g,cap,rfl,q,(Xa.1 i).1,p,n,λj e f=>?_⟩;have b:=(Xf.1 f).1;have d:∀c,c<4->w.cell? ⟨g,j*4+c,none⟩=(Ef e)[c]?:=λc d=>by
   rw[h.cellAt (j*4+c) (by omega)];have key:∀(l:List Ev) (j:Nat),l[j]?=some e->(l.flatMap Ef)[j*4+c]?=(Ef e)[c]?:=by
    intro l
    induction l with
    |nil=>intro j b;cases b
    |cons a r m=>
     intro j b;rw[List.flatMap_cons]
     cases j with
     |zero=>
      cases b
      rw[List.getElem?_append_left (by rw[Od];omega),Nat.zero_mul,Nat.zero_add]
     |succ j=>
      rw[List.getElem?_append_right (by rw[Od];omega),Od,show (j+1)*4+c - 4=j*4+c by omega];exact m j b
   exact key l j f
  exact⟨d 0 (by omega),d 1 (by omega),d 2 (by omega),d 3 (by omega)⟩
theorem Qt {x:Int} {l:List Ev} {i:Nat} {a:Ev} (h:l[i]?=some a):Dd x (l.drop i)=match (l.drop (i+1)).find? (λb=>DS a b x) with
 |some b=>some (a,b)
 |none=>Dd x (l.drop (i+1)):=by
 have e:l.drop i=a::l.drop (i+1):=by
  obtain⟨c,e⟩:=Xf.1 h;rw[<-e];exact(X1 c)
 rw[e]
 rfl
theorem adC {q:Ev->Bool} {l:List Ev} {j:Nat} {b:Ev} (h:(l.take j).find? q=none) (c:l[j]?=some b):((l.take (j+1)).find? q=none↔q b=false)/\(q b=true->l.find? q=some b):=by
 have e:l.take (j+1)=l.take j++[b]:=by rw[Yh,c];rfl
 constructor
 ·rw[e,afJ,h]
  cases a:q b with
  |false=>simp[a]
  |true=>simp[a]
 ·intro a;have d:l=l.take j++(b::l.drop (j+1)):=by
   obtain⟨f,g⟩:=Xf.1 c;rw[<-g,<-X1 f,List.take_append_drop]
  rw[d,afJ,h];simp[a]
def IW (w w':Xh) (x:Int) (l:List Ev) (v:Xk):Prop:=match Dd x l with
 |none=>v = .slice none 0 0
 |some (a,b)=>∃g,v = .slice (some ⟨g,0,none⟩) 2 2/\w.heap.size<=g/\w'.heap[g]?=some (.cells #[.int .i64 a.t,.int .i64 b.t] 3)
theorem WJ {w:Xh} {b base:Nat} {mv mo fr nx:Xk} {sh:Tx} {g y x:Int} {f:Bool} {l:List Ev} (h:Bb w b mv sh g f mo fr y nx) (hm:w.ownsRow base 48 4 mo l.length (l.flatMap Ef)) (hl:l.length<=4) :
 Calls Tryz.prog 27 #[Ab b,.int .i64 x] w λe w'=>∃v,e = .returned v/\IW w w' x l v/\Xm w.heap.size w w':=by
 obtain⟨-,-,-,-,c40,-⟩:=DR h;have hbl:b<w.heap.size:=(Xa.1 h).1;obtain⟨ma,mc,aF⟩:=At hm;have HC:Hid (∀u,Xm w.heap.size w u->u.cell? ⟨b,4,none⟩=some (.slice ma l.length mc)):=λu s=>(s.cell (p:=⟨b,4,none⟩) hbl).trans (by rw[c40,aF]);have HE:Hid (∀i e,l[i]?=some e->∃m,ma=some ⟨m,0,none⟩/\l.length<=mc/\mc<=maxLen/\∀u,Xm w.heap.size w u->∀j e,l[j]?=some e->u.cell? ⟨m,j*4,none⟩=some (.int .i64 e.t)/\u.cell? ⟨m,j*4+1,none⟩=some (.int .i64 e.k)/\u.cell? ⟨m,j*4+2,none⟩=some (.int .i64 e.o)/\u.cell? ⟨m,j*4+3,none⟩=some (.int .i64 e.v)):=λi e he=>by
  obtain⟨m,cap,q,q1,T,q3,q4,q5⟩:=adX hm (by have:=(Xf.1 he).1;omega);rw[aF] at q;injection q with e1 _ e2
  subst e1 e2;refine⟨m,rfl,q3,q4,λu s j e hj=>?_⟩;obtain⟨z1,z2,z3,z4⟩:=q5 j e hj
  exact⟨(s.cell (p:=⟨m,j*4,none⟩) T).trans z1,(s.cell (p:=⟨m,j*4+1,none⟩) T).trans z2,(s.cell (p:=⟨m,j*4+2,none⟩) T).trans z3,(s.cell (p:=⟨m,j*4+3,none⟩) T).trans z4⟩
 have c4:=HC.out w (Xq _ _);replace hl:=Aa hl;clear h hm aF hbl c40;unfold Ab
 go_enter Tryz.func27,Tryz.ntmps27
 go_wp2_with fail
 go_loopw [14] (λiv wr=>∃i:Nat,i<=l.length/\iv = .int .i64 i/\Dd x l=Dd x (l.drop i)/\Xm w.heap.size w wr) (λiv _=>l.length - (intOf iv).toNat)
 case atStart=>exact⟨0,Xw _,rfl,rfl,Xq _ _⟩
 case round=>
  obtain⟨i,R,rfl,B,r⟩:=hrel
  by_cases D:i<l.length
  ·have bm:(i:Int)<(l.length:Int):=by omega
   obtain⟨a,C⟩:∃a,l[i]?=some a:=⟨_,Xe D⟩;obtain⟨m,rfl,V,X,J⟩:=HE.out i a C;obtain⟨a0,a1,a2,a3⟩:=J wr r i a C;obtain⟨at',I,M,E⟩:=a;dsimp only at a0 a1 a2 a3;have U:=hl.out;have ac:XO ((i:Int)+1)=(i:Int)+1:=by unfold XO;omega
   obtain⟨A,K⟩:∃W,wr.alloc (.cells #[.int .i64 at',.int .i64 I,.int .i64 M,.int .i64 E] 48)=W:=⟨_,rfl⟩;have N:Xm wr.heap.size wr A:=by rw[<-K];exact(Xq _ _).alloc (Xd _) _
   have G:A.heap[wr.heap.size]?=some (.cells #[.int .i64 at',.int .i64 I,.int .i64 M,.int .i64 E] 48):=by rw[<-K];exact Xi wr _
   have c:=r.trans (N.mono r.size);have br:=HC.out A c;have bn:(0:Int)<=(i:Int)+1:=by omega
   have bC:(i:Int)+1<=(mc:Int):=by omega
   have bx:(i:Int)+1<=(l.length:Int):=by omega
   have HO:=Aa (⟨R,B,r,D,C,V,X,J,U,N,G,c⟩:_/\_/\_/\_/\_/\_/\_/\_/\_/\_/\_/\_);replace K:=Aa K;obtain⟨wo,ba⟩:∃z,z=wr:=⟨wr,rfl⟩;subst ba;have an:Hid (((l.drop (i+1)).find? (λe=>DS ⟨at',I,M,E⟩ e x)=none)->Dd x l=Dd x (l.drop (i+1))):=λz=>by
    rw[B,Qt C,z]
   by_cases a8:mc=i+1
   ·subst a8;have bp:l.length - (i+1)=0:=by omega
    have a5:Hid (i+1<=l.length):=D;have P:Hid (Dd x l=Dd x (l.drop (i+1))):=an.out (by rw[List.drop_eq_nil_of_le (by omega)];rfl);replace c:=Aa c;clear R B r D C V X J U N G c4 HO an
    go_upto_region 4 with fail
    try rw[K.out]
    clear K
    go_wp2_with fail
    go_loopw [27] (λjv w2=>jv = .int .i64 0/\w2=A) (λ_ _=>0)
    case atStart=>exact⟨rfl,rfl⟩
    case round=>
     obtain⟨rfl,rfl⟩:=hrel
     go_wp2_with fail
     go_roundw
     case rel=>
      (try rw[ac])
      exact⟨i+1,a5.out,rfl,P.out,c.out⟩
     case measure=>
      (try rw[ac])
      exact Xl a5.out (Xn i)
   ·clear R B r D C V X J U N G c c4
    go_upto_region 4 with fail
    try rw[K.out]
    clear K
    go_wp2_with fail
    obtain⟨n,hn⟩:∃n,l.length - (i+1)=n:=⟨_,rfl⟩;rw[hn]
    try rw[ac]
    replace hn:=Aa hn
    go_loopw [27] (λjv w2=>∃j:Nat,j<=n/\jv = .int .i64 j/\((l.drop (i+1)).take j).find? (λe=>DS ⟨at',I,M,E⟩ e x)=none/\Xm A.heap.size A w2) (λjv _=>n - (intOf jv).toNat)
    case atStart=>exact⟨0,Xw _,rfl,rfl,Xq _ _⟩
    case round=>
     obtain⟨j,hj,rfl,ao,Q⟩:=hrel;obtain⟨R,B,r,D,C,V,X,J,U,N,G,c⟩:=HO.out;have aV:=hn.out
     by_cases aH:j<n
     ·have bF:(j:Int)<(n:Int):=by omega
      obtain⟨e,he⟩:∃e,l[i+1+j]?=some e:=⟨_,Xe (by omega)⟩;have aS:(l.drop (i+1))[j]?=some e:=by rw[List.getElem?_drop];exact he
      have ay:=c.trans (Q.mono c.size);obtain⟨b0,b1,b2,b3⟩:=J wr ay _ e he;have e4:(i+1+j)*4=(i+1)*4+j*4:=by omega
      rw[e4] at b0 b1 b2 b3;obtain⟨F,bk,bo,bv⟩:=e;dsimp only at b0 b1 b2 b3;obtain⟨d,S⟩:∃W,wr.alloc (.cells #[.int .i64 F,.int .i64 bk,.int .i64 bo,.int .i64 bv] 48)=W:=⟨_,rfl⟩;have ar:Xm wr.heap.size wr d:=by rw[<-S];exact(Xq _ _).alloc (Xd _) _
      have kB:d.heap[wr.heap.size]?=some (.cells #[.int .i64 F,.int .i64 bk,.int .i64 bo,.int .i64 bv] 48):=by rw[<-S];exact Xi wr _
      have aC:wr.heap[wo.heap.size]?=_:=(Q.block wo.heap.size (Xa.1 G).1).trans G;have aJ:d.heap[wo.heap.size]?=_:=(ar.block wo.heap.size (Xa.1 aC).1).trans aC;have ah:=fun(u:Xh) (s:Xm d.heap.size d u)=>Ee ((s.block _ (Xa.1 aJ).1).trans aJ);have ad:=fun(u:Xh) (s:Xm d.heap.size d u)=>Ee ((s.block _ (Xa.1 kB).1).trans kB);obtain⟨p0,p1,p2,p3⟩:=ah d (Xq _ _);obtain⟨q0,q1,T,q3⟩:=ad d (Xq _ _);have ai:=aex ⟨at',I,M,E⟩ ⟨F,bk,bo,bv⟩ x d;unfold DQ at ai;dsimp only at ai;obtain⟨aB,aY⟩:=adC ao aS;have Y:Xm w.heap.size w d:=ay.trans (ar.mono ay.size);have aW:Xm A.heap.size A d:=Q.trans (ar.mono Q.size);have hw2:XO ((j:Int)+1)=(j:Int)+1:=by unfold XO;omega
      have ap:Hid (DS ⟨at',I,M,E⟩ ⟨F,bk,bo,bv⟩ x=true->∀(u:Xh) (Z:Nat),w.heap.size<=Z->u.heap[Z]?=some (.cells #[.int .i64 at',.int .i64 F] 3)->IW w u x l (.slice (some ⟨Z,0,none⟩) 2 2)):=λz u Z h1 h2=>by
       unfold IW;rw[B,Qt C,aY z]
       exact⟨Z,rfl,h1,h2⟩
      generalize DS ⟨at',I,M,E⟩ ⟨F,bk,bo,bv⟩ x=cl at ai aB ap;have HJ:=Aa (⟨aH,aB,Y,aW⟩:_/\_/\_/\_);replace ah:=Aa ah;replace ad:=Aa ad;replace S:=Aa S;clear hj ao Q R B r D C V X J U N G c aV aH he aS ay e4 ar kB aC aJ aB aY Y aW HO HE HC an
      go_upto_region 7 with fail
      try rw[S.out]
      clear S
      go_wp2_with fail
      refine ai.mono ?_;rintro e' O ⟨rfl,H⟩;obtain⟨bB,bE,bw,bD⟩:=ah.out O H;obtain⟨bt,bq,bu,bz⟩:=ad.out O H;replace H:=Aa H;clear ai ah ad p0 p1 p2 p3 q0 q1 T q3
      cases cl with
      |true=>
       have bf:Hid (∃v,Ending.returned (Value.slice (some ⟨O.heap.size,0,none⟩) 2 2) = .returned v/\IW w (O.alloc (.cells #[.int .i64 at',.int .i64 F] 3)) x l v/\Xm w.heap.size w (O.alloc (.cells #[.int .i64 at',.int .i64 F] 3))):=by
        obtain⟨-,-,Y,-⟩:=HJ.out;have aN:=Y.trans (H.out.mono Y.size)
        exact⟨_,rfl,ap.out rfl _ _ aN.size (Xi O _),aN.alloc aN.size _⟩
       clear HJ ap H
       go_wp2_with fail
       go_ret
       exact bf.out
      |false=>
       have ax:Hid (j+1<=n/\((l.drop (i+1)).take (j+1)).find? (λe=>DS ⟨at',I,M,E⟩ e x)=none/\Xm A.heap.size A O):=by
        obtain⟨h1,h2,-,h4⟩:=HJ.out
        exact⟨h1,h2.2 rfl,h4.trans (H.out.mono h4.size)⟩
       clear HJ ap H
       go_wp2_with fail
       go_roundw
       case rel=>
        (try rw[hw2])
        exact⟨j+1,ax.out.1,rfl,ax.out.2.1,ax.out.2.2⟩
       case measure=>
        (try rw[hw2])
        exact Xl ax.out.1 (Xn j)
     ·have be:j=n:=by omega
      subst be;have P:Hid (i+1<=l.length/\Dd x l=Dd x (l.drop (i+1))/\Xm w.heap.size w wr):=by
       refine⟨D,an.out ?_,c.trans (Q.mono c.size)⟩;rw[List.take_of_length_le (by rw[List.length_drop];omega)] at ao;exact ao
      clear hj ao Q R B r D C V X J U N G c aV aH HO HE HC an
      go_wp2_with fail
      go_roundw
      case rel=>
       (try rw[ac])
       exact⟨i+1,P.out.1,rfl,P.out.2⟩
      case measure=>
       (try rw[ac])
       exact Xl P.out.1 (Xn i)
  ·have aQ:i=l.length:=by omega
   have P:Hid (IW w wr x l (.slice none 0 0)/\Xm w.heap.size w wr):=by
    refine⟨?_,r⟩;unfold IW;rw[B,aQ,List.drop_length]
    rfl
   subst aQ;clear B r R D HC HE c4
   go_wp2_with fail
   go_ret
   exact⟨_,rfl,P.out⟩
end Go.Proofs.YtdcacoifehkioaaGreatDoor
