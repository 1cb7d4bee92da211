import Derived.Test.YtdcacoifehkioaaGreatDoorExH3
import Derived.Test.YtdcacoifehkioaaGreatDoorExH19
import Derived.Test.YtdcacoifehkioaaGreatDoorExH2
import Derived.Test.YtdcacoifehkioaaGreatDoorExH16
import Derived.Test.YtdcacoifehkioaaGreatDoorExH17
import Derived.Test.YtdcacoifehkioaaGreatDoorExH15
import Derived.Test.YtdcacoifehkioaaGreatDoorExH14
import Derived.Lib.Split
import Derived.Ground.NamesProg
import Derived.Shelf.Lay
import Derived.Shelf.Strings.Split
import Derived.Shelf.Strings.OnBuilder
open Go renaming World->Xh,Value->Xk,Calls->XX,wp_region_held_drew->Xx,heap_setCell_other->Xt,heap_setCell_same->Xj,wpAnyH_done->Yd
open Go.World renaming cell?->Xg,alloc_heap_new->Xi,frozen?->XP,size_setCell->XC
open Go.RowKit renaming Below->Xm
open Array renaming getElem?_eq_some_iff->Xa
open Go.RowKit.Below renaming refl->Xq
open Nat renaming le_refl->Xd,zero_le->Xw,sub_lt_sub_left->Xl,lt_succ_self->Xn,zero_add->XE
open Go.Instr renaming lookup->Zl,mapUpdate->YA
open Go.Act renaming put->XF
open List renaming any_eq_true->YD,range->YB,setIfInBounds_toArray->XV,set_cons_succ->X9,set_cons_zero->X7,length_append->Xb,flatMap_append->X6,mem_cons_self->Yf,mem_cons_of_mem->Yl,length_cons->XH,mem_append->XY,mem_map->Yx,mem_singleton->XT,flatMap_cons->XL,all_eq_true->ZA
open Bool renaming true_and->ZT,and_eq_true->Ym
open Go.Lib renaming itoa->Yj,join->YI
set_option maxRecDepth 100000
set_option maxHeartbeats 4000000
set_option linter.unusedVariables false
set_option linter.unusedSimpArgs false
namespace Go.Proofs.YtdcacoifehkioaaGreatDoor
open Go.RowKit Go.Shelf Go.Proofs.Cod
theorem UR (w:Xh):(zeroValue 76).run Tryz.prog w = .ok (.agg #[]) w:=by kernel_rfl
theorem IA {w:Xh} {b T:Nat} {d c a:Xk} (h:w.heap[b]?=some (.cells #[d,c,a] T)):w.cell? ⟨b,0,none⟩=some d/\w.cell? ⟨b,1,none⟩=some c/\w.cell? ⟨b,2,none⟩=some a:=by
 refine⟨?_,?_,?_⟩<;>simp[Xg,h]
def Ek (w:Xh) (fb:Nat) (fp:Xk) (lb kb:Nat):Prop:=w.heap[fb]?=some (.cells #[fp,.pointer (some ⟨lb,0,none⟩),.map (some kb)] 154)
def Ml (w w':Xh) (fb lb kb sb mB:Nat) (fp:Xk) (fk:Tx->Option Xk) (n:Nat) (key:Tx) (g:Int) (f:Bool) (mvL moL frL:Xk) (shL:Tx) (gL yL:Int) (fL:Bool) (e:Ev):Prop:=
 ((fk key).isSome=true/\Xm w.heap.size w w')\/
 (fk key=none/\∃q,w.heap.size<=q/\Bb w' q (Ab mB) key (Gj g e.k) (f||decide (e.k=9)) (.slice none 0 0) (Ab sb) e.t (.pointer none)/\Bb w' lb mvL shL gL fL moL frL yL (Ab q)/\Ek w' fb fp q kb/\AB sk w' kb (Bz fk key (.agg #[])) (n+1)/\Ac (λx=>x=fb\/x=lb\/x=kb) w w')
theorem ae7 {w:Xh} {B a lb c sb mB n:Nat} {G mv mo fr nx ag ah ad:Xk} {sh ac:Tx} {g y gL yL:Int} {f fL:Bool} {J:Tx->Option Xk} {p:PD} {m:MS} (ht:Ck w B) (hB:B<=w.heap.size) (D:Ek w a G lb c) (C:AB sk w c J n) (M:Bb w sb mv sh g f mo fr y nx) (hg:0<=g/\g<=4) (l:Bb w lb ag ac gL fL ah ad yL (.pointer none)) (hM:AP w mB p m) (hf:Cs p) (a6:BT p m) (hN:DX p) (hU:∀x u,J x=some u->u = .agg #[]) (e:Ev) :
 XX Tryz.prog 116 #[Ab a,Ab sb,.agg (DQ e),Ab mB] w λr w'=>r = .returned (.tuple #[])/\Ml w w' a lb c sb mB G J n (Aj p m) g f ag ah ad ac gL yL fL e:=by
 have N:a<w.heap.size:=(Xa.1 D).1;have X:lb<w.heap.size:=(Xa.1 l).1;have U:sb<w.heap.size:=(Xa.1 M).1;have R:=C.lt;obtain⟨t,k,o,v⟩:=e;obtain⟨W,hW⟩:∃W,w.alloc (.cells #[.int .i64 t,.int .i64 k,.int .i64 o,.int .i64 v] 48)=W:=⟨_,rfl⟩;have H:Xm w.heap.size w W:=by rw[<-hW];exact(Xq _ _).alloc (Xd _) _
 have ke:W.heap[w.heap.size]?=some (.cells #[.int .i64 t,.int .i64 k,.int .i64 o,.int .i64 v] 48):=by rw[<-hW];exact Xi w _
 have hz:W.heap.size=w.heap.size+1:=by rw[<-hW];show (w.heap.push _).size=_;simp
 have aJ:=MA (B0:=B) (hM.below H) hf a6 hN (ht.keep (H.mono hB)) (by have:=H.size;omega);obtain⟨key,bj⟩:∃x,Aj p m=x:=⟨_,rfl⟩;rw[bj] at aJ |-;obtain⟨d,F⟩:∃x,w.heap.size=x:=⟨_,rfl⟩;have HC:Hid (∀u,Xm W.heap.size W u->(u.cell? ⟨a,0,none⟩=some G/\u.cell? ⟨a,1,none⟩=some (.pointer (some ⟨lb,0,none⟩))/\u.cell? ⟨a,2,none⟩=some (.map (some c)))/\(u.cell? ⟨d,0,none⟩=some (.int .i64 t)/\u.cell? ⟨d,1,none⟩=some (.int .i64 k)/\u.cell? ⟨d,2,none⟩=some (.int .i64 o)/\u.cell? ⟨d,3,none⟩=some (.int .i64 v))):=λu hu=>⟨IA ((hu.block a (by omega)).trans ((H.block a N).trans D)),by rw[<-F];exact Ee ((hu.block _ (by omega)).trans ke)⟩
 have HP:=Aa (⟨D,C,M,l,hg,H,hz,F,N,X,U,R,ke⟩:_/\_/\_/\_/\_/\_/\_/\_/\_/\_/\_/\_/\_);unfold Ab at aJ |-;unfold DQ;replace F:=Aa F;clear ht hB D C M hg l hM hf a6 hN ke hz H N X U R bj
 go_enter Tryz.func116,Tryz.ntmps116
 go_upto_region 1 with fail
 try rw[hW]
 try rw[F.out]
 clear hW F
 go_wp2_with fail
 refine aJ.mono ?_;rintro r w1 ⟨rfl,aw⟩;clear aJ;obtain⟨D,C,M,l,hg,H,hz,F,N,X,U,R,ke⟩:=HP.out;have aE:Xm w.heap.size w w1:=H.trans (aw.mono H.size);have aW:=C.same (aE.block c R);have Z:(Zl 64 (.map (some c)) (.string (bs key)) true).run Tryz.prog w1 = .ok (.tuple #[.agg #[],.bool (J key).isSome]) w1:=by
  have q:=aW.abN Tryz.strKey Tryz.underlying64 (UR w1) key
  cases I:J key with
  |none=>rw[I] at q;exact q
  |some u=>rw[I,hU key u I] at q;exact q
 obtain⟨⟨f0,f1,f2⟩,c0,c1,c2,c3⟩:=HC.out w1 aw;obtain⟨V,P⟩:∃V,w1.alloc (.cells #[] 76)=V:=⟨_,rfl⟩;have aH:Xm w1.heap.size w1 V:=by rw[<-P];exact(Xq _ _).alloc (Xd _) _
 have z:Xm w.heap.size w V:=aE.trans (aH.mono aE.size);have aM:Xm W.heap.size W V:=aw.trans (aH.mono aw.size);have a9:=hU;clear hU
 cases O:J key with
 |some u=>
  rw[O] at Z;replace Z:(Zl 64 (.map (some c)) (.string (bs key)) true).run Tryz.prog w1 = .ok (.tuple #[.agg #[],.bool true]) w1:=Z;have HF:=Aa (⟨(show (J key).isSome=true by rw[O];rfl),z⟩:_/\_);replace P:=Aa P;clear D C M l hg H hz F N X U R ke aE aW aH z aM a9 O HC HP aw
  go_upto_region 3 with fail
  try rw[P.out]
  clear P
  go_wp2_with fail
  exact bodyPost_ret (results_none rfl _ _ _) rfl ⟨rfl,.inl HF.out⟩
 |none=>
  rw[O] at Z;replace Z:(Zl 64 (.map (some c)) (.string (bs key)) true).run Tryz.prog w1 = .ok (.tuple #[.agg #[],.bool false]) w1:=Z;have a1:=C.same (z.block c R);obtain⟨i,aR,T,Q,aK⟩:=a1.put Tryz.strKey Tryz.underlying64 key (.agg #[]);rw[O] at T;replace T:AB sk i c (Bz J key (.agg #[])) (n+1):=T;replace aR:(YA 64 (.map (some c)) (.string (bs key)) (.agg #[])).run Tryz.prog V = .ok () i:=aR;obtain⟨es,bO,aP,-⟩:=id C;have am:a≠c:=λq=>by unfold Ek at D;rw[q,aP] at D;cases D
  have a4:sb≠c:=λq=>by unfold Bb at M;rw[q,aP] at M;cases M
  have au:lb≠c:=λq=>by unfold Bb at l;rw[q,aP] at l;cases l
  have ao:lb≠a:=λq=>by
   unfold Bb at l;unfold Ek at D;rw[q,D] at l;injection l with l
   injection l with _ l
   exact absurd l (by decide)
  have bd:w.heap.size≠c:=by omega
  have Y:∀x,x<w.heap.size->x≠c->i.heap[x]?=w.heap[x]?:=λx hx hn=>(Q.block x (by have:=z.size;omega) (λq=>by injection q with q;exact hn q)).trans (z.block x hx);have aT:i.heap[d]?=some (.cells #[.int .i64 t,.int .i64 k,.int .i64 o,.int .i64 v] 48):=by
   rw[<-F]
   exact(Q.block _ (by have:=aM.size;omega) (λq=>by injection q with q;exact bd q)).trans ((aM.block _ (by omega)).trans ke)
  have aq:Ek i a G lb c:=(Y a N am).trans D;have ay:Bb i sb mv sh g f mo fr y nx:=(Y sb U a4).trans M;have aB:Bb i lb ag ac gL fL ah ad yL (.pointer none):=(Y lb X au).trans l;obtain⟨bE,bp,bn⟩:=IA ((z.block a N).trans D);have aO:Hid (∀u,Xm i.heap.size i u->(u.cell? ⟨a,0,none⟩=some G/\u.cell? ⟨a,1,none⟩=some (.pointer (some ⟨lb,0,none⟩))/\u.cell? ⟨a,2,none⟩=some (.map (some c)))/\(u.cell? ⟨d,0,none⟩=some (.int .i64 t)/\u.cell? ⟨d,1,none⟩=some (.int .i64 k)/\u.cell? ⟨d,2,none⟩=some (.int .i64 o)/\u.cell? ⟨d,3,none⟩=some (.int .i64 v))):=λu hu=>⟨IA ((hu.block a (by have:=z.size;omega)).trans aq),Ee ((hu.block d (Xa.1 aT).1).trans aT)⟩
  have hd:Xm i.heap.size i i.drew:=⟨rfl,rfl,rfl,Xd _,λ_ _=>rfl⟩;have aQ:=aeM (w:=i.drew) (b:=sb) (mb:=mB) (sh2:=key) (mv:=mv) (mo:=mo) (fr:=fr) (nx:=nx) (sh:=sh) (y:=y) ay hg ⟨t,k,o,v⟩;have bf:=Aa (aO.out i.drew hd);have HD:=Aa (⟨O,aq,ay,aB,T,Y,am,au,ao,Q,aK,z⟩:_/\_/\_/\_/\_/\_/\_/\_/\_/\_/\_/\_);replace P:=Aa P;clear D C M l hg H hz F N X U R ke aE aW aH z aM a9 O HC aw a1 T Q aK aP am a4 au ao bd Y aT aq ay aB;unfold DQ Ab at aQ
  go_upto_region 3 with fail
  try rw[P.out]
  clear P Z
  go_upto_region 5 with fail
  clear aR bE bp bn f0 f1 f2 c0 c1 c2 c3;refine Xx (S:=(λu=>(u.cell? ⟨a,0,none⟩=some G/\u.cell? ⟨a,1,none⟩=some (.pointer (some ⟨lb,0,none⟩))/\u.cell? ⟨a,2,none⟩=some (.map (some c)))/\(u.cell? ⟨d,0,none⟩=some (.int .i64 t)/\u.cell? ⟨d,1,none⟩=some (.int .i64 k)/\u.cell? ⟨d,2,none⟩=some (.int .i64 o)/\u.cell? ⟨d,3,none⟩=some (.int .i64 v)))) (by kernel_rfl) bf.out (λE=>?_);refine tk 0 E ?_;refine tk 1 E ?_;refine tk 2 E ?_;refine tk 3 E ?_;refine tk 4 E ?_;refine tk 5 E ?_;refine tk 6 E ?_;refine tk 7 E ?_;refine rd 8 (λK C=>?_)
  go_simp
  go_at_call 148
  refine aQ.mono ?_;rintro r w3 ⟨q,rfl,I,aN,A⟩;replace A:Xm i.heap.size i w3:=hd.trans A;replace I:i.heap.size<=q:=I;have hh:=Aa (aO.out w3 A);replace A:=Aa A;replace aN:=Aa aN;replace I:=Aa I
  go_wp2_with fail
  refine C.out _ _ hh.out (λE=>?_);clear C K hh
  try simp only[XF,sq]
  refine tk 9 E ?_;refine tk 10 E ?_;obtain⟨O,aq,ay,aB,T,Y,am,au,ao,Q,aK,z⟩:=HD.out;obtain⟨-,-,-,-,-,-,-,F,N,X,U,R,-⟩:=HP.out;have bI:=z.size;have aF:Bb w3 lb ag ac gL fL ah ad yL (.pointer none):=(A.out.block lb (by omega)).trans aB;have a5:Ek w3 a G lb c:=(A.out.block a (by omega)).trans aq;obtain⟨e0,e1,e2,e3,e4,e5,e6,e7⟩:=DR aF;have bC:w3.frozen? ⟨lb,7,none⟩=false:=by unfold Bb at aF;simp[XP,aF]
  obtain⟨h,ap⟩:∃x,w3.setCell ⟨lb,7,none⟩ (.pointer (some ⟨q,0,none⟩))=x:=⟨_,rfl⟩;have o4:∀x,x≠lb->h.heap[x]?=w3.heap[x]?:=λx hx=>by rw[<-ap];exact Xt w3 ⟨lb,7,none⟩ x _ hx
  have aY:Bb h lb ag ac gL fL ah ad yL (Ab q):=by rw[<-ap];exact(Xj w3 lb 7 _ _ _ aF).trans rfl
  have z4:h.heap.size=w3.heap.size:=by rw[<-ap];exact XC ..
  have an:Ek h a G lb c:=(o4 a (λe=>ao e.symm)).trans a5;have bk:(h.cell? ⟨a,0,none⟩=some G/\h.cell? ⟨a,1,none⟩=some (.pointer (some ⟨lb,0,none⟩))/\h.cell? ⟨a,2,none⟩=some (.map (some c)))/\(h.cell? ⟨d,0,none⟩=some (.int .i64 t)/\h.cell? ⟨d,1,none⟩=some (.int .i64 k)/\h.cell? ⟨d,2,none⟩=some (.int .i64 o)/\h.cell? ⟨d,3,none⟩=some (.int .i64 v)):=⟨IA an,by
   have q4:=(aO.out w3 A.out).2;have ne:d≠lb:=by omega
   have hc:∀j,h.cell? ⟨d,j,none⟩=w3.cell? ⟨d,j,none⟩:=λj=>by unfold Xg;dsimp only;rw[o4 d ne]
   rw[hc,hc,hc,hc];exact q4⟩
  have bN:h.frozen? ⟨a,1,none⟩=false:=by unfold Ek at an;simp[XP,an]
  obtain⟨s,ak⟩:∃x,h.setCell ⟨a,1,none⟩ (.pointer (some ⟨q,0,none⟩))=x:=⟨_,rfl⟩;have o5:∀x,x≠a->s.heap[x]?=h.heap[x]?:=λx hx=>by rw[<-ak];exact Xt h ⟨a,1,none⟩ x _ hx
  have bc:Ek s a G q c:=by rw[<-ak];exact(Xj h a 1 _ _ _ an).trans rfl
  have z5:s.heap.size=h.heap.size:=by rw[<-ak];exact XC ..
  have bH:=I.out;have bq:=A.out.size;have bi:q≠lb:=by omega
  have a8:q≠a:=by omega
  have a2:Bb s q (Ab mB) key (Gj g k) (f||decide (k=9)) (.slice none 0 0) (Ab sb) t (.pointer none):=(o5 q a8).trans ((o4 q bi).trans aN.out);have a3:Bb s lb ag ac gL fL ah ad yL (Ab q):=(o5 lb ao).trans aY;have ba:=T.same (w':=s) ((o5 c (λe=>am e.symm)).trans ((o4 c (λe=>au e.symm)).trans (A.out.block c (by have:=T.lt;omega))));have aI:s.os=w.os/\s.tape=w.tape/\s.output=w.output:=by
   rw[<-ak,<-ap]
   exact⟨A.out.os.trans (Q.os.trans z.os),A.out.tape.trans (Q.tape.trans z.tape),A.out.output.trans (Q.output.trans z.output)⟩
  have bl:Ac (λx=>x=a\/x=lb\/x=c) w s:=⟨aI.1,aI.2.1,aI.2.2,by omega,λx hx hn=>(o5 x (λe=>hn (.inl e))).trans ((o4 x (λe=>hn (.inr (.inl e)))).trans ((A.out.block x (by omega)).trans (Y x hx (λe=>hn (.inr (.inr e))))))⟩;have HF:=Aa (⟨O,q,by omega,a2,a3,bc,ba,bl⟩:J key=none/\∃q,w.heap.size<=q/\Bb s q (Ab mB) key (Gj g k) (f||decide (k=9)) (.slice none 0 0) (Ab sb) t (.pointer none)/\Bb s lb ag ac gL fL ah ad yL (Ab q)/\Ek s a G q c/\AB sk s c (Bz J key (.agg #[])) (n+1)/\Ac (λx=>x=a\/x=lb\/x=c) w s);obtain⟨y0,y1,y2⟩:=IA an;obtain⟨-,-,-,-,-,-,-,x7⟩:=DR aY;unfold Ab at x7;have bg:=Aa bk;replace ak:=Aa ak;clear O aq ay aB T Y am au ao Q aK z F N X U R bI aF a5 o4 aY z4 an bk o5 bc z5 bH bq bi a8 a2 a3 ba aI bl HD HP aO A aN I hd aQ bf;refine rd 11 (λK C=>?_)
  go_simp
  try rw[ap]
  refine C.out _ _ bg.out (λE=>?_);clear C K
  try simp only[XF,sq]
  refine Yd (by kernel_rfl) ?_ _;clear E bg ap e0 e1 e2 e3 e4 e5 e6 e7 bC
  go_wp2_with fail
  try rw[ak.out]
  go_end0
  exact⟨rfl,.inr HF.out⟩
theorem UE {w:Xh} {B base nv nf nl nt vc fc E D:Nat} {va fa G A:Option Addr} {vs fs ls:List Tx} {L:List (Tx×Xk)} {C:List (List Ad)} (O:Ck w B) (hB:B<=w.heap.size) (hp:BS w base (.slice va nv vc) (.slice fa nf fc) (.slice G nl E) (.slice A nt D) vs fs ls L C) (hb:GW vs fs ls L C) (y:Cs (Am vs fs ls L C)) (t:DX (Am vs fs ls L C)) (v:BT (Am vs fs ls L C) (AH vs.length fs.length ls.length L.length)) :
 XX Tryz.prog 54 #[.agg #[.slice va nv vc,.slice fa nf fc,.slice G nl E,.slice A nt D]] w λr w'=>∃o sb l mb,r = .returned (Ab o)/\Ek w' o (Ab sb) sb l/\Bb w' sb (Ab mb) (Aj (Am vs fs ls L C) (AH vs.length fs.length ls.length L.length)) (min (nt:Int) 1) false (.slice none 0 0) (.pointer none) 0 (.pointer none)/\AB sk w' l (Bz (λ_=>none) (Aj (Am vs fs ls L C) (AH vs.length fs.length ls.length L.length)) (.agg #[])) 1/\AP w' mb (Am vs fs ls L C) (AH vs.length fs.length ls.length L.length)/\(w.heap.size<=o/\w.heap.size<=sb/\w.heap.size<=l/\w.heap.size<=mb)/\Xm w.heap.size w w':=by
 obtain⟨pd,ag⟩:∃x,Am vs fs ls L C=x:=⟨_,rfl⟩;obtain⟨W,N⟩:∃W,w.alloc (.cells #[.slice va nv vc,.slice fa nf fc,.slice G nl E,.slice A nt D] 25)=W:=⟨_,rfl⟩;have q:Xm w.heap.size w W:=by rw[<-N];exact(Xq _ _).alloc (Xd _) _
 have kp:W.heap[w.heap.size]?=some (.cells #[.slice va nv vc,.slice fa nf fc,.slice G nl E,.slice A nt D] 25):=by rw[<-N];exact Xi w _
 have hz:W.heap.size=w.heap.size+1:=by rw[<-N];show (w.heap.push _).size=_;simp
 have aw:=RA (hp.below q) hb;obtain⟨m0,aD⟩:∃x,AH vs.length fs.length ls.length L.length=x:=⟨_,rfl⟩;rw[ag,aD] at aw v |-;rw[ag] at y t;obtain⟨key,F⟩:∃x,Aj pd m0=x:=⟨_,rfl⟩;rw[F];obtain⟨i,k⟩:∃x,w.heap.size=x:=⟨_,rfl⟩;have P:Hid (∀u,Xm W.heap.size W u->(u.cell? ⟨i,0,none⟩=some (.slice va nv vc)/\u.cell? ⟨i,1,none⟩=some (.slice fa nf fc)/\u.cell? ⟨i,2,none⟩=some (.slice G nl E)/\u.cell? ⟨i,3,none⟩=some (.slice A nt D))):=λu hu=>by rw[<-k];exact Ee ((hu.block _ (by omega)).trans kp)
 obtain⟨q0,q1,q2,q3⟩:=P.out W (Xq _ _);have HP:=Aa (⟨O,y,t,v,q,hz,k,F⟩:_/\_/\_/\_/\_/\_/\_/\_);replace k:=Aa k;clear O hp hb y t v q kp hz ag aD F
 go_enter Tryz.func54,Tryz.ntmps54
 go_upto_region 1 with fail
 try rw[N]
 try rw[k.out]
 clear N k
 go_wp2_with fail
 refine aw.mono ?_;rintro r w1 ⟨mb,rfl,Z,n,s⟩;clear aw q0 q1 q2 q3;obtain⟨O,y,t,v,q,hz,k,F⟩:=HP.out;have f:=q.trans (s.mono q.size);have J:Xm w1.heap.size w1 w1.drew:=⟨rfl,rfl,rfl,Xd _,λ_ _=>rfl⟩;have ad:=MA (B0:=B) (n.below J) y v t (O.keep ((f.trans (J.mono f.size)).mono hB)) (by show B<=w1.heap.size;have:=f.size;omega);rw[F] at ad;have aE:=Aa (P.out w1.drew (s.trans (J.mono s.size)));have X:=Aa (⟨n,f,s,Z⟩:_/\_/\_/\_);clear O y t v q hz k F f n s Z;unfold Ab at ad |-
 go_upto_region 2 with fail
 refine Xx (S:=(λu=>(u.cell? ⟨i,0,none⟩=some (.slice va nv vc)/\u.cell? ⟨i,1,none⟩=some (.slice fa nf fc)/\u.cell? ⟨i,2,none⟩=some (.slice G nl E)/\u.cell? ⟨i,3,none⟩=some (.slice A nt D)))) (by kernel_rfl) aE.out (λc=>?_);refine tk 0 c ?_;refine tk 1 c ?_;refine tk 3 c ?_;refine tk 4 c ?_;refine tk 5 c ?_;refine tk 6 c ?_;refine rd 2 (λK m=>?_)
 go_simp
 go_at_call 43
 refine ad.mono ?_;rintro r g ⟨rfl,h⟩;replace h:Xm w1.heap.size w1 g:=J.trans h;have z:Xm W.heap.size W g:=X.out.2.2.1.trans (h.mono X.out.2.2.1.size);have hh:=Aa (P.out g z);replace h:=Aa h;replace z:=Aa z
 go_wp2_with fail
 refine m.out _ _ hh.out (λc=>?_);clear m K
 try simp only[XF,sq]
 refine rd 7 (λK m=>?_);refine JG _ _ rfl [(0,.pointer (some ⟨mb,0,none⟩)),(1,.string (bs key)),(2,.int .i64 (min (nt:Int) 1))] rfl #[.pointer (some ⟨mb,0,none⟩),.string (bs key),.int .i64 (min (nt:Int) 1),.bool false,.slice none 0 0,.pointer none,.int .i64 0,.pointer none] (by rfl) ?_;refine m.out _ _ hh.out (λc=>?_);clear m K
 try simp only[XF,sq]
 refine rd 8 (λK m=>?_)
 go_simp
 obtain⟨V,U⟩:∃V,g.alloc (.cells #[.pointer (some ⟨mb,0,none⟩),.string (bs key),.int .i64 (min (nt:Int) 1),.bool false,.slice none 0 0,.pointer none,.int .i64 0,.pointer none] 75)=V:=⟨_,rfl⟩;have ab:Xm g.heap.size g V:=by rw[<-U];exact(Xq _ _).alloc (Xd _) _
 have M:V.heap[g.heap.size]?=some (.cells #[.pointer (some ⟨mb,0,none⟩),.string (bs key),.int .i64 (min (nt:Int) 1),.bool false,.slice none 0 0,.pointer none,.int .i64 0,.pointer none] 75):=by rw[<-U];exact Xi g _
 try rw[U]
 clear U;refine m.out _ _ (P.out V (z.out.trans (ab.mono z.out.size))) (λc=>?_);clear m K
 try simp only[XF,sq]
 refine tk 9 c ?_;refine Yd (by kernel_rfl) ?_ _;clear c aE J hh ad P;obtain⟨d0,d1,d2,d3,d4,d5,d6,d7⟩:=DR M;obtain⟨sb,aH⟩:∃x,g.heap.size=x:=⟨_,rfl⟩;rw[aH] at M d0 d1 d2 d3 d4 d5 d6 d7 |-;have a6:=@run_makeMap Tryz.prog;obtain⟨T,ay⟩:∃x,V.alloc (.map #[] 0)=x:=⟨_,rfl⟩;have j:Xm V.heap.size V T:=by rw[<-ay];exact(Xq _ _).alloc (Xd _) _
 have aC:AB sk T V.heap.size (λ_=>none) 0:=by rw[<-ay];exact AB.made V
 obtain⟨d,aj,Q,I,aZ⟩:=aC.put Tryz.strKey Tryz.underlying64 key (.agg #[]);replace Q:AB sk d V.heap.size (Bz (λ_=>none) key (.agg #[])) 1:=Q;replace aj:(YA 64 (.map (some V.heap.size)) (.string (bs key)) (.agg #[])).run Tryz.prog T = .ok () d:=aj;obtain⟨l,aL⟩:∃x,V.heap.size=x:=⟨_,rfl⟩;have ai:sb<V.heap.size:=(Xa.1 M).1;have aq:∀x,x<V.heap.size->d.heap[x]?=V.heap[x]?:=λx hx=>(I.block x (by have:=j.size;omega) (λe=>by injection e with e;omega)).trans (j.block x hx);obtain⟨b,H⟩:∃x,d.alloc (.cells #[.pointer (some ⟨sb,0,none⟩),.pointer (some ⟨sb,0,none⟩),.map (some l)] 154)=x:=⟨_,rfl⟩;have aa:Xm d.heap.size d b:=by rw[<-H];exact(Xq _ _).alloc (Xd _) _
 have kF:b.heap[d.heap.size]?=some (.cells #[.pointer (some ⟨sb,0,none⟩),.pointer (some ⟨sb,0,none⟩),.map (some l)] 154):=by rw[<-H];exact Xi d _
 obtain⟨o,Y⟩:∃x,d.heap.size=x:=⟨_,rfl⟩;obtain⟨n,f,s,Z⟩:=X.out;have zV:=ab.size;have zm:=j.size;have aY:=f.size;have z2:=h.out.size;have aN:=n.lt;have ah:Xm w1.heap.size w1 d:=by
  have a:=h.out.trans (ab.mono h.out.size)
  exact⟨I.os.trans (j.os.trans a.os),I.tape.trans (j.tape.trans a.tape),I.output.trans (j.output.trans a.output),by omega,λx hx=>(aq x (by omega)).trans (a.block x hx)⟩
 have am:Xm w1.heap.size w1 b:=ah.trans (aa.mono ah.size);have aA:=n.below am;have aI:Bb b sb (Ab mb) key (min (nt:Int) 1) false (.slice none 0 0) (.pointer none) 0 (.pointer none):=(aa.block sb (by omega)).trans ((aq sb ai).trans M);have ap:=Q.same (w':=b) (aa.block _ Q.lt);rw[Y] at kF;rw[aL] at ap;have aX:=HP.out.2.2.2.2.1.size;have az:Ek b o (Ab sb) sb l:=kF;have HF:=Aa (⟨o,sb,l,mb,rfl,az,aI,ap,aA,⟨by omega,by omega,by omega,by omega⟩,f.trans (am.mono f.size)⟩:∃av R ar ak,Ending.returned (Value.pointer (some ⟨o,0,none⟩)) = .returned (Ab av)/\Ek b av (Ab R) R ar/\Bb b R (Ab ak) key (min (nt:Int) 1) false (.slice none 0 0) (.pointer none) 0 (.pointer none)/\AB sk b ar (Bz (λ_=>none) key (.agg #[])) 1/\AP b ak pd m0/\(w.heap.size<=av/\w.heap.size<=R/\w.heap.size<=ar/\w.heap.size<=ak)/\Xm w.heap.size w b);have e1:T.cell? ⟨sb,1,none⟩=some (.string (bs key)):=(j.cell (p:=⟨sb,1,none⟩) ai).trans d1;replace H:=Aa H;replace Y:=Aa Y;rw[aL] at aj;clear ab M j aC Q I aZ ai aq aa kF n f s Z zV zm aY z2 aN ah am aA aI ap aX az HP X h z aH
 go_wp2_with fail
 rw[H.out,Y.out]
 go_ret
 exact HF.out
def Dd (x:Int):List Ev->Option (Ev×Ev)
 |[]=>none
 |a::r=>match r.find? (λb=>DS a b x) with
  |some b=>some (a,b)
  |none=>Dd x r
def Ld (x:Int) (l:List Ev):Bool:=decide (1<l.countP (λe=>Ca e x))&&l.any (λe=>Ca e x&&e.k == 2)
theorem LF {α:Type} {q:α->Bool} {l:List α}:l.find? q=none↔∀a,a∈l->q a=false:=by
 rw[List.find?_eq_none]
 exact⟨λh a b=>Bool.eq_false_iff.2 (h a b),λh a b=>by rw[h a b];decide⟩
theorem ae0 {x:Int} {l:List Ev} (h:l.any (λe=>Ca e x)=false):l.countP (λe=>Ca e x)=0/\l.any (λe=>Ca e x&&e.k == 2)=false:=by
 have h:∀a,a∈l->Ca a x=false:=λa b=>by
  cases e:Ca a x with
  |false=>rfl
  |true=>rw[YD.2 ⟨a,b,e⟩] at h;cases h
 refine⟨List.countP_eq_zero.2 λa b=>by rw[h a b];decide,?_⟩
 cases e:l.any (λe=>Ca e x&&e.k == 2) with
 |false=>rfl
 |true=>
  obtain⟨a,b,c⟩:=YD.1 e;rw[h a b] at c
  cases c
theorem KU (x:Int):∀l:List Ev,(Dd x l).isSome=Ld x l
 |[]=>rfl
 |a::r=>by
  have j:=KU x r;unfold Dd;unfold Ld at j |-;rw[List.countP_cons,List.any_cons]
  cases h:Ca a x with
  |false=>
   have f:r.find? (λb=>DS a b x)=none:=LF.2 λb _=>by unfold DS;rw[h];rfl
   rw[f];dsimp only;rw[j]
   simp
  |true=>
   cases i:r.any (λe=>Ca e x) with
   |false=>
    obtain⟨y,s⟩:=ae0 i;have g:∀b,b∈r->Ca b x=false:=λb g=>by
     cases e:Ca b x with
     |false=>rfl
     |true=>rw[YD.2 ⟨b,g,e⟩] at i;cases i
    have f:r.find? (λb=>DS a b x)=none:=LF.2 λb t=>by unfold DS;rw[h,g b t];rfl
    rw[f];dsimp only;rw[j,y,s]
    simp
   |true=>
    obtain⟨c,o,m⟩:=YD.1 i;have m:Ca c x=true:=m;have A:0<r.countP (λe=>Ca e x):=List.countP_pos_iff.2 ⟨c,o,m⟩;have q:decide (1<r.countP (λe=>Ca e x)+(if true=true then 1 else 0))=true:=decide_eq_true (by rw[if_pos rfl];omega);rw[q,ZT,ZT]
    cases n:r.find? (λb=>DS a b x) with
    |some b=>
     have z:=List.mem_of_find?_eq_some n;have d:DS a b x=true:=List.find?_some (p:=λb=>DS a b x) n;unfold DS at d;rw[h,ZT,Ym,Bool.or_eq_true] at d;show true=_
     rcases d.2 with w|w
     ·rw[w];rfl
     ·rw[YD.2 ⟨b,z,by rw[d.1,w];rfl⟩,Bool.or_true]
    |none=>
     have f:=LF.1 n;have u:(a.k == 2)=false:=by
      have:=f c o;unfold DS at this;rw[h,m] at this
      cases e:(a.k == 2) with
      |false=>rfl
      |true=>rw[e] at this;cases this
     have v:r.any (λe=>Ca e x&&e.k == 2)=false:=by
      cases e:r.any (λe=>Ca e x&&e.k == 2) with
      |false=>rfl
      |true=>
       obtain⟨b,g,d⟩:=YD.1 e;rw[Ym] at d;have:=f b g;unfold DS at this;rw[h,d.1,d.2] at this
       simp at this
     dsimp only;rw[j,v,u]
     simp
theorem Ey {e:Ev} {x y kk:Int} {a:Tx} (b:e.k=kk) (d:kk≠1/\kk≠2) (h:(a == Bu||a == AM)=false) (f:(a == AM)=false):Ca e x=((a == Bu||a == AM)&&y == x)/\(e.k == 2)=(a == AM):=by
 have g:(e.k == 1)=false:=by rw[b];simpa using d.1
 have c:(e.k == 2)=false:=by rw[b];simpa using d.2
 constructor
 ·unfold Ca;rw[g,c,h]
  simp
 ·rw[c,f]
theorem VA (k:Bool) (s:MS) (t:Nat) (i:Ad) (x:Int):Ca (Bc k s t i).2 x=((i.op == Bu||i.op == AM)&&i.x == x)/\((Bc k s t i).2.k == 2)=(i.op == AM):=by
 unfold Bc
 by_cases c1:i.op=Eo
 ·rw[if_pos c1,c1];exact Ey (kk:=0) rfl (by decide) (by decide) (by decide)
 rw[if_neg c1]
 by_cases c2:i.op=Er
 ·rw[if_pos c2,c2];exact Ey (kk:=0) rfl (by decide) (by decide) (by decide)
 rw[if_neg c2]
 by_cases c3:i.op=En
 ·rw[if_pos c3,c3];exact Ey (kk:=0) rfl (by decide) (by decide) (by decide)
 rw[if_neg c3]
 by_cases c4:i.op=Ep
 ·rw[if_pos c4,c4];exact Ey (kk:=0) rfl (by decide) (by decide) (by decide)
 rw[if_neg c4]
 by_cases c5:i.op=Bu
 ·rw[if_pos c5,c5];refine⟨?_,rfl⟩;unfold Ca;show (i.x == x&&((1:Int) == 1||(1:Int) == 2))=((Bu == Bu||Bu == AM)&&i.x == x);rw[show (Bu == Bu||Bu == AM)=true by decide,show ((1:Int) == 1||(1:Int) == 2)=true by decide,Bool.and_true,ZT]
 rw[if_neg c5]
 by_cases a:i.op=AM
 ·rw[if_pos a,a];refine⟨?_,rfl⟩;unfold Ca;show (i.x == x&&((2:Int) == 1||(2:Int) == 2))=((AM == Bu||AM == AM)&&i.x == x);rw[show (AM == Bu||AM == AM)=true by decide,show ((2:Int) == 1||(2:Int) == 2)=true by decide,Bool.and_true,ZT]
 rw[if_neg a]
 by_cases h:i.op=Ec
 ·rw[if_pos h,h];exact Ey (kk:=3) rfl (by decide) (by decide) (by decide)
 rw[if_neg h]
 by_cases j:i.op=Eb
 ·rw[if_pos j,j];exact Ey (kk:=4) rfl (by decide) (by decide) (by decide)
 rw[if_neg j]
 by_cases f:i.op=BP
 ·rw[if_pos f,f];exact Ey (kk:=5) rfl (by decide) (by decide) (by decide)
 rw[if_neg f]
 by_cases d:i.op=CI
 ·rw[if_pos d,d]
  split
  ·exact Ey (kk:=9) rfl (by decide) (by decide) (by decide)
  ·exact Ey (kk:=6) rfl (by decide) (by decide) (by decide)
 rw[if_neg d]
 by_cases m:i.op=BJ
 ·rw[if_pos m,m];exact Ey (kk:=7) rfl (by decide) (by decide) (by decide)
 rw[if_neg m]
 by_cases g:i.op=BQ
 ·rw[if_pos g,g];exact Ey (kk:=8) rfl (by decide) (by decide) (by decide)
 rw[if_neg g]
 by_cases l:i.op=Dg
 ·rw[if_pos l,l];exact Ey (kk:=0) rfl (by decide) (by decide) (by decide)
 rw[if_neg l]
 by_cases c:i.op=CX
 ·rw[if_pos c,c];exact Ey (kk:=0) rfl (by decide) (by decide) (by decide)
 rw[if_neg c]
 by_cases b:i.op=CW
 ·rw[if_pos b,b];exact Ey (kk:=0) rfl (by decide) (by decide) (by decide)
 rw[if_neg b]
 by_cases e:i.op=Dh
 ·rw[if_pos e,e]
  split
  ·exact Ey (kk:=9) rfl (by decide) (by decide) (by decide)
  ·exact Ey (kk:=0) rfl (by decide) (by decide) (by decide)
 rw[if_neg e];exact Ey (kk:=10) rfl (by decide) (by simp[c5,a]) (by simp[a])
def DY (C:List (List Ad)) (m:MS) (x:Int):Bool:=
 let l:=(AG C m).map λt=>BB C t.toNat (m.th t.toNat)
 decide (1<l.countP λi=>(i.op == Bu||i.op == AM)&&i.x == x)&&l.any λi=>((i.op == Bu||i.op == AM)&&i.x == x)&&i.op == AM
def Bj (C:List (List Ad)) (m:MS):List Ev:=(AG C m).map λt=>(Ay false C m t).2
theorem MR (C:List (List Ad)) (m:MS) (x:Int):Ld x (Bj C m)=DY C m x:=by
 unfold Ld DY Bj;dsimp only;rw[List.countP_map,List.countP_map,List.any_map,List.any_map];have h:∀t,Ca (Ay false C m t).2 x=(((BB C t.toNat (m.th t.toNat)).op == Bu||(BB C t.toNat (m.th t.toNat)).op == AM)&&(BB C t.toNat (m.th t.toNat)).x == x)/\((Ay false C m t).2.k == 2)=((BB C t.toNat (m.th t.toNat)).op == AM):=λt=>VA false m t.toNat _ x;have a:((λe=>Ca e x) ∘ λt=>(Ay false C m t).2)=((λi:Ad=>(i.op == Bu||i.op == AM)&&i.x == x) ∘ λt:Int=>BB C t.toNat (m.th t.toNat)):=by
  funext t
  exact(h t).1
 have b:((λe=>Ca e x&&e.k == 2) ∘ λt=>(Ay false C m t).2)=((λi:Ad=>((i.op == Bu||i.op == AM)&&i.x == x)&&i.op == AM) ∘ λt:Int=>BB C t.toNat (m.th t.toNat)):=by
  funext t
  show (Ca (Ay false C m t).2 x&&(Ay false C m t).2.k == 2)=_;rw[(h t).1,(h t).2]
  rfl
 rw[a,b]
end Go.Proofs.YtdcacoifehkioaaGreatDoor
namespace Go.Proofs.YtdcacoifehkioaaGreatDoor
open Go.RowKit Go.Proofs.Cod
section
variable {w w':Xh} {b:Nat} {p:PD} {s:MS}
theorem QL (h:AP w b p s) (m:Cs p) (B:BT p s) :
 XX Tryz.prog 15 #[Ab b] w λe w'=>∃v,e = .returned v/\w'.ownsRow w.heap.size 3 1 v (AG p.C s).length ((AG p.C s).map Cq)/\Xm w.heap.size w w':=by
 have V:=Lq h;have x:s.thr.length=p.ts.length:=by rw[B.tl,m.tc]
 have T:p.ts.length<=4:=by rw[m.tc];exact m.fit.four
 have E:=Aa (fun(w':Xh) (M:Xm w.heap.size w w') (t:Int)=>QK (h.below M) m B t);replace x:=Aa x;unfold AG;rw[x.out];clear h m B x;unfold Ab at *
 go_enter Tryz.func15,Tryz.ntmps15
 go_wp2_with fail
 go_loopw [3,9] (λN D wr=>∃i:Nat,i<=p.ts.length/\D = .int .i64 i/\wr.ownsRow w.heap.size 3 1 N (Dz p.C s i).length ((Dz p.C s i).map Cq)/\Xm w.heap.size w wr) (λ_ D _=>p.ts.length - (intOf D).toNat)
 case atStart=>exact⟨0,Xw _,rfl,World.ownsRow_nil _ _ _ _,Xq _ _⟩
 case round=>
  obtain⟨i,R,rfl,c,d⟩:=hrel;have k:=Jh p.C s i;have f:=Aa (QM p.C s i);obtain⟨l,n⟩:∃l,Dz p.C s i=l:=⟨_,rfl⟩;rw[n] at c k f;replace n:=Aa n;obtain⟨S,Q,rfl⟩:=At c
  by_cases j:i<p.ts.length
  ·have U:(i:Int)<(p.ts.length:Int):=by omega
   have y:wrap64 ((i:Int)+1)=(i:Int)+1:=by unfold wrap64;omega
   have z:=E.out wr d i;obtain⟨r,J⟩:∃r,AO p.C s (i:Int)=r:=⟨_,rfl⟩;rw[J] at z f;have I:=Aa (⟨c,d,j,k⟩:_/\_/\_/\_);clear c d j R n J k E
   go_wp2_with fail
   refine z.mono ?_;rintro e O ⟨rfl,A⟩;obtain⟨c,d,j,k⟩:=I.out;have u:O.ownsRow w.heap.size 3 1 (.slice S l.length Q) l.length (l.map Cq):=BA c λg e=>A.block g (c.lt g e).2;have q:=d.trans (A.mono d.size);clear c d I z A
   cases G:r == 0 with
   |true=>
    have o:r=0:=by simpa using G
    obtain⟨g,cap,w3,P,H,F⟩:=NH u (i:Int) (by omega) q.size;have a:=Aa (⟨H,q.trans (F _ (Xd _)),j⟩:_/\_/\_);replace f:Hid (Dz p.C s (i+1)=l++[(i:Int)]):=by unfold Hid;rw[f.out,if_pos o]
    clear H q F j k u o
    go_wp2_with (at_builtin;refine Dm rfl _ _ _ rfl rfl rfl rfl P ?_)
    go_roundw
    case rel=>
     (try rw[y])
     refine⟨i+1,a.out.2.2,rfl,?_,a.out.2.1⟩;rw[f.out];exact a.out.1
    case measure=>
     (try rw[y])
     exact Xl a.out.2.2 (Xn i)
   |false=>
    have o:r≠0:=by simpa using G
    have a:=Aa (⟨u,q,j⟩:_/\_/\_);replace f:Hid (Dz p.C s (i+1)=l):=by unfold Hid;rw[f.out,if_neg o]
    clear q j k u o
    go_wp2_with fail
    go_roundw
    case rel=>
     (try rw[y])
     refine⟨i+1,a.out.2.2,rfl,?_,a.out.2.1⟩;rw[f.out];exact a.out.1
    case measure=>
     (try rw[y])
     exact Xl a.out.2.2 (Xn i)
  ·have K:i=p.ts.length:=by omega
   subst K;have a:=Aa (⟨c,d⟩:_/\_);clear c d E
   go_wp2_with fail
   go_ret
   rw[n.out]
   exact⟨_,rfl,a.out⟩
end
section
variable {w w':Xh} {b:Nat} {p:PD} {s:MS}
theorem aer (h:AP w b p s):XX Tryz.prog 115 #[Ab b] w λe w'=>e = .returned (Ab w.heap.size)/\AP w' w.heap.size p s/\Xm w.heap.size w w':=by
 have a:An (w.alloc (.cells Tryz.zeroCells117 117)) w.heap.size 117 856 (λk=>Tryz.zeroCells117.getD k undef):=by
  have:=An.new (f:=λk=>Tryz.zeroCells117.getD k undef) w Tryz.zeroCells117 117 (λk o=>by rw[Array.getD_eq_getD_getElem?,Array.getElem?_eq_getElem o];rfl);rw[Tryz.zeroCells117_size] at this;exact this
 have m:∀j,j<856->w.cell? ⟨b,0+j,none⟩=some (AA p s j):=λj l=>by rw[XE];exact h.cell l
 have g:∀j,j<(((YB 856).map (AA p s)).toArray).size->((w.alloc (.cells Tryz.zeroCells117 117)).cell? ⟨w.heap.size,0+j,none⟩).isSome=true:=λj l=>by rw[XE,a.cell (by simpa using l)];rfl
 have d:∀j,j<(((YB 856).map (AA p s)).toArray).size->(w.alloc (.cells Tryz.zeroCells117 117)).frozen? ⟨w.heap.size,0+j,none⟩=false:=λj _=>a.frozen _;have i:=JY (AA p s) 856 (abD p s);have n:(((YB 856).map (AA p s)).toArray).size=856:=by simp
 obtain⟨R,c⟩:∃R,((YB 856).map (AA p s)).toArray=R:=⟨_,rfl⟩;rw[c] at g d i n;have r:(Tryz.prog.info? 117).map (·.size)=some R.size:=by rw[n];exact Tryz.sizeMc
 have t:=Aa (⟨a,h⟩:_/\_);replace m:=Aa m;replace g:=Aa g;replace d:=Aa d;replace i:=Aa i;replace r:=Aa r;replace c:=Aa c;clear a h n;unfold Ab
 go_enter Tryz.func115,Tryz.ntmps115
 go_wp2_with (first|(refine Mm rfl _ _ rfl b 0 856 rfl (AA p s) _ m.out Tryz.underlying117 rfl Tryz.sizeMc ?_;rw[c.out];simp only[XF,XV,X9,X7])|(refine Iy rfl _ _ _ rfl w.heap.size 0 R rfl rfl g.out d.out r.out i.out ?_;simp only[XF,XV,X9,X7]))
 go_ret
 obtain⟨a,h⟩:=t.out;have q:=Fa (S:=λ_=>False) (w:=w) (b:=w.heap.size) R.toList 0 (Ac.DG ((Xq w.heap.size w).alloc (Xd _) (.cells Tryz.zeroCells117 117))) (.inr (Xd _));refine⟨rfl,?_,⟨q.os,q.tape,q.output,q.size,λk o=>q.block k o id⟩⟩;rw[<-c.out];exact a.fill
end
end Go.Proofs.YtdcacoifehkioaaGreatDoor
namespace Go.Proofs.YtdcacoifehkioaaGreatDoor
open Go.RowKit Go.Shelf Go.Proofs.Cod
structure Ag where
 b:Nat
 m:MS
 mb:Nat
 fr:Option Nat
 y:Int
 mo:Xk
def DO:Option Nat->Xk
 |none=>.pointer none
 |some b=>Ab b
def Fy (C:List (List Ad)) (i k j:Nat) (m:MS):List Ev:=if j<i then Bj C m else if j=i then(Bj C m).take k else []
def Ff (R:List Ag) (j:Nat):Xk:=DO ((R[j+1]?).map Ag.b)
def Gg (p:PD) (R:List Ag):List Tx:=R.map λr=>Aj p r.m
structure FW (w:Xh) (p:PD) (base fb kb:Nat) (R:List Ag) (i k:Nat):Prop where
 fo:∃(r0 rl:Ag),R[0]?=some r0/\R[R.length - 1]?=some rl/\Ek w fb (Ab r0.b) rl.b kb
 km:∃fk,AB sk w kb fk R.length/\(∀x u,fk x=some u->u = .agg #[])/\(∀x,(fk x).isSome=true↔x∈Gg p R)
 st:∀(j:Nat) (r:Ag),R[j]?=some r->Bb w r.b (if j<i then .pointer none else Ab r.mb) (Aj p r.m) (Au r.m) (Bw r.m) r.mo (DO r.fr) r.y (Ff R j)
 ma:∀(j:Nat) (r:Ag),R[j]?=some r->i<=j->AP w r.mb p r.m
 mo:∀(j:Nat) (r:Ag),R[j]?=some r->w.ownsRow base 48 4 r.mo (Fy p.C i k j r.m).length ((Fy p.C i k j r.m).flatMap Ef)
 mn:∀(j:Nat) (r:Ag),R[j]?=some r->i<j\/(j=i/\k=0)->r.mo = .slice none 0 0
 ok:∀(j:Nat) (r:Ag),R[j]?=some r->BT p r.m
 ap:∀(j j':Nat) (r r':Ag),R[j]?=some r->R[j']?=some r'->r.b=r'.b->j=j'
 am:∀(j j':Nat) (r r':Ag) (x:Nat),R[j]?=some r->R[j']?=some r'->r.mo.ownBlock=some x->r'.mo.ownBlock=some x->j=j'
 lo:base<=fb/\base<=kb/\∀(j:Nat) (r:Ag),R[j]?=some r->base<=r.b/\base<=r.mb
 way:∀(j:Nat) (r:Ag),R[j]?=some r->(j=0/\r.fr=none/\r.m=AH p.vs.length p.fs.length p.ls.length p.C.length)\/∃(j':Nat) (r':Ag),j'<j/\R[j']?=some r'/\r.fr=some r'.b/\AO p.C r'.m r.y=0/\r.m=(Ay false p.C r'.m r.y).1
def DK (fb kb:Nat) (R:List Ag) (i:Nat) (x:Nat):Prop:=x=fb\/x=kb\/∃(j:Nat) (r:Ag),R[j]?=some r/\(x=r.b\/(i<=j/\x=r.mb)\/r.mo.ownBlock=some x)
theorem Ea {w w':Xh} {base e a n:Nat} {v:Xk} {b:List Xk} (h:w.ownsRow base e a v n b) (c:∀x,v.ownBlock=some x->w'.heap[x]?=w.heap[x]?):w'.ownsRow base e a v n b:=by
 refine⟨h.1,?_⟩
 rcases h.2 with q|⟨g,cap,d,rfl,i,j,f⟩
 ·exact .inl q
 ·exact .inr ⟨g,cap,d,rfl,i,(c g rfl).trans j,f⟩
theorem adW {w:Xh} {base:Nat} {v:Xk} {l:List Ev} (h:w.ownsRow base 48 4 v l.length (l.flatMap Ef)) (x:Ev) (i:l.length<1048576) (f:base<=w.heap.size) :
 ∃g cap w',(Builtin.append_ #[73,73] 73 #[v,.slice (some ⟨w.heap.size,0,none⟩) 1 1]).run Tryz.prog (w.alloc (.cells (DQ x) 48)) = .ok (.slice (some ⟨g,0,none⟩) (l.length+1) cap) w'/\
  w'.ownsRow base 48 4 (.slice (some ⟨g,0,none⟩) (l.length+1) cap) (l++[x]).length ((l++[x]).flatMap Ef)/\Ac (λk=>v.ownBlock=some k) w w'/\(v.ownBlock=some g\/w.heap.size<=g):=by
 obtain⟨s,m,r,c,n⟩:=info_parts Tryz.infoEv;obtain⟨g,cap,w',d,j,b,p,q,t,rb,o⟩:=Ig h Tryz.underlying73 m r c n rfl (by omega) (Ef x) rfl (by intro u a;simp only[Ef,DQ,List.mem_cons,List.not_mem_nil,or_false] at a;rcases a with rfl|rfl|rfl|rfl<;>rfl) 73 i f;refine⟨g,cap,w',d,?_,⟨b,p,q,by omega,rb⟩,o.imp id (λe=>by omega)⟩;rw[Xb,X6];have e:List.flatMap Ef [x]=Ef x:=by simp
 rw[e];exact j
section
variable {w w':Xh} {p:PD} {base fb kb i k:Nat} {R:List Ag}
theorem FW.lt (h:FW w p base fb kb R i k) {x:Nat} (f:DK fb kb R i x):x<w.heap.size:=by
 rcases f with rfl|rfl|⟨j,r,a,rfl|⟨c,rfl⟩|e⟩
 ·obtain⟨m,l,-,-,b⟩:=h.fo
  exact(Xa.1 b).1
 ·obtain⟨g,d,-⟩:=h.km;exact d.lt
 ·exact(Xa.1 (h.st j r a)).1
 ·exact(h.ma j r a c).lt
 ·exact((h.mo j r a).lt x e).2
theorem FW.same (h:FW w p base fb kb R i k) (b:∀x,DK fb kb R i x->w'.heap[x]?=w.heap[x]?):FW w' p base fb kb R i k:=by
 refine⟨?_,?_,λj r a=>(b _ (.inr (.inr ⟨j,r,a,.inl rfl⟩))).trans (h.st j r a),λj r a d=>(h.ma j r a d).same (b _ (.inr (.inr ⟨j,r,a,.inr (.inl ⟨d,rfl⟩)⟩))),λj r a=>Ea (h.mo j r a) (λx e=>b x (.inr (.inr ⟨j,r,a,.inr (.inr e)⟩))),h.mn,h.ok,h.ap,h.am,h.lo,h.way⟩
 ·obtain⟨m,g,o,c,l⟩:=h.fo
  exact⟨m,g,o,c,(b fb (.inl rfl)).trans l⟩
 ·obtain⟨f,n,c⟩:=h.km
  exact⟨f,n.same (b kb (.inr (.inl rfl))),c⟩
theorem FW.below (h:FW w p base fb kb R i k) (b:Xm w.heap.size w w'):FW w' p base fb kb R i k:=h.same λx a=>b.block x (h.lt a)
theorem FW.keep {S:Nat->Prop} (h:FW w p base fb kb R i k) (b:Ac S w w') (c:∀x,DK fb kb R i x->¬S x):FW w' p base fb kb R i k:=h.same λx a=>b.block x (h.lt a) (c x a)
theorem FW.kinds (h:FW w p base fb kb R i k):fb≠kb/\(∀(j:Nat) (r:Ag),R[j]?=some r->r.b≠fb/\r.b≠kb/\(∀x,r.mo.ownBlock=some x->x≠fb/\x≠kb))/\(∀(j u:Nat) (r r':Ag),R[j]?=some r->R[u]?=some r'->(i<=u->r.b≠r'.mb)/\(∀x,r'.mo.ownBlock=some x->x≠r.b/\(i<=j->x≠r.mb)))/\(∀(j:Nat) (r:Ag),R[j]?=some r->i<=j->r.mb≠fb/\r.mb≠kb):=by
 obtain⟨F,H,-,-,s⟩:=h.fo;obtain⟨G,⟨J,I,A,-⟩,-⟩:=h.km;have B:∀(j:Nat) (r:Ag) (x:Nat),R[j]?=some r->r.mo.ownBlock=some x->∃l,w.heap[x]?=some (.cells l 48 (0,0)):=λj r x c d=>by
  rcases (h.mo j r c).2 with⟨q,-⟩|⟨g,cap,l,q,-,v,-⟩
  ·rw[q] at d;cases d
  ·rw[q] at d
   cases d
   exact⟨l,v⟩
 have z:∀(j:Nat) (r:Ag),R[j]?=some r->i<=j->∃l,w.heap[r.mb]?=some (.cells l 117):=λj r c n=>by
  obtain⟨cs,D,-⟩:=h.ma j r c n
  exact⟨cs,D⟩
 have o:∀{x:Nat} {a b:Array Xk} {t t':Nat} {f f':Nat×Nat},w.heap[x]?=some (.cells a t f)->w.heap[x]?=some (.cells b t' f')->t=t':=λD v=>by
  rw[D] at v;injection v with v
  injection v
 unfold Ek at s;have y:=h.st;unfold Bb at y;refine⟨λe=>?_,λj r c=>⟨λe=>?_,λe=>?_,λx d=>⟨λe=>?_,λe=>?_⟩⟩,λj u r r' c C=>⟨λn e=>?_,λx d=>⟨λe=>?_,λn e=>?_⟩⟩,λj r c n=>⟨λe=>?_,λe=>?_⟩⟩
 ·rw[e,A] at s;cases s
 ·have q:=y j r c;rw[e] at q;exact absurd (o q s) (by decide)
 ·have q:=y j r c;rw[e,A] at q;cases q
 ·obtain⟨l,q⟩:=B j r x c d;rw[e] at q;exact absurd (o q s) (by decide)
 ·obtain⟨l,q⟩:=B j r x c d;rw[e,A] at q;cases q
 ·have q:=y j r c;obtain⟨l,m⟩:=z u r' C n;rw[e] at q;exact absurd (o q m) (by decide)
 ·obtain⟨l,q⟩:=B u r' x C d;rw[e] at q;exact absurd (o q (y j r c)) (by decide)
 ·obtain⟨l,q⟩:=B u r' x C d;obtain⟨E,m⟩:=z j r c n;rw[e] at q;exact absurd (o q m) (by decide)
 ·obtain⟨E,m⟩:=z j r c n;rw[e] at m;exact absurd (o m s) (by decide)
 ·obtain⟨E,m⟩:=z j r c n;rw[e,A] at m;cases m
end
theorem acG:∀(l r:Tx),(10:UInt8)∉l->Lib.index (l++10::r) [10]=l.length:=by
 intro l
 induction l with
 |nil=>
  intro r _;unfold Lib.index
  simp
 |cons a l b=>
  intro r h;have d:a≠10:=λe=>h (by rw[e];exact Yf ..);have f:(10:UInt8)∉l:=λe=>h (Yl _ e);have:=b r f;rw[List.cons_append];unfold Lib.index;have c:([10]:List UInt8).isPrefixOf (a::(l++10::r))=false:=by
   have:((10:UInt8) == a)=false:=by simpa using λe:(10:UInt8)=a=>d e.symm
   simp[List.isPrefixOf,this]
  rw[if_neg (by rw[c];decide),this,if_neg (by simp),XH]
  omega
theorem PJ:∀(ls:List Tx) (r:Tx),(∀l,l∈ls->(10:UInt8)∉l)->Lib.splitK [10] 0 ls.length (ls.flatMap (λl=>l++[10])++r)=ls++[r]
 |[],r,_=>rfl
 |l::ls,r,h=>by
  have b:=h l (Yf ..);have e:(l::ls).flatMap (λl=>l++[10])++r=l++10::(ls.flatMap (λl=>l++[10])++r):=by simp
  rw[e,XH];unfold Lib.splitK;rw[acG _ _ b];rw[if_neg (by simp)];rw[Int.toNat_natCast,Nat.add_zero,List.take_left' rfl];have d:(l++10::(ls.flatMap (λl=>l++[10])++r)).drop (l.length+[(10:UInt8)].length)=ls.flatMap (λl=>l++[10])++r:=by
   rw[<-List.drop_drop,List.drop_left' rfl]
   rfl
  rw[d,PJ ls r (λx a=>h x (Yl _ a))]
  rfl
end Go.Proofs.YtdcacoifehkioaaGreatDoor
namespace Go.Proofs
open Go.Shelf
shelf_lay Lays.n147 Nm 147 at Tryz as Tryz.lays147
shelf_lay Lays.n156 Nm 156 at Tryz as Tryz.lays156
theorem Tryz.hi147:(Tryz.prog.info? (Tryz.lays147_ren.t 9)).map (λi=>(i.zero,i.size,i.bytes))=some (some (.string ByteArray.empty),1,16):=by kernel_rfl
theorem Tryz.extra156:Builder.Extra Tryz.prog Tryz.lays156_ren where
 sizeBuilder:=by kernel_rfl
 liesBuilder:=by kernel_rfl
 t5:=by kernel_rfl
 a5:=λw=>by kernel_rfl
 z5:=λw=>by kernel_rfl
 v5:=λw=>by kernel_rfl
 infoByte:=by kernel_rfl
 cellsByte:=by kernel_rfl
 sizeByte:=by kernel_rfl
 neB5:=by decide
end Go.Proofs
namespace Go.Proofs.YtdcacoifehkioaaGreatDoor
open Go.RowKit Go.Shelf Go.Proofs.Cod
theorem Tryz.infoStrX:(Tryz.prog.info? 9).map (λi=>(i.zero,i.size,i.bytes))=some (some (.string ByteArray.empty),1,16):=by kernel_rfl
def Kh (nm v:Tx):Tx:=nm++[61]++v
def GD (T:Int->Tx) (ns:List Tx) (l:List Int):List Tx:=(YB ns.length).map λk=>Kh (ns.getD k []) (T (l.getD k 0))
def AW (p:PD) (m:MS):List Tx:=GD Yj p.vs m.vars++GD Yj p.fs m.flags
def EN:Tx:=[115,116,117,99,107]
def Bl (p:PD) (m:MS):Tx:=YI (AW p m++if 0<Au m then [EN] else []) [32]
structure Hu (p:PD):Prop where
 v:∀k,(10:UInt8)∉p.vs.getD k []
 f:∀k,(10:UInt8)∉p.fs.getD k []
theorem RU (T:Int->Tx) (a:List Tx) (l:List Int):(GD T a l).flatMap (λx=>x++[10])=Bi T a l a.length:=by
 unfold GD Bi;rw[List.flatMap_map]
 rfl
theorem Kg (T:Int->Tx) (a:List Tx) (l:List Int):(GD T a l).length=a.length:=by unfold GD;rw[List.length_map,List.length_range]
theorem IM (p:PD) (m:MS):(AW p m).length=p.vs.length+p.fs.length:=by unfold AW;rw[Xb,Kg,Kg]
theorem Mz (p:PD) (m:MS):∃r,Aj p m=(AW p m).flatMap (λx=>x++[10])++r:=by
 refine⟨Bi (Cg p.ts) p.ls m.locks p.ls.length++Cv p m p.ts.length,?_⟩;unfold Aj AW;rw[X6,RU,RU,List.append_assoc]
theorem Sz:∀n:Int,0<=n->n<1000->(10:UInt8)∉Yj n:=by
 intro n b a;have key:∀k:Fin 1000,(10:UInt8)∉Yj (k.val:Int):=by decide +kernel
 obtain⟨k,rfl⟩:∃k:Nat,n=k:=⟨n.toNat,by omega⟩;exact key ⟨k,by omega⟩
theorem Rd {p:PD} {m:MS} (e:Hu p) (g:BT p m):∀x,x∈AW p m->(10:UInt8)∉x:=by
 intro x a;have d:∀k,0<=m.vars.getD k 0/\m.vars.getD k 0<1000:=FJ g.vv;have i:∀k,0<=m.flags.getD k 0/\m.flags.getD k 0<1000:=FJ g.fv;unfold AW GD Kh at a;rw[XY,Yx,Yx] at a
 rcases a with⟨k,-,rfl⟩|⟨k,-,rfl⟩
 ·have b:=e.v k;have c:=Sz _ (d k).1 (d k).2;simp only[XY,XT]
  rintro((h|h)|h)
  ·exact b h
  ·exact absurd h (by decide)
  ·exact c h
 ·have b:=e.f k;have c:=Sz _ (i k).1 (i k).2;simp only[XY,XT]
  rintro((h|h)|h)
  ·exact b h
  ·exact absurd h (by decide)
  ·exact c h
theorem SV:∀l:List Tx,l.length<=(l.flatMap (λx=>x++[10])).length
 |[]=>Xd _
 |a::l=>by
  rw[XL,Xb,Xb,XH];have:=SV l;show l.length+1<=a.length+1+_
  omega
theorem VH {p:PD} {m:MS} (f:Hu p) (g:BT p m):∃r,Lib.splitB ⟨#[10]⟩ 0 (p.vs.length+p.fs.length) (bs (Aj p m))=(AW p m++[r]).map bs/\p.vs.length+p.fs.length<=(bs (Aj p m)).size:=by
 obtain⟨r,b⟩:=Mz p m;refine⟨r,?_,?_⟩
 ·have e:=Lib.splitB_data ⟨#[10]⟩ 0 (p.vs.length+p.fs.length) (bs (Aj p m));have h:(bs (Aj p m)).data.toList=Aj p m:=by unfold bs;rfl
  have c:(⟨#[10]⟩:ByteArray).data.toList=[10]:=rfl;rw[h,c,b,<-IM p m,PJ _ _ (Rd f g),IM] at e;rw[b] at *;rw[<-e,List.map_map];have:∀l:List ByteArray,l.map (bs ∘ λx=>x.data.toList)=l:=λl=>by
   induction l with
   |nil=>rfl
   |cons a l d=>rw[List.map_cons,d];show bs a.data.toList::l=a::l;rw[Ol]
  rw[this]
 ·rw[Ba,b,Xb,<-IM p m];have:=SV (AW p m)
  omega
theorem Kl (ls:List Tx):(YI ls [32]).length<=(ls.flatMap (λx=>x++[10])).length:=by
 unfold YI
 match ls with
 |[]=>exact Xd _
 |[a]=>simp[List.intercalate]
 |a::b::l=>
  have c:=Kl (b::l);unfold YI at c;have e:([32]:Tx).intercalate (a::b::l)=a++[32]++([32]:Tx).intercalate (b::l):=by simp[List.intercalate]
  rw[e,Xb,Xb,XL,Xb,Xb];show a.length+1+_<=a.length+1+_
  omega
def FQ (s:PS):Prop:=∀k x,x∈s.nms k->Aw x=true
theorem FQ.new:FQ PS.new:=λk x h=>by cases h
section
variable {s s':PS}
theorem TE {kd:Int} {ts:List Tx} (h:FQ s) (e:Ci kd ts s = .ok s'):FQ s':=by
 unfold Ci at e
 split at e
 ·cases e
 ·rename_i d
  split at e
  ·cases e
  ·rename_i p i
   split at e
   ·cases e
   ·rename_i j
    cases e
    have g:=LO i;intro k x a;have a:x∈AY s.nms kd p.2 k:=a
    by_cases b:k=kd
    ·subst b;rw[Cm,g] at a
     rcases XY.1 a with a|a
     ·exact h k x a
     ·have f:ts.all Aw=true:=by
       cases c:ts.all Aw with
       |true=>rfl
       |false=>exact absurd (.inr (.inr c)) d
      exact ZA.1 f x a
    ·rw[CB _ b] at a;exact h k x a
theorem acB {line:Int} {f:Tx} {ts:List Tx} {b:PB} (h:FQ s) (e:ES line f ts s b = .ok s'):FQ s':=by
 unfold ES at e
 split at e
 ·cases e
 ·split at e
  ·cases e
  ·split at e
   ·cases e
   ·split at e
    ·cases e
    ·cases e
     exact h
theorem VD {line:Int} {f:Tx} {ts:List Tx} (h:FQ s) (e:stepT line f ts s = .ok s'):FQ s':=by
 unfold stepT at e
 split at e
 ·split at e
  ·cases a:Ci 116 ts s with
   |error x=>rw[a] at e;cases e
   |ok b=>
    rw[a] at e
    cases e
    have q:=TE h a;exact q
  ·cases e
 ·split at e
  ·exact TE h e
  ·split at e
   ·unfold Ge at e
    split at e
    ·cases e
    ·split at e
     ·cases e
     ·cases e
      exact h
   ·exact acB h e
theorem Sa:∀(ls:List Tx) (n:Int) (s s':PS),FQ s->CJ ls n s = .ok s'->FQ s'
 |[],_,s,s',h,e=>by
  have e:Except.ok s=Except.ok s':=e
  cases e;exact h
 |l::ls,n,s,s',h,e=>by
  unfold CJ at e
  cases a:CF (n+1) l s with
  |error x=>rw[a] at e;cases e
  |ok b=>
   rw[a] at e;refine Sa ls (n+1) b s' ?_ e;unfold CF at a
   split at a
   ·cases a;exact h
   ·exact VD h a
end
theorem Rf {t:Tx} {s:PS} {C:List (List Ad)} (h:BO t = .ok (s,C)):FQ s:=by
 unfold BO at h
 split at h
 ·cases h
 ·unfold Em at h
  split at h
  ·cases h
  ·rename_i b a
   split at h
   ·cases h
   ·rename_i c d
    cases h
    exact Sa _ _ _ _ FQ.new a
theorem abq {t:Tx} (h:Aw t=true):(10:UInt8)∉t:=by
 intro a;unfold Aw at h;simp only[Ym] at h;have:=ZA.1 h.1.2 10 a
 revert this
 decide
theorem SS {l:List Tx} (h:∀x,x∈l->Aw x=true) (k:Nat):(10:UInt8)∉l.getD k []:=by
 by_cases e:k<l.length
 ·exact abq (h _ (CL e))
 ·rw[List.getD_eq_getElem?_getD,List.getElem?_eq_none (by omega)];intro a
  cases a
theorem Rw {t:Tx} {s:PS} {C:List (List Ad)} {L:List (Tx×Xk)} (h:BO t = .ok (s,C)):Hu (Am (s.nms 118) (s.nms 102) (s.nms 109) L C):=
 ⟨SS (Rf h 118),SS (Rf h 102)⟩
section
variable {p:PD} {s:MS}
theorem Pd (a:∀t,t<p.ts.length->(CR (p.ts.getD t []) (s.th t)).length<=200):∀i,i<=p.ts.length->(Cv p s i).length<=i*200
 |0,_=>by rw[KJ];exact Xw _
 |i+1,hi=>by
  rw[KL];exact Nw (Pd a i (by omega)) (a i (by omega))
theorem PT (a:Cs p) (b:DX p) (c:BT p s):(Aj p s).length<4294967000:=by
 have d:∀k,0<=s.vars.getD k 0/\s.vars.getD k 0<1000:=FJ c.vv;have g:∀k,0<=s.flags.getD k 0/\s.flags.getD k 0<1000:=FJ c.fv;have i:=FB Yj p.vs s.vars p.vs.length b.v (λk=>DB (d k).1 (d k).2);have o:=FB Yj p.fs s.flags p.fs.length b.f (λk=>DB (g k).1 (g k).2);have j:=FB (Cg p.ts) p.ls s.locks p.ls.length b.l (λk=>NJ b.t _);have m:=a.v;have n:=a.f;have q:=a.l;have u:p.ts.length<=4:=by rw[a.tc];exact a.fit.four
 have h:∀t,t<p.ts.length->(CR (p.ts.getD t []) (s.th t)).length<=200:=λt e=>Mo b.t (c.th t (by rw[<-a.tc];exact e)) (a.fit.code _ (CL (by rw[<-a.tc];exact e))).1;have r:=Pd h p.ts.length (Xd _);unfold Aj;simp only[Xb]
 omega
end
end Go.Proofs.YtdcacoifehkioaaGreatDoor
