import Derived.Test.YtdcacoifehkioaaGreatDoorExA3
import Derived.Test.YtdcacoifehkioaaGreatDoorExA19
import Derived.Test.YtdcacoifehkioaaGreatDoorExA2
import Derived.Test.YtdcacoifehkioaaGreatDoorExA16
import Derived.Test.YtdcacoifehkioaaGreatDoorExA17
import Derived.Test.YtdcacoifehkioaaGreatDoorExA15
import Derived.Test.YtdcacoifehkioaaGreatDoorExA14
import Derived.Lib.Split
import Derived.Ground.NamesProg
import Derived.Shelf.Lay
import Derived.Shelf.Strings.Split
import Derived.Shelf.Strings.OnBuilder
open Go renaming World->Xh,Value->Xk,Calls->XY,wp_region_held_drew->Xy,heap_setCell_other->Xt,heap_setCell_same->Xj,wpAnyH_done->Yd
open Go.World renaming cell?->Xg,alloc_heap_new->Xi,frozen?->XM,size_setCell->XA
open Go.RowKit renaming Below->Xm
open Array renaming getElem?_eq_some_iff->Xa
open Go.RowKit.Below renaming refl->Xq
open Nat renaming le_refl->Xd,zero_le->Xx,sub_lt_sub_left->Xl,lt_succ_self->Xo,zero_add->XD
open Go.Instr renaming lookup->Zj,mapUpdate->Yz
open Go.Act renaming put->XG
open List renaming any_eq_true->YM,range->YB,setIfInBounds_toArray->XV,set_cons_succ->X8,set_cons_zero->X5,length_append->Xb,flatMap_append->Ya,mem_cons_self->Ye,mem_cons_of_mem->Yk,length_cons->XJ,mem_append->XX,mem_map->YA,mem_singleton->XT,flatMap_cons->XO,all_eq_true->Zx
open Bool renaming true_and->Z5,and_eq_true->Yl
open Go.Lib renaming itoa->Yh,join->YU
set_option maxRecDepth 100000
set_option maxHeartbeats 4000000
set_option linter.unusedVariables false
set_option linter.unusedSimpArgs false
namespace Go.Proofs.YtdcacoifehkioaaGreatDoor
open Go.RowKit Go.Shelf Go.Proofs.Cod
theorem UE (w:Xh):(zeroValue 76).run Tryz.prog w = .ok (.agg #[]) w:=by kernel_rfl
theorem Iy {w:Xh} {b T:Nat} {c a d:Xk} (h:w.heap[b]?=some (.cells #[c,a,d] T)):w.cell? ⟨b,0,none⟩=some c/\w.cell? ⟨b,1,none⟩=some a/\w.cell? ⟨b,2,none⟩=some d:=by
 refine⟨?_,?_,?_⟩<;>simp[Xg,h]
def Eh (w:Xh) (fb:Nat) (fp:Xk) (lb kb:Nat):Prop:=w.heap[fb]?=some (.cells #[fp,.pointer (some ⟨lb,0,none⟩),.map (some kb)] 154)
def Mm (w w':Xh) (fb lb kb sb mB:Nat) (fp:Xk) (fk:Tx->Option Xk) (n:Nat) (key:Tx) (g:Int) (f:Bool) (mvL moL frL:Xk) (shL:Tx) (gL yL:Int) (fL:Bool) (e:Ev):Prop:=
 ((fk key).isSome=true/\Xm w.heap.size w w')\/
 (fk key=none/\∃q,w.heap.size<=q/\AY w' q (Ab mB) key (Gh g e.k) (f||decide (e.k=9)) (.slice none 0 0) (Ab sb) e.t (.pointer none)/\AY w' lb mvL shL gL fL moL frL yL (Ab q)/\Eh w' fb fp q kb/\AA sk w' kb (Bv fk key (.agg #[])) (n+1)/\Ac (λx=>x=fb\/x=lb\/x=kb) w w')
theorem aeW {w:Xh} {B a lb c sb mB n:Nat} {H mv mo fr nx ag af ai:Xk} {sh aa:Tx} {g y gL Z:Int} {f fL:Bool} {J:Tx->Option Xk} {p:PD} {m:MS} (ht:Cn w B) (hB:B<=w.heap.size) (D:Eh w a H lb c) (C:AA sk w c J n) (M:AY w sb mv sh g f mo fr y nx) (hg:0<=g/\g<=4) (i:AY w lb ag aa gL fL af ai Z (.pointer none)) (hM:Bn w mB p m) (hf:CK p) (a3:CY p m) (hN:Eg p) (hU:∀x u,J x=some u->u = .agg #[]) (e:Ev) :
 XY Tryz.prog 116 #[Ab a,Ab sb,.agg (Er e),Ab mB] w λr w'=>r = .returned (.tuple #[])/\Mm w w' a lb c sb mB H J n (Aj p m) g f ag af ai aa gL Z fL e:=by
 have I:a<w.heap.size:=(Xa.1 D).1;have X:lb<w.heap.size:=(Xa.1 i).1;have Y:sb<w.heap.size:=(Xa.1 M).1;have R:=C.lt;obtain⟨t,k,o,v⟩:=e;obtain⟨W,hW⟩:∃W,w.alloc (.cells #[.int .i64 t,.int .i64 k,.int .i64 o,.int .i64 v] 48)=W:=⟨_,rfl⟩;have G:Xm w.heap.size w W:=by rw[<-hW];exact(Xq _ _).alloc (Xd _) _
 have ke:W.heap[w.heap.size]?=some (.cells #[.int .i64 t,.int .i64 k,.int .i64 o,.int .i64 v] 48):=by rw[<-hW];exact Xi w _
 have hz:W.heap.size=w.heap.size+1:=by rw[<-hW];show (w.heap.push _).size=_;simp
 have aG:=PN (B0:=B) (hM.below G) hf a3 hN (ht.keep (G.mono hB)) (by have:=G.size;omega);obtain⟨key,a4⟩:∃x,Aj p m=x:=⟨_,rfl⟩;rw[a4] at aG |-;obtain⟨d,F⟩:∃x,w.heap.size=x:=⟨_,rfl⟩;have HC:Hid (∀u,Xm W.heap.size W u->(u.cell? ⟨a,0,none⟩=some H/\u.cell? ⟨a,1,none⟩=some (.pointer (some ⟨lb,0,none⟩))/\u.cell? ⟨a,2,none⟩=some (.map (some c)))/\(u.cell? ⟨d,0,none⟩=some (.int .i64 t)/\u.cell? ⟨d,1,none⟩=some (.int .i64 k)/\u.cell? ⟨d,2,none⟩=some (.int .i64 o)/\u.cell? ⟨d,3,none⟩=some (.int .i64 v))):=λu hu=>⟨Iy ((hu.block a (by omega)).trans ((G.block a I).trans D)),by rw[<-F];exact Ea ((hu.block _ (by omega)).trans ke)⟩
 have HP:=Aa (⟨D,C,M,i,hg,G,hz,F,I,X,Y,R,ke⟩:_/\_/\_/\_/\_/\_/\_/\_/\_/\_/\_/\_/\_);unfold Ab at aG |-;unfold Er;replace F:=Aa F;clear ht hB D C M hg i hM hf a3 hN ke hz G I X Y R a4
 go_enter Tryz.func116,Tryz.ntmps116
 go_upto_region 1 with fail
 try rw[hW]
 try rw[F.out]
 clear hW F
 go_wp2_with fail
 refine aG.mono ?_;rintro r w1 ⟨rfl,ao⟩;clear aG;obtain⟨D,C,M,i,hg,G,hz,F,I,X,Y,R,ke⟩:=HP.out;have az:Xm w.heap.size w w1:=G.trans (ao.mono G.size);have aX:=C.same (az.block c R);have ad:(Zj 64 (.map (some c)) (.string (bs key)) true).run Tryz.prog w1 = .ok (.tuple #[.agg #[],.bool (J key).isSome]) w1:=by
  have q:=aX.abE Tryz.strKey Tryz.underlying64 (UE w1) key
  cases N:J key with
  |none=>rw[N] at q;exact q
  |some u=>rw[N,hU key u N] at q;exact q
 obtain⟨⟨f0,f1,f2⟩,c0,c1,c2,c3⟩:=HC.out w1 ao;obtain⟨V,Q⟩:∃V,w1.alloc (.cells #[] 76)=V:=⟨_,rfl⟩;have aM:Xm w1.heap.size w1 V:=by rw[<-Q];exact(Xq _ _).alloc (Xd _) _
 have A:Xm w.heap.size w V:=az.trans (aM.mono az.size);have aH:Xm W.heap.size W V:=ao.trans (aM.mono ao.size);have a5:=hU;clear hU
 cases O:J key with
 |some u=>
  rw[O] at ad;replace ad:(Zj 64 (.map (some c)) (.string (bs key)) true).run Tryz.prog w1 = .ok (.tuple #[.agg #[],.bool true]) w1:=ad;have HF:=Aa (⟨(show (J key).isSome=true by rw[O];rfl),A⟩:_/\_);replace Q:=Aa Q;clear D C M i hg G hz F I X Y R ke az aX aM A aH a5 O HC HP ao
  go_upto_region 3 with fail
  try rw[Q.out]
  clear Q
  go_wp2_with fail
  exact bodyPost_ret (results_none rfl _ _ _) rfl ⟨rfl,.inl HF.out⟩
 |none=>
  rw[O] at ad;replace ad:(Zj 64 (.map (some c)) (.string (bs key)) true).run Tryz.prog w1 = .ok (.tuple #[.agg #[],.bool false]) w1:=ad;have bi:=C.same (A.block c R);obtain⟨l,aQ,P,T,aO⟩:=bi.put Tryz.strKey Tryz.underlying64 key (.agg #[]);rw[O] at P;replace P:AA sk l c (Bv J key (.agg #[])) (n+1):=P;replace aQ:(Yz 64 (.map (some c)) (.string (bs key)) (.agg #[])).run Tryz.prog V = .ok () l:=aQ;obtain⟨es,bN,aI,-⟩:=id C;have av:a≠c:=λq=>by unfold Eh at D;rw[q,aI] at D;cases D
  have bc:sb≠c:=λq=>by unfold AY at M;rw[q,aI] at M;cases M
  have aq:lb≠c:=λq=>by unfold AY at i;rw[q,aI] at i;cases i
  have ar:lb≠a:=λq=>by
   unfold AY at i;unfold Eh at D;rw[q,D] at i;injection i with i
   injection i with _ i
   exact absurd i (by decide)
  have a9:w.heap.size≠c:=by omega
  have U:∀x,x<w.heap.size->x≠c->l.heap[x]?=w.heap[x]?:=λx hx hn=>(T.block x (by have:=A.size;omega) (λq=>by injection q with q;exact hn q)).trans (A.block x hx);have aS:l.heap[d]?=some (.cells #[.int .i64 t,.int .i64 k,.int .i64 o,.int .i64 v] 48):=by
   rw[<-F]
   exact(T.block _ (by have:=aH.size;omega) (λq=>by injection q with q;exact a9 q)).trans ((aH.block _ (by omega)).trans ke)
  have ap:Eh l a H lb c:=(U a I av).trans D;have aA:AY l sb mv sh g f mo fr y nx:=(U sb Y bc).trans M;have aE:AY l lb ag aa gL fL af ai Z (.pointer none):=(U lb X aq).trans i;obtain⟨bv,bt,bx⟩:=Iy ((A.block a I).trans D);have aJ:Hid (∀u,Xm l.heap.size l u->(u.cell? ⟨a,0,none⟩=some H/\u.cell? ⟨a,1,none⟩=some (.pointer (some ⟨lb,0,none⟩))/\u.cell? ⟨a,2,none⟩=some (.map (some c)))/\(u.cell? ⟨d,0,none⟩=some (.int .i64 t)/\u.cell? ⟨d,1,none⟩=some (.int .i64 k)/\u.cell? ⟨d,2,none⟩=some (.int .i64 o)/\u.cell? ⟨d,3,none⟩=some (.int .i64 v))):=λu hu=>⟨Iy ((hu.block a (by have:=A.size;omega)).trans ap),Ea ((hu.block d (Xa.1 aS).1).trans aS)⟩
  have hd:Xm l.heap.size l l.drew:=⟨rfl,rfl,rfl,Xd _,λ_ _=>rfl⟩;have aV:=aeC (w:=l.drew) (b:=sb) (mb:=mB) (sh2:=key) (mv:=mv) (mo:=mo) (fr:=fr) (nx:=nx) (sh:=sh) (y:=y) aA hg ⟨t,k,o,v⟩;have bk:=Aa (aJ.out l.drew hd);have HD:=Aa (⟨O,ap,aA,aE,P,U,av,aq,ar,T,aO,A⟩:_/\_/\_/\_/\_/\_/\_/\_/\_/\_/\_/\_);replace Q:=Aa Q;clear D C M i hg G hz F I X Y R ke az aX aM A aH a5 O HC ao bi P T aO aI av bc aq ar a9 U aS ap aA aE;unfold Er Ab at aV
  go_upto_region 3 with fail
  try rw[Q.out]
  clear Q ad
  go_upto_region 5 with fail
  clear aQ bv bt bx f0 f1 f2 c0 c1 c2 c3;refine Xy (S:=(λu=>(u.cell? ⟨a,0,none⟩=some H/\u.cell? ⟨a,1,none⟩=some (.pointer (some ⟨lb,0,none⟩))/\u.cell? ⟨a,2,none⟩=some (.map (some c)))/\(u.cell? ⟨d,0,none⟩=some (.int .i64 t)/\u.cell? ⟨d,1,none⟩=some (.int .i64 k)/\u.cell? ⟨d,2,none⟩=some (.int .i64 o)/\u.cell? ⟨d,3,none⟩=some (.int .i64 v)))) (by kernel_rfl) bk.out (λE=>?_);refine tk 0 E ?_;refine tk 1 E ?_;refine tk 2 E ?_;refine tk 3 E ?_;refine tk 4 E ?_;refine tk 5 E ?_;refine tk 6 E ?_;refine tk 7 E ?_;refine rd 8 (λK C=>?_)
  go_simp
  go_at_call 148
  refine aV.mono ?_;rintro r w3 ⟨q,rfl,N,aP,z⟩;replace z:Xm l.heap.size l w3:=hd.trans z;replace N:l.heap.size<=q:=N;have hh:=Aa (aJ.out w3 z);replace z:=Aa z;replace aP:=Aa aP;replace N:=Aa N
  go_wp2_with fail
  refine C.out _ _ hh.out (λE=>?_);clear C K hh
  try simp only[XG,sq]
  refine tk 9 E ?_;refine tk 10 E ?_;obtain⟨O,ap,aA,aE,P,U,av,aq,ar,T,aO,A⟩:=HD.out;obtain⟨-,-,-,-,-,-,-,F,I,X,Y,R,-⟩:=HP.out;have bB:=A.size;have ax:AY w3 lb ag aa gL fL af ai Z (.pointer none):=(z.out.block lb (by omega)).trans aE;have bm:Eh w3 a H lb c:=(z.out.block a (by omega)).trans ap;obtain⟨e0,e1,e2,e3,e4,e5,e6,e7⟩:=DO ax;have bq:w3.frozen? ⟨lb,7,none⟩=false:=by unfold AY at ax;simp[XM,ax]
  obtain⟨h,am⟩:∃x,w3.setCell ⟨lb,7,none⟩ (.pointer (some ⟨q,0,none⟩))=x:=⟨_,rfl⟩;have o4:∀x,x≠lb->h.heap[x]?=w3.heap[x]?:=λx hx=>by rw[<-am];exact Xt w3 ⟨lb,7,none⟩ x _ hx
  have aT:AY h lb ag aa gL fL af ai Z (Ab q):=by rw[<-am];exact(Xj w3 lb 7 _ _ _ ax).trans rfl
  have z4:h.heap.size=w3.heap.size:=by rw[<-am];exact XA ..
  have an:Eh h a H lb c:=(o4 a (λe=>ar e.symm)).trans bm;have be:(h.cell? ⟨a,0,none⟩=some H/\h.cell? ⟨a,1,none⟩=some (.pointer (some ⟨lb,0,none⟩))/\h.cell? ⟨a,2,none⟩=some (.map (some c)))/\(h.cell? ⟨d,0,none⟩=some (.int .i64 t)/\h.cell? ⟨d,1,none⟩=some (.int .i64 k)/\h.cell? ⟨d,2,none⟩=some (.int .i64 o)/\h.cell? ⟨d,3,none⟩=some (.int .i64 v)):=⟨Iy an,by
   have q4:=(aJ.out w3 z.out).2;have ne:d≠lb:=by omega
   have hc:∀j,h.cell? ⟨d,j,none⟩=w3.cell? ⟨d,j,none⟩:=λj=>by unfold Xg;dsimp only;rw[o4 d ne]
   rw[hc,hc,hc,hc];exact q4⟩
  have bK:h.frozen? ⟨a,1,none⟩=false:=by unfold Eh at an;simp[XM,an]
  obtain⟨s,ab⟩:∃x,h.setCell ⟨a,1,none⟩ (.pointer (some ⟨q,0,none⟩))=x:=⟨_,rfl⟩;have o5:∀x,x≠a->s.heap[x]?=h.heap[x]?:=λx hx=>by rw[<-ab];exact Xt h ⟨a,1,none⟩ x _ hx
  have bj:Eh s a H q c:=by rw[<-ab];exact(Xj h a 1 _ _ _ an).trans rfl
  have z5:s.heap.size=h.heap.size:=by rw[<-ab];exact XA ..
  have bE:=N.out;have bD:=z.out.size;have bl:q≠lb:=by omega
  have bf:q≠a:=by omega
  have a2:AY s q (Ab mB) key (Gh g k) (f||decide (k=9)) (.slice none 0 0) (Ab sb) t (.pointer none):=(o5 q bf).trans ((o4 q bl).trans aP.out);have a7:AY s lb ag aa gL fL af ai Z (Ab q):=(o5 lb ar).trans aT;have bb:=P.same (w':=s) ((o5 c (λe=>av e.symm)).trans ((o4 c (λe=>aq e.symm)).trans (z.out.block c (by have:=P.lt;omega))));have aK:s.os=w.os/\s.tape=w.tape/\s.output=w.output:=by
   rw[<-ab,<-am]
   exact⟨z.out.os.trans (T.os.trans A.os),z.out.tape.trans (T.tape.trans A.tape),z.out.output.trans (T.output.trans A.output)⟩
  have ba:Ac (λx=>x=a\/x=lb\/x=c) w s:=⟨aK.1,aK.2.1,aK.2.2,by omega,λx hx hn=>(o5 x (λe=>hn (.inl e))).trans ((o4 x (λe=>hn (.inr (.inl e)))).trans ((z.out.block x (by omega)).trans (U x hx (λe=>hn (.inr (.inr e))))))⟩;have HF:=Aa (⟨O,q,by omega,a2,a7,bj,bb,ba⟩:J key=none/\∃q,w.heap.size<=q/\AY s q (Ab mB) key (Gh g k) (f||decide (k=9)) (.slice none 0 0) (Ab sb) t (.pointer none)/\AY s lb ag aa gL fL af ai Z (Ab q)/\Eh s a H q c/\AA sk s c (Bv J key (.agg #[])) (n+1)/\Ac (λx=>x=a\/x=lb\/x=c) w s);obtain⟨y0,y1,y2⟩:=Iy an;obtain⟨-,-,-,-,-,-,-,x7⟩:=DO aT;unfold Ab at x7;have bg:=Aa be;replace ab:=Aa ab;clear O ap aA aE P U av aq ar T aO A F I X Y R bB ax bm o4 aT z4 an be o5 bj z5 bE bD bl bf a2 a7 bb aK ba HD HP aJ z aP N hd aV bk;refine rd 11 (λK C=>?_)
  go_simp
  try rw[am]
  refine C.out _ _ bg.out (λE=>?_);clear C K
  try simp only[XG,sq]
  refine Yd (by kernel_rfl) ?_ _;clear E bg am e0 e1 e2 e3 e4 e5 e6 e7 bq
  go_wp2_with fail
  try rw[ab.out]
  go_end0
  exact⟨rfl,.inr HF.out⟩
theorem Us {w:Xh} {B base nv nf nl nt vc fc v y:Nat} {va fa G F:Option Addr} {vs fs ls:List Tx} {L:List (Tx×Xk)} {C:List (List Ad)} (N:Cn w B) (hB:B<=w.heap.size) (hp:BZ w base (.slice va nv vc) (.slice fa nf fc) (.slice G nl v) (.slice F nt y) vs fs ls L C) (hb:Hs vs fs ls L C) (E:CK (Ap vs fs ls L C)) (t:Eg (Ap vs fs ls L C)) (z:CY (Ap vs fs ls L C) (AJ vs.length fs.length ls.length L.length)) :
 XY Tryz.prog 54 #[.agg #[.slice va nv vc,.slice fa nf fc,.slice G nl v,.slice F nt y]] w λr w'=>∃q sb m mb,r = .returned (Ab q)/\Eh w' q (Ab sb) sb m/\AY w' sb (Ab mb) (Aj (Ap vs fs ls L C) (AJ vs.length fs.length ls.length L.length)) (min (nt:Int) 1) false (.slice none 0 0) (.pointer none) 0 (.pointer none)/\AA sk w' m (Bv (λ_=>none) (Aj (Ap vs fs ls L C) (AJ vs.length fs.length ls.length L.length)) (.agg #[])) 1/\Bn w' mb (Ap vs fs ls L C) (AJ vs.length fs.length ls.length L.length)/\(w.heap.size<=q/\w.heap.size<=sb/\w.heap.size<=m/\w.heap.size<=mb)/\Xm w.heap.size w w':=by
 obtain⟨pd,ai⟩:∃x,Ap vs fs ls L C=x:=⟨_,rfl⟩;obtain⟨W,I⟩:∃W,w.alloc (.cells #[.slice va nv vc,.slice fa nf fc,.slice G nl v,.slice F nt y] 25)=W:=⟨_,rfl⟩;have o:Xm w.heap.size w W:=by rw[<-I];exact(Xq _ _).alloc (Xd _) _
 have kp:W.heap[w.heap.size]?=some (.cells #[.slice va nv vc,.slice fa nf fc,.slice G nl v,.slice F nt y] 25):=by rw[<-I];exact Xi w _
 have Z:W.heap.size=w.heap.size+1:=by rw[<-I];show (w.heap.push _).size=_;simp
 have an:=abb (hp.below o) hb;obtain⟨m0,aH⟩:∃x,AJ vs.length fs.length ls.length L.length=x:=⟨_,rfl⟩;rw[ai,aH] at an z |-;rw[ai] at E t;obtain⟨key,A⟩:∃x,Aj pd m0=x:=⟨_,rfl⟩;rw[A];obtain⟨j,k⟩:∃x,w.heap.size=x:=⟨_,rfl⟩;have J:Hid (∀u,Xm W.heap.size W u->(u.cell? ⟨j,0,none⟩=some (.slice va nv vc)/\u.cell? ⟨j,1,none⟩=some (.slice fa nf fc)/\u.cell? ⟨j,2,none⟩=some (.slice G nl v)/\u.cell? ⟨j,3,none⟩=some (.slice F nt y))):=λu hu=>by rw[<-k];exact Ea ((hu.block _ (by omega)).trans kp)
 obtain⟨q0,q1,q2,q3⟩:=J.out W (Xq _ _);have HP:=Aa (⟨N,E,t,z,o,Z,k,A⟩:_/\_/\_/\_/\_/\_/\_/\_);replace k:=Aa k;clear N hp hb E t z o kp Z ai aH A
 go_enter Tryz.func54,Tryz.ntmps54
 go_upto_region 1 with fail
 try rw[I]
 try rw[k.out]
 clear I k
 go_wp2_with fail
 refine an.mono ?_;rintro r w1 ⟨mb,rfl,ad,s,n⟩;clear an q0 q1 q2 q3;obtain⟨N,E,t,z,o,Z,k,A⟩:=HP.out;have d:=o.trans (n.mono o.size);have M:Xm w1.heap.size w1 w1.drew:=⟨rfl,rfl,rfl,Xd _,λ_ _=>rfl⟩;have R:=PN (B0:=B) (s.below M) E z t (N.keep ((d.trans (M.mono d.size)).mono hB)) (by show B<=w1.heap.size;have:=d.size;omega);rw[A] at R;have aJ:=Aa (J.out w1.drew (n.trans (M.mono n.size)));have X:=Aa (⟨s,d,n,ad⟩:_/\_/\_/\_);clear N E t z o Z k A d s n ad;unfold Ab at R |-
 go_upto_region 2 with fail
 refine Xy (S:=(λu=>(u.cell? ⟨j,0,none⟩=some (.slice va nv vc)/\u.cell? ⟨j,1,none⟩=some (.slice fa nf fc)/\u.cell? ⟨j,2,none⟩=some (.slice G nl v)/\u.cell? ⟨j,3,none⟩=some (.slice F nt y)))) (by kernel_rfl) aJ.out (λc=>?_);refine tk 0 c ?_;refine tk 1 c ?_;refine tk 3 c ?_;refine tk 4 c ?_;refine tk 5 c ?_;refine tk 6 c ?_;refine rd 2 (λK l=>?_)
 go_simp
 go_at_call 43
 refine R.mono ?_;rintro r h ⟨rfl,g⟩;replace g:Xm w1.heap.size w1 h:=M.trans g;have D:Xm W.heap.size W h:=X.out.2.2.1.trans (g.mono X.out.2.2.1.size);have hh:=Aa (J.out h D);replace g:=Aa g;replace D:=Aa D
 go_wp2_with fail
 refine l.out _ _ hh.out (λc=>?_);clear l K
 try simp only[XG,sq]
 refine rd 7 (λK l=>?_);refine JC _ _ rfl [(0,.pointer (some ⟨mb,0,none⟩)),(1,.string (bs key)),(2,.int .i64 (min (nt:Int) 1))] rfl #[.pointer (some ⟨mb,0,none⟩),.string (bs key),.int .i64 (min (nt:Int) 1),.bool false,.slice none 0 0,.pointer none,.int .i64 0,.pointer none] (by rfl) ?_;refine l.out _ _ hh.out (λc=>?_);clear l K
 try simp only[XG,sq]
 refine rd 8 (λK l=>?_)
 go_simp
 obtain⟨V,hV⟩:∃V,h.alloc (.cells #[.pointer (some ⟨mb,0,none⟩),.string (bs key),.int .i64 (min (nt:Int) 1),.bool false,.slice none 0 0,.pointer none,.int .i64 0,.pointer none] 75)=V:=⟨_,rfl⟩;have U:Xm h.heap.size h V:=by rw[<-hV];exact(Xq _ _).alloc (Xd _) _
 have O:V.heap[h.heap.size]?=some (.cells #[.pointer (some ⟨mb,0,none⟩),.string (bs key),.int .i64 (min (nt:Int) 1),.bool false,.slice none 0 0,.pointer none,.int .i64 0,.pointer none] 75):=by rw[<-hV];exact Xi h _
 try rw[hV]
 clear hV;refine l.out _ _ (J.out V (D.out.trans (U.mono D.out.size))) (λc=>?_);clear l K
 try simp only[XG,sq]
 refine tk 9 c ?_;refine Yd (by kernel_rfl) ?_ _;clear c aJ M hh R J;obtain⟨d0,d1,d2,d3,d4,d5,d6,d7⟩:=DO O;obtain⟨sb,aA⟩:∃x,h.heap.size=x:=⟨_,rfl⟩;rw[aA] at O d0 d1 d2 d3 d4 d5 d6 d7 |-;have a6:=@run_makeMap Tryz.prog;obtain⟨Vm,aC⟩:∃x,V.alloc (.map #[] 0)=x:=⟨_,rfl⟩;have i:Xm V.heap.size V Vm:=by rw[<-aC];exact(Xq _ _).alloc (Xd _) _
 have ax:AA sk Vm V.heap.size (λ_=>none) 0:=by rw[<-aC];exact AA.made V
 obtain⟨f,ag,H,Q,aY⟩:=ax.put Tryz.strKey Tryz.underlying64 key (.agg #[]);replace H:AA sk f V.heap.size (Bv (λ_=>none) key (.agg #[])) 1:=H;replace ag:(Yz 64 (.map (some V.heap.size)) (.string (bs key)) (.agg #[])).run Tryz.prog Vm = .ok () f:=ag;obtain⟨m,aI⟩:∃x,V.heap.size=x:=⟨_,rfl⟩;have aq:sb<V.heap.size:=(Xa.1 O).1;have au:∀x,x<V.heap.size->f.heap[x]?=V.heap[x]?:=λx hx=>(Q.block x (by have:=i.size;omega) (λe=>by injection e with e;omega)).trans (i.block x hx);obtain⟨b,P⟩:∃x,f.alloc (.cells #[.pointer (some ⟨sb,0,none⟩),.pointer (some ⟨sb,0,none⟩),.map (some m)] 154)=x:=⟨_,rfl⟩;have Y:Xm f.heap.size f b:=by rw[<-P];exact(Xq _ _).alloc (Xd _) _
 have kF:b.heap[f.heap.size]?=some (.cells #[.pointer (some ⟨sb,0,none⟩),.pointer (some ⟨sb,0,none⟩),.map (some m)] 154):=by rw[<-P];exact Xi f _
 obtain⟨q,ab⟩:∃x,f.heap.size=x:=⟨_,rfl⟩;obtain⟨s,d,n,ad⟩:=X.out;have zV:=U.size;have zm:=i.size;have aV:=d.size;have z2:=g.out.size;have aQ:=s.lt;have ah:Xm w1.heap.size w1 f:=by
  have a:=g.out.trans (U.mono g.out.size)
  exact⟨Q.os.trans (i.os.trans a.os),Q.tape.trans (i.tape.trans a.tape),Q.output.trans (i.output.trans a.output),by omega,λx hx=>(au x (by omega)).trans (a.block x hx)⟩
 have ak:Xm w1.heap.size w1 b:=ah.trans (Y.mono ah.size);have aE:=s.below ak;have aD:AY b sb (Ab mb) key (min (nt:Int) 1) false (.slice none 0 0) (.pointer none) 0 (.pointer none):=(Y.block sb (by omega)).trans ((au sb aq).trans O);have ar:=H.same (w':=b) (Y.block _ H.lt);rw[ab] at kF;rw[aI] at ar;have a2:=HP.out.2.2.2.2.1.size;have aL:Eh b q (Ab sb) sb m:=kF;have HF:=Aa (⟨q,sb,m,mb,rfl,aL,aD,ar,aE,⟨by omega,by omega,by omega,by omega⟩,d.trans (ak.mono d.size)⟩:∃av T ap aj,Ending.returned (Value.pointer (some ⟨q,0,none⟩)) = .returned (Ab av)/\Eh b av (Ab T) T ap/\AY b T (Ab aj) key (min (nt:Int) 1) false (.slice none 0 0) (.pointer none) 0 (.pointer none)/\AA sk b ap (Bv (λ_=>none) key (.agg #[])) 1/\Bn b aj pd m0/\(w.heap.size<=av/\w.heap.size<=T/\w.heap.size<=ap/\w.heap.size<=aj)/\Xm w.heap.size w b);have e1:Vm.cell? ⟨sb,1,none⟩=some (.string (bs key)):=(i.cell (p:=⟨sb,1,none⟩) aq).trans d1;replace P:=Aa P;replace ab:=Aa ab;rw[aI] at ag;clear U O i ax H Q aY aq au Y kF s d n ad zV zm aV z2 aQ ah ak aE aD ar a2 aL HP X g D aA
 go_wp2_with fail
 rw[P.out,ab.out]
 go_ret
 exact HF.out
def Dd (x:Int):List Ev->Option (Ev×Ev)
 |[]=>none
 |a::r=>match r.find? (λb=>DP a b x) with
  |some b=>some (a,b)
  |none=>Dd x r
def Ld (x:Int) (l:List Ev):Bool:=decide (1<l.countP (λe=>BX e x))&&l.any (λe=>BX e x&&e.k == 2)
theorem LH {α:Type} {q:α->Bool} {l:List α}:l.find? q=none↔∀a,a∈l->q a=false:=by
 rw[List.find?_eq_none]
 exact⟨λh a b=>Bool.eq_false_iff.2 (h a b),λh a b=>by rw[h a b];decide⟩
theorem aeQ {x:Int} {l:List Ev} (h:l.any (λe=>BX e x)=false):l.countP (λe=>BX e x)=0/\l.any (λe=>BX e x&&e.k == 2)=false:=by
 have h:∀a,a∈l->BX a x=false:=λa b=>by
  cases e:BX a x with
  |false=>rfl
  |true=>rw[YM.2 ⟨a,b,e⟩] at h;cases h
 refine⟨List.countP_eq_zero.2 λa b=>by rw[h a b];decide,?_⟩
 cases e:l.any (λe=>BX e x&&e.k == 2) with
 |false=>rfl
 |true=>
  obtain⟨a,b,c⟩:=YM.1 e;rw[h a b] at c
  cases c
theorem KT (x:Int):∀l:List Ev,(Dd x l).isSome=Ld x l
 |[]=>rfl
 |a::r=>by
  have j:=KT x r;unfold Dd;unfold Ld at j |-;rw[List.countP_cons,List.any_cons]
  cases h:BX a x with
  |false=>
   have f:r.find? (λb=>DP a b x)=none:=LH.2 λb _=>by unfold DP;rw[h];rfl
   rw[f];dsimp only;rw[j]
   simp
  |true=>
   cases m:r.any (λe=>BX e x) with
   |false=>
    obtain⟨v,s⟩:=aeQ m;have g:∀b,b∈r->BX b x=false:=λb g=>by
     cases e:BX b x with
     |false=>rfl
     |true=>rw[YM.2 ⟨b,g,e⟩] at m;cases m
    have f:r.find? (λb=>DP a b x)=none:=LH.2 λb q=>by unfold DP;rw[h,g b q];rfl
    rw[f];dsimp only;rw[j,v,s]
    simp
   |true=>
    obtain⟨c,o,i⟩:=YM.1 m;have i:BX c x=true:=i;have A:0<r.countP (λe=>BX e x):=List.countP_pos_iff.2 ⟨c,o,i⟩;have z:decide (1<r.countP (λe=>BX e x)+(if true=true then 1 else 0))=true:=decide_eq_true (by rw[if_pos rfl];omega);rw[z,Z5,Z5]
    cases n:r.find? (λb=>DP a b x) with
    |some b=>
     have t:=List.mem_of_find?_eq_some n;have d:DP a b x=true:=List.find?_some (p:=λb=>DP a b x) n;unfold DP at d;rw[h,Z5,Yl,Bool.or_eq_true] at d;show true=_
     rcases d.2 with w|w
     ·rw[w];rfl
     ·rw[YM.2 ⟨b,t,by rw[d.1,w];rfl⟩,Bool.or_true]
    |none=>
     have f:=LH.1 n;have y:(a.k == 2)=false:=by
      have:=f c o;unfold DP at this;rw[h,i] at this
      cases e:(a.k == 2) with
      |false=>rfl
      |true=>rw[e] at this;cases this
     have u:r.any (λe=>BX e x&&e.k == 2)=false:=by
      cases e:r.any (λe=>BX e x&&e.k == 2) with
      |false=>rfl
      |true=>
       obtain⟨b,g,d⟩:=YM.1 e;rw[Yl] at d;have:=f b g;unfold DP at this;rw[h,d.1,d.2] at this
       simp at this
     dsimp only;rw[j,u,y]
     simp
theorem Ew {e:Ev} {x y kk:Int} {a:Tx} (b:e.k=kk) (d:kk≠1/\kk≠2) (g:(a == Bq||a == AH)=false) (f:(a == AH)=false):BX e x=((a == Bq||a == AH)&&y == x)/\(e.k == 2)=(a == AH):=by
 have h:(e.k == 1)=false:=by rw[b];simpa using d.1
 have c:(e.k == 2)=false:=by rw[b];simpa using d.2
 constructor
 ·unfold BX;rw[h,c,g]
  simp
 ·rw[c,f]
theorem Vn (k:Bool) (s:MS) (t:Nat) (i:Ad) (x:Int):BX (Ba k s t i).2 x=((i.op == Bq||i.op == AH)&&i.x == x)/\((Ba k s t i).2.k == 2)=(i.op == AH):=by
 unfold Ba
 by_cases c1:i.op=El
 ·rw[if_pos c1,c1];exact Ew (kk:=0) rfl (by decide) (by decide) (by decide)
 rw[if_neg c1]
 by_cases c2:i.op=Eo
 ·rw[if_pos c2,c2];exact Ew (kk:=0) rfl (by decide) (by decide) (by decide)
 rw[if_neg c2]
 by_cases c3:i.op=Ek
 ·rw[if_pos c3,c3];exact Ew (kk:=0) rfl (by decide) (by decide) (by decide)
 rw[if_neg c3]
 by_cases c4:i.op=Em
 ·rw[if_pos c4,c4];exact Ew (kk:=0) rfl (by decide) (by decide) (by decide)
 rw[if_neg c4]
 by_cases c5:i.op=Bq
 ·rw[if_pos c5,c5];refine⟨?_,rfl⟩;unfold BX;show (i.x == x&&((1:Int) == 1||(1:Int) == 2))=((Bq == Bq||Bq == AH)&&i.x == x);rw[show (Bq == Bq||Bq == AH)=true by decide,show ((1:Int) == 1||(1:Int) == 2)=true by decide,Bool.and_true,Z5]
 rw[if_neg c5]
 by_cases a:i.op=AH
 ·rw[if_pos a,a];refine⟨?_,rfl⟩;unfold BX;show (i.x == x&&((2:Int) == 1||(2:Int) == 2))=((AH == Bq||AH == AH)&&i.x == x);rw[show (AH == Bq||AH == AH)=true by decide,show ((2:Int) == 1||(2:Int) == 2)=true by decide,Bool.and_true,Z5]
 rw[if_neg a]
 by_cases d:i.op=DY
 ·rw[if_pos d,d];exact Ew (kk:=3) rfl (by decide) (by decide) (by decide)
 rw[if_neg d]
 by_cases c:i.op=DX
 ·rw[if_pos c,c];exact Ew (kk:=4) rfl (by decide) (by decide) (by decide)
 rw[if_neg c]
 by_cases f:i.op=BN
 ·rw[if_pos f,f];exact Ew (kk:=5) rfl (by decide) (by decide) (by decide)
 rw[if_neg f]
 by_cases m:i.op=CG
 ·rw[if_pos m,m]
  split
  ·exact Ew (kk:=9) rfl (by decide) (by decide) (by decide)
  ·exact Ew (kk:=6) rfl (by decide) (by decide) (by decide)
 rw[if_neg m]
 by_cases j:i.op=BI
 ·rw[if_pos j,j];exact Ew (kk:=7) rfl (by decide) (by decide) (by decide)
 rw[if_neg j]
 by_cases h:i.op=BO
 ·rw[if_pos h,h];exact Ew (kk:=8) rfl (by decide) (by decide) (by decide)
 rw[if_neg h]
 by_cases l:i.op=Dg
 ·rw[if_pos l,l];exact Ew (kk:=0) rfl (by decide) (by decide) (by decide)
 rw[if_neg l]
 by_cases e:i.op=CV
 ·rw[if_pos e,e];exact Ew (kk:=0) rfl (by decide) (by decide) (by decide)
 rw[if_neg e]
 by_cases b:i.op=CU
 ·rw[if_pos b,b];exact Ew (kk:=0) rfl (by decide) (by decide) (by decide)
 rw[if_neg b]
 by_cases g:i.op=Dh
 ·rw[if_pos g,g]
  split
  ·exact Ew (kk:=9) rfl (by decide) (by decide) (by decide)
  ·exact Ew (kk:=0) rfl (by decide) (by decide) (by decide)
 rw[if_neg g];exact Ew (kk:=10) rfl (by decide) (by simp[c5,a]) (by simp[a])
def DU (C:List (List Ad)) (m:MS) (x:Int):Bool:=
 let l:=(AP C m).map λt=>BA C t.toNat (m.th t.toNat)
 decide (1<l.countP λi=>(i.op == Bq||i.op == AH)&&i.x == x)&&l.any λi=>((i.op == Bq||i.op == AH)&&i.x == x)&&i.op == AH
def Bh (C:List (List Ad)) (m:MS):List Ev:=(AP C m).map λt=>(AB false C m t).2
theorem MO (C:List (List Ad)) (m:MS) (x:Int):Ld x (Bh C m)=DU C m x:=by
 unfold Ld DU Bh;dsimp only;rw[List.countP_map,List.countP_map,List.any_map,List.any_map];have h:∀t,BX (AB false C m t).2 x=(((BA C t.toNat (m.th t.toNat)).op == Bq||(BA C t.toNat (m.th t.toNat)).op == AH)&&(BA C t.toNat (m.th t.toNat)).x == x)/\((AB false C m t).2.k == 2)=((BA C t.toNat (m.th t.toNat)).op == AH):=λt=>Vn false m t.toNat _ x;have b:((λe=>BX e x) ∘ λt=>(AB false C m t).2)=((λi:Ad=>(i.op == Bq||i.op == AH)&&i.x == x) ∘ λt:Int=>BA C t.toNat (m.th t.toNat)):=by
  funext t
  exact(h t).1
 have a:((λe=>BX e x&&e.k == 2) ∘ λt=>(AB false C m t).2)=((λi:Ad=>((i.op == Bq||i.op == AH)&&i.x == x)&&i.op == AH) ∘ λt:Int=>BA C t.toNat (m.th t.toNat)):=by
  funext t
  show (BX (AB false C m t).2 x&&(AB false C m t).2.k == 2)=_;rw[(h t).1,(h t).2]
  rfl
 rw[b,a]
end Go.Proofs.YtdcacoifehkioaaGreatDoor
namespace Go.Proofs.YtdcacoifehkioaaGreatDoor
open Go.RowKit Go.Proofs.Cod
section
variable {w w':Xh} {b:Nat} {p:PD} {s:MS}
theorem WU (h:Bn w b p s) (m:CK p) (E:CY p s) :
 XY Tryz.prog 15 #[Ab b] w λe w'=>∃v,e = .returned v/\w'.ownsRow w.heap.size 3 1 v (AP p.C s).length ((AP p.C s).map Ck)/\Xm w.heap.size w w':=by
 have T:=Lr h;have y:s.thr.length=p.ts.length:=by rw[E.tl,m.tc]
 have V:p.ts.length<=4:=by rw[m.tc];exact m.fit.four
 have A:=Aa (fun(w':Xh) (N:Xm w.heap.size w w') (t:Int)=>QG (h.below N) m E t);replace y:=Aa y;unfold AP;rw[y.out];clear h m E y;unfold Ab at *
 go_enter Tryz.func15,Tryz.ntmps15
 go_wp2_with fail
 go_loopw [3,9] (λK z wr=>∃i:Nat,i<=p.ts.length/\z = .int .i64 i/\wr.ownsRow w.heap.size 3 1 K (DD p.C s i).length ((DD p.C s i).map Ck)/\Xm w.heap.size w wr) (λ_ z _=>p.ts.length - (intOf z).toNat)
 case atStart=>exact⟨0,Xx _,rfl,World.ownsRow_nil _ _ _ _,Xq _ _⟩
 case round=>
  obtain⟨i,M,rfl,c,d⟩:=hrel;have k:=Je p.C s i;have f:=Aa (QH p.C s i);obtain⟨l,o⟩:∃l,DD p.C s i=l:=⟨_,rfl⟩;rw[o] at c k f;replace o:=Aa o;obtain⟨P,O,rfl⟩:=As c
  by_cases j:i<p.ts.length
  ·have U:(i:Int)<(p.ts.length:Int):=by omega
   have x:wrap64 ((i:Int)+1)=(i:Int)+1:=by unfold wrap64;omega
   have B:=A.out wr d i;obtain⟨r,H⟩:∃r,AV p.C s (i:Int)=r:=⟨_,rfl⟩;rw[H] at B f;have I:=Aa (⟨c,d,j,k⟩:_/\_/\_/\_);clear c d j M o H k A
   go_wp2_with fail
   refine B.mono ?_;rintro e R ⟨rfl,D⟩;obtain⟨c,d,j,k⟩:=I.out;have u:R.ownsRow w.heap.size 3 1 (.slice P l.length O) l.length (l.map Ck):=Bw c λg e=>D.block g (c.lt g e).2;have n:=d.trans (D.mono d.size);clear c d I B D
   cases G:r == 0 with
   |true=>
    have q:r=0:=by simpa using G
    obtain⟨g,cap,w3,Q,F,J⟩:=NC u (i:Int) (by omega) n.size;have a:=Aa (⟨F,n.trans (J _ (Xd _)),j⟩:_/\_/\_);replace f:Hid (DD p.C s (i+1)=l++[(i:Int)]):=by unfold Hid;rw[f.out,if_pos q]
    clear F n J j k u q
    go_wp2_with (at_builtin;refine Dl rfl _ _ _ rfl rfl rfl rfl Q ?_)
    go_roundw
    case rel=>
     (try rw[x])
     refine⟨i+1,a.out.2.2,rfl,?_,a.out.2.1⟩;rw[f.out];exact a.out.1
    case measure=>
     (try rw[x])
     exact Xl a.out.2.2 (Xo i)
   |false=>
    have q:r≠0:=by simpa using G
    have a:=Aa (⟨u,n,j⟩:_/\_/\_);replace f:Hid (DD p.C s (i+1)=l):=by unfold Hid;rw[f.out,if_neg q]
    clear n j k u q
    go_wp2_with fail
    go_roundw
    case rel=>
     (try rw[x])
     refine⟨i+1,a.out.2.2,rfl,?_,a.out.2.1⟩;rw[f.out];exact a.out.1
    case measure=>
     (try rw[x])
     exact Xl a.out.2.2 (Xo i)
  ·have S:i=p.ts.length:=by omega
   subst S;have a:=Aa (⟨c,d⟩:_/\_);clear c d A
   go_wp2_with fail
   go_ret
   rw[o.out]
   exact⟨_,rfl,a.out⟩
end
section
variable {w w':Xh} {b:Nat} {p:PD} {s:MS}
theorem aeh (h:Bn w b p s):XY Tryz.prog 115 #[Ab b] w λe w'=>e = .returned (Ab w.heap.size)/\Bn w' w.heap.size p s/\Xm w.heap.size w w':=by
 have a:Am (w.alloc (.cells Tryz.zeroCells117 117)) w.heap.size 117 856 (λk=>Tryz.zeroCells117.getD k undef):=by
  have:=Am.new (f:=λk=>Tryz.zeroCells117.getD k undef) w Tryz.zeroCells117 117 (λk o=>by rw[Array.getD_eq_getD_getElem?,Array.getElem?_eq_getElem o];rfl);rw[Tryz.zeroCells117_size] at this;exact this
 have n:∀j,j<856->w.cell? ⟨b,0+j,none⟩=some (Az p s j):=λj l=>by rw[XD];exact h.cell l
 have d:∀j,j<(((YB 856).map (Az p s)).toArray).size->((w.alloc (.cells Tryz.zeroCells117 117)).cell? ⟨w.heap.size,0+j,none⟩).isSome=true:=λj l=>by rw[XD,a.cell (by simpa using l)];rfl
 have g:∀j,j<(((YB 856).map (Az p s)).toArray).size->(w.alloc (.cells Tryz.zeroCells117 117)).frozen? ⟨w.heap.size,0+j,none⟩=false:=λj _=>a.frozen _;have i:=JU (Az p s) 856 (abu p s);have r:(((YB 856).map (Az p s)).toArray).size=856:=by simp
 obtain⟨R,c⟩:∃R,((YB 856).map (Az p s)).toArray=R:=⟨_,rfl⟩;rw[c] at d g i r;have m:(Tryz.prog.info? 117).map (·.size)=some R.size:=by rw[r];exact Tryz.sizeMc
 have t:=Aa (⟨a,h⟩:_/\_);replace n:=Aa n;replace d:=Aa d;replace g:=Aa g;replace i:=Aa i;replace m:=Aa m;replace c:=Aa c;clear a h r;unfold Ab
 go_enter Tryz.func115,Tryz.ntmps115
 go_wp2_with (first|(refine Mn rfl _ _ rfl b 0 856 rfl (Az p s) _ n.out Tryz.underlying117 rfl Tryz.sizeMc ?_;rw[c.out];simp only[XG,XV,X8,X5])|(refine Iv rfl _ _ _ rfl w.heap.size 0 R rfl rfl d.out g.out m.out i.out ?_;simp only[XG,XV,X8,X5]))
 go_ret
 obtain⟨a,h⟩:=t.out;have q:=EZ (S:=λ_=>False) (w:=w) (b:=w.heap.size) R.toList 0 (Ac.DM ((Xq w.heap.size w).alloc (Xd _) (.cells Tryz.zeroCells117 117))) (.inr (Xd _));refine⟨rfl,?_,⟨q.os,q.tape,q.output,q.size,λk o=>q.block k o id⟩⟩;rw[<-c.out];exact a.fill
end
end Go.Proofs.YtdcacoifehkioaaGreatDoor
namespace Go.Proofs.YtdcacoifehkioaaGreatDoor
open Go.RowKit Go.Shelf Go.Proofs.Cod
structure Ag where
 b:Nat
 m:MS
 mb:Nat
 fr:Option Nat
 y:Int
 mo:Xk
def DL:Option Nat->Xk
 |none=>.pointer none
 |some b=>Ab b
def Fx (C:List (List Ad)) (i k j:Nat) (m:MS):List Ev:=if j<i then Bh C m else if j=i then(Bh C m).take k else []
def Fe (R:List Ag) (j:Nat):Xk:=DL ((R[j+1]?).map Ag.b)
def Ge (p:PD) (R:List Ag):List Tx:=R.map λr=>Aj p r.m
structure FW (w:Xh) (p:PD) (base fb kb:Nat) (R:List Ag) (i k:Nat):Prop where
 fo:∃(r0 rl:Ag),R[0]?=some r0/\R[R.length - 1]?=some rl/\Eh w fb (Ab r0.b) rl.b kb
 km:∃fk,AA sk w kb fk R.length/\(∀x u,fk x=some u->u = .agg #[])/\(∀x,(fk x).isSome=true↔x∈Ge p R)
 st:∀(j:Nat) (r:Ag),R[j]?=some r->AY w r.b (if j<i then .pointer none else Ab r.mb) (Aj p r.m) (Ay r.m) (Bt r.m) r.mo (DL r.fr) r.y (Fe R j)
 ma:∀(j:Nat) (r:Ag),R[j]?=some r->i<=j->Bn w r.mb p r.m
 mo:∀(j:Nat) (r:Ag),R[j]?=some r->w.ownsRow base 48 4 r.mo (Fx p.C i k j r.m).length ((Fx p.C i k j r.m).flatMap Eb)
 mn:∀(j:Nat) (r:Ag),R[j]?=some r->i<j\/(j=i/\k=0)->r.mo = .slice none 0 0
 ok:∀(j:Nat) (r:Ag),R[j]?=some r->CY p r.m
 ap:∀(j j':Nat) (r r':Ag),R[j]?=some r->R[j']?=some r'->r.b=r'.b->j=j'
 am:∀(j j':Nat) (r r':Ag) (x:Nat),R[j]?=some r->R[j']?=some r'->r.mo.ownBlock=some x->r'.mo.ownBlock=some x->j=j'
 lo:base<=fb/\base<=kb/\∀(j:Nat) (r:Ag),R[j]?=some r->base<=r.b/\base<=r.mb
 way:∀(j:Nat) (r:Ag),R[j]?=some r->(j=0/\r.fr=none/\r.m=AJ p.vs.length p.fs.length p.ls.length p.C.length)\/∃(j':Nat) (r':Ag),j'<j/\R[j']?=some r'/\r.fr=some r'.b/\AV p.C r'.m r.y=0/\r.m=(AB false p.C r'.m r.y).1
def DG (fb kb:Nat) (R:List Ag) (i:Nat) (x:Nat):Prop:=x=fb\/x=kb\/∃(j:Nat) (r:Ag),R[j]?=some r/\(x=r.b\/(i<=j/\x=r.mb)\/r.mo.ownBlock=some x)
theorem DW {w w':Xh} {base e a n:Nat} {v:Xk} {b:List Xk} (h:w.ownsRow base e a v n b) (c:∀x,v.ownBlock=some x->w'.heap[x]?=w.heap[x]?):w'.ownsRow base e a v n b:=by
 refine⟨h.1,?_⟩
 rcases h.2 with q|⟨g,cap,j,rfl,i,f,d⟩
 ·exact .inl q
 ·exact .inr ⟨g,cap,j,rfl,i,(c g rfl).trans f,d⟩
theorem adN {w:Xh} {base:Nat} {v:Xk} {l:List Ev} (h:w.ownsRow base 48 4 v l.length (l.flatMap Eb)) (x:Ev) (d:l.length<1048576) (b:base<=w.heap.size) :
 ∃g cap w',(Builtin.append_ #[73,73] 73 #[v,.slice (some ⟨w.heap.size,0,none⟩) 1 1]).run Tryz.prog (w.alloc (.cells (Er x) 48)) = .ok (.slice (some ⟨g,0,none⟩) (l.length+1) cap) w'/\
  w'.ownsRow base 48 4 (.slice (some ⟨g,0,none⟩) (l.length+1) cap) (l++[x]).length ((l++[x]).flatMap Eb)/\Ac (λk=>v.ownBlock=some k) w w'/\(v.ownBlock=some g\/w.heap.size<=g):=by
 obtain⟨s,m,o,f,q⟩:=info_parts Tryz.infoEv;obtain⟨g,cap,w',r,i,c,n,p,t,rb,j⟩:=Ic h Tryz.underlying73 m o f q rfl (by omega) (Eb x) rfl (by intro u a;simp only[Eb,Er,List.mem_cons,List.not_mem_nil,or_false] at a;rcases a with rfl|rfl|rfl|rfl<;>rfl) 73 d b;refine⟨g,cap,w',r,?_,⟨c,n,p,by omega,rb⟩,j.imp id (λe=>by omega)⟩;rw[Xb,Ya];have e:List.flatMap Eb [x]=Eb x:=by simp
 rw[e];exact i
section
variable {w w':Xh} {p:PD} {base fb kb i k:Nat} {R:List Ag}
theorem FW.lt (h:FW w p base fb kb R i k) {x:Nat} (f:DG fb kb R i x):x<w.heap.size:=by
 rcases f with rfl|rfl|⟨j,r,a,rfl|⟨c,rfl⟩|e⟩
 ·obtain⟨g,l,-,-,b⟩:=h.fo
  exact(Xa.1 b).1
 ·obtain⟨m,d,-⟩:=h.km;exact d.lt
 ·exact(Xa.1 (h.st j r a)).1
 ·exact(h.ma j r a c).lt
 ·exact((h.mo j r a).lt x e).2
theorem FW.same (h:FW w p base fb kb R i k) (b:∀x,DG fb kb R i x->w'.heap[x]?=w.heap[x]?):FW w' p base fb kb R i k:=by
 refine⟨?_,?_,λj r a=>(b _ (.inr (.inr ⟨j,r,a,.inl rfl⟩))).trans (h.st j r a),λj r a d=>(h.ma j r a d).same (b _ (.inr (.inr ⟨j,r,a,.inr (.inl ⟨d,rfl⟩)⟩))),λj r a=>DW (h.mo j r a) (λx e=>b x (.inr (.inr ⟨j,r,a,.inr (.inr e)⟩))),h.mn,h.ok,h.ap,h.am,h.lo,h.way⟩
 ·obtain⟨g,m,n,c,f⟩:=h.fo
  exact⟨g,m,n,c,(b fb (.inl rfl)).trans f⟩
 ·obtain⟨o,l,c⟩:=h.km
  exact⟨o,l.same (b kb (.inr (.inl rfl))),c⟩
theorem FW.below (h:FW w p base fb kb R i k) (a:Xm w.heap.size w w'):FW w' p base fb kb R i k:=h.same λx b=>a.block x (h.lt b)
theorem FW.keep {S:Nat->Prop} (h:FW w p base fb kb R i k) (b:Ac S w w') (c:∀x,DG fb kb R i x->¬S x):FW w' p base fb kb R i k:=h.same λx a=>b.block x (h.lt a) (c x a)
theorem FW.kinds (h:FW w p base fb kb R i k):fb≠kb/\(∀(j:Nat) (r:Ag),R[j]?=some r->r.b≠fb/\r.b≠kb/\(∀x,r.mo.ownBlock=some x->x≠fb/\x≠kb))/\(∀(j s:Nat) (r r':Ag),R[j]?=some r->R[s]?=some r'->(i<=s->r.b≠r'.mb)/\(∀x,r'.mo.ownBlock=some x->x≠r.b/\(i<=j->x≠r.mb)))/\(∀(j:Nat) (r:Ag),R[j]?=some r->i<=j->r.mb≠fb/\r.mb≠kb):=by
 obtain⟨J,F,-,-,v⟩:=h.fo;obtain⟨H,⟨G,I,A,-⟩,-⟩:=h.km;have B:∀(j:Nat) (r:Ag) (x:Nat),R[j]?=some r->r.mo.ownBlock=some x->∃d,w.heap[x]?=some (.cells d 48 (0,0)):=λj r x c l=>by
  rcases (h.mo j r c).2 with⟨q,-⟩|⟨g,cap,d,q,-,o,-⟩
  ·rw[q] at l;cases l
  ·rw[q] at l
   cases l
   exact⟨d,o⟩
 have z:∀(j:Nat) (r:Ag),R[j]?=some r->i<=j->∃d,w.heap[r.mb]?=some (.cells d 117):=λj r c n=>by
  obtain⟨cs,D,-⟩:=h.ma j r c n
  exact⟨cs,D⟩
 have u:∀{x:Nat} {a b:Array Xk} {t t':Nat} {f f':Nat×Nat},w.heap[x]?=some (.cells a t f)->w.heap[x]?=some (.cells b t' f')->t=t':=λD o=>by
  rw[D] at o;injection o with o
  injection o
 unfold Eh at v;have y:=h.st;unfold AY at y;refine⟨λe=>?_,λj r c=>⟨λe=>?_,λe=>?_,λx l=>⟨λe=>?_,λe=>?_⟩⟩,λj s r r' c C=>⟨λn e=>?_,λx l=>⟨λe=>?_,λn e=>?_⟩⟩,λj r c n=>⟨λe=>?_,λe=>?_⟩⟩
 ·rw[e,A] at v;cases v
 ·have q:=y j r c;rw[e] at q;exact absurd (u q v) (by decide)
 ·have q:=y j r c;rw[e,A] at q;cases q
 ·obtain⟨d,q⟩:=B j r x c l;rw[e] at q;exact absurd (u q v) (by decide)
 ·obtain⟨d,q⟩:=B j r x c l;rw[e,A] at q;cases q
 ·have q:=y j r c;obtain⟨d,m⟩:=z s r' C n;rw[e] at q;exact absurd (u q m) (by decide)
 ·obtain⟨d,q⟩:=B s r' x C l;rw[e] at q;exact absurd (u q (y j r c)) (by decide)
 ·obtain⟨d,q⟩:=B s r' x C l;obtain⟨E,m⟩:=z j r c n;rw[e] at q;exact absurd (u q m) (by decide)
 ·obtain⟨E,m⟩:=z j r c n;rw[e] at m;exact absurd (u m v) (by decide)
 ·obtain⟨E,m⟩:=z j r c n;rw[e,A] at m;cases m
end
theorem acA:∀(l r:Tx),(10:UInt8)∉l->Lib.index (l++10::r) [10]=l.length:=by
 intro l
 induction l with
 |nil=>
  intro r _;unfold Lib.index
  simp
 |cons a l d=>
  intro r h;have f:a≠10:=λe=>h (by rw[e];exact Ye ..);have c:(10:UInt8)∉l:=λe=>h (Yk _ e);have:=d r c;rw[List.cons_append];unfold Lib.index;have b:([10]:List UInt8).isPrefixOf (a::(l++10::r))=false:=by
   have:((10:UInt8) == a)=false:=by simpa using λe:(10:UInt8)=a=>f e.symm
   simp[List.isPrefixOf,this]
  rw[if_neg (by rw[b];decide),this,if_neg (by simp),XJ]
  omega
theorem PA:∀(ls:List Tx) (r:Tx),(∀l,l∈ls->(10:UInt8)∉l)->Lib.splitK [10] 0 ls.length (ls.flatMap (λl=>l++[10])++r)=ls++[r]
 |[],r,_=>rfl
 |l::ls,r,h=>by
  have a:=h l (Ye ..);have e:(l::ls).flatMap (λl=>l++[10])++r=l++10::(ls.flatMap (λl=>l++[10])++r):=by simp
  rw[e,XJ];unfold Lib.splitK;rw[acA _ _ a];rw[if_neg (by simp)];rw[Int.toNat_natCast,Nat.add_zero,List.take_left' rfl];have d:(l++10::(ls.flatMap (λl=>l++[10])++r)).drop (l.length+[(10:UInt8)].length)=ls.flatMap (λl=>l++[10])++r:=by
   rw[<-List.drop_drop,List.drop_left' rfl]
   rfl
  rw[d,PA ls r (λx b=>h x (Yk _ b))]
  rfl
end Go.Proofs.YtdcacoifehkioaaGreatDoor
namespace Go.Proofs
open Go.Shelf
shelf_lay Lays.n147 Nm 147 at Tryz as Tryz.lays147
shelf_lay Lays.n156 Nm 156 at Tryz as Tryz.lays156
theorem Tryz.hi147:(Tryz.prog.info? (Tryz.lays147_ren.t 9)).map (λi=>(i.zero,i.size,i.bytes))=some (some (.string ByteArray.empty),1,16):=by kernel_rfl
theorem Tryz.extra156:Builder.Extra Tryz.prog Tryz.lays156_ren where
 sizeBuilder:=by kernel_rfl
 liesBuilder:=by kernel_rfl
 t5:=by kernel_rfl
 a5:=λw=>by kernel_rfl
 z5:=λw=>by kernel_rfl
 v5:=λw=>by kernel_rfl
 infoByte:=by kernel_rfl
 cellsByte:=by kernel_rfl
 sizeByte:=by kernel_rfl
 neB5:=by decide
end Go.Proofs
namespace Go.Proofs.YtdcacoifehkioaaGreatDoor
open Go.RowKit Go.Shelf Go.Proofs.Cod
theorem Tryz.infoStrX:(Tryz.prog.info? 9).map (λi=>(i.zero,i.size,i.bytes))=some (some (.string ByteArray.empty),1,16):=by kernel_rfl
def Kd (nm v:Tx):Tx:=nm++[61]++v
def GB (T:Int->Tx) (ns:List Tx) (l:List Int):List Tx:=(YB ns.length).map λk=>Kd (ns.getD k []) (T (l.getD k 0))
def AU (p:PD) (m:MS):List Tx:=GB Yh p.vs m.vars++GB Yh p.fs m.flags
def EM:Tx:=[115,116,117,99,107]
def Bz (p:PD) (m:MS):Tx:=YU (AU p m++if 0<Ay m then [EM] else []) [32]
structure Iq (p:PD):Prop where
 v:∀k,(10:UInt8)∉p.vs.getD k []
 f:∀k,(10:UInt8)∉p.fs.getD k []
theorem RF (T:Int->Tx) (a:List Tx) (l:List Int):(GB T a l).flatMap (λx=>x++[10])=Bf T a l a.length:=by
 unfold GB Bf;rw[List.flatMap_map]
 rfl
theorem Kc (T:Int->Tx) (a:List Tx) (l:List Int):(GB T a l).length=a.length:=by unfold GB;rw[List.length_map,List.length_range]
theorem Jj (p:PD) (m:MS):(AU p m).length=p.vs.length+p.fs.length:=by unfold AU;rw[Xb,Kc,Kc]
theorem PK (p:PD) (m:MS):∃r,Aj p m=(AU p m).flatMap (λx=>x++[10])++r:=by
 refine⟨Bf (Ce p.ts) p.ls m.locks p.ls.length++Cr p m p.ts.length,?_⟩;unfold Aj AU;rw[Ya,RF,RF,List.append_assoc]
theorem Sl:∀n:Int,0<=n->n<1000->(10:UInt8)∉Yh n:=by
 intro n b a;have key:∀k:Fin 1000,(10:UInt8)∉Yh (k.val:Int):=by decide +kernel
 obtain⟨k,rfl⟩:∃k:Nat,n=k:=⟨n.toNat,by omega⟩;exact key ⟨k,by omega⟩
theorem aaG {p:PD} {m:MS} (d:Iq p) (g:CY p m):∀x,x∈AU p m->(10:UInt8)∉x:=by
 intro x b;have e:∀k,0<=m.vars.getD k 0/\m.vars.getD k 0<1000:=Gv g.vv;have i:∀k,0<=m.flags.getD k 0/\m.flags.getD k 0<1000:=Gv g.fv;unfold AU GB Kd at b;rw[XX,YA,YA] at b
 rcases b with⟨k,-,rfl⟩|⟨k,-,rfl⟩
 ·have c:=d.v k;have a:=Sl _ (e k).1 (e k).2;simp only[XX,XT]
  rintro((h|h)|h)
  ·exact c h
  ·exact absurd h (by decide)
  ·exact a h
 ·have c:=d.f k;have a:=Sl _ (i k).1 (i k).2;simp only[XX,XT]
  rintro((h|h)|h)
  ·exact c h
  ·exact absurd h (by decide)
  ·exact a h
theorem SJ:∀l:List Tx,l.length<=(l.flatMap (λx=>x++[10])).length
 |[]=>Xd _
 |a::l=>by
  rw[XO,Xb,Xb,XJ];have:=SJ l;show l.length+1<=a.length+1+_
  omega
theorem Vv {p:PD} {m:MS} (d:Iq p) (f:CY p m):∃r,Lib.splitB ⟨#[10]⟩ 0 (p.vs.length+p.fs.length) (bs (Aj p m))=(AU p m++[r]).map bs/\p.vs.length+p.fs.length<=(bs (Aj p m)).size:=by
 obtain⟨r,b⟩:=PK p m;refine⟨r,?_,?_⟩
 ·have e:=Lib.splitB_data ⟨#[10]⟩ 0 (p.vs.length+p.fs.length) (bs (Aj p m));have g:(bs (Aj p m)).data.toList=Aj p m:=by unfold bs;rfl
  have c:(⟨#[10]⟩:ByteArray).data.toList=[10]:=rfl;rw[g,c,b,<-Jj p m,PA _ _ (aaG d f),Jj] at e;rw[b] at *;rw[<-e,List.map_map];have:∀l:List ByteArray,l.map (bs ∘ λx=>x.data.toList)=l:=λl=>by
   induction l with
   |nil=>rfl
   |cons a l h=>rw[List.map_cons,h];show bs a.data.toList::l=a::l;rw[TD]
  rw[this]
 ·rw[Bg,b,Xb,<-Jj p m];have:=SJ (AU p m)
  omega
theorem Kh (ls:List Tx):(YU ls [32]).length<=(ls.flatMap (λx=>x++[10])).length:=by
 unfold YU
 match ls with
 |[]=>exact Xd _
 |[a]=>simp[List.intercalate]
 |a::b::l=>
  have c:=Kh (b::l);unfold YU at c;have e:([32]:Tx).intercalate (a::b::l)=a++[32]++([32]:Tx).intercalate (b::l):=by simp[List.intercalate]
  rw[e,Xb,Xb,XO,Xb,Xb];show a.length+1+_<=a.length+1+_
  omega
def FO (s:PS):Prop:=∀k x,x∈s.nms k->Av x=true
theorem FO.new:FO PS.new:=λk x h=>by cases h
section
variable {s s':PS}
theorem To {kd:Int} {ts:List Tx} (h:FO s) (e:Cg kd ts s = .ok s'):FO s':=by
 unfold Cg at e
 split at e
 ·cases e
 ·rename_i f
  split at e
  ·cases e
  ·rename_i p g
   split at e
   ·cases e
   ·rename_i j
    cases e
    have d:=LQ g;intro k x a;have a:x∈AT s.nms kd p.2 k:=a
    by_cases b:k=kd
    ·subst b;rw[Cj,d] at a
     rcases XX.1 a with a|a
     ·exact h k x a
     ·have i:ts.all Av=true:=by
       cases c:ts.all Av with
       |true=>rfl
       |false=>exact absurd (.inr (.inr c)) f
      exact Zx.1 i x a
    ·rw[Cy _ b] at a;exact h k x a
theorem acv {line:Int} {f:Tx} {ts:List Tx} {b:PB} (h:FO s) (e:ER line f ts s b = .ok s'):FO s':=by
 unfold ER at e
 split at e
 ·cases e
 ·split at e
  ·cases e
  ·split at e
   ·cases e
   ·split at e
    ·cases e
    ·cases e
     exact h
theorem Vq {line:Int} {f:Tx} {ts:List Tx} (h:FO s) (e:stepT line f ts s = .ok s'):FO s':=by
 unfold stepT at e
 split at e
 ·split at e
  ·cases a:Cg 116 ts s with
   |error x=>rw[a] at e;cases e
   |ok b=>
    rw[a] at e
    cases e
    have q:=To h a;exact q
  ·cases e
 ·split at e
  ·exact To h e
  ·split at e
   ·unfold Gc at e
    split at e
    ·cases e
    ·split at e
     ·cases e
     ·cases e
      exact h
   ·exact acv h e
theorem RM:∀(ls:List Tx) (n:Int) (s s':PS),FO s->CH ls n s = .ok s'->FO s'
 |[],_,s,s',h,e=>by
  have e:Except.ok s=Except.ok s':=e
  cases e;exact h
 |l::ls,n,s,s',h,e=>by
  unfold CH at e
  cases a:CC (n+1) l s with
  |error x=>rw[a] at e;cases e
  |ok b=>
   rw[a] at e;refine RM ls (n+1) b s' ?_ e;unfold CC at a
   split at a
   ·cases a;exact h
   ·exact Vq h a
end
theorem QY {t:Tx} {s:PS} {C:List (List Ad)} (h:BM t = .ok (s,C)):FO s:=by
 unfold BM at h
 split at h
 ·cases h
 ·unfold Ej at h
  split at h
  ·cases h
  ·rename_i d a
   split at h
   ·cases h
   ·rename_i c b
    cases h
    exact RM _ _ _ _ FO.new a
theorem abh {t:Tx} (h:Av t=true):(10:UInt8)∉t:=by
 intro a;unfold Av at h;simp only[Yl] at h;have:=Zx.1 h.1.2 10 a
 revert this
 decide
theorem SF {l:List Tx} (h:∀x,x∈l->Av x=true) (k:Nat):(10:UInt8)∉l.getD k []:=by
 by_cases e:k<l.length
 ·exact abh (h _ (CN e))
 ·rw[List.getD_eq_getElem?_getD,List.getElem?_eq_none (by omega)];intro a
  cases a
theorem Rn {t:Tx} {s:PS} {C:List (List Ad)} {L:List (Tx×Xk)} (h:BM t = .ok (s,C)):Iq (Ap (s.nms 118) (s.nms 102) (s.nms 109) L C):=
 ⟨SF (QY h 118),SF (QY h 102)⟩
section
variable {p:PD} {s:MS}
theorem OW (a:∀t,t<p.ts.length->(CQ (p.ts.getD t []) (s.th t)).length<=200):∀i,i<=p.ts.length->(Cr p s i).length<=i*200
 |0,_=>by rw[KH];exact Xx _
 |i+1,hi=>by
  rw[KI];exact Nr (OW a i (by omega)) (a i (by omega))
theorem PM (a:CK p) (b:Eg p) (c:CY p s):(Aj p s).length<4294967000:=by
 have d:∀k,0<=s.vars.getD k 0/\s.vars.getD k 0<1000:=Gv c.vv;have g:∀k,0<=s.flags.getD k 0/\s.flags.getD k 0<1000:=Gv c.fv;have o:=FA Yh p.vs s.vars p.vs.length b.v (λk=>Dw (d k).1 (d k).2);have q:=FA Yh p.fs s.flags p.fs.length b.f (λk=>Dw (g k).1 (g k).2);have u:=FA (Ce p.ts) p.ls s.locks p.ls.length b.l (λk=>ND b.t _);have r:=a.v;have m:=a.f;have n:=a.l;have j:p.ts.length<=4:=by rw[a.tc];exact a.fit.four
 have h:∀t,t<p.ts.length->(CQ (p.ts.getD t []) (s.th t)).length<=200:=λt e=>Mp b.t (c.th t (by rw[<-a.tc];exact e)) (a.fit.code _ (CN (by rw[<-a.tc];exact e))).1;have i:=OW h p.ts.length (Xd _);unfold Aj;simp only[Xb]
 omega
end
end Go.Proofs.YtdcacoifehkioaaGreatDoor
