import Derived.Test.YtdcacoifehkioaaGreatDoorExR3
import Derived.Test.YtdcacoifehkioaaGreatDoorExR19
import Derived.Test.YtdcacoifehkioaaGreatDoorExR2
import Derived.Test.YtdcacoifehkioaaGreatDoorExR16
import Derived.Test.YtdcacoifehkioaaGreatDoorExR17
import Derived.Test.YtdcacoifehkioaaGreatDoorExR15
import Derived.Test.YtdcacoifehkioaaGreatDoorExR14
import Derived.Lib.Split
import Derived.Ground.NamesProg
import Derived.Shelf.Lay
import Derived.Shelf.Strings.Split
import Derived.Shelf.Strings.OnBuilder
open Go renaming World->Xg,Value->Xj,Calls->X3,wp_region_held_drew->XV,heap_setCell_other->XC,heap_setCell_same->Xk,wpAnyH_done->YH
open Go.World renaming cell?->Xh,alloc_heap_new->Xi,frozen?->XE,size_setCell->XG
open Go.RowKit renaming Below->Xn
open Array renaming getElem?_eq_some_iff->Xa
open Go.RowKit.Below renaming refl->Xo
open Nat renaming le_refl->Xf,zero_le->XD,sub_lt_sub_left->Xs,lt_succ_self->Xt,zero_add->X8
open Go.Instr renaming lookup->Y3,mapUpdate->Ys
open Go.Act renaming put->X7
open List renaming any_eq_true->YE,range->Yt,setIfInBounds_toArray->XK,set_cons_succ->X5,set_cons_zero->X6,length_append->Xd,flatMap_append->XZ,mem_cons_self->Yc,mem_cons_of_mem->Yk,length_cons->Xw,mem_append->XX,mem_map->Yg,mem_singleton->XR,flatMap_cons->XP,all_eq_true->Zi
open Bool renaming true_and->ZK,and_eq_true->Yh
open Go.Lib renaming itoa->Yy,join->YP
set_option maxRecDepth 100000
set_option maxHeartbeats 4000000
set_option linter.unusedVariables false
set_option linter.unusedSimpArgs false
namespace Go.Proofs.YtdcacoifehkioaaGreatDoor
open Go.RowKit Go.Shelf Go.Proofs.Cod
theorem SK (w:Xg):(zeroValue 76).run Tryz.prog w = .ok (.agg #[]) w:=by kernel_rfl
theorem Hc {w:Xg} {b T:Nat} {a c d:Xj} (h:w.heap[b]?=some (.cells #[a,c,d] T)):w.cell? ⟨b,0,none⟩=some a/\w.cell? ⟨b,1,none⟩=some c/\w.cell? ⟨b,2,none⟩=some d:=by
 refine⟨?_,?_,?_⟩<;>simp[Xh,h]
def Dj (w:Xg) (fb:Nat) (fp:Xj) (lb kb:Nat):Prop:=w.heap[fb]?=some (.cells #[fp,.pointer (some ⟨lb,0,none⟩),.map (some kb)] 154)
def KT (w w':Xg) (fb lb kb sb mB:Nat) (fp:Xj) (fk:Tx->Option Xj) (n:Nat) (key:Tx) (g:Int) (f:Bool) (mvL moL frL:Xj) (shL:Tx) (gL yL:Int) (fL:Bool) (e:Ev):Prop:=
 ((fk key).isSome=true/\Xn w.heap.size w w')\/
 (fk key=none/\∃q,w.heap.size<=q/\AP w' q (Ab mB) key (Fb g e.k) (f||decide (e.k=9)) (.slice none 0 0) (Ab sb) e.t (.pointer none)/\AP w' lb mvL shL gL fL moL frL yL (Ab q)/\Dj w' fb fp q kb/\Av sk w' kb (Be fk key (.agg #[])) (n+1)/\Ae (λx=>x=fb\/x=lb\/x=kb) w w')
theorem acG {w:Xg} {B a lb c sb mB n:Nat} {G mv mo fr nx aa ai ab:Xj} {sh ah:Tx} {g y gL Z:Int} {f fL:Bool} {J:Tx->Option Xj} {p:PD} {m:MS} (ht:Cn w B) (hB:B<=w.heap.size) (D:Dj w a G lb c) (z:Av sk w c J n) (O:AP w sb mv sh g f mo fr y nx) (hg:0<=g/\g<=4) (i:AP w lb aa ah gL fL ai ab Z (.pointer none)) (hM:AD w mB p m) (hf:BL p) (bj:Bt p m) (hN:DK p) (hU:∀x u,J x=some u->u = .agg #[]) (e:Ev) :
 X3 Tryz.prog 116 #[Ab a,Ab sb,.agg (CM e),Ab mB] w λr w'=>r = .returned (.tuple #[])/\KT w w' a lb c sb mB G J n (Aj p m) g f aa ai ab ah gL Z fL e:=by
 have M:a<w.heap.size:=(Xa.1 D).1;have Y:lb<w.heap.size:=(Xa.1 i).1;have X:sb<w.heap.size:=(Xa.1 O).1;have R:=z.lt;obtain⟨t,k,o,v⟩:=e;obtain⟨W,hW⟩:∃W,w.alloc (.cells #[.int .i64 t,.int .i64 k,.int .i64 o,.int .i64 v] 48)=W:=⟨_,rfl⟩;have H:Xn w.heap.size w W:=by rw[<-hW];exact(Xo _ _).alloc (Xf _) _
 have ke:W.heap[w.heap.size]?=some (.cells #[.int .i64 t,.int .i64 k,.int .i64 o,.int .i64 v] 48):=by rw[<-hW];exact Xi w _
 have hz:W.heap.size=w.heap.size+1:=by rw[<-hW];show (w.heap.push _).size=_;simp
 have aH:=Lh (B0:=B) (hM.below H) hf bj hN (ht.keep (H.mono hB)) (by have:=H.size;omega);obtain⟨key,bi⟩:∃x,Aj p m=x:=⟨_,rfl⟩;rw[bi] at aH |-;obtain⟨d,F⟩:∃x,w.heap.size=x:=⟨_,rfl⟩;have HC:Hid (∀u,Xn W.heap.size W u->(u.cell? ⟨a,0,none⟩=some G/\u.cell? ⟨a,1,none⟩=some (.pointer (some ⟨lb,0,none⟩))/\u.cell? ⟨a,2,none⟩=some (.map (some c)))/\(u.cell? ⟨d,0,none⟩=some (.int .i64 t)/\u.cell? ⟨d,1,none⟩=some (.int .i64 k)/\u.cell? ⟨d,2,none⟩=some (.int .i64 o)/\u.cell? ⟨d,3,none⟩=some (.int .i64 v))):=λu hu=>⟨Hc ((hu.block a (by omega)).trans ((H.block a M).trans D)),by rw[<-F];exact Df ((hu.block _ (by omega)).trans ke)⟩
 have HP:=Aa (⟨D,z,O,i,hg,H,hz,F,M,Y,X,R,ke⟩:_/\_/\_/\_/\_/\_/\_/\_/\_/\_/\_/\_/\_);unfold Ab at aH |-;unfold CM;replace F:=Aa F;clear ht hB D z O hg i hM hf bj hN ke hz H M Y X R bi
 go_enter Tryz.func116,Tryz.ntmps116
 go_upto_region 1 with fail
 try rw[hW]
 try rw[F.out]
 clear hW F
 go_wp2_with fail
 refine aH.mono ?_;rintro r w1 ⟨rfl,ap⟩;clear aH;obtain⟨D,z,O,i,hg,H,hz,F,M,Y,X,R,ke⟩:=HP.out;have az:Xn w.heap.size w w1:=H.trans (ap.mono H.size);have aR:=z.same (az.block c R);have ae:(Y3 64 (.map (some c)) (.string (bs key)) true).run Tryz.prog w1 = .ok (.tuple #[.agg #[],.bool (J key).isSome]) w1:=by
  have q:=aR.Wq Tryz.strKey Tryz.underlying64 (SK w1) key
  cases I:J key with
  |none=>rw[I] at q;exact q
  |some u=>rw[I,hU key u I] at q;exact q
 obtain⟨⟨f0,f1,f2⟩,c0,c1,c2,c3⟩:=HC.out w1 ap;obtain⟨V,P⟩:∃V,w1.alloc (.cells #[] 76)=V:=⟨_,rfl⟩;have aL:Xn w1.heap.size w1 V:=by rw[<-P];exact(Xo _ _).alloc (Xf _) _
 have C:Xn w.heap.size w V:=az.trans (aL.mono az.size);have aG:Xn W.heap.size W V:=ap.trans (aL.mono ap.size);have bl:=hU;clear hU
 cases N:J key with
 |some u=>
  rw[N] at ae;replace ae:(Y3 64 (.map (some c)) (.string (bs key)) true).run Tryz.prog w1 = .ok (.tuple #[.agg #[],.bool true]) w1:=ae;have HF:=Aa (⟨(show (J key).isSome=true by rw[N];rfl),C⟩:_/\_);replace P:=Aa P;clear D z O i hg H hz F M Y X R ke az aR aL C aG bl N HC HP ap
  go_upto_region 3 with fail
  try rw[P.out]
  clear P
  go_wp2_with fail
  exact bodyPost_ret (results_none rfl _ _ _) rfl ⟨rfl,.inl HF.out⟩
 |none=>
  rw[N] at ae;replace ae:(Y3 64 (.map (some c)) (.string (bs key)) true).run Tryz.prog w1 = .ok (.tuple #[.agg #[],.bool false]) w1:=ae;have a5:=z.same (C.block c R);obtain⟨l,aX,Q,T,aI⟩:=a5.put Tryz.strKey Tryz.underlying64 key (.agg #[]);rw[N] at Q;replace Q:Av sk l c (Be J key (.agg #[])) (n+1):=Q;replace aX:(Ys 64 (.map (some c)) (.string (bs key)) (.agg #[])).run Tryz.prog V = .ok () l:=aX;obtain⟨es,bP,aM,-⟩:=id z;have ak:a≠c:=λq=>by unfold Dj at D;rw[q,aM] at D;cases D
  have bc:sb≠c:=λq=>by unfold AP at O;rw[q,aM] at O;cases O
  have av:lb≠c:=λq=>by unfold AP at i;rw[q,aM] at i;cases i
  have au:lb≠a:=λq=>by
   unfold AP at i;unfold Dj at D;rw[q,D] at i;injection i with i
   injection i with _ i
   exact absurd i (by decide)
  have bh:w.heap.size≠c:=by omega
  have U:∀x,x<w.heap.size->x≠c->l.heap[x]?=w.heap[x]?:=λx hx hn=>(T.block x (by have:=C.size;omega) (λq=>by injection q with q;exact hn q)).trans (C.block x hx);have aS:l.heap[d]?=some (.cells #[.int .i64 t,.int .i64 k,.int .i64 o,.int .i64 v] 48):=by
   rw[<-F]
   exact(T.block _ (by have:=aG.size;omega) (λq=>by injection q with q;exact bh q)).trans ((aG.block _ (by omega)).trans ke)
  have ao:Dj l a G lb c:=(U a M ak).trans D;have aA:AP l sb mv sh g f mo fr y nx:=(U sb X bc).trans O;have aB:AP l lb aa ah gL fL ai ab Z (.pointer none):=(U lb Y av).trans i;obtain⟨bp,bo,bv⟩:=Hc ((C.block a M).trans D);have aJ:Hid (∀u,Xn l.heap.size l u->(u.cell? ⟨a,0,none⟩=some G/\u.cell? ⟨a,1,none⟩=some (.pointer (some ⟨lb,0,none⟩))/\u.cell? ⟨a,2,none⟩=some (.map (some c)))/\(u.cell? ⟨d,0,none⟩=some (.int .i64 t)/\u.cell? ⟨d,1,none⟩=some (.int .i64 k)/\u.cell? ⟨d,2,none⟩=some (.int .i64 o)/\u.cell? ⟨d,3,none⟩=some (.int .i64 v))):=λu hu=>⟨Hc ((hu.block a (by have:=C.size;omega)).trans ao),Df ((hu.block d (Xa.1 aS).1).trans aS)⟩
  have hd:Xn l.heap.size l l.drew:=⟨rfl,rfl,rfl,Xf _,λ_ _=>rfl⟩;have aP:=acm (w:=l.drew) (b:=sb) (mb:=mB) (sh2:=key) (mv:=mv) (mo:=mo) (fr:=fr) (nx:=nx) (sh:=sh) (y:=y) aA hg ⟨t,k,o,v⟩;have a2:=Aa (aJ.out l.drew hd);have HD:=Aa (⟨N,ao,aA,aB,Q,U,ak,av,au,T,aI,C⟩:_/\_/\_/\_/\_/\_/\_/\_/\_/\_/\_/\_);replace P:=Aa P;clear D z O i hg H hz F M Y X R ke az aR aL C aG bl N HC ap a5 Q T aI aM ak bc av au bh U aS ao aA aB;unfold CM Ab at aP
  go_upto_region 3 with fail
  try rw[P.out]
  clear P ae
  go_upto_region 5 with fail
  clear aX bp bo bv f0 f1 f2 c0 c1 c2 c3;refine XV (S:=(λu=>(u.cell? ⟨a,0,none⟩=some G/\u.cell? ⟨a,1,none⟩=some (.pointer (some ⟨lb,0,none⟩))/\u.cell? ⟨a,2,none⟩=some (.map (some c)))/\(u.cell? ⟨d,0,none⟩=some (.int .i64 t)/\u.cell? ⟨d,1,none⟩=some (.int .i64 k)/\u.cell? ⟨d,2,none⟩=some (.int .i64 o)/\u.cell? ⟨d,3,none⟩=some (.int .i64 v)))) (by kernel_rfl) a2.out (λE=>?_);refine tk 0 E ?_;refine tk 1 E ?_;refine tk 2 E ?_;refine tk 3 E ?_;refine tk 4 E ?_;refine tk 5 E ?_;refine tk 6 E ?_;refine tk 7 E ?_;refine rd 8 (λK z=>?_)
  go_simp
  go_at_call 148
  refine aP.mono ?_;rintro r w3 ⟨q,rfl,I,aO,s⟩;replace s:Xn l.heap.size l w3:=hd.trans s;replace I:l.heap.size<=q:=I;have hh:=Aa (aJ.out w3 s);replace s:=Aa s;replace aO:=Aa aO;replace I:=Aa I
  go_wp2_with fail
  refine z.out _ _ hh.out (λE=>?_);clear z K hh
  try simp only[X7,sq]
  refine tk 9 E ?_;refine tk 10 E ?_;obtain⟨N,ao,aA,aB,Q,U,ak,av,au,T,aI,C⟩:=HD.out;obtain⟨-,-,-,-,-,-,-,F,M,Y,X,R,-⟩:=HP.out;have bx:=C.size;have aE:AP w3 lb aa ah gL fL ai ab Z (.pointer none):=(s.out.block lb (by omega)).trans aB;have aY:Dj w3 a G lb c:=(s.out.block a (by omega)).trans ao;obtain⟨e0,e1,e2,e3,e4,e5,e6,e7⟩:=CT aE;have bB:w3.frozen? ⟨lb,7,none⟩=false:=by unfold AP at aE;simp[XE,aE]
  obtain⟨h,aq⟩:∃x,w3.setCell ⟨lb,7,none⟩ (.pointer (some ⟨q,0,none⟩))=x:=⟨_,rfl⟩;have o4:∀x,x≠lb->h.heap[x]?=w3.heap[x]?:=λx hx=>by rw[<-aq];exact XC w3 ⟨lb,7,none⟩ x _ hx
  have aV:AP h lb aa ah gL fL ai ab Z (Ab q):=by rw[<-aq];exact(Xk w3 lb 7 _ _ _ aE).trans rfl
  have z4:h.heap.size=w3.heap.size:=by rw[<-aq];exact XG ..
  have an:Dj h a G lb c:=(o4 a (λe=>au e.symm)).trans aY;have aZ:(h.cell? ⟨a,0,none⟩=some G/\h.cell? ⟨a,1,none⟩=some (.pointer (some ⟨lb,0,none⟩))/\h.cell? ⟨a,2,none⟩=some (.map (some c)))/\(h.cell? ⟨d,0,none⟩=some (.int .i64 t)/\h.cell? ⟨d,1,none⟩=some (.int .i64 k)/\h.cell? ⟨d,2,none⟩=some (.int .i64 o)/\h.cell? ⟨d,3,none⟩=some (.int .i64 v)):=⟨Hc an,by
   have q4:=(aJ.out w3 s.out).2;have ne:d≠lb:=by omega
   have hc:∀j,h.cell? ⟨d,j,none⟩=w3.cell? ⟨d,j,none⟩:=λj=>by unfold Xh;dsimp only;rw[o4 d ne]
   rw[hc,hc,hc,hc];exact q4⟩
  have bQ:h.frozen? ⟨a,1,none⟩=false:=by unfold Dj at an;simp[XE,an]
  obtain⟨A,af⟩:∃x,h.setCell ⟨a,1,none⟩ (.pointer (some ⟨q,0,none⟩))=x:=⟨_,rfl⟩;have o5:∀x,x≠a->A.heap[x]?=h.heap[x]?:=λx hx=>by rw[<-af];exact XC h ⟨a,1,none⟩ x _ hx
  have bg:Dj A a G q c:=by rw[<-af];exact(Xk h a 1 _ _ _ an).trans rfl
  have z5:A.heap.size=h.heap.size:=by rw[<-af];exact XG ..
  have bz:=I.out;have bH:=s.out.size;have a0:q≠lb:=by omega
  have be:q≠a:=by omega
  have a9:AP A q (Ab mB) key (Fb g k) (f||decide (k=9)) (.slice none 0 0) (Ab sb) t (.pointer none):=(o5 q be).trans ((o4 q a0).trans aO.out);have ba:AP A lb aa ah gL fL ai ab Z (Ab q):=(o5 lb au).trans aV;have a3:=Q.same (w':=A) ((o5 c (λe=>ak e.symm)).trans ((o4 c (λe=>av e.symm)).trans (s.out.block c (by have:=Q.lt;omega))));have aF:A.os=w.os/\A.tape=w.tape/\A.output=w.output:=by
   rw[<-af,<-aq]
   exact⟨s.out.os.trans (T.os.trans C.os),s.out.tape.trans (T.tape.trans C.tape),s.out.output.trans (T.output.trans C.output)⟩
  have bf:Ae (λx=>x=a\/x=lb\/x=c) w A:=⟨aF.1,aF.2.1,aF.2.2,by omega,λx hx hn=>(o5 x (λe=>hn (.inl e))).trans ((o4 x (λe=>hn (.inr (.inl e)))).trans ((s.out.block x (by omega)).trans (U x hx (λe=>hn (.inr (.inr e))))))⟩;have HF:=Aa (⟨N,q,by omega,a9,ba,bg,a3,bf⟩:J key=none/\∃q,w.heap.size<=q/\AP A q (Ab mB) key (Fb g k) (f||decide (k=9)) (.slice none 0 0) (Ab sb) t (.pointer none)/\AP A lb aa ah gL fL ai ab Z (Ab q)/\Dj A a G q c/\Av sk A c (Be J key (.agg #[])) (n+1)/\Ae (λx=>x=a\/x=lb\/x=c) w A);obtain⟨y0,y1,y2⟩:=Hc an;obtain⟨-,-,-,-,-,-,-,x7⟩:=CT aV;unfold Ab at x7;have bd:=Aa aZ;replace af:=Aa af;clear N ao aA aB Q U ak av au T aI C F M Y X R bx aE aY o4 aV z4 an aZ o5 bg z5 bz bH a0 be a9 ba a3 aF bf HD HP aJ s aO I hd aP a2;refine rd 11 (λK z=>?_)
  go_simp
  try rw[aq]
  refine z.out _ _ bd.out (λE=>?_);clear z K
  try simp only[X7,sq]
  refine YH (by kernel_rfl) ?_ _;clear E bd aq e0 e1 e2 e3 e4 e5 e6 e7 bB
  go_wp2_with fail
  try rw[af.out]
  go_end0
  exact⟨rfl,.inr HF.out⟩
theorem Sv {w:Xg} {B base y F nl b vc fc lc tc:Nat} {va fa la ta:Option Addr} {vs fs ls:List Tx} {L:List (Tx×Xj)} {C:List (List Ac)} (H:Cn w B) (hB:B<=w.heap.size) (hp:Bz w base (.slice va y vc) (.slice fa F fc) (.slice la nl lc) (.slice ta b tc) vs fs ls L C) (hb:Gu vs fs ls L C) (v:BL (Al vs fs ls L C)) (z:DK (Al vs fs ls L C)) (E:Bt (Al vs fs ls L C) (BO vs.length fs.length ls.length L.length)) :
 X3 Tryz.prog 54 #[.agg #[.slice va y vc,.slice fa F fc,.slice la nl lc,.slice ta b tc]] w λr w'=>∃q sb j mb,r = .returned (Ab q)/\Dj w' q (Ab sb) sb j/\AP w' sb (Ab mb) (Aj (Al vs fs ls L C) (BO vs.length fs.length ls.length L.length)) (min (b:Int) 1) false (.slice none 0 0) (.pointer none) 0 (.pointer none)/\Av sk w' j (Be (λ_=>none) (Aj (Al vs fs ls L C) (BO vs.length fs.length ls.length L.length)) (.agg #[])) 1/\AD w' mb (Al vs fs ls L C) (BO vs.length fs.length ls.length L.length)/\(w.heap.size<=q/\w.heap.size<=sb/\w.heap.size<=j/\w.heap.size<=mb)/\Xn w.heap.size w w':=by
 obtain⟨pd,ap⟩:∃x,Al vs fs ls L C=x:=⟨_,rfl⟩;obtain⟨W,M⟩:∃W,w.alloc (.cells #[.slice va y vc,.slice fa F fc,.slice la nl lc,.slice ta b tc] 25)=W:=⟨_,rfl⟩;have o:Xn w.heap.size w W:=by rw[<-M];exact(Xo _ _).alloc (Xf _) _
 have kp:W.heap[w.heap.size]?=some (.cells #[.slice va y vc,.slice fa F fc,.slice la nl lc,.slice ta b tc] 25):=by rw[<-M];exact Xi w _
 have U:W.heap.size=w.heap.size+1:=by rw[<-M];show (w.heap.push _).size=_;simp
 have am:=Pr (hp.below o) hb;obtain⟨m0,aI⟩:∃x,BO vs.length fs.length ls.length L.length=x:=⟨_,rfl⟩;rw[ap,aI] at am E |-;rw[ap] at v z;obtain⟨key,D⟩:∃x,Aj pd m0=x:=⟨_,rfl⟩;rw[D];obtain⟨m,n⟩:∃x,w.heap.size=x:=⟨_,rfl⟩;have N:Hid (∀u,Xn W.heap.size W u->(u.cell? ⟨m,0,none⟩=some (.slice va y vc)/\u.cell? ⟨m,1,none⟩=some (.slice fa F fc)/\u.cell? ⟨m,2,none⟩=some (.slice la nl lc)/\u.cell? ⟨m,3,none⟩=some (.slice ta b tc))):=λu hu=>by rw[<-n];exact Df ((hu.block _ (by omega)).trans kp)
 obtain⟨q0,q1,q2,q3⟩:=N.out W (Xo _ _);have HP:=Aa (⟨H,v,z,E,o,U,n,D⟩:_/\_/\_/\_/\_/\_/\_/\_);replace n:=Aa n;clear H hp hb v z E o kp U ap aI D
 go_enter Tryz.func54,Tryz.ntmps54
 go_upto_region 1 with fail
 try rw[M]
 try rw[n.out]
 clear M n
 go_wp2_with fail
 refine am.mono ?_;rintro r w1 ⟨mb,rfl,Z,t,s⟩;clear am q0 q1 q2 q3;obtain⟨H,v,z,E,o,U,n,D⟩:=HP.out;have f:=o.trans (s.mono o.size);have G:Xn w1.heap.size w1 w1.drew:=⟨rfl,rfl,rfl,Xf _,λ_ _=>rfl⟩;have X:=Lh (B0:=B) (t.below G) v E z (H.keep ((f.trans (G.mono f.size)).mono hB)) (by show B<=w1.heap.size;have:=f.size;omega);rw[D] at X;have az:=Aa (N.out w1.drew (s.trans (G.mono s.size)));have Q:=Aa (⟨t,f,s,Z⟩:_/\_/\_/\_);clear H v z E o U n D f t s Z;unfold Ab at X |-
 go_upto_region 2 with fail
 refine XV (S:=(λu=>(u.cell? ⟨m,0,none⟩=some (.slice va y vc)/\u.cell? ⟨m,1,none⟩=some (.slice fa F fc)/\u.cell? ⟨m,2,none⟩=some (.slice la nl lc)/\u.cell? ⟨m,3,none⟩=some (.slice ta b tc)))) (by kernel_rfl) az.out (λc=>?_);refine tk 0 c ?_;refine tk 1 c ?_;refine tk 3 c ?_;refine tk 4 c ?_;refine tk 5 c ?_;refine tk 6 c ?_;refine rd 2 (λK k=>?_)
 go_simp
 go_at_call 43
 refine X.mono ?_;rintro r i ⟨rfl,h⟩;replace h:Xn w1.heap.size w1 i:=G.trans h;have A:Xn W.heap.size W i:=Q.out.2.2.1.trans (h.mono Q.out.2.2.1.size);have hh:=Aa (N.out i A);replace h:=Aa h;replace A:=Aa A
 go_wp2_with fail
 refine k.out _ _ hh.out (λc=>?_);clear k K
 try simp only[X7,sq]
 refine rd 7 (λK k=>?_);refine KV _ _ rfl [(0,.pointer (some ⟨mb,0,none⟩)),(1,.string (bs key)),(2,.int .i64 (min (b:Int) 1))] rfl #[.pointer (some ⟨mb,0,none⟩),.string (bs key),.int .i64 (min (b:Int) 1),.bool false,.slice none 0 0,.pointer none,.int .i64 0,.pointer none] (by rfl) ?_;refine k.out _ _ hh.out (λc=>?_);clear k K
 try simp only[X7,sq]
 refine rd 8 (λK k=>?_)
 go_simp
 obtain⟨V,R⟩:∃V,i.alloc (.cells #[.pointer (some ⟨mb,0,none⟩),.string (bs key),.int .i64 (min (b:Int) 1),.bool false,.slice none 0 0,.pointer none,.int .i64 0,.pointer none] 75)=V:=⟨_,rfl⟩;have aa:Xn i.heap.size i V:=by rw[<-R];exact(Xo _ _).alloc (Xf _) _
 have J:V.heap[i.heap.size]?=some (.cells #[.pointer (some ⟨mb,0,none⟩),.string (bs key),.int .i64 (min (b:Int) 1),.bool false,.slice none 0 0,.pointer none,.int .i64 0,.pointer none] 75):=by rw[<-R];exact Xi i _
 try rw[R]
 clear R;refine k.out _ _ (N.out V (A.out.trans (aa.mono A.out.size))) (λc=>?_);clear k K
 try simp only[X7,sq]
 refine tk 9 c ?_;refine YH (by kernel_rfl) ?_ _;clear c az G hh X N;obtain⟨d0,d1,d2,d3,d4,d5,d6,d7⟩:=CT J;obtain⟨sb,ax⟩:∃x,i.heap.size=x:=⟨_,rfl⟩;rw[ax] at J d0 d1 d2 d3 d4 d5 d6 d7 |-;have a6:=@run_makeMap Tryz.prog;obtain⟨Vm,aF⟩:∃x,V.alloc (.map #[] 0)=x:=⟨_,rfl⟩;have l:Xn V.heap.size V Vm:=by rw[<-aF];exact(Xo _ _).alloc (Xf _) _
 have ay:Av sk Vm V.heap.size (λ_=>none) 0:=by rw[<-aF];exact Av.made V
 obtain⟨g,au,I,O,aO⟩:=ay.put Tryz.strKey Tryz.underlying64 key (.agg #[]);replace I:Av sk g V.heap.size (Be (λ_=>none) key (.agg #[])) 1:=I;replace au:(Ys 64 (.map (some V.heap.size)) (.string (bs key)) (.agg #[])).run Tryz.prog Vm = .ok () g:=au;obtain⟨j,aH⟩:∃x,V.heap.size=x:=⟨_,rfl⟩;have af:sb<V.heap.size:=(Xa.1 J).1;have aj:∀x,x<V.heap.size->g.heap[x]?=V.heap[x]?:=λx hx=>(O.block x (by have:=l.size;omega) (λe=>by injection e with e;omega)).trans (l.block x hx);obtain⟨d,P⟩:∃x,g.alloc (.cells #[.pointer (some ⟨sb,0,none⟩),.pointer (some ⟨sb,0,none⟩),.map (some j)] 154)=x:=⟨_,rfl⟩;have T:Xn g.heap.size g d:=by rw[<-P];exact(Xo _ _).alloc (Xf _) _
 have kF:d.heap[g.heap.size]?=some (.cells #[.pointer (some ⟨sb,0,none⟩),.pointer (some ⟨sb,0,none⟩),.map (some j)] 154):=by rw[<-P];exact Xi g _
 obtain⟨q,ac⟩:∃x,g.heap.size=x:=⟨_,rfl⟩;obtain⟨t,f,s,Z⟩:=Q.out;have zV:=aa.size;have zm:=l.size;have a4:=f.size;have z2:=h.out.size;have aL:=t.lt;have an:Xn w1.heap.size w1 g:=by
  have a:=h.out.trans (aa.mono h.out.size)
  exact⟨O.os.trans (l.os.trans a.os),O.tape.trans (l.tape.trans a.tape),O.output.trans (l.output.trans a.output),by omega,λx hx=>(aj x (by omega)).trans (a.block x hx)⟩
 have ag:Xn w1.heap.size w1 d:=an.trans (T.mono an.size);have aJ:=t.below ag;have aC:AP d sb (Ab mb) key (min (b:Int) 1) false (.slice none 0 0) (.pointer none) 0 (.pointer none):=(T.block sb (by omega)).trans ((aj sb af).trans J);have ad:=I.same (w':=d) (T.block _ I.lt);rw[ac] at kF;rw[aH] at ad;have aY:=HP.out.2.2.2.2.1.size;have av:Dj d q (Ab sb) sb j:=kF;have HF:=Aa (⟨q,sb,j,mb,rfl,av,aC,ad,aJ,⟨by omega,by omega,by omega,by omega⟩,f.trans (ag.mono f.size)⟩:∃ao Y aq ae,Ending.returned (Value.pointer (some ⟨q,0,none⟩)) = .returned (Ab ao)/\Dj d ao (Ab Y) Y aq/\AP d Y (Ab ae) key (min (b:Int) 1) false (.slice none 0 0) (.pointer none) 0 (.pointer none)/\Av sk d aq (Be (λ_=>none) key (.agg #[])) 1/\AD d ae pd m0/\(w.heap.size<=ao/\w.heap.size<=Y/\w.heap.size<=aq/\w.heap.size<=ae)/\Xn w.heap.size w d);have e1:Vm.cell? ⟨sb,1,none⟩=some (.string (bs key)):=(l.cell (p:=⟨sb,1,none⟩) af).trans d1;replace P:=Aa P;replace ac:=Aa ac;rw[aH] at au;clear aa J l ay I O aO af aj T kF t f s Z zV zm a4 z2 aL an ag aJ aC ad aY av HP Q h A ax
 go_wp2_with fail
 rw[P.out,ac.out]
 go_ret
 exact HF.out
def Cr (x:Int):List Ev->Option (Ev×Ev)
 |[]=>none
 |a::r=>match r.find? (λb=>CU a b x) with
  |some b=>some (a,b)
  |none=>Cr x r
def JN (x:Int) (l:List Ev):Bool:=decide (1<l.countP (λe=>Bx e x))&&l.any (λe=>Bx e x&&e.k == 2)
theorem Ko {α:Type} {q:α->Bool} {l:List α}:l.find? q=none↔∀a,a∈l->q a=false:=by
 rw[List.find?_eq_none]
 exact⟨λh a b=>Bool.eq_false_iff.2 (h a b),λh a b=>by rw[h a b];decide⟩
theorem acC {x:Int} {l:List Ev} (h:l.any (λe=>Bx e x)=false):l.countP (λe=>Bx e x)=0/\l.any (λe=>Bx e x&&e.k == 2)=false:=by
 have h:∀a,a∈l->Bx a x=false:=λa b=>by
  cases e:Bx a x with
  |false=>rfl
  |true=>rw[YE.2 ⟨a,b,e⟩] at h;cases h
 refine⟨List.countP_eq_zero.2 λa b=>by rw[h a b];decide,?_⟩
 cases e:l.any (λe=>Bx e x&&e.k == 2) with
 |false=>rfl
 |true=>
  obtain⟨a,b,c⟩:=YE.1 e;rw[h a b] at c
  cases c
theorem Ou (x:Int):∀l:List Ev,(Cr x l).isSome=JN x l
 |[]=>rfl
 |a::r=>by
  have m:=Ou x r;unfold Cr;unfold JN at m |-;rw[List.countP_cons,List.any_cons]
  cases g:Bx a x with
  |false=>
   have f:r.find? (λb=>CU a b x)=none:=Ko.2 λb _=>by unfold CU;rw[g];rfl
   rw[f];dsimp only;rw[m]
   simp
  |true=>
   cases i:r.any (λe=>Bx e x) with
   |false=>
    obtain⟨y,z⟩:=acC i;have h:∀b,b∈r->Bx b x=false:=λb h=>by
     cases e:Bx b x with
     |false=>rfl
     |true=>rw[YE.2 ⟨b,h,e⟩] at i;cases i
    have f:r.find? (λb=>CU a b x)=none:=Ko.2 λb u=>by unfold CU;rw[g,h b u];rfl
    rw[f];dsimp only;rw[m,y,z]
    simp
   |true=>
    obtain⟨c,o,j⟩:=YE.1 i;have j:Bx c x=true:=j;have A:0<r.countP (λe=>Bx e x):=List.countP_pos_iff.2 ⟨c,o,j⟩;have s:decide (1<r.countP (λe=>Bx e x)+(if true=true then 1 else 0))=true:=decide_eq_true (by rw[if_pos rfl];omega);rw[s,ZK,ZK]
    cases n:r.find? (λb=>CU a b x) with
    |some b=>
     have q:=List.mem_of_find?_eq_some n;have d:CU a b x=true:=List.find?_some (p:=λb=>CU a b x) n;unfold CU at d;rw[g,ZK,Yh,Bool.or_eq_true] at d;show true=_
     rcases d.2 with w|w
     ·rw[w];rfl
     ·rw[YE.2 ⟨b,q,by rw[d.1,w];rfl⟩,Bool.or_true]
    |none=>
     have f:=Ko.1 n;have t:(a.k == 2)=false:=by
      have:=f c o;unfold CU at this;rw[g,j] at this
      cases e:(a.k == 2) with
      |false=>rfl
      |true=>rw[e] at this;cases this
     have v:r.any (λe=>Bx e x&&e.k == 2)=false:=by
      cases e:r.any (λe=>Bx e x&&e.k == 2) with
      |false=>rfl
      |true=>
       obtain⟨b,h,d⟩:=YE.1 e;rw[Yh] at d;have:=f b h;unfold CU at this;rw[g,d.1,d.2] at this
       simp at this
     dsimp only;rw[m,v,t]
     simp
theorem Dt {e:Ev} {x y kk:Int} {a:Tx} (c:e.k=kk) (d:kk≠1/\kk≠2) (h:(a == BH||a == Bl)=false) (f:(a == Bl)=false):Bx e x=((a == BH||a == Bl)&&y == x)/\(e.k == 2)=(a == Bl):=by
 have g:(e.k == 1)=false:=by rw[c];simpa using d.1
 have b:(e.k == 2)=false:=by rw[c];simpa using d.2
 constructor
 ·unfold Bx;rw[g,b,h]
  simp
 ·rw[b,f]
theorem Tj (k:Bool) (s:MS) (t:Nat) (i:Ac) (x:Int):Bx (AT k s t i).2 x=((i.op == BH||i.op == Bl)&&i.x == x)/\((AT k s t i).2.k == 2)=(i.op == Bl):=by
 unfold AT
 by_cases e:i.op=Ex
 ·rw[if_pos e,e];exact Dt (kk:=0) rfl (by decide) (by decide) (by decide)
 rw[if_neg e]
 by_cases l:i.op=ED
 ·rw[if_pos l,l];exact Dt (kk:=0) rfl (by decide) (by decide) (by decide)
 rw[if_neg l]
 by_cases m:i.op=Ew
 ·rw[if_pos m,m];exact Dt (kk:=0) rfl (by decide) (by decide) (by decide)
 rw[if_neg m]
 by_cases f:i.op=Ey
 ·rw[if_pos f,f];exact Dt (kk:=0) rfl (by decide) (by decide) (by decide)
 rw[if_neg f]
 by_cases b:i.op=BH
 ·rw[if_pos b,b];refine⟨?_,rfl⟩;unfold Bx;show (i.x == x&&((1:Int) == 1||(1:Int) == 2))=((BH == BH||BH == Bl)&&i.x == x);rw[show (BH == BH||BH == Bl)=true by decide,show ((1:Int) == 1||(1:Int) == 2)=true by decide,Bool.and_true,ZK]
 rw[if_neg b]
 by_cases a:i.op=Bl
 ·rw[if_pos a,a];refine⟨?_,rfl⟩;unfold Bx;show (i.x == x&&((2:Int) == 1||(2:Int) == 2))=((Bl == BH||Bl == Bl)&&i.x == x);rw[show (Bl == BH||Bl == Bl)=true by decide,show ((2:Int) == 1||(2:Int) == 2)=true by decide,Bool.and_true,ZK]
 rw[if_neg a]
 by_cases d:i.op=Eg
 ·rw[if_pos d,d];exact Dt (kk:=3) rfl (by decide) (by decide) (by decide)
 rw[if_neg d]
 by_cases o:i.op=Ef
 ·rw[if_pos o,o];exact Dt (kk:=4) rfl (by decide) (by decide) (by decide)
 rw[if_neg o]
 by_cases c:i.op=CD
 ·rw[if_pos c,c];exact Dt (kk:=5) rfl (by decide) (by decide) (by decide)
 rw[if_neg c]
 by_cases h:i.op=Ee
 ·rw[if_pos h,h]
  split
  ·exact Dt (kk:=9) rfl (by decide) (by decide) (by decide)
  ·exact Dt (kk:=6) rfl (by decide) (by decide) (by decide)
 rw[if_neg h]
 by_cases g:i.op=Cy
 ·rw[if_pos g,g];exact Dt (kk:=7) rfl (by decide) (by decide) (by decide)
 rw[if_neg g]
 by_cases n:i.op=CE
 ·rw[if_pos n,n];exact Dt (kk:=8) rfl (by decide) (by decide) (by decide)
 rw[if_neg n]
 by_cases r:i.op=Ez
 ·rw[if_pos r,r];exact Dt (kk:=0) rfl (by decide) (by decide) (by decide)
 rw[if_neg r]
 by_cases p:i.op=EB
 ·rw[if_pos p,p];exact Dt (kk:=0) rfl (by decide) (by decide) (by decide)
 rw[if_neg p]
 by_cases q:i.op=EA
 ·rw[if_pos q,q];exact Dt (kk:=0) rfl (by decide) (by decide) (by decide)
 rw[if_neg q]
 by_cases j:i.op=EC
 ·rw[if_pos j,j]
  split
  ·exact Dt (kk:=9) rfl (by decide) (by decide) (by decide)
  ·exact Dt (kk:=0) rfl (by decide) (by decide) (by decide)
 rw[if_neg j];exact Dt (kk:=10) rfl (by decide) (by simp[b,a]) (by simp[a])
def JM (C:List (List Ac)) (m:MS) (x:Int):Bool:=
 let l:=(Bj C m).map λt=>Ci C t.toNat (m.th t.toNat)
 decide (1<l.countP λi=>(i.op == BH||i.op == Bl)&&i.x == x)&&l.any λi=>((i.op == BH||i.op == Bl)&&i.x == x)&&i.op == Bl
def AU (C:List (List Ac)) (m:MS):List Ev:=(Bj C m).map λt=>(AO false C m t).2
theorem UB (C:List (List Ac)) (m:MS) (x:Int):JN x (AU C m)=JM C m x:=by
 unfold JN JM AU;dsimp only;rw[List.countP_map,List.countP_map,List.any_map,List.any_map];have h:∀t,Bx (AO false C m t).2 x=(((Ci C t.toNat (m.th t.toNat)).op == BH||(Ci C t.toNat (m.th t.toNat)).op == Bl)&&(Ci C t.toNat (m.th t.toNat)).x == x)/\((AO false C m t).2.k == 2)=((Ci C t.toNat (m.th t.toNat)).op == Bl):=λt=>Tj false m t.toNat _ x;have b:((λe=>Bx e x) ∘ λt=>(AO false C m t).2)=((λi:Ac=>(i.op == BH||i.op == Bl)&&i.x == x) ∘ λt:Int=>Ci C t.toNat (m.th t.toNat)):=by
  funext t
  exact(h t).1
 have a:((λe=>Bx e x&&e.k == 2) ∘ λt=>(AO false C m t).2)=((λi:Ac=>((i.op == BH||i.op == Bl)&&i.x == x)&&i.op == Bl) ∘ λt:Int=>Ci C t.toNat (m.th t.toNat)):=by
  funext t
  show (Bx (AO false C m t).2 x&&(AO false C m t).2.k == 2)=_;rw[(h t).1,(h t).2]
  rfl
 rw[b,a]
end Go.Proofs.YtdcacoifehkioaaGreatDoor
namespace Go.Proofs.YtdcacoifehkioaaGreatDoor
open Go.RowKit Go.Proofs.Cod
section
variable {w w':Xg} {b:Nat} {p:PD} {s:MS}
theorem OM (h:AD w b p s) (n:BL p) (z:Bt p s) :
 X3 Tryz.prog 15 #[Ab b] w λe w'=>∃v,e = .returned v/\w'.ownsRow w.heap.size 3 1 v (Bj p.C s).length ((Bj p.C s).map EI)/\Xn w.heap.size w w':=by
 have S:=JZ h;have y:s.thr.length=p.ts.length:=by rw[z.tl,n.tc]
 have T:p.ts.length<=4:=by rw[n.tc];exact n.fit.four
 have E:=Aa (fun(w':Xg) (Q:Xn w.heap.size w w') (t:Int)=>OL (h.below Q) n z t);replace y:=Aa y;unfold Bj;rw[y.out];clear h n z y;unfold Ab at *
 go_enter Tryz.func15,Tryz.ntmps15
 go_wp2_with fail
 go_loopw [3,9] (λK B wr=>∃i:Nat,i<=p.ts.length/\B = .int .i64 i/\wr.ownsRow w.heap.size 3 1 K (Dx p.C s i).length ((Dx p.C s i).map EI)/\Xn w.heap.size w wr) (λ_ B _=>p.ts.length - (intOf B).toNat)
 case atStart=>exact⟨0,XD _,rfl,World.ownsRow_nil _ _ _ _,Xo _ _⟩
 case round=>
  obtain⟨i,O,rfl,c,d⟩:=hrel;have k:=Lx p.C s i;have f:=Aa (Uy p.C s i);obtain⟨l,o⟩:∃l,Dx p.C s i=l:=⟨_,rfl⟩;rw[o] at c k f;replace o:=Aa o;obtain⟨la,lc,rfl⟩:=At c
  by_cases j:i<p.ts.length
  ·have R:(i:Int)<(p.ts.length:Int):=by omega
   have u:wrap64 ((i:Int)+1)=(i:Int)+1:=by unfold wrap64;omega
   have D:=E.out wr d i;obtain⟨q,F⟩:∃q,AK p.C s (i:Int)=q:=⟨_,rfl⟩;rw[F] at D f;have I:=Aa (⟨c,d,j,k⟩:_/\_/\_/\_);clear c d j O o F k E
   go_wp2_with fail
   refine D.mono ?_;rintro e M ⟨rfl,A⟩;obtain⟨c,d,j,k⟩:=I.out;have x:M.ownsRow w.heap.size 3 1 (.slice la l.length lc) l.length (l.map EI):=Bg c λg e=>A.block g (c.lt g e).2;have m:=d.trans (A.mono d.size);clear c d I D A
   cases J:q == 0 with
   |true=>
    have r:q=0:=by simpa using J
    obtain⟨g,cap,w3,N,G,H⟩:=QA x (i:Int) (by omega) m.size;have a:=Aa (⟨G,m.trans (H _ (Xf _)),j⟩:_/\_/\_);replace f:Hid (Dx p.C s (i+1)=l++[(i:Int)]):=by unfold Hid;rw[f.out,if_pos r]
    clear G m H j k x r
    go_wp2_with (at_builtin;refine Eq rfl _ _ _ rfl rfl rfl rfl N ?_)
    go_roundw
    case rel=>
     (try rw[u])
     refine⟨i+1,a.out.2.2,rfl,?_,a.out.2.1⟩;rw[f.out];exact a.out.1
    case measure=>
     (try rw[u])
     exact Xs a.out.2.2 (Xt i)
   |false=>
    have r:q≠0:=by simpa using J
    have a:=Aa (⟨x,m,j⟩:_/\_/\_);replace f:Hid (Dx p.C s (i+1)=l):=by unfold Hid;rw[f.out,if_neg r]
    clear m j k x r
    go_wp2_with fail
    go_roundw
    case rel=>
     (try rw[u])
     refine⟨i+1,a.out.2.2,rfl,?_,a.out.2.1⟩;rw[f.out];exact a.out.1
    case measure=>
     (try rw[u])
     exact Xs a.out.2.2 (Xt i)
  ·have P:i=p.ts.length:=by omega
   subst P;have a:=Aa (⟨c,d⟩:_/\_);clear c d E
   go_wp2_with fail
   go_ret
   rw[o.out]
   exact⟨_,rfl,a.out⟩
end
section
variable {w w':Xg} {b:Nat} {p:PD} {s:MS}
theorem abZ (h:AD w b p s):X3 Tryz.prog 115 #[Ab b] w λe w'=>e = .returned (Ab w.heap.size)/\AD w' w.heap.size p s/\Xn w.heap.size w w':=by
 have a:Ak (w.alloc (.cells Tryz.zeroCells117 117)) w.heap.size 117 856 (λk=>Tryz.zeroCells117.getD k undef):=by
  have:=Ak.new (f:=λk=>Tryz.zeroCells117.getD k undef) w Tryz.zeroCells117 117 (λk n=>by rw[Array.getD_eq_getD_getElem?,Array.getElem?_eq_getElem n];rfl);rw[Tryz.zeroCells117_size] at this;exact this
 have l:∀j,j<856->w.cell? ⟨b,0+j,none⟩=some (Au p s j):=λj r=>by rw[X8];exact h.cell r
 have g:∀j,j<(((Yt 856).map (Au p s)).toArray).size->((w.alloc (.cells Tryz.zeroCells117 117)).cell? ⟨w.heap.size,0+j,none⟩).isSome=true:=λj r=>by rw[X8,a.cell (by simpa using r)];rfl
 have d:∀j,j<(((Yt 856).map (Au p s)).toArray).size->(w.alloc (.cells Tryz.zeroCells117 117)).frozen? ⟨w.heap.size,0+j,none⟩=false:=λj _=>a.frozen _;have i:=IU (Au p s) 856 (Wg p s);have m:(((Yt 856).map (Au p s)).toArray).size=856:=by simp
 obtain⟨R,c⟩:∃R,((Yt 856).map (Au p s)).toArray=R:=⟨_,rfl⟩;rw[c] at g d i m;have o:(Tryz.prog.info? 117).map (·.size)=some R.size:=by rw[m];exact Tryz.sizeMc
 have t:=Aa (⟨a,h⟩:_/\_);replace l:=Aa l;replace g:=Aa g;replace d:=Aa d;replace i:=Aa i;replace o:=Aa o;replace c:=Aa c;clear a h m;unfold Ab
 go_enter Tryz.func115,Tryz.ntmps115
 go_wp2_with (first|(refine KW rfl _ _ rfl b 0 856 rfl (Au p s) _ l.out Tryz.underlying117 rfl Tryz.sizeMc ?_;rw[c.out];simp only[X7,XK,X5,X6])|(refine Ha rfl _ _ _ rfl w.heap.size 0 R rfl rfl g.out d.out o.out i.out ?_;simp only[X7,XK,X5,X6]))
 go_ret
 obtain⟨a,h⟩:=t.out;have q:=Fx (S:=λ_=>False) (w:=w) (b:=w.heap.size) R.toList 0 (Ae.CK ((Xo w.heap.size w).alloc (Xf _) (.cells Tryz.zeroCells117 117))) (.inr (Xf _));refine⟨rfl,?_,⟨q.os,q.tape,q.output,q.size,λk n=>q.block k n id⟩⟩;rw[<-c.out];exact a.fill
end
end Go.Proofs.YtdcacoifehkioaaGreatDoor
namespace Go.Proofs.YtdcacoifehkioaaGreatDoor
open Go.RowKit Go.Shelf Go.Proofs.Cod
structure Ad where
 b:Nat
 m:MS
 mb:Nat
 fr:Option Nat
 y:Int
 mo:Xj
def CR:Option Nat->Xj
 |none=>.pointer none
 |some b=>Ab b
def Eh (C:List (List Ac)) (i k j:Nat) (m:MS):List Ev:=if j<i then AU C m else if j=i then(AU C m).take k else []
def DR (R:List Ad) (j:Nat):Xj:=CR ((R[j+1]?).map Ad.b)
def EY (p:PD) (R:List Ad):List Tx:=R.map λr=>Aj p r.m
structure FW (w:Xg) (p:PD) (base fb kb:Nat) (R:List Ad) (i k:Nat):Prop where
 fo:∃(r0 rl:Ad),R[0]?=some r0/\R[R.length - 1]?=some rl/\Dj w fb (Ab r0.b) rl.b kb
 km:∃fk,Av sk w kb fk R.length/\(∀x u,fk x=some u->u = .agg #[])/\(∀x,(fk x).isSome=true↔x∈EY p R)
 st:∀(j:Nat) (r:Ad),R[j]?=some r->AP w r.b (if j<i then .pointer none else Ab r.mb) (Aj p r.m) (AB r.m) (Bf r.m) r.mo (CR r.fr) r.y (DR R j)
 ma:∀(j:Nat) (r:Ad),R[j]?=some r->i<=j->AD w r.mb p r.m
 mo:∀(j:Nat) (r:Ad),R[j]?=some r->w.ownsRow base 48 4 r.mo (Eh p.C i k j r.m).length ((Eh p.C i k j r.m).flatMap Dg)
 mn:∀(j:Nat) (r:Ad),R[j]?=some r->i<j\/(j=i/\k=0)->r.mo = .slice none 0 0
 ok:∀(j:Nat) (r:Ad),R[j]?=some r->Bt p r.m
 ap:∀(j j':Nat) (r r':Ad),R[j]?=some r->R[j']?=some r'->r.b=r'.b->j=j'
 am:∀(j j':Nat) (r r':Ad) (x:Nat),R[j]?=some r->R[j']?=some r'->r.mo.ownBlock=some x->r'.mo.ownBlock=some x->j=j'
 lo:base<=fb/\base<=kb/\∀(j:Nat) (r:Ad),R[j]?=some r->base<=r.b/\base<=r.mb
 way:∀(j:Nat) (r:Ad),R[j]?=some r->(j=0/\r.fr=none/\r.m=BO p.vs.length p.fs.length p.ls.length p.C.length)\/∃(j':Nat) (r':Ad),j'<j/\R[j']?=some r'/\r.fr=some r'.b/\AK p.C r'.m r.y=0/\r.m=(AO false p.C r'.m r.y).1
def CP (fb kb:Nat) (R:List Ad) (i:Nat) (x:Nat):Prop:=x=fb\/x=kb\/∃(j:Nat) (r:Ad),R[j]?=some r/\(x=r.b\/(i<=j/\x=r.mb)\/r.mo.ownBlock=some x)
theorem Eu {w w':Xg} {base e a n:Nat} {v:Xj} {b:List Xj} (h:w.ownsRow base e a v n b) (c:∀x,v.ownBlock=some x->w'.heap[x]?=w.heap[x]?):w'.ownsRow base e a v n b:=by
 refine⟨h.1,?_⟩
 rcases h.2 with q|⟨g,cap,i,rfl,f,j,d⟩
 ·exact .inl q
 ·exact .inr ⟨g,cap,i,rfl,f,(c g rfl).trans j,d⟩
theorem abu {w:Xg} {base:Nat} {v:Xj} {l:List Ev} (h:w.ownsRow base 48 4 v l.length (l.flatMap Dg)) (x:Ev) (r:l.length<1048576) (o:base<=w.heap.size) :
 ∃g cap w',(Builtin.append_ #[73,73] 73 #[v,.slice (some ⟨w.heap.size,0,none⟩) 1 1]).run Tryz.prog (w.alloc (.cells (CM x) 48)) = .ok (.slice (some ⟨g,0,none⟩) (l.length+1) cap) w'/\
  w'.ownsRow base 48 4 (.slice (some ⟨g,0,none⟩) (l.length+1) cap) (l++[x]).length ((l++[x]).flatMap Dg)/\Ae (λk=>v.ownBlock=some k) w w'/\(v.ownBlock=some g\/w.heap.size<=g):=by
 obtain⟨t,i,q,j,n⟩:=info_parts Tryz.infoEv;obtain⟨g,cap,w',b,p,d,f,m,s,rb,c⟩:=IX h Tryz.underlying73 i q j n rfl (by omega) (Dg x) rfl (by intro u a;simp only[Dg,CM,List.mem_cons,List.not_mem_nil,or_false] at a;rcases a with rfl|rfl|rfl|rfl<;>rfl) 73 r o;refine⟨g,cap,w',b,?_,⟨d,f,m,by omega,rb⟩,c.imp id (λe=>by omega)⟩;rw[Xd,XZ];have e:List.flatMap Dg [x]=Dg x:=by simp
 rw[e];exact p
section
variable {w w':Xg} {p:PD} {base fb kb i k:Nat} {R:List Ad}
theorem FW.lt (h:FW w p base fb kb R i k) {x:Nat} (d:CP fb kb R i x):x<w.heap.size:=by
 rcases d with rfl|rfl|⟨j,r,a,rfl|⟨c,rfl⟩|e⟩
 ·obtain⟨m,l,-,-,b⟩:=h.fo
  exact(Xa.1 b).1
 ·obtain⟨g,f,-⟩:=h.km;exact f.lt
 ·exact(Xa.1 (h.st j r a)).1
 ·exact(h.ma j r a c).lt
 ·exact((h.mo j r a).lt x e).2
theorem FW.same (h:FW w p base fb kb R i k) (b:∀x,CP fb kb R i x->w'.heap[x]?=w.heap[x]?):FW w' p base fb kb R i k:=by
 refine⟨?_,?_,λj r a=>(b _ (.inr (.inr ⟨j,r,a,.inl rfl⟩))).trans (h.st j r a),λj r a d=>(h.ma j r a d).same (b _ (.inr (.inr ⟨j,r,a,.inr (.inl ⟨d,rfl⟩)⟩))),λj r a=>Eu (h.mo j r a) (λx e=>b x (.inr (.inr ⟨j,r,a,.inr (.inr e)⟩))),h.mn,h.ok,h.ap,h.am,h.lo,h.way⟩
 ·obtain⟨m,l,o,c,f⟩:=h.fo
  exact⟨m,l,o,c,(b fb (.inl rfl)).trans f⟩
 ·obtain⟨g,n,c⟩:=h.km
  exact⟨g,n.same (b kb (.inr (.inl rfl))),c⟩
theorem FW.below (h:FW w p base fb kb R i k) (a:Xn w.heap.size w w'):FW w' p base fb kb R i k:=h.same λx b=>a.block x (h.lt b)
theorem FW.keep {S:Nat->Prop} (h:FW w p base fb kb R i k) (b:Ae S w w') (c:∀x,CP fb kb R i x->¬S x):FW w' p base fb kb R i k:=h.same λx a=>b.block x (h.lt a) (c x a)
theorem FW.kinds (h:FW w p base fb kb R i k):fb≠kb/\(∀(j:Nat) (r:Ad),R[j]?=some r->r.b≠fb/\r.b≠kb/\(∀x,r.mo.ownBlock=some x->x≠fb/\x≠kb))/\(∀(j s:Nat) (r r':Ad),R[j]?=some r->R[s]?=some r'->(i<=s->r.b≠r'.mb)/\(∀x,r'.mo.ownBlock=some x->x≠r.b/\(i<=j->x≠r.mb)))/\(∀(j:Nat) (r:Ad),R[j]?=some r->i<=j->r.mb≠fb/\r.mb≠kb):=by
 obtain⟨H,G,-,-,o⟩:=h.fo;obtain⟨I,⟨J,F,z,-⟩,-⟩:=h.km;have A:∀(j:Nat) (r:Ad) (x:Nat),R[j]?=some r->r.mo.ownBlock=some x->∃l,w.heap[x]?=some (.cells l 48 (0,0)):=λj r x c d=>by
  rcases (h.mo j r c).2 with⟨q,-⟩|⟨g,cap,l,q,-,u,-⟩
  ·rw[q] at d;cases d
  ·rw[q] at d
   cases d
   exact⟨l,u⟩
 have B:∀(j:Nat) (r:Ad),R[j]?=some r->i<=j->∃l,w.heap[r.mb]?=some (.cells l 117):=λj r c n=>by
  obtain⟨cs,C,-⟩:=h.ma j r c n
  exact⟨cs,C⟩
 have v:∀{x:Nat} {a b:Array Xj} {t t':Nat} {f f':Nat×Nat},w.heap[x]?=some (.cells a t f)->w.heap[x]?=some (.cells b t' f')->t=t':=λC u=>by
  rw[C] at u;injection u with u
  injection u
 unfold Dj at o;have y:=h.st;unfold AP at y;refine⟨λe=>?_,λj r c=>⟨λe=>?_,λe=>?_,λx d=>⟨λe=>?_,λe=>?_⟩⟩,λj s r r' c D=>⟨λn e=>?_,λx d=>⟨λe=>?_,λn e=>?_⟩⟩,λj r c n=>⟨λe=>?_,λe=>?_⟩⟩
 ·rw[e,z] at o;cases o
 ·have q:=y j r c;rw[e] at q;exact absurd (v q o) (by decide)
 ·have q:=y j r c;rw[e,z] at q;cases q
 ·obtain⟨l,q⟩:=A j r x c d;rw[e] at q;exact absurd (v q o) (by decide)
 ·obtain⟨l,q⟩:=A j r x c d;rw[e,z] at q;cases q
 ·have q:=y j r c;obtain⟨l,m⟩:=B s r' D n;rw[e] at q;exact absurd (v q m) (by decide)
 ·obtain⟨l,q⟩:=A s r' x D d;rw[e] at q;exact absurd (v q (y j r c)) (by decide)
 ·obtain⟨l,q⟩:=A s r' x D d;obtain⟨E,m⟩:=B j r c n;rw[e] at q;exact absurd (v q m) (by decide)
 ·obtain⟨E,m⟩:=B j r c n;rw[e] at m;exact absurd (v m o) (by decide)
 ·obtain⟨E,m⟩:=B j r c n;rw[e,z] at m;cases m
end
theorem aar:∀(l r:Tx),(10:UInt8)∉l->Lib.index (l++10::r) [10]=l.length:=by
 intro l
 induction l with
 |nil=>
  intro r _;unfold Lib.index
  simp
 |cons a l c=>
  intro r h;have d:a≠10:=λe=>h (by rw[e];exact Yc ..);have f:(10:UInt8)∉l:=λe=>h (Yk _ e);have:=c r f;rw[List.cons_append];unfold Lib.index;have b:([10]:List UInt8).isPrefixOf (a::(l++10::r))=false:=by
   have:((10:UInt8) == a)=false:=by simpa using λe:(10:UInt8)=a=>d e.symm
   simp[List.isPrefixOf,this]
  rw[if_neg (by rw[b];decide),this,if_neg (by simp),Xw]
  omega
theorem NR:∀(ls:List Tx) (r:Tx),(∀l,l∈ls->(10:UInt8)∉l)->Lib.splitK [10] 0 ls.length (ls.flatMap (λl=>l++[10])++r)=ls++[r]
 |[],r,_=>rfl
 |l::ls,r,h=>by
  have b:=h l (Yc ..);have e:(l::ls).flatMap (λl=>l++[10])++r=l++10::(ls.flatMap (λl=>l++[10])++r):=by simp
  rw[e,Xw];unfold Lib.splitK;rw[aar _ _ b];rw[if_neg (by simp)];rw[Int.toNat_natCast,Nat.add_zero,List.take_left' rfl];have d:(l++10::(ls.flatMap (λl=>l++[10])++r)).drop (l.length+[(10:UInt8)].length)=ls.flatMap (λl=>l++[10])++r:=by
   rw[<-List.drop_drop,List.drop_left' rfl]
   rfl
  rw[d,NR ls r (λx a=>h x (Yk _ a))]
  rfl
end Go.Proofs.YtdcacoifehkioaaGreatDoor
namespace Go.Proofs
open Go.Shelf
shelf_lay Lays.n147 Nm 147 at Tryz as Tryz.lays147
shelf_lay Lays.n156 Nm 156 at Tryz as Tryz.lays156
theorem Tryz.hi147:(Tryz.prog.info? (Tryz.lays147_ren.t 9)).map (λi=>(i.zero,i.size,i.bytes))=some (some (.string ByteArray.empty),1,16):=by kernel_rfl
theorem Tryz.extra156:Builder.Extra Tryz.prog Tryz.lays156_ren where
 sizeBuilder:=by kernel_rfl
 liesBuilder:=by kernel_rfl
 t5:=by kernel_rfl
 a5:=λw=>by kernel_rfl
 z5:=λw=>by kernel_rfl
 v5:=λw=>by kernel_rfl
 infoByte:=by kernel_rfl
 cellsByte:=by kernel_rfl
 sizeByte:=by kernel_rfl
 neB5:=by decide
end Go.Proofs
namespace Go.Proofs.YtdcacoifehkioaaGreatDoor
open Go.RowKit Go.Shelf Go.Proofs.Cod
theorem Tryz.infoStrX:(Tryz.prog.info? 9).map (λi=>(i.zero,i.size,i.bytes))=some (some (.string ByteArray.empty),1,16):=by kernel_rfl
def LX (nm v:Tx):Tx:=nm++[61]++v
def GF (T:Int->Tx) (ns:List Tx) (l:List Int):List Tx:=(Yt ns.length).map λk=>LX (ns.getD k []) (T (l.getD k 0))
def Bb (p:PD) (m:MS):List Tx:=GF Yy p.vs m.vars++GF Yy p.fs m.flags
def Er:Tx:=[115,116,117,99,107]
def BD (p:PD) (m:MS):Tx:=YP (Bb p m++if 0<AB m then [Er] else []) [32]
structure Gt (p:PD):Prop where
 v:∀k,(10:UInt8)∉p.vs.getD k []
 f:∀k,(10:UInt8)∉p.fs.getD k []
theorem PN (T:Int->Tx) (a:List Tx) (l:List Int):(GF T a l).flatMap (λx=>x++[10])=BY T a l a.length:=by
 unfold GF BY;rw[List.flatMap_map]
 rfl
theorem PM (T:Int->Tx) (a:List Tx) (l:List Int):(GF T a l).length=a.length:=by unfold GF;rw[List.length_map,List.length_range]
theorem IW (p:PD) (m:MS):(Bb p m).length=p.vs.length+p.fs.length:=by unfold Bb;rw[Xd,PM,PM]
theorem Lg (p:PD) (m:MS):∃r,Aj p m=(Bb p m).flatMap (λx=>x++[10])++r:=by
 refine⟨BY (Do p.ts) p.ls m.locks p.ls.length++Dk p m p.ts.length,?_⟩;unfold Aj Bb;rw[XZ,PN,PN,List.append_assoc]
theorem GK:∀n:Int,0<=n->n<1000->(10:UInt8)∉Yy n:=by
 intro n b a;have key:∀k:Fin 1000,(10:UInt8)∉Yy (k.val:Int):=by decide +kernel
 obtain⟨k,rfl⟩:∃k:Nat,n=k:=⟨n.toNat,by omega⟩;exact key ⟨k,by omega⟩
theorem Pa {p:PD} {m:MS} (g:Gt p) (e:Bt p m):∀x,x∈Bb p m->(10:UInt8)∉x:=by
 intro x a;have i:∀k,0<=m.vars.getD k 0/\m.vars.getD k 0<1000:=DY e.vv;have d:∀k,0<=m.flags.getD k 0/\m.flags.getD k 0<1000:=DY e.fv;unfold Bb GF LX at a;rw[XX,Yg,Yg] at a
 rcases a with⟨k,-,rfl⟩|⟨k,-,rfl⟩
 ·have b:=g.v k;have c:=GK _ (i k).1 (i k).2;simp only[XX,XR]
  rintro((h|h)|h)
  ·exact b h
  ·exact absurd h (by decide)
  ·exact c h
 ·have b:=g.f k;have c:=GK _ (d k).1 (d k).2;simp only[XX,XR]
  rintro((h|h)|h)
  ·exact b h
  ·exact absurd h (by decide)
  ·exact c h
theorem QP:∀l:List Tx,l.length<=(l.flatMap (λx=>x++[10])).length
 |[]=>Xf _
 |a::l=>by
  rw[XP,Xd,Xd,Xw];have:=QP l;show l.length+1<=a.length+1+_
  omega
theorem Tt {p:PD} {m:MS} (f:Gt p) (c:Bt p m):∃r,Lib.splitB ⟨#[10]⟩ 0 (p.vs.length+p.fs.length) (bs (Aj p m))=(Bb p m++[r]).map bs/\p.vs.length+p.fs.length<=(bs (Aj p m)).size:=by
 obtain⟨r,b⟩:=Lg p m;refine⟨r,?_,?_⟩
 ·have e:=Lib.splitB_data ⟨#[10]⟩ 0 (p.vs.length+p.fs.length) (bs (Aj p m));have d:(bs (Aj p m)).data.toList=Aj p m:=by unfold bs;rfl
  have h:(⟨#[10]⟩:ByteArray).data.toList=[10]:=rfl;rw[d,h,b,<-IW p m,NR _ _ (Pa f c),IW] at e;rw[b] at *;rw[<-e,List.map_map];have:∀l:List ByteArray,l.map (bs ∘ λx=>x.data.toList)=l:=λl=>by
   induction l with
   |nil=>rfl
   |cons a l g=>rw[List.map_cons,g];show bs a.data.toList::l=a::l;rw[RE]
  rw[this]
 ·rw[AY,b,Xd,<-IW p m];have:=QP (Bb p m)
  omega
theorem Kh (ls:List Tx):(YP ls [32]).length<=(ls.flatMap (λx=>x++[10])).length:=by
 unfold YP
 match ls with
 |[]=>exact Xf _
 |[a]=>simp[List.intercalate]
 |a::b::l=>
  have c:=Kh (b::l);unfold YP at c;have e:([32]:Tx).intercalate (a::b::l)=a++[32]++([32]:Tx).intercalate (b::l):=by simp[List.intercalate]
  rw[e,Xd,Xd,XP,Xd,Xd];show a.length+1+_<=a.length+1+_
  omega
def EL (s:PS):Prop:=∀k x,x∈s.nms k->Ar x=true
theorem EL.new:EL PS.new:=λk x h=>by cases h
section
variable {s s':PS}
theorem Rp {kd:Int} {ts:List Tx} (h:EL s) (e:Bq kd ts s = .ok s'):EL s':=by
 unfold Bq at e
 split at e
 ·cases e
 ·rename_i d
  split at e
  ·cases e
  ·rename_i p c
   split at e
   ·cases e
   ·rename_i j
    cases e
    have i:=Kt c;intro k x a;have a:x∈AM s.nms kd p.2 k:=a
    by_cases b:k=kd
    ·subst b;rw[BC,i] at a
     rcases XX.1 a with a|a
     ·exact h k x a
     ·have f:ts.all Ar=true:=by
       cases g:ts.all Ar with
       |true=>rfl
       |false=>exact absurd (.inr (.inr g)) d
      exact Zi.1 f x a
    ·rw[BM _ b] at a;exact h k x a
theorem aal {line:Int} {f:Tx} {ts:List Tx} {b:PB} (h:EL s) (e:Dn line f ts s b = .ok s'):EL s':=by
 unfold Dn at e
 split at e
 ·cases e
 ·split at e
  ·cases e
  ·split at e
   ·cases e
   ·split at e
    ·cases e
    ·cases e
     exact h
theorem Tn {line:Int} {f:Tx} {ts:List Tx} (h:EL s) (e:stepT line f ts s = .ok s'):EL s':=by
 unfold stepT at e
 split at e
 ·split at e
  ·cases a:Bq 116 ts s with
   |error x=>rw[a] at e;cases e
   |ok b=>
    rw[a] at e
    cases e
    have q:=Rp h a;exact q
  ·cases e
 ·split at e
  ·exact Rp h e
  ·split at e
   ·unfold EF at e
    split at e
    ·cases e
    ·split at e
     ·cases e
     ·cases e
      exact h
   ·exact aal h e
theorem PT:∀(ls:List Tx) (n:Int) (s s':PS),EL s->BP ls n s = .ok s'->EL s'
 |[],_,s,s',h,e=>by
  have e:Except.ok s=Except.ok s':=e
  cases e;exact h
 |l::ls,n,s,s',h,e=>by
  unfold BP at e
  cases a:BJ (n+1) l s with
  |error x=>rw[a] at e;cases e
  |ok b=>
   rw[a] at e;refine PT ls (n+1) b s' ?_ e;unfold BJ at a
   split at a
   ·cases a;exact h
   ·exact Tn h a
end
theorem LF {t:Tx} {s:PS} {C:List (List Ac)} (h:Bk t = .ok (s,C)):EL s:=by
 unfold Bk at h
 split at h
 ·cases h
 ·unfold Dc at h
  split at h
  ·cases h
  ·rename_i d a
   split at h
   ·cases h
   ·rename_i b c
    cases h
    exact PT _ _ _ _ EL.new a
theorem VR {t:Tx} (h:Ar t=true):(10:UInt8)∉t:=by
 intro a;unfold Ar at h;simp only[Yh] at h;have:=Zi.1 h.1.2 10 a
 revert this
 decide
theorem Mr {l:List Tx} (h:∀x,x∈l->Ar x=true) (k:Nat):(10:UInt8)∉l.getD k []:=by
 by_cases e:k<l.length
 ·exact VR (h _ (CF e))
 ·rw[List.getD_eq_getElem?_getD,List.getElem?_eq_none (by omega)];intro a
  cases a
theorem Po {t:Tx} {s:PS} {C:List (List Ac)} {L:List (Tx×Xj)} (h:Bk t = .ok (s,C)):Gt (Al (s.nms 118) (s.nms 102) (s.nms 109) L C):=
 ⟨Mr (LF h 118),Mr (LF h 102)⟩
section
variable {p:PD} {s:MS}
theorem NB (a:∀t,t<p.ts.length->(Du (p.ts.getD t []) (s.th t)).length<=200):∀i,i<=p.ts.length->(Dk p s i).length<=i*200
 |0,_=>by rw[KZ];exact XD _
 |i+1,hi=>by
  rw[JD];exact PY (NB a i (by omega)) (a i (by omega))
theorem NX (a:BL p) (b:DK p) (c:Bt p s):(Aj p s).length<4294967000:=by
 have g:∀k,0<=s.vars.getD k 0/\s.vars.getD k 0<1000:=DY c.vv;have d:∀k,0<=s.flags.getD k 0/\s.flags.getD k 0<1000:=DY c.fv;have j:=GH Yy p.vs s.vars p.vs.length b.v (λk=>EH (g k).1 (g k).2);have r:=GH Yy p.fs s.flags p.fs.length b.f (λk=>EH (d k).1 (d k).2);have o:=GH (Do p.ts) p.ls s.locks p.ls.length b.l (λk=>Mn b.t _);have m:=a.v;have n:=a.f;have q:=a.l;have u:p.ts.length<=4:=by rw[a.tc];exact a.fit.four
 have h:∀t,t<p.ts.length->(Du (p.ts.getD t []) (s.th t)).length<=200:=λt e=>ND b.t (c.th t (by rw[<-a.tc];exact e)) (a.fit.code _ (CF (by rw[<-a.tc];exact e))).1;have i:=NB h p.ts.length (Xf _);unfold Aj;simp only[Xd]
 omega
end
end Go.Proofs.YtdcacoifehkioaaGreatDoor
