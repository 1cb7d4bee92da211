import Derived.Test.YtdcacoifehkioaaGreatDoorExR3
import Derived.Test.YtdcacoifehkioaaGreatDoorExR18
import Derived.Test.YtdcacoifehkioaaGreatDoorExR15
import Derived.Test.YtdcacoifehkioaaGreatDoorExR16
import Derived.Test.YtdcacoifehkioaaGreatDoorExR14
import Derived.Test.YtdcacoifehkioaaGreatDoorExR17
import Derived.Deep.Cut
import Derived.Deep.DeepCutAuto
open Go.Value renaming slice->YN,tuple->adK
open Go renaming Value->Xj,World->Xg,Calls->X3,wp_region_held_drew->XV,wpAnyH_done->YH,bodyPost_ret->XN,heap_setCell_same->Xk
open List renaming mem_cons->XL,getD_eq_getElem?_getD->Xb,length_map->Xm,map_cons->YZ,append_nil->Yf,foldl_cons->Zf,append_assoc->Xx,mem_cons_self->Yc,map_append->XH,mem_append_left->YM,mem_iff_getElem?->ZX,getElem?_eq_some_iff->Xe,getElem?_append_left->Xv,set_cons_zero->X6,countP_cons->acN,set_cons_succ->X5,any_cons->ZM,any_eq_true->YE
open Go.RowKit renaming Below->Xn,wrap64->Ya
open Go.RowKit.Below renaming refl->Xo
open Nat renaming le_refl->Xf,zero_add->X8,le_trans->Xu
open Go.World renaming alloc_heap_new->Xi,cell?->Xh,frozen?->XE
open Array renaming getElem?_eq_some_iff->Xa
open Go.Value.tuple renaming injEq->ad1
open Go.Act renaming put->X7
set_option maxRecDepth 100000
set_option maxHeartbeats 2000000
set_option linter.unusedVariables false
set_option linter.unusedSimpArgs false
namespace Go.Proofs.YtdcacoifehkioaaGreatDoor
open Go.RowKit Go.Shelf Go.Proofs.Cod
theorem Vt {t:Tx} {a b:Int} (h:Bk t = .error (a,b)):a≠0:=by
 unfold Bk at h
 split at h
 ·cases h;decide
 ·exact Pg h
theorem JT {a b c d:Option Addr} {g k h i m j l f:Nat}:∀v∈(#[YN a g m,.slice b k j,.slice c h l,.slice d i f]:Array Xj).toList,v.oneCell'=true:=by
 intro v e;simp only[XL,List.not_mem_nil,or_false] at e
 rcases e with rfl|rfl|rfl|rfl<;>rfl
theorem Wu (t:Tx) {w:Xg} {B:Nat} (ht:Cn w B) (hB:B<=w.heap.size):X3 Tryz.prog 6 #[.string (bs t)] w (Sf w t):=by
 obtain⟨W1,ap⟩:∃W1,(w.alloc (.cells #[.slice none 0 0,.slice none 0 0,.slice none 0 0,.slice none 0 0] 25)).alloc (.cells #[.slice none 0 0,.slice none 0 0,.slice none 0 0,.slice none 0 0] 28)=W1:=⟨_,rfl⟩;have aN:W1.heap.size=w.heap.size+1+1:=by rw[<-ap];show ((w.heap.push _).push _).size=_;simp
 have aR:(w.alloc (.cells #[.slice none 0 0,.slice none 0 0,.slice none 0 0,.slice none 0 0] 25)).heap.size=w.heap.size+1:=by show (w.heap.push _).size=_;simp
 have Z:Xn w.heap.size w W1:=by rw[<-ap];exact((Xo _ _).alloc (Xf _) _).alloc (by rw[aR];omega) _
 have aF:W1.heap[w.heap.size]?=some (.cells #[.slice none 0 0,.slice none 0 0,.slice none 0 0,.slice none 0 0] 25):=by
  rw[<-ap,Below.heap_alloc _ _ _ (by rw[aR];omega)];exact Xi w _
 have aD:W1.heap[w.heap.size+1]?=some (.cells #[.slice none 0 0,.slice none 0 0,.slice none 0 0,.slice none 0 0] 28):=by
  have q:=Xi (w.alloc (.cells #[.slice none 0 0,.slice none 0 0,.slice none 0 0,.slice none 0 0] 25)) (.cells #[.slice none 0 0,.slice none 0 0,.slice none 0 0,.slice none 0 0] 28);rw[aR,ap] at q;exact q
 have aX:=ht.keep (Z.mono hB);have bX:=ht.lt;have hP:=Pd t W1 aX.heads aX.shapes (by show 2<_;omega) (by show 3<_;omega);have H1:=Aa (⟨aN,Z,aF,aD⟩:_/\_/\_/\_);clear ht hB aN aR Z aF aD aX bX
 go_enter Tryz.func6,Tryz.ntmps6
 go_wp2_with fail
 try rw[ap]
 refine hP.mono ?_;intro e R hr;obtain⟨au,er,ln,vV,fV,lV,b8,vs,fs,ls,L,C,rfl,ac,ao⟩:=Vp hr;obtain⟨⟨x,E,A,rfl⟩,⟨y,p,z,rfl⟩,⟨D,m,u,rfl⟩,⟨r,o,i,rfl⟩⟩:(∃a n c,vV = .slice a n c)/\(∃a n c,fV = .slice a n c)/\(∃a n c,lV = .slice a n c)/\(∃a n c,b8 = .slice a n c):=by
  obtain⟨M,G,e1⟩:=At ac.v;obtain⟨J,H,e2⟩:=At ac.f;obtain⟨F,N,e3⟩:=At ac.l;obtain⟨O,I,e4⟩:=At ac.t
  exact⟨⟨_,_,_,e1⟩,⟨_,_,_,e2⟩,⟨_,_,_,e3⟩,⟨_,_,_,e4⟩⟩
 obtain⟨W3,aW⟩:∃W3,R.alloc (.cells #[.slice x E A,.slice y p z,.slice D m u,.slice r o i] 25)=W3:=⟨_,rfl⟩;have aj:Xn R.heap.size R W3:=by rw[<-aW];exact(Xo _ _).alloc (Xf _) _
 have ay:W3.heap[R.heap.size]?=some (.cells #[.slice x E A,.slice y p z,.slice D m u,.slice r o i] 25):=by rw[<-aW];exact Xi R _
 have hQ:=UE t W3;have H3:=Aa (⟨au,ac.below aj,ao,aj,ay,hr⟩:_/\_/\_/\_/\_/\_);clear hP hr au ac ao aj ay ap
 go_wp2_with fail
 try rw[aW]
 refine hQ.mono ?_;intro e X hr;obtain⟨aE,cb,bR,qv,qf,ql,qt,P,TV,rfl,az,br⟩:=TZ hr;obtain⟨⟨M,G,T,rfl⟩,⟨J,H,Q,rfl⟩,⟨F,N,V,rfl⟩,⟨O,I,U,rfl⟩⟩:(∃a n c,qv = .slice a n c)/\(∃a n c,qf = .slice a n c)/\(∃a n c,ql = .slice a n c)/\(∃a n c,qt = .slice a n c):=by
  obtain⟨M,G,e1⟩:=At az.v;obtain⟨J,H,e2⟩:=At az.f;obtain⟨F,N,e3⟩:=At az.l;obtain⟨O,I,e4⟩:=At az.t
  exact⟨⟨_,_,_,e1⟩,⟨_,_,_,e2⟩,⟨_,_,_,e3⟩,⟨_,_,_,e4⟩⟩
 obtain⟨h,aT⟩:∃h,X.alloc (.cells #[.slice M G T,.slice J H Q,.slice F N V,.slice O I U] 28)=h:=⟨_,rfl⟩;have aq:Xn X.heap.size X h:=by rw[<-aT];exact(Xo _ _).alloc (Xf _) _
 have a6:h.heap[X.heap.size]?=some (.cells #[.slice M G T,.slice J H Q,.slice F N V,.slice O I U] 28):=by rw[<-aT];exact Xi X _
 obtain⟨aN,Z,aF,aD⟩:=H1.out;obtain⟨au,ac,ao,aj,ay,bG⟩:=H3.out;obtain⟨rfl,-,e1,e2,e3,e4,e5⟩:=ao.eq br;have s2:=au.size;have s3:=aj.size;have s4:=aE.size;have s5:=aq.size;have l3:R.heap.size<W3.heap.size:=(Xa.1 ay).1;have l5:X.heap.size<h.heap.size:=(Xa.1 a6).1;have af:Xn W1.heap.size W1 h:=((au.trans (aj.mono s2)).trans (aE.mono (by omega))).trans (aq.mono (by omega));have g1:h.heap[w.heap.size]?=_:=(af.block _ (by omega)).trans aF;have g2:h.heap[w.heap.size+1]?=_:=(af.block _ (by omega)).trans aD;have g3:h.heap[R.heap.size]?=_:=(aq.block _ (by omega)).trans ((aE.block _ l3).trans ay);have r1:=Km g1;have r2:=Km g2;have r3:=Km g3;have r5:=Km a6;have b4:∃W6 W7,(h.drew.setCells w.heap.size 0 [.slice x E A,.slice y p z,.slice D m u,.slice r o i])=W6/\(W6.setCells (w.heap.size+1) 0 [.slice M G T,.slice J H Q,.slice F N V,.slice O I U])=W7/\Ak W6 (w.heap.size+1) 28 4 (four (.slice none 0 0) (.slice none 0 0) (.slice none 0 0) (.slice none 0 0))/\Ak W7 w.heap.size 25 4 (four (.slice x E A) (.slice y p z) (.slice D m u) (.slice r o i))/\Ak W7 (w.heap.size+1) 28 4 (four (.slice M G T) (.slice J H Q) (.slice F N V) (.slice O I U))/\Ae (λk=>k=w.heap.size\/k=w.heap.size+1) h W6/\Ae (λk=>k=w.heap.size\/k=w.heap.size+1) h W7:=by
  have bU:Ak h.drew w.heap.size 25 4 _:=r1.same rfl;have b5:Ak h.drew (w.heap.size+1) 28 4 _:=r2.same rfl;have q1:=bU.fill (f:=four (.slice x E A) (.slice y p z) (.slice D m u) (.slice r o i));have k1:=Fx (S:=λk=>k=w.heap.size\/k=w.heap.size+1) (w:=h) (b:=w.heap.size) [.slice x E A,.slice y p z,.slice D m u,.slice r o i] 0 (Ae.refl h).drew (.inl (.inl rfl));have q2:Ak (h.drew.setCells w.heap.size 0 [.slice x E A,.slice y p z,.slice D m u,.slice r o i]) (w.heap.size+1) 28 4 _:=b5.same (Ok _ 0 (by omega));have q3:=q2.fill (f:=four (.slice M G T) (.slice J H Q) (.slice F N V) (.slice O I U));have q4:Ak ((h.drew.setCells w.heap.size 0 [.slice x E A,.slice y p z,.slice D m u,.slice r o i]).setCells (w.heap.size+1) 0 [.slice M G T,.slice J H Q,.slice F N V,.slice O I U]) w.heap.size 25 4 _:=Ak.same q1 (Ok _ 0 (by omega));have k2:=Fx (S:=λk=>k=w.heap.size\/k=w.heap.size+1) (w:=h) (b:=w.heap.size+1) [.slice M G T,.slice J H Q,.slice F N V,.slice O I U] 0 k1 (.inl (.inr rfl))
  exact⟨_,_,rfl,rfl,q2,q4,q3,k1,k2⟩
 obtain⟨W6,W7,aS,aJ,t6,t7,t8,k6,k7⟩:=b4;have aK:∀(W:Xg),Ae (λk=>k=w.heap.size\/k=w.heap.size+1) h W->(W.cell? ⟨R.heap.size,0,none⟩=some (.slice x E A)/\W.cell? ⟨R.heap.size,1,none⟩=some (.slice y p z)/\W.cell? ⟨R.heap.size,2,none⟩=some (.slice D m u)/\W.cell? ⟨R.heap.size,3,none⟩=some (.slice r o i))/\(W.cell? ⟨X.heap.size,0,none⟩=some (.slice M G T)/\W.cell? ⟨X.heap.size,1,none⟩=some (.slice J H Q)/\W.cell? ⟨X.heap.size,2,none⟩=some (.slice F N V)/\W.cell? ⟨X.heap.size,3,none⟩=some (.slice O I U)):=λW hk=>by
  have u3:=r3.keep hk (by omega);have u5:=r5.keep hk (by omega)
  exact⟨⟨u3.cell (by omega),u3.cell (by omega),u3.cell (by omega),u3.cell (by omega)⟩,⟨u5.cell (by omega),u5.cell (by omega),u5.cell (by omega),u5.cell (by omega)⟩⟩
 have a9:=IQ (P:=Tryz.prog) W7 w.heap.size 0 4 25 _ _ (λj hj=>by rw[X8];exact t7.cell hj) Tryz.underlying25 rfl Tryz.sizePg;have a7:=IQ (P:=Tryz.prog) W7 (w.heap.size+1) 0 4 28 _ _ (λj hj=>by rw[X8];exact t8.cell hj) Tryz.underlying28 rfl Tryz.sizeRg;rw[aa3] at a9 a7;have bH:Xn w.heap.size w W7:=⟨k7.os.trans (af.os.trans Z.os),k7.tape.trans (af.tape.trans Z.tape),k7.output.trans (af.output.trans Z.output),Xu Z.size (Xu af.size k7.size),λk hk=>(k7.block k (by have:=Z.size;omega) (by omega)).trans ((af.block k (by have:=Z.size;omega)).trans (Z.block k hk))⟩;have bj:Bz W7 w.heap.size (.slice x E A) (.slice y p z) (.slice D m u) (.slice r o i) vs fs ls L C:=by
  have q:=ac.below ((aE.mono (Xf _)).trans (aq.mono s4))
  exact(q.sameAt λk h1 h2=>k7.block k h2 (by omega)).base (by omega)
 have bA:CX W7 w.heap.size (.slice M G T) (.slice J H Q) (.slice F N V) (.slice O I U) P TV:=((az.ack aq).RW λk h1 h2=>k7.block k h2 (by omega)).base (by omega);have bD:∀g:Bool,g=(er == 0)->Sf w t (.returned (.tuple #[.agg #[.slice x E A,.slice y p z,.slice D m u,.slice r o i],.agg #[.slice M G T,.slice J H Q,.slice F N V,.slice O I U],.bool g])) W7:=λg hg=>by
  refine⟨bH,?_⟩;obtain⟨-,(⟨bh,bO,he,q⟩|⟨s,C2,v1,v2,v3,v4,L2,he,q,-,ci⟩)⟩:=bG
  ·left;have q:adK #[.agg #[.slice x E A,.slice y p z,.slice D m u,.slice r o i],.int .i64 er,.int .i64 ln]=adK #[.agg #[.slice none 0 0,.slice none 0 0,.slice none 0 0,.slice none 0 0],.int .i64 bh,.int .i64 bO]:=by injection q
   simp only[ad1,Array.mk.injEq,List.cons.injEq,Value.agg.injEq,Value.int.injEq,and_true,true_and] at q;obtain⟨⟨q1,q2,q3,q4⟩,q5,-⟩:=q;have bL:=Vt he;obtain⟨-,(⟨b1,bM,a3,q'⟩|⟨s3,C3,ch,cg,P3,U3,a3,-⟩)⟩:=hr
   ·have q':adK #[.agg #[.slice M G T,.slice J H Q,.slice F N V,.slice O I U],.int .i64 er,.int .i64 bR]=adK #[.agg #[.slice none 0 0,.slice none 0 0,.slice none 0 0,.slice none 0 0],.int .i64 b1,.int .i64 bM]:=by injection q'
    simp only[ad1,Array.mk.injEq,List.cons.injEq,Value.agg.injEq,Value.int.injEq,and_true,true_and] at q';obtain⟨⟨p1,p2,p3,p4⟩,-,-⟩:=q';rw[q1,q2,q3,q4,p1,p2,p3,p4,hg,q5,show (bh == 0)=false by simpa using bL]
    rfl
   ·rw[he] at a3;cases a3
  ·right;have q:adK #[.agg #[.slice x E A,.slice y p z,.slice D m u,.slice r o i],.int .i64 er,.int .i64 ln]=adK #[.agg #[v1,v2,v3,v4],.int .i64 0,.int .i64 0]:=by injection q
   simp only[ad1,Array.mk.injEq,List.cons.injEq,Value.int.injEq,and_true,true_and] at q;have hv:=ao;unfold PV at hv;rw[he] at hv;obtain⟨-,-,u1,u2,u3,u4,u5⟩:=hv;refine⟨s,C2,.slice x E A,.slice y p z,.slice D m u,.slice r o i,L,_,_,_,_,P,TV,he,?_,?_,u4,bA,e1.symm.trans u1,e2.symm.trans u2,e3.symm.trans u3,e4.symm.trans u4,e5.symm.trans u5⟩
   ·rw[hg,q.2.1];rfl
   ·have u5:C=C2:=u5;subst u5;rw[<-u1,<-u2,<-u3];exact bj
 have p1:∀j,j<4->(h.drew.cell? ⟨w.heap.size,0+j,none⟩).isSome=true:=λj hj=>by rw[X8];have:=(Ak.same (w':=h.drew) r1 rfl).cell hj;rw[this];rfl
 have p2:∀j,j<4->h.drew.frozen? ⟨w.heap.size,0+j,none⟩=false:=λj _=>(Ak.same (w':=h.drew) r1 rfl).frozen _;have p3:∀j,j<4->(W6.cell? ⟨w.heap.size+1,0+j,none⟩).isSome=true:=λj hj=>by rw[X8,t6.cell hj];rfl
 have p4:∀j,j<4->W6.frozen? ⟨w.heap.size+1,0+j,none⟩=false:=λj _=>t6.frozen _;have HS:=Aa (⟨p1,p2,p3,p4⟩:_/\_/\_/\_);have HE:=Aa (⟨a9,a7,bD⟩:_/\_/\_);have bx:=Aa (aK W6 k6);have bf:=Aa (aK W7 k7);have aC:=aK h.drew (Ae.refl h).drew;replace aS:=Aa aS;replace aJ:=Aa aJ;have bk:=VI er h.drew;clear hQ hr aE az br aq a6 aN Z aF aD au ac ao aj ay bG e1 e2 e3 e4 e5 s2 s3 s4 s5 l3 l5 af g1 g2 g3 r1 r2 r3 r5 t6 t7 t8 k6 k7 aK a9 a7 bH bj bA bD p1 p2 p3 p4 H1 H3 aW
 cases hg:(er == 0) with
 |false=>
  have GG:Hid (false=(er == 0)):=hg.symm
  go_wp2_with fail
  try rw[aT]
  refine XV (S:=(λw'=>(w'.cell? ⟨R.heap.size,0,none⟩=some (.slice x E A)/\w'.cell? ⟨R.heap.size,1,none⟩=some (.slice y p z)/\w'.cell? ⟨R.heap.size,2,none⟩=some (.slice D m u)/\w'.cell? ⟨R.heap.size,3,none⟩=some (.slice r o i))/\(w'.cell? ⟨X.heap.size,0,none⟩=some (.slice M G T)/\w'.cell? ⟨X.heap.size,1,none⟩=some (.slice J H Q)/\w'.cell? ⟨X.heap.size,2,none⟩=some (.slice F N V)/\w'.cell? ⟨X.heap.size,3,none⟩=some (.slice O I U)))) (by kernel_rfl) aC (λd=>?_);clear aC;refine tk 0 d ?_;refine tk 1 d ?_;refine tk 2 d ?_;refine tk 3 d ?_;refine tk 4 d ?_;refine tn 5 d ?_;refine tn 6 d ?_;refine tn 7 d ?_;refine tk 8 d ?_;refine rd 9 (λK Y=>?_);refine IJ _ _ _ rfl w.heap.size 0 #[.slice x E A,.slice y p z,.slice D m u,.slice r o i] rfl rfl HS.out.1 HS.out.2.1 Tryz.sizePg JT ?_;rw[show (#[YN x E A,.slice y p z,.slice D m u,.slice r o i]:Array Xj).toList=[.slice x E A,.slice y p z,.slice D m u,.slice r o i] from rfl,aS.out];refine Y.out _ _ bx.out (λd=>?_);clear Y K
  try simp only[X7,sq]
  refine rd 10 (λK Y=>?_);refine IJ _ _ _ rfl (w.heap.size+1) 0 #[.slice M G T,.slice J H Q,.slice F N V,.slice O I U] rfl rfl HS.out.2.2.1 HS.out.2.2.2 Tryz.sizeRg JT ?_;rw[show (#[YN M G T,.slice J H Q,.slice F N V,.slice O I U]:Array Xj).toList=[.slice M G T,.slice J H Q,.slice F N V,.slice O I U] from rfl,aJ.out];refine Y.out _ _ bf.out (λd=>?_);clear Y K
  try simp only[X7,sq]
  refine tk 11 d ?_;refine YH (by kernel_rfl) ?_ _;clear d
  go_wp2_with fail
  exact XN (PK rfl rfl rfl rfl HE.out.1 HE.out.2.1) rfl (HE.out.2.2 _ GG.out)
 |true=>
  have GG:Hid (true=(er == 0)):=hg.symm
  go_wp2_with fail
  try rw[aT]
  refine XV (S:=(λw'=>(w'.cell? ⟨R.heap.size,0,none⟩=some (.slice x E A)/\w'.cell? ⟨R.heap.size,1,none⟩=some (.slice y p z)/\w'.cell? ⟨R.heap.size,2,none⟩=some (.slice D m u)/\w'.cell? ⟨R.heap.size,3,none⟩=some (.slice r o i))/\(w'.cell? ⟨X.heap.size,0,none⟩=some (.slice M G T)/\w'.cell? ⟨X.heap.size,1,none⟩=some (.slice J H Q)/\w'.cell? ⟨X.heap.size,2,none⟩=some (.slice F N V)/\w'.cell? ⟨X.heap.size,3,none⟩=some (.slice O I U)))) (by kernel_rfl) aC (λd=>?_);refine tk 0 d ?_;refine tk 1 d ?_;refine tk 2 d ?_;refine tk 3 d ?_;refine tk 4 d ?_;refine tk 5 d ?_;refine rd 6 (λK Y=>?_)
  go_simp
  go_at_call 22
  refine bk.mono ?_;rintro e w6 ⟨rfl,rfl⟩
  go_wp2_with fail
  refine Y.out _ _ aC (λd=>?_);clear Y K bk aC
  try simp only[X7,sq]
  refine tk 7 d ?_;refine tk 8 d ?_;refine rd 9 (λK Y=>?_);refine IJ _ _ _ rfl w.heap.size 0 #[.slice x E A,.slice y p z,.slice D m u,.slice r o i] rfl rfl HS.out.1 HS.out.2.1 Tryz.sizePg JT ?_;rw[show (#[YN x E A,.slice y p z,.slice D m u,.slice r o i]:Array Xj).toList=[.slice x E A,.slice y p z,.slice D m u,.slice r o i] from rfl,aS.out];refine Y.out _ _ bx.out (λd=>?_);clear Y K
  try simp only[X7,sq]
  refine rd 10 (λK Y=>?_);refine IJ _ _ _ rfl (w.heap.size+1) 0 #[.slice M G T,.slice J H Q,.slice F N V,.slice O I U] rfl rfl HS.out.2.2.1 HS.out.2.2.2 Tryz.sizeRg JT ?_;rw[show (#[YN M G T,.slice J H Q,.slice F N V,.slice O I U]:Array Xj).toList=[.slice M G T,.slice J H Q,.slice F N V,.slice O I U] from rfl,aJ.out];refine Y.out _ _ bf.out (λd=>?_);clear Y K
  try simp only[X7,sq]
  refine tk 11 d ?_;refine YH (by kernel_rfl) ?_ _;clear d
  go_wp2_with fail
  exact XN (PK rfl rfl rfl rfl HE.out.1 HE.out.2.1) rfl (HE.out.2.2 _ GG.out)
theorem Kl {l:List Tx} (h:∀x,x∈l->x.length<=8) (k:Nat):(l.getD k []).length<=8:=by
 by_cases e:k<l.length
 ·exact h _ (CF e)
 ·rw[Xb,List.getElem?_eq_none (by omega)];decide
theorem QS {t:Tx} {s:PS} {C:List (List Ac)} {L:List (Tx×Xj)} (h:Bk t = .ok (s,C)) (b:L.map Prod.fst=s.nms 116):Gu (s.nms 118) (s.nms 102) (s.nms 109) L C/\BL (Al (s.nms 118) (s.nms 102) (s.nms 109) L C)/\DK (Al (s.nms 118) (s.nms 102) (s.nms 109) L C):=by
 have q:=Vr h;have d:L.length=(s.nms 116).length:=by rw[<-b,Xm]
 have a:C.length=L.length:=q.len.trans d.symm;refine⟨⟨q.v,q.f,q.l,by rw[d];exact q.t,λc a=>(q.code c a).1⟩,⟨⟨by show C.length<=4;have:=q.t;omega,λc a=>?_⟩,q.v,q.f,q.l,by show (L.map Prod.fst).length=C.length;rw[Xm];exact a.symm⟩,⟨Kl q.v8,Kl q.f8,Kl q.l8,by show ∀k,((L.map Prod.fst).getD k []).length<=8;rw[b];exact Kl q.t8⟩⟩;have:=q.code c a;rw[<-q.len] at this;exact this
end Go.Proofs.YtdcacoifehkioaaGreatDoor
namespace Go.Proofs.YtdcacoifehkioaaGreatDoor
open Go.RowKit Go.Proofs.Cod
inductive F2 {A B:Type} (R:A->B->Prop):List A->List B->Prop where
 |nil:F2 R [] []
 |cons {a:A} {b:B} {l:List A} {r:List B}:R a b->F2 R l r->F2 R (a::l) (b::r)
section
variable {A B:Type} {R:A->B->Prop}
theorem F2.len {l:List A} {r:List B} (h:F2 R l r):r.length=l.length:=by
 induction h with
 |nil=>rfl
 |cons _ _ a=>simp[a]
theorem F2.at {l:List A} {r:List B} (h:F2 R l r):∀i:Nat,(l[i]?=none/\r[i]?=none)\/∃a b,l[i]?=some a/\r[i]?=some b/\R a b:=by
 induction h with
 |nil=>intro i;exact .inl ⟨rfl,rfl⟩
 |cons q _ c=>
  intro i
  cases i with
  |zero=>exact .inr ⟨_,_,rfl,rfl,q⟩
  |succ i=>exact c i
theorem F2.map {C:Type} {f:A->C} {g:B->C} (d:∀a b,R a b->g b=f a) {l:List A} {r:List B} (h:F2 R l r):r.map g=l.map f:=by
 induction h with
 |nil=>rfl
 |cons q _ c=>rw[YZ,YZ,c,d _ _ q]
end
section
variable {S:Type} (key:S->Tx) (succ:S->List S)
def Ds (all:List S) (s:S):List S:=if key s∈all.map key then all else all++[s]
def It (all:List S) (s:S):List S:=(succ s).foldl (Ds key) all
def Fc (most:Nat):Nat->List S->Nat->Option (List S)
 |0,_,_=>none
 |f+1,all,i=>match all[i]? with
  |none=>some all
  |some s=>if most<(It key succ all s).length then none else Fc most f (It key succ all s) (i+1)
variable {key succ}
theorem acE (a:List S) (s:S):∃r,Ds key a s=a++r:=by
 unfold Ds
 split
 ·exact⟨[],by rw[Yf]⟩
 ·exact⟨[s],rfl⟩
theorem Mv:∀(l:List S) (a:List S),∃r,l.foldl (Ds key) a=a++r
 |[],a=>⟨[],by rw[List.foldl_nil,Yf]⟩
 |s::l,a=>by
  obtain⟨d,c⟩:=acE (key:=key) a s;obtain⟨b,e⟩:=Mv l (Ds key a s)
  exact⟨d++b,by rw[Zf,e,c,Xx]⟩
theorem aaV (a:List S) (s:S):∃r,It key succ a s=a++r:=Mv _ _
theorem VX {a:List S} {s x:S} (h:x∈Ds key a s):x∈a\/x=s:=by
 unfold Ds at h
 split at h
 ·exact .inl h
 ·rw[List.mem_append,List.mem_singleton] at h;exact h
theorem Pv:∀(l:List S) {a:List S} {x:S},x∈l.foldl (Ds key) a->x∈a\/x∈l
 |[],_,_,h=>.inl h
 |s::l,a,x,h=>by
  rw[Zf] at h
  rcases Pv l h with h|h
  ·rcases VX h with h|h
   ·exact .inl h
   ·exact .inr (by rw[h];exact Yc ..)
  ·exact .inr (List.mem_cons_of_mem _ h)
theorem WR (a:List S) (s:S):key s∈(Ds key a s).map key:=by
 unfold Ds
 split
 ·assumption
 ·rw[XH];exact List.mem_append_right _ (Yc ..)
theorem Qk:∀(l:List S) (a:List S) (x:S),x∈l->key x∈(l.foldl (Ds key) a).map key
 |[],_,_,h=>by cases h
 |s::l,a,x,h=>by
  rw[Zf]
  rcases XL.1 h with rfl|h
  ·obtain⟨r,q⟩:=Mv (key:=key) l (Ds key a x);rw[q,XH];exact YM _ (WR a x)
  ·exact Qk l _ x h
theorem Ra {P:S->Prop} (b:∀s,P s->∀x,x∈succ s->P x) (most:Nat):∀(f:Nat) (a:List S) (i:Nat) {l:List S},(∀s,s∈a->P s)->Fc key succ most f a i=some l->∀s,s∈l->P s
 |0,_,_,_,_,h=>by cases h
 |f+1,a,i,l,h1,h=>by
  unfold Fc at h
  cases e:a[i]? with
  |none=>
   rw[e] at h;injection h with h
   subst h;exact h1
  |some s=>
   rw[e] at h;dsimp only at h
   split at h
   ·cases h
   ·refine Ra b most f _ _ (λx c=>?_) h
    rcases Pv _ c with q|q
    ·exact h1 x q
    ·exact b s (h1 s (List.mem_of_getElem? e)) x q
theorem MF (most:Nat):∀(f:Nat) (c:List S) (i:Nat) {l:List S},(∀(j:Nat) (s:S),j<i->c[j]?=some s->∀x,x∈succ s->key x∈c.map key)->Fc key succ most f c i=some l->(∃r,l=c++r)/\∀s,s∈l->∀x,x∈succ s->key x∈l.map key
 |0,_,_,_,_,h=>by cases h
 |f+1,c,i,l,h1,h=>by
  unfold Fc at h
  cases e:c[i]? with
  |none=>
   rw[e] at h;injection h with h
   subst h;refine⟨⟨[],by rw[Yf]⟩,λs p x k=>?_⟩;obtain⟨j,m⟩:=ZX.1 p;have w:j<i:=by
    have a:=(Xe.1 m).1;have b:=List.getElem?_eq_none_iff.1 e
    omega
   exact h1 j s w m x k
  |some s=>
   rw[e] at h;dsimp only at h
   split at h
   ·cases h
   ·obtain⟨r,g⟩:=aaV (key:=key) (succ:=succ) c s;have q:=(Xe.1 e).1;obtain⟨⟨n,t⟩,v⟩:=MF most f _ (i+1) (λj y m d x k=>by
     by_cases o:j=i
     ·subst o;have:y=s:=by
       rw[g,Xv q,e] at d;injection d with d
       exact d.symm
      subst this;exact Qk _ _ x k
     ·have u:j<c.length:=by omega
      rw[g,Xv u] at d;rw[g,XH];exact YM _ (h1 j y (by omega) d x k)) h
    exact⟨⟨r++n,by rw[t,g,Xx]⟩,v⟩
theorem Kp (most:Nat):∀(f:Nat) (a:List S) (i:Nat) {l:List S},a.length<=most->Fc key succ most f a i=some l->l.length<=most
 |0,_,_,_,_,h=>by cases h
 |f+1,a,i,l,h1,h=>by
  unfold Fc at h
  cases e:a[i]? with
  |none=>
   rw[e] at h;injection h with h
   subst h;exact h1
  |some s=>
   rw[e] at h;dsimp only at h
   split at h
   ·cases h
   ·exact Kp most f _ _ (by omega) h
end
section
variable {A B:Type} {R:A->B->Prop} {k1:A->Tx} {k2:B->Tx} {s1:A->List A} {s2:B->List B}
end
end Go.Proofs.YtdcacoifehkioaaGreatDoor
namespace Go.Proofs.YtdcacoifehkioaaGreatDoor
open Go.RowKit Go.Shelf Go.Proofs.Cod
theorem Bi.show {p:PD} {s s':MS} (h:Bi s s'):Aj p s'=Aj p s:=by
 have a:∀nm t,Du nm (s'.th t)=Du nm (s.th t):=λnm t=>by
  unfold Du Et;rw[h.ph t,h.rg t]
  by_cases e:(s.th t).ph=1
  ·rw[h.pc t (by omega)]
  ·rw[if_neg e,if_neg e]
 unfold Aj Dk;rw[h.v,h.f,h.l]
 congr 1
 congr 1
 funext t
 exact a _ _
theorem Bi.ready {a c nl:Nat} {C:List (List Ac)} {s s':MS} (h:Bi s s') (b:CG a c nl C s):Bj C s'=Bj C s:=by
 unfold Bj Dx;rw[h.n]
 congr 1
 apply List.filter_congr
 intro t _;rw[h.can b]
def Dl (k:Bool) (C:List (List Ac)) (m:MS):List MS:=(Bj C m).map λt=>(AO k C m t).1
structure Sg (nv nf nl:Nat) (C:List (List Ac)) (m m':MS):Prop where
 sim:Bi m m'
 ok:CG nv nf nl C m
 ok':CG nv nf nl C m'
theorem Lw {C:List (List Ac)} {m:MS} {t:Int} (h:t∈Bj C m):AK C m t=0:=by
 unfold Bj Dx at h;rw[List.mem_map] at h;obtain⟨u,a,rfl⟩:=h;rw[List.mem_filter] at a;exact of_decide_eq_true a.2
section
variable {nv nf nl:Nat} {C:List (List Ac)} {m m':MS}
end
def AB (m:MS):Nat:=m.thr.countP λth=>th.ph == 1
def Bf (m:MS):Bool:=m.thr.any λth=>th.ph == 3
theorem MI {l:List TS} {t:Nat} (q:TS->Bool) {y:TS} (h:t<l.length):(l.set t y).countP q+(if q (l.getD t Aw) then 1 else 0)=l.countP q+(if q y then 1 else 0):=by
 induction l generalizing t with
 |nil=>cases h
 |cons a l b=>
  cases t with
  |zero=>
   rw[X6,acN,acN,List.getD_cons_zero]
   omega
  |succ t=>
   rw[X5,acN,acN,List.getD_cons_succ];have:=b (t:=t) (by simpa using h)
   omega
theorem MR {l:List TS} {t:Nat} (q:TS->Bool) {y:TS} (h:t<l.length) (b:q (l.getD t Aw)=false):(l.set t y).any q=(l.any q||q y):=by
 induction l generalizing t with
 |nil=>cases h
 |cons a l c=>
  cases t with
  |zero=>
   rw[List.getD_cons_zero] at b;rw[X6,ZM,ZM,b,Bool.false_or,Bool.or_comm]
  |succ t=>
   rw[List.getD_cons_succ] at b;rw[X5,ZM,ZM,c (t:=t) (by simpa using h) b,Bool.or_assoc]
structure Js (s s':MS) (e:Ev):Prop where
 going:(AB s':Int)=AB s+(if e.k=7 then 1 else if e.k=9\/e.k=10 then -1 else 0)
 failed:Bf s'=(Bf s||decide (e.k=9))
section
variable {s s':MS} {t:Nat}
theorem Dy {k o v:Int} {t':Int} {th:TS} (b:t<s.thr.length) (d:s'.thr=s.thr.set t th) (c:th.ph=(s.th t).ph) (e:k≠7/\k≠9/\k≠10):Js s s' ⟨t',k,o,v⟩:=by
 have a:(s.thr.set t th).countP (λth=>th.ph == 1)+(if ((s.thr.getD t Aw).ph == 1)=true then 1 else 0)=s.thr.countP (λth=>th.ph == 1)+(if (th.ph == 1)=true then 1 else 0):=MI (λth=>th.ph == 1) (y:=th) b;have h:(th.ph == 1)=((s.thr.getD t Aw).ph == 1):=by rw[c];rfl
 have g:Bf s'=Bf s:=by
  unfold Bf;rw[d]
  by_cases q:(s.thr.getD t Aw).ph == 3
  ·have f:s.thr.getD t Aw∈s.thr:=by rw[Xb,List.getElem?_eq_getElem b];exact List.getElem_mem b
   rw[YE.2 ⟨_,f,q⟩];exact YE.2 ⟨th,ZX.2 ⟨t,by rw[List.getElem?_set,if_pos rfl,if_pos b]⟩,by rw[c];exact q⟩
  ·have q:=Bool.eq_false_iff.2 q;rw[MR (λth=>th.ph == 3) b q];have:(th.ph == 3)=false:=by rw[c];exact q
   rw[this,Bool.or_false]
 constructor
 ·show (AB s':Int)=AB s+(if k=7 then 1 else if k=9\/k=10 then -1 else 0);rw[if_neg e.1,if_neg (by omega)];unfold AB;rw[d];rw[h] at a
  omega
 ·show Bf s'=(Bf s||decide (k=9));rw[g,decide_eq_false e.2.1,Bool.or_false]
theorem LD {k:Int} {t':Int} {th:TS} (d:t<s.thr.length) (c:s'.thr=s.thr.set t th) (e:(s.th t).ph=1) (h:th.ph=2\/th.ph=3) (l:(k=10/\th.ph=2)\/(k=9/\th.ph=3)):Js s s' ⟨t',k,0,0⟩:=by
 have a:(s.thr.set t th).countP (λth=>th.ph == 1)+(if ((s.thr.getD t Aw).ph == 1)=true then 1 else 0)=s.thr.countP (λth=>th.ph == 1)+(if (th.ph == 1)=true then 1 else 0):=MI (λth=>th.ph == 1) (y:=th) d;have i:((s.thr.getD t Aw).ph == 1)=true:=by
  have:(s.thr.getD t Aw).ph=1:=e;rw[this];rfl
 have j:(th.ph == 1)=false:=by rcases h with q|q<;>rw[q]<;>rfl
 have b:=MR (λth=>th.ph == 3) (y:=th) d (by
  have:(s.thr.getD t Aw).ph=1:=e;show ((s.thr.getD t Aw).ph == 3)=false;rw[this];rfl)
 constructor
 ·show (AB s':Int)=AB s+(if k=7 then 1 else if k=9\/k=10 then -1 else 0);rw[if_neg (by omega),if_pos (by omega)];unfold AB;rw[c];rw[i,j] at a;simp only[if_true,Bool.false_eq_true,if_false] at a
  omega
 ·show Bf s'=(Bf s||decide (k=9));unfold Bf;rw[c,b]
  congr 1
  rcases l with⟨g,f⟩|⟨g,f⟩<;>rw[g,f]<;>rfl
theorem Vk {n:Nat} {o:Int} {t':Int} {th y:TS} (i:t<s.thr.length) (p:n<s.thr.length) (b:s'.thr=(s.thr.set t th).set n y) (r:(s.th n).ph=0) (u:n≠t) (q:th.ph=(s.th t).ph) (g:y.ph=1):Js s s' ⟨t',7,o,0⟩:=by
 have a:=Dy (s:=s) (s':=s.Af t th) (k:=0) (o:=0) (v:=0) (t':=t') i rfl q ⟨by decide,by decide,by decide⟩;have l:(s.Af t th).thr.length=s.thr.length:=by show (s.thr.set t th).length=_;rw[List.length_set]
 have e:((s.Af t th).th n).ph=0:=by rw[Fr s t n th i,if_neg u];exact r
 have b:s'.thr=(s.Af t th).thr.set n y:=b;generalize s.Af t th=s2 at a l e b;have j:n<s2.thr.length:=by rw[l];exact p
 have c:(s2.thr.set n y).countP (λth=>th.ph == 1)+(if ((s2.thr.getD n Aw).ph == 1)=true then 1 else 0)=s2.thr.countP (λth=>th.ph == 1)+(if (y.ph == 1)=true then 1 else 0):=MI (λth=>th.ph == 1) (y:=y) j;have e:(s2.thr.getD n Aw).ph=0:=e;have d:(s2.thr.set n y).any (λth=>th.ph == 3)=(s2.thr.any (λth=>th.ph == 3)||(y.ph == 3)):=MR (λth=>th.ph == 3) (y:=y) j (by
  show ((s2.thr.getD n Aw).ph == 3)=false;rw[e];rfl)
 rw[e,g] at c;rw[g] at d;have m:(AB s2:Int)=AB s+0:=a.going;have h:Bf s2=(Bf s||false):=a.failed;have w:(s2.thr.set n y).countP (λth=>th.ph == 1)+0=s2.thr.countP (λth=>th.ph == 1)+1:=c;constructor
 ·show (AB s':Int)=AB s+1;unfold AB at m |-;rw[b]
  omega
 ·show Bf s'=(Bf s||decide ((7:Int)=9));have f:(s2.thr.set n y).any (λth=>th.ph == 3)=(Bf s2||false):=d;unfold Bf at h f |-;rw[b,f,h]
  simp
theorem Vj {x:Ac} (a:t<s.thr.length) (c:(s.th t).ph=1) (d:x.op=Cy->x.x.toNat<s.thr.length/\(s.th x.x.toNat).ph=0):Js s (AT false s t x).1 (AT false s t x).2:=by
 unfold AT
 by_cases o:x.op=Ex
 ·rw[if_pos o];exact Dy a rfl rfl ⟨by decide,by decide,by decide⟩
 rw[if_neg o]
 by_cases q:x.op=ED
 ·rw[if_pos q];exact Dy a rfl rfl ⟨by decide,by decide,by decide⟩
 rw[if_neg q]
 by_cases j:x.op=Ew
 ·rw[if_pos j];exact Dy a rfl rfl ⟨by decide,by decide,by decide⟩
 rw[if_neg j]
 by_cases i:x.op=Ey
 ·rw[if_pos i];exact Dy a rfl rfl ⟨by decide,by decide,by decide⟩
 rw[if_neg i]
 by_cases v:x.op=BH
 ·rw[if_pos v];exact Dy a rfl rfl ⟨by decide,by decide,by decide⟩
 rw[if_neg v]
 by_cases g:x.op=Bl
 ·rw[if_pos g];exact Dy a rfl rfl ⟨by decide,by decide,by decide⟩
 rw[if_neg g]
 by_cases k:x.op=Eg
 ·rw[if_pos k];exact Dy a rfl rfl ⟨by decide,by decide,by decide⟩
 rw[if_neg k]
 by_cases n:x.op=Ef
 ·rw[if_pos n];exact Dy a rfl rfl ⟨by decide,by decide,by decide⟩
 rw[if_neg n]
 by_cases f:x.op=CD
 ·rw[if_pos f];exact Dy a rfl rfl ⟨by decide,by decide,by decide⟩
 rw[if_neg f]
 by_cases l:x.op=Ee
 ·rw[if_pos l]
  split
  ·exact LD a rfl c (.inr rfl) (.inr ⟨rfl,rfl⟩)
  ·exact Dy a rfl rfl ⟨by decide,by decide,by decide⟩
 rw[if_neg l]
 by_cases b:x.op=Cy
 ·rw[if_pos b];exact Vk a (d b).1 rfl (d b).2 (λe=>by have:=(d b).2;rw[e] at this;omega) rfl rfl
 rw[if_neg b]
 by_cases m:x.op=CE
 ·rw[if_pos m];exact Dy a rfl rfl ⟨by decide,by decide,by decide⟩
 rw[if_neg m]
 by_cases h:x.op=Ez
 ·rw[if_pos h];exact Dy a rfl rfl ⟨by decide,by decide,by decide⟩
 rw[if_neg h]
 by_cases r:x.op=EB
 ·rw[if_pos r];exact Dy a rfl rfl ⟨by decide,by decide,by decide⟩
 rw[if_neg r]
 by_cases u:x.op=EA
 ·rw[if_pos u];exact Dy a rfl rfl ⟨by decide,by decide,by decide⟩
 rw[if_neg u]
 by_cases p:x.op=EC
 ·rw[if_pos p]
  split
  ·exact LD a rfl c (.inr rfl) (.inr ⟨rfl,rfl⟩)
  ·exact Dy a rfl rfl ⟨by decide,by decide,by decide⟩
 rw[if_neg p];exact LD a rfl c (.inl rfl) (.inl ⟨rfl,rfl⟩)
end
def Bx (e:Ev) (x:Int):Bool:=e.o == x&&(e.k == 1||e.k == 2)
def CU (a b:Ev) (x:Int):Bool:=Bx a x&&Bx b x&&(a.k == 2||b.k == 2)
theorem Df {w:Xg} {b T:Nat} {d e a c:Xj} (h:w.heap[b]?=some (.cells #[d,e,a,c] T)):w.cell? ⟨b,0,none⟩=some d/\w.cell? ⟨b,1,none⟩=some e/\w.cell? ⟨b,2,none⟩=some a/\w.cell? ⟨b,3,none⟩=some c:=by
 refine⟨?_,?_,?_,?_⟩<;>simp[Xh,h]
theorem Qz (e:Ev) (x:Int) (w:Xg) :
 X3 Tryz.prog 122 #[.agg (CM e),.int .i64 x] w λr w'=>r = .returned (.bool (Bx e x))/\Xn w.heap.size w w':=by
 obtain⟨t,k,o,v⟩:=e;unfold CM Bx;dsimp only;obtain⟨W,a⟩:∃W,w.alloc (.cells #[.int .i64 t,.int .i64 k,.int .i64 o,.int .i64 v] 48)=W:=⟨_,rfl⟩;have c:Xn w.heap.size w W:=by rw[<-a];exact(Xo _ _).alloc (Xf _) _
 have b:W.heap[w.heap.size]?=some (.cells #[.int .i64 t,.int .i64 k,.int .i64 o,.int .i64 v] 48):=by rw[<-a];exact Xi w _
 obtain⟨f,g,h,j⟩:=Df b;have d:=Aa c;clear c b
 cases l:(o == x)<;>cases m:(k == 1)<;>cases i:(k == 2)<;>
 ·go_enter Tryz.func122,Tryz.ntmps122
  go_upto_region 1 with fail
  try rw[a]
  clear a
  go_wp2_with fail
  go_ret
  exact⟨rfl,d.out⟩
theorem ab4 (a b:Ev) (x:Int) (w:Xg) :
 X3 Tryz.prog 59 #[.agg (CM a),.agg (CM b),.int .i64 x] w λr w'=>r = .returned (.bool (CU a b x))/\Xn w.heap.size w w':=by
 have h:=Aa (Qz a x);have f:=Aa (Qz b x);unfold CU;obtain⟨v,o,s,y⟩:=a;obtain⟨B,i,C,E⟩:=b;unfold CM at h f |-;dsimp only at h f |-;generalize Bx ⟨v,o,s,y⟩ x=p at h |-;generalize Bx ⟨B,i,C,E⟩ x=q at f |-;obtain⟨c,n⟩:∃W,w.alloc (.cells #[.int .i64 v,.int .i64 o,.int .i64 s,.int .i64 y] 48)=W:=⟨_,rfl⟩;obtain⟨W,l⟩:∃W,c.alloc (.cells #[.int .i64 B,.int .i64 i,.int .i64 C,.int .i64 E] 48)=W:=⟨_,rfl⟩;have F:Xn w.heap.size w c:=by rw[<-n];exact(Xo _ _).alloc (Xf _) _
 have I:Xn c.heap.size c W:=by rw[<-l];exact(Xo _ _).alloc (Xf _) _
 have Q:c.heap.size=w.heap.size+1:=by rw[<-n];show (w.heap.push _).size=_;simp
 have j:c.heap[w.heap.size]?=some (.cells #[.int .i64 v,.int .i64 o,.int .i64 s,.int .i64 y] 48):=by rw[<-n];exact Xi w _
 have H:W.heap[w.heap.size+1]?=some (.cells #[.int .i64 B,.int .i64 i,.int .i64 C,.int .i64 E] 48):=by rw[<-l,<-Q];exact Xi c _
 replace j:=(I.block w.heap.size (by omega)).trans j;have J:=F.trans (I.mono F.size);have m:Hid (∀u,Xn W.heap.size W u->(u.cell? ⟨w.heap.size,0,none⟩=some (.int .i64 v)/\u.cell? ⟨w.heap.size,1,none⟩=some (.int .i64 o)/\u.cell? ⟨w.heap.size,2,none⟩=some (.int .i64 s)/\u.cell? ⟨w.heap.size,3,none⟩=some (.int .i64 y))/\u.cell? ⟨w.heap.size+1,0,none⟩=some (.int .i64 B)/\u.cell? ⟨w.heap.size+1,1,none⟩=some (.int .i64 i)/\u.cell? ⟨w.heap.size+1,2,none⟩=some (.int .i64 C)/\u.cell? ⟨w.heap.size+1,3,none⟩=some (.int .i64 E)):=λu N=>⟨Df ((N.block _ (Xa.1 j).1).trans j),Df ((N.block _ (Xa.1 H).1).trans H)⟩
 obtain⟨⟨z,A,D,t⟩,-⟩:=m.out W (Xo _ _);have g:=Aa J;rw[<-n] at l;clear n F I Q j H J c
 cases T:(o == 2)<;>cases S:(i == 2)<;>
 ·go_enter Tryz.func59,Tryz.ntmps59
  go_upto_region 1 with fail
  try rw[l]
  clear l
  go_wp2_with fail
  refine(h.out _).mono ?_;rintro e w1 ⟨rfl,d⟩;clear z A D t;obtain⟨⟨z,A,D,t⟩,P,O,M,R⟩:=m.out w1 d;replace d:=Aa d
  cases p with
  |false=>
   have G:=Aa (g.out.trans (d.out.mono g.out.size));clear h f m g d
   go_wp2_with fail
   go_ret
   exact⟨rfl,G.out⟩
  |true=>
   go_wp2_with fail
   refine(f.out _).mono ?_;rintro e K ⟨rfl,k⟩;have k:Xn W.heap.size W K:=d.out.trans (k.mono d.out.size);clear z A D t P O M R;obtain⟨⟨z,A,D,t⟩,P,O,M,R⟩:=m.out K k;have G:=Aa (g.out.trans (k.mono g.out.size));clear h f m g d k
   cases q<;>
   ·go_wp2_with fail
    go_ret
    exact⟨rfl,G.out⟩
def AP (w:Xg) (b:Nat) (mv:Xj) (sh:Tx) (g:Int) (f:Bool) (mo fr:Xj) (y:Int) (nx:Xj):Prop:=w.heap[b]?=some (.cells #[mv,.string (bs sh),.int .i64 g,.bool f,mo,fr,.int .i64 y,nx] 75)
theorem CT {w:Xg} {b T:Nat} {f g a e d v5 i c:Xj} (h:w.heap[b]?=some (.cells #[f,g,a,e,d,v5,i,c] T)):w.cell? ⟨b,0,none⟩=some f/\w.cell? ⟨b,1,none⟩=some g/\w.cell? ⟨b,2,none⟩=some a/\w.cell? ⟨b,3,none⟩=some e/\w.cell? ⟨b,4,none⟩=some d/\w.cell? ⟨b,5,none⟩=some v5/\w.cell? ⟨b,6,none⟩=some i/\w.cell? ⟨b,7,none⟩=some c:=by
 refine⟨?_,?_,?_,?_,?_,?_,?_,?_⟩<;>simp[Xh,h]
theorem Qx {w:Xg} {b n c:Nat} {a:Option Addr} {mv fr nx:Xj} {sh:Tx} {g y:Int} {f:Bool} (h:AP w b mv sh g f (.slice a n c) fr y nx) :
 X3 Tryz.prog 25 #[Ab b] w λr w'=>r = .returned (.bool (decide (n=0)))/\w'=w:=by
 obtain⟨j,m,p,q,o,s,l,k⟩:=CT h;clear h;unfold Ab;have i:((n:Int) == 0)=decide (n=0):=by
  by_cases e:n=0
  ·subst e;rfl
  ·rw[decide_eq_false e];have:(n:Int)≠0:=by omega
   simpa using this
 generalize decide (n=0)=d at i |-
 cases d<;>
 ·go_enter Tryz.func25,Tryz.ntmps25
  go_wp2_with fail
  go_ret
  exact⟨rfl,rfl⟩
def Fb (g k:Int):Int:=g+(if k=7 then 1 else if k=9\/k=10 then -1 else 0)
theorem aaP (g:Int):Fb g 7=g+1:=rfl
theorem aaO (g:Int):Fb g 9=g - 1:=rfl
theorem aaQ (g:Int):Fb g 10=g - 1:=rfl
theorem aaN {g k:Int} (a:k≠7) (c:k≠9) (b:k≠10):Fb g k=g:=by
 unfold Fb;rw[if_neg a,if_neg (by omega)]
 omega
theorem acm {w:Xg} {b:Nat} {mv mo fr nx:Xj} {mb:Nat} {sh sh2:Tx} {g y:Int} {f:Bool} (h:AP w b mv sh g f mo fr y nx) (z:0<=g/\g<=4) (e:Ev) :
 X3 Tryz.prog 148 #[Ab b,.agg (CM e),.pointer (some ⟨mb,0,none⟩),.string (bs sh2)] w λr w'=>∃q,r = .returned (Ab q)/\w.heap.size<=q/\AP w' q (Ab mb) sh2 (Fb g e.k) (f||decide (e.k=9)) (.slice none 0 0) (Ab b) e.t (.pointer none)/\Xn w.heap.size w w':=by
 obtain⟨t,k,o,v⟩:=e;unfold CM Ab AP;dsimp only;obtain⟨W,G⟩:∃W,w.alloc (.cells #[.int .i64 t,.int .i64 k,.int .i64 o,.int .i64 v] 48)=W:=⟨_,rfl⟩;have i:Xn w.heap.size w W:=by rw[<-G];exact(Xo _ _).alloc (Xf _) _
 have J:W.heap[w.heap.size]?=some (.cells #[.int .i64 t,.int .i64 k,.int .i64 o,.int .i64 v] 48):=by rw[<-G];exact Xi w _
 have A:W.heap.size=w.heap.size+1:=by rw[<-G];show (w.heap.push _).size=_;simp
 have Q:=(i.block b (Xa.1 h).1).trans h;have R:Hid (∀u,Xn W.heap.size W u->(u.cell? ⟨b,2,none⟩=some (.int .i64 g)/\u.cell? ⟨b,3,none⟩=some (.bool f))/\u.cell? ⟨w.heap.size,0,none⟩=some (.int .i64 t)):=λu O=>by
  obtain⟨-,-,c2,c3,-⟩:=CT ((O.block _ (Xa.1 Q).1).trans Q)
  exact⟨⟨c2,c3⟩,(Df ((O.block _ (Xa.1 J).1).trans J)).1⟩
 have E:Hid (∀u,Xn W.heap.size W u->u.cell? ⟨w.heap.size,1,none⟩=some (.int .i64 k)):=λu O=>(Df ((O.block _ (Xa.1 J).1).trans J)).2.1;have Z:Xn W.heap.size W W.drew:=⟨rfl,rfl,rfl,Xf _,λ_ _=>rfl⟩;have T:=Aa (R.out W.drew Z);have D:=Aa (⟨i,A,z⟩:_/\_/\_);clear h i J A Q z
 go_enter Tryz.func148,Tryz.ntmps148
 go_upto_region 1 with fail
 try rw[G]
 clear G;refine XV (S:=(λu=>(u.cell? ⟨b,2,none⟩=some (.int .i64 g)/\u.cell? ⟨b,3,none⟩=some (.bool f))/\u.cell? ⟨w.heap.size,0,none⟩=some (.int .i64 t))) (by kernel_rfl) T.out (λa=>?_);refine tk 0 a ?_;refine tk 1 a ?_;refine tk 2 a ?_;refine tk 3 a ?_;refine tk 4 a ?_;refine tk 5 a ?_;refine tk 6 a ?_;refine tk 7 a ?_;refine tk 8 a ?_;refine tk 9 a ?_;refine tk 10 a ?_;refine tk 11 a ?_;refine tk 12 a ?_;refine rd 13 (λK M=>?_);refine KV _ _ rfl [(0,.pointer (some ⟨mb,0,none⟩)),(1,.string (bs sh2)),(2,.int .i64 g),(3,.bool f),(5,.pointer (some ⟨b,0,none⟩)),(6,.int .i64 t)] rfl #[.pointer (some ⟨mb,0,none⟩),.string (bs sh2),.int .i64 g,.bool f,.slice none 0 0,.pointer (some ⟨b,0,none⟩),.int .i64 t,.pointer none] (by rfl) ?_;refine M.out _ _ T.out (λa=>?_);clear M K
 try simp only[X7,sq]
 refine rd 14 (λK M=>?_)
 go_simp
 obtain⟨V,P⟩:∃V,(W.alloc (.cells #[.pointer (some ⟨mb,0,none⟩),.string (bs sh2),.int .i64 g,.bool f,.slice none 0 0,.pointer (some ⟨b,0,none⟩),.int .i64 t,.pointer none] 75)).drew=V:=⟨_,rfl⟩;have s:Xn W.heap.size W V:=by rw[<-P];exact((Xo _ _).alloc (Xf _) _).drew
 have j:V.heap[W.heap.size]?=some (.cells #[.pointer (some ⟨mb,0,none⟩),.string (bs sh2),.int .i64 g,.bool f,.slice none 0 0,.pointer (some ⟨b,0,none⟩),.int .i64 t,.pointer none] 75):=by rw[<-P];exact Xi W _
 try rw[P]
 clear P;refine M.out _ _ (R.out V s) (λa=>?_);clear M K
 try simp only[X7,sq]
 refine tk 15 a ?_;refine YH (by kernel_rfl) ?_ _;clear a T Z R;obtain⟨q,hq⟩:∃q,W.heap.size=q:=⟨_,rfl⟩;rw[hq] at j |-;have e1:=E.out V s;obtain⟨d0,d1,d2,d3,d4,d5,d6,d7⟩:=CT j;have am:V.frozen? ⟨q,2,none⟩=false:=by simp[XE,j]
 have ah:V.frozen? ⟨q,3,none⟩=false:=by simp[XE,j]
 obtain⟨i,A,z⟩:=D.out;have l:=i.trans (s.mono i.size);have d:w.heap.size<=q:=by omega
 have m:∀n:Int,(V.setCell ⟨q,2,none⟩ (.int .i64 n)).heap[q]?=some (.cells #[.pointer (some ⟨mb,0,none⟩),.string (bs sh2),.int .i64 n,.bool f,.slice none 0 0,.pointer (some ⟨b,0,none⟩),.int .i64 t,.pointer none] 75):=λn=>(Xk V q 2 _ _ (.int .i64 n) j).trans rfl
 by_cases B:k=7
 ·subst B;have C:Ya (g+1)=g+1:=by unfold Ya;omega
  have c:=Aa (⟨d,m (g+1),(l.setCell (p:=⟨q,2,none⟩) d _:Xn w.heap.size w (V.setCell ⟨q,2,none⟩ (.int .i64 (g+1))))⟩:_/\_/\_);clear i A z s j l d D E m
  go_wp2_with fail
  go_ret
  (try rw[C])
  refine⟨q,rfl,c.out.1,?_,c.out.2.2⟩;rw[aaP]
  (try rw[show (f||decide ((7:Int)=9))=f by simp])
  exact c.out.2.1
 by_cases H:k=10
 ·subst H;have C:Ya (g - 1)=g - 1:=by unfold Ya;omega
  have c:=Aa (⟨d,m (g - 1),(l.setCell (p:=⟨q,2,none⟩) d _:Xn w.heap.size w (V.setCell ⟨q,2,none⟩ (.int .i64 (g - 1))))⟩:_/\_/\_);clear i A z s j l d D E m B
  go_wp2_with fail
  go_ret
  (try rw[C])
  refine⟨q,rfl,c.out.1,?_,c.out.2.2⟩;rw[aaQ]
  (try rw[show (f||decide ((10:Int)=9))=f by simp])
  exact c.out.2.1
 by_cases I:k=9
 ·subst I;have C:Ya (g - 1)=g - 1:=by unfold Ya;omega
  obtain⟨x,N⟩:∃x,V.setCell ⟨q,2,none⟩ (.int .i64 (g - 1))=x:=⟨_,rfl⟩;have F:=m (g - 1);rw[N] at F;have Y:(x.setCell ⟨q,3,none⟩ (.bool true)).heap[q]?=some (.cells #[.pointer (some ⟨mb,0,none⟩),.string (bs sh2),.int .i64 (g - 1),.bool true,.slice none 0 0,.pointer (some ⟨b,0,none⟩),.int .i64 t,.pointer none] 75):=(Xk x q 3 _ _ (.bool true) F).trans rfl;have U:Xn w.heap.size w x:=by rw[<-N];exact l.setCell (p:=⟨q,2,none⟩) d _
  have c:=Aa (⟨d,Y,(U.setCell (p:=⟨q,3,none⟩) d _:Xn w.heap.size w (x.setCell ⟨q,3,none⟩ (.bool true)))⟩:_/\_/\_);obtain⟨e0,aB,e2,e3,e4,e5,e6,e7⟩:=CT F;have aq:x.frozen? ⟨q,3,none⟩=false:=by simp[XE,F]
  clear i A z s j l d D E m Y B H U F
  go_upto_region 9 with fail
  try rw[C]
  try rw[N]
  clear N d0 d1 d2 d3 d4 d5 d6 d7 am ah e1
  go_wp2_with fail
  go_ret
  refine⟨q,rfl,c.out.1,?_,c.out.2.2⟩;rw[aaO]
  (try rw[show (f||decide ((9:Int)=9))=true by simp])
  exact c.out.2.1
 ·have b7:(k == 7)=false:=by simpa using B
  have aC:(k == 10)=false:=by simpa using H
  have b9:(k == 9)=false:=by simpa using I
  have c:=Aa (⟨d,j,l⟩:_/\_/\_);have X:Hid (Fb g k=g/\(f||decide (k=9))=f):=⟨aaN B I H,by simp[I]⟩;clear i A z s j l d D E m B H I
  go_wp2_with fail
  go_ret
  refine⟨q,rfl,c.out.1,?_,c.out.2.2⟩;rw[X.out.1,X.out.2];exact c.out.2.1
end Go.Proofs.YtdcacoifehkioaaGreatDoor
