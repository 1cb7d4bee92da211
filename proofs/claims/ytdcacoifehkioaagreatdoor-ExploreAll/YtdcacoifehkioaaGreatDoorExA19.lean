import Derived.Test.YtdcacoifehkioaaGreatDoorExA3
import Derived.Test.YtdcacoifehkioaaGreatDoorExA18
import Derived.Test.YtdcacoifehkioaaGreatDoorExA15
import Derived.Test.YtdcacoifehkioaaGreatDoorExA16
import Derived.Test.YtdcacoifehkioaaGreatDoorExA14
import Derived.Test.YtdcacoifehkioaaGreatDoorExA17
import Derived.Deep.Cut
import Derived.Deep.DeepCutAuto
open Go.Value renaming slice->Yn,tuple->af8
open Go renaming Value->Xk,World->Xh,Calls->XY,wp_region_held_drew->Xy,wpAnyH_done->Yd,bodyPost_ret->XI,heap_setCell_same->Xj
open Go.RowKit renaming Below->Xm,wrap64->XN
open Go.RowKit.Below renaming refl->Xq
open Nat renaming le_refl->Xd,zero_add->XD,le_trans->Xu
open Go.World renaming alloc_heap_new->Xi,cell?->Xg,frozen?->XM
open Array renaming getElem?_eq_some_iff->Xa
open Go.Value.tuple renaming injEq->agt
open Go.Act renaming put->XG
open List renaming getD_eq_getElem?_getD->Xc,length_map->Xp,map_cons->Za,append_nil->Yf,set_cons_zero->X5,countP_cons->aff,set_cons_succ->X8,any_cons->ZH,any_eq_true->YM
set_option maxRecDepth 100000
set_option maxHeartbeats 2000000
set_option linter.unusedVariables false
set_option linter.unusedSimpArgs false
namespace Go.Proofs.YtdcacoifehkioaaGreatDoor
open Go.RowKit Go.Shelf Go.Proofs.Cod
theorem aaR {t:Tx} {a b:Int} (h:BM t = .error (a,b)):a≠0:=by
 unfold BM at h
 split at h
 ·cases h;decide
 ·exact Rd h
theorem Ll {a b c d:Option Addr} {n1 n2 n3 n4 m1 h g f:Nat}:∀v∈(#[Yn a n1 m1,.slice b n2 h,.slice c n3 g,.slice d n4 f]:Array Xk).toList,v.oneCell'=true:=by
 intro v e;simp only[List.mem_cons,List.not_mem_nil,or_false] at e
 rcases e with rfl|rfl|rfl|rfl<;>rfl
theorem abH (t:Tx) {w:Xh} {B:Nat} (ht:Cn w B) (hB:B<=w.heap.size):XY Tryz.prog 6 #[.string (bs t)] w (Ud w t):=by
 obtain⟨J,af⟩:∃J,(w.alloc (.cells #[.slice none 0 0,.slice none 0 0,.slice none 0 0,.slice none 0 0] 25)).alloc (.cells #[.slice none 0 0,.slice none 0 0,.slice none 0 0,.slice none 0 0] 28)=J:=⟨_,rfl⟩;have aD:J.heap.size=w.heap.size+1+1:=by rw[<-af];show ((w.heap.push _).push _).size=_;simp
 have aH:(w.alloc (.cells #[.slice none 0 0,.slice none 0 0,.slice none 0 0,.slice none 0 0] 25)).heap.size=w.heap.size+1:=by show (w.heap.push _).size=_;simp
 have E:Xm w.heap.size w J:=by rw[<-af];exact((Xq _ _).alloc (Xd _) _).alloc (by rw[aH];omega) _
 have ap:J.heap[w.heap.size]?=some (.cells #[.slice none 0 0,.slice none 0 0,.slice none 0 0,.slice none 0 0] 25):=by
  rw[<-af,Below.heap_alloc _ _ _ (by rw[aH];omega)];exact Xi w _
 have am:J.heap[w.heap.size+1]?=some (.cells #[.slice none 0 0,.slice none 0 0,.slice none 0 0,.slice none 0 0] 28):=by
  have q:=Xi (w.alloc (.cells #[.slice none 0 0,.slice none 0 0,.slice none 0 0,.slice none 0 0] 25)) (.cells #[.slice none 0 0,.slice none 0 0,.slice none 0 0,.slice none 0 0] 28);rw[aH,af] at q;exact q
 have aL:=ht.keep (E.mono hB);have bE:=ht.lt;have hP:=Ra t J aL.heads aL.shapes (by show 2<_;omega) (by show 3<_;omega);have H1:=Aa (⟨aD,E,ap,am⟩:_/\_/\_/\_);clear ht hB aD aH E ap am aL bE
 go_enter Tryz.func6,Tryz.ntmps6
 go_wp2_with fail
 try rw[af]
 refine hP.mono ?_;intro e z T;obtain⟨ag,N,ln,vV,fV,lV,bF,vs,fs,ls,L,C,rfl,H,ah⟩:=aaO T;obtain⟨⟨o,n1,c1,rfl⟩,⟨p,n2,c2,rfl⟩,⟨m,n3,c3,rfl⟩,⟨i,n4,c4,rfl⟩⟩:(∃a n c,vV = .slice a n c)/\(∃a n c,fV = .slice a n c)/\(∃a n c,lV = .slice a n c)/\(∃a n c,bF = .slice a n c):=by
  obtain⟨x1,u,e1⟩:=As H.v;obtain⟨x2,y,e2⟩:=As H.f;obtain⟨x3,x,e3⟩:=As H.l;obtain⟨x4,r,e4⟩:=As H.t
  exact⟨⟨_,_,_,e1⟩,⟨_,_,_,e2⟩,⟨_,_,_,e3⟩,⟨_,_,_,e4⟩⟩
 obtain⟨Z,aG⟩:∃Z,z.alloc (.cells #[.slice o n1 c1,.slice p n2 c2,.slice m n3 c3,.slice i n4 c4] 25)=Z:=⟨_,rfl⟩;have U:Xm z.heap.size z Z:=by rw[<-aG];exact(Xq _ _).alloc (Xd _) _
 have X:Z.heap[z.heap.size]?=some (.cells #[.slice o n1 c1,.slice p n2 c2,.slice m n3 c3,.slice i n4 c4] 25):=by rw[<-aG];exact Xi z _
 have hQ:=aab t Z;have H3:=Aa (⟨ag,H.below U,ah,U,X,T⟩:_/\_/\_/\_/\_/\_);clear hP T ag H ah U X af
 go_wp2_with fail
 try rw[aG]
 refine hQ.mono ?_;intro e A T;obtain⟨an,bX,bP,qv,qf,ql,qt,P,TV,rfl,ab,bb⟩:=Wm T;obtain⟨⟨x1,u,z1,rfl⟩,⟨x2,y,z2,rfl⟩,⟨x3,x,z3,rfl⟩,⟨x4,r,z4,rfl⟩⟩:(∃a n c,qv = .slice a n c)/\(∃a n c,qf = .slice a n c)/\(∃a n c,ql = .slice a n c)/\(∃a n c,qt = .slice a n c):=by
  obtain⟨x1,u,e1⟩:=As ab.v;obtain⟨x2,y,e2⟩:=As ab.f;obtain⟨x3,x,e3⟩:=As ab.l;obtain⟨x4,r,e4⟩:=As ab.t
  exact⟨⟨_,_,_,e1⟩,⟨_,_,_,e2⟩,⟨_,_,_,e3⟩,⟨_,_,_,e4⟩⟩
 obtain⟨d,ax⟩:∃d,A.alloc (.cells #[.slice x1 u z1,.slice x2 y z2,.slice x3 x z3,.slice x4 r z4] 28)=d:=⟨_,rfl⟩;have Y:Xm A.heap.size A d:=by rw[<-ax];exact(Xq _ _).alloc (Xd _) _
 have aU:d.heap[A.heap.size]?=some (.cells #[.slice x1 u z1,.slice x2 y z2,.slice x3 x z3,.slice x4 r z4] 28):=by rw[<-ax];exact Xi A _
 obtain⟨aD,E,ap,am⟩:=H1.out;obtain⟨ag,H,ah,U,X,aX⟩:=H3.out;obtain⟨rfl,-,e1,e2,e3,e4,e5⟩:=ah.eq bb;have s2:=ag.size;have s3:=U.size;have s4:=an.size;have s5:=Y.size;have l3:z.heap.size<Z.heap.size:=(Xa.1 X).1;have l5:A.heap.size<d.heap.size:=(Xa.1 aU).1;have M:Xm J.heap.size J d:=((ag.trans (U.mono s2)).trans (an.mono (by omega))).trans (Y.mono (by omega));have g1:d.heap[w.heap.size]?=_:=(M.block _ (by omega)).trans ap;have g2:d.heap[w.heap.size+1]?=_:=(M.block _ (by omega)).trans am;have g3:d.heap[z.heap.size]?=_:=(Y.block _ (by omega)).trans ((an.block _ l3).trans X);have r1:=LE g1;have r2:=LE g2;have r3:=LE g3;have r5:=LE aU;have bz:∃Q F,(d.drew.setCells w.heap.size 0 [.slice o n1 c1,.slice p n2 c2,.slice m n3 c3,.slice i n4 c4])=Q/\(Q.setCells (w.heap.size+1) 0 [.slice x1 u z1,.slice x2 y z2,.slice x3 x z3,.slice x4 r z4])=F/\Am Q (w.heap.size+1) 28 4 (four (.slice none 0 0) (.slice none 0 0) (.slice none 0 0) (.slice none 0 0))/\Am F w.heap.size 25 4 (four (.slice o n1 c1) (.slice p n2 c2) (.slice m n3 c3) (.slice i n4 c4))/\Am F (w.heap.size+1) 28 4 (four (.slice x1 u z1) (.slice x2 y z2) (.slice x3 x z3) (.slice x4 r z4))/\Ac (λk=>k=w.heap.size\/k=w.heap.size+1) d Q/\Ac (λk=>k=w.heap.size\/k=w.heap.size+1) d F:=by
  have bB:Am d.drew w.heap.size 25 4 _:=r1.same rfl;have bx:Am d.drew (w.heap.size+1) 28 4 _:=r2.same rfl;have q1:=bB.fill (f:=four (.slice o n1 c1) (.slice p n2 c2) (.slice m n3 c3) (.slice i n4 c4));have k1:=EZ (S:=λk=>k=w.heap.size\/k=w.heap.size+1) (w:=d) (b:=w.heap.size) [.slice o n1 c1,.slice p n2 c2,.slice m n3 c3,.slice i n4 c4] 0 (Ac.refl d).drew (.inl (.inl rfl));have q2:Am (d.drew.setCells w.heap.size 0 [.slice o n1 c1,.slice p n2 c2,.slice m n3 c3,.slice i n4 c4]) (w.heap.size+1) 28 4 _:=bx.same (Qe _ 0 (by omega));have q3:=q2.fill (f:=four (.slice x1 u z1) (.slice x2 y z2) (.slice x3 x z3) (.slice x4 r z4));have q4:Am ((d.drew.setCells w.heap.size 0 [.slice o n1 c1,.slice p n2 c2,.slice m n3 c3,.slice i n4 c4]).setCells (w.heap.size+1) 0 [.slice x1 u z1,.slice x2 y z2,.slice x3 x z3,.slice x4 r z4]) w.heap.size 25 4 _:=Am.same q1 (Qe _ 0 (by omega));have k2:=EZ (S:=λk=>k=w.heap.size\/k=w.heap.size+1) (w:=d) (b:=w.heap.size+1) [.slice x1 u z1,.slice x2 y z2,.slice x3 x z3,.slice x4 r z4] 0 k1 (.inl (.inr rfl))
  exact⟨_,_,rfl,rfl,q2,q4,q3,k1,k2⟩
 obtain⟨Q,F,aA,av,t6,t7,t8,k6,I⟩:=bz;have aC:∀(W:Xh),Ac (λk=>k=w.heap.size\/k=w.heap.size+1) d W->(W.cell? ⟨z.heap.size,0,none⟩=some (.slice o n1 c1)/\W.cell? ⟨z.heap.size,1,none⟩=some (.slice p n2 c2)/\W.cell? ⟨z.heap.size,2,none⟩=some (.slice m n3 c3)/\W.cell? ⟨z.heap.size,3,none⟩=some (.slice i n4 c4))/\(W.cell? ⟨A.heap.size,0,none⟩=some (.slice x1 u z1)/\W.cell? ⟨A.heap.size,1,none⟩=some (.slice x2 y z2)/\W.cell? ⟨A.heap.size,2,none⟩=some (.slice x3 x z3)/\W.cell? ⟨A.heap.size,3,none⟩=some (.slice x4 r z4)):=λW hk=>by
  have V:=r3.keep hk (by omega);have G:=r5.keep hk (by omega)
  exact⟨⟨V.cell (by omega),V.cell (by omega),V.cell (by omega),V.cell (by omega)⟩,⟨G.cell (by omega),G.cell (by omega),G.cell (by omega),G.cell (by omega)⟩⟩
 have aQ:=JN (P:=Tryz.prog) F w.heap.size 0 4 25 _ _ (λj R=>by rw[XD];exact t7.cell R) Tryz.underlying25 rfl Tryz.sizePg;have aO:=JN (P:=Tryz.prog) F (w.heap.size+1) 0 4 28 _ _ (λj R=>by rw[XD];exact t8.cell R) Tryz.underlying28 rfl Tryz.sizeRg;rw[adf] at aQ aO;have a4:Xm w.heap.size w F:=⟨I.os.trans (M.os.trans E.os),I.tape.trans (M.tape.trans E.tape),I.output.trans (M.output.trans E.output),Xu E.size (Xu M.size I.size),λk hk=>(I.block k (by have:=E.size;omega) (by omega)).trans ((M.block k (by have:=E.size;omega)).trans (E.block k hk))⟩;have bu:BZ F w.heap.size (.slice o n1 c1) (.slice p n2 c2) (.slice m n3 c3) (.slice i n4 c4) vs fs ls L C:=by
  have q:=H.below ((an.mono (Xd _)).trans (Y.mono s4))
  exact(q.sameAt λk h1 h2=>I.block k h2 (by omega)).base (by omega)
 have be:DT F w.heap.size (.slice x1 u z1) (.slice x2 y z2) (.slice x3 x z3) (.slice x4 r z4) P TV:=((ab.aeA Y).TQ λk h1 h2=>I.block k h2 (by omega)).base (by omega);have bf:∀g:Bool,g=(N == 0)->Ud w t (.returned (.tuple #[.agg #[.slice o n1 c1,.slice p n2 c2,.slice m n3 c3,.slice i n4 c4],.agg #[.slice x1 u z1,.slice x2 y z2,.slice x3 x z3,.slice x4 r z4],.bool g])) F:=λg hg=>by
  refine⟨a4,?_⟩;obtain⟨-,(⟨bl,bG,he,q⟩|⟨s,C2,v1,v2,v3,v4,L2,he,q,-,b2⟩)⟩:=aX
  ·left;have q:af8 #[.agg #[.slice o n1 c1,.slice p n2 c2,.slice m n3 c3,.slice i n4 c4],.int .i64 N,.int .i64 ln]=af8 #[.agg #[.slice none 0 0,.slice none 0 0,.slice none 0 0,.slice none 0 0],.int .i64 bl,.int .i64 bG]:=by injection q
   simp only[agt,Array.mk.injEq,List.cons.injEq,Value.agg.injEq,Value.int.injEq,and_true,true_and] at q;obtain⟨⟨q1,q2,q3,q4⟩,q5,-⟩:=q;have bR:=aaR he;obtain⟨-,(⟨bD,bM,aK,q'⟩|⟨s3,C3,bV,b0,P3,U3,aK,-⟩)⟩:=T
   ·have q':af8 #[.agg #[.slice x1 u z1,.slice x2 y z2,.slice x3 x z3,.slice x4 r z4],.int .i64 N,.int .i64 bP]=af8 #[.agg #[.slice none 0 0,.slice none 0 0,.slice none 0 0,.slice none 0 0],.int .i64 bD,.int .i64 bM]:=by injection q'
    simp only[agt,Array.mk.injEq,List.cons.injEq,Value.agg.injEq,Value.int.injEq,and_true,true_and] at q';obtain⟨⟨p1,p2,p3,p4⟩,-,-⟩:=q';rw[q1,q2,q3,q4,p1,p2,p3,p4,hg,q5,show (bl == 0)=false by simpa using bR]
    rfl
   ·rw[he] at aK;cases aK
  ·right;have q:af8 #[.agg #[.slice o n1 c1,.slice p n2 c2,.slice m n3 c3,.slice i n4 c4],.int .i64 N,.int .i64 ln]=af8 #[.agg #[v1,v2,v3,v4],.int .i64 0,.int .i64 0]:=by injection q
   simp only[agt,Array.mk.injEq,List.cons.injEq,Value.int.injEq,and_true,true_and] at q;have hv:=ah;unfold PV at hv;rw[he] at hv;obtain⟨-,-,u1,u2,V,u4,G⟩:=hv;refine⟨s,C2,.slice o n1 c1,.slice p n2 c2,.slice m n3 c3,.slice i n4 c4,L,_,_,_,_,P,TV,he,?_,?_,u4,be,e1.symm.trans u1,e2.symm.trans u2,e3.symm.trans V,e4.symm.trans u4,e5.symm.trans G⟩
   ·rw[hg,q.2.1];rfl
   ·have G:C=C2:=G;subst G;rw[<-u1,<-u2,<-V];exact bu
 have p1:∀j,j<4->(d.drew.cell? ⟨w.heap.size,0+j,none⟩).isSome=true:=λj R=>by rw[XD];have:=(Am.same (w':=d.drew) r1 rfl).cell R;rw[this];rfl
 have p2:∀j,j<4->d.drew.frozen? ⟨w.heap.size,0+j,none⟩=false:=λj _=>(Am.same (w':=d.drew) r1 rfl).frozen _;have p3:∀j,j<4->(Q.cell? ⟨w.heap.size+1,0+j,none⟩).isSome=true:=λj R=>by rw[XD,t6.cell R];rfl
 have p4:∀j,j<4->Q.frozen? ⟨w.heap.size+1,0+j,none⟩=false:=λj _=>t6.frozen _;have O:=Aa (⟨p1,p2,p3,p4⟩:_/\_/\_/\_);have HE:=Aa (⟨aQ,aO,bf⟩:_/\_/\_);have bk:=Aa (aC Q k6);have a6:=Aa (aC F I);have aq:=aC d.drew (Ac.refl d).drew;replace aA:=Aa aA;replace av:=Aa av;have bo:=aa5 N d.drew;clear hQ T an ab bb Y aU aD E ap am ag H ah U X aX e1 e2 e3 e4 e5 s2 s3 s4 s5 l3 l5 M g1 g2 g3 r1 r2 r3 r5 t6 t7 t8 k6 I aC aQ aO a4 bu be bf p1 p2 p3 p4 H1 H3 aG
 cases hg:(N == 0) with
 |false=>
  have GG:Hid (false=(N == 0)):=hg.symm
  go_wp2_with fail
  try rw[ax]
  refine Xy (S:=(λw'=>(w'.cell? ⟨z.heap.size,0,none⟩=some (.slice o n1 c1)/\w'.cell? ⟨z.heap.size,1,none⟩=some (.slice p n2 c2)/\w'.cell? ⟨z.heap.size,2,none⟩=some (.slice m n3 c3)/\w'.cell? ⟨z.heap.size,3,none⟩=some (.slice i n4 c4))/\(w'.cell? ⟨A.heap.size,0,none⟩=some (.slice x1 u z1)/\w'.cell? ⟨A.heap.size,1,none⟩=some (.slice x2 y z2)/\w'.cell? ⟨A.heap.size,2,none⟩=some (.slice x3 x z3)/\w'.cell? ⟨A.heap.size,3,none⟩=some (.slice x4 r z4)))) (by kernel_rfl) aq (λh=>?_);clear aq;refine tk 0 h ?_;refine tk 1 h ?_;refine tk 2 h ?_;refine tk 3 h ?_;refine tk 4 h ?_;refine tn 5 h ?_;refine tn 6 h ?_;refine tn 7 h ?_;refine tk 8 h ?_;refine rd 9 (λK D=>?_);refine Fp _ _ _ rfl w.heap.size 0 #[.slice o n1 c1,.slice p n2 c2,.slice m n3 c3,.slice i n4 c4] rfl rfl O.out.1 O.out.2.1 Tryz.sizePg Ll ?_;rw[show (#[Yn o n1 c1,.slice p n2 c2,.slice m n3 c3,.slice i n4 c4]:Array Xk).toList=[.slice o n1 c1,.slice p n2 c2,.slice m n3 c3,.slice i n4 c4] from rfl,aA.out];refine D.out _ _ bk.out (λh=>?_);clear D K
  try simp only[XG,sq]
  refine rd 10 (λK D=>?_);refine Fp _ _ _ rfl (w.heap.size+1) 0 #[.slice x1 u z1,.slice x2 y z2,.slice x3 x z3,.slice x4 r z4] rfl rfl O.out.2.2.1 O.out.2.2.2 Tryz.sizeRg Ll ?_;rw[show (#[Yn x1 u z1,.slice x2 y z2,.slice x3 x z3,.slice x4 r z4]:Array Xk).toList=[.slice x1 u z1,.slice x2 y z2,.slice x3 x z3,.slice x4 r z4] from rfl,av.out];refine D.out _ _ a6.out (λh=>?_);clear D K
  try simp only[XG,sq]
  refine tk 11 h ?_;refine Yd (by kernel_rfl) ?_ _;clear h
  go_wp2_with fail
  exact XI (RE rfl rfl rfl rfl HE.out.1 HE.out.2.1) rfl (HE.out.2.2 _ GG.out)
 |true=>
  have GG:Hid (true=(N == 0)):=hg.symm
  go_wp2_with fail
  try rw[ax]
  refine Xy (S:=(λw'=>(w'.cell? ⟨z.heap.size,0,none⟩=some (.slice o n1 c1)/\w'.cell? ⟨z.heap.size,1,none⟩=some (.slice p n2 c2)/\w'.cell? ⟨z.heap.size,2,none⟩=some (.slice m n3 c3)/\w'.cell? ⟨z.heap.size,3,none⟩=some (.slice i n4 c4))/\(w'.cell? ⟨A.heap.size,0,none⟩=some (.slice x1 u z1)/\w'.cell? ⟨A.heap.size,1,none⟩=some (.slice x2 y z2)/\w'.cell? ⟨A.heap.size,2,none⟩=some (.slice x3 x z3)/\w'.cell? ⟨A.heap.size,3,none⟩=some (.slice x4 r z4)))) (by kernel_rfl) aq (λh=>?_);refine tk 0 h ?_;refine tk 1 h ?_;refine tk 2 h ?_;refine tk 3 h ?_;refine tk 4 h ?_;refine tk 5 h ?_;refine rd 6 (λK D=>?_)
  go_simp
  go_at_call 22
  refine bo.mono ?_;rintro e w6 ⟨rfl,rfl⟩
  go_wp2_with fail
  refine D.out _ _ aq (λh=>?_);clear D K bo aq
  try simp only[XG,sq]
  refine tk 7 h ?_;refine tk 8 h ?_;refine rd 9 (λK D=>?_);refine Fp _ _ _ rfl w.heap.size 0 #[.slice o n1 c1,.slice p n2 c2,.slice m n3 c3,.slice i n4 c4] rfl rfl O.out.1 O.out.2.1 Tryz.sizePg Ll ?_;rw[show (#[Yn o n1 c1,.slice p n2 c2,.slice m n3 c3,.slice i n4 c4]:Array Xk).toList=[.slice o n1 c1,.slice p n2 c2,.slice m n3 c3,.slice i n4 c4] from rfl,aA.out];refine D.out _ _ bk.out (λh=>?_);clear D K
  try simp only[XG,sq]
  refine rd 10 (λK D=>?_);refine Fp _ _ _ rfl (w.heap.size+1) 0 #[.slice x1 u z1,.slice x2 y z2,.slice x3 x z3,.slice x4 r z4] rfl rfl O.out.2.2.1 O.out.2.2.2 Tryz.sizeRg Ll ?_;rw[show (#[Yn x1 u z1,.slice x2 y z2,.slice x3 x z3,.slice x4 r z4]:Array Xk).toList=[.slice x1 u z1,.slice x2 y z2,.slice x3 x z3,.slice x4 r z4] from rfl,av.out];refine D.out _ _ a6.out (λh=>?_);clear D K
  try simp only[XG,sq]
  refine tk 11 h ?_;refine Yd (by kernel_rfl) ?_ _;clear h
  go_wp2_with fail
  exact XI (RE rfl rfl rfl rfl HE.out.1 HE.out.2.1) rfl (HE.out.2.2 _ GG.out)
theorem LD {l:List Tx} (h:∀x,x∈l->x.length<=8) (k:Nat):(l.getD k []).length<=8:=by
 by_cases e:k<l.length
 ·exact h _ (CN e)
 ·rw[Xc,List.getElem?_eq_none (by omega)];decide
theorem SP {t:Tx} {s:PS} {C:List (List Ad)} {L:List (Tx×Xk)} (h:BM t = .ok (s,C)) (d:L.map Prod.fst=s.nms 116):Hs (s.nms 118) (s.nms 102) (s.nms 109) L C/\CK (Ap (s.nms 118) (s.nms 102) (s.nms 109) L C)/\Eg (Ap (s.nms 118) (s.nms 102) (s.nms 109) L C):=by
 have q:=aaP h;have b:L.length=(s.nms 116).length:=by rw[<-d,Xp]
 have a:C.length=L.length:=q.len.trans b.symm;refine⟨⟨q.v,q.f,q.l,by rw[b];exact q.t,λc a=>(q.code c a).1⟩,⟨⟨by show C.length<=4;have:=q.t;omega,λc a=>?_⟩,q.v,q.f,q.l,by show (L.map Prod.fst).length=C.length;rw[Xp];exact a.symm⟩,⟨LD q.v8,LD q.f8,LD q.l8,by show ∀k,((L.map Prod.fst).getD k []).length<=8;rw[d];exact LD q.t8⟩⟩;have:=q.code c a;rw[<-q.len] at this;exact this
end Go.Proofs.YtdcacoifehkioaaGreatDoor
namespace Go.Proofs.YtdcacoifehkioaaGreatDoor
open Go.RowKit Go.Proofs.Cod
inductive F2 {A B:Type} (R:A->B->Prop):List A->List B->Prop where
 |nil:F2 R [] []
 |cons {a:A} {b:B} {l:List A} {r:List B}:R a b->F2 R l r->F2 R (a::l) (b::r)
section
variable {A B:Type} {R:A->B->Prop}
theorem F2.len {l:List A} {r:List B} (h:F2 R l r):r.length=l.length:=by
 induction h with
 |nil=>rfl
 |cons _ _ a=>simp[a]
theorem F2.app {l a:List A} {r r':List B} (h:F2 R l r) (c:F2 R a r'):F2 R (l++a) (r++r'):=by
 induction h with
 |nil=>exact c
 |cons q _ b=>exact .cons q b
theorem F2.at {l:List A} {r:List B} (h:F2 R l r):∀i:Nat,(l[i]?=none/\r[i]?=none)\/∃a b,l[i]?=some a/\r[i]?=some b/\R a b:=by
 induction h with
 |nil=>intro i;exact .inl ⟨rfl,rfl⟩
 |cons q _ c=>
  intro i
  cases i with
  |zero=>exact .inr ⟨_,_,rfl,rfl,q⟩
  |succ i=>exact c i
theorem F2.map {C:Type} {f:A->C} {g:B->C} (d:∀a b,R a b->g b=f a) {l:List A} {r:List B} (h:F2 R l r):r.map g=l.map f:=by
 induction h with
 |nil=>rfl
 |cons q _ c=>rw[Za,Za,c,d _ _ q]
theorem F2.of_map {C:Type} {f:C->A} {g:C->B} {l:List C} (h:∀c,c∈l->R (f c) (g c)):F2 R (l.map f) (l.map g):=by
 induction l with
 |nil=>exact .nil
 |cons c l a=>exact .cons (h c (List.mem_cons_self ..)) (a λd b=>h d (List.mem_cons_of_mem _ b))
end
section
variable {S:Type} (key:S->Tx) (succ:S->List S)
def DS (all:List S) (s:S):List S:=if key s∈all.map key then all else all++[s]
def DE (all:List S) (s:S):List S:=(succ s).foldl (DS key) all
def Cq (most:Nat):Nat->List S->Nat->Option (List S)
 |0,_,_=>none
 |f+1,all,i=>match all[i]? with
  |none=>some all
  |some s=>if most<(DE key succ all s).length then none else Cq most f (DE key succ all s) (i+1)
variable {key succ}
theorem aeT (a:List S) (s:S):∃r,DS key a s=a++r:=by
 unfold DS
 split
 ·exact⟨[],by rw[Yf]⟩
 ·exact⟨[s],rfl⟩
theorem LF:∀(l:List S) (a:List S),∃r,l.foldl (DS key) a=a++r
 |[],a=>⟨[],by rw[List.foldl_nil,Yf]⟩
 |s::l,a=>by
  obtain⟨b,e⟩:=aeT (key:=key) a s;obtain⟨d,c⟩:=LF l (DS key a s)
  exact⟨b++d,by rw[List.foldl_cons,c,e,List.append_assoc]⟩
theorem ac5 (a:List S) (s:S):∃r,DE key succ a s=a++r:=LF _ _
theorem adj (l:List S) (a:List S):a.length<=(l.foldl (DS key) a).length:=by
 obtain⟨r,h⟩:=LF (key:=key) l a;rw[h,List.length_append];exact Nat.le_add_right _ _
theorem NW (most:Nat):∀(f:Nat) (a:List S) (i:Nat) {l:List S},a.length<=most->Cq key succ most f a i=some l->l.length<=most
 |0,_,_,_,_,h=>by cases h
 |f+1,a,i,l,h1,h=>by
  unfold Cq at h
  cases e:a[i]? with
  |none=>
   rw[e] at h;injection h with h
   subst h;exact h1
  |some s=>
   rw[e] at h;dsimp only at h
   split at h
   ·cases h
   ·exact NW most f _ _ (by omega) h
end
section
variable {A B:Type} {R:A->B->Prop} {k1:A->Tx} {k2:B->Tx} {s1:A->List A} {s2:B->List B}
theorem aeV (e:∀a b,R a b->k2 b=k1 a) {d:List A} {f:List B} (h:F2 R d f) {a:A} {b:B} (c:R a b):F2 R (DS k1 d a) (DS k2 f b):=by
 unfold DS;rw[h.map e,e a b c]
 split
 ·exact h
 ·exact h.app (.cons c .nil)
theorem adi (e:∀a b,R a b->k2 b=k1 a) {l:List A} {r:List B} (d:F2 R l r):∀{c:List A} {all':List B},F2 R c all'->F2 R (l.foldl (DS k1) c) (r.foldl (DS k2) all'):=by
 induction d with
 |nil=>exact λh=>h
 |cons q _ f=>exact λh=>f (aeV e h q)
theorem SY (k:∀a b,R a b->k2 b=k1 a) (j:∀a b,R a b->F2 R (s1 a) (s2 b)) (most:Nat):∀(f:Nat) (c:List A) (d:List B) (i:Nat),F2 R c d->
 (Cq k1 s1 most f c i=none/\Cq k2 s2 most f d i=none)\/∃l r,Cq k1 s1 most f c i=some l/\Cq k2 s2 most f d i=some r/\F2 R l r
 |0,_,_,_,_=>.inl ⟨rfl,rfl⟩
 |f+1,c,d,i,h=>by
  unfold Cq
  rcases h.at i with⟨g,e⟩|⟨a,b,g,e,n⟩
  ·rw[g,e];exact .inr ⟨c,d,rfl,rfl,h⟩
  ·rw[g,e];dsimp only;have m:F2 R (DE k1 s1 c a) (DE k2 s2 d b):=adi k (j a b n) h;rw[m.len]
   split
   ·exact .inl ⟨rfl,rfl⟩
   ·exact SY k j most f _ _ _ m
end
end Go.Proofs.YtdcacoifehkioaaGreatDoor
namespace Go.Proofs.YtdcacoifehkioaaGreatDoor
open Go.RowKit Go.Shelf Go.Proofs.Cod
theorem BL.show {p:PD} {s s':MS} (h:BL s s'):Aj p s'=Aj p s:=by
 have a:∀nm t,CQ nm (s'.th t)=CQ nm (s.th t):=λnm t=>by
  unfold CQ Gb;rw[h.ph t,h.rg t]
  by_cases e:(s.th t).ph=1
  ·rw[h.pc t (by omega)]
  ·rw[if_neg e,if_neg e]
 unfold Aj Cr;rw[h.v,h.f,h.l]
 congr 1
 congr 1
 funext t
 exact a _ _
theorem BL.ready {nv nf nl:Nat} {C:List (List Ad)} {s s':MS} (h:BL s s') (a:AW nv nf nl C s):AP C s'=AP C s:=by
 unfold AP DD;rw[h.n]
 congr 1
 apply List.filter_congr
 intro t _;rw[h.can a]
def By (k:Bool) (C:List (List Ad)) (m:MS):List MS:=(AP C m).map λt=>(AB k C m t).1
structure FP (nv nf nl:Nat) (C:List (List Ad)) (m m':MS):Prop where
 sim:BL m m'
 ok:AW nv nf nl C m
 ok':AW nv nf nl C m'
theorem Ia {C:List (List Ad)} {m:MS} {t:Int} (h:t∈AP C m):AV C m t=0:=by
 unfold AP DD at h;rw[List.mem_map] at h;obtain⟨u,a,rfl⟩:=h;rw[List.mem_filter] at a;exact of_decide_eq_true a.2
section
variable {nv nf nl:Nat} {C:List (List Ad)} {m m':MS}
theorem abK (a:Ef nv nf nl C) (h:FP nv nf nl C m m') {t:Int} (d:AV C m t=0):FP nv nf nl C (AB false C m t).1 (AB true C m' t).1/\(AB true C m' t).2=(AB false C m t).2:=by
 obtain⟨u,rfl,i,g,c,r⟩:=GM a h.ok d;have n:AV C m' u=0:=by rw[h.sim.can h.ok];exact d
 obtain⟨s,e,o,q,p,k⟩:=GM a h.ok' n;have e:u=s:=by omega
 subst e;have l:=h.sim.th (t:=u) (by omega);have b:=h.sim.step (by rw[h.ok.tl];exact i) g _ c;have j:=KO false h.ok i g c r;have f:=KO true h.ok' o q p k;unfold AB;rw[Int.toNat_natCast];rw[l] at f |-
 exact⟨⟨b.2,j,f⟩,b.1⟩
theorem abI (a:Ef nv nf nl C) (h:FP nv nf nl C m m'):F2 (FP nv nf nl C) (By false C m) (By true C m'):=by
 unfold By;rw[h.sim.ready h.ok];exact F2.of_map λt b=>(abK a h (Ia b)).1
theorem abJ (a:Ef nv nf nl C):FP nv nf nl C (AJ nv nf nl C.length) (AJ nv nf nl C.length):=⟨BL.refl _,JZ nv nf nl C,JZ nv nf nl C⟩
theorem aeR (a:Ef nv nf nl C) (p:PD) (most f:Nat) :
 (Cq (Aj p) (By false C) most f [AJ nv nf nl C.length] 0=none/\Cq (Aj p) (By true C) most f [AJ nv nf nl C.length] 0=none)\/
   ∃l r,Cq (Aj p) (By false C) most f [AJ nv nf nl C.length] 0=some l/\Cq (Aj p) (By true C) most f [AJ nv nf nl C.length] 0=some r/\F2 (FP nv nf nl C) l r:=
 SY (λ_ _ h=>BL.show h.sim) (λ_ _ h=>abI a h) most f _ _ 0 (.cons (abJ a) .nil)
end
def Ay (m:MS):Nat:=m.thr.countP λth=>th.ph == 1
def Bt (m:MS):Bool:=m.thr.any λth=>th.ph == 3
theorem NZ {l:List TS} {t:Nat} (q:TS->Bool) {y:TS} (h:t<l.length):(l.set t y).countP q+(if q (l.getD t AC) then 1 else 0)=l.countP q+(if q y then 1 else 0):=by
 induction l generalizing t with
 |nil=>cases h
 |cons a l b=>
  cases t with
  |zero=>
   rw[X5,aff,aff,List.getD_cons_zero]
   omega
  |succ t=>
   rw[X8,aff,aff,List.getD_cons_succ];have:=b (t:=t) (by simpa using h)
   omega
theorem Ok {l:List TS} {t:Nat} (q:TS->Bool) {y:TS} (h:t<l.length) (b:q (l.getD t AC)=false):(l.set t y).any q=(l.any q||q y):=by
 induction l generalizing t with
 |nil=>cases h
 |cons a l c=>
  cases t with
  |zero=>
   rw[List.getD_cons_zero] at b;rw[X5,ZH,ZH,b,Bool.false_or,Bool.or_comm]
  |succ t=>
   rw[List.getD_cons_succ] at b;rw[X8,ZH,ZH,c (t:=t) (by simpa using h) b,Bool.or_assoc]
structure Kw (s s':MS) (e:Ev):Prop where
 going:(Ay s':Int)=Ay s+(if e.k=7 then 1 else if e.k=9\/e.k=10 then -1 else 0)
 failed:Bt s'=(Bt s||decide (e.k=9))
section
variable {s s':MS} {t:Nat}
theorem EA {k o v:Int} {t':Int} {th:TS} (b:t<s.thr.length) (d:s'.thr=s.thr.set t th) (c:th.ph=(s.th t).ph) (e:k≠7/\k≠9/\k≠10):Kw s s' ⟨t',k,o,v⟩:=by
 have a:(s.thr.set t th).countP (λth=>th.ph == 1)+(if ((s.thr.getD t AC).ph == 1)=true then 1 else 0)=s.thr.countP (λth=>th.ph == 1)+(if (th.ph == 1)=true then 1 else 0):=NZ (λth=>th.ph == 1) (y:=th) b;have g:(th.ph == 1)=((s.thr.getD t AC).ph == 1):=by rw[c];rfl
 have h:Bt s'=Bt s:=by
  unfold Bt;rw[d]
  by_cases q:(s.thr.getD t AC).ph == 3
  ·have f:s.thr.getD t AC∈s.thr:=by rw[Xc,List.getElem?_eq_getElem b];exact List.getElem_mem b
   rw[YM.2 ⟨_,f,q⟩];exact YM.2 ⟨th,List.mem_iff_getElem?.2 ⟨t,by rw[List.getElem?_set,if_pos rfl,if_pos b]⟩,by rw[c];exact q⟩
  ·have q:=Bool.eq_false_iff.2 q;rw[Ok (λth=>th.ph == 3) b q];have:(th.ph == 3)=false:=by rw[c];exact q
   rw[this,Bool.or_false]
 constructor
 ·show (Ay s':Int)=Ay s+(if k=7 then 1 else if k=9\/k=10 then -1 else 0);rw[if_neg e.1,if_neg (by omega)];unfold Ay;rw[d];rw[g] at a
  omega
 ·show Bt s'=(Bt s||decide (k=9));rw[h,decide_eq_false e.2.1,Bool.or_false]
theorem MU {k:Int} {t':Int} {th:TS} (d:t<s.thr.length) (c:s'.thr=s.thr.set t th) (g:(s.th t).ph=1) (h:th.ph=2\/th.ph=3) (i:(k=10/\th.ph=2)\/(k=9/\th.ph=3)):Kw s s' ⟨t',k,0,0⟩:=by
 have a:(s.thr.set t th).countP (λth=>th.ph == 1)+(if ((s.thr.getD t AC).ph == 1)=true then 1 else 0)=s.thr.countP (λth=>th.ph == 1)+(if (th.ph == 1)=true then 1 else 0):=NZ (λth=>th.ph == 1) (y:=th) d;have l:((s.thr.getD t AC).ph == 1)=true:=by
  have:(s.thr.getD t AC).ph=1:=g;rw[this];rfl
 have j:(th.ph == 1)=false:=by rcases h with q|q<;>rw[q]<;>rfl
 have b:=Ok (λth=>th.ph == 3) (y:=th) d (by
  have:(s.thr.getD t AC).ph=1:=g;show ((s.thr.getD t AC).ph == 3)=false;rw[this];rfl)
 constructor
 ·show (Ay s':Int)=Ay s+(if k=7 then 1 else if k=9\/k=10 then -1 else 0);rw[if_neg (by omega),if_pos (by omega)];unfold Ay;rw[c];rw[l,j] at a;simp only[if_true,Bool.false_eq_true,if_false] at a
  omega
 ·show Bt s'=(Bt s||decide (k=9));unfold Bt;rw[c,b]
  congr 1
  rcases i with⟨f,e⟩|⟨f,e⟩<;>rw[f,e]<;>rfl
theorem aaF {n:Nat} {o:Int} {t':Int} {th y:TS} (i:t<s.thr.length) (m:n<s.thr.length) (b:s'.thr=(s.thr.set t th).set n y) (q:(s.th n).ph=0) (p:n≠t) (r:th.ph=(s.th t).ph) (h:y.ph=1):Kw s s' ⟨t',7,o,0⟩:=by
 have a:=EA (s:=s) (s':=s.Ae t th) (k:=0) (o:=0) (v:=0) (t':=t') i rfl r ⟨by decide,by decide,by decide⟩;have g:(s.Ae t th).thr.length=s.thr.length:=by show (s.thr.set t th).length=_;rw[List.length_set]
 have e:((s.Ae t th).th n).ph=0:=by rw[Fr s t n th i,if_neg p];exact q
 have b:s'.thr=(s.Ae t th).thr.set n y:=b;generalize s.Ae t th=s2 at a g e b;have f:n<s2.thr.length:=by rw[g];exact m
 have c:(s2.thr.set n y).countP (λth=>th.ph == 1)+(if ((s2.thr.getD n AC).ph == 1)=true then 1 else 0)=s2.thr.countP (λth=>th.ph == 1)+(if (y.ph == 1)=true then 1 else 0):=NZ (λth=>th.ph == 1) (y:=y) f;have e:(s2.thr.getD n AC).ph=0:=e;have d:(s2.thr.set n y).any (λth=>th.ph == 3)=(s2.thr.any (λth=>th.ph == 3)||(y.ph == 3)):=Ok (λth=>th.ph == 3) (y:=y) f (by
  show ((s2.thr.getD n AC).ph == 3)=false;rw[e];rfl)
 rw[e,h] at c;rw[h] at d;have u:(Ay s2:Int)=Ay s+0:=a.going;have j:Bt s2=(Bt s||false):=a.failed;have c2:(s2.thr.set n y).countP (λth=>th.ph == 1)+0=s2.thr.countP (λth=>th.ph == 1)+1:=c;constructor
 ·show (Ay s':Int)=Ay s+1;unfold Ay at u |-;rw[b]
  omega
 ·show Bt s'=(Bt s||decide ((7:Int)=9));have l:(s2.thr.set n y).any (λth=>th.ph == 3)=(Bt s2||false):=d;unfold Bt at j l |-;rw[b,l,j]
  simp
theorem aaE {x:Ad} (a:t<s.thr.length) (c:(s.th t).ph=1) (d:x.op=BI->x.x.toNat<s.thr.length/\(s.th x.x.toNat).ph=0):Kw s (Ba false s t x).1 (Ba false s t x).2:=by
 unfold Ba
 by_cases c1:x.op=El
 ·rw[if_pos c1];exact EA a rfl rfl ⟨by decide,by decide,by decide⟩
 rw[if_neg c1]
 by_cases c2:x.op=Eo
 ·rw[if_pos c2];exact EA a rfl rfl ⟨by decide,by decide,by decide⟩
 rw[if_neg c2]
 by_cases c3:x.op=Ek
 ·rw[if_pos c3];exact EA a rfl rfl ⟨by decide,by decide,by decide⟩
 rw[if_neg c3]
 by_cases c4:x.op=Em
 ·rw[if_pos c4];exact EA a rfl rfl ⟨by decide,by decide,by decide⟩
 rw[if_neg c4]
 by_cases c5:x.op=Bq
 ·rw[if_pos c5];exact EA a rfl rfl ⟨by decide,by decide,by decide⟩
 rw[if_neg c5]
 by_cases l:x.op=AH
 ·rw[if_pos l];exact EA a rfl rfl ⟨by decide,by decide,by decide⟩
 rw[if_neg l]
 by_cases h:x.op=DY
 ·rw[if_pos h];exact EA a rfl rfl ⟨by decide,by decide,by decide⟩
 rw[if_neg h]
 by_cases g:x.op=DX
 ·rw[if_pos g];exact EA a rfl rfl ⟨by decide,by decide,by decide⟩
 rw[if_neg g]
 by_cases j:x.op=BN
 ·rw[if_pos j];exact EA a rfl rfl ⟨by decide,by decide,by decide⟩
 rw[if_neg j]
 by_cases o:x.op=CG
 ·rw[if_pos o]
  split
  ·exact MU a rfl c (.inr rfl) (.inr ⟨rfl,rfl⟩)
  ·exact EA a rfl rfl ⟨by decide,by decide,by decide⟩
 rw[if_neg o]
 by_cases b:x.op=BI
 ·rw[if_pos b];exact aaF a (d b).1 rfl (d b).2 (λe=>by have:=(d b).2;rw[e] at this;omega) rfl rfl
 rw[if_neg b]
 by_cases m:x.op=BO
 ·rw[if_pos m];exact EA a rfl rfl ⟨by decide,by decide,by decide⟩
 rw[if_neg m]
 by_cases n:x.op=Dg
 ·rw[if_pos n];exact EA a rfl rfl ⟨by decide,by decide,by decide⟩
 rw[if_neg n]
 by_cases i:x.op=CV
 ·rw[if_pos i];exact EA a rfl rfl ⟨by decide,by decide,by decide⟩
 rw[if_neg i]
 by_cases f:x.op=CU
 ·rw[if_pos f];exact EA a rfl rfl ⟨by decide,by decide,by decide⟩
 rw[if_neg f]
 by_cases k:x.op=Dh
 ·rw[if_pos k]
  split
  ·exact MU a rfl c (.inr rfl) (.inr ⟨rfl,rfl⟩)
  ·exact EA a rfl rfl ⟨by decide,by decide,by decide⟩
 rw[if_neg k];exact MU a rfl c (.inl rfl) (.inl ⟨rfl,rfl⟩)
end
def BX (e:Ev) (x:Int):Bool:=e.o == x&&(e.k == 1||e.k == 2)
def DP (a b:Ev) (x:Int):Bool:=BX a x&&BX b x&&(a.k == 2||b.k == 2)
theorem Ea {w:Xh} {b T:Nat} {e c a d:Xk} (h:w.heap[b]?=some (.cells #[e,c,a,d] T)):w.cell? ⟨b,0,none⟩=some e/\w.cell? ⟨b,1,none⟩=some c/\w.cell? ⟨b,2,none⟩=some a/\w.cell? ⟨b,3,none⟩=some d:=by
 refine⟨?_,?_,?_,?_⟩<;>simp[Xg,h]
theorem Sv (e:Ev) (x:Int) (w:Xh) :
 XY Tryz.prog 122 #[.agg (Er e),.int .i64 x] w λr w'=>r = .returned (.bool (BX e x))/\Xm w.heap.size w w':=by
 obtain⟨t,k,o,v⟩:=e;unfold Er BX;dsimp only;obtain⟨W,a⟩:∃W,w.alloc (.cells #[.int .i64 t,.int .i64 k,.int .i64 o,.int .i64 v] 48)=W:=⟨_,rfl⟩;have c:Xm w.heap.size w W:=by rw[<-a];exact(Xq _ _).alloc (Xd _) _
 have b:W.heap[w.heap.size]?=some (.cells #[.int .i64 t,.int .i64 k,.int .i64 o,.int .i64 v] 48):=by rw[<-a];exact Xi w _
 obtain⟨c0,c1,c2,c3⟩:=Ea b;have d:=Aa c;clear c b
 cases h:(o == x)<;>cases g:(k == 1)<;>cases f:(k == 2)<;>
 ·go_enter Tryz.func122,Tryz.ntmps122
  go_upto_region 1 with fail
  try rw[a]
  clear a
  go_wp2_with fail
  go_ret
  exact⟨rfl,d.out⟩
theorem aen (a b:Ev) (x:Int) (w:Xh) :
 XY Tryz.prog 59 #[.agg (Er a),.agg (Er b),.int .i64 x] w λr w'=>r = .returned (.bool (DP a b x))/\Xm w.heap.size w w':=by
 have f:=Aa (Sv a x);have h:=Aa (Sv b x);unfold DP;obtain⟨at',l,t,y⟩:=a;obtain⟨z,j,s,v⟩:=b;unfold Er at f h |-;dsimp only at f h |-;generalize BX ⟨at',l,t,y⟩ x=p at f |-;generalize BX ⟨z,j,s,v⟩ x=q at h |-;obtain⟨d,m⟩:∃W,w.alloc (.cells #[.int .i64 at',.int .i64 l,.int .i64 t,.int .i64 y] 48)=W:=⟨_,rfl⟩;obtain⟨W,i⟩:∃W,d.alloc (.cells #[.int .i64 z,.int .i64 j,.int .i64 s,.int .i64 v] 48)=W:=⟨_,rfl⟩;have D:Xm w.heap.size w d:=by rw[<-m];exact(Xq _ _).alloc (Xd _) _
 have B:Xm d.heap.size d W:=by rw[<-i];exact(Xq _ _).alloc (Xd _) _
 have E:d.heap.size=w.heap.size+1:=by rw[<-m];show (w.heap.push _).size=_;simp
 have o:d.heap[w.heap.size]?=some (.cells #[.int .i64 at',.int .i64 l,.int .i64 t,.int .i64 y] 48):=by rw[<-m];exact Xi w _
 have A:W.heap[w.heap.size+1]?=some (.cells #[.int .i64 z,.int .i64 j,.int .i64 s,.int .i64 v] 48):=by rw[<-i,<-E];exact Xi d _
 replace o:=(B.block w.heap.size (by omega)).trans o;have F:=D.trans (B.mono D.size);have k:Hid (∀u,Xm W.heap.size W u->(u.cell? ⟨w.heap.size,0,none⟩=some (.int .i64 at')/\u.cell? ⟨w.heap.size,1,none⟩=some (.int .i64 l)/\u.cell? ⟨w.heap.size,2,none⟩=some (.int .i64 t)/\u.cell? ⟨w.heap.size,3,none⟩=some (.int .i64 y))/\u.cell? ⟨w.heap.size+1,0,none⟩=some (.int .i64 z)/\u.cell? ⟨w.heap.size+1,1,none⟩=some (.int .i64 j)/\u.cell? ⟨w.heap.size+1,2,none⟩=some (.int .i64 s)/\u.cell? ⟨w.heap.size+1,3,none⟩=some (.int .i64 v)):=λu M=>⟨Ea ((M.block _ (Xa.1 o).1).trans o),Ea ((M.block _ (Xa.1 A).1).trans A)⟩
 obtain⟨⟨c0,c1,c2,c3⟩,-⟩:=k.out W (Xq _ _);have g:=Aa F;rw[<-m] at i;clear m D B E o A F d
 cases N:(l == 2)<;>cases O:(j == 2)<;>
 ·go_enter Tryz.func59,Tryz.ntmps59
  go_upto_region 1 with fail
  try rw[i]
  clear i
  go_wp2_with fail
  refine(f.out _).mono ?_;rintro e w1 ⟨rfl,c⟩;clear c0 c1 c2 c3;obtain⟨⟨c0,c1,c2,c3⟩,I,J,H,G⟩:=k.out w1 c;replace c:=Aa c
  cases p with
  |false=>
   have C:=Aa (g.out.trans (c.out.mono g.out.size));clear f h k g c
   go_wp2_with fail
   go_ret
   exact⟨rfl,C.out⟩
  |true=>
   go_wp2_with fail
   refine(h.out _).mono ?_;rintro e K ⟨rfl,n⟩;have n:Xm W.heap.size W K:=c.out.trans (n.mono c.out.size);clear c0 c1 c2 c3 I J H G;obtain⟨⟨c0,c1,c2,c3⟩,I,J,H,G⟩:=k.out K n;have C:=Aa (g.out.trans (n.mono g.out.size));clear f h k g c n
   cases q<;>
   ·go_wp2_with fail
    go_ret
    exact⟨rfl,C.out⟩
def AY (w:Xh) (b:Nat) (mv:Xk) (sh:Tx) (g:Int) (f:Bool) (mo fr:Xk) (y:Int) (nx:Xk):Prop:=w.heap[b]?=some (.cells #[mv,.string (bs sh),.int .i64 g,.bool f,mo,fr,.int .i64 y,nx] 75)
theorem DO {w:Xh} {b T:Nat} {i e c f d v5 g a:Xk} (h:w.heap[b]?=some (.cells #[i,e,c,f,d,v5,g,a] T)):w.cell? ⟨b,0,none⟩=some i/\w.cell? ⟨b,1,none⟩=some e/\w.cell? ⟨b,2,none⟩=some c/\w.cell? ⟨b,3,none⟩=some f/\w.cell? ⟨b,4,none⟩=some d/\w.cell? ⟨b,5,none⟩=some v5/\w.cell? ⟨b,6,none⟩=some g/\w.cell? ⟨b,7,none⟩=some a:=by
 refine⟨?_,?_,?_,?_,?_,?_,?_,?_⟩<;>simp[Xg,h]
theorem St {w:Xh} {b n c:Nat} {i:Option Addr} {mv fr nx:Xk} {sh:Tx} {g y:Int} {f:Bool} (h:AY w b mv sh g f (.slice i n c) fr y nx) :
 XY Tryz.prog 25 #[Ab b] w λr w'=>r = .returned (.bool (decide (n=0)))/\w'=w:=by
 obtain⟨c0,c1,c2,c3,c4,c5,k,j⟩:=DO h;clear h;unfold Ab;have a:((n:Int) == 0)=decide (n=0):=by
  by_cases e:n=0
  ·subst e;rfl
  ·rw[decide_eq_false e];have:(n:Int)≠0:=by omega
   simpa using this
 generalize decide (n=0)=d at a |-
 cases d<;>
 ·go_enter Tryz.func25,Tryz.ntmps25
  go_wp2_with fail
  go_ret
  exact⟨rfl,rfl⟩
def Gh (g k:Int):Int:=g+(if k=7 then 1 else if k=9\/k=10 then -1 else 0)
theorem acY (g:Int):Gh g 7=g+1:=rfl
theorem acX (g:Int):Gh g 9=g - 1:=rfl
theorem acZ (g:Int):Gh g 10=g - 1:=rfl
theorem acW {g k:Int} (a:k≠7) (b:k≠9) (c:k≠10):Gh g k=g:=by
 unfold Gh;rw[if_neg a,if_neg (by omega)]
 omega
theorem aeC {w:Xh} {b:Nat} {mv mo fr nx:Xk} {mb:Nat} {sh sh2:Tx} {g y:Int} {f:Bool} (h:AY w b mv sh g f mo fr y nx) (z:0<=g/\g<=4) (e:Ev) :
 XY Tryz.prog 148 #[Ab b,.agg (Er e),.pointer (some ⟨mb,0,none⟩),.string (bs sh2)] w λr w'=>∃q,r = .returned (Ab q)/\w.heap.size<=q/\AY w' q (Ab mb) sh2 (Gh g e.k) (f||decide (e.k=9)) (.slice none 0 0) (Ab b) e.t (.pointer none)/\Xm w.heap.size w w':=by
 obtain⟨t,k,o,v⟩:=e;unfold Er Ab AY;dsimp only;obtain⟨W,C⟩:∃W,w.alloc (.cells #[.int .i64 t,.int .i64 k,.int .i64 o,.int .i64 v] 48)=W:=⟨_,rfl⟩;have i:Xm w.heap.size w W:=by rw[<-C];exact(Xq _ _).alloc (Xd _) _
 have M:W.heap[w.heap.size]?=some (.cells #[.int .i64 t,.int .i64 k,.int .i64 o,.int .i64 v] 48):=by rw[<-C];exact Xi w _
 have x:W.heap.size=w.heap.size+1:=by rw[<-C];show (w.heap.push _).size=_;simp
 have T:=(i.block b (Xa.1 h).1).trans h;have Q:Hid (∀u,Xm W.heap.size W u->(u.cell? ⟨b,2,none⟩=some (.int .i64 g)/\u.cell? ⟨b,3,none⟩=some (.bool f))/\u.cell? ⟨w.heap.size,0,none⟩=some (.int .i64 t)):=λu P=>by
  obtain⟨-,-,c2,c3,-⟩:=DO ((P.block _ (Xa.1 T).1).trans T)
  exact⟨⟨c2,c3⟩,(Ea ((P.block _ (Xa.1 M).1).trans M)).1⟩
 have F:Hid (∀u,Xm W.heap.size W u->u.cell? ⟨w.heap.size,1,none⟩=some (.int .i64 k)):=λu P=>(Ea ((P.block _ (Xa.1 M).1).trans M)).2.1;have Y:Xm W.heap.size W W.drew:=⟨rfl,rfl,rfl,Xd _,λ_ _=>rfl⟩;have R:=Aa (Q.out W.drew Y);have I:=Aa (⟨i,x,z⟩:_/\_/\_);clear h i M x T z
 go_enter Tryz.func148,Tryz.ntmps148
 go_upto_region 1 with fail
 try rw[C]
 clear C;refine Xy (S:=(λu=>(u.cell? ⟨b,2,none⟩=some (.int .i64 g)/\u.cell? ⟨b,3,none⟩=some (.bool f))/\u.cell? ⟨w.heap.size,0,none⟩=some (.int .i64 t))) (by kernel_rfl) R.out (λa=>?_);refine tk 0 a ?_;refine tk 1 a ?_;refine tk 2 a ?_;refine tk 3 a ?_;refine tk 4 a ?_;refine tk 5 a ?_;refine tk 6 a ?_;refine tk 7 a ?_;refine tk 8 a ?_;refine tk 9 a ?_;refine tk 10 a ?_;refine tk 11 a ?_;refine tk 12 a ?_;refine rd 13 (λK G=>?_);refine JC _ _ rfl [(0,.pointer (some ⟨mb,0,none⟩)),(1,.string (bs sh2)),(2,.int .i64 g),(3,.bool f),(5,.pointer (some ⟨b,0,none⟩)),(6,.int .i64 t)] rfl #[.pointer (some ⟨mb,0,none⟩),.string (bs sh2),.int .i64 g,.bool f,.slice none 0 0,.pointer (some ⟨b,0,none⟩),.int .i64 t,.pointer none] (by rfl) ?_;refine G.out _ _ R.out (λa=>?_);clear G K
 try simp only[XG,sq]
 refine rd 14 (λK G=>?_)
 go_simp
 obtain⟨V,O⟩:∃V,(W.alloc (.cells #[.pointer (some ⟨mb,0,none⟩),.string (bs sh2),.int .i64 g,.bool f,.slice none 0 0,.pointer (some ⟨b,0,none⟩),.int .i64 t,.pointer none] 75)).drew=V:=⟨_,rfl⟩;have s:Xm W.heap.size W V:=by rw[<-O];exact((Xq _ _).alloc (Xd _) _).drew
 have j:V.heap[W.heap.size]?=some (.cells #[.pointer (some ⟨mb,0,none⟩),.string (bs sh2),.int .i64 g,.bool f,.slice none 0 0,.pointer (some ⟨b,0,none⟩),.int .i64 t,.pointer none] 75):=by rw[<-O];exact Xi W _
 try rw[O]
 clear O;refine G.out _ _ (Q.out V s) (λa=>?_);clear G K
 try simp only[XG,sq]
 refine tk 15 a ?_;refine Yd (by kernel_rfl) ?_ _;clear a R Y Q;obtain⟨q,hq⟩:∃q,W.heap.size=q:=⟨_,rfl⟩;rw[hq] at j |-;have e1:=F.out V s;obtain⟨d0,d1,d2,d3,d4,d5,d6,d7⟩:=DO j;have ad:V.frozen? ⟨q,2,none⟩=false:=by simp[XM,j]
 have ab:V.frozen? ⟨q,3,none⟩=false:=by simp[XM,j]
 obtain⟨i,x,z⟩:=I.out;have l:=i.trans (s.mono i.size);have d:w.heap.size<=q:=by omega
 have m:∀n:Int,(V.setCell ⟨q,2,none⟩ (.int .i64 n)).heap[q]?=some (.cells #[.pointer (some ⟨mb,0,none⟩),.string (bs sh2),.int .i64 n,.bool f,.slice none 0 0,.pointer (some ⟨b,0,none⟩),.int .i64 t,.pointer none] 75):=λn=>(Xj V q 2 _ _ (.int .i64 n) j).trans rfl
 by_cases B:k=7
 ·subst B;have D:XN (g+1)=g+1:=by unfold XN;omega
  have c:=Aa (⟨d,m (g+1),(l.setCell (p:=⟨q,2,none⟩) d _:Xm w.heap.size w (V.setCell ⟨q,2,none⟩ (.int .i64 (g+1))))⟩:_/\_/\_);clear i x z s j l d I F m
  go_wp2_with fail
  go_ret
  (try rw[D])
  refine⟨q,rfl,c.out.1,?_,c.out.2.2⟩;rw[acY]
  (try rw[show (f||decide ((7:Int)=9))=f by simp])
  exact c.out.2.1
 by_cases H:k=10
 ·subst H;have D:XN (g - 1)=g - 1:=by unfold XN;omega
  have c:=Aa (⟨d,m (g - 1),(l.setCell (p:=⟨q,2,none⟩) d _:Xm w.heap.size w (V.setCell ⟨q,2,none⟩ (.int .i64 (g - 1))))⟩:_/\_/\_);clear i x z s j l d I F m B
  go_wp2_with fail
  go_ret
  (try rw[D])
  refine⟨q,rfl,c.out.1,?_,c.out.2.2⟩;rw[acZ]
  (try rw[show (f||decide ((10:Int)=9))=f by simp])
  exact c.out.2.1
 by_cases E:k=9
 ·subst E;have D:XN (g - 1)=g - 1:=by unfold XN;omega
  obtain⟨A,N⟩:∃A,V.setCell ⟨q,2,none⟩ (.int .i64 (g - 1))=A:=⟨_,rfl⟩;have J:=m (g - 1);rw[N] at J;have U:(A.setCell ⟨q,3,none⟩ (.bool true)).heap[q]?=some (.cells #[.pointer (some ⟨mb,0,none⟩),.string (bs sh2),.int .i64 (g - 1),.bool true,.slice none 0 0,.pointer (some ⟨b,0,none⟩),.int .i64 t,.pointer none] 75):=(Xj A q 3 _ _ (.bool true) J).trans rfl;have X:Xm w.heap.size w A:=by rw[<-N];exact l.setCell (p:=⟨q,2,none⟩) d _
  have c:=Aa (⟨d,U,(X.setCell (p:=⟨q,3,none⟩) d _:Xm w.heap.size w (A.setCell ⟨q,3,none⟩ (.bool true)))⟩:_/\_/\_);obtain⟨e0,aA,e2,e3,e4,e5,e6,e7⟩:=DO J;have ax:A.frozen? ⟨q,3,none⟩=false:=by simp[XM,J]
  clear i x z s j l d I F m U B H X J
  go_upto_region 9 with fail
  try rw[D]
  try rw[N]
  clear N d0 d1 d2 d3 d4 d5 d6 d7 ad ab e1
  go_wp2_with fail
  go_ret
  refine⟨q,rfl,c.out.1,?_,c.out.2.2⟩;rw[acX]
  (try rw[show (f||decide ((9:Int)=9))=true by simp])
  exact c.out.2.1
 ·have b7:(k == 7)=false:=by simpa using B
  have ay:(k == 10)=false:=by simpa using H
  have b9:(k == 9)=false:=by simpa using E
  have c:=Aa (⟨d,j,l⟩:_/\_/\_);have Z:Hid (Gh g k=g/\(f||decide (k=9))=f):=⟨acW B E H,by simp[E]⟩;clear i x z s j l d I F m B H E
  go_wp2_with fail
  go_ret
  refine⟨q,rfl,c.out.1,?_,c.out.2.2⟩;rw[Z.out.1,Z.out.2];exact c.out.2.1
end Go.Proofs.YtdcacoifehkioaaGreatDoor
