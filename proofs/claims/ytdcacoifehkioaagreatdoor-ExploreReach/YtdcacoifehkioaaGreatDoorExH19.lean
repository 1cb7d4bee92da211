import Derived.Test.YtdcacoifehkioaaGreatDoorExH3
import Derived.Test.YtdcacoifehkioaaGreatDoorExH18
import Derived.Test.YtdcacoifehkioaaGreatDoorExH15
import Derived.Test.YtdcacoifehkioaaGreatDoorExH16
import Derived.Test.YtdcacoifehkioaaGreatDoorExH14
import Derived.Test.YtdcacoifehkioaaGreatDoorExH17
import Derived.Deep.Cut
import Derived.Deep.DeepCutAuto
open Go.Value renaming slice->Yq,tuple->agp
open Go renaming Value->Xk,World->Xh,Calls->XX,wp_region_held_drew->Xx,wpAnyH_done->Yd,bodyPost_ret->XJ,heap_setCell_same->Xj
open Go.RowKit renaming Below->Xm,wrap64->XO
open Go.RowKit.Below renaming refl->Xq
open Nat renaming le_refl->Xd,zero_add->XE,le_trans->Xu
open Go.World renaming alloc_heap_new->Xi,cell?->Xg,frozen?->XP
open Array renaming getElem?_eq_some_iff->Xa
open Go.Value.tuple renaming injEq->agM
open Go.Act renaming put->XF
open List renaming getD_eq_getElem?_getD->Xc,length_map->Xp,map_cons->Za,append_nil->Ye,set_cons_zero->X7,countP_cons->aft,set_cons_succ->X9,any_cons->Zv,any_eq_true->YD
set_option maxRecDepth 100000
set_option maxHeartbeats 2000000
set_option linter.unusedVariables false
set_option linter.unusedSimpArgs false
namespace Go.Proofs.YtdcacoifehkioaaGreatDoor
open Go.RowKit Go.Shelf Go.Proofs.Cod
theorem aa2 {t:Tx} {a b:Int} (h:BO t = .error (a,b)):a≠0:=by
 unfold BO at h
 split at h
 ·cases h;decide
 ·exact Rk h
theorem Ll {a b c d:Option Addr} {n1 n2 n3 n4 m1 f h g:Nat}:∀v∈(#[Yq a n1 m1,.slice b n2 f,.slice c n3 h,.slice d n4 g]:Array Xk).toList,v.oneCell'=true:=by
 intro v e;simp only[List.mem_cons,List.not_mem_nil,or_false] at e
 rcases e with rfl|rfl|rfl|rfl<;>rfl
theorem abQ (t:Tx) {w:Xh} {B:Nat} (ht:Ck w B) (hB:B<=w.heap.size):XX Tryz.prog 6 #[.string (bs t)] w (Up w t):=by
 obtain⟨H,aj⟩:∃H,(w.alloc (.cells #[.slice none 0 0,.slice none 0 0,.slice none 0 0,.slice none 0 0] 25)).alloc (.cells #[.slice none 0 0,.slice none 0 0,.slice none 0 0,.slice none 0 0] 28)=H:=⟨_,rfl⟩;have aA:H.heap.size=w.heap.size+1+1:=by rw[<-aj];show ((w.heap.push _).push _).size=_;simp
 have aD:(w.alloc (.cells #[.slice none 0 0,.slice none 0 0,.slice none 0 0,.slice none 0 0] 25)).heap.size=w.heap.size+1:=by show (w.heap.push _).size=_;simp
 have F:Xm w.heap.size w H:=by rw[<-aj];exact((Xq _ _).alloc (Xd _) _).alloc (by rw[aD];omega) _
 have ak:H.heap[w.heap.size]?=some (.cells #[.slice none 0 0,.slice none 0 0,.slice none 0 0,.slice none 0 0] 25):=by
  rw[<-aj,Below.heap_alloc _ _ _ (by rw[aD];omega)];exact Xi w _
 have an:H.heap[w.heap.size+1]?=some (.cells #[.slice none 0 0,.slice none 0 0,.slice none 0 0,.slice none 0 0] 28):=by
  have q:=Xi (w.alloc (.cells #[.slice none 0 0,.slice none 0 0,.slice none 0 0,.slice none 0 0] 25)) (.cells #[.slice none 0 0,.slice none 0 0,.slice none 0 0,.slice none 0 0] 28);rw[aD,aj] at q;exact q
 have aL:=ht.keep (F.mono hB);have bU:=ht.lt;have hP:=Rh t H aL.heads aL.shapes (by show 2<_;omega) (by show 3<_;omega);have H1:=Aa (⟨aA,F,ak,an⟩:_/\_/\_/\_);clear ht hB aA aD F ak an aL bU
 go_enter Tryz.func6,Tryz.ntmps6
 go_wp2_with fail
 try rw[aj]
 refine hP.mono ?_;intro e z V;obtain⟨ag,N,ln,vV,fV,lV,bO,vs,fs,ls,L,C,rfl,G,Z⟩:=aaZ V;obtain⟨⟨m,n1,c1,rfl⟩,⟨i,n2,c2,rfl⟩,⟨p,n3,c3,rfl⟩,⟨o,n4,c4,rfl⟩⟩:(∃a n c,vV = .slice a n c)/\(∃a n c,fV = .slice a n c)/\(∃a n c,lV = .slice a n c)/\(∃a n c,bO = .slice a n c):=by
  obtain⟨x1,u,e1⟩:=At G.v;obtain⟨x2,x,e2⟩:=At G.f;obtain⟨x3,y,Y⟩:=At G.l;obtain⟨x4,r,e4⟩:=At G.t
  exact⟨⟨_,_,_,e1⟩,⟨_,_,_,e2⟩,⟨_,_,_,Y⟩,⟨_,_,_,e4⟩⟩
 obtain⟨W3,aF⟩:∃W3,z.alloc (.cells #[.slice m n1 c1,.slice i n2 c2,.slice p n3 c3,.slice o n4 c4] 25)=W3:=⟨_,rfl⟩;have T:Xm z.heap.size z W3:=by rw[<-aF];exact(Xq _ _).alloc (Xd _) _
 have ac:W3.heap[z.heap.size]?=some (.cells #[.slice m n1 c1,.slice i n2 c2,.slice p n3 c3,.slice o n4 c4] 25):=by rw[<-aF];exact Xi z _
 have hQ:=aak t W3;have H3:=Aa (⟨ag,G.below T,Z,T,ac,V⟩:_/\_/\_/\_/\_/\_);clear hP V ag G Z T ac aj
 go_wp2_with fail
 try rw[aF]
 refine hQ.mono ?_;intro e A V;obtain⟨ap,bV,bD,qv,qf,ql,qt,P,TV,rfl,ab,a3⟩:=WC V;obtain⟨⟨x1,u,z1,rfl⟩,⟨x2,x,z2,rfl⟩,⟨x3,y,z3,rfl⟩,⟨x4,r,z4,rfl⟩⟩:(∃a n c,qv = .slice a n c)/\(∃a n c,qf = .slice a n c)/\(∃a n c,ql = .slice a n c)/\(∃a n c,qt = .slice a n c):=by
  obtain⟨x1,u,e1⟩:=At ab.v;obtain⟨x2,x,e2⟩:=At ab.f;obtain⟨x3,y,Y⟩:=At ab.l;obtain⟨x4,r,e4⟩:=At ab.t
  exact⟨⟨_,_,_,e1⟩,⟨_,_,_,e2⟩,⟨_,_,_,Y⟩,⟨_,_,_,e4⟩⟩
 obtain⟨d,au⟩:∃d,A.alloc (.cells #[.slice x1 u z1,.slice x2 x z2,.slice x3 y z3,.slice x4 r z4] 28)=d:=⟨_,rfl⟩;have af:Xm A.heap.size A d:=by rw[<-au];exact(Xq _ _).alloc (Xd _) _
 have aJ:d.heap[A.heap.size]?=some (.cells #[.slice x1 u z1,.slice x2 x z2,.slice x3 y z3,.slice x4 r z4] 28):=by rw[<-au];exact Xi A _
 obtain⟨aA,F,ak,an⟩:=H1.out;obtain⟨ag,G,Z,T,ac,bb⟩:=H3.out;obtain⟨rfl,-,e1,e2,Y,e4,e5⟩:=Z.eq a3;have s2:=ag.size;have s3:=T.size;have s4:=ap.size;have s5:=af.size;have l3:z.heap.size<W3.heap.size:=(Xa.1 ac).1;have l5:A.heap.size<d.heap.size:=(Xa.1 aJ).1;have O:Xm H.heap.size H d:=((ag.trans (T.mono s2)).trans (ap.mono (by omega))).trans (af.mono (by omega));have g1:d.heap[w.heap.size]?=_:=(O.block _ (by omega)).trans ak;have g2:d.heap[w.heap.size+1]?=_:=(O.block _ (by omega)).trans an;have g3:d.heap[z.heap.size]?=_:=(af.block _ (by omega)).trans ((ap.block _ l3).trans ac);have r1:=LC g1;have r2:=LC g2;have r3:=LC g3;have r5:=LC aJ;have bN:∃M E,(d.drew.setCells w.heap.size 0 [.slice m n1 c1,.slice i n2 c2,.slice p n3 c3,.slice o n4 c4])=M/\(M.setCells (w.heap.size+1) 0 [.slice x1 u z1,.slice x2 x z2,.slice x3 y z3,.slice x4 r z4])=E/\An M (w.heap.size+1) 28 4 (four (.slice none 0 0) (.slice none 0 0) (.slice none 0 0) (.slice none 0 0))/\An E w.heap.size 25 4 (four (.slice m n1 c1) (.slice i n2 c2) (.slice p n3 c3) (.slice o n4 c4))/\An E (w.heap.size+1) 28 4 (four (.slice x1 u z1) (.slice x2 x z2) (.slice x3 y z3) (.slice x4 r z4))/\Ac (λk=>k=w.heap.size\/k=w.heap.size+1) d M/\Ac (λk=>k=w.heap.size\/k=w.heap.size+1) d E:=by
  have bz:An d.drew w.heap.size 25 4 _:=r1.same rfl;have bG:An d.drew (w.heap.size+1) 28 4 _:=r2.same rfl;have q1:=bz.fill (f:=four (.slice m n1 c1) (.slice i n2 c2) (.slice p n3 c3) (.slice o n4 c4));have k1:=Fa (S:=λk=>k=w.heap.size\/k=w.heap.size+1) (w:=d) (b:=w.heap.size) [.slice m n1 c1,.slice i n2 c2,.slice p n3 c3,.slice o n4 c4] 0 (Ac.refl d).drew (.inl (.inl rfl));have q2:An (d.drew.setCells w.heap.size 0 [.slice m n1 c1,.slice i n2 c2,.slice p n3 c3,.slice o n4 c4]) (w.heap.size+1) 28 4 _:=bG.same (Qi _ 0 (by omega));have q3:=q2.fill (f:=four (.slice x1 u z1) (.slice x2 x z2) (.slice x3 y z3) (.slice x4 r z4));have q4:An ((d.drew.setCells w.heap.size 0 [.slice m n1 c1,.slice i n2 c2,.slice p n3 c3,.slice o n4 c4]).setCells (w.heap.size+1) 0 [.slice x1 u z1,.slice x2 x z2,.slice x3 y z3,.slice x4 r z4]) w.heap.size 25 4 _:=An.same q1 (Qi _ 0 (by omega));have k2:=Fa (S:=λk=>k=w.heap.size\/k=w.heap.size+1) (w:=d) (b:=w.heap.size+1) [.slice x1 u z1,.slice x2 x z2,.slice x3 y z3,.slice x4 r z4] 0 k1 (.inl (.inr rfl))
  exact⟨_,_,rfl,rfl,q2,q4,q3,k1,k2⟩
 obtain⟨M,E,aH,aG,t6,t7,t8,k6,I⟩:=bN;have aC:∀(W:Xh),Ac (λk=>k=w.heap.size\/k=w.heap.size+1) d W->(W.cell? ⟨z.heap.size,0,none⟩=some (.slice m n1 c1)/\W.cell? ⟨z.heap.size,1,none⟩=some (.slice i n2 c2)/\W.cell? ⟨z.heap.size,2,none⟩=some (.slice p n3 c3)/\W.cell? ⟨z.heap.size,3,none⟩=some (.slice o n4 c4))/\(W.cell? ⟨A.heap.size,0,none⟩=some (.slice x1 u z1)/\W.cell? ⟨A.heap.size,1,none⟩=some (.slice x2 x z2)/\W.cell? ⟨A.heap.size,2,none⟩=some (.slice x3 y z3)/\W.cell? ⟨A.heap.size,3,none⟩=some (.slice x4 r z4)):=λW hk=>by
  have R:=r3.keep hk (by omega);have J:=r5.keep hk (by omega)
  exact⟨⟨R.cell (by omega),R.cell (by omega),R.cell (by omega),R.cell (by omega)⟩,⟨J.cell (by omega),J.cell (by omega),J.cell (by omega),J.cell (by omega)⟩⟩
 have aT:=JR (P:=Tryz.prog) E w.heap.size 0 4 25 _ _ (λj U=>by rw[XE];exact t7.cell U) Tryz.underlying25 rfl Tryz.sizePg;have aM:=JR (P:=Tryz.prog) E (w.heap.size+1) 0 4 28 _ _ (λj U=>by rw[XE];exact t8.cell U) Tryz.underlying28 rfl Tryz.sizeRg;rw[adn] at aT aM;have a7:Xm w.heap.size w E:=⟨I.os.trans (O.os.trans F.os),I.tape.trans (O.tape.trans F.tape),I.output.trans (O.output.trans F.output),Xu F.size (Xu O.size I.size),λk hk=>(I.block k (by have:=F.size;omega) (by omega)).trans ((O.block k (by have:=F.size;omega)).trans (F.block k hk))⟩;have bg:BS E w.heap.size (.slice m n1 c1) (.slice i n2 c2) (.slice p n3 c3) (.slice o n4 c4) vs fs ls L C:=by
  have q:=G.below ((ap.mono (Xd _)).trans (af.mono s4))
  exact(q.sameAt λk h1 h2=>I.block k h2 (by omega)).base (by omega)
 have a1:DW E w.heap.size (.slice x1 u z1) (.slice x2 x z2) (.slice x3 y z3) (.slice x4 r z4) P TV:=((ab.aeK af).Ue λk h1 h2=>I.block k h2 (by omega)).base (by omega);have bq:∀g:Bool,g=(N == 0)->Up w t (.returned (.tuple #[.agg #[.slice m n1 c1,.slice i n2 c2,.slice p n3 c3,.slice o n4 c4],.agg #[.slice x1 u z1,.slice x2 x z2,.slice x3 y z3,.slice x4 r z4],.bool g])) E:=λg hg=>by
  refine⟨a7,?_⟩;obtain⟨-,(⟨aW,bK,he,q⟩|⟨s,C2,v1,v2,v3,v4,L2,he,q,-,b1⟩)⟩:=bb
  ·left;have q:agp #[.agg #[.slice m n1 c1,.slice i n2 c2,.slice p n3 c3,.slice o n4 c4],.int .i64 N,.int .i64 ln]=agp #[.agg #[.slice none 0 0,.slice none 0 0,.slice none 0 0,.slice none 0 0],.int .i64 aW,.int .i64 bK]:=by injection q
   simp only[agM,Array.mk.injEq,List.cons.injEq,Value.agg.injEq,Value.int.injEq,and_true,true_and] at q;obtain⟨⟨q1,q2,q3,q4⟩,q5,-⟩:=q;have bJ:=aa2 he;obtain⟨-,(⟨bv,bM,aR,q'⟩|⟨s3,C3,bZ,bX,P3,U3,aR,-⟩)⟩:=V
   ·have q':agp #[.agg #[.slice x1 u z1,.slice x2 x z2,.slice x3 y z3,.slice x4 r z4],.int .i64 N,.int .i64 bD]=agp #[.agg #[.slice none 0 0,.slice none 0 0,.slice none 0 0,.slice none 0 0],.int .i64 bv,.int .i64 bM]:=by injection q'
    simp only[agM,Array.mk.injEq,List.cons.injEq,Value.agg.injEq,Value.int.injEq,and_true,true_and] at q';obtain⟨⟨p1,p2,p3,p4⟩,-,-⟩:=q';rw[q1,q2,q3,q4,p1,p2,p3,p4,hg,q5,show (aW == 0)=false by simpa using bJ]
    rfl
   ·rw[he] at aR;cases aR
  ·right;have q:agp #[.agg #[.slice m n1 c1,.slice i n2 c2,.slice p n3 c3,.slice o n4 c4],.int .i64 N,.int .i64 ln]=agp #[.agg #[v1,v2,v3,v4],.int .i64 0,.int .i64 0]:=by injection q
   simp only[agM,Array.mk.injEq,List.cons.injEq,Value.int.injEq,and_true,true_and] at q;have hv:=Z;unfold PV at hv;rw[he] at hv;obtain⟨-,-,u1,u2,R,u4,J⟩:=hv;refine⟨s,C2,.slice m n1 c1,.slice i n2 c2,.slice p n3 c3,.slice o n4 c4,L,_,_,_,_,P,TV,he,?_,?_,u4,a1,e1.symm.trans u1,e2.symm.trans u2,Y.symm.trans R,e4.symm.trans u4,e5.symm.trans J⟩
   ·rw[hg,q.2.1];rfl
   ·have J:C=C2:=J;subst J;rw[<-u1,<-u2,<-R];exact bg
 have p1:∀j,j<4->(d.drew.cell? ⟨w.heap.size,0+j,none⟩).isSome=true:=λj U=>by rw[XE];have:=(An.same (w':=d.drew) r1 rfl).cell U;rw[this];rfl
 have p2:∀j,j<4->d.drew.frozen? ⟨w.heap.size,0+j,none⟩=false:=λj _=>(An.same (w':=d.drew) r1 rfl).frozen _;have p3:∀j,j<4->(M.cell? ⟨w.heap.size+1,0+j,none⟩).isSome=true:=λj U=>by rw[XE,t6.cell U];rfl
 have p4:∀j,j<4->M.frozen? ⟨w.heap.size+1,0+j,none⟩=false:=λj _=>t6.frozen _;have Q:=Aa (⟨p1,p2,p3,p4⟩:_/\_/\_/\_);have X:=Aa (⟨aT,aM,bq⟩:_/\_/\_);have aV:=Aa (aC M k6);have bk:=Aa (aC E I);have ao:=aC d.drew (Ac.refl d).drew;replace aH:=Aa aH;replace aG:=Aa aG;have bj:=abe N d.drew;clear hQ V ap ab a3 af aJ aA F ak an ag G Z T ac bb e1 e2 Y e4 e5 s2 s3 s4 s5 l3 l5 O g1 g2 g3 r1 r2 r3 r5 t6 t7 t8 k6 I aC aT aM a7 bg a1 bq p1 p2 p3 p4 H1 H3 aF
 cases hg:(N == 0) with
 |false=>
  have GG:Hid (false=(N == 0)):=hg.symm
  go_wp2_with fail
  try rw[au]
  refine Xx (S:=(λw'=>(w'.cell? ⟨z.heap.size,0,none⟩=some (.slice m n1 c1)/\w'.cell? ⟨z.heap.size,1,none⟩=some (.slice i n2 c2)/\w'.cell? ⟨z.heap.size,2,none⟩=some (.slice p n3 c3)/\w'.cell? ⟨z.heap.size,3,none⟩=some (.slice o n4 c4))/\(w'.cell? ⟨A.heap.size,0,none⟩=some (.slice x1 u z1)/\w'.cell? ⟨A.heap.size,1,none⟩=some (.slice x2 x z2)/\w'.cell? ⟨A.heap.size,2,none⟩=some (.slice x3 y z3)/\w'.cell? ⟨A.heap.size,3,none⟩=some (.slice x4 r z4)))) (by kernel_rfl) ao (λh=>?_);clear ao;refine tk 0 h ?_;refine tk 1 h ?_;refine tk 2 h ?_;refine tk 3 h ?_;refine tk 4 h ?_;refine tn 5 h ?_;refine tn 6 h ?_;refine tn 7 h ?_;refine tk 8 h ?_;refine rd 9 (λK D=>?_);refine Fq _ _ _ rfl w.heap.size 0 #[.slice m n1 c1,.slice i n2 c2,.slice p n3 c3,.slice o n4 c4] rfl rfl Q.out.1 Q.out.2.1 Tryz.sizePg Ll ?_;rw[show (#[Yq m n1 c1,.slice i n2 c2,.slice p n3 c3,.slice o n4 c4]:Array Xk).toList=[.slice m n1 c1,.slice i n2 c2,.slice p n3 c3,.slice o n4 c4] from rfl,aH.out];refine D.out _ _ aV.out (λh=>?_);clear D K
  try simp only[XF,sq]
  refine rd 10 (λK D=>?_);refine Fq _ _ _ rfl (w.heap.size+1) 0 #[.slice x1 u z1,.slice x2 x z2,.slice x3 y z3,.slice x4 r z4] rfl rfl Q.out.2.2.1 Q.out.2.2.2 Tryz.sizeRg Ll ?_;rw[show (#[Yq x1 u z1,.slice x2 x z2,.slice x3 y z3,.slice x4 r z4]:Array Xk).toList=[.slice x1 u z1,.slice x2 x z2,.slice x3 y z3,.slice x4 r z4] from rfl,aG.out];refine D.out _ _ bk.out (λh=>?_);clear D K
  try simp only[XF,sq]
  refine tk 11 h ?_;refine Yd (by kernel_rfl) ?_ _;clear h
  go_wp2_with fail
  exact XJ (RS rfl rfl rfl rfl X.out.1 X.out.2.1) rfl (X.out.2.2 _ GG.out)
 |true=>
  have GG:Hid (true=(N == 0)):=hg.symm
  go_wp2_with fail
  try rw[au]
  refine Xx (S:=(λw'=>(w'.cell? ⟨z.heap.size,0,none⟩=some (.slice m n1 c1)/\w'.cell? ⟨z.heap.size,1,none⟩=some (.slice i n2 c2)/\w'.cell? ⟨z.heap.size,2,none⟩=some (.slice p n3 c3)/\w'.cell? ⟨z.heap.size,3,none⟩=some (.slice o n4 c4))/\(w'.cell? ⟨A.heap.size,0,none⟩=some (.slice x1 u z1)/\w'.cell? ⟨A.heap.size,1,none⟩=some (.slice x2 x z2)/\w'.cell? ⟨A.heap.size,2,none⟩=some (.slice x3 y z3)/\w'.cell? ⟨A.heap.size,3,none⟩=some (.slice x4 r z4)))) (by kernel_rfl) ao (λh=>?_);refine tk 0 h ?_;refine tk 1 h ?_;refine tk 2 h ?_;refine tk 3 h ?_;refine tk 4 h ?_;refine tk 5 h ?_;refine rd 6 (λK D=>?_)
  go_simp
  go_at_call 22
  refine bj.mono ?_;rintro e w6 ⟨rfl,rfl⟩
  go_wp2_with fail
  refine D.out _ _ ao (λh=>?_);clear D K bj ao
  try simp only[XF,sq]
  refine tk 7 h ?_;refine tk 8 h ?_;refine rd 9 (λK D=>?_);refine Fq _ _ _ rfl w.heap.size 0 #[.slice m n1 c1,.slice i n2 c2,.slice p n3 c3,.slice o n4 c4] rfl rfl Q.out.1 Q.out.2.1 Tryz.sizePg Ll ?_;rw[show (#[Yq m n1 c1,.slice i n2 c2,.slice p n3 c3,.slice o n4 c4]:Array Xk).toList=[.slice m n1 c1,.slice i n2 c2,.slice p n3 c3,.slice o n4 c4] from rfl,aH.out];refine D.out _ _ aV.out (λh=>?_);clear D K
  try simp only[XF,sq]
  refine rd 10 (λK D=>?_);refine Fq _ _ _ rfl (w.heap.size+1) 0 #[.slice x1 u z1,.slice x2 x z2,.slice x3 y z3,.slice x4 r z4] rfl rfl Q.out.2.2.1 Q.out.2.2.2 Tryz.sizeRg Ll ?_;rw[show (#[Yq x1 u z1,.slice x2 x z2,.slice x3 y z3,.slice x4 r z4]:Array Xk).toList=[.slice x1 u z1,.slice x2 x z2,.slice x3 y z3,.slice x4 r z4] from rfl,aG.out];refine D.out _ _ bk.out (λh=>?_);clear D K
  try simp only[XF,sq]
  refine tk 11 h ?_;refine Yd (by kernel_rfl) ?_ _;clear h
  go_wp2_with fail
  exact XJ (RS rfl rfl rfl rfl X.out.1 X.out.2.1) rfl (X.out.2.2 _ GG.out)
theorem Lz {l:List Tx} (h:∀x,x∈l->x.length<=8) (k:Nat):(l.getD k []).length<=8:=by
 by_cases e:k<l.length
 ·exact h _ (CL e)
 ·rw[Xc,List.getElem?_eq_none (by omega)];decide
theorem Tc {t:Tx} {s:PS} {C:List (List Ad)} {L:List (Tx×Xk)} (h:BO t = .ok (s,C)) (b:L.map Prod.fst=s.nms 116):GW (s.nms 118) (s.nms 102) (s.nms 109) L C/\Cs (Am (s.nms 118) (s.nms 102) (s.nms 109) L C)/\DX (Am (s.nms 118) (s.nms 102) (s.nms 109) L C):=by
 have q:=aa0 h;have d:L.length=(s.nms 116).length:=by rw[<-b,Xp]
 have a:C.length=L.length:=q.len.trans d.symm;refine⟨⟨q.v,q.f,q.l,by rw[d];exact q.t,λc a=>(q.code c a).1⟩,⟨⟨by show C.length<=4;have:=q.t;omega,λc a=>?_⟩,q.v,q.f,q.l,by show (L.map Prod.fst).length=C.length;rw[Xp];exact a.symm⟩,⟨Lz q.v8,Lz q.f8,Lz q.l8,by show ∀k,((L.map Prod.fst).getD k []).length<=8;rw[b];exact Lz q.t8⟩⟩;have:=q.code c a;rw[<-q.len] at this;exact this
end Go.Proofs.YtdcacoifehkioaaGreatDoor
namespace Go.Proofs.YtdcacoifehkioaaGreatDoor
open Go.RowKit Go.Proofs.Cod
inductive F2 {A B:Type} (R:A->B->Prop):List A->List B->Prop where
 |nil:F2 R [] []
 |cons {a:A} {b:B} {l:List A} {r:List B}:R a b->F2 R l r->F2 R (a::l) (b::r)
section
variable {A B:Type} {R:A->B->Prop}
theorem F2.len {l:List A} {r:List B} (h:F2 R l r):r.length=l.length:=by
 induction h with
 |nil=>rfl
 |cons _ _ a=>simp[a]
theorem F2.app {l a:List A} {r r':List B} (h:F2 R l r) (c:F2 R a r'):F2 R (l++a) (r++r'):=by
 induction h with
 |nil=>exact c
 |cons q _ b=>exact .cons q b
theorem F2.at {l:List A} {r:List B} (h:F2 R l r):∀i:Nat,(l[i]?=none/\r[i]?=none)\/∃a b,l[i]?=some a/\r[i]?=some b/\R a b:=by
 induction h with
 |nil=>intro i;exact .inl ⟨rfl,rfl⟩
 |cons q _ c=>
  intro i
  cases i with
  |zero=>exact .inr ⟨_,_,rfl,rfl,q⟩
  |succ i=>exact c i
theorem F2.map {C:Type} {f:A->C} {g:B->C} (d:∀a b,R a b->g b=f a) {l:List A} {r:List B} (h:F2 R l r):r.map g=l.map f:=by
 induction h with
 |nil=>rfl
 |cons q _ c=>rw[Za,Za,c,d _ _ q]
theorem F2.of_map {C:Type} {f:C->A} {g:C->B} {l:List C} (h:∀c,c∈l->R (f c) (g c)):F2 R (l.map f) (l.map g):=by
 induction l with
 |nil=>exact .nil
 |cons c l a=>exact .cons (h c (List.mem_cons_self ..)) (a λd b=>h d (List.mem_cons_of_mem _ b))
end
section
variable {S:Type} (key:S->Tx) (succ:S->List S)
def DV (all:List S) (s:S):List S:=if key s∈all.map key then all else all++[s]
def DI (all:List S) (s:S):List S:=(succ s).foldl (DV key) all
def Cr (most:Nat):Nat->List S->Nat->Option (List S)
 |0,_,_=>none
 |f+1,all,i=>match all[i]? with
  |none=>some all
  |some s=>if most<(DI key succ all s).length then none else Cr most f (DI key succ all s) (i+1)
variable {key succ}
theorem ae4 (a:List S) (s:S):∃r,DV key a s=a++r:=by
 unfold DV
 split
 ·exact⟨[],by rw[Ye]⟩
 ·exact⟨[s],rfl⟩
theorem LD:∀(l:List S) (a:List S),∃r,l.foldl (DV key) a=a++r
 |[],a=>⟨[],by rw[List.foldl_nil,Ye]⟩
 |s::l,a=>by
  obtain⟨c,d⟩:=ae4 (key:=key) a s;obtain⟨b,e⟩:=LD l (DV key a s)
  exact⟨c++b,by rw[List.foldl_cons,e,d,List.append_assoc]⟩
theorem ade (a:List S) (s:S):∃r,DI key succ a s=a++r:=LD _ _
theorem adr (l:List S) (a:List S):a.length<=(l.foldl (DV key) a).length:=by
 obtain⟨r,h⟩:=LD (key:=key) l a;rw[h,List.length_append];exact Nat.le_add_right _ _
theorem Ob (most:Nat):∀(f:Nat) (a:List S) (i:Nat) {l:List S},a.length<=most->Cr key succ most f a i=some l->l.length<=most
 |0,_,_,_,_,h=>by cases h
 |f+1,a,i,l,h1,h=>by
  unfold Cr at h
  cases e:a[i]? with
  |none=>
   rw[e] at h;injection h with h
   subst h;exact h1
  |some s=>
   rw[e] at h;dsimp only at h
   split at h
   ·cases h
   ·exact Ob most f _ _ (by omega) h
end
section
variable {A B:Type} {R:A->B->Prop} {k1:A->Tx} {k2:B->Tx} {s1:A->List A} {s2:B->List B}
theorem ae6 (f:∀a b,R a b->k2 b=k1 a) {c:List A} {d:List B} (h:F2 R c d) {a:A} {b:B} (e:R a b):F2 R (DV k1 c a) (DV k2 d b):=by
 unfold DV;rw[h.map f,f a b e]
 split
 ·exact h
 ·exact h.app (.cons e .nil)
theorem adq (f:∀a b,R a b->k2 b=k1 a) {l:List A} {r:List B} (d:F2 R l r):∀{c:List A} {all':List B},F2 R c all'->F2 R (l.foldl (DV k1) c) (r.foldl (DV k2) all'):=by
 induction d with
 |nil=>exact λh=>h
 |cons q _ e=>exact λh=>e (ae6 f h q)
theorem Tk (m:∀a b,R a b->k2 b=k1 a) (j:∀a b,R a b->F2 R (s1 a) (s2 b)) (most:Nat):∀(f:Nat) (c:List A) (d:List B) (i:Nat),F2 R c d->
 (Cr k1 s1 most f c i=none/\Cr k2 s2 most f d i=none)\/∃l r,Cr k1 s1 most f c i=some l/\Cr k2 s2 most f d i=some r/\F2 R l r
 |0,_,_,_,_=>.inl ⟨rfl,rfl⟩
 |f+1,c,d,i,h=>by
  unfold Cr
  rcases h.at i with⟨g,e⟩|⟨a,b,g,e,n⟩
  ·rw[g,e];exact .inr ⟨c,d,rfl,rfl,h⟩
  ·rw[g,e];dsimp only;have k:F2 R (DI k1 s1 c a) (DI k2 s2 d b):=adq m (j a b n) h;rw[k.len]
   split
   ·exact .inl ⟨rfl,rfl⟩
   ·exact Tk m j most f _ _ _ k
end
end Go.Proofs.YtdcacoifehkioaaGreatDoor
namespace Go.Proofs.YtdcacoifehkioaaGreatDoor
open Go.RowKit Go.Shelf Go.Proofs.Cod
theorem BN.show {p:PD} {s s':MS} (h:BN s s'):Aj p s'=Aj p s:=by
 have a:∀nm t,CR nm (s'.th t)=CR nm (s.th t):=λnm t=>by
  unfold CR Gd;rw[h.ph t,h.rg t]
  by_cases e:(s.th t).ph=1
  ·rw[h.pc t (by omega)]
  ·rw[if_neg e,if_neg e]
 unfold Aj Cv;rw[h.v,h.f,h.l]
 congr 1
 congr 1
 funext t
 exact a _ _
theorem BN.ready {nv nf nl:Nat} {C:List (List Ad)} {s s':MS} (h:BN s s') (a:AZ nv nf nl C s):AG C s'=AG C s:=by
 unfold AG Dz;rw[h.n]
 congr 1
 apply List.filter_congr
 intro t _;rw[h.can a]
def BC (k:Bool) (C:List (List Ad)) (m:MS):List MS:=(AG C m).map λt=>(Ay k C m t).1
structure FR (nv nf nl:Nat) (C:List (List Ad)) (m m':MS):Prop where
 sim:BN m m'
 ok:AZ nv nf nl C m
 ok':AZ nv nf nl C m'
theorem Ie {C:List (List Ad)} {m:MS} {t:Int} (h:t∈AG C m):AO C m t=0:=by
 unfold AG Dz at h;rw[List.mem_map] at h;obtain⟨u,a,rfl⟩:=h;rw[List.mem_filter] at a;exact of_decide_eq_true a.2
section
variable {nv nf nl:Nat} {C:List (List Ad)} {m m':MS}
theorem abT (a:Ej nv nf nl C) (h:FR nv nf nl C m m') {t:Int} (c:AO C m t=0):FR nv nf nl C (Ay false C m t).1 (Ay true C m' t).1/\(Ay true C m' t).2=(Ay false C m t).2:=by
 obtain⟨u,rfl,d,i,f,s⟩:=Gq a h.ok c;have j:AO C m' u=0:=by rw[h.sim.can h.ok];exact c
 obtain⟨n,e,q,o,r,p⟩:=Gq a h.ok' j;have e:u=n:=by omega
 subst e;have k:=h.sim.th (t:=u) (by omega);have b:=h.sim.step (by rw[h.ok.tl];exact d) i _ f;have l:=JN false h.ok d i f s;have g:=JN true h.ok' q o r p;unfold Ay;rw[Int.toNat_natCast];rw[k] at g |-
 exact⟨⟨b.2,l,g⟩,b.1⟩
theorem abR (b:Ej nv nf nl C) (h:FR nv nf nl C m m'):F2 (FR nv nf nl C) (BC false C m) (BC true C m'):=by
 unfold BC;rw[h.sim.ready h.ok];exact F2.of_map λt a=>(abT b h (Ie a)).1
theorem abS (a:Ej nv nf nl C):FR nv nf nl C (AH nv nf nl C.length) (AH nv nf nl C.length):=⟨BN.refl _,Jo nv nf nl C,Jo nv nf nl C⟩
theorem ae1 (a:Ej nv nf nl C) (p:PD) (most f:Nat) :
 (Cr (Aj p) (BC false C) most f [AH nv nf nl C.length] 0=none/\Cr (Aj p) (BC true C) most f [AH nv nf nl C.length] 0=none)\/
   ∃l r,Cr (Aj p) (BC false C) most f [AH nv nf nl C.length] 0=some l/\Cr (Aj p) (BC true C) most f [AH nv nf nl C.length] 0=some r/\F2 (FR nv nf nl C) l r:=
 Tk (λ_ _ h=>BN.show h.sim) (λ_ _ h=>abR a h) most f _ _ 0 (.cons (abS a) .nil)
end
def Au (m:MS):Nat:=m.thr.countP λth=>th.ph == 1
def Bw (m:MS):Bool:=m.thr.any λth=>th.ph == 3
theorem Og {l:List TS} {t:Nat} (q:TS->Bool) {y:TS} (h:t<l.length):(l.set t y).countP q+(if q (l.getD t AC) then 1 else 0)=l.countP q+(if q y then 1 else 0):=by
 induction l generalizing t with
 |nil=>cases h
 |cons a l b=>
  cases t with
  |zero=>
   rw[X7,aft,aft,List.getD_cons_zero]
   omega
  |succ t=>
   rw[X9,aft,aft,List.getD_cons_succ];have:=b (t:=t) (by simpa using h)
   omega
theorem Ou {l:List TS} {t:Nat} (q:TS->Bool) {y:TS} (h:t<l.length) (b:q (l.getD t AC)=false):(l.set t y).any q=(l.any q||q y):=by
 induction l generalizing t with
 |nil=>cases h
 |cons a l c=>
  cases t with
  |zero=>
   rw[List.getD_cons_zero] at b;rw[X7,Zv,Zv,b,Bool.false_or,Bool.or_comm]
  |succ t=>
   rw[List.getD_cons_succ] at b;rw[X9,Zv,Zv,c (t:=t) (by simpa using h) b,Bool.or_assoc]
structure Ky (s s':MS) (e:Ev):Prop where
 going:(Au s':Int)=Au s+(if e.k=7 then 1 else if e.k=9\/e.k=10 then -1 else 0)
 failed:Bw s'=(Bw s||decide (e.k=9))
section
variable {s s':MS} {t:Nat}
theorem EC {k o v:Int} {t':Int} {th:TS} (b:t<s.thr.length) (d:s'.thr=s.thr.set t th) (c:th.ph=(s.th t).ph) (e:k≠7/\k≠9/\k≠10):Ky s s' ⟨t',k,o,v⟩:=by
 have a:(s.thr.set t th).countP (λth=>th.ph == 1)+(if ((s.thr.getD t AC).ph == 1)=true then 1 else 0)=s.thr.countP (λth=>th.ph == 1)+(if (th.ph == 1)=true then 1 else 0):=Og (λth=>th.ph == 1) (y:=th) b;have g:(th.ph == 1)=((s.thr.getD t AC).ph == 1):=by rw[c];rfl
 have f:Bw s'=Bw s:=by
  unfold Bw;rw[d]
  by_cases q:(s.thr.getD t AC).ph == 3
  ·have h:s.thr.getD t AC∈s.thr:=by rw[Xc,List.getElem?_eq_getElem b];exact List.getElem_mem b
   rw[YD.2 ⟨_,h,q⟩];exact YD.2 ⟨th,List.mem_iff_getElem?.2 ⟨t,by rw[List.getElem?_set,if_pos rfl,if_pos b]⟩,by rw[c];exact q⟩
  ·have q:=Bool.eq_false_iff.2 q;rw[Ou (λth=>th.ph == 3) b q];have:(th.ph == 3)=false:=by rw[c];exact q
   rw[this,Bool.or_false]
 constructor
 ·show (Au s':Int)=Au s+(if k=7 then 1 else if k=9\/k=10 then -1 else 0);rw[if_neg e.1,if_neg (by omega)];unfold Au;rw[d];rw[g] at a
  omega
 ·show Bw s'=(Bw s||decide (k=9));rw[f,decide_eq_false e.2.1,Bool.or_false]
theorem MX {k:Int} {t':Int} {th:TS} (e:t<s.thr.length) (c:s'.thr=s.thr.set t th) (f:(s.th t).ph=1) (l:th.ph=2\/th.ph=3) (h:(k=10/\th.ph=2)\/(k=9/\th.ph=3)):Ky s s' ⟨t',k,0,0⟩:=by
 have a:(s.thr.set t th).countP (λth=>th.ph == 1)+(if ((s.thr.getD t AC).ph == 1)=true then 1 else 0)=s.thr.countP (λth=>th.ph == 1)+(if (th.ph == 1)=true then 1 else 0):=Og (λth=>th.ph == 1) (y:=th) e;have i:((s.thr.getD t AC).ph == 1)=true:=by
  have:(s.thr.getD t AC).ph=1:=f;rw[this];rfl
 have j:(th.ph == 1)=false:=by rcases l with q|q<;>rw[q]<;>rfl
 have b:=Ou (λth=>th.ph == 3) (y:=th) e (by
  have:(s.thr.getD t AC).ph=1:=f;show ((s.thr.getD t AC).ph == 3)=false;rw[this];rfl)
 constructor
 ·show (Au s':Int)=Au s+(if k=7 then 1 else if k=9\/k=10 then -1 else 0);rw[if_neg (by omega),if_pos (by omega)];unfold Au;rw[c];rw[i,j] at a;simp only[if_true,Bool.false_eq_true,if_false] at a
  omega
 ·show Bw s'=(Bw s||decide (k=9));unfold Bw;rw[c,b]
  congr 1
  rcases h with⟨g,d⟩|⟨g,d⟩<;>rw[g,d]<;>rfl
theorem aaR {n:Nat} {o:Int} {t':Int} {th y:TS} (j:t<s.thr.length) (m:n<s.thr.length) (b:s'.thr=(s.thr.set t th).set n y) (r:(s.th n).ph=0) (p:n≠t) (q:th.ph=(s.th t).ph) (l:y.ph=1):Ky s s' ⟨t',7,o,0⟩:=by
 have a:=EC (s:=s) (s':=s.Ae t th) (k:=0) (o:=0) (v:=0) (t':=t') j rfl q ⟨by decide,by decide,by decide⟩;have g:(s.Ae t th).thr.length=s.thr.length:=by show (s.thr.set t th).length=_;rw[List.length_set]
 have e:((s.Ae t th).th n).ph=0:=by rw[Fr s t n th j,if_neg p];exact r
 have b:s'.thr=(s.Ae t th).thr.set n y:=b;generalize s.Ae t th=s2 at a g e b;have i:n<s2.thr.length:=by rw[g];exact m
 have c:(s2.thr.set n y).countP (λth=>th.ph == 1)+(if ((s2.thr.getD n AC).ph == 1)=true then 1 else 0)=s2.thr.countP (λth=>th.ph == 1)+(if (y.ph == 1)=true then 1 else 0):=Og (λth=>th.ph == 1) (y:=y) i;have e:(s2.thr.getD n AC).ph=0:=e;have d:(s2.thr.set n y).any (λth=>th.ph == 3)=(s2.thr.any (λth=>th.ph == 3)||(y.ph == 3)):=Ou (λth=>th.ph == 3) (y:=y) i (by
  show ((s2.thr.getD n AC).ph == 3)=false;rw[e];rfl)
 rw[e,l] at c;rw[l] at d;have u:(Au s2:Int)=Au s+0:=a.going;have f:Bw s2=(Bw s||false):=a.failed;have c2:(s2.thr.set n y).countP (λth=>th.ph == 1)+0=s2.thr.countP (λth=>th.ph == 1)+1:=c;constructor
 ·show (Au s':Int)=Au s+1;unfold Au at u |-;rw[b]
  omega
 ·show Bw s'=(Bw s||decide ((7:Int)=9));have h:(s2.thr.set n y).any (λth=>th.ph == 3)=(Bw s2||false):=d;unfold Bw at f h |-;rw[b,h,f]
  simp
theorem aaQ {x:Ad} (a:t<s.thr.length) (d:(s.th t).ph=1) (c:x.op=BJ->x.x.toNat<s.thr.length/\(s.th x.x.toNat).ph=0):Ky s (Bc false s t x).1 (Bc false s t x).2:=by
 unfold Bc
 by_cases c1:x.op=Eo
 ·rw[if_pos c1];exact EC a rfl rfl ⟨by decide,by decide,by decide⟩
 rw[if_neg c1]
 by_cases c2:x.op=Er
 ·rw[if_pos c2];exact EC a rfl rfl ⟨by decide,by decide,by decide⟩
 rw[if_neg c2]
 by_cases c3:x.op=En
 ·rw[if_pos c3];exact EC a rfl rfl ⟨by decide,by decide,by decide⟩
 rw[if_neg c3]
 by_cases c4:x.op=Ep
 ·rw[if_pos c4];exact EC a rfl rfl ⟨by decide,by decide,by decide⟩
 rw[if_neg c4]
 by_cases c5:x.op=Bu
 ·rw[if_pos c5];exact EC a rfl rfl ⟨by decide,by decide,by decide⟩
 rw[if_neg c5]
 by_cases o:x.op=AM
 ·rw[if_pos o];exact EC a rfl rfl ⟨by decide,by decide,by decide⟩
 rw[if_neg o]
 by_cases l:x.op=Ec
 ·rw[if_pos l];exact EC a rfl rfl ⟨by decide,by decide,by decide⟩
 rw[if_neg l]
 by_cases m:x.op=Eb
 ·rw[if_pos m];exact EC a rfl rfl ⟨by decide,by decide,by decide⟩
 rw[if_neg m]
 by_cases j:x.op=BP
 ·rw[if_pos j];exact EC a rfl rfl ⟨by decide,by decide,by decide⟩
 rw[if_neg j]
 by_cases h:x.op=CI
 ·rw[if_pos h]
  split
  ·exact MX a rfl d (.inr rfl) (.inr ⟨rfl,rfl⟩)
  ·exact EC a rfl rfl ⟨by decide,by decide,by decide⟩
 rw[if_neg h]
 by_cases b:x.op=BJ
 ·rw[if_pos b];exact aaR a (c b).1 rfl (c b).2 (λe=>by have:=(c b).2;rw[e] at this;omega) rfl rfl
 rw[if_neg b]
 by_cases k:x.op=BQ
 ·rw[if_pos k];exact EC a rfl rfl ⟨by decide,by decide,by decide⟩
 rw[if_neg k]
 by_cases n:x.op=Dg
 ·rw[if_pos n];exact EC a rfl rfl ⟨by decide,by decide,by decide⟩
 rw[if_neg n]
 by_cases g:x.op=CX
 ·rw[if_pos g];exact EC a rfl rfl ⟨by decide,by decide,by decide⟩
 rw[if_neg g]
 by_cases f:x.op=CW
 ·rw[if_pos f];exact EC a rfl rfl ⟨by decide,by decide,by decide⟩
 rw[if_neg f]
 by_cases i:x.op=Dh
 ·rw[if_pos i]
  split
  ·exact MX a rfl d (.inr rfl) (.inr ⟨rfl,rfl⟩)
  ·exact EC a rfl rfl ⟨by decide,by decide,by decide⟩
 rw[if_neg i];exact MX a rfl d (.inl rfl) (.inl ⟨rfl,rfl⟩)
end
def Ca (e:Ev) (x:Int):Bool:=e.o == x&&(e.k == 1||e.k == 2)
def DS (a b:Ev) (x:Int):Bool:=Ca a x&&Ca b x&&(a.k == 2||b.k == 2)
theorem Ee {w:Xh} {b T:Nat} {c a e d:Xk} (h:w.heap[b]?=some (.cells #[c,a,e,d] T)):w.cell? ⟨b,0,none⟩=some c/\w.cell? ⟨b,1,none⟩=some a/\w.cell? ⟨b,2,none⟩=some e/\w.cell? ⟨b,3,none⟩=some d:=by
 refine⟨?_,?_,?_,?_⟩<;>simp[Xg,h]
theorem SJ (e:Ev) (x:Int) (w:Xh) :
 XX Tryz.prog 122 #[.agg (DQ e),.int .i64 x] w λr w'=>r = .returned (.bool (Ca e x))/\Xm w.heap.size w w':=by
 obtain⟨t,k,o,v⟩:=e;unfold DQ Ca;dsimp only;obtain⟨W,a⟩:∃W,w.alloc (.cells #[.int .i64 t,.int .i64 k,.int .i64 o,.int .i64 v] 48)=W:=⟨_,rfl⟩;have b:Xm w.heap.size w W:=by rw[<-a];exact(Xq _ _).alloc (Xd _) _
 have c:W.heap[w.heap.size]?=some (.cells #[.int .i64 t,.int .i64 k,.int .i64 o,.int .i64 v] 48):=by rw[<-a];exact Xi w _
 obtain⟨c0,c1,c2,c3⟩:=Ee c;have d:=Aa b;clear b c
 cases g:(o == x)<;>cases h:(k == 1)<;>cases f:(k == 2)<;>
 ·go_enter Tryz.func122,Tryz.ntmps122
  go_upto_region 1 with fail
  try rw[a]
  clear a
  go_wp2_with fail
  go_ret
  exact⟨rfl,d.out⟩
theorem aex (a b:Ev) (x:Int) (w:Xh) :
 XX Tryz.prog 59 #[.agg (DQ a),.agg (DQ b),.int .i64 x] w λr w'=>r = .returned (.bool (DS a b x))/\Xm w.heap.size w w':=by
 have h:=Aa (SJ a x);have g:=Aa (SJ b x);unfold DS;obtain⟨at',i,v,y⟩:=a;obtain⟨t,l,z,s⟩:=b;unfold DQ at h g |-;dsimp only at h g |-;generalize Ca ⟨at',i,v,y⟩ x=p at h |-;generalize Ca ⟨t,l,z,s⟩ x=q at g |-;obtain⟨d,o⟩:∃W,w.alloc (.cells #[.int .i64 at',.int .i64 i,.int .i64 v,.int .i64 y] 48)=W:=⟨_,rfl⟩;obtain⟨W,k⟩:∃W,d.alloc (.cells #[.int .i64 t,.int .i64 l,.int .i64 z,.int .i64 s] 48)=W:=⟨_,rfl⟩;have A:Xm w.heap.size w d:=by rw[<-o];exact(Xq _ _).alloc (Xd _) _
 have C:Xm d.heap.size d W:=by rw[<-k];exact(Xq _ _).alloc (Xd _) _
 have J:d.heap.size=w.heap.size+1:=by rw[<-o];show (w.heap.push _).size=_;simp
 have n:d.heap[w.heap.size]?=some (.cells #[.int .i64 at',.int .i64 i,.int .i64 v,.int .i64 y] 48):=by rw[<-o];exact Xi w _
 have D:W.heap[w.heap.size+1]?=some (.cells #[.int .i64 t,.int .i64 l,.int .i64 z,.int .i64 s] 48):=by rw[<-k,<-J];exact Xi d _
 replace n:=(C.block w.heap.size (by omega)).trans n;have E:=A.trans (C.mono A.size);have m:Hid (∀u,Xm W.heap.size W u->(u.cell? ⟨w.heap.size,0,none⟩=some (.int .i64 at')/\u.cell? ⟨w.heap.size,1,none⟩=some (.int .i64 i)/\u.cell? ⟨w.heap.size,2,none⟩=some (.int .i64 v)/\u.cell? ⟨w.heap.size,3,none⟩=some (.int .i64 y))/\u.cell? ⟨w.heap.size+1,0,none⟩=some (.int .i64 t)/\u.cell? ⟨w.heap.size+1,1,none⟩=some (.int .i64 l)/\u.cell? ⟨w.heap.size+1,2,none⟩=some (.int .i64 z)/\u.cell? ⟨w.heap.size+1,3,none⟩=some (.int .i64 s)):=λu H=>⟨Ee ((H.block _ (Xa.1 n).1).trans n),Ee ((H.block _ (Xa.1 D).1).trans D)⟩
 obtain⟨⟨c0,c1,c2,c3⟩,-⟩:=m.out W (Xq _ _);have f:=Aa E;rw[<-o] at k;clear o A C J n D E d
 cases O:(i == 2)<;>cases N:(l == 2)<;>
 ·go_enter Tryz.func59,Tryz.ntmps59
  go_upto_region 1 with fail
  try rw[k]
  clear k
  go_wp2_with fail
  refine(h.out _).mono ?_;rintro e w1 ⟨rfl,c⟩;clear c0 c1 c2 c3;obtain⟨⟨c0,c1,c2,c3⟩,M,I,F,K⟩:=m.out w1 c;replace c:=Aa c
  cases p with
  |false=>
   have B:=Aa (f.out.trans (c.out.mono f.out.size));clear h g m f c
   go_wp2_with fail
   go_ret
   exact⟨rfl,B.out⟩
  |true=>
   go_wp2_with fail
   refine(g.out _).mono ?_;rintro e G ⟨rfl,j⟩;have j:Xm W.heap.size W G:=c.out.trans (j.mono c.out.size);clear c0 c1 c2 c3 M I F K;obtain⟨⟨c0,c1,c2,c3⟩,M,I,F,K⟩:=m.out G j;have B:=Aa (f.out.trans (j.mono f.out.size));clear h g m f c j
   cases q<;>
   ·go_wp2_with fail
    go_ret
    exact⟨rfl,B.out⟩
def Bb (w:Xh) (b:Nat) (mv:Xk) (sh:Tx) (g:Int) (f:Bool) (mo fr:Xk) (y:Int) (nx:Xk):Prop:=w.heap[b]?=some (.cells #[mv,.string (bs sh),.int .i64 g,.bool f,mo,fr,.int .i64 y,nx] 75)
theorem DR {w:Xh} {b T:Nat} {f e i g c v5 d a:Xk} (h:w.heap[b]?=some (.cells #[f,e,i,g,c,v5,d,a] T)):w.cell? ⟨b,0,none⟩=some f/\w.cell? ⟨b,1,none⟩=some e/\w.cell? ⟨b,2,none⟩=some i/\w.cell? ⟨b,3,none⟩=some g/\w.cell? ⟨b,4,none⟩=some c/\w.cell? ⟨b,5,none⟩=some v5/\w.cell? ⟨b,6,none⟩=some d/\w.cell? ⟨b,7,none⟩=some a:=by
 refine⟨?_,?_,?_,?_,?_,?_,?_,?_⟩<;>simp[Xg,h]
theorem SG {w:Xh} {b n c:Nat} {a:Option Addr} {mv fr nx:Xk} {sh:Tx} {g y:Int} {f:Bool} (h:Bb w b mv sh g f (.slice a n c) fr y nx) :
 XX Tryz.prog 25 #[Ab b] w λr w'=>r = .returned (.bool (decide (n=0)))/\w'=w:=by
 obtain⟨c0,c1,c2,c3,c4,c5,k,j⟩:=DR h;clear h;unfold Ab;have i:((n:Int) == 0)=decide (n=0):=by
  by_cases e:n=0
  ·subst e;rfl
  ·rw[decide_eq_false e];have:(n:Int)≠0:=by omega
   simpa using this
 generalize decide (n=0)=d at i |-
 cases d<;>
 ·go_enter Tryz.func25,Tryz.ntmps25
  go_wp2_with fail
  go_ret
  exact⟨rfl,rfl⟩
def Gj (g k:Int):Int:=g+(if k=7 then 1 else if k=9\/k=10 then -1 else 0)
theorem ac5 (g:Int):Gj g 7=g+1:=rfl
theorem ac4 (g:Int):Gj g 9=g - 1:=rfl
theorem ac6 (g:Int):Gj g 10=g - 1:=rfl
theorem ac3 {g k:Int} (a:k≠7) (c:k≠9) (b:k≠10):Gj g k=g:=by
 unfold Gj;rw[if_neg a,if_neg (by omega)]
 omega
theorem aeM {w:Xh} {b:Nat} {mv mo fr nx:Xk} {mb:Nat} {sh sh2:Tx} {g y:Int} {f:Bool} (h:Bb w b mv sh g f mo fr y nx) (m:0<=g/\g<=4) (e:Ev) :
 XX Tryz.prog 148 #[Ab b,.agg (DQ e),.pointer (some ⟨mb,0,none⟩),.string (bs sh2)] w λr w'=>∃q,r = .returned (Ab q)/\w.heap.size<=q/\Bb w' q (Ab mb) sh2 (Gj g e.k) (f||decide (e.k=9)) (.slice none 0 0) (Ab b) e.t (.pointer none)/\Xm w.heap.size w w':=by
 obtain⟨t,k,o,v⟩:=e;unfold DQ Ab Bb;dsimp only;obtain⟨W,D⟩:∃W,w.alloc (.cells #[.int .i64 t,.int .i64 k,.int .i64 o,.int .i64 v] 48)=W:=⟨_,rfl⟩;have j:Xm w.heap.size w W:=by rw[<-D];exact(Xq _ _).alloc (Xd _) _
 have M:W.heap[w.heap.size]?=some (.cells #[.int .i64 t,.int .i64 k,.int .i64 o,.int .i64 v] 48):=by rw[<-D];exact Xi w _
 have z:W.heap.size=w.heap.size+1:=by rw[<-D];show (w.heap.push _).size=_;simp
 have T:=(j.block b (Xa.1 h).1).trans h;have R:Hid (∀u,Xm W.heap.size W u->(u.cell? ⟨b,2,none⟩=some (.int .i64 g)/\u.cell? ⟨b,3,none⟩=some (.bool f))/\u.cell? ⟨w.heap.size,0,none⟩=some (.int .i64 t)):=λu N=>by
  obtain⟨-,-,c2,c3,-⟩:=DR ((N.block _ (Xa.1 T).1).trans T)
  exact⟨⟨c2,c3⟩,(Ee ((N.block _ (Xa.1 M).1).trans M)).1⟩
 have C:Hid (∀u,Xm W.heap.size W u->u.cell? ⟨w.heap.size,1,none⟩=some (.int .i64 k)):=λu N=>(Ee ((N.block _ (Xa.1 M).1).trans M)).2.1;have U:Xm W.heap.size W W.drew:=⟨rfl,rfl,rfl,Xd _,λ_ _=>rfl⟩;have Q:=Aa (R.out W.drew U);have G:=Aa (⟨j,z,m⟩:_/\_/\_);clear h j M z T m
 go_enter Tryz.func148,Tryz.ntmps148
 go_upto_region 1 with fail
 try rw[D]
 clear D;refine Xx (S:=(λu=>(u.cell? ⟨b,2,none⟩=some (.int .i64 g)/\u.cell? ⟨b,3,none⟩=some (.bool f))/\u.cell? ⟨w.heap.size,0,none⟩=some (.int .i64 t))) (by kernel_rfl) Q.out (λa=>?_);refine tk 0 a ?_;refine tk 1 a ?_;refine tk 2 a ?_;refine tk 3 a ?_;refine tk 4 a ?_;refine tk 5 a ?_;refine tk 6 a ?_;refine tk 7 a ?_;refine tk 8 a ?_;refine tk 9 a ?_;refine tk 10 a ?_;refine tk 11 a ?_;refine tk 12 a ?_;refine rd 13 (λK E=>?_);refine JG _ _ rfl [(0,.pointer (some ⟨mb,0,none⟩)),(1,.string (bs sh2)),(2,.int .i64 g),(3,.bool f),(5,.pointer (some ⟨b,0,none⟩)),(6,.int .i64 t)] rfl #[.pointer (some ⟨mb,0,none⟩),.string (bs sh2),.int .i64 g,.bool f,.slice none 0 0,.pointer (some ⟨b,0,none⟩),.int .i64 t,.pointer none] (by rfl) ?_;refine E.out _ _ Q.out (λa=>?_);clear E K
 try simp only[XF,sq]
 refine rd 14 (λK E=>?_)
 go_simp
 obtain⟨V,O⟩:∃V,(W.alloc (.cells #[.pointer (some ⟨mb,0,none⟩),.string (bs sh2),.int .i64 g,.bool f,.slice none 0 0,.pointer (some ⟨b,0,none⟩),.int .i64 t,.pointer none] 75)).drew=V:=⟨_,rfl⟩;have s:Xm W.heap.size W V:=by rw[<-O];exact((Xq _ _).alloc (Xd _) _).drew
 have i:V.heap[W.heap.size]?=some (.cells #[.pointer (some ⟨mb,0,none⟩),.string (bs sh2),.int .i64 g,.bool f,.slice none 0 0,.pointer (some ⟨b,0,none⟩),.int .i64 t,.pointer none] 75):=by rw[<-O];exact Xi W _
 try rw[O]
 clear O;refine E.out _ _ (R.out V s) (λa=>?_);clear E K
 try simp only[XF,sq]
 refine tk 15 a ?_;refine Yd (by kernel_rfl) ?_ _;clear a Q U R;obtain⟨q,hq⟩:∃q,W.heap.size=q:=⟨_,rfl⟩;rw[hq] at i |-;have e1:=C.out V s;obtain⟨d0,d1,d2,d3,d4,d5,d6,d7⟩:=DR i;have ag:V.frozen? ⟨q,2,none⟩=false:=by simp[XP,i]
 have aa:V.frozen? ⟨q,3,none⟩=false:=by simp[XP,i]
 obtain⟨j,z,m⟩:=G.out;have l:=j.trans (s.mono j.size);have d:w.heap.size<=q:=by omega
 have x:∀n:Int,(V.setCell ⟨q,2,none⟩ (.int .i64 n)).heap[q]?=some (.cells #[.pointer (some ⟨mb,0,none⟩),.string (bs sh2),.int .i64 n,.bool f,.slice none 0 0,.pointer (some ⟨b,0,none⟩),.int .i64 t,.pointer none] 75):=λn=>(Xj V q 2 _ _ (.int .i64 n) i).trans rfl
 by_cases B:k=7
 ·subst B;have J:XO (g+1)=g+1:=by unfold XO;omega
  have c:=Aa (⟨d,x (g+1),(l.setCell (p:=⟨q,2,none⟩) d _:Xm w.heap.size w (V.setCell ⟨q,2,none⟩ (.int .i64 (g+1))))⟩:_/\_/\_);clear j z m s i l d G C x
  go_wp2_with fail
  go_ret
  (try rw[J])
  refine⟨q,rfl,c.out.1,?_,c.out.2.2⟩;rw[ac5]
  (try rw[show (f||decide ((7:Int)=9))=f by simp])
  exact c.out.2.1
 by_cases I:k=10
 ·subst I;have J:XO (g - 1)=g - 1:=by unfold XO;omega
  have c:=Aa (⟨d,x (g - 1),(l.setCell (p:=⟨q,2,none⟩) d _:Xm w.heap.size w (V.setCell ⟨q,2,none⟩ (.int .i64 (g - 1))))⟩:_/\_/\_);clear j z m s i l d G C x B
  go_wp2_with fail
  go_ret
  (try rw[J])
  refine⟨q,rfl,c.out.1,?_,c.out.2.2⟩;rw[ac6]
  (try rw[show (f||decide ((10:Int)=9))=f by simp])
  exact c.out.2.1
 by_cases F:k=9
 ·subst F;have J:XO (g - 1)=g - 1:=by unfold XO;omega
  obtain⟨A,P⟩:∃A,V.setCell ⟨q,2,none⟩ (.int .i64 (g - 1))=A:=⟨_,rfl⟩;have H:=x (g - 1);rw[P] at H;have Z:(A.setCell ⟨q,3,none⟩ (.bool true)).heap[q]?=some (.cells #[.pointer (some ⟨mb,0,none⟩),.string (bs sh2),.int .i64 (g - 1),.bool true,.slice none 0 0,.pointer (some ⟨b,0,none⟩),.int .i64 t,.pointer none] 75):=(Xj A q 3 _ _ (.bool true) H).trans rfl;have Y:Xm w.heap.size w A:=by rw[<-P];exact l.setCell (p:=⟨q,2,none⟩) d _
  have c:=Aa (⟨d,Z,(Y.setCell (p:=⟨q,3,none⟩) d _:Xm w.heap.size w (A.setCell ⟨q,3,none⟩ (.bool true)))⟩:_/\_/\_);obtain⟨e0,aq,e2,e3,e4,e5,e6,e7⟩:=DR H;have ao:A.frozen? ⟨q,3,none⟩=false:=by simp[XP,H]
  clear j z m s i l d G C x Z B I Y H
  go_upto_region 9 with fail
  try rw[J]
  try rw[P]
  clear P d0 d1 d2 d3 d4 d5 d6 d7 ag aa e1
  go_wp2_with fail
  go_ret
  refine⟨q,rfl,c.out.1,?_,c.out.2.2⟩;rw[ac4]
  (try rw[show (f||decide ((9:Int)=9))=true by simp])
  exact c.out.2.1
 ·have b7:(k == 7)=false:=by simpa using B
  have aA:(k == 10)=false:=by simpa using I
  have b9:(k == 9)=false:=by simpa using F
  have c:=Aa (⟨d,i,l⟩:_/\_/\_);have X:Hid (Gj g k=g/\(f||decide (k=9))=f):=⟨ac3 B F I,by simp[F]⟩;clear j z m s i l d G C x B I F
  go_wp2_with fail
  go_ret
  refine⟨q,rfl,c.out.1,?_,c.out.2.2⟩;rw[X.out.1,X.out.2];exact c.out.2.1
end Go.Proofs.YtdcacoifehkioaaGreatDoor
