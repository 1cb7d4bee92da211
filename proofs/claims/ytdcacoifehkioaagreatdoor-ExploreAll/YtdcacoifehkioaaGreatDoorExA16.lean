import Derived.Test.YtdcacoifehkioaaGreatDoorExA3
import Derived.Test.YtdcacoifehkioaaGreatDoorExA15
import Derived.Test.YtdcacoifehkioaaGreatDoorExA12
import Derived.Test.YtdcacoifehkioaaGreatDoorExA14
import Derived.Test.YtdcacoifehkioaaGreatDoorExA13
import Derived.BigQuiet
import Derived.BigRegion
open Go renaming World->Xh,Value->Xk,Calls->XY,wp_region_held_drew->Xy,wpAnyH_done->Yd
open Go.RowKit renaming Below->Xm,wrap64->XN
open Nat renaming le_refl->Xd
open Go.World renaming alloc_heap_new->Xi,cell?->Xg
open List renaming replicate->Xr,length_map->Xp,getElem?_eq_getElem->Xe
open Go.Act renaming put->XG
set_option maxRecDepth 100000
set_option maxHeartbeats 2000000
set_option linter.unusedVariables false
set_option linter.unusedSimpArgs false
namespace Go.Proofs.YtdcacoifehkioaaGreatDoor
open Go.RowKit Go.Proofs.Cod
section
variable {w w':Xh} {b:Nat}
def Ap (vs fs ls:List Tx) (L:List (Tx×Xk)) (C:List (List Ad)):PD:=⟨vs,fs,ls,L.map Prod.fst,C⟩
structure Hs (vs fs ls:List Tx) (L:List (Tx×Xk)) (C:List (List Ad)):Prop where
 v:vs.length<=4
 f:fs.length<=4
 l:ls.length<=4
 t:L.length<=4
 c:∀c,c∈C->c.length<=24
theorem abb {base:Nat} {vV fV lV a6:Xk} {vs fs ls:List Tx} {L:List (Tx×Xk)} {C:List (List Ad)} (n:BZ w base vV fV lV a6 vs fs ls L C) (r:Hs vs fs ls L C) :
 XY Tryz.prog 13 #[.agg #[vV,fV,lV,a6]] w λe w'=>∃b,e = .returned (Ab b)/\w.heap.size<=b/\Bn w' b (Ap vs fs ls L C) (AJ vs.length fs.length ls.length L.length)/\Xm w.heap.size w w':=by
 obtain⟨va,vc,hv,a8⟩:=IF n.v rfl;obtain⟨fa,fc,hf,bn⟩:=IF n.f rfl;obtain⟨la,lc,hl,bd⟩:=IF n.l rfl;obtain⟨ta,tc,ax⟩:=As n.t;subst hv hf hl ax;obtain⟨h,ad⟩:∃h,w.alloc (.cells #[.slice va vs.length vc,.slice fa fs.length fc,.slice la ls.length lc,.slice ta L.length tc] 25)=h:=⟨_,rfl⟩;have z:Xm w.heap.size w h:=by rw[<-ad];exact(Below.refl _ _).alloc (Xd _) _
 have au:h.heap[w.heap.size]?=some (.cells #[.slice va vs.length vc,.slice fa fs.length fc,.slice la ls.length lc,.slice ta L.length tc] 25):=by rw[<-ad];exact Xi w _
 have aD:h.heap.size=w.heap.size+1:=by rw[<-ad];show (w.heap.push _).size=_;simp
 have D:∀B,Xm h.heap.size h B->B.cell? ⟨w.heap.size,0,none⟩=some (.slice va vs.length vc)/\B.cell? ⟨w.heap.size,1,none⟩=some (.slice fa fs.length fc)/\B.cell? ⟨w.heap.size,2,none⟩=some (.slice la ls.length lc)/\B.cell? ⟨w.heap.size,3,none⟩=some (.slice ta L.length tc):=λB V=>by
  have q:=(V.block w.heap.size (by omega)).trans au
  exact⟨by simp[Xg,q],by simp[Xg,q],by simp[Xg,q],by simp[Xg,q]⟩
 have aq:=λB (V:Xm h.heap.size h B)=>Nb (cap:=vc) rfl (a8.below (z.trans (V.mono z.size))) r.v 0;have ak:=λB (V:Xm h.heap.size h B)=>Nb (cap:=fc) rfl (bn.below (z.trans (V.mono z.size))) r.f 0;have am:=λB (V:Xm h.heap.size h B)=>Nb (cap:=lc) rfl (bd.below (z.trans (V.mono z.size))) r.l (-1);obtain⟨R1,ai⟩:∃R,Dc 9 (BK vs (Xr vs.length 0))=R:=⟨_,rfl⟩;obtain⟨R2,aW⟩:∃R,Dc 9 (BK fs (Xr fs.length 0))=R:=⟨_,rfl⟩;obtain⟨R3,aP⟩:∃R,Dc 9 (BK ls (Xr ls.length (-1)))=R:=⟨_,rfl⟩;obtain⟨M,u⟩:∃M,Dc 856 (Ff (Ap vs fs ls L C) 0)=M:=⟨_,rfl⟩;have ay:Tryz.prog.built 117 [(0,.agg R1),(1,.agg R2),(2,.agg R3),(4,.int .i64 L.length)]=some M:=by
  have q:=abA (λk=>if k<9 then BK vs (Xr vs.length 0) k else if k<18 then BK fs (Xr fs.length 0) (k - 9) else BK ls (Xr ls.length (-1)) (k - 18)) L.length;rw[<-ai,<-aW,<-aP,<-u,<-abs];rw[show (Ap vs fs ls L C).ts.length=L.length from Xp _];exact q
 simp only[ai] at aq;simp only[aW] at ak;simp only[aP] at am;have HP:=Aa (⟨n,r,z,aD,au⟩:_/\_/\_/\_/\_);replace aq:=Aa aq;replace ak:=Aa ak;replace am:=Aa am;replace D:=Aa D;replace ay:=Aa ay;replace u:=Aa u;obtain⟨c0,c1,c2,c3⟩:=D.out h.drew (⟨rfl,rfl,rfl,Xd _,λ_ _=>rfl⟩);clear n r z au aD ai aW aP a8 bn bd
 go_enter Tryz.func13,Tryz.ntmps13
 go_wp2_with fail
 try rw[ad]
 replace ad:=Aa ad;have hd:Xm h.heap.size h h.drew:=⟨rfl,rfl,rfl,Xd _,λ_ _=>rfl⟩;refine Xy (S:=(λw'=>w'.cell? ⟨w.heap.size,0,none⟩=some (.slice va vs.length vc)/\w'.cell? ⟨w.heap.size,1,none⟩=some (.slice fa fs.length fc)/\w'.cell? ⟨w.heap.size,2,none⟩=some (.slice la ls.length lc)/\w'.cell? ⟨w.heap.size,3,none⟩=some (.slice ta L.length tc))) (by kernel_rfl) ⟨c0,c1,c2,c3⟩ (λd=>?_);clear c0 c1 c2 c3;refine tk 0 d ?_;refine tk 1 d ?_;refine tk 3 d ?_;refine tk 4 d ?_;refine tk 6 d ?_;refine tk 7 d ?_;refine tk 9 d ?_;refine tk 10 d ?_;refine tk 11 d ?_;refine rd 2 (λK a=>?_)
 go_simp
 go_at_call 38
 refine(aq.out _ hd).mono ?_;rintro e v1 ⟨rfl,G⟩;replace G:Xm h.heap.size h v1:=hd.trans (G.mono hd.size);obtain⟨c0,c1,c2,c3⟩:=D.out v1 G;replace G:=Aa G
 go_wp2_with fail
 refine a.out _ _ ⟨c0,c1,c2,c3⟩ (λd=>?_);clear a K c0 c1 c2 c3
 try simp only[XG,sq]
 refine rd 5 (λK a=>?_)
 go_simp
 go_at_call 38
 refine(ak.out _ G.out).mono ?_;rintro e v2 ⟨rfl,H⟩;replace H:Xm h.heap.size h v2:=G.out.trans (H.mono G.out.size);obtain⟨c0,c1,c2,c3⟩:=D.out v2 H;replace H:=Aa H
 go_wp2_with fail
 refine a.out _ _ ⟨c0,c1,c2,c3⟩ (λd=>?_);clear a K c0 c1 c2 c3
 try simp only[XG,sq]
 refine rd 8 (λK a=>?_)
 go_simp
 go_at_call 38
 refine(am.out _ H.out).mono ?_;rintro e E ⟨rfl,y⟩;replace y:Xm h.heap.size h E:=H.out.trans (y.mono H.out.size);obtain⟨c0,c1,c2,c3⟩:=D.out E y;replace y:=Aa y
 go_wp2_with fail
 refine a.out _ _ ⟨c0,c1,c2,c3⟩ (λd=>?_);clear a K c0 c1 c2 c3
 try simp only[XG,sq]
 refine rd 12 (λK a=>?_);refine JC _ _ rfl [(0,.agg R1),(1,.agg R2),(2,.agg R3),(4,.int .i64 L.length)] rfl M ay.out ?_;obtain⟨c0,c1,c2,c3⟩:=D.out E y.out;refine a.out _ _ ⟨c0,c1,c2,c3⟩ (λd=>?_);clear a K
 try simp only[XG,sq]
 refine rd 13 (λK a=>?_);refine Uu _ _ rfl M rfl ?_;obtain⟨O,aE⟩:∃O,E.alloc (.cells M 117)=O:=⟨_,rfl⟩;rw[aE];have I:Xm E.heap.size E O:=by rw[<-aE];exact(Below.refl _ _).alloc (Xd _) _
 replace I:Xm h.heap.size h O:=y.out.trans (I.mono y.out.size);have aa:Am O E.heap.size 117 856 (Ff (Ap vs fs ls L C) 0):=by
  have q:=Am.new (f:=Ff (Ap vs fs ls L C) 0) E M 117 (λk X=>by rw[<-u.out] at X |-;rw[IG] at X;simp[Dc,X]);rw[aE,<-u.out,IG] at q;exact q
 obtain⟨c0,c1,c2,c3⟩:=D.out O I;refine a.out _ _ ⟨c0,c1,c2,c3⟩ (λd=>?_);clear a K
 try simp only[XG,sq]
 refine tk 14 d ?_;refine Yd (by kernel_rfl) ?_ _;have hD:=adU O;have HQ:=Aa (⟨I,aa,y.out⟩:_/\_/\_);clear d I aa G H y hd aE ay aq ak am u c0 c1 c2 c3
 go_wp2_with fail
 refine hD.mono ?_;rintro e W5 ⟨rfl,N,aL⟩;obtain⟨I,aa,y⟩:=HQ.out;obtain⟨n,r,z,aD,au⟩:=HP.out;have aS:Xm h.heap.size h W5:=I.trans (aL.mono I.size);obtain⟨-,-,-,c3⟩:=D.out W5 aS;have ah:=aa.lt;have ac:=aa.below aL;have A:Xm w.heap.size w W5:=z.trans (aS.mono z.size);have P:w.heap.size<E.heap.size:=by have:=y.size;omega
 have HR:=Aa (⟨ac,N,A,P,ah,n,r⟩:_/\_/\_/\_/\_/\_/\_);clear I aa y n r z aD au aS ac A P HQ HP hD N aL D ah;obtain⟨mb,aR⟩:∃mb,E.heap.size=mb:=⟨_,rfl⟩;obtain⟨m,aU⟩:∃m,O.heap.size=m:=⟨_,rfl⟩;rw[aR,aU] at HR
 go_wp2_with fail
 try rw[aR]
 try rw[aU]
 clear aR aU
 go_loopw [25] (λiv wr=>∃i:Nat,i<=L.length/\iv = .int .i64 i/\Am wr mb 117 856 (Ff (Ap vs fs ls L C) i)/\Ac (λk=>k=mb) W5 wr) (λiv _=>L.length - (intOf iv).toNat)
 case atStart=>exact⟨0,Nat.zero_le _,rfl,HR.out.1,Ac.refl _⟩
 case round=>
  obtain⟨i,hi,rfl,u,a⟩:=hrel;obtain⟨ac,N,A,P,ah,n,r⟩:=HR.out;have aJ:=N.lt;have Z:Xm w.heap.size w wr:=⟨a.os.trans A.os,a.tape.trans A.tape,a.output.trans A.output,Nat.le_trans A.size a.size,λk X=>(a.block k (by have:=A.size;omega) (by omega)).trans (A.block k X)⟩;have ar:=n.below Z;have aj:Gu wr m:=N.same (a.block m aJ (by omega))
  by_cases h5:i<L.length
  ·obtain⟨q,hq⟩:∃q,L[i]?=some q:=⟨_,Xe h5⟩;obtain⟨c,hc⟩:∃c,C[i]?=some c:=⟨_,Xe (by rw[n.len];exact h5)⟩;have bt:i<4:=by have:=r.t;omega
   have bL:(i:Int)<4:=by omega
   have bH:(i:Int)<(L.length:Int):=by omega
   have bc:=r.c c (List.mem_of_getElem? hc);obtain⟨g,cap,bu,bx,t0,t1⟩:=ar.JH hq;injection bu with hta hn1 hcap
   subst hta;clear hn1 hcap;have aC:=ar.c i q c hq hc;have ax:BR ((Ap vs fs ls L C).ts.getD i []) ((Ap vs fs ls L C).C[i]?) AC=BR q.1 (some c) AC:=by
    show BR ((L.map Prod.fst).getD i []) (C[i]?) AC=_;rw[hc,List.getD_eq_getElem?_getD,List.getElem?_map,hq];rfl
   obtain⟨nm,cv⟩:=q;dsimp only at t0 t1 aC ax;obtain⟨ca,ag,bz⟩:=As aC;subst bz;obtain⟨F,aV⟩:∃F,wr.alloc (.cells #[.string (bs nm),.slice ca c.length ag] 122)=F:=⟨_,rfl⟩;have W:Xm wr.heap.size wr F.drew:=by rw[<-aV];exact((Below.refl _ _).alloc (Xd _) _).drew
   have av:F.drew.heap[wr.heap.size]?=some (.cells #[.string (bs nm),.slice ca c.length ag] 122):=by rw[<-aV];exact Xi wr _
   have aQ:=abc nm (EH aC W) bc (aj.same (W.block m aj.lt));have s0:F.drew.cell? ⟨wr.heap.size,0,none⟩=some (.string (bs nm)):=by simp[Xg,av]
   have s1:F.drew.cell? ⟨wr.heap.size,1,none⟩=some (.slice ca c.length ag):=by simp[Xg,av]
   obtain⟨R,hR⟩:∃R,Dc 207 (BR nm (some c) AC)=R:=⟨_,rfl⟩;rw[hR] at aQ;have bm:R.size=207:=by rw[<-hR,IG]
   have ai:∀x∈R.toList,x.oneCell'=true:=by rw[<-hR];exact JU _ 207 (Mq _ _ _)
   have bp:(Tryz.prog.info? 114).map (·.size)=some R.size:=by rw[bm];exact Tryz.sizeTh
   have HF:Hid (∀o,Xm F.drew.heap.size F.drew o->(o.cell? ⟨wr.heap.size,0,none⟩=some (.string (bs nm))/\o.cell? ⟨wr.heap.size,1,none⟩=some (.slice ca c.length ag))/\(∀j,j<R.size->(o.cell? ⟨mb,27+i*207+j,none⟩).isSome=true)/\(∀j,j<R.size->o.frozen? ⟨mb,27+i*207+j,none⟩=false)/\Am (o.setCells mb (27+i*207) R.toList) mb 117 856 (Ff (Ap vs fs ls L C) (i+1))/\Ac (λk=>k=mb) W5 (o.setCells mb (27+i*207) R.toList)/\((o.setCells mb (27+i*207) R.toList).cell? ⟨wr.heap.size,0,none⟩=some (.string (bs nm))/\(o.setCells mb (27+i*207) R.toList).cell? ⟨wr.heap.size,1,none⟩=some (.slice ca c.length ag))):=λo Q=>by
    have bE:wr.heap.size<F.drew.heap.size:=(Array.getElem?_eq_some_iff.1 av).1;have q6:=(Q.block _ bE).trans av;have aK:Am o mb 117 856 (Ff (Ap vs fs ls L C) i):=u.below (W.trans (Q.mono W.size));have a1:=EZ (S:=λk=>k=mb) (w:=o) (b:=mb) R.toList (27+i*207) (Ac.refl o) (.inl rfl);have bG:=u.lt;have q7:=(a1.block wr.heap.size (by have:=Q.size;omega) (by omega)).trans q6;refine⟨⟨by simp[Xg,q6],by simp[Xg,q6]⟩,λj hj=>by rw[aK.cell (by omega)];rfl,λj _=>aK.frozen _,?_,?_,⟨by simp[Xg,q7],by simp[Xg,q7]⟩⟩
    ·have q:=aK.aat bt;rw[ax,hR] at q;exact q
    ·exact(a.trans (Ac.DM (W.trans (Q.mono W.size)))).trans a1
   have aB:=Aa (⟨ai,bp,h5⟩:_/\_/\_);have bl:XN ((i:Int)+1)=(i:Int)+1:=by unfold XN;omega
   clear u a ac N A P ah n r aJ Z ar aj hq hc bc bx aC ax W av hR bm ai bp h5 hi HR
   go_wp2_with fail
   try rw[aV]
   refine Xy (S:=(λw'=>w'.cell? ⟨wr.heap.size,0,none⟩=some (.string (bs nm))/\w'.cell? ⟨wr.heap.size,1,none⟩=some (.slice ca c.length ag))) (by kernel_rfl) ⟨s0,s1⟩ (λd=>?_);clear s0 s1;refine tk 0 d ?_;refine tk 1 d ?_;refine tk 2 d ?_;refine tk 3 d ?_;refine tk 5 d ?_;refine tk 6 d ?_;refine rd 4 (λK a=>?_)
   go_simp
   go_at_call 40
   refine aQ.mono ?_;rintro e o ⟨rfl,Q⟩;obtain⟨g1,g2,g3,g4,g5,g6⟩:=HF.out o Q;replace g2:=Aa g2;replace g3:=Aa g3;replace g4:=Aa g4;replace g5:=Aa g5
   go_wp2_with fail
   refine a.out _ _ g1 (λd=>?_);clear a K Q aQ HF
   try simp only[XG,sq]
   refine tk 7 d ?_;refine rd 8 (λK a=>?_);refine Fp _ _ _ rfl mb (27+i*207) R rfl rfl g2.out g3.out aB.out.2.1 aB.out.1 ?_;refine a.out _ _ g6 (λd=>?_);clear a K
   try simp only[XG,sq]
   refine Yd (by kernel_rfl) ?_ _;clear d g1 g6
   go_wp2_with fail
   go_roundw
   case rel=>
    (try rw[bl])
    exact⟨i+1,aB.out.2.2,rfl,g4.out,g5.out⟩
   case measure=>
    (try rw[bl])
    exact Nat.sub_lt_sub_left aB.out.2.2 (Nat.lt_succ_self i)
  ·have bD:i=L.length:=by omega
   subst bD;have J:(Ap vs fs ls L C).ts.length=L.length:=Xp _;have U:Am wr mb 117 856 (Az (Ap vs fs ls L C) (Eu (Ap vs fs ls L C))):=u.congr λk X=>by rw[<-J];exact abt _ (by show C.length=_;rw[J];exact n.len) k X
   have d1:=Lr U;rw[J] at d1;have f1:=U.frozen
   by_cases Y:0<L.length
   ·have d2:wr.cell? ⟨mb,28,none⟩=some (.int .i64 0):=by
     have q:=Jm U (t:=0) (by omega);rw[Ju] at q;exact q
    have g0:decide (0<(L.length:Int))=true:=by simpa using Y
    have bI:decide (0<L.length)=true:=by simpa using Y
    have ao:Am (wr.setCell ⟨mb,28,none⟩ (.int .i64 1)) mb 117 856 (Az (Ap vs fs ls L C) (AJ vs.length fs.length ls.length L.length)):=by
     refine(U.set 28 (.int .i64 1)).congr λk _=>?_;have q:=Lp (p:=Ap vs fs ls L C) (s:=Eu (Ap vs fs ls L C)) (t:=0) (by omega) (by unfold Eu;simp[J];exact Y) 1 (k:=k);rw[aeG _ k (by rw[J];exact Y),J] at q;exact q
    have aZ:Xm w.heap.size w (wr.setCell ⟨mb,28,none⟩ (.int .i64 1)):=Z.setCell (show w.heap.size<=mb by omega) _;have T:=Aa (⟨ao,aZ,P⟩:_/\_/\_);clear u a ac N A P ah n r aJ Z ar aj h5 hi HR U J ao Y
    try clear aZ
    go_wp2_with fail
    go_ret
    exact⟨mb,rfl,by have:=T.out.2.2;omega,T.out.1,T.out.2.1⟩
   ·have bA:L=[]:=List.length_eq_zero_iff.1 (by omega);subst bA;have ao:Am wr mb 117 856 (Az (Ap vs fs ls [] C) (AJ vs.length fs.length ls.length 0)):=U.congr λk _=>aeF _ k rfl;have T:=Aa (⟨ao,Z,P⟩:_/\_/\_);clear u a ac N A P ah n r aJ Z ar aj h5 hi HR U J ao Y
    try clear aZ
    go_wp2_with fail
    go_ret
    exact⟨mb,rfl,by have:=T.out.2.2;omega,T.out.1,T.out.2.1⟩
end
def KP (b t:Nat) (x:Ad) (e:Ev) (j:Nat):Xk:=if j=0 then .pointer (some ⟨b,0,none⟩) else if j=1 then .pointer (some ⟨b,27+t*207,none⟩) else if j<9 then LC x (j - 2) else if j=9 then .int .i64 e.t else if j=10 then .int .i64 e.k else if j=11 then .int .i64 e.o else .int .i64 e.v
structure AF (w:Xh) (b sb:Nat) (p:PD) (s:MS) (t:Nat) (x:Ad) (e:Ev):Prop where
 m:Am w b 117 856 (Az p s)
 st:Am w sb 129 13 (KP b t x e)
 ne:b≠sb
section
variable {w w':Xh} {b sb:Nat} {p:PD} {s:MS} {t:Nat} {x:Ad} {e:Ev}
theorem AF.below (h:AF w b sb p s t x e) (a:Xm w.heap.size w w'):AF w' b sb p s t x e:=⟨h.m.below a,h.st.below a,h.ne⟩
theorem AF.same (h:AF w b sb p s t x e) (a:w'.heap=w.heap):AF w' b sb p s t x e:=⟨h.m.same (by rw[a]),h.st.same (by rw[a]),h.ne⟩
theorem AF.Fw (h:AF w b sb p s t x e):w.cell? ⟨sb,0,none⟩=some (.pointer (some ⟨b,0,none⟩))/\w.cell? ⟨sb,1,none⟩=some (.pointer (some ⟨b,27+t*207,none⟩)):=⟨h.st.cell (by omega),h.st.cell (by omega)⟩
theorem AF.ins (h:AF w b sb p s t x e):w.cell? ⟨sb,2,none⟩=some (.string (bs x.op))/\w.cell? ⟨sb,3,none⟩=some (.int .i64 x.r)/\w.cell? ⟨sb,4,none⟩=some (.bool x.aR)/\w.cell? ⟨sb,5,none⟩=some (.int .i64 x.aN)/\w.cell? ⟨sb,6,none⟩=some (.bool x.bR)/\w.cell? ⟨sb,7,none⟩=some (.int .i64 x.bN)/\w.cell? ⟨sb,8,none⟩=some (.int .i64 x.x):=
 ⟨h.st.cell (by omega),h.st.cell (by omega),h.st.cell (by omega),h.st.cell (by omega),h.st.cell (by omega),h.st.cell (by omega),h.st.cell (by omega)⟩
theorem AF.Il (h:AF w b sb p s t x e):w.cell? ⟨sb,9,none⟩=some (.int .i64 e.t)/\w.cell? ⟨sb,10,none⟩=some (.int .i64 e.k)/\w.cell? ⟨sb,11,none⟩=some (.int .i64 e.o)/\w.cell? ⟨sb,12,none⟩=some (.int .i64 e.v):=
 ⟨h.st.cell (by omega),h.st.cell (by omega),h.st.cell (by omega),h.st.cell (by omega)⟩
theorem AF.MC (h:AF w b sb p s t x e) (v:Int):AF (w.setCell ⟨sb,10,none⟩ (.int .i64 v)) b sb p s t x {e with k:=v}:=
 ⟨h.m.other h.ne _,(h.st.set 10 _).congr λj _=>by
  by_cases a:j=10
  ·subst a;rfl
  ·unfold KP;rw[if_neg a,if_neg a,if_neg a],h.ne⟩
theorem AF.VS (h:AF w b sb p s t x e) (v:Int):AF (w.setCell ⟨sb,11,none⟩ (.int .i64 v)) b sb p s t x {e with o:=v}:=
 ⟨h.m.other h.ne _,(h.st.set 11 _).congr λj _=>by
  by_cases a:j=11
  ·subst a;rfl
  ·unfold KP;rw[if_neg a,if_neg a,if_neg a],h.ne⟩
theorem AF.PZ (h:AF w b sb p s t x e) (v:Int):AF (w.setCell ⟨sb,12,none⟩ (.int .i64 v)) b sb p s t x {e with v:=v}:=
 ⟨h.m.other h.ne _,(h.st.set 12 _).congr λj d=>by
  by_cases c:j=12
  ·subst c;rfl
  ·unfold KP;rw[if_neg c]
   by_cases a:j=0
   ·rw[if_pos a,if_pos a]
   ·rw[if_neg a,if_neg a]
    by_cases a:j=1
    ·rw[if_pos a,if_pos a]
    ·rw[if_neg a,if_neg a]
     by_cases a:j<9
     ·rw[if_pos a,if_pos a]
     ·rw[if_neg a,if_neg a]
      by_cases a:j=9
      ·rw[if_pos a,if_pos a]
      ·rw[if_neg a,if_neg a]
       by_cases a:j=10
       ·rw[if_pos a,if_pos a]
       ·rw[if_neg a,if_neg a,if_pos (by omega),if_pos (by omega)],h.ne⟩
theorem AF.Gy (h:AF w b sb p s t x e) {k:Nat} {v:Xk} {s':MS} (a:∀j,(if j=k then v else Az p s j)=Az p s' j):AF (w.setCell ⟨b,k,none⟩ v) b sb p s' t x e:=
 ⟨(h.m.set k v).congr λj _=>a j,h.st.other (λc=>h.ne c.symm) _,h.ne⟩
end
section
variable {w w':Xh} {b sb:Nat} {p:PD} {s:MS} {t:Nat} {x:Ad} {e:Ev}
theorem EW (h:AF w b sb p s t x e) (g:t<4) (j:(s.th t).regs.length=4) (r:Bool) (n:Int) (d:Fj r n) :
 XY Tryz.prog 76 #[Ab sb,.agg #[.bool r,.int .i64 n]] w λi w'=>i = .returned (.int .i64 (Af (s.th t) r n))/\Xm w.heap.size w w':=by
 have a:∀o,Xm w.heap.size w (w.alloc o):=λo=>(Below.refl _ _).alloc (Xd _) o;obtain⟨m,rfl⟩:∃m:Nat,n=m:=⟨n.toNat,by have:=d.1;omega⟩;have c:=h.below (a (.cells #[.bool r,.int .i64 m] 106));obtain⟨-,c1⟩:=c.Fw;unfold Ab
 cases r with
 |false=>
  have f:=Aa (a (.cells #[.bool false,.int .i64 m] 106));clear a h c
  go_enter Tryz.func76,Tryz.ntmps76
  go_wp2_with fail
  go_ret
  exact⟨rfl,f.out⟩
 |true=>
  have u:m<4:=by have:=d.2.2 rfl;omega
  have l:(w.alloc (.cells #[.bool true,.int .i64 m] 106)).cell? ⟨b,27+t*207+3+m,none⟩=some (.int .i64 ((s.th t).regs.getD m 0)):=by
   rw[show 27+t*207+3+m=27+t*207+(3+m) by omega,c.m.cell (by omega),Fy p s g (by omega)];unfold BR;rw[if_neg (by omega),if_neg (by omega),if_neg (by omega),if_pos (by omega),show 3+m - 3=m by omega]
  have q:(m:Int)<4:=by omega
  have f:=Aa (a (.cells #[.bool true,.int .i64 m] 106));have k:Hid (Af (s.th t) true (m:Int)=(s.th t).regs.getD m 0):=rfl;clear a h c d j g;generalize (s.th t).regs.getD m 0=v at *
  go_enter Tryz.func76,Tryz.ntmps76
  go_wp2_with fail
  go_quiet (fail)
  go_wp2_with fail
  go_ret
  exact⟨by rw[k.out];rfl,f.out.trans ⟨rfl,rfl,rfl,Xd _,λ_ _=>rfl⟩⟩
end
section
variable {w w':Xh} {b sb:Nat} {p:PD} {s:MS} {t:Nat} {x:Ad} {e:Ev}
structure Bl (w w':Xh) (b sb:Nat) (p:PD) (s:MS) (t:Nat) (x:Ad) (e:Ev):Prop where
 v:AF w' b sb p s t x e
 k:Ac (λk=>k=b\/k=sb) w w'
theorem Bl.of (v:AF w' b sb p s t x e) (k:Ac (λk=>k=b\/k=sb) w w'):Bl w w' b sb p s t x e:=⟨v,k⟩
theorem Bl.then {d:Xh} {s':MS} {a:Ev} (h:Bl w w' b sb p s t x e) (c:Bl w' d b sb p s' t x a):Bl w d b sb p s' t x a:=⟨c.v,h.k.trans c.k⟩
theorem AF.DZ (h:AF w b sb p s t x e):(∀i,w.frozen? ⟨sb,i,none⟩=false)/\∀i,w.frozen? ⟨b,i,none⟩=false:=⟨h.st.frozen,h.m.frozen⟩
theorem Ja (h:AF w b sb p s t x e) (k:Int) :
 XY Tryz.prog 90 #[Ab sb,.int .i64 k] w λr w'=>r = .returned (.tuple #[])/\Bl w w' b sb p s t x {e with k:=k,o:=x.x}:=by
 obtain⟨-,-,-,-,-,-,a⟩:=h.ins;obtain⟨-,f,d,-⟩:=h.Il;obtain⟨c,-⟩:=h.DZ;have H:=Aa h;clear h;unfold Ab
 go_enter Tryz.func90,Tryz.ntmps90
 go_wp2_with fail
 go_end0
 refine⟨rfl,.of ((H.out.MC k).VS x.x) (((Ac.refl _).set ?_ _).set ?_ _)⟩
 ·exact .inl (.inr rfl)
 ·exact .inl (.inr rfl)
theorem SW (h:AF w b sb p s t x e) (a:t<4) (c:t<s.thr.length) :
 XY Tryz.prog 134 #[Ab sb] w λr w'=>r = .returned (.tuple #[])/\Bl w w' b sb p (s.Ae t {s.th t with ph:=3}) t x {e with k:=9}:=by
 obtain⟨-,c1⟩:=h.Fw;obtain⟨-,i,-,-⟩:=h.Il;obtain⟨g,d⟩:=h.DZ;have c2:w.cell? ⟨b,27+t*207+1,none⟩=some (.int .i64 (s.th t).ph):=by rw[h.m.cell (by omega),Fy p s a (by omega)];rfl
 have f:=h.ne;have H:=Aa h;clear h;unfold Ab
 go_enter Tryz.func134,Tryz.ntmps134
 go_wp2_with fail
 go_end0
 refine⟨rfl,.of ((H.out.MC 9).Gy (λj=>Lp a c 3)) (((Ac.refl _).set ?_ _).set ?_ _)⟩
 ·exact .inl (.inr rfl)
 ·exact .inl (.inl rfl)
theorem Tb (h:AF w b sb p s t x e) (a:t<4) (c:t<s.thr.length) :
 XY Tryz.prog 96 #[Ab sb] w λr w'=>r = .returned (.tuple #[])/\Bl w w' b sb p (s.Ae t {s.th t with ph:=2}) t x {e with k:=10}:=by
 obtain⟨-,c1⟩:=h.Fw;obtain⟨-,i,-,-⟩:=h.Il;obtain⟨g,d⟩:=h.DZ;have c2:w.cell? ⟨b,27+t*207+1,none⟩=some (.int .i64 (s.th t).ph):=by rw[h.m.cell (by omega),Fy p s a (by omega)];rfl
 have f:=h.ne;have H:=Aa h;clear h;unfold Ab
 go_enter Tryz.func96,Tryz.ntmps96
 go_wp2_with fail
 go_end0
 refine⟨rfl,.of ((H.out.MC 10).Gy (λj=>Lp a c 2)) (((Ac.refl _).set ?_ _).set ?_ _)⟩
 ·exact .inl (.inr rfl)
 ·exact .inl (.inl rfl)
theorem Nz (h:AF w b sb p s t x e) (c:t<4) (i:t<s.thr.length) (f:0<=x.x) (g:Bool) :
 XY Tryz.prog 92 #[Ab sb,.bool g] w λr w'=>r = .returned (.tuple #[])/\Bl w w' b sb p (if g then s.Ae t {s.th t with pc:=x.x.toNat} else s) t x e:=by
 obtain⟨n,a⟩:∃n:Nat,x.x=n:=⟨x.x.toNat,by omega⟩;obtain⟨-,c1⟩:=h.Fw;obtain⟨-,-,-,-,-,-,d⟩:=h.ins;rw[a] at d;obtain⟨o,k⟩:=h.DZ;have c2:w.cell? ⟨b,27+t*207+2,none⟩=some (.int .i64 (s.th t).pc):=by rw[h.m.cell (by omega),Fy p s c (by omega)];rfl
 have l:=h.ne;have H:=Aa h;replace a:Hid (x.x.toNat=n):=by unfold Hid;omega
 clear h f;unfold Ab
 cases g with
 |false=>
  go_enter Tryz.func92,Tryz.ntmps92
  go_wp2_with fail
  go_end0
  exact⟨rfl,.of H.out (Ac.refl _)⟩
 |true=>
  go_enter Tryz.func92,Tryz.ntmps92
  go_wp2_with fail
  go_region
  all_goals
   go_wp2_with fail
   go_end0
   refine⟨rfl,.of ?_ ((Ac.refl _).drew.set (.inl (.inl rfl)) _)⟩;rw[a.out]
   exact(AF.same (w':=w.drew) H.out rfl).Gy (λj=>Rv c i n)
end
section
variable {w w':Xh} {b sb:Nat} {p:PD} {s:MS} {t:Nat} {x:Ad} {e:Ev}
theorem RA (h:Am w b 117 856 (Az p s)) {t m:Nat} (a:t<4) (c:m<4):w.cell? ⟨b,27+t*207+3+m,none⟩=some (.int .i64 ((s.th t).regs.getD m 0)):=by
 rw[show 27+t*207+3+m=27+t*207+(3+m) by omega,h.cell (by omega),Fy p s a (by omega)];unfold BR;rw[if_neg (by omega),if_neg (by omega),if_neg (by omega),if_pos (by omega),show 3+m - 3=m by omega]
theorem UK {n:Int} (h : -1000<=n):Int.tmod (n+1000) 1000=(n+1000) % 1000:=Int.tmod_eq_emod_of_nonneg (by omega)
theorem LY (h:AF w b sb p s t x e) (d:t<4) (g:t<s.thr.length) (f:(s.th t).regs.length=4) (l:0<=x.r/\x.r<4) (n:Int) (i : -1000<=n) (u:n<2000000) :
 XY Tryz.prog 75 #[Ab sb,.int .i64 n] w λr w'=>r = .returned (.tuple #[])/\Bl w w' b sb p (s.Ae t {s.th t with regs:=(s.th t).regs.set x.r.toNat (n % 1000)}) t x e:=by
 obtain⟨m,a⟩:∃m:Nat,x.r=m:=⟨x.r.toNat,by omega⟩;have c:m<4:=by omega
 have A:(m:Int)<4:=by omega
 obtain⟨-,c1⟩:=h.Fw;obtain⟨-,c3,-,-,-,-,-⟩:=h.ins;rw[a] at c3;obtain⟨C,q⟩:=h.DZ;have c2:=RA h.m d c;have z:XN (n+1000)=n+1000:=by unfold XN;omega
 have D:=UK i;have y:XN ((n+1000) % 1000)=(n+1000) % 1000:=by unfold XN;omega
 have B:=h.ne;have H:=Aa h;replace a:Hid (x.r.toNat=m):=by unfold Hid;omega
 generalize o:(s.th t).regs.getD m 0=v at *;clear h l o;unfold Ab
 go_enter Tryz.func75,Tryz.ntmps75
 go_wp2_with fail
 go_region
 all_goals
  go_wp2_with fail
  go_end0
  refine⟨rfl,.of ?_ ((Ac.refl _).drew.set (.inl (.inl rfl)) _)⟩;rw[a.out];have:=H.out.Gy (λj=>Ru d g c f (n % 1000) (k:=j));rw[show 27+t*207+(3+m)=27+t*207+3+m by omega] at this;exact this.same rfl
theorem Sf (w:Xh) (b sb i:Nat) (v:Xk):Ac (λk=>k=b\/k=sb) w (w.setCell ⟨sb,i,none⟩ v):=(Ac.refl _).set (.inl (.inr rfl)) _
theorem Kg (w:Xh) (b sb i:Nat) (v:Xk):Ac (λk=>k=b\/k=sb) w (w.setCell ⟨b,i,none⟩ v):=(Ac.refl _).set (.inl (.inl rfl)) _
theorem Sg (w:Xh) (b sb q:Nat):Ac (λk=>k=b\/k=sb) w (w.drewN q):=⟨rfl,rfl,rfl,Xd _,λ_ _ _=>rfl⟩
theorem acb (w:Xh) (b sb i j:Nat) (v u:Xk):Ac (λk=>k=b\/k=sb) w (((w.setCell ⟨sb,i,none⟩ v).drew.setCell ⟨b,j,none⟩ u).drew):=((Sf w b sb i v).drew.trans (Kg _ b sb j u)).drew
theorem RB (h:Am w b 117 856 (Az p s)) {o n:Nat} (a:n<4) (c:o=0\/o=9):w.cell? ⟨b,o+n*2+1,none⟩=some (.int .i64 ((if o=0 then s.vars else s.flags).getD n 0)):=by
 rcases c with rfl|rfl
 ·rw[h.cell (by omega),show 0+n*2+1=n*2+1 by omega,Rt p s a];rfl
 ·rw[h.cell (by omega),show 9+n*2+1=9+(n*2+1) by omega,Rx p s a];rfl
def Qc (s:MS) (o n:Nat) (v:Int):MS:=if o=0 then {s with vars:=s.vars.set n v} else {s with flags:=s.flags.set n v}
theorem abo {o n:Nat} (b:n<4) (c:o=0\/o=9) (a:n<(if o=0 then s.vars else s.flags).length) (v:Int) {k:Nat}:(if k=o+n*2+1 then Value.int .i64 v else Az p s k)=Az p (Qc s o n v) k:=by
 rcases c with rfl|rfl
 ·rw[show 0+n*2+1=n*2+1 by omega];exact abn b a v
 ·rw[show 9+n*2+1=9+(n*2+1) by omega];exact abq b a v
theorem SU (h:AF w b sb p s t x e) (f:t<4) (z:t<s.thr.length) (A:(s.th t).regs.length=4) (u:0<=x.r/\x.r<4) (E:0<=x.x/\x.x<4) (kd:Int) {o:Nat} (l:o=0\/o=9) :
 XY Tryz.prog 81 #[Ab sb,.int .i64 kd,.pointer (some ⟨b,o,none⟩)] w λr w'=>r = .returned (.tuple #[])/\Bl w w' b sb p (s.Ae t {s.th t with regs:=(s.th t).regs.set x.r.toNat ((if o=0 then s.vars else s.flags).getD x.x.toNat 0)}) t x {e with k:=kd,o:=x.x,v:=(if o=0 then s.vars else s.flags).getD x.x.toNat 0}:=by
 obtain⟨m,q⟩:∃m:Nat,x.r=m:=⟨x.r.toNat,by omega⟩;obtain⟨n,g⟩:∃n:Nat,x.x=n:=⟨x.x.toNat,by omega⟩;have i:m<4:=by omega
 have G:(m:Int)<4:=by omega
 have F:n<4:=by omega
 have O:(n:Int)<4:=by omega
 have T:=Ja h kd;have D:Hid (x.r.toNat=m):=by unfold Hid;omega
 have B:Hid (x.x.toNat=n):=by unfold Hid;omega
 have I:=h.ne;clear h;rw[B.out,D.out];obtain⟨v,c⟩:∃v,(if o=0 then s.vars else s.flags).getD n 0=v:=⟨_,rfl⟩;rw[c];replace c:=Aa c;unfold Ab at *
 go_enter Tryz.func81,Tryz.ntmps81
 go_wp2_with fail
 refine T.mono ?_;rintro J w1 ⟨rfl,a,d⟩;obtain⟨-,c1⟩:=a.Fw;obtain⟨-,c3,-,-,-,-,C⟩:=a.ins;obtain⟨-,-,-,K⟩:=a.Il;rw[q] at c3;rw[g] at C;obtain⟨N,M⟩:=a.DZ;have c2:=RA a.m f i;have c4:=RB a.m F l;rw[c.out] at c4;generalize (s.th t).regs.getD m 0=v0 at *;have H:=Aa a;have y:=Aa d;clear a d T u E q g l
 go_wp2_with fail
 go_region
 all_goals
  go_wp2_with fail
  go_region
  all_goals
   go_wp2_with fail
   go_end0
   refine⟨rfl,.of ?_ (y.out.trans (acb w1 b sb _ _ _ _))⟩;have:=(H.out.PZ v).Gy (λj=>Ru f z i A v (k:=j));rw[show 27+t*207+(3+m)=27+t*207+3+m by omega] at this;exact this.same rfl
theorem Se (h:AF w b sb p s t x e) (B:t<4) (z:(s.th t).regs.length=4) (I:Fj x.aR x.aN) (J:0<=x.x/\x.x<4) (kd:Int) {o:Nat} (l:o=0\/o=9) (g:x.x.toNat<(if o=0 then s.vars else s.flags).length) :
 XY Tryz.prog 83 #[Ab sb,.int .i64 kd,.pointer (some ⟨b,o,none⟩)] w λr w'=>r = .returned (.tuple #[])/\Bl w w' b sb p (Qc s o x.x.toNat (Af (s.th t) x.aR x.aN)) t x {e with k:=kd,o:=x.x,v:=Af (s.th t) x.aR x.aN}:=by
 obtain⟨n,u⟩:∃n:Nat,x.x=n:=⟨x.x.toNat,by omega⟩;have y:n<4:=by omega
 have S:(n:Int)<4:=by omega
 have T:=Ja h kd;have G:Hid (x.x.toNat=n):=by unfold Hid;omega
 have K:=h.ne;clear h;rw[G.out] at g |-;obtain⟨v,c⟩:∃v,Af (s.th t) x.aR x.aN=v:=⟨_,rfl⟩;rw[c];replace c:=Aa c;unfold Ab at *
 go_enter Tryz.func83,Tryz.ntmps83
 go_wp2_with fail
 refine T.mono ?_;rintro M w1 ⟨rfl,d,q⟩;obtain⟨-,-,c4,c5,-,-,-⟩:=d.ins;have V:=EW d B z _ _ I;rw[c.out] at V;have H:=Aa d;have f:=Aa q;clear d q T J;unfold Ab at V
 go_wp2_with fail
 refine V.mono ?_;rintro N E ⟨rfl,i⟩;have a:=H.out.below i;replace f:=Aa (f.out.trans (Ac.DM i));obtain⟨-,-,-,-,-,-,F⟩:=a.ins;obtain⟨-,-,-,O⟩:=a.Il;rw[u] at F;obtain⟨R,P⟩:=a.DZ;have Q:=RB a.m y l;generalize (if o=0 then s.vars else s.flags).getD n 0=v0 at *;have C:=Aa a;have A:=Aa l;have D:=Aa g;clear a H V c4 c5 i u l g
 go_wp2_with fail
 go_region
 all_goals
  go_wp2_with fail
  go_end0
  refine⟨rfl,.of ?_ (f.out.trans ((Sf E b sb _ _).trans (Kg _ b sb _ _)).drew)⟩
  exact((C.out.PZ v).Gy (λj=>abo y A.out D.out v (k:=j))).same rfl
theorem Nl (h:Am w b 117 856 (Az p s)) {n:Nat} (a:n<4):w.cell? ⟨b,18+n*2+1,none⟩=some (.int .i64 (s.locks.getD n 0)):=by
 rw[show 18+n*2+1=18+(n*2+1) by omega,h.cell (by omega),Nk p s a]
theorem Rw {n:Nat} (b:n<4) (a:n<s.locks.length) (v:Int) {k:Nat}:(if k=18+n*2+1 then Value.int .i64 v else Az p s k)=Az p {s with locks:=s.locks.set n v} k:=by
 rw[show 18+n*2+1=18+(n*2+1) by omega];exact abp b a v
theorem aeX (h:AF w b sb p s t x e) (u:0<=x.x/\x.x<4) (c:x.x.toNat<s.locks.length) :
 XY Tryz.prog 86 #[Ab sb] w λr w'=>r = .returned (.tuple #[])/\Bl w w' b sb p {s with locks:=s.locks.set x.x.toNat e.t} t x {e with k:=5,o:=x.x}:=by
 obtain⟨n,d⟩:∃n:Nat,x.x=n:=⟨x.x.toNat,by omega⟩;have f:n<4:=by omega
 have B:(n:Int)<4:=by omega
 have T:=Ja h 5;have v:Hid (x.x.toNat=n):=by unfold Hid;omega
 have A:=h.ne;clear h;rw[v.out] at c |-;unfold Ab at *
 go_enter Tryz.func86,Tryz.ntmps86
 go_wp2_with fail
 refine T.mono ?_;rintro D w1 ⟨rfl,a,g⟩;obtain⟨c0,-⟩:=a.Fw;obtain⟨-,-,-,-,-,-,i⟩:=a.ins;rw[d] at i;obtain⟨z,-,-,-⟩:=a.Il;obtain⟨C,y⟩:=a.DZ;have c4:=Nl a.m f;generalize s.locks.getD n 0=v0 at *;have H:=Aa a;have l:=Aa g;have q:=Aa c;clear a g T u c d
 go_wp2_with fail
 go_region
 all_goals
  go_wp2_with fail
  go_end0
  refine⟨rfl,.of ?_ (l.out.trans (Kg w1 b sb _ _).drew)⟩
  exact(H.out.Gy (λj=>Rw f q.out e.t (k:=j))).same rfl
theorem WR (h:AF w b sb p s t x e) (C:t<4) (B:t<s.thr.length) (J:0<=x.x/\x.x<4) (i:x.x.toNat<s.locks.length) :
 XY Tryz.prog 87 #[Ab sb] w λr w'=>r = .returned (.tuple #[])/\
  if s.locks.getD x.x.toNat 0≠e.t then Bl w w' b sb p (s.Ae t {s.th t with ph:=3}) t x {e with k:=9} else Bl w w' b sb p {s with locks:=s.locks.set x.x.toNat (-1)} t x {e with k:=6,o:=x.x}:=by
 obtain⟨n,y⟩:∃n:Nat,x.x=n:=⟨x.x.toNat,by omega⟩;have v:n<4:=by omega
 have P:(n:Int)<4:=by omega
 have E:Hid (x.x.toNat=n):=by unfold Hid;omega
 have K:=h.ne;obtain⟨c0,-⟩:=h.Fw;obtain⟨-,-,-,-,-,-,z⟩:=h.ins;rw[y] at z;obtain⟨G,-,-,-⟩:=h.Il;have c4:=Nl h.m v;rw[E.out] at i |-;have u:∀q,AF (w.drewN q) b sb p s t x e:=λq=>h.same rfl;have T:=λq=>Ja (u q) 6;have F:=λq=>SW (u q) C B;generalize s.locks.getD n 0=v0 at *;have H:=Aa h;have D:=Aa i;clear h J i y u;unfold Ab at *
 by_cases f:v0=e.t
 ·have d:(v0≠e.t)=False:=by simp[f]
  simp only[d,if_false];clear d;have I:(v0 != e.t)=false:=by simp[f]
  clear F
  go_enter Tryz.func87,Tryz.ntmps87
  go_wp2_with fail
  go_quiet (fail)
  go_wp2_with fail
  go_quiet (fail)
  go_wp2_with fail
  refine(T _).mono ?_;rintro A w1 ⟨rfl,c,a⟩;replace a:=(Sg w b sb _).trans a;have M:=Nl c.m v;obtain⟨O,N⟩:=c.DZ;have l:=Aa c;have g:=Aa a;clear c a T c0 c4 z G
  go_wp2_with fail
  go_end0
  refine⟨rfl,.of ?_ (g.out.trans (Kg w1 b sb _ _))⟩;exact l.out.Gy (λj=>Rw v D.out (-1) (k:=j))
 ·have d:(v0≠e.t)=True:=by simp[f]
  simp only[d,if_true];clear d;have I:(v0 != e.t)=true:=by simp[f]
  clear T
  go_enter Tryz.func87,Tryz.ntmps87
  go_wp2_with fail
  go_quiet (fail)
  go_wp2_with fail
  go_quiet (fail)
  go_wp2_with fail
  refine(F _).mono ?_;rintro A w1 ⟨rfl,c,a⟩;replace a:=(Sg w b sb _).trans a;have g:=Aa a;have l:=Aa c;clear c a F
  go_wp2_with fail
  refine bodyPost_ret (results_none rfl _ _ _) rfl ?_
  exact⟨rfl,.of l.out g.out⟩
theorem VE (h:AF w b sb p s t x e) (u:0<=x.x/\x.x<4) (c:x.x.toNat<s.thr.length) :
 XY Tryz.prog 88 #[Ab sb] w λr w'=>r = .returned (.tuple #[])/\Bl w w' b sb p (s.Ae x.x.toNat {s.th x.x.toNat with ph:=1}) t x {e with k:=7,o:=x.x}:=by
 obtain⟨n,d⟩:∃n:Nat,x.x=n:=⟨x.x.toNat,by omega⟩;have f:n<4:=by omega
 have A:(n:Int)<4:=by omega
 have T:=Ja h 7;have v:Hid (x.x.toNat=n):=by unfold Hid;omega
 have z:=h.ne;clear h;rw[v.out] at c |-;unfold Ab at *
 go_enter Tryz.func88,Tryz.ntmps88
 go_wp2_with fail
 refine T.mono ?_;rintro C w1 ⟨rfl,a,g⟩;obtain⟨c0,-⟩:=a.Fw;obtain⟨-,-,-,-,-,-,i⟩:=a.ins;rw[d] at i;obtain⟨B,y⟩:=a.DZ;have c4:w1.cell? ⟨b,27+n*207+1,none⟩=some (.int .i64 (s.th n).ph):=by rw[a.m.cell (by omega),Fy p s f (by omega)];rfl
 have H:=Aa a;have l:=Aa g;have q:=Aa c;clear a g T u c d
 go_wp2_with fail
 go_region
 all_goals
  go_wp2_with fail
  go_end0
  refine⟨rfl,.of ?_ (l.out.trans (Kg w1 b sb _ _).drew)⟩
  exact(H.out.Gy (λj=>Lp f q.out 1 (k:=j))).same rfl
end
end Go.Proofs.YtdcacoifehkioaaGreatDoor
