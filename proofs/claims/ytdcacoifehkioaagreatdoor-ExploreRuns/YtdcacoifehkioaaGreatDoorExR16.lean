import Derived.Test.YtdcacoifehkioaaGreatDoorExR3
import Derived.Test.YtdcacoifehkioaaGreatDoorExR15
import Derived.Test.YtdcacoifehkioaaGreatDoorExR12
import Derived.Test.YtdcacoifehkioaaGreatDoorExR14
import Derived.Test.YtdcacoifehkioaaGreatDoorExR13
import Derived.BigQuiet
import Derived.BigRegion
open Go renaming World->Xg,Value->Xj,Calls->X3,wp_region_held_drew->XV,wpAnyH_done->YH
open Go.RowKit renaming Below->Xn,wrap64->Ya
open Nat renaming le_refl->Xf
open Go.World renaming alloc_heap_new->Xi,cell?->Xh
open List renaming replicate->XJ,length_map->Xm,getElem?_eq_getElem->Xc
open Go.Act renaming put->X7
set_option maxRecDepth 100000
set_option maxHeartbeats 2000000
set_option linter.unusedVariables false
set_option linter.unusedSimpArgs false
namespace Go.Proofs.YtdcacoifehkioaaGreatDoor
open Go.RowKit Go.Proofs.Cod
section
variable {w w':Xg} {b:Nat}
def Al (vs fs ls:List Tx) (L:List (Tx×Xj)) (C:List (List Ac)):PD:=⟨vs,fs,ls,L.map Prod.fst,C⟩
structure Gu (vs fs ls:List Tx) (L:List (Tx×Xj)) (C:List (List Ac)):Prop where
 v:vs.length<=4
 f:fs.length<=4
 l:ls.length<=4
 t:L.length<=4
 c:∀c,c∈C->c.length<=24
theorem Pr {base:Nat} {vV fV lV bg:Xj} {vs fs ls:List Tx} {L:List (Tx×Xj)} {C:List (List Ac)} (r:Bz w base vV fV lV bg vs fs ls L C) (A:Gu vs fs ls L C) :
 X3 Tryz.prog 13 #[.agg #[vV,fV,lV,bg]] w λe w'=>∃b,e = .returned (Ab b)/\w.heap.size<=b/\AD w' b (Al vs fs ls L C) (BO vs.length fs.length ls.length L.length)/\Xn w.heap.size w w':=by
 obtain⟨va,vc,hv,ba⟩:=Lq r.v rfl;obtain⟨fa,fc,hf,a7⟩:=Lq r.f rfl;obtain⟨la,lc,hl,bn⟩:=Lq r.l rfl;obtain⟨ta,tc,ao⟩:=At r.t;subst hv hf hl ao;obtain⟨d,ad⟩:∃d,w.alloc (.cells #[.slice va vs.length vc,.slice fa fs.length fc,.slice la ls.length lc,.slice ta L.length tc] 25)=d:=⟨_,rfl⟩;have E:Xn w.heap.size w d:=by rw[<-ad];exact(Below.refl _ _).alloc (Xf _) _
 have ay:d.heap[w.heap.size]?=some (.cells #[.slice va vs.length vc,.slice fa fs.length fc,.slice la ls.length lc,.slice ta L.length tc] 25):=by rw[<-ad];exact Xi w _
 have aC:d.heap.size=w.heap.size+1:=by rw[<-ad];show (w.heap.push _).size=_;simp
 have I:∀G,Xn d.heap.size d G->G.cell? ⟨w.heap.size,0,none⟩=some (.slice va vs.length vc)/\G.cell? ⟨w.heap.size,1,none⟩=some (.slice fa fs.length fc)/\G.cell? ⟨w.heap.size,2,none⟩=some (.slice la ls.length lc)/\G.cell? ⟨w.heap.size,3,none⟩=some (.slice ta L.length tc):=λG Z=>by
  have q:=(Z.block w.heap.size (by omega)).trans ay
  exact⟨by simp[Xh,q],by simp[Xh,q],by simp[Xh,q],by simp[Xh,q]⟩
 have av:=λG (Z:Xn d.heap.size d G)=>LK (cap:=vc) rfl (ba.below (E.trans (Z.mono E.size))) A.v 0;have ax:=λG (Z:Xn d.heap.size d G)=>LK (cap:=fc) rfl (a7.below (E.trans (Z.mono E.size))) A.f 0;have aw:=λG (Z:Xn d.heap.size d G)=>LK (cap:=lc) rfl (bn.below (E.trans (Z.mono E.size))) A.l (-1);obtain⟨R1,ai⟩:∃R,Cq 9 (Br vs (XJ vs.length 0))=R:=⟨_,rfl⟩;obtain⟨R2,aW⟩:∃R,Cq 9 (Br fs (XJ fs.length 0))=R:=⟨_,rfl⟩;obtain⟨R3,aO⟩:∃R,Cq 9 (Br ls (XJ ls.length (-1)))=R:=⟨_,rfl⟩;obtain⟨M,D⟩:∃M,Cq 856 (DS (Al vs fs ls L C) 0)=M:=⟨_,rfl⟩;have aI:Tryz.prog.built 117 [(0,.agg R1),(1,.agg R2),(2,.agg R3),(4,.int .i64 L.length)]=some M:=by
  have q:=Wm (λk=>if k<9 then Br vs (XJ vs.length 0) k else if k<18 then Br fs (XJ fs.length 0) (k - 9) else Br ls (XJ ls.length (-1)) (k - 18)) L.length;rw[<-ai,<-aW,<-aO,<-D,<-We];rw[show (Al vs fs ls L C).ts.length=L.length from Xm _];exact q
 simp only[ai] at av;simp only[aW] at ax;simp only[aO] at aw;have HP:=Aa (⟨r,A,E,aC,ay⟩:_/\_/\_/\_/\_);replace av:=Aa av;replace ax:=Aa ax;replace aw:=Aa aw;replace I:=Aa I;replace aI:=Aa aI;replace D:=Aa D;obtain⟨o,y,u,n⟩:=I.out d.drew (⟨rfl,rfl,rfl,Xf _,λ_ _=>rfl⟩);clear r A E ay aC ai aW aO ba a7 bn
 go_enter Tryz.func13,Tryz.ntmps13
 go_wp2_with fail
 try rw[ad]
 replace ad:=Aa ad;have hd:Xn d.heap.size d d.drew:=⟨rfl,rfl,rfl,Xf _,λ_ _=>rfl⟩;refine XV (S:=(λw'=>w'.cell? ⟨w.heap.size,0,none⟩=some (.slice va vs.length vc)/\w'.cell? ⟨w.heap.size,1,none⟩=some (.slice fa fs.length fc)/\w'.cell? ⟨w.heap.size,2,none⟩=some (.slice la ls.length lc)/\w'.cell? ⟨w.heap.size,3,none⟩=some (.slice ta L.length tc))) (by kernel_rfl) ⟨o,y,u,n⟩ (λh=>?_);clear o y u n;refine tk 0 h ?_;refine tk 1 h ?_;refine tk 3 h ?_;refine tk 4 h ?_;refine tk 6 h ?_;refine tk 7 h ?_;refine tk 9 h ?_;refine tk 10 h ?_;refine tk 11 h ?_;refine rd 2 (λK a=>?_)
 go_simp
 go_at_call 38
 refine(av.out _ hd).mono ?_;rintro e v1 ⟨rfl,J⟩;replace J:Xn d.heap.size d v1:=hd.trans (J.mono hd.size);obtain⟨o,y,u,n⟩:=I.out v1 J;replace J:=Aa J
 go_wp2_with fail
 refine a.out _ _ ⟨o,y,u,n⟩ (λh=>?_);clear a K o y u n
 try simp only[X7,sq]
 refine rd 5 (λK a=>?_)
 go_simp
 go_at_call 38
 refine(ax.out _ J.out).mono ?_;rintro e v2 ⟨rfl,O⟩;replace O:Xn d.heap.size d v2:=J.out.trans (O.mono J.out.size);obtain⟨o,y,u,n⟩:=I.out v2 O;replace O:=Aa O
 go_wp2_with fail
 refine a.out _ _ ⟨o,y,u,n⟩ (λh=>?_);clear a K o y u n
 try simp only[X7,sq]
 refine rd 8 (λK a=>?_)
 go_simp
 go_at_call 38
 refine(aw.out _ O.out).mono ?_;rintro e H ⟨rfl,B⟩;replace B:Xn d.heap.size d H:=O.out.trans (B.mono O.out.size);obtain⟨o,y,u,n⟩:=I.out H B;replace B:=Aa B
 go_wp2_with fail
 refine a.out _ _ ⟨o,y,u,n⟩ (λh=>?_);clear a K o y u n
 try simp only[X7,sq]
 refine rd 12 (λK a=>?_);refine KV _ _ rfl [(0,.agg R1),(1,.agg R2),(2,.agg R3),(4,.int .i64 L.length)] rfl M aI.out ?_;obtain⟨o,y,u,n⟩:=I.out H B.out;refine a.out _ _ ⟨o,y,u,n⟩ (λh=>?_);clear a K
 try simp only[X7,sq]
 refine rd 13 (λK a=>?_);refine SB _ _ rfl M rfl ?_;obtain⟨U,aF⟩:∃U,H.alloc (.cells M 117)=U:=⟨_,rfl⟩;rw[aF];have N:Xn H.heap.size H U:=by rw[<-aF];exact(Below.refl _ _).alloc (Xf _) _
 replace N:Xn d.heap.size d U:=B.out.trans (N.mono B.out.size);have aj:Ak U H.heap.size 117 856 (DS (Al vs fs ls L C) 0):=by
  have q:=Ak.new (f:=DS (Al vs fs ls L C) 0) H M 117 (λk hk=>by rw[<-D.out] at hk |-;rw[Hj] at hk;simp[Cq,hk]);rw[aF,<-D.out,Hj] at q;exact q
 obtain⟨o,y,u,n⟩:=I.out U N;refine a.out _ _ ⟨o,y,u,n⟩ (λh=>?_);clear a K
 try simp only[X7,sq]
 refine tk 14 h ?_;refine YH (by kernel_rfl) ?_ _;have hD:=abC U;have HQ:=Aa (⟨N,aj,B.out⟩:_/\_/\_);clear h N aj J O B hd aF aI av ax aw D o y u n
 go_wp2_with fail
 refine hD.mono ?_;rintro e W5 ⟨rfl,V,aN⟩;obtain⟨N,aj,B⟩:=HQ.out;obtain⟨r,A,E,aC,ay⟩:=HP.out;have aT:Xn d.heap.size d W5:=N.trans (aN.mono N.size);obtain⟨-,-,-,n⟩:=I.out W5 aT;have ac:=aj.lt;have ah:=aj.below aN;have F:Xn w.heap.size w W5:=E.trans (aT.mono E.size);have T:w.heap.size<H.heap.size:=by have:=B.size;omega
 have HR:=Aa (⟨ah,V,F,T,ac,r,A⟩:_/\_/\_/\_/\_/\_/\_);clear N aj B r A E aC ay aT ah F T HQ HP hD V aN I ac;obtain⟨mb,aZ⟩:∃mb,H.heap.size=mb:=⟨_,rfl⟩;obtain⟨m,aK⟩:∃m,U.heap.size=m:=⟨_,rfl⟩;rw[aZ,aK] at HR
 go_wp2_with fail
 try rw[aZ]
 try rw[aK]
 clear aZ aK
 go_loopw [25] (λiv wr=>∃i:Nat,i<=L.length/\iv = .int .i64 i/\Ak wr mb 117 856 (DS (Al vs fs ls L C) i)/\Ae (λk=>k=mb) W5 wr) (λiv _=>L.length - (intOf iv).toNat)
 case atStart=>exact⟨0,Nat.zero_le _,rfl,HR.out.1,Ae.refl _⟩
 case round=>
  obtain⟨i,hi,rfl,D,a⟩:=hrel;obtain⟨ah,V,F,T,ac,r,A⟩:=HR.out;have aH:=V.lt;have af:Xn w.heap.size w wr:=⟨a.os.trans F.os,a.tape.trans F.tape,a.output.trans F.output,Nat.le_trans F.size a.size,λk hk=>(a.block k (by have:=F.size;omega) (by omega)).trans (F.block k hk)⟩;have aq:=r.below af;have ar:Fq wr m:=V.same (a.block m aH (by omega))
  by_cases h5:i<L.length
  ·obtain⟨q,hq⟩:∃q,L[i]?=some q:=⟨_,Xc h5⟩;obtain⟨c,hc⟩:∃c,C[i]?=some c:=⟨_,Xc (by rw[r.len];exact h5)⟩;have bv:i<4:=by have:=A.t;omega
   have bG:(i:Int)<4:=by omega
   have bI:(i:Int)<(L.length:Int):=by omega
   have bi:=A.c c (List.mem_of_getElem? hc);obtain⟨g,cap,bx,br,t0,t1⟩:=aq.SW hq;injection bx with hta hn1 hcap
   subst hta;clear hn1 hcap;have aD:=aq.c i q c hq hc;have ao:Bv ((Al vs fs ls L C).ts.getD i []) ((Al vs fs ls L C).C[i]?) Aw=Bv q.1 (some c) Aw:=by
    show Bv ((L.map Prod.fst).getD i []) (C[i]?) Aw=_;rw[hc,List.getD_eq_getElem?_getD,List.getElem?_map,hq];rfl
   obtain⟨nm,cv⟩:=q;dsimp only at t0 t1 aD ao;obtain⟨ca,ak,bq⟩:=At aD;subst bq;obtain⟨P,aV⟩:∃P,wr.alloc (.cells #[.string (bs nm),.slice ca c.length ak] 122)=P:=⟨_,rfl⟩;have W:Xn wr.heap.size wr P.drew:=by rw[<-aV];exact((Below.refl _ _).alloc (Xf _) _).drew
   have ap:P.drew.heap[wr.heap.size]?=some (.cells #[.string (bs nm),.slice ca c.length ak] 122):=by rw[<-aV];exact Xi wr _
   have aJ:=VM nm (EJ aD W) bi (ar.same (W.block m ar.lt));have s0:P.drew.cell? ⟨wr.heap.size,0,none⟩=some (.string (bs nm)):=by simp[Xh,ap]
   have s1:P.drew.cell? ⟨wr.heap.size,1,none⟩=some (.slice ca c.length ak):=by simp[Xh,ap]
   obtain⟨R,hR⟩:∃R,Cq 207 (Bv nm (some c) Aw)=R:=⟨_,rfl⟩;rw[hR] at aJ;have bf:R.size=207:=by rw[<-hR,Hj]
   have ai:∀x∈R.toList,x.oneCell'=true:=by rw[<-hR];exact IU _ 207 (La _ _ _)
   have bm:(Tryz.prog.info? 114).map (·.size)=some R.size:=by rw[bf];exact Tryz.sizeTh
   have HF:Hid (∀z,Xn P.drew.heap.size P.drew z->(z.cell? ⟨wr.heap.size,0,none⟩=some (.string (bs nm))/\z.cell? ⟨wr.heap.size,1,none⟩=some (.slice ca c.length ak))/\(∀j,j<R.size->(z.cell? ⟨mb,27+i*207+j,none⟩).isSome=true)/\(∀j,j<R.size->z.frozen? ⟨mb,27+i*207+j,none⟩=false)/\Ak (z.setCells mb (27+i*207) R.toList) mb 117 856 (DS (Al vs fs ls L C) (i+1))/\Ae (λk=>k=mb) W5 (z.setCells mb (27+i*207) R.toList)/\((z.setCells mb (27+i*207) R.toList).cell? ⟨wr.heap.size,0,none⟩=some (.string (bs nm))/\(z.setCells mb (27+i*207) R.toList).cell? ⟨wr.heap.size,1,none⟩=some (.slice ca c.length ak))):=λz h6=>by
    have bz:wr.heap.size<P.drew.heap.size:=(Array.getElem?_eq_some_iff.1 ap).1;have q6:=(h6.block _ bz).trans ap;have aR:Ak z mb 117 856 (DS (Al vs fs ls L C) i):=D.below (W.trans (h6.mono W.size));have bl:=Fx (S:=λk=>k=mb) (w:=z) (b:=mb) R.toList (27+i*207) (Ae.refl z) (.inl rfl);have bJ:=D.lt;have q7:=(bl.block wr.heap.size (by have:=h6.size;omega) (by omega)).trans q6;refine⟨⟨by simp[Xh,q6],by simp[Xh,q6]⟩,λj hj=>by rw[aR.cell (by omega)];rfl,λj _=>aR.frozen _,?_,?_,⟨by simp[Xh,q7],by simp[Xh,q7]⟩⟩
    ·have q:=aR.UW bv;rw[ao,hR] at q;exact q
    ·exact(a.trans (Ae.CK (W.trans (h6.mono W.size)))).trans bl
   have aA:=Aa (⟨ai,bm,h5⟩:_/\_/\_);have a1:Ya ((i:Int)+1)=(i:Int)+1:=by unfold Ya;omega
   clear D a ah V F T ac r A aH af aq ar hq hc bi br aD ao W ap hR bf ai bm h5 hi HR
   go_wp2_with fail
   try rw[aV]
   refine XV (S:=(λw'=>w'.cell? ⟨wr.heap.size,0,none⟩=some (.string (bs nm))/\w'.cell? ⟨wr.heap.size,1,none⟩=some (.slice ca c.length ak))) (by kernel_rfl) ⟨s0,s1⟩ (λh=>?_);clear s0 s1;refine tk 0 h ?_;refine tk 1 h ?_;refine tk 2 h ?_;refine tk 3 h ?_;refine tk 5 h ?_;refine tk 6 h ?_;refine rd 4 (λK a=>?_)
   go_simp
   go_at_call 40
   refine aJ.mono ?_;rintro e z ⟨rfl,h6⟩;obtain⟨g1,g2,g3,g4,g5,g6⟩:=HF.out z h6;replace g2:=Aa g2;replace g3:=Aa g3;replace g4:=Aa g4;replace g5:=Aa g5
   go_wp2_with fail
   refine a.out _ _ g1 (λh=>?_);clear a K h6 aJ HF
   try simp only[X7,sq]
   refine tk 7 h ?_;refine rd 8 (λK a=>?_);refine IJ _ _ _ rfl mb (27+i*207) R rfl rfl g2.out g3.out aA.out.2.1 aA.out.1 ?_;refine a.out _ _ g6 (λh=>?_);clear a K
   try simp only[X7,sq]
   refine YH (by kernel_rfl) ?_ _;clear h g1 g6
   go_wp2_with fail
   go_roundw
   case rel=>
    (try rw[a1])
    exact⟨i+1,aA.out.2.2,rfl,g4.out,g5.out⟩
   case measure=>
    (try rw[a1])
    exact Nat.sub_lt_sub_left aA.out.2.2 (Nat.lt_succ_self i)
  ·have bA:i=L.length:=by omega
   subst bA;have Q:(Al vs fs ls L C).ts.length=L.length:=Xm _;have Y:Ak wr mb 117 856 (Au (Al vs fs ls L C) (Dr (Al vs fs ls L C))):=D.congr λk hk=>by rw[<-Q];exact Wf _ (by show C.length=_;rw[Q];exact r.len) k hk
   have d1:=JZ Y;rw[Q] at d1;have f1:=Y.frozen
   by_cases h0:0<L.length
   ·have d2:wr.cell? ⟨mb,28,none⟩=some (.int .i64 0):=by
     have q:=Io Y (t:=0) (by omega);rw[Iy] at q;exact q
    have g0:decide (0<(L.length:Int))=true:=by simpa using h0
    have bH:decide (0<L.length)=true:=by simpa using h0
    have an:Ak (wr.setCell ⟨mb,28,none⟩ (.int .i64 1)) mb 117 856 (Au (Al vs fs ls L C) (BO vs.length fs.length ls.length L.length)):=by
     refine(Y.set 28 (.int .i64 1)).congr λk _=>?_;have q:=JX (p:=Al vs fs ls L C) (s:=Dr (Al vs fs ls L C)) (t:=0) (by omega) (by unfold Dr;simp[Q];exact h0) 1 (k:=k);rw[acq _ k (by rw[Q];exact h0),Q] at q;exact q
    have aU:Xn w.heap.size w (wr.setCell ⟨mb,28,none⟩ (.int .i64 1)):=af.setCell (show w.heap.size<=mb by omega) _;have X:=Aa (⟨an,aU,T⟩:_/\_/\_);clear D a ah V F T ac r A aH af aq ar h5 hi HR Y Q an h0
    try clear aU
    go_wp2_with fail
    go_ret
    exact⟨mb,rfl,by have:=X.out.2.2;omega,X.out.1,X.out.2.1⟩
   ·have bC:L=[]:=List.length_eq_zero_iff.1 (by omega);subst bC;have an:Ak wr mb 117 856 (Au (Al vs fs ls [] C) (BO vs.length fs.length ls.length 0)):=Y.congr λk _=>acp _ k rfl;have X:=Aa (⟨an,af,T⟩:_/\_/\_);clear D a ah V F T ac r A aH af aq ar h5 hi HR Y Q an h0
    try clear aU
    go_wp2_with fail
    go_ret
    exact⟨mb,rfl,by have:=X.out.2.2;omega,X.out.1,X.out.2.1⟩
end
def JF (b t:Nat) (x:Ac) (e:Ev) (j:Nat):Xj:=if j=0 then .pointer (some ⟨b,0,none⟩) else if j=1 then .pointer (some ⟨b,27+t*207,none⟩) else if j<9 then Kk x (j - 2) else if j=9 then .int .i64 e.t else if j=10 then .int .i64 e.k else if j=11 then .int .i64 e.o else .int .i64 e.v
structure Ay (w:Xg) (b sb:Nat) (p:PD) (s:MS) (t:Nat) (x:Ac) (e:Ev):Prop where
 m:Ak w b 117 856 (Au p s)
 st:Ak w sb 129 13 (JF b t x e)
 ne:b≠sb
section
variable {w w':Xg} {b sb:Nat} {p:PD} {s:MS} {t:Nat} {x:Ac} {e:Ev}
theorem Ay.below (h:Ay w b sb p s t x e) (a:Xn w.heap.size w w'):Ay w' b sb p s t x e:=⟨h.m.below a,h.st.below a,h.ne⟩
theorem Ay.same (h:Ay w b sb p s t x e) (a:w'.heap=w.heap):Ay w' b sb p s t x e:=⟨h.m.same (by rw[a]),h.st.same (by rw[a]),h.ne⟩
theorem Ay.Ed (h:Ay w b sb p s t x e):w.cell? ⟨sb,0,none⟩=some (.pointer (some ⟨b,0,none⟩))/\w.cell? ⟨sb,1,none⟩=some (.pointer (some ⟨b,27+t*207,none⟩)):=⟨h.st.cell (by omega),h.st.cell (by omega)⟩
theorem Ay.ins (h:Ay w b sb p s t x e):w.cell? ⟨sb,2,none⟩=some (.string (bs x.op))/\w.cell? ⟨sb,3,none⟩=some (.int .i64 x.r)/\w.cell? ⟨sb,4,none⟩=some (.bool x.aR)/\w.cell? ⟨sb,5,none⟩=some (.int .i64 x.aN)/\w.cell? ⟨sb,6,none⟩=some (.bool x.bR)/\w.cell? ⟨sb,7,none⟩=some (.int .i64 x.bN)/\w.cell? ⟨sb,8,none⟩=some (.int .i64 x.x):=
 ⟨h.st.cell (by omega),h.st.cell (by omega),h.st.cell (by omega),h.st.cell (by omega),h.st.cell (by omega),h.st.cell (by omega),h.st.cell (by omega)⟩
theorem Ay.GQ (h:Ay w b sb p s t x e):w.cell? ⟨sb,9,none⟩=some (.int .i64 e.t)/\w.cell? ⟨sb,10,none⟩=some (.int .i64 e.k)/\w.cell? ⟨sb,11,none⟩=some (.int .i64 e.o)/\w.cell? ⟨sb,12,none⟩=some (.int .i64 e.v):=
 ⟨h.st.cell (by omega),h.st.cell (by omega),h.st.cell (by omega),h.st.cell (by omega)⟩
theorem Ay.Ll (h:Ay w b sb p s t x e) (v:Int):Ay (w.setCell ⟨sb,10,none⟩ (.int .i64 v)) b sb p s t x {e with k:=v}:=
 ⟨h.m.other h.ne _,(h.st.set 10 _).congr λj _=>by
  by_cases a:j=10
  ·subst a;rfl
  ·unfold JF;rw[if_neg a,if_neg a,if_neg a],h.ne⟩
theorem Ay.TT (h:Ay w b sb p s t x e) (v:Int):Ay (w.setCell ⟨sb,11,none⟩ (.int .i64 v)) b sb p s t x {e with o:=v}:=
 ⟨h.m.other h.ne _,(h.st.set 11 _).congr λj _=>by
  by_cases a:j=11
  ·subst a;rfl
  ·unfold JF;rw[if_neg a,if_neg a,if_neg a],h.ne⟩
theorem Ay.Og (h:Ay w b sb p s t x e) (v:Int):Ay (w.setCell ⟨sb,12,none⟩ (.int .i64 v)) b sb p s t x {e with v:=v}:=
 ⟨h.m.other h.ne _,(h.st.set 12 _).congr λj d=>by
  by_cases c:j=12
  ·subst c;rfl
  ·unfold JF;rw[if_neg c]
   by_cases a:j=0
   ·rw[if_pos a,if_pos a]
   ·rw[if_neg a,if_neg a]
    by_cases a:j=1
    ·rw[if_pos a,if_pos a]
    ·rw[if_neg a,if_neg a]
     by_cases a:j<9
     ·rw[if_pos a,if_pos a]
     ·rw[if_neg a,if_neg a]
      by_cases a:j=9
      ·rw[if_pos a,if_pos a]
      ·rw[if_neg a,if_neg a]
       by_cases a:j=10
       ·rw[if_pos a,if_pos a]
       ·rw[if_neg a,if_neg a,if_pos (by omega),if_pos (by omega)],h.ne⟩
theorem Ay.Fw (h:Ay w b sb p s t x e) {k:Nat} {v:Xj} {s':MS} (c:∀j,(if j=k then v else Au p s j)=Au p s' j):Ay (w.setCell ⟨b,k,none⟩ v) b sb p s' t x e:=
 ⟨(h.m.set k v).congr λj _=>c j,h.st.other (λa=>h.ne a.symm) _,h.ne⟩
end
section
variable {w w':Xg} {b sb:Nat} {p:PD} {s:MS} {t:Nat} {x:Ac} {e:Ev}
theorem DN (h:Ay w b sb p s t x e) (g:t<4) (i:(s.th t).regs.length=4) (r:Bool) (n:Int) (d:En r n) :
 X3 Tryz.prog 76 #[Ab sb,.agg #[.bool r,.int .i64 n]] w λk w'=>k = .returned (.int .i64 (Am (s.th t) r n))/\Xn w.heap.size w w':=by
 have a:∀o,Xn w.heap.size w (w.alloc o):=λo=>(Below.refl _ _).alloc (Xf _) o;obtain⟨m,rfl⟩:∃m:Nat,n=m:=⟨n.toNat,by have:=d.1;omega⟩;have c:=h.below (a (.cells #[.bool r,.int .i64 m] 106));obtain⟨-,l⟩:=c.Ed;unfold Ab
 cases r with
 |false=>
  have f:=Aa (a (.cells #[.bool false,.int .i64 m] 106));clear a h c
  go_enter Tryz.func76,Tryz.ntmps76
  go_wp2_with fail
  go_ret
  exact⟨rfl,f.out⟩
 |true=>
  have q:m<4:=by have:=d.2.2 rfl;omega
  have u:(w.alloc (.cells #[.bool true,.int .i64 m] 106)).cell? ⟨b,27+t*207+3+m,none⟩=some (.int .i64 ((s.th t).regs.getD m 0)):=by
   rw[show 27+t*207+3+m=27+t*207+(3+m) by omega,c.m.cell (by omega),Ei p s g (by omega)];unfold Bv;rw[if_neg (by omega),if_neg (by omega),if_neg (by omega),if_pos (by omega),show 3+m - 3=m by omega]
  have y:(m:Int)<4:=by omega
  have f:=Aa (a (.cells #[.bool true,.int .i64 m] 106));have j:Hid (Am (s.th t) true (m:Int)=(s.th t).regs.getD m 0):=rfl;clear a h c d i g;generalize (s.th t).regs.getD m 0=v at *
  go_enter Tryz.func76,Tryz.ntmps76
  go_wp2_with fail
  go_quiet (fail)
  go_wp2_with fail
  go_ret
  exact⟨by rw[j.out];rfl,f.out.trans ⟨rfl,rfl,rfl,Xf _,λ_ _=>rfl⟩⟩
end
section
variable {w w':Xg} {b sb:Nat} {p:PD} {s:MS} {t:Nat} {x:Ac} {e:Ev}
structure Ba (w w':Xg) (b sb:Nat) (p:PD) (s:MS) (t:Nat) (x:Ac) (e:Ev):Prop where
 v:Ay w' b sb p s t x e
 k:Ae (λk=>k=b\/k=sb) w w'
theorem Ba.of (v:Ay w' b sb p s t x e) (k:Ae (λk=>k=b\/k=sb) w w'):Ba w w' b sb p s t x e:=⟨v,k⟩
theorem Ba.then {c:Xg} {s':MS} {d:Ev} (h:Ba w w' b sb p s t x e) (a:Ba w' c b sb p s' t x d):Ba w c b sb p s' t x d:=⟨a.v,h.k.trans a.k⟩
theorem Ay.De (h:Ay w b sb p s t x e):(∀i,w.frozen? ⟨sb,i,none⟩=false)/\∀i,w.frozen? ⟨b,i,none⟩=false:=⟨h.st.frozen,h.m.frozen⟩
theorem Ig (h:Ay w b sb p s t x e) (k:Int) :
 X3 Tryz.prog 90 #[Ab sb,.int .i64 k] w λr w'=>r = .returned (.tuple #[])/\Ba w w' b sb p s t x {e with k:=k,o:=x.x}:=by
 obtain⟨-,-,-,-,-,-,d⟩:=h.ins;obtain⟨-,c,a,-⟩:=h.GQ;obtain⟨f,-⟩:=h.De;have H:=Aa h;clear h;unfold Ab
 go_enter Tryz.func90,Tryz.ntmps90
 go_wp2_with fail
 go_end0
 refine⟨rfl,.of ((H.out.Ll k).TT x.x) (((Ae.refl _).set ?_ _).set ?_ _)⟩
 ·exact .inl (.inr rfl)
 ·exact .inl (.inr rfl)
theorem QZ (h:Ay w b sb p s t x e) (a:t<4) (c:t<s.thr.length) :
 X3 Tryz.prog 134 #[Ab sb] w λr w'=>r = .returned (.tuple #[])/\Ba w w' b sb p (s.Af t {s.th t with ph:=3}) t x {e with k:=9}:=by
 obtain⟨-,d⟩:=h.Ed;obtain⟨-,g,-,-⟩:=h.GQ;obtain⟨l,f⟩:=h.De;have i:w.cell? ⟨b,27+t*207+1,none⟩=some (.int .i64 (s.th t).ph):=by rw[h.m.cell (by omega),Ei p s a (by omega)];rfl
 have n:=h.ne;have H:=Aa h;clear h;unfold Ab
 go_enter Tryz.func134,Tryz.ntmps134
 go_wp2_with fail
 go_end0
 refine⟨rfl,.of ((H.out.Ll 9).Fw (λj=>JX a c 3)) (((Ae.refl _).set ?_ _).set ?_ _)⟩
 ·exact .inl (.inr rfl)
 ·exact .inl (.inl rfl)
theorem Rd (h:Ay w b sb p s t x e) (a:t<4) (c:t<s.thr.length) :
 X3 Tryz.prog 96 #[Ab sb] w λr w'=>r = .returned (.tuple #[])/\Ba w w' b sb p (s.Af t {s.th t with ph:=2}) t x {e with k:=10}:=by
 obtain⟨-,d⟩:=h.Ed;obtain⟨-,g,-,-⟩:=h.GQ;obtain⟨l,f⟩:=h.De;have i:w.cell? ⟨b,27+t*207+1,none⟩=some (.int .i64 (s.th t).ph):=by rw[h.m.cell (by omega),Ei p s a (by omega)];rfl
 have n:=h.ne;have H:=Aa h;clear h;unfold Ab
 go_enter Tryz.func96,Tryz.ntmps96
 go_wp2_with fail
 go_end0
 refine⟨rfl,.of ((H.out.Ll 10).Fw (λj=>JX a c 2)) (((Ae.refl _).set ?_ _).set ?_ _)⟩
 ·exact .inl (.inr rfl)
 ·exact .inl (.inl rfl)
theorem Mi (h:Ay w b sb p s t x e) (c:t<4) (f:t<s.thr.length) (i:0<=x.x) (g:Bool) :
 X3 Tryz.prog 92 #[Ab sb,.bool g] w λr w'=>r = .returned (.tuple #[])/\Ba w w' b sb p (if g then s.Af t {s.th t with pc:=x.x.toNat} else s) t x e:=by
 obtain⟨n,a⟩:∃n:Nat,x.x=n:=⟨x.x.toNat,by omega⟩;obtain⟨-,k⟩:=h.Ed;obtain⟨-,-,-,-,-,-,d⟩:=h.ins;rw[a] at d;obtain⟨q,l⟩:=h.De;have o:w.cell? ⟨b,27+t*207+2,none⟩=some (.int .i64 (s.th t).pc):=by rw[h.m.cell (by omega),Ei p s c (by omega)];rfl
 have u:=h.ne;have H:=Aa h;replace a:Hid (x.x.toNat=n):=by unfold Hid;omega
 clear h i;unfold Ab
 cases g with
 |false=>
  go_enter Tryz.func92,Tryz.ntmps92
  go_wp2_with fail
  go_end0
  exact⟨rfl,.of H.out (Ae.refl _)⟩
 |true=>
  go_enter Tryz.func92,Tryz.ntmps92
  go_wp2_with fail
  go_region
  all_goals
   go_wp2_with fail
   go_end0
   refine⟨rfl,.of ?_ ((Ae.refl _).drew.set (.inl (.inl rfl)) _)⟩;rw[a.out]
   exact(Ay.same (w':=w.drew) H.out rfl).Fw (λj=>Pz c f n)
end
section
variable {w w':Xg} {b sb:Nat} {p:PD} {s:MS} {t:Nat} {x:Ac} {e:Ev}
theorem PG (h:Ak w b 117 856 (Au p s)) {t m:Nat} (a:t<4) (c:m<4):w.cell? ⟨b,27+t*207+3+m,none⟩=some (.int .i64 ((s.th t).regs.getD m 0)):=by
 rw[show 27+t*207+3+m=27+t*207+(3+m) by omega,h.cell (by omega),Ei p s a (by omega)];unfold Bv;rw[if_neg (by omega),if_neg (by omega),if_neg (by omega),if_pos (by omega),show 3+m - 3=m by omega]
theorem SQ {n:Int} (h : -1000<=n):Int.tmod (n+1000) 1000=(n+1000) % 1000:=Int.tmod_eq_emod_of_nonneg (by omega)
theorem KB (h:Ay w b sb p s t x e) (d:t<4) (q:t<s.thr.length) (o:(s.th t).regs.length=4) (i:0<=x.r/\x.r<4) (n:Int) (l : -1000<=n) (C:n<2000000) :
 X3 Tryz.prog 75 #[Ab sb,.int .i64 n] w λr w'=>r = .returned (.tuple #[])/\Ba w w' b sb p (s.Af t {s.th t with regs:=(s.th t).regs.set x.r.toNat (n % 1000)}) t x e:=by
 obtain⟨m,a⟩:∃m:Nat,x.r=m:=⟨x.r.toNat,by omega⟩;have c:m<4:=by omega
 have A:(m:Int)<4:=by omega
 obtain⟨-,z⟩:=h.Ed;obtain⟨-,g,-,-,-,-,-⟩:=h.ins;rw[a] at g;obtain⟨G,D⟩:=h.De;have F:=PG h.m d c;have B:Ya (n+1000)=n+1000:=by unfold Ya;omega
 have E:=SQ l;have y:Ya ((n+1000) % 1000)=(n+1000) % 1000:=by unfold Ya;omega
 have u:=h.ne;have H:=Aa h;replace a:Hid (x.r.toNat=m):=by unfold Hid;omega
 generalize f:(s.th t).regs.getD m 0=v at *;clear h i f;unfold Ab
 go_enter Tryz.func75,Tryz.ntmps75
 go_wp2_with fail
 go_region
 all_goals
  go_wp2_with fail
  go_end0
  refine⟨rfl,.of ?_ ((Ae.refl _).drew.set (.inl (.inl rfl)) _)⟩;rw[a.out];have:=H.out.Fw (λj=>Py d q c o (n % 1000) (k:=j));rw[show 27+t*207+(3+m)=27+t*207+3+m by omega] at this;exact this.same rfl
theorem Qm (w:Xg) (b sb i:Nat) (v:Xj):Ae (λk=>k=b\/k=sb) w (w.setCell ⟨sb,i,none⟩ v):=(Ae.refl _).set (.inl (.inr rfl)) _
theorem Jd (w:Xg) (b sb i:Nat) (v:Xj):Ae (λk=>k=b\/k=sb) w (w.setCell ⟨b,i,none⟩ v):=(Ae.refl _).set (.inl (.inl rfl)) _
theorem Qn (w:Xg) (b sb q:Nat):Ae (λk=>k=b\/k=sb) w (w.drewN q):=⟨rfl,rfl,rfl,Xf _,λ_ _ _=>rfl⟩
theorem WS (w:Xg) (b sb i j:Nat) (v u:Xj):Ae (λk=>k=b\/k=sb) w (((w.setCell ⟨sb,i,none⟩ v).drew.setCell ⟨b,j,none⟩ u).drew):=((Qm w b sb i v).drew.trans (Jd _ b sb j u)).drew
theorem PH (h:Ak w b 117 856 (Au p s)) {o n:Nat} (a:n<4) (c:o=0\/o=9):w.cell? ⟨b,o+n*2+1,none⟩=some (.int .i64 ((if o=0 then s.vars else s.flags).getD n 0)):=by
 rcases c with rfl|rfl
 ·rw[h.cell (by omega),show 0+n*2+1=n*2+1 by omega,Px p s a];rfl
 ·rw[h.cell (by omega),show 9+n*2+1=9+(n*2+1) by omega,PC p s a];rfl
def Oi (s:MS) (o n:Nat) (v:Int):MS:=if o=0 then {s with vars:=s.vars.set n v} else {s with flags:=s.flags.set n v}
theorem VZ {o n:Nat} (a:n<4) (c:o=0\/o=9) (b:n<(if o=0 then s.vars else s.flags).length) (v:Int) {k:Nat}:(if k=o+n*2+1 then Value.int .i64 v else Au p s k)=Au p (Oi s o n v) k:=by
 rcases c with rfl|rfl
 ·rw[show 0+n*2+1=n*2+1 by omega];exact VY a b v
 ·rw[show 9+n*2+1=9+(n*2+1) by omega];exact Wc a b v
theorem QX (h:Ay w b sb p s t x e) (l:t<4) (G:t<s.thr.length) (F:(s.th t).regs.length=4) (B:0<=x.r/\x.r<4) (I:0<=x.x/\x.x<4) (kd:Int) {o:Nat} (q:o=0\/o=9) :
 X3 Tryz.prog 81 #[Ab sb,.int .i64 kd,.pointer (some ⟨b,o,none⟩)] w λr w'=>r = .returned (.tuple #[])/\Ba w w' b sb p (s.Af t {s.th t with regs:=(s.th t).regs.set x.r.toNat ((if o=0 then s.vars else s.flags).getD x.x.toNat 0)}) t x {e with k:=kd,o:=x.x,v:=(if o=0 then s.vars else s.flags).getD x.x.toNat 0}:=by
 obtain⟨m,g⟩:∃m:Nat,x.r=m:=⟨x.r.toNat,by omega⟩;obtain⟨n,i⟩:∃n:Nat,x.x=n:=⟨x.x.toNat,by omega⟩;have f:m<4:=by omega
 have O:(m:Int)<4:=by omega
 have z:n<4:=by omega
 have S:(n:Int)<4:=by omega
 have T:=Ig h kd;have u:Hid (x.r.toNat=m):=by unfold Hid;omega
 have E:Hid (x.x.toNat=n):=by unfold Hid;omega
 have J:=h.ne;clear h;rw[E.out,u.out];obtain⟨v,c⟩:∃v,(if o=0 then s.vars else s.flags).getD n 0=v:=⟨_,rfl⟩;rw[c];replace c:=Aa c;unfold Ab at *
 go_enter Tryz.func81,Tryz.ntmps81
 go_wp2_with fail
 refine T.mono ?_;rintro M w1 ⟨rfl,a,d⟩;obtain⟨-,N⟩:=a.Ed;obtain⟨-,A,-,-,-,-,C⟩:=a.ins;obtain⟨-,-,-,K⟩:=a.GQ;rw[g] at A;rw[i] at C;obtain⟨R,P⟩:=a.De;have Q:=PG a.m l f;have y:=PH a.m z q;rw[c.out] at y;generalize (s.th t).regs.getD m 0=v0 at *;have H:=Aa a;have D:=Aa d;clear a d T B I g i q
 go_wp2_with fail
 go_region
 all_goals
  go_wp2_with fail
  go_region
  all_goals
   go_wp2_with fail
   go_end0
   refine⟨rfl,.of ?_ (D.out.trans (WS w1 b sb _ _ _ _))⟩;have:=(H.out.Og v).Fw (λj=>Py l G f F v (k:=j));rw[show 27+t*207+(3+m)=27+t*207+3+m by omega] at this;exact this.same rfl
theorem Ql (h:Ay w b sb p s t x e) (K:t<4) (I:(s.th t).regs.length=4) (D:En x.aR x.aN) (J:0<=x.x/\x.x<4) (kd:Int) {o:Nat} (l:o=0\/o=9) (i:x.x.toNat<(if o=0 then s.vars else s.flags).length) :
 X3 Tryz.prog 83 #[Ab sb,.int .i64 kd,.pointer (some ⟨b,o,none⟩)] w λr w'=>r = .returned (.tuple #[])/\Ba w w' b sb p (Oi s o x.x.toNat (Am (s.th t) x.aR x.aN)) t x {e with k:=kd,o:=x.x,v:=Am (s.th t) x.aR x.aN}:=by
 obtain⟨n,y⟩:∃n:Nat,x.x=n:=⟨x.x.toNat,by omega⟩;have q:n<4:=by omega
 have W:(n:Int)<4:=by omega
 have T:=Ig h kd;have G:Hid (x.x.toNat=n):=by unfold Hid;omega
 have O:=h.ne;clear h;rw[G.out] at i |-;obtain⟨v,c⟩:∃v,Am (s.th t) x.aR x.aN=v:=⟨_,rfl⟩;rw[c];replace c:=Aa c;unfold Ab at *
 go_enter Tryz.func83,Tryz.ntmps83
 go_wp2_with fail
 refine T.mono ?_;rintro Q w1 ⟨rfl,d,u⟩;obtain⟨-,-,z,M,-,-,-⟩:=d.ins;have V:=DN d K I _ _ D;rw[c.out] at V;have H:=Aa d;have g:=Aa u;clear d u T J;unfold Ab at V
 go_wp2_with fail
 refine V.mono ?_;rintro R B ⟨rfl,f⟩;have a:=H.out.below f;replace g:=Aa (g.out.trans (Ae.CK f));obtain⟨-,-,-,-,-,-,C⟩:=a.ins;obtain⟨-,-,-,P⟩:=a.GQ;rw[y] at C;obtain⟨U,S⟩:=a.De;have N:=PH a.m q l;generalize (if o=0 then s.vars else s.flags).getD n 0=v0 at *;have A:=Aa a;have E:=Aa l;have F:=Aa i;clear a H V z M f y l i
 go_wp2_with fail
 go_region
 all_goals
  go_wp2_with fail
  go_end0
  refine⟨rfl,.of ?_ (g.out.trans ((Qm B b sb _ _).trans (Jd _ b sb _ _)).drew)⟩
  exact((A.out.Og v).Fw (λj=>VZ q E.out F.out v (k:=j))).same rfl
theorem LU (h:Ak w b 117 856 (Au p s)) {n:Nat} (a:n<4):w.cell? ⟨b,18+n*2+1,none⟩=some (.int .i64 (s.locks.getD n 0)):=by
 rw[show 18+n*2+1=18+(n*2+1) by omega,h.cell (by omega),LT p s a]
theorem PA {n:Nat} (a:n<4) (b:n<s.locks.length) (v:Int) {k:Nat}:(if k=18+n*2+1 then Value.int .i64 v else Au p s k)=Au p {s with locks:=s.locks.set n v} k:=by
 rw[show 18+n*2+1=18+(n*2+1) by omega];exact Wb a b v
theorem acH (h:Ay w b sb p s t x e) (v:0<=x.x/\x.x<4) (c:x.x.toNat<s.locks.length) :
 X3 Tryz.prog 86 #[Ab sb] w λr w'=>r = .returned (.tuple #[])/\Ba w w' b sb p {s with locks:=s.locks.set x.x.toNat e.t} t x {e with k:=5,o:=x.x}:=by
 obtain⟨n,g⟩:∃n:Nat,x.x=n:=⟨x.x.toNat,by omega⟩;have d:n<4:=by omega
 have F:(n:Int)<4:=by omega
 have T:=Ig h 5;have u:Hid (x.x.toNat=n):=by unfold Hid;omega
 have A:=h.ne;clear h;rw[u.out] at c |-;unfold Ab at *
 go_enter Tryz.func86,Tryz.ntmps86
 go_wp2_with fail
 refine T.mono ?_;rintro C w1 ⟨rfl,a,f⟩;obtain⟨B,-⟩:=a.Ed;obtain⟨-,-,-,-,-,-,i⟩:=a.ins;rw[g] at i;obtain⟨y,-,-,-⟩:=a.GQ;obtain⟨E,D⟩:=a.De;have z:=LU a.m d;generalize s.locks.getD n 0=v0 at *;have H:=Aa a;have l:=Aa f;have q:=Aa c;clear a f T v c g
 go_wp2_with fail
 go_region
 all_goals
  go_wp2_with fail
  go_end0
  refine⟨rfl,.of ?_ (l.out.trans (Jd w1 b sb _ _).drew)⟩
  exact(H.out.Fw (λj=>PA d q.out e.t (k:=j))).same rfl
theorem Ut (h:Ay w b sb p s t x e) (M:t<4) (J:t<s.thr.length) (K:0<=x.x/\x.x<4) (u:x.x.toNat<s.locks.length) :
 X3 Tryz.prog 87 #[Ab sb] w λr w'=>r = .returned (.tuple #[])/\
  if s.locks.getD x.x.toNat 0≠e.t then Ba w w' b sb p (s.Af t {s.th t with ph:=3}) t x {e with k:=9} else Ba w w' b sb p {s with locks:=s.locks.set x.x.toNat (-1)} t x {e with k:=6,o:=x.x}:=by
 obtain⟨n,z⟩:∃n:Nat,x.x=n:=⟨x.x.toNat,by omega⟩;have g:n<4:=by omega
 have R:(n:Int)<4:=by omega
 have G:Hid (x.x.toNat=n):=by unfold Hid;omega
 have N:=h.ne;obtain⟨C,-⟩:=h.Ed;obtain⟨-,-,-,-,-,-,y⟩:=h.ins;rw[z] at y;obtain⟨A,-,-,-⟩:=h.GQ;have B:=LU h.m g;rw[G.out] at u |-;have v:∀q,Ay (w.drewN q) b sb p s t x e:=λq=>h.same rfl;have T:=λq=>Ig (v q) 6;have F:=λq=>QZ (v q) M J;generalize s.locks.getD n 0=v0 at *;have H:=Aa h;have E:=Aa u;clear h K u z v;unfold Ab at *
 by_cases f:v0=e.t
 ·have d:(v0≠e.t)=False:=by simp[f]
  simp only[d,if_false];clear d;have I:(v0 != e.t)=false:=by simp[f]
  clear F
  go_enter Tryz.func87,Tryz.ntmps87
  go_wp2_with fail
  go_quiet (fail)
  go_wp2_with fail
  go_quiet (fail)
  go_wp2_with fail
  refine(T _).mono ?_;rintro D w1 ⟨rfl,c,a⟩;replace a:=(Qn w b sb _).trans a;have P:=LU c.m g;obtain⟨Q,O⟩:=c.De;have i:=Aa c;have l:=Aa a;clear c a T C B y A
  go_wp2_with fail
  go_end0
  refine⟨rfl,.of ?_ (l.out.trans (Jd w1 b sb _ _))⟩;exact i.out.Fw (λj=>PA g E.out (-1) (k:=j))
 ·have d:(v0≠e.t)=True:=by simp[f]
  simp only[d,if_true];clear d;have I:(v0 != e.t)=true:=by simp[f]
  clear T
  go_enter Tryz.func87,Tryz.ntmps87
  go_wp2_with fail
  go_quiet (fail)
  go_wp2_with fail
  go_quiet (fail)
  go_wp2_with fail
  refine(F _).mono ?_;rintro D w1 ⟨rfl,c,a⟩;replace a:=(Qn w b sb _).trans a;have l:=Aa a;have i:=Aa c;clear c a F
  go_wp2_with fail
  refine bodyPost_ret (results_none rfl _ _ _) rfl ?_
  exact⟨rfl,.of i.out l.out⟩
theorem TD (h:Ay w b sb p s t x e) (u:0<=x.x/\x.x<4) (c:x.x.toNat<s.thr.length) :
 X3 Tryz.prog 88 #[Ab sb] w λr w'=>r = .returned (.tuple #[])/\Ba w w' b sb p (s.Af x.x.toNat {s.th x.x.toNat with ph:=1}) t x {e with k:=7,o:=x.x}:=by
 obtain⟨n,g⟩:∃n:Nat,x.x=n:=⟨x.x.toNat,by omega⟩;have f:n<4:=by omega
 have D:(n:Int)<4:=by omega
 have T:=Ig h 7;have v:Hid (x.x.toNat=n):=by unfold Hid;omega
 have E:=h.ne;clear h;rw[v.out] at c |-;unfold Ab at *
 go_enter Tryz.func88,Tryz.ntmps88
 go_wp2_with fail
 refine T.mono ?_;rintro B w1 ⟨rfl,a,d⟩;obtain⟨y,-⟩:=a.Ed;obtain⟨-,-,-,-,-,-,l⟩:=a.ins;rw[g] at l;obtain⟨C,z⟩:=a.De;have A:w1.cell? ⟨b,27+n*207+1,none⟩=some (.int .i64 (s.th n).ph):=by rw[a.m.cell (by omega),Ei p s f (by omega)];rfl
 have H:=Aa a;have q:=Aa d;have i:=Aa c;clear a d T u c g
 go_wp2_with fail
 go_region
 all_goals
  go_wp2_with fail
  go_end0
  refine⟨rfl,.of ?_ (q.out.trans (Jd w1 b sb _ _).drew)⟩
  exact(H.out.Fw (λj=>JX f i.out 1 (k:=j))).same rfl
end
end Go.Proofs.YtdcacoifehkioaaGreatDoor
