import Derived.Test.YtdcacoifehkioaaGreatDoorExH3
import Derived.Test.YtdcacoifehkioaaGreatDoorExH15
import Derived.Test.YtdcacoifehkioaaGreatDoorExH12
import Derived.Test.YtdcacoifehkioaaGreatDoorExH14
import Derived.Test.YtdcacoifehkioaaGreatDoorExH13
import Derived.BigQuiet
import Derived.BigRegion
open Go renaming World->Xh,Value->Xk,Calls->XX,wp_region_held_drew->Xx,wpAnyH_done->Yd
open Go.RowKit renaming Below->Xm,wrap64->XO
open Nat renaming le_refl->Xd
open Go.World renaming alloc_heap_new->Xi,cell?->Xg
open List renaming replicate->Xr,length_map->Xp,getElem?_eq_getElem->Xe
open Go.Act renaming put->XF
set_option maxRecDepth 100000
set_option maxHeartbeats 2000000
set_option linter.unusedVariables false
set_option linter.unusedSimpArgs false
namespace Go.Proofs.YtdcacoifehkioaaGreatDoor
open Go.RowKit Go.Proofs.Cod
section
variable {w w':Xh} {b:Nat}
def Am (vs fs ls:List Tx) (L:List (Tx×Xk)) (C:List (List Ad)):PD:=⟨vs,fs,ls,L.map Prod.fst,C⟩
structure GW (vs fs ls:List Tx) (L:List (Tx×Xk)) (C:List (List Ad)):Prop where
 v:vs.length<=4
 f:fs.length<=4
 l:ls.length<=4
 t:L.length<=4
 c:∀c,c∈C->c.length<=24
theorem RA {base:Nat} {vV fV lV bl:Xk} {vs fs ls:List Tx} {L:List (Tx×Xk)} {C:List (List Ad)} (n:BS w base vV fV lV bl vs fs ls L C) (r:GW vs fs ls L C) :
 XX Tryz.prog 13 #[.agg #[vV,fV,lV,bl]] w λe w'=>∃b,e = .returned (Ab b)/\w.heap.size<=b/\AP w' b (Am vs fs ls L C) (AH vs.length fs.length ls.length L.length)/\Xm w.heap.size w w':=by
 obtain⟨va,vc,hv,be⟩:=IH n.v rfl;obtain⟨fa,fc,hf,bg⟩:=IH n.f rfl;obtain⟨la,lc,hl,ba⟩:=IH n.l rfl;obtain⟨ta,tc,am⟩:=At n.t;subst hv hf hl am;obtain⟨d,ai⟩:∃d,w.alloc (.cells #[.slice va vs.length vc,.slice fa fs.length fc,.slice la ls.length lc,.slice ta L.length tc] 25)=d:=⟨_,rfl⟩;have z:Xm w.heap.size w d:=by rw[<-ai];exact(Below.refl _ _).alloc (Xd _) _
 have ak:d.heap[w.heap.size]?=some (.cells #[.slice va vs.length vc,.slice fa fs.length fc,.slice la ls.length lc,.slice ta L.length tc] 25):=by rw[<-ai];exact Xi w _
 have aA:d.heap.size=w.heap.size+1:=by rw[<-ai];show (w.heap.push _).size=_;simp
 have E:∀B,Xm d.heap.size d B->B.cell? ⟨w.heap.size,0,none⟩=some (.slice va vs.length vc)/\B.cell? ⟨w.heap.size,1,none⟩=some (.slice fa fs.length fc)/\B.cell? ⟨w.heap.size,2,none⟩=some (.slice la ls.length lc)/\B.cell? ⟨w.heap.size,3,none⟩=some (.slice ta L.length tc):=λB X=>by
  have q:=(X.block w.heap.size (by omega)).trans ak
  exact⟨by simp[Xg,q],by simp[Xg,q],by simp[Xg,q],by simp[Xg,q]⟩
 have av:=λB (X:Xm d.heap.size d B)=>Ng (cap:=vc) rfl (be.below (z.trans (X.mono z.size))) r.v 0;have au:=λB (X:Xm d.heap.size d B)=>Ng (cap:=fc) rfl (bg.below (z.trans (X.mono z.size))) r.f 0;have ap:=λB (X:Xm d.heap.size d B)=>Ng (cap:=lc) rfl (ba.below (z.trans (X.mono z.size))) r.l (-1);obtain⟨R1,ab⟩:∃R,Dc 9 (BM vs (Xr vs.length 0))=R:=⟨_,rfl⟩;obtain⟨R2,aK⟩:∃R,Dc 9 (BM fs (Xr fs.length 0))=R:=⟨_,rfl⟩;obtain⟨R3,aL⟩:∃R,Dc 9 (BM ls (Xr ls.length (-1)))=R:=⟨_,rfl⟩;obtain⟨M,y⟩:∃M,Dc 856 (Fg (Am vs fs ls L C) 0)=M:=⟨_,rfl⟩;have az:Tryz.prog.built 117 [(0,.agg R1),(1,.agg R2),(2,.agg R3),(4,.int .i64 L.length)]=some M:=by
  have q:=abJ (λk=>if k<9 then BM vs (Xr vs.length 0) k else if k<18 then BM fs (Xr fs.length 0) (k - 9) else BM ls (Xr ls.length (-1)) (k - 18)) L.length;rw[<-ab,<-aK,<-aL,<-y,<-abB];rw[show (Am vs fs ls L C).ts.length=L.length from Xp _];exact q
 simp only[ab] at av;simp only[aK] at au;simp only[aL] at ap;have HP:=Aa (⟨n,r,z,aA,ak⟩:_/\_/\_/\_/\_);replace av:=Aa av;replace au:=Aa au;replace ap:=Aa ap;replace E:=Aa E;replace az:=Aa az;replace y:=Aa y;obtain⟨c0,c1,c2,c3⟩:=E.out d.drew (⟨rfl,rfl,rfl,Xd _,λ_ _=>rfl⟩);clear n r z ak aA ab aK aL be bg ba
 go_enter Tryz.func13,Tryz.ntmps13
 go_wp2_with fail
 try rw[ai]
 replace ai:=Aa ai;have hd:Xm d.heap.size d d.drew:=⟨rfl,rfl,rfl,Xd _,λ_ _=>rfl⟩;refine Xx (S:=(λw'=>w'.cell? ⟨w.heap.size,0,none⟩=some (.slice va vs.length vc)/\w'.cell? ⟨w.heap.size,1,none⟩=some (.slice fa fs.length fc)/\w'.cell? ⟨w.heap.size,2,none⟩=some (.slice la ls.length lc)/\w'.cell? ⟨w.heap.size,3,none⟩=some (.slice ta L.length tc))) (by kernel_rfl) ⟨c0,c1,c2,c3⟩ (λh=>?_);clear c0 c1 c2 c3;refine tk 0 h ?_;refine tk 1 h ?_;refine tk 3 h ?_;refine tk 4 h ?_;refine tk 6 h ?_;refine tk 7 h ?_;refine tk 9 h ?_;refine tk 10 h ?_;refine tk 11 h ?_;refine rd 2 (λK a=>?_)
 go_simp
 go_at_call 38
 refine(av.out _ hd).mono ?_;rintro e v1 ⟨rfl,G⟩;replace G:Xm d.heap.size d v1:=hd.trans (G.mono hd.size);obtain⟨c0,c1,c2,c3⟩:=E.out v1 G;replace G:=Aa G
 go_wp2_with fail
 refine a.out _ _ ⟨c0,c1,c2,c3⟩ (λh=>?_);clear a K c0 c1 c2 c3
 try simp only[XF,sq]
 refine rd 5 (λK a=>?_)
 go_simp
 go_at_call 38
 refine(au.out _ G.out).mono ?_;rintro e v2 ⟨rfl,I⟩;replace I:Xm d.heap.size d v2:=G.out.trans (I.mono G.out.size);obtain⟨c0,c1,c2,c3⟩:=E.out v2 I;replace I:=Aa I
 go_wp2_with fail
 refine a.out _ _ ⟨c0,c1,c2,c3⟩ (λh=>?_);clear a K c0 c1 c2 c3
 try simp only[XF,sq]
 refine rd 8 (λK a=>?_)
 go_simp
 go_at_call 38
 refine(ap.out _ I.out).mono ?_;rintro e D ⟨rfl,u⟩;replace u:Xm d.heap.size d D:=I.out.trans (u.mono I.out.size);obtain⟨c0,c1,c2,c3⟩:=E.out D u;replace u:=Aa u
 go_wp2_with fail
 refine a.out _ _ ⟨c0,c1,c2,c3⟩ (λh=>?_);clear a K c0 c1 c2 c3
 try simp only[XF,sq]
 refine rd 12 (λK a=>?_);refine JG _ _ rfl [(0,.agg R1),(1,.agg R2),(2,.agg R3),(4,.int .i64 L.length)] rfl M az.out ?_;obtain⟨c0,c1,c2,c3⟩:=E.out D u.out;refine a.out _ _ ⟨c0,c1,c2,c3⟩ (λh=>?_);clear a K
 try simp only[XF,sq]
 refine rd 13 (λK a=>?_);refine UH _ _ rfl M rfl ?_;obtain⟨N,aB⟩:∃N,D.alloc (.cells M 117)=N:=⟨_,rfl⟩;rw[aB];have H:Xm D.heap.size D N:=by rw[<-aB];exact(Below.refl _ _).alloc (Xd _) _
 replace H:Xm d.heap.size d N:=u.out.trans (H.mono u.out.size);have ah:An N D.heap.size 117 856 (Fg (Am vs fs ls L C) 0):=by
  have q:=An.new (f:=Fg (Am vs fs ls L C) 0) D M 117 (λk U=>by rw[<-y.out] at U |-;rw[II] at U;simp[Dc,U]);rw[aB,<-y.out,II] at q;exact q
 obtain⟨c0,c1,c2,c3⟩:=E.out N H;refine a.out _ _ ⟨c0,c1,c2,c3⟩ (λh=>?_);clear a K
 try simp only[XF,sq]
 refine tk 14 h ?_;refine Yd (by kernel_rfl) ?_ _;have hD:=ad4 N;have HQ:=Aa (⟨H,ah,u.out⟩:_/\_/\_);clear h H ah G I u hd aB az av au ap y c0 c1 c2 c3
 go_wp2_with fail
 refine hD.mono ?_;rintro e W5 ⟨rfl,O,aU⟩;obtain⟨H,ah,u⟩:=HQ.out;obtain⟨n,r,z,aA,ak⟩:=HP.out;have aW:Xm d.heap.size d W5:=H.trans (aU.mono H.size);obtain⟨-,-,-,c3⟩:=E.out W5 aW;have Y:=ah.lt;have af:=ah.below aU;have A:Xm w.heap.size w W5:=z.trans (aW.mono z.size);have J:w.heap.size<D.heap.size:=by have:=u.size;omega
 have HR:=Aa (⟨af,O,A,J,Y,n,r⟩:_/\_/\_/\_/\_/\_/\_);clear H ah u n r z aA ak aW af A J HQ HP hD O aU E Y;obtain⟨mb,aV⟩:∃mb,D.heap.size=mb:=⟨_,rfl⟩;obtain⟨m,aQ⟩:∃m,N.heap.size=m:=⟨_,rfl⟩;rw[aV,aQ] at HR
 go_wp2_with fail
 try rw[aV]
 try rw[aQ]
 clear aV aQ
 go_loopw [25] (λiv wr=>∃i:Nat,i<=L.length/\iv = .int .i64 i/\An wr mb 117 856 (Fg (Am vs fs ls L C) i)/\Ac (λk=>k=mb) W5 wr) (λiv _=>L.length - (intOf iv).toNat)
 case atStart=>exact⟨0,Nat.zero_le _,rfl,HR.out.1,Ac.refl _⟩
 case round=>
  obtain⟨i,hi,rfl,y,a⟩:=hrel;obtain⟨af,O,A,J,Y,n,r⟩:=HR.out;have aJ:=O.lt;have Z:Xm w.heap.size w wr:=⟨a.os.trans A.os,a.tape.trans A.tape,a.output.trans A.output,Nat.le_trans A.size a.size,λk U=>(a.block k (by have:=A.size;omega) (by omega)).trans (A.block k U)⟩;have aq:=n.below Z;have ax:Gy wr m:=O.same (a.block m aJ (by omega))
  by_cases h5:i<L.length
  ·obtain⟨q,hq⟩:∃q,L[i]?=some q:=⟨_,Xe h5⟩;obtain⟨c,hc⟩:∃c,C[i]?=some c:=⟨_,Xe (by rw[n.len];exact h5)⟩;have bu:i<4:=by have:=r.t;omega
   have bF:(i:Int)<4:=by omega
   have bL:(i:Int)<(L.length:Int):=by omega
   have a8:=r.c c (List.mem_of_getElem? hc);obtain⟨g,cap,bE,bC,t0,t1⟩:=aq.JK hq;injection bE with hta hn1 hcap
   subst hta;clear hn1 hcap;have aC:=aq.c i q c hq hc;have am:BU ((Am vs fs ls L C).ts.getD i []) ((Am vs fs ls L C).C[i]?) AC=BU q.1 (some c) AC:=by
    show BU ((L.map Prod.fst).getD i []) (C[i]?) AC=_;rw[hc,List.getD_eq_getElem?_getD,List.getElem?_map,hq];rfl
   obtain⟨nm,cv⟩:=q;dsimp only at t0 t1 aC am;obtain⟨ca,ad,bD⟩:=At aC;subst bD;obtain⟨F,a0⟩:∃F,wr.alloc (.cells #[.string (bs nm),.slice ca c.length ad] 122)=F:=⟨_,rfl⟩;have V:Xm wr.heap.size wr F.drew:=by rw[<-a0];exact((Below.refl _ _).alloc (Xd _) _).drew
   have ao:F.drew.heap[wr.heap.size]?=some (.cells #[.string (bs nm),.slice ca c.length ad] 122):=by rw[<-a0];exact Xi wr _
   have aX:=abl nm (EI aC V) a8 (ax.same (V.block m ax.lt));have s0:F.drew.cell? ⟨wr.heap.size,0,none⟩=some (.string (bs nm)):=by simp[Xg,ao]
   have s1:F.drew.cell? ⟨wr.heap.size,1,none⟩=some (.slice ca c.length ad):=by simp[Xg,ao]
   obtain⟨R,hR⟩:∃R,Dc 207 (BU nm (some c) AC)=R:=⟨_,rfl⟩;rw[hR] at aX;have a9:R.size=207:=by rw[<-hR,II]
   have ab:∀x∈R.toList,x.oneCell'=true:=by rw[<-hR];exact JY _ 207 (Mp _ _ _)
   have a2:(Tryz.prog.info? 114).map (·.size)=some R.size:=by rw[a9];exact Tryz.sizeTh
   have HF:Hid (∀o,Xm F.drew.heap.size F.drew o->(o.cell? ⟨wr.heap.size,0,none⟩=some (.string (bs nm))/\o.cell? ⟨wr.heap.size,1,none⟩=some (.slice ca c.length ad))/\(∀j,j<R.size->(o.cell? ⟨mb,27+i*207+j,none⟩).isSome=true)/\(∀j,j<R.size->o.frozen? ⟨mb,27+i*207+j,none⟩=false)/\An (o.setCells mb (27+i*207) R.toList) mb 117 856 (Fg (Am vs fs ls L C) (i+1))/\Ac (λk=>k=mb) W5 (o.setCells mb (27+i*207) R.toList)/\((o.setCells mb (27+i*207) R.toList).cell? ⟨wr.heap.size,0,none⟩=some (.string (bs nm))/\(o.setCells mb (27+i*207) R.toList).cell? ⟨wr.heap.size,1,none⟩=some (.slice ca c.length ad))):=λo T=>by
    have bz:wr.heap.size<F.drew.heap.size:=(Array.getElem?_eq_some_iff.1 ao).1;have q6:=(T.block _ bz).trans ao;have aM:An o mb 117 856 (Fg (Am vs fs ls L C) i):=y.below (V.trans (T.mono V.size));have bh:=Fa (S:=λk=>k=mb) (w:=o) (b:=mb) R.toList (27+i*207) (Ac.refl o) (.inl rfl);have bM:=y.lt;have q7:=(bh.block wr.heap.size (by have:=T.size;omega) (by omega)).trans q6;refine⟨⟨by simp[Xg,q6],by simp[Xg,q6]⟩,λj hj=>by rw[aM.cell (by omega)];rfl,λj _=>aM.frozen _,?_,?_,⟨by simp[Xg,q7],by simp[Xg,q7]⟩⟩
    ·have q:=aM.aaC bu;rw[am,hR] at q;exact q
    ·exact(a.trans (Ac.DG (V.trans (T.mono V.size)))).trans bh
   have aD:=Aa (⟨ab,a2,h5⟩:_/\_/\_);have a6:XO ((i:Int)+1)=(i:Int)+1:=by unfold XO;omega
   clear y a af O A J Y n r aJ Z aq ax hq hc a8 bC aC am V ao hR a9 ab a2 h5 hi HR
   go_wp2_with fail
   try rw[a0]
   refine Xx (S:=(λw'=>w'.cell? ⟨wr.heap.size,0,none⟩=some (.string (bs nm))/\w'.cell? ⟨wr.heap.size,1,none⟩=some (.slice ca c.length ad))) (by kernel_rfl) ⟨s0,s1⟩ (λh=>?_);clear s0 s1;refine tk 0 h ?_;refine tk 1 h ?_;refine tk 2 h ?_;refine tk 3 h ?_;refine tk 5 h ?_;refine tk 6 h ?_;refine rd 4 (λK a=>?_)
   go_simp
   go_at_call 40
   refine aX.mono ?_;rintro e o ⟨rfl,T⟩;obtain⟨g1,g2,g3,g4,g5,g6⟩:=HF.out o T;replace g2:=Aa g2;replace g3:=Aa g3;replace g4:=Aa g4;replace g5:=Aa g5
   go_wp2_with fail
   refine a.out _ _ g1 (λh=>?_);clear a K T aX HF
   try simp only[XF,sq]
   refine tk 7 h ?_;refine rd 8 (λK a=>?_);refine Fq _ _ _ rfl mb (27+i*207) R rfl rfl g2.out g3.out aD.out.2.1 aD.out.1 ?_;refine a.out _ _ g6 (λh=>?_);clear a K
   try simp only[XF,sq]
   refine Yd (by kernel_rfl) ?_ _;clear h g1 g6
   go_wp2_with fail
   go_roundw
   case rel=>
    (try rw[a6])
    exact⟨i+1,aD.out.2.2,rfl,g4.out,g5.out⟩
   case measure=>
    (try rw[a6])
    exact Nat.sub_lt_sub_left aD.out.2.2 (Nat.lt_succ_self i)
  ·have bq:i=L.length:=by omega
   subst bq;have P:(Am vs fs ls L C).ts.length=L.length:=Xp _;have W:An wr mb 117 856 (AA (Am vs fs ls L C) (Ex (Am vs fs ls L C))):=y.congr λk U=>by rw[<-P];exact abC _ (by show C.length=_;rw[P];exact n.len) k U
   have d1:=Lq W;rw[P] at d1;have f1:=W.frozen
   by_cases h0:0<L.length
   ·have d2:wr.cell? ⟨mb,28,none⟩=some (.int .i64 0):=by
     have q:=Jp W (t:=0) (by omega);rw[Jy] at q;exact q
    have g0:decide (0<(L.length:Int))=true:=by simpa using h0
    have bG:decide (0<L.length)=true:=by simpa using h0
    have an:An (wr.setCell ⟨mb,28,none⟩ (.int .i64 1)) mb 117 856 (AA (Am vs fs ls L C) (AH vs.length fs.length ls.length L.length)):=by
     refine(W.set 28 (.int .i64 1)).congr λk _=>?_;have q:=Lo (p:=Am vs fs ls L C) (s:=Ex (Am vs fs ls L C)) (t:=0) (by omega) (by unfold Ex;simp[P];exact h0) 1 (k:=k);rw[aeQ _ k (by rw[P];exact h0),P] at q;exact q
    have aZ:Xm w.heap.size w (wr.setCell ⟨mb,28,none⟩ (.int .i64 1)):=Z.setCell (show w.heap.size<=mb by omega) _;have Q:=Aa (⟨an,aZ,J⟩:_/\_/\_);clear y a af O A J Y n r aJ Z aq ax h5 hi HR W P an h0
    try clear aZ
    go_wp2_with fail
    go_ret
    exact⟨mb,rfl,by have:=Q.out.2.2;omega,Q.out.1,Q.out.2.1⟩
   ·have bx:L=[]:=List.length_eq_zero_iff.1 (by omega);subst bx;have an:An wr mb 117 856 (AA (Am vs fs ls [] C) (AH vs.length fs.length ls.length 0)):=W.congr λk _=>aeP _ k rfl;have Q:=Aa (⟨an,Z,J⟩:_/\_/\_);clear y a af O A J Y n r aJ Z aq ax h5 hi HR W P an h0
    try clear aZ
    go_wp2_with fail
    go_ret
    exact⟨mb,rfl,by have:=Q.out.2.2;omega,Q.out.1,Q.out.2.1⟩
end
def KQ (b t:Nat) (x:Ad) (e:Ev) (j:Nat):Xk:=if j=0 then .pointer (some ⟨b,0,none⟩) else if j=1 then .pointer (some ⟨b,27+t*207,none⟩) else if j<9 then Ly x (j - 2) else if j=9 then .int .i64 e.t else if j=10 then .int .i64 e.k else if j=11 then .int .i64 e.o else .int .i64 e.v
structure AF (w:Xh) (b sb:Nat) (p:PD) (s:MS) (t:Nat) (x:Ad) (e:Ev):Prop where
 m:An w b 117 856 (AA p s)
 st:An w sb 129 13 (KQ b t x e)
 ne:b≠sb
section
variable {w w':Xh} {b sb:Nat} {p:PD} {s:MS} {t:Nat} {x:Ad} {e:Ev}
theorem AF.below (h:AF w b sb p s t x e) (a:Xm w.heap.size w w'):AF w' b sb p s t x e:=⟨h.m.below a,h.st.below a,h.ne⟩
theorem AF.same (h:AF w b sb p s t x e) (a:w'.heap=w.heap):AF w' b sb p s t x e:=⟨h.m.same (by rw[a]),h.st.same (by rw[a]),h.ne⟩
theorem AF.Fx (h:AF w b sb p s t x e):w.cell? ⟨sb,0,none⟩=some (.pointer (some ⟨b,0,none⟩))/\w.cell? ⟨sb,1,none⟩=some (.pointer (some ⟨b,27+t*207,none⟩)):=⟨h.st.cell (by omega),h.st.cell (by omega)⟩
theorem AF.ins (h:AF w b sb p s t x e):w.cell? ⟨sb,2,none⟩=some (.string (bs x.op))/\w.cell? ⟨sb,3,none⟩=some (.int .i64 x.r)/\w.cell? ⟨sb,4,none⟩=some (.bool x.aR)/\w.cell? ⟨sb,5,none⟩=some (.int .i64 x.aN)/\w.cell? ⟨sb,6,none⟩=some (.bool x.bR)/\w.cell? ⟨sb,7,none⟩=some (.int .i64 x.bN)/\w.cell? ⟨sb,8,none⟩=some (.int .i64 x.x):=
 ⟨h.st.cell (by omega),h.st.cell (by omega),h.st.cell (by omega),h.st.cell (by omega),h.st.cell (by omega),h.st.cell (by omega),h.st.cell (by omega)⟩
theorem AF.Io (h:AF w b sb p s t x e):w.cell? ⟨sb,9,none⟩=some (.int .i64 e.t)/\w.cell? ⟨sb,10,none⟩=some (.int .i64 e.k)/\w.cell? ⟨sb,11,none⟩=some (.int .i64 e.o)/\w.cell? ⟨sb,12,none⟩=some (.int .i64 e.v):=
 ⟨h.st.cell (by omega),h.st.cell (by omega),h.st.cell (by omega),h.st.cell (by omega)⟩
theorem AF.ME (h:AF w b sb p s t x e) (v:Int):AF (w.setCell ⟨sb,10,none⟩ (.int .i64 v)) b sb p s t x {e with k:=v}:=
 ⟨h.m.other h.ne _,(h.st.set 10 _).congr λj _=>by
  by_cases a:j=10
  ·subst a;rfl
  ·unfold KQ;rw[if_neg a,if_neg a,if_neg a],h.ne⟩
theorem AF.Wg (h:AF w b sb p s t x e) (v:Int):AF (w.setCell ⟨sb,11,none⟩ (.int .i64 v)) b sb p s t x {e with o:=v}:=
 ⟨h.m.other h.ne _,(h.st.set 11 _).congr λj _=>by
  by_cases a:j=11
  ·subst a;rfl
  ·unfold KQ;rw[if_neg a,if_neg a,if_neg a],h.ne⟩
theorem AF.Qd (h:AF w b sb p s t x e) (v:Int):AF (w.setCell ⟨sb,12,none⟩ (.int .i64 v)) b sb p s t x {e with v:=v}:=
 ⟨h.m.other h.ne _,(h.st.set 12 _).congr λj d=>by
  by_cases c:j=12
  ·subst c;rfl
  ·unfold KQ;rw[if_neg c]
   by_cases a:j=0
   ·rw[if_pos a,if_pos a]
   ·rw[if_neg a,if_neg a]
    by_cases a:j=1
    ·rw[if_pos a,if_pos a]
    ·rw[if_neg a,if_neg a]
     by_cases a:j<9
     ·rw[if_pos a,if_pos a]
     ·rw[if_neg a,if_neg a]
      by_cases a:j=9
      ·rw[if_pos a,if_pos a]
      ·rw[if_neg a,if_neg a]
       by_cases a:j=10
       ·rw[if_pos a,if_pos a]
       ·rw[if_neg a,if_neg a,if_pos (by omega),if_pos (by omega)],h.ne⟩
theorem AF.GA (h:AF w b sb p s t x e) {k:Nat} {v:Xk} {s':MS} (a:∀j,(if j=k then v else AA p s j)=AA p s' j):AF (w.setCell ⟨b,k,none⟩ v) b sb p s' t x e:=
 ⟨(h.m.set k v).congr λj _=>a j,h.st.other (λc=>h.ne c.symm) _,h.ne⟩
end
section
variable {w w':Xh} {b sb:Nat} {p:PD} {s:MS} {t:Nat} {x:Ad} {e:Ev}
theorem EX (h:AF w b sb p s t x e) (g:t<4) (i:(s.th t).regs.length=4) (r:Bool) (n:Int) (f:Fk r n) :
 XX Tryz.prog 76 #[Ab sb,.agg #[.bool r,.int .i64 n]] w λk w'=>k = .returned (.int .i64 (Af (s.th t) r n))/\Xm w.heap.size w w':=by
 have a:∀o,Xm w.heap.size w (w.alloc o):=λo=>(Below.refl _ _).alloc (Xd _) o;obtain⟨m,rfl⟩:∃m:Nat,n=m:=⟨n.toNat,by have:=f.1;omega⟩;have c:=h.below (a (.cells #[.bool r,.int .i64 m] 106));obtain⟨-,c1⟩:=c.Fx;unfold Ab
 cases r with
 |false=>
  have d:=Aa (a (.cells #[.bool false,.int .i64 m] 106));clear a h c
  go_enter Tryz.func76,Tryz.ntmps76
  go_wp2_with fail
  go_ret
  exact⟨rfl,d.out⟩
 |true=>
  have u:m<4:=by have:=f.2.2 rfl;omega
  have q:(w.alloc (.cells #[.bool true,.int .i64 m] 106)).cell? ⟨b,27+t*207+3+m,none⟩=some (.int .i64 ((s.th t).regs.getD m 0)):=by
   rw[show 27+t*207+3+m=27+t*207+(3+m) by omega,c.m.cell (by omega),Fz p s g (by omega)];unfold BU;rw[if_neg (by omega),if_neg (by omega),if_neg (by omega),if_pos (by omega),show 3+m - 3=m by omega]
  have l:(m:Int)<4:=by omega
  have d:=Aa (a (.cells #[.bool true,.int .i64 m] 106));have j:Hid (Af (s.th t) true (m:Int)=(s.th t).regs.getD m 0):=rfl;clear a h c f i g;generalize (s.th t).regs.getD m 0=v at *
  go_enter Tryz.func76,Tryz.ntmps76
  go_wp2_with fail
  go_quiet (fail)
  go_wp2_with fail
  go_ret
  exact⟨by rw[j.out];rfl,d.out.trans ⟨rfl,rfl,rfl,Xd _,λ_ _=>rfl⟩⟩
end
section
variable {w w':Xh} {b sb:Nat} {p:PD} {s:MS} {t:Nat} {x:Ad} {e:Ev}
structure Bt (w w':Xh) (b sb:Nat) (p:PD) (s:MS) (t:Nat) (x:Ad) (e:Ev):Prop where
 v:AF w' b sb p s t x e
 k:Ac (λk=>k=b\/k=sb) w w'
theorem Bt.of (v:AF w' b sb p s t x e) (k:Ac (λk=>k=b\/k=sb) w w'):Bt w w' b sb p s t x e:=⟨v,k⟩
theorem Bt.then {c:Xh} {s':MS} {a:Ev} (h:Bt w w' b sb p s t x e) (d:Bt w' c b sb p s' t x a):Bt w c b sb p s' t x a:=⟨d.v,h.k.trans d.k⟩
theorem AF.Ed (h:AF w b sb p s t x e):(∀i,w.frozen? ⟨sb,i,none⟩=false)/\∀i,w.frozen? ⟨b,i,none⟩=false:=⟨h.st.frozen,h.m.frozen⟩
theorem Jd (h:AF w b sb p s t x e) (k:Int) :
 XX Tryz.prog 90 #[Ab sb,.int .i64 k] w λr w'=>r = .returned (.tuple #[])/\Bt w w' b sb p s t x {e with k:=k,o:=x.x}:=by
 obtain⟨-,-,-,-,-,-,c⟩:=h.ins;obtain⟨-,a,d,-⟩:=h.Io;obtain⟨f,-⟩:=h.Ed;have H:=Aa h;clear h;unfold Ab
 go_enter Tryz.func90,Tryz.ntmps90
 go_wp2_with fail
 go_end0
 refine⟨rfl,.of ((H.out.ME k).Wg x.x) (((Ac.refl _).set ?_ _).set ?_ _)⟩
 ·exact .inl (.inr rfl)
 ·exact .inl (.inr rfl)
theorem Tj (h:AF w b sb p s t x e) (a:t<4) (c:t<s.thr.length) :
 XX Tryz.prog 134 #[Ab sb] w λr w'=>r = .returned (.tuple #[])/\Bt w w' b sb p (s.Ae t {s.th t with ph:=3}) t x {e with k:=9}:=by
 obtain⟨-,c1⟩:=h.Fx;obtain⟨-,d,-,-⟩:=h.Io;obtain⟨f,i⟩:=h.Ed;have c2:w.cell? ⟨b,27+t*207+1,none⟩=some (.int .i64 (s.th t).ph):=by rw[h.m.cell (by omega),Fz p s a (by omega)];rfl
 have g:=h.ne;have H:=Aa h;clear h;unfold Ab
 go_enter Tryz.func134,Tryz.ntmps134
 go_wp2_with fail
 go_end0
 refine⟨rfl,.of ((H.out.ME 9).GA (λj=>Lo a c 3)) (((Ac.refl _).set ?_ _).set ?_ _)⟩
 ·exact .inl (.inr rfl)
 ·exact .inl (.inl rfl)
theorem Tn (h:AF w b sb p s t x e) (a:t<4) (c:t<s.thr.length) :
 XX Tryz.prog 96 #[Ab sb] w λr w'=>r = .returned (.tuple #[])/\Bt w w' b sb p (s.Ae t {s.th t with ph:=2}) t x {e with k:=10}:=by
 obtain⟨-,c1⟩:=h.Fx;obtain⟨-,d,-,-⟩:=h.Io;obtain⟨f,i⟩:=h.Ed;have c2:w.cell? ⟨b,27+t*207+1,none⟩=some (.int .i64 (s.th t).ph):=by rw[h.m.cell (by omega),Fz p s a (by omega)];rfl
 have g:=h.ne;have H:=Aa h;clear h;unfold Ab
 go_enter Tryz.func96,Tryz.ntmps96
 go_wp2_with fail
 go_end0
 refine⟨rfl,.of ((H.out.ME 10).GA (λj=>Lo a c 2)) (((Ac.refl _).set ?_ _).set ?_ _)⟩
 ·exact .inl (.inr rfl)
 ·exact .inl (.inl rfl)
theorem NE (h:AF w b sb p s t x e) (c:t<4) (f:t<s.thr.length) (i:0<=x.x) (g:Bool) :
 XX Tryz.prog 92 #[Ab sb,.bool g] w λr w'=>r = .returned (.tuple #[])/\Bt w w' b sb p (if g then s.Ae t {s.th t with pc:=x.x.toNat} else s) t x e:=by
 obtain⟨n,a⟩:∃n:Nat,x.x=n:=⟨x.x.toNat,by omega⟩;obtain⟨-,c1⟩:=h.Fx;obtain⟨-,-,-,-,-,-,d⟩:=h.ins;rw[a] at d;obtain⟨k,o⟩:=h.Ed;have c2:w.cell? ⟨b,27+t*207+2,none⟩=some (.int .i64 (s.th t).pc):=by rw[h.m.cell (by omega),Fz p s c (by omega)];rfl
 have l:=h.ne;have H:=Aa h;replace a:Hid (x.x.toNat=n):=by unfold Hid;omega
 clear h i;unfold Ab
 cases g with
 |false=>
  go_enter Tryz.func92,Tryz.ntmps92
  go_wp2_with fail
  go_end0
  exact⟨rfl,.of H.out (Ac.refl _)⟩
 |true=>
  go_enter Tryz.func92,Tryz.ntmps92
  go_wp2_with fail
  go_region
  all_goals
   go_wp2_with fail
   go_end0
   refine⟨rfl,.of ?_ ((Ac.refl _).drew.set (.inl (.inl rfl)) _)⟩;rw[a.out]
   exact(AF.same (w':=w.drew) H.out rfl).GA (λj=>RF c f n)
end
section
variable {w w':Xh} {b sb:Nat} {p:PD} {s:MS} {t:Nat} {x:Ad} {e:Ev}
theorem RN (h:An w b 117 856 (AA p s)) {t m:Nat} (a:t<4) (c:m<4):w.cell? ⟨b,27+t*207+3+m,none⟩=some (.int .i64 ((s.th t).regs.getD m 0)):=by
 rw[show 27+t*207+3+m=27+t*207+(3+m) by omega,h.cell (by omega),Fz p s a (by omega)];unfold BU;rw[if_neg (by omega),if_neg (by omega),if_neg (by omega),if_pos (by omega),show 3+m - 3=m by omega]
theorem UX {n:Int} (h : -1000<=n):Int.tmod (n+1000) 1000=(n+1000) % 1000:=Int.tmod_eq_emod_of_nonneg (by omega)
theorem LW (h:AF w b sb p s t x e) (d:t<4) (o:t<s.thr.length) (i:(s.th t).regs.length=4) (f:0<=x.r/\x.r<4) (n:Int) (g : -1000<=n) (u:n<2000000) :
 XX Tryz.prog 75 #[Ab sb,.int .i64 n] w λr w'=>r = .returned (.tuple #[])/\Bt w w' b sb p (s.Ae t {s.th t with regs:=(s.th t).regs.set x.r.toNat (n % 1000)}) t x e:=by
 obtain⟨m,a⟩:∃m:Nat,x.r=m:=⟨x.r.toNat,by omega⟩;have c:m<4:=by omega
 have y:(m:Int)<4:=by omega
 obtain⟨-,c1⟩:=h.Fx;obtain⟨-,c3,-,-,-,-,-⟩:=h.ins;rw[a] at c3;obtain⟨B,D⟩:=h.Ed;have c2:=RN h.m d c;have C:XO (n+1000)=n+1000:=by unfold XO;omega
 have q:=UX g;have z:XO ((n+1000) % 1000)=(n+1000) % 1000:=by unfold XO;omega
 have A:=h.ne;have H:=Aa h;replace a:Hid (x.r.toNat=m):=by unfold Hid;omega
 generalize l:(s.th t).regs.getD m 0=v at *;clear h f l;unfold Ab
 go_enter Tryz.func75,Tryz.ntmps75
 go_wp2_with fail
 go_region
 all_goals
  go_wp2_with fail
  go_end0
  refine⟨rfl,.of ?_ ((Ac.refl _).drew.set (.inl (.inl rfl)) _)⟩;rw[a.out];have:=H.out.GA (λj=>RE d o c i (n % 1000) (k:=j));rw[show 27+t*207+(3+m)=27+t*207+3+m by omega] at this;exact this.same rfl
theorem Sq (w:Xh) (b sb i:Nat) (v:Xk):Ac (λk=>k=b\/k=sb) w (w.setCell ⟨sb,i,none⟩ v):=(Ac.refl _).set (.inl (.inr rfl)) _
theorem Kk (w:Xh) (b sb i:Nat) (v:Xk):Ac (λk=>k=b\/k=sb) w (w.setCell ⟨b,i,none⟩ v):=(Ac.refl _).set (.inl (.inl rfl)) _
theorem Sr (w:Xh) (b sb q:Nat):Ac (λk=>k=b\/k=sb) w (w.drewN q):=⟨rfl,rfl,rfl,Xd _,λ_ _ _=>rfl⟩
theorem acl (w:Xh) (b sb i j:Nat) (v u:Xk):Ac (λk=>k=b\/k=sb) w (((w.setCell ⟨sb,i,none⟩ v).drew.setCell ⟨b,j,none⟩ u).drew):=((Sq w b sb i v).drew.trans (Kk _ b sb j u)).drew
theorem RO (h:An w b 117 856 (AA p s)) {o n:Nat} (a:n<4) (c:o=0\/o=9):w.cell? ⟨b,o+n*2+1,none⟩=some (.int .i64 ((if o=0 then s.vars else s.flags).getD n 0)):=by
 rcases c with rfl|rfl
 ·rw[h.cell (by omega),show 0+n*2+1=n*2+1 by omega,RD p s a];rfl
 ·rw[h.cell (by omega),show 9+n*2+1=9+(n*2+1) by omega,RJ p s a];rfl
def Qg (s:MS) (o n:Nat) (v:Int):MS:=if o=0 then {s with vars:=s.vars.set n v} else {s with flags:=s.flags.set n v}
theorem abx {o n:Nat} (a:n<4) (c:o=0\/o=9) (b:n<(if o=0 then s.vars else s.flags).length) (v:Int) {k:Nat}:(if k=o+n*2+1 then Value.int .i64 v else AA p s k)=AA p (Qg s o n v) k:=by
 rcases c with rfl|rfl
 ·rw[show 0+n*2+1=n*2+1 by omega];exact abw a b v
 ·rw[show 9+n*2+1=9+(n*2+1) by omega];exact abz a b v
theorem Th (h:AF w b sb p s t x e) (l:t<4) (y:t<s.thr.length) (u:(s.th t).regs.length=4) (D:0<=x.r/\x.r<4) (z:0<=x.x/\x.x<4) (kd:Int) {o:Nat} (d:o=0\/o=9) :
 XX Tryz.prog 81 #[Ab sb,.int .i64 kd,.pointer (some ⟨b,o,none⟩)] w λr w'=>r = .returned (.tuple #[])/\Bt w w' b sb p (s.Ae t {s.th t with regs:=(s.th t).regs.set x.r.toNat ((if o=0 then s.vars else s.flags).getD x.x.toNat 0)}) t x {e with k:=kd,o:=x.x,v:=(if o=0 then s.vars else s.flags).getD x.x.toNat 0}:=by
 obtain⟨m,i⟩:∃m:Nat,x.r=m:=⟨x.r.toNat,by omega⟩;obtain⟨n,q⟩:∃n:Nat,x.x=n:=⟨x.x.toNat,by omega⟩;have f:m<4:=by omega
 have M:(m:Int)<4:=by omega
 have F:n<4:=by omega
 have I:(n:Int)<4:=by omega
 have T:=Jd h kd;have A:Hid (x.r.toNat=m):=by unfold Hid;omega
 have C:Hid (x.x.toNat=n):=by unfold Hid;omega
 have K:=h.ne;clear h;rw[C.out,A.out];obtain⟨v,c⟩:∃v,(if o=0 then s.vars else s.flags).getD n 0=v:=⟨_,rfl⟩;rw[c];replace c:=Aa c;unfold Ab at *
 go_enter Tryz.func81,Tryz.ntmps81
 go_wp2_with fail
 refine T.mono ?_;rintro O w1 ⟨rfl,a,g⟩;obtain⟨-,c1⟩:=a.Fx;obtain⟨-,c3,-,-,-,-,E⟩:=a.ins;obtain⟨-,-,-,G⟩:=a.Io;rw[i] at c3;rw[q] at E;obtain⟨N,J⟩:=a.Ed;have c2:=RN a.m l f;have c4:=RO a.m F d;rw[c.out] at c4;generalize (s.th t).regs.getD m 0=v0 at *;have H:=Aa a;have B:=Aa g;clear a g T D z i q d
 go_wp2_with fail
 go_region
 all_goals
  go_wp2_with fail
  go_region
  all_goals
   go_wp2_with fail
   go_end0
   refine⟨rfl,.of ?_ (B.out.trans (acl w1 b sb _ _ _ _))⟩;have:=(H.out.Qd v).GA (λj=>RE l y f u v (k:=j));rw[show 27+t*207+(3+m)=27+t*207+3+m by omega] at this;exact this.same rfl
theorem So (h:AF w b sb p s t x e) (F:t<4) (z:(s.th t).regs.length=4) (E:Fk x.aR x.aN) (A:0<=x.x/\x.x<4) (kd:Int) {o:Nat} (f:o=0\/o=9) (g:x.x.toNat<(if o=0 then s.vars else s.flags).length) :
 XX Tryz.prog 83 #[Ab sb,.int .i64 kd,.pointer (some ⟨b,o,none⟩)] w λr w'=>r = .returned (.tuple #[])/\Bt w w' b sb p (Qg s o x.x.toNat (Af (s.th t) x.aR x.aN)) t x {e with k:=kd,o:=x.x,v:=Af (s.th t) x.aR x.aN}:=by
 obtain⟨n,y⟩:∃n:Nat,x.x=n:=⟨x.x.toNat,by omega⟩;have u:n<4:=by omega
 have M:(n:Int)<4:=by omega
 have T:=Jd h kd;have D:Hid (x.x.toNat=n):=by unfold Hid;omega
 have O:=h.ne;clear h;rw[D.out] at g |-;obtain⟨v,c⟩:∃v,Af (s.th t) x.aR x.aN=v:=⟨_,rfl⟩;rw[c];replace c:=Aa c;unfold Ab at *
 go_enter Tryz.func83,Tryz.ntmps83
 go_wp2_with fail
 refine T.mono ?_;rintro S w1 ⟨rfl,d,q⟩;obtain⟨-,-,c4,c5,-,-,-⟩:=d.ins;have V:=EX d F z _ _ E;rw[c.out] at V;have H:=Aa d;have i:=Aa q;clear d q T A;unfold Ab at V
 go_wp2_with fail
 refine V.mono ?_;rintro Q C ⟨rfl,l⟩;have a:=H.out.below l;replace i:=Aa (i.out.trans (Ac.DG l));obtain⟨-,-,-,-,-,-,G⟩:=a.ins;obtain⟨-,-,-,K⟩:=a.Io;rw[y] at G;obtain⟨P,N⟩:=a.Ed;have R:=RO a.m u f;generalize (if o=0 then s.vars else s.flags).getD n 0=v0 at *;have J:=Aa a;have I:=Aa f;have B:=Aa g;clear a H V c4 c5 l y f g
 go_wp2_with fail
 go_region
 all_goals
  go_wp2_with fail
  go_end0
  refine⟨rfl,.of ?_ (i.out.trans ((Sq C b sb _ _).trans (Kk _ b sb _ _)).drew)⟩
  exact((J.out.Qd v).GA (λj=>abx u I.out B.out v (k:=j))).same rfl
theorem Nr (h:An w b 117 856 (AA p s)) {n:Nat} (a:n<4):w.cell? ⟨b,18+n*2+1,none⟩=some (.int .i64 (s.locks.getD n 0)):=by
 rw[show 18+n*2+1=18+(n*2+1) by omega,h.cell (by omega),Nq p s a]
theorem RH {n:Nat} (a:n<4) (b:n<s.locks.length) (v:Int) {k:Nat}:(if k=18+n*2+1 then Value.int .i64 v else AA p s k)=AA p {s with locks:=s.locks.set n v} k:=by
 rw[show 18+n*2+1=18+(n*2+1) by omega];exact aby a b v
theorem ae8 (h:AF w b sb p s t x e) (v:0<=x.x/\x.x<4) (c:x.x.toNat<s.locks.length) :
 XX Tryz.prog 86 #[Ab sb] w λr w'=>r = .returned (.tuple #[])/\Bt w w' b sb p {s with locks:=s.locks.set x.x.toNat e.t} t x {e with k:=5,o:=x.x}:=by
 obtain⟨n,d⟩:∃n:Nat,x.x=n:=⟨x.x.toNat,by omega⟩;have g:n<4:=by omega
 have C:(n:Int)<4:=by omega
 have T:=Jd h 5;have i:Hid (x.x.toNat=n):=by unfold Hid;omega
 have A:=h.ne;clear h;rw[i.out] at c |-;unfold Ab at *
 go_enter Tryz.func86,Tryz.ntmps86
 go_wp2_with fail
 refine T.mono ?_;rintro B w1 ⟨rfl,a,f⟩;obtain⟨c0,-⟩:=a.Fx;obtain⟨-,-,-,-,-,-,u⟩:=a.ins;rw[d] at u;obtain⟨y,-,-,-⟩:=a.Io;obtain⟨z,D⟩:=a.Ed;have c4:=Nr a.m g;generalize s.locks.getD n 0=v0 at *;have H:=Aa a;have q:=Aa f;have l:=Aa c;clear a f T v c d
 go_wp2_with fail
 go_region
 all_goals
  go_wp2_with fail
  go_end0
  refine⟨rfl,.of ?_ (q.out.trans (Kk w1 b sb _ _).drew)⟩
  exact(H.out.GA (λj=>RH g l.out e.t (k:=j))).same rfl
theorem aac (h:AF w b sb p s t x e) (I:t<4) (B:t<s.thr.length) (C:0<=x.x/\x.x<4) (i:x.x.toNat<s.locks.length) :
 XX Tryz.prog 87 #[Ab sb] w λr w'=>r = .returned (.tuple #[])/\
  if s.locks.getD x.x.toNat 0≠e.t then Bt w w' b sb p (s.Ae t {s.th t with ph:=3}) t x {e with k:=9} else Bt w w' b sb p {s with locks:=s.locks.set x.x.toNat (-1)} t x {e with k:=6,o:=x.x}:=by
 obtain⟨n,z⟩:∃n:Nat,x.x=n:=⟨x.x.toNat,by omega⟩;have u:n<4:=by omega
 have K:(n:Int)<4:=by omega
 have E:Hid (x.x.toNat=n):=by unfold Hid;omega
 have N:=h.ne;obtain⟨c0,-⟩:=h.Fx;obtain⟨-,-,-,-,-,-,y⟩:=h.ins;rw[z] at y;obtain⟨G,-,-,-⟩:=h.Io;have c4:=Nr h.m u;rw[E.out] at i |-;have v:∀q,AF (w.drewN q) b sb p s t x e:=λq=>h.same rfl;have T:=λq=>Jd (v q) 6;have F:=λq=>Tj (v q) I B;generalize s.locks.getD n 0=v0 at *;have H:=Aa h;have D:=Aa i;clear h C i z v;unfold Ab at *
 by_cases f:v0=e.t
 ·have d:(v0≠e.t)=False:=by simp[f]
  simp only[d,if_false];clear d;have A:(v0 != e.t)=false:=by simp[f]
  clear F
  go_enter Tryz.func87,Tryz.ntmps87
  go_wp2_with fail
  go_quiet (fail)
  go_wp2_with fail
  go_quiet (fail)
  go_wp2_with fail
  refine(T _).mono ?_;rintro J w1 ⟨rfl,c,a⟩;replace a:=(Sr w b sb _).trans a;have P:=Nr c.m u;obtain⟨O,M⟩:=c.Ed;have g:=Aa c;have l:=Aa a;clear c a T c0 c4 y G
  go_wp2_with fail
  go_end0
  refine⟨rfl,.of ?_ (l.out.trans (Kk w1 b sb _ _))⟩;exact g.out.GA (λj=>RH u D.out (-1) (k:=j))
 ·have d:(v0≠e.t)=True:=by simp[f]
  simp only[d,if_true];clear d;have A:(v0 != e.t)=true:=by simp[f]
  clear T
  go_enter Tryz.func87,Tryz.ntmps87
  go_wp2_with fail
  go_quiet (fail)
  go_wp2_with fail
  go_quiet (fail)
  go_wp2_with fail
  refine(F _).mono ?_;rintro J w1 ⟨rfl,c,a⟩;replace a:=(Sr w b sb _).trans a;have l:=Aa a;have g:=Aa c;clear c a F
  go_wp2_with fail
  refine bodyPost_ret (results_none rfl _ _ _) rfl ?_
  exact⟨rfl,.of g.out l.out⟩
theorem VQ (h:AF w b sb p s t x e) (v:0<=x.x/\x.x<4) (c:x.x.toNat<s.thr.length) :
 XX Tryz.prog 88 #[Ab sb] w λr w'=>r = .returned (.tuple #[])/\Bt w w' b sb p (s.Ae x.x.toNat {s.th x.x.toNat with ph:=1}) t x {e with k:=7,o:=x.x}:=by
 obtain⟨n,d⟩:∃n:Nat,x.x=n:=⟨x.x.toNat,by omega⟩;have g:n<4:=by omega
 have B:(n:Int)<4:=by omega
 have T:=Jd h 7;have i:Hid (x.x.toNat=n):=by unfold Hid;omega
 have z:=h.ne;clear h;rw[i.out] at c |-;unfold Ab at *
 go_enter Tryz.func88,Tryz.ntmps88
 go_wp2_with fail
 refine T.mono ?_;rintro A w1 ⟨rfl,a,f⟩;obtain⟨c0,-⟩:=a.Fx;obtain⟨-,-,-,-,-,-,u⟩:=a.ins;rw[d] at u;obtain⟨y,C⟩:=a.Ed;have c4:w1.cell? ⟨b,27+n*207+1,none⟩=some (.int .i64 (s.th n).ph):=by rw[a.m.cell (by omega),Fz p s g (by omega)];rfl
 have H:=Aa a;have q:=Aa f;have l:=Aa c;clear a f T v c d
 go_wp2_with fail
 go_region
 all_goals
  go_wp2_with fail
  go_end0
  refine⟨rfl,.of ?_ (q.out.trans (Kk w1 b sb _ _).drew)⟩
  exact(H.out.GA (λj=>Lo g l.out 1 (k:=j))).same rfl
end
end Go.Proofs.YtdcacoifehkioaaGreatDoor
