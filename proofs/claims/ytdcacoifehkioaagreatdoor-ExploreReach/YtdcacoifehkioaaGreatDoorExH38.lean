import Derived.Test.YtdcacoifehkioaaGreatDoorExH36
import Derived.Test.YtdcacoifehkioaaGreatDoorExH37
import Derived.Test.YtdcacoifehkioaaGreatDoorExH3
open Go renaming World->Xh,Calls->XX,wp_region_held_drew->Xx,wpAnyH_done->Yd
open Go.RowKit renaming Below->Xm
set_option maxRecDepth 100000
set_option maxHeartbeats 8000000
set_option linter.unusedVariables false
set_option linter.unusedSimpArgs false
namespace Go.Proofs.YtdcacoifehkioaaGreatDoor
open Go.RowKit Go.Shelf Go.Proofs.Cod
theorem adS {w:Xh} {Z:Nat} {er em:Addr} (B:XW w Z er em) (hZ:Z<=w.heap.size) (t o:Tx) {most:Int} (U : -9223372036854775808<=most/\most<=9223372036854775807) :
 XX Tryz.prog 5 #[.string (bs t),.string (bs o),.int .i64 most] w λe w'=>e = .returned (.bool true)/\Xm w.heap.size w w':=by
 have hL:=abQ t B.t hZ;have HA:=Aa (fun(u:Xh) (hb:Xm w.heap.size w u)=>ae3 (B.same λk hk=>hb.block k (by omega)) (by have:=hb.size;omega));have HT:=Aa (⟨B,hZ,U⟩:_/\_/\_);clear B hZ U
 go_enter Tryz.func5,Tryz.ntmps5
 go_wp2_with fail
 refine hL.mono ?_;clear hL;rintro e w1 ⟨T,(rfl|⟨s,C,vV,fV,lV,cQ,L,qv,qf,ql,qt,P,TV,he,rfl,bI,cg,hQ,bP,b3,bY,bF,ap⟩)⟩
 ·have M:∀o1 o2,Xm w.heap.size w ((w1.alloc o1).alloc o2):=λo1 o2=>(T.alloc T.size o1).alloc (by show w.heap.size<=(w1.heap.push o1).size;have:=T.size;simp;omega) o2;have au:=HA.out _ (M (.cells #[.slice none 0 0,.slice none 0 0,.slice none 0 0,.slice none 0 0] 25) (.cells #[.slice none 0 0,.slice none 0 0,.slice none 0 0,.slice none 0 0] 28));have bj:=Aa (M (.cells #[.slice none 0 0,.slice none 0 0,.slice none 0 0,.slice none 0 0] 25) (.cells #[.slice none 0 0,.slice none 0 0,.slice none 0 0,.slice none 0 0] 28));unfold Hk;clear T M HA HT
  go_wp2_with fail
  refine au.mono ?_;rintro e w2 ⟨rfl,ah⟩;have HN:=Aa (bj.out.trans (ah.mono bj.out.size));clear au ah bj
  go_wp2_with fail
  go_ret
  exact⟨rfl,HN.out⟩
 ·have a3:=Rw (L:=L) he;obtain⟨nv,nf,nl,nt,va,fa,J,E,vc,fc,G,F,x1,x2,x3,x4,z1,z2,z3,z4,rfl,rfl,rfl,rfl,rfl,rfl,rfl,rfl,bD⟩:=UT he bI cg hQ bP b3 bY bF ap;clear he bI cg hQ bP b3 bY bF ap;obtain⟨vs,b2⟩:∃x,s.nms 118=x:=⟨_,rfl⟩;obtain⟨fs,b7⟩:∃x,s.nms 102=x:=⟨_,rfl⟩;obtain⟨ls,bW⟩:∃x,s.nms 109=x:=⟨_,rfl⟩;rw[b2,b7,bW] at bD a3;clear b2 b7 bW s;obtain⟨j,am⟩:∃j,(w1.alloc (.cells #[.slice va nv vc,.slice fa nf fc,.slice J nl G,.slice E nt F] 25)).alloc (.cells #[.slice x1 nv z1,.slice x2 nf z2,.slice x3 nl z3,.slice x4 nt z4] 28)=j:=⟨_,rfl⟩;obtain⟨ah,k1,k2,a1⟩:=FK _ _ _ am;obtain⟨B,hZ,U⟩:=HT.out;have M:=T.trans (ah.mono T.size);have f:=bD.below ah;have aR:∀m,BT (Am vs fs ls L C) m->(Aj (Am vs fs ls L C) m).length<4294967000:=λm hm=>PT f.fit f.n8 hm;have z:∀u,Xm j.heap.size j u->Xm w.heap.size w u/\XW u Z er em/\Z<=u.heap.size:=λu l=>by
   have q:=M.trans (l.mono M.size)
   exact⟨q,B.same λk hk=>q.block k (by omega),by have:=q.size;omega⟩
  have hD:XX Tryz.prog 9 #[.agg #[.slice x1 nv z1,.slice x2 nf z2,.slice x3 nl z3,.slice x4 nt z4],.int .i64 most] j (IZ j ⟨nv,nf,nl,nt,nt*4⟩ (Am vs fs ls L C) most):=by
   have q:=aah (nr:=nt*4) (z j (Below.refl _ _)).2.1.t (z j (Below.refl _ _)).2.2 f.doc f.pt f.pv f.pf f.pl rfl (by rw[f.pd];exact f.fit) (by rw[f.pd];exact f.n8) (by rw[f.pd];exact aR) U;rw[f.pd] at q;exact q
  have bT:Hid (∀u e w',IZ u ⟨nv,nf,nl,nt,nt*4⟩ (Am vs fs ls L C) most e w'->_):=λu e w' h=>UV (d:=⟨nv,nf,nl,nt,nt*4⟩) f.fit f.lv f.lf f.ll f.cl h;have bC:Hid (∀u o,Xm j.heap.size j u->XX Tryz.prog 18 #[.agg #[.slice va nv vc,.slice fa nf fc,.slice J nl G,.slice E nt F],.string (bs o),.int .i64 most] u λe w'=>IX w' (Am vs fs ls L C) most o e/\Xm u.heap.size u w'):=λu o l=>QO o U (z u l).2.1 (z u l).2.2 (f.prog.below l) f.b f.fit f.n8 a3 aR;have be:Hid (∀u (a:Option Addr) (n cap:Nat) (sl:List Int) (m:MS),Xm j.heap.size j u->sl.length=n->Is u a sl->n<=20000->FH (Am vs fs ls L C) sl m->XX Tryz.prog 19 #[.agg #[.slice va nv vc,.slice fa nf fc,.slice J nl G,.slice E nt F],.slice a n cap] u λe w'=>∃b,e = .returned (.tuple #[Ab b,.bool true])/\u.heap.size<=b/\AP w' b (Am vs fs ls L C) m/\BT (Am vs fs ls L C) m/\Xm u.heap.size u w'):=λu a n cap sl m l h1 h2 h3 h4=>aaJ (f.prog.below l) f.b f.fit (by rw[f.cl,f.lt]) h1 h2 h3 h4;have aU:Hid (∀u b m,Xm j.heap.size j u->AP u b (Am vs fs ls L C) m->BT (Am vs fs ls L C) m->AG C m=[]->XX Tryz.prog 16 #[.agg #[.slice va nv vc,.slice fa nf fc,.slice J nl G,.slice E nt F],Ab b] u λe w'=>e = .returned (.string (bs (Bl (Am vs fs ls L C) m)))/\AP w' b (Am vs fs ls L C) m/\Ac (λk=>k=b) u w'):=λu b m l hm ho he=>aa8 hm (z u l).2.1.t (z u l).2.2 f.fit ho f.n8 a3 he f.lv f.lf (by show (L.map Prod.fst).length=nt;rw[List.length_map];exact f.lt) (aR m ho);have bt:Hid (∀u b m,AP u b (Am vs fs ls L C) m->BT (Am vs fs ls L C) m->_):=λu b m hm ho=>QL hm f.fit ho;have aj:(Am vs fs ls L C).vs.length<=4:=f.fit.v;obtain⟨p,hp⟩:∃p,Am vs fs ls L C=p:=⟨_,rfl⟩;have ap:p.C=C:=by rw[<-hp];rfl
  simp only[hp] at hD bT bC be aU bt;simp only[<-ap] at aU;rw[hp] at aj;obtain⟨q0,q1,q2,q3⟩:=BK k2;have H2:=Aa (⟨z,aj,k1,a1⟩:_/\_/\_/\_);replace am:=Aa am;clear bD a3 T ah k1 k2 a1 B hZ U M f aR z aj hp ap HT;unfold Ab at be aU bt
  go_upto_region 4 with fail
  rw[am.out];clear am
  go_wp2_with fail
  refine hD.mono ?_;clear hD q0 q1 q2 q3;rintro e w3 hR;obtain⟨bi,n,oa,ra,R,rc,os,st,fb,rs,aV,rfl,bZ,-,-,-,bv⟩:=bT.out j e w3 hR;obtain⟨A,bh⟩:∃x,os.length=x:=⟨_,rfl⟩;obtain⟨rn,cf⟩:∃x,rs.length=x:=⟨_,rfl⟩;obtain⟨y,Y⟩:∃y,w3.alloc (.cells #[.int .i64 n,.slice oa A R,.bool st,.bool fb,.slice ra rn rc] 38)=y:=⟨_,rfl⟩;have bl:Xm w3.heap.size w3 y:=by rw[<-Y];exact(Below.refl _ _).alloc (Nat.le_refl _) _
  have k4:y.heap[w3.heap.size]?=some (.cells #[.int .i64 n,.slice oa A R,.bool st,.bool fb,.slice ra rn rc] 38):=by rw[<-Y];exact World.alloc_heap_new w3 _
  obtain⟨z,aj,k1,a1⟩:=H2.out;have W:=bi.trans (bl.mono bi.size);have bS:=(bv.len aj).1;have cd:=bZ.below bl;have ba:=(Array.getElem?_eq_some_iff.1 k4).1;have bc:w1.heap.size<y.heap.size:=by have:=W.size;omega
  have aY:=(W.block w1.heap.size (by omega)).trans k1;obtain⟨r,aQ⟩:∃x,w1.heap.size=x:=⟨_,rfl⟩;obtain⟨zR,aS⟩:∃x,w3.heap.size=x:=⟨_,rfl⟩;rw[aQ] at aY bc;rw[aS] at k4 ba;have HU:Hid (∀u,Xm y.heap.size y u->Xm w.heap.size w u/\Xm j.heap.size j u/\(u.cell? ⟨r,0,none⟩=some (.slice va nv vc)/\u.cell? ⟨r,1,none⟩=some (.slice fa nf fc)/\u.cell? ⟨r,2,none⟩=some (.slice J nl G)/\u.cell? ⟨r,3,none⟩=some (.slice E nt F))/\u.cell? ⟨zR,1,none⟩=some (.slice oa A R)/\Ts u oa os):=λu l=>by
   have q:=W.trans (l.mono W.size)
   exact⟨(z u q).1,q,BK ((l.block _ bc).trans aY),(Dr ((l.block _ ba).trans k4)).2.1,cd.below l⟩
  have b6:=bC.out y o W;rw[bh,cf];obtain⟨q0,q1,q2,q3⟩:=BK aY;have I:=Aa (⟨bv,bh,bS⟩:_/\_/\_);replace Y:=Aa Y;replace aQ:=Aa aQ;replace aS:=Aa aS;clear hR bi bv bh cf bl k4 W bS bZ cd ba bc aY aj z k1 a1
  go_upto_region 5 with fail
  rw[Y.out]
  (try rw[aQ.out])
  (try rw[aS.out])
  clear Y
  go_wp2_with fail
  refine b6.mono ?_;clear b6 q0 q1 q2 q3;rintro e w5 ⟨ax,bq⟩;obtain⟨ya,yn,yc,rfl,bK,-⟩:=QN I.out.1 ax;obtain⟨-,-,-,p1,X⟩:=HU.out w5 bq;have hH:=ac1 (ca:=R) (s:=o) X I.out.2.1 (by have:=I.out.2.2;have:=I.out.2.1;omega);obtain⟨fd,aM⟩:∃x,decide (o∈os)=x:=⟨_,rfl⟩;rw[aM] at hH;have b1:fd=false->yn=0:=λq=>by subst q;exact bK (of_decide_eq_false aM)
  rw[aM];have H5:=Aa (⟨bq,b1⟩:_/\_);clear ax bq bK X aM b1
  go_wp2_with fail
  refine hH.mono ?_;clear hH p1;rintro e w6 ⟨rfl,cb⟩;have H6:=Aa (H5.out.1.trans (cb.mono H5.out.1.size));clear cb;have b4:(aV != aV)=false:=by simp
  have b5:(fd != fd)=false:=by simp
  go_upto_region 7 with fail
  go_cut [12,63] (λ_ cv wx=>cv = .bool false/\wx=w6)
  case first=>
   cases fd with
   |true=>
    clear H5
    go_wp2_with fail
    refine(Kd aV _).mono ?_;rintro e w7 ⟨rfl,rfl⟩
    go_wp2_with fail
    go_meet
    exact⟨rfl,by first|rfl|trivial⟩
   |false=>
    have e0:=H5.out.2 rfl;subst e0;clear H5
    go_wp2_with fail
    refine(Kd aV _).mono ?_;rintro e w7 ⟨rfl,rfl⟩
    go_wp2_with fail
    go_meet
    exact⟨rfl,by first|rfl|trivial⟩
  case rest=>
   obtain⟨rfl,rfl⟩:=hcut;clear H5 b4 b5
   go_wp2_with fail
   go_loopw [12,13,16] (λ_ _ iv wr=>∃i:Nat,i<=A/\iv = .int .i64 i/\Xm y.heap.size y wr) (λ_ _ iv _=>A - (intOf iv).toNat)
   case atStart=>exact⟨0,Nat.zero_le _,rfl,H6.out⟩
   case round=>
    clear H6;obtain⟨i,hi,rfl,hB⟩:=hrel;obtain⟨hw,-,-,p1,X⟩:=HU.out wr hB
    by_cases h5:i<A
    ·have ay:i<os.length:=by have:=I.out.2.1;omega
     obtain⟨g,ac,ea,hg,-⟩:=X i ay;subst ea;obtain⟨x,B⟩:∃x,os.getD i []=x:=⟨_,rfl⟩;have cn:x∈os:=by
      rw[<-B,List.getD_eq_getElem?_getD,List.getElem?_eq_getElem ay];exact List.getElem_mem ay
     have HC:Hid (∀u,Xm y.heap.size y u->(λu=>(u.cell? ⟨r,0,none⟩=some (.slice va nv vc)/\u.cell? ⟨r,1,none⟩=some (.slice fa nf fc)/\u.cell? ⟨r,2,none⟩=some (.slice J nl G)/\u.cell? ⟨r,3,none⟩=some (.slice E nt F))/\u.cell? ⟨zR,1,none⟩=some (.slice (some ⟨g,ac,none⟩) A R)/\u.cell? ⟨g,ac+i,none⟩=some (.string (bs x))) u):=λu l=>by
      obtain⟨-,-,h1,h2,h3⟩:=HU.out u l;obtain⟨b',cU,e',-,hc⟩:=h3 i ay;injection e' with e'
      injection e' with e1 e2 _
      subst e1 e2;rw[B] at hc
      exact⟨h1,h2,hc⟩
     have cT:(i:Int)<(A:Int):=by omega
     have bM:Hid (wrap64 ((i:Int)+1)=(i:Int)+1):=OK (by have:=I.out.2.1;have:=I.out.2.2;omega);have Q:Xm wr.heap.size wr wr.drew:=⟨rfl,rfl,rfl,Nat.le_refl _,λ_ _=>rfl⟩;have O:=hB.trans (Q.mono hB.size);have aB:=Aa (HC.out wr.drew O);have N:=Aa (⟨h5,cn,O⟩:_/\_/\_);clear hi hB hw X h5 ay hg B cn Q O
     rename Xh=>wo
     go_upto_region 12 with fail
     clear p1;refine Xx (S:=(λu=>(u.cell? ⟨r,0,none⟩=some (.slice va nv vc)/\u.cell? ⟨r,1,none⟩=some (.slice fa nf fc)/\u.cell? ⟨r,2,none⟩=some (.slice J nl G)/\u.cell? ⟨r,3,none⟩=some (.slice E nt F))/\u.cell? ⟨zR,1,none⟩=some (.slice (some ⟨g,ac,none⟩) A R)/\u.cell? ⟨g,ac+i,none⟩=some (.string (bs x)))) (by kernel_rfl) aB.out (λc=>?_);refine tk 0 c ?_;refine tk 1 c ?_;refine tk 2 c ?_;refine tk 3 c ?_;refine tk 4 c ?_;refine tk 5 c ?_;refine tk 6 c ?_;refine rd 7 (λK H=>?_)
     go_simp
     go_at_call 18
     refine(bC.out _ x (HU.out _ N.out.2.2).2.1).mono ?_;rintro e w8 ⟨ax,bJ⟩;obtain⟨ya,yn,yc,rfl,-,hyes⟩:=QN I.out.1 ax;obtain⟨sl,m,ar,az,aw,aZ,aT,an⟩:=hyes N.out.2.1;rw[decide_eq_true N.out.2.1];have af:=N.out.2.2.trans (bJ.mono N.out.2.2.size);have V:=Aa (HC.out w8 af);have D:=Aa (⟨af,ar,az,aw,aZ,aT,an⟩:_/\_/\_/\_/\_/\_/\_);clear ax hyes ar az aw aZ aT an bJ af
     go_wp2_with fail
     refine H.out _ _ V.out (λc=>?_);clear H K
     try simp only[Act.put,sq]
     refine tk 8 c ?_;refine tk 9 c ?_;refine tk 10 c ?_;refine tk 11 c ?_;refine tk 12 c ?_;refine tk 13 c ?_;refine Yd (by kernel_rfl) ?_ _;clear c aB;obtain⟨⟨q0,q1,q2,q3⟩,-,-⟩:=V.out;obtain⟨af,ar,az,aw,aZ,aT,an⟩:=D.out;have cc:=be.out w8 ya yn yc sl m (HU.out w8 af).2.1 ar az an aw;clear af ar az aw aZ aT an V
     go_wp2_with fail
     refine cc.mono ?_;rintro e w9 ⟨b,rfl,cA,bp,bn,hb9⟩;clear cc q0 q1 q2 q3;have Q:Xm w9.heap.size w9 w9.drew:=⟨rfl,rfl,rfl,Nat.le_refl _,λ_ _=>rfl⟩;have bg:=D.out.1.trans (hb9.mono D.out.1.size);have O:=bg.trans (Q.mono bg.size);have aB:=Aa (HC.out w9.drew O);have ch:y.heap.size<=b:=by have:=D.out.1.size;omega
     have hR:=bt.out _ b m (bp.below Q) bn;have HQ:=Aa (⟨O,bp.below Q,bn,ch⟩:_/\_/\_/\_);clear cA bp bn hb9 bg O ch Q
     go_upto_region 14 with fail
     refine Xx (S:=(λu=>(u.cell? ⟨r,0,none⟩=some (.slice va nv vc)/\u.cell? ⟨r,1,none⟩=some (.slice fa nf fc)/\u.cell? ⟨r,2,none⟩=some (.slice J nl G)/\u.cell? ⟨r,3,none⟩=some (.slice E nt F))/\u.cell? ⟨zR,1,none⟩=some (.slice (some ⟨g,ac,none⟩) A R)/\u.cell? ⟨g,ac+i,none⟩=some (.string (bs x)))) (by kernel_rfl) aB.out (λc=>?_);refine tk 0 c ?_;refine tk 1 c ?_;refine tk 2 c ?_;refine tk 3 c ?_;refine tk 4 c ?_;refine tk 5 c ?_;refine tk 6 c ?_;refine tk 7 c ?_;refine rd 8 (λK H=>?_)
     go_simp
     go_at_call 15
     refine hR.mono ?_;rintro e bB ⟨v,rfl,bd,bw⟩;rw[D.out.2.2.2.2.1] at bd;obtain⟨za,zc,rfl,-⟩:=Bf.of bd;rw[List.length_nil];have aL:=HQ.out.1.trans (bw.mono HQ.out.1.size);have V:=Aa (HC.out bB aL);have hC:=aU.out bB b m (HU.out bB aL).2.1 (HQ.out.2.1.below bw) HQ.out.2.2.1 D.out.2.2.2.2.1;rw[D.out.2.2.2.2.2.1] at hC;have bL:=Aa aL;clear hR bd bw aL
     go_wp2_with fail
     refine H.out _ _ V.out (λc=>?_);clear H K
     try simp only[Act.put,sq]
     refine tk 9 c ?_;refine tk 10 c ?_;refine tk 11 c ?_;refine tk 12 c ?_;refine tk 13 c ?_;refine tk 14 c ?_;refine tk 16 c ?_;refine tk 17 c ?_;refine tk 18 c ?_;refine tk 19 c ?_;refine tk 20 c ?_;refine rd 15 (λK H=>?_)
     go_simp
     go_at_call 16
     refine hC.mono ?_;rintro e cu ⟨rfl,-,ce⟩;have bx:=TR bL.out ce HQ.out.2.2.2;have cp:=Aa (HC.out cu bx);have HF:=Aa (⟨N.out.1,bx⟩:_/\_);clear hC ce bx
     go_wp2_with fail
     refine H.out _ _ cp.out (λc=>?_);clear H K
     try simp only[Act.put,sq]
     refine tk 21 c ?_;refine tk 22 c ?_;refine Yd (by kernel_rfl) ?_ _;clear c aB V cp HQ D HC N bL
     go_wp2_with fail
     go_roundw
     case rel=>
      (try rw[bM.out])
      exact⟨i+1,HF.out.1,rfl,HF.out.2⟩
     case measure=>
      (try rw[bM.out])
      exact Nat.sub_lt_sub_left HF.out.1 (Nat.lt_succ_self i)
    ·have cq:i=A:=by omega
     subst cq;have au:=HA.out wr hw;have b9:=Aa hw;clear hi hB hw X h5
     rename Xh=>wo
     go_wp2_with fail
     refine au.mono ?_;rintro e wg ⟨rfl,bV⟩;have HF:=Aa (b9.out.trans (bV.mono b9.out.size));clear bV au
     go_wp2_with fail
     go_ret
     exact⟨rfl,HF.out⟩
end Go.Proofs.YtdcacoifehkioaaGreatDoor
