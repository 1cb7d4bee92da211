import Derived.Test.YtdcacoifehkioaaGreatDoorExR32
import Derived.Test.YtdcacoifehkioaaGreatDoorExR34
import Derived.Test.YtdcacoifehkioaaGreatDoorExR35
import Derived.Test.YtdcacoifehkioaaGreatDoorExR20
import Derived.Test.YtdcacoifehkioaaGreatDoorExR19
open Go.RowKit renaming wrap64->Ya,Below->Xn
open Nat renaming zero_le->XD,sub_lt_sub_left->Xs,lt_succ_self->Xt
set_option maxRecDepth 100000
set_option maxHeartbeats 8000000
set_option linter.unusedVariables false
set_option linter.unusedSimpArgs false
namespace Go.Proofs.YtdcacoifehkioaaGreatDoor
open Go.RowKit Go.Shelf Go.Proofs.Cod
def FO (p:PD) (l:List MS) (m:MS):Prop:=Bt p m/\CY m/\Aj p m∈l.map (Aj p)
theorem VD {p:PD} {l:List MS} {m:MS} {most:Nat} (a:BL p) (b:GW p) (c:BS p most=some l) (h:FO p l m) (t:Int):FO p l (DF p.C m t).1:=by
 have q:=Mu a b c [t] (m,[]) h.1 h.2.1 h.2.2;have e:([t].foldl (GD false p.C) (m,[])).1=(DF p.C m t).1:=by
  show (GD false p.C (m,[]) t).1=_;rw[Vc]
 rw[e] at q;exact q
theorem VL {p:PD} {a b c d:Nat} (g:p.vs.length=a) (h:p.fs.length=b) (e:p.ls.length=c) (f:p.C.length=d):BO a b c d=CL p:=by
 subst g h e f;rfl
theorem Sw {i n:Nat} (h:i<n) (a:n<=9223372036854775807):Ya ((i:Int)+1)=(i:Int)+1:=by unfold Ya;omega
theorem MP {b:Nat} {W u c:World} (h:Xn W.heap.size W u) (a:Ae (λk=>k=b) u c) (e:W.heap.size<=b):Xn W.heap.size W c:=
 ⟨a.os.trans h.os,a.tape.trans h.tape,a.output.trans h.output,Nat.le_trans h.size a.size,λk d=>(a.block k (by have:=h.size;omega) (by omega)).trans (h.block k d)⟩
theorem abt {w:World} {Z:Nat} {er em:Addr} (D:XW w Z er em) (I:Z<=w.heap.size) (t:Tx) {a:Option Addr} {n cap:Nat} {sl:List Int} (W:sl.length=n) (B:Is w a sl) (M:n<=9223372036854775807) :
 Calls Tryz.prog 4 #[.string (bs t),.slice a n cap] w λe w'=>e = .returned (.bool true)/\Xn w.heap.size w w':=by
 have hL:=Wu t D.t I;have HA:=Aa (fun(u:World) (hb:Xn w.heap.size w u)=>acD (D.same λk hk=>hb.block k (by omega)) (by have:=hb.size;omega));have HT:=Aa (⟨D,I,W,B,M⟩:_/\_/\_/\_/\_);clear D I W B M
 go_enter Tryz.func4,Tryz.ntmps4
 go_wp2_with fail
 refine hL.mono ?_;clear hL;rintro e w1 ⟨ak,(rfl|⟨s,C,vV,fV,lV,da,L,qv,qf,ql,qt,P,TV,he,rfl,ck,bH,hQ,b9,cp,b5,cn,cr⟩)⟩
 ·have ao:∀o1 o2,Xn w.heap.size w ((w1.alloc o1).alloc o2):=λo1 o2=>(ak.alloc ak.size o1).alloc (by show w.heap.size<=(w1.heap.push o1).size;have:=ak.size;simp;omega) o2;have G:=HA.out _ (ao (.cells #[.slice none 0 0,.slice none 0 0,.slice none 0 0,.slice none 0 0] 25) (.cells #[.slice none 0 0,.slice none 0 0,.slice none 0 0,.slice none 0 0] 28));have bi:=Aa (ao (.cells #[.slice none 0 0,.slice none 0 0,.slice none 0 0,.slice none 0 0] 25) (.cells #[.slice none 0 0,.slice none 0 0,.slice none 0 0,.slice none 0 0] 28));unfold Ge;clear ak ao HA HT
  go_wp2_with fail
  refine G.mono ?_;rintro e w2 ⟨rfl,av⟩;have HN:=Aa (bi.out.trans (av.mono bi.out.size));clear G av bi
  go_wp2_with fail
  go_ret
  exact⟨rfl,HN.out⟩
 ·have H:=Po (L:=L) he;have Q:=VJ he bH;obtain⟨nv,nf,nl,nt,va,fa,la,ta,vc,fc,lc,tc,x1,x2,x3,x4,z1,z2,z3,z4,rfl,rfl,rfl,rfl,rfl,rfl,rfl,rfl,bz⟩:=SM he ck bH hQ b9 cp b5 cn cr;clear he ck bH hQ b9 cp b5 cn cr;obtain⟨vs,ce⟩:∃x,s.nms 118=x:=⟨_,rfl⟩;obtain⟨fs,b8⟩:∃x,s.nms 102=x:=⟨_,rfl⟩;obtain⟨ls,cy⟩:∃x,s.nms 109=x:=⟨_,rfl⟩;rw[ce,b8,cy] at bz H Q;clear ce b8 cy s;obtain⟨U,aE⟩:∃U,(w1.alloc (.cells #[.slice va nv vc,.slice fa nf fc,.slice la nl lc,.slice ta nt tc] 25)).alloc (.cells #[.slice x1 nv z1,.slice x2 nf z2,.slice x3 nl z3,.slice x4 nt z4] 28)=U:=⟨_,rfl⟩;obtain⟨av,E,k2,ba⟩:=SN _ _ _ aE;obtain⟨D,I,W,B,M⟩:=HT.out;have ao:=ak.trans (av.mono ak.size);have g:=bz.below av;have R:∀m,Bt (Al vs fs ls L C) m->(Aj (Al vs fs ls L C) m).length<4294967000:=λm hm=>NX g.fit g.n8 hm;have S:∀u,Xn U.heap.size U u->Xn w.heap.size w u/\XW u Z er em/\Z<=u.heap.size:=λu hu=>by
   have q:=ao.trans (hu.mono ao.size)
   exact⟨q,D.same λk hk=>q.block k (by omega),by have:=q.size;omega⟩
  have hA:=RQ (w:=U) (most:=20000) (by decide) (S U (Below.refl _ _)).2.1 (S U (Below.refl _ _)).2.2 g.prog g.b g.fit g.n8 H R;have bh:Hid (∀u,Xn U.heap.size U u->Calls Tryz.prog 13 #[.agg #[.slice va nv vc,.slice fa nf fc,.slice la nl lc,.slice ta nt tc]] u λe w'=>∃b,e = .returned (Ab b)/\u.heap.size<=b/\AD w' b (Al vs fs ls L C) (CL (Al vs fs ls L C))/\Xn u.heap.size u w'):=λu hu=>by
   have q:=Pr (g.prog.below hu) g.b;rw[VL (p:=Al vs fs ls L C) (a:=vs.length) (b:=fs.length) (c:=ls.length) (d:=L.length) rfl rfl rfl (by show C.length=L.length;rw[g.cl,g.lt])] at q;exact q
  have K:BL (Al vs fs ls L C):=g.fit;have ac:DK (Al vs fs ls L C):=g.n8;have Y:(Al vs fs ls L C).vs.length=nv:=g.lv;have l2:(Al vs fs ls L C).fs.length=nf:=g.lf;have l3:(Al vs fs ls L C).ts.length=nt:=by show (L.map Prod.fst).length=nt;rw[List.length_map];exact g.lt
  obtain⟨p,hp⟩:∃p,Al vs fs ls L C=p:=⟨_,rfl⟩;rw[hp] at hA R H Q K ac Y l2 l3;simp only[hp] at bh;obtain⟨q0,q1,q2,q3⟩:=Iv E;have H2:=Aa (⟨S,R,H,Q,K,ac,Y,l2,l3,E,ba⟩:_/\_/\_/\_/\_/\_/\_/\_/\_/\_/\_);replace aE:=Aa aE;clear bz H Q ak av E k2 ba D I W B M ao g R S K ac Y l2 l3 hp
  go_upto_region 4 with fail
  rw[aE.out];clear aE
  go_wp2_with fail
  refine hA.mono ?_;clear hA q0 q1 q2 q3;rintro e w3 ⟨N,bk⟩;obtain⟨ns,oa,ra,oc,rc,os,st,fb,rs,cN,rfl,J,cF,bT⟩:=SP N;obtain⟨on,bJ⟩:∃x,os.length=x:=⟨_,rfl⟩;obtain⟨rn,aA⟩:∃x,rs.length=x:=⟨_,rfl⟩;obtain⟨j,az⟩:∃j,w3.alloc (.cells #[.int .i64 ns,.slice oa on oc,.bool st,.bool fb,.slice ra rn rc] 34)=j:=⟨_,rfl⟩;have bC:Xn w3.heap.size w3 j:=by rw[<-az];exact(Below.refl _ _).alloc (Nat.le_refl _) _
  have o:j.heap[w3.heap.size]?=some (.cells #[.int .i64 ns,.slice oa on oc,.bool st,.bool fb,.slice ra rn rc] 34):=by rw[<-az];exact World.alloc_heap_new w3 _
  obtain⟨S,R,H,Q,K,ac,Y,l2,l3,E,ba⟩:=H2.out;obtain⟨D,I,W,B,M⟩:=HT.out;have ay:=bk.trans (bC.mono bk.size);have co:p.vs.length<=4:=K.v;have bW:=(bT.len co).1;obtain⟨cC,dh,e1,cm⟩:=Nz J;have cB:oa=cC:=by injection e1
  clear e1;subst cB;have b0:=cm.below bC;have ci:=(Array.getElem?_eq_some_iff.1 o).1;have cg:w1.heap.size<j.heap.size:=by have:=ay.size;omega
  have bN:=(ay.block w1.heap.size (by omega)).trans E;have HU:Hid (∀u,Xn j.heap.size j u->Xn w.heap.size w u/\XW u Z er em/\Z<=u.heap.size/\u.heap[w1.heap.size]?=some (.cells #[.slice va nv vc,.slice fa nf fc,.slice la nl lc,.slice ta nt tc] 25)/\u.heap[w3.heap.size]?=some (.cells #[.int .i64 ns,.slice oa on oc,.bool st,.bool fb,.slice ra rn rc] 34)/\Ts u oa os/\Is u a sl):=λu hu=>by
   obtain⟨c1,c2,c3⟩:=S u (ay.trans (hu.mono ay.size))
   exact⟨c1,c2,c3,(hu.block _ cg).trans bN,(hu.block _ ci).trans o,b0.below hu,B.below c1⟩
  have b6:=bh.out j ay;rw[bJ,aA];obtain⟨q0,q1,q2,q3⟩:=Iv bN;have H4:=Aa (⟨bT,bJ,bW⟩:_/\_/\_);replace az:=Aa az;clear N bk J cF bT bJ aA bC o ay bW cm b0 ci cg bN co S R H Q K ac Y l2 l3 E ba D I W B M bh
  go_upto_region 5 with fail
  rw[az.out];clear az
  go_wp2_with fail
  refine b6.mono ?_;clear b6 q0 q1 q2 q3;rintro e w5 ⟨b,rfl,cb,cs,b2⟩;have H5:=Aa (⟨cb,cs,b2⟩:_/\_/\_);clear cb cs b2;unfold Ab
  go_wp2_with fail
  refine(JU cN _).mono ?_;rintro e w6 ⟨rfl,rfl⟩
  rcases H4.out.1 with⟨cR,-⟩|⟨-,-,-,-,-,-,-,rfl⟩|⟨-,l,V,rfl,J,-,-,-,rfl⟩
  ·exact absurd (show Ck 20000 from⟨by decide,by decide⟩) cR
  ·have r:=(HU.out w6 H5.out.2.2).1;have G:=HA.out w6 r;replace r:=Aa r;clear HA HT H2 HU H4 H5
   go_wp2_with fail
   refine(JU 4 _).mono ?_;rintro e w7 ⟨rfl,rfl⟩
   go_wp2_with fail
   refine G.mono ?_;rintro e wg ⟨rfl,X⟩;have HF:=Aa (r.out.trans (X.mono r.out.size));clear X G
   go_wp2_with fail
   go_ret
   exact⟨rfl,HF.out⟩
  ·obtain⟨ll,af⟩:∃x,l.length=x:=⟨_,rfl⟩;rw[af] at HU;have ax:ll<=20000:=by
    rw[<-af];exact Kp (key:=Aj p) (succ:=Dl false p.C) 20000 _ _ _ (by show 1<=20000;omega) V
   have HL:=Aa (⟨V,J,af,ax⟩:_/\_/\_/\_);have cf:Hid (∀m t,FO p l m->FO p l (DF p.C m t).1):=λm t h=>VD H2.out.2.2.2.2.1 H2.out.2.2.2.1 V h t;have bD:Hid (∀u m t,AD u b p m->FO p l m->Calls Tryz.prog 14 #[Ab b,.int .i64 t] u λe w'=>KG u w' b p m t e):=λu m t hm ho=>Ld hm H2.out.2.2.2.2.1 ho.1 t;have bR:Hid (∀u m,AD u b p m->FO p l m->_):=λu m hm ho=>OM hm H2.out.2.2.2.2.1 ho.1;unfold Ab at bD bR;clear V J af ax
   go_wp2_with fail
   go_loopw [11] (λiv wr=>∃(i:Nat) (m:MS),i<=n/\iv = .int .i64 i/\AD wr b p m/\FO p l m/\Xn j.heap.size j wr) (λiv _=>n - (intOf iv).toNat)
   case atStart=>exact⟨0,CL p,XD _,rfl,H5.out.2.1,⟨JV _ _ _ _,Ps _ _ _ _,aa7 HL.out.1⟩,H5.out.2.2⟩
   case round=>
    obtain⟨i,m,hi,rfl,F,f,A⟩:=hrel;obtain⟨D,I,W,B,M⟩:=HT.out;obtain⟨-,-,-,-,o,-,B⟩:=HU.out wr A
    by_cases h5:i<n
    ·obtain⟨lb,cM,ha,bF,c0⟩:=B i (by omega);subst ha;have c8:(i:Int)<(n:Int):=by omega
     obtain⟨x,a4⟩:∃t,sl.getD i 0=t:=⟨_,rfl⟩;rw[a4] at c0;have hS:=bD.out wr m x F f;have aZ:=cf.out m x f;have bX:Hid (Ya ((i:Int)+1)=(i:Int)+1):=Sw h5 M;have O:=Aa (⟨A,h5,aZ⟩:_/\_/\_);clear F f A hi B bF h5 aZ a4 o D I W M
     go_wp2_with fail
     refine hS.mono ?_;rintro e w7 ⟨rfl,cw,b3⟩;have z:=Aa (⟨O.out.2.1,cw,O.out.2.2,MP O.out.1 b3 H5.out.1⟩:_/\_/\_/\_);obtain⟨cz,aT⟩:∃er,AK p.C m x=er:=⟨_,rfl⟩;obtain⟨y,hy⟩:∃y,DF p.C m x=y:=⟨_,rfl⟩;rw[aT,hy];rw[hy] at z;obtain⟨s',et,ek,eo,ev⟩:=y;unfold CM;dsimp only at z |-;clear aT hy cw b3 hS O c0
     go_wp2_with fail
     go_roundw
     case rel=>
      (try rw[bX.out])
      exact⟨i+1,s',z.out.1,rfl,z.out.2.1,z.out.2.2.1,z.out.2.2.2⟩
     case measure=>
      (try rw[bX.out])
      exact Xs z.out.1 (Xt i)
    ·have cP:i=n:=by omega
     subst cP;have N:=bR.out wr m F f;have O:=Aa (⟨F,f,A⟩:_/\_/\_)
     rename World=>wo
     clear F f A hi B h5 o D I W M
     go_wp2_with fail
     refine N.mono ?_;rintro e w7 ⟨v,rfl,aR,bE⟩;obtain⟨ya,yc,rfl,a0⟩:=BG.of aR;have HP:Hid (AD w7 b p m/\FO p l m/\Xn j.heap.size j w7/\Is w7 ya (Bj p.C m)):=⟨O.out.1.below bE,O.out.2.1,O.out.2.2.trans (bE.mono O.out.2.2.size),a0.is⟩;clear N aR bE a0 O
     go_wp2_with fail
     go_loopw [12,13] (λrv kv wr=>∃(k:Nat) (m:MS) (ya:Option Addr) (yc:Nat),k<=ll+1/\kv = .int .i64 k/\rv = .slice ya (Bj p.C m).length yc/\AD wr b p m/\FO p l m/\Xn j.heap.size j wr/\Is wr ya (Bj p.C m)) (λ_ kv _=>ll+1 - (intOf kv).toNat)
     case atStart=>exact⟨0,m,ya,yc,XD _,rfl,rfl,HP.out⟩
     case round=>
      clear HP;obtain⟨k,T,c6,c9,hk,rfl,rfl,F,f,A,aP⟩:=hrel;obtain⟨V,J,af,ax⟩:=HL.out;obtain⟨hw,be,a8,E,o,au,-⟩:=HU.out wr A;obtain⟨p0,p1,p2,p3,p4⟩:=Mx o;obtain⟨rl,aQ⟩:∃x,Bj p.C T=x:=⟨_,rfl⟩;rw[aQ] at aP |-;obtain⟨ry,aF⟩:∃x,rl.length=x:=⟨_,rfl⟩;rw[aF]
      by_cases hz:ry=0
      ·subst hz;have aA:Bj p.C T=[]:=by rw[aQ];exact List.eq_nil_of_length_eq_zero aF
       obtain⟨S,R,H,Q,K,ac,Y,l2,l3,-,-⟩:=H2.out;have hC:=Vy (nl:=nl) (vc:=vc) (fc:=fc) (lc:=lc) (tc:=tc) (va:=va) (fa:=fa) (la:=la) (ta:=ta) F be.t a8 K f.1 ac H aA Y l2 l3 (R T f.1);have cj:BD p T∈os:=by rw[J];exact aa6 K Q V f.1 f.2.1 f.2.2 aA
       obtain⟨q0,q1,q2,q3⟩:=Iv E;have HM:=Aa (⟨A,cj⟩:_/\_);clear hk aQ aF F f A aP V J af ax hw be a8 E o au aA S R H Q K ac Y l2 l3 cj p1 p2 p3 p4;unfold Ab at hC
       rename World=>wb
       go_wp2_with fail
       refine hC.mono ?_;rintro e w8 ⟨rfl,aJ,aD⟩;have br:=MP HM.out.1 aD H5.out.1;obtain⟨hw,-,-,-,o,au,-⟩:=HU.out w8 br;obtain⟨p0,p1,p2,p3,p4⟩:=Mx o;have hH:=aaM (ca:=oc) (s:=BD p T) au H4.out.2.1 (by have:=H4.out.2.2;have:=H4.out.2.1;omega);rw[decide_eq_true HM.out.2] at hH;have bP:=Aa br;clear hC q0 q1 q2 q3 aJ aD br hw o au HM
       go_wp2_with fail
       refine hH.mono ?_;rintro e w9 ⟨rfl,aq⟩;have r:=(HU.out w9 (bP.out.trans (aq.mono bP.out.size))).1;have G:=HA.out w9 r;replace r:=Aa r;clear hH aq bP p0 p1 p2 p3 p4
       go_wp2_with fail
       refine G.mono ?_;rintro e wg ⟨rfl,X⟩;have HF:=Aa (r.out.trans (X.mono r.out.size));clear X G
       go_wp2_with fail
       go_ret
       exact⟨rfl,HF.out⟩
      ·have hg:decide (0<ry)=true:=decide_eq_true (by omega)
       by_cases bU:k<=ll
       ·have cL:(k:Int)<=(ll:Int):=by omega
        obtain⟨lb,cM,ha,bF,c0⟩:=aP 0 (by omega);subst ha;rw[Nat.add_zero] at c0;obtain⟨x,a4⟩:∃t,rl.getD 0 0=t:=⟨_,rfl⟩;rw[a4] at c0;have dg:(0:Int)<(ry:Int):=by omega
        have hS:=bD.out wr T x F f;have aZ:=cf.out T x f;have cv:Hid (Ya ((k:Int)+1)=(k:Int)+1):=Sy (by omega);have z:=Aa (⟨A,bU,aZ⟩:_/\_/\_);clear hk aQ aF F f A aP V J af ax hw be a8 E o au hz bU bF a4 aZ p1 p2 p3 p4
        rename World=>wb
        go_wp2_with fail
        refine hS.mono ?_;rintro e w8 ⟨rfl,aJ,aD⟩;have N:=bR.out w8 _ aJ z.out.2.2;have HY:=Aa (⟨z.out.2.1,aJ,z.out.2.2,MP z.out.1 aD H5.out.1⟩:_/\_/\_/\_);obtain⟨cz,aT⟩:∃er,AK p.C T x=er:=⟨_,rfl⟩;obtain⟨y,hy⟩:∃y,DF p.C T x=y:=⟨_,rfl⟩;rw[aT,hy];rw[hy] at HY N;obtain⟨s',et,ek,eo,ev⟩:=y;unfold CM;dsimp only at HY N |-;clear aT hy aJ aD hS z c0 p0
        go_wp2_with fail
        refine N.mono ?_;rintro e w9 ⟨v,rfl,aR,aq⟩;obtain⟨yb,yd,rfl,a0⟩:=BG.of aR;have HZ:Hid (k+1<=ll+1/\AD w9 b p s'/\FO p l s'/\Xn j.heap.size j w9/\Is w9 yb (Bj p.C s')):=⟨Nat.succ_le_succ HY.out.1,HY.out.2.1.below aq,HY.out.2.2.1,HY.out.2.2.2.trans (aq.mono HY.out.2.2.2.size),a0.is⟩;clear N aR aq a0 HY
        go_wp2_with fail
        go_roundw
        case rel=>
         (try rw[cv.out])
         exact⟨k+1,s',yb,yd,HZ.out.1,rfl,rfl,HZ.out.2⟩
        case measure=>
         (try rw[cv.out])
         exact Xs HZ.out.1 (Xt k)
       ·have cL:¬(k:Int)<=(ll:Int):=by omega
        have G:=HA.out wr hw;have r:=Aa hw;clear hk aQ aF F f A aP V J af ax hw be a8 E o au hz bU p1 p2 p3 p4
        rename World=>wb
        go_wp2_with fail
        refine G.mono ?_;rintro e wg ⟨rfl,X⟩;have HF:=Aa (r.out.trans (X.mono r.out.size));clear X G
        go_wp2_with fail
        go_ret
        exact⟨rfl,HF.out⟩
end Go.Proofs.YtdcacoifehkioaaGreatDoor
