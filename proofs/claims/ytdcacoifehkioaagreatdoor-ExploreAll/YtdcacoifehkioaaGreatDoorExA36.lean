import Derived.Test.YtdcacoifehkioaaGreatDoorExA32
import Derived.Test.YtdcacoifehkioaaGreatDoorExA34
import Derived.Test.YtdcacoifehkioaaGreatDoorExA35
import Derived.Test.YtdcacoifehkioaaGreatDoorExA19
open Nat renaming lt_of_lt_of_le->XF,le_refl->Xd,zero_le->Xx,sub_lt_sub_left->Xl,lt_succ_self->Xo
open Go.World renaming cell?_of_block->Xw,alloc_heap_new->Xi
open Go.RowKit renaming Below->Xm
open Array renaming getElem?_eq_some_iff->Xa
set_option maxRecDepth 100000
set_option maxHeartbeats 8000000
set_option linter.unusedVariables false
set_option linter.unusedSimpArgs false
namespace Go.Proofs.YtdcacoifehkioaaGreatDoor
open Go.RowKit Go.Shelf Go.Proofs.Cod
theorem Ts.NU {w w':World} {o c:Nat} {a:Option Addr} {l:List Tx} (h:Ts w a l) (j:CZ c a) (g:Ac (λk=>o<=k/\k<c) w w'):Ts w' a l:=λi n=>by
 obtain⟨b,f,e,d,m⟩:=h i n;have p:c<=b:=by
  rcases j with q|⟨t,s,q,r⟩
  ·rw[q] at e;cases e
  ·rw[e] at q;injection q with q
   injection q with q _ _
   omega
 exact⟨b,f,e,XF d g.size,(Xw (w:=w) (a:=⟨b,f+i,none⟩) (g.block b d (by omega))).trans m⟩
theorem Is.NU {w w':World} {o c:Nat} {a:Option Addr} {l:List Int} (h:Is w a l) (j:CZ c a) (g:Ac (λk=>o<=k/\k<c) w w'):Is w' a l:=λi n=>by
 obtain⟨b,f,e,d,m⟩:=h i n;have p:c<=b:=by
  rcases j with q|⟨t,s,q,r⟩
  ·rw[q] at e;cases e
  ·rw[e] at q;injection q with q
   injection q with q _ _
   omega
 exact⟨b,f,e,XF d g.size,(Xw (w:=w) (a:=⟨b,f+i,none⟩) (g.block b d (by omega))).trans m⟩
theorem adJ {w:World} {Z:Nat} {er em:Addr} (hx:XW w Z er em) (hZ:Z<=w.heap.size) (t:Tx) {most:Int} (aQ : -9223372036854775808<=most/\most<=9223372036854775807) :
 Calls Tryz.prog 3 #[.string (bs t),.int .i64 most] w λe w'=>e = .returned (.bool true)/\Xm w.heap.size w w':=by
 have hL:=abH t hx.t hZ;have HA:=Aa (fun(u:World) (hb:Xm w.heap.size w u)=>aeS (hx.same λk hk=>hb.block k (by omega)) (by have:=hb.size;omega));have HT:=Aa (⟨hx,hZ,aQ⟩:_/\_/\_);clear hx hZ aQ
 go_enter Tryz.func3,Tryz.ntmps3
 go_wp2_with fail
 refine hL.mono ?_;clear hL;rintro e w1 ⟨au,(rfl|⟨s,C,vV,fV,lV,dj,L,qv,qf,ql,qt,P,TV,he,rfl,ct,cw,hQ,cB,cE,hp3,cN,ch⟩)⟩
 ·have aC:∀o1 o2,Xm w.heap.size w ((w1.alloc o1).alloc o2):=λo1 o2=>(au.alloc au.size o1).alloc (by show w.heap.size<=(w1.heap.push o1).size;have:=au.size;simp;omega) o2;have a9:=HA.out _ (aC (.cells #[.slice none 0 0,.slice none 0 0,.slice none 0 0,.slice none 0 0] 25) (.cells #[.slice none 0 0,.slice none 0 0,.slice none 0 0,.slice none 0 0] 28));have bJ:=Aa (aC (.cells #[.slice none 0 0,.slice none 0 0,.slice none 0 0,.slice none 0 0] 25) (.cells #[.slice none 0 0,.slice none 0 0,.slice none 0 0,.slice none 0 0] 28));unfold Hh;clear au aC HA HT
  go_wp2_with fail
  refine a9.mono ?_;rintro e w2 ⟨rfl,aJ⟩;have HN:=Aa (bJ.out.trans (aJ.mono bJ.out.size));clear a9 aJ bJ
  go_wp2_with fail
  go_ret
  exact⟨rfl,HN.out⟩
 ·have bV:=Rn (L:=L) he;obtain⟨nv,nf,nl,nt,va,fa,la,ta,vc,fc,lc,tc,x1,x2,x3,x4,z1,z2,z3,z4,rfl,rfl,rfl,rfl,rfl,rfl,rfl,rfl,bU⟩:=UG he ct cw hQ cB cE hp3 cN ch;clear he ct cw hQ cB cE hp3 cN ch;obtain⟨vs,cp⟩:∃x,s.nms 118=x:=⟨_,rfl⟩;obtain⟨fs,cK⟩:∃x,s.nms 102=x:=⟨_,rfl⟩;obtain⟨ls,cO⟩:∃x,s.nms 109=x:=⟨_,rfl⟩;rw[cp,cK,cO] at bU bV;clear cp cK cO s;obtain⟨a,bg⟩:∃a,(w1.alloc (.cells #[.slice va nv vc,.slice fa nf fc,.slice la nl lc,.slice ta nt tc] 25)).alloc (.cells #[.slice x1 nv z1,.slice x2 nf z2,.slice x3 nl z3,.slice x4 nt z4] 28)=a:=⟨_,rfl⟩;obtain⟨aJ,k1,k2,cZ⟩:=FH _ _ _ bg;obtain⟨hx,hZ,aQ⟩:=HT.out;have aC:=au.trans (aJ.mono au.size);have c:=bU.below aJ;have bw:∀m,CY (Ap vs fs ls L C) m->(Aj (Ap vs fs ls L C) m).length<4294967000:=λm hm=>PM c.fit c.n8 hm;have aV:∀u,Xm a.heap.size a u->Xm w.heap.size w u/\XW u Z er em/\Z<=u.heap.size:=λu r=>by
   have q:=aC.trans (r.mono aC.size)
   exact⟨q,hx.same λk hk=>q.block k (by omega),by have:=q.size;omega⟩
  have bT:Hid (∀u,Xm a.heap.size a u->Calls Tryz.prog 8 #[.agg #[.slice va nv vc,.slice fa nf fc,.slice la nl lc,.slice ta nt tc],.int .i64 most] u λe w'=>KF u w' (Ap vs fs ls L C) most e/\Xm u.heap.size u w'):=λu r=>TM aQ (aV u r).2.1 (aV u r).2.2 (c.prog.below r) c.b c.fit c.n8 bV bw;have cz:Hid (∀u,Xm a.heap.size a u->Calls Tryz.prog 9 #[.agg #[.slice x1 nv z1,.slice x2 nf z2,.slice x3 nl z3,.slice x4 nt z4],.int .i64 most] u (IV u ⟨nv,nf,nl,nt,nt*4⟩ (Ap vs fs ls L C) most)):=λu r=>by
   have q:=WY (nr:=nt*4) (aV u r).2.1.t (aV u r).2.2 (c.doc.below r) c.pt c.pv c.pf c.pl rfl (by rw[c.pd];exact c.fit) (by rw[c.pd];exact c.n8) (by rw[c.pd];exact bw) aQ;rw[c.pd] at q;exact q
  have bL:Hid (∀u,Xm a.heap.size a u->(u.cell? ⟨w1.heap.size,0,none⟩=some (.slice va nv vc)/\u.cell? ⟨w1.heap.size,1,none⟩=some (.slice fa nf fc)/\u.cell? ⟨w1.heap.size,2,none⟩=some (.slice la nl lc)/\u.cell? ⟨w1.heap.size,3,none⟩=some (.slice ta nt tc))/\u.cell? ⟨w1.heap.size+1,0,none⟩=some (.slice x1 nv z1)/\u.cell? ⟨w1.heap.size+1,1,none⟩=some (.slice x2 nf z2)/\u.cell? ⟨w1.heap.size+1,2,none⟩=some (.slice x3 nl z3)/\u.cell? ⟨w1.heap.size+1,3,none⟩=some (.slice x4 nt z4)):=λu r=>⟨Cl ((r.block _ (by omega)).trans k1),Cl ((r.block _ (by omega)).trans k2)⟩
  have b8:Hid (∀u e w',IV u ⟨nv,nf,nl,nt,nt*4⟩ (Ap vs fs ls L C) most e w'->_):=λu e w' h=>UI (d:=⟨nv,nf,nl,nt,nt*4⟩) c.fit c.lv c.lf c.ll c.cl h;have bF:(Ap vs fs ls L C).vs.length<=4:=c.fit.v;obtain⟨p,hp⟩:∃p,Ap vs fs ls L C=p:=⟨_,rfl⟩;simp only[hp] at bT cz b8;rw[hp] at bF;obtain⟨⟨q0,q1,q2,q3⟩,-⟩:=bL.out a (Below.refl _ _);have hA:=bT.out a (Below.refl _ _);have H2:=Aa (⟨aV,bF⟩:_/\_);replace bg:=Aa bg;clear bU bV au aJ k1 k2 cZ hx hZ aQ aC c bw aV bF hp HT
  go_upto_region 4 with fail
  rw[bg.out];clear bg
  go_wp2_with fail
  refine hA.mono ?_;clear hA q0 q1 q2 q3;rintro e w3 ⟨hR,bm⟩;obtain⟨n,oa,ra,oc,rc,os,st,fb,rs,dt,rfl,aI,aL,G⟩:=OT hR;obtain⟨N,A⟩:∃x,os.length=x:=⟨_,rfl⟩;obtain⟨E,o⟩:∃x,rs.length=x:=⟨_,rfl⟩;obtain⟨W4,aP⟩:∃W4,w3.alloc (.cells #[.int .i64 n,.slice oa N oc,.bool st,.bool fb,.slice ra E rc] 34)=W4:=⟨_,rfl⟩;have aS:Xm w3.heap.size w3 W4:=by rw[<-aP];exact(Below.refl _ _).alloc (Xd _) _
  have O:W4.heap[w3.heap.size]?=some (.cells #[.int .i64 n,.slice oa N oc,.bool st,.bool fb,.slice ra E rc] 34):=by rw[<-aP];exact Xi w3 _
  have ap:=bm.trans (aS.mono bm.size);have B:=G.len H2.out.2;obtain⟨bA,c3,f,V⟩:=IX aI;have az:oa=bA:=by injection f
  clear f;subst az;obtain⟨bC,da,f,Q⟩:=AZ.of aL;have az:ra=bC:=by injection f
  clear f;subst az;have F:=(OC aI).below aS;have l:=(OC aL).below aS;rw[A] at F B |-;rw[o] at l B |-;have hD:=cz.out W4 ap;obtain⟨-,q0,q1,q2,q3⟩:=bL.out W4 ap;have H4:=Aa (⟨ap,O,B,V.below aS,Q.is.below aS,F,l,G,A,o,bm.size⟩:_/\_/\_/\_/\_/\_/\_/\_/\_/\_/\_);replace aP:=Aa aP;clear hR bm aI aL G A o aS O ap B V Q F l
  go_upto_region 5 with fail
  rw[aP.out];clear aP
  go_wp2_with fail
  refine hD.mono ?_;clear hD q0 q1 q2 q3;rintro e w5 hR;obtain⟨bi,n',bp,bo,bc,a6,c8,aT,aU,c7,bQ,rfl,D,y,ab,Y,cm⟩:=b8.out W4 e w5 hR;obtain⟨ap,O,B,V,Q,F,l,G,A,o,R⟩:=H4.out;obtain⟨f,e2,e3,e4,e5,e6⟩:=G.eq cm;subst f e2 e3 e4 e5 e6;rw[A,o];obtain⟨W6,aK⟩:∃W6,w5.alloc (.cells #[.int .i64 n',.slice bp N bc,.bool aT,.bool aU,.slice bo E a6] 38)=W6:=⟨_,rfl⟩;have bf:Xm w5.heap.size w5 W6:=by rw[<-aK];exact(Below.refl _ _).alloc (Xd _) _
  have z:W6.heap[w5.heap.size]?=some (.cells #[.int .i64 n',.slice bp N bc,.bool aT,.bool aU,.slice bo E a6] 38):=by rw[<-aK];exact Xi w5 _
  have af:=bi.trans (bf.mono bi.size);have aO:=ap.trans (af.mono ap.size);have aB:=(af.block _ (Xa.1 O).1).trans O;have U:=(Xa.1 O).1;obtain⟨zR,aM⟩:∃x,w5.heap.size=x:=⟨_,rfl⟩;rw[aM] at z;have T:W4.heap.size<=zR:=by rw[<-aM];exact bi.size
  have H6:=Aa (⟨aO,aB,z,V.below af,Q.below af,D.below bf,y.below bf,F.below af,l.below af,ab,Y,B,U,R,af.size,T,G,A,o⟩:_/\_/\_/\_/\_/\_/\_/\_/\_/\_/\_/\_/\_/\_/\_/\_/\_/\_/\_);obtain⟨M,K,H,I,J⟩:=BP aB;obtain⟨d0,d1,d2,d3,d4⟩:=BP z;have a4:=OY (ca:=oc) (cb:=bc) (V.below af) (D.below bf) A (by omega);replace aM:=Aa aM;replace aK:=Aa aK;clear hR bi cm D y ab Y ap O B V Q F l G A o R bf z af aO aB U H4 T
  go_upto_region 6 with fail
  rw[aK.out];rw[aM.out];clear aK aM
  go_wp2_with fail
  refine a4.mono ?_;clear a4;rintro e w7 ⟨rfl,S⟩;obtain⟨aO,aB,z,V,Q,D,y,F,l,ab,Y,B,U,R,c1,T,G,A,o⟩:=H6.out;have a1:=Sw (ca:=rc) (cb:=a6) (Q.below S) (y.below S) o (by omega);have aA:=(S.block _ (Xa.1 aB).1).trans aB;have ay:=(S.block _ (Xa.1 z).1).trans z;have H7:=Aa (⟨aO.trans (S.mono aO.size),aA,ay,D.below S,y.below S,F.below S,l.below S,ab,Y,B,U,R,(show W4.heap.size<=w7.heap.size by have:=S.size;omega),T,G,A,o⟩:_/\_/\_/\_/\_/\_/\_/\_/\_/\_/\_/\_/\_/\_/\_/\_/\_);clear M K H I J d0 d1 d2 d3 d4;obtain⟨M,K,H,I,J⟩:=BP aA;obtain⟨d0,d1,d2,d3,d4⟩:=BP ay;clear aO aB z V Q D y F l ab Y B U R c1 T G A o S aA ay H6
  go_wp2_with fail
  refine a1.mono ?_;clear a1;rintro e w8 ⟨rfl,am⟩;obtain⟨bx,aA,ay,D,y,F,l,ab,Y,B,U,R,cV,T,G,A,o⟩:=H7.out;have aD:=(am.block _ (Xa.1 aA).1).trans aA;have an:=(am.block _ (Xa.1 ay).1).trans ay;have H8:=Aa (⟨bx.trans (am.mono bx.size),aD,an,D.below am,y.below am,F.below am,l.below am,ab,Y,B,U,R,(show W4.heap.size<=w8.heap.size by have:=am.size;omega),T,G,A,o⟩:_/\_/\_/\_/\_/\_/\_/\_/\_/\_/\_/\_/\_/\_/\_/\_/\_);clear M K H I J d0 d1 d2 d3 d4;obtain⟨M,K,H,I,J⟩:=BP aD;obtain⟨d0,d1,d2,d3,d4⟩:=BP an;have b1:(aT != aT)=false:=by simp
  have b2:(aU != aU)=false:=by simp
  have b3:(n' != n')=false:=by simp
  have b4:(bQ != bQ)=false:=by simp
  clear bx aA ay D y F l ab Y B U R cV T G A o am aD an H7
  go_wp2_with fail
  refine(Rl bQ _).mono ?_;rintro e w9 ⟨rfl,rfl⟩;have HE:Hid (∀u,Ac (λk=>a.heap.size<=k/\k<w3.heap.size) w9 u->Xm a.heap.size a u/\u.heap[w3.heap.size]?=some (.cells #[.int .i64 n',.slice oa N oc,.bool aT,.bool aU,.slice ra E rc] 34)/\u.heap[zR]?=some (.cells #[.int .i64 n',.slice bp N bc,.bool aT,.bool aU,.slice bo E a6] 38)/\Ts u bp c8/\Is u bo c7):=λu r=>by
   obtain⟨aq,aD,an,D,y,F,l,ab,Y,B,U,R,cx,T,G,A,o⟩:=H8.out;have l6:=(Xa.1 an).1;refine⟨⟨r.os.trans aq.os,r.tape.trans aq.tape,r.output.trans aq.output,Nat.le_trans aq.size r.size,λk hk=>(r.block k (by have:=aq.size;omega) (by omega)).trans (aq.block k hk)⟩,(r.block _ (by omega) (by omega)).trans aD,(r.block _ l6 (by omega)).trans an,D.NU (ab.mono (by omega)) r,y.NU (Y.mono (by omega)) r⟩
  have ci:Hid (N<=20000/\E<=4):=H8.out.2.2.2.2.2.2.2.2.2.1
  go_wp2_with fail
  clear M K H I J d0 d1 d2 d3 d4 b1 b2 b3 b4
  go_loopw [14] (λiv wr=>∃i:Nat,i<=N/\iv = .int .i64 i/\EJ wr 9 a.heap.size w3.heap.size oa N/\EJ wr 3 a.heap.size w3.heap.size ra E/\Ac (λk=>a.heap.size<=k/\k<w3.heap.size) w9 wr) (λiv _=>N - (intOf iv).toNat)
  case atStart=>exact⟨0,Xx _,rfl,H8.out.2.2.2.2.2.1,H8.out.2.2.2.2.2.2.1,Ac.refl _⟩
  case round=>
   obtain⟨i,hi,rfl,F,l,X⟩:=hrel;obtain⟨-,O,z,-,-⟩:=HE.out wr X;obtain⟨M,K,H,I,J⟩:=BP O
   by_cases h5:i<N
   ·have cW:(i:Int)<(N:Int):=by omega
    have cI:Hid (wrap64 ((i:Int)+1)=(i:Int)+1):=by
     have:=Cv (n:=i+1) (by have:=ci.out;omega)
     push_cast at this
     exact this
    obtain⟨g,v,f,c0,f0,a2,a3,⟨cs,cD⟩,a7⟩:=F.put h5;have HX:Hid (i+1<=N/\EJ (wr.setCell ⟨g,i,none⟩ (.string ⟨#[63]⟩)) 9 a.heap.size w3.heap.size oa N/\EJ (wr.setCell ⟨g,i,none⟩ (.string ⟨#[63]⟩)) 3 a.heap.size w3.heap.size ra E/\Ac (λk=>a.heap.size<=k/\k<w3.heap.size) w9 (wr.setCell ⟨g,i,none⟩ (.string ⟨#[63]⟩))):=⟨h5,a7 _,l.keep λb dq e=>heap_setCell_other wr ⟨g,i,none⟩ b _ (Gw e cD (by decide)),X.set (.inl ⟨a2,a3⟩) _⟩;rw[f] at K;replace f:=Aa f;clear hi F l X O z h5 a2 a3 cD a7 M H I J
    go_wp2_with fail
    go_roundw
    case rel=>
     (try rw[cI.out])
     exact⟨i+1,HX.out.1,rfl,HX.out.2.1,HX.out.2.2.1,HX.out.2.2.2⟩
    case measure=>
     (try rw[cI.out])
     exact Xl HX.out.1 (Xo i)
   ·have c5:i=N:=by omega
    have HY:=Aa (⟨l,X⟩:_/\_);subst c5;clear hi F l X O z h5
    rename World=>wo
    go_wp2_with fail
    clear M K H I J
    go_loopw [15] (λiv wr=>∃j:Nat,j<=E/\iv = .int .i64 j/\EJ wr 3 a.heap.size w3.heap.size ra E/\Ac (λk=>a.heap.size<=k/\k<w3.heap.size) w9 wr) (λiv _=>E - (intOf iv).toNat)
    case atStart=>exact⟨0,Xx _,rfl,HY.out.1,HY.out.2⟩
    case round=>
     clear HY;obtain⟨j,hj,rfl,l,X⟩:=hrel;obtain⟨hB,O,z,D,y⟩:=HE.out wr X;obtain⟨M,K,H,I,J⟩:=BP O
     by_cases h6:j<E
     ·have cW:(j:Int)<(E:Int):=by omega
      have cc:Hid (wrap64 ((j:Int)+1)=(j:Int)+1):=by
       have:=Cv (n:=j+1) (by have:=ci.out;omega)
       push_cast at this
       exact this
      obtain⟨g,v,f,c0,f0,a2,a3,-,a7⟩:=l.put h6;have HX:Hid (j+1<=E/\EJ (wr.setCell ⟨g,j,none⟩ (.int .i64 (-7))) 3 a.heap.size w3.heap.size ra E/\Ac (λk=>a.heap.size<=k/\k<w3.heap.size) w9 (wr.setCell ⟨g,j,none⟩ (.int .i64 (-7)))):=⟨h6,a7 _,X.set (.inl ⟨a2,a3⟩) _⟩;rw[f] at J;replace f:=Aa f;clear hj l X O z h6 a2 a3 a7 M K H I hB D y
      go_wp2_with fail
      go_roundw
      case rel=>
       (try rw[cc.out])
       exact⟨j+1,HX.out.1,rfl,HX.out.2.1,HX.out.2.2⟩
      case measure=>
       (try rw[cc.out])
       exact Xl HX.out.1 (Xo j)
     ·have cP:j=E:=by omega
      obtain⟨⟨q0,q1,q2,q3⟩,-⟩:=bL.out wr hB;have hA:=bT.out wr hB;have HZ:=Aa (⟨hB,z,D,y⟩:_/\_/\_/\_);subst cP;clear hj l X O z h6 hB D y
      rename World=>wb
      go_wp2_with fail
      refine hA.mono ?_;clear hA q0 q1 q2 q3 M K H I J;rintro e wc ⟨hR,bB⟩;obtain⟨n2,bE,bR,bW,bv,de,cM,cr,dd,di,rfl,aI,aL,cC⟩:=OT hR;obtain⟨aq,aD,an,-,-,-,-,-,-,B,U,R,cx,T,G,A,o⟩:=H8.out;obtain⟨f,e2,e3,e4,e5,e6⟩:=G.eq cC;subst f e2 e3 e4 e5 e6;obtain⟨hB,z,D,y⟩:=HZ.out;obtain⟨bA,c3,f,V⟩:=IX aI;have az:bE=bA:=by injection f
      clear f;subst az;obtain⟨bC,da,f,Q⟩:=AZ.of aL;have az:bR=bC:=by injection f
      clear f;subst az;rw[A,o];obtain⟨Wd,aN⟩:∃W,wc.alloc (.cells #[.int .i64 n2,.slice bE i bW,.bool cM,.bool cr,.slice bR j bv] 34)=W:=⟨_,rfl⟩;have bn:Xm wc.heap.size wc Wd:=by rw[<-aN];exact(Below.refl _ _).alloc (Xd _) _
      have kd:Wd.heap[wc.heap.size]?=some (.cells #[.int .i64 n2,.slice bE i bW,.bool cM,.bool cr,.slice bR j bv] 34):=by rw[<-aN];exact Xi wc _
      have a5:=bB.trans (bn.mono bB.size);have ax:=(a5.block _ (Xa.1 z).1).trans z;have aG:=hB.trans (a5.mono hB.size);have a4:=OY (ca:=bW) (cb:=bc) (V.below bn) (D.below a5) A (by omega);obtain⟨M,K,H,I,J⟩:=BP kd;obtain⟨d0,d1,d2,d3,d4⟩:=BP ax;obtain⟨zS,a8⟩:∃x,wc.heap.size=x:=⟨_,rfl⟩;rw[a8] at M K H I J kd;have HV:=Aa (⟨aG,kd,ax,Q.is.below bn,y.below a5,B,o⟩:_/\_/\_/\_/\_/\_/\_);replace aN:=Aa aN;replace a8:=Aa a8;clear hR bB aI aL cC aq aD an B U R cx T G A o hB z D y V Q bn kd a5 ax aG
      go_upto_region 19 with fail
      rw[aN.out];rw[a8.out];clear aN a8
      go_wp2_with fail
      refine a4.mono ?_;clear a4 M K H I J d0 d1 d2 d3 d4;rintro e we ⟨rfl,aH⟩;obtain⟨aG,kd,ax,Q,y,B,o⟩:=HV.out;have a1:=Sw (ca:=bv) (cb:=a6) (Q.below aH) (y.below aH) o (by omega);obtain⟨M,K,H,I,J⟩:=BP ((aH.block _ (Xa.1 kd).1).trans kd);obtain⟨d0,d1,d2,d3,d4⟩:=BP ((aH.block _ (Xa.1 ax).1).trans ax);have HBe:=Aa (aG.trans (aH.mono aG.size));clear aG kd ax Q y B o aH HV
      go_wp2_with fail
      refine a1.mono ?_;clear a1 M K H I J d0 d1 d2 d3 d4;rintro e wf ⟨rfl,hbf⟩;have ck:=HBe.out.trans (hbf.mono HBe.out.size);have bd:=(H2.out.1 wf ck).1;have a9:=HA.out wf bd;replace bd:=Aa bd;clear hbf ck HBe
      go_wp2_with fail
      refine a9.mono ?_;rintro e wg ⟨rfl,cj⟩;have HF:=Aa (bd.out.trans (cj.mono bd.out.size));clear cj a9
      go_wp2_with fail
      go_ret
      exact⟨rfl,HF.out⟩
end Go.Proofs.YtdcacoifehkioaaGreatDoor
