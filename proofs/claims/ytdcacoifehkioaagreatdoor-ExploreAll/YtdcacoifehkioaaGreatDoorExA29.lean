import Derived.Test.YtdcacoifehkioaaGreatDoorExA3
import Derived.Test.YtdcacoifehkioaaGreatDoorExA28
import Derived.Test.YtdcacoifehkioaaGreatDoorExA25
import Derived.BigQuiet
import Derived.Test.YtdcacoifehkioaaGreatDoorExA24
import Derived.Test.YtdcacoifehkioaaGreatDoorExA26
import Derived.Test.YtdcacoifehkioaaGreatDoorExA27
open Go.Lib renaming itoa->Yh
open Go renaming World->Xh,Value->Xk
open List renaming getD_eq_getElem?_getD->Xc,length_map->Xp,getElem?_eq_none->XU,length_append->Xb,append_nil->Yf,append_assoc->X3,getElem?_eq_getElem->Xe,map_append->XH,foldl_append->Y0
open Go.RowKit renaming Below->Xm,wrap64->XN
open Nat renaming le_refl->Xd,zero_le->Xx,le_trans->Xu,sub_lt_sub_left->Xl,lt_succ_self->Xo
set_option maxRecDepth 100000
set_option maxHeartbeats 8000000
set_option linter.unusedVariables false
set_option linter.unusedSimpArgs false
namespace Go.Proofs.YtdcacoifehkioaaGreatDoor
open Go.RowKit Go.Shelf Go.Proofs.Cod
def AD (P:RP):PD:=⟨P.vs,P.fs,P.ls,P.names,Ai P⟩
theorem UP {nm:Tx} {th:TS} (h:th.ph=0):CQ nm th=nm++[32,110,101,119,10]:=by
 unfold CQ Gb;rw[if_pos h,if_neg (by omega),if_neg (by omega),if_neg (by omega)];simp
theorem US {nm:Tx} {th:TS} (h:th.ph=1):CQ nm th=nm++[32,97,116,32]++Yh th.pc++BT th.regs 4++[10]:=by
 unfold CQ Gb;simp[h]
theorem UR {nm:Tx} {th:TS} (h:th.ph=2):CQ nm th=nm++[32,101,110,100,101,100]++BT th.regs 4++[10]:=by
 unfold CQ Gb;simp[h]
theorem UQ {nm:Tx} {th:TS} (h:th.ph=3):CQ nm th=nm++[32,102,97,105,108,101,100]++BT th.regs 4++[10]:=by
 unfold CQ Gb;simp[h]
section
variable {w w':Xh} {a0 a1 a2 a3 a4 a5:Option Addr} {nv nf nl nt nr:Nat} {m:MS} {P:RP} {TV:List (Xk×Xk)} {x1 x2 x3 x4:Option Addr} {z1 z2 z3 z4:Nat}
theorem Ln {P:RP} {t:Nat} {th:AE} (h:P.thr[t]?=some th):P.names.getD t []=th.name:=by
 unfold RP.names;rw[Xc,List.getElem?_map,h];rfl
theorem Wk {B:Nat} (ht:Cn w B) (hB:B<=w.heap.size) {c0 c1 c2 c3 c4 c5:Nat} (Z:DI w (.slice x1 nv z1) (.slice x2 nf z2) (.slice x3 nl z3) (.slice x4 nt z4) P TV) (ay:P.thr.length=nt) (h1:P.vs.length=nv) (h2:P.fs.length=nf) (h3:P.ls.length=nl) (h:Ci w a0 a1 a2 a3 a4 a5 nv nf nl nt nr m) (o:AW nv nf nl (Ai P) m) (hf:CK (AD P)) (E:Eg (AD P)) :
 Calls Tryz.prog 68 #[.agg #[.slice x1 nv z1,.slice x2 nf z2,.slice x3 nl z3,.slice x4 nt z4],.agg #[.slice a0 nv c0,.slice a1 nf c1,.slice a2 nl c2,.slice a3 nt c3,.slice a4 nt c4,.slice a5 nr c5]] w λe w'=>e = .returned (.string (bs (Aj (AD P) m)))/\Xm w.heap.size w w':=by
 obtain⟨W,hW⟩:∃W,(w.alloc (.cells #[.slice x1 nv z1,.slice x2 nf z2,.slice x3 nl z3,.slice x4 nt z4] 28)).alloc (.cells #[.slice a0 nv c0,.slice a1 nf c1,.slice a2 nl c2,.slice a3 nt c3,.slice a4 nt c4,.slice a5 nr c5] 92)=W:=⟨_,rfl⟩;obtain⟨bm,k1,k2,hz⟩:=FH _ _ _ hW;have M:(Ai P).length=nt:=by unfold Ai;rw[Xp];exact ay
 have R:nt<=4:=by have:=hf.fit.four;have e:(AD P).C.length=nt:=M;omega
 have b6:nv<=4:=by rw[<-h1];exact hf.v
 have b5:nf<=4:=by rw[<-h2];exact hf.f
 have aK:nl<=4:=by rw[<-h3];exact hf.l
 have aa:=Z.below bm;have y:=h.below bm;have bK:=ht.keep (bm.mono hB);have bE:B<=W.heap.size:=by have:=bm.size;omega
 have aJ:Hid (∀u,Xm W.heap.size W u->(u.cell? ⟨w.heap.size,0,none⟩=some (.slice x1 nv z1)/\u.cell? ⟨w.heap.size,1,none⟩=some (.slice x2 nf z2)/\u.cell? ⟨w.heap.size,2,none⟩=some (.slice x3 nl z3)/\u.cell? ⟨w.heap.size,3,none⟩=some (.slice x4 nt z4))/\u.cell? ⟨w.heap.size+1,0,none⟩=some (.slice a0 nv c0)/\u.cell? ⟨w.heap.size+1,1,none⟩=some (.slice a1 nf c1)/\u.cell? ⟨w.heap.size+1,2,none⟩=some (.slice a2 nl c2)/\u.cell? ⟨w.heap.size+1,3,none⟩=some (.slice a3 nt c3)/\u.cell? ⟨w.heap.size+1,4,none⟩=some (.slice a4 nt c4)/\u.cell? ⟨w.heap.size+1,5,none⟩=some (.slice a5 nr c5)):=λu hu=>⟨Cl ((hu.block _ (by omega)).trans k1),Bk ((hu.block _ (by omega)).trans k2)⟩
 have HI:=Aa (λu (hu:Xm W.heap.size W u) (x:Int) (h : -9223372036854775808<=x) (h':x<=9223372036854775807)=>IM x h h' u (bK.keep (hu.mono bE)));have V1:=Aa (λu (hu:Xm W.heap.size W u)=>OL (cap:=c0) (bK.keep (hu.mono bE)) (by have:=hu.size;omega) (EH aa.v hu) h1 E.v (y.v.below hu) y.lv b6 o.vv);have V:=Aa (λu (hu:Xm W.heap.size W u)=>OL (cap:=c1) (bK.keep (hu.mono bE)) (by have:=hu.size;omega) (EH aa.f hu) h2 E.f (y.f.below hu) y.lf b5 o.fv);have bp:∀(l:List Int),(∀v,v∈l->CD v)->∀k,CD (l.getD k 0):=λl hv k=>by
  by_cases e:k<l.length
  ·exact hv _ (CN e)
  ·rw[Xc,XU (by omega)];exact⟨by decide,by decide⟩
 have L1:=FA Yh P.vs m.vars nv E.v (λk=>Dw (bp _ o.vv k).1 (bp _ o.vv k).2);have L2:=FA Yh P.fs m.flags nf E.f (λk=>Dw (bp _ o.fv k).1 (bp _ o.fv k).2);have b0:Aj (AD P) m=Bf Yh P.vs m.vars nv++Bf Yh P.fs m.flags nf++Bf (Ce P.names) P.ls m.locks nl++Cr (AD P) m nt:=by
  have e:(AD P).ts.length=nt:=by show P.names.length=nt;unfold RP.names;rw[Xp];exact ay
  unfold Aj;rw[e];show Bf Yh P.vs m.vars P.vs.length++Bf Yh P.fs m.flags P.fs.length++Bf (Ce P.names) P.ls m.locks P.ls.length++_=_;rw[h1,h2,h3]
 rw[b0];obtain⟨T1,bS⟩:∃T,Bf Yh P.vs m.vars nv=T:=⟨_,rfl⟩;obtain⟨T2,bP⟩:∃T,Bf Yh P.fs m.flags nf=T:=⟨_,rfl⟩;rw[bS] at L1;rw[bP] at L2;simp only[bS] at V1 |-;simp only[bP] at V |-;have zA:¬9223372036854775807<(bs T1).size+(bs T2).size:=EY (by omega);have aA:bs T1++bs T2=bs (T1++T2):=BE _ _;have LA:(T1++T2).length<=248:=by have e:(T1++T2).length=T1.length+T2.length:=Xb;omega
 generalize cw:T1++T2=TA at *;have hThl:∀i,i<=nt->(Cr (AD P) m i).length<=i*200:=by
  intro i
  induction i with
  |zero=>intro _;exact Xd _
  |succ i ih=>
   intro hi;rw[KI];exact Nr (ih (by omega)) (Mp (p:=AD P) E.t (o.th i (by omega)) (hf.fit.code _ (CN (d:=[]) (by show i<(Ai P).length;omega))).1)
 have cD:Hid (∀i,i<=nt->(Cr (AD P) m i).length<=800):=λi hi=>by
  have:=hThl i hi;have e:i*200<=4*200:=Nat.mul_le_mul_right 200 (by omega)
  omega
 have cy:Hid (∀i,i<nt->(m.th i).pc<=25):=λi hi=>by
  have q:=(o.th i (by omega)).pc2;have q2:((Ai P).getD i []).length<=24:=(hf.fit.code _ (CN (d:=[]) (by show i<(Ai P).length;omega))).1
  omega
 clear hThl;have HB:=Aa bm;have HM:=Aa (⟨o,y,aa,E,ay,h3,M,⟨R,aK,LA⟩⟩:_/\_/\_/\_/\_/\_/\_/\_/\_/\_);have hd:Xm W.heap.size W W.drew:=⟨rfl,rfl,rfl,Xd _,λ_ _=>rfl⟩;clear ht hB Z ay h1 h2 h3 h o hf E bm k1 k2 hz M R b6 b5 aK aa y bK bE bp L1 L2 b0 bS bP LA cw
 go_enter Tryz.func68,Tryz.ntmps68
 go_upto_region 1 with fail
 try rw[hW]
 clear hW;refine wp_region_held_drew (S:=(λu=>(u.cell? ⟨w.heap.size,0,none⟩=some (.slice x1 nv z1)/\u.cell? ⟨w.heap.size,1,none⟩=some (.slice x2 nf z2)/\u.cell? ⟨w.heap.size,2,none⟩=some (.slice x3 nl z3)/\u.cell? ⟨w.heap.size,3,none⟩=some (.slice x4 nt z4))/\u.cell? ⟨w.heap.size+1,0,none⟩=some (.slice a0 nv c0)/\u.cell? ⟨w.heap.size+1,1,none⟩=some (.slice a1 nf c1)/\u.cell? ⟨w.heap.size+1,2,none⟩=some (.slice a2 nl c2)/\u.cell? ⟨w.heap.size+1,3,none⟩=some (.slice a3 nt c3)/\u.cell? ⟨w.heap.size+1,4,none⟩=some (.slice a4 nt c4)/\u.cell? ⟨w.heap.size+1,5,none⟩=some (.slice a5 nr c5))) (by kernel_rfl) (aJ.out _ hd) (λhHeld=>?_);refine tk 0 hHeld ?_;refine tk 1 hHeld ?_;refine tk 2 hHeld ?_;refine tk 3 hHeld ?_;refine tk 5 hHeld ?_;refine tk 6 hHeld ?_;refine tk 7 hHeld ?_;refine tk 8 hHeld ?_;refine rd 4 (λK hK=>?_)
 go_simp
 go_at_call 129
 refine(V1.out _ hd).mono ?_;rintro e u1 ⟨rfl,aP⟩;replace aP:Xm W.heap.size W u1:=hd.trans aP;have hq:=Aa (aJ.out u1 aP);replace aP:=Aa aP
 go_wp2_with fail
 refine hK.out _ _ hq.out (λhHeld=>?_);clear hK K hq
 try simp only[Act.put,sq]
 refine rd 9 (λK hK=>?_)
 go_simp
 go_at_call 129
 refine(V.out _ aP.out).mono ?_;rintro e u2 ⟨rfl,bi⟩;replace bi:Xm W.heap.size W u2:=aP.out.trans (bi.mono aP.out.size);have hq:=Aa (aJ.out u2 bi);replace bi:=Aa bi
 go_wp2_with fail
 refine hK.out _ _ hq.out (λhHeld=>?_);clear hK K hq
 try simp only[Act.put,sq]
 refine tk 10 hHeld ?_;refine tk 11 hHeld ?_;refine wpAnyH_done (by kernel_rfl) ?_ _;clear hHeld V1 V zA aA aP hd
 go_wp2_with fail
 go_loopw [5,6] (λtv iv wr=>∃i:Nat,i<=nl/\iv = .int .i64 i/\tv = .string (bs (TA++Bf (Ce P.names) P.ls m.locks i))/\Xm W.heap.size W wr) (λ_ iv _=>nl - (intOf iv).toNat)
 case atStart=>exact⟨0,Xx _,rfl,by rw[show Bf (Ce P.names) P.ls m.locks 0=[] from rfl,Yf],bi.out⟩
 case round=>
  obtain⟨i,hi,rfl,rfl,A⟩:=hrel;clear bi;obtain⟨⟨q0,q1,q2,q3⟩,s0,s1,s2,s3,s4,s5⟩:=aJ.out wr A
  by_cases D:i<nl
  ·obtain⟨o,y,aa,E,ay,h3,M,R,aK,LA⟩:=HM.out;have cA:(i:Int)<(nl:Int):=by omega
   have G:=y.below A;have Z:=aa.below A;obtain⟨lb,lo,e1,-,c1⟩:=Ki G.l (i:=i) (by rw[G.ll];exact D);subst e1;have bL:=Z.l;rw[h3] at bL;obtain⟨na,nc,e2,bW⟩:=IF bL h3;injection e2 with e2 _ e2c
   subst e2;clear e2c;obtain⟨nb,no,e3,-,c2⟩:=bW i (by omega);subst e3;have bV:=o.lv _ (CN (d:=0) (by rw[o.ll];exact D:i<m.locks.length));have bR:=FA (Ce P.names) P.ls m.locks i E.l (λk=>by unfold Ce;split;(show (1:Nat)<=21;omega);exact Xu (E.t _) (by omega));have b:=Ke (Ce P.names) P.ls m.locks i;have aN:=E.l i;have aN:(P.ls.getD i []).length<=8:=aN;obtain⟨T,hT⟩:∃T,TA++Bf (Ce P.names) P.ls m.locks i=T:=⟨_,rfl⟩;have bg:T.length<=248+4*31:=by rw[<-hT,Xb];omega
   obtain⟨nm,bM⟩:∃x,P.ls.getD i []=x:=⟨_,rfl⟩;obtain⟨v,bO⟩:∃v,m.locks.getD i 0=v:=⟨_,rfl⟩;rw[bM] at aN b c2;rw[bO] at bV b c1;have H:TA++Bf (Ce P.names) P.ls m.locks (i+1)=T++GD nm (Ce P.names v):=by rw[b,<-X3,hT]
   have z1:¬9223372036854775807<(bs T).size+(bs nm).size:=EY (by omega);have b1:bs T++bs nm=bs (T++nm):=BE _ _;have N:(T++nm).length=T.length+nm.length:=Xb;have z2:¬9223372036854775807<(bs (T++nm)).size+1:=Dz (by omega);have b2:bs (T++nm)++⟨#[61]⟩=bs (T++nm++[61]):=BE _ [61];have e5:(T++nm++[61]).length=T.length+nm.length+1:=by rw[Xb,N];rfl
   have X:XN ((i:Int)+1)=(i:Int)+1:=Hz (by omega);rw[hT]
   by_cases hv:v = -1
   ·subst hv;have bC:Ce P.names (-1)=[45]:=by unfold Ce;rw[if_pos rfl]
    rw[bC] at H;have z3:¬9223372036854775807<(bs (T++nm++[61])).size+1:=Dz (by omega);have b3:bs (T++nm++[61])++⟨#[45]⟩=bs (T++nm++[61]++[45]):=BE _ [45];have e6:(T++nm++[61]++[45]).length=T.length+nm.length+2:=by rw[Xb,e5];rfl
    have z4:¬9223372036854775807<(bs (T++nm++[61]++[45])).size+1:=Dz (by omega);have b4:bs (T++nm++[61]++[45])++⟨#[10]⟩=bs (T++nm++[61]++[45]++[10]):=BE _ [10];have I:T++nm++[61]++[45]++[10]=TA++Bf (Ce P.names) P.ls m.locks (i+1):=by rw[H];unfold GD;simp
    generalize T++nm++[61]++[45]++[10]=V4 at *;generalize T++nm++[61]++[45]=V3 at *;generalize T++nm++[61]=V at *;generalize T++nm=V1 at *;have c:=Aa (⟨I,D,A⟩:_/\_/\_);clear hi D o y aa E ay h3 M R aK LA G Z bL bW bV bR b aN hT bg bM bO H N e5 e6 I A bC HI aJ
    go_wp2_with fail
    go_roundw
    case rel=>
     (try rw[X])
     exact⟨i+1,c.out.2.1,rfl,by rw[c.out.1],c.out.2.2⟩
    case measure=>
     (try rw[X])
     exact Xl c.out.2.1 (Xo i)
   ·obtain⟨tn,rfl⟩:∃tn:Nat,v=tn:=⟨v.toNat,by omega⟩;have aO:tn<P.thr.length:=by omega
    obtain⟨th,aC⟩:∃th,P.thr[tn]?=some th:=⟨_,Xe aO⟩;obtain⟨p,hp⟩:∃p,TV[tn]?=some p:=⟨_,Xe (by rw[Z.len];exact aO)⟩;obtain⟨g,cap,bN,-,ct,-⟩:=Z.JH aC hp;injection bN with hga hgn hgc
    subst hga;clear hgn hgc;have bC:Ce P.names (tn:Int)=th.name:=by unfold Ce;rw[if_neg hv,Int.toNat_natCast];exact Ln aC
    rw[bC] at H;have ax:=E.t tn;have ax:(P.names.getD tn []).length<=8:=ax;rw[Ln aC] at ax;obtain⟨wt,ck⟩:∃x,th.name=x:=⟨_,rfl⟩;rw[ck] at H ax ct;have cU:(tn:Int)<(nt:Int):=by omega
    have z3:¬9223372036854775807<(bs (T++nm++[61])).size+(bs wt).size:=EY (by omega);have b3:bs (T++nm++[61])++bs wt=bs (T++nm++[61]++wt):=BE _ _;have e6:(T++nm++[61]++wt).length=T.length+nm.length+1+wt.length:=by rw[Xb,e5]
    have z4:¬9223372036854775807<(bs (T++nm++[61]++wt)).size+1:=Dz (by omega);have b4:bs (T++nm++[61]++wt)++⟨#[10]⟩=bs (T++nm++[61]++wt++[10]):=BE _ [10];have I:T++nm++[61]++wt++[10]=TA++Bf (Ce P.names) P.ls m.locks (i+1):=by rw[H];unfold GD;simp
    generalize T++nm++[61]++wt++[10]=V4 at *;generalize T++nm++[61]++wt=V3 at *;generalize T++nm++[61]=V at *;generalize T++nm=V1 at *;have c:=Aa (⟨I,D,A⟩:_/\_/\_);clear hi D o y aa E ay h3 M R aK LA G Z bL bW bV bR b aN hT bg bM bO H N e5 e6 I A bC HI aJ hv aO aC hp ax ck
    go_wp2_with fail
    go_quiet (fail)
    go_wp2_with fail
    go_roundw
    case rel=>
     (try rw[X])
     exact⟨i+1,c.out.2.1,rfl,by rw[c.out.1],c.out.2.2.trans ⟨rfl,rfl,rfl,Xd _,λ_ _=>rfl⟩⟩
    case measure=>
     (try rw[X])
     exact Xl c.out.2.1 (Xo i)
  ·have aS:i=nl:=by omega
   subst aS;obtain⟨TB,bF⟩:∃T,TA++Bf (Ce P.names) P.ls m.locks i=T:=⟨_,rfl⟩;rw[bF];have ci:TB.length<=248+4*31:=by
    obtain⟨o,y,aa,E,ay,h3,M,R,aK,LA⟩:=HM.out;have bR:=FA (Ce P.names) P.ls m.locks i E.l (λk=>by unfold Ce;split;(show (1:Nat)<=21;omega);exact Xu (E.t _) (by omega));rw[<-bF,Xb];omega
   have cI:=Aa ci;have cu:=Aa bF;have bn:=Aa A;clear hi D A bF ci
   go_wp2_with fail
   clear q0 q1 q2 q3 s0 s1 s2 s3 s4 s5
   go_loopw [5,8] (λtv iv wr=>∃i:Nat,i<=nt/\iv = .int .i64 i/\tv = .string (bs (TB++Cr (AD P) m i))/\Xm W.heap.size W wr) (λ_ iv _=>nt - (intOf iv).toNat)
   case atStart=>exact⟨0,Xx _,rfl,by rw[KH,Yf],bn.out⟩
   case round=>
    obtain⟨i,hi,rfl,rfl,A⟩:=hrel;clear bn;obtain⟨⟨q0,q1,q2,q3⟩,s0,s1,s2,s3,s4,s5⟩:=aJ.out wr A
    by_cases D:i<nt
    ·obtain⟨o,y,aa,E,ay,h3,M,R,aK,LA⟩:=HM.out;have cA:(i:Int)<(nt:Int):=by omega
     have G:=y.below A;have Z:=aa.below A;have aO:i<P.thr.length:=by omega
     obtain⟨th,aC⟩:∃th,P.thr[i]?=some th:=⟨_,Xe aO⟩;obtain⟨p,hp⟩:∃p,TV[i]?=some p:=⟨_,Xe (by rw[Z.len];exact aO)⟩;obtain⟨g,cap,bN,-,ct,-⟩:=Z.JH aC hp;injection bN with hga hgn hgc
     subst hga;clear hgn hgc;obtain⟨sb,so,es,-,cs⟩:=G.MW D;subst es;obtain⟨ab,ao,ea,-,cp⟩:=G.QV D;subst ea;have aV:=o.th i (by rw[M];exact D);have cJ:=aV.ph;have ax:=E.t i;have ax:(P.names.getD i []).length<=8:=ax;rw[Ln aC] at ax;have b:=KI (AD P) m i;have b:Cr (AD P) m (i+1)=Cr (AD P) m i++CQ (P.names.getD i []) (m.th i):=b;rw[Ln aC] at b;have cv:=cD.out i hi;obtain⟨T,hT⟩:∃T,TB++Cr (AD P) m i=T:=⟨_,rfl⟩;have bg:T.length<=248+4*31+800:=by rw[<-hT,Xb];have:=cI.out;omega
     obtain⟨nm,aN⟩:∃x,th.name=x:=⟨_,rfl⟩;rw[aN] at ax b ct;have H:TB++Cr (AD P) m (i+1)=T++CQ nm (m.th i):=by rw[b,<-X3,hT]
     have z1:¬9223372036854775807<(bs T).size+(bs nm).size:=EY (by omega);have b1:bs T++bs nm=bs (T++nm):=BE _ _;have N:(T++nm).length=T.length+nm.length:=Xb;have bH:Hid (XN ((i:Int)+1)=(i:Int)+1):=Hz (by omega);rw[hT];clear cv;have cF:(m.th i).ph=0\/(m.th i).ph=1\/(m.th i).ph=2\/(m.th i).ph=3:=by omega
     clear cJ
     rcases cF with ac|ac|ac|ac
     ·rw[UP ac] at H;have z2:¬9223372036854775807<(bs (T++nm)).size+5:=Dz (by omega);have b2:bs (T++nm)++⟨#[32,110,101,119,10]⟩=bs (T++nm++[32,110,101,119,10]):=BE _ [32,110,101,119,10];have e5:(T++nm++[32,110,101,119,10]).length=T.length+nm.length+5:=by rw[Xb,N];rfl
      rw[ac] at cs;have I:T++nm++[32,110,101,119,10]=TB++Cr (AD P) m (i+1):=by rw[H];simp
      generalize T++nm++[32,110,101,119,10]=V at *;generalize T++nm=V1 at *;have c:=Aa (⟨I,D,A⟩:_/\_/\_);clear hi D o y aa E ay h3 M R aK LA G Z hT bg b ax aN H N A aC hp aV aO e5 I ac HI aJ cp;have X:=bH.out
      go_wp2_with fail
      go_roundw
      case rel=>
       (try rw[X])
       exact⟨i+1,c.out.2.1,rfl,by rw[c.out.1],c.out.2.2⟩
      case measure=>
       (try rw[X])
       exact Xl c.out.2.1 (Xo i)
     ·rw[US ac] at H;have z2:¬9223372036854775807<(bs (T++nm)).size+4:=Dz (by omega);have b2:bs (T++nm)++⟨#[32,97,116,32]⟩=bs (T++nm++[32,97,116,32]):=BE _ [32,97,116,32];have e5:(T++nm++[32,97,116,32]).length=T.length+nm.length+4:=by rw[Xb,N];rfl
      rw[ac] at cs;have cz:=cy.out i D;have af:(Yh ((m.th i).pc:Int)).length<=21:=Lib.itoa_length_le _ (by omega) (by omega);have J:=HI.out wr A ((m.th i).pc:Int) (by omega) (by omega);obtain⟨pc,hpcq⟩:∃q,(m.th i).pc=q:=⟨_,rfl⟩;rw[hpcq] at H af J cp;obtain⟨z,aG⟩:∃x,Yh (pc:Int)=x:=⟨_,rfl⟩;rw[aG] at H af J;have z3:¬9223372036854775807<(bs (T++nm++[32,97,116,32])).size+(bs z).size:=EY (by omega);have b3:bs (T++nm++[32,97,116,32])++bs z=bs (T++nm++[32,97,116,32]++z):=BE _ _;have e6:(T++nm++[32,97,116,32]++z).length=T.length+nm.length+4+z.length:=by rw[Xb,e5]
      have I:T++nm++[32,97,116,32]++z++BT (m.th i).regs 4++[10]=TB++Cr (AD P) m (i+1):=by rw[H];simp
      have HV:Hid ((T++nm++[32,97,116,32]++z).length<=2000):=by show _<=2000;omega
      obtain⟨a,aj⟩:∃r,(m.th i).regs=r:=⟨_,rfl⟩;have a7:Hid (∀k,0<=a.getD k 0/\a.getD k 0<1000):=λk=>by rw[<-aj];exact Hg aV k
      rw[aj] at I;have bB:=Aa aj;generalize T++nm++[32,97,116,32]++z=V3 at *;generalize T++nm++[32,97,116,32]=V at *;generalize T++nm=V1 at *;have bn:=Aa A;have HT:=Aa D;have bU:=Aa (⟨I,D⟩:_/\_);clear hi D o y aa E ay h3 M R aK LA G Z hT bg b ax aN H N A aC hp aV aO e5 e6 I ac cz af hpcq aG aj
      go_wp2_with fail
      refine J.mono ?_;rintro e w8 ⟨rfl,cc⟩;have c:=Aa (⟨bU.out.1,bU.out.2,bn.out.trans (cc.mono bn.out.size),trivial⟩:_/\_/\_/\True);clear J cc bU bn cp cs ct q0 q1 q2 q3 s0 s1 s2 s3 s4 s5
      go_wp2_with fail
      go_loopw [5,9] (λtv kv wz=>∃k:Nat,k<=4/\kv = .int .i64 k/\tv = .string (bs (V3++BT a k))/\Xm W.heap.size W wz) (λ_ kv _=>4 - (intOf kv).toNat)
      case atStart=>exact⟨0,Xx _,rfl,by rw[show BT a 0=[] from rfl,Yf],c.out.2.2.1⟩
      case round=>
       obtain⟨k,aU,rfl,rfl,F⟩:=hrel;obtain⟨⟨q0,q1,q2,q3⟩,s0,s1,s2,s3,s4,s5⟩:=aJ.out wr F;have a8:=JT a a7.out k
       by_cases aw:k<4
       ·obtain⟨o,y,-,-,-,-,M,R,-,-⟩:=HM.out;have G:=y.below F;obtain⟨rb,ro,er,-,cr⟩:=G.KV HT.out aw;subst er;have U:=a7.out k;rw[bB.out] at cr;have bx:=G.lr;obtain⟨kk,aE⟩:∃q,i*4+k=q:=⟨_,rfl⟩;obtain⟨Q,aL⟩:∃q,i*4=q:=⟨_,rfl⟩;rw[aE] at cr;have aS:=HT.out;have cd:(kk:Int)<(nr:Int):=by omega
        have b7:(k:Int)<4:=by omega
        have aZ:Hid (XN ((i:Int)*4)=(Q:Int)):=by show XN ((i:Int)*4)=(Q:Int);rw[<-aL];have:=Cv (n:=i*4) (by omega);push_cast at this |-;exact this
        have aT:Hid (XN ((Q:Int)+(k:Int))=(kk:Int)):=by show XN ((Q:Int)+(k:Int))=(kk:Int);rw[<-aE,aL];have:=Cv (n:=Q+k) (by omega);push_cast at this |-;exact this
        have b:=JS a k;have af:=Dw U.1 U.2;have J:=HI.out wr F (a.getD k 0) (by have:=U.1;omega) (by have:=U.2;omega);obtain⟨rv,aW⟩:∃v,a.getD k 0=v:=⟨_,rfl⟩;rw[aW] at cr b af J;obtain⟨z,aG⟩:∃x,Yh rv=x:=⟨_,rfl⟩;rw[aG] at b af J;obtain⟨Y,j⟩:∃Y,V3++BT a k=Y:=⟨_,rfl⟩;have aD:Y.length<=4000:=by rw[<-j,Xb];have:=HV.out;omega
        have z1:¬9223372036854775807<(bs Y).size+1:=Dz (by omega);have b1:bs Y++⟨#[32]⟩=bs (Y++[32]):=BE _ [32];have N:(Y++[32]).length=Y.length+1:=by rw[Xb];rfl
        have z2:¬9223372036854775807<(bs (Y++[32])).size+(bs z).size:=EY (by omega);have b2:bs (Y++[32])++bs z=bs (Y++[32]++z):=BE _ _;have O:Y++[32]++z=V3++BT a (k+1):=by rw[b,<-j];simp
        generalize Y++[32]++z=Y2 at *;generalize Y++[32]=Y1 at *;have bb:XN ((k:Int)+1)=(k:Int)+1:=Hz (by omega);have b9:=aZ.out;have cl:=aT.out;clear aZ aT;have s:=Aa (⟨O,aw,F⟩:_/\_/\_);rw[j];clear aU aw o y M R G U bx aE aL aS b a8 af aW aG j aD N O F q0 q1 q2 q3 s0 s1 s2 s3 s4
        go_wp2_with fail
        refine J.mono ?_;rintro e w9 ⟨rfl,aY⟩;have br:=Aa (s.out.2.2.trans (aY.mono s.out.2.2.size));clear J aY cr s5
        go_wp2_with fail
        go_roundw
        case rel=>
         (try rw[bb])
         exact⟨k+1,s.out.2.1,rfl,by rw[s.out.1],br.out⟩
        case measure=>
         (try rw[bb])
         exact Xl s.out.2.1 (Xo k)
       ·have bv:k=4:=by omega
        subst bv;obtain⟨Y,j⟩:∃Y,V3++BT a 4=Y:=⟨_,rfl⟩;have aD:Y.length<=4000:=by rw[<-j,Xb];have:=HV.out;omega
        have z1:¬9223372036854775807<(bs Y).size+1:=Dz (by omega);have b1:bs Y++⟨#[10]⟩=bs (Y++[10]):=BE _ [10];have O:Y++[10]=TB++Cr (AD P) m (i+1):=by rw[<-j];exact c.out.1
        generalize Y++[10]=Y1 at *;rw[j];have s:=Aa (⟨O,F⟩:_/\_);clear aU aw j a8 aD O F q0 q1 q2 q3 s0 s1 s2 s3 s4 s5;have X:=bH.out
        go_wp2_with fail
        go_roundw
        case rel=>
         (try rw[X])
         exact⟨i+1,c.out.2.1,rfl,by rw[s.out.1],s.out.2⟩
        case measure=>
         (try rw[X])
         exact Xl c.out.2.1 (Xo i)
     ·rw[UR ac] at H;have z2:¬9223372036854775807<(bs (T++nm)).size+6:=Dz (by omega);have b2:bs (T++nm)++⟨#[32,101,110,100,101,100]⟩=bs (T++nm++[32,101,110,100,101,100]):=BE _ [32,101,110,100,101,100];have e5:(T++nm++[32,101,110,100,101,100]).length=T.length+nm.length+6:=by rw[Xb,N];rfl
      rw[ac] at cs;have I:T++nm++[32,101,110,100,101,100]++BT (m.th i).regs 4++[10]=TB++Cr (AD P) m (i+1):=by rw[H];simp
      have HV:Hid ((T++nm++[32,101,110,100,101,100]).length<=2000):=by show _<=2000;omega
      obtain⟨a,aj⟩:∃r,(m.th i).regs=r:=⟨_,rfl⟩;have a7:Hid (∀k,0<=a.getD k 0/\a.getD k 0<1000):=λk=>by rw[<-aj];exact Hg aV k
      rw[aj] at I;have bB:=Aa aj;generalize T++nm++[32,101,110,100,101,100]=V at *;generalize T++nm=V1 at *;have HT:=Aa D;have c:=Aa (⟨I,D,A,trivial⟩:_/\_/\_/\True);clear hi D o y aa E ay h3 M R aK LA G Z hT bg b ax aN H N A aC hp aV aO e5 I ac aj cp
      go_wp2_with fail
      clear cs ct q0 q1 q2 q3 s0 s1 s2 s3 s4 s5
      go_loopw [5,9] (λtv kv wz=>∃k:Nat,k<=4/\kv = .int .i64 k/\tv = .string (bs (V++BT a k))/\Xm W.heap.size W wz) (λ_ kv _=>4 - (intOf kv).toNat)
      case atStart=>exact⟨0,Xx _,rfl,by rw[show BT a 0=[] from rfl,Yf],c.out.2.2.1⟩
      case round=>
       obtain⟨k,aU,rfl,rfl,F⟩:=hrel;obtain⟨⟨q0,q1,q2,q3⟩,s0,s1,s2,s3,s4,s5⟩:=aJ.out wr F;have a8:=JT a a7.out k
       by_cases aw:k<4
       ·obtain⟨o,y,-,-,-,-,M,R,-,-⟩:=HM.out;have G:=y.below F;obtain⟨rb,ro,er,-,cr⟩:=G.KV HT.out aw;subst er;have U:=a7.out k;rw[bB.out] at cr;have bx:=G.lr;obtain⟨kk,aE⟩:∃q,i*4+k=q:=⟨_,rfl⟩;obtain⟨Q,aL⟩:∃q,i*4=q:=⟨_,rfl⟩;rw[aE] at cr;have aS:=HT.out;have cd:(kk:Int)<(nr:Int):=by omega
        have b7:(k:Int)<4:=by omega
        have aZ:Hid (XN ((i:Int)*4)=(Q:Int)):=by show XN ((i:Int)*4)=(Q:Int);rw[<-aL];have:=Cv (n:=i*4) (by omega);push_cast at this |-;exact this
        have aT:Hid (XN ((Q:Int)+(k:Int))=(kk:Int)):=by show XN ((Q:Int)+(k:Int))=(kk:Int);rw[<-aE,aL];have:=Cv (n:=Q+k) (by omega);push_cast at this |-;exact this
        have b:=JS a k;have af:=Dw U.1 U.2;have J:=HI.out wr F (a.getD k 0) (by have:=U.1;omega) (by have:=U.2;omega);obtain⟨rv,aW⟩:∃v,a.getD k 0=v:=⟨_,rfl⟩;rw[aW] at cr b af J;obtain⟨z,aG⟩:∃x,Yh rv=x:=⟨_,rfl⟩;rw[aG] at b af J;obtain⟨Y,j⟩:∃Y,V++BT a k=Y:=⟨_,rfl⟩;have aD:Y.length<=4000:=by rw[<-j,Xb];have:=HV.out;omega
        have z1:¬9223372036854775807<(bs Y).size+1:=Dz (by omega);have b1:bs Y++⟨#[32]⟩=bs (Y++[32]):=BE _ [32];have N:(Y++[32]).length=Y.length+1:=by rw[Xb];rfl
        have z2:¬9223372036854775807<(bs (Y++[32])).size+(bs z).size:=EY (by omega);have b2:bs (Y++[32])++bs z=bs (Y++[32]++z):=BE _ _;have O:Y++[32]++z=V++BT a (k+1):=by rw[b,<-j];simp
        generalize Y++[32]++z=Y2 at *;generalize Y++[32]=Y1 at *;have bb:XN ((k:Int)+1)=(k:Int)+1:=Hz (by omega);have b9:=aZ.out;have cl:=aT.out;clear aZ aT;have s:=Aa (⟨O,aw,F⟩:_/\_/\_);rw[j];clear aU aw o y M R G U bx aE aL aS b a8 af aW aG j aD N O F q0 q1 q2 q3 s0 s1 s2 s3 s4
        go_wp2_with fail
        refine J.mono ?_;rintro e w9 ⟨rfl,aY⟩;have br:=Aa (s.out.2.2.trans (aY.mono s.out.2.2.size));clear J aY cr s5
        go_wp2_with fail
        go_roundw
        case rel=>
         (try rw[bb])
         exact⟨k+1,s.out.2.1,rfl,by rw[s.out.1],br.out⟩
        case measure=>
         (try rw[bb])
         exact Xl s.out.2.1 (Xo k)
       ·have bv:k=4:=by omega
        subst bv;obtain⟨Y,j⟩:∃Y,V++BT a 4=Y:=⟨_,rfl⟩;have aD:Y.length<=4000:=by rw[<-j,Xb];have:=HV.out;omega
        have z1:¬9223372036854775807<(bs Y).size+1:=Dz (by omega);have b1:bs Y++⟨#[10]⟩=bs (Y++[10]):=BE _ [10];have O:Y++[10]=TB++Cr (AD P) m (i+1):=by rw[<-j];exact c.out.1
        generalize Y++[10]=Y1 at *;rw[j];have s:=Aa (⟨O,F⟩:_/\_);clear aU aw j a8 aD O F q0 q1 q2 q3 s0 s1 s2 s3 s4 s5;have X:=bH.out
        go_wp2_with fail
        go_roundw
        case rel=>
         (try rw[X])
         exact⟨i+1,c.out.2.1,rfl,by rw[s.out.1],s.out.2⟩
        case measure=>
         (try rw[X])
         exact Xl c.out.2.1 (Xo i)
     ·rw[UQ ac] at H;have z2:¬9223372036854775807<(bs (T++nm)).size+7:=Dz (by omega);have b2:bs (T++nm)++⟨#[32,102,97,105,108,101,100]⟩=bs (T++nm++[32,102,97,105,108,101,100]):=BE _ [32,102,97,105,108,101,100];have e5:(T++nm++[32,102,97,105,108,101,100]).length=T.length+nm.length+7:=by rw[Xb,N];rfl
      rw[ac] at cs;have I:T++nm++[32,102,97,105,108,101,100]++BT (m.th i).regs 4++[10]=TB++Cr (AD P) m (i+1):=by rw[H];simp
      have HV:Hid ((T++nm++[32,102,97,105,108,101,100]).length<=2000):=by show _<=2000;omega
      obtain⟨a,aj⟩:∃r,(m.th i).regs=r:=⟨_,rfl⟩;have a7:Hid (∀k,0<=a.getD k 0/\a.getD k 0<1000):=λk=>by rw[<-aj];exact Hg aV k
      rw[aj] at I;have bB:=Aa aj;generalize T++nm++[32,102,97,105,108,101,100]=V at *;generalize T++nm=V1 at *;have HT:=Aa D;have c:=Aa (⟨I,D,A,trivial⟩:_/\_/\_/\True);clear hi D o y aa E ay h3 M R aK LA G Z hT bg b ax aN H N A aC hp aV aO e5 I ac aj cp
      go_wp2_with fail
      clear cs ct q0 q1 q2 q3 s0 s1 s2 s3 s4 s5
      go_loopw [5,9] (λtv kv wz=>∃k:Nat,k<=4/\kv = .int .i64 k/\tv = .string (bs (V++BT a k))/\Xm W.heap.size W wz) (λ_ kv _=>4 - (intOf kv).toNat)
      case atStart=>exact⟨0,Xx _,rfl,by rw[show BT a 0=[] from rfl,Yf],c.out.2.2.1⟩
      case round=>
       obtain⟨k,aU,rfl,rfl,F⟩:=hrel;obtain⟨⟨q0,q1,q2,q3⟩,s0,s1,s2,s3,s4,s5⟩:=aJ.out wr F;have a8:=JT a a7.out k
       by_cases aw:k<4
       ·obtain⟨o,y,-,-,-,-,M,R,-,-⟩:=HM.out;have G:=y.below F;obtain⟨rb,ro,er,-,cr⟩:=G.KV HT.out aw;subst er;have U:=a7.out k;rw[bB.out] at cr;have bx:=G.lr;obtain⟨kk,aE⟩:∃q,i*4+k=q:=⟨_,rfl⟩;obtain⟨Q,aL⟩:∃q,i*4=q:=⟨_,rfl⟩;rw[aE] at cr;have aS:=HT.out;have cd:(kk:Int)<(nr:Int):=by omega
        have b7:(k:Int)<4:=by omega
        have aZ:Hid (XN ((i:Int)*4)=(Q:Int)):=by show XN ((i:Int)*4)=(Q:Int);rw[<-aL];have:=Cv (n:=i*4) (by omega);push_cast at this |-;exact this
        have aT:Hid (XN ((Q:Int)+(k:Int))=(kk:Int)):=by show XN ((Q:Int)+(k:Int))=(kk:Int);rw[<-aE,aL];have:=Cv (n:=Q+k) (by omega);push_cast at this |-;exact this
        have b:=JS a k;have af:=Dw U.1 U.2;have J:=HI.out wr F (a.getD k 0) (by have:=U.1;omega) (by have:=U.2;omega);obtain⟨rv,aW⟩:∃v,a.getD k 0=v:=⟨_,rfl⟩;rw[aW] at cr b af J;obtain⟨z,aG⟩:∃x,Yh rv=x:=⟨_,rfl⟩;rw[aG] at b af J;obtain⟨Y,j⟩:∃Y,V++BT a k=Y:=⟨_,rfl⟩;have aD:Y.length<=4000:=by rw[<-j,Xb];have:=HV.out;omega
        have z1:¬9223372036854775807<(bs Y).size+1:=Dz (by omega);have b1:bs Y++⟨#[32]⟩=bs (Y++[32]):=BE _ [32];have N:(Y++[32]).length=Y.length+1:=by rw[Xb];rfl
        have z2:¬9223372036854775807<(bs (Y++[32])).size+(bs z).size:=EY (by omega);have b2:bs (Y++[32])++bs z=bs (Y++[32]++z):=BE _ _;have O:Y++[32]++z=V++BT a (k+1):=by rw[b,<-j];simp
        generalize Y++[32]++z=Y2 at *;generalize Y++[32]=Y1 at *;have bb:XN ((k:Int)+1)=(k:Int)+1:=Hz (by omega);have b9:=aZ.out;have cl:=aT.out;clear aZ aT;have s:=Aa (⟨O,aw,F⟩:_/\_/\_);rw[j];clear aU aw o y M R G U bx aE aL aS b a8 af aW aG j aD N O F q0 q1 q2 q3 s0 s1 s2 s3 s4
        go_wp2_with fail
        refine J.mono ?_;rintro e w9 ⟨rfl,aY⟩;have br:=Aa (s.out.2.2.trans (aY.mono s.out.2.2.size));clear J aY cr s5
        go_wp2_with fail
        go_roundw
        case rel=>
         (try rw[bb])
         exact⟨k+1,s.out.2.1,rfl,by rw[s.out.1],br.out⟩
        case measure=>
         (try rw[bb])
         exact Xl s.out.2.1 (Xo k)
       ·have bv:k=4:=by omega
        subst bv;obtain⟨Y,j⟩:∃Y,V++BT a 4=Y:=⟨_,rfl⟩;have aD:Y.length<=4000:=by rw[<-j,Xb];have:=HV.out;omega
        have z1:¬9223372036854775807<(bs Y).size+1:=Dz (by omega);have b1:bs Y++⟨#[10]⟩=bs (Y++[10]):=BE _ [10];have O:Y++[10]=TB++Cr (AD P) m (i+1):=by rw[<-j];exact c.out.1
        generalize Y++[10]=Y1 at *;rw[j];have s:=Aa (⟨O,F⟩:_/\_);clear aU aw j a8 aD O F q0 q1 q2 q3 s0 s1 s2 s3 s4 s5;have X:=bH.out
        go_wp2_with fail
        go_roundw
        case rel=>
         (try rw[X])
         exact⟨i+1,c.out.2.1,rfl,by rw[s.out.1],s.out.2⟩
        case measure=>
         (try rw[X])
         exact Xl c.out.2.1 (Xo i)
    ·have aS:i=nt:=by omega
     subst aS;have HF:=Aa (HB.out.trans (A.mono HB.out.size));clear hi D A HI HM
     go_wp2_with fail
     go_ret
     exact⟨by rw[cu.out];rfl,HF.out⟩
end
section
variable {w w':Xh} {a0 a1 a2 a3 a4 a5:Option Addr} {nv nf nl nt nr:Nat} {m:MS} {P:RP} {TV:List (Xk×Xk)} {x1 x2 x3 x4:Option Addr} {y1 y2 y3 z1 z2 z3 z4:Nat}
theorem MG {c0 c1 c2 c3 c4 c5:Nat} (N:DI w (.slice x1 y1 z1) (.slice x2 y2 z2) (.slice x3 y3 z3) (.slice x4 nt z4) P TV) (B:P.thr.length=nt) (h:Ci w a0 a1 a2 a3 a4 a5 nv nf nl nt nr m) (X:AW nv nf nl (Ai P) m) (A:Ef nv nf nl (Ai P)) :
 Calls Tryz.prog 33 #[.agg #[.slice x1 y1 z1,.slice x2 y2 z2,.slice x3 y3 z3,.slice x4 nt z4],.agg #[.slice a0 nv c0,.slice a1 nf c1,.slice a2 nl c2,.slice a3 nt c3,.slice a4 nt c4,.slice a5 nr c5]] w λe w'=>∃v,e = .returned v/\w'.ownsRow w.heap.size 3 1 v (AP (Ai P) m).length ((AP (Ai P) m).map Ck)/\Xm w.heap.size w w':=by
 obtain⟨W,z⟩:∃W,(w.alloc (.cells #[.slice x1 y1 z1,.slice x2 y2 z2,.slice x3 y3 z3,.slice x4 nt z4] 28)).alloc (.cells #[.slice a0 nv c0,.slice a1 nf c1,.slice a2 nl c2,.slice a3 nt c3,.slice a4 nt c4,.slice a5 nr c5] 92)=W:=⟨_,rfl⟩;obtain⟨a,T,I,O⟩:=FH _ _ _ z;have F:=Aa (⟨a,O⟩:_/\_);have af:(Ai P).length=nt:=by unfold Ai;rw[Xp];exact B
 have K:nt<=4:=by have:=A.four;omega
 have r:=Aa (fun(u:Xh) (o:Xm W.heap.size W u) (t:Int)=>aeu (c0:=c0) (c1:=c1) (c2:=c2) (c3:=c3) (c4:=c4) (c5:=c5) ((N.below a).below o) B ((h.below a).below o) X A t);have V:m.thr.length=nt:=h.lt;unfold AP;rw[V];have ac:Hid (∀u,Xm W.heap.size W u->(u.cell? ⟨w.heap.size,0,none⟩=some (.slice x1 y1 z1)/\u.cell? ⟨w.heap.size,1,none⟩=some (.slice x2 y2 z2)/\u.cell? ⟨w.heap.size,2,none⟩=some (.slice x3 y3 z3)/\u.cell? ⟨w.heap.size,3,none⟩=some (.slice x4 nt z4))/\u.cell? ⟨w.heap.size+1,0,none⟩=some (.slice a0 nv c0)/\u.cell? ⟨w.heap.size+1,1,none⟩=some (.slice a1 nf c1)/\u.cell? ⟨w.heap.size+1,2,none⟩=some (.slice a2 nl c2)/\u.cell? ⟨w.heap.size+1,3,none⟩=some (.slice a3 nt c3)/\u.cell? ⟨w.heap.size+1,4,none⟩=some (.slice a4 nt c4)/\u.cell? ⟨w.heap.size+1,5,none⟩=some (.slice a5 nr c5)):=λu o=>⟨Cl ((o.block _ (by omega)).trans T),Bk ((o.block _ (by omega)).trans I)⟩
 clear a T I O N B h X A af V;obtain⟨C,U⟩:∃C,Ai P=C:=⟨_,rfl⟩;simp only[U] at r |-;clear U
 go_enter Tryz.func33,Tryz.ntmps33
 go_upto_region 1 with fail
 try rw[z]
 clear z
 go_wp2_with fail
 go_loopw [5,6] (λlv D wr=>∃i:Nat,i<=nt/\D = .int .i64 i/\wr.ownsRow W.heap.size 3 1 lv (DD C m i).length ((DD C m i).map Ck)/\Xm W.heap.size W wr) (λ_ D _=>nt - (intOf D).toNat)
 case atStart=>exact⟨0,Xx _,rfl,World.ownsRow_nil _ _ _ _,Below.refl _ _⟩
 case round=>
  obtain⟨i,M,rfl,c,a⟩:=hrel;have k:=Je C m i;have j:=Aa (QH C m i);obtain⟨l,f⟩:∃l,DD C m i=l:=⟨_,rfl⟩;rw[f] at c k j;replace f:=Aa f;obtain⟨la,lc,rfl⟩:=As c;obtain⟨⟨q0,q1,q2,q3⟩,s0,s1,Z,Y,s4,s5⟩:=ac.out wr a
  by_cases d:i<nt
  ·have av:(i:Int)<(nt:Int):=by omega
   have x:XN ((i:Int)+1)=(i:Int)+1:=by unfold XN;omega
   have E:=r.out wr a i;obtain⟨y,Q⟩:∃y,AV C m (i:Int)=y:=⟨_,rfl⟩;rw[Q] at E j;have R:=Aa (⟨c,a,d,k⟩:_/\_/\_/\_);have ao:=Aa K;clear c a d M f Q k r K
   go_wp2_with fail
   refine E.mono ?_;rintro e w2 ⟨rfl,G⟩;obtain⟨c,a,d,k⟩:=R.out;have q:w2.ownsRow W.heap.size 3 1 (.slice la l.length lc) l.length (l.map Ck):=Bw c λg e=>G.block g (c.lt g e).2;have n:=a.trans (G.mono a.size);have H:=n.size;clear c a R E G q0 q1 q2 q3 s0 s1 Z Y s4 s5
   by_cases s:y=0
   ·subst s;obtain⟨g,cap,w3,ak,J,S⟩:=NC q (i:Int) (by have:=ao.out;omega) H;have p:DD C m (i+1)=l++[(i:Int)]:=by rw[j.out,if_pos rfl]
    have b:=Aa (⟨J,n.trans (S _ (Xd _)),d,p⟩:_/\_/\_/\_);clear p;clear q n J S H d k j
    go_wp2_with (at_builtin;refine Dl rfl _ _ _ rfl rfl rfl rfl ak ?_)
    go_roundw
    case rel=>
     (try rw[x])
     refine⟨i+1,b.out.2.2.1,rfl,?_,b.out.2.1⟩;rw[b.out.2.2.2];exact b.out.1
    case measure=>
     (try rw[x])
     exact Xl b.out.2.2.1 (Xo i)
   ·have aw:(y == 0)=false:=by simpa using s
    have p:DD C m (i+1)=l:=by rw[j.out,if_neg s]
    have b:=Aa (⟨q,n,d,p⟩:_/\_/\_/\_);clear p;clear q n H d k j s
    go_wp2_with fail
    go_roundw
    case rel=>
     (try rw[x])
     refine⟨i+1,b.out.2.2.1,rfl,?_,b.out.2.1⟩;rw[b.out.2.2.2];exact b.out.1
    case measure=>
     (try rw[x])
     exact Xl b.out.2.2.1 (Xo i)
  ·have aq:i=nt:=by omega
   subst aq;have b:=Aa (⟨f,c,a⟩:_/\_/\_);clear c a M d r j k f
   go_wp2_with fail
   go_ret
   obtain⟨f,c,a⟩:=b.out;refine⟨_,rfl,?_,F.out.1.trans (a.mono F.out.1.size)⟩;rw[f.out];exact Dq c (by have:=F.out.2;omega)
end
section
variable {S:Type} {key:S->Tx} {succ:S->List S} {most n i:Nat} {ms:List S} {m:S} {res:Option (List S)}
theorem adM (a:0<n) (h:Cq key succ most n ms ms.length=res):res=some ms:=by
 cases n with
 |zero=>cases a
 |succ n=>
  unfold Cq at h;rw[XU (Xd _)] at h;exact h.symm
theorem adK (b:0<n) (a:ms[i]?=some m) (c:(DE key succ ms m).length<=most) (h:Cq key succ most n ms i=res):Cq key succ most (n - 1) (DE key succ ms m) (i+1)=res:=by
 cases n with
 |zero=>cases b
 |succ n=>
  unfold Cq at h;rw[a] at h;dsimp only at h;rw[if_neg (by omega)] at h;exact h
theorem adL (a:ms[i]?=some m) (b:most<(DE key succ ms m).length) (h:Cq key succ most n ms i=res):res=none:=by
 cases n with
 |zero=>exact h.symm
 |succ n=>
  unfold Cq at h;rw[a] at h;dsimp only at h;rw[if_pos b] at h;exact h.symm
end
def Fb (p:PD) (ms:List MS) (m:MS) (rl:List Int) (k:Nat):List MS:=((rl.take k).map λt=>(AB true p.C m t).1).foldl (DS (Aj p)) ms
theorem aaL {p:PD} {ms:List MS} {m:MS} {a:List Int} {k:Nat} {t:Int} (h:a[k]?=some t):Fb p ms m a (k+1)=DS (Aj p) (Fb p ms m a k) (AB true p.C m t).1:=by
 unfold Fb;rw[List.take_add_one,h,XH,Y0]
 rfl
theorem Lj {p:PD} {ms:List MS} {m:MS} {a:List Int} (h:AP p.C m=a) {k:Nat} (b:a.length<=k):Fb p ms m a k=DE (Aj p) (By true p.C) ms m:=by
 unfold Fb DE By;rw[List.take_of_length_le b,h]
theorem aaN {p:PD} {ms:List MS} {m:MS} {a:List Int} (h:AP p.C m=a) (k:Nat):(Fb p ms m a k).length<=(DE (Aj p) (By true p.C) ms m).length:=by
 rw[<-Lj h (Xd a.length)]
 by_cases b:a.length<=k
 ·rw[Lj h b,Lj h (Xd _)];exact Xd _
 ·unfold Fb;have e:a.take a.length=a.take k++a.drop k:=by rw[List.take_length,List.take_append_drop]
  rw[e,XH,Y0];exact adj _ _
theorem aaM (p:PD) (ms:List MS) (m:MS) (a:List Int) (k:Nat):∃r,Fb p ms m a k=ms++r:=LF _ _
theorem ac6 {nv nf nl:Nat} {C:List (List Ad)} {m:MS} {t:Int} (a:Ef nv nf nl C) (h:AW nv nf nl C m) (c:AV C m t=0):AW nv nf nl C (AB true C m t).1:=by
 obtain⟨u,rfl,f,e,b,d⟩:=GM a h c;unfold AB;rw[Int.toNat_natCast];exact KO true h f e b d
structure GS (W0:Xh) (base sb:Nat) (d:D5) (p:PD) (wr:Xh) (av:Xk) (ms:List MS) (most:Nat):Prop where
 all:∃S,Ds wr base d av S ms
 seen:Fl wr base sb (ms.map (Aj p))
 bel:Xm base W0 wr
 le:ms.length<=most
 ok:∀m,m∈ms->AW d.nv d.nf d.nl p.C m
section
variable {W0 wr wr':Xh} {base sb most:Nat} {d:D5} {p:PD} {av:Xk} {ms:List MS}
theorem Fl.below {w w':Xh} {b:List Tx} (h:Fl w base sb b) (a:Xm w.heap.size w w'):Fl w' base sb b:=by
 rcases h with⟨c,e,d⟩|⟨g,f,L,h⟩
 ·exact .inl ⟨(a.block _ (Array.getElem?_eq_some_iff.1 c).1).trans c,e,d⟩
 ·exact .inr ⟨g,f,L,h.below a⟩
theorem Fl.keep {w w':Xh} {c:List Tx} (h:Fl w base sb c) (a:∀(b:Nat) (cs:Array Xk) (T:Nat),w.heap[b]?=some (.cells cs T)->T≠92->w'.heap[b]?=w.heap[b]?):Fl w' base sb c:=by
 rcases h with⟨d,i,e⟩|⟨g,f,L,h⟩
 ·exact .inl ⟨(a _ _ _ d (by decide)).trans d,i,e⟩
 ·exact .inr ⟨g,f,L,h.keep a⟩
theorem GS.below (h:GS W0 base sb d p wr av ms most) (c:base<=W0.heap.size) (a:Xm wr.heap.size wr wr'):GS W0 base sb d p wr' av ms most:=by
 obtain⟨S,b⟩:=h.all
 exact⟨⟨S,b.below a⟩,h.seen.below a,h.bel.trans (a.mono (by have:=h.bel.size;omega)),h.le,h.ok⟩
end
end Go.Proofs.YtdcacoifehkioaaGreatDoor
