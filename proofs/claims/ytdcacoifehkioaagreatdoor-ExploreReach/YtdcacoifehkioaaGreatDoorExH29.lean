import Derived.Test.YtdcacoifehkioaaGreatDoorExH3
import Derived.Test.YtdcacoifehkioaaGreatDoorExH28
import Derived.Test.YtdcacoifehkioaaGreatDoorExH25
import Derived.BigQuiet
import Derived.Test.YtdcacoifehkioaaGreatDoorExH24
import Derived.Test.YtdcacoifehkioaaGreatDoorExH26
import Derived.Test.YtdcacoifehkioaaGreatDoorExH27
open Go.Lib renaming itoa->Yj
open Go renaming World->Xh,Value->Xk
open List renaming getD_eq_getElem?_getD->Xc,length_map->Xp,getElem?_eq_none->XU,length_append->Xb,append_nil->Ye,append_assoc->XZ,getElem?_eq_getElem->Xe,map_append->XI,foldl_append->Y0
open Go.RowKit renaming Below->Xm,wrap64->XO
open Nat renaming le_refl->Xd,zero_le->Xw,le_trans->Xu,sub_lt_sub_left->Xl,lt_succ_self->Xn
set_option maxRecDepth 100000
set_option maxHeartbeats 8000000
set_option linter.unusedVariables false
set_option linter.unusedSimpArgs false
namespace Go.Proofs.YtdcacoifehkioaaGreatDoor
open Go.RowKit Go.Shelf Go.Proofs.Cod
def AD (P:RP):PD:=⟨P.vs,P.fs,P.ls,P.names,Ai P⟩
theorem Vc {nm:Tx} {th:TS} (h:th.ph=0):CR nm th=nm++[32,110,101,119,10]:=by
 unfold CR Gd;rw[if_pos h,if_neg (by omega),if_neg (by omega),if_neg (by omega)];simp
theorem Vf {nm:Tx} {th:TS} (h:th.ph=1):CR nm th=nm++[32,97,116,32]++Yj th.pc++BX th.regs 4++[10]:=by
 unfold CR Gd;simp[h]
theorem Ve {nm:Tx} {th:TS} (h:th.ph=2):CR nm th=nm++[32,101,110,100,101,100]++BX th.regs 4++[10]:=by
 unfold CR Gd;simp[h]
theorem Vd {nm:Tx} {th:TS} (h:th.ph=3):CR nm th=nm++[32,102,97,105,108,101,100]++BX th.regs 4++[10]:=by
 unfold CR Gd;simp[h]
section
variable {w w':Xh} {a0 a1 a2 a3 a4 a5:Option Addr} {nv nf nl nt nr:Nat} {m:MS} {P:RP} {TV:List (Xk×Xk)} {x1 x2 x3 x4:Option Addr} {z1 z2 z3 z4:Nat}
theorem Ln {P:RP} {t:Nat} {th:AE} (h:P.thr[t]?=some th):P.names.getD t []=th.name:=by
 unfold RP.names;rw[Xc,List.getElem?_map,h];rfl
theorem WA {B:Nat} (ht:Ck w B) (hB:B<=w.heap.size) {c0 c1 c2 c3 c4 c5:Nat} (hQ:DM w (.slice x1 nv z1) (.slice x2 nf z2) (.slice x3 nl z3) (.slice x4 nt z4) P TV) (ay:P.thr.length=nt) (h1:P.vs.length=nv) (h2:P.fs.length=nf) (h3:P.ls.length=nl) (h:Cl w a0 a1 a2 a3 a4 a5 nv nf nl nt nr m) (o:AZ nv nf nl (Ai P) m) (hf:Cs (AD P)) (E:DX (AD P)) :
 Calls Tryz.prog 68 #[.agg #[.slice x1 nv z1,.slice x2 nf z2,.slice x3 nl z3,.slice x4 nt z4],.agg #[.slice a0 nv c0,.slice a1 nf c1,.slice a2 nl c2,.slice a3 nt c3,.slice a4 nt c4,.slice a5 nr c5]] w λe w'=>e = .returned (.string (bs (Aj (AD P) m)))/\Xm w.heap.size w w':=by
 obtain⟨W,hW⟩:∃W,(w.alloc (.cells #[.slice x1 nv z1,.slice x2 nf z2,.slice x3 nl z3,.slice x4 nt z4] 28)).alloc (.cells #[.slice a0 nv c0,.slice a1 nf c1,.slice a2 nl c2,.slice a3 nt c3,.slice a4 nt c4,.slice a5 nr c5] 92)=W:=⟨_,rfl⟩;obtain⟨bl,k1,k2,hz⟩:=FK _ _ _ hW;have M:(Ai P).length=nt:=by unfold Ai;rw[Xp];exact ay
 have R:nt<=4:=by have:=hf.fit.four;have e:(AD P).C.length=nt:=M;omega
 have cn:nv<=4:=by rw[<-h1];exact hf.v
 have b6:nf<=4:=by rw[<-h2];exact hf.f
 have aE:nl<=4:=by rw[<-h3];exact hf.l
 have ad:=hQ.below bl;have y:=h.below bl;have bE:=ht.keep (bl.mono hB);have bG:B<=W.heap.size:=by have:=bl.size;omega
 have aG:Hid (∀u,Xm W.heap.size W u->(u.cell? ⟨w.heap.size,0,none⟩=some (.slice x1 nv z1)/\u.cell? ⟨w.heap.size,1,none⟩=some (.slice x2 nf z2)/\u.cell? ⟨w.heap.size,2,none⟩=some (.slice x3 nl z3)/\u.cell? ⟨w.heap.size,3,none⟩=some (.slice x4 nt z4))/\u.cell? ⟨w.heap.size+1,0,none⟩=some (.slice a0 nv c0)/\u.cell? ⟨w.heap.size+1,1,none⟩=some (.slice a1 nf c1)/\u.cell? ⟨w.heap.size+1,2,none⟩=some (.slice a2 nl c2)/\u.cell? ⟨w.heap.size+1,3,none⟩=some (.slice a3 nt c3)/\u.cell? ⟨w.heap.size+1,4,none⟩=some (.slice a4 nt c4)/\u.cell? ⟨w.heap.size+1,5,none⟩=some (.slice a5 nr c5)):=λu hu=>⟨BK ((hu.block _ (by omega)).trans k1),Br ((hu.block _ (by omega)).trans k2)⟩
 have HI:=Aa (λu (hu:Xm W.heap.size W u) (x:Int) (h : -9223372036854775808<=x) (h':x<=9223372036854775807)=>IP x h h' u (bE.keep (hu.mono bG)));have V1:=Aa (λu (hu:Xm W.heap.size W u)=>OT (cap:=c0) (bE.keep (hu.mono bG)) (by have:=hu.size;omega) (EI ad.v hu) h1 E.v (y.v.below hu) y.lv cn o.vv);have O:=Aa (λu (hu:Xm W.heap.size W u)=>OT (cap:=c1) (bE.keep (hu.mono bG)) (by have:=hu.size;omega) (EI ad.f hu) h2 E.f (y.f.below hu) y.lf b6 o.fv);have bw:∀(l:List Int),(∀v,v∈l->Cu v)->∀k,Cu (l.getD k 0):=λl hv k=>by
  by_cases e:k<l.length
  ·exact hv _ (CL e)
  ·rw[Xc,XU (by omega)];exact⟨by decide,by decide⟩
 have L1:=FB Yj P.vs m.vars nv E.v (λk=>DB (bw _ o.vv k).1 (bw _ o.vv k).2);have L2:=FB Yj P.fs m.flags nf E.f (λk=>DB (bw _ o.fv k).1 (bw _ o.fv k).2);have ci:Aj (AD P) m=Bi Yj P.vs m.vars nv++Bi Yj P.fs m.flags nf++Bi (Cg P.names) P.ls m.locks nl++Cv (AD P) m nt:=by
  have e:(AD P).ts.length=nt:=by show P.names.length=nt;unfold RP.names;rw[Xp];exact ay
  unfold Aj;rw[e];show Bi Yj P.vs m.vars P.vs.length++Bi Yj P.fs m.flags P.fs.length++Bi (Cg P.names) P.ls m.locks P.ls.length++_=_;rw[h1,h2,h3]
 rw[ci];obtain⟨T1,bO⟩:∃T,Bi Yj P.vs m.vars nv=T:=⟨_,rfl⟩;obtain⟨T2,bQ⟩:∃T,Bi Yj P.fs m.flags nf=T:=⟨_,rfl⟩;rw[bO] at L1;rw[bQ] at L2;simp only[bO] at V1 |-;simp only[bQ] at O |-;have zA:¬9223372036854775807<(bs T1).size+(bs T2).size:=EZ (by omega);have aA:bs T1++bs T2=bs (T1++T2):=Bx _ _;have LA:(T1++T2).length<=248:=by have e:(T1++T2).length=T1.length+T2.length:=Xb;omega
 generalize cB:T1++T2=TA at *;have ca:∀i,i<=nt->(Cv (AD P) m i).length<=i*200:=by
  intro i
  induction i with
  |zero=>intro _;exact Xd _
  |succ i ih=>
   intro hi;rw[KL];exact Nw (ih (by omega)) (Mo (p:=AD P) E.t (o.th i (by omega)) (hf.fit.code _ (CL (d:=[]) (by show i<(Ai P).length;omega))).1)
 have cF:Hid (∀i,i<=nt->(Cv (AD P) m i).length<=800):=λi hi=>by
  have:=ca i hi;have e:i*200<=4*200:=Nat.mul_le_mul_right 200 (by omega)
  omega
 have cu:Hid (∀i,i<nt->(m.th i).pc<=25):=λi hi=>by
  have q:=(o.th i (by omega)).pc2;have q2:((Ai P).getD i []).length<=24:=(hf.fit.code _ (CL (d:=[]) (by show i<(Ai P).length;omega))).1
  omega
 clear ca;have HB:=Aa bl;have HM:=Aa (⟨o,y,ad,E,ay,h3,M,⟨R,aE,LA⟩⟩:_/\_/\_/\_/\_/\_/\_/\_/\_/\_);have hd:Xm W.heap.size W W.drew:=⟨rfl,rfl,rfl,Xd _,λ_ _=>rfl⟩;clear ht hB hQ ay h1 h2 h3 h o hf E bl k1 k2 hz M R cn b6 aE ad y bE bG bw L1 L2 ci bO bQ LA cB
 go_enter Tryz.func68,Tryz.ntmps68
 go_upto_region 1 with fail
 try rw[hW]
 clear hW;refine wp_region_held_drew (S:=(λu=>(u.cell? ⟨w.heap.size,0,none⟩=some (.slice x1 nv z1)/\u.cell? ⟨w.heap.size,1,none⟩=some (.slice x2 nf z2)/\u.cell? ⟨w.heap.size,2,none⟩=some (.slice x3 nl z3)/\u.cell? ⟨w.heap.size,3,none⟩=some (.slice x4 nt z4))/\u.cell? ⟨w.heap.size+1,0,none⟩=some (.slice a0 nv c0)/\u.cell? ⟨w.heap.size+1,1,none⟩=some (.slice a1 nf c1)/\u.cell? ⟨w.heap.size+1,2,none⟩=some (.slice a2 nl c2)/\u.cell? ⟨w.heap.size+1,3,none⟩=some (.slice a3 nt c3)/\u.cell? ⟨w.heap.size+1,4,none⟩=some (.slice a4 nt c4)/\u.cell? ⟨w.heap.size+1,5,none⟩=some (.slice a5 nr c5))) (by kernel_rfl) (aG.out _ hd) (λaz=>?_);refine tk 0 az ?_;refine tk 1 az ?_;refine tk 2 az ?_;refine tk 3 az ?_;refine tk 5 az ?_;refine tk 6 az ?_;refine tk 7 az ?_;refine tk 8 az ?_;refine rd 4 (λK hK=>?_)
 go_simp
 go_at_call 129
 refine(V1.out _ hd).mono ?_;rintro e u1 ⟨rfl,aS⟩;replace aS:Xm W.heap.size W u1:=hd.trans aS;have hq:=Aa (aG.out u1 aS);replace aS:=Aa aS
 go_wp2_with fail
 refine hK.out _ _ hq.out (λaz=>?_);clear hK K hq
 try simp only[Act.put,sq]
 refine rd 9 (λK hK=>?_)
 go_simp
 go_at_call 129
 refine(O.out _ aS.out).mono ?_;rintro e u2 ⟨rfl,bj⟩;replace bj:Xm W.heap.size W u2:=aS.out.trans (bj.mono aS.out.size);have hq:=Aa (aG.out u2 bj);replace bj:=Aa bj
 go_wp2_with fail
 refine hK.out _ _ hq.out (λaz=>?_);clear hK K hq
 try simp only[Act.put,sq]
 refine tk 10 az ?_;refine tk 11 az ?_;refine wpAnyH_done (by kernel_rfl) ?_ _;clear az V1 O zA aA aS hd
 go_wp2_with fail
 go_loopw [5,6] (λtv iv wr=>∃i:Nat,i<=nl/\iv = .int .i64 i/\tv = .string (bs (TA++Bi (Cg P.names) P.ls m.locks i))/\Xm W.heap.size W wr) (λ_ iv _=>nl - (intOf iv).toNat)
 case atStart=>exact⟨0,Xw _,rfl,by rw[show Bi (Cg P.names) P.ls m.locks 0=[] from rfl,Ye],bj.out⟩
 case round=>
  obtain⟨i,hi,rfl,rfl,A⟩:=hrel;clear bj;obtain⟨⟨q0,q1,q2,q3⟩,s0,s1,s2,s3,s4,s5⟩:=aG.out wr A
  by_cases D:i<nl
  ·obtain⟨o,y,ad,E,ay,h3,M,R,aE,LA⟩:=HM.out;have cM:(i:Int)<(nl:Int):=by omega
   have F:=y.below A;have hQ:=ad.below A;obtain⟨lb,lo,e1,-,c1⟩:=Km F.l (i:=i) (by rw[F.ll];exact D);subst e1;have bF:=hQ.l;rw[h3] at bF;obtain⟨na,nc,e2,bN⟩:=IH bF h3;injection e2 with e2 _ e2c
   subst e2;clear e2c;obtain⟨nb,no,e3,-,c2⟩:=bN i (by omega);subst e3;have bV:=o.lv _ (CL (d:=0) (by rw[o.ll];exact D:i<m.locks.length));have bT:=FB (Cg P.names) P.ls m.locks i E.l (λk=>by unfold Cg;split;(show (1:Nat)<=21;omega);exact Xu (E.t _) (by omega));have b:=Ki (Cg P.names) P.ls m.locks i;have aJ:=E.l i;have aJ:(P.ls.getD i []).length<=8:=aJ;obtain⟨T,hT⟩:∃T,TA++Bi (Cg P.names) P.ls m.locks i=T:=⟨_,rfl⟩;have be:T.length<=248+4*31:=by rw[<-hT,Xb];omega
   obtain⟨nm,bW⟩:∃x,P.ls.getD i []=x:=⟨_,rfl⟩;obtain⟨v,bM⟩:∃v,m.locks.getD i 0=v:=⟨_,rfl⟩;rw[bW] at aJ b c2;rw[bM] at bV b c1;have H:TA++Bi (Cg P.names) P.ls m.locks (i+1)=T++GF nm (Cg P.names v):=by rw[b,<-XZ,hT]
   have z1:¬9223372036854775807<(bs T).size+(bs nm).size:=EZ (by omega);have b1:bs T++bs nm=bs (T++nm):=Bx _ _;have N:(T++nm).length=T.length+nm.length:=Xb;have z2:¬9223372036854775807<(bs (T++nm)).size+1:=Dn (by omega);have b2:bs (T++nm)++⟨#[61]⟩=bs (T++nm++[61]):=Bx _ [61];have e5:(T++nm++[61]).length=T.length+nm.length+1:=by rw[Xb,N];rfl
   have X:XO ((i:Int)+1)=(i:Int)+1:=Ia (by omega);rw[hT]
   by_cases hv:v = -1
   ·subst hv;have bA:Cg P.names (-1)=[45]:=by unfold Cg;rw[if_pos rfl]
    rw[bA] at H;have z3:¬9223372036854775807<(bs (T++nm++[61])).size+1:=Dn (by omega);have b3:bs (T++nm++[61])++⟨#[45]⟩=bs (T++nm++[61]++[45]):=Bx _ [45];have e6:(T++nm++[61]++[45]).length=T.length+nm.length+2:=by rw[Xb,e5];rfl
    have z4:¬9223372036854775807<(bs (T++nm++[61]++[45])).size+1:=Dn (by omega);have b4:bs (T++nm++[61]++[45])++⟨#[10]⟩=bs (T++nm++[61]++[45]++[10]):=Bx _ [10];have I:T++nm++[61]++[45]++[10]=TA++Bi (Cg P.names) P.ls m.locks (i+1):=by rw[H];unfold GF;simp
    generalize T++nm++[61]++[45]++[10]=V4 at *;generalize T++nm++[61]++[45]=V3 at *;generalize T++nm++[61]=O at *;generalize T++nm=V1 at *;have j:=Aa (⟨I,D,A⟩:_/\_/\_);clear hi D o y ad E ay h3 M R aE LA F hQ bF bN bV bT b aJ hT be bW bM H N e5 e6 I A bA HI aG
    go_wp2_with fail
    go_roundw
    case rel=>
     (try rw[X])
     exact⟨i+1,j.out.2.1,rfl,by rw[j.out.1],j.out.2.2⟩
    case measure=>
     (try rw[X])
     exact Xl j.out.2.1 (Xn i)
   ·obtain⟨tn,rfl⟩:∃tn:Nat,v=tn:=⟨v.toNat,by omega⟩;have aO:tn<P.thr.length:=by omega
    obtain⟨th,aC⟩:∃th,P.thr[tn]?=some th:=⟨_,Xe aO⟩;obtain⟨p,hp⟩:∃p,TV[tn]?=some p:=⟨_,Xe (by rw[hQ.len];exact aO)⟩;obtain⟨g,cap,bU,-,ct,-⟩:=hQ.JK aC hp;injection bU with hga hgn hgc
    subst hga;clear hgn hgc;have bA:Cg P.names (tn:Int)=th.name:=by unfold Cg;rw[if_neg hv,Int.toNat_natCast];exact Ln aC
    rw[bA] at H;have ak:=E.t tn;have ak:(P.names.getD tn []).length<=8:=ak;rw[Ln aC] at ak;obtain⟨wt,cc⟩:∃x,th.name=x:=⟨_,rfl⟩;rw[cc] at H ak ct;have cV:(tn:Int)<(nt:Int):=by omega
    have z3:¬9223372036854775807<(bs (T++nm++[61])).size+(bs wt).size:=EZ (by omega);have b3:bs (T++nm++[61])++bs wt=bs (T++nm++[61]++wt):=Bx _ _;have e6:(T++nm++[61]++wt).length=T.length+nm.length+1+wt.length:=by rw[Xb,e5]
    have z4:¬9223372036854775807<(bs (T++nm++[61]++wt)).size+1:=Dn (by omega);have b4:bs (T++nm++[61]++wt)++⟨#[10]⟩=bs (T++nm++[61]++wt++[10]):=Bx _ [10];have I:T++nm++[61]++wt++[10]=TA++Bi (Cg P.names) P.ls m.locks (i+1):=by rw[H];unfold GF;simp
    generalize T++nm++[61]++wt++[10]=V4 at *;generalize T++nm++[61]++wt=V3 at *;generalize T++nm++[61]=O at *;generalize T++nm=V1 at *;have j:=Aa (⟨I,D,A⟩:_/\_/\_);clear hi D o y ad E ay h3 M R aE LA F hQ bF bN bV bT b aJ hT be bW bM H N e5 e6 I A bA HI aG hv aO aC hp ak cc
    go_wp2_with fail
    go_quiet (fail)
    go_wp2_with fail
    go_roundw
    case rel=>
     (try rw[X])
     exact⟨i+1,j.out.2.1,rfl,by rw[j.out.1],j.out.2.2.trans ⟨rfl,rfl,rfl,Xd _,λ_ _=>rfl⟩⟩
    case measure=>
     (try rw[X])
     exact Xl j.out.2.1 (Xn i)
  ·have aP:i=nl:=by omega
   subst aP;obtain⟨TB,bK⟩:∃T,TA++Bi (Cg P.names) P.ls m.locks i=T:=⟨_,rfl⟩;rw[bK];have cm:TB.length<=248+4*31:=by
    obtain⟨o,y,ad,E,ay,h3,M,R,aE,LA⟩:=HM.out;have bT:=FB (Cg P.names) P.ls m.locks i E.l (λk=>by unfold Cg;split;(show (1:Nat)<=21;omega);exact Xu (E.t _) (by omega));rw[<-bK,Xb];omega
   have cG:=Aa cm;have cC:=Aa bK;have bm:=Aa A;clear hi D A bK cm
   go_wp2_with fail
   clear q0 q1 q2 q3 s0 s1 s2 s3 s4 s5
   go_loopw [5,8] (λtv iv wr=>∃i:Nat,i<=nt/\iv = .int .i64 i/\tv = .string (bs (TB++Cv (AD P) m i))/\Xm W.heap.size W wr) (λ_ iv _=>nt - (intOf iv).toNat)
   case atStart=>exact⟨0,Xw _,rfl,by rw[KJ,Ye],bm.out⟩
   case round=>
    obtain⟨i,hi,rfl,rfl,A⟩:=hrel;clear bm;obtain⟨⟨q0,q1,q2,q3⟩,s0,s1,s2,s3,s4,s5⟩:=aG.out wr A
    by_cases D:i<nt
    ·obtain⟨o,y,ad,E,ay,h3,M,R,aE,LA⟩:=HM.out;have cM:(i:Int)<(nt:Int):=by omega
     have F:=y.below A;have hQ:=ad.below A;have aO:i<P.thr.length:=by omega
     obtain⟨th,aC⟩:∃th,P.thr[i]?=some th:=⟨_,Xe aO⟩;obtain⟨p,hp⟩:∃p,TV[i]?=some p:=⟨_,Xe (by rw[hQ.len];exact aO)⟩;obtain⟨g,cap,bU,-,ct,-⟩:=hQ.JK aC hp;injection bU with hga hgn hgc
     subst hga;clear hgn hgc;obtain⟨sb,so,es,-,cs⟩:=F.MZ D;subst es;obtain⟨ab,ao,ea,-,cp⟩:=F.Rc D;subst ea;have bb:=o.th i (by rw[M];exact D);have co:=bb.ph;have ak:=E.t i;have ak:(P.names.getD i []).length<=8:=ak;rw[Ln aC] at ak;have b:=KL (AD P) m i;have b:Cv (AD P) m (i+1)=Cv (AD P) m i++CR (P.names.getD i []) (m.th i):=b;rw[Ln aC] at b;have cA:=cF.out i hi;obtain⟨T,hT⟩:∃T,TB++Cv (AD P) m i=T:=⟨_,rfl⟩;have be:T.length<=248+4*31+800:=by rw[<-hT,Xb];have:=cG.out;omega
     obtain⟨nm,aJ⟩:∃x,th.name=x:=⟨_,rfl⟩;rw[aJ] at ak b ct;have H:TB++Cv (AD P) m (i+1)=T++CR nm (m.th i):=by rw[b,<-XZ,hT]
     have z1:¬9223372036854775807<(bs T).size+(bs nm).size:=EZ (by omega);have b1:bs T++bs nm=bs (T++nm):=Bx _ _;have N:(T++nm).length=T.length+nm.length:=Xb;have bJ:Hid (XO ((i:Int)+1)=(i:Int)+1):=Ia (by omega);rw[hT];clear cA;have cz:(m.th i).ph=0\/(m.th i).ph=1\/(m.th i).ph=2\/(m.th i).ph=3:=by omega
     clear co
     rcases cz with Z|Z|Z|Z
     ·rw[Vc Z] at H;have z2:¬9223372036854775807<(bs (T++nm)).size+5:=Dn (by omega);have b2:bs (T++nm)++⟨#[32,110,101,119,10]⟩=bs (T++nm++[32,110,101,119,10]):=Bx _ [32,110,101,119,10];have e5:(T++nm++[32,110,101,119,10]).length=T.length+nm.length+5:=by rw[Xb,N];rfl
      rw[Z] at cs;have I:T++nm++[32,110,101,119,10]=TB++Cv (AD P) m (i+1):=by rw[H];simp
      generalize T++nm++[32,110,101,119,10]=O at *;generalize T++nm=V1 at *;have j:=Aa (⟨I,D,A⟩:_/\_/\_);clear hi D o y ad E ay h3 M R aE LA F hQ hT be b ak aJ H N A aC hp bb aO e5 I Z HI aG cp;have X:=bJ.out
      go_wp2_with fail
      go_roundw
      case rel=>
       (try rw[X])
       exact⟨i+1,j.out.2.1,rfl,by rw[j.out.1],j.out.2.2⟩
      case measure=>
       (try rw[X])
       exact Xl j.out.2.1 (Xn i)
     ·rw[Vf Z] at H;have z2:¬9223372036854775807<(bs (T++nm)).size+4:=Dn (by omega);have b2:bs (T++nm)++⟨#[32,97,116,32]⟩=bs (T++nm++[32,97,116,32]):=Bx _ [32,97,116,32];have e5:(T++nm++[32,97,116,32]).length=T.length+nm.length+4:=by rw[Xb,N];rfl
      rw[Z] at cs;have cE:=cu.out i D;have ac:(Yj ((m.th i).pc:Int)).length<=21:=Lib.itoa_length_le _ (by omega) (by omega);have J:=HI.out wr A ((m.th i).pc:Int) (by omega) (by omega);obtain⟨pc,b5⟩:∃q,(m.th i).pc=q:=⟨_,rfl⟩;rw[b5] at H ac J cp;obtain⟨z,aF⟩:∃x,Yj (pc:Int)=x:=⟨_,rfl⟩;rw[aF] at H ac J;have z3:¬9223372036854775807<(bs (T++nm++[32,97,116,32])).size+(bs z).size:=EZ (by omega);have b3:bs (T++nm++[32,97,116,32])++bs z=bs (T++nm++[32,97,116,32]++z):=Bx _ _;have e6:(T++nm++[32,97,116,32]++z).length=T.length+nm.length+4+z.length:=by rw[Xb,e5]
      have I:T++nm++[32,97,116,32]++z++BX (m.th i).regs 4++[10]=TB++Cv (AD P) m (i+1):=by rw[H];simp
      have HV:Hid ((T++nm++[32,97,116,32]++z).length<=2000):=by show _<=2000;omega
      obtain⟨a,aj⟩:∃r,(m.th i).regs=r:=⟨_,rfl⟩;have a7:Hid (∀k,0<=a.getD k 0/\a.getD k 0<1000):=λk=>by rw[<-aj];exact Hj bb k
      rw[aj] at I;have bx:=Aa aj;generalize T++nm++[32,97,116,32]++z=V3 at *;generalize T++nm++[32,97,116,32]=O at *;generalize T++nm=V1 at *;have bm:=Aa A;have HT:=Aa D;have bP:=Aa (⟨I,D⟩:_/\_);clear hi D o y ad E ay h3 M R aE LA F hQ hT be b ak aJ H N A aC hp bb aO e5 e6 I Z cE ac b5 aF aj
      go_wp2_with fail
      refine J.mono ?_;rintro e w8 ⟨rfl,bZ⟩;have j:=Aa (⟨bP.out.1,bP.out.2,bm.out.trans (bZ.mono bm.out.size),trivial⟩:_/\_/\_/\True);clear J bZ bP bm cp cs ct q0 q1 q2 q3 s0 s1 s2 s3 s4 s5
      go_wp2_with fail
      go_loopw [5,9] (λtv kv wz=>∃k:Nat,k<=4/\kv = .int .i64 k/\tv = .string (bs (V3++BX a k))/\Xm W.heap.size W wz) (λ_ kv _=>4 - (intOf kv).toNat)
      case atStart=>exact⟨0,Xw _,rfl,by rw[show BX a 0=[] from rfl,Ye],j.out.2.2.1⟩
      case round=>
       obtain⟨k,aU,rfl,rfl,G⟩:=hrel;obtain⟨⟨q0,q1,q2,q3⟩,s0,s1,s2,s3,s4,s5⟩:=aG.out wr G;have a9:=JX a a7.out k
       by_cases ah:k<4
       ·obtain⟨o,y,-,-,-,-,M,R,-,-⟩:=HM.out;have F:=y.below G;obtain⟨rb,ro,er,-,cr⟩:=F.KV HT.out ah;subst er;have Q:=a7.out k;rw[bx.out] at cr;have bD:=F.lr;obtain⟨kk,aI⟩:∃q,i*4+k=q:=⟨_,rfl⟩;obtain⟨U,aK⟩:∃q,i*4=q:=⟨_,rfl⟩;rw[aI] at cr;have aP:=HT.out;have b7:(kk:Int)<(nr:Int):=by omega
        have b8:(k:Int)<4:=by omega
        have aX:Hid (XO ((i:Int)*4)=(U:Int)):=by show XO ((i:Int)*4)=(U:Int);rw[<-aK];have:=Ct (n:=i*4) (by omega);push_cast at this |-;exact this
        have a6:Hid (XO ((U:Int)+(k:Int))=(kk:Int)):=by show XO ((U:Int)+(k:Int))=(kk:Int);rw[<-aI,aK];have:=Ct (n:=U+k) (by omega);push_cast at this |-;exact this
        have b:=JW a k;have ac:=DB Q.1 Q.2;have J:=HI.out wr G (a.getD k 0) (by have:=Q.1;omega) (by have:=Q.2;omega);obtain⟨rv,aT⟩:∃v,a.getD k 0=v:=⟨_,rfl⟩;rw[aT] at cr b ac J;obtain⟨z,aF⟩:∃x,Yj rv=x:=⟨_,rfl⟩;rw[aF] at b ac J;obtain⟨Y,c⟩:∃Y,V3++BX a k=Y:=⟨_,rfl⟩;have aL:Y.length<=4000:=by rw[<-c,Xb];have:=HV.out;omega
        have z1:¬9223372036854775807<(bs Y).size+1:=Dn (by omega);have b1:bs Y++⟨#[32]⟩=bs (Y++[32]):=Bx _ [32];have N:(Y++[32]).length=Y.length+1:=by rw[Xb];rfl
        have z2:¬9223372036854775807<(bs (Y++[32])).size+(bs z).size:=EZ (by omega);have b2:bs (Y++[32])++bs z=bs (Y++[32]++z):=Bx _ _;have V:Y++[32]++z=V3++BX a (k+1):=by rw[b,<-c];simp
        generalize Y++[32]++z=Y2 at *;generalize Y++[32]=Y1 at *;have a8:XO ((k:Int)+1)=(k:Int)+1:=Ia (by omega);have cj:=aX.out;have ck:=a6.out;clear aX a6;have s:=Aa (⟨V,ah,G⟩:_/\_/\_);rw[c];clear aU ah o y M R F Q bD aI aK aP b a9 ac aT aF c aL N V G q0 q1 q2 q3 s0 s1 s2 s3 s4
        go_wp2_with fail
        refine J.mono ?_;rintro e w9 ⟨rfl,ba⟩;have bt:=Aa (s.out.2.2.trans (ba.mono s.out.2.2.size));clear J ba cr s5
        go_wp2_with fail
        go_roundw
        case rel=>
         (try rw[a8])
         exact⟨k+1,s.out.2.1,rfl,by rw[s.out.1],bt.out⟩
        case measure=>
         (try rw[a8])
         exact Xl s.out.2.1 (Xn k)
       ·have bu:k=4:=by omega
        subst bu;obtain⟨Y,c⟩:∃Y,V3++BX a 4=Y:=⟨_,rfl⟩;have aL:Y.length<=4000:=by rw[<-c,Xb];have:=HV.out;omega
        have z1:¬9223372036854775807<(bs Y).size+1:=Dn (by omega);have b1:bs Y++⟨#[10]⟩=bs (Y++[10]):=Bx _ [10];have V:Y++[10]=TB++Cv (AD P) m (i+1):=by rw[<-c];exact j.out.1
        generalize Y++[10]=Y1 at *;rw[c];have s:=Aa (⟨V,G⟩:_/\_);clear aU ah c a9 aL V G q0 q1 q2 q3 s0 s1 s2 s3 s4 s5;have X:=bJ.out
        go_wp2_with fail
        go_roundw
        case rel=>
         (try rw[X])
         exact⟨i+1,j.out.2.1,rfl,by rw[s.out.1],s.out.2⟩
        case measure=>
         (try rw[X])
         exact Xl j.out.2.1 (Xn i)
     ·rw[Ve Z] at H;have z2:¬9223372036854775807<(bs (T++nm)).size+6:=Dn (by omega);have b2:bs (T++nm)++⟨#[32,101,110,100,101,100]⟩=bs (T++nm++[32,101,110,100,101,100]):=Bx _ [32,101,110,100,101,100];have e5:(T++nm++[32,101,110,100,101,100]).length=T.length+nm.length+6:=by rw[Xb,N];rfl
      rw[Z] at cs;have I:T++nm++[32,101,110,100,101,100]++BX (m.th i).regs 4++[10]=TB++Cv (AD P) m (i+1):=by rw[H];simp
      have HV:Hid ((T++nm++[32,101,110,100,101,100]).length<=2000):=by show _<=2000;omega
      obtain⟨a,aj⟩:∃r,(m.th i).regs=r:=⟨_,rfl⟩;have a7:Hid (∀k,0<=a.getD k 0/\a.getD k 0<1000):=λk=>by rw[<-aj];exact Hj bb k
      rw[aj] at I;have bx:=Aa aj;generalize T++nm++[32,101,110,100,101,100]=O at *;generalize T++nm=V1 at *;have HT:=Aa D;have j:=Aa (⟨I,D,A,trivial⟩:_/\_/\_/\True);clear hi D o y ad E ay h3 M R aE LA F hQ hT be b ak aJ H N A aC hp bb aO e5 I Z aj cp
      go_wp2_with fail
      clear cs ct q0 q1 q2 q3 s0 s1 s2 s3 s4 s5
      go_loopw [5,9] (λtv kv wz=>∃k:Nat,k<=4/\kv = .int .i64 k/\tv = .string (bs (O++BX a k))/\Xm W.heap.size W wz) (λ_ kv _=>4 - (intOf kv).toNat)
      case atStart=>exact⟨0,Xw _,rfl,by rw[show BX a 0=[] from rfl,Ye],j.out.2.2.1⟩
      case round=>
       obtain⟨k,aU,rfl,rfl,G⟩:=hrel;obtain⟨⟨q0,q1,q2,q3⟩,s0,s1,s2,s3,s4,s5⟩:=aG.out wr G;have a9:=JX a a7.out k
       by_cases ah:k<4
       ·obtain⟨o,y,-,-,-,-,M,R,-,-⟩:=HM.out;have F:=y.below G;obtain⟨rb,ro,er,-,cr⟩:=F.KV HT.out ah;subst er;have Q:=a7.out k;rw[bx.out] at cr;have bD:=F.lr;obtain⟨kk,aI⟩:∃q,i*4+k=q:=⟨_,rfl⟩;obtain⟨U,aK⟩:∃q,i*4=q:=⟨_,rfl⟩;rw[aI] at cr;have aP:=HT.out;have b7:(kk:Int)<(nr:Int):=by omega
        have b8:(k:Int)<4:=by omega
        have aX:Hid (XO ((i:Int)*4)=(U:Int)):=by show XO ((i:Int)*4)=(U:Int);rw[<-aK];have:=Ct (n:=i*4) (by omega);push_cast at this |-;exact this
        have a6:Hid (XO ((U:Int)+(k:Int))=(kk:Int)):=by show XO ((U:Int)+(k:Int))=(kk:Int);rw[<-aI,aK];have:=Ct (n:=U+k) (by omega);push_cast at this |-;exact this
        have b:=JW a k;have ac:=DB Q.1 Q.2;have J:=HI.out wr G (a.getD k 0) (by have:=Q.1;omega) (by have:=Q.2;omega);obtain⟨rv,aT⟩:∃v,a.getD k 0=v:=⟨_,rfl⟩;rw[aT] at cr b ac J;obtain⟨z,aF⟩:∃x,Yj rv=x:=⟨_,rfl⟩;rw[aF] at b ac J;obtain⟨Y,c⟩:∃Y,O++BX a k=Y:=⟨_,rfl⟩;have aL:Y.length<=4000:=by rw[<-c,Xb];have:=HV.out;omega
        have z1:¬9223372036854775807<(bs Y).size+1:=Dn (by omega);have b1:bs Y++⟨#[32]⟩=bs (Y++[32]):=Bx _ [32];have N:(Y++[32]).length=Y.length+1:=by rw[Xb];rfl
        have z2:¬9223372036854775807<(bs (Y++[32])).size+(bs z).size:=EZ (by omega);have b2:bs (Y++[32])++bs z=bs (Y++[32]++z):=Bx _ _;have V:Y++[32]++z=O++BX a (k+1):=by rw[b,<-c];simp
        generalize Y++[32]++z=Y2 at *;generalize Y++[32]=Y1 at *;have a8:XO ((k:Int)+1)=(k:Int)+1:=Ia (by omega);have cj:=aX.out;have ck:=a6.out;clear aX a6;have s:=Aa (⟨V,ah,G⟩:_/\_/\_);rw[c];clear aU ah o y M R F Q bD aI aK aP b a9 ac aT aF c aL N V G q0 q1 q2 q3 s0 s1 s2 s3 s4
        go_wp2_with fail
        refine J.mono ?_;rintro e w9 ⟨rfl,ba⟩;have bt:=Aa (s.out.2.2.trans (ba.mono s.out.2.2.size));clear J ba cr s5
        go_wp2_with fail
        go_roundw
        case rel=>
         (try rw[a8])
         exact⟨k+1,s.out.2.1,rfl,by rw[s.out.1],bt.out⟩
        case measure=>
         (try rw[a8])
         exact Xl s.out.2.1 (Xn k)
       ·have bu:k=4:=by omega
        subst bu;obtain⟨Y,c⟩:∃Y,O++BX a 4=Y:=⟨_,rfl⟩;have aL:Y.length<=4000:=by rw[<-c,Xb];have:=HV.out;omega
        have z1:¬9223372036854775807<(bs Y).size+1:=Dn (by omega);have b1:bs Y++⟨#[10]⟩=bs (Y++[10]):=Bx _ [10];have V:Y++[10]=TB++Cv (AD P) m (i+1):=by rw[<-c];exact j.out.1
        generalize Y++[10]=Y1 at *;rw[c];have s:=Aa (⟨V,G⟩:_/\_);clear aU ah c a9 aL V G q0 q1 q2 q3 s0 s1 s2 s3 s4 s5;have X:=bJ.out
        go_wp2_with fail
        go_roundw
        case rel=>
         (try rw[X])
         exact⟨i+1,j.out.2.1,rfl,by rw[s.out.1],s.out.2⟩
        case measure=>
         (try rw[X])
         exact Xl j.out.2.1 (Xn i)
     ·rw[Vd Z] at H;have z2:¬9223372036854775807<(bs (T++nm)).size+7:=Dn (by omega);have b2:bs (T++nm)++⟨#[32,102,97,105,108,101,100]⟩=bs (T++nm++[32,102,97,105,108,101,100]):=Bx _ [32,102,97,105,108,101,100];have e5:(T++nm++[32,102,97,105,108,101,100]).length=T.length+nm.length+7:=by rw[Xb,N];rfl
      rw[Z] at cs;have I:T++nm++[32,102,97,105,108,101,100]++BX (m.th i).regs 4++[10]=TB++Cv (AD P) m (i+1):=by rw[H];simp
      have HV:Hid ((T++nm++[32,102,97,105,108,101,100]).length<=2000):=by show _<=2000;omega
      obtain⟨a,aj⟩:∃r,(m.th i).regs=r:=⟨_,rfl⟩;have a7:Hid (∀k,0<=a.getD k 0/\a.getD k 0<1000):=λk=>by rw[<-aj];exact Hj bb k
      rw[aj] at I;have bx:=Aa aj;generalize T++nm++[32,102,97,105,108,101,100]=O at *;generalize T++nm=V1 at *;have HT:=Aa D;have j:=Aa (⟨I,D,A,trivial⟩:_/\_/\_/\True);clear hi D o y ad E ay h3 M R aE LA F hQ hT be b ak aJ H N A aC hp bb aO e5 I Z aj cp
      go_wp2_with fail
      clear cs ct q0 q1 q2 q3 s0 s1 s2 s3 s4 s5
      go_loopw [5,9] (λtv kv wz=>∃k:Nat,k<=4/\kv = .int .i64 k/\tv = .string (bs (O++BX a k))/\Xm W.heap.size W wz) (λ_ kv _=>4 - (intOf kv).toNat)
      case atStart=>exact⟨0,Xw _,rfl,by rw[show BX a 0=[] from rfl,Ye],j.out.2.2.1⟩
      case round=>
       obtain⟨k,aU,rfl,rfl,G⟩:=hrel;obtain⟨⟨q0,q1,q2,q3⟩,s0,s1,s2,s3,s4,s5⟩:=aG.out wr G;have a9:=JX a a7.out k
       by_cases ah:k<4
       ·obtain⟨o,y,-,-,-,-,M,R,-,-⟩:=HM.out;have F:=y.below G;obtain⟨rb,ro,er,-,cr⟩:=F.KV HT.out ah;subst er;have Q:=a7.out k;rw[bx.out] at cr;have bD:=F.lr;obtain⟨kk,aI⟩:∃q,i*4+k=q:=⟨_,rfl⟩;obtain⟨U,aK⟩:∃q,i*4=q:=⟨_,rfl⟩;rw[aI] at cr;have aP:=HT.out;have b7:(kk:Int)<(nr:Int):=by omega
        have b8:(k:Int)<4:=by omega
        have aX:Hid (XO ((i:Int)*4)=(U:Int)):=by show XO ((i:Int)*4)=(U:Int);rw[<-aK];have:=Ct (n:=i*4) (by omega);push_cast at this |-;exact this
        have a6:Hid (XO ((U:Int)+(k:Int))=(kk:Int)):=by show XO ((U:Int)+(k:Int))=(kk:Int);rw[<-aI,aK];have:=Ct (n:=U+k) (by omega);push_cast at this |-;exact this
        have b:=JW a k;have ac:=DB Q.1 Q.2;have J:=HI.out wr G (a.getD k 0) (by have:=Q.1;omega) (by have:=Q.2;omega);obtain⟨rv,aT⟩:∃v,a.getD k 0=v:=⟨_,rfl⟩;rw[aT] at cr b ac J;obtain⟨z,aF⟩:∃x,Yj rv=x:=⟨_,rfl⟩;rw[aF] at b ac J;obtain⟨Y,c⟩:∃Y,O++BX a k=Y:=⟨_,rfl⟩;have aL:Y.length<=4000:=by rw[<-c,Xb];have:=HV.out;omega
        have z1:¬9223372036854775807<(bs Y).size+1:=Dn (by omega);have b1:bs Y++⟨#[32]⟩=bs (Y++[32]):=Bx _ [32];have N:(Y++[32]).length=Y.length+1:=by rw[Xb];rfl
        have z2:¬9223372036854775807<(bs (Y++[32])).size+(bs z).size:=EZ (by omega);have b2:bs (Y++[32])++bs z=bs (Y++[32]++z):=Bx _ _;have V:Y++[32]++z=O++BX a (k+1):=by rw[b,<-c];simp
        generalize Y++[32]++z=Y2 at *;generalize Y++[32]=Y1 at *;have a8:XO ((k:Int)+1)=(k:Int)+1:=Ia (by omega);have cj:=aX.out;have ck:=a6.out;clear aX a6;have s:=Aa (⟨V,ah,G⟩:_/\_/\_);rw[c];clear aU ah o y M R F Q bD aI aK aP b a9 ac aT aF c aL N V G q0 q1 q2 q3 s0 s1 s2 s3 s4
        go_wp2_with fail
        refine J.mono ?_;rintro e w9 ⟨rfl,ba⟩;have bt:=Aa (s.out.2.2.trans (ba.mono s.out.2.2.size));clear J ba cr s5
        go_wp2_with fail
        go_roundw
        case rel=>
         (try rw[a8])
         exact⟨k+1,s.out.2.1,rfl,by rw[s.out.1],bt.out⟩
        case measure=>
         (try rw[a8])
         exact Xl s.out.2.1 (Xn k)
       ·have bu:k=4:=by omega
        subst bu;obtain⟨Y,c⟩:∃Y,O++BX a 4=Y:=⟨_,rfl⟩;have aL:Y.length<=4000:=by rw[<-c,Xb];have:=HV.out;omega
        have z1:¬9223372036854775807<(bs Y).size+1:=Dn (by omega);have b1:bs Y++⟨#[10]⟩=bs (Y++[10]):=Bx _ [10];have V:Y++[10]=TB++Cv (AD P) m (i+1):=by rw[<-c];exact j.out.1
        generalize Y++[10]=Y1 at *;rw[c];have s:=Aa (⟨V,G⟩:_/\_);clear aU ah c a9 aL V G q0 q1 q2 q3 s0 s1 s2 s3 s4 s5;have X:=bJ.out
        go_wp2_with fail
        go_roundw
        case rel=>
         (try rw[X])
         exact⟨i+1,j.out.2.1,rfl,by rw[s.out.1],s.out.2⟩
        case measure=>
         (try rw[X])
         exact Xl j.out.2.1 (Xn i)
    ·have aP:i=nt:=by omega
     subst aP;have HF:=Aa (HB.out.trans (A.mono HB.out.size));clear hi D A HI HM
     go_wp2_with fail
     go_ret
     exact⟨by rw[cC.out];rfl,HF.out⟩
end
section
variable {w w':Xh} {a0 a1 a2 a3 a4 a5:Option Addr} {nv nf nl nt nr:Nat} {m:MS} {P:RP} {TV:List (Xk×Xk)} {x1 x2 x3 x4:Option Addr} {y1 y2 y3 z1 z2 z3 z4:Nat}
theorem MI {c0 c1 c2 c3 c4 c5:Nat} (N:DM w (.slice x1 y1 z1) (.slice x2 y2 z2) (.slice x3 y3 z3) (.slice x4 nt z4) P TV) (B:P.thr.length=nt) (h:Cl w a0 a1 a2 a3 a4 a5 nv nf nl nt nr m) (Q:AZ nv nf nl (Ai P) m) (A:Ej nv nf nl (Ai P)) :
 Calls Tryz.prog 33 #[.agg #[.slice x1 y1 z1,.slice x2 y2 z2,.slice x3 y3 z3,.slice x4 nt z4],.agg #[.slice a0 nv c0,.slice a1 nf c1,.slice a2 nl c2,.slice a3 nt c3,.slice a4 nt c4,.slice a5 nr c5]] w λe w'=>∃v,e = .returned v/\w'.ownsRow w.heap.size 3 1 v (AG (Ai P) m).length ((AG (Ai P) m).map Cq)/\Xm w.heap.size w w':=by
 obtain⟨W,F⟩:∃W,(w.alloc (.cells #[.slice x1 y1 z1,.slice x2 y2 z2,.slice x3 y3 z3,.slice x4 nt z4] 28)).alloc (.cells #[.slice a0 nv c0,.slice a1 nf c1,.slice a2 nl c2,.slice a3 nt c3,.slice a4 nt c4,.slice a5 nr c5] 92)=W:=⟨_,rfl⟩;obtain⟨a,T,O,S⟩:=FK _ _ _ F;have G:=Aa (⟨a,S⟩:_/\_);have ap:(Ai P).length=nt:=by unfold Ai;rw[Xp];exact B
 have K:nt<=4:=by have:=A.four;omega
 have s:=Aa (fun(u:Xh) (n:Xm W.heap.size W u) (t:Int)=>aeE (c0:=c0) (c1:=c1) (c2:=c2) (c3:=c3) (c4:=c4) (c5:=c5) ((N.below a).below n) B ((h.below a).below n) Q A t);have I:m.thr.length=nt:=h.lt;unfold AG;rw[I];have aq:Hid (∀u,Xm W.heap.size W u->(u.cell? ⟨w.heap.size,0,none⟩=some (.slice x1 y1 z1)/\u.cell? ⟨w.heap.size,1,none⟩=some (.slice x2 y2 z2)/\u.cell? ⟨w.heap.size,2,none⟩=some (.slice x3 y3 z3)/\u.cell? ⟨w.heap.size,3,none⟩=some (.slice x4 nt z4))/\u.cell? ⟨w.heap.size+1,0,none⟩=some (.slice a0 nv c0)/\u.cell? ⟨w.heap.size+1,1,none⟩=some (.slice a1 nf c1)/\u.cell? ⟨w.heap.size+1,2,none⟩=some (.slice a2 nl c2)/\u.cell? ⟨w.heap.size+1,3,none⟩=some (.slice a3 nt c3)/\u.cell? ⟨w.heap.size+1,4,none⟩=some (.slice a4 nt c4)/\u.cell? ⟨w.heap.size+1,5,none⟩=some (.slice a5 nr c5)):=λu n=>⟨BK ((n.block _ (by omega)).trans T),Br ((n.block _ (by omega)).trans O)⟩
 clear a T O S N B h Q A ap I;obtain⟨C,R⟩:∃C,Ai P=C:=⟨_,rfl⟩;simp only[R] at s |-;clear R
 go_enter Tryz.func33,Tryz.ntmps33
 go_upto_region 1 with fail
 try rw[F]
 clear F
 go_wp2_with fail
 go_loopw [5,6] (λlv H wr=>∃i:Nat,i<=nt/\H = .int .i64 i/\wr.ownsRow W.heap.size 3 1 lv (Dz C m i).length ((Dz C m i).map Cq)/\Xm W.heap.size W wr) (λ_ H _=>nt - (intOf H).toNat)
 case atStart=>exact⟨0,Xw _,rfl,World.ownsRow_nil _ _ _ _,Below.refl _ _⟩
 case round=>
  obtain⟨i,M,rfl,c,a⟩:=hrel;have j:=Jh C m i;have k:=Aa (QM C m i);obtain⟨l,f⟩:∃l,Dz C m i=l:=⟨_,rfl⟩;rw[f] at c j k;replace f:=Aa f;obtain⟨la,lc,rfl⟩:=At c;obtain⟨⟨q0,q1,q2,q3⟩,Y,s1,s2,s3,s4,s5⟩:=aq.out wr a
  by_cases d:i<nt
  ·have av:(i:Int)<(nt:Int):=by omega
   have y:XO ((i:Int)+1)=(i:Int)+1:=by unfold XO;omega
   have z:=s.out wr a i;obtain⟨r,J⟩:∃r,AO C m (i:Int)=r:=⟨_,rfl⟩;rw[J] at z k;have V:=Aa (⟨c,a,d,j⟩:_/\_/\_/\_);have aa:=Aa K;clear c a d M f J j s K
   go_wp2_with fail
   refine z.mono ?_;rintro e w2 ⟨rfl,E⟩;obtain⟨c,a,d,j⟩:=V.out;have q:w2.ownsRow W.heap.size 3 1 (.slice la l.length lc) l.length (l.map Cq):=BA c λg e=>E.block g (c.lt g e).2;have o:=a.trans (E.mono a.size);have D:=o.size;clear c a V z E q0 q1 q2 q3 Y s1 s2 s3 s4 s5
   by_cases x:r=0
   ·subst x;obtain⟨g,cap,w3,af,U,X⟩:=NH q (i:Int) (by have:=aa.out;omega) D;have p:Dz C m (i+1)=l++[(i:Int)]:=by rw[k.out,if_pos rfl]
    have b:=Aa (⟨U,o.trans (X _ (Xd _)),d,p⟩:_/\_/\_/\_);clear p;clear q o U X D d j k
    go_wp2_with (at_builtin;refine Dm rfl _ _ _ rfl rfl rfl rfl af ?_)
    go_roundw
    case rel=>
     (try rw[y])
     refine⟨i+1,b.out.2.2.1,rfl,?_,b.out.2.1⟩;rw[b.out.2.2.2];exact b.out.1
    case measure=>
     (try rw[y])
     exact Xl b.out.2.2.1 (Xn i)
   ·have aw:(r == 0)=false:=by simpa using x
    have p:Dz C m (i+1)=l:=by rw[k.out,if_neg x]
    have b:=Aa (⟨q,o,d,p⟩:_/\_/\_/\_);clear p;clear q o D d j k x
    go_wp2_with fail
    go_roundw
    case rel=>
     (try rw[y])
     refine⟨i+1,b.out.2.2.1,rfl,?_,b.out.2.1⟩;rw[b.out.2.2.2];exact b.out.1
    case measure=>
     (try rw[y])
     exact Xl b.out.2.2.1 (Xn i)
  ·have Z:i=nt:=by omega
   subst Z;have b:=Aa (⟨f,c,a⟩:_/\_/\_);clear c a M d s k j f
   go_wp2_with fail
   go_ret
   obtain⟨f,c,a⟩:=b.out;refine⟨_,rfl,?_,G.out.1.trans (a.mono G.out.1.size)⟩;rw[f.out];exact Dt c (by have:=G.out.2;omega)
end
section
variable {S:Type} {key:S->Tx} {succ:S->List S} {most n i:Nat} {ms:List S} {m:S} {res:Option (List S)}
theorem adV (a:0<n) (h:Cr key succ most n ms ms.length=res):res=some ms:=by
 cases n with
 |zero=>cases a
 |succ n=>
  unfold Cr at h;rw[XU (Xd _)] at h;exact h.symm
theorem adT (b:0<n) (a:ms[i]?=some m) (c:(DI key succ ms m).length<=most) (h:Cr key succ most n ms i=res):Cr key succ most (n - 1) (DI key succ ms m) (i+1)=res:=by
 cases n with
 |zero=>cases b
 |succ n=>
  unfold Cr at h;rw[a] at h;dsimp only at h;rw[if_neg (by omega)] at h;exact h
theorem adU (b:ms[i]?=some m) (a:most<(DI key succ ms m).length) (h:Cr key succ most n ms i=res):res=none:=by
 cases n with
 |zero=>exact h.symm
 |succ n=>
  unfold Cr at h;rw[b] at h;dsimp only at h;rw[if_pos a] at h;exact h.symm
end
def Fc (p:PD) (ms:List MS) (m:MS) (rl:List Int) (k:Nat):List MS:=((rl.take k).map λt=>(Ay true p.C m t).1).foldl (DV (Aj p)) ms
theorem aaW {p:PD} {ms:List MS} {m:MS} {a:List Int} {k:Nat} {t:Int} (h:a[k]?=some t):Fc p ms m a (k+1)=DV (Aj p) (Fc p ms m a k) (Ay true p.C m t).1:=by
 unfold Fc;rw[List.take_add_one,h,XI,Y0]
 rfl
theorem Lj {p:PD} {ms:List MS} {m:MS} {a:List Int} (h:AG p.C m=a) {k:Nat} (b:a.length<=k):Fc p ms m a k=DI (Aj p) (BC true p.C) ms m:=by
 unfold Fc DI BC;rw[List.take_of_length_le b,h]
theorem aaY {p:PD} {ms:List MS} {m:MS} {a:List Int} (h:AG p.C m=a) (k:Nat):(Fc p ms m a k).length<=(DI (Aj p) (BC true p.C) ms m).length:=by
 rw[<-Lj h (Xd a.length)]
 by_cases b:a.length<=k
 ·rw[Lj h b,Lj h (Xd _)];exact Xd _
 ·unfold Fc;have e:a.take a.length=a.take k++a.drop k:=by rw[List.take_length,List.take_append_drop]
  rw[e,XI,Y0];exact adr _ _
theorem aaX (p:PD) (ms:List MS) (m:MS) (a:List Int) (k:Nat):∃r,Fc p ms m a k=ms++r:=LD _ _
theorem adf {nv nf nl:Nat} {C:List (List Ad)} {m:MS} {t:Int} (a:Ej nv nf nl C) (h:AZ nv nf nl C m) (b:AO C m t=0):AZ nv nf nl C (Ay true C m t).1:=by
 obtain⟨u,rfl,c,f,d,e⟩:=Gq a h b;unfold Ay;rw[Int.toNat_natCast];exact JN true h c f d e
structure GT (W0:Xh) (base sb:Nat) (d:D5) (p:PD) (wr:Xh) (av:Xk) (ms:List MS) (most:Nat):Prop where
 all:∃S,Dw wr base d av S ms
 seen:Fm wr base sb (ms.map (Aj p))
 bel:Xm base W0 wr
 le:ms.length<=most
 ok:∀m,m∈ms->AZ d.nv d.nf d.nl p.C m
section
variable {W0 wr wr':Xh} {base sb most:Nat} {d:D5} {p:PD} {av:Xk} {ms:List MS}
theorem Fm.below {w w':Xh} {b:List Tx} (h:Fm w base sb b) (a:Xm w.heap.size w w'):Fm w' base sb b:=by
 rcases h with⟨c,e,d⟩|⟨g,f,L,h⟩
 ·exact .inl ⟨(a.block _ (Array.getElem?_eq_some_iff.1 c).1).trans c,e,d⟩
 ·exact .inr ⟨g,f,L,h.below a⟩
theorem Fm.keep {w w':Xh} {a:List Tx} (h:Fm w base sb a) (c:∀(b:Nat) (cs:Array Xk) (T:Nat),w.heap[b]?=some (.cells cs T)->T≠92->w'.heap[b]?=w.heap[b]?):Fm w' base sb a:=by
 rcases h with⟨d,i,e⟩|⟨g,f,L,h⟩
 ·exact .inl ⟨(c _ _ _ d (by decide)).trans d,i,e⟩
 ·exact .inr ⟨g,f,L,h.keep c⟩
theorem GT.below (h:GT W0 base sb d p wr av ms most) (c:base<=W0.heap.size) (a:Xm wr.heap.size wr wr'):GT W0 base sb d p wr' av ms most:=by
 obtain⟨S,b⟩:=h.all
 exact⟨⟨S,b.below a⟩,h.seen.below a,h.bel.trans (a.mono (by have:=h.bel.size;omega)),h.le,h.ok⟩
end
end Go.Proofs.YtdcacoifehkioaaGreatDoor
