import Derived.Test.YtdcacoifehkioaaGreatDoorExH3
import Derived.Test.YtdcacoifehkioaaGreatDoorExH30
import Derived.Test.YtdcacoifehkioaaGreatDoorExH29
import Derived.Test.YtdcacoifehkioaaGreatDoorExH26
import Derived.Test.YtdcacoifehkioaaGreatDoorExH20
import Derived.Test.YtdcacoifehkioaaGreatDoorExH24
open Go.Lib renaming join->YI,itoa->Yj
open Nat renaming le_refl->Xd,le_trans->Xu,zero_le->Xw,sub_lt_sub_left->Xl,lt_succ_self->Xn,zero_add->XE
open List renaming length_append->Xb,getElem?_map->Xs,getElem?_range->Zr,mem_map->Yx,length_take->X5,append_nil->Ye,append_assoc->XZ,length_map->Xp,take_of_length_le->XM,take_add_one->Yh,getElem?_eq_getElem->Xe,mem_of_getElem?->XA,getD_eq_getElem?_getD->Xc,drop_length->agd
open Go renaming World->Xh,Addr->YZ,Value->Xk,Calls->XX,wp_region_held_drew->Xx,wpAnyH_done->Yd
open Go.RowKit renaming Below->Xm,wrap64->XO
open Go.RowKit.Below renaming refl->Xq
open Go.Act renaming put->XF
open Bool renaming or_false->Zh,and_false->agI
open Go.Value renaming string->Yn,slice->Yq
open Go.Ending renaming returned->YG
set_option maxRecDepth 100000
set_option maxHeartbeats 4000000
set_option linter.unusedVariables false
set_option linter.unusedSimpArgs false
namespace Go.Proofs.YtdcacoifehkioaaGreatDoor
open Go.RowKit Go.Shelf Go.Proofs.Cod
theorem Su {l:List Tx} {i:Nat} {x:Tx} (h:l[i]?=some x):YI (l.take (i+1)) [32]=(if 0<i then YI (l.take i) [32]++[32] else [])++x:=by
 by_cases e:0<i
 ·rw[if_pos e,acn e h]
 ·have:i=0:=by omega
  subst this;rw[if_neg e,aco h];rfl
theorem NR:∀(l:List Tx),(∀x,x∈l->x.length<=30)->(l.flatMap (λx=>x++[10])).length<=l.length*31
 |[],_=>Xd _
 |a::l,h=>by
  have c:=h a (List.mem_cons_self ..);have d:=NR l λx b=>h x (List.mem_cons_of_mem _ b);rw[List.flatMap_cons,Xb,Xb];show a.length+1+_<=(l.length+1)*31
  omega
theorem aaS {p:PD} {m:MS} {i:Nat} (h:i<p.vs.length):(AW p m)[i]?=some (p.vs.getD i []++[61]++Yj (m.vars.getD i 0)):=by
 unfold AW;rw[List.getElem?_append_left (by rw[Kg];exact h)];unfold GD Kh;rw[Xs,Zr h]
 rfl
theorem aaT {p:PD} {m:MS} {k:Nat} (h:k<p.fs.length):(AW p m)[p.vs.length+k]?=some (p.fs.getD k []++[61]++Yj (m.flags.getD k 0)):=by
 unfold AW;rw[List.getElem?_append_right (by rw[Kg];omega),Kg,Nat.add_sub_cancel_left];unfold GD Kh;rw[Xs,Zr h]
 rfl
theorem Na {p:PD} {m:MS} (b:DX p) (d:∀k,Cu (m.vars.getD k 0)) (c:∀k,Cu (m.flags.getD k 0)):∀x,x∈AW p m->x.length<=30/\x≠[]:=by
 intro x a;unfold AW GD Kh at a;rw[List.mem_append,Yx,Yx] at a
 rcases a with⟨k,-,rfl⟩|⟨k,-,rfl⟩
 ·have e:=b.v k;have g:=DB (d k).1 (d k).2;refine⟨?_,by simp⟩;rw[Xb,Xb];have:([61]:Tx).length=1:=rfl
  omega
 ·have e:=b.f k;have g:=DB (c k).1 (c k).2;refine⟨?_,by simp⟩;rw[Xb,Xb];have:([61]:Tx).length=1:=rfl
  omega
theorem Sy {l:List Tx} (h:∀x,x∈l->x.length<=30) (i:Nat):(YI (l.take i) [32]).length<=i*31:=by
 refine Xu (Kl _) (Xu (NR _ λx a=>h x (List.mem_of_mem_take a)) ?_);exact Nat.mul_le_mul_right 31 (by rw[X5];omega)
theorem Ro {p:PD} {m:MS} (h:¬0<Au m):Bl p m=YI (AW p m) [32]:=by unfold Bl;rw[if_neg h,Ye]
theorem Rn {p:PD} {m:MS} (h:0<Au m) (a:AW p m≠[]):Bl p m=YI (AW p m) [32]++[32,115,116,117,99,107]:=by
 unfold Bl;rw[if_pos h,Sv _ a,XZ]
 rfl
theorem Rp {p:PD} {m:MS} (h:0<Au m) (a:AW p m=[]):Bl p m=[115,116,117,99,107]:=by
 unfold Bl;rw[if_pos h,a];exact Lib.join_one _ _
section
variable {w w':Xh} {a0 a1 a2 a3 a4 a5:Option YZ} {nv nf nl nt nr:Nat} {m:MS} {P:RP} {TV:List (Xk×Xk)} {x1 x2 x3 x4:Option YZ} {z1 z2 z3 z4:Nat}
theorem WF {B:Nat} (ht:Ck w B) (hB:B<=w.heap.size) {c0 c1 c2 c3 c4 c5:Nat} (hQ:DM w (.slice x1 nv z1) (.slice x2 nf z2) (.slice x3 nl z3) (.slice x4 nt z4) P TV) (bv:P.thr.length=nt) (I:P.vs.length=nv) (R:P.fs.length=nf) (h3:P.ls.length=nl) (h:Cl w a0 a1 a2 a3 a4 a5 nv nf nl nt nr m) (hM:AZ nv nf nl (Ai P) m) (hf:Cs (AD P)) (hN:DX (AD P)) :
 XX Tryz.prog 36 #[.agg #[.slice x1 nv z1,.slice x2 nf z2,.slice x3 nl z3,.slice x4 nt z4],.agg #[.slice a0 nv c0,.slice a1 nf c1,.slice a2 nl c2,.slice a3 nt c3,.slice a4 nt c4,.slice a5 nr c5]] w λe w'=>e = .returned (.string (bs (Bl (AD P) m)))/\Xm w.heap.size w w':=by
 obtain⟨W,hW⟩:∃W,(w.alloc (.cells #[.slice x1 nv z1,.slice x2 nf z2,.slice x3 nl z3,.slice x4 nt z4] 28)).alloc (.cells #[.slice a0 nv c0,.slice a1 nf c1,.slice a2 nl c2,.slice a3 nt c3,.slice a4 nt c4,.slice a5 nr c5] 92)=W:=⟨_,rfl⟩;obtain⟨ay,k1,k2,hz⟩:=FK _ _ _ hW;have af:nv<=4:=by rw[<-I];exact hf.v
 have Y:nf<=4:=by rw[<-R];exact hf.f
 have bY:(Ai P).length=nt:=by unfold Ai;rw[Xp];exact bv
 have h4:nt<=4:=by have:=hf.fit.four;have e:(AD P).C.length=nt:=bY;omega
 have V:∀k,Cu (m.vars.getD k 0):=FJ hM.vv;have U:∀k,Cu (m.flags.getD k 0):=FJ hM.fv;have A:=Na (p:=AD P) hN V U;have bg:=hQ.below ay;have aB:=h.below ay;obtain⟨xv,ca,ev,ad⟩:=IH bg.v rfl;obtain⟨xf,b8,ef,ag⟩:=IH bg.f rfl;have bN:x1=xv:=by injection ev
 have bU:x2=xf:=by injection ef
 clear ev ef;subst bN bU;have HC:Hid (∀u,Xm W.heap.size W u->(u.cell? ⟨w.heap.size,0,none⟩=some (.slice x1 nv z1)/\u.cell? ⟨w.heap.size,1,none⟩=some (.slice x2 nf z2)/\u.cell? ⟨w.heap.size,2,none⟩=some (.slice x3 nl z3)/\u.cell? ⟨w.heap.size,3,none⟩=some (.slice x4 nt z4))/\u.cell? ⟨w.heap.size+1,0,none⟩=some (.slice a0 nv c0)/\u.cell? ⟨w.heap.size+1,1,none⟩=some (.slice a1 nf c1)/\u.cell? ⟨w.heap.size+1,2,none⟩=some (.slice a2 nl c2)/\u.cell? ⟨w.heap.size+1,3,none⟩=some (.slice a3 nt c3)/\u.cell? ⟨w.heap.size+1,4,none⟩=some (.slice a4 nt c4)/\u.cell? ⟨w.heap.size+1,5,none⟩=some (.slice a5 nr c5)):=λu l=>⟨BK ((l.block _ (by omega)).trans k1),Br ((l.block _ (by omega)).trans k2)⟩
 have HI:=Aa (λu (l:Xm W.heap.size W u) (x:Int) (h:Cu x)=>IP x (by have:=h.1;omega) (by have:=h.2;omega) u (ht.keep ((ay.mono hB).trans (l.mono (by have:=ay.size;omega)))));have HS:=Aa (λu (l:Xm W.heap.size W u)=>Qr (c0:=c0) (c1:=c1) (c2:=c2) (c3:=c3) (c4:=c4) (c5:=c5) (aB.below l) h4);have HB:=Aa ay;have aa:(AW (AD P) m).length=nv+nf:=by rw[IM];show P.vs.length+P.fs.length=_;rw[I,R]
 obtain⟨n,Q⟩:∃n,nv+nf=n:=⟨_,rfl⟩;have O:∀i,i<nv->(AW (AD P) m)[i]?=some (P.vs.getD i []++[61]++Yj (m.vars.getD i 0)):=λi hi=>aaS (p:=AD P) (by show i<P.vs.length;omega);have N:∀k,k<nf->(AW (AD P) m)[nv+k]?=some (P.fs.getD k []++[61]++Yj (m.flags.getD k 0)):=λk hk=>by rw[<-I];exact aaT (p:=AD P) (by show k<P.fs.length;omega)
 have d:=Ro (p:=AD P) (m:=m);have c:=Rn (p:=AD P) (m:=m);have g:=Rp (p:=AD P) (m:=m);have ab:∀k,(P.vs.getD k []).length<=8:=hN.v;have Z:∀k,(P.fs.getD k []).length<=8:=hN.f;have am:=aB.lv;have ai:=aB.lf;have ac:=aB.v;have X:=aB.f;obtain⟨ps,bc⟩:∃ps,AW (AD P) m=ps:=⟨_,rfl⟩;obtain⟨om,bz⟩:∃x,Bl (AD P) m=x:=⟨_,rfl⟩;rw[bc] at A aa d c g;simp only[bc] at O N;rw[bz] at d c g |-;have H:=Aa (⟨A,aa,Q,O,N,d,c,g,ab,Z,ad,ag,ac,X,V,U,am,ai,af,Y,I,R⟩:_/\_/\_/\_/\_/\_/\_/\_/\_/\_/\_/\_/\_/\_/\_/\_/\_/\_/\_/\_/\_/\_);clear A aa Q O N d c g ab Z ad ag ac X V U am ai af Y h4 bc bz bg aB ay k1 k2 hz hQ bv I R h3 h hM hf hN ht hB;have HW:Hid (XO ((nv:Int)+(nf:Int))=(n:Int)):=by
  obtain⟨-,-,Q,-,-,-,-,-,-,-,-,-,-,-,-,-,-,-,af,Y,-⟩:=H.out;have:=Ct (n:=nv+nf) (by omega);rw[<-Q]
  push_cast at this |-
  exact this
 go_enter Tryz.func36,Tryz.ntmps36
 go_upto_region 1 with fail
 try rw[hW]
 clear hW
 go_wp2_with fail
 go_loopw [5,6] (λtv iv wr=>∃i:Nat,i<=n/\iv = .int .i64 i/\tv = .string (bs (YI (ps.take i) [32]))/\Xm W.heap.size W wr) (λ_ iv _=>n - (intOf iv).toNat)
 case atStart=>exact⟨0,Xw _,rfl,rfl,Xq _ _⟩
 case round=>
  obtain⟨i,hi,rfl,rfl,t⟩:=hrel;obtain⟨⟨q0,q1,q2,q3⟩,s0,s1,s2,s3,s4,s5⟩:=HC.out wr t;obtain⟨A,aa,Q,O,N,d,c,g,ab,Z,ad,ag,ac,X,V,U,am,ai,af,Y,I,R⟩:=H.out;have r:=Sy (λx j=>(A x j).1) i
  by_cases h5:i<n
  ·have b9:(i:Int)<(n:Int):=by omega
   have a8:Hid (XO ((i:Int)+1)=(i:Int)+1):=by
    have:=Ct (n:=i+1) (by omega)
    push_cast at this
    exact this
   obtain⟨T,s⟩:∃T,YI (ps.take i) [32]=T:=⟨_,rfl⟩;obtain⟨a,aG⟩:∃x,(if 0<i then YI (ps.take i) [32]++[32] else [])=x:=⟨_,rfl⟩;have au:∀x,ps[i]?=some x->YI (ps.take (i+1)) [32]=a++x:=λx j=>by rw[Su j,aG]
   rw[s] at r |-;have aM:a.length<=300:=by
    rw[<-aG,s]
    by_cases e:0<i
    ·rw[if_pos e,Xb];show T.length+1<=300;omega
    ·rw[if_neg e];exact Xw _
   have HX:Hid ((0<i->T++[32]=a)/\(¬0<i->T=a)):=⟨λe=>by rw[<-aG,if_pos e,s],λe=>by
    have:i=0:=by omega
    subst this;rw[<-aG,if_neg e,<-s];rfl⟩
   have o:Xm W.heap.size W wr.drew:=t.trans ⟨rfl,rfl,rfl,Xd _,λ_ _=>rfl⟩;have HO:=Aa (⟨hi,h5,au,aM,o,r⟩:_/\_/\_/\_/\_/\_);clear hi h5 au aM o r s aG t A aa Q O N d c g ab Z ad ag ac X V U am ai af Y I R;have hw:=HW.out
   go_upto_if 21 with fail
   clear hw
   go_cut [5] (λtv wx=>tv = .string (bs a)/\wx=wr)
   case first=>
    by_cases e:0<i
    ·have M:(0:Int)<(i:Int):=by omega
     have z0:¬9223372036854775807<(bs T).size+1:=Dn (by have:=HO.out.2.2.2.2.2;have:=HO.out.1;have:=H.out.2.2.1;have:=H.out.2.2.2.2.2.2.2.2.2.2.2.2.2.2.2.2.2.2;omega);have z1:bs T++⟨#[32]⟩=bs a:=by rw[<-HX.out.1 e];exact Bx _ [32]
     clear e
     go_wp2_with fail
     go_meet
     exact⟨rfl,rfl⟩
    ·have e0:i=0:=by omega
     have y:=HX.out.2 e;subst e0;subst y;clear e
     go_wp2_with fail
     go_meet
     exact⟨rfl,rfl⟩
   case rest=>
    obtain⟨rfl,rfl⟩:=hcut;obtain⟨hi,h5,au,aM,o,r⟩:=HO.out;obtain⟨A,aa,Q,O,N,d,c,g,ab,Z,ad,ag,ac,X,V,U,am,ai,af,Y,I,R⟩:=H.out;have a6:Xm W.heap.size W wc:=⟨o.os,o.tape,o.output,o.size,o.block⟩
    by_cases e:i<nv
    ·have M:(i:Int)<(nv:Int):=by omega
     obtain⟨D,go,y,gl,ao⟩:=ad i (by omega);subst y;obtain⟨lb,z,e3,ll,aw⟩:=ac i (by omega);subst e3;have j:=au _ (O i e);have J:=V i;have aq:=DB J.1 J.2;have aP:=ab i;obtain⟨nm,aZ⟩:∃x,P.vs.getD i []=x:=⟨_,rfl⟩;obtain⟨lv,aY⟩:∃x,m.vars.getD i 0=x:=⟨_,rfl⟩;rw[aY] at J aq j aw;rw[aZ] at aP j ao;obtain⟨G,aI⟩:∃x,Yj lv=x:=⟨_,rfl⟩;have HD:Hid (∀u,Xm W.heap.size W u->u.cell? ⟨w.heap.size,0,none⟩=some (.slice (some ⟨D,go,none⟩) nv z1)/\u.cell? ⟨D,go+i,none⟩=some (.string (bs nm))/\u.cell? ⟨w.heap.size+1,0,none⟩=some (.slice (some ⟨lb,z,none⟩) nv c0)/\u.cell? ⟨lb,z+i,none⟩=some (.int .i64 lv)):=λu l=>⟨(HC.out u l).1.1,(l.cell (p:=⟨D,go+i,none⟩) gl).trans ao,(HC.out u l).2.1,(l.cell (p:=⟨lb,z+i,none⟩) ll).trans aw⟩
     have hI:=HI.out wc.drew o _ J;rw[aI] at hI aq j;have y1:¬9223372036854775807<(bs a).size+(bs nm).size:=EZ (by omega);have bJ:bs a++bs nm=bs (a++nm):=Bx _ _;have e4:(a++nm).length=a.length+nm.length:=Xb;have y2:¬9223372036854775807<(bs (a++nm)).size+1:=Dn (by omega);have bK:bs (a++nm)++⟨#[61]⟩=bs (a++nm++[61]):=Bx _ [61];have e5:(a++nm++[61]).length=a.length+nm.length+1:=by rw[Xb,e4];rfl
     have y3:¬9223372036854775807<(bs (a++nm++[61])).size+(bs G).size:=EZ (by omega);have bS:bs (a++nm++[61])++bs G=bs (a++nm++[61]++G):=Bx _ _;have hV:a++nm++[61]++G=YI (ps.take (i+1)) [32]:=by rw[j];simp
     generalize a++nm++[61]++G=V3 at *;generalize a++nm++[61]=V2 at *;generalize a++nm=V1 at *;have hS:=Aa (HD.out wc.drew o);have F:=Aa (⟨hV,h5,o⟩:_/\_/\_);obtain⟨t1,t2,t3,t4⟩:=HD.out wc a6;clear a6 hi h5 au aM r A aa Q O N d c g ab Z ad ag ac X V U am ai af Y I R gl ao ll aw j J aq aP aZ aY aI e4 e5 hV o e
     go_upto_region 8 with fail
     refine Xx (S:=(λu=>u.cell? ⟨w.heap.size,0,none⟩=some (.slice (some ⟨D,go,none⟩) nv z1)/\u.cell? ⟨D,go+i,none⟩=some (.string (bs nm))/\u.cell? ⟨w.heap.size+1,0,none⟩=some (.slice (some ⟨lb,z,none⟩) nv c0)/\u.cell? ⟨lb,z+i,none⟩=some (.int .i64 lv))) (by kernel_rfl) hS.out (λb=>?_);refine tk 0 b ?_;refine tk 1 b ?_;refine tk 2 b ?_;refine tk 3 b ?_;refine tk 4 b ?_;refine tk 5 b ?_;refine tk 6 b ?_;refine tk 7 b ?_;refine tk 8 b ?_;refine tk 9 b ?_;refine tk 10 b ?_;refine tk 11 b ?_;refine tk 12 b ?_;refine rd 13 (λK hK=>?_)
     go_simp
     go_at_call 72
     refine hI.mono ?_;rintro e w8 ⟨rfl,E⟩;replace E:Xm W.heap.size W w8:=F.out.2.2.trans (E.mono F.out.2.2.size);have q:=Aa (HD.out w8 E);have bq:=Aa E;clear E b t1 t2 t3 t4 hI q0 q1 q2 q3 s0 s1 s2 s3 s4 s5
     go_wp2_with fail
     refine hK.out _ _ q.out (λb=>?_);clear hK K
     try simp only[XF,sq]
     refine tk 14 b ?_;refine tk 15 b ?_;refine Yd (by kernel_rfl) ?_ _;clear b q
     go_wp2_with fail
     go_roundw
     case rel=>
      (try rw[a8.out])
      exact⟨i+1,F.out.2.1,rfl,by rw[F.out.1],bq.out⟩
     case measure=>
      (try rw[a8.out])
      exact Xl F.out.2.1 (Xn i)
    ·have M:¬(i:Int)<(nv:Int):=by omega
     obtain⟨k,hk⟩:∃k,i=nv+k:=⟨i - nv,by omega⟩;have bV:Hid (XO ((i:Int) - (nv:Int))=(k:Int)):=by
      have:=Ct (n:=k) (by omega);rw[show (i:Int) - (nv:Int)=(k:Int) by omega];exact this
     have hkn:(k:Int)<(nf:Int):=by omega
     obtain⟨D,go,y,gl,ao⟩:=ag k (by omega);subst y;obtain⟨lb,z,e3,ll,aw⟩:=X k (by omega);subst e3;have j:=au _ (by rw[hk];exact N k (by omega));have J:=U k;have aq:=DB J.1 J.2;have aP:=Z k;obtain⟨nm,aZ⟩:∃x,P.fs.getD k []=x:=⟨_,rfl⟩;obtain⟨lv,aY⟩:∃x,m.flags.getD k 0=x:=⟨_,rfl⟩;rw[aY] at J aq j aw;rw[aZ] at aP j ao;obtain⟨G,aI⟩:∃x,Yj lv=x:=⟨_,rfl⟩;have HD:Hid (∀u,Xm W.heap.size W u->u.cell? ⟨w.heap.size,1,none⟩=some (.slice (some ⟨D,go,none⟩) nf z2)/\u.cell? ⟨D,go+k,none⟩=some (.string (bs nm))/\u.cell? ⟨w.heap.size+1,1,none⟩=some (.slice (some ⟨lb,z,none⟩) nf c1)/\u.cell? ⟨lb,z+k,none⟩=some (.int .i64 lv)):=λu l=>⟨(HC.out u l).1.2.1,(l.cell (p:=⟨D,go+k,none⟩) gl).trans ao,(HC.out u l).2.2.1,(l.cell (p:=⟨lb,z+k,none⟩) ll).trans aw⟩
     have hI:=HI.out wc.drew o _ J;rw[aI] at hI aq j;have y1:¬9223372036854775807<(bs a).size+(bs nm).size:=EZ (by omega);have bJ:bs a++bs nm=bs (a++nm):=Bx _ _;have e4:(a++nm).length=a.length+nm.length:=Xb;have y2:¬9223372036854775807<(bs (a++nm)).size+1:=Dn (by omega);have bK:bs (a++nm)++⟨#[61]⟩=bs (a++nm++[61]):=Bx _ [61];have e5:(a++nm++[61]).length=a.length+nm.length+1:=by rw[Xb,e4];rfl
     have y3:¬9223372036854775807<(bs (a++nm++[61])).size+(bs G).size:=EZ (by omega);have bS:bs (a++nm++[61])++bs G=bs (a++nm++[61]++G):=Bx _ _;have hV:a++nm++[61]++G=YI (ps.take (i+1)) [32]:=by rw[j];simp
     generalize a++nm++[61]++G=V3 at *;generalize a++nm++[61]=V2 at *;generalize a++nm=V1 at *;have hS:=Aa (HD.out wc.drew o);have F:=Aa (⟨hV,h5,o⟩:_/\_/\_);obtain⟨t1,t2,t3,t4⟩:=HD.out wc a6;clear a6 hi h5 au aM r A aa Q O N d c g ab Z ad ag ac X V U am ai af Y I R gl ao ll aw j J aq aP aZ aY aI e4 e5 hV o e hk;have bE:=bV.out
     go_upto_region 10 with fail
     rw[bE];clear bE;refine Xx (S:=(λu=>u.cell? ⟨w.heap.size,1,none⟩=some (.slice (some ⟨D,go,none⟩) nf z2)/\u.cell? ⟨D,go+k,none⟩=some (.string (bs nm))/\u.cell? ⟨w.heap.size+1,1,none⟩=some (.slice (some ⟨lb,z,none⟩) nf c1)/\u.cell? ⟨lb,z+k,none⟩=some (.int .i64 lv))) (by kernel_rfl) hS.out (λb=>?_);refine tk 0 b ?_;refine tk 1 b ?_;refine tk 2 b ?_;refine tk 3 b ?_;refine tk 4 b ?_;refine tk 5 b ?_;refine tk 6 b ?_;refine tk 7 b ?_;refine tk 8 b ?_;refine tk 9 b ?_;refine tk 10 b ?_;refine tk 11 b ?_;refine tk 12 b ?_;refine rd 13 (λK hK=>?_)
     go_simp
     go_at_call 72
     refine hI.mono ?_;rintro e w8 ⟨rfl,E⟩;replace E:Xm W.heap.size W w8:=F.out.2.2.trans (E.mono F.out.2.2.size);have q:=Aa (HD.out w8 E);have bq:=Aa E;clear E b t1 t2 t3 t4 hI q0 q1 q2 q3 s0 s1 s2 s3 s4 s5
     go_wp2_with fail
     refine hK.out _ _ q.out (λb=>?_);clear hK K
     try simp only[XF,sq]
     refine tk 14 b ?_;refine tk 15 b ?_;refine Yd (by kernel_rfl) ?_ _;clear b q
     go_wp2_with fail
     go_roundw
     case rel=>
      (try rw[a8.out])
      exact⟨i+1,F.out.2.1,rfl,by rw[F.out.1],bq.out⟩
     case measure=>
      (try rw[a8.out])
      exact Xl F.out.2.1 (Xn i)
  ·have bI:i=n:=by omega
   subst bI;have bB:ps.take i=ps:=XM (by omega);rw[bB] at r |-;have aj:ps≠[]->YI ps [32]≠[]:=Sx λx j=>(A x j).2;obtain⟨T,s⟩:∃T,YI ps [32]=T:=⟨_,rfl⟩;rw[s] at r d c aj |-;have hS:=HS.out wr t;have aA:i<=8:=by omega
   have HO:=Aa (⟨t,r,d,c,g,aj,s,aA⟩:_/\_/\_/\_/\_/\_/\_/\_);clear hi h5 r s t A aa Q O N d c g ab Z ad ag ac X V U am ai af Y I R aj aA bB;have hw:=HW.out
   go_wp2_with fail
   clear hw;refine hS.mono ?_;rintro e w2 ⟨rfl,ba⟩;obtain⟨t,r,d,c,g,aj,s,aA⟩:=HO.out;have HF:=Aa (HB.out.trans ((t.trans (ba.mono t.size)).mono HB.out.size))
   by_cases M:0<Au m
   ·have d1:decide (0<Au m)=true:=decide_eq_true M;rw[d1]
    by_cases y:ps=[]
    ·have g:=Aa (g M y);have aD:T=[]:=by rw[<-s,y];rfl
     subst aD;rw[show bs ([]:Tx)=⟨#[]⟩ from rfl];clear t r d c aj s ba hS HO aA q0 q1 q2 q3 s0 s1 s2 s3 s4 s5 M d1 y
     go_wp2_with fail
     go_ret
     rw[g.out]
     exact⟨rfl,HF.out⟩
    ·have c:=Aa (c M y);have aD:=aj y;have b1:((bs T).toList == [])=false:=by rw[AK];simpa using aD
     have b2:((bs T).toList != [])=true:=by rw[AK];simpa using aD
     have zz:¬9223372036854775807<(bs T).size+6:=Dn (by omega);have za:bs T++⟨#[32,115,116,117,99,107]⟩=bs om:=by rw[c.out];exact Bx _ [32,115,116,117,99,107]
     clear t r d c g aj s ba hS HO aA q0 q1 q2 q3 s0 s1 s2 s3 s4 s5 M d1 y aD
     go_wp2_with fail
     go_ret
     exact⟨rfl,HF.out⟩
   ·have d1:decide (0<Au m)=false:=decide_eq_false M;rw[d1];have d:=Aa (d M);clear t r c g aj s ba hS HO aA q0 q1 q2 q3 s0 s1 s2 s3 s4 s5 M d1
    go_wp2_with fail
    go_ret
    rw[d.out]
    exact⟨rfl,HF.out⟩
end
theorem Tryz.sizeIns:(Tryz.prog.info? 177).map (·.size)=some 9:=by kernel_rfl
theorem PO {W:Xh} {g T:Nat} {u f n m p v5 e c r:Xk} (h:W.heap[g]?=some (.cells #[u,f,n,m,p,v5,e,c,r] T)):∀j,j<9->(W.cell? ⟨g,0+j,none⟩).isSome=true:=λj b=>by
 obtain⟨d,k,a,q,l,s,t,o,i⟩:=DA h
 match j,b with
 |0,_=>rw[XE,d];rfl
 |1,_=>rw[XE,k];rfl
 |2,_=>rw[XE,a];rfl
 |3,_=>rw[XE,q];rfl
 |4,_=>rw[XE,l];rfl
 |5,_=>rw[XE,s];rfl
 |6,_=>rw[XE,t];rfl
 |7,_=>rw[XE,o];rfl
 |8,_=>rw[XE,i];rfl
theorem Ry {W:Xh} {g T:Nat} {q p n t s l r o m:Xk} (f i h c j a5 a e b:Xk) (k:W.heap[g]?=some (.cells #[q,p,n,t,s,l,r,o,m] T)) :
 ∃d,W.setCells g 0 [f,i,h,c,j,a5,a,e,b]=d/\Ac (λk=>k=g) W d/\d.heap[g]?=some (.cells #[f,i,h,c,j,a5,a,e,b] T):=
 ⟨_,rfl,Fa _ 0 (Ac.refl W) (.inl rfl),Ih f i h c j a5 a e b k⟩
theorem Rr (x:Ad) (b:Int) (c:Tx):∀v∈(Dq x b c).toList,v.oneCell'=true:=by
 intro v a;simp only[Dq,List.mem_cons,List.not_mem_nil,or_false] at a
 rcases a with rfl|rfl|rfl|rfl|rfl|rfl|rfl|rfl|rfl<;>rfl
def Cj (x:Int) (i:Ad):Bool:=(i.op == Bu||i.op == AM)&&i.x == x
theorem aev {l:List Ad} {i:Nat} {y:Ad} (q:Ad->Bool) (h:l[i]?=some y):(l.take (i+1)).countP q=(l.take i).countP q+(if q y=true then 1 else 0):=by
 rw[Yh,h,List.countP_append];show _+List.countP q [y]=_;rw[List.countP_cons,List.countP_nil,XE]
theorem aeZ {l:List Ad} {i:Nat} {y:Ad} (q:Ad->Bool) (h:l[i]?=some y):(l.take (i+1)).any q=((l.take i).any q||q y):=by
 rw[Yh,h,List.any_append];show (_||List.any [y] q)=_;rw[List.any_cons,List.any_nil,Zh]
section
variable {w w':Xh} {a0 a1 a2 a3 a4 a5:Option YZ} {nv nf nl nt nr:Nat} {m:MS} {P:RP} {TV:List (Xk×Xk)} {x1 x2 x3 x4:Option YZ} {y1 y2 y3 z1 z2 z3 z4:Nat}
theorem WB {c0 c1 c2 c3 c4 c5:Nat} (x:Int) (hQ:DM w (.slice x1 y1 z1) (.slice x2 y2 z2) (.slice x3 y3 z3) (.slice x4 nt z4) P TV) (aG:P.thr.length=nt) (h:Cl w a0 a1 a2 a3 a4 a5 nv nf nl nt nr m) (hM:AZ nv nf nl (Ai P) m) (hf:Ej nv nf nl (Ai P)) :
 XX Tryz.prog 37 #[.agg #[.slice x1 y1 z1,.slice x2 y2 z2,.slice x3 y3 z3,.slice x4 nt z4],.agg #[.slice a0 nv c0,.slice a1 nf c1,.slice a2 nl c2,.slice a3 nt c3,.slice a4 nt c4,.slice a5 nr c5],.int .i64 x] w λe w'=>e = .returned (.bool (DY (Ai P) m x))/\Xm w.heap.size w w':=by
 obtain⟨W,hW⟩:∃W,(w.alloc (.cells #[.slice x1 y1 z1,.slice x2 y2 z2,.slice x3 y3 z3,.slice x4 nt z4] 28)).alloc (.cells #[.slice a0 nv c0,.slice a1 nf c1,.slice a2 nl c2,.slice a3 nt c3,.slice a4 nt c4,.slice a5 nr c5] 92)=W:=⟨_,rfl⟩;obtain⟨aC,k1,k2,hz⟩:=FK _ _ _ hW;have aJ:(Ai P).length=nt:=by unfold Ai;rw[Xp];exact aG
 have aT:=hQ.below aC;have aX:=h.below aC;have HC:Hid (∀u,Xm W.heap.size W u->(u.cell? ⟨w.heap.size,0,none⟩=some (.slice x1 y1 z1)/\u.cell? ⟨w.heap.size,1,none⟩=some (.slice x2 y2 z2)/\u.cell? ⟨w.heap.size,2,none⟩=some (.slice x3 y3 z3)/\u.cell? ⟨w.heap.size,3,none⟩=some (.slice x4 nt z4))/\u.cell? ⟨w.heap.size+1,0,none⟩=some (.slice a0 nv c0)/\u.cell? ⟨w.heap.size+1,1,none⟩=some (.slice a1 nf c1)/\u.cell? ⟨w.heap.size+1,2,none⟩=some (.slice a2 nl c2)/\u.cell? ⟨w.heap.size+1,3,none⟩=some (.slice a3 nt c3)/\u.cell? ⟨w.heap.size+1,4,none⟩=some (.slice a4 nt c4)/\u.cell? ⟨w.heap.size+1,5,none⟩=some (.slice a5 nr c5)):=λu hu=>⟨BK ((hu.block _ (by omega)).trans k1),Br ((hu.block _ (by omega)).trans k2)⟩
 have hR:=MI (c0:=c0) (c1:=c1) (c2:=c2) (c3:=c3) (c4:=c4) (c5:=c5) aT aG aX hM hf;have aM:Hid (∀u,Xm W.heap.size W u->∀t:Nat,(t:Int)∈AG (Ai P) m->XX Tryz.prog 73 #[.agg #[.slice x1 y1 z1,.slice x2 y2 z2,.slice x3 y3 z3,.slice x4 nt z4],.agg #[.slice a0 nv c0,.slice a1 nf c1,.slice a2 nl c2,.slice a3 nt c3,.slice a4 nt c4,.slice a5 nr c5],.int .i64 t] u λe w'=>∃n o,e = .returned (.agg (Dq (BB (Ai P) t (m.th t)) n o))/\Xm u.heap.size u w'):=λu hu t Z=>by
  obtain⟨t',e,bv,bV,-,-⟩:=Gq hf hM (Ie Z);have e:t=t':=by omega
  subst e;exact ML (aT.below hu) aG (aX.below hu) (t:=t) (by omega) ((hM.th t bv).pc (by omega))
 have ab:∀t,t∈AG (Ai P) m->∃u:Nat,t=u:=λt Z=>by
  obtain⟨t',e,-⟩:=Gq hf hM (Ie Z)
  exact⟨t',e⟩
 have h4:(AG (Ai P) m).length<=4:=by
  have q:=Jh (Ai P) m m.thr.length;have:=hf.four;have:=hM.tl;unfold AG
  omega
 have N:DY (Ai P) m x=(decide (1<(((AG (Ai P) m).map λt=>BB (Ai P) t.toNat (m.th t.toNat)).countP (Cj x)))&&((AG (Ai P) m).map λt=>BB (Ai P) t.toNat (m.th t.toNat)).any λi=>Cj x i&&i.op == AM):=rfl;have HB:=Aa aC;obtain⟨⟨q0,q1,q2,q3⟩,s0,s1,s2,s3,s4,s5⟩:=HC.out W (Xq _ _);obtain⟨C,hC⟩:∃C,Ai P=C:=⟨_,rfl⟩;rw[hC] at hR aM ab h4 N |-;obtain⟨l,T⟩:∃l,((AG C m).map λt=>BB C t.toNat (m.th t.toNat))=l:=⟨_,rfl⟩;rw[T] at N;obtain⟨Q,a7⟩:∃Q,AG C m=Q:=⟨_,rfl⟩;rw[a7] at hR ab h4 T;simp only[a7] at aM;have ay:l.length=Q.length:=by rw[<-T,Xp]
 have H:=Aa (⟨ab,h4,N,T,ay⟩:_/\_/\_/\_/\_);clear ab h4 N T ay hC a7 aJ aT aX aC k1 k2 hz hQ aG h hM hf
 go_enter Tryz.func37,Tryz.ntmps37
 go_upto_region 1 with fail
 try rw[hW]
 clear hW
 go_wp2_with fail
 refine hR.mono ?_;rintro e b ⟨v,rfl,bf,bp⟩;obtain⟨ra,rc,rfl,bd⟩:=Bf.of bf;have bL:=Aa bd.is;have aE:=Aa bp;clear bf bd bp hR q0 q1 q2 q3 s0 s1 s2 s3 s4 s5
 go_wp2_with fail
 go_loopw [8,9,10] (λgv sv iv wr=>∃i:Nat,i<=Q.length/\iv = .int .i64 i/\gv = .int .i64 (((l.take i).countP (Cj x):Nat):Int)/\sv = .bool ((l.take i).any λy=>Cj x y&&y.op == AM)/\Xm b.heap.size b wr) (λ_ _ iv _=>Q.length - (intOf iv).toNat)
 case atStart=>exact⟨0,Xw _,rfl,rfl,rfl,Xq _ _⟩
 case round=>
  obtain⟨i,hi,rfl,rfl,rfl,hb⟩:=hrel;obtain⟨ab,h4,N,T,ay⟩:=H.out
  by_cases h5:i<Q.length
  ·have bZ:(i:Int)<(Q.length:Int):=by omega
   have E:XO ((i:Int)+1)=(i:Int)+1:=by unfold XO;omega
   obtain⟨t,Z⟩:∃t,Q[i]?=some t:=⟨_,Xe h5⟩;have a6:=XA Z;obtain⟨u,rfl⟩:=ab t a6;obtain⟨rb,ro,rfl,bi,cr⟩:=bL.out i h5;have bm:Q.getD i 0=(u:Int):=by rw[Xc,Z];rfl
   rw[bm] at cr;obtain⟨y,hy⟩:∃y,BB C u (m.th u)=y:=⟨_,rfl⟩;have aK:l[i]?=some y:=by rw[<-T,Xs,Z,<-hy];rfl
   have s:=aev (Cj x) aK;have B:=aeZ (λy=>Cj x y&&y.op == AM) aK;have aJ:(l.take i).countP (Cj x)<=i:=Xu List.countP_le_length (by rw[X5];omega);obtain⟨D,aj⟩:∃c,(l.take i).countP (Cj x)=c:=⟨_,rfl⟩;obtain⟨an,am⟩:∃a,((l.take i).any λy=>Cj x y&&y.op == AM)=a:=⟨_,rfl⟩;rw[aj] at s aJ |-;rw[am] at B |-;have af:XO ((D:Int)+1)=(D:Int)+1:=by unfold XO;omega
   have a8:∀u,Xm b.heap.size b u->Xm W.heap.size W u:=λu hu=>aE.out.trans (hu.mono aE.out.size);have HD:Hid (∀v,Xm b.heap.size b v->((v.cell? ⟨w.heap.size,0,none⟩=some (.slice x1 y1 z1)/\v.cell? ⟨w.heap.size,1,none⟩=some (.slice x2 y2 z2)/\v.cell? ⟨w.heap.size,2,none⟩=some (.slice x3 y3 z3)/\v.cell? ⟨w.heap.size,3,none⟩=some (.slice x4 nt z4))/\v.cell? ⟨w.heap.size+1,0,none⟩=some (.slice a0 nv c0)/\v.cell? ⟨w.heap.size+1,1,none⟩=some (.slice a1 nf c1)/\v.cell? ⟨w.heap.size+1,2,none⟩=some (.slice a2 nl c2)/\v.cell? ⟨w.heap.size+1,3,none⟩=some (.slice a3 nt c3)/\v.cell? ⟨w.heap.size+1,4,none⟩=some (.slice a4 nt c4)/\v.cell? ⟨w.heap.size+1,5,none⟩=some (.slice a5 nr c5))/\v.cell? ⟨rb,ro+i,none⟩=some (.int .i64 u)):=λv hv=>⟨HC.out v (a8 v hv),(hv.cell (p:=⟨rb,ro+i,none⟩) bi).trans cr⟩
   have V:Xm b.heap.size b wr.drew:=hb.trans ⟨rfl,rfl,rfl,Xd _,λ_ _=>rfl⟩;have HX:Hid (∀v,Xm b.heap.size b v->XX Tryz.prog 73 #[.agg #[.slice x1 y1 z1,.slice x2 y2 z2,.slice x3 y3 z3,.slice x4 nt z4],.agg #[.slice a0 nv c0,.slice a1 nf c1,.slice a2 nl c2,.slice a3 nt c3,.slice a4 nt c4,.slice a5 nr c5],.int .i64 u] v λe w'=>∃n o,e = .returned (.agg (Dq y n o))/\Xm v.heap.size v w'):=λv hv=>by
    have:=aM.out v (a8 v hv) u a6;rw[hy] at this;exact this
   have V:=Aa V;have f:=Aa (⟨h5,s,B⟩:_/\_/\_);clear hi h5 Z a6 bm aK s B aJ aj am a8 hb ab h4 N T ay cr bi hy
   go_upto_region 7 with fail
   go_cut [11] (λpv wx=>∃nb n o,pv = .pointer (some ⟨nb,0,none⟩)/\wx.heap[nb]?=some (.cells (Dq y n o) 177)/\Xm b.heap.size b wx)
   case first=>
    refine Xx (S:=(λv=>((v.cell? ⟨w.heap.size,0,none⟩=some (.slice x1 y1 z1)/\v.cell? ⟨w.heap.size,1,none⟩=some (.slice x2 y2 z2)/\v.cell? ⟨w.heap.size,2,none⟩=some (.slice x3 y3 z3)/\v.cell? ⟨w.heap.size,3,none⟩=some (.slice x4 nt z4))/\v.cell? ⟨w.heap.size+1,0,none⟩=some (.slice a0 nv c0)/\v.cell? ⟨w.heap.size+1,1,none⟩=some (.slice a1 nf c1)/\v.cell? ⟨w.heap.size+1,2,none⟩=some (.slice a2 nl c2)/\v.cell? ⟨w.heap.size+1,3,none⟩=some (.slice a3 nt c3)/\v.cell? ⟨w.heap.size+1,4,none⟩=some (.slice a4 nt c4)/\v.cell? ⟨w.heap.size+1,5,none⟩=some (.slice a5 nr c5))/\v.cell? ⟨rb,ro+i,none⟩=some (.int .i64 u))) (by kernel_rfl) (HD.out _ V.out) (λF=>?_);refine tk 0 F ?_;refine tk 1 F ?_;refine tk 2 F ?_;refine tk 3 F ?_;refine tk 4 F ?_;refine tk 5 F ?_;refine wpAnyH_ready (rs:=[6,7]) (by kernel_rfl) (by simp) ?_;refine AllReadyH.cons rfl (λK z=>?_) (AllReadyH.cons rfl (λK z=>?_) AllReadyH.nil)
    ·go_simp
     go_at_call 73
     refine(HX.out _ V.out).mono ?_;rintro e vc ⟨n,o,rfl,ap⟩;have I:Hid (Xm b.heap.size b vc):=V.out.trans (ap.mono V.out.size);have hq:=Aa (HD.out vc I.out);clear ap
     go_wp2_with fail
     refine z.out _ _ hq.out (λF=>?_);clear z K hq
     try simp only[XF,sq]
     refine rd 7 (λK z=>?_)
     go_simp
     obtain⟨O,U⟩:∃A,vc.alloc (.cells #[.string ⟨#[]⟩,.int .i64 0,.bool false,.int .i64 0,.bool false,.int .i64 0,.int .i64 0,.int .i64 0,.string ⟨#[]⟩] 177)=A:=⟨_,rfl⟩;have aO:Hid (Xm vc.heap.size vc O):=by rw[<-U];exact(Xq _ _).alloc (Xd _) _
     have Y:O.heap[vc.heap.size]?=some (.cells #[.string ⟨#[]⟩,.int .i64 0,.bool false,.int .i64 0,.bool false,.int .i64 0,.int .i64 0,.int .i64 0,.string ⟨#[]⟩] 177):=by rw[<-U];exact World.alloc_heap_new vc _
     have J:Hid (Xm b.heap.size b O):=I.out.trans (aO.out.mono I.out.size)
     try rw[U]
     clear U;refine z.out _ _ (HD.out O J.out) (λF=>?_);clear z K
     try simp only[XF,sq]
     obtain⟨Z1,au,G,ar⟩:=Ry (.string (bs y.op)) (.int .i64 y.r) (.bool y.aR) (.int .i64 y.aN) (.bool y.bR) (.int .i64 y.bN) (.int .i64 y.x) (.int .i64 n) (.string (bs o)) Y;have ag:Xm b.heap.size b Z1:=⟨G.os.trans J.out.os,G.tape.trans J.out.tape,G.output.trans J.out.output,Xu J.out.size G.size,λk hk=>(G.block k (by have:=J.out.size;omega) (by have:=I.out.size;omega)).trans (J.out.block k hk)⟩;refine rd 8 (λK z=>?_);refine Fq _ _ _ rfl vc.heap.size 0 (Dq y n o) rfl rfl (PO Y) (λj _=>Ap Y _) Tryz.sizeIns (Rr y n o) ?_;rw[show (Dq y n o).toList=[.string (bs y.op),.int .i64 y.r,.bool y.aR,.int .i64 y.aN,.bool y.bR,.int .i64 y.bN,.int .i64 y.x,.int .i64 n,.string (bs o)] from rfl,au];refine z.out _ _ (HD.out Z1 ag) (λF=>?_);clear z K
     try simp only[XF,sq]
     refine Yd (by kernel_rfl) ?_ _;have HF:=Aa (⟨ar,ag⟩:_/\_);clear F Y G ar ag au
     go_wp2_with fail
     go_meet
     exact⟨_,n,o,rfl,HF.out.1,HF.out.2⟩
    ·go_simp
     obtain⟨O,U⟩:∃A,(wr.alloc (.cells #[.string ⟨#[]⟩,.int .i64 0,.bool false,.int .i64 0,.bool false,.int .i64 0,.int .i64 0,.int .i64 0,.string ⟨#[]⟩] 177)).drew=A:=⟨_,rfl⟩;have aq:Xm wr.heap.size wr O:=by rw[<-U];exact((Xq _ _).alloc (Xd _) _).drew
     have aO:Hid (Xm wr.drew.heap.size wr.drew O):=⟨aq.os,aq.tape,aq.output,aq.size,aq.block⟩;have Y:Hid (O.heap[wr.heap.size]?=some (.cells #[.string ⟨#[]⟩,.int .i64 0,.bool false,.int .i64 0,.bool false,.int .i64 0,.int .i64 0,.int .i64 0,.string ⟨#[]⟩] 177)):=by rw[<-U];exact World.alloc_heap_new wr _
     have J:Hid (Xm b.heap.size b O):=V.out.trans (aO.out.mono V.out.size)
     try rw[U]
     clear U aq;refine z.out _ _ (HD.out O J.out) (λF=>?_);clear z K
     try simp only[XF,sq]
     refine rd 6 (λK z=>?_)
     go_simp
     go_at_call 73
     refine(HX.out _ J.out).mono ?_;rintro e vc ⟨n,o,rfl,ap⟩;have I:Hid (Xm b.heap.size b vc):=J.out.trans (ap.mono J.out.size);have hq:=Aa (HD.out vc I.out);have kC:Hid (vc.heap[wr.heap.size]?=some (.cells #[.string ⟨#[]⟩,.int .i64 0,.bool false,.int .i64 0,.bool false,.int .i64 0,.int .i64 0,.int .i64 0,.string ⟨#[]⟩] 177)):=(ap.block _ (Array.getElem?_eq_some_iff.1 Y.out).1).trans Y.out;clear ap
     go_wp2_with fail
     refine z.out _ _ hq.out (λF=>?_);clear z K hq
     try simp only[XF,sq]
     obtain⟨Z1,au,G,ar⟩:=Ry (.string (bs y.op)) (.int .i64 y.r) (.bool y.aR) (.int .i64 y.aN) (.bool y.bR) (.int .i64 y.bN) (.int .i64 y.x) (.int .i64 n) (.string (bs o)) kC.out;have ag:Xm b.heap.size b Z1:=⟨G.os.trans I.out.os,G.tape.trans I.out.tape,G.output.trans I.out.output,Xu I.out.size G.size,λk hk=>(G.block k (by have:=I.out.size;omega) (by have:b.heap.size<=wr.heap.size:=V.out.size;omega)).trans (I.out.block k hk)⟩;refine rd 8 (λK z=>?_);refine Fq _ _ _ rfl wr.heap.size 0 (Dq y n o) rfl rfl (PO kC.out) (λj _=>Ap kC.out _) Tryz.sizeIns (Rr y n o) ?_;rw[show (Dq y n o).toList=[.string (bs y.op),.int .i64 y.r,.bool y.aR,.int .i64 y.aN,.bool y.bR,.int .i64 y.bN,.int .i64 y.x,.int .i64 n,.string (bs o)] from rfl,au];refine z.out _ _ (HD.out Z1 ag) (λF=>?_);clear z K
     try simp only[XF,sq]
     refine Yd (by kernel_rfl) ?_ _;have HF:=Aa (⟨ar,ag⟩:_/\_);clear F Y kC G ar ag au
     go_wp2_with fail
     go_meet
     exact⟨_,n,o,rfl,HF.out.1,HF.out.2⟩
   case rest=>
    obtain⟨nb,n,o,rfl,kn,R⟩:=hcut;unfold Dq at kn;obtain⟨i0,i1,i2,i3,i4,i5,i6,i7,i8⟩:=DA kn;replace R:=Aa R;clear kn i1 i2 i3 i4 i5 i7 i8;have hL:((bs y.op).toList == [108,111,97,100])=(y.op == Bu):=by rw[AK];rfl
    have hS:((bs y.op).toList == [115,116,111,114,101])=(y.op == AM):=by rw[AK];rfl
    have M:Cj x y=((y.op == Bu||y.op == AM)&&y.x == x):=rfl
    cases ak:(y.op == Bu) with
    |true=>
     have X:(y.op == AM)=false:=by
      have:y.op=Bu:=by simpa using ak
      rw[this];rfl
     rw[ak] at hL;rw[X] at hS
     cases aw:(y.x == x) with
     |true=>
      have d:Cj x y=true:=by rw[M,ak,aw];rfl
      cases an with
      |true=>
       have g:Hid ((l.take (i+1)).countP (Cj x)=D+1/\((l.take (i+1)).any λy=>Cj x y&&y.op == AM)=true):=by
        obtain⟨-,s,B⟩:=f.out;refine⟨by rw[s,if_pos d],by rw[B,X,agI,Zh]⟩
       clear d M
       go_wp2_with fail
       go_roundw
       case rel=>
        (try rw[E])
        (try rw[af])
        exact⟨i+1,f.out.1,rfl,by(rw[g.out.1];try rfl),by rw[g.out.2],R.out⟩
       case measure=>
        (try rw[E])
        exact Xl f.out.1 (Xn i)
      |false=>
       have g:Hid ((l.take (i+1)).countP (Cj x)=D+1/\((l.take (i+1)).any λy=>Cj x y&&y.op == AM)=false):=by
        obtain⟨-,s,B⟩:=f.out;refine⟨by rw[s,if_pos d],by rw[B,X,agI,Zh]⟩
       clear d M
       go_wp2_with fail
       go_roundw
       case rel=>
        (try rw[E])
        (try rw[af])
        exact⟨i+1,f.out.1,rfl,by(rw[g.out.1];try rfl),by rw[g.out.2],R.out⟩
       case measure=>
        (try rw[E])
        exact Xl f.out.1 (Xn i)
     |false=>
      have d:Cj x y=false:=by rw[M,aw,agI]
      have g:Hid ((l.take (i+1)).countP (Cj x)=D/\((l.take (i+1)).any λy=>Cj x y&&y.op == AM)=an):=by
       obtain⟨-,s,B⟩:=f.out;refine⟨by rw[s,d];rfl,by rw[B,d,Bool.false_and,Zh]⟩
      clear d M
      go_wp2_with fail
      go_roundw
      case rel=>
       (try rw[E])
       (try rw[af])
       exact⟨i+1,f.out.1,rfl,by(rw[g.out.1];try rfl),by rw[g.out.2],R.out⟩
      case measure=>
       (try rw[E])
       exact Xl f.out.1 (Xn i)
    |false=>
     rw[ak] at hL
     cases X:(y.op == AM) with
     |true=>
      rw[X] at hS
      cases aw:(y.x == x) with
      |true=>
       have d:Cj x y=true:=by rw[M,ak,X,aw];rfl
       cases an with
       |true=>
        have g:Hid ((l.take (i+1)).countP (Cj x)=D+1/\((l.take (i+1)).any λy=>Cj x y&&y.op == AM)=true):=by
         obtain⟨-,s,B⟩:=f.out;refine⟨by rw[s,if_pos d],by rw[B,Bool.true_or]⟩
        clear d M
        go_wp2_with fail
        go_roundw
        case rel=>
         (try rw[E])
         (try rw[af])
         exact⟨i+1,f.out.1,rfl,by(rw[g.out.1];try rfl),by rw[g.out.2],R.out⟩
        case measure=>
         (try rw[E])
         exact Xl f.out.1 (Xn i)
       |false=>
        have g:Hid ((l.take (i+1)).countP (Cj x)=D+1/\((l.take (i+1)).any λy=>Cj x y&&y.op == AM)=true):=by
         obtain⟨-,s,B⟩:=f.out;refine⟨by rw[s,if_pos d],by rw[B,d,X];rfl⟩
        clear d M
        go_wp2_with fail
        go_roundw
        case rel=>
         (try rw[E])
         (try rw[af])
         exact⟨i+1,f.out.1,rfl,by(rw[g.out.1];try rfl),by rw[g.out.2],R.out⟩
        case measure=>
         (try rw[E])
         exact Xl f.out.1 (Xn i)
      |false=>
       have d:Cj x y=false:=by rw[M,aw,agI]
       have g:Hid ((l.take (i+1)).countP (Cj x)=D/\((l.take (i+1)).any λy=>Cj x y&&y.op == AM)=an):=by
        obtain⟨-,s,B⟩:=f.out;refine⟨by rw[s,d];rfl,by rw[B,d,Bool.false_and,Zh]⟩
       clear d M
       go_wp2_with fail
       go_roundw
       case rel=>
        (try rw[E])
        (try rw[af])
        exact⟨i+1,f.out.1,rfl,by(rw[g.out.1];try rfl),by rw[g.out.2],R.out⟩
       case measure=>
        (try rw[E])
        exact Xl f.out.1 (Xn i)
     |false=>
      rw[X] at hS;have d:Cj x y=false:=by rw[M,ak,X];rfl
      have g:Hid ((l.take (i+1)).countP (Cj x)=D/\((l.take (i+1)).any λy=>Cj x y&&y.op == AM)=an):=by
       obtain⟨-,s,B⟩:=f.out;refine⟨by rw[s,d];rfl,by rw[B,d,Bool.false_and,Zh]⟩
      clear d M
      go_wp2_with fail
      go_roundw
      case rel=>
       (try rw[E])
       (try rw[af])
       exact⟨i+1,f.out.1,rfl,by(rw[g.out.1];try rfl),by rw[g.out.2],R.out⟩
      case measure=>
       (try rw[E])
       exact Xl f.out.1 (Xn i)
  ·have bq:i=Q.length:=by omega
   have bg:l.take i=l:=XM (by omega);rw[bg];obtain⟨D,aj⟩:∃c,l.countP (Cj x)=c:=⟨_,rfl⟩;obtain⟨an,am⟩:∃a,(l.any λy=>Cj x y&&y.op == AM)=a:=⟨_,rfl⟩;rw[aj,am] at N;rw[aj,am];have HF:=Aa (HB.out.trans ((aE.out.trans (hb.mono aE.out.size)).mono HB.out.size));replace N:=Aa N;subst bq;clear hi h5 hb ab h4 T ay bg aj am
   by_cases e1:1<D
   ·have d1:=Aa (decide_eq_true e1);have d2:decide ((1:Int)<(D:Int))=true:=decide_eq_true (by omega);have d3:(1:Int)<(D:Int):=by omega
    clear e1
    go_wp2_with fail
    go_ret
    exact⟨by rw[N.out,d1.out];cases an<;>rfl,HF.out⟩
   ·have d1:=Aa (decide_eq_false e1);have d2:decide ((1:Int)<(D:Int))=false:=decide_eq_false (by omega);have d3:¬(1:Int)<(D:Int):=by omega
    clear e1
    go_wp2_with fail
    go_ret
    exact⟨by(rw[N.out,d1.out];rfl),HF.out⟩
end
structure WI (w wr:Xh) (l:List Tx) (s:Tx) (i:Nat) (d:Bool) (ov:Xk) (ol:List Tx):Prop where
 le:i<=l.length
 row:wr.ownsRow w.heap.size 9 1 ov ol.length (ol.map λx=>Yn (bs x))
 bel:Xm w.heap.size w wr
 len:ol.length<=i+1
 no:d=false->ol=l.take i/\∀j x,j<i->l[j]?=some x->x≠s/\AR s x=false
 yes:d=true->ol++l.drop i=Cd s l/\∃k x,k<i/\l[k]?=some x/\AR s x=true
def Dv (lo:Nat) (a:Option YZ):Prop:=a=none\/∃b off,a=some ⟨b,off,none⟩/\lo<=b
theorem Dv.mono {c d:Nat} {a:Option YZ} (h:Dv c a) (f:d<=c):Dv d a:=h.imp id fun⟨b,g,e,q⟩=>⟨b,g,e,Xu f q⟩
theorem NN {w:Xh} {base e d n m c:Nat} {a:Option YZ} {f:List Xk} (h:w.ownsRow base e d (.slice a n c) m f):Dv base a:=by
 rcases h.2 with⟨b,_⟩|⟨g,cap,j,b,i,_⟩
 ·exact .inl (by injection b)
 ·exact .inr ⟨g,0,by injection b,i⟩
theorem Vj {l:List Tx} {i:Nat} {x:Tx} (h:l[i]?=some x):l.take (i+1)=l.take i++[x]:=by rw[Yh,h];rfl
theorem LH {l:List Tx} {i:Nat} {x:Tx} (h:l[i]?=some x):l.drop i=x::l.drop (i+1):=by
 obtain⟨a,e⟩:=List.getElem?_eq_some_iff.1 h;rw[<-e];exact List.drop_eq_getElem_cons a
theorem OR {w:Xh} {a:Option YZ} {cap:Nat} {l:List Tx} {s:Tx} (B:Ts w a l) (E:FP l) (q:l.length<=20000) (G:s.length<4294967296) (F:∀x,x∈l->x.length<4294967296) :
 XX Tryz.prog 35 #[.slice a l.length cap,.string (bs s)] w λe w'=>∃f D,e = .returned (.slice f (Cd s l).length D)/\Ts w' f (Cd s l)/\(f=a\/Dv w.heap.size f)/\Xm w.heap.size w w':=by
 have HP:=Aa (⟨B,E,q,G,F⟩:_/\_/\_/\_/\_);clear B E q G F
 go_enter Tryz.func35,Tryz.ntmps35
 go_wp2_with fail
 go_loopw [5,6,7] (λov dv iv wr=>∃(i:Nat) (d:Bool) (m:List Tx),iv = .int .i64 i/\dv = .bool d/\WI w wr l s i d ov m) (λ_ _ iv _=>l.length - (intOf iv).toNat)
 case atStart=>exact⟨0,false,[],rfl,rfl,Xw _,World.ownsRow_nil _ _ _ _,Xq _ _,Xw _,λ_=>⟨rfl,λj x hj=>absurd hj (Nat.not_lt_zero j)⟩,(λh=>by cases h)⟩
 case round=>
  obtain⟨i,d,m,rfl,rfl,c⟩:=hrel;obtain⟨B,E,q,G,F⟩:=HP.out;obtain⟨oa,oc,aA⟩:=At c.row;subst aA;have R:XO ((i:Int)+1)=(i:Int)+1:=by have:=c.le;unfold XO;omega
  by_cases n:i<l.length
  ·have aD:(i:Int)<(l.length:Int):=by omega
   obtain⟨x,o⟩:∃x,l[i]?=some x:=⟨_,Xe n⟩;obtain⟨b,V,rfl,ac,U⟩:=B i n;have ab:l.getD i []=x:=by rw[Xc,o];rfl
   rw[ab] at U;have cell:∀u,Xm w.heap.size w u->u.cell? ⟨b,V+i,none⟩=some (.string (bs x)):=λu hu=>(hu.cell (p:=⟨b,V+i,none⟩) ac).trans U;have c1:=cell wr c.bel;have ap:((bs x).toList == (bs s).toList)=decide (x=s):=by rw[AK,AK];exact Bool.eq_iff_iff.2 (by simp)
   have A:=c.len
   by_cases e:x=s
   ·have hd:d=false:=by
     cases d with
     |false=>rfl
     |true=>
      obtain⟨-,k,y,T,I,K⟩:=c.yes rfl;have:=WK E T I o;rw[e] at this;have:=Jq s y s K this;rw[Kf] at this;cases this
    have O:Cd s l=l:=by
     rw[KH i l (c.no hd).2,LH o,e,UK,<-e,<-LH o,List.take_append_drop]
    have P:decide (x=s)=true:=decide_eq_true e;rw[P] at ap;have X:Hid (∃f D,YG (Yq (some ⟨b,V,none⟩) l.length cap) = .returned (.slice f (Cd s l).length D)/\Ts wr f (Cd s l)/\(f=some ⟨b,V,none⟩\/Dv w.heap.size f)/\Xm w.heap.size w wr):=⟨some ⟨b,V,none⟩,cap,by rw[O],by rw[O];exact B.below c.bel,.inl rfl,c.bel⟩;clear c O hd cell e P o ab U ac B E q G F A n
    go_wp2_with fail
    go_ret
    exact X.out
   ·have P:decide (x=s)=false:=decide_eq_false e;rw[P] at ap;have am:x.length<4294967296:=F x (XA o)
    cases d with
    |true=>
     obtain⟨N,k,y,T,I,K⟩:=c.yes rfl;obtain⟨g,c2,w3,H,r,t⟩:=JM c.row x (by omega) c.bel.size;have J:Hid (i+1<=l.length/\WI w w3 l s (i+1) true (.slice (some ⟨g,0,none⟩) (m.length+1) c2) (m++[x])):=by
      refine⟨n,n,r,c.bel.trans (t _ (Xd _)),by rw[Xb];show m.length+1<=_;omega,(λh=>by cases h),λ_=>⟨?_,k,y,by omega,I,K⟩⟩;rw[<-N,LH o,XZ];rfl
     clear c N r t cell e P o ab U ac B E q G F A n am T I K
     go_wp2_with (at_builtin;refine Dm rfl _ _ _ rfl rfl rfl rfl H ?_)
     go_roundw
     case rel=>
      (try rw[R])
      exact⟨i+1,true,m++[x],rfl,rfl,J.out.2⟩
     case measure=>
      (try rw[R])
      exact Xl J.out.1 (Xn i)
    |false=>
     obtain⟨v,C⟩:=c.no rfl;have au:=Aa (ab3 s x wr G am);have HI:=Aa (⟨c,v,C,o,n,e,A,q⟩:_/\_/\_/\_/\_/\_/\_/\_);replace cell:=Aa cell;clear c v C e P o ab U ac B E q G F A n am
     go_wp2_with fail
     refine au.out.mono ?_;rintro Q w2 ⟨rfl,aa⟩;obtain⟨c,v,C,o,n,e,A,q⟩:=HI.out;have M:=c.bel.trans (aa.mono c.bel.size);have Z:w2.ownsRow w.heap.size 9 1 (.slice oa m.length oc) m.length (m.map λx=>Yn (bs x)):=Ea c.row λk T=>aa.block k (c.row.lt k T).2;clear c1 au
     cases K:AR s x with
     |true=>
      obtain⟨g,c2,w3,H,r,t⟩:=JM Z s (by omega) M.size;have ad:=M.trans (t _ (Xd _));obtain⟨g4,c4,w4,Y,ah,ar⟩:=JM r x (by rw[Xb];show m.length+1<_;omega) ad.size;rw[Xb,show (([s]:List Tx)).length=1 from rfl] at Y ah;have c3:=cell.out w3 ad;have J:Hid (i+1<=l.length/\WI w w4 l s (i+1) true (.slice (some ⟨g4,0,none⟩) (m.length+1+1) c4) (m++[s]++[x])):=by
       refine⟨n,n,?_,ad.trans (ar _ (Xd _)),?_,(λh=>by cases h),λ_=>⟨?_,i,x,Xn i,o,K⟩⟩
       ·exact ah
       ·rw[Xb,Xb];show m.length+1+1<=_;have:m.length<=i:=by rw[v,X5];omega
        omega
       ·rw[KH i l C,LH o,UL e K,v]
        simp
      clear c v C o n e A q aa M Z r t ad ah ar HI cell;replace Y:=Aa Y
      go_upto_region 11 with (at_builtin;refine Dm rfl _ _ _ rfl rfl rfl rfl H ?_)
      clear H;have aB:=Y.out
      go_wp2_with (at_builtin;refine Dm rfl _ _ _ rfl rfl rfl rfl aB ?_)
      go_roundw
      case rel=>
       (try rw[R])
       exact⟨i+1,true,m++[s]++[x],rfl,rfl,J.out.2⟩
      case measure=>
       (try rw[R])
       exact Xl J.out.1 (Xn i)
     |false=>
      obtain⟨g,c2,w3,H,r,t⟩:=JM Z x (by omega) M.size;have c3:=cell.out w2 M;have J:Hid (i+1<=l.length/\WI w w3 l s (i+1) false (.slice (some ⟨g,0,none⟩) (m.length+1) c2) (m++[x])):=by
       refine⟨n,n,r,M.trans (t _ (Xd _)),by rw[Xb];show m.length+1<=_;omega,λ_=>⟨by rw[Vj o,v],λj y hj I=>?_⟩,(λh=>by cases h)⟩
       by_cases z:j=i
       ·rw[z,o] at I
        cases I
        exact⟨e,K⟩
       ·exact C j y (by omega) I
      clear c v C o n e A q aa M Z r t HI cell
      go_wp2_with (at_builtin;refine Dm rfl _ _ _ rfl rfl rfl rfl H ?_)
      go_roundw
      case rel=>
       (try rw[R])
       exact⟨i+1,false,m++[x],rfl,rfl,J.out.2⟩
      case measure=>
       (try rw[R])
       exact Xl J.out.1 (Xn i)
  ·have S:i=l.length:=by have:=c.le;omega
   have A:=c.len
   cases d with
   |true=>
    obtain⟨N,-⟩:=c.yes rfl;rw[S,agd,Ye] at N;obtain⟨f,D,W,Q⟩:=KI c.row;have e3:oa=f:=by injection W
    clear W;subst e3;have X:Hid (∃f D,YG (Yq oa m.length oc) = .returned (.slice f (Cd s l).length D)/\Ts wr f (Cd s l)/\(f=a\/Dv w.heap.size f)/\Xm w.heap.size w wr):=⟨_,oc,by rw[<-N],by rw[<-N];exact Q,.inr (NN c.row),c.bel⟩;subst S;clear c N Q B E q G F A n
    go_wp2_with fail
    go_ret
    exact X.out
   |false=>
    obtain⟨v,C⟩:=c.no rfl;obtain⟨g,c2,w3,H,r,t⟩:=JM c.row s (by omega) c.bel.size;have O:Cd s l=m++[s]:=by
     rw[KH i l C,S,agd,v,S];rfl
    obtain⟨f,D,W,Q⟩:=KI r;have e3:some ⟨g,0,none⟩=f:=by injection W
    clear W;subst e3;have X:Hid (∃f D,YG (Yq (some ⟨g,0,none⟩) (m.length+1) c2) = .returned (.slice f (Cd s l).length D)/\Ts w3 f (Cd s l)/\(f=a\/Dv w.heap.size f)/\Xm w.heap.size w w3):=⟨_,c2,by rw[O,Xb];rfl,by rw[O];exact Q,.inr (NN r),c.bel.trans (t _ (Xd _))⟩;subst S;clear c v C Q B E q G F A n O r t
    go_wp2_with (at_builtin;refine Dm rfl _ _ _ rfl rfl rfl rfl H ?_)
    go_ret
    exact X.out
end Go.Proofs.YtdcacoifehkioaaGreatDoor
