import Derived.Test.YtdcacoifehkioaaGreatDoorExA3
import Derived.Test.YtdcacoifehkioaaGreatDoorExA30
import Derived.Test.YtdcacoifehkioaaGreatDoorExA29
import Derived.Test.YtdcacoifehkioaaGreatDoorExA26
import Derived.Test.YtdcacoifehkioaaGreatDoorExA20
import Derived.Test.YtdcacoifehkioaaGreatDoorExA24
open Go.Lib renaming join->YU,itoa->Yh
open Nat renaming le_refl->Xd,le_trans->Xu,zero_le->Xx,sub_lt_sub_left->Xl,lt_succ_self->Xo,zero_add->XD
open List renaming length_append->Xb,getElem?_map->Xs,getElem?_range->Zo,mem_map->YA,length_take->Yc,append_nil->Yf,append_assoc->X3,length_map->Xp,take_of_length_le->XQ,take_add_one->Yo,getElem?_eq_getElem->Xe,mem_of_getElem?->Xz,getD_eq_getElem?_getD->Xc,drop_length->afX
open Go renaming World->Xh,Addr->YV,Value->Xk,Calls->XY,wp_region_held_drew->Xy,wpAnyH_done->Yd
open Go.RowKit renaming Below->Xm,wrap64->XN
open Go.RowKit.Below renaming refl->Xq
open Go.Act renaming put->XG
open Bool renaming or_false->Zs,and_false->agq
open Go.Value renaming string->Yi,slice->Yn
open Go.Ending renaming returned->YE
set_option maxRecDepth 100000
set_option maxHeartbeats 4000000
set_option linter.unusedVariables false
set_option linter.unusedSimpArgs false
namespace Go.Proofs.YtdcacoifehkioaaGreatDoor
open Go.RowKit Go.Shelf Go.Proofs.Cod
theorem acg {l:List Tx} {i:Nat} {x:Tx} (h:l[i]?=some x):YU (l.take (i+1)) [32]=(if 0<i then YU (l.take i) [32]++[32] else [])++x:=by
 by_cases e:0<i
 ·rw[if_pos e,ace e h]
 ·have:i=0:=by omega
  subst this;rw[if_neg e,acf h];rfl
theorem NL:∀(l:List Tx),(∀x,x∈l->x.length<=30)->(l.flatMap (λx=>x++[10])).length<=l.length*31
 |[],_=>Xd _
 |a::l,h=>by
  have c:=h a (List.mem_cons_self ..);have d:=NL l λx b=>h x (List.mem_cons_of_mem _ b);rw[List.flatMap_cons,Xb,Xb];show a.length+1+_<=(l.length+1)*31
  omega
theorem aaH {p:PD} {m:MS} {i:Nat} (h:i<p.vs.length):(AU p m)[i]?=some (p.vs.getD i []++[61]++Yh (m.vars.getD i 0)):=by
 unfold AU;rw[List.getElem?_append_left (by rw[Kc];exact h)];unfold GB Kd;rw[Xs,Zo h]
 rfl
theorem aaI {p:PD} {m:MS} {k:Nat} (h:k<p.fs.length):(AU p m)[p.vs.length+k]?=some (p.fs.getD k []++[61]++Yh (m.flags.getD k 0)):=by
 unfold AU;rw[List.getElem?_append_right (by rw[Kc];omega),Kc,Nat.add_sub_cancel_left];unfold GB Kd;rw[Xs,Zo h]
 rfl
theorem QW {p:PD} {m:MS} (c:Eg p) (d:∀k,CD (m.vars.getD k 0)) (b:∀k,CD (m.flags.getD k 0)):∀x,x∈AU p m->x.length<=30/\x≠[]:=by
 intro x a;unfold AU GB Kd at a;rw[List.mem_append,YA,YA] at a
 rcases a with⟨k,-,rfl⟩|⟨k,-,rfl⟩
 ·have g:=c.v k;have e:=Dw (d k).1 (d k).2;refine⟨?_,by simp⟩;rw[Xb,Xb];have:([61]:Tx).length=1:=rfl
  omega
 ·have g:=c.f k;have e:=Dw (b k).1 (b k).2;refine⟨?_,by simp⟩;rw[Xb,Xb];have:([61]:Tx).length=1:=rfl
  omega
theorem aci {l:List Tx} (h:∀x,x∈l->x.length<=30) (i:Nat):(YU (l.take i) [32]).length<=i*31:=by
 refine Xu (Kh _) (Xu (NL _ λx a=>h x (List.mem_of_mem_take a)) ?_);exact Nat.mul_le_mul_right 31 (by rw[Yc];omega)
theorem aaZ {p:PD} {m:MS} (h:¬0<Ay m):Bz p m=YU (AU p m) [32]:=by unfold Bz;rw[if_neg h,Yf]
theorem aaY {p:PD} {m:MS} (h:0<Ay m) (a:AU p m≠[]):Bz p m=YU (AU p m) [32]++[32,115,116,117,99,107]:=by
 unfold Bz;rw[if_pos h,Sj _ a,X3]
 rfl
theorem aa0 {p:PD} {m:MS} (h:0<Ay m) (a:AU p m=[]):Bz p m=[115,116,117,99,107]:=by
 unfold Bz;rw[if_pos h,a];exact Lib.join_one _ _
section
variable {w w':Xh} {a0 a1 a2 a3 a4 a5:Option YV} {nv nf nl nt nr:Nat} {m:MS} {P:RP} {TV:List (Xk×Xk)} {x1 x2 x3 x4:Option YV} {z1 z2 z3 z4:Nat}
theorem Wq {B:Nat} (ht:Cn w B) (hB:B<=w.heap.size) {c0 c1 c2 c3 c4 c5:Nat} (hQ:DI w (.slice x1 nv z1) (.slice x2 nf z2) (.slice x3 nl z3) (.slice x4 nt z4) P TV) (bt:P.thr.length=nt) (A:P.vs.length=nv) (U:P.fs.length=nf) (h3:P.ls.length=nl) (h:Ci w a0 a1 a2 a3 a4 a5 nv nf nl nt nr m) (hM:AW nv nf nl (Ai P) m) (hf:CK (AD P)) (hN:Eg (AD P)) :
 XY Tryz.prog 36 #[.agg #[.slice x1 nv z1,.slice x2 nf z2,.slice x3 nl z3,.slice x4 nt z4],.agg #[.slice a0 nv c0,.slice a1 nf c1,.slice a2 nl c2,.slice a3 nt c3,.slice a4 nt c4,.slice a5 nr c5]] w λe w'=>e = .returned (.string (bs (Bz (AD P) m)))/\Xm w.heap.size w w':=by
 obtain⟨W,hW⟩:∃W,(w.alloc (.cells #[.slice x1 nv z1,.slice x2 nf z2,.slice x3 nl z3,.slice x4 nt z4] 28)).alloc (.cells #[.slice a0 nv c0,.slice a1 nf c1,.slice a2 nl c2,.slice a3 nt c3,.slice a4 nt c4,.slice a5 nr c5] 92)=W:=⟨_,rfl⟩;obtain⟨az,k1,k2,hz⟩:=FH _ _ _ hW;have aa:nv<=4:=by rw[<-A];exact hf.v
 have Z:nf<=4:=by rw[<-U];exact hf.f
 have bW:(Ai P).length=nt:=by unfold Ai;rw[Xp];exact bt
 have h4:nt<=4:=by have:=hf.fit.four;have e:(AD P).C.length=nt:=bW;omega
 have V:∀k,CD (m.vars.getD k 0):=Gv hM.vv;have Q:∀k,CD (m.flags.getD k 0):=Gv hM.fv;have I:=QW (p:=AD P) hN V Q;have bg:=hQ.below az;have ay:=h.below az;obtain⟨xv,b7,ev,ad⟩:=IF bg.v rfl;obtain⟨xf,ca,ef,ac⟩:=IF bg.f rfl;have bI:x1=xv:=by injection ev
 have bL:x2=xf:=by injection ef
 clear ev ef;subst bI bL;have HC:Hid (∀u,Xm W.heap.size W u->(u.cell? ⟨w.heap.size,0,none⟩=some (.slice x1 nv z1)/\u.cell? ⟨w.heap.size,1,none⟩=some (.slice x2 nf z2)/\u.cell? ⟨w.heap.size,2,none⟩=some (.slice x3 nl z3)/\u.cell? ⟨w.heap.size,3,none⟩=some (.slice x4 nt z4))/\u.cell? ⟨w.heap.size+1,0,none⟩=some (.slice a0 nv c0)/\u.cell? ⟨w.heap.size+1,1,none⟩=some (.slice a1 nf c1)/\u.cell? ⟨w.heap.size+1,2,none⟩=some (.slice a2 nl c2)/\u.cell? ⟨w.heap.size+1,3,none⟩=some (.slice a3 nt c3)/\u.cell? ⟨w.heap.size+1,4,none⟩=some (.slice a4 nt c4)/\u.cell? ⟨w.heap.size+1,5,none⟩=some (.slice a5 nr c5)):=λu o=>⟨Cl ((o.block _ (by omega)).trans k1),Bk ((o.block _ (by omega)).trans k2)⟩
 have HI:=Aa (λu (o:Xm W.heap.size W u) (x:Int) (h:CD x)=>IM x (by have:=h.1;omega) (by have:=h.2;omega) u (ht.keep ((az.mono hB).trans (o.mono (by have:=az.size;omega)))));have HS:=Aa (λu (o:Xm W.heap.size W u)=>Qn (c0:=c0) (c1:=c1) (c2:=c2) (c3:=c3) (c4:=c4) (c5:=c5) (ay.below o) h4);have HB:=Aa az;have Y:(AU (AD P) m).length=nv+nf:=by rw[Jj];show P.vs.length+P.fs.length=_;rw[A,U]
 obtain⟨n,O⟩:∃n,nv+nf=n:=⟨_,rfl⟩;have N:∀i,i<nv->(AU (AD P) m)[i]?=some (P.vs.getD i []++[61]++Yh (m.vars.getD i 0)):=λi hi=>aaH (p:=AD P) (by show i<P.vs.length;omega);have R:∀k,k<nf->(AU (AD P) m)[nv+k]?=some (P.fs.getD k []++[61]++Yh (m.flags.getD k 0)):=λk hk=>by rw[<-A];exact aaI (p:=AD P) (by show k<P.fs.length;omega)
 have d:=aaZ (p:=AD P) (m:=m);have c:=aaY (p:=AD P) (m:=m);have g:=aa0 (p:=AD P) (m:=m);have af:∀k,(P.vs.getD k []).length<=8:=hN.v;have ab:∀k,(P.fs.getD k []).length<=8:=hN.f;have aj:=ay.lv;have an:=ay.lf;have ag:=ay.v;have X:=ay.f;obtain⟨ps,bd⟩:∃ps,AU (AD P) m=ps:=⟨_,rfl⟩;obtain⟨om,bu⟩:∃x,Bz (AD P) m=x:=⟨_,rfl⟩;rw[bd] at I Y d c g;simp only[bd] at N R;rw[bu] at d c g |-;have H:=Aa (⟨I,Y,O,N,R,d,c,g,af,ab,ad,ac,ag,X,V,Q,aj,an,aa,Z,A,U⟩:_/\_/\_/\_/\_/\_/\_/\_/\_/\_/\_/\_/\_/\_/\_/\_/\_/\_/\_/\_/\_/\_);clear I Y O N R d c g af ab ad ac ag X V Q aj an aa Z h4 bd bu bg ay az k1 k2 hz hQ bt A U h3 h hM hf hN ht hB;have HW:Hid (XN ((nv:Int)+(nf:Int))=(n:Int)):=by
  obtain⟨-,-,O,-,-,-,-,-,-,-,-,-,-,-,-,-,-,-,aa,Z,-⟩:=H.out;have:=Cv (n:=nv+nf) (by omega);rw[<-O]
  push_cast at this |-
  exact this
 go_enter Tryz.func36,Tryz.ntmps36
 go_upto_region 1 with fail
 try rw[hW]
 clear hW
 go_wp2_with fail
 go_loopw [5,6] (λtv iv wr=>∃i:Nat,i<=n/\iv = .int .i64 i/\tv = .string (bs (YU (ps.take i) [32]))/\Xm W.heap.size W wr) (λ_ iv _=>n - (intOf iv).toNat)
 case atStart=>exact⟨0,Xx _,rfl,rfl,Xq _ _⟩
 case round=>
  obtain⟨i,hi,rfl,rfl,t⟩:=hrel;obtain⟨⟨q0,q1,q2,q3⟩,s0,s1,s2,s3,s4,s5⟩:=HC.out wr t;obtain⟨I,Y,O,N,R,d,c,g,af,ab,ad,ac,ag,X,V,Q,aj,an,aa,Z,A,U⟩:=H.out;have r:=aci (λx j=>(I x j).1) i
  by_cases h5:i<n
  ·have b5:(i:Int)<(n:Int):=by omega
   have ba:Hid (XN ((i:Int)+1)=(i:Int)+1):=by
    have:=Cv (n:=i+1) (by omega)
    push_cast at this
    exact this
   obtain⟨T,s⟩:∃T,YU (ps.take i) [32]=T:=⟨_,rfl⟩;obtain⟨a,aM⟩:∃x,(if 0<i then YU (ps.take i) [32]++[32] else [])=x:=⟨_,rfl⟩;have ao:∀x,ps[i]?=some x->YU (ps.take (i+1)) [32]=a++x:=λx j=>by rw[acg j,aM]
   rw[s] at r |-;have aR:a.length<=300:=by
    rw[<-aM,s]
    by_cases e:0<i
    ·rw[if_pos e,Xb];show T.length+1<=300;omega
    ·rw[if_neg e];exact Xx _
   have HX:Hid ((0<i->T++[32]=a)/\(¬0<i->T=a)):=⟨λe=>by rw[<-aM,if_pos e,s],λe=>by
    have:i=0:=by omega
    subst this;rw[<-aM,if_neg e,<-s];rfl⟩
   have l:Xm W.heap.size W wr.drew:=t.trans ⟨rfl,rfl,rfl,Xd _,λ_ _=>rfl⟩;have HO:=Aa (⟨hi,h5,ao,aR,l,r⟩:_/\_/\_/\_/\_/\_);clear hi h5 ao aR l r s aM t I Y O N R d c g af ab ad ac ag X V Q aj an aa Z A U;have hw:=HW.out
   go_upto_if 21 with fail
   clear hw
   go_cut [5] (λtv wx=>tv = .string (bs a)/\wx=wr)
   case first=>
    by_cases e:0<i
    ·have M:(0:Int)<(i:Int):=by omega
     have z0:¬9223372036854775807<(bs T).size+1:=Dz (by have:=HO.out.2.2.2.2.2;have:=HO.out.1;have:=H.out.2.2.1;have:=H.out.2.2.2.2.2.2.2.2.2.2.2.2.2.2.2.2.2.2;omega);have z1:bs T++⟨#[32]⟩=bs a:=by rw[<-HX.out.1 e];exact BE _ [32]
     clear e
     go_wp2_with fail
     go_meet
     exact⟨rfl,rfl⟩
    ·have e0:i=0:=by omega
     have y:=HX.out.2 e;subst e0;subst y;clear e
     go_wp2_with fail
     go_meet
     exact⟨rfl,rfl⟩
   case rest=>
    obtain⟨rfl,rfl⟩:=hcut;obtain⟨hi,h5,ao,aR,l,r⟩:=HO.out;obtain⟨I,Y,O,N,R,d,c,g,af,ab,ad,ac,ag,X,V,Q,aj,an,aa,Z,A,U⟩:=H.out;have a7:Xm W.heap.size W wc:=⟨l.os,l.tape,l.output,l.size,l.block⟩
    by_cases e:i<nv
    ·have M:(i:Int)<(nv:Int):=by omega
     obtain⟨D,go,y,gl,aq⟩:=ad i (by omega);subst y;obtain⟨lb,J,e3,ll,ar⟩:=ag i (by omega);subst e3;have j:=ao _ (N i e);have z:=V i;have ax:=Dw z.1 z.2;have aX:=af i;obtain⟨nm,aE⟩:∃x,P.vs.getD i []=x:=⟨_,rfl⟩;obtain⟨lv,aS⟩:∃x,m.vars.getD i 0=x:=⟨_,rfl⟩;rw[aS] at z ax j ar;rw[aE] at aX j aq;obtain⟨F,aI⟩:∃x,Yh lv=x:=⟨_,rfl⟩;have HD:Hid (∀u,Xm W.heap.size W u->u.cell? ⟨w.heap.size,0,none⟩=some (.slice (some ⟨D,go,none⟩) nv z1)/\u.cell? ⟨D,go+i,none⟩=some (.string (bs nm))/\u.cell? ⟨w.heap.size+1,0,none⟩=some (.slice (some ⟨lb,J,none⟩) nv c0)/\u.cell? ⟨lb,J+i,none⟩=some (.int .i64 lv)):=λu o=>⟨(HC.out u o).1.1,(o.cell (p:=⟨D,go+i,none⟩) gl).trans aq,(HC.out u o).2.1,(o.cell (p:=⟨lb,J+i,none⟩) ll).trans ar⟩
     have hI:=HI.out wc.drew l _ z;rw[aI] at hI ax j;have y1:¬9223372036854775807<(bs a).size+(bs nm).size:=EY (by omega);have bT:bs a++bs nm=bs (a++nm):=BE _ _;have e4:(a++nm).length=a.length+nm.length:=Xb;have y2:¬9223372036854775807<(bs (a++nm)).size+1:=Dz (by omega);have bQ:bs (a++nm)++⟨#[61]⟩=bs (a++nm++[61]):=BE _ [61];have e5:(a++nm++[61]).length=a.length+nm.length+1:=by rw[Xb,e4];rfl
     have y3:¬9223372036854775807<(bs (a++nm++[61])).size+(bs F).size:=EY (by omega);have bY:bs (a++nm++[61])++bs F=bs (a++nm++[61]++F):=BE _ _;have hV:a++nm++[61]++F=YU (ps.take (i+1)) [32]:=by rw[j];simp
     generalize a++nm++[61]++F=V3 at *;generalize a++nm++[61]=V2 at *;generalize a++nm=V1 at *;have hS:=Aa (HD.out wc.drew l);have E:=Aa (⟨hV,h5,l⟩:_/\_/\_);obtain⟨t1,t2,t3,t4⟩:=HD.out wc a7;clear a7 hi h5 ao aR r I Y O N R d c g af ab ad ac ag X V Q aj an aa Z A U gl aq ll ar j z ax aX aE aS aI e4 e5 hV l e
     go_upto_region 8 with fail
     refine Xy (S:=(λu=>u.cell? ⟨w.heap.size,0,none⟩=some (.slice (some ⟨D,go,none⟩) nv z1)/\u.cell? ⟨D,go+i,none⟩=some (.string (bs nm))/\u.cell? ⟨w.heap.size+1,0,none⟩=some (.slice (some ⟨lb,J,none⟩) nv c0)/\u.cell? ⟨lb,J+i,none⟩=some (.int .i64 lv))) (by kernel_rfl) hS.out (λb=>?_);refine tk 0 b ?_;refine tk 1 b ?_;refine tk 2 b ?_;refine tk 3 b ?_;refine tk 4 b ?_;refine tk 5 b ?_;refine tk 6 b ?_;refine tk 7 b ?_;refine tk 8 b ?_;refine tk 9 b ?_;refine tk 10 b ?_;refine tk 11 b ?_;refine tk 12 b ?_;refine rd 13 (λK hK=>?_)
     go_simp
     go_at_call 72
     refine hI.mono ?_;rintro e w8 ⟨rfl,G⟩;replace G:Xm W.heap.size W w8:=E.out.2.2.trans (G.mono E.out.2.2.size);have q:=Aa (HD.out w8 G);have bc:=Aa G;clear G b t1 t2 t3 t4 hI q0 q1 q2 q3 s0 s1 s2 s3 s4 s5
     go_wp2_with fail
     refine hK.out _ _ q.out (λb=>?_);clear hK K
     try simp only[XG,sq]
     refine tk 14 b ?_;refine tk 15 b ?_;refine Yd (by kernel_rfl) ?_ _;clear b q
     go_wp2_with fail
     go_roundw
     case rel=>
      (try rw[ba.out])
      exact⟨i+1,E.out.2.1,rfl,by rw[E.out.1],bc.out⟩
     case measure=>
      (try rw[ba.out])
      exact Xl E.out.2.1 (Xo i)
    ·have M:¬(i:Int)<(nv:Int):=by omega
     obtain⟨k,hk⟩:∃k,i=nv+k:=⟨i - nv,by omega⟩;have bZ:Hid (XN ((i:Int) - (nv:Int))=(k:Int)):=by
      have:=Cv (n:=k) (by omega);rw[show (i:Int) - (nv:Int)=(k:Int) by omega];exact this
     have b6:(k:Int)<(nf:Int):=by omega
     obtain⟨D,go,y,gl,aq⟩:=ac k (by omega);subst y;obtain⟨lb,J,e3,ll,ar⟩:=X k (by omega);subst e3;have j:=ao _ (by rw[hk];exact R k (by omega));have z:=Q k;have ax:=Dw z.1 z.2;have aX:=ab k;obtain⟨nm,aE⟩:∃x,P.fs.getD k []=x:=⟨_,rfl⟩;obtain⟨lv,aS⟩:∃x,m.flags.getD k 0=x:=⟨_,rfl⟩;rw[aS] at z ax j ar;rw[aE] at aX j aq;obtain⟨F,aI⟩:∃x,Yh lv=x:=⟨_,rfl⟩;have HD:Hid (∀u,Xm W.heap.size W u->u.cell? ⟨w.heap.size,1,none⟩=some (.slice (some ⟨D,go,none⟩) nf z2)/\u.cell? ⟨D,go+k,none⟩=some (.string (bs nm))/\u.cell? ⟨w.heap.size+1,1,none⟩=some (.slice (some ⟨lb,J,none⟩) nf c1)/\u.cell? ⟨lb,J+k,none⟩=some (.int .i64 lv)):=λu o=>⟨(HC.out u o).1.2.1,(o.cell (p:=⟨D,go+k,none⟩) gl).trans aq,(HC.out u o).2.2.1,(o.cell (p:=⟨lb,J+k,none⟩) ll).trans ar⟩
     have hI:=HI.out wc.drew l _ z;rw[aI] at hI ax j;have y1:¬9223372036854775807<(bs a).size+(bs nm).size:=EY (by omega);have bT:bs a++bs nm=bs (a++nm):=BE _ _;have e4:(a++nm).length=a.length+nm.length:=Xb;have y2:¬9223372036854775807<(bs (a++nm)).size+1:=Dz (by omega);have bQ:bs (a++nm)++⟨#[61]⟩=bs (a++nm++[61]):=BE _ [61];have e5:(a++nm++[61]).length=a.length+nm.length+1:=by rw[Xb,e4];rfl
     have y3:¬9223372036854775807<(bs (a++nm++[61])).size+(bs F).size:=EY (by omega);have bY:bs (a++nm++[61])++bs F=bs (a++nm++[61]++F):=BE _ _;have hV:a++nm++[61]++F=YU (ps.take (i+1)) [32]:=by rw[j];simp
     generalize a++nm++[61]++F=V3 at *;generalize a++nm++[61]=V2 at *;generalize a++nm=V1 at *;have hS:=Aa (HD.out wc.drew l);have E:=Aa (⟨hV,h5,l⟩:_/\_/\_);obtain⟨t1,t2,t3,t4⟩:=HD.out wc a7;clear a7 hi h5 ao aR r I Y O N R d c g af ab ad ac ag X V Q aj an aa Z A U gl aq ll ar j z ax aX aE aS aI e4 e5 hV l e hk;have bB:=bZ.out
     go_upto_region 10 with fail
     rw[bB];clear bB;refine Xy (S:=(λu=>u.cell? ⟨w.heap.size,1,none⟩=some (.slice (some ⟨D,go,none⟩) nf z2)/\u.cell? ⟨D,go+k,none⟩=some (.string (bs nm))/\u.cell? ⟨w.heap.size+1,1,none⟩=some (.slice (some ⟨lb,J,none⟩) nf c1)/\u.cell? ⟨lb,J+k,none⟩=some (.int .i64 lv))) (by kernel_rfl) hS.out (λb=>?_);refine tk 0 b ?_;refine tk 1 b ?_;refine tk 2 b ?_;refine tk 3 b ?_;refine tk 4 b ?_;refine tk 5 b ?_;refine tk 6 b ?_;refine tk 7 b ?_;refine tk 8 b ?_;refine tk 9 b ?_;refine tk 10 b ?_;refine tk 11 b ?_;refine tk 12 b ?_;refine rd 13 (λK hK=>?_)
     go_simp
     go_at_call 72
     refine hI.mono ?_;rintro e w8 ⟨rfl,G⟩;replace G:Xm W.heap.size W w8:=E.out.2.2.trans (G.mono E.out.2.2.size);have q:=Aa (HD.out w8 G);have bc:=Aa G;clear G b t1 t2 t3 t4 hI q0 q1 q2 q3 s0 s1 s2 s3 s4 s5
     go_wp2_with fail
     refine hK.out _ _ q.out (λb=>?_);clear hK K
     try simp only[XG,sq]
     refine tk 14 b ?_;refine tk 15 b ?_;refine Yd (by kernel_rfl) ?_ _;clear b q
     go_wp2_with fail
     go_roundw
     case rel=>
      (try rw[ba.out])
      exact⟨i+1,E.out.2.1,rfl,by rw[E.out.1],bc.out⟩
     case measure=>
      (try rw[ba.out])
      exact Xl E.out.2.1 (Xo i)
  ·have bV:i=n:=by omega
   subst bV;have bE:ps.take i=ps:=XQ (by omega);rw[bE] at r |-;have am:ps≠[]->YU ps [32]≠[]:=ach λx j=>(I x j).2;obtain⟨T,s⟩:∃T,YU ps [32]=T:=⟨_,rfl⟩;rw[s] at r d c am |-;have hS:=HS.out wr t;have aB:i<=8:=by omega
   have HO:=Aa (⟨t,r,d,c,g,am,s,aB⟩:_/\_/\_/\_/\_/\_/\_/\_);clear hi h5 r s t I Y O N R d c g af ab ad ac ag X V Q aj an aa Z A U am aB bE;have hw:=HW.out
   go_wp2_with fail
   clear hw;refine hS.mono ?_;rintro e w2 ⟨rfl,a8⟩;obtain⟨t,r,d,c,g,am,s,aB⟩:=HO.out;have HF:=Aa (HB.out.trans ((t.trans (a8.mono t.size)).mono HB.out.size))
   by_cases M:0<Ay m
   ·have d1:decide (0<Ay m)=true:=decide_eq_true M;rw[d1]
    by_cases y:ps=[]
    ·have g:=Aa (g M y);have aY:T=[]:=by rw[<-s,y];rfl
     subst aY;rw[show bs ([]:Tx)=⟨#[]⟩ from rfl];clear t r d c am s a8 hS HO aB q0 q1 q2 q3 s0 s1 s2 s3 s4 s5 M d1 y
     go_wp2_with fail
     go_ret
     rw[g.out]
     exact⟨rfl,HF.out⟩
    ·have c:=Aa (c M y);have aY:=am y;have b1:((bs T).toList == [])=false:=by rw[AL];simpa using aY
     have b2:((bs T).toList != [])=true:=by rw[AL];simpa using aY
     have zz:¬9223372036854775807<(bs T).size+6:=Dz (by omega);have za:bs T++⟨#[32,115,116,117,99,107]⟩=bs om:=by rw[c.out];exact BE _ [32,115,116,117,99,107]
     clear t r d c g am s a8 hS HO aB q0 q1 q2 q3 s0 s1 s2 s3 s4 s5 M d1 y aY
     go_wp2_with fail
     go_ret
     exact⟨rfl,HF.out⟩
   ·have d1:decide (0<Ay m)=false:=decide_eq_false M;rw[d1];have d:=Aa (d M);clear t r c g am s a8 hS HO aB q0 q1 q2 q3 s0 s1 s2 s3 s4 s5 M d1
    go_wp2_with fail
    go_ret
    rw[d.out]
    exact⟨rfl,HF.out⟩
end
theorem Tryz.sizeIns:(Tryz.prog.info? 177).map (·.size)=some 9:=by kernel_rfl
theorem PG {W:Xh} {g T:Nat} {q o c i n v5 d l k:Xk} (h:W.heap[g]?=some (.cells #[q,o,c,i,n,v5,d,l,k] T)):∀j,j<9->(W.cell? ⟨g,0+j,none⟩).isSome=true:=λj a=>by
 obtain⟨s,b,e,p,f,t,m,r,u⟩:=Dv h
 match j,a with
 |0,_=>rw[XD,s];rfl
 |1,_=>rw[XD,b];rfl
 |2,_=>rw[XD,e];rfl
 |3,_=>rw[XD,p];rfl
 |4,_=>rw[XD,f];rfl
 |5,_=>rw[XD,t];rfl
 |6,_=>rw[XD,m];rfl
 |7,_=>rw[XD,r];rfl
 |8,_=>rw[XD,u];rfl
theorem Rp {W:Xh} {g T:Nat} {o m q s r p n l t:Xk} (c i d e f a5 h j b:Xk) (k:W.heap[g]?=some (.cells #[o,m,q,s,r,p,n,l,t] T)) :
 ∃a,W.setCells g 0 [c,i,d,e,f,a5,h,j,b]=a/\Ac (λk=>k=g) W a/\a.heap[g]?=some (.cells #[c,i,d,e,f,a5,h,j,b] T):=
 ⟨_,rfl,EZ _ 0 (Ac.refl W) (.inl rfl),Id c i d e f a5 h j b k⟩
theorem Rh (x:Ad) (b:Int) (c:Tx):∀v∈(Do x b c).toList,v.oneCell'=true:=by
 intro v a;simp only[Do,List.mem_cons,List.not_mem_nil,or_false] at a
 rcases a with rfl|rfl|rfl|rfl|rfl|rfl|rfl|rfl|rfl<;>rfl
def Ch (x:Int) (i:Ad):Bool:=(i.op == Bq||i.op == AH)&&i.x == x
theorem ael {l:List Ad} {i:Nat} {y:Ad} (q:Ad->Bool) (h:l[i]?=some y):(l.take (i+1)).countP q=(l.take i).countP q+(if q y=true then 1 else 0):=by
 rw[Yo,h,List.countP_append];show _+List.countP q [y]=_;rw[List.countP_cons,List.countP_nil,XD]
theorem aeP {l:List Ad} {i:Nat} {y:Ad} (q:Ad->Bool) (h:l[i]?=some y):(l.take (i+1)).any q=((l.take i).any q||q y):=by
 rw[Yo,h,List.any_append];show (_||List.any [y] q)=_;rw[List.any_cons,List.any_nil,Zs]
section
variable {w w':Xh} {a0 a1 a2 a3 a4 a5:Option YV} {nv nf nl nt nr:Nat} {m:MS} {P:RP} {TV:List (Xk×Xk)} {x1 x2 x3 x4:Option YV} {y1 y2 y3 z1 z2 z3 z4:Nat}
theorem Wl {c0 c1 c2 c3 c4 c5:Nat} (x:Int) (hQ:DI w (.slice x1 y1 z1) (.slice x2 y2 z2) (.slice x3 y3 z3) (.slice x4 nt z4) P TV) (aC:P.thr.length=nt) (h:Ci w a0 a1 a2 a3 a4 a5 nv nf nl nt nr m) (hM:AW nv nf nl (Ai P) m) (hf:Ef nv nf nl (Ai P)) :
 XY Tryz.prog 37 #[.agg #[.slice x1 y1 z1,.slice x2 y2 z2,.slice x3 y3 z3,.slice x4 nt z4],.agg #[.slice a0 nv c0,.slice a1 nf c1,.slice a2 nl c2,.slice a3 nt c3,.slice a4 nt c4,.slice a5 nr c5],.int .i64 x] w λe w'=>e = .returned (.bool (DU (Ai P) m x))/\Xm w.heap.size w w':=by
 obtain⟨W,hW⟩:∃W,(w.alloc (.cells #[.slice x1 y1 z1,.slice x2 y2 z2,.slice x3 y3 z3,.slice x4 nt z4] 28)).alloc (.cells #[.slice a0 nv c0,.slice a1 nf c1,.slice a2 nl c2,.slice a3 nt c3,.slice a4 nt c4,.slice a5 nr c5] 92)=W:=⟨_,rfl⟩;obtain⟨aF,k1,k2,hz⟩:=FH _ _ _ hW;have aG:(Ai P).length=nt:=by unfold Ai;rw[Xp];exact aC
 have aQ:=hQ.below aF;have aL:=h.below aF;have HC:Hid (∀u,Xm W.heap.size W u->(u.cell? ⟨w.heap.size,0,none⟩=some (.slice x1 y1 z1)/\u.cell? ⟨w.heap.size,1,none⟩=some (.slice x2 y2 z2)/\u.cell? ⟨w.heap.size,2,none⟩=some (.slice x3 y3 z3)/\u.cell? ⟨w.heap.size,3,none⟩=some (.slice x4 nt z4))/\u.cell? ⟨w.heap.size+1,0,none⟩=some (.slice a0 nv c0)/\u.cell? ⟨w.heap.size+1,1,none⟩=some (.slice a1 nf c1)/\u.cell? ⟨w.heap.size+1,2,none⟩=some (.slice a2 nl c2)/\u.cell? ⟨w.heap.size+1,3,none⟩=some (.slice a3 nt c3)/\u.cell? ⟨w.heap.size+1,4,none⟩=some (.slice a4 nt c4)/\u.cell? ⟨w.heap.size+1,5,none⟩=some (.slice a5 nr c5)):=λu hu=>⟨Cl ((hu.block _ (by omega)).trans k1),Bk ((hu.block _ (by omega)).trans k2)⟩
 have hR:=MG (c0:=c0) (c1:=c1) (c2:=c2) (c3:=c3) (c4:=c4) (c5:=c5) aQ aC aL hM hf;have aV:Hid (∀u,Xm W.heap.size W u->∀t:Nat,(t:Int)∈AP (Ai P) m->XY Tryz.prog 73 #[.agg #[.slice x1 y1 z1,.slice x2 y2 z2,.slice x3 y3 z3,.slice x4 nt z4],.agg #[.slice a0 nv c0,.slice a1 nf c1,.slice a2 nl c2,.slice a3 nt c3,.slice a4 nt c4,.slice a5 nr c5],.int .i64 t] u λe w'=>∃g n,e = .returned (.agg (Do (BA (Ai P) t (m.th t)) g n))/\Xm u.heap.size u w'):=λu hu t ht=>by
  obtain⟨t',e,bz,bW,-,-⟩:=GM hf hM (Ia ht);have e:t=t':=by omega
  subst e;exact MJ (aQ.below hu) aC (aL.below hu) (t:=t) (by omega) ((hM.th t bz).pc (by omega))
 have Y:∀t,t∈AP (Ai P) m->∃u:Nat,t=u:=λt ht=>by
  obtain⟨t',e,-⟩:=GM hf hM (Ia ht)
  exact⟨t',e⟩
 have h4:(AP (Ai P) m).length<=4:=by
  have q:=Je (Ai P) m m.thr.length;have:=hf.four;have:=hM.tl;unfold AP
  omega
 have N:DU (Ai P) m x=(decide (1<(((AP (Ai P) m).map λt=>BA (Ai P) t.toNat (m.th t.toNat)).countP (Ch x)))&&((AP (Ai P) m).map λt=>BA (Ai P) t.toNat (m.th t.toNat)).any λi=>Ch x i&&i.op == AH):=rfl;have HB:=Aa aF;obtain⟨⟨q0,q1,q2,q3⟩,s0,s1,s2,s3,s4,s5⟩:=HC.out W (Xq _ _);obtain⟨C,hC⟩:∃C,Ai P=C:=⟨_,rfl⟩;rw[hC] at hR aV Y h4 N |-;obtain⟨l,R⟩:∃l,((AP C m).map λt=>BA C t.toNat (m.th t.toNat))=l:=⟨_,rfl⟩;rw[R] at N;obtain⟨O,aX⟩:∃O,AP C m=O:=⟨_,rfl⟩;rw[aX] at hR Y h4 R;simp only[aX] at aV;have au:l.length=O.length:=by rw[<-R,Xp]
 have H:=Aa (⟨Y,h4,N,R,au⟩:_/\_/\_/\_/\_);clear Y h4 N R au hC aX aG aQ aL aF k1 k2 hz hQ aC h hM hf
 go_enter Tryz.func37,Tryz.ntmps37
 go_upto_region 1 with fail
 try rw[hW]
 clear hW
 go_wp2_with fail
 refine hR.mono ?_;rintro e b ⟨v,rfl,bf,ba⟩;obtain⟨ra,rc,rfl,be⟩:=AZ.of bf;have bS:=Aa be.is;have aB:=Aa ba;clear bf be ba hR q0 q1 q2 q3 s0 s1 s2 s3 s4 s5
 go_wp2_with fail
 go_loopw [8,9,10] (λgv sv iv wr=>∃i:Nat,i<=O.length/\iv = .int .i64 i/\gv = .int .i64 (((l.take i).countP (Ch x):Nat):Int)/\sv = .bool ((l.take i).any λy=>Ch x y&&y.op == AH)/\Xm b.heap.size b wr) (λ_ _ iv _=>O.length - (intOf iv).toNat)
 case atStart=>exact⟨0,Xx _,rfl,rfl,rfl,Xq _ _⟩
 case round=>
  obtain⟨i,hi,rfl,rfl,rfl,hb⟩:=hrel;obtain⟨Y,h4,N,R,au⟩:=H.out
  by_cases h5:i<O.length
  ·have bV:(i:Int)<(O.length:Int):=by omega
   have F:XN ((i:Int)+1)=(i:Int)+1:=by unfold XN;omega
   obtain⟨t,ht⟩:∃t,O[i]?=some t:=⟨_,Xe h5⟩;have aO:=Xz ht;obtain⟨u,rfl⟩:=Y t aO;obtain⟨rb,ro,rfl,bn,cr⟩:=bS.out i h5;have bj:O.getD i 0=(u:Int):=by rw[Xc,ht];rfl
   rw[bj] at cr;obtain⟨y,hy⟩:∃y,BA C u (m.th u)=y:=⟨_,rfl⟩;have aP:l[i]?=some y:=by rw[<-R,Xs,ht,<-hy];rfl
   have s:=ael (Ch x) aP;have z:=aeP (λy=>Ch x y&&y.op == AH) aP;have aG:(l.take i).countP (Ch x)<=i:=Xu List.countP_le_length (by rw[Yc];omega);obtain⟨D,aj⟩:∃c,(l.take i).countP (Ch x)=c:=⟨_,rfl⟩;obtain⟨an,aq⟩:∃a,((l.take i).any λy=>Ch x y&&y.op == AH)=a:=⟨_,rfl⟩;rw[aj] at s aG |-;rw[aq] at z |-;have ah:XN ((D:Int)+1)=(D:Int)+1:=by unfold XN;omega
   have aY:∀u,Xm b.heap.size b u->Xm W.heap.size W u:=λu hu=>aB.out.trans (hu.mono aB.out.size);have HD:Hid (∀v,Xm b.heap.size b v->((v.cell? ⟨w.heap.size,0,none⟩=some (.slice x1 y1 z1)/\v.cell? ⟨w.heap.size,1,none⟩=some (.slice x2 y2 z2)/\v.cell? ⟨w.heap.size,2,none⟩=some (.slice x3 y3 z3)/\v.cell? ⟨w.heap.size,3,none⟩=some (.slice x4 nt z4))/\v.cell? ⟨w.heap.size+1,0,none⟩=some (.slice a0 nv c0)/\v.cell? ⟨w.heap.size+1,1,none⟩=some (.slice a1 nf c1)/\v.cell? ⟨w.heap.size+1,2,none⟩=some (.slice a2 nl c2)/\v.cell? ⟨w.heap.size+1,3,none⟩=some (.slice a3 nt c3)/\v.cell? ⟨w.heap.size+1,4,none⟩=some (.slice a4 nt c4)/\v.cell? ⟨w.heap.size+1,5,none⟩=some (.slice a5 nr c5))/\v.cell? ⟨rb,ro+i,none⟩=some (.int .i64 u)):=λv hv=>⟨HC.out v (aY v hv),(hv.cell (p:=⟨rb,ro+i,none⟩) bn).trans cr⟩
   have V:Xm b.heap.size b wr.drew:=hb.trans ⟨rfl,rfl,rfl,Xd _,λ_ _=>rfl⟩;have HX:Hid (∀v,Xm b.heap.size b v->XY Tryz.prog 73 #[.agg #[.slice x1 y1 z1,.slice x2 y2 z2,.slice x3 y3 z3,.slice x4 nt z4],.agg #[.slice a0 nv c0,.slice a1 nf c1,.slice a2 nl c2,.slice a3 nt c3,.slice a4 nt c4,.slice a5 nr c5],.int .i64 u] v λe w'=>∃g n,e = .returned (.agg (Do y g n))/\Xm v.heap.size v w'):=λv hv=>by
    have:=aV.out v (aY v hv) u aO;rw[hy] at this;exact this
   have V:=Aa V;have f:=Aa (⟨h5,s,z⟩:_/\_/\_);clear hi h5 ht aO bj aP s z aG aj aq aY hb Y h4 N R au cr bn hy
   go_upto_region 7 with fail
   go_cut [11] (λpv wx=>∃nb g n,pv = .pointer (some ⟨nb,0,none⟩)/\wx.heap[nb]?=some (.cells (Do y g n) 177)/\Xm b.heap.size b wx)
   case first=>
    refine Xy (S:=(λv=>((v.cell? ⟨w.heap.size,0,none⟩=some (.slice x1 y1 z1)/\v.cell? ⟨w.heap.size,1,none⟩=some (.slice x2 y2 z2)/\v.cell? ⟨w.heap.size,2,none⟩=some (.slice x3 y3 z3)/\v.cell? ⟨w.heap.size,3,none⟩=some (.slice x4 nt z4))/\v.cell? ⟨w.heap.size+1,0,none⟩=some (.slice a0 nv c0)/\v.cell? ⟨w.heap.size+1,1,none⟩=some (.slice a1 nf c1)/\v.cell? ⟨w.heap.size+1,2,none⟩=some (.slice a2 nl c2)/\v.cell? ⟨w.heap.size+1,3,none⟩=some (.slice a3 nt c3)/\v.cell? ⟨w.heap.size+1,4,none⟩=some (.slice a4 nt c4)/\v.cell? ⟨w.heap.size+1,5,none⟩=some (.slice a5 nr c5))/\v.cell? ⟨rb,ro+i,none⟩=some (.int .i64 u))) (by kernel_rfl) (HD.out _ V.out) (λE=>?_);refine tk 0 E ?_;refine tk 1 E ?_;refine tk 2 E ?_;refine tk 3 E ?_;refine tk 4 E ?_;refine tk 5 E ?_;refine wpAnyH_ready (rs:=[6,7]) (by kernel_rfl) (by simp) ?_;refine AllReadyH.cons rfl (λK B=>?_) (AllReadyH.cons rfl (λK B=>?_) AllReadyH.nil)
    ·go_simp
     go_at_call 73
     refine(HX.out _ V.out).mono ?_;rintro e vc ⟨g,n,rfl,ap⟩;have I:Hid (Xm b.heap.size b vc):=V.out.trans (ap.mono V.out.size);have hq:=Aa (HD.out vc I.out);clear ap
     go_wp2_with fail
     refine B.out _ _ hq.out (λE=>?_);clear B K hq
     try simp only[XG,sq]
     refine rd 7 (λK B=>?_)
     go_simp
     obtain⟨Q,X⟩:∃A,vc.alloc (.cells #[.string ⟨#[]⟩,.int .i64 0,.bool false,.int .i64 0,.bool false,.int .i64 0,.int .i64 0,.int .i64 0,.string ⟨#[]⟩] 177)=A:=⟨_,rfl⟩;have aT:Hid (Xm vc.heap.size vc Q):=by rw[<-X];exact(Xq _ _).alloc (Xd _) _
     have Z:Q.heap[vc.heap.size]?=some (.cells #[.string ⟨#[]⟩,.int .i64 0,.bool false,.int .i64 0,.bool false,.int .i64 0,.int .i64 0,.int .i64 0,.string ⟨#[]⟩] 177):=by rw[<-X];exact World.alloc_heap_new vc _
     have J:Hid (Xm b.heap.size b Q):=I.out.trans (aT.out.mono I.out.size)
     try rw[X]
     clear X;refine B.out _ _ (HD.out Q J.out) (λE=>?_);clear B K
     try simp only[XG,sq]
     obtain⟨Z1,ax,G,az⟩:=Rp (.string (bs y.op)) (.int .i64 y.r) (.bool y.aR) (.int .i64 y.aN) (.bool y.bR) (.int .i64 y.bN) (.int .i64 y.x) (.int .i64 g) (.string (bs n)) Z;have ad:Xm b.heap.size b Z1:=⟨G.os.trans J.out.os,G.tape.trans J.out.tape,G.output.trans J.out.output,Xu J.out.size G.size,λk hk=>(G.block k (by have:=J.out.size;omega) (by have:=I.out.size;omega)).trans (J.out.block k hk)⟩;refine rd 8 (λK B=>?_);refine Fp _ _ _ rfl vc.heap.size 0 (Do y g n) rfl rfl (PG Z) (λj _=>Ao Z _) Tryz.sizeIns (Rh y g n) ?_;rw[show (Do y g n).toList=[.string (bs y.op),.int .i64 y.r,.bool y.aR,.int .i64 y.aN,.bool y.bR,.int .i64 y.bN,.int .i64 y.x,.int .i64 g,.string (bs n)] from rfl,ax];refine B.out _ _ (HD.out Z1 ad) (λE=>?_);clear B K
     try simp only[XG,sq]
     refine Yd (by kernel_rfl) ?_ _;have HF:=Aa (⟨az,ad⟩:_/\_);clear E Z G az ad ax
     go_wp2_with fail
     go_meet
     exact⟨_,g,n,rfl,HF.out.1,HF.out.2⟩
    ·go_simp
     obtain⟨Q,X⟩:∃A,(wr.alloc (.cells #[.string ⟨#[]⟩,.int .i64 0,.bool false,.int .i64 0,.bool false,.int .i64 0,.int .i64 0,.int .i64 0,.string ⟨#[]⟩] 177)).drew=A:=⟨_,rfl⟩;have ak:Xm wr.heap.size wr Q:=by rw[<-X];exact((Xq _ _).alloc (Xd _) _).drew
     have aT:Hid (Xm wr.drew.heap.size wr.drew Q):=⟨ak.os,ak.tape,ak.output,ak.size,ak.block⟩;have Z:Hid (Q.heap[wr.heap.size]?=some (.cells #[.string ⟨#[]⟩,.int .i64 0,.bool false,.int .i64 0,.bool false,.int .i64 0,.int .i64 0,.int .i64 0,.string ⟨#[]⟩] 177)):=by rw[<-X];exact World.alloc_heap_new wr _
     have J:Hid (Xm b.heap.size b Q):=V.out.trans (aT.out.mono V.out.size)
     try rw[X]
     clear X ak;refine B.out _ _ (HD.out Q J.out) (λE=>?_);clear B K
     try simp only[XG,sq]
     refine rd 6 (λK B=>?_)
     go_simp
     go_at_call 73
     refine(HX.out _ J.out).mono ?_;rintro e vc ⟨g,n,rfl,ap⟩;have I:Hid (Xm b.heap.size b vc):=J.out.trans (ap.mono J.out.size);have hq:=Aa (HD.out vc I.out);have kC:Hid (vc.heap[wr.heap.size]?=some (.cells #[.string ⟨#[]⟩,.int .i64 0,.bool false,.int .i64 0,.bool false,.int .i64 0,.int .i64 0,.int .i64 0,.string ⟨#[]⟩] 177)):=(ap.block _ (Array.getElem?_eq_some_iff.1 Z.out).1).trans Z.out;clear ap
     go_wp2_with fail
     refine B.out _ _ hq.out (λE=>?_);clear B K hq
     try simp only[XG,sq]
     obtain⟨Z1,ax,G,az⟩:=Rp (.string (bs y.op)) (.int .i64 y.r) (.bool y.aR) (.int .i64 y.aN) (.bool y.bR) (.int .i64 y.bN) (.int .i64 y.x) (.int .i64 g) (.string (bs n)) kC.out;have ad:Xm b.heap.size b Z1:=⟨G.os.trans I.out.os,G.tape.trans I.out.tape,G.output.trans I.out.output,Xu I.out.size G.size,λk hk=>(G.block k (by have:=I.out.size;omega) (by have:b.heap.size<=wr.heap.size:=V.out.size;omega)).trans (I.out.block k hk)⟩;refine rd 8 (λK B=>?_);refine Fp _ _ _ rfl wr.heap.size 0 (Do y g n) rfl rfl (PG kC.out) (λj _=>Ao kC.out _) Tryz.sizeIns (Rh y g n) ?_;rw[show (Do y g n).toList=[.string (bs y.op),.int .i64 y.r,.bool y.aR,.int .i64 y.aN,.bool y.bR,.int .i64 y.bN,.int .i64 y.x,.int .i64 g,.string (bs n)] from rfl,ax];refine B.out _ _ (HD.out Z1 ad) (λE=>?_);clear B K
     try simp only[XG,sq]
     refine Yd (by kernel_rfl) ?_ _;have HF:=Aa (⟨az,ad⟩:_/\_);clear E Z kC G az ad ax
     go_wp2_with fail
     go_meet
     exact⟨_,g,n,rfl,HF.out.1,HF.out.2⟩
   case rest=>
    obtain⟨nb,g,n,rfl,kn,U⟩:=hcut;unfold Do at kn;obtain⟨i0,i1,i2,i3,i4,i5,i6,i7,i8⟩:=Dv kn;replace U:=Aa U;clear kn i1 i2 i3 i4 i5 i7 i8;have hL:((bs y.op).toList == [108,111,97,100])=(y.op == Bq):=by rw[AL];rfl
    have hS:((bs y.op).toList == [115,116,111,114,101])=(y.op == AH):=by rw[AL];rfl
    have M:Ch x y=((y.op == Bq||y.op == AH)&&y.x == x):=rfl
    cases ao:(y.op == Bq) with
    |true=>
     have T:(y.op == AH)=false:=by
      have:y.op=Bq:=by simpa using ao
      rw[this];rfl
     rw[ao] at hL;rw[T] at hS
     cases av:(y.x == x) with
     |true=>
      have d:Ch x y=true:=by rw[M,ao,av];rfl
      cases an with
      |true=>
       have o:Hid ((l.take (i+1)).countP (Ch x)=D+1/\((l.take (i+1)).any λy=>Ch x y&&y.op == AH)=true):=by
        obtain⟨-,s,z⟩:=f.out;refine⟨by rw[s,if_pos d],by rw[z,T,agq,Zs]⟩
       clear d M
       go_wp2_with fail
       go_roundw
       case rel=>
        (try rw[F])
        (try rw[ah])
        exact⟨i+1,f.out.1,rfl,by(rw[o.out.1];try rfl),by rw[o.out.2],U.out⟩
       case measure=>
        (try rw[F])
        exact Xl f.out.1 (Xo i)
      |false=>
       have o:Hid ((l.take (i+1)).countP (Ch x)=D+1/\((l.take (i+1)).any λy=>Ch x y&&y.op == AH)=false):=by
        obtain⟨-,s,z⟩:=f.out;refine⟨by rw[s,if_pos d],by rw[z,T,agq,Zs]⟩
       clear d M
       go_wp2_with fail
       go_roundw
       case rel=>
        (try rw[F])
        (try rw[ah])
        exact⟨i+1,f.out.1,rfl,by(rw[o.out.1];try rfl),by rw[o.out.2],U.out⟩
       case measure=>
        (try rw[F])
        exact Xl f.out.1 (Xo i)
     |false=>
      have d:Ch x y=false:=by rw[M,av,agq]
      have o:Hid ((l.take (i+1)).countP (Ch x)=D/\((l.take (i+1)).any λy=>Ch x y&&y.op == AH)=an):=by
       obtain⟨-,s,z⟩:=f.out;refine⟨by rw[s,d];rfl,by rw[z,d,Bool.false_and,Zs]⟩
      clear d M
      go_wp2_with fail
      go_roundw
      case rel=>
       (try rw[F])
       (try rw[ah])
       exact⟨i+1,f.out.1,rfl,by(rw[o.out.1];try rfl),by rw[o.out.2],U.out⟩
      case measure=>
       (try rw[F])
       exact Xl f.out.1 (Xo i)
    |false=>
     rw[ao] at hL
     cases T:(y.op == AH) with
     |true=>
      rw[T] at hS
      cases av:(y.x == x) with
      |true=>
       have d:Ch x y=true:=by rw[M,ao,T,av];rfl
       cases an with
       |true=>
        have o:Hid ((l.take (i+1)).countP (Ch x)=D+1/\((l.take (i+1)).any λy=>Ch x y&&y.op == AH)=true):=by
         obtain⟨-,s,z⟩:=f.out;refine⟨by rw[s,if_pos d],by rw[z,Bool.true_or]⟩
        clear d M
        go_wp2_with fail
        go_roundw
        case rel=>
         (try rw[F])
         (try rw[ah])
         exact⟨i+1,f.out.1,rfl,by(rw[o.out.1];try rfl),by rw[o.out.2],U.out⟩
        case measure=>
         (try rw[F])
         exact Xl f.out.1 (Xo i)
       |false=>
        have o:Hid ((l.take (i+1)).countP (Ch x)=D+1/\((l.take (i+1)).any λy=>Ch x y&&y.op == AH)=true):=by
         obtain⟨-,s,z⟩:=f.out;refine⟨by rw[s,if_pos d],by rw[z,d,T];rfl⟩
        clear d M
        go_wp2_with fail
        go_roundw
        case rel=>
         (try rw[F])
         (try rw[ah])
         exact⟨i+1,f.out.1,rfl,by(rw[o.out.1];try rfl),by rw[o.out.2],U.out⟩
        case measure=>
         (try rw[F])
         exact Xl f.out.1 (Xo i)
      |false=>
       have d:Ch x y=false:=by rw[M,av,agq]
       have o:Hid ((l.take (i+1)).countP (Ch x)=D/\((l.take (i+1)).any λy=>Ch x y&&y.op == AH)=an):=by
        obtain⟨-,s,z⟩:=f.out;refine⟨by rw[s,d];rfl,by rw[z,d,Bool.false_and,Zs]⟩
       clear d M
       go_wp2_with fail
       go_roundw
       case rel=>
        (try rw[F])
        (try rw[ah])
        exact⟨i+1,f.out.1,rfl,by(rw[o.out.1];try rfl),by rw[o.out.2],U.out⟩
       case measure=>
        (try rw[F])
        exact Xl f.out.1 (Xo i)
     |false=>
      rw[T] at hS;have d:Ch x y=false:=by rw[M,ao,T];rfl
      have o:Hid ((l.take (i+1)).countP (Ch x)=D/\((l.take (i+1)).any λy=>Ch x y&&y.op == AH)=an):=by
       obtain⟨-,s,z⟩:=f.out;refine⟨by rw[s,d];rfl,by rw[z,d,Bool.false_and,Zs]⟩
      clear d M
      go_wp2_with fail
      go_roundw
      case rel=>
       (try rw[F])
       (try rw[ah])
       exact⟨i+1,f.out.1,rfl,by(rw[o.out.1];try rfl),by rw[o.out.2],U.out⟩
      case measure=>
       (try rw[F])
       exact Xl f.out.1 (Xo i)
  ·have bM:i=O.length:=by omega
   have bl:l.take i=l:=XQ (by omega);rw[bl];obtain⟨D,aj⟩:∃c,l.countP (Ch x)=c:=⟨_,rfl⟩;obtain⟨an,aq⟩:∃a,(l.any λy=>Ch x y&&y.op == AH)=a:=⟨_,rfl⟩;rw[aj,aq] at N;rw[aj,aq];have HF:=Aa (HB.out.trans ((aB.out.trans (hb.mono aB.out.size)).mono HB.out.size));replace N:=Aa N;subst bM;clear hi h5 hb Y h4 R au bl aj aq
   by_cases e1:1<D
   ·have d1:=Aa (decide_eq_true e1);have d2:decide ((1:Int)<(D:Int))=true:=decide_eq_true (by omega);have d3:(1:Int)<(D:Int):=by omega
    clear e1
    go_wp2_with fail
    go_ret
    exact⟨by rw[N.out,d1.out];cases an<;>rfl,HF.out⟩
   ·have d1:=Aa (decide_eq_false e1);have d2:decide ((1:Int)<(D:Int))=false:=decide_eq_false (by omega);have d3:¬(1:Int)<(D:Int):=by omega
    clear e1
    go_wp2_with fail
    go_ret
    exact⟨by(rw[N.out,d1.out];rfl),HF.out⟩
end
structure WI (w wr:Xh) (l:List Tx) (s:Tx) (i:Nat) (d:Bool) (ov:Xk) (ol:List Tx):Prop where
 le:i<=l.length
 row:wr.ownsRow w.heap.size 9 1 ov ol.length (ol.map λx=>Yi (bs x))
 bel:Xm w.heap.size w wr
 len:ol.length<=i+1
 no:d=false->ol=l.take i/\∀j x,j<i->l[j]?=some x->x≠s/\AN s x=false
 yes:d=true->ol++l.drop i=Cb s l/\∃k x,k<i/\l[k]?=some x/\AN s x=true
def CZ (lo:Nat) (a:Option YV):Prop:=a=none\/∃b off,a=some ⟨b,off,none⟩/\lo<=b
theorem CZ.mono {d c:Nat} {a:Option YV} (h:CZ d a) (f:c<=d):CZ c a:=h.imp id fun⟨b,g,e,q⟩=>⟨b,g,e,Xu f q⟩
theorem NH {w:Xh} {base e f n m c:Nat} {a:Option YV} {i:List Xk} (h:w.ownsRow base e f (.slice a n c) m i):CZ base a:=by
 rcases h.2 with⟨b,_⟩|⟨g,cap,j,b,d,_⟩
 ·exact .inl (by injection b)
 ·exact .inr ⟨g,0,by injection b,d⟩
theorem UW {l:List Tx} {i:Nat} {x:Tx} (h:l[i]?=some x):l.take (i+1)=l.take i++[x]:=by rw[Yo,h];rfl
theorem LK {l:List Tx} {i:Nat} {x:Tx} (h:l[i]?=some x):l.drop i=x::l.drop (i+1):=by
 obtain⟨a,e⟩:=List.getElem?_eq_some_iff.1 h;rw[<-e];exact List.drop_eq_getElem_cons a
theorem OJ {w:Xh} {a:Option YV} {cap:Nat} {l:List Tx} {s:Tx} (C:Ts w a l) (D:FN l) (r:l.length<=20000) (F:s.length<4294967296) (G:∀x,x∈l->x.length<4294967296) :
 XY Tryz.prog 35 #[.slice a l.length cap,.string (bs s)] w λe w'=>∃f E,e = .returned (.slice f (Cb s l).length E)/\Ts w' f (Cb s l)/\(f=a\/CZ w.heap.size f)/\Xm w.heap.size w w':=by
 have HP:=Aa (⟨C,D,r,F,G⟩:_/\_/\_/\_/\_);clear C D r F G
 go_enter Tryz.func35,Tryz.ntmps35
 go_wp2_with fail
 go_loopw [5,6,7] (λov dv iv wr=>∃(i:Nat) (d:Bool) (m:List Tx),iv = .int .i64 i/\dv = .bool d/\WI w wr l s i d ov m) (λ_ _ iv _=>l.length - (intOf iv).toNat)
 case atStart=>exact⟨0,false,[],rfl,rfl,Xx _,World.ownsRow_nil _ _ _ _,Xq _ _,Xx _,λ_=>⟨rfl,λj x hj=>absurd hj (Nat.not_lt_zero j)⟩,(λh=>by cases h)⟩
 case round=>
  obtain⟨i,d,m,rfl,rfl,c⟩:=hrel;obtain⟨C,D,r,F,G⟩:=HP.out;obtain⟨oa,oc,az⟩:=As c.row;subst az;have P:XN ((i:Int)+1)=(i:Int)+1:=by have:=c.le;unfold XN;omega
  by_cases n:i<l.length
  ·have aD:(i:Int)<(l.length:Int):=by omega
   obtain⟨x,o⟩:∃x,l[i]?=some x:=⟨_,Xe n⟩;obtain⟨b,U,rfl,Z,S⟩:=C i n;have ab:l.getD i []=x:=by rw[Xc,o];rfl
   rw[ab] at S;have cell:∀u,Xm w.heap.size w u->u.cell? ⟨b,U+i,none⟩=some (.string (bs x)):=λu hu=>(hu.cell (p:=⟨b,U+i,none⟩) Z).trans S;have c1:=cell wr c.bel;have ao:((bs x).toList == (bs s).toList)=decide (x=s):=by rw[AL,AL];exact Bool.eq_iff_iff.2 (by simp)
   have A:=c.len
   by_cases e:x=s
   ·have hd:d=false:=by
     cases d with
     |false=>rfl
     |true=>
      obtain⟨-,k,y,X,K,I⟩:=c.yes rfl;have:=Wv D X K o;rw[e] at this;have:=Jn s y s I this;rw[Kb] at this;cases this
    have M:Cb s l=l:=by
     rw[KG i l (c.no hd).2,LK o,e,Ux,<-e,<-LK o,List.take_append_drop]
    have R:decide (x=s)=true:=decide_eq_true e;rw[R] at ao;have V:Hid (∃f E,YE (Yn (some ⟨b,U,none⟩) l.length cap) = .returned (.slice f (Cb s l).length E)/\Ts wr f (Cb s l)/\(f=some ⟨b,U,none⟩\/CZ w.heap.size f)/\Xm w.heap.size w wr):=⟨some ⟨b,U,none⟩,cap,by rw[M],by rw[M];exact C.below c.bel,.inl rfl,c.bel⟩;clear c M hd cell e R o ab S Z C D r F G A n
    go_wp2_with fail
    go_ret
    exact V.out
   ·have R:decide (x=s)=false:=decide_eq_false e;rw[R] at ao;have am:x.length<4294967296:=G x (Xz o)
    cases d with
    |true=>
     obtain⟨N,k,y,X,K,I⟩:=c.yes rfl;obtain⟨g,c2,w3,J,q,v⟩:=JJ c.row x (by omega) c.bel.size;have H:Hid (i+1<=l.length/\WI w w3 l s (i+1) true (.slice (some ⟨g,0,none⟩) (m.length+1) c2) (m++[x])):=by
      refine⟨n,n,q,c.bel.trans (v _ (Xd _)),by rw[Xb];show m.length+1<=_;omega,(λh=>by cases h),λ_=>⟨?_,k,y,by omega,K,I⟩⟩;rw[<-N,LK o,X3];rfl
     clear c N q v cell e R o ab S Z C D r F G A n am X K I
     go_wp2_with (at_builtin;refine Dl rfl _ _ _ rfl rfl rfl rfl J ?_)
     go_roundw
     case rel=>
      (try rw[P])
      exact⟨i+1,true,m++[x],rfl,rfl,H.out.2⟩
     case measure=>
      (try rw[P])
      exact Xl H.out.1 (Xo i)
    |false=>
     obtain⟨t,B⟩:=c.no rfl;have ap:=Aa (abU s x wr F am);have HI:=Aa (⟨c,t,B,o,n,e,A,r⟩:_/\_/\_/\_/\_/\_/\_/\_);replace cell:=Aa cell;clear c t B e R o ab S Z C D r F G A n am
     go_wp2_with fail
     refine ap.out.mono ?_;rintro Q w2 ⟨rfl,ad⟩;obtain⟨c,t,B,o,n,e,A,r⟩:=HI.out;have O:=c.bel.trans (ad.mono c.bel.size);have Y:w2.ownsRow w.heap.size 9 1 (.slice oa m.length oc) m.length (m.map λx=>Yi (bs x)):=DW c.row λk X=>ad.block k (c.row.lt k X).2;clear c1 ap
     cases I:AN s x with
     |true=>
      obtain⟨g,c2,w3,J,q,v⟩:=JJ Y s (by omega) O.size;have ac:=O.trans (v _ (Xd _));obtain⟨g4,c4,w4,aa,ai,aq⟩:=JJ q x (by rw[Xb];show m.length+1<_;omega) ac.size;rw[Xb,show (([s]:List Tx)).length=1 from rfl] at aa ai;have c3:=cell.out w3 ac;have H:Hid (i+1<=l.length/\WI w w4 l s (i+1) true (.slice (some ⟨g4,0,none⟩) (m.length+1+1) c4) (m++[s]++[x])):=by
       refine⟨n,n,?_,ac.trans (aq _ (Xd _)),?_,(λh=>by cases h),λ_=>⟨?_,i,x,Xo i,o,I⟩⟩
       ·exact ai
       ·rw[Xb,Xb];show m.length+1+1<=_;have:m.length<=i:=by rw[t,Yc];omega
        omega
       ·rw[KG i l B,LK o,Uy e I,t]
        simp
      clear c t B o n e A r ad O Y q v ac ai aq HI cell;replace aa:=Aa aa
      go_upto_region 11 with (at_builtin;refine Dl rfl _ _ _ rfl rfl rfl rfl J ?_)
      clear J;have av:=aa.out
      go_wp2_with (at_builtin;refine Dl rfl _ _ _ rfl rfl rfl rfl av ?_)
      go_roundw
      case rel=>
       (try rw[P])
       exact⟨i+1,true,m++[s]++[x],rfl,rfl,H.out.2⟩
      case measure=>
       (try rw[P])
       exact Xl H.out.1 (Xo i)
     |false=>
      obtain⟨g,c2,w3,J,q,v⟩:=JJ Y x (by omega) O.size;have c3:=cell.out w2 O;have H:Hid (i+1<=l.length/\WI w w3 l s (i+1) false (.slice (some ⟨g,0,none⟩) (m.length+1) c2) (m++[x])):=by
       refine⟨n,n,q,O.trans (v _ (Xd _)),by rw[Xb];show m.length+1<=_;omega,λ_=>⟨by rw[UW o,t],λj y hj K=>?_⟩,(λh=>by cases h)⟩
       by_cases z:j=i
       ·rw[z,o] at K
        cases K
        exact⟨e,I⟩
       ·exact B j y (by omega) K
      clear c t B o n e A r ad O Y q v HI cell
      go_wp2_with (at_builtin;refine Dl rfl _ _ _ rfl rfl rfl rfl J ?_)
      go_roundw
      case rel=>
       (try rw[P])
       exact⟨i+1,false,m++[x],rfl,rfl,H.out.2⟩
      case measure=>
       (try rw[P])
       exact Xl H.out.1 (Xo i)
  ·have W:i=l.length:=by have:=c.le;omega
   have A:=c.len
   cases d with
   |true=>
    obtain⟨N,-⟩:=c.yes rfl;rw[W,afX,Yf] at N;obtain⟨f,E,T,Q⟩:=IX c.row;have e3:oa=f:=by injection T
    clear T;subst e3;have V:Hid (∃f E,YE (Yn oa m.length oc) = .returned (.slice f (Cb s l).length E)/\Ts wr f (Cb s l)/\(f=a\/CZ w.heap.size f)/\Xm w.heap.size w wr):=⟨_,oc,by rw[<-N],by rw[<-N];exact Q,.inr (NH c.row),c.bel⟩;subst W;clear c N Q C D r F G A n
    go_wp2_with fail
    go_ret
    exact V.out
   |false=>
    obtain⟨t,B⟩:=c.no rfl;obtain⟨g,c2,w3,J,q,v⟩:=JJ c.row s (by omega) c.bel.size;have M:Cb s l=m++[s]:=by
     rw[KG i l B,W,afX,t,W];rfl
    obtain⟨f,E,T,Q⟩:=IX q;have e3:some ⟨g,0,none⟩=f:=by injection T
    clear T;subst e3;have V:Hid (∃f E,YE (Yn (some ⟨g,0,none⟩) (m.length+1) c2) = .returned (.slice f (Cb s l).length E)/\Ts w3 f (Cb s l)/\(f=a\/CZ w.heap.size f)/\Xm w.heap.size w w3):=⟨_,c2,by rw[M,Xb];rfl,by rw[M];exact Q,.inr (NH q),c.bel.trans (v _ (Xd _))⟩;subst W;clear c t B Q C D r F G A n M q v
    go_wp2_with (at_builtin;refine Dl rfl _ _ _ rfl rfl rfl rfl J ?_)
    go_ret
    exact V.out
end Go.Proofs.YtdcacoifehkioaaGreatDoor
