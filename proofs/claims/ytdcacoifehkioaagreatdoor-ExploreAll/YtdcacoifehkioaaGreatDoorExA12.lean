import Derived.Test.YtdcacoifehkioaaGreatDoorExA11
import Derived.BigQuiet
open Go renaming World->Xh,Calls->XY,Value->Xk,heap_setCell_same->Xj,bodyPost_ret->XI,ownsRow_succ->Y5
open Nat renaming zero_le->Xx,le_refl->Xd,sub_lt_sub_left->Xl,lt_succ_self->Xo,lt_of_lt_of_le->XF,le_of_not_lt->afe
open List renaming getElem?_eq_getElem->Xe,take_length->Yp,getElem?_eq_some_iff->Xf,getElem?_map->Xs,map_map->Zv
open Go.World renaming alloc_heap_new->Xi,cell?->Xg,ownsRow_nil->XE,alloc->Zy
open Go.RowKit renaming Below->Xm,wrap64->XN
open Go.RowKit.Below renaming refl->Xq,heap_setCell->Xn
open Go.IntWalk renaming wrap64_in->XZ
open Array renaming getElem?_eq_some_iff->Xa
set_option maxRecDepth 100000
set_option maxHeartbeats 2000000
set_option linter.unusedVariables false
set_option linter.unusedSimpArgs false
namespace Go.Proofs.YtdcacoifehkioaaGreatDoor
open Go.RowKit Go.Proofs.Cod
theorem Of (s t:Tx):((bs s).toList == t)=(s == t):=by rw[AL]
theorem aaa {w:Xh} {a:Nat->RT} {base O:Nat} {P:RP} {U:RV} (h:Ak w a base O P U) (hb:P.thr.length<1000) (aQ:∀th,th∈P.thr->th.code.length<4000/\th.labs.length<4000) :
 XY Tryz.prog 52 #[Ab O] w λe w'=>Ah w a w' a/\((∃n,FE P P.thr=some n/\e = .returned (.int .i64 n))\/(FE P P.thr=none/\e = .returned (.int .i64 0)/\Ak w' a base O {P with thr:=P.thr.map (Ez P)} U)):=by
 have HX:=Aa (Ah.refl w a);have H:=Aa h;replace aQ:=Aa aQ;replace hb:=Aa hb;unfold Ab;clear h
 go_enter Tryz.func52,Tryz.ntmps52
 go_wp2_with fail
 go_loopw [3] (λu wr=>∃i:Nat,i<=P.thr.length/\u = .int .i64 i/\FE P (P.thr.take i)=none/\Ak wr a base O (P.res i) U/\Ah w a wr a) (λu _=>P.thr.length - (intOf u).toNat)
 case atStart=>exact⟨0,Xx _,rfl,rfl,by rw[WA];exact H.out,HX.out⟩
 case round=>
  obtain⟨i,hi,rfl,W,D,hX⟩:=hrel;clear HX H;have c3:=D.Ha
  by_cases h5:i<P.thr.length
  ·obtain⟨th,f⟩:∃th,P.thr[i]?=some th:=⟨_,Xe h5⟩;obtain⟨p,m⟩:∃p,U.TV[i]?=some p:=⟨_,Xe (by rw[D.len,MN];exact h5)⟩;have ap:=WE f;obtain⟨gt,bh,hV⟩:=D.KJ ap;rw[hV,MN] at c3;have bd:(i:Int)<(P.thr.length:Int):=by omega
   have t0:wr.cell? ⟨gt,i*3,none⟩=some (.string (bs th.name)):=D.Hb ap m (r:=0) (by omega) hV;have t1:wr.cell? ⟨gt,i*3+1,none⟩=some p.1:=D.Hb ap m (r:=1) (by omega) hV;have t2:wr.cell? ⟨gt,i*3+2,none⟩=some p.2:=D.Hb ap m (r:=2) (by omega) hV;obtain⟨ca,Q,aO⟩:=As (D.ths i th p ap m).code;obtain⟨I,E,aE⟩:=As (D.ths i th p ap m).labs;rw[aO] at t1;rw[aE] at t2;have af:=aQ.out th (List.mem_of_getElem? f);have V:=Aa (⟨D,hX,W,af⟩:_/\_/\_/\_);have aR:gt<wr.heap.size:=World.block_lt_of_cell? wr ⟨gt,i*3,none⟩ t0;replace aR:=Aa aR;replace f:=Aa f;replace m:=Aa m;replace aO:=Aa aO;replace aE:=Aa aE;replace hi:=Aa hi;replace h5:=Aa h5;clear D hX W af ap hV
   rename Xh=>wo
   go_wp2_with fail
   have aA:=Xi wo (.cells #[.string (bs th.name),.slice ca th.code.length Q,.slice I th.labs.length E] 199);have aT:Xm wo.heap.size wo (wo.alloc (.cells #[.string (bs th.name),.slice ca th.code.length Q,.slice I th.labs.length E] 199)):=(Xq _ _).alloc (Xd _) _;have aH:wo.heap.size<(wo.alloc (.cells #[.string (bs th.name),.slice ca th.code.length Q,.slice I th.labs.length E] 199)).heap.size:=by simp
   have aG:a wo.heap.size = .o:=by
    cases ht:a wo.heap.size with
    |o=>rfl
    |_=>exact absurd (V.out.1.tlt wo.heap.size (by rw[ht];simp)).2 (by omega)
   have a9:Ak (wo.alloc (.cells #[.string (bs th.name),.slice ca th.code.length Q,.slice I th.labs.length E] 199)) a base O (P.GA i 0 th) U:=by rw[WM f.out];exact V.out.1.below aT
   have aq:Ah w a (wo.alloc (.cells #[.string (bs th.name),.slice ca th.code.length Q,.slice I th.labs.length E] 199)) a:=V.out.2.1.trans (.CF aT);have W:=Aa V.out.2.2.1;have af:=Aa V.out.2.2.2;clear V aT t0 t1 t2 c3 bd;generalize wo.alloc (.cells #[.string (bs th.name),.slice ca th.code.length Q,.slice I th.labs.length E] 199)=wi at *;generalize wo.heap.size=tb at *;replace aA:=Aa aA;replace aH:=Aa aH;replace aG:=Aa aG;have a5:=Aa a9;replace aq:=Aa aq;clear a9 aR
   go_loopw [5] (λu wr=>∃k:Nat,k<=th.code.length/\u = .int .i64 k/\EI P th (th.code.take k)=none/\Ak wr a base O (P.GA i k th) U/\Ah wi a wr a) (λu _=>th.code.length - (intOf u).toNat)
   case atStart=>exact⟨0,Xx _,rfl,rfl,a5.out,Ah.refl _ _⟩
   case round=>
    obtain⟨k,N,rfl,d,Z,g⟩:=hrel;clear a5;have ao:wr.heap[tb]?=some (.cells #[.string (bs th.name),.slice ca th.code.length Q,.slice I th.labs.length E] 199):=(g.block tb aH.out aG.out).trans aA.out;have d1:wr.cell? ⟨tb,1,none⟩=some (.slice ca th.code.length Q):=by simp[Xg,ao]
    by_cases t:k<th.code.length
    ·have a3:(k:Int)<(th.code.length:Int):=by omega
     obtain⟨r,c⟩:∃r,th.code[k]?=some r:=⟨_,Xe t⟩;rw[WG c] at Z;obtain⟨gc,bo,e⟩:=WK Z f.out m.out c;have e2:=aO.out;rw[e] at e2
     cases e2
     obtain⟨k0,k6,k7,k8,kf⟩:=KZ Z f.out m.out c e;have J:XN ((k:Int)+1)=(k:Int)+1:=XZ _ (by have:=af.out.1;omega);have b:=Aa (⟨d,g,e,c,t,N⟩:_/\_/\_/\_/\_/\_);have ax:=Aa Z;replace ao:=Aa ao;clear d g e c t N Z;have am:=Of (AG r.i.op) [116];have aa:=Of (AG r.i.op) [108];have au:=Of (AG r.i.op) [97,98,108]
     by_cases G:AG r.i.op=[116]
     ·have z:Hid (rX P th r=Aq P.names r.word):=by unfold Hid rX;rw[if_pos G]
      rw[G] at am aa au;have am:((bs (AG r.i.op)).toList == [116])=true:=by rw[G];exact am.trans (by decide)
      have aa:((bs (AG r.i.op)).toList == [108])=false:=by rw[G];exact aa.trans (by decide)
      have au:((bs (AG r.i.op)).toList == [97,98,108])=false:=by rw[G];exact au.trans (by decide)
      clear G;have R:=Lf r.i.op wr;have hT:=QJ ax.out r.word (by rw[WJ];have:=hb.out;omega);rw[WH f.out] at hT;unfold Ab at hT;generalize AG r.i.op=F at *;generalize Aq P.names r.word=v at *;obtain⟨aw,av⟩:=KX ax.out f.out m.out b.out.2.2.2.1 b.out.2.2.1 v;obtain⟨-,m6,m7,-,-⟩:=KZ aw f.out m.out b.out.2.2.2.1 b.out.2.2.1;have ad:=Aa (⟨aw,av⟩:_/\_);clear aw av
      by_cases hv:v<0
      ·go_wp2_with fail
       refine R.mono ?_;rintro e w2 ⟨rfl,rfl⟩
       go_wp2_with fail
       refine hT.mono ?_;rintro e w2 ⟨rfl,rfl⟩
       go_wp2_with fail
       go_ret
       obtain⟨d,g,e,c,t,N⟩:=b.out
       exact⟨(aq.out.trans g).trans ad.out.2,.inl ⟨r.line,LU f.out W.out (LW c d (by rw[z.out];exact hv)),rfl⟩⟩
      ·go_wp2_with fail
       refine R.mono ?_;rintro e w2 ⟨rfl,rfl⟩
       go_wp2_with fail
       refine hT.mono ?_;rintro e w2 ⟨rfl,rfl⟩
       go_wp2_with fail
       go_roundw
       case rel=>
        rw[J];obtain⟨d,g,e,c,t,N⟩:=b.out
        exact⟨k+1,t,rfl,LV c d (by rw[z.out];omega),by rw[<-KY c,z.out];exact ad.out.1,g.trans ad.out.2⟩
       case measure=>
        rw[J];exact Xl b.out.2.2.2.2.1 (Xo k)
     ·by_cases T:IN (AG r.i.op)=true
      ·have z:Hid (rX P th r=Gd r.word th.labs (-1)):=by unfold Hid rX;rw[if_neg G,if_pos T]
       have g1:(AG r.i.op == [116])=false:=by simpa using G
       rw[g1] at am;have R:=Lf r.i.op wr;have d2:wr.cell? ⟨tb,2,none⟩=some (.slice I th.labs.length E):=by simp[Xg,ao.out]
       obtain⟨aw,av⟩:=KX ax.out f.out m.out b.out.2.2.2.1 b.out.2.2.1 (-1);have ad:=Aa (⟨aw,av⟩:_/\_);have S:=Aa (b.out.2.1.trans av);have hL:(AG r.i.op == [108])=true\/((AG r.i.op == [108])=false/\(AG r.i.op == [97,98,108])=true):=by
        cases g2:(AG r.i.op == [108]) with
        |true=>exact .inl rfl
        |false=>simp[IN,g2] at T;exact .inr ⟨rfl,by simp[T]⟩
       clear aw av G T g1;generalize AG r.i.op=F at *
       rcases hL with hL|⟨hL,aU⟩
       ·rw[hL] at aa;clear au hL
        go_wp2_with fail
        refine R.mono ?_;rintro e w2 ⟨rfl,rfl⟩
        go_wp2_with fail
        generalize ah:World.setCell _ _ _=w4;have aC:Hid (Ak w4 a base O (P.Dt i k th r (-1)) U):=by rw[<-ah];exact ad.out.1
        have S:Hid (Ah wi a w4 a):=by rw[<-ah];exact S.out
        clear ah ad d1 d2 k0 k6 k7 k8 kf R ax ao am aa J a3
        go_loopw [8] (λu wr=>∃j:Nat,j<=th.labs.length/\u = .int .i64 j/\Ak wr a base O (P.Dt i k th r (Gd r.word (th.labs.take j) (-1))) U/\Ah w4 a wr a) (λu _=>th.labs.length - (intOf u).toNat)
        case atStart=>exact⟨0,Xx _,rfl,aC.out,Ah.refl _ _⟩
        case round=>
         obtain⟨j,hj,rfl,y,B⟩:=hrel;clear aC;have ai:wr.heap[tb]?=some (.cells #[.string (bs th.name),.slice (some ⟨gc,0,none⟩) th.code.length Q,.slice I th.labs.length E] 199):=((S.out.trans B).block tb aH.out aG.out).trans aA.out;have d2:wr.cell? ⟨tb,2,none⟩=some (.slice I th.labs.length E):=by simp[Xg,ai]
         obtain⟨-,m6,m7,m8,mf⟩:=KZ y f.out m.out b.out.2.2.2.1 b.out.2.2.1;replace ai:=Aa ai
         by_cases q:j<th.labs.length
         ·have bm:(j:Int)<(th.labs.length:Int):=by omega
          obtain⟨l,hl⟩:∃l,th.labs[j]?=some l:=⟨_,Xe q⟩;obtain⟨gl,be,e,l0,l1⟩:=Qv y f.out m.out hl;have e2:=aE.out;rw[e] at e2
          cases e2
          have X:XN ((j:Int)+1)=(j:Int)+1:=XZ _ (by have:=af.out.2;omega);have hF:((bs l.1).toList == (bs r.word).toList)=decide (l.1=r.word):=by
           rw[AL,AL]
           by_cases e:l.1=r.word<;>simp[e]
          have Y:Ah wr a wr.drew a:=⟨rfl,rfl,rfl,Xd _,λ_ _=>rfl,λ_ _ _=>rfl⟩;have A:=Ak.keep (w':=wr.drew) y (λ_ _=>rfl) Y;obtain⟨M,K⟩:=KX A f.out m.out b.out.2.2.2.1 b.out.2.2.1 (l.2:Int);have C:=RY (x:=r.word) hl (-1);have s:=Aa (⟨A,M,B.trans Y,(B.trans Y).trans K,C,q⟩:_/\_/\_/\_/\_/\_);clear A M K Y C y B q hj hl e
          by_cases e:l.1=r.word
          ·rw[decide_eq_true e] at hF;replace e:=Aa e
           go_wp2_with fail
           go_region
           all_goals
            go_wp2_with fail
            go_roundw
            case rel=>
             rw[X];obtain⟨A,M,aF,K,C,q⟩:=s.out
             exact⟨j+1,q,rfl,by rw[C,if_pos e.out];exact M,K⟩
            case measure=>
             rw[X];exact Xl s.out.2.2.2.2.2 (Xo j)
          ·rw[decide_eq_false e] at hF;replace e:=Aa e
           go_wp2_with fail
           go_region
           all_goals
            go_wp2_with fail
            go_roundw
            case rel=>
             rw[X];obtain⟨A,M,aF,K,C,q⟩:=s.out
             exact⟨j+1,q,rfl,by rw[C,if_neg e.out];exact A,aF⟩
            case measure=>
             rw[X];exact Xl s.out.2.2.2.2.2 (Xo j)
         ·have aP:j=th.labs.length:=by omega
          subst aP;rw[Yp] at y m6;have s:=Aa (⟨y,B⟩:_/\_);have J:XN ((k:Int)+1)=(k:Int)+1:=XZ _ (by have:=af.out.1;have:=b.out.2.2.2.2.1;omega);generalize Gd r.word th.labs (-1)=v at *;clear y B q hj
          by_cases hv:v<0
          ·go_wp2_with fail
           go_ret
           obtain⟨d,g,e,c,t,N⟩:=b.out
           exact⟨(aq.out.trans S.out).trans s.out.2,.inl ⟨r.line,LU f.out W.out (LW c d (by rw[z.out];exact hv)),rfl⟩⟩
          ·go_wp2_with fail
           go_roundw
           case rel=>
            rw[J];obtain⟨d,g,e,c,t,N⟩:=b.out
            exact⟨k+1,t,rfl,LV c d (by rw[z.out];omega),by rw[<-KY c,z.out];exact s.out.1,S.out.trans s.out.2⟩
           case measure=>
            rw[J];exact Xl b.out.2.2.2.2.1 (Xo k)
       ·rw[hL] at aa;rw[aU] at au;clear hL aU
        go_wp2_with fail
        refine R.mono ?_;rintro e w2 ⟨rfl,rfl⟩
        go_wp2_with fail
        generalize ah:World.setCell _ _ _=w4;have aC:Hid (Ak w4 a base O (P.Dt i k th r (-1)) U):=by rw[<-ah];exact ad.out.1
        have S:Hid (Ah wi a w4 a):=by rw[<-ah];exact S.out
        clear ah ad d1 d2 k0 k6 k7 k8 kf R ax ao am aa au J a3
        go_loopw [8] (λu wr=>∃j:Nat,j<=th.labs.length/\u = .int .i64 j/\Ak wr a base O (P.Dt i k th r (Gd r.word (th.labs.take j) (-1))) U/\Ah w4 a wr a) (λu _=>th.labs.length - (intOf u).toNat)
        case atStart=>exact⟨0,Xx _,rfl,aC.out,Ah.refl _ _⟩
        case round=>
         obtain⟨j,hj,rfl,y,B⟩:=hrel;clear aC;have ai:wr.heap[tb]?=some (.cells #[.string (bs th.name),.slice (some ⟨gc,0,none⟩) th.code.length Q,.slice I th.labs.length E] 199):=((S.out.trans B).block tb aH.out aG.out).trans aA.out;have d2:wr.cell? ⟨tb,2,none⟩=some (.slice I th.labs.length E):=by simp[Xg,ai]
         obtain⟨-,m6,m7,m8,mf⟩:=KZ y f.out m.out b.out.2.2.2.1 b.out.2.2.1;replace ai:=Aa ai
         by_cases q:j<th.labs.length
         ·have bm:(j:Int)<(th.labs.length:Int):=by omega
          obtain⟨l,hl⟩:∃l,th.labs[j]?=some l:=⟨_,Xe q⟩;obtain⟨gl,be,e,l0,l1⟩:=Qv y f.out m.out hl;have e2:=aE.out;rw[e] at e2
          cases e2
          have X:XN ((j:Int)+1)=(j:Int)+1:=XZ _ (by have:=af.out.2;omega);have hF:((bs l.1).toList == (bs r.word).toList)=decide (l.1=r.word):=by
           rw[AL,AL]
           by_cases e:l.1=r.word<;>simp[e]
          have Y:Ah wr a wr.drew a:=⟨rfl,rfl,rfl,Xd _,λ_ _=>rfl,λ_ _ _=>rfl⟩;have A:=Ak.keep (w':=wr.drew) y (λ_ _=>rfl) Y;obtain⟨M,K⟩:=KX A f.out m.out b.out.2.2.2.1 b.out.2.2.1 (l.2:Int);have C:=RY (x:=r.word) hl (-1);have s:=Aa (⟨A,M,B.trans Y,(B.trans Y).trans K,C,q⟩:_/\_/\_/\_/\_/\_);clear A M K Y C y B q hj hl e
          by_cases e:l.1=r.word
          ·rw[decide_eq_true e] at hF;replace e:=Aa e
           go_wp2_with fail
           go_region
           all_goals
            go_wp2_with fail
            go_roundw
            case rel=>
             rw[X];obtain⟨A,M,aF,K,C,q⟩:=s.out
             exact⟨j+1,q,rfl,by rw[C,if_pos e.out];exact M,K⟩
            case measure=>
             rw[X];exact Xl s.out.2.2.2.2.2 (Xo j)
          ·rw[decide_eq_false e] at hF;replace e:=Aa e
           go_wp2_with fail
           go_region
           all_goals
            go_wp2_with fail
            go_roundw
            case rel=>
             rw[X];obtain⟨A,M,aF,K,C,q⟩:=s.out
             exact⟨j+1,q,rfl,by rw[C,if_neg e.out];exact A,aF⟩
            case measure=>
             rw[X];exact Xl s.out.2.2.2.2.2 (Xo j)
         ·have aP:j=th.labs.length:=by omega
          subst aP;rw[Yp] at y m6;have s:=Aa (⟨y,B⟩:_/\_);have J:XN ((k:Int)+1)=(k:Int)+1:=XZ _ (by have:=af.out.1;have:=b.out.2.2.2.2.1;omega);generalize Gd r.word th.labs (-1)=v at *;clear y B q hj
          by_cases hv:v<0
          ·go_wp2_with fail
           go_ret
           obtain⟨d,g,e,c,t,N⟩:=b.out
           exact⟨(aq.out.trans S.out).trans s.out.2,.inl ⟨r.line,LU f.out W.out (LW c d (by rw[z.out];exact hv)),rfl⟩⟩
          ·go_wp2_with fail
           go_roundw
           case rel=>
            rw[J];obtain⟨d,g,e,c,t,N⟩:=b.out
            exact⟨k+1,t,rfl,LV c d (by rw[z.out];omega),by rw[<-KY c,z.out];exact s.out.1,S.out.trans s.out.2⟩
           case measure=>
            rw[J];exact Xl b.out.2.2.2.2.1 (Xo k)
      ·have z:Hid (rX P th r=r.i.x):=by unfold Hid rX;rw[if_neg G,if_neg T]
       have g1:(AG r.i.op == [116])=false:=by simpa using G
       have g2:(AG r.i.op == [108])=false:=by simp[IN] at T;simpa using T.1
       have g3:(AG r.i.op == [97,98,108])=false:=by simp[IN] at T;simpa using T.2
       rw[g1] at am;rw[g2] at aa;rw[g3] at au;clear G T g1 g2 g3;have R:=Lf r.i.op wr;generalize AG r.i.op=F at *
       by_cases hv:r.i.x<0
       ·go_wp2_with fail
        refine R.mono ?_;rintro e w2 ⟨rfl,rfl⟩
        go_wp2_with fail
        go_ret
        obtain⟨d,g,e,c,t,N⟩:=b.out
        exact⟨aq.out.trans g,.inl ⟨r.line,LU f.out W.out (LW c d (by rw[z.out];exact hv)),rfl⟩⟩
       ·go_wp2_with fail
        refine R.mono ?_;rintro e w2 ⟨rfl,rfl⟩
        go_wp2_with fail
        go_roundw
        case rel=>
         rw[J];obtain⟨d,g,e,c,t,N⟩:=b.out
         exact⟨k+1,t,rfl,LV c d (by rw[z.out];omega),by rw[<-KY c,z.out];exact ax.out,g⟩
        case measure=>
         rw[J];exact Xl b.out.2.2.2.2.1 (Xo k)
    ·have bk:k=th.code.length:=by omega
     subst bk;have b:=Aa (⟨d,g,Z⟩:_/\_/\_);have a7:XN ((i:Int)+1)=(i:Int)+1:=XZ _ (by have:=hb.out;have:=h5.out;omega);clear d g Z t N ao
     go_wp2_with fail
     go_roundw
     case rel=>
      rw[a7];obtain⟨d,g,Z⟩:=b.out;rw[Yp] at d
      exact⟨i+1,h5.out,rfl,aeJ f.out W.out d,by rw[<-WN f.out];exact Z,aq.out.trans g⟩
     case measure=>
      rw[a7];exact Xl h5.out (Xo i)
  ·have bi:i=P.thr.length:=by omega
   subst bi;have V:=Aa (⟨hX,W,D⟩:_/\_/\_);obtain⟨ta,bh,hV⟩:=As D.trow;rw[hV,MN] at c3;clear D hX W hV hi h5
   go_wp2_with fail
   go_ret
   refine⟨V.out.1,.inr ⟨?_,rfl,?_⟩⟩
   ·have:=V.out.2.1;rw[Yp] at this;exact this
   ·rw[<-WF];exact V.out.2.2
theorem JP {w:Xh} {fn:Func} {tmps:Array Xk} {b:Nat} {x y c f d e:Xk} (j:fn.results = #[.cell 2 28,.tmp 3,.tmp 4]) (i:tmps[2]?=some (.pointer (some ⟨b,0,none⟩))) (g:tmps[3]?=some x) (h:tmps[4]?=some y) (a:w.heap[b]?=some (.cells #[c,f,d,e] 28)):(results fn tmps).run Tryz.prog w = .ok (.tuple #[.agg #[c,f,d,e],x,y]) w:=by
 have c0:w.cell? ⟨b,0,none⟩=some c:=by simp[Xg,a]
 have c1:w.cell? ⟨b,1,none⟩=some f:=by simp[Xg,a]
 have c2:w.cell? ⟨b,2,none⟩=some d:=by simp[Xg,a]
 have c3:w.cell? ⟨b,3,none⟩=some e:=by simp[Xg,a]
 simp[results,j,i,g,h,go_sem,c0,c1,c2,c3]
def RV.new:RV:=⟨λ_=>.slice none 0 0,.slice none 0 0,[]⟩
def Fs (n:Nat):Nat->RT:=λb=>if b=n then .rd else .o
theorem Ak.new {w:Xh} {base a:Nat} (d:w.heap[a]?=some (.cells #[.slice none 0 0,.slice none 0 0,.slice none 0 0,.slice none 0 0] 28)) (f:base<=a):Ak w (Fs a) base a RP.new RV.new:=by
 have i:a<w.heap.size:=(Xa.1 d).1;refine⟨d,λk l=>⟨?_,λg e=>by cases e⟩,XE _ _ _ _,(λg e=>by cases e),rfl,(λj th p h=>by cases h),by simp[Fs],λb c=>?_,by omega⟩
 ·have e:RP.new.get k=[]:=by simp[RP.get,RP.new]
  rw[e];exact XE _ _ _ _
 ·unfold Fs at c
  split at c
  ·rename_i e;subst e;exact⟨f,i⟩
  ·exact absurd rfl c
def On (w:Xh) (t:Tx) (e:Ending) (w':Xh):Prop:=Xm w.heap.size w w'/\((∃er ln,BM t = .error (er,ln)/\e = .returned (.tuple #[.agg #[.slice none 0 0,.slice none 0 0,.slice none 0 0,.slice none 0 0],.int .i64 er,.int .i64 ln]))\/
 (∃s C tag pb P U,BM t = .ok (s,C)/\e = .returned (.tuple #[.agg #[U.V 118,U.V 102,U.V 109,U.tV],.int .i64 0,.int .i64 0])/\Ak w' tag w.heap.size pb P U/\(∀k,AR k->s.nms k=An P k)/\C=P.thr.map λth=>th.code.map RI.i))
structure Oo (w2:Xh) (tag0:Nat->RT) (base pb:Nat) (t:Tx) (i:Nat) (wr:Xh) (tag:Nat->RT) (s:PS) (P:RP) (U:RV):Prop where
 ln:CH ((Ar 10 t).take i) 0 PS.new = .ok s
 pl:PL P s
 labs:EL P i
 rf:Ak wr tag base pb P U
 ext:Ah w2 tag0 wr tag
theorem NV {w w1 w':Xh} {e g:Nat->RT} {n:Nat} (a:Xm n w w1) (c:Ah w1 e w' g) (f:∀b,b<n->e b = .o) (h:n<=w1.heap.size):Xm n w w':=
 ⟨c.os.trans a.os,c.tape.trans a.tape,c.output.trans a.output,Nat.le_trans a.size c.size,λb d=>(c.block b (by omega) (f b d)).trans (a.block b d)⟩
theorem UH (w:Xh) (A B:Obj):((w.alloc A).alloc B).heap[w.heap.size]?=some A/\((w.alloc A).alloc B).heap[w.heap.size+1]?=some B/\Xm w.heap.size w ((w.alloc A).alloc B)/\((w.alloc A).alloc B).heap.size=w.heap.size+2:=by
 refine⟨?_,?_,?_,by simp⟩
 ·rw[Below.heap_alloc _ B _ (by simp)];exact Xi w A
 ·have:=Xi (w.alloc A) B;rw[World.size_alloc] at this;exact this
 ·exact((Xq _ _).alloc (Xd _) _).alloc (by simp) _
theorem NJ {w:Xh} {n T:Nat} {l i h f:Xk} (k:w.heap[n]?=some (.cells #[l,i,h,f] T)) (a c d g:Xk):∃W,(((w.setCell ⟨n,0,none⟩ a).setCell ⟨n,1,none⟩ c).setCell ⟨n,2,none⟩ d).setCell ⟨n,3,none⟩ g=W/\W.heap[n]?=some (.cells #[a,c,d,g] T)/\(∀b,b≠n->W.heap[b]?=w.heap[b]?)/\W.heap.size=w.heap.size/\W.os=w.os/\W.tape=w.tape/\W.output=w.output:=by
 refine⟨_,rfl,?_,λb e=>?_,by simp,rfl,rfl,rfl⟩
 ·have m:=(Xj _ n 0 _ _ a k).trans (show _=some (Obj.cells #[a,i,h,f] T) from rfl);have o:=(Xj _ n 1 _ _ c m).trans (show _=some (Obj.cells #[a,c,h,f] T) from rfl);have j:=(Xj _ n 2 _ _ d o).trans (show _=some (Obj.cells #[a,c,d,f] T) from rfl)
  exact(Xj _ n 3 _ _ g j).trans (show _=some (Obj.cells #[a,c,d,g] T) from rfl)
 ·rw[Xn _ ⟨n,3,none⟩ _ b e,Xn _ ⟨n,2,none⟩ _ b e,Xn _ ⟨n,1,none⟩ _ b e,Xn _ ⟨n,0,none⟩ _ b e]
theorem Na {w:Xh} {n:Nat} (a:w.heap[n]?=some (.cells #[.slice none 0 0,.slice none 0 0,.slice none 0 0,.slice none 0 0] 28)):(w.cell? ⟨n,0,none⟩=some (.slice none 0 0)/\w.cell? ⟨n,1,none⟩=some (.slice none 0 0)/\w.cell? ⟨n,2,none⟩=some (.slice none 0 0)/\w.cell? ⟨n,3,none⟩=some (.slice none 0 0))/\∀i,w.frozen? ⟨n,i,none⟩=false:=by
 refine⟨⟨?_,?_,?_,?_⟩,λi=>?_⟩
 ·simp[Xg,a]
 ·simp[Xg,a]
 ·simp[Xg,a]
 ·simp[Xg,a]
 ·simp[World.frozen?,a]
theorem aac (t:Tx) (w:Xh) (bw:t.length<140737488355328):XY Tryz.prog 21 #[.string (bs t)] w (On w t):=by
 have hz:=Bg t
 by_cases h3:3000<t.length
 ·have hP:Hid (BM t = .error (1,0)):=by unfold Hid BM;rw[if_pos h3]
  have br:(3000:Int)<(t.length:Int):=by omega
  go_enter Tryz.func21,Tryz.ntmps21
  go_wp2_with fail
  exact XI (JP rfl rfl rfl rfl (Xi w _)) rfl ⟨(Xq _ _).alloc (Xd _) _,.inl ⟨1,0,hP.out,rfl⟩⟩
 ·have hP:Hid (BM t=Ej t):=by unfold Hid BM;rw[if_neg h3]
  have br:¬(3000:Int)<(t.length:Int):=by omega
  have aU:Hid (t.length<=3000):=by unfold Hid;omega
  go_enter Tryz.func21,Tryz.ntmps21
  go_wp2_with fail
  obtain⟨kA,kB,a5,bB⟩:=UH w (.cells #[.slice none 0 0,.slice none 0 0,.slice none 0 0,.slice none 0 0] 28) (.cells #[.slice none 0 0,.slice none 0 0,.slice none 0 0,.slice none 0 0] 28);generalize Zy (Zy w _) _=w1 at *;have hN:=Ak.new (base:=w.heap.size) kB (by omega);refine(aad t w1 (by have:=aU.out;omega)).mono ?_;rintro e Q ⟨v,rfl,hS⟩;obtain⟨la,bV,Z⟩:=As hS.row;obtain⟨m,hm⟩:∃m,(Ar 10 t).length=m+1:=⟨(Ar 10 t).length - 1,by have:=List.length_pos_iff.2 (PE 10 t);omega⟩;have aJ:=hS.row;have aT:=aJ;rw[hm] at aT;obtain⟨lg,bS,aZ⟩:=Y5 aT;rw[<-hm] at aZ;subst aZ
  cases Z
  have ai:=aJ.lt lg rfl;have bh:=hN.below hS.low;have X:Q.heap[w.heap.size]?=some (.cells #[.slice none 0 0,.slice none 0 0,.slice none 0 0,.slice none 0 0] 28):=(hS.low.block _ (by omega)).trans kA;have aC:Xm w.heap.size w Q:=a5.trans (hS.low.mono (by omega));have ao:∀i l,(Ar 10 t)[i]?=some l->Q.cell? ⟨lg,i,none⟩=some (.string (bs l)):=λi l C=>by
   rw[aJ.cellAt i (by have:=(Xf.1 C).1;omega),Xs,C];rfl
  have aF:(Ar 10 t).length<=3001:=by have:=JK 10 t;have:=aU.out;omega
  have ab:Fs (w.heap.size+1) lg = .o:=by unfold Fs;rw[if_neg (by omega)]
  have S:Fs (w.heap.size+1) w.heap.size = .o:=by unfold Fs;rw[if_neg (by omega)]
  have av:∀b,b<w.heap.size->Fs (w.heap.size+1) b = .o:=λb M=>by unfold Fs;rw[if_neg (by omega)]
  have T:w.heap.size<Q.heap.size:=(Xa.1 X).1;have d:=Aa (⟨ai,X,aC,ao,aF,ab,S,av,T⟩:_/\_/\_/\_/\_/\_/\_/\_/\_);have bp:=Aa bh;clear ai X aC ao ab S av T bh hN kA kB a5 bB hS aJ aT hm hz h3 bw;obtain⟨L,I⟩:∃L,Ar 10 t=L:=⟨_,rfl⟩;rw[I] at d aF;rw[I];replace I:=Aa I;replace aF:=Aa aF;generalize a4:w.heap.size+1=pb at *;replace a4:=Aa a4
  go_wp2_with fail
  go_loopw [7] (λiv wr=>∃i:Nat,i<=L.length/\iv = .int .i64 i/\∃E s P U,Oo Q (Fs pb) w.heap.size pb t i wr E s P U) (λiv _=>L.length - (intOf iv).toNat)
  case atStart=>exact⟨0,Xx _,rfl,Fs pb,PS.new,RP.new,RV.new,rfl,PL.new,(λth h=>by cases h),bp.out,Ah.refl _ _⟩
  case round=>
   obtain⟨i,hi,rfl,E,s,P,U,c⟩:=hrel;clear bp;obtain⟨ai,X,aC,ao,bl,ab,S,av,T⟩:=d.out;have A:=(c.ext.block w.heap.size T S).trans X
   by_cases u:i<L.length
   ·have bT:(i:Int)<(L.length:Int):=by omega
    obtain⟨l,C⟩:∃l,L[i]?=some l:=⟨_,Xe u⟩;have c0:wr.cell? ⟨lg,i,none⟩=some (.string (bs l)):=(World.cell?_of_block (w:=Q) (a:=⟨lg,i,none⟩) (c.ext.block lg ai.2 ab)).trans (ao i l C);have az:l.length<=3000:=by
     have bf:=C;rw[<-I.out] at bf;have:=Ji bf;have:=aU.out
     omega
    have J:=WZ l wr (by omega);have aD:XN ((i:Int)+1)=(i:Int)+1:=XZ _ (by omega);have HJ:=Aa (⟨c,u,C,az,A⟩:_/\_/\_/\_/\_);clear c C hi u A az ai X aC ao bl ab S av T
    go_wp2_with fail
    refine J.mono ?_;clear J c0;rintro e w3 ⟨v,rfl,am⟩;obtain⟨wa,aW,Z⟩:=As am.row;have aH:=HJ.out.1.rf.below am.low;have F:Ah wr E w3 E:=.CF am.low;obtain⟨c,u,C,az,A⟩:=HJ.out
    cases Y:CP l with
    |nil=>
     rw[Y] at Z;subst Z;have ar:∀n,CC n l s = .ok s:=λn=>by unfold CC;rw[Y]
     have H:Hid (Oo Q (Fs pb) w.heap.size pb t (i+1) w3 E s P U):=by
      refine⟨(Nq (ls:=Ar 10 t) (by rw[I.out];exact C) c.ln).1 s (ar _),c.pl,Lu c.labs,aH,c.ext.trans F⟩
     replace u:=Aa u;clear c C az A am aH F ar HJ d
     go_wp2_with fail
     go_roundw
     case rel=>
      rw[aD]
      exact⟨i+1,u.out,rfl,E,s,P,U,H.out⟩
     case measure=>
      rw[aD];exact Xl u.out (Xo i)
    |cons f ts=>
     have aa:=am.row;rw[Y] at Z aa;subst Z;obtain⟨R,bx,e⟩:=Y5 (k:=ts.length) (by simpa using aa);have e:Value.slice wa (ts.length+1) aW = .slice (some ⟨R,0,none⟩) (ts.length+1) bx:=e
     cases e
     have bq:=aa.lt R rfl;have aR:∀x,x∈f::ts->x∈CP l:=λx hx=>by rw[Y];exact hx
     have aM:=OG l;rw[Y] at aM;have aM:ts.length+1<=l.length+1:=by simpa using aM
     have bu:=OH (aR f (by simp));have htg:E R = .o:=by
      cases hq:E R with
      |o=>rfl
      |_=>exact absurd (c.rf.tlt R (by rw[hq];simp)).2 (by omega)
     have bg:ts.length+1<=aW:=by
      rcases aa.2 with⟨h1,_⟩|⟨g,cap,bX,h1,h2⟩
      ·cases h1
      ·cases h1
       exact h2.2.2.1
     have bk:CX w3 E (some ⟨R,0,none⟩) (f::ts):=λj hj=>⟨R,0,rfl,bq.2,by
      rw[Nat.zero_add,aa.cellAt j (by simpa using hj),Xs,Xe hj,List.getD_eq_getElem?_getD,Xe hj];rfl,htg⟩
     have aS:=aaj aH c.pl c.labs (by have:=aF.out;omega) R 0 (ts.length+1) aW f ts rfl bk bg (by omega) ((i:Int)+1) (by omega) (Uw (aR f (by simp))) (by omega);unfold Ab at aS;have ar:∀n,CC n l s=stepT n f ts s:=λn=>by unfold CC;rw[Y]
     have K:=Nq (ls:=Ar 10 t) (by rw[I.out];exact C) c.ln;rw[ar,Int.zero_add] at K;have bO:(((ts.length+1:Nat):Int) == 0)=false:=by simp;omega
     have bW:(((ts.length:Int)+1) == 0)=false:=by simp;omega
     have p:E w.heap.size = .o:=(c.ext.tags _ d.out.2.2.2.2.2.2.2.2).trans d.out.2.2.2.2.2.2.1;have bi:w.heap.size<wr.heap.size:=(Xa.1 A).1;have H:=Aa (⟨K,c.ext.trans F,u,(F.block _ bi p).trans A,p⟩:_/\_/\_/\_/\_);clear c C az A am aH F ar HJ aa bq aR aM bu htg bk bg K u Y p bi
     go_wp2_with fail
     refine aS.mono ?_;clear aS;rintro en O ⟨e,bc,P',U',rfl,z,D,bI⟩;obtain⟨K,F,u,aK,p⟩:=H.out
     rcases bI with⟨he,ho⟩|⟨rfl,⟨s',ho,hpl⟩,a6⟩
     ·have bP:(e != 0)=true:=by simpa using he
      have B:=(D.block _ (Xa.1 aK).1 p).trans aK;obtain⟨⟨a0,a1,a2,a3⟩,af⟩:=Na B;have aE:Hid (BM t = .error (e,(i:Int)+1)):=by rw[hP.out];exact Rc (K.2 e ho)
      have ax:Hid (Xm w.heap.size w O):=NV d.out.2.2.1 (F.trans D) d.out.2.2.2.2.2.2.2.1 (Nat.le_of_lt d.out.2.2.2.2.2.2.2.2);replace B:=Aa B;clear K F u aK p H z D ho d he
      go_wp2_with fail
      obtain⟨W,J,k1,k2,k3,k4,k5,k6⟩:=NJ B.out (.slice none 0 0) (.slice none 0 0) (.slice none 0 0) (.slice none 0 0);rw[J];have q:=ax.out;exact XI (JP rfl rfl rfl rfl k1) rfl ⟨⟨k4.trans q.os,k5.trans q.tape,k6.trans q.output,by have:=q.size;omega,λb M=>(k2 b (by omega)).trans (q.block b M)⟩,.inl ⟨e,(i:Int)+1,aE.out,by show Ending.returned (.tuple #[_,.int .i64 e,.int .i64 (XN ((i:Int)+1))])=_;rw[aD]⟩⟩
     ·have HM:Hid (Oo Q (Fs pb) w.heap.size pb t (i+1) O bc s' P' U'):=⟨K.1 s' ho,hpl,a6,z,F.trans D⟩;replace u:=Aa u;clear K F aK p H z D ho d hpl a6
      go_wp2_with fail
      go_roundw
      case rel=>
       rw[aD]
       exact⟨i+1,u.out,rfl,bc,s',P',U',HM.out⟩
      case measure=>
       rw[aD];exact Xl u.out (Xo i)
   ·have bJ:i=L.length:=by omega
    subst bJ;have N:=c.ln;rw[I.out,Yp,<-I.out] at N;have bH:P.thr.length<=4:=by
     have:=c.pl.few 116 (by simp[AR]);have g4:An P 116=P.names:=by simp[An]
     rw[g4] at this
     simpa [RP.names] using this
    have aV:=aaa c.rf (by omega) (λth aq=>by
     have h1:=c.pl.code th aq;have h2:=c.labs th aq
     exact⟨by omega,by omega⟩)
    unfold Ab at aV;have G:=Qu c.pl P.thr (λth aq r hr=>(c.pl.pos th aq r hr).1);rw[<-c.pl.bod] at G;have p:E w.heap.size = .o:=(c.ext.tags _ T).trans S;have H:=Aa (⟨N,G,c,A,p⟩:_/\_/\_/\_/\_);clear c A N G bH p hi u ai X aC ao bl ab S av T
    go_wp2_with fail
    refine aV.mono ?_;clear aV;obtain⟨N,G,c,A,p⟩:=H.out;rintro en O ⟨D,(⟨n,ac,rfl⟩|⟨ac,rfl,z⟩)⟩
    ·have hn:0<n:=aeI (λth aq r hr=>(c.pl.pos th aq r hr).2) ac;rw[ac] at G;have B:=(D.block _ (Xa.1 A).1 p).trans A;obtain⟨⟨a0,a1,a2,a3⟩,af⟩:=Na B;have aE:Hid (BM t = .error (5,n)):=by rw[hP.out];exact Rb N G
     have ax:Hid (Xm w.heap.size w O):=NV d.out.2.2.1 (c.ext.trans D) d.out.2.2.2.2.2.2.2.1 (Nat.le_of_lt d.out.2.2.2.2.2.2.2.2);replace B:=Aa B;clear N G c A p H D d ac
     go_wp2_with fail
     obtain⟨W,J,k1,k2,k3,k4,k5,k6⟩:=NJ B.out (.slice none 0 0) (.slice none 0 0) (.slice none 0 0) (.slice none 0 0);rw[J];have q:=ax.out;exact XI (JP rfl rfl rfl rfl k1) rfl ⟨⟨k4.trans q.os,k5.trans q.tape,k6.trans q.output,by have:=q.size;omega,λb M=>(k2 b (by omega)).trans (q.block b M)⟩,.inl ⟨5,n,aE.out,rfl⟩⟩
    ·rw[ac] at G;have B:=(D.block _ (Xa.1 A).1 p).trans A;obtain⟨⟨a0,a1,a2,a3⟩,af⟩:=Na B;have aE:Hid (BM t = .ok (s,P.thr.map λth=>(Ez P th).code.map RI.i)):=by rw[hP.out];exact QZ N G
     have ax:Hid (Xm w.heap.size w O):=NV d.out.2.2.1 (c.ext.trans D) d.out.2.2.2.2.2.2.2.1 (Nat.le_of_lt d.out.2.2.2.2.2.2.2.2);have p0:O.cell? ⟨pb,0,none⟩=some (U.V 118):=z.Ei (k:=118) (by simp[Cd]);have p1:O.cell? ⟨pb,1,none⟩=some (U.V 102):=z.Ei (k:=102) (by simp[Cd]);have p2:O.cell? ⟨pb,2,none⟩=some (U.V 109):=z.Ei (k:=109) (by simp[Cd]);have p3:=z.Ha;obtain⟨x0,n0,y0,e0⟩:∃x n y,U.V 118 = .slice x n y:=by obtain⟨x,y,e⟩:=KS (z.rows 118 (by simp[Cd]));exact⟨x,_,y,e⟩
     obtain⟨x1,n1,y1,e1⟩:∃x n y,U.V 102 = .slice x n y:=by obtain⟨x,y,e⟩:=KS (z.rows 102 (by simp[Cd]));exact⟨x,_,y,e⟩
     obtain⟨x2,n2,y2,e2⟩:∃x n y,U.V 109 = .slice x n y:=by obtain⟨x,y,e⟩:=KS (z.rows 109 (by simp[Cd]));exact⟨x,_,y,e⟩
     obtain⟨x3,n3,y3,e3⟩:∃x n y,U.tV = .slice x n y:=by obtain⟨x,y,e⟩:=As z.trow;exact⟨x,_,y,e⟩
     have hg:∀k,AR k->s.nms k=An {P with thr:=P.thr.map (Ez P)} k:=λk hk=>by
      rw[c.pl.nms k hk];unfold An;have e:({P with thr:=P.thr.map (Ez P)}:RP).names=P.names:=by
       show (P.thr.map (Ez P)).map AE.name=P.thr.map AE.name;rw[Zv];rfl
      rw[e];rfl
     have bC:=Aa (⟨z,hg,p,e0,e1,e2,e3⟩:_/\_/\_/\_/\_/\_/\_);rw[e0] at p0;rw[e1] at p1;rw[e2] at p2;rw[e3] at p3;replace B:=Aa B;clear N G c A p H D d ac z hg e0 e1 e2 e3
     go_wp2_with fail
     obtain⟨W,J,k1,k2,k3,k4,k5,k6⟩:=NJ B.out (U.V 118) (U.V 102) (U.V 109) U.tV;obtain⟨z,hg,p,e0,e1,e2,e3⟩:=bC.out;rw[e0,e1,e2,e3] at J k1;rw[J];have q:=ax.out;refine XI (JP rfl rfl rfl rfl k1) rfl ⟨⟨k4.trans q.os,k5.trans q.tape,k6.trans q.output,by have:=q.size;omega,λb M=>(k2 b (by omega)).trans (q.block b M)⟩,.inr ⟨s,_,E,pb,_,U,aE.out,by rw[e0,e1,e2,e3];rfl,z.Lw (λb M=>k2 b (λe=>M (by rw[e];exact p))) (by omega),hg,?_⟩⟩;show _=(P.thr.map (Ez P)).map _;rw[Zv];rfl
structure DI (w:Xh) (vV fV lV tV:Xk) (P:RP) (TV:List (Xk×Xk)):Prop where
 v:w.ownsRow 0 9 1 vV P.vs.length (P.vs.map BS)
 f:w.ownsRow 0 9 1 fV P.fs.length (P.fs.map BS)
 l:w.ownsRow 0 9 1 lV P.ls.length (P.ls.map BS)
 t:w.ownsRow 0 199 3 tV P.thr.length ((P.thr.zip TV).flatMap DK)
 len:TV.length=P.thr.length
 c:∀(j:Nat) (th:AE) (p:Xk×Xk),P.thr[j]?=some th->TV[j]?=some p->w.ownsRow 0 177 9 p.1 th.code.length (th.code.flatMap AK)
theorem DI.below {w w':Xh} {b d lV tV:Xk} {P:RP} {TV:List (Xk×Xk)} (h:DI w b d lV tV P TV) (a:Xm w.heap.size w w'):DI w' b d lV tV P TV:=
 ⟨EH h.v a,EH h.f a,EH h.l a,EH h.t a,h.len,λj th p g e=>EH (h.c j th p g e) a⟩
theorem DI.nil (w:Xh):DI w (.slice none 0 0) (.slice none 0 0) (.slice none 0 0) (.slice none 0 0) RP.new []:=
 ⟨XE _ _ _ _,XE _ _ _ _,XE _ _ _ _,XE _ _ _ _,rfl,(λj th p h=>by cases h)⟩
theorem BZ.nil (w:Xh) (base:Nat):BZ w base (.slice none 0 0) (.slice none 0 0) (.slice none 0 0) (.slice none 0 0) [] [] [] [] []:=
 ⟨XE _ _ _ _,XE _ _ _ _,XE _ _ _ _,XE _ _ _ _,(λj p is h=>by cases h),rfl⟩
theorem BZ.below {w w':Xh} {base:Nat} {b d lV e:Xk} {vs fs ls:List Tx} {L:List (Tx×Xk)} {C:List (List Ad)} (h:BZ w base b d lV e vs fs ls L C) (a:Xm w.heap.size w w'):BZ w' base b d lV e vs fs ls L C:=
 ⟨EH h.v a,EH h.f a,EH h.l a,EH h.t a,λi p is j g=>EH (h.c i p is j g) a,h.len⟩
structure ae9 (w:Xh) (g k:Nat) (r:RI):Prop where
 c0:w.cell? ⟨g,k*9,none⟩=some (.string (bs r.i.op))
 c1:w.cell? ⟨g,k*9+1,none⟩=some (.int .i64 r.i.r)
 c2:w.cell? ⟨g,k*9+2,none⟩=some (.bool r.i.aR)
 c3:w.cell? ⟨g,k*9+3,none⟩=some (.int .i64 r.i.aN)
 c4:w.cell? ⟨g,k*9+4,none⟩=some (.bool r.i.bR)
 c5:w.cell? ⟨g,k*9+5,none⟩=some (.int .i64 r.i.bN)
 c6:w.cell? ⟨g,k*9+6,none⟩=some (.int .i64 r.i.x)
 c7:w.cell? ⟨g,k*9+7,none⟩=some (.int .i64 r.line)
 c8:w.cell? ⟨g,k*9+8,none⟩=some (.string (bs r.word))
theorem acI {w:Xh} {base:Nat} {v:Xk} {rs:List RI} {k:Nat} {r:RI} (h:w.ownsRow base 177 9 v rs.length (rs.flatMap AK)) (a:rs[k]?=some r):∃g cap,v = .slice (some ⟨g,0,none⟩) rs.length cap/\g<w.heap.size/\ae9 w g k r:=by
 have b:=(Xf.1 a).1;obtain⟨g,cap,e,f,c⟩:=KR h b;have key:∀q,q<9->w.cell? ⟨g,k*9+q,none⟩=(AK r)[q]?:=λq d=>by
  rw[c (k*9+q) (by omega)];exact GJ MK a d
 exact⟨g,cap,e,f,key 0 (by omega),key 1 (by omega),key 2 (by omega),key 3 (by omega),key 4 (by omega),key 5 (by omega),key 6 (by omega),key 7 (by omega),key 8 (by omega)⟩
theorem BZ.JH {w:Xh} {base:Nat} {d k lV b:Xk} {vs fs ls:List Tx} {L:List (Tx×Xk)} {C:List (List Ad)} (h:BZ w base d k lV b vs fs ls L C) {j:Nat} {p:Tx×Xk} (a:L[j]?=some p):∃g cap,b = .slice (some ⟨g,0,none⟩) L.length cap/\g<w.heap.size/\w.cell? ⟨g,j*2,none⟩=some (.string (bs p.1))/\w.cell? ⟨g,j*2+1,none⟩=some p.2:=by
 have c:=(Xf.1 a).1;obtain⟨g,cap,e,m,i⟩:=KR h.t c;have key:∀q,q<2->w.cell? ⟨g,j*2+q,none⟩=[Value.string (bs p.1),p.2][q]?:=λq l=>by
  rw[i (j*2+q) (by omega)];exact GJ (f:=λp:Tx×Xk=>[Value.string (bs p.1),p.2]) UU a l
 exact⟨g,cap,e,m,key 0 (by omega),key 1 (by omega)⟩
theorem DI.JH {w:Xh} {c i lV tV:Xk} {P:RP} {TV:List (Xk×Xk)} (h:DI w c i lV tV P TV) {j:Nat} {th:AE} {p:Xk×Xk} (a:P.thr[j]?=some th) (f:TV[j]?=some p):∃g cap,tV = .slice (some ⟨g,0,none⟩) P.thr.length cap/\g<w.heap.size/\w.cell? ⟨g,j*3,none⟩=some (.string (bs th.name))/\w.cell? ⟨g,j*3+1,none⟩=some p.1:=by
 have b:=(Xf.1 a).1;obtain⟨g,cap,e,m,d⟩:=KR h.t b;have l:(P.thr.zip TV)[j]?=some (th,p):=by rw[List.getElem?_zip_eq_some];exact⟨a,f⟩
 have key:∀q,q<3->w.cell? ⟨g,j*3+q,none⟩=(DK (th,p))[q]?:=λq k=>by
  rw[d (j*3+q) (by omega)];exact GJ IZ l k
 exact⟨g,cap,e,m,key 0 (by omega),key 1 (by omega)⟩
end Go.Proofs.YtdcacoifehkioaaGreatDoor
namespace Go.Proofs.YtdcacoifehkioaaGreatDoor
open Go.RowKit Go.Shelf Go.Proofs.Cod
def PV (t:Tx) (er ln:Int) (vs fs ls ts:List Tx) (C:List (List Ad)):Prop:=match BM t with
 |.error p=>er=p.1/\ln=p.2/\vs=[]/\fs=[]/\ls=[]/\ts=[]/\C=[]
 |.ok p=>er=0/\ln=0/\vs=p.1.nms 118/\fs=p.1.nms 102/\ls=p.1.nms 109/\ts=p.1.nms 116/\C=p.2
theorem PV.eq {t:Tx} {x u q w:Int} {vs fs ls ts r z v s:List Tx} {C y:List (List Ad)} (h:PV t x u vs fs ls ts C) (a:PV t q w r z v s y):x=q/\u=w/\vs=r/\fs=z/\ls=v/\ts=s/\C=y:=by
 unfold PV at h a
 split at h<;>rename_i p A<;>rw[A] at a
 ·obtain⟨m,i,e,k,a5,l,o⟩:=h;obtain⟨n,f,g,d,b,c,j⟩:=a
  exact⟨m.trans n.symm,i.trans f.symm,e.trans g.symm,k.trans d.symm,a5.trans b.symm,l.trans c.symm,o.trans j.symm⟩
 ·obtain⟨m,i,e,k,a5,l,o⟩:=h;obtain⟨n,f,g,d,b,c,j⟩:=a
  exact⟨m.trans n.symm,i.trans f.symm,e.trans g.symm,k.trans d.symm,a5.trans b.symm,l.trans c.symm,o.trans j.symm⟩
theorem aaO {w:Xh} {t:Tx} {e:Ending} {w':Xh} (h:Me w t e w'):Xm w.heap.size w w'/\∃b a d f lV g vs fs ls L C,e = .returned (.tuple #[.agg #[d,f,lV,g],.int .i64 b,.int .i64 a])/\BZ w' w.heap.size d f lV g vs fs ls L C/\PV t b a vs fs ls (L.map Prod.fst) C:=by
 obtain⟨i,(⟨b,a,c,rfl⟩|⟨s,C,d,f,lV,g,L,c,rfl,j,k⟩)⟩:=h
 ·exact⟨i,b,a,_,_,_,_,[],[],[],[],[],rfl,BZ.nil _ _,by unfold PV;rw[c];exact⟨rfl,rfl,rfl,rfl,rfl,rfl,rfl⟩⟩
 ·exact⟨i,0,0,_,_,_,_,_,_,_,L,C,rfl,j,by unfold PV;rw[c];exact⟨rfl,rfl,rfl,rfl,rfl,k,rfl⟩⟩
structure DT (w:Xh) (base:Nat) (vV fV lV tV:Xk) (P:RP) (TV:List (Xk×Xk)):Prop where
 v:w.ownsRow base 9 1 vV P.vs.length (P.vs.map BS)
 f:w.ownsRow base 9 1 fV P.fs.length (P.fs.map BS)
 l:w.ownsRow base 9 1 lV P.ls.length (P.ls.map BS)
 t:w.ownsRow base 199 3 tV P.thr.length ((P.thr.zip TV).flatMap DK)
 len:TV.length=P.thr.length
 c:∀(j:Nat) (th:AE) (p:Xk×Xk),P.thr[j]?=some th->TV[j]?=some p->w.ownsRow base 177 9 p.1 th.code.length (th.code.flatMap AK)
theorem DT.view {w:Xh} {base:Nat} {a b lV tV:Xk} {P:RP} {TV:List (Xk×Xk)} (h:DT w base a b lV tV P TV):DI w a b lV tV P TV:=
 ⟨Dq h.v (Xx _),Dq h.f (Xx _),Dq h.l (Xx _),Dq h.t (Xx _),h.len,λj th p e d=>Dq (h.c j th p e d) (Xx _)⟩
theorem GN {w w':Xh} {base e a n:Nat} {v:Xk} {b:List Xk} (h:w.ownsRow base e a v n b) (c:∀k,base<=k->k<w.heap.size->w'.heap[k]?=w.heap[k]?):w'.ownsRow base e a v n b:=Bw h λg e=>c g (h.lt g e).1 (h.lt g e).2
theorem DT.TQ {w w':Xh} {base:Nat} {b d lV tV:Xk} {P:RP} {TV:List (Xk×Xk)} (h:DT w base b d lV tV P TV) (a:∀k,base<=k->k<w.heap.size->w'.heap[k]?=w.heap[k]?):DT w' base b d lV tV P TV:=
 ⟨GN h.v a,GN h.f a,GN h.l a,GN h.t a,h.len,λj th p g e=>GN (h.c j th p g e) a⟩
theorem Ak.aan {w:Xh} {d:Nat->RT} {base e:Nat} {P:RP} {U:RV} (h:Ak w d base e P U):DT w base (U.V 118) (U.V 102) (U.V 109) U.tV P U.TV:=by
 have a:∀{k:Int},Cd k->w.ownsRow base 9 1 (U.V k) (P.get k).length ((P.get k).map BS):=λc=>by
  have:=(h.rows _ c).row;rw[List.length_map] at this;exact this
 exact⟨a (k:=118) (by simp[Cd]),a (k:=102) (by simp[Cd]),a (k:=109) (by simp[Cd]),h.trow,h.len,λj th p f b=>(h.ths j th p f b).code⟩
theorem DT.nil (w:Xh) (base:Nat):DT w base (.slice none 0 0) (.slice none 0 0) (.slice none 0 0) (.slice none 0 0) RP.new []:=
 ⟨XE _ _ _ _,XE _ _ _ _,XE _ _ _ _,XE _ _ _ _,rfl,(λj th p h=>by cases h)⟩
theorem Wm {w:Xh} {t:Tx} {e:Ending} {w':Xh} (h:On w t e w'):Xm w.heap.size w w'/\∃c a f g lV tV P TV,e = .returned (.tuple #[.agg #[f,g,lV,tV],.int .i64 c,.int .i64 a])/\DT w' w.heap.size f g lV tV P TV/\PV t c a P.vs P.fs P.ls P.names (P.thr.map λth=>th.code.map RI.i):=by
 obtain⟨j,(⟨c,a,d,rfl⟩|⟨s,C,q,r,P,U,d,rfl,k,b,o⟩)⟩:=h
 ·exact⟨j,c,a,_,_,_,_,RP.new,[],rfl,DT.nil _ _,by unfold PV;rw[d];exact⟨rfl,rfl,rfl,rfl,rfl,rfl,rfl⟩⟩
 ·refine⟨j,0,0,_,_,_,_,P,U.TV,rfl,k.aan,?_⟩;unfold PV;rw[d];have m:=b 118 (by simp[AR]);have l:=b 102 (by simp[AR]);have p:=b 109 (by simp[AR]);have n:=b 116 (by simp[AR])
  exact⟨rfl,rfl,m.symm,l.symm,p.symm,n.symm,o.symm⟩
theorem Ra (t:Tx) (w:Xh) (d:GV w) (b:GT w) (f:2<w.heap.size) (e:3<w.heap.size):XY Tryz.prog 20 #[.string (bs t)] w (Me w t):=by
 by_cases a:t.length<140737488355328
 ·exact aaQ t w d b f e a
 ·have i:=Bg t;have c:3000<t.length:=XF (by decide) (afe a);have j:(3000:Int)<(t.length:Int):=by omega
  have h:Hid (BM t = .error (1,0)):=by unfold Hid BM;rw[if_pos c]
  have g:Hid (∀x,Xm w.heap.size w (w.alloc x)):=λx=>(Xq _ _).alloc (Xd _) _;clear a c d b f e
  go_enter Tryz.func20,Tryz.ntmps20
  go_wp2_with fail
  exact XI (Lh rfl rfl rfl rfl (Xi w _)) rfl ⟨g.out _,.inl ⟨1,0,h.out,rfl⟩⟩
theorem aab (t:Tx) (w:Xh):XY Tryz.prog 21 #[.string (bs t)] w (On w t):=by
 by_cases a:t.length<140737488355328
 ·exact aac t w a
 ·have e:=Bg t;have b:3000<t.length:=XF (by decide) (afe a);have c:Hid (BM t = .error (1,0)):=by unfold Hid BM;rw[if_pos b]
  have d:(3000:Int)<(t.length:Int):=by omega
  clear a b
  go_enter Tryz.func21,Tryz.ntmps21
  go_wp2_with fail
  exact XI (JP rfl rfl rfl rfl (Xi w _)) rfl ⟨(Xq _ _).alloc (Xd _) _,.inl ⟨1,0,c.out,rfl⟩⟩
end Go.Proofs.YtdcacoifehkioaaGreatDoor
