import Derived.Test.YtdcacoifehkioaaGreatDoorExR11
import Derived.BigQuiet
open Go renaming World->Xg,Calls->X3,Value->Xj,heap_setCell_same->Xk,bodyPost_ret->XN,ownsRow_succ->YV
open Nat renaming zero_le->XD,le_refl->Xf,sub_lt_sub_left->Xs,lt_succ_self->Xt,lt_of_lt_of_le->XF,le_of_not_lt->adw
open List renaming getElem?_eq_getElem->Xc,take_length->Yi,getElem?_eq_some_iff->Xe,getElem?_map->Xp,map_map->Ze
open Go.World renaming alloc_heap_new->Xi,cell?->Xh,ownsRow_nil->Xy,alloc->Zj
open Go.RowKit renaming Below->Xn,wrap64->Ya
open Go.RowKit.Below renaming refl->Xo,heap_setCell->Xl
open Go.IntWalk renaming wrap64_in->XQ
open Array renaming getElem?_eq_some_iff->Xa
set_option maxRecDepth 100000
set_option maxHeartbeats 2000000
set_option linter.unusedVariables false
set_option linter.unusedSimpArgs false
namespace Go.Proofs.YtdcacoifehkioaaGreatDoor
open Go.RowKit Go.Proofs.Cod
theorem MN (s t:Tx):((bs s).toList == t)=(s == t):=by rw[AR]
theorem UD {w:Xg} {a:Nat->RT} {base N:Nat} {P:RP} {U:RV} (h:Ah w a base N P U) (hb:P.thr.length<1000) (aM:∀th,th∈P.thr->th.code.length<4000/\th.labs.length<4000) :
 X3 Tryz.prog 52 #[Ab N] w λe w'=>Ag w a w' a/\((∃n,Em P P.thr=some n/\e = .returned (.int .i64 n))\/(Em P P.thr=none/\e = .returned (.int .i64 0)/\Ah w' a base N {P with thr:=P.thr.map (Dw P)} U)):=by
 have HX:=Aa (Ag.refl w a);have H:=Aa h;replace aM:=Aa aM;replace hb:=Aa hb;unfold Ab;clear h
 go_enter Tryz.func52,Tryz.ntmps52
 go_wp2_with fail
 go_loopw [3] (λu wr=>∃i:Nat,i<=P.thr.length/\u = .int .i64 i/\Em P (P.thr.take i)=none/\Ah wr a base N (P.res i) U/\Ag w a wr a) (λu _=>P.thr.length - (intOf u).toNat)
 case atStart=>exact⟨0,XD _,rfl,rfl,by rw[Uf];exact H.out,HX.out⟩
 case round=>
  obtain⟨i,hi,rfl,R,C,hX⟩:=hrel;clear HX H;have c3:=C.FX
  by_cases Z:i<P.thr.length
  ·obtain⟨th,f⟩:∃th,P.thr[i]?=some th:=⟨_,Xc Z⟩;obtain⟨p,m⟩:∃p,U.TV[i]?=some p:=⟨_,Xc (by rw[C.len,Lv];exact Z)⟩;have an:=Ui f;obtain⟨gt,ba,Y⟩:=C.JE an;rw[Y,Lv] at c3;have bg:(i:Int)<(P.thr.length:Int):=by omega
   have t0:wr.cell? ⟨gt,i*3,none⟩=some (.string (bs th.name)):=C.FY an m (r:=0) (by omega) Y;have t1:wr.cell? ⟨gt,i*3+1,none⟩=some p.1:=C.FY an m (r:=1) (by omega) Y;have t2:wr.cell? ⟨gt,i*3+2,none⟩=some p.2:=C.FY an m (r:=2) (by omega) Y;obtain⟨ca,T,aH⟩:=At (C.ths i th p an m).code;obtain⟨la,lc,aC⟩:=At (C.ths i th p an m).labs;rw[aH] at t1;rw[aC] at t2;have aa:=aM.out th (List.mem_of_getElem? f);have S:=Aa (⟨C,hX,R,aa⟩:_/\_/\_/\_);have aN:gt<wr.heap.size:=World.block_lt_of_cell? wr ⟨gt,i*3,none⟩ t0;replace aN:=Aa aN;replace f:=Aa f;replace m:=Aa m;replace aH:=Aa aH;replace aC:=Aa aC;replace hi:=Aa hi;replace Z:=Aa Z;clear C hX R aa an Y
   rename Xg=>wo
   go_wp2_with fail
   have ay:=Xi wo (.cells #[.string (bs th.name),.slice ca th.code.length T,.slice la th.labs.length lc] 199);have aQ:Xn wo.heap.size wo (wo.alloc (.cells #[.string (bs th.name),.slice ca th.code.length T,.slice la th.labs.length lc] 199)):=(Xo _ _).alloc (Xf _) _;have av:wo.heap.size<(wo.alloc (.cells #[.string (bs th.name),.slice ca th.code.length T,.slice la th.labs.length lc] 199)).heap.size:=by simp
   have az:a wo.heap.size = .o:=by
    cases ht:a wo.heap.size with
    |o=>rfl
    |_=>exact absurd (S.out.1.tlt wo.heap.size (by rw[ht];simp)).2 (by omega)
   have a8:Ah (wo.alloc (.cells #[.string (bs th.name),.slice ca th.code.length T,.slice la th.labs.length lc] 199)) a base N (P.Fz i 0 th) U:=by rw[Up f.out];exact S.out.1.below aQ
   have aj:Ag w a (wo.alloc (.cells #[.string (bs th.name),.slice ca th.code.length T,.slice la th.labs.length lc] 199)) a:=S.out.2.1.trans (.Ch aQ);have R:=Aa S.out.2.2.1;have aa:=Aa S.out.2.2.2;clear S aQ t0 t1 t2 c3 bg;generalize wo.alloc (.cells #[.string (bs th.name),.slice ca th.code.length T,.slice la th.labs.length lc] 199)=wi at *;generalize wo.heap.size=tb at *;replace ay:=Aa ay;replace av:=Aa av;replace az:=Aa az;have aT:=Aa a8;replace aj:=Aa aj;clear a8 aN
   go_loopw [5] (λu wr=>∃k:Nat,k<=th.code.length/\u = .int .i64 k/\DC P th (th.code.take k)=none/\Ah wr a base N (P.Fz i k th) U/\Ag wi a wr a) (λu _=>th.code.length - (intOf u).toNat)
   case atStart=>exact⟨0,XD _,rfl,rfl,aT.out,Ag.refl _ _⟩
   case round=>
    obtain⟨k,J,rfl,d,X,g⟩:=hrel;clear aT;have ah:wr.heap[tb]?=some (.cells #[.string (bs th.name),.slice ca th.code.length T,.slice la th.labs.length lc] 199):=(g.block tb av.out az.out).trans ay.out;have d1:wr.cell? ⟨tb,1,none⟩=some (.slice ca th.code.length T):=by simp[Xh,ah]
    by_cases t:k<th.code.length
    ·have a7:(k:Int)<(th.code.length:Int):=by omega
     obtain⟨r,c⟩:∃r,th.code[k]?=some r:=⟨_,Xc t⟩;rw[Uk c] at X;obtain⟨gc,bl,e⟩:=Un X f.out m.out c;have e2:=aH.out;rw[e] at e2
     cases e2
     obtain⟨k0,k6,k7,k8,kf⟩:=JK X f.out m.out c e;have G:Ya ((k:Int)+1)=(k:Int)+1:=XQ _ (by have:=aa.out.1;omega);have b:=Aa (⟨d,g,e,c,t,J⟩:_/\_/\_/\_/\_/\_);have aq:=Aa X;replace ah:=Aa ah;clear d g e c t J X;have ap:=MN (AA r.i.op) [116];have ab:=MN (AA r.i.op) [108];have ae:=MN (AA r.i.op) [97,98,108]
     by_cases E:AA r.i.op=[116]
     ·have z:Hid (rX P th r=Ao P.names r.word):=by unfold Hid rX;rw[if_pos E]
      rw[E] at ap ab ae;have ap:((bs (AA r.i.op)).toList == [116])=true:=by rw[E];exact ap.trans (by decide)
      have ab:((bs (AA r.i.op)).toList == [108])=false:=by rw[E];exact ab.trans (by decide)
      have ae:((bs (AA r.i.op)).toList == [97,98,108])=false:=by rw[E];exact ae.trans (by decide)
      clear E;have O:=JP r.i.op wr;have hT:=ON aq.out r.word (by rw[Um];have:=hb.out;omega);rw[Ul f.out] at hT;unfold Ab at hT;generalize AA r.i.op=F at *;generalize Ao P.names r.word=v at *;obtain⟨au,ar⟩:=JI aq.out f.out m.out b.out.2.2.2.1 b.out.2.2.1 v;obtain⟨-,m6,m7,-,-⟩:=JK au f.out m.out b.out.2.2.2.1 b.out.2.2.1;have ac:=Aa (⟨au,ar⟩:_/\_);clear au ar
      by_cases hv:v<0
      ·go_wp2_with fail
       refine O.mono ?_;rintro e w2 ⟨rfl,rfl⟩
       go_wp2_with fail
       refine hT.mono ?_;rintro e w2 ⟨rfl,rfl⟩
       go_wp2_with fail
       go_ret
       obtain⟨d,g,e,c,t,J⟩:=b.out
       exact⟨(aj.out.trans g).trans ac.out.2,.inl ⟨r.line,Ky f.out R.out (KA c d (by rw[z.out];exact hv)),rfl⟩⟩
      ·go_wp2_with fail
       refine O.mono ?_;rintro e w2 ⟨rfl,rfl⟩
       go_wp2_with fail
       refine hT.mono ?_;rintro e w2 ⟨rfl,rfl⟩
       go_wp2_with fail
       go_roundw
       case rel=>
        rw[G];obtain⟨d,g,e,c,t,J⟩:=b.out
        exact⟨k+1,t,rfl,Kz c d (by rw[z.out];omega),by rw[<-JJ c,z.out];exact ac.out.1,g.trans ac.out.2⟩
       case measure=>
        rw[G];exact Xs b.out.2.2.2.2.1 (Xt k)
     ·by_cases Q:Ht (AA r.i.op)=true
      ·have z:Hid (rX P th r=EX r.word th.labs (-1)):=by unfold Hid rX;rw[if_neg E,if_pos Q]
       have g1:(AA r.i.op == [116])=false:=by simpa using E
       rw[g1] at ap;have O:=JP r.i.op wr;have d2:wr.cell? ⟨tb,2,none⟩=some (.slice la th.labs.length lc):=by simp[Xh,ah.out]
       obtain⟨au,ar⟩:=JI aq.out f.out m.out b.out.2.2.2.1 b.out.2.2.1 (-1);have ac:=Aa (⟨au,ar⟩:_/\_);have M:=Aa (b.out.2.1.trans ar);have hL:(AA r.i.op == [108])=true\/((AA r.i.op == [108])=false/\(AA r.i.op == [97,98,108])=true):=by
        cases g2:(AA r.i.op == [108]) with
        |true=>exact .inl rfl
        |false=>simp[Ht,g2] at Q;exact .inr ⟨rfl,by simp[Q]⟩
       clear au ar E Q g1;generalize AA r.i.op=F at *
       rcases hL with hL|⟨hL,a5⟩
       ·rw[hL] at ab;clear ae hL
        go_wp2_with fail
        refine O.mono ?_;rintro e w2 ⟨rfl,rfl⟩
        go_wp2_with fail
        generalize ak:World.setCell _ _ _=w4;have ax:Hid (Ah w4 a base N (P.CC i k th r (-1)) U):=by rw[<-ak];exact ac.out.1
        have M:Hid (Ag wi a w4 a):=by rw[<-ak];exact M.out
        clear ak ac d1 d2 k0 k6 k7 k8 kf O aq ah ap ab G a7
        go_loopw [8] (λu wr=>∃j:Nat,j<=th.labs.length/\u = .int .i64 j/\Ah wr a base N (P.CC i k th r (EX r.word (th.labs.take j) (-1))) U/\Ag w4 a wr a) (λu _=>th.labs.length - (intOf u).toNat)
        case atStart=>exact⟨0,XD _,rfl,ax.out,Ag.refl _ _⟩
        case round=>
         obtain⟨j,hj,rfl,y,B⟩:=hrel;clear ax;have af:wr.heap[tb]?=some (.cells #[.string (bs th.name),.slice (some ⟨gc,0,none⟩) th.code.length T,.slice la th.labs.length lc] 199):=((M.out.trans B).block tb av.out az.out).trans ay.out;have d2:wr.cell? ⟨tb,2,none⟩=some (.slice la th.labs.length lc):=by simp[Xh,af]
         obtain⟨-,m6,m7,m8,mf⟩:=JK y f.out m.out b.out.2.2.2.1 b.out.2.2.1;replace af:=Aa af
         by_cases s:j<th.labs.length
         ·have bf:(j:Int)<(th.labs.length:Int):=by omega
          obtain⟨l,hl⟩:∃l,th.labs[j]?=some l:=⟨_,Xc s⟩;obtain⟨gl,bi,e,l0,l1⟩:=OA y f.out m.out hl;have e2:=aC.out;rw[e] at e2
          cases e2
          have W:Ya ((j:Int)+1)=(j:Int)+1:=XQ _ (by have:=aa.out.2;omega);have hF:((bs l.1).toList == (bs r.word).toList)=decide (l.1=r.word):=by
           rw[AR,AR]
           by_cases e:l.1=r.word<;>simp[e]
          have V:Ag wr a wr.drew a:=⟨rfl,rfl,rfl,Xf _,λ_ _=>rfl,λ_ _ _=>rfl⟩;have A:=Ah.keep (w':=wr.drew) y (λ_ _=>rfl) V;obtain⟨I,K⟩:=JI A f.out m.out b.out.2.2.2.1 b.out.2.2.1 (l.2:Int);have D:=Qf (x:=r.word) hl (-1);have q:=Aa (⟨A,I,B.trans V,(B.trans V).trans K,D,s⟩:_/\_/\_/\_/\_/\_);clear A I K V D y B s hj hl e
          by_cases e:l.1=r.word
          ·rw[decide_eq_true e] at hF;replace e:=Aa e
           go_wp2_with fail
           go_region
           all_goals
            go_wp2_with fail
            go_roundw
            case rel=>
             rw[W];obtain⟨A,I,aD,K,D,s⟩:=q.out
             exact⟨j+1,s,rfl,by rw[D,if_pos e.out];exact I,K⟩
            case measure=>
             rw[W];exact Xs q.out.2.2.2.2.2 (Xt j)
          ·rw[decide_eq_false e] at hF;replace e:=Aa e
           go_wp2_with fail
           go_region
           all_goals
            go_wp2_with fail
            go_roundw
            case rel=>
             rw[W];obtain⟨A,I,aD,K,D,s⟩:=q.out
             exact⟨j+1,s,rfl,by rw[D,if_neg e.out];exact A,aD⟩
            case measure=>
             rw[W];exact Xs q.out.2.2.2.2.2 (Xt j)
         ·have aR:j=th.labs.length:=by omega
          subst aR;rw[Yi] at y m6;have q:=Aa (⟨y,B⟩:_/\_);have G:Ya ((k:Int)+1)=(k:Int)+1:=XQ _ (by have:=aa.out.1;have:=b.out.2.2.2.2.1;omega);generalize EX r.word th.labs (-1)=v at *;clear y B s hj
          by_cases hv:v<0
          ·go_wp2_with fail
           go_ret
           obtain⟨d,g,e,c,t,J⟩:=b.out
           exact⟨(aj.out.trans M.out).trans q.out.2,.inl ⟨r.line,Ky f.out R.out (KA c d (by rw[z.out];exact hv)),rfl⟩⟩
          ·go_wp2_with fail
           go_roundw
           case rel=>
            rw[G];obtain⟨d,g,e,c,t,J⟩:=b.out
            exact⟨k+1,t,rfl,Kz c d (by rw[z.out];omega),by rw[<-JJ c,z.out];exact q.out.1,M.out.trans q.out.2⟩
           case measure=>
            rw[G];exact Xs b.out.2.2.2.2.1 (Xt k)
       ·rw[hL] at ab;rw[a5] at ae;clear hL a5
        go_wp2_with fail
        refine O.mono ?_;rintro e w2 ⟨rfl,rfl⟩
        go_wp2_with fail
        generalize ak:World.setCell _ _ _=w4;have ax:Hid (Ah w4 a base N (P.CC i k th r (-1)) U):=by rw[<-ak];exact ac.out.1
        have M:Hid (Ag wi a w4 a):=by rw[<-ak];exact M.out
        clear ak ac d1 d2 k0 k6 k7 k8 kf O aq ah ap ab ae G a7
        go_loopw [8] (λu wr=>∃j:Nat,j<=th.labs.length/\u = .int .i64 j/\Ah wr a base N (P.CC i k th r (EX r.word (th.labs.take j) (-1))) U/\Ag w4 a wr a) (λu _=>th.labs.length - (intOf u).toNat)
        case atStart=>exact⟨0,XD _,rfl,ax.out,Ag.refl _ _⟩
        case round=>
         obtain⟨j,hj,rfl,y,B⟩:=hrel;clear ax;have af:wr.heap[tb]?=some (.cells #[.string (bs th.name),.slice (some ⟨gc,0,none⟩) th.code.length T,.slice la th.labs.length lc] 199):=((M.out.trans B).block tb av.out az.out).trans ay.out;have d2:wr.cell? ⟨tb,2,none⟩=some (.slice la th.labs.length lc):=by simp[Xh,af]
         obtain⟨-,m6,m7,m8,mf⟩:=JK y f.out m.out b.out.2.2.2.1 b.out.2.2.1;replace af:=Aa af
         by_cases s:j<th.labs.length
         ·have bf:(j:Int)<(th.labs.length:Int):=by omega
          obtain⟨l,hl⟩:∃l,th.labs[j]?=some l:=⟨_,Xc s⟩;obtain⟨gl,bi,e,l0,l1⟩:=OA y f.out m.out hl;have e2:=aC.out;rw[e] at e2
          cases e2
          have W:Ya ((j:Int)+1)=(j:Int)+1:=XQ _ (by have:=aa.out.2;omega);have hF:((bs l.1).toList == (bs r.word).toList)=decide (l.1=r.word):=by
           rw[AR,AR]
           by_cases e:l.1=r.word<;>simp[e]
          have V:Ag wr a wr.drew a:=⟨rfl,rfl,rfl,Xf _,λ_ _=>rfl,λ_ _ _=>rfl⟩;have A:=Ah.keep (w':=wr.drew) y (λ_ _=>rfl) V;obtain⟨I,K⟩:=JI A f.out m.out b.out.2.2.2.1 b.out.2.2.1 (l.2:Int);have D:=Qf (x:=r.word) hl (-1);have q:=Aa (⟨A,I,B.trans V,(B.trans V).trans K,D,s⟩:_/\_/\_/\_/\_/\_);clear A I K V D y B s hj hl e
          by_cases e:l.1=r.word
          ·rw[decide_eq_true e] at hF;replace e:=Aa e
           go_wp2_with fail
           go_region
           all_goals
            go_wp2_with fail
            go_roundw
            case rel=>
             rw[W];obtain⟨A,I,aD,K,D,s⟩:=q.out
             exact⟨j+1,s,rfl,by rw[D,if_pos e.out];exact I,K⟩
            case measure=>
             rw[W];exact Xs q.out.2.2.2.2.2 (Xt j)
          ·rw[decide_eq_false e] at hF;replace e:=Aa e
           go_wp2_with fail
           go_region
           all_goals
            go_wp2_with fail
            go_roundw
            case rel=>
             rw[W];obtain⟨A,I,aD,K,D,s⟩:=q.out
             exact⟨j+1,s,rfl,by rw[D,if_neg e.out];exact A,aD⟩
            case measure=>
             rw[W];exact Xs q.out.2.2.2.2.2 (Xt j)
         ·have aR:j=th.labs.length:=by omega
          subst aR;rw[Yi] at y m6;have q:=Aa (⟨y,B⟩:_/\_);have G:Ya ((k:Int)+1)=(k:Int)+1:=XQ _ (by have:=aa.out.1;have:=b.out.2.2.2.2.1;omega);generalize EX r.word th.labs (-1)=v at *;clear y B s hj
          by_cases hv:v<0
          ·go_wp2_with fail
           go_ret
           obtain⟨d,g,e,c,t,J⟩:=b.out
           exact⟨(aj.out.trans M.out).trans q.out.2,.inl ⟨r.line,Ky f.out R.out (KA c d (by rw[z.out];exact hv)),rfl⟩⟩
          ·go_wp2_with fail
           go_roundw
           case rel=>
            rw[G];obtain⟨d,g,e,c,t,J⟩:=b.out
            exact⟨k+1,t,rfl,Kz c d (by rw[z.out];omega),by rw[<-JJ c,z.out];exact q.out.1,M.out.trans q.out.2⟩
           case measure=>
            rw[G];exact Xs b.out.2.2.2.2.1 (Xt k)
      ·have z:Hid (rX P th r=r.i.x):=by unfold Hid rX;rw[if_neg E,if_neg Q]
       have g1:(AA r.i.op == [116])=false:=by simpa using E
       have g2:(AA r.i.op == [108])=false:=by simp[Ht] at Q;simpa using Q.1
       have g3:(AA r.i.op == [97,98,108])=false:=by simp[Ht] at Q;simpa using Q.2
       rw[g1] at ap;rw[g2] at ab;rw[g3] at ae;clear E Q g1 g2 g3;have O:=JP r.i.op wr;generalize AA r.i.op=F at *
       by_cases hv:r.i.x<0
       ·go_wp2_with fail
        refine O.mono ?_;rintro e w2 ⟨rfl,rfl⟩
        go_wp2_with fail
        go_ret
        obtain⟨d,g,e,c,t,J⟩:=b.out
        exact⟨aj.out.trans g,.inl ⟨r.line,Ky f.out R.out (KA c d (by rw[z.out];exact hv)),rfl⟩⟩
       ·go_wp2_with fail
        refine O.mono ?_;rintro e w2 ⟨rfl,rfl⟩
        go_wp2_with fail
        go_roundw
        case rel=>
         rw[G];obtain⟨d,g,e,c,t,J⟩:=b.out
         exact⟨k+1,t,rfl,Kz c d (by rw[z.out];omega),by rw[<-JJ c,z.out];exact aq.out,g⟩
        case measure=>
         rw[G];exact Xs b.out.2.2.2.2.1 (Xt k)
    ·have bk:k=th.code.length:=by omega
     subst bk;have b:=Aa (⟨d,g,X⟩:_/\_/\_);have aS:Ya ((i:Int)+1)=(i:Int)+1:=XQ _ (by have:=hb.out;have:=Z.out;omega);clear d g X t J ah
     go_wp2_with fail
     go_roundw
     case rel=>
      rw[aS];obtain⟨d,g,X⟩:=b.out;rw[Yi] at d
      exact⟨i+1,Z.out,rfl,act f.out R.out d,by rw[<-Uq f.out];exact X,aj.out.trans g⟩
     case measure=>
      rw[aS];exact Xs Z.out (Xt i)
  ·have bj:i=P.thr.length:=by omega
   subst bj;have S:=Aa (⟨hX,R,C⟩:_/\_/\_);obtain⟨ta,ba,Y⟩:=At C.trow;rw[Y,Lv] at c3;clear C hX R Y hi Z
   go_wp2_with fail
   go_ret
   refine⟨S.out.1,.inr ⟨?_,rfl,?_⟩⟩
   ·have:=S.out.2.1;rw[Yi] at this;exact this
   ·rw[<-Uj];exact S.out.2.2
theorem IR {w:Xg} {fn:Func} {tmps:Array Xj} {b:Nat} {x y d f c e:Xj} (g:fn.results = #[.cell 2 28,.tmp 3,.tmp 4]) (m:tmps[2]?=some (.pointer (some ⟨b,0,none⟩))) (k:tmps[3]?=some x) (n:tmps[4]?=some y) (a:w.heap[b]?=some (.cells #[d,f,c,e] 28)):(results fn tmps).run Tryz.prog w = .ok (.tuple #[.agg #[d,f,c,e],x,y]) w:=by
 have h:w.cell? ⟨b,0,none⟩=some d:=by simp[Xh,a]
 have i:w.cell? ⟨b,1,none⟩=some f:=by simp[Xh,a]
 have j:w.cell? ⟨b,2,none⟩=some c:=by simp[Xh,a]
 have l:w.cell? ⟨b,3,none⟩=some e:=by simp[Xh,a]
 simp[results,g,m,k,n,go_sem,h,i,j,l]
def RV.new:RV:=⟨λ_=>.slice none 0 0,.slice none 0 0,[]⟩
def DZ (n:Nat):Nat->RT:=λb=>if b=n then .rd else .o
theorem Ah.new {w:Xg} {base a:Nat} (d:w.heap[a]?=some (.cells #[.slice none 0 0,.slice none 0 0,.slice none 0 0,.slice none 0 0] 28)) (f:base<=a):Ah w (DZ a) base a RP.new RV.new:=by
 have i:a<w.heap.size:=(Xa.1 d).1;refine⟨d,λk l=>⟨?_,λg e=>by cases e⟩,Xy _ _ _ _,(λg e=>by cases e),rfl,(λj th p h=>by cases h),by simp[DZ],λb c=>?_,by omega⟩
 ·have e:RP.new.get k=[]:=by simp[RP.get,RP.new]
  rw[e];exact Xy _ _ _ _
 ·unfold DZ at c
  split at c
  ·rename_i e;subst e;exact⟨f,i⟩
  ·exact absurd rfl c
def MV (w:Xg) (t:Tx) (e:Ending) (w':Xg):Prop:=Xn w.heap.size w w'/\((∃er ln,Bk t = .error (er,ln)/\e = .returned (.tuple #[.agg #[.slice none 0 0,.slice none 0 0,.slice none 0 0,.slice none 0 0],.int .i64 er,.int .i64 ln]))\/
 (∃s C tag pb P U,Bk t = .ok (s,C)/\e = .returned (.tuple #[.agg #[U.V 118,U.V 102,U.V 109,U.tV],.int .i64 0,.int .i64 0])/\Ah w' tag w.heap.size pb P U/\(∀k,AH k->s.nms k=An P k)/\C=P.thr.map λth=>th.code.map RI.i))
structure MW (w2:Xg) (tag0:Nat->RT) (base pb:Nat) (t:Tx) (i:Nat) (wr:Xg) (tag:Nat->RT) (s:PS) (P:RP) (U:RV):Prop where
 ln:BP ((Ap 10 t).take i) 0 PS.new = .ok s
 pl:PL P s
 labs:DE P i
 rf:Ah wr tag base pb P U
 ext:Ag w2 tag0 wr tag
theorem ME {w w1 w':Xg} {d f:Nat->RT} {n:Nat} (c:Xn n w w1) (a:Ag w1 d w' f) (g:∀b,b<n->d b = .o) (h:n<=w1.heap.size):Xn n w w':=
 ⟨a.os.trans c.os,a.tape.trans c.tape,a.output.trans c.output,Nat.le_trans c.size a.size,λb e=>(a.block b (by omega) (g b e)).trans (c.block b e)⟩
theorem SO (w:Xg) (A B:Obj):((w.alloc A).alloc B).heap[w.heap.size]?=some A/\((w.alloc A).alloc B).heap[w.heap.size+1]?=some B/\Xn w.heap.size w ((w.alloc A).alloc B)/\((w.alloc A).alloc B).heap.size=w.heap.size+2:=by
 refine⟨?_,?_,?_,by simp⟩
 ·rw[Below.heap_alloc _ B _ (by simp)];exact Xi w A
 ·have:=Xi (w.alloc A) B;rw[World.size_alloc] at this;exact this
 ·exact((Xo _ _).alloc (Xf _) _).alloc (by simp) _
theorem Mt {w:Xg} {n T:Nat} {j i h f:Xj} (k:w.heap[n]?=some (.cells #[j,i,h,f] T)) (a c d e:Xj):∃W,(((w.setCell ⟨n,0,none⟩ a).setCell ⟨n,1,none⟩ c).setCell ⟨n,2,none⟩ d).setCell ⟨n,3,none⟩ e=W/\W.heap[n]?=some (.cells #[a,c,d,e] T)/\(∀b,b≠n->W.heap[b]?=w.heap[b]?)/\W.heap.size=w.heap.size/\W.os=w.os/\W.tape=w.tape/\W.output=w.output:=by
 refine⟨_,rfl,?_,λb g=>?_,by simp,rfl,rfl,rfl⟩
 ·have m:=(Xk _ n 0 _ _ a k).trans (show _=some (Obj.cells #[a,i,h,f] T) from rfl);have l:=(Xk _ n 1 _ _ c m).trans (show _=some (Obj.cells #[a,c,h,f] T) from rfl);have o:=(Xk _ n 2 _ _ d l).trans (show _=some (Obj.cells #[a,c,d,f] T) from rfl)
  exact(Xk _ n 3 _ _ e o).trans (show _=some (Obj.cells #[a,c,d,e] T) from rfl)
 ·rw[Xl _ ⟨n,3,none⟩ _ b g,Xl _ ⟨n,2,none⟩ _ b g,Xl _ ⟨n,1,none⟩ _ b g,Xl _ ⟨n,0,none⟩ _ b g]
theorem LJ {w:Xg} {n:Nat} (a:w.heap[n]?=some (.cells #[.slice none 0 0,.slice none 0 0,.slice none 0 0,.slice none 0 0] 28)):(w.cell? ⟨n,0,none⟩=some (.slice none 0 0)/\w.cell? ⟨n,1,none⟩=some (.slice none 0 0)/\w.cell? ⟨n,2,none⟩=some (.slice none 0 0)/\w.cell? ⟨n,3,none⟩=some (.slice none 0 0))/\∀i,w.frozen? ⟨n,i,none⟩=false:=by
 refine⟨⟨?_,?_,?_,?_⟩,λi=>?_⟩
 ·simp[Xh,a]
 ·simp[Xh,a]
 ·simp[Xh,a]
 ·simp[Xh,a]
 ·simp[World.frozen?,a]
theorem UF (t:Tx) (w:Xg) (bq:t.length<140737488355328):X3 Tryz.prog 21 #[.string (bs t)] w (MV w t):=by
 have hz:=AY t
 by_cases h3:3000<t.length
 ·have hP:Hid (Bk t = .error (1,0)):=by unfold Hid Bk;rw[if_pos h3]
  have bL:(3000:Int)<(t.length:Int):=by omega
  go_enter Tryz.func21,Tryz.ntmps21
  go_wp2_with fail
  exact XN (IR rfl rfl rfl rfl (Xi w _)) rfl ⟨(Xo _ _).alloc (Xf _) _,.inl ⟨1,0,hP.out,rfl⟩⟩
 ·have hP:Hid (Bk t=Dc t):=by unfold Hid Bk;rw[if_neg h3]
  have bL:¬(3000:Int)<(t.length:Int):=by omega
  have aU:Hid (t.length<=3000):=by unfold Hid;omega
  go_enter Tryz.func21,Tryz.ntmps21
  go_wp2_with fail
  obtain⟨kA,kB,aX,bz⟩:=SO w (.cells #[.slice none 0 0,.slice none 0 0,.slice none 0 0,.slice none 0 0] 28) (.cells #[.slice none 0 0,.slice none 0 0,.slice none 0 0,.slice none 0 0] 28);generalize Zj (Zj w _) _=w1 at *;have hN:=Ah.new (base:=w.heap.size) kB (by omega);refine(UG t w1 (by have:=aU.out;omega)).mono ?_;rintro e Q ⟨v,rfl,hS⟩;obtain⟨la,bY,hv⟩:=At hS.row;obtain⟨m,hm⟩:∃m,(Ap 10 t).length=m+1:=⟨(Ap 10 t).length - 1,by have:=List.length_pos_iff.2 (NT 10 t);omega⟩;have aH:=hS.row;have aO:=aH;rw[hm] at aO;obtain⟨lg,b4,aZ⟩:=YV aO;rw[<-hm] at aZ;subst aZ
  cases hv
  have ag:=aH.lt lg rfl;have bn:=hN.below hS.low;have Y:Q.heap[w.heap.size]?=some (.cells #[.slice none 0 0,.slice none 0 0,.slice none 0 0,.slice none 0 0] 28):=(hS.low.block _ (by omega)).trans kA;have aC:Xn w.heap.size w Q:=aX.trans (hS.low.mono (by omega));have ap:∀i l,(Ap 10 t)[i]?=some l->Q.cell? ⟨lg,i,none⟩=some (.string (bs l)):=λi l D=>by
   rw[aH.cellAt i (by have:=(Xe.1 D).1;omega),Xp,D];rfl
  have aD:(Ap 10 t).length<=3001:=by have:=Qq0 10 t;have:=aU.out;omega
  have am:DZ (w.heap.size+1) lg = .o:=by unfold DZ;rw[if_neg (by omega)]
  have X:DZ (w.heap.size+1) w.heap.size = .o:=by unfold DZ;rw[if_neg (by omega)]
  have aw:∀b,b<w.heap.size->DZ (w.heap.size+1) b = .o:=λb O=>by unfold DZ;rw[if_neg (by omega)]
  have T:w.heap.size<Q.heap.size:=(Xa.1 Y).1;have p:=Aa (⟨ag,Y,aC,ap,aD,am,X,aw,T⟩:_/\_/\_/\_/\_/\_/\_/\_/\_);have HR2:=Aa bn;clear ag Y aC ap am X aw T bn hN kA kB aX bz hS aH aO hm hz h3 bq;obtain⟨L,J⟩:∃L,Ap 10 t=L:=⟨_,rfl⟩;rw[J] at p aD;rw[J];replace J:=Aa J;replace aD:=Aa aD;generalize bd:w.heap.size+1=pb at *;replace bd:=Aa bd
  go_wp2_with fail
  go_loopw [7] (λiv wr=>∃i:Nat,i<=L.length/\iv = .int .i64 i/\∃E s P U,MW Q (DZ pb) w.heap.size pb t i wr E s P U) (λiv _=>L.length - (intOf iv).toNat)
  case atStart=>exact⟨0,XD _,rfl,DZ pb,PS.new,RP.new,RV.new,rfl,PL.new,(λth h=>by cases h),HR2.out,Ag.refl _ _⟩
  case round=>
   obtain⟨i,hi,rfl,E,s,P,U,c⟩:=hrel;clear HR2;obtain⟨ag,Y,aC,ap,a7,am,X,aw,T⟩:=p.out;have z:=(c.ext.block w.heap.size T X).trans Y
   by_cases q:i<L.length
   ·have bW:(i:Int)<(L.length:Int):=by omega
    obtain⟨l,D⟩:∃l,L[i]?=some l:=⟨_,Xc q⟩;have c0:wr.cell? ⟨lg,i,none⟩=some (.string (bs l)):=(World.cell?_of_block (w:=Q) (a:=⟨lg,i,none⟩) (c.ext.block lg ag.2 am)).trans (ap i l D);have ay:l.length<=3000:=by
     have hl':=D;rw[<-J.out] at hl';have:=Im hl';have:=aU.out
     omega
    have H:=UC l wr (by omega);have au:Ya ((i:Int)+1)=(i:Int)+1:=XQ _ (by omega);have HJ:=Aa (⟨c,q,D,ay,z⟩:_/\_/\_/\_/\_);clear c D hi q z ay ag Y aC ap a7 am X aw T
    go_wp2_with fail
    refine H.mono ?_;clear H c0;rintro e w3 ⟨v,rfl,ah⟩;obtain⟨wa,aM,hv⟩:=At ah.row;have aG:=HJ.out.1.rf.below ah.low;have G:Ag wr E w3 E:=.Ch ah.low;obtain⟨c,q,D,ay,z⟩:=HJ.out
    cases S:Cf l with
    |nil=>
     rw[S] at hv;subst hv;have av:∀n,BJ n l s = .ok s:=λn=>by unfold BJ;rw[S]
     have I:Hid (MW Q (DZ pb) w.heap.size pb t (i+1) w3 E s P U):=by
      refine⟨(Ma (ls:=Ap 10 t) (by rw[J.out];exact D) c.ln).1 s (av _),c.pl,Ke c.labs,aG,c.ext.trans G⟩
     replace q:=Aa q;clear c D ay z ah aG G av HJ p
     go_wp2_with fail
     go_roundw
     case rel=>
      rw[au]
      exact⟨i+1,q.out,rfl,E,s,P,U,I.out⟩
     case measure=>
      rw[au];exact Xs q.out (Xt i)
    |cons f ts=>
     have ai:=ah.row;rw[S] at hv ai;subst hv;obtain⟨M,bI,e⟩:=YV (k:=ts.length) (by simpa using ai);have e:Value.slice wa (ts.length+1) aM = .slice (some ⟨M,0,none⟩) (ts.length+1) bI:=e
     cases e
     have aY:=ai.lt M rfl;have aR:∀x,x∈f::ts->x∈Cf l:=λx hx=>by rw[S];exact hx
     have aF:=Nl l;rw[S] at aF;have aF:ts.length+1<=l.length+1:=by simpa using aF
     have bH:=Nn (aR f (by simp));have a6:E M = .o:=by
      cases hq:E M with
      |o=>rfl
      |_=>exact absurd (c.rf.tlt M (by rw[hq];simp)).2 (by omega)
     have bl:ts.length+1<=aM:=by
      rcases ai.2 with⟨h1,_⟩|⟨g,cap,b1,h1,h2⟩
      ·cases h1
      ·cases h1
       exact h2.2.2.1
     have hWs:Cm w3 E (some ⟨M,0,none⟩) (f::ts):=λj hj=>⟨M,0,rfl,aY.2,by
      rw[Nat.zero_add,ai.cellAt j (by simpa using hj),Xp,Xc hj,List.getD_eq_getElem?_getD,Xc hj];rfl,a6⟩
     have aV:=UM aG c.pl c.labs (by have:=aD.out;omega) M 0 (ts.length+1) aM f ts rfl hWs bl (by omega) ((i:Int)+1) (by omega) (SD (aR f (by simp))) (by omega);unfold Ab at aV;have av:∀n,BJ n l s=stepT n f ts s:=λn=>by unfold BJ;rw[S]
     have K:=Ma (ls:=Ap 10 t) (by rw[J.out];exact D) c.ln;rw[av,Int.zero_add] at K;have b7:(((ts.length+1:Nat):Int) == 0)=false:=by simp;omega
     have bV:(((ts.length:Int)+1) == 0)=false:=by simp;omega
     have d:E w.heap.size = .o:=(c.ext.tags _ p.out.2.2.2.2.2.2.2.2).trans p.out.2.2.2.2.2.2.1;have hrl3:w.heap.size<wr.heap.size:=(Xa.1 z).1;have I:=Aa (⟨K,c.ext.trans G,q,(G.block _ hrl3 d).trans z,d⟩:_/\_/\_/\_/\_);clear c D ay z ah aG G av HJ ai aY aR aF bH a6 hWs bl K q S d hrl3
     go_wp2_with fail
     refine aV.mono ?_;clear aV;rintro en N ⟨e,a4,P',U',rfl,A,C,bx⟩;obtain⟨K,G,q,aI,d⟩:=I.out
     rcases bx with⟨he,ho⟩|⟨rfl,⟨s',ho,ba⟩,bf⟩
     ·have bX:(e != 0)=true:=by simpa using he
      have B:=(C.block _ (Xa.1 aI).1 d).trans aI;obtain⟨⟨a0,a1,a2,a3⟩,af⟩:=LJ B;have ar:Hid (Bk t = .error (e,(i:Int)+1)):=by rw[hP.out];exact Pf (K.2 e ho)
      have aq:Hid (Xn w.heap.size w N):=ME p.out.2.2.1 (G.trans C) p.out.2.2.2.2.2.2.2.1 (Nat.le_of_lt p.out.2.2.2.2.2.2.2.2);replace B:=Aa B;clear K G q aI d I A C ho p he
      go_wp2_with fail
      obtain⟨W,H,k1,k2,k3,k4,k5,k6⟩:=Mt B.out (.slice none 0 0) (.slice none 0 0) (.slice none 0 0) (.slice none 0 0);rw[H];have u:=aq.out;exact XN (IR rfl rfl rfl rfl k1) rfl ⟨⟨k4.trans u.os,k5.trans u.tape,k6.trans u.output,by have:=u.size;omega,λb O=>(k2 b (by omega)).trans (u.block b O)⟩,.inl ⟨e,(i:Int)+1,ar.out,by show Ending.returned (.tuple #[_,.int .i64 e,.int .i64 (Ya ((i:Int)+1))])=_;rw[au]⟩⟩
     ·have HM:Hid (MW Q (DZ pb) w.heap.size pb t (i+1) N a4 s' P' U'):=⟨K.1 s' ho,ba,bf,A,G.trans C⟩;replace q:=Aa q;clear K G aI d I A C ho p ba bf
      go_wp2_with fail
      go_roundw
      case rel=>
       rw[au]
       exact⟨i+1,q.out,rfl,a4,s',P',U',HM.out⟩
      case measure=>
       rw[au];exact Xs q.out (Xt i)
   ·have bF:i=L.length:=by omega
    subst bF;have R:=c.ln;rw[J.out,Yi,<-J.out] at R;have bA:P.thr.length<=4:=by
     have:=c.pl.few 116 (by simp[AH]);have g4:An P 116=P.names:=by simp[An]
     rw[g4] at this
     simpa [RP.names] using this
    have aP:=UD c.rf (by omega) (λth aa=>by
     have h1:=c.pl.code th aa;have h2:=c.labs th aa
     exact⟨by omega,by omega⟩)
    unfold Ab at aP;have F:=Oz c.pl P.thr (λth aa r hr=>(c.pl.pos th aa r hr).1);rw[<-c.pl.bod] at F;have d:E w.heap.size = .o:=(c.ext.tags _ T).trans X;have I:=Aa (⟨R,F,c,z,d⟩:_/\_/\_/\_/\_);clear c z R F bA d hi q ag Y aC ap a7 am X aw T
    go_wp2_with fail
    refine aP.mono ?_;clear aP;obtain⟨R,F,c,z,d⟩:=I.out;rintro en N ⟨C,(⟨n,hbn,rfl⟩|⟨hbn,rfl,A⟩)⟩
    ·have hn:0<n:=acs (λth aa r hr=>(c.pl.pos th aa r hr).2) hbn;rw[hbn] at F;have B:=(C.block _ (Xa.1 z).1 d).trans z;obtain⟨⟨a0,a1,a2,a3⟩,af⟩:=LJ B;have ar:Hid (Bk t = .error (5,n)):=by rw[hP.out];exact Pe R F
     have aq:Hid (Xn w.heap.size w N):=ME p.out.2.2.1 (c.ext.trans C) p.out.2.2.2.2.2.2.2.1 (Nat.le_of_lt p.out.2.2.2.2.2.2.2.2);replace B:=Aa B;clear R F c z d I C p hbn
     go_wp2_with fail
     obtain⟨W,H,k1,k2,k3,k4,k5,k6⟩:=Mt B.out (.slice none 0 0) (.slice none 0 0) (.slice none 0 0) (.slice none 0 0);rw[H];have u:=aq.out;exact XN (IR rfl rfl rfl rfl k1) rfl ⟨⟨k4.trans u.os,k5.trans u.tape,k6.trans u.output,by have:=u.size;omega,λb O=>(k2 b (by omega)).trans (u.block b O)⟩,.inl ⟨5,n,ar.out,rfl⟩⟩
    ·rw[hbn] at F;have B:=(C.block _ (Xa.1 z).1 d).trans z;obtain⟨⟨a0,a1,a2,a3⟩,af⟩:=LJ B;have ar:Hid (Bk t = .ok (s,P.thr.map λth=>(Dw P th).code.map RI.i)):=by rw[hP.out];exact Pc R F
     have aq:Hid (Xn w.heap.size w N):=ME p.out.2.2.1 (c.ext.trans C) p.out.2.2.2.2.2.2.2.1 (Nat.le_of_lt p.out.2.2.2.2.2.2.2.2);have p0:N.cell? ⟨pb,0,none⟩=some (U.V 118):=A.Dm (k:=118) (by simp[BE]);have p1:N.cell? ⟨pb,1,none⟩=some (U.V 102):=A.Dm (k:=102) (by simp[BE]);have p2:N.cell? ⟨pb,2,none⟩=some (U.V 109):=A.Dm (k:=109) (by simp[BE]);have p3:=A.FX;obtain⟨x0,n0,y0,Z⟩:∃x n y,U.V 118 = .slice x n y:=by obtain⟨x,y,e⟩:=JH (A.rows 118 (by simp[BE]));exact⟨x,_,y,e⟩
     obtain⟨x1,n1,y1,e1⟩:∃x n y,U.V 102 = .slice x n y:=by obtain⟨x,y,e⟩:=JH (A.rows 102 (by simp[BE]));exact⟨x,_,y,e⟩
     obtain⟨x2,n2,y2,e2⟩:∃x n y,U.V 109 = .slice x n y:=by obtain⟨x,y,e⟩:=JH (A.rows 109 (by simp[BE]));exact⟨x,_,y,e⟩
     obtain⟨x3,n3,y3,e3⟩:∃x n y,U.tV = .slice x n y:=by obtain⟨x,y,e⟩:=At A.trow;exact⟨x,_,y,e⟩
     have hg:∀k,AH k->s.nms k=An {P with thr:=P.thr.map (Dw P)} k:=λk hk=>by
      rw[c.pl.nms k hk];unfold An;have e:({P with thr:=P.thr.map (Dw P)}:RP).names=P.names:=by
       show (P.thr.map (Dw P)).map Az.name=P.thr.map Az.name;rw[Ze];rfl
      rw[e];rfl
     have bw:=Aa (⟨A,hg,d,Z,e1,e2,e3⟩:_/\_/\_/\_/\_/\_/\_);rw[Z] at p0;rw[e1] at p1;rw[e2] at p2;rw[e3] at p3;replace B:=Aa B;clear R F c z d I C p hbn A hg Z e1 e2 e3
     go_wp2_with fail
     obtain⟨W,H,k1,k2,k3,k4,k5,k6⟩:=Mt B.out (U.V 118) (U.V 102) (U.V 109) U.tV;obtain⟨A,hg,d,Z,e1,e2,e3⟩:=bw.out;rw[Z,e1,e2,e3] at H k1;rw[H];have u:=aq.out;refine XN (IR rfl rfl rfl rfl k1) rfl ⟨⟨k4.trans u.os,k5.trans u.tape,k6.trans u.output,by have:=u.size;omega,λb O=>(k2 b (by omega)).trans (u.block b O)⟩,.inr ⟨s,_,E,pb,_,U,ar.out,by rw[Z,e1,e2,e3];rfl,A.Kg (λb O=>k2 b (λe=>O (by rw[e];exact d))) (by omega),hg,?_⟩⟩;show _=(P.thr.map (Dw P)).map _;rw[Ze];rfl
structure Ie (w:Xg) (vV fV lV tV:Xj) (P:RP) (TV:List (Xj×Xj)):Prop where
 v:w.ownsRow 0 9 1 vV P.vs.length (P.vs.map BB)
 f:w.ownsRow 0 9 1 fV P.fs.length (P.fs.map BB)
 l:w.ownsRow 0 9 1 lV P.ls.length (P.ls.map BB)
 t:w.ownsRow 0 199 3 tV P.thr.length ((P.thr.zip TV).flatMap Da)
 len:TV.length=P.thr.length
 c:∀(j:Nat) (th:Az) (p:Xj×Xj),P.thr[j]?=some th->TV[j]?=some p->w.ownsRow 0 177 9 p.1 th.code.length (th.code.flatMap AC)
theorem Ie.below {w w':Xg} {b d lV tV:Xj} {P:RP} {TV:List (Xj×Xj)} (h:Ie w b d lV tV P TV) (a:Xn w.heap.size w w'):Ie w' b d lV tV P TV:=
 ⟨EJ h.v a,EJ h.f a,EJ h.l a,EJ h.t a,h.len,λj th p e g=>EJ (h.c j th p e g) a⟩
theorem Ie.nil (w:Xg):Ie w (.slice none 0 0) (.slice none 0 0) (.slice none 0 0) (.slice none 0 0) RP.new []:=
 ⟨Xy _ _ _ _,Xy _ _ _ _,Xy _ _ _ _,Xy _ _ _ _,rfl,(λj th p h=>by cases h)⟩
theorem Bz.nil (w:Xg) (base:Nat):Bz w base (.slice none 0 0) (.slice none 0 0) (.slice none 0 0) (.slice none 0 0) [] [] [] [] []:=
 ⟨Xy _ _ _ _,Xy _ _ _ _,Xy _ _ _ _,Xy _ _ _ _,(λj p is h=>by cases h),rfl⟩
theorem Bz.below {w w':Xg} {base:Nat} {b d lV e:Xj} {vs fs ls:List Tx} {L:List (Tx×Xj)} {C:List (List Ac)} (h:Bz w base b d lV e vs fs ls L C) (a:Xn w.heap.size w w'):Bz w' base b d lV e vs fs ls L C:=
 ⟨EJ h.v a,EJ h.f a,EJ h.l a,EJ h.t a,λi p is g j=>EJ (h.c i p is g j) a,h.len⟩
structure ac1 (w:Xg) (g k:Nat) (r:RI):Prop where
 c0:w.cell? ⟨g,k*9,none⟩=some (.string (bs r.i.op))
 c1:w.cell? ⟨g,k*9+1,none⟩=some (.int .i64 r.i.r)
 c2:w.cell? ⟨g,k*9+2,none⟩=some (.bool r.i.aR)
 c3:w.cell? ⟨g,k*9+3,none⟩=some (.int .i64 r.i.aN)
 c4:w.cell? ⟨g,k*9+4,none⟩=some (.bool r.i.bR)
 c5:w.cell? ⟨g,k*9+5,none⟩=some (.int .i64 r.i.bN)
 c6:w.cell? ⟨g,k*9+6,none⟩=some (.int .i64 r.i.x)
 c7:w.cell? ⟨g,k*9+7,none⟩=some (.int .i64 r.line)
 c8:w.cell? ⟨g,k*9+8,none⟩=some (.string (bs r.word))
theorem Bz.SW {w:Xg} {base:Nat} {i k lV a:Xj} {vs fs ls:List Tx} {L:List (Tx×Xj)} {C:List (List Ac)} (h:Bz w base i k lV a vs fs ls L C) {j:Nat} {p:Tx×Xj} (b:L[j]?=some p):∃g cap,a = .slice (some ⟨g,0,none⟩) L.length cap/\g<w.heap.size/\w.cell? ⟨g,j*2,none⟩=some (.string (bs p.1))/\w.cell? ⟨g,j*2+1,none⟩=some p.2:=by
 have m:=(Xe.1 b).1;obtain⟨g,cap,e,l,c⟩:=Ot h.t m;have key:∀q,q<2->w.cell? ⟨g,j*2+q,none⟩=[Value.string (bs p.1),p.2][q]?:=λq d=>by
  rw[c (j*2+q) (by omega)];exact GN (f:=λp:Tx×Xj=>[Value.string (bs p.1),p.2]) SV b d
 exact⟨g,cap,e,l,key 0 (by omega),key 1 (by omega)⟩
end Go.Proofs.YtdcacoifehkioaaGreatDoor
namespace Go.Proofs.YtdcacoifehkioaaGreatDoor
open Go.RowKit Go.Shelf Go.Proofs.Cod
def PV (t:Tx) (er ln:Int) (vs fs ls ts:List Tx) (C:List (List Ac)):Prop:=match Bk t with
 |.error p=>er=p.1/\ln=p.2/\vs=[]/\fs=[]/\ls=[]/\ts=[]/\C=[]
 |.ok p=>er=0/\ln=0/\vs=p.1.nms 118/\fs=p.1.nms 102/\ls=p.1.nms 109/\ts=p.1.nms 116/\C=p.2
theorem PV.eq {t:Tx} {v x r q:Int} {vs fs ls ts y z s u:List Tx} {C w:List (List Ac)} (h:PV t v x vs fs ls ts C) (a:PV t r q y z s u w):v=r/\x=q/\vs=y/\fs=z/\ls=s/\ts=u/\C=w:=by
 unfold PV at h a
 split at h<;>rename_i p A<;>rw[A] at a
 ·obtain⟨g,j,k,b,a5,c,e⟩:=h;obtain⟨d,o,f,l,n,i,m⟩:=a
  exact⟨g.trans d.symm,j.trans o.symm,k.trans f.symm,b.trans l.symm,a5.trans n.symm,c.trans i.symm,e.trans m.symm⟩
 ·obtain⟨g,j,k,b,a5,c,e⟩:=h;obtain⟨d,o,f,l,n,i,m⟩:=a
  exact⟨g.trans d.symm,j.trans o.symm,k.trans f.symm,b.trans l.symm,a5.trans n.symm,c.trans i.symm,e.trans m.symm⟩
theorem Vp {w:Xg} {t:Tx} {e:Ending} {w':Xg} (h:KI w t e w'):Xn w.heap.size w w'/\∃b a d f lV g vs fs ls L C,e = .returned (.tuple #[.agg #[d,f,lV,g],.int .i64 b,.int .i64 a])/\Bz w' w.heap.size d f lV g vs fs ls L C/\PV t b a vs fs ls (L.map Prod.fst) C:=by
 obtain⟨i,(⟨b,a,c,rfl⟩|⟨s,C,d,f,lV,g,L,c,rfl,k,j⟩)⟩:=h
 ·exact⟨i,b,a,_,_,_,_,[],[],[],[],[],rfl,Bz.nil _ _,by unfold PV;rw[c];exact⟨rfl,rfl,rfl,rfl,rfl,rfl,rfl⟩⟩
 ·exact⟨i,0,0,_,_,_,_,_,_,_,L,C,rfl,k,by unfold PV;rw[c];exact⟨rfl,rfl,rfl,rfl,rfl,j,rfl⟩⟩
structure CX (w:Xg) (base:Nat) (vV fV lV tV:Xj) (P:RP) (TV:List (Xj×Xj)):Prop where
 v:w.ownsRow base 9 1 vV P.vs.length (P.vs.map BB)
 f:w.ownsRow base 9 1 fV P.fs.length (P.fs.map BB)
 l:w.ownsRow base 9 1 lV P.ls.length (P.ls.map BB)
 t:w.ownsRow base 199 3 tV P.thr.length ((P.thr.zip TV).flatMap Da)
 len:TV.length=P.thr.length
 c:∀(j:Nat) (th:Az) (p:Xj×Xj),P.thr[j]?=some th->TV[j]?=some p->w.ownsRow base 177 9 p.1 th.code.length (th.code.flatMap AC)
theorem CX.view {w:Xg} {base:Nat} {a b lV tV:Xj} {P:RP} {TV:List (Xj×Xj)} (h:CX w base a b lV tV P TV):Ie w a b lV tV P TV:=
 ⟨CN h.v (XD _),CN h.f (XD _),CN h.l (XD _),CN h.t (XD _),h.len,λj th p d e=>CN (h.c j th p d e) (XD _)⟩
theorem FF {w w':Xg} {base e a n:Nat} {v:Xj} {b:List Xj} (h:w.ownsRow base e a v n b) (c:∀k,base<=k->k<w.heap.size->w'.heap[k]?=w.heap[k]?):w'.ownsRow base e a v n b:=Bg h λg e=>c g (h.lt g e).1 (h.lt g e).2
theorem CX.RW {w w':Xg} {base:Nat} {b d lV tV:Xj} {P:RP} {TV:List (Xj×Xj)} (h:CX w base b d lV tV P TV) (a:∀k,base<=k->k<w.heap.size->w'.heap[k]?=w.heap[k]?):CX w' base b d lV tV P TV:=
 ⟨FF h.v a,FF h.f a,FF h.l a,FF h.t a,h.len,λj th p e g=>FF (h.c j th p e g) a⟩
theorem Ah.UQ {w:Xg} {c:Nat->RT} {base b:Nat} {P:RP} {U:RV} (h:Ah w c base b P U):CX w base (U.V 118) (U.V 102) (U.V 109) U.tV P U.TV:=by
 have a:∀{k:Int},BE k->w.ownsRow base 9 1 (U.V k) (P.get k).length ((P.get k).map BB):=λd=>by
  have:=(h.rows _ d).row;rw[List.length_map] at this;exact this
 exact⟨a (k:=118) (by simp[BE]),a (k:=102) (by simp[BE]),a (k:=109) (by simp[BE]),h.trow,h.len,λj th p e f=>(h.ths j th p e f).code⟩
theorem CX.nil (w:Xg) (base:Nat):CX w base (.slice none 0 0) (.slice none 0 0) (.slice none 0 0) (.slice none 0 0) RP.new []:=
 ⟨Xy _ _ _ _,Xy _ _ _ _,Xy _ _ _ _,Xy _ _ _ _,rfl,(λj th p h=>by cases h)⟩
theorem TZ {w:Xg} {t:Tx} {e:Ending} {w':Xg} (h:MV w t e w'):Xn w.heap.size w w'/\∃c a f g lV tV P TV,e = .returned (.tuple #[.agg #[f,g,lV,tV],.int .i64 c,.int .i64 a])/\CX w' w.heap.size f g lV tV P TV/\PV t c a P.vs P.fs P.ls P.names (P.thr.map λth=>th.code.map RI.i):=by
 obtain⟨j,(⟨c,a,d,rfl⟩|⟨s,C,r,q,P,U,d,rfl,k,b,n⟩)⟩:=h
 ·exact⟨j,c,a,_,_,_,_,RP.new,[],rfl,CX.nil _ _,by unfold PV;rw[d];exact⟨rfl,rfl,rfl,rfl,rfl,rfl,rfl⟩⟩
 ·refine⟨j,0,0,_,_,_,_,P,U.TV,rfl,k.UQ,?_⟩;unfold PV;rw[d];have l:=b 118 (by simp[AH]);have m:=b 102 (by simp[AH]);have o:=b 109 (by simp[AH]);have p:=b 116 (by simp[AH])
  exact⟨rfl,rfl,l.symm,m.symm,o.symm,p.symm,n.symm⟩
theorem Pd (t:Tx) (w:Xg) (c:FQ w) (b:FL w) (e:2<w.heap.size) (f:3<w.heap.size):X3 Tryz.prog 20 #[.string (bs t)] w (KI w t):=by
 by_cases a:t.length<140737488355328
 ·exact Vs t w c b e f a
 ·have i:=AY t;have d:3000<t.length:=XF (by decide) (adw a);have j:(3000:Int)<(t.length:Int):=by omega
  have g:Hid (Bk t = .error (1,0)):=by unfold Hid Bk;rw[if_pos d]
  have h:Hid (∀x,Xn w.heap.size w (w.alloc x)):=λx=>(Xo _ _).alloc (Xf _) _;clear a d c b e f
  go_enter Tryz.func20,Tryz.ntmps20
  go_wp2_with fail
  exact XN (JR rfl rfl rfl rfl (Xi w _)) rfl ⟨h.out _,.inl ⟨1,0,g.out,rfl⟩⟩
theorem UE (t:Tx) (w:Xg):X3 Tryz.prog 21 #[.string (bs t)] w (MV w t):=by
 by_cases a:t.length<140737488355328
 ·exact UF t w a
 ·have d:=AY t;have b:3000<t.length:=XF (by decide) (adw a);have c:Hid (Bk t = .error (1,0)):=by unfold Hid Bk;rw[if_pos b]
  have e:(3000:Int)<(t.length:Int):=by omega
  clear a b
  go_enter Tryz.func21,Tryz.ntmps21
  go_wp2_with fail
  exact XN (IR rfl rfl rfl rfl (Xi w _)) rfl ⟨(Xo _ _).alloc (Xf _) _,.inl ⟨1,0,c.out,rfl⟩⟩
end Go.Proofs.YtdcacoifehkioaaGreatDoor
