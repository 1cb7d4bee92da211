import Derived.Test.YtdcacoifehkioaaGreatDoorExH11
import Derived.BigQuiet
open Go renaming World->Xh,Calls->XX,Value->Xk,heap_setCell_same->Xj,bodyPost_ret->XJ,ownsRow_succ->Y5
open Nat renaming zero_le->Xw,le_refl->Xd,sub_lt_sub_left->Xl,lt_succ_self->Xn,lt_of_lt_of_le->XK,le_of_not_lt->afs
open List renaming getElem?_eq_getElem->Xe,take_length->Yo,getElem?_eq_some_iff->Xf,getElem?_map->Xs,map_map->Zy
open Go.World renaming alloc_heap_new->Xi,cell?->Xg,ownsRow_nil->XG,alloc->ZC
open Go.RowKit renaming Below->Xm,wrap64->XO
open Go.RowKit.Below renaming refl->Xq,heap_setCell->Xo
open Go.IntWalk renaming wrap64_in->X2
open Array renaming getElem?_eq_some_iff->Xa
set_option maxRecDepth 100000
set_option maxHeartbeats 2000000
set_option linter.unusedVariables false
set_option linter.unusedSimpArgs false
namespace Go.Proofs.YtdcacoifehkioaaGreatDoor
open Go.RowKit Go.Proofs.Cod
theorem Om (s t:Tx):((bs s).toList == t)=(s == t):=by rw[AK]
theorem aaj {w:Xh} {a:Nat->RT} {base O:Nat} {P:RP} {U:RV} (h:Ak w a base O P U) (hb:P.thr.length<1000) (aT:∀th,th∈P.thr->th.code.length<4000/\th.labs.length<4000) :
 XX Tryz.prog 52 #[Ab O] w λe w'=>Ah w a w' a/\((∃n,FF P P.thr=some n/\e = .returned (.int .i64 n))\/(FF P P.thr=none/\e = .returned (.int .i64 0)/\Ak w' a base O {P with thr:=P.thr.map (EB P)} U)):=by
 have HX:=Aa (Ah.refl w a);have H:=Aa h;replace aT:=Aa aT;replace hb:=Aa hb;unfold Ab;clear h
 go_enter Tryz.func52,Tryz.ntmps52
 go_wp2_with fail
 go_loopw [3] (λu wr=>∃i:Nat,i<=P.thr.length/\u = .int .i64 i/\FF P (P.thr.take i)=none/\Ak wr a base O (P.res i) U/\Ah w a wr a) (λu _=>P.thr.length - (intOf u).toNat)
 case atStart=>exact⟨0,Xw _,rfl,rfl,by rw[WM];exact H.out,HX.out⟩
 case round=>
  obtain⟨i,hi,rfl,W,B,hX⟩:=hrel;clear HX H;have c3:=B.Hc
  by_cases h5:i<P.thr.length
  ·obtain⟨th,f⟩:∃th,P.thr[i]?=some th:=⟨_,Xe h5⟩;obtain⟨p,m⟩:∃p,U.TV[i]?=some p:=⟨_,Xe (by rw[B.len,MQ];exact h5)⟩;have ar:=WQ f;obtain⟨gt,bf,hV⟩:=B.KM ar;rw[hV,MQ] at c3;have bk:(i:Int)<(P.thr.length:Int):=by omega
   have t0:wr.cell? ⟨gt,i*3,none⟩=some (.string (bs th.name)):=B.Hd ar m (r:=0) (by omega) hV;have t1:wr.cell? ⟨gt,i*3+1,none⟩=some p.1:=B.Hd ar m (r:=1) (by omega) hV;have t2:wr.cell? ⟨gt,i*3+2,none⟩=some p.2:=B.Hd ar m (r:=2) (by omega) hV;obtain⟨ca,T,aK⟩:=At (B.ths i th p ar m).code;obtain⟨I,E,aD⟩:=At (B.ths i th p ar m).labs;rw[aK] at t1;rw[aD] at t2;have aa:=aT.out th (List.mem_of_getElem? f);have Q:=Aa (⟨B,hX,W,aa⟩:_/\_/\_/\_);have aQ:gt<wr.heap.size:=World.block_lt_of_cell? wr ⟨gt,i*3,none⟩ t0;replace aQ:=Aa aQ;replace f:=Aa f;replace m:=Aa m;replace aK:=Aa aK;replace aD:=Aa aD;replace hi:=Aa hi;replace h5:=Aa h5;clear B hX W aa ar hV
   rename Xh=>wo
   go_wp2_with fail
   have aF:=Xi wo (.cells #[.string (bs th.name),.slice ca th.code.length T,.slice I th.labs.length E] 199);have aS:Xm wo.heap.size wo (wo.alloc (.cells #[.string (bs th.name),.slice ca th.code.length T,.slice I th.labs.length E] 199)):=(Xq _ _).alloc (Xd _) _;have aH:wo.heap.size<(wo.alloc (.cells #[.string (bs th.name),.slice ca th.code.length T,.slice I th.labs.length E] 199)).heap.size:=by simp
   have aC:a wo.heap.size = .o:=by
    cases ht:a wo.heap.size with
    |o=>rfl
    |_=>exact absurd (Q.out.1.tlt wo.heap.size (by rw[ht];simp)).2 (by omega)
   have aU:Ak (wo.alloc (.cells #[.string (bs th.name),.slice ca th.code.length T,.slice I th.labs.length E] 199)) a base O (P.GC i 0 th) U:=by rw[WX f.out];exact Q.out.1.below aS
   have am:Ah w a (wo.alloc (.cells #[.string (bs th.name),.slice ca th.code.length T,.slice I th.labs.length E] 199)) a:=Q.out.2.1.trans (.CH aS);have W:=Aa Q.out.2.2.1;have aa:=Aa Q.out.2.2.2;clear Q aS t0 t1 t2 c3 bk;generalize wo.alloc (.cells #[.string (bs th.name),.slice ca th.code.length T,.slice I th.labs.length E] 199)=wi at *;generalize wo.heap.size=tb at *;replace aF:=Aa aF;replace aH:=Aa aH;replace aC:=Aa aC;have a8:=Aa aU;replace am:=Aa am;clear aU aQ
   go_loopw [5] (λu wr=>∃k:Nat,k<=th.code.length/\u = .int .i64 k/\EJ P th (th.code.take k)=none/\Ak wr a base O (P.GC i k th) U/\Ah wi a wr a) (λu _=>th.code.length - (intOf u).toNat)
   case atStart=>exact⟨0,Xw _,rfl,rfl,a8.out,Ah.refl _ _⟩
   case round=>
    obtain⟨k,N,rfl,d,X,g⟩:=hrel;clear a8;have au:wr.heap[tb]?=some (.cells #[.string (bs th.name),.slice ca th.code.length T,.slice I th.labs.length E] 199):=(g.block tb aH.out aC.out).trans aF.out;have d1:wr.cell? ⟨tb,1,none⟩=some (.slice ca th.code.length T):=by simp[Xg,au]
    by_cases t:k<th.code.length
    ·have aY:(k:Int)<(th.code.length:Int):=by omega
     obtain⟨r,c⟩:∃r,th.code[k]?=some r:=⟨_,Xe t⟩;rw[WS c] at X;obtain⟨gc,bo,e⟩:=WV X f.out m.out c;have e2:=aK.out;rw[e] at e2
     cases e2
     obtain⟨k0,k6,k7,k8,kf⟩:=KZ X f.out m.out c e;have G:XO ((k:Int)+1)=(k:Int)+1:=X2 _ (by have:=aa.out.1;omega);have b:=Aa (⟨d,g,e,c,t,N⟩:_/\_/\_/\_/\_/\_);have av:=Aa X;replace au:=Aa au;clear d g e c t N X;have ap:=Om (AJ r.i.op) [116];have af:=Om (AJ r.i.op) [108];have ak:=Om (AJ r.i.op) [97,98,108]
     by_cases J:AJ r.i.op=[116]
     ·have z:Hid (rX P th r=Aq P.names r.word):=by unfold Hid rX;rw[if_pos J]
      rw[J] at ap af ak;have ap:((bs (AJ r.i.op)).toList == [116])=true:=by rw[J];exact ap.trans (by decide)
      have af:((bs (AJ r.i.op)).toList == [108])=false:=by rw[J];exact af.trans (by decide)
      have ak:((bs (AJ r.i.op)).toList == [97,98,108])=false:=by rw[J];exact ak.trans (by decide)
      clear J;have S:=Lf r.i.op wr;have hT:=QQ av.out r.word (by rw[WU];have:=hb.out;omega);rw[WT f.out] at hT;unfold Ab at hT;generalize AJ r.i.op=F at *;generalize Aq P.names r.word=v at *;obtain⟨ax,aw⟩:=KX av.out f.out m.out b.out.2.2.2.1 b.out.2.2.1 v;obtain⟨-,m6,m7,-,-⟩:=KZ ax f.out m.out b.out.2.2.2.1 b.out.2.2.1;have ab:=Aa (⟨ax,aw⟩:_/\_);clear ax aw
      by_cases hv:v<0
      ·go_wp2_with fail
       refine S.mono ?_;rintro e w2 ⟨rfl,rfl⟩
       go_wp2_with fail
       refine hT.mono ?_;rintro e w2 ⟨rfl,rfl⟩
       go_wp2_with fail
       go_ret
       obtain⟨d,g,e,c,t,N⟩:=b.out
       exact⟨(am.out.trans g).trans ab.out.2,.inl ⟨r.line,LS f.out W.out (LU c d (by rw[z.out];exact hv)),rfl⟩⟩
      ·go_wp2_with fail
       refine S.mono ?_;rintro e w2 ⟨rfl,rfl⟩
       go_wp2_with fail
       refine hT.mono ?_;rintro e w2 ⟨rfl,rfl⟩
       go_wp2_with fail
       go_roundw
       case rel=>
        rw[G];obtain⟨d,g,e,c,t,N⟩:=b.out
        exact⟨k+1,t,rfl,LT c d (by rw[z.out];omega),by rw[<-KY c,z.out];exact ab.out.1,g.trans ab.out.2⟩
       case measure=>
        rw[G];exact Xl b.out.2.2.2.2.1 (Xn k)
     ·by_cases R:IQ (AJ r.i.op)=true
      ·have z:Hid (rX P th r=Gf r.word th.labs (-1)):=by unfold Hid rX;rw[if_neg J,if_pos R]
       have g1:(AJ r.i.op == [116])=false:=by simpa using J
       rw[g1] at ap;have S:=Lf r.i.op wr;have d2:wr.cell? ⟨tb,2,none⟩=some (.slice I th.labs.length E):=by simp[Xg,au.out]
       obtain⟨ax,aw⟩:=KX av.out f.out m.out b.out.2.2.2.1 b.out.2.2.1 (-1);have ab:=Aa (⟨ax,aw⟩:_/\_);have V:=Aa (b.out.2.1.trans aw);have hL:(AJ r.i.op == [108])=true\/((AJ r.i.op == [108])=false/\(AJ r.i.op == [97,98,108])=true):=by
        cases g2:(AJ r.i.op == [108]) with
        |true=>exact .inl rfl
        |false=>simp[IQ,g2] at R;exact .inr ⟨rfl,by simp[R]⟩
       clear ax aw J R g1;generalize AJ r.i.op=F at *
       rcases hL with hL|⟨hL,a9⟩
       ·rw[hL] at af;clear ak hL
        go_wp2_with fail
        refine S.mono ?_;rintro e w2 ⟨rfl,rfl⟩
        go_wp2_with fail
        generalize an:World.setCell _ _ _=w4;have aA:Hid (Ak w4 a base O (P.Dy i k th r (-1)) U):=by rw[<-an];exact ab.out.1
        have V:Hid (Ah wi a w4 a):=by rw[<-an];exact V.out
        clear an ab d1 d2 k0 k6 k7 k8 kf S av au ap af G aY
        go_loopw [8] (λu wr=>∃j:Nat,j<=th.labs.length/\u = .int .i64 j/\Ak wr a base O (P.Dy i k th r (Gf r.word (th.labs.take j) (-1))) U/\Ah w4 a wr a) (λu _=>th.labs.length - (intOf u).toNat)
        case atStart=>exact⟨0,Xw _,rfl,aA.out,Ah.refl _ _⟩
        case round=>
         obtain⟨j,hj,rfl,y,D⟩:=hrel;clear aA;have aq:wr.heap[tb]?=some (.cells #[.string (bs th.name),.slice (some ⟨gc,0,none⟩) th.code.length T,.slice I th.labs.length E] 199):=((V.out.trans D).block tb aH.out aC.out).trans aF.out;have d2:wr.cell? ⟨tb,2,none⟩=some (.slice I th.labs.length E):=by simp[Xg,aq]
         obtain⟨-,m6,m7,m8,mf⟩:=KZ y f.out m.out b.out.2.2.2.1 b.out.2.2.1;replace aq:=Aa aq
         by_cases q:j<th.labs.length
         ·have bm:(j:Int)<(th.labs.length:Int):=by omega
          obtain⟨l,hl⟩:∃l,th.labs[j]?=some l:=⟨_,Xe q⟩;obtain⟨gl,bj,e,l0,l1⟩:=Qz y f.out m.out hl;have e2:=aD.out;rw[e] at e2
          cases e2
          have Z:XO ((j:Int)+1)=(j:Int)+1:=X2 _ (by have:=aa.out.2;omega);have hF:((bs l.1).toList == (bs r.word).toList)=decide (l.1=r.word):=by
           rw[AK,AK]
           by_cases e:l.1=r.word<;>simp[e]
          have Y:Ah wr a wr.drew a:=⟨rfl,rfl,rfl,Xd _,λ_ _=>rfl,λ_ _ _=>rfl⟩;have A:=Ak.keep (w':=wr.drew) y (λ_ _=>rfl) Y;obtain⟨K,M⟩:=KX A f.out m.out b.out.2.2.2.1 b.out.2.2.1 (l.2:Int);have C:=Si (x:=r.word) hl (-1);have s:=Aa (⟨A,K,D.trans Y,(D.trans Y).trans M,C,q⟩:_/\_/\_/\_/\_/\_);clear A K M Y C y D q hj hl e
          by_cases e:l.1=r.word
          ·rw[decide_eq_true e] at hF;replace e:=Aa e
           go_wp2_with fail
           go_region
           all_goals
            go_wp2_with fail
            go_roundw
            case rel=>
             rw[Z];obtain⟨A,K,aB,M,C,q⟩:=s.out
             exact⟨j+1,q,rfl,by rw[C,if_pos e.out];exact K,M⟩
            case measure=>
             rw[Z];exact Xl s.out.2.2.2.2.2 (Xn j)
          ·rw[decide_eq_false e] at hF;replace e:=Aa e
           go_wp2_with fail
           go_region
           all_goals
            go_wp2_with fail
            go_roundw
            case rel=>
             rw[Z];obtain⟨A,K,aB,M,C,q⟩:=s.out
             exact⟨j+1,q,rfl,by rw[C,if_neg e.out];exact A,aB⟩
            case measure=>
             rw[Z];exact Xl s.out.2.2.2.2.2 (Xn j)
         ·have aP:j=th.labs.length:=by omega
          subst aP;rw[Yo] at y m6;have s:=Aa (⟨y,D⟩:_/\_);have G:XO ((k:Int)+1)=(k:Int)+1:=X2 _ (by have:=aa.out.1;have:=b.out.2.2.2.2.1;omega);generalize Gf r.word th.labs (-1)=v at *;clear y D q hj
          by_cases hv:v<0
          ·go_wp2_with fail
           go_ret
           obtain⟨d,g,e,c,t,N⟩:=b.out
           exact⟨(am.out.trans V.out).trans s.out.2,.inl ⟨r.line,LS f.out W.out (LU c d (by rw[z.out];exact hv)),rfl⟩⟩
          ·go_wp2_with fail
           go_roundw
           case rel=>
            rw[G];obtain⟨d,g,e,c,t,N⟩:=b.out
            exact⟨k+1,t,rfl,LT c d (by rw[z.out];omega),by rw[<-KY c,z.out];exact s.out.1,V.out.trans s.out.2⟩
           case measure=>
            rw[G];exact Xl b.out.2.2.2.2.1 (Xn k)
       ·rw[hL] at af;rw[a9] at ak;clear hL a9
        go_wp2_with fail
        refine S.mono ?_;rintro e w2 ⟨rfl,rfl⟩
        go_wp2_with fail
        generalize an:World.setCell _ _ _=w4;have aA:Hid (Ak w4 a base O (P.Dy i k th r (-1)) U):=by rw[<-an];exact ab.out.1
        have V:Hid (Ah wi a w4 a):=by rw[<-an];exact V.out
        clear an ab d1 d2 k0 k6 k7 k8 kf S av au ap af ak G aY
        go_loopw [8] (λu wr=>∃j:Nat,j<=th.labs.length/\u = .int .i64 j/\Ak wr a base O (P.Dy i k th r (Gf r.word (th.labs.take j) (-1))) U/\Ah w4 a wr a) (λu _=>th.labs.length - (intOf u).toNat)
        case atStart=>exact⟨0,Xw _,rfl,aA.out,Ah.refl _ _⟩
        case round=>
         obtain⟨j,hj,rfl,y,D⟩:=hrel;clear aA;have aq:wr.heap[tb]?=some (.cells #[.string (bs th.name),.slice (some ⟨gc,0,none⟩) th.code.length T,.slice I th.labs.length E] 199):=((V.out.trans D).block tb aH.out aC.out).trans aF.out;have d2:wr.cell? ⟨tb,2,none⟩=some (.slice I th.labs.length E):=by simp[Xg,aq]
         obtain⟨-,m6,m7,m8,mf⟩:=KZ y f.out m.out b.out.2.2.2.1 b.out.2.2.1;replace aq:=Aa aq
         by_cases q:j<th.labs.length
         ·have bm:(j:Int)<(th.labs.length:Int):=by omega
          obtain⟨l,hl⟩:∃l,th.labs[j]?=some l:=⟨_,Xe q⟩;obtain⟨gl,bj,e,l0,l1⟩:=Qz y f.out m.out hl;have e2:=aD.out;rw[e] at e2
          cases e2
          have Z:XO ((j:Int)+1)=(j:Int)+1:=X2 _ (by have:=aa.out.2;omega);have hF:((bs l.1).toList == (bs r.word).toList)=decide (l.1=r.word):=by
           rw[AK,AK]
           by_cases e:l.1=r.word<;>simp[e]
          have Y:Ah wr a wr.drew a:=⟨rfl,rfl,rfl,Xd _,λ_ _=>rfl,λ_ _ _=>rfl⟩;have A:=Ak.keep (w':=wr.drew) y (λ_ _=>rfl) Y;obtain⟨K,M⟩:=KX A f.out m.out b.out.2.2.2.1 b.out.2.2.1 (l.2:Int);have C:=Si (x:=r.word) hl (-1);have s:=Aa (⟨A,K,D.trans Y,(D.trans Y).trans M,C,q⟩:_/\_/\_/\_/\_/\_);clear A K M Y C y D q hj hl e
          by_cases e:l.1=r.word
          ·rw[decide_eq_true e] at hF;replace e:=Aa e
           go_wp2_with fail
           go_region
           all_goals
            go_wp2_with fail
            go_roundw
            case rel=>
             rw[Z];obtain⟨A,K,aB,M,C,q⟩:=s.out
             exact⟨j+1,q,rfl,by rw[C,if_pos e.out];exact K,M⟩
            case measure=>
             rw[Z];exact Xl s.out.2.2.2.2.2 (Xn j)
          ·rw[decide_eq_false e] at hF;replace e:=Aa e
           go_wp2_with fail
           go_region
           all_goals
            go_wp2_with fail
            go_roundw
            case rel=>
             rw[Z];obtain⟨A,K,aB,M,C,q⟩:=s.out
             exact⟨j+1,q,rfl,by rw[C,if_neg e.out];exact A,aB⟩
            case measure=>
             rw[Z];exact Xl s.out.2.2.2.2.2 (Xn j)
         ·have aP:j=th.labs.length:=by omega
          subst aP;rw[Yo] at y m6;have s:=Aa (⟨y,D⟩:_/\_);have G:XO ((k:Int)+1)=(k:Int)+1:=X2 _ (by have:=aa.out.1;have:=b.out.2.2.2.2.1;omega);generalize Gf r.word th.labs (-1)=v at *;clear y D q hj
          by_cases hv:v<0
          ·go_wp2_with fail
           go_ret
           obtain⟨d,g,e,c,t,N⟩:=b.out
           exact⟨(am.out.trans V.out).trans s.out.2,.inl ⟨r.line,LS f.out W.out (LU c d (by rw[z.out];exact hv)),rfl⟩⟩
          ·go_wp2_with fail
           go_roundw
           case rel=>
            rw[G];obtain⟨d,g,e,c,t,N⟩:=b.out
            exact⟨k+1,t,rfl,LT c d (by rw[z.out];omega),by rw[<-KY c,z.out];exact s.out.1,V.out.trans s.out.2⟩
           case measure=>
            rw[G];exact Xl b.out.2.2.2.2.1 (Xn k)
      ·have z:Hid (rX P th r=r.i.x):=by unfold Hid rX;rw[if_neg J,if_neg R]
       have g1:(AJ r.i.op == [116])=false:=by simpa using J
       have g2:(AJ r.i.op == [108])=false:=by simp[IQ] at R;simpa using R.1
       have g3:(AJ r.i.op == [97,98,108])=false:=by simp[IQ] at R;simpa using R.2
       rw[g1] at ap;rw[g2] at af;rw[g3] at ak;clear J R g1 g2 g3;have S:=Lf r.i.op wr;generalize AJ r.i.op=F at *
       by_cases hv:r.i.x<0
       ·go_wp2_with fail
        refine S.mono ?_;rintro e w2 ⟨rfl,rfl⟩
        go_wp2_with fail
        go_ret
        obtain⟨d,g,e,c,t,N⟩:=b.out
        exact⟨am.out.trans g,.inl ⟨r.line,LS f.out W.out (LU c d (by rw[z.out];exact hv)),rfl⟩⟩
       ·go_wp2_with fail
        refine S.mono ?_;rintro e w2 ⟨rfl,rfl⟩
        go_wp2_with fail
        go_roundw
        case rel=>
         rw[G];obtain⟨d,g,e,c,t,N⟩:=b.out
         exact⟨k+1,t,rfl,LT c d (by rw[z.out];omega),by rw[<-KY c,z.out];exact av.out,g⟩
        case measure=>
         rw[G];exact Xl b.out.2.2.2.2.1 (Xn k)
    ·have bc:k=th.code.length:=by omega
     subst bc;have b:=Aa (⟨d,g,X⟩:_/\_/\_);have aV:XO ((i:Int)+1)=(i:Int)+1:=X2 _ (by have:=hb.out;have:=h5.out;omega);clear d g X t N au
     go_wp2_with fail
     go_roundw
     case rel=>
      rw[aV];obtain⟨d,g,X⟩:=b.out;rw[Yo] at d
      exact⟨i+1,h5.out,rfl,aeT f.out W.out d,by rw[<-WY f.out];exact X,am.out.trans g⟩
     case measure=>
      rw[aV];exact Xl h5.out (Xn i)
  ·have bb:i=P.thr.length:=by omega
   subst bb;have Q:=Aa (⟨hX,W,B⟩:_/\_/\_);obtain⟨ta,bf,hV⟩:=At B.trow;rw[hV,MQ] at c3;clear B hX W hV hi h5
   go_wp2_with fail
   go_ret
   refine⟨Q.out.1,.inr ⟨?_,rfl,?_⟩⟩
   ·have:=Q.out.2.1;rw[Yo] at this;exact this
   ·rw[<-WR];exact Q.out.2.2
theorem JT {w:Xh} {fn:Func} {tmps:Array Xk} {b:Nat} {x y d f e c:Xk} (g:fn.results = #[.cell 2 28,.tmp 3,.tmp 4]) (i:tmps[2]?=some (.pointer (some ⟨b,0,none⟩))) (j:tmps[3]?=some x) (h:tmps[4]?=some y) (a:w.heap[b]?=some (.cells #[d,f,e,c] 28)):(results fn tmps).run Tryz.prog w = .ok (.tuple #[.agg #[d,f,e,c],x,y]) w:=by
 have c0:w.cell? ⟨b,0,none⟩=some d:=by simp[Xg,a]
 have c1:w.cell? ⟨b,1,none⟩=some f:=by simp[Xg,a]
 have c2:w.cell? ⟨b,2,none⟩=some e:=by simp[Xg,a]
 have c3:w.cell? ⟨b,3,none⟩=some c:=by simp[Xg,a]
 simp[results,g,i,j,h,go_sem,c0,c1,c2,c3]
def RV.new:RV:=⟨λ_=>.slice none 0 0,.slice none 0 0,[]⟩
def Fs (n:Nat):Nat->RT:=λb=>if b=n then .rd else .o
theorem Ak.new {w:Xh} {base a:Nat} (d:w.heap[a]?=some (.cells #[.slice none 0 0,.slice none 0 0,.slice none 0 0,.slice none 0 0] 28)) (f:base<=a):Ak w (Fs a) base a RP.new RV.new:=by
 have i:a<w.heap.size:=(Xa.1 d).1;refine⟨d,λk l=>⟨?_,λg e=>by cases e⟩,XG _ _ _ _,(λg e=>by cases e),rfl,(λj th p h=>by cases h),by simp[Fs],λb c=>?_,by omega⟩
 ·have e:RP.new.get k=[]:=by simp[RP.get,RP.new]
  rw[e];exact XG _ _ _ _
 ·unfold Fs at c
  split at c
  ·rename_i e;subst e;exact⟨f,i⟩
  ·exact absurd rfl c
def Ox (w:Xh) (t:Tx) (e:Ending) (w':Xh):Prop:=Xm w.heap.size w w'/\((∃er ln,BO t = .error (er,ln)/\e = .returned (.tuple #[.agg #[.slice none 0 0,.slice none 0 0,.slice none 0 0,.slice none 0 0],.int .i64 er,.int .i64 ln]))\/
 (∃s C tag pb P U,BO t = .ok (s,C)/\e = .returned (.tuple #[.agg #[U.V 118,U.V 102,U.V 109,U.tV],.int .i64 0,.int .i64 0])/\Ak w' tag w.heap.size pb P U/\(∀k,AU k->s.nms k=Ao P k)/\C=P.thr.map λth=>th.code.map RI.i))
structure Oy (w2:Xh) (tag0:Nat->RT) (base pb:Nat) (t:Tx) (i:Nat) (wr:Xh) (tag:Nat->RT) (s:PS) (P:RP) (U:RV):Prop where
 ln:CJ ((Ar 10 t).take i) 0 PS.new = .ok s
 pl:PL P s
 labs:EL P i
 rf:Ak wr tag base pb P U
 ext:Ah w2 tag0 wr tag
theorem Oa {w w1 w':Xh} {e f:Nat->RT} {n:Nat} (a:Xm n w w1) (c:Ah w1 e w' f) (g:∀b,b<n->e b = .o) (h:n<=w1.heap.size):Xm n w w':=
 ⟨c.os.trans a.os,c.tape.trans a.tape,c.output.trans a.output,Nat.le_trans a.size c.size,λb d=>(c.block b (by omega) (g b d)).trans (a.block b d)⟩
theorem UU (w:Xh) (A B:Obj):((w.alloc A).alloc B).heap[w.heap.size]?=some A/\((w.alloc A).alloc B).heap[w.heap.size+1]?=some B/\Xm w.heap.size w ((w.alloc A).alloc B)/\((w.alloc A).alloc B).heap.size=w.heap.size+2:=by
 refine⟨?_,?_,?_,by simp⟩
 ·rw[Below.heap_alloc _ B _ (by simp)];exact Xi w A
 ·have:=Xi (w.alloc A) B;rw[World.size_alloc] at this;exact this
 ·exact((Xq _ _).alloc (Xd _) _).alloc (by simp) _
theorem NP {w:Xh} {n T:Nat} {l i h g:Xk} (m:w.heap[n]?=some (.cells #[l,i,h,g] T)) (a c d f:Xk):∃W,(((w.setCell ⟨n,0,none⟩ a).setCell ⟨n,1,none⟩ c).setCell ⟨n,2,none⟩ d).setCell ⟨n,3,none⟩ f=W/\W.heap[n]?=some (.cells #[a,c,d,f] T)/\(∀b,b≠n->W.heap[b]?=w.heap[b]?)/\W.heap.size=w.heap.size/\W.os=w.os/\W.tape=w.tape/\W.output=w.output:=by
 refine⟨_,rfl,?_,λb e=>?_,by simp,rfl,rfl,rfl⟩
 ·have k:=(Xj _ n 0 _ _ a m).trans (show _=some (Obj.cells #[a,i,h,g] T) from rfl);have o:=(Xj _ n 1 _ _ c k).trans (show _=some (Obj.cells #[a,c,h,g] T) from rfl);have j:=(Xj _ n 2 _ _ d o).trans (show _=some (Obj.cells #[a,c,d,g] T) from rfl)
  exact(Xj _ n 3 _ _ f j).trans (show _=some (Obj.cells #[a,c,d,f] T) from rfl)
 ·rw[Xo _ ⟨n,3,none⟩ _ b e,Xo _ ⟨n,2,none⟩ _ b e,Xo _ ⟨n,1,none⟩ _ b e,Xo _ ⟨n,0,none⟩ _ b e]
theorem Nf {w:Xh} {n:Nat} (a:w.heap[n]?=some (.cells #[.slice none 0 0,.slice none 0 0,.slice none 0 0,.slice none 0 0] 28)):(w.cell? ⟨n,0,none⟩=some (.slice none 0 0)/\w.cell? ⟨n,1,none⟩=some (.slice none 0 0)/\w.cell? ⟨n,2,none⟩=some (.slice none 0 0)/\w.cell? ⟨n,3,none⟩=some (.slice none 0 0))/\∀i,w.frozen? ⟨n,i,none⟩=false:=by
 refine⟨⟨?_,?_,?_,?_⟩,λi=>?_⟩
 ·simp[Xg,a]
 ·simp[Xg,a]
 ·simp[Xg,a]
 ·simp[Xg,a]
 ·simp[World.frozen?,a]
theorem aal (t:Tx) (w:Xh) (bz:t.length<140737488355328):XX Tryz.prog 21 #[.string (bs t)] w (Ox w t):=by
 have hz:=Ba t
 by_cases h3:3000<t.length
 ·have hP:Hid (BO t = .error (1,0)):=by unfold Hid BO;rw[if_pos h3]
  have bG:(3000:Int)<(t.length:Int):=by omega
  go_enter Tryz.func21,Tryz.ntmps21
  go_wp2_with fail
  exact XJ (JT rfl rfl rfl rfl (Xi w _)) rfl ⟨(Xq _ _).alloc (Xd _) _,.inl ⟨1,0,hP.out,rfl⟩⟩
 ·have hP:Hid (BO t=Em t):=by unfold Hid BO;rw[if_neg h3]
  have bG:¬(3000:Int)<(t.length:Int):=by omega
  have aO:Hid (t.length<=3000):=by unfold Hid;omega
  go_enter Tryz.func21,Tryz.ntmps21
  go_wp2_with fail
  obtain⟨kA,kB,a8,bC⟩:=UU w (.cells #[.slice none 0 0,.slice none 0 0,.slice none 0 0,.slice none 0 0] 28) (.cells #[.slice none 0 0,.slice none 0 0,.slice none 0 0,.slice none 0 0] 28);generalize ZC (ZC w _) _=w1 at *;have hN:=Ak.new (base:=w.heap.size) kB (by omega);refine(aam t w1 (by have:=aO.out;omega)).mono ?_;rintro e Q ⟨v,rfl,hS⟩;obtain⟨la,b0,Z⟩:=At hS.row;obtain⟨m,hm⟩:∃m,(Ar 10 t).length=m+1:=⟨(Ar 10 t).length - 1,by have:=List.length_pos_iff.2 (PM 10 t);omega⟩;have aJ:=hS.row;have aP:=aJ;rw[hm] at aP;obtain⟨lg,bP,bl⟩:=Y5 aP;rw[<-hm] at bl;subst bl
  cases Z
  have ac:=aJ.lt lg rfl;have aZ:=hN.below hS.low;have S:Q.heap[w.heap.size]?=some (.cells #[.slice none 0 0,.slice none 0 0,.slice none 0 0,.slice none 0 0] 28):=(hS.low.block _ (by omega)).trans kA;have ax:Xm w.heap.size w Q:=a8.trans (hS.low.mono (by omega));have aq:∀i l,(Ar 10 t)[i]?=some l->Q.cell? ⟨lg,i,none⟩=some (.string (bs l)):=λi l D=>by
   rw[aJ.cellAt i (by have:=(Xf.1 D).1;omega),Xs,D];rfl
  have aD:(Ar 10 t).length<=3001:=by have:=JO 10 t;have:=aO.out;omega
  have ao:Fs (w.heap.size+1) lg = .o:=by unfold Fs;rw[if_neg (by omega)]
  have X:Fs (w.heap.size+1) w.heap.size = .o:=by unfold Fs;rw[if_neg (by omega)]
  have aE:∀b,b<w.heap.size->Fs (w.heap.size+1) b = .o:=λb K=>by unfold Fs;rw[if_neg (by omega)]
  have Y:w.heap.size<Q.heap.size:=(Xa.1 S).1;have p:=Aa (⟨ac,S,ax,aq,aD,ao,X,aE,Y⟩:_/\_/\_/\_/\_/\_/\_/\_/\_);have HR2:=Aa aZ;clear ac S ax aq ao X aE Y aZ hN kA kB a8 bC hS aJ aP hm hz h3 bz;obtain⟨L,H⟩:∃L,Ar 10 t=L:=⟨_,rfl⟩;rw[H] at p aD;rw[H];replace H:=Aa H;replace aD:=Aa aD;generalize bb:w.heap.size+1=pb at *;replace bb:=Aa bb
  go_wp2_with fail
  go_loopw [7] (λiv wr=>∃i:Nat,i<=L.length/\iv = .int .i64 i/\∃C s P U,Oy Q (Fs pb) w.heap.size pb t i wr C s P U) (λiv _=>L.length - (intOf iv).toNat)
  case atStart=>exact⟨0,Xw _,rfl,Fs pb,PS.new,RP.new,RV.new,rfl,PL.new,(λth h=>by cases h),HR2.out,Ah.refl _ _⟩
  case round=>
   obtain⟨i,hi,rfl,C,s,P,U,c⟩:=hrel;clear HR2;obtain⟨ac,S,ax,aq,bh,ao,X,aE,Y⟩:=p.out;have z:=(c.ext.block w.heap.size Y X).trans S
   by_cases u:i<L.length
   ·have b1:(i:Int)<(L.length:Int):=by omega
    obtain⟨l,D⟩:∃l,L[i]?=some l:=⟨_,Xe u⟩;have c0:wr.cell? ⟨lg,i,none⟩=some (.string (bs l)):=(World.cell?_of_block (w:=Q) (a:=⟨lg,i,none⟩) (c.ext.block lg ac.2 ao)).trans (aq i l D);have aC:l.length<=3000:=by
     have a9:=D;rw[<-H.out] at a9;have:=Jl a9;have:=aO.out
     omega
    have I:=aai l wr (by omega);have az:XO ((i:Int)+1)=(i:Int)+1:=X2 _ (by omega);have HJ:=Aa (⟨c,u,D,aC,z⟩:_/\_/\_/\_/\_);clear c D hi u z aC ac S ax aq bh ao X aE Y
    go_wp2_with fail
    refine I.mono ?_;clear I c0;rintro e w3 ⟨v,rfl,am⟩;obtain⟨wa,aN,Z⟩:=At am.row;have aH:=HJ.out.1.rf.below am.low;have F:Ah wr C w3 C:=.CH am.low;obtain⟨c,u,D,aC,z⟩:=HJ.out
    cases T:CQ l with
    |nil=>
     rw[T] at Z;subst Z;have aA:∀n,CF n l s = .ok s:=λn=>by unfold CF;rw[T]
     have J:Hid (Oy Q (Fs pb) w.heap.size pb t (i+1) w3 C s P U):=by
      refine⟨(Nv (ls:=Ar 10 t) (by rw[H.out];exact D) c.ln).1 s (aA _),c.pl,Lt c.labs,aH,c.ext.trans F⟩
     replace u:=Aa u;clear c D aC z am aH F aA HJ p
     go_wp2_with fail
     go_roundw
     case rel=>
      rw[az]
      exact⟨i+1,u.out,rfl,C,s,P,U,J.out⟩
     case measure=>
      rw[az];exact Xl u.out (Xn i)
    |cons f ts=>
     have ak:=am.row;rw[T] at Z ak;subst Z;obtain⟨O,bM,e⟩:=Y5 (k:=ts.length) (by simpa using ak);have e:Value.slice wa (ts.length+1) aN = .slice (some ⟨O,0,none⟩) (ts.length+1) bM:=e
     cases e
     have bi:=ak.lt O rfl;have aX:∀x,x∈f::ts->x∈CQ l:=λx hx=>by rw[T];exact hx
     have aK:=OO l;rw[T] at aK;have aK:ts.length+1<=l.length+1:=by simpa using aK
     have bJ:=OP (aX f (by simp));have aY:C O = .o:=by
      cases hq:C O with
      |o=>rfl
      |_=>exact absurd (c.rf.tlt O (by rw[hq];simp)).2 (by omega)
     have a4:ts.length+1<=aN:=by
      rcases ak.2 with⟨h1,_⟩|⟨g,cap,bQ,h1,h2⟩
      ·cases h1
      ·cases h1
       exact h2.2.2.1
     have bp:CZ w3 C (some ⟨O,0,none⟩) (f::ts):=λj hj=>⟨O,0,rfl,bi.2,by
      rw[Nat.zero_add,ak.cellAt j (by simpa using hj),Xs,Xe hj,List.getD_eq_getElem?_getD,Xe hj];rfl,aY⟩
     have aT:=aas aH c.pl c.labs (by have:=aD.out;omega) O 0 (ts.length+1) aN f ts rfl bp a4 (by omega) ((i:Int)+1) (by omega) (UJ (aX f (by simp))) (by omega);unfold Ab at aT;have aA:∀n,CF n l s=stepT n f ts s:=λn=>by unfold CF;rw[T]
     have R:=Nv (ls:=Ar 10 t) (by rw[H.out];exact D) c.ln;rw[aA,Int.zero_add] at R;have bT:(((ts.length+1:Nat):Int) == 0)=false:=by simp;omega
     have bS:(((ts.length:Int)+1) == 0)=false:=by simp;omega
     have d:C w.heap.size = .o:=(c.ext.tags _ p.out.2.2.2.2.2.2.2.2).trans p.out.2.2.2.2.2.2.1;have bf:w.heap.size<wr.heap.size:=(Xa.1 z).1;have J:=Aa (⟨R,c.ext.trans F,u,(F.block _ bf d).trans z,d⟩:_/\_/\_/\_/\_);clear c D aC z am aH F aA HJ ak bi aX aK bJ aY bp a4 R u T d bf
     go_wp2_with fail
     refine aT.mono ?_;clear aT;rintro en N ⟨e,a6,P',U',rfl,A,E,bN⟩;obtain⟨R,F,u,aG,d⟩:=J.out
     rcases bN with⟨he,ho⟩|⟨rfl,⟨s',ho,bn⟩,bk⟩
     ·have bW:(e != 0)=true:=by simpa using he
      have B:=(E.block _ (Xa.1 aG).1 d).trans aG;obtain⟨⟨a0,a1,a2,a3⟩,af⟩:=Nf B;have aw:Hid (BO t = .error (e,(i:Int)+1)):=by rw[hP.out];exact Rj (R.2 e ho)
      have aF:Hid (Xm w.heap.size w N):=Oa p.out.2.2.1 (F.trans E) p.out.2.2.2.2.2.2.2.1 (Nat.le_of_lt p.out.2.2.2.2.2.2.2.2);replace B:=Aa B;clear R F u aG d J A E ho p he
      go_wp2_with fail
      obtain⟨W,I,k1,k2,k3,k4,k5,k6⟩:=NP B.out (.slice none 0 0) (.slice none 0 0) (.slice none 0 0) (.slice none 0 0);rw[I];have q:=aF.out;exact XJ (JT rfl rfl rfl rfl k1) rfl ⟨⟨k4.trans q.os,k5.trans q.tape,k6.trans q.output,by have:=q.size;omega,λb K=>(k2 b (by omega)).trans (q.block b K)⟩,.inl ⟨e,(i:Int)+1,aw.out,by show Ending.returned (.tuple #[_,.int .i64 e,.int .i64 (XO ((i:Int)+1))])=_;rw[az]⟩⟩
     ·have HM:Hid (Oy Q (Fs pb) w.heap.size pb t (i+1) N a6 s' P' U'):=⟨R.1 s' ho,bn,bk,A,F.trans E⟩;replace u:=Aa u;clear R F aG d J A E ho p bn bk
      go_wp2_with fail
      go_roundw
      case rel=>
       rw[az]
       exact⟨i+1,u.out,rfl,a6,s',P',U',HM.out⟩
      case measure=>
       rw[az];exact Xl u.out (Xn i)
   ·have bt:i=L.length:=by omega
    subst bt;have M:=c.ln;rw[H.out,Yo,<-H.out] at M;have bH:P.thr.length<=4:=by
     have:=c.pl.few 116 (by simp[AU]);have g4:Ao P 116=P.names:=by simp[Ao]
     rw[g4] at this
     simpa [RP.names] using this
    have aQ:=aaj c.rf (by omega) (λth ag=>by
     have h1:=c.pl.code th ag;have h2:=c.labs th ag
     exact⟨by omega,by omega⟩)
    unfold Ab at aQ;have G:=Qy c.pl P.thr (λth ag r hr=>(c.pl.pos th ag r hr).1);rw[<-c.pl.bod] at G;have d:C w.heap.size = .o:=(c.ext.tags _ Y).trans X;have J:=Aa (⟨M,G,c,z,d⟩:_/\_/\_/\_/\_);clear c z M G bH d hi u ac S ax aq bh ao X aE Y
    go_wp2_with fail
    refine aQ.mono ?_;clear aQ;obtain⟨M,G,c,z,d⟩:=J.out;rintro en N ⟨E,(⟨n,aj,rfl⟩|⟨aj,rfl,A⟩)⟩
    ·have hn:0<n:=aeS (λth ag r hr=>(c.pl.pos th ag r hr).2) aj;rw[aj] at G;have B:=(E.block _ (Xa.1 z).1 d).trans z;obtain⟨⟨a0,a1,a2,a3⟩,af⟩:=Nf B;have aw:Hid (BO t = .error (5,n)):=by rw[hP.out];exact Ri M G
     have aF:Hid (Xm w.heap.size w N):=Oa p.out.2.2.1 (c.ext.trans E) p.out.2.2.2.2.2.2.2.1 (Nat.le_of_lt p.out.2.2.2.2.2.2.2.2);replace B:=Aa B;clear M G c z d J E p aj
     go_wp2_with fail
     obtain⟨W,I,k1,k2,k3,k4,k5,k6⟩:=NP B.out (.slice none 0 0) (.slice none 0 0) (.slice none 0 0) (.slice none 0 0);rw[I];have q:=aF.out;exact XJ (JT rfl rfl rfl rfl k1) rfl ⟨⟨k4.trans q.os,k5.trans q.tape,k6.trans q.output,by have:=q.size;omega,λb K=>(k2 b (by omega)).trans (q.block b K)⟩,.inl ⟨5,n,aw.out,rfl⟩⟩
    ·rw[aj] at G;have B:=(E.block _ (Xa.1 z).1 d).trans z;obtain⟨⟨a0,a1,a2,a3⟩,af⟩:=Nf B;have aw:Hid (BO t = .ok (s,P.thr.map λth=>(EB P th).code.map RI.i)):=by rw[hP.out];exact Rg M G
     have aF:Hid (Xm w.heap.size w N):=Oa p.out.2.2.1 (c.ext.trans E) p.out.2.2.2.2.2.2.2.1 (Nat.le_of_lt p.out.2.2.2.2.2.2.2.2);have p0:N.cell? ⟨pb,0,none⟩=some (U.V 118):=A.El (k:=118) (by simp[Cf]);have p1:N.cell? ⟨pb,1,none⟩=some (U.V 102):=A.El (k:=102) (by simp[Cf]);have p2:N.cell? ⟨pb,2,none⟩=some (U.V 109):=A.El (k:=109) (by simp[Cf]);have p3:=A.Hc;obtain⟨x0,n0,y0,e0⟩:∃x n y,U.V 118 = .slice x n y:=by obtain⟨x,y,e⟩:=KT (A.rows 118 (by simp[Cf]));exact⟨x,_,y,e⟩
     obtain⟨x1,n1,y1,e1⟩:∃x n y,U.V 102 = .slice x n y:=by obtain⟨x,y,e⟩:=KT (A.rows 102 (by simp[Cf]));exact⟨x,_,y,e⟩
     obtain⟨x2,n2,y2,e2⟩:∃x n y,U.V 109 = .slice x n y:=by obtain⟨x,y,e⟩:=KT (A.rows 109 (by simp[Cf]));exact⟨x,_,y,e⟩
     obtain⟨x3,n3,y3,e3⟩:∃x n y,U.tV = .slice x n y:=by obtain⟨x,y,e⟩:=At A.trow;exact⟨x,_,y,e⟩
     have hg:∀k,AU k->s.nms k=Ao {P with thr:=P.thr.map (EB P)} k:=λk hk=>by
      rw[c.pl.nms k hk];unfold Ao;have e:({P with thr:=P.thr.map (EB P)}:RP).names=P.names:=by
       show (P.thr.map (EB P)).map AE.name=P.thr.map AE.name;rw[Zy];rfl
      rw[e];rfl
     have bB:=Aa (⟨A,hg,d,e0,e1,e2,e3⟩:_/\_/\_/\_/\_/\_/\_);rw[e0] at p0;rw[e1] at p1;rw[e2] at p2;rw[e3] at p3;replace B:=Aa B;clear M G c z d J E p aj A hg e0 e1 e2 e3
     go_wp2_with fail
     obtain⟨W,I,k1,k2,k3,k4,k5,k6⟩:=NP B.out (U.V 118) (U.V 102) (U.V 109) U.tV;obtain⟨A,hg,d,e0,e1,e2,e3⟩:=bB.out;rw[e0,e1,e2,e3] at I k1;rw[I];have q:=aF.out;refine XJ (JT rfl rfl rfl rfl k1) rfl ⟨⟨k4.trans q.os,k5.trans q.tape,k6.trans q.output,by have:=q.size;omega,λb K=>(k2 b (by omega)).trans (q.block b K)⟩,.inr ⟨s,_,C,pb,_,U,aw.out,by rw[e0,e1,e2,e3];rfl,A.Lv (λb K=>k2 b (λe=>K (by rw[e];exact d))) (by omega),hg,?_⟩⟩;show _=(P.thr.map (EB P)).map _;rw[Zy];rfl
structure DM (w:Xh) (vV fV lV tV:Xk) (P:RP) (TV:List (Xk×Xk)):Prop where
 v:w.ownsRow 0 9 1 vV P.vs.length (P.vs.map BV)
 f:w.ownsRow 0 9 1 fV P.fs.length (P.fs.map BV)
 l:w.ownsRow 0 9 1 lV P.ls.length (P.ls.map BV)
 t:w.ownsRow 0 199 3 tV P.thr.length ((P.thr.zip TV).flatMap DN)
 len:TV.length=P.thr.length
 c:∀(j:Nat) (th:AE) (p:Xk×Xk),P.thr[j]?=some th->TV[j]?=some p->w.ownsRow 0 177 9 p.1 th.code.length (th.code.flatMap AN)
theorem DM.below {w w':Xh} {b d lV tV:Xk} {P:RP} {TV:List (Xk×Xk)} (h:DM w b d lV tV P TV) (a:Xm w.heap.size w w'):DM w' b d lV tV P TV:=
 ⟨EI h.v a,EI h.f a,EI h.l a,EI h.t a,h.len,λj th p e g=>EI (h.c j th p e g) a⟩
theorem DM.nil (w:Xh):DM w (.slice none 0 0) (.slice none 0 0) (.slice none 0 0) (.slice none 0 0) RP.new []:=
 ⟨XG _ _ _ _,XG _ _ _ _,XG _ _ _ _,XG _ _ _ _,rfl,(λj th p h=>by cases h)⟩
theorem BS.nil (w:Xh) (base:Nat):BS w base (.slice none 0 0) (.slice none 0 0) (.slice none 0 0) (.slice none 0 0) [] [] [] [] []:=
 ⟨XG _ _ _ _,XG _ _ _ _,XG _ _ _ _,XG _ _ _ _,(λj p is h=>by cases h),rfl⟩
theorem BS.below {w w':Xh} {base:Nat} {d e lV b:Xk} {vs fs ls:List Tx} {L:List (Tx×Xk)} {C:List (List Ad)} (h:BS w base d e lV b vs fs ls L C) (a:Xm w.heap.size w w'):BS w' base d e lV b vs fs ls L C:=
 ⟨EI h.v a,EI h.f a,EI h.l a,EI h.t a,λi p is g j=>EI (h.c i p is g j) a,h.len⟩
structure afk (w:Xh) (g k:Nat) (r:RI):Prop where
 c0:w.cell? ⟨g,k*9,none⟩=some (.string (bs r.i.op))
 c1:w.cell? ⟨g,k*9+1,none⟩=some (.int .i64 r.i.r)
 c2:w.cell? ⟨g,k*9+2,none⟩=some (.bool r.i.aR)
 c3:w.cell? ⟨g,k*9+3,none⟩=some (.int .i64 r.i.aN)
 c4:w.cell? ⟨g,k*9+4,none⟩=some (.bool r.i.bR)
 c5:w.cell? ⟨g,k*9+5,none⟩=some (.int .i64 r.i.bN)
 c6:w.cell? ⟨g,k*9+6,none⟩=some (.int .i64 r.i.x)
 c7:w.cell? ⟨g,k*9+7,none⟩=some (.int .i64 r.line)
 c8:w.cell? ⟨g,k*9+8,none⟩=some (.string (bs r.word))
theorem acO {w:Xh} {base:Nat} {v:Xk} {rs:List RI} {k:Nat} {r:RI} (h:w.ownsRow base 177 9 v rs.length (rs.flatMap AN)) (a:rs[k]?=some r):∃g cap,v = .slice (some ⟨g,0,none⟩) rs.length cap/\g<w.heap.size/\afk w g k r:=by
 have c:=(Xf.1 a).1;obtain⟨g,cap,e,d,b⟩:=KS h c;have key:∀q,q<9->w.cell? ⟨g,k*9+q,none⟩=(AN r)[q]?:=λq f=>by
  rw[b (k*9+q) (by omega)];exact GL MN a f
 exact⟨g,cap,e,d,key 0 (by omega),key 1 (by omega),key 2 (by omega),key 3 (by omega),key 4 (by omega),key 5 (by omega),key 6 (by omega),key 7 (by omega),key 8 (by omega)⟩
theorem BS.JK {w:Xh} {base:Nat} {l m lV b:Xk} {vs fs ls:List Tx} {L:List (Tx×Xk)} {C:List (List Ad)} (h:BS w base l m lV b vs fs ls L C) {j:Nat} {p:Tx×Xk} (a:L[j]?=some p):∃g cap,b = .slice (some ⟨g,0,none⟩) L.length cap/\g<w.heap.size/\w.cell? ⟨g,j*2,none⟩=some (.string (bs p.1))/\w.cell? ⟨g,j*2+1,none⟩=some p.2:=by
 have d:=(Xf.1 a).1;obtain⟨g,cap,e,k,i⟩:=KS h.t d;have key:∀q,q<2->w.cell? ⟨g,j*2+q,none⟩=[Value.string (bs p.1),p.2][q]?:=λq c=>by
  rw[i (j*2+q) (by omega)];exact GL (f:=λp:Tx×Xk=>[Value.string (bs p.1),p.2]) Vh a c
 exact⟨g,cap,e,k,key 0 (by omega),key 1 (by omega)⟩
theorem DM.JK {w:Xh} {k c lV tV:Xk} {P:RP} {TV:List (Xk×Xk)} (h:DM w k c lV tV P TV) {j:Nat} {th:AE} {p:Xk×Xk} (a:P.thr[j]?=some th) (m:TV[j]?=some p):∃g cap,tV = .slice (some ⟨g,0,none⟩) P.thr.length cap/\g<w.heap.size/\w.cell? ⟨g,j*3,none⟩=some (.string (bs th.name))/\w.cell? ⟨g,j*3+1,none⟩=some p.1:=by
 have d:=(Xf.1 a).1;obtain⟨g,cap,e,i,f⟩:=KS h.t d;have l:(P.thr.zip TV)[j]?=some (th,p):=by rw[List.getElem?_zip_eq_some];exact⟨a,m⟩
 have key:∀q,q<3->w.cell? ⟨g,j*3+q,none⟩=(DN (th,p))[q]?:=λq b=>by
  rw[f (j*3+q) (by omega)];exact GL Jc l b
 exact⟨g,cap,e,i,key 0 (by omega),key 1 (by omega)⟩
end Go.Proofs.YtdcacoifehkioaaGreatDoor
namespace Go.Proofs.YtdcacoifehkioaaGreatDoor
open Go.RowKit Go.Shelf Go.Proofs.Cod
def PV (t:Tx) (er ln:Int) (vs fs ls ts:List Tx) (C:List (List Ad)):Prop:=match BO t with
 |.error p=>er=p.1/\ln=p.2/\vs=[]/\fs=[]/\ls=[]/\ts=[]/\C=[]
 |.ok p=>er=0/\ln=0/\vs=p.1.nms 118/\fs=p.1.nms 102/\ls=p.1.nms 109/\ts=p.1.nms 116/\C=p.2
theorem PV.eq {t:Tx} {v z u q:Int} {vs fs ls ts r w s y:List Tx} {C x:List (List Ad)} (h:PV t v z vs fs ls ts C) (a:PV t u q r w s y x):v=u/\z=q/\vs=r/\fs=w/\ls=s/\ts=y/\C=x:=by
 unfold PV at h a
 split at h<;>rename_i p A<;>rw[A] at a
 ·obtain⟨e,l,c,f,a5,k,n⟩:=h;obtain⟨b,m,g,o,d,j,i⟩:=a
  exact⟨e.trans b.symm,l.trans m.symm,c.trans g.symm,f.trans o.symm,a5.trans d.symm,k.trans j.symm,n.trans i.symm⟩
 ·obtain⟨e,l,c,f,a5,k,n⟩:=h;obtain⟨b,m,g,o,d,j,i⟩:=a
  exact⟨e.trans b.symm,l.trans m.symm,c.trans g.symm,f.trans o.symm,a5.trans d.symm,k.trans j.symm,n.trans i.symm⟩
theorem aaZ {w:Xh} {t:Tx} {e:Ending} {w':Xh} (h:Md w t e w'):Xm w.heap.size w w'/\∃b a f g lV d vs fs ls L C,e = .returned (.tuple #[.agg #[f,g,lV,d],.int .i64 b,.int .i64 a])/\BS w' w.heap.size f g lV d vs fs ls L C/\PV t b a vs fs ls (L.map Prod.fst) C:=by
 obtain⟨i,(⟨b,a,c,rfl⟩|⟨s,C,f,g,lV,d,L,c,rfl,j,k⟩)⟩:=h
 ·exact⟨i,b,a,_,_,_,_,[],[],[],[],[],rfl,BS.nil _ _,by unfold PV;rw[c];exact⟨rfl,rfl,rfl,rfl,rfl,rfl,rfl⟩⟩
 ·exact⟨i,0,0,_,_,_,_,_,_,_,L,C,rfl,j,by unfold PV;rw[c];exact⟨rfl,rfl,rfl,rfl,rfl,k,rfl⟩⟩
structure DW (w:Xh) (base:Nat) (vV fV lV tV:Xk) (P:RP) (TV:List (Xk×Xk)):Prop where
 v:w.ownsRow base 9 1 vV P.vs.length (P.vs.map BV)
 f:w.ownsRow base 9 1 fV P.fs.length (P.fs.map BV)
 l:w.ownsRow base 9 1 lV P.ls.length (P.ls.map BV)
 t:w.ownsRow base 199 3 tV P.thr.length ((P.thr.zip TV).flatMap DN)
 len:TV.length=P.thr.length
 c:∀(j:Nat) (th:AE) (p:Xk×Xk),P.thr[j]?=some th->TV[j]?=some p->w.ownsRow base 177 9 p.1 th.code.length (th.code.flatMap AN)
theorem DW.view {w:Xh} {base:Nat} {a b lV tV:Xk} {P:RP} {TV:List (Xk×Xk)} (h:DW w base a b lV tV P TV):DM w a b lV tV P TV:=
 ⟨Dt h.v (Xw _),Dt h.f (Xw _),Dt h.l (Xw _),Dt h.t (Xw _),h.len,λj th p d e=>Dt (h.c j th p d e) (Xw _)⟩
theorem GN {w w':Xh} {base e b n:Nat} {v:Xk} {a:List Xk} (h:w.ownsRow base e b v n a) (c:∀k,base<=k->k<w.heap.size->w'.heap[k]?=w.heap[k]?):w'.ownsRow base e b v n a:=BA h λg e=>c g (h.lt g e).1 (h.lt g e).2
theorem DW.Ue {w w':Xh} {base:Nat} {b d lV tV:Xk} {P:RP} {TV:List (Xk×Xk)} (h:DW w base b d lV tV P TV) (a:∀k,base<=k->k<w.heap.size->w'.heap[k]?=w.heap[k]?):DW w' base b d lV tV P TV:=
 ⟨GN h.v a,GN h.f a,GN h.l a,GN h.t a,h.len,λj th p e g=>GN (h.c j th p e g) a⟩
theorem Ak.aaw {w:Xh} {b:Nat->RT} {base c:Nat} {P:RP} {U:RV} (h:Ak w b base c P U):DW w base (U.V 118) (U.V 102) (U.V 109) U.tV P U.TV:=by
 have a:∀{k:Int},Cf k->w.ownsRow base 9 1 (U.V k) (P.get k).length ((P.get k).map BV):=λd=>by
  have:=(h.rows _ d).row;rw[List.length_map] at this;exact this
 exact⟨a (k:=118) (by simp[Cf]),a (k:=102) (by simp[Cf]),a (k:=109) (by simp[Cf]),h.trow,h.len,λj th p e f=>(h.ths j th p e f).code⟩
theorem DW.nil (w:Xh) (base:Nat):DW w base (.slice none 0 0) (.slice none 0 0) (.slice none 0 0) (.slice none 0 0) RP.new []:=
 ⟨XG _ _ _ _,XG _ _ _ _,XG _ _ _ _,XG _ _ _ _,rfl,(λj th p h=>by cases h)⟩
theorem WC {w:Xh} {t:Tx} {e:Ending} {w':Xh} (h:Ox w t e w'):Xm w.heap.size w w'/\∃c b g j lV tV P TV,e = .returned (.tuple #[.agg #[g,j,lV,tV],.int .i64 c,.int .i64 b])/\DW w' w.heap.size g j lV tV P TV/\PV t c b P.vs P.fs P.ls P.names (P.thr.map λth=>th.code.map RI.i):=by
 obtain⟨f,(⟨c,b,d,rfl⟩|⟨s,C,q,r,P,U,d,rfl,o,a,n⟩)⟩:=h
 ·exact⟨f,c,b,_,_,_,_,RP.new,[],rfl,DW.nil _ _,by unfold PV;rw[d];exact⟨rfl,rfl,rfl,rfl,rfl,rfl,rfl⟩⟩
 ·refine⟨f,0,0,_,_,_,_,P,U.TV,rfl,o.aaw,?_⟩;unfold PV;rw[d];have m:=a 118 (by simp[AU]);have l:=a 102 (by simp[AU]);have p:=a 109 (by simp[AU]);have k:=a 116 (by simp[AU])
  exact⟨rfl,rfl,m.symm,l.symm,p.symm,k.symm,n.symm⟩
theorem Rh (t:Tx) (w:Xh) (c:GX w) (d:GU w) (e:2<w.heap.size) (f:3<w.heap.size):XX Tryz.prog 20 #[.string (bs t)] w (Md w t):=by
 by_cases a:t.length<140737488355328
 ·exact aa1 t w c d e f a
 ·have j:=Ba t;have b:3000<t.length:=XK (by decide) (afs a);have i:(3000:Int)<(t.length:Int):=by omega
  have h:Hid (BO t = .error (1,0)):=by unfold Hid BO;rw[if_pos b]
  have g:Hid (∀x,Xm w.heap.size w (w.alloc x)):=λx=>(Xq _ _).alloc (Xd _) _;clear a b c d e f
  go_enter Tryz.func20,Tryz.ntmps20
  go_wp2_with fail
  exact XJ (Lh rfl rfl rfl rfl (Xi w _)) rfl ⟨g.out _,.inl ⟨1,0,h.out,rfl⟩⟩
theorem aak (t:Tx) (w:Xh):XX Tryz.prog 21 #[.string (bs t)] w (Ox w t):=by
 by_cases a:t.length<140737488355328
 ·exact aal t w a
 ·have e:=Ba t;have b:3000<t.length:=XK (by decide) (afs a);have c:Hid (BO t = .error (1,0)):=by unfold Hid BO;rw[if_pos b]
  have d:(3000:Int)<(t.length:Int):=by omega
  clear a b
  go_enter Tryz.func21,Tryz.ntmps21
  go_wp2_with fail
  exact XJ (JT rfl rfl rfl rfl (Xi w _)) rfl ⟨(Xq _ _).alloc (Xd _) _,.inl ⟨1,0,c.out,rfl⟩⟩
end Go.Proofs.YtdcacoifehkioaaGreatDoor
