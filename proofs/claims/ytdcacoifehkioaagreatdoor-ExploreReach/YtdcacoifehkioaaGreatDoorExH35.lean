import Derived.Test.YtdcacoifehkioaaGreatDoorExH20
import Derived.Test.YtdcacoifehkioaaGreatDoorExH19
import Derived.Test.YtdcacoifehkioaaGreatDoorExH32
import Derived.Test.YtdcacoifehkioaaGreatDoorExH34
import Derived.Test.YtdcacoifehkioaaGreatDoorExH31
import Derived.Test.YtdcacoifehkioaaGreatDoorExH17
import Derived.Deep.Cut
import Derived.Deep.DeepCutAuto
open List renaming flatMap_append->X6,flatMap_cons->XL,append_assoc->XZ,take_add_one->Yh,length_append->Xb,append_nil->Ye,any_eq_true->YD,getElem?_eq_getElem->Xe,getElem?_append_right->XD,length_take->X5,take_of_length_le->XM
open Nat renaming le_refl->Xd,zero_le->Xw,sub_lt_sub_left->Xl,lt_succ_self->Xn
open Array renaming getElem?_eq_some_iff->Xa
open Go.Lib renaming join->YI
set_option maxRecDepth 100000
set_option maxHeartbeats 4000000
set_option linter.unusedVariables false
set_option linter.unusedSimpArgs false
namespace Go.Proofs.YtdcacoifehkioaaGreatDoor
open Go.RowKit Go.Shelf Go.Proofs.Cod
structure afo (th:TS):Prop where
 ph:0<=th.ph/\th.ph<=3
 pc:th.pc<1000
 rl:th.regs.length=4
 rv:∀k,0<=th.regs.getD k 0/\th.regs.getD k 0<1000
structure NmT (p:PD):Prop where
 one:∀i j,i<p.ts.length->j<p.ts.length->p.ts.getD i []=p.ts.getD j []->i=j
 no:∀i,i<p.ts.length->p.ts.getD i []≠[45]
 nl:∀k,(10:UInt8)∉p.ts.getD k []
section
variable {p:PD} {m m':MS}
end
theorem TM {C:List (List Ad)} {m:MS} {t:Int} (h:AO C m t=0):t∈AG C m:=by
 unfold AG Dz;have b:¬(t<0\/(m.thr.length:Int)<=t\/(m.th t.toNat).ph=0):=by
  intro e;unfold AO at h;rw[if_pos e] at h;exact absurd h (by decide)
 have a:0<=t:=by omega
 refine List.mem_map.2 ⟨t.toNat,List.mem_filter.2 ⟨List.mem_range.2 (by omega),?_⟩,Int.toNat_of_nonneg a⟩;rw[Int.toNat_of_nonneg a];exact decide_eq_true h
section
variable {p:PD} {m s:MS} {most:Nat} {l:List MS}
end
theorem ads {ps:List Tx} {r:Tx} {i:Nat} {x:Tx} (h:ps[i]?=some x):∃rest,ps.flatMap (λy=>y++[10])++r=(ps.take i).flatMap (λy=>y++[10])++(x++10::rest)/\((ps.take (i+1)).flatMap (λy=>y++[10])).length=((ps.take i).flatMap (λy=>y++[10])).length+x.length+1:=by
 obtain⟨a,e⟩:=List.getElem?_eq_some_iff.1 h;have b:ps=ps.take i++x::ps.drop (i+1):=by rw[<-e,<-List.drop_eq_getElem_cons a,List.take_append_drop]
 refine⟨(ps.drop (i+1)).flatMap (λy=>y++[10])++r,?_,?_⟩
 ·conv=>lhs;rw[b]
  rw[X6,XL];simp[XZ]
 ·rw[Yh,h,X6,Xb];show _+(List.flatMap _ [x]).length=_;rw[XL,List.flatMap_nil,Ye,Xb];show _+(x.length+1)=_
  omega
theorem adZ {p:PD} {m:MS} {nv nf nl:Nat} (c:AZ nv nf nl p.C m) (f:AG p.C m=[]) (t:Nat) (h:t<m.thr.length):(AO p.C m t == 7)=((m.th t).ph == 1):=by
 have b:AO p.C m t≠0:=λq=>by have:=TM q;rw[f] at this;cases this
 have j:=(c.th t (by rw[<-c.tl];exact h)).ph;unfold AO at b |-;rw[Int.toNat_natCast] at b |-
 by_cases d:(t:Int)<0\/(m.thr.length:Int)<=t\/(m.th t).ph=0
 ·have a:(m.th t).ph=0:=by omega
  rw[if_pos d,a];rfl
 ·rw[if_neg d] at b |-
  by_cases a:CV (m.th t)=true
  ·rw[if_pos a];have:(m.th t).ph≠1:=by
    intro q;unfold CV at a;rw[q] at a;exact absurd a (by decide)
   have q:((m.th t).ph == 1)=false:=by simpa using this
   rw[q];rfl
  ·rw[if_neg a] at b |-
   by_cases e:BG m (BB p.C t (m.th t))=true
   ·rw[if_pos e];have:(m.th t).ph=1:=by
     have a:=Bool.eq_false_iff.2 a;unfold CV at a;have:(m.th t).ph≠0:=by omega
     by_cases i:(m.th t).ph=2
     ·rw[i] at a;exact absurd a (by decide)
     ·by_cases g:(m.th t).ph=3
      ·rw[g] at a;exact absurd a (by decide)
      ·omega
    rw[this];rfl
   ·rw[if_neg e] at b;exact absurd rfl b
theorem adb (m:MS):decide (0<Au m)=m.thr.any λth=>th.ph == 1:=by
 unfold Au
 cases h:m.thr.any λth=>th.ph == 1 with
 |true=>
  obtain⟨a,b,q⟩:=YD.1 h;exact decide_eq_true (List.countP_pos_iff.2 ⟨a,b,q⟩)
 |false=>
  refine decide_eq_false (Nat.not_lt.2 (Nat.le_of_eq (List.countP_eq_zero.2 λa b q=>?_)));rw[YD.2 ⟨a,b,q⟩] at h
  cases h
theorem aaP {m:MS} (t:Nat) (a:t<m.thr.length):(m.thr.take (t+1)).any (λth=>th.ph == 1)=((m.thr.take t).any (λth=>th.ph == 1)||((m.th t).ph == 1)):=by
 have e:m.thr[t]?=some (m.th t):=by unfold MS.th;rw[List.getD_eq_getElem?_getD,Xe a];rfl
 rw[Yh,e,List.any_append];show (_||List.any [m.th t] _)=_;rw[List.any_cons,List.any_nil,Bool.or_false]
theorem UF {n:Nat} (h:n+1<4294967000):wrap64 ((n:Int)+1)=(n:Int)+1:=by unfold wrap64;omega
section
variable {w:World} {b nv nf nl nt vc fc lc tc Z0:Nat} {p:PD} {m:MS} {va fa la ta:Option Addr}
theorem aa8 (hm:AP w b p m) (ht:Ck w Z0) (bl:Z0<=w.heap.size) (R:Cs p) (hM:BT p m) (hN:DX p) (bG:Hu p) (he:AG p.C m=[]) (hv:p.vs.length=nv) (hF:p.fs.length=nf) (aT:p.ts.length=nt) (M:(Aj p m).length<4294967000) :
 Calls Tryz.prog 16 #[.agg #[.slice va nv vc,.slice fa nf fc,.slice la nl lc,.slice ta nt tc],Ab b] w λe w'=>e = .returned (.string (bs (Bl p m)))/\AP w' b p m/\Ac (λk=>k=b) w w':=by
 obtain⟨W,hW⟩:∃W,w.alloc (.cells #[.slice va nv vc,.slice fa nf fc,.slice la nl lc,.slice ta nt tc] 25)=W:=⟨_,rfl⟩;have ax:Below w.heap.size w W:=by rw[<-hW];exact(Below.refl _ _).alloc (Xd _) _
 have k1:W.heap[w.heap.size]?=some (.cells #[.slice va nv vc,.slice fa nf fc,.slice la nl lc,.slice ta nt tc] 25):=by rw[<-hW];exact World.alloc_heap_new w _
 have bw:=hm.lt;obtain⟨Z,hZ⟩:∃Z,w.heap.size=Z:=⟨_,rfl⟩;have a7:=hm.below ax;have bi:=MA a7 R hM hN (ht.keep (ax.mono bl)) (by have:=ax.size;omega);obtain⟨r,Y⟩:=Mz p m;have ar:(AW p m).length=nv+nf:=by rw[IM,hv,hF]
 have bF:∀k,Cu (m.vars.getD k 0):=FJ hM.vv;have bE:∀k,Cu (m.flags.getD k 0):=FJ hM.fv;have O:=Na (p:=p) hN bF bE;have ac:=Rd bG hM;have aN:nv<=4:=by rw[<-hv];exact R.v
 have aE:nf<=4:=by rw[<-hF];exact R.f
 have K:nt<=4:=by rw[<-aT,R.tc];exact R.fit.four
 have J:m.thr.length=nt:=by rw[hM.tl,<-R.tc];exact aT
 have I:=adb m;have H:=λt (h:t<m.thr.length)=>adZ hM he t h;have G:∀t:Int,AO p.C m t≠0:=λt q=>by have:=TM q;rw[he] at this;cases this
 have g:=Ro (p:=p) (m:=m);have d:=Rn (p:=p) (m:=m);have l:=Rp (p:=p) (m:=m);have o:=Sx (λx X=>(O x X).2);have bJ:=Aa (fun(u:World) (hu:AP u b p m) (t:Int)=>Mu hu R hM t);obtain⟨n,hn⟩:∃n,nv+nf=n:=⟨_,rfl⟩;obtain⟨ps,bm⟩:∃ps,AW p m=ps:=⟨_,rfl⟩;obtain⟨S,hS⟩:∃S,Aj p m=S:=⟨_,rfl⟩;obtain⟨om,bu⟩:∃x,Bl p m=x:=⟨_,rfl⟩;rw[bm] at ar O ac Y g d l o;rw[hS] at bi Y M;rw[bu] at g d l |-;rw[hZ] at k1;have HP:=Aa (⟨Y,ar,O,ac,hn,aN,aE,K,J,I,H,G,g,d,l,o,M⟩:_/\_/\_/\_/\_/\_/\_/\_/\_/\_/\_/\_/\_/\_/\_/\_/\_);have HB:=Aa (⟨ax,k1,bw,a7,hZ⟩:_/\_/\_/\_/\_);have HW:Hid (wrap64 ((nv:Int)+(nf:Int))=(n:Int)):=by
  have:=Ct (n:=nv+nf) (by omega);rw[<-hn]
  push_cast at this |-
  exact this
 have bN:(bs S).size=S.length:=Ba S;clear hm ht bl R hM hN bG he hv hF aT ax k1 bw a7 Y ar bF bE O ac aN aE K J I H G g d l o hn bm hS bu M;replace hW:=Aa hW;replace hZ:=Aa hZ;unfold Ab at *
 go_enter Tryz.func16,Tryz.ntmps16
 go_upto_region 1 with fail
 rw[hW.out,hZ.out];clear hW
 go_wp2_with fail
 refine bi.mono ?_;rintro e w2 ⟨rfl,aX⟩;have H2:Hid (Below W.heap.size W w2/\w2.heap[Z]?=some (.cells #[.slice va nv vc,.slice fa nf fc,.slice la nl lc,.slice ta nt tc] 25)/\AP w2 b p m):=⟨aX,(aX.block _ (Xa.1 HB.out.2.1).1).trans HB.out.2.1,HB.out.2.2.2.1.below aX⟩;obtain⟨q0,q1,q2,q3⟩:=BK H2.out.2.1;obtain⟨N,aV⟩:∃N,S.length=N:=⟨_,rfl⟩;rw[aV] at bN;replace aV:=Aa aV;clear bi aX
 go_wp2_with fail
 go_loopw [6,7,8] (λov av iv wr=>∃i:Nat,i<=n/\iv = .int .i64 i/\ov = .string (bs (YI (ps.take i) [32]))/\av = .int .i64 ((((ps.take i).flatMap (λy=>y++[10])).length:Nat):Int)/\wr=w2) (λ_ _ iv _=>n - (intOf iv).toNat)
 case atStart=>exact⟨0,Xw _,rfl,rfl,rfl,rfl⟩
 case round=>
  obtain⟨i,hi,rfl,rfl,rfl,rfl⟩:=hrel;obtain⟨Y,ar,O,ac,hn,aN,aE,K,J,I,H,G,g,d,l,o,M⟩:=HP.out;have ay:=Sy (λx X=>(O x X).1) i
  by_cases h5:i<n
  ·have cg:(i:Int)<(n:Int):=by omega
   obtain⟨x,X⟩:∃x,ps[i]?=some x:=⟨_,Xe (by omega)⟩;have a1:=List.mem_of_getElem? X;have aG:=(O x a1).1;have an:=ac x a1;obtain⟨rest,P,ab⟩:=ads (r:=r) X;rw[<-Y] at P;obtain⟨A,hA⟩:∃A,(ps.take i).flatMap (λy=>y++[10])=A:=⟨_,rfl⟩;rw[hA] at P ab |-;obtain⟨B,V⟩:∃B,A.length=B:=⟨_,rfl⟩;rw[V] at ab |-;have aK:S.length=B+x.length+1+rest.length:=by rw[P,Xb,Xb,List.length_cons,V];omega
   have aL:=aV.out;obtain⟨T,s⟩:∃T,YI (ps.take i) [32]=T:=⟨_,rfl⟩;obtain⟨F,aD⟩:∃x,(if 0<i then YI (ps.take i) [32]++[32] else [])=x:=⟨_,rfl⟩;have au:YI (ps.take (i+1)) [32]=F++x:=by rw[Su X,aD]
   rw[s] at ay |-;have aH:F.length<=300:=by
    rw[<-aD,s]
    by_cases e:0<i
    ·rw[if_pos e,Xb];show T.length+1<=300;omega
    ·rw[if_neg e];exact Xw _
   have D:T.length<=300:=by omega
   have HX:Hid ((0<i->T++[32]=F)/\(¬0<i->T=F)):=⟨λe=>by rw[<-aD,if_pos e,s],λe=>by
    have:i=0:=by omega
    subst this;rw[<-aD,if_neg e,<-s];rfl⟩
   have bn:Hid (wrap64 ((i:Int)+1)=(i:Int)+1):=by
    have:=Ct (n:=i+1) (by omega)
    push_cast at this
    exact this
   have HO:=Aa (⟨h5,au,aH,D,P,ab,aK,aG,an,V,aL,M⟩:_/\_/\_/\_/\_/\_/\_/\_/\_/\_/\_/\_);clear hi h5 au aH D P ab aK aG an V aL M ay s aD hA X a1 Y ar O ac hn aN aE K J I H G g d l o;have hw:=HW.out
   go_upto_if 27 with fail
   clear hw
   go_cut [6] (λov wx=>ov = .string (bs F)/\wx=wr)
   case first=>
    by_cases e:0<i
    ·have Q:(0:Int)<(i:Int):=by omega
     have z0:¬9223372036854775807<(bs T).size+1:=Dn (by have:=HO.out.2.2.2.1;omega);have z1:bs T++⟨#[32]⟩=bs F:=by rw[<-HX.out.1 e];exact Bx _ [32]
     clear e
     go_wp2_with fail
     go_meet
     exact⟨rfl,rfl⟩
    ·have e0:i=0:=by omega
     have U:=HX.out.2 e;subst e0;subst U;clear e
     go_wp2_with fail
     go_meet
     exact⟨rfl,rfl⟩
   case rest=>
    obtain⟨rfl,rfl⟩:=hcut
    go_wp2_with fail
    go_loopw [6,7] (λov av wr=>∃j:Nat,j<=x.length/\ov = .string (bs (F++x.take j))/\av = .int .i64 ((B+j:Nat):Int)/\wr=wc) (λ_ av _=>B+x.length - (intOf av).toNat)
    case atStart=>exact⟨0,Xw _,by rw[List.take_zero,Ye],rfl,rfl⟩
    case round=>
     obtain⟨j,hj,rfl,rfl,rfl⟩:=hrel;obtain⟨h5,au,aH,D,P,ab,aK,aG,an,V,aL,M⟩:=HO.out;obtain⟨q,hq⟩:∃q,B+j=q:=⟨_,rfl⟩;have aA:q<S.length:=by omega
     have ce:(q:Int)<(N:Int):=by omega
     have bB:Hid (wrap64 ((q:Int)+1)=(q:Int)+1):=by
      have h:q+1<4294967000:=by omega
      exact UF h
     have hgt:S[q]?=(x++10::rest)[j]?:=by
      rw[P,XD (by omega),V]
      congr 1
      omega
     rw[hq]
     by_cases E:j<x.length
     ·have hc:S[q]=x[j]:=by
       rw[List.getElem?_append_left E,Xe aA,Xe E] at hgt;exact Option.some.inj hgt
      obtain⟨c,aP⟩:∃c,x[j]=c:=⟨_,rfl⟩;rw[aP] at hc;have gc:∀h,(bs S)[q]'h=c:=λh=>(Dj S q h).trans hc;have o:((c.toNat:Int) != 10)=true:=by
       have hm:c∈x:=by rw[<-aP];exact List.getElem_mem E
       have:c≠10:=λz=>an (by rw[<-z];exact hm);have:c.toNat≠10:=λz=>this (UInt8.toNat_inj.1 z);simp only[bne_iff_ne,ne_eq]
       omega
      have hex:(bs S).extract q (q+1)=bs [c]:=by
       rw[GO,List.take_succ_eq_append_getElem aA,List.drop_append,List.drop_eq_nil_of_le (by rw[X5];omega),X5,hc];rw[show q - min q S.length=0 by omega];rfl
      have bg:F++x.take (j+1)=F++x.take j++[c]:=by rw[Yh,Xe E,aP,XZ];rfl
      have bq:(F++x.take j).length<=400:=by rw[Xb,X5];omega
      obtain⟨u,hu⟩:∃u,F++x.take j=u:=⟨_,rfl⟩;rw[hu] at bg bq |-;have b5:bs u++bs [c]=bs (u++[c]):=Bx u [c];have cb:¬9223372036854775807<(bs u).size+(bs [c]).size:=by rw[Ba,Ba];show ¬9223372036854775807<u.length+1;omega
      have b7:(q:Int)+1<=(N:Int):=by omega
      have cc:(q:Int)<=(q:Int)+1:=by omega
      have a:Hid (j+1<=x.length/\u++[c]=F++x.take (j+1)/\B+(j+1)=q+1/\q<B+x.length):=⟨E,bg.symm,by omega,by omega⟩;have aW:=bB.out;clear h5 au aH D P ab aK aG an V aL M hj hq aA hgt E hc aP bg bq hu
      go_wp2_with fail
      go_roundw
      case rel=>
       (try rw[aW])
       exact⟨j+1,a.out.1,by rw[a.out.2.1],by rw[a.out.2.2.1];rfl,by first|rfl|trivial⟩
      case measure=>
       (try rw[aW])
       exact Xl a.out.2.2.2 (Xn q)
     ·have ba:j=x.length:=by omega
      have hc:S[q]=10:=by
       rw[ba,XD (Xd _),Nat.sub_self,Xe aA] at hgt;exact Option.some.inj hgt
      have gc:∀h,(bs S)[q]'h=10:=λh=>(Dj S q h).trans hc;have a:Hid (i+1<=n/\F++x.take j=YI (ps.take (i+1)) [32]/\((ps.take (i+1)).flatMap (λy=>y++[10])).length=q+1):=⟨h5,by rw[au,ba,List.take_length],by omega⟩;have aW:=bB.out;clear h5 au aH D P ab aK aG an V aL M hj hq aA hgt E hc ba
      go_wp2_with fail
      go_roundw
      case rel=>
       (try rw[bn.out])
       (try rw[aW])
       exact⟨i+1,a.out.1,rfl,by rw[a.out.2.1],by rw[a.out.2.2];rfl,by first|rfl|trivial⟩
      case measure=>
       (try rw[bn.out])
       exact Xl a.out.1 (Xn i)
  ·have bH:i=n:=by omega
   subst bH;have bv:ps.take i=ps:=XM (by omega);rw[bv] at ay |-;obtain⟨AL,bt⟩:∃x,(ps.flatMap (λy=>y++[10])).length=x:=⟨_,rfl⟩;rw[bt];clear bt;obtain⟨T,s⟩:∃T,YI ps [32]=T:=⟨_,rfl⟩;rw[s] at ay g d o |-;have D:T.length<=300:=by omega
   have HO:=Aa (⟨g,d,l,o,s,D,I,H,G,J,K⟩:_/\_/\_/\_/\_/\_/\_/\_/\_/\_/\_)
   rename World=>w3
   have HZ:Hid (∀u,Ac (λk=>k=b) w3 u->u.cell? ⟨Z,3,none⟩=some (.slice ta nt tc)):=λu hu=>by
    have b3:=HB.out.2.2.1;have b0:=HB.out.2.2.2.2
    exact(BK ((hu.block Z (Xa.1 H2.out.2.1).1 (by omega)).trans H2.out.2.1)).2.2.2
   have hw:=HW.out;clear hi h5 ay s Y ar O ac hn aN aE K J I H G g d l o M bv D
   go_wp2_with fail
   clear hw q0 q1 q2 q3
   go_loopw [9,10] (λsv tv wx=>∃t:Nat,t<=nt/\tv = .int .i64 t/\sv = .bool ((m.thr.take t).any (λth=>th.ph == 1))/\AP wx b p m/\Ac (λk=>k=b) w3 wx) (λ_ tv _=>nt - (intOf tv).toNat)
   case atStart=>exact⟨0,Xw _,rfl,rfl,H2.out.2.2,Ac.refl _⟩
   case round=>
    obtain⟨t,ht,rfl,rfl,aj,af⟩:=hrel;obtain⟨g,d,l,o,s,D,I,H,G,J,K⟩:=HO.out;have z3:=HZ.out wr af
    by_cases E:t<nt
    ·have aT:(t:Int)<(nt:Int):=by omega
     have aR:Hid (wrap64 ((t:Int)+1)=(t:Int)+1):=by
      have:=Ct (n:=t+1) (by omega)
      push_cast at this
      exact this
     have aF:=bJ.out wr aj t;have bp:Ib p.C m (t:Int)=(m,⟨0,0,0,0⟩):=by unfold Ib;rw[if_neg (G t)]
     unfold Mb at aF;rw[bp] at aF;have a0:=aaP (m:=m) t (by omega);have a3:=H t (by omega);obtain⟨cf,bc⟩:∃x,((m.thr.take t).any (λth=>th.ph == 1))=x:=⟨_,rfl⟩;obtain⟨bP,bk⟩:∃x,AO p.C m (t:Int)=x:=⟨_,rfl⟩;rw[bk] at aF a3;rw[bc,<-a3] at a0;rw[bc];have a:=Aa (⟨E,a0,af⟩:_/\_/\_);clear ht E g d l o s D I H G J K aj af bp a0 a3 bc bk
     go_wp2_with fail
     refine aF.mono ?_;rintro e w4 ⟨rfl,bC,bj⟩;unfold DQ;dsimp only;obtain⟨W5,aB⟩:∃W5,w4.alloc (.cells #[.int .i64 0,.int .i64 0,.int .i64 0,.int .i64 0] 48)=W5:=⟨_,rfl⟩;have bf:Below w4.heap.size w4 W5:=by rw[<-aB];exact(Below.refl _ _).alloc (Xd _) _
     have HV:Hid (AP W5 b p m/\Ac (λk=>k=b) w3 W5):=⟨bC.below bf,(a.out.2.2.trans bj).EM bf⟩;replace aB:=Aa aB;clear aF bC bj bf z3
     cases cf with
     |true=>
      go_upto_region 18 with fail
      rw[aB.out]
      go_wp2_with fail
      go_roundw
      case rel=>
       (try rw[aR.out])
       exact⟨t+1,a.out.1,rfl,by rw[a.out.2.1,Bool.true_or],HV.out.1,HV.out.2⟩
      case measure=>
       (try rw[aR.out])
       exact Xl a.out.1 (Xn t)
     |false=>
      go_upto_region 18 with fail
      rw[aB.out]
      go_wp2_with fail
      refine(Kd bP _).mono ?_;rintro e w6 ⟨rfl,rfl⟩
      go_wp2_with fail
      go_roundw
      case rel=>
       (try rw[aR.out])
       exact⟨t+1,a.out.1,rfl,by rw[a.out.2.1,Bool.false_or],HV.out.1,HV.out.2⟩
      case measure=>
       (try rw[aR.out])
       exact Xl a.out.1 (Xn t)
    ·have bU:t=nt:=by omega
     subst bU;have aQ:m.thr.take t=m.thr:=XM (by omega);rw[aQ,<-I];have HF:Hid (AP wr b p m/\Ac (λk=>k=b) w wr):=by
      refine⟨aj,?_⟩;have h1:=HB.out.1;have h2:=H2.out.1
      exact((Ac.DG h1).EM h2).trans af
     by_cases Q:0<Au m
     ·have d1:decide (0<Au m)=true:=decide_eq_true Q;rw[d1]
      by_cases U:ps=[]
      ·have l:=Aa (l Q U);have az:T=[]:=by rw[<-s,U];rfl
       subst az;rw[show bs ([]:Tx)=⟨#[]⟩ from rfl];clear g d o s D I H G J K aj af aQ Q d1 U ht E HO
       go_wp2_with fail
       go_ret
       rw[l.out]
       exact⟨rfl,HF.out⟩
      ·have d:=Aa (d Q U);have az:=o U;have b1:((bs T).toList == [])=false:=by rw[AK];simpa using az
       have b2:((bs T).toList != [])=true:=by rw[AK];simpa using az
       have zz:¬9223372036854775807<(bs T).size+6:=Dn (by omega);have za:bs T++⟨#[32,115,116,117,99,107]⟩=bs om:=by rw[d.out];exact Bx _ [32,115,116,117,99,107]
       clear g d l o s D I H G J K aj af aQ Q d1 U ht E HO az
       go_wp2_with fail
       go_ret
       exact⟨rfl,HF.out⟩
     ·have d1:decide (0<Au m)=false:=decide_eq_false Q;rw[d1];have g:=Aa (g Q);clear d l o s D I H G J K aj af aQ Q d1 ht E HO
      go_wp2_with fail
      go_ret
      rw[g.out]
      exact⟨rfl,HF.out⟩
end
def Ul (s:PS):Prop:=∀(k:Int) (i:Nat) (x:Tx),(s.nms k)[i]?=some x->s.N x=some (k,i)
theorem Ul.new:Ul PS.new:=λk i x h=>by cases h
section
variable {s s':PS}
end
end Go.Proofs.YtdcacoifehkioaaGreatDoor
