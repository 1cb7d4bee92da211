import Derived.Test.YtdcacoifehkioaaGreatDoorExH32
import Derived.Test.YtdcacoifehkioaaGreatDoorExH34
import Derived.Test.YtdcacoifehkioaaGreatDoorExH35
import Derived.Test.YtdcacoifehkioaaGreatDoorExH20
import Derived.Test.YtdcacoifehkioaaGreatDoorExH19
open Nat renaming le_refl->Xd,zero_le->Xw
open List renaming getD_eq_getElem?_getD->Xc
open Bool renaming and_eq_true_iff->afO
set_option maxRecDepth 100000
set_option maxHeartbeats 4000000
set_option linter.unusedVariables false
set_option linter.unusedSimpArgs false
namespace Go.Proofs.YtdcacoifehkioaaGreatDoor
open Go.RowKit Go.Shelf Go.Proofs.Cod
theorem abj {p:PD} {a b c d:Nat} (g:p.vs.length=a) (h:p.fs.length=b) (e:p.ls.length=c) (f:p.C.length=d):AH a b c d=DH p:=by
 subst g h e f;rfl
theorem TR {b:Nat} {W u c:World} (h:Below W.heap.size W u) (a:Ac (λk=>k=b) u c) (e:W.heap.size<=b):Below W.heap.size W c:=
 ⟨a.os.trans h.os,a.tape.trans h.tape,a.output.trans h.output,Nat.le_trans h.size a.size,λk d=>(a.block k (by have:=h.size;omega) (by omega)).trans (h.block k d)⟩
theorem aaH {p:PD} (q:Cs p) {a:List Int} {m:MS} (h:FH p a m):∃f:Nat->MS,f 0=DH p/\f a.length=m/\(∀i,i<=a.length->BT p (f i))/\∀i,i<a.length->AO p.C (f i) (a.getD i 0)=0/\f (i+1)=(Ay false p.C (f i) (a.getD i 0)).1:=by
 induction h with
 |nil=>exact⟨λ_=>DH p,rfl,rfl,λ_ _=>Jo _ _ _ _,λi b=>absurd b (Nat.not_lt_zero i)⟩
 |@snoc l m t _ g x=>
  obtain⟨f,w,j,k,z⟩:=x;have s:BT p (Ay false p.C m t).1:=by
   have d:BT p m:=by rw[<-j];exact k _ (Xd _)
   obtain⟨u,rfl,v,r,A,o⟩:=Gq q.fit d g;unfold Ay;rw[Int.toNat_natCast];exact JN false d v r A o
  have B:(l++[t]).length=l.length+1:=by rw[List.length_append];rfl
  refine⟨λi=>if i<=l.length then f i else(Ay false p.C m t).1,?_,?_,λi b=>?_,λi b=>?_⟩
  ·show (if 0<=l.length then f 0 else _)=_;rw[if_pos (Xw _),w]
  ·show (if (l++[t]).length<=l.length then _ else _)=_;rw[if_neg (by omega)]
  ·show BT p (if i<=l.length then f i else _)
   by_cases e:i<=l.length
   ·rw[if_pos e];exact k i e
   ·rw[if_neg e];exact s
  ·have n:i<=l.length:=by omega
   show AO p.C (if i<=l.length then f i else _) _=0/\(if i+1<=l.length then f (i+1) else _)=(Ay false p.C (if i<=l.length then f i else _) _).1;rw[if_pos n]
   by_cases e:i<l.length
   ·have c:(l++[t]).getD i 0=l.getD i 0:=by rw[Xc,Xc,List.getElem?_append_left e]
    rw[c,if_pos (show i+1<=l.length by omega)];exact z i e
   ·have y:i=l.length:=by omega
    subst y;have c:(l++[t]).getD l.length 0=t:=by rw[Xc,List.getElem?_append_right (Xd _),Nat.sub_self];rfl
    rw[c,if_neg (show ¬l.length+1<=l.length by omega),j]
    exact⟨g,rfl⟩
section
variable {w:World} {base0 nv nf nl nt vc fc lc tc:Nat} {va fa la ta:Option Addr} {vs fs ls:List Tx} {L:List (Tx×Value)} {C:List (List Ad)}
theorem aaJ (hp:BS w base0 (.slice va nv vc) (.slice fa nf fc) (.slice la nl lc) (.slice ta nt tc) vs fs ls L C) (hb:GW vs fs ls L C) (h:Cs (Am vs fs ls L C)) (ak:C.length=L.length) {a:Option Addr} {n cap:Nat} {I:List Int} {m:MS} (u:I.length=n) (l:Is w a I) (z:n<=20000) (hP:FH (Am vs fs ls L C) I m) :
 Calls Tryz.prog 19 #[.agg #[.slice va nv vc,.slice fa nf fc,.slice la nl lc,.slice ta nt tc],.slice a n cap] w λe w'=>∃b,e = .returned (.tuple #[Ab b,.bool true])/\w.heap.size<=b/\AP w' b (Am vs fs ls L C) m/\BT (Am vs fs ls L C) m/\Below w.heap.size w w':=by
 obtain⟨W,q⟩:∃W,w.alloc (.cells #[.slice va nv vc,.slice fa nf fc,.slice la nl lc,.slice ta nt tc] 25)=W:=⟨_,rfl⟩;have N:Below w.heap.size w W:=by rw[<-q];exact(Below.refl _ _).alloc (Xd _) _
 have S:W.heap[w.heap.size]?=some (.cells #[.slice va nv vc,.slice fa nf fc,.slice la nl lc,.slice ta nt tc] 25):=by rw[<-q];exact World.alloc_heap_new w _
 obtain⟨Z,s⟩:∃Z,w.heap.size=Z:=⟨_,rfl⟩;have E:=RA (hp.below N) hb;rw[abj (p:=Am vs fs ls L C) (a:=vs.length) (b:=fs.length) (c:=ls.length) (d:=L.length) rfl rfl rfl ak] at E;obtain⟨f,r,j,g,k⟩:=aaH h hP;obtain⟨p,aj⟩:∃p,Am vs fs ls L C=p:=⟨_,rfl⟩;rw[aj] at E h r g k |-;rw[u] at j g k;rw[s] at S;obtain⟨q0,q1,q2,q3⟩:=BK S;have o:=Aa (⟨h,u,l,z,r,j,g,k,N,s⟩:_/\_/\_/\_/\_/\_/\_/\_/\_/\_);clear hp hb h ak u l z hP r j g k aj N S;replace q:=Aa q;replace s:=Aa s
 go_enter Tryz.func19,Tryz.ntmps19
 go_upto_region 1 with fail
 rw[q.out,s.out];clear q
 go_wp2_with fail
 refine E.mono ?_;rintro e w1 ⟨b,rfl,aq,X,ai⟩;have v:Hid (w.heap.size<=b/\AP w1 b p (DH p)/\Below w.heap.size w w1):=⟨by have:=o.out.2.2.2.2.2.2.2.2.1.size;omega,X,o.out.2.2.2.2.2.2.2.2.1.trans (ai.mono o.out.2.2.2.2.2.2.2.2.1.size)⟩;clear E aq X ai q0 q1 q2 q3 s;unfold Ab
 go_wp2_with fail
 go_loopw [7] (λU wr=>∃i:Nat,i<=n/\U = .int .i64 i/\AP wr b p (f i)/\Below w.heap.size w wr) (λU _=>n - (intOf U).toNat)
 case atStart=>exact⟨0,Xw _,rfl,by rw[o.out.2.2.2.2.1];exact v.out.2.1,v.out.2.2⟩
 case round=>
  obtain⟨i,Q,rfl,B,A⟩:=hrel;obtain⟨h,u,l,z,r,j,g,k,-,-⟩:=o.out
  by_cases F:i<n
  ·obtain⟨lb,ad,ha,ah,c0⟩:=l i (by omega);subst ha;have c0:wr.cell? ⟨lb,ad+i,none⟩=_:=(A.cell (p:=⟨lb,ad+i,none⟩) ah).trans c0;have aC:(i:Int)<(n:Int):=by omega
   obtain⟨H,O⟩:=k i F;obtain⟨x,Y⟩:∃t,I.getD i 0=t:=⟨_,rfl⟩;rw[Y] at c0 H O;have D:=Mu B h (g i Q) x;unfold Mb Ib at D;rw[if_pos H,<-O,H] at D;have an:Hid (wrap64 ((i:Int)+1)=(i:Int)+1):=OK (by omega);have T:=Aa (⟨A,F⟩:_/\_);clear B A Q l ah F Y h u z r j g k O;unfold Ab at D
   go_wp2_with fail
   refine D.mono ?_;rintro e P ⟨rfl,aa,ac⟩;obtain⟨y,hy⟩:∃y,(Ay false p.C (f i) x).2=y:=⟨_,rfl⟩;rw[hy];obtain⟨et,ek,eo,ev⟩:=y;unfold DQ;dsimp only;obtain⟨M,J⟩:∃M,P.alloc (.cells #[.int .i64 et,.int .i64 ek,.int .i64 eo,.int .i64 ev] 48)=M:=⟨_,rfl⟩;have V:Below P.heap.size P M:=by rw[<-J];exact(Below.refl _ _).alloc (Xd _) _
   have R:=TR T.out.1 ac v.out.1;have G:=Aa (⟨T.out.2,aa.below V,R.trans (V.mono R.size)⟩:_/\_/\_);replace J:=Aa J;clear D aa ac hy V R T c0 H
   go_upto_region 8 with fail
   rw[J.out]
   go_wp2_with fail
   refine(Kd 0 _).mono ?_;rintro e w6 ⟨rfl,rfl⟩
   go_wp2_with fail
   go_roundw
   case rel=>
    (try rw[an.out])
    exact⟨i+1,G.out.1,rfl,G.out.2.1,G.out.2.2⟩
   case measure=>
    (try rw[an.out])
    exact Nat.sub_lt_sub_left G.out.1 (Nat.lt_succ_self i)
  ·have ao:i=n:=by omega
   subst ao;rw[j] at B;have K:=g i (Xd _);rw[j] at K;have HF:=Aa (⟨v.out.1,B,K,A⟩:_/\_/\_/\_);clear B A Q F h u l z r j g k K o v
   go_wp2_with fail
   go_ret2
   exact⟨b,rfl,HF.out⟩
end
theorem QN {w':World} {p:PD} {most n k:Int} {o:Tx} {f:List Tx} {F fa:Bool} {rs:List Int} {e:Ending} (r:Told p most n f F fa rs k) (h:IX w' p most o e):∃(a:Option Addr) (j cap:Nat),e = .returned (.tuple #[.slice a j cap,.bool (decide (o∈f)),.int .i64 k])/\(o∉f->j=0)/\
 (o∈f->∃d m,d.length=j/\Is w' a d/\FH p d m/\AG p.C m=[]/\Bl p m=o/\j<=20000):=by
 rcases h with⟨b,i,rfl⟩|⟨D,l,u,h⟩
 ·have E:f=[]/\EH b=k:=by
   cases b with
   |true=>
    rcases r with⟨a,-⟩|⟨-,-,-,c,-,-,-,t⟩|⟨-,l,b,-⟩
    ·exact absurd i.1 a
    ·exact⟨c,t.symm⟩
    ·rw[i.2] at b;cases b
   |false=>
    rcases r with⟨-,-,c,-,-,-,t⟩|⟨a,-⟩|⟨a,-⟩
    ·exact⟨c,t.symm⟩
    ·exact absurd a i
    ·exact absurd a i
  obtain⟨rfl,rfl⟩:=E
  exact⟨none,0,0,rfl,λ_=>rfl,λq=>by cases q⟩
 ·rcases r with⟨a,-⟩|⟨-,b,-⟩|⟨-,I,b,-,rfl,-,-,-,rfl⟩
  ·exact absurd D a
  ·rw[u] at b;cases b
  ·rw[u] at b
   cases b
   have w:o∈Bq p l↔∃m,m∈l/\Dx p o m=true:=by
    rw[Ke];unfold Fv Dx
    exact⟨fun⟨m,g,c,B⟩=>⟨m,g,by rw[c,Bool.true_and];exact decide_eq_true B⟩,fun⟨m,g,c⟩=>⟨m,g,(afO.1 c).1,of_decide_eq_true (afO.1 c).2⟩⟩
   rcases h with⟨G,rfl⟩|⟨a,cap,d,m,rfl,z,H,y,s,A⟩
   ·have x:o∉Bq p l:=λq=>by
     obtain⟨m,g,c⟩:=w.1 q;rw[G m g] at c
     cases c
    rw[decide_eq_false x]
    exact⟨none,0,0,rfl,λ_=>rfl,λq=>absurd q x⟩
   ·have v:o∈Bq p l:=w.2 ⟨m,y,s⟩;rw[decide_eq_true v];refine⟨a,d.length,cap,rfl,λq=>absurd v q,λ_=>⟨d,m,rfl,z,H,?_,?_,A⟩⟩
    ·have q:=(afO.1 s).1;rw[Ho] at q;unfold Gl at q
     simpa using q
    ·exact of_decide_eq_true (afO.1 s).2
end Go.Proofs.YtdcacoifehkioaaGreatDoor
