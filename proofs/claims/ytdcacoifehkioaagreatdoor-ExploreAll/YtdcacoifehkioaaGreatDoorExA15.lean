import Derived.Test.YtdcacoifehkioaaGreatDoorExA14
import Derived.Test.YtdcacoifehkioaaGreatDoorExA13
import Derived.Test.YtdcacoifehkioaaGreatDoorExA2
import Derived.Test.YtdcacoifehkioaaGreatDoorExA5
import Derived.Test.YtdcacoifehkioaaGreatDoorExA9
open List renaming range->YB,length_append->Xb,getD_eq_getElem?_getD->Xc,getElem?_eq_none->XU,length_cons->XJ,length_nil->X2,replicate->Xr,getElem?_replicate->ZG,size_toArray->Yt,setIfInBounds_toArray->XV,set_cons_succ->X8,set_cons_zero->X5,getElem?_map->Xs,getElem?_range->Zo
open Go.RowKit renaming wrap64->XN,Below->Xm
open Go.Lib renaming itoa->Yh
open Go renaming World->Xh,Calls->XY,Value->Xk,Program->Zk,bodyPost_ret->XI,undef->X7,TypeId->YH
open Go.RowKit.Below renaming refl->Xq,heap_alloc->Xv
open Nat renaming le_refl->Xd,zero_le->Xx,le_trans->Xu,sub_lt_sub_left->Xl,lt_succ_self->Xo,zero_add->XD
open Go.Act renaming put->XG
open Array renaming getD_eq_getD_getElem?->Zg,getElem?_eq_getElem->YO
set_option maxRecDepth 100000
set_option maxHeartbeats 2000000
set_option linter.unusedVariables false
set_option linter.unusedSimpArgs false
namespace Go.Proofs.YtdcacoifehkioaaGreatDoor
open Go.RowKit Go.Shelf Go.Proofs.Cod
def Cr (p:PD) (s:MS) (i:Nat):Tx:=(YB i).flatMap λt=>CQ (p.ts.getD t []) (s.th t)
theorem KI (p:PD) (s:MS) (i:Nat):Cr p s (i+1)=Cr p s i++CQ (p.ts.getD i []) (s.th i):=by
 unfold Cr;rw[List.range_succ,List.flatMap_append]
 simp
theorem abV {a c:Tx} {i:Nat} (d:a.length<=1000) (f:c.length<=i*200) (b:i<=4):(a++c).length<=200000:=by
 have e:(a++c).length=a.length+c.length:=Xb;have:i*200<=800:=Nat.mul_le_mul_right 200 b
 omega
theorem Nr {a c:Tx} {i:Nat} (b:a.length<=i*200) (d:c.length<=200):(a++c).length<=(i+1)*200:=by
 have e:(a++c).length=a.length+c.length:=Xb
 omega
theorem Hz {i:Nat} (h:i<=4):XN ((i:Int)+1)=(i:Int)+1:=by unfold XN;omega
theorem KH (p:PD) (s:MS):Cr p s 0=[]:=rfl
def Aj (p:PD) (s:MS):Tx:=Bf Yh p.vs s.vars p.vs.length++Bf Yh p.fs s.flags p.fs.length++Bf (Ce p.ts) p.ls s.locks p.ls.length++Cr p s p.ts.length
structure Eg (p:PD):Prop where
 v:∀k,(p.vs.getD k []).length<=8
 f:∀k,(p.fs.getD k []).length<=8
 l:∀k,(p.ls.getD k []).length<=8
 t:∀k,(p.ts.getD k []).length<=8
section
variable {w w':Xh} {b B0:Nat} {p:PD} {s:MS}
theorem Gv {l:List Int} (h:∀v,v∈l->CD v) (k:Nat):0<=l.getD k 0/\l.getD k 0<1000:=by
 by_cases e:k<l.length
 ·exact h _ (CN e)
 ·rw[Xc,XU (by omega)]
  exact⟨by decide,by decide⟩
theorem abF {l:List Int} {n:Nat} (h:∀v,v∈l->-1<=v/\v<n) (a:n<=4) (k:Nat) : -1<=l.getD k 0/\l.getD k 0<4:=by
 by_cases e:k<l.length
 ·have:=h _ (CN (d:=0) e);omega
 ·rw[Xc,XU (by omega)]
  exact⟨by decide,by decide⟩
theorem ND (a:∀k,(p.ts.getD k []).length<=8) (n:Int):(Ce p.ts n).length<=21:=by
 unfold Ce
 split
 ·decide
 ·have:=a n.toNat;omega
theorem Mp (e:∀k,(p.ts.getD k []).length<=8) {n:Nat} {t:Nat} (b:GQ n (s.th t)) (f:n<=24):(CQ (p.ts.getD t []) (s.th t)).length<=200:=by
 have a:=e t;have c:=QT (s.th t) (by have:=b.pc2;omega);have d:=JT _ (Hg b) 4;unfold CQ;simp only[Xb,XJ,X2]
 split
 ·simp only[X2];omega
 ·omega
theorem PN (h:Bn w b p s) (d:CK p) (D:CY p s) (g:Eg p) (ht:Cn w B0) (aB:B0<=w.heap.size) :
 XY Tryz.prog 43 #[Ab b] w λe w'=>e = .returned (.string (bs (Aj p s)))/\Xm w.heap.size w w':=by
 have M:=h.lt;obtain⟨P,X⟩:∃P,w.alloc (.cells #[.pointer none,.slice none 0 0] 188)=P:=⟨_,rfl⟩;have ai:Xm w.heap.size w P:=by rw[<-X];exact(Xq _ _).alloc (Xd _) _
 have aD:BW P w.heap.size w.heap.size []:=by rw[<-X];exact BW.fresh w
 have u:=fun(w':Xh) (a:Xm w.heap.size w w')=>(h.same (a.block b M):Bn w' b p s)
 have ag:=fun(w':Xh) (a:Xm w.heap.size w w')=>(ht.keep (a.mono aB))
 have j:∀k,0<=s.vars.getD k 0/\s.vars.getD k 0<1000:=Gv D.vv;have z:∀k,0<=s.flags.getD k 0/\s.flags.getD k 0<1000:=Gv D.fv;have il:∀k,-1<=s.locks.getD k 0/\s.locks.getD k 0<4:=abF D.lv d.fit.four;have L1:=FA Yh p.vs s.vars p.vs.length g.v (λk=>Dw (j k).1 (j k).2);have L2:=FA Yh p.fs s.flags p.fs.length g.f (λk=>Dw (z k).1 (z k).2);have L3:=FA (Ce p.ts) p.ls s.locks p.ls.length g.l (λk=>ND g.t _);have b1:=d.v;have b2:=d.f;have b3:=d.l;have b4:p.ts.length<=4:=by rw[d.tc];exact d.fit.four
 obtain⟨y,W⟩:∃y,Bf Yh p.vs s.vars p.vs.length=y:=⟨_,rfl⟩;obtain⟨C,V⟩:∃C,Bf Yh p.fs s.flags p.fs.length=C:=⟨_,rfl⟩;obtain⟨K,ac⟩:∃K,Bf (Ce p.ts) p.ls s.locks p.ls.length=K:=⟨_,rfl⟩;have U:∀(w':Xh) (out:Tx),Xm w.heap.size w w'->BW w' w.heap.size w.heap.size out->out.length<=100000->XY Tryz.prog 99 #[Ab w.heap.size,.pointer (some ⟨b,0,none⟩),.func (.func 72) #[] #[]] w' λe m=>e = .returned (.tuple #[])/\BW m w.heap.size w.heap.size (out++y)/\Xm w.heap.size w' m:=λw' out a A c=>by
  rw[<-W];exact PO (o:=0) (T:=Yh) (u w' a) M A a.size (.inl rfl) b1 g.v c (λk=>Dw (j k).1 (j k).2) (λn N i _=>IM _ (by have:=(j i).1;show -9223372036854775808<=s.vars.getD i 0;omega) (by have:=(j i).2;show s.vars.getD i 0<=9223372036854775807;omega) n (ag n (a.trans N)))
 have S:∀(w':Xh) (out:Tx),Xm w.heap.size w w'->BW w' w.heap.size w.heap.size out->out.length<=100000->XY Tryz.prog 99 #[Ab w.heap.size,.pointer (some ⟨b,9,none⟩),.func (.func 72) #[] #[]] w' λe m=>e = .returned (.tuple #[])/\BW m w.heap.size w.heap.size (out++C)/\Xm w.heap.size w' m:=λw' out a A c=>by
  rw[<-V];exact PO (o:=9) (T:=Yh) (u w' a) M A a.size (.inr (.inl rfl)) b2 g.f c (λk=>Dw (z k).1 (z k).2) (λn N i _=>IM _ (by have:=(z i).1;show -9223372036854775808<=s.flags.getD i 0;omega) (by have:=(z i).2;show s.flags.getD i 0<=9223372036854775807;omega) n (ag n (a.trans N)))
 have Z:∀(w':Xh) (out:Tx),Xm w.heap.size w w'->BW w' w.heap.size w.heap.size out->out.length<=100000->XY Tryz.prog 99 #[Ab w.heap.size,.pointer (some ⟨b,18,none⟩),.func (.func 100) #[Ab b] #[]] w' λe m=>e = .returned (.tuple #[])/\BW m w.heap.size w.heap.size (out++K)/\Xm w.heap.size w' m:=λw' out a A c=>by
  rw[<-ac];exact VM (o:=18) (T:=Ce p.ts) (u w' a) M A a.size (.inr (.inr rfl)) b3 g.l c (λk=>ND g.t _) (λn N i _=>(acK (u n (a.trans N)) (s.locks.getD i 0) (il i).1 (il i).2).mono (λe w3 q=>⟨q.1,by rw[q.2];exact Xq _ _⟩))
 have O:∀(w':Xh) (out:Tx) (t:Nat),t<p.ts.length->Xm w.heap.size w w'->BW w' w.heap.size w.heap.size out->out.length<=200000->XY Tryz.prog 101 #[Ab w.heap.size,.pointer (some ⟨b,27+t*207,none⟩)] w' λe m=>e = .returned (.tuple #[])/\BW m w.heap.size w.heap.size (out++CQ (p.ts.getD t []) (s.th t))/\Xm w.heap.size w' m:=λw' out t G a A c=>
  VL (u w' a) M A a.size (by omega) (ag w' a) aB (D.th t (by rw[<-d.tc];exact G)) (d.fit.code _ (CN (by rw[<-d.tc];exact G))).1 (g.t t) c
 have I:∀t,t<p.ts.length->(CQ (p.ts.getD t []) (s.th t)).length<=200:=λt G=>Mp g.t (D.th t (by rw[<-d.tc];exact G)) (d.fit.code _ (CN (by rw[<-d.tc];exact G))).1;have aa:=fun(w':Xh) (a:Xm w.heap.size w w')=>Lr (u w' a);have aw:Aj p s=y++C++K++Cr p s p.ts.length:=by unfold Aj;rw[W,V,ac]
 rw[aw];rw[W] at L1;rw[V] at L2;rw[ac] at L3;have Y:=U P [] ai aD (Xx _);rw[List.nil_append] at Y;replace U:=Aa U;replace S:=Aa S;replace Z:=Aa Z;replace O:=Aa O;replace I:=Aa I;replace aa:=Aa aa;have ar:=Aa ai;clear h d D g ht aD u ag j z il W V ac aw ai U;unfold Ab at Y |-
 go_enter Tryz.func43,Tryz.ntmps43
 go_wp2_with fail
 try rw[X]
 refine Y.mono ?_;rintro e n ⟨rfl,aK,aC⟩;have aq:=ar.out.trans aC;have ap:=S.out n y aq aK (by omega);have aA:=Aa aq;clear Y aK aC aq ar S X;unfold Ab at ap
 go_wp2_with fail
 refine ap.mono ?_;rintro e w3 ⟨rfl,aE,az⟩;have am:=aA.out.trans az;have ao:=Z.out w3 (y++C) am aE (by rw[Xb];omega);have ay:=Aa am;clear ap aE az am aA Z;unfold Ab at ao
 go_wp2_with fail
 refine ao.mono ?_;rintro e w4 ⟨rfl,ah,aJ⟩;have ak:=ay.out.trans aJ;have c8:=aa.out w4 ak;obtain⟨E,Q⟩:∃E,y++C++K=E:=⟨_,rfl⟩;have aP:E.length<=1000:=by rw[<-Q,Xb,Xb];omega
 rw[Q] at ah;have H4:=Aa (⟨ah,ak⟩:_/\_);replace Q:=Aa Q;clear ao ah aJ ak ay aa L1 L2 L3
 go_wp2_with fail
 go_loopw [23] (λj wr=>∃i:Nat,i<=p.ts.length/\j = .int .i64 i/\BW wr w.heap.size w.heap.size (E++Cr p s i)/\(Cr p s i).length<=i*200/\Xm w.heap.size w wr) (λj _=>p.ts.length - (intOf j).toNat)
 case atStart=>exact⟨0,Xx _,rfl,(by rw[KH,List.append_nil];exact H4.out.1),(by rw[KH];exact Xx _),H4.out.2⟩
 case round=>
  clear H4;obtain⟨i,hi,rfl,hS,c,B⟩:=hrel
  by_cases x:i<p.ts.length
  ·have aV:(i:Int)<4:=by omega
   have aT:(i:Int)<(p.ts.length:Int):=by omega
   have aG:(E++Cr p s i).length<=200000:=abV aP c (Xu hi b4);have r:=O.out wr (E++Cr p s i) i x B hS aG;clear aG;have J:=KI p s i;have ab:=I.out i x;have aI:=Hz (Xu hi b4);have F:=Aa (⟨B,x,c,J,ab⟩:_/\_/\_/\_/\_);clear hS B x c hi J ab I O;unfold Ab at r
   go_wp2_with fail
   refine r.mono ?_;rintro e w5 ⟨rfl,ax,H⟩;have R:=Aa (⟨ax,F.out.1.trans H⟩:_/\_);clear r ax H
   go_wp2_with fail
   go_roundw
   case rel=>
    (try rw[aI])
    obtain⟨-,x,c,J,ab⟩:=F.out;refine⟨i+1,x,rfl,?_,?_,R.out.2⟩
    ·rw[J,<-List.append_assoc];exact R.out.1
    ·rw[J];exact Nr c ab
   case measure=>
    (try rw[aI])
    exact Xl F.out.2.1 (Xo i)
  ·have aR:i=p.ts.length:=by omega
   subst aR;have r:=aeK hS B.size;have F:=Aa B;clear hS B c hi x O I;unfold Ab at r
   go_wp2_with fail
   refine r.mono ?_;rintro e w5 ⟨rfl,H⟩;have R:=Aa (F.out.trans H);clear r H F
   go_wp2_with fail
   go_ret
   exact⟨by rw[Q.out];rfl,R.out⟩
end
end Go.Proofs.YtdcacoifehkioaaGreatDoor
namespace Go.Proofs.YtdcacoifehkioaaGreatDoor
open Go.RowKit Go.Proofs.Cod
section
variable {w w':Xh} {b:Nat} {p:PD} {s:MS}
theorem Tryz.sizeMc:(Tryz.prog.info? 117).map (·.size)=some 856:=by kernel_rfl
theorem acz (i:Ad) (j:Nat):(LC i j).oneCell'=true:=by
 unfold LC
 repeat' split
 all_goals rfl
theorem Ti (a:Tx):(Ed a).oneCell'=true:=by unfold Ed;split<;>rfl
theorem LO (i:Ad) (j:Nat):(Gk i j).oneCell'=true:=by
 unfold Gk
 split
 ·exact acz i j
 ·exact Ti i.op
theorem Mq (nm:Tx) (c:Option (List Ad)) (th:TS) (j:Nat):(BR nm c th j).oneCell'=true:=by
 unfold BR
 split
 ·rfl
 ·split
  ·rfl
  ·split
   ·rfl
   ·split
    ·rfl
    ·unfold Tj
     split
     ·exact LO _ _
     ·split
      ·exact LO _ _
      ·split<;>exact LO _ _
theorem LS (a:List Tx) (l:List Int) (k:Nat):(BK a l k).oneCell'=true:=by
 unfold BK
 split
 ·rfl
 ·split<;>rfl
theorem abu (p:PD) (s:MS) (k:Nat):(Az p s k).oneCell'=true:=by
 unfold Az
 split
 ·exact LS _ _ _
 ·split
  ·exact LS _ _ _
  ·split
   ·exact LS _ _ _
   ·split
    ·exact Mq _ _ _ _
    ·rfl
theorem JU (f:Nat->Xk) (n:Nat) (b:∀k,(f k).oneCell'=true):∀v∈(((YB n).map f).toArray).toList,v.oneCell'=true:=by
 intro v a;simp only[List.mem_map] at a;obtain⟨k,-,rfl⟩:=a;exact b k
theorem Am.fill {T n:Nat} {g f:Nat->Xk} (h:Am w b T n g):Am (w.setCells b 0 (((YB n).map f).toArray).toList) b T n f:=by
 refine(ME _ 0 h (by simp)).congr λk a=>?_;rw[if_pos (by simp;exact a)];simp[Xc,a]
end
section
variable {w w':Xh} {b:Nat}
theorem Tryz.sizeCs:(Tryz.prog.info? 101).map (·.size)=some 9:=by kernel_rfl
def Dc (n:Nat) (f:Nat->Xk):Array Xk:=((YB n).map f).toArray
theorem IG (n:Nat) (f:Nat->Xk):(Dc n f).size=n:=by simp[Dc]
def Ho (ns:List Tx) (v:Int) (i k:Nat):Xk:=if k=8 then .int .i64 ns.length else if k % 2=0 then .string (bs ((ns.take i).getD (k / 2) [])) else .int .i64 ((Xr i v).getD (k / 2) 0)
theorem aep (a:List Tx) (v:Int) (k:Nat):Ho a v a.length k=BK a (Xr a.length v) k:=by unfold Ho BK;rw[List.take_length]
theorem OZ {α:Type} (l:List α) (i k:Nat) (d:α):(l.take i).getD k d=if k<i then l.getD k d else d:=by
 rw[Xc,List.getElem?_take]
 split
 ·rw[Xc]
 ·rfl
theorem Qz (i k:Nat) (v d:Int):(Xr i v).getD k d=if k<i then v else d:=by
 rw[Xc,ZG]
 split<;>rfl
theorem Am.aav {c:List Tx} {v:Int} {i:Nat} {T:Nat} (h:Am w b T 9 (Ho c v i)) (j:i<4) (l:i<c.length):Am ((w.setCell ⟨b,i*2,none⟩ (.string (bs (c.getD i [])))).setCell ⟨b,i*2+1,none⟩ (.int .i64 v)) b T 9 (Ho c v (i+1)):=by
 refine((h.set _ _).set _ _).congr λk m=>?_;unfold Ho;rw[OZ,OZ,Qz,Qz]
 by_cases g:k=i*2+1
 ·subst g;rw[if_pos rfl,if_neg (by omega),if_neg (by omega),if_pos (by omega)]
 ·rw[if_neg g]
  by_cases f:k=i*2
  ·subst f;rw[if_pos rfl,if_neg (by omega),if_pos (by omega),if_pos (by omega),show i*2 / 2=i by omega]
  ·rw[if_neg f]
   by_cases e:k=8
   ·rw[if_pos e,if_pos e]
   ·rw[if_neg e,if_neg e]
    by_cases d:k % 2=0
    ·rw[if_pos d,if_pos d]
     by_cases a:k / 2<i
     ·rw[if_pos a,if_pos (by omega)]
     ·rw[if_neg a,if_neg (by omega)]
    ·rw[if_neg d,if_neg d]
     by_cases a:k / 2<i
     ·rw[if_pos a,if_pos (by omega)]
     ·rw[if_neg a,if_neg (by omega)]
theorem Qo {P:Zk} {fn:Func} {tmps:Array Xk} {T k:Nat} {v:Xk} (c:fn.results = #[.cell k T]) (d:tmps[k]?=some (.pointer (some ⟨b,0,none⟩))) (a:(loadVar T ⟨b,0,none⟩).run P w = .ok v w):(results fn tmps).run P w = .ok v w:=by
 simp[results,c,d,asAddr,a]
theorem Am.abf {f:Nat->Xk} (w:Xh) (o:Obj) (cs:Array Xk) (T:Nat) (a:∀k,k<cs.size->cs[k]?=some (f k)):Am ((w.alloc o).alloc (.cells cs T)) (w.heap.size+1) T cs.size f:=by
 have q:=Am.new (f:=f) (w.alloc o) cs T a;have e:(w.alloc o).heap.size=w.heap.size+1:=by show (w.heap.push _).size=_;simp
 rw[e] at q;exact q
theorem Nb {a:Option Addr} {n cap:Nat} {c:List Tx} (V:c.length=n) (G:Ws w a c) (Z:n<=4) (v:Int) :
 XY Tryz.prog 38 #[.slice a n cap,.int .i64 v] w λe w'=>e = .returned (.agg (Dc 9 (BK c (Xr n v))))/\Xm w.heap.size w w':=by
 subst V;have u:(Tryz.prog.info? 101).map (·.size)=some (Dc 9 (BK c (Xr c.length v))).size:=by rw[IG];exact Tryz.sizeCs
 obtain⟨R,m⟩:∃R,Dc 9 (BK c (Xr c.length v))=R:=⟨_,rfl⟩;rw[m] at u |-;have F:∀x∈R.toList,x.oneCell'=true:=by rw[<-m];exact JU _ 9 (LS _ _)
 have C:R.size=9:=by rw[<-m,IG]
 replace u:=Aa u;replace m:=Aa m;replace F:=Aa F;replace C:=Aa C
 go_enter Tryz.func38,Tryz.ntmps38
 go_wp2_with fail
 go_loopw [13] (λD wr=>∃i:Nat,i<=c.length/\D = .int .i64 i/\Am wr (w.heap.size+1) 101 9 (Ho c v i)/\(∃g,Am wr w.heap.size 101 9 g)/\Xm w.heap.size w wr) (λD _=>c.length - (intOf D).toNat)
 case atStart=>
  refine⟨0,Xx _,rfl,?_,?_,?_⟩
  ·have q:=Am.abf (f:=Ho c v 0) w (.cells #[.string ⟨#[]⟩,.int .i64 0,.string ⟨#[]⟩,.int .i64 0,.string ⟨#[]⟩,.int .i64 0,.string ⟨#[]⟩,.int .i64 0,.int .i64 0] 101) #[.string ⟨#[]⟩,.int .i64 0,.string ⟨#[]⟩,.int .i64 0,.string ⟨#[]⟩,.int .i64 0,.string ⟨#[]⟩,.int .i64 0,.int .i64 c.length] 101 (λk s=>by
    have:k=0\/k=1\/k=2\/k=3\/k=4\/k=5\/k=6\/k=7\/k=8:=by simp only[Yt,XJ,X2] at s;omega
    rcases this with rfl|rfl|rfl|rfl|rfl|rfl|rfl|rfl|rfl<;>rfl)
   exact q
  ·refine⟨λk=>if k=8 then .int .i64 0 else if k % 2=0 then .string ⟨#[]⟩ else .int .i64 0,?_⟩;have q:=Am.new (f:=λk=>if k=8 then .int .i64 0 else if k % 2=0 then .string ⟨#[]⟩ else .int .i64 0) w #[.string ⟨#[]⟩,.int .i64 0,.string ⟨#[]⟩,.int .i64 0,.string ⟨#[]⟩,.int .i64 0,.string ⟨#[]⟩,.int .i64 0,.int .i64 0] 101 (λk s=>by
    have:k=0\/k=1\/k=2\/k=3\/k=4\/k=5\/k=6\/k=7\/k=8:=by simp only[Yt,XJ,X2] at s;omega
    rcases this with rfl|rfl|rfl|rfl|rfl|rfl|rfl|rfl|rfl<;>rfl)
   exact q.below ((Xq _ _).alloc (Xd _) _)
  ·exact((Xq _ _).alloc (Xd _) _).alloc (by simp) _
 case round=>
  obtain⟨i,J,rfl,l,d,h⟩:=hrel
  by_cases o:i<c.length
  ·have U:i<4:=by omega
   have aa:(i:Int)<4:=by omega
   obtain⟨b,M,rfl,T,c0⟩:=G i o;have c0:wr.cell? ⟨b,M+i,none⟩=_:=(h.cell (p:=⟨b,M+i,none⟩) T).trans c0;have Y:(i:Int)<(c.length:Int):=by omega
   have c1:=l.cell (k:=i*2) (by omega);have c2:=l.cell (k:=i*2+1) (by omega);have f1:=l.frozen;obtain⟨y1,Q⟩:∃y,Ho c v i (i*2)=y:=⟨_,rfl⟩;obtain⟨y2,N⟩:∃y,Ho c v i (i*2+1)=y:=⟨_,rfl⟩;rw[Q] at c1;rw[N] at c2;have t:=l.aav U o;obtain⟨nm,K⟩:∃nm,c.getD i []=nm:=⟨_,rfl⟩;rw[K] at t c0;have z:=Aa (⟨t,l,d,h,o⟩:_/\_/\_/\_/\_);have I:XN ((i:Int)+1)=(i:Int)+1:=by unfold XN;omega
   clear l d h Q N o J G t K
   go_wp2_with fail
   go_roundw
   case rel=>
    (try rw[I])
    obtain⟨t,l,⟨g,d⟩,h,o⟩:=z.out;refine⟨i+1,o,rfl,t,⟨g,(d.other (by show w.heap.size≠w.heap.size+1;omega) _).other (by show w.heap.size≠w.heap.size+1;omega) _⟩,?_⟩
    exact(h.setCell (by show w.heap.size<=w.heap.size+1;omega) _).setCell (by show w.heap.size<=w.heap.size+1;omega) _
   case measure=>
    (try rw[I])
    have:=z.out.2.2.2.2;exact Xl this (Xo i)
  ·have X:i=c.length:=by omega
   subst X;obtain⟨g,d⟩:=d;have H:Am wr (w.heap.size+1) 101 9 (BK c (Xr c.length v)):=l.congr λk _=>aep c v k;have E:∀j,j<9->wr.cell? ⟨w.heap.size+1,0+j,none⟩=some (BK c (Xr c.length v) j):=λj r=>by rw[XD];exact H.cell r
   have A:∀j,j<R.size->(wr.cell? ⟨w.heap.size,0+j,none⟩).isSome=true:=λj r=>by rw[XD,d.cell (by rw[<-C.out];exact r)];rfl
   have B:∀j,j<R.size->wr.frozen? ⟨w.heap.size,0+j,none⟩=false:=λj _=>d.frozen _;replace E:=Aa E;replace A:=Aa A;replace B:=Aa B;have z:=Aa (⟨d,h⟩:_/\_);clear l H d h J G o
   go_wp2_with (first|(refine Mn rfl _ _ rfl (w.heap.size+1) 0 9 rfl (BK c (Xr c.length v)) _ E.out Tryz.underlying101 rfl Tryz.sizeCs ?_;rw[show ((YB 9).map (BK c (Xr c.length v))).toArray=R from m.out];simp only[XG,XV,X8,X5])|(refine Iv rfl _ _ _ rfl w.heap.size 0 R rfl rfl A.out B.out u.out F.out ?_;simp only[XG,XV,X8,X5]))
   obtain⟨d,h⟩:=z.out;have q:=EZ (S:=λ_=>False) (w:=w) (b:=w.heap.size) R.toList 0 (Ac.DM h) (.inr (Xd _));have W:Am (wr.setCells w.heap.size 0 R.toList) w.heap.size 101 9 (BK c (Xr c.length v)):=by rw[<-m.out];exact d.fill
   have O:=JN (P:=Tryz.prog) (wr.setCells w.heap.size 0 R.toList) w.heap.size 0 9 101 _ _ (λj r=>by rw[XD];exact W.cell r) Tryz.underlying101 rfl Tryz.sizeCs;rw[show ((YB 9).map (BK c (Xr c.length v))).toArray=R from m.out] at O;exact XI (Qo rfl rfl O) rfl ⟨rfl,⟨q.os,q.tape,q.output,q.size,λk s=>q.block k s id⟩⟩
end
def AS (f:Nat):Xk:=.func (.func f) #[] #[]
def Gu (w:Xh) (m:Nat):Prop:=∃n f,AA sk w m f n/\∀op,(f op).getD .nilFunc=Ed op
section
variable {w w':Xh} {m:Nat}
theorem Gu.lt (h:Gu w m):m<w.heap.size:=by obtain⟨n,f,a,-⟩:=h;exact a.lt
theorem Gu.same (h:Gu w m) (e:w'.heap[m]?=w.heap[m]?):Gu w' m:=by obtain⟨n,f,a,b⟩:=h;exact⟨n,f,a.same e,b⟩
theorem Gu.look (h:Gu w m) (a:Tx):(Instr.lookup 118 (.map (some m)) (.string (bs a)) false).run Tryz.prog w = .ok (Ed a) w:=by
 obtain⟨n,f,b,c⟩:=h;have q:=b.look Tryz.strKey Tryz.underlying118 (z:=.nilFunc) (by kernel_rfl) a;rw[c a] at q;exact q
theorem Et {w w':Xh} {B b:Nat} (g:w.grownBy w' (some b)) (a:B<=b) (c:B<=w.heap.size):Xm B w w':=⟨g.os,g.tape,g.output,g.size,λk d=>g.block k (by omega) (λe=>by injection e;omega)⟩
theorem ads (a:Tx) (f:Tx->Option Xk) (h:f=(Bv (Bv (Bv (Bv (Bv (Bv (Bv (Bv (Bv (Bv (Bv (Bv (Bv (Bv (Bv (Bv (Bv (λ_=>none) El (AS 74)) Eo (AS 77)) Ek (AS 78)) Em (AS 79)) Bq (AS 80)) AH (AS 82)) DY (AS 84)) DX (AS 85)) BN (AS 86)) CG (AS 87)) BI (AS 88)) BO (AS 89)) Dg (AS 91)) CV (AS 93)) CU (AS 94)) Dh (AS 95)) En (AS 96))):(f a).getD .nilFunc=Ed a:=by
 subst h
 by_cases t:a=El
 ·subst t;rfl
 by_cases k:a=Eo
 ·subst k;rfl
 by_cases s:a=Ek
 ·subst s;rfl
 by_cases o:a=Em
 ·subst o;rfl
 by_cases e:a=Bq
 ·subst e;rfl
 by_cases u:a=AH
 ·subst u;rfl
 by_cases l:a=DY
 ·subst l;rfl
 by_cases m:a=DX
 ·subst m;rfl
 by_cases g:a=BN
 ·subst g;rfl
 by_cases r:a=CG
 ·subst r;rfl
 by_cases j:a=BI
 ·subst j;rfl
 by_cases c:a=BO
 ·subst c;rfl
 by_cases i:a=Dg
 ·subst i;rfl
 by_cases p:a=CV
 ·subst p;rfl
 by_cases b:a=CU
 ·subst b;rfl
 by_cases d:a=Dh
 ·subst d;rfl
 by_cases n:a=En
 ·subst n;rfl
 rw[CT _ n,CT _ d,CT _ b,CT _ p,CT _ i,CT _ c,CT _ j,CT _ r,CT _ g,CT _ m,CT _ l,CT _ u,CT _ e,CT _ o,CT _ s,CT _ k,CT _ t];unfold Ed LP;simp only[List.find?,show decide (El=a)=false from decide_eq_false (λq=>t q.symm),show decide (Eo=a)=false from decide_eq_false (λq=>k q.symm),show decide (Ek=a)=false from decide_eq_false (λq=>s q.symm),show decide (Em=a)=false from decide_eq_false (λq=>o q.symm),show decide (Bq=a)=false from decide_eq_false (λq=>e q.symm),show decide (AH=a)=false from decide_eq_false (λq=>u q.symm),show decide (DY=a)=false from decide_eq_false (λq=>l q.symm),show decide (DX=a)=false from decide_eq_false (λq=>m q.symm),show decide (BN=a)=false from decide_eq_false (λq=>g q.symm),show decide (CG=a)=false from decide_eq_false (λq=>r q.symm),show decide (BI=a)=false from decide_eq_false (λq=>j q.symm),show decide (BO=a)=false from decide_eq_false (λq=>c q.symm),show decide (Dg=a)=false from decide_eq_false (λq=>i q.symm),show decide (CV=a)=false from decide_eq_false (λq=>p q.symm),show decide (CU=a)=false from decide_eq_false (λq=>b q.symm),show decide (Dh=a)=false from decide_eq_false (λq=>d q.symm),show decide (En=a)=false from decide_eq_false (λq=>n q.symm)]
 rfl
theorem adU (w:Xh):XY Tryz.prog 39 #[] w λe w'=>e = .returned (.map (some w.heap.size))/\Gu w' w.heap.size/\Xm w.heap.size w w':=by
 have u:AA sk (w.alloc (.map #[] 0)) w.heap.size (λ_=>none) 0:=AA.made w;have B0:Xm w.heap.size w (w.alloc (.map #[] 0)):=(Xq _ _).alloc (Xd _) _;obtain⟨w1,r1,A,O,-⟩:=u.put Tryz.strKey Tryz.underlying118 El (AS 74);have q:=B0.trans (Et O (Xd _) B0.size);obtain⟨w2,r2,T,y,-⟩:=A.put Tryz.strKey Tryz.underlying118 Eo (AS 77);have m:=q.trans (Et y (Xd _) q.size);obtain⟨w3,r3,h3,g3,-⟩:=T.put Tryz.strKey Tryz.underlying118 Ek (AS 78);have i:=m.trans (Et g3 (Xd _) m.size);obtain⟨w4,r4,R,Z,-⟩:=h3.put Tryz.strKey Tryz.underlying118 Em (AS 79);have k:=i.trans (Et Z (Xd _) i.size);obtain⟨w5,r5,F,S,-⟩:=R.put Tryz.strKey Tryz.underlying118 Bq (AS 80);have g:=k.trans (Et S (Xd _) k.size);obtain⟨w6,r6,B,Y,-⟩:=F.put Tryz.strKey Tryz.underlying118 AH (AS 82);have o:=g.trans (Et Y (Xd _) g.size);obtain⟨w7,r7,v,I,-⟩:=B.put Tryz.strKey Tryz.underlying118 DY (AS 84);have p:=o.trans (Et I (Xd _) o.size);obtain⟨w8,r8,Q,K,-⟩:=v.put Tryz.strKey Tryz.underlying118 DX (AS 85);have h:=p.trans (Et K (Xd _) p.size);obtain⟨w9,r9,G,s,-⟩:=Q.put Tryz.strKey Tryz.underlying118 BN (AS 86);have l:=h.trans (Et s (Xd _) h.size);obtain⟨aK,ap,x,U,-⟩:=G.put Tryz.strKey Tryz.underlying118 CG (AS 87);have f:=l.trans (Et U (Xd _) l.size);obtain⟨aM,az,X,J,-⟩:=x.put Tryz.strKey Tryz.underlying118 BI (AS 88);have b:=f.trans (Et J (Xd _) f.size);obtain⟨aI,af,r,ac,-⟩:=X.put Tryz.strKey Tryz.underlying118 BO (AS 89);have n:=b.trans (Et ac (Xd _) b.size);obtain⟨aJ,ax,W,N,-⟩:=r.put Tryz.strKey Tryz.underlying118 Dg (AS 91);have a:=n.trans (Et N (Xd _) n.size);obtain⟨aP,au,E,C,-⟩:=W.put Tryz.strKey Tryz.underlying118 CV (AS 93);have c:=a.trans (Et C (Xd _) a.size);obtain⟨aF,ak,P,M,-⟩:=E.put Tryz.strKey Tryz.underlying118 CU (AS 94);have d:=c.trans (Et M (Xd _) c.size);obtain⟨aD,ar,z,t,-⟩:=P.put Tryz.strKey Tryz.underlying118 Dh (AS 95);have j:=d.trans (Et t (Xd _) d.size);obtain⟨D,am,V,aa,-⟩:=z.put Tryz.strKey Tryz.underlying118 En (AS 96);have H:=j.trans (Et aa (Xd _) j.size);unfold AS sk El bs at r1;unfold AS sk Eo bs at r2;unfold AS sk Ek bs at r3;unfold AS sk Em bs at r4;unfold AS sk Bq bs at r5;unfold AS sk AH bs at r6;unfold AS sk DY bs at r7;unfold AS sk DX bs at r8;unfold AS sk BN bs at r9;unfold AS sk CG bs at ap;unfold AS sk BI bs at az;unfold AS sk BO bs at af;unfold AS sk Dg bs at ax;unfold AS sk CV bs at au;unfold AS sk CU bs at ak;unfold AS sk Dh bs at ar;unfold AS sk En bs at am;have HF:=Aa (⟨⟨_,_,V,λop=>ads op _ rfl⟩,H⟩:Gu D w.heap.size/\Xm w.heap.size w D);clear u B0 A q T m h3 i R k F g B o v p Q h G l x f X b r n W a E c P d z j V H O y g3 Z S Y I K s U J ac N C M t aa;have aL:=@run_makeMap Tryz.prog
 go_enter Tryz.func39,Tryz.ntmps39
 go_wp2_with fail
 go_ret
 exact⟨rfl,HF.out⟩
end
section
variable {w w':Xh} {b:Nat}
theorem Tryz.sizeTh:(Tryz.prog.info? 114).map (·.size)=some 207:=by kernel_rfl
theorem Tryz.sizeDeed:(Tryz.prog.info? 111).map (·.size)=some 8:=by kernel_rfl
def FS (nm:Tx) (c:List Ad) (i j:Nat):Xk:=if j=0 then .string (bs nm) else if j<7 then .int .i64 0 else if (j - 7) / 8<i then Gk (c.getD ((j - 7) / 8) Cm) ((j - 7) % 8) else Gk (CB []) ((j - 7) % 8)
def Gl (x:Ad):Array Xk := #[.string (bs x.op),.int .i64 x.r,.bool x.aR,.int .i64 x.aN,.bool x.bR,.int .i64 x.bN,.int .i64 x.x,Ed x.op]
theorem Tk (x:Ad):∀v∈(Gl x).toList,v.oneCell'=true:=by
 intro v a;simp only[Gl,List.mem_cons,List.not_mem_nil,or_false] at a
 rcases a with rfl|rfl|rfl|rfl|rfl|rfl|rfl|rfl
 all_goals first|rfl|exact Ti _
theorem adX (x:Ad) {j:Nat} (h:j<8):(Gl x).toList.getD j X7=Gk x j:=by
 have:j=0\/j=1\/j=2\/j=3\/j=4\/j=5\/j=6\/j=7:=by omega
 rcases this with rfl|rfl|rfl|rfl|rfl|rfl|rfl|rfl<;>rfl
theorem Am.QM {nm:Tx} {c:List Ad} {i:Nat} {T:Nat} (h:Am w b T 207 (FS nm c i)) (f:i<25) {x:Ad} (d:c.getD i Cm=x):Am (w.setCells b (7+i*8) (Gl x).toList) b T 207 (FS nm c (i+1)):=by
 refine(ME _ (7+i*8) h (by show 7+i*8+8<=207;omega)).congr λk g=>?_;show (if 7+i*8<=k/\k<7+i*8+8 then _ else _)=_
 by_cases e:7+i*8<=k/\k<7+i*8+8
 ·rw[if_pos e,adX x (by omega)];unfold FS;rw[if_neg (by omega),if_neg (by omega),if_pos (by omega),show (k - 7) / 8=i by omega,d,show k - (7+i*8)=(k - 7) % 8 by omega]
 ·rw[if_neg e];unfold FS
  split
  ·rfl
  ·split
   ·rfl
   ·by_cases a:(k - 7) / 8<i
    ·rw[if_pos a,if_pos (by omega)]
    ·rw[if_neg a,if_neg (by omega)]
theorem UT (nm:Tx) (c:List Ad) (k:Nat):FS nm c (c.length+1) k=BR nm (some c) AC k:=by
 unfold FS BR
 by_cases b:k=0
 ·rw[if_pos b,if_pos b]
 ·rw[if_neg b,if_neg b]
  by_cases g:k=1
  ·subst g;rfl
  ·rw[if_neg g]
   by_cases e:k=2
   ·subst e;rfl
   ·rw[if_neg e]
    by_cases a:k<7
    ·rw[if_pos a,if_pos a];have:k - 3=0\/k - 3=1\/k - 3=2\/k - 3=3:=by omega
     rcases this with q|q|q|q<;>rw[q]<;>rfl
    ·rw[if_neg a,if_neg a];show _=if (k - 7) / 8<c.length then _ else if (k - 7) / 8=c.length then _ else _
     by_cases f:(k - 7) / 8<c.length
     ·rw[if_pos f,if_pos (by omega)]
     ·rw[if_neg f]
      by_cases d:(k - 7) / 8=c.length
      ·rw[if_pos d,if_pos (by omega),d,Xc,XU (Xd _)];rfl
      ·rw[if_neg d,if_neg (by omega)]
end
section
variable {w w':Xh} {b:Nat}
theorem adS (a:Tx):Ed a = .nilFunc\/∃f,Ed a = .func (.func f) #[] #[]:=by
 unfold Ed
 split
 ·exact .inr ⟨_,rfl⟩
 ·exact .inl rfl
def Js (x:Ad) (d:Xk):Array Xk := #[.string (bs x.op),.int .i64 x.r,.bool x.aR,.int .i64 x.aN,.bool x.bR,.int .i64 x.bN,.int .i64 x.x,d]
theorem UO (s:ByteArray):Tryz.zeroCells114.setIfInBounds 0 (.string s)=Dc 207 (λj=>if j=0 then .string s else FS [] [] 0 j):=by kernel_rfl
theorem UN (nm:Tx) (c:List Ad):(Tryz.zeroCells114.setIfInBounds 0 (.string (bs nm)))=Dc 207 (FS nm c 0):=by
 rw[UO];unfold Dc
 congr 1
structure Ot (w wr:Xh) (nm:Tx) (c:List Ad) (i:Nat):Prop where
 r:Am wr (w.heap.size+1+1) 114 207 (FS nm c i)
 b:∃g,Am wr (w.heap.size+1) 114 207 g
 low:Xm w.heap.size w wr
 sz:w.heap.size+1+1<wr.heap.size
theorem abc {base m:Nat} {cv:Xk} (nm:Tx) {c:List Ad} (Q:w.ownsRow base 108 7 cv c.length (GL c)) (hl:c.length<=24) (K:Gu w m) :
 XY Tryz.prog 40 #[.agg #[.string (bs nm),cv],.map (some m)] w λe w'=>e = .returned (.agg (Dc 207 (BR nm (some c) AC)))/\Xm w.heap.size w w':=by
 obtain⟨ca,G,aF⟩:=As Q;subst aF;obtain⟨R,H⟩:∃R,Dc 207 (BR nm (some c) AC)=R:=⟨_,rfl⟩;have ag:R.size=207:=by rw[<-H,IG]
 have X:∀x∈R.toList,x.oneCell'=true:=by rw[<-H];exact JU _ 207 (Mq _ _ _)
 have Y:(Tryz.prog.info? 114).map (·.size)=some R.size:=by rw[ag];exact Tryz.sizeTh
 obtain⟨Z,hZ⟩:∃Z,(Tryz.zeroCells114.setIfInBounds 0 (.string (bs nm)))=Z:=⟨_,rfl⟩;have ap:Z=Dc 207 (FS nm c 0):=by rw[<-hZ];exact UN nm c
 have aG:Z.size=207:=by rw[ap,IG]
 have aS:∀x∈Z.toList,x.oneCell'=true:=by
  rw[ap];refine JU _ 207 (λj=>?_);unfold FS
  split
  ·rfl
  ·split
   ·rfl
   ·split<;>exact LO _ _
 have aI:(Tryz.prog.info? 114).map (·.size)=some Z.size:=by rw[aG];exact Tryz.sizeTh
 rw[H];obtain⟨F,z⟩:∃F,(((w.alloc (.cells #[.string (bs nm),.slice ca c.length G] 122)).alloc (.cells Tryz.zeroCells114 114)).alloc (.cells Tryz.zeroCells114 114))=F:=⟨_,rfl⟩;have aw:(w.alloc (.cells #[.string (bs nm),.slice ca c.length G] 122)).heap.size=w.heap.size+1:=by show (w.heap.push _).size=_;simp
 have au:((w.alloc (.cells #[.string (bs nm),.slice ca c.length G] 122)).alloc (.cells Tryz.zeroCells114 114)).heap.size=w.heap.size+1+1:=by show ((w.heap.push _).push _).size=_;simp
 have aY:F.heap.size=w.heap.size+1+1+1:=by rw[<-z];show (((w.heap.push _).push _).push _).size=_;simp
 have b1:=Am.new (f:=λk=>Tryz.zeroCells114.getD k X7) (w.alloc (.cells #[.string (bs nm),.slice ca c.length G] 122)) Tryz.zeroCells114 114 (λk E=>by rw[Zg,YO E];rfl);have b2:=Am.new (f:=λk=>Tryz.zeroCells114.getD k X7) ((w.alloc (.cells #[.string (bs nm),.slice ca c.length G] 122)).alloc (.cells Tryz.zeroCells114 114)) Tryz.zeroCells114 114 (λk E=>by rw[Zg,YO E];rfl);replace b1:=b1.below (w':=F) (by rw[<-z];exact(Xq _ _).alloc (Xd _) _);rw[z,au,Tryz.zeroCells114_size] at b2;rw[aw,Tryz.zeroCells114_size] at b1;have aN:F.heap[w.heap.size]?=some (.cells #[.string (bs nm),.slice ca c.length G] 122):=by
  rw[<-z,Xv _ _ _ (by rw[au];omega),Xv _ _ _ (by rw[aw];omega)];exact World.alloc_heap_new w _
 have T:Xm w.heap.size w F:=by rw[<-z];exact(((Xq _ _).alloc (Xd _) _).alloc (by rw[aw];omega) _).alloc (by rw[au];omega) _
 have p:=EZ (S:=λk=>k=w.heap.size+1+1) (w:=F) (b:=w.heap.size+1+1) Z.toList 0 (Ac.refl F) (.inl rfl);obtain⟨W2,W⟩:∃W2,F.setCells (w.heap.size+1+1) 0 Z.toList=W2:=⟨_,rfl⟩;rw[W] at p;have o:∀j,j<Z.size->(F.cell? ⟨w.heap.size+1+1,0+j,none⟩).isSome=true:=λj n=>by rw[XD,b2.cell (by rw[<-aG];exact n)];rfl
 have t:∀j,j<Z.size->F.frozen? ⟨w.heap.size+1+1,0+j,none⟩=false:=λj _=>b2.frozen _;have aD:W2.heap[w.heap.size]?=some (.cells #[.string (bs nm),.slice ca c.length G] 122):=(p.block _ (by omega) (by omega)).trans aN;have c1:W2.cell? ⟨w.heap.size,1,none⟩=some (.slice ca c.length G):=by simp[World.cell?,aD]
 have hN:Ot w W2 nm c 0:=by
  refine⟨?_,⟨_,b1.keep p (by omega)⟩,⟨p.os.trans T.os,p.tape.trans T.tape,p.output.trans T.output,Xu T.size p.size,λk E=>(p.block k (by omega) (by omega)).trans (T.block k E)⟩,by have:=p.size;omega⟩;rw[<-W,ap];exact b2.fill
 have HR:=Aa (⟨H,ag,X,Y⟩:_/\_/\_/\_);have HZ:=Aa (⟨aS,aI,o,t⟩:_/\_/\_/\_);have HC:=Aa (⟨Q,K,aD,hl⟩:_/\_/\_/\_);replace hN:=Aa hN;replace z:=Aa z;replace W:=Aa W;replace hZ:=Aa hZ;clear H ag X Y ap aG aS aI Q K aw au aY b1 b2 aN T p o t aD hl
 go_enter Tryz.func40,Tryz.ntmps40
 go_wp2_with (refine Iv rfl _ _ _ rfl (w.heap.size+1+1) 0 Z rfl (by rw[<-hZ.out];rfl) (by rw[z.out];exact HZ.out.2.2.1) (by rw[z.out];exact HZ.out.2.2.2) HZ.out.2.1 HZ.out.1 ?_;rw[z.out,W.out];simp only[XG,XV,X8,X5])
 clear z HZ hZ c1
 go_loopw [14] (λiv wr=>∃i:Nat,i<=c.length/\iv = .int .i64 i/\Ot w wr nm c i/\wr.heap[w.heap.size]?=some (.cells #[.string (bs nm),.slice ca c.length G] 122)) (λiv _=>c.length - (intOf iv).toNat)
 case atStart=>exact⟨0,Xx _,rfl,hN.out,HC.out.2.2.1⟩
 case round=>
  obtain⟨i,hi,rfl,a,aq⟩:=hrel;clear hN;obtain⟨Q,K,-,hl⟩:=HC.out;have am:i<25:=by omega
  by_cases h5:i<c.length
  ·have a9:(i:Int)<25:=by omega
   obtain⟨x,hx⟩:∃x,c[i]?=some x:=⟨_,List.getElem?_eq_getElem h5⟩;obtain⟨g,cap,aF,a1,hI⟩:=acJ (EH Q a.low) hx;injection aF with hca hcl hcc
   subst hca;have ba:(i:Int)<(c.length:Int):=by omega
   obtain⟨k0,k1,p,k3,k4,k5,k6⟩:=hI;have aB:c.getD i Cm=x:=by rw[Xc,hx];rfl
   obtain⟨l,B,u,v,C,A,y⟩:=x;dsimp only at k0 k1 p k3 k4 k5 k6;obtain⟨I,hI⟩:∃I:Array Xk,#[.string (bs l),.int .i64 B,.bool u,.int .i64 v,.bool C,.int .i64 A,.int .i64 y]=I:=⟨_,rfl⟩;have J:Xm wr.heap.size wr (wr.alloc (.cells I 108)):=(Xq _ _).alloc (Xd _) _;have ak:=a.r.below J;have az:=((K.same (w':=wr) (a.low.block m K.lt)).same (w':=wr.alloc (.cells I 108)) (J.block m (by have:=K.lt;have:=a.low.size;omega))).look l;have o:∀j,j<(Gl ⟨l,B,u,v,C,A,y⟩).size->((wr.alloc (.cells I 108)).cell? ⟨w.heap.size+1+1,7+i*8+j,none⟩).isSome=true:=λj n=>by rw[ak.cell (by have n:j<8:=n;omega)];rfl
   have t:∀j,j<(Gl ⟨l,B,u,v,C,A,y⟩).size->(wr.alloc (.cells I 108)).frozen? ⟨w.heap.size+1+1,7+i*8+j,none⟩=false:=λj _=>ak.frozen _;have O:=ak.QM am aB;have h:=EZ (S:=λk=>k=w.heap.size+1+1) (w:=wr.alloc (.cells I 108)) (b:=w.heap.size+1+1) (Gl ⟨l,B,u,v,C,A,y⟩).toList (7+i*8) (Ac.refl _) (.inl rfl);have ay:XN ((i:Int)+1)=(i:Int)+1:=by unfold XN;omega
   have af:Ot w ((wr.alloc (.cells I 108)).setCells (w.heap.size+1+1) (7+i*8) (Gl ⟨l,B,u,v,C,A,y⟩).toList) nm c (i+1)/\((wr.alloc (.cells I 108)).setCells (w.heap.size+1+1) (7+i*8) (Gl ⟨l,B,u,v,C,A,y⟩).toList).heap[w.heap.size]?=some (.cells #[.string (bs nm),.slice (some ⟨g,0,none⟩) c.length G] 122):=by
    obtain⟨gg,hg⟩:=a.b;have aM:=a.sz;have hz:=J.size;refine⟨⟨O,⟨gg,(hg.below J).keep h (by omega)⟩,⟨h.os.trans (J.os.trans a.low.os),h.tape.trans (J.tape.trans a.low.tape),h.output.trans (J.output.trans a.low.output),Xu a.low.size (Xu hz h.size),λk E=>(h.block k (by omega) (by omega)).trans ((J.block k (by omega)).trans (a.low.block k E))⟩,by have:=h.size;omega⟩,?_⟩
    exact(h.block _ (by omega) (by omega)).trans ((J.block _ (by omega)).trans aq)
   have M:=Tk ⟨l,B,u,v,C,A,y⟩;have aQ:Gl ⟨l,B,u,v,C,A,y⟩=Js ⟨l,B,u,v,C,A,y⟩ (Ed l):=rfl;rw[aQ] at o t af M;have aT:=adS l;obtain⟨dv,aR⟩:∃dv,Ed l=dv:=⟨_,rfl⟩;rw[aR] at o t af M aT az;obtain⟨D,s⟩:∃D:Array Xk,#[.string (bs l),.int .i64 B,.bool u,.int .i64 v,.bool C,.int .i64 A,.int .i64 y,dv]=D:=⟨_,rfl⟩;rw[show Js ⟨l,B,u,v,C,A,y⟩ dv=D from s] at o t af M;have V:(Tryz.prog.info? 111).map (·.size)=some D.size:=by rw[<-s];exact Tryz.sizeDeed
   have d:=Aa (⟨af,h5,o,t,M,V⟩:_/\_/\_/\_/\_/\_);replace s:=Aa s;replace aB:=Aa aB;subst hI;clear a aq Q K hl hi am h5 hx J ak o t O h af a1 hcc hcl HC aQ aR M V
   rcases aT with rfl|⟨f,rfl⟩
   ·skip
    go_wp2_with (refine Iv rfl _ _ _ rfl (w.heap.size+1+1) (7+i*8) D rfl (by rw[<-s.out];rfl) d.out.2.2.1 d.out.2.2.2.1 d.out.2.2.2.2.2 d.out.2.2.2.2.1 ?_;simp only[XG,XV,X8,X5])
    go_roundw
    case rel=>
     (try rw[ay])
     exact⟨i+1,d.out.2.1,rfl,d.out.1⟩
    case measure=>
     (try rw[ay])
     exact Xl d.out.2.1 (Xo i)
   ·skip
    go_wp2_with (refine Iv rfl _ _ _ rfl (w.heap.size+1+1) (7+i*8) D rfl (by rw[<-s.out];rfl) d.out.2.2.1 d.out.2.2.2.1 d.out.2.2.2.2.2 d.out.2.2.2.2.1 ?_;simp only[XG,XV,X8,X5])
    go_roundw
    case rel=>
     (try rw[ay])
     exact⟨i+1,d.out.2.1,rfl,d.out.1⟩
    case measure=>
     (try rw[ay])
     exact Xl d.out.2.1 (Xo i)
  ·have a8:i=c.length:=by omega
   subst a8;have a9:(c.length:Int)<25:=by omega
   have az:=(K.same (w':=wr) (a.low.block m K.lt)).look En;rw[show Ed En = .func (.func 96) #[] #[] from rfl] at az;unfold En bs at az;have c1:wr.cell? ⟨w.heap.size,1,none⟩=some (.slice ca c.length G):=by simp[World.cell?,aq]
   have o:∀j,j<(Js Cm (.func (.func 96) #[] #[])).size->(wr.cell? ⟨w.heap.size+1+1,7+c.length*8+j,none⟩).isSome=true:=λj n=>by rw[a.r.cell (by have n:j<8:=n;omega)];rfl
   have t:∀j,j<(Js Cm (.func (.func 96) #[] #[])).size->wr.frozen? ⟨w.heap.size+1+1,7+c.length*8+j,none⟩=false:=λj _=>a.r.frozen _;have O:=a.r.QM am (x:=Cm) (by rw[Xc,XU (Xd _)];rfl);have M:=Tk Cm;rw[show Gl Cm=Js Cm (.func (.func 96) #[] #[]) from rfl] at O M;obtain⟨D,s⟩:∃D:Array Xk,#[.string ⟨#[101,110,100]⟩,.int .i64 0,.bool false,.int .i64 0,.bool false,.int .i64 0,.int .i64 0,.func (.func 96) #[] #[]]=D:=⟨_,rfl⟩;rw[show Js Cm (.func (.func 96) #[] #[])=D from s] at o t O M;have V:(Tryz.prog.info? 111).map (·.size)=some D.size:=by rw[<-s];exact Tryz.sizeDeed
   have h:=EZ (S:=λk=>k=w.heap.size+1+1) (w:=wr) (b:=w.heap.size+1+1) D.toList (7+c.length*8) (Ac.refl _) (.inl rfl);obtain⟨N,ax⟩:∃N,wr.setCells (w.heap.size+1+1) (7+c.length*8) D.toList=N:=⟨_,rfl⟩;rw[ax] at O h;have aU:Am N (w.heap.size+1+1) 114 207 (BR nm (some c) AC):=O.congr λk _=>UT nm c k;obtain⟨gg,hg⟩:=a.b;have aM:=a.sz;have U:=hg.keep h (by omega);obtain⟨H,ag,X,Y⟩:=HR.out;have p1:∀j,j<207->N.cell? ⟨w.heap.size+1+1,0+j,none⟩=some (BR nm (some c) AC j):=λj n=>by rw[XD];exact aU.cell n
   have p2:∀j,j<R.size->(N.cell? ⟨w.heap.size+1,0+j,none⟩).isSome=true:=λj n=>by rw[XD,U.cell (by rw[<-ag];exact n)];rfl
   have p3:∀j,j<R.size->N.frozen? ⟨w.heap.size+1,0+j,none⟩=false:=λj _=>U.frozen _;have ar:Xm w.heap.size w N:=⟨h.os.trans a.low.os,h.tape.trans a.low.tape,h.output.trans a.low.output,Xu a.low.size h.size,λk E=>(h.block k (by omega) (by omega)).trans (a.low.block k E)⟩;have d:=Aa (⟨o,t,M,p1,p2,p3⟩:_/\_/\_/\_/\_/\_);have HM:=Aa (⟨U,ar⟩:_/\_);replace ax:=Aa ax;replace s:=Aa s;replace V:=Aa V;replace H:=Aa H;replace Y:=Aa Y;replace X:=Aa X;clear a aq Q K hl hi am h5 o t O M h aU hg aM U p1 p2 p3 ar HC HR W
   go_wp2_with (first|(refine Iv rfl _ _ _ rfl (w.heap.size+1+1) (7+c.length*8) D rfl (by rw[<-s.out];rfl) d.out.1 d.out.2.1 V.out d.out.2.2.1 ?_;rw[ax.out];simp only[XG,XV,X8,X5])|(refine Mn rfl _ _ rfl (w.heap.size+1+1) 0 207 rfl (BR nm (some c) AC) _ d.out.2.2.2.1 Tryz.underlying114 rfl Tryz.sizeTh ?_;rw[show ((YB 207).map (BR nm (some c) AC)).toArray=R from H.out];simp only[XG,XV,X8,X5])|(refine Iv rfl _ _ _ rfl (w.heap.size+1) 0 R rfl rfl d.out.2.2.2.2.1 d.out.2.2.2.2.2 Y.out X.out ?_;simp only[XG,XV,X8,X5]))
   obtain⟨U,ar⟩:=HM.out;have q:=EZ (S:=λ_=>False) (w:=w) (b:=w.heap.size+1) R.toList 0 (Ac.DM ar) (.inr (by omega));have hF:Am (N.setCells (w.heap.size+1) 0 R.toList) (w.heap.size+1) 114 207 (BR nm (some c) AC):=by rw[<-H.out];exact U.fill
   have hL:=JN (P:=Tryz.prog) (N.setCells (w.heap.size+1) 0 R.toList) (w.heap.size+1) 0 207 114 _ _ (λj n=>by rw[XD];exact hF.cell n) Tryz.underlying114 rfl Tryz.sizeTh;rw[show ((YB 207).map (BR nm (some c) AC)).toArray=R from H.out] at hL;exact XI (Qo rfl rfl hL) rfl ⟨rfl,⟨q.os,q.tape,q.output,q.size,λk E=>q.block k E id⟩⟩
end
section
variable {w w':Xh} {b:Nat} {p:PD}
theorem abA (a:Nat->Xk) (n:Int):Tryz.prog.built 117 [(0,.agg #[a 0,a 1,a 2,a 3,a 4,a 5,a 6,a 7,a 8]),(1,.agg #[a 9,a 10,a 11,a 12,a 13,a 14,a 15,a 16,a 17]),(2,.agg #[a 18,a 19,a 20,a 21,a 22,a 23,a 24,a 25,a 26]),(4,.int .i64 n)]=some (Dc 856 (λk=>if k<27 then a k else if k=855 then .int .i64 n else BR [] none AC ((k - 27) % 207))):=by kernel_rfl
def Eu (p:PD):MS:=⟨Xr p.vs.length 0,Xr p.fs.length 0,Xr p.ls.length (-1),Xr p.ts.length AC⟩
theorem Ju (p:PD) (t:Nat):(Eu p).th t=AC:=by
 unfold MS.th Eu;rw[Xc,ZG]
 split<;>rfl
theorem Rz {s s':MS} (a:s'.vars=s.vars) (c:s'.flags=s.flags) (b:s'.locks=s.locks) (d:∀t,s'.th t=s.th t) (k:Nat):Az p s' k=Az p s k:=by
 unfold Az;rw[a,c,b,d]
theorem aeG (p:PD) (k:Nat) (h:0<p.ts.length):Az p ((Eu p).Ae 0 {(Eu p).th 0 with ph:=1}) k=Az p (AJ p.vs.length p.fs.length p.ls.length p.ts.length) k:=by
 refine Rz (s:=AJ p.vs.length p.fs.length p.ls.length p.ts.length) (s':=(Eu p).Ae 0 {(Eu p).th 0 with ph:=1}) rfl rfl rfl (λt=>?_) k;have b:0<(Eu p).thr.length:=by unfold Eu;simpa using h
 rw[Fr _ 0 t _ b,Ju,Ju];unfold MS.th AJ;dsimp only;rw[Xc,Xs]
 by_cases a:t<p.ts.length
 ·rw[Zo a];rfl
 ·rw[XU (by simpa using a)];show _=AC;rw[if_neg (by omega)]
theorem aeF (p:PD) (k:Nat) (h:p.ts.length=0):Az p (Eu p) k=Az p (AJ p.vs.length p.fs.length p.ls.length p.ts.length) k:=by
 refine Rz (s:=AJ p.vs.length p.fs.length p.ls.length p.ts.length) (s':=Eu p) rfl rfl rfl (λt=>?_) k;rw[Ju];unfold MS.th AJ;rw[h];rfl
def Ff (p:PD) (i k:Nat):Xk:=if k<27 then Az p (Eu p) k else if k=855 then .int .i64 p.ts.length else if (k - 27) / 207<i then Az p (Eu p) k else BR [] none AC ((k - 27) % 207)
theorem abt (p:PD) (d:p.C.length=p.ts.length) (k:Nat) (e:k<856):Ff p p.ts.length k=Az p (Eu p) k:=by
 unfold Ff
 by_cases b:k<27
 ·rw[if_pos b]
 ·rw[if_neg b]
  by_cases a:k=855
  ·rw[if_pos a,a,Ry]
  ·rw[if_neg a]
   by_cases c:(k - 27) / 207<p.ts.length
   ·rw[if_pos c]
   ·rw[if_neg c];unfold Az;rw[if_neg (by omega),if_neg (by omega),if_neg b];rw[if_pos (by omega),Ju,Xc,XU (by omega),XU (by omega)];rfl
theorem abs (p:PD):(λk=>if k<27 then(λk=>if k<9 then BK p.vs (Xr p.vs.length 0) k else if k<18 then BK p.fs (Xr p.fs.length 0) (k - 9) else BK p.ls (Xr p.ls.length (-1)) (k - 18)) k else if k=855 then .int .i64 p.ts.length else BR [] none AC ((k - 27) % 207))=Ff p 0:=by
 funext k
 unfold Ff;dsimp only
 by_cases b:k<27
 ·rw[if_pos b,if_pos b];unfold Az
  by_cases a:k<9
  ·rw[if_pos a,if_pos a];rfl
  ·rw[if_neg a,if_neg a]
   by_cases c:k<18
   ·rw[if_pos c,if_pos c];rfl
   ·rw[if_neg c,if_neg c,if_pos b];rfl
 ·rw[if_neg b,if_neg b]
  by_cases a:k=855
  ·rw[if_pos a,if_pos a]
  ·rw[if_neg a,if_neg a,if_neg (by omega)]
theorem Am.aat {i T:Nat} (h:Am w b T 856 (Ff p i)) (c:i<4):Am (w.setCells b (27+i*207) (Dc 207 (BR (p.ts.getD i []) (p.C[i]?) AC)).toList) b T 856 (Ff p (i+1)):=by
 refine(ME _ (27+i*207) h (by simp[Dc];omega)).congr λk d=>?_;rw[show (Dc 207 (BR (p.ts.getD i []) (p.C[i]?) AC)).toList.length=207 by simp[Dc]]
 by_cases e:27+i*207<=k/\k<27+i*207+207
 ·rw[if_pos e];unfold Ff;rw[if_neg (by omega),if_neg (by omega),if_pos (by omega)];have q:=Fy p (Eu p) c (j:=k - (27+i*207)) (by omega);rw[show 27+i*207+(k - (27+i*207))=k by omega,Ju] at q;rw[q];simp only[Dc,Xc,Xs];rw[Zo (by omega)];rfl
 ·rw[if_neg e];unfold Ff
  split
  ·rfl
  ·split
   ·rfl
   ·by_cases a:(k - 27) / 207<i
    ·rw[if_pos a,if_pos (by omega)]
    ·rw[if_neg a,if_neg (by omega)]
theorem Fp {P:Zk} {o:Oper} {a:Act} {w:Xh} {K:Act->Xh->Prop} {Q:Exit->Act->Xh->Prop} (d:YH) (x y:Operand) (k:o.op = .store d x y)
 (b c:Nat) (vs:Array Xk) (l:a.eval x = .pointer (some ⟨b,c,none⟩)) (f:a.eval y = .agg vs) (g:∀j,j<vs.size->(w.cell? ⟨b,c+j,none⟩).isSome=true) (e:∀j,j<vs.size->w.frozen? ⟨b,c+j,none⟩=false) (i:(P.info? d).map (·.size)=some vs.size) (m:∀v∈vs.toList,v.oneCell'=true)
 (h:K (a.put o.dst X7) (w.setCells b c vs.toList)):o.wp P a w K Q:=by
 unfold Oper.wp execOp;simp only[k,l,f,Instr.storeAt,Instr.sureAddr,Sem.run_bind,Sem.run_pure,Result.andThen_ok,Qj w b c d vs g e i m];exact h
theorem JC {P:Zk} {o:Oper} {a:Act} {w:Xh} {K:Act->Xh->Prop} {Q:Exit->Act->Xh->Prop} (t:YH) (b:Array (Nat×Operand)) (f:o.op = .build t b) (l:List (Nat×Xk)) (d:(b.toList.map λq=>(q.1,a.eval q.2))=l) (cells:Array Xk) (c:P.built t l=some cells)
 (h:K (a.put o.dst (.agg cells)) w):o.wp P a w K Q:=by
 have e:(b.map fun(i,x)=>(i,a.eval x)).toList=l:=by rw[Array.toList_map];exact d
 refine wp_build t b f (by rw[e,c];rfl) ?_;rw[e,c];exact h
theorem Uu {P:Zk} {o:Oper} {a:Act} {w:Xh} {K:Act->Xh->Prop} {Q:Exit->Act->Xh->Prop} (t:YH) (x:Operand) (b:o.op = .box t x) (cells:Array Xk) (c:a.eval x = .agg cells)
 (h:K (a.put o.dst (.pointer (some ⟨w.heap.size,0,none⟩))) (w.alloc (.cells cells t))):o.wp P a w K Q:=by
 unfold Oper.wp execOp;simp only[b,c,Sem.run_bind,Instr.box,newVar,newRow,run_newObj_alloc,Sem.run_pure,Result.andThen_ok];exact h
end
end Go.Proofs.YtdcacoifehkioaaGreatDoor
