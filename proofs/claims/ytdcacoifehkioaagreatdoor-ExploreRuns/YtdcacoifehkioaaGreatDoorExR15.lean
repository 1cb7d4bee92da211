import Derived.Test.YtdcacoifehkioaaGreatDoorExR14
import Derived.Test.YtdcacoifehkioaaGreatDoorExR13
import Derived.Test.YtdcacoifehkioaaGreatDoorExR2
import Derived.Test.YtdcacoifehkioaaGreatDoorExR5
import Derived.Test.YtdcacoifehkioaaGreatDoorExR9
open List renaming range->Yt,length_append->Xd,getD_eq_getElem?_getD->Xb,getElem?_eq_none->XO,length_cons->Xw,length_nil->XU,replicate->XJ,size_toArray->Ym,setIfInBounds_toArray->XK,set_cons_succ->X5,set_cons_zero->X6,getElem?_map->Xp,getElem?_range->ac4
open Go.RowKit renaming wrap64->Ya,Below->Xn
open Go.Lib renaming itoa->Yy
open Go renaming World->Xg,Calls->X3,Value->Xj,Program->Y4,bodyPost_ret->XN,undef->X1,TypeId->YD
open Go.RowKit.Below renaming refl->Xo,heap_alloc->Xq
open Nat renaming le_refl->Xf,zero_le->XD,le_trans->Xu,sub_lt_sub_left->Xs,lt_succ_self->Xt,zero_add->X8
open Go.Act renaming put->X7
open Array renaming getD_eq_getD_getElem?->Y0,getElem?_eq_getElem->YS
set_option maxRecDepth 100000
set_option maxHeartbeats 2000000
set_option linter.unusedVariables false
set_option linter.unusedSimpArgs false
namespace Go.Proofs.YtdcacoifehkioaaGreatDoor
open Go.RowKit Go.Shelf Go.Proofs.Cod
def Dk (p:PD) (s:MS) (i:Nat):Tx:=(Yt i).flatMap λt=>Du (p.ts.getD t []) (s.th t)
theorem JD (p:PD) (s:MS) (i:Nat):Dk p s (i+1)=Dk p s i++Du (p.ts.getD i []) (s.th i):=by
 unfold Dk;rw[List.range_succ,List.flatMap_append]
 simp
theorem WB {a c:Tx} {i:Nat} (d:a.length<=1000) (f:c.length<=i*200) (b:i<=4):(a++c).length<=200000:=by
 have e:(a++c).length=a.length+c.length:=Xd;have:i*200<=800:=Nat.mul_le_mul_right 200 b
 omega
theorem PY {a c:Tx} {i:Nat} (b:a.length<=i*200) (d:c.length<=200):(a++c).length<=(i+1)*200:=by
 have e:(a++c).length=a.length+c.length:=Xd
 omega
theorem Sx {i:Nat} (h:i<=4):Ya ((i:Int)+1)=(i:Int)+1:=by unfold Ya;omega
theorem KZ (p:PD) (s:MS):Dk p s 0=[]:=rfl
def Aj (p:PD) (s:MS):Tx:=BY Yy p.vs s.vars p.vs.length++BY Yy p.fs s.flags p.fs.length++BY (Do p.ts) p.ls s.locks p.ls.length++Dk p s p.ts.length
structure DK (p:PD):Prop where
 v:∀k,(p.vs.getD k []).length<=8
 f:∀k,(p.fs.getD k []).length<=8
 l:∀k,(p.ls.getD k []).length<=8
 t:∀k,(p.ts.getD k []).length<=8
section
variable {w w':Xg} {b B0:Nat} {p:PD} {s:MS}
theorem DY {l:List Int} (h:∀v,v∈l->CZ v) (k:Nat):0<=l.getD k 0/\l.getD k 0<1000:=by
 by_cases e:k<l.length
 ·exact h _ (CF e)
 ·rw[Xb,XO (by omega)]
  exact⟨by decide,by decide⟩
theorem Wr {l:List Int} {n:Nat} (h:∀v,v∈l->-1<=v/\v<n) (a:n<=4) (k:Nat) : -1<=l.getD k 0/\l.getD k 0<4:=by
 by_cases e:k<l.length
 ·have:=h _ (CF (d:=0) e);omega
 ·rw[Xb,XO (by omega)]
  exact⟨by decide,by decide⟩
theorem Mn (a:∀k,(p.ts.getD k []).length<=8) (n:Int):(Do p.ts n).length<=21:=by
 unfold Do
 split
 ·decide
 ·have:=a n.toNat;omega
theorem ND (e:∀k,(p.ts.getD k []).length<=8) {n:Nat} {t:Nat} (b:FJ n (s.th t)) (f:n<=24):(Du (p.ts.getD t []) (s.th t)).length<=200:=by
 have a:=e t;have c:=OX (s.th t) (by have:=b.pc2;omega);have d:=OH _ (Ii b) 4;unfold Du;simp only[Xd,Xw,XU]
 split
 ·simp only[XU];omega
 ·omega
theorem Lh (h:AD w b p s) (d:BL p) (F:Bt p s) (g:DK p) (ht:Cn w B0) (aE:B0<=w.heap.size) :
 X3 Tryz.prog 43 #[Ab b] w λe w'=>e = .returned (.string (bs (Aj p s)))/\Xn w.heap.size w w':=by
 have K:=h.lt;obtain⟨M,U⟩:∃M,w.alloc (.cells #[.pointer none,.slice none 0 0] 188)=M:=⟨_,rfl⟩;have ag:Xn w.heap.size w M:=by rw[<-U];exact(Xo _ _).alloc (Xf _) _
 have az:BW M w.heap.size w.heap.size []:=by rw[<-U];exact BW.fresh w
 have z:=fun(w':Xg) (a:Xn w.heap.size w w')=>(h.same (a.block b K):AD w' b p s)
 have R:=fun(w':Xg) (a:Xn w.heap.size w w')=>(ht.keep (a.mono aE))
 have j:∀k,0<=s.vars.getD k 0/\s.vars.getD k 0<1000:=DY F.vv;have y:∀k,0<=s.flags.getD k 0/\s.flags.getD k 0<1000:=DY F.fv;have il:∀k,-1<=s.locks.getD k 0/\s.locks.getD k 0<4:=Wr F.lv d.fit.four;have L1:=GH Yy p.vs s.vars p.vs.length g.v (λk=>EH (j k).1 (j k).2);have L2:=GH Yy p.fs s.flags p.fs.length g.f (λk=>EH (y k).1 (y k).2);have L3:=GH (Do p.ts) p.ls s.locks p.ls.length g.l (λk=>Mn g.t _);have b1:=d.v;have b2:=d.f;have b3:=d.l;have b4:p.ts.length<=4:=by rw[d.tc];exact d.fit.four
 obtain⟨A,S⟩:∃A,BY Yy p.vs s.vars p.vs.length=A:=⟨_,rfl⟩;obtain⟨E,ac⟩:∃E,BY Yy p.fs s.flags p.fs.length=E:=⟨_,rfl⟩;obtain⟨P,Y⟩:∃P,BY (Do p.ts) p.ls s.locks p.ls.length=P:=⟨_,rfl⟩;have Z:∀(w':Xg) (out:Tx),Xn w.heap.size w w'->BW w' w.heap.size w.heap.size out->out.length<=100000->X3 Tryz.prog 99 #[Ab w.heap.size,.pointer (some ⟨b,0,none⟩),.func (.func 72) #[] #[]] w' λe m=>e = .returned (.tuple #[])/\BW m w.heap.size w.heap.size (out++A)/\Xn w.heap.size w' m:=λw' out a r c=>by
  rw[<-S];exact NY (o:=0) (T:=Yy) (z w' a) K r a.size (.inl rfl) b1 g.v c (λk=>EH (j k).1 (j k).2) (λn O i _=>Ki _ (by have:=(j i).1;show -9223372036854775808<=s.vars.getD i 0;omega) (by have:=(j i).2;show s.vars.getD i 0<=9223372036854775807;omega) n (R n (a.trans O)))
 have X:∀(w':Xg) (out:Tx),Xn w.heap.size w w'->BW w' w.heap.size w.heap.size out->out.length<=100000->X3 Tryz.prog 99 #[Ab w.heap.size,.pointer (some ⟨b,9,none⟩),.func (.func 72) #[] #[]] w' λe m=>e = .returned (.tuple #[])/\BW m w.heap.size w.heap.size (out++E)/\Xn w.heap.size w' m:=λw' out a r c=>by
  rw[<-ac];exact NY (o:=9) (T:=Yy) (z w' a) K r a.size (.inr (.inl rfl)) b2 g.f c (λk=>EH (y k).1 (y k).2) (λn O i _=>Ki _ (by have:=(y i).1;show -9223372036854775808<=s.flags.getD i 0;omega) (by have:=(y i).2;show s.flags.getD i 0<=9223372036854775807;omega) n (R n (a.trans O)))
 have W:∀(w':Xg) (out:Tx),Xn w.heap.size w w'->BW w' w.heap.size w.heap.size out->out.length<=100000->X3 Tryz.prog 99 #[Ab w.heap.size,.pointer (some ⟨b,18,none⟩),.func (.func 100) #[Ab b] #[]] w' λe m=>e = .returned (.tuple #[])/\BW m w.heap.size w.heap.size (out++P)/\Xn w.heap.size w' m:=λw' out a r c=>by
  rw[<-Y];exact TM (o:=18) (T:=Do p.ts) (z w' a) K r a.size (.inr (.inr rfl)) b3 g.l c (λk=>Mn g.t _) (λn O i _=>(aaA (z n (a.trans O)) (s.locks.getD i 0) (il i).1 (il i).2).mono (λe w3 q=>⟨q.1,by rw[q.2];exact Xo _ _⟩))
 have G:∀(w':Xg) (out:Tx) (t:Nat),t<p.ts.length->Xn w.heap.size w w'->BW w' w.heap.size w.heap.size out->out.length<=200000->X3 Tryz.prog 101 #[Ab w.heap.size,.pointer (some ⟨b,27+t*207,none⟩)] w' λe m=>e = .returned (.tuple #[])/\BW m w.heap.size w.heap.size (out++Du (p.ts.getD t []) (s.th t))/\Xn w.heap.size w' m:=λw' out t N a r c=>
  TL (z w' a) K r a.size (by omega) (R w' a) aE (F.th t (by rw[<-d.tc];exact N)) (d.fit.code _ (CF (by rw[<-d.tc];exact N))).1 (g.t t) c
 have Q:∀t,t<p.ts.length->(Du (p.ts.getD t []) (s.th t)).length<=200:=λt N=>ND g.t (F.th t (by rw[<-d.tc];exact N)) (d.fit.code _ (CF (by rw[<-d.tc];exact N))).1;have ab:=fun(w':Xg) (a:Xn w.heap.size w w')=>JZ (z w' a);have ax:Aj p s=A++E++P++Dk p s p.ts.length:=by unfold Aj;rw[S,ac,Y]
 rw[ax];rw[S] at L1;rw[ac] at L2;rw[Y] at L3;have ad:=Z M [] ag az (XD _);rw[List.nil_append] at ad;replace Z:=Aa Z;replace X:=Aa X;replace W:=Aa W;replace G:=Aa G;replace Q:=Aa Q;replace ab:=Aa ab;have aG:=Aa ag;clear h d F g ht az z R j y il S ac Y ax ag Z;unfold Ab at ad |-
 go_enter Tryz.func43,Tryz.ntmps43
 go_wp2_with fail
 try rw[U]
 refine ad.mono ?_;rintro e n ⟨rfl,aD,aC⟩;have an:=aG.out.trans aC;have ap:=X.out n A an aD (by omega);have au:=Aa an;clear ad aD aC an aG X U;unfold Ab at ap
 go_wp2_with fail
 refine ap.mono ?_;rintro e w3 ⟨rfl,aw,av⟩;have ao:=au.out.trans av;have aj:=W.out w3 (A++E) ao aw (by rw[Xd];omega);have aF:=Aa ao;clear ap aw av ao au W;unfold Ab at aj
 go_wp2_with fail
 refine aj.mono ?_;rintro e w4 ⟨rfl,am,aI⟩;have ak:=aF.out.trans aI;have c8:=ab.out w4 ak;obtain⟨C,H⟩:∃C,A++E++P=C:=⟨_,rfl⟩;have aP:C.length<=1000:=by rw[<-H,Xd,Xd];omega
 rw[H] at am;have H4:=Aa (⟨am,ak⟩:_/\_);replace H:=Aa H;clear aj am aI ak aF ab L1 L2 L3
 go_wp2_with fail
 go_loopw [23] (λj wr=>∃i:Nat,i<=p.ts.length/\j = .int .i64 i/\BW wr w.heap.size w.heap.size (C++Dk p s i)/\(Dk p s i).length<=i*200/\Xn w.heap.size w wr) (λj _=>p.ts.length - (intOf j).toNat)
 case atStart=>exact⟨0,XD _,rfl,(by rw[KZ,List.append_nil];exact H4.out.1),(by rw[KZ];exact XD _),H4.out.2⟩
 case round=>
  clear H4;obtain⟨i,V,rfl,hS,c,D⟩:=hrel
  by_cases u:i<p.ts.length
  ·have aT:(i:Int)<4:=by omega
   have aU:(i:Int)<(p.ts.length:Int):=by omega
   have aJ:(C++Dk p s i).length<=200000:=WB aP c (Xu V b4);have x:=G.out wr (C++Dk p s i) i u D hS aJ;clear aJ;have J:=JD p s i;have af:=Q.out i u;have aq:=Sx (Xu V b4);have B:=Aa (⟨D,u,c,J,af⟩:_/\_/\_/\_/\_);clear hS D u c V J af Q G;unfold Ab at x
   go_wp2_with fail
   refine x.mono ?_;rintro e w5 ⟨rfl,aH,I⟩;have HN:=Aa (⟨aH,B.out.1.trans I⟩:_/\_);clear x aH I
   go_wp2_with fail
   go_roundw
   case rel=>
    (try rw[aq])
    obtain⟨-,u,c,J,af⟩:=B.out;refine⟨i+1,u,rfl,?_,?_,HN.out.2⟩
    ·rw[J,<-List.append_assoc];exact HN.out.1
    ·rw[J];exact PY c af
   case measure=>
    (try rw[aq])
    exact Xs B.out.2.1 (Xt i)
  ·have aR:i=p.ts.length:=by omega
   subst aR;have x:=acu hS D.size;have B:=Aa D;clear hS D c V u G Q;unfold Ab at x
   go_wp2_with fail
   refine x.mono ?_;rintro e w5 ⟨rfl,I⟩;have HN:=Aa (B.out.trans I);clear x I B
   go_wp2_with fail
   go_ret
   exact⟨by rw[H.out];rfl,HN.out⟩
end
end Go.Proofs.YtdcacoifehkioaaGreatDoor
namespace Go.Proofs.YtdcacoifehkioaaGreatDoor
open Go.RowKit Go.Proofs.Cod
section
variable {w w':Xg} {b:Nat} {p:PD} {s:MS}
theorem Tryz.sizeMc:(Tryz.prog.info? 117).map (·.size)=some 856:=by kernel_rfl
theorem aaq (i:Ac) (j:Nat):(Kk i j).oneCell'=true:=by
 unfold Kk
 repeat' split
 all_goals rfl
theorem Rj (a:Tx):(Di a).oneCell'=true:=by unfold Di;split<;>rfl
theorem Kr (i:Ac) (j:Nat):(Fe i j).oneCell'=true:=by
 unfold Fe
 split
 ·exact aaq i j
 ·exact Rj i.op
theorem La (nm:Tx) (c:Option (List Ac)) (th:TS) (j:Nat):(Bv nm c th j).oneCell'=true:=by
 unfold Bv
 split
 ·rfl
 ·split
  ·rfl
  ·split
   ·rfl
   ·split
    ·rfl
    ·unfold Rk
     split
     ·exact Kr _ _
     ·split
      ·exact Kr _ _
      ·split<;>exact Kr _ _
theorem Kw (a:List Tx) (l:List Int) (k:Nat):(Br a l k).oneCell'=true:=by
 unfold Br
 split
 ·rfl
 ·split<;>rfl
theorem Wg (p:PD) (s:MS) (k:Nat):(Au p s k).oneCell'=true:=by
 unfold Au
 split
 ·exact Kw _ _ _
 ·split
  ·exact Kw _ _ _
  ·split
   ·exact Kw _ _ _
   ·split
    ·exact La _ _ _ _
    ·rfl
theorem IU (f:Nat->Xj) (n:Nat) (b:∀k,(f k).oneCell'=true):∀v∈(((Yt n).map f).toArray).toList,v.oneCell'=true:=by
 intro v a;simp only[List.mem_map] at a;obtain⟨k,-,rfl⟩:=a;exact b k
theorem Ak.fill {T n:Nat} {g f:Nat->Xj} (h:Ak w b T n g):Ak (w.setCells b 0 (((Yt n).map f).toArray).toList) b T n f:=by
 refine(Ln _ 0 h (by simp)).congr λk a=>?_;rw[if_pos (by simp;exact a)];simp[Xb,a]
end
section
variable {w w':Xg} {b:Nat}
theorem Tryz.sizeCs:(Tryz.prog.info? 101).map (·.size)=some 9:=by kernel_rfl
def Cq (n:Nat) (f:Nat->Xj):Array Xj:=((Yt n).map f).toArray
theorem Hj (n:Nat) (f:Nat->Xj):(Cq n f).size=n:=by simp[Cq]
def Gl (ns:List Tx) (v:Int) (i k:Nat):Xj:=if k=8 then .int .i64 ns.length else if k % 2=0 then .string (bs ((ns.take i).getD (k / 2) [])) else .int .i64 ((XJ i v).getD (k / 2) 0)
theorem ab6 (a:List Tx) (v:Int) (k:Nat):Gl a v a.length k=Br a (XJ a.length v) k:=by unfold Gl Br;rw[List.take_length]
theorem NF {α:Type} (l:List α) (i k:Nat) (d:α):(l.take i).getD k d=if k<i then l.getD k d else d:=by
 rw[Xb,List.getElem?_take]
 split
 ·rw[Xb]
 ·rfl
theorem OE (i k:Nat) (v d:Int):(XJ i v).getD k d=if k<i then v else d:=by
 rw[Xb,List.getElem?_replicate]
 split<;>rfl
theorem Ak.UY {c:List Tx} {v:Int} {i:Nat} {T:Nat} (h:Ak w b T 9 (Gl c v i)) (j:i<4) (l:i<c.length):Ak ((w.setCell ⟨b,i*2,none⟩ (.string (bs (c.getD i [])))).setCell ⟨b,i*2+1,none⟩ (.int .i64 v)) b T 9 (Gl c v (i+1)):=by
 refine((h.set _ _).set _ _).congr λk m=>?_;unfold Gl;rw[NF,NF,OE,OE]
 by_cases f:k=i*2+1
 ·subst f;rw[if_pos rfl,if_neg (by omega),if_neg (by omega),if_pos (by omega)]
 ·rw[if_neg f]
  by_cases g:k=i*2
  ·subst g;rw[if_pos rfl,if_neg (by omega),if_pos (by omega),if_pos (by omega),show i*2 / 2=i by omega]
  ·rw[if_neg g]
   by_cases d:k=8
   ·rw[if_pos d,if_pos d]
   ·rw[if_neg d,if_neg d]
    by_cases e:k % 2=0
    ·rw[if_pos e,if_pos e]
     by_cases a:k / 2<i
     ·rw[if_pos a,if_pos (by omega)]
     ·rw[if_neg a,if_neg (by omega)]
    ·rw[if_neg e,if_neg e]
     by_cases a:k / 2<i
     ·rw[if_pos a,if_pos (by omega)]
     ·rw[if_neg a,if_neg (by omega)]
theorem Oq {P:Y4} {fn:Func} {tmps:Array Xj} {T k:Nat} {v:Xj} (a:fn.results = #[.cell k T]) (c:tmps[k]?=some (.pointer (some ⟨b,0,none⟩))) (d:(loadVar T ⟨b,0,none⟩).run P w = .ok v w):(results fn tmps).run P w = .ok v w:=by
 simp[results,a,c,asAddr,d]
theorem Ak.VP {f:Nat->Xj} (w:Xg) (o:Obj) (cs:Array Xj) (T:Nat) (a:∀k,k<cs.size->cs[k]?=some (f k)):Ak ((w.alloc o).alloc (.cells cs T)) (w.heap.size+1) T cs.size f:=by
 have q:=Ak.new (f:=f) (w.alloc o) cs T a;have e:(w.alloc o).heap.size=w.heap.size+1:=by show (w.heap.push _).size=_;simp
 rw[e] at q;exact q
theorem LK {a:Option Addr} {n cap:Nat} {c:List Tx} (Y:c.length=n) (C:Ws w a c) (h4:n<=4) (v:Int) :
 X3 Tryz.prog 38 #[.slice a n cap,.int .i64 v] w λe w'=>e = .returned (.agg (Cq 9 (Br c (XJ n v))))/\Xn w.heap.size w w':=by
 subst Y;have z:(Tryz.prog.info? 101).map (·.size)=some (Cq 9 (Br c (XJ c.length v))).size:=by rw[Hj];exact Tryz.sizeCs
 obtain⟨R,m⟩:∃R,Cq 9 (Br c (XJ c.length v))=R:=⟨_,rfl⟩;rw[m] at z |-;have B:∀x∈R.toList,x.oneCell'=true:=by rw[<-m];exact IU _ 9 (Kw _ _)
 have A:R.size=9:=by rw[<-m,Hj]
 replace z:=Aa z;replace m:=Aa m;replace B:=Aa B;replace A:=Aa A
 go_enter Tryz.func38,Tryz.ntmps38
 go_wp2_with fail
 go_loopw [13] (λE wr=>∃i:Nat,i<=c.length/\E = .int .i64 i/\Ak wr (w.heap.size+1) 101 9 (Gl c v i)/\(∃g,Ak wr w.heap.size 101 9 g)/\Xn w.heap.size w wr) (λE _=>c.length - (intOf E).toNat)
 case atStart=>
  refine⟨0,XD _,rfl,?_,?_,?_⟩
  ·have q:=Ak.VP (f:=Gl c v 0) w (.cells #[.string ⟨#[]⟩,.int .i64 0,.string ⟨#[]⟩,.int .i64 0,.string ⟨#[]⟩,.int .i64 0,.string ⟨#[]⟩,.int .i64 0,.int .i64 0] 101) #[.string ⟨#[]⟩,.int .i64 0,.string ⟨#[]⟩,.int .i64 0,.string ⟨#[]⟩,.int .i64 0,.string ⟨#[]⟩,.int .i64 0,.int .i64 c.length] 101 (λk t=>by
    have:k=0\/k=1\/k=2\/k=3\/k=4\/k=5\/k=6\/k=7\/k=8:=by simp only[Ym,Xw,XU] at t;omega
    rcases this with rfl|rfl|rfl|rfl|rfl|rfl|rfl|rfl|rfl<;>rfl)
   exact q
  ·refine⟨λk=>if k=8 then .int .i64 0 else if k % 2=0 then .string ⟨#[]⟩ else .int .i64 0,?_⟩;have q:=Ak.new (f:=λk=>if k=8 then .int .i64 0 else if k % 2=0 then .string ⟨#[]⟩ else .int .i64 0) w #[.string ⟨#[]⟩,.int .i64 0,.string ⟨#[]⟩,.int .i64 0,.string ⟨#[]⟩,.int .i64 0,.string ⟨#[]⟩,.int .i64 0,.int .i64 0] 101 (λk t=>by
    have:k=0\/k=1\/k=2\/k=3\/k=4\/k=5\/k=6\/k=7\/k=8:=by simp only[Ym,Xw,XU] at t;omega
    rcases this with rfl|rfl|rfl|rfl|rfl|rfl|rfl|rfl|rfl<;>rfl)
   exact q.below ((Xo _ _).alloc (Xf _) _)
  ·exact((Xo _ _).alloc (Xf _) _).alloc (by simp) _
 case round=>
  obtain⟨i,O,rfl,l,d,h⟩:=hrel
  by_cases o:i<c.length
  ·have U:i<4:=by omega
   have ae:(i:Int)<4:=by omega
   obtain⟨b,N,rfl,W,D⟩:=C i o;have D:wr.cell? ⟨b,N+i,none⟩=_:=(h.cell (p:=⟨b,N+i,none⟩) W).trans D;have ag:(i:Int)<(c.length:Int):=by omega
   have V:=l.cell (k:=i*2) (by omega);have c2:=l.cell (k:=i*2+1) (by omega);have f1:=l.frozen;obtain⟨y1,Q⟩:∃y,Gl c v i (i*2)=y:=⟨_,rfl⟩;obtain⟨y2,T⟩:∃y,Gl c v i (i*2+1)=y:=⟨_,rfl⟩;rw[Q] at V;rw[T] at c2;have r:=l.UY U o;obtain⟨nm,M⟩:∃nm,c.getD i []=nm:=⟨_,rfl⟩;rw[M] at r D;have u:=Aa (⟨r,l,d,h,o⟩:_/\_/\_/\_/\_);have J:Ya ((i:Int)+1)=(i:Int)+1:=by unfold Ya;omega
   clear l d h Q T o O C r M
   go_wp2_with fail
   go_roundw
   case rel=>
    (try rw[J])
    obtain⟨r,l,⟨g,d⟩,h,o⟩:=u.out;refine⟨i+1,o,rfl,r,⟨g,(d.other (by show w.heap.size≠w.heap.size+1;omega) _).other (by show w.heap.size≠w.heap.size+1;omega) _⟩,?_⟩
    exact(h.setCell (by show w.heap.size<=w.heap.size+1;omega) _).setCell (by show w.heap.size<=w.heap.size+1;omega) _
   case measure=>
    (try rw[J])
    have:=u.out.2.2.2.2;exact Xs this (Xt i)
  ·have Z:i=c.length:=by omega
   subst Z;obtain⟨g,d⟩:=d;have K:Ak wr (w.heap.size+1) 101 9 (Br c (XJ c.length v)):=l.congr λk _=>ab6 c v k;have F:∀j,j<9->wr.cell? ⟨w.heap.size+1,0+j,none⟩=some (Br c (XJ c.length v) j):=λj s=>by rw[X8];exact K.cell s
   have H:∀j,j<R.size->(wr.cell? ⟨w.heap.size,0+j,none⟩).isSome=true:=λj s=>by rw[X8,d.cell (by rw[<-A.out];exact s)];rfl
   have G:∀j,j<R.size->wr.frozen? ⟨w.heap.size,0+j,none⟩=false:=λj _=>d.frozen _;replace F:=Aa F;replace H:=Aa H;replace G:=Aa G;have u:=Aa (⟨d,h⟩:_/\_);clear l K d h O C o
   go_wp2_with (first|(refine KW rfl _ _ rfl (w.heap.size+1) 0 9 rfl (Br c (XJ c.length v)) _ F.out Tryz.underlying101 rfl Tryz.sizeCs ?_;rw[show ((Yt 9).map (Br c (XJ c.length v))).toArray=R from m.out];simp only[X7,XK,X5,X6])|(refine Ha rfl _ _ _ rfl w.heap.size 0 R rfl rfl H.out G.out z.out B.out ?_;simp only[X7,XK,X5,X6]))
   obtain⟨d,h⟩:=u.out;have q:=Fx (S:=λ_=>False) (w:=w) (b:=w.heap.size) R.toList 0 (Ae.CK h) (.inr (Xf _));have X:Ak (wr.setCells w.heap.size 0 R.toList) w.heap.size 101 9 (Br c (XJ c.length v)):=by rw[<-m.out];exact d.fill
   have I:=IQ (P:=Tryz.prog) (wr.setCells w.heap.size 0 R.toList) w.heap.size 0 9 101 _ _ (λj s=>by rw[X8];exact X.cell s) Tryz.underlying101 rfl Tryz.sizeCs;rw[show ((Yt 9).map (Br c (XJ c.length v))).toArray=R from m.out] at I;exact XN (Oq rfl rfl I) rfl ⟨rfl,⟨q.os,q.tape,q.output,q.size,λk t=>q.block k t id⟩⟩
end
def AJ (f:Nat):Xj:=.func (.func f) #[] #[]
def Fq (w:Xg) (m:Nat):Prop:=∃n f,Av sk w m f n/\∀op,(f op).getD .nilFunc=Di op
section
variable {w w':Xg} {m:Nat}
theorem Fq.lt (h:Fq w m):m<w.heap.size:=by obtain⟨n,f,a,-⟩:=h;exact a.lt
theorem Fq.same (h:Fq w m) (e:w'.heap[m]?=w.heap[m]?):Fq w' m:=by obtain⟨n,f,a,b⟩:=h;exact⟨n,f,a.same e,b⟩
theorem Fq.look (h:Fq w m) (a:Tx):(Instr.lookup 118 (.map (some m)) (.string (bs a)) false).run Tryz.prog w = .ok (Di a) w:=by
 obtain⟨n,f,b,c⟩:=h;have q:=b.look Tryz.strKey Tryz.underlying118 (z:=.nilFunc) (by kernel_rfl) a;rw[c a] at q;exact q
theorem Dq {w w':Xg} {B b:Nat} (g:w.grownBy w' (some b)) (a:B<=b) (c:B<=w.heap.size):Xn B w w':=⟨g.os,g.tape,g.output,g.size,λk d=>g.block k (by omega) (λe=>by injection e;omega)⟩
theorem abg (a:Tx) (f:Tx->Option Xj) (h:f=(Be (Be (Be (Be (Be (Be (Be (Be (Be (Be (Be (Be (Be (Be (Be (Be (Be (λ_=>none) Ex (AJ 74)) ED (AJ 77)) Ew (AJ 78)) Ey (AJ 79)) BH (AJ 80)) Bl (AJ 82)) Eg (AJ 84)) Ef (AJ 85)) CD (AJ 86)) Ee (AJ 87)) Cy (AJ 88)) CE (AJ 89)) Ez (AJ 91)) EB (AJ 93)) EA (AJ 94)) EC (AJ 95)) EW (AJ 96))):(f a).getD .nilFunc=Di a:=by
 subst h
 by_cases p:a=Ex
 ·subst p;rfl
 by_cases i:a=ED
 ·subst i;rfl
 by_cases u:a=Ew
 ·subst u;rfl
 by_cases n:a=Ey
 ·subst n;rfl
 by_cases b:a=BH
 ·subst b;rfl
 by_cases l:a=Bl
 ·subst l;rfl
 by_cases g:a=Eg
 ·subst g;rfl
 by_cases r:a=Ef
 ·subst r;rfl
 by_cases o:a=CD
 ·subst o;rfl
 by_cases k:a=Ee
 ·subst k;rfl
 by_cases t:a=Cy
 ·subst t;rfl
 by_cases e:a=CE
 ·subst e;rfl
 by_cases c:a=Ez
 ·subst c;rfl
 by_cases m:a=EB
 ·subst m;rfl
 by_cases d:a=EA
 ·subst d;rfl
 by_cases j:a=EC
 ·subst j;rfl
 by_cases s:a=EW
 ·subst s;rfl
 rw[Cg _ s,Cg _ j,Cg _ d,Cg _ m,Cg _ c,Cg _ e,Cg _ t,Cg _ k,Cg _ o,Cg _ r,Cg _ g,Cg _ l,Cg _ b,Cg _ n,Cg _ u,Cg _ i,Cg _ p];unfold Di Ks;simp only[List.find?,show decide (Ex=a)=false from decide_eq_false (λq=>p q.symm),show decide (ED=a)=false from decide_eq_false (λq=>i q.symm),show decide (Ew=a)=false from decide_eq_false (λq=>u q.symm),show decide (Ey=a)=false from decide_eq_false (λq=>n q.symm),show decide (BH=a)=false from decide_eq_false (λq=>b q.symm),show decide (Bl=a)=false from decide_eq_false (λq=>l q.symm),show decide (Eg=a)=false from decide_eq_false (λq=>g q.symm),show decide (Ef=a)=false from decide_eq_false (λq=>r q.symm),show decide (CD=a)=false from decide_eq_false (λq=>o q.symm),show decide (Ee=a)=false from decide_eq_false (λq=>k q.symm),show decide (Cy=a)=false from decide_eq_false (λq=>t q.symm),show decide (CE=a)=false from decide_eq_false (λq=>e q.symm),show decide (Ez=a)=false from decide_eq_false (λq=>c q.symm),show decide (EB=a)=false from decide_eq_false (λq=>m q.symm),show decide (EA=a)=false from decide_eq_false (λq=>d q.symm),show decide (EC=a)=false from decide_eq_false (λq=>j q.symm),show decide (EW=a)=false from decide_eq_false (λq=>s q.symm)]
 rfl
theorem abC (w:Xg):X3 Tryz.prog 39 #[] w λe w'=>e = .returned (.map (some w.heap.size))/\Fq w' w.heap.size/\Xn w.heap.size w w':=by
 have Y:Av sk (w.alloc (.map #[] 0)) w.heap.size (λ_=>none) 0:=Av.made w;have B0:Xn w.heap.size w (w.alloc (.map #[] 0)):=(Xo _ _).alloc (Xf _) _;obtain⟨w1,r1,N,Q,-⟩:=Y.put Tryz.strKey Tryz.underlying118 Ex (AJ 74);have i:=B0.trans (Dq Q (Xf _) B0.size);obtain⟨w2,r2,R,X,-⟩:=N.put Tryz.strKey Tryz.underlying118 ED (AJ 77);have c:=i.trans (Dq X (Xf _) i.size);obtain⟨w3,r3,K,U,-⟩:=R.put Tryz.strKey Tryz.underlying118 Ew (AJ 78);have p:=c.trans (Dq U (Xf _) c.size);obtain⟨w4,r4,I,g4,-⟩:=K.put Tryz.strKey Tryz.underlying118 Ey (AJ 79);have l:=p.trans (Dq g4 (Xf _) p.size);obtain⟨w5,r5,A,t,-⟩:=I.put Tryz.strKey Tryz.underlying118 BH (AJ 80);have n:=l.trans (Dq t (Xf _) l.size);obtain⟨w6,r6,V,u,-⟩:=A.put Tryz.strKey Tryz.underlying118 Bl (AJ 82);have a:=n.trans (Dq u (Xf _) n.size);obtain⟨w7,r7,Z,v,-⟩:=V.put Tryz.strKey Tryz.underlying118 Eg (AJ 84);have m:=a.trans (Dq v (Xf _) a.size);obtain⟨w8,r8,x,M,-⟩:=Z.put Tryz.strKey Tryz.underlying118 Ef (AJ 85);have d:=m.trans (Dq M (Xf _) m.size);obtain⟨w9,r9,H,D,-⟩:=x.put Tryz.strKey Tryz.underlying118 CD (AJ 86);have h:=d.trans (Dq D (Xf _) d.size);obtain⟨aB,ax,W,S,-⟩:=H.put Tryz.strKey Tryz.underlying118 Ee (AJ 87);have q:=h.trans (Dq S (Xf _) h.size);obtain⟨aF,ai,y,G,-⟩:=W.put Tryz.strKey Tryz.underlying118 Cy (AJ 88);have f:=q.trans (Dq G (Xf _) q.size);obtain⟨aI,aq,ab,C,-⟩:=y.put Tryz.strKey Tryz.underlying118 CE (AJ 89);have b:=f.trans (Dq C (Xf _) f.size);obtain⟨aN,ao,F,z,-⟩:=ab.put Tryz.strKey Tryz.underlying118 Ez (AJ 91);have g:=b.trans (Dq z (Xf _) b.size);obtain⟨aG,aj,aa,ad,-⟩:=F.put Tryz.strKey Tryz.underlying118 EB (AJ 93);have j:=g.trans (Dq ad (Xf _) g.size);obtain⟨aJ,ag,J,r,-⟩:=aa.put Tryz.strKey Tryz.underlying118 EA (AJ 94);have o:=j.trans (Dq r (Xf _) j.size);obtain⟨aD,ar,P,E,-⟩:=J.put Tryz.strKey Tryz.underlying118 EC (AJ 95);have k:=o.trans (Dq E (Xf _) o.size);obtain⟨T,ak,s,B,-⟩:=P.put Tryz.strKey Tryz.underlying118 EW (AJ 96);have O:=k.trans (Dq B (Xf _) k.size);unfold AJ sk Ex bs at r1;unfold AJ sk ED bs at r2;unfold AJ sk Ew bs at r3;unfold AJ sk Ey bs at r4;unfold AJ sk BH bs at r5;unfold AJ sk Bl bs at r6;unfold AJ sk Eg bs at r7;unfold AJ sk Ef bs at r8;unfold AJ sk CD bs at r9;unfold AJ sk Ee bs at ax;unfold AJ sk Cy bs at ai;unfold AJ sk CE bs at aq;unfold AJ sk Ez bs at ao;unfold AJ sk EB bs at aj;unfold AJ sk EA bs at ag;unfold AJ sk EC bs at ar;unfold AJ sk EW bs at ak;have HF:=Aa (⟨⟨_,_,s,λop=>abg op _ rfl⟩,O⟩:Fq T w.heap.size/\Xn w.heap.size w T);clear Y B0 N i R c K p I l A n V a Z m x d H h W q y f ab b F g aa j J o P k s O Q X U g4 t u v M D S G C z ad r E B;have aH:=@run_makeMap Tryz.prog
 go_enter Tryz.func39,Tryz.ntmps39
 go_wp2_with fail
 go_ret
 exact⟨rfl,HF.out⟩
end
section
variable {w w':Xg} {b:Nat}
theorem Tryz.sizeTh:(Tryz.prog.info? 114).map (·.size)=some 207:=by kernel_rfl
theorem Tryz.sizeDeed:(Tryz.prog.info? 111).map (·.size)=some 8:=by kernel_rfl
def EQ (nm:Tx) (c:List Ac) (i j:Nat):Xj:=if j=0 then .string (bs nm) else if j<7 then .int .i64 0 else if (j - 7) / 8<i then Fe (c.getD ((j - 7) / 8) Cl) ((j - 7) % 8) else Fe (BX []) ((j - 7) % 8)
def Ff (x:Ac):Array Xj := #[.string (bs x.op),.int .i64 x.r,.bool x.aR,.int .i64 x.aN,.bool x.bR,.int .i64 x.bN,.int .i64 x.x,Di x.op]
theorem Rl (x:Ac):∀v∈(Ff x).toList,v.oneCell'=true:=by
 intro v a;simp only[Ff,List.mem_cons,List.not_mem_nil,or_false] at a
 rcases a with rfl|rfl|rfl|rfl|rfl|rfl|rfl|rfl
 all_goals first|rfl|exact Rj _
theorem abF (x:Ac) {j:Nat} (h:j<8):(Ff x).toList.getD j X1=Fe x j:=by
 have:j=0\/j=1\/j=2\/j=3\/j=4\/j=5\/j=6\/j=7:=by omega
 rcases this with rfl|rfl|rfl|rfl|rfl|rfl|rfl|rfl<;>rfl
theorem Ak.OQ {nm:Tx} {c:List Ac} {i:Nat} {T:Nat} (h:Ak w b T 207 (EQ nm c i)) (f:i<25) {x:Ac} (d:c.getD i Cl=x):Ak (w.setCells b (7+i*8) (Ff x).toList) b T 207 (EQ nm c (i+1)):=by
 refine(Ln _ (7+i*8) h (by show 7+i*8+8<=207;omega)).congr λk g=>?_;show (if 7+i*8<=k/\k<7+i*8+8 then _ else _)=_
 by_cases e:7+i*8<=k/\k<7+i*8+8
 ·rw[if_pos e,abF x (by omega)];unfold EQ;rw[if_neg (by omega),if_neg (by omega),if_pos (by omega),show (k - 7) / 8=i by omega,d,show k - (7+i*8)=(k - 7) % 8 by omega]
 ·rw[if_neg e];unfold EQ
  split
  ·rfl
  ·split
   ·rfl
   ·by_cases a:(k - 7) / 8<i
    ·rw[if_pos a,if_pos (by omega)]
    ·rw[if_neg a,if_neg (by omega)]
theorem SU (nm:Tx) (c:List Ac) (k:Nat):EQ nm c (c.length+1) k=Bv nm (some c) Aw k:=by
 unfold EQ Bv
 by_cases b:k=0
 ·rw[if_pos b,if_pos b]
 ·rw[if_neg b,if_neg b]
  by_cases e:k=1
  ·subst e;rfl
  ·rw[if_neg e]
   by_cases f:k=2
   ·subst f;rfl
   ·rw[if_neg f]
    by_cases a:k<7
    ·rw[if_pos a,if_pos a];have:k - 3=0\/k - 3=1\/k - 3=2\/k - 3=3:=by omega
     rcases this with q|q|q|q<;>rw[q]<;>rfl
    ·rw[if_neg a,if_neg a];show _=if (k - 7) / 8<c.length then _ else if (k - 7) / 8=c.length then _ else _
     by_cases g:(k - 7) / 8<c.length
     ·rw[if_pos g,if_pos (by omega)]
     ·rw[if_neg g]
      by_cases d:(k - 7) / 8=c.length
      ·rw[if_pos d,if_pos (by omega),d,Xb,XO (Xf _)];rfl
      ·rw[if_neg d,if_neg (by omega)]
end
section
variable {w w':Xg} {b:Nat}
theorem abA (a:Tx):Di a = .nilFunc\/∃f,Di a = .func (.func f) #[] #[]:=by
 unfold Di
 split
 ·exact .inr ⟨_,rfl⟩
 ·exact .inl rfl
def Iw (x:Ac) (d:Xj):Array Xj := #[.string (bs x.op),.int .i64 x.r,.bool x.aR,.int .i64 x.aN,.bool x.bR,.int .i64 x.bN,.int .i64 x.x,d]
theorem ST (s:ByteArray):Tryz.zeroCells114.setIfInBounds 0 (.string s)=Cq 207 (λj=>if j=0 then .string s else EQ [] [] 0 j):=by kernel_rfl
theorem SS (nm:Tx) (c:List Ac):(Tryz.zeroCells114.setIfInBounds 0 (.string (bs nm)))=Cq 207 (EQ nm c 0):=by
 rw[ST];unfold Cq
 congr 1
structure MY (w wr:Xg) (nm:Tx) (c:List Ac) (i:Nat):Prop where
 r:Ak wr (w.heap.size+1+1) 114 207 (EQ nm c i)
 b:∃g,Ak wr (w.heap.size+1) 114 207 g
 low:Xn w.heap.size w wr
 sz:w.heap.size+1+1<wr.heap.size
theorem VM {base m:Nat} {cv:Xj} (nm:Tx) {c:List Ac} (Q:w.ownsRow base 108 7 cv c.length (FE c)) (hl:c.length<=24) (M:Fq w m) :
 X3 Tryz.prog 40 #[.agg #[.string (bs nm),cv],.map (some m)] w λe w'=>e = .returned (.agg (Cq 207 (Bv nm (some c) Aw)))/\Xn w.heap.size w w':=by
 obtain⟨ca,H,aA⟩:=At Q;subst aA;obtain⟨R,C⟩:∃R,Cq 207 (Bv nm (some c) Aw)=R:=⟨_,rfl⟩;have af:R.size=207:=by rw[<-C,Hj]
 have X:∀x∈R.toList,x.oneCell'=true:=by rw[<-C];exact IU _ 207 (La _ _ _)
 have Y:(Tryz.prog.info? 114).map (·.size)=some R.size:=by rw[af];exact Tryz.sizeTh
 obtain⟨Z,hZ⟩:∃Z,(Tryz.zeroCells114.setIfInBounds 0 (.string (bs nm)))=Z:=⟨_,rfl⟩;have au:Z=Cq 207 (EQ nm c 0):=by rw[<-hZ];exact SS nm c
 have aD:Z.size=207:=by rw[au,Hj]
 have aT:∀x∈Z.toList,x.oneCell'=true:=by
  rw[au];refine IU _ 207 (λj=>?_);unfold EQ
  split
  ·rfl
  ·split
   ·rfl
   ·split<;>exact Kr _ _
 have aI:(Tryz.prog.info? 114).map (·.size)=some Z.size:=by rw[aD];exact Tryz.sizeTh
 rw[C];obtain⟨E,y⟩:∃E,(((w.alloc (.cells #[.string (bs nm),.slice ca c.length H] 122)).alloc (.cells Tryz.zeroCells114 114)).alloc (.cells Tryz.zeroCells114 114))=E:=⟨_,rfl⟩;have aq:(w.alloc (.cells #[.string (bs nm),.slice ca c.length H] 122)).heap.size=w.heap.size+1:=by show (w.heap.push _).size=_;simp
 have ao:((w.alloc (.cells #[.string (bs nm),.slice ca c.length H] 122)).alloc (.cells Tryz.zeroCells114 114)).heap.size=w.heap.size+1+1:=by show ((w.heap.push _).push _).size=_;simp
 have aZ:E.heap.size=w.heap.size+1+1+1:=by rw[<-y];show (((w.heap.push _).push _).push _).size=_;simp
 have b1:=Ak.new (f:=λk=>Tryz.zeroCells114.getD k X1) (w.alloc (.cells #[.string (bs nm),.slice ca c.length H] 122)) Tryz.zeroCells114 114 (λk G=>by rw[Y0,YS G];rfl);have b2:=Ak.new (f:=λk=>Tryz.zeroCells114.getD k X1) ((w.alloc (.cells #[.string (bs nm),.slice ca c.length H] 122)).alloc (.cells Tryz.zeroCells114 114)) Tryz.zeroCells114 114 (λk G=>by rw[Y0,YS G];rfl);replace b1:=b1.below (w':=E) (by rw[<-y];exact(Xo _ _).alloc (Xf _) _);rw[y,ao,Tryz.zeroCells114_size] at b2;rw[aq,Tryz.zeroCells114_size] at b1;have aJ:E.heap[w.heap.size]?=some (.cells #[.string (bs nm),.slice ca c.length H] 122):=by
  rw[<-y,Xq _ _ _ (by rw[ao];omega),Xq _ _ _ (by rw[aq];omega)];exact World.alloc_heap_new w _
 have T:Xn w.heap.size w E:=by rw[<-y];exact(((Xo _ _).alloc (Xf _) _).alloc (by rw[aq];omega) _).alloc (by rw[ao];omega) _
 have o:=Fx (S:=λk=>k=w.heap.size+1+1) (w:=E) (b:=w.heap.size+1+1) Z.toList 0 (Ae.refl E) (.inl rfl);obtain⟨W2,U⟩:∃W2,E.setCells (w.heap.size+1+1) 0 Z.toList=W2:=⟨_,rfl⟩;rw[U] at o;have p:∀j,j<Z.size->(E.cell? ⟨w.heap.size+1+1,0+j,none⟩).isSome=true:=λj n=>by rw[X8,b2.cell (by rw[<-aD];exact n)];rfl
 have t:∀j,j<Z.size->E.frozen? ⟨w.heap.size+1+1,0+j,none⟩=false:=λj _=>b2.frozen _;have aB:W2.heap[w.heap.size]?=some (.cells #[.string (bs nm),.slice ca c.length H] 122):=(o.block _ (by omega) (by omega)).trans aJ;have c1:W2.cell? ⟨w.heap.size,1,none⟩=some (.slice ca c.length H):=by simp[World.cell?,aB]
 have hN:MY w W2 nm c 0:=by
  refine⟨?_,⟨_,b1.keep o (by omega)⟩,⟨o.os.trans T.os,o.tape.trans T.tape,o.output.trans T.output,Xu T.size o.size,λk G=>(o.block k (by omega) (by omega)).trans (T.block k G)⟩,by have:=o.size;omega⟩;rw[<-U,au];exact b2.fill
 have HR:=Aa (⟨C,af,X,Y⟩:_/\_/\_/\_);have HZ:=Aa (⟨aT,aI,p,t⟩:_/\_/\_/\_);have HC:=Aa (⟨Q,M,aB,hl⟩:_/\_/\_/\_);replace hN:=Aa hN;replace y:=Aa y;replace U:=Aa U;replace hZ:=Aa hZ;clear C af X Y au aD aT aI Q M aq ao aZ b1 b2 aJ T o p t aB hl
 go_enter Tryz.func40,Tryz.ntmps40
 go_wp2_with (refine Ha rfl _ _ _ rfl (w.heap.size+1+1) 0 Z rfl (by rw[<-hZ.out];rfl) (by rw[y.out];exact HZ.out.2.2.1) (by rw[y.out];exact HZ.out.2.2.2) HZ.out.2.1 HZ.out.1 ?_;rw[y.out,U.out];simp only[X7,XK,X5,X6])
 clear y HZ hZ c1
 go_loopw [14] (λiv wr=>∃i:Nat,i<=c.length/\iv = .int .i64 i/\MY w wr nm c i/\wr.heap[w.heap.size]?=some (.cells #[.string (bs nm),.slice ca c.length H] 122)) (λiv _=>c.length - (intOf iv).toNat)
 case atStart=>exact⟨0,XD _,rfl,hN.out,HC.out.2.2.1⟩
 case round=>
  obtain⟨i,hi,rfl,a,ai⟩:=hrel;clear hN;obtain⟨Q,M,-,hl⟩:=HC.out;have am:i<25:=by omega
  by_cases h5:i<c.length
  ·have a2:(i:Int)<25:=by omega
   obtain⟨x,hx⟩:∃x,c[i]?=some x:=⟨_,List.getElem?_eq_getElem h5⟩;obtain⟨g,cap,aA,a0,hI⟩:=aaz (EJ Q a.low) hx;injection aA with hca hcl hcc
   subst hca;have ba:(i:Int)<(c.length:Int):=by omega
   obtain⟨k0,k1,o,k3,k4,k5,k6⟩:=hI;have aF:c.getD i Cl=x:=by rw[Xb,hx];rfl
   obtain⟨l,v,z,F,u,B,A⟩:=x;dsimp only at k0 k1 o k3 k4 k5 k6;obtain⟨I,hI⟩:∃I:Array Xj,#[.string (bs l),.int .i64 v,.bool z,.int .i64 F,.bool u,.int .i64 B,.int .i64 A]=I:=⟨_,rfl⟩;have K:Xn wr.heap.size wr (wr.alloc (.cells I 108)):=(Xo _ _).alloc (Xf _) _;have aj:=a.r.below K;have ar:=((M.same (w':=wr) (a.low.block m M.lt)).same (w':=wr.alloc (.cells I 108)) (K.block m (by have:=M.lt;have:=a.low.size;omega))).look l;have p:∀j,j<(Ff ⟨l,v,z,F,u,B,A⟩).size->((wr.alloc (.cells I 108)).cell? ⟨w.heap.size+1+1,7+i*8+j,none⟩).isSome=true:=λj n=>by rw[aj.cell (by have n:j<8:=n;omega)];rfl
   have t:∀j,j<(Ff ⟨l,v,z,F,u,B,A⟩).size->(wr.alloc (.cells I 108)).frozen? ⟨w.heap.size+1+1,7+i*8+j,none⟩=false:=λj _=>aj.frozen _;have O:=aj.OQ am aF;have h:=Fx (S:=λk=>k=w.heap.size+1+1) (w:=wr.alloc (.cells I 108)) (b:=w.heap.size+1+1) (Ff ⟨l,v,z,F,u,B,A⟩).toList (7+i*8) (Ae.refl _) (.inl rfl);have ak:Ya ((i:Int)+1)=(i:Int)+1:=by unfold Ya;omega
   have ad:MY w ((wr.alloc (.cells I 108)).setCells (w.heap.size+1+1) (7+i*8) (Ff ⟨l,v,z,F,u,B,A⟩).toList) nm c (i+1)/\((wr.alloc (.cells I 108)).setCells (w.heap.size+1+1) (7+i*8) (Ff ⟨l,v,z,F,u,B,A⟩).toList).heap[w.heap.size]?=some (.cells #[.string (bs nm),.slice (some ⟨g,0,none⟩) c.length H] 122):=by
    obtain⟨gg,hg⟩:=a.b;have aQ:=a.sz;have hz:=K.size;refine⟨⟨O,⟨gg,(hg.below K).keep h (by omega)⟩,⟨h.os.trans (K.os.trans a.low.os),h.tape.trans (K.tape.trans a.low.tape),h.output.trans (K.output.trans a.low.output),Xu a.low.size (Xu hz h.size),λk G=>(h.block k (by omega) (by omega)).trans ((K.block k (by omega)).trans (a.low.block k G))⟩,by have:=h.size;omega⟩,?_⟩
    exact(h.block _ (by omega) (by omega)).trans ((K.block _ (by omega)).trans ai)
   have J:=Rl ⟨l,v,z,F,u,B,A⟩;have aS:Ff ⟨l,v,z,F,u,B,A⟩=Iw ⟨l,v,z,F,u,B,A⟩ (Di l):=rfl;rw[aS] at p t ad J;have aH:=abA l;obtain⟨dv,aK⟩:∃dv,Di l=dv:=⟨_,rfl⟩;rw[aK] at p t ad J aH ar;obtain⟨D,s⟩:∃D:Array Xj,#[.string (bs l),.int .i64 v,.bool z,.int .i64 F,.bool u,.int .i64 B,.int .i64 A,dv]=D:=⟨_,rfl⟩;rw[show Iw ⟨l,v,z,F,u,B,A⟩ dv=D from s] at p t ad J;have V:(Tryz.prog.info? 111).map (·.size)=some D.size:=by rw[<-s];exact Tryz.sizeDeed
   have d:=Aa (⟨ad,h5,p,t,J,V⟩:_/\_/\_/\_/\_/\_);replace s:=Aa s;replace aF:=Aa aF;subst hI;clear a ai Q M hl hi am h5 hx K aj p t O h ad a0 hcc hcl HC aS aK J V
   rcases aH with rfl|⟨f,rfl⟩
   ·skip
    go_wp2_with (refine Ha rfl _ _ _ rfl (w.heap.size+1+1) (7+i*8) D rfl (by rw[<-s.out];rfl) d.out.2.2.1 d.out.2.2.2.1 d.out.2.2.2.2.2 d.out.2.2.2.2.1 ?_;simp only[X7,XK,X5,X6])
    go_roundw
    case rel=>
     (try rw[ak])
     exact⟨i+1,d.out.2.1,rfl,d.out.1⟩
    case measure=>
     (try rw[ak])
     exact Xs d.out.2.1 (Xt i)
   ·skip
    go_wp2_with (refine Ha rfl _ _ _ rfl (w.heap.size+1+1) (7+i*8) D rfl (by rw[<-s.out];rfl) d.out.2.2.1 d.out.2.2.2.1 d.out.2.2.2.2.2 d.out.2.2.2.2.1 ?_;simp only[X7,XK,X5,X6])
    go_roundw
    case rel=>
     (try rw[ak])
     exact⟨i+1,d.out.2.1,rfl,d.out.1⟩
    case measure=>
     (try rw[ak])
     exact Xs d.out.2.1 (Xt i)
  ·have a7:i=c.length:=by omega
   subst a7;have a2:(c.length:Int)<25:=by omega
   have ar:=(M.same (w':=wr) (a.low.block m M.lt)).look EW;rw[show Di EW = .func (.func 96) #[] #[] from rfl] at ar;unfold EW bs at ar;have c1:wr.cell? ⟨w.heap.size,1,none⟩=some (.slice ca c.length H):=by simp[World.cell?,ai]
   have p:∀j,j<(Iw Cl (.func (.func 96) #[] #[])).size->(wr.cell? ⟨w.heap.size+1+1,7+c.length*8+j,none⟩).isSome=true:=λj n=>by rw[a.r.cell (by have n:j<8:=n;omega)];rfl
   have t:∀j,j<(Iw Cl (.func (.func 96) #[] #[])).size->wr.frozen? ⟨w.heap.size+1+1,7+c.length*8+j,none⟩=false:=λj _=>a.r.frozen _;have O:=a.r.OQ am (x:=Cl) (by rw[Xb,XO (Xf _)];rfl);have J:=Rl Cl;rw[show Ff Cl=Iw Cl (.func (.func 96) #[] #[]) from rfl] at O J;obtain⟨D,s⟩:∃D:Array Xj,#[.string ⟨#[101,110,100]⟩,.int .i64 0,.bool false,.int .i64 0,.bool false,.int .i64 0,.int .i64 0,.func (.func 96) #[] #[]]=D:=⟨_,rfl⟩;rw[show Iw Cl (.func (.func 96) #[] #[])=D from s] at p t O J;have V:(Tryz.prog.info? 111).map (·.size)=some D.size:=by rw[<-s];exact Tryz.sizeDeed
   have h:=Fx (S:=λk=>k=w.heap.size+1+1) (w:=wr) (b:=w.heap.size+1+1) D.toList (7+c.length*8) (Ae.refl _) (.inl rfl);obtain⟨N,ay⟩:∃N,wr.setCells (w.heap.size+1+1) (7+c.length*8) D.toList=N:=⟨_,rfl⟩;rw[ay] at O h;have aM:Ak N (w.heap.size+1+1) 114 207 (Bv nm (some c) Aw):=O.congr λk _=>SU nm c k;obtain⟨gg,hg⟩:=a.b;have aQ:=a.sz;have W:=hg.keep h (by omega);obtain⟨C,af,X,Y⟩:=HR.out;have p1:∀j,j<207->N.cell? ⟨w.heap.size+1+1,0+j,none⟩=some (Bv nm (some c) Aw j):=λj n=>by rw[X8];exact aM.cell n
   have p2:∀j,j<R.size->(N.cell? ⟨w.heap.size+1,0+j,none⟩).isSome=true:=λj n=>by rw[X8,W.cell (by rw[<-af];exact n)];rfl
   have p3:∀j,j<R.size->N.frozen? ⟨w.heap.size+1,0+j,none⟩=false:=λj _=>W.frozen _;have aw:Xn w.heap.size w N:=⟨h.os.trans a.low.os,h.tape.trans a.low.tape,h.output.trans a.low.output,Xu a.low.size h.size,λk G=>(h.block k (by omega) (by omega)).trans (a.low.block k G)⟩;have d:=Aa (⟨p,t,J,p1,p2,p3⟩:_/\_/\_/\_/\_/\_);have HM:=Aa (⟨W,aw⟩:_/\_);replace ay:=Aa ay;replace s:=Aa s;replace V:=Aa V;replace C:=Aa C;replace Y:=Aa Y;replace X:=Aa X;clear a ai Q M hl hi am h5 p t O J h aM hg aQ W p1 p2 p3 aw HC HR U
   go_wp2_with (first|(refine Ha rfl _ _ _ rfl (w.heap.size+1+1) (7+c.length*8) D rfl (by rw[<-s.out];rfl) d.out.1 d.out.2.1 V.out d.out.2.2.1 ?_;rw[ay.out];simp only[X7,XK,X5,X6])|(refine KW rfl _ _ rfl (w.heap.size+1+1) 0 207 rfl (Bv nm (some c) Aw) _ d.out.2.2.2.1 Tryz.underlying114 rfl Tryz.sizeTh ?_;rw[show ((Yt 207).map (Bv nm (some c) Aw)).toArray=R from C.out];simp only[X7,XK,X5,X6])|(refine Ha rfl _ _ _ rfl (w.heap.size+1) 0 R rfl rfl d.out.2.2.2.2.1 d.out.2.2.2.2.2 Y.out X.out ?_;simp only[X7,XK,X5,X6]))
   obtain⟨W,aw⟩:=HM.out;have q:=Fx (S:=λ_=>False) (w:=w) (b:=w.heap.size+1) R.toList 0 (Ae.CK aw) (.inr (by omega));have hF:Ak (N.setCells (w.heap.size+1) 0 R.toList) (w.heap.size+1) 114 207 (Bv nm (some c) Aw):=by rw[<-C.out];exact W.fill
   have hL:=IQ (P:=Tryz.prog) (N.setCells (w.heap.size+1) 0 R.toList) (w.heap.size+1) 0 207 114 _ _ (λj n=>by rw[X8];exact hF.cell n) Tryz.underlying114 rfl Tryz.sizeTh;rw[show ((Yt 207).map (Bv nm (some c) Aw)).toArray=R from C.out] at hL;exact XN (Oq rfl rfl hL) rfl ⟨rfl,⟨q.os,q.tape,q.output,q.size,λk G=>q.block k G id⟩⟩
end
section
variable {w w':Xg} {b:Nat} {p:PD}
theorem Wm (a:Nat->Xj) (n:Int):Tryz.prog.built 117 [(0,.agg #[a 0,a 1,a 2,a 3,a 4,a 5,a 6,a 7,a 8]),(1,.agg #[a 9,a 10,a 11,a 12,a 13,a 14,a 15,a 16,a 17]),(2,.agg #[a 18,a 19,a 20,a 21,a 22,a 23,a 24,a 25,a 26]),(4,.int .i64 n)]=some (Cq 856 (λk=>if k<27 then a k else if k=855 then .int .i64 n else Bv [] none Aw ((k - 27) % 207))):=by kernel_rfl
def Dr (p:PD):MS:=⟨XJ p.vs.length 0,XJ p.fs.length 0,XJ p.ls.length (-1),XJ p.ts.length Aw⟩
theorem Iy (p:PD) (t:Nat):(Dr p).th t=Aw:=by
 unfold MS.th Dr;rw[Xb,List.getElem?_replicate]
 split<;>rfl
theorem PF {s s':MS} (c:s'.vars=s.vars) (d:s'.flags=s.flags) (a:s'.locks=s.locks) (b:∀t,s'.th t=s.th t) (k:Nat):Au p s' k=Au p s k:=by
 unfold Au;rw[c,d,a,b]
theorem acq (p:PD) (k:Nat) (h:0<p.ts.length):Au p ((Dr p).Af 0 {(Dr p).th 0 with ph:=1}) k=Au p (BO p.vs.length p.fs.length p.ls.length p.ts.length) k:=by
 refine PF (s:=BO p.vs.length p.fs.length p.ls.length p.ts.length) (s':=(Dr p).Af 0 {(Dr p).th 0 with ph:=1}) rfl rfl rfl (λt=>?_) k;have b:0<(Dr p).thr.length:=by unfold Dr;simpa using h
 rw[Fr _ 0 t _ b,Iy,Iy];unfold MS.th BO;dsimp only;rw[Xb,Xp]
 by_cases a:t<p.ts.length
 ·rw[ac4 a];rfl
 ·rw[XO (by simpa using a)];show _=Aw;rw[if_neg (by omega)]
theorem acp (p:PD) (k:Nat) (h:p.ts.length=0):Au p (Dr p) k=Au p (BO p.vs.length p.fs.length p.ls.length p.ts.length) k:=by
 refine PF (s:=BO p.vs.length p.fs.length p.ls.length p.ts.length) (s':=Dr p) rfl rfl rfl (λt=>?_) k;rw[Iy];unfold MS.th BO;rw[h];rfl
def DS (p:PD) (i k:Nat):Xj:=if k<27 then Au p (Dr p) k else if k=855 then .int .i64 p.ts.length else if (k - 27) / 207<i then Au p (Dr p) k else Bv [] none Aw ((k - 27) % 207)
theorem Wf (p:PD) (d:p.C.length=p.ts.length) (k:Nat) (e:k<856):DS p p.ts.length k=Au p (Dr p) k:=by
 unfold DS
 by_cases a:k<27
 ·rw[if_pos a]
 ·rw[if_neg a]
  by_cases b:k=855
  ·rw[if_pos b,b,PE]
  ·rw[if_neg b]
   by_cases c:(k - 27) / 207<p.ts.length
   ·rw[if_pos c]
   ·rw[if_neg c];unfold Au;rw[if_neg (by omega),if_neg (by omega),if_neg a];rw[if_pos (by omega),Iy,Xb,XO (by omega),XO (by omega)];rfl
theorem We (p:PD):(λk=>if k<27 then(λk=>if k<9 then Br p.vs (XJ p.vs.length 0) k else if k<18 then Br p.fs (XJ p.fs.length 0) (k - 9) else Br p.ls (XJ p.ls.length (-1)) (k - 18)) k else if k=855 then .int .i64 p.ts.length else Bv [] none Aw ((k - 27) % 207))=DS p 0:=by
 funext k
 unfold DS;dsimp only
 by_cases b:k<27
 ·rw[if_pos b,if_pos b];unfold Au
  by_cases a:k<9
  ·rw[if_pos a,if_pos a];rfl
  ·rw[if_neg a,if_neg a]
   by_cases c:k<18
   ·rw[if_pos c,if_pos c];rfl
   ·rw[if_neg c,if_neg c,if_pos b];rfl
 ·rw[if_neg b,if_neg b]
  by_cases a:k=855
  ·rw[if_pos a,if_pos a]
  ·rw[if_neg a,if_neg a,if_neg (by omega)]
theorem Ak.UW {i T:Nat} (h:Ak w b T 856 (DS p i)) (c:i<4):Ak (w.setCells b (27+i*207) (Cq 207 (Bv (p.ts.getD i []) (p.C[i]?) Aw)).toList) b T 856 (DS p (i+1)):=by
 refine(Ln _ (27+i*207) h (by simp[Cq];omega)).congr λk d=>?_;rw[show (Cq 207 (Bv (p.ts.getD i []) (p.C[i]?) Aw)).toList.length=207 by simp[Cq]]
 by_cases e:27+i*207<=k/\k<27+i*207+207
 ·rw[if_pos e];unfold DS;rw[if_neg (by omega),if_neg (by omega),if_pos (by omega)];have q:=Ei p (Dr p) c (j:=k - (27+i*207)) (by omega);rw[show 27+i*207+(k - (27+i*207))=k by omega,Iy] at q;rw[q];simp only[Cq,Xb,Xp];rw[ac4 (by omega)];rfl
 ·rw[if_neg e];unfold DS
  split
  ·rfl
  ·split
   ·rfl
   ·by_cases a:(k - 27) / 207<i
    ·rw[if_pos a,if_pos (by omega)]
    ·rw[if_neg a,if_neg (by omega)]
theorem IJ {P:Y4} {o:Oper} {a:Act} {w:Xg} {K:Act->Xg->Prop} {Q:Exit->Act->Xg->Prop} (d:YD) (x y:Operand) (m:o.op = .store d x y)
 (b c:Nat) (vs:Array Xj) (i:a.eval x = .pointer (some ⟨b,c,none⟩)) (f:a.eval y = .agg vs) (e:∀j,j<vs.size->(w.cell? ⟨b,c+j,none⟩).isSome=true) (k:∀j,j<vs.size->w.frozen? ⟨b,c+j,none⟩=false) (g:(P.info? d).map (·.size)=some vs.size) (l:∀v∈vs.toList,v.oneCell'=true)
 (h:K (a.put o.dst X1) (w.setCells b c vs.toList)):o.wp P a w K Q:=by
 unfold Oper.wp execOp;simp only[m,i,f,Instr.storeAt,Instr.sureAddr,Sem.run_bind,Sem.run_pure,Result.andThen_ok,Ol w b c d vs e k g l];exact h
theorem KV {P:Y4} {o:Oper} {a:Act} {w:Xg} {K:Act->Xg->Prop} {Q:Exit->Act->Xg->Prop} (t:YD) (b:Array (Nat×Operand)) (d:o.op = .build t b) (l:List (Nat×Xj)) (f:(b.toList.map λq=>(q.1,a.eval q.2))=l) (cells:Array Xj) (c:P.built t l=some cells)
 (h:K (a.put o.dst (.agg cells)) w):o.wp P a w K Q:=by
 have e:(b.map fun(i,x)=>(i,a.eval x)).toList=l:=by rw[Array.toList_map];exact f
 refine wp_build t b d (by rw[e,c];rfl) ?_;rw[e,c];exact h
theorem SB {P:Y4} {o:Oper} {a:Act} {w:Xg} {K:Act->Xg->Prop} {Q:Exit->Act->Xg->Prop} (t:YD) (x:Operand) (c:o.op = .box t x) (cells:Array Xj) (b:a.eval x = .agg cells)
 (h:K (a.put o.dst (.pointer (some ⟨w.heap.size,0,none⟩))) (w.alloc (.cells cells t))):o.wp P a w K Q:=by
 unfold Oper.wp execOp;simp only[c,b,Sem.run_bind,Instr.box,newVar,newRow,run_newObj_alloc,Sem.run_pure,Result.andThen_ok];exact h
end
end Go.Proofs.YtdcacoifehkioaaGreatDoor
