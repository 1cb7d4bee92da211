import Derived.Test.YtdcacoifehkioaaGreatDoorExH14
import Derived.Test.YtdcacoifehkioaaGreatDoorExH13
import Derived.Test.YtdcacoifehkioaaGreatDoorExH2
import Derived.Test.YtdcacoifehkioaaGreatDoorExH5
import Derived.Test.YtdcacoifehkioaaGreatDoorExH9
open List renaming range->YB,length_append->Xb,getD_eq_getElem?_getD->Xc,getElem?_eq_none->XU,length_cons->XH,length_nil->X3,replicate->Xr,getElem?_replicate->ZJ,size_toArray->Yt,setIfInBounds_toArray->XV,set_cons_succ->X9,set_cons_zero->X7,getElem?_map->Xs,getElem?_range->Zr
open Go.RowKit renaming wrap64->XO,Below->Xm
open Go.Lib renaming itoa->Yj
open Go renaming World->Xh,Calls->XX,Value->Xk,Program->Zm,bodyPost_ret->XJ,undef->Ya,TypeId->YM
open Go.RowKit.Below renaming refl->Xq,heap_alloc->Xv
open Nat renaming le_refl->Xd,zero_le->Xw,le_trans->Xu,sub_lt_sub_left->Xl,lt_succ_self->Xn,zero_add->XE
open Go.Act renaming put->XF
open Array renaming getD_eq_getD_getElem?->Zg,getElem?_eq_getElem->Y8
set_option maxRecDepth 100000
set_option maxHeartbeats 2000000
set_option linter.unusedVariables false
set_option linter.unusedSimpArgs false
namespace Go.Proofs.YtdcacoifehkioaaGreatDoor
open Go.RowKit Go.Shelf Go.Proofs.Cod
def Cv (p:PD) (s:MS) (i:Nat):Tx:=(YB i).flatMap λt=>CR (p.ts.getD t []) (s.th t)
theorem KL (p:PD) (s:MS) (i:Nat):Cv p s (i+1)=Cv p s i++CR (p.ts.getD i []) (s.th i):=by
 unfold Cv;rw[List.range_succ,List.flatMap_append]
 simp
theorem ab4 {a c:Tx} {i:Nat} (d:a.length<=1000) (f:c.length<=i*200) (b:i<=4):(a++c).length<=200000:=by
 have e:(a++c).length=a.length+c.length:=Xb;have:i*200<=800:=Nat.mul_le_mul_right 200 b
 omega
theorem Nw {a c:Tx} {i:Nat} (b:a.length<=i*200) (d:c.length<=200):(a++c).length<=(i+1)*200:=by
 have e:(a++c).length=a.length+c.length:=Xb
 omega
theorem Ia {i:Nat} (h:i<=4):XO ((i:Int)+1)=(i:Int)+1:=by unfold XO;omega
theorem KJ (p:PD) (s:MS):Cv p s 0=[]:=rfl
def Aj (p:PD) (s:MS):Tx:=Bi Yj p.vs s.vars p.vs.length++Bi Yj p.fs s.flags p.fs.length++Bi (Cg p.ts) p.ls s.locks p.ls.length++Cv p s p.ts.length
structure DX (p:PD):Prop where
 v:∀k,(p.vs.getD k []).length<=8
 f:∀k,(p.fs.getD k []).length<=8
 l:∀k,(p.ls.getD k []).length<=8
 t:∀k,(p.ts.getD k []).length<=8
section
variable {w w':Xh} {b B0:Nat} {p:PD} {s:MS}
theorem FJ {l:List Int} (h:∀v,v∈l->Cu v) (k:Nat):0<=l.getD k 0/\l.getD k 0<1000:=by
 by_cases e:k<l.length
 ·exact h _ (CL e)
 ·rw[Xc,XU (by omega)]
  exact⟨by decide,by decide⟩
theorem abO {l:List Int} {n:Nat} (h:∀v,v∈l->-1<=v/\v<n) (a:n<=4) (k:Nat) : -1<=l.getD k 0/\l.getD k 0<4:=by
 by_cases e:k<l.length
 ·have:=h _ (CL (d:=0) e);omega
 ·rw[Xc,XU (by omega)]
  exact⟨by decide,by decide⟩
theorem NJ (a:∀k,(p.ts.getD k []).length<=8) (n:Int):(Cg p.ts n).length<=21:=by
 unfold Cg
 split
 ·decide
 ·have:=a n.toNat;omega
theorem Mo (e:∀k,(p.ts.getD k []).length<=8) {n:Nat} {t:Nat} (b:GR n (s.th t)) (f:n<=24):(CR (p.ts.getD t []) (s.th t)).length<=200:=by
 have a:=e t;have c:=Ra (s.th t) (by have:=b.pc2;omega);have d:=JX _ (Hj b) 4;unfold CR;simp only[Xb,XH,X3]
 split
 ·simp only[X3];omega
 ·omega
theorem MA (h:AP w b p s) (d:Cs p) (E:BT p s) (g:DX p) (ht:Ck w B0) (av:B0<=w.heap.size) :
 XX Tryz.prog 43 #[Ab b] w λe w'=>e = .returned (.string (bs (Aj p s)))/\Xm w.heap.size w w':=by
 have J:=h.lt;obtain⟨H,ag⟩:∃H,w.alloc (.cells #[.pointer none,.slice none 0 0] 188)=H:=⟨_,rfl⟩;have am:Xm w.heap.size w H:=by rw[<-ag];exact(Xq _ _).alloc (Xd _) _
 have aI:BW H w.heap.size w.heap.size []:=by rw[<-ag];exact BW.fresh w
 have x:=fun(w':Xh) (a:Xm w.heap.size w w')=>(h.same (a.block b J):AP w' b p s)
 have af:=fun(w':Xh) (a:Xm w.heap.size w w')=>(ht.keep (a.mono av))
 have j:∀k,0<=s.vars.getD k 0/\s.vars.getD k 0<1000:=FJ E.vv;have u:∀k,0<=s.flags.getD k 0/\s.flags.getD k 0<1000:=FJ E.fv;have il:∀k,-1<=s.locks.getD k 0/\s.locks.getD k 0<4:=abO E.lv d.fit.four;have L1:=FB Yj p.vs s.vars p.vs.length g.v (λk=>DB (j k).1 (j k).2);have L2:=FB Yj p.fs s.flags p.fs.length g.f (λk=>DB (u k).1 (u k).2);have L3:=FB (Cg p.ts) p.ls s.locks p.ls.length g.l (λk=>NJ g.t _);have b1:=d.v;have b2:=d.f;have b3:=d.l;have b4:p.ts.length<=4:=by rw[d.tc];exact d.fit.four
 obtain⟨y,U⟩:∃y,Bi Yj p.vs s.vars p.vs.length=y:=⟨_,rfl⟩;obtain⟨F,ac⟩:∃F,Bi Yj p.fs s.flags p.fs.length=F:=⟨_,rfl⟩;obtain⟨G,S⟩:∃G,Bi (Cg p.ts) p.ls s.locks p.ls.length=G:=⟨_,rfl⟩;have X:∀(w':Xh) (out:Tx),Xm w.heap.size w w'->BW w' w.heap.size w.heap.size out->out.length<=100000->XX Tryz.prog 99 #[Ab w.heap.size,.pointer (some ⟨b,0,none⟩),.func (.func 72) #[] #[]] w' λe m=>e = .returned (.tuple #[])/\BW m w.heap.size w.heap.size (out++y)/\Xm w.heap.size w' m:=λw' out a r c=>by
  rw[<-U];exact PU (o:=0) (T:=Yj) (x w' a) J r a.size (.inl rfl) b1 g.v c (λk=>DB (j k).1 (j k).2) (λn Q i _=>IP _ (by have:=(j i).1;show -9223372036854775808<=s.vars.getD i 0;omega) (by have:=(j i).2;show s.vars.getD i 0<=9223372036854775807;omega) n (af n (a.trans Q)))
 have R:∀(w':Xh) (out:Tx),Xm w.heap.size w w'->BW w' w.heap.size w.heap.size out->out.length<=100000->XX Tryz.prog 99 #[Ab w.heap.size,.pointer (some ⟨b,9,none⟩),.func (.func 72) #[] #[]] w' λe m=>e = .returned (.tuple #[])/\BW m w.heap.size w.heap.size (out++F)/\Xm w.heap.size w' m:=λw' out a r c=>by
  rw[<-ac];exact PU (o:=9) (T:=Yj) (x w' a) J r a.size (.inr (.inl rfl)) b2 g.f c (λk=>DB (u k).1 (u k).2) (λn Q i _=>IP _ (by have:=(u i).1;show -9223372036854775808<=s.flags.getD i 0;omega) (by have:=(u i).2;show s.flags.getD i 0<=9223372036854775807;omega) n (af n (a.trans Q)))
 have Z:∀(w':Xh) (out:Tx),Xm w.heap.size w w'->BW w' w.heap.size w.heap.size out->out.length<=100000->XX Tryz.prog 99 #[Ab w.heap.size,.pointer (some ⟨b,18,none⟩),.func (.func 100) #[Ab b] #[]] w' λe m=>e = .returned (.tuple #[])/\BW m w.heap.size w.heap.size (out++G)/\Xm w.heap.size w' m:=λw' out a r c=>by
  rw[<-S];exact VZ (o:=18) (T:=Cg p.ts) (x w' a) J r a.size (.inr (.inr rfl)) b3 g.l c (λk=>NJ g.t _) (λn Q i _=>(acQ (x n (a.trans Q)) (s.locks.getD i 0) (il i).1 (il i).2).mono (λe w3 q=>⟨q.1,by rw[q.2];exact Xq _ _⟩))
 have P:∀(w':Xh) (out:Tx) (t:Nat),t<p.ts.length->Xm w.heap.size w w'->BW w' w.heap.size w.heap.size out->out.length<=200000->XX Tryz.prog 101 #[Ab w.heap.size,.pointer (some ⟨b,27+t*207,none⟩)] w' λe m=>e = .returned (.tuple #[])/\BW m w.heap.size w.heap.size (out++CR (p.ts.getD t []) (s.th t))/\Xm w.heap.size w' m:=λw' out t K a r c=>
  VY (x w' a) J r a.size (by omega) (af w' a) av (E.th t (by rw[<-d.tc];exact K)) (d.fit.code _ (CL (by rw[<-d.tc];exact K))).1 (g.t t) c
 have I:∀t,t<p.ts.length->(CR (p.ts.getD t []) (s.th t)).length<=200:=λt K=>Mo g.t (E.th t (by rw[<-d.tc];exact K)) (d.fit.code _ (CL (by rw[<-d.tc];exact K))).1;have Y:=fun(w':Xh) (a:Xm w.heap.size w w')=>Lq (x w' a);have aB:Aj p s=y++F++G++Cv p s p.ts.length:=by unfold Aj;rw[U,ac,S]
 rw[aB];rw[U] at L1;rw[ac] at L2;rw[S] at L3;have W:=X H [] am aI (Xw _);rw[List.nil_append] at W;replace X:=Aa X;replace R:=Aa R;replace Z:=Aa Z;replace P:=Aa P;replace I:=Aa I;replace Y:=Aa Y;have au:=Aa am;clear h d E g ht aI x af j u il U ac S aB am X;unfold Ab at W |-
 go_enter Tryz.func43,Tryz.ntmps43
 go_wp2_with fail
 try rw[ag]
 refine W.mono ?_;rintro e n ⟨rfl,aJ,aK⟩;have ai:=au.out.trans aK;have aj:=R.out n y ai aJ (by omega);have aD:=Aa ai;clear W aJ aK ai au R ag;unfold Ab at aj
 go_wp2_with fail
 refine aj.mono ?_;rintro e w3 ⟨rfl,aH,aC⟩;have ak:=aD.out.trans aC;have ah:=Z.out w3 (y++F) ak aH (by rw[Xb];omega);have aA:=Aa ak;clear aj aH aC ak aD Z;unfold Ab at ah
 go_wp2_with fail
 refine ah.mono ?_;rintro e w4 ⟨rfl,ao,aF⟩;have an:=aA.out.trans aF;have c8:=Y.out w4 an;obtain⟨C,O⟩:∃C,y++F++G=C:=⟨_,rfl⟩;have aS:C.length<=1000:=by rw[<-O,Xb,Xb];omega
 rw[O] at ao;have H4:=Aa (⟨ao,an⟩:_/\_);replace O:=Aa O;clear ah ao aF an aA Y L1 L2 L3
 go_wp2_with fail
 go_loopw [23] (λj wr=>∃i:Nat,i<=p.ts.length/\j = .int .i64 i/\BW wr w.heap.size w.heap.size (C++Cv p s i)/\(Cv p s i).length<=i*200/\Xm w.heap.size w wr) (λj _=>p.ts.length - (intOf j).toNat)
 case atStart=>exact⟨0,Xw _,rfl,(by rw[KJ,List.append_nil];exact H4.out.1),(by rw[KJ];exact Xw _),H4.out.2⟩
 case round=>
  clear H4;obtain⟨i,hi,rfl,V,c,B⟩:=hrel
  by_cases A:i<p.ts.length
  ·have aT:(i:Int)<4:=by omega
   have aV:(i:Int)<(p.ts.length:Int):=by omega
   have ar:(C++Cv p s i).length<=200000:=ab4 aS c (Xu hi b4);have z:=P.out wr (C++Cv p s i) i A B V ar;clear ar;have N:=KL p s i;have aa:=I.out i A;have az:=Ia (Xu hi b4);have D:=Aa (⟨B,A,c,N,aa⟩:_/\_/\_/\_/\_);clear V B A c hi N aa I P;unfold Ab at z
   go_wp2_with fail
   refine z.mono ?_;rintro e w5 ⟨rfl,aL,M⟩;have HN:=Aa (⟨aL,D.out.1.trans M⟩:_/\_);clear z aL M
   go_wp2_with fail
   go_roundw
   case rel=>
    (try rw[az])
    obtain⟨-,A,c,N,aa⟩:=D.out;refine⟨i+1,A,rfl,?_,?_,HN.out.2⟩
    ·rw[N,<-List.append_assoc];exact HN.out.1
    ·rw[N];exact Nw c aa
   case measure=>
    (try rw[az])
    exact Xl D.out.2.1 (Xn i)
  ·have aM:i=p.ts.length:=by omega
   subst aM;have z:=aeU V B.size;have D:=Aa B;clear V B c hi A P I;unfold Ab at z
   go_wp2_with fail
   refine z.mono ?_;rintro e w5 ⟨rfl,M⟩;have HN:=Aa (D.out.trans M);clear z M D
   go_wp2_with fail
   go_ret
   exact⟨by rw[O.out];rfl,HN.out⟩
end
end Go.Proofs.YtdcacoifehkioaaGreatDoor
namespace Go.Proofs.YtdcacoifehkioaaGreatDoor
open Go.RowKit Go.Proofs.Cod
section
variable {w w':Xh} {b:Nat} {p:PD} {s:MS}
theorem Tryz.sizeMc:(Tryz.prog.info? 117).map (·.size)=some 856:=by kernel_rfl
theorem acF (i:Ad) (j:Nat):(Ly i j).oneCell'=true:=by
 unfold Ly
 repeat' split
 all_goals rfl
theorem Tv (a:Tx):(Eh a).oneCell'=true:=by unfold Eh;split<;>rfl
theorem LM (i:Ad) (j:Nat):(Gn i j).oneCell'=true:=by
 unfold Gn
 split
 ·exact acF i j
 ·exact Tv i.op
theorem Mp (nm:Tx) (c:Option (List Ad)) (th:TS) (j:Nat):(BU nm c th j).oneCell'=true:=by
 unfold BU
 split
 ·rfl
 ·split
  ·rfl
  ·split
   ·rfl
   ·split
    ·rfl
    ·unfold Tw
     split
     ·exact LM _ _
     ·split
      ·exact LM _ _
      ·split<;>exact LM _ _
theorem LQ (a:List Tx) (l:List Int) (k:Nat):(BM a l k).oneCell'=true:=by
 unfold BM
 split
 ·rfl
 ·split<;>rfl
theorem abD (p:PD) (s:MS) (k:Nat):(AA p s k).oneCell'=true:=by
 unfold AA
 split
 ·exact LQ _ _ _
 ·split
  ·exact LQ _ _ _
  ·split
   ·exact LQ _ _ _
   ·split
    ·exact Mp _ _ _ _
    ·rfl
theorem JY (f:Nat->Xk) (n:Nat) (b:∀k,(f k).oneCell'=true):∀v∈(((YB n).map f).toArray).toList,v.oneCell'=true:=by
 intro v a;simp only[List.mem_map] at a;obtain⟨k,-,rfl⟩:=a;exact b k
theorem An.fill {T n:Nat} {g f:Nat->Xk} (h:An w b T n g):An (w.setCells b 0 (((YB n).map f).toArray).toList) b T n f:=by
 refine(MG _ 0 h (by simp)).congr λk a=>?_;rw[if_pos (by simp;exact a)];simp[Xc,a]
end
section
variable {w w':Xh} {b:Nat}
theorem Tryz.sizeCs:(Tryz.prog.info? 101).map (·.size)=some 9:=by kernel_rfl
def Dc (n:Nat) (f:Nat->Xk):Array Xk:=((YB n).map f).toArray
theorem II (n:Nat) (f:Nat->Xk):(Dc n f).size=n:=by simp[Dc]
def Hs (ns:List Tx) (v:Int) (i k:Nat):Xk:=if k=8 then .int .i64 ns.length else if k % 2=0 then .string (bs ((ns.take i).getD (k / 2) [])) else .int .i64 ((Xr i v).getD (k / 2) 0)
theorem aez (a:List Tx) (v:Int) (k:Nat):Hs a v a.length k=BM a (Xr a.length v) k:=by unfold Hs BM;rw[List.take_length]
theorem Pf {α:Type} (l:List α) (i k:Nat) (d:α):(l.take i).getD k d=if k<i then l.getD k d else d:=by
 rw[Xc,List.getElem?_take]
 split
 ·rw[Xc]
 ·rfl
theorem QD (i k:Nat) (v d:Int):(Xr i v).getD k d=if k<i then v else d:=by
 rw[Xc,ZJ]
 split<;>rfl
theorem An.aaE {d:List Tx} {v:Int} {i:Nat} {T:Nat} (h:An w b T 9 (Hs d v i)) (l:i<4) (j:i<d.length):An ((w.setCell ⟨b,i*2,none⟩ (.string (bs (d.getD i [])))).setCell ⟨b,i*2+1,none⟩ (.int .i64 v)) b T 9 (Hs d v (i+1)):=by
 refine((h.set _ _).set _ _).congr λk m=>?_;unfold Hs;rw[Pf,Pf,QD,QD]
 by_cases g:k=i*2+1
 ·subst g;rw[if_pos rfl,if_neg (by omega),if_neg (by omega),if_pos (by omega)]
 ·rw[if_neg g]
  by_cases f:k=i*2
  ·subst f;rw[if_pos rfl,if_neg (by omega),if_pos (by omega),if_pos (by omega),show i*2 / 2=i by omega]
  ·rw[if_neg f]
   by_cases c:k=8
   ·rw[if_pos c,if_pos c]
   ·rw[if_neg c,if_neg c]
    by_cases e:k % 2=0
    ·rw[if_pos e,if_pos e]
     by_cases a:k / 2<i
     ·rw[if_pos a,if_pos (by omega)]
     ·rw[if_neg a,if_neg (by omega)]
    ·rw[if_neg e,if_neg e]
     by_cases a:k / 2<i
     ·rw[if_pos a,if_pos (by omega)]
     ·rw[if_neg a,if_neg (by omega)]
theorem Qs {P:Zm} {fn:Func} {tmps:Array Xk} {T k:Nat} {v:Xk} (d:fn.results = #[.cell k T]) (c:tmps[k]?=some (.pointer (some ⟨b,0,none⟩))) (a:(loadVar T ⟨b,0,none⟩).run P w = .ok v w):(results fn tmps).run P w = .ok v w:=by
 simp[results,d,c,asAddr,a]
theorem An.abo {f:Nat->Xk} (w:Xh) (o:Obj) (cs:Array Xk) (T:Nat) (a:∀k,k<cs.size->cs[k]?=some (f k)):An ((w.alloc o).alloc (.cells cs T)) (w.heap.size+1) T cs.size f:=by
 have q:=An.new (f:=f) (w.alloc o) cs T a;have e:(w.alloc o).heap.size=w.heap.size+1:=by show (w.heap.push _).size=_;simp
 rw[e] at q;exact q
theorem Ng {a:Option Addr} {n cap:Nat} {c:List Tx} (X:c.length=n) (G:Ws w a c) (h4:n<=4) (v:Int) :
 XX Tryz.prog 38 #[.slice a n cap,.int .i64 v] w λe w'=>e = .returned (.agg (Dc 9 (BM c (Xr n v))))/\Xm w.heap.size w w':=by
 subst X;have z:(Tryz.prog.info? 101).map (·.size)=some (Dc 9 (BM c (Xr c.length v))).size:=by rw[II];exact Tryz.sizeCs
 obtain⟨R,m⟩:∃R,Dc 9 (BM c (Xr c.length v))=R:=⟨_,rfl⟩;rw[m] at z |-;have B:∀x∈R.toList,x.oneCell'=true:=by rw[<-m];exact JY _ 9 (LQ _ _)
 have C:R.size=9:=by rw[<-m,II]
 replace z:=Aa z;replace m:=Aa m;replace B:=Aa B;replace C:=Aa C
 go_enter Tryz.func38,Tryz.ntmps38
 go_wp2_with fail
 go_loopw [13] (λE wr=>∃i:Nat,i<=c.length/\E = .int .i64 i/\An wr (w.heap.size+1) 101 9 (Hs c v i)/\(∃g,An wr w.heap.size 101 9 g)/\Xm w.heap.size w wr) (λE _=>c.length - (intOf E).toNat)
 case atStart=>
  refine⟨0,Xw _,rfl,?_,?_,?_⟩
  ·have q:=An.abo (f:=Hs c v 0) w (.cells #[.string ⟨#[]⟩,.int .i64 0,.string ⟨#[]⟩,.int .i64 0,.string ⟨#[]⟩,.int .i64 0,.string ⟨#[]⟩,.int .i64 0,.int .i64 0] 101) #[.string ⟨#[]⟩,.int .i64 0,.string ⟨#[]⟩,.int .i64 0,.string ⟨#[]⟩,.int .i64 0,.string ⟨#[]⟩,.int .i64 0,.int .i64 c.length] 101 (λk t=>by
    have:k=0\/k=1\/k=2\/k=3\/k=4\/k=5\/k=6\/k=7\/k=8:=by simp only[Yt,XH,X3] at t;omega
    rcases this with rfl|rfl|rfl|rfl|rfl|rfl|rfl|rfl|rfl<;>rfl)
   exact q
  ·refine⟨λk=>if k=8 then .int .i64 0 else if k % 2=0 then .string ⟨#[]⟩ else .int .i64 0,?_⟩;have q:=An.new (f:=λk=>if k=8 then .int .i64 0 else if k % 2=0 then .string ⟨#[]⟩ else .int .i64 0) w #[.string ⟨#[]⟩,.int .i64 0,.string ⟨#[]⟩,.int .i64 0,.string ⟨#[]⟩,.int .i64 0,.string ⟨#[]⟩,.int .i64 0,.int .i64 0] 101 (λk t=>by
    have:k=0\/k=1\/k=2\/k=3\/k=4\/k=5\/k=6\/k=7\/k=8:=by simp only[Yt,XH,X3] at t;omega
    rcases this with rfl|rfl|rfl|rfl|rfl|rfl|rfl|rfl|rfl<;>rfl)
   exact q.below ((Xq _ _).alloc (Xd _) _)
  ·exact((Xq _ _).alloc (Xd _) _).alloc (by simp) _
 case round=>
  obtain⟨i,M,rfl,l,d,h⟩:=hrel
  by_cases o:i<c.length
  ·have T:i<4:=by omega
   have Y:(i:Int)<4:=by omega
   obtain⟨b,K,rfl,V,c0⟩:=G i o;have c0:wr.cell? ⟨b,K+i,none⟩=_:=(h.cell (p:=⟨b,K+i,none⟩) V).trans c0;have ad:(i:Int)<(c.length:Int):=by omega
   have c1:=l.cell (k:=i*2) (by omega);have c2:=l.cell (k:=i*2+1) (by omega);have f1:=l.frozen;obtain⟨y1,H⟩:∃y,Hs c v i (i*2)=y:=⟨_,rfl⟩;obtain⟨Z,J⟩:∃y,Hs c v i (i*2+1)=y:=⟨_,rfl⟩;rw[H] at c1;rw[J] at c2;have s:=l.aaE T o;obtain⟨nm,O⟩:∃nm,c.getD i []=nm:=⟨_,rfl⟩;rw[O] at s c0;have u:=Aa (⟨s,l,d,h,o⟩:_/\_/\_/\_/\_);have Q:XO ((i:Int)+1)=(i:Int)+1:=by unfold XO;omega
   clear l d h H J o M G s O
   go_wp2_with fail
   go_roundw
   case rel=>
    (try rw[Q])
    obtain⟨s,l,⟨g,d⟩,h,o⟩:=u.out;refine⟨i+1,o,rfl,s,⟨g,(d.other (by show w.heap.size≠w.heap.size+1;omega) _).other (by show w.heap.size≠w.heap.size+1;omega) _⟩,?_⟩
    exact(h.setCell (by show w.heap.size<=w.heap.size+1;omega) _).setCell (by show w.heap.size<=w.heap.size+1;omega) _
   case measure=>
    (try rw[Q])
    have:=u.out.2.2.2.2;exact Xl this (Xn i)
  ·have U:i=c.length:=by omega
   subst U;obtain⟨g,d⟩:=d;have N:An wr (w.heap.size+1) 101 9 (BM c (Xr c.length v)):=l.congr λk _=>aez c v k;have A:∀j,j<9->wr.cell? ⟨w.heap.size+1,0+j,none⟩=some (BM c (Xr c.length v) j):=λj r=>by rw[XE];exact N.cell r
   have F:∀j,j<R.size->(wr.cell? ⟨w.heap.size,0+j,none⟩).isSome=true:=λj r=>by rw[XE,d.cell (by rw[<-C.out];exact r)];rfl
   have D:∀j,j<R.size->wr.frozen? ⟨w.heap.size,0+j,none⟩=false:=λj _=>d.frozen _;replace A:=Aa A;replace F:=Aa F;replace D:=Aa D;have u:=Aa (⟨d,h⟩:_/\_);clear l N d h M G o
   go_wp2_with (first|(refine Mm rfl _ _ rfl (w.heap.size+1) 0 9 rfl (BM c (Xr c.length v)) _ A.out Tryz.underlying101 rfl Tryz.sizeCs ?_;rw[show ((YB 9).map (BM c (Xr c.length v))).toArray=R from m.out];simp only[XF,XV,X9,X7])|(refine Iy rfl _ _ _ rfl w.heap.size 0 R rfl rfl F.out D.out z.out B.out ?_;simp only[XF,XV,X9,X7]))
   obtain⟨d,h⟩:=u.out;have q:=Fa (S:=λ_=>False) (w:=w) (b:=w.heap.size) R.toList 0 (Ac.DG h) (.inr (Xd _));have W:An (wr.setCells w.heap.size 0 R.toList) w.heap.size 101 9 (BM c (Xr c.length v)):=by rw[<-m.out];exact d.fill
   have I:=JR (P:=Tryz.prog) (wr.setCells w.heap.size 0 R.toList) w.heap.size 0 9 101 _ _ (λj r=>by rw[XE];exact W.cell r) Tryz.underlying101 rfl Tryz.sizeCs;rw[show ((YB 9).map (BM c (Xr c.length v))).toArray=R from m.out] at I;exact XJ (Qs rfl rfl I) rfl ⟨rfl,⟨q.os,q.tape,q.output,q.size,λk t=>q.block k t id⟩⟩
end
def AV (f:Nat):Xk:=.func (.func f) #[] #[]
def Gy (w:Xh) (m:Nat):Prop:=∃n f,AB sk w m f n/\∀op,(f op).getD .nilFunc=Eh op
section
variable {w w':Xh} {m:Nat}
theorem Gy.lt (h:Gy w m):m<w.heap.size:=by obtain⟨n,f,a,-⟩:=h;exact a.lt
theorem Gy.same (h:Gy w m) (e:w'.heap[m]?=w.heap[m]?):Gy w' m:=by obtain⟨n,f,a,b⟩:=h;exact⟨n,f,a.same e,b⟩
theorem Gy.look (h:Gy w m) (a:Tx):(Instr.lookup 118 (.map (some m)) (.string (bs a)) false).run Tryz.prog w = .ok (Eh a) w:=by
 obtain⟨n,f,b,c⟩:=h;have q:=b.look Tryz.strKey Tryz.underlying118 (z:=.nilFunc) (by kernel_rfl) a;rw[c a] at q;exact q
theorem Ew {w w':Xh} {B b:Nat} (g:w.grownBy w' (some b)) (c:B<=b) (a:B<=w.heap.size):Xm B w w':=⟨g.os,g.tape,g.output,g.size,λk d=>g.block k (by omega) (λe=>by injection e;omega)⟩
theorem adB (a:Tx) (f:Tx->Option Xk) (h:f=(Bz (Bz (Bz (Bz (Bz (Bz (Bz (Bz (Bz (Bz (Bz (Bz (Bz (Bz (Bz (Bz (Bz (λ_=>none) Eo (AV 74)) Er (AV 77)) En (AV 78)) Ep (AV 79)) Bu (AV 80)) AM (AV 82)) Ec (AV 84)) Eb (AV 85)) BP (AV 86)) CI (AV 87)) BJ (AV 88)) BQ (AV 89)) Dg (AV 91)) CX (AV 93)) CW (AV 94)) Dh (AV 95)) Eq (AV 96))):(f a).getD .nilFunc=Eh a:=by
 subst h
 by_cases i:a=Eo
 ·subst i;rfl
 by_cases s:a=Er
 ·subst s;rfl
 by_cases d:a=En
 ·subst d;rfl
 by_cases p:a=Ep
 ·subst p;rfl
 by_cases c:a=Bu
 ·subst c;rfl
 by_cases u:a=AM
 ·subst u;rfl
 by_cases g:a=Ec
 ·subst g;rfl
 by_cases m:a=Eb
 ·subst m;rfl
 by_cases r:a=BP
 ·subst r;rfl
 by_cases j:a=CI
 ·subst j;rfl
 by_cases n:a=BJ
 ·subst n;rfl
 by_cases e:a=BQ
 ·subst e;rfl
 by_cases b:a=Dg
 ·subst b;rfl
 by_cases o:a=CX
 ·subst o;rfl
 by_cases t:a=CW
 ·subst t;rfl
 by_cases k:a=Dh
 ·subst k;rfl
 by_cases l:a=Eq
 ·subst l;rfl
 rw[CU _ l,CU _ k,CU _ t,CU _ o,CU _ b,CU _ e,CU _ n,CU _ j,CU _ r,CU _ m,CU _ g,CU _ u,CU _ c,CU _ p,CU _ d,CU _ s,CU _ i];unfold Eh LN;simp only[List.find?,show decide (Eo=a)=false from decide_eq_false (λq=>i q.symm),show decide (Er=a)=false from decide_eq_false (λq=>s q.symm),show decide (En=a)=false from decide_eq_false (λq=>d q.symm),show decide (Ep=a)=false from decide_eq_false (λq=>p q.symm),show decide (Bu=a)=false from decide_eq_false (λq=>c q.symm),show decide (AM=a)=false from decide_eq_false (λq=>u q.symm),show decide (Ec=a)=false from decide_eq_false (λq=>g q.symm),show decide (Eb=a)=false from decide_eq_false (λq=>m q.symm),show decide (BP=a)=false from decide_eq_false (λq=>r q.symm),show decide (CI=a)=false from decide_eq_false (λq=>j q.symm),show decide (BJ=a)=false from decide_eq_false (λq=>n q.symm),show decide (BQ=a)=false from decide_eq_false (λq=>e q.symm),show decide (Dg=a)=false from decide_eq_false (λq=>b q.symm),show decide (CX=a)=false from decide_eq_false (λq=>o q.symm),show decide (CW=a)=false from decide_eq_false (λq=>t q.symm),show decide (Dh=a)=false from decide_eq_false (λq=>k q.symm),show decide (Eq=a)=false from decide_eq_false (λq=>l q.symm)]
 rfl
theorem ad4 (w:Xh):XX Tryz.prog 39 #[] w λe w'=>e = .returned (.map (some w.heap.size))/\Gy w' w.heap.size/\Xm w.heap.size w w':=by
 have F:AB sk (w.alloc (.map #[] 0)) w.heap.size (λ_=>none) 0:=AB.made w;have B0:Xm w.heap.size w (w.alloc (.map #[] 0)):=(Xq _ _).alloc (Xd _) _;obtain⟨w1,r1,h1,R,-⟩:=F.put Tryz.strKey Tryz.underlying118 Eo (AV 74);have j:=B0.trans (Ew R (Xd _) B0.size);obtain⟨w2,r2,h2,P,-⟩:=h1.put Tryz.strKey Tryz.underlying118 Er (AV 77);have f:=j.trans (Ew P (Xd _) j.size);obtain⟨w3,r3,h3,S,-⟩:=h2.put Tryz.strKey Tryz.underlying118 En (AV 78);have k:=f.trans (Ew S (Xd _) f.size);obtain⟨w4,r4,Q,K,-⟩:=h3.put Tryz.strKey Tryz.underlying118 Ep (AV 79);have h:=k.trans (Ew K (Xd _) k.size);obtain⟨w5,r5,X,T,-⟩:=Q.put Tryz.strKey Tryz.underlying118 Bu (AV 80);have q:=h.trans (Ew T (Xd _) h.size);obtain⟨w6,r6,J,W,-⟩:=X.put Tryz.strKey Tryz.underlying118 AM (AV 82);have o:=q.trans (Ew W (Xd _) q.size);obtain⟨w7,r7,A,B,-⟩:=J.put Tryz.strKey Tryz.underlying118 Ec (AV 84);have p:=o.trans (Ew B (Xd _) o.size);obtain⟨w8,r8,M,u,-⟩:=A.put Tryz.strKey Tryz.underlying118 Eb (AV 85);have g:=p.trans (Ew u (Xd _) p.size);obtain⟨w9,r9,v,D,-⟩:=M.put Tryz.strKey Tryz.underlying118 BP (AV 86);have b:=g.trans (Ew D (Xd _) g.size);obtain⟨aP,af,V,x,-⟩:=v.put Tryz.strKey Tryz.underlying118 CI (AV 87);have d:=b.trans (Ew x (Xd _) b.size);obtain⟨aJ,au,H,E,-⟩:=V.put Tryz.strKey Tryz.underlying118 BJ (AV 88);have c:=d.trans (Ew E (Xd _) d.size);obtain⟨aO,aw,C,I,-⟩:=H.put Tryz.strKey Tryz.underlying118 BQ (AV 89);have n:=c.trans (Ew I (Xd _) c.size);obtain⟨aF,ao,Z,r,-⟩:=C.put Tryz.strKey Tryz.underlying118 Dg (AV 91);have l:=n.trans (Ew r (Xd _) n.size);obtain⟨aG,ak,U,y,-⟩:=Z.put Tryz.strKey Tryz.underlying118 CX (AV 93);have a:=l.trans (Ew y (Xd _) l.size);obtain⟨aN,ag,Y,O,-⟩:=U.put Tryz.strKey Tryz.underlying118 CW (AV 94);have m:=a.trans (Ew O (Xd _) a.size);obtain⟨aE,aj,ac,t,-⟩:=Y.put Tryz.strKey Tryz.underlying118 Dh (AV 95);have i:=m.trans (Ew t (Xd _) m.size);obtain⟨s,ah,z,N,-⟩:=ac.put Tryz.strKey Tryz.underlying118 Eq (AV 96);have G:=i.trans (Ew N (Xd _) i.size);unfold AV sk Eo bs at r1;unfold AV sk Er bs at r2;unfold AV sk En bs at r3;unfold AV sk Ep bs at r4;unfold AV sk Bu bs at r5;unfold AV sk AM bs at r6;unfold AV sk Ec bs at r7;unfold AV sk Eb bs at r8;unfold AV sk BP bs at r9;unfold AV sk CI bs at af;unfold AV sk BJ bs at au;unfold AV sk BQ bs at aw;unfold AV sk Dg bs at ao;unfold AV sk CX bs at ak;unfold AV sk CW bs at ag;unfold AV sk Dh bs at aj;unfold AV sk Eq bs at ah;have HF:=Aa (⟨⟨_,_,z,λop=>adB op _ rfl⟩,G⟩:Gy s w.heap.size/\Xm w.heap.size w s);clear F B0 h1 j h2 f h3 k Q h X q J o A p M g v b V d H c C n Z l U a Y m ac i z G R P S K T W B u D x E I r y O t N;have aI:=@run_makeMap Tryz.prog
 go_enter Tryz.func39,Tryz.ntmps39
 go_wp2_with fail
 go_ret
 exact⟨rfl,HF.out⟩
end
section
variable {w w':Xh} {b:Nat}
theorem Tryz.sizeTh:(Tryz.prog.info? 114).map (·.size)=some 207:=by kernel_rfl
theorem Tryz.sizeDeed:(Tryz.prog.info? 111).map (·.size)=some 8:=by kernel_rfl
def FU (nm:Tx) (c:List Ad) (i j:Nat):Xk:=if j=0 then .string (bs nm) else if j<7 then .int .i64 0 else if (j - 7) / 8<i then Gn (c.getD ((j - 7) / 8) Cn) ((j - 7) % 8) else Gn (CE []) ((j - 7) % 8)
def Gp (x:Ad):Array Xk := #[.string (bs x.op),.int .i64 x.r,.bool x.aR,.int .i64 x.aN,.bool x.bR,.int .i64 x.bN,.int .i64 x.x,Eh x.op]
theorem Ty (x:Ad):∀v∈(Gp x).toList,v.oneCell'=true:=by
 intro v a;simp only[Gp,List.mem_cons,List.not_mem_nil,or_false] at a
 rcases a with rfl|rfl|rfl|rfl|rfl|rfl|rfl|rfl
 all_goals first|rfl|exact Tv _
theorem ad7 (x:Ad) {j:Nat} (h:j<8):(Gp x).toList.getD j Ya=Gn x j:=by
 have:j=0\/j=1\/j=2\/j=3\/j=4\/j=5\/j=6\/j=7:=by omega
 rcases this with rfl|rfl|rfl|rfl|rfl|rfl|rfl|rfl<;>rfl
theorem An.QT {nm:Tx} {c:List Ad} {i:Nat} {T:Nat} (h:An w b T 207 (FU nm c i)) (f:i<25) {x:Ad} (d:c.getD i Cn=x):An (w.setCells b (7+i*8) (Gp x).toList) b T 207 (FU nm c (i+1)):=by
 refine(MG _ (7+i*8) h (by show 7+i*8+8<=207;omega)).congr λk g=>?_;show (if 7+i*8<=k/\k<7+i*8+8 then _ else _)=_
 by_cases e:7+i*8<=k/\k<7+i*8+8
 ·rw[if_pos e,ad7 x (by omega)];unfold FU;rw[if_neg (by omega),if_neg (by omega),if_pos (by omega),show (k - 7) / 8=i by omega,d,show k - (7+i*8)=(k - 7) % 8 by omega]
 ·rw[if_neg e];unfold FU
  split
  ·rfl
  ·split
   ·rfl
   ·by_cases a:(k - 7) / 8<i
    ·rw[if_pos a,if_pos (by omega)]
    ·rw[if_neg a,if_neg (by omega)]
theorem Vg (nm:Tx) (c:List Ad) (k:Nat):FU nm c (c.length+1) k=BU nm (some c) AC k:=by
 unfold FU BU
 by_cases b:k=0
 ·rw[if_pos b,if_pos b]
 ·rw[if_neg b,if_neg b]
  by_cases f:k=1
  ·subst f;rfl
  ·rw[if_neg f]
   by_cases e:k=2
   ·subst e;rfl
   ·rw[if_neg e]
    by_cases a:k<7
    ·rw[if_pos a,if_pos a];have:k - 3=0\/k - 3=1\/k - 3=2\/k - 3=3:=by omega
     rcases this with q|q|q|q<;>rw[q]<;>rfl
    ·rw[if_neg a,if_neg a];show _=if (k - 7) / 8<c.length then _ else if (k - 7) / 8=c.length then _ else _
     by_cases g:(k - 7) / 8<c.length
     ·rw[if_pos g,if_pos (by omega)]
     ·rw[if_neg g]
      by_cases d:(k - 7) / 8=c.length
      ·rw[if_pos d,if_pos (by omega),d,Xc,XU (Xd _)];rfl
      ·rw[if_neg d,if_neg (by omega)]
end
section
variable {w w':Xh} {b:Nat}
theorem ad2 (a:Tx):Eh a = .nilFunc\/∃f,Eh a = .func (.func f) #[] #[]:=by
 unfold Eh
 split
 ·exact .inr ⟨_,rfl⟩
 ·exact .inl rfl
def Jv (x:Ad) (d:Xk):Array Xk := #[.string (bs x.op),.int .i64 x.r,.bool x.aR,.int .i64 x.aN,.bool x.bR,.int .i64 x.bN,.int .i64 x.x,d]
theorem Vb (s:ByteArray):Tryz.zeroCells114.setIfInBounds 0 (.string s)=Dc 207 (λj=>if j=0 then .string s else FU [] [] 0 j):=by kernel_rfl
theorem Va (nm:Tx) (c:List Ad):(Tryz.zeroCells114.setIfInBounds 0 (.string (bs nm)))=Dc 207 (FU nm c 0):=by
 rw[Vb];unfold Dc
 congr 1
structure OA (w wr:Xh) (nm:Tx) (c:List Ad) (i:Nat):Prop where
 r:An wr (w.heap.size+1+1) 114 207 (FU nm c i)
 b:∃g,An wr (w.heap.size+1) 114 207 g
 low:Xm w.heap.size w wr
 sz:w.heap.size+1+1<wr.heap.size
theorem abl {base m:Nat} {cv:Xk} (nm:Tx) {c:List Ad} (Q:w.ownsRow base 108 7 cv c.length (GM c)) (hl:c.length<=24) (K:Gy w m) :
 XX Tryz.prog 40 #[.agg #[.string (bs nm),cv],.map (some m)] w λe w'=>e = .returned (.agg (Dc 207 (BU nm (some c) AC)))/\Xm w.heap.size w w':=by
 obtain⟨ca,A,aH⟩:=At Q;subst aH;obtain⟨R,C⟩:∃R,Dc 207 (BU nm (some c) AC)=R:=⟨_,rfl⟩;have af:R.size=207:=by rw[<-C,II]
 have Y:∀x∈R.toList,x.oneCell'=true:=by rw[<-C];exact JY _ 207 (Mp _ _ _)
 have V:(Tryz.prog.info? 114).map (·.size)=some R.size:=by rw[af];exact Tryz.sizeTh
 obtain⟨Z,hZ⟩:∃Z,(Tryz.zeroCells114.setIfInBounds 0 (.string (bs nm)))=Z:=⟨_,rfl⟩;have ak:Z=Dc 207 (FU nm c 0):=by rw[<-hZ];exact Va nm c
 have aE:Z.size=207:=by rw[ak,II]
 have aK:∀x∈Z.toList,x.oneCell'=true:=by
  rw[ak];refine JY _ 207 (λj=>?_);unfold FU
  split
  ·rfl
  ·split
   ·rfl
   ·split<;>exact LM _ _
 have aL:(Tryz.prog.info? 114).map (·.size)=some Z.size:=by rw[aE];exact Tryz.sizeTh
 rw[C];obtain⟨u,G⟩:∃u,(((w.alloc (.cells #[.string (bs nm),.slice ca c.length A] 122)).alloc (.cells Tryz.zeroCells114 114)).alloc (.cells Tryz.zeroCells114 114))=u:=⟨_,rfl⟩;have ap:(w.alloc (.cells #[.string (bs nm),.slice ca c.length A] 122)).heap.size=w.heap.size+1:=by show (w.heap.push _).size=_;simp
 have aw:((w.alloc (.cells #[.string (bs nm),.slice ca c.length A] 122)).alloc (.cells Tryz.zeroCells114 114)).heap.size=w.heap.size+1+1:=by show ((w.heap.push _).push _).size=_;simp
 have a4:u.heap.size=w.heap.size+1+1+1:=by rw[<-G];show (((w.heap.push _).push _).push _).size=_;simp
 have b1:=An.new (f:=λk=>Tryz.zeroCells114.getD k Ya) (w.alloc (.cells #[.string (bs nm),.slice ca c.length A] 122)) Tryz.zeroCells114 114 (λk y=>by rw[Zg,Y8 y];rfl);have b2:=An.new (f:=λk=>Tryz.zeroCells114.getD k Ya) ((w.alloc (.cells #[.string (bs nm),.slice ca c.length A] 122)).alloc (.cells Tryz.zeroCells114 114)) Tryz.zeroCells114 114 (λk y=>by rw[Zg,Y8 y];rfl);replace b1:=b1.below (w':=u) (by rw[<-G];exact(Xq _ _).alloc (Xd _) _);rw[G,aw,Tryz.zeroCells114_size] at b2;rw[ap,Tryz.zeroCells114_size] at b1;have aS:u.heap[w.heap.size]?=some (.cells #[.string (bs nm),.slice ca c.length A] 122):=by
  rw[<-G,Xv _ _ _ (by rw[aw];omega),Xv _ _ _ (by rw[ap];omega)];exact World.alloc_heap_new w _
 have X:Xm w.heap.size w u:=by rw[<-G];exact(((Xq _ _).alloc (Xd _) _).alloc (by rw[ap];omega) _).alloc (by rw[aw];omega) _
 have t:=Fa (S:=λk=>k=w.heap.size+1+1) (w:=u) (b:=w.heap.size+1+1) Z.toList 0 (Ac.refl u) (.inl rfl);obtain⟨W2,T⟩:∃W2,u.setCells (w.heap.size+1+1) 0 Z.toList=W2:=⟨_,rfl⟩;rw[T] at t;have o:∀j,j<Z.size->(u.cell? ⟨w.heap.size+1+1,0+j,none⟩).isSome=true:=λj n=>by rw[XE,b2.cell (by rw[<-aE];exact n)];rfl
 have s:∀j,j<Z.size->u.frozen? ⟨w.heap.size+1+1,0+j,none⟩=false:=λj _=>b2.frozen _;have aD:W2.heap[w.heap.size]?=some (.cells #[.string (bs nm),.slice ca c.length A] 122):=(t.block _ (by omega) (by omega)).trans aS;have c1:W2.cell? ⟨w.heap.size,1,none⟩=some (.slice ca c.length A):=by simp[World.cell?,aD]
 have hN:OA w W2 nm c 0:=by
  refine⟨?_,⟨_,b1.keep t (by omega)⟩,⟨t.os.trans X.os,t.tape.trans X.tape,t.output.trans X.output,Xu X.size t.size,λk y=>(t.block k (by omega) (by omega)).trans (X.block k y)⟩,by have:=t.size;omega⟩;rw[<-T,ak];exact b2.fill
 have HR:=Aa (⟨C,af,Y,V⟩:_/\_/\_/\_);have HZ:=Aa (⟨aK,aL,o,s⟩:_/\_/\_/\_);have HC:=Aa (⟨Q,K,aD,hl⟩:_/\_/\_/\_);replace hN:=Aa hN;replace G:=Aa G;replace T:=Aa T;replace hZ:=Aa hZ;clear C af Y V ak aE aK aL Q K ap aw a4 b1 b2 aS X t o s aD hl
 go_enter Tryz.func40,Tryz.ntmps40
 go_wp2_with (refine Iy rfl _ _ _ rfl (w.heap.size+1+1) 0 Z rfl (by rw[<-hZ.out];rfl) (by rw[G.out];exact HZ.out.2.2.1) (by rw[G.out];exact HZ.out.2.2.2) HZ.out.2.1 HZ.out.1 ?_;rw[G.out,T.out];simp only[XF,XV,X9,X7])
 clear G HZ hZ c1
 go_loopw [14] (λiv wr=>∃i:Nat,i<=c.length/\iv = .int .i64 i/\OA w wr nm c i/\wr.heap[w.heap.size]?=some (.cells #[.string (bs nm),.slice ca c.length A] 122)) (λiv _=>c.length - (intOf iv).toNat)
 case atStart=>exact⟨0,Xw _,rfl,hN.out,HC.out.2.2.1⟩
 case round=>
  obtain⟨i,hi,rfl,a,aA⟩:=hrel;clear hN;obtain⟨Q,K,-,hl⟩:=HC.out;have az:i<25:=by omega
  by_cases h5:i<c.length
  ·have aX:(i:Int)<25:=by omega
   obtain⟨x,hx⟩:∃x,c[i]?=some x:=⟨_,List.getElem?_eq_getElem h5⟩;obtain⟨g,cap,aH,a9,hI⟩:=acP (EI Q a.low) hx;injection aH with hca hcl hcc
   subst hca;have ba:(i:Int)<(c.length:Int):=by omega
   obtain⟨k0,k1,t,k3,k4,k5,k6⟩:=hI;have aG:c.getD i Cn=x:=by rw[Xc,hx];rfl
   obtain⟨l,E,F,v,B,z,H⟩:=x;dsimp only at k0 k1 t k3 k4 k5 k6;obtain⟨I,hI⟩:∃I:Array Xk,#[.string (bs l),.int .i64 E,.bool F,.int .i64 v,.bool B,.int .i64 z,.int .i64 H]=I:=⟨_,rfl⟩;have M:Xm wr.heap.size wr (wr.alloc (.cells I 108)):=(Xq _ _).alloc (Xd _) _;have aq:=a.r.below M;have ar:=((K.same (w':=wr) (a.low.block m K.lt)).same (w':=wr.alloc (.cells I 108)) (M.block m (by have:=K.lt;have:=a.low.size;omega))).look l;have o:∀j,j<(Gp ⟨l,E,F,v,B,z,H⟩).size->((wr.alloc (.cells I 108)).cell? ⟨w.heap.size+1+1,7+i*8+j,none⟩).isSome=true:=λj n=>by rw[aq.cell (by have n:j<8:=n;omega)];rfl
   have s:∀j,j<(Gp ⟨l,E,F,v,B,z,H⟩).size->(wr.alloc (.cells I 108)).frozen? ⟨w.heap.size+1+1,7+i*8+j,none⟩=false:=λj _=>aq.frozen _;have O:=aq.QT az aG;have h:=Fa (S:=λk=>k=w.heap.size+1+1) (w:=wr.alloc (.cells I 108)) (b:=w.heap.size+1+1) (Gp ⟨l,E,F,v,B,z,H⟩).toList (7+i*8) (Ac.refl _) (.inl rfl);have ao:XO ((i:Int)+1)=(i:Int)+1:=by unfold XO;omega
   have ai:OA w ((wr.alloc (.cells I 108)).setCells (w.heap.size+1+1) (7+i*8) (Gp ⟨l,E,F,v,B,z,H⟩).toList) nm c (i+1)/\((wr.alloc (.cells I 108)).setCells (w.heap.size+1+1) (7+i*8) (Gp ⟨l,E,F,v,B,z,H⟩).toList).heap[w.heap.size]?=some (.cells #[.string (bs nm),.slice (some ⟨g,0,none⟩) c.length A] 122):=by
    obtain⟨gg,hg⟩:=a.b;have aR:=a.sz;have hz:=M.size;refine⟨⟨O,⟨gg,(hg.below M).keep h (by omega)⟩,⟨h.os.trans (M.os.trans a.low.os),h.tape.trans (M.tape.trans a.low.tape),h.output.trans (M.output.trans a.low.output),Xu a.low.size (Xu hz h.size),λk y=>(h.block k (by omega) (by omega)).trans ((M.block k (by omega)).trans (a.low.block k y))⟩,by have:=h.size;omega⟩,?_⟩
    exact(h.block _ (by omega) (by omega)).trans ((M.block _ (by omega)).trans aA)
   have J:=Ty ⟨l,E,F,v,B,z,H⟩;have aT:Gp ⟨l,E,F,v,B,z,H⟩=Jv ⟨l,E,F,v,B,z,H⟩ (Eh l):=rfl;rw[aT] at o s ai J;have aU:=ad2 l;obtain⟨dv,aV⟩:∃dv,Eh l=dv:=⟨_,rfl⟩;rw[aV] at o s ai J aU ar;obtain⟨D,p⟩:∃D:Array Xk,#[.string (bs l),.int .i64 E,.bool F,.int .i64 v,.bool B,.int .i64 z,.int .i64 H,dv]=D:=⟨_,rfl⟩;rw[show Jv ⟨l,E,F,v,B,z,H⟩ dv=D from p] at o s ai J;have W:(Tryz.prog.info? 111).map (·.size)=some D.size:=by rw[<-p];exact Tryz.sizeDeed
   have d:=Aa (⟨ai,h5,o,s,J,W⟩:_/\_/\_/\_/\_/\_);replace p:=Aa p;replace aG:=Aa aG;subst hI;clear a aA Q K hl hi az h5 hx M aq o s O h ai a9 hcc hcl HC aT aV J W
   rcases aU with rfl|⟨f,rfl⟩
   ·skip
    go_wp2_with (refine Iy rfl _ _ _ rfl (w.heap.size+1+1) (7+i*8) D rfl (by rw[<-p.out];rfl) d.out.2.2.1 d.out.2.2.2.1 d.out.2.2.2.2.2 d.out.2.2.2.2.1 ?_;simp only[XF,XV,X9,X7])
    go_roundw
    case rel=>
     (try rw[ao])
     exact⟨i+1,d.out.2.1,rfl,d.out.1⟩
    case measure=>
     (try rw[ao])
     exact Xl d.out.2.1 (Xn i)
   ·skip
    go_wp2_with (refine Iy rfl _ _ _ rfl (w.heap.size+1+1) (7+i*8) D rfl (by rw[<-p.out];rfl) d.out.2.2.1 d.out.2.2.2.1 d.out.2.2.2.2.2 d.out.2.2.2.2.1 ?_;simp only[XF,XV,X9,X7])
    go_roundw
    case rel=>
     (try rw[ao])
     exact⟨i+1,d.out.2.1,rfl,d.out.1⟩
    case measure=>
     (try rw[ao])
     exact Xl d.out.2.1 (Xn i)
  ·have aZ:i=c.length:=by omega
   subst aZ;have aX:(c.length:Int)<25:=by omega
   have ar:=(K.same (w':=wr) (a.low.block m K.lt)).look Eq;rw[show Eh Eq = .func (.func 96) #[] #[] from rfl] at ar;unfold Eq bs at ar;have c1:wr.cell? ⟨w.heap.size,1,none⟩=some (.slice ca c.length A):=by simp[World.cell?,aA]
   have o:∀j,j<(Jv Cn (.func (.func 96) #[] #[])).size->(wr.cell? ⟨w.heap.size+1+1,7+c.length*8+j,none⟩).isSome=true:=λj n=>by rw[a.r.cell (by have n:j<8:=n;omega)];rfl
   have s:∀j,j<(Jv Cn (.func (.func 96) #[] #[])).size->wr.frozen? ⟨w.heap.size+1+1,7+c.length*8+j,none⟩=false:=λj _=>a.r.frozen _;have O:=a.r.QT az (x:=Cn) (by rw[Xc,XU (Xd _)];rfl);have J:=Ty Cn;rw[show Gp Cn=Jv Cn (.func (.func 96) #[] #[]) from rfl] at O J;obtain⟨D,p⟩:∃D:Array Xk,#[.string ⟨#[101,110,100]⟩,.int .i64 0,.bool false,.int .i64 0,.bool false,.int .i64 0,.int .i64 0,.func (.func 96) #[] #[]]=D:=⟨_,rfl⟩;rw[show Jv Cn (.func (.func 96) #[] #[])=D from p] at o s O J;have W:(Tryz.prog.info? 111).map (·.size)=some D.size:=by rw[<-p];exact Tryz.sizeDeed
   have h:=Fa (S:=λk=>k=w.heap.size+1+1) (w:=wr) (b:=w.heap.size+1+1) D.toList (7+c.length*8) (Ac.refl _) (.inl rfl);obtain⟨N,ay⟩:∃N,wr.setCells (w.heap.size+1+1) (7+c.length*8) D.toList=N:=⟨_,rfl⟩;rw[ay] at O h;have aM:An N (w.heap.size+1+1) 114 207 (BU nm (some c) AC):=O.congr λk _=>Vg nm c k;obtain⟨gg,hg⟩:=a.b;have aR:=a.sz;have U:=hg.keep h (by omega);obtain⟨C,af,Y,V⟩:=HR.out;have p1:∀j,j<207->N.cell? ⟨w.heap.size+1+1,0+j,none⟩=some (BU nm (some c) AC j):=λj n=>by rw[XE];exact aM.cell n
   have p2:∀j,j<R.size->(N.cell? ⟨w.heap.size+1,0+j,none⟩).isSome=true:=λj n=>by rw[XE,U.cell (by rw[<-af];exact n)];rfl
   have p3:∀j,j<R.size->N.frozen? ⟨w.heap.size+1,0+j,none⟩=false:=λj _=>U.frozen _;have an:Xm w.heap.size w N:=⟨h.os.trans a.low.os,h.tape.trans a.low.tape,h.output.trans a.low.output,Xu a.low.size h.size,λk y=>(h.block k (by omega) (by omega)).trans (a.low.block k y)⟩;have d:=Aa (⟨o,s,J,p1,p2,p3⟩:_/\_/\_/\_/\_/\_);have HM:=Aa (⟨U,an⟩:_/\_);replace ay:=Aa ay;replace p:=Aa p;replace W:=Aa W;replace C:=Aa C;replace V:=Aa V;replace Y:=Aa Y;clear a aA Q K hl hi az h5 o s O J h aM hg aR U p1 p2 p3 an HC HR T
   go_wp2_with (first|(refine Iy rfl _ _ _ rfl (w.heap.size+1+1) (7+c.length*8) D rfl (by rw[<-p.out];rfl) d.out.1 d.out.2.1 W.out d.out.2.2.1 ?_;rw[ay.out];simp only[XF,XV,X9,X7])|(refine Mm rfl _ _ rfl (w.heap.size+1+1) 0 207 rfl (BU nm (some c) AC) _ d.out.2.2.2.1 Tryz.underlying114 rfl Tryz.sizeTh ?_;rw[show ((YB 207).map (BU nm (some c) AC)).toArray=R from C.out];simp only[XF,XV,X9,X7])|(refine Iy rfl _ _ _ rfl (w.heap.size+1) 0 R rfl rfl d.out.2.2.2.2.1 d.out.2.2.2.2.2 V.out Y.out ?_;simp only[XF,XV,X9,X7]))
   obtain⟨U,an⟩:=HM.out;have q:=Fa (S:=λ_=>False) (w:=w) (b:=w.heap.size+1) R.toList 0 (Ac.DG an) (.inr (by omega));have hF:An (N.setCells (w.heap.size+1) 0 R.toList) (w.heap.size+1) 114 207 (BU nm (some c) AC):=by rw[<-C.out];exact U.fill
   have hL:=JR (P:=Tryz.prog) (N.setCells (w.heap.size+1) 0 R.toList) (w.heap.size+1) 0 207 114 _ _ (λj n=>by rw[XE];exact hF.cell n) Tryz.underlying114 rfl Tryz.sizeTh;rw[show ((YB 207).map (BU nm (some c) AC)).toArray=R from C.out] at hL;exact XJ (Qs rfl rfl hL) rfl ⟨rfl,⟨q.os,q.tape,q.output,q.size,λk y=>q.block k y id⟩⟩
end
section
variable {w w':Xh} {b:Nat} {p:PD}
theorem abJ (a:Nat->Xk) (n:Int):Tryz.prog.built 117 [(0,.agg #[a 0,a 1,a 2,a 3,a 4,a 5,a 6,a 7,a 8]),(1,.agg #[a 9,a 10,a 11,a 12,a 13,a 14,a 15,a 16,a 17]),(2,.agg #[a 18,a 19,a 20,a 21,a 22,a 23,a 24,a 25,a 26]),(4,.int .i64 n)]=some (Dc 856 (λk=>if k<27 then a k else if k=855 then .int .i64 n else BU [] none AC ((k - 27) % 207))):=by kernel_rfl
def Ex (p:PD):MS:=⟨Xr p.vs.length 0,Xr p.fs.length 0,Xr p.ls.length (-1),Xr p.ts.length AC⟩
theorem Jy (p:PD) (t:Nat):(Ex p).th t=AC:=by
 unfold MS.th Ex;rw[Xc,ZJ]
 split<;>rfl
theorem RM {s s':MS} (c:s'.vars=s.vars) (d:s'.flags=s.flags) (a:s'.locks=s.locks) (b:∀t,s'.th t=s.th t) (k:Nat):AA p s' k=AA p s k:=by
 unfold AA;rw[c,d,a,b]
theorem aeQ (p:PD) (k:Nat) (h:0<p.ts.length):AA p ((Ex p).Ae 0 {(Ex p).th 0 with ph:=1}) k=AA p (AH p.vs.length p.fs.length p.ls.length p.ts.length) k:=by
 refine RM (s:=AH p.vs.length p.fs.length p.ls.length p.ts.length) (s':=(Ex p).Ae 0 {(Ex p).th 0 with ph:=1}) rfl rfl rfl (λt=>?_) k;have b:0<(Ex p).thr.length:=by unfold Ex;simpa using h
 rw[Fr _ 0 t _ b,Jy,Jy];unfold MS.th AH;dsimp only;rw[Xc,Xs]
 by_cases a:t<p.ts.length
 ·rw[Zr a];rfl
 ·rw[XU (by simpa using a)];show _=AC;rw[if_neg (by omega)]
theorem aeP (p:PD) (k:Nat) (h:p.ts.length=0):AA p (Ex p) k=AA p (AH p.vs.length p.fs.length p.ls.length p.ts.length) k:=by
 refine RM (s:=AH p.vs.length p.fs.length p.ls.length p.ts.length) (s':=Ex p) rfl rfl rfl (λt=>?_) k;rw[Jy];unfold MS.th AH;rw[h];rfl
def Fg (p:PD) (i k:Nat):Xk:=if k<27 then AA p (Ex p) k else if k=855 then .int .i64 p.ts.length else if (k - 27) / 207<i then AA p (Ex p) k else BU [] none AC ((k - 27) % 207)
theorem abC (p:PD) (d:p.C.length=p.ts.length) (k:Nat) (e:k<856):Fg p p.ts.length k=AA p (Ex p) k:=by
 unfold Fg
 by_cases a:k<27
 ·rw[if_pos a]
 ·rw[if_neg a]
  by_cases b:k=855
  ·rw[if_pos b,b,RK]
  ·rw[if_neg b]
   by_cases c:(k - 27) / 207<p.ts.length
   ·rw[if_pos c]
   ·rw[if_neg c];unfold AA;rw[if_neg (by omega),if_neg (by omega),if_neg a];rw[if_pos (by omega),Jy,Xc,XU (by omega),XU (by omega)];rfl
theorem abB (p:PD):(λk=>if k<27 then(λk=>if k<9 then BM p.vs (Xr p.vs.length 0) k else if k<18 then BM p.fs (Xr p.fs.length 0) (k - 9) else BM p.ls (Xr p.ls.length (-1)) (k - 18)) k else if k=855 then .int .i64 p.ts.length else BU [] none AC ((k - 27) % 207))=Fg p 0:=by
 funext k
 unfold Fg;dsimp only
 by_cases b:k<27
 ·rw[if_pos b,if_pos b];unfold AA
  by_cases a:k<9
  ·rw[if_pos a,if_pos a];rfl
  ·rw[if_neg a,if_neg a]
   by_cases c:k<18
   ·rw[if_pos c,if_pos c];rfl
   ·rw[if_neg c,if_neg c,if_pos b];rfl
 ·rw[if_neg b,if_neg b]
  by_cases a:k=855
  ·rw[if_pos a,if_pos a]
  ·rw[if_neg a,if_neg a,if_neg (by omega)]
theorem An.aaC {i T:Nat} (h:An w b T 856 (Fg p i)) (c:i<4):An (w.setCells b (27+i*207) (Dc 207 (BU (p.ts.getD i []) (p.C[i]?) AC)).toList) b T 856 (Fg p (i+1)):=by
 refine(MG _ (27+i*207) h (by simp[Dc];omega)).congr λk d=>?_;rw[show (Dc 207 (BU (p.ts.getD i []) (p.C[i]?) AC)).toList.length=207 by simp[Dc]]
 by_cases e:27+i*207<=k/\k<27+i*207+207
 ·rw[if_pos e];unfold Fg;rw[if_neg (by omega),if_neg (by omega),if_pos (by omega)];have q:=Fz p (Ex p) c (j:=k - (27+i*207)) (by omega);rw[show 27+i*207+(k - (27+i*207))=k by omega,Jy] at q;rw[q];simp only[Dc,Xc,Xs];rw[Zr (by omega)];rfl
 ·rw[if_neg e];unfold Fg
  split
  ·rfl
  ·split
   ·rfl
   ·by_cases a:(k - 27) / 207<i
    ·rw[if_pos a,if_pos (by omega)]
    ·rw[if_neg a,if_neg (by omega)]
theorem Fq {P:Zm} {o:Oper} {a:Act} {w:Xh} {K:Act->Xh->Prop} {Q:Exit->Act->Xh->Prop} (d:YM) (x y:Operand) (l:o.op = .store d x y)
 (b c:Nat) (vs:Array Xk) (f:a.eval x = .pointer (some ⟨b,c,none⟩)) (k:a.eval y = .agg vs) (g:∀j,j<vs.size->(w.cell? ⟨b,c+j,none⟩).isSome=true) (e:∀j,j<vs.size->w.frozen? ⟨b,c+j,none⟩=false) (i:(P.info? d).map (·.size)=some vs.size) (m:∀v∈vs.toList,v.oneCell'=true)
 (h:K (a.put o.dst Ya) (w.setCells b c vs.toList)):o.wp P a w K Q:=by
 unfold Oper.wp execOp;simp only[l,f,k,Instr.storeAt,Instr.sureAddr,Sem.run_bind,Sem.run_pure,Result.andThen_ok,Qn w b c d vs g e i m];exact h
theorem JG {P:Zm} {o:Oper} {a:Act} {w:Xh} {K:Act->Xh->Prop} {Q:Exit->Act->Xh->Prop} (t:YM) (b:Array (Nat×Operand)) (f:o.op = .build t b) (l:List (Nat×Xk)) (d:(b.toList.map λq=>(q.1,a.eval q.2))=l) (cells:Array Xk) (c:P.built t l=some cells)
 (h:K (a.put o.dst (.agg cells)) w):o.wp P a w K Q:=by
 have e:(b.map fun(i,x)=>(i,a.eval x)).toList=l:=by rw[Array.toList_map];exact d
 refine wp_build t b f (by rw[e,c];rfl) ?_;rw[e,c];exact h
theorem UH {P:Zm} {o:Oper} {a:Act} {w:Xh} {K:Act->Xh->Prop} {Q:Exit->Act->Xh->Prop} (t:YM) (x:Operand) (c:o.op = .box t x) (cells:Array Xk) (b:a.eval x = .agg cells)
 (h:K (a.put o.dst (.pointer (some ⟨w.heap.size,0,none⟩))) (w.alloc (.cells cells t))):o.wp P a w K Q:=by
 unfold Oper.wp execOp;simp only[c,b,Sem.run_bind,Instr.box,newVar,newRow,run_newObj_alloc,Sem.run_pure,Result.andThen_ok];exact h
end
end Go.Proofs.YtdcacoifehkioaaGreatDoor
