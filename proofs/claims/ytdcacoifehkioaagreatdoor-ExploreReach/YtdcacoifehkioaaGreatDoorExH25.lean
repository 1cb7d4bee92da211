import Derived.Test.YtdcacoifehkioaaGreatDoorExH24
import Derived.BigQuiet
import Derived.Deep.DeepCutAuto
open List renaming getElem?_eq_getElem->Xe,length_append->Xb,mem_append->XY,mem_singleton->XT,getD_eq_getElem?_getD->Xc,getElem?_map->Xs,length_map->Xp,mem_cons->XR,not_mem_nil->X8
open Go renaming World->Xh,Value->Xk,info_parts->YN,heap_setCell_other->Xt,Addr->YZ,bodyPost_ret->XJ
open Go.RowKit renaming Below->Xm,wrap64->XO
open Array renaming getElem?_eq_some_iff->Xa
open Go.World renaming size_setCell->XC,cell?->Xg
open Nat renaming le_refl->Xd,zero_le->Xw,sub_lt_sub_left->Xl,lt_succ_self->Xn,le_trans->Xu
open Bool renaming eq_iff_iff->YH
set_option maxRecDepth 100000
set_option maxHeartbeats 4000000
set_option linter.unusedVariables false
set_option linter.unusedSimpArgs false
namespace Go.Proofs.YtdcacoifehkioaaGreatDoor
open Go.RowKit Go.Shelf Go.Proofs.Cod
def Cz (s:Tx):Nat:=s.foldl (λh c=>(h*31+c.toNat) % 4096) 0
theorem Pw (s:Tx) (c:UInt8):Cz (s++[c])=(Cz s*31+c.toNat) % 4096:=by unfold Cz;rw[List.foldl_append];rfl
theorem Mt (s:Tx):Cz s<4096:=by
 rcases List.eq_nil_or_concat s with rfl|⟨r,c,rfl⟩
 ·decide
 ·rw[List.concat_eq_append,Pw];exact Nat.mod_lt _ (by decide)
theorem Vx {s:Tx} {i:Nat} (h:i<s.length):Cz (s.take (i+1))=(Cz (s.take i)*31+(s[i]).toNat) % 4096:=by
 rw[List.take_add_one,Xe h];exact Pw _ _
structure Ez (w:Xh) (base sb g:Nat) (f:Nat->Xk) (L:Nat->List Tx) (keys:List Tx):Prop where
 blk:w.heap[sb]?=some (.cells #[.slice (some ⟨g,0,none⟩) 4096 4096] 167)
 lo:base<=sb/\base<=g
 tab:An w g 22 4096 f
 row:∀h,h<4096->w.ownsRow base 9 1 (f h) (L h).length ((L h).map λx=>Value.string (bs x))
 mem:∀h x,h<4096->(x∈L h↔x∈keys/\Cz x=h)
 len:∀h,h<4096->(L h).length<=keys.length
 apart:∀h h' b,h<4096->h'<4096->(f h).ownBlock=some b->(f h').ownBlock=some b->h=h'
structure DC (base:Nat) (w w':Xh):Prop where
 bel:Xm base w w'
 other:∀(b:Nat) (cs:Array Xk) (T:Nat),w.heap[b]?=some (.cells cs T)->T≠167->T≠22->T≠9->w'.heap[b]?=w.heap[b]?
theorem DC.refl (base:Nat) (w:Xh):DC base w w:=⟨Below.refl _ _,λ_ _ _ _ _ _ _=>rfl⟩
theorem DC.trans {base:Nat} {w w' f:Xh} (h:DC base w w') (g:DC base w' f):DC base w f:=
 ⟨h.bel.trans g.bel,λb cs T e c d a=>(g.other b cs T ((h.other b cs T e c d a).trans e) c d a).trans (h.other b cs T e c d a)⟩
theorem DC.CH {base:Nat} {w w':Xh} (a:base<=w.heap.size) (h:Xm w.heap.size w w'):DC base w w':=
 ⟨h.mono a,λb cs T e _ _ _=>h.block b (Xa.1 e).1⟩
theorem Jn {w:Xh} {base e c n:Nat} {v:Xk} {f:List Xk} (h:w.ownsRow base e c v n f) {b:Nat} (a:v.ownBlock=some b):∃cs,w.heap[b]?=some (.cells cs e):=by
 rcases h.2 with⟨rfl,_⟩|⟨g,cap,d,rfl,j,i,-⟩
 ·cases a
 ·have:g=b:=by injection a
  subst this
  exact⟨d,i⟩
theorem He {w:Xh} {b d T c:Nat} {cs g:Array Xk} (h:w.heap[b]?=some (.cells cs T)) (a:w.heap[d]?=some (.cells g c)) (f:T≠c):b≠d:=by
 intro e;subst e;rw[h] at a;injection a with a
 injection a with _ a
 exact f a
section
variable {w w':Xh} {base sb g:Nat} {f:Nat->Xk} {L:Nat->List Tx} {keys:List Tx}
theorem Ez.keep (h:Ez w base sb g f L keys) (a:∀(b:Nat) (cs:Array Xk) (T:Nat),w.heap[b]?=some (.cells cs T)->T≠92->w'.heap[b]?=w.heap[b]?):Ez w' base sb g f L keys:=by
 refine⟨(a _ _ _ h.blk (by decide)).trans h.blk,h.lo,?_,λk c=>Ea (h.row k c) λb d=>?_,h.mem,h.len,h.apart⟩
 ·obtain⟨cs,q,-,-⟩:=id h.tab;exact h.tab.same (a _ _ _ q (by decide))
 ·obtain⟨cs,q⟩:=Jn (h.row k c) d;exact a _ _ _ q (by decide)
theorem Ez.below (h:Ez w base sb g f L keys) (a:Xm w.heap.size w w'):Ez w' base sb g f L keys:=h.keep λb cs T e _=>a.block b (Xa.1 e).1
theorem Ez.push (h:Ez w base sb g f L keys) (d:base<=w.heap.size) (s:Tx) (hs:s∉keys) (hl:keys.length<1048576) :
 ∃i cap c,(Builtin.append_ #[22,22] 22 #[f (Cz s),.slice (some ⟨w.heap.size,0,none⟩) 1 1]).run Tryz.prog (w.alloc (.cells #[.string (bs s)] 9)) = .ok (.slice (some ⟨i,0,none⟩) ((L (Cz s)).length+1) cap) c/\
  c.heap[sb]?=some (.cells #[.slice (some ⟨g,0,none⟩) 4096 4096] 167)/\c.cell? ⟨g,Cz s,none⟩=some (f (Cz s))/\c.frozen? ⟨g,Cz s,none⟩=false/\
  DC base w (c.setCell ⟨g,Cz s,none⟩ (.slice (some ⟨i,0,none⟩) ((L (Cz s)).length+1) cap))/\
  Ez (c.setCell ⟨g,Cz s,none⟩ (.slice (some ⟨i,0,none⟩) ((L (Cz s)).length+1) cap)) base sb g (λj=>if j=Cz s then .slice (some ⟨i,0,none⟩) ((L (Cz s)).length+1) cap else f j) (λj=>if j=Cz s then L (Cz s)++[s] else L j) (keys++[s]):=by
 obtain⟨k,A⟩:∃k,Cz s=k:=⟨_,rfl⟩;have r:k<4096:=by rw[<-A];exact Mt s
 rw[A];have C:=h.row k r;obtain⟨i0,R,Z,K,N⟩:=YN Tryz.infoStrX;obtain⟨i,cap,c,W,G,U,X,rp,rz,rb,O⟩:=Ig C Tryz.underlying22 R Z K N rfl (by omega) [.string (bs s)] rfl (by intro u I;simp at I;subst I;rfl) 22 (by have:=h.len k r;omega) d;obtain⟨gc,v,-,-⟩:=id h.tab;have M:∀b,(f k).ownBlock=some b->∀{x T:Nat} {cs:Array Xk},w.heap[x]?=some (.cells cs T)->T≠9->x≠b:=λb d x T cs e B=>by
  obtain⟨S,q⟩:=Jn C d;exact He e q B
 have D:∀{x T:Nat} {cs:Array Xk},w.heap[x]?=some (.cells cs T)->T≠9->c.heap[x]?=w.heap[x]?:=λ{x T cs} e B=>rb x (Xa.1 e).1 λq=>M x q e B rfl;have J:=(D h.blk (by decide)).trans h.blk;have y:=h.tab.same (D v (by decide));have V:sb≠g:=He h.blk v (by decide);have t:∀x,x≠g->(c.setCell ⟨g,k,none⟩ (.slice (some ⟨i,0,none⟩) ((L k).length+1) cap)).heap[x]?=c.heap[x]?:=λx F=>Xt c ⟨g,k,none⟩ x _ F;have P:DC base w (c.setCell ⟨g,k,none⟩ (.slice (some ⟨i,0,none⟩) ((L k).length+1) cap)):=by
  refine⟨⟨U,X,rp,by rw[XC];omega,λx F=>?_⟩,λb cs T e h1 h2 Y=>?_⟩
  ·rw[t x (by have:=h.lo.2;omega)];exact rb x (by omega) λq=>by have:=(C.lt x q).1;omega
  ·rw[t b (He e v h2)];exact D e Y
 have H:∀j,j<4096->j≠k->∀b,(f j).ownBlock=some b->b≠i:=λj a Q b d e=>by
  subst e
  rcases O with q|q
  ·exact Q (h.apart j k b a r d q)
  ·have:=((h.row j a).lt b d).2;omega
 refine⟨i,cap,c,W,J,y.cell r,y.frozen k,P,⟨(t sb V).trans J,h.lo,y.set k _,λj a=>?_,λj x a=>?_,λj a=>?_,λj z b a E n m=>?_⟩⟩
 ·by_cases e:j=k
  ·subst e;rw[if_pos rfl,if_pos rfl,Xb,List.map_append];refine Ea G λb d=>t b ?_;obtain⟨cs,q⟩:=Jn G d;obtain⟨S,q',-,-⟩:=id y;exact He q q' (by decide)
  ·rw[if_neg e,if_neg e];refine Ea (h.row j a) λb d=>?_;obtain⟨cs,q⟩:=Jn (h.row j a) d;rw[t b (He q v (by decide))];exact rb b ((h.row j a).lt b d).2 λq=>e (h.apart j k b a r d q)
 ·by_cases e:j=k
  ·subst e;rw[if_pos rfl,XY,XY,h.mem j x a];constructor
   ·rintro(⟨l,o⟩|q)
    ·exact⟨.inl l,o⟩
    ·rw[XT.1 q];exact⟨.inr (XT.2 rfl),A⟩
   ·rintro⟨l|l,o⟩
    ·exact .inl ⟨l,o⟩
    ·exact .inr l
  ·rw[if_neg e,XY,h.mem j x a];constructor
   ·rintro⟨l,o⟩
    exact⟨.inl l,o⟩
   ·rintro⟨l|l,o⟩
    ·exact⟨l,o⟩
    ·rw[XT.1 l,A] at o;exact absurd o.symm e
 ·rw[Xb]
  by_cases e:j=k
  ·subst e;rw[if_pos rfl,Xb];have:=h.len j a;exact Nat.add_le_add_right this 1
  ·rw[if_neg e];have:=h.len j a
   omega
 ·by_cases e:j=k
  ·by_cases p:z=k
   ·rw[e,p]
   ·exfalso
    (try dsimp only at n m)
    rw[if_pos e] at n;rw[if_neg p] at m;have:i=b:=by injection n
    exact H z E p b m this.symm
  ·by_cases p:z=k
   ·exfalso
    (try dsimp only at n m)
    rw[if_neg e] at n;rw[if_pos p] at m;have:i=b:=by injection m
    exact H j a e b n this.symm
   ·(try dsimp only at n m)
    rw[if_neg e] at n;rw[if_neg p] at m;exact h.apart j z b a E n m
theorem Ez.nil {vs:Array Xk} (c:w.heap[sb]?=some (.cells #[.slice (some ⟨g,0,none⟩) 4096 4096] 167)) (b:base<=sb/\base<=g) (a:An w g 22 4096 (λ_=>.slice none 0 0)):Ez w base sb g (λ_=>.slice none 0 0) (λ_=>[]) []:=
 ⟨c,b,a,λ_ _=>World.ownsRow_nil _ _ _ _,λ_ _ _=>⟨(λh=>by cases h),(λh=>by cases h.1)⟩,λ_ _=>Xd _,(λ_ _ _ _ _ h=>by cases h)⟩
end
theorem Tryz.infoRowS:(Tryz.prog.info? 22).map (λi=>(i.zero,i.size,i.bytes))=some (some (.slice none 0 0),1,24):=by kernel_rfl
theorem abH (w:Xh) {n:Nat} (y:n<=1048576):∃b,(Instr.makeSlice 165 (.int .i64 (n:Int)) (.int .i64 (n:Int))).run Tryz.prog w = .ok (.slice (some ⟨w.heap.size,0,none⟩) n n) b/\An b w.heap.size 22 n (λ_=>.slice none 0 0)/\w.grownBy b none:=by
 obtain⟨o,j,r,t,l⟩:=YN Tryz.infoRowS;obtain⟨b,h,d,i⟩:=run_make_full (P:=Tryz.prog) w w.heap.size 165 22 o (.slice none 0 0) 1 Tryz.underlying165 j r t .i64 .i64 n (by rw[l];omega) (by unfold maxLen;omega) (Xd _);refine⟨b,h,?_,i⟩;have e:(madeCells (Value.slice none 0 0).cells (n*1)).toList=List.replicate n (Value.slice none 0 0):=by
  show (madeCells #[Value.slice none 0 0] (n*1)).toList=_;rw[Nat.mul_one,toList_madeCells_one]
 rw[e] at d
 rcases d.2 with⟨a,_⟩|⟨g,cap,c,a,A,s,x,v,z,f⟩
 ·cases a
 ·have p:w.heap.size=g:=by injection a with a _ _;injection a with a;injection a
  have m:n=cap:=by injection a
  subst p m;refine⟨c,s,by omega,λk u=>?_⟩;have q:c.toList[k]?=some (.slice none 0 0):=by
   have:(c.toList.take (n*1))[k]?=some (.slice none 0 0):=by rw[f,List.getElem?_replicate,if_pos u]
   rw[List.getElem?_take,if_pos (by omega)] at this;exact this
  rw[Array.getElem?_toList] at q;exact q
theorem UY (a k:Nat):Int.tmod (a:Int) (k:Int)=((a % k:Nat):Int):=by
 rw[Int.tmod_eq_emod_of_nonneg (Int.natCast_nonneg a)]
 rfl
theorem Vw {x c:Nat} (g:x<4096) (f:c<256):XO (c:Int)=(c:Int)/\XO ((x:Int)*31)=(x:Int)*31/\XO ((x:Int)*31+(c:Int))=(x:Int)*31+(c:Int)/\Int.tmod ((x:Int)*31+(c:Int)) 4096=(((x*31+c) % 4096:Nat):Int):=by
 have e:XO ((c:Int))=(c:Int):=Ct (by omega);have b:=Ct (n:=x*31) (by omega);have a:=Ct (n:=x*31+c) (by omega)
 push_cast at b a
 refine⟨e,b,a,?_⟩;have d:=UY (x*31+c) 4096;rw[<-d]
 rfl
def Fm (w:Xh) (base sb:Nat) (keys:List Tx):Prop:=(w.heap[sb]?=some (.cells #[.slice none 0 0] 167)/\base<=sb/\keys=[])\/∃g f L,Ez w base sb g f L keys
def aff (w:Xh) (base sb:Nat) (keys:List Tx) (s:Tx) (e:Ending) (w':Xh):Prop:=e = .returned (.bool (decide (s∉keys)))/\Fm w' base sb (if s∈keys then keys else keys++[s])/\DC base w w'
theorem Wn {w a:Xh} {base sb:Nat} (d:w.heap[sb]?=some (.cells #[.slice none 0 0] 167)) (h:base<=sb) (i:base<=w.heap.size) (l:An a w.heap.size 22 4096 (λ_=>.slice none 0 0)) (c:w.grownBy a none) :
 a.cell? ⟨sb,0,none⟩=some (.slice none 0 0)/\a.frozen? ⟨sb,0,none⟩=false/\Ez (a.setCell ⟨sb,0,none⟩ (.slice (some ⟨w.heap.size,0,none⟩) 4096 4096)) base sb w.heap.size (λ_=>.slice none 0 0) (λ_=>[]) []/\DC base w (a.setCell ⟨sb,0,none⟩ (.slice (some ⟨w.heap.size,0,none⟩) 4096 4096)):=by
 have j:=(Xa.1 d).1;have f:a.heap[sb]?=some (.cells #[.slice none 0 0] 167):=(c.block sb j (by simp)).trans d;have g:=heap_setCell_same a sb 0 _ _ (.slice (some ⟨w.heap.size,0,none⟩) 4096 4096) f;refine⟨by simp[Xg,f],Ap f 0,Ez.nil (vs := #[]) g ⟨h,i⟩ (l.other (by show w.heap.size≠sb;omega) _),⟨⟨c.os,c.tape,c.output,by rw[XC];exact c.size,λk n=>?_⟩,λb cs T e m _ _=>?_⟩⟩
 ·rw[Xt a ⟨sb,0,none⟩ k _ (by show k≠sb;omega)];exact c.block k (by omega) (by simp)
 ·rw[Xt a ⟨sb,0,none⟩ b _ (He e d m)];exact c.block b (Xa.1 e).1 (by simp)
theorem Wo {w:Xh} {base sb g:Nat} {f:Nat->Xk} {L:Nat->List Tx} {d:List Tx} (h:Ez w base sb g f L d) {k:Nat} (b:k<4096):w.cell? ⟨sb,0,none⟩=some (.slice (some ⟨g,0,none⟩) 4096 4096)/\w.cell? ⟨g,k,none⟩=some (f k)/\∃a cap,f k = .slice a (L k).length cap/\Ts w a (L k):=by
 obtain⟨a,cap,e,c⟩:=KI (h.row k b)
 exact⟨by simp[Xg,h.blk],h.tab.cell b,a,cap,e,c⟩
theorem Ql {w:Xh} {base sb:Nat} {k:List Tx} {s:Tx} (hs:s.length<4294967296) (O:Fm w base sb k) (d:base<=w.heap.size) (hl:k.length<1048576) :
 Calls Tryz.prog 67 #[.pointer (some ⟨sb,0,none⟩),.string (bs s)] w (aff w base sb k s):=by
 have a3:(bs s).size=s.length:=Ba s;have A:=Aa (⟨hs,d,hl⟩:_/\_/\_);clear hs d hl;have aJ:w.cell? ⟨sb,0,none⟩=some (.slice none 0 0)\/∃g,w.cell? ⟨sb,0,none⟩=some (.slice (some ⟨g,0,none⟩) 4096 4096):=by
  rcases O with h|⟨g,f,L,h⟩
  ·exact .inl (by simp[Xg,h.1])
  ·exact .inr ⟨g,by simp[Xg,h.blk]⟩
 obtain⟨F,sn,sc,ac,aC⟩:∃a n c,w.cell? ⟨sb,0,none⟩=some (.slice a n c)/\(a=none->n=0/\c=0):=by
  rcases aJ with h|⟨g,h⟩
  ·exact⟨_,_,_,h,λ_=>⟨rfl,rfl⟩⟩
  ·exact⟨_,_,_,h,(λq=>by cases q)⟩
 have ax:Sem.run Tryz.prog (binOp BinOp.eql 165 (.slice F sn sc) (.slice none 0 0)) w = .ok (.bool F.isNone) w:=by cases F<;>rfl
 obtain⟨nb,P⟩:∃b,F.isNone=b:=⟨_,rfl⟩;rw[P] at ax;replace P:=Aa P;replace O:=Aa O;replace aC:=Aa aC;clear aJ
 go_enter Tryz.func67,Tryz.ntmps67
 go_upto_if 12 with fail
 go_cut [] (λwx=>(∃g f L,Ez wx base sb g f L k)/\DC base w wx)
 case first=>
  cases nb with
  |true=>
   obtain⟨h1,h2,R⟩|⟨g,f,L,h⟩:=O.out
   ·obtain⟨G,E,ht,hg⟩:=abH w (n:=4096) (by decide);have E:(Instr.makeSlice 165 (.int .i64 4096) (.int .i64 4096)).run Tryz.prog w = .ok (.slice (some ⟨w.heap.size,0,none⟩) 4096 4096) G:=E;obtain⟨m1,m2,S,m4⟩:=Wn h1 h2 A.out.2.1 ht hg;have HM:=Aa (⟨S,m4,R⟩:_/\_/\_);clear h1 h2 R ht hg S m4 ax ac
    go_wp2_with fail
    go_meet
    obtain⟨S,m4,R⟩:=HM.out
    exact⟨⟨_,_,_,by rw[R];exact S⟩,m4⟩
   ·exfalso
    have e:w.cell? ⟨sb,0,none⟩=some (.slice (some ⟨g,0,none⟩) 4096 4096):=by simp[Xg,h.blk]
    rw[ac] at e;injection e with e
    have e:F=some ⟨g,0,none⟩:=by injection e
    have q:=P.out;rw[e] at q
    cases q
  |false=>
   have hS:Hid (∃g f L,Ez w base sb g f L k):=by
    rcases O.out with⟨h1,h2,R⟩|h
    ·exfalso
     have e:w.cell? ⟨sb,0,none⟩=some (.slice none 0 0):=by simp[Xg,h1]
     rw[ac] at e;injection e with e
     have e:F=none:=by injection e
     have q:=P.out;rw[e] at q
     cases q
    ·exact h
   go_wp2_with fail
   go_meet
   exact⟨hS.out,DC.refl _ _⟩
 case rest=>
  obtain⟨⟨g,f,L,l⟩,o⟩:=hcut;have aj:=Mt s;obtain⟨X,v,ra,rc,B,U⟩:=Wo l aj;rw[B] at v;have HC:Hid (∀u,Xm wc.heap.size wc u->u.cell? ⟨sb,0,none⟩=some (.slice (some ⟨g,0,none⟩) 4096 4096)/\u.cell? ⟨g,Cz s,none⟩=some (.slice ra (L (Cz s)).length rc)):=λu hu=>⟨(hu.cell (p:=⟨sb,0,none⟩) (Xa.1 l.blk).1).trans X,(hu.cell (p:=⟨g,Cz s,none⟩) l.tab.lt).trans v⟩
  have H:=Aa (⟨l,o,B,U,aj⟩:_/\_/\_/\_/\_);clear l o B U X v aj ac ax;obtain⟨n,D⟩:∃n,s.length=n:=⟨_,rfl⟩;rw[D] at a3;replace D:=Aa D
  go_wp2_with fail
  go_loopw [5,6] (λhv iv wr=>∃i:Nat,i<=n/\iv = .int .i64 i/\hv = .int .i64 ((Cz (s.take i):Nat):Int)/\Xm wc.heap.size wc wr) (λ_ iv _=>n - (intOf iv).toNat)
  case atStart=>exact⟨0,Xw _,rfl,rfl,Below.refl _ _⟩
  case round=>
   obtain⟨i,hi,rfl,rfl,d⟩:=hrel
   by_cases h5:i<n
   ·have bd:(i:Int)<(n:Int):=by omega
    have aE:XO ((i:Int)+1)=(i:Int)+1:=by have:=A.out.1;rw[D.out] at this;unfold XO;omega
    have aF:i<s.length:=by rw[D.out];exact h5
    obtain⟨c,hc⟩:∃c,s[i]=c:=⟨_,rfl⟩;have gc:∀h,(bs s)[i]'h=c:=λh=>(Dj s i h).trans hc;have af:=Vx aF;rw[hc] at af;have an:=Mt (s.take i);obtain⟨x,m⟩:∃x,Cz (s.take i)=x:=⟨_,rfl⟩;rw[m] at af an |-;have aO:c.toNat<256:=UInt8.toNat_lt c;obtain⟨bg,bj,bk,bb⟩:=Vw an aO;rw[<-af] at bb;obtain⟨X,v⟩:=HC.out wr d;have t:Hid (i+1<=n/\∀q,Xm wc.heap.size wc (wr.drewN q)):=⟨h5,λq=>⟨d.os,d.tape,d.output,d.size,d.block⟩⟩;clear hi h5 d aF hc af an m aO v
    go_wp2_with fail
    go_quiet (fail)
    clear gc
    go_wp2_with fail
    go_roundw
    case rel=>
     (try rw[aE])
     exact⟨i+1,t.out.1,rfl,rfl,t.out.2 _⟩
    case measure=>
     (try rw[aE])
     exact Xl t.out.1 (Xn i)
   ·have aU:i=n:=by omega
    subst aU;have hT:s.take i=s:=List.take_of_length_le (by rw[D.out];exact Xd _);rw[hT];obtain⟨x,m⟩:∃x,Cz s=x:=⟨_,rfl⟩;rw[m] at H |-;simp only[m] at HC;obtain⟨C,N⟩:∃r,(L x).length=r:=⟨_,rfl⟩;have bm:(x:Int)<4096:=by have:=H.out.2.2.2.2;omega
    replace m:=Aa m
    rename Xh=>wo
    have HB:=Aa d;clear hi h5 d hT
    go_wp2_with fail
    go_loopw [7] (λjv wr=>∃j:Nat,j<=C/\jv = .int .i64 j/\(∀q y,q<j->(L x)[q]?=some y->y≠s)/\Xm wc.heap.size wc wr) (λjv _=>C - (intOf jv).toNat)
    case atStart=>exact⟨0,Xw _,rfl,(λq y J=>absurd J (Nat.not_lt_zero q)),HB.out⟩
    case round=>
     obtain⟨j,hj,rfl,K,d⟩:=hrel;obtain⟨X,v⟩:=HC.out wr d;rw[N] at v
     by_cases W:j<C
     ·have bd:(j:Int)<(C:Int):=by omega
      have aT:XO ((j:Int)+1)=(j:Int)+1:=by
       have:=A.out.2.2;have:=H.out.1.len x H.out.2.2.2.2;exact Ct (n:=j+1) (by omega)
      obtain⟨y,Q⟩:∃y,(L x)[j]?=some y:=⟨_,Xe (by omega)⟩;obtain⟨tb,a7,e1,tl,Y⟩:=H.out.2.2.2.1 j (by omega);have av:(L x).getD j []=y:=by rw[Xc,Q];rfl
      rw[av] at Y;have bl:=(d.cell (p:=⟨tb,a7+j,none⟩) tl).trans Y;subst e1;have aK:((bs y).toList == (bs s).toList)=decide (y=s):=by rw[AK,AK];exact YH.2 (by simp)
      by_cases e:y=s
      ·have M:decide (y=s)=true:=decide_eq_true e;rw[M] at aK;have I:Hid (decide (s∉k)=false/\Fm wr base sb (if s∈k then k else k++[s])/\DC base w wr):=by
        obtain⟨l,o,-,-,T⟩:=H.out;have Z:s∈k:=((l.mem x s T).1 (by rw[<-e];exact List.mem_of_getElem? Q)).1;refine⟨decide_eq_false (λq=>q Z),?_,o.trans (DC.CH (Xu A.out.2.1 o.bel.size) d)⟩;rw[if_pos Z];exact .inr ⟨g,f,L,l.below d⟩
       clear K d hj W Q tl Y av e M
       go_wp2_with fail
       go_ret
       exact⟨by rw[I.out.1];rfl,I.out.2⟩
      ·have M:decide (y=s)=false:=decide_eq_false e;rw[M] at aK;have t:Hid (j+1<=C/\(∀q y,q<j+1->(L x)[q]?=some y->y≠s)/\Xm wc.heap.size wc wr):=⟨W,λq z J hz=>by
        by_cases e2:q=j
        ·rw[e2,Q] at hz
         cases hz
         exact e
        ·exact K q z (by omega) hz,d⟩
       clear K d hj W Q tl Y av e M
       go_wp2_with fail
       go_roundw
       case rel=>
        (try rw[aT])
        exact⟨j+1,t.out.1,rfl,t.out.2.1,t.out.2.2⟩
       case measure=>
        (try rw[aT])
        exact Xl t.out.1 (Xn j)
     ·have aX:j=C:=by omega
      subst aX;obtain⟨l,o,B,U,T⟩:=H.out;have V:s∉k:=λZ=>by
       have a8:s∈L x:=(l.mem x s T).2 ⟨Z,m.out⟩;obtain⟨q,J⟩:=List.mem_iff_getElem?.1 a8;exact K q s (by have:=(List.getElem?_eq_some_iff.1 J).1;omega) J rfl
      have ab:Xm wc.heap.size wc wr.drew:=⟨d.os,d.tape,d.output,d.size,d.block⟩;have aG:=l.below ab;obtain⟨g2,cap,G,E,p1,p2,p3,p4,p5⟩:=aG.push (by have:=o.bel.size;have:=ab.size;have:=A.out.2.1;omega) s V A.out.2.2;rw[m.out,B,N] at E;rw[m.out,N] at p4 p5;rw[m.out] at p2 p3;rw[B,N] at p2;have I:Hid (decide (s∉k)=true/\Fm (G.setCell ⟨g,x,none⟩ (.slice (some ⟨g2,0,none⟩) (j+1) cap)) base sb (if s∈k then k else k++[s])/\DC base w (G.setCell ⟨g,x,none⟩ (.slice (some ⟨g2,0,none⟩) (j+1) cap))):=by
       refine⟨decide_eq_true V,?_,(o.trans (DC.CH (Xu A.out.2.1 o.bel.size) ab)).trans p4⟩;rw[if_neg V];exact .inr ⟨_,_,_,p5⟩
      have bf:G.cell? ⟨sb,0,none⟩=some (.slice (some ⟨g,0,none⟩) 4096 4096):=by simp[Xg,p1]
      have a0:(Builtin.append_ #[22,22] 22 #[.slice ra j rc,.slice (some ⟨wr.heap.size,0,none⟩) 1 1]).run Tryz.prog (wr.alloc (.cells #[.string (bs s)] 9)).drew = .ok (.slice (some ⟨g2,0,none⟩) (j+1) cap) G:=E;have aR:Xm wc.heap.size wc (wr.alloc (.cells #[.string (bs s)] 9)):=d.trans ((Below.refl _ _).alloc d.size _);obtain⟨b2,b3⟩:=HC.out _ aR;rw[N] at b3;clear l o B U T V ab aG p4 p5 K d hj W E p1 aR
      go_wp2_with fail
      go_region_law (refine FY rfl _ _ _ rfl rfl rfl rfl a0 ?_)
      all_goals
       go_wp2_with fail
       go_ret
       exact⟨by rw[I.out.1];rfl,I.out.2⟩
def Dq (x:Ad) (ln:Int) (wd:Tx):Array Xk := #[.string (bs x.op),.int .i64 x.r,.bool x.aR,.int .i64 x.aN,.bool x.bR,.int .i64 x.bN,.int .i64 x.x,.int .i64 ln,.string (bs wd)]
def Ai (P:RP):List (List Ad):=P.thr.map λth=>th.code.map RI.i
section
variable {w w':Xh} {a0 a1 a2 a3 a4 a5:Option YZ} {nv nf nl nt nr:Nat} {m:MS} {P:RP} {TV:List (Xk×Xk)} {x1 x2 x3 x4:Option YZ} {y1 y2 y3 z1 z2 z3 z4:Nat}
theorem Rx {w:Xh} {fn:Func} {tmps:Array Xk} {b k:Nat} {f d i g e v5 c a h:Xk} (j:fn.results = #[.cell k 177]) (n:tmps[k]?=some (.pointer (some ⟨b,0,none⟩))) (l:w.heap[b]?=some (.cells #[f,d,i,g,e,v5,c,a,h] 177)):(results fn tmps).run Tryz.prog w = .ok (.agg #[f,d,i,g,e,v5,c,a,h]) w:=by
 obtain⟨c0,c1,c2,c3,c4,c5,p,m,o⟩:=DA l;simp[results,j,n,go_sem,c0,c1,c2,c3,c4,c5,p,m,o]
theorem ML {c0 c1 c2 c3 c4 c5:Nat} (q:DM w (.slice x1 y1 z1) (.slice x2 y2 z2) (.slice x3 y3 z3) (.slice x4 nt z4) P TV) (K:P.thr.length=nt) (h:Cl w a0 a1 a2 a3 a4 a5 nv nf nl nt nr m) {t:Nat} (F:t<nt) (z:(m.th t).pc<=((Ai P).getD t []).length) :
 Calls Tryz.prog 73 #[.agg #[.slice x1 y1 z1,.slice x2 y2 z2,.slice x3 y3 z3,.slice x4 nt z4],.agg #[.slice a0 nv c0,.slice a1 nf c1,.slice a2 nl c2,.slice a3 nt c3,.slice a4 nt c4,.slice a5 nr c5],.int .i64 t] w λe w'=>∃J I,e = .returned (.agg (Dq (BB (Ai P) t (m.th t)) J I))/\Xm w.heap.size w w':=by
 obtain⟨W,C⟩:∃W,((w.alloc (.cells #[.slice x1 y1 z1,.slice x2 y2 z2,.slice x3 y3 z3,.slice x4 nt z4] 28)).alloc (.cells #[.slice a0 nv c0,.slice a1 nf c1,.slice a2 nl c2,.slice a3 nt c3,.slice a4 nt c4,.slice a5 nr c5] 92)).alloc (.cells #[.string ⟨#[]⟩,.int .i64 0,.bool false,.int .i64 0,.bool false,.int .i64 0,.int .i64 0,.int .i64 0,.string ⟨#[]⟩] 177)=W:=⟨_,rfl⟩;obtain⟨f,G,D,a,M⟩:=Pe _ _ _ _ C;have u:=Aa (⟨f,a⟩:_/\_);obtain⟨th,k⟩:∃th,P.thr[t]?=some th:=⟨_,Xe (by omega)⟩;obtain⟨p,o⟩:∃p,TV[t]?=some p:=⟨_,Xe (by rw[q.len];omega)⟩;have x:=q.below f;obtain⟨g,cap,V,-,-,s⟩:=x.JK k o;injection V with hga hnq hcq
 subst hga;clear hcq hnq;have y:=x.c t th p k o;have v:(Ai P).getD t []=th.code.map RI.i:=by unfold Ai;rw[Xc,Xs,k];rfl
 obtain⟨b,ak,rfl,-,R⟩:=(h.below f).Rc F;have B:BB (Ai P) t (m.th t)=(th.code.map RI.i).getD (m.th t).pc Cn:=by unfold BB;rw[v]
 rw[B];rw[v,Xp] at z;obtain⟨pc,A⟩:∃pc,(m.th t).pc=pc:=⟨_,rfl⟩;rw[A] at R z |-;obtain⟨-,-,-,q3⟩:=BK G;obtain⟨-,-,-,s3,-,-⟩:=Br D;obtain⟨r0,r1,r2,r3,r4,r5,r6,r7,r8⟩:=DA a;obtain⟨ar,av,au,ah,aC,af,aA,aj,ay⟩:=(⟨Ap a 0,Ap a 1,Ap a 2,Ap a 3,Ap a 4,Ap a 5,Ap a 6,Ap a 7,Ap a 8⟩:_/\_/\_/\_/\_/\_/\_/\_/\_);have ap:(t:Int)<(nt:Int):=by omega
 obtain⟨ca,cc,j⟩:=At y
 by_cases e:pc=th.code.length
 ·have l:(th.code.map RI.i).getD pc Cn=Cn:=by rw[Xc,List.getElem?_eq_none (by rw[Xp];omega)];rfl
  rw[l];rw[j] at s;obtain⟨d,n⟩:∃d,th.code.length=d:=⟨_,rfl⟩;rw[n] at e s;subst e;clear f G D a M x q y k o h K F v B z A n l j
  go_enter Tryz.func73,Tryz.ntmps73
  go_upto_region 1 with fail
  try rw[C]
  go_wp2_with fail
  exact XJ (Rx rfl rfl (Ih _ _ _ _ _ _ _ _ _ u.out.2)) rfl ⟨0,[],rfl,IT _ _ _ _ _ _ _ _ _ u.out.1 (by omega)⟩
 ·have H:pc<th.code.length:=by omega
  obtain⟨r,E⟩:∃r,th.code[pc]?=some r:=⟨_,Xe H⟩;have l:(th.code.map RI.i).getD pc Cn=r.i:=by rw[Xc,Xs,E];rfl
  rw[l];obtain⟨cg,cc,j,-,i9⟩:=acO y E;rw[j] at s;obtain⟨d,n⟩:∃d,th.code.length=d:=⟨_,rfl⟩;rw[n] at e s H;have an:((pc:Int) == (d:Int))=false:=by simp only[beq_eq_false_iff_ne];omega
  have aq:(pc:Int)<(d:Int):=by omega
  obtain⟨T,Q,Y,X,U,S,O,N,Z⟩:=i9;obtain⟨xi,J,I⟩:=r;dsimp only at T Q Y X U S O N Z |-;clear f G D a M x q y k o h K F v B z A n l j E H e
  go_enter Tryz.func73,Tryz.ntmps73
  go_upto_region 1 with fail
  try rw[C]
  go_wp2_with fail
  exact XJ (Rx rfl rfl (Ih _ _ _ _ _ _ _ _ _ u.out.2)) rfl ⟨J,I,rfl,IT _ _ _ _ _ _ _ _ _ u.out.1 (by omega)⟩
end
structure XB (nv nf nl nt:Nat) (x:Ad):Prop where
 x0:0<=x.x
 vr:x.op=Bu\/x.op=AM->x.x<nv
 fl:x.op=Ec\/x.op=Eb->x.x<nf
 lk:x.op=BP\/x.op=CI->x.x<nl
 th:x.op=BJ\/x.op=BQ->x.x<nt
 r:0<=x.r/\x.r<4
 a:Fk x.aR x.aN
 b:Fk x.bR x.bN
 op:x.op=Eo\/x.op=Er\/x.op=En\/x.op=Ep\/x.op=Bu\/x.op=AM\/x.op=Ec\/x.op=Eb\/x.op=BP\/x.op=CI\/x.op=BJ\/x.op=BQ\/x.op=Dg\/x.op=CX\/x.op=CW\/x.op=Dh\/x.op=Eq
theorem OJ {nv nf nl nt n:Nat} {x:Ad} (c:x=Cn\/Gv nv nf nl nt n x):XB nv nf nl nt x:=by
 rcases c with rfl|c
 ·refine⟨by decide,λq=>?_,λq=>?_,λq=>?_,λq=>?_,⟨by decide,by decide⟩,⟨by decide,by decide,λq=>by cases q⟩,⟨by decide,by decide,λq=>by cases q⟩,by simp[Cn,CE]⟩
  ·rcases q with q|q<;>cases q
  ·rcases q with q|q<;>cases q
  ·rcases q with q|q<;>cases q
  ·rcases q with q|q<;>cases q
 ·obtain⟨q,a,b,x1,x2,x3,x4,i⟩:=c.ex;obtain⟨⟨f,d⟩,g,h⟩:=c.sm;simp only[Bd,XR,X8,or_false] at a;refine⟨c.x0,λe=>?_,λe=>?_,λe=>?_,λe=>?_,⟨f,d⟩,g,h,?_⟩
  ·rw[b] at e
   rcases a with rfl|rfl|rfl|rfl|rfl|rfl|rfl|rfl|rfl|rfl|rfl|rfl|rfl|rfl|rfl|rfl|rfl<;>first|exact x1 (by decide)|(rcases e with e|e<;>exact absurd e (by decide))
  ·rw[b] at e
   rcases a with rfl|rfl|rfl|rfl|rfl|rfl|rfl|rfl|rfl|rfl|rfl|rfl|rfl|rfl|rfl|rfl|rfl<;>first|exact x2 (by decide)|(rcases e with e|e<;>exact absurd e (by decide))
  ·rw[b] at e
   rcases a with rfl|rfl|rfl|rfl|rfl|rfl|rfl|rfl|rfl|rfl|rfl|rfl|rfl|rfl|rfl|rfl|rfl<;>first|exact x3 (by decide)|(rcases e with e|e<;>exact absurd e (by decide))
  ·rw[b] at e
   rcases a with rfl|rfl|rfl|rfl|rfl|rfl|rfl|rfl|rfl|rfl|rfl|rfl|rfl|rfl|rfl|rfl|rfl<;>first|exact x4 (by decide)|(rcases e with e|e<;>exact absurd e (by decide))
  ·rw[b]
   rcases a with rfl|rfl|rfl|rfl|rfl|rfl|rfl|rfl|rfl|rfl|rfl|rfl|rfl|rfl|rfl|rfl|rfl<;>decide
theorem Km {w:Xh} {a:Option YZ} {l:List Int} (h:Is w a l) {i:Nat} (d:i<l.length):∃b c,a=some ⟨b,c,none⟩/\b<w.heap.size/\w.cell? ⟨b,c+i,none⟩=some (.int .i64 (l.getD i 0)):=h i d
section
variable {w w':Xh} {a0 a1 a2 a3 a4 a5:Option YZ} {nv nf nl nt nr:Nat} {m:MS} {P:RP} {TV:List (Xk×Xk)} {x1 x2 x3 x4:Option YZ} {y1 y2 y3 z1 z2 z3 z4:Nat}
theorem aeE {c0 c1 c2 c3 c4 c5:Nat} (T:DM w (.slice x1 y1 z1) (.slice x2 y2 z2) (.slice x3 y3 z3) (.slice x4 nt z4) P TV) (K:P.thr.length=nt) (h:Cl w a0 a1 a2 a3 a4 a5 nv nf nl nt nr m) (j:AZ nv nf nl (Ai P) m) (U:Ej nv nf nl (Ai P)) (t:Int) :
 Calls Tryz.prog 70 #[.agg #[.slice x1 y1 z1,.slice x2 y2 z2,.slice x3 y3 z3,.slice x4 nt z4],.agg #[.slice a0 nv c0,.slice a1 nf c1,.slice a2 nl c2,.slice a3 nt c3,.slice a4 nt c4,.slice a5 nr c5],.int .i64 t] w λe w'=>e = .returned (.int .i64 (AO (Ai P) m t))/\Xm w.heap.size w w':=by
 obtain⟨W,V⟩:∃W,(w.alloc (.cells #[.slice x1 y1 z1,.slice x2 y2 z2,.slice x3 y3 z3,.slice x4 nt z4] 28)).alloc (.cells #[.slice a0 nv c0,.slice a1 nf c1,.slice a2 nl c2,.slice a3 nt c3,.slice a4 nt c4,.slice a5 nr c5] 92)=W:=⟨_,rfl⟩;obtain⟨D,J,Q,Y⟩:=FK _ _ _ V;have X:=Aa D;have z:(Ai P).length=nt:=by unfold Ai;rw[Xp];exact K
 have c:m.thr.length=nt:=h.lt;obtain⟨-,-,-,q3⟩:=BK J
 by_cases a:t<0
 ·have H:AO (Ai P) m t=5:=by unfold AO;rw[if_pos (.inl a)]
  rw[H];have d1:decide (t<0)=true:=by simpa using a
  clear h U j H a T K D J Q Y z c
  go_enter Tryz.func70,Tryz.ntmps70
  go_upto_region 1 with fail
  try rw[V]
  go_wp2_with fail
  go_ret
  exact⟨rfl,X.out⟩
 ·obtain⟨tn,rfl⟩:∃tn:Nat,t=tn:=⟨t.toNat,by omega⟩;have d1:decide ((tn:Int)<0)=false:=by simp only[decide_eq_false_iff_not];exact a
  by_cases p:nt<=tn
  ·have H:AO (Ai P) m (tn:Int)=5:=by unfold AO;rw[if_pos (.inr (.inl (by rw[c];omega)))]
   rw[H];have d2:(nt:Int)<=(tn:Int):=by omega
   clear h U j H a T K D J Q Y z c p
   go_enter Tryz.func70,Tryz.ntmps70
   go_upto_region 1 with fail
   try rw[V]
   go_wp2_with fail
   go_ret
   exact⟨rfl,X.out⟩
  ·have ao:tn<nt:=by omega
   have d2:decide ((nt:Int)<=(tn:Int))=false:=by simp only[decide_eq_false_iff_not];omega
   have d3:(tn:Int)<(nt:Int):=by omega
   obtain⟨-,-,-,-,s4,-⟩:=Br Q;obtain⟨b,aZ,e4,az,ap⟩:=(h.below D).MZ ao;have hT:=j.th tn (by omega);have hp:=hT.ph;have au:AO (Ai P) m (tn:Int)=if (m.th tn).ph=0 then 5 else if CV (m.th tn)=true then 6 else if BG m (BB (Ai P) tn (m.th tn))=true then 7 else 0:=by
    unfold AO;rw[Int.toNat_natCast]
    by_cases e:(m.th tn).ph=0
    ·rw[if_pos (.inr (.inr e)),if_pos e]
    ·rw[if_neg (by rintro(q|q|q);omega;(rw[c] at q;omega);exact e q),if_neg e]
   rw[au]
   by_cases G:(m.th tn).ph=0
   ·rw[if_pos G];rw[G] at ap;subst e4;clear h U j a T K D J Q Y z c p hT hp au G ao az
    go_enter Tryz.func70,Tryz.ntmps70
    go_upto_region 1 with fail
    try rw[V]
    go_wp2_with fail
    go_ret
    exact⟨rfl,X.out⟩
   ·rw[if_neg G]
    by_cases e1:(m.th tn).ph=1
    ·have ho:CV (m.th tn)=false:=by unfold CV;rw[e1];rfl
     rw[ho,if_neg (by simp)];rw[e1] at ap;have hN:=ML (c0:=c0) (c1:=c1) (c2:=c2) (c3:=c3) (c4:=c4) (c5:=c5) (T.below D) K (h.below D) ao (hT.pc (by omega));have o:=OJ ((Lm U (by omega:tn<(Ai P).length) (hT.pc (by omega))).imp id And.left);rw[z] at o;obtain⟨x,aA⟩:∃x,BB (Ai P) tn (m.th tn)=x:=⟨_,rfl⟩;rw[aA] at hN o |-;obtain⟨res,i⟩:∃r:Int,(if BG m x=true then 7 else 0)=r:=⟨_,rfl⟩;rw[i];replace i:=Aa i;have HD:=Aa (⟨h.below D,j,o,z⟩:_/\_/\_/\_);have F:=Aa (⟨J,Q,Y⟩:_/\_/\_);have aM:=e4;subst e4;clear h U j a T K D J Q Y z c p hT hp au G ao az aA o ho e1 aM;obtain⟨t0,t1,t2,t3⟩:=BK F.out.1;obtain⟨s0,s1,s2,s3,-,s5⟩:=Br F.out.2.1
     go_enter Tryz.func70,Tryz.ntmps70
     go_upto_region 1 with fail
     try rw[V]
     go_wp2_with fail
     refine hN.mono ?_;rintro e w2 ⟨ln,wd,rfl,Z⟩;unfold Dq;clear hN s0 s1 s2 s3 s4 s5 t0 t1 t2 t3 q3 ap;obtain⟨W5,f⟩:∃W5,w2.alloc (.cells (Dq x ln wd) 177)=W5:=⟨_,rfl⟩;have an:Xm w2.heap.size w2 W5:=by rw[<-f];exact(Below.refl _ _).alloc (Xd _) _
     have S:W5.heap[w2.heap.size]?=some (.cells (Dq x ln wd) 177):=by rw[<-f];exact World.alloc_heap_new w2 _
     have M:Xm W.heap.size W W5:=Z.trans (an.mono Z.size);have R:=Aa (X.out.trans (M.mono X.out.size));have s6:=(M.block (w.heap.size+1) (by have:=F.out.2.2;omega)).trans F.out.2.1;obtain⟨-,-,s2,-,s4,-⟩:=Br s6;obtain⟨E,j,o,z⟩:=HD.out;have N:=E.below M;unfold Dq at S f;obtain⟨i0,-,-,-,-,-,i6,-,-⟩:=DA S;obtain⟨n,C⟩:∃n:Nat,x.x=n:=⟨x.x.toNat,by have:=o.x0;omega⟩;have I:x.x.toNat=n:=by omega
     have f0:((bs x.op).toList == BP)=decide (x.op=BP):=by rw[AK];exact YH.2 (by simp)
     have f1:((bs x.op).toList == BQ)=decide (x.op=BQ):=by rw[AK];exact YH.2 (by simp)
     have f2:((bs x.op).toList == BJ)=decide (x.op=BJ):=by rw[AK];exact YH.2 (by simp)
     have aq:True:=trivial;have c:m.thr.length=nt:=E.lt
     by_cases A:x.op=BP
     ·have k:n<m.locks.length:=by rw[E.ll];have:=o.lk (.inl A);omega
      obtain⟨lb,lo,O,-,H⟩:=Km N.l k;subst O;have g:BG m x=decide (0<=m.locks.getD n 0):=by unfold BG;rw[if_pos A,I];have q:=j.lv _ (CL (d:=0) k);rw[decide_eq_decide];omega
      generalize m.locks.getD n 0=v at *;have aG:(n:Int)<(nl:Int):=by have:=E.ll;omega
      obtain⟨op,r,aR,aN,bR,bN,y⟩:=x;have C:y=n:=C;subst C;have A:op=BP:=A;subst A;dsimp only at *;clear o E N j z Z an M s6 S HD F f0 f1 f2 I aq k c
      by_cases q:0<=v
      ·have B:decide (0<=v)=true:=by simpa using q
       have u:Hid ((7:Int)=res):=by show (7:Int)=res;rw[<-i.out,g,if_pos B]
       clear g i
       skip
       unfold BP bs at *
       go_upto_region 6 with fail
       try rw[f]
       clear f
       go_wp2_with fail
       go_ret
       exact⟨by rw[<-u.out];rfl,R.out⟩
      ·have B:decide (0<=v)=false:=by simpa using q
       have u:Hid ((0:Int)=res):=by show (0:Int)=res;rw[<-i.out,g,if_neg (by rw[B];simp)]
       clear g i
       skip
       unfold BP bs at *
       go_upto_region 6 with fail
       try rw[f]
       clear f
       go_wp2_with fail
       go_ret
       exact⟨by rw[<-u.out];rfl,R.out⟩
     ·by_cases a:x.op=BQ
      ·have k:n<(CS m).length:=by rw[FL,c];have:=o.th (.inr a);omega
       obtain⟨lb,lo,O,-,H⟩:=Km N.s k;simp only[Option.some.injEq,Addr.mk.injEq,and_true] at O;obtain⟨ax,av⟩:=O;subst ax av;have g:BG m x=decide ((CS m).getD n 0<2):=by unfold BG;rw[if_neg A,if_pos a,I];have q:=(j.th n (by rw[z];have q:=k;rw[FL,c] at q;exact q)).ph;rw[Jf m (by have q:=k;rw[FL] at q;exact q)];unfold CV;rw[YH];simp only[Bool.not_eq_true',Bool.or_eq_false_iff,beq_eq_false_iff_ne,decide_eq_true_eq];omega
       generalize (CS m).getD n 0=v at *;have aG:(n:Int)<(nt:Int):=by have q:=k;rw[FL,c] at q;omega
       obtain⟨op,r,aR,aN,bR,bN,y⟩:=x;have C:y=n:=C;subst C;have a:op=BQ:=a;subst a;dsimp only at *;clear A o E N j z Z an M s6 S HD F f0 f1 f2 I aq k c
       by_cases q:v<2
       ·have B:decide (v<2)=true:=by simpa using q
        have u:Hid ((7:Int)=res):=by show (7:Int)=res;rw[<-i.out,g,if_pos B]
        clear g i
        skip
        unfold BQ bs at *
        go_upto_region 6 with fail
        try rw[f]
        clear f
        go_wp2_with fail
        go_ret
        exact⟨by rw[<-u.out];rfl,R.out⟩
       ·have B:decide (v<2)=false:=by simpa using q
        have u:Hid ((0:Int)=res):=by show (0:Int)=res;rw[<-i.out,g,if_neg (by rw[B];simp)]
        clear g i
        skip
        unfold BQ bs at *
        go_upto_region 6 with fail
        try rw[f]
        clear f
        go_wp2_with fail
        go_ret
        exact⟨by rw[<-u.out];rfl,R.out⟩
      ·by_cases p:x.op=BJ
       ·have k:n<(CS m).length:=by rw[FL,c];have:=o.th (.inl p);omega
        obtain⟨lb,lo,O,-,H⟩:=Km N.s k;simp only[Option.some.injEq,Addr.mk.injEq,and_true] at O;obtain⟨ax,av⟩:=O;subst ax av;have g:BG m x=decide ((CS m).getD n 0≠0):=by unfold BG;rw[if_neg A,if_neg a,if_pos p,I,Jf m (by have q:=k;rw[FL] at q;exact q)]
        generalize (CS m).getD n 0=v at *;have aG:(n:Int)<(nt:Int):=by have q:=k;rw[FL,c] at q;omega
        obtain⟨op,r,aR,aN,bR,bN,y⟩:=x;have C:y=n:=C;subst C;have p:op=BJ:=p;subst p;dsimp only at *;clear A a o E N j z Z an M s6 S HD F f0 f1 f2 I aq k c
        by_cases q:v≠0
        ·have B:decide (v≠0)=true:=by simpa using q
         have u:Hid ((7:Int)=res):=by show (7:Int)=res;rw[<-i.out,g,if_pos B]
         clear g i;have q2:(v != 0)=true:=by simpa using q
         unfold BJ bs at *
         go_upto_region 6 with fail
         try rw[f]
         clear f
         go_wp2_with fail
         go_ret
         exact⟨by rw[<-u.out];rfl,R.out⟩
        ·have B:decide (v≠0)=false:=by simpa using q
         have u:Hid ((0:Int)=res):=by show (0:Int)=res;rw[<-i.out,g,if_neg (by rw[B];simp)]
         clear g i;have q2:(v != 0)=false:=by simpa using q
         unfold BJ bs at *
         go_upto_region 6 with fail
         try rw[f]
         clear f
         go_wp2_with fail
         go_ret
         exact⟨by rw[<-u.out];rfl,R.out⟩
       ·have g:BG m x=false:=by unfold BG;rw[if_neg A,if_neg a,if_neg p]
        have u:Hid ((0:Int)=res):=by show (0:Int)=res;rw[<-i.out,g,if_neg (by simp)]
        rw[decide_eq_false A] at f0;rw[decide_eq_false a] at f1;rw[decide_eq_false p] at f2;unfold BP at f0;unfold BQ at f1;unfold BJ at f2;clear o E N j z Z an M s6 S HD F g i I aq c A a p C
        go_upto_region 6 with fail
        try rw[f]
        clear f
        go_wp2_with fail
        go_ret
        exact⟨by rw[<-u.out];rfl,R.out⟩
    ·have ho:CV (m.th tn)=true:=by
      have:(m.th tn).ph=2\/(m.th tn).ph=3:=by omega
      unfold CV;rcases this with q|q<;>rw[q]<;>rfl
     rw[if_pos ho];obtain⟨ph,aC⟩:∃ph,(m.th tn).ph=ph:=⟨_,rfl⟩;rw[aC] at ap G e1;have g0:(ph == 0)=false:=by simpa using G
     have g1:(ph != 1)=true:=by simpa using e1
     subst e4;clear h U j a T K D J Q Y z c p hT hp au G ao az ho e1 aC
     go_enter Tryz.func70,Tryz.ntmps70
     go_upto_region 1 with fail
     try rw[V]
     go_wp2_with fail
     go_ret
     exact⟨rfl,X.out⟩
end
end Go.Proofs.YtdcacoifehkioaaGreatDoor
namespace Go.Proofs.YtdcacoifehkioaaGreatDoor
open Go.RowKit Go.Proofs.Cod
def Gk (m:MS) (t:Nat) (x:Ad):Bool:=if x.op=CI then decide (m.locks.getD x.x.toNat 0≠(t:Int)) else if x.op=Dh then decide (Af (m.th t) x.aR x.aN≠Af (m.th t) x.bR x.bN) else false
def Av (m:MS) (t:Nat) (x:Ad):MS×Ev×Nat:=
 let th:=m.th t
 let a:=Af th x.aR x.aN
 let b:=Af th x.bR x.bN
 let n:=x.x.toNat
 let reg:=λv=>m.Ae t {th with regs:=th.regs.set x.r.toNat v}
 if x.op=Eo then(reg a,⟨t,0,0,0⟩,th.pc+1)
 else if x.op=Er then(reg ((a+b) % 1000),⟨t,0,0,0⟩,th.pc+1)
 else if x.op=En then(reg ((a - b+1000) % 1000),⟨t,0,0,0⟩,th.pc+1)
 else if x.op=Ep then(reg (a*b % 1000),⟨t,0,0,0⟩,th.pc+1)
 else if x.op=Bu then(reg (m.vars.getD n 0),⟨t,1,x.x,m.vars.getD n 0⟩,th.pc+1)
 else if x.op=AM then({m with vars:=m.vars.set n a},⟨t,2,x.x,a⟩,th.pc+1)
 else if x.op=Ec then(reg (m.flags.getD n 0),⟨t,3,x.x,m.flags.getD n 0⟩,th.pc+1)
 else if x.op=Eb then({m with flags:=m.flags.set n a},⟨t,4,x.x,a⟩,th.pc+1)
 else if x.op=BP then({m with locks:=m.locks.set n t},⟨t,5,x.x,0⟩,th.pc+1)
 else if x.op=CI then({m with locks:=m.locks.set n (-1)},⟨t,6,x.x,0⟩,th.pc+1)
 else if x.op=BJ then(m.Ae n {m.th n with ph:=1},⟨t,7,x.x,0⟩,th.pc+1)
 else if x.op=BQ then(m,⟨t,8,x.x,0⟩,th.pc+1)
 else if x.op=Eq then(m.Ae t {th with ph:=2},⟨t,10,0,0⟩,th.pc)
 else(m,⟨t,0,0,0⟩,th.pc+1)
def Et (m:MS) (t:Nat) (x:Ad):Bool:=decide (x.op=Dg\/(x.op=CX/\Af (m.th t) x.aR x.aN=Af (m.th t) x.bR x.bN)\/(x.op=CW/\Af (m.th t) x.aR x.aN<Af (m.th t) x.bR x.bN))
def BH (m:MS) (t:Nat) (x:Ad) (nx:Nat):Nat:=if Et m t x=true then x.x.toNat else nx
def EG (m:MS) (t:Nat) (pc:Nat):MS:=m.Ae t {m.th t with pc:=pc}
def Nc:List Tx:=[Eo,Er,En,Ep,Bu,AM,Ec,Eb,BP,CI,BJ,BQ,Dg,CX,CW,Dh,Eq]
section
variable {m:MS} {t:Nat} {x:Ad}
theorem Qf (m:MS) (t:Nat) (a b:TS):(m.Ae t a).Ae t b=m.Ae t b:=by unfold MS.Ae;rw[List.set_set]
theorem Il (b:t<m.thr.length) (a:TS) (pc:Nat):EG (m.Ae t a) t pc=m.Ae t {a with pc:=pc}:=by
 unfold EG;rw[Qf,Fr m t t a b,if_pos rfl]
theorem Vs (b:t<m.thr.length) (i:x.op∈Nc) (h:Gk m t x=false):Bc true m t x=(EG (Av m t x).1 t (BH m t x (Av m t x).2.2),(Av m t x).2.1):=by
 obtain⟨n,r,aR,aN,bR,bN,y⟩:=x;have l:∀(o:Tx),o≠Dg->o≠CX->o≠CW->Et m t ⟨o,r,aR,aN,bR,bN,y⟩=false:=λo f g d=>by
  unfold Et;simp[f,g,d]
 have a:∀(o:Tx) (k:Nat),o≠Dg->o≠CX->o≠CW->BH m t ⟨o,r,aR,aN,bR,bN,y⟩ k=k:=λo k f g d=>by
  unfold BH;rw[l o f g d,if_neg (by simp)]
 simp only[Nc,XR,X8,or_false] at i
 rcases i with rfl|rfl|rfl|rfl|rfl|rfl|rfl|rfl|rfl|rfl|rfl|rfl|rfl|rfl|rfl|rfl|rfl
 ·rw[a _ _ (by decide) (by decide) (by decide)];show (m.Ae t _,_)=(EG (m.Ae t _) t _,_);rw[Il b];rfl
 ·rw[a _ _ (by decide) (by decide) (by decide)];show (m.Ae t _,_)=(EG (m.Ae t _) t _,_);rw[Il b];rfl
 ·rw[a _ _ (by decide) (by decide) (by decide)];show (m.Ae t _,_)=(EG (m.Ae t _) t _,_);rw[Il b];rfl
 ·rw[a _ _ (by decide) (by decide) (by decide)];show (m.Ae t _,_)=(EG (m.Ae t _) t _,_);rw[Il b];rfl
 ·rw[a _ _ (by decide) (by decide) (by decide)];show (m.Ae t _,_)=(EG (m.Ae t _) t _,_);rw[Il b];rfl
 ·rw[a _ _ (by decide) (by decide) (by decide)];rfl
 ·rw[a _ _ (by decide) (by decide) (by decide)];show (m.Ae t _,_)=(EG (m.Ae t _) t _,_);rw[Il b];rfl
 ·rw[a _ _ (by decide) (by decide) (by decide)];rfl
 ·rw[a _ _ (by decide) (by decide) (by decide)];rfl
 ·rw[a _ _ (by decide) (by decide) (by decide)];have c:m.locks.getD y.toNat 0=(t:Int):=by
   have q:decide (m.locks.getD y.toNat 0≠(t:Int))=false:=h
   simpa using q
  show (if m.locks.getD y.toNat 0≠(t:Int) then _ else _)=_;rw[if_neg (by rw[c];simp)];rfl
 ·rw[a _ _ (by decide) (by decide) (by decide)];show ((m.Ae t {m.th t with pc:=(m.th t).pc+1}).Ae y.toNat {(m.Ae t {m.th t with pc:=(m.th t).pc+1}).th y.toNat with ph:=1},_)=(EG (m.Ae y.toNat {m.th y.toNat with ph:=1}) t ((m.th t).pc+1),_)
  congr 1
  by_cases e:y.toNat=t
  ·rw[e,Il b,Qf,Fr m t t _ b,if_pos rfl]
  ·unfold EG;rw[Fr m t y.toNat _ b,if_neg e];have j:(m.Ae y.toNat {m.th y.toNat with ph:=1}).th t=m.th t:=by
    unfold MS.th MS.Ae;rw[Xc,List.getElem?_set_ne e,Xc]
   rw[j];unfold MS.Ae;dsimp only;rw[List.set_comm _ _ (λq=>e q.symm)]
 ·rw[a _ _ (by decide) (by decide) (by decide)];rfl
 ·have q:Et m t ⟨Dg,r,aR,aN,bR,bN,y⟩=true:=by unfold Et;simp
  unfold BH;rw[q,if_pos rfl];rfl
 ·unfold BH
  by_cases e:Af (m.th t) aR aN=Af (m.th t) bR bN
  ·have q:Et m t ⟨CX,r,aR,aN,bR,bN,y⟩=true:=by unfold Et;simp[e]
   rw[q,if_pos rfl];show (m.Ae t {m.th t with pc:=if Af (m.th t) aR aN=Af (m.th t) bR bN then y.toNat else(m.th t).pc+1},_)=_;rw[if_pos e];rfl
  ·have q:Et m t ⟨CX,r,aR,aN,bR,bN,y⟩=false:=by
    unfold Et;simp only[decide_eq_false_iff_not]
    rintro(q|q|q)
    ·exact absurd q (by decide)
    ·exact e q.2
    ·exact absurd q.1 (by decide)
   rw[q,if_neg (by simp)];show (m.Ae t {m.th t with pc:=if Af (m.th t) aR aN=Af (m.th t) bR bN then y.toNat else(m.th t).pc+1},_)=_;rw[if_neg e];rfl
 ·unfold BH
  by_cases e:Af (m.th t) aR aN<Af (m.th t) bR bN
  ·have q:Et m t ⟨CW,r,aR,aN,bR,bN,y⟩=true:=by unfold Et;simp[e]
   rw[q,if_pos rfl];show (m.Ae t {m.th t with pc:=if Af (m.th t) aR aN<Af (m.th t) bR bN then y.toNat else(m.th t).pc+1},_)=_;rw[if_pos e];rfl
  ·have q:Et m t ⟨CW,r,aR,aN,bR,bN,y⟩=false:=by
    unfold Et;simp only[decide_eq_false_iff_not]
    rintro(q|q|q)
    ·exact absurd q (by decide)
    ·exact absurd q.1 (by decide)
    ·exact e q.2
   rw[q,if_neg (by simp)];show (m.Ae t {m.th t with pc:=if Af (m.th t) aR aN<Af (m.th t) bR bN then y.toNat else(m.th t).pc+1},_)=_;rw[if_neg e];rfl
 ·rw[a _ _ (by decide) (by decide) (by decide)];have c:Af (m.th t) aR aN=Af (m.th t) bR bN:=by
   have q:decide (Af (m.th t) aR aN≠Af (m.th t) bR bN)=false:=h
   simpa using q
  show (if Af (m.th t) aR aN≠Af (m.th t) bR bN then _ else _)=_;rw[if_neg (by rw[c];simp)];rfl
 ·rw[a _ _ (by decide) (by decide) (by decide)];show (m.Ae t _,_)=(EG (m.Ae t _) t _,_);rw[Il b];rfl
theorem adL (a:Gk m t x=true):Bc true m t x=(m.Ae t {m.th t with ph:=3},⟨t,9,0,0⟩):=by
 obtain⟨b,r,aR,aN,bR,bN,y⟩:=x;unfold Gk at a;dsimp only at a
 by_cases d:b=CI
 ·subst d;rw[if_pos rfl] at a;show (if m.locks.getD y.toNat 0≠(t:Int) then _ else _)=_;rw[if_pos (by simpa using a)];rfl
 ·rw[if_neg d] at a
  by_cases c:b=Dh
  ·subst c;rw[if_pos rfl] at a;show (if Af (m.th t) aR aN≠Af (m.th t) bR bN then _ else _)=_;rw[if_pos (by simpa using a)];rfl
  ·rw[if_neg c] at a;cases a
end
end Go.Proofs.YtdcacoifehkioaaGreatDoor
