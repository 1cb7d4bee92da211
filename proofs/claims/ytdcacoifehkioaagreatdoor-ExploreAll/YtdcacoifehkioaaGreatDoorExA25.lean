import Derived.Test.YtdcacoifehkioaaGreatDoorExA24
import Derived.BigQuiet
import Derived.Deep.DeepCutAuto
open List renaming getElem?_eq_getElem->Xe,length_append->Xb,mem_append->XX,mem_singleton->XT,getD_eq_getElem?_getD->Xc,getElem?_map->Xs,length_map->Xp,mem_cons->XP,not_mem_nil->X6
open Go renaming World->Xh,Value->Xk,info_parts->YI,heap_setCell_other->Xt,Addr->YV,bodyPost_ret->XI
open Go.RowKit renaming Below->Xm,wrap64->XN
open Array renaming getElem?_eq_some_iff->Xa
open Go.World renaming size_setCell->XA,cell?->Xg
open Nat renaming le_refl->Xd,zero_le->Xx,sub_lt_sub_left->Xl,lt_succ_self->Xo,le_trans->Xu
open Bool renaming eq_iff_iff->YJ
set_option maxRecDepth 100000
set_option maxHeartbeats 4000000
set_option linter.unusedVariables false
set_option linter.unusedSimpArgs false
namespace Go.Proofs.YtdcacoifehkioaaGreatDoor
open Go.RowKit Go.Shelf Go.Proofs.Cod
def Cw (s:Tx):Nat:=s.foldl (λh c=>(h*31+c.toNat) % 4096) 0
theorem Pq (s:Tx) (c:UInt8):Cw (s++[c])=(Cw s*31+c.toNat) % 4096:=by unfold Cw;rw[List.foldl_append];rfl
theorem Mu (s:Tx):Cw s<4096:=by
 rcases List.eq_nil_or_concat s with rfl|⟨r,c,rfl⟩
 ·decide
 ·rw[List.concat_eq_append,Pq];exact Nat.mod_lt _ (by decide)
theorem Vj {s:Tx} {i:Nat} (h:i<s.length):Cw (s.take (i+1))=(Cw (s.take i)*31+(s[i]).toNat) % 4096:=by
 rw[List.take_add_one,Xe h];exact Pq _ _
structure Ex (w:Xh) (base sb g:Nat) (f:Nat->Xk) (L:Nat->List Tx) (keys:List Tx):Prop where
 blk:w.heap[sb]?=some (.cells #[.slice (some ⟨g,0,none⟩) 4096 4096] 167)
 lo:base<=sb/\base<=g
 tab:Am w g 22 4096 f
 row:∀h,h<4096->w.ownsRow base 9 1 (f h) (L h).length ((L h).map λx=>Value.string (bs x))
 mem:∀h x,h<4096->(x∈L h↔x∈keys/\Cw x=h)
 len:∀h,h<4096->(L h).length<=keys.length
 apart:∀h h' b,h<4096->h'<4096->(f h).ownBlock=some b->(f h').ownBlock=some b->h=h'
structure Dy (base:Nat) (w w':Xh):Prop where
 bel:Xm base w w'
 other:∀(b:Nat) (cs:Array Xk) (T:Nat),w.heap[b]?=some (.cells cs T)->T≠167->T≠22->T≠9->w'.heap[b]?=w.heap[b]?
theorem Dy.refl (base:Nat) (w:Xh):Dy base w w:=⟨Below.refl _ _,λ_ _ _ _ _ _ _=>rfl⟩
theorem Dy.trans {base:Nat} {w w' f:Xh} (h:Dy base w w') (g:Dy base w' f):Dy base w f:=
 ⟨h.bel.trans g.bel,λb cs T e d c a=>(g.other b cs T ((h.other b cs T e d c a).trans e) d c a).trans (h.other b cs T e d c a)⟩
theorem Dy.CF {base:Nat} {w w':Xh} (a:base<=w.heap.size) (h:Xm w.heap.size w w'):Dy base w w':=
 ⟨h.mono a,λb cs T e _ _ _=>h.block b (Xa.1 e).1⟩
theorem Jl {w:Xh} {base e f n:Nat} {v:Xk} {i:List Xk} (h:w.ownsRow base e f v n i) {b:Nat} (a:v.ownBlock=some b):∃cs,w.heap[b]?=some (.cells cs e):=by
 rcases h.2 with⟨rfl,_⟩|⟨g,cap,d,rfl,j,c,-⟩
 ·cases a
 ·have:g=b:=by injection a
  subst this
  exact⟨d,c⟩
theorem Gw {w:Xh} {b d T c:Nat} {cs g:Array Xk} (h:w.heap[b]?=some (.cells cs T)) (a:w.heap[d]?=some (.cells g c)) (f:T≠c):b≠d:=by
 intro e;subst e;rw[h] at a;injection a with a
 injection a with _ a
 exact f a
section
variable {w w':Xh} {base sb g:Nat} {f:Nat->Xk} {L:Nat->List Tx} {keys:List Tx}
theorem Ex.keep (h:Ex w base sb g f L keys) (a:∀(b:Nat) (cs:Array Xk) (T:Nat),w.heap[b]?=some (.cells cs T)->T≠92->w'.heap[b]?=w.heap[b]?):Ex w' base sb g f L keys:=by
 refine⟨(a _ _ _ h.blk (by decide)).trans h.blk,h.lo,?_,λk c=>DW (h.row k c) λb d=>?_,h.mem,h.len,h.apart⟩
 ·obtain⟨cs,q,-,-⟩:=id h.tab;exact h.tab.same (a _ _ _ q (by decide))
 ·obtain⟨cs,q⟩:=Jl (h.row k c) d;exact a _ _ _ q (by decide)
theorem Ex.below (h:Ex w base sb g f L keys) (a:Xm w.heap.size w w'):Ex w' base sb g f L keys:=h.keep λb cs T e _=>a.block b (Xa.1 e).1
theorem Ex.push (h:Ex w base sb g f L keys) (d:base<=w.heap.size) (s:Tx) (hs:s∉keys) (hl:keys.length<1048576) :
 ∃i cap c,(Builtin.append_ #[22,22] 22 #[f (Cw s),.slice (some ⟨w.heap.size,0,none⟩) 1 1]).run Tryz.prog (w.alloc (.cells #[.string (bs s)] 9)) = .ok (.slice (some ⟨i,0,none⟩) ((L (Cw s)).length+1) cap) c/\
  c.heap[sb]?=some (.cells #[.slice (some ⟨g,0,none⟩) 4096 4096] 167)/\c.cell? ⟨g,Cw s,none⟩=some (f (Cw s))/\c.frozen? ⟨g,Cw s,none⟩=false/\
  Dy base w (c.setCell ⟨g,Cw s,none⟩ (.slice (some ⟨i,0,none⟩) ((L (Cw s)).length+1) cap))/\
  Ex (c.setCell ⟨g,Cw s,none⟩ (.slice (some ⟨i,0,none⟩) ((L (Cw s)).length+1) cap)) base sb g (λj=>if j=Cw s then .slice (some ⟨i,0,none⟩) ((L (Cw s)).length+1) cap else f j) (λj=>if j=Cw s then L (Cw s)++[s] else L j) (keys++[s]):=by
 obtain⟨k,A⟩:∃k,Cw s=k:=⟨_,rfl⟩;have t:k<4096:=by rw[<-A];exact Mu s
 rw[A];have C:=h.row k t;obtain⟨i0,Q,S,ac,Z⟩:=YI Tryz.infoStrX;obtain⟨i,cap,c,O,F,P,rt,W,rz,rb,Y⟩:=Ic C Tryz.underlying22 Q S ac Z rfl (by omega) [.string (bs s)] rfl (by intro u J;simp at J;subst J;rfl) 22 (by have:=h.len k t;omega) d;obtain⟨gc,y,-,-⟩:=id h.tab;have X:∀b,(f k).ownBlock=some b->∀{x T:Nat} {cs:Array Xk},w.heap[x]?=some (.cells cs T)->T≠9->x≠b:=λb d x T cs e B=>by
  obtain⟨N,q⟩:=Jl C d;exact Gw e q B
 have D:∀{x T:Nat} {cs:Array Xk},w.heap[x]?=some (.cells cs T)->T≠9->c.heap[x]?=w.heap[x]?:=λ{x T cs} e B=>rb x (Xa.1 e).1 λq=>X x q e B rfl;have E:=(D h.blk (by decide)).trans h.blk;have v:=h.tab.same (D y (by decide));have M:sb≠g:=Gw h.blk y (by decide);have r:∀x,x≠g->(c.setCell ⟨g,k,none⟩ (.slice (some ⟨i,0,none⟩) ((L k).length+1) cap)).heap[x]?=c.heap[x]?:=λx I=>Xt c ⟨g,k,none⟩ x _ I;have U:Dy base w (c.setCell ⟨g,k,none⟩ (.slice (some ⟨i,0,none⟩) ((L k).length+1) cap)):=by
  refine⟨⟨P,rt,W,by rw[XA];omega,λx I=>?_⟩,λb cs T e h1 R h3=>?_⟩
  ·rw[r x (by have:=h.lo.2;omega)];exact rb x (by omega) λq=>by have:=(C.lt x q).1;omega
  ·rw[r b (Gw e y R)];exact D e h3
 have G:∀j,j<4096->j≠k->∀b,(f j).ownBlock=some b->b≠i:=λj a V b d e=>by
  subst e
  rcases Y with q|q
  ·exact V (h.apart j k b a t d q)
  ·have:=((h.row j a).lt b d).2;omega
 refine⟨i,cap,c,O,E,v.cell t,v.frozen k,U,⟨(r sb M).trans E,h.lo,v.set k _,λj a=>?_,λj x a=>?_,λj a=>?_,λj z b a H m n=>?_⟩⟩
 ·by_cases e:j=k
  ·subst e;rw[if_pos rfl,if_pos rfl,Xb,List.map_append];refine DW F λb d=>r b ?_;obtain⟨cs,q⟩:=Jl F d;obtain⟨N,K,-,-⟩:=id v;exact Gw q K (by decide)
  ·rw[if_neg e,if_neg e];refine DW (h.row j a) λb d=>?_;obtain⟨cs,q⟩:=Jl (h.row j a) d;rw[r b (Gw q y (by decide))];exact rb b ((h.row j a).lt b d).2 λq=>e (h.apart j k b a t d q)
 ·by_cases e:j=k
  ·subst e;rw[if_pos rfl,XX,XX,h.mem j x a];constructor
   ·rintro(⟨l,o⟩|q)
    ·exact⟨.inl l,o⟩
    ·rw[XT.1 q];exact⟨.inr (XT.2 rfl),A⟩
   ·rintro⟨l|l,o⟩
    ·exact .inl ⟨l,o⟩
    ·exact .inr l
  ·rw[if_neg e,XX,h.mem j x a];constructor
   ·rintro⟨l,o⟩
    exact⟨.inl l,o⟩
   ·rintro⟨l|l,o⟩
    ·exact⟨l,o⟩
    ·rw[XT.1 l,A] at o;exact absurd o.symm e
 ·rw[Xb]
  by_cases e:j=k
  ·subst e;rw[if_pos rfl,Xb];have:=h.len j a;exact Nat.add_le_add_right this 1
  ·rw[if_neg e];have:=h.len j a
   omega
 ·by_cases e:j=k
  ·by_cases p:z=k
   ·rw[e,p]
   ·exfalso
    (try dsimp only at m n)
    rw[if_pos e] at m;rw[if_neg p] at n;have:i=b:=by injection m
    exact G z H p b n this.symm
  ·by_cases p:z=k
   ·exfalso
    (try dsimp only at m n)
    rw[if_neg e] at m;rw[if_pos p] at n;have:i=b:=by injection n
    exact G j a e b m this.symm
   ·(try dsimp only at m n)
    rw[if_neg e] at m;rw[if_neg p] at n;exact h.apart j z b a H m n
theorem Ex.nil {vs:Array Xk} (b:w.heap[sb]?=some (.cells #[.slice (some ⟨g,0,none⟩) 4096 4096] 167)) (a:base<=sb/\base<=g) (c:Am w g 22 4096 (λ_=>.slice none 0 0)):Ex w base sb g (λ_=>.slice none 0 0) (λ_=>[]) []:=
 ⟨b,a,c,λ_ _=>World.ownsRow_nil _ _ _ _,λ_ _ _=>⟨(λh=>by cases h),(λh=>by cases h.1)⟩,λ_ _=>Xd _,(λ_ _ _ _ _ h=>by cases h)⟩
end
theorem Tryz.infoRowS:(Tryz.prog.info? 22).map (λi=>(i.zero,i.size,i.bytes))=some (some (.slice none 0 0),1,24):=by kernel_rfl
theorem aby (w:Xh) {n:Nat} (z:n<=1048576):∃b,(Instr.makeSlice 165 (.int .i64 (n:Int)) (.int .i64 (n:Int))).run Tryz.prog w = .ok (.slice (some ⟨w.heap.size,0,none⟩) n n) b/\Am b w.heap.size 22 n (λ_=>.slice none 0 0)/\w.grownBy b none:=by
 obtain⟨t,h,i,p,s⟩:=YI Tryz.infoRowS;obtain⟨b,o,d,l⟩:=run_make_full (P:=Tryz.prog) w w.heap.size 165 22 t (.slice none 0 0) 1 Tryz.underlying165 h i p .i64 .i64 n (by rw[s];omega) (by unfold maxLen;omega) (Xd _);refine⟨b,o,?_,l⟩;have e:(madeCells (Value.slice none 0 0).cells (n*1)).toList=List.replicate n (Value.slice none 0 0):=by
  show (madeCells #[Value.slice none 0 0] (n*1)).toList=_;rw[Nat.mul_one,toList_madeCells_one]
 rw[e] at d
 rcases d.2 with⟨a,_⟩|⟨g,cap,c,a,y,r,x,v,A,f⟩
 ·cases a
 ·have j:w.heap.size=g:=by injection a with a _ _;injection a with a;injection a
  have m:n=cap:=by injection a
  subst j m;refine⟨c,r,by omega,λk u=>?_⟩;have q:c.toList[k]?=some (.slice none 0 0):=by
   have:(c.toList.take (n*1))[k]?=some (.slice none 0 0):=by rw[f,List.getElem?_replicate,if_pos u]
   rw[List.getElem?_take,if_pos (by omega)] at this;exact this
  rw[Array.getElem?_toList] at q;exact q
theorem UL (a k:Nat):Int.tmod (a:Int) (k:Int)=((a % k:Nat):Int):=by
 rw[Int.tmod_eq_emod_of_nonneg (Int.natCast_nonneg a)]
 rfl
theorem Vi {x c:Nat} (g:x<4096) (f:c<256):XN (c:Int)=(c:Int)/\XN ((x:Int)*31)=(x:Int)*31/\XN ((x:Int)*31+(c:Int))=(x:Int)*31+(c:Int)/\Int.tmod ((x:Int)*31+(c:Int)) 4096=(((x*31+c) % 4096:Nat):Int):=by
 have e:XN ((c:Int))=(c:Int):=Cv (by omega);have b:=Cv (n:=x*31) (by omega);have a:=Cv (n:=x*31+c) (by omega)
 push_cast at b a
 refine⟨e,b,a,?_⟩;have d:=UL (x*31+c) 4096;rw[<-d]
 rfl
def Fl (w:Xh) (base sb:Nat) (keys:List Tx):Prop:=(w.heap[sb]?=some (.cells #[.slice none 0 0] 167)/\base<=sb/\keys=[])\/∃g f L,Ex w base sb g f L keys
def ae4 (w:Xh) (base sb:Nat) (keys:List Tx) (s:Tx) (e:Ending) (w':Xh):Prop:=e = .returned (.bool (decide (s∉keys)))/\Fl w' base sb (if s∈keys then keys else keys++[s])/\Dy base w w'
theorem VZ {w a:Xh} {base sb:Nat} (d:w.heap[sb]?=some (.cells #[.slice none 0 0] 167)) (i:base<=sb) (g:base<=w.heap.size) (j:Am a w.heap.size 22 4096 (λ_=>.slice none 0 0)) (c:w.grownBy a none) :
 a.cell? ⟨sb,0,none⟩=some (.slice none 0 0)/\a.frozen? ⟨sb,0,none⟩=false/\Ex (a.setCell ⟨sb,0,none⟩ (.slice (some ⟨w.heap.size,0,none⟩) 4096 4096)) base sb w.heap.size (λ_=>.slice none 0 0) (λ_=>[]) []/\Dy base w (a.setCell ⟨sb,0,none⟩ (.slice (some ⟨w.heap.size,0,none⟩) 4096 4096)):=by
 have h:=(Xa.1 d).1;have f:a.heap[sb]?=some (.cells #[.slice none 0 0] 167):=(c.block sb h (by simp)).trans d;have l:=heap_setCell_same a sb 0 _ _ (.slice (some ⟨w.heap.size,0,none⟩) 4096 4096) f;refine⟨by simp[Xg,f],Ao f 0,Ex.nil (vs := #[]) l ⟨i,g⟩ (j.other (by show w.heap.size≠sb;omega) _),⟨⟨c.os,c.tape,c.output,by rw[XA];exact c.size,λk n=>?_⟩,λb cs T e m _ _=>?_⟩⟩
 ·rw[Xt a ⟨sb,0,none⟩ k _ (by show k≠sb;omega)];exact c.block k (by omega) (by simp)
 ·rw[Xt a ⟨sb,0,none⟩ b _ (Gw e d m)];exact c.block b (Xa.1 e).1 (by simp)
theorem Wb {w:Xh} {base sb g:Nat} {f:Nat->Xk} {L:Nat->List Tx} {d:List Tx} (h:Ex w base sb g f L d) {k:Nat} (b:k<4096):w.cell? ⟨sb,0,none⟩=some (.slice (some ⟨g,0,none⟩) 4096 4096)/\w.cell? ⟨g,k,none⟩=some (f k)/\∃a cap,f k = .slice a (L k).length cap/\Ts w a (L k):=by
 obtain⟨a,cap,e,c⟩:=IX (h.row k b)
 exact⟨by simp[Xg,h.blk],h.tab.cell b,a,cap,e,c⟩
theorem Qh {w:Xh} {base sb:Nat} {k:List Tx} {s:Tx} (hs:s.length<4294967296) (I:Fl w base sb k) (d:base<=w.heap.size) (hl:k.length<1048576) :
 Calls Tryz.prog 67 #[.pointer (some ⟨sb,0,none⟩),.string (bs s)] w (ae4 w base sb k s):=by
 have aZ:(bs s).size=s.length:=Bg s;have v:=Aa (⟨hs,d,hl⟩:_/\_/\_);clear hs d hl;have aJ:w.cell? ⟨sb,0,none⟩=some (.slice none 0 0)\/∃g,w.cell? ⟨sb,0,none⟩=some (.slice (some ⟨g,0,none⟩) 4096 4096):=by
  rcases I with h|⟨g,f,L,h⟩
  ·exact .inl (by simp[Xg,h.1])
  ·exact .inr ⟨g,by simp[Xg,h.blk]⟩
 obtain⟨F,sn,sc,S,aS⟩:∃a n c,w.cell? ⟨sb,0,none⟩=some (.slice a n c)/\(a=none->n=0/\c=0):=by
  rcases aJ with h|⟨g,h⟩
  ·exact⟨_,_,_,h,λ_=>⟨rfl,rfl⟩⟩
  ·exact⟨_,_,_,h,(λq=>by cases q)⟩
 have ay:Sem.run Tryz.prog (binOp BinOp.eql 165 (.slice F sn sc) (.slice none 0 0)) w = .ok (.bool F.isNone) w:=by cases F<;>rfl
 obtain⟨nb,M⟩:∃b,F.isNone=b:=⟨_,rfl⟩;rw[M] at ay;replace M:=Aa M;replace I:=Aa I;replace aS:=Aa aS;clear aJ
 go_enter Tryz.func67,Tryz.ntmps67
 go_upto_if 12 with fail
 go_cut [] (λwx=>(∃g f L,Ex wx base sb g f L k)/\Dy base w wx)
 case first=>
  cases nb with
  |true=>
   obtain⟨U,h2,Q⟩|⟨g,f,L,h⟩:=I.out
   ·obtain⟨G,D,ht,hg⟩:=aby w (n:=4096) (by decide);have D:(Instr.makeSlice 165 (.int .i64 4096) (.int .i64 4096)).run Tryz.prog w = .ok (.slice (some ⟨w.heap.size,0,none⟩) 4096 4096) G:=D;obtain⟨m1,m2,m3,m4⟩:=VZ U h2 v.out.2.1 ht hg;have HM:=Aa (⟨m3,m4,Q⟩:_/\_/\_);clear U h2 Q ht hg m3 m4 ay S
    go_wp2_with fail
    go_meet
    obtain⟨m3,m4,Q⟩:=HM.out
    exact⟨⟨_,_,_,by rw[Q];exact m3⟩,m4⟩
   ·exfalso
    have e:w.cell? ⟨sb,0,none⟩=some (.slice (some ⟨g,0,none⟩) 4096 4096):=by simp[Xg,h.blk]
    rw[S] at e;injection e with e
    have e:F=some ⟨g,0,none⟩:=by injection e
    have q:=M.out;rw[e] at q
    cases q
  |false=>
   have hS:Hid (∃g f L,Ex w base sb g f L k):=by
    rcases I.out with⟨U,h2,Q⟩|h
    ·exfalso
     have e:w.cell? ⟨sb,0,none⟩=some (.slice none 0 0):=by simp[Xg,U]
     rw[S] at e;injection e with e
     have e:F=none:=by injection e
     have q:=M.out;rw[e] at q
     cases q
    ·exact h
   go_wp2_with fail
   go_meet
   exact⟨hS.out,Dy.refl _ _⟩
 case rest=>
  obtain⟨⟨g,f,L,l⟩,o⟩:=hcut;have an:=Mu s;obtain⟨b0,B,ra,rc,A,Y⟩:=Wb l an;rw[A] at B;have HC:Hid (∀u,Xm wc.heap.size wc u->u.cell? ⟨sb,0,none⟩=some (.slice (some ⟨g,0,none⟩) 4096 4096)/\u.cell? ⟨g,Cw s,none⟩=some (.slice ra (L (Cw s)).length rc)):=λu hu=>⟨(hu.cell (p:=⟨sb,0,none⟩) (Xa.1 l.blk).1).trans b0,(hu.cell (p:=⟨g,Cw s,none⟩) l.tab.lt).trans B⟩
  have H:=Aa (⟨l,o,A,Y,an⟩:_/\_/\_/\_/\_);clear l o A Y b0 B an S ay;obtain⟨n,E⟩:∃n,s.length=n:=⟨_,rfl⟩;rw[E] at aZ;replace E:=Aa E
  go_wp2_with fail
  go_loopw [5,6] (λhv iv wr=>∃i:Nat,i<=n/\iv = .int .i64 i/\hv = .int .i64 ((Cw (s.take i):Nat):Int)/\Xm wc.heap.size wc wr) (λ_ iv _=>n - (intOf iv).toNat)
  case atStart=>exact⟨0,Xx _,rfl,rfl,Below.refl _ _⟩
  case round=>
   obtain⟨i,hi,rfl,rfl,d⟩:=hrel
   by_cases Z:i<n
   ·have a0:(i:Int)<(n:Int):=by omega
    have aP:XN ((i:Int)+1)=(i:Int)+1:=by have:=v.out.1;rw[E.out] at this;unfold XN;omega
    have aM:i<s.length:=by rw[E.out];exact Z
    obtain⟨c,hc⟩:∃c,s[i]=c:=⟨_,rfl⟩;have gc:∀h,(bs s)[i]'h=c:=λh=>(Dx s i h).trans hc;have aa:=Vj aM;rw[hc] at aa;have ax:=Mu (s.take i);obtain⟨x,m⟩:∃x,Cw (s.take i)=x:=⟨_,rfl⟩;rw[m] at aa ax |-;have aA:c.toNat<256:=UInt8.toNat_lt c;obtain⟨bm,bi,bj,a3⟩:=Vi ax aA;rw[<-aa] at a3;obtain⟨b0,B⟩:=HC.out wr d;have t:Hid (i+1<=n/\∀q,Xm wc.heap.size wc (wr.drewN q)):=⟨Z,λq=>⟨d.os,d.tape,d.output,d.size,d.block⟩⟩;clear hi Z d aM hc aa ax m aA B
    go_wp2_with fail
    go_quiet (fail)
    clear gc
    go_wp2_with fail
    go_roundw
    case rel=>
     (try rw[aP])
     exact⟨i+1,t.out.1,rfl,rfl,t.out.2 _⟩
    case measure=>
     (try rw[aP])
     exact Xl t.out.1 (Xo i)
   ·have ba:i=n:=by omega
    subst ba;have hT:s.take i=s:=List.take_of_length_le (by rw[E.out];exact Xd _);rw[hT];obtain⟨x,m⟩:∃x,Cw s=x:=⟨_,rfl⟩;rw[m] at H |-;simp only[m] at HC;obtain⟨C,K⟩:∃r,(L x).length=r:=⟨_,rfl⟩;have bf:(x:Int)<4096:=by have:=H.out.2.2.2.2;omega
    replace m:=Aa m
    rename Xh=>wo
    have HB:=Aa d;clear hi Z d hT
    go_wp2_with fail
    go_loopw [7] (λjv wr=>∃j:Nat,j<=C/\jv = .int .i64 j/\(∀q y,q<j->(L x)[q]?=some y->y≠s)/\Xm wc.heap.size wc wr) (λjv _=>C - (intOf jv).toNat)
    case atStart=>exact⟨0,Xx _,rfl,(λq y O=>absurd O (Nat.not_lt_zero q)),HB.out⟩
    case round=>
     obtain⟨j,hj,rfl,P,d⟩:=hrel;obtain⟨b0,B⟩:=HC.out wr d;rw[K] at B
     by_cases V:j<C
     ·have a0:(j:Int)<(C:Int):=by omega
      have aE:XN ((j:Int)+1)=(j:Int)+1:=by
       have:=v.out.2.2;have:=H.out.1.len x H.out.2.2.2.2;exact Cv (n:=j+1) (by omega)
      obtain⟨y,R⟩:∃y,(L x)[j]?=some y:=⟨_,Xe (by omega)⟩;obtain⟨tb,bd,e1,tl,W⟩:=H.out.2.2.2.1 j (by omega);have aw:(L x).getD j []=y:=by rw[Xc,R];rfl
      rw[aw] at W;have bl:=(d.cell (p:=⟨tb,bd+j,none⟩) tl).trans W;subst e1;have aL:((bs y).toList == (bs s).toList)=decide (y=s):=by rw[AL,AL];exact YJ.2 (by simp)
      by_cases e:y=s
      ·have J:decide (y=s)=true:=decide_eq_true e;rw[J] at aL;have N:Hid (decide (s∉k)=false/\Fl wr base sb (if s∈k then k else k++[s])/\Dy base w wr):=by
        obtain⟨l,o,-,-,af⟩:=H.out;have X:s∈k:=((l.mem x s af).1 (by rw[<-e];exact List.mem_of_getElem? R)).1;refine⟨decide_eq_false (λq=>q X),?_,o.trans (Dy.CF (Xu v.out.2.1 o.bel.size) d)⟩;rw[if_pos X];exact .inr ⟨g,f,L,l.below d⟩
       clear P d hj V R tl W aw e J
       go_wp2_with fail
       go_ret
       exact⟨by rw[N.out.1];rfl,N.out.2⟩
      ·have J:decide (y=s)=false:=decide_eq_false e;rw[J] at aL;have t:Hid (j+1<=C/\(∀q y,q<j+1->(L x)[q]?=some y->y≠s)/\Xm wc.heap.size wc wr):=⟨V,λq z O hz=>by
        by_cases e2:q=j
        ·rw[e2,R] at hz
         cases hz
         exact e
        ·exact P q z (by omega) hz,d⟩
       clear P d hj V R tl W aw e J
       go_wp2_with fail
       go_roundw
       case rel=>
        (try rw[aE])
        exact⟨j+1,t.out.1,rfl,t.out.2.1,t.out.2.2⟩
       case measure=>
        (try rw[aE])
        exact Xl t.out.1 (Xo j)
     ·have aU:j=C:=by omega
      subst aU;obtain⟨l,o,A,Y,af⟩:=H.out;have T:s∉k:=λX=>by
       have a4:s∈L x:=(l.mem x s af).2 ⟨X,m.out⟩;obtain⟨q,O⟩:=List.mem_iff_getElem?.1 a4;exact P q s (by have:=(List.getElem?_eq_some_iff.1 O).1;omega) O rfl
      have ad:Xm wc.heap.size wc wr.drew:=⟨d.os,d.tape,d.output,d.size,d.block⟩;have aK:=l.below ad;obtain⟨g2,cap,G,D,p1,p2,p3,p4,p5⟩:=aK.push (by have:=o.bel.size;have:=ad.size;have:=v.out.2.1;omega) s T v.out.2.2;rw[m.out,A,K] at D;rw[m.out,K] at p4 p5;rw[m.out] at p2 p3;rw[A,K] at p2;have N:Hid (decide (s∉k)=true/\Fl (G.setCell ⟨g,x,none⟩ (.slice (some ⟨g2,0,none⟩) (j+1) cap)) base sb (if s∈k then k else k++[s])/\Dy base w (G.setCell ⟨g,x,none⟩ (.slice (some ⟨g2,0,none⟩) (j+1) cap))):=by
       refine⟨decide_eq_true T,?_,(o.trans (Dy.CF (Xu v.out.2.1 o.bel.size) ad)).trans p4⟩;rw[if_neg T];exact .inr ⟨_,_,_,p5⟩
      have bk:G.cell? ⟨sb,0,none⟩=some (.slice (some ⟨g,0,none⟩) 4096 4096):=by simp[Xg,p1]
      have a6:(Builtin.append_ #[22,22] 22 #[.slice ra j rc,.slice (some ⟨wr.heap.size,0,none⟩) 1 1]).run Tryz.prog (wr.alloc (.cells #[.string (bs s)] 9)).drew = .ok (.slice (some ⟨g2,0,none⟩) (j+1) cap) G:=D;have aB:Xm wc.heap.size wc (wr.alloc (.cells #[.string (bs s)] 9)):=d.trans ((Below.refl _ _).alloc d.size _);obtain⟨b2,b3⟩:=HC.out _ aB;rw[K] at b3;clear l o A Y af T ad aK p4 p5 P d hj V D p1 aB
      go_wp2_with fail
      go_region_law (refine FV rfl _ _ _ rfl rfl rfl rfl a6 ?_)
      all_goals
       go_wp2_with fail
       go_ret
       exact⟨by rw[N.out.1];rfl,N.out.2⟩
def Do (x:Ad) (ln:Int) (wd:Tx):Array Xk := #[.string (bs x.op),.int .i64 x.r,.bool x.aR,.int .i64 x.aN,.bool x.bR,.int .i64 x.bN,.int .i64 x.x,.int .i64 ln,.string (bs wd)]
def Ai (P:RP):List (List Ad):=P.thr.map λth=>th.code.map RI.i
section
variable {w w':Xh} {a0 a1 a2 a3 a4 a5:Option YV} {nv nf nl nt nr:Nat} {m:MS} {P:RP} {TV:List (Xk×Xk)} {x1 x2 x3 x4:Option YV} {y1 y2 y3 z1 z2 z3 z4:Nat}
theorem Ro {w:Xh} {fn:Func} {tmps:Array Xk} {b k:Nat} {i f d g e v5 h c a:Xk} (p:fn.results = #[.cell k 177]) (n:tmps[k]?=some (.pointer (some ⟨b,0,none⟩))) (m:w.heap[b]?=some (.cells #[i,f,d,g,e,v5,h,c,a] 177)):(results fn tmps).run Tryz.prog w = .ok (.agg #[i,f,d,g,e,v5,h,c,a]) w:=by
 obtain⟨c0,c1,c2,c3,c4,c5,o,l,j⟩:=Dv m;simp[results,p,n,go_sem,c0,c1,c2,c3,c4,c5,o,l,j]
theorem MJ {c0 c1 c2 c3 c4 c5:Nat} (s:DI w (.slice x1 y1 z1) (.slice x2 y2 z2) (.slice x3 y3 z3) (.slice x4 nt z4) P TV) (K:P.thr.length=nt) (h:Ci w a0 a1 a2 a3 a4 a5 nv nf nl nt nr m) {t:Nat} (G:t<nt) (q:(m.th t).pc<=((Ai P).getD t []).length) :
 Calls Tryz.prog 73 #[.agg #[.slice x1 y1 z1,.slice x2 y2 z2,.slice x3 y3 z3,.slice x4 nt z4],.agg #[.slice a0 nv c0,.slice a1 nf c1,.slice a2 nl c2,.slice a3 nt c3,.slice a4 nt c4,.slice a5 nr c5],.int .i64 t] w λe w'=>∃F E,e = .returned (.agg (Do (BA (Ai P) t (m.th t)) F E))/\Xm w.heap.size w w':=by
 obtain⟨W,A⟩:∃W,((w.alloc (.cells #[.slice x1 y1 z1,.slice x2 y2 z2,.slice x3 y3 z3,.slice x4 nt z4] 28)).alloc (.cells #[.slice a0 nv c0,.slice a1 nf c1,.slice a2 nl c2,.slice a3 nt c3,.slice a4 nt c4,.slice a5 nr c5] 92)).alloc (.cells #[.string ⟨#[]⟩,.int .i64 0,.bool false,.int .i64 0,.bool false,.int .i64 0,.int .i64 0,.int .i64 0,.string ⟨#[]⟩] 177)=W:=⟨_,rfl⟩;obtain⟨f,I,B,a,M⟩:=OX _ _ _ _ A;have x:=Aa (⟨f,a⟩:_/\_);obtain⟨th,l⟩:∃th,P.thr[t]?=some th:=⟨_,Xe (by omega)⟩;obtain⟨p,z⟩:∃p,TV[t]?=some p:=⟨_,Xe (by rw[s.len];omega)⟩;have u:=s.below f;obtain⟨g,cap,V,-,-,o⟩:=u.JH l z;injection V with hga hnq hcq
 subst hga;clear hcq hnq;have v:=u.c t th p l z;have y:(Ai P).getD t []=th.code.map RI.i:=by unfold Ai;rw[Xc,Xs,l];rfl
 obtain⟨b,aq,rfl,-,Q⟩:=(h.below f).QV G;have J:BA (Ai P) t (m.th t)=(th.code.map RI.i).getD (m.th t).pc Cm:=by unfold BA;rw[y]
 rw[J];rw[y,Xp] at q;obtain⟨pc,H⟩:∃pc,(m.th t).pc=pc:=⟨_,rfl⟩;rw[H] at Q q |-;obtain⟨-,-,-,q3⟩:=Cl I;obtain⟨-,-,-,s3,-,-⟩:=Bk B;obtain⟨r0,r1,r2,r3,r4,r5,r6,r7,r8⟩:=Dv a;obtain⟨ah,ay,an,aE,aj,az,ao,aw,ag⟩:=(⟨Ao a 0,Ao a 1,Ao a 2,Ao a 3,Ao a 4,Ao a 5,Ao a 6,Ao a 7,Ao a 8⟩:_/\_/\_/\_/\_/\_/\_/\_/\_);have af:(t:Int)<(nt:Int):=by omega
 obtain⟨ca,R,n⟩:=As v
 by_cases e:pc=th.code.length
 ·have k:(th.code.map RI.i).getD pc Cm=Cm:=by rw[Xc,List.getElem?_eq_none (by rw[Xp];omega)];rfl
  rw[k];rw[n] at o;obtain⟨d,j⟩:∃d,th.code.length=d:=⟨_,rfl⟩;rw[j] at e o;subst e;clear f I B a M u s v l z h K G y J q H j k n
  go_enter Tryz.func73,Tryz.ntmps73
  go_upto_region 1 with fail
  try rw[A]
  go_wp2_with fail
  exact XI (Ro rfl rfl (Id _ _ _ _ _ _ _ _ _ x.out.2)) rfl ⟨0,[],rfl,IQ _ _ _ _ _ _ _ _ _ x.out.1 (by omega)⟩
 ·have D:pc<th.code.length:=by omega
  obtain⟨r,C⟩:∃r,th.code[pc]?=some r:=⟨_,Xe D⟩;have k:(th.code.map RI.i).getD pc Cm=r.i:=by rw[Xc,Xs,C];rfl
  rw[k];obtain⟨cg,R,n,-,i9⟩:=acI v C;rw[n] at o;obtain⟨d,j⟩:∃d,th.code.length=d:=⟨_,rfl⟩;rw[j] at e o D;have ak:((pc:Int) == (d:Int))=false:=by simp only[beq_eq_false_iff_ne];omega
  have ar:(pc:Int)<(d:Int):=by omega
  obtain⟨i0,X,U,Z,N,S,Y,O,T⟩:=i9;obtain⟨xi,F,E⟩:=r;dsimp only at i0 X U Z N S Y O T |-;clear f I B a M u s v l z h K G y J q H j k n C D e
  go_enter Tryz.func73,Tryz.ntmps73
  go_upto_region 1 with fail
  try rw[A]
  go_wp2_with fail
  exact XI (Ro rfl rfl (Id _ _ _ _ _ _ _ _ _ x.out.2)) rfl ⟨F,E,rfl,IQ _ _ _ _ _ _ _ _ _ x.out.1 (by omega)⟩
end
structure XB (nv nf nl nt:Nat) (x:Ad):Prop where
 x0:0<=x.x
 vr:x.op=Bq\/x.op=AH->x.x<nv
 fl:x.op=DY\/x.op=DX->x.x<nf
 lk:x.op=BN\/x.op=CG->x.x<nl
 th:x.op=BI\/x.op=BO->x.x<nt
 r:0<=x.r/\x.r<4
 a:Fj x.aR x.aN
 b:Fj x.bR x.bN
 op:x.op=El\/x.op=Eo\/x.op=Ek\/x.op=Em\/x.op=Bq\/x.op=AH\/x.op=DY\/x.op=DX\/x.op=BN\/x.op=CG\/x.op=BI\/x.op=BO\/x.op=Dg\/x.op=CV\/x.op=CU\/x.op=Dh\/x.op=En
theorem OB {nv nf nl nt n:Nat} {x:Ad} (b:x=Cm\/Gq nv nf nl nt n x):XB nv nf nl nt x:=by
 rcases b with rfl|b
 ·refine⟨by decide,λq=>?_,λq=>?_,λq=>?_,λq=>?_,⟨by decide,by decide⟩,⟨by decide,by decide,λq=>by cases q⟩,⟨by decide,by decide,λq=>by cases q⟩,by simp[Cm,CB]⟩
  ·rcases q with q|q<;>cases q
  ·rcases q with q|q<;>cases q
  ·rcases q with q|q<;>cases q
  ·rcases q with q|q<;>cases q
 ·obtain⟨q,a,c,x1,x2,x3,x4,i⟩:=b.ex;obtain⟨⟨h,f⟩,d,g⟩:=b.sm;simp only[Bb,XP,X6,or_false] at a;refine⟨b.x0,λe=>?_,λe=>?_,λe=>?_,λe=>?_,⟨h,f⟩,d,g,?_⟩
  ·rw[c] at e
   rcases a with rfl|rfl|rfl|rfl|rfl|rfl|rfl|rfl|rfl|rfl|rfl|rfl|rfl|rfl|rfl|rfl|rfl<;>first|exact x1 (by decide)|(rcases e with e|e<;>exact absurd e (by decide))
  ·rw[c] at e
   rcases a with rfl|rfl|rfl|rfl|rfl|rfl|rfl|rfl|rfl|rfl|rfl|rfl|rfl|rfl|rfl|rfl|rfl<;>first|exact x2 (by decide)|(rcases e with e|e<;>exact absurd e (by decide))
  ·rw[c] at e
   rcases a with rfl|rfl|rfl|rfl|rfl|rfl|rfl|rfl|rfl|rfl|rfl|rfl|rfl|rfl|rfl|rfl|rfl<;>first|exact x3 (by decide)|(rcases e with e|e<;>exact absurd e (by decide))
  ·rw[c] at e
   rcases a with rfl|rfl|rfl|rfl|rfl|rfl|rfl|rfl|rfl|rfl|rfl|rfl|rfl|rfl|rfl|rfl|rfl<;>first|exact x4 (by decide)|(rcases e with e|e<;>exact absurd e (by decide))
  ·rw[c]
   rcases a with rfl|rfl|rfl|rfl|rfl|rfl|rfl|rfl|rfl|rfl|rfl|rfl|rfl|rfl|rfl|rfl|rfl<;>decide
theorem Ki {w:Xh} {a:Option YV} {l:List Int} (h:Is w a l) {i:Nat} (d:i<l.length):∃b c,a=some ⟨b,c,none⟩/\b<w.heap.size/\w.cell? ⟨b,c+i,none⟩=some (.int .i64 (l.getD i 0)):=h i d
section
variable {w w':Xh} {a0 a1 a2 a3 a4 a5:Option YV} {nv nf nl nt nr:Nat} {m:MS} {P:RP} {TV:List (Xk×Xk)} {x1 x2 x3 x4:Option YV} {y1 y2 y3 z1 z2 z3 z4:Nat}
theorem aeu {c0 c1 c2 c3 c4 c5:Nat} (T:DI w (.slice x1 y1 z1) (.slice x2 y2 z2) (.slice x3 y3 z3) (.slice x4 nt z4) P TV) (I:P.thr.length=nt) (h:Ci w a0 a1 a2 a3 a4 a5 nv nf nl nt nr m) (j:AW nv nf nl (Ai P) m) (V:Ef nv nf nl (Ai P)) (t:Int) :
 Calls Tryz.prog 70 #[.agg #[.slice x1 y1 z1,.slice x2 y2 z2,.slice x3 y3 z3,.slice x4 nt z4],.agg #[.slice a0 nv c0,.slice a1 nf c1,.slice a2 nl c2,.slice a3 nt c3,.slice a4 nt c4,.slice a5 nr c5],.int .i64 t] w λe w'=>e = .returned (.int .i64 (AV (Ai P) m t))/\Xm w.heap.size w w':=by
 obtain⟨W,X⟩:∃W,(w.alloc (.cells #[.slice x1 y1 z1,.slice x2 y2 z2,.slice x3 y3 z3,.slice x4 nt z4] 28)).alloc (.cells #[.slice a0 nv c0,.slice a1 nf c1,.slice a2 nl c2,.slice a3 nt c3,.slice a4 nt c4,.slice a5 nr c5] 92)=W:=⟨_,rfl⟩;obtain⟨C,N,Q,Z⟩:=FH _ _ _ X;have HB:=Aa C;have z:(Ai P).length=nt:=by unfold Ai;rw[Xp];exact I
 have f:m.thr.length=nt:=h.lt;obtain⟨-,-,-,q3⟩:=Cl N
 by_cases a:t<0
 ·have F:AV (Ai P) m t=5:=by unfold AV;rw[if_pos (.inl a)]
  rw[F];have d1:decide (t<0)=true:=by simpa using a
  clear h V j F a T I C N Q Z z f
  go_enter Tryz.func70,Tryz.ntmps70
  go_upto_region 1 with fail
  try rw[X]
  go_wp2_with fail
  go_ret
  exact⟨rfl,HB.out⟩
 ·obtain⟨tn,rfl⟩:∃tn:Nat,t=tn:=⟨t.toNat,by omega⟩;have d1:decide ((tn:Int)<0)=false:=by simp only[decide_eq_false_iff_not];exact a
  by_cases u:nt<=tn
  ·have F:AV (Ai P) m (tn:Int)=5:=by unfold AV;rw[if_pos (.inr (.inl (by rw[f];omega)))]
   rw[F];have d2:(nt:Int)<=(tn:Int):=by omega
   clear h V j F a T I C N Q Z z f u
   go_enter Tryz.func70,Tryz.ntmps70
   go_upto_region 1 with fail
   try rw[X]
   go_wp2_with fail
   go_ret
   exact⟨rfl,HB.out⟩
  ·have an:tn<nt:=by omega
   have d2:decide ((nt:Int)<=(tn:Int))=false:=by simp only[decide_eq_false_iff_not];omega
   have d3:(tn:Int)<(nt:Int):=by omega
   obtain⟨-,-,-,-,s4,-⟩:=Bk Q;obtain⟨b,aY,e4,aw,au⟩:=(h.below C).MW an;have S:=j.th tn (by omega);have hp:=S.ph;have aq:AV (Ai P) m (tn:Int)=if (m.th tn).ph=0 then 5 else if Du (m.th tn)=true then 6 else if BH m (BA (Ai P) tn (m.th tn))=true then 7 else 0:=by
    unfold AV;rw[Int.toNat_natCast]
    by_cases e:(m.th tn).ph=0
    ·rw[if_pos (.inr (.inr e)),if_pos e]
    ·rw[if_neg (by rintro(q|q|q);omega;(rw[f] at q;omega);exact e q),if_neg e]
   rw[aq]
   by_cases G:(m.th tn).ph=0
   ·rw[if_pos G];rw[G] at au;subst e4;clear h V j a T I C N Q Z z f u S hp aq G an aw
    go_enter Tryz.func70,Tryz.ntmps70
    go_upto_region 1 with fail
    try rw[X]
    go_wp2_with fail
    go_ret
    exact⟨rfl,HB.out⟩
   ·rw[if_neg G]
    by_cases e1:(m.th tn).ph=1
    ·have ho:Du (m.th tn)=false:=by unfold Du;rw[e1];rfl
     rw[ho,if_neg (by simp)];rw[e1] at au;have hN:=MJ (c0:=c0) (c1:=c1) (c2:=c2) (c3:=c3) (c4:=c4) (c5:=c5) (T.below C) I (h.below C) an (S.pc (by omega));have p:=OB ((Lm V (by omega:tn<(Ai P).length) (S.pc (by omega))).imp id And.left);rw[z] at p;obtain⟨x,aF⟩:∃x,BA (Ai P) tn (m.th tn)=x:=⟨_,rfl⟩;rw[aF] at hN p |-;obtain⟨res,i⟩:∃r:Int,(if BH m x=true then 7 else 0)=r:=⟨_,rfl⟩;rw[i];replace i:=Aa i;have HD:=Aa (⟨h.below C,j,p,z⟩:_/\_/\_/\_);have E:=Aa (⟨N,Q,Z⟩:_/\_/\_);have aK:=e4;subst e4;clear h V j a T I C N Q Z z f u S hp aq G an aw aF p ho e1 aK;obtain⟨t0,t1,t2,t3⟩:=Cl E.out.1;obtain⟨s0,s1,s2,s3,-,s5⟩:=Bk E.out.2.1
     go_enter Tryz.func70,Tryz.ntmps70
     go_upto_region 1 with fail
     try rw[X]
     go_wp2_with fail
     refine hN.mono ?_;rintro e w2 ⟨ln,wd,rfl,U⟩;unfold Do;clear hN s0 s1 s2 s3 s4 s5 t0 t1 t2 t3 q3 au;obtain⟨W5,c⟩:∃W5,w2.alloc (.cells (Do x ln wd) 177)=W5:=⟨_,rfl⟩;have ac:Xm w2.heap.size w2 W5:=by rw[<-c];exact(Below.refl _ _).alloc (Xd _) _
     have Y:W5.heap[w2.heap.size]?=some (.cells (Do x ln wd) 177):=by rw[<-c];exact World.alloc_heap_new w2 _
     have R:Xm W.heap.size W W5:=U.trans (ac.mono U.size);have O:=Aa (HB.out.trans (R.mono HB.out.size));have s6:=(R.block (w.heap.size+1) (by have:=E.out.2.2;omega)).trans E.out.2.1;obtain⟨-,-,s2,-,s4,-⟩:=Bk s6;obtain⟨H,j,p,z⟩:=HD.out;have M:=H.below R;unfold Do at Y c;obtain⟨i0,-,-,-,-,-,i6,-,-⟩:=Dv Y;obtain⟨n,D⟩:∃n:Nat,x.x=n:=⟨x.x.toNat,by have:=p.x0;omega⟩;have K:x.x.toNat=n:=by omega
     have f0:((bs x.op).toList == BN)=decide (x.op=BN):=by rw[AL];exact YJ.2 (by simp)
     have f1:((bs x.op).toList == BO)=decide (x.op=BO):=by rw[AL];exact YJ.2 (by simp)
     have f2:((bs x.op).toList == BI)=decide (x.op=BI):=by rw[AL];exact YJ.2 (by simp)
     have ap:True:=trivial;have f:m.thr.length=nt:=H.lt
     by_cases A:x.op=BN
     ·have k:n<m.locks.length:=by rw[H.ll];have:=p.lk (.inl A);omega
      obtain⟨lb,lo,J,-,F⟩:=Ki M.l k;subst J;have g:BH m x=decide (0<=m.locks.getD n 0):=by unfold BH;rw[if_pos A,K];have q:=j.lv _ (CN (d:=0) k);rw[decide_eq_decide];omega
      generalize m.locks.getD n 0=v at *;have aB:(n:Int)<(nl:Int):=by have:=H.ll;omega
      obtain⟨op,r,aR,aN,bR,bN,y⟩:=x;have D:y=n:=D;subst D;have A:op=BN:=A;subst A;dsimp only at *;clear p H M j z U ac R s6 Y HD E f0 f1 f2 K ap k f
      by_cases q:0<=v
      ·have B:decide (0<=v)=true:=by simpa using q
       have o:Hid ((7:Int)=res):=by show (7:Int)=res;rw[<-i.out,g,if_pos B]
       clear g i
       skip
       unfold BN bs at *
       go_upto_region 6 with fail
       try rw[c]
       clear c
       go_wp2_with fail
       go_ret
       exact⟨by rw[<-o.out];rfl,O.out⟩
      ·have B:decide (0<=v)=false:=by simpa using q
       have o:Hid ((0:Int)=res):=by show (0:Int)=res;rw[<-i.out,g,if_neg (by rw[B];simp)]
       clear g i
       skip
       unfold BN bs at *
       go_upto_region 6 with fail
       try rw[c]
       clear c
       go_wp2_with fail
       go_ret
       exact⟨by rw[<-o.out];rfl,O.out⟩
     ·by_cases a:x.op=BO
      ·have k:n<(CR m).length:=by rw[FI,f];have:=p.th (.inr a);omega
       obtain⟨lb,lo,J,-,F⟩:=Ki M.s k;simp only[Option.some.injEq,Addr.mk.injEq,and_true] at J;obtain⟨ax,ay⟩:=J;subst ax ay;have g:BH m x=decide ((CR m).getD n 0<2):=by unfold BH;rw[if_neg A,if_pos a,K];have q:=(j.th n (by rw[z];have q:=k;rw[FI,f] at q;exact q)).ph;rw[Jc m (by have q:=k;rw[FI] at q;exact q)];unfold Du;rw[YJ];simp only[Bool.not_eq_true',Bool.or_eq_false_iff,beq_eq_false_iff_ne,decide_eq_true_eq];omega
       generalize (CR m).getD n 0=v at *;have aB:(n:Int)<(nt:Int):=by have q:=k;rw[FI,f] at q;omega
       obtain⟨op,r,aR,aN,bR,bN,y⟩:=x;have D:y=n:=D;subst D;have a:op=BO:=a;subst a;dsimp only at *;clear A p H M j z U ac R s6 Y HD E f0 f1 f2 K ap k f
       by_cases q:v<2
       ·have B:decide (v<2)=true:=by simpa using q
        have o:Hid ((7:Int)=res):=by show (7:Int)=res;rw[<-i.out,g,if_pos B]
        clear g i
        skip
        unfold BO bs at *
        go_upto_region 6 with fail
        try rw[c]
        clear c
        go_wp2_with fail
        go_ret
        exact⟨by rw[<-o.out];rfl,O.out⟩
       ·have B:decide (v<2)=false:=by simpa using q
        have o:Hid ((0:Int)=res):=by show (0:Int)=res;rw[<-i.out,g,if_neg (by rw[B];simp)]
        clear g i
        skip
        unfold BO bs at *
        go_upto_region 6 with fail
        try rw[c]
        clear c
        go_wp2_with fail
        go_ret
        exact⟨by rw[<-o.out];rfl,O.out⟩
      ·by_cases u:x.op=BI
       ·have k:n<(CR m).length:=by rw[FI,f];have:=p.th (.inl u);omega
        obtain⟨lb,lo,J,-,F⟩:=Ki M.s k;simp only[Option.some.injEq,Addr.mk.injEq,and_true] at J;obtain⟨ax,ay⟩:=J;subst ax ay;have g:BH m x=decide ((CR m).getD n 0≠0):=by unfold BH;rw[if_neg A,if_neg a,if_pos u,K,Jc m (by have q:=k;rw[FI] at q;exact q)]
        generalize (CR m).getD n 0=v at *;have aB:(n:Int)<(nt:Int):=by have q:=k;rw[FI,f] at q;omega
        obtain⟨op,r,aR,aN,bR,bN,y⟩:=x;have D:y=n:=D;subst D;have u:op=BI:=u;subst u;dsimp only at *;clear A a p H M j z U ac R s6 Y HD E f0 f1 f2 K ap k f
        by_cases q:v≠0
        ·have B:decide (v≠0)=true:=by simpa using q
         have o:Hid ((7:Int)=res):=by show (7:Int)=res;rw[<-i.out,g,if_pos B]
         clear g i;have q2:(v != 0)=true:=by simpa using q
         unfold BI bs at *
         go_upto_region 6 with fail
         try rw[c]
         clear c
         go_wp2_with fail
         go_ret
         exact⟨by rw[<-o.out];rfl,O.out⟩
        ·have B:decide (v≠0)=false:=by simpa using q
         have o:Hid ((0:Int)=res):=by show (0:Int)=res;rw[<-i.out,g,if_neg (by rw[B];simp)]
         clear g i;have q2:(v != 0)=false:=by simpa using q
         unfold BI bs at *
         go_upto_region 6 with fail
         try rw[c]
         clear c
         go_wp2_with fail
         go_ret
         exact⟨by rw[<-o.out];rfl,O.out⟩
       ·have g:BH m x=false:=by unfold BH;rw[if_neg A,if_neg a,if_neg u]
        have o:Hid ((0:Int)=res):=by show (0:Int)=res;rw[<-i.out,g,if_neg (by simp)]
        rw[decide_eq_false A] at f0;rw[decide_eq_false a] at f1;rw[decide_eq_false u] at f2;unfold BN at f0;unfold BO at f1;unfold BI at f2;clear p H M j z U ac R s6 Y HD E g i K ap f A a u D
        go_upto_region 6 with fail
        try rw[c]
        clear c
        go_wp2_with fail
        go_ret
        exact⟨by rw[<-o.out];rfl,O.out⟩
    ·have ho:Du (m.th tn)=true:=by
      have:(m.th tn).ph=2\/(m.th tn).ph=3:=by omega
      unfold Du;rcases this with q|q<;>rw[q]<;>rfl
     rw[if_pos ho];obtain⟨ph,aH⟩:∃ph,(m.th tn).ph=ph:=⟨_,rfl⟩;rw[aH] at au G e1;have g0:(ph == 0)=false:=by simpa using G
     have g1:(ph != 1)=true:=by simpa using e1
     subst e4;clear h V j a T I C N Q Z z f u S hp aq G an aw ho e1 aH
     go_enter Tryz.func70,Tryz.ntmps70
     go_upto_region 1 with fail
     try rw[X]
     go_wp2_with fail
     go_ret
     exact⟨rfl,HB.out⟩
end
end Go.Proofs.YtdcacoifehkioaaGreatDoor
namespace Go.Proofs.YtdcacoifehkioaaGreatDoor
open Go.RowKit Go.Proofs.Cod
def Gi (m:MS) (t:Nat) (x:Ad):Bool:=if x.op=CG then decide (m.locks.getD x.x.toNat 0≠(t:Int)) else if x.op=Dh then decide (Af (m.th t) x.aR x.aN≠Af (m.th t) x.bR x.bN) else false
def Au (m:MS) (t:Nat) (x:Ad):MS×Ev×Nat:=
 let th:=m.th t
 let a:=Af th x.aR x.aN
 let b:=Af th x.bR x.bN
 let n:=x.x.toNat
 let reg:=λv=>m.Ae t {th with regs:=th.regs.set x.r.toNat v}
 if x.op=El then(reg a,⟨t,0,0,0⟩,th.pc+1)
 else if x.op=Eo then(reg ((a+b) % 1000),⟨t,0,0,0⟩,th.pc+1)
 else if x.op=Ek then(reg ((a - b+1000) % 1000),⟨t,0,0,0⟩,th.pc+1)
 else if x.op=Em then(reg (a*b % 1000),⟨t,0,0,0⟩,th.pc+1)
 else if x.op=Bq then(reg (m.vars.getD n 0),⟨t,1,x.x,m.vars.getD n 0⟩,th.pc+1)
 else if x.op=AH then({m with vars:=m.vars.set n a},⟨t,2,x.x,a⟩,th.pc+1)
 else if x.op=DY then(reg (m.flags.getD n 0),⟨t,3,x.x,m.flags.getD n 0⟩,th.pc+1)
 else if x.op=DX then({m with flags:=m.flags.set n a},⟨t,4,x.x,a⟩,th.pc+1)
 else if x.op=BN then({m with locks:=m.locks.set n t},⟨t,5,x.x,0⟩,th.pc+1)
 else if x.op=CG then({m with locks:=m.locks.set n (-1)},⟨t,6,x.x,0⟩,th.pc+1)
 else if x.op=BI then(m.Ae n {m.th n with ph:=1},⟨t,7,x.x,0⟩,th.pc+1)
 else if x.op=BO then(m,⟨t,8,x.x,0⟩,th.pc+1)
 else if x.op=En then(m.Ae t {th with ph:=2},⟨t,10,0,0⟩,th.pc)
 else(m,⟨t,0,0,0⟩,th.pc+1)
def Eq (m:MS) (t:Nat) (x:Ad):Bool:=decide (x.op=Dg\/(x.op=CV/\Af (m.th t) x.aR x.aN=Af (m.th t) x.bR x.bN)\/(x.op=CU/\Af (m.th t) x.aR x.aN<Af (m.th t) x.bR x.bN))
def BF (m:MS) (t:Nat) (x:Ad) (nx:Nat):Nat:=if Eq m t x=true then x.x.toNat else nx
def EF (m:MS) (t:Nat) (pc:Nat):MS:=m.Ae t {m.th t with pc:=pc}
def MY:List Tx:=[El,Eo,Ek,Em,Bq,AH,DY,DX,BN,CG,BI,BO,Dg,CV,CU,Dh,En]
section
variable {m:MS} {t:Nat} {x:Ad}
theorem Qb (m:MS) (t:Nat) (a b:TS):(m.Ae t a).Ae t b=m.Ae t b:=by unfold MS.Ae;rw[List.set_set]
theorem Ii (b:t<m.thr.length) (a:TS) (pc:Nat):EF (m.Ae t a) t pc=m.Ae t {a with pc:=pc}:=by
 unfold EF;rw[Qb,Fr m t t a b,if_pos rfl]
theorem Ve (b:t<m.thr.length) (i:x.op∈MY) (h:Gi m t x=false):Ba true m t x=(EF (Au m t x).1 t (BF m t x (Au m t x).2.2),(Au m t x).2.1):=by
 obtain⟨n,r,aR,aN,bR,bN,y⟩:=x;have l:∀(o:Tx),o≠Dg->o≠CV->o≠CU->Eq m t ⟨o,r,aR,aN,bR,bN,y⟩=false:=λo g f d=>by
  unfold Eq;simp[g,f,d]
 have a:∀(o:Tx) (k:Nat),o≠Dg->o≠CV->o≠CU->BF m t ⟨o,r,aR,aN,bR,bN,y⟩ k=k:=λo k g f d=>by
  unfold BF;rw[l o g f d,if_neg (by simp)]
 simp only[MY,XP,X6,or_false] at i
 rcases i with rfl|rfl|rfl|rfl|rfl|rfl|rfl|rfl|rfl|rfl|rfl|rfl|rfl|rfl|rfl|rfl|rfl
 ·rw[a _ _ (by decide) (by decide) (by decide)];show (m.Ae t _,_)=(EF (m.Ae t _) t _,_);rw[Ii b];rfl
 ·rw[a _ _ (by decide) (by decide) (by decide)];show (m.Ae t _,_)=(EF (m.Ae t _) t _,_);rw[Ii b];rfl
 ·rw[a _ _ (by decide) (by decide) (by decide)];show (m.Ae t _,_)=(EF (m.Ae t _) t _,_);rw[Ii b];rfl
 ·rw[a _ _ (by decide) (by decide) (by decide)];show (m.Ae t _,_)=(EF (m.Ae t _) t _,_);rw[Ii b];rfl
 ·rw[a _ _ (by decide) (by decide) (by decide)];show (m.Ae t _,_)=(EF (m.Ae t _) t _,_);rw[Ii b];rfl
 ·rw[a _ _ (by decide) (by decide) (by decide)];rfl
 ·rw[a _ _ (by decide) (by decide) (by decide)];show (m.Ae t _,_)=(EF (m.Ae t _) t _,_);rw[Ii b];rfl
 ·rw[a _ _ (by decide) (by decide) (by decide)];rfl
 ·rw[a _ _ (by decide) (by decide) (by decide)];rfl
 ·rw[a _ _ (by decide) (by decide) (by decide)];have c:m.locks.getD y.toNat 0=(t:Int):=by
   have q:decide (m.locks.getD y.toNat 0≠(t:Int))=false:=h
   simpa using q
  show (if m.locks.getD y.toNat 0≠(t:Int) then _ else _)=_;rw[if_neg (by rw[c];simp)];rfl
 ·rw[a _ _ (by decide) (by decide) (by decide)];show ((m.Ae t {m.th t with pc:=(m.th t).pc+1}).Ae y.toNat {(m.Ae t {m.th t with pc:=(m.th t).pc+1}).th y.toNat with ph:=1},_)=(EF (m.Ae y.toNat {m.th y.toNat with ph:=1}) t ((m.th t).pc+1),_)
  congr 1
  by_cases e:y.toNat=t
  ·rw[e,Ii b,Qb,Fr m t t _ b,if_pos rfl]
  ·unfold EF;rw[Fr m t y.toNat _ b,if_neg e];have j:(m.Ae y.toNat {m.th y.toNat with ph:=1}).th t=m.th t:=by
    unfold MS.th MS.Ae;rw[Xc,List.getElem?_set_ne e,Xc]
   rw[j];unfold MS.Ae;dsimp only;rw[List.set_comm _ _ (λq=>e q.symm)]
 ·rw[a _ _ (by decide) (by decide) (by decide)];rfl
 ·have q:Eq m t ⟨Dg,r,aR,aN,bR,bN,y⟩=true:=by unfold Eq;simp
  unfold BF;rw[q,if_pos rfl];rfl
 ·unfold BF
  by_cases e:Af (m.th t) aR aN=Af (m.th t) bR bN
  ·have q:Eq m t ⟨CV,r,aR,aN,bR,bN,y⟩=true:=by unfold Eq;simp[e]
   rw[q,if_pos rfl];show (m.Ae t {m.th t with pc:=if Af (m.th t) aR aN=Af (m.th t) bR bN then y.toNat else(m.th t).pc+1},_)=_;rw[if_pos e];rfl
  ·have q:Eq m t ⟨CV,r,aR,aN,bR,bN,y⟩=false:=by
    unfold Eq;simp only[decide_eq_false_iff_not]
    rintro(q|q|q)
    ·exact absurd q (by decide)
    ·exact e q.2
    ·exact absurd q.1 (by decide)
   rw[q,if_neg (by simp)];show (m.Ae t {m.th t with pc:=if Af (m.th t) aR aN=Af (m.th t) bR bN then y.toNat else(m.th t).pc+1},_)=_;rw[if_neg e];rfl
 ·unfold BF
  by_cases e:Af (m.th t) aR aN<Af (m.th t) bR bN
  ·have q:Eq m t ⟨CU,r,aR,aN,bR,bN,y⟩=true:=by unfold Eq;simp[e]
   rw[q,if_pos rfl];show (m.Ae t {m.th t with pc:=if Af (m.th t) aR aN<Af (m.th t) bR bN then y.toNat else(m.th t).pc+1},_)=_;rw[if_pos e];rfl
  ·have q:Eq m t ⟨CU,r,aR,aN,bR,bN,y⟩=false:=by
    unfold Eq;simp only[decide_eq_false_iff_not]
    rintro(q|q|q)
    ·exact absurd q (by decide)
    ·exact absurd q.1 (by decide)
    ·exact e q.2
   rw[q,if_neg (by simp)];show (m.Ae t {m.th t with pc:=if Af (m.th t) aR aN<Af (m.th t) bR bN then y.toNat else(m.th t).pc+1},_)=_;rw[if_neg e];rfl
 ·rw[a _ _ (by decide) (by decide) (by decide)];have c:Af (m.th t) aR aN=Af (m.th t) bR bN:=by
   have q:decide (Af (m.th t) aR aN≠Af (m.th t) bR bN)=false:=h
   simpa using q
  show (if Af (m.th t) aR aN≠Af (m.th t) bR bN then _ else _)=_;rw[if_neg (by rw[c];simp)];rfl
 ·rw[a _ _ (by decide) (by decide) (by decide)];show (m.Ae t _,_)=(EF (m.Ae t _) t _,_);rw[Ii b];rfl
theorem adC (a:Gi m t x=true):Ba true m t x=(m.Ae t {m.th t with ph:=3},⟨t,9,0,0⟩):=by
 obtain⟨c,r,aR,aN,bR,bN,y⟩:=x;unfold Gi at a;dsimp only at a
 by_cases d:c=CG
 ·subst d;rw[if_pos rfl] at a;show (if m.locks.getD y.toNat 0≠(t:Int) then _ else _)=_;rw[if_pos (by simpa using a)];rfl
 ·rw[if_neg d] at a
  by_cases b:c=Dh
  ·subst b;rw[if_pos rfl] at a;show (if Af (m.th t) aR aN≠Af (m.th t) bR bN then _ else _)=_;rw[if_pos (by simpa using a)];rfl
  ·rw[if_neg b] at a;cases a
end
end Go.Proofs.YtdcacoifehkioaaGreatDoor
