import Derived.Test.YtdcacoifehkioaaGreatDoorExH23
import Derived.Test.YtdcacoifehkioaaGreatDoorExH17
import Derived.Test.YtdcacoifehkioaaGreatDoorExH14
import Derived.Deep.Upon
import Derived.Test.YtdcacoifehkioaaGreatDoorExH3
import Derived.Test.YtdcacoifehkioaaGreatDoorExH12
import Derived.Deep.Cut
import Derived.Deep.DeepCutAuto
open List renaming getElem?_eq_some_iff->Xf,length_append->Xb,map_append->XI,getElem?_map->Xs,getElem?_eq_getElem->Xe,getD_eq_getElem?_getD->Xc,length_map->Xp,flatMap_cons->XL,mem_cons_of_mem->Yl,mem_cons_self->Yf,set_cons_zero->X7,set_cons_succ->X9,getElem?_set->Yz,length_set->Yc,replicate->Xr,length_replicate->Yy
open Go renaming World->Xh,Addr->YZ,Value->Xk,info_parts->YN,heap_setCell_other->Xt,Calls->XX,heap_setCell_same->Xj
open Go.RowKit renaming Below->Xm,wrap64->XO
open Go.Value renaming string->Yn,int->Yw,slice->Yq
open Array renaming getElem?_eq_some_iff->Xa,getD_eq_getD_getElem?->Zg,getElem?_eq_getElem->Y8
open Nat renaming zero_add->XE,zero_mul->aga,le_refl->Xd,mul_one->afF,le_trans->Xu
open Go.World renaming cell?->Xg,alloc_heap_new->Xi,size_setCell->XC
open Go.RowKit.Below renaming refl->Xq,heap_alloc->Xv
open Go.Act renaming put->XF
set_option maxRecDepth 100000
set_option maxHeartbeats 2000000
set_option linter.unusedVariables false
set_option linter.unusedSimpArgs false
namespace Go.Proofs.YtdcacoifehkioaaGreatDoor
open Go.RowKit Go.Shelf Go.Proofs.Cod
theorem KH {s:Tx}:∀(i:Nat) (l:List Tx),(∀j x,j<i->l[j]?=some x->x≠s/\AR s x=false)->Cd s l=l.take i++Cd s (l.drop i)
 |0,_,_=>rfl
 |i+1,[],_=>rfl
 |i+1,a::l,h=>by
  obtain⟨e,f⟩:=h 0 a (Nat.succ_pos i) rfl;have c:=KH i l λj x b d=>h (j+1) x (Nat.succ_lt_succ b) d;rw[List.take_succ_cons,List.drop_succ_cons,List.cons_append,<-c];show (if a=s then a::l else if AR s a=true then s::a::l else a::Cd s l)=_;rw[if_neg e,f]
  rfl
theorem UK {s:Tx} (l:List Tx):Cd s (s::l)=s::l:=by unfold Cd;rw[if_pos rfl]
theorem UL {s a:Tx} {l:List Tx} (b:a≠s) (c:AR s a=true):Cd s (a::l)=s::a::l:=by unfold Cd;rw[if_neg b,if_pos c]
theorem WK {l:List Tx} (h:FP l) {i j:Nat} {x y:Tx} (g:i<j) (d:l[i]?=some x) (b:l[j]?=some y):AR x y=true:=by
 obtain⟨e,c⟩:=Xf.1 d;obtain⟨f,a⟩:=Xf.1 b;rw[<-c,<-a];exact List.pairwise_iff_getElem.1 h i j e f g
def Ts (w:Xh) (a:Option YZ) (l:List Tx):Prop:=∀i,i<l.length->∃b off,a=some ⟨b,off,none⟩/\b<w.heap.size/\w.cell? ⟨b,off+i,none⟩=some (.string (bs (l.getD i [])))
theorem Ts.below {w w':Xh} {a:Option YZ} {l:List Tx} (h:Ts w a l) (c:Xm w.heap.size w w'):Ts w' a l:=λi f=>by
 obtain⟨b,d,g,e,j⟩:=h i f
 exact⟨b,d,g,by have:=c.size;omega,(c.cell (p:=⟨b,d+i,none⟩) e).trans j⟩
theorem JM {w:Xh} {base:Nat} {v:Xk} {l:List Tx} (h:w.ownsRow base 9 1 v l.length (l.map λx=>Yn (bs x))) (x:Tx) (i:l.length<1048576) (d:base<=w.heap.size) :
 ∃g cap w',(Builtin.append_ #[22,22] 22 #[v,.slice (some ⟨w.heap.size,0,none⟩) 1 1]).run Tryz.prog (w.alloc (.cells #[.string (bs x)] 9)) = .ok (.slice (some ⟨g,0,none⟩) (l.length+1) cap) w'/\
  w'.ownsRow base 9 1 (.slice (some ⟨g,0,none⟩) (l.length+1) cap) (l++[x]).length ((l++[x]).map λx=>Yn (bs x))/\(∀B,B<=base->Xm B w w'):=by
 obtain⟨s,m,q,c,n⟩:=YN Tryz.infoStrX;obtain⟨g,cap,w',f,j,b,o,p,z,rb,y⟩:=Ig h Tryz.underlying22 m q c n rfl (by omega) [.string (bs x)] rfl (by intro u a;simp at a;subst a;rfl) 22 i d;refine⟨g,cap,w',f,by rw[Xb,XI];exact j,λB r=>⟨b,o,p,by omega,λk t=>rb k (by omega) (λe=>?_)⟩⟩;have:=(h.lt k e).1
 omega
theorem KI {w:Xh} {base:Nat} {v:Xk} {l:List Tx} (h:w.ownsRow base 9 1 v l.length (l.map λx=>Yn (bs x))):∃a cap,v = .slice a l.length cap/\Ts w a l:=by
 obtain⟨a,cap,e⟩:=At h;refine⟨a,cap,e,λi c=>?_⟩
 rcases id h.2 with⟨b,k⟩|⟨g,j,f,b,m,d,-⟩
 ·omega
 ·rw[e] at b;injection b with b _ _
  refine⟨g,0,b,(Xa.1 d).1,?_⟩;subst b;rw[e] at h;rw[XE,h.cellAt i (by omega),Xs,Xe c,Xc,Xe c]
  rfl
end Go.Proofs.YtdcacoifehkioaaGreatDoor
namespace Go.Proofs.YtdcacoifehkioaaGreatDoor
open Go.RowKit Go.Proofs.Cod
def Ei (s:MS):List Int:=s.thr.map λth=>(th.pc:Int)
def CS (s:MS):List Int:=s.thr.map λth=>th.ph
def EO (s:MS):List Int:=s.thr.flatMap λth=>th.regs
def R4 (s:MS):Prop:=∀th,th∈s.thr->th.regs.length=4
theorem LV (s:MS):(Ei s).length=s.thr.length:=by unfold Ei;rw[Xp]
theorem FL (s:MS):(CS s).length=s.thr.length:=by unfold CS;rw[Xp]
theorem SZ:∀(l:List TS),(∀th,th∈l->th.regs.length=4)->(l.flatMap λth=>th.regs).length=l.length*4
 |[],_=>rfl
 |a::r,h=>by
  rw[XL,Xb,SZ r (λth q=>h th (Yl _ q)),h a Yf,List.length_cons]
  omega
theorem Ta:∀(l:List TS),(∀th,th∈l->th.regs.length=4)->∀t r,r<4->t<l.length->(l.flatMap λth=>th.regs).getD (t*4+r) 0=(l.getD t AC).regs.getD r 0
 |[],_,t,r,_,ht=>by cases ht
 |a::l,h,t,r,hr,ht=>by
  have b:=h a Yf;rw[XL,Xc]
  cases t with
  |zero=>
   rw[List.getElem?_append_left (by omega),aga,XE,<-Xc];rfl
  |succ t=>
   rw[List.getElem?_append_right (by omega),b,<-Xc];have e:(t+1)*4+r - 4=t*4+r:=by omega
   rw[e,Ta l (λth q=>h th (Yl _ q)) t r hr (by simp at ht;omega)]
   rfl
theorem SY:∀(l:List TS),(∀th,th∈l->th.regs.length=4)->∀t r v (y:TS),r<4->t<l.length->y.regs=(l.getD t AC).regs.set r v->((l.set t y).flatMap λth=>th.regs)=(l.flatMap λth=>th.regs).set (t*4+r) v
 |[],_,t,r,v,y,_,ht,_=>by cases ht
 |a::l,h,t,r,v,y,hr,ht,hy=>by
  have b:=h a Yf
  cases t with
  |zero=>
   rw[X7,XL,XL,aga,XE,List.set_append_left _ _ (by omega),hy];rfl
  |succ t=>
   have e:(t+1)*4+r - a.regs.length=t*4+r:=by omega
   rw[X9,XL,XL,List.set_append_right _ _ (by omega),e,SY l (λth q=>h th (Yl _ q)) t r v y hr (by simp at ht;omega) hy]
theorem SW:∀(l:List TS) (t:Nat) (y:TS),t<l.length->y.regs=(l.getD t AC).regs->((l.set t y).flatMap λth=>th.regs)=l.flatMap λth=>th.regs
 |[],t,y,ht,_=>by cases ht
 |a::l,t,y,ht,hy=>by
  cases t with
  |zero=>
   rw[X7,XL,XL,hy];rfl
  |succ t=>rw[X9,XL,XL,SW l t y (by simp at ht;omega) hy]
section
variable {s:MS}
theorem Oq (s:MS) {t:Nat} (h:t<s.thr.length):(Ei s).getD t 0=((s.th t).pc:Int):=by
 unfold Ei MS.th;rw[Xc,Xs,Xc,Xe h];rfl
theorem Jf (s:MS) {t:Nat} (h:t<s.thr.length):(CS s).getD t 0=(s.th t).ph:=by
 unfold CS MS.th;rw[Xc,Xs,Xc,Xe h];rfl
theorem MO (h:R4 s):(EO s).length=s.thr.length*4:=SZ _ h
theorem Qv (h:R4 s) {t r:Nat} (b:r<4) (a:t<s.thr.length):(EO s).getD (t*4+r) 0=(s.th t).regs.getD r 0:=Ta _ h t r b a
theorem afi {nv nf nl:Nat} {C:List (List Ad)} (h:AZ nv nf nl C s):R4 s:=λth c=>by
 obtain⟨t,a,e⟩:=List.getElem_of_mem c;have q:=(h.th t (by rw[<-h.tl];exact a)).rl;have b:s.th t=th:=by unfold MS.th;rw[Xc,Xe a,e];rfl
 rw[b] at q;exact q
theorem TU (s:MS) (t:Nat) (y:TS):Ei (s.Ae t y)=(Ei s).set t (y.pc:Int):=by unfold Ei MS.Ae;rw[List.map_set]
theorem PE (s:MS) (t:Nat) (y:TS):CS (s.Ae t y)=(CS s).set t y.ph:=by unfold CS MS.Ae;rw[List.map_set]
theorem Qu {t:Nat} (a:t<s.thr.length) {y:TS} (b:y.regs=(s.th t).regs):EO (s.Ae t y)=EO s:=SW _ t y a b
theorem WL (h:R4 s) {t r:Nat} {v:Int} {y:TS} (b:r<4) (a:t<s.thr.length) (c:y.regs=(s.th t).regs.set r v):EO (s.Ae t y)=(EO s).set (t*4+r) v:=SY _ h t r v y b a c
theorem SB {l:List Int} {k:Nat} {v:Int} (a:k<l.length) (h:l.getD k 0=v):l.set k v=l:=by
 apply List.ext_getElem?
 intro i;rw[Yz]
 split
 ·rename_i e;subst e;rw[<-h,Xc,Xe a];rfl
 ·rfl
theorem PF {t:Nat} (a:t<s.thr.length) {y:TS} (b:y.ph=(s.th t).ph):CS (s.Ae t y)=CS s:=by
 rw[PE];exact SB (by rw[FL];exact a) (by rw[Jf s a,b])
end
end Go.Proofs.YtdcacoifehkioaaGreatDoor
namespace Go.Proofs.YtdcacoifehkioaaGreatDoor
open Go.RowKit Go.Shelf Go.Proofs.Cod
section
variable {w w':Xh} {base lo hi:Nat} {a:Option YZ} {l:List Int}
theorem acu {v:Xk} (h:w.ownsRow base 3 1 v l.length (l.map Cq)) {r:List Int} (o:Is w a r) (cap:Nat) (J:l.length+r.length<=2097152) (A:base<=w.heap.size) :
 ∃d w',(Builtin.append_ #[32,32] 32 #[v,.slice a r.length cap]).run Tryz.prog w = .ok d w'/\
  w'.ownsRow base 3 1 d (l++r).length ((l++r).map Cq)/\w.grownBy w' v.ownBlock:=by
 obtain⟨e,hi,H,p,t⟩:=YN Tryz.infoInt
 by_cases n:r=[]
 ·subst n;have k:Src Tryz.prog e.size 32 (.slice a 0 cap) 0 [] w:=by
   cases a with
   |none=>exact Src.ofNil w Tryz.underlying32 cap
   |some a=>exact Src.ofSlice w Tryz.underlying32 a 0 cap [] (by simp) (λj u h=>by simp at h) (λ_ h=>by cases h)
  refine⟨v,w,?_,by simpa using h,World.grownBy.refl _ _⟩
  rcases h.2 with⟨rfl,N⟩|⟨g,y,K,rfl,_,_,B,_,_,_⟩
  ·exact run_append_nothing w 32 32 32 3 e Tryz.underlying32 hi none 0 0 (Xd _) _ k
  ·exact run_append_nothing w 32 32 32 3 e Tryz.underlying32 hi (some ⟨g,0,none⟩) _ y B _ k
 ·have C:0<r.length:=List.length_pos_iff.2 n;obtain⟨b,i,rfl,-,-⟩:=o 0 C;obtain⟨d,w',z,G,s,_⟩:=JS (P:=Tryz.prog) w base 32 32 3 e (.int .i64 0) 1 8 Tryz.underlying32 hi H p t rfl v l.length (l.map Cq) h ⟨b,i,none⟩ r.length cap (r.map Cq) (by omega) (by rw[Xp,afF])
   (λj u c=>by
     rw[Xs] at c
     cases q:r[j]? with
     |none=>rw[q] at c;cases c
     |some x=>
      rw[q] at c;have c:some (Cq x)=some u:=c
      cases c
      obtain⟨I,M,f,-,m⟩:=o j (Xf.1 q).1;simp only[Option.some.injEq,Addr.mk.injEq,and_true] at f;obtain⟨f,D⟩:=f;subst f D;have E:r.getD j 0=x:=by rw[Xc,q];rfl
      rw[E] at m;have F:(⟨b,i,none⟩:YZ).add j=⟨b,i+j,none⟩:=by simp[Addr.add]
      rw[F];exact m)
   (λu c=>by obtain⟨x,-,rfl⟩:=List.mem_map.1 c;rfl) (by unfold maxLen;omega) (by omega) A
  exact⟨d,w',z,by rw[Xb,XI];exact G,s⟩
def Bf (w:Xh) (lo hi:Nat) (a:Option YZ) (l:List Int):Prop:=l=[]\/∃b N f,a=some ⟨b,0,none⟩/\lo<=b/\b<hi/\An w b 3 N f/\l.length<=N/\∀i,i<l.length->f i = .int .i64 (l.getD i 0)
theorem Bf.is (h:Bf w lo hi a l):Is w a l:=λi hi=>by
 rcases h with rfl|⟨b,N,f,e,j,k,c,g,d⟩
 ·cases hi
 ·exact⟨b,0,e,c.lt,by rw[XE,c.cell (by omega),d i hi]⟩
theorem Bf.keep (h:Bf w lo hi a l) (k:∀b,lo<=b->b<hi->w'.heap[b]?=w.heap[b]?):Bf w' lo hi a l:=by
 rcases h with rfl|⟨b,N,f,i,c,d,g,j,e⟩
 ·exact .inl rfl
 ·exact .inr ⟨b,N,f,i,c,d,g.same (k b c d),j,e⟩
theorem Bf.below (h:Bf w lo hi a l) (d:hi<=w.heap.size) (c:Xm w.heap.size w w'):Bf w' lo hi a l:=h.keep λb _ e=>c.block b (by omega)
theorem Bf.mono (h:Bf w lo hi a l) {d c:Nat} (j:d<=lo) (g:hi<=c):Bf w d c a l:=by
 rcases h with rfl|⟨b,N,f,e,k,i,r⟩
 ·exact .inl rfl
 ·exact .inr ⟨b,N,f,e,by omega,by omega,r⟩
theorem Bf.set (h:Bf w lo hi a l) {i:Nat} (c:i<l.length):∃b,a=some ⟨b,0,none⟩/\lo<=b/\b<hi/\w.cell? ⟨b,i,none⟩=some (.int .i64 (l.getD i 0))/\w.frozen? ⟨b,i,none⟩=false/\∀v,Bf (w.setCell ⟨b,i,none⟩ (.int .i64 v)) lo hi (some ⟨b,0,none⟩) (l.set i v):=by
 rcases h with rfl|⟨b,N,f,o,m,n,d,p,g⟩
 ·cases c
 ·refine⟨b,o,m,n,by rw[d.cell (by omega),g i c],d.frozen i,λv=>.inr ⟨b,N,_,rfl,m,n,d.set i _,by rw[Yc];exact p,λk j=>?_⟩⟩;rw[Yc] at j;rw[Xc,Yz]
  by_cases e:k=i
  ·subst e;rw[if_pos rfl,if_pos rfl,if_pos c];rfl
  ·rw[if_neg e,if_neg (λq=>e q.symm),g k j,Xc]
theorem Bf.other (h:Bf w lo hi a l) {p:YZ} (c:p.block<lo\/hi<=p.block) (v:Xk):Bf (w.setCell p v) lo hi a l:=h.keep λb d e=>Xt w p b v (by omega)
theorem Bf.of {v:Xk} (h:w.ownsRow base 3 1 v l.length (l.map Cq)):∃a cap,v = .slice a l.length cap/\Bf w base w.heap.size a l:=by
 rcases h.2 with⟨rfl,d⟩|⟨g,cap,b,rfl,j,d,o,m,n,i⟩
 ·have e:l=[]:=List.eq_nil_of_length_eq_zero d;subst e
  exact⟨none,0,rfl,.inl rfl⟩
 ·refine⟨_,_,rfl,.inr ⟨g,b.size,λk=>b.getD k undef,rfl,j,(Xa.1 d).1,⟨b,d,rfl,λk c=>?_⟩,by omega,λk c=>?_⟩⟩
  ·show b[k]?=some (b.getD k undef);rw[Zg,Y8 c];rfl
  ·have f:k<b.size:=by omega
   have q:(b.toList.take (l.length*1))[k]?=(l.map Cq)[k]?:=by rw[i]
   rw[afF,List.getElem?_take,if_pos c,Array.getElem?_toList,Xs,Xe c,Y8 f] at q;have q:some b[k]=some (Cq l[k]):=q;injection q with q
   show b.getD k undef=_;rw[Zg,Y8 f,Xc,Xe c];exact q
end
section
variable {w w':Xh} {b:Nat}
theorem SP {w u:Xh} {B:Nat} (a:B<=w.heap.size) (g:w.grownBy u none):Xm B w u:=⟨g.os,g.tape,g.output,g.size,λk b=>g.block k (by omega) (by simp)⟩
theorem Jw {a:Option YZ} {l:List Int} {n cap:Nat} (j:l.length=n) (h:Is w a l) (m:n<=1048576) :
 XX Tryz.prog 174 #[.slice a n cap] w λe w'=>∃b d,e = .returned (.slice b n d)/\Bf w' w.heap.size w'.heap.size b l/\Xm w.heap.size w w':=by
 subst j;obtain⟨o,w',k,f,g⟩:=acu (w:=w) (base:=w.heap.size) (l:=[]) (v:=.slice none 0 0) (World.ownsRow_nil _ _ _ _) h cap (by simp;omega) (Xd _);rw[List.nil_append] at f;obtain⟨b,d,rfl,c⟩:=Bf.of f;have i:=Aa (SP (Xd _) g);replace c:=Aa c;clear h f g
 go_enter Tryz.func174,Tryz.ntmps174
 go_wp2_with (at_builtin;refine Dm rfl _ _ _ rfl rfl rfl rfl k ?_)
 go_ret
 exact⟨b,d,rfl,c.out,i.out⟩
theorem Ja {n:Nat} (w:Xh) (p:n<=1048576) :
 XX Tryz.prog 128 #[.int .i64 n] w λe w'=>∃b d,e = .returned (.slice b n d)/\Bf w' w.heap.size w'.heap.size b (Xr n 0)/\Xm w.heap.size w w':=by
 obtain⟨o,f,j,g,h⟩:=YN Tryz.infoInt;obtain⟨w',q,c,l⟩:=run_make_full (P:=Tryz.prog) w w.heap.size 32 3 o (.int .i64 0) 1 Tryz.underlying32 f j g .i64 .i64 n (by rw[h];omega) (by unfold maxLen;omega) (Xd _);have m:=Aa (SP (Xd _) l);have e:(madeCells (Yw .i64 0).cells (n*1)).toList=(Xr n (0:Int)).map Cq:=by
  show (madeCells #[Yw .i64 0] (n*1)).toList=_;rw[afF,toList_madeCells_one,List.map_replicate];rfl
 rw[e] at c;have i:w'.ownsRow w.heap.size 3 1 (.slice (some ⟨w.heap.size,0,none⟩) n n) (Xr n (0:Int)).length ((Xr n (0:Int)).map Cq):=by rw[Yy];exact c
 obtain⟨b,d,k,a⟩:=Bf.of i;rw[Yy] at k;injection k with hv1 _ hv2
 subst hv1;replace a:=Aa a;clear c i l f j g h e hv2
 go_enter Tryz.func128,Tryz.ntmps128
 go_wp2_with fail
 go_ret
 exact⟨_,⟨_,rfl⟩,a.out,m.out⟩
theorem Tryz.sizeSt:(Tryz.prog.info? 92).map (·.size)=some 6:=by kernel_rfl
theorem My {w:Xh} {fn:Func} {tmps:Array Xk} {b k:Nat} {e d g f c v5:Xk} (h:fn.results = #[.cell k 92]) (i:tmps[k]?=some (.pointer (some ⟨b,0,none⟩))) (a:w.heap[b]?=some (.cells #[e,d,g,f,c,v5] 92)):(results fn tmps).run Tryz.prog w = .ok (.agg #[e,d,g,f,c,v5]) w:=by
 have c0:w.cell? ⟨b,0,none⟩=some e:=by simp[Xg,a]
 have c1:w.cell? ⟨b,1,none⟩=some d:=by simp[Xg,a]
 have c2:w.cell? ⟨b,2,none⟩=some g:=by simp[Xg,a]
 have c3:w.cell? ⟨b,3,none⟩=some f:=by simp[Xg,a]
 have c4:w.cell? ⟨b,4,none⟩=some c:=by simp[Xg,a]
 have c5:w.cell? ⟨b,5,none⟩=some v5:=by simp[Xg,a]
 simp[results,h,i,go_sem,c0,c1,c2,c3,c4,c5]
theorem Br {W:Xh} {g T:Nat} {c b e d a v5:Xk} (h:W.heap[g]?=some (.cells #[c,b,e,d,a,v5] T)):W.cell? ⟨g,0,none⟩=some c/\W.cell? ⟨g,1,none⟩=some b/\W.cell? ⟨g,2,none⟩=some e/\W.cell? ⟨g,3,none⟩=some d/\W.cell? ⟨g,4,none⟩=some a/\W.cell? ⟨g,5,none⟩=some v5:=
 ⟨by simp[Xg,h],by simp[Xg,h],by simp[Xg,h],by simp[Xg,h],by simp[Xg,h],by simp[Xg,h]⟩
theorem Ap {W:Xh} {g T:Nat} {cs:Array Xk} (h:W.heap[g]?=some (.cells cs T)) (k:Nat):W.frozen? ⟨g,k,none⟩=false:=by simp[World.frozen?,h]
theorem Lk {g j h d k a5:Option YZ} {n0 n1 n2 n3 n4 n5 c m1 i f e b:Nat}:∀v∈(#[Yq g n0 c,.slice j n1 m1,.slice h n2 i,.slice d n3 f,.slice k n4 e,.slice a5 n5 b]:Array Xk).toList,v.oneCell'=true:=by
 intro v a;simp only[List.mem_cons,List.not_mem_nil,or_false] at a
 rcases a with rfl|rfl|rfl|rfl|rfl|rfl<;>rfl
theorem JP {v:Xh} {b:Nat} {T:TypeId} {c0 c1 c2 c3 c4 c5:Xk} (a c d e f a5:Xk) (h:v.heap[b]?=some (.cells #[c0,c1,c2,c3,c4,c5] T)) :
 ((((((v.setCell ⟨b,0,none⟩ a).setCell ⟨b,1,none⟩ c).setCell ⟨b,2,none⟩ d).setCell ⟨b,3,none⟩ e).setCell ⟨b,4,none⟩ f).setCell ⟨b,5,none⟩ a5).heap[b]?=some (.cells #[a,c,d,e,f,a5] T):=by
 have m:=(Xj _ b 0 _ _ a h).trans (show _=some (.cells #[a,c1,c2,c3,c4,c5] T) from rfl);have l:=(Xj _ b 1 _ _ c m).trans (show _=some (.cells #[a,c,c2,c3,c4,c5] T) from rfl);have g:=(Xj _ b 2 _ _ d l).trans (show _=some (.cells #[a,c,d,c3,c4,c5] T) from rfl);have k:=(Xj _ b 3 _ _ e g).trans (show _=some (.cells #[a,c,d,e,c4,c5] T) from rfl);have i:=(Xj _ b 4 _ _ f k).trans (show _=some (.cells #[a,c,d,e,f,c5] T) from rfl);have j:=(Xj _ b 5 _ _ a5 i).trans (show _=some (.cells #[a,c,d,e,f,a5] T) from rfl);exact j
structure By (w:Xh) (lo:Nat) (b0 b1 b2 b3 b4 b5:Option YZ) (l0 l1 l2 l3 l4 l5:List Int) (p1 p2 p3 p4 p5 p6:Nat):Prop where
 r0:Bf w lo p1 b0 l0
 r1:Bf w p1 p2 b1 l1
 r2:Bf w p2 p3 b2 l2
 r3:Bf w p3 p4 b3 l3
 r4:Bf w p4 p5 b4 l4
 r5:Bf w p5 p6 b5 l5
 le:lo<=p1/\p1<=p2/\p2<=p3/\p3<=p4/\p4<=p5/\p5<=p6/\p6<=w.heap.size
theorem Wt {B:Option YZ} {l0:List Int} {n0 c0:Nat} (aL:l0.length=n0) (h0:Is w B l0) (aT:n0<=1048576) {A:Option YZ} {l1:List Int} {n1 c1:Nat} (aD:l1.length=n1) (H:Is w A l1) (aS:n1<=1048576) {y:Option YZ} {l2:List Int} {n2 c2:Nat} (aZ:l2.length=n2) (J:Is w y l2) (a6:n2<=1048576) {G:Option YZ} {l3:List Int} {n3 c3:Nat} (aW:l3.length=n3) (h3:Is w G l3) (aX:n3<=1048576) {E:Option YZ} {l4:List Int} {n4 c4:Nat} (bc:l4.length=n4) (h4:Is w E l4) (ba:n4<=1048576) {a5:Option YZ} {Z:List Int} {n5 c5:Nat} (aI:Z.length=n5) (h5:Is w a5 Z) (a4:n5<=1048576) :
 XX Tryz.prog 131 #[.agg #[.slice B n0 c0,.slice A n1 c1,.slice y n2 c2,.slice G n3 c3,.slice E n4 c4,.slice a5 n5 c5]] w λe w'=>∃C v F x z D R P M Q N V p1 p2 p3 p4 p5 p6,e = .returned (.agg #[.slice C n0 R,.slice v n1 P,.slice F n2 M,.slice x n3 Q,.slice z n4 N,.slice D n5 V])/\By w' w.heap.size C v F x z D l0 l1 l2 l3 l4 Z p1 p2 p3 p4 p5 p6/\Xm w.heap.size w w':=by
 obtain⟨a,I⟩:∃a,(w.alloc (.cells #[.slice B n0 c0,.slice A n1 c1,.slice y n2 c2,.slice G n3 c3,.slice E n4 c4,.slice a5 n5 c5] 92)).alloc (.cells #[.slice none 0 0,.slice none 0 0,.slice none 0 0,.slice none 0 0,.slice none 0 0,.slice none 0 0] 92)=a:=⟨_,rfl⟩;have ap:(w.alloc (.cells #[.slice B n0 c0,.slice A n1 c1,.slice y n2 c2,.slice G n3 c3,.slice E n4 c4,.slice a5 n5 c5] 92)).heap.size=w.heap.size+1:=by show (w.heap.push _).size=_;simp
 have ak:a.heap.size=w.heap.size+1+1:=by rw[<-I];show ((w.heap.push _).push _).size=_;simp
 have i:Xm w.heap.size w a:=by rw[<-I];exact((Xq _ _).alloc (Xd _) _).alloc (by rw[ap];omega) _
 have aG:a.heap[w.heap.size]?=some (.cells #[.slice B n0 c0,.slice A n1 c1,.slice y n2 c2,.slice G n3 c3,.slice E n4 c4,.slice a5 n5 c5] 92):=by
  rw[<-I,Xv _ _ _ (by rw[ap];omega)];exact Xi w _
 have U:a.heap[w.heap.size+1]?=some (.cells #[.slice none 0 0,.slice none 0 0,.slice none 0 0,.slice none 0 0,.slice none 0 0,.slice none 0 0] 92):=by
  have q:=Xi (w.alloc (.cells #[.slice B n0 c0,.slice A n1 c1,.slice y n2 c2,.slice G n3 c3,.slice E n4 c4,.slice a5 n5 c5] 92)) (.cells #[.slice none 0 0,.slice none 0 0,.slice none 0 0,.slice none 0 0,.slice none 0 0,.slice none 0 0] 92);rw[ap,I] at q;exact q
 have n:∀u,Xm a.heap.size a u->u.cell? ⟨w.heap.size,0,none⟩=some (.slice B n0 c0)/\u.cell? ⟨w.heap.size,1,none⟩=some (.slice A n1 c1)/\u.cell? ⟨w.heap.size,2,none⟩=some (.slice y n2 c2)/\u.cell? ⟨w.heap.size,3,none⟩=some (.slice G n3 c3)/\u.cell? ⟨w.heap.size,4,none⟩=some (.slice E n4 c4)/\u.cell? ⟨w.heap.size,5,none⟩=some (.slice a5 n5 c5):=λu m=>by
  have q:=(m.block w.heap.size (by omega)).trans aG
  exact⟨by simp[Xg,q],by simp[Xg,q],by simp[Xg,q],by simp[Xg,q],by simp[Xg,q],by simp[Xg,q]⟩
 have aJ:=Aa (fun(u:Xh) (m:Xm a.heap.size a u)=>Jw (cap:=c0) aL ((h0.below i).below m) aT);have aP:=Aa (fun(u:Xh) (m:Xm a.heap.size a u)=>Jw (cap:=c1) aD ((H.below i).below m) aS);have be:=Aa (fun(u:Xh) (m:Xm a.heap.size a u)=>Jw (cap:=c2) aZ ((J.below i).below m) a6);have aH:=Aa (fun(u:Xh) (m:Xm a.heap.size a u)=>Jw (cap:=c3) aW ((h3.below i).below m) aX);have a0:=Aa (fun(u:Xh) (m:Xm a.heap.size a u)=>Jw (cap:=c4) bc ((h4.below i).below m) ba);have aE:=Aa (fun(u:Xh) (m:Xm a.heap.size a u)=>Jw (cap:=c5) aI ((h5.below i).below m) a4);have HP:=Aa (⟨i,ak,U⟩:_/\_/\_);replace n:=Aa n;obtain⟨e0,e1,e2,e3,e4,e5⟩:=n.out a.drew (⟨rfl,rfl,rfl,Xd _,λ_ _=>rfl⟩);clear aL h0 aT aD H aS aZ J a6 aW h3 aX bc h4 ba aI h5 a4 ap ak i aG U
 go_enter Tryz.func131,Tryz.ntmps131
 go_wp2_with fail
 try rw[I]
 replace I:=Aa I;have hd:Xm a.heap.size a a.drew:=⟨rfl,rfl,rfl,Xd _,λ_ _=>rfl⟩;refine wp_region_held_drew (S:=(λw'=>w'.cell? ⟨w.heap.size,0,none⟩=some (.slice B n0 c0)/\w'.cell? ⟨w.heap.size,1,none⟩=some (.slice A n1 c1)/\w'.cell? ⟨w.heap.size,2,none⟩=some (.slice y n2 c2)/\w'.cell? ⟨w.heap.size,3,none⟩=some (.slice G n3 c3)/\w'.cell? ⟨w.heap.size,4,none⟩=some (.slice E n4 c4)/\w'.cell? ⟨w.heap.size,5,none⟩=some (.slice a5 n5 c5))) (by kernel_rfl) ⟨e0,e1,e2,e3,e4,e5⟩ (λf=>?_);clear e0 e1 e2 e3 e4 e5;refine tk 0 f ?_;refine tk 1 f ?_;refine tk 3 f ?_;refine tk 4 f ?_;refine tk 6 f ?_;refine tk 7 f ?_;refine tk 9 f ?_;refine tk 10 f ?_;refine tk 12 f ?_;refine tk 13 f ?_;refine tk 15 f ?_;refine tk 16 f ?_;refine rd 2 (λK d=>?_)
 go_simp
 go_at_call 174
 refine(aJ.out _ hd).mono ?_;rintro e v0 ⟨C,R,rfl,ac,r⟩;replace ac:=Aa (⟨ac,r⟩:_/\_);replace r:Xm a.heap.size a v0:=hd.trans (r.mono hd.size);have c:=n.out v0 r;replace r:=Aa r;replace c:=Aa c
 go_wp2_with fail
 refine d.out _ _ c.out (λf=>?_);clear d K c
 try simp only[XF,sq]
 refine rd 5 (λK d=>?_)
 go_simp
 go_at_call 174
 refine(aP.out _ r.out).mono ?_;rintro e v1 ⟨v,P,rfl,ar,s⟩;replace ar:=Aa (⟨ar,s⟩:_/\_);replace s:Xm a.heap.size a v1:=r.out.trans (s.mono r.out.size);have c:=n.out v1 s;replace s:=Aa s;replace c:=Aa c
 go_wp2_with fail
 refine d.out _ _ c.out (λf=>?_);clear d K c
 try simp only[XF,sq]
 refine rd 8 (λK d=>?_)
 go_simp
 go_at_call 174
 refine(be.out _ s.out).mono ?_;rintro e v2 ⟨F,M,rfl,Y,t⟩;replace Y:=Aa (⟨Y,t⟩:_/\_);replace t:Xm a.heap.size a v2:=s.out.trans (t.mono s.out.size);have c:=n.out v2 t;replace t:=Aa t;replace c:=Aa c
 go_wp2_with fail
 refine d.out _ _ c.out (λf=>?_);clear d K c
 try simp only[XF,sq]
 refine rd 11 (λK d=>?_)
 go_simp
 go_at_call 174
 refine(aH.out _ t.out).mono ?_;rintro e v3 ⟨x,Q,rfl,aa,p⟩;replace aa:=Aa (⟨aa,p⟩:_/\_);replace p:Xm a.heap.size a v3:=t.out.trans (p.mono t.out.size);have c:=n.out v3 p;replace p:=Aa p;replace c:=Aa c
 go_wp2_with fail
 refine d.out _ _ c.out (λf=>?_);clear d K c
 try simp only[XF,sq]
 refine rd 14 (λK d=>?_)
 go_simp
 go_at_call 174
 refine(a0.out _ p.out).mono ?_;rintro e v4 ⟨z,N,rfl,an,o⟩;replace an:=Aa (⟨an,o⟩:_/\_);replace o:Xm a.heap.size a v4:=p.out.trans (o.mono p.out.size);have c:=n.out v4 o;replace o:=Aa o;replace c:=Aa c
 go_wp2_with fail
 refine d.out _ _ c.out (λf=>?_);clear d K c
 try simp only[XF,sq]
 refine rd 17 (λK d=>?_)
 go_simp
 go_at_call 174
 refine(aE.out _ o.out).mono ?_;rintro e v5 ⟨D,V,rfl,X,h⟩;replace X:=Aa (⟨X,h⟩:_/\_);replace h:Xm a.heap.size a v5:=o.out.trans (h.mono o.out.size);have c:=n.out v5 h;replace h:=Aa h;replace c:=Aa c
 go_wp2_with fail
 refine d.out _ _ c.out (λf=>?_);clear d K c
 try simp only[XF,sq]
 refine rd 18 (λK d=>?_);refine JG _ _ rfl [(0,.slice C n0 R),(1,.slice v n1 P),(2,.slice F n2 M),(3,.slice x n3 Q),(4,.slice z n4 N),(5,.slice D n5 V)] rfl #[.slice C n0 R,.slice v n1 P,.slice F n2 M,.slice x n3 Q,.slice z n4 N,.slice D n5 V] (by rfl) ?_;refine d.out _ _ (n.out v5 h.out) (λf=>?_);clear d K
 try simp only[XF,sq]
 refine rd 19 (λK d=>?_);have i:=HP.out.1;have ak:=HP.out.2.1;have U:=(h.out.block (w.heap.size+1) (by omega)).trans HP.out.2.2;obtain⟨r0,r1,r2,r3,r4,r5⟩:=Br U;have aY:=h.out.size;refine Fq _ _ _ rfl (w.heap.size+1) 0 #[.slice C n0 R,.slice v n1 P,.slice F n2 M,.slice x n3 Q,.slice z n4 N,.slice D n5 V] rfl rfl (λj hj=>by
  match j,hj with
  |0,_=>rw[XE,r0];rfl
  |1,_=>rw[XE,r1];rfl
  |2,_=>rw[XE,r2];rfl
  |3,_=>rw[XE,r3];rfl
  |4,_=>rw[XE,r4];rfl
  |5,_=>rw[XE,r5];rfl) (λj _=>Ap U _) Tryz.sizeSt Lk ?_
 obtain⟨g,W⟩:∃g,v5.setCells (w.heap.size+1) 0 (#[Yq C n0 R,.slice v n1 P,.slice F n2 M,.slice x n3 Q,.slice z n4 N,.slice D n5 V]:Array Xk).toList=g:=⟨_,rfl⟩;rw[W];have l:Ac (λk=>k=w.heap.size+1) v5 g:=by rw[<-W];exact Fa (S:=λk=>k=w.heap.size+1) _ 0 (Ac.refl v5) (.inl rfl)
 have a9:g.heap[w.heap.size+1]?=some (.cells #[.slice C n0 R,.slice v n1 P,.slice F n2 M,.slice x n3 Q,.slice z n4 N,.slice D n5 V] 92):=by rw[<-W];exact JP _ _ _ _ _ _ U
 have O:g.heap[w.heap.size]?=v5.heap[w.heap.size]?:=l.block w.heap.size (by omega) (by omega);have c:g.cell? ⟨w.heap.size,0,none⟩=some (.slice B n0 c0)/\g.cell? ⟨w.heap.size,1,none⟩=some (.slice A n1 c1)/\g.cell? ⟨w.heap.size,2,none⟩=some (.slice y n2 c2)/\g.cell? ⟨w.heap.size,3,none⟩=some (.slice G n3 c3)/\g.cell? ⟨w.heap.size,4,none⟩=some (.slice E n4 c4)/\g.cell? ⟨w.heap.size,5,none⟩=some (.slice a5 n5 c5):=by
  obtain⟨e0,e1,e2,e3,e4,e5⟩:=n.out v5 h.out
  exact⟨(by rw[<-e0];unfold Xg;dsimp only;rw[O]),(by rw[<-e1];unfold Xg;dsimp only;rw[O]),(by rw[<-e2];unfold Xg;dsimp only;rw[O]),(by rw[<-e3];unfold Xg;dsimp only;rw[O]),(by rw[<-e4];unfold Xg;dsimp only;rw[O]),(by rw[<-e5];unfold Xg;dsimp only;rw[O])⟩
 refine d.out _ _ c (λf=>?_);clear d K
 try simp only[XF,sq]
 refine wpAnyH_done (by kernel_rfl) ?_ _;have aM:Xm w.heap.size w g:=⟨l.os.trans (h.out.os.trans i.os),l.tape.trans (h.out.tape.trans i.tape),l.output.trans (h.out.output.trans i.output),Xu i.size (Xu aY l.size),λk hk=>(l.block k (by omega) (by omega)).trans ((h.out.block k (by omega)).trans (i.block k hk))⟩;obtain⟨y0,x0⟩:=ac.out;obtain⟨y1,x1⟩:=ar.out;obtain⟨y2,x2⟩:=Y.out;obtain⟨y3,x3⟩:=aa.out;obtain⟨y4,x4⟩:=an.out;obtain⟨y5,T⟩:=X.out;have z0:a.heap.size<=v0.heap.size:=x0.size;have z1:=x1.size;have z2:=x2.size;have z3:=x3.size;have z4:=x4.size;have z5:=T.size;have zz:=l.size;have bi:a.drew.heap.size=a.heap.size:=rfl;have t0:=((((((y0.below (Xd _) x1).below (by omega) x2).below (by omega) x3).below (by omega) x4).below (by omega) T).keep (w':=g) λb H J=>l.block b (by omega) (by omega));have t1:=(((((y1.below (Xd _) x2).below (by omega) x3).below (by omega) x4).below (by omega) T).keep (w':=g) λb H J=>l.block b (by omega) (by omega));have t2:=((((y2.below (Xd _) x3).below (by omega) x4).below (by omega) T).keep (w':=g) λb H J=>l.block b (by omega) (by omega));have t3:=(((y3.below (Xd _) x4).below (by omega) T).keep (w':=g) λb H J=>l.block b (by omega) (by omega));have t4:=((y4.below (Xd _) T).keep (w':=g) λb H J=>l.block b (by omega) (by omega));have t5:=(y5.keep (w':=g) λb H J=>l.block b (by omega) (by omega));have hR:By g w.heap.size C v F x z D l0 l1 l2 l3 l4 Z v0.heap.size v1.heap.size v2.heap.size v3.heap.size v4.heap.size v5.heap.size:=
  ⟨t0.mono (by omega) (Xd _),t1,t2,t3,t4,t5,⟨by omega,by omega,by omega,by omega,by omega,by omega,by omega⟩⟩
 have HF:=Aa (⟨hR,aM,a9⟩:_/\_/\_);clear f c O a9 l W U ak i hR aM t0 y0 x0 z0 ac r aJ t1 y1 x1 z1 ar s aP t2 y2 x2 z2 Y t be t3 y3 x3 z3 aa p aH t4 y4 x4 z4 an o a0 t5 y5 T z5 X h aE zz bi hd aY HP n I
 go_wp2_with fail
 exact bodyPost_ret (My rfl rfl HF.out.2.2) rfl ⟨_,_,_,_,_,_,_,_,_,_,_,_,_,_,_,_,_,_,rfl,HF.out.1,HF.out.2.1⟩
end
section
variable {w w':Xh} {lo p1 p2 p3 p4 p5 p6:Nat} {b0 b1 b2 b3 b4 b5:Option YZ} {l0 l1 l2 l3 l4 l5:List Int}
theorem By.keep (h:By w lo b0 b1 b2 b3 b4 b5 l0 l1 l2 l3 l4 l5 p1 p2 p3 p4 p5 p6) (a:∀b,lo<=b->b<p6->w'.heap[b]?=w.heap[b]?) (s:w.heap.size<=w'.heap.size):By w' lo b0 b1 b2 b3 b4 b5 l0 l1 l2 l3 l4 l5 p1 p2 p3 p4 p5 p6:=by
 obtain⟨k,i,f,o,m,e,p,g,q,j,n,l,r⟩:=h
 exact⟨k.keep λb c d=>a b (by omega) (by omega),i.keep λb c d=>a b (by omega) (by omega),f.keep λb c d=>a b (by omega) (by omega),o.keep λb c d=>a b (by omega) (by omega),m.keep λb c d=>a b (by omega) (by omega),e.keep λb c d=>a b (by omega) (by omega),⟨p,g,q,j,n,l,by omega⟩⟩
theorem By.other (h:By w lo b0 b1 b2 b3 b4 b5 l0 l1 l2 l3 l4 l5 p1 p2 p3 p4 p5 p6) {p:YZ} (a:p.block<lo\/p6<=p.block) (v:Xk):By (w.setCell p v) lo b0 b1 b2 b3 b4 b5 l0 l1 l2 l3 l4 l5 p1 p2 p3 p4 p5 p6:=
 h.keep (λb c d=>Xt w p b v (by omega)) (by rw[XC];exact Xd _)
theorem By.Wm (h:By w lo b0 b1 b2 b3 b4 b5 l0 l1 l2 l3 l4 l5 p1 p2 p3 p4 p5 p6) {i:Nat} (m:i<l0.length):∃g,b0=some ⟨g,0,none⟩/\lo<=g/\g<p6/\w.cell? ⟨g,i,none⟩=some (.int .i64 (l0.getD i 0))/\w.frozen? ⟨g,i,none⟩=false/\∀v,By (w.setCell ⟨g,i,none⟩ (.int .i64 v)) lo b0 b1 b2 b3 b4 b5 (l0.set i v) l1 l2 l3 l4 l5 p1 p2 p3 p4 p5 p6:=by
 obtain⟨c,k,a,q,l,s,r,n,f,o,p,e,t⟩:=h;obtain⟨g,rfl,x,u,j,b,d⟩:=c.set m
 exact⟨g,rfl,by omega,by omega,j,b,λv=>⟨d v,k.other (.inl (by show g<p1;omega)) _,a.other (.inl (by show g<p2;omega)) _,q.other (.inl (by show g<p3;omega)) _,l.other (.inl (by show g<p4;omega)) _,s.other (.inl (by show g<p5;omega)) _,⟨r,n,f,o,p,e,by rw[XC];exact t⟩⟩⟩
theorem By.Wl (h:By w lo b0 b1 b2 b3 b4 b5 l0 l1 l2 l3 l4 l5 p1 p2 p3 p4 p5 p6) {i:Nat} (m:i<l1.length):∃g,b1=some ⟨g,0,none⟩/\lo<=g/\g<p6/\w.cell? ⟨g,i,none⟩=some (.int .i64 (l1.getD i 0))/\w.frozen? ⟨g,i,none⟩=false/\∀v,By (w.setCell ⟨g,i,none⟩ (.int .i64 v)) lo b0 b1 b2 b3 b4 b5 l0 (l1.set i v) l2 l3 l4 l5 p1 p2 p3 p4 p5 p6:=by
 obtain⟨c,k,a,q,l,s,r,n,f,o,p,e,t⟩:=h;obtain⟨g,rfl,x,u,j,b,d⟩:=k.set m
 exact⟨g,rfl,by omega,by omega,j,b,λv=>⟨c.other (.inr (by show p1<=g;omega)) _,d v,a.other (.inl (by show g<p2;omega)) _,q.other (.inl (by show g<p3;omega)) _,l.other (.inl (by show g<p4;omega)) _,s.other (.inl (by show g<p5;omega)) _,⟨r,n,f,o,p,e,by rw[XC];exact t⟩⟩⟩
theorem By.Qk (h:By w lo b0 b1 b2 b3 b4 b5 l0 l1 l2 l3 l4 l5 p1 p2 p3 p4 p5 p6) {i:Nat} (m:i<l2.length):∃g,b2=some ⟨g,0,none⟩/\lo<=g/\g<p6/\w.cell? ⟨g,i,none⟩=some (.int .i64 (l2.getD i 0))/\w.frozen? ⟨g,i,none⟩=false/\∀v,By (w.setCell ⟨g,i,none⟩ (.int .i64 v)) lo b0 b1 b2 b3 b4 b5 l0 l1 (l2.set i v) l3 l4 l5 p1 p2 p3 p4 p5 p6:=by
 obtain⟨c,k,a,q,l,s,r,n,f,o,p,e,t⟩:=h;obtain⟨g,rfl,x,u,j,b,d⟩:=a.set m
 exact⟨g,rfl,by omega,by omega,j,b,λv=>⟨c.other (.inr (by show p1<=g;omega)) _,k.other (.inr (by show p2<=g;omega)) _,d v,q.other (.inl (by show g<p3;omega)) _,l.other (.inl (by show g<p4;omega)) _,s.other (.inl (by show g<p5;omega)) _,⟨r,n,f,o,p,e,by rw[XC];exact t⟩⟩⟩
theorem By.Wk (h:By w lo b0 b1 b2 b3 b4 b5 l0 l1 l2 l3 l4 l5 p1 p2 p3 p4 p5 p6) {i:Nat} (m:i<l3.length):∃g,b3=some ⟨g,0,none⟩/\lo<=g/\g<p6/\w.cell? ⟨g,i,none⟩=some (.int .i64 (l3.getD i 0))/\w.frozen? ⟨g,i,none⟩=false/\∀v,By (w.setCell ⟨g,i,none⟩ (.int .i64 v)) lo b0 b1 b2 b3 b4 b5 l0 l1 l2 (l3.set i v) l4 l5 p1 p2 p3 p4 p5 p6:=by
 obtain⟨c,k,a,q,l,s,r,n,f,o,p,e,t⟩:=h;obtain⟨g,rfl,x,u,j,b,d⟩:=q.set m
 exact⟨g,rfl,by omega,by omega,j,b,λv=>⟨c.other (.inr (by show p1<=g;omega)) _,k.other (.inr (by show p2<=g;omega)) _,a.other (.inr (by show p3<=g;omega)) _,d v,l.other (.inl (by show g<p4;omega)) _,s.other (.inl (by show g<p5;omega)) _,⟨r,n,f,o,p,e,by rw[XC];exact t⟩⟩⟩
theorem By.Qj (h:By w lo b0 b1 b2 b3 b4 b5 l0 l1 l2 l3 l4 l5 p1 p2 p3 p4 p5 p6) {i:Nat} (m:i<l4.length):∃g,b4=some ⟨g,0,none⟩/\lo<=g/\g<p6/\w.cell? ⟨g,i,none⟩=some (.int .i64 (l4.getD i 0))/\w.frozen? ⟨g,i,none⟩=false/\∀v,By (w.setCell ⟨g,i,none⟩ (.int .i64 v)) lo b0 b1 b2 b3 b4 b5 l0 l1 l2 l3 (l4.set i v) l5 p1 p2 p3 p4 p5 p6:=by
 obtain⟨c,k,a,q,l,s,r,n,f,o,p,e,t⟩:=h;obtain⟨g,rfl,x,u,j,b,d⟩:=l.set m
 exact⟨g,rfl,by omega,by omega,j,b,λv=>⟨c.other (.inr (by show p1<=g;omega)) _,k.other (.inr (by show p2<=g;omega)) _,a.other (.inr (by show p3<=g;omega)) _,q.other (.inr (by show p4<=g;omega)) _,d v,s.other (.inl (by show g<p5;omega)) _,⟨r,n,f,o,p,e,by rw[XC];exact t⟩⟩⟩
theorem By.Wi (h:By w lo b0 b1 b2 b3 b4 b5 l0 l1 l2 l3 l4 l5 p1 p2 p3 p4 p5 p6) {i:Nat} (m:i<l5.length):∃g,b5=some ⟨g,0,none⟩/\lo<=g/\g<p6/\w.cell? ⟨g,i,none⟩=some (.int .i64 (l5.getD i 0))/\w.frozen? ⟨g,i,none⟩=false/\∀v,By (w.setCell ⟨g,i,none⟩ (.int .i64 v)) lo b0 b1 b2 b3 b4 b5 l0 l1 l2 l3 l4 (l5.set i v) p1 p2 p3 p4 p5 p6:=by
 obtain⟨c,k,a,q,l,s,r,n,f,o,p,e,t⟩:=h;obtain⟨g,rfl,x,u,j,b,d⟩:=s.set m
 exact⟨g,rfl,by omega,by omega,j,b,λv=>⟨c.other (.inr (by show p1<=g;omega)) _,k.other (.inr (by show p2<=g;omega)) _,a.other (.inr (by show p3<=g;omega)) _,q.other (.inr (by show p4<=g;omega)) _,l.other (.inr (by show p5<=g;omega)) _,d v,⟨r,n,f,o,p,e,by rw[XC];exact t⟩⟩⟩
theorem GK {v:Xh} {b:Nat} {T:TypeId} {c0 c1 c2 c3:Xk} (a c d e:Xk) (h:v.heap[b]?=some (.cells #[c0,c1,c2,c3] T)) :
 ((((v.setCell ⟨b,0,none⟩ a).setCell ⟨b,1,none⟩ c).setCell ⟨b,2,none⟩ d).setCell ⟨b,3,none⟩ e).heap[b]?=some (.cells #[a,c,d,e] T):=by
 have j:=(Xj _ b 0 _ _ a h).trans (show _=some (.cells #[a,c1,c2,c3] T) from rfl);have i:=(Xj _ b 1 _ _ c j).trans (show _=some (.cells #[a,c,c2,c3] T) from rfl);have f:=(Xj _ b 2 _ _ d i).trans (show _=some (.cells #[a,c,d,c3] T) from rfl);have g:=(Xj _ b 3 _ _ e f).trans (show _=some (.cells #[a,c,d,e] T) from rfl);exact g
theorem Hn {S:Nat->Prop} {u v:Xh} {b:Nat} (d f e c:Xk) (h:Ac S u v) (a:S b\/u.heap.size<=b) :
 Ac S u ((((v.setCell ⟨b,0,none⟩ d).setCell ⟨b,1,none⟩ f).setCell ⟨b,2,none⟩ e).setCell ⟨b,3,none⟩ c):=(((h.set a _).set a _).set a _).set a _
theorem Sn {S:Nat->Prop} {u v:Xh} {b:Nat} (d f e c g a5:Xk) (h:Ac S u v) (a:S b\/u.heap.size<=b) :
 Ac S u ((((((v.setCell ⟨b,0,none⟩ d).setCell ⟨b,1,none⟩ f).setCell ⟨b,2,none⟩ e).setCell ⟨b,3,none⟩ c).setCell ⟨b,4,none⟩ g).setCell ⟨b,5,none⟩ a5):=(((((h.set a _).set a _).set a _).set a _).set a _).set a _
end
structure Cl (w:Xh) (a0 a1 a2 a3 a4 a5:Option YZ) (nv nf nl nt nr:Nat) (m:MS):Prop where
 v:Is w a0 m.vars
 f:Is w a1 m.flags
 l:Is w a2 m.locks
 p:Is w a3 (Ei m)
 s:Is w a4 (CS m)
 r:Is w a5 (EO m)
 lv:m.vars.length=nv
 lf:m.flags.length=nf
 ll:m.locks.length=nl
 lt:m.thr.length=nt
 lr:nt*4=nr
 r4:R4 m
section
variable {w w':Xh} {a0 a1 a2 a3 a4 a5:Option YZ} {nv nf nl nt nr:Nat} {m:MS}
theorem Cl.below (h:Cl w a0 a1 a2 a3 a4 a5 nv nf nl nt nr m) (a:Xm w.heap.size w w'):Cl w' a0 a1 a2 a3 a4 a5 nv nf nl nt nr m:=
 ⟨h.v.below a,h.f.below a,h.l.below a,h.p.below a,h.s.below a,h.r.below a,h.lv,h.lf,h.ll,h.lt,h.lr,h.r4⟩
theorem Cl.Rc (h:Cl w a0 a1 a2 a3 a4 a5 nv nf nl nt nr m) {t:Nat} (e:t<nt):∃b a,a3=some ⟨b,a,none⟩/\b<w.heap.size/\w.cell? ⟨b,a+t,none⟩=some (.int .i64 ((m.th t).pc:Int)):=by
 have c:t<m.thr.length:=by rw[h.lt];exact e
 obtain⟨b,a,f,d,g⟩:=h.p t (by rw[LV];exact c)
 exact⟨b,a,f,d,by rw[g,Oq m c]⟩
theorem Cl.MZ (h:Cl w a0 a1 a2 a3 a4 a5 nv nf nl nt nr m) {t:Nat} (e:t<nt):∃b a,a4=some ⟨b,a,none⟩/\b<w.heap.size/\w.cell? ⟨b,a+t,none⟩=some (.int .i64 (m.th t).ph):=by
 have c:t<m.thr.length:=by rw[h.lt];exact e
 obtain⟨b,a,f,d,g⟩:=h.s t (by rw[FL];exact c)
 exact⟨b,a,f,d,by rw[g,Jf m c]⟩
theorem Cl.KV (h:Cl w a0 a1 a2 a3 a4 a5 nv nf nl nt nr m) {t r:Nat} (f:t<nt) (c:r<4):∃b a,a5=some ⟨b,a,none⟩/\b<w.heap.size/\w.cell? ⟨b,a+(t*4+r),none⟩=some (.int .i64 ((m.th t).regs.getD r 0)):=by
 have e:t<m.thr.length:=by rw[h.lt];exact f
 obtain⟨b,a,g,d,i⟩:=h.r (t*4+r) (by rw[MO h.r4];omega)
 exact⟨b,a,g,d,by rw[i,Qv h.r4 c e]⟩
theorem BK {W:Xh} {g T:Nat} {b a d c:Xk} (h:W.heap[g]?=some (.cells #[b,a,d,c] T)):W.cell? ⟨g,0,none⟩=some b/\W.cell? ⟨g,1,none⟩=some a/\W.cell? ⟨g,2,none⟩=some d/\W.cell? ⟨g,3,none⟩=some c:=
 ⟨by simp[Xg,h],by simp[Xg,h],by simp[Xg,h],by simp[Xg,h]⟩
theorem DA {W:Xh} {g T:Nat} {e d j f b v5 c a i:Xk} (h:W.heap[g]?=some (.cells #[e,d,j,f,b,v5,c,a,i] T)):W.cell? ⟨g,0,none⟩=some e/\W.cell? ⟨g,1,none⟩=some d/\W.cell? ⟨g,2,none⟩=some j/\W.cell? ⟨g,3,none⟩=some f/\W.cell? ⟨g,4,none⟩=some b/\W.cell? ⟨g,5,none⟩=some v5/\W.cell? ⟨g,6,none⟩=some c/\W.cell? ⟨g,7,none⟩=some a/\W.cell? ⟨g,8,none⟩=some i:=
 ⟨by simp[Xg,h],by simp[Xg,h],by simp[Xg,h],by simp[Xg,h],by simp[Xg,h],by simp[Xg,h],by simp[Xg,h],by simp[Xg,h],by simp[Xg,h]⟩
theorem FK (w:Xh) (x y:Obj) {W:Xh} (a:(w.alloc x).alloc y=W):Xm w.heap.size w W/\W.heap[w.heap.size]?=some x/\W.heap[w.heap.size+1]?=some y/\W.heap.size=w.heap.size+1+1:=by
 have b:(w.alloc x).heap.size=w.heap.size+1:=by show (w.heap.push _).size=_;simp
 refine⟨by rw[<-a];exact((Xq _ _).alloc (Xd _) _).alloc (by rw[b];omega) _,?_,?_,?_⟩
 ·rw[<-a,Xv _ _ _ (by rw[b];omega)];exact Xi w _
 ·have q:=Xi (w.alloc x) y;rw[b,a] at q;exact q
 ·rw[<-a];show ((w.heap.push _).push _).size=_;simp
theorem Pe (w:Xh) (x y z:Obj) {W:Xh} (a:((w.alloc x).alloc y).alloc z=W):Xm w.heap.size w W/\W.heap[w.heap.size]?=some x/\W.heap[w.heap.size+1]?=some y/\W.heap[w.heap.size+1+1]?=some z/\W.heap.size=w.heap.size+1+1+1:=by
 obtain⟨V,c⟩:∃V,(w.alloc x).alloc y=V:=⟨_,rfl⟩;obtain⟨f,g,e,d⟩:=FK w x y c;rw[c] at a;have b:Xm V.heap.size V W:=by rw[<-a];exact(Xq _ _).alloc (Xd _) _
 refine⟨f.trans (b.mono (by omega)),(b.block _ (by omega)).trans g,(b.block _ (by omega)).trans e,?_,?_⟩
 ·have q:=Xi V z;rw[d,a] at q;exact q
 ·rw[<-a];show (V.heap.push _).size=_;simp[d]
theorem Ct {n:Nat} (h:n<2000000):XO ((n:Int))=(n:Int):=by unfold XO;omega
theorem KP {c0 c1 c2 c3 c4 c5:Nat} (h:Cl w a0 a1 a2 a3 a4 a5 nv nf nl nt nr m) (G:nt<=4) {t:Nat} (l:t<nt) {r:Bool} {n:Int} (f:Fk r n) :
 XX Tryz.prog 132 #[.agg #[.slice a0 nv c0,.slice a1 nf c1,.slice a2 nl c2,.slice a3 nt c3,.slice a4 nt c4,.slice a5 nr c5],.int .i64 t,.agg #[.bool r,.int .i64 n]] w λe w'=>e = .returned (.int .i64 (Af (m.th t) r n))/\Xm w.heap.size w w':=by
 obtain⟨W,j⟩:∃W,(w.alloc (.cells #[.slice a0 nv c0,.slice a1 nf c1,.slice a2 nl c2,.slice a3 nt c3,.slice a4 nt c4,.slice a5 nr c5] 92)).alloc (.cells #[.bool r,.int .i64 n] 175)=W:=⟨_,rfl⟩;obtain⟨d,o,c,v⟩:=FK _ _ _ j;have u:=Aa d
 cases r with
 |false=>
  have z:W.cell? ⟨w.heap.size+1,0,none⟩=some (.bool false):=by simp[Xg,c]
  have A:W.cell? ⟨w.heap.size+1,1,none⟩=some (.int .i64 n):=by simp[Xg,c]
  clear o c v d h l f
  go_enter Tryz.func132,Tryz.ntmps132
  go_upto_region 1 with fail
  try rw[j]
  go_wp2_with fail
  go_ret
  exact⟨rfl,u.out⟩
 |true=>
  have z:W.cell? ⟨w.heap.size+1,0,none⟩=some (.bool true):=by simp[Xg,c]
  obtain⟨a,rfl⟩:∃a:Nat,n=a:=⟨n.toNat,by have:=f.1;omega⟩;have A:W.cell? ⟨w.heap.size+1,1,none⟩=some (.int .i64 a):=by simp[Xg,c]
  obtain⟨-,-,-,-,-,C⟩:=Br o;have x:a<4:=by have:=f.2.2 rfl;omega
  obtain⟨b,E,rfl,-,y⟩:=(h.below d).KV l x;obtain⟨k,p⟩:∃k,t*4+a=k:=⟨_,rfl⟩;obtain⟨i,g⟩:∃q,t*4=q:=⟨_,rfl⟩;rw[p] at y;have D:(k:Int)<(nr:Int):=by have:=h.lr;omega
  have B:XO ((t:Int)*4)=(i:Int):=by rw[<-g];have:=Ct (n:=t*4) (by omega);push_cast at this |-;exact this
  have F:XO ((i:Int)+(a:Int))=(k:Int):=by rw[<-p,g];have:=Ct (n:=i+a) (by omega);push_cast at this |-;exact this
  have s:Af (m.th t) true (a:Int)=(m.th t).regs.getD a 0:=by unfold Af;rw[if_pos rfl,Int.toNat_natCast]
  rw[s];clear o c v d h l f p g x s
  go_enter Tryz.func132,Tryz.ntmps132
  go_upto_region 1 with fail
  try rw[j]
  go_wp2_with fail
  go_ret
  exact⟨rfl,u.out⟩
end
abbrev Bh (w:Xh) (lo:Nat) (b0 b1 b2 b3 b4 b5:Option YZ) (m:MS) (p1 p2 p3 p4 p5 p6:Nat):Prop:=By w lo b0 b1 b2 b3 b4 b5 m.vars m.flags m.locks (Ei m) (CS m) (EO m) p1 p2 p3 p4 p5 p6
section
variable {w w':Xh} {lo p1 p2 p3 p4 p5 p6:Nat} {b0 b1 b2 b3 b4 b5:Option YZ} {m:MS}
theorem TW {t:Nat} (a:t<m.thr.length) {y:TS} (b:y.pc=(m.th t).pc):Ei (m.Ae t y)=Ei m:=by
 rw[TU];exact SB (by rw[LV];exact a) (by rw[Oq m a,b])
theorem Bh.Jg (h:Bh w lo b0 b1 b2 b3 b4 b5 m p1 p2 p3 p4 p5 p6) {t r:Nat} (a:t<m.thr.length) (c:r<4) (b:R4 m):∃g,b5=some ⟨g,0,none⟩/\lo<=g/\g<p6/\w.cell? ⟨g,t*4+r,none⟩=some (.int .i64 ((m.th t).regs.getD r 0))/\w.frozen? ⟨g,t*4+r,none⟩=false/\∀v,Bh (w.setCell ⟨g,t*4+r,none⟩ (.int .i64 v)) lo b0 b1 b2 b3 b4 b5 (m.Ae t {m.th t with regs:=(m.th t).regs.set r v}) p1 p2 p3 p4 p5 p6:=by
 obtain⟨g,o,l,d,f,j,k⟩:=By.Wi h (i:=t*4+r) (by rw[MO b];omega);refine⟨g,o,l,d,by rw[f,Qv b c a],j,λv=>?_⟩;have q:=k v;rw[<-WL b (y:={m.th t with regs:=(m.th t).regs.set r v}) c a rfl] at q;unfold Bh;have n:Ei (m.Ae t {m.th t with regs:=(m.th t).regs.set r v})=Ei m:=TW a rfl;have e:CS (m.Ae t {m.th t with regs:=(m.th t).regs.set r v})=CS m:=PF a rfl;rw[n,e];exact q
theorem Bh.var (h:Bh w lo b0 b1 b2 b3 b4 b5 m p1 p2 p3 p4 p5 p6) {i:Nat} (a:i<m.vars.length):∃g,b0=some ⟨g,0,none⟩/\lo<=g/\g<p6/\w.cell? ⟨g,i,none⟩=some (.int .i64 (m.vars.getD i 0))/\w.frozen? ⟨g,i,none⟩=false/\∀v,Bh (w.setCell ⟨g,i,none⟩ (.int .i64 v)) lo b0 b1 b2 b3 b4 b5 {m with vars:=m.vars.set i v} p1 p2 p3 p4 p5 p6:=By.Wm h a
theorem Bh.flag (h:Bh w lo b0 b1 b2 b3 b4 b5 m p1 p2 p3 p4 p5 p6) {i:Nat} (a:i<m.flags.length):∃g,b1=some ⟨g,0,none⟩/\lo<=g/\g<p6/\w.cell? ⟨g,i,none⟩=some (.int .i64 (m.flags.getD i 0))/\w.frozen? ⟨g,i,none⟩=false/\∀v,Bh (w.setCell ⟨g,i,none⟩ (.int .i64 v)) lo b0 b1 b2 b3 b4 b5 {m with flags:=m.flags.set i v} p1 p2 p3 p4 p5 p6:=By.Wl h a
theorem Bh.lock (h:Bh w lo b0 b1 b2 b3 b4 b5 m p1 p2 p3 p4 p5 p6) {i:Nat} (a:i<m.locks.length):∃g,b2=some ⟨g,0,none⟩/\lo<=g/\g<p6/\w.cell? ⟨g,i,none⟩=some (.int .i64 (m.locks.getD i 0))/\w.frozen? ⟨g,i,none⟩=false/\∀v,Bh (w.setCell ⟨g,i,none⟩ (.int .i64 v)) lo b0 b1 b2 b3 b4 b5 {m with locks:=m.locks.set i v} p1 p2 p3 p4 p5 p6:=By.Qk h a
theorem Bh.pc (h:Bh w lo b0 b1 b2 b3 b4 b5 m p1 p2 p3 p4 p5 p6) {i:Nat} (a:i<m.thr.length):∃g,b3=some ⟨g,0,none⟩/\lo<=g/\g<p6/\w.cell? ⟨g,i,none⟩=some (.int .i64 ((m.th i).pc:Int))/\w.frozen? ⟨g,i,none⟩=false/\∀v:Nat,Bh (w.setCell ⟨g,i,none⟩ (.int .i64 (v:Int))) lo b0 b1 b2 b3 b4 b5 (m.Ae i {m.th i with pc:=v}) p1 p2 p3 p4 p5 p6:=by
 obtain⟨g,l,j,b,d,e,f⟩:=By.Wk h (i:=i) (by rw[LV];exact a);refine⟨g,l,j,b,by rw[d,Oq m a],e,λv=>?_⟩;have q:=f v;unfold Bh;have k:CS (m.Ae i {m.th i with pc:=v})=CS m:=PF a rfl;have c:EO (m.Ae i {m.th i with pc:=v})=EO m:=Qu a rfl;rw[TU,k,c];exact q
theorem Bh.stat (h:Bh w lo b0 b1 b2 b3 b4 b5 m p1 p2 p3 p4 p5 p6) {i:Nat} (a:i<m.thr.length):∃g,b4=some ⟨g,0,none⟩/\lo<=g/\g<p6/\w.cell? ⟨g,i,none⟩=some (.int .i64 (m.th i).ph)/\w.frozen? ⟨g,i,none⟩=false/\∀v,Bh (w.setCell ⟨g,i,none⟩ (.int .i64 v)) lo b0 b1 b2 b3 b4 b5 (m.Ae i {m.th i with ph:=v}) p1 p2 p3 p4 p5 p6:=by
 obtain⟨g,l,j,b,d,e,f⟩:=By.Qj h (i:=i) (by rw[FL];exact a);refine⟨g,l,j,b,by rw[d,Jf m a],e,λv=>?_⟩;have q:=f v;unfold Bh;have k:Ei (m.Ae i {m.th i with ph:=v})=Ei m:=TW a rfl;have c:EO (m.Ae i {m.th i with ph:=v})=EO m:=Qu a rfl;rw[PE,k,c];exact q
theorem Bh.doc (h:Bh w lo b0 b1 b2 b3 b4 b5 m p1 p2 p3 p4 p5 p6) {nv nf nl nt nr:Nat} (c:m.vars.length=nv) (e:m.flags.length=nf) (b:m.locks.length=nl) (lt:m.thr.length=nt) (a:nt*4=nr) (d:R4 m):Cl w b0 b1 b2 b3 b4 b5 nv nf nl nt nr m:=
 ⟨h.r0.is,h.r1.is,h.r2.is,h.r3.is,h.r4.is,h.r5.is,c,e,b,lt,a,d⟩
theorem adp (w:Xh) (x y z u:Obj) {W:Xh} (b:(((w.alloc x).alloc y).alloc z).alloc u=W):Xm w.heap.size w W/\W.heap[w.heap.size]?=some x/\W.heap[w.heap.size+1]?=some y/\W.heap[w.heap.size+1+1]?=some z/\W.heap[w.heap.size+1+1+1]?=some u/\W.heap.size=w.heap.size+1+1+1+1:=by
 obtain⟨V,c⟩:∃V,((w.alloc x).alloc y).alloc z=V:=⟨_,rfl⟩;obtain⟨g,h,f,e,d⟩:=Pe w x y z c;rw[c] at b;have a:Xm V.heap.size V W:=by rw[<-b];exact(Xq _ _).alloc (Xd _) _
 refine⟨g.trans (a.mono (by omega)),(a.block _ (by omega)).trans h,(a.block _ (by omega)).trans f,(a.block _ (by omega)).trans e,?_,?_⟩
 ·have q:=Xi V u;rw[d,b] at q;exact q
 ·rw[<-b];show (V.heap.push _).size=_;simp[d]
end
end Go.Proofs.YtdcacoifehkioaaGreatDoor
