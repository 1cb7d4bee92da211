import Derived.Test.YtdcacoifehkioaaGreatDoorExA23
import Derived.Test.YtdcacoifehkioaaGreatDoorExA17
import Derived.Test.YtdcacoifehkioaaGreatDoorExA14
import Derived.Deep.Upon
import Derived.Test.YtdcacoifehkioaaGreatDoorExA3
import Derived.Test.YtdcacoifehkioaaGreatDoorExA12
import Derived.Deep.Cut
import Derived.Deep.DeepCutAuto
open List renaming getElem?_eq_some_iff->Xf,length_append->Xb,map_append->XH,getElem?_map->Xs,getElem?_eq_getElem->Xe,getD_eq_getElem?_getD->Xc,length_map->Xp,flatMap_cons->XO,mem_cons_of_mem->Yk,mem_cons_self->Ye,set_cons_zero->X5,set_cons_succ->X8,getElem?_set->Yy,length_set->Yb,replicate->Xr,length_replicate->Yx
open Go renaming World->Xh,Addr->YV,Value->Xk,info_parts->YI,heap_setCell_other->Xt,Calls->XY,heap_setCell_same->Xj
open Go.RowKit renaming Below->Xm,wrap64->XN
open Go.Value renaming string->Yi,int->Yw,slice->Yn
open Array renaming getElem?_eq_some_iff->Xa,getD_eq_getD_getElem?->Zg,getElem?_eq_getElem->YO
open Nat renaming zero_add->XD,zero_mul->afU,le_refl->Xd,mul_one->afp,le_trans->Xu
open Go.World renaming cell?->Xg,alloc_heap_new->Xi,size_setCell->XA
open Go.RowKit.Below renaming refl->Xq,heap_alloc->Xv
open Go.Act renaming put->XG
set_option maxRecDepth 100000
set_option maxHeartbeats 2000000
set_option linter.unusedVariables false
set_option linter.unusedSimpArgs false
namespace Go.Proofs.YtdcacoifehkioaaGreatDoor
open Go.RowKit Go.Shelf Go.Proofs.Cod
theorem KG {s:Tx}:∀(i:Nat) (l:List Tx),(∀j x,j<i->l[j]?=some x->x≠s/\AN s x=false)->Cb s l=l.take i++Cb s (l.drop i)
 |0,_,_=>rfl
 |i+1,[],_=>rfl
 |i+1,a::l,h=>by
  obtain⟨f,c⟩:=h 0 a (Nat.succ_pos i) rfl;have e:=KG i l λj x b d=>h (j+1) x (Nat.succ_lt_succ b) d;rw[List.take_succ_cons,List.drop_succ_cons,List.cons_append,<-e];show (if a=s then a::l else if AN s a=true then s::a::l else a::Cb s l)=_;rw[if_neg f,c]
  rfl
theorem Ux {s:Tx} (l:List Tx):Cb s (s::l)=s::l:=by unfold Cb;rw[if_pos rfl]
theorem Uy {s a:Tx} {l:List Tx} (b:a≠s) (c:AN s a=true):Cb s (a::l)=s::a::l:=by unfold Cb;rw[if_neg b,if_pos c]
theorem Wv {l:List Tx} (h:FN l) {i j:Nat} {x y:Tx} (g:i<j) (d:l[i]?=some x) (b:l[j]?=some y):AN x y=true:=by
 obtain⟨f,e⟩:=Xf.1 d;obtain⟨c,a⟩:=Xf.1 b;rw[<-e,<-a];exact List.pairwise_iff_getElem.1 h i j f c g
def Ts (w:Xh) (a:Option YV) (l:List Tx):Prop:=∀i,i<l.length->∃b off,a=some ⟨b,off,none⟩/\b<w.heap.size/\w.cell? ⟨b,off+i,none⟩=some (.string (bs (l.getD i [])))
theorem Ts.below {w w':Xh} {a:Option YV} {l:List Tx} (h:Ts w a l) (c:Xm w.heap.size w w'):Ts w' a l:=λi f=>by
 obtain⟨b,d,g,e,j⟩:=h i f
 exact⟨b,d,g,by have:=c.size;omega,(c.cell (p:=⟨b,d+i,none⟩) e).trans j⟩
theorem JJ {w:Xh} {base:Nat} {v:Xk} {l:List Tx} (h:w.ownsRow base 9 1 v l.length (l.map λx=>Yi (bs x))) (x:Tx) (d:l.length<1048576) (b:base<=w.heap.size) :
 ∃g cap w',(Builtin.append_ #[22,22] 22 #[v,.slice (some ⟨w.heap.size,0,none⟩) 1 1]).run Tryz.prog (w.alloc (.cells #[.string (bs x)] 9)) = .ok (.slice (some ⟨g,0,none⟩) (l.length+1) cap) w'/\
  w'.ownsRow base 9 1 (.slice (some ⟨g,0,none⟩) (l.length+1) cap) (l++[x]).length ((l++[x]).map λx=>Yi (bs x))/\(∀B,B<=base->Xm B w w'):=by
 obtain⟨s,j,n,f,p⟩:=YI Tryz.infoStrX;obtain⟨g,cap,w',q,i,c,m,o,z,rb,r⟩:=Ic h Tryz.underlying22 j n f p rfl (by omega) [.string (bs x)] rfl (by intro u a;simp at a;subst a;rfl) 22 d b;refine⟨g,cap,w',q,by rw[Xb,XH];exact i,λB y=>⟨c,m,o,by omega,λk t=>rb k (by omega) (λe=>?_)⟩⟩;have:=(h.lt k e).1
 omega
theorem IX {w:Xh} {base:Nat} {v:Xk} {l:List Tx} (h:w.ownsRow base 9 1 v l.length (l.map λx=>Yi (bs x))):∃a cap,v = .slice a l.length cap/\Ts w a l:=by
 obtain⟨a,cap,e⟩:=As h;refine⟨a,cap,e,λi c=>?_⟩
 rcases id h.2 with⟨b,f⟩|⟨g,m,k,b,j,d,-⟩
 ·omega
 ·rw[e] at b;injection b with b _ _
  refine⟨g,0,b,(Xa.1 d).1,?_⟩;subst b;rw[e] at h;rw[XD,h.cellAt i (by omega),Xs,Xe c,Xc,Xe c]
  rfl
end Go.Proofs.YtdcacoifehkioaaGreatDoor
namespace Go.Proofs.YtdcacoifehkioaaGreatDoor
open Go.RowKit Go.Proofs.Cod
def Ee (s:MS):List Int:=s.thr.map λth=>(th.pc:Int)
def CR (s:MS):List Int:=s.thr.map λth=>th.ph
def EN (s:MS):List Int:=s.thr.flatMap λth=>th.regs
def R4 (s:MS):Prop:=∀th,th∈s.thr->th.regs.length=4
theorem LX (s:MS):(Ee s).length=s.thr.length:=by unfold Ee;rw[Xp]
theorem FI (s:MS):(CR s).length=s.thr.length:=by unfold CR;rw[Xp]
theorem SM:∀(l:List TS),(∀th,th∈l->th.regs.length=4)->(l.flatMap λth=>th.regs).length=l.length*4
 |[],_=>rfl
 |a::r,h=>by
  rw[XO,Xb,SM r (λth q=>h th (Yk _ q)),h a Ye,List.length_cons]
  omega
theorem SN:∀(l:List TS),(∀th,th∈l->th.regs.length=4)->∀t r,r<4->t<l.length->(l.flatMap λth=>th.regs).getD (t*4+r) 0=(l.getD t AC).regs.getD r 0
 |[],_,t,r,_,ht=>by cases ht
 |a::l,h,t,r,hr,ht=>by
  have b:=h a Ye;rw[XO,Xc]
  cases t with
  |zero=>
   rw[List.getElem?_append_left (by omega),afU,XD,<-Xc];rfl
  |succ t=>
   rw[List.getElem?_append_right (by omega),b,<-Xc];have e:(t+1)*4+r - 4=t*4+r:=by omega
   rw[e,SN l (λth q=>h th (Yk _ q)) t r hr (by simp at ht;omega)]
   rfl
theorem SL:∀(l:List TS),(∀th,th∈l->th.regs.length=4)->∀t r v (y:TS),r<4->t<l.length->y.regs=(l.getD t AC).regs.set r v->((l.set t y).flatMap λth=>th.regs)=(l.flatMap λth=>th.regs).set (t*4+r) v
 |[],_,t,r,v,y,_,ht,_=>by cases ht
 |a::l,h,t,r,v,y,hr,ht,hy=>by
  have b:=h a Ye
  cases t with
  |zero=>
   rw[X5,XO,XO,afU,XD,List.set_append_left _ _ (by omega),hy];rfl
  |succ t=>
   have e:(t+1)*4+r - a.regs.length=t*4+r:=by omega
   rw[X8,XO,XO,List.set_append_right _ _ (by omega),e,SL l (λth q=>h th (Yk _ q)) t r v y hr (by simp at ht;omega) hy]
theorem SK:∀(l:List TS) (t:Nat) (y:TS),t<l.length->y.regs=(l.getD t AC).regs->((l.set t y).flatMap λth=>th.regs)=l.flatMap λth=>th.regs
 |[],t,y,ht,_=>by cases ht
 |a::l,t,y,ht,hy=>by
  cases t with
  |zero=>
   rw[X5,XO,XO,hy];rfl
  |succ t=>rw[X8,XO,XO,SK l t y (by simp at ht;omega) hy]
section
variable {s:MS}
theorem Oi (s:MS) {t:Nat} (h:t<s.thr.length):(Ee s).getD t 0=((s.th t).pc:Int):=by
 unfold Ee MS.th;rw[Xc,Xs,Xc,Xe h];rfl
theorem Jc (s:MS) {t:Nat} (h:t<s.thr.length):(CR s).getD t 0=(s.th t).ph:=by
 unfold CR MS.th;rw[Xc,Xs,Xc,Xe h];rfl
theorem ML (h:R4 s):(EN s).length=s.thr.length*4:=SM _ h
theorem Qr (h:R4 s) {t r:Nat} (a:r<4) (b:t<s.thr.length):(EN s).getD (t*4+r) 0=(s.th t).regs.getD r 0:=SN _ h t r a b
theorem ae7 {nv nf nl:Nat} {C:List (List Ad)} (h:AW nv nf nl C s):R4 s:=λth b=>by
 obtain⟨t,a,e⟩:=List.getElem_of_mem b;have q:=(h.th t (by rw[<-h.tl];exact a)).rl;have c:s.th t=th:=by unfold MS.th;rw[Xc,Xe a,e];rfl
 rw[c] at q;exact q
theorem TG (s:MS) (t:Nat) (y:TS):Ee (s.Ae t y)=(Ee s).set t (y.pc:Int):=by unfold Ee MS.Ae;rw[List.map_set]
theorem Pw (s:MS) (t:Nat) (y:TS):CR (s.Ae t y)=(CR s).set t y.ph:=by unfold CR MS.Ae;rw[List.map_set]
theorem Qq {t:Nat} (b:t<s.thr.length) {y:TS} (a:y.regs=(s.th t).regs):EN (s.Ae t y)=EN s:=SK _ t y b a
theorem Ww (h:R4 s) {t r:Nat} {v:Int} {y:TS} (b:r<4) (c:t<s.thr.length) (a:y.regs=(s.th t).regs.set r v):EN (s.Ae t y)=(EN s).set (t*4+r) v:=SL _ h t r v y b c a
theorem Sn {l:List Int} {k:Nat} {v:Int} (a:k<l.length) (h:l.getD k 0=v):l.set k v=l:=by
 apply List.ext_getElem?
 intro i;rw[Yy]
 split
 ·rename_i e;subst e;rw[<-h,Xc,Xe a];rfl
 ·rfl
theorem Px {t:Nat} (a:t<s.thr.length) {y:TS} (b:y.ph=(s.th t).ph):CR (s.Ae t y)=CR s:=by
 rw[Pw];exact Sn (by rw[FI];exact a) (by rw[Jc s a,b])
end
end Go.Proofs.YtdcacoifehkioaaGreatDoor
namespace Go.Proofs.YtdcacoifehkioaaGreatDoor
open Go.RowKit Go.Shelf Go.Proofs.Cod
section
variable {w w':Xh} {base lo hi:Nat} {a:Option YV} {l:List Int}
theorem aco {v:Xk} (h:w.ownsRow base 3 1 v l.length (l.map Ck)) {r:List Int} (m:Is w a r) (cap:Nat) (M:l.length+r.length<=2097152) (y:base<=w.heap.size) :
 ∃d w',(Builtin.append_ #[32,32] 32 #[v,.slice a r.length cap]).run Tryz.prog w = .ok d w'/\
  w'.ownsRow base 3 1 d (l++r).length ((l++r).map Ck)/\w.grownBy w' v.ownBlock:=by
 obtain⟨f,hi,p,H,C⟩:=YI Tryz.infoInt
 by_cases k:r=[]
 ·subst k;have o:Src Tryz.prog f.size 32 (.slice a 0 cap) 0 [] w:=by
   cases a with
   |none=>exact Src.ofNil w Tryz.underlying32 cap
   |some a=>exact Src.ofSlice w Tryz.underlying32 a 0 cap [] (by simp) (λj u h=>by simp at h) (λ_ h=>by cases h)
  refine⟨v,w,?_,by simpa using h,World.grownBy.refl _ _⟩
  rcases h.2 with⟨rfl,J⟩|⟨g,t,K,rfl,_,_,E,_,_,_⟩
  ·exact run_append_nothing w 32 32 32 3 f Tryz.underlying32 hi none 0 0 (Xd _) _ o
  ·exact run_append_nothing w 32 32 32 3 f Tryz.underlying32 hi (some ⟨g,0,none⟩) _ t E _ o
 ·have D:0<r.length:=List.length_pos_iff.2 k;obtain⟨b,i,rfl,-,-⟩:=m 0 D;obtain⟨d,w',G,B,s,_⟩:=JO (P:=Tryz.prog) w base 32 32 3 f (.int .i64 0) 1 8 Tryz.underlying32 hi p H C rfl v l.length (l.map Ck) h ⟨b,i,none⟩ r.length cap (r.map Ck) (by omega) (by rw[Xp,afp])
   (λj u c=>by
     rw[Xs] at c
     cases q:r[j]? with
     |none=>rw[q] at c;cases c
     |some x=>
      rw[q] at c;have c:some (Ck x)=some u:=c
      cases c
      obtain⟨N,I,e,-,n⟩:=m j (Xf.1 q).1;simp only[Option.some.injEq,Addr.mk.injEq,and_true] at e;obtain⟨e,z⟩:=e;subst e z;have A:r.getD j 0=x:=by rw[Xc,q];rfl
      rw[A] at n;have F:(⟨b,i,none⟩:YV).add j=⟨b,i+j,none⟩:=by simp[Addr.add]
      rw[F];exact n)
   (λu c=>by obtain⟨x,-,rfl⟩:=List.mem_map.1 c;rfl) (by unfold maxLen;omega) (by omega) y
  exact⟨d,w',G,by rw[Xb,XH];exact B,s⟩
def AZ (w:Xh) (lo hi:Nat) (a:Option YV) (l:List Int):Prop:=l=[]\/∃b N f,a=some ⟨b,0,none⟩/\lo<=b/\b<hi/\Am w b 3 N f/\l.length<=N/\∀i,i<l.length->f i = .int .i64 (l.getD i 0)
theorem AZ.is (h:AZ w lo hi a l):Is w a l:=λi hi=>by
 rcases h with rfl|⟨b,N,f,e,k,g,c,j,d⟩
 ·cases hi
 ·exact⟨b,0,e,c.lt,by rw[XD,c.cell (by omega),d i hi]⟩
theorem AZ.keep (h:AZ w lo hi a l) (g:∀b,lo<=b->b<hi->w'.heap[b]?=w.heap[b]?):AZ w' lo hi a l:=by
 rcases h with rfl|⟨b,N,f,j,d,c,k,i,e⟩
 ·exact .inl rfl
 ·exact .inr ⟨b,N,f,j,d,c,k.same (g b d c),i,e⟩
theorem AZ.below (h:AZ w lo hi a l) (d:hi<=w.heap.size) (c:Xm w.heap.size w w'):AZ w' lo hi a l:=h.keep λb _ e=>c.block b (by omega)
theorem AZ.mono (h:AZ w lo hi a l) {d c:Nat} (k:d<=lo) (g:hi<=c):AZ w d c a l:=by
 rcases h with rfl|⟨b,N,f,e,i,j,r⟩
 ·exact .inl rfl
 ·exact .inr ⟨b,N,f,e,by omega,by omega,r⟩
theorem AZ.set (h:AZ w lo hi a l) {i:Nat} (c:i<l.length):∃b,a=some ⟨b,0,none⟩/\lo<=b/\b<hi/\w.cell? ⟨b,i,none⟩=some (.int .i64 (l.getD i 0))/\w.frozen? ⟨b,i,none⟩=false/\∀v,AZ (w.setCell ⟨b,i,none⟩ (.int .i64 v)) lo hi (some ⟨b,0,none⟩) (l.set i v):=by
 rcases h with rfl|⟨b,N,f,p,n,j,d,o,g⟩
 ·cases c
 ·refine⟨b,p,n,j,by rw[d.cell (by omega),g i c],d.frozen i,λv=>.inr ⟨b,N,_,rfl,n,j,d.set i _,by rw[Yb];exact o,λk m=>?_⟩⟩;rw[Yb] at m;rw[Xc,Yy]
  by_cases e:k=i
  ·subst e;rw[if_pos rfl,if_pos rfl,if_pos c];rfl
  ·rw[if_neg e,if_neg (λq=>e q.symm),g k m,Xc]
theorem AZ.other (h:AZ w lo hi a l) {p:YV} (d:p.block<lo\/hi<=p.block) (v:Xk):AZ (w.setCell p v) lo hi a l:=h.keep λb c e=>Xt w p b v (by omega)
theorem AZ.of {v:Xk} (h:w.ownsRow base 3 1 v l.length (l.map Ck)):∃a cap,v = .slice a l.length cap/\AZ w base w.heap.size a l:=by
 rcases h.2 with⟨rfl,d⟩|⟨g,cap,b,rfl,j,d,m,n,o,i⟩
 ·have e:l=[]:=List.eq_nil_of_length_eq_zero d;subst e
  exact⟨none,0,rfl,.inl rfl⟩
 ·refine⟨_,_,rfl,.inr ⟨g,b.size,λk=>b.getD k undef,rfl,j,(Xa.1 d).1,⟨b,d,rfl,λk c=>?_⟩,by omega,λk c=>?_⟩⟩
  ·show b[k]?=some (b.getD k undef);rw[Zg,YO c];rfl
  ·have f:k<b.size:=by omega
   have q:(b.toList.take (l.length*1))[k]?=(l.map Ck)[k]?:=by rw[i]
   rw[afp,List.getElem?_take,if_pos c,Array.getElem?_toList,Xs,Xe c,YO f] at q;have q:some b[k]=some (Ck l[k]):=q;injection q with q
   show b.getD k undef=_;rw[Zg,YO f,Xc,Xe c];exact q
end
section
variable {w w':Xh} {b:Nat}
theorem SC {w u:Xh} {B:Nat} (a:B<=w.heap.size) (g:w.grownBy u none):Xm B w u:=⟨g.os,g.tape,g.output,g.size,λk b=>g.block k (by omega) (by simp)⟩
theorem Jt {a:Option YV} {l:List Int} {n cap:Nat} (j:l.length=n) (h:Is w a l) (m:n<=1048576) :
 XY Tryz.prog 174 #[.slice a n cap] w λe w'=>∃b d,e = .returned (.slice b n d)/\AZ w' w.heap.size w'.heap.size b l/\Xm w.heap.size w w':=by
 subst j;obtain⟨o,w',i,f,g⟩:=aco (w:=w) (base:=w.heap.size) (l:=[]) (v:=.slice none 0 0) (World.ownsRow_nil _ _ _ _) h cap (by simp;omega) (Xd _);rw[List.nil_append] at f;obtain⟨b,d,rfl,c⟩:=AZ.of f;have k:=Aa (SC (Xd _) g);replace c:=Aa c;clear h f g
 go_enter Tryz.func174,Tryz.ntmps174
 go_wp2_with (at_builtin;refine Dl rfl _ _ _ rfl rfl rfl rfl i ?_)
 go_ret
 exact⟨b,d,rfl,c.out,k.out⟩
theorem IW {n:Nat} (w:Xh) (p:n<=1048576) :
 XY Tryz.prog 128 #[.int .i64 n] w λe w'=>∃b d,e = .returned (.slice b n d)/\AZ w' w.heap.size w'.heap.size b (Xr n 0)/\Xm w.heap.size w w':=by
 obtain⟨m,f,g,i,j⟩:=YI Tryz.infoInt;obtain⟨w',q,c,l⟩:=run_make_full (P:=Tryz.prog) w w.heap.size 32 3 m (.int .i64 0) 1 Tryz.underlying32 f g i .i64 .i64 n (by rw[j];omega) (by unfold maxLen;omega) (Xd _);have o:=Aa (SC (Xd _) l);have e:(madeCells (Yw .i64 0).cells (n*1)).toList=(Xr n (0:Int)).map Ck:=by
  show (madeCells #[Yw .i64 0] (n*1)).toList=_;rw[afp,toList_madeCells_one,List.map_replicate];rfl
 rw[e] at c;have h:w'.ownsRow w.heap.size 3 1 (.slice (some ⟨w.heap.size,0,none⟩) n n) (Xr n (0:Int)).length ((Xr n (0:Int)).map Ck):=by rw[Yx];exact c
 obtain⟨b,d,k,a⟩:=AZ.of h;rw[Yx] at k;injection k with hv1 _ hv2
 subst hv1;replace a:=Aa a;clear c h l f g i j e hv2
 go_enter Tryz.func128,Tryz.ntmps128
 go_wp2_with fail
 go_ret
 exact⟨_,⟨_,rfl⟩,a.out,o.out⟩
theorem Tryz.sizeSt:(Tryz.prog.info? 92).map (·.size)=some 6:=by kernel_rfl
theorem My {w:Xh} {fn:Func} {tmps:Array Xk} {b k:Nat} {g e c f d v5:Xk} (i:fn.results = #[.cell k 92]) (h:tmps[k]?=some (.pointer (some ⟨b,0,none⟩))) (a:w.heap[b]?=some (.cells #[g,e,c,f,d,v5] 92)):(results fn tmps).run Tryz.prog w = .ok (.agg #[g,e,c,f,d,v5]) w:=by
 have c0:w.cell? ⟨b,0,none⟩=some g:=by simp[Xg,a]
 have c1:w.cell? ⟨b,1,none⟩=some e:=by simp[Xg,a]
 have c2:w.cell? ⟨b,2,none⟩=some c:=by simp[Xg,a]
 have c3:w.cell? ⟨b,3,none⟩=some f:=by simp[Xg,a]
 have c4:w.cell? ⟨b,4,none⟩=some d:=by simp[Xg,a]
 have c5:w.cell? ⟨b,5,none⟩=some v5:=by simp[Xg,a]
 simp[results,i,h,go_sem,c0,c1,c2,c3,c4,c5]
theorem Bk {W:Xh} {g T:Nat} {e c a d b v5:Xk} (h:W.heap[g]?=some (.cells #[e,c,a,d,b,v5] T)):W.cell? ⟨g,0,none⟩=some e/\W.cell? ⟨g,1,none⟩=some c/\W.cell? ⟨g,2,none⟩=some a/\W.cell? ⟨g,3,none⟩=some d/\W.cell? ⟨g,4,none⟩=some b/\W.cell? ⟨g,5,none⟩=some v5:=
 ⟨by simp[Xg,h],by simp[Xg,h],by simp[Xg,h],by simp[Xg,h],by simp[Xg,h],by simp[Xg,h]⟩
theorem Ao {W:Xh} {g T:Nat} {cs:Array Xk} (h:W.heap[g]?=some (.cells cs T)) (k:Nat):W.frozen? ⟨g,k,none⟩=false:=by simp[World.frozen?,h]
theorem Lk {e i f g h a5:Option YV} {n0 n1 n2 n3 n4 n5 k m1 d j c b:Nat}:∀v∈(#[Yn e n0 k,.slice i n1 m1,.slice f n2 d,.slice g n3 j,.slice h n4 c,.slice a5 n5 b]:Array Xk).toList,v.oneCell'=true:=by
 intro v a;simp only[List.mem_cons,List.not_mem_nil,or_false] at a
 rcases a with rfl|rfl|rfl|rfl|rfl|rfl<;>rfl
theorem JL {v:Xh} {b:Nat} {T:TypeId} {c0 c1 c2 c3 c4 c5:Xk} (a c d e f a5:Xk) (h:v.heap[b]?=some (.cells #[c0,c1,c2,c3,c4,c5] T)) :
 ((((((v.setCell ⟨b,0,none⟩ a).setCell ⟨b,1,none⟩ c).setCell ⟨b,2,none⟩ d).setCell ⟨b,3,none⟩ e).setCell ⟨b,4,none⟩ f).setCell ⟨b,5,none⟩ a5).heap[b]?=some (.cells #[a,c,d,e,f,a5] T):=by
 have k:=(Xj _ b 0 _ _ a h).trans (show _=some (.cells #[a,c1,c2,c3,c4,c5] T) from rfl);have m:=(Xj _ b 1 _ _ c k).trans (show _=some (.cells #[a,c,c2,c3,c4,c5] T) from rfl);have j:=(Xj _ b 2 _ _ d m).trans (show _=some (.cells #[a,c,d,c3,c4,c5] T) from rfl);have g:=(Xj _ b 3 _ _ e j).trans (show _=some (.cells #[a,c,d,e,c4,c5] T) from rfl);have i:=(Xj _ b 4 _ _ f g).trans (show _=some (.cells #[a,c,d,e,f,c5] T) from rfl);have l:=(Xj _ b 5 _ _ a5 i).trans (show _=some (.cells #[a,c,d,e,f,a5] T) from rfl);exact l
structure Bu (w:Xh) (lo:Nat) (b0 b1 b2 b3 b4 b5:Option YV) (l0 l1 l2 l3 l4 l5:List Int) (p1 p2 p3 p4 p5 p6:Nat):Prop where
 r0:AZ w lo p1 b0 l0
 r1:AZ w p1 p2 b1 l1
 r2:AZ w p2 p3 b2 l2
 r3:AZ w p3 p4 b3 l3
 r4:AZ w p4 p5 b4 l4
 r5:AZ w p5 p6 b5 l5
 le:lo<=p1/\p1<=p2/\p2<=p3/\p3<=p4/\p4<=p5/\p5<=p6/\p6<=w.heap.size
theorem Wf {B:Option YV} {l0:List Int} {n0 c0:Nat} (aH:l0.length=n0) (h0:Is w B l0) (a8:n0<=1048576) {D:Option YV} {Z:List Int} {n1 c1:Nat} (aR:Z.length=n1) (H:Is w D Z) (a7:n1<=1048576) {G:Option YV} {X:List Int} {n2 c2:Nat} (ba:X.length=n2) (J:Is w G X) (aZ:n2<=1048576) {C:Option YV} {l3:List Int} {n3 c3:Nat} (aJ:l3.length=n3) (h3:Is w C l3) (aT:n3<=1048576) {y:Option YV} {Y:List Int} {n4 c4:Nat} (bf:Y.length=n4) (h4:Is w y Y) (aM:n4<=1048576) {a5:Option YV} {l5:List Int} {n5 c5:Nat} (aS:l5.length=n5) (h5:Is w a5 l5) (aU:n5<=1048576) :
 XY Tryz.prog 131 #[.agg #[.slice B n0 c0,.slice D n1 c1,.slice G n2 c2,.slice C n3 c3,.slice y n4 c4,.slice a5 n5 c5]] w λe w'=>∃F A x E v z M N Q P T V p1 p2 p3 p4 p5 p6,e = .returned (.agg #[.slice F n0 M,.slice A n1 N,.slice x n2 Q,.slice E n3 P,.slice v n4 T,.slice z n5 V])/\Bu w' w.heap.size F A x E v z l0 Z X l3 Y l5 p1 p2 p3 p4 p5 p6/\Xm w.heap.size w w':=by
 obtain⟨a,I⟩:∃a,(w.alloc (.cells #[.slice B n0 c0,.slice D n1 c1,.slice G n2 c2,.slice C n3 c3,.slice y n4 c4,.slice a5 n5 c5] 92)).alloc (.cells #[.slice none 0 0,.slice none 0 0,.slice none 0 0,.slice none 0 0,.slice none 0 0,.slice none 0 0] 92)=a:=⟨_,rfl⟩;have ap:(w.alloc (.cells #[.slice B n0 c0,.slice D n1 c1,.slice G n2 c2,.slice C n3 c3,.slice y n4 c4,.slice a5 n5 c5] 92)).heap.size=w.heap.size+1:=by show (w.heap.push _).size=_;simp
 have ai:a.heap.size=w.heap.size+1+1:=by rw[<-I];show ((w.heap.push _).push _).size=_;simp
 have i:Xm w.heap.size w a:=by rw[<-I];exact((Xq _ _).alloc (Xd _) _).alloc (by rw[ap];omega) _
 have a9:a.heap[w.heap.size]?=some (.cells #[.slice B n0 c0,.slice D n1 c1,.slice G n2 c2,.slice C n3 c3,.slice y n4 c4,.slice a5 n5 c5] 92):=by
  rw[<-I,Xv _ _ _ (by rw[ap];omega)];exact Xi w _
 have O:a.heap[w.heap.size+1]?=some (.cells #[.slice none 0 0,.slice none 0 0,.slice none 0 0,.slice none 0 0,.slice none 0 0,.slice none 0 0] 92):=by
  have q:=Xi (w.alloc (.cells #[.slice B n0 c0,.slice D n1 c1,.slice G n2 c2,.slice C n3 c3,.slice y n4 c4,.slice a5 n5 c5] 92)) (.cells #[.slice none 0 0,.slice none 0 0,.slice none 0 0,.slice none 0 0,.slice none 0 0,.slice none 0 0] 92);rw[ap,I] at q;exact q
 have n:∀u,Xm a.heap.size a u->u.cell? ⟨w.heap.size,0,none⟩=some (.slice B n0 c0)/\u.cell? ⟨w.heap.size,1,none⟩=some (.slice D n1 c1)/\u.cell? ⟨w.heap.size,2,none⟩=some (.slice G n2 c2)/\u.cell? ⟨w.heap.size,3,none⟩=some (.slice C n3 c3)/\u.cell? ⟨w.heap.size,4,none⟩=some (.slice y n4 c4)/\u.cell? ⟨w.heap.size,5,none⟩=some (.slice a5 n5 c5):=λu m=>by
  have q:=(m.block w.heap.size (by omega)).trans a9
  exact⟨by simp[Xg,q],by simp[Xg,q],by simp[Xg,q],by simp[Xg,q],by simp[Xg,q],by simp[Xg,q]⟩
 have a3:=Aa (fun(u:Xh) (m:Xm a.heap.size a u)=>Jt (cap:=c0) aH ((h0.below i).below m) a8);have a1:=Aa (fun(u:Xh) (m:Xm a.heap.size a u)=>Jt (cap:=c1) aR ((H.below i).below m) a7);have aO:=Aa (fun(u:Xh) (m:Xm a.heap.size a u)=>Jt (cap:=c2) ba ((J.below i).below m) aZ);have aI:=Aa (fun(u:Xh) (m:Xm a.heap.size a u)=>Jt (cap:=c3) aJ ((h3.below i).below m) aT);have bg:=Aa (fun(u:Xh) (m:Xm a.heap.size a u)=>Jt (cap:=c4) bf ((h4.below i).below m) aM);have aF:=Aa (fun(u:Xh) (m:Xm a.heap.size a u)=>Jt (cap:=c5) aS ((h5.below i).below m) aU);have HP:=Aa (⟨i,ai,O⟩:_/\_/\_);replace n:=Aa n;obtain⟨e0,e1,e2,e3,e4,e5⟩:=n.out a.drew (⟨rfl,rfl,rfl,Xd _,λ_ _=>rfl⟩);clear aH h0 a8 aR H a7 ba J aZ aJ h3 aT bf h4 aM aS h5 aU ap ai i a9 O
 go_enter Tryz.func131,Tryz.ntmps131
 go_wp2_with fail
 try rw[I]
 replace I:=Aa I;have hd:Xm a.heap.size a a.drew:=⟨rfl,rfl,rfl,Xd _,λ_ _=>rfl⟩;refine wp_region_held_drew (S:=(λw'=>w'.cell? ⟨w.heap.size,0,none⟩=some (.slice B n0 c0)/\w'.cell? ⟨w.heap.size,1,none⟩=some (.slice D n1 c1)/\w'.cell? ⟨w.heap.size,2,none⟩=some (.slice G n2 c2)/\w'.cell? ⟨w.heap.size,3,none⟩=some (.slice C n3 c3)/\w'.cell? ⟨w.heap.size,4,none⟩=some (.slice y n4 c4)/\w'.cell? ⟨w.heap.size,5,none⟩=some (.slice a5 n5 c5))) (by kernel_rfl) ⟨e0,e1,e2,e3,e4,e5⟩ (λf=>?_);clear e0 e1 e2 e3 e4 e5;refine tk 0 f ?_;refine tk 1 f ?_;refine tk 3 f ?_;refine tk 4 f ?_;refine tk 6 f ?_;refine tk 7 f ?_;refine tk 9 f ?_;refine tk 10 f ?_;refine tk 12 f ?_;refine tk 13 f ?_;refine tk 15 f ?_;refine tk 16 f ?_;refine rd 2 (λK d=>?_)
 go_simp
 go_at_call 174
 refine(a3.out _ hd).mono ?_;rintro e v0 ⟨F,M,rfl,aw,o⟩;replace aw:=Aa (⟨aw,o⟩:_/\_);replace o:Xm a.heap.size a v0:=hd.trans (o.mono hd.size);have c:=n.out v0 o;replace o:=Aa o;replace c:=Aa c
 go_wp2_with fail
 refine d.out _ _ c.out (λf=>?_);clear d K c
 try simp only[XG,sq]
 refine rd 5 (λK d=>?_)
 go_simp
 go_at_call 174
 refine(a1.out _ o.out).mono ?_;rintro e v1 ⟨A,N,rfl,ah,r⟩;replace ah:=Aa (⟨ah,r⟩:_/\_);replace r:Xm a.heap.size a v1:=o.out.trans (r.mono o.out.size);have c:=n.out v1 r;replace r:=Aa r;replace c:=Aa c
 go_wp2_with fail
 refine d.out _ _ c.out (λf=>?_);clear d K c
 try simp only[XG,sq]
 refine rd 8 (λK d=>?_)
 go_simp
 go_at_call 174
 refine(aO.out _ r.out).mono ?_;rintro e v2 ⟨x,Q,rfl,W,s⟩;replace W:=Aa (⟨W,s⟩:_/\_);replace s:Xm a.heap.size a v2:=r.out.trans (s.mono r.out.size);have c:=n.out v2 s;replace s:=Aa s;replace c:=Aa c
 go_wp2_with fail
 refine d.out _ _ c.out (λf=>?_);clear d K c
 try simp only[XG,sq]
 refine rd 11 (λK d=>?_)
 go_simp
 go_at_call 174
 refine(aI.out _ s.out).mono ?_;rintro e v3 ⟨E,P,rfl,ak,t⟩;replace ak:=Aa (⟨ak,t⟩:_/\_);replace t:Xm a.heap.size a v3:=s.out.trans (t.mono s.out.size);have c:=n.out v3 t;replace t:=Aa t;replace c:=Aa c
 go_wp2_with fail
 refine d.out _ _ c.out (λf=>?_);clear d K c
 try simp only[XG,sq]
 refine rd 14 (λK d=>?_)
 go_simp
 go_at_call 174
 refine(bg.out _ t.out).mono ?_;rintro e v4 ⟨v,T,rfl,am,p⟩;replace am:=Aa (⟨am,p⟩:_/\_);replace p:Xm a.heap.size a v4:=t.out.trans (p.mono t.out.size);have c:=n.out v4 p;replace p:=Aa p;replace c:=Aa c
 go_wp2_with fail
 refine d.out _ _ c.out (λf=>?_);clear d K c
 try simp only[XG,sq]
 refine rd 17 (λK d=>?_)
 go_simp
 go_at_call 174
 refine(aF.out _ p.out).mono ?_;rintro e v5 ⟨z,V,rfl,ag,h⟩;replace ag:=Aa (⟨ag,h⟩:_/\_);replace h:Xm a.heap.size a v5:=p.out.trans (h.mono p.out.size);have c:=n.out v5 h;replace h:=Aa h;replace c:=Aa c
 go_wp2_with fail
 refine d.out _ _ c.out (λf=>?_);clear d K c
 try simp only[XG,sq]
 refine rd 18 (λK d=>?_);refine JC _ _ rfl [(0,.slice F n0 M),(1,.slice A n1 N),(2,.slice x n2 Q),(3,.slice E n3 P),(4,.slice v n4 T),(5,.slice z n5 V)] rfl #[.slice F n0 M,.slice A n1 N,.slice x n2 Q,.slice E n3 P,.slice v n4 T,.slice z n5 V] (by rfl) ?_;refine d.out _ _ (n.out v5 h.out) (λf=>?_);clear d K
 try simp only[XG,sq]
 refine rd 19 (λK d=>?_);have i:=HP.out.1;have ai:=HP.out.2.1;have O:=(h.out.block (w.heap.size+1) (by omega)).trans HP.out.2.2;obtain⟨r0,r1,r2,r3,r4,r5⟩:=Bk O;have a6:=h.out.size;refine Fp _ _ _ rfl (w.heap.size+1) 0 #[.slice F n0 M,.slice A n1 N,.slice x n2 Q,.slice E n3 P,.slice v n4 T,.slice z n5 V] rfl rfl (λj hj=>by
  match j,hj with
  |0,_=>rw[XD,r0];rfl
  |1,_=>rw[XD,r1];rfl
  |2,_=>rw[XD,r2];rfl
  |3,_=>rw[XD,r3];rfl
  |4,_=>rw[XD,r4];rfl
  |5,_=>rw[XD,r5];rfl) (λj _=>Ao O _) Tryz.sizeSt Lk ?_
 obtain⟨g,ar⟩:∃g,v5.setCells (w.heap.size+1) 0 (#[Yn F n0 M,.slice A n1 N,.slice x n2 Q,.slice E n3 P,.slice v n4 T,.slice z n5 V]:Array Xk).toList=g:=⟨_,rfl⟩;rw[ar];have l:Ac (λk=>k=w.heap.size+1) v5 g:=by rw[<-ar];exact EZ (S:=λk=>k=w.heap.size+1) _ 0 (Ac.refl v5) (.inl rfl)
 have aD:g.heap[w.heap.size+1]?=some (.cells #[.slice F n0 M,.slice A n1 N,.slice x n2 Q,.slice E n3 P,.slice v n4 T,.slice z n5 V] 92):=by rw[<-ar];exact JL _ _ _ _ _ _ O
 have U:g.heap[w.heap.size]?=v5.heap[w.heap.size]?:=l.block w.heap.size (by omega) (by omega);have c:g.cell? ⟨w.heap.size,0,none⟩=some (.slice B n0 c0)/\g.cell? ⟨w.heap.size,1,none⟩=some (.slice D n1 c1)/\g.cell? ⟨w.heap.size,2,none⟩=some (.slice G n2 c2)/\g.cell? ⟨w.heap.size,3,none⟩=some (.slice C n3 c3)/\g.cell? ⟨w.heap.size,4,none⟩=some (.slice y n4 c4)/\g.cell? ⟨w.heap.size,5,none⟩=some (.slice a5 n5 c5):=by
  obtain⟨e0,e1,e2,e3,e4,e5⟩:=n.out v5 h.out
  exact⟨(by rw[<-e0];unfold Xg;dsimp only;rw[U]),(by rw[<-e1];unfold Xg;dsimp only;rw[U]),(by rw[<-e2];unfold Xg;dsimp only;rw[U]),(by rw[<-e3];unfold Xg;dsimp only;rw[U]),(by rw[<-e4];unfold Xg;dsimp only;rw[U]),(by rw[<-e5];unfold Xg;dsimp only;rw[U])⟩
 refine d.out _ _ c (λf=>?_);clear d K
 try simp only[XG,sq]
 refine wpAnyH_done (by kernel_rfl) ?_ _;have aL:Xm w.heap.size w g:=⟨l.os.trans (h.out.os.trans i.os),l.tape.trans (h.out.tape.trans i.tape),l.output.trans (h.out.output.trans i.output),Xu i.size (Xu a6 l.size),λk hk=>(l.block k (by omega) (by omega)).trans ((h.out.block k (by omega)).trans (i.block k hk))⟩;obtain⟨y0,x0⟩:=aw.out;obtain⟨y1,x1⟩:=ah.out;obtain⟨y2,x2⟩:=W.out;obtain⟨y3,x3⟩:=ak.out;obtain⟨y4,x4⟩:=am.out;obtain⟨y5,R⟩:=ag.out;have z0:a.heap.size<=v0.heap.size:=x0.size;have z1:=x1.size;have z2:=x2.size;have z3:=x3.size;have z4:=x4.size;have z5:=R.size;have zz:=l.size;have bm:a.drew.heap.size=a.heap.size:=rfl;have t0:=((((((y0.below (Xd _) x1).below (by omega) x2).below (by omega) x3).below (by omega) x4).below (by omega) R).keep (w':=g) λb H J=>l.block b (by omega) (by omega));have t1:=(((((y1.below (Xd _) x2).below (by omega) x3).below (by omega) x4).below (by omega) R).keep (w':=g) λb H J=>l.block b (by omega) (by omega));have t2:=((((y2.below (Xd _) x3).below (by omega) x4).below (by omega) R).keep (w':=g) λb H J=>l.block b (by omega) (by omega));have t3:=(((y3.below (Xd _) x4).below (by omega) R).keep (w':=g) λb H J=>l.block b (by omega) (by omega));have t4:=((y4.below (Xd _) R).keep (w':=g) λb H J=>l.block b (by omega) (by omega));have t5:=(y5.keep (w':=g) λb H J=>l.block b (by omega) (by omega));have hR:Bu g w.heap.size F A x E v z l0 Z X l3 Y l5 v0.heap.size v1.heap.size v2.heap.size v3.heap.size v4.heap.size v5.heap.size:=
  ⟨t0.mono (by omega) (Xd _),t1,t2,t3,t4,t5,⟨by omega,by omega,by omega,by omega,by omega,by omega,by omega⟩⟩
 have HF:=Aa (⟨hR,aL,aD⟩:_/\_/\_);clear f c U aD l ar O ai i hR aL t0 y0 x0 z0 aw o a3 t1 y1 x1 z1 ah r a1 t2 y2 x2 z2 W s aO t3 y3 x3 z3 ak t aI t4 y4 x4 z4 am p bg t5 y5 R z5 ag h aF zz bm hd a6 HP n I
 go_wp2_with fail
 exact bodyPost_ret (My rfl rfl HF.out.2.2) rfl ⟨_,_,_,_,_,_,_,_,_,_,_,_,_,_,_,_,_,_,rfl,HF.out.1,HF.out.2.1⟩
end
section
variable {w w':Xh} {lo p1 p2 p3 p4 p5 p6:Nat} {b0 b1 b2 b3 b4 b5:Option YV} {l0 l1 l2 l3 l4 l5:List Int}
theorem Bu.keep (h:Bu w lo b0 b1 b2 b3 b4 b5 l0 l1 l2 l3 l4 l5 p1 p2 p3 p4 p5 p6) (a:∀b,lo<=b->b<p6->w'.heap[b]?=w.heap[b]?) (s:w.heap.size<=w'.heap.size):Bu w' lo b0 b1 b2 b3 b4 b5 l0 l1 l2 l3 l4 l5 p1 p2 p3 p4 p5 p6:=by
 obtain⟨g,f,k,p,l,i,m,e,n,j,o,q,r⟩:=h
 exact⟨g.keep λb d c=>a b (by omega) (by omega),f.keep λb d c=>a b (by omega) (by omega),k.keep λb d c=>a b (by omega) (by omega),p.keep λb d c=>a b (by omega) (by omega),l.keep λb d c=>a b (by omega) (by omega),i.keep λb d c=>a b (by omega) (by omega),⟨m,e,n,j,o,q,by omega⟩⟩
theorem Bu.other (h:Bu w lo b0 b1 b2 b3 b4 b5 l0 l1 l2 l3 l4 l5 p1 p2 p3 p4 p5 p6) {p:YV} (d:p.block<lo\/p6<=p.block) (v:Xk):Bu (w.setCell p v) lo b0 b1 b2 b3 b4 b5 l0 l1 l2 l3 l4 l5 p1 p2 p3 p4 p5 p6:=
 h.keep (λb a c=>Xt w p b v (by omega)) (by rw[XA];exact Xd _)
theorem Bu.VY (h:Bu w lo b0 b1 b2 b3 b4 b5 l0 l1 l2 l3 l4 l5 p1 p2 p3 p4 p5 p6) {i:Nat} (e:i<l0.length):∃g,b0=some ⟨g,0,none⟩/\lo<=g/\g<p6/\w.cell? ⟨g,i,none⟩=some (.int .i64 (l0.getD i 0))/\w.frozen? ⟨g,i,none⟩=false/\∀v,Bu (w.setCell ⟨g,i,none⟩ (.int .i64 v)) lo b0 b1 b2 b3 b4 b5 (l0.set i v) l1 l2 l3 l4 l5 p1 p2 p3 p4 p5 p6:=by
 obtain⟨r,b,f,q,k,s,l,o,m,p,t,n,c⟩:=h;obtain⟨g,rfl,x,u,a,d,j⟩:=r.set e
 exact⟨g,rfl,by omega,by omega,a,d,λv=>⟨j v,b.other (.inl (by show g<p1;omega)) _,f.other (.inl (by show g<p2;omega)) _,q.other (.inl (by show g<p3;omega)) _,k.other (.inl (by show g<p4;omega)) _,s.other (.inl (by show g<p5;omega)) _,⟨l,o,m,p,t,n,by rw[XA];exact c⟩⟩⟩
theorem Bu.VX (h:Bu w lo b0 b1 b2 b3 b4 b5 l0 l1 l2 l3 l4 l5 p1 p2 p3 p4 p5 p6) {i:Nat} (e:i<l1.length):∃g,b1=some ⟨g,0,none⟩/\lo<=g/\g<p6/\w.cell? ⟨g,i,none⟩=some (.int .i64 (l1.getD i 0))/\w.frozen? ⟨g,i,none⟩=false/\∀v,Bu (w.setCell ⟨g,i,none⟩ (.int .i64 v)) lo b0 b1 b2 b3 b4 b5 l0 (l1.set i v) l2 l3 l4 l5 p1 p2 p3 p4 p5 p6:=by
 obtain⟨r,b,f,q,k,s,l,o,m,p,t,n,c⟩:=h;obtain⟨g,rfl,x,u,a,d,j⟩:=b.set e
 exact⟨g,rfl,by omega,by omega,a,d,λv=>⟨r.other (.inr (by show p1<=g;omega)) _,j v,f.other (.inl (by show g<p2;omega)) _,q.other (.inl (by show g<p3;omega)) _,k.other (.inl (by show g<p4;omega)) _,s.other (.inl (by show g<p5;omega)) _,⟨l,o,m,p,t,n,by rw[XA];exact c⟩⟩⟩
theorem Bu.Qg (h:Bu w lo b0 b1 b2 b3 b4 b5 l0 l1 l2 l3 l4 l5 p1 p2 p3 p4 p5 p6) {i:Nat} (e:i<l2.length):∃g,b2=some ⟨g,0,none⟩/\lo<=g/\g<p6/\w.cell? ⟨g,i,none⟩=some (.int .i64 (l2.getD i 0))/\w.frozen? ⟨g,i,none⟩=false/\∀v,Bu (w.setCell ⟨g,i,none⟩ (.int .i64 v)) lo b0 b1 b2 b3 b4 b5 l0 l1 (l2.set i v) l3 l4 l5 p1 p2 p3 p4 p5 p6:=by
 obtain⟨r,b,f,q,k,s,l,o,m,p,t,n,c⟩:=h;obtain⟨g,rfl,x,u,a,d,j⟩:=f.set e
 exact⟨g,rfl,by omega,by omega,a,d,λv=>⟨r.other (.inr (by show p1<=g;omega)) _,b.other (.inr (by show p2<=g;omega)) _,j v,q.other (.inl (by show g<p3;omega)) _,k.other (.inl (by show g<p4;omega)) _,s.other (.inl (by show g<p5;omega)) _,⟨l,o,m,p,t,n,by rw[XA];exact c⟩⟩⟩
theorem Bu.VW (h:Bu w lo b0 b1 b2 b3 b4 b5 l0 l1 l2 l3 l4 l5 p1 p2 p3 p4 p5 p6) {i:Nat} (e:i<l3.length):∃g,b3=some ⟨g,0,none⟩/\lo<=g/\g<p6/\w.cell? ⟨g,i,none⟩=some (.int .i64 (l3.getD i 0))/\w.frozen? ⟨g,i,none⟩=false/\∀v,Bu (w.setCell ⟨g,i,none⟩ (.int .i64 v)) lo b0 b1 b2 b3 b4 b5 l0 l1 l2 (l3.set i v) l4 l5 p1 p2 p3 p4 p5 p6:=by
 obtain⟨r,b,f,q,k,s,l,o,m,p,t,n,c⟩:=h;obtain⟨g,rfl,x,u,a,d,j⟩:=q.set e
 exact⟨g,rfl,by omega,by omega,a,d,λv=>⟨r.other (.inr (by show p1<=g;omega)) _,b.other (.inr (by show p2<=g;omega)) _,f.other (.inr (by show p3<=g;omega)) _,j v,k.other (.inl (by show g<p4;omega)) _,s.other (.inl (by show g<p5;omega)) _,⟨l,o,m,p,t,n,by rw[XA];exact c⟩⟩⟩
theorem Bu.Qf (h:Bu w lo b0 b1 b2 b3 b4 b5 l0 l1 l2 l3 l4 l5 p1 p2 p3 p4 p5 p6) {i:Nat} (e:i<l4.length):∃g,b4=some ⟨g,0,none⟩/\lo<=g/\g<p6/\w.cell? ⟨g,i,none⟩=some (.int .i64 (l4.getD i 0))/\w.frozen? ⟨g,i,none⟩=false/\∀v,Bu (w.setCell ⟨g,i,none⟩ (.int .i64 v)) lo b0 b1 b2 b3 b4 b5 l0 l1 l2 l3 (l4.set i v) l5 p1 p2 p3 p4 p5 p6:=by
 obtain⟨r,b,f,q,k,s,l,o,m,p,t,n,c⟩:=h;obtain⟨g,rfl,x,u,a,d,j⟩:=k.set e
 exact⟨g,rfl,by omega,by omega,a,d,λv=>⟨r.other (.inr (by show p1<=g;omega)) _,b.other (.inr (by show p2<=g;omega)) _,f.other (.inr (by show p3<=g;omega)) _,q.other (.inr (by show p4<=g;omega)) _,j v,s.other (.inl (by show g<p5;omega)) _,⟨l,o,m,p,t,n,by rw[XA];exact c⟩⟩⟩
theorem Bu.VU (h:Bu w lo b0 b1 b2 b3 b4 b5 l0 l1 l2 l3 l4 l5 p1 p2 p3 p4 p5 p6) {i:Nat} (e:i<l5.length):∃g,b5=some ⟨g,0,none⟩/\lo<=g/\g<p6/\w.cell? ⟨g,i,none⟩=some (.int .i64 (l5.getD i 0))/\w.frozen? ⟨g,i,none⟩=false/\∀v,Bu (w.setCell ⟨g,i,none⟩ (.int .i64 v)) lo b0 b1 b2 b3 b4 b5 l0 l1 l2 l3 l4 (l5.set i v) p1 p2 p3 p4 p5 p6:=by
 obtain⟨r,b,f,q,k,s,l,o,m,p,t,n,c⟩:=h;obtain⟨g,rfl,x,u,a,d,j⟩:=s.set e
 exact⟨g,rfl,by omega,by omega,a,d,λv=>⟨r.other (.inr (by show p1<=g;omega)) _,b.other (.inr (by show p2<=g;omega)) _,f.other (.inr (by show p3<=g;omega)) _,q.other (.inr (by show p4<=g;omega)) _,k.other (.inr (by show p5<=g;omega)) _,j v,⟨l,o,m,p,t,n,by rw[XA];exact c⟩⟩⟩
theorem GI {v:Xh} {b:Nat} {T:TypeId} {c0 c1 c2 c3:Xk} (a c d e:Xk) (h:v.heap[b]?=some (.cells #[c0,c1,c2,c3] T)) :
 ((((v.setCell ⟨b,0,none⟩ a).setCell ⟨b,1,none⟩ c).setCell ⟨b,2,none⟩ d).setCell ⟨b,3,none⟩ e).heap[b]?=some (.cells #[a,c,d,e] T):=by
 have i:=(Xj _ b 0 _ _ a h).trans (show _=some (.cells #[a,c1,c2,c3] T) from rfl);have j:=(Xj _ b 1 _ _ c i).trans (show _=some (.cells #[a,c,c2,c3] T) from rfl);have g:=(Xj _ b 2 _ _ d j).trans (show _=some (.cells #[a,c,d,c3] T) from rfl);have f:=(Xj _ b 3 _ _ e g).trans (show _=some (.cells #[a,c,d,e] T) from rfl);exact f
theorem Hk {S:Nat->Prop} {u v:Xh} {b:Nat} (c f d e:Xk) (h:Ac S u v) (a:S b\/u.heap.size<=b) :
 Ac S u ((((v.setCell ⟨b,0,none⟩ c).setCell ⟨b,1,none⟩ f).setCell ⟨b,2,none⟩ d).setCell ⟨b,3,none⟩ e):=(((h.set a _).set a _).set a _).set a _
theorem Sd {S:Nat->Prop} {u v:Xh} {b:Nat} (c g d e f a5:Xk) (h:Ac S u v) (a:S b\/u.heap.size<=b) :
 Ac S u ((((((v.setCell ⟨b,0,none⟩ c).setCell ⟨b,1,none⟩ g).setCell ⟨b,2,none⟩ d).setCell ⟨b,3,none⟩ e).setCell ⟨b,4,none⟩ f).setCell ⟨b,5,none⟩ a5):=(((((h.set a _).set a _).set a _).set a _).set a _).set a _
end
structure Ci (w:Xh) (a0 a1 a2 a3 a4 a5:Option YV) (nv nf nl nt nr:Nat) (m:MS):Prop where
 v:Is w a0 m.vars
 f:Is w a1 m.flags
 l:Is w a2 m.locks
 p:Is w a3 (Ee m)
 s:Is w a4 (CR m)
 r:Is w a5 (EN m)
 lv:m.vars.length=nv
 lf:m.flags.length=nf
 ll:m.locks.length=nl
 lt:m.thr.length=nt
 lr:nt*4=nr
 r4:R4 m
section
variable {w w':Xh} {a0 a1 a2 a3 a4 a5:Option YV} {nv nf nl nt nr:Nat} {m:MS}
theorem Ci.below (h:Ci w a0 a1 a2 a3 a4 a5 nv nf nl nt nr m) (a:Xm w.heap.size w w'):Ci w' a0 a1 a2 a3 a4 a5 nv nf nl nt nr m:=
 ⟨h.v.below a,h.f.below a,h.l.below a,h.p.below a,h.s.below a,h.r.below a,h.lv,h.lf,h.ll,h.lt,h.lr,h.r4⟩
theorem Ci.QV (h:Ci w a0 a1 a2 a3 a4 a5 nv nf nl nt nr m) {t:Nat} (e:t<nt):∃b a,a3=some ⟨b,a,none⟩/\b<w.heap.size/\w.cell? ⟨b,a+t,none⟩=some (.int .i64 ((m.th t).pc:Int)):=by
 have c:t<m.thr.length:=by rw[h.lt];exact e
 obtain⟨b,a,f,d,g⟩:=h.p t (by rw[LX];exact c)
 exact⟨b,a,f,d,by rw[g,Oi m c]⟩
theorem Ci.MW (h:Ci w a0 a1 a2 a3 a4 a5 nv nf nl nt nr m) {t:Nat} (e:t<nt):∃b a,a4=some ⟨b,a,none⟩/\b<w.heap.size/\w.cell? ⟨b,a+t,none⟩=some (.int .i64 (m.th t).ph):=by
 have c:t<m.thr.length:=by rw[h.lt];exact e
 obtain⟨b,a,f,d,g⟩:=h.s t (by rw[FI];exact c)
 exact⟨b,a,f,d,by rw[g,Jc m c]⟩
theorem Ci.KV (h:Ci w a0 a1 a2 a3 a4 a5 nv nf nl nt nr m) {t r:Nat} (e:t<nt) (i:r<4):∃b a,a5=some ⟨b,a,none⟩/\b<w.heap.size/\w.cell? ⟨b,a+(t*4+r),none⟩=some (.int .i64 ((m.th t).regs.getD r 0)):=by
 have d:t<m.thr.length:=by rw[h.lt];exact e
 obtain⟨b,a,f,c,g⟩:=h.r (t*4+r) (by rw[ML h.r4];omega)
 exact⟨b,a,f,c,by rw[g,Qr h.r4 i d]⟩
theorem Cl {W:Xh} {g T:Nat} {d b a c:Xk} (h:W.heap[g]?=some (.cells #[d,b,a,c] T)):W.cell? ⟨g,0,none⟩=some d/\W.cell? ⟨g,1,none⟩=some b/\W.cell? ⟨g,2,none⟩=some a/\W.cell? ⟨g,3,none⟩=some c:=
 ⟨by simp[Xg,h],by simp[Xg,h],by simp[Xg,h],by simp[Xg,h]⟩
theorem Dv {W:Xh} {g T:Nat} {j e c f d v5 i b a:Xk} (h:W.heap[g]?=some (.cells #[j,e,c,f,d,v5,i,b,a] T)):W.cell? ⟨g,0,none⟩=some j/\W.cell? ⟨g,1,none⟩=some e/\W.cell? ⟨g,2,none⟩=some c/\W.cell? ⟨g,3,none⟩=some f/\W.cell? ⟨g,4,none⟩=some d/\W.cell? ⟨g,5,none⟩=some v5/\W.cell? ⟨g,6,none⟩=some i/\W.cell? ⟨g,7,none⟩=some b/\W.cell? ⟨g,8,none⟩=some a:=
 ⟨by simp[Xg,h],by simp[Xg,h],by simp[Xg,h],by simp[Xg,h],by simp[Xg,h],by simp[Xg,h],by simp[Xg,h],by simp[Xg,h],by simp[Xg,h]⟩
theorem FH (w:Xh) (x y:Obj) {W:Xh} (a:(w.alloc x).alloc y=W):Xm w.heap.size w W/\W.heap[w.heap.size]?=some x/\W.heap[w.heap.size+1]?=some y/\W.heap.size=w.heap.size+1+1:=by
 have b:(w.alloc x).heap.size=w.heap.size+1:=by show (w.heap.push _).size=_;simp
 refine⟨by rw[<-a];exact((Xq _ _).alloc (Xd _) _).alloc (by rw[b];omega) _,?_,?_,?_⟩
 ·rw[<-a,Xv _ _ _ (by rw[b];omega)];exact Xi w _
 ·have q:=Xi (w.alloc x) y;rw[b,a] at q;exact q
 ·rw[<-a];show ((w.heap.push _).push _).size=_;simp
theorem OX (w:Xh) (x y z:Obj) {W:Xh} (a:((w.alloc x).alloc y).alloc z=W):Xm w.heap.size w W/\W.heap[w.heap.size]?=some x/\W.heap[w.heap.size+1]?=some y/\W.heap[w.heap.size+1+1]?=some z/\W.heap.size=w.heap.size+1+1+1:=by
 obtain⟨V,c⟩:∃V,(w.alloc x).alloc y=V:=⟨_,rfl⟩;obtain⟨g,f,e,d⟩:=FH w x y c;rw[c] at a;have b:Xm V.heap.size V W:=by rw[<-a];exact(Xq _ _).alloc (Xd _) _
 refine⟨g.trans (b.mono (by omega)),(b.block _ (by omega)).trans f,(b.block _ (by omega)).trans e,?_,?_⟩
 ·have q:=Xi V z;rw[d,a] at q;exact q
 ·rw[<-a];show (V.heap.push _).size=_;simp[d]
theorem Cv {n:Nat} (h:n<2000000):XN ((n:Int))=(n:Int):=by unfold XN;omega
theorem KN {c0 c1 c2 c3 c4 c5:Nat} (h:Ci w a0 a1 a2 a3 a4 a5 nv nf nl nt nr m) (C:nt<=4) {t:Nat} (l:t<nt) {r:Bool} {n:Int} (f:Fj r n) :
 XY Tryz.prog 132 #[.agg #[.slice a0 nv c0,.slice a1 nf c1,.slice a2 nl c2,.slice a3 nt c3,.slice a4 nt c4,.slice a5 nr c5],.int .i64 t,.agg #[.bool r,.int .i64 n]] w λe w'=>e = .returned (.int .i64 (Af (m.th t) r n))/\Xm w.heap.size w w':=by
 obtain⟨W,g⟩:∃W,(w.alloc (.cells #[.slice a0 nv c0,.slice a1 nf c1,.slice a2 nl c2,.slice a3 nt c3,.slice a4 nt c4,.slice a5 nr c5] 92)).alloc (.cells #[.bool r,.int .i64 n] 175)=W:=⟨_,rfl⟩;obtain⟨d,o,c,s⟩:=FH _ _ _ g;have v:=Aa d
 cases r with
 |false=>
  have A:W.cell? ⟨w.heap.size+1,0,none⟩=some (.bool false):=by simp[Xg,c]
  have z:W.cell? ⟨w.heap.size+1,1,none⟩=some (.int .i64 n):=by simp[Xg,c]
  clear o c s d h l f
  go_enter Tryz.func132,Tryz.ntmps132
  go_upto_region 1 with fail
  try rw[g]
  go_wp2_with fail
  go_ret
  exact⟨rfl,v.out⟩
 |true=>
  have A:W.cell? ⟨w.heap.size+1,0,none⟩=some (.bool true):=by simp[Xg,c]
  obtain⟨a,rfl⟩:∃a:Nat,n=a:=⟨n.toNat,by have:=f.1;omega⟩;have z:W.cell? ⟨w.heap.size+1,1,none⟩=some (.int .i64 a):=by simp[Xg,c]
  obtain⟨-,-,-,-,-,G⟩:=Bk o;have x:a<4:=by have:=f.2.2 rfl;omega
  obtain⟨b,E,rfl,-,y⟩:=(h.below d).KV l x;obtain⟨k,p⟩:∃k,t*4+a=k:=⟨_,rfl⟩;obtain⟨j,i⟩:∃q,t*4=q:=⟨_,rfl⟩;rw[p] at y;have B:(k:Int)<(nr:Int):=by have:=h.lr;omega
  have F:XN ((t:Int)*4)=(j:Int):=by rw[<-i];have:=Cv (n:=t*4) (by omega);push_cast at this |-;exact this
  have D:XN ((j:Int)+(a:Int))=(k:Int):=by rw[<-p,i];have:=Cv (n:=j+a) (by omega);push_cast at this |-;exact this
  have u:Af (m.th t) true (a:Int)=(m.th t).regs.getD a 0:=by unfold Af;rw[if_pos rfl,Int.toNat_natCast]
  rw[u];clear o c s d h l f p i x u
  go_enter Tryz.func132,Tryz.ntmps132
  go_upto_region 1 with fail
  try rw[g]
  go_wp2_with fail
  go_ret
  exact⟨rfl,v.out⟩
end
abbrev Be (w:Xh) (lo:Nat) (b0 b1 b2 b3 b4 b5:Option YV) (m:MS) (p1 p2 p3 p4 p5 p6:Nat):Prop:=Bu w lo b0 b1 b2 b3 b4 b5 m.vars m.flags m.locks (Ee m) (CR m) (EN m) p1 p2 p3 p4 p5 p6
section
variable {w w':Xh} {lo p1 p2 p3 p4 p5 p6:Nat} {b0 b1 b2 b3 b4 b5:Option YV} {m:MS}
theorem TH {t:Nat} (a:t<m.thr.length) {y:TS} (b:y.pc=(m.th t).pc):Ee (m.Ae t y)=Ee m:=by
 rw[TG];exact Sn (by rw[LX];exact a) (by rw[Oi m a,b])
theorem Be.Jd (h:Be w lo b0 b1 b2 b3 b4 b5 m p1 p2 p3 p4 p5 p6) {t r:Nat} (a:t<m.thr.length) (c:r<4) (b:R4 m):∃g,b5=some ⟨g,0,none⟩/\lo<=g/\g<p6/\w.cell? ⟨g,t*4+r,none⟩=some (.int .i64 ((m.th t).regs.getD r 0))/\w.frozen? ⟨g,t*4+r,none⟩=false/\∀v,Be (w.setCell ⟨g,t*4+r,none⟩ (.int .i64 v)) lo b0 b1 b2 b3 b4 b5 (m.Ae t {m.th t with regs:=(m.th t).regs.set r v}) p1 p2 p3 p4 p5 p6:=by
 obtain⟨g,o,l,j,e,f,k⟩:=Bu.VU h (i:=t*4+r) (by rw[ML b];omega);refine⟨g,o,l,j,by rw[e,Qr b c a],f,λv=>?_⟩;have q:=k v;rw[<-Ww b (y:={m.th t with regs:=(m.th t).regs.set r v}) c a rfl] at q;unfold Be;have n:Ee (m.Ae t {m.th t with regs:=(m.th t).regs.set r v})=Ee m:=TH a rfl;have d:CR (m.Ae t {m.th t with regs:=(m.th t).regs.set r v})=CR m:=Px a rfl;rw[n,d];exact q
theorem Be.var (h:Be w lo b0 b1 b2 b3 b4 b5 m p1 p2 p3 p4 p5 p6) {i:Nat} (a:i<m.vars.length):∃g,b0=some ⟨g,0,none⟩/\lo<=g/\g<p6/\w.cell? ⟨g,i,none⟩=some (.int .i64 (m.vars.getD i 0))/\w.frozen? ⟨g,i,none⟩=false/\∀v,Be (w.setCell ⟨g,i,none⟩ (.int .i64 v)) lo b0 b1 b2 b3 b4 b5 {m with vars:=m.vars.set i v} p1 p2 p3 p4 p5 p6:=Bu.VY h a
theorem Be.flag (h:Be w lo b0 b1 b2 b3 b4 b5 m p1 p2 p3 p4 p5 p6) {i:Nat} (a:i<m.flags.length):∃g,b1=some ⟨g,0,none⟩/\lo<=g/\g<p6/\w.cell? ⟨g,i,none⟩=some (.int .i64 (m.flags.getD i 0))/\w.frozen? ⟨g,i,none⟩=false/\∀v,Be (w.setCell ⟨g,i,none⟩ (.int .i64 v)) lo b0 b1 b2 b3 b4 b5 {m with flags:=m.flags.set i v} p1 p2 p3 p4 p5 p6:=Bu.VX h a
theorem Be.lock (h:Be w lo b0 b1 b2 b3 b4 b5 m p1 p2 p3 p4 p5 p6) {i:Nat} (a:i<m.locks.length):∃g,b2=some ⟨g,0,none⟩/\lo<=g/\g<p6/\w.cell? ⟨g,i,none⟩=some (.int .i64 (m.locks.getD i 0))/\w.frozen? ⟨g,i,none⟩=false/\∀v,Be (w.setCell ⟨g,i,none⟩ (.int .i64 v)) lo b0 b1 b2 b3 b4 b5 {m with locks:=m.locks.set i v} p1 p2 p3 p4 p5 p6:=Bu.Qg h a
theorem Be.pc (h:Be w lo b0 b1 b2 b3 b4 b5 m p1 p2 p3 p4 p5 p6) {i:Nat} (a:i<m.thr.length):∃g,b3=some ⟨g,0,none⟩/\lo<=g/\g<p6/\w.cell? ⟨g,i,none⟩=some (.int .i64 ((m.th i).pc:Int))/\w.frozen? ⟨g,i,none⟩=false/\∀v:Nat,Be (w.setCell ⟨g,i,none⟩ (.int .i64 (v:Int))) lo b0 b1 b2 b3 b4 b5 (m.Ae i {m.th i with pc:=v}) p1 p2 p3 p4 p5 p6:=by
 obtain⟨g,l,j,e,c,d,f⟩:=Bu.VW h (i:=i) (by rw[LX];exact a);refine⟨g,l,j,e,by rw[c,Oi m a],d,λv=>?_⟩;have q:=f v;unfold Be;have k:CR (m.Ae i {m.th i with pc:=v})=CR m:=Px a rfl;have b:EN (m.Ae i {m.th i with pc:=v})=EN m:=Qq a rfl;rw[TG,k,b];exact q
theorem Be.stat (h:Be w lo b0 b1 b2 b3 b4 b5 m p1 p2 p3 p4 p5 p6) {i:Nat} (a:i<m.thr.length):∃g,b4=some ⟨g,0,none⟩/\lo<=g/\g<p6/\w.cell? ⟨g,i,none⟩=some (.int .i64 (m.th i).ph)/\w.frozen? ⟨g,i,none⟩=false/\∀v,Be (w.setCell ⟨g,i,none⟩ (.int .i64 v)) lo b0 b1 b2 b3 b4 b5 (m.Ae i {m.th i with ph:=v}) p1 p2 p3 p4 p5 p6:=by
 obtain⟨g,l,j,e,c,d,f⟩:=Bu.Qf h (i:=i) (by rw[FI];exact a);refine⟨g,l,j,e,by rw[c,Jc m a],d,λv=>?_⟩;have q:=f v;unfold Be;have k:Ee (m.Ae i {m.th i with ph:=v})=Ee m:=TH a rfl;have b:EN (m.Ae i {m.th i with ph:=v})=EN m:=Qq a rfl;rw[Pw,k,b];exact q
theorem Be.doc (h:Be w lo b0 b1 b2 b3 b4 b5 m p1 p2 p3 p4 p5 p6) {nv nf nl nt nr:Nat} (a:m.vars.length=nv) (d:m.flags.length=nf) (c:m.locks.length=nl) (lt:m.thr.length=nt) (b:nt*4=nr) (e:R4 m):Ci w b0 b1 b2 b3 b4 b5 nv nf nl nt nr m:=
 ⟨h.r0.is,h.r1.is,h.r2.is,h.r3.is,h.r4.is,h.r5.is,a,d,c,lt,b,e⟩
theorem adh (w:Xh) (x y z u:Obj) {W:Xh} (a:(((w.alloc x).alloc y).alloc z).alloc u=W):Xm w.heap.size w W/\W.heap[w.heap.size]?=some x/\W.heap[w.heap.size+1]?=some y/\W.heap[w.heap.size+1+1]?=some z/\W.heap[w.heap.size+1+1+1]?=some u/\W.heap.size=w.heap.size+1+1+1+1:=by
 obtain⟨V,c⟩:∃V,((w.alloc x).alloc y).alloc z=V:=⟨_,rfl⟩;obtain⟨h,f,e,g,d⟩:=OX w x y z c;rw[c] at a;have b:Xm V.heap.size V W:=by rw[<-a];exact(Xq _ _).alloc (Xd _) _
 refine⟨h.trans (b.mono (by omega)),(b.block _ (by omega)).trans f,(b.block _ (by omega)).trans e,(b.block _ (by omega)).trans g,?_,?_⟩
 ·have q:=Xi V u;rw[d,a] at q;exact q
 ·rw[<-a];show (V.heap.push _).size=_;simp[d]
end
end Go.Proofs.YtdcacoifehkioaaGreatDoor
