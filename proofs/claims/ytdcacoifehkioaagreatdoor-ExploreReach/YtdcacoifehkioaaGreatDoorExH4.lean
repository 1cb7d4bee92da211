import Derived.Test.YtdcacoifehkioaaGreatDoorExH3
import Derived.Deep.RegionHeld3
import Derived.Deep.RegionLaw
import Derived.Test.YtdcacoifehkioaaGreatDoorExH2
import Derived.Test.YtdcacoifehkioaaGreatDoorExH0
open Go renaming World->Xh,Value->Xk,heap_setCell_same->Xj,Calls->XX,TypeId->YM,bytes->af0,info_parts->YN
open Go.RowKit.Below renaming heap_setCell->Xo,heap_alloc->Xv,refl->Xq
open Go.World renaming frozen?->XP,cell?->Xg,alloc_heap_new->Xi,ownsRow_nil->XG
open Nat renaming le_refl->Xd,sub_self->YK,zero_le->Xw
open Go.Builtin renaming append_->XN
open Option.some renaming inj->Yk
open List renaming length_map->Xp,map_append->XI,length_append->Xb,getElem?_append_left->Xz,getElem?_eq_some_iff->Xf,getElem?_append_right->XD,drop_eq_getElem_cons->X1,length_take->X5,take_length->Yo
open ByteArray renaming empty->Yv
open Bool renaming false_eq_true->Zi,and_eq_true->Ym,not_eq_false'->afx
open UInt8 renaming toNat_inj->Z5
set_option maxRecDepth 100000
set_option maxHeartbeats 1000000
set_option linter.unusedVariables false
set_option linter.unusedSimpArgs false
namespace Go.Proofs.YtdcacoifehkioaaGreatDoor
open Go.RowKit Go.Proofs.Cod
def RG.EA (G:RG) (ia:Nat) (i:Ad):RG:={G with I:=BY G.I ia i}
section
variable {w w':Xh} {tag tag':Nat->RT} {base rb nb lb:Nat} {G:RG}
theorem Al.EA (h:Al w tag base rb nb lb G) {d:Nat} {i i':Ad} (u:G.I d=some i) (p:w'.heap[d]?=some (.cells (Bv i') 108)) (m:∀b,b≠d->w'.heap[b]?=w.heap[b]?) (z:w'.heap.size=w.heap.size) (v:w'.os=w.os) (q:w'.tape=w.tape) (x:w'.output=w.output) :
 Al w' tag base rb nb lb (G.EA d i')/\Ah w tag w' tag:=by
 have f:=h.ins d i u;have o:Ah w tag w' tag:=⟨v,q,x,by omega,λ_ _=>rfl,λb _ t=>m b (Co t f.2 (by simp))⟩;refine⟨h.step (λg=>g = .ins) o (λb _ _ y=>m b (λe=>y (by rw[e];exact f.2))) (λb p s=>absurd (h.tlt b s).2 (by omega)) ((m rb (Co h.trd f.2 (by simp))).trans h.cell) (λk _=>.inl ⟨rfl,rfl,by simp⟩) (.inl ⟨rfl,rfl,by simp⟩) (.inl ⟨rfl,rfl,by simp⟩) (.inl ⟨rfl,by simp⟩) (by simp) (by simp) (by simp) (λa c n=>.inl ⟨n,by simp,by simp,by simp⟩) (λa j r=>?_) (λc n=>.inl n),o⟩;have l:BY G.I d i' a=some j:=r;unfold BY at l
 split at l
 ·rename_i e
  cases l
  rw[e];exact .inr ⟨p,f.2⟩
 ·rename_i e;exact .inl ⟨l,m a e⟩
theorem Al.MF (h:Al w tag base rb nb lb G) {a:Nat} {i i':Ad} (c:G.I a=some i) (k:Nat) (v:Xk) (e:(Bv i).setIfInBounds k v=Bv i') :
 Al (w.setCell ⟨a,k,none⟩ v) tag base rb nb lb (G.EA a i')/\Ah w tag (w.setCell ⟨a,k,none⟩ v) tag:=
 h.EA c (by rw[Xj w a k _ _ v (h.ins a i c).1,e]) (λb d=>Xo w ⟨a,k,none⟩ v b d) (by simp) rfl rfl rfl
theorem Al.Qh (h:Al w tag base rb nb lb G) {a:Nat} {i i':Ad} (f:G.I a=some i) (k k':Nat) (v c:Xk) (e:((Bv i).setIfInBounds k v).setIfInBounds k' c=Bv i') :
 Al ((w.setCell ⟨a,k,none⟩ v).setCell ⟨a,k',none⟩ c) tag base rb nb lb (G.EA a i')/\Ah w tag ((w.setCell ⟨a,k,none⟩ v).setCell ⟨a,k',none⟩ c) tag:=
 h.EA f (by rw[Xj _ a k' _ _ c (Xj w a k _ _ v (h.ins a i f).1),e]) (λb d=>(Xo _ ⟨a,k',none⟩ c b d).trans (Xo w ⟨a,k,none⟩ v b d)) (by simp) rfl rfl rfl
end
def Uu (nb lm ia:Nat) (i:Ad) (c:Int) (t:Tx) (G G':RG):Prop:=
 (c=114/\G'=G.EA ia {i with r:=(De t:Int)})\/(c=97/\G'=G.EA ia {i with aR:=As t,aN:=(Bg t:Int)})\/(c=98/\G'=G.EA ia {i with bR:=As t,bN:=(Bg t:Int)})\/
 (c=116/\KC ia nb 116 t G G')\/(c=108/\KC ia lm 108 t G G')\/(c≠114/\c≠97/\c≠98/\c≠116/\c≠108/\∃n:Nat,G.N t=some (c,n)/\G'=G.EA ia {i with x:=(n:Int)})
def Uv (c:Int) (t:Tx) (G:RG) (e:Int):Prop:=c≠114/\c≠97/\c≠98/\c≠116/\c≠108/\(∀n,G.N t≠some (c,n))/\e=5
theorem adE {w:Xh} {f:Nat->RT} {base rb u lb:Nat} {G:RG} (h:Al w f base rb u lb G) {a:Nat} {E:EW} (ha:G.bods.getLast?=some a) (hb:G.bods.length<1048576) (Z:G.B a=some E) {b:Nat} {i:Ad} (z:G.I b=some i) (W:G.las.length<1048576) (c:Int) (t:Tx) (q:Cy t c=true) :
 XX Tryz.prog 186 #[Ab rb,Ab b,.int .u8 c,.string (bs t)] w (Out w f base rb u lb G.line (Uu u E.lm b i c t G) (Uv c t G)):=by
 have p:=(h.ins b i z).1;have fr:∀k,w.frozen? ⟨b,k,none⟩=false:=λk=>by simp[XP,p]
 have am:=h.lt (h.ins b i z).2 (by simp)
 by_cases c1:c=114
 ·subst c1;have V:As t=true:=by simpa [Cy] using q
  have s:=QH t V w;have d:=Aa (h.MF z (i':={i with r:=(De t:Int)}) 1 (.int .i64 (De t)) rfl);have d1:w.cell? ⟨b,1,none⟩=some (.int .i64 i.r):=by simp[Xg,p,Bv]
  have f1:=fr 1;unfold Ab;clear h p fr q V
  go_enter Tryz.func186,Tryz.ntmps186
  go_wp2_with fail
  refine s.mono ?_;rintro e w1 ⟨rfl,rfl⟩
  go_wp2_with fail
  go_end0
  exact .inl ⟨f,_,rfl,d.out.1,d.out.2,.inl ⟨rfl,rfl⟩⟩
 ·by_cases c2:c=97
  ·subst c2;have H:(As t||CK t)=true:=by simpa [Cy] using q
   have s:=TZ t H w;have d:Hid (∀w1,Below w.heap.size w w1->w1.cell? ⟨b,2,none⟩=some (.bool i.aR)/\w1.cell? ⟨b,3,none⟩=some (.int .i64 i.aN)/\w1.frozen? ⟨b,2,none⟩=false/\w1.frozen? ⟨b,3,none⟩=false/\Hid (Al ((w1.setCell ⟨b,2,none⟩ (.bool (As t))).setCell ⟨b,3,none⟩ (.int .i64 (Bg t))) f base rb u lb (G.EA b {i with aR:=As t,aN:=(Bg t:Int)})/\Ah w f ((w1.setCell ⟨b,2,none⟩ (.bool (As t))).setCell ⟨b,3,none⟩ (.int .i64 (Bg t))) f)):=λw1 g=>by
    have j:=h.below g;have v:=(j.ins b i z).1;have:=j.Qh z (i':={i with aR:=As t,aN:=(Bg t:Int)}) 2 3 (.bool (As t)) (.int .i64 (Bg t)) rfl
    exact⟨by simp[Xg,v,Bv],by simp[Xg,v,Bv],by simp[XP,v],by simp[XP,v],this.1,(Ah.CH g).trans this.2⟩
   unfold Ab;clear h p fr q H
   go_enter Tryz.func186,Tryz.ntmps186
   go_wp2_with fail
   refine s.mono ?_;rintro e w1 ⟨rfl,g⟩;obtain⟨d2,d3,f2,f3,d⟩:=d.out w1 g
   go_wp2_with fail
   go_end0
   exact .inl ⟨f,_,rfl,d.out.1,d.out.2,.inr (.inl ⟨rfl,rfl⟩)⟩
  ·by_cases c3:c=98
   ·subst c3;have H:(As t||CK t)=true:=by simpa [Cy] using q
    have s:=TZ t H w;have d:Hid (∀w1,Below w.heap.size w w1->w1.cell? ⟨b,4,none⟩=some (.bool i.bR)/\w1.cell? ⟨b,5,none⟩=some (.int .i64 i.bN)/\w1.frozen? ⟨b,4,none⟩=false/\w1.frozen? ⟨b,5,none⟩=false/\Hid (Al ((w1.setCell ⟨b,4,none⟩ (.bool (As t))).setCell ⟨b,5,none⟩ (.int .i64 (Bg t))) f base rb u lb (G.EA b {i with bR:=As t,bN:=(Bg t:Int)})/\Ah w f ((w1.setCell ⟨b,4,none⟩ (.bool (As t))).setCell ⟨b,5,none⟩ (.int .i64 (Bg t))) f)):=λw1 g=>by
     have j:=h.below g;have v:=(j.ins b i z).1;have:=j.Qh z (i':={i with bR:=As t,bN:=(Bg t:Int)}) 4 5 (.bool (As t)) (.int .i64 (Bg t)) rfl
     exact⟨by simp[Xg,v,Bv],by simp[Xg,v,Bv],by simp[XP,v],by simp[XP,v],this.1,(Ah.CH g).trans this.2⟩
    unfold Ab;clear h p fr q H
    go_enter Tryz.func186,Tryz.ntmps186
    go_wp2_with fail
    refine s.mono ?_;rintro e w1 ⟨rfl,g⟩;obtain⟨d2,d3,f2,f3,d⟩:=d.out w1 g
    go_wp2_with fail
    go_end0
    exact .inl ⟨f,_,rfl,d.out.1,d.out.2,.inr (.inr (.inl ⟨rfl,rfl⟩))⟩
   ·by_cases c4:c=116
    ·subst c4;have s:=Te h W b u 116 t;have X:=h.Nh;unfold Ab at s |-;clear h p fr q
     go_enter Tryz.func186,Tryz.ntmps186
     go_wp2_with fail
     refine s.mono ?_;rintro e w1 ⟨rfl,y,A,j,P,R⟩
     go_wp2_with fail
     go_end0
     exact .inl ⟨y,A,rfl,j,P,.inr (.inr (.inr (.inl ⟨rfl,R⟩)))⟩
    ·by_cases c5:c=108
     ·subst c5;have Y:=Of h ha (by omega);have d:Hid (∀w1,Below w.heap.size w w1->w1.cell? ⟨a,1,none⟩=some (.map (some E.lm))/\XX Tryz.prog 214 #[Ab rb,Ab b,.map (some E.lm),.int .u8 108,.string (bs t)] w1 λC w'=>C = .returned (.tuple #[])/\∃y A,Al w' y base rb u lb A/\Ah w f w' y/\KC b E.lm 108 t G A):=λw1 g=>by
       have j:=h.below g;refine⟨by simp[Xg,(j.bodies a E Z).cell],(Te j W b E.lm 108 t).mono ?_⟩;rintro C w' ⟨F,y,A,q1,q2,q3⟩
       exact⟨F,y,A,q1,(Ah.CH g).trans q2,q3⟩
      unfold Ab at Y d |-;clear h p fr q
      go_enter Tryz.func186,Tryz.ntmps186
      go_wp2_with fail
      refine Y.mono ?_;rintro e w1 ⟨rfl,g⟩;obtain⟨d1,s⟩:=d.out w1 g
      go_wp2_with fail
      refine s.mono ?_;rintro e w2 ⟨rfl,y,A,j,P,R⟩
      go_wp2_with fail
      go_end0
      exact .inl ⟨y,A,rfl,j,P,.inr (.inr (.inr (.inr (.inl ⟨rfl,R⟩))))⟩
     ·have X:=h.Nh;have d0:=h.GH;have f6:=fr 6;have d6:w.cell? ⟨b,6,none⟩=some (.int .i64 i.x):=by simp[Xg,p,Bv]
      have Q:EK w.drew f u G.N:=h.names;have J:=Td Q c t G.line;have M:=Aa (⟨rfl,rfl,rfl,Xd _,λ_ _=>rfl,λ_ _ _=>rfl⟩:Ah w f w.drew f);have HQ:=Aa (⟨c1,c2,c3,c4,c5⟩:_/\_/\_/\_/\_);unfold Ab
      by_cases l:∃n,G.N t=some (c,n)
      ·obtain⟨n,l⟩:=l;have T:=J.mono (R':=λC w'=>C = .returned (.int .i64 n)/\w'=w.drew) (λC w' U=>by
        rcases U with⟨⟨m,D,F⟩|⟨D,_⟩,O⟩
        ·rw[l] at D;cases D;exact⟨F,O⟩
        ·exact absurd l (D n))
       have d:=Aa (Al.MF (w:=w.drew) (h.keep (λ_ _=>rfl) M.out) z (i':={i with x:=(n:Int)}) 6 (.int .i64 n) rfl);replace l:=Aa l;clear h p fr q Q J
       go_enter Tryz.func186,Tryz.ntmps186
       go_wp2_with fail
       go_region_with (refine T.mono ?_;rintro e w1 ⟨rfl,rfl⟩)
       all_goals
        go_wp2_with fail
        go_end0
        exact .inl ⟨f,_,rfl,d.out.1,M.out.trans d.out.2,.inr (.inr (.inr (.inr (.inr ⟨c1,c2,c3,c4,c5,n,l.out,rfl⟩))))⟩
      ·have T:=J.mono (R':=λC w'=>C = .panicked (FD 5 G.line)/\w'=w.drew) (λC w' U=>by
        rcases U with⟨⟨m,D,F⟩|⟨D,F⟩,O⟩
        ·exact absurd ⟨m,D⟩ l
        ·exact⟨F,O⟩)
       replace l:=Aa l;clear h p fr q Q J
       go_enter Tryz.func186,Tryz.ntmps186
       go_wp2_with fail
       refine wp_region_held_drew (S:=(λw'=>w'.cell? ⟨rb,7,none⟩=some (.map (some u))/\w'.cell? ⟨rb,0,none⟩=some (.int .i64 G.line))) (by kernel_rfl) ⟨X,d0⟩ (λo=>?_);refine tk 0 o ?_;refine tk 1 o ?_;refine tk 2 o ?_;refine tk 3 o ?_;refine tk 4 o ?_;refine tk 5 o ?_;refine tk 6 o ?_;refine tk 7 o ?_;refine tk 8 o ?_;refine tk 9 o ?_;refine tk 10 o ?_;refine rd 11 (λK hK=>?_)
       go_simp
       go_at_call 215
       refine T.mono ?_;rintro e w1 ⟨rfl,rfl⟩
       exact⟨rfl,.inr ⟨f,5,rfl,M.out,c1,c2,c3,c4,c5,λn e=>l.out ⟨n,e⟩,rfl⟩⟩
theorem WE {w:Xh} {d:Nat->RT} {base e:Nat} {c:RT} {v:Xk} {a:List Xk} {T:YM} {i:TypeInfo} {z:Xk} {r:Nat} (N:w.ownsRow base e 1 v a.length a) (h:∀g,v.ownBlock=some g->d g=c) (y:c≠.o) (H:Tryz.prog.underlying T=some (.slice e)) (C:Tryz.prog.info? e=some i) (J:i.zero=some z) (M:i.size=1) (D:i.bytes=r) (G:z.cells.size=1) (K:r<=64)
 (x:Xk) (u:x.oneCell'=true) (q:YM) (B:a.length<1048576) (s:base<=w.heap.size) (m:∀b,d b≠.o->b<w.heap.size) :
 ∃(g cap:Nat) (w':Xh) (j:Nat->RT),(XN #[T,T] q #[v,.slice (some ⟨w.heap.size,0,none⟩) 1 1]).run Tryz.prog (w.alloc (.cells #[x] e)) = .ok (.slice (some ⟨g,0,none⟩) (a.length+1) cap) w'/\
  w'.ownsRow base e 1 (.slice (some ⟨g,0,none⟩) (a.length+1) cap) (a.length+1) (a++[x])/\j g=c/\w'.os=w.os/\w'.tape=w.tape/\w'.output=w.output/\w.heap.size+1<=w'.heap.size/\
  (∀b,b<w.heap.size->d b≠c->w'.heap[b]?=w.heap[b]?)/\(∀b,b<=w.heap.size->j b=d b)/\(∀b,w.heap.size<=b->j b≠.o->b<w'.heap.size):=by
 obtain⟨g,cap,w',F,n,E,I,O,P,rb,t⟩:=Nb N H C J M D G K x u q B s;have A:=n.lt g rfl;refine⟨g,cap,w',Hg d (w.heap.size+1) c (.slice (some ⟨g,0,none⟩) (a.length+1) cap),F,n,?_,E,I,O,P,λb l f=>rb b l (λe=>f (h b e)),λb l=>Hf (by omega),λb l f=>?_⟩
 ·rcases t with e|e
  ·have:=m g (by rw[h g e];exact y);rw[Hf (by omega)];exact h g e
  ·subst e;exact Mq rfl
 ·by_cases e:b=w.heap.size+1
  ·subst e
   by_cases p:g=w.heap.size+1
   ·rw[<-p];exact A.2
   ·exfalso;apply f
    unfold Hg;rw[FV,if_neg];intro k;have k:some g=some (w.heap.size+1):=k;exact p (Yk k)
  ·rw[Hf e] at f;have:=m b f;omega
def RG.code (G:RG) (a:Nat) (c:EW) (ia:Nat) (v:Xk):RG:={G with B:=BY G.B a {c with ins:=c.ins++[ia],cv:=v}}
section
variable {w w':Xh} {tag tag':Nat->RT} {base rb nb lb:Nat} {G:RG}
theorem Al.abn (h:Al w tag base rb nb lb G) (i:Ad):Al (w.alloc (.cells (Bv i) 108)) (CO tag w.heap.size .ins) base rb nb lb (G.EA w.heap.size i)/\Ah w tag (w.alloc (.cells (Bv i) 108)) (CO tag w.heap.size .ins):=by
 have m:Ah w tag (w.alloc (.cells (Bv i) 108)) (CO tag w.heap.size .ins):=⟨rfl,rfl,rfl,by simp,λb d=>Da _ (by omega),λb d _=>Xv w _ b d⟩;refine⟨h.step (λ_=>False) m (λb d _ _=>Xv w _ b d) (λb d l=>?_) ((Xv w _ rb (h.lt h.trd (by simp))).trans h.cell) (λk _=>.inl ⟨rfl,rfl,id⟩) (.inl ⟨rfl,rfl,id⟩) (.inl ⟨rfl,rfl,id⟩) (.inl ⟨rfl,id⟩) id id id (λa c g=>.inl ⟨g,id,id,id⟩) (λa j n=>?_) (λc g=>.inl g),m⟩
 ·unfold CO at l
  split at l
  ·simp;omega
  ·exact absurd (h.tlt b l).2 (by omega)
 ·have f:BY G.I w.heap.size i a=some j:=n;unfold BY at f
  split at f
  ·rename_i e
   cases f
   rw[e];exact .inr ⟨Xi w _,FV _ _ _⟩
  ·exact .inl ⟨f,Xv w _ a (h.lt (h.ins a j f).2 (by simp))⟩
theorem Al.code (h:Al w tag base rb nb lb G) {a:Nat} {c:EW} (O:G.B a=some c) (Q:c.ins.length<1048576) (m:Nat) :
 ∃g cap w3,(XN #[241,241] 241 #[c.cv,.slice (some ⟨w.heap.size,0,none⟩) 1 1]).run Tryz.prog (w.alloc (.cells #[Ab m] 244)) = .ok (.slice (some ⟨g,0,none⟩) (c.ins.length+1) cap) w3/\
  w3.cell? ⟨a,0,none⟩=some c.cv/\w3.frozen? ⟨a,0,none⟩=false/\
  ∃tag',Al (w3.setCell ⟨a,0,none⟩ (.slice (some ⟨g,0,none⟩) (c.ins.length+1) cap)) tag' base rb nb lb (G.code a c m (.slice (some ⟨g,0,none⟩) (c.ins.length+1) cap))/\Ah w tag (w3.setCell ⟨a,0,none⟩ (.slice (some ⟨g,0,none⟩) (c.ins.length+1) cap)) tag':=by
 have f:=h.bodies a c O;have F:=h.lt f.ta (by simp);have X:=h.g3;have I:∀b,tag b≠.o->b<w.heap.size:=λb l=>(h.tlt b l).2;obtain⟨Z,r,T,H,K⟩:=YN Tryz.infoIn;have E:=f.code;rw[show c.ins.length=(c.ins.map Ab).length by simp] at E;obtain⟨g,cap,w3,tag3,A,z,y,N,R,M,z3,v,p,J⟩:=WE E f.tcode (by simp) Tryz.underlying241 r T H K rfl (by omega) (Ab m) (by simp[Value.oneCell',Ab]) 241 (by simpa using Q) (by omega) I;rw[Xp] at A z;have u:w3.heap[a]?=w.heap[a]?:=v a F (by rw[f.ta];simp);have j:Ah w tag (w3.setCell ⟨a,0,none⟩ (.slice (some ⟨g,0,none⟩) (c.ins.length+1) cap)) tag3:=by
  refine⟨N,R,M,by simp;omega,λb l=>p b (by omega),λb l D=>?_⟩;rw[Xo w3 ⟨a,0,none⟩ _ b (Co D f.ta (by simp))];exact v b l (by rw[D];simp)
 have U:w3.cell? ⟨a,0,none⟩=some c.cv:=by simp[Xg,u,f.cell]
 refine⟨g,cap,w3,A,U,by simp[XP,u,f.cell],tag3,?_,j⟩;have n:∀b,b<w.heap.size->tag b≠.cd a->tag b≠.bd a->(w3.setCell ⟨a,0,none⟩ (.slice (some ⟨g,0,none⟩) (c.ins.length+1) cap)).heap[b]?=w.heap[b]?:=λb l C s=>by
  rw[Xo w3 ⟨a,0,none⟩ _ b (λe=>s (by have e:b=a:=e;rw[e];exact f.ta))];exact v b l C
 refine h.step (λx=>x = .cd a\/x = .bd a) j (λb l C s=>n b l (λe=>s (.inl e)) (λe=>s (.inr e))) (λb l W=>by simp only[World.size_setCell];exact J b l W) ((n rb (h.lt h.trd (by simp)) (by rw[h.trd];simp) (by rw[h.trd];simp)).trans h.cell) (λk aa=>.inl ⟨rfl,rfl,by simp⟩) (.inl ⟨rfl,rfl,by simp⟩) (.inl ⟨rfl,rfl,by simp⟩) (.inl ⟨rfl,by simp⟩) (by simp) (by simp) (by simp) (λb d t=>?_) (λb i r=>.inl ⟨r,?_⟩) (λd t=>.inl t)
 ·have q:BY G.B a {c with ins:=c.ins++[m],cv:=.slice (some ⟨g,0,none⟩) (c.ins.length+1) cap} b=some d:=t;unfold BY at q
  split at q
  ·rename_i e
   cases q
   rw[e];right;have Y:=z.lt g rfl;have V:g≠a:=λe=>by
    rw[e,p a (by omega),f.ta] at y
    cases y
   refine⟨by rw[Xj w3 a 0 _ _ _ (u.trans f.cell)];rfl,?_,?_,?_,?_,?_⟩
   ·have S:(c.ins++[m]).length=c.ins.length+1:=by simp
    show World.ownsRow _ base _ 1 _ (c.ins++[m]).length ((c.ins++[m]).map Ab);rw[S,XI];exact BA z λx j=>by
     have j:some g=some x:=j
     cases j
     exact Xo w3 ⟨a,0,none⟩ _ g V
   ·intro x j;have j:some g=some x:=j
    cases j
    exact y
   ·refine f.labs.kept (n c.lm (h.lt f.tl (by simp)) (by rw[f.tl];simp) (by rw[f.tl];simp)) λx j=>?_;have P:=h.lt j (by simp)
    exact⟨n x P (by rw[j];simp) (by rw[j];simp),(p x (by omega)).trans j⟩
   ·exact(p a (by omega)).trans f.ta
   ·exact(p c.lm (by have:=h.lt f.tl (by simp);omega)).trans f.tl
  ·rename_i e;exact .inl ⟨q,by simpa using e,by simpa using e,by simp⟩
 ·have:=h.ins b i r;exact n b (h.lt this.2 (by simp)) (by rw[this.2];simp) (by rw[this.2];simp)
end
def Ds (N:Tx->Option (Int×Nat)) (i:Ad) (p:Int×Tx):Option Ad:=
 if p.1=114 then some {i with r:=(De p.2:Int)} else if p.1=97 then some {i with aR:=As p.2,aN:=(Bg p.2:Int)} else if p.1=98 then some {i with bR:=As p.2,bN:=(Bg p.2:Int)}
 else if p.1=116 then some i else if p.1=108 then some i else match N p.2 with
  |some (k,n)=>if k=p.1 then some {i with x:=(n:Int)} else none
  |none=>none
def Ch (N:Tx->Option (Int×Nat)):Ad->List (Int×Tx)->Option Ad
 |i,[]=>some i
 |i,p::l=>match Ds N i p with
  |some i'=>Ch N i' l
  |none=>none
def Cc.key (c:Cc):Nat×Nat×Int×Tx×Int:=(c.ia,c.tb,c.kd,c.nm,c.ln)
def ED (nb lm ia:Nat) (l:Int) (p:Int×Tx):List (Nat×Nat×Int×Tx×Int):=if p.1=116 then [(ia,nb,p.1,p.2,l)] else if p.1=108 then [(ia,lm,p.1,p.2,l)] else []
def AT (ps:Tx) (ts:List Tx):List (Int×Tx):=(ps.map λc=>(c.toNat:Int)).zip ts
def CE (op:Tx):Ad:=⟨op,0,false,0,false,0,0⟩
def GM (l:List Ad):List Xk:=l.flatMap λi=>(Bv i).toList
def Jb (l:List (Tx×Xk)):List Xk:=l.flatMap λp=>[.string (bs p.1),p.2]
theorem Tryz.infoI7:(Tryz.prog.info? 108).map (λi=>(i.zero,i.size,i.bytes))=some (some (.agg #[.string Yv,.int .i64 0,.bool false,.int .i64 0,.bool false,.int .i64 0,.int .i64 0]),7,64):=by kernel_rfl
theorem Tryz.infoTh:(Tryz.prog.info? 122).map (λi=>(i.zero,i.size,i.bytes))=some (some (.agg #[.string Yv,.slice none 0 0]),2,40):=by kernel_rfl
theorem Oj {W:Xh} {b e j:Nat} {cs:Array Xk} {u:Xk} (h:W.heap[b]?=some (.cells cs e)) (c:cs[j]?=some u):W.cell? ((⟨b,0,none⟩:Addr).add j)=some u:=by
 by_cases a:j=0
 ·subst a;simp[Xg,Addr.add,h,c]
 ·simp[Xg,Addr.add,h,c,a]
theorem Ig {w:Xh} {base e d n:Nat} {v:Xk} {k:List Xk} {T:YM} {i:TypeInfo} {z:Xk} {h:Nat} (E:w.ownsRow base e d v n k) (y:Tryz.prog.underlying T=some (.slice e)) (q:Tryz.prog.info? e=some i) (A:i.zero=some z) (D:i.size=d) (s:i.bytes=h) (x:z.cells.size=d) (B:h<=64)
 (c:List Xk) (F:c.length=d) (o:∀u∈c,u.oneCell'=true) (m:YM) (H:n<1048576) (G:base<=w.heap.size) :
 ∃(g cap:Nat) (w':Xh),(XN #[T,T] m #[v,.slice (some ⟨w.heap.size,0,none⟩) 1 1]).run Tryz.prog (w.alloc (.cells c.toArray e)) = .ok (.slice (some ⟨g,0,none⟩) (n+1) cap) w'/\
  w'.ownsRow base e d (.slice (some ⟨g,0,none⟩) (n+1) cap) (n+1) (k++c)/\w'.os=w.os/\w'.tape=w.tape/\w'.output=w.output/\w.heap.size+1<=w'.heap.size/\
  (∀b,b<w.heap.size->v.ownBlock≠some b->w'.heap[b]?=w.heap[b]?)/\(v.ownBlock=some g\/g=w.heap.size+1):=by
 obtain⟨I,w',t,l,f,a⟩:=JS (P:=Tryz.prog) (w.alloc (.cells c.toArray e)) base T m e i z d h y q A D s x v n k (E.alloc _) ⟨w.heap.size,0,none⟩ 1 1 c (by omega) (by simp[F])
  (λj u r=>Oj (Xi w _) (by simpa using r)) o (by unfold maxLen;omega)
  (by have:(n+1)*h<=1048576*64:=Nat.mul_le_mul (by omega) B
      omega) (by simp;omega)
 obtain⟨g,cap,rfl⟩:=ownsRow_succ l;refine⟨g,cap,w',t,l,f.os,f.tape,f.output,by have:=f.size;simpa using this,λb p C=>(f.block b (by simp;omega) (λe=>C e.symm)).trans (Xv w _ b p),?_⟩
 rcases a with a|a
 ·exact .inl a.symm
 ·right;have a:some g=some (w.alloc (.cells c.toArray e)).heap.size:=a;rw[World.size_alloc] at a;exact Yk a
theorem FY {P:Program} {b:Array Oper} {o:Oper} {a:Act} {w:Xh} {K:Act->Xh->Prop} {Q:Exit->Act->Xh->Prop} {E:Prop}
 (g:o.guard=none) (s x:Operand) (t:YM) (i:o.op=Op.call {callee:=Callee.builtin Builtin.append,args := #[s,x],argTypes := #[t,t]}) {v u d:Xk} {w':Xh} {c:YM} (e:o.type=c)
 (f:a.eval s=v) (l:a.eval x=u) (h:(XN #[t,t] c #[v,u]).run P w = .ok d w') (k:K (a.put o.dst d) w'):if Region.wanted o (yielded b a.tmps)=true then Oper.wp P o a w K Q else E:=by
 have j:Region.wanted o (yielded b a.tmps)=true:=by simp[Region.wanted,g]
 rw[if_pos j];unfold Oper.wp;simp[execOp,i,resolve,invoke,builtin,f,l,e,h,Result.andThen];exact k
theorem At {w:Xh} {base e c n:Nat} {v:Xk} {d:List Xk} (h:w.ownsRow base e c v n d):∃a cap,v = .slice a n cap:=by
 rcases h.2 with⟨b,f⟩|⟨g,cap,i,b,_⟩
 ·exact⟨none,0,by rw[b,f]⟩
 ·exact⟨_,_,b⟩
theorem Dt {w:Xh} {base b e a n:Nat} {v:Xk} {c:List Xk} (h:w.ownsRow base e a v n c) (j:b<=base):w.ownsRow b e a v n c:=by
 refine⟨h.1,?_⟩
 rcases h.2 with d|⟨g,cap,f,i,k,rest⟩
 ·exact .inl d
 ·exact .inr ⟨g,cap,f,i,by omega,rest⟩
structure Iw (w1 w:Xh) (tb:Nat) (name:Tx) (cv:Xk) (is:List Ad):Prop where
 cell:w.heap[tb]?=some (.cells #[.string (bs name),cv] 122)
 row:w.ownsRow (tb+1) 108 7 cv is.length (GM is)
 os:w.os=w1.os
 tape:w.tape=w1.tape
 output:w.output=w1.output
 size:tb<w.heap.size
 old:∀b,b<tb->w.heap[b]?=w1.heap[b]?
theorem Iw.push {w1 w:Xh} {a:Nat} {name:Tx} {cv:Xk} {is:List Ad} (h:Iw w1 w a name cv is) (i:Ad) (p:is.length<1048576) :
 ∃g cap w3,(XN #[120,120] 120 #[cv,.slice (some ⟨w.heap.size,0,none⟩) 1 1]).run Tryz.prog (w.alloc (.cells (Bv i) 108)) = .ok (.slice (some ⟨g,0,none⟩) (is.length+1) cap) w3/\
  w3.cell? ⟨a,1,none⟩=some cv/\w3.frozen? ⟨a,1,none⟩=false/\w3.cell? ⟨a,0,none⟩=some (.string (bs name))/\Iw w1 (w3.setCell ⟨a,1,none⟩ (.slice (some ⟨g,0,none⟩) (is.length+1) cap)) a name (.slice (some ⟨g,0,none⟩) (is.length+1) cap) (is++[i])/\(∀b,b<a->w3.heap[b]?=w1.heap[b]?):=by
 obtain⟨D,q,z,m,n⟩:=YN Tryz.infoI7;have t:=h.size;obtain⟨g,cap,w3,s,f,r,y,A,E,rb,B⟩:=Ig h.row Tryz.underlying120 q z m n rfl (by omega) (Bv i).toList (by simp[Bv]) (by intro u j;simp[Bv] at j;rcases j with rfl|rfl|rfl|rfl|rfl|rfl|rfl<;>rfl) 120 p (by omega);have k:∀b,b<=a->cv.ownBlock≠some b:=λb d e=>by have:=(h.row.lt b e).1;omega
 have c:w3.heap[a]?=some (.cells #[.string (bs name),cv] 122):=(rb a t (k a (Xd _))).trans h.cell;have l:∀b,b<a->w3.heap[b]?=w1.heap[b]?:=λb d=>(rb b (by omega) (k b (by omega))).trans (h.old b d);refine⟨g,cap,w3,s,by simp[Xg,c],by simp[XP,c],by simp[Xg,c],⟨by rw[Xj w3 a 1 _ _ _ c];rfl,?_,r.trans h.os,y.trans h.tape,A.trans h.output,by simp;omega,λb d=>(Xo w3 ⟨a,1,none⟩ _ b (by show b≠a;omega)).trans (l b d)⟩,l⟩;have v:GM (is++[i])=GM is++(Bv i).toList:=by simp[GM]
 rw[Xb,v];refine BA f λx o=>?_;have C:=(f.lt x o).1;exact Xo w3 ⟨a,1,none⟩ _ x (by show x≠a;omega)
structure JD (w0 w:Xh) (rb nb lb:Nat) (G:RG) (thV:Xk) (L:List (Tx×Xk)) (C:List (List Ad)):Prop where
 cell:w.heap[rb]?=some (.cells #[.int .i64 G.line,G.V 118,G.V 102,G.V 109,thV,G.V 116,G.bV,.map (some nb),.map (some lb),G.lV] 145)
 row:w.ownsRow w0.heap.size 122 2 thV L.length (Jb L)
 codes:∀(i:Nat) (p:Tx×Xk) (is:List Ad),L[i]?=some p->C[i]?=some is->w.ownsRow w0.heap.size 108 7 p.2 is.length (GM is)
 len:C.length=L.length
 os:w.os=w0.os
 tape:w.tape=w0.tape
 output:w.output=w0.output
 size:w0.heap.size<=w.heap.size
 old:∀b,b<w0.heap.size->b≠rb->w.heap[b]?=w0.heap[b]?
theorem JD.push {c n w:Xh} {rb s lb:Nat} {G:RG} {f:Xk} {L:List (Tx×Xk)} {C:List (List Ad)} {nm:Tx} {cv:Xk} {is:List Ad} (h:JD c n rb s lb G f L C) (a:Iw n w n.heap.size nm cv is) (S:rb<c.heap.size) (N:L.length<1048576) :
 ∃g cap w3,(XN #[23,23] 23 #[f,.slice (some ⟨w.heap.size,0,none⟩) 1 1]).run Tryz.prog (w.alloc (.cells #[.string (bs nm),cv] 122)) = .ok (.slice (some ⟨g,0,none⟩) (L.length+1) cap) w3/\
  w3.cell? ⟨rb,4,none⟩=some f/\w3.frozen? ⟨rb,4,none⟩=false/\JD c (w3.setCell ⟨rb,4,none⟩ (.slice (some ⟨g,0,none⟩) (L.length+1) cap)) rb s lb G (.slice (some ⟨g,0,none⟩) (L.length+1) cap) (L++[(nm,cv)]) (C++[is]):=by
 obtain⟨i0,P,X,H,J⟩:=YN Tryz.infoTh;have ad:=h.size;have ab:=a.size;have M:w.heap[rb]?=n.heap[rb]?:=a.old rb (by omega);have E:w.ownsRow c.heap.size 122 2 f L.length (Jb L):=BA h.row λg e=>a.old g (h.row.lt g e).2;obtain⟨ca,ac,T⟩:=At a.row;obtain⟨g,cap,w3,O,t,R,U,Z,rz,r,rg⟩:=Ig E Tryz.underlying23 P X H J rfl (by omega) [.string (bs nm),cv] rfl (by rw[T];simp[Value.oneCell']) 23 N (by omega);have D:∀b,b<c.heap.size->f.ownBlock≠some b:=λb j e=>by have:=(h.row.lt b e).1;omega
 have q:w3.heap[rb]?=some (.cells #[.int .i64 G.line,G.V 118,G.V 102,G.V 109,f,G.V 116,G.bV,.map (some s),.map (some lb),G.lV] 145):=(r rb (by omega) (D rb S)).trans (M.trans h.cell);have B:∀{v:Xk} {l:List Ad} {b:Nat},w.ownsRow b 108 7 v l.length (GM l)->c.heap.size<=b->(w3.setCell ⟨rb,4,none⟩ (.slice (some ⟨g,0,none⟩) (L.length+1) cap)).ownsRow c.heap.size 108 7 v l.length (GM l):=λ{v l b} d j=>by
  refine Dt (BA d λx e=>?_) j;have K:=d.lt x e;rw[Xo w3 ⟨rb,4,none⟩ _ x (by show x≠rb;omega)];refine r x K.2 (λo=>?_)
  rcases d.2 with⟨rfl,_⟩|⟨y,c1,u1,rfl,_,Q,_⟩
  ·cases e
  ·rcases E.2 with⟨rfl,_⟩|⟨z,c2,u2,rfl,_,A,_⟩
   ·cases o
   ·have e:some y=some x:=e;have o:some z=some x:=o
    cases e;cases o
    rw[Q] at A;have:(108:Nat)=122:=by
     have:=Yk A;simp only[Obj.cells.injEq] at this;exact this.2.1
    omega
 refine⟨g,cap,w3,O,by simp[Xg,q],by simp[XP,q],⟨by rw[Xj w3 rb 4 _ _ _ q];rfl,?_,λi p I k m=>?_,by simp[h.len],R.trans (a.os.trans h.os),U.trans (a.tape.trans h.tape),Z.trans (a.output.trans h.output),by simp;omega,λb j u=>?_⟩⟩
 ·have W:Jb (L++[(nm,cv)])=Jb L++[.string (bs nm),cv]:=by simp[Jb]
  rw[Xb,W];refine BA t λx e=>?_;have:=(t.lt x e).1;exact Xo w3 ⟨rb,4,none⟩ _ x (by show x≠rb;omega)
 ·by_cases e:i<L.length
  ·rw[Xz e] at k;rw[Xz (by rw[h.len];exact e)] at m;have d:=h.codes i p I k m;exact B (BA d λx Y=>a.old x (d.lt x Y).2) (Xd _)
  ·have F:i=L.length:=by
    have:=(Xf.1 k).1
    simp at this;omega
   subst F;rw[XD (Xd _),YK] at k;rw[XD (by rw[h.len];exact Xd _),h.len,YK] at m
   cases k;cases m
   exact B a.row (by omega)
 ·rw[Xo w3 ⟨rb,4,none⟩ _ b u]
  exact(r b (by omega) (D b j)).trans ((a.old b (by omega)).trans (h.old b j u))
end Go.Proofs.YtdcacoifehkioaaGreatDoor
namespace Go.Proofs.YtdcacoifehkioaaGreatDoor
open Go.RowKit Go.Proofs.Cod
open Go.Lib (indexByte indexByte_ge)
theorem aeq (c b:UInt8) (l:Tx):BR c (b::l)=if b == c then [] else b::BR c l:=by
 unfold BR
 by_cases h:(b == c)=true
 ·simp[indexByte,h]
 ·have k:(b == c)=false:=by simpa using h
  simp only[indexByte,k,Zi,if_false]
  by_cases e:indexByte l c = -1
  ·simp[e]
  ·have m:=indexByte_ge l c;obtain⟨j,d⟩:∃j:Nat,indexByte l c=j:=⟨(indexByte l c).toNat,by omega⟩;rw[d];have g:((j:Int) == -1)=false:=by simp
   simp only[g,Zi,if_false];have a:¬((j:Int)+1 = -1):=by omega
   have i:¬((j:Int) = -1):=by omega
   have f:((j:Int)+1).toNat=j+1:=by omega
   simp[a,i,f]
def FT:List Tx->Tx->Tx->List Tx
 |L,w,[]=>if w.isEmpty then L else L++[w]
 |L,w,c::r=>if c == 35 then(if w.isEmpty then L else L++[w]) else if c == 32 then FT (if w.isEmpty then L else L++[w]) [] r else FT L (w++[c]) r
theorem UP (r:Tx):∀(L:List Tx) (w:Tx),∃p ps,Ar 32 (BR 35 r)=p::ps/\FT L w r=L++((w++p)::ps).filter (λp => !p.isEmpty):=by
 induction r with
 |nil=>
  intro L w;refine⟨[],[],by simp[BR,indexByte,Ar],?_⟩;unfold FT
  cases a:w.isEmpty<;>simp[a]
 |cons c r g=>
  intro L w;unfold FT;rw[aeq]
  by_cases b:(c == 35)=true
  ·rw[if_pos b,if_pos b];refine⟨[],[],rfl,?_⟩
   cases a:w.isEmpty<;>simp[a]
  ·rw[if_neg b,if_neg b]
   by_cases d:(c == 32)=true
   ·rw[if_pos d];obtain⟨p,ps,f,e⟩:=g (if w.isEmpty then L else L++[w]) [];refine⟨[],p::ps,?_,?_⟩
    ·conv=>lhs;unfold Ar
     rw[if_pos d,f]
    ·rw[e]
     cases a:w.isEmpty<;>simp[a]
   ·rw[if_neg d];obtain⟨p,ps,f,e⟩:=g L (w++[c]);refine⟨c::p,ps,?_,?_⟩
    ·conv=>lhs;unfold Ar
     rw[if_neg d,f]
    ·rw[e];simp
theorem UO (t:Tx):FT [] [] t=CQ t:=by
 obtain⟨p,ps,b,a⟩:=UP t [] [];rw[a];unfold CQ;rw[b];simp
theorem VI {c:UInt8} {u:Tx} (a:∀b,b∈u->(b == c)=false) (r:Tx):Ar c (u++c::r)=u::Ar c r:=by
 induction u with
 |nil=>simp[Ar]
 |cons b u d=>
  have f:(b == c)=false:=a b (by simp);show Ar c (b::(u++c::r))=_
  conv=>lhs;unfold Ar
  rw[f,d (λx e=>a x (by simp[e]))];rfl
theorem VJ {c:UInt8} {u:Tx} (a:∀b,b∈u->(b == c)=false):Ar c u=[u]:=by
 induction u with
 |nil=>simp[Ar]
 |cons b u d=>
  have f:(b == c)=false:=a b (by simp);unfold Ar;rw[f,d (λx e=>a x (by simp[e]))];rfl
structure Ht (w:Xh) (base:Nat) (wr:Xh) (v:Xk) (L:List Tx):Prop where
 row:wr.ownsRow base 9 1 v L.length (L.map BV)
 low:Below base w wr
theorem Ht.push {w wr:Xh} {base:Nat} {v:Xk} {L:List Tx} (h:Ht w base wr v L) (q:base<=w.heap.size) (x:Tx) (i:L.length<1048576):∃g cap w',(XN #[22,22] 22 #[v,.slice (some ⟨wr.heap.size,0,none⟩) 1 1]).run Tryz.prog (wr.alloc (.cells #[.string (bs x)] 9)) = .ok (.slice (some ⟨g,0,none⟩) (L.length+1) cap) w'/\Ht w base w' (.slice (some ⟨g,0,none⟩) (L.length+1) cap) (L++[x]):=by
 obtain⟨r,l,p,f,m⟩:=YN Tryz.infoTx;have a:=h.row;have e:L.length=(L.map BV).length:=by simp
 rw[e] at a;have s:=h.low.size;obtain⟨g,cap,w',b,c,d,o,n,u,rb,t⟩:=Nb a Tryz.underlying22 l p f m rfl (by omega) (BV x) (by simp[Value.oneCell',BV]) 22 (by simpa using i) (by omega);rw[Xp] at b c;refine⟨g,cap,w',b,⟨by rw[Xb,XI];exact c,⟨d.trans h.low.os,o.trans h.low.tape,n.trans h.low.output,by omega,λk j=>(rb k (by omega) (λe=>?_)).trans (h.low.block k j)⟩⟩⟩;have:=(a.lt k e).1
 omega
theorem aai (t:Tx) (w:Xh) (G:t.length<1000000):XX Tryz.prog 50 #[.string (bs t)] w λe w'=>∃v,e = .returned v/\Ht w w.heap.size w' v (CQ t):=by
 have P:=Ba t;have C:=Aa (UO t);have x:Hid (Ht w w.heap.size w (.slice none 0 0) []):=⟨XG _ _ _ _,Xq _ _⟩
 go_enter Tryz.func50,Tryz.ntmps50
 go_wp2_with fail
 go_loopw [3,4,5] (λz y o wr=>∃(i:Nat) (L:List Tx) (u:Tx),i<=t.length/\o = .int .i64 i/\y = .string (bs u)/\u.length<=i/\L.length<=i/\FT L u (t.drop i)=CQ t/\Ht w w.heap.size wr z L) (λ_ _ o _=>t.length - (intOf o).toNat)
 case atStart=>exact⟨0,[],[],Xw _,rfl,rfl,Xd _,Xd _,C.out,x.out⟩
 case round=>
  clear x;obtain⟨i,L,u,H,rfl,rfl,J,I,a,d⟩:=hrel;obtain⟨M,O,rfl⟩:=At d.row;obtain⟨g,cap,w',k,f⟩:=d.push (Xd _) u (by omega)
  by_cases s:i<t.length
  ·have E:∀h,(bs t)[i]'h=t[i]:=λh=>Dj t i h;have Q:(i:Int)<(t.length:Int):=by omega
   have p:t.drop i=t[i]::t.drop (i+1):=X1 s;rw[p] at a;have D:(bs t).extract i (i+1)=bs [t[i]]:=by
    rw[GO,List.take_succ_eq_append_getElem s,List.drop_append,List.drop_eq_nil_of_le (by rw[X5];omega),X5];rw[show i - min i t.length=0 by omega];rfl
   have R:bs u++bs [t[i]]=bs (u++[t[i]]):=Bx u [t[i]];have K:wrap64 ((i:Int)+1)=(i:Int)+1:=IntWalk.wrap64_in _ (by omega);have S:(i:Int)+1<=(t.length:Int):=by omega
   have F:(i:Int)<=(i:Int)+1:=by omega
   have N:¬9223372036854775807<(bs u).size+(bs [t[i]]).size:=by rw[Ba,Ba];simp;omega
   replace p:=Aa p;unfold FT at a
   by_cases m:(t[i].toNat:Int)=35
   ·have n:(t[i] == 35)=true:=by
     have:t[i].toNat=35:=by omega
     exact beq_iff_eq.2 (Z5.1 this)
    rw[if_pos n] at a;have A:((t[i].toNat:Int) != 35)=false:=by simp[m]
    cases c:u.isEmpty with
    |true=>
     have j:(bs u).toList.isEmpty=true:=by rw[AK];exact c
     rw[c] at a;have a:L=CQ t:=a;have b:=Aa (⟨d,a⟩:_/\_);clear d a f
     go_wp2_with fail
     go_ret
     exact⟨_,rfl,by rw[<-b.out.2];exact b.out.1⟩
    |false=>
     have j:(bs u).toList.isEmpty=false:=by rw[AK];exact c
     rw[c] at a;have a:L++[u]=CQ t:=a;have b:=Aa (⟨f,a⟩:_/\_);clear d a f
     go_wp2_with (at_builtin;refine Dm rfl _ _ _ rfl rfl rfl rfl k ?_)
     go_ret
     exact⟨_,rfl,by rw[<-b.out.2];exact b.out.1⟩
   ·have n:¬(t[i] == 35)=true:=λe=>m (by rw[beq_iff_eq.1 e];rfl);rw[if_neg n] at a;have A:((t[i].toNat:Int) != 35)=true:=by simpa using m
    by_cases q:(t[i].toNat:Int)=32
    ·have l:(t[i] == 32)=true:=by
      have:t[i].toNat=32:=by omega
      exact beq_iff_eq.2 (Z5.1 this)
     rw[if_pos l] at a;have B:((t[i].toNat:Int) != 32)=false:=by simp[q]
     cases c:u.isEmpty with
     |true=>
      have j:(bs u).toList.isEmpty=true:=by rw[AK];exact c
      rw[c] at a;have a:FT L [] (t.drop (i+1))=CQ t:=a;have b:=Aa (⟨d,a⟩:_/\_);clear d a f
      go_wp2_with fail
      go_roundw
      case rel=>exact⟨i+1,L,[],by omega,by go_num,rfl,by simp,by omega,b.out.2,b.out.1⟩
      case measure=>simp[intOf];omega
     |false=>
      have j:(bs u).toList.isEmpty=false:=by rw[AK];exact c
      rw[c] at a;have a:FT (L++[u]) [] (t.drop (i+1))=CQ t:=a;have b:=Aa (⟨f,a⟩:_/\_);clear d a f
      go_wp2_with (at_builtin;refine Dm rfl _ _ _ rfl rfl rfl rfl k ?_)
      go_roundw
      case rel=>exact⟨i+1,L++[u],[],by omega,by go_num,rfl,by simp,by simp;omega,b.out.2,b.out.1⟩
      case measure=>simp[intOf];omega
    ·have l:¬(t[i] == 32)=true:=λe=>q (by rw[beq_iff_eq.1 e];rfl);rw[if_neg l] at a;have B:((t[i].toNat:Int) != 32)=true:=by simpa using q
     have b:=Aa (⟨d,a⟩:_/\_);clear d a f
     go_wp2_with fail
     go_roundw
     case rel=>exact⟨i+1,L,u++[t[i]],by omega,by go_num,rfl,by simp;omega,by omega,b.out.2,b.out.1⟩
     case measure=>simp[intOf];omega
  ·have r:i=t.length:=by omega
   rw[r,List.drop_length] at a;subst r;unfold FT at a
   cases c:u.isEmpty with
   |true=>
    have j:(bs u).toList.isEmpty=true:=by rw[AK];exact c
    rw[c] at a;have a:L=CQ t:=a;have b:=Aa (⟨d,a⟩:_/\_);clear d a f
    go_wp2_with fail
    go_ret
    exact⟨_,rfl,by rw[<-b.out.2];exact b.out.1⟩
   |false=>
    have j:(bs u).toList.isEmpty=false:=by rw[AK];exact c
    rw[c] at a;have a:L++[u]=CQ t:=a;have b:=Aa (⟨f,a⟩:_/\_);clear d a f
    go_wp2_with (at_builtin;refine Dm rfl _ _ _ rfl rfl rfl rfl k ?_)
    go_ret
    exact⟨_,rfl,by rw[<-b.out.2];exact b.out.1⟩
end Go.Proofs.YtdcacoifehkioaaGreatDoor
namespace Go.Proofs.YtdcacoifehkioaaGreatDoor
open Go.RowKit Go.Proofs.Cod
def OB (c:UInt8) (t:Tx) (a b:Nat):Prop:=∀j,a<=j->j<b->(h:j<t.length)->(t[j] == c)=false
theorem QY {t:Tx} {a b:Nat} {c:UInt8} (h:OB c t a b):∀x,x∈(t.take b).drop a->(x == c)=false:=λx j=>by
 obtain⟨k,f⟩:=List.getElem?_of_mem j;rw[List.getElem?_drop] at f;obtain⟨i,e⟩:=Xf.1 f;have d:a+k<b/\a+k<t.length:=by rw[X5] at i;omega
 have g:t[a+k]'d.2=x:=by rw[<-e,List.getElem_take]
 rw[<-g];exact h (a+k) (by omega) d.1 d.2
theorem aam (t:Tx) (w:Xh) (N:t.length<1000000):XX Tryz.prog 49 #[.string (bs t)] w λe w'=>∃v,e = .returned v/\Ht w w.heap.size w' v (Ar 10 t):=by
 have U:=Ba t;have x:Hid (Ht w w.heap.size w (.slice none 0 0) []):=⟨XG _ _ _ _,Xq _ _⟩
 go_enter Tryz.func49,Tryz.ntmps49
 go_wp2_with fail
 go_loopw [3,4,5] (λG B q wr=>∃(i a:Nat) (L:List Tx),q = .int .i64 i/\B = .int .i64 a/\L.length<=i/\a<=i/\Ht w w.heap.size wr G L/\((i<=t.length/\Ar 10 t=L++Ar 10 (t.drop a)/\OB 10 t a i)\/(i=t.length+1/\L=Ar 10 t))) (λ_ _ q _=>t.length+1 - (intOf q).toNat)
 case atStart=>exact⟨0,0,[],rfl,rfl,Xd _,Xd _,x.out,.inl ⟨Xw _,by simp,λj o z=>by omega⟩⟩
 case round=>
  clear x;obtain⟨i,a,L,rfl,rfl,P,K,c,C⟩:=hrel;obtain⟨R,S,rfl⟩:=At c.row
  rcases C with⟨u,d,l⟩|⟨u,s⟩
  ·obtain⟨g,cap,w',n,f⟩:=c.push (Xd _) ((t.take i).drop a) (by omega);have F:(i:Int)<=(t.length:Int):=by omega
   have Q:wrap64 ((i:Int)+1)=(i:Int)+1:=IntWalk.wrap64_in _ (by omega);have E:(bs t).extract a i=bs ((t.take i).drop a):=GO t a i;have T:(a:Int)<=(i:Int):=by omega
   by_cases D:i<t.length
   ·have M:∀h,(bs t)[i]'h=t[i]:=λh=>Dj t i h;have O:((i:Int) == (t.length:Int))=false:=by simp;omega
    have p:t.drop a=(t.take i).drop a++t[i]::t.drop (i+1):=by
     conv=>lhs;rw[<-List.take_append_drop i t,List.drop_append,X5]
     rw[show a - min i t.length=0 by omega,List.drop_zero,X1 D]
    by_cases r:(t[i].toNat:Int)=10
    ·have m:t[i]=10:=by
      have:t[i].toNat=10:=by omega
      exact Z5.1 this
     have k:Ar 10 t=(L++[(t.take i).drop a])++Ar 10 (t.drop (i+1)):=by
      rw[d,p,m,VI (QY l)];simp
     have H:((t[i].toNat:Int) == 10)=true:=by simpa using r
     have b:=Aa (⟨f,k⟩:_/\_);clear c f d l k p m
     go_wp2_with (at_builtin;refine Dm rfl _ _ _ rfl rfl rfl rfl n ?_)
     go_roundw
     case rel=>exact⟨i+1,i+1,_,by go_num,by go_num,by simp;omega,Xd _,b.out.1,.inl ⟨by omega,b.out.2,λj o z=>by omega⟩⟩
     case measure=>simp[intOf];omega
    ·have H:((t[i].toNat:Int) == 10)=false:=by simpa using r
     have m:(t[i] == 10)=false:=by
      cases I:t[i] == 10 with
      |false=>rfl
      |true=>exact absurd (by rw[beq_iff_eq.1 I];rfl) r
     have y:OB 10 t a (i+1):=λj o z J=>by
      by_cases e:j=i
      ·subst e;exact m
      ·exact l j o (by omega) J
     have b:=Aa (⟨c,d,y⟩:_/\_/\_);clear c f d l y p m
     go_wp2_with fail
     go_roundw
     case rel=>exact⟨i+1,a,L,by go_num,rfl,by omega,by omega,b.out.1,.inl ⟨by omega,b.out.2⟩⟩
     case measure=>simp[intOf];omega
   ·have A:i=t.length:=by omega
    subst A;have k:L++[(t.take t.length).drop a]=Ar 10 t:=by
     rw[d,Yo,VJ];have:=QY l;rw[Yo] at this;exact this
    rw[Yo] at k f n E;have b:=Aa (⟨f,k⟩:_/\_);clear c f d l k
    go_wp2_with (at_builtin;refine Dm rfl _ _ _ rfl rfl rfl rfl n ?_)
    go_roundw
    case rel=>exact⟨t.length+1,t.length+1,_,by go_num,by go_num,by simp;omega,Xd _,b.out.1,.inr ⟨rfl,b.out.2⟩⟩
    case measure=>simp[intOf]
  ·subst u;have F:¬((t.length:Int)+1<=(t.length:Int)):=by omega
   have b:=Aa (⟨c,s⟩:_/\_);clear c s
   go_wp2_with fail
   go_ret
   exact⟨_,rfl,by rw[<-b.out.2];exact b.out.1⟩
theorem aeF {k:IntKind} {a b:Int} (h:a=b):Ending.returned (.int k a) = .returned (.int k b):=by rw[h]
def Fb (t:Tx):Int:=if As t then((t.getD 1 0).toNat:Int) - 48 else -1
theorem aad (a b:UInt8):Fb [a,b]=if ((a.toNat:Int)=114/\48<=(b.toNat:Int)/\(b.toNat:Int)<=51) then(b.toNat:Int) - 48 else -1:=by
 unfold Fb As;simp only[Ym,decide_eq_true_eq,and_assoc]
 rfl
theorem acq {t:Tx} (h:t.length≠2):As t=false:=by
 match t,h with
 |[],_=>rfl
 |[_],_=>rfl
 |_::_::_::_,_=>rfl
theorem aae (t:Tx):(0<=Fb t)↔As t=true:=by
 unfold Fb
 cases c:As t with
 |false=>simp
 |true=>
  simp only[if_true,iff_true]
  match t,c with
  |[a,b],c=>
   unfold As at c;simp only[Ym,decide_eq_true_eq] at c;show 0<=(b.toNat:Int) - 48
   omega
theorem MT (t:Tx) (w:Xh):XX Tryz.prog 146 #[.string (bs t)] w λe w'=>e = .returned (.int .i64 (Fb t))/\w'=w:=by
 have i:=Ba t
 by_cases d:t.length=2
 ·obtain⟨a,b,rfl⟩:∃a b,t=[a,b]:=by
   match t,d with
   |[a,b],_=>exact⟨a,b,rfl⟩
  have m:∀h,(bs [a,b])[0]'h=a:=λh=>Dj _ 0 h;have l:∀h,(bs [a,b])[1]'h=b:=λh=>Dj _ 1 h;have j:(bs [a,b]).size=2:=i;have g:=Aa (aad a b);obtain⟨r,c⟩:∃r,Hid (Fb [a,b]=r):=⟨_,rfl⟩;rw[c.out]
  go_enter Tryz.func146,Tryz.ntmps146
  go_wp2
  all_goals
   go_ret
   refine⟨aeF ?_,rfl⟩;rw[<-c.out,g.out]
   split<;>omega
 ·have k:¬((t.length:Int)=2):=by omega
  have f:Fb t = -1:=by unfold Fb;rw[acq d];rfl
  rw[f]
  go_enter Tryz.func146,Tryz.ntmps146
  go_wp2
  all_goals
   go_ret
   exact⟨rfl,rfl⟩
theorem acs (t:Tx):Aw t=true↔1<=t.length/\t.length<=8/\As t=false/\t.all (λc=>Cx c||Bn c)=true/\Cx (t.headD 0)=true:=by
 unfold Aw;simp only[Ym,decide_eq_true_eq,Bool.not_eq_true',and_assoc]
theorem Le (t:Tx) (w:Xh):XX Tryz.prog 110 #[.string (bs t)] w λe w'=>e = .returned (.bool (Aw t))/\w'=w:=by
 have U:=Ba t
 by_cases u:t=[]
 ·subst u;have a:Aw []=false:=rfl;have j:bs []=Yv:=rfl;rw[a,j]
  go_enter Tryz.func110,Tryz.ntmps110
  go_wp2_with fail
  go_ret
  exact⟨rfl,rfl⟩
 ·have R:(bs t).toList.isEmpty=false:=by rw[AK];simpa using u
  have I:0<t.length:=List.length_pos_iff.2 u;have T:∀h,(bs t)[0]'h=t[0]:=λh=>Dj t 0 h;have B:Hid (t.headD 0=t[0]):=by
   match t,I with
   |c::r,_=>rfl
  by_cases z:t.length<=8
  ·have H:¬(8<(t.length:Int)):=by omega
   by_cases g:Cx t[0]=true
   ·obtain⟨P,Q⟩:97<=(t[0].toNat:Int)/\(t[0].toNat:Int)<=122:=by unfold Cx at g;simpa using g
    have J:¬((t[0].toNat:Int)<97):=by omega
    have M:¬(122<(t[0].toNat:Int)):=by omega
    have l:=MT t;have n:=aae t
    by_cases d:As t=true
    ·have a:Aw t=false:=Lx (λh=>by rw[d] at h;exact absurd h.2.2 (by simp));have m:0<=Fb t:=n.2 d;rw[a];generalize Fb t=r at l m;clear n d
     go_enter Tryz.func110,Tryz.ntmps110
     go_wp2_with fail
     refine(l _).mono ?_;rintro e w1 ⟨rfl,rfl⟩
     go_wp2_with fail
     go_ret
     exact⟨rfl,rfl⟩
    ·have m:¬(0<=Fb t):=λh=>d (n.1 h);have a:Hid (Aw t=t.all (λc=>Cx c||Bn c)):=by
      unfold Hid;rw[SD (by omega) z (by simpa using d),B.out,g];exact Bool.and_true _
     generalize Fb t=r at l m;have N:r<0:=by omega
     clear n d m
     go_enter Tryz.func110,Tryz.ntmps110
     go_wp2_with fail
     refine(l _).mono ?_;rintro e w1 ⟨rfl,rfl⟩
     go_wp2_with fail
     go_loopw [3] (λv wr=>∃i:Nat,i<=t.length/\v = .int .i64 i/\(t.take i).all (λc=>Cx c||Bn c)=true/\wr=w1) (λv _=>t.length - (intOf v).toNat)
     case atStart=>exact⟨0,Xw _,rfl,by simp,rfl⟩
     case round=>
      obtain⟨i,S,rfl,k,rfl⟩:=hrel
      by_cases A:i<t.length
      ·have j:∀h,(bs t)[i]'h=t[i]:=λh=>Dj t i h;have V:(i:Int)<(t.length:Int):=by omega
       have f:=Aa (⟨LX (p:=λc=>Cx c||Bn c) A,LY (p:=λc=>Cx c||Bn c) A,k⟩:_/\_/\_);clear k;have F:Hid (((97<=(t[i].toNat:Int)/\(t[i].toNat:Int)<=122)\/(48<=(t[i].toNat:Int)/\(t[i].toNat:Int)<=57))->(Cx t[i]||Bn t[i])=true):=λh=>by
        unfold Cx Bn
        simpa using h
       have q:Hid (¬((97<=(t[i].toNat:Int)/\(t[i].toNat:Int)<=122)\/(48<=(t[i].toNat:Int)/\(t[i].toNat:Int)<=57))->(Cx t[i]||Bn t[i])=false):=λh=>by
        cases j:(Cx t[i]||Bn t[i]) with
        |false=>rfl
        |true=>refine absurd ?_ h;unfold Cx Bn at j;simpa using j
       by_cases o:97<=(t[i].toNat:Int)
       ·by_cases G:(t[i].toNat:Int)<=122
        ·have O:¬(122<(t[i].toNat:Int)):=by omega
         go_wp2_with fail
         all_goals first
          |(go_roundw;(case rel=>exact⟨i+1,by omega,by go_num,by rw[f.out.1,f.out.2.2,F.out (by omega)];rfl,by trivial⟩);(case measure=>simp[intOf];omega))
          |(exfalso;rename_i b;first|omega|(simp only[afx,decide_eq_true_eq] at b;omega)|(simp_all<;>omega))
        ·have E:48<=(t[i].toNat:Int):=by omega
         have y:¬((t[i].toNat:Int)<=57):=by omega
         have s:decide ((t[i].toNat:Int)<=122)=false:=decide_eq_false G;have C:decide ((t[i].toNat:Int)<=57)=false:=decide_eq_false y;have x:(122<(t[i].toNat:Int)):=by omega
         have D:(57<(t[i].toNat:Int)):=by omega
         go_wp2_with fail
         all_goals first
          |(go_ret;exact⟨by rw[a.out,f.out.2.1 (q.out (by omega))];rfl,by trivial⟩)
          |(exfalso;rename_i b;first|omega|(simp only[afx,decide_eq_true_eq] at b;omega)|(simp_all<;>omega))
       ·by_cases E:48<=(t[i].toNat:Int)
        ·by_cases y:(t[i].toNat:Int)<=57
         ·have s:decide (97<=(t[i].toNat:Int))=false:=decide_eq_false o;have x:((t[i].toNat:Int)<97):=by omega
          go_wp2_with fail
          all_goals first
           |(go_roundw;(case rel=>exact⟨i+1,by omega,by go_num,by rw[f.out.1,f.out.2.2,F.out (by omega)];rfl,by trivial⟩);(case measure=>simp[intOf];omega))
           |(exfalso;rename_i b;first|omega|(simp only[afx,decide_eq_true_eq] at b;omega)|(simp_all<;>omega))
         ·have s:decide (97<=(t[i].toNat:Int))=false:=decide_eq_false o;have C:decide ((t[i].toNat:Int)<=57)=false:=decide_eq_false y;have x:((t[i].toNat:Int)<97):=by omega
          have D:(57<(t[i].toNat:Int)):=by omega
          go_wp2_with fail
          all_goals first
           |(go_ret;exact⟨by rw[a.out,f.out.2.1 (q.out (by omega))];rfl,by trivial⟩)
           |(exfalso;rename_i b;first|omega|(simp only[afx,decide_eq_true_eq] at b;omega)|(simp_all<;>omega))
        ·have s:decide (97<=(t[i].toNat:Int))=false:=decide_eq_false o;have C:decide (48<=(t[i].toNat:Int))=false:=decide_eq_false E;have x:((t[i].toNat:Int)<97):=by omega
         have D:((t[i].toNat:Int)<48):=by omega
         go_wp2_with fail
         all_goals first
          |(go_ret;exact⟨by rw[a.out,f.out.2.1 (q.out (by omega))];rfl,by trivial⟩)
          |(exfalso;rename_i b;first|omega|(simp only[afx,decide_eq_true_eq] at b;omega)|(simp_all<;>omega))
      ·have K:Hid (t.all (λc=>Cx c||Bn c)=true):=by rw[List.take_of_length_le (by omega)] at k;exact k
       clear k
       go_wp2_with fail
       go_ret
       exact⟨by rw[a.out,K.out];rfl,by trivial⟩
   ·have a:Aw t=false:=by
     cases d:Aw t with
     |false=>rfl
     |true=>have:=((acs t).1 d).2.2.2.2;rw[B.out] at this;exact absurd this g
    rw[a]
    by_cases J:(t[0].toNat:Int)<97
    ·go_enter Tryz.func110,Tryz.ntmps110
     go_wp2_with fail
     go_ret
     exact⟨rfl,rfl⟩
    ·have M:122<(t[0].toNat:Int):=by unfold Cx at g;simp at g;omega
     go_enter Tryz.func110,Tryz.ntmps110
     go_wp2_with fail
     go_ret
     exact⟨rfl,rfl⟩
  ·have H:8<(t.length:Int):=by omega
   have a:Aw t=false:=Lx (λh=>z h.2.1);rw[a]
   go_enter Tryz.func110,Tryz.ntmps110
   go_wp2_with fail
   go_ret
   exact⟨rfl,rfl⟩
end Go.Proofs.YtdcacoifehkioaaGreatDoor
