import Derived.Test.YtdcacoifehkioaaGreatDoorExA3
import Derived.Deep.RegionHeld3
import Derived.Deep.RegionLaw
import Derived.Test.YtdcacoifehkioaaGreatDoorExA2
import Derived.Test.YtdcacoifehkioaaGreatDoorExA0
open Go renaming World->Xh,Value->Xk,heap_setCell_same->Xj,Calls->XY,TypeId->YH,bytes->afM,info_parts->YI
open Go.RowKit.Below renaming heap_setCell->Xn,heap_alloc->Xv,refl->Xq
open Go.World renaming frozen?->XM,cell?->Xg,alloc_heap_new->Xi,ownsRow_nil->XE
open Nat renaming le_refl->Xd,sub_self->YR,zero_le->Xx
open Go.Builtin renaming append_->XL
open Option.some renaming inj->Ys
open List renaming length_map->Xp,map_append->XH,length_append->Xb,getElem?_append_left->XC,getElem?_eq_some_iff->Xf,getElem?_append_right->XK,drop_eq_getElem_cons->X4,length_take->Yc,take_length->Yp
open ByteArray renaming empty->Yv
open Bool renaming false_eq_true->Zh,and_eq_true->Yl,not_eq_false'->afj
set_option maxRecDepth 100000
set_option maxHeartbeats 1000000
set_option linter.unusedVariables false
set_option linter.unusedSimpArgs false
namespace Go.Proofs.YtdcacoifehkioaaGreatDoor
open Go.RowKit Go.Proofs.Cod
def RG.Ey (G:RG) (ia:Nat) (i:Ad):RG:={G with I:=BU G.I ia i}
section
variable {w w':Xh} {tag tag':Nat->RT} {base rb nb lb:Nat} {G:RG}
theorem Al.Ey (h:Al w tag base rb nb lb G) {d:Nat} {i i':Ad} (s:G.I d=some i) (o:w'.heap[d]?=some (.cells (Br i') 108)) (f:∀b,b≠d->w'.heap[b]?=w.heap[b]?) (z:w'.heap.size=w.heap.size) (y:w'.os=w.os) (q:w'.tape=w.tape) (x:w'.output=w.output) :
 Al w' tag base rb nb lb (G.Ey d i')/\Ah w tag w' tag:=by
 have m:=h.ins d i s;have p:Ah w tag w' tag:=⟨y,q,x,by omega,λ_ _=>rfl,λb _ u=>f b (Co u m.2 (by simp))⟩;refine⟨h.step (λg=>g = .ins) p (λb _ _ t=>f b (λe=>t (by rw[e];exact m.2))) (λb o v=>absurd (h.tlt b v).2 (by omega)) ((f rb (Co h.trd m.2 (by simp))).trans h.cell) (λk _=>.inl ⟨rfl,rfl,by simp⟩) (.inl ⟨rfl,rfl,by simp⟩) (.inl ⟨rfl,rfl,by simp⟩) (.inl ⟨rfl,by simp⟩) (by simp) (by simp) (by simp) (λa c n=>.inl ⟨n,by simp,by simp,by simp⟩) (λa j r=>?_) (λc n=>.inl n),p⟩;have l:BU G.I d i' a=some j:=r;unfold BU at l
 split at l
 ·rename_i e
  cases l
  rw[e];exact .inr ⟨o,m.2⟩
 ·rename_i e;exact .inl ⟨l,f a e⟩
theorem Al.MD (h:Al w tag base rb nb lb G) {a:Nat} {i i':Ad} (c:G.I a=some i) (k:Nat) (v:Xk) (e:(Br i).setIfInBounds k v=Br i') :
 Al (w.setCell ⟨a,k,none⟩ v) tag base rb nb lb (G.Ey a i')/\Ah w tag (w.setCell ⟨a,k,none⟩ v) tag:=
 h.Ey c (by rw[Xj w a k _ _ v (h.ins a i c).1,e]) (λb d=>Xn w ⟨a,k,none⟩ v b d) (by simp) rfl rfl rfl
theorem Al.Qd (h:Al w tag base rb nb lb G) {a:Nat} {i i':Ad} (f:G.I a=some i) (k k':Nat) (v c:Xk) (e:((Br i).setIfInBounds k v).setIfInBounds k' c=Br i') :
 Al ((w.setCell ⟨a,k,none⟩ v).setCell ⟨a,k',none⟩ c) tag base rb nb lb (G.Ey a i')/\Ah w tag ((w.setCell ⟨a,k,none⟩ v).setCell ⟨a,k',none⟩ c) tag:=
 h.Ey f (by rw[Xj _ a k' _ _ c (Xj w a k _ _ v (h.ins a i f).1),e]) (λb d=>(Xn _ ⟨a,k',none⟩ c b d).trans (Xn w ⟨a,k,none⟩ v b d)) (by simp) rfl rfl rfl
end
def Uh (nb lm ia:Nat) (i:Ad) (c:Int) (t:Tx) (G G':RG):Prop:=
 (c=114/\G'=G.Ey ia {i with r:=(De t:Int)})\/(c=97/\G'=G.Ey ia {i with aR:=At t,aN:=(Bd t:Int)})\/(c=98/\G'=G.Ey ia {i with bR:=At t,bN:=(Bd t:Int)})\/
 (c=116/\KA ia nb 116 t G G')\/(c=108/\KA ia lm 108 t G G')\/(c≠114/\c≠97/\c≠98/\c≠116/\c≠108/\∃n:Nat,G.N t=some (c,n)/\G'=G.Ey ia {i with x:=(n:Int)})
def Ui (c:Int) (t:Tx) (G:RG) (e:Int):Prop:=c≠114/\c≠97/\c≠98/\c≠116/\c≠108/\(∀n,G.N t≠some (c,n))/\e=5
theorem adv {w:Xh} {f:Nat->RT} {base rb u lb:Nat} {G:RG} (h:Al w f base rb u lb G) {a:Nat} {D:EV} (ha:G.bods.getLast?=some a) (hb:G.bods.length<1048576) (af:G.B a=some D) {b:Nat} {i:Ad} (z:G.I b=some i) (V:G.las.length<1048576) (c:Int) (t:Tx) (p:Cu t c=true) :
 XY Tryz.prog 186 #[Ab rb,Ab b,.int .u8 c,.string (bs t)] w (Out w f base rb u lb G.line (Uh u D.lm b i c t G) (Ui c t G)):=by
 have s:=(h.ins b i z).1;have fr:∀k,w.frozen? ⟨b,k,none⟩=false:=λk=>by simp[XM,s]
 have ar:=h.lt (h.ins b i z).2 (by simp)
 by_cases c1:c=114
 ·subst c1;have X:At t=true:=by simpa [Cu] using p
  have q:=QC t X w;have d:=Aa (h.MD z (i':={i with r:=(De t:Int)}) 1 (.int .i64 (De t)) rfl);have d1:w.cell? ⟨b,1,none⟩=some (.int .i64 i.r):=by simp[Xg,s,Br]
  have f1:=fr 1;unfold Ab;clear h s fr p X
  go_enter Tryz.func186,Tryz.ntmps186
  go_wp2_with fail
  refine q.mono ?_;rintro e w1 ⟨rfl,rfl⟩
  go_wp2_with fail
  go_end0
  exact .inl ⟨f,_,rfl,d.out.1,d.out.2,.inl ⟨rfl,rfl⟩⟩
 ·by_cases c2:c=97
  ·subst c2;have H:(At t||CI t)=true:=by simpa [Cu] using p
   have q:=TK t H w;have d:Hid (∀w1,Below w.heap.size w w1->w1.cell? ⟨b,2,none⟩=some (.bool i.aR)/\w1.cell? ⟨b,3,none⟩=some (.int .i64 i.aN)/\w1.frozen? ⟨b,2,none⟩=false/\w1.frozen? ⟨b,3,none⟩=false/\Hid (Al ((w1.setCell ⟨b,2,none⟩ (.bool (At t))).setCell ⟨b,3,none⟩ (.int .i64 (Bd t))) f base rb u lb (G.Ey b {i with aR:=At t,aN:=(Bd t:Int)})/\Ah w f ((w1.setCell ⟨b,2,none⟩ (.bool (At t))).setCell ⟨b,3,none⟩ (.int .i64 (Bd t))) f)):=λw1 g=>by
    have j:=h.below g;have v:=(j.ins b i z).1;have:=j.Qd z (i':={i with aR:=At t,aN:=(Bd t:Int)}) 2 3 (.bool (At t)) (.int .i64 (Bd t)) rfl
    exact⟨by simp[Xg,v,Br],by simp[Xg,v,Br],by simp[XM,v],by simp[XM,v],this.1,(Ah.CF g).trans this.2⟩
   unfold Ab;clear h s fr p H
   go_enter Tryz.func186,Tryz.ntmps186
   go_wp2_with fail
   refine q.mono ?_;rintro e w1 ⟨rfl,g⟩;obtain⟨d2,d3,f2,f3,d⟩:=d.out w1 g
   go_wp2_with fail
   go_end0
   exact .inl ⟨f,_,rfl,d.out.1,d.out.2,.inr (.inl ⟨rfl,rfl⟩)⟩
  ·by_cases c3:c=98
   ·subst c3;have H:(At t||CI t)=true:=by simpa [Cu] using p
    have q:=TK t H w;have d:Hid (∀w1,Below w.heap.size w w1->w1.cell? ⟨b,4,none⟩=some (.bool i.bR)/\w1.cell? ⟨b,5,none⟩=some (.int .i64 i.bN)/\w1.frozen? ⟨b,4,none⟩=false/\w1.frozen? ⟨b,5,none⟩=false/\Hid (Al ((w1.setCell ⟨b,4,none⟩ (.bool (At t))).setCell ⟨b,5,none⟩ (.int .i64 (Bd t))) f base rb u lb (G.Ey b {i with bR:=At t,bN:=(Bd t:Int)})/\Ah w f ((w1.setCell ⟨b,4,none⟩ (.bool (At t))).setCell ⟨b,5,none⟩ (.int .i64 (Bd t))) f)):=λw1 g=>by
     have j:=h.below g;have v:=(j.ins b i z).1;have:=j.Qd z (i':={i with bR:=At t,bN:=(Bd t:Int)}) 4 5 (.bool (At t)) (.int .i64 (Bd t)) rfl
     exact⟨by simp[Xg,v,Br],by simp[Xg,v,Br],by simp[XM,v],by simp[XM,v],this.1,(Ah.CF g).trans this.2⟩
    unfold Ab;clear h s fr p H
    go_enter Tryz.func186,Tryz.ntmps186
    go_wp2_with fail
    refine q.mono ?_;rintro e w1 ⟨rfl,g⟩;obtain⟨d2,d3,f2,f3,d⟩:=d.out w1 g
    go_wp2_with fail
    go_end0
    exact .inl ⟨f,_,rfl,d.out.1,d.out.2,.inr (.inr (.inl ⟨rfl,rfl⟩))⟩
   ·by_cases c4:c=116
    ·subst c4;have q:=SR h V b u 116 t;have W:=h.Nc;unfold Ab at q |-;clear h s fr p
     go_enter Tryz.func186,Tryz.ntmps186
     go_wp2_with fail
     refine q.mono ?_;rintro e w1 ⟨rfl,A,y,j,O,R⟩
     go_wp2_with fail
     go_end0
     exact .inl ⟨A,y,rfl,j,O,.inr (.inr (.inr (.inl ⟨rfl,R⟩)))⟩
    ·by_cases c5:c=108
     ·subst c5;have Y:=NY h ha (by omega);have d:Hid (∀w1,Below w.heap.size w w1->w1.cell? ⟨a,1,none⟩=some (.map (some D.lm))/\XY Tryz.prog 214 #[Ab rb,Ab b,.map (some D.lm),.int .u8 108,.string (bs t)] w1 λC w'=>C = .returned (.tuple #[])/\∃A y,Al w' A base rb u lb y/\Ah w f w' A/\KA b D.lm 108 t G y):=λw1 g=>by
       have j:=h.below g;refine⟨by simp[Xg,(j.bodies a D af).cell],(SR j V b D.lm 108 t).mono ?_⟩;rintro C w' ⟨F,A,y,Z,q2,q3⟩
       exact⟨F,A,y,Z,(Ah.CF g).trans q2,q3⟩
      unfold Ab at Y d |-;clear h s fr p
      go_enter Tryz.func186,Tryz.ntmps186
      go_wp2_with fail
      refine Y.mono ?_;rintro e w1 ⟨rfl,g⟩;obtain⟨d1,q⟩:=d.out w1 g
      go_wp2_with fail
      refine q.mono ?_;rintro e w2 ⟨rfl,A,y,j,O,R⟩
      go_wp2_with fail
      go_end0
      exact .inl ⟨A,y,rfl,j,O,.inr (.inr (.inr (.inr (.inl ⟨rfl,R⟩))))⟩
     ·have W:=h.Nc;have d0:=h.GE;have f6:=fr 6;have d6:w.cell? ⟨b,6,none⟩=some (.int .i64 i.x):=by simp[Xg,s,Br]
      have U:EK w.drew f u G.N:=h.names;have J:=SQ U c t G.line;have T:=Aa (⟨rfl,rfl,rfl,Xd _,λ_ _=>rfl,λ_ _ _=>rfl⟩:Ah w f w.drew f);have HQ:=Aa (⟨c1,c2,c3,c4,c5⟩:_/\_/\_/\_/\_);unfold Ab
      by_cases o:∃n,G.N t=some (c,n)
      ·obtain⟨n,o⟩:=o;have P:=J.mono (R':=λC w'=>C = .returned (.int .i64 n)/\w'=w.drew) (λC w' M=>by
        rcases M with⟨⟨m,E,F⟩|⟨E,_⟩,Q⟩
        ·rw[o] at E;cases E;exact⟨F,Q⟩
        ·exact absurd o (E n))
       have d:=Aa (Al.MD (w:=w.drew) (h.keep (λ_ _=>rfl) T.out) z (i':={i with x:=(n:Int)}) 6 (.int .i64 n) rfl);replace o:=Aa o;clear h s fr p U J
       go_enter Tryz.func186,Tryz.ntmps186
       go_wp2_with fail
       go_region_with (refine P.mono ?_;rintro e w1 ⟨rfl,rfl⟩)
       all_goals
        go_wp2_with fail
        go_end0
        exact .inl ⟨f,_,rfl,d.out.1,T.out.trans d.out.2,.inr (.inr (.inr (.inr (.inr ⟨c1,c2,c3,c4,c5,n,o.out,rfl⟩))))⟩
      ·have P:=J.mono (R':=λC w'=>C = .panicked (FC 5 G.line)/\w'=w.drew) (λC w' M=>by
        rcases M with⟨⟨m,E,F⟩|⟨E,F⟩,Q⟩
        ·exact absurd ⟨m,E⟩ o
        ·exact⟨F,Q⟩)
       replace o:=Aa o;clear h s fr p U J
       go_enter Tryz.func186,Tryz.ntmps186
       go_wp2_with fail
       refine wp_region_held_drew (S:=(λw'=>w'.cell? ⟨rb,7,none⟩=some (.map (some u))/\w'.cell? ⟨rb,0,none⟩=some (.int .i64 G.line))) (by kernel_rfl) ⟨W,d0⟩ (λl=>?_);refine tk 0 l ?_;refine tk 1 l ?_;refine tk 2 l ?_;refine tk 3 l ?_;refine tk 4 l ?_;refine tk 5 l ?_;refine tk 6 l ?_;refine tk 7 l ?_;refine tk 8 l ?_;refine tk 9 l ?_;refine tk 10 l ?_;refine rd 11 (λK hK=>?_)
       go_simp
       go_at_call 215
       refine P.mono ?_;rintro e w1 ⟨rfl,rfl⟩
       exact⟨rfl,.inr ⟨f,5,rfl,T.out,c1,c2,c3,c4,c5,λn e=>o.out ⟨n,e⟩,rfl⟩⟩
theorem Wo {w:Xh} {f:Nat->RT} {base e:Nat} {c:RT} {v:Xk} {a:List Xk} {T:YH} {i:TypeInfo} {z:Xk} {r:Nat} (I:w.ownsRow base e 1 v a.length a) (l:∀g,v.ownBlock=some g->f g=c) (C:c≠.o) (H:Tryz.prog.underlying T=some (.slice e)) (A:Tryz.prog.info? e=some i) (B:i.zero=some z) (J:i.size=1) (M:i.bytes=r) (P:z.cells.size=1) (K:r<=64)
 (x:Xk) (O:x.oneCell'=true) (p:YH) (y:a.length<1048576) (s:base<=w.heap.size) (q:∀b,f b≠.o->b<w.heap.size) :
 ∃(g cap:Nat) (w':Xh) (k:Nat->RT),(XL #[T,T] p #[v,.slice (some ⟨w.heap.size,0,none⟩) 1 1]).run Tryz.prog (w.alloc (.cells #[x] e)) = .ok (.slice (some ⟨g,0,none⟩) (a.length+1) cap) w'/\
  w'.ownsRow base e 1 (.slice (some ⟨g,0,none⟩) (a.length+1) cap) (a.length+1) (a++[x])/\k g=c/\w'.os=w.os/\w'.tape=w.tape/\w'.output=w.output/\w.heap.size+1<=w'.heap.size/\
  (∀b,b<w.heap.size->f b≠c->w'.heap[b]?=w.heap[b]?)/\(∀b,b<=w.heap.size->k b=f b)/\(∀b,w.heap.size<=b->k b≠.o->b<w'.heap.size):=by
 obtain⟨g,cap,w',t,m,u,N,D,E,rb,G⟩:=MX I H A B J M P K x O p y s;have F:=m.lt g rfl;refine⟨g,cap,w',Hd f (w.heap.size+1) c (.slice (some ⟨g,0,none⟩) (a.length+1) cap),t,m,?_,u,N,D,E,λb j d=>rb b j (λe=>d (l b e)),λb j=>Hc (by omega),λb j d=>?_⟩
 ·rcases G with e|e
  ·have:=q g (by rw[l g e];exact C);rw[Hc (by omega)];exact l g e
  ·subst e;exact Mr rfl
 ·by_cases e:b=w.heap.size+1
  ·subst e
   by_cases n:g=w.heap.size+1
   ·rw[<-n];exact F.2
   ·exfalso;apply d
    unfold Hd;rw[FT,if_neg];intro h;have h:some g=some (w.heap.size+1):=h;exact n (Ys h)
  ·rw[Hc e] at d;have:=q b d;omega
def RG.code (G:RG) (a:Nat) (c:EV) (ia:Nat) (v:Xk):RG:={G with B:=BU G.B a {c with ins:=c.ins++[ia],cv:=v}}
section
variable {w w':Xh} {tag tag':Nat->RT} {base rb nb lb:Nat} {G:RG}
theorem Al.abe (h:Al w tag base rb nb lb G) (i:Ad):Al (w.alloc (.cells (Br i) 108)) (CM tag w.heap.size .ins) base rb nb lb (G.Ey w.heap.size i)/\Ah w tag (w.alloc (.cells (Br i) 108)) (CM tag w.heap.size .ins):=by
 have m:Ah w tag (w.alloc (.cells (Br i) 108)) (CM tag w.heap.size .ins):=⟨rfl,rfl,rfl,by simp,λb d=>Da _ (by omega),λb d _=>Xv w _ b d⟩;refine⟨h.step (λ_=>False) m (λb d _ _=>Xv w _ b d) (λb d l=>?_) ((Xv w _ rb (h.lt h.trd (by simp))).trans h.cell) (λk _=>.inl ⟨rfl,rfl,id⟩) (.inl ⟨rfl,rfl,id⟩) (.inl ⟨rfl,rfl,id⟩) (.inl ⟨rfl,id⟩) id id id (λa c g=>.inl ⟨g,id,id,id⟩) (λa j n=>?_) (λc g=>.inl g),m⟩
 ·unfold CM at l
  split at l
  ·simp;omega
  ·exact absurd (h.tlt b l).2 (by omega)
 ·have f:BU G.I w.heap.size i a=some j:=n;unfold BU at f
  split at f
  ·rename_i e
   cases f
   rw[e];exact .inr ⟨Xi w _,FT _ _ _⟩
  ·exact .inl ⟨f,Xv w _ a (h.lt (h.ins a j f).2 (by simp))⟩
theorem Al.code (h:Al w tag base rb nb lb G) {a:Nat} {c:EV} (Q:G.B a=some c) (I:c.ins.length<1048576) (m:Nat) :
 ∃g cap w3,(XL #[241,241] 241 #[c.cv,.slice (some ⟨w.heap.size,0,none⟩) 1 1]).run Tryz.prog (w.alloc (.cells #[Ab m] 244)) = .ok (.slice (some ⟨g,0,none⟩) (c.ins.length+1) cap) w3/\
  w3.cell? ⟨a,0,none⟩=some c.cv/\w3.frozen? ⟨a,0,none⟩=false/\
  ∃tag',Al (w3.setCell ⟨a,0,none⟩ (.slice (some ⟨g,0,none⟩) (c.ins.length+1) cap)) tag' base rb nb lb (G.code a c m (.slice (some ⟨g,0,none⟩) (c.ins.length+1) cap))/\Ah w tag (w3.setCell ⟨a,0,none⟩ (.slice (some ⟨g,0,none⟩) (c.ins.length+1) cap)) tag':=by
 have f:=h.bodies a c Q;have M:=h.lt f.ta (by simp);have X:=h.g3;have T:∀b,tag b≠.o->b<w.heap.size:=λb l=>(h.tlt b l).2;obtain⟨i0,r,K,W,U⟩:=YI Tryz.infoIn;have E:=f.code;rw[show c.ins.length=(c.ins.map Ab).length by simp] at E;obtain⟨g,cap,w3,tag3,C,v,t,S,F,V,z3,z,n,N⟩:=Wo E f.tcode (by simp) Tryz.underlying241 r K W U rfl (by omega) (Ab m) (by simp[Value.oneCell',Ab]) 241 (by simpa using I) (by omega) T;rw[Xp] at C v;have u:w3.heap[a]?=w.heap[a]?:=z a M (by rw[f.ta];simp);have j:Ah w tag (w3.setCell ⟨a,0,none⟩ (.slice (some ⟨g,0,none⟩) (c.ins.length+1) cap)) tag3:=by
  refine⟨S,F,V,by simp;omega,λb l=>n b (by omega),λb l A=>?_⟩;rw[Xn w3 ⟨a,0,none⟩ _ b (Co A f.ta (by simp))];exact z b l (by rw[A];simp)
 have J:w3.cell? ⟨a,0,none⟩=some c.cv:=by simp[Xg,u,f.cell]
 refine⟨g,cap,w3,C,J,by simp[XM,u,f.cell],tag3,?_,j⟩;have p:∀b,b<w.heap.size->tag b≠.cd a->tag b≠.bd a->(w3.setCell ⟨a,0,none⟩ (.slice (some ⟨g,0,none⟩) (c.ins.length+1) cap)).heap[b]?=w.heap[b]?:=λb l D s=>by
  rw[Xn w3 ⟨a,0,none⟩ _ b (λe=>s (by have e:b=a:=e;rw[e];exact f.ta))];exact z b l D
 refine h.step (λx=>x = .cd a\/x = .bd a) j (λb l D s=>p b l (λe=>s (.inl e)) (λe=>s (.inr e))) (λb l R=>by simp only[World.size_setCell];exact N b l R) ((p rb (h.lt h.trd (by simp)) (by rw[h.trd];simp) (by rw[h.trd];simp)).trans h.cell) (λk Y=>.inl ⟨rfl,rfl,by simp⟩) (.inl ⟨rfl,rfl,by simp⟩) (.inl ⟨rfl,rfl,by simp⟩) (.inl ⟨rfl,by simp⟩) (by simp) (by simp) (by simp) (λb d y=>?_) (λb i r=>.inl ⟨r,?_⟩) (λd y=>.inl y)
 ·have q:BU G.B a {c with ins:=c.ins++[m],cv:=.slice (some ⟨g,0,none⟩) (c.ins.length+1) cap} b=some d:=y;unfold BU at q
  split at q
  ·rename_i e
   cases q
   rw[e];right;have Z:=v.lt g rfl;have H:g≠a:=λe=>by
    rw[e,n a (by omega),f.ta] at t
    cases t
   refine⟨by rw[Xj w3 a 0 _ _ _ (u.trans f.cell)];rfl,?_,?_,?_,?_,?_⟩
   ·have O:(c.ins++[m]).length=c.ins.length+1:=by simp
    show World.ownsRow _ base _ 1 _ (c.ins++[m]).length ((c.ins++[m]).map Ab);rw[O,XH];exact Bw v λx j=>by
     have j:some g=some x:=j
     cases j
     exact Xn w3 ⟨a,0,none⟩ _ g H
   ·intro x j;have j:some g=some x:=j
    cases j
    exact t
   ·refine f.labs.kept (p c.lm (h.lt f.tl (by simp)) (by rw[f.tl];simp) (by rw[f.tl];simp)) λx j=>?_;have P:=h.lt j (by simp)
    exact⟨p x P (by rw[j];simp) (by rw[j];simp),(n x (by omega)).trans j⟩
   ·exact(n a (by omega)).trans f.ta
   ·exact(n c.lm (by have:=h.lt f.tl (by simp);omega)).trans f.tl
  ·rename_i e;exact .inl ⟨q,by simpa using e,by simpa using e,by simp⟩
 ·have:=h.ins b i r;exact p b (h.lt this.2 (by simp)) (by rw[this.2];simp) (by rw[this.2];simp)
end
def Dp (N:Tx->Option (Int×Nat)) (i:Ad) (p:Int×Tx):Option Ad:=
 if p.1=114 then some {i with r:=(De p.2:Int)} else if p.1=97 then some {i with aR:=At p.2,aN:=(Bd p.2:Int)} else if p.1=98 then some {i with bR:=At p.2,bN:=(Bd p.2:Int)}
 else if p.1=116 then some i else if p.1=108 then some i else match N p.2 with
  |some (k,n)=>if k=p.1 then some {i with x:=(n:Int)} else none
  |none=>none
def Cf (N:Tx->Option (Int×Nat)):Ad->List (Int×Tx)->Option Ad
 |i,[]=>some i
 |i,p::l=>match Dp N i p with
  |some i'=>Cf N i' l
  |none=>none
def Ca.key (c:Ca):Nat×Nat×Int×Tx×Int:=(c.ia,c.tb,c.kd,c.nm,c.ln)
def EB (nb lm ia:Nat) (l:Int) (p:Int×Tx):List (Nat×Nat×Int×Tx×Int):=if p.1=116 then [(ia,nb,p.1,p.2,l)] else if p.1=108 then [(ia,lm,p.1,p.2,l)] else []
def AQ (ps:Tx) (ts:List Tx):List (Int×Tx):=(ps.map λc=>(c.toNat:Int)).zip ts
def CB (op:Tx):Ad:=⟨op,0,false,0,false,0,0⟩
def GL (l:List Ad):List Xk:=l.flatMap λi=>(Br i).toList
def IY (l:List (Tx×Xk)):List Xk:=l.flatMap λp=>[.string (bs p.1),p.2]
theorem Tryz.infoI7:(Tryz.prog.info? 108).map (λi=>(i.zero,i.size,i.bytes))=some (some (.agg #[.string Yv,.int .i64 0,.bool false,.int .i64 0,.bool false,.int .i64 0,.int .i64 0]),7,64):=by kernel_rfl
theorem Tryz.infoTh:(Tryz.prog.info? 122).map (λi=>(i.zero,i.size,i.bytes))=some (some (.agg #[.string Yv,.slice none 0 0]),2,40):=by kernel_rfl
theorem Od {W:Xh} {b e j:Nat} {cs:Array Xk} {u:Xk} (h:W.heap[b]?=some (.cells cs e)) (a:cs[j]?=some u):W.cell? ((⟨b,0,none⟩:Addr).add j)=some u:=by
 by_cases c:j=0
 ·subst c;simp[Xg,Addr.add,h,a]
 ·simp[Xg,Addr.add,h,a,c]
theorem Ic {w:Xh} {base e d n:Nat} {v:Xk} {k:List Xk} {T:YH} {i:TypeInfo} {z:Xk} {h:Nat} (x:w.ownsRow base e d v n k) (s:Tryz.prog.underlying T=some (.slice e)) (p:Tryz.prog.info? e=some i) (q:i.zero=some z) (y:i.size=d) (B:i.bytes=h) (F:z.cells.size=d) (A:h<=64)
 (c:List Xk) (E:c.length=d) (C:∀u∈c,u.oneCell'=true) (m:YH) (H:n<1048576) (G:base<=w.heap.size) :
 ∃(g cap:Nat) (w':Xh),(XL #[T,T] m #[v,.slice (some ⟨w.heap.size,0,none⟩) 1 1]).run Tryz.prog (w.alloc (.cells c.toArray e)) = .ok (.slice (some ⟨g,0,none⟩) (n+1) cap) w'/\
  w'.ownsRow base e d (.slice (some ⟨g,0,none⟩) (n+1) cap) (n+1) (k++c)/\w'.os=w.os/\w'.tape=w.tape/\w'.output=w.output/\w.heap.size+1<=w'.heap.size/\
  (∀b,b<w.heap.size->v.ownBlock≠some b->w'.heap[b]?=w.heap[b]?)/\(v.ownBlock=some g\/g=w.heap.size+1):=by
 obtain⟨I,w',o,l,f,a⟩:=JO (P:=Tryz.prog) (w.alloc (.cells c.toArray e)) base T m e i z d h s p q y B F v n k (x.alloc _) ⟨w.heap.size,0,none⟩ 1 1 c (by omega) (by simp[E])
  (λj u D=>Od (Xi w _) (by simpa using D)) C (by unfold maxLen;omega)
  (by have:(n+1)*h<=1048576*64:=Nat.mul_le_mul (by omega) A
      omega) (by simp;omega)
 obtain⟨g,cap,rfl⟩:=ownsRow_succ l;refine⟨g,cap,w',o,l,f.os,f.tape,f.output,by have:=f.size;simpa using this,λb r t=>(f.block b (by simp;omega) (λe=>t e.symm)).trans (Xv w _ b r),?_⟩
 rcases a with a|a
 ·exact .inl a.symm
 ·right;have a:some g=some (w.alloc (.cells c.toArray e)).heap.size:=a;rw[World.size_alloc] at a;exact Ys a
theorem FV {P:Program} {b:Array Oper} {o:Oper} {a:Act} {w:Xh} {K:Act->Xh->Prop} {Q:Exit->Act->Xh->Prop} {E:Prop}
 (k:o.guard=none) (s x:Operand) (t:YH) (l:o.op=Op.call {callee:=Callee.builtin Builtin.append,args := #[s,x],argTypes := #[t,t]}) {v u c:Xk} {w':Xh} {d:YH} (h:o.type=d)
 (e:a.eval s=v) (j:a.eval x=u) (g:(XL #[t,t] d #[v,u]).run P w = .ok c w') (i:K (a.put o.dst c) w'):if Region.wanted o (yielded b a.tmps)=true then Oper.wp P o a w K Q else E:=by
 have f:Region.wanted o (yielded b a.tmps)=true:=by simp[Region.wanted,k]
 rw[if_pos f];unfold Oper.wp;simp[execOp,l,resolve,invoke,builtin,e,j,h,g,Result.andThen];exact i
theorem As {w:Xh} {base e d n:Nat} {v:Xk} {f:List Xk} (h:w.ownsRow base e d v n f):∃a cap,v = .slice a n cap:=by
 rcases h.2 with⟨b,c⟩|⟨g,cap,i,b,_⟩
 ·exact⟨none,0,by rw[b,c]⟩
 ·exact⟨_,_,b⟩
theorem Dq {w:Xh} {base a e c n:Nat} {v:Xk} {b:List Xk} (h:w.ownsRow base e c v n b) (j:a<=base):w.ownsRow a e c v n b:=by
 refine⟨h.1,?_⟩
 rcases h.2 with d|⟨g,cap,f,i,k,rest⟩
 ·exact .inl d
 ·exact .inr ⟨g,cap,f,i,by omega,rest⟩
structure Iu (w1 w:Xh) (tb:Nat) (name:Tx) (cv:Xk) (is:List Ad):Prop where
 cell:w.heap[tb]?=some (.cells #[.string (bs name),cv] 122)
 row:w.ownsRow (tb+1) 108 7 cv is.length (GL is)
 os:w.os=w1.os
 tape:w.tape=w1.tape
 output:w.output=w1.output
 size:tb<w.heap.size
 old:∀b,b<tb->w.heap[b]?=w1.heap[b]?
theorem Iu.push {w1 w:Xh} {a:Nat} {name:Tx} {cv:Xk} {is:List Ad} (h:Iu w1 w a name cv is) (i:Ad) (p:is.length<1048576) :
 ∃g cap w3,(XL #[120,120] 120 #[cv,.slice (some ⟨w.heap.size,0,none⟩) 1 1]).run Tryz.prog (w.alloc (.cells (Br i) 108)) = .ok (.slice (some ⟨g,0,none⟩) (is.length+1) cap) w3/\
  w3.cell? ⟨a,1,none⟩=some cv/\w3.frozen? ⟨a,1,none⟩=false/\w3.cell? ⟨a,0,none⟩=some (.string (bs name))/\Iu w1 (w3.setCell ⟨a,1,none⟩ (.slice (some ⟨g,0,none⟩) (is.length+1) cap)) a name (.slice (some ⟨g,0,none⟩) (is.length+1) cap) (is++[i])/\(∀b,b<a->w3.heap[b]?=w1.heap[b]?):=by
 obtain⟨E,q,r,A,v⟩:=YI Tryz.infoI7;have m:=h.size;obtain⟨g,cap,w3,n,f,o,y,s,B,rb,D⟩:=Ic h.row Tryz.underlying120 q r A v rfl (by omega) (Br i).toList (by simp[Br]) (by intro u l;simp[Br] at l;rcases l with rfl|rfl|rfl|rfl|rfl|rfl|rfl<;>rfl) 120 p (by omega);have k:∀b,b<=a->cv.ownBlock≠some b:=λb c e=>by have:=(h.row.lt b e).1;omega
 have d:w3.heap[a]?=some (.cells #[.string (bs name),cv] 122):=(rb a m (k a (Xd _))).trans h.cell;have j:∀b,b<a->w3.heap[b]?=w1.heap[b]?:=λb c=>(rb b (by omega) (k b (by omega))).trans (h.old b c);refine⟨g,cap,w3,n,by simp[Xg,d],by simp[XM,d],by simp[Xg,d],⟨by rw[Xj w3 a 1 _ _ _ d];rfl,?_,o.trans h.os,y.trans h.tape,s.trans h.output,by simp;omega,λb c=>(Xn w3 ⟨a,1,none⟩ _ b (by show b≠a;omega)).trans (j b c)⟩,j⟩;have t:GL (is++[i])=GL is++(Br i).toList:=by simp[GL]
 rw[Xb,t];refine Bw f λx z=>?_;have C:=(f.lt x z).1;exact Xn w3 ⟨a,1,none⟩ _ x (by show x≠a;omega)
structure Jz (w0 w:Xh) (rb nb lb:Nat) (G:RG) (thV:Xk) (L:List (Tx×Xk)) (C:List (List Ad)):Prop where
 cell:w.heap[rb]?=some (.cells #[.int .i64 G.line,G.V 118,G.V 102,G.V 109,thV,G.V 116,G.bV,.map (some nb),.map (some lb),G.lV] 145)
 row:w.ownsRow w0.heap.size 122 2 thV L.length (IY L)
 codes:∀(i:Nat) (p:Tx×Xk) (is:List Ad),L[i]?=some p->C[i]?=some is->w.ownsRow w0.heap.size 108 7 p.2 is.length (GL is)
 len:C.length=L.length
 os:w.os=w0.os
 tape:w.tape=w0.tape
 output:w.output=w0.output
 size:w0.heap.size<=w.heap.size
 old:∀b,b<w0.heap.size->b≠rb->w.heap[b]?=w0.heap[b]?
theorem Jz.push {c m w:Xh} {rb q lb:Nat} {G:RG} {d:Xk} {L:List (Tx×Xk)} {C:List (List Ad)} {nm:Tx} {cv:Xk} {is:List Ad} (h:Jz c m rb q lb G d L C) (a:Iu m w m.heap.size nm cv is) (H:rb<c.heap.size) (K:L.length<1048576) :
 ∃g cap w3,(XL #[23,23] 23 #[d,.slice (some ⟨w.heap.size,0,none⟩) 1 1]).run Tryz.prog (w.alloc (.cells #[.string (bs nm),cv] 122)) = .ok (.slice (some ⟨g,0,none⟩) (L.length+1) cap) w3/\
  w3.cell? ⟨rb,4,none⟩=some d/\w3.frozen? ⟨rb,4,none⟩=false/\Jz c (w3.setCell ⟨rb,4,none⟩ (.slice (some ⟨g,0,none⟩) (L.length+1) cap)) rb q lb G (.slice (some ⟨g,0,none⟩) (L.length+1) cap) (L++[(nm,cv)]) (C++[is]):=by
 obtain⟨i0,M,N,T,R⟩:=YI Tryz.infoTh;have ab:=h.size;have aa:=a.size;have Z:w.heap[rb]?=m.heap[rb]?:=a.old rb (by omega);have E:w.ownsRow c.heap.size 122 2 d L.length (IY L):=Bw h.row λg e=>a.old g (h.row.lt g e).2;obtain⟨ca,ag,S⟩:=As a.row;obtain⟨g,cap,w3,Q,t,I,W,O,rz,s,rg⟩:=Ic E Tryz.underlying23 M N T R rfl (by omega) [.string (bs nm),cv] rfl (by rw[S];simp[Value.oneCell']) 23 K (by omega);have D:∀b,b<c.heap.size->d.ownBlock≠some b:=λb j e=>by have:=(h.row.lt b e).1;omega
 have r:w3.heap[rb]?=some (.cells #[.int .i64 G.line,G.V 118,G.V 102,G.V 109,d,G.V 116,G.bV,.map (some q),.map (some lb),G.lV] 145):=(s rb (by omega) (D rb H)).trans (Z.trans h.cell);have u:∀{v:Xk} {l:List Ad} {b:Nat},w.ownsRow b 108 7 v l.length (GL l)->c.heap.size<=b->(w3.setCell ⟨rb,4,none⟩ (.slice (some ⟨g,0,none⟩) (L.length+1) cap)).ownsRow c.heap.size 108 7 v l.length (GL l):=λ{v l b} f j=>by
  refine Dq (Bw f λx e=>?_) j;have Y:=f.lt x e;rw[Xn w3 ⟨rb,4,none⟩ _ x (by show x≠rb;omega)];refine s x Y.2 (λn=>?_)
  rcases f.2 with⟨rfl,_⟩|⟨y,c1,u1,rfl,_,U,_⟩
  ·cases e
  ·rcases E.2 with⟨rfl,_⟩|⟨z,c2,u2,rfl,_,A,_⟩
   ·cases n
   ·have e:some y=some x:=e;have n:some z=some x:=n
    cases e;cases n
    rw[U] at A;have:(108:Nat)=122:=by
     have:=Ys A;simp only[Obj.cells.injEq] at this;exact this.2.1
    omega
 refine⟨g,cap,w3,Q,by simp[Xg,r],by simp[XM,r],⟨by rw[Xj w3 rb 4 _ _ _ r];rfl,?_,λi p F k o=>?_,by simp[h.len],I.trans (a.os.trans h.os),W.trans (a.tape.trans h.tape),O.trans (a.output.trans h.output),by simp;omega,λb j B=>?_⟩⟩
 ·have P:IY (L++[(nm,cv)])=IY L++[.string (bs nm),cv]:=by simp[IY]
  rw[Xb,P];refine Bw t λx e=>?_;have:=(t.lt x e).1;exact Xn w3 ⟨rb,4,none⟩ _ x (by show x≠rb;omega)
 ·by_cases e:i<L.length
  ·rw[XC e] at k;rw[XC (by rw[h.len];exact e)] at o;have f:=h.codes i p F k o;exact u (Bw f λx J=>a.old x (f.lt x J).2) (Xd _)
  ·have X:i=L.length:=by
    have:=(Xf.1 k).1
    simp at this;omega
   subst X;rw[XK (Xd _),YR] at k;rw[XK (by rw[h.len];exact Xd _),h.len,YR] at o
   cases k;cases o
   exact u a.row (by omega)
 ·rw[Xn w3 ⟨rb,4,none⟩ _ b B]
  exact(s b (by omega) (D b j)).trans ((a.old b (by omega)).trans (h.old b j B))
end Go.Proofs.YtdcacoifehkioaaGreatDoor
namespace Go.Proofs.YtdcacoifehkioaaGreatDoor
open Go.RowKit Go.Proofs.Cod
open Go.Lib (indexByte indexByte_ge)
theorem aeg (c b:UInt8) (l:Tx):BQ c (b::l)=if b == c then [] else b::BQ c l:=by
 unfold BQ
 by_cases h:(b == c)=true
 ·simp[indexByte,h]
 ·have g:(b == c)=false:=by simpa using h
  simp only[indexByte,g,Zh,if_false]
  by_cases d:indexByte l c = -1
  ·simp[d]
  ·have m:=indexByte_ge l c;obtain⟨j,e⟩:∃j:Nat,indexByte l c=j:=⟨(indexByte l c).toNat,by omega⟩;rw[e];have k:((j:Int) == -1)=false:=by simp
   simp only[k,Zh,if_false];have a:¬((j:Int)+1 = -1):=by omega
   have i:¬((j:Int) = -1):=by omega
   have f:((j:Int)+1).toNat=j+1:=by omega
   simp[a,i,f]
def FR:List Tx->Tx->Tx->List Tx
 |L,w,[]=>if w.isEmpty then L else L++[w]
 |L,w,c::r=>if c == 35 then(if w.isEmpty then L else L++[w]) else if c == 32 then FR (if w.isEmpty then L else L++[w]) [] r else FR L (w++[c]) r
theorem UC (r:Tx):∀(L:List Tx) (w:Tx),∃p ps,Ar 32 (BQ 35 r)=p::ps/\FR L w r=L++((w++p)::ps).filter (λp => !p.isEmpty):=by
 induction r with
 |nil=>
  intro L w;refine⟨[],[],by simp[BQ,indexByte,Ar],?_⟩;unfold FR
  cases a:w.isEmpty<;>simp[a]
 |cons c r g=>
  intro L w;unfold FR;rw[aeg]
  by_cases d:(c == 35)=true
  ·rw[if_pos d,if_pos d];refine⟨[],[],rfl,?_⟩
   cases a:w.isEmpty<;>simp[a]
  ·rw[if_neg d,if_neg d]
   by_cases b:(c == 32)=true
   ·rw[if_pos b];obtain⟨p,ps,f,e⟩:=g (if w.isEmpty then L else L++[w]) [];refine⟨[],p::ps,?_,?_⟩
    ·conv=>lhs;unfold Ar
     rw[if_pos b,f]
    ·rw[e]
     cases a:w.isEmpty<;>simp[a]
   ·rw[if_neg b];obtain⟨p,ps,f,e⟩:=g L (w++[c]);refine⟨c::p,ps,?_,?_⟩
    ·conv=>lhs;unfold Ar
     rw[if_neg b,f]
    ·rw[e];simp
theorem UB (t:Tx):FR [] [] t=CP t:=by
 obtain⟨p,ps,b,a⟩:=UC t [] [];rw[a];unfold CP;rw[b];simp
theorem Vw {c:UInt8} {u:Tx} (a:∀b,b∈u->(b == c)=false) (r:Tx):Ar c (u++c::r)=u::Ar c r:=by
 induction u with
 |nil=>simp[Ar]
 |cons b u d=>
  have e:(b == c)=false:=a b (by simp);show Ar c (b::(u++c::r))=_
  conv=>lhs;unfold Ar
  rw[e,d (λx f=>a x (by simp[f]))];rfl
theorem Vx {c:UInt8} {u:Tx} (a:∀b,b∈u->(b == c)=false):Ar c u=[u]:=by
 induction u with
 |nil=>simp[Ar]
 |cons b u d=>
  have e:(b == c)=false:=a b (by simp);unfold Ar;rw[e,d (λx f=>a x (by simp[f]))];rfl
structure Hq (w:Xh) (base:Nat) (wr:Xh) (v:Xk) (L:List Tx):Prop where
 row:wr.ownsRow base 9 1 v L.length (L.map BS)
 low:Below base w wr
theorem Hq.push {w wr:Xh} {base:Nat} {v:Xk} {L:List Tx} (h:Hq w base wr v L) (q:base<=w.heap.size) (x:Tx) (f:L.length<1048576):∃g cap w',(XL #[22,22] 22 #[v,.slice (some ⟨wr.heap.size,0,none⟩) 1 1]).run Tryz.prog (wr.alloc (.cells #[.string (bs x)] 9)) = .ok (.slice (some ⟨g,0,none⟩) (L.length+1) cap) w'/\Hq w base w' (.slice (some ⟨g,0,none⟩) (L.length+1) cap) (L++[x]):=by
 obtain⟨s,j,m,i,p⟩:=YI Tryz.infoTx;have a:=h.row;have e:L.length=(L.map BS).length:=by simp
 rw[e] at a;have u:=h.low.size;obtain⟨g,cap,w',c,b,d,l,o,t,rb,r⟩:=MX a Tryz.underlying22 j m i p rfl (by omega) (BS x) (by simp[Value.oneCell',BS]) 22 (by simpa using f) (by omega);rw[Xp] at c b;refine⟨g,cap,w',c,⟨by rw[Xb,XH];exact b,⟨d.trans h.low.os,l.trans h.low.tape,o.trans h.low.output,by omega,λk n=>(rb k (by omega) (λe=>?_)).trans (h.low.block k n)⟩⟩⟩;have:=(a.lt k e).1
 omega
theorem WZ (t:Tx) (w:Xh) (I:t.length<1000000):XY Tryz.prog 50 #[.string (bs t)] w λe w'=>∃v,e = .returned v/\Hq w w.heap.size w' v (CP t):=by
 have K:=Bg t;have y:=Aa (UB t);have s:Hid (Hq w w.heap.size w (.slice none 0 0) []):=⟨XE _ _ _ _,Xq _ _⟩
 go_enter Tryz.func50,Tryz.ntmps50
 go_wp2_with fail
 go_loopw [3,4,5] (λz B l wr=>∃(i:Nat) (L:List Tx) (u:Tx),i<=t.length/\l = .int .i64 i/\B = .string (bs u)/\u.length<=i/\L.length<=i/\FR L u (t.drop i)=CP t/\Hq w w.heap.size wr z L) (λ_ _ l _=>t.length - (intOf l).toNat)
 case atStart=>exact⟨0,[],[],Xx _,rfl,rfl,Xd _,Xd _,y.out,s.out⟩
 case round=>
  clear s;obtain⟨i,L,u,J,rfl,rfl,P,Q,a,d⟩:=hrel;obtain⟨O,F,rfl⟩:=As d.row;obtain⟨g,cap,w',o,f⟩:=d.push (Xd _) u (by omega)
  by_cases r:i<t.length
  ·have N:∀h,(bs t)[i]'h=t[i]:=λh=>Dx t i h;have G:(i:Int)<(t.length:Int):=by omega
   have m:t.drop i=t[i]::t.drop (i+1):=X4 r;rw[m] at a;have S:(bs t).extract i (i+1)=bs [t[i]]:=by
    rw[Hp,List.take_succ_eq_append_getElem r,List.drop_append,List.drop_eq_nil_of_le (by rw[Yc];omega),Yc];rw[show i - min i t.length=0 by omega];rfl
   have H:bs u++bs [t[i]]=bs (u++[t[i]]):=BE u [t[i]];have M:wrap64 ((i:Int)+1)=(i:Int)+1:=IntWalk.wrap64_in _ (by omega);have E:(i:Int)+1<=(t.length:Int):=by omega
   have R:(i:Int)<=(i:Int)+1:=by omega
   have D:¬9223372036854775807<(bs u).size+(bs [t[i]]).size:=by rw[Bg,Bg];simp;omega
   replace m:=Aa m;unfold FR at a
   by_cases k:(t[i].toNat:Int)=35
   ·have n:(t[i] == 35)=true:=by
     have:t[i].toNat=35:=by omega
     exact beq_iff_eq.2 (UInt8.toNat_inj.1 this)
    rw[if_pos n] at a;have A:((t[i].toNat:Int) != 35)=false:=by simp[k]
    cases c:u.isEmpty with
    |true=>
     have j:(bs u).toList.isEmpty=true:=by rw[AL];exact c
     rw[c] at a;have a:L=CP t:=a;have b:=Aa (⟨d,a⟩:_/\_);clear d a f
     go_wp2_with fail
     go_ret
     exact⟨_,rfl,by rw[<-b.out.2];exact b.out.1⟩
    |false=>
     have j:(bs u).toList.isEmpty=false:=by rw[AL];exact c
     rw[c] at a;have a:L++[u]=CP t:=a;have b:=Aa (⟨f,a⟩:_/\_);clear d a f
     go_wp2_with (at_builtin;refine Dl rfl _ _ _ rfl rfl rfl rfl o ?_)
     go_ret
     exact⟨_,rfl,by rw[<-b.out.2];exact b.out.1⟩
   ·have n:¬(t[i] == 35)=true:=λe=>k (by rw[beq_iff_eq.1 e];rfl);rw[if_neg n] at a;have A:((t[i].toNat:Int) != 35)=true:=by simpa using k
    by_cases q:(t[i].toNat:Int)=32
    ·have p:(t[i] == 32)=true:=by
      have:t[i].toNat=32:=by omega
      exact beq_iff_eq.2 (UInt8.toNat_inj.1 this)
     rw[if_pos p] at a;have C:((t[i].toNat:Int) != 32)=false:=by simp[q]
     cases c:u.isEmpty with
     |true=>
      have j:(bs u).toList.isEmpty=true:=by rw[AL];exact c
      rw[c] at a;have a:FR L [] (t.drop (i+1))=CP t:=a;have b:=Aa (⟨d,a⟩:_/\_);clear d a f
      go_wp2_with fail
      go_roundw
      case rel=>exact⟨i+1,L,[],by omega,by go_num,rfl,by simp,by omega,b.out.2,b.out.1⟩
      case measure=>simp[intOf];omega
     |false=>
      have j:(bs u).toList.isEmpty=false:=by rw[AL];exact c
      rw[c] at a;have a:FR (L++[u]) [] (t.drop (i+1))=CP t:=a;have b:=Aa (⟨f,a⟩:_/\_);clear d a f
      go_wp2_with (at_builtin;refine Dl rfl _ _ _ rfl rfl rfl rfl o ?_)
      go_roundw
      case rel=>exact⟨i+1,L++[u],[],by omega,by go_num,rfl,by simp,by simp;omega,b.out.2,b.out.1⟩
      case measure=>simp[intOf];omega
    ·have p:¬(t[i] == 32)=true:=λe=>q (by rw[beq_iff_eq.1 e];rfl);rw[if_neg p] at a;have C:((t[i].toNat:Int) != 32)=true:=by simpa using q
     have b:=Aa (⟨d,a⟩:_/\_);clear d a f
     go_wp2_with fail
     go_roundw
     case rel=>exact⟨i+1,L,u++[t[i]],by omega,by go_num,rfl,by simp;omega,by omega,b.out.2,b.out.1⟩
     case measure=>simp[intOf];omega
  ·have x:i=t.length:=by omega
   rw[x,List.drop_length] at a;subst x;unfold FR at a
   cases c:u.isEmpty with
   |true=>
    have j:(bs u).toList.isEmpty=true:=by rw[AL];exact c
    rw[c] at a;have a:L=CP t:=a;have b:=Aa (⟨d,a⟩:_/\_);clear d a f
    go_wp2_with fail
    go_ret
    exact⟨_,rfl,by rw[<-b.out.2];exact b.out.1⟩
   |false=>
    have j:(bs u).toList.isEmpty=false:=by rw[AL];exact c
    rw[c] at a;have a:L++[u]=CP t:=a;have b:=Aa (⟨f,a⟩:_/\_);clear d a f
    go_wp2_with (at_builtin;refine Dl rfl _ _ _ rfl rfl rfl rfl o ?_)
    go_ret
    exact⟨_,rfl,by rw[<-b.out.2];exact b.out.1⟩
end Go.Proofs.YtdcacoifehkioaaGreatDoor
namespace Go.Proofs.YtdcacoifehkioaaGreatDoor
open Go.RowKit Go.Proofs.Cod
def Ou (c:UInt8) (t:Tx) (a b:Nat):Prop:=∀j,a<=j->j<b->(h:j<t.length)->(t[j] == c)=false
theorem QR {t:Tx} {a b:Nat} {c:UInt8} (h:Ou c t a b):∀x,x∈(t.take b).drop a->(x == c)=false:=λx j=>by
 obtain⟨k,f⟩:=List.getElem?_of_mem j;rw[List.getElem?_drop] at f;obtain⟨i,e⟩:=Xf.1 f;have d:a+k<b/\a+k<t.length:=by rw[Yc] at i;omega
 have g:t[a+k]'d.2=x:=by rw[<-e,List.getElem_take]
 rw[<-g];exact h (a+k) (by omega) d.1 d.2
theorem aad (t:Tx) (w:Xh) (O:t.length<1000000):XY Tryz.prog 49 #[.string (bs t)] w λe w'=>∃v,e = .returned v/\Hq w w.heap.size w' v (Ar 10 t):=by
 have Q:=Bg t;have s:Hid (Hq w w.heap.size w (.slice none 0 0) []):=⟨XE _ _ _ _,Xq _ _⟩
 go_enter Tryz.func49,Tryz.ntmps49
 go_wp2_with fail
 go_loopw [3,4,5] (λD C p wr=>∃(i a:Nat) (L:List Tx),p = .int .i64 i/\C = .int .i64 a/\L.length<=i/\a<=i/\Hq w w.heap.size wr D L/\((i<=t.length/\Ar 10 t=L++Ar 10 (t.drop a)/\Ou 10 t a i)\/(i=t.length+1/\L=Ar 10 t))) (λ_ _ p _=>t.length+1 - (intOf p).toNat)
 case atStart=>exact⟨0,0,[],rfl,rfl,Xd _,Xd _,s.out,.inl ⟨Xx _,by simp,λj r x=>by omega⟩⟩
 case round=>
  clear s;obtain⟨i,a,L,rfl,rfl,U,K,c,H⟩:=hrel;obtain⟨T,N,rfl⟩:=As c.row
  rcases H with⟨u,f,k⟩|⟨u,z⟩
  ·obtain⟨g,cap,w',q,l⟩:=c.push (Xd _) ((t.take i).drop a) (by omega);have A:(i:Int)<=(t.length:Int):=by omega
   have R:wrap64 ((i:Int)+1)=(i:Int)+1:=IntWalk.wrap64_in _ (by omega);have J:(bs t).extract a i=bs ((t.take i).drop a):=Hp t a i;have M:(a:Int)<=(i:Int):=by omega
   by_cases B:i<t.length
   ·have S:∀h,(bs t)[i]'h=t[i]:=λh=>Dx t i h;have P:((i:Int) == (t.length:Int))=false:=by simp;omega
    have n:t.drop a=(t.take i).drop a++t[i]::t.drop (i+1):=by
     conv=>lhs;rw[<-List.take_append_drop i t,List.drop_append,Yc]
     rw[show a - min i t.length=0 by omega,List.drop_zero,X4 B]
    by_cases o:(t[i].toNat:Int)=10
    ·have m:t[i]=10:=by
      have:t[i].toNat=10:=by omega
      exact UInt8.toNat_inj.1 this
     have d:Ar 10 t=(L++[(t.take i).drop a])++Ar 10 (t.drop (i+1)):=by
      rw[f,n,m,Vw (QR k)];simp
     have E:((t[i].toNat:Int) == 10)=true:=by simpa using o
     have b:=Aa (⟨l,d⟩:_/\_);clear c l f k d n m
     go_wp2_with (at_builtin;refine Dl rfl _ _ _ rfl rfl rfl rfl q ?_)
     go_roundw
     case rel=>exact⟨i+1,i+1,_,by go_num,by go_num,by simp;omega,Xd _,b.out.1,.inl ⟨by omega,b.out.2,λj r x=>by omega⟩⟩
     case measure=>simp[intOf];omega
    ·have E:((t[i].toNat:Int) == 10)=false:=by simpa using o
     have m:(t[i] == 10)=false:=by
      cases I:t[i] == 10 with
      |false=>rfl
      |true=>exact absurd (by rw[beq_iff_eq.1 I];rfl) o
     have y:Ou 10 t a (i+1):=λj r x F=>by
      by_cases e:j=i
      ·subst e;exact m
      ·exact k j r (by omega) F
     have b:=Aa (⟨c,f,y⟩:_/\_/\_);clear c l f k y n m
     go_wp2_with fail
     go_roundw
     case rel=>exact⟨i+1,a,L,by go_num,rfl,by omega,by omega,b.out.1,.inl ⟨by omega,b.out.2⟩⟩
     case measure=>simp[intOf];omega
   ·have G:i=t.length:=by omega
    subst G;have d:L++[(t.take t.length).drop a]=Ar 10 t:=by
     rw[f,Yp,Vx];have:=QR k;rw[Yp] at this;exact this
    rw[Yp] at d l q J;have b:=Aa (⟨l,d⟩:_/\_);clear c l f k d
    go_wp2_with (at_builtin;refine Dl rfl _ _ _ rfl rfl rfl rfl q ?_)
    go_roundw
    case rel=>exact⟨t.length+1,t.length+1,_,by go_num,by go_num,by simp;omega,Xd _,b.out.1,.inr ⟨rfl,b.out.2⟩⟩
    case measure=>simp[intOf]
  ·subst u;have A:¬((t.length:Int)+1<=(t.length:Int)):=by omega
   have b:=Aa (⟨c,z⟩:_/\_);clear c z
   go_wp2_with fail
   go_ret
   exact⟨_,rfl,by rw[<-b.out.2];exact b.out.1⟩
theorem aev {k:IntKind} {a b:Int} (h:a=b):Ending.returned (.int k a) = .returned (.int k b):=by rw[h]
def Fa (t:Tx):Int:=if At t then((t.getD 1 0).toNat:Int) - 48 else -1
theorem WS (a b:UInt8):Fa [a,b]=if ((a.toNat:Int)=114/\48<=(b.toNat:Int)/\(b.toNat:Int)<=51) then(b.toNat:Int) - 48 else -1:=by
 unfold Fa At;simp only[Yl,decide_eq_true_eq,and_assoc]
 rfl
theorem ack {t:Tx} (h:t.length≠2):At t=false:=by
 match t,h with
 |[],_=>rfl
 |[_],_=>rfl
 |_::_::_::_,_=>rfl
theorem WT (t:Tx):(0<=Fa t)↔At t=true:=by
 unfold Fa
 cases c:At t with
 |false=>simp
 |true=>
  simp only[if_true,iff_true]
  match t,c with
  |[a,b],c=>
   unfold At at c;simp only[Yl,decide_eq_true_eq] at c;show 0<=(b.toNat:Int) - 48
   omega
theorem MP (t:Tx) (w:Xh):XY Tryz.prog 146 #[.string (bs t)] w λe w'=>e = .returned (.int .i64 (Fa t))/\w'=w:=by
 have g:=Bg t
 by_cases c:t.length=2
 ·obtain⟨a,b,rfl⟩:∃a b,t=[a,b]:=by
   match t,c with
   |[a,b],_=>exact⟨a,b,rfl⟩
  have k:∀h,(bs [a,b])[0]'h=a:=λh=>Dx _ 0 h;have m:∀h,(bs [a,b])[1]'h=b:=λh=>Dx _ 1 h;have j:(bs [a,b]).size=2:=g;have i:=Aa (WS a b);obtain⟨r,d⟩:∃r,Hid (Fa [a,b]=r):=⟨_,rfl⟩;rw[d.out]
  go_enter Tryz.func146,Tryz.ntmps146
  go_wp2
  all_goals
   go_ret
   refine⟨aev ?_,rfl⟩;rw[<-d.out,i.out]
   split<;>omega
 ·have l:¬((t.length:Int)=2):=by omega
  have f:Fa t = -1:=by unfold Fa;rw[ack c];rfl
  rw[f]
  go_enter Tryz.func146,Tryz.ntmps146
  go_wp2
  all_goals
   go_ret
   exact⟨rfl,rfl⟩
theorem acm (t:Tx):Av t=true↔1<=t.length/\t.length<=8/\At t=false/\t.all (λc=>Ct c||Bj c)=true/\Ct (t.headD 0)=true:=by
 unfold Av;simp only[Yl,decide_eq_true_eq,Bool.not_eq_true',and_assoc]
theorem Le (t:Tx) (w:Xh):XY Tryz.prog 110 #[.string (bs t)] w λe w'=>e = .returned (.bool (Av t))/\w'=w:=by
 have T:=Bg t
 by_cases o:t=[]
 ·subst o;have a:Av []=false:=rfl;have k:bs []=Yv:=rfl;rw[a,k]
  go_enter Tryz.func110,Tryz.ntmps110
  go_wp2_with fail
  go_ret
  exact⟨rfl,rfl⟩
 ·have S:(bs t).toList.isEmpty=false:=by rw[AL];simpa using o
  have H:0<t.length:=List.length_pos_iff.2 o;have V:∀h,(bs t)[0]'h=t[0]:=λh=>Dx t 0 h;have D:Hid (t.headD 0=t[0]):=by
   match t,H with
   |c::r,_=>rfl
  by_cases B:t.length<=8
  ·have K:¬(8<(t.length:Int)):=by omega
   by_cases g:Ct t[0]=true
   ·obtain⟨O,Q⟩:97<=(t[0].toNat:Int)/\(t[0].toNat:Int)<=122:=by unfold Ct at g;simpa using g
    have M:¬((t[0].toNat:Int)<97):=by omega
    have I:¬(122<(t[0].toNat:Int)):=by omega
    have m:=MP t;have n:=WT t
    by_cases d:At t=true
    ·have a:Av t=false:=Ly (λh=>by rw[d] at h;exact absurd h.2.2 (by simp));have l:0<=Fa t:=n.2 d;rw[a];generalize Fa t=r at m l;clear n d
     go_enter Tryz.func110,Tryz.ntmps110
     go_wp2_with fail
     refine(m _).mono ?_;rintro e w1 ⟨rfl,rfl⟩
     go_wp2_with fail
     go_ret
     exact⟨rfl,rfl⟩
    ·have l:¬(0<=Fa t):=λh=>d (n.1 h);have a:Hid (Av t=t.all (λc=>Ct c||Bj c)):=by
      unfold Hid;rw[Sq (by omega) B (by simpa using d),D.out,g];exact Bool.and_true _
     generalize Fa t=r at m l;have N:r<0:=by omega
     clear n d l
     go_enter Tryz.func110,Tryz.ntmps110
     go_wp2_with fail
     refine(m _).mono ?_;rintro e w1 ⟨rfl,rfl⟩
     go_wp2_with fail
     go_loopw [3] (λs wr=>∃i:Nat,i<=t.length/\s = .int .i64 i/\(t.take i).all (λc=>Ct c||Bj c)=true/\wr=w1) (λs _=>t.length - (intOf s).toNat)
     case atStart=>exact⟨0,Xx _,rfl,by simp,rfl⟩
     case round=>
      obtain⟨i,R,rfl,j,rfl⟩:=hrel
      by_cases z:i<t.length
      ·have k:∀h,(bs t)[i]'h=t[i]:=λh=>Dx t i h;have P:(i:Int)<(t.length:Int):=by omega
       have f:=Aa (⟨LZ (p:=λc=>Ct c||Bj c) z,Ma (p:=λc=>Ct c||Bj c) z,j⟩:_/\_/\_);clear j;have A:Hid (((97<=(t[i].toNat:Int)/\(t[i].toNat:Int)<=122)\/(48<=(t[i].toNat:Int)/\(t[i].toNat:Int)<=57))->(Ct t[i]||Bj t[i])=true):=λh=>by
        unfold Ct Bj
        simpa using h
       have y:Hid (¬((97<=(t[i].toNat:Int)/\(t[i].toNat:Int)<=122)\/(48<=(t[i].toNat:Int)/\(t[i].toNat:Int)<=57))->(Ct t[i]||Bj t[i])=false):=λh=>by
        cases k:(Ct t[i]||Bj t[i]) with
        |false=>rfl
        |true=>refine absurd ?_ h;unfold Ct Bj at k;simpa using k
       by_cases q:97<=(t[i].toNat:Int)
       ·by_cases G:(t[i].toNat:Int)<=122
        ·have U:¬(122<(t[i].toNat:Int)):=by omega
         go_wp2_with fail
         all_goals first
          |(go_roundw;(case rel=>exact⟨i+1,by omega,by go_num,by rw[f.out.1,f.out.2.2,A.out (by omega)];rfl,by trivial⟩);(case measure=>simp[intOf];omega))
          |(exfalso;rename_i b;first|omega|(simp only[afj,decide_eq_true_eq] at b;omega)|(simp_all<;>omega))
        ·have F:48<=(t[i].toNat:Int):=by omega
         have v:¬((t[i].toNat:Int)<=57):=by omega
         have x:decide ((t[i].toNat:Int)<=122)=false:=decide_eq_false G;have C:decide ((t[i].toNat:Int)<=57)=false:=decide_eq_false v;have u:(122<(t[i].toNat:Int)):=by omega
         have E:(57<(t[i].toNat:Int)):=by omega
         go_wp2_with fail
         all_goals first
          |(go_ret;exact⟨by rw[a.out,f.out.2.1 (y.out (by omega))];rfl,by trivial⟩)
          |(exfalso;rename_i b;first|omega|(simp only[afj,decide_eq_true_eq] at b;omega)|(simp_all<;>omega))
       ·by_cases F:48<=(t[i].toNat:Int)
        ·by_cases v:(t[i].toNat:Int)<=57
         ·have x:decide (97<=(t[i].toNat:Int))=false:=decide_eq_false q;have u:((t[i].toNat:Int)<97):=by omega
          go_wp2_with fail
          all_goals first
           |(go_roundw;(case rel=>exact⟨i+1,by omega,by go_num,by rw[f.out.1,f.out.2.2,A.out (by omega)];rfl,by trivial⟩);(case measure=>simp[intOf];omega))
           |(exfalso;rename_i b;first|omega|(simp only[afj,decide_eq_true_eq] at b;omega)|(simp_all<;>omega))
         ·have x:decide (97<=(t[i].toNat:Int))=false:=decide_eq_false q;have C:decide ((t[i].toNat:Int)<=57)=false:=decide_eq_false v;have u:((t[i].toNat:Int)<97):=by omega
          have E:(57<(t[i].toNat:Int)):=by omega
          go_wp2_with fail
          all_goals first
           |(go_ret;exact⟨by rw[a.out,f.out.2.1 (y.out (by omega))];rfl,by trivial⟩)
           |(exfalso;rename_i b;first|omega|(simp only[afj,decide_eq_true_eq] at b;omega)|(simp_all<;>omega))
        ·have x:decide (97<=(t[i].toNat:Int))=false:=decide_eq_false q;have C:decide (48<=(t[i].toNat:Int))=false:=decide_eq_false F;have u:((t[i].toNat:Int)<97):=by omega
         have E:((t[i].toNat:Int)<48):=by omega
         go_wp2_with fail
         all_goals first
          |(go_ret;exact⟨by rw[a.out,f.out.2.1 (y.out (by omega))];rfl,by trivial⟩)
          |(exfalso;rename_i b;first|omega|(simp only[afj,decide_eq_true_eq] at b;omega)|(simp_all<;>omega))
      ·have J:Hid (t.all (λc=>Ct c||Bj c)=true):=by rw[List.take_of_length_le (by omega)] at j;exact j
       clear j
       go_wp2_with fail
       go_ret
       exact⟨by rw[a.out,J.out];rfl,by trivial⟩
   ·have a:Av t=false:=by
     cases d:Av t with
     |false=>rfl
     |true=>have:=((acm t).1 d).2.2.2.2;rw[D.out] at this;exact absurd this g
    rw[a]
    by_cases M:(t[0].toNat:Int)<97
    ·go_enter Tryz.func110,Tryz.ntmps110
     go_wp2_with fail
     go_ret
     exact⟨rfl,rfl⟩
    ·have I:122<(t[0].toNat:Int):=by unfold Ct at g;simp at g;omega
     go_enter Tryz.func110,Tryz.ntmps110
     go_wp2_with fail
     go_ret
     exact⟨rfl,rfl⟩
  ·have K:8<(t.length:Int):=by omega
   have a:Av t=false:=Ly (λh=>B h.2.1);rw[a]
   go_enter Tryz.func110,Tryz.ntmps110
   go_wp2_with fail
   go_ret
   exact⟨rfl,rfl⟩
end Go.Proofs.YtdcacoifehkioaaGreatDoor
