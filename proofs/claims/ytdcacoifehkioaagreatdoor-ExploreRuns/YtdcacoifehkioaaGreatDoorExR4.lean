import Derived.Test.YtdcacoifehkioaaGreatDoorExR3
import Derived.Deep.RegionHeld3
import Derived.Deep.RegionLaw
import Derived.Test.YtdcacoifehkioaaGreatDoorExR2
import Derived.Test.YtdcacoifehkioaaGreatDoorExR0
open Go renaming World->Xg,Value->Xj,heap_setCell_same->Xk,Calls->X3,TypeId->YD,bytes->adG,info_parts->Y2
open Go.RowKit.Below renaming heap_setCell->Xl,heap_alloc->Xq,refl->Xo
open Go.World renaming frozen?->XE,cell?->Xh,alloc_heap_new->Xi,ownsRow_nil->Xy
open Nat renaming le_refl->Xf,sub_self->YO,zero_le->XD
open Go.Builtin renaming append_->XM
open Option.some renaming inj->Yb
open List renaming length_map->Xm,map_append->XH,length_append->Xd,getElem?_append_left->Xv,getElem?_eq_some_iff->Xe,getElem?_append_right->XI,drop_eq_getElem_cons->X4,length_take->X2,take_length->Yi
open ByteArray renaming empty->Yr
open Bool renaming false_eq_true->Y1,and_eq_true->Yh,not_eq_false'->ZT
open UInt8 renaming toNat_inj->ZZ
set_option maxRecDepth 100000
set_option maxHeartbeats 1000000
set_option linter.unusedVariables false
set_option linter.unusedSimpArgs false
namespace Go.Proofs.YtdcacoifehkioaaGreatDoor
open Go.RowKit Go.Proofs.Cod
def RG.Dv (G:RG) (ia:Nat) (i:Ac):RG:={G with I:=Bw G.I ia i}
section
variable {w w':Xg} {tag tag':Nat->RT} {base rb nb lb:Nat} {G:RG}
theorem Ai.Dv (h:Ai w tag base rb nb lb G) {d:Nat} {i i':Ac} (r:G.I d=some i) (p:w'.heap[d]?=some (.cells (Bd i') 108)) (f:∀b,b≠d->w'.heap[b]?=w.heap[b]?) (z:w'.heap.size=w.heap.size) (s:w'.os=w.os) (v:w'.tape=w.tape) (q:w'.output=w.output) :
 Ai w' tag base rb nb lb (G.Dv d i')/\Ag w tag w' tag:=by
 have m:=h.ins d i r;have o:Ag w tag w' tag:=⟨s,v,q,by omega,λ_ _=>rfl,λb _ t=>f b (BI t m.2 (by simp))⟩;refine⟨h.step (λg=>g = .ins) o (λb _ _ y=>f b (λe=>y (by rw[e];exact m.2))) (λb p u=>absurd (h.tlt b u).2 (by omega)) ((f rb (BI h.trd m.2 (by simp))).trans h.cell) (λk _=>.inl ⟨rfl,rfl,by simp⟩) (.inl ⟨rfl,rfl,by simp⟩) (.inl ⟨rfl,rfl,by simp⟩) (.inl ⟨rfl,by simp⟩) (by simp) (by simp) (by simp) (λa c n=>.inl ⟨n,by simp,by simp,by simp⟩) (λa j x=>?_) (λc n=>.inl n),o⟩;have l:Bw G.I d i' a=some j:=x;unfold Bw at l
 split at l
 ·rename_i e
  cases l
  rw[e];exact .inr ⟨p,m.2⟩
 ·rename_i e;exact .inl ⟨l,f a e⟩
theorem Ai.Lm (h:Ai w tag base rb nb lb G) {a:Nat} {i i':Ac} (c:G.I a=some i) (k:Nat) (v:Xj) (e:(Bd i).setIfInBounds k v=Bd i') :
 Ai (w.setCell ⟨a,k,none⟩ v) tag base rb nb lb (G.Dv a i')/\Ag w tag (w.setCell ⟨a,k,none⟩ v) tag:=
 h.Dv c (by rw[Xk w a k _ _ v (h.ins a i c).1,e]) (λb d=>Xl w ⟨a,k,none⟩ v b d) (by simp) rfl rfl rfl
theorem Ai.Oj (h:Ai w tag base rb nb lb G) {a:Nat} {i i':Ac} (d:G.I a=some i) (k k':Nat) (v c:Xj) (e:((Bd i).setIfInBounds k v).setIfInBounds k' c=Bd i') :
 Ai ((w.setCell ⟨a,k,none⟩ v).setCell ⟨a,k',none⟩ c) tag base rb nb lb (G.Dv a i')/\Ag w tag ((w.setCell ⟨a,k,none⟩ v).setCell ⟨a,k',none⟩ c) tag:=
 h.Dv d (by rw[Xk _ a k' _ _ c (Xk w a k _ _ v (h.ins a i d).1),e]) (λb f=>(Xl _ ⟨a,k',none⟩ c b f).trans (Xl w ⟨a,k,none⟩ v b f)) (by simp) rfl rfl rfl
end
def Sk (nb lm ia:Nat) (i:Ac) (c:Int) (t:Tx) (G G':RG):Prop:=
 (c=114/\G'=G.Dv ia {i with r:=(Cs t:Int)})\/(c=97/\G'=G.Dv ia {i with aR:=Aq t,aN:=(AS t:Int)})\/(c=98/\G'=G.Dv ia {i with bR:=Aq t,bN:=(AS t:Int)})\/
 (c=116/\Jw ia nb 116 t G G')\/(c=108/\Jw ia lm 108 t G G')\/(c≠114/\c≠97/\c≠98/\c≠116/\c≠108/\∃n:Nat,G.N t=some (c,n)/\G'=G.Dv ia {i with x:=(n:Int)})
def Sl (c:Int) (t:Tx) (G:RG) (e:Int):Prop:=c≠114/\c≠97/\c≠98/\c≠116/\c≠108/\(∀n,G.N t≠some (c,n))/\e=5
theorem abi {w:Xg} {f:Nat->RT} {base rb u lb:Nat} {G:RG} (h:Ai w f base rb u lb G) {a:Nat} {D:DM} (ha:G.bods.getLast?=some a) (hb:G.bods.length<1048576) (an:G.B a=some D) {b:Nat} {i:Ac} (A:G.I b=some i) (ab:G.las.length<1048576) (c:Int) (t:Tx) (q:BR t c=true) :
 X3 Tryz.prog 186 #[Ab rb,Ab b,.int .u8 c,.string (bs t)] w (Out w f base rb u lb G.line (Sk u D.lm b i c t G) (Sl c t G)):=by
 have s:=(h.ins b i A).1;have fr:∀k,w.frozen? ⟨b,k,none⟩=false:=λk=>by simp[XE,s]
 have av:=h.lt (h.ins b i A).2 (by simp)
 by_cases O:c=114
 ·subst O;have aa:Aq t=true:=by simpa [BR] using q
  have p:=OI t aa w;have d:=Aa (h.Lm A (i':={i with r:=(Cs t:Int)}) 1 (.int .i64 (Cs t)) rfl);have d1:w.cell? ⟨b,1,none⟩=some (.int .i64 i.r):=by simp[Xh,s,Bd]
  have f1:=fr 1;unfold Ab;clear h s fr q aa
  go_enter Tryz.func186,Tryz.ntmps186
  go_wp2_with fail
  refine p.mono ?_;rintro e w1 ⟨rfl,rfl⟩
  go_wp2_with fail
  go_end0
  exact .inl ⟨f,_,rfl,d.out.1,d.out.2,.inl ⟨rfl,rfl⟩⟩
 ·by_cases Q:c=97
  ·subst Q;have H:(Aq t||BZ t)=true:=by simpa [BR] using q
   have p:=RN t H w;have d:Hid (∀w1,Below w.heap.size w w1->w1.cell? ⟨b,2,none⟩=some (.bool i.aR)/\w1.cell? ⟨b,3,none⟩=some (.int .i64 i.aN)/\w1.frozen? ⟨b,2,none⟩=false/\w1.frozen? ⟨b,3,none⟩=false/\Hid (Ai ((w1.setCell ⟨b,2,none⟩ (.bool (Aq t))).setCell ⟨b,3,none⟩ (.int .i64 (AS t))) f base rb u lb (G.Dv b {i with aR:=Aq t,aN:=(AS t:Int)})/\Ag w f ((w1.setCell ⟨b,2,none⟩ (.bool (Aq t))).setCell ⟨b,3,none⟩ (.int .i64 (AS t))) f)):=λw1 g=>by
    have j:=h.below g;have v:=(j.ins b i A).1;have:=j.Oj A (i':={i with aR:=Aq t,aN:=(AS t:Int)}) 2 3 (.bool (Aq t)) (.int .i64 (AS t)) rfl
    exact⟨by simp[Xh,v,Bd],by simp[Xh,v,Bd],by simp[XE,v],by simp[XE,v],this.1,(Ag.Ch g).trans this.2⟩
   unfold Ab;clear h s fr q H
   go_enter Tryz.func186,Tryz.ntmps186
   go_wp2_with fail
   refine p.mono ?_;rintro e w1 ⟨rfl,g⟩;obtain⟨d2,d3,f2,f3,d⟩:=d.out w1 g
   go_wp2_with fail
   go_end0
   exact .inl ⟨f,_,rfl,d.out.1,d.out.2,.inr (.inl ⟨rfl,rfl⟩)⟩
  ·by_cases M:c=98
   ·subst M;have H:(Aq t||BZ t)=true:=by simpa [BR] using q
    have p:=RN t H w;have d:Hid (∀w1,Below w.heap.size w w1->w1.cell? ⟨b,4,none⟩=some (.bool i.bR)/\w1.cell? ⟨b,5,none⟩=some (.int .i64 i.bN)/\w1.frozen? ⟨b,4,none⟩=false/\w1.frozen? ⟨b,5,none⟩=false/\Hid (Ai ((w1.setCell ⟨b,4,none⟩ (.bool (Aq t))).setCell ⟨b,5,none⟩ (.int .i64 (AS t))) f base rb u lb (G.Dv b {i with bR:=Aq t,bN:=(AS t:Int)})/\Ag w f ((w1.setCell ⟨b,4,none⟩ (.bool (Aq t))).setCell ⟨b,5,none⟩ (.int .i64 (AS t))) f)):=λw1 g=>by
     have j:=h.below g;have v:=(j.ins b i A).1;have:=j.Oj A (i':={i with bR:=Aq t,bN:=(AS t:Int)}) 4 5 (.bool (Aq t)) (.int .i64 (AS t)) rfl
     exact⟨by simp[Xh,v,Bd],by simp[Xh,v,Bd],by simp[XE,v],by simp[XE,v],this.1,(Ag.Ch g).trans this.2⟩
    unfold Ab;clear h s fr q H
    go_enter Tryz.func186,Tryz.ntmps186
    go_wp2_with fail
    refine p.mono ?_;rintro e w1 ⟨rfl,g⟩;obtain⟨d2,d3,f2,f3,d⟩:=d.out w1 g
    go_wp2_with fail
    go_end0
    exact .inl ⟨f,_,rfl,d.out.1,d.out.2,.inr (.inr (.inl ⟨rfl,rfl⟩))⟩
   ·by_cases J:c=116
    ·subst J;have p:=QU h ab b u 116 t;have d7:=h.LM;unfold Ab at p |-;clear h s fr q
     go_enter Tryz.func186,Tryz.ntmps186
     go_wp2_with fail
     refine p.mono ?_;rintro e w1 ⟨rfl,C,z,j,X,T⟩
     go_wp2_with fail
     go_end0
     exact .inl ⟨C,z,rfl,j,X,.inr (.inr (.inr (.inl ⟨rfl,T⟩)))⟩
    ·by_cases R:c=108
     ·subst R;have hC:=MH h ha (by omega);have d:Hid (∀w1,Below w.heap.size w w1->w1.cell? ⟨a,1,none⟩=some (.map (some D.lm))/\X3 Tryz.prog 214 #[Ab rb,Ab b,.map (some D.lm),.int .u8 108,.string (bs t)] w1 λy w'=>y = .returned (.tuple #[])/\∃C z,Ai w' C base rb u lb z/\Ag w f w' C/\Jw b D.lm 108 t G z):=λw1 g=>by
       have j:=h.below g;refine⟨by simp[Xh,(j.bodies a D an).cell],(QU j ab b D.lm 108 t).mono ?_⟩;rintro y w' ⟨F,C,z,q1,q2,q3⟩
       exact⟨F,C,z,q1,(Ag.Ch g).trans q2,q3⟩
      unfold Ab at hC d |-;clear h s fr q
      go_enter Tryz.func186,Tryz.ntmps186
      go_wp2_with fail
      refine hC.mono ?_;rintro e w1 ⟨rfl,g⟩;obtain⟨d1,p⟩:=d.out w1 g
      go_wp2_with fail
      refine p.mono ?_;rintro e w2 ⟨rfl,C,z,j,X,T⟩
      go_wp2_with fail
      go_end0
      exact .inl ⟨C,z,rfl,j,X,.inr (.inr (.inr (.inr (.inl ⟨rfl,T⟩))))⟩
     ·have d7:=h.LM;have d0:=h.FC;have f6:=fr 6;have d6:w.cell? ⟨b,6,none⟩=some (.int .i64 i.x):=by simp[Xh,s,Bd]
      have U:DD w.drew f u G.N:=h.names;have P:=QT U c t G.line;have V:=Aa (⟨rfl,rfl,rfl,Xf _,λ_ _=>rfl,λ_ _ _=>rfl⟩:Ag w f w.drew f);have HQ:=Aa (⟨O,Q,M,J,R⟩:_/\_/\_/\_/\_);unfold Ab
      by_cases o:∃n,G.N t=some (c,n)
      ·obtain⟨n,o⟩:=o;have Z:=P.mono (R':=λy w'=>y = .returned (.int .i64 n)/\w'=w.drew) (λy w' Y=>by
        rcases Y with⟨⟨m,E,F⟩|⟨E,_⟩,W⟩
        ·rw[o] at E;cases E;exact⟨F,W⟩
        ·exact absurd o (E n))
       have d:=Aa (Ai.Lm (w:=w.drew) (h.keep (λ_ _=>rfl) V.out) A (i':={i with x:=(n:Int)}) 6 (.int .i64 n) rfl);replace o:=Aa o;clear h s fr q U P
       go_enter Tryz.func186,Tryz.ntmps186
       go_wp2_with fail
       go_region_with (refine Z.mono ?_;rintro e w1 ⟨rfl,rfl⟩)
       all_goals
        go_wp2_with fail
        go_end0
        exact .inl ⟨f,_,rfl,d.out.1,V.out.trans d.out.2,.inr (.inr (.inr (.inr (.inr ⟨O,Q,M,J,R,n,o.out,rfl⟩))))⟩
      ·have Z:=P.mono (R':=λy w'=>y = .panicked (El 5 G.line)/\w'=w.drew) (λy w' Y=>by
        rcases Y with⟨⟨m,E,F⟩|⟨E,F⟩,W⟩
        ·exact absurd ⟨m,E⟩ o
        ·exact⟨F,W⟩)
       replace o:=Aa o;clear h s fr q U P
       go_enter Tryz.func186,Tryz.ntmps186
       go_wp2_with fail
       refine wp_region_held_drew (S:=(λw'=>w'.cell? ⟨rb,7,none⟩=some (.map (some u))/\w'.cell? ⟨rb,0,none⟩=some (.int .i64 G.line))) (by kernel_rfl) ⟨d7,d0⟩ (λl=>?_);refine tk 0 l ?_;refine tk 1 l ?_;refine tk 2 l ?_;refine tk 3 l ?_;refine tk 4 l ?_;refine tk 5 l ?_;refine tk 6 l ?_;refine tk 7 l ?_;refine tk 8 l ?_;refine tk 9 l ?_;refine tk 10 l ?_;refine rd 11 (λK hK=>?_)
       go_simp
       go_at_call 215
       refine Z.mono ?_;rintro e w1 ⟨rfl,rfl⟩
       exact⟨rfl,.inr ⟨f,5,rfl,V.out,O,Q,M,J,R,λn e=>o.out ⟨n,e⟩,rfl⟩⟩
theorem Ub {w:Xg} {c:Nat->RT} {base e:Nat} {d:RT} {v:Xj} {a:List Xj} {T:YD} {i:TypeInfo} {z:Xj} {n:Nat} (O:w.ownsRow base e 1 v a.length a) (h:∀g,v.ownBlock=some g->c g=d) (D:d≠.o) (N:Tryz.prog.underlying T=some (.slice e)) (G:Tryz.prog.info? e=some i) (H:i.zero=some z) (A:i.size=1) (E:i.bytes=n) (K:z.cells.size=1) (C:n<=64)
 (x:Xj) (M:x.oneCell'=true) (r:YD) (u:a.length<1048576) (J:base<=w.heap.size) (m:∀b,c b≠.o->b<w.heap.size) :
 ∃(g cap:Nat) (w':Xg) (l:Nat->RT),(XM #[T,T] r #[v,.slice (some ⟨w.heap.size,0,none⟩) 1 1]).run Tryz.prog (w.alloc (.cells #[x] e)) = .ok (.slice (some ⟨g,0,none⟩) (a.length+1) cap) w'/\
  w'.ownsRow base e 1 (.slice (some ⟨g,0,none⟩) (a.length+1) cap) (a.length+1) (a++[x])/\l g=d/\w'.os=w.os/\w'.tape=w.tape/\w'.output=w.output/\w.heap.size+1<=w'.heap.size/\
  (∀b,b<w.heap.size->c b≠d->w'.heap[b]?=w.heap[b]?)/\(∀b,b<=w.heap.size->l b=c b)/\(∀b,w.heap.size<=b->l b≠.o->b<w'.heap.size):=by
 obtain⟨g,cap,w',y,p,I,F,t,s,rb,B⟩:=LG O N G H A E K C x M r u J;have P:=p.lt g rfl;refine⟨g,cap,w',Ga c (w.heap.size+1) d (.slice (some ⟨g,0,none⟩) (a.length+1) cap),y,p,?_,I,F,t,s,λb k f=>rb b k (λe=>f (h b e)),λb k=>FZ (by omega),λb k f=>?_⟩
 ·rcases B with e|e
  ·have:=m g (by rw[h g e];exact D);rw[FZ (by omega)];exact h g e
  ·subst e;exact Lb rfl
 ·by_cases e:b=w.heap.size+1
  ·subst e
   by_cases q:g=w.heap.size+1
   ·rw[<-q];exact P.2
   ·exfalso;apply f
    unfold Ga;rw[ER,if_neg];intro j;have j:some g=some (w.heap.size+1):=j;exact q (Yb j)
  ·rw[FZ e] at f;have:=m b f;omega
def RG.code (G:RG) (a:Nat) (c:DM) (ia:Nat) (v:Xj):RG:={G with B:=Bw G.B a {c with ins:=c.ins++[ia],cv:=v}}
section
variable {w w':Xg} {tag tag':Nat->RT} {base rb nb lb:Nat} {G:RG}
theorem Ai.VO (h:Ai w tag base rb nb lb G) (i:Ac):Ai (w.alloc (.cells (Bd i) 108)) (Cd tag w.heap.size .ins) base rb nb lb (G.Dv w.heap.size i)/\Ag w tag (w.alloc (.cells (Bd i) 108)) (Cd tag w.heap.size .ins):=by
 have m:Ag w tag (w.alloc (.cells (Bd i) 108)) (Cd tag w.heap.size .ins):=⟨rfl,rfl,rfl,by simp,λb d=>Co _ (by omega),λb d _=>Xq w _ b d⟩;refine⟨h.step (λ_=>False) m (λb d _ _=>Xq w _ b d) (λb d l=>?_) ((Xq w _ rb (h.lt h.trd (by simp))).trans h.cell) (λk _=>.inl ⟨rfl,rfl,id⟩) (.inl ⟨rfl,rfl,id⟩) (.inl ⟨rfl,rfl,id⟩) (.inl ⟨rfl,id⟩) id id id (λa c g=>.inl ⟨g,id,id,id⟩) (λa j n=>?_) (λc g=>.inl g),m⟩
 ·unfold Cd at l
  split at l
  ·simp;omega
  ·exact absurd (h.tlt b l).2 (by omega)
 ·have f:Bw G.I w.heap.size i a=some j:=n;unfold Bw at f
  split at f
  ·rename_i e
   cases f
   rw[e];exact .inr ⟨Xi w _,ER _ _ _⟩
  ·exact .inl ⟨f,Xq w _ a (h.lt (h.ins a j f).2 (by simp))⟩
theorem Ai.code (h:Ai w tag base rb nb lb G) {a:Nat} {c:DM} (O:G.B a=some c) (H:c.ins.length<1048576) (m:Nat) :
 ∃g cap w3,(XM #[241,241] 241 #[c.cv,.slice (some ⟨w.heap.size,0,none⟩) 1 1]).run Tryz.prog (w.alloc (.cells #[Ab m] 244)) = .ok (.slice (some ⟨g,0,none⟩) (c.ins.length+1) cap) w3/\
  w3.cell? ⟨a,0,none⟩=some c.cv/\w3.frozen? ⟨a,0,none⟩=false/\
  ∃tag',Ai (w3.setCell ⟨a,0,none⟩ (.slice (some ⟨g,0,none⟩) (c.ins.length+1) cap)) tag' base rb nb lb (G.code a c m (.slice (some ⟨g,0,none⟩) (c.ins.length+1) cap))/\Ag w tag (w3.setCell ⟨a,0,none⟩ (.slice (some ⟨g,0,none⟩) (c.ins.length+1) cap)) tag':=by
 have f:=h.bodies a c O;have W:=h.lt f.ta (by simp);have Y:=h.g3;have M:∀b,tag b≠.o->b<w.heap.size:=λb l=>(h.tlt b l).2;obtain⟨X,r,I,Q,S⟩:=Y2 Tryz.infoIn;have D:=f.code;rw[show c.ins.length=(c.ins.map Ab).length by simp] at D;obtain⟨g,cap,w3,tag3,E,u,v,V,J,F,z3,t,p,K⟩:=Ub D f.tcode (by simp) Tryz.underlying241 r I Q S rfl (by omega) (Ab m) (by simp[Value.oneCell',Ab]) 241 (by simpa using H) (by omega) M;rw[Xm] at E u;have y:w3.heap[a]?=w.heap[a]?:=t a W (by rw[f.ta];simp);have j:Ag w tag (w3.setCell ⟨a,0,none⟩ (.slice (some ⟨g,0,none⟩) (c.ins.length+1) cap)) tag3:=by
  refine⟨V,J,F,by simp;omega,λb l=>p b (by omega),λb l A=>?_⟩;rw[Xl w3 ⟨a,0,none⟩ _ b (BI A f.ta (by simp))];exact t b l (by rw[A];simp)
 have P:w3.cell? ⟨a,0,none⟩=some c.cv:=by simp[Xh,y,f.cell]
 refine⟨g,cap,w3,E,P,by simp[XE,y,f.cell],tag3,?_,j⟩;have n:∀b,b<w.heap.size->tag b≠.cd a->tag b≠.bd a->(w3.setCell ⟨a,0,none⟩ (.slice (some ⟨g,0,none⟩) (c.ins.length+1) cap)).heap[b]?=w.heap[b]?:=λb l C s=>by
  rw[Xl w3 ⟨a,0,none⟩ _ b (λe=>s (by have e:b=a:=e;rw[e];exact f.ta))];exact t b l C
 refine h.step (λx=>x = .cd a\/x = .bd a) j (λb l C s=>n b l (λe=>s (.inl e)) (λe=>s (.inr e))) (λb l R=>by simp only[World.size_setCell];exact K b l R) ((n rb (h.lt h.trd (by simp)) (by rw[h.trd];simp) (by rw[h.trd];simp)).trans h.cell) (λk Z=>.inl ⟨rfl,rfl,by simp⟩) (.inl ⟨rfl,rfl,by simp⟩) (.inl ⟨rfl,rfl,by simp⟩) (.inl ⟨rfl,by simp⟩) (by simp) (by simp) (by simp) (λb d z=>?_) (λb i r=>.inl ⟨r,?_⟩) (λd z=>.inl z)
 ·have q:Bw G.B a {c with ins:=c.ins++[m],cv:=.slice (some ⟨g,0,none⟩) (c.ins.length+1) cap} b=some d:=z;unfold Bw at q
  split at q
  ·rename_i e
   cases q
   rw[e];right;have ab:=u.lt g rfl;have U:g≠a:=λe=>by
    rw[e,p a (by omega),f.ta] at v
    cases v
   refine⟨by rw[Xk w3 a 0 _ _ _ (y.trans f.cell)];rfl,?_,?_,?_,?_,?_⟩
   ·have T:(c.ins++[m]).length=c.ins.length+1:=by simp
    show World.ownsRow _ base _ 1 _ (c.ins++[m]).length ((c.ins++[m]).map Ab);rw[T,XH];exact Bg u λx j=>by
     have j:some g=some x:=j
     cases j
     exact Xl w3 ⟨a,0,none⟩ _ g U
   ·intro x j;have j:some g=some x:=j
    cases j
    exact v
   ·refine f.labs.kept (n c.lm (h.lt f.tl (by simp)) (by rw[f.tl];simp) (by rw[f.tl];simp)) λx j=>?_;have N:=h.lt j (by simp)
    exact⟨n x N (by rw[j];simp) (by rw[j];simp),(p x (by omega)).trans j⟩
   ·exact(p a (by omega)).trans f.ta
   ·exact(p c.lm (by have:=h.lt f.tl (by simp);omega)).trans f.tl
  ·rename_i e;exact .inl ⟨q,by simpa using e,by simpa using e,by simp⟩
 ·have:=h.ins b i r;exact n b (h.lt this.2 (by simp)) (by rw[this.2];simp) (by rw[this.2];simp)
end
def CA (N:Tx->Option (Int×Nat)) (i:Ac) (p:Int×Tx):Option Ac:=
 if p.1=114 then some {i with r:=(Cs p.2:Int)} else if p.1=97 then some {i with aR:=Aq p.2,aN:=(AS p.2:Int)} else if p.1=98 then some {i with bR:=Aq p.2,bN:=(AS p.2:Int)}
 else if p.1=116 then some i else if p.1=108 then some i else match N p.2 with
  |some (k,n)=>if k=p.1 then some {i with x:=(n:Int)} else none
  |none=>none
def BF (N:Tx->Option (Int×Nat)):Ac->List (Int×Tx)->Option Ac
 |i,[]=>some i
 |i,p::l=>match CA N i p with
  |some i'=>BF N i' l
  |none=>none
def BA.key (c:BA):Nat×Nat×Int×Tx×Int:=(c.ia,c.tb,c.kd,c.nm,c.ln)
def Dz (nb lm ia:Nat) (l:Int) (p:Int×Tx):List (Nat×Nat×Int×Tx×Int):=if p.1=116 then [(ia,nb,p.1,p.2,l)] else if p.1=108 then [(ia,lm,p.1,p.2,l)] else []
def AG (ps:Tx) (ts:List Tx):List (Int×Tx):=(ps.map λc=>(c.toNat:Int)).zip ts
def BX (op:Tx):Ac:=⟨op,0,false,0,false,0,0⟩
def FE (l:List Ac):List Xj:=l.flatMap λi=>(Bd i).toList
def If (l:List (Tx×Xj)):List Xj:=l.flatMap λp=>[.string (bs p.1),p.2]
theorem Tryz.infoI7:(Tryz.prog.info? 108).map (λi=>(i.zero,i.size,i.bytes))=some (some (.agg #[.string Yr,.int .i64 0,.bool false,.int .i64 0,.bool false,.int .i64 0,.int .i64 0]),7,64):=by kernel_rfl
theorem Tryz.infoTh:(Tryz.prog.info? 122).map (λi=>(i.zero,i.size,i.bytes))=some (some (.agg #[.string Yr,.slice none 0 0]),2,40):=by kernel_rfl
theorem Rz {W:Xg} {b e j:Nat} {cs:Array Xj} {u:Xj} (h:W.heap[b]?=some (.cells cs e)) (c:cs[j]?=some u):W.cell? ((⟨b,0,none⟩:Addr).add j)=some u:=by
 by_cases a:j=0
 ·subst a;simp[Xh,Addr.add,h,c]
 ·simp[Xh,Addr.add,h,c,a]
theorem IX {w:Xg} {base e d n:Nat} {v:Xj} {k:List Xj} {T:YD} {i:TypeInfo} {z:Xj} {h:Nat} (F:w.ownsRow base e d v n k) (D:Tryz.prog.underlying T=some (.slice e)) (x:Tryz.prog.info? e=some i) (A:i.zero=some z) (q:i.size=d) (t:i.bytes=h) (B:z.cells.size=d) (r:h<=64)
 (c:List Xj) (o:c.length=d) (C:∀u∈c,u.oneCell'=true) (m:YD) (G:n<1048576) (I:base<=w.heap.size) :
 ∃(g cap:Nat) (w':Xg),(XM #[T,T] m #[v,.slice (some ⟨w.heap.size,0,none⟩) 1 1]).run Tryz.prog (w.alloc (.cells c.toArray e)) = .ok (.slice (some ⟨g,0,none⟩) (n+1) cap) w'/\
  w'.ownsRow base e d (.slice (some ⟨g,0,none⟩) (n+1) cap) (n+1) (k++c)/\w'.os=w.os/\w'.tape=w.tape/\w'.output=w.output/\w.heap.size+1<=w'.heap.size/\
  (∀b,b<w.heap.size->v.ownBlock≠some b->w'.heap[b]?=w.heap[b]?)/\(v.ownBlock=some g\/g=w.heap.size+1):=by
 obtain⟨H,w',p,l,f,a⟩:=Lo (P:=Tryz.prog) (w.alloc (.cells c.toArray e)) base T m e i z d h D x A q t B v n k (F.alloc _) ⟨w.heap.size,0,none⟩ 1 1 c (by omega) (by simp[o])
  (λj u s=>Rz (Xi w _) (by simpa using s)) C (by unfold maxLen;omega)
  (by have:(n+1)*h<=1048576*64:=Nat.mul_le_mul (by omega) r
      omega) (by simp;omega)
 obtain⟨g,cap,rfl⟩:=ownsRow_succ l;refine⟨g,cap,w',p,l,f.os,f.tape,f.output,by have:=f.size;simpa using this,λb E y=>(f.block b (by simp;omega) (λe=>y e.symm)).trans (Xq w _ b E),?_⟩
 rcases a with a|a
 ·exact .inl a.symm
 ·right;have a:some g=some (w.alloc (.cells c.toArray e)).heap.size:=a;rw[World.size_alloc] at a;exact Yb a
theorem Fs {P:Program} {d:Array Oper} {o:Oper} {a:Act} {w:Xg} {K:Act->Xg->Prop} {Q:Exit->Act->Xg->Prop} {E:Prop}
 (k:o.guard=none) (s x:Operand) (t:YD) (f:o.op=Op.call {callee:=Callee.builtin Builtin.append,args := #[s,x],argTypes := #[t,t]}) {v u b:Xj} {w':Xg} {c:YD} (h:o.type=c)
 (e:a.eval s=v) (i:a.eval x=u) (j:(XM #[t,t] c #[v,u]).run P w = .ok b w') (l:K (a.put o.dst b) w'):if Region.wanted o (yielded d a.tmps)=true then Oper.wp P o a w K Q else E:=by
 have g:Region.wanted o (yielded d a.tmps)=true:=by simp[Region.wanted,k]
 rw[if_pos g];unfold Oper.wp;simp[execOp,f,resolve,invoke,builtin,e,i,h,j,Result.andThen];exact l
theorem At {w:Xg} {base e c n:Nat} {v:Xj} {d:List Xj} (h:w.ownsRow base e c v n d):∃a cap,v = .slice a n cap:=by
 rcases h.2 with⟨b,f⟩|⟨g,cap,i,b,_⟩
 ·exact⟨none,0,by rw[b,f]⟩
 ·exact⟨_,_,b⟩
theorem CN {w:Xg} {base c e b n:Nat} {v:Xj} {a:List Xj} (h:w.ownsRow base e b v n a) (j:c<=base):w.ownsRow c e b v n a:=by
 refine⟨h.1,?_⟩
 rcases h.2 with f|⟨g,cap,i,d,k,rest⟩
 ·exact .inl f
 ·exact .inr ⟨g,cap,i,d,by omega,rest⟩
structure GZ (w1 w:Xg) (tb:Nat) (name:Tx) (cv:Xj) (is:List Ac):Prop where
 cell:w.heap[tb]?=some (.cells #[.string (bs name),cv] 122)
 row:w.ownsRow (tb+1) 108 7 cv is.length (FE is)
 os:w.os=w1.os
 tape:w.tape=w1.tape
 output:w.output=w1.output
 size:tb<w.heap.size
 old:∀b,b<tb->w.heap[b]?=w1.heap[b]?
theorem GZ.push {w1 w:Xg} {a:Nat} {name:Tx} {cv:Xj} {is:List Ac} (h:GZ w1 w a name cv is) (i:Ac) (o:is.length<1048576) :
 ∃g cap w3,(XM #[120,120] 120 #[cv,.slice (some ⟨w.heap.size,0,none⟩) 1 1]).run Tryz.prog (w.alloc (.cells (Bd i) 108)) = .ok (.slice (some ⟨g,0,none⟩) (is.length+1) cap) w3/\
  w3.cell? ⟨a,1,none⟩=some cv/\w3.frozen? ⟨a,1,none⟩=false/\w3.cell? ⟨a,0,none⟩=some (.string (bs name))/\GZ w1 (w3.setCell ⟨a,1,none⟩ (.slice (some ⟨g,0,none⟩) (is.length+1) cap)) a name (.slice (some ⟨g,0,none⟩) (is.length+1) cap) (is++[i])/\(∀b,b<a->w3.heap[b]?=w1.heap[b]?):=by
 obtain⟨C,t,p,v,y⟩:=Y2 Tryz.infoI7;have m:=h.size;obtain⟨g,cap,w3,q,j,z,s,n,B,rb,D⟩:=IX h.row Tryz.underlying120 t p v y rfl (by omega) (Bd i).toList (by simp[Bd]) (by intro u f;simp[Bd] at f;rcases f with rfl|rfl|rfl|rfl|rfl|rfl|rfl<;>rfl) 120 o (by omega);have l:∀b,b<=a->cv.ownBlock≠some b:=λb d e=>by have:=(h.row.lt b e).1;omega
 have c:w3.heap[a]?=some (.cells #[.string (bs name),cv] 122):=(rb a m (l a (Xf _))).trans h.cell;have k:∀b,b<a->w3.heap[b]?=w1.heap[b]?:=λb d=>(rb b (by omega) (l b (by omega))).trans (h.old b d);refine⟨g,cap,w3,q,by simp[Xh,c],by simp[XE,c],by simp[Xh,c],⟨by rw[Xk w3 a 1 _ _ _ c];rfl,?_,z.trans h.os,s.trans h.tape,n.trans h.output,by simp;omega,λb d=>(Xl w3 ⟨a,1,none⟩ _ b (by show b≠a;omega)).trans (k b d)⟩,k⟩;have r:FE (is++[i])=FE is++(Bd i).toList:=by simp[FE]
 rw[Xd,r];refine Bg j λx A=>?_;have E:=(j.lt x A).1;exact Xl w3 ⟨a,1,none⟩ _ x (by show x≠a;omega)
structure IG (w0 w:Xg) (rb nb lb:Nat) (G:RG) (thV:Xj) (L:List (Tx×Xj)) (C:List (List Ac)):Prop where
 cell:w.heap[rb]?=some (.cells #[.int .i64 G.line,G.V 118,G.V 102,G.V 109,thV,G.V 116,G.bV,.map (some nb),.map (some lb),G.lV] 145)
 row:w.ownsRow w0.heap.size 122 2 thV L.length (If L)
 codes:∀(i:Nat) (p:Tx×Xj) (is:List Ac),L[i]?=some p->C[i]?=some is->w.ownsRow w0.heap.size 108 7 p.2 is.length (FE is)
 len:C.length=L.length
 os:w.os=w0.os
 tape:w.tape=w0.tape
 output:w.output=w0.output
 size:w0.heap.size<=w.heap.size
 old:∀b,b<w0.heap.size->b≠rb->w.heap[b]?=w0.heap[b]?
theorem IG.push {c n w:Xg} {rb q lb:Nat} {G:RG} {f:Xj} {L:List (Tx×Xj)} {C:List (List Ac)} {nm:Tx} {cv:Xj} {is:List Ac} (h:IG c n rb q lb G f L C) (a:GZ n w n.heap.size nm cv is) (J:rb<c.heap.size) (H:L.length<1048576) :
 ∃g cap w3,(XM #[23,23] 23 #[f,.slice (some ⟨w.heap.size,0,none⟩) 1 1]).run Tryz.prog (w.alloc (.cells #[.string (bs nm),cv] 122)) = .ok (.slice (some ⟨g,0,none⟩) (L.length+1) cap) w3/\
  w3.cell? ⟨rb,4,none⟩=some f/\w3.frozen? ⟨rb,4,none⟩=false/\IG c (w3.setCell ⟨rb,4,none⟩ (.slice (some ⟨g,0,none⟩) (L.length+1) cap)) rb q lb G (.slice (some ⟨g,0,none⟩) (L.length+1) cap) (L++[(nm,cv)]) (C++[is]):=by
 obtain⟨i0,P,I,Q,R⟩:=Y2 Tryz.infoTh;have ac:=h.size;have ag:=a.size;have Y:w.heap[rb]?=n.heap[rb]?:=a.old rb (by omega);have E:w.ownsRow c.heap.size 122 2 f L.length (If L):=Bg h.row λg e=>a.old g (h.row.lt g e).2;obtain⟨ca,ai,X⟩:=At a.row;obtain⟨g,cap,w3,Z,u,U,O,F,rz,r,rg⟩:=IX E Tryz.underlying23 P I Q R rfl (by omega) [.string (bs nm),cv] rfl (by rw[X];simp[Value.oneCell']) 23 H (by omega);have A:∀b,b<c.heap.size->f.ownBlock≠some b:=λb k e=>by have:=(h.row.lt b e).1;omega
 have s:w3.heap[rb]?=some (.cells #[.int .i64 G.line,G.V 118,G.V 102,G.V 109,f,G.V 116,G.bV,.map (some q),.map (some lb),G.lV] 145):=(r rb (by omega) (A rb J)).trans (Y.trans h.cell);have t:∀{v:Xj} {l:List Ac} {b:Nat},w.ownsRow b 108 7 v l.length (FE l)->c.heap.size<=b->(w3.setCell ⟨rb,4,none⟩ (.slice (some ⟨g,0,none⟩) (L.length+1) cap)).ownsRow c.heap.size 108 7 v l.length (FE l):=λ{v l b} d k=>by
  refine CN (Bg d λx e=>?_) k;have W:=d.lt x e;rw[Xl w3 ⟨rb,4,none⟩ _ x (by show x≠rb;omega)];refine r x W.2 (λo=>?_)
  rcases d.2 with⟨rfl,_⟩|⟨y,c1,u1,rfl,_,K,_⟩
  ·cases e
  ·rcases E.2 with⟨rfl,_⟩|⟨z,c2,u2,rfl,_,B,_⟩
   ·cases o
   ·have e:some y=some x:=e;have o:some z=some x:=o
    cases e;cases o
    rw[K] at B;have:(108:Nat)=122:=by
     have:=Yb B;simp only[Obj.cells.injEq] at this;exact this.2.1
    omega
 refine⟨g,cap,w3,Z,by simp[Xh,s],by simp[XE,s],⟨by rw[Xk w3 rb 4 _ _ _ s];rfl,?_,λi p N j m=>?_,by simp[h.len],U.trans (a.os.trans h.os),O.trans (a.tape.trans h.tape),F.trans (a.output.trans h.output),by simp;omega,λb k D=>?_⟩⟩
 ·have M:If (L++[(nm,cv)])=If L++[.string (bs nm),cv]:=by simp[If]
  rw[Xd,M];refine Bg u λx e=>?_;have:=(u.lt x e).1;exact Xl w3 ⟨rb,4,none⟩ _ x (by show x≠rb;omega)
 ·by_cases e:i<L.length
  ·rw[Xv e] at j;rw[Xv (by rw[h.len];exact e)] at m;have d:=h.codes i p N j m;exact t (Bg d λx T=>a.old x (d.lt x T).2) (Xf _)
  ·have S:i=L.length:=by
    have:=(Xe.1 j).1
    simp at this;omega
   subst S;rw[XI (Xf _),YO] at j;rw[XI (by rw[h.len];exact Xf _),h.len,YO] at m
   cases j;cases m
   exact t a.row (by omega)
 ·rw[Xl w3 ⟨rb,4,none⟩ _ b D]
  exact(r b (by omega) (A b k)).trans ((a.old b (by omega)).trans (h.old b k D))
end Go.Proofs.YtdcacoifehkioaaGreatDoor
namespace Go.Proofs.YtdcacoifehkioaaGreatDoor
open Go.RowKit Go.Proofs.Cod
open Go.Lib (indexByte indexByte_ge)
theorem abY (c b:UInt8) (l:Tx):Bu c (b::l)=if b == c then [] else b::Bu c l:=by
 unfold Bu
 by_cases h:(b == c)=true
 ·simp[indexByte,h]
 ·have a:(b == c)=false:=by simpa using h
  simp only[indexByte,a,Y1,if_false]
  by_cases k:indexByte l c = -1
  ·simp[k]
  ·have m:=indexByte_ge l c;obtain⟨j,i⟩:∃j:Nat,indexByte l c=j:=⟨(indexByte l c).toNat,by omega⟩;rw[i];have d:((j:Int) == -1)=false:=by simp
   simp only[d,Y1,if_false];have f:¬((j:Int)+1 = -1):=by omega
   have g:¬((j:Int) = -1):=by omega
   have e:((j:Int)+1).toNat=j+1:=by omega
   simp[f,g,e]
def EP:List Tx->Tx->Tx->List Tx
 |L,w,[]=>if w.isEmpty then L else L++[w]
 |L,w,c::r=>if c == 35 then(if w.isEmpty then L else L++[w]) else if c == 32 then EP (if w.isEmpty then L else L++[w]) [] r else EP L (w++[c]) r
theorem SH (r:Tx):∀(L:List Tx) (w:Tx),∃p ps,Ap 32 (Bu 35 r)=p::ps/\EP L w r=L++((w++p)::ps).filter (λp => !p.isEmpty):=by
 induction r with
 |nil=>
  intro L w;refine⟨[],[],by simp[Bu,indexByte,Ap],?_⟩;unfold EP
  cases a:w.isEmpty<;>simp[a]
 |cons c r g=>
  intro L w;unfold EP;rw[abY]
  by_cases b:(c == 35)=true
  ·rw[if_pos b,if_pos b];refine⟨[],[],rfl,?_⟩
   cases a:w.isEmpty<;>simp[a]
  ·rw[if_neg b,if_neg b]
   by_cases d:(c == 32)=true
   ·rw[if_pos d];obtain⟨p,ps,e,f⟩:=g (if w.isEmpty then L else L++[w]) [];refine⟨[],p::ps,?_,?_⟩
    ·conv=>lhs;unfold Ap
     rw[if_pos d,e]
    ·rw[f]
     cases a:w.isEmpty<;>simp[a]
   ·rw[if_neg d];obtain⟨p,ps,e,f⟩:=g L (w++[c]);refine⟨c::p,ps,?_,?_⟩
    ·conv=>lhs;unfold Ap
     rw[if_neg d,e]
    ·rw[f];simp
theorem SG (t:Tx):EP [] [] t=Cf t:=by
 obtain⟨p,ps,b,a⟩:=SH t [] [];rw[a];unfold Cf;rw[b];simp
theorem Tu {c:UInt8} {u:Tx} (a:∀b,b∈u->(b == c)=false) (r:Tx):Ap c (u++c::r)=u::Ap c r:=by
 induction u with
 |nil=>simp[Ap]
 |cons b u d=>
  have f:(b == c)=false:=a b (by simp);show Ap c (b::(u++c::r))=_
  conv=>lhs;unfold Ap
  rw[f,d (λx e=>a x (by simp[e]))];rfl
theorem Tv {c:UInt8} {u:Tx} (a:∀b,b∈u->(b == c)=false):Ap c u=[u]:=by
 induction u with
 |nil=>simp[Ap]
 |cons b u d=>
  have f:(b == c)=false:=a b (by simp);unfold Ap;rw[f,d (λx e=>a x (by simp[e]))];rfl
structure Gq (w:Xg) (base:Nat) (wr:Xg) (v:Xj) (L:List Tx):Prop where
 row:wr.ownsRow base 9 1 v L.length (L.map BB)
 low:Below base w wr
theorem Gq.push {w wr:Xg} {base:Nat} {v:Xj} {L:List Tx} (h:Gq w base wr v L) (t:base<=w.heap.size) (x:Tx) (p:L.length<1048576):∃g cap w',(XM #[22,22] 22 #[v,.slice (some ⟨wr.heap.size,0,none⟩) 1 1]).run Tryz.prog (wr.alloc (.cells #[.string (bs x)] 9)) = .ok (.slice (some ⟨g,0,none⟩) (L.length+1) cap) w'/\Gq w base w' (.slice (some ⟨g,0,none⟩) (L.length+1) cap) (L++[x]):=by
 obtain⟨s,i,o,j,n⟩:=Y2 Tryz.infoTx;have a:=h.row;have e:L.length=(L.map BB).length:=by simp
 rw[e] at a;have u:=h.low.size;obtain⟨g,cap,w',b,c,d,f,m,q,rb,r⟩:=LG a Tryz.underlying22 i o j n rfl (by omega) (BB x) (by simp[Value.oneCell',BB]) 22 (by simpa using p) (by omega);rw[Xm] at b c;refine⟨g,cap,w',b,⟨by rw[Xd,XH];exact c,⟨d.trans h.low.os,f.trans h.low.tape,m.trans h.low.output,by omega,λk l=>(rb k (by omega) (λe=>?_)).trans (h.low.block k l)⟩⟩⟩;have:=(a.lt k e).1
 omega
theorem UC (t:Tx) (w:Xg) (F:t.length<1000000):X3 Tryz.prog 50 #[.string (bs t)] w λe w'=>∃v,e = .returned v/\Gq w w.heap.size w' v (Cf t):=by
 have M:=AY t;have B:=Aa (SG t);have s:Hid (Gq w w.heap.size w (.slice none 0 0) []):=⟨Xy _ _ _ _,Xo _ _⟩
 go_enter Tryz.func50,Tryz.ntmps50
 go_wp2_with fail
 go_loopw [3,4,5] (λy A n wr=>∃(i:Nat) (L:List Tx) (u:Tx),i<=t.length/\n = .int .i64 i/\A = .string (bs u)/\u.length<=i/\L.length<=i/\EP L u (t.drop i)=Cf t/\Gq w w.heap.size wr y L) (λ_ _ n _=>t.length - (intOf n).toNat)
 case atStart=>exact⟨0,[],[],XD _,rfl,rfl,Xf _,Xf _,B.out,s.out⟩
 case round=>
  clear s;obtain⟨i,L,u,J,rfl,rfl,K,E,a,d⟩:=hrel;obtain⟨la,G,rfl⟩:=At d.row;obtain⟨g,cap,w',q,f⟩:=d.push (Xf _) u (by omega)
  by_cases x:i<t.length
  ·have P:∀h,(bs t)[i]'h=t[i]:=λh=>CO t i h;have Q:(i:Int)<(t.length:Int):=by omega
   have l:t.drop i=t[i]::t.drop (i+1):=X4 x;rw[l] at a;have O:(bs t).extract i (i+1)=bs [t[i]]:=by
    rw[FG,List.take_succ_eq_append_getElem x,List.drop_append,List.drop_eq_nil_of_le (by rw[X2];omega),X2];rw[show i - min i t.length=0 by omega];rfl
   have N:bs u++bs [t[i]]=bs (u++[t[i]]):=Ji u [t[i]];have R:wrap64 ((i:Int)+1)=(i:Int)+1:=IntWalk.wrap64_in _ (by omega);have H:(i:Int)+1<=(t.length:Int):=by omega
   have I:(i:Int)<=(i:Int)+1:=by omega
   have D:¬9223372036854775807<(bs u).size+(bs [t[i]]).size:=by rw[AY,AY];simp;omega
   replace l:=Aa l;unfold EP at a
   by_cases p:(t[i].toNat:Int)=35
   ·have o:(t[i] == 35)=true:=by
     have:t[i].toNat=35:=by omega
     exact beq_iff_eq.2 (ZZ.1 this)
    rw[if_pos o] at a;have z:((t[i].toNat:Int) != 35)=false:=by simp[p]
    cases c:u.isEmpty with
    |true=>
     have j:(bs u).toList.isEmpty=true:=by rw[AR];exact c
     rw[c] at a;have a:L=Cf t:=a;have b:=Aa (⟨d,a⟩:_/\_);clear d a f
     go_wp2_with fail
     go_ret
     exact⟨_,rfl,by rw[<-b.out.2];exact b.out.1⟩
    |false=>
     have j:(bs u).toList.isEmpty=false:=by rw[AR];exact c
     rw[c] at a;have a:L++[u]=Cf t:=a;have b:=Aa (⟨f,a⟩:_/\_);clear d a f
     go_wp2_with (at_builtin;refine Eq rfl _ _ _ rfl rfl rfl rfl q ?_)
     go_ret
     exact⟨_,rfl,by rw[<-b.out.2];exact b.out.1⟩
   ·have o:¬(t[i] == 35)=true:=λe=>p (by rw[beq_iff_eq.1 e];rfl);rw[if_neg o] at a;have z:((t[i].toNat:Int) != 35)=true:=by simpa using p
    by_cases k:(t[i].toNat:Int)=32
    ·have m:(t[i] == 32)=true:=by
      have:t[i].toNat=32:=by omega
      exact beq_iff_eq.2 (ZZ.1 this)
     rw[if_pos m] at a;have C:((t[i].toNat:Int) != 32)=false:=by simp[k]
     cases c:u.isEmpty with
     |true=>
      have j:(bs u).toList.isEmpty=true:=by rw[AR];exact c
      rw[c] at a;have a:EP L [] (t.drop (i+1))=Cf t:=a;have b:=Aa (⟨d,a⟩:_/\_);clear d a f
      go_wp2_with fail
      go_roundw
      case rel=>exact⟨i+1,L,[],by omega,by go_num,rfl,by simp,by omega,b.out.2,b.out.1⟩
      case measure=>simp[intOf];omega
     |false=>
      have j:(bs u).toList.isEmpty=false:=by rw[AR];exact c
      rw[c] at a;have a:EP (L++[u]) [] (t.drop (i+1))=Cf t:=a;have b:=Aa (⟨f,a⟩:_/\_);clear d a f
      go_wp2_with (at_builtin;refine Eq rfl _ _ _ rfl rfl rfl rfl q ?_)
      go_roundw
      case rel=>exact⟨i+1,L++[u],[],by omega,by go_num,rfl,by simp,by simp;omega,b.out.2,b.out.1⟩
      case measure=>simp[intOf];omega
    ·have m:¬(t[i] == 32)=true:=λe=>k (by rw[beq_iff_eq.1 e];rfl);rw[if_neg m] at a;have C:((t[i].toNat:Int) != 32)=true:=by simpa using k
     have b:=Aa (⟨d,a⟩:_/\_);clear d a f
     go_wp2_with fail
     go_roundw
     case rel=>exact⟨i+1,L,u++[t[i]],by omega,by go_num,rfl,by simp;omega,by omega,b.out.2,b.out.1⟩
     case measure=>simp[intOf];omega
  ·have r:i=t.length:=by omega
   rw[r,List.drop_length] at a;subst r;unfold EP at a
   cases c:u.isEmpty with
   |true=>
    have j:(bs u).toList.isEmpty=true:=by rw[AR];exact c
    rw[c] at a;have a:L=Cf t:=a;have b:=Aa (⟨d,a⟩:_/\_);clear d a f
    go_wp2_with fail
    go_ret
    exact⟨_,rfl,by rw[<-b.out.2];exact b.out.1⟩
   |false=>
    have j:(bs u).toList.isEmpty=false:=by rw[AR];exact c
    rw[c] at a;have a:L++[u]=Cf t:=a;have b:=Aa (⟨f,a⟩:_/\_);clear d a f
    go_wp2_with (at_builtin;refine Eq rfl _ _ _ rfl rfl rfl rfl q ?_)
    go_ret
    exact⟨_,rfl,by rw[<-b.out.2];exact b.out.1⟩
end Go.Proofs.YtdcacoifehkioaaGreatDoor
namespace Go.Proofs.YtdcacoifehkioaaGreatDoor
open Go.RowKit Go.Proofs.Cod
def MZ (c:UInt8) (t:Tx) (a b:Nat):Prop:=∀j,a<=j->j<b->(h:j<t.length)->(t[j] == c)=false
theorem OV {t:Tx} {a b:Nat} {c:UInt8} (h:MZ c t a b):∀x,x∈(t.take b).drop a->(x == c)=false:=λx g=>by
 obtain⟨k,f⟩:=List.getElem?_of_mem g;rw[List.getElem?_drop] at f;obtain⟨j,e⟩:=Xe.1 f;have d:a+k<b/\a+k<t.length:=by rw[X2] at j;omega
 have i:t[a+k]'d.2=x:=by rw[<-e,List.getElem_take]
 rw[<-i];exact h (a+k) (by omega) d.1 d.2
theorem UG (t:Tx) (w:Xg) (O:t.length<1000000):X3 Tryz.prog 49 #[.string (bs t)] w λe w'=>∃v,e = .returned v/\Gq w w.heap.size w' v (Ap 10 t):=by
 have R:=AY t;have y:Hid (Gq w w.heap.size w (.slice none 0 0) []):=⟨Xy _ _ _ _,Xo _ _⟩
 go_enter Tryz.func49,Tryz.ntmps49
 go_wp2_with fail
 go_loopw [3,4,5] (λC J o wr=>∃(i a:Nat) (L:List Tx),o = .int .i64 i/\J = .int .i64 a/\L.length<=i/\a<=i/\Gq w w.heap.size wr C L/\((i<=t.length/\Ap 10 t=L++Ap 10 (t.drop a)/\MZ 10 t a i)\/(i=t.length+1/\L=Ap 10 t))) (λ_ _ o _=>t.length+1 - (intOf o).toNat)
 case atStart=>exact⟨0,0,[],rfl,rfl,Xf _,Xf _,y.out,.inl ⟨XD _,by simp,λj n z=>by omega⟩⟩
 case round=>
  clear y;obtain⟨i,a,L,rfl,rfl,M,Q,c,D⟩:=hrel;obtain⟨la,P,rfl⟩:=At c.row
  rcases D with⟨x,k,l⟩|⟨x,s⟩
  ·obtain⟨g,cap,w',r,d⟩:=c.push (Xf _) ((t.take i).drop a) (by omega);have F:(i:Int)<=(t.length:Int):=by omega
   have T:wrap64 ((i:Int)+1)=(i:Int)+1:=IntWalk.wrap64_in _ (by omega);have I:(bs t).extract a i=bs ((t.take i).drop a):=FG t a i;have K:(a:Int)<=(i:Int):=by omega
   by_cases H:i<t.length
   ·have S:∀h,(bs t)[i]'h=t[i]:=λh=>CO t i h;have N:((i:Int) == (t.length:Int))=false:=by simp;omega
    have q:t.drop a=(t.take i).drop a++t[i]::t.drop (i+1):=by
     conv=>lhs;rw[<-List.take_append_drop i t,List.drop_append,X2]
     rw[show a - min i t.length=0 by omega,List.drop_zero,X4 H]
    by_cases p:(t[i].toNat:Int)=10
    ·have m:t[i]=10:=by
      have:t[i].toNat=10:=by omega
      exact ZZ.1 this
     have f:Ap 10 t=(L++[(t.take i).drop a])++Ap 10 (t.drop (i+1)):=by
      rw[k,q,m,Tu (OV l)];simp
     have G:((t[i].toNat:Int) == 10)=true:=by simpa using p
     have b:=Aa (⟨d,f⟩:_/\_);clear c d k l f q m
     go_wp2_with (at_builtin;refine Eq rfl _ _ _ rfl rfl rfl rfl r ?_)
     go_roundw
     case rel=>exact⟨i+1,i+1,_,by go_num,by go_num,by simp;omega,Xf _,b.out.1,.inl ⟨by omega,b.out.2,λj n z=>by omega⟩⟩
     case measure=>simp[intOf];omega
    ·have G:((t[i].toNat:Int) == 10)=false:=by simpa using p
     have m:(t[i] == 10)=false:=by
      cases A:t[i] == 10 with
      |false=>rfl
      |true=>exact absurd (by rw[beq_iff_eq.1 A];rfl) p
     have u:MZ 10 t a (i+1):=λj n z B=>by
      by_cases e:j=i
      ·subst e;exact m
      ·exact l j n (by omega) B
     have b:=Aa (⟨c,k,u⟩:_/\_/\_);clear c d k l u q m
     go_wp2_with fail
     go_roundw
     case rel=>exact⟨i+1,a,L,by go_num,rfl,by omega,by omega,b.out.1,.inl ⟨by omega,b.out.2⟩⟩
     case measure=>simp[intOf];omega
   ·have E:i=t.length:=by omega
    subst E;have f:L++[(t.take t.length).drop a]=Ap 10 t:=by
     rw[k,Yi,Tv];have:=OV l;rw[Yi] at this;exact this
    rw[Yi] at f d r I;have b:=Aa (⟨d,f⟩:_/\_);clear c d k l f
    go_wp2_with (at_builtin;refine Eq rfl _ _ _ rfl rfl rfl rfl r ?_)
    go_roundw
    case rel=>exact⟨t.length+1,t.length+1,_,by go_num,by go_num,by simp;omega,Xf _,b.out.1,.inr ⟨rfl,b.out.2⟩⟩
    case measure=>simp[intOf]
  ·subst x;have F:¬((t.length:Int)+1<=(t.length:Int)):=by omega
   have b:=Aa (⟨c,s⟩:_/\_);clear c s
   go_wp2_with fail
   go_ret
   exact⟨_,rfl,by rw[<-b.out.2];exact b.out.1⟩
theorem acb {k:IntKind} {a b:Int} (h:a=b):Ending.returned (.int k a) = .returned (.int k b):=by rw[h]
def DO (t:Tx):Int:=if Aq t then((t.getD 1 0).toNat:Int) - 48 else -1
theorem Uw (a b:UInt8):DO [a,b]=if ((a.toNat:Int)=114/\48<=(b.toNat:Int)/\(b.toNat:Int)<=51) then(b.toNat:Int) - 48 else -1:=by
 unfold DO Aq;simp only[Yh,decide_eq_true_eq,and_assoc]
 rfl
theorem aab {t:Tx} (h:t.length≠2):Aq t=false:=by
 match t,h with
 |[],_=>rfl
 |[_],_=>rfl
 |_::_::_::_,_=>rfl
theorem Ux (t:Tx):(0<=DO t)↔Aq t=true:=by
 unfold DO
 cases c:Aq t with
 |false=>simp
 |true=>
  simp only[if_true,iff_true]
  match t,c with
  |[a,b],c=>
   unfold Aq at c;simp only[Yh,decide_eq_true_eq] at c;show 0<=(b.toNat:Int) - 48
   omega
theorem Ly (t:Tx) (w:Xg):X3 Tryz.prog 146 #[.string (bs t)] w λe w'=>e = .returned (.int .i64 (DO t))/\w'=w:=by
 have f:=AY t
 by_cases d:t.length=2
 ·obtain⟨a,b,rfl⟩:∃a b,t=[a,b]:=by
   match t,d with
   |[a,b],_=>exact⟨a,b,rfl⟩
  have l:∀h,(bs [a,b])[0]'h=a:=λh=>CO _ 0 h;have k:∀h,(bs [a,b])[1]'h=b:=λh=>CO _ 1 h;have m:(bs [a,b]).size=2:=f;have i:=Aa (Uw a b);obtain⟨r,c⟩:∃r,Hid (DO [a,b]=r):=⟨_,rfl⟩;rw[c.out]
  go_enter Tryz.func146,Tryz.ntmps146
  go_wp2
  all_goals
   go_ret
   refine⟨acb ?_,rfl⟩;rw[<-c.out,i.out]
   split<;>omega
 ·have j:¬((t.length:Int)=2):=by omega
  have g:DO t = -1:=by unfold DO;rw[aab d];rfl
  rw[g]
  go_enter Tryz.func146,Tryz.ntmps146
  go_wp2
  all_goals
   go_ret
   exact⟨rfl,rfl⟩
theorem aad (t:Tx):Ar t=true↔1<=t.length/\t.length<=8/\Aq t=false/\t.all (λc=>BQ c||AW c)=true/\BQ (t.headD 0)=true:=by
 unfold Ar;simp only[Yh,decide_eq_true_eq,Bool.not_eq_true',and_assoc]
theorem JO (t:Tx) (w:Xg):X3 Tryz.prog 110 #[.string (bs t)] w λe w'=>e = .returned (.bool (Ar t))/\w'=w:=by
 have U:=AY t
 by_cases q:t=[]
 ·subst q;have a:Ar []=false:=rfl;have k:bs []=Yr:=rfl;rw[a,k]
  go_enter Tryz.func110,Tryz.ntmps110
  go_wp2_with fail
  go_ret
  exact⟨rfl,rfl⟩
 ·have N:(bs t).toList.isEmpty=false:=by rw[AR];simpa using q
  have I:0<t.length:=List.length_pos_iff.2 q;have S:∀h,(bs t)[0]'h=t[0]:=λh=>CO t 0 h;have z:Hid (t.headD 0=t[0]):=by
   match t,I with
   |c::r,_=>rfl
  by_cases C:t.length<=8
  ·have H:¬(8<(t.length:Int)):=by omega
   by_cases g:BQ t[0]=true
   ·obtain⟨T,O⟩:97<=(t[0].toNat:Int)/\(t[0].toNat:Int)<=122:=by unfold BQ at g;simpa using g
    have M:¬((t[0].toNat:Int)<97):=by omega
    have K:¬(122<(t[0].toNat:Int)):=by omega
    have m:=Ly t;have n:=Ux t
    by_cases d:Aq t=true
    ·have a:Ar t=false:=Kj (λh=>by rw[d] at h;exact absurd h.2.2 (by simp));have l:0<=DO t:=n.2 d;rw[a];generalize DO t=r at m l;clear n d
     go_enter Tryz.func110,Tryz.ntmps110
     go_wp2_with fail
     refine(m _).mono ?_;rintro e w1 ⟨rfl,rfl⟩
     go_wp2_with fail
     go_ret
     exact⟨rfl,rfl⟩
    ·have l:¬(0<=DO t):=λh=>d (n.1 h);have a:Hid (Ar t=t.all (λc=>BQ c||AW c)):=by
      unfold Hid;rw[Qu (by omega) C (by simpa using d),z.out,g];exact Bool.and_true _
     generalize DO t=r at m l;have P:r<0:=by omega
     clear n d l
     go_enter Tryz.func110,Tryz.ntmps110
     go_wp2_with fail
     refine(m _).mono ?_;rintro e w1 ⟨rfl,rfl⟩
     go_wp2_with fail
     go_loopw [3] (λs wr=>∃i:Nat,i<=t.length/\s = .int .i64 i/\(t.take i).all (λc=>BQ c||AW c)=true/\wr=w1) (λs _=>t.length - (intOf s).toNat)
     case atStart=>exact⟨0,XD _,rfl,by simp,rfl⟩
     case round=>
      obtain⟨i,R,rfl,j,rfl⟩:=hrel
      by_cases E:i<t.length
      ·have k:∀h,(bs t)[i]'h=t[i]:=λh=>CO t i h;have V:(i:Int)<(t.length:Int):=by omega
       have f:=Aa (⟨KC (p:=λc=>BQ c||AW c) E,KD (p:=λc=>BQ c||AW c) E,j⟩:_/\_/\_);clear j;have F:Hid (((97<=(t[i].toNat:Int)/\(t[i].toNat:Int)<=122)\/(48<=(t[i].toNat:Int)/\(t[i].toNat:Int)<=57))->(BQ t[i]||AW t[i])=true):=λh=>by
        unfold BQ AW
        simpa using h
       have v:Hid (¬((97<=(t[i].toNat:Int)/\(t[i].toNat:Int)<=122)\/(48<=(t[i].toNat:Int)/\(t[i].toNat:Int)<=57))->(BQ t[i]||AW t[i])=false):=λh=>by
        cases k:(BQ t[i]||AW t[i]) with
        |false=>rfl
        |true=>refine absurd ?_ h;unfold BQ AW at k;simpa using k
       by_cases o:97<=(t[i].toNat:Int)
       ·by_cases G:(t[i].toNat:Int)<=122
        ·have Q:¬(122<(t[i].toNat:Int)):=by omega
         go_wp2_with fail
         all_goals first
          |(go_roundw;(case rel=>exact⟨i+1,by omega,by go_num,by rw[f.out.1,f.out.2.2,F.out (by omega)];rfl,by trivial⟩);(case measure=>simp[intOf];omega))
          |(exfalso;rename_i b;first|omega|(simp only[ZT,decide_eq_true_eq] at b;omega)|(simp_all<;>omega))
        ·have B:48<=(t[i].toNat:Int):=by omega
         have x:¬((t[i].toNat:Int)<=57):=by omega
         have u:decide ((t[i].toNat:Int)<=122)=false:=decide_eq_false G;have A:decide ((t[i].toNat:Int)<=57)=false:=decide_eq_false x;have y:(122<(t[i].toNat:Int)):=by omega
         have D:(57<(t[i].toNat:Int)):=by omega
         go_wp2_with fail
         all_goals first
          |(go_ret;exact⟨by rw[a.out,f.out.2.1 (v.out (by omega))];rfl,by trivial⟩)
          |(exfalso;rename_i b;first|omega|(simp only[ZT,decide_eq_true_eq] at b;omega)|(simp_all<;>omega))
       ·by_cases B:48<=(t[i].toNat:Int)
        ·by_cases x:(t[i].toNat:Int)<=57
         ·have u:decide (97<=(t[i].toNat:Int))=false:=decide_eq_false o;have y:((t[i].toNat:Int)<97):=by omega
          go_wp2_with fail
          all_goals first
           |(go_roundw;(case rel=>exact⟨i+1,by omega,by go_num,by rw[f.out.1,f.out.2.2,F.out (by omega)];rfl,by trivial⟩);(case measure=>simp[intOf];omega))
           |(exfalso;rename_i b;first|omega|(simp only[ZT,decide_eq_true_eq] at b;omega)|(simp_all<;>omega))
         ·have u:decide (97<=(t[i].toNat:Int))=false:=decide_eq_false o;have A:decide ((t[i].toNat:Int)<=57)=false:=decide_eq_false x;have y:((t[i].toNat:Int)<97):=by omega
          have D:(57<(t[i].toNat:Int)):=by omega
          go_wp2_with fail
          all_goals first
           |(go_ret;exact⟨by rw[a.out,f.out.2.1 (v.out (by omega))];rfl,by trivial⟩)
           |(exfalso;rename_i b;first|omega|(simp only[ZT,decide_eq_true_eq] at b;omega)|(simp_all<;>omega))
        ·have u:decide (97<=(t[i].toNat:Int))=false:=decide_eq_false o;have A:decide (48<=(t[i].toNat:Int))=false:=decide_eq_false B;have y:((t[i].toNat:Int)<97):=by omega
         have D:((t[i].toNat:Int)<48):=by omega
         go_wp2_with fail
         all_goals first
          |(go_ret;exact⟨by rw[a.out,f.out.2.1 (v.out (by omega))];rfl,by trivial⟩)
          |(exfalso;rename_i b;first|omega|(simp only[ZT,decide_eq_true_eq] at b;omega)|(simp_all<;>omega))
      ·have J:Hid (t.all (λc=>BQ c||AW c)=true):=by rw[List.take_of_length_le (by omega)] at j;exact j
       clear j
       go_wp2_with fail
       go_ret
       exact⟨by rw[a.out,J.out];rfl,by trivial⟩
   ·have a:Ar t=false:=by
     cases d:Ar t with
     |false=>rfl
     |true=>have:=((aad t).1 d).2.2.2.2;rw[z.out] at this;exact absurd this g
    rw[a]
    by_cases M:(t[0].toNat:Int)<97
    ·go_enter Tryz.func110,Tryz.ntmps110
     go_wp2_with fail
     go_ret
     exact⟨rfl,rfl⟩
    ·have K:122<(t[0].toNat:Int):=by unfold BQ at g;simp at g;omega
     go_enter Tryz.func110,Tryz.ntmps110
     go_wp2_with fail
     go_ret
     exact⟨rfl,rfl⟩
  ·have H:8<(t.length:Int):=by omega
   have a:Ar t=false:=Kj (λh=>C h.2.1);rw[a]
   go_enter Tryz.func110,Tryz.ntmps110
   go_wp2_with fail
   go_ret
   exact⟨rfl,rfl⟩
end Go.Proofs.YtdcacoifehkioaaGreatDoor
