import Derived.Test.YtdcacoifehkioaaGreatDoorExH3
import Derived.Test.YtdcacoifehkioaaGreatDoorExH16
import Derived.BigQuiet
import Derived.Test.YtdcacoifehkioaaGreatDoorExH14
import Derived.Test.YtdcacoifehkioaaGreatDoorExH4
import Derived.Test.YtdcacoifehkioaaGreatDoorExH15
open Go renaming World->Xh,Calls->XX,wp_region_held_drew->Xx,wpAnyH_done->Yd,Value->Xk,heap_setCell_same->Xj,bodyPost_ret->XJ
open Go.RowKit renaming Below->Xm,wrap64->XO
open Nat renaming le_refl->Xd,le_trans->Xu,le_succ->ago
open Go.Act renaming put->XF
open List renaming mem_cons->XR,not_mem_nil->X8,map_append->XI
open Go.RowKit.Below renaming heap_setCell->Xo,refl->Xq
open Go.World renaming cell?->Xg,alloc_heap_new->Xi,frozen?->XP
set_option maxRecDepth 100000
set_option maxHeartbeats 1000000
set_option linter.unusedVariables false
set_option linter.unusedSimpArgs false
namespace Go.Proofs.YtdcacoifehkioaaGreatDoor
open Go.RowKit Go.Proofs.Cod
section
variable {w w':Xh} {b sb:Nat} {p:PD} {s:MS} {t:Nat} {x:Ad} {e:Ev}
structure FS (s:MS) (t:Nat) (x:Ad):Prop where
 t4:t<4
 tl:t<s.thr.length
 rl:(s.th t).regs.length=4
 rv:∀v,v∈(s.th t).regs->Cu v
 r:0<=x.r/\x.r<4
 a:Fk x.aR x.aN
 b:Fk x.bR x.bN
 x0:0<=x.x
theorem FS.va (h:FS s t x):Cu (Af (s.th t) x.aR x.aN):=by
 unfold Af
 split
 ·rename_i q;have:=h.a.2.2 q;have b:=h.a.1;exact h.rv _ (CL (by rw[h.rl];omega))
 ·exact⟨h.a.1,h.a.2.1⟩
theorem FS.vb (h:FS s t x):Cu (Af (s.th t) x.bR x.bN):=by
 unfold Af
 split
 ·rename_i q;have:=h.b.2.2 q;have a:=h.b.1;exact h.rv _ (CL (by rw[h.rl];omega))
 ·exact⟨h.b.1,h.b.2.1⟩
theorem Nj {a b:Int} (d:Cu a) (c:Cu b):a*b<2000000:=by
 have e:a*b<=999*b:=Int.mul_le_mul_of_nonneg_right (by have:=d.2;omega) c.1;have:=c.2
 omega
theorem aec (h:AF w b sb p s t x e) (c:FS s t x) :
 XX Tryz.prog 74 #[Ab sb] w λr w'=>r = .returned (.tuple #[])/\Bt w w' b sb p (s.Ae t {s.th t with regs:=(s.th t).regs.set x.r.toNat (Af (s.th t) x.aR x.aN % 1000)}) t x e:=by
 obtain⟨-,-,c4,c5,-,-,-⟩:=h.ins;have V:=EX h c.t4 c.rl _ _ c.a;have A:∀w',Xm w.heap.size w w'->_:=λw' d=>LW (h.below d) c.t4 c.tl c.rl c.r (Af (s.th t) x.aR x.aN) (by have:=c.va.1;omega) (by have:=c.va.2;omega);replace A:=Aa A;obtain⟨v,f⟩:∃v,Af (s.th t) x.aR x.aN=v:=⟨_,rfl⟩;rw[f] at V A |-;clear h c f;unfold Ab at *
 go_enter Tryz.func74,Tryz.ntmps74
 go_wp2_with fail
 refine V.mono ?_;rintro o w1 ⟨rfl,d⟩;have g:=A.out w1 d;have l:=Aa d;clear A V d
 go_wp2_with fail
 refine g.mono ?_;rintro m n ⟨rfl,j⟩;have i:=Aa j;clear j g
 go_wp2_with fail
 go_end0
 exact⟨rfl,i.out.v,(Ac.DG l.out).trans i.out.k⟩
theorem ael (h:AF w b sb p s t x e) (d:FS s t x) :
 XX Tryz.prog 77 #[Ab sb] w λr w'=>r = .returned (.tuple #[])/\Bt w w' b sb p (s.Ae t {s.th t with regs:=(s.th t).regs.set x.r.toNat ((Af (s.th t) x.aR x.aN+Af (s.th t) x.bR x.bN) % 1000)}) t x e:=by
 obtain⟨-,-,c4,c5,P,Q,-⟩:=h.ins;have V:=Aa (λw' (q:Xm w.heap.size w w')=>EX (h.below q) d.t4 d.rl _ _ d.a);have N:=Aa (λw' (q:Xm w.heap.size w w')=>EX (h.below q) d.t4 d.rl _ _ d.b);have m:=d.va;have n:=d.vb;have H:=Aa h;have E:Xm w.heap.size w w.drew:=⟨rfl,rfl,rfl,Xd _,λ_ _=>rfl⟩;have A:=Aa (λw' (q:Xm w.heap.size w w')=>LW (h.below q) d.t4 d.tl d.rl d.r (Af (s.th t) x.aR x.aN+Af (s.th t) x.bR x.bN) (by have:=m.1;have:=n.1;have:=m.2;have:=n.2;omega) (by have:=m.2;have:=n.2;have:=m.1;have:=n.1;omega));obtain⟨v,z⟩:∃v,Af (s.th t) x.aR x.aN=v:=⟨_,rfl⟩;obtain⟨u,C⟩:∃u,Af (s.th t) x.bR x.bN=u:=⟨_,rfl⟩;rw[z] at m;rw[C] at n;simp only[z,C] at V N A |-;obtain⟨s',F⟩:∃s':MS,s.Ae t {s.th t with regs:=(s.th t).regs.set x.r.toNat ((v+u) % 1000)}=s':=⟨_,rfl⟩;simp only[F] at A |-;clear F;obtain⟨U,X⟩:=m;obtain⟨W,T⟩:=n;have O:XO (v+u)=v+u:=by unfold XO;omega
 have R:IntKind.i64.wrap (v+u)=v+u:=(IntWalk.i64_left _).trans O;clear O;clear h d z C U X W T;unfold Ab at *
 go_enter Tryz.func77,Tryz.ntmps77
 go_wp2_with fail
 refine Xx (S:=(λw'=>w'.cell? ⟨sb,4,none⟩=some (.bool x.aR)/\w'.cell? ⟨sb,5,none⟩=some (.int .i64 x.aN)/\w'.cell? ⟨sb,6,none⟩=some (.bool x.bR)/\w'.cell? ⟨sb,7,none⟩=some (.int .i64 x.bN))) (by kernel_rfl) ⟨c4,c5,P,Q⟩ (λc=>?_);refine tk 0 c ?_;refine tk 1 c ?_;refine tk 2 c ?_;refine tk 3 c ?_;refine tk 4 c ?_;refine tk 5 c ?_;refine tk 6 c ?_;refine tk 8 c ?_;refine tk 9 c ?_;refine tk 10 c ?_;refine tk 11 c ?_;refine tk 12 c ?_;refine tk 13 c ?_;refine rd 7 (λK f=>?_)
 go_simp
 go_at_call 76
 refine(V.out _ E).mono ?_;rintro e1 w1 ⟨rfl,o⟩;replace o:Xm w.heap.size w w1:=E.trans o;obtain⟨-,-,j,l,g,i,-⟩:=(H.out.below o).ins;have M:=N.out w1 o;have B:=Aa o;clear o
 go_wp2_with fail
 refine f.out _ _ ⟨j,l,g,i⟩ (λc=>?_);clear f K j l g i
 try simp only[XF,sq]
 refine rd 14 (λK f=>?_)
 go_simp
 go_at_call 76
 refine M.mono ?_;rintro Z G ⟨rfl,y⟩;replace y:Xm w.heap.size w G:=B.out.trans (y.mono B.out.size);obtain⟨-,-,j,l,g,i,-⟩:=(H.out.below y).ins;have I:=Aa y;clear y M B
 go_wp2_with fail
 refine f.out _ _ ⟨j,l,g,i⟩ (λc=>?_);clear f K
 try simp only[XF,sq]
 refine rd 15 (λK f=>?_)
 go_simp
 refine f.out _ _ ⟨j,l,g,i⟩ (λc=>?_);clear f K j l g i
 try simp only[XF,sq]
 refine rd 16 (λK f=>?_)
 go_simp
 go_at_call 75
 try rw[R]
 refine(A.out G I.out).mono ?_;rintro Y w3 ⟨rfl,D⟩;obtain⟨-,-,j,l,g,i,-⟩:=D.v.ins;have J:=Aa D;clear D A
 go_wp2_with fail
 refine f.out _ _ ⟨j,l,g,i⟩ (λc=>?_);clear f K j l g i
 try simp only[XF,sq]
 refine Yd (by kernel_rfl) ?_ _
 go_wp2_with fail
 go_end0
 exact⟨rfl,J.out.v,(Ac.DG I.out).trans J.out.k⟩
theorem aea (h:AF w b sb p s t x e) (d:FS s t x) :
 XX Tryz.prog 78 #[Ab sb] w λr w'=>r = .returned (.tuple #[])/\Bt w w' b sb p (s.Ae t {s.th t with regs:=(s.th t).regs.set x.r.toNat ((Af (s.th t) x.aR x.aN - Af (s.th t) x.bR x.bN) % 1000)}) t x e:=by
 obtain⟨-,-,c4,c5,P,Q,-⟩:=h.ins;have V:=Aa (λw' (q:Xm w.heap.size w w')=>EX (h.below q) d.t4 d.rl _ _ d.a);have N:=Aa (λw' (q:Xm w.heap.size w w')=>EX (h.below q) d.t4 d.rl _ _ d.b);have m:=d.va;have n:=d.vb;have H:=Aa h;have E:Xm w.heap.size w w.drew:=⟨rfl,rfl,rfl,Xd _,λ_ _=>rfl⟩;have A:=Aa (λw' (q:Xm w.heap.size w w')=>LW (h.below q) d.t4 d.tl d.rl d.r (Af (s.th t) x.aR x.aN - Af (s.th t) x.bR x.bN) (by have:=m.1;have:=n.1;have:=m.2;have:=n.2;omega) (by have:=m.2;have:=n.2;have:=m.1;have:=n.1;omega));obtain⟨v,z⟩:∃v,Af (s.th t) x.aR x.aN=v:=⟨_,rfl⟩;obtain⟨u,C⟩:∃u,Af (s.th t) x.bR x.bN=u:=⟨_,rfl⟩;rw[z] at m;rw[C] at n;simp only[z,C] at V N A |-;obtain⟨s',F⟩:∃s':MS,s.Ae t {s.th t with regs:=(s.th t).regs.set x.r.toNat ((v - u) % 1000)}=s':=⟨_,rfl⟩;simp only[F] at A |-;clear F;obtain⟨U,X⟩:=m;obtain⟨W,T⟩:=n;have O:XO (v - u)=v - u:=by unfold XO;omega
 have R:IntKind.i64.wrap (v - u)=v - u:=(IntWalk.i64_left _).trans O;clear O;clear h d z C U X W T;unfold Ab at *
 go_enter Tryz.func78,Tryz.ntmps78
 go_wp2_with fail
 refine Xx (S:=(λw'=>w'.cell? ⟨sb,4,none⟩=some (.bool x.aR)/\w'.cell? ⟨sb,5,none⟩=some (.int .i64 x.aN)/\w'.cell? ⟨sb,6,none⟩=some (.bool x.bR)/\w'.cell? ⟨sb,7,none⟩=some (.int .i64 x.bN))) (by kernel_rfl) ⟨c4,c5,P,Q⟩ (λc=>?_);refine tk 0 c ?_;refine tk 1 c ?_;refine tk 2 c ?_;refine tk 3 c ?_;refine tk 4 c ?_;refine tk 5 c ?_;refine tk 6 c ?_;refine tk 8 c ?_;refine tk 9 c ?_;refine tk 10 c ?_;refine tk 11 c ?_;refine tk 12 c ?_;refine tk 13 c ?_;refine rd 7 (λK f=>?_)
 go_simp
 go_at_call 76
 refine(V.out _ E).mono ?_;rintro e1 w1 ⟨rfl,o⟩;replace o:Xm w.heap.size w w1:=E.trans o;obtain⟨-,-,j,l,g,i,-⟩:=(H.out.below o).ins;have M:=N.out w1 o;have B:=Aa o;clear o
 go_wp2_with fail
 refine f.out _ _ ⟨j,l,g,i⟩ (λc=>?_);clear f K j l g i
 try simp only[XF,sq]
 refine rd 14 (λK f=>?_)
 go_simp
 go_at_call 76
 refine M.mono ?_;rintro Z G ⟨rfl,y⟩;replace y:Xm w.heap.size w G:=B.out.trans (y.mono B.out.size);obtain⟨-,-,j,l,g,i,-⟩:=(H.out.below y).ins;have I:=Aa y;clear y M B
 go_wp2_with fail
 refine f.out _ _ ⟨j,l,g,i⟩ (λc=>?_);clear f K
 try simp only[XF,sq]
 refine rd 15 (λK f=>?_)
 go_simp
 refine f.out _ _ ⟨j,l,g,i⟩ (λc=>?_);clear f K j l g i
 try simp only[XF,sq]
 refine rd 16 (λK f=>?_)
 go_simp
 go_at_call 75
 try rw[R]
 refine(A.out G I.out).mono ?_;rintro Y w3 ⟨rfl,D⟩;obtain⟨-,-,j,l,g,i,-⟩:=D.v.ins;have J:=Aa D;clear D A
 go_wp2_with fail
 refine f.out _ _ ⟨j,l,g,i⟩ (λc=>?_);clear f K j l g i
 try simp only[XF,sq]
 refine Yd (by kernel_rfl) ?_ _
 go_wp2_with fail
 go_end0
 exact⟨rfl,J.out.v,(Ac.DG I.out).trans J.out.k⟩
theorem aee (h:AF w b sb p s t x e) (d:FS s t x) :
 XX Tryz.prog 79 #[Ab sb] w λr w'=>r = .returned (.tuple #[])/\Bt w w' b sb p (s.Ae t {s.th t with regs:=(s.th t).regs.set x.r.toNat ((Af (s.th t) x.aR x.aN*Af (s.th t) x.bR x.bN) % 1000)}) t x e:=by
 obtain⟨-,-,c4,c5,U,W,-⟩:=h.ins;have V:=Aa (λw' (n:Xm w.heap.size w w')=>EX (h.below n) d.t4 d.rl _ _ d.a);have P:=Aa (λw' (n:Xm w.heap.size w w')=>EX (h.below n) d.t4 d.rl _ _ d.b);have q:=d.va;have y:=d.vb;have H:=Aa h;have G:Xm w.heap.size w w.drew:=⟨rfl,rfl,rfl,Xd _,λ_ _=>rfl⟩;have A:=Aa (λw' (n:Xm w.heap.size w w')=>LW (h.below n) d.t4 d.tl d.rl d.r (Af (s.th t) x.aR x.aN*Af (s.th t) x.bR x.bN) (by have:=Int.mul_nonneg q.1 y.1;omega) (Nj q y));obtain⟨v,z⟩:∃v,Af (s.th t) x.aR x.aN=v:=⟨_,rfl⟩;obtain⟨u,C⟩:∃u,Af (s.th t) x.bR x.bN=u:=⟨_,rfl⟩;rw[z] at q;rw[C] at y;simp only[z,C] at V P A |-;obtain⟨s',I⟩:∃s':MS,s.Ae t {s.th t with regs:=(s.th t).regs.set x.r.toNat ((v*u) % 1000)}=s':=⟨_,rfl⟩;simp only[I] at A |-;clear I;obtain⟨E,R⟩:=q;obtain⟨F,Q⟩:=y;have T:XO (v*u)=v*u:=by have:=Int.mul_nonneg E F;have:=Nj (a:=v) (b:=u) ⟨E,R⟩ ⟨F,Q⟩;unfold XO;omega
 have X:IntKind.i64.wrap (v*u)=v*u:=(IntWalk.i64_left _).trans T;clear T;clear h d z C E R F Q;unfold Ab at *
 go_enter Tryz.func79,Tryz.ntmps79
 go_wp2_with fail
 refine Xx (S:=(λw'=>w'.cell? ⟨sb,4,none⟩=some (.bool x.aR)/\w'.cell? ⟨sb,5,none⟩=some (.int .i64 x.aN)/\w'.cell? ⟨sb,6,none⟩=some (.bool x.bR)/\w'.cell? ⟨sb,7,none⟩=some (.int .i64 x.bN))) (by kernel_rfl) ⟨c4,c5,U,W⟩ (λc=>?_);refine tk 0 c ?_;refine tk 1 c ?_;refine tk 2 c ?_;refine tk 3 c ?_;refine tk 4 c ?_;refine tk 5 c ?_;refine tk 6 c ?_;refine tk 8 c ?_;refine tk 9 c ?_;refine tk 10 c ?_;refine tk 11 c ?_;refine tk 12 c ?_;refine tk 13 c ?_;refine rd 7 (λK f=>?_)
 go_simp
 go_at_call 76
 refine(V.out _ G).mono ?_;rintro e1 w1 ⟨rfl,m⟩;replace m:Xm w.heap.size w w1:=G.trans m;obtain⟨-,-,j,l,g,i,-⟩:=(H.out.below m).ins;have O:=P.out w1 m;have B:=Aa m;clear m
 go_wp2_with fail
 refine f.out _ _ ⟨j,l,g,i⟩ (λc=>?_);clear f K j l g i
 try simp only[XF,sq]
 refine rd 14 (λK f=>?_)
 go_simp
 go_at_call 76
 refine O.mono ?_;rintro Z J ⟨rfl,o⟩;replace o:Xm w.heap.size w J:=B.out.trans (o.mono B.out.size);obtain⟨-,-,j,l,g,i,-⟩:=(H.out.below o).ins;have M:=Aa o;clear o O B
 go_wp2_with fail
 refine f.out _ _ ⟨j,l,g,i⟩ (λc=>?_);clear f K
 try simp only[XF,sq]
 refine rd 15 (λK f=>?_)
 go_simp
 refine f.out _ _ ⟨j,l,g,i⟩ (λc=>?_);clear f K j l g i
 try simp only[XF,sq]
 refine rd 16 (λK f=>?_)
 go_simp
 go_at_call 75
 try rw[X]
 refine(A.out J M.out).mono ?_;rintro Y w3 ⟨rfl,D⟩;obtain⟨-,-,j,l,g,i,-⟩:=D.v.ins;have N:=Aa D;clear D A
 go_wp2_with fail
 refine f.out _ _ ⟨j,l,g,i⟩ (λc=>?_);clear f K j l g i
 try simp only[XF,sq]
 refine Yd (by kernel_rfl) ?_ _
 go_wp2_with fail
 go_end0
 exact⟨rfl,N.out.v,(Ac.DG M.out).trans N.out.k⟩
theorem aej (h:AF w b sb p s t x e) (d:FS s t x) :
 XX Tryz.prog 93 #[Ab sb] w λr w'=>r = .returned (.tuple #[])/\Bt w w' b sb p (if (Af (s.th t) x.aR x.aN == Af (s.th t) x.bR x.bN)=true then s.Ae t {s.th t with pc:=x.x.toNat} else s) t x e:=by
 obtain⟨-,-,c4,c5,P,R,-⟩:=h.ins;have V:=Aa (λw' (o:Xm w.heap.size w w')=>EX (h.below o) d.t4 d.rl _ _ d.a);have O:=Aa (λw' (o:Xm w.heap.size w w')=>EX (h.below o) d.t4 d.rl _ _ d.b);have F:=d.va;have G:=d.vb;have H:=Aa h;have D:Xm w.heap.size w w.drew:=⟨rfl,rfl,rfl,Xd _,λ_ _=>rfl⟩;have A:=Aa (λw' (o:Xm w.heap.size w w')=>NE (h.below o) d.t4 d.tl d.x0 (Af (s.th t) x.aR x.aN == Af (s.th t) x.bR x.bN));obtain⟨v,y⟩:∃v,Af (s.th t) x.aR x.aN=v:=⟨_,rfl⟩;obtain⟨u,B⟩:∃u,Af (s.th t) x.bR x.bN=u:=⟨_,rfl⟩;rw[y] at F;rw[B] at G;simp only[y,B] at V O A |-;obtain⟨g,Q⟩:∃g:Bool,(v == u)=g:=⟨_,rfl⟩;simp only[Q] at A |-;obtain⟨s',E⟩:∃s':MS,(if g=true then s.Ae t {s.th t with pc:=x.x.toNat} else s)=s':=⟨_,rfl⟩;simp only[E] at A |-;clear E;obtain⟨U,X⟩:=F;obtain⟨W,T⟩:=G;clear h d y B U X W T;unfold Ab at *
 go_enter Tryz.func93,Tryz.ntmps93
 go_wp2_with fail
 refine Xx (S:=(λw'=>w'.cell? ⟨sb,4,none⟩=some (.bool x.aR)/\w'.cell? ⟨sb,5,none⟩=some (.int .i64 x.aN)/\w'.cell? ⟨sb,6,none⟩=some (.bool x.bR)/\w'.cell? ⟨sb,7,none⟩=some (.int .i64 x.bN))) (by kernel_rfl) ⟨c4,c5,P,R⟩ (λc=>?_);refine tk 0 c ?_;refine tk 1 c ?_;refine tk 2 c ?_;refine tk 3 c ?_;refine tk 4 c ?_;refine tk 5 c ?_;refine tk 6 c ?_;refine tk 8 c ?_;refine tk 9 c ?_;refine tk 10 c ?_;refine tk 11 c ?_;refine tk 12 c ?_;refine tk 13 c ?_;refine rd 7 (λK i=>?_)
 go_simp
 go_at_call 76
 refine(V.out _ D).mono ?_;rintro e1 w1 ⟨rfl,n⟩;replace n:Xm w.heap.size w w1:=D.trans n;obtain⟨-,-,l,m,f,j,-⟩:=(H.out.below n).ins;have N:=O.out w1 n;have z:=Aa n;clear n
 go_wp2_with fail
 refine i.out _ _ ⟨l,m,f,j⟩ (λc=>?_);clear i K l m f j
 try simp only[XF,sq]
 refine rd 14 (λK i=>?_)
 go_simp
 go_at_call 76
 refine N.mono ?_;rintro Z I ⟨rfl,q⟩;replace q:Xm w.heap.size w I:=z.out.trans (q.mono z.out.size);obtain⟨-,-,l,m,f,j,-⟩:=(H.out.below q).ins;have J:=Aa q;clear q N z
 go_wp2_with fail
 refine i.out _ _ ⟨l,m,f,j⟩ (λc=>?_);clear i K l m f j
 try simp only[XF,sq]
 refine tk 15 c ?_;refine rd 16 (λK i=>?_)
 go_simp
 go_at_call 92
 refine(A.out I J.out).mono ?_;rintro Y w3 ⟨rfl,C⟩;obtain⟨-,-,l,m,f,j,-⟩:=C.v.ins;have M:=Aa C;clear C A
 go_wp2_with fail
 refine i.out _ _ ⟨l,m,f,j⟩ (λc=>?_);clear i K l m f j
 try simp only[XF,sq]
 refine Yd (by kernel_rfl) ?_ _
 go_wp2_with fail
 go_end0
 exact⟨rfl,M.out.v,(Ac.DG J.out).trans M.out.k⟩
theorem aei (h:AF w b sb p s t x e) (d:FS s t x) :
 XX Tryz.prog 94 #[Ab sb] w λr w'=>r = .returned (.tuple #[])/\Bt w w' b sb p (if (decide (Af (s.th t) x.aR x.aN<Af (s.th t) x.bR x.bN))=true then s.Ae t {s.th t with pc:=x.x.toNat} else s) t x e:=by
 obtain⟨-,-,c4,c5,P,R,-⟩:=h.ins;have V:=Aa (λw' (o:Xm w.heap.size w w')=>EX (h.below o) d.t4 d.rl _ _ d.a);have O:=Aa (λw' (o:Xm w.heap.size w w')=>EX (h.below o) d.t4 d.rl _ _ d.b);have F:=d.va;have G:=d.vb;have H:=Aa h;have D:Xm w.heap.size w w.drew:=⟨rfl,rfl,rfl,Xd _,λ_ _=>rfl⟩;have A:=Aa (λw' (o:Xm w.heap.size w w')=>NE (h.below o) d.t4 d.tl d.x0 (decide (Af (s.th t) x.aR x.aN<Af (s.th t) x.bR x.bN)));obtain⟨v,y⟩:∃v,Af (s.th t) x.aR x.aN=v:=⟨_,rfl⟩;obtain⟨u,B⟩:∃u,Af (s.th t) x.bR x.bN=u:=⟨_,rfl⟩;rw[y] at F;rw[B] at G;simp only[y,B] at V O A |-;obtain⟨g,Q⟩:∃g:Bool,decide (v<u)=g:=⟨_,rfl⟩;simp only[Q] at A |-;obtain⟨s',E⟩:∃s':MS,(if g=true then s.Ae t {s.th t with pc:=x.x.toNat} else s)=s':=⟨_,rfl⟩;simp only[E] at A |-;clear E;obtain⟨U,X⟩:=F;obtain⟨W,T⟩:=G;clear h d y B U X W T;unfold Ab at *
 go_enter Tryz.func94,Tryz.ntmps94
 go_wp2_with fail
 refine Xx (S:=(λw'=>w'.cell? ⟨sb,4,none⟩=some (.bool x.aR)/\w'.cell? ⟨sb,5,none⟩=some (.int .i64 x.aN)/\w'.cell? ⟨sb,6,none⟩=some (.bool x.bR)/\w'.cell? ⟨sb,7,none⟩=some (.int .i64 x.bN))) (by kernel_rfl) ⟨c4,c5,P,R⟩ (λc=>?_);refine tk 0 c ?_;refine tk 1 c ?_;refine tk 2 c ?_;refine tk 3 c ?_;refine tk 4 c ?_;refine tk 5 c ?_;refine tk 6 c ?_;refine tk 8 c ?_;refine tk 9 c ?_;refine tk 10 c ?_;refine tk 11 c ?_;refine tk 12 c ?_;refine tk 13 c ?_;refine rd 7 (λK i=>?_)
 go_simp
 go_at_call 76
 refine(V.out _ D).mono ?_;rintro e1 w1 ⟨rfl,n⟩;replace n:Xm w.heap.size w w1:=D.trans n;obtain⟨-,-,l,m,f,j,-⟩:=(H.out.below n).ins;have N:=O.out w1 n;have z:=Aa n;clear n
 go_wp2_with fail
 refine i.out _ _ ⟨l,m,f,j⟩ (λc=>?_);clear i K l m f j
 try simp only[XF,sq]
 refine rd 14 (λK i=>?_)
 go_simp
 go_at_call 76
 refine N.mono ?_;rintro Z I ⟨rfl,q⟩;replace q:Xm w.heap.size w I:=z.out.trans (q.mono z.out.size);obtain⟨-,-,l,m,f,j,-⟩:=(H.out.below q).ins;have J:=Aa q;clear q N z
 go_wp2_with fail
 refine i.out _ _ ⟨l,m,f,j⟩ (λc=>?_);clear i K l m f j
 try simp only[XF,sq]
 refine tk 15 c ?_;refine rd 16 (λK i=>?_)
 go_simp
 go_at_call 92
 refine(A.out I J.out).mono ?_;rintro Y w3 ⟨rfl,C⟩;obtain⟨-,-,l,m,f,j,-⟩:=C.v.ins;have M:=Aa C;clear C A
 go_wp2_with fail
 refine i.out _ _ ⟨l,m,f,j⟩ (λc=>?_);clear i K l m f j
 try simp only[XF,sq]
 refine Yd (by kernel_rfl) ?_ _
 go_wp2_with fail
 go_end0
 exact⟨rfl,M.out.v,(Ac.DG J.out).trans M.out.k⟩
theorem aey (h:AF w b sb p s t x e) (f:FS s t x) :
 XX Tryz.prog 95 #[Ab sb] w λr w'=>r = .returned (.tuple #[])/\(if Af (s.th t) x.aR x.aN≠Af (s.th t) x.bR x.bN then Bt w w' b sb p (s.Ae t {s.th t with ph:=3}) t x {e with k:=9} else Bt w w' b sb p s t x e):=by
 obtain⟨-,-,c4,c5,O,P,-⟩:=h.ins;have V:=Aa (λw' (z:Xm w.heap.size w w')=>EX (h.below z) f.t4 f.rl _ _ f.a);have J:=Aa (λw' (z:Xm w.heap.size w w')=>EX (h.below z) f.t4 f.rl _ _ f.b);have M:=f.va;have N:=f.vb;have H:=Aa h;have D:Xm w.heap.size w w.drew:=⟨rfl,rfl,rfl,Xd _,λ_ _=>rfl⟩;have A:=Aa (λw' (z:Xm w.heap.size w w')=>Tj (h.below z) f.t4 f.tl);obtain⟨v,E⟩:∃v,Af (s.th t) x.aR x.aN=v:=⟨_,rfl⟩;obtain⟨u,I⟩:∃u,Af (s.th t) x.bR x.bN=u:=⟨_,rfl⟩;rw[E] at M;rw[I] at N;simp only[E,I] at V J |-;obtain⟨U,X⟩:=M;obtain⟨W,T⟩:=N
 by_cases q:v=u
 ·have y:(v≠u)=False:=by simp[q]
  simp only[y,if_false];have aa:(v != u)=false:=by simp[q]
  clear y q;clear h f E I U X W T;unfold Ab at *
  go_enter Tryz.func95,Tryz.ntmps95
  go_wp2_with fail
  refine Xx (S:=(λw'=>w'.cell? ⟨sb,4,none⟩=some (.bool x.aR)/\w'.cell? ⟨sb,5,none⟩=some (.int .i64 x.aN)/\w'.cell? ⟨sb,6,none⟩=some (.bool x.bR)/\w'.cell? ⟨sb,7,none⟩=some (.int .i64 x.bN))) (by kernel_rfl) ⟨c4,c5,O,P⟩ (λc=>?_);refine tk 0 c ?_;refine tk 1 c ?_;refine tk 2 c ?_;refine tk 3 c ?_;refine tk 4 c ?_;refine tk 5 c ?_;refine tk 7 c ?_;refine tk 8 c ?_;refine tk 9 c ?_;refine tk 10 c ?_;refine tk 11 c ?_;refine tk 12 c ?_;refine rd 6 (λK j=>?_)
  go_simp
  go_at_call 76
  refine(V.out _ D).mono ?_;rintro Z w1 ⟨rfl,d⟩;replace d:Xm w.heap.size w w1:=D.trans d;obtain⟨-,-,m,n,g,l,-⟩:=(H.out.below d).ins;have C:=J.out w1 d;have o:=Aa d;clear d
  go_wp2_with fail
  refine j.out _ _ ⟨m,n,g,l⟩ (λc=>?_);clear j K m n g l
  try simp only[XF,sq]
  refine rd 13 (λK j=>?_)
  go_simp
  go_at_call 76
  refine C.mono ?_;rintro Y G ⟨rfl,i⟩;replace i:Xm w.heap.size w G:=o.out.trans (i.mono o.out.size);obtain⟨-,-,m,n,g,l,-⟩:=(H.out.below i).ins;have B:=Aa i;clear i C o
  go_wp2_with fail
  refine j.out _ _ ⟨m,n,g,l⟩ (λc=>?_);clear j K m n g l
  try simp only[XF,sq]
  refine tk 14 c ?_;refine Yd (by kernel_rfl) ?_ _;clear c
  go_wp2_with fail
  go_end0
  exact⟨rfl,H.out.below B.out,Ac.DG B.out⟩
 ·have y:(v≠u)=True:=by simp[q]
  simp only[y,if_true];have aa:(v != u)=true:=by simp[q]
  clear y q;clear h f E I U X W T;unfold Ab at *
  go_enter Tryz.func95,Tryz.ntmps95
  go_wp2_with fail
  refine Xx (S:=(λw'=>w'.cell? ⟨sb,4,none⟩=some (.bool x.aR)/\w'.cell? ⟨sb,5,none⟩=some (.int .i64 x.aN)/\w'.cell? ⟨sb,6,none⟩=some (.bool x.bR)/\w'.cell? ⟨sb,7,none⟩=some (.int .i64 x.bN))) (by kernel_rfl) ⟨c4,c5,O,P⟩ (λc=>?_);refine tk 0 c ?_;refine tk 1 c ?_;refine tk 2 c ?_;refine tk 3 c ?_;refine tk 4 c ?_;refine tk 5 c ?_;refine tk 7 c ?_;refine tk 8 c ?_;refine tk 9 c ?_;refine tk 10 c ?_;refine tk 11 c ?_;refine tk 12 c ?_;refine rd 6 (λK j=>?_)
  go_simp
  go_at_call 76
  refine(V.out _ D).mono ?_;rintro Z w1 ⟨rfl,d⟩;replace d:Xm w.heap.size w w1:=D.trans d;obtain⟨-,-,m,n,g,l,-⟩:=(H.out.below d).ins;have C:=J.out w1 d;have o:=Aa d;clear d
  go_wp2_with fail
  refine j.out _ _ ⟨m,n,g,l⟩ (λc=>?_);clear j K m n g l
  try simp only[XF,sq]
  refine rd 13 (λK j=>?_)
  go_simp
  go_at_call 76
  refine C.mono ?_;rintro Y G ⟨rfl,i⟩;replace i:Xm w.heap.size w G:=o.out.trans (i.mono o.out.size);obtain⟨-,-,m,n,g,l,-⟩:=(H.out.below i).ins;have B:=Aa i;clear i C o
  go_wp2_with fail
  refine j.out _ _ ⟨m,n,g,l⟩ (λc=>?_);clear j K m n g l
  try simp only[XF,sq]
  refine tk 14 c ?_;refine Yd (by kernel_rfl) ?_ _;clear c;have F:=A.out G B.out;clear A
  go_wp2_with fail
  refine F.mono ?_;rintro e3 w3 ⟨rfl,R⟩;have Q:=Aa R;clear R F
  go_wp2_with fail
  go_end0
  exact⟨rfl,Q.out.v,(Ac.DG B.out).trans Q.out.k⟩
end
section
variable {w w':Xh} {b sb:Nat} {p:PD} {s:MS} {t:Nat} {x:Ad} {e:Ev}
theorem aef (h:AF w b sb p s t x e) (l:t<4) (m:t<s.thr.length) (j:(s.th t).regs.length=4) (g:0<=x.r/\x.r<4) (n:0<=x.x/\x.x<4) :
 XX Tryz.prog 80 #[Ab sb] w λr w'=>r = .returned (.tuple #[])/\Bt w w' b sb p (s.Ae t {s.th t with regs:=(s.th t).regs.set x.r.toNat (s.vars.getD x.x.toNat 0)}) t x {e with k:=1,o:=x.x,v:=s.vars.getD x.x.toNat 0}:=by
 obtain⟨c0,-⟩:=h.Fx;have A:XX Tryz.prog 81 #[Ab sb,.int .i64 1,.pointer (some ⟨b,0,none⟩)] w λr w'=>r = .returned (.tuple #[])/\Bt w w' b sb p (s.Ae t {s.th t with regs:=(s.th t).regs.set x.r.toNat (s.vars.getD x.x.toNat 0)}) t x {e with k:=1,o:=x.x,v:=s.vars.getD x.x.toNat 0}:=Th h l m j g n 1 (o:=0) (.inl rfl);obtain⟨s',a⟩:∃s':MS,(s.Ae t {s.th t with regs:=(s.th t).regs.set x.r.toNat (s.vars.getD x.x.toNat 0)})=s':=⟨_,rfl⟩;obtain⟨c,d⟩:∃c:Ev,({e with k:=1,o:=x.x,v:=s.vars.getD x.x.toNat 0}:Ev)=c:=⟨_,rfl⟩;simp only[a,d] at A |-;clear h a d;unfold Ab at *
 go_enter Tryz.func80,Tryz.ntmps80
 go_wp2_with fail
 refine A.mono ?_;rintro q w1 ⟨rfl,f⟩;have i:=Aa f;clear A f
 go_wp2_with fail
 go_end0
 exact⟨rfl,i.out⟩
theorem aeb (h:AF w b sb p s t x e) (m:t<4) (l:(s.th t).regs.length=4) (j:Fk x.aR x.aN) (n:0<=x.x/\x.x<4) (i:x.x.toNat<s.vars.length) :
 XX Tryz.prog 82 #[Ab sb] w λr w'=>r = .returned (.tuple #[])/\Bt w w' b sb p {s with vars:=s.vars.set x.x.toNat (Af (s.th t) x.aR x.aN)} t x {e with k:=2,o:=x.x,v:=Af (s.th t) x.aR x.aN}:=by
 obtain⟨c0,-⟩:=h.Fx;have A:XX Tryz.prog 83 #[Ab sb,.int .i64 2,.pointer (some ⟨b,0,none⟩)] w λr w'=>r = .returned (.tuple #[])/\Bt w w' b sb p {s with vars:=s.vars.set x.x.toNat (Af (s.th t) x.aR x.aN)} t x {e with k:=2,o:=x.x,v:=Af (s.th t) x.aR x.aN}:=So h m l j n 2 (o:=0) (.inl rfl) i;obtain⟨s',a⟩:∃s':MS,{s with vars:=s.vars.set x.x.toNat (Af (s.th t) x.aR x.aN)}=s':=⟨_,rfl⟩;obtain⟨c,d⟩:∃c:Ev,({e with k:=2,o:=x.x,v:=Af (s.th t) x.aR x.aN}:Ev)=c:=⟨_,rfl⟩;simp only[a,d] at A |-;clear h a d;unfold Ab at *
 go_enter Tryz.func82,Tryz.ntmps82
 go_wp2_with fail
 refine A.mono ?_;rintro q w1 ⟨rfl,f⟩;have g:=Aa f;clear A f
 go_wp2_with fail
 go_end0
 exact⟨rfl,g.out⟩
theorem aek (h:AF w b sb p s t x e) (l:t<4) (m:t<s.thr.length) (j:(s.th t).regs.length=4) (g:0<=x.r/\x.r<4) (n:0<=x.x/\x.x<4) :
 XX Tryz.prog 84 #[Ab sb] w λr w'=>r = .returned (.tuple #[])/\Bt w w' b sb p (s.Ae t {s.th t with regs:=(s.th t).regs.set x.r.toNat (s.flags.getD x.x.toNat 0)}) t x {e with k:=3,o:=x.x,v:=s.flags.getD x.x.toNat 0}:=by
 obtain⟨c0,-⟩:=h.Fx;have A:XX Tryz.prog 81 #[Ab sb,.int .i64 3,.pointer (some ⟨b,9,none⟩)] w λr w'=>r = .returned (.tuple #[])/\Bt w w' b sb p (s.Ae t {s.th t with regs:=(s.th t).regs.set x.r.toNat (s.flags.getD x.x.toNat 0)}) t x {e with k:=3,o:=x.x,v:=s.flags.getD x.x.toNat 0}:=Th h l m j g n 3 (o:=9) (.inr rfl);obtain⟨s',a⟩:∃s':MS,(s.Ae t {s.th t with regs:=(s.th t).regs.set x.r.toNat (s.flags.getD x.x.toNat 0)})=s':=⟨_,rfl⟩;obtain⟨c,d⟩:∃c:Ev,({e with k:=3,o:=x.x,v:=s.flags.getD x.x.toNat 0}:Ev)=c:=⟨_,rfl⟩;simp only[a,d] at A |-;clear h a d;unfold Ab at *
 go_enter Tryz.func84,Tryz.ntmps84
 go_wp2_with fail
 refine A.mono ?_;rintro q w1 ⟨rfl,f⟩;have i:=Aa f;clear A f
 go_wp2_with fail
 go_end0
 exact⟨rfl,i.out⟩
theorem aed (h:AF w b sb p s t x e) (m:t<4) (l:(s.th t).regs.length=4) (j:Fk x.aR x.aN) (n:0<=x.x/\x.x<4) (i:x.x.toNat<s.flags.length) :
 XX Tryz.prog 85 #[Ab sb] w λr w'=>r = .returned (.tuple #[])/\Bt w w' b sb p {s with flags:=s.flags.set x.x.toNat (Af (s.th t) x.aR x.aN)} t x {e with k:=4,o:=x.x,v:=Af (s.th t) x.aR x.aN}:=by
 obtain⟨c0,-⟩:=h.Fx;have A:XX Tryz.prog 83 #[Ab sb,.int .i64 4,.pointer (some ⟨b,9,none⟩)] w λr w'=>r = .returned (.tuple #[])/\Bt w w' b sb p {s with flags:=s.flags.set x.x.toNat (Af (s.th t) x.aR x.aN)} t x {e with k:=4,o:=x.x,v:=Af (s.th t) x.aR x.aN}:=So h m l j n 4 (o:=9) (.inr rfl) i;obtain⟨s',a⟩:∃s':MS,{s with flags:=s.flags.set x.x.toNat (Af (s.th t) x.aR x.aN)}=s':=⟨_,rfl⟩;obtain⟨c,d⟩:∃c:Ev,({e with k:=4,o:=x.x,v:=Af (s.th t) x.aR x.aN}:Ev)=c:=⟨_,rfl⟩;simp only[a,d] at A |-;clear h a d;unfold Ab at *
 go_enter Tryz.func85,Tryz.ntmps85
 go_wp2_with fail
 refine A.mono ?_;rintro q w1 ⟨rfl,f⟩;have g:=Aa f;clear A f
 go_wp2_with fail
 go_end0
 exact⟨rfl,g.out⟩
theorem aeh (h:AF w b sb p s t x e) :
 XX Tryz.prog 89 #[Ab sb] w λr w'=>r = .returned (.tuple #[])/\Bt w w' b sb p s t x {e with k:=8,o:=x.x}:=by
 have A:=Jd h 8;clear h;unfold Ab at *
 go_enter Tryz.func89,Tryz.ntmps89
 go_wp2_with fail
 refine A.mono ?_;rintro d w1 ⟨rfl,a⟩;have c:=Aa a;clear A a
 go_wp2_with fail
 go_end0
 exact⟨rfl,c.out⟩
theorem aeg (h:AF w b sb p s t x e) (d:t<4) (f:t<s.thr.length) (g:0<=x.x) :
 XX Tryz.prog 91 #[Ab sb] w λr w'=>r = .returned (.tuple #[])/\Bt w w' b sb p (s.Ae t {s.th t with pc:=x.x.toNat}) t x e:=by
 have A:=NE h d f g true;clear h;unfold Ab at *
 go_enter Tryz.func91,Tryz.ntmps91
 go_wp2_with fail
 refine A.mono ?_;rintro i w1 ⟨rfl,a⟩;have c:=Aa a;clear A a
 go_wp2_with fail
 go_end0
 exact⟨rfl,c.out⟩
end
section
variable {w w':Xh} {b sb:Nat} {p:PD} {s:MS} {t:Nat} {x:Ad} {e:Ev}
theorem Wc (s:MS) (t:Nat) (a c:TS):(s.Ae t a).Ae t c=s.Ae t c:=by unfold MS.Ae;simp
theorem Vi (s:MS) {t:Nat} (h:t<s.thr.length) (a:TS):(s.Ae t a).th t=a:=by rw[Fr s t t a h,if_pos rfl]
def Mi (w:Xh) (f b sb:Nat) (p:PD) (t:Nat) (x:Ad) (s':MS) (e':Ev):Prop:=XX Tryz.prog f #[Ab sb] w λr w'=>r = .returned (.tuple #[])/\Bt w w' b sb p s' t x e'
theorem ad6 {nv nf nl:Nat} (N:nv<=4) (I:nf<=4) (K:nl<=4) (D:Ej nv nf nl p.C) (h:AZ nv nf nl p.C s) (E:t<p.C.length) (J:(s.th t).ph=1) (O:BG s x=false) (l:x=Cn\/(Gv nv nf nl p.C.length (p.C.getD t []).length x/\(s.th t).pc<(p.C.getD t []).length)) :
 ∃f,Eh x.op = .func (.func f) #[] #[]/\∀w,AF w b sb p (s.Ae t {s.th t with pc:=(s.th t).pc+1}) t x ⟨t,0,0,0⟩->Mi w f b sb p t x (Bc false s t x).1 (Bc false s t x).2:=by
 have B:=h.th t E;have m:t<4:=by have:=D.four;omega
 have z:t<s.thr.length:=by rw[h.tl];exact E
 have i:(s.Ae t {s.th t with pc:=(s.th t).pc+1}).th t={s.th t with pc:=(s.th t).pc+1}:=Vi s z _;have A:(s.Ae t {s.th t with pc:=(s.th t).pc+1}).thr.length=s.thr.length:=by show (s.thr.set t _).length=_;rw[List.length_set]
 have k:∀y,(s.Ae t {s.th t with pc:=(s.th t).pc+1}).Ae t y=s.Ae t y:=λy=>Wc s t _ y;have G:∀{v:Int},Cu v->v % 1000=v:=λ{v} q=>by have:=q.1;have:=q.2;omega
 have H:∀w,AF w b sb p (s.Ae t {s.th t with pc:=(s.th t).pc+1}) t Cn ⟨t,0,0,0⟩->Mi w 96 b sb p t Cn (Bc false s t Cn).1 (Bc false s t Cn).2:=λw q=>by
  have:=Tn q m (by rw[A];exact z);rw[i,k] at this;exact this
 rcases l with rfl|⟨l,M⟩
 ·exact⟨96,rfl,H⟩
 ·have va:=JH B l.sm.2.1;have e:FS (s.Ae t {s.th t with pc:=(s.th t).pc+1}) t x:=⟨m,by rw[A];exact z,by rw[i];exact B.rl,by rw[i];exact B.rv,l.sm.1,l.sm.2.1,l.sm.2.2,l.x0⟩;have j:∀r n,Af ((s.Ae t {s.th t with pc:=(s.th t).pc+1}).th t) r n=Af (s.th t) r n:=λr n=>by rw[i];rfl
  obtain⟨q,F,g,x1,x2,x3,x4,P⟩:=l.ex;have o:=l.x0;simp only[Bd,XR,X8,or_false] at F
  rcases F with rfl|rfl|rfl|rfl|rfl|rfl|rfl|rfl|rfl|rfl|rfl|rfl|rfl|rfl|rfl|rfl|rfl<;>rw[g]
  ·refine⟨74,rfl,λw q=>?_⟩;have:=aec q e;rw[k,j,i,G va] at this;unfold Bc;rw[g];exact this
  ·refine⟨77,rfl,λw q=>?_⟩;have:=ael q e;rw[k,j,j,i] at this;unfold Bc;rw[g];exact this
  ·refine⟨78,rfl,λw q=>?_⟩;have:=aea q e;rw[k,j,j,i] at this;rw[show (Af (s.th t) x.aR x.aN - Af (s.th t) x.bR x.bN) % 1000=(Af (s.th t) x.aR x.aN - Af (s.th t) x.bR x.bN+1000) % 1000 by omega] at this;unfold Bc;rw[g];exact this
  ·refine⟨79,rfl,λw q=>?_⟩;have:=aee q e;rw[k,j,j,i] at this;unfold Bc;rw[g];exact this
  ·refine⟨80,rfl,λw q=>?_⟩;have u:=x1 (by decide);have:=aef q m e.tl e.rl e.r ⟨o,by omega⟩;rw[k,i] at this;unfold Bc;rw[g];exact this
  ·refine⟨82,rfl,λw q=>?_⟩;have u:=x1 (by decide);have:=aeb q m e.rl e.a ⟨o,by omega⟩ (by show x.x.toNat<s.vars.length;rw[h.vl];omega);rw[j] at this;unfold Bc;rw[g];exact this
  ·refine⟨84,rfl,λw q=>?_⟩;have u:=x2 (by decide);have:=aek q m e.tl e.rl e.r ⟨o,by omega⟩;rw[k,i] at this;unfold Bc;rw[g];exact this
  ·refine⟨85,rfl,λw q=>?_⟩;have u:=x2 (by decide);have:=aed q m e.rl e.a ⟨o,by omega⟩ (by show x.x.toNat<s.flags.length;rw[h.fl];omega);rw[j] at this;unfold Bc;rw[g];exact this
  ·refine⟨86,rfl,λw q=>?_⟩;have u:=x3 (by decide);have:=ae8 q ⟨o,by omega⟩ (by show x.x.toNat<s.locks.length;rw[h.ll];omega);unfold Bc;rw[g];exact this
  ·refine⟨87,rfl,λw q=>?_⟩;have u:=x3 (by decide);have:=aac q m e.tl ⟨o,by omega⟩ (by show x.x.toNat<s.locks.length;rw[h.ll];omega);rw[k,i] at this;refine this.mono ?_;rintro r w' ⟨rfl,c⟩;refine⟨rfl,?_⟩;unfold Bc;rw[g];show Bt w w' b sb p (Prod.fst (if s.locks.getD x.x.toNat 0≠t then _ else _:MS×Ev)) t x (Prod.snd (if s.locks.getD x.x.toNat 0≠t then _ else _:MS×Ev));have c:if s.locks.getD x.x.toNat 0≠(t:Int) then _ else _:=c
   by_cases d:s.locks.getD x.x.toNat 0≠t
   ·rw[if_pos d] at c |-;exact c
   ·rw[if_neg d] at c |-;exact c
  ·refine⟨88,rfl,λw q=>?_⟩;have u:=x4 (by decide);have:=D.four;have:=VQ q ⟨o,by omega⟩ (by rw[A,h.tl];omega);unfold Bc;rw[g];exact this
  ·refine⟨89,rfl,λw q=>?_⟩;have:=aeh q;unfold Bc;rw[g];exact this
  ·refine⟨91,rfl,λw q=>?_⟩;have:=aeg q m e.tl o;rw[k,i] at this;unfold Bc;rw[g];exact this
  ·refine⟨93,rfl,λw q=>?_⟩;have:=aej q e;rw[k,j,j,i] at this;unfold Bc;rw[g];refine this.mono ?_;rintro r w' ⟨rfl,c⟩;refine⟨rfl,?_⟩;show Bt w w' b sb p (s.Ae t {s.th t with pc:=if Af (s.th t) x.aR x.aN=Af (s.th t) x.bR x.bN then x.x.toNat else(s.th t).pc+1}) t x _
   by_cases d:Af (s.th t) x.aR x.aN=Af (s.th t) x.bR x.bN
   ·rw[if_pos (by simp[d])] at c;rw[if_pos d];exact c
   ·rw[if_neg (by simp[d])] at c;rw[if_neg d];exact c
  ·refine⟨94,rfl,λw q=>?_⟩;have:=aei q e;rw[k,j,j,i] at this;unfold Bc;rw[g];refine this.mono ?_;rintro r w' ⟨rfl,c⟩;refine⟨rfl,?_⟩;show Bt w w' b sb p (s.Ae t {s.th t with pc:=if Af (s.th t) x.aR x.aN<Af (s.th t) x.bR x.bN then x.x.toNat else(s.th t).pc+1}) t x _
   by_cases d:Af (s.th t) x.aR x.aN<Af (s.th t) x.bR x.bN
   ·rw[if_pos (by simp[d])] at c;rw[if_pos d];exact c
   ·rw[if_neg (by simp[d])] at c;rw[if_neg d];exact c
  ·refine⟨95,rfl,λw q=>?_⟩;have:=aey q e;rw[k,j,j,i] at this;unfold Bc;rw[g];refine this.mono ?_;rintro r w' ⟨rfl,c⟩;refine⟨rfl,?_⟩;show Bt w w' b sb p (Prod.fst (if Af _ _ _≠Af _ _ _ then _ else _:MS×Ev)) t x (Prod.snd (if Af _ _ _≠Af _ _ _ then _ else _:MS×Ev))
   by_cases d:Af (s.th t) x.aR x.aN≠Af (s.th t) x.bR x.bN
   ·rw[if_pos d] at c |-;exact c
   ·rw[if_neg d] at c |-;exact c
  ·refine⟨96,rfl,λw q=>?_⟩;have:=Tn q m (by rw[A];exact z);rw[i,k] at this;unfold Bc;rw[g];exact this
end
section
variable {w w':Xh} {b:Nat} {p:PD} {s:MS}
theorem Eu {P:Program} {f:FuncId} {fn:Func} (d:P.funcs[f]?=some fn) (e:(fn.name == "runtime.NumGoroutine")=false) (a:fn.body.isSome=true) (args:Array Xk) (w:Xh):(callFunc f args).run P w = .ok (.enter f args) w:=by
 have g:fn.name≠ "runtime.NumGoroutine" :=by simpa using e
 cases b:fn.body with
 |none=>rw[b] at a;cases a
 |some c=>simp[callFunc,d,g,b]
theorem ad5:∀q,q∈LN->∀(args:Array Xk) (w:Xh),(callFunc q.2 args).run Tryz.prog w = .ok (.enter q.2 args) w:=by
 intro q b;simp only[LN,XR,X8,or_false] at b
 rcases b with rfl|rfl|rfl|rfl|rfl|rfl|rfl|rfl|rfl|rfl|rfl|rfl|rfl|rfl|rfl|rfl|rfl
 ·exact λa w=>Eu Tryz.func74 (by kernel_rfl) (by kernel_rfl) a w
 ·exact λa w=>Eu Tryz.func77 (by kernel_rfl) (by kernel_rfl) a w
 ·exact λa w=>Eu Tryz.func78 (by kernel_rfl) (by kernel_rfl) a w
 ·exact λa w=>Eu Tryz.func79 (by kernel_rfl) (by kernel_rfl) a w
 ·exact λa w=>Eu Tryz.func80 (by kernel_rfl) (by kernel_rfl) a w
 ·exact λa w=>Eu Tryz.func82 (by kernel_rfl) (by kernel_rfl) a w
 ·exact λa w=>Eu Tryz.func84 (by kernel_rfl) (by kernel_rfl) a w
 ·exact λa w=>Eu Tryz.func85 (by kernel_rfl) (by kernel_rfl) a w
 ·exact λa w=>Eu Tryz.func86 (by kernel_rfl) (by kernel_rfl) a w
 ·exact λa w=>Eu Tryz.func87 (by kernel_rfl) (by kernel_rfl) a w
 ·exact λa w=>Eu Tryz.func88 (by kernel_rfl) (by kernel_rfl) a w
 ·exact λa w=>Eu Tryz.func89 (by kernel_rfl) (by kernel_rfl) a w
 ·exact λa w=>Eu Tryz.func91 (by kernel_rfl) (by kernel_rfl) a w
 ·exact λa w=>Eu Tryz.func93 (by kernel_rfl) (by kernel_rfl) a w
 ·exact λa w=>Eu Tryz.func94 (by kernel_rfl) (by kernel_rfl) a w
 ·exact λa w=>Eu Tryz.func95 (by kernel_rfl) (by kernel_rfl) a w
 ·exact λa w=>Eu Tryz.func96 (by kernel_rfl) (by kernel_rfl) a w
theorem ad3 {a:Tx} {f:Nat} (h:Eh a = .func (.func f) #[] #[]) (args:Array Xk) (w:Xh):(callFunc f args).run Tryz.prog w = .ok (.enter f args) w:=by
 unfold Eh at h
 split at h
 ·rename_i q b
  cases h
  exact ad5 q (List.mem_of_find?_eq_some b) args w
 ·cases h
theorem Ac.then {S S':Nat->Prop} {w w1 d:Xh} (h:Ac S w w1) (a:Ac S' w1 d) (e:∀k,k<w.heap.size->S' k->S k):Ac S w d:=
 ⟨a.os.trans h.os,a.tape.trans h.tape,a.output.trans h.output,Xu h.size a.size,λk b c=>(a.block k (Nat.lt_of_lt_of_le b h.size) (λq=>c (e k b q))).trans (h.block k b c)⟩
theorem Tm {w:Xh} {n T:Nat} {l i h g:Xk} (m:w.heap[n]?=some (.cells #[l,i,h,g] T)) (a c d f:Xk):∃W,(((w.setCell ⟨n,0,none⟩ a).setCell ⟨n,1,none⟩ c).setCell ⟨n,2,none⟩ d).setCell ⟨n,3,none⟩ f=W/\W.heap[n]?=some (.cells #[a,c,d,f] T)/\(∀b,b≠n->W.heap[b]?=w.heap[b]?)/\W.heap.size=w.heap.size/\W.os=w.os/\W.tape=w.tape/\W.output=w.output:=by
 refine⟨_,rfl,?_,λb e=>?_,by simp,rfl,rfl,rfl⟩
 ·have k:=(Xj _ n 0 _ _ a m).trans (show _=some (Obj.cells #[a,i,h,g] T) from rfl);have o:=(Xj _ n 1 _ _ c k).trans (show _=some (Obj.cells #[a,c,h,g] T) from rfl);have j:=(Xj _ n 2 _ _ d o).trans (show _=some (Obj.cells #[a,c,d,g] T) from rfl)
  exact(Xj _ n 3 _ _ f j).trans (show _=some (Obj.cells #[a,c,d,f] T) from rfl)
 ·rw[Xo _ ⟨n,3,none⟩ _ b e,Xo _ ⟨n,2,none⟩ _ b e,Xo _ ⟨n,1,none⟩ _ b e,Xo _ ⟨n,0,none⟩ _ b e]
theorem Tl {w:Xh} {fn:Func} {tmps:Array Xk} {b:Nat} {x d f e c:Xk} (g:fn.results = #[.cell 4 48,.tmp 5]) (h:tmps[4]?=some (.pointer (some ⟨b,0,none⟩))) (i:tmps[5]?=some x) (a:w.heap[b]?=some (.cells #[d,f,e,c] 48)):(results fn tmps).run Tryz.prog w = .ok (.tuple #[.agg #[d,f,e,c],x]) w:=by
 have c0:w.cell? ⟨b,0,none⟩=some d:=by simp[Xg,a]
 have c1:w.cell? ⟨b,1,none⟩=some f:=by simp[Xg,a]
 have c2:w.cell? ⟨b,2,none⟩=some e:=by simp[Xg,a]
 have c3:w.cell? ⟨b,3,none⟩=some c:=by simp[Xg,a]
 simp[results,g,h,i,go_sem,c0,c1,c2,c3]
def DQ (e:Ev):Array Xk := #[.int .i64 e.t,.int .i64 e.k,.int .i64 e.o,.int .i64 e.v]
def Ib (C:List (List Ad)) (s:MS) (t:Int):MS×Ev:=if AO C s t=0 then Ay false C s t else(s,⟨0,0,0,0⟩)
def Mb (w w':Xh) (b:Nat) (p:PD) (s:MS) (t:Int) (e:Ending):Prop:=
 e = .returned (.tuple #[.agg (DQ (Ib p.C s t).2),.int .i64 (AO p.C s t)])/\AP w' b p (Ib p.C s t).1/\Ac (λk=>k=b) w w'
theorem Mu (h:AP w b p s) (B:Cs p) (R:BT p s) (t:Int) :
 XX Tryz.prog 14 #[Ab b,.int .i64 t] w λe w'=>Mb w w' b p s t e:=by
 have g:Xm w.heap.size w (w.alloc (.cells #[.int .i64 0,.int .i64 0,.int .i64 0,.int .i64 0] 48)):=(Xq _ _).alloc (Xd _) _;have y:(w.alloc (.cells #[.int .i64 0,.int .i64 0,.int .i64 0,.int .i64 0] 48)).heap[w.heap.size]?=some (.cells #[.int .i64 0,.int .i64 0,.int .i64 0,.int .i64 0] 48):=Xi w _;have D:(w.alloc (.cells #[.int .i64 0,.int .i64 0,.int .i64 0,.int .i64 0] 48)).heap.size=w.heap.size+1:=by show (w.heap.push _).size=_;simp
 have Z:=QK (h.below g) B R t;unfold Mb Ib
 by_cases K:AO p.C s t=0
 ·simp only[if_pos K];rw[K] at Z |-;obtain⟨u,rfl,z,ay,an,hx⟩:=Gq B.fit R K;have Y:u<4:=by have:=B.fit.four;omega
  have bb:(u:Int)<4:=by omega
  unfold Ay;rw[Int.toNat_natCast];have hT:=R.th u z;have J:=hT.pc (by omega);have I:=(B.fit.code _ (CL (d:=[]) z)).1;obtain⟨x,E⟩:∃x,BB p.C u (s.th u)=x:=⟨_,rfl⟩;obtain⟨pc,A⟩:∃pc,(s.th u).pc=pc:=⟨_,rfl⟩;rw[E] at an hx |-;have V:=λsb=>ad6 (b:=b) (sb:=sb) B.v B.f B.l B.fit R z ay an hx;have N:u<s.thr.length:=by rw[R.tl];exact z
  obtain⟨s',ax⟩:∃s',(Bc false s u x).1=s':=⟨_,rfl⟩;obtain⟨P,aF⟩:∃P,(Bc false s u x).2=P:=⟨_,rfl⟩;simp only[ax,aF] at V |-;obtain⟨f,T,-⟩:=V 0;replace V:∀sb,∀w,AF w b sb p (s.Ae u {s.th u with pc:=(s.th u).pc+1}) u x ⟨u,0,0,0⟩->Mi w f b sb p u x s' P:=λsb=>by
   obtain⟨f2,aG,hd⟩:=V sb;rw[T] at aG
   cases aG
   exact hd
  have HD:=Aa V;have M:=Aa (⟨g,y,h,D⟩:_/\_/\_/\_);have HX:=Aa (⟨z,J,I,A,E,N⟩:_/\_/\_/\_/\_/\_);replace T:=Aa T;replace D:=Aa D;clear h B R K hT J I V g y ay an hx ax aF A E z N;unfold Ab at *
  go_enter Tryz.func14,Tryz.ntmps14
  go_wp2_with fail
  refine Z.mono ?_;rintro e c ⟨rfl,n⟩;obtain⟨g,y,h,-⟩:=M.out;obtain⟨z,J,I,A,E,N⟩:=HX.out;replace n:Xm (w.heap.size+1) (w.alloc (.cells #[.int .i64 0,.int .i64 0,.int .i64 0,.int .i64 0] 48)) c:=by rw[<-D.out];exact n
  have au:AP c b p s:=An.below (w:=w) h (g.trans (n.mono (ago _)));have hN:=Rz au Y (by omega);rw[A] at hN;have U:=Aa (⟨au,n⟩:_/\_);clear Z g y h z J I A E N au n
  go_wp2_with fail
  refine hN.mono ?_;rintro e w3 ⟨rfl,rfl⟩;obtain⟨z,J,I,A,E,N⟩:=HX.out;have af:AP c.drew b p s:=An.same U.out.1 rfl;obtain⟨k0,k1,k2,k3,k4,k5,k6,k7⟩:=Ns af Y z J I A E;rw[T.out] at k7;have aH:=Lp af Y;rw[A] at aH;have f3:=af.frozen;have aT:XO ((pc:Int)+1)=(pc:Int)+1:=by unfold XO;omega
  obtain⟨H,ar⟩:∃H:Array Xk,#[Value.pointer (some ⟨b,0,none⟩),.pointer (some ⟨b,27+u*207,none⟩),.string (bs x.op),.int .i64 x.r,.bool x.aR,.int .i64 x.aN,.bool x.bR,.int .i64 x.bN,.int .i64 x.x,.int .i64 u,.int .i64 0,.int .i64 0,.int .i64 0]=H:=⟨_,rfl⟩;have ao:Xm c.heap.size c (c.alloc (.cells H 129)):=(Xq c.heap.size c).alloc (Xd _) _;have ac:AP (c.alloc (.cells H 129)) b p s:=An.below U.out.1 ao;have az:=Lp ac Y;have fA:=ac.frozen;rw[A] at az;have aa:AF (((c.alloc (.cells H 129)).setCell ⟨b,27+u*207+2,none⟩ (.int .i64 ((pc:Int)+1))).drew) b c.heap.size p (s.Ae u {s.th u with pc:=(s.th u).pc+1}) u x ⟨u,0,0,0⟩:=by
   have q:AF (c.alloc (.cells H 129)) b c.heap.size p s u x ⟨u,0,0,0⟩:=by
    refine⟨ac,⟨H,Xi c _,by rw[<-ar];rfl,λk hk=>?_⟩,by have:=U.out.1.lt;omega⟩;rw[<-ar];have:k=0\/k=1\/k=2\/k=3\/k=4\/k=5\/k=6\/k=7\/k=8\/k=9\/k=10\/k=11\/k=12:=by omega
    rcases this with rfl|rfl|rfl|rfl|rfl|rfl|rfl|rfl|rfl|rfl|rfl|rfl|rfl<;>rfl
   have q2:=q.GA (λj=>RF (p:=p) (s:=s) Y N (pc+1) (k:=j));rw[A];exact q2.same rfl
  have a2:((c.alloc (.cells H 129)).setCell ⟨b,27+u*207+2,none⟩ (.int .i64 ((pc:Int)+1))).cell? ⟨b,27+u*207+7+pc*8+7,none⟩=some (.func (.func f) #[] #[]):=by
   have q:=(Ns ac Y z J I A E).2.2.2.2.2.2.2;rw[T.out] at q;rw[World.cell?_setCell_other _ _ _ _ (by intro e;injection e;omega)];exact q
  have ag:=HD.out _ _ aa;have aU:=ad3 T.out;have Q:Ac (λk=>k=b) w (((c.alloc (.cells H 129)).setCell ⟨b,27+u*207+2,none⟩ (.int .i64 ((pc:Int)+1))).drew):=by
   obtain⟨g,y,h,-⟩:=M.out;have n:=U.out.2;have q1:=g.trans (n.mono (ago _))
   exact(Ac.set (S:=λk=>k=b) (Ac.DG (q1.trans (ao.mono q1.size))) (a:=⟨b,27+u*207+2,none⟩) (.inl rfl) _).drew
  unfold Mi Ab at ag;have HF:=Aa (⟨aa,Q⟩:_/\_);subst ar;clear z J I A E N af ao ac aa Q HD
  go_wp2_with fail
  refine ag.mono ?_;rintro e X ⟨rfl,O⟩;obtain⟨aa,Q⟩:=HF.out;have F:X.heap[w.heap.size]?=some (.cells #[.int .i64 0,.int .i64 0,.int .i64 0,.int .i64 0] 48):=by
   obtain⟨g,y,h,-⟩:=M.out;have n:=U.out.2;have am:=n.size;rw[D.out] at am;have aq:b<w.heap.size:=h.lt;refine(O.k.block _ ?_ ?_).trans ((Xo _ ⟨b,_,none⟩ _ _ ?_).trans ((Below.heap_alloc c _ _ ?_).trans ((n.block _ (Nat.lt_succ_self _)).trans y)))
   ·have:=Q.size;have:c.heap.size+1=(((c.alloc (.cells #[Value.pointer (some ⟨b,0,none⟩),.pointer (some ⟨b,27+u*207,none⟩),.string (bs x.op),.int .i64 x.r,.bool x.aR,.int .i64 x.aN,.bool x.bR,.int .i64 x.bN,.int .i64 x.x,.int .i64 u,.int .i64 0,.int .i64 0,.int .i64 0] 129)).setCell ⟨b,27+u*207+2,none⟩ (.int .i64 ((pc:Int)+1))).drew).heap.size:=by
     show _=(World.setCell _ _ _).heap.size;rw[World.size_setCell];show _=(c.heap.push _).size;simp
    omega
   ·intro e;rcases e with e|e<;>omega
   ·show w.heap.size≠b;omega
   ·omega
  obtain⟨c9,bc,bf,be⟩:=O.v.Io;have r0:X.cell? ⟨w.heap.size,0,none⟩=some (.int .i64 0):=by simp[Xg,F]
  have r1:X.cell? ⟨w.heap.size,1,none⟩=some (.int .i64 0):=by simp[Xg,F]
  have r2:X.cell? ⟨w.heap.size,2,none⟩=some (.int .i64 0):=by simp[Xg,F]
  have r3:X.cell? ⟨w.heap.size,3,none⟩=some (.int .i64 0):=by simp[Xg,F]
  have f4:∀i,X.frozen? ⟨w.heap.size,i,none⟩=false:=λi=>by simp[XP,F]
  have H4:=Aa (⟨O,F⟩:_/\_);clear O F aa Q ag aU k0 k1 k2 k3 k4 k5 k6 k7 a2 aH az f3 fA aT
  go_wp2_with fail
  obtain⟨O,F⟩:=H4.out;obtain⟨aa,Q⟩:=HF.out;obtain⟨g,y,h,-⟩:=M.out;obtain⟨W,hW,v1,v2,v3,v4,v5,v6⟩:=Tm F (.int .i64 P.t) (.int .i64 P.k) (.int .i64 P.o) (.int .i64 P.v);rw[hW];have aq:b<w.heap.size:=h.lt;have am:=U.out.2.size;rw[D.out] at am;refine XJ (Tl rfl rfl rfl v1) rfl ⟨rfl,O.v.m.same (v2 b (by omega)),?_⟩;have q:=Q.then O.k (λk hk e=>by rcases e with e|e;exact e;omega)
  exact⟨v4.trans q.os,v5.trans q.tape,v6.trans q.output,by rw[v3];exact q.size,λk hk hn=>(v2 k (by omega)).trans (q.block k hk hn)⟩
 ·simp only[if_neg K];obtain⟨er,aE⟩:∃er,AO p.C s t=er:=⟨_,rfl⟩;rw[aE] at Z K |-;have hb:(er != 0)=true:=by simpa using K
  have M:=Aa (⟨g,y,h,D⟩:_/\_/\_/\_);clear K B R g y D h aE;unfold Ab at *
  go_enter Tryz.func14,Tryz.ntmps14
  go_wp2_with fail
  refine Z.mono ?_;rintro e c ⟨rfl,n⟩;have G:c.heap[w.heap.size]?=some (.cells #[.int .i64 0,.int .i64 0,.int .i64 0,.int .i64 0] 48):=by
   obtain⟨g,y,h,D⟩:=M.out
   exact(n.block _ (by omega)).trans y
  have r0:c.cell? ⟨w.heap.size,0,none⟩=some (.int .i64 0):=by simp[Xg,G]
  have r1:c.cell? ⟨w.heap.size,1,none⟩=some (.int .i64 0):=by simp[Xg,G]
  have r2:c.cell? ⟨w.heap.size,2,none⟩=some (.int .i64 0):=by simp[Xg,G]
  have r3:c.cell? ⟨w.heap.size,3,none⟩=some (.int .i64 0):=by simp[Xg,G]
  have f4:∀i,c.frozen? ⟨w.heap.size,i,none⟩=false:=λi=>by simp[XP,G]
  have H2:=Aa (⟨n,G⟩:_/\_);clear n G Z
  go_wp2_with fail
  obtain⟨n,G⟩:=H2.out;obtain⟨g,y,h,D⟩:=M.out;obtain⟨W,hW,v1,v2,v3,v4,v5,v6⟩:=Tm G (.int .i64 0) (.int .i64 0) (.int .i64 0) (.int .i64 0);rw[hW];have aq:b<w.heap.size:=h.lt;have q:=g.trans (n.mono g.size);exact XJ (Tl rfl rfl rfl v1) rfl ⟨rfl,h.same ((v2 b (by omega)).trans (q.block b aq)),⟨v4.trans q.os,v5.trans q.tape,v6.trans q.output,by rw[v3];exact q.size,λk hk hn=>(v2 k (by omega)).trans (q.block k hk)⟩⟩
end
section
variable {w w':Xh} {b:Nat} {p:PD} {s:MS}
theorem Tryz.infoInt:(Tryz.prog.info? 3).map (λi=>(i.zero,i.size,i.bytes))=some (some (.int .i64 0),1,8):=by kernel_rfl
theorem Tryz.infoEv:(Tryz.prog.info? 48).map (λi=>(i.zero,i.size,i.bytes))=some (some (.agg #[.int .i64 0,.int .i64 0,.int .i64 0,.int .i64 0]),4,32):=by kernel_rfl
def Cq (n:Int):Xk:=.int .i64 n
def Dz (C:List (List Ad)) (s:MS) (i:Nat):List Int:=((List.range i).filter fun(t:Nat)=>decide (AO C s (t:Int)=0)).map fun(t:Nat)=>(t:Int)
def AG (C:List (List Ad)) (s:MS):List Int:=Dz C s s.thr.length
theorem QM (C:List (List Ad)) (s:MS) (i:Nat):Dz C s (i+1)=if AO C s (i:Int)=0 then Dz C s i++[(i:Int)] else Dz C s i:=by
 unfold Dz;rw[List.range_succ,List.filter_append,XI]
 by_cases h:AO C s (i:Int)=0
 ·rw[if_pos h];simp[h]
 ·rw[if_neg h];simp[h]
theorem Jh (C:List (List Ad)) (s:MS) (i:Nat):(Dz C s i).length<=i:=by
 unfold Dz;rw[List.length_map];exact Xu (List.length_filter_le _ _) (by rw[List.length_range];exact Xd _)
theorem NH {base:Nat} {v:Xk} {l:List Int} (h:w.ownsRow base 3 1 v l.length (l.map Cq)) (x:Int) (i:l.length<1048576) (d:base<=w.heap.size) :
 ∃g cap w',(Builtin.append_ #[32,32] 32 #[v,.slice (some ⟨w.heap.size,0,none⟩) 1 1]).run Tryz.prog (w.alloc (.cells #[.int .i64 x] 3)) = .ok (.slice (some ⟨g,0,none⟩) (l.length+1) cap) w'/\
  w'.ownsRow base 3 1 (.slice (some ⟨g,0,none⟩) (l.length+1) cap) (l++[x]).length ((l++[x]).map Cq)/\(∀B,B<=base->Xm B w w'):=by
 obtain⟨s,m,q,c,n⟩:=info_parts Tryz.infoInt;obtain⟨g,cap,w',f,j,b,o,p,z,rb,y⟩:=Ig h Tryz.underlying32 m q c n rfl (by omega) [.int .i64 x] rfl (by intro u a;simp at a;subst a;rfl) 32 i d;refine⟨g,cap,w',f,by rw[List.length_append,XI];exact j,λB r=>⟨b,o,p,by omega,λk t=>rb k (by omega) (λe=>?_)⟩⟩;have:=(h.lt k e).1
 omega
end
end Go.Proofs.YtdcacoifehkioaaGreatDoor
namespace Go.Proofs.YtdcacoifehkioaaGreatDoor
open Go.RowKit Go.Shelf Go.Proofs.Cod
def Is (w:Xh) (a:Option Addr) (l:List Int):Prop:=∀i,i<l.length->∃b off,a=some ⟨b,off,none⟩/\b<w.heap.size/\w.cell? ⟨b,off+i,none⟩=some (.int .i64 (l.getD i 0))
theorem Is.below {w w':Xh} {a:Option Addr} {l:List Int} (h:Is w a l) (c:Xm w.heap.size w w'):Is w' a l:=λi f=>by
 obtain⟨b,d,g,e,j⟩:=h i f
 exact⟨b,d,g,by have:=c.size;omega,(c.cell (p:=⟨b,d+i,none⟩) e).trans j⟩
theorem OK {i:Nat} (h:i<2000000):XO ((i:Int)+1)=(i:Int)+1:=by unfold XO;omega
def Ef (e:Ev):List Xk:=(DQ e).toList
theorem Od (e:Ev):(Ef e).length=4:=rfl
section
variable {w w':Xh} {b B0 base:Nat}
end
end Go.Proofs.YtdcacoifehkioaaGreatDoor
