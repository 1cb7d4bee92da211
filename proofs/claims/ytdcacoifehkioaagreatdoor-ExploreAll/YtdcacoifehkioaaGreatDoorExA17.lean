import Derived.Test.YtdcacoifehkioaaGreatDoorExA3
import Derived.Test.YtdcacoifehkioaaGreatDoorExA16
import Derived.BigQuiet
import Derived.Test.YtdcacoifehkioaaGreatDoorExA14
import Derived.Test.YtdcacoifehkioaaGreatDoorExA4
import Derived.Test.YtdcacoifehkioaaGreatDoorExA15
open Go renaming World->Xh,Calls->XY,wp_region_held_drew->Xy,wpAnyH_done->Yd,Value->Xk,heap_setCell_same->Xj,bodyPost_ret->XI
open Go.RowKit renaming Below->Xm,wrap64->XN
open Nat renaming le_refl->Xd,le_trans->Xu,le_succ->af7
open Go.Act renaming put->XG
open List renaming mem_cons->XP,not_mem_nil->X6,map_append->XH
open Go.RowKit.Below renaming heap_setCell->Xn,refl->Xq
open Go.World renaming cell?->Xg,alloc_heap_new->Xi,frozen?->XM
set_option maxRecDepth 100000
set_option maxHeartbeats 1000000
set_option linter.unusedVariables false
set_option linter.unusedSimpArgs false
namespace Go.Proofs.YtdcacoifehkioaaGreatDoor
open Go.RowKit Go.Proofs.Cod
section
variable {w w':Xh} {b sb:Nat} {p:PD} {s:MS} {t:Nat} {x:Ad} {e:Ev}
structure FQ (s:MS) (t:Nat) (x:Ad):Prop where
 t4:t<4
 tl:t<s.thr.length
 rl:(s.th t).regs.length=4
 rv:∀v,v∈(s.th t).regs->CD v
 r:0<=x.r/\x.r<4
 a:Fj x.aR x.aN
 b:Fj x.bR x.bN
 x0:0<=x.x
theorem FQ.va (h:FQ s t x):CD (Af (s.th t) x.aR x.aN):=by
 unfold Af
 split
 ·rename_i q;have:=h.a.2.2 q;have b:=h.a.1;exact h.rv _ (CN (by rw[h.rl];omega))
 ·exact⟨h.a.1,h.a.2.1⟩
theorem FQ.vb (h:FQ s t x):CD (Af (s.th t) x.bR x.bN):=by
 unfold Af
 split
 ·rename_i q;have:=h.b.2.2 q;have a:=h.b.1;exact h.rv _ (CN (by rw[h.rl];omega))
 ·exact⟨h.b.1,h.b.2.1⟩
theorem Nf {a b:Int} (d:CD a) (c:CD b):a*b<2000000:=by
 have e:a*b<=999*b:=Int.mul_le_mul_of_nonneg_right (by have:=d.2;omega) c.1;have:=c.2
 omega
theorem ad2 (h:AF w b sb p s t x e) (c:FQ s t x) :
 XY Tryz.prog 74 #[Ab sb] w λr w'=>r = .returned (.tuple #[])/\Bl w w' b sb p (s.Ae t {s.th t with regs:=(s.th t).regs.set x.r.toNat (Af (s.th t) x.aR x.aN % 1000)}) t x e:=by
 obtain⟨-,-,c4,c5,-,-,-⟩:=h.ins;have V:=EW h c.t4 c.rl _ _ c.a;have A:∀w',Xm w.heap.size w w'->_:=λw' d=>LY (h.below d) c.t4 c.tl c.rl c.r (Af (s.th t) x.aR x.aN) (by have:=c.va.1;omega) (by have:=c.va.2;omega);replace A:=Aa A;obtain⟨v,j⟩:∃v,Af (s.th t) x.aR x.aN=v:=⟨_,rfl⟩;rw[j] at V A |-;clear h c j;unfold Ab at *
 go_enter Tryz.func74,Tryz.ntmps74
 go_wp2_with fail
 refine V.mono ?_;rintro n w1 ⟨rfl,d⟩;have g:=A.out w1 d;have l:=Aa d;clear A V d
 go_wp2_with fail
 refine g.mono ?_;rintro m o ⟨rfl,f⟩;have i:=Aa f;clear f g
 go_wp2_with fail
 go_end0
 exact⟨rfl,i.out.v,(Ac.DM l.out).trans i.out.k⟩
theorem aeb (h:AF w b sb p s t x e) (d:FQ s t x) :
 XY Tryz.prog 77 #[Ab sb] w λr w'=>r = .returned (.tuple #[])/\Bl w w' b sb p (s.Ae t {s.th t with regs:=(s.th t).regs.set x.r.toNat ((Af (s.th t) x.aR x.aN+Af (s.th t) x.bR x.bN) % 1000)}) t x e:=by
 obtain⟨-,-,c4,c5,Q,U,-⟩:=h.ins;have V:=Aa (λw' (q:Xm w.heap.size w w')=>EW (h.below q) d.t4 d.rl _ _ d.a);have O:=Aa (λw' (q:Xm w.heap.size w w')=>EW (h.below q) d.t4 d.rl _ _ d.b);have o:=d.va;have m:=d.vb;have H:=Aa h;have G:Xm w.heap.size w w.drew:=⟨rfl,rfl,rfl,Xd _,λ_ _=>rfl⟩;have A:=Aa (λw' (q:Xm w.heap.size w w')=>LY (h.below q) d.t4 d.tl d.rl d.r (Af (s.th t) x.aR x.aN+Af (s.th t) x.bR x.bN) (by have:=o.1;have:=m.1;have:=o.2;have:=m.2;omega) (by have:=o.2;have:=m.2;have:=o.1;have:=m.1;omega));obtain⟨v,B⟩:∃v,Af (s.th t) x.aR x.aN=v:=⟨_,rfl⟩;obtain⟨u,D⟩:∃u,Af (s.th t) x.bR x.bN=u:=⟨_,rfl⟩;rw[B] at o;rw[D] at m;simp only[B,D] at V O A |-;obtain⟨s',E⟩:∃s':MS,s.Ae t {s.th t with regs:=(s.th t).regs.set x.r.toNat ((v+u) % 1000)}=s':=⟨_,rfl⟩;simp only[E] at A |-;clear E;obtain⟨W,T⟩:=o;obtain⟨P,X⟩:=m;have N:XN (v+u)=v+u:=by unfold XN;omega
 have R:IntKind.i64.wrap (v+u)=v+u:=(IntWalk.i64_left _).trans N;clear N;clear h d B D W T P X;unfold Ab at *
 go_enter Tryz.func77,Tryz.ntmps77
 go_wp2_with fail
 refine Xy (S:=(λw'=>w'.cell? ⟨sb,4,none⟩=some (.bool x.aR)/\w'.cell? ⟨sb,5,none⟩=some (.int .i64 x.aN)/\w'.cell? ⟨sb,6,none⟩=some (.bool x.bR)/\w'.cell? ⟨sb,7,none⟩=some (.int .i64 x.bN))) (by kernel_rfl) ⟨c4,c5,Q,U⟩ (λc=>?_);refine tk 0 c ?_;refine tk 1 c ?_;refine tk 2 c ?_;refine tk 3 c ?_;refine tk 4 c ?_;refine tk 5 c ?_;refine tk 6 c ?_;refine tk 8 c ?_;refine tk 9 c ?_;refine tk 10 c ?_;refine tk 11 c ?_;refine tk 12 c ?_;refine tk 13 c ?_;refine rd 7 (λK f=>?_)
 go_simp
 go_at_call 76
 refine(V.out _ G).mono ?_;rintro Z w1 ⟨rfl,n⟩;replace n:Xm w.heap.size w w1:=G.trans n;obtain⟨-,-,l,i,g,j,-⟩:=(H.out.below n).ins;have F:=O.out w1 n;have z:=Aa n;clear n
 go_wp2_with fail
 refine f.out _ _ ⟨l,i,g,j⟩ (λc=>?_);clear f K l i g j
 try simp only[XG,sq]
 refine rd 14 (λK f=>?_)
 go_simp
 go_at_call 76
 refine F.mono ?_;rintro e2 J ⟨rfl,y⟩;replace y:Xm w.heap.size w J:=z.out.trans (y.mono z.out.size);obtain⟨-,-,l,i,g,j,-⟩:=(H.out.below y).ins;have M:=Aa y;clear y F z
 go_wp2_with fail
 refine f.out _ _ ⟨l,i,g,j⟩ (λc=>?_);clear f K
 try simp only[XG,sq]
 refine rd 15 (λK f=>?_)
 go_simp
 refine f.out _ _ ⟨l,i,g,j⟩ (λc=>?_);clear f K l i g j
 try simp only[XG,sq]
 refine rd 16 (λK f=>?_)
 go_simp
 go_at_call 75
 try rw[R]
 refine(A.out J M.out).mono ?_;rintro Y w3 ⟨rfl,C⟩;obtain⟨-,-,l,i,g,j,-⟩:=C.v.ins;have I:=Aa C;clear C A
 go_wp2_with fail
 refine f.out _ _ ⟨l,i,g,j⟩ (λc=>?_);clear f K l i g j
 try simp only[XG,sq]
 refine Yd (by kernel_rfl) ?_ _
 go_wp2_with fail
 go_end0
 exact⟨rfl,I.out.v,(Ac.DM M.out).trans I.out.k⟩
theorem ad0 (h:AF w b sb p s t x e) (d:FQ s t x) :
 XY Tryz.prog 78 #[Ab sb] w λr w'=>r = .returned (.tuple #[])/\Bl w w' b sb p (s.Ae t {s.th t with regs:=(s.th t).regs.set x.r.toNat ((Af (s.th t) x.aR x.aN - Af (s.th t) x.bR x.bN) % 1000)}) t x e:=by
 obtain⟨-,-,c4,c5,Q,W,-⟩:=h.ins;have V:=Aa (λw' (q:Xm w.heap.size w w')=>EW (h.below q) d.t4 d.rl _ _ d.a);have O:=Aa (λw' (q:Xm w.heap.size w w')=>EW (h.below q) d.t4 d.rl _ _ d.b);have o:=d.va;have m:=d.vb;have H:=Aa h;have G:Xm w.heap.size w w.drew:=⟨rfl,rfl,rfl,Xd _,λ_ _=>rfl⟩;have A:=Aa (λw' (q:Xm w.heap.size w w')=>LY (h.below q) d.t4 d.tl d.rl d.r (Af (s.th t) x.aR x.aN - Af (s.th t) x.bR x.bN) (by have:=o.1;have:=m.1;have:=o.2;have:=m.2;omega) (by have:=o.2;have:=m.2;have:=o.1;have:=m.1;omega));obtain⟨v,B⟩:∃v,Af (s.th t) x.aR x.aN=v:=⟨_,rfl⟩;obtain⟨u,D⟩:∃u,Af (s.th t) x.bR x.bN=u:=⟨_,rfl⟩;rw[B] at o;rw[D] at m;simp only[B,D] at V O A |-;obtain⟨s',E⟩:∃s':MS,s.Ae t {s.th t with regs:=(s.th t).regs.set x.r.toNat ((v - u) % 1000)}=s':=⟨_,rfl⟩;simp only[E] at A |-;clear E;obtain⟨U,T⟩:=o;obtain⟨P,X⟩:=m;have N:XN (v - u)=v - u:=by unfold XN;omega
 have R:IntKind.i64.wrap (v - u)=v - u:=(IntWalk.i64_left _).trans N;clear N;clear h d B D U T P X;unfold Ab at *
 go_enter Tryz.func78,Tryz.ntmps78
 go_wp2_with fail
 refine Xy (S:=(λw'=>w'.cell? ⟨sb,4,none⟩=some (.bool x.aR)/\w'.cell? ⟨sb,5,none⟩=some (.int .i64 x.aN)/\w'.cell? ⟨sb,6,none⟩=some (.bool x.bR)/\w'.cell? ⟨sb,7,none⟩=some (.int .i64 x.bN))) (by kernel_rfl) ⟨c4,c5,Q,W⟩ (λc=>?_);refine tk 0 c ?_;refine tk 1 c ?_;refine tk 2 c ?_;refine tk 3 c ?_;refine tk 4 c ?_;refine tk 5 c ?_;refine tk 6 c ?_;refine tk 8 c ?_;refine tk 9 c ?_;refine tk 10 c ?_;refine tk 11 c ?_;refine tk 12 c ?_;refine tk 13 c ?_;refine rd 7 (λK f=>?_)
 go_simp
 go_at_call 76
 refine(V.out _ G).mono ?_;rintro Z w1 ⟨rfl,n⟩;replace n:Xm w.heap.size w w1:=G.trans n;obtain⟨-,-,l,i,g,j,-⟩:=(H.out.below n).ins;have F:=O.out w1 n;have z:=Aa n;clear n
 go_wp2_with fail
 refine f.out _ _ ⟨l,i,g,j⟩ (λc=>?_);clear f K l i g j
 try simp only[XG,sq]
 refine rd 14 (λK f=>?_)
 go_simp
 go_at_call 76
 refine F.mono ?_;rintro e2 J ⟨rfl,y⟩;replace y:Xm w.heap.size w J:=z.out.trans (y.mono z.out.size);obtain⟨-,-,l,i,g,j,-⟩:=(H.out.below y).ins;have M:=Aa y;clear y F z
 go_wp2_with fail
 refine f.out _ _ ⟨l,i,g,j⟩ (λc=>?_);clear f K
 try simp only[XG,sq]
 refine rd 15 (λK f=>?_)
 go_simp
 refine f.out _ _ ⟨l,i,g,j⟩ (λc=>?_);clear f K l i g j
 try simp only[XG,sq]
 refine rd 16 (λK f=>?_)
 go_simp
 go_at_call 75
 try rw[R]
 refine(A.out J M.out).mono ?_;rintro Y w3 ⟨rfl,C⟩;obtain⟨-,-,l,i,g,j,-⟩:=C.v.ins;have I:=Aa C;clear C A
 go_wp2_with fail
 refine f.out _ _ ⟨l,i,g,j⟩ (λc=>?_);clear f K l i g j
 try simp only[XG,sq]
 refine Yd (by kernel_rfl) ?_ _
 go_wp2_with fail
 go_end0
 exact⟨rfl,I.out.v,(Ac.DM M.out).trans I.out.k⟩
theorem ad4 (h:AF w b sb p s t x e) (d:FQ s t x) :
 XY Tryz.prog 79 #[Ab sb] w λr w'=>r = .returned (.tuple #[])/\Bl w w' b sb p (s.Ae t {s.th t with regs:=(s.th t).regs.set x.r.toNat ((Af (s.th t) x.aR x.aN*Af (s.th t) x.bR x.bN) % 1000)}) t x e:=by
 obtain⟨-,-,c4,c5,U,X,-⟩:=h.ins;have V:=Aa (λw' (n:Xm w.heap.size w w')=>EW (h.below n) d.t4 d.rl _ _ d.a);have T:=Aa (λw' (n:Xm w.heap.size w w')=>EW (h.below n) d.t4 d.rl _ _ d.b);have y:=d.va;have q:=d.vb;have H:=Aa h;have J:Xm w.heap.size w w.drew:=⟨rfl,rfl,rfl,Xd _,λ_ _=>rfl⟩;have A:=Aa (λw' (n:Xm w.heap.size w w')=>LY (h.below n) d.t4 d.tl d.rl d.r (Af (s.th t) x.aR x.aN*Af (s.th t) x.bR x.bN) (by have:=Int.mul_nonneg y.1 q.1;omega) (Nf y q));obtain⟨v,C⟩:∃v,Af (s.th t) x.aR x.aN=v:=⟨_,rfl⟩;obtain⟨u,F⟩:∃u,Af (s.th t) x.bR x.bN=u:=⟨_,rfl⟩;rw[C] at y;rw[F] at q;simp only[C,F] at V T A |-;obtain⟨s',G⟩:∃s':MS,s.Ae t {s.th t with regs:=(s.th t).regs.set x.r.toNat ((v*u) % 1000)}=s':=⟨_,rfl⟩;simp only[G] at A |-;clear G;obtain⟨D,M⟩:=y;obtain⟨B,Q⟩:=q;have R:XN (v*u)=v*u:=by have:=Int.mul_nonneg D B;have:=Nf (a:=v) (b:=u) ⟨D,M⟩ ⟨B,Q⟩;unfold XN;omega
 have W:IntKind.i64.wrap (v*u)=v*u:=(IntWalk.i64_left _).trans R;clear R;clear h d C F D M B Q;unfold Ab at *
 go_enter Tryz.func79,Tryz.ntmps79
 go_wp2_with fail
 refine Xy (S:=(λw'=>w'.cell? ⟨sb,4,none⟩=some (.bool x.aR)/\w'.cell? ⟨sb,5,none⟩=some (.int .i64 x.aN)/\w'.cell? ⟨sb,6,none⟩=some (.bool x.bR)/\w'.cell? ⟨sb,7,none⟩=some (.int .i64 x.bN))) (by kernel_rfl) ⟨c4,c5,U,X⟩ (λc=>?_);refine tk 0 c ?_;refine tk 1 c ?_;refine tk 2 c ?_;refine tk 3 c ?_;refine tk 4 c ?_;refine tk 5 c ?_;refine tk 6 c ?_;refine tk 8 c ?_;refine tk 9 c ?_;refine tk 10 c ?_;refine tk 11 c ?_;refine tk 12 c ?_;refine tk 13 c ?_;refine rd 7 (λK f=>?_)
 go_simp
 go_at_call 76
 refine(V.out _ J).mono ?_;rintro Z w1 ⟨rfl,m⟩;replace m:Xm w.heap.size w w1:=J.trans m;obtain⟨-,-,l,i,g,j,-⟩:=(H.out.below m).ins;have I:=T.out w1 m;have z:=Aa m;clear m
 go_wp2_with fail
 refine f.out _ _ ⟨l,i,g,j⟩ (λc=>?_);clear f K l i g j
 try simp only[XG,sq]
 refine rd 14 (λK f=>?_)
 go_simp
 go_at_call 76
 refine I.mono ?_;rintro e2 O ⟨rfl,o⟩;replace o:Xm w.heap.size w O:=z.out.trans (o.mono z.out.size);obtain⟨-,-,l,i,g,j,-⟩:=(H.out.below o).ins;have P:=Aa o;clear o I z
 go_wp2_with fail
 refine f.out _ _ ⟨l,i,g,j⟩ (λc=>?_);clear f K
 try simp only[XG,sq]
 refine rd 15 (λK f=>?_)
 go_simp
 refine f.out _ _ ⟨l,i,g,j⟩ (λc=>?_);clear f K l i g j
 try simp only[XG,sq]
 refine rd 16 (λK f=>?_)
 go_simp
 go_at_call 75
 try rw[W]
 refine(A.out O P.out).mono ?_;rintro Y w3 ⟨rfl,E⟩;obtain⟨-,-,l,i,g,j,-⟩:=E.v.ins;have N:=Aa E;clear E A
 go_wp2_with fail
 refine f.out _ _ ⟨l,i,g,j⟩ (λc=>?_);clear f K l i g j
 try simp only[XG,sq]
 refine Yd (by kernel_rfl) ?_ _
 go_wp2_with fail
 go_end0
 exact⟨rfl,N.out.v,(Ac.DM P.out).trans N.out.k⟩
theorem ad9 (h:AF w b sb p s t x e) (d:FQ s t x) :
 XY Tryz.prog 93 #[Ab sb] w λr w'=>r = .returned (.tuple #[])/\Bl w w' b sb p (if (Af (s.th t) x.aR x.aN == Af (s.th t) x.bR x.bN)=true then s.Ae t {s.th t with pc:=x.x.toNat} else s) t x e:=by
 obtain⟨-,-,c4,c5,Q,U,-⟩:=h.ins;have V:=Aa (λw' (o:Xm w.heap.size w w')=>EW (h.below o) d.t4 d.rl _ _ d.a);have O:=Aa (λw' (o:Xm w.heap.size w w')=>EW (h.below o) d.t4 d.rl _ _ d.b);have F:=d.va;have D:=d.vb;have H:=Aa h;have I:Xm w.heap.size w w.drew:=⟨rfl,rfl,rfl,Xd _,λ_ _=>rfl⟩;have A:=Aa (λw' (o:Xm w.heap.size w w')=>Nz (h.below o) d.t4 d.tl d.x0 (Af (s.th t) x.aR x.aN == Af (s.th t) x.bR x.bN));obtain⟨v,z⟩:∃v,Af (s.th t) x.aR x.aN=v:=⟨_,rfl⟩;obtain⟨u,C⟩:∃u,Af (s.th t) x.bR x.bN=u:=⟨_,rfl⟩;rw[z] at F;rw[C] at D;simp only[z,C] at V O A |-;obtain⟨g,R⟩:∃g:Bool,(v == u)=g:=⟨_,rfl⟩;simp only[R] at A |-;obtain⟨s',E⟩:∃s':MS,(if g=true then s.Ae t {s.th t with pc:=x.x.toNat} else s)=s':=⟨_,rfl⟩;simp only[E] at A |-;clear E;obtain⟨W,T⟩:=F;obtain⟨P,X⟩:=D;clear h d z C W T P X;unfold Ab at *
 go_enter Tryz.func93,Tryz.ntmps93
 go_wp2_with fail
 refine Xy (S:=(λw'=>w'.cell? ⟨sb,4,none⟩=some (.bool x.aR)/\w'.cell? ⟨sb,5,none⟩=some (.int .i64 x.aN)/\w'.cell? ⟨sb,6,none⟩=some (.bool x.bR)/\w'.cell? ⟨sb,7,none⟩=some (.int .i64 x.bN))) (by kernel_rfl) ⟨c4,c5,Q,U⟩ (λc=>?_);refine tk 0 c ?_;refine tk 1 c ?_;refine tk 2 c ?_;refine tk 3 c ?_;refine tk 4 c ?_;refine tk 5 c ?_;refine tk 6 c ?_;refine tk 8 c ?_;refine tk 9 c ?_;refine tk 10 c ?_;refine tk 11 c ?_;refine tk 12 c ?_;refine tk 13 c ?_;refine rd 7 (λK l=>?_)
 go_simp
 go_at_call 76
 refine(V.out _ I).mono ?_;rintro Z w1 ⟨rfl,n⟩;replace n:Xm w.heap.size w w1:=I.trans n;obtain⟨-,-,m,i,f,j,-⟩:=(H.out.below n).ins;have G:=O.out w1 n;have y:=Aa n;clear n
 go_wp2_with fail
 refine l.out _ _ ⟨m,i,f,j⟩ (λc=>?_);clear l K m i f j
 try simp only[XG,sq]
 refine rd 14 (λK l=>?_)
 go_simp
 go_at_call 76
 refine G.mono ?_;rintro e2 M ⟨rfl,q⟩;replace q:Xm w.heap.size w M:=y.out.trans (q.mono y.out.size);obtain⟨-,-,m,i,f,j,-⟩:=(H.out.below q).ins;have N:=Aa q;clear q G y
 go_wp2_with fail
 refine l.out _ _ ⟨m,i,f,j⟩ (λc=>?_);clear l K m i f j
 try simp only[XG,sq]
 refine tk 15 c ?_;refine rd 16 (λK l=>?_)
 go_simp
 go_at_call 92
 refine(A.out M N.out).mono ?_;rintro Y w3 ⟨rfl,B⟩;obtain⟨-,-,m,i,f,j,-⟩:=B.v.ins;have J:=Aa B;clear B A
 go_wp2_with fail
 refine l.out _ _ ⟨m,i,f,j⟩ (λc=>?_);clear l K m i f j
 try simp only[XG,sq]
 refine Yd (by kernel_rfl) ?_ _
 go_wp2_with fail
 go_end0
 exact⟨rfl,J.out.v,(Ac.DM N.out).trans J.out.k⟩
theorem ad8 (h:AF w b sb p s t x e) (d:FQ s t x) :
 XY Tryz.prog 94 #[Ab sb] w λr w'=>r = .returned (.tuple #[])/\Bl w w' b sb p (if (decide (Af (s.th t) x.aR x.aN<Af (s.th t) x.bR x.bN))=true then s.Ae t {s.th t with pc:=x.x.toNat} else s) t x e:=by
 obtain⟨-,-,c4,c5,Q,U,-⟩:=h.ins;have V:=Aa (λw' (o:Xm w.heap.size w w')=>EW (h.below o) d.t4 d.rl _ _ d.a);have O:=Aa (λw' (o:Xm w.heap.size w w')=>EW (h.below o) d.t4 d.rl _ _ d.b);have F:=d.va;have D:=d.vb;have H:=Aa h;have I:Xm w.heap.size w w.drew:=⟨rfl,rfl,rfl,Xd _,λ_ _=>rfl⟩;have A:=Aa (λw' (o:Xm w.heap.size w w')=>Nz (h.below o) d.t4 d.tl d.x0 (decide (Af (s.th t) x.aR x.aN<Af (s.th t) x.bR x.bN)));obtain⟨v,z⟩:∃v,Af (s.th t) x.aR x.aN=v:=⟨_,rfl⟩;obtain⟨u,C⟩:∃u,Af (s.th t) x.bR x.bN=u:=⟨_,rfl⟩;rw[z] at F;rw[C] at D;simp only[z,C] at V O A |-;obtain⟨g,R⟩:∃g:Bool,decide (v<u)=g:=⟨_,rfl⟩;simp only[R] at A |-;obtain⟨s',E⟩:∃s':MS,(if g=true then s.Ae t {s.th t with pc:=x.x.toNat} else s)=s':=⟨_,rfl⟩;simp only[E] at A |-;clear E;obtain⟨W,T⟩:=F;obtain⟨P,X⟩:=D;clear h d z C W T P X;unfold Ab at *
 go_enter Tryz.func94,Tryz.ntmps94
 go_wp2_with fail
 refine Xy (S:=(λw'=>w'.cell? ⟨sb,4,none⟩=some (.bool x.aR)/\w'.cell? ⟨sb,5,none⟩=some (.int .i64 x.aN)/\w'.cell? ⟨sb,6,none⟩=some (.bool x.bR)/\w'.cell? ⟨sb,7,none⟩=some (.int .i64 x.bN))) (by kernel_rfl) ⟨c4,c5,Q,U⟩ (λc=>?_);refine tk 0 c ?_;refine tk 1 c ?_;refine tk 2 c ?_;refine tk 3 c ?_;refine tk 4 c ?_;refine tk 5 c ?_;refine tk 6 c ?_;refine tk 8 c ?_;refine tk 9 c ?_;refine tk 10 c ?_;refine tk 11 c ?_;refine tk 12 c ?_;refine tk 13 c ?_;refine rd 7 (λK l=>?_)
 go_simp
 go_at_call 76
 refine(V.out _ I).mono ?_;rintro Z w1 ⟨rfl,n⟩;replace n:Xm w.heap.size w w1:=I.trans n;obtain⟨-,-,m,i,f,j,-⟩:=(H.out.below n).ins;have G:=O.out w1 n;have y:=Aa n;clear n
 go_wp2_with fail
 refine l.out _ _ ⟨m,i,f,j⟩ (λc=>?_);clear l K m i f j
 try simp only[XG,sq]
 refine rd 14 (λK l=>?_)
 go_simp
 go_at_call 76
 refine G.mono ?_;rintro e2 M ⟨rfl,q⟩;replace q:Xm w.heap.size w M:=y.out.trans (q.mono y.out.size);obtain⟨-,-,m,i,f,j,-⟩:=(H.out.below q).ins;have N:=Aa q;clear q G y
 go_wp2_with fail
 refine l.out _ _ ⟨m,i,f,j⟩ (λc=>?_);clear l K m i f j
 try simp only[XG,sq]
 refine tk 15 c ?_;refine rd 16 (λK l=>?_)
 go_simp
 go_at_call 92
 refine(A.out M N.out).mono ?_;rintro Y w3 ⟨rfl,B⟩;obtain⟨-,-,m,i,f,j,-⟩:=B.v.ins;have J:=Aa B;clear B A
 go_wp2_with fail
 refine l.out _ _ ⟨m,i,f,j⟩ (λc=>?_);clear l K m i f j
 try simp only[XG,sq]
 refine Yd (by kernel_rfl) ?_ _
 go_wp2_with fail
 go_end0
 exact⟨rfl,J.out.v,(Ac.DM N.out).trans J.out.k⟩
theorem aeo (h:AF w b sb p s t x e) (f:FQ s t x) :
 XY Tryz.prog 95 #[Ab sb] w λr w'=>r = .returned (.tuple #[])/\(if Af (s.th t) x.aR x.aN≠Af (s.th t) x.bR x.bN then Bl w w' b sb p (s.Ae t {s.th t with ph:=3}) t x {e with k:=9} else Bl w w' b sb p s t x e):=by
 obtain⟨-,-,c4,c5,P,U,-⟩:=h.ins;have V:=Aa (λw' (z:Xm w.heap.size w w')=>EW (h.below z) f.t4 f.rl _ _ f.a);have J:=Aa (λw' (z:Xm w.heap.size w w')=>EW (h.below z) f.t4 f.rl _ _ f.b);have O:=f.va;have M:=f.vb;have H:=Aa h;have E:Xm w.heap.size w w.drew:=⟨rfl,rfl,rfl,Xd _,λ_ _=>rfl⟩;have A:=Aa (λw' (z:Xm w.heap.size w w')=>SW (h.below z) f.t4 f.tl);obtain⟨v,D⟩:∃v,Af (s.th t) x.aR x.aN=v:=⟨_,rfl⟩;obtain⟨u,I⟩:∃u,Af (s.th t) x.bR x.bN=u:=⟨_,rfl⟩;rw[D] at O;rw[I] at M;simp only[D,I] at V J |-;obtain⟨R,Q⟩:=O;obtain⟨N,X⟩:=M
 by_cases q:v=u
 ·have B:(v≠u)=False:=by simp[q]
  simp only[B,if_false];have aa:(v != u)=false:=by simp[q]
  clear B q;clear h f D I R Q N X;unfold Ab at *
  go_enter Tryz.func95,Tryz.ntmps95
  go_wp2_with fail
  refine Xy (S:=(λw'=>w'.cell? ⟨sb,4,none⟩=some (.bool x.aR)/\w'.cell? ⟨sb,5,none⟩=some (.int .i64 x.aN)/\w'.cell? ⟨sb,6,none⟩=some (.bool x.bR)/\w'.cell? ⟨sb,7,none⟩=some (.int .i64 x.bN))) (by kernel_rfl) ⟨c4,c5,P,U⟩ (λc=>?_);refine tk 0 c ?_;refine tk 1 c ?_;refine tk 2 c ?_;refine tk 3 c ?_;refine tk 4 c ?_;refine tk 5 c ?_;refine tk 7 c ?_;refine tk 8 c ?_;refine tk 9 c ?_;refine tk 10 c ?_;refine tk 11 c ?_;refine tk 12 c ?_;refine rd 6 (λK l=>?_)
  go_simp
  go_at_call 76
  refine(V.out _ E).mono ?_;rintro Y w1 ⟨rfl,d⟩;replace d:Xm w.heap.size w w1:=E.trans d;obtain⟨-,-,m,i,g,j,-⟩:=(H.out.below d).ins;have y:=J.out w1 d;have o:=Aa d;clear d
  go_wp2_with fail
  refine l.out _ _ ⟨m,i,g,j⟩ (λc=>?_);clear l K m i g j
  try simp only[XG,sq]
  refine rd 13 (λK l=>?_)
  go_simp
  go_at_call 76
  refine y.mono ?_;rintro Z G ⟨rfl,n⟩;replace n:Xm w.heap.size w G:=o.out.trans (n.mono o.out.size);obtain⟨-,-,m,i,g,j,-⟩:=(H.out.below n).ins;have C:=Aa n;clear n y o
  go_wp2_with fail
  refine l.out _ _ ⟨m,i,g,j⟩ (λc=>?_);clear l K m i g j
  try simp only[XG,sq]
  refine tk 14 c ?_;refine Yd (by kernel_rfl) ?_ _;clear c
  go_wp2_with fail
  go_end0
  exact⟨rfl,H.out.below C.out,Ac.DM C.out⟩
 ·have B:(v≠u)=True:=by simp[q]
  simp only[B,if_true];have aa:(v != u)=true:=by simp[q]
  clear B q;clear h f D I R Q N X;unfold Ab at *
  go_enter Tryz.func95,Tryz.ntmps95
  go_wp2_with fail
  refine Xy (S:=(λw'=>w'.cell? ⟨sb,4,none⟩=some (.bool x.aR)/\w'.cell? ⟨sb,5,none⟩=some (.int .i64 x.aN)/\w'.cell? ⟨sb,6,none⟩=some (.bool x.bR)/\w'.cell? ⟨sb,7,none⟩=some (.int .i64 x.bN))) (by kernel_rfl) ⟨c4,c5,P,U⟩ (λc=>?_);refine tk 0 c ?_;refine tk 1 c ?_;refine tk 2 c ?_;refine tk 3 c ?_;refine tk 4 c ?_;refine tk 5 c ?_;refine tk 7 c ?_;refine tk 8 c ?_;refine tk 9 c ?_;refine tk 10 c ?_;refine tk 11 c ?_;refine tk 12 c ?_;refine rd 6 (λK l=>?_)
  go_simp
  go_at_call 76
  refine(V.out _ E).mono ?_;rintro Y w1 ⟨rfl,d⟩;replace d:Xm w.heap.size w w1:=E.trans d;obtain⟨-,-,m,i,g,j,-⟩:=(H.out.below d).ins;have y:=J.out w1 d;have o:=Aa d;clear d
  go_wp2_with fail
  refine l.out _ _ ⟨m,i,g,j⟩ (λc=>?_);clear l K m i g j
  try simp only[XG,sq]
  refine rd 13 (λK l=>?_)
  go_simp
  go_at_call 76
  refine y.mono ?_;rintro Z G ⟨rfl,n⟩;replace n:Xm w.heap.size w G:=o.out.trans (n.mono o.out.size);obtain⟨-,-,m,i,g,j,-⟩:=(H.out.below n).ins;have C:=Aa n;clear n y o
  go_wp2_with fail
  refine l.out _ _ ⟨m,i,g,j⟩ (λc=>?_);clear l K m i g j
  try simp only[XG,sq]
  refine tk 14 c ?_;refine Yd (by kernel_rfl) ?_ _;clear c;have F:=A.out G C.out;clear A
  go_wp2_with fail
  refine F.mono ?_;rintro e3 w3 ⟨rfl,W⟩;have T:=Aa W;clear W F
  go_wp2_with fail
  go_end0
  exact⟨rfl,T.out.v,(Ac.DM C.out).trans T.out.k⟩
end
section
variable {w w':Xh} {b sb:Nat} {p:PD} {s:MS} {t:Nat} {x:Ad} {e:Ev}
theorem ad5 (h:AF w b sb p s t x e) (j:t<4) (n:t<s.thr.length) (i:(s.th t).regs.length=4) (g:0<=x.r/\x.r<4) (m:0<=x.x/\x.x<4) :
 XY Tryz.prog 80 #[Ab sb] w λr w'=>r = .returned (.tuple #[])/\Bl w w' b sb p (s.Ae t {s.th t with regs:=(s.th t).regs.set x.r.toNat (s.vars.getD x.x.toNat 0)}) t x {e with k:=1,o:=x.x,v:=s.vars.getD x.x.toNat 0}:=by
 obtain⟨c0,-⟩:=h.Fw;have A:XY Tryz.prog 81 #[Ab sb,.int .i64 1,.pointer (some ⟨b,0,none⟩)] w λr w'=>r = .returned (.tuple #[])/\Bl w w' b sb p (s.Ae t {s.th t with regs:=(s.th t).regs.set x.r.toNat (s.vars.getD x.x.toNat 0)}) t x {e with k:=1,o:=x.x,v:=s.vars.getD x.x.toNat 0}:=SU h j n i g m 1 (o:=0) (.inl rfl);obtain⟨s',d⟩:∃s':MS,(s.Ae t {s.th t with regs:=(s.th t).regs.set x.r.toNat (s.vars.getD x.x.toNat 0)})=s':=⟨_,rfl⟩;obtain⟨c,a⟩:∃c:Ev,({e with k:=1,o:=x.x,v:=s.vars.getD x.x.toNat 0}:Ev)=c:=⟨_,rfl⟩;simp only[d,a] at A |-;clear h d a;unfold Ab at *
 go_enter Tryz.func80,Tryz.ntmps80
 go_wp2_with fail
 refine A.mono ?_;rintro q w1 ⟨rfl,f⟩;have l:=Aa f;clear A f
 go_wp2_with fail
 go_end0
 exact⟨rfl,l.out⟩
theorem ad1 (h:AF w b sb p s t x e) (j:t<4) (i:(s.th t).regs.length=4) (l:Fj x.aR x.aN) (n:0<=x.x/\x.x<4) (g:x.x.toNat<s.vars.length) :
 XY Tryz.prog 82 #[Ab sb] w λr w'=>r = .returned (.tuple #[])/\Bl w w' b sb p {s with vars:=s.vars.set x.x.toNat (Af (s.th t) x.aR x.aN)} t x {e with k:=2,o:=x.x,v:=Af (s.th t) x.aR x.aN}:=by
 obtain⟨c0,-⟩:=h.Fw;have A:XY Tryz.prog 83 #[Ab sb,.int .i64 2,.pointer (some ⟨b,0,none⟩)] w λr w'=>r = .returned (.tuple #[])/\Bl w w' b sb p {s with vars:=s.vars.set x.x.toNat (Af (s.th t) x.aR x.aN)} t x {e with k:=2,o:=x.x,v:=Af (s.th t) x.aR x.aN}:=Se h j i l n 2 (o:=0) (.inl rfl) g;obtain⟨s',d⟩:∃s':MS,{s with vars:=s.vars.set x.x.toNat (Af (s.th t) x.aR x.aN)}=s':=⟨_,rfl⟩;obtain⟨c,a⟩:∃c:Ev,({e with k:=2,o:=x.x,v:=Af (s.th t) x.aR x.aN}:Ev)=c:=⟨_,rfl⟩;simp only[d,a] at A |-;clear h d a;unfold Ab at *
 go_enter Tryz.func82,Tryz.ntmps82
 go_wp2_with fail
 refine A.mono ?_;rintro q w1 ⟨rfl,f⟩;have m:=Aa f;clear A f
 go_wp2_with fail
 go_end0
 exact⟨rfl,m.out⟩
theorem aea (h:AF w b sb p s t x e) (j:t<4) (n:t<s.thr.length) (i:(s.th t).regs.length=4) (g:0<=x.r/\x.r<4) (m:0<=x.x/\x.x<4) :
 XY Tryz.prog 84 #[Ab sb] w λr w'=>r = .returned (.tuple #[])/\Bl w w' b sb p (s.Ae t {s.th t with regs:=(s.th t).regs.set x.r.toNat (s.flags.getD x.x.toNat 0)}) t x {e with k:=3,o:=x.x,v:=s.flags.getD x.x.toNat 0}:=by
 obtain⟨c0,-⟩:=h.Fw;have A:XY Tryz.prog 81 #[Ab sb,.int .i64 3,.pointer (some ⟨b,9,none⟩)] w λr w'=>r = .returned (.tuple #[])/\Bl w w' b sb p (s.Ae t {s.th t with regs:=(s.th t).regs.set x.r.toNat (s.flags.getD x.x.toNat 0)}) t x {e with k:=3,o:=x.x,v:=s.flags.getD x.x.toNat 0}:=SU h j n i g m 3 (o:=9) (.inr rfl);obtain⟨s',d⟩:∃s':MS,(s.Ae t {s.th t with regs:=(s.th t).regs.set x.r.toNat (s.flags.getD x.x.toNat 0)})=s':=⟨_,rfl⟩;obtain⟨c,a⟩:∃c:Ev,({e with k:=3,o:=x.x,v:=s.flags.getD x.x.toNat 0}:Ev)=c:=⟨_,rfl⟩;simp only[d,a] at A |-;clear h d a;unfold Ab at *
 go_enter Tryz.func84,Tryz.ntmps84
 go_wp2_with fail
 refine A.mono ?_;rintro q w1 ⟨rfl,f⟩;have l:=Aa f;clear A f
 go_wp2_with fail
 go_end0
 exact⟨rfl,l.out⟩
theorem ad3 (h:AF w b sb p s t x e) (j:t<4) (i:(s.th t).regs.length=4) (l:Fj x.aR x.aN) (n:0<=x.x/\x.x<4) (g:x.x.toNat<s.flags.length) :
 XY Tryz.prog 85 #[Ab sb] w λr w'=>r = .returned (.tuple #[])/\Bl w w' b sb p {s with flags:=s.flags.set x.x.toNat (Af (s.th t) x.aR x.aN)} t x {e with k:=4,o:=x.x,v:=Af (s.th t) x.aR x.aN}:=by
 obtain⟨c0,-⟩:=h.Fw;have A:XY Tryz.prog 83 #[Ab sb,.int .i64 4,.pointer (some ⟨b,9,none⟩)] w λr w'=>r = .returned (.tuple #[])/\Bl w w' b sb p {s with flags:=s.flags.set x.x.toNat (Af (s.th t) x.aR x.aN)} t x {e with k:=4,o:=x.x,v:=Af (s.th t) x.aR x.aN}:=Se h j i l n 4 (o:=9) (.inr rfl) g;obtain⟨s',d⟩:∃s':MS,{s with flags:=s.flags.set x.x.toNat (Af (s.th t) x.aR x.aN)}=s':=⟨_,rfl⟩;obtain⟨c,a⟩:∃c:Ev,({e with k:=4,o:=x.x,v:=Af (s.th t) x.aR x.aN}:Ev)=c:=⟨_,rfl⟩;simp only[d,a] at A |-;clear h d a;unfold Ab at *
 go_enter Tryz.func85,Tryz.ntmps85
 go_wp2_with fail
 refine A.mono ?_;rintro q w1 ⟨rfl,f⟩;have m:=Aa f;clear A f
 go_wp2_with fail
 go_end0
 exact⟨rfl,m.out⟩
theorem ad7 (h:AF w b sb p s t x e) :
 XY Tryz.prog 89 #[Ab sb] w λr w'=>r = .returned (.tuple #[])/\Bl w w' b sb p s t x {e with k:=8,o:=x.x}:=by
 have A:=Ja h 8;clear h;unfold Ab at *
 go_enter Tryz.func89,Tryz.ntmps89
 go_wp2_with fail
 refine A.mono ?_;rintro d w1 ⟨rfl,a⟩;have c:=Aa a;clear A a
 go_wp2_with fail
 go_end0
 exact⟨rfl,c.out⟩
theorem ad6 (h:AF w b sb p s t x e) (c:t<4) (g:t<s.thr.length) (f:0<=x.x) :
 XY Tryz.prog 91 #[Ab sb] w λr w'=>r = .returned (.tuple #[])/\Bl w w' b sb p (s.Ae t {s.th t with pc:=x.x.toNat}) t x e:=by
 have A:=Nz h c g f true;clear h;unfold Ab at *
 go_enter Tryz.func91,Tryz.ntmps91
 go_wp2_with fail
 refine A.mono ?_;rintro i w1 ⟨rfl,a⟩;have d:=Aa a;clear A a
 go_wp2_with fail
 go_end0
 exact⟨rfl,d.out⟩
end
section
variable {w w':Xh} {b sb:Nat} {p:PD} {s:MS} {t:Nat} {x:Ad} {e:Ev}
theorem VO (s:MS) (t:Nat) (a c:TS):(s.Ae t a).Ae t c=s.Ae t c:=by unfold MS.Ae;simp
theorem UV (s:MS) {t:Nat} (h:t<s.thr.length) (a:TS):(s.Ae t a).th t=a:=by rw[Fr s t t a h,if_pos rfl]
def Mj (w:Xh) (f b sb:Nat) (p:PD) (t:Nat) (x:Ad) (s':MS) (e':Ev):Prop:=XY Tryz.prog f #[Ab sb] w λr w'=>r = .returned (.tuple #[])/\Bl w w' b sb p s' t x e'
theorem adW {nv nf nl:Nat} (N:nv<=4) (J:nf<=4) (P:nl<=4) (D:Ef nv nf nl p.C) (h:AW nv nf nl p.C s) (E:t<p.C.length) (M:(s.th t).ph=1) (I:BH s x=false) (m:x=Cm\/(Gq nv nf nl p.C.length (p.C.getD t []).length x/\(s.th t).pc<(p.C.getD t []).length)) :
 ∃f,Ed x.op = .func (.func f) #[] #[]/\∀w,AF w b sb p (s.Ae t {s.th t with pc:=(s.th t).pc+1}) t x ⟨t,0,0,0⟩->Mj w f b sb p t x (Ba false s t x).1 (Ba false s t x).2:=by
 have B:=h.th t E;have l:t<4:=by have:=D.four;omega
 have A:t<s.thr.length:=by rw[h.tl];exact E
 have i:(s.Ae t {s.th t with pc:=(s.th t).pc+1}).th t={s.th t with pc:=(s.th t).pc+1}:=UV s A _;have z:(s.Ae t {s.th t with pc:=(s.th t).pc+1}).thr.length=s.thr.length:=by show (s.thr.set t _).length=_;rw[List.length_set]
 have k:∀y,(s.Ae t {s.th t with pc:=(s.th t).pc+1}).Ae t y=s.Ae t y:=λy=>VO s t _ y;have G:∀{v:Int},CD v->v % 1000=v:=λ{v} q=>by have:=q.1;have:=q.2;omega
 have H:∀w,AF w b sb p (s.Ae t {s.th t with pc:=(s.th t).pc+1}) t Cm ⟨t,0,0,0⟩->Mj w 96 b sb p t Cm (Ba false s t Cm).1 (Ba false s t Cm).2:=λw q=>by
  have:=Tb q l (by rw[z];exact A);rw[i,k] at this;exact this
 rcases m with rfl|⟨m,K⟩
 ·exact⟨96,rfl,H⟩
 ·have va:=JD B m.sm.2.1;have e:FQ (s.Ae t {s.th t with pc:=(s.th t).pc+1}) t x:=⟨l,by rw[z];exact A,by rw[i];exact B.rl,by rw[i];exact B.rv,m.sm.1,m.sm.2.1,m.sm.2.2,m.x0⟩;have j:∀r n,Af ((s.Ae t {s.th t with pc:=(s.th t).pc+1}).th t) r n=Af (s.th t) r n:=λr n=>by rw[i];rfl
  obtain⟨q,F,g,x1,x2,x3,x4,O⟩:=m.ex;have o:=m.x0;simp only[Bb,XP,X6,or_false] at F
  rcases F with rfl|rfl|rfl|rfl|rfl|rfl|rfl|rfl|rfl|rfl|rfl|rfl|rfl|rfl|rfl|rfl|rfl<;>rw[g]
  ·refine⟨74,rfl,λw q=>?_⟩;have:=ad2 q e;rw[k,j,i,G va] at this;unfold Ba;rw[g];exact this
  ·refine⟨77,rfl,λw q=>?_⟩;have:=aeb q e;rw[k,j,j,i] at this;unfold Ba;rw[g];exact this
  ·refine⟨78,rfl,λw q=>?_⟩;have:=ad0 q e;rw[k,j,j,i] at this;rw[show (Af (s.th t) x.aR x.aN - Af (s.th t) x.bR x.bN) % 1000=(Af (s.th t) x.aR x.aN - Af (s.th t) x.bR x.bN+1000) % 1000 by omega] at this;unfold Ba;rw[g];exact this
  ·refine⟨79,rfl,λw q=>?_⟩;have:=ad4 q e;rw[k,j,j,i] at this;unfold Ba;rw[g];exact this
  ·refine⟨80,rfl,λw q=>?_⟩;have u:=x1 (by decide);have:=ad5 q l e.tl e.rl e.r ⟨o,by omega⟩;rw[k,i] at this;unfold Ba;rw[g];exact this
  ·refine⟨82,rfl,λw q=>?_⟩;have u:=x1 (by decide);have:=ad1 q l e.rl e.a ⟨o,by omega⟩ (by show x.x.toNat<s.vars.length;rw[h.vl];omega);rw[j] at this;unfold Ba;rw[g];exact this
  ·refine⟨84,rfl,λw q=>?_⟩;have u:=x2 (by decide);have:=aea q l e.tl e.rl e.r ⟨o,by omega⟩;rw[k,i] at this;unfold Ba;rw[g];exact this
  ·refine⟨85,rfl,λw q=>?_⟩;have u:=x2 (by decide);have:=ad3 q l e.rl e.a ⟨o,by omega⟩ (by show x.x.toNat<s.flags.length;rw[h.fl];omega);rw[j] at this;unfold Ba;rw[g];exact this
  ·refine⟨86,rfl,λw q=>?_⟩;have u:=x3 (by decide);have:=aeX q ⟨o,by omega⟩ (by show x.x.toNat<s.locks.length;rw[h.ll];omega);unfold Ba;rw[g];exact this
  ·refine⟨87,rfl,λw q=>?_⟩;have u:=x3 (by decide);have:=WR q l e.tl ⟨o,by omega⟩ (by show x.x.toNat<s.locks.length;rw[h.ll];omega);rw[k,i] at this;refine this.mono ?_;rintro r w' ⟨rfl,c⟩;refine⟨rfl,?_⟩;unfold Ba;rw[g];show Bl w w' b sb p (Prod.fst (if s.locks.getD x.x.toNat 0≠t then _ else _:MS×Ev)) t x (Prod.snd (if s.locks.getD x.x.toNat 0≠t then _ else _:MS×Ev));have c:if s.locks.getD x.x.toNat 0≠(t:Int) then _ else _:=c
   by_cases d:s.locks.getD x.x.toNat 0≠t
   ·rw[if_pos d] at c |-;exact c
   ·rw[if_neg d] at c |-;exact c
  ·refine⟨88,rfl,λw q=>?_⟩;have u:=x4 (by decide);have:=D.four;have:=VE q ⟨o,by omega⟩ (by rw[z,h.tl];omega);unfold Ba;rw[g];exact this
  ·refine⟨89,rfl,λw q=>?_⟩;have:=ad7 q;unfold Ba;rw[g];exact this
  ·refine⟨91,rfl,λw q=>?_⟩;have:=ad6 q l e.tl o;rw[k,i] at this;unfold Ba;rw[g];exact this
  ·refine⟨93,rfl,λw q=>?_⟩;have:=ad9 q e;rw[k,j,j,i] at this;unfold Ba;rw[g];refine this.mono ?_;rintro r w' ⟨rfl,c⟩;refine⟨rfl,?_⟩;show Bl w w' b sb p (s.Ae t {s.th t with pc:=if Af (s.th t) x.aR x.aN=Af (s.th t) x.bR x.bN then x.x.toNat else(s.th t).pc+1}) t x _
   by_cases d:Af (s.th t) x.aR x.aN=Af (s.th t) x.bR x.bN
   ·rw[if_pos (by simp[d])] at c;rw[if_pos d];exact c
   ·rw[if_neg (by simp[d])] at c;rw[if_neg d];exact c
  ·refine⟨94,rfl,λw q=>?_⟩;have:=ad8 q e;rw[k,j,j,i] at this;unfold Ba;rw[g];refine this.mono ?_;rintro r w' ⟨rfl,c⟩;refine⟨rfl,?_⟩;show Bl w w' b sb p (s.Ae t {s.th t with pc:=if Af (s.th t) x.aR x.aN<Af (s.th t) x.bR x.bN then x.x.toNat else(s.th t).pc+1}) t x _
   by_cases d:Af (s.th t) x.aR x.aN<Af (s.th t) x.bR x.bN
   ·rw[if_pos (by simp[d])] at c;rw[if_pos d];exact c
   ·rw[if_neg (by simp[d])] at c;rw[if_neg d];exact c
  ·refine⟨95,rfl,λw q=>?_⟩;have:=aeo q e;rw[k,j,j,i] at this;unfold Ba;rw[g];refine this.mono ?_;rintro r w' ⟨rfl,c⟩;refine⟨rfl,?_⟩;show Bl w w' b sb p (Prod.fst (if Af _ _ _≠Af _ _ _ then _ else _:MS×Ev)) t x (Prod.snd (if Af _ _ _≠Af _ _ _ then _ else _:MS×Ev))
   by_cases d:Af (s.th t) x.aR x.aN≠Af (s.th t) x.bR x.bN
   ·rw[if_pos d] at c |-;exact c
   ·rw[if_neg d] at c |-;exact c
  ·refine⟨96,rfl,λw q=>?_⟩;have:=Tb q l (by rw[z];exact A);rw[i,k] at this;unfold Ba;rw[g];exact this
end
section
variable {w w':Xh} {b:Nat} {p:PD} {s:MS}
theorem Es {P:Program} {f:FuncId} {fn:Func} (d:P.funcs[f]?=some fn) (g:(fn.name == "runtime.NumGoroutine")=false) (a:fn.body.isSome=true) (args:Array Xk) (w:Xh):(callFunc f args).run P w = .ok (.enter f args) w:=by
 have e:fn.name≠ "runtime.NumGoroutine" :=by simpa using g
 cases b:fn.body with
 |none=>rw[b] at a;cases a
 |some c=>simp[callFunc,d,e,b]
theorem adV:∀q,q∈LP->∀(args:Array Xk) (w:Xh),(callFunc q.2 args).run Tryz.prog w = .ok (.enter q.2 args) w:=by
 intro q b;simp only[LP,XP,X6,or_false] at b
 rcases b with rfl|rfl|rfl|rfl|rfl|rfl|rfl|rfl|rfl|rfl|rfl|rfl|rfl|rfl|rfl|rfl|rfl
 ·exact λa w=>Es Tryz.func74 (by kernel_rfl) (by kernel_rfl) a w
 ·exact λa w=>Es Tryz.func77 (by kernel_rfl) (by kernel_rfl) a w
 ·exact λa w=>Es Tryz.func78 (by kernel_rfl) (by kernel_rfl) a w
 ·exact λa w=>Es Tryz.func79 (by kernel_rfl) (by kernel_rfl) a w
 ·exact λa w=>Es Tryz.func80 (by kernel_rfl) (by kernel_rfl) a w
 ·exact λa w=>Es Tryz.func82 (by kernel_rfl) (by kernel_rfl) a w
 ·exact λa w=>Es Tryz.func84 (by kernel_rfl) (by kernel_rfl) a w
 ·exact λa w=>Es Tryz.func85 (by kernel_rfl) (by kernel_rfl) a w
 ·exact λa w=>Es Tryz.func86 (by kernel_rfl) (by kernel_rfl) a w
 ·exact λa w=>Es Tryz.func87 (by kernel_rfl) (by kernel_rfl) a w
 ·exact λa w=>Es Tryz.func88 (by kernel_rfl) (by kernel_rfl) a w
 ·exact λa w=>Es Tryz.func89 (by kernel_rfl) (by kernel_rfl) a w
 ·exact λa w=>Es Tryz.func91 (by kernel_rfl) (by kernel_rfl) a w
 ·exact λa w=>Es Tryz.func93 (by kernel_rfl) (by kernel_rfl) a w
 ·exact λa w=>Es Tryz.func94 (by kernel_rfl) (by kernel_rfl) a w
 ·exact λa w=>Es Tryz.func95 (by kernel_rfl) (by kernel_rfl) a w
 ·exact λa w=>Es Tryz.func96 (by kernel_rfl) (by kernel_rfl) a w
theorem adT {b:Tx} {f:Nat} (h:Ed b = .func (.func f) #[] #[]) (args:Array Xk) (w:Xh):(callFunc f args).run Tryz.prog w = .ok (.enter f args) w:=by
 unfold Ed at h
 split at h
 ·rename_i q a
  cases h
  exact adV q (List.mem_of_find?_eq_some a) args w
 ·cases h
theorem Ac.then {S S':Nat->Prop} {w w1 d:Xh} (h:Ac S w w1) (a:Ac S' w1 d) (e:∀k,k<w.heap.size->S' k->S k):Ac S w d:=
 ⟨a.os.trans h.os,a.tape.trans h.tape,a.output.trans h.output,Xu h.size a.size,λk b c=>(a.block k (Nat.lt_of_lt_of_le b h.size) (λq=>c (e k b q))).trans (h.block k b c)⟩
theorem Ta {w:Xh} {n T:Nat} {l i h f:Xk} (k:w.heap[n]?=some (.cells #[l,i,h,f] T)) (a c d g:Xk):∃W,(((w.setCell ⟨n,0,none⟩ a).setCell ⟨n,1,none⟩ c).setCell ⟨n,2,none⟩ d).setCell ⟨n,3,none⟩ g=W/\W.heap[n]?=some (.cells #[a,c,d,g] T)/\(∀b,b≠n->W.heap[b]?=w.heap[b]?)/\W.heap.size=w.heap.size/\W.os=w.os/\W.tape=w.tape/\W.output=w.output:=by
 refine⟨_,rfl,?_,λb e=>?_,by simp,rfl,rfl,rfl⟩
 ·have m:=(Xj _ n 0 _ _ a k).trans (show _=some (Obj.cells #[a,i,h,f] T) from rfl);have o:=(Xj _ n 1 _ _ c m).trans (show _=some (Obj.cells #[a,c,h,f] T) from rfl);have j:=(Xj _ n 2 _ _ d o).trans (show _=some (Obj.cells #[a,c,d,f] T) from rfl)
  exact(Xj _ n 3 _ _ g j).trans (show _=some (Obj.cells #[a,c,d,g] T) from rfl)
 ·rw[Xn _ ⟨n,3,none⟩ _ b e,Xn _ ⟨n,2,none⟩ _ b e,Xn _ ⟨n,1,none⟩ _ b e,Xn _ ⟨n,0,none⟩ _ b e]
theorem SZ {w:Xh} {fn:Func} {tmps:Array Xk} {b:Nat} {x c f d e:Xk} (i:fn.results = #[.cell 4 48,.tmp 5]) (h:tmps[4]?=some (.pointer (some ⟨b,0,none⟩))) (g:tmps[5]?=some x) (a:w.heap[b]?=some (.cells #[c,f,d,e] 48)):(results fn tmps).run Tryz.prog w = .ok (.tuple #[.agg #[c,f,d,e],x]) w:=by
 have c0:w.cell? ⟨b,0,none⟩=some c:=by simp[Xg,a]
 have c1:w.cell? ⟨b,1,none⟩=some f:=by simp[Xg,a]
 have c2:w.cell? ⟨b,2,none⟩=some d:=by simp[Xg,a]
 have c3:w.cell? ⟨b,3,none⟩=some e:=by simp[Xg,a]
 simp[results,i,h,g,go_sem,c0,c1,c2,c3]
def Er (e:Ev):Array Xk := #[.int .i64 e.t,.int .i64 e.k,.int .i64 e.o,.int .i64 e.v]
def JG (C:List (List Ad)) (s:MS) (t:Int):MS×Ev:=if AV C s t=0 then AB false C s t else(s,⟨0,0,0,0⟩)
def TX (w w':Xh) (b:Nat) (p:PD) (s:MS) (t:Int) (e:Ending):Prop:=
 e = .returned (.tuple #[.agg (Er (JG p.C s t).2),.int .i64 (AV p.C s t)])/\Bn w' b p (JG p.C s t).1/\Ac (λk=>k=b) w w'
theorem Vs (h:Bn w b p s) (B:CK p) (P:CY p s) (t:Int) :
 XY Tryz.prog 14 #[Ab b,.int .i64 t] w λe w'=>TX w w' b p s t e:=by
 have g:Xm w.heap.size w (w.alloc (.cells #[.int .i64 0,.int .i64 0,.int .i64 0,.int .i64 0] 48)):=(Xq _ _).alloc (Xd _) _;have y:(w.alloc (.cells #[.int .i64 0,.int .i64 0,.int .i64 0,.int .i64 0] 48)).heap[w.heap.size]?=some (.cells #[.int .i64 0,.int .i64 0,.int .i64 0,.int .i64 0] 48):=Xi w _;have D:(w.alloc (.cells #[.int .i64 0,.int .i64 0,.int .i64 0,.int .i64 0] 48)).heap.size=w.heap.size+1:=by show (w.heap.push _).size=_;simp
 have hR:=QG (h.below g) B P t;unfold TX JG
 by_cases I:AV p.C s t=0
 ·simp only[if_pos I];rw[I] at hR |-;obtain⟨u,rfl,A,aH,au,hx⟩:=GM B.fit P I;have U:u<4:=by have:=B.fit.four;omega
  have ba:(u:Int)<4:=by omega
  unfold AB;rw[Int.toNat_natCast];have hT:=P.th u A;have J:=hT.pc (by omega);have K:=(B.fit.code _ (CN (d:=[]) A)).1;obtain⟨x,H⟩:∃x,BA p.C u (s.th u)=x:=⟨_,rfl⟩;obtain⟨pc,z⟩:∃pc,(s.th u).pc=pc:=⟨_,rfl⟩;rw[H] at au hx |-;have Z:=λsb=>adW (b:=b) (sb:=sb) B.v B.f B.l B.fit P A aH au hx;have O:u<s.thr.length:=by rw[P.tl];exact A
  obtain⟨s',aI⟩:∃s',(Ba false s u x).1=s':=⟨_,rfl⟩;obtain⟨Q,az⟩:∃Q,(Ba false s u x).2=Q:=⟨_,rfl⟩;simp only[aI,az] at Z |-;obtain⟨f,Y,-⟩:=Z 0;replace Z:∀sb,∀w,AF w b sb p (s.Ae u {s.th u with pc:=(s.th u).pc+1}) u x ⟨u,0,0,0⟩->Mj w f b sb p u x s' Q:=λsb=>by
   obtain⟨f2,aK,hd⟩:=Z sb;rw[Y] at aK
   cases aK
   exact hd
  have HD:=Aa Z;have N:=Aa (⟨g,y,h,D⟩:_/\_/\_/\_);have HX:=Aa (⟨A,J,K,z,H,O⟩:_/\_/\_/\_/\_/\_);replace Y:=Aa Y;replace D:=Aa D;clear h B P I hT J K Z g y aH au hx aI az z H A O;unfold Ab at *
  go_enter Tryz.func14,Tryz.ntmps14
  go_wp2_with fail
  refine hR.mono ?_;rintro e c ⟨rfl,n⟩;obtain⟨g,y,h,-⟩:=N.out;obtain⟨A,J,K,z,H,O⟩:=HX.out;replace n:Xm (w.heap.size+1) (w.alloc (.cells #[.int .i64 0,.int .i64 0,.int .i64 0,.int .i64 0] 48)) c:=by rw[<-D.out];exact n
  have aq:Bn c b p s:=Am.below (w:=w) h (g.trans (n.mono (af7 _)));have hN:=Rq aq U (by omega);rw[z] at hN;have X:=Aa (⟨aq,n⟩:_/\_);clear hR g y h A J K z H O aq n
  go_wp2_with fail
  refine hN.mono ?_;rintro e w3 ⟨rfl,rfl⟩;obtain⟨A,J,K,z,H,O⟩:=HX.out;have af:Bn c.drew b p s:=Am.same X.out.1 rfl;obtain⟨k0,k1,k2,k3,k4,k5,k6,k7⟩:=Nn af U A J K z H;rw[Y.out] at k7;have aB:=Lq af U;rw[z] at aB;have f3:=af.frozen;have a4:XN ((pc:Int)+1)=(pc:Int)+1:=by unfold XN;omega
  obtain⟨F,ai⟩:∃F:Array Xk,#[Value.pointer (some ⟨b,0,none⟩),.pointer (some ⟨b,27+u*207,none⟩),.string (bs x.op),.int .i64 x.r,.bool x.aR,.int .i64 x.aN,.bool x.bR,.int .i64 x.bN,.int .i64 x.x,.int .i64 u,.int .i64 0,.int .i64 0,.int .i64 0]=F:=⟨_,rfl⟩;have ak:Xm c.heap.size c (c.alloc (.cells F 129)):=(Xq c.heap.size c).alloc (Xd _) _;have ab:Bn (c.alloc (.cells F 129)) b p s:=Am.below X.out.1 ak;have aF:=Lq ab U;have fA:=ab.frozen;rw[z] at aF;have T:AF (((c.alloc (.cells F 129)).setCell ⟨b,27+u*207+2,none⟩ (.int .i64 ((pc:Int)+1))).drew) b c.heap.size p (s.Ae u {s.th u with pc:=(s.th u).pc+1}) u x ⟨u,0,0,0⟩:=by
   have q:AF (c.alloc (.cells F 129)) b c.heap.size p s u x ⟨u,0,0,0⟩:=by
    refine⟨ab,⟨F,Xi c _,by rw[<-ai];rfl,λk hk=>?_⟩,by have:=X.out.1.lt;omega⟩;rw[<-ai];have:k=0\/k=1\/k=2\/k=3\/k=4\/k=5\/k=6\/k=7\/k=8\/k=9\/k=10\/k=11\/k=12:=by omega
    rcases this with rfl|rfl|rfl|rfl|rfl|rfl|rfl|rfl|rfl|rfl|rfl|rfl|rfl<;>rfl
   have q2:=q.Gy (λj=>Rv (p:=p) (s:=s) U O (pc+1) (k:=j));rw[z];exact q2.same rfl
  have aT:((c.alloc (.cells F 129)).setCell ⟨b,27+u*207+2,none⟩ (.int .i64 ((pc:Int)+1))).cell? ⟨b,27+u*207+7+pc*8+7,none⟩=some (.func (.func f) #[] #[]):=by
   have q:=(Nn ab U A J K z H).2.2.2.2.2.2.2;rw[Y.out] at q;rw[World.cell?_setCell_other _ _ _ _ (by intro e;injection e;omega)];exact q
  have ag:=HD.out _ _ T;have aW:=adT Y.out;have M:Ac (λk=>k=b) w (((c.alloc (.cells F 129)).setCell ⟨b,27+u*207+2,none⟩ (.int .i64 ((pc:Int)+1))).drew):=by
   obtain⟨g,y,h,-⟩:=N.out;have n:=X.out.2;have q1:=g.trans (n.mono (af7 _))
   exact(Ac.set (S:=λk=>k=b) (Ac.DM (q1.trans (ak.mono q1.size))) (a:=⟨b,27+u*207+2,none⟩) (.inl rfl) _).drew
  unfold Mj Ab at ag;have HF:=Aa (⟨T,M⟩:_/\_);subst ai;clear A J K z H O af ak ab T M HD
  go_wp2_with fail
  refine ag.mono ?_;rintro e V ⟨rfl,R⟩;obtain⟨T,M⟩:=HF.out;have E:V.heap[w.heap.size]?=some (.cells #[.int .i64 0,.int .i64 0,.int .i64 0,.int .i64 0] 48):=by
   obtain⟨g,y,h,-⟩:=N.out;have n:=X.out.2;have am:=n.size;rw[D.out] at am;have an:b<w.heap.size:=h.lt;refine(R.k.block _ ?_ ?_).trans ((Xn _ ⟨b,_,none⟩ _ _ ?_).trans ((Below.heap_alloc c _ _ ?_).trans ((n.block _ (Nat.lt_succ_self _)).trans y)))
   ·have:=M.size;have:c.heap.size+1=(((c.alloc (.cells #[Value.pointer (some ⟨b,0,none⟩),.pointer (some ⟨b,27+u*207,none⟩),.string (bs x.op),.int .i64 x.r,.bool x.aR,.int .i64 x.aN,.bool x.bR,.int .i64 x.bN,.int .i64 x.x,.int .i64 u,.int .i64 0,.int .i64 0,.int .i64 0] 129)).setCell ⟨b,27+u*207+2,none⟩ (.int .i64 ((pc:Int)+1))).drew).heap.size:=by
     show _=(World.setCell _ _ _).heap.size;rw[World.size_setCell];show _=(c.heap.push _).size;simp
    omega
   ·intro e;rcases e with e|e<;>omega
   ·show w.heap.size≠b;omega
   ·omega
  obtain⟨c9,bd,be,bf⟩:=R.v.Il;have r0:V.cell? ⟨w.heap.size,0,none⟩=some (.int .i64 0):=by simp[Xg,E]
  have r1:V.cell? ⟨w.heap.size,1,none⟩=some (.int .i64 0):=by simp[Xg,E]
  have r2:V.cell? ⟨w.heap.size,2,none⟩=some (.int .i64 0):=by simp[Xg,E]
  have r3:V.cell? ⟨w.heap.size,3,none⟩=some (.int .i64 0):=by simp[Xg,E]
  have f4:∀i,V.frozen? ⟨w.heap.size,i,none⟩=false:=λi=>by simp[XM,E]
  have H4:=Aa (⟨R,E⟩:_/\_);clear R E T M ag aW k0 k1 k2 k3 k4 k5 k6 k7 aT aB aF f3 fA a4
  go_wp2_with fail
  obtain⟨R,E⟩:=H4.out;obtain⟨T,M⟩:=HF.out;obtain⟨g,y,h,-⟩:=N.out;obtain⟨W,hW,v1,v2,v3,v4,v5,v6⟩:=Ta E (.int .i64 Q.t) (.int .i64 Q.k) (.int .i64 Q.o) (.int .i64 Q.v);rw[hW];have an:b<w.heap.size:=h.lt;have am:=X.out.2.size;rw[D.out] at am;refine XI (SZ rfl rfl rfl v1) rfl ⟨rfl,R.v.m.same (v2 b (by omega)),?_⟩;have q:=M.then R.k (λk hk e=>by rcases e with e|e;exact e;omega)
  exact⟨v4.trans q.os,v5.trans q.tape,v6.trans q.output,by rw[v3];exact q.size,λk hk hn=>(v2 k (by omega)).trans (q.block k hk hn)⟩
 ·simp only[if_neg I];obtain⟨er,aJ⟩:∃er,AV p.C s t=er:=⟨_,rfl⟩;rw[aJ] at hR I |-;have hb:(er != 0)=true:=by simpa using I
  have N:=Aa (⟨g,y,h,D⟩:_/\_/\_/\_);clear I B P g y D h aJ;unfold Ab at *
  go_enter Tryz.func14,Tryz.ntmps14
  go_wp2_with fail
  refine hR.mono ?_;rintro e c ⟨rfl,n⟩;have G:c.heap[w.heap.size]?=some (.cells #[.int .i64 0,.int .i64 0,.int .i64 0,.int .i64 0] 48):=by
   obtain⟨g,y,h,D⟩:=N.out
   exact(n.block _ (by omega)).trans y
  have r0:c.cell? ⟨w.heap.size,0,none⟩=some (.int .i64 0):=by simp[Xg,G]
  have r1:c.cell? ⟨w.heap.size,1,none⟩=some (.int .i64 0):=by simp[Xg,G]
  have r2:c.cell? ⟨w.heap.size,2,none⟩=some (.int .i64 0):=by simp[Xg,G]
  have r3:c.cell? ⟨w.heap.size,3,none⟩=some (.int .i64 0):=by simp[Xg,G]
  have f4:∀i,c.frozen? ⟨w.heap.size,i,none⟩=false:=λi=>by simp[XM,G]
  have H2:=Aa (⟨n,G⟩:_/\_);clear n G hR
  go_wp2_with fail
  obtain⟨n,G⟩:=H2.out;obtain⟨g,y,h,D⟩:=N.out;obtain⟨W,hW,v1,v2,v3,v4,v5,v6⟩:=Ta G (.int .i64 0) (.int .i64 0) (.int .i64 0) (.int .i64 0);rw[hW];have an:b<w.heap.size:=h.lt;have q:=g.trans (n.mono g.size);exact XI (SZ rfl rfl rfl v1) rfl ⟨rfl,h.same ((v2 b (by omega)).trans (q.block b an)),⟨v4.trans q.os,v5.trans q.tape,v6.trans q.output,by rw[v3];exact q.size,λk hk hn=>(v2 k (by omega)).trans (q.block k hk)⟩⟩
end
section
variable {w w':Xh} {b:Nat} {p:PD} {s:MS}
theorem Tryz.infoInt:(Tryz.prog.info? 3).map (λi=>(i.zero,i.size,i.bytes))=some (some (.int .i64 0),1,8):=by kernel_rfl
theorem Tryz.infoEv:(Tryz.prog.info? 48).map (λi=>(i.zero,i.size,i.bytes))=some (some (.agg #[.int .i64 0,.int .i64 0,.int .i64 0,.int .i64 0]),4,32):=by kernel_rfl
def Ck (n:Int):Xk:=.int .i64 n
def DD (C:List (List Ad)) (s:MS) (i:Nat):List Int:=((List.range i).filter fun(t:Nat)=>decide (AV C s (t:Int)=0)).map fun(t:Nat)=>(t:Int)
def AP (C:List (List Ad)) (s:MS):List Int:=DD C s s.thr.length
theorem QH (C:List (List Ad)) (s:MS) (i:Nat):DD C s (i+1)=if AV C s (i:Int)=0 then DD C s i++[(i:Int)] else DD C s i:=by
 unfold DD;rw[List.range_succ,List.filter_append,XH]
 by_cases h:AV C s (i:Int)=0
 ·rw[if_pos h];simp[h]
 ·rw[if_neg h];simp[h]
theorem Je (C:List (List Ad)) (s:MS) (i:Nat):(DD C s i).length<=i:=by
 unfold DD;rw[List.length_map];exact Xu (List.length_filter_le _ _) (by rw[List.length_range];exact Xd _)
theorem NC {base:Nat} {v:Xk} {l:List Int} (h:w.ownsRow base 3 1 v l.length (l.map Ck)) (x:Int) (d:l.length<1048576) (b:base<=w.heap.size) :
 ∃g cap w',(Builtin.append_ #[32,32] 32 #[v,.slice (some ⟨w.heap.size,0,none⟩) 1 1]).run Tryz.prog (w.alloc (.cells #[.int .i64 x] 3)) = .ok (.slice (some ⟨g,0,none⟩) (l.length+1) cap) w'/\
  w'.ownsRow base 3 1 (.slice (some ⟨g,0,none⟩) (l.length+1) cap) (l++[x]).length ((l++[x]).map Ck)/\(∀B,B<=base->Xm B w w'):=by
 obtain⟨s,j,m,f,p⟩:=info_parts Tryz.infoInt;obtain⟨g,cap,w',q,i,c,n,o,z,rb,r⟩:=Ic h Tryz.underlying32 j m f p rfl (by omega) [.int .i64 x] rfl (by intro u a;simp at a;subst a;rfl) 32 d b;refine⟨g,cap,w',q,by rw[List.length_append,XH];exact i,λB y=>⟨c,n,o,by omega,λk t=>rb k (by omega) (λe=>?_)⟩⟩;have:=(h.lt k e).1
 omega
end
end Go.Proofs.YtdcacoifehkioaaGreatDoor
namespace Go.Proofs.YtdcacoifehkioaaGreatDoor
open Go.RowKit Go.Shelf Go.Proofs.Cod
def Is (w:Xh) (a:Option Addr) (l:List Int):Prop:=∀i,i<l.length->∃b off,a=some ⟨b,off,none⟩/\b<w.heap.size/\w.cell? ⟨b,off+i,none⟩=some (.int .i64 (l.getD i 0))
theorem Is.below {w w':Xh} {a:Option Addr} {l:List Int} (h:Is w a l) (c:Xm w.heap.size w w'):Is w' a l:=λi f=>by
 obtain⟨b,d,g,e,j⟩:=h i f
 exact⟨b,d,g,by have:=c.size;omega,(c.cell (p:=⟨b,d+i,none⟩) e).trans j⟩
def Eb (e:Ev):List Xk:=(Er e).toList
theorem NX (e:Ev):(Eb e).length=4:=rfl
section
variable {w w':Xh} {b B0 base:Nat}
end
end Go.Proofs.YtdcacoifehkioaaGreatDoor
