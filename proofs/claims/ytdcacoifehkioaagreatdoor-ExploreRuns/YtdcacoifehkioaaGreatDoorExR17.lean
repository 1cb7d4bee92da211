import Derived.Test.YtdcacoifehkioaaGreatDoorExR3
import Derived.Test.YtdcacoifehkioaaGreatDoorExR16
import Derived.BigQuiet
import Derived.Test.YtdcacoifehkioaaGreatDoorExR14
import Derived.Test.YtdcacoifehkioaaGreatDoorExR4
import Derived.Test.YtdcacoifehkioaaGreatDoorExR15
open Go renaming World->Xg,Calls->X3,wp_region_held_drew->XV,wpAnyH_done->YH,Value->Xj,heap_setCell_same->Xk,bodyPost_ret->XN
open Go.RowKit renaming Below->Xn,wrap64->Ya
open Nat renaming le_refl->Xf,le_trans->Xu,le_succ->adJ
open Go.Act renaming put->X7
open List renaming mem_cons->XL,not_mem_nil->Yd,map_append->XH
open Go.RowKit.Below renaming heap_setCell->Xl,refl->Xo
open Go.World renaming cell?->Xh,alloc_heap_new->Xi,frozen?->XE
set_option maxRecDepth 100000
set_option maxHeartbeats 1000000
set_option linter.unusedVariables false
set_option linter.unusedSimpArgs false
namespace Go.Proofs.YtdcacoifehkioaaGreatDoor
open Go.RowKit Go.Proofs.Cod
section
variable {w w':Xg} {b sb:Nat} {p:PD} {s:MS} {t:Nat} {x:Ac} {e:Ev}
structure EN (s:MS) (t:Nat) (x:Ac):Prop where
 t4:t<4
 tl:t<s.thr.length
 rl:(s.th t).regs.length=4
 rv:∀v,v∈(s.th t).regs->CZ v
 r:0<=x.r/\x.r<4
 a:En x.aR x.aN
 b:En x.bR x.bN
 x0:0<=x.x
theorem EN.va (h:EN s t x):CZ (Am (s.th t) x.aR x.aN):=by
 unfold Am
 split
 ·rename_i q;have:=h.a.2.2 q;have b:=h.a.1;exact h.rv _ (CF (by rw[h.rl];omega))
 ·exact⟨h.a.1,h.a.2.1⟩
theorem EN.vb (h:EN s t x):CZ (Am (s.th t) x.bR x.bN):=by
 unfold Am
 split
 ·rename_i q;have:=h.b.2.2 q;have a:=h.b.1;exact h.rv _ (CF (by rw[h.rl];omega))
 ·exact⟨h.b.1,h.b.2.1⟩
theorem Pt {a b:Int} (d:CZ a) (c:CZ b):a*b<2000000:=by
 have e:a*b<=999*b:=Int.mul_le_mul_of_nonneg_right (by have:=d.2;omega) c.1;have:=c.2
 omega
theorem abK (h:Ay w b sb p s t x e) (c:EN s t x) :
 X3 Tryz.prog 74 #[Ab sb] w λr w'=>r = .returned (.tuple #[])/\Ba w w' b sb p (s.Af t {s.th t with regs:=(s.th t).regs.set x.r.toNat (Am (s.th t) x.aR x.aN % 1000)}) t x e:=by
 obtain⟨-,-,m,n,-,-,-⟩:=h.ins;have V:=DN h c.t4 c.rl _ _ c.a;have A:∀w',Xn w.heap.size w w'->_:=λw' d=>KB (h.below d) c.t4 c.tl c.rl c.r (Am (s.th t) x.aR x.aN) (by have:=c.va.1;omega) (by have:=c.va.2;omega);replace A:=Aa A;obtain⟨v,f⟩:∃v,Am (s.th t) x.aR x.aN=v:=⟨_,rfl⟩;rw[f] at V A |-;clear h c f;unfold Ab at *
 go_enter Tryz.func74,Tryz.ntmps74
 go_wp2_with fail
 refine V.mono ?_;rintro o w1 ⟨rfl,d⟩;have i:=A.out w1 d;have l:=Aa d;clear A V d
 go_wp2_with fail
 refine i.mono ?_;rintro q u ⟨rfl,j⟩;have g:=Aa j;clear j i
 go_wp2_with fail
 go_end0
 exact⟨rfl,g.out.v,(Ae.CK l.out).trans g.out.k⟩
theorem abT (h:Ay w b sb p s t x e) (d:EN s t x) :
 X3 Tryz.prog 77 #[Ab sb] w λr w'=>r = .returned (.tuple #[])/\Ba w w' b sb p (s.Af t {s.th t with regs:=(s.th t).regs.set x.r.toNat ((Am (s.th t) x.aR x.aN+Am (s.th t) x.bR x.bN) % 1000)}) t x e:=by
 obtain⟨-,-,R,Y,Q,T,-⟩:=h.ins;have V:=Aa (λw' (y:Xn w.heap.size w w')=>DN (h.below y) d.t4 d.rl _ _ d.a);have G:=Aa (λw' (y:Xn w.heap.size w w')=>DN (h.below y) d.t4 d.rl _ _ d.b);have m:=d.va;have o:=d.vb;have H:=Aa h;have N:Xn w.heap.size w w.drew:=⟨rfl,rfl,rfl,Xf _,λ_ _=>rfl⟩;have A:=Aa (λw' (y:Xn w.heap.size w w')=>KB (h.below y) d.t4 d.tl d.rl d.r (Am (s.th t) x.aR x.aN+Am (s.th t) x.bR x.bN) (by have:=m.1;have:=o.1;have:=m.2;have:=o.2;omega) (by have:=m.2;have:=o.2;have:=m.1;have:=o.1;omega));obtain⟨v,z⟩:∃v,Am (s.th t) x.aR x.aN=v:=⟨_,rfl⟩;obtain⟨u,C⟩:∃u,Am (s.th t) x.bR x.bN=u:=⟨_,rfl⟩;rw[z] at m;rw[C] at o;simp only[z,C] at V G A |-;obtain⟨s',E⟩:∃s':MS,s.Af t {s.th t with regs:=(s.th t).regs.set x.r.toNat ((v+u) % 1000)}=s':=⟨_,rfl⟩;simp only[E] at A |-;clear E;obtain⟨P,X⟩:=m;obtain⟨U,W⟩:=o;have I:Ya (v+u)=v+u:=by unfold Ya;omega
 have Z:IntKind.i64.wrap (v+u)=v+u:=(IntWalk.i64_left _).trans I;clear I;clear h d z C P X U W;unfold Ab at *
 go_enter Tryz.func77,Tryz.ntmps77
 go_wp2_with fail
 refine XV (S:=(λw'=>w'.cell? ⟨sb,4,none⟩=some (.bool x.aR)/\w'.cell? ⟨sb,5,none⟩=some (.int .i64 x.aN)/\w'.cell? ⟨sb,6,none⟩=some (.bool x.bR)/\w'.cell? ⟨sb,7,none⟩=some (.int .i64 x.bN))) (by kernel_rfl) ⟨R,Y,Q,T⟩ (λc=>?_);refine tk 0 c ?_;refine tk 1 c ?_;refine tk 2 c ?_;refine tk 3 c ?_;refine tk 4 c ?_;refine tk 5 c ?_;refine tk 6 c ?_;refine tk 8 c ?_;refine tk 9 c ?_;refine tk 10 c ?_;refine tk 11 c ?_;refine tk 12 c ?_;refine tk 13 c ?_;refine rd 7 (λK f=>?_)
 go_simp
 go_at_call 76
 refine(V.out _ N).mono ?_;rintro e1 w1 ⟨rfl,n⟩;replace n:Xn w.heap.size w w1:=N.trans n;obtain⟨-,-,j,g,i,l,-⟩:=(H.out.below n).ins;have O:=G.out w1 n;have D:=Aa n;clear n
 go_wp2_with fail
 refine f.out _ _ ⟨j,g,i,l⟩ (λc=>?_);clear f K j g i l
 try simp only[X7,sq]
 refine rd 14 (λK f=>?_)
 go_simp
 go_at_call 76
 refine O.mono ?_;rintro e2 F ⟨rfl,q⟩;replace q:Xn w.heap.size w F:=D.out.trans (q.mono D.out.size);obtain⟨-,-,j,g,i,l,-⟩:=(H.out.below q).ins;have J:=Aa q;clear q O D
 go_wp2_with fail
 refine f.out _ _ ⟨j,g,i,l⟩ (λc=>?_);clear f K
 try simp only[X7,sq]
 refine rd 15 (λK f=>?_)
 go_simp
 refine f.out _ _ ⟨j,g,i,l⟩ (λc=>?_);clear f K j g i l
 try simp only[X7,sq]
 refine rd 16 (λK f=>?_)
 go_simp
 go_at_call 75
 try rw[Z]
 refine(A.out F J.out).mono ?_;rintro e3 w3 ⟨rfl,B⟩;obtain⟨-,-,j,g,i,l,-⟩:=B.v.ins;have M:=Aa B;clear B A
 go_wp2_with fail
 refine f.out _ _ ⟨j,g,i,l⟩ (λc=>?_);clear f K j g i l
 try simp only[X7,sq]
 refine YH (by kernel_rfl) ?_ _
 go_wp2_with fail
 go_end0
 exact⟨rfl,M.out.v,(Ae.CK J.out).trans M.out.k⟩
theorem abI (h:Ay w b sb p s t x e) (d:EN s t x) :
 X3 Tryz.prog 78 #[Ab sb] w λr w'=>r = .returned (.tuple #[])/\Ba w w' b sb p (s.Af t {s.th t with regs:=(s.th t).regs.set x.r.toNat ((Am (s.th t) x.aR x.aN - Am (s.th t) x.bR x.bN) % 1000)}) t x e:=by
 obtain⟨-,-,R,Y,Q,T,-⟩:=h.ins;have V:=Aa (λw' (y:Xn w.heap.size w w')=>DN (h.below y) d.t4 d.rl _ _ d.a);have G:=Aa (λw' (y:Xn w.heap.size w w')=>DN (h.below y) d.t4 d.rl _ _ d.b);have m:=d.va;have o:=d.vb;have H:=Aa h;have N:Xn w.heap.size w w.drew:=⟨rfl,rfl,rfl,Xf _,λ_ _=>rfl⟩;have A:=Aa (λw' (y:Xn w.heap.size w w')=>KB (h.below y) d.t4 d.tl d.rl d.r (Am (s.th t) x.aR x.aN - Am (s.th t) x.bR x.bN) (by have:=m.1;have:=o.1;have:=m.2;have:=o.2;omega) (by have:=m.2;have:=o.2;have:=m.1;have:=o.1;omega));obtain⟨v,z⟩:∃v,Am (s.th t) x.aR x.aN=v:=⟨_,rfl⟩;obtain⟨u,C⟩:∃u,Am (s.th t) x.bR x.bN=u:=⟨_,rfl⟩;rw[z] at m;rw[C] at o;simp only[z,C] at V G A |-;obtain⟨s',E⟩:∃s':MS,s.Af t {s.th t with regs:=(s.th t).regs.set x.r.toNat ((v - u) % 1000)}=s':=⟨_,rfl⟩;simp only[E] at A |-;clear E;obtain⟨P,X⟩:=m;obtain⟨U,W⟩:=o;have I:Ya (v - u)=v - u:=by unfold Ya;omega
 have Z:IntKind.i64.wrap (v - u)=v - u:=(IntWalk.i64_left _).trans I;clear I;clear h d z C P X U W;unfold Ab at *
 go_enter Tryz.func78,Tryz.ntmps78
 go_wp2_with fail
 refine XV (S:=(λw'=>w'.cell? ⟨sb,4,none⟩=some (.bool x.aR)/\w'.cell? ⟨sb,5,none⟩=some (.int .i64 x.aN)/\w'.cell? ⟨sb,6,none⟩=some (.bool x.bR)/\w'.cell? ⟨sb,7,none⟩=some (.int .i64 x.bN))) (by kernel_rfl) ⟨R,Y,Q,T⟩ (λc=>?_);refine tk 0 c ?_;refine tk 1 c ?_;refine tk 2 c ?_;refine tk 3 c ?_;refine tk 4 c ?_;refine tk 5 c ?_;refine tk 6 c ?_;refine tk 8 c ?_;refine tk 9 c ?_;refine tk 10 c ?_;refine tk 11 c ?_;refine tk 12 c ?_;refine tk 13 c ?_;refine rd 7 (λK f=>?_)
 go_simp
 go_at_call 76
 refine(V.out _ N).mono ?_;rintro e1 w1 ⟨rfl,n⟩;replace n:Xn w.heap.size w w1:=N.trans n;obtain⟨-,-,j,g,i,l,-⟩:=(H.out.below n).ins;have O:=G.out w1 n;have D:=Aa n;clear n
 go_wp2_with fail
 refine f.out _ _ ⟨j,g,i,l⟩ (λc=>?_);clear f K j g i l
 try simp only[X7,sq]
 refine rd 14 (λK f=>?_)
 go_simp
 go_at_call 76
 refine O.mono ?_;rintro e2 F ⟨rfl,q⟩;replace q:Xn w.heap.size w F:=D.out.trans (q.mono D.out.size);obtain⟨-,-,j,g,i,l,-⟩:=(H.out.below q).ins;have J:=Aa q;clear q O D
 go_wp2_with fail
 refine f.out _ _ ⟨j,g,i,l⟩ (λc=>?_);clear f K
 try simp only[X7,sq]
 refine rd 15 (λK f=>?_)
 go_simp
 refine f.out _ _ ⟨j,g,i,l⟩ (λc=>?_);clear f K j g i l
 try simp only[X7,sq]
 refine rd 16 (λK f=>?_)
 go_simp
 go_at_call 75
 try rw[Z]
 refine(A.out F J.out).mono ?_;rintro e3 w3 ⟨rfl,B⟩;obtain⟨-,-,j,g,i,l,-⟩:=B.v.ins;have M:=Aa B;clear B A
 go_wp2_with fail
 refine f.out _ _ ⟨j,g,i,l⟩ (λc=>?_);clear f K j g i l
 try simp only[X7,sq]
 refine YH (by kernel_rfl) ?_ _
 go_wp2_with fail
 go_end0
 exact⟨rfl,M.out.v,(Ae.CK J.out).trans M.out.k⟩
theorem abM (h:Ay w b sb p s t x e) (d:EN s t x) :
 X3 Tryz.prog 79 #[Ab sb] w λr w'=>r = .returned (.tuple #[])/\Ba w w' b sb p (s.Af t {s.th t with regs:=(s.th t).regs.set x.r.toNat ((Am (s.th t) x.aR x.aN*Am (s.th t) x.bR x.bN) % 1000)}) t x e:=by
 obtain⟨-,-,W,Y,U,X,-⟩:=h.ins;have V:=Aa (λw' (o:Xn w.heap.size w w')=>DN (h.below o) d.t4 d.rl _ _ d.a);have J:=Aa (λw' (o:Xn w.heap.size w w')=>DN (h.below o) d.t4 d.rl _ _ d.b);have q:=d.va;have y:=d.vb;have H:=Aa h;have Q:Xn w.heap.size w w.drew:=⟨rfl,rfl,rfl,Xf _,λ_ _=>rfl⟩;have A:=Aa (λw' (o:Xn w.heap.size w w')=>KB (h.below o) d.t4 d.tl d.rl d.r (Am (s.th t) x.aR x.aN*Am (s.th t) x.bR x.bN) (by have:=Int.mul_nonneg q.1 y.1;omega) (Pt q y));obtain⟨v,B⟩:∃v,Am (s.th t) x.aR x.aN=v:=⟨_,rfl⟩;obtain⟨u,D⟩:∃u,Am (s.th t) x.bR x.bN=u:=⟨_,rfl⟩;rw[B] at q;rw[D] at y;simp only[B,D] at V J A |-;obtain⟨s',G⟩:∃s':MS,s.Af t {s.th t with regs:=(s.th t).regs.set x.r.toNat ((v*u) % 1000)}=s':=⟨_,rfl⟩;simp only[G] at A |-;clear G;obtain⟨z,T⟩:=q;obtain⟨E,M⟩:=y;have N:Ya (v*u)=v*u:=by have:=Int.mul_nonneg z E;have:=Pt (a:=v) (b:=u) ⟨z,T⟩ ⟨E,M⟩;unfold Ya;omega
 have Z:IntKind.i64.wrap (v*u)=v*u:=(IntWalk.i64_left _).trans N;clear N;clear h d B D z T E M;unfold Ab at *
 go_enter Tryz.func79,Tryz.ntmps79
 go_wp2_with fail
 refine XV (S:=(λw'=>w'.cell? ⟨sb,4,none⟩=some (.bool x.aR)/\w'.cell? ⟨sb,5,none⟩=some (.int .i64 x.aN)/\w'.cell? ⟨sb,6,none⟩=some (.bool x.bR)/\w'.cell? ⟨sb,7,none⟩=some (.int .i64 x.bN))) (by kernel_rfl) ⟨W,Y,U,X⟩ (λc=>?_);refine tk 0 c ?_;refine tk 1 c ?_;refine tk 2 c ?_;refine tk 3 c ?_;refine tk 4 c ?_;refine tk 5 c ?_;refine tk 6 c ?_;refine tk 8 c ?_;refine tk 9 c ?_;refine tk 10 c ?_;refine tk 11 c ?_;refine tk 12 c ?_;refine tk 13 c ?_;refine rd 7 (λK f=>?_)
 go_simp
 go_at_call 76
 refine(V.out _ Q).mono ?_;rintro e1 w1 ⟨rfl,m⟩;replace m:Xn w.heap.size w w1:=Q.trans m;obtain⟨-,-,j,g,i,l,-⟩:=(H.out.below m).ins;have R:=J.out w1 m;have F:=Aa m;clear m
 go_wp2_with fail
 refine f.out _ _ ⟨j,g,i,l⟩ (λc=>?_);clear f K j g i l
 try simp only[X7,sq]
 refine rd 14 (λK f=>?_)
 go_simp
 go_at_call 76
 refine R.mono ?_;rintro e2 I ⟨rfl,n⟩;replace n:Xn w.heap.size w I:=F.out.trans (n.mono F.out.size);obtain⟨-,-,j,g,i,l,-⟩:=(H.out.below n).ins;have O:=Aa n;clear n R F
 go_wp2_with fail
 refine f.out _ _ ⟨j,g,i,l⟩ (λc=>?_);clear f K
 try simp only[X7,sq]
 refine rd 15 (λK f=>?_)
 go_simp
 refine f.out _ _ ⟨j,g,i,l⟩ (λc=>?_);clear f K j g i l
 try simp only[X7,sq]
 refine rd 16 (λK f=>?_)
 go_simp
 go_at_call 75
 try rw[Z]
 refine(A.out I O.out).mono ?_;rintro e3 w3 ⟨rfl,C⟩;obtain⟨-,-,j,g,i,l,-⟩:=C.v.ins;have P:=Aa C;clear C A
 go_wp2_with fail
 refine f.out _ _ ⟨j,g,i,l⟩ (λc=>?_);clear f K j g i l
 try simp only[X7,sq]
 refine YH (by kernel_rfl) ?_ _
 go_wp2_with fail
 go_end0
 exact⟨rfl,P.out.v,(Ae.CK O.out).trans P.out.k⟩
theorem abR (h:Ay w b sb p s t x e) (d:EN s t x) :
 X3 Tryz.prog 93 #[Ab sb] w λr w'=>r = .returned (.tuple #[])/\Ba w w' b sb p (if (Am (s.th t) x.aR x.aN == Am (s.th t) x.bR x.bN)=true then s.Af t {s.th t with pc:=x.x.toNat} else s) t x e:=by
 obtain⟨-,-,R,Z,Q,T,-⟩:=h.ins;have V:=Aa (λw' (q:Xn w.heap.size w w')=>DN (h.below q) d.t4 d.rl _ _ d.a);have F:=Aa (λw' (q:Xn w.heap.size w w')=>DN (h.below q) d.t4 d.rl _ _ d.b);have I:=d.va;have O:=d.vb;have H:=Aa h;have M:Xn w.heap.size w w.drew:=⟨rfl,rfl,rfl,Xf _,λ_ _=>rfl⟩;have A:=Aa (λw' (q:Xn w.heap.size w w')=>Mi (h.below q) d.t4 d.tl d.x0 (Am (s.th t) x.aR x.aN == Am (s.th t) x.bR x.bN));obtain⟨v,y⟩:∃v,Am (s.th t) x.aR x.aN=v:=⟨_,rfl⟩;obtain⟨u,B⟩:∃u,Am (s.th t) x.bR x.bN=u:=⟨_,rfl⟩;rw[y] at I;rw[B] at O;simp only[y,B] at V F A |-;obtain⟨g,X⟩:∃g:Bool,(v == u)=g:=⟨_,rfl⟩;simp only[X] at A |-;obtain⟨s',D⟩:∃s':MS,(if g=true then s.Af t {s.th t with pc:=x.x.toNat} else s)=s':=⟨_,rfl⟩;simp only[D] at A |-;clear D;obtain⟨P,Y⟩:=I;obtain⟨U,W⟩:=O;clear h d y B P Y U W;unfold Ab at *
 go_enter Tryz.func93,Tryz.ntmps93
 go_wp2_with fail
 refine XV (S:=(λw'=>w'.cell? ⟨sb,4,none⟩=some (.bool x.aR)/\w'.cell? ⟨sb,5,none⟩=some (.int .i64 x.aN)/\w'.cell? ⟨sb,6,none⟩=some (.bool x.bR)/\w'.cell? ⟨sb,7,none⟩=some (.int .i64 x.bN))) (by kernel_rfl) ⟨R,Z,Q,T⟩ (λc=>?_);refine tk 0 c ?_;refine tk 1 c ?_;refine tk 2 c ?_;refine tk 3 c ?_;refine tk 4 c ?_;refine tk 5 c ?_;refine tk 6 c ?_;refine tk 8 c ?_;refine tk 9 c ?_;refine tk 10 c ?_;refine tk 11 c ?_;refine tk 12 c ?_;refine tk 13 c ?_;refine rd 7 (λK j=>?_)
 go_simp
 go_at_call 76
 refine(V.out _ M).mono ?_;rintro e1 w1 ⟨rfl,n⟩;replace n:Xn w.heap.size w w1:=M.trans n;obtain⟨-,-,l,f,i,m,-⟩:=(H.out.below n).ins;have N:=F.out w1 n;have C:=Aa n;clear n
 go_wp2_with fail
 refine j.out _ _ ⟨l,f,i,m⟩ (λc=>?_);clear j K l f i m
 try simp only[X7,sq]
 refine rd 14 (λK j=>?_)
 go_simp
 go_at_call 76
 refine N.mono ?_;rintro e2 E ⟨rfl,o⟩;replace o:Xn w.heap.size w E:=C.out.trans (o.mono C.out.size);obtain⟨-,-,l,f,i,m,-⟩:=(H.out.below o).ins;have G:=Aa o;clear o N C
 go_wp2_with fail
 refine j.out _ _ ⟨l,f,i,m⟩ (λc=>?_);clear j K l f i m
 try simp only[X7,sq]
 refine tk 15 c ?_;refine rd 16 (λK j=>?_)
 go_simp
 go_at_call 92
 refine(A.out E G.out).mono ?_;rintro e3 w3 ⟨rfl,z⟩;obtain⟨-,-,l,f,i,m,-⟩:=z.v.ins;have J:=Aa z;clear z A
 go_wp2_with fail
 refine j.out _ _ ⟨l,f,i,m⟩ (λc=>?_);clear j K l f i m
 try simp only[X7,sq]
 refine YH (by kernel_rfl) ?_ _
 go_wp2_with fail
 go_end0
 exact⟨rfl,J.out.v,(Ae.CK G.out).trans J.out.k⟩
theorem abQ (h:Ay w b sb p s t x e) (d:EN s t x) :
 X3 Tryz.prog 94 #[Ab sb] w λr w'=>r = .returned (.tuple #[])/\Ba w w' b sb p (if (decide (Am (s.th t) x.aR x.aN<Am (s.th t) x.bR x.bN))=true then s.Af t {s.th t with pc:=x.x.toNat} else s) t x e:=by
 obtain⟨-,-,R,Z,Q,T,-⟩:=h.ins;have V:=Aa (λw' (q:Xn w.heap.size w w')=>DN (h.below q) d.t4 d.rl _ _ d.a);have F:=Aa (λw' (q:Xn w.heap.size w w')=>DN (h.below q) d.t4 d.rl _ _ d.b);have I:=d.va;have O:=d.vb;have H:=Aa h;have M:Xn w.heap.size w w.drew:=⟨rfl,rfl,rfl,Xf _,λ_ _=>rfl⟩;have A:=Aa (λw' (q:Xn w.heap.size w w')=>Mi (h.below q) d.t4 d.tl d.x0 (decide (Am (s.th t) x.aR x.aN<Am (s.th t) x.bR x.bN)));obtain⟨v,y⟩:∃v,Am (s.th t) x.aR x.aN=v:=⟨_,rfl⟩;obtain⟨u,B⟩:∃u,Am (s.th t) x.bR x.bN=u:=⟨_,rfl⟩;rw[y] at I;rw[B] at O;simp only[y,B] at V F A |-;obtain⟨g,X⟩:∃g:Bool,decide (v<u)=g:=⟨_,rfl⟩;simp only[X] at A |-;obtain⟨s',D⟩:∃s':MS,(if g=true then s.Af t {s.th t with pc:=x.x.toNat} else s)=s':=⟨_,rfl⟩;simp only[D] at A |-;clear D;obtain⟨P,Y⟩:=I;obtain⟨U,W⟩:=O;clear h d y B P Y U W;unfold Ab at *
 go_enter Tryz.func94,Tryz.ntmps94
 go_wp2_with fail
 refine XV (S:=(λw'=>w'.cell? ⟨sb,4,none⟩=some (.bool x.aR)/\w'.cell? ⟨sb,5,none⟩=some (.int .i64 x.aN)/\w'.cell? ⟨sb,6,none⟩=some (.bool x.bR)/\w'.cell? ⟨sb,7,none⟩=some (.int .i64 x.bN))) (by kernel_rfl) ⟨R,Z,Q,T⟩ (λc=>?_);refine tk 0 c ?_;refine tk 1 c ?_;refine tk 2 c ?_;refine tk 3 c ?_;refine tk 4 c ?_;refine tk 5 c ?_;refine tk 6 c ?_;refine tk 8 c ?_;refine tk 9 c ?_;refine tk 10 c ?_;refine tk 11 c ?_;refine tk 12 c ?_;refine tk 13 c ?_;refine rd 7 (λK j=>?_)
 go_simp
 go_at_call 76
 refine(V.out _ M).mono ?_;rintro e1 w1 ⟨rfl,n⟩;replace n:Xn w.heap.size w w1:=M.trans n;obtain⟨-,-,l,f,i,m,-⟩:=(H.out.below n).ins;have N:=F.out w1 n;have C:=Aa n;clear n
 go_wp2_with fail
 refine j.out _ _ ⟨l,f,i,m⟩ (λc=>?_);clear j K l f i m
 try simp only[X7,sq]
 refine rd 14 (λK j=>?_)
 go_simp
 go_at_call 76
 refine N.mono ?_;rintro e2 E ⟨rfl,o⟩;replace o:Xn w.heap.size w E:=C.out.trans (o.mono C.out.size);obtain⟨-,-,l,f,i,m,-⟩:=(H.out.below o).ins;have G:=Aa o;clear o N C
 go_wp2_with fail
 refine j.out _ _ ⟨l,f,i,m⟩ (λc=>?_);clear j K l f i m
 try simp only[X7,sq]
 refine tk 15 c ?_;refine rd 16 (λK j=>?_)
 go_simp
 go_at_call 92
 refine(A.out E G.out).mono ?_;rintro e3 w3 ⟨rfl,z⟩;obtain⟨-,-,l,f,i,m,-⟩:=z.v.ins;have J:=Aa z;clear z A
 go_wp2_with fail
 refine j.out _ _ ⟨l,f,i,m⟩ (λc=>?_);clear j K l f i m
 try simp only[X7,sq]
 refine YH (by kernel_rfl) ?_ _
 go_wp2_with fail
 go_end0
 exact⟨rfl,J.out.v,(Ae.CK G.out).trans J.out.k⟩
theorem ab5 (h:Ay w b sb p s t x e) (f:EN s t x) :
 X3 Tryz.prog 95 #[Ab sb] w λr w'=>r = .returned (.tuple #[])/\(if Am (s.th t) x.aR x.aN≠Am (s.th t) x.bR x.bN then Ba w w' b sb p (s.Af t {s.th t with ph:=3}) t x {e with k:=9} else Ba w w' b sb p s t x e):=by
 obtain⟨-,-,O,Z,N,Q,-⟩:=h.ins;have V:=Aa (λw' (B:Xn w.heap.size w w')=>DN (h.below B) f.t4 f.rl _ _ f.a);have J:=Aa (λw' (B:Xn w.heap.size w w')=>DN (h.below B) f.t4 f.rl _ _ f.b);have U:=f.va;have Y:=f.vb;have H:=Aa h;have I:Xn w.heap.size w w.drew:=⟨rfl,rfl,rfl,Xf _,λ_ _=>rfl⟩;have A:=Aa (λw' (B:Xn w.heap.size w w')=>QZ (h.below B) f.t4 f.tl);obtain⟨v,D⟩:∃v,Am (s.th t) x.aR x.aN=v:=⟨_,rfl⟩;obtain⟨u,G⟩:∃u,Am (s.th t) x.bR x.bN=u:=⟨_,rfl⟩;rw[D] at U;rw[G] at Y;simp only[D,G] at V J |-;obtain⟨M,X⟩:=U;obtain⟨R,T⟩:=Y
 by_cases q:v=u
 ·have y:(v≠u)=False:=by simp[q]
  simp only[y,if_false];have aa:(v != u)=false:=by simp[q]
  clear y q;clear h f D G M X R T;unfold Ab at *
  go_enter Tryz.func95,Tryz.ntmps95
  go_wp2_with fail
  refine XV (S:=(λw'=>w'.cell? ⟨sb,4,none⟩=some (.bool x.aR)/\w'.cell? ⟨sb,5,none⟩=some (.int .i64 x.aN)/\w'.cell? ⟨sb,6,none⟩=some (.bool x.bR)/\w'.cell? ⟨sb,7,none⟩=some (.int .i64 x.bN))) (by kernel_rfl) ⟨O,Z,N,Q⟩ (λc=>?_);refine tk 0 c ?_;refine tk 1 c ?_;refine tk 2 c ?_;refine tk 3 c ?_;refine tk 4 c ?_;refine tk 5 c ?_;refine tk 7 c ?_;refine tk 8 c ?_;refine tk 9 c ?_;refine tk 10 c ?_;refine tk 11 c ?_;refine tk 12 c ?_;refine rd 6 (λK l=>?_)
  go_simp
  go_at_call 76
  refine(V.out _ I).mono ?_;rintro e1 w1 ⟨rfl,d⟩;replace d:Xn w.heap.size w w1:=I.trans d;obtain⟨-,-,m,i,j,n,-⟩:=(H.out.below d).ins;have C:=J.out w1 d;have o:=Aa d;clear d
  go_wp2_with fail
  refine l.out _ _ ⟨m,i,j,n⟩ (λc=>?_);clear l K m i j n
  try simp only[X7,sq]
  refine rd 13 (λK l=>?_)
  go_simp
  go_at_call 76
  refine C.mono ?_;rintro e2 E ⟨rfl,g⟩;replace g:Xn w.heap.size w E:=o.out.trans (g.mono o.out.size);obtain⟨-,-,m,i,j,n,-⟩:=(H.out.below g).ins;have z:=Aa g;clear g C o
  go_wp2_with fail
  refine l.out _ _ ⟨m,i,j,n⟩ (λc=>?_);clear l K m i j n
  try simp only[X7,sq]
  refine tk 14 c ?_;refine YH (by kernel_rfl) ?_ _;clear c
  go_wp2_with fail
  go_end0
  exact⟨rfl,H.out.below z.out,Ae.CK z.out⟩
 ·have y:(v≠u)=True:=by simp[q]
  simp only[y,if_true];have aa:(v != u)=true:=by simp[q]
  clear y q;clear h f D G M X R T;unfold Ab at *
  go_enter Tryz.func95,Tryz.ntmps95
  go_wp2_with fail
  refine XV (S:=(λw'=>w'.cell? ⟨sb,4,none⟩=some (.bool x.aR)/\w'.cell? ⟨sb,5,none⟩=some (.int .i64 x.aN)/\w'.cell? ⟨sb,6,none⟩=some (.bool x.bR)/\w'.cell? ⟨sb,7,none⟩=some (.int .i64 x.bN))) (by kernel_rfl) ⟨O,Z,N,Q⟩ (λc=>?_);refine tk 0 c ?_;refine tk 1 c ?_;refine tk 2 c ?_;refine tk 3 c ?_;refine tk 4 c ?_;refine tk 5 c ?_;refine tk 7 c ?_;refine tk 8 c ?_;refine tk 9 c ?_;refine tk 10 c ?_;refine tk 11 c ?_;refine tk 12 c ?_;refine rd 6 (λK l=>?_)
  go_simp
  go_at_call 76
  refine(V.out _ I).mono ?_;rintro e1 w1 ⟨rfl,d⟩;replace d:Xn w.heap.size w w1:=I.trans d;obtain⟨-,-,m,i,j,n,-⟩:=(H.out.below d).ins;have C:=J.out w1 d;have o:=Aa d;clear d
  go_wp2_with fail
  refine l.out _ _ ⟨m,i,j,n⟩ (λc=>?_);clear l K m i j n
  try simp only[X7,sq]
  refine rd 13 (λK l=>?_)
  go_simp
  go_at_call 76
  refine C.mono ?_;rintro e2 E ⟨rfl,g⟩;replace g:Xn w.heap.size w E:=o.out.trans (g.mono o.out.size);obtain⟨-,-,m,i,j,n,-⟩:=(H.out.below g).ins;have z:=Aa g;clear g C o
  go_wp2_with fail
  refine l.out _ _ ⟨m,i,j,n⟩ (λc=>?_);clear l K m i j n
  try simp only[X7,sq]
  refine tk 14 c ?_;refine YH (by kernel_rfl) ?_ _;clear c;have F:=A.out E z.out;clear A
  go_wp2_with fail
  refine F.mono ?_;rintro e3 w3 ⟨rfl,P⟩;have W:=Aa P;clear P F
  go_wp2_with fail
  go_end0
  exact⟨rfl,W.out.v,(Ae.CK z.out).trans W.out.k⟩
end
section
variable {w w':Xg} {b sb:Nat} {p:PD} {s:MS} {t:Nat} {x:Ac} {e:Ev}
theorem abN (h:Ay w b sb p s t x e) (m:t<4) (l:t<s.thr.length) (i:(s.th t).regs.length=4) (g:0<=x.r/\x.r<4) (j:0<=x.x/\x.x<4) :
 X3 Tryz.prog 80 #[Ab sb] w λr w'=>r = .returned (.tuple #[])/\Ba w w' b sb p (s.Af t {s.th t with regs:=(s.th t).regs.set x.r.toNat (s.vars.getD x.x.toNat 0)}) t x {e with k:=1,o:=x.x,v:=s.vars.getD x.x.toNat 0}:=by
 obtain⟨q,-⟩:=h.Ed;have A:X3 Tryz.prog 81 #[Ab sb,.int .i64 1,.pointer (some ⟨b,0,none⟩)] w λr w'=>r = .returned (.tuple #[])/\Ba w w' b sb p (s.Af t {s.th t with regs:=(s.th t).regs.set x.r.toNat (s.vars.getD x.x.toNat 0)}) t x {e with k:=1,o:=x.x,v:=s.vars.getD x.x.toNat 0}:=QX h m l i g j 1 (o:=0) (.inl rfl);obtain⟨s',a⟩:∃s':MS,(s.Af t {s.th t with regs:=(s.th t).regs.set x.r.toNat (s.vars.getD x.x.toNat 0)})=s':=⟨_,rfl⟩;obtain⟨d,f⟩:∃d:Ev,({e with k:=1,o:=x.x,v:=s.vars.getD x.x.toNat 0}:Ev)=d:=⟨_,rfl⟩;simp only[a,f] at A |-;clear h a f;unfold Ab at *
 go_enter Tryz.func80,Tryz.ntmps80
 go_wp2_with fail
 refine A.mono ?_;rintro u w1 ⟨rfl,c⟩;have n:=Aa c;clear A c
 go_wp2_with fail
 go_end0
 exact⟨rfl,n.out⟩
theorem abJ (h:Ay w b sb p s t x e) (l:t<4) (i:(s.th t).regs.length=4) (g:En x.aR x.aN) (j:0<=x.x/\x.x<4) (n:x.x.toNat<s.vars.length) :
 X3 Tryz.prog 82 #[Ab sb] w λr w'=>r = .returned (.tuple #[])/\Ba w w' b sb p {s with vars:=s.vars.set x.x.toNat (Am (s.th t) x.aR x.aN)} t x {e with k:=2,o:=x.x,v:=Am (s.th t) x.aR x.aN}:=by
 obtain⟨q,-⟩:=h.Ed;have A:X3 Tryz.prog 83 #[Ab sb,.int .i64 2,.pointer (some ⟨b,0,none⟩)] w λr w'=>r = .returned (.tuple #[])/\Ba w w' b sb p {s with vars:=s.vars.set x.x.toNat (Am (s.th t) x.aR x.aN)} t x {e with k:=2,o:=x.x,v:=Am (s.th t) x.aR x.aN}:=Ql h l i g j 2 (o:=0) (.inl rfl) n;obtain⟨s',c⟩:∃s':MS,{s with vars:=s.vars.set x.x.toNat (Am (s.th t) x.aR x.aN)}=s':=⟨_,rfl⟩;obtain⟨f,a⟩:∃f:Ev,({e with k:=2,o:=x.x,v:=Am (s.th t) x.aR x.aN}:Ev)=f:=⟨_,rfl⟩;simp only[c,a] at A |-;clear h c a;unfold Ab at *
 go_enter Tryz.func82,Tryz.ntmps82
 go_wp2_with fail
 refine A.mono ?_;rintro u w1 ⟨rfl,d⟩;have m:=Aa d;clear A d
 go_wp2_with fail
 go_end0
 exact⟨rfl,m.out⟩
theorem abS (h:Ay w b sb p s t x e) (m:t<4) (l:t<s.thr.length) (i:(s.th t).regs.length=4) (g:0<=x.r/\x.r<4) (j:0<=x.x/\x.x<4) :
 X3 Tryz.prog 84 #[Ab sb] w λr w'=>r = .returned (.tuple #[])/\Ba w w' b sb p (s.Af t {s.th t with regs:=(s.th t).regs.set x.r.toNat (s.flags.getD x.x.toNat 0)}) t x {e with k:=3,o:=x.x,v:=s.flags.getD x.x.toNat 0}:=by
 obtain⟨q,-⟩:=h.Ed;have A:X3 Tryz.prog 81 #[Ab sb,.int .i64 3,.pointer (some ⟨b,9,none⟩)] w λr w'=>r = .returned (.tuple #[])/\Ba w w' b sb p (s.Af t {s.th t with regs:=(s.th t).regs.set x.r.toNat (s.flags.getD x.x.toNat 0)}) t x {e with k:=3,o:=x.x,v:=s.flags.getD x.x.toNat 0}:=QX h m l i g j 3 (o:=9) (.inr rfl);obtain⟨s',a⟩:∃s':MS,(s.Af t {s.th t with regs:=(s.th t).regs.set x.r.toNat (s.flags.getD x.x.toNat 0)})=s':=⟨_,rfl⟩;obtain⟨d,f⟩:∃d:Ev,({e with k:=3,o:=x.x,v:=s.flags.getD x.x.toNat 0}:Ev)=d:=⟨_,rfl⟩;simp only[a,f] at A |-;clear h a f;unfold Ab at *
 go_enter Tryz.func84,Tryz.ntmps84
 go_wp2_with fail
 refine A.mono ?_;rintro u w1 ⟨rfl,c⟩;have n:=Aa c;clear A c
 go_wp2_with fail
 go_end0
 exact⟨rfl,n.out⟩
theorem abL (h:Ay w b sb p s t x e) (l:t<4) (i:(s.th t).regs.length=4) (g:En x.aR x.aN) (j:0<=x.x/\x.x<4) (n:x.x.toNat<s.flags.length) :
 X3 Tryz.prog 85 #[Ab sb] w λr w'=>r = .returned (.tuple #[])/\Ba w w' b sb p {s with flags:=s.flags.set x.x.toNat (Am (s.th t) x.aR x.aN)} t x {e with k:=4,o:=x.x,v:=Am (s.th t) x.aR x.aN}:=by
 obtain⟨q,-⟩:=h.Ed;have A:X3 Tryz.prog 83 #[Ab sb,.int .i64 4,.pointer (some ⟨b,9,none⟩)] w λr w'=>r = .returned (.tuple #[])/\Ba w w' b sb p {s with flags:=s.flags.set x.x.toNat (Am (s.th t) x.aR x.aN)} t x {e with k:=4,o:=x.x,v:=Am (s.th t) x.aR x.aN}:=Ql h l i g j 4 (o:=9) (.inr rfl) n;obtain⟨s',c⟩:∃s':MS,{s with flags:=s.flags.set x.x.toNat (Am (s.th t) x.aR x.aN)}=s':=⟨_,rfl⟩;obtain⟨f,a⟩:∃f:Ev,({e with k:=4,o:=x.x,v:=Am (s.th t) x.aR x.aN}:Ev)=f:=⟨_,rfl⟩;simp only[c,a] at A |-;clear h c a;unfold Ab at *
 go_enter Tryz.func85,Tryz.ntmps85
 go_wp2_with fail
 refine A.mono ?_;rintro u w1 ⟨rfl,d⟩;have m:=Aa d;clear A d
 go_wp2_with fail
 go_end0
 exact⟨rfl,m.out⟩
theorem abP (h:Ay w b sb p s t x e) :
 X3 Tryz.prog 89 #[Ab sb] w λr w'=>r = .returned (.tuple #[])/\Ba w w' b sb p s t x {e with k:=8,o:=x.x}:=by
 have A:=Ig h 8;clear h;unfold Ab at *
 go_enter Tryz.func89,Tryz.ntmps89
 go_wp2_with fail
 refine A.mono ?_;rintro d w1 ⟨rfl,a⟩;have c:=Aa a;clear A a
 go_wp2_with fail
 go_end0
 exact⟨rfl,c.out⟩
theorem abO (h:Ay w b sb p s t x e) (f:t<4) (d:t<s.thr.length) (c:0<=x.x) :
 X3 Tryz.prog 91 #[Ab sb] w λr w'=>r = .returned (.tuple #[])/\Ba w w' b sb p (s.Af t {s.th t with pc:=x.x.toNat}) t x e:=by
 have A:=Mi h f d c true;clear h;unfold Ab at *
 go_enter Tryz.func91,Tryz.ntmps91
 go_wp2_with fail
 refine A.mono ?_;rintro i w1 ⟨rfl,a⟩;have g:=Aa a;clear A a
 go_wp2_with fail
 go_end0
 exact⟨rfl,g.out⟩
end
section
variable {w w':Xg} {b sb:Nat} {p:PD} {s:MS} {t:Nat} {x:Ac} {e:Ev}
theorem TO (s:MS) (t:Nat) (a c:TS):(s.Af t a).Af t c=s.Af t c:=by unfold MS.Af;simp
theorem SY (s:MS) {t:Nat} (h:t<s.thr.length) (a:TS):(s.Af t a).th t=a:=by rw[Fr s t t a h,if_pos rfl]
def KO (w:Xg) (f b sb:Nat) (p:PD) (t:Nat) (x:Ac) (s':MS) (e':Ev):Prop:=X3 Tryz.prog f #[Ab sb] w λr w'=>r = .returned (.tuple #[])/\Ba w w' b sb p s' t x e'
theorem abE {z D nl:Nat} (U:z<=4) (R:D<=4) (P:nl<=4) (I:IE z D nl p.C) (h:CG z D nl p.C s) (K:t<p.C.length) (Q:(s.th t).ph=1) (S:Cc s x=false) (l:x=Cl\/(FP z D nl p.C.length (p.C.getD t []).length x/\(s.th t).pc<(p.C.getD t []).length)) :
 ∃f,Di x.op = .func (.func f) #[] #[]/\∀w,Ay w b sb p (s.Af t {s.th t with pc:=(s.th t).pc+1}) t x ⟨t,0,0,0⟩->KO w f b sb p t x (AT false s t x).1 (AT false s t x).2:=by
 have E:=h.th t K;have m:t<4:=by have:=I.four;omega
 have A:t<s.thr.length:=by rw[h.tl];exact K
 have i:(s.Af t {s.th t with pc:=(s.th t).pc+1}).th t={s.th t with pc:=(s.th t).pc+1}:=SY s A _;have B:(s.Af t {s.th t with pc:=(s.th t).pc+1}).thr.length=s.thr.length:=by show (s.thr.set t _).length=_;rw[List.length_set]
 have k:∀y,(s.Af t {s.th t with pc:=(s.th t).pc+1}).Af t y=s.Af t y:=λy=>TO s t _ y;have N:∀{v:Int},CZ v->v % 1000=v:=λ{v} q=>by have:=q.1;have:=q.2;omega
 have M:∀w,Ay w b sb p (s.Af t {s.th t with pc:=(s.th t).pc+1}) t Cl ⟨t,0,0,0⟩->KO w 96 b sb p t Cl (AT false s t Cl).1 (AT false s t Cl).2:=λw q=>by
  have:=Rd q m (by rw[B];exact A);rw[i,k] at this;exact this
 rcases l with rfl|⟨l,V⟩
 ·exact⟨96,rfl,M⟩
 ·have va:=KY E l.sm.2.1;have e:EN (s.Af t {s.th t with pc:=(s.th t).pc+1}) t x:=⟨m,by rw[B];exact A,by rw[i];exact E.rl,by rw[i];exact E.rv,l.sm.1,l.sm.2.1,l.sm.2.2,l.x0⟩;have j:∀r n,Am ((s.Af t {s.th t with pc:=(s.th t).pc+1}).th t) r n=Am (s.th t) r n:=λr n=>by rw[i];rfl
  obtain⟨q,F,g,H,G,J,O,T⟩:=l.ex;have o:=l.x0;simp only[AQ,XL,Yd,or_false] at F
  rcases F with rfl|rfl|rfl|rfl|rfl|rfl|rfl|rfl|rfl|rfl|rfl|rfl|rfl|rfl|rfl|rfl|rfl<;>rw[g]
  ·refine⟨74,rfl,λw q=>?_⟩;have:=abK q e;rw[k,j,i,N va] at this;unfold AT;rw[g];exact this
  ·refine⟨77,rfl,λw q=>?_⟩;have:=abT q e;rw[k,j,j,i] at this;unfold AT;rw[g];exact this
  ·refine⟨78,rfl,λw q=>?_⟩;have:=abI q e;rw[k,j,j,i] at this;rw[show (Am (s.th t) x.aR x.aN - Am (s.th t) x.bR x.bN) % 1000=(Am (s.th t) x.aR x.aN - Am (s.th t) x.bR x.bN+1000) % 1000 by omega] at this;unfold AT;rw[g];exact this
  ·refine⟨79,rfl,λw q=>?_⟩;have:=abM q e;rw[k,j,j,i] at this;unfold AT;rw[g];exact this
  ·refine⟨80,rfl,λw q=>?_⟩;have u:=H (by decide);have:=abN q m e.tl e.rl e.r ⟨o,by omega⟩;rw[k,i] at this;unfold AT;rw[g];exact this
  ·refine⟨82,rfl,λw q=>?_⟩;have u:=H (by decide);have:=abJ q m e.rl e.a ⟨o,by omega⟩ (by show x.x.toNat<s.vars.length;rw[h.vl];omega);rw[j] at this;unfold AT;rw[g];exact this
  ·refine⟨84,rfl,λw q=>?_⟩;have u:=G (by decide);have:=abS q m e.tl e.rl e.r ⟨o,by omega⟩;rw[k,i] at this;unfold AT;rw[g];exact this
  ·refine⟨85,rfl,λw q=>?_⟩;have u:=G (by decide);have:=abL q m e.rl e.a ⟨o,by omega⟩ (by show x.x.toNat<s.flags.length;rw[h.fl];omega);rw[j] at this;unfold AT;rw[g];exact this
  ·refine⟨86,rfl,λw q=>?_⟩;have u:=J (by decide);have:=acH q ⟨o,by omega⟩ (by show x.x.toNat<s.locks.length;rw[h.ll];omega);unfold AT;rw[g];exact this
  ·refine⟨87,rfl,λw q=>?_⟩;have u:=J (by decide);have:=Ut q m e.tl ⟨o,by omega⟩ (by show x.x.toNat<s.locks.length;rw[h.ll];omega);rw[k,i] at this;refine this.mono ?_;rintro r w' ⟨rfl,c⟩;refine⟨rfl,?_⟩;unfold AT;rw[g];show Ba w w' b sb p (Prod.fst (if s.locks.getD x.x.toNat 0≠t then _ else _:MS×Ev)) t x (Prod.snd (if s.locks.getD x.x.toNat 0≠t then _ else _:MS×Ev));have c:if s.locks.getD x.x.toNat 0≠(t:Int) then _ else _:=c
   by_cases d:s.locks.getD x.x.toNat 0≠t
   ·rw[if_pos d] at c |-;exact c
   ·rw[if_neg d] at c |-;exact c
  ·refine⟨88,rfl,λw q=>?_⟩;have u:=O (by decide);have:=I.four;have:=TD q ⟨o,by omega⟩ (by rw[B,h.tl];omega);unfold AT;rw[g];exact this
  ·refine⟨89,rfl,λw q=>?_⟩;have:=abP q;unfold AT;rw[g];exact this
  ·refine⟨91,rfl,λw q=>?_⟩;have:=abO q m e.tl o;rw[k,i] at this;unfold AT;rw[g];exact this
  ·refine⟨93,rfl,λw q=>?_⟩;have:=abR q e;rw[k,j,j,i] at this;unfold AT;rw[g];refine this.mono ?_;rintro r w' ⟨rfl,c⟩;refine⟨rfl,?_⟩;show Ba w w' b sb p (s.Af t {s.th t with pc:=if Am (s.th t) x.aR x.aN=Am (s.th t) x.bR x.bN then x.x.toNat else(s.th t).pc+1}) t x _
   by_cases d:Am (s.th t) x.aR x.aN=Am (s.th t) x.bR x.bN
   ·rw[if_pos (by simp[d])] at c;rw[if_pos d];exact c
   ·rw[if_neg (by simp[d])] at c;rw[if_neg d];exact c
  ·refine⟨94,rfl,λw q=>?_⟩;have:=abQ q e;rw[k,j,j,i] at this;unfold AT;rw[g];refine this.mono ?_;rintro r w' ⟨rfl,c⟩;refine⟨rfl,?_⟩;show Ba w w' b sb p (s.Af t {s.th t with pc:=if Am (s.th t) x.aR x.aN<Am (s.th t) x.bR x.bN then x.x.toNat else(s.th t).pc+1}) t x _
   by_cases d:Am (s.th t) x.aR x.aN<Am (s.th t) x.bR x.bN
   ·rw[if_pos (by simp[d])] at c;rw[if_pos d];exact c
   ·rw[if_neg (by simp[d])] at c;rw[if_neg d];exact c
  ·refine⟨95,rfl,λw q=>?_⟩;have:=ab5 q e;rw[k,j,j,i] at this;unfold AT;rw[g];refine this.mono ?_;rintro r w' ⟨rfl,c⟩;refine⟨rfl,?_⟩;show Ba w w' b sb p (Prod.fst (if Am _ _ _≠Am _ _ _ then _ else _:MS×Ev)) t x (Prod.snd (if Am _ _ _≠Am _ _ _ then _ else _:MS×Ev))
   by_cases d:Am (s.th t) x.aR x.aN≠Am (s.th t) x.bR x.bN
   ·rw[if_pos d] at c |-;exact c
   ·rw[if_neg d] at c |-;exact c
  ·refine⟨96,rfl,λw q=>?_⟩;have:=Rd q m (by rw[B];exact A);rw[i,k] at this;unfold AT;rw[g];exact this
end
section
variable {w w':Xg} {b:Nat} {p:PD} {s:MS}
theorem Dp {P:Program} {f:FuncId} {fn:Func} (d:P.funcs[f]?=some fn) (e:(fn.name == "runtime.NumGoroutine")=false) (b:fn.body.isSome=true) (args:Array Xj) (w:Xg):(callFunc f args).run P w = .ok (.enter f args) w:=by
 have g:fn.name≠ "runtime.NumGoroutine" :=by simpa using e
 cases a:fn.body with
 |none=>rw[a] at b;cases b
 |some c=>simp[callFunc,d,g,a]
theorem abD:∀q,q∈Ks->∀(args:Array Xj) (w:Xg),(callFunc q.2 args).run Tryz.prog w = .ok (.enter q.2 args) w:=by
 intro q b;simp only[Ks,XL,Yd,or_false] at b
 rcases b with rfl|rfl|rfl|rfl|rfl|rfl|rfl|rfl|rfl|rfl|rfl|rfl|rfl|rfl|rfl|rfl|rfl
 ·exact λa w=>Dp Tryz.func74 (by kernel_rfl) (by kernel_rfl) a w
 ·exact λa w=>Dp Tryz.func77 (by kernel_rfl) (by kernel_rfl) a w
 ·exact λa w=>Dp Tryz.func78 (by kernel_rfl) (by kernel_rfl) a w
 ·exact λa w=>Dp Tryz.func79 (by kernel_rfl) (by kernel_rfl) a w
 ·exact λa w=>Dp Tryz.func80 (by kernel_rfl) (by kernel_rfl) a w
 ·exact λa w=>Dp Tryz.func82 (by kernel_rfl) (by kernel_rfl) a w
 ·exact λa w=>Dp Tryz.func84 (by kernel_rfl) (by kernel_rfl) a w
 ·exact λa w=>Dp Tryz.func85 (by kernel_rfl) (by kernel_rfl) a w
 ·exact λa w=>Dp Tryz.func86 (by kernel_rfl) (by kernel_rfl) a w
 ·exact λa w=>Dp Tryz.func87 (by kernel_rfl) (by kernel_rfl) a w
 ·exact λa w=>Dp Tryz.func88 (by kernel_rfl) (by kernel_rfl) a w
 ·exact λa w=>Dp Tryz.func89 (by kernel_rfl) (by kernel_rfl) a w
 ·exact λa w=>Dp Tryz.func91 (by kernel_rfl) (by kernel_rfl) a w
 ·exact λa w=>Dp Tryz.func93 (by kernel_rfl) (by kernel_rfl) a w
 ·exact λa w=>Dp Tryz.func94 (by kernel_rfl) (by kernel_rfl) a w
 ·exact λa w=>Dp Tryz.func95 (by kernel_rfl) (by kernel_rfl) a w
 ·exact λa w=>Dp Tryz.func96 (by kernel_rfl) (by kernel_rfl) a w
theorem abB {a:Tx} {f:Nat} (h:Di a = .func (.func f) #[] #[]) (args:Array Xj) (w:Xg):(callFunc f args).run Tryz.prog w = .ok (.enter f args) w:=by
 unfold Di at h
 split at h
 ·rename_i q b
  cases h
  exact abD q (List.mem_of_find?_eq_some b) args w
 ·cases h
theorem Ae.then {S S':Nat->Prop} {w w1 d:Xg} (h:Ae S w w1) (a:Ae S' w1 d) (e:∀k,k<w.heap.size->S' k->S k):Ae S w d:=
 ⟨a.os.trans h.os,a.tape.trans h.tape,a.output.trans h.output,Xu h.size a.size,λk b c=>(a.block k (Nat.lt_of_lt_of_le b h.size) (λq=>c (e k b q))).trans (h.block k b c)⟩
theorem Rc {w:Xg} {n T:Nat} {j i h f:Xj} (k:w.heap[n]?=some (.cells #[j,i,h,f] T)) (a c d e:Xj):∃W,(((w.setCell ⟨n,0,none⟩ a).setCell ⟨n,1,none⟩ c).setCell ⟨n,2,none⟩ d).setCell ⟨n,3,none⟩ e=W/\W.heap[n]?=some (.cells #[a,c,d,e] T)/\(∀b,b≠n->W.heap[b]?=w.heap[b]?)/\W.heap.size=w.heap.size/\W.os=w.os/\W.tape=w.tape/\W.output=w.output:=by
 refine⟨_,rfl,?_,λb g=>?_,by simp,rfl,rfl,rfl⟩
 ·have m:=(Xk _ n 0 _ _ a k).trans (show _=some (Obj.cells #[a,i,h,f] T) from rfl);have l:=(Xk _ n 1 _ _ c m).trans (show _=some (Obj.cells #[a,c,h,f] T) from rfl);have o:=(Xk _ n 2 _ _ d l).trans (show _=some (Obj.cells #[a,c,d,f] T) from rfl)
  exact(Xk _ n 3 _ _ e o).trans (show _=some (Obj.cells #[a,c,d,e] T) from rfl)
 ·rw[Xl _ ⟨n,3,none⟩ _ b g,Xl _ ⟨n,2,none⟩ _ b g,Xl _ ⟨n,1,none⟩ _ b g,Xl _ ⟨n,0,none⟩ _ b g]
theorem Rb {w:Xg} {fn:Func} {tmps:Array Xj} {b:Nat} {x d f c e:Xj} (g:fn.results = #[.cell 4 48,.tmp 5]) (m:tmps[4]?=some (.pointer (some ⟨b,0,none⟩))) (k:tmps[5]?=some x) (a:w.heap[b]?=some (.cells #[d,f,c,e] 48)):(results fn tmps).run Tryz.prog w = .ok (.tuple #[.agg #[d,f,c,e],x]) w:=by
 have h:w.cell? ⟨b,0,none⟩=some d:=by simp[Xh,a]
 have i:w.cell? ⟨b,1,none⟩=some f:=by simp[Xh,a]
 have j:w.cell? ⟨b,2,none⟩=some c:=by simp[Xh,a]
 have l:w.cell? ⟨b,3,none⟩=some e:=by simp[Xh,a]
 simp[results,g,m,k,go_sem,h,i,j,l]
def CM (e:Ev):Array Xj := #[.int .i64 e.t,.int .i64 e.k,.int .i64 e.o,.int .i64 e.v]
def DF (C:List (List Ac)) (s:MS) (t:Int):MS×Ev:=if AK C s t=0 then AO false C s t else(s,⟨0,0,0,0⟩)
def KG (w w':Xg) (b:Nat) (p:PD) (s:MS) (t:Int) (e:Ending):Prop:=
 e = .returned (.tuple #[.agg (CM (DF p.C s t).2),.int .i64 (AK p.C s t)])/\AD w' b p (DF p.C s t).1/\Ae (λk=>k=b) w w'
theorem Ld (h:AD w b p s) (B:BL p) (R:Bt p s) (t:Int) :
 X3 Tryz.prog 14 #[Ab b,.int .i64 t] w λe w'=>KG w w' b p s t e:=by
 have g:Xn w.heap.size w (w.alloc (.cells #[.int .i64 0,.int .i64 0,.int .i64 0,.int .i64 0] 48)):=(Xo _ _).alloc (Xf _) _;have y:(w.alloc (.cells #[.int .i64 0,.int .i64 0,.int .i64 0,.int .i64 0] 48)).heap[w.heap.size]?=some (.cells #[.int .i64 0,.int .i64 0,.int .i64 0,.int .i64 0] 48):=Xi w _;have D:(w.alloc (.cells #[.int .i64 0,.int .i64 0,.int .i64 0,.int .i64 0] 48)).heap.size=w.heap.size+1:=by show (w.heap.push _).size=_;simp
 have Y:=OL (h.below g) B R t;unfold KG DF
 by_cases J:AK p.C s t=0
 ·simp only[if_pos J];rw[J] at Y |-;obtain⟨u,rfl,A,aD,ah,hx⟩:=Hy B.fit R J;have X:u<4:=by have:=B.fit.four;omega
  have be:(u:Int)<4:=by omega
  unfold AO;rw[Int.toNat_natCast];have hT:=R.th u A;have I:=hT.pc (by omega);have K:=(B.fit.code _ (CF (d:=[]) A)).1;obtain⟨x,H⟩:∃x,Ci p.C u (s.th u)=x:=⟨_,rfl⟩;obtain⟨pc,z⟩:∃pc,(s.th u).pc=pc:=⟨_,rfl⟩;rw[H] at ah hx |-;have Z:=λsb=>abE (b:=b) (sb:=sb) B.v B.f B.l B.fit R A aD ah hx;have N:u<s.thr.length:=by rw[R.tl];exact A
  obtain⟨s',aw⟩:∃s',(AT false s u x).1=s':=⟨_,rfl⟩;obtain⟨M,aE⟩:∃M,(AT false s u x).2=M:=⟨_,rfl⟩;simp only[aw,aE] at Z |-;obtain⟨f,U,-⟩:=Z 0;replace Z:∀sb,∀w,Ay w b sb p (s.Af u {s.th u with pc:=(s.th u).pc+1}) u x ⟨u,0,0,0⟩->KO w f b sb p u x s' M:=λsb=>by
   obtain⟨f2,ay,hd⟩:=Z sb;rw[U] at ay
   cases ay
   exact hd
  have HD:=Aa Z;have P:=Aa (⟨g,y,h,D⟩:_/\_/\_/\_);have HX:=Aa (⟨A,I,K,z,H,N⟩:_/\_/\_/\_/\_/\_);replace U:=Aa U;replace D:=Aa D;clear h B R J hT I K Z g y aD ah hx aw aE z H A N;unfold Ab at *
  go_enter Tryz.func14,Tryz.ntmps14
  go_wp2_with fail
  refine Y.mono ?_;rintro e c ⟨rfl,n⟩;obtain⟨g,y,h,-⟩:=P.out;obtain⟨A,I,K,z,H,N⟩:=HX.out;replace n:Xn (w.heap.size+1) (w.alloc (.cells #[.int .i64 0,.int .i64 0,.int .i64 0,.int .i64 0] 48)) c:=by rw[<-D.out];exact n
  have ar:AD c b p s:=Ak.below (w:=w) h (g.trans (n.mono (adJ _)));have hN:=Pp ar X (by omega);rw[z] at hN;have aa:=Aa (⟨ar,n⟩:_/\_);clear Y g y h A I K z H N ar n
  go_wp2_with fail
  refine hN.mono ?_;rintro e w3 ⟨rfl,rfl⟩;obtain⟨A,I,K,z,H,N⟩:=HX.out;have ae:AD c.drew b p s:=Ak.same aa.out.1 rfl;obtain⟨k0,k1,k2,k3,k4,k5,k6,k7⟩:=LV ae X A I K z H;rw[U.out] at k7;have aI:=JY ae X;rw[z] at aI;have f3:=ae.frozen;have a4:Ya ((pc:Int)+1)=(pc:Int)+1:=by unfold Ya;omega
  obtain⟨F,an⟩:∃F:Array Xj,#[Value.pointer (some ⟨b,0,none⟩),.pointer (some ⟨b,27+u*207,none⟩),.string (bs x.op),.int .i64 x.r,.bool x.aR,.int .i64 x.aN,.bool x.bR,.int .i64 x.bN,.int .i64 x.x,.int .i64 u,.int .i64 0,.int .i64 0,.int .i64 0]=F:=⟨_,rfl⟩;have af:Xn c.heap.size c (c.alloc (.cells F 129)):=(Xo c.heap.size c).alloc (Xf _) _;have ac:AD (c.alloc (.cells F 129)) b p s:=Ak.below aa.out.1 af;have aJ:=JY ac X;have fA:=ac.frozen;rw[z] at aJ;have T:Ay (((c.alloc (.cells F 129)).setCell ⟨b,27+u*207+2,none⟩ (.int .i64 ((pc:Int)+1))).drew) b c.heap.size p (s.Af u {s.th u with pc:=(s.th u).pc+1}) u x ⟨u,0,0,0⟩:=by
   have q:Ay (c.alloc (.cells F 129)) b c.heap.size p s u x ⟨u,0,0,0⟩:=by
    refine⟨ac,⟨F,Xi c _,by rw[<-an];rfl,λk hk=>?_⟩,by have:=aa.out.1.lt;omega⟩;rw[<-an];have:k=0\/k=1\/k=2\/k=3\/k=4\/k=5\/k=6\/k=7\/k=8\/k=9\/k=10\/k=11\/k=12:=by omega
    rcases this with rfl|rfl|rfl|rfl|rfl|rfl|rfl|rfl|rfl|rfl|rfl|rfl|rfl<;>rfl
   have q2:=q.Fw (λj=>Pz (p:=p) (s:=s) X N (pc+1) (k:=j));rw[z];exact q2.same rfl
  have aV:((c.alloc (.cells F 129)).setCell ⟨b,27+u*207+2,none⟩ (.int .i64 ((pc:Int)+1))).cell? ⟨b,27+u*207+7+pc*8+7,none⟩=some (.func (.func f) #[] #[]):=by
   have q:=(LV ac X A I K z H).2.2.2.2.2.2.2;rw[U.out] at q;rw[World.cell?_setCell_other _ _ _ _ (by intro e;injection e;omega)];exact q
  have ag:=HD.out _ _ T;have a2:=abB U.out;have O:Ae (λk=>k=b) w (((c.alloc (.cells F 129)).setCell ⟨b,27+u*207+2,none⟩ (.int .i64 ((pc:Int)+1))).drew):=by
   obtain⟨g,y,h,-⟩:=P.out;have n:=aa.out.2;have q1:=g.trans (n.mono (adJ _))
   exact(Ae.set (S:=λk=>k=b) (Ae.CK (q1.trans (af.mono q1.size))) (a:=⟨b,27+u*207+2,none⟩) (.inl rfl) _).drew
  unfold KO Ab at ag;have HF:=Aa (⟨T,O⟩:_/\_);subst an;clear A I K z H N ae af ac T O HD
  go_wp2_with fail
  refine ag.mono ?_;rintro e V ⟨rfl,Q⟩;obtain⟨T,O⟩:=HF.out;have G:V.heap[w.heap.size]?=some (.cells #[.int .i64 0,.int .i64 0,.int .i64 0,.int .i64 0] 48):=by
   obtain⟨g,y,h,-⟩:=P.out;have n:=aa.out.2;have aq:=n.size;rw[D.out] at aq;have aj:b<w.heap.size:=h.lt;refine(Q.k.block _ ?_ ?_).trans ((Xl _ ⟨b,_,none⟩ _ _ ?_).trans ((Below.heap_alloc c _ _ ?_).trans ((n.block _ (Nat.lt_succ_self _)).trans y)))
   ·have:=O.size;have:c.heap.size+1=(((c.alloc (.cells #[Value.pointer (some ⟨b,0,none⟩),.pointer (some ⟨b,27+u*207,none⟩),.string (bs x.op),.int .i64 x.r,.bool x.aR,.int .i64 x.aN,.bool x.bR,.int .i64 x.bN,.int .i64 x.x,.int .i64 u,.int .i64 0,.int .i64 0,.int .i64 0] 129)).setCell ⟨b,27+u*207+2,none⟩ (.int .i64 ((pc:Int)+1))).drew).heap.size:=by
     show _=(World.setCell _ _ _).heap.size;rw[World.size_setCell];show _=(c.heap.push _).size;simp
    omega
   ·intro e;rcases e with e|e<;>omega
   ·show w.heap.size≠b;omega
   ·omega
  obtain⟨c9,bd,a8,bb⟩:=Q.v.GQ;have r0:V.cell? ⟨w.heap.size,0,none⟩=some (.int .i64 0):=by simp[Xh,G]
  have r1:V.cell? ⟨w.heap.size,1,none⟩=some (.int .i64 0):=by simp[Xh,G]
  have r2:V.cell? ⟨w.heap.size,2,none⟩=some (.int .i64 0):=by simp[Xh,G]
  have r3:V.cell? ⟨w.heap.size,3,none⟩=some (.int .i64 0):=by simp[Xh,G]
  have f4:∀i,V.frozen? ⟨w.heap.size,i,none⟩=false:=λi=>by simp[XE,G]
  have H4:=Aa (⟨Q,G⟩:_/\_);clear Q G T O ag a2 k0 k1 k2 k3 k4 k5 k6 k7 aV aI aJ f3 fA a4
  go_wp2_with fail
  obtain⟨Q,G⟩:=H4.out;obtain⟨T,O⟩:=HF.out;obtain⟨g,y,h,-⟩:=P.out;obtain⟨W,hW,v1,v2,v3,v4,v5,v6⟩:=Rc G (.int .i64 M.t) (.int .i64 M.k) (.int .i64 M.o) (.int .i64 M.v);rw[hW];have aj:b<w.heap.size:=h.lt;have aq:=aa.out.2.size;rw[D.out] at aq;refine XN (Rb rfl rfl rfl v1) rfl ⟨rfl,Q.v.m.same (v2 b (by omega)),?_⟩;have q:=O.then Q.k (λk hk e=>by rcases e with e|e;exact e;omega)
  exact⟨v4.trans q.os,v5.trans q.tape,v6.trans q.output,by rw[v3];exact q.size,λk hk hn=>(v2 k (by omega)).trans (q.block k hk hn)⟩
 ·simp only[if_neg J];obtain⟨er,aC⟩:∃er,AK p.C s t=er:=⟨_,rfl⟩;rw[aC] at Y J |-;have hb:(er != 0)=true:=by simpa using J
  have P:=Aa (⟨g,y,h,D⟩:_/\_/\_/\_);clear J B R g y D h aC;unfold Ab at *
  go_enter Tryz.func14,Tryz.ntmps14
  go_wp2_with fail
  refine Y.mono ?_;rintro e c ⟨rfl,n⟩;have E:c.heap[w.heap.size]?=some (.cells #[.int .i64 0,.int .i64 0,.int .i64 0,.int .i64 0] 48):=by
   obtain⟨g,y,h,D⟩:=P.out
   exact(n.block _ (by omega)).trans y
  have r0:c.cell? ⟨w.heap.size,0,none⟩=some (.int .i64 0):=by simp[Xh,E]
  have r1:c.cell? ⟨w.heap.size,1,none⟩=some (.int .i64 0):=by simp[Xh,E]
  have r2:c.cell? ⟨w.heap.size,2,none⟩=some (.int .i64 0):=by simp[Xh,E]
  have r3:c.cell? ⟨w.heap.size,3,none⟩=some (.int .i64 0):=by simp[Xh,E]
  have f4:∀i,c.frozen? ⟨w.heap.size,i,none⟩=false:=λi=>by simp[XE,E]
  have H2:=Aa (⟨n,E⟩:_/\_);clear n E Y
  go_wp2_with fail
  obtain⟨n,E⟩:=H2.out;obtain⟨g,y,h,D⟩:=P.out;obtain⟨W,hW,v1,v2,v3,v4,v5,v6⟩:=Rc E (.int .i64 0) (.int .i64 0) (.int .i64 0) (.int .i64 0);rw[hW];have aj:b<w.heap.size:=h.lt;have q:=g.trans (n.mono g.size);exact XN (Rb rfl rfl rfl v1) rfl ⟨rfl,h.same ((v2 b (by omega)).trans (q.block b aj)),⟨v4.trans q.os,v5.trans q.tape,v6.trans q.output,by rw[v3];exact q.size,λk hk hn=>(v2 k (by omega)).trans (q.block k hk)⟩⟩
end
section
variable {w w':Xg} {b:Nat} {p:PD} {s:MS}
theorem Tryz.infoInt:(Tryz.prog.info? 3).map (λi=>(i.zero,i.size,i.bytes))=some (some (.int .i64 0),1,8):=by kernel_rfl
theorem Tryz.infoEv:(Tryz.prog.info? 48).map (λi=>(i.zero,i.size,i.bytes))=some (some (.agg #[.int .i64 0,.int .i64 0,.int .i64 0,.int .i64 0]),4,32):=by kernel_rfl
def EI (n:Int):Xj:=.int .i64 n
def Dx (C:List (List Ac)) (s:MS) (i:Nat):List Int:=((List.range i).filter fun(t:Nat)=>decide (AK C s (t:Int)=0)).map fun(t:Nat)=>(t:Int)
def Bj (C:List (List Ac)) (s:MS):List Int:=Dx C s s.thr.length
theorem Uy (C:List (List Ac)) (s:MS) (i:Nat):Dx C s (i+1)=if AK C s (i:Int)=0 then Dx C s i++[(i:Int)] else Dx C s i:=by
 unfold Dx;rw[List.range_succ,List.filter_append,XH]
 by_cases h:AK C s (i:Int)=0
 ·rw[if_pos h];simp[h]
 ·rw[if_neg h];simp[h]
theorem Lx (C:List (List Ac)) (s:MS) (i:Nat):(Dx C s i).length<=i:=by
 unfold Dx;rw[List.length_map];exact Xu (List.length_filter_le _ _) (by rw[List.length_range];exact Xf _)
theorem QA {base:Nat} {v:Xj} {l:List Int} (h:w.ownsRow base 3 1 v l.length (l.map EI)) (x:Int) (q:l.length<1048576) (o:base<=w.heap.size) :
 ∃g cap w',(Builtin.append_ #[32,32] 32 #[v,.slice (some ⟨w.heap.size,0,none⟩) 1 1]).run Tryz.prog (w.alloc (.cells #[.int .i64 x] 3)) = .ok (.slice (some ⟨g,0,none⟩) (l.length+1) cap) w'/\
  w'.ownsRow base 3 1 (.slice (some ⟨g,0,none⟩) (l.length+1) cap) (l++[x]).length ((l++[x]).map EI)/\(∀B,B<=base->Xn B w w'):=by
 obtain⟨t,f,p,i,m⟩:=info_parts Tryz.infoInt;obtain⟨g,cap,w',b,n,c,d,j,r,rb,s⟩:=IX h Tryz.underlying32 f p i m rfl (by omega) [.int .i64 x] rfl (by intro u a;simp at a;subst a;rfl) 32 q o;refine⟨g,cap,w',b,by rw[List.length_append,XH];exact n,λB z=>⟨c,d,j,by omega,λk y=>rb k (by omega) (λe=>?_)⟩⟩;have:=(h.lt k e).1
 omega
end
end Go.Proofs.YtdcacoifehkioaaGreatDoor
namespace Go.Proofs.YtdcacoifehkioaaGreatDoor
open Go.RowKit Go.Shelf Go.Proofs.Cod
def Is (w:Xg) (a:Option Addr) (l:List Int):Prop:=∀i,i<l.length->∃b off,a=some ⟨b,off,none⟩/\b<w.heap.size/\w.cell? ⟨b,off+i,none⟩=some (.int .i64 (l.getD i 0))
theorem Is.below {w w':Xg} {a:Option Addr} {l:List Int} (h:Is w a l) (d:Xn w.heap.size w w'):Is w' a l:=λi e=>by
 obtain⟨b,c,f,g,j⟩:=h i e
 exact⟨b,c,f,by have:=d.size;omega,(d.cell (p:=⟨b,c+i,none⟩) g).trans j⟩
theorem Sy {i:Nat} (h:i<2000000):Ya ((i:Int)+1)=(i:Int)+1:=by unfold Ya;omega
def Dg (e:Ev):List Xj:=(CM e).toList
theorem MG (e:Ev):(Dg e).length=4:=rfl
section
variable {w w':Xg} {b B0 base:Nat}
theorem Vc (C:List (List Ac)) (x:MS×List Ev) (t:Int):GD false C x t=((DF C x.1 t).1,if AK C x.1 t=0 then x.2++[(DF C x.1 t).2] else x.2):=by
 unfold GD DF
 by_cases e:AK C x.1 t=0
 ·rw[if_pos e,if_pos e,if_pos e]
 ·rw[if_neg e,if_neg e,if_neg e]
end
end Go.Proofs.YtdcacoifehkioaaGreatDoor
