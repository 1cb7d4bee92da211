import Derived.Test.YtdcacoifehkioaaGreatDoorExH3
import Derived.Test.YtdcacoifehkioaaGreatDoorExH29
import Derived.Deep.Cut
import Derived.Deep.DeepCutAuto
import Derived.Test.YtdcacoifehkioaaGreatDoorExH20
import Derived.Test.YtdcacoifehkioaaGreatDoorExH24
import Derived.Test.YtdcacoifehkioaaGreatDoorExH19
open Go renaming World->Xh,Value->Xk,Addr->YZ,Calls->XX,wp_region_held_drew->Xx,wpAnyH_done->Yd,wpAnyH_ready->Zd,bodyPost_ret->XJ
open Go.RowKit renaming Below->Xm,wrap64->XO
open Array renaming getElem?_eq_some_iff->Xa
open Go.RowKit.Below renaming refl->Xq
open Nat renaming le_refl->Xd,le_trans->Xu,zero_le->Xw,sub_lt_sub_left->Xl,lt_succ_self->Xn
open Go.World renaming alloc_heap_new->Xi
open List renaming length_map->Xp,mem_singleton->XT,getElem?_eq_getElem->Xe,mem_of_getElem?->XA,getD_eq_getElem?_getD->Xc,getElem?_eq_some_iff->Xf,length_append->Xb,take_add_one->Yh
open Go.AllReadyH renaming cons->Yb,nil->Y4
open Go.Lib renaming join->YI
set_option maxRecDepth 100000
set_option maxHeartbeats 8000000
set_option linter.unusedVariables false
set_option linter.unusedSimpArgs false
namespace Go.Proofs.YtdcacoifehkioaaGreatDoor
open Go.RowKit Go.Shelf Go.Proofs.Cod
def Ow (w:Xh) (d:D5) (p:PD) (most:Nat) (e:Ending) (w':Xh):Prop:=
 Xm w.heap.size w w'/\((Cr (Aj p) (BC true p.C) most (most+1) [AH d.nv d.nf d.nl d.nt] 0=none/\e = .returned (.tuple #[.slice none 0 0,.bool false]))\/
  ∃l v S,Cr (Aj p) (BC true p.C) most (most+1) [AH d.nv d.nf d.nl d.nt] 0=some l/\e = .returned (.tuple #[v,.bool true])/\Dw w' w.heap.size d v S l/\l.length<=most/\∀m,m∈l->AZ d.nv d.nf d.nl p.C m)
section
variable {w w':Xh} {nv nf nl nt nr:Nat} {P:RP} {TV:List (Xk×Xk)} {x1 x2 x3 x4:Option YZ} {z1 z2 z3 z4:Nat}
theorem Bf.acm {v Z:Xh} {S:Nat->Prop} {c q:Nat} {b:Option YZ} {l:List Int} (d:Ac S v Z) (r:∀k,S k->∃cs T,v.heap[k]?=some (.cells cs T)/\T≠3) (h:Bf v c q b l):Bf Z c q b l:=by
 rcases h with h|⟨b,N,f,e,j,i,⟨cs,a,g⟩,o⟩
 ·exact .inl h
 ·refine .inr ⟨b,N,f,e,j,i,⟨cs,(d.block b (Xa.1 a).1 (λp=>?_)).trans a,g⟩,o⟩;obtain⟨s,T,m,n⟩:=r b p;rw[m] at a;injection a with a
  injection a with _ a
  exact n a
abbrev Z4:Array Xk := #[.int .i64 0,.int .i64 0,.int .i64 0,.int .i64 0]
abbrev RW (w v:Xh) (b0 b1 b2 b3 b4 b5:Option YZ) (m:MS):Prop:=∃lo,w.heap.size<=lo/\∃p1 p2 p3 p4 p5 p6,Bh v lo b0 b1 b2 b3 b4 b5 m p1 p2 p3 p4 p5 p6
theorem Qm {w v a:Xh} {i j d e k c:Option YZ} {m:MS} (h:RW w v i j d e k c m) (f:Xm v.heap.size v a):RW w a i j d e k c m:=by
 obtain⟨p,s,n,q,t,r,l,o,g⟩:=h;have y:=g.le
 exact⟨p,s,n,q,t,r,l,o,By.keep g (λb u x=>f.block b (by omega)) f.size⟩
structure ZE (w v:Xh) (x y:Option Nat) (z:Bool):Prop where
 b:Xm w.heap.size w v
 a:∀a,x=some a->w.heap.size<=a/\v.heap[a]?=some (.cells Z6 92)
 e:∀a,y=some a->w.heap.size<=a/\v.heap[a]?=some (.cells Z4 169)
theorem ZE.go {w v d:Xh} {x y:Option Nat} {z:Bool} (f:Bool) (h:ZE w v x y z) (c:Xm v.heap.size v d):ZE w d x y f:=
 ⟨h.b.trans (c.mono h.b.size),λa q=>⟨(h.a a q).1,(c.block a (Xa.1 (h.a a q).2).1).trans (h.a a q).2⟩,λa q=>⟨(h.e a q).1,(c.block a (Xa.1 (h.e a q).2).1).trans (h.e a q).2⟩⟩
theorem ZE.al {w v u:Xh} {y:Option Nat} {z:Bool} (h:ZE w v none y z) (d:v.alloc (.cells Z6 92)=u):ZE w u (some v.heap.size) y z/\Xm v.heap.size v u:=by
 subst d;have c:Xm v.heap.size v (v.alloc (.cells Z6 92)):=(Xq _ _).alloc (Xd _) _
 exact⟨⟨(h.go z c).b,λa e=>by cases e;exact⟨h.b.size,Xi v _⟩,(h.go z c).e⟩,c⟩
theorem ZE.ae {w v u:Xh} {x:Option Nat} {z:Bool} (h:ZE w v x none z) (d:v.alloc (.cells Z4 169)=u):ZE w u x (some v.heap.size) z/\Xm v.heap.size v u:=by
 subst d;have c:Xm v.heap.size v (v.alloc (.cells Z4 169)):=(Xq _ _).alloc (Xd _) _
 exact⟨⟨(h.go z c).b,(h.go z c).a,λa e=>by cases e;exact⟨h.b.size,Xi v _⟩⟩,c⟩
theorem ZE.fin {w v:Xh} {j f n0 n1 n2 n3 n4 n5:Nat} {x y s u A r:Option YZ} {m:MS} (e:Ev) (F E D G H I:Nat) {z:Bool} (h:ZE w v (some j) (some f) z) (hr:RW w v x y s u A r m) :
 ∃p d,v.setCells j 0 (#[Value.slice x n0 F,.slice y n1 E,.slice s n2 D,.slice u n3 G,.slice A n4 H,.slice r n5 I]:Array Xk).toList=p/\p.setCells f 0 (#[Value.int .i64 e.t,.int .i64 e.k,.int .i64 e.o,.int .i64 e.v]:Array Xk).toList=d/\Hid (Xm w.heap.size w p)/\p.heap[f]?=some (.cells Z4 169)/\Hid (d.heap[j]?=some (.cells #[.slice x n0 F,.slice y n1 E,.slice s n2 D,.slice u n3 G,.slice A n4 H,.slice r n5 I] 92)/\d.heap[f]?=some (.cells #[.int .i64 e.t,.int .i64 e.k,.int .i64 e.o,.int .i64 e.v] 169)/\w.heap.size<=j/\w.heap.size<=f/\RW w d x y s u A r m/\Xm w.heap.size w d):=by
 obtain⟨V,c⟩:=h.a j rfl;obtain⟨U,J⟩:=h.e f rfl;have n:=h.b;have T:j≠f:=λq=>by
  rw[q,J] at c;injection c with c
  injection c with _ c
  exact absurd c (by decide)
 obtain⟨p,d,ab,X,ac,M,S,P,af⟩:=NV (.slice x n0 F) (.slice y n1 E) (.slice s n2 D) (.slice u n3 G) (.slice A n4 H) (.slice r n5 I) (.int .i64 e.t) (.int .i64 e.k) (.int .i64 e.o) (.int .i64 e.v) c J T;have N:∀{Z:Xh},Ac (λk=>k=j\/k=f) v Z->Xm w.heap.size w Z:=λq=>⟨q.os.trans n.os,q.tape.trans n.tape,q.output.trans n.output,Xu n.size q.size,λk B=>(q.block k (Nat.lt_of_lt_of_le B n.size) (by omega)).trans (n.block k B)⟩
 obtain⟨C,h1,Q,Y,W,p4,O,R,g⟩:=hr;have K:∀{C q:Nat} {b:Option YZ} {l:List Int},Bf v C q b l->Bf d C q b l:=Bf.acm M (λk B=>by
  rcases B with rfl|rfl
  ·exact⟨_,_,c,by decide⟩
  ·exact⟨_,_,J,by decide⟩)
 have i:=g.le
 exact⟨p,d,ab,X,N ac,S,P,af,V,U,⟨C,h1,Q,Y,W,p4,O,R,K g.r0,K g.r1,K g.r2,K g.r3,K g.r4,K g.r5,i.1,i.2.1,i.2.2.1,i.2.2.2.1,i.2.2.2.2.1,i.2.2.2.2.2.1,Xu i.2.2.2.2.2.2 M.size⟩,N M⟩
theorem Ww {B:Nat} (ht:Ck w B) (hB:B<=w.heap.size) (hQ:DM w (.slice x1 nv z1) (.slice x2 nf z2) (.slice x3 nl z3) (.slice x4 nt z4) P TV) (b4:P.thr.length=nt) (h1:P.vs.length=nv) (h2:P.fs.length=nf) (h3:P.ls.length=nl) (bo:nt*4=nr) (hf:Cs (AD P)) (hN:DX (AD P)) (dt:∀m,BT (AD P) m->(Aj (AD P) m).length<4294967296) {most:Nat} (aL:1<=most) (dy:most<=20000) :
 XX Tryz.prog 32 #[.agg #[.slice x1 nv z1,.slice x2 nf z2,.slice x3 nl z3,.slice x4 nt z4],.int .i64 most] w (Ow w ⟨nv,nf,nl,nt,nr⟩ (AD P) most):=by
 obtain⟨W,hW⟩:∃W,(w.alloc (.cells #[.slice x1 nv z1,.slice x2 nf z2,.slice x3 nl z3,.slice x4 nt z4] 28)).alloc (.cells #[.slice none 0 0] 167)=W:=⟨_,rfl⟩;obtain⟨cJ,k1,k2,hz⟩:=FK _ _ _ hW;have b5:(Ai P).length=nt:=by unfold Ai;rw[Xp];exact b4
 have aR:(AD P).C=Ai P:=rfl;have aZ:Ej nv nf nl (Ai P):=by
  have:=hf.fit;rw[<-h1,<-h2,<-h3];exact this
 have h4:nt<=4:=by have:=aZ.four;omega
 have cB:nv<=4:=by rw[<-h1];exact hf.v
 have cU:nf<=4:=by rw[<-h2];exact hf.f
 have an:nl<=4:=by rw[<-h3];exact hf.l
 have a0:AZ nv nf nl (Ai P) (AH nv nf nl nt):=by have:=Jo nv nf nl (Ai P);rw[b5] at this;exact this
 have bg:∀m,AZ nv nf nl (Ai P) m->(Aj (AD P) m).length<4294967296:=λm M=>dt m (by
  show AZ P.vs.length P.fs.length P.ls.length (Ai P) m;rw[h1,h2,h3];exact M)
 have b1:Hid (∀u,Xm (w.heap.size+1) W u->u.cell? ⟨w.heap.size,0,none⟩=some (.slice x1 nv z1)/\u.cell? ⟨w.heap.size,1,none⟩=some (.slice x2 nf z2)/\u.cell? ⟨w.heap.size,2,none⟩=some (.slice x3 nl z3)/\u.cell? ⟨w.heap.size,3,none⟩=some (.slice x4 nt z4)):=λu c=>BK ((c.block _ (by omega)).trans k1);have bU:∀u,Xm (w.heap.size+1) W u->Xm w.heap.size w u:=λu c=>cJ.trans (c.mono (by omega));have HQ:Hid (∀u,Xm (w.heap.size+1) W u->DM u (.slice x1 nv z1) (.slice x2 nf z2) (.slice x3 nl z3) (.slice x4 nt z4) P TV/\Ck u B/\B<=u.heap.size):=λu c=>⟨hQ.below (bU u c),ht.keep ((bU u c).mono hB),by have:=(bU u c).size;omega⟩
 have dq:=aag (nv:=nv) (nf:=nf) (nl:=nl) (nt:=nt) (nr:=nr) (x1:=x1) (x2:=x2) (x3:=x3) (x4:=x4) (z1:=z1) (z2:=z2) (z3:=z3) (z4:=z4) W cB cU an h4 bo;have HR:Hid (∀(u:Xh) (s:S6) (m:MS),Xm (w.heap.size+1) W u->Dl u s ⟨nv,nf,nl,nt,nr⟩ m->AZ nv nf nl (Ai P) m->XX Tryz.prog 33 #[.agg #[.slice x1 nv z1,.slice x2 nf z2,.slice x3 nl z3,.slice x4 nt z4],.agg #[.slice s.a0 nv s.c0,.slice s.a1 nf s.c1,.slice s.a2 nl s.c2,.slice s.a3 nt s.c3,.slice s.a4 nt s.c4,.slice s.a5 nr s.c5]] u λe w'=>∃v,e = .returned v/\w'.ownsRow u.heap.size 3 1 v (AG (Ai P) m).length ((AG (Ai P) m).map Cq)/\Xm u.heap.size u w'):=λu s m c hd hM=>MI (HQ.out u c).1 b4 hd.Ip hM aZ;have cD:Hid (∀(u:Xh) (H G E F I J:Option YZ) (d0 d1 d2 d3 d4 d5:Nat) (m:MS),Xm (w.heap.size+1) W u->Cl u H G E F I J nv nf nl nt nr m->AZ nv nf nl (Ai P) m->XX Tryz.prog 68 #[.agg #[.slice x1 nv z1,.slice x2 nf z2,.slice x3 nl z3,.slice x4 nt z4],.agg #[.slice H nv d0,.slice G nf d1,.slice E nl d2,.slice F nt d3,.slice I nt d4,.slice J nr d5]] u λe w'=>e = .returned (.string (bs (Aj (AD P) m)))/\Xm u.heap.size u w'):=λu H G E F I J d0 d1 d2 d3 d4 d5 m c hd hM=>WA (HQ.out u c).2.1 (HQ.out u c).2.2 (HQ.out u c).1 b4 h1 h2 h3 hd hM hf hN;have dd:Hid (∀(u:Xh) (s:S6) (m:MS) (t:Nat),Xm (w.heap.size+1) W u->Dl u s ⟨nv,nf,nl,nt,nr⟩ m->AZ nv nf nl (Ai P) m->AO (Ai P) m t=0->XX Tryz.prog 69 #[.agg #[.slice x1 nv z1,.slice x2 nf z2,.slice x3 nl z3,.slice x4 nt z4],.agg #[.slice s.a0 nv s.c0,.slice s.a1 nf s.c1,.slice s.a2 nl s.c2,.slice s.a3 nt s.c3,.slice s.a4 nt s.c4,.slice s.a5 nr s.c5],.int .i64 t] u λe w'=>∃H G E F I J,(∃d0 d1 d2 d3 d4 d5,e = .returned (.tuple #[.agg #[.slice H nv d0,.slice G nf d1,.slice E nl d2,.slice F nt d3,.slice I nt d4,.slice J nr d5],.agg #[.int .i64 (Ay true (Ai P) m t).2.t,.int .i64 (Ay true (Ai P) m t).2.k,.int .i64 (Ay true (Ai P) m t).2.o,.int .i64 (Ay true (Ai P) m t).2.v]]))/\(∃lo,u.heap.size<=lo/\∃p1 p2 p3 p4 p5 p6,Bh w' lo H G E F I J (Ay true (Ai P) m t).1 p1 p2 p3 p4 p5 p6)/\Cl w' H G E F I J nv nf nl nt nr (Ay true (Ai P) m t).1/\Xm u.heap.size u w'):=λu s m t c hd hM hc=>by
  obtain⟨t',e,ex,ed,-,-⟩:=Gq aZ hM hc;have e:t=t':=by omega
  subst e;exact Wv (HQ.out u c).1 b4 hd.Ip cB cU an hM aZ (t:=t) (by omega) ed
 have bI:∀m t,AZ nv nf nl (Ai P) m->AO (Ai P) m t=0->AZ nv nf nl (Ai P) (Ay true (Ai P) m t).1:=λm t hM hc=>adf aZ hM hc;have aj:∀m t,AZ nv nf nl (Ai P) m->t∈AG (Ai P) m->∃u:Nat,t=u/\AO (Ai P) m u=0:=λm t hM M=>by
  obtain⟨u,e,-⟩:=Gq aZ hM (Ie M)
  exact⟨u,e,by rw[<-e];exact Ie M⟩
 have bX:∀m,AZ nv nf nl (Ai P) m->(AG (Ai P) m).length<=4:=λm hM=>by
  have q:=Jh (Ai P) m m.thr.length;have:=hM.tl;unfold AG
  omega
 have dz:Fm W (w.heap.size+1) (w.heap.size+1) []:=.inl ⟨k2,Xd _,rfl⟩;obtain⟨p,hp⟩:∃p,AD P=p:=⟨_,rfl⟩;obtain⟨C,hC⟩:∃C,Ai P=C:=⟨_,rfl⟩;rw[hp] at aR bg |-;rw[hC] at aR bg a0 bI aj bX b5;simp only[hp,hC] at cD HR dd;have dX:most<1048576:=by omega
 have T:=Aa (⟨aR,bg,a0,bI,aj,bX,bo,aL,dy,b5⟩:_/\_/\_/\_/\_/\_/\_/\_/\_/\_);have HB:=Aa (⟨cJ,hz,bU,dz⟩:_/\_/\_/\_);obtain⟨q0,q1,q2,q3⟩:=b1.out W (Xq _ _);clear cJ k1 k2 hz b5 aR aZ h4 cB cU an a0 bg bU bI aj bX dz hp hC hQ b4 h1 h2 h3 bo hf hN dt aL dy dX HQ ht hB
 go_enter Tryz.func32,Tryz.ntmps32
 go_upto_region 2 with fail
 try rw[hW]
 clear hW
 go_wp2_with fail
 refine dq.mono ?_;rintro e w1 ⟨Y,a1,Z,a3,V,a5,⟨c0,c1,c2,c3,c4,c5,rfl⟩,⟨lo,bl,p1,p2,p3,p4,p5,p6,dO⟩,c6,cS⟩;obtain⟨W1,cd⟩:∃W1,w1.alloc (.cells #[.slice Y nv c0,.slice a1 nf c1,.slice Z nl c2,.slice a3 nt c3,.slice V nt c4,.slice a5 nr c5] 92)=W1:=⟨_,rfl⟩;have cp:Xm w1.heap.size w1 W1:=by rw[<-cd];exact(Xq _ _).alloc (Xd _) _
 have aU:W1.heap[w1.heap.size]?=some (.cells #[.slice Y nv c0,.slice a1 nf c1,.slice Z nl c2,.slice a3 nt c3,.slice V nt c4,.slice a5 nr c5] 92):=by rw[<-cd];exact Xi w1 _
 have aH:Xm W.heap.size W W1:=cS.trans (cp.mono cS.size);have dU:Dl w1 ⟨Y,a1,Z,a3,V,a5,c0,c1,c2,c3,c4,c5⟩ ⟨nv,nf,nl,nt,nr⟩ (AH nv nf nl nt):=Dl.of dO c6;have aC:=dU.keep (DL.below cp);obtain⟨sS,bW⟩:∃sS,w1.heap.size=sS:=⟨_,rfl⟩;rw[bW] at aU;obtain⟨r0,r1,r2,r3,r4,r5⟩:=Br aU;have cL:Xm (w.heap.size+1) W W1:=aH.mono (by have:=HB.out.2.1;omega);obtain⟨q0,q1,q2,q3⟩:=b1.out W1 cL;have bK:=cD.out W1 Y a1 Z a3 V a5 c0 c1 c2 c3 c4 c5 _ cL aC.Ip T.out.2.2.1;have H1:=Aa (⟨aH,aU,aC⟩:_/\_/\_);clear dq dO c6 cS cp aU aH dU aC bl cL;replace bW:=Aa bW
 go_upto_region 3 with fail
 try rw[cd]
 try rw[bW.out]
 clear cd bW
 go_wp2_with fail
 refine bK.mono ?_;rintro e d ⟨rfl,aF⟩;obtain⟨aH,aU,aC⟩:=H1.out;have ah:=HB.out.2.1;have aW:=aH.trans (aF.mono aH.size);have dZ:=aW.size;have c7:=HB.out.2.2.2.below (aW);have b0:=Ql (s:=Aj p (AH nv nf nl nt)) (T.out.2.1 _ T.out.2.2.1) c7 (by omega) (by decide);have bz:=(aF.block sS (Xa.1 aU).1).trans aU;have bD:=aC.keep (DL.below aF);have H2:=Aa (⟨aW,bz,bD⟩:_/\_/\_);clear bK H1 aH aU aC ah aF aW dZ c7 bz bD q0 q1 q2 q3 r0 r1 r2 r3 r4 r5
 go_wp2_with fail
 refine b0.mono ?_;rintro e w3 ⟨rfl,cz,ap⟩;obtain⟨aW,bz,bD⟩:=H2.out;have ah:=HB.out.2.1;have dg:=(ap.other _ _ _ bz (by decide) (by decide) (by decide)).trans bz;have dx:=bD.keep ap.Lw;have cC:Xm (w.heap.size+1) W w3:=(aW.mono (by omega)).trans ap.bel;obtain⟨r0,r1,r2,r3,r4,r5⟩:=Br dg;obtain⟨W3,bp⟩:∃W3,w3.alloc (.cells #[.slice Y nv c0,.slice a1 nf c1,.slice Z nl c2,.slice a3 nt c3,.slice V nt c4,.slice a5 nr c5] 92)=W3:=⟨_,rfl⟩;have hb3:Xm w3.heap.size w3 W3:=by rw[<-bp];exact(Xq _ _).alloc (Xd _) _
 have k3:W3.heap[w3.heap.size]?=some (.cells #[.slice Y nv c0,.slice a1 nf c1,.slice Z nl c2,.slice a3 nt c3,.slice V nt c4,.slice a5 nr c5] 92):=by rw[<-bp];exact Xi w3 _
 have ec:=cC.size;have dB:Dw W3 (w.heap.size+1) ⟨nv,nf,nl,nt,nr⟩ (.slice (some ⟨w3.heap.size,0,none⟩) 1 1) [⟨Y,a1,Z,a3,V,a5,c0,c1,c2,c3,c4,c5⟩] [AH nv nf nl nt]:=by
  refine⟨⟨rfl,.inr ⟨w3.heap.size,1,_,rfl,by omega,k3,Xd _,by decide,rfl,rfl⟩⟩,rfl,λi s m e1 e2=>?_⟩
  cases i with
  |zero=>
   cases e1
   cases e2
   exact dx.keep (DL.below hb3)
  |succ i=>cases e1
 have dG:Fm W3 (w.heap.size+1) (w.heap.size+1) ([AH nv nf nl nt].map (Aj p)):=by
  rw[if_neg (by simp)] at cz;exact cz.below hb3
 have dr:Hid (GT W (w.heap.size+1) (w.heap.size+1) ⟨nv,nf,nl,nt,nr⟩ p W3 (.slice (some ⟨w3.heap.size,0,none⟩) 1 1) [AH nv nf nl nt] most):=by
  obtain⟨aR,-,a0,-,-,-,-,aL,-⟩:=T.out;refine⟨⟨_,dB⟩,dG,cC.trans (hb3.mono (by omega)),aL,λm M=>?_⟩;rw[XT.1 M,aR];exact a0
 clear b0 H2 aW bz bD ah dg dx cC hb3 k3 ec dB dG cz ap;replace bp:=Aa bp
 go_wp2_with fail
 try rw[bp.out]
 obtain⟨res,b3⟩:∃r,Cr (Aj p) (BC true p.C) most (most+1) [AH nv nf nl nt] 0=r:=⟨_,rfl⟩;have b3:=Aa b3
 go_loopw [8,9] (λav iv wr=>∃(i n:Nat) (ms:List MS),i<=ms.length/\iv = .int .i64 i/\GT W (w.heap.size+1) (w.heap.size+1) ⟨nv,nf,nl,nt,nr⟩ p wr av ms most/\n+i=most+1/\Cr (Aj p) (BC true p.C) most n ms i=res) (λ_ iv _=>most - (intOf iv).toNat)
 case atStart=>exact⟨0,most+1,[AH nv nf nl nt],Xw _,rfl,dr.out,rfl,b3.out⟩
 case round=>
  clear dr bp r0 r1 r2 r3 r4 r5;obtain⟨i,n,ms,hi,rfl,N,hn,aq⟩:=hrel;obtain⟨S,hA⟩:=N.all;obtain⟨va,ej,dK⟩:=At hA.row;have aK:=N.le;have aN:=T.out.2.2.2.2.2.2.2.2.1
  by_cases h5:i<ms.length
  ·obtain⟨m,M⟩:∃m,ms[i]?=some m:=⟨_,Xe h5⟩;have U:=N.ok m (XA M);rw[T.out.1] at U;have U:AZ nv nf nl C m:=U;obtain⟨g,cap,s,hv,hs,X,bZ,t0,t1,t2,t3,t4,t5⟩:=hA.at M;subst hv;obtain⟨Y,a1,Z,a3,V,a5,c0,c1,c2,c3,c4,c5⟩:=s;dsimp only at t0 t1 t2 t3 t4 t5;have ea:(i:Int)<(ms.length:Int):=by omega
   have cZ:Hid (XO ((i:Int)+1)=(i:Int)+1):=by
    have:=Ct (n:=i+1) (by omega)
    push_cast at this
    exact this
   have hd:Xm wr.heap.size wr wr.drew:=⟨rfl,rfl,rfl,Xd _,λ_ _=>rfl⟩;have aG:w.heap.size+1<=wr.heap.size:=by have:=N.bel.size;have:=HB.out.2.1;omega
   have HD:Hid (∀u,Xm wr.heap.size wr u->(u.cell? ⟨w.heap.size,0,none⟩=some (.slice x1 nv z1)/\u.cell? ⟨w.heap.size,1,none⟩=some (.slice x2 nf z2)/\u.cell? ⟨w.heap.size,2,none⟩=some (.slice x3 nl z3)/\u.cell? ⟨w.heap.size,3,none⟩=some (.slice x4 nt z4))/\u.cell? ⟨g,i*6,none⟩=some (.slice Y nv c0)/\u.cell? ⟨g,i*6+1,none⟩=some (.slice a1 nf c1)/\u.cell? ⟨g,i*6+2,none⟩=some (.slice Z nl c2)/\u.cell? ⟨g,i*6+3,none⟩=some (.slice a3 nt c3)/\u.cell? ⟨g,i*6+4,none⟩=some (.slice V nt c4)/\u.cell? ⟨g,i*6+5,none⟩=some (.slice a5 nr c5)):=λu c=>⟨b1.out u (N.bel.trans (c.mono aG)),(c.cell (p:=⟨g,i*6,none⟩) X).trans t0,(c.cell (p:=⟨g,i*6+1,none⟩) X).trans t1,(c.cell (p:=⟨g,i*6+2,none⟩) X).trans t2,(c.cell (p:=⟨g,i*6+3,none⟩) X).trans t3,(c.cell (p:=⟨g,i*6+4,none⟩) X).trans t4,(c.cell (p:=⟨g,i*6+5,none⟩) X).trans t5⟩
   have cm:=HR.out wr.drew ⟨Y,a1,Z,a3,V,a5,c0,c1,c2,c3,c4,c5⟩ m (N.bel.trans (hd.mono aG)) (bZ.keep (DL.below hd)) U;dsimp only at cm;obtain⟨A,ay⟩:∃A,AG C m=A:=⟨_,rfl⟩;rw[ay] at cm;have an:=T.out.2.2.2.2.2.1 m U;have aj:=T.out.2.2.2.2.1 m;rw[ay] at an aj;have dm:=Aa (HD.out wr.drew hd);obtain⟨H,G,E,F,I,J,b6⟩:=HD.out wr (Xq _ _);obtain⟨L,hL⟩:∃L,ms.length=L:=⟨_,rfl⟩;have HJ:=Aa (⟨hi,N,hn,aq,h5,M,U,aG,aK,aN,an,aj,ay,hL⟩:_/\_/\_/\_/\_/\_/\_/\_/\_/\_/\_/\_/\_/\_);rw[hL] at ea |-;clear hi N hn aq h5 M U aG aK aN an aj ay hL hA hs X bZ t0 t1 t2 t3 t4 t5 dK
   go_upto_region 8 with fail
   clear H G E F I J b6;refine Xx (S:=(λu=>(u.cell? ⟨w.heap.size,0,none⟩=some (.slice x1 nv z1)/\u.cell? ⟨w.heap.size,1,none⟩=some (.slice x2 nf z2)/\u.cell? ⟨w.heap.size,2,none⟩=some (.slice x3 nl z3)/\u.cell? ⟨w.heap.size,3,none⟩=some (.slice x4 nt z4))/\u.cell? ⟨g,i*6,none⟩=some (.slice Y nv c0)/\u.cell? ⟨g,i*6+1,none⟩=some (.slice a1 nf c1)/\u.cell? ⟨g,i*6+2,none⟩=some (.slice Z nl c2)/\u.cell? ⟨g,i*6+3,none⟩=some (.slice a3 nt c3)/\u.cell? ⟨g,i*6+4,none⟩=some (.slice V nt c4)/\u.cell? ⟨g,i*6+5,none⟩=some (.slice a5 nr c5))) (by kernel_rfl) dm.out (λy=>?_);refine tk 0 y ?_;refine tk 1 y ?_;refine tk 2 y ?_;refine tk 3 y ?_;refine tk 4 y ?_;refine rd 5 (λK z=>?_)
   go_simp
   go_at_call 33
   refine cm.mono ?_;rintro e d ⟨v,rfl,dw,aF⟩;replace aF:Xm wr.heap.size wr d:=hd.trans aF;have hq:=Aa (HD.out d aF);obtain⟨ra,rc,rfl,dM⟩:=Bf.of dw;have dL:=Aa (⟨_,_,dM⟩:EU d ra A);replace aF:=Aa aF;clear dw dM
   go_wp2_with fail
   refine z.out _ _ hq.out (λy=>?_);clear z K hq
   try simp only[Act.put,sq]
   refine tk 6 y ?_;refine Yd (by kernel_rfl) ?_ _;clear y dm cm hd;have dA:Hid (GT W (w.heap.size+1) (w.heap.size+1) ⟨nv,nf,nl,nt,nr⟩ p d (.slice (some ⟨g,0,none⟩) L cap) ms most):=by
    obtain⟨hi,N,hn,aq,h5,M,U,aG,aK,aN,an,aj,ay,hL⟩:=HJ.out;rw[hL] at N;exact N.below (by have:=HB.out.2.1;omega) aF.out
   rename Xh=>wq
   go_wp2_with fail
   go_loopw [8,11] (λav kv wr=>∃k:Nat,k<=A.length/\kv = .int .i64 k/\GT W (w.heap.size+1) (w.heap.size+1) ⟨nv,nf,nl,nt,nr⟩ p wr av (Fc p ms m A k) most/\EU wr ra A) (λ_ kv _=>A.length - (intOf kv).toNat)
   case atStart=>exact⟨0,Xw _,rfl,dA.out,dL.out⟩
   case round=>
    clear dA dL HD
    rename Xh=>d
    obtain⟨k,hk,rfl,O,am⟩:=hrel;obtain⟨S3,bA⟩:=O.all
    by_cases h6:k<A.length
    ·obtain⟨hi,N,hn,aq,h5,M,U,aG,aK,aN,an,aj,ay,hL⟩:=HJ.out;obtain⟨t,cl⟩:∃t,A[k]?=some t:=⟨_,Xe h6⟩;obtain⟨tn,rfl,cx⟩:=aj t U (XA cl);obtain⟨es,cb⟩:=aaX p ms m A k;have aD:(Fc p ms m A k)[i]?=some m:=by rw[cb,List.getElem?_append_left h5];exact M
     have R:=aaW (p:=p) (ms:=ms) (m:=m) cl;obtain⟨g,cap,s,hv,hs,X,bZ,t0,t1,t2,t3,t4,t5⟩:=bA.at aD;subst hv;obtain⟨Y,a1,Z,a3,V,a5,c0,c1,c2,c3,c4,c5⟩:=s;dsimp only at t0 t1 t2 t3 t4 t5;obtain⟨rb,ro,e1,dJ,cr⟩:=am.is k h6;subst e1;have dE:A.getD k 0=(tn:Int):=by rw[Xc,cl];rfl
     rw[dE] at cr;have ah:=HB.out.2.1;have ar:w.heap.size+1<=d.heap.size:=by have:=O.bel.size;omega
     have aT:Hid (∀u,Xm d.heap.size d u->(u.cell? ⟨w.heap.size,0,none⟩=some (.slice x1 nv z1)/\u.cell? ⟨w.heap.size,1,none⟩=some (.slice x2 nf z2)/\u.cell? ⟨w.heap.size,2,none⟩=some (.slice x3 nl z3)/\u.cell? ⟨w.heap.size,3,none⟩=some (.slice x4 nt z4))/\(u.cell? ⟨g,i*6,none⟩=some (.slice Y nv c0)/\u.cell? ⟨g,i*6+1,none⟩=some (.slice a1 nf c1)/\u.cell? ⟨g,i*6+2,none⟩=some (.slice Z nl c2)/\u.cell? ⟨g,i*6+3,none⟩=some (.slice a3 nt c3)/\u.cell? ⟨g,i*6+4,none⟩=some (.slice V nt c4)/\u.cell? ⟨g,i*6+5,none⟩=some (.slice a5 nr c5))/\u.cell? ⟨rb,ro+k,none⟩=some (.int .i64 (tn:Int))):=λu c=>⟨b1.out u (O.bel.trans (c.mono ar)),⟨(c.cell (p:=⟨g,i*6,none⟩) X).trans t0,(c.cell (p:=⟨g,i*6+1,none⟩) X).trans t1,(c.cell (p:=⟨g,i*6+2,none⟩) X).trans t2,(c.cell (p:=⟨g,i*6+3,none⟩) X).trans t3,(c.cell (p:=⟨g,i*6+4,none⟩) X).trans t4,(c.cell (p:=⟨g,i*6+5,none⟩) X).trans t5⟩,(c.cell (p:=⟨rb,ro+k,none⟩) dJ).trans cr⟩
     have cg:=Aa (λu (c:Xm d.heap.size d u)=>dd.out u ⟨Y,a1,Z,a3,V,a5,c0,c1,c2,c3,c4,c5⟩ m tn (O.bel.trans (c.mono ar)) (bZ.keep (DL.below c)) U cx);dsimp only at cg;obtain⟨m1,aL⟩:∃q,(Ay true C m tn).1=q:=⟨_,rfl⟩;obtain⟨e1,cX⟩:∃q,(Ay true C m tn).2=q:=⟨_,rfl⟩;simp only[aL,cX] at cg;have Q:=T.out.2.2.2.1 m tn U cx;rw[aL] at Q;rw[T.out.1,aL] at R;have hd:Xm d.heap.size d d.drew:=⟨rfl,rfl,rfl,Xd _,λ_ _=>rfl⟩;have cK:=Aa (aT.out d.drew hd);obtain⟨L3,ac⟩:∃x,(Fc p ms m A k).length=x:=⟨_,rfl⟩;have eu:(i:Int)<(L3:Int):=by have:=(Xf.1 aD).1;omega
     have et:(k:Int)<(A.length:Int):=by omega
     have ca:Hid (XO ((k:Int)+1)=(k:Int)+1):=by
      have:=Ct (n:=k+1) (by omega)
      push_cast at this
      exact this
     rw[ac] at O |-;obtain⟨⟨H,G,E,F⟩,⟨I,J,b6,b7,b8,b9⟩,ef⟩:=aT.out d (Xq _ _);have HN:=Aa (⟨O,am,R,Q,h6,ar,ac,aD⟩:_/\_/\_/\_/\_/\_/\_/\_);clear hi N hn aq h5 M U aG aK aN an aj ay hL cl cx cb aD R hs X bZ t0 t1 t2 t3 t4 t5 dJ cr dE ah ar aL cX Q ac O am bA h6 hk
     go_upto_region 12 with fail
     clear H G E F I J b6 b7 b8 b9 ef
     go_cut [12,13] (λp9 d7 wx=>∃sa se H G E F I J d0 d1 d2 d3 d4 d5,p9 = .pointer (some ⟨sa,0,none⟩)/\d7 = .pointer (some ⟨se,0,none⟩)/\wx.heap[sa]?=some (.cells #[.slice H nv d0,.slice G nf d1,.slice E nl d2,.slice F nt d3,.slice I nt d4,.slice J nr d5] 92)/\wx.heap[se]?=some (.cells #[.int .i64 e1.t,.int .i64 e1.k,.int .i64 e1.o,.int .i64 e1.v] 169)/\d.heap.size<=sa/\d.heap.size<=se/\(∃lo,d.heap.size<=lo/\∃p1 p2 p3 p4 p5 p6,Bh wx lo H G E F I J m1 p1 p2 p3 p4 p5 p6)/\Xm d.heap.size d wx)
     case first=>
      refine Xx (S:=(λu=>(u.cell? ⟨w.heap.size,0,none⟩=some (.slice x1 nv z1)/\u.cell? ⟨w.heap.size,1,none⟩=some (.slice x2 nf z2)/\u.cell? ⟨w.heap.size,2,none⟩=some (.slice x3 nl z3)/\u.cell? ⟨w.heap.size,3,none⟩=some (.slice x4 nt z4))/\(u.cell? ⟨g,i*6,none⟩=some (.slice Y nv c0)/\u.cell? ⟨g,i*6+1,none⟩=some (.slice a1 nf c1)/\u.cell? ⟨g,i*6+2,none⟩=some (.slice Z nl c2)/\u.cell? ⟨g,i*6+3,none⟩=some (.slice a3 nt c3)/\u.cell? ⟨g,i*6+4,none⟩=some (.slice V nt c4)/\u.cell? ⟨g,i*6+5,none⟩=some (.slice a5 nr c5))/\u.cell? ⟨rb,ro+k,none⟩=some (.int .i64 (tn:Int)))) (by kernel_rfl) cK.out (λy=>?_);obtain⟨v,hv⟩:∃v,d.drew=v:=⟨_,rfl⟩;have D:Hid (ZE d v none none false):=by rw[<-hv];exact⟨hd,λ_ e=>(by cases e),λ_ e=>(by cases e)⟩
      rw[hv] at y |-;clear hv hd cK;refine tk 0 y ?_;refine tk 1 y ?_;refine tk 2 y ?_;refine tk 3 y ?_;refine tk 4 y ?_;refine tk 5 y ?_;refine tk 6 y ?_;refine tk 7 y ?_;refine tk 8 y ?_
      iterate 3
       all_goals first
        |have h:Hid (ZE d v none none false):=D
         refine Zd (rs:=[9,13,14]) (by kernel_rfl) (by simp) (Yb rfl (λK z=>?_) (Yb rfl (λK z=>?_) (Yb rfl (λK z=>?_) Y4)))
         all_goals clear h
        |have h:Hid (ZE d v none none true):=D
         refine Zd (rs:=[13,14]) (by kernel_rfl) (by simp) (Yb rfl (λK z=>?_) (Yb rfl (λK z=>?_) Y4))
         all_goals clear h
        |have h:Hid (ZE d v (some _) none false):=D
         refine Zd (rs:=[9,14]) (by kernel_rfl) (by simp) (Yb rfl (λK z=>?_) (Yb rfl (λK z=>?_) Y4))
         all_goals clear h
        |have h:Hid (ZE d v none (some _) false):=D
         refine Zd (rs:=[9,13]) (by kernel_rfl) (by simp) (Yb rfl (λK z=>?_) (Yb rfl (λK z=>?_) Y4))
         all_goals clear h
        |have h:Hid (ZE d v (some _) (some _) false):=D
         refine rd 9 (λK z=>?_);clear h
        |have h:Hid (ZE d v none (some _) true):=D
         refine rd 13 (λK z=>?_);clear h
        |have h:Hid (ZE d v (some _) none true):=D
         refine rd 14 (λK z=>?_);clear h
       all_goals
        go_simp
        first
        |obtain⟨v,c⟩:∃u,v.alloc (.cells Z6 92)=u:=⟨_,rfl⟩
         rw[c];obtain⟨hZ,hb⟩:=D.out.al c;replace D:=Aa hZ
         try replace HW:=Aa (Qm HW.out hb)
         clear c hZ hb;refine z.out _ _ (aT.out v D.out.b) (λy=>?_);clear z K
         try simp only[Act.put,sq]
        |obtain⟨v,c⟩:∃u,v.alloc (.cells Z4 169)=u:=⟨_,rfl⟩
         rw[c];obtain⟨hZ,hb⟩:=D.out.ae c;replace D:=Aa hZ
         try replace HW:=Aa (Qm HW.out hb)
         clear c hZ hb;refine z.out _ _ (aT.out v D.out.b) (λy=>?_);clear z K
         try simp only[Act.put,sq]
        |go_at_call 69
         refine(cg.out _ D.out.b).mono ?_;rintro e v ⟨H,G,E,F,I,J,⟨d0,d1,d2,d3,d4,d5,rfl⟩,⟨lo,bl,bx⟩,-,hb⟩;have HW:Hid (RW d v H G E F I J m1):=⟨lo,Xu D.out.b.size bl,bx⟩;replace D:=Aa (D.out.go true hb);clear bl bx hb
         go_wp2_with fail
         refine z.out _ _ (aT.out v D.out.b) (λy=>?_);clear z K
         try simp only[Act.put,sq]
         refine tk 10 y ?_;refine tk 11 y ?_;refine tk 12 y ?_
      all_goals
       obtain⟨Z1,Z2,db,dv,aH,kE,HF⟩:=D.out.fin e1 d0 d1 d2 d3 d4 d5 HW.out (n0:=nv) (n1:=nf) (n2:=nl) (n3:=nt) (n4:=nt) (n5:=nr);refine rd 15 (λK z=>?_);refine Fq _ _ _ rfl _ 0 #[.slice H nv d0,.slice G nf d1,.slice E nl d2,.slice F nt d3,.slice I nt d4,.slice J nr d5] rfl rfl (Mx (D.out.a _ rfl).2) (λj _=>Ap (D.out.a _ rfl).2 _) Tryz.sizeSt Lk ?_;rw[db];refine z.out _ _ (aT.out Z1 aH.out) (λy=>?_);clear z K
       try simp only[Act.put,sq]
       refine rd 16 (λK z=>?_);refine Fq _ _ _ rfl _ 0 #[.int .i64 e1.t,.int .i64 e1.k,.int .i64 e1.o,.int .i64 e1.v] rfl rfl (PP kE) (λj _=>Ap kE _) Tryz.sizeRe Rq ?_;rw[dv];refine z.out _ _ (aT.out Z2 HF.out.2.2.2.2.2) (λy=>?_);clear z K
       try simp only[Act.put,sq]
       refine Yd (by kernel_rfl) ?_ _;clear y db dv aH kE D HW
       go_wp2_with fail
       go_meet
       exact⟨_,_,_,_,_,_,_,_,_,_,_,_,_,_,rfl,rfl,HF.out⟩
     case rest=>
      obtain⟨sa,se,H,G,E,F,I,J,d0,d1,d2,d3,d4,d5,rfl,rfl,kA,-,-,-,⟨lo,bl,p1,p2,p3,p4,p5,p6,bx⟩,cq⟩:=hcut;obtain⟨O,am,R,Q,h6,ar,ac,aD⟩:=HN.out;obtain⟨aR,bg,a0,bI,-,bX,bo,dY,a8,dS⟩:=T.out;have ah:=HB.out.2.1;have cG:Cl wc H G E F I J nv nf nl nt nr m1:=bx.doc Q.vl Q.fl Q.ll (Q.tl.trans dS) bo (afi Q);have aC:Dl wc ⟨H,G,E,F,I,J,d0,d1,d2,d3,d4,d5⟩ ⟨nv,nf,nl,nt,nr⟩ m1:=Dl.of bx cG;have a9:=O.below (by omega) cq;have bK:=cD.out wc H G E F I J d0 d1 d2 d3 d4 d5 m1 a9.bel cG Q;obtain⟨y0,y1,y2,y3⟩:=b1.out wc a9.bel;obtain⟨r0,r1,r2,r3,r4,r5⟩:=Br kA;have HC:=Aa (⟨a9,am.keep (DL.below cq),aC,kA⟩:_/\_/\_/\_);clear O am R Q h6 ar ac aD aR bg a0 bI bX bo dY a8 dS ah cG aC a9 bl bx cq kA aT cg cK
      go_wp2_with fail
      refine bK.mono ?_;rintro e w4 ⟨rfl,b2⟩;obtain⟨a9,dT,aC,kA⟩:=HC.out;obtain⟨O,am,R,Q,h6,ar,ac,aD⟩:=HN.out;have ah:=HB.out.2.1;have ao:=a9.below (by omega) b2;have a8:=T.out.2.2.2.2.2.2.2.2.1;have b0:=Ql (s:=Aj p m1) (T.out.2.1 _ Q) ao.seen (by have:=ao.bel.size;omega) (by rw[Xp];have:=ao.le;omega);have dp:=Aa (⟨ao,dT.keep (DL.below b2),aC.keep (DL.below b2),(b2.block sa (Xa.1 kA).1).trans kA⟩:_/\_/\_/\_);clear a9 dT aC kA O am R Q h6 ar ac aD ah ao a8 b2 bK HC y0 y1 y2 y3 r0 r1 r2 r3 r4 r5
      go_wp2_with fail
      refine b0.mono ?_;rintro e w5 ⟨rfl,aP,ap⟩;obtain⟨ao,ce,hdt4,bO⟩:=dp.out;obtain⟨O,am,R,Q,h6,ar,ac,aD⟩:=HN.out;obtain⟨S4,cc⟩:=ao.all;have bi:=cc.keepN ap;have bJ:=ce.keep ap.Lw;have ch:=hdt4.keep ap.Lw;have cj:=(ap.other _ _ _ bO (by decide) (by decide) (by decide)).trans bO;have aX:=ao.bel.trans ap.bel;have ah:=HB.out.2.1;have a8:=T.out.2.2.2.2.2.2.2.2.1;have bR:=ao.le;have bM:=ao.ok;obtain⟨ky,bE⟩:∃x,Aj p m1=x:=⟨_,rfl⟩;obtain⟨kl,aQ⟩:∃x,(Fc p ms m A k).map (Aj p)=x:=⟨_,rfl⟩;unfold DV at R;rw[bE,aQ] at aP R |-;clear b0 dp
      by_cases a6:ky∈kl
      ·have bw:decide (ky∉kl)=false:=decide_eq_false (λq=>q a6);rw[bw];rw[if_pos a6] at aP R;have HX:Hid (k+1<=A.length/\GT W (w.heap.size+1) (w.heap.size+1) ⟨nv,nf,nl,nt,nr⟩ p w5 (.slice (some ⟨g,0,none⟩) L3 cap) (Fc p ms m A (k+1)) most/\EU w5 (some ⟨rb,ro,none⟩) A):=by
        rw[R]
        exact⟨h6,⟨⟨S4,bi⟩,by rw[aQ];exact aP,aX,bR,bM⟩,bJ⟩
       clear ao ce hdt4 bO O am R Q h6 ar ac aD cc bi bJ ch cj aX ah a8 bR bM bE aQ a6 bw aP ap
       go_wp2_with fail
       go_roundw
       case rel=>
        (try rw[ca.out])
        exact⟨k+1,HX.out.1,rfl,HX.out.2.1,HX.out.2.2⟩
       case measure=>
        (try rw[ca.out])
        exact Xl HX.out.1 (Xn k)
      ·have bw:decide (ky∉kl)=true:=decide_eq_true a6;rw[bw];rw[if_neg a6] at aP R
       by_cases da:L3=most
       ·have HF:Hid (Ow w ⟨nv,nf,nl,nt,nr⟩ p most (.returned (.tuple #[.slice none 0 0,.bool false])) w5):=by
         obtain⟨hi,N,hn,aq,h5,M,U,aG,aK,aN,an,aj,ay,hL⟩:=HJ.out;have hrl':AG p.C m=A:=by rw[T.out.1];exact ay
         have cQ:=aaY (p:=p) (ms:=ms) hrl' (k+1);rw[R,Xb,ac] at cQ;have cQ:L3+1<=(DI (Aj p) (BC true p.C) ms m).length:=cQ
         exact⟨HB.out.2.2.1 w5 aX,.inl ⟨b3.out.trans (adU M (by omega) aq),rfl⟩⟩
        subst da;clear ao ce hdt4 bO O am R Q h6 ar ac aD cc bi bJ ch cj aX ah a8 bR bM bE aQ a6 bw aP ap
        go_wp2_with fail
        refine XJ (results_tmp2 rfl _ _ _) rfl ?_;exact HF.out
       ·have eB:((L3:Int) == (most:Int))=false:=by simp only[beq_eq_false_iff_ne];omega
        obtain⟨r0,r1,r2,r3,r4,r5⟩:=Br cj;rw[ac] at bR;have ee:=bi;obtain⟨g6,en,w6,cv,cy,dR,cu⟩:=bi.push (by have:=aX.size;omega) ch (by omega);rw[ac] at cv cy;dsimp only at cv;have HX:Hid (k+1<=A.length/\GT W (w.heap.size+1) (w.heap.size+1) ⟨nv,nf,nl,nt,nr⟩ p w6 (.slice (some ⟨g6,0,none⟩) (L3+1) en) (Fc p ms m A (k+1)) most/\EU w6 (some ⟨rb,ro,none⟩) A):=by
         rw[R];refine⟨h6,⟨⟨_,cy⟩,?_,aX.trans dR,?_,λx hx=>?_⟩,bJ.keep λb cs e=>cu b cs _ e (by decide)⟩
         ·rw[List.map_append,aQ];show Fm w6 _ _ (kl++[Aj p m1]);rw[bE];exact aP.keep cu
         ·rw[Xb,ac];show L3+1<=most;omega
         ·rcases List.mem_append.1 hx with hx|hx
          ·exact bM x hx
          ·rw[XT.1 hx,T.out.1];exact Q
        clear ao ce hdt4 bO O am R Q h6 ar ac aD cc bi bJ ch cj aX ah a8 bR bM bE aQ a6 bw aP ap cy dR cu ee da
        go_wp2_with (at_builtin;refine Dm rfl _ _ _ rfl rfl rfl rfl cv ?_)
        go_roundw
        case rel=>
         (try rw[ca.out])
         exact⟨k+1,HX.out.1,rfl,HX.out.2.1,HX.out.2.2⟩
        case measure=>
         (try rw[ca.out])
         exact Xl HX.out.1 (Xn k)
    ·obtain⟨hi,N,hn,aq,h5,M,U,aG,aK,aN,an,aj,ay,hL⟩:=HJ.out;have aQ:k=A.length:=by omega
     have hrl':AG p.C m=A:=by rw[T.out.1];exact ay
     have dQ:=Lj (p:=p) (ms:=ms) hrl' (k:=k) (by omega);rw[dQ] at O bA;obtain⟨fa,fc,d8⟩:=At bA.row;subst d8;have HX:Hid (i+1<=most/\i+1<=(DI (Aj p) (BC true p.C) ms m).length/\GT W (w.heap.size+1) (w.heap.size+1) ⟨nv,nf,nl,nt,nr⟩ p d (.slice fa (DI (Aj p) (BC true p.C) ms m).length fc) (DI (Aj p) (BC true p.C) ms m) most/\n - 1+(i+1)=most+1/\Cr (Aj p) (BC true p.C) most (n - 1) (DI (Aj p) (BC true p.C) ms m) (i+1)=res):=by
      obtain⟨es,cb⟩:=ade (key:=Aj p) (succ:=BC true p.C) ms m;have eA:ms.length<=(DI (Aj p) (BC true p.C) ms m).length:=by rw[cb,Xb];exact Nat.le_add_right _ _
      refine⟨by omega,by omega,O,by omega,adT (by omega) M O.le aq⟩
     subst aQ;clear hi N hn aq h5 M U aG aK aN an aj ay hL hrl' dQ O bA am h6 hk
     go_wp2_with fail
     go_roundw
     case rel=>
      (try rw[cZ.out])
      exact⟨i+1,n - 1,_,HX.out.2.1,rfl,HX.out.2.2.1,HX.out.2.2.2.1,HX.out.2.2.2.2⟩
     case measure=>
      (try rw[cZ.out])
      exact Xl HX.out.1 (Xn i)
  ·have dP:i=ms.length:=by omega
   have dc:0<n:=by omega
   rw[dP] at aq;have hR:=adV dc aq;subst dK;have ah:=HB.out.2.1;have HF:Hid (Ow w ⟨nv,nf,nl,nt,nr⟩ p most (.returned (.tuple #[.slice va ms.length ej,.bool true])) wr):=⟨HB.out.2.2.1 wr N.bel,.inr ⟨ms,_,S,b3.out.trans hR,rfl,⟨Dt hA.row (by omega),hA.len,hA.doc⟩,N.le,N.ok⟩⟩;subst dP;clear hi N hn aq h5 aK aN hA hR dc ah
   go_wp2_with fail
   refine XJ (results_tmp2 rfl _ _ _) rfl ?_;exact HF.out
end
theorem Sv {l:List Tx} (x:Tx) (h:l≠[]):YI (l++[x]) [32]=YI l [32]++[32]++x:=by
 cases l with
 |nil=>exact absurd rfl h
 |cons y r=>
  rw[List.cons_append,Lib.join_cons,Lib.join_cons];simp[Lib.joinTail,List.append_assoc]
theorem aco {l:List Tx} {x:Tx} (h:l[0]?=some x):YI (l.take 1) [32]=x:=by
 rw[Yh,h];simp[Lib.join_one]
theorem acn {l:List Tx} {i:Nat} {x:Tx} (a:0<i) (h:l[i]?=some x):YI (l.take (i+1)) [32]=YI (l.take i) [32]++[32]++x:=by
 rw[Yh,h];refine Sv x (λe=>?_);have b:=(Xf.1 h).1;have:=congrArg List.length e;rw[List.length_take,List.length_nil] at this
 omega
theorem Sx {l:List Tx} (h:∀x,x∈l->x≠[]) (a:l≠[]):YI l [32]≠[]:=by
 cases l with
 |nil=>exact absurd rfl a
 |cons y r=>
  rw[Lib.join_cons];intro e;exact h y (by simp) (List.append_eq_nil_iff.1 e).1
theorem ac8 {m:MS} {t:Nat} (a:t<m.thr.length) (h:(m.th t).ph=1):0<Au m:=by
 unfold Au;refine List.countP_pos_iff.2 ⟨m.thr.getD t AC,CL a,?_⟩;have h:(m.thr.getD t AC).ph=1:=h;rw[h];rfl
theorem ac7 {m:MS} (h:∀t,t<m.thr.length->(m.th t).ph≠1):Au m=0:=by
 unfold Au;refine List.countP_eq_zero.2 λth b=>?_;obtain⟨j,a⟩:=List.mem_iff_getElem?.1 b;have c:=(Xf.1 a).1;have:=h j c;have e:m.th j=th:=by unfold MS.th;rw[Xc,a];rfl
 rw[e] at this
 simpa using this
theorem Qr {w:Xh} {o y p v c a5:Option YZ} {nv nf nl nt nr:Nat} {m:MS} {c0 c1 c2 c3 c4 c5:Nat} (h:Cl w o y p v c a5 nv nf nl nt nr m) (D:nt<=4) :
 XX Tryz.prog 34 #[.agg #[.slice o nv c0,.slice y nf c1,.slice p nl c2,.slice v nt c3,.slice c nt c4,.slice a5 nr c5]] w λe w'=>e = .returned (.bool (decide (0<Au m)))/\Xm w.heap.size w w':=by
 obtain⟨W,a⟩:∃W,w.alloc (.cells #[.slice o nv c0,.slice y nf c1,.slice p nl c2,.slice v nt c3,.slice c nt c4,.slice a5 nr c5] 92)=W:=⟨_,rfl⟩;have E:Xm w.heap.size w W:=by rw[<-a];exact(Xq _ _).alloc (Xd _) _
 have F:W.heap[w.heap.size]?=some (.cells #[.slice o nv c0,.slice y nf c1,.slice p nl c2,.slice v nt c3,.slice c nt c4,.slice a5 nr c5] 92):=by rw[<-a];exact Xi w _
 obtain⟨Z,u⟩:∃x,w.heap.size=x:=⟨_,rfl⟩;have S:W.cell? ⟨Z,4,none⟩=some (.slice c nt c4):=by rw[<-u];simp[World.cell?,F]
 have q:m.thr.length=nt:=h.lt;have l:Hid (∀i,i<nt->∃b g,c=some ⟨b,g,none⟩/\W.cell? ⟨b,g+i,none⟩=some (.int .i64 (m.th i).ph)):=λi n=>by
  obtain⟨b,g,K,R,I⟩:=(h.below E).s i (by rw[FL];omega);rw[Jf m (by omega)] at I
  exact⟨b,g,K,I⟩
 have G:=Aa E;replace a:=Aa a;replace u:=Aa u;replace q:=Aa q;replace D:=Aa D;clear h E F
 go_enter Tryz.func34,Tryz.ntmps34
 go_upto_region 1 with fail
 rw[a.out,u.out];clear a
 go_wp2_with fail
 go_loopw [3] (λA wr=>∃i:Nat,i<=nt/\A = .int .i64 i/\(∀j,j<i->(m.th j).ph≠1)/\wr=W) (λA _=>nt - (intOf A).toNat)
 case atStart=>exact⟨0,Xw _,rfl,(λj J=>absurd J (Nat.not_lt_zero j)),rfl⟩
 case round=>
  obtain⟨i,n,rfl,d,rfl⟩:=hrel
  by_cases f:i<nt
  ·obtain⟨b,g,rfl,N⟩:=l.out i f;have Q:(i:Int)<(nt:Int):=by omega
   have H:XO ((i:Int)+1)=(i:Int)+1:=by have:=D.out;unfold XO;omega
   obtain⟨x,k⟩:∃x,(m.th i).ph=x:=⟨_,rfl⟩;rw[k] at N
   by_cases r:x=1
   ·subst r;have C:Hid (decide (0<Au m)=true):=decide_eq_true (ac8 (by rw[q.out];exact f) k);clear d n l k
    go_wp2_with fail
    go_ret
    rw[C.out]
    exact⟨rfl,G.out⟩
   ·have P:(x == 1)=false:=by simpa using r
    have B:Hid (i+1<=nt/\∀j,j<i+1->(m.th j).ph≠1):=⟨f,λj J=>by
     by_cases z:j=i
     ·rw[z,k];exact r
     ·exact d j (by omega)⟩
    clear d n l k f r
    go_wp2_with fail
    go_roundw
    case rel=>
     (try rw[H])
     exact⟨i+1,B.out.1,rfl,B.out.2,by first|rfl|trivial⟩
    case measure=>
     (try rw[H])
     exact Xl B.out.1 (Xn i)
  ·have M:i=nt:=by omega
   have C:Hid (decide (0<Au m)=false):=decide_eq_false (by rw[ac7 (λt O=>d t (by rw[q.out] at O;omega))];exact Nat.lt_irrefl _);subst M;clear d n l f
   go_wp2_with fail
   go_ret
   rw[C.out]
   exact⟨rfl,G.out⟩
end Go.Proofs.YtdcacoifehkioaaGreatDoor
