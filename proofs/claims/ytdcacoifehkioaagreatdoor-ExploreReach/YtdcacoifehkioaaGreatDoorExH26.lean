import Derived.Test.YtdcacoifehkioaaGreatDoorExH3
import Derived.Test.YtdcacoifehkioaaGreatDoorExH25
import Derived.Test.YtdcacoifehkioaaGreatDoorExH24
import Derived.Test.YtdcacoifehkioaaGreatDoorExH19
open Go renaming World->Xh,Addr->YZ,Value->Xk
open Bool renaming eq_iff_iff->YH,eq_false_iff->Z3
open Nat renaming le_refl->Xd,zero_add->XE,sub_self->YK
open List renaming mem_cons->XR,not_mem_nil->X8,length_set->Yc,getElem?_append_left->Xz,getElem?_append_right->XD,getElem?_eq_some_iff->Xf,length_append->Xb
open Array renaming getElem?_eq_some_iff->Xa
set_option maxRecDepth 100000
set_option maxHeartbeats 2000000
set_option linter.unusedVariables false
set_option linter.unusedSimpArgs false
namespace Go.Proofs.YtdcacoifehkioaaGreatDoor
open Go.RowKit Go.Shelf Go.Proofs.Cod
section
variable {w w':Xh} {a0 a1 a2 a3 a4 a5:Option YZ} {nv nf nl nt nr:Nat} {m:MS}
theorem adI {c0 c1 c2 c3 c4 c5:Nat} (h:Cl w a0 a1 a2 a3 a4 a5 nv nf nl nt nr m) (z:nt<=4) {t:Nat} (C:t<nt) {x:Ad} (j:XB nv nf nl nt x) (ln:Int) (wd:Tx) :
 Calls Tryz.prog 130 #[.agg #[.slice a0 nv c0,.slice a1 nf c1,.slice a2 nl c2,.slice a3 nt c3,.slice a4 nt c4,.slice a5 nr c5],.int .i64 t,.agg (Dq x ln wd)] w λe w'=>e = .returned (.bool (Gk m t x))/\Below w.heap.size w w':=by
 obtain⟨W,g⟩:∃W,(w.alloc (.cells #[.slice a0 nv c0,.slice a1 nf c1,.slice a2 nl c2,.slice a3 nt c3,.slice a4 nt c4,.slice a5 nr c5] 92)).alloc (.cells (Dq x ln wd) 177)=W:=⟨_,rfl⟩;obtain⟨s,E,o,U⟩:=FK _ _ _ g;have H:=Aa s;unfold Dq at o g |-;obtain⟨i0,-,i2,T,R,Q,i6,-,-⟩:=DA o;obtain⟨I,O,s2,Y,P,N⟩:=Br E;obtain⟨n,F⟩:∃n:Nat,x.x=n:=⟨x.x.toNat,by have:=j.x0;omega⟩;have G:x.x.toNat=n:=by omega
 have q:=h.below s
 by_cases d:x.op=CI
 ·have am:n<m.locks.length:=by rw[h.ll];have:=j.lk (.inr d);omega
  have aF:(n:Int)<(nl:Int):=by have:=h.ll;omega
  obtain⟨lb,lo,eA,-,hc⟩:=Km q.l am;subst eA;have i:Gk m t x=(m.locks.getD n 0 != (t:Int)):=by unfold Gk;rw[if_pos d,G,YH];simp
  rw[i];generalize m.locks.getD n 0=v at *;obtain⟨op,r,aR,aN,bR,bN,y⟩:=x;have F:y=n:=F;subst F;have d:op=CI:=d;subst d;dsimp only at *;clear j q h E o U s i G am C z I O Y P N i2 T R Q;unfold CI bs at *
  go_enter Tryz.func130,Tryz.ntmps130
  go_upto_region 1 with fail
  try rw[g]
  clear g
  go_wp2_with fail
  go_ret
  exact⟨rfl,H.out⟩
 ·by_cases k:x.op=Dh
  ·have i:Gk m t x=(Af (m.th t) x.aR x.aN != Af (m.th t) x.bR x.bN):=by unfold Gk;rw[if_neg d,if_pos k,YH];simp
   rw[i];have V:=Aa (λu (f:Below W.heap.size W u)=>KP (c0:=c0) (c1:=c1) (c2:=c2) (c3:=c3) (c4:=c4) (c5:=c5) (q.below f) z C j.a);have V2:=Aa (λu (f:Below W.heap.size W u)=>KP (c0:=c0) (c1:=c1) (c2:=c2) (c3:=c3) (c4:=c4) (c5:=c5) (q.below f) z C j.b);obtain⟨v,hv⟩:∃v,Af (m.th t) x.aR x.aN=v:=⟨_,rfl⟩;obtain⟨u,f⟩:∃u,Af (m.th t) x.bR x.bN=u:=⟨_,rfl⟩;simp only[hv,f] at V V2 |-;have Z:Hid (∀u,Below W.heap.size W u->(u.cell? ⟨w.heap.size,0,none⟩=some (.slice a0 nv c0)/\u.cell? ⟨w.heap.size,1,none⟩=some (.slice a1 nf c1)/\u.cell? ⟨w.heap.size,2,none⟩=some (.slice a2 nl c2)/\u.cell? ⟨w.heap.size,3,none⟩=some (.slice a3 nt c3)/\u.cell? ⟨w.heap.size,4,none⟩=some (.slice a4 nt c4)/\u.cell? ⟨w.heap.size,5,none⟩=some (.slice a5 nr c5))/\u.cell? ⟨w.heap.size+1,2,none⟩=some (.bool x.aR)/\u.cell? ⟨w.heap.size+1,3,none⟩=some (.int .i64 x.aN)/\u.cell? ⟨w.heap.size+1,4,none⟩=some (.bool x.bR)/\u.cell? ⟨w.heap.size+1,5,none⟩=some (.int .i64 x.bN)):=λu f=>by
    obtain⟨-,-,j2,j3,j4,j5,-,-,-⟩:=DA ((f.block _ (by omega)).trans o)
    exact⟨Br ((f.block _ (by omega)).trans E),j2,j3,j4,j5⟩
   have J:Below W.heap.size W W.drew:=⟨rfl,rfl,rfl,Xd _,λ_ _=>rfl⟩;have ao:(⟨x.op,x.r,x.aR,x.aN,x.bR,x.bN,x.x⟩:Ad)=x:=rfl;have az:W.cell? ⟨w.heap.size+1,0,none⟩=some (.string (bs Dh)):=by rw[i0,k]
   have g0:((bs Dh).toList == CI)=false:=by rw[AK];rfl
   clear j q h E o U s i G C z I O s2 Y P N i0 i2 T R Q i6 d ao hv f F;rw[k] at g |-;clear k;unfold Dh bs at *
   go_enter Tryz.func130,Tryz.ntmps130
   go_upto_region 1 with fail
   try rw[g]
   clear g
   go_wp2_with fail
   refine wp_region_held_drew (S:=(λu=>(u.cell? ⟨w.heap.size,0,none⟩=some (.slice a0 nv c0)/\u.cell? ⟨w.heap.size,1,none⟩=some (.slice a1 nf c1)/\u.cell? ⟨w.heap.size,2,none⟩=some (.slice a2 nl c2)/\u.cell? ⟨w.heap.size,3,none⟩=some (.slice a3 nt c3)/\u.cell? ⟨w.heap.size,4,none⟩=some (.slice a4 nt c4)/\u.cell? ⟨w.heap.size,5,none⟩=some (.slice a5 nr c5))/\u.cell? ⟨w.heap.size+1,2,none⟩=some (.bool x.aR)/\u.cell? ⟨w.heap.size+1,3,none⟩=some (.int .i64 x.aN)/\u.cell? ⟨w.heap.size+1,4,none⟩=some (.bool x.bR)/\u.cell? ⟨w.heap.size+1,5,none⟩=some (.int .i64 x.bN))) (by kernel_rfl) (Z.out _ J) (λc=>?_);refine tk 0 c ?_;refine tk 1 c ?_;refine tk 2 c ?_;refine tk 3 c ?_;refine tk 5 c ?_;refine tk 6 c ?_;refine tk 7 c ?_;refine tk 8 c ?_;refine rd 4 (λK B=>?_)
   go_simp
   go_at_call 132
   refine(V.out _ J).mono ?_;rintro e1 X ⟨rfl,p⟩;replace p:Below W.heap.size W X:=J.trans p;have V3:=V2.out X p;have M:=Aa p;have D:=Aa (Z.out X p);clear p
   go_wp2_with fail
   refine B.out _ _ D.out (λc=>?_);clear B K D
   try simp only[Act.put,sq]
   refine rd 9 (λK B=>?_)
   go_simp
   go_at_call 132
   refine V3.mono ?_;rintro e2 u2 ⟨rfl,A⟩;replace A:Below W.heap.size W u2:=M.out.trans (A.mono M.out.size);have HF:=Aa (H.out.trans (A.mono H.out.size));have D:=Aa (Z.out u2 A);clear A V3 M
   go_wp2_with fail
   refine B.out _ _ D.out (λc=>?_);clear B K D
   try simp only[Act.put,sq]
   refine tk 10 c ?_;refine tk 11 c ?_;refine wpAnyH_done (by kernel_rfl) ?_ _;clear c
   go_wp2_with fail
   go_ret
   exact⟨rfl,HF.out⟩
  ·have i:Gk m t x=false:=by unfold Gk;rw[if_neg d,if_neg k]
   rw[i];have f0:((bs x.op).toList == CI)=false:=by rw[AK];exact Z3.2 (by simpa using d)
   have f1:((bs x.op).toList == Dh)=false:=by rw[AK];exact Z3.2 (by simpa using k)
   unfold CI at f0;unfold Dh at f1;clear j q h E o U s i G C z I O s2 Y P N i2 T R Q i6 d k F
   go_enter Tryz.func130,Tryz.ntmps130
   go_upto_region 1 with fail
   try rw[g]
   clear g
   go_wp2_with fail
   go_ret
   exact⟨rfl,H.out⟩
end
theorem Tryz.sizeRe:(Tryz.prog.info? 169).map (·.size)=some 4:=by kernel_rfl
theorem OZ {w:Xh} {fn:Func} {tmps:Array Xk} {b c:Nat} {j e k h d v5 f g a i:Xk} (l:fn.results = #[.cell 6 92,.cell 7 169]) (q:tmps[6]?=some (.pointer (some ⟨b,0,none⟩))) (r:tmps[7]?=some (.pointer (some ⟨c,0,none⟩))) (m:w.heap[b]?=some (.cells #[j,e,k,h,d,v5] 92)) (n:w.heap[c]?=some (.cells #[f,g,a,i] 169)):(results fn tmps).run Tryz.prog w = .ok (.tuple #[.agg #[j,e,k,h,d,v5],.agg #[f,g,a,i]]) w:=by
 obtain⟨c0,c1,c2,c3,c4,c5⟩:=Br m;obtain⟨t,s,p,o⟩:=BK n;simp[results,l,q,r,go_sem,c0,c1,c2,c3,c4,c5,t,s,p,o]
theorem Rq {a b c d:Int}:∀v∈(#[Value.int .i64 a,.int .i64 b,.int .i64 c,.int .i64 d]:Array Xk).toList,v.oneCell'=true:=by
 intro v e;simp only[XR,X8,or_false] at e
 rcases e with rfl|rfl|rfl|rfl<;>rfl
theorem Mx {W:Xh} {g T:Nat} {m k o n f v5:Xk} (h:W.heap[g]?=some (.cells #[m,k,o,n,f,v5] T)):∀j,j<6->(W.cell? ⟨g,0+j,none⟩).isSome=true:=λj c=>by
 obtain⟨e,d,b,l,i,a⟩:=Br h
 match j,c with
 |0,_=>rw[XE,e];rfl
 |1,_=>rw[XE,d];rfl
 |2,_=>rw[XE,b];rfl
 |3,_=>rw[XE,l];rfl
 |4,_=>rw[XE,i];rfl
 |5,_=>rw[XE,a];rfl
theorem PP {W:Xh} {g T:Nat} {i e l k:Xk} (h:W.heap[g]?=some (.cells #[i,e,l,k] T)):∀j,j<4->(W.cell? ⟨g,0+j,none⟩).isSome=true:=λj b=>by
 obtain⟨d,c,a,f⟩:=BK h
 match j,b with
 |0,_=>rw[XE,d];rfl
 |1,_=>rw[XE,c];rfl
 |2,_=>rw[XE,a];rfl
 |3,_=>rw[XE,f];rfl
theorem NV {W:Xh} {g h T U:Nat} {B C A G D H t u s r:Xk} (d b f a c a5 l i o m:Xk) (x:W.heap[g]?=some (.cells #[B,C,A,G,D,H] T)) (z:W.heap[h]?=some (.cells #[t,u,s,r] U)) (v:g≠h) :
 ∃n j,W.setCells g 0 [d,b,f,a,c,a5]=n/\n.setCells h 0 [l,i,o,m]=j/\Ac (λk=>k=g\/k=h) W n/\Ac (λk=>k=g\/k=h) W j/\n.heap[h]?=some (.cells #[t,u,s,r] U)/\j.heap[g]?=some (.cells #[d,b,f,a,c,a5] T)/\j.heap[h]?=some (.cells #[l,i,o,m] U):=by
 have p:Ac (λk=>k=g) W (W.setCells g 0 [d,b,f,a,c,a5]):=Fa _ 0 (Ac.refl W) (.inl rfl);have y:Ac (λk=>k=h) (W.setCells g 0 [d,b,f,a,c,a5]) ((W.setCells g 0 [d,b,f,a,c,a5]).setCells h 0 [l,i,o,m]):=Fa _ 0 (Ac.refl _) (.inl rfl);have I:=(Xa.1 x).1;have E:=(Xa.1 z).1;have w:(W.setCells g 0 [d,b,f,a,c,a5]).heap[h]?=some (.cells #[t,u,s,r] U):=(p.block h E (λq=>v q.symm)).trans z;have F:(W.setCells g 0 [d,b,f,a,c,a5]).heap[g]?=some (.cells #[d,b,f,a,c,a5] T):=JP d b f a c a5 x;have z1:=p.size
 exact⟨_,_,rfl,rfl,p.mono λk _ e=>.inl e,(p.mono λk _ e=>.inl e).trans (y.mono λk _ e=>.inr e),w,(y.block g (by omega) v).trans F,GK l i o m w⟩
theorem adD {W:Xh} {g h T U:Nat} {u v t A x B q s p o:Xk} (l f m d i a5 e c n j:Xk) (z:W.heap[g]?=some (.cells #[u,v,t,A,x,B] T)) (C:W.heap[h]?=some (.cells #[q,s,p,o] U)) (w:g≠h) :
 ∃b a,((((((W.setCell ⟨g,0,none⟩ l).setCell ⟨g,1,none⟩ f).setCell ⟨g,2,none⟩ m).setCell ⟨g,3,none⟩ d).setCell ⟨g,4,none⟩ i).setCell ⟨g,5,none⟩ a5)=b/\((((b.setCell ⟨h,0,none⟩ e).setCell ⟨h,1,none⟩ c).setCell ⟨h,2,none⟩ n).setCell ⟨h,3,none⟩ j)=a/\Ac (λk=>k=g\/k=h) W b/\Ac (λk=>k=g\/k=h) W a/\b.heap[h]?=some (.cells #[q,s,p,o] U)/\a.heap[g]?=some (.cells #[l,f,m,d,i,a5] T)/\a.heap[h]?=some (.cells #[e,c,n,j] U):=by
 obtain⟨b,a,y,D,r⟩:=NV l f m d i a5 e c n j z C w
 exact⟨b,a,y,D,r⟩
section
variable {m:MS} {t:Nat} {x:Ad}
theorem Kb {y:TS} (h:R4 m) (a:y.regs.length=4) (n:Nat):R4 (m.Ae n y):=λth b=>by
 rcases List.mem_or_eq_of_mem_set b with q|q
 ·exact h th q
 ·rw[q];exact a
theorem Ka (h:R4 m) (t:Nat):(m.th t).regs.length=4:=by
 unfold MS.th;rw[List.getD_eq_getElem?_getD]
 cases q:m.thr[t]? with
 |none=>rfl
 |some y=>exact h y (List.mem_of_getElem? q)
theorem Ga (m:MS) (n:Nat) (y:TS):(m.Ae n y).thr.length=m.thr.length:=by unfold MS.Ae;rw[Yc]
structure Uj (m m1:MS):Prop where
 v:m1.vars.length=m.vars.length
 f:m1.flags.length=m.flags.length
 l:m1.locks.length=m.locks.length
 t:m1.thr.length=m.thr.length
 r:R4 m1
theorem Vt (a:R4 m):Uj m (Av m t x).1:=by
 have j:=Ka a t;have b:∀v,R4 (m.Ae t {m.th t with regs:=(m.th t).regs.set x.r.toNat v}):=λv=>Kb a (by show ((m.th t).regs.set x.r.toNat v).length=4;rw[Yc];exact j) t;unfold Av;dsimp only
 by_cases c0:x.op=Eo
 ·rw[if_pos c0];exact⟨rfl,rfl,rfl,Ga _ _ _,b _⟩
 rw[if_neg c0]
 by_cases c1:x.op=Er
 ·rw[if_pos c1];exact⟨rfl,rfl,rfl,Ga _ _ _,b _⟩
 rw[if_neg c1]
 by_cases c2:x.op=En
 ·rw[if_pos c2];exact⟨rfl,rfl,rfl,Ga _ _ _,b _⟩
 rw[if_neg c2]
 by_cases c3:x.op=Ep
 ·rw[if_pos c3];exact⟨rfl,rfl,rfl,Ga _ _ _,b _⟩
 rw[if_neg c3]
 by_cases c4:x.op=Bu
 ·rw[if_pos c4];exact⟨rfl,rfl,rfl,Ga _ _ _,b _⟩
 rw[if_neg c4]
 by_cases c5:x.op=AM
 ·rw[if_pos c5];exact⟨Yc,rfl,rfl,rfl,a⟩
 rw[if_neg c5]
 by_cases i:x.op=Ec
 ·rw[if_pos i];exact⟨rfl,rfl,rfl,Ga _ _ _,b _⟩
 rw[if_neg i]
 by_cases f:x.op=Eb
 ·rw[if_pos f];exact⟨rfl,Yc,rfl,rfl,a⟩
 rw[if_neg f]
 by_cases g:x.op=BP
 ·rw[if_pos g];exact⟨rfl,rfl,Yc,rfl,a⟩
 rw[if_neg g]
 by_cases d:x.op=CI
 ·rw[if_pos d];exact⟨rfl,rfl,Yc,rfl,a⟩
 rw[if_neg d]
 by_cases c:x.op=BJ
 ·rw[if_pos c];exact⟨rfl,rfl,rfl,Ga _ _ _,Kb (y:={m.th x.x.toNat with ph:=1}) a (Ka a x.x.toNat) _⟩
 rw[if_neg c]
 by_cases h:x.op=BQ
 ·rw[if_pos h];exact⟨rfl,rfl,rfl,rfl,a⟩
 rw[if_neg h]
 by_cases e:x.op=Eq
 ·rw[if_pos e];exact⟨rfl,rfl,rfl,Ga _ _ _,Kb (y:={m.th t with ph:=2}) a (Ka a t) _⟩
 rw[if_neg e]
 exact⟨rfl,rfl,rfl,rfl,a⟩
theorem ac2 {m1:MS} (a:R4 m1) (pc:Nat):Uj m1 (EG m1 t pc):=⟨rfl,rfl,rfl,Ga _ _ _,Kb (y:={m1.th t with pc:=pc}) a (Ka a t) _⟩
end
structure S6 where
 a0:Option YZ
 a1:Option YZ
 a2:Option YZ
 a3:Option YZ
 a4:Option YZ
 a5:Option YZ
 c0:Nat
 c1:Nat
 c2:Nat
 c3:Nat
 c4:Nat
 c5:Nat
structure D5 where
 nv:Nat
 nf:Nat
 nl:Nat
 nt:Nat
 nr:Nat
def S6.L (s:S6) (d:D5):List Xk:=[.slice s.a0 d.nv s.c0,.slice s.a1 d.nf s.c1,.slice s.a2 d.nl s.c2,.slice s.a3 d.nt s.c3,.slice s.a4 d.nt s.c4,.slice s.a5 d.nr s.c5]
theorem S6.len (s:S6) (d:D5):(s.L d).length=6:=rfl
def EU (w:Xh) (a:Option YZ) (l:List Int):Prop:=∃lo hi,Bf w lo hi a l
def DL (w w':Xh):Prop:=∀(b:Nat) (cs:Array Xk),w.heap[b]?=some (.cells cs 3)->w'.heap[b]?=w.heap[b]?
theorem EU.keep {w w':Xh} {a:Option YZ} {l:List Int} (h:EU w a l) (k:DL w w'):EU w' a l:=by
 obtain⟨d,j,h⟩:=h;refine⟨d,j,?_⟩
 rcases h with h|⟨b,N,f,g,m,n,c,i,e⟩
 ·exact .inl h
 ·obtain⟨cs,q,-⟩:=id c;exact .inr ⟨b,N,f,g,m,n,c.same (k b cs q),i,e⟩
theorem EU.is {w:Xh} {a:Option YZ} {l:List Int} (h:EU w a l):Is w a l:=by
 obtain⟨b,c,h⟩:=h;exact h.is
structure Dl (w:Xh) (q:S6) (d:D5) (m:MS):Prop where
 v:EU w q.a0 m.vars
 f:EU w q.a1 m.flags
 l:EU w q.a2 m.locks
 p:EU w q.a3 (Ei m)
 s:EU w q.a4 (CS m)
 r:EU w q.a5 (EO m)
 lv:m.vars.length=d.nv
 lf:m.flags.length=d.nf
 ll:m.locks.length=d.nl
 lt:m.thr.length=d.nt
 lr:d.nt*4=d.nr
 r4:R4 m
section
variable {w w':Xh} {s:S6} {d:D5} {m:MS}
theorem Dl.Ip (h:Dl w s d m):Cl w s.a0 s.a1 s.a2 s.a3 s.a4 s.a5 d.nv d.nf d.nl d.nt d.nr m:=⟨h.v.is,h.f.is,h.l.is,h.p.is,h.s.is,h.r.is,h.lv,h.lf,h.ll,h.lt,h.lr,h.r4⟩
theorem Dl.keep (h:Dl w s d m) (a:DL w w'):Dl w' s d m:=⟨h.v.keep a,h.f.keep a,h.l.keep a,h.p.keep a,h.s.keep a,h.r.keep a,h.lv,h.lf,h.ll,h.lt,h.lr,h.r4⟩
theorem Dl.of {b f g i j c e:Nat} (h:Bh w b s.a0 s.a1 s.a2 s.a3 s.a4 s.a5 m f g i j c e) (a:Cl w s.a0 s.a1 s.a2 s.a3 s.a4 s.a5 d.nv d.nf d.nl d.nt d.nr m):Dl w s d m:=
 ⟨⟨_,_,h.r0⟩,⟨_,_,h.r1⟩,⟨_,_,h.r2⟩,⟨_,_,h.r3⟩,⟨_,_,h.r4⟩,⟨_,_,h.r5⟩,a.lv,a.lf,a.ll,a.lt,a.lr,a.r4⟩
end
theorem DL.below {w w':Xh} (h:Below w.heap.size w w'):DL w w':=λb _ e=>h.block b (Xa.1 e).1
theorem DL.trans {w w' a:Xh} (h:DL w w') (c:DL w' a):DL w a:=λb cs e=>(c b cs ((h b cs e).trans e)).trans (h b cs e)
theorem DC.Lw {base:Nat} {w w':Xh} (h:DC base w w'):DL w w':=λb cs e=>h.other b cs _ e (by decide) (by decide) (by decide)
structure Dw (w:Xh) (base:Nat) (d:D5) (v:Xk) (S:List S6) (ms:List MS):Prop where
 row:w.ownsRow base 92 6 v ms.length (S.flatMap λs=>s.L d)
 len:S.length=ms.length
 doc:∀(i:Nat) (s:S6) (m:MS),S[i]?=some s->ms[i]?=some m->Dl w s d m
theorem adu {d:D5} {S:List S6} {s:S6} {i j:Nat} (h:S[i]?=some s) (c:j<6):(S.flatMap λs=>s.L d)[i*6+j]?=(s.L d)[j]?:=by
 induction S generalizing i with
 |nil=>cases h
 |cons a S b=>
  rw[List.flatMap_cons]
  cases i with
  |zero=>
   have:a=s:=by simpa using h
   subst this;rw[Nat.zero_mul,XE,Xz (by rw[S6.len];exact c)]
  |succ i=>
   rw[XD (by rw[S6.len];omega),S6.len,show (i+1)*6+j - 6=i*6+j by omega];exact b (by simpa using h)
section
variable {w w':Xh} {base:Nat} {d:D5} {v:Xk} {S:List S6} {ms:List MS}
theorem Dw.keep (h:Dw w base d v S ms) (e:DL w w') (c:∀(b:Nat) (cs:Array Xk),w.heap[b]?=some (.cells cs 92)->w'.heap[b]?=w.heap[b]?):Dw w' base d v S ms:=
 ⟨Ea h.row λb a=>by
  obtain⟨cs,q⟩:=Jn h.row a;exact c b cs q,h.len,λi s m f g=>(h.doc i s m f g).keep e⟩
theorem Dw.below (h:Dw w base d v S ms) (a:Below w.heap.size w w'):Dw w' base d v S ms:=h.keep (DL.below a) λb _ e=>a.block b (Xa.1 e).1
theorem Dw.keepN {c:Nat} (h:Dw w base d v S ms) (a:DC c w w'):Dw w' base d v S ms:=h.keep a.Lw λb cs e=>a.other b cs _ e (by decide) (by decide) (by decide)
theorem Dw.at (h:Dw w base d v S ms) {i:Nat} {m:MS} (l:ms[i]?=some m):∃g cap s,v = .slice (some ⟨g,0,none⟩) ms.length cap/\S[i]?=some s/\g<w.heap.size/\Dl w s d m/\
 w.cell? ⟨g,i*6,none⟩=some (.slice s.a0 d.nv s.c0)/\w.cell? ⟨g,i*6+1,none⟩=some (.slice s.a1 d.nf s.c1)/\w.cell? ⟨g,i*6+2,none⟩=some (.slice s.a2 d.nl s.c2)/\w.cell? ⟨g,i*6+3,none⟩=some (.slice s.a3 d.nt s.c3)/\w.cell? ⟨g,i*6+4,none⟩=some (.slice s.a4 d.nt s.c4)/\w.cell? ⟨g,i*6+5,none⟩=some (.slice s.a5 d.nr s.c5):=by
 have p:=(Xf.1 l).1;obtain⟨s,b⟩:∃s,S[i]?=some s:=⟨_,List.getElem?_eq_getElem (by rw[h.len];exact p)⟩;obtain⟨a,cap,e⟩:=At h.row
 rcases id h.row.2 with⟨k,t⟩|⟨g,q,o,k,z,f,y,u,x,r⟩
 ·omega
 ·have c:∀j,j<6->w.cell? ⟨g,i*6+j,none⟩=(s.L d)[j]?:=λj n=>by
   rw[<-adu (d:=d) b n,<-r,List.getElem?_take,if_pos (by omega),cell_of_row w g _ o _ (0,0) f,Array.getElem?_toList]
  exact⟨g,q,s,k,b,(Xa.1 f).1,h.doc i s m b l,c 0 (by decide),c 1 (by decide),c 2 (by decide),c 3 (by decide),c 4 (by decide),c 5 (by decide)⟩
theorem Tryz.infoSt:(Tryz.prog.info? 92).map (λi=>(i.zero,i.size,i.bytes))=some (some (.agg #[.slice none 0 0,.slice none 0 0,.slice none 0 0,.slice none 0 0,.slice none 0 0,.slice none 0 0]),6,144):=by kernel_rfl
theorem aa5 {w:Xh} {base e c n:Nat} {v:Xk} {h:List Xk} {T:TypeId} {i:TypeInfo} {z:Xk} {f:Nat} (D:w.ownsRow base e c v n h) (x:Tryz.prog.underlying T=some (.slice e)) (p:Tryz.prog.info? e=some i) (y:i.zero=some z) (C:i.size=c) (r:i.bytes=f) (t:z.cells.size=c) (A:f<=256)
 (a:List Xk) (E:a.length=c) (m:∀u∈a,u.oneCell'=true) (l:TypeId) (G:n<1048576) (F:base<=w.heap.size) :
 ∃(g cap:Nat) (w':Xh),(Builtin.append_ #[T,T] l #[v,.slice (some ⟨w.heap.size,0,none⟩) 1 1]).run Tryz.prog (w.alloc (.cells a.toArray e)) = .ok (.slice (some ⟨g,0,none⟩) (n+1) cap) w'/\
  w'.ownsRow base e c (.slice (some ⟨g,0,none⟩) (n+1) cap) (n+1) (h++a)/\w'.os=w.os/\w'.tape=w.tape/\w'.output=w.output/\w.heap.size+1<=w'.heap.size/\
  (∀b,b<w.heap.size->v.ownBlock≠some b->w'.heap[b]?=w.heap[b]?):=by
 obtain⟨H,w',s,k,d,I⟩:=JS (P:=Tryz.prog) (w.alloc (.cells a.toArray e)) base T l e i z c f x p y C r t v n h (D.alloc _) ⟨w.heap.size,0,none⟩ 1 1 a (by omega) (by simp[E])
  (λj u q=>Oj (World.alloc_heap_new w _) (by simpa using q)) m (by unfold maxLen;omega)
  (by have:(n+1)*f<=1048576*256:=Nat.mul_le_mul (by omega) A
      omega) (by simp;omega)
 obtain⟨g,cap,rfl⟩:=ownsRow_succ k
 exact⟨g,cap,w',s,k,d.os,d.tape,d.output,by have:=d.size;simpa using this,λb o B=>(d.block b (by simp;omega) (λe=>B e.symm)).trans (Below.heap_alloc w _ b o)⟩
theorem Dw.push (h:Dw w base d v S ms) (x:base<=w.heap.size) {s:S6} {m:MS} (p:Dl w s d m) (y:ms.length<1048576) :
 ∃g cap w',(Builtin.append_ #[87,87] 87 #[v,.slice (some ⟨w.heap.size,0,none⟩) 1 1]).run Tryz.prog (w.alloc (.cells #[.slice s.a0 d.nv s.c0,.slice s.a1 d.nf s.c1,.slice s.a2 d.nl s.c2,.slice s.a3 d.nt s.c3,.slice s.a4 d.nt s.c4,.slice s.a5 d.nr s.c5] 92)) = .ok (.slice (some ⟨g,0,none⟩) (ms.length+1) cap) w'/\
  Dw w' base d (.slice (some ⟨g,0,none⟩) (ms.length+1) cap) (S++[s]) (ms++[m])/\Below base w w'/\(∀(b:Nat) (cs:Array Xk) (T:Nat),w.heap[b]?=some (.cells cs T)->T≠92->w'.heap[b]?=w.heap[b]?):=by
 obtain⟨K,A,F,o,r⟩:=info_parts Tryz.infoSt;obtain⟨g,cap,w',C,z,B,E,I,N,rb⟩:=aa5 h.row Tryz.underlying87 A F o r rfl (by omega) (s.L d) rfl (by intro u j;simp only[S6.L,XR,X8,or_false] at j;rcases j with rfl|rfl|rfl|rfl|rfl|rfl<;>rfl) 87 y x;have n:∀(b:Nat) (cs:Array Xk) (T:Nat),w.heap[b]?=some (.cells cs T)->T≠92->w'.heap[b]?=w.heap[b]?:=λb cs T e G=>rb b (Xa.1 e).1 λq=>by
  obtain⟨J,H⟩:=Jn h.row q;exact He e H G rfl
 have f:DL w w':=λb cs e=>n b cs _ e (by decide);refine⟨g,cap,w',C,⟨?_,by rw[Xb,Xb,h.len];rfl,λi s' D c a=>?_⟩,⟨B,E,I,by omega,λk M=>rb k (by omega) (λe=>?_)⟩,n⟩
 ·rw[Xb,List.flatMap_append];have e:List.flatMap (λs=>s.L d) [s]=s.L d:=by simp
  rw[e];exact z
 ·by_cases e:i<ms.length
  ·rw[Xz (by rw[h.len];exact e)] at c;rw[Xz e] at a
   exact(h.doc i s' D c a).keep f
  ·have l:i<(ms++[m]).length:=(Xf.1 a).1;rw[Xb] at l;have t:i=ms.length:=by have:i<ms.length+1:=l;omega
   subst t;rw[<-h.len,XD (Xd _),YK] at c;rw[XD (Xd _),YK] at a
   cases c
   cases a
   exact p.keep f
 ·have:=(h.row.lt k e).1
  omega
end
end Go.Proofs.YtdcacoifehkioaaGreatDoor
namespace Go.Proofs.YtdcacoifehkioaaGreatDoor
open Go.RowKit Go.Proofs.Cod
section
variable (m:MS) (t:Nat) {x:Ad}
theorem Pn (h:x.op=Eo):Av m t x=(m.Ae t {m.th t with regs:=(m.th t).regs.set x.r.toNat (Af (m.th t) x.aR x.aN)},⟨t,0,0,0⟩,(m.th t).pc+1):=by
 obtain⟨a,r,aR,aN,bR,bN,y⟩:=x;have h:a=Eo:=h;subst h
 rfl
theorem Pv (h:x.op=Er):Av m t x=(m.Ae t {m.th t with regs:=(m.th t).regs.set x.r.toNat ((Af (m.th t) x.aR x.aN+Af (m.th t) x.bR x.bN) % 1000)},⟨t,0,0,0⟩,(m.th t).pc+1):=by
 obtain⟨a,r,aR,aN,bR,bN,y⟩:=x;have h:a=Er:=h;subst h
 rfl
theorem Pk (h:x.op=En):Av m t x=(m.Ae t {m.th t with regs:=(m.th t).regs.set x.r.toNat ((Af (m.th t) x.aR x.aN - Af (m.th t) x.bR x.bN+1000) % 1000)},⟨t,0,0,0⟩,(m.th t).pc+1):=by
 obtain⟨a,r,aR,aN,bR,bN,y⟩:=x;have h:a=En:=h;subst h
 rfl
theorem Pp (h:x.op=Ep):Av m t x=(m.Ae t {m.th t with regs:=(m.th t).regs.set x.r.toNat (Af (m.th t) x.aR x.aN*Af (m.th t) x.bR x.bN % 1000)},⟨t,0,0,0⟩,(m.th t).pc+1):=by
 obtain⟨a,r,aR,aN,bR,bN,y⟩:=x;have h:a=Ep:=h;subst h
 rfl
theorem Pr (h:x.op=Bu):Av m t x=(m.Ae t {m.th t with regs:=(m.th t).regs.set x.r.toNat (m.vars.getD x.x.toNat 0)},⟨t,1,x.x,m.vars.getD x.x.toNat 0⟩,(m.th t).pc+1):=by
 obtain⟨a,r,aR,aN,bR,bN,y⟩:=x;have h:a=Bu:=h;subst h
 rfl
theorem Pl (h:x.op=AM):Av m t x=({m with vars:=m.vars.set x.x.toNat (Af (m.th t) x.aR x.aN)},⟨t,2,x.x,Af (m.th t) x.aR x.aN⟩,(m.th t).pc+1):=by
 obtain⟨a,r,aR,aN,bR,bN,y⟩:=x;have h:a=AM:=h;subst h
 rfl
theorem Pt (h:x.op=Ec):Av m t x=(m.Ae t {m.th t with regs:=(m.th t).regs.set x.r.toNat (m.flags.getD x.x.toNat 0)},⟨t,3,x.x,m.flags.getD x.x.toNat 0⟩,(m.th t).pc+1):=by
 obtain⟨a,r,aR,aN,bR,bN,y⟩:=x;have h:a=Ec:=h;subst h
 rfl
theorem Po (h:x.op=Eb):Av m t x=({m with flags:=m.flags.set x.x.toNat (Af (m.th t) x.aR x.aN)},⟨t,4,x.x,Af (m.th t) x.aR x.aN⟩,(m.th t).pc+1):=by
 obtain⟨a,r,aR,aN,bR,bN,y⟩:=x;have h:a=Eb:=h;subst h
 rfl
theorem Pq (h:x.op=BP):Av m t x=({m with locks:=m.locks.set x.x.toNat t},⟨t,5,x.x,0⟩,(m.th t).pc+1):=by
 obtain⟨a,r,aR,aN,bR,bN,y⟩:=x;have h:a=BP:=h;subst h
 rfl
theorem Pj (h:x.op=CI):Av m t x=({m with locks:=m.locks.set x.x.toNat (-1)},⟨t,6,x.x,0⟩,(m.th t).pc+1):=by
 obtain⟨a,r,aR,aN,bR,bN,y⟩:=x;have h:a=CI:=h;subst h
 rfl
theorem Pm (h:x.op=BJ):Av m t x=(m.Ae x.x.toNat {m.th x.x.toNat with ph:=1},⟨t,7,x.x,0⟩,(m.th t).pc+1):=by
 obtain⟨a,r,aR,aN,bR,bN,y⟩:=x;have h:a=BJ:=h;subst h
 rfl
theorem Ps (h:x.op=BQ):Av m t x=(m,⟨t,8,x.x,0⟩,(m.th t).pc+1):=by
 obtain⟨a,r,aR,aN,bR,bN,y⟩:=x;have h:a=BQ:=h;subst h
 rfl
theorem KO (h:x.op=Eq):Av m t x=(m.Ae t {m.th t with ph:=2},⟨t,10,0,0⟩,(m.th t).pc):=by
 obtain⟨a,r,aR,aN,bR,bN,y⟩:=x;have h:a=Eq:=h;subst h
 rfl
theorem Vu (h:x.op=Dg):Av m t x=(m,⟨t,0,0,0⟩,(m.th t).pc+1):=by
 obtain⟨a,r,aR,aN,bR,bN,y⟩:=x;have h:a=Dg:=h;subst h
 rfl
theorem Ms (h:x.op=CX):Av m t x=(m,⟨t,0,0,0⟩,(m.th t).pc+1):=by
 obtain⟨a,r,aR,aN,bR,bN,y⟩:=x;have h:a=CX:=h;subst h
 rfl
theorem Mr (h:x.op=CW):Av m t x=(m,⟨t,0,0,0⟩,(m.th t).pc+1):=by
 obtain⟨a,r,aR,aN,bR,bN,y⟩:=x;have h:a=CW:=h;subst h
 rfl
theorem Pu (h:x.op=Dh):Av m t x=(m,⟨t,0,0,0⟩,(m.th t).pc+1):=by
 obtain⟨a,r,aR,aN,bR,bN,y⟩:=x;have h:a=Dh:=h;subst h
 rfl
theorem EY (b:x.op≠Dg) (c:x.op≠CX) (a:x.op≠CW) (n:Nat):BH m t x n=n:=by
 unfold BH Et;rw[if_neg (by simp[b,c,a])]
theorem UW (h:x.op=Dg) (n:Nat):BH m t x n=x.x.toNat:=by
 unfold BH Et;rw[if_pos (by simp[h])]
theorem Pc (h:x.op=CX) (n:Nat):BH m t x n=if Af (m.th t) x.aR x.aN=Af (m.th t) x.bR x.bN then x.x.toNat else n:=by
 have b:x.op≠Dg:=by rw[h];decide
 have a:x.op≠CW:=by rw[h];decide
 unfold BH Et
 by_cases e:Af (m.th t) x.aR x.aN=Af (m.th t) x.bR x.bN
 ·rw[if_pos (by simp[h,e]),if_pos e]
 ·rw[if_neg (by simp[b,a,e]),if_neg e]
theorem Pb (h:x.op=CW) (n:Nat):BH m t x n=if Af (m.th t) x.aR x.aN<Af (m.th t) x.bR x.bN then x.x.toNat else n:=by
 have b:x.op≠Dg:=by rw[h];decide
 have a:x.op≠CX:=by rw[h];decide
 unfold BH Et
 by_cases e:Af (m.th t) x.aR x.aN<Af (m.th t) x.bR x.bN
 ·rw[if_pos (by simp[h,e]),if_pos e]
 ·rw[if_neg (by simp only[b,a,false_or,false_and,decide_eq_true_eq];exact λq=>e q.2),if_neg e]
end
end Go.Proofs.YtdcacoifehkioaaGreatDoor
