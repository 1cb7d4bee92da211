import Derived.Test.YtdcacoifehkioaaGreatDoorExA3
import Derived.Test.YtdcacoifehkioaaGreatDoorExA25
import Derived.Test.YtdcacoifehkioaaGreatDoorExA24
import Derived.Test.YtdcacoifehkioaaGreatDoorExA19
open Go renaming World->Xh,Addr->YV,Value->Xk
open Bool renaming eq_iff_iff->YJ,eq_false_iff->afs
open Nat renaming le_refl->Xd,zero_add->XD,sub_self->YR
open List renaming mem_cons->XP,not_mem_nil->X6,length_set->Yb,getElem?_append_left->XC,getElem?_append_right->XK,getElem?_eq_some_iff->Xf,length_append->Xb
open Array renaming getElem?_eq_some_iff->Xa
set_option maxRecDepth 100000
set_option maxHeartbeats 2000000
set_option linter.unusedVariables false
set_option linter.unusedSimpArgs false
namespace Go.Proofs.YtdcacoifehkioaaGreatDoor
open Go.RowKit Go.Shelf Go.Proofs.Cod
section
variable {w w':Xh} {a0 a1 a2 a3 a4 a5:Option YV} {nv nf nl nt nr:Nat} {m:MS}
theorem adz {c0 c1 c2 c3 c4 c5:Nat} (h:Ci w a0 a1 a2 a3 a4 a5 nv nf nl nt nr m) (z:nt<=4) {t:Nat} (A:t<nt) {x:Ad} (j:XB nv nf nl nt x) (ln:Int) (wd:Tx) :
 Calls Tryz.prog 130 #[.agg #[.slice a0 nv c0,.slice a1 nf c1,.slice a2 nl c2,.slice a3 nt c3,.slice a4 nt c4,.slice a5 nr c5],.int .i64 t,.agg (Do x ln wd)] w λe w'=>e = .returned (.bool (Gi m t x))/\Below w.heap.size w w':=by
 obtain⟨W,f⟩:∃W,(w.alloc (.cells #[.slice a0 nv c0,.slice a1 nf c1,.slice a2 nl c2,.slice a3 nt c3,.slice a4 nt c4,.slice a5 nr c5] 92)).alloc (.cells (Do x ln wd) 177)=W:=⟨_,rfl⟩;obtain⟨s,E,o,T⟩:=FH _ _ _ f;have H:=Aa s;unfold Do at o f |-;obtain⟨i0,-,U,Z,M,P,i6,-,-⟩:=Dv o;obtain⟨O,Y,s2,I,J,s5⟩:=Bk E;obtain⟨n,B⟩:∃n:Nat,x.x=n:=⟨x.x.toNat,by have:=j.x0;omega⟩;have G:x.x.toNat=n:=by omega
 have q:=h.below s
 by_cases d:x.op=CG
 ·have af:n<m.locks.length:=by rw[h.ll];have:=j.lk (.inr d);omega
  have az:(n:Int)<(nl:Int):=by have:=h.ll;omega
  obtain⟨lb,lo,eA,-,hc⟩:=Ki q.l af;subst eA;have i:Gi m t x=(m.locks.getD n 0 != (t:Int)):=by unfold Gi;rw[if_pos d,G,YJ];simp
  rw[i];generalize m.locks.getD n 0=v at *;obtain⟨op,r,aR,aN,bR,bN,y⟩:=x;have B:y=n:=B;subst B;have d:op=CG:=d;subst d;dsimp only at *;clear j q h E o T s i G af A z O Y I J s5 U Z M P;unfold CG bs at *
  go_enter Tryz.func130,Tryz.ntmps130
  go_upto_region 1 with fail
  try rw[f]
  clear f
  go_wp2_with fail
  go_ret
  exact⟨rfl,H.out⟩
 ·by_cases k:x.op=Dh
  ·have i:Gi m t x=(Af (m.th t) x.aR x.aN != Af (m.th t) x.bR x.bN):=by unfold Gi;rw[if_neg d,if_pos k,YJ];simp
   rw[i];have V:=Aa (λu (g:Below W.heap.size W u)=>KN (c0:=c0) (c1:=c1) (c2:=c2) (c3:=c3) (c4:=c4) (c5:=c5) (q.below g) z A j.a);have V2:=Aa (λu (g:Below W.heap.size W u)=>KN (c0:=c0) (c1:=c1) (c2:=c2) (c3:=c3) (c4:=c4) (c5:=c5) (q.below g) z A j.b);obtain⟨v,hv⟩:∃v,Af (m.th t) x.aR x.aN=v:=⟨_,rfl⟩;obtain⟨u,g⟩:∃u,Af (m.th t) x.bR x.bN=u:=⟨_,rfl⟩;simp only[hv,g] at V V2 |-;have Q:Hid (∀u,Below W.heap.size W u->(u.cell? ⟨w.heap.size,0,none⟩=some (.slice a0 nv c0)/\u.cell? ⟨w.heap.size,1,none⟩=some (.slice a1 nf c1)/\u.cell? ⟨w.heap.size,2,none⟩=some (.slice a2 nl c2)/\u.cell? ⟨w.heap.size,3,none⟩=some (.slice a3 nt c3)/\u.cell? ⟨w.heap.size,4,none⟩=some (.slice a4 nt c4)/\u.cell? ⟨w.heap.size,5,none⟩=some (.slice a5 nr c5))/\u.cell? ⟨w.heap.size+1,2,none⟩=some (.bool x.aR)/\u.cell? ⟨w.heap.size+1,3,none⟩=some (.int .i64 x.aN)/\u.cell? ⟨w.heap.size+1,4,none⟩=some (.bool x.bR)/\u.cell? ⟨w.heap.size+1,5,none⟩=some (.int .i64 x.bN)):=λu g=>by
    obtain⟨-,-,j2,j3,j4,j5,-,-,-⟩:=Dv ((g.block _ (by omega)).trans o)
    exact⟨Bk ((g.block _ (by omega)).trans E),j2,j3,j4,j5⟩
   have X:Below W.heap.size W W.drew:=⟨rfl,rfl,rfl,Xd _,λ_ _=>rfl⟩;have ao:(⟨x.op,x.r,x.aR,x.aN,x.bR,x.bN,x.x⟩:Ad)=x:=rfl;have aE:W.cell? ⟨w.heap.size+1,0,none⟩=some (.string (bs Dh)):=by rw[i0,k]
   have g0:((bs Dh).toList == CG)=false:=by rw[AL];rfl
   clear j q h E o T s i G A z O Y s2 I J s5 i0 U Z M P i6 d ao hv g B;rw[k] at f |-;clear k;unfold Dh bs at *
   go_enter Tryz.func130,Tryz.ntmps130
   go_upto_region 1 with fail
   try rw[f]
   clear f
   go_wp2_with fail
   refine wp_region_held_drew (S:=(λu=>(u.cell? ⟨w.heap.size,0,none⟩=some (.slice a0 nv c0)/\u.cell? ⟨w.heap.size,1,none⟩=some (.slice a1 nf c1)/\u.cell? ⟨w.heap.size,2,none⟩=some (.slice a2 nl c2)/\u.cell? ⟨w.heap.size,3,none⟩=some (.slice a3 nt c3)/\u.cell? ⟨w.heap.size,4,none⟩=some (.slice a4 nt c4)/\u.cell? ⟨w.heap.size,5,none⟩=some (.slice a5 nr c5))/\u.cell? ⟨w.heap.size+1,2,none⟩=some (.bool x.aR)/\u.cell? ⟨w.heap.size+1,3,none⟩=some (.int .i64 x.aN)/\u.cell? ⟨w.heap.size+1,4,none⟩=some (.bool x.bR)/\u.cell? ⟨w.heap.size+1,5,none⟩=some (.int .i64 x.bN))) (by kernel_rfl) (Q.out _ X) (λc=>?_);refine tk 0 c ?_;refine tk 1 c ?_;refine tk 2 c ?_;refine tk 3 c ?_;refine tk 5 c ?_;refine tk 6 c ?_;refine tk 7 c ?_;refine tk 8 c ?_;refine rd 4 (λK C=>?_)
   go_simp
   go_at_call 132
   refine(V.out _ X).mono ?_;rintro e1 R ⟨rfl,p⟩;replace p:Below W.heap.size W R:=X.trans p;have V3:=V2.out R p;have N:=Aa p;have F:=Aa (Q.out R p);clear p
   go_wp2_with fail
   refine C.out _ _ F.out (λc=>?_);clear C K F
   try simp only[Act.put,sq]
   refine rd 9 (λK C=>?_)
   go_simp
   go_at_call 132
   refine V3.mono ?_;rintro e2 u2 ⟨rfl,D⟩;replace D:Below W.heap.size W u2:=N.out.trans (D.mono N.out.size);have HF:=Aa (H.out.trans (D.mono H.out.size));have F:=Aa (Q.out u2 D);clear D V3 N
   go_wp2_with fail
   refine C.out _ _ F.out (λc=>?_);clear C K F
   try simp only[Act.put,sq]
   refine tk 10 c ?_;refine tk 11 c ?_;refine wpAnyH_done (by kernel_rfl) ?_ _;clear c
   go_wp2_with fail
   go_ret
   exact⟨rfl,HF.out⟩
  ·have i:Gi m t x=false:=by unfold Gi;rw[if_neg d,if_neg k]
   rw[i];have f0:((bs x.op).toList == CG)=false:=by rw[AL];exact afs.2 (by simpa using d)
   have f1:((bs x.op).toList == Dh)=false:=by rw[AL];exact afs.2 (by simpa using k)
   unfold CG at f0;unfold Dh at f1;clear j q h E o T s i G A z O Y s2 I J s5 U Z M P i6 d k B
   go_enter Tryz.func130,Tryz.ntmps130
   go_upto_region 1 with fail
   try rw[f]
   clear f
   go_wp2_with fail
   go_ret
   exact⟨rfl,H.out⟩
end
theorem Tryz.sizeRe:(Tryz.prog.info? 169).map (·.size)=some 4:=by kernel_rfl
theorem OR {w:Xh} {fn:Func} {tmps:Array Xk} {b c:Nat} {k f d i e v5 g h a j:Xk} (r:fn.results = #[.cell 6 92,.cell 7 169]) (o:tmps[6]?=some (.pointer (some ⟨b,0,none⟩))) (n:tmps[7]?=some (.pointer (some ⟨c,0,none⟩))) (m:w.heap[b]?=some (.cells #[k,f,d,i,e,v5] 92)) (s:w.heap[c]?=some (.cells #[g,h,a,j] 169)):(results fn tmps).run Tryz.prog w = .ok (.tuple #[.agg #[k,f,d,i,e,v5],.agg #[g,h,a,j]]) w:=by
 obtain⟨c0,c1,c2,c3,c4,c5⟩:=Bk m;obtain⟨p,l,t,q⟩:=Cl s;simp[results,r,o,n,go_sem,c0,c1,c2,c3,c4,c5,p,l,t,q]
theorem Rg {a b c d:Int}:∀v∈(#[Value.int .i64 a,.int .i64 b,.int .i64 c,.int .i64 d]:Array Xk).toList,v.oneCell'=true:=by
 intro v e;simp only[XP,X6,or_false] at e
 rcases e with rfl|rfl|rfl|rfl<;>rfl
theorem Mx {W:Xh} {g T:Nat} {o k d m e v5:Xk} (h:W.heap[g]?=some (.cells #[o,k,d,m,e,v5] T)):∀j,j<6->(W.cell? ⟨g,0+j,none⟩).isSome=true:=λj a=>by
 obtain⟨c,b,i,n,l,f⟩:=Bk h
 match j,a with
 |0,_=>rw[XD,c];rfl
 |1,_=>rw[XD,b];rfl
 |2,_=>rw[XD,i];rfl
 |3,_=>rw[XD,n];rfl
 |4,_=>rw[XD,l];rfl
 |5,_=>rw[XD,f];rfl
theorem PH {W:Xh} {g T:Nat} {l f d i:Xk} (h:W.heap[g]?=some (.cells #[l,f,d,i] T)):∀j,j<4->(W.cell? ⟨g,0+j,none⟩).isSome=true:=λj a=>by
 obtain⟨c,b,e,k⟩:=Cl h
 match j,a with
 |0,_=>rw[XD,c];rfl
 |1,_=>rw[XD,b];rfl
 |2,_=>rw[XD,e];rfl
 |3,_=>rw[XD,k];rfl
theorem NP {W:Xh} {g h T U:Nat} {G A B F C H u r t s:Xk} (a f c b d a5 j p m n:Xk) (v:W.heap[g]?=some (.cells #[G,A,B,F,C,H] T)) (y:W.heap[h]?=some (.cells #[u,r,t,s] U)) (x:g≠h) :
 ∃i o,W.setCells g 0 [a,f,c,b,d,a5]=i/\i.setCells h 0 [j,p,m,n]=o/\Ac (λk=>k=g\/k=h) W i/\Ac (λk=>k=g\/k=h) W o/\i.heap[h]?=some (.cells #[u,r,t,s] U)/\o.heap[g]?=some (.cells #[a,f,c,b,d,a5] T)/\o.heap[h]?=some (.cells #[j,p,m,n] U):=by
 have l:Ac (λk=>k=g) W (W.setCells g 0 [a,f,c,b,d,a5]):=EZ _ 0 (Ac.refl W) (.inl rfl);have z:Ac (λk=>k=h) (W.setCells g 0 [a,f,c,b,d,a5]) ((W.setCells g 0 [a,f,c,b,d,a5]).setCells h 0 [j,p,m,n]):=EZ _ 0 (Ac.refl _) (.inl rfl);have I:=(Xa.1 v).1;have E:=(Xa.1 y).1;have w:(W.setCells g 0 [a,f,c,b,d,a5]).heap[h]?=some (.cells #[u,r,t,s] U):=(l.block h E (λq=>x q.symm)).trans y;have D:(W.setCells g 0 [a,f,c,b,d,a5]).heap[g]?=some (.cells #[a,f,c,b,d,a5] T):=JL a f c b d a5 v;have z1:=l.size
 exact⟨_,_,rfl,rfl,l.mono λk _ e=>.inl e,(l.mono λk _ e=>.inl e).trans (z.mono λk _ e=>.inr e),w,(z.block g (by omega) x).trans D,GI j p m n w⟩
theorem adu {W:Xh} {g h T U:Nat} {C u w B y D s o q p:Xk} (c m j d l a5 e n f i:Xk) (t:W.heap[g]?=some (.cells #[C,u,w,B,y,D] T)) (z:W.heap[h]?=some (.cells #[s,o,q,p] U)) (x:g≠h) :
 ∃a b,((((((W.setCell ⟨g,0,none⟩ c).setCell ⟨g,1,none⟩ m).setCell ⟨g,2,none⟩ j).setCell ⟨g,3,none⟩ d).setCell ⟨g,4,none⟩ l).setCell ⟨g,5,none⟩ a5)=a/\((((a.setCell ⟨h,0,none⟩ e).setCell ⟨h,1,none⟩ n).setCell ⟨h,2,none⟩ f).setCell ⟨h,3,none⟩ i)=b/\Ac (λk=>k=g\/k=h) W a/\Ac (λk=>k=g\/k=h) W b/\a.heap[h]?=some (.cells #[s,o,q,p] U)/\b.heap[g]?=some (.cells #[c,m,j,d,l,a5] T)/\b.heap[h]?=some (.cells #[e,n,f,i] U):=by
 obtain⟨a,b,A,v,r⟩:=NP c m j d l a5 e n f i t z x
 exact⟨a,b,A,v,r⟩
section
variable {m:MS} {t:Nat} {x:Ad}
theorem JX {y:TS} (h:R4 m) (a:y.regs.length=4) (n:Nat):R4 (m.Ae n y):=λth b=>by
 rcases List.mem_or_eq_of_mem_set b with q|q
 ·exact h th q
 ·rw[q];exact a
theorem JW (h:R4 m) (t:Nat):(m.th t).regs.length=4:=by
 unfold MS.th;rw[List.getD_eq_getElem?_getD]
 cases q:m.thr[t]? with
 |none=>rfl
 |some y=>exact h y (List.mem_of_getElem? q)
theorem FY (m:MS) (n:Nat) (y:TS):(m.Ae n y).thr.length=m.thr.length:=by unfold MS.Ae;rw[Yb]
structure TY (m m1:MS):Prop where
 v:m1.vars.length=m.vars.length
 f:m1.flags.length=m.flags.length
 l:m1.locks.length=m.locks.length
 t:m1.thr.length=m.thr.length
 r:R4 m1
theorem Vf (a:R4 m):TY m (Au m t x).1:=by
 have j:=JW a t;have b:∀v,R4 (m.Ae t {m.th t with regs:=(m.th t).regs.set x.r.toNat v}):=λv=>JX a (by show ((m.th t).regs.set x.r.toNat v).length=4;rw[Yb];exact j) t;unfold Au;dsimp only
 by_cases c0:x.op=El
 ·rw[if_pos c0];exact⟨rfl,rfl,rfl,FY _ _ _,b _⟩
 rw[if_neg c0]
 by_cases c1:x.op=Eo
 ·rw[if_pos c1];exact⟨rfl,rfl,rfl,FY _ _ _,b _⟩
 rw[if_neg c1]
 by_cases c2:x.op=Ek
 ·rw[if_pos c2];exact⟨rfl,rfl,rfl,FY _ _ _,b _⟩
 rw[if_neg c2]
 by_cases c3:x.op=Em
 ·rw[if_pos c3];exact⟨rfl,rfl,rfl,FY _ _ _,b _⟩
 rw[if_neg c3]
 by_cases c4:x.op=Bq
 ·rw[if_pos c4];exact⟨rfl,rfl,rfl,FY _ _ _,b _⟩
 rw[if_neg c4]
 by_cases c5:x.op=AH
 ·rw[if_pos c5];exact⟨Yb,rfl,rfl,rfl,a⟩
 rw[if_neg c5]
 by_cases g:x.op=DY
 ·rw[if_pos g];exact⟨rfl,rfl,rfl,FY _ _ _,b _⟩
 rw[if_neg g]
 by_cases d:x.op=DX
 ·rw[if_pos d];exact⟨rfl,Yb,rfl,rfl,a⟩
 rw[if_neg d]
 by_cases c:x.op=BN
 ·rw[if_pos c];exact⟨rfl,rfl,Yb,rfl,a⟩
 rw[if_neg c]
 by_cases e:x.op=CG
 ·rw[if_pos e];exact⟨rfl,rfl,Yb,rfl,a⟩
 rw[if_neg e]
 by_cases i:x.op=BI
 ·rw[if_pos i];exact⟨rfl,rfl,rfl,FY _ _ _,JX (y:={m.th x.x.toNat with ph:=1}) a (JW a x.x.toNat) _⟩
 rw[if_neg i]
 by_cases h:x.op=BO
 ·rw[if_pos h];exact⟨rfl,rfl,rfl,rfl,a⟩
 rw[if_neg h]
 by_cases f:x.op=En
 ·rw[if_pos f];exact⟨rfl,rfl,rfl,FY _ _ _,JX (y:={m.th t with ph:=2}) a (JW a t) _⟩
 rw[if_neg f]
 exact⟨rfl,rfl,rfl,rfl,a⟩
theorem acV {m1:MS} (a:R4 m1) (pc:Nat):TY m1 (EF m1 t pc):=⟨rfl,rfl,rfl,FY _ _ _,JX (y:={m1.th t with pc:=pc}) a (JW a t) _⟩
end
structure S6 where
 a0:Option YV
 a1:Option YV
 a2:Option YV
 a3:Option YV
 a4:Option YV
 a5:Option YV
 c0:Nat
 c1:Nat
 c2:Nat
 c3:Nat
 c4:Nat
 c5:Nat
structure D5 where
 nv:Nat
 nf:Nat
 nl:Nat
 nt:Nat
 nr:Nat
def S6.L (s:S6) (d:D5):List Xk:=[.slice s.a0 d.nv s.c0,.slice s.a1 d.nf s.c1,.slice s.a2 d.nl s.c2,.slice s.a3 d.nt s.c3,.slice s.a4 d.nt s.c4,.slice s.a5 d.nr s.c5]
theorem S6.len (s:S6) (d:D5):(s.L d).length=6:=rfl
def ET (w:Xh) (a:Option YV) (l:List Int):Prop:=∃lo hi,AZ w lo hi a l
def DH (w w':Xh):Prop:=∀(b:Nat) (cs:Array Xk),w.heap[b]?=some (.cells cs 3)->w'.heap[b]?=w.heap[b]?
theorem ET.keep {w w':Xh} {a:Option YV} {l:List Int} (h:ET w a l) (j:DH w w'):ET w' a l:=by
 obtain⟨e,g,h⟩:=h;refine⟨e,g,?_⟩
 rcases h with h|⟨b,N,f,m,n,i,c,k,d⟩
 ·exact .inl h
 ·obtain⟨cs,q,-⟩:=id c;exact .inr ⟨b,N,f,m,n,i,c.same (j b cs q),k,d⟩
theorem ET.is {w:Xh} {a:Option YV} {l:List Int} (h:ET w a l):Is w a l:=by
 obtain⟨b,c,h⟩:=h;exact h.is
structure Dk (w:Xh) (q:S6) (d:D5) (m:MS):Prop where
 v:ET w q.a0 m.vars
 f:ET w q.a1 m.flags
 l:ET w q.a2 m.locks
 p:ET w q.a3 (Ee m)
 s:ET w q.a4 (CR m)
 r:ET w q.a5 (EN m)
 lv:m.vars.length=d.nv
 lf:m.flags.length=d.nf
 ll:m.locks.length=d.nl
 lt:m.thr.length=d.nt
 lr:d.nt*4=d.nr
 r4:R4 m
section
variable {w w':Xh} {s:S6} {d:D5} {m:MS}
theorem Dk.Im (h:Dk w s d m):Ci w s.a0 s.a1 s.a2 s.a3 s.a4 s.a5 d.nv d.nf d.nl d.nt d.nr m:=⟨h.v.is,h.f.is,h.l.is,h.p.is,h.s.is,h.r.is,h.lv,h.lf,h.ll,h.lt,h.lr,h.r4⟩
theorem Dk.keep (h:Dk w s d m) (a:DH w w'):Dk w' s d m:=⟨h.v.keep a,h.f.keep a,h.l.keep a,h.p.keep a,h.s.keep a,h.r.keep a,h.lv,h.lf,h.ll,h.lt,h.lr,h.r4⟩
theorem Dk.of {f g i e c j b:Nat} (h:Be w f s.a0 s.a1 s.a2 s.a3 s.a4 s.a5 m g i e c j b) (a:Ci w s.a0 s.a1 s.a2 s.a3 s.a4 s.a5 d.nv d.nf d.nl d.nt d.nr m):Dk w s d m:=
 ⟨⟨_,_,h.r0⟩,⟨_,_,h.r1⟩,⟨_,_,h.r2⟩,⟨_,_,h.r3⟩,⟨_,_,h.r4⟩,⟨_,_,h.r5⟩,a.lv,a.lf,a.ll,a.lt,a.lr,a.r4⟩
end
theorem DH.below {w w':Xh} (h:Below w.heap.size w w'):DH w w':=λb _ e=>h.block b (Xa.1 e).1
theorem DH.trans {w w' a:Xh} (h:DH w w') (c:DH w' a):DH w a:=λb cs e=>(c b cs ((h b cs e).trans e)).trans (h b cs e)
theorem Dy.Lx {base:Nat} {w w':Xh} (h:Dy base w w'):DH w w':=λb cs e=>h.other b cs _ e (by decide) (by decide) (by decide)
structure Ds (w:Xh) (base:Nat) (d:D5) (v:Xk) (S:List S6) (ms:List MS):Prop where
 row:w.ownsRow base 92 6 v ms.length (S.flatMap λs=>s.L d)
 len:S.length=ms.length
 doc:∀(i:Nat) (s:S6) (m:MS),S[i]?=some s->ms[i]?=some m->Dk w s d m
theorem adl {d:D5} {S:List S6} {s:S6} {i j:Nat} (h:S[i]?=some s) (c:j<6):(S.flatMap λs=>s.L d)[i*6+j]?=(s.L d)[j]?:=by
 induction S generalizing i with
 |nil=>cases h
 |cons a S b=>
  rw[List.flatMap_cons]
  cases i with
  |zero=>
   have:a=s:=by simpa using h
   subst this;rw[Nat.zero_mul,XD,XC (by rw[S6.len];exact c)]
  |succ i=>
   rw[XK (by rw[S6.len];omega),S6.len,show (i+1)*6+j - 6=i*6+j by omega];exact b (by simpa using h)
section
variable {w w':Xh} {base:Nat} {d:D5} {v:Xk} {S:List S6} {ms:List MS}
theorem Ds.keep (h:Ds w base d v S ms) (f:DH w w') (c:∀(b:Nat) (cs:Array Xk),w.heap[b]?=some (.cells cs 92)->w'.heap[b]?=w.heap[b]?):Ds w' base d v S ms:=
 ⟨DW h.row λb a=>by
  obtain⟨cs,q⟩:=Jl h.row a;exact c b cs q,h.len,λi s m g e=>(h.doc i s m g e).keep f⟩
theorem Ds.below (h:Ds w base d v S ms) (a:Below w.heap.size w w'):Ds w' base d v S ms:=h.keep (DH.below a) λb _ e=>a.block b (Xa.1 e).1
theorem Ds.keepN {c:Nat} (h:Ds w base d v S ms) (a:Dy c w w'):Ds w' base d v S ms:=h.keep a.Lx λb cs e=>a.other b cs _ e (by decide) (by decide) (by decide)
theorem Ds.at (h:Ds w base d v S ms) {i:Nat} {m:MS} (k:ms[i]?=some m):∃g cap s,v = .slice (some ⟨g,0,none⟩) ms.length cap/\S[i]?=some s/\g<w.heap.size/\Dk w s d m/\
 w.cell? ⟨g,i*6,none⟩=some (.slice s.a0 d.nv s.c0)/\w.cell? ⟨g,i*6+1,none⟩=some (.slice s.a1 d.nf s.c1)/\w.cell? ⟨g,i*6+2,none⟩=some (.slice s.a2 d.nl s.c2)/\w.cell? ⟨g,i*6+3,none⟩=some (.slice s.a3 d.nt s.c3)/\w.cell? ⟨g,i*6+4,none⟩=some (.slice s.a4 d.nt s.c4)/\w.cell? ⟨g,i*6+5,none⟩=some (.slice s.a5 d.nr s.c5):=by
 have p:=(Xf.1 k).1;obtain⟨s,b⟩:∃s,S[i]?=some s:=⟨_,List.getElem?_eq_getElem (by rw[h.len];exact p)⟩;obtain⟨a,cap,e⟩:=As h.row
 rcases id h.row.2 with⟨l,t⟩|⟨g,r,q,l,z,f,u,x,y,n⟩
 ·omega
 ·have c:∀j,j<6->w.cell? ⟨g,i*6+j,none⟩=(s.L d)[j]?:=λj o=>by
   rw[<-adl (d:=d) b o,<-n,List.getElem?_take,if_pos (by omega),cell_of_row w g _ q _ (0,0) f,Array.getElem?_toList]
  exact⟨g,r,s,l,b,(Xa.1 f).1,h.doc i s m b k,c 0 (by decide),c 1 (by decide),c 2 (by decide),c 3 (by decide),c 4 (by decide),c 5 (by decide)⟩
theorem Tryz.infoSt:(Tryz.prog.info? 92).map (λi=>(i.zero,i.size,i.bytes))=some (some (.agg #[.slice none 0 0,.slice none 0 0,.slice none 0 0,.slice none 0 0,.slice none 0 0,.slice none 0 0]),6,144):=by kernel_rfl
theorem aaU {w:Xh} {base e c n:Nat} {v:Xk} {h:List Xk} {T:TypeId} {i:TypeInfo} {z:Xk} {f:Nat} (t:w.ownsRow base e c v n h) (r:Tryz.prog.underlying T=some (.slice e)) (o:Tryz.prog.info? e=some i) (p:i.zero=some z) (x:i.size=c) (A:i.bytes=f) (E:z.cells.size=c) (y:f<=256)
 (a:List Xk) (D:a.length=c) (B:∀u∈a,u.oneCell'=true) (l:TypeId) (G:n<1048576) (F:base<=w.heap.size) :
 ∃(g cap:Nat) (w':Xh),(Builtin.append_ #[T,T] l #[v,.slice (some ⟨w.heap.size,0,none⟩) 1 1]).run Tryz.prog (w.alloc (.cells a.toArray e)) = .ok (.slice (some ⟨g,0,none⟩) (n+1) cap) w'/\
  w'.ownsRow base e c (.slice (some ⟨g,0,none⟩) (n+1) cap) (n+1) (h++a)/\w'.os=w.os/\w'.tape=w.tape/\w'.output=w.output/\w.heap.size+1<=w'.heap.size/\
  (∀b,b<w.heap.size->v.ownBlock≠some b->w'.heap[b]?=w.heap[b]?):=by
 obtain⟨H,w',m,k,d,I⟩:=JO (P:=Tryz.prog) (w.alloc (.cells a.toArray e)) base T l e i z c f r o p x A E v n h (t.alloc _) ⟨w.heap.size,0,none⟩ 1 1 a (by omega) (by simp[D])
  (λj u C=>Od (World.alloc_heap_new w _) (by simpa using C)) B (by unfold maxLen;omega)
  (by have:(n+1)*f<=1048576*256:=Nat.mul_le_mul (by omega) y
      omega) (by simp;omega)
 obtain⟨g,cap,rfl⟩:=ownsRow_succ k
 exact⟨g,cap,w',m,k,d.os,d.tape,d.output,by have:=d.size;simpa using this,λb q s=>(d.block b (by simp;omega) (λe=>s e.symm)).trans (Below.heap_alloc w _ b q)⟩
theorem Ds.push (h:Ds w base d v S ms) (E:base<=w.heap.size) {s:S6} {m:MS} (D:Dk w s d m) (F:ms.length<1048576) :
 ∃g cap w',(Builtin.append_ #[87,87] 87 #[v,.slice (some ⟨w.heap.size,0,none⟩) 1 1]).run Tryz.prog (w.alloc (.cells #[.slice s.a0 d.nv s.c0,.slice s.a1 d.nf s.c1,.slice s.a2 d.nl s.c2,.slice s.a3 d.nt s.c3,.slice s.a4 d.nt s.c4,.slice s.a5 d.nr s.c5] 92)) = .ok (.slice (some ⟨g,0,none⟩) (ms.length+1) cap) w'/\
  Ds w' base d (.slice (some ⟨g,0,none⟩) (ms.length+1) cap) (S++[s]) (ms++[m])/\Below base w w'/\(∀(b:Nat) (cs:Array Xk) (T:Nat),w.heap[b]?=some (.cells cs T)->T≠92->w'.heap[b]?=w.heap[b]?):=by
 obtain⟨M,z,A,I,G⟩:=info_parts Tryz.infoSt;obtain⟨g,cap,w',t,o,y,H,B,K,rb⟩:=aaU h.row Tryz.underlying87 z A I G rfl (by omega) (s.L d) rfl (by intro u n;simp only[S6.L,XP,X6,or_false] at n;rcases n with rfl|rfl|rfl|rfl|rfl|rfl<;>rfl) 87 F E;have f:∀(b:Nat) (cs:Array Xk) (T:Nat),w.heap[b]?=some (.cells cs T)->T≠92->w'.heap[b]?=w.heap[b]?:=λb cs T e x=>rb b (Xa.1 e).1 λq=>by
  obtain⟨J,p⟩:=Jl h.row q;exact Gw e p x rfl
 have l:DH w w':=λb cs e=>f b cs _ e (by decide);refine⟨g,cap,w',t,⟨?_,by rw[Xb,Xb,h.len];rfl,λi s' r c a=>?_⟩,⟨y,H,B,by omega,λk N=>rb k (by omega) (λe=>?_)⟩,f⟩
 ·rw[Xb,List.flatMap_append];have e:List.flatMap (λs=>s.L d) [s]=s.L d:=by simp
  rw[e];exact o
 ·by_cases e:i<ms.length
  ·rw[XC (by rw[h.len];exact e)] at c;rw[XC e] at a
   exact(h.doc i s' r c a).keep l
  ·have j:i<(ms++[m]).length:=(Xf.1 a).1;rw[Xb] at j;have C:i=ms.length:=by have:i<ms.length+1:=j;omega
   subst C;rw[<-h.len,XK (Xd _),YR] at c;rw[XK (Xd _),YR] at a
   cases c
   cases a
   exact D.keep l
 ·have:=(h.row.lt k e).1
  omega
end
end Go.Proofs.YtdcacoifehkioaaGreatDoor
namespace Go.Proofs.YtdcacoifehkioaaGreatDoor
open Go.RowKit Go.Proofs.Cod
section
variable (m:MS) (t:Nat) {x:Ad}
theorem Ph (h:x.op=El):Au m t x=(m.Ae t {m.th t with regs:=(m.th t).regs.set x.r.toNat (Af (m.th t) x.aR x.aN)},⟨t,0,0,0⟩,(m.th t).pc+1):=by
 obtain⟨a,r,aR,aN,bR,bN,y⟩:=x;have h:a=El:=h;subst h
 rfl
theorem Pp (h:x.op=Eo):Au m t x=(m.Ae t {m.th t with regs:=(m.th t).regs.set x.r.toNat ((Af (m.th t) x.aR x.aN+Af (m.th t) x.bR x.bN) % 1000)},⟨t,0,0,0⟩,(m.th t).pc+1):=by
 obtain⟨a,r,aR,aN,bR,bN,y⟩:=x;have h:a=Eo:=h;subst h
 rfl
theorem Pe (h:x.op=Ek):Au m t x=(m.Ae t {m.th t with regs:=(m.th t).regs.set x.r.toNat ((Af (m.th t) x.aR x.aN - Af (m.th t) x.bR x.bN+1000) % 1000)},⟨t,0,0,0⟩,(m.th t).pc+1):=by
 obtain⟨a,r,aR,aN,bR,bN,y⟩:=x;have h:a=Ek:=h;subst h
 rfl
theorem Pj (h:x.op=Em):Au m t x=(m.Ae t {m.th t with regs:=(m.th t).regs.set x.r.toNat (Af (m.th t) x.aR x.aN*Af (m.th t) x.bR x.bN % 1000)},⟨t,0,0,0⟩,(m.th t).pc+1):=by
 obtain⟨a,r,aR,aN,bR,bN,y⟩:=x;have h:a=Em:=h;subst h
 rfl
theorem Pl (h:x.op=Bq):Au m t x=(m.Ae t {m.th t with regs:=(m.th t).regs.set x.r.toNat (m.vars.getD x.x.toNat 0)},⟨t,1,x.x,m.vars.getD x.x.toNat 0⟩,(m.th t).pc+1):=by
 obtain⟨a,r,aR,aN,bR,bN,y⟩:=x;have h:a=Bq:=h;subst h
 rfl
theorem Pf (h:x.op=AH):Au m t x=({m with vars:=m.vars.set x.x.toNat (Af (m.th t) x.aR x.aN)},⟨t,2,x.x,Af (m.th t) x.aR x.aN⟩,(m.th t).pc+1):=by
 obtain⟨a,r,aR,aN,bR,bN,y⟩:=x;have h:a=AH:=h;subst h
 rfl
theorem Pn (h:x.op=DY):Au m t x=(m.Ae t {m.th t with regs:=(m.th t).regs.set x.r.toNat (m.flags.getD x.x.toNat 0)},⟨t,3,x.x,m.flags.getD x.x.toNat 0⟩,(m.th t).pc+1):=by
 obtain⟨a,r,aR,aN,bR,bN,y⟩:=x;have h:a=DY:=h;subst h
 rfl
theorem Pi (h:x.op=DX):Au m t x=({m with flags:=m.flags.set x.x.toNat (Af (m.th t) x.aR x.aN)},⟨t,4,x.x,Af (m.th t) x.aR x.aN⟩,(m.th t).pc+1):=by
 obtain⟨a,r,aR,aN,bR,bN,y⟩:=x;have h:a=DX:=h;subst h
 rfl
theorem Pk (h:x.op=BN):Au m t x=({m with locks:=m.locks.set x.x.toNat t},⟨t,5,x.x,0⟩,(m.th t).pc+1):=by
 obtain⟨a,r,aR,aN,bR,bN,y⟩:=x;have h:a=BN:=h;subst h
 rfl
theorem Pd (h:x.op=CG):Au m t x=({m with locks:=m.locks.set x.x.toNat (-1)},⟨t,6,x.x,0⟩,(m.th t).pc+1):=by
 obtain⟨a,r,aR,aN,bR,bN,y⟩:=x;have h:a=CG:=h;subst h
 rfl
theorem Pg (h:x.op=BI):Au m t x=(m.Ae x.x.toNat {m.th x.x.toNat with ph:=1},⟨t,7,x.x,0⟩,(m.th t).pc+1):=by
 obtain⟨a,r,aR,aN,bR,bN,y⟩:=x;have h:a=BI:=h;subst h
 rfl
theorem Pm (h:x.op=BO):Au m t x=(m,⟨t,8,x.x,0⟩,(m.th t).pc+1):=by
 obtain⟨a,r,aR,aN,bR,bN,y⟩:=x;have h:a=BO:=h;subst h
 rfl
theorem KM (h:x.op=En):Au m t x=(m.Ae t {m.th t with ph:=2},⟨t,10,0,0⟩,(m.th t).pc):=by
 obtain⟨a,r,aR,aN,bR,bN,y⟩:=x;have h:a=En:=h;subst h
 rfl
theorem Vg (h:x.op=Dg):Au m t x=(m,⟨t,0,0,0⟩,(m.th t).pc+1):=by
 obtain⟨a,r,aR,aN,bR,bN,y⟩:=x;have h:a=Dg:=h;subst h
 rfl
theorem Mt (h:x.op=CV):Au m t x=(m,⟨t,0,0,0⟩,(m.th t).pc+1):=by
 obtain⟨a,r,aR,aN,bR,bN,y⟩:=x;have h:a=CV:=h;subst h
 rfl
theorem Ms (h:x.op=CU):Au m t x=(m,⟨t,0,0,0⟩,(m.th t).pc+1):=by
 obtain⟨a,r,aR,aN,bR,bN,y⟩:=x;have h:a=CU:=h;subst h
 rfl
theorem Po (h:x.op=Dh):Au m t x=(m,⟨t,0,0,0⟩,(m.th t).pc+1):=by
 obtain⟨a,r,aR,aN,bR,bN,y⟩:=x;have h:a=Dh:=h;subst h
 rfl
theorem EX (a:x.op≠Dg) (c:x.op≠CV) (b:x.op≠CU) (n:Nat):BF m t x n=n:=by
 unfold BF Eq;rw[if_neg (by simp[a,c,b])]
theorem UJ (h:x.op=Dg) (n:Nat):BF m t x n=x.x.toNat:=by
 unfold BF Eq;rw[if_pos (by simp[h])]
theorem OV (h:x.op=CV) (n:Nat):BF m t x n=if Af (m.th t) x.aR x.aN=Af (m.th t) x.bR x.bN then x.x.toNat else n:=by
 have a:x.op≠Dg:=by rw[h];decide
 have b:x.op≠CU:=by rw[h];decide
 unfold BF Eq
 by_cases e:Af (m.th t) x.aR x.aN=Af (m.th t) x.bR x.bN
 ·rw[if_pos (by simp[h,e]),if_pos e]
 ·rw[if_neg (by simp[a,b,e]),if_neg e]
theorem OU (h:x.op=CU) (n:Nat):BF m t x n=if Af (m.th t) x.aR x.aN<Af (m.th t) x.bR x.bN then x.x.toNat else n:=by
 have a:x.op≠Dg:=by rw[h];decide
 have b:x.op≠CV:=by rw[h];decide
 unfold BF Eq
 by_cases e:Af (m.th t) x.aR x.aN<Af (m.th t) x.bR x.bN
 ·rw[if_pos (by simp[h,e]),if_pos e]
 ·rw[if_neg (by simp only[a,b,false_or,false_and,decide_eq_true_eq];exact λq=>e q.2),if_neg e]
end
end Go.Proofs.YtdcacoifehkioaaGreatDoor
