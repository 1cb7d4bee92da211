import Derived.Test.YtdcacoifehkioaaGreatDoorExA6
import Derived.Test.YtdcacoifehkioaaGreatDoorExA4
open Go renaming Value->Xk,World->Xh,heap_setCell_same->Xj,bodyPost_ret->XI
open ByteArray renaming empty->Yv
open Go.World renaming cell?->Xg,frozen?->XM,alloc_heap_new->Xi,cell?_of_block->Xw,ownsRow_nil->XE
open Go.RowKit renaming Below->Xm,wrap64->XN
open Array renaming getElem?_eq_some_iff->Xa
open Go.RowKit.Below renaming refl->Xq,heap_alloc->Xv
open Nat renaming le_refl->Xd,zero_le->Xx
open Go.IntWalk renaming wrap64_in->XZ
open List renaming getElem?_eq_getElem->Xe,length_map->Xp,length_eq_zero_iff->ZD,getElem?_map->Xs,length_take->Yc,getElem?_eq_some_iff->Xf,take_succ_eq_append_getElem->XR,take_of_length_le->XQ
open Go.Builtin renaming append_->XL
set_option maxRecDepth 100000
set_option maxHeartbeats 2000000
set_option linter.unusedVariables false
set_option linter.unusedSimpArgs false
namespace Go.Proofs.YtdcacoifehkioaaGreatDoor
open Go.RowKit Go.Proofs.Cod
def Dm (c:UInt8) (t:Tx):Bool:=if c=114 then At t else if c=97\/c=98 then DQ t else Av t
def Aw (P:RP) (r:RI) (c:UInt8) (t:Tx):RI:=
 if c=114 then {r with i:={r.i with r:=(De t:Int)}} else if c=97 then {r with i:={r.i with aR:=At t,aN:=(Bd t:Int)}} else if c=98 then {r with i:={r.i with bR:=At t,bN:=(Bd t:Int)}}
 else if c=120 then {r with i:={r.i with x:=Aq P.vs t},word:=t} else if c=102 then {r with i:={r.i with x:=Aq P.fs t},word:=t} else if c=109 then {r with i:={r.i with x:=Aq P.ls t},word:=t} else {r with word:=t}
def Fv (P:RP):RI->Int->List (UInt8×Tx)->Option (RI×Int)
 |r,e,[]=>some (r,e)
 |r,e,p::l=>if Dm p.1 p.2 then Fv P (Aw P r p.1 p.2) (if (Aw P r p.1 p.2).i.x<0 then 5 else e) l else none
theorem MQ {P:RP} {r:RI} {e:Int} {c:UInt8} {t:Tx} {l:List (UInt8×Tx)}:Fv P r e ((c,t)::l)=if Dm c t then Fv P (Aw P r c t) (if (Aw P r c t).i.x<0 then 5 else e) l else none:=rfl
def Hf (f:Tx) (line:Int):RI:=⟨CB f,line,[]⟩
def Fo:List Xk:=[.string Yv,.int .i64 0,.bool false,.int .i64 0,.bool false,.int .i64 0,.int .i64 0,.int .i64 0,.string Yv]
def DV (P:RP) (line:Int) (f:Tx) (ts:List Tx):Option (RI×Int):=if Df f=none\/ts.length≠(AG f).length then none else Fv P (Hf f line) 0 ((AG f).zip ts)
def JV (o:Option (RI×Int)):Xk:=match o with
 |some (r,e)=>.tuple #[.agg (AK r).toArray,.int .i64 e]
 |none=>.tuple #[.agg Fo.toArray,.int .i64 2]
theorem Qq0 {w:Xh} {fn:Func} {tmps:Array Xk} {b:Nat} {x d i e f g a5 h j c:Xk} (p:fn.results = #[.cell 6 177,.tmp 7]) (n:tmps[6]?=some (.pointer (some ⟨b,0,none⟩))) (m:tmps[7]?=some x) (a:w.heap[b]?=some (.cells #[d,i,e,f,g,a5,h,j,c] 177)):(results fn tmps).run Tryz.prog w = .ok (.tuple #[.agg #[d,i,e,f,g,a5,h,j,c],x]) w:=by
 have c0:w.cell? ⟨b,0,none⟩=some d:=by simp[Xg,a]
 have c1:w.cell? ⟨b,1,none⟩=some i:=by simp[Xg,a]
 have c2:w.cell? ⟨b,2,none⟩=some e:=by simp[Xg,a]
 have c3:w.cell? ⟨b,3,none⟩=some f:=by simp[Xg,a]
 have c4:w.cell? ⟨b,4,none⟩=some g:=by simp[Xg,a]
 have c5:w.cell? ⟨b,5,none⟩=some a5:=by simp[Xg,a]
 have o:w.cell? ⟨b,6,none⟩=some h:=by simp[Xg,a]
 have l:w.cell? ⟨b,7,none⟩=some j:=by simp[Xg,a]
 have k:w.cell? ⟨b,8,none⟩=some c:=by simp[Xg,a]
 simp[results,p,n,m,go_sem,c0,c1,c2,c3,c4,c5,o,l,k]
structure Ir (w:Xh) (b:Nat) (r:RI):Prop where
 c:w.heap[b]?=some (.cells (AK r).toArray 177)
theorem Ir.cells {w:Xh} {b:Nat} {r:RI} (h:Ir w b r):w.cell? ⟨b,0,none⟩=some (.string (bs r.i.op))/\w.cell? ⟨b,1,none⟩=some (.int .i64 r.i.r)/\w.cell? ⟨b,2,none⟩=some (.bool r.i.aR)/\w.cell? ⟨b,3,none⟩=some (.int .i64 r.i.aN)/\w.cell? ⟨b,4,none⟩=some (.bool r.i.bR)/\w.cell? ⟨b,5,none⟩=some (.int .i64 r.i.bN)/\w.cell? ⟨b,6,none⟩=some (.int .i64 r.i.x)/\w.cell? ⟨b,7,none⟩=some (.int .i64 r.line)/\w.cell? ⟨b,8,none⟩=some (.string (bs r.word)):=by
 simp[Xg,h.c,AK]
theorem Ir.fz {w:Xh} {b:Nat} {r:RI} (h:Ir w b r) (i:Nat):w.frozen? ⟨b,i,none⟩=false:=by simp[XM,h.c]
structure EU (w:Xh) (wr:Xh) (r:RI):Prop where
 low:Xm w.heap.size w wr
 z:wr.heap[w.heap.size]?=some (.cells Fo.toArray 177)
 x:Ir wr (w.heap.size+1) r
theorem EU.set {w wr a:Xh} {r r':RI} (h:EU w wr r) (i:Ir a (w.heap.size+1) r') (c:∀b,b<wr.heap.size->b≠w.heap.size+1->a.heap[b]?=wr.heap[b]?) (k:wr.heap.size<=a.heap.size) (j:a.os=wr.os) (f:a.tape=wr.tape) (e:a.output=wr.output):EU w a r':=by
 have l:=h.low.size;have g:w.heap.size<wr.heap.size:=(Xa.1 h.z).1
 exact⟨⟨j.trans h.low.os,f.trans h.low.tape,e.trans h.low.output,by omega,λb d=>(c b (by omega) (by omega)).trans (h.low.block b d)⟩,(c _ g (by omega)).trans h.z,i⟩
theorem EU.below {w wr d:Xh} {r:RI} (h:EU w wr r) (a:Xm wr.heap.size wr d):EU w d r:=by
 have f:w.heap.size+1<wr.heap.size:=(Xa.1 h.x.c).1;exact h.set ⟨(a.block _ f).trans h.x.c⟩ (λb e _=>a.block b e) a.size a.os a.tape a.output
theorem Id {v:Xh} {b:Nat} {T:TypeId} {c0 c1 c2 c3 c4 c5 j g f:Xk} (a c d e i a5 k l m:Xk) (h:v.heap[b]?=some (.cells #[c0,c1,c2,c3,c4,c5,j,g,f] T)) :
 (((((((((v.setCell ⟨b,0,none⟩ a).setCell ⟨b,1,none⟩ c).setCell ⟨b,2,none⟩ d).setCell ⟨b,3,none⟩ e).setCell ⟨b,4,none⟩ i).setCell ⟨b,5,none⟩ a5).setCell ⟨b,6,none⟩ k).setCell ⟨b,7,none⟩ l).setCell ⟨b,8,none⟩ m).heap[b]?=some (.cells #[a,c,d,e,i,a5,k,l,m] T):=by
 have n:=(Xj _ b 0 _ _ a h).trans (show _=some (.cells #[a,c1,c2,c3,c4,c5,j,g,f] T) from rfl);have t:=(Xj _ b 1 _ _ c n).trans (show _=some (.cells #[a,c,c2,c3,c4,c5,j,g,f] T) from rfl);have s:=(Xj _ b 2 _ _ d t).trans (show _=some (.cells #[a,c,d,c3,c4,c5,j,g,f] T) from rfl);have w:=(Xj _ b 3 _ _ e s).trans (show _=some (.cells #[a,c,d,e,c4,c5,j,g,f] T) from rfl);have r:=(Xj _ b 4 _ _ i w).trans (show _=some (.cells #[a,c,d,e,i,c5,j,g,f] T) from rfl);have o:=(Xj _ b 5 _ _ a5 r).trans (show _=some (.cells #[a,c,d,e,i,a5,j,g,f] T) from rfl);have u:=(Xj _ b 6 _ _ k o).trans (show _=some (.cells #[a,c,d,e,i,a5,k,g,f] T) from rfl);have p:=(Xj _ b 7 _ _ l u).trans (show _=some (.cells #[a,c,d,e,i,a5,k,l,f] T) from rfl);have q:=(Xj _ b 8 _ _ m p).trans (show _=some (.cells #[a,c,d,e,i,a5,k,l,m] T) from rfl);exact q
theorem IQ {B:Nat} {u v:Xh} {b:Nat} (d j e g f a5 i k c:Xk) (h:Xm B u v) (a:B<=b) :
 Xm B u (((((((((v.setCell ⟨b,0,none⟩ d).setCell ⟨b,1,none⟩ j).setCell ⟨b,2,none⟩ e).setCell ⟨b,3,none⟩ g).setCell ⟨b,4,none⟩ f).setCell ⟨b,5,none⟩ a5).setCell ⟨b,6,none⟩ i).setCell ⟨b,7,none⟩ k).setCell ⟨b,8,none⟩ c):=
 ((((((((h.setCell a _).setCell a _).setCell a _).setCell a _).setCell a _).setCell a _).setCell a _).setCell a _).setCell a _
theorem EU.JB {w wr:Xh} {r:RI} (h:EU w wr r):wr.cell? ⟨w.heap.size,0,none⟩=some (.string Yv)/\wr.cell? ⟨w.heap.size,1,none⟩=some (.int .i64 0)/\wr.cell? ⟨w.heap.size,2,none⟩=some (.bool false)/\wr.cell? ⟨w.heap.size,3,none⟩=some (.int .i64 0)/\wr.cell? ⟨w.heap.size,4,none⟩=some (.bool false)/\wr.cell? ⟨w.heap.size,5,none⟩=some (.int .i64 0)/\wr.cell? ⟨w.heap.size,6,none⟩=some (.int .i64 0)/\wr.cell? ⟨w.heap.size,7,none⟩=some (.int .i64 0)/\wr.cell? ⟨w.heap.size,8,none⟩=some (.string Yv):=by
 simp[Xg,h.z,Fo]
theorem EU.JA {w wr:Xh} {r:RI} (h:EU w wr r) (i:Nat):wr.frozen? ⟨w.heap.size,i,none⟩=false:=by simp[XM,h.z]
theorem EU.wr {w wr:Xh} {r r':RI} {k:Nat} {v:Xk} (h:EU w wr r) (b:(.cells ((AK r).toArray.set! k v) 177:Obj) = .cells (AK r').toArray 177):EU w (wr.setCell ⟨w.heap.size+1,k,none⟩ v) r':=
 h.set ⟨(Xj _ _ k _ _ _ h.x.c).trans (congrArg some b)⟩ (λd _ a=>heap_setCell_other _ _ _ _ a) (by simp) rfl rfl rfl
theorem aeN (t:Tx):∃a n,Gn t = .agg #[.bool a,.int .i64 n]/\(DQ t=true->a=At t/\n=(Bd t:Int)):=by
 unfold Gn
 cases h:DQ t with
 |true=>exact⟨_,_,rfl,λ_=>⟨rfl,rfl⟩⟩
 |false=>exact⟨false,0,rfl,λe=>by cases e⟩
theorem ac8 (f:Tx) (ts:List Tx) (i:Nat):(f::ts).getD (i+1) []=ts.getD i []:=by simp
theorem Iw {c:UInt8} {n:Nat} (h:c≠UInt8.ofNat n) (a:n<256):((c.toNat:Int) == (n:Int))=false:=by
 rw[beq_eq_false_iff_ne];intro e
 apply h
 have:c.toNat=n:=by omega
 exact UInt8.toNat_inj.1 (by rw[this];simp;omega)
theorem aak {w:Xh} {bl:Nat->RT} {base s:Nat} {P:RP} {U:RV} (h:Ak w bl base s P U) (b aj n cap:Nat) (f:Tx) (ts:List Tx) (hn:ts.length+1=n) (M:Ws w (some ⟨b,aj,none⟩) (f::ts)) (bC:n<4000) (hl:∀k,(P.get k).length<1000) (line:Int) :
 Calls Tryz.prog 112 #[Ab s,.slice (some ⟨b,aj,none⟩) n cap,.int .i64 line] w λe w'=>e = .returned (JV (DV P line f ts))/\Xm w.heap.size w w':=by
 have J:=λu=>Lf f u;have a3:=Bg (AG f);have cf:w.cell? ⟨b,aj,none⟩=some (.string (bs f)):=by
  obtain⟨b',o',Y,e2,R⟩:=M 0 (by simp)
  cases Y;exact R
 have bE:b<w.heap.size:=by
  obtain⟨b',o',Y,e2,R⟩:=M 0 (by simp)
  cases Y;exact e2
 have bz:(0:Int)<(n:Int):=by omega
 have HB:Hid (∀x,Xm w.heap.size w (w.alloc x)):=λx=>(Xq _ _).alloc (Xd _) _;obtain⟨w1,aX⟩:∃w1,w.alloc (.cells Fo.toArray 177)=w1:=⟨_,rfl⟩;have bq:w1.heap[w.heap.size]?=some (.cells Fo.toArray 177):=by rw[<-aX];exact Xi w _
 by_cases X:Df f=none
 ·have N:AG f=[63]:=by unfold AG;rw[X]
  have y:Hid (DV P line f ts=none):=by unfold Hid DV;rw[if_pos (.inl X)]
  have aF:((bs (AG f)).toList == [63])=true:=by rw[AL,N];rfl
  unfold Ab;clear h M N;generalize AG f=fm at J a3 aF
  go_enter Tryz.func112,Tryz.ntmps112
  go_wp2_with fail
  refine(J _).mono ?_;rintro e w2 ⟨rfl,rfl⟩
  go_wp2_with fail
  refine XI (Qq0 rfl rfl rfl (Xi w _)) rfl ⟨by rw[y.out];rfl,HB.out _⟩
 ·have aF:((bs (AG f)).toList == [63])=false:=by
   rw[AL]
   rcases Jk f with⟨p,hp,ht,aD⟩|⟨aw,_⟩
   ·have N:AG f=p.2.map Cp:=by unfold AG;rw[aD]
    rw[N];have:∀q,q∈Bb->(q.2.map Cp == [63])=false:=by decide
    exact this p hp
   ·exact absurd aw X
  by_cases ah:ts.length=(AG f).length
  ·have hz:(bs (AG f)).size=ts.length:=by omega
   have aS:((n:Int) != (ts.length:Int)+1)=false:=by simp;omega
   have aP:XN ((ts.length:Int)+1)=(ts.length:Int)+1:=XZ _ (by omega);have y:Hid (DV P line f ts=Fv P (Hf f line) 0 ((AG f).zip ts)):=by unfold Hid DV;rw[if_neg (by simp[X,ah])]
   have aU:Hid (EU w ((w.alloc (.cells Fo.toArray 177)).alloc (.cells (AK (Hf f line)).toArray 177)) (Hf f line)):=by
    refine⟨((Xq _ _).alloc (Xd _) _).alloc (by simp) _,?_,⟨?_⟩⟩
    ·exact(Xv _ _ _ (by simp)).trans (Xi w _)
    ·have:=Xi (w.alloc (.cells Fo.toArray 177)) (.cells (AK (Hf f line)).toArray 177);rw[World.size_alloc] at this;exact this
   have aa:∀i,(h:i<(bs (AG f)).size)->(bs (AG f))[i]'h=(AG f)[i]'(by rw[Bg] at h;exact h):=λi h=>Dx _ i h;replace aa:=Aa aa;obtain⟨a0,aB,r0,s0⟩:=FJ (h.rows 118 (by simp[Cd]));obtain⟨a1,aA,r1,s1⟩:=FJ (h.rows 102 (by simp[Cd]));obtain⟨a2,aG,r2,s2⟩:=FJ (h.rows 109 (by simp[Cd]));have au:Hid (s<w.heap.size):=h.lt h.tp (by simp);have G:Hid (w.heap[s]?=some (.cells #[.slice a0 P.vs.length aB,.slice a1 P.fs.length aA,.slice a2 P.ls.length aG,U.tV] 28)/\Ws w a0 P.vs/\Ws w a1 P.fs/\Ws w a2 P.ls):=⟨by have e:=h.cell;rw[r0,r1,r2] at e;exact e,s0,s1,s2⟩;clear r0 r1 r2 s0 s1 s2;have H:=Aa h;have bt:=Aa M;have aW:=Aa ah;replace hn:=Aa hn;unfold Ab;clear h M a3 ah aX bq;generalize bx:AG f=fm at J aF hz y aa aW
   go_enter Tryz.func112,Tryz.ntmps112
   go_wp2_with fail
   refine(J _).mono ?_;rintro e w2 ⟨rfl,rfl⟩
   go_wp2_with fail
   go_loopw [10,11] (λev iv wr=>∃(i:Nat) (r:RI) (e:Int),i<=ts.length/\iv = .int .i64 i/\ev = .int .i64 e/\Fv P (Hf f line) 0 (fm.zip ts)=Fv P r e ((fm.zip ts).drop i)/\EU w wr r) (λ_ iv _=>ts.length - (intOf iv).toNat)
   case atStart=>exact⟨0,Hf f line,0,Xx _,rfl,rfl,by simp,aU.out⟩
   case round=>
    clear aU cf J aP aS;obtain⟨i,r,e,hi,rfl,rfl,D,B⟩:=hrel
    by_cases h5:i<ts.length
    ·have bf:(i:Int)<(ts.length:Int):=by omega
     have bw:i<fm.length:=by have:=aW.out;omega
     have hg:=aa.out i (by omega);have az:(fm.zip ts).drop i=(fm[i],ts.getD i [])::(fm.zip ts).drop (i+1):=by
      have bj:i<(fm.zip ts).length:=by rw[List.length_zip];omega
      rw[List.drop_eq_getElem_cons bj,List.getElem_zip,List.getD_eq_getElem?_getD,Xe h5];rfl
     rw[az,MQ] at D;have bH:=B.low.size;have ct:wr.cell? ⟨b,aj+(i+1),none⟩=some (.string (bs (ts.getD i []))):=by
      obtain⟨b',o',Y,e2,R⟩:=(bt.out.below B.low) (i+1) (by simp;omega)
      cases Y
      rw[ac8] at R;exact R
     have bI:XN ((i:Int)+1)=(i:Int)+1:=XZ _ (by have:=hn.out;omega);have bD:(0:Int)<=(i:Int)+1:=by omega
     have bO:(i:Int)+1<(n:Int):=by have:=hn.out;omega
     generalize a7:fm[i]=c at hg D;generalize aT:ts.getD i []=t at ct D;replace a7:=Aa a7;replace aT:=Aa aT;replace az:=Aa az;have hA:=λu=>aam t u;obtain⟨aR,aN,aY,A⟩:=aeN t;rw[aY] at hA;have aV:=λu=>MP t u;rw[QF] at aV;replace A:=Aa A;have g:=Aa (⟨D,B⟩:_/\_);clear D B aY
     go_wp2_with fail
     refine(Le t _).mono ?_;rintro T w3 ⟨rfl,rfl⟩
     go_wp2_with fail
     refine(hA _).mono ?_;rintro T S ⟨rfl,aE⟩;obtain⟨I,Q⟩:∃I,S.alloc (.cells #[.bool aR,.int .i64 aN] 175)=I:=⟨_,rfl⟩;have aK:Xm w3.heap.size w3 I:=by rw[<-Q];exact aE.alloc aE.size _
     have am:=g.out.2.below aK;have ax:I.heap[S.heap.size]?=some (.cells #[.bool aR,.int .i64 aN] 175):=by rw[<-Q];exact Xi S _
     have d0:I.cell? ⟨S.heap.size,0,none⟩=some (.bool aR):=by simp[Xg,ax]
     have d1:I.cell? ⟨S.heap.size,1,none⟩=some (.int .i64 aN):=by simp[Xg,ax]
     obtain⟨x0,x1,x2,x3,x4,x5,x6,x7,x8⟩:=am.x.cells;have fz:=am.x.fz;have a:=Aa am;replace Q:=Aa Q;clear am ax aE aK
     go_wp2_with fail
     rw[Q.out];refine(aV _).mono ?_;rintro T K ⟨rfl,rfl⟩
     by_cases c1:c=114
     ·subst c1;have bv:(((114:UInt8).toNat:Int) == 114)=true:=rfl
      cases hr:At t with
      |true=>
       have bb:(0:Int)<=(De t:Int):=by omega
       simp only[if_true]
       by_cases l:r.i.x<0
       ·go_wp2_with fail
        go_roundw
        case rel=>
         refine⟨i+1,Aw P r 114 t,5,by omega,by go_num,rfl,?_,?_⟩
         ·rw[g.out.1,if_pos (by simp[Dm,hr]),if_pos (by simpa [Aw] using l)]
         ·exact a.out.wr (by simp[Aw,AK])
        case measure=>simp[intOf];omega
       ·go_wp2_with fail
        go_roundw
        case rel=>
         refine⟨i+1,Aw P r 114 t,e,by omega,by go_num,rfl,?_,?_⟩
         ·rw[g.out.1,if_pos (by simp[Dm,hr]),if_neg (by simpa [Aw] using l)]
         ·exact a.out.wr (by simp[Aw,AK])
        case measure=>simp[intOf];omega
      |false=>
       simp only[Bool.false_eq_true,if_false];obtain⟨z0,z1,z2,z3,z4,z5,z6,z7,z8⟩:=a.out.JB;have zf:=a.out.JA
       go_wp2_with fail
       have j:=(a.out.wr (k:=1) (v:=.int .i64 0) (r':={r with i:={r.i with r:=0}}) (by simp[AK]));refine XI (Qq0 rfl rfl rfl (Id _ _ _ _ _ _ _ _ _ j.z)) rfl ⟨?_,IQ _ _ _ _ _ _ _ _ _ j.low (Xd _)⟩;rw[y.out,g.out.1,if_neg (by simp[Dm,hr])];rfl
     ·have bG:((c.toNat:Int) == 114)=false:=Iw (n:=114) c1 (by omega);generalize (if At t=true then(De t:Int) else -1)=rz
      by_cases E:c=97
      ·subst E
       cases m:DQ t with
       |true=>
        by_cases l:r.i.x<0
        ·go_wp2_with fail
         go_roundw
         case rel=>
          refine⟨i+1,Aw P r 97 t,5,by omega,by go_num,rfl,?_,?_⟩
          ·rw[g.out.1,if_pos (by simp[Dm,m]),if_pos (by simpa [Aw] using l)]
          ·have j:=((a.out.wr (k:=2) (v:=.bool aR) (r':={r with i:={r.i with aR:=aR}}) (by simp[AK])).wr (k:=3) (v:=.int .i64 aN) (r':={r with i:={r.i with aR:=aR,aN:=aN}}) (by simp[AK]));rw[(A.out m).1,(A.out m).2] at j |-;have d:Aw P r 97 t={r with i:={r.i with aR:=At t,aN:=(Bd t:Int)}}:=by simp[Aw]
           rw[d];exact j
         case measure=>simp[intOf];omega
        ·go_wp2_with fail
         go_roundw
         case rel=>
          refine⟨i+1,Aw P r 97 t,e,by omega,by go_num,rfl,?_,?_⟩
          ·rw[g.out.1,if_pos (by simp[Dm,m]),if_neg (by simpa [Aw] using l)]
          ·have j:=((a.out.wr (k:=2) (v:=.bool aR) (r':={r with i:={r.i with aR:=aR}}) (by simp[AK])).wr (k:=3) (v:=.int .i64 aN) (r':={r with i:={r.i with aR:=aR,aN:=aN}}) (by simp[AK]));rw[(A.out m).1,(A.out m).2] at j |-;have d:Aw P r 97 t={r with i:={r.i with aR:=At t,aN:=(Bd t:Int)}}:=by simp[Aw]
           rw[d];exact j
         case measure=>simp[intOf];omega
       |false=>
        obtain⟨z0,z1,z2,z3,z4,z5,z6,z7,z8⟩:=a.out.JB;have zf:=a.out.JA
        go_wp2_with fail
        have j:=((a.out.wr (k:=2) (v:=.bool aR) (r':={r with i:={r.i with aR:=aR}}) (by simp[AK])).wr (k:=3) (v:=.int .i64 aN) (r':={r with i:={r.i with aR:=aR,aN:=aN}}) (by simp[AK]));refine XI (Qq0 rfl rfl rfl (Id _ _ _ _ _ _ _ _ _ j.z)) rfl ⟨?_,IQ _ _ _ _ _ _ _ _ _ j.low (Xd _)⟩;rw[y.out,g.out.1,if_neg (by simp[Dm,m])];rfl
      ·have bF:((c.toNat:Int) == 97)=false:=Iw (n:=97) E (by omega)
       by_cases F:c=98
       ·subst F
        cases m:DQ t with
        |true=>
         by_cases l:r.i.x<0
         ·go_wp2_with fail
          go_roundw
          case rel=>
           refine⟨i+1,Aw P r 98 t,5,by omega,by go_num,rfl,?_,?_⟩
           ·rw[g.out.1,if_pos (by simp[Dm,m]),if_pos (by simpa [Aw] using l)]
           ·have j:=((a.out.wr (k:=4) (v:=.bool aR) (r':={r with i:={r.i with bR:=aR}}) (by simp[AK])).wr (k:=5) (v:=.int .i64 aN) (r':={r with i:={r.i with bR:=aR,bN:=aN}}) (by simp[AK]));rw[(A.out m).1,(A.out m).2] at j |-;have d:Aw P r 98 t={r with i:={r.i with bR:=At t,bN:=(Bd t:Int)}}:=by simp[Aw]
            rw[d];exact j
          case measure=>simp[intOf];omega
         ·go_wp2_with fail
          go_roundw
          case rel=>
           refine⟨i+1,Aw P r 98 t,e,by omega,by go_num,rfl,?_,?_⟩
           ·rw[g.out.1,if_pos (by simp[Dm,m]),if_neg (by simpa [Aw] using l)]
           ·have j:=((a.out.wr (k:=4) (v:=.bool aR) (r':={r with i:={r.i with bR:=aR}}) (by simp[AK])).wr (k:=5) (v:=.int .i64 aN) (r':={r with i:={r.i with bR:=aR,bN:=aN}}) (by simp[AK]));rw[(A.out m).1,(A.out m).2] at j |-;have d:Aw P r 98 t={r with i:={r.i with bR:=At t,bN:=(Bd t:Int)}}:=by simp[Aw]
            rw[d];exact j
          case measure=>simp[intOf];omega
        |false=>
         obtain⟨z0,z1,z2,z3,z4,z5,z6,z7,z8⟩:=a.out.JB;have zf:=a.out.JA
         go_wp2_with fail
         have j:=((a.out.wr (k:=4) (v:=.bool aR) (r':={r with i:={r.i with bR:=aR}}) (by simp[AK])).wr (k:=5) (v:=.int .i64 aN) (r':={r with i:={r.i with bR:=aR,bN:=aN}}) (by simp[AK]));refine XI (Qq0 rfl rfl rfl (Id _ _ _ _ _ _ _ _ _ j.z)) rfl ⟨?_,IQ _ _ _ _ _ _ _ _ _ j.low (Xd _)⟩;rw[y.out,g.out.1,if_neg (by simp[Dm,m])];rfl
       ·have bM:((c.toNat:Int) == 98)=false:=Iw (n:=98) F (by omega)
        cases C:Av t with
        |false=>
         obtain⟨z0,z1,z2,z3,z4,z5,z6,z7,z8⟩:=a.out.JB;have zf:=a.out.JA
         go_wp2_with fail
         have j:=(a.out.wr (k:=8) (v:=.string (bs t)) (r':={r with word:=t}) (by simp[AK]));refine XI (Qq0 rfl rfl rfl (Id _ _ _ _ _ _ _ _ _ j.z)) rfl ⟨?_,IQ _ _ _ _ _ _ _ _ _ j.low (Xd _)⟩;rw[y.out,g.out.1,if_neg (by simp[Dm,c1,E,F,C])];rfl
        |true=>
         by_cases V:c=120
         ·subst V;have o:=(a.out.wr (k:=8) (v:=.string (bs t)) (r':={r with word:=t}) (by simp[AK])).low;have q0:(K.setCell ⟨w.heap.size+1,8,none⟩ (.string (bs t))).cell? ⟨s,0,none⟩=some (.slice a0 P.vs.length aB):=by
           unfold Xg;rw[o.block s au.out,G.out.1];rfl
          have W:=II a0 P.vs.length aB P.vs t (K.setCell ⟨w.heap.size+1,8,none⟩ (.string (bs t))) rfl (G.out.2.1.below o) (by have:=hl 118;change P.vs.length<1000 at this;omega);clear o
          go_wp2_with fail
          refine W.mono ?_;rintro T w8 ⟨rfl,rfl⟩
          by_cases l:Aq P.vs t<0
          ·go_wp2_with fail
           go_roundw
           case rel=>
            refine⟨i+1,Aw P r 120 t,5,by omega,by go_num,rfl,?_,?_⟩
            ·rw[g.out.1,if_pos (by simp[Dm,C]),if_pos (by simpa [Aw] using l)]
            ·have d:Aw P r 120 t={r with i:={r.i with x:=Aq P.vs t},word:=t}:=by simp[Aw]
             rw[d];exact((a.out.wr (k:=8) (v:=.string (bs t)) (r':={r with word:=t}) (by simp[AK])).wr (k:=6) (v:=.int .i64 (Aq P.vs t)) (r':={r with i:={r.i with x:=Aq P.vs t},word:=t}) (by simp[AK]))
           case measure=>simp[intOf];omega
          ·go_wp2_with fail
           go_roundw
           case rel=>
            refine⟨i+1,Aw P r 120 t,e,by omega,by go_num,rfl,?_,?_⟩
            ·rw[g.out.1,if_pos (by simp[Dm,C]),if_neg (by simpa [Aw] using l)]
            ·have d:Aw P r 120 t={r with i:={r.i with x:=Aq P.vs t},word:=t}:=by simp[Aw]
             rw[d];exact((a.out.wr (k:=8) (v:=.string (bs t)) (r':={r with word:=t}) (by simp[AK])).wr (k:=6) (v:=.int .i64 (Aq P.vs t)) (r':={r with i:={r.i with x:=Aq P.vs t},word:=t}) (by simp[AK]))
           case measure=>simp[intOf];omega
         ·have bu:((c.toNat:Int) == 120)=false:=Iw (n:=120) V (by omega)
          by_cases Z:c=102
          ·subst Z;have o:=(a.out.wr (k:=8) (v:=.string (bs t)) (r':={r with word:=t}) (by simp[AK])).low;have q0:(K.setCell ⟨w.heap.size+1,8,none⟩ (.string (bs t))).cell? ⟨s,1,none⟩=some (.slice a1 P.fs.length aA):=by
            unfold Xg;rw[o.block s au.out,G.out.1];rfl
           have W:=II a1 P.fs.length aA P.fs t (K.setCell ⟨w.heap.size+1,8,none⟩ (.string (bs t))) rfl (G.out.2.2.1.below o) (by have:=hl 102;change P.fs.length<1000 at this;omega);clear o
           go_wp2_with fail
           refine W.mono ?_;rintro T w8 ⟨rfl,rfl⟩
           by_cases l:Aq P.fs t<0
           ·go_wp2_with fail
            go_roundw
            case rel=>
             refine⟨i+1,Aw P r 102 t,5,by omega,by go_num,rfl,?_,?_⟩
             ·rw[g.out.1,if_pos (by simp[Dm,C]),if_pos (by simpa [Aw] using l)]
             ·have d:Aw P r 102 t={r with i:={r.i with x:=Aq P.fs t},word:=t}:=by simp[Aw]
              rw[d];exact((a.out.wr (k:=8) (v:=.string (bs t)) (r':={r with word:=t}) (by simp[AK])).wr (k:=6) (v:=.int .i64 (Aq P.fs t)) (r':={r with i:={r.i with x:=Aq P.fs t},word:=t}) (by simp[AK]))
            case measure=>simp[intOf];omega
           ·go_wp2_with fail
            go_roundw
            case rel=>
             refine⟨i+1,Aw P r 102 t,e,by omega,by go_num,rfl,?_,?_⟩
             ·rw[g.out.1,if_pos (by simp[Dm,C]),if_neg (by simpa [Aw] using l)]
             ·have d:Aw P r 102 t={r with i:={r.i with x:=Aq P.fs t},word:=t}:=by simp[Aw]
              rw[d];exact((a.out.wr (k:=8) (v:=.string (bs t)) (r':={r with word:=t}) (by simp[AK])).wr (k:=6) (v:=.int .i64 (Aq P.fs t)) (r':={r with i:={r.i with x:=Aq P.fs t},word:=t}) (by simp[AK]))
            case measure=>simp[intOf];omega
          ·have bL:((c.toNat:Int) == 102)=false:=Iw (n:=102) Z (by omega)
           by_cases O:c=109
           ·subst O;have o:=(a.out.wr (k:=8) (v:=.string (bs t)) (r':={r with word:=t}) (by simp[AK])).low;have q0:(K.setCell ⟨w.heap.size+1,8,none⟩ (.string (bs t))).cell? ⟨s,2,none⟩=some (.slice a2 P.ls.length aG):=by
             unfold Xg;rw[o.block s au.out,G.out.1];rfl
            have W:=II a2 P.ls.length aG P.ls t (K.setCell ⟨w.heap.size+1,8,none⟩ (.string (bs t))) rfl (G.out.2.2.2.below o) (by have:=hl 109;change P.ls.length<1000 at this;omega);clear o
            go_wp2_with fail
            refine W.mono ?_;rintro T w8 ⟨rfl,rfl⟩
            by_cases l:Aq P.ls t<0
            ·go_wp2_with fail
             go_roundw
             case rel=>
              refine⟨i+1,Aw P r 109 t,5,by omega,by go_num,rfl,?_,?_⟩
              ·rw[g.out.1,if_pos (by simp[Dm,C]),if_pos (by simpa [Aw] using l)]
              ·have d:Aw P r 109 t={r with i:={r.i with x:=Aq P.ls t},word:=t}:=by simp[Aw]
               rw[d];exact((a.out.wr (k:=8) (v:=.string (bs t)) (r':={r with word:=t}) (by simp[AK])).wr (k:=6) (v:=.int .i64 (Aq P.ls t)) (r':={r with i:={r.i with x:=Aq P.ls t},word:=t}) (by simp[AK]))
             case measure=>simp[intOf];omega
            ·go_wp2_with fail
             go_roundw
             case rel=>
              refine⟨i+1,Aw P r 109 t,e,by omega,by go_num,rfl,?_,?_⟩
              ·rw[g.out.1,if_pos (by simp[Dm,C]),if_neg (by simpa [Aw] using l)]
              ·have d:Aw P r 109 t={r with i:={r.i with x:=Aq P.ls t},word:=t}:=by simp[Aw]
               rw[d];exact((a.out.wr (k:=8) (v:=.string (bs t)) (r':={r with word:=t}) (by simp[AK])).wr (k:=6) (v:=.int .i64 (Aq P.ls t)) (r':={r with i:={r.i with x:=Aq P.ls t},word:=t}) (by simp[AK]))
             case measure=>simp[intOf];omega
           ·have bP:((c.toNat:Int) == 109)=false:=Iw (n:=109) O (by omega);have e6:(Aw P r c t).i.x=r.i.x:=by simp[Aw,c1,E,F,V,Z,O]
            replace e6:=Aa e6
            by_cases l:r.i.x<0
            ·go_wp2_with fail
             go_roundw
             case rel=>
              refine⟨i+1,Aw P r c t,5,by omega,by go_num,rfl,?_,?_⟩
              ·rw[g.out.1,if_pos (by simp[Dm,c1,E,F,C]),if_pos (by rw[e6.out];exact l)]
              ·have d:Aw P r c t={r with word:=t}:=by simp[Aw,c1,E,F,V,Z,O]
               rw[d];exact(a.out.wr (k:=8) (v:=.string (bs t)) (r':={r with word:=t}) (by simp[AK]))
             case measure=>simp[intOf];omega
            ·go_wp2_with fail
             go_roundw
             case rel=>
              refine⟨i+1,Aw P r c t,e,by omega,by go_num,rfl,?_,?_⟩
              ·rw[g.out.1,if_pos (by simp[Dm,c1,E,F,C]),if_neg (by rw[e6.out];omega)]
              ·have d:Aw P r c t={r with word:=t}:=by simp[Aw,c1,E,F,V,Z,O]
               rw[d];exact(a.out.wr (k:=8) (v:=.string (bs t)) (r':={r with word:=t}) (by simp[AK]))
             case measure=>simp[intOf];omega
    ·have bd:i=ts.length:=by omega
     have bf:¬((i:Int)<(ts.length:Int)):=by omega
     have bb:decide ((i:Int)<(ts.length:Int))=false:=by simp;omega
     obtain⟨z0,z1,z2,z3,z4,z5,z6,z7,z8⟩:=B.JB;have zf:=B.JA;obtain⟨x0,x1,x2,x3,x4,x5,x6,x7,x8⟩:=B.x.cells;have hd:(fm.zip ts).drop i=[]:=List.drop_eq_nil_of_le (by rw[List.length_zip];omega);rw[hd] at D;have g:=Aa (⟨D,B⟩:_/\_);clear D B hd bd
     go_wp2_with fail
     refine XI (Qq0 rfl rfl rfl (Id _ _ _ _ _ _ _ _ _ g.out.2.z)) rfl ⟨?_,IQ _ _ _ _ _ _ _ _ _ g.out.2.low (Xd _)⟩;rw[y.out,g.out.1];rfl
  ·have y:Hid (DV P line f ts=none):=by unfold Hid DV;rw[if_pos (.inr ah)]
   have bK:((n:Int) == ((AG f).length:Int)+1)=false:=by simp;omega
   have aS:((n:Int) != ((AG f).length:Int)+1)=true:=by simp;omega
   have aP:XN (((AG f).length:Int)+1)=((AG f).length:Int)+1:=by
    have:(AG f).length<=3:=by
     rcases Jk f with⟨p,hp,ht,aD⟩|⟨aw,_⟩
     ·have N:AG f=p.2.map Cp:=by unfold AG;rw[aD]
      rw[N,Xp];have:∀q,q∈Bb->q.2.length<=3:=by decide
      exact this p hp
     ·exact absurd aw X
    exact XZ _ (by omega)
   unfold Ab;clear h M
   go_enter Tryz.func112,Tryz.ntmps112
   go_wp2_with fail
   refine(J _).mono ?_;rintro e w2 ⟨rfl,rfl⟩
   go_wp2_with fail
   refine XI (Qq0 rfl rfl rfl (Xi w _)) rfl ⟨by rw[y.out];rfl,HB.out _⟩
def FF (P:RP) (k:Nat) (th:AE) (line:Int) (f:Tx) (ts:List Tx) (e:Int) (P':RP):Prop:=
 match DV P line f ts with
 |none=>e=2
 |some (r,e')=>(e'=2/\e=2)\/(e'≠2/\((th.code.length=24/\e=4)\/(th.code.length≠24/\e=e'/\P'={P with thr:=P.thr.set k {th with code:=th.code++[r]}})))
theorem aah {w:Xh} {t:Nat->RT} {base pb:Nat} {P:RP} {U:RV} (h:Ak w t base pb P U) (b Z n cap:Nat) (f:Tx) (ts:List Tx) (hn:ts.length+1=n) (X:CX w t (some ⟨b,Z,none⟩) (f::ts)) (ah:n<4000) (hl:∀k,(P.get k).length<1000) (k:Nat) (th:AE) (hk:P.thr.length=k+1) (I:P.thr[k]?=some th) (hb:P.thr.length<1000) (aP:th.code.length<4000) (line:Int) (ao:f≠[116,104,114,101,97,100]) (ai:f≠[]) (aM:f.length<4000) (am:ts≠[]\/f.getLast?≠some 58) :
 Calls Tryz.prog 51 #[Ab pb,.slice (some ⟨b,Z,none⟩) n cap,.int .i64 line] w (GU w t base pb (FF P k th line f ts)):=by
 obtain⟨p,J⟩:∃p,U.TV[k]?=some p:=⟨_,Xe (by rw[h.len];omega)⟩;obtain⟨y,aT,D⟩:=h.KJ I;have c3:=h.Ha;rw[D,hk] at c3;have G:w.cell? ⟨y,k*3+1,none⟩=some p.1:=h.Hb I J (r:=1) (by omega) D;obtain⟨ca,O,N⟩:=As (h.ths k th p I J).code;rw[N] at G;have cf:=X.at (i:=0) (by simp);have cf:w.cell? ⟨b,Z,none⟩=some (.string (bs f)):=cf;have aK:(0:Int)<(n:Int):=by omega
 have b4:=Gm f [116,104,114,101,97,100];rw[decide_eq_false ao] at b4;have z:Ah w t w.drew t:=⟨rfl,rfl,rfl,Xd _,λ_ _=>rfl,λ_ _ _=>rfl⟩;have C:=Ak.keep (w':=w.drew) h (λ_ _=>rfl) z;have V:=aak C b Z n cap f ts hn (X.ext z).ws ah hl line;have K:=Aa (⟨C,z⟩:_/\_);have aU:XN (k:Int)=(k:Int):=XZ _ (by omega);unfold Ab at V |-;replace J:=Aa J;replace I:=Aa I;replace N:=Aa N;replace D:=Aa D;replace hb:=Aa hb;have aO:Hid (b<w.heap.size):=by obtain⟨b',o',e1,s,_⟩:=X 0 (by simp);cases e1;exact s
 obtain⟨m,Y⟩:∃m,f.length=m+1:=⟨f.length - 1,by have:f.length≠0:=λe=>ai (ZD.1 e);omega⟩;have aA:(bs f).size=m+1:=by rw[Bg,Y]
 have ap:m<(bs f).size:=by omega
 have aw:XN (m:Int)=(m:Int):=XZ _ (by omega);have hv:=Aa (rfl:DV P line f ts=DV P line f ts)
 by_cases ar:((n:Int) == 1)=true
 ·have aQ:((((bs f)[m]'ap).toNat:Int) == 58)=false:=by
   have ht:ts=[]:=ZD.1 (by simp at ar;omega);have hg:f.getLast?≠some 58:=by rcases am with h|h;exact absurd ht h;exact h
   apply Iw (n:=58) _ (by omega)
   intro e
   apply hg
   rw[List.getLast?_eq_getElem?,Y,Nat.add_sub_cancel,Xe (by omega),<-Dx f m ap,e];rfl
  clear h X z C ao ai am hk Y hn hl ah
  go_enter Tryz.func51,Tryz.ntmps51
  go_wp2_with fail
  go_region
  go_wp2_with fail
  refine V.mono ?_;rintro en H ⟨rfl,j⟩;clear c3 cf V
  cases v:DV P line f ts with
  |none=>
   have d:=Aa (⟨K.out.1.below (w':=H.alloc (.cells Fo.toArray 177)) (j.alloc j.size _),K.out.2.trans (.CF (j.alloc j.size (.cells Fo.toArray 177))),v⟩:_/\_/\_);clear j G v;unfold JV Fo
   go_wp2_with fail
   go_ret
   exact⟨2,t,P,U,rfl,d.out.1,d.out.2.1,by unfold FF;rw[d.out.2.2]⟩
  |some q=>
   obtain⟨r,M⟩:=q;obtain⟨c,l⟩:∃c,H.alloc (.cells #[.string (bs r.i.op),.int .i64 r.i.r,.bool r.i.aR,.int .i64 r.i.aN,.bool r.i.bR,.int .i64 r.i.bN,.int .i64 r.i.x,.int .i64 r.line,.string (bs r.word)] 177)=c:=⟨_,rfl⟩;have A:Xm w.drew.heap.size w.drew c:=by rw[<-l];exact j.alloc j.size _
   have o:=K.out.1.below A;have B:=K.out.2.trans (.CF A);have S:c.cell? ⟨y,k*3+1,none⟩=some (.slice ca th.code.length O):=by have e:=o.Hb I.out J.out (r:=1) (by omega) D.out;rw[show (DK (th,p))[1]?=some p.1 from rfl,N.out] at e;exact e
   have E:Ir c H.heap.size r:=⟨by rw[<-l];exact Xi H _⟩;obtain⟨x0,x1,x2,x3,x4,x5,x6,x7,x8⟩:=E.cells;have ag:=S;rw[<-l] at ag;replace l:=Aa l;have d:=Aa (⟨o,B,v⟩:_/\_/\_);unfold JV AK
   by_cases s:M=2
   ·subst s;clear j G v A o B E
    go_wp2_with fail
    go_ret
    rw[l.out]
    exact⟨2,t,P,U,rfl,d.out.1,d.out.2.1,by unfold FF;rw[d.out.2.2];exact .inl ⟨rfl,rfl⟩⟩
   ·have av:(M == 2)=false:=by simpa using s
    replace s:=Aa s
    by_cases u:th.code.length=24
    ·have an:((th.code.length:Int) == 24)=true:=by simp;omega
     replace u:=Aa u;clear j G v A o B E
     go_wp2_with fail
     go_ret
     rw[l.out]
     exact⟨4,t,P,U,rfl,d.out.1,d.out.2.1,by unfold FF;rw[d.out.2.2];exact .inr ⟨s.out,.inl ⟨u.out,rfl⟩⟩⟩
    ·have an:((th.code.length:Int) == 24)=false:=by simp;omega
     have z:Ah c t c.drew t:=⟨rfl,rfl,rfl,Xd _,λ_ _=>rfl,λ_ _ _=>rfl⟩;have C:=Ak.keep (w':=c.drew) o (λ_ _=>rfl) z;obtain⟨g,ac,w3,F,aj,ay,tag3,T,Q⟩:=C.TP I.out J.out r (by omega) D.out;rw[N.out] at F aj;have F:(XL #[196,196] 196 #[.slice ca th.code.length O,.slice (some ⟨c.heap.size,0,none⟩) 1 1]).run Tryz.prog (c.alloc (.cells #[.string (bs r.i.op),.int .i64 r.i.r,.bool r.i.aR,.int .i64 r.i.aN,.bool r.i.bR,.int .i64 r.i.bN,.int .i64 r.i.x,.int .i64 r.line,.string (bs r.word)] 177)).drew = .ok (.slice (some ⟨g,0,none⟩) (th.code.length+1) ac) w3:=F;have W:y<c.heap.size:=o.lt (o.tt y (by rw[D.out];rfl)) (by simp);have aF:(c.alloc (.cells #[.string (bs r.i.op),.int .i64 r.i.r,.bool r.i.aR,.int .i64 r.i.aN,.bool r.i.bR,.int .i64 r.i.bN,.int .i64 r.i.x,.int .i64 r.line,.string (bs r.word)] 177)).cell? ⟨y,k*3+1,none⟩=some (.slice ca th.code.length O):=(Xw (w:=c) (a:=⟨y,k*3+1,none⟩) (Xv c _ y W)).trans S;replace u:=Aa u;have R:=Aa (⟨T,(B.trans z).trans Q⟩:_/\_);clear j G v A o B E W z C T Q
     go_wp2_with fail
     rw[l.out]
     go_region_law (refine FV rfl _ _ _ rfl rfl rfl rfl F ?_)
     all_goals
      go_wp2_with fail
      go_ret
      exact⟨M,tag3,_,_,rfl,R.out.1,R.out.2,by unfold FF;rw[d.out.2.2];exact .inr ⟨s.out,.inr ⟨u.out,rfl,rfl⟩⟩⟩
 ·rw[Bool.not_eq_true] at ar;clear aA ap aw;clear h X z C ao ai am hk Y hn hl ah
  go_enter Tryz.func51,Tryz.ntmps51
  go_wp2_with fail
  go_region
  go_wp2_with fail
  refine V.mono ?_;rintro en H ⟨rfl,j⟩;clear c3 cf V
  cases v:DV P line f ts with
  |none=>
   have d:=Aa (⟨K.out.1.below (w':=H.alloc (.cells Fo.toArray 177)) (j.alloc j.size _),K.out.2.trans (.CF (j.alloc j.size (.cells Fo.toArray 177))),v⟩:_/\_/\_);clear j G v;unfold JV Fo
   go_wp2_with fail
   go_ret
   exact⟨2,t,P,U,rfl,d.out.1,d.out.2.1,by unfold FF;rw[d.out.2.2]⟩
  |some q=>
   obtain⟨r,M⟩:=q;obtain⟨c,l⟩:∃c,H.alloc (.cells #[.string (bs r.i.op),.int .i64 r.i.r,.bool r.i.aR,.int .i64 r.i.aN,.bool r.i.bR,.int .i64 r.i.bN,.int .i64 r.i.x,.int .i64 r.line,.string (bs r.word)] 177)=c:=⟨_,rfl⟩;have A:Xm w.drew.heap.size w.drew c:=by rw[<-l];exact j.alloc j.size _
   have o:=K.out.1.below A;have B:=K.out.2.trans (.CF A);have S:c.cell? ⟨y,k*3+1,none⟩=some (.slice ca th.code.length O):=by have e:=o.Hb I.out J.out (r:=1) (by omega) D.out;rw[show (DK (th,p))[1]?=some p.1 from rfl,N.out] at e;exact e
   have E:Ir c H.heap.size r:=⟨by rw[<-l];exact Xi H _⟩;obtain⟨x0,x1,x2,x3,x4,x5,x6,x7,x8⟩:=E.cells;have ag:=S;rw[<-l] at ag;replace l:=Aa l;have d:=Aa (⟨o,B,v⟩:_/\_/\_);unfold JV AK
   by_cases s:M=2
   ·subst s;clear j G v A o B E
    go_wp2_with fail
    go_ret
    rw[l.out]
    exact⟨2,t,P,U,rfl,d.out.1,d.out.2.1,by unfold FF;rw[d.out.2.2];exact .inl ⟨rfl,rfl⟩⟩
   ·have av:(M == 2)=false:=by simpa using s
    replace s:=Aa s
    by_cases u:th.code.length=24
    ·have an:((th.code.length:Int) == 24)=true:=by simp;omega
     replace u:=Aa u;clear j G v A o B E
     go_wp2_with fail
     go_ret
     rw[l.out]
     exact⟨4,t,P,U,rfl,d.out.1,d.out.2.1,by unfold FF;rw[d.out.2.2];exact .inr ⟨s.out,.inl ⟨u.out,rfl⟩⟩⟩
    ·have an:((th.code.length:Int) == 24)=false:=by simp;omega
     have z:Ah c t c.drew t:=⟨rfl,rfl,rfl,Xd _,λ_ _=>rfl,λ_ _ _=>rfl⟩;have C:=Ak.keep (w':=c.drew) o (λ_ _=>rfl) z;obtain⟨g,ac,w3,F,aj,ay,tag3,T,Q⟩:=C.TP I.out J.out r (by omega) D.out;rw[N.out] at F aj;have F:(XL #[196,196] 196 #[.slice ca th.code.length O,.slice (some ⟨c.heap.size,0,none⟩) 1 1]).run Tryz.prog (c.alloc (.cells #[.string (bs r.i.op),.int .i64 r.i.r,.bool r.i.aR,.int .i64 r.i.aN,.bool r.i.bR,.int .i64 r.i.bN,.int .i64 r.i.x,.int .i64 r.line,.string (bs r.word)] 177)).drew = .ok (.slice (some ⟨g,0,none⟩) (th.code.length+1) ac) w3:=F;have W:y<c.heap.size:=o.lt (o.tt y (by rw[D.out];rfl)) (by simp);have aF:(c.alloc (.cells #[.string (bs r.i.op),.int .i64 r.i.r,.bool r.i.aR,.int .i64 r.i.aN,.bool r.i.bR,.int .i64 r.i.bN,.int .i64 r.i.x,.int .i64 r.line,.string (bs r.word)] 177)).cell? ⟨y,k*3+1,none⟩=some (.slice ca th.code.length O):=(Xw (w:=c) (a:=⟨y,k*3+1,none⟩) (Xv c _ y W)).trans S;replace u:=Aa u;have R:=Aa (⟨T,(B.trans z).trans Q⟩:_/\_);clear j G v A o B E W z C T Q
     go_wp2_with fail
     rw[l.out]
     go_region_law (refine FV rfl _ _ _ rfl rfl rfl rfl F ?_)
     all_goals
      go_wp2_with fail
      go_ret
      exact⟨M,tag3,_,_,rfl,R.out.1,R.out.2,by unfold FF;rw[d.out.2.2];exact .inr ⟨s.out,.inr ⟨u.out,rfl,rfl⟩⟩⟩
theorem abG {w:Xh} {a:Nat} {i:Ad} (h:w.heap[a]?=some (.cells (Br i) 108)):w.cell? ⟨a,0,none⟩=some (.string (bs i.op))/\w.cell? ⟨a,1,none⟩=some (.int .i64 i.r)/\w.cell? ⟨a,2,none⟩=some (.bool i.aR)/\w.cell? ⟨a,3,none⟩=some (.int .i64 i.aN)/\w.cell? ⟨a,4,none⟩=some (.bool i.bR)/\w.cell? ⟨a,5,none⟩=some (.int .i64 i.bN)/\w.cell? ⟨a,6,none⟩=some (.int .i64 i.x):=by
 simp[Xg,h,Br]
theorem aei {w:Xh} {ah:Nat->RT} {base rb Y lb:Nat} {G:RG} (h:Al w ah base rb Y lb G) (C:List (List Ad)) (S:C.length=G.bods.length) (K:(G.nms 116).length=G.bods.length)
 (Z:∀(k a:Nat) (is:List Ad),G.bods[k]?=some a->C[k]?=some is->∃c,G.B a=some c/\c.ins.length=is.length/\c.ins.length<1048576/\∀(j r:Nat),c.ins[j]?=some r->∃i,is[j]?=some i/\G.I r=some i) (hb:G.bods.length<1048576) :
 Calls Tryz.prog 108 #[Ab rb] w λen w'=>en = .returned (.tuple #[])/\∃v L,Jz w w' rb Y lb G v L C/\L.map Prod.fst=G.nms 116:=by
 have c6:=h.Ko;obtain⟨ba,br,F⟩:=JQ h.brow;rw[Xp] at F;rw[F] at c6;have aZ:=h.lt h.trd (by simp);have ay:Hid (Jz w w rb Y lb G (.slice none 0 0) [] []):=⟨h.cell,XE _ _ _ _,(λi p is hp=>by cases hp),rfl,rfl,rfl,rfl,Xd _,λ_ _ _=>rfl⟩;replace F:=Aa F;have H:=Aa h;replace Z:=Aa Z;replace S:=Aa S;replace K:=Aa K;unfold Ab;clear h
 go_enter Tryz.func108,Tryz.ntmps108
 go_wp2_with fail
 go_loopw [12] (λy wr=>∃(k:Nat) (v:Xk) (L:List (Tx×Xk)),k<=G.bods.length/\y = .int .i64 k/\Jz w wr rb Y lb G v L (C.take k)/\L.map Prod.fst=(G.nms 116).take k) (λy _=>G.bods.length - (intOf y).toNat)
 case atStart=>exact⟨0,_,[],Xx _,rfl,by simpa using ay.out,by simp⟩
 case round=>
  rename Xh=>wo
  clear c6 ay;obtain⟨k,v,L,hk,rfl,f,l⟩:=hrel
  by_cases h5:k<G.bods.length
  ·have bd:(k:Int)<(G.bods.length:Int):=by omega
   obtain⟨a,ha⟩:∃a,G.bods[k]?=some a:=⟨_,Xe h5⟩;obtain⟨is,t⟩:∃is,C[k]?=some is:=⟨_,Xe (by have:=S.out;omega)⟩;obtain⟨nm,u⟩:∃nm,(G.nms 116)[k]?=some nm:=⟨_,Xe (by have:=K.out;omega)⟩;obtain⟨c,hc,J,bc,z⟩:=Z.out k a is ha t;have h:=H.out;have D:=h.bodies a c hc;have av:=f.old;have s:∀{b:Nat} {g:RT},ah b=g->g≠.o->g≠.rd->wo.heap[b]?=w.heap[b]?:=λ{b g} e h1 h2=>av b (h.lt e h1) (λe'=>by rw[e',h.trd] at e;exact h2 e.symm);have ca:wo.cell? ⟨a,0,none⟩=some c.cv:=by simp[Xg,s D.ta (by simp) (by simp),D.cell]
   have N:wo.ownsRow base 240 1 G.bV (G.bods.map Ab).length (G.bods.map Ab):=Bw h.brow.row λg e=>s (h.brow.tg g e) (by simp) (by simp);have E:wo.ownsRow base 9 1 (G.V 116) ((G.nms 116).map BS).length ((G.nms 116).map BS):=Bw (h.rows 116 (.inr (.inr (.inr rfl)))).row λg e=>s ((h.rows 116 (.inr (.inr (.inr rfl)))).tg g e) (by simp) (by simp);have q:wo.ownsRow base 244 1 c.cv c.ins.length (c.ins.map Ab):=Bw D.code λg e=>s (D.tcode g e) (by simp) (by simp);have an:(G.bods.map Ab).length=G.bods.length:=by simp
   rw[an] at N;obtain⟨gb,rfl⟩:∃g,ba=some ⟨g,0,none⟩:=by
    rcases N.2 with⟨_,e⟩|⟨g,cap,aW,e,_⟩
    ·omega
    ·rw[F.out] at e;cases e;exact⟨_,rfl⟩
   rw[F.out] at N;have cb:wo.cell? ⟨gb,k,none⟩=some (Ab a):=by rw[N.cellAt k (by omega),Xs,ha];rfl
   have ar:((G.nms 116).map BS).length=G.bods.length:=by rw[Xp];exact K.out
   rw[ar] at E;obtain⟨m,hm⟩:∃m,G.bods.length=m+1:=⟨G.bods.length - 1,by omega⟩;obtain⟨Q,ai,X⟩:∃Q ai,G.V 116 = .slice (some ⟨Q,0,none⟩) G.bods.length ai:=by
    rw[hm] at E |-;exact ownsRow_succ E
   rw[X] at E;have ct:wo.cell? ⟨Q,k,none⟩=some (.string (bs nm)):=by rw[E.cellAt k (by omega),Xs,u];rfl
   have c5:wo.cell? ⟨rb,5,none⟩=some (.slice (some ⟨Q,0,none⟩) G.bods.length ai):=by simp[Xg,f.cell,X]
   have c4:wo.cell? ⟨rb,4,none⟩=some v:=by simp[Xg,f.cell]
   obtain⟨a4,bq,O⟩:=MH q;rw[O] at ca;have bf:a<wo.heap.size:=by have:=h.lt D.ta (by simp);have:=f.size;omega
   have aE:Hid (Iu wo (wo.alloc (.cells #[.string (bs nm),.slice none 0 0] 122)) wo.heap.size nm (.slice none 0 0) []):=⟨Xi wo _,XE _ _ _ _,rfl,rfl,rfl,by simp,λb hb=>Xv wo _ b hb⟩;have HO:=Aa (⟨f,l,q,t,u⟩:_/\_/\_/\_/\_);have HX:=Aa (⟨@s,z,J⟩:(∀{b:Nat} {g:RT},ah b=g->g≠.o->g≠.rd->wo.heap[b]?=w.heap[b]?)/\_/\_);have aO:Hid (rb<wo.heap.size):=by have:=f.size;unfold Hid;omega
   replace O:=Aa O;replace X:=Aa X;replace hm:=Aa hm;unfold Ab at cb;clear f l q s z av N E an ar J t u ha h D
   go_wp2_with fail
   go_loopw [30] (λy w2=>∃(j:Nat) (cv:Xk),j<=c.ins.length/\y = .int .i64 j/\Iu wo w2 wo.heap.size nm cv (is.take j)) (λy _=>c.ins.length - (intOf y).toNat)
   case atStart=>exact⟨0,_,Xx _,rfl,by simpa using aE.out⟩
   case round=>
    clear aE cb ct c5 c4 ca;obtain⟨j,cv,hj,rfl,d⟩:=hrel
    by_cases h6:j<c.ins.length
    ·have bj:(j:Int)<(c.ins.length:Int):=by omega
     obtain⟨s,z,J⟩:=HX.out;obtain⟨f,l,q,t,u⟩:=HO.out;obtain⟨r,ag⟩:∃r,c.ins[j]?=some r:=⟨_,Xe h6⟩;obtain⟨i,hi,aC⟩:=z j r ag;have U:=H.out.ins r i aC;have a3:=H.out.lt U.2 (by simp);have ak:=f.size;obtain⟨A,rfl⟩:∃g,a4=some ⟨g,0,none⟩:=by
      rcases q.2 with⟨_,e⟩|⟨g,cap,aW,e,_⟩
      ·omega
      ·rw[O.out] at e;cases e;exact⟨_,rfl⟩
     rw[O.out] at q;have aw:=(q.lt A rfl).2;have au:wr.heap[A]?=wo.heap[A]?:=d.old A aw;have cc:wr.cell? ⟨A,j,none⟩=some (.pointer (some ⟨r,0,none⟩)):=(Xw (w:=wo) (a:=⟨A,j,none⟩) au).trans (by rw[q.cellAt j (by omega),Xs,ag];rfl);have aq:wr.heap[r]?=some (.cells (Br i) 108):=(d.old r (by omega)).trans ((s U.2 (by simp) (by simp)).trans U.1);obtain⟨i0,i1,i2,i3,i4,i5,i6⟩:=abG aq;have bg:r<wr.heap.size:=by have:=d.size;omega
     have aX:=d.size;have ad:wr.cell? ⟨wo.heap.size,1,none⟩=some cv:=by simp[Xg,d.cell]
     obtain⟨sa,aS,x⟩:=As d.row;have am:(is.take j).length=j:=by rw[Yc];omega
     rw[am] at x;have P:Iu wo wr.drew wo.heap.size nm cv (is.take j):=⟨d.cell,d.row,d.os,d.tape,d.output,d.size,d.old⟩;obtain⟨g,R,w3,n,q1,f1,q0,af,aI⟩:=P.push i (by omega);rw[am] at n af;have n:(XL #[120,120] 120 #[cv,.slice (some ⟨wr.heap.size,0,none⟩) 1 1]).run Tryz.prog (wr.alloc (.cells (Br i) 108)).drew = .ok (.slice (some ⟨g,0,none⟩) (j+1) R) w3:=n;have aA:is.take (j+1)=is.take j++[i]:=by
      obtain⟨M,e⟩:=Xf.1 hi;rw[XR M,e]
     rw[x] at ad n q1;unfold Br at n;have T:=Aa (⟨af,aA⟩:_/\_);replace x:=Aa x;clear af P d aq U a3 ak au aw q s z J f l t u ag hi aC aI am aA
     go_wp2_with fail
     go_region_law (refine FV rfl _ _ _ rfl rfl rfl rfl n ?_)
     all_goals
      go_wp2_with fail
      go_roundw
      case rel=>exact⟨j+1,_,by omega,by go_num,by rw[T.out.2];exact T.out.1⟩
      case measure=>simp[intOf];omega
    ·obtain⟨s,z,J⟩:=HX.out;obtain⟨f,l,q,t,u⟩:=HO.out;have aJ:j=c.ins.length:=by omega
     subst aJ;have ax:is.take c.ins.length=is:=XQ (by omega);rw[ax] at d;have ak:=f.size;have P:Iu wo wr.drew wo.heap.size nm cv is:=⟨d.cell,d.row,d.os,d.tape,d.output,d.size,d.old⟩;have ac:L.length=k:=by
      have:=congrArg List.length l;rw[Xp,Yc,K.out] at this
      omega
     obtain⟨g,R,w3,n,q4,f4,W⟩:=f.push P aZ (by omega);have bi:wr.cell? ⟨wo.heap.size,0,none⟩=some (.string (bs nm)):=by simp[Xg,d.cell]
     have ad:wr.cell? ⟨wo.heap.size,1,none⟩=some cv:=by simp[Xg,d.cell]
     have c4:wr.cell? ⟨rb,4,none⟩=some v:=(Xw (w:=wo) (a:=⟨rb,4,none⟩) (d.old rb aO.out)).trans (by simp[Xg,f.cell]);have aX:=d.size;have bp:rb<wr.heap.size:=by omega
     obtain⟨sa,aS,x⟩:=As d.row;obtain⟨ta,bl,aa⟩:=As f.row;have n:(XL #[23,23] 23 #[v,.slice (some ⟨wr.heap.size,0,none⟩) 1 1]).run Tryz.prog (wr.alloc (.cells #[.string (bs nm),cv] 122)).drew = .ok (.slice (some ⟨g,0,none⟩) (L.length+1) R) w3:=n;rw[aa] at c4 n q4;rw[x] at ad n;have T:=Aa (⟨W,l,t,u,ac⟩:_/\_/\_/\_/\_);replace x:=Aa x;replace aa:=Aa aa;clear W P d ak q s z J f l t u ax ac
     go_wp2_with fail
     go_region_law (refine FV rfl _ _ _ rfl rfl rfl rfl n ?_)
     all_goals
      go_wp2_with fail
      go_roundw
      case rel=>
       obtain⟨W,l,t,u,ac⟩:=T.out;have e1:C.take (k+1)=C.take k++[is]:=by
        obtain⟨M,e⟩:=Xf.1 t;rw[XR M,e]
       have e2:(G.nms 116).take (k+1)=(G.nms 116).take k++[nm]:=by
        obtain⟨M,e⟩:=Xf.1 u;rw[XR M,e]
       refine⟨k+1,.slice (some ⟨g,0,none⟩) (L.length+1) R,L++[(nm,cv)],by omega,by go_num,by rw[e1];exact W,?_⟩;rw[e2,List.map_append,l]
       rfl
      case measure=>simp[intOf];omega
  ·have aF:k=G.bods.length:=by omega
   subst aF;have HE:=Aa (⟨f,l⟩:_/\_);clear f l
   go_wp2_with fail
   go_end0
   obtain⟨f,l⟩:=HE.out;rw[XQ (by have:=S.out;omega)] at f;rw[XQ (by have:=K.out;omega)] at l
   exact⟨rfl,v,L,f,l⟩
end Go.Proofs.YtdcacoifehkioaaGreatDoor
