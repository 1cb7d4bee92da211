import Derived.Test.YtdcacoifehkioaaGreatDoorExR6
import Derived.Test.YtdcacoifehkioaaGreatDoorExR4
open Go renaming Value->Xj,World->Xg,heap_setCell_same->Xk,bodyPost_ret->XN
open ByteArray renaming empty->Yr
open Go.World renaming cell?->Xh,frozen?->XE,alloc_heap_new->Xi,cell?_of_block->Xr,ownsRow_nil->Xy
open Go.RowKit renaming Below->Xn,wrap64->Ya
open Array renaming getElem?_eq_some_iff->Xa
open Go.RowKit.Below renaming refl->Xo,heap_alloc->Xq
open Nat renaming le_refl->Xf,zero_le->XD
open Go.IntWalk renaming wrap64_in->XQ
open List renaming getElem?_eq_getElem->Xc,length_map->Xm,length_eq_zero_iff->Zn,getElem?_map->Xp,length_take->X2,getElem?_eq_some_iff->Xe,take_succ_eq_append_getElem->XA,take_of_length_le->XY
open Go.Builtin renaming append_->XM
set_option maxRecDepth 100000
set_option maxHeartbeats 2000000
set_option linter.unusedVariables false
set_option linter.unusedSimpArgs false
namespace Go.Proofs.YtdcacoifehkioaaGreatDoor
open Go.RowKit Go.Proofs.Cod
def Cx (c:UInt8) (t:Tx):Bool:=if c=114 then Aq t else if c=97\/c=98 then CV t else Ar t
def As (P:RP) (r:RI) (c:UInt8) (t:Tx):RI:=
 if c=114 then {r with i:={r.i with r:=(Cs t:Int)}} else if c=97 then {r with i:={r.i with aR:=Aq t,aN:=(AS t:Int)}} else if c=98 then {r with i:={r.i with bR:=Aq t,bN:=(AS t:Int)}}
 else if c=120 then {r with i:={r.i with x:=Ao P.vs t},word:=t} else if c=102 then {r with i:={r.i with x:=Ao P.fs t},word:=t} else if c=109 then {r with i:={r.i with x:=Ao P.ls t},word:=t} else {r with word:=t}
def Ec (P:RP):RI->Int->List (UInt8×Tx)->Option (RI×Int)
 |r,e,[]=>some (r,e)
 |r,e,p::l=>if Cx p.1 p.2 then Ec P (As P r p.1 p.2) (if (As P r p.1 p.2).i.x<0 then 5 else e) l else none
theorem Lz {P:RP} {r:RI} {e:Int} {c:UInt8} {t:Tx} {l:List (UInt8×Tx)}:Ec P r e ((c,t)::l)=if Cx c t then Ec P (As P r c t) (if (As P r c t).i.x<0 then 5 else e) l else none:=rfl
def Gc (f:Tx) (line:Int):RI:=⟨BX f,line,[]⟩
def DX:List Xj:=[.string Yr,.int .i64 0,.bool false,.int .i64 0,.bool false,.int .i64 0,.int .i64 0,.int .i64 0,.string Yr]
def Db (P:RP) (line:Int) (f:Tx) (ts:List Tx):Option (RI×Int):=if Ct f=none\/ts.length≠(AA f).length then none else Ec P (Gc f line) 0 ((AA f).zip ts)
def IV (o:Option (RI×Int)):Xj:=match o with
 |some (r,e)=>.tuple #[.agg (AC r).toArray,.int .i64 e]
 |none=>.tuple #[.agg DX.toArray,.int .i64 2]
theorem Hu {w:Xg} {fn:Func} {tmps:Array Xj} {b:Nat} {x i f g h c a5 d e j:Xj} (o:fn.results = #[.cell 6 177,.tmp 7]) (u:tmps[6]?=some (.pointer (some ⟨b,0,none⟩))) (m:tmps[7]?=some x) (a:w.heap[b]?=some (.cells #[i,f,g,h,c,a5,d,e,j] 177)):(results fn tmps).run Tryz.prog w = .ok (.tuple #[.agg #[i,f,g,h,c,a5,d,e,j],x]) w:=by
 have p:w.cell? ⟨b,0,none⟩=some i:=by simp[Xh,a]
 have s:w.cell? ⟨b,1,none⟩=some f:=by simp[Xh,a]
 have t:w.cell? ⟨b,2,none⟩=some g:=by simp[Xh,a]
 have n:w.cell? ⟨b,3,none⟩=some h:=by simp[Xh,a]
 have l:w.cell? ⟨b,4,none⟩=some c:=by simp[Xh,a]
 have v:w.cell? ⟨b,5,none⟩=some a5:=by simp[Xh,a]
 have k:w.cell? ⟨b,6,none⟩=some d:=by simp[Xh,a]
 have q:w.cell? ⟨b,7,none⟩=some e:=by simp[Xh,a]
 have r:w.cell? ⟨b,8,none⟩=some j:=by simp[Xh,a]
 simp[results,o,u,m,go_sem,p,s,t,n,l,v,k,q,r]
structure GX (w:Xg) (b:Nat) (r:RI):Prop where
 c:w.heap[b]?=some (.cells (AC r).toArray 177)
theorem GX.cells {w:Xg} {b:Nat} {r:RI} (h:GX w b r):w.cell? ⟨b,0,none⟩=some (.string (bs r.i.op))/\w.cell? ⟨b,1,none⟩=some (.int .i64 r.i.r)/\w.cell? ⟨b,2,none⟩=some (.bool r.i.aR)/\w.cell? ⟨b,3,none⟩=some (.int .i64 r.i.aN)/\w.cell? ⟨b,4,none⟩=some (.bool r.i.bR)/\w.cell? ⟨b,5,none⟩=some (.int .i64 r.i.bN)/\w.cell? ⟨b,6,none⟩=some (.int .i64 r.i.x)/\w.cell? ⟨b,7,none⟩=some (.int .i64 r.line)/\w.cell? ⟨b,8,none⟩=some (.string (bs r.word)):=by
 simp[Xh,h.c,AC]
theorem GX.fz {w:Xg} {b:Nat} {r:RI} (h:GX w b r) (i:Nat):w.frozen? ⟨b,i,none⟩=false:=by simp[XE,h.c]
structure DL (w:Xg) (wr:Xg) (r:RI):Prop where
 low:Xn w.heap.size w wr
 z:wr.heap[w.heap.size]?=some (.cells DX.toArray 177)
 x:GX wr (w.heap.size+1) r
theorem DL.set {w wr a:Xg} {r r':RI} (h:DL w wr r) (f:GX a (w.heap.size+1) r') (c:∀b,b<wr.heap.size->b≠w.heap.size+1->a.heap[b]?=wr.heap[b]?) (k:wr.heap.size<=a.heap.size) (i:a.os=wr.os) (j:a.tape=wr.tape) (e:a.output=wr.output):DL w a r':=by
 have l:=h.low.size;have d:w.heap.size<wr.heap.size:=(Xa.1 h.z).1
 exact⟨⟨i.trans h.low.os,j.trans h.low.tape,e.trans h.low.output,by omega,λb g=>(c b (by omega) (by omega)).trans (h.low.block b g)⟩,(c _ d (by omega)).trans h.z,f⟩
theorem DL.below {w wr d:Xg} {r:RI} (h:DL w wr r) (a:Xn wr.heap.size wr d):DL w d r:=by
 have e:w.heap.size+1<wr.heap.size:=(Xa.1 h.x.c).1;exact h.set ⟨(a.block _ e).trans h.x.c⟩ (λb f _=>a.block b f) a.size a.os a.tape a.output
theorem IZ {v:Xg} {b:Nat} {T:TypeId} {u r q o m l j i e:Xj} (a c d f g a5 k n p:Xj) (h:v.heap[b]?=some (.cells #[u,r,q,o,m,l,j,i,e] T)) :
 (((((((((v.setCell ⟨b,0,none⟩ a).setCell ⟨b,1,none⟩ c).setCell ⟨b,2,none⟩ d).setCell ⟨b,3,none⟩ f).setCell ⟨b,4,none⟩ g).setCell ⟨b,5,none⟩ a5).setCell ⟨b,6,none⟩ k).setCell ⟨b,7,none⟩ n).setCell ⟨b,8,none⟩ p).heap[b]?=some (.cells #[a,c,d,f,g,a5,k,n,p] T):=by
 have y:=(Xk _ b 0 _ _ a h).trans (show _=some (.cells #[a,r,q,o,m,l,j,i,e] T) from rfl);have t:=(Xk _ b 1 _ _ c y).trans (show _=some (.cells #[a,c,q,o,m,l,j,i,e] T) from rfl);have A:=(Xk _ b 2 _ _ d t).trans (show _=some (.cells #[a,c,d,o,m,l,j,i,e] T) from rfl);have s:=(Xk _ b 3 _ _ f A).trans (show _=some (.cells #[a,c,d,f,m,l,j,i,e] T) from rfl);have C:=(Xk _ b 4 _ _ g s).trans (show _=some (.cells #[a,c,d,f,g,l,j,i,e] T) from rfl);have B:=(Xk _ b 5 _ _ a5 C).trans (show _=some (.cells #[a,c,d,f,g,a5,j,i,e] T) from rfl);have x:=(Xk _ b 6 _ _ k B).trans (show _=some (.cells #[a,c,d,f,g,a5,k,i,e] T) from rfl);have z:=(Xk _ b 7 _ _ n x).trans (show _=some (.cells #[a,c,d,f,g,a5,k,n,e] T) from rfl);have w:=(Xk _ b 8 _ _ p z).trans (show _=some (.cells #[a,c,d,f,g,a5,k,n,p] T) from rfl);exact w
theorem Jk {B:Nat} {u v:Xg} {b:Nat} (g k c j d a5 e f i:Xj) (h:Xn B u v) (a:B<=b) :
 Xn B u (((((((((v.setCell ⟨b,0,none⟩ g).setCell ⟨b,1,none⟩ k).setCell ⟨b,2,none⟩ c).setCell ⟨b,3,none⟩ j).setCell ⟨b,4,none⟩ d).setCell ⟨b,5,none⟩ a5).setCell ⟨b,6,none⟩ e).setCell ⟨b,7,none⟩ f).setCell ⟨b,8,none⟩ i):=
 ((((((((h.setCell a _).setCell a _).setCell a _).setCell a _).setCell a _).setCell a _).setCell a _).setCell a _).setCell a _
theorem DL.II {w wr:Xg} {r:RI} (h:DL w wr r):wr.cell? ⟨w.heap.size,0,none⟩=some (.string Yr)/\wr.cell? ⟨w.heap.size,1,none⟩=some (.int .i64 0)/\wr.cell? ⟨w.heap.size,2,none⟩=some (.bool false)/\wr.cell? ⟨w.heap.size,3,none⟩=some (.int .i64 0)/\wr.cell? ⟨w.heap.size,4,none⟩=some (.bool false)/\wr.cell? ⟨w.heap.size,5,none⟩=some (.int .i64 0)/\wr.cell? ⟨w.heap.size,6,none⟩=some (.int .i64 0)/\wr.cell? ⟨w.heap.size,7,none⟩=some (.int .i64 0)/\wr.cell? ⟨w.heap.size,8,none⟩=some (.string Yr):=by
 simp[Xh,h.z,DX]
theorem DL.IH {w wr:Xg} {r:RI} (h:DL w wr r) (i:Nat):wr.frozen? ⟨w.heap.size,i,none⟩=false:=by simp[XE,h.z]
theorem DL.wr {w wr:Xg} {r r':RI} {k:Nat} {v:Xj} (h:DL w wr r) (a:(.cells ((AC r).toArray.set! k v) 177:Obj) = .cells (AC r').toArray 177):DL w (wr.setCell ⟨w.heap.size+1,k,none⟩ v) r':=
 h.set ⟨(Xk _ _ k _ _ _ h.x.c).trans (congrArg some a)⟩ (λd _ b=>heap_setCell_other _ _ _ _ b) (by simp) rfl rfl rfl
theorem acA (t:Tx):∃a n,Fh t = .agg #[.bool a,.int .i64 n]/\(CV t=true->a=Aq t/\n=(AS t:Int)):=by
 unfold Fh
 cases h:CV t with
 |true=>exact⟨_,_,rfl,λ_=>⟨rfl,rfl⟩⟩
 |false=>exact⟨false,0,rfl,λe=>by cases e⟩
theorem aaX (f:Tx) (ts:List Tx) (i:Nat):(f::ts).getD (i+1) []=ts.getD i []:=by simp
theorem Hb {c:UInt8} {n:Nat} (h:c≠UInt8.ofNat n) (a:n<256):((c.toNat:Int) == (n:Int))=false:=by
 rw[beq_eq_false_iff_ne];intro e
 apply h
 have:c.toNat=n:=by omega
 exact UInt8.toNat_inj.1 (by rw[this];simp;omega)
theorem UN {w:Xg} {bq:Nat->RT} {base y:Nat} {P:RP} {U:RV} (h:Ah w bq base y P U) (b aj n cap:Nat) (f:Tx) (ts:List Tx) (hn:ts.length+1=n) (I:Ws w (some ⟨b,aj,none⟩) (f::ts)) (bH:n<4000) (hl:∀k,(P.get k).length<1000) (line:Int) :
 Calls Tryz.prog 112 #[Ab y,.slice (some ⟨b,aj,none⟩) n cap,.int .i64 line] w λe w'=>e = .returned (IV (Db P line f ts))/\Xn w.heap.size w w':=by
 have K:=λu=>JP f u;have a4:=AY (AA f);have cf:w.cell? ⟨b,aj,none⟩=some (.string (bs f)):=by
  obtain⟨b',o',T,e2,Z⟩:=I 0 (by simp)
  cases T;exact Z
 have bM:b<w.heap.size:=by
  obtain⟨b',o',T,e2,Z⟩:=I 0 (by simp)
  cases T;exact e2
 have bY:(0:Int)<(n:Int):=by omega
 have HB:Hid (∀x,Xn w.heap.size w (w.alloc x)):=λx=>(Xo _ _).alloc (Xf _) _;obtain⟨w1,aQ⟩:∃w1,w.alloc (.cells DX.toArray 177)=w1:=⟨_,rfl⟩;have bv:w1.heap[w.heap.size]?=some (.cells DX.toArray 177):=by rw[<-aQ];exact Xi w _
 by_cases W:Ct f=none
 ·have J:AA f=[63]:=by unfold AA;rw[W]
  have s:Hid (Db P line f ts=none):=by unfold Hid Db;rw[if_pos (.inl W)]
  have ax:((bs (AA f)).toList == [63])=true:=by rw[AR,J];rfl
  unfold Ab;clear h I J;generalize AA f=fm at K a4 ax
  go_enter Tryz.func112,Tryz.ntmps112
  go_wp2_with fail
  refine(K _).mono ?_;rintro e w2 ⟨rfl,rfl⟩
  go_wp2_with fail
  refine XN (Hu rfl rfl rfl (Xi w _)) rfl ⟨by rw[s.out];rfl,HB.out _⟩
 ·have ax:((bs (AA f)).toList == [63])=false:=by
   rw[AR]
   rcases In f with⟨p,hp,ht,aw⟩|⟨aB,_⟩
   ·have J:AA f=p.2.map BK:=by unfold AA;rw[aw]
    rw[J];have:∀q,q∈AQ->(q.2.map BK == [63])=false:=by decide
    exact this p hp
   ·exact absurd aB W
  by_cases ab:ts.length=(AA f).length
  ·have hz:(bs (AA f)).size=ts.length:=by omega
   have a6:((n:Int) != (ts.length:Int)+1)=false:=by simp;omega
   have aU:Ya ((ts.length:Int)+1)=(ts.length:Int)+1:=XQ _ (by omega);have s:Hid (Db P line f ts=Ec P (Gc f line) 0 ((AA f).zip ts)):=by unfold Hid Db;rw[if_neg (by simp[W,ab])]
   have be:Hid (DL w ((w.alloc (.cells DX.toArray 177)).alloc (.cells (AC (Gc f line)).toArray 177)) (Gc f line)):=by
    refine⟨((Xo _ _).alloc (Xf _) _).alloc (by simp) _,?_,⟨?_⟩⟩
    ·exact(Xq _ _ _ (by simp)).trans (Xi w _)
    ·have:=Xi (w.alloc (.cells DX.toArray 177)) (.cells (AC (Gc f line)).toArray 177);rw[World.size_alloc] at this;exact this
   have ad:∀i,(h:i<(bs (AA f)).size)->(bs (AA f))[i]'h=(AA f)[i]'(by rw[AY] at h;exact h):=λi h=>CO _ i h;replace ad:=Aa ad;obtain⟨a0,aF,r0,s0⟩:=Es (h.rows 118 (by simp[BE]));obtain⟨a1,aC,r1,s1⟩:=Es (h.rows 102 (by simp[BE]));obtain⟨a2,aI,r2,s2⟩:=Es (h.rows 109 (by simp[BE]));have aA:Hid (y<w.heap.size):=h.lt h.tp (by simp);have N:Hid (w.heap[y]?=some (.cells #[.slice a0 P.vs.length aF,.slice a1 P.fs.length aC,.slice a2 P.ls.length aI,U.tV] 28)/\Ws w a0 P.vs/\Ws w a1 P.fs/\Ws w a2 P.ls):=⟨by have e:=h.cell;rw[r0,r1,r2] at e;exact e,s0,s1,s2⟩;clear r0 r1 r2 s0 s1 s2;have H:=Aa h;have bg:=Aa I;have a5:=Aa ab;replace hn:=Aa hn;unfold Ab;clear h I a4 ab aQ bv;generalize bU:AA f=fm at K ax hz s ad a5
   go_enter Tryz.func112,Tryz.ntmps112
   go_wp2_with fail
   refine(K _).mono ?_;rintro e w2 ⟨rfl,rfl⟩
   go_wp2_with fail
   go_loopw [10,11] (λev iv wr=>∃(i:Nat) (r:RI) (e:Int),i<=ts.length/\iv = .int .i64 i/\ev = .int .i64 e/\Ec P (Gc f line) 0 (fm.zip ts)=Ec P r e ((fm.zip ts).drop i)/\DL w wr r) (λ_ iv _=>ts.length - (intOf iv).toNat)
   case atStart=>exact⟨0,Gc f line,0,XD _,rfl,rfl,by simp,be.out⟩
   case round=>
    clear be cf K aU a6;obtain⟨i,r,e,hi,rfl,rfl,E,C⟩:=hrel
    by_cases h5:i<ts.length
    ·have bp:(i:Int)<(ts.length:Int):=by omega
     have bK:i<fm.length:=by have:=a5.out;omega
     have hg:=ad.out i (by omega);have aJ:(fm.zip ts).drop i=(fm[i],ts.getD i [])::(fm.zip ts).drop (i+1):=by
      have bm:i<(fm.zip ts).length:=by rw[List.length_zip];omega
      rw[List.drop_eq_getElem_cons bm,List.getElem_zip,List.getD_eq_getElem?_getD,Xc h5];rfl
     rw[aJ,Lz] at E;have bJ:=C.low.size;have ct:wr.cell? ⟨b,aj+(i+1),none⟩=some (.string (bs (ts.getD i []))):=by
      obtain⟨b',o',T,e2,Z⟩:=(bg.out.below C.low) (i+1) (by simp;omega)
      cases T
      rw[aaX] at Z;exact Z
     have bF:Ya ((i:Int)+1)=(i:Int)+1:=XQ _ (by have:=hn.out;omega);have bD:(0:Int)<=(i:Int)+1:=by omega
     have bT:(i:Int)+1<(n:Int):=by have:=hn.out;omega
     generalize a9:fm[i]=c at hg E;generalize aP:ts.getD i []=t at ct E;replace a9:=Aa a9;replace aP:=Aa aP;replace aJ:=Aa aJ;have hA:=λu=>UP t u;obtain⟨aR,aN,ba,A⟩:=acA t;rw[ba] at hA;have aZ:=λu=>Ly t u;rw[OK] at aZ;replace A:=Aa A;have g:=Aa (⟨E,C⟩:_/\_);clear E C ba
     go_wp2_with fail
     refine(JO t _).mono ?_;rintro Q w3 ⟨rfl,rfl⟩
     go_wp2_with fail
     refine(hA _).mono ?_;rintro Q S ⟨rfl,aE⟩;obtain⟨O,Y⟩:∃O,S.alloc (.cells #[.bool aR,.int .i64 aN] 175)=O:=⟨_,rfl⟩;have aT:Xn w3.heap.size w3 O:=by rw[<-Y];exact aE.alloc aE.size _
     have ac:=g.out.2.below aT;have aK:O.heap[S.heap.size]?=some (.cells #[.bool aR,.int .i64 aN] 175):=by rw[<-Y];exact Xi S _
     have d0:O.cell? ⟨S.heap.size,0,none⟩=some (.bool aR):=by simp[Xh,aK]
     have d1:O.cell? ⟨S.heap.size,1,none⟩=some (.int .i64 aN):=by simp[Xh,aK]
     obtain⟨x0,x1,x2,x3,x4,x5,x6,x7,x8⟩:=ac.x.cells;have fz:=ac.x.fz;have a:=Aa ac;replace Y:=Aa Y;clear ac aK aE aT
     go_wp2_with fail
     rw[Y.out];refine(aZ _).mono ?_;rintro Q M ⟨rfl,rfl⟩
     by_cases F:c=114
     ·subst F;have bG:(((114:UInt8).toNat:Int) == 114)=true:=rfl
      cases hr:Aq t with
      |true=>
       have bz:(0:Int)<=(Cs t:Int):=by omega
       simp only[if_true]
       by_cases l:r.i.x<0
       ·go_wp2_with fail
        go_roundw
        case rel=>
         refine⟨i+1,As P r 114 t,5,by omega,by go_num,rfl,?_,?_⟩
         ·rw[g.out.1,if_pos (by simp[Cx,hr]),if_pos (by simpa [As] using l)]
         ·exact a.out.wr (by simp[As,AC])
        case measure=>simp[intOf];omega
       ·go_wp2_with fail
        go_roundw
        case rel=>
         refine⟨i+1,As P r 114 t,e,by omega,by go_num,rfl,?_,?_⟩
         ·rw[g.out.1,if_pos (by simp[Cx,hr]),if_neg (by simpa [As] using l)]
         ·exact a.out.wr (by simp[As,AC])
        case measure=>simp[intOf];omega
      |false=>
       simp only[Bool.false_eq_true,if_false];obtain⟨z0,z1,z2,z3,z4,z5,z6,z7,z8⟩:=a.out.II;have zf:=a.out.IH
       go_wp2_with fail
       have d:=(a.out.wr (k:=1) (v:=.int .i64 0) (r':={r with i:={r.i with r:=0}}) (by simp[AC]));refine XN (Hu rfl rfl rfl (IZ _ _ _ _ _ _ _ _ _ d.z)) rfl ⟨?_,Jk _ _ _ _ _ _ _ _ _ d.low (Xf _)⟩;rw[s.out,g.out.1,if_neg (by simp[Cx,hr])];rfl
     ·have bX:((c.toNat:Int) == 114)=false:=Hb (n:=114) F (by omega);generalize (if Aq t=true then(Cs t:Int) else -1)=rz
      by_cases D:c=97
      ·subst D
       cases m:CV t with
       |true=>
        by_cases l:r.i.x<0
        ·go_wp2_with fail
         go_roundw
         case rel=>
          refine⟨i+1,As P r 97 t,5,by omega,by go_num,rfl,?_,?_⟩
          ·rw[g.out.1,if_pos (by simp[Cx,m]),if_pos (by simpa [As] using l)]
          ·have d:=((a.out.wr (k:=2) (v:=.bool aR) (r':={r with i:={r.i with aR:=aR}}) (by simp[AC])).wr (k:=3) (v:=.int .i64 aN) (r':={r with i:={r.i with aR:=aR,aN:=aN}}) (by simp[AC]));rw[(A.out m).1,(A.out m).2] at d |-;have j:As P r 97 t={r with i:={r.i with aR:=Aq t,aN:=(AS t:Int)}}:=by simp[As]
           rw[j];exact d
         case measure=>simp[intOf];omega
        ·go_wp2_with fail
         go_roundw
         case rel=>
          refine⟨i+1,As P r 97 t,e,by omega,by go_num,rfl,?_,?_⟩
          ·rw[g.out.1,if_pos (by simp[Cx,m]),if_neg (by simpa [As] using l)]
          ·have d:=((a.out.wr (k:=2) (v:=.bool aR) (r':={r with i:={r.i with aR:=aR}}) (by simp[AC])).wr (k:=3) (v:=.int .i64 aN) (r':={r with i:={r.i with aR:=aR,aN:=aN}}) (by simp[AC]));rw[(A.out m).1,(A.out m).2] at d |-;have j:As P r 97 t={r with i:={r.i with aR:=Aq t,aN:=(AS t:Int)}}:=by simp[As]
           rw[j];exact d
         case measure=>simp[intOf];omega
       |false=>
        obtain⟨z0,z1,z2,z3,z4,z5,z6,z7,z8⟩:=a.out.II;have zf:=a.out.IH
        go_wp2_with fail
        have d:=((a.out.wr (k:=2) (v:=.bool aR) (r':={r with i:={r.i with aR:=aR}}) (by simp[AC])).wr (k:=3) (v:=.int .i64 aN) (r':={r with i:={r.i with aR:=aR,aN:=aN}}) (by simp[AC]));refine XN (Hu rfl rfl rfl (IZ _ _ _ _ _ _ _ _ _ d.z)) rfl ⟨?_,Jk _ _ _ _ _ _ _ _ _ d.low (Xf _)⟩;rw[s.out,g.out.1,if_neg (by simp[Cx,m])];rfl
      ·have bQ:((c.toNat:Int) == 97)=false:=Hb (n:=97) D (by omega)
       by_cases G:c=98
       ·subst G
        cases m:CV t with
        |true=>
         by_cases l:r.i.x<0
         ·go_wp2_with fail
          go_roundw
          case rel=>
           refine⟨i+1,As P r 98 t,5,by omega,by go_num,rfl,?_,?_⟩
           ·rw[g.out.1,if_pos (by simp[Cx,m]),if_pos (by simpa [As] using l)]
           ·have d:=((a.out.wr (k:=4) (v:=.bool aR) (r':={r with i:={r.i with bR:=aR}}) (by simp[AC])).wr (k:=5) (v:=.int .i64 aN) (r':={r with i:={r.i with bR:=aR,bN:=aN}}) (by simp[AC]));rw[(A.out m).1,(A.out m).2] at d |-;have j:As P r 98 t={r with i:={r.i with bR:=Aq t,bN:=(AS t:Int)}}:=by simp[As]
            rw[j];exact d
          case measure=>simp[intOf];omega
         ·go_wp2_with fail
          go_roundw
          case rel=>
           refine⟨i+1,As P r 98 t,e,by omega,by go_num,rfl,?_,?_⟩
           ·rw[g.out.1,if_pos (by simp[Cx,m]),if_neg (by simpa [As] using l)]
           ·have d:=((a.out.wr (k:=4) (v:=.bool aR) (r':={r with i:={r.i with bR:=aR}}) (by simp[AC])).wr (k:=5) (v:=.int .i64 aN) (r':={r with i:={r.i with bR:=aR,bN:=aN}}) (by simp[AC]));rw[(A.out m).1,(A.out m).2] at d |-;have j:As P r 98 t={r with i:={r.i with bR:=Aq t,bN:=(AS t:Int)}}:=by simp[As]
            rw[j];exact d
          case measure=>simp[intOf];omega
        |false=>
         obtain⟨z0,z1,z2,z3,z4,z5,z6,z7,z8⟩:=a.out.II;have zf:=a.out.IH
         go_wp2_with fail
         have d:=((a.out.wr (k:=4) (v:=.bool aR) (r':={r with i:={r.i with bR:=aR}}) (by simp[AC])).wr (k:=5) (v:=.int .i64 aN) (r':={r with i:={r.i with bR:=aR,bN:=aN}}) (by simp[AC]));refine XN (Hu rfl rfl rfl (IZ _ _ _ _ _ _ _ _ _ d.z)) rfl ⟨?_,Jk _ _ _ _ _ _ _ _ _ d.low (Xf _)⟩;rw[s.out,g.out.1,if_neg (by simp[Cx,m])];rfl
       ·have bV:((c.toNat:Int) == 98)=false:=Hb (n:=98) G (by omega)
        cases B:Ar t with
        |false=>
         obtain⟨z0,z1,z2,z3,z4,z5,z6,z7,z8⟩:=a.out.II;have zf:=a.out.IH
         go_wp2_with fail
         have d:=(a.out.wr (k:=8) (v:=.string (bs t)) (r':={r with word:=t}) (by simp[AC]));refine XN (Hu rfl rfl rfl (IZ _ _ _ _ _ _ _ _ _ d.z)) rfl ⟨?_,Jk _ _ _ _ _ _ _ _ _ d.low (Xf _)⟩;rw[s.out,g.out.1,if_neg (by simp[Cx,F,D,G,B])];rfl
        |true=>
         by_cases aa:c=120
         ·subst aa;have o:=(a.out.wr (k:=8) (v:=.string (bs t)) (r':={r with word:=t}) (by simp[AC])).low;have q0:(M.setCell ⟨w.heap.size+1,8,none⟩ (.string (bs t))).cell? ⟨y,0,none⟩=some (.slice a0 P.vs.length aF):=by
           unfold Xh;rw[o.block y aA.out,N.out.1];rfl
          have X:=Hn a0 P.vs.length aF P.vs t (M.setCell ⟨w.heap.size+1,8,none⟩ (.string (bs t))) rfl (N.out.2.1.below o) (by have:=hl 118;change P.vs.length<1000 at this;omega);clear o
          go_wp2_with fail
          refine X.mono ?_;rintro Q w8 ⟨rfl,rfl⟩
          by_cases l:Ao P.vs t<0
          ·go_wp2_with fail
           go_roundw
           case rel=>
            refine⟨i+1,As P r 120 t,5,by omega,by go_num,rfl,?_,?_⟩
            ·rw[g.out.1,if_pos (by simp[Cx,B]),if_pos (by simpa [As] using l)]
            ·have j:As P r 120 t={r with i:={r.i with x:=Ao P.vs t},word:=t}:=by simp[As]
             rw[j];exact((a.out.wr (k:=8) (v:=.string (bs t)) (r':={r with word:=t}) (by simp[AC])).wr (k:=6) (v:=.int .i64 (Ao P.vs t)) (r':={r with i:={r.i with x:=Ao P.vs t},word:=t}) (by simp[AC]))
           case measure=>simp[intOf];omega
          ·go_wp2_with fail
           go_roundw
           case rel=>
            refine⟨i+1,As P r 120 t,e,by omega,by go_num,rfl,?_,?_⟩
            ·rw[g.out.1,if_pos (by simp[Cx,B]),if_neg (by simpa [As] using l)]
            ·have j:As P r 120 t={r with i:={r.i with x:=Ao P.vs t},word:=t}:=by simp[As]
             rw[j];exact((a.out.wr (k:=8) (v:=.string (bs t)) (r':={r with word:=t}) (by simp[AC])).wr (k:=6) (v:=.int .i64 (Ao P.vs t)) (r':={r with i:={r.i with x:=Ao P.vs t},word:=t}) (by simp[AC]))
           case measure=>simp[intOf];omega
         ·have bS:((c.toNat:Int) == 120)=false:=Hb (n:=120) aa (by omega)
          by_cases V:c=102
          ·subst V;have o:=(a.out.wr (k:=8) (v:=.string (bs t)) (r':={r with word:=t}) (by simp[AC])).low;have q0:(M.setCell ⟨w.heap.size+1,8,none⟩ (.string (bs t))).cell? ⟨y,1,none⟩=some (.slice a1 P.fs.length aC):=by
            unfold Xh;rw[o.block y aA.out,N.out.1];rfl
           have X:=Hn a1 P.fs.length aC P.fs t (M.setCell ⟨w.heap.size+1,8,none⟩ (.string (bs t))) rfl (N.out.2.2.1.below o) (by have:=hl 102;change P.fs.length<1000 at this;omega);clear o
           go_wp2_with fail
           refine X.mono ?_;rintro Q w8 ⟨rfl,rfl⟩
           by_cases l:Ao P.fs t<0
           ·go_wp2_with fail
            go_roundw
            case rel=>
             refine⟨i+1,As P r 102 t,5,by omega,by go_num,rfl,?_,?_⟩
             ·rw[g.out.1,if_pos (by simp[Cx,B]),if_pos (by simpa [As] using l)]
             ·have j:As P r 102 t={r with i:={r.i with x:=Ao P.fs t},word:=t}:=by simp[As]
              rw[j];exact((a.out.wr (k:=8) (v:=.string (bs t)) (r':={r with word:=t}) (by simp[AC])).wr (k:=6) (v:=.int .i64 (Ao P.fs t)) (r':={r with i:={r.i with x:=Ao P.fs t},word:=t}) (by simp[AC]))
            case measure=>simp[intOf];omega
           ·go_wp2_with fail
            go_roundw
            case rel=>
             refine⟨i+1,As P r 102 t,e,by omega,by go_num,rfl,?_,?_⟩
             ·rw[g.out.1,if_pos (by simp[Cx,B]),if_neg (by simpa [As] using l)]
             ·have j:As P r 102 t={r with i:={r.i with x:=Ao P.fs t},word:=t}:=by simp[As]
              rw[j];exact((a.out.wr (k:=8) (v:=.string (bs t)) (r':={r with word:=t}) (by simp[AC])).wr (k:=6) (v:=.int .i64 (Ao P.fs t)) (r':={r with i:={r.i with x:=Ao P.fs t},word:=t}) (by simp[AC]))
            case measure=>simp[intOf];omega
          ·have bI:((c.toNat:Int) == 102)=false:=Hb (n:=102) V (by omega)
           by_cases R:c=109
           ·subst R;have o:=(a.out.wr (k:=8) (v:=.string (bs t)) (r':={r with word:=t}) (by simp[AC])).low;have q0:(M.setCell ⟨w.heap.size+1,8,none⟩ (.string (bs t))).cell? ⟨y,2,none⟩=some (.slice a2 P.ls.length aI):=by
             unfold Xh;rw[o.block y aA.out,N.out.1];rfl
            have X:=Hn a2 P.ls.length aI P.ls t (M.setCell ⟨w.heap.size+1,8,none⟩ (.string (bs t))) rfl (N.out.2.2.2.below o) (by have:=hl 109;change P.ls.length<1000 at this;omega);clear o
            go_wp2_with fail
            refine X.mono ?_;rintro Q w8 ⟨rfl,rfl⟩
            by_cases l:Ao P.ls t<0
            ·go_wp2_with fail
             go_roundw
             case rel=>
              refine⟨i+1,As P r 109 t,5,by omega,by go_num,rfl,?_,?_⟩
              ·rw[g.out.1,if_pos (by simp[Cx,B]),if_pos (by simpa [As] using l)]
              ·have j:As P r 109 t={r with i:={r.i with x:=Ao P.ls t},word:=t}:=by simp[As]
               rw[j];exact((a.out.wr (k:=8) (v:=.string (bs t)) (r':={r with word:=t}) (by simp[AC])).wr (k:=6) (v:=.int .i64 (Ao P.ls t)) (r':={r with i:={r.i with x:=Ao P.ls t},word:=t}) (by simp[AC]))
             case measure=>simp[intOf];omega
            ·go_wp2_with fail
             go_roundw
             case rel=>
              refine⟨i+1,As P r 109 t,e,by omega,by go_num,rfl,?_,?_⟩
              ·rw[g.out.1,if_pos (by simp[Cx,B]),if_neg (by simpa [As] using l)]
              ·have j:As P r 109 t={r with i:={r.i with x:=Ao P.ls t},word:=t}:=by simp[As]
               rw[j];exact((a.out.wr (k:=8) (v:=.string (bs t)) (r':={r with word:=t}) (by simp[AC])).wr (k:=6) (v:=.int .i64 (Ao P.ls t)) (r':={r with i:={r.i with x:=Ao P.ls t},word:=t}) (by simp[AC]))
             case measure=>simp[intOf];omega
           ·have bL:((c.toNat:Int) == 109)=false:=Hb (n:=109) R (by omega);have e6:(As P r c t).i.x=r.i.x:=by simp[As,F,D,G,aa,V,R]
            replace e6:=Aa e6
            by_cases l:r.i.x<0
            ·go_wp2_with fail
             go_roundw
             case rel=>
              refine⟨i+1,As P r c t,5,by omega,by go_num,rfl,?_,?_⟩
              ·rw[g.out.1,if_pos (by simp[Cx,F,D,G,B]),if_pos (by rw[e6.out];exact l)]
              ·have j:As P r c t={r with word:=t}:=by simp[As,F,D,G,aa,V,R]
               rw[j];exact(a.out.wr (k:=8) (v:=.string (bs t)) (r':={r with word:=t}) (by simp[AC]))
             case measure=>simp[intOf];omega
            ·go_wp2_with fail
             go_roundw
             case rel=>
              refine⟨i+1,As P r c t,e,by omega,by go_num,rfl,?_,?_⟩
              ·rw[g.out.1,if_pos (by simp[Cx,F,D,G,B]),if_neg (by rw[e6.out];omega)]
              ·have j:As P r c t={r with word:=t}:=by simp[As,F,D,G,aa,V,R]
               rw[j];exact(a.out.wr (k:=8) (v:=.string (bs t)) (r':={r with word:=t}) (by simp[AC]))
             case measure=>simp[intOf];omega
    ·have bB:i=ts.length:=by omega
     have bp:¬((i:Int)<(ts.length:Int)):=by omega
     have bz:decide ((i:Int)<(ts.length:Int))=false:=by simp;omega
     obtain⟨z0,z1,z2,z3,z4,z5,z6,z7,z8⟩:=C.II;have zf:=C.IH;obtain⟨x0,x1,x2,x3,x4,x5,x6,x7,x8⟩:=C.x.cells;have hd:(fm.zip ts).drop i=[]:=List.drop_eq_nil_of_le (by rw[List.length_zip];omega);rw[hd] at E;have g:=Aa (⟨E,C⟩:_/\_);clear E C hd bB
     go_wp2_with fail
     refine XN (Hu rfl rfl rfl (IZ _ _ _ _ _ _ _ _ _ g.out.2.z)) rfl ⟨?_,Jk _ _ _ _ _ _ _ _ _ g.out.2.low (Xf _)⟩;rw[s.out,g.out.1];rfl
  ·have s:Hid (Db P line f ts=none):=by unfold Hid Db;rw[if_pos (.inr ab)]
   have bE:((n:Int) == ((AA f).length:Int)+1)=false:=by simp;omega
   have a6:((n:Int) != ((AA f).length:Int)+1)=true:=by simp;omega
   have aU:Ya (((AA f).length:Int)+1)=((AA f).length:Int)+1:=by
    have:(AA f).length<=3:=by
     rcases In f with⟨p,hp,ht,aw⟩|⟨aB,_⟩
     ·have J:AA f=p.2.map BK:=by unfold AA;rw[aw]
      rw[J,Xm];have:∀q,q∈AQ->q.2.length<=3:=by decide
      exact this p hp
     ·exact absurd aB W
    exact XQ _ (by omega)
   unfold Ab;clear h I
   go_enter Tryz.func112,Tryz.ntmps112
   go_wp2_with fail
   refine(K _).mono ?_;rintro e w2 ⟨rfl,rfl⟩
   go_wp2_with fail
   refine XN (Hu rfl rfl rfl (Xi w _)) rfl ⟨by rw[s.out];rfl,HB.out _⟩
def Eo (P:RP) (k:Nat) (th:Az) (line:Int) (f:Tx) (ts:List Tx) (e:Int) (P':RP):Prop:=
 match Db P line f ts with
 |none=>e=2
 |some (r,e')=>(e'=2/\e=2)\/(e'≠2/\((th.code.length=24/\e=4)\/(th.code.length≠24/\e=e'/\P'={P with thr:=P.thr.set k {th with code:=th.code++[r]}})))
theorem UK {w:Xg} {s:Nat->RT} {base pb:Nat} {P:RP} {U:RV} (h:Ah w s base pb P U) (b Z n cap:Nat) (f:Tx) (ts:List Tx) (hn:ts.length+1=n) (Q:Cm w s (some ⟨b,Z,none⟩) (f::ts)) (ac:n<4000) (hl:∀k,(P.get k).length<1000) (k:Nat) (th:Az) (hk:P.thr.length=k+1) (E:P.thr[k]?=some th) (hb:P.thr.length<1000) (aO:th.code.length<4000) (line:Int) (ab:f≠[116,104,114,101,97,100]) (aj:f≠[]) (aV:f.length<4000) (ah:ts≠[]\/f.getLast?≠some 58) :
 Calls Tryz.prog 51 #[Ab pb,.slice (some ⟨b,Z,none⟩) n cap,.int .i64 line] w (FN w s base pb (Eo P k th line f ts)):=by
 obtain⟨p,K⟩:∃p,U.TV[k]?=some p:=⟨_,Xc (by rw[h.len];omega)⟩;obtain⟨v,aP,C⟩:=h.JE E;have c3:=h.FX;rw[C,hk] at c3;have G:w.cell? ⟨v,k*3+1,none⟩=some p.1:=h.FY E K (r:=1) (by omega) C;obtain⟨ca,O,N⟩:=At (h.ths k th p E K).code;rw[N] at G;have cf:=Q.at (i:=0) (by simp);have cf:w.cell? ⟨b,Z,none⟩=some (.string (bs f)):=cf;have aY:(0:Int)<(n:Int):=by omega
 have b4:=Fg f [116,104,114,101,97,100];rw[decide_eq_false ab] at b4;have u:Ag w s w.drew s:=⟨rfl,rfl,rfl,Xf _,λ_ _=>rfl,λ_ _ _=>rfl⟩;have D:=Ah.keep (w':=w.drew) h (λ_ _=>rfl) u;have X:=UN D b Z n cap f ts hn (Q.ext u).ws ac hl line;have J:=Aa (⟨D,u⟩:_/\_);have aW:Ya (k:Int)=(k:Int):=XQ _ (by omega);unfold Ab at X |-;replace K:=Aa K;replace E:=Aa E;replace N:=Aa N;replace C:=Aa C;replace hb:=Aa hb;have aT:Hid (b<w.heap.size):=by obtain⟨b',o',e1,t,_⟩:=Q 0 (by simp);cases e1;exact t
 obtain⟨m,Y⟩:∃m,f.length=m+1:=⟨f.length - 1,by have:f.length≠0:=λe=>aj (Zn.1 e);omega⟩;have aF:(bs f).size=m+1:=by rw[AY,Y]
 have ag:m<(bs f).size:=by omega
 have au:Ya (m:Int)=(m:Int):=XQ _ (by omega);have hv:=Aa (rfl:Db P line f ts=Db P line f ts)
 by_cases ar:((n:Int) == 1)=true
 ·have aX:((((bs f)[m]'ag).toNat:Int) == 58)=false:=by
   have ht:ts=[]:=Zn.1 (by simp at ar;omega);have hg:f.getLast?≠some 58:=by rcases ah with h|h;exact absurd ht h;exact h
   apply Hb (n:=58) _ (by omega)
   intro e
   apply hg
   rw[List.getLast?_eq_getElem?,Y,Nat.add_sub_cancel,Xc (by omega),<-CO f m ag,e];rfl
  clear h Q u D ab aj ah hk Y hn hl ac
  go_enter Tryz.func51,Tryz.ntmps51
  go_wp2_with fail
  go_region
  go_wp2_with fail
  refine X.mono ?_;rintro en H ⟨rfl,j⟩;clear c3 cf X
  cases y:Db P line f ts with
  |none=>
   have d:=Aa (⟨J.out.1.below (w':=H.alloc (.cells DX.toArray 177)) (j.alloc j.size _),J.out.2.trans (.Ch (j.alloc j.size (.cells DX.toArray 177))),y⟩:_/\_/\_);clear j G y;unfold IV DX
   go_wp2_with fail
   go_ret
   exact⟨2,s,P,U,rfl,d.out.1,d.out.2.1,by unfold Eo;rw[d.out.2.2]⟩
  |some q=>
   obtain⟨r,M⟩:=q;obtain⟨c,o⟩:∃c,H.alloc (.cells #[.string (bs r.i.op),.int .i64 r.i.r,.bool r.i.aR,.int .i64 r.i.aN,.bool r.i.bR,.int .i64 r.i.bN,.int .i64 r.i.x,.int .i64 r.line,.string (bs r.word)] 177)=c:=⟨_,rfl⟩;have A:Xn w.drew.heap.size w.drew c:=by rw[<-o];exact j.alloc j.size _
   have l:=J.out.1.below A;have B:=J.out.2.trans (.Ch A);have R:c.cell? ⟨v,k*3+1,none⟩=some (.slice ca th.code.length O):=by have e:=l.FY E.out K.out (r:=1) (by omega) C.out;rw[show (Da (th,p))[1]?=some p.1 from rfl,N.out] at e;exact e
   have F:GX c H.heap.size r:=⟨by rw[<-o];exact Xi H _⟩;obtain⟨x0,x1,x2,x3,x4,x5,x6,x7,x8⟩:=F.cells;have ap:=R;rw[<-o] at ap;replace o:=Aa o;have d:=Aa (⟨l,B,y⟩:_/\_/\_);unfold IV AC
   by_cases t:M=2
   ·subst t;clear j G y A l B F
    go_wp2_with fail
    go_ret
    rw[o.out]
    exact⟨2,s,P,U,rfl,d.out.1,d.out.2.1,by unfold Eo;rw[d.out.2.2];exact .inl ⟨rfl,rfl⟩⟩
   ·have aH:(M == 2)=false:=by simpa using t
    replace t:=Aa t
    by_cases z:th.code.length=24
    ·have am:((th.code.length:Int) == 24)=true:=by simp;omega
     replace z:=Aa z;clear j G y A l B F
     go_wp2_with fail
     go_ret
     rw[o.out]
     exact⟨4,s,P,U,rfl,d.out.1,d.out.2.1,by unfold Eo;rw[d.out.2.2];exact .inr ⟨t.out,.inl ⟨z.out,rfl⟩⟩⟩
    ·have am:((th.code.length:Int) == 24)=false:=by simp;omega
     have u:Ag c s c.drew s:=⟨rfl,rfl,rfl,Xf _,λ_ _=>rfl,λ_ _ _=>rfl⟩;have D:=Ah.keep (w':=c.drew) l (λ_ _=>rfl) u;obtain⟨g,ak,w3,I,an,aC,tag3,V,S⟩:=D.RU E.out K.out r (by omega) C.out;rw[N.out] at I an;have I:(XM #[196,196] 196 #[.slice ca th.code.length O,.slice (some ⟨c.heap.size,0,none⟩) 1 1]).run Tryz.prog (c.alloc (.cells #[.string (bs r.i.op),.int .i64 r.i.r,.bool r.i.aR,.int .i64 r.i.aN,.bool r.i.bR,.int .i64 r.i.bN,.int .i64 r.i.x,.int .i64 r.line,.string (bs r.word)] 177)).drew = .ok (.slice (some ⟨g,0,none⟩) (th.code.length+1) ak) w3:=I;have T:v<c.heap.size:=l.lt (l.tt v (by rw[C.out];rfl)) (by simp);have aw:(c.alloc (.cells #[.string (bs r.i.op),.int .i64 r.i.r,.bool r.i.aR,.int .i64 r.i.aN,.bool r.i.bR,.int .i64 r.i.bN,.int .i64 r.i.x,.int .i64 r.line,.string (bs r.word)] 177)).cell? ⟨v,k*3+1,none⟩=some (.slice ca th.code.length O):=(Xr (w:=c) (a:=⟨v,k*3+1,none⟩) (Xq c _ v T)).trans R;replace z:=Aa z;have W:=Aa (⟨V,(B.trans u).trans S⟩:_/\_);clear j G y A l B F T u D V S
     go_wp2_with fail
     rw[o.out]
     go_region_law (refine Fs rfl _ _ _ rfl rfl rfl rfl I ?_)
     all_goals
      go_wp2_with fail
      go_ret
      exact⟨M,tag3,_,_,rfl,W.out.1,W.out.2,by unfold Eo;rw[d.out.2.2];exact .inr ⟨t.out,.inr ⟨z.out,rfl,rfl⟩⟩⟩
 ·rw[Bool.not_eq_true] at ar;clear aF ag au;clear h Q u D ab aj ah hk Y hn hl ac
  go_enter Tryz.func51,Tryz.ntmps51
  go_wp2_with fail
  go_region
  go_wp2_with fail
  refine X.mono ?_;rintro en H ⟨rfl,j⟩;clear c3 cf X
  cases y:Db P line f ts with
  |none=>
   have d:=Aa (⟨J.out.1.below (w':=H.alloc (.cells DX.toArray 177)) (j.alloc j.size _),J.out.2.trans (.Ch (j.alloc j.size (.cells DX.toArray 177))),y⟩:_/\_/\_);clear j G y;unfold IV DX
   go_wp2_with fail
   go_ret
   exact⟨2,s,P,U,rfl,d.out.1,d.out.2.1,by unfold Eo;rw[d.out.2.2]⟩
  |some q=>
   obtain⟨r,M⟩:=q;obtain⟨c,o⟩:∃c,H.alloc (.cells #[.string (bs r.i.op),.int .i64 r.i.r,.bool r.i.aR,.int .i64 r.i.aN,.bool r.i.bR,.int .i64 r.i.bN,.int .i64 r.i.x,.int .i64 r.line,.string (bs r.word)] 177)=c:=⟨_,rfl⟩;have A:Xn w.drew.heap.size w.drew c:=by rw[<-o];exact j.alloc j.size _
   have l:=J.out.1.below A;have B:=J.out.2.trans (.Ch A);have R:c.cell? ⟨v,k*3+1,none⟩=some (.slice ca th.code.length O):=by have e:=l.FY E.out K.out (r:=1) (by omega) C.out;rw[show (Da (th,p))[1]?=some p.1 from rfl,N.out] at e;exact e
   have F:GX c H.heap.size r:=⟨by rw[<-o];exact Xi H _⟩;obtain⟨x0,x1,x2,x3,x4,x5,x6,x7,x8⟩:=F.cells;have ap:=R;rw[<-o] at ap;replace o:=Aa o;have d:=Aa (⟨l,B,y⟩:_/\_/\_);unfold IV AC
   by_cases t:M=2
   ·subst t;clear j G y A l B F
    go_wp2_with fail
    go_ret
    rw[o.out]
    exact⟨2,s,P,U,rfl,d.out.1,d.out.2.1,by unfold Eo;rw[d.out.2.2];exact .inl ⟨rfl,rfl⟩⟩
   ·have aH:(M == 2)=false:=by simpa using t
    replace t:=Aa t
    by_cases z:th.code.length=24
    ·have am:((th.code.length:Int) == 24)=true:=by simp;omega
     replace z:=Aa z;clear j G y A l B F
     go_wp2_with fail
     go_ret
     rw[o.out]
     exact⟨4,s,P,U,rfl,d.out.1,d.out.2.1,by unfold Eo;rw[d.out.2.2];exact .inr ⟨t.out,.inl ⟨z.out,rfl⟩⟩⟩
    ·have am:((th.code.length:Int) == 24)=false:=by simp;omega
     have u:Ag c s c.drew s:=⟨rfl,rfl,rfl,Xf _,λ_ _=>rfl,λ_ _ _=>rfl⟩;have D:=Ah.keep (w':=c.drew) l (λ_ _=>rfl) u;obtain⟨g,ak,w3,I,an,aC,tag3,V,S⟩:=D.RU E.out K.out r (by omega) C.out;rw[N.out] at I an;have I:(XM #[196,196] 196 #[.slice ca th.code.length O,.slice (some ⟨c.heap.size,0,none⟩) 1 1]).run Tryz.prog (c.alloc (.cells #[.string (bs r.i.op),.int .i64 r.i.r,.bool r.i.aR,.int .i64 r.i.aN,.bool r.i.bR,.int .i64 r.i.bN,.int .i64 r.i.x,.int .i64 r.line,.string (bs r.word)] 177)).drew = .ok (.slice (some ⟨g,0,none⟩) (th.code.length+1) ak) w3:=I;have T:v<c.heap.size:=l.lt (l.tt v (by rw[C.out];rfl)) (by simp);have aw:(c.alloc (.cells #[.string (bs r.i.op),.int .i64 r.i.r,.bool r.i.aR,.int .i64 r.i.aN,.bool r.i.bR,.int .i64 r.i.bN,.int .i64 r.i.x,.int .i64 r.line,.string (bs r.word)] 177)).cell? ⟨v,k*3+1,none⟩=some (.slice ca th.code.length O):=(Xr (w:=c) (a:=⟨v,k*3+1,none⟩) (Xq c _ v T)).trans R;replace z:=Aa z;have W:=Aa (⟨V,(B.trans u).trans S⟩:_/\_);clear j G y A l B F T u D V S
     go_wp2_with fail
     rw[o.out]
     go_region_law (refine Fs rfl _ _ _ rfl rfl rfl rfl I ?_)
     all_goals
      go_wp2_with fail
      go_ret
      exact⟨M,tag3,_,_,rfl,W.out.1,W.out.2,by unfold Eo;rw[d.out.2.2];exact .inr ⟨t.out,.inr ⟨z.out,rfl,rfl⟩⟩⟩
theorem Wt {w:Xg} {a:Nat} {i:Ac} (h:w.heap[a]?=some (.cells (Bd i) 108)):w.cell? ⟨a,0,none⟩=some (.string (bs i.op))/\w.cell? ⟨a,1,none⟩=some (.int .i64 i.r)/\w.cell? ⟨a,2,none⟩=some (.bool i.aR)/\w.cell? ⟨a,3,none⟩=some (.int .i64 i.aN)/\w.cell? ⟨a,4,none⟩=some (.bool i.bR)/\w.cell? ⟨a,5,none⟩=some (.int .i64 i.bN)/\w.cell? ⟨a,6,none⟩=some (.int .i64 i.x):=by
 simp[Xh,h,Bd]
theorem ab0 {w:Xg} {ai:Nat->RT} {base rb X lb:Nat} {G:RG} (h:Ai w ai base rb X lb G) (C:List (List Ac)) (T:C.length=G.bods.length) (A:(G.nms 116).length=G.bods.length)
 (hB:∀(k a:Nat) (is:List Ac),G.bods[k]?=some a->C[k]?=some is->∃c,G.B a=some c/\c.ins.length=is.length/\c.ins.length<1048576/\∀(j q:Nat),c.ins[j]?=some q->∃i,is[j]?=some i/\G.I q=some i) (hb:G.bods.length<1048576) :
 Calls Tryz.prog 108 #[Ab rb] w λen w'=>en = .returned (.tuple #[])/\∃x L,IG w w' rb X lb G x L C/\L.map Prod.fst=G.nms 116:=by
 have c6:=h.Jj;obtain⟨ba,bf,D⟩:=IS h.brow;rw[Xm] at D;rw[D] at c6;have aO:=h.lt h.trd (by simp);have ar:Hid (IG w w rb X lb G (.slice none 0 0) [] []):=⟨h.cell,Xy _ _ _ _,(λi p is hp=>by cases hp),rfl,rfl,rfl,rfl,Xf _,λ_ _ _=>rfl⟩;replace D:=Aa D;have H:=Aa h;replace hB:=Aa hB;replace T:=Aa T;replace A:=Aa A;unfold Ab;clear h
 go_enter Tryz.func108,Tryz.ntmps108
 go_wp2_with fail
 go_loopw [12] (λy wr=>∃(k:Nat) (x:Xj) (L:List (Tx×Xj)),k<=G.bods.length/\y = .int .i64 k/\IG w wr rb X lb G x L (C.take k)/\L.map Prod.fst=(G.nms 116).take k) (λy _=>G.bods.length - (intOf y).toNat)
 case atStart=>exact⟨0,_,[],XD _,rfl,by simpa using ar.out,by simp⟩
 case round=>
  rename Xg=>wo
  clear c6 ar;obtain⟨k,x,L,hk,rfl,f,l⟩:=hrel
  by_cases h5:k<G.bods.length
  ·have bj:(k:Int)<(G.bods.length:Int):=by omega
   obtain⟨a,ha⟩:∃a,G.bods[k]?=some a:=⟨_,Xc h5⟩;obtain⟨is,u⟩:∃is,C[k]?=some is:=⟨_,Xc (by have:=T.out;omega)⟩;obtain⟨nm,t⟩:∃nm,(G.nms 116)[k]?=some nm:=⟨_,Xc (by have:=A.out;omega)⟩;obtain⟨c,hc,K,bc,z⟩:=hB.out k a is ha u;have h:=H.out;have F:=h.bodies a c hc;have aB:=f.old;have r:∀{b:Nat} {g:RT},ai b=g->g≠.o->g≠.rd->wo.heap[b]?=w.heap[b]?:=λ{b g} e h1 h2=>aB b (h.lt e h1) (λe'=>by rw[e',h.trd] at e;exact h2 e.symm);have ca:wo.cell? ⟨a,0,none⟩=some c.cv:=by simp[Xh,r F.ta (by simp) (by simp),F.cell]
   have P:wo.ownsRow base 240 1 G.bV (G.bods.map Ab).length (G.bods.map Ab):=Bg h.brow.row λg e=>r (h.brow.tg g e) (by simp) (by simp);have E:wo.ownsRow base 9 1 (G.V 116) ((G.nms 116).map BB).length ((G.nms 116).map BB):=Bg (h.rows 116 (.inr (.inr (.inr rfl)))).row λg e=>r ((h.rows 116 (.inr (.inr (.inr rfl)))).tg g e) (by simp) (by simp);have s:wo.ownsRow base 244 1 c.cv c.ins.length (c.ins.map Ab):=Bg F.code λg e=>r (F.tcode g e) (by simp) (by simp);have ax:(G.bods.map Ab).length=G.bods.length:=by simp
   rw[ax] at P;obtain⟨gb,rfl⟩:∃g,ba=some ⟨g,0,none⟩:=by
    rcases P.2 with⟨_,e⟩|⟨g,cap,a0,e,_⟩
    ·omega
    ·rw[D.out] at e;cases e;exact⟨_,rfl⟩
   rw[D.out] at P;have cb:wo.cell? ⟨gb,k,none⟩=some (Ab a):=by rw[P.cellAt k (by omega),Xp,ha];rfl
   have av:((G.nms 116).map BB).length=G.bods.length:=by rw[Xm];exact A.out
   rw[av] at E;obtain⟨m,hm⟩:∃m,G.bods.length=m+1:=⟨G.bods.length - 1,by omega⟩;obtain⟨S,ac,U⟩:∃S ac,G.V 116 = .slice (some ⟨S,0,none⟩) G.bods.length ac:=by
    rw[hm] at E |-;exact ownsRow_succ E
   rw[U] at E;have ct:wo.cell? ⟨S,k,none⟩=some (.string (bs nm)):=by rw[E.cellAt k (by omega),Xp,t];rfl
   have c5:wo.cell? ⟨rb,5,none⟩=some (.slice (some ⟨S,0,none⟩) G.bods.length ac):=by simp[Xh,f.cell,U]
   have Z:wo.cell? ⟨rb,4,none⟩=some x:=by simp[Xh,f.cell]
   obtain⟨aP,bw,N⟩:=Lr s;rw[N] at ca;have br:a<wo.heap.size:=by have:=h.lt F.ta (by simp);have:=f.size;omega
   have an:Hid (GZ wo (wo.alloc (.cells #[.string (bs nm),.slice none 0 0] 122)) wo.heap.size nm (.slice none 0 0) []):=⟨Xi wo _,Xy _ _ _ _,rfl,rfl,rfl,by simp,λb hb=>Xq wo _ b hb⟩;have HO:=Aa (⟨f,l,s,u,t⟩:_/\_/\_/\_/\_);have HX:=Aa (⟨@r,z,K⟩:(∀{b:Nat} {g:RT},ai b=g->g≠.o->g≠.rd->wo.heap[b]?=w.heap[b]?)/\_/\_);have a3:Hid (rb<wo.heap.size):=by have:=f.size;unfold Hid;omega
   replace N:=Aa N;replace U:=Aa U;replace hm:=Aa hm;unfold Ab at cb;clear f l s r z aB P E ax av K u t ha h F
   go_wp2_with fail
   go_loopw [30] (λy w2=>∃(j:Nat) (cv:Xj),j<=c.ins.length/\y = .int .i64 j/\GZ wo w2 wo.heap.size nm cv (is.take j)) (λy _=>c.ins.length - (intOf y).toNat)
   case atStart=>exact⟨0,_,XD _,rfl,by simpa using an.out⟩
   case round=>
    clear an cb ct c5 Z ca;obtain⟨j,cv,hj,rfl,d⟩:=hrel
    by_cases h6:j<c.ins.length
    ·have a9:(j:Int)<(c.ins.length:Int):=by omega
     obtain⟨r,z,K⟩:=HX.out;obtain⟨f,l,s,u,t⟩:=HO.out;obtain⟨q,af⟩:∃q,c.ins[j]?=some q:=⟨_,Xc h6⟩;obtain⟨i,hi,au⟩:=z j q af;have Q:=H.out.ins q i au;have aV:=H.out.lt Q.2 (by simp);have ah:=f.size;obtain⟨J,rfl⟩:∃g,aP=some ⟨g,0,none⟩:=by
      rcases s.2 with⟨_,e⟩|⟨g,cap,a0,e,_⟩
      ·omega
      ·rw[N.out] at e;cases e;exact⟨_,rfl⟩
     rw[N.out] at s;have ap:=(s.lt J rfl).2;have az:wr.heap[J]?=wo.heap[J]?:=d.old J ap;have cc:wr.cell? ⟨J,j,none⟩=some (.pointer (some ⟨q,0,none⟩)):=(Xr (w:=wo) (a:=⟨J,j,none⟩) az).trans (by rw[s.cellAt j (by omega),Xp,af];rfl);have ay:wr.heap[q]?=some (.cells (Bd i) 108):=(d.old q (by omega)).trans ((r Q.2 (by simp) (by simp)).trans Q.1);obtain⟨i0,i1,i2,i3,i4,i5,i6⟩:=Wt ay;have bp:q<wr.heap.size:=by have:=d.size;omega
     have a7:=d.size;have ak:wr.cell? ⟨wo.heap.size,1,none⟩=some cv:=by simp[Xh,d.cell]
     obtain⟨sa,aK,v⟩:=At d.row;have aa:(is.take j).length=j:=by rw[X2];omega
     rw[aa] at v;have M:GZ wo wr.drew wo.heap.size nm cv (is.take j):=⟨d.cell,d.row,d.os,d.tape,d.output,d.size,d.old⟩;obtain⟨g,Y,w3,n,q1,f1,q0,am,aT⟩:=M.push i (by omega);rw[aa] at n am;have n:(XM #[120,120] 120 #[cv,.slice (some ⟨wr.heap.size,0,none⟩) 1 1]).run Tryz.prog (wr.alloc (.cells (Bd i) 108)).drew = .ok (.slice (some ⟨g,0,none⟩) (j+1) Y) w3:=n;have aA:is.take (j+1)=is.take j++[i]:=by
      obtain⟨O,e⟩:=Xe.1 hi;rw[XA O,e]
     rw[v] at ak n q1;unfold Bd at n;have W:=Aa (⟨am,aA⟩:_/\_);replace v:=Aa v;clear am M d ay Q aV ah az ap s r z K f l u t af hi au aT aa aA
     go_wp2_with fail
     go_region_law (refine Fs rfl _ _ _ rfl rfl rfl rfl n ?_)
     all_goals
      go_wp2_with fail
      go_roundw
      case rel=>exact⟨j+1,_,by omega,by go_num,by rw[W.out.2];exact W.out.1⟩
      case measure=>simp[intOf];omega
    ·obtain⟨r,z,K⟩:=HX.out;obtain⟨f,l,s,u,t⟩:=HO.out;have a4:j=c.ins.length:=by omega
     subst a4;have aF:is.take c.ins.length=is:=XY (by omega);rw[aF] at d;have ah:=f.size;have M:GZ wo wr.drew wo.heap.size nm cv is:=⟨d.cell,d.row,d.os,d.tape,d.output,d.size,d.old⟩;have ad:L.length=k:=by
      have:=congrArg List.length l;rw[Xm,X2,A.out] at this
      omega
     obtain⟨g,Y,w3,n,q4,f4,R⟩:=f.push M aO (by omega);have bh:wr.cell? ⟨wo.heap.size,0,none⟩=some (.string (bs nm)):=by simp[Xh,d.cell]
     have ak:wr.cell? ⟨wo.heap.size,1,none⟩=some cv:=by simp[Xh,d.cell]
     have Z:wr.cell? ⟨rb,4,none⟩=some x:=(Xr (w:=wo) (a:=⟨rb,4,none⟩) (d.old rb a3.out)).trans (by simp[Xh,f.cell]);have a7:=d.size;have bt:rb<wr.heap.size:=by omega
     obtain⟨sa,aK,v⟩:=At d.row;obtain⟨ta,bb,ag⟩:=At f.row;have n:(XM #[23,23] 23 #[x,.slice (some ⟨wr.heap.size,0,none⟩) 1 1]).run Tryz.prog (wr.alloc (.cells #[.string (bs nm),cv] 122)).drew = .ok (.slice (some ⟨g,0,none⟩) (L.length+1) Y) w3:=n;rw[ag] at Z n q4;rw[v] at ak n;have W:=Aa (⟨R,l,u,t,ad⟩:_/\_/\_/\_/\_);replace v:=Aa v;replace ag:=Aa ag;clear R M d ah s r z K f l u t aF ad
     go_wp2_with fail
     go_region_law (refine Fs rfl _ _ _ rfl rfl rfl rfl n ?_)
     all_goals
      go_wp2_with fail
      go_roundw
      case rel=>
       obtain⟨R,l,u,t,ad⟩:=W.out;have e1:C.take (k+1)=C.take k++[is]:=by
        obtain⟨O,e⟩:=Xe.1 u;rw[XA O,e]
       have e2:(G.nms 116).take (k+1)=(G.nms 116).take k++[nm]:=by
        obtain⟨O,e⟩:=Xe.1 t;rw[XA O,e]
       refine⟨k+1,.slice (some ⟨g,0,none⟩) (L.length+1) Y,L++[(nm,cv)],by omega,by go_num,by rw[e1];exact R,?_⟩;rw[e2,List.map_append,l]
       rfl
      case measure=>simp[intOf];omega
  ·have aN:k=G.bods.length:=by omega
   subst aN;have HE:=Aa (⟨f,l⟩:_/\_);clear f l
   go_wp2_with fail
   go_end0
   obtain⟨f,l⟩:=HE.out;rw[XY (by have:=T.out;omega)] at f;rw[XY (by have:=A.out;omega)] at l
   exact⟨rfl,x,L,f,l⟩
end Go.Proofs.YtdcacoifehkioaaGreatDoor
