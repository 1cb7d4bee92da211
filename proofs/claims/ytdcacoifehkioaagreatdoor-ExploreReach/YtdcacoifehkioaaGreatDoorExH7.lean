import Derived.Test.YtdcacoifehkioaaGreatDoorExH6
import Derived.Test.YtdcacoifehkioaaGreatDoorExH4
open Go renaming Value->Xk,World->Xh,heap_setCell_same->Xj,bodyPost_ret->XJ
open ByteArray renaming empty->Yv
open Go.World renaming cell?->Xg,frozen?->XP,alloc_heap_new->Xi,cell?_of_block->Xy,ownsRow_nil->XG
open Go.RowKit renaming Below->Xm,wrap64->XO
open Array renaming getElem?_eq_some_iff->Xa
open Go.RowKit.Below renaming refl->Xq,heap_alloc->Xv
open Nat renaming le_refl->Xd,zero_le->Xw
open Go.IntWalk renaming wrap64_in->X2
open List renaming getElem?_eq_getElem->Xe,length_map->Xp,length_eq_zero_iff->ZH,getElem?_map->Xs,length_take->X5,getElem?_eq_some_iff->Xf,take_succ_eq_append_getElem->XQ,take_of_length_le->XM
open Go.Builtin renaming append_->XN
set_option maxRecDepth 100000
set_option maxHeartbeats 2000000
set_option linter.unusedVariables false
set_option linter.unusedSimpArgs false
namespace Go.Proofs.YtdcacoifehkioaaGreatDoor
open Go.RowKit Go.Proofs.Cod
def Do (c:UInt8) (t:Tx):Bool:=if c=114 then As t else if c=97\/c=98 then DT t else Aw t
def Az (P:RP) (r:RI) (c:UInt8) (t:Tx):RI:=
 if c=114 then {r with i:={r.i with r:=(De t:Int)}} else if c=97 then {r with i:={r.i with aR:=As t,aN:=(Bg t:Int)}} else if c=98 then {r with i:={r.i with bR:=As t,bN:=(Bg t:Int)}}
 else if c=120 then {r with i:={r.i with x:=Aq P.vs t},word:=t} else if c=102 then {r with i:={r.i with x:=Aq P.fs t},word:=t} else if c=109 then {r with i:={r.i with x:=Aq P.ls t},word:=t} else {r with word:=t}
def Fw (P:RP):RI->Int->List (UInt8×Tx)->Option (RI×Int)
 |r,e,[]=>some (r,e)
 |r,e,p::l=>if Do p.1 p.2 then Fw P (Az P r p.1 p.2) (if (Az P r p.1 p.2).i.x<0 then 5 else e) l else none
theorem MU {P:RP} {r:RI} {e:Int} {c:UInt8} {t:Tx} {l:List (UInt8×Tx)}:Fw P r e ((c,t)::l)=if Do c t then Fw P (Az P r c t) (if (Az P r c t).i.x<0 then 5 else e) l else none:=rfl
def Hi (f:Tx) (line:Int):RI:=⟨CE f,line,[]⟩
def Fp:List Xk:=[.string Yv,.int .i64 0,.bool false,.int .i64 0,.bool false,.int .i64 0,.int .i64 0,.int .i64 0,.string Yv]
def DZ (P:RP) (line:Int) (f:Tx) (ts:List Tx):Option (RI×Int):=if Df f=none\/ts.length≠(AJ f).length then none else Fw P (Hi f line) 0 ((AJ f).zip ts)
def JZ (o:Option (RI×Int)):Xk:=match o with
 |some (r,e)=>.tuple #[.agg (AN r).toArray,.int .i64 e]
 |none=>.tuple #[.agg Fp.toArray,.int .i64 2]
theorem IR {w:Xh} {fn:Func} {tmps:Array Xk} {b:Nat} {x g i h e j a5 c f d:Xk} (k:fn.results = #[.cell 6 177,.tmp 7]) (m:tmps[6]?=some (.pointer (some ⟨b,0,none⟩))) (o:tmps[7]?=some x) (a:w.heap[b]?=some (.cells #[g,i,h,e,j,a5,c,f,d] 177)):(results fn tmps).run Tryz.prog w = .ok (.tuple #[.agg #[g,i,h,e,j,a5,c,f,d],x]) w:=by
 have c0:w.cell? ⟨b,0,none⟩=some g:=by simp[Xg,a]
 have c1:w.cell? ⟨b,1,none⟩=some i:=by simp[Xg,a]
 have c2:w.cell? ⟨b,2,none⟩=some h:=by simp[Xg,a]
 have c3:w.cell? ⟨b,3,none⟩=some e:=by simp[Xg,a]
 have c4:w.cell? ⟨b,4,none⟩=some j:=by simp[Xg,a]
 have c5:w.cell? ⟨b,5,none⟩=some a5:=by simp[Xg,a]
 have p:w.cell? ⟨b,6,none⟩=some c:=by simp[Xg,a]
 have l:w.cell? ⟨b,7,none⟩=some f:=by simp[Xg,a]
 have n:w.cell? ⟨b,8,none⟩=some d:=by simp[Xg,a]
 simp[results,k,m,o,go_sem,c0,c1,c2,c3,c4,c5,p,l,n]
structure Iu (w:Xh) (b:Nat) (r:RI):Prop where
 c:w.heap[b]?=some (.cells (AN r).toArray 177)
theorem Iu.cells {w:Xh} {b:Nat} {r:RI} (h:Iu w b r):w.cell? ⟨b,0,none⟩=some (.string (bs r.i.op))/\w.cell? ⟨b,1,none⟩=some (.int .i64 r.i.r)/\w.cell? ⟨b,2,none⟩=some (.bool r.i.aR)/\w.cell? ⟨b,3,none⟩=some (.int .i64 r.i.aN)/\w.cell? ⟨b,4,none⟩=some (.bool r.i.bR)/\w.cell? ⟨b,5,none⟩=some (.int .i64 r.i.bN)/\w.cell? ⟨b,6,none⟩=some (.int .i64 r.i.x)/\w.cell? ⟨b,7,none⟩=some (.int .i64 r.line)/\w.cell? ⟨b,8,none⟩=some (.string (bs r.word)):=by
 simp[Xg,h.c,AN]
theorem Iu.fz {w:Xh} {b:Nat} {r:RI} (h:Iu w b r) (i:Nat):w.frozen? ⟨b,i,none⟩=false:=by simp[XP,h.c]
structure EV (w:Xh) (wr:Xh) (r:RI):Prop where
 low:Xm w.heap.size w wr
 z:wr.heap[w.heap.size]?=some (.cells Fp.toArray 177)
 x:Iu wr (w.heap.size+1) r
theorem EV.set {w wr a:Xh} {r r':RI} (h:EV w wr r) (g:Iu a (w.heap.size+1) r') (c:∀b,b<wr.heap.size->b≠w.heap.size+1->a.heap[b]?=wr.heap[b]?) (l:wr.heap.size<=a.heap.size) (i:a.os=wr.os) (j:a.tape=wr.tape) (f:a.output=wr.output):EV w a r':=by
 have k:=h.low.size;have e:w.heap.size<wr.heap.size:=(Xa.1 h.z).1
 exact⟨⟨i.trans h.low.os,j.trans h.low.tape,f.trans h.low.output,by omega,λb d=>(c b (by omega) (by omega)).trans (h.low.block b d)⟩,(c _ e (by omega)).trans h.z,g⟩
theorem EV.below {w wr d:Xh} {r:RI} (h:EV w wr r) (a:Xm wr.heap.size wr d):EV w d r:=by
 have f:w.heap.size+1<wr.heap.size:=(Xa.1 h.x.c).1;exact h.set ⟨(a.block _ f).trans h.x.c⟩ (λb e _=>a.block b e) a.size a.os a.tape a.output
theorem Ih {v:Xh} {b:Nat} {T:TypeId} {c0 c1 c2 c3 c4 c5 j i f:Xk} (a c d e g a5 k l m:Xk) (h:v.heap[b]?=some (.cells #[c0,c1,c2,c3,c4,c5,j,i,f] T)) :
 (((((((((v.setCell ⟨b,0,none⟩ a).setCell ⟨b,1,none⟩ c).setCell ⟨b,2,none⟩ d).setCell ⟨b,3,none⟩ e).setCell ⟨b,4,none⟩ g).setCell ⟨b,5,none⟩ a5).setCell ⟨b,6,none⟩ k).setCell ⟨b,7,none⟩ l).setCell ⟨b,8,none⟩ m).heap[b]?=some (.cells #[a,c,d,e,g,a5,k,l,m] T):=by
 have s:=(Xj _ b 0 _ _ a h).trans (show _=some (.cells #[a,c1,c2,c3,c4,c5,j,i,f] T) from rfl);have r:=(Xj _ b 1 _ _ c s).trans (show _=some (.cells #[a,c,c2,c3,c4,c5,j,i,f] T) from rfl);have w:=(Xj _ b 2 _ _ d r).trans (show _=some (.cells #[a,c,d,c3,c4,c5,j,i,f] T) from rfl);have t:=(Xj _ b 3 _ _ e w).trans (show _=some (.cells #[a,c,d,e,c4,c5,j,i,f] T) from rfl);have q:=(Xj _ b 4 _ _ g t).trans (show _=some (.cells #[a,c,d,e,g,c5,j,i,f] T) from rfl);have p:=(Xj _ b 5 _ _ a5 q).trans (show _=some (.cells #[a,c,d,e,g,a5,j,i,f] T) from rfl);have u:=(Xj _ b 6 _ _ k p).trans (show _=some (.cells #[a,c,d,e,g,a5,k,i,f] T) from rfl);have n:=(Xj _ b 7 _ _ l u).trans (show _=some (.cells #[a,c,d,e,g,a5,k,l,f] T) from rfl);have o:=(Xj _ b 8 _ _ m n).trans (show _=some (.cells #[a,c,d,e,g,a5,k,l,m] T) from rfl);exact o
theorem IT {B:Nat} {u v:Xh} {b:Nat} (g j i e k a5 c f d:Xk) (h:Xm B u v) (a:B<=b) :
 Xm B u (((((((((v.setCell ⟨b,0,none⟩ g).setCell ⟨b,1,none⟩ j).setCell ⟨b,2,none⟩ i).setCell ⟨b,3,none⟩ e).setCell ⟨b,4,none⟩ k).setCell ⟨b,5,none⟩ a5).setCell ⟨b,6,none⟩ c).setCell ⟨b,7,none⟩ f).setCell ⟨b,8,none⟩ d):=
 ((((((((h.setCell a _).setCell a _).setCell a _).setCell a _).setCell a _).setCell a _).setCell a _).setCell a _).setCell a _
theorem EV.JF {w wr:Xh} {r:RI} (h:EV w wr r):wr.cell? ⟨w.heap.size,0,none⟩=some (.string Yv)/\wr.cell? ⟨w.heap.size,1,none⟩=some (.int .i64 0)/\wr.cell? ⟨w.heap.size,2,none⟩=some (.bool false)/\wr.cell? ⟨w.heap.size,3,none⟩=some (.int .i64 0)/\wr.cell? ⟨w.heap.size,4,none⟩=some (.bool false)/\wr.cell? ⟨w.heap.size,5,none⟩=some (.int .i64 0)/\wr.cell? ⟨w.heap.size,6,none⟩=some (.int .i64 0)/\wr.cell? ⟨w.heap.size,7,none⟩=some (.int .i64 0)/\wr.cell? ⟨w.heap.size,8,none⟩=some (.string Yv):=by
 simp[Xg,h.z,Fp]
theorem EV.JE {w wr:Xh} {r:RI} (h:EV w wr r) (i:Nat):wr.frozen? ⟨w.heap.size,i,none⟩=false:=by simp[XP,h.z]
theorem EV.wr {w wr:Xh} {r r':RI} {k:Nat} {v:Xk} (h:EV w wr r) (a:(.cells ((AN r).toArray.set! k v) 177:Obj) = .cells (AN r').toArray 177):EV w (wr.setCell ⟨w.heap.size+1,k,none⟩ v) r':=
 h.set ⟨(Xj _ _ k _ _ _ h.x.c).trans (congrArg some a)⟩ (λd _ b=>heap_setCell_other _ _ _ _ b) (by simp) rfl rfl rfl
theorem aeX (t:Tx):∃a n,Gt t = .agg #[.bool a,.int .i64 n]/\(DT t=true->a=As t/\n=(Bg t:Int)):=by
 unfold Gt
 cases h:DT t with
 |true=>exact⟨_,_,rfl,λ_=>⟨rfl,rfl⟩⟩
 |false=>exact⟨false,0,rfl,λe=>by cases e⟩
theorem adh (f:Tx) (ts:List Tx) (i:Nat):(f::ts).getD (i+1) []=ts.getD i []:=by simp
theorem Iz {c:UInt8} {n:Nat} (h:c≠UInt8.ofNat n) (a:n<256):((c.toNat:Int) == (n:Int))=false:=by
 rw[beq_eq_false_iff_ne];intro e
 apply h
 have:c.toNat=n:=by omega
 exact UInt8.toNat_inj.1 (by rw[this];simp;omega)
theorem aat {w:Xh} {bb:Nat->RT} {base y:Nat} {P:RP} {U:RV} (h:Ak w bb base y P U) (b am n cap:Nat) (f:Tx) (ts:List Tx) (hn:ts.length+1=n) (N:Ws w (some ⟨b,am,none⟩) (f::ts)) (bJ:n<4000) (hl:∀k,(P.get k).length<1000) (line:Int) :
 Calls Tryz.prog 112 #[Ab y,.slice (some ⟨b,am,none⟩) n cap,.int .i64 line] w λe w'=>e = .returned (JZ (DZ P line f ts))/\Xm w.heap.size w w':=by
 have M:=λu=>Lf f u;have aH:=Ba (AJ f);have cf:w.cell? ⟨b,am,none⟩=some (.string (bs f)):=by
  obtain⟨b',o',Z,e2,S⟩:=N 0 (by simp)
  cases Z;exact S
 have bI:b<w.heap.size:=by
  obtain⟨b',o',Z,e2,S⟩:=N 0 (by simp)
  cases Z;exact e2
 have bC:(0:Int)<(n:Int):=by omega
 have HB:Hid (∀x,Xm w.heap.size w (w.alloc x)):=λx=>(Xq _ _).alloc (Xd _) _;obtain⟨w1,a5⟩:∃w1,w.alloc (.cells Fp.toArray 177)=w1:=⟨_,rfl⟩;have bc:w1.heap[w.heap.size]?=some (.cells Fp.toArray 177):=by rw[<-a5];exact Xi w _
 by_cases Q:Df f=none
 ·have J:AJ f=[63]:=by unfold AJ;rw[Q]
  have s:Hid (DZ P line f ts=none):=by unfold Hid DZ;rw[if_pos (.inl Q)]
  have aG:((bs (AJ f)).toList == [63])=true:=by rw[AK,J];rfl
  unfold Ab;clear h N J;generalize AJ f=fm at M aH aG
  go_enter Tryz.func112,Tryz.ntmps112
  go_wp2_with fail
  refine(M _).mono ?_;rintro e w2 ⟨rfl,rfl⟩
  go_wp2_with fail
  refine XJ (IR rfl rfl rfl (Xi w _)) rfl ⟨by rw[s.out];rfl,HB.out _⟩
 ·have aG:((bs (AJ f)).toList == [63])=false:=by
   rw[AK]
   rcases Jm f with⟨p,hp,ht,aq⟩|⟨ay,_⟩
   ·have J:AJ f=p.2.map Cp:=by unfold AJ;rw[aq]
    rw[J];have:∀q,q∈Bd->(q.2.map Cp == [63])=false:=by decide
    exact this p hp
   ·exact absurd ay Q
  by_cases ah:ts.length=(AJ f).length
  ·have hz:(bs (AJ f)).size=ts.length:=by omega
   have aU:((n:Int) != (ts.length:Int)+1)=false:=by simp;omega
   have aI:XO ((ts.length:Int)+1)=(ts.length:Int)+1:=X2 _ (by omega);have s:Hid (DZ P line f ts=Fw P (Hi f line) 0 ((AJ f).zip ts)):=by unfold Hid DZ;rw[if_neg (by simp[Q,ah])]
   have aY:Hid (EV w ((w.alloc (.cells Fp.toArray 177)).alloc (.cells (AN (Hi f line)).toArray 177)) (Hi f line)):=by
    refine⟨((Xq _ _).alloc (Xd _) _).alloc (by simp) _,?_,⟨?_⟩⟩
    ·exact(Xv _ _ _ (by simp)).trans (Xi w _)
    ·have:=Xi (w.alloc (.cells Fp.toArray 177)) (.cells (AN (Hi f line)).toArray 177);rw[World.size_alloc] at this;exact this
   have ad:∀i,(h:i<(bs (AJ f)).size)->(bs (AJ f))[i]'h=(AJ f)[i]'(by rw[Ba] at h;exact h):=λi h=>Dj _ i h;replace ad:=Aa ad;obtain⟨a0,aF,r0,s0⟩:=FM (h.rows 118 (by simp[Cf]));obtain⟨a1,aw,r1,s1⟩:=FM (h.rows 102 (by simp[Cf]));obtain⟨a2,av,r2,s2⟩:=FM (h.rows 109 (by simp[Cf]));have aD:Hid (y<w.heap.size):=h.lt h.tp (by simp);have K:Hid (w.heap[y]?=some (.cells #[.slice a0 P.vs.length aF,.slice a1 P.fs.length aw,.slice a2 P.ls.length av,U.tV] 28)/\Ws w a0 P.vs/\Ws w a1 P.fs/\Ws w a2 P.ls):=⟨by have e:=h.cell;rw[r0,r1,r2] at e;exact e,s0,s1,s2⟩;clear r0 r1 r2 s0 s1 s2;have H:=Aa h;have bj:=Aa N;have aJ:=Aa ah;replace hn:=Aa hn;unfold Ab;clear h N aH ah a5 bc;generalize bA:AJ f=fm at M aG hz s ad aJ
   go_enter Tryz.func112,Tryz.ntmps112
   go_wp2_with fail
   refine(M _).mono ?_;rintro e w2 ⟨rfl,rfl⟩
   go_wp2_with fail
   go_loopw [10,11] (λev iv wr=>∃(i:Nat) (r:RI) (e:Int),i<=ts.length/\iv = .int .i64 i/\ev = .int .i64 e/\Fw P (Hi f line) 0 (fm.zip ts)=Fw P r e ((fm.zip ts).drop i)/\EV w wr r) (λ_ iv _=>ts.length - (intOf iv).toNat)
   case atStart=>exact⟨0,Hi f line,0,Xw _,rfl,rfl,by simp,aY.out⟩
   case round=>
    clear aY cf M aI aU;obtain⟨i,r,e,hi,rfl,rfl,F,B⟩:=hrel
    by_cases h5:i<ts.length
    ·have bt:(i:Int)<(ts.length:Int):=by omega
     have bu:i<fm.length:=by have:=aJ.out;omega
     have hg:=ad.out i (by omega);have ax:(fm.zip ts).drop i=(fm[i],ts.getD i [])::(fm.zip ts).drop (i+1):=by
      have bd:i<(fm.zip ts).length:=by rw[List.length_zip];omega
      rw[List.drop_eq_getElem_cons bd,List.getElem_zip,List.getD_eq_getElem?_getD,Xe h5];rfl
     rw[ax,MU] at F;have bv:=B.low.size;have ct:wr.cell? ⟨b,am+(i+1),none⟩=some (.string (bs (ts.getD i []))):=by
      obtain⟨b',o',Z,e2,S⟩:=(bj.out.below B.low) (i+1) (by simp;omega)
      cases Z
      rw[adh] at S;exact S
     have bz:XO ((i:Int)+1)=(i:Int)+1:=X2 _ (by have:=hn.out;omega);have bH:(0:Int)<=(i:Int)+1:=by omega
     have bP:(i:Int)+1<(n:Int):=by have:=hn.out;omega
     generalize a7:fm[i]=c at hg F;generalize aL:ts.getD i []=t at ct F;replace a7:=Aa a7;replace aL:=Aa aL;replace ax:=Aa ax;have hA:=λu=>aav t u;obtain⟨aR,aN,a4,A⟩:=aeX t;rw[a4] at hA;have a6:=λu=>MT t u;rw[QJ] at a6;replace A:=Aa A;have d:=Aa (⟨F,B⟩:_/\_);clear F B a4
     go_wp2_with fail
     refine(Le t _).mono ?_;rintro X w3 ⟨rfl,rfl⟩
     go_wp2_with fail
     refine(hA _).mono ?_;rintro X T ⟨rfl,aC⟩;obtain⟨G,R⟩:∃G,T.alloc (.cells #[.bool aR,.int .i64 aN] 175)=G:=⟨_,rfl⟩;have aW:Xm w3.heap.size w3 G:=by rw[<-R];exact aC.alloc aC.size _
     have aj:=d.out.2.below aW;have ar:G.heap[T.heap.size]?=some (.cells #[.bool aR,.int .i64 aN] 175):=by rw[<-R];exact Xi T _
     have d0:G.cell? ⟨T.heap.size,0,none⟩=some (.bool aR):=by simp[Xg,ar]
     have d1:G.cell? ⟨T.heap.size,1,none⟩=some (.int .i64 aN):=by simp[Xg,ar]
     obtain⟨x0,x1,x2,x3,x4,x5,x6,x7,x8⟩:=aj.x.cells;have fz:=aj.x.fz;have a:=Aa aj;replace R:=Aa R;clear aj ar aC aW
     go_wp2_with fail
     rw[R.out];refine(a6 _).mono ?_;rintro X I ⟨rfl,rfl⟩
     by_cases c1:c=114
     ·subst c1;have bM:(((114:UInt8).toNat:Int) == 114)=true:=rfl
      cases hr:As t with
      |true=>
       have bi:(0:Int)<=(De t:Int):=by omega
       simp only[if_true]
       by_cases l:r.i.x<0
       ·go_wp2_with fail
        go_roundw
        case rel=>
         refine⟨i+1,Az P r 114 t,5,by omega,by go_num,rfl,?_,?_⟩
         ·rw[d.out.1,if_pos (by simp[Do,hr]),if_pos (by simpa [Az] using l)]
         ·exact a.out.wr (by simp[Az,AN])
        case measure=>simp[intOf];omega
       ·go_wp2_with fail
        go_roundw
        case rel=>
         refine⟨i+1,Az P r 114 t,e,by omega,by go_num,rfl,?_,?_⟩
         ·rw[d.out.1,if_pos (by simp[Do,hr]),if_neg (by simpa [Az] using l)]
         ·exact a.out.wr (by simp[Az,AN])
        case measure=>simp[intOf];omega
      |false=>
       simp only[Bool.false_eq_true,if_false];obtain⟨z0,z1,z2,z3,z4,z5,z6,z7,z8⟩:=a.out.JF;have zf:=a.out.JE
       go_wp2_with fail
       have j:=(a.out.wr (k:=1) (v:=.int .i64 0) (r':={r with i:={r.i with r:=0}}) (by simp[AN]));refine XJ (IR rfl rfl rfl (Ih _ _ _ _ _ _ _ _ _ j.z)) rfl ⟨?_,IT _ _ _ _ _ _ _ _ _ j.low (Xd _)⟩;rw[s.out,d.out.1,if_neg (by simp[Do,hr])];rfl
     ·have bw:((c.toNat:Int) == 114)=false:=Iz (n:=114) c1 (by omega);generalize (if As t=true then(De t:Int) else -1)=rz
      by_cases D:c=97
      ·subst D
       cases m:DT t with
       |true=>
        by_cases l:r.i.x<0
        ·go_wp2_with fail
         go_roundw
         case rel=>
          refine⟨i+1,Az P r 97 t,5,by omega,by go_num,rfl,?_,?_⟩
          ·rw[d.out.1,if_pos (by simp[Do,m]),if_pos (by simpa [Az] using l)]
          ·have j:=((a.out.wr (k:=2) (v:=.bool aR) (r':={r with i:={r.i with aR:=aR}}) (by simp[AN])).wr (k:=3) (v:=.int .i64 aN) (r':={r with i:={r.i with aR:=aR,aN:=aN}}) (by simp[AN]));rw[(A.out m).1,(A.out m).2] at j |-;have g:Az P r 97 t={r with i:={r.i with aR:=As t,aN:=(Bg t:Int)}}:=by simp[Az]
           rw[g];exact j
         case measure=>simp[intOf];omega
        ·go_wp2_with fail
         go_roundw
         case rel=>
          refine⟨i+1,Az P r 97 t,e,by omega,by go_num,rfl,?_,?_⟩
          ·rw[d.out.1,if_pos (by simp[Do,m]),if_neg (by simpa [Az] using l)]
          ·have j:=((a.out.wr (k:=2) (v:=.bool aR) (r':={r with i:={r.i with aR:=aR}}) (by simp[AN])).wr (k:=3) (v:=.int .i64 aN) (r':={r with i:={r.i with aR:=aR,aN:=aN}}) (by simp[AN]));rw[(A.out m).1,(A.out m).2] at j |-;have g:Az P r 97 t={r with i:={r.i with aR:=As t,aN:=(Bg t:Int)}}:=by simp[Az]
           rw[g];exact j
         case measure=>simp[intOf];omega
       |false=>
        obtain⟨z0,z1,z2,z3,z4,z5,z6,z7,z8⟩:=a.out.JF;have zf:=a.out.JE
        go_wp2_with fail
        have j:=((a.out.wr (k:=2) (v:=.bool aR) (r':={r with i:={r.i with aR:=aR}}) (by simp[AN])).wr (k:=3) (v:=.int .i64 aN) (r':={r with i:={r.i with aR:=aR,aN:=aN}}) (by simp[AN]));refine XJ (IR rfl rfl rfl (Ih _ _ _ _ _ _ _ _ _ j.z)) rfl ⟨?_,IT _ _ _ _ _ _ _ _ _ j.low (Xd _)⟩;rw[s.out,d.out.1,if_neg (by simp[Do,m])];rfl
      ·have bK:((c.toNat:Int) == 97)=false:=Iz (n:=97) D (by omega)
       by_cases E:c=98
       ·subst E
        cases m:DT t with
        |true=>
         by_cases l:r.i.x<0
         ·go_wp2_with fail
          go_roundw
          case rel=>
           refine⟨i+1,Az P r 98 t,5,by omega,by go_num,rfl,?_,?_⟩
           ·rw[d.out.1,if_pos (by simp[Do,m]),if_pos (by simpa [Az] using l)]
           ·have j:=((a.out.wr (k:=4) (v:=.bool aR) (r':={r with i:={r.i with bR:=aR}}) (by simp[AN])).wr (k:=5) (v:=.int .i64 aN) (r':={r with i:={r.i with bR:=aR,bN:=aN}}) (by simp[AN]));rw[(A.out m).1,(A.out m).2] at j |-;have g:Az P r 98 t={r with i:={r.i with bR:=As t,bN:=(Bg t:Int)}}:=by simp[Az]
            rw[g];exact j
          case measure=>simp[intOf];omega
         ·go_wp2_with fail
          go_roundw
          case rel=>
           refine⟨i+1,Az P r 98 t,e,by omega,by go_num,rfl,?_,?_⟩
           ·rw[d.out.1,if_pos (by simp[Do,m]),if_neg (by simpa [Az] using l)]
           ·have j:=((a.out.wr (k:=4) (v:=.bool aR) (r':={r with i:={r.i with bR:=aR}}) (by simp[AN])).wr (k:=5) (v:=.int .i64 aN) (r':={r with i:={r.i with bR:=aR,bN:=aN}}) (by simp[AN]));rw[(A.out m).1,(A.out m).2] at j |-;have g:Az P r 98 t={r with i:={r.i with bR:=As t,bN:=(Bg t:Int)}}:=by simp[Az]
            rw[g];exact j
          case measure=>simp[intOf];omega
        |false=>
         obtain⟨z0,z1,z2,z3,z4,z5,z6,z7,z8⟩:=a.out.JF;have zf:=a.out.JE
         go_wp2_with fail
         have j:=((a.out.wr (k:=4) (v:=.bool aR) (r':={r with i:={r.i with bR:=aR}}) (by simp[AN])).wr (k:=5) (v:=.int .i64 aN) (r':={r with i:={r.i with bR:=aR,bN:=aN}}) (by simp[AN]));refine XJ (IR rfl rfl rfl (Ih _ _ _ _ _ _ _ _ _ j.z)) rfl ⟨?_,IT _ _ _ _ _ _ _ _ _ j.low (Xd _)⟩;rw[s.out,d.out.1,if_neg (by simp[Do,m])];rfl
       ·have bx:((c.toNat:Int) == 98)=false:=Iz (n:=98) E (by omega)
        cases C:Aw t with
        |false=>
         obtain⟨z0,z1,z2,z3,z4,z5,z6,z7,z8⟩:=a.out.JF;have zf:=a.out.JE
         go_wp2_with fail
         have j:=(a.out.wr (k:=8) (v:=.string (bs t)) (r':={r with word:=t}) (by simp[AN]));refine XJ (IR rfl rfl rfl (Ih _ _ _ _ _ _ _ _ _ j.z)) rfl ⟨?_,IT _ _ _ _ _ _ _ _ _ j.low (Xd _)⟩;rw[s.out,d.out.1,if_neg (by simp[Do,c1,D,E,C])];rfl
        |true=>
         by_cases V:c=120
         ·subst V;have o:=(a.out.wr (k:=8) (v:=.string (bs t)) (r':={r with word:=t}) (by simp[AN])).low;have q0:(I.setCell ⟨w.heap.size+1,8,none⟩ (.string (bs t))).cell? ⟨y,0,none⟩=some (.slice a0 P.vs.length aF):=by
           unfold Xg;rw[o.block y aD.out,K.out.1];rfl
          have O:=IK a0 P.vs.length aF P.vs t (I.setCell ⟨w.heap.size+1,8,none⟩ (.string (bs t))) rfl (K.out.2.1.below o) (by have:=hl 118;change P.vs.length<1000 at this;omega);clear o
          go_wp2_with fail
          refine O.mono ?_;rintro X w8 ⟨rfl,rfl⟩
          by_cases l:Aq P.vs t<0
          ·go_wp2_with fail
           go_roundw
           case rel=>
            refine⟨i+1,Az P r 120 t,5,by omega,by go_num,rfl,?_,?_⟩
            ·rw[d.out.1,if_pos (by simp[Do,C]),if_pos (by simpa [Az] using l)]
            ·have g:Az P r 120 t={r with i:={r.i with x:=Aq P.vs t},word:=t}:=by simp[Az]
             rw[g];exact((a.out.wr (k:=8) (v:=.string (bs t)) (r':={r with word:=t}) (by simp[AN])).wr (k:=6) (v:=.int .i64 (Aq P.vs t)) (r':={r with i:={r.i with x:=Aq P.vs t},word:=t}) (by simp[AN]))
           case measure=>simp[intOf];omega
          ·go_wp2_with fail
           go_roundw
           case rel=>
            refine⟨i+1,Az P r 120 t,e,by omega,by go_num,rfl,?_,?_⟩
            ·rw[d.out.1,if_pos (by simp[Do,C]),if_neg (by simpa [Az] using l)]
            ·have g:Az P r 120 t={r with i:={r.i with x:=Aq P.vs t},word:=t}:=by simp[Az]
             rw[g];exact((a.out.wr (k:=8) (v:=.string (bs t)) (r':={r with word:=t}) (by simp[AN])).wr (k:=6) (v:=.int .i64 (Aq P.vs t)) (r':={r with i:={r.i with x:=Aq P.vs t},word:=t}) (by simp[AN]))
           case measure=>simp[intOf];omega
         ·have bO:((c.toNat:Int) == 120)=false:=Iz (n:=120) V (by omega)
          by_cases Y:c=102
          ·subst Y;have o:=(a.out.wr (k:=8) (v:=.string (bs t)) (r':={r with word:=t}) (by simp[AN])).low;have q0:(I.setCell ⟨w.heap.size+1,8,none⟩ (.string (bs t))).cell? ⟨y,1,none⟩=some (.slice a1 P.fs.length aw):=by
            unfold Xg;rw[o.block y aD.out,K.out.1];rfl
           have O:=IK a1 P.fs.length aw P.fs t (I.setCell ⟨w.heap.size+1,8,none⟩ (.string (bs t))) rfl (K.out.2.2.1.below o) (by have:=hl 102;change P.fs.length<1000 at this;omega);clear o
           go_wp2_with fail
           refine O.mono ?_;rintro X w8 ⟨rfl,rfl⟩
           by_cases l:Aq P.fs t<0
           ·go_wp2_with fail
            go_roundw
            case rel=>
             refine⟨i+1,Az P r 102 t,5,by omega,by go_num,rfl,?_,?_⟩
             ·rw[d.out.1,if_pos (by simp[Do,C]),if_pos (by simpa [Az] using l)]
             ·have g:Az P r 102 t={r with i:={r.i with x:=Aq P.fs t},word:=t}:=by simp[Az]
              rw[g];exact((a.out.wr (k:=8) (v:=.string (bs t)) (r':={r with word:=t}) (by simp[AN])).wr (k:=6) (v:=.int .i64 (Aq P.fs t)) (r':={r with i:={r.i with x:=Aq P.fs t},word:=t}) (by simp[AN]))
            case measure=>simp[intOf];omega
           ·go_wp2_with fail
            go_roundw
            case rel=>
             refine⟨i+1,Az P r 102 t,e,by omega,by go_num,rfl,?_,?_⟩
             ·rw[d.out.1,if_pos (by simp[Do,C]),if_neg (by simpa [Az] using l)]
             ·have g:Az P r 102 t={r with i:={r.i with x:=Aq P.fs t},word:=t}:=by simp[Az]
              rw[g];exact((a.out.wr (k:=8) (v:=.string (bs t)) (r':={r with word:=t}) (by simp[AN])).wr (k:=6) (v:=.int .i64 (Aq P.fs t)) (r':={r with i:={r.i with x:=Aq P.fs t},word:=t}) (by simp[AN]))
            case measure=>simp[intOf];omega
          ·have bD:((c.toNat:Int) == 102)=false:=Iz (n:=102) Y (by omega)
           by_cases W:c=109
           ·subst W;have o:=(a.out.wr (k:=8) (v:=.string (bs t)) (r':={r with word:=t}) (by simp[AN])).low;have q0:(I.setCell ⟨w.heap.size+1,8,none⟩ (.string (bs t))).cell? ⟨y,2,none⟩=some (.slice a2 P.ls.length av):=by
             unfold Xg;rw[o.block y aD.out,K.out.1];rfl
            have O:=IK a2 P.ls.length av P.ls t (I.setCell ⟨w.heap.size+1,8,none⟩ (.string (bs t))) rfl (K.out.2.2.2.below o) (by have:=hl 109;change P.ls.length<1000 at this;omega);clear o
            go_wp2_with fail
            refine O.mono ?_;rintro X w8 ⟨rfl,rfl⟩
            by_cases l:Aq P.ls t<0
            ·go_wp2_with fail
             go_roundw
             case rel=>
              refine⟨i+1,Az P r 109 t,5,by omega,by go_num,rfl,?_,?_⟩
              ·rw[d.out.1,if_pos (by simp[Do,C]),if_pos (by simpa [Az] using l)]
              ·have g:Az P r 109 t={r with i:={r.i with x:=Aq P.ls t},word:=t}:=by simp[Az]
               rw[g];exact((a.out.wr (k:=8) (v:=.string (bs t)) (r':={r with word:=t}) (by simp[AN])).wr (k:=6) (v:=.int .i64 (Aq P.ls t)) (r':={r with i:={r.i with x:=Aq P.ls t},word:=t}) (by simp[AN]))
             case measure=>simp[intOf];omega
            ·go_wp2_with fail
             go_roundw
             case rel=>
              refine⟨i+1,Az P r 109 t,e,by omega,by go_num,rfl,?_,?_⟩
              ·rw[d.out.1,if_pos (by simp[Do,C]),if_neg (by simpa [Az] using l)]
              ·have g:Az P r 109 t={r with i:={r.i with x:=Aq P.ls t},word:=t}:=by simp[Az]
               rw[g];exact((a.out.wr (k:=8) (v:=.string (bs t)) (r':={r with word:=t}) (by simp[AN])).wr (k:=6) (v:=.int .i64 (Aq P.ls t)) (r':={r with i:={r.i with x:=Aq P.ls t},word:=t}) (by simp[AN]))
             case measure=>simp[intOf];omega
           ·have bF:((c.toNat:Int) == 109)=false:=Iz (n:=109) W (by omega);have e6:(Az P r c t).i.x=r.i.x:=by simp[Az,c1,D,E,V,Y,W]
            replace e6:=Aa e6
            by_cases l:r.i.x<0
            ·go_wp2_with fail
             go_roundw
             case rel=>
              refine⟨i+1,Az P r c t,5,by omega,by go_num,rfl,?_,?_⟩
              ·rw[d.out.1,if_pos (by simp[Do,c1,D,E,C]),if_pos (by rw[e6.out];exact l)]
              ·have g:Az P r c t={r with word:=t}:=by simp[Az,c1,D,E,V,Y,W]
               rw[g];exact(a.out.wr (k:=8) (v:=.string (bs t)) (r':={r with word:=t}) (by simp[AN]))
             case measure=>simp[intOf];omega
            ·go_wp2_with fail
             go_roundw
             case rel=>
              refine⟨i+1,Az P r c t,e,by omega,by go_num,rfl,?_,?_⟩
              ·rw[d.out.1,if_pos (by simp[Do,c1,D,E,C]),if_neg (by rw[e6.out];omega)]
              ·have g:Az P r c t={r with word:=t}:=by simp[Az,c1,D,E,V,Y,W]
               rw[g];exact(a.out.wr (k:=8) (v:=.string (bs t)) (r':={r with word:=t}) (by simp[AN]))
             case measure=>simp[intOf];omega
    ·have bl:i=ts.length:=by omega
     have bt:¬((i:Int)<(ts.length:Int)):=by omega
     have bi:decide ((i:Int)<(ts.length:Int))=false:=by simp;omega
     obtain⟨z0,z1,z2,z3,z4,z5,z6,z7,z8⟩:=B.JF;have zf:=B.JE;obtain⟨x0,x1,x2,x3,x4,x5,x6,x7,x8⟩:=B.x.cells;have hd:(fm.zip ts).drop i=[]:=List.drop_eq_nil_of_le (by rw[List.length_zip];omega);rw[hd] at F;have d:=Aa (⟨F,B⟩:_/\_);clear F B hd bl
     go_wp2_with fail
     refine XJ (IR rfl rfl rfl (Ih _ _ _ _ _ _ _ _ _ d.out.2.z)) rfl ⟨?_,IT _ _ _ _ _ _ _ _ _ d.out.2.low (Xd _)⟩;rw[s.out,d.out.1];rfl
  ·have s:Hid (DZ P line f ts=none):=by unfold Hid DZ;rw[if_pos (.inr ah)]
   have bG:((n:Int) == ((AJ f).length:Int)+1)=false:=by simp;omega
   have aU:((n:Int) != ((AJ f).length:Int)+1)=true:=by simp;omega
   have aI:XO (((AJ f).length:Int)+1)=((AJ f).length:Int)+1:=by
    have:(AJ f).length<=3:=by
     rcases Jm f with⟨p,hp,ht,aq⟩|⟨ay,_⟩
     ·have J:AJ f=p.2.map Cp:=by unfold AJ;rw[aq]
      rw[J,Xp];have:∀q,q∈Bd->q.2.length<=3:=by decide
      exact this p hp
     ·exact absurd ay Q
    exact X2 _ (by omega)
   unfold Ab;clear h N
   go_enter Tryz.func112,Tryz.ntmps112
   go_wp2_with fail
   refine(M _).mono ?_;rintro e w2 ⟨rfl,rfl⟩
   go_wp2_with fail
   refine XJ (IR rfl rfl rfl (Xi w _)) rfl ⟨by rw[s.out];rfl,HB.out _⟩
def FG (P:RP) (k:Nat) (th:AE) (line:Int) (f:Tx) (ts:List Tx) (e:Int) (P':RP):Prop:=
 match DZ P line f ts with
 |none=>e=2
 |some (r,e')=>(e'=2/\e=2)\/(e'≠2/\((th.code.length=24/\e=4)\/(th.code.length≠24/\e=e'/\P'={P with thr:=P.thr.set k {th with code:=th.code++[r]}})))
theorem aaq {w:Xh} {s:Nat->RT} {base pb:Nat} {P:RP} {U:RV} (h:Ak w s base pb P U) (b Z n cap:Nat) (f:Tx) (ts:List Tx) (hn:ts.length+1=n) (X:CZ w s (some ⟨b,Z,none⟩) (f::ts)) (ap:n<4000) (hl:∀k,(P.get k).length<1000) (k:Nat) (th:AE) (hk:P.thr.length=k+1) (F:P.thr[k]?=some th) (hb:P.thr.length<1000) (aU:th.code.length<4000) (line:Int) (am:f≠[116,104,114,101,97,100]) (an:f≠[]) (aQ:f.length<4000) (ao:ts≠[]\/f.getLast?≠some 58) :
 Calls Tryz.prog 51 #[Ab pb,.slice (some ⟨b,Z,none⟩) n cap,.int .i64 line] w (GV w s base pb (FG P k th line f ts)):=by
 obtain⟨p,K⟩:∃p,U.TV[k]?=some p:=⟨_,Xe (by rw[h.len];omega)⟩;obtain⟨u,aL,D⟩:=h.KM F;have c3:=h.Hc;rw[D,hk] at c3;have I:w.cell? ⟨u,k*3+1,none⟩=some p.1:=h.Hd F K (r:=1) (by omega) D;obtain⟨ca,O,M⟩:=At (h.ths k th p F K).code;rw[M] at I;have Y:=X.at (i:=0) (by simp);have Y:w.cell? ⟨b,Z,none⟩=some (.string (bs f)):=Y;have aO:(0:Int)<(n:Int):=by omega
 have b4:=Gs f [116,104,114,101,97,100];rw[decide_eq_false am] at b4;have v:Ah w s w.drew s:=⟨rfl,rfl,rfl,Xd _,λ_ _=>rfl,λ_ _ _=>rfl⟩;have C:=Ak.keep (w':=w.drew) h (λ_ _=>rfl) v;have S:=aat C b Z n cap f ts hn (X.ext v).ws ap hl line;have J:=Aa (⟨C,v⟩:_/\_);have aT:XO (k:Int)=(k:Int):=X2 _ (by omega);unfold Ab at S |-;replace K:=Aa K;replace F:=Aa F;replace M:=Aa M;replace D:=Aa D;replace hb:=Aa hb;have aP:Hid (b<w.heap.size):=by obtain⟨b',o',e1,t,_⟩:=X 0 (by simp);cases e1;exact t
 obtain⟨m,hm⟩:∃m,f.length=m+1:=⟨f.length - 1,by have:f.length≠0:=λe=>an (ZH.1 e);omega⟩;have au:(bs f).size=m+1:=by rw[Ba,hm]
 have af:m<(bs f).size:=by omega
 have av:XO (m:Int)=(m:Int):=X2 _ (by omega);have hv:=Aa (rfl:DZ P line f ts=DZ P line f ts)
 by_cases aq:((n:Int) == 1)=true
 ·have aK:((((bs f)[m]'af).toNat:Int) == 58)=false:=by
   have ht:ts=[]:=ZH.1 (by simp at aq;omega);have hg:f.getLast?≠some 58:=by rcases ao with h|h;exact absurd ht h;exact h
   apply Iz (n:=58) _ (by omega)
   intro e
   apply hg
   rw[List.getLast?_eq_getElem?,hm,Nat.add_sub_cancel,Xe (by omega),<-Dj f m af,e];rfl
  clear h X v C am an ao hk hm hn hl ap
  go_enter Tryz.func51,Tryz.ntmps51
  go_wp2_with fail
  go_region
  go_wp2_with fail
  refine S.mono ?_;rintro en H ⟨rfl,j⟩;clear c3 Y S
  cases z:DZ P line f ts with
  |none=>
   have d:=Aa (⟨J.out.1.below (w':=H.alloc (.cells Fp.toArray 177)) (j.alloc j.size _),J.out.2.trans (.CH (j.alloc j.size (.cells Fp.toArray 177))),z⟩:_/\_/\_);clear j I z;unfold JZ Fp
   go_wp2_with fail
   go_ret
   exact⟨2,s,P,U,rfl,d.out.1,d.out.2.1,by unfold FG;rw[d.out.2.2]⟩
  |some q=>
   obtain⟨r,N⟩:=q;obtain⟨c,l⟩:∃c,H.alloc (.cells #[.string (bs r.i.op),.int .i64 r.i.r,.bool r.i.aR,.int .i64 r.i.aN,.bool r.i.bR,.int .i64 r.i.bN,.int .i64 r.i.x,.int .i64 r.line,.string (bs r.word)] 177)=c:=⟨_,rfl⟩;have A:Xm w.drew.heap.size w.drew c:=by rw[<-l];exact j.alloc j.size _
   have o:=J.out.1.below A;have B:=J.out.2.trans (.CH A);have W:c.cell? ⟨u,k*3+1,none⟩=some (.slice ca th.code.length O):=by have e:=o.Hd F.out K.out (r:=1) (by omega) D.out;rw[show (DN (th,p))[1]?=some p.1 from rfl,M.out] at e;exact e
   have G:Iu c H.heap.size r:=⟨by rw[<-l];exact Xi H _⟩;obtain⟨x0,x1,x2,x3,x4,x5,x6,x7,x8⟩:=G.cells;have ag:=W;rw[<-l] at ag;replace l:=Aa l;have d:=Aa (⟨o,B,z⟩:_/\_/\_);unfold JZ AN
   by_cases t:N=2
   ·subst t;clear j I z A o B G
    go_wp2_with fail
    go_ret
    rw[l.out]
    exact⟨2,s,P,U,rfl,d.out.1,d.out.2.1,by unfold FG;rw[d.out.2.2];exact .inl ⟨rfl,rfl⟩⟩
   ·have ay:(N == 2)=false:=by simpa using t
    replace t:=Aa t
    by_cases y:th.code.length=24
    ·have aj:((th.code.length:Int) == 24)=true:=by simp;omega
     replace y:=Aa y;clear j I z A o B G
     go_wp2_with fail
     go_ret
     rw[l.out]
     exact⟨4,s,P,U,rfl,d.out.1,d.out.2.1,by unfold FG;rw[d.out.2.2];exact .inr ⟨t.out,.inl ⟨y.out,rfl⟩⟩⟩
    ·have aj:((th.code.length:Int) == 24)=false:=by simp;omega
     have v:Ah c s c.drew s:=⟨rfl,rfl,rfl,Xd _,λ_ _=>rfl,λ_ _ _=>rfl⟩;have C:=Ak.keep (w':=c.drew) o (λ_ _=>rfl) v;obtain⟨g,ak,w3,E,ai,aC,tag3,R,Q⟩:=C.Ud F.out K.out r (by omega) D.out;rw[M.out] at E ai;have E:(XN #[196,196] 196 #[.slice ca th.code.length O,.slice (some ⟨c.heap.size,0,none⟩) 1 1]).run Tryz.prog (c.alloc (.cells #[.string (bs r.i.op),.int .i64 r.i.r,.bool r.i.aR,.int .i64 r.i.aN,.bool r.i.bR,.int .i64 r.i.bN,.int .i64 r.i.x,.int .i64 r.line,.string (bs r.word)] 177)).drew = .ok (.slice (some ⟨g,0,none⟩) (th.code.length+1) ak) w3:=E;have V:u<c.heap.size:=o.lt (o.tt u (by rw[D.out];rfl)) (by simp);have ax:(c.alloc (.cells #[.string (bs r.i.op),.int .i64 r.i.r,.bool r.i.aR,.int .i64 r.i.aN,.bool r.i.bR,.int .i64 r.i.bN,.int .i64 r.i.x,.int .i64 r.line,.string (bs r.word)] 177)).cell? ⟨u,k*3+1,none⟩=some (.slice ca th.code.length O):=(Xy (w:=c) (a:=⟨u,k*3+1,none⟩) (Xv c _ u V)).trans W;replace y:=Aa y;have T:=Aa (⟨R,(B.trans v).trans Q⟩:_/\_);clear j I z A o B G V v C R Q
     go_wp2_with fail
     rw[l.out]
     go_region_law (refine FY rfl _ _ _ rfl rfl rfl rfl E ?_)
     all_goals
      go_wp2_with fail
      go_ret
      exact⟨N,tag3,_,_,rfl,T.out.1,T.out.2,by unfold FG;rw[d.out.2.2];exact .inr ⟨t.out,.inr ⟨y.out,rfl,rfl⟩⟩⟩
 ·rw[Bool.not_eq_true] at aq;clear au af av;clear h X v C am an ao hk hm hn hl ap
  go_enter Tryz.func51,Tryz.ntmps51
  go_wp2_with fail
  go_region
  go_wp2_with fail
  refine S.mono ?_;rintro en H ⟨rfl,j⟩;clear c3 Y S
  cases z:DZ P line f ts with
  |none=>
   have d:=Aa (⟨J.out.1.below (w':=H.alloc (.cells Fp.toArray 177)) (j.alloc j.size _),J.out.2.trans (.CH (j.alloc j.size (.cells Fp.toArray 177))),z⟩:_/\_/\_);clear j I z;unfold JZ Fp
   go_wp2_with fail
   go_ret
   exact⟨2,s,P,U,rfl,d.out.1,d.out.2.1,by unfold FG;rw[d.out.2.2]⟩
  |some q=>
   obtain⟨r,N⟩:=q;obtain⟨c,l⟩:∃c,H.alloc (.cells #[.string (bs r.i.op),.int .i64 r.i.r,.bool r.i.aR,.int .i64 r.i.aN,.bool r.i.bR,.int .i64 r.i.bN,.int .i64 r.i.x,.int .i64 r.line,.string (bs r.word)] 177)=c:=⟨_,rfl⟩;have A:Xm w.drew.heap.size w.drew c:=by rw[<-l];exact j.alloc j.size _
   have o:=J.out.1.below A;have B:=J.out.2.trans (.CH A);have W:c.cell? ⟨u,k*3+1,none⟩=some (.slice ca th.code.length O):=by have e:=o.Hd F.out K.out (r:=1) (by omega) D.out;rw[show (DN (th,p))[1]?=some p.1 from rfl,M.out] at e;exact e
   have G:Iu c H.heap.size r:=⟨by rw[<-l];exact Xi H _⟩;obtain⟨x0,x1,x2,x3,x4,x5,x6,x7,x8⟩:=G.cells;have ag:=W;rw[<-l] at ag;replace l:=Aa l;have d:=Aa (⟨o,B,z⟩:_/\_/\_);unfold JZ AN
   by_cases t:N=2
   ·subst t;clear j I z A o B G
    go_wp2_with fail
    go_ret
    rw[l.out]
    exact⟨2,s,P,U,rfl,d.out.1,d.out.2.1,by unfold FG;rw[d.out.2.2];exact .inl ⟨rfl,rfl⟩⟩
   ·have ay:(N == 2)=false:=by simpa using t
    replace t:=Aa t
    by_cases y:th.code.length=24
    ·have aj:((th.code.length:Int) == 24)=true:=by simp;omega
     replace y:=Aa y;clear j I z A o B G
     go_wp2_with fail
     go_ret
     rw[l.out]
     exact⟨4,s,P,U,rfl,d.out.1,d.out.2.1,by unfold FG;rw[d.out.2.2];exact .inr ⟨t.out,.inl ⟨y.out,rfl⟩⟩⟩
    ·have aj:((th.code.length:Int) == 24)=false:=by simp;omega
     have v:Ah c s c.drew s:=⟨rfl,rfl,rfl,Xd _,λ_ _=>rfl,λ_ _ _=>rfl⟩;have C:=Ak.keep (w':=c.drew) o (λ_ _=>rfl) v;obtain⟨g,ak,w3,E,ai,aC,tag3,R,Q⟩:=C.Ud F.out K.out r (by omega) D.out;rw[M.out] at E ai;have E:(XN #[196,196] 196 #[.slice ca th.code.length O,.slice (some ⟨c.heap.size,0,none⟩) 1 1]).run Tryz.prog (c.alloc (.cells #[.string (bs r.i.op),.int .i64 r.i.r,.bool r.i.aR,.int .i64 r.i.aN,.bool r.i.bR,.int .i64 r.i.bN,.int .i64 r.i.x,.int .i64 r.line,.string (bs r.word)] 177)).drew = .ok (.slice (some ⟨g,0,none⟩) (th.code.length+1) ak) w3:=E;have V:u<c.heap.size:=o.lt (o.tt u (by rw[D.out];rfl)) (by simp);have ax:(c.alloc (.cells #[.string (bs r.i.op),.int .i64 r.i.r,.bool r.i.aR,.int .i64 r.i.aN,.bool r.i.bR,.int .i64 r.i.bN,.int .i64 r.i.x,.int .i64 r.line,.string (bs r.word)] 177)).cell? ⟨u,k*3+1,none⟩=some (.slice ca th.code.length O):=(Xy (w:=c) (a:=⟨u,k*3+1,none⟩) (Xv c _ u V)).trans W;replace y:=Aa y;have T:=Aa (⟨R,(B.trans v).trans Q⟩:_/\_);clear j I z A o B G V v C R Q
     go_wp2_with fail
     rw[l.out]
     go_region_law (refine FY rfl _ _ _ rfl rfl rfl rfl E ?_)
     all_goals
      go_wp2_with fail
      go_ret
      exact⟨N,tag3,_,_,rfl,T.out.1,T.out.2,by unfold FG;rw[d.out.2.2];exact .inr ⟨t.out,.inr ⟨y.out,rfl,rfl⟩⟩⟩
theorem abP {w:Xh} {a:Nat} {i:Ad} (h:w.heap[a]?=some (.cells (Bv i) 108)):w.cell? ⟨a,0,none⟩=some (.string (bs i.op))/\w.cell? ⟨a,1,none⟩=some (.int .i64 i.r)/\w.cell? ⟨a,2,none⟩=some (.bool i.aR)/\w.cell? ⟨a,3,none⟩=some (.int .i64 i.aN)/\w.cell? ⟨a,4,none⟩=some (.bool i.bR)/\w.cell? ⟨a,5,none⟩=some (.int .i64 i.bN)/\w.cell? ⟨a,6,none⟩=some (.int .i64 i.x):=by
 simp[Xg,h,Bv]
theorem aes {w:Xh} {Z:Nat->RT} {base rb U lb:Nat} {G:RG} (h:Al w Z base rb U lb G) (C:List (List Ad)) (R:C.length=G.bods.length) (K:(G.nms 116).length=G.bods.length)
 (hB:∀(k a:Nat) (is:List Ad),G.bods[k]?=some a->C[k]?=some is->∃c,G.B a=some c/\c.ins.length=is.length/\c.ins.length<1048576/\∀(j r:Nat),c.ins[j]?=some r->∃i,is[j]?=some i/\G.I r=some i) (hb:G.bods.length<1048576) :
 Calls Tryz.prog 108 #[Ab rb] w λen w'=>en = .returned (.tuple #[])/\∃x L,JD w w' rb U lb G x L C/\L.map Prod.fst=G.nms 116:=by
 have c6:=h.Kr;obtain⟨ba,bb,D⟩:=JU h.brow;rw[Xp] at D;rw[D] at c6;have a0:=h.lt h.trd (by simp);have aC:Hid (JD w w rb U lb G (.slice none 0 0) [] []):=⟨h.cell,XG _ _ _ _,(λi p is hp=>by cases hp),rfl,rfl,rfl,rfl,Xd _,λ_ _ _=>rfl⟩;replace D:=Aa D;have H:=Aa h;replace hB:=Aa hB;replace R:=Aa R;replace K:=Aa K;unfold Ab;clear h
 go_enter Tryz.func108,Tryz.ntmps108
 go_wp2_with fail
 go_loopw [12] (λz wr=>∃(k:Nat) (x:Xk) (L:List (Tx×Xk)),k<=G.bods.length/\z = .int .i64 k/\JD w wr rb U lb G x L (C.take k)/\L.map Prod.fst=(G.nms 116).take k) (λz _=>G.bods.length - (intOf z).toNat)
 case atStart=>exact⟨0,_,[],Xw _,rfl,by simpa using aC.out,by simp⟩
 case round=>
  rename Xh=>wo
  clear c6 aC;obtain⟨k,x,L,hk,rfl,f,l⟩:=hrel
  by_cases h5:k<G.bods.length
  ·have bx:(k:Int)<(G.bods.length:Int):=by omega
   obtain⟨a,ha⟩:∃a,G.bods[k]?=some a:=⟨_,Xe h5⟩;obtain⟨is,u⟩:∃is,C[k]?=some is:=⟨_,Xe (by have:=R.out;omega)⟩;obtain⟨nm,t⟩:∃nm,(G.nms 116)[k]?=some nm:=⟨_,Xe (by have:=K.out;omega)⟩;obtain⟨c,hc,J,a9,y⟩:=hB.out k a is ha u;have h:=H.out;have E:=h.bodies a c hc;have ar:=f.old;have s:∀{b:Nat} {g:RT},Z b=g->g≠.o->g≠.rd->wo.heap[b]?=w.heap[b]?:=λ{b g} e h1 h2=>ar b (h.lt e h1) (λe'=>by rw[e',h.trd] at e;exact h2 e.symm);have ca:wo.cell? ⟨a,0,none⟩=some c.cv:=by simp[Xg,s E.ta (by simp) (by simp),E.cell]
   have O:wo.ownsRow base 240 1 G.bV (G.bods.map Ab).length (G.bods.map Ab):=BA h.brow.row λg e=>s (h.brow.tg g e) (by simp) (by simp);have A:wo.ownsRow base 9 1 (G.V 116) ((G.nms 116).map BV).length ((G.nms 116).map BV):=BA (h.rows 116 (.inr (.inr (.inr rfl)))).row λg e=>s ((h.rows 116 (.inr (.inr (.inr rfl)))).tg g e) (by simp) (by simp);have q:wo.ownsRow base 244 1 c.cv c.ins.length (c.ins.map Ab):=BA E.code λg e=>s (E.tcode g e) (by simp) (by simp);have ap:(G.bods.map Ab).length=G.bods.length:=by simp
   rw[ap] at O;obtain⟨gb,rfl⟩:∃g,ba=some ⟨g,0,none⟩:=by
    rcases O.2 with⟨_,e⟩|⟨g,cap,aI,e,_⟩
    ·omega
    ·rw[D.out] at e;cases e;exact⟨_,rfl⟩
   rw[D.out] at O;have cb:wo.cell? ⟨gb,k,none⟩=some (Ab a):=by rw[O.cellAt k (by omega),Xs,ha];rfl
   have az:((G.nms 116).map BV).length=G.bods.length:=by rw[Xp];exact K.out
   rw[az] at A;obtain⟨m,hm⟩:∃m,G.bods.length=m+1:=⟨G.bods.length - 1,by omega⟩;obtain⟨T,ad,Q⟩:∃T ad,G.V 116 = .slice (some ⟨T,0,none⟩) G.bods.length ad:=by
    rw[hm] at A |-;exact ownsRow_succ A
   rw[Q] at A;have ct:wo.cell? ⟨T,k,none⟩=some (.string (bs nm)):=by rw[A.cellAt k (by omega),Xs,t];rfl
   have c5:wo.cell? ⟨rb,5,none⟩=some (.slice (some ⟨T,0,none⟩) G.bods.length ad):=by simp[Xg,f.cell,Q]
   have c4:wo.cell? ⟨rb,4,none⟩=some x:=by simp[Xg,f.cell]
   obtain⟨aV,bm,P⟩:=MJ q;rw[P] at ca;have bj:a<wo.heap.size:=by have:=h.lt E.ta (by simp);have:=f.size;omega
   have an:Hid (Iw wo (wo.alloc (.cells #[.string (bs nm),.slice none 0 0] 122)) wo.heap.size nm (.slice none 0 0) []):=⟨Xi wo _,XG _ _ _ _,rfl,rfl,rfl,by simp,λb hb=>Xv wo _ b hb⟩;have HO:=Aa (⟨f,l,q,u,t⟩:_/\_/\_/\_/\_);have HX:=Aa (⟨@s,y,J⟩:(∀{b:Nat} {g:RT},Z b=g->g≠.o->g≠.rd->wo.heap[b]?=w.heap[b]?)/\_/\_);have a4:Hid (rb<wo.heap.size):=by have:=f.size;unfold Hid;omega
   replace P:=Aa P;replace Q:=Aa Q;replace hm:=Aa hm;unfold Ab at cb;clear f l q s y ar O A ap az J u t ha h E
   go_wp2_with fail
   go_loopw [30] (λz w2=>∃(j:Nat) (cv:Xk),j<=c.ins.length/\z = .int .i64 j/\Iw wo w2 wo.heap.size nm cv (is.take j)) (λz _=>c.ins.length - (intOf z).toNat)
   case atStart=>exact⟨0,_,Xw _,rfl,by simpa using an.out⟩
   case round=>
    clear an cb ct c5 c4 ca;obtain⟨j,cv,hj,rfl,d⟩:=hrel
    by_cases h6:j<c.ins.length
    ·have a8:(j:Int)<(c.ins.length:Int):=by omega
     obtain⟨s,y,J⟩:=HX.out;obtain⟨f,l,q,u,t⟩:=HO.out;obtain⟨r,af⟩:∃r,c.ins[j]?=some r:=⟨_,Xe h6⟩;obtain⟨i,hi,ay⟩:=y j r af;have X:=H.out.ins r i ay;have aG:=H.out.lt X.2 (by simp);have ac:=f.size;obtain⟨F,rfl⟩:∃g,aV=some ⟨g,0,none⟩:=by
      rcases q.2 with⟨_,e⟩|⟨g,cap,aI,e,_⟩
      ·omega
      ·rw[P.out] at e;cases e;exact⟨_,rfl⟩
     rw[P.out] at q;have aD:=(q.lt F rfl).2;have aq:wr.heap[F]?=wo.heap[F]?:=d.old F aD;have cc:wr.cell? ⟨F,j,none⟩=some (.pointer (some ⟨r,0,none⟩)):=(Xy (w:=wo) (a:=⟨F,j,none⟩) aq).trans (by rw[q.cellAt j (by omega),Xs,af];rfl);have au:wr.heap[r]?=some (.cells (Bv i) 108):=(d.old r (by omega)).trans ((s X.2 (by simp) (by simp)).trans X.1);obtain⟨i0,i1,i2,i3,i4,i5,i6⟩:=abP au;have bf:r<wr.heap.size:=by have:=d.size;omega
     have a2:=d.size;have aa:wr.cell? ⟨wo.heap.size,1,none⟩=some cv:=by simp[Xg,d.cell]
     obtain⟨sa,aX,v⟩:=At d.row;have ah:(is.take j).length=j:=by rw[X5];omega
     rw[ah] at v;have N:Iw wo wr.drew wo.heap.size nm cv (is.take j):=⟨d.cell,d.row,d.os,d.tape,d.output,d.size,d.old⟩;obtain⟨g,W,w3,n,q1,f1,q0,ag,aO⟩:=N.push i (by omega);rw[ah] at n ag;have n:(XN #[120,120] 120 #[cv,.slice (some ⟨wr.heap.size,0,none⟩) 1 1]).run Tryz.prog (wr.alloc (.cells (Bv i) 108)).drew = .ok (.slice (some ⟨g,0,none⟩) (j+1) W) w3:=n;have aw:is.take (j+1)=is.take j++[i]:=by
      obtain⟨M,e⟩:=Xf.1 hi;rw[XQ M,e]
     rw[v] at aa n q1;unfold Bv at n;have Y:=Aa (⟨ag,aw⟩:_/\_);replace v:=Aa v;clear ag N d au X aG ac aq aD q s y J f l u t af hi ay aO ah aw
     go_wp2_with fail
     go_region_law (refine FY rfl _ _ _ rfl rfl rfl rfl n ?_)
     all_goals
      go_wp2_with fail
      go_roundw
      case rel=>exact⟨j+1,_,by omega,by go_num,by rw[Y.out.2];exact Y.out.1⟩
      case measure=>simp[intOf];omega
    ·obtain⟨s,y,J⟩:=HX.out;obtain⟨f,l,q,u,t⟩:=HO.out;have aJ:j=c.ins.length:=by omega
     subst aJ;have aF:is.take c.ins.length=is:=XM (by omega);rw[aF] at d;have ac:=f.size;have N:Iw wo wr.drew wo.heap.size nm cv is:=⟨d.cell,d.row,d.os,d.tape,d.output,d.size,d.old⟩;have am:L.length=k:=by
      have:=congrArg List.length l;rw[Xp,X5,K.out] at this
      omega
     obtain⟨g,W,w3,n,q4,f4,S⟩:=f.push N a0 (by omega);have bu:wr.cell? ⟨wo.heap.size,0,none⟩=some (.string (bs nm)):=by simp[Xg,d.cell]
     have aa:wr.cell? ⟨wo.heap.size,1,none⟩=some cv:=by simp[Xg,d.cell]
     have c4:wr.cell? ⟨rb,4,none⟩=some x:=(Xy (w:=wo) (a:=⟨rb,4,none⟩) (d.old rb a4.out)).trans (by simp[Xg,f.cell]);have a2:=d.size;have bc:rb<wr.heap.size:=by omega
     obtain⟨sa,aX,v⟩:=At d.row;obtain⟨ta,br,ab⟩:=At f.row;have n:(XN #[23,23] 23 #[x,.slice (some ⟨wr.heap.size,0,none⟩) 1 1]).run Tryz.prog (wr.alloc (.cells #[.string (bs nm),cv] 122)).drew = .ok (.slice (some ⟨g,0,none⟩) (L.length+1) W) w3:=n;rw[ab] at c4 n q4;rw[v] at aa n;have Y:=Aa (⟨S,l,u,t,am⟩:_/\_/\_/\_/\_);replace v:=Aa v;replace ab:=Aa ab;clear S N d ac q s y J f l u t aF am
     go_wp2_with fail
     go_region_law (refine FY rfl _ _ _ rfl rfl rfl rfl n ?_)
     all_goals
      go_wp2_with fail
      go_roundw
      case rel=>
       obtain⟨S,l,u,t,am⟩:=Y.out;have e1:C.take (k+1)=C.take k++[is]:=by
        obtain⟨M,e⟩:=Xf.1 u;rw[XQ M,e]
       have e2:(G.nms 116).take (k+1)=(G.nms 116).take k++[nm]:=by
        obtain⟨M,e⟩:=Xf.1 t;rw[XQ M,e]
       refine⟨k+1,.slice (some ⟨g,0,none⟩) (L.length+1) W,L++[(nm,cv)],by omega,by go_num,by rw[e1];exact S,?_⟩;rw[e2,List.map_append,l]
       rfl
      case measure=>simp[intOf];omega
  ·have aH:k=G.bods.length:=by omega
   subst aH;have HE:=Aa (⟨f,l⟩:_/\_);clear f l
   go_wp2_with fail
   go_end0
   obtain⟨f,l⟩:=HE.out;rw[XM (by have:=R.out;omega)] at f;rw[XM (by have:=K.out;omega)] at l
   exact⟨rfl,x,L,f,l⟩
end Go.Proofs.YtdcacoifehkioaaGreatDoor
