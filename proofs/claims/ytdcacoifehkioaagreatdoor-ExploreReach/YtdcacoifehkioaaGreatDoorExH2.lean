import Derived.Test.YtdcacoifehkioaaGreatDoorExH1
import Derived.BigQuiet
import Derived.RangeFuncBox
import Derived.BigRegion
import Derived.Maps.AppendAt
import Derived.Test.YtdcacoifehkioaaGreatDoorExH0
import Derived.Lib.Bytealg
import Derived.Test.YtdcacoifehkioaaGreatDoorChecked
import Derived.RangeFuncIn
import Derived.RangeFuncLeaves
import Derived.RangeFuncNested
import Derived.RangeFuncBound
import Derived.RangeFuncCalls
import Derived.Shelf.Abstract
import Derived.Shelf.RegionOpen
import Derived.WalkKit
import Derived.OwnWalkIn
import Derived.TacticsInMore
import Derived.LoopNIn
import Derived.LoopIn
import Derived.Shelf.Lay
import Derived.Shelf.Strings.Search3
import Derived.ControlIn
import Derived.Deep.QuietTactic
import Derived.RegionTactic
import Derived.Handy
open Go renaming Value->Xk,TypeId->YM,World->Xh,Calls->XX,ownsRow_succ->Y5,bytes->af0,Program->Zm,fenced_calm->af4,callsIn_wide->X4,stepR_block->afD
open Go.World renaming cell?->Xg,alloc_heap_new->Xi,size_alloc->Yr,cell?_of_block->Xy,cell?_setCell_other->afQ,cell?_setCell_same->afY,putObj_heap_other->Yi,block_lt_of_cell?->YE,putObj_heap_same->afv
open Go.RowKit.Below renaming refl->Xq,heap_alloc->Xv,heap_setCell->Xo
open Go.Builtin renaming append_->XN
open Go.StepsIn renaming trans->afe
open Go.Fence renaming wide->Yp
open List renaming length_drop->afq,getElem?_drop->afw,take_length->Yo
open Array renaming getElem?_eq_some_iff->Xa
set_option maxHeartbeats 1000000
set_option maxRecDepth 100000
set_option linter.unusedVariables false
set_option linter.unusedSimpArgs false
namespace Go.Proofs.YtdcacoifehkioaaGreatDoor
open Go.RowKit Go.Proofs.Cod
theorem QX {κ:Type} {enc:κ->Xk} {K:YM} {d:TypeDesc} (g:Tryz.prog.underlying K=some d) (n:∀{a b:κ},enc a=enc b->a=b) (c:∀a,MapKept.IsKey d (enc a)):Hv enc K:=by
 refine⟨n,λe x w=>MapKept.run_checkKey g (c x) e 9999,λx w p k=>?_,λx w=>MapKept.run_keyThatStays (c x)⟩
 rcases MapKept.findNow_spec (c x) p 0 (λe h=>by obtain⟨l,m⟩:=k e h;rw[m];exact c l) with⟨f,i⟩|⟨j,e,f,i,o⟩
 ·exact .inr ⟨i,MapKept.run_findKey g f⟩
 ·rw[Nat.zero_add] at f;exact .inl ⟨j,e,i,o,MapKept.run_findKey g f⟩
theorem Tryz.strKey:Hv sk 9:=QX Tryz.underlying9 VX (λ_=>trivial)
theorem US {a b:Int} (h:uk a=uk b):a=b:=by simpa [uk] using h
theorem Tryz.u8Key:Hv uk 5:=QX Tryz.underlying5 US (λ_=>rfl)
section
variable {w w':Xh} {tag tag':Nat->RT} {base rb nb lb:Nat} {G:RG}
theorem Al.GH (h:Al w tag base rb nb lb G):w.cell? ⟨rb,0,none⟩=some (.int .i64 G.line):=by simp[Xg,h.cell]
theorem Al.thrC (h:Al w tag base rb nb lb G):w.cell? ⟨rb,4,none⟩=some (.slice none 0 0):=by simp[Xg,h.cell]
theorem Al.Kr (h:Al w tag base rb nb lb G):w.cell? ⟨rb,6,none⟩=some G.bV:=by simp[Xg,h.cell]
theorem Al.Nh (h:Al w tag base rb nb lb G):w.cell? ⟨rb,7,none⟩=some (.map (some nb)):=by simp[Xg,h.cell]
theorem Al.abZ (h:Al w tag base rb nb lb G):w.cell? ⟨rb,8,none⟩=some (.map (some lb)):=by simp[Xg,h.cell]
theorem Al.Ny (h:Al w tag base rb nb lb G):w.cell? ⟨rb,9,none⟩=some G.lV:=by simp[Xg,h.cell]
theorem Al.El (h:Al w tag base rb nb lb G) {k:Int} (a:AU k):w.cell? ⟨rb,Cw k,none⟩=some (G.V k):=by
 rcases a with rfl|rfl|rfl|rfl<;>simp[Xg,h.cell,Cw]
theorem Al.Ed (h:Al w tag base rb nb lb G) (i:Nat):w.frozen? ⟨rb,i,none⟩=false:=by simp[World.frozen?,h.cell]
end
theorem Iq (rb:Nat) (e:Int) (w:Xh):XX Tryz.prog 180 #[Ab rb,.bool true,.int .i64 e] w λa w'=>a = .returned (.tuple #[])/\w'=w:=by
 unfold Ab
 go_enter Tryz.func180,Tryz.ntmps180
 go_wp2
 go_end0
 exact⟨rfl,rfl⟩
theorem Gm {rb:Nat} {l:Int} {w:Xh} (e:Int) (h:w.cell? ⟨rb,0,none⟩=some (.int .i64 l)):XX Tryz.prog 180 #[Ab rb,.bool false,.int .i64 e] w λa w'=>a = .panicked (FD e l)/\w'=w:=by
 unfold Ab
 go_enter Tryz.func180,Tryz.ntmps180
 go_wp2
 exact⟨rfl,rfl,rfl⟩
theorem Tryz.zeroEnt (w:Xh):(zeroValue 287).run Tryz.prog w = .ok (.pointer none) w:=by kernel_rfl
theorem EK.look {w:Xh} {g:Nat->RT} {b:Nat} {N:Tx->Option (Int×Nat)} (h:EK w g b N) (t:Tx) :
 (N t=none/\(Instr.lookup 141 (.map (some b)) (.string (bs t)) false).run Tryz.prog w = .ok (.pointer none) w)\/
 ∃k n e,N t=some (k,n)/\(Instr.lookup 141 (.map (some b)) (.string (bs t)) false).run Tryz.prog w = .ok (Ab e) w/\w.heap[e]?=some (.cells #[.int .u8 k,.int .i64 n] 289)/\g e = .en:=by
 obtain⟨f,m,o,q⟩:=h;have c:=o.look Tryz.strKey Tryz.underlying141 (Tryz.zeroEnt w) t;have a:=q t
 cases d:N t with
 |none=>
  rw[d] at a;have a:f t=none:=a;rw[a] at c;exact .inl ⟨rfl,c⟩
 |some p=>
  obtain⟨k,n⟩:=p;rw[d] at a;obtain⟨e,j,i,l⟩:=a;rw[j] at c;exact .inr ⟨k,n,e,rfl,c,i,l⟩
theorem Td {w:Xh} {o:Nat->RT} {b:Nat} {N:Tx->Option (Int×Nat)} (h:EK w o b N) (kd:Int) (t:Tx) (l:Int) :
 XX Tryz.prog 215 #[.map (some b),.int .u8 kd,.string (bs t),.int .i64 l] w λf w'=>((∃n:Nat,N t=some (kd,n)/\f = .returned (.int .i64 n))\/((∀n,N t≠some (kd,n))/\f = .panicked (FD 5 l)))/\w'=w:=by
 rcases h.look t with⟨a,d⟩|⟨k,n,e,a,d,c,j⟩
 ·rw[a];have q:Hid (FD 5 l=FD 5 l):=rfl
  go_enter Tryz.func215,Tryz.ntmps215
  go_wp2
  exact⟨rfl,.inr ⟨(by intro n i;cases i),rfl⟩,rfl⟩
 ·rw[a];unfold Ab at d;have c0:w.cell? ⟨e,0,none⟩=some (.int .u8 k):=by simp[Xg,c]
  have c1:w.cell? ⟨e,1,none⟩=some (.int .i64 n):=by simp[Xg,c]
  clear a c j
  by_cases g:k=kd
  ·subst g
   go_enter Tryz.func215,Tryz.ntmps215
   go_wp2
   go_ret
   exact⟨.inl ⟨n,rfl,rfl⟩,rfl⟩
  ·go_enter Tryz.func215,Tryz.ntmps215
   go_wp2
   exact⟨rfl,.inr ⟨(by intro m p;cases p;exact g rfl),rfl⟩,rfl⟩
theorem ab8 {w:Xh} {base e n:Nat} {v:Xk} {l:List Nat} (h:w.ownsRow base e 1 v (l.map Ab).length (l.map Ab)) (b:l.length=n+1):∃g cap a,v = .slice (some ⟨g,0,none⟩) (n+1) cap/\l.getLast?=some a/\w.cell? ⟨g,n,none⟩=some (Ab a):=by
 rw[List.length_map,b] at h;obtain⟨g,cap,rfl⟩:=Y5 h;obtain⟨a,c⟩:∃a,l[n]?=some a:=⟨l[n],List.getElem?_eq_getElem (by omega)⟩;refine⟨g,cap,a,rfl,?_,?_⟩
 ·rw[List.getLast?_eq_getElem?,b];exact c
 ·rw[h.cellAt n (by omega),List.getElem?_map,c];rfl
theorem Of {w:Xh} {m:Nat->RT} {base rb l lb:Nat} {G:RG} (h:Al w m base rb l lb G) {a:Nat} (b:G.bods.getLast?=some a) (j:G.bods.length<4294967281) :
 XX Tryz.prog 182 #[Ab rb] w λk w'=>k = .returned (Ab a)/\Below w.heap.size w w':=by
 obtain⟨n,c⟩:∃n,G.bods.length=n+1:=⟨G.bods.length - 1,by
  have o:G.bods≠[]:=λe=>by rw[e] at b;cases b
  have:=List.length_pos_iff.2 o
  omega⟩
 obtain⟨g,cap,q,i,f,r⟩:=ab8 h.brow.row c;rw[b] at f
 cases f
 have c0:=h.Kr;rw[i] at c0;have d:=Xq w.heap.size w;have p:=Aa d;clear d i h b;rw[c] at j;clear c;unfold Ab at *
 go_enter Tryz.func182,Tryz.ntmps182
 go_wp2_with fail
 go_quiet (fail)
 go_wp2_with fail
 go_ret
 exact⟨rfl,⟨rfl,rfl,rfl,Nat.le_refl _,λ_ _=>rfl⟩⟩
def CO (tag:Nat->RT) (b0:Nat) (g:RT) (b:Nat):RT:=if b=b0 then g else tag b
theorem FV (b:Nat->RT) (a:Nat) (g:RT):CO b a g a=g:=by simp[CO]
theorem Da {c:Nat->RT} {a b:Nat} (g:RT) (h:b≠a):CO c a g b=c b:=by simp[CO,h]
def Be {α:Type} (f:Tx->Option α) (t:Tx) (v:α):Tx->Option α:=λx=>if x=t then some v else f x
def BY {α:Type} (f:Nat->Option α) (t:Nat) (v:α):Nat->Option α:=λx=>if x=t then some v else f x
def Out (w:Xh) (tag:Nat->RT) (base rb nb lb:Nat) (l:Int) (P:RG->Prop) (E:Int->Prop) (en:Ending) (w':Xh):Prop:=
 (∃tag' G',en = .returned (.tuple #[])/\Al w' tag' base rb nb lb G'/\Ah w tag w' tag'/\P G')\/(∃tag' e,en = .panicked (FD e l)/\Ah w tag w' tag'/\E e)
theorem EK.put {w:Xh} {g:Nat->RT} {b:Nat} {N:Tx->Option (Int×Nat)} (h:EK w g b N) (t:Tx) (k:Int) (n:Nat) (u:∀b,g b = .en->b<w.heap.size) (r:g b≠.en) (D:b<w.heap.size) :
 ∃w',(Instr.mapUpdate 141 (.map (some b)) (.string (bs t)) (.pointer (some ⟨w.heap.size,0,none⟩))).run Tryz.prog ((w.alloc (.cells #[.int .u8 k,.int .i64 n] 289)).drew) = .ok () w'/\
  EK w' (CO g w.heap.size .en) b (Be N t (k,n))/\w'.heap.size=w.heap.size+1/\w'.os=w.os/\w'.tape=w.tape/\w'.output=w.output/\(∀x,x<w.heap.size->x≠b->w'.heap[x]?=w.heap[x]?):=by
 obtain⟨f,m,z,F⟩:=h;obtain⟨W,d⟩:∃W,(w.alloc (.cells #[.int .u8 k,.int .i64 n] 289)).drew=W:=⟨_,rfl⟩;have j:∀x,x<w.heap.size->W.heap[x]?=w.heap[x]?:=λx a=>by rw[<-d];exact Xv w _ x a
 have C:W.heap.size=w.heap.size+1:=by rw[<-d];simp
 have q:W.heap[w.heap.size]?=some (.cells #[.int .u8 k,.int .i64 n] 289):=by rw[<-d];exact Xi w _
 obtain⟨w',y,A,i,v⟩:=(z.same (j b D)).put Tryz.strKey Tryz.underlying141 t (Ab w.heap.size);rw[d];refine⟨w',y,⟨_,_,A,λx=>?_⟩,v.trans C,i.os.trans (by rw[<-d];rfl),i.tape.trans (by rw[<-d];rfl),i.output.trans (by rw[<-d];rfl),λx a E=>(i.block x (by omega) (by simpa using E)).trans (j x a)⟩;have p:∀c,g c = .en->w'.heap[c]?=w.heap[c]?/\CO g w.heap.size .en c = .en:=λc l=>by
  have s:=u c l;refine⟨(i.block c (by omega) (by simp;intro e;subst e;exact r l)).trans (j c s),?_⟩;rw[Da _ (by omega)];exact l
 by_cases a:x=t
 ·subst a;have B:Bz f x (Ab w.heap.size) x=some (Ab w.heap.size):=Lg _ _ _;have o:Be N x (k,n) x=some (k,n):=by simp[Be]
  rw[o]
  exact⟨w.heap.size,B,(i.block w.heap.size (by omega) (by simp;omega)).trans q,FV _ _ _⟩
 ·have o:Be N t (k,n) x=N x:=by simp[Be,a]
  rw[CU _ a,o]
  exact(F x).kept p
section
variable {w w':Xh} {tag tag':Nat->RT} {base rb nb lb:Nat} {G:RG}
def RG.mark (G:RG) (a:Nat) (c:EW) (t:Tx):RG:={G with B:=BY G.B a {c with labs:=Be c.labs t c.ins.length}}
theorem Al.mark (h:Al w tag base rb nb lb G) {a:Nat} {c:EW} (v:G.B a=some c) (t:Tx) :
 ∃w',(Instr.mapUpdate 141 (.map (some c.lm)) (.string (bs t)) (.pointer (some ⟨w.heap.size,0,none⟩))).run Tryz.prog ((w.alloc (.cells #[.int .u8 108,.int .i64 c.ins.length] 289)).drew) = .ok () w'/\
  ∃tag',Al w' tag' base rb nb lb (G.mark a c t)/\Ah w tag w' tag':=by
 have f:=h.bodies a c v;have C:=h.lt f.tl (by simp);obtain⟨w',z,D,H,n,E,A,m⟩:=f.labs.put t 108 c.ins.length (λb l=>h.lt l (by simp)) (by rw[f.tl];simp) C;have j:Ah w tag w' (CO tag w.heap.size .en):=⟨n,E,A,by omega,λb l=>Da _ (by omega),λb l n=>m b l (λe=>by rw[e,f.tl] at n;cases n)⟩;refine⟨w',z,CO tag w.heap.size .en,h.step (λg=>g = .lb a) j (λb l s F=>m b l (λe=>F (by rw[e];exact f.tl))) ?_ ((m rb (h.lt h.trd (by simp)) (λe=>?_)).trans h.cell) (λk _=>.inl ⟨rfl,rfl,by simp⟩) (.inl ⟨rfl,rfl,by simp⟩) (.inl ⟨rfl,rfl,by simp⟩) (.inl ⟨rfl,by simp⟩) (by simp) (by simp) (by simp) (λb d q=>?_) (λb i u=>.inl ⟨u,?_⟩) (λd q=>.inl q),j⟩
 ·intro b l r;unfold CO at r
  split at r
  ·omega
  ·exact absurd (h.tlt b r).2 (by omega)
 ·have s:=h.trd;rw[e,f.tl] at s;cases s
 ·have o:BY G.B a {c with labs:=Be c.labs t c.ins.length} b=some d:=q;unfold BY at o
  split at o
  ·rename_i e;subst e
   cases o
   right;have p:∀x,tag x = .bd b\/tag x = .cd b->w'.heap[x]?=w.heap[x]?/\CO tag w.heap.size .en x=tag x:=λx j=>by
    have y:x<w.heap.size:=by rcases j with e|e<;>exact h.lt e (by simp)
    exact⟨m x y (λe=>by rw[e,f.tl] at j;rcases j with e|e<;>cases e),Da _ (by omega)⟩
   refine⟨(p b (.inl f.ta)).1.trans f.cell,BA f.code λg e=>(p g (.inr (f.tcode g e))).1,λg e=>(p g (.inr (f.tcode g e))).2.trans (f.tcode g e),?_,(p b (.inl f.ta)).2.trans f.ta,(Da _ (by show c.lm≠w.heap.size;omega)).trans f.tl⟩;have e:Be (Qq0 c.labs) t (108,c.ins.length)=Qq0 (Be c.labs t c.ins.length):=by
    funext x
    unfold Be Qq0
    by_cases j:x=t<;>simp[j]
   rw[<-e];exact D
  ·rename_i e;exact .inl ⟨o,by simp,by simp,by simpa using e⟩
 ·have:=h.ins b i u;exact m b (h.lt this.2 (by simp)) (λe=>by rw[e,f.tl] at this;cases this.2)
end
theorem QU (w:Xh):Sem.run Tryz.prog (binOp .eql 287 (.pointer none) (.pointer none)) w = .ok (.bool true) w:=by kernel_rfl
theorem MJ {w:Xh} {base e:Nat} {v:Xk} {l:List Nat} (h:w.ownsRow base e 1 v l.length (l.map Ab)):∃a cap,v = .slice a l.length cap:=by
 rcases h.2 with⟨b,c⟩|⟨g,cap,d,b,_⟩
 ·exact⟨none,0,by rw[b,c]⟩
 ·exact⟨_,_,b⟩
theorem abG {w:Xh} {b:Nat->RT} {base rb D lb:Nat} {G:RG} (h:Al w b base rb D lb G) {a:Nat} {c:EW} (A:G.bods.getLast?=some a) (v:G.bods.length<4294967281) (x:G.B a=some c) (t:Tx) :
 XX Tryz.prog 143 #[Ab rb,.string (bs t)] w (Out w b base rb D lb G.line (λM=>Aw t=true/\c.labs t=none/\M=G.mark a c t) (λe=>(Aw t=false/\e=2)\/(Aw t=true/\(∃n,c.labs t=some n)/\e=3))):=by
 have F:=Aa (fun(w':Xh) (l:Below w.heap.size w w')=>h.below l);have f:=Aa (fun(w':Xh) (l:Below w.heap.size w w')=>(Ah.CH l:Ah w b w' b));have q:=Of h A v;unfold Ab at q |-;clear A v h
 go_enter Tryz.func143,Tryz.ntmps143
 go_wp2_with fail
 refine q.mono ?_;rintro e w1 ⟨rfl,o⟩;have g:=F.out _ o;have u:=f.out _ o;clear F f q o;have d:=g.bodies a c x;have y:=g.GH;have c1:w1.cell? ⟨a,1,none⟩=some (.map (some c.lm)):=by simp[Xg,d.cell]
 have c0:w1.cell? ⟨a,0,none⟩=some c.cv:=by simp[Xg,d.cell]
 have S:=g.lt d.ta (by simp);obtain⟨O,R,C⟩:=MJ d.code;rw[C] at c0;have K:=d.labs.look t;obtain⟨w',Q,I,E,s⟩:=g.mark x t;have z:=Aa (⟨E,s⟩:_/\_);have f:=Aa u;clear E s g u d C
 go_wp2_with fail
 refine(NG t _).mono ?_;rintro e P ⟨rfl,rfl⟩
 cases r:Aw t with
 |false=>
  go_wp2_with fail
  refine(Gm 2 y).mono ?_;rintro e w3 ⟨rfl,rfl⟩
  exact⟨rfl,.inr ⟨b,2,rfl,f.out,.inl ⟨r,rfl⟩⟩⟩
 |true=>
  go_wp2_with fail
  refine(Iq rb 2 _).mono ?_;rintro e w3 ⟨rfl,rfl⟩
  rcases K with⟨j,H⟩|⟨k,n,T,j,H,_⟩
  ·have i:c.labs t=none:=by
    cases p:c.labs t with
    |none=>rfl
    |some n=>simp[Qq0,p] at j
   clear j;have N:=QU
   go_wp2_with fail
   refine(Iq rb 3 _).mono ?_;rintro e J ⟨rfl,rfl⟩
   go_wp2_with fail
   go_region
   all_goals
    go_wp2_with fail
    go_end0
    exact .inl ⟨I,_,rfl,z.out.1,f.out.trans z.out.2,r,i,rfl⟩
  ·have i:∃m,c.labs t=some m:=by
    cases p:c.labs t with
    |none=>simp[Qq0,p] at j
    |some m=>exact⟨m,rfl⟩
   have i:=Aa i;clear j;unfold Ab at H
   go_wp2_with fail
   refine(Gm 3 y).mono ?_;rintro e J ⟨rfl,rfl⟩
   exact⟨rfl,.inr ⟨b,3,rfl,f.out,.inr ⟨r,i.out,rfl⟩⟩⟩
theorem Co {d:Nat->RT} {b c:Nat} {g a:RT} (h:d b=g) (i:d c=a) (f:g≠a):b≠c:=λe=>f (by rw[<-h,<-i,e])
def Hg (tag:Nat->RT) (n:Nat) (g:RT) (v:Xk):Nat->RT:=CO tag n (open Classical in if v.ownBlock=some n then g else .o)
theorem Hf {a:Nat->RT} {n b:Nat} {g:RT} {v:Xk} (h:b≠n):Hg a n g v b=a b:=Da _ h
theorem Mq {a:Nat->RT} {n:Nat} {g:RT} {v:Xk} (h:v.ownBlock=some n):Hg a n g v n=g:=by
 unfold Hg;rw[FV,if_pos h]
theorem Nb {w:Xh} {base e:Nat} {v:Xk} {a:List Xk} {T:YM} {i:TypeInfo} {z:Xk} {f:Nat} (y:w.ownsRow base e 1 v a.length a) (q:Tryz.prog.underlying T=some (.slice e)) (m:Tryz.prog.info? e=some i) (r:i.zero=some z) (u:i.size=1) (n:i.bytes=f) (p:z.cells.size=1) (s:f<=64)
 (x:Xk) (k:x.oneCell'=true) (j:YM) (B:a.length<1048576) (A:base<=w.heap.size) :
 ∃g cap w',(XN #[T,T] j #[v,.slice (some ⟨w.heap.size,0,none⟩) 1 1]).run Tryz.prog (w.alloc (.cells #[x] e)) = .ok (.slice (some ⟨g,0,none⟩) (a.length+1) cap) w'/\
  w'.ownsRow base e 1 (.slice (some ⟨g,0,none⟩) (a.length+1) cap) (a.length+1) (a++[x])/\w'.os=w.os/\w'.tape=w.tape/\w'.output=w.output/\w.heap.size+1<=w'.heap.size/\
  (∀b,b<w.heap.size->v.ownBlock≠some b->w'.heap[b]?=w.heap[b]?)/\(v.ownBlock=some g\/g=w.heap.size+1):=by
 obtain⟨C,w',o,h,d,c⟩:=JS (P:=Tryz.prog) (w.alloc (.cells #[x] e)) base T j e i z 1 f q m r u n p v a.length a (y.alloc _) ⟨w.heap.size,0,none⟩ 1 1 [x] (by omega) rfl (cell_one_new _ _ _) (by simpa using k) (by unfold maxLen;omega)
  (by have:(a.length+1)*f<=1048576*64:=Nat.mul_le_mul (by omega) s
      omega) (by simp;omega)
 obtain⟨g,cap,rfl⟩:=Y5 h;refine⟨g,cap,w',o,h,d.os,d.tape,d.output,by have:=d.size;simpa using this,λb l t=>(d.block b (by simp;omega) (λe=>t e.symm)).trans (Xv w _ b l),?_⟩
 rcases c with c|c
 ·exact .inl c.symm
 ·right;have c:some g=some (w.alloc (.cells #[x] e)).heap.size:=c;rw[Yr] at c;exact Option.some.inj c
theorem Du.push {w:Xh} {c:Nat->RT} {base e:Nat} {k:Int} {v:Xk} {a:List Xk} {T:YM} {i:TypeInfo} {z:Xk} {r:Nat} (h:Du w c base e k v a) (H:Tryz.prog.underlying T=some (.slice e)) (B:Tryz.prog.info? e=some i) (J:i.zero=some z) (M:i.size=1) (C:i.bytes=r) (G:z.cells.size=1) (K:r<=64)
 (x:Xk) (u:x.oneCell'=true) (q:YM) (A:a.length<1048576) (s:base<=w.heap.size) (m:∀b,c b≠.o->b<w.heap.size) :
 ∃g cap w' f,(XN #[T,T] q #[v,.slice (some ⟨w.heap.size,0,none⟩) 1 1]).run Tryz.prog (w.alloc (.cells #[x] e)) = .ok (.slice (some ⟨g,0,none⟩) (a.length+1) cap) w'/\
  Du w' f base e k (.slice (some ⟨g,0,none⟩) (a.length+1) cap) (a++[x])/\w'.os=w.os/\w'.tape=w.tape/\w'.output=w.output/\w.heap.size+1<=w'.heap.size/\
  (∀b,b<w.heap.size->c b≠.row k->w'.heap[b]?=w.heap[b]?)/\(∀b,b<=w.heap.size->f b=c b)/\(∀b,w.heap.size<=b->f b≠.o->b<w'.heap.size):=by
 obtain⟨g,cap,w',E,n,D,I,N,O,rb,t⟩:=Nb h.row H B J M C G K x u q A s;have y:=n.lt g rfl;refine⟨g,cap,w',Hg c (w.heap.size+1) (.row k) (.slice (some ⟨g,0,none⟩) (a.length+1) cap),E,⟨by rw[List.length_append];exact n,λF e=>?_⟩,D,I,N,O,λb l d=>rb b l (λe=>d (h.tg b e)),λb l=>Hf (by omega),λb l d=>?_⟩
 ·have e:some g=some F:=e
  cases e
  rcases t with e|e
  ·have:=m g (by rw[h.tg g e];simp);rw[Hf (by omega)];exact h.tg g e
  ·subst e;exact Mq rfl
 ·by_cases e:b=w.heap.size+1
  ·subst e
   by_cases p:g=w.heap.size+1
   ·rw[<-p];exact y.2
   ·exfalso;apply d
    unfold Hg;rw[FV,if_neg];intro j;have j:some g=some (w.heap.size+1):=j;exact p (Option.some.inj j)
  ·rw[Hf e] at d;have:=m b d;omega
theorem Dm {P:Zm} {w:Xh} {b:Array Oper} {rest:List Oper} {o:Oper} {a:Act} {Q:Exit->Act->Xh->Prop}
 (g:o.guard=none) (s x:Operand) (t:YM) (i:o.op=Op.call {callee:=Callee.builtin Builtin.append,args := #[s,x],argTypes := #[t,t]}) {v u d:Xk} {w':Xh} {c:YM} (e:o.type=c)
 (f:a.eval s=v) (l:a.eval x=u) (h:(XN #[t,t] c #[v,u]).run P w = .ok d w') (k:wpList P b Q rest (a.put o.dst d) w'):wpList P b Q (o::rest) a w:=by
 refine wpList_plain g λK j=>?_;unfold Oper.wp;simp[execOp,i,resolve,invoke,builtin,f,l,e,h,Result.andThen];exact j _ _ k
theorem Tryz.infoTx:(Tryz.prog.info? 9).map (λi=>(i.zero,i.size,i.bytes))=some (some (.string ByteArray.empty),1,16):=by kernel_rfl
theorem Tryz.infoBd:(Tryz.prog.info? 240).map (λi=>(i.zero,i.size,i.bytes))=some (some (.pointer none),1,8):=by kernel_rfl
theorem Tryz.infoIn:(Tryz.prog.info? 244).map (λi=>(i.zero,i.size,i.bytes))=some (some (.pointer none),1,8):=by kernel_rfl
theorem Tryz.infoFn:(Tryz.prog.info? 1).map (λi=>(i.zero,i.size,i.bytes))=some (some .nilFunc,1,8):=by kernel_rfl
end Go.Proofs.YtdcacoifehkioaaGreatDoor
namespace Go.Proofs.Cod
open Go.Lib
def Ar (c:UInt8):Tx->List Tx
 |[]=>[[]]
 |b::l=>if b == c then []::Ar c l else match Ar c l with
  |[]=>[[b]]
  |p::ps=>(b::p)::ps
theorem PM (c:UInt8) (t:Tx):Ar c t≠[]:=by
 cases t with
 |nil=>simp[Ar]
 |cons b l=>
  unfold Ar
  split
  ·simp
  ·split<;>simp
theorem VM (c:UInt8) (t:Tx) (h:indexByte t c = -1):Ar c t=[t]:=by
 induction t with
 |nil=>rfl
 |cons b l f=>
  unfold indexByte at h
  split at h
  ·omega
  ·rename_i e
   split at h
   ·rename_i a;have d:indexByte l c = -1:=by simpa using a
    unfold Ar;rw[if_neg e,f d]
   ·have:=indexByte_ge l c;rename_i a;have d:indexByte l c≠-1:=by simpa using a
    omega
theorem PK (c:UInt8) (t:Tx) (i:Nat) (h:indexByte t c=i):i<t.length/\Ar c t=t.take i::Ar c (t.drop (i+1)):=by
 induction t generalizing i with
 |nil=>unfold indexByte at h;omega
 |cons b l f=>
  unfold indexByte at h
  split at h
  ·rename_i a
   obtain rfl:i=0:=by omega
   refine⟨by simp,?_⟩
   conv=>lhs;unfold Ar
   rw[if_pos a];rfl
  ·rename_i a
   split at h
   ·omega
   ·rename_i e;have m:indexByte l c≠-1:=by simpa using e
    have k:=indexByte_ge l c;obtain⟨j,d⟩:∃j:Nat,indexByte l c=j:=⟨(indexByte l c).toNat,by omega⟩
    obtain rfl:i=j+1:=by omega
    obtain⟨n,g⟩:=f j d;refine⟨by simp;omega,?_⟩
    conv=>lhs;unfold Ar
    rw[if_neg a,g]
    simp
end Go.Proofs.Cod
namespace Go.Proofs.YtdcacoifehkioaaGreatDoor
open Go
variable {F:Fence} {n:Nat} {P:Zm}
def WG (P:Zm) (l:Nat) (R:Ending->Xh->Prop):Exit->Act->Xh->Prop
 |.normal,_,w=>∃v w',(Instr.endRound l none).run P w = .ok v w'/\R (.returned v) w'
 |.panic chain,a,w=>a.defers=[]/\R (.panicked chain) w
 |_,_,_=>False
theorem WH {l:Nat} {f:FuncId} {fn:Func} {tmps:Array Xk} {m body:Code} {w:Xh} {R:Ending->Xh->Prop} (u:F.fn f) (N:P.funcs[f]?=some fn)
 (h:m.wpIn (F.inRound l) n P (Exit.then (λi s=>∃j,(Instr.beginRound l).run P s = .ok () j/\body.wpIn (F.inRound l) n P (WG P l R) i j) (λ_ _ _=>False))
   {tmps:=tmps,defers:=[]} w) :
 RoundIn F n P l f tmps m body w R:=by
 refine⟨u,λc cs A=>?_⟩
 let b:Frame:={(default:Frame) with fn:=f,kind:=.normal,roundOf:=some l}
 have J:Frame.round l f tmps m body .normal=b.atR {tmps:=tmps,defers:=[]} [.code m,.beginRound,.code body]:=by
  simp[Frame.round,Frame.atR,b]
 have k:(F.inRound l).room ((c::cs).length+1+n):=A;have o:(F.inRound l).fn b.fn:=u;obtain⟨e,i,s,a,r⟩:=h b [.beginRound,.code body] (c::cs) rfl o k;rw[<-J] at r
 cases e with
 |normal=>
  obtain⟨j,I,K⟩:=a;have z:StepsIn (Machine.fenced P (F.inRound l)) P (lone (b.atR i [.beginRound,.code body]) (c::cs) s) (lone (b.atR i [.code body]) (c::cs) j):=
   .one (af4 (fr:=b.atR i [.beginRound,.code body]) o k rfl) (stepR_beginRound rfl I)
  obtain⟨G,q,x,d,B⟩:=K b [] (c::cs) rfl o k
  cases G with
  |normal=>
   obtain⟨v,O,E,p⟩:=d
   exact⟨.returned v,O,p,(afe r z).trans (afe B (.one (af4 (fr:=b.atR q []) o k rfl) (stepR_round_end rfl rfl E)))⟩
  |panic g=>
   obtain⟨D,p⟩:=d;obtain⟨C,M⟩:=B;have y:((b.atR q C).raise g).leaving P x (.panicked g):=⟨rfl,D,fn,N⟩;have H:(lone ((b.atR q C).raise g) (c::cs) x).fenced P F:=fenced_leaving (n:=n) u A y
   exact⟨.panicked g,x,p,(afe r z).trans (afe M (.one H (step_leave_panicked y)))⟩
  |ret=>exact d.elim
  |exit id=>exact d.elim
  |goto t=>exact d.elim
  |outgrown=>exact d.elim
 |exit id=>exact a.elim
 |goto t=>exact a.elim
 |ret=>exact a.elim
 |panic g=>exact a.elim
 |outgrown=>exact a.elim
end Go.Proofs.YtdcacoifehkioaaGreatDoor
namespace Go.Proofs
open Go.Shelf
shelf_lay Lays.n143 Nm 143 at Tryz as Tryz.lays143
end Go.Proofs
namespace Go.Proofs.YtdcacoifehkioaaGreatDoor
open Go.RowKit Go.Shelf Go.Proofs.Cod Go.Lib
attribute [local go_sem] Oper.semAt_some
theorem acI (t:Tx) (c:UInt8) (w:Xh):XX Tryz.prog 151 #[.string (bs t),.string (bs [c])] w λe w'=>e = .returned (.int .i64 (indexByte t c))/\w'=w:=by
 have h:=Any.strings_Index_one Tryz.lays143 (bs t) c w;have e:(bs t).data.toList=t:=by simp[bs]
 rw[e] at h;exact h
def Nx (b:Nat) (w:Xh):Nat:=match w.cell? ⟨b,0,none⟩ with
 |some (.string s)=>s.size
 |_=>0
theorem Sc {b:Nat} {w:Xh} {t:Tx} (h:w.cell? ⟨b,0,none⟩=some (.string (bs t))):Nx b w=t.length:=by
 unfold Nx;rw[h];exact Ba t
theorem VK (l h b k:Nat) (c:UInt8) (t:Tx) (J:Nat->Xh->Prop) (X:List PanicEntry->Xh->Prop) (hz:t.length<4294967281)
 (K:∀i W v,J i W->J i (W.setCell ⟨b,0,none⟩ v))
 (D:∀i W p,J i W->(Ar c t)[i]?=some p->YieldAt Yp 0 Tryz.prog l #[.string (bs p)] W λe g=>
   (e = .returned (.bool true)/\J (i+1) g/\g.heap[h]?=W.heap[h]?/\g.heap[b]?=W.heap[b]?/\g.heap[k]?=W.heap[k]?)\/∃f,e = .panicked f/\X f g)
 (W:Xh) (q:W.cell? ⟨h,0,none⟩=some (.string (bs [c]))) (n:W.cell? ⟨b,0,none⟩=some (.string (bs t))) (s:W.cell? ⟨k,0,none⟩=some (.int .i64 0)) (o:W.frozen? ⟨b,0,none⟩=false)
 (G:h≠b) (V:k≠b) (B:J 0 W) :
 CallsIn Yp 1 Tryz.prog 176 #[.func (.yield l) #[] #[],.pointer (some ⟨h,0,none⟩),.pointer (some ⟨b,0,none⟩),.pointer (some ⟨k,0,none⟩)] W λe g=>
  (e = .returned (.tuple #[])/\J (Ar c t).length g)\/∃f,e = .panicked f/\X f g:=by
 have ah:(bs [c]).size=1:=Ba [c];refine callsIn_of_wp Tryz.func176 rfl trivial ?_ rfl;simp only[Tryz.ntmps176,List.size_toArray,List.length_cons,List.length_nil,Nat.reduceAdd,Nat.reduceSub,Array.replicate_succ,Array.replicate_zero,List.push_toArray,List.append_toArray,List.nil_append,List.cons_append]
 gi_wp2
 gi_loopw [7,8] (λ_ _ wr=>∃(i:Nat) (rest:Tx),wr.cell? ⟨h,0,none⟩=some (.string (bs [c]))/\wr.cell? ⟨b,0,none⟩=some (.string (bs rest))/\wr.cell? ⟨k,0,none⟩=some (.int .i64 0)/\wr.frozen? ⟨b,0,none⟩=false/\rest.length<=t.length/\(Ar c t).drop i=Ar c rest/\J i wr) (λ_ _ wr=>Nx b wr)
 case atStart=>exact⟨0,t,q,n,s,o,Nat.le_refl _,rfl,B⟩
 case round=>
  clear q n s o B;obtain⟨i,rest,q,n,s,o,af,m,F⟩:=hrel;have Z:=indexByte_ge rest c;have r:=acI rest c
  by_cases E:indexByte rest c = -1
  ·have I:=VM c rest E;rw[I] at m;have M:(Ar c t).length=i+1:=by
    have d:((Ar c t).drop i).length=1:=by rw[m];rfl
    rw[afq] at d;omega
   have x:(Ar c t)[i]?=some rest:=by
    have d:((Ar c t).drop i)[0]?=some rest:=by rw[m];rfl
    rw[afw] at d;simpa using d
   obtain⟨fn,tmps,R,body,O,w⟩:=D i wr rest F x;rw[E] at r
   gi_wp2_with (refine⟨trivial,?_⟩;gi_at_call 151;refine(X4.2 (r _)).mono ?_;rintro e w' ⟨rfl,rfl⟩)
   refine w.mono ?_;rintro e Q (⟨rfl,y,_⟩|⟨f,rfl,u⟩)
   ·gi_wp2
    go_end0
    exact .inl ⟨rfl,by rw[M];exact y⟩
   ·exact⟨rfl,.inr ⟨f,rfl,u⟩⟩
  ·obtain⟨j,z⟩:∃j:Nat,indexByte rest c=j:=⟨(indexByte rest c).toNat,by omega⟩;obtain⟨ag,H⟩:=PK c rest j z;rw[H] at m;have x:(Ar c t)[i]?=some (rest.take j):=by
    have d:((Ar c t).drop i)[0]?=some (rest.take j):=by rw[m];rfl
    rw[afw] at d;simpa using d
   have N:(Ar c t).drop (i+1)=Ar c (rest.drop (j+1)):=by
    have d:((Ar c t).drop i).drop 1=Ar c (rest.drop (j+1)):=by rw[m];rfl
    rw[List.drop_drop] at d;exact d
   obtain⟨fn,tmps,R,body,O,w⟩:=D i wr (rest.take j) F x;have aa:=Ba rest;have am:(bs rest).extract 0 j=bs (rest.take j):=by rw[GO];simp
   rw[z] at r;have ad:¬((j:Int)<0):=by omega
   have ab:(j:Int)<=(rest.length:Int):=by omega
   gi_wp2_with (refine⟨trivial,?_⟩;gi_at_call 151;refine(X4.2 (r _)).mono ?_;rintro e w' ⟨rfl,rfl⟩)
   refine w.mono ?_;rintro e Q (⟨rfl,y,T,C,Y⟩|⟨f,rfl,u⟩)
   ·have P:=(Xy (a:=⟨h,0,none⟩) T).trans q;have A:=(Xy (a:=⟨b,0,none⟩) C).trans n;have U:=(Xy (a:=⟨k,0,none⟩) Y).trans s;have S:=(World.frozen?_of_block (a:=⟨b,0,none⟩) C).trans o;have ak:(bs rest).extract (j+1) rest.length=bs (rest.drop (j+1)):=by rw[GO,Yo]
    have ai:(j:Int)+1<=(rest.length:Int):=by omega
    have ac:0<=(j:Int)+1:=by omega
    gi_wp2
    go_roundw
    case rel=>exact⟨i+1,rest.drop (j+1),by rw[afQ _ _ _ _ (by intro e;cases e;exact G rfl)];exact P,afY _ _ _ A,by rw[afQ _ _ _ _ (by intro e;cases e;exact V rfl)];exact U,by rw[World.frozen?_setCell];exact S,by rw[afq];omega,N,K _ _ _ y⟩
    case measure=>rw[Sc (afY _ _ _ A),Sc n,afq];omega
   ·exact⟨rfl,.inr ⟨f,rfl,u⟩⟩
end Go.Proofs.YtdcacoifehkioaaGreatDoor
namespace Go.Proofs.YtdcacoifehkioaaGreatDoor
open Go
variable {F:Fence} {n:Nat} {P:Zm} {Q:Exit->Act->Xh->Prop} {a:Act} {w:Xh} {b:Frame}
def Hb (b:Frame) (F:Fence) (n:Nat) (P:Zm) (c:Code) (Q:Exit->Act->Xh->Prop) (a:Act) (w:Xh):Prop:=
 ∀(k:List Item) (cs:List Frame),b.roundOf=F.round->F.fn b.fn->F.room (cs.length+1+n)->
  ∃e a' w',Q e a' w'/\ArrivesIn (Machine.fenced P F) P (lone (b.atR a (.code c::k)) cs w) b k cs e a' w'
theorem Ha {c:Code} (h:c.wpIn F n P Q a w):Hb b F n P c Q a w:=λk cs e f d=>h b k cs e f d
theorem GZ {x y:Code} (h:Hb b F n P x (Exit.then (Hb b F n P y Q) Q) a w):Hb b F n P (Code.seq x y) Q a w:=by
 intro k cs o m j;have f:(lone (b.atR a (.code (.seq x y)::k)) cs w).fenced P F:=af4 m j rfl;obtain⟨e,i,g,d,c⟩:=h (.code y::k) cs o m j
 cases e with
 |normal=>
  obtain⟨r,p,q,s,t⟩:=d k cs o m j
  exact⟨r,p,q,s,.of_steps (.head f stepR_seq c) t⟩
 |exit id=>exact⟨_,i,g,d,.of_steps (.one f stepR_seq) (.pass (x:=.code y) rfl (λ_ _=>.inl (by simp)) c)⟩
 |goto l=>exact⟨_,i,g,d,.of_steps (.one f stepR_seq) (.pass (x:=.code y) rfl (λ_ _=>.inl (by simp)) c)⟩
 |ret=>exact⟨_,i,g,d,.of_steps (.one f stepR_seq) (.pass (x:=.code y) rfl (λ_ _=>.inl (by simp)) c)⟩
 |panic u=>exact⟨_,i,g,d,.of_steps (.one f stepR_seq) (.pass (x:=.code y) rfl (λ_ _=>.inl (by simp)) c)⟩
 |outgrown=>exact⟨_,i,g,d,.of_steps (.one f stepR_seq) (.pass (x:=.code y) rfl (λ_ _=>.inl (by simp)) c)⟩
theorem ON {id:Nat} {c:Code} (h:Hb b F n P c (Exit.inBlock id Q) a w):Hb b F n P (Code.block id c) Q a w:=by
 intro k cs y t s;have g:(lone (b.atR a (.code (.block id c)::k)) cs w).fenced P F:=af4 t s rfl;obtain⟨e,j,i,f,d⟩:=h (.inBlock id::k) cs y t s
 cases e with
 |normal=>exact⟨.normal,j,i,f,.head g afD (afe d (.one (af4 t s rfl) stepR_inBlock))⟩
 |exit o=>
  by_cases q:o=id
  ·simp only[Exit.inBlock,q,if_true] at f
   exact⟨.normal,j,i,f,.head g afD (d.1 k (by simp[exitTo,q]))⟩
  ·simp only[Exit.inBlock,q,if_false] at f;have this:(id == o)=false:=by simp;exact λh=>q h.symm
   have p:exitTo o (.inBlock id::k)=exitTo o k:=by simp[exitTo,this]
   exact⟨.exit o,j,i,f,λk' m=>.head g afD (d.1 k' (by rw[p];exact m)),
    λr m=>let ⟨v,x,u⟩:=d.2 r (by rw[p];exact m);⟨v,x,.head g afD u⟩⟩
 |goto l=>
  have p:gotoIn l (.inBlock id::k)=gotoIn l k:=by simp[gotoIn]
  exact⟨_,j,i,f,λk' m=>.head g afD (d.1 k' (by rw[p];exact m)),
   λr m=>let ⟨v,x,u⟩:=d.2 r (by rw[p];exact m);⟨v,x,.head g afD u⟩⟩
 |ret=>exact⟨_,j,i,f,.of_steps (.one g afD) d⟩
 |panic z=>exact⟨_,j,i,f,.of_steps (.one g afD) d⟩
 |outgrown=>exact⟨_,j,i,f,.of_steps (.one g afD) d⟩
def Hr (f:FuncId):Frame:={(default:Frame) with fn:=f,kind:=.normal,roundOf:=none}
theorem TP {f:FuncId} {fn:Func} {c:Code} {args:Array Xk} {R:Ending->Xh->Prop}
 (s:P.funcs[f]?=some fn) (y:fn.body=some c) (b:F.fn f)
 (h:Hb (Hr f) F n P c (bodyPostM F n P fn R) {tmps:=args++Array.replicate (fn.ntmps - args.size) undef,defers:=[]} w) (x:F.round=none:=by rfl):CallsIn F n P f args w R:=by
 refine⟨b,λcs o=>?_⟩;have z:Frame.enter P f args .normal =
  (Hr f).atR {tmps:=args++Array.replicate (fn.ntmps - args.size) undef,defers:=[]} [.code c]:=by
  simp[Frame.enter,Frame.atR,s,y,Hr]
 obtain⟨e,a,w',d,m⟩:=h [] cs x.symm b o;rw[<-z] at m
 cases e with
 |normal=>
  obtain⟨r,g,j,i,p,q,k⟩:=leaves_stepsInM a.defers .returning w' {(Hr f).atR a [] with mode:=.returning} cs rfl rfl rfl s rfl b o d
  exact⟨r,g,j,i,ComesIn.of_steps (afe m (.one (af4 (fr:=(Hr f).atR a []) b o rfl) (stepR_end rfl))) p,q,k⟩
 |ret=>
  obtain⟨u,t⟩:=m.1 rfl;obtain⟨r,g,j,i,p,q,k⟩:=leaves_stepsInM a.defers .returning w' {(Hr f).atR a u with mode:=.returning} cs rfl rfl rfl s rfl b o d
  exact⟨r,g,j,i,ComesIn.of_steps t p,q,k⟩
 |panic v=>
  obtain⟨u,t⟩:=m;obtain⟨r,g,j,i,p,q,k⟩:=leaves_stepsInM a.defers (.panicking v) w' {(Hr f).atR a u with mode:=.panicking v} cs rfl rfl rfl s rfl b o d
  exact⟨r,g,j,i,ComesIn.of_steps t p,q,k⟩
 |exit id=>exact d.elim
 |goto l=>exact d.elim
 |outgrown=>exact⟨.outgrown,w',Hr f,d,m.resolve_left (by simp[Hr]),rfl,trivial⟩
theorem UI {g:Operand} {ps:Array Tmp} {i body:Code}
 (h:∃(l:Nat) (mark:List Deferred) (y:Xh) (d:Deferred) (m:Xh) (f:FuncId) (args:Array Xk) (q:Xh),
   (Instr.enterLoop b.fn a.tmps ps i body F.round).run P w = .ok (l,mark) y/\
   (resolve a.eval (rangeCall g l) 0).run P y = .ok d m/\
   (∀o,Target.leads P m d.target d.args=some o->F.fn o)/\
   (invoke d.target d.args).run P m = .ok (.enter f args) q/\
   (F.depth.isSome=true->1<=n)/\
   CallsIn F (n - 1) P f args q fun
    |.returned _,c=>∃j,(Instr.endLoop l).run P c = .ok none j/\Q .normal {a with defers:=mark++a.defers} j
    |.panicked s,c=>Q (.panic s) {a with defers:=mark++a.defers} c
    |.outgrown,_=>False) :
 Hb b F n P (Code.rangeFunc g ps i body) Q a w:=by
 intro k cs N B x;obtain⟨l,mark,y,d,m,f,args,q,z,C,U,R,T,H,O⟩:=h;rw[<-N] at z;have E:(lone (b.atR a (.code (.rangeFunc g ps i body)::k)) cs w).fenced P F:=by
  refine fenced_lone (.inl B) (λo A=>U o ?_) (Fence.room_le x (by omega));have I:=Frame.eval_atR b a (.code (.rangeFunc g ps i body)::k);simp only[Frame.atR] at I;simp only[Frame.about,Frame.atR,z,I,C] at A;exact A
 have D:=stepR_rangeFunc (P:=P) (b:=b) (a:=a) (k:=k) (cs:=cs) (w:=w) z C R;have u:F.room ((b.atR {a with defers:=mark++a.defers} (.inRangeFunc l::k)::cs).length+1+(n - 1)):=Fence.room_enter x T;obtain⟨e,c,fr,r,G,J,p⟩:=O (b.atR {a with defers:=mark++a.defers} (.inRangeFunc l::k)::cs) u
 cases e with
 |outgrown=>exact r.elim
 |returned v=>
  have t:(lone fr (b.atR {a with defers:=mark++a.defers} (.inRangeFunc l::k)::cs) c).fenced P F:=fenced_leaving (J ▸ H) u p;obtain⟨j,M,K⟩:=r;have S:StepsIn (Machine.fenced P F) P (lone (b.atR a (.code (.rangeFunc g ps i body)::k)) cs w) (lone (b.atR {a with defers:=mark++a.defers} k) cs j):=by
   refine .head E D (afe G (.head t ?_ (.one (af4 (fr:=b.atR {a with defers:=mark++a.defers} (.endRangeFunc l::k)) B x rfl) (stepR_endRangeFunc M))));rw[<-finish_atR_inRangeFunc l v];exact step_leave_returned p
  exact⟨.normal,_,j,K,S⟩
 |panicked s=>
  have t:(lone fr (b.atR {a with defers:=mark++a.defers} (.inRangeFunc l::k)::cs) c).fenced P F:=fenced_leaving (J ▸ H) u p;refine⟨.panic s,_,c,r,.inRangeFunc l::k,.head E D (afe G (.one t ?_))⟩;rw[<-Frame.raise_atR];exact step_leave_panicked p
end Go.Proofs.YtdcacoifehkioaaGreatDoor
namespace Go.Proofs.YtdcacoifehkioaaGreatDoor
open Go.RowKit Go.Shelf Go.Proofs.Cod Go.Lib
def OC (bl:List Nat) (W W':Xh):Prop:=∀b,b∈bl->W'.heap[b]?=W.heap[b]?
def VO (I:Nat->Xh->Prop) (X:List PanicEntry->Xh->Prop) (bl:List Nat) (i:Nat) (W:Xh):Exit->Act->Xh->Prop
 |.normal,_,W'=>OC bl W W'/\I (i+1) W'
 |.panic chain,a,W'=>a.defers=[]/\OC bl W W'/\X chain W'
 |_,_,_=>False
def Mg (bl:List Nat) (p:Xh->Prop):Prop:=∀W W',p W->(∀b,b<W.heap.size->b∉bl->W'.heap[b]?=W.heap[b]?)->W.heap.size<=W'.heap.size->W'.os=W.os->W'.tape=W.tape->W'.output=W.output->p W'
theorem NO {a:List Nat} {p:Xh->Prop} (h:Mg a p) {W:Xh} (f:p W) {l:Nat} (d:l∈a) (o:Obj):p (W.putObj l o):=
 h W _ f (λb _ c=>Yi (λe=>c (e ▸ d))) (by simp) rfl rfl rfl
theorem adm {a:List Nat} {p:Xh->Prop} (h:Mg a p) {W:Xh} (f:p W) {l:Nat} (d:l∈a) (v:Xk):p (W.setCell ⟨l,0,none⟩ v):=
 h W _ f (λb _ c=>Xo W ⟨l,0,none⟩ v b (λe=>c (e ▸ d))) (by simp) rfl rfl rfl
theorem ST {c:List Nat} {p:Xh->Prop} (h:Mg c p) {W:Xh} (a:p W) (o:Obj):p (W.alloc o):=
 h W _ a (λb d _=>Xv W o b d) (by simp) rfl rfl rfl
theorem OM {b:Frame} {fnd:Func} (ap:Tryz.prog.funcs[b.fn]?=some fnd) {n:Nat} {g:Operand} {J:Tmp} {assign body:Code} {Q:Exit->Act->Xh->Prop} {a:Act} {w:Xh} (f d j:Nat) (c:UInt8) (t:Tx)
 (hg:a.eval g = .func (.func 176) #[] #[.pointer (some ⟨f,0,none⟩),.pointer (some ⟨d,0,none⟩),.pointer (some ⟨j,0,none⟩)]) (hz:t.length<4294967281)
 (O:w.cell? ⟨f,0,none⟩=some (.string (bs [c]))) (V:w.cell? ⟨d,0,none⟩=some (.string (bs t))) (R:w.cell? ⟨j,0,none⟩=some (.int .i64 0)) (hf:w.frozen? ⟨d,0,none⟩=false)
 (aa:f≠d) (aB:j≠d)
 (I:Nat->Xh->Prop) (X:List PanicEntry->Xh->Prop) (z:∀i,Mg [w.heap.size,w.heap.size+1,d] (I i)) (h0:I 0 w) (T:Tx->Act)
 (aE:∀(l:Nat) (p:Tx) (W:Xh) (K:Act->Xh->Prop),K (T p) W->
   assign.wpIn (Yp.inRound l) 0 Tryz.prog (Exit.then K (λ_ _ _=>False)) {tmps:=(#[J].zip #[Value.string (bs p)]).foldl (λt (p,v)=>t.setIfInBounds p v) a.tmps,defers:=[]} W)
 (aw:∀(l i:Nat) (p:Tx) (W:Xh),I i W->(Ar c t)[i]?=some p->w.heap.size+1<W.heap.size->body.wpIn (Yp.inRound l) 0 Tryz.prog (VO I X [w.heap.size,w.heap.size+1,f,d,j] i W) (T p) W)
 (ay:∀W,I (Ar c t).length W->W.heap[w.heap.size]?=some (.deferred (some []))->Q .normal {a with defers:={target:=.collected w.heap.size,args := #[]}::a.defers} W)
 (ax:∀r W,X r W->W.heap[w.heap.size]?=some (.deferred (some []))->Q (.panic r) {a with defers:={target:=.collected w.heap.size,args := #[]}::a.defers} W) :
 Hb b Yp n Tryz.prog (Code.rangeFunc g #[J] assign body) Q a w:=by
 have l1:f<w.heap.size:=YE w ⟨f,0,none⟩ O;have M:d<w.heap.size:=YE w ⟨d,0,none⟩ V;have l3:j<w.heap.size:=YE w ⟨j,0,none⟩ R;obtain⟨o,u⟩:∃o:LoopState->Option Code->Loop,o=λst pe=>{state:=st,pending:=pe,fn:=b.fn,tmps:=a.tmps,params := #[J],assign,body,defers:=w.heap.size}:=⟨_,rfl⟩;obtain⟨m,E⟩:∃m,(w.alloc (.deferred (some []))).alloc (.loop (o .ready none))=m:=⟨_,rfl⟩;have aC:m.heap[w.heap.size+1]?=some (.loop (o .ready none)):=by
  rw[<-E];have:=Xi (w.alloc (.deferred (some []))) (.loop (o .ready none));rwa [Yr] at this
 have ar:m.heap[w.heap.size]?=some (.deferred (some [])):=by
  rw[<-E];exact(Xv _ _ _ (by simp)).trans (Xi w _)
 have az:I 0 m:=by rw[<-E];exact ST (z 0) (ST (z 0) h0 _) _
 have F:Below w.heap.size w m:=by rw[<-E];exact((Xq _ w).alloc (Nat.le_refl _) _).alloc (by simp) _
 have H:w.heap.size+1∈[w.heap.size,w.heap.size+1,d]:=by simp
 have mB:d∈[w.heap.size,w.heap.size+1,d]:=by simp
 refine UI ⟨w.heap.size+1,[{target:=.collected w.heap.size,args := #[]}],m,{target:=.fn (.func 176) #[.pointer (some ⟨f,0,none⟩),.pointer (some ⟨d,0,none⟩),.pointer (some ⟨j,0,none⟩)],args := #[.func (.yield (w.heap.size+1)) #[] #[]]},m,176,
  #[.func (.yield (w.heap.size+1)) #[] #[],.pointer (some ⟨f,0,none⟩),.pointer (some ⟨d,0,none⟩),.pointer (some ⟨j,0,none⟩)],m,?_,?_,λ_ _=>trivial,?_,(λh=>by simp[Yp] at h),?_⟩
 ·rw[<-E,u];exact run_enterLoop_outer _ _ _ _ _
 ·simp only[resolve,hg];simp[go_sem]
 ·simp[invoke,go_sem]
 ·refine(X4.2 (X4.1 (VK (w.heap.size+1) f d j c t
   (λi W=>I i W/\W.heap[w.heap.size+1]?=some (.loop (o .ready none))/\W.heap[w.heap.size]?=some (.deferred (some [])))
   (λr W=>X r W/\W.heap[w.heap.size]?=some (.deferred (some []))) hz ?_ ?_ m ((F.cell (p:=⟨f,0,none⟩) l1).trans O) ((F.cell (p:=⟨d,0,none⟩) M).trans V) ((F.cell (p:=⟨j,0,none⟩) l3).trans R) ((F.frozen (p:=⟨d,0,none⟩) M).trans hf) aa aB ⟨az,aC,ar⟩))).mono ?_
  ·rintro i W v ⟨C,x,s⟩
   exact⟨adm (z i) C mB v,(Xo W ⟨d,0,none⟩ v _ (by show w.heap.size+1≠d;omega)).trans x,(Xo W ⟨d,0,none⟩ v _ (by show w.heap.size≠d;omega)).trans s⟩
  ·rintro i W p ⟨C,x,s⟩ hp;have U:w.heap.size+1<W.heap.size:=(Xa.1 x).1;have N:=run_yield (P:=Tryz.prog) (args := #[.string (bs p)]) x (by rw[u];rfl);rw[u] at N;refine⟨b.fn,_,assign,body,N,WH trivial ap ?_⟩;refine aE _ p W _ ?_;refine⟨_,run_beginRound x (by rw[u]),?_⟩;obtain⟨k,B⟩:∃k,W.putObj (w.heap.size+1) (.loop {o .ready none with state:=.busy})=k:=⟨_,rfl⟩;rw[B];have aD:k.heap[w.heap.size+1]?=some (.loop {o .ready none with state:=.busy}):=by rw[<-B];exact afv U
   have D:∀q,q≠w.heap.size+1->k.heap[q]?=W.heap[q]?:=λq hq=>by rw[<-B];exact Yi hq
   have Y:I i k:=by rw[<-B];exact NO (z i) C H _
   refine wpIn_mono (aw _ i p k Y hp (by rw[<-B];simpa using U)) ?_;rintro e a3 W3 A
   cases e with
   |normal=>
    obtain⟨y,af⟩:=A;have S:=(y (w.heap.size+1) (by simp)).trans aD;have hr:=run_endRound (P:=Tryz.prog) none S;have an:w.heap.size+1<W3.heap.size:=(Xa.1 S).1;refine⟨_,_,hr,.inl ⟨rfl,⟨NO (z (i+1)) af H _,?_,?_⟩,?_,?_,?_⟩⟩
    ·rw[afv an,u];rfl
    ·rw[Yi (by omega)];exact(y w.heap.size (by simp)).trans ((D _ (by omega)).trans s)
    ·rw[Yi (by omega)];exact(y f (by simp)).trans (D _ (by omega))
    ·rw[Yi (by omega)];exact(y d (by simp)).trans (D _ (by omega))
    ·rw[Yi (by omega)];exact(y j (by simp)).trans (D _ (by omega))
   |panic r=>
    obtain⟨Z,y,G⟩:=A
    exact⟨Z,.inr ⟨r,rfl,G,(y w.heap.size (by simp)).trans ((D _ (by omega)).trans s)⟩⟩
   |ret=>exact A.elim
   |exit id=>exact A.elim
   |goto t=>exact A.elim
   |outgrown=>exact A.elim
  ·rintro e k (⟨rfl,C,x,s⟩|⟨r,rfl,G,s⟩)
   ·have ab:=run_endLoop (P:=Tryz.prog) x (by rw[u];simp);have aq:(Instr.endLoop (w.heap.size+1)).run Tryz.prog k = .ok none (k.putObj (w.heap.size+1) (.loop {o .ready none with state:=.exhausted})):=by rw[ab,u]
    exact⟨_,aq,ay _ (NO (z _) C H _) ((Yi (by omega)).trans s)⟩
   ·exact ax r k G s
end Go.Proofs.YtdcacoifehkioaaGreatDoor
namespace Go.Proofs
open Go.Shelf
shelf_lay Lays.n219 Nm 219 at Tryz as Tryz.lays219
end Go.Proofs
namespace Go.Proofs.YtdcacoifehkioaaGreatDoor
open Go.RowKit Go.Shelf Go.Proofs.Cod Go.Lib
theorem acH (t:Tx) (c:UInt8) (w:Xh):XX Tryz.prog 189 #[.string (bs t),.string (bs [c])] w λe w'=>e = .returned (.int .i64 (indexByte t c))/\w'=w:=by
 have h:=Any.stringslite_Index_one Tryz.lays219 (bs t) c w;have e:(bs t).data.toList=t:=by simp[bs]
 rw[e] at h;exact h
def BR (c:UInt8) (t:Tx):Tx:=if indexByte t c = -1 then t else t.take (indexByte t c).toNat
theorem aeo (t:Tx) (c:UInt8) (w:Xh) (o:t.length<4294967281):XX Tryz.prog 178 #[.string (bs t),.string (bs [c])] w λe w'=>(∃h f,e = .returned (.tuple #[.string (bs (BR c t)),.string (bs h),.bool f]))/\Below w.heap.size w w':=by
 have i:=indexByte_ge t c;have u:=Ba t;have v:(bs [c]).size=1:=Ba [c];have a:=acH t c
 by_cases g:indexByte t c = -1
 ·have d:Hid (BR c t=t):=by unfold Hid BR;rw[if_pos g]
  rw[g] at a
  go_enter Tryz.func178,Tryz.ntmps178
  go_wp2_with fail
  refine(a _).mono ?_;rintro e w1 ⟨rfl,rfl⟩
  go_wp2_with fail
  go_ret3
  exact⟨⟨[],false,by rw[d.out];rfl⟩,Xq _ _⟩
 ·obtain⟨j,b⟩:∃j:Nat,indexByte t c=j:=⟨(indexByte t c).toNat,by omega⟩;obtain⟨r,_⟩:=PK c t j b;have d:Hid (BR c t=t.take j):=by unfold Hid BR;rw[if_neg g,b];rfl
  have y:(bs t).extract 0 j=bs (t.take j):=by rw[GO];simp
  have x:(bs t).extract (j+1) t.length=bs (t.drop (j+1)):=by rw[GO,Yo]
  rw[b] at a;have n:0<=(j:Int):=by omega
  have k:(j:Int)<=(t.length:Int):=by omega
  have s:(j:Int)+1<=(t.length:Int):=by omega
  have m:0<=(j:Int)+1:=by omega
  have l:IntKind.i64.wrap ((j:Int)+1)=(j:Int)+1:=(IntWalk.i64_left _).trans (IntWalk.wrap64_in _ (by omega));have p:wrap64 ((j:Int)+1)=(j:Int)+1:=IntWalk.wrap64_in _ (by omega);have q:((j:Int)+1).toNat=j+1:=by omega
  go_enter Tryz.func178,Tryz.ntmps178
  go_wp2_with fail
  refine(a _).mono ?_;rintro e w1 ⟨rfl,rfl⟩
  go_wp2_with fail
  go_region
  all_goals
   go_wp2_with fail
   go_ret3
   exact⟨⟨t.drop (j+1),true,by rw[d.out];rfl⟩,(Xq _ _).drew⟩
theorem aem (t:Tx) (c:UInt8) (w:Xh) (b:t.length<4294967281):XX Tryz.prog 138 #[.string (bs t),.string (bs [c])] w λe w'=>(∃a f,e = .returned (.tuple #[.string (bs (BR c t)),.string (bs a),.bool f]))/\Below w.heap.size w w':=by
 go_enter Tryz.func138,Tryz.ntmps138
 go_wp2_with fail
 refine(aeo t c _ b).mono ?_;rintro e w1 ⟨⟨a,f,rfl⟩,d⟩
 go_wp2_with fail
 go_ret3
 exact⟨⟨a,f,rfl⟩,d⟩
end Go.Proofs.YtdcacoifehkioaaGreatDoor
