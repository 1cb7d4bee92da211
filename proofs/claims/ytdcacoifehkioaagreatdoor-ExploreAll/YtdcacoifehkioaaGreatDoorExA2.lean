import Derived.Test.YtdcacoifehkioaaGreatDoorExA1
import Derived.BigQuiet
import Derived.RangeFuncBox
import Derived.BigRegion
import Derived.Maps.AppendAt
import Derived.Test.YtdcacoifehkioaaGreatDoorExA0
import Derived.Lib.Bytealg
import Derived.Test.YtdcacoifehkioaaGreatDoorChecked
import Derived.RangeFuncIn
import Derived.RangeFuncLeaves
import Derived.RangeFuncNested
import Derived.RangeFuncBound
import Derived.RangeFuncCalls
import Derived.Shelf.Abstract
import Derived.Shelf.RegionOpen
import Derived.WalkKit
import Derived.OwnWalkIn
import Derived.TacticsInMore
import Derived.LoopNIn
import Derived.LoopIn
import Derived.Shelf.Lay
import Derived.Shelf.Strings.Search3
import Derived.ControlIn
import Derived.Deep.QuietTactic
import Derived.RegionTactic
import Derived.Handy
open Go renaming Value->Xk,TypeId->YH,World->Xh,Calls->XY,ownsRow_succ->Y5,bytes->afM,Program->Zk,fenced_calm->afQ,callsIn_wide->X1,stepR_block->afo
open Go.World renaming cell?->Xg,alloc_heap_new->Xi,size_alloc->Yq,cell?_of_block->Xw,cell?_setCell_other->afA,cell?_setCell_same->afH,putObj_heap_other->Yg,block_lt_of_cell?->YD,putObj_heap_same->afh
open Go.RowKit.Below renaming refl->Xq,heap_alloc->Xv,heap_setCell->Xn
open Go.Builtin renaming append_->XL
open Go.StepsIn renaming trans->Z9
open Go.Fence renaming wide->Ym
open List renaming length_drop->ae3,getElem?_drop->afi,take_length->Yp
open Array renaming getElem?_eq_some_iff->Xa
set_option maxHeartbeats 1000000
set_option maxRecDepth 100000
set_option linter.unusedVariables false
set_option linter.unusedSimpArgs false
namespace Go.Proofs.YtdcacoifehkioaaGreatDoor
open Go.RowKit Go.Proofs.Cod
theorem QQ {κ:Type} {enc:κ->Xk} {K:YH} {d:TypeDesc} (i:Tryz.prog.underlying K=some d) (n:∀{a b:κ},enc a=enc b->a=b) (c:∀a,MapKept.IsKey d (enc a)):Ht enc K:=by
 refine⟨n,λe x w=>MapKept.run_checkKey i (c x) e 9999,λx w p k=>?_,λx w=>MapKept.run_keyThatStays (c x)⟩
 rcases MapKept.findNow_spec (c x) p 0 (λe h=>by obtain⟨l,o⟩:=k e h;rw[o];exact c l) with⟨f,g⟩|⟨j,e,f,g,m⟩
 ·exact .inr ⟨g,MapKept.run_findKey i f⟩
 ·rw[Nat.zero_add] at f;exact .inl ⟨j,e,g,m,MapKept.run_findKey i f⟩
theorem Tryz.strKey:Ht sk 9:=QQ Tryz.underlying9 VK (λ_=>trivial)
theorem UF {a b:Int} (h:uk a=uk b):a=b:=by simpa [uk] using h
theorem Tryz.u8Key:Ht uk 5:=QQ Tryz.underlying5 UF (λ_=>rfl)
section
variable {w w':Xh} {tag tag':Nat->RT} {base rb nb lb:Nat} {G:RG}
theorem Al.GE (h:Al w tag base rb nb lb G):w.cell? ⟨rb,0,none⟩=some (.int .i64 G.line):=by simp[Xg,h.cell]
theorem Al.thrC (h:Al w tag base rb nb lb G):w.cell? ⟨rb,4,none⟩=some (.slice none 0 0):=by simp[Xg,h.cell]
theorem Al.Ko (h:Al w tag base rb nb lb G):w.cell? ⟨rb,6,none⟩=some G.bV:=by simp[Xg,h.cell]
theorem Al.Nc (h:Al w tag base rb nb lb G):w.cell? ⟨rb,7,none⟩=some (.map (some nb)):=by simp[Xg,h.cell]
theorem Al.abQ (h:Al w tag base rb nb lb G):w.cell? ⟨rb,8,none⟩=some (.map (some lb)):=by simp[Xg,h.cell]
theorem Al.Nt (h:Al w tag base rb nb lb G):w.cell? ⟨rb,9,none⟩=some G.lV:=by simp[Xg,h.cell]
theorem Al.Ei (h:Al w tag base rb nb lb G) {k:Int} (a:AR k):w.cell? ⟨rb,Cs k,none⟩=some (G.V k):=by
 rcases a with rfl|rfl|rfl|rfl<;>simp[Xg,h.cell,Cs]
theorem Al.DZ (h:Al w tag base rb nb lb G) (i:Nat):w.frozen? ⟨rb,i,none⟩=false:=by simp[World.frozen?,h.cell]
end
theorem In (rb:Nat) (e:Int) (w:Xh):XY Tryz.prog 180 #[Ab rb,.bool true,.int .i64 e] w λa w'=>a = .returned (.tuple #[])/\w'=w:=by
 unfold Ab
 go_enter Tryz.func180,Tryz.ntmps180
 go_wp2
 go_end0
 exact⟨rfl,rfl⟩
theorem Gj {rb:Nat} {l:Int} {w:Xh} (e:Int) (h:w.cell? ⟨rb,0,none⟩=some (.int .i64 l)):XY Tryz.prog 180 #[Ab rb,.bool false,.int .i64 e] w λa w'=>a = .panicked (FC e l)/\w'=w:=by
 unfold Ab
 go_enter Tryz.func180,Tryz.ntmps180
 go_wp2
 exact⟨rfl,rfl,rfl⟩
theorem Tryz.zeroEnt (w:Xh):(zeroValue 287).run Tryz.prog w = .ok (.pointer none) w:=by kernel_rfl
theorem EK.look {w:Xh} {g:Nat->RT} {b:Nat} {N:Tx->Option (Int×Nat)} (h:EK w g b N) (t:Tx) :
 (N t=none/\(Instr.lookup 141 (.map (some b)) (.string (bs t)) false).run Tryz.prog w = .ok (.pointer none) w)\/
 ∃k n e,N t=some (k,n)/\(Instr.lookup 141 (.map (some b)) (.string (bs t)) false).run Tryz.prog w = .ok (Ab e) w/\w.heap[e]?=some (.cells #[.int .u8 k,.int .i64 n] 289)/\g e = .en:=by
 obtain⟨f,m,q,j⟩:=h;have c:=q.look Tryz.strKey Tryz.underlying141 (Tryz.zeroEnt w) t;have a:=j t
 cases d:N t with
 |none=>
  rw[d] at a;have a:f t=none:=a;rw[a] at c;exact .inl ⟨rfl,c⟩
 |some p=>
  obtain⟨k,n⟩:=p;rw[d] at a;obtain⟨e,o,i,l⟩:=a;rw[o] at c;exact .inr ⟨k,n,e,rfl,c,i,l⟩
theorem SQ {w:Xh} {o:Nat->RT} {b:Nat} {N:Tx->Option (Int×Nat)} (h:EK w o b N) (kd:Int) (t:Tx) (l:Int) :
 XY Tryz.prog 215 #[.map (some b),.int .u8 kd,.string (bs t),.int .i64 l] w λg w'=>((∃n:Nat,N t=some (kd,n)/\g = .returned (.int .i64 n))\/((∀n,N t≠some (kd,n))/\g = .panicked (FC 5 l)))/\w'=w:=by
 rcases h.look t with⟨a,d⟩|⟨k,n,e,a,d,c,i⟩
 ·rw[a];have q:Hid (FC 5 l=FC 5 l):=rfl
  go_enter Tryz.func215,Tryz.ntmps215
  go_wp2
  exact⟨rfl,.inr ⟨(by intro n j;cases j),rfl⟩,rfl⟩
 ·rw[a];unfold Ab at d;have c0:w.cell? ⟨e,0,none⟩=some (.int .u8 k):=by simp[Xg,c]
  have c1:w.cell? ⟨e,1,none⟩=some (.int .i64 n):=by simp[Xg,c]
  clear a c i
  by_cases f:k=kd
  ·subst f
   go_enter Tryz.func215,Tryz.ntmps215
   go_wp2
   go_ret
   exact⟨.inl ⟨n,rfl,rfl⟩,rfl⟩
  ·go_enter Tryz.func215,Tryz.ntmps215
   go_wp2
   exact⟨rfl,.inr ⟨(by intro m p;cases p;exact f rfl),rfl⟩,rfl⟩
theorem abZ {w:Xh} {base e n:Nat} {v:Xk} {l:List Nat} (h:w.ownsRow base e 1 v (l.map Ab).length (l.map Ab)) (c:l.length=n+1):∃g cap a,v = .slice (some ⟨g,0,none⟩) (n+1) cap/\l.getLast?=some a/\w.cell? ⟨g,n,none⟩=some (Ab a):=by
 rw[List.length_map,c] at h;obtain⟨g,cap,rfl⟩:=Y5 h;obtain⟨a,b⟩:∃a,l[n]?=some a:=⟨l[n],List.getElem?_eq_getElem (by omega)⟩;refine⟨g,cap,a,rfl,?_,?_⟩
 ·rw[List.getLast?_eq_getElem?,c];exact b
 ·rw[h.cellAt n (by omega),List.getElem?_map,b];rfl
theorem NY {w:Xh} {m:Nat->RT} {base rb k lb:Nat} {G:RG} (h:Al w m base rb k lb G) {a:Nat} (b:G.bods.getLast?=some a) (j:G.bods.length<4294967281) :
 XY Tryz.prog 182 #[Ab rb] w λo w'=>o = .returned (Ab a)/\Below w.heap.size w w':=by
 obtain⟨n,c⟩:∃n,G.bods.length=n+1:=⟨G.bods.length - 1,by
  have l:G.bods≠[]:=λe=>by rw[e] at b;cases b
  have:=List.length_pos_iff.2 l
  omega⟩
 obtain⟨g,cap,q,f,d,p⟩:=abZ h.brow.row c;rw[b] at d
 cases d
 have c0:=h.Ko;rw[f] at c0;have i:=Xq w.heap.size w;have r:=Aa i;clear i f h b;rw[c] at j;clear c;unfold Ab at *
 go_enter Tryz.func182,Tryz.ntmps182
 go_wp2_with fail
 go_quiet (fail)
 go_wp2_with fail
 go_ret
 exact⟨rfl,⟨rfl,rfl,rfl,Nat.le_refl _,λ_ _=>rfl⟩⟩
def CM (tag:Nat->RT) (b0:Nat) (g:RT) (b:Nat):RT:=if b=b0 then g else tag b
theorem FT (b:Nat->RT) (a:Nat) (g:RT):CM b a g a=g:=by simp[CM]
theorem Da {c:Nat->RT} {a b:Nat} (g:RT) (h:b≠a):CM c a g b=c b:=by simp[CM,h]
def Bc {α:Type} (f:Tx->Option α) (t:Tx) (v:α):Tx->Option α:=λx=>if x=t then some v else f x
def BU {α:Type} (f:Nat->Option α) (t:Nat) (v:α):Nat->Option α:=λx=>if x=t then some v else f x
def Out (w:Xh) (tag:Nat->RT) (base rb nb lb:Nat) (l:Int) (P:RG->Prop) (E:Int->Prop) (en:Ending) (w':Xh):Prop:=
 (∃tag' G',en = .returned (.tuple #[])/\Al w' tag' base rb nb lb G'/\Ah w tag w' tag'/\P G')\/(∃tag' e,en = .panicked (FC e l)/\Ah w tag w' tag'/\E e)
theorem EK.put {w:Xh} {i:Nat->RT} {b:Nat} {N:Tx->Option (Int×Nat)} (h:EK w i b N) (t:Tx) (k:Int) (n:Nat) (F:∀b,i b = .en->b<w.heap.size) (y:i b≠.en) (p:b<w.heap.size) :
 ∃w',(Instr.mapUpdate 141 (.map (some b)) (.string (bs t)) (.pointer (some ⟨w.heap.size,0,none⟩))).run Tryz.prog ((w.alloc (.cells #[.int .u8 k,.int .i64 n] 289)).drew) = .ok () w'/\
  EK w' (CM i w.heap.size .en) b (Bc N t (k,n))/\w'.heap.size=w.heap.size+1/\w'.os=w.os/\w'.tape=w.tape/\w'.output=w.output/\(∀x,x<w.heap.size->x≠b->w'.heap[x]?=w.heap[x]?):=by
 obtain⟨f,m,C,q⟩:=h;obtain⟨W,a⟩:∃W,(w.alloc (.cells #[.int .u8 k,.int .i64 n] 289)).drew=W:=⟨_,rfl⟩;have j:∀x,x<w.heap.size->W.heap[x]?=w.heap[x]?:=λx d=>by rw[<-a];exact Xv w _ x d
 have s:W.heap.size=w.heap.size+1:=by rw[<-a];simp
 have v:W.heap[w.heap.size]?=some (.cells #[.int .u8 k,.int .i64 n] 289):=by rw[<-a];exact Xi w _
 obtain⟨w',A,E,g,D⟩:=(C.same (j b p)).put Tryz.strKey Tryz.underlying141 t (Ab w.heap.size);rw[a];refine⟨w',A,⟨_,_,E,λx=>?_⟩,D.trans s,g.os.trans (by rw[<-a];rfl),g.tape.trans (by rw[<-a];rfl),g.output.trans (by rw[<-a];rfl),λx d B=>(g.block x (by omega) (by simpa using B)).trans (j x d)⟩;have r:∀c,i c = .en->w'.heap[c]?=w.heap[c]?/\CM i w.heap.size .en c = .en:=λc o=>by
  have z:=F c o;refine⟨(g.block c (by omega) (by simp;intro e;subst e;exact y o)).trans (j c z),?_⟩;rw[Da _ (by omega)];exact o
 by_cases d:x=t
 ·subst d;have u:Bv f x (Ab w.heap.size) x=some (Ab w.heap.size):=Lg _ _ _;have l:Bc N x (k,n) x=some (k,n):=by simp[Bc]
  rw[l]
  exact⟨w.heap.size,u,(g.block w.heap.size (by omega) (by simp;omega)).trans v,FT _ _ _⟩
 ·have l:Bc N t (k,n) x=N x:=by simp[Bc,d]
  rw[CT _ d,l]
  exact(q x).kept r
section
variable {w w':Xh} {tag tag':Nat->RT} {base rb nb lb:Nat} {G:RG}
def RG.mark (G:RG) (a:Nat) (c:EV) (t:Tx):RG:={G with B:=BU G.B a {c with labs:=Bc c.labs t c.ins.length}}
theorem Al.mark (h:Al w tag base rb nb lb G) {a:Nat} {c:EV} (A:G.B a=some c) (t:Tx) :
 ∃w',(Instr.mapUpdate 141 (.map (some c.lm)) (.string (bs t)) (.pointer (some ⟨w.heap.size,0,none⟩))).run Tryz.prog ((w.alloc (.cells #[.int .u8 108,.int .i64 c.ins.length] 289)).drew) = .ok () w'/\
  ∃tag',Al w' tag' base rb nb lb (G.mark a c t)/\Ah w tag w' tag':=by
 have f:=h.bodies a c A;have z:=h.lt f.tl (by simp);obtain⟨w',y,F,H,p,C,E,m⟩:=f.labs.put t 108 c.ins.length (λb l=>h.lt l (by simp)) (by rw[f.tl];simp) z;have j:Ah w tag w' (CM tag w.heap.size .en):=⟨p,C,E,by omega,λb l=>Da _ (by omega),λb l p=>m b l (λe=>by rw[e,f.tl] at p;cases p)⟩;refine⟨w',y,CM tag w.heap.size .en,h.step (λg=>g = .lb a) j (λb l s v=>m b l (λe=>v (by rw[e];exact f.tl))) ?_ ((m rb (h.lt h.trd (by simp)) (λe=>?_)).trans h.cell) (λk _=>.inl ⟨rfl,rfl,by simp⟩) (.inl ⟨rfl,rfl,by simp⟩) (.inl ⟨rfl,rfl,by simp⟩) (.inl ⟨rfl,by simp⟩) (by simp) (by simp) (by simp) (λb d q=>?_) (λb i u=>.inl ⟨u,?_⟩) (λd q=>.inl q),j⟩
 ·intro b l r;unfold CM at r
  split at r
  ·omega
  ·exact absurd (h.tlt b r).2 (by omega)
 ·have s:=h.trd;rw[e,f.tl] at s;cases s
 ·have n:BU G.B a {c with labs:=Bc c.labs t c.ins.length} b=some d:=q;unfold BU at n
  split at n
  ·rename_i e;subst e
   cases n
   right;have o:∀x,tag x = .bd b\/tag x = .cd b->w'.heap[x]?=w.heap[x]?/\CM tag w.heap.size .en x=tag x:=λx j=>by
    have D:x<w.heap.size:=by rcases j with e|e<;>exact h.lt e (by simp)
    exact⟨m x D (λe=>by rw[e,f.tl] at j;rcases j with e|e<;>cases e),Da _ (by omega)⟩
   refine⟨(o b (.inl f.ta)).1.trans f.cell,Bw f.code λg e=>(o g (.inr (f.tcode g e))).1,λg e=>(o g (.inr (f.tcode g e))).2.trans (f.tcode g e),?_,(o b (.inl f.ta)).2.trans f.ta,(Da _ (by show c.lm≠w.heap.size;omega)).trans f.tl⟩;have e:Bc (IL c.labs) t (108,c.ins.length)=IL (Bc c.labs t c.ins.length):=by
    funext x
    unfold Bc IL
    by_cases j:x=t<;>simp[j]
   rw[<-e];exact F
  ·rename_i e;exact .inl ⟨n,by simp,by simp,by simpa using e⟩
 ·have:=h.ins b i u;exact m b (h.lt this.2 (by simp)) (λe=>by rw[e,f.tl] at this;cases this.2)
end
theorem QN (w:Xh):Sem.run Tryz.prog (binOp .eql 287 (.pointer none) (.pointer none)) w = .ok (.bool true) w:=by kernel_rfl
theorem MH {w:Xh} {base e:Nat} {v:Xk} {l:List Nat} (h:w.ownsRow base e 1 v l.length (l.map Ab)):∃a cap,v = .slice a l.length cap:=by
 rcases h.2 with⟨b,c⟩|⟨g,cap,d,b,_⟩
 ·exact⟨none,0,by rw[b,c]⟩
 ·exact⟨_,_,b⟩
theorem abx {w:Xh} {d:Nat->RT} {base rb u lb:Nat} {G:RG} (h:Al w d base rb u lb G) {a:Nat} {c:EV} (F:G.bods.getLast?=some a) (y:G.bods.length<4294967281) (z:G.B a=some c) (t:Tx) :
 XY Tryz.prog 143 #[Ab rb,.string (bs t)] w (Out w d base rb u lb G.line (λJ=>Av t=true/\c.labs t=none/\J=G.mark a c t) (λe=>(Av t=false/\e=2)\/(Av t=true/\(∃n,c.labs t=some n)/\e=3))):=by
 have s:=Aa (fun(w':Xh) (o:Below w.heap.size w w')=>h.below o);have f:=Aa (fun(w':Xh) (o:Below w.heap.size w w')=>(Ah.CF o:Ah w d w' d));have r:=NY h F y;unfold Ab at r |-;clear F y h
 go_enter Tryz.func143,Tryz.ntmps143
 go_wp2_with fail
 refine r.mono ?_;rintro e w1 ⟨rfl,l⟩;have i:=s.out _ l;have v:=f.out _ l;clear s f r l;have b:=i.bodies a c z;have E:=i.GE;have c1:w1.cell? ⟨a,1,none⟩=some (.map (some c.lm)):=by simp[Xg,b.cell]
 have c0:w1.cell? ⟨a,0,none⟩=some c.cv:=by simp[Xg,b.cell]
 have O:=i.lt b.ta (by simp);obtain⟨P,R,C⟩:=MH b.code;rw[C] at c0;have I:=b.labs.look t;obtain⟨w',Q,K,H,D⟩:=i.mark z t;have A:=Aa (⟨H,D⟩:_/\_);have f:=Aa v;clear H D i v b C
 go_wp2_with fail
 refine(NB t _).mono ?_;rintro e S ⟨rfl,rfl⟩
 cases p:Av t with
 |false=>
  go_wp2_with fail
  refine(Gj 2 E).mono ?_;rintro e w3 ⟨rfl,rfl⟩
  exact⟨rfl,.inr ⟨d,2,rfl,f.out,.inl ⟨p,rfl⟩⟩⟩
 |true=>
  go_wp2_with fail
  refine(In rb 2 _).mono ?_;rintro e w3 ⟨rfl,rfl⟩
  rcases I with⟨j,x⟩|⟨k,n,T,j,x,_⟩
  ·have g:c.labs t=none:=by
    cases q:c.labs t with
    |none=>rfl
    |some n=>simp[IL,q] at j
   clear j;have N:=QN
   go_wp2_with fail
   refine(In rb 3 _).mono ?_;rintro e M ⟨rfl,rfl⟩
   go_wp2_with fail
   go_region
   all_goals
    go_wp2_with fail
    go_end0
    exact .inl ⟨K,_,rfl,A.out.1,f.out.trans A.out.2,p,g,rfl⟩
  ·have g:∃m,c.labs t=some m:=by
    cases q:c.labs t with
    |none=>simp[IL,q] at j
    |some m=>exact⟨m,rfl⟩
   have g:=Aa g;clear j;unfold Ab at x
   go_wp2_with fail
   refine(Gj 3 E).mono ?_;rintro e M ⟨rfl,rfl⟩
   exact⟨rfl,.inr ⟨d,3,rfl,f.out,.inr ⟨p,g.out,rfl⟩⟩⟩
theorem Co {a:Nat->RT} {b c:Nat} {g d:RT} (h:a b=g) (i:a c=d) (f:g≠d):b≠c:=λe=>f (by rw[<-h,<-i,e])
def Hd (tag:Nat->RT) (n:Nat) (g:RT) (v:Xk):Nat->RT:=CM tag n (open Classical in if v.ownBlock=some n then g else .o)
theorem Hc {a:Nat->RT} {n b:Nat} {g:RT} {v:Xk} (h:b≠n):Hd a n g v b=a b:=Da _ h
theorem Mr {a:Nat->RT} {n:Nat} {g:RT} {v:Xk} (h:v.ownBlock=some n):Hd a n g v n=g:=by
 unfold Hd;rw[FT,if_pos h]
theorem MX {w:Xh} {base e:Nat} {v:Xk} {a:List Xk} {T:YH} {i:TypeInfo} {z:Xk} {f:Nat} (q:w.ownsRow base e 1 v a.length a) (o:Tryz.prog.underlying T=some (.slice e)) (l:Tryz.prog.info? e=some i) (m:i.zero=some z) (r:i.size=1) (t:i.bytes=f) (y:z.cells.size=1) (s:f<=64)
 (x:Xk) (u:x.oneCell'=true) (j:YH) (B:a.length<1048576) (A:base<=w.heap.size) :
 ∃g cap w',(XL #[T,T] j #[v,.slice (some ⟨w.heap.size,0,none⟩) 1 1]).run Tryz.prog (w.alloc (.cells #[x] e)) = .ok (.slice (some ⟨g,0,none⟩) (a.length+1) cap) w'/\
  w'.ownsRow base e 1 (.slice (some ⟨g,0,none⟩) (a.length+1) cap) (a.length+1) (a++[x])/\w'.os=w.os/\w'.tape=w.tape/\w'.output=w.output/\w.heap.size+1<=w'.heap.size/\
  (∀b,b<w.heap.size->v.ownBlock≠some b->w'.heap[b]?=w.heap[b]?)/\(v.ownBlock=some g\/g=w.heap.size+1):=by
 obtain⟨C,w',k,h,d,c⟩:=JO (P:=Tryz.prog) (w.alloc (.cells #[x] e)) base T j e i z 1 f o l m r t y v a.length a (q.alloc _) ⟨w.heap.size,0,none⟩ 1 1 [x] (by omega) rfl (cell_one_new _ _ _) (by simpa using u) (by unfold maxLen;omega)
  (by have:(a.length+1)*f<=1048576*64:=Nat.mul_le_mul (by omega) s
      omega) (by simp;omega)
 obtain⟨g,cap,rfl⟩:=Y5 h;refine⟨g,cap,w',k,h,d.os,d.tape,d.output,by have:=d.size;simpa using this,λb n p=>(d.block b (by simp;omega) (λe=>p e.symm)).trans (Xv w _ b n),?_⟩
 rcases c with c|c
 ·exact .inl c.symm
 ·right;have c:some g=some (w.alloc (.cells #[x] e)).heap.size:=c;rw[Yq] at c;exact Option.some.inj c
theorem Dr.push {w:Xh} {d:Nat->RT} {base e:Nat} {k:Int} {v:Xk} {a:List Xk} {T:YH} {i:TypeInfo} {z:Xk} {r:Nat} (h:Dr w d base e k v a) (G:Tryz.prog.underlying T=some (.slice e)) (A:Tryz.prog.info? e=some i) (B:i.zero=some z) (I:i.size=1) (K:i.bytes=r) (O:z.cells.size=1) (J:r<=64)
 (x:Xk) (N:x.oneCell'=true) (p:YH) (y:a.length<1048576) (s:base<=w.heap.size) (q:∀b,d b≠.o->b<w.heap.size) :
 ∃g cap w' l,(XL #[T,T] p #[v,.slice (some ⟨w.heap.size,0,none⟩) 1 1]).run Tryz.prog (w.alloc (.cells #[x] e)) = .ok (.slice (some ⟨g,0,none⟩) (a.length+1) cap) w'/\
  Dr w' l base e k (.slice (some ⟨g,0,none⟩) (a.length+1) cap) (a++[x])/\w'.os=w.os/\w'.tape=w.tape/\w'.output=w.output/\w.heap.size+1<=w'.heap.size/\
  (∀b,b<w.heap.size->d b≠.row k->w'.heap[b]?=w.heap[b]?)/\(∀b,b<=w.heap.size->l b=d b)/\(∀b,w.heap.size<=b->l b≠.o->b<w'.heap.size):=by
 obtain⟨g,cap,w',t,m,u,M,C,D,rb,F⟩:=MX h.row G A B I K O J x N p y s;have E:=m.lt g rfl;refine⟨g,cap,w',Hd d (w.heap.size+1) (.row k) (.slice (some ⟨g,0,none⟩) (a.length+1) cap),t,⟨by rw[List.length_append];exact m,λH e=>?_⟩,u,M,C,D,λb j c=>rb b j (λe=>c (h.tg b e)),λb j=>Hc (by omega),λb j c=>?_⟩
 ·have e:some g=some H:=e
  cases e
  rcases F with e|e
  ·have:=q g (by rw[h.tg g e];simp);rw[Hc (by omega)];exact h.tg g e
  ·subst e;exact Mr rfl
 ·by_cases e:b=w.heap.size+1
  ·subst e
   by_cases n:g=w.heap.size+1
   ·rw[<-n];exact E.2
   ·exfalso;apply c
    unfold Hd;rw[FT,if_neg];intro f;have f:some g=some (w.heap.size+1):=f;exact n (Option.some.inj f)
  ·rw[Hc e] at c;have:=q b c;omega
theorem Dl {P:Zk} {w:Xh} {b:Array Oper} {rest:List Oper} {o:Oper} {a:Act} {Q:Exit->Act->Xh->Prop}
 (k:o.guard=none) (s x:Operand) (t:YH) (l:o.op=Op.call {callee:=Callee.builtin Builtin.append,args := #[s,x],argTypes := #[t,t]}) {v u c:Xk} {w':Xh} {d:YH} (f:o.type=d)
 (e:a.eval s=v) (j:a.eval x=u) (g:(XL #[t,t] d #[v,u]).run P w = .ok c w') (h:wpList P b Q rest (a.put o.dst c) w'):wpList P b Q (o::rest) a w:=by
 refine wpList_plain k λK i=>?_;unfold Oper.wp;simp[execOp,l,resolve,invoke,builtin,e,j,f,g,Result.andThen];exact i _ _ h
theorem Tryz.infoTx:(Tryz.prog.info? 9).map (λi=>(i.zero,i.size,i.bytes))=some (some (.string ByteArray.empty),1,16):=by kernel_rfl
theorem Tryz.infoBd:(Tryz.prog.info? 240).map (λi=>(i.zero,i.size,i.bytes))=some (some (.pointer none),1,8):=by kernel_rfl
theorem Tryz.infoIn:(Tryz.prog.info? 244).map (λi=>(i.zero,i.size,i.bytes))=some (some (.pointer none),1,8):=by kernel_rfl
theorem Tryz.infoFn:(Tryz.prog.info? 1).map (λi=>(i.zero,i.size,i.bytes))=some (some .nilFunc,1,8):=by kernel_rfl
end Go.Proofs.YtdcacoifehkioaaGreatDoor
namespace Go.Proofs.Cod
open Go.Lib
def Ar (c:UInt8):Tx->List Tx
 |[]=>[[]]
 |b::l=>if b == c then []::Ar c l else match Ar c l with
  |[]=>[[b]]
  |p::ps=>(b::p)::ps
theorem PE (c:UInt8) (t:Tx):Ar c t≠[]:=by
 cases t with
 |nil=>simp[Ar]
 |cons b l=>
  unfold Ar
  split
  ·simp
  ·split<;>simp
theorem VA (c:UInt8) (t:Tx) (h:indexByte t c = -1):Ar c t=[t]:=by
 induction t with
 |nil=>rfl
 |cons b l f=>
  unfold indexByte at h
  split at h
  ·omega
  ·rename_i e
   split at h
   ·rename_i a;have d:indexByte l c = -1:=by simpa using a
    unfold Ar;rw[if_neg e,f d]
   ·have:=indexByte_ge l c;rename_i a;have d:indexByte l c≠-1:=by simpa using a
    omega
theorem PC (c:UInt8) (t:Tx) (i:Nat) (h:indexByte t c=i):i<t.length/\Ar c t=t.take i::Ar c (t.drop (i+1)):=by
 induction t generalizing i with
 |nil=>unfold indexByte at h;omega
 |cons b l g=>
  unfold indexByte at h
  split at h
  ·rename_i a
   obtain rfl:i=0:=by omega
   refine⟨by simp,?_⟩
   conv=>lhs;unfold Ar
   rw[if_pos a];rfl
  ·rename_i a
   split at h
   ·omega
   ·rename_i d;have n:indexByte l c≠-1:=by simpa using d
    have k:=indexByte_ge l c;obtain⟨j,e⟩:∃j:Nat,indexByte l c=j:=⟨(indexByte l c).toNat,by omega⟩
    obtain rfl:i=j+1:=by omega
    obtain⟨m,f⟩:=g j e;refine⟨by simp;omega,?_⟩
    conv=>lhs;unfold Ar
    rw[if_neg a,f]
    simp
end Go.Proofs.Cod
namespace Go.Proofs.YtdcacoifehkioaaGreatDoor
open Go
variable {F:Fence} {n:Nat} {P:Zk}
def Wr (P:Zk) (l:Nat) (R:Ending->Xh->Prop):Exit->Act->Xh->Prop
 |.normal,_,w=>∃v w',(Instr.endRound l none).run P w = .ok v w'/\R (.returned v) w'
 |.panic chain,a,w=>a.defers=[]/\R (.panicked chain) w
 |_,_,_=>False
theorem Wt {l:Nat} {f:FuncId} {fn:Func} {tmps:Array Xk} {o body:Code} {w:Xh} {R:Ending->Xh->Prop} (x:F.fn f) (J:P.funcs[f]?=some fn)
 (h:o.wpIn (F.inRound l) n P (Exit.then (λg s=>∃j,(Instr.beginRound l).run P s = .ok () j/\body.wpIn (F.inRound l) n P (Wr P l R) g j) (λ_ _ _=>False))
   {tmps:=tmps,defers:=[]} w) :
 RoundIn F n P l f tmps o body w R:=by
 refine⟨x,λc cs y=>?_⟩
 let b:Frame:={(default:Frame) with fn:=f,kind:=.normal,roundOf:=some l}
 have O:Frame.round l f tmps o body .normal=b.atR {tmps:=tmps,defers:=[]} [.code o,.beginRound,.code body]:=by
  simp[Frame.round,Frame.atR,b]
 have k:(F.inRound l).room ((c::cs).length+1+n):=y;have m:(F.inRound l).fn b.fn:=x;obtain⟨e,g,s,d,r⟩:=h b [.beginRound,.code body] (c::cs) rfl m k;rw[<-O] at r
 cases e with
 |normal=>
  obtain⟨j,I,G⟩:=d;have B:StepsIn (Machine.fenced P (F.inRound l)) P (lone (b.atR g [.beginRound,.code body]) (c::cs) s) (lone (b.atR g [.code body]) (c::cs) j):=
   .one (afQ (fr:=b.atR g [.beginRound,.code body]) m k rfl) (stepR_beginRound rfl I)
  obtain⟨H,p,q,a,A⟩:=G b [] (c::cs) rfl m k
  cases H with
  |normal=>
   obtain⟨v,D,N,u⟩:=a
   exact⟨.returned v,D,u,(Z9 r B).trans (Z9 A (.one (afQ (fr:=b.atR p []) m k rfl) (stepR_round_end rfl rfl N)))⟩
  |panic i=>
   obtain⟨K,u⟩:=a;obtain⟨C,M⟩:=A;have z:((b.atR p C).raise i).leaving P q (.panicked i):=⟨rfl,K,fn,J⟩;have E:(lone ((b.atR p C).raise i) (c::cs) q).fenced P F:=fenced_leaving (n:=n) x y z
   exact⟨.panicked i,q,u,(Z9 r B).trans (Z9 M (.one E (step_leave_panicked z)))⟩
  |ret=>exact a.elim
  |exit id=>exact a.elim
  |goto t=>exact a.elim
  |outgrown=>exact a.elim
 |exit id=>exact d.elim
 |goto t=>exact d.elim
 |ret=>exact d.elim
 |panic i=>exact d.elim
 |outgrown=>exact d.elim
end Go.Proofs.YtdcacoifehkioaaGreatDoor
namespace Go.Proofs
open Go.Shelf
shelf_lay Lays.n143 Nm 143 at Tryz as Tryz.lays143
end Go.Proofs
namespace Go.Proofs.YtdcacoifehkioaaGreatDoor
open Go.RowKit Go.Shelf Go.Proofs.Cod Go.Lib
attribute [local go_sem] Oper.semAt_some
theorem acC (t:Tx) (c:UInt8) (w:Xh):XY Tryz.prog 151 #[.string (bs t),.string (bs [c])] w λe w'=>e = .returned (.int .i64 (indexByte t c))/\w'=w:=by
 have h:=Any.strings_Index_one Tryz.lays143 (bs t) c w;have e:(bs t).data.toList=t:=by simp[bs]
 rw[e] at h;exact h
def Ns (b:Nat) (w:Xh):Nat:=match w.cell? ⟨b,0,none⟩ with
 |some (.string s)=>s.size
 |_=>0
theorem RO {b:Nat} {w:Xh} {t:Tx} (h:w.cell? ⟨b,0,none⟩=some (.string (bs t))):Ns b w=t.length:=by
 unfold Ns;rw[h];exact Bg t
theorem Vy (l h b k:Nat) (c:UInt8) (t:Tx) (J:Nat->Xh->Prop) (X:List PanicEntry->Xh->Prop) (hz:t.length<4294967281)
 (H:∀i W v,J i W->J i (W.setCell ⟨b,0,none⟩ v))
 (E:∀i W p,J i W->(Ar c t)[i]?=some p->YieldAt Ym 0 Tryz.prog l #[.string (bs p)] W λe g=>
   (e = .returned (.bool true)/\J (i+1) g/\g.heap[h]?=W.heap[h]?/\g.heap[b]?=W.heap[b]?/\g.heap[k]?=W.heap[k]?)\/∃f,e = .panicked f/\X f g)
 (W:Xh) (r:W.cell? ⟨h,0,none⟩=some (.string (bs [c]))) (n:W.cell? ⟨b,0,none⟩=some (.string (bs t))) (s:W.cell? ⟨k,0,none⟩=some (.int .i64 0)) (o:W.frozen? ⟨b,0,none⟩=false)
 (G:h≠b) (P:k≠b) (B:J 0 W) :
 CallsIn Ym 1 Tryz.prog 176 #[.func (.yield l) #[] #[],.pointer (some ⟨h,0,none⟩),.pointer (some ⟨b,0,none⟩),.pointer (some ⟨k,0,none⟩)] W λe g=>
  (e = .returned (.tuple #[])/\J (Ar c t).length g)\/∃f,e = .panicked f/\X f g:=by
 have aa:(bs [c]).size=1:=Bg [c];refine callsIn_of_wp Tryz.func176 rfl trivial ?_ rfl;simp only[Tryz.ntmps176,List.size_toArray,List.length_cons,List.length_nil,Nat.reduceAdd,Nat.reduceSub,Array.replicate_succ,Array.replicate_zero,List.push_toArray,List.append_toArray,List.nil_append,List.cons_append]
 gi_wp2
 gi_loopw [7,8] (λ_ _ wr=>∃(i:Nat) (rest:Tx),wr.cell? ⟨h,0,none⟩=some (.string (bs [c]))/\wr.cell? ⟨b,0,none⟩=some (.string (bs rest))/\wr.cell? ⟨k,0,none⟩=some (.int .i64 0)/\wr.frozen? ⟨b,0,none⟩=false/\rest.length<=t.length/\(Ar c t).drop i=Ar c rest/\J i wr) (λ_ _ wr=>Ns b wr)
 case atStart=>exact⟨0,t,r,n,s,o,Nat.le_refl _,rfl,B⟩
 case round=>
  clear r n s o B;obtain⟨i,rest,r,n,s,o,ab,m,F⟩:=hrel;have Z:=indexByte_ge rest c;have q:=acC rest c
  by_cases D:indexByte rest c = -1
  ·have U:=VA c rest D;rw[U] at m;have I:(Ar c t).length=i+1:=by
    have d:((Ar c t).drop i).length=1:=by rw[m];rfl
    rw[ae3] at d;omega
   have x:(Ar c t)[i]?=some rest:=by
    have d:((Ar c t).drop i)[0]?=some rest:=by rw[m];rfl
    rw[afi] at d;simpa using d
   obtain⟨fn,tmps,Y,body,T,w⟩:=E i wr rest F x;rw[D] at q
   gi_wp2_with (refine⟨trivial,?_⟩;gi_at_call 151;refine(X1.2 (q _)).mono ?_;rintro e w' ⟨rfl,rfl⟩)
   refine w.mono ?_;rintro e K (⟨rfl,y,_⟩|⟨f,rfl,u⟩)
   ·gi_wp2
    go_end0
    exact .inl ⟨rfl,by rw[I];exact y⟩
   ·exact⟨rfl,.inr ⟨f,rfl,u⟩⟩
  ·obtain⟨j,A⟩:∃j:Nat,indexByte rest c=j:=⟨(indexByte rest c).toNat,by omega⟩;obtain⟨ad,O⟩:=PC c rest j A;rw[O] at m;have x:(Ar c t)[i]?=some (rest.take j):=by
    have d:((Ar c t).drop i)[0]?=some (rest.take j):=by rw[m];rfl
    rw[afi] at d;simpa using d
   have V:(Ar c t).drop (i+1)=Ar c (rest.drop (j+1)):=by
    have d:((Ar c t).drop i).drop 1=Ar c (rest.drop (j+1)):=by rw[m];rfl
    rw[List.drop_drop] at d;exact d
   obtain⟨fn,tmps,Y,body,T,w⟩:=E i wr (rest.take j) F x;have am:=Bg rest;have ah:(bs rest).extract 0 j=bs (rest.take j):=by rw[Hp];simp
   rw[A] at q;have ag:¬((j:Int)<0):=by omega
   have ai:(j:Int)<=(rest.length:Int):=by omega
   gi_wp2_with (refine⟨trivial,?_⟩;gi_at_call 151;refine(X1.2 (q _)).mono ?_;rintro e w' ⟨rfl,rfl⟩)
   refine w.mono ?_;rintro e K (⟨rfl,y,S,z,N⟩|⟨f,rfl,u⟩)
   ·have Q:=(Xw (a:=⟨h,0,none⟩) S).trans r;have C:=(Xw (a:=⟨b,0,none⟩) z).trans n;have M:=(Xw (a:=⟨k,0,none⟩) N).trans s;have R:=(World.frozen?_of_block (a:=⟨b,0,none⟩) z).trans o;have ak:(bs rest).extract (j+1) rest.length=bs (rest.drop (j+1)):=by rw[Hp,Yp]
    have aj:(j:Int)+1<=(rest.length:Int):=by omega
    have ac:0<=(j:Int)+1:=by omega
    gi_wp2
    go_roundw
    case rel=>exact⟨i+1,rest.drop (j+1),by rw[afA _ _ _ _ (by intro e;cases e;exact G rfl)];exact Q,afH _ _ _ C,by rw[afA _ _ _ _ (by intro e;cases e;exact P rfl)];exact M,by rw[World.frozen?_setCell];exact R,by rw[ae3];omega,V,H _ _ _ y⟩
    case measure=>rw[RO (afH _ _ _ C),RO n,ae3];omega
   ·exact⟨rfl,.inr ⟨f,rfl,u⟩⟩
end Go.Proofs.YtdcacoifehkioaaGreatDoor
namespace Go.Proofs.YtdcacoifehkioaaGreatDoor
open Go
variable {F:Fence} {n:Nat} {P:Zk} {Q:Exit->Act->Xh->Prop} {a:Act} {w:Xh} {b:Frame}
def GZ (b:Frame) (F:Fence) (n:Nat) (P:Zk) (c:Code) (Q:Exit->Act->Xh->Prop) (a:Act) (w:Xh):Prop:=
 ∀(k:List Item) (cs:List Frame),b.roundOf=F.round->F.fn b.fn->F.room (cs.length+1+n)->
  ∃e a' w',Q e a' w'/\ArrivesIn (Machine.fenced P F) P (lone (b.atR a (.code c::k)) cs w) b k cs e a' w'
theorem GY {c:Code} (h:c.wpIn F n P Q a w):GZ b F n P c Q a w:=λk cs d f e=>h b k cs d f e
theorem GX {x y:Code} (h:GZ b F n P x (Exit.then (GZ b F n P y Q) Q) a w):GZ b F n P (Code.seq x y) Q a w:=by
 intro k cs o j m;have d:(lone (b.atR a (.code (.seq x y)::k)) cs w).fenced P F:=afQ j m rfl;obtain⟨e,i,g,c,f⟩:=h (.code y::k) cs o j m
 cases e with
 |normal=>
  obtain⟨r,p,q,t,s⟩:=c k cs o j m
  exact⟨r,p,q,t,.of_steps (.head d stepR_seq f) s⟩
 |exit id=>exact⟨_,i,g,c,.of_steps (.one d stepR_seq) (.pass (x:=.code y) rfl (λ_ _=>.inl (by simp)) f)⟩
 |goto l=>exact⟨_,i,g,c,.of_steps (.one d stepR_seq) (.pass (x:=.code y) rfl (λ_ _=>.inl (by simp)) f)⟩
 |ret=>exact⟨_,i,g,c,.of_steps (.one d stepR_seq) (.pass (x:=.code y) rfl (λ_ _=>.inl (by simp)) f)⟩
 |panic u=>exact⟨_,i,g,c,.of_steps (.one d stepR_seq) (.pass (x:=.code y) rfl (λ_ _=>.inl (by simp)) f)⟩
 |outgrown=>exact⟨_,i,g,c,.of_steps (.one d stepR_seq) (.pass (x:=.code y) rfl (λ_ _=>.inl (by simp)) f)⟩
theorem OF {id:Nat} {c:Code} (h:GZ b F n P c (Exit.inBlock id Q) a w):GZ b F n P (Code.block id c) Q a w:=by
 intro k cs y r x;have f:(lone (b.atR a (.code (.block id c)::k)) cs w).fenced P F:=afQ r x rfl;obtain⟨e,m,i,d,g⟩:=h (.inBlock id::k) cs y r x
 cases e with
 |normal=>exact⟨.normal,m,i,d,.head f afo (Z9 g (.one (afQ r x rfl) stepR_inBlock))⟩
 |exit o=>
  by_cases q:o=id
  ·simp only[Exit.inBlock,q,if_true] at d
   exact⟨.normal,m,i,d,.head f afo (g.1 k (by simp[exitTo,q]))⟩
  ·simp only[Exit.inBlock,q,if_false] at d;have this:(id == o)=false:=by simp;exact λh=>q h.symm
   have p:exitTo o (.inBlock id::k)=exitTo o k:=by simp[exitTo,this]
   exact⟨.exit o,m,i,d,λk' j=>.head f afo (g.1 k' (by rw[p];exact j)),
    λu j=>let ⟨t,v,s⟩:=g.2 u (by rw[p];exact j);⟨t,v,.head f afo s⟩⟩
 |goto l=>
  have p:gotoIn l (.inBlock id::k)=gotoIn l k:=by simp[gotoIn]
  exact⟨_,m,i,d,λk' j=>.head f afo (g.1 k' (by rw[p];exact j)),
   λu j=>let ⟨t,v,s⟩:=g.2 u (by rw[p];exact j);⟨t,v,.head f afo s⟩⟩
 |ret=>exact⟨_,m,i,d,.of_steps (.one f afo) g⟩
 |panic z=>exact⟨_,m,i,d,.of_steps (.one f afo) g⟩
 |outgrown=>exact⟨_,m,i,d,.of_steps (.one f afo) g⟩
def Hn (f:FuncId):Frame:={(default:Frame) with fn:=f,kind:=.normal,roundOf:=none}
theorem TC {f:FuncId} {fn:Func} {c:Code} {args:Array Xk} {R:Ending->Xh->Prop}
 (s:P.funcs[f]?=some fn) (y:fn.body=some c) (b:F.fn f)
 (h:GZ (Hn f) F n P c (bodyPostM F n P fn R) {tmps:=args++Array.replicate (fn.ntmps - args.size) undef,defers:=[]} w) (z:F.round=none:=by rfl):CallsIn F n P f args w R:=by
 refine⟨b,λcs j=>?_⟩;have x:Frame.enter P f args .normal =
  (Hn f).atR {tmps:=args++Array.replicate (fn.ntmps - args.size) undef,defers:=[]} [.code c]:=by
  simp[Frame.enter,Frame.atR,s,y,Hn]
 obtain⟨e,a,w',d,k⟩:=h [] cs z.symm b j;rw[<-x] at k
 cases e with
 |normal=>
  obtain⟨g,i,p,q,r,m,o⟩:=leaves_stepsInM a.defers .returning w' {(Hn f).atR a [] with mode:=.returning} cs rfl rfl rfl s rfl b j d
  exact⟨g,i,p,q,ComesIn.of_steps (Z9 k (.one (afQ (fr:=(Hn f).atR a []) b j rfl) (stepR_end rfl))) r,m,o⟩
 |ret=>
  obtain⟨u,t⟩:=k.1 rfl;obtain⟨g,i,p,q,r,m,o⟩:=leaves_stepsInM a.defers .returning w' {(Hn f).atR a u with mode:=.returning} cs rfl rfl rfl s rfl b j d
  exact⟨g,i,p,q,ComesIn.of_steps t r,m,o⟩
 |panic v=>
  obtain⟨u,t⟩:=k;obtain⟨g,i,p,q,r,m,o⟩:=leaves_stepsInM a.defers (.panicking v) w' {(Hn f).atR a u with mode:=.panicking v} cs rfl rfl rfl s rfl b j d
  exact⟨g,i,p,q,ComesIn.of_steps t r,m,o⟩
 |exit id=>exact d.elim
 |goto l=>exact d.elim
 |outgrown=>exact⟨.outgrown,w',Hn f,d,k.resolve_left (by simp[Hn]),rfl,trivial⟩
theorem Uv {g:Operand} {ps:Array Tmp} {j body:Code}
 (h:∃(l:Nat) (mark:List Deferred) (u:Xh) (d:Deferred) (o:Xh) (f:FuncId) (args:Array Xk) (q:Xh),
   (Instr.enterLoop b.fn a.tmps ps j body F.round).run P w = .ok (l,mark) u/\
   (resolve a.eval (rangeCall g l) 0).run P u = .ok d o/\
   (∀p,Target.leads P o d.target d.args=some p->F.fn p)/\
   (invoke d.target d.args).run P o = .ok (.enter f args) q/\
   (F.depth.isSome=true->1<=n)/\
   CallsIn F (n - 1) P f args q fun
    |.returned _,c=>∃i,(Instr.endLoop l).run P c = .ok none i/\Q .normal {a with defers:=mark++a.defers} i
    |.panicked x,c=>Q (.panic x) {a with defers:=mark++a.defers} c
    |.outgrown,_=>False) :
 GZ b F n P (Code.rangeFunc g ps j body) Q a w:=by
 intro k cs T E s;obtain⟨l,mark,u,d,o,f,args,q,t,J,M,N,R,I,S⟩:=h;rw[<-T] at t;have B:(lone (b.atR a (.code (.rangeFunc g ps j body)::k)) cs w).fenced P F:=by
  refine fenced_lone (.inl E) (λp H=>M p ?_) (Fence.room_le s (by omega));have C:=Frame.eval_atR b a (.code (.rangeFunc g ps j body)::k);simp only[Frame.atR] at C;simp only[Frame.about,Frame.atR,t,C,J] at H;exact H
 have A:=stepR_rangeFunc (P:=P) (b:=b) (a:=a) (k:=k) (cs:=cs) (w:=w) t J N;have r:F.room ((b.atR {a with defers:=mark++a.defers} (.inRangeFunc l::k)::cs).length+1+(n - 1)):=Fence.room_enter s R;obtain⟨e,c,fr,z,G,D,m⟩:=S (b.atR {a with defers:=mark++a.defers} (.inRangeFunc l::k)::cs) r
 cases e with
 |outgrown=>exact z.elim
 |returned v=>
  have y:(lone fr (b.atR {a with defers:=mark++a.defers} (.inRangeFunc l::k)::cs) c).fenced P F:=fenced_leaving (D ▸ I) r m;obtain⟨i,U,K⟩:=z;have O:StepsIn (Machine.fenced P F) P (lone (b.atR a (.code (.rangeFunc g ps j body)::k)) cs w) (lone (b.atR {a with defers:=mark++a.defers} k) cs i):=by
   refine .head B A (Z9 G (.head y ?_ (.one (afQ (fr:=b.atR {a with defers:=mark++a.defers} (.endRangeFunc l::k)) E s rfl) (stepR_endRangeFunc U))));rw[<-finish_atR_inRangeFunc l v];exact step_leave_returned m
  exact⟨.normal,_,i,K,O⟩
 |panicked x=>
  have y:(lone fr (b.atR {a with defers:=mark++a.defers} (.inRangeFunc l::k)::cs) c).fenced P F:=fenced_leaving (D ▸ I) r m;refine⟨.panic x,_,c,z,.inRangeFunc l::k,.head B A (Z9 G (.one y ?_))⟩;rw[<-Frame.raise_atR];exact step_leave_panicked m
end Go.Proofs.YtdcacoifehkioaaGreatDoor
namespace Go.Proofs.YtdcacoifehkioaaGreatDoor
open Go.RowKit Go.Shelf Go.Proofs.Cod Go.Lib
def Ov (bl:List Nat) (W W':Xh):Prop:=∀b,b∈bl->W'.heap[b]?=W.heap[b]?
def VC (I:Nat->Xh->Prop) (X:List PanicEntry->Xh->Prop) (bl:List Nat) (i:Nat) (W:Xh):Exit->Act->Xh->Prop
 |.normal,_,W'=>Ov bl W W'/\I (i+1) W'
 |.panic chain,a,W'=>a.defers=[]/\Ov bl W W'/\X chain W'
 |_,_,_=>False
def Mh (bl:List Nat) (p:Xh->Prop):Prop:=∀W W',p W->(∀b,b<W.heap.size->b∉bl->W'.heap[b]?=W.heap[b]?)->W.heap.size<=W'.heap.size->W'.os=W.os->W'.tape=W.tape->W'.output=W.output->p W'
theorem NI {a:List Nat} {p:Xh->Prop} (h:Mh a p) {W:Xh} (f:p W) {l:Nat} (d:l∈a) (o:Obj):p (W.putObj l o):=
 h W _ f (λb _ c=>Yg (λe=>c (e ▸ d))) (by simp) rfl rfl rfl
theorem ade {a:List Nat} {p:Xh->Prop} (h:Mh a p) {W:Xh} (f:p W) {l:Nat} (d:l∈a) (v:Xk):p (W.setCell ⟨l,0,none⟩ v):=
 h W _ f (λb _ c=>Xn W ⟨l,0,none⟩ v b (λe=>c (e ▸ d))) (by simp) rfl rfl rfl
theorem SG {c:List Nat} {p:Xh->Prop} (h:Mh c p) {W:Xh} (d:p W) (o:Obj):p (W.alloc o):=
 h W _ d (λb a _=>Xv W o b a) (by simp) rfl rfl rfl
theorem OE {b:Frame} {fnd:Func} (aw:Tryz.prog.funcs[b.fn]?=some fnd) {n:Nat} {g:Operand} {H:Tmp} {assign body:Code} {Q:Exit->Act->Xh->Prop} {a:Act} {w:Xh} (f d j:Nat) (c:UInt8) (t:Tx)
 (hg:a.eval g = .func (.func 176) #[] #[.pointer (some ⟨f,0,none⟩),.pointer (some ⟨d,0,none⟩),.pointer (some ⟨j,0,none⟩)]) (hz:t.length<4294967281)
 (T:w.cell? ⟨f,0,none⟩=some (.string (bs [c]))) (S:w.cell? ⟨d,0,none⟩=some (.string (bs t))) (U:w.cell? ⟨j,0,none⟩=some (.int .i64 0)) (Y:w.frozen? ⟨d,0,none⟩=false)
 (aa:f≠d) (am:j≠d)
 (I:Nat->Xh->Prop) (X:List PanicEntry->Xh->Prop) (z:∀i,Mh [w.heap.size,w.heap.size+1,d] (I i)) (Z:I 0 w) (N:Tx->Act)
 (ao:∀(l:Nat) (p:Tx) (W:Xh) (K:Act->Xh->Prop),K (N p) W->
   assign.wpIn (Ym.inRound l) 0 Tryz.prog (Exit.then K (λ_ _ _=>False)) {tmps:=(#[H].zip #[Value.string (bs p)]).foldl (λt (p,v)=>t.setIfInBounds p v) a.tmps,defers:=[]} W)
 (af:∀(l i:Nat) (p:Tx) (W:Xh),I i W->(Ar c t)[i]?=some p->w.heap.size+1<W.heap.size->body.wpIn (Ym.inRound l) 0 Tryz.prog (VC I X [w.heap.size,w.heap.size+1,f,d,j] i W) (N p) W)
 (an:∀W,I (Ar c t).length W->W.heap[w.heap.size]?=some (.deferred (some []))->Q .normal {a with defers:={target:=.collected w.heap.size,args := #[]}::a.defers} W)
 (au:∀r W,X r W->W.heap[w.heap.size]?=some (.deferred (some []))->Q (.panic r) {a with defers:={target:=.collected w.heap.size,args := #[]}::a.defers} W) :
 GZ b Ym n Tryz.prog (Code.rangeFunc g #[H] assign body) Q a w:=by
 have l1:f<w.heap.size:=YD w ⟨f,0,none⟩ T;have R:d<w.heap.size:=YD w ⟨d,0,none⟩ S;have l3:j<w.heap.size:=YD w ⟨j,0,none⟩ U;obtain⟨o,x⟩:∃o:LoopState->Option Code->Loop,o=λst pe=>{state:=st,pending:=pe,fn:=b.fn,tmps:=a.tmps,params := #[H],assign,body,defers:=w.heap.size}:=⟨_,rfl⟩;obtain⟨k,D⟩:∃k,(w.alloc (.deferred (some []))).alloc (.loop (o .ready none))=k:=⟨_,rfl⟩;have ar:k.heap[w.heap.size+1]?=some (.loop (o .ready none)):=by
  rw[<-D];have:=Xi (w.alloc (.deferred (some []))) (.loop (o .ready none));rwa [Yq] at this
 have ad:k.heap[w.heap.size]?=some (.deferred (some [])):=by
  rw[<-D];exact(Xv _ _ _ (by simp)).trans (Xi w _)
 have ap:I 0 k:=by rw[<-D];exact SG (z 0) (SG (z 0) Z _) _
 have F:Below w.heap.size w k:=by rw[<-D];exact((Xq _ w).alloc (Nat.le_refl _) _).alloc (by simp) _
 have G:w.heap.size+1∈[w.heap.size,w.heap.size+1,d]:=by simp
 have mB:d∈[w.heap.size,w.heap.size+1,d]:=by simp
 refine Uv ⟨w.heap.size+1,[{target:=.collected w.heap.size,args := #[]}],k,{target:=.fn (.func 176) #[.pointer (some ⟨f,0,none⟩),.pointer (some ⟨d,0,none⟩),.pointer (some ⟨j,0,none⟩)],args := #[.func (.yield (w.heap.size+1)) #[] #[]]},k,176,
  #[.func (.yield (w.heap.size+1)) #[] #[],.pointer (some ⟨f,0,none⟩),.pointer (some ⟨d,0,none⟩),.pointer (some ⟨j,0,none⟩)],k,?_,?_,λ_ _=>trivial,?_,(λh=>by simp[Ym] at h),?_⟩
 ·rw[<-D,x];exact run_enterLoop_outer _ _ _ _ _
 ·simp only[resolve,hg];simp[go_sem]
 ·simp[invoke,go_sem]
 ·refine(X1.2 (X1.1 (Vy (w.heap.size+1) f d j c t
   (λi W=>I i W/\W.heap[w.heap.size+1]?=some (.loop (o .ready none))/\W.heap[w.heap.size]?=some (.deferred (some [])))
   (λr W=>X r W/\W.heap[w.heap.size]?=some (.deferred (some []))) hz ?_ ?_ k ((F.cell (p:=⟨f,0,none⟩) l1).trans T) ((F.cell (p:=⟨d,0,none⟩) R).trans S) ((F.cell (p:=⟨j,0,none⟩) l3).trans U) ((F.frozen (p:=⟨d,0,none⟩) R).trans Y) aa am ⟨ap,ar,ad⟩))).mono ?_
  ·rintro i W v ⟨B,y,s⟩
   exact⟨ade (z i) B mB v,(Xn W ⟨d,0,none⟩ v _ (by show w.heap.size+1≠d;omega)).trans y,(Xn W ⟨d,0,none⟩ v _ (by show w.heap.size≠d;omega)).trans s⟩
  ·rintro i W p ⟨B,y,s⟩ hp;have O:w.heap.size+1<W.heap.size:=(Xa.1 y).1;have V:=run_yield (P:=Tryz.prog) (args := #[.string (bs p)]) y (by rw[x];rfl);rw[x] at V;refine⟨b.fn,_,assign,body,V,Wt trivial aw ?_⟩;refine ao _ p W _ ?_;refine⟨_,run_beginRound y (by rw[x]),?_⟩;obtain⟨m,C⟩:∃m,W.putObj (w.heap.size+1) (.loop {o .ready none with state:=.busy})=m:=⟨_,rfl⟩;rw[C];have aq:m.heap[w.heap.size+1]?=some (.loop {o .ready none with state:=.busy}):=by rw[<-C];exact afh O
   have E:∀q,q≠w.heap.size+1->m.heap[q]?=W.heap[q]?:=λq hq=>by rw[<-C];exact Yg hq
   have ak:I i m:=by rw[<-C];exact NI (z i) B G _
   refine wpIn_mono (af _ i p m ak hp (by rw[<-C];simpa using O)) ?_;rintro e a3 W3 A
   cases e with
   |normal=>
    obtain⟨u,aA⟩:=A;have M:=(u (w.heap.size+1) (by simp)).trans aq;have hr:=run_endRound (P:=Tryz.prog) none M;have aD:w.heap.size+1<W3.heap.size:=(Xa.1 M).1;refine⟨_,_,hr,.inl ⟨rfl,⟨NI (z (i+1)) aA G _,?_,?_⟩,?_,?_,?_⟩⟩
    ·rw[afh aD,x];rfl
    ·rw[Yg (by omega)];exact(u w.heap.size (by simp)).trans ((E _ (by omega)).trans s)
    ·rw[Yg (by omega)];exact(u f (by simp)).trans (E _ (by omega))
    ·rw[Yg (by omega)];exact(u d (by simp)).trans (E _ (by omega))
    ·rw[Yg (by omega)];exact(u j (by simp)).trans (E _ (by omega))
   |panic r=>
    obtain⟨hd,u,J⟩:=A
    exact⟨hd,.inr ⟨r,rfl,J,(u w.heap.size (by simp)).trans ((E _ (by omega)).trans s)⟩⟩
   |ret=>exact A.elim
   |exit id=>exact A.elim
   |goto t=>exact A.elim
   |outgrown=>exact A.elim
  ·rintro e m (⟨rfl,B,y,s⟩|⟨r,rfl,J,s⟩)
   ·have aE:=run_endLoop (P:=Tryz.prog) y (by rw[x];simp);have ax:(Instr.endLoop (w.heap.size+1)).run Tryz.prog m = .ok none (m.putObj (w.heap.size+1) (.loop {o .ready none with state:=.exhausted})):=by rw[aE,x]
    exact⟨_,ax,an _ (NI (z _) B G _) ((Yg (by omega)).trans s)⟩
   ·exact au r m J s
end Go.Proofs.YtdcacoifehkioaaGreatDoor
namespace Go.Proofs
open Go.Shelf
shelf_lay Lays.n219 Nm 219 at Tryz as Tryz.lays219
end Go.Proofs
namespace Go.Proofs.YtdcacoifehkioaaGreatDoor
open Go.RowKit Go.Shelf Go.Proofs.Cod Go.Lib
theorem acB (t:Tx) (c:UInt8) (w:Xh):XY Tryz.prog 189 #[.string (bs t),.string (bs [c])] w λe w'=>e = .returned (.int .i64 (indexByte t c))/\w'=w:=by
 have h:=Any.stringslite_Index_one Tryz.lays219 (bs t) c w;have e:(bs t).data.toList=t:=by simp[bs]
 rw[e] at h;exact h
def BQ (c:UInt8) (t:Tx):Tx:=if indexByte t c = -1 then t else t.take (indexByte t c).toNat
theorem aee (t:Tx) (c:UInt8) (w:Xh) (n:t.length<4294967281):XY Tryz.prog 178 #[.string (bs t),.string (bs [c])] w λe w'=>(∃h f,e = .returned (.tuple #[.string (bs (BQ c t)),.string (bs h),.bool f]))/\Below w.heap.size w w':=by
 have i:=indexByte_ge t c;have o:=Bg t;have k:(bs [c]).size=1:=Bg [c];have a:=acB t c
 by_cases d:indexByte t c = -1
 ·have g:Hid (BQ c t=t):=by unfold Hid BQ;rw[if_pos d]
  rw[d] at a
  go_enter Tryz.func178,Tryz.ntmps178
  go_wp2_with fail
  refine(a _).mono ?_;rintro e w1 ⟨rfl,rfl⟩
  go_wp2_with fail
  go_ret3
  exact⟨⟨[],false,by rw[g.out];rfl⟩,Xq _ _⟩
 ·obtain⟨j,b⟩:∃j:Nat,indexByte t c=j:=⟨(indexByte t c).toNat,by omega⟩;obtain⟨m,_⟩:=PC c t j b;have g:Hid (BQ c t=t.take j):=by unfold Hid BQ;rw[if_neg d,b];rfl
  have q:(bs t).extract 0 j=bs (t.take j):=by rw[Hp];simp
  have x:(bs t).extract (j+1) t.length=bs (t.drop (j+1)):=by rw[Hp,Yp]
  rw[b] at a;have p:0<=(j:Int):=by omega
  have u:(j:Int)<=(t.length:Int):=by omega
  have v:(j:Int)+1<=(t.length:Int):=by omega
  have l:0<=(j:Int)+1:=by omega
  have y:IntKind.i64.wrap ((j:Int)+1)=(j:Int)+1:=(IntWalk.i64_left _).trans (IntWalk.wrap64_in _ (by omega));have s:wrap64 ((j:Int)+1)=(j:Int)+1:=IntWalk.wrap64_in _ (by omega);have r:((j:Int)+1).toNat=j+1:=by omega
  go_enter Tryz.func178,Tryz.ntmps178
  go_wp2_with fail
  refine(a _).mono ?_;rintro e w1 ⟨rfl,rfl⟩
  go_wp2_with fail
  go_region
  all_goals
   go_wp2_with fail
   go_ret3
   exact⟨⟨t.drop (j+1),true,by rw[g.out];rfl⟩,(Xq _ _).drew⟩
theorem aec (t:Tx) (c:UInt8) (w:Xh) (d:t.length<4294967281):XY Tryz.prog 138 #[.string (bs t),.string (bs [c])] w λe w'=>(∃a f,e = .returned (.tuple #[.string (bs (BQ c t)),.string (bs a),.bool f]))/\Below w.heap.size w w':=by
 go_enter Tryz.func138,Tryz.ntmps138
 go_wp2_with fail
 refine(aee t c _ d).mono ?_;rintro e w1 ⟨⟨a,f,rfl⟩,b⟩
 go_wp2_with fail
 go_ret3
 exact⟨⟨a,f,rfl⟩,b⟩
end Go.Proofs.YtdcacoifehkioaaGreatDoor
