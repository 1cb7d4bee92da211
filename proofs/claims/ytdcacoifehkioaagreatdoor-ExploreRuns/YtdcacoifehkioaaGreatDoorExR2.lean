import Derived.Test.YtdcacoifehkioaaGreatDoorExR1
import Derived.BigQuiet
import Derived.RangeFuncBox
import Derived.BigRegion
import Derived.Maps.AppendAt
import Derived.Test.YtdcacoifehkioaaGreatDoorExR0
import Derived.Lib.Bytealg
import Derived.Test.YtdcacoifehkioaaGreatDoorChecked
import Derived.RangeFuncIn
import Derived.RangeFuncLeaves
import Derived.RangeFuncNested
import Derived.RangeFuncBound
import Derived.RangeFuncCalls
import Derived.Shelf.Abstract
import Derived.Shelf.RegionOpen
import Derived.WalkKit
import Derived.OwnWalkIn
import Derived.TacticsInMore
import Derived.LoopNIn
import Derived.LoopIn
import Derived.Shelf.Lay
import Derived.Shelf.Strings.Search3
import Derived.ControlIn
import Derived.Deep.QuietTactic
import Derived.RegionTactic
import Derived.Handy
open Go renaming Value->Xj,TypeId->YD,World->Xg,Calls->X3,ownsRow_succ->YV,bytes->adG,Program->Y4,fenced_calm->adm,callsIn_wide->XT,stepR_block->ZY
open Go.World renaming cell?->Xh,alloc_heap_new->Xi,size_alloc->Yj,cell?_of_block->Xr,cell?_setCell_other->acr,cell?_setCell_same->ac7,putObj_heap_other->X9,block_lt_of_cell?->Yx,putObj_heap_same->ZR
open Go.RowKit.Below renaming refl->Xo,heap_alloc->Xq,heap_setCell->Xl
open Go.Builtin renaming append_->XM
open Go.StepsIn renaming trans->ZN
open Go.Fence renaming wide->Ye
open List renaming length_drop->ZP,getElem?_drop->ZS,take_length->Yi
open Array renaming getElem?_eq_some_iff->Xa
set_option maxHeartbeats 1000000
set_option maxRecDepth 100000
set_option linter.unusedVariables false
set_option linter.unusedSimpArgs false
namespace Go.Proofs.YtdcacoifehkioaaGreatDoor
open Go.RowKit Go.Proofs.Cod
theorem OU {κ:Type} {enc:κ->Xj} {K:YD} {d:TypeDesc} (g:Tryz.prog.underlying K=some d) (o:∀{a b:κ},enc a=enc b->a=b) (c:∀a,MapKept.IsKey d (enc a)):Gv enc K:=by
 refine⟨o,λe x w=>MapKept.run_checkKey g (c x) e 9999,λx w p l=>?_,λx w=>MapKept.run_keyThatStays (c x)⟩
 rcases MapKept.findNow_spec (c x) p 0 (λe h=>by obtain⟨n,k⟩:=l e h;rw[k];exact c n) with⟨f,i⟩|⟨j,e,f,i,m⟩
 ·exact .inr ⟨i,MapKept.run_findKey g f⟩
 ·rw[Nat.zero_add] at f;exact .inl ⟨j,e,i,m,MapKept.run_findKey g f⟩
theorem Tryz.strKey:Gv sk 9:=OU Tryz.underlying9 TJ (λ_=>trivial)
theorem SL {a b:Int} (h:uk a=uk b):a=b:=by simpa [uk] using h
theorem Tryz.u8Key:Gv uk 5:=OU Tryz.underlying5 SL (λ_=>rfl)
section
variable {w w':Xg} {tag tag':Nat->RT} {base rb nb lb:Nat} {G:RG}
theorem Ai.FC (h:Ai w tag base rb nb lb G):w.cell? ⟨rb,0,none⟩=some (.int .i64 G.line):=by simp[Xh,h.cell]
theorem Ai.thrC (h:Ai w tag base rb nb lb G):w.cell? ⟨rb,4,none⟩=some (.slice none 0 0):=by simp[Xh,h.cell]
theorem Ai.Jj (h:Ai w tag base rb nb lb G):w.cell? ⟨rb,6,none⟩=some G.bV:=by simp[Xh,h.cell]
theorem Ai.LM (h:Ai w tag base rb nb lb G):w.cell? ⟨rb,7,none⟩=some (.map (some nb)):=by simp[Xh,h.cell]
theorem Ai.Wx (h:Ai w tag base rb nb lb G):w.cell? ⟨rb,8,none⟩=some (.map (some lb)):=by simp[Xh,h.cell]
theorem Ai.Mc (h:Ai w tag base rb nb lb G):w.cell? ⟨rb,9,none⟩=some G.lV:=by simp[Xh,h.cell]
theorem Ai.Dm (h:Ai w tag base rb nb lb G) {k:Int} (a:AH k):w.cell? ⟨rb,BN k,none⟩=some (G.V k):=by
 rcases a with rfl|rfl|rfl|rfl<;>simp[Xh,h.cell,BN]
theorem Ai.De (h:Ai w tag base rb nb lb G) (i:Nat):w.frozen? ⟨rb,i,none⟩=false:=by simp[World.frozen?,h.cell]
end
theorem GS (rb:Nat) (e:Int) (w:Xg):X3 Tryz.prog 180 #[Ab rb,.bool true,.int .i64 e] w λa w'=>a = .returned (.tuple #[])/\w'=w:=by
 unfold Ab
 go_enter Tryz.func180,Tryz.ntmps180
 go_wp2
 go_end0
 exact⟨rfl,rfl⟩
theorem Fd {rb:Nat} {l:Int} {w:Xg} (e:Int) (h:w.cell? ⟨rb,0,none⟩=some (.int .i64 l)):X3 Tryz.prog 180 #[Ab rb,.bool false,.int .i64 e] w λa w'=>a = .panicked (El e l)/\w'=w:=by
 unfold Ab
 go_enter Tryz.func180,Tryz.ntmps180
 go_wp2
 exact⟨rfl,rfl,rfl⟩
theorem Tryz.zeroEnt (w:Xg):(zeroValue 287).run Tryz.prog w = .ok (.pointer none) w:=by kernel_rfl
theorem DD.look {w:Xg} {d:Nat->RT} {b:Nat} {N:Tx->Option (Int×Nat)} (h:DD w d b N) (t:Tx) :
 (N t=none/\(Instr.lookup 141 (.map (some b)) (.string (bs t)) false).run Tryz.prog w = .ok (.pointer none) w)\/
 ∃k n e,N t=some (k,n)/\(Instr.lookup 141 (.map (some b)) (.string (bs t)) false).run Tryz.prog w = .ok (Ab e) w/\w.heap[e]?=some (.cells #[.int .u8 k,.int .i64 n] 289)/\d e = .en:=by
 obtain⟨f,m,o,i⟩:=h;have c:=o.look Tryz.strKey Tryz.underlying141 (Tryz.zeroEnt w) t;have a:=i t
 cases g:N t with
 |none=>
  rw[g] at a;have a:f t=none:=a;rw[a] at c;exact .inl ⟨rfl,c⟩
 |some p=>
  obtain⟨k,n⟩:=p;rw[g] at a;obtain⟨e,j,l,q⟩:=a;rw[j] at c;exact .inr ⟨k,n,e,rfl,c,l,q⟩
theorem QT {w:Xg} {i:Nat->RT} {b:Nat} {N:Tx->Option (Int×Nat)} (h:DD w i b N) (kd:Int) (t:Tx) (l:Int) :
 X3 Tryz.prog 215 #[.map (some b),.int .u8 kd,.string (bs t),.int .i64 l] w λd w'=>((∃n:Nat,N t=some (kd,n)/\d = .returned (.int .i64 n))\/((∀n,N t≠some (kd,n))/\d = .panicked (El 5 l)))/\w'=w:=by
 rcases h.look t with⟨a,g⟩|⟨k,n,e,a,g,c,p⟩
 ·rw[a];have r:Hid (El 5 l=El 5 l):=rfl
  go_enter Tryz.func215,Tryz.ntmps215
  go_wp2
  exact⟨rfl,.inr ⟨(by intro n o;cases o),rfl⟩,rfl⟩
 ·rw[a];unfold Ab at g;have q:w.cell? ⟨e,0,none⟩=some (.int .u8 k):=by simp[Xh,c]
  have s:w.cell? ⟨e,1,none⟩=some (.int .i64 n):=by simp[Xh,c]
  clear a c p
  by_cases f:k=kd
  ·subst f
   go_enter Tryz.func215,Tryz.ntmps215
   go_wp2
   go_ret
   exact⟨.inl ⟨n,rfl,rfl⟩,rfl⟩
  ·go_enter Tryz.func215,Tryz.ntmps215
   go_wp2
   exact⟨rfl,.inr ⟨(by intro m j;cases j;exact f rfl),rfl⟩,rfl⟩
theorem WF {w:Xg} {base e n:Nat} {v:Xj} {l:List Nat} (h:w.ownsRow base e 1 v (l.map Ab).length (l.map Ab)) (c:l.length=n+1):∃g cap a,v = .slice (some ⟨g,0,none⟩) (n+1) cap/\l.getLast?=some a/\w.cell? ⟨g,n,none⟩=some (Ab a):=by
 rw[List.length_map,c] at h;obtain⟨g,cap,rfl⟩:=YV h;obtain⟨a,b⟩:∃a,l[n]?=some a:=⟨l[n],List.getElem?_eq_getElem (by omega)⟩;refine⟨g,cap,a,rfl,?_,?_⟩
 ·rw[List.getLast?_eq_getElem?,c];exact b
 ·rw[h.cellAt n (by omega),List.getElem?_map,b];rfl
theorem MH {w:Xg} {k:Nat->RT} {base rb l lb:Nat} {G:RG} (h:Ai w k base rb l lb G) {a:Nat} (b:G.bods.getLast?=some a) (o:G.bods.length<4294967281) :
 X3 Tryz.prog 182 #[Ab rb] w λm w'=>m = .returned (Ab a)/\Below w.heap.size w w':=by
 obtain⟨n,c⟩:∃n,G.bods.length=n+1:=⟨G.bods.length - 1,by
  have p:G.bods≠[]:=λe=>by rw[e] at b;cases b
  have:=List.length_pos_iff.2 p
  omega⟩
 obtain⟨g,cap,s,f,i,q⟩:=WF h.brow.row c;rw[b] at i
 cases i
 have j:=h.Jj;rw[f] at j;have d:=Xo w.heap.size w;have r:=Aa d;clear d f h b;rw[c] at o;clear c;unfold Ab at *
 go_enter Tryz.func182,Tryz.ntmps182
 go_wp2_with fail
 go_quiet (fail)
 go_wp2_with fail
 go_ret
 exact⟨rfl,⟨rfl,rfl,rfl,Nat.le_refl _,λ_ _=>rfl⟩⟩
def Cd (tag:Nat->RT) (b0:Nat) (g:RT) (b:Nat):RT:=if b=b0 then g else tag b
theorem ER (b:Nat->RT) (a:Nat) (g:RT):Cd b a g a=g:=by simp[Cd]
theorem Co {a:Nat->RT} {c b:Nat} (g:RT) (h:b≠c):Cd a c g b=a b:=by simp[Cd,h]
def AN {α:Type} (f:Tx->Option α) (t:Tx) (v:α):Tx->Option α:=λx=>if x=t then some v else f x
def Bw {α:Type} (f:Nat->Option α) (t:Nat) (v:α):Nat->Option α:=λx=>if x=t then some v else f x
def Out (w:Xg) (tag:Nat->RT) (base rb nb lb:Nat) (l:Int) (P:RG->Prop) (E:Int->Prop) (en:Ending) (w':Xg):Prop:=
 (∃tag' G',en = .returned (.tuple #[])/\Ai w' tag' base rb nb lb G'/\Ag w tag w' tag'/\P G')\/(∃tag' e,en = .panicked (El e l)/\Ag w tag w' tag'/\E e)
theorem DD.put {w:Xg} {g:Nat->RT} {b:Nat} {N:Tx->Option (Int×Nat)} (h:DD w g b N) (t:Tx) (k:Int) (n:Nat) (A:∀b,g b = .en->b<w.heap.size) (D:g b≠.en) (E:b<w.heap.size) :
 ∃w',(Instr.mapUpdate 141 (.map (some b)) (.string (bs t)) (.pointer (some ⟨w.heap.size,0,none⟩))).run Tryz.prog ((w.alloc (.cells #[.int .u8 k,.int .i64 n] 289)).drew) = .ok () w'/\
  DD w' (Cd g w.heap.size .en) b (AN N t (k,n))/\w'.heap.size=w.heap.size+1/\w'.os=w.os/\w'.tape=w.tape/\w'.output=w.output/\(∀x,x<w.heap.size->x≠b->w'.heap[x]?=w.heap[x]?):=by
 obtain⟨f,m,q,y⟩:=h;obtain⟨W,a⟩:∃W,(w.alloc (.cells #[.int .u8 k,.int .i64 n] 289)).drew=W:=⟨_,rfl⟩;have o:∀x,x<w.heap.size->W.heap[x]?=w.heap[x]?:=λx d=>by rw[<-a];exact Xq w _ x d
 have z:W.heap.size=w.heap.size+1:=by rw[<-a];simp
 have u:W.heap[w.heap.size]?=some (.cells #[.int .u8 k,.int .i64 n] 289):=by rw[<-a];exact Xi w _
 obtain⟨w',C,p,i,F⟩:=(q.same (o b E)).put Tryz.strKey Tryz.underlying141 t (Ab w.heap.size);rw[a];refine⟨w',C,⟨_,_,p,λx=>?_⟩,F.trans z,i.os.trans (by rw[<-a];rfl),i.tape.trans (by rw[<-a];rfl),i.output.trans (by rw[<-a];rfl),λx d v=>(i.block x (by omega) (by simpa using v)).trans (o x d)⟩;have B:∀c,g c = .en->w'.heap[c]?=w.heap[c]?/\Cd g w.heap.size .en c = .en:=λc j=>by
  have s:=A c j;refine⟨(i.block c (by omega) (by simp;intro e;subst e;exact D j)).trans (o c s),?_⟩;rw[Co _ (by omega)];exact j
 by_cases d:x=t
 ·subst d;have r:Be f x (Ab w.heap.size) x=some (Ab w.heap.size):=JQ _ _ _;have l:AN N x (k,n) x=some (k,n):=by simp[AN]
  rw[l]
  exact⟨w.heap.size,r,(i.block w.heap.size (by omega) (by simp;omega)).trans u,ER _ _ _⟩
 ·have l:AN N t (k,n) x=N x:=by simp[AN,d]
  rw[Cg _ d,l]
  exact(y x).kept B
section
variable {w w':Xg} {tag tag':Nat->RT} {base rb nb lb:Nat} {G:RG}
def RG.mark (G:RG) (a:Nat) (c:DM) (t:Tx):RG:={G with B:=Bw G.B a {c with labs:=AN c.labs t c.ins.length}}
theorem Ai.mark (h:Ai w tag base rb nb lb G) {a:Nat} {c:DM} (A:G.B a=some c) (t:Tx) :
 ∃w',(Instr.mapUpdate 141 (.map (some c.lm)) (.string (bs t)) (.pointer (some ⟨w.heap.size,0,none⟩))).run Tryz.prog ((w.alloc (.cells #[.int .u8 108,.int .i64 c.ins.length] 289)).drew) = .ok () w'/\
  ∃tag',Ai w' tag' base rb nb lb (G.mark a c t)/\Ag w tag w' tag':=by
 have f:=h.bodies a c A;have z:=h.lt f.tl (by simp);obtain⟨w',F,v,H,p,E,D,m⟩:=f.labs.put t 108 c.ins.length (λb l=>h.lt l (by simp)) (by rw[f.tl];simp) z;have j:Ag w tag w' (Cd tag w.heap.size .en):=⟨p,E,D,by omega,λb l=>Co _ (by omega),λb l p=>m b l (λe=>by rw[e,f.tl] at p;cases p)⟩;refine⟨w',F,Cd tag w.heap.size .en,h.step (λg=>g = .lb a) j (λb l q C=>m b l (λe=>C (by rw[e];exact f.tl))) ?_ ((m rb (h.lt h.trd (by simp)) (λe=>?_)).trans h.cell) (λk _=>.inl ⟨rfl,rfl,by simp⟩) (.inl ⟨rfl,rfl,by simp⟩) (.inl ⟨rfl,rfl,by simp⟩) (.inl ⟨rfl,by simp⟩) (by simp) (by simp) (by simp) (λb d s=>?_) (λb i u=>.inl ⟨u,?_⟩) (λd s=>.inl s),j⟩
 ·intro b l r;unfold Cd at r
  split at r
  ·omega
  ·exact absurd (h.tlt b r).2 (by omega)
 ·have q:=h.trd;rw[e,f.tl] at q;cases q
 ·have n:Bw G.B a {c with labs:=AN c.labs t c.ins.length} b=some d:=s;unfold Bw at n
  split at n
  ·rename_i e;subst e
   cases n
   right;have o:∀x,tag x = .bd b\/tag x = .cd b->w'.heap[x]?=w.heap[x]?/\Cd tag w.heap.size .en x=tag x:=λx j=>by
    have y:x<w.heap.size:=by rcases j with e|e<;>exact h.lt e (by simp)
    exact⟨m x y (λe=>by rw[e,f.tl] at j;rcases j with e|e<;>cases e),Co _ (by omega)⟩
   refine⟨(o b (.inl f.ta)).1.trans f.cell,Bg f.code λg e=>(o g (.inr (f.tcode g e))).1,λg e=>(o g (.inr (f.tcode g e))).2.trans (f.tcode g e),?_,(o b (.inl f.ta)).2.trans f.ta,(Co _ (by show c.lm≠w.heap.size;omega)).trans f.tl⟩;have e:AN (Hr c.labs) t (108,c.ins.length)=Hr (AN c.labs t c.ins.length):=by
    funext x
    unfold AN Hr
    by_cases j:x=t<;>simp[j]
   rw[<-e];exact v
  ·rename_i e;exact .inl ⟨n,by simp,by simp,by simpa using e⟩
 ·have:=h.ins b i u;exact m b (h.lt this.2 (by simp)) (λe=>by rw[e,f.tl] at this;cases this.2)
end
theorem OR (w:Xg):Sem.run Tryz.prog (binOp .eql 287 (.pointer none) (.pointer none)) w = .ok (.bool true) w:=by kernel_rfl
theorem Lr {w:Xg} {base e:Nat} {v:Xj} {l:List Nat} (h:w.ownsRow base e 1 v l.length (l.map Ab)):∃a cap,v = .slice a l.length cap:=by
 rcases h.2 with⟨b,c⟩|⟨g,cap,d,b,_⟩
 ·exact⟨none,0,by rw[b,c]⟩
 ·exact⟨_,_,b⟩
theorem Wk {w:Xg} {b:Nat->RT} {base rb s lb:Nat} {G:RG} (h:Ai w b base rb s lb G) {a:Nat} {c:DM} (z:G.bods.getLast?=some a) (H:G.bods.length<4294967281) (x:G.B a=some c) (t:Tx) :
 X3 Tryz.prog 143 #[Ab rb,.string (bs t)] w (Out w b base rb s lb G.line (λI=>Ar t=true/\c.labs t=none/\I=G.mark a c t) (λe=>(Ar t=false/\e=2)\/(Ar t=true/\(∃n,c.labs t=some n)/\e=3))):=by
 have y:=Aa (fun(w':Xg) (p:Below w.heap.size w w')=>h.below p);have f:=Aa (fun(w':Xg) (p:Below w.heap.size w w')=>(Ag.Ch p:Ag w b w' b));have o:=MH h z H;unfold Ab at o |-;clear z H h
 go_enter Tryz.func143,Tryz.ntmps143
 go_wp2_with fail
 refine o.mono ?_;rintro e w1 ⟨rfl,r⟩;have i:=y.out _ r;have C:=f.out _ r;clear y f o r;have d:=i.bodies a c x;have v:=i.FC;have S:w1.cell? ⟨a,1,none⟩=some (.map (some c.lm)):=by simp[Xh,d.cell]
 have K:w1.cell? ⟨a,0,none⟩=some c.cv:=by simp[Xh,d.cell]
 have R:=i.lt d.ta (by simp);obtain⟨T,U,F⟩:=Lr d.code;rw[F] at K;have J:=d.labs.look t;obtain⟨w',V,N,E,A⟩:=i.mark x t;have u:=Aa (⟨E,A⟩:_/\_);have f:=Aa C;clear E A i C d F
 go_wp2_with fail
 refine(Mk t _).mono ?_;rintro e Q ⟨rfl,rfl⟩
 cases q:Ar t with
 |false=>
  go_wp2_with fail
  refine(Fd 2 v).mono ?_;rintro e w3 ⟨rfl,rfl⟩
  exact⟨rfl,.inr ⟨b,2,rfl,f.out,.inl ⟨q,rfl⟩⟩⟩
 |true=>
  go_wp2_with fail
  refine(GS rb 2 _).mono ?_;rintro e w3 ⟨rfl,rfl⟩
  rcases J with⟨g,D⟩|⟨k,n,P,g,D,_⟩
  ·have j:c.labs t=none:=by
    cases l:c.labs t with
    |none=>rfl
    |some n=>simp[Hr,l] at g
   clear g;have O:=OR
   go_wp2_with fail
   refine(GS rb 3 _).mono ?_;rintro e M ⟨rfl,rfl⟩
   go_wp2_with fail
   go_region
   all_goals
    go_wp2_with fail
    go_end0
    exact .inl ⟨N,_,rfl,u.out.1,f.out.trans u.out.2,q,j,rfl⟩
  ·have j:∃m,c.labs t=some m:=by
    cases l:c.labs t with
    |none=>simp[Hr,l] at g
    |some m=>exact⟨m,rfl⟩
   have j:=Aa j;clear g;unfold Ab at D
   go_wp2_with fail
   refine(Fd 3 v).mono ?_;rintro e M ⟨rfl,rfl⟩
   exact⟨rfl,.inr ⟨b,3,rfl,f.out,.inr ⟨q,j.out,rfl⟩⟩⟩
theorem BI {a:Nat->RT} {b c:Nat} {g d:RT} (h:a b=g) (f:a c=d) (i:g≠d):b≠c:=λe=>i (by rw[<-h,<-f,e])
def Ga (tag:Nat->RT) (n:Nat) (g:RT) (v:Xj):Nat->RT:=Cd tag n (open Classical in if v.ownBlock=some n then g else .o)
theorem FZ {a:Nat->RT} {n b:Nat} {g:RT} {v:Xj} (h:b≠n):Ga a n g v b=a b:=Co _ h
theorem Lb {a:Nat->RT} {n:Nat} {g:RT} {v:Xj} (h:v.ownBlock=some n):Ga a n g v n=g:=by
 unfold Ga;rw[ER,if_pos h]
theorem LG {w:Xg} {base e:Nat} {v:Xj} {a:List Xj} {T:YD} {i:TypeInfo} {z:Xj} {f:Nat} (y:w.ownsRow base e 1 v a.length a) (t:Tryz.prog.underlying T=some (.slice e)) (o:Tryz.prog.info? e=some i) (q:i.zero=some z) (l:i.size=1) (n:i.bytes=f) (r:z.cells.size=1) (m:f<=64)
 (x:Xj) (s:x.oneCell'=true) (j:YD) (A:a.length<1048576) (C:base<=w.heap.size) :
 ∃g cap w',(XM #[T,T] j #[v,.slice (some ⟨w.heap.size,0,none⟩) 1 1]).run Tryz.prog (w.alloc (.cells #[x] e)) = .ok (.slice (some ⟨g,0,none⟩) (a.length+1) cap) w'/\
  w'.ownsRow base e 1 (.slice (some ⟨g,0,none⟩) (a.length+1) cap) (a.length+1) (a++[x])/\w'.os=w.os/\w'.tape=w.tape/\w'.output=w.output/\w.heap.size+1<=w'.heap.size/\
  (∀b,b<w.heap.size->v.ownBlock≠some b->w'.heap[b]?=w.heap[b]?)/\(v.ownBlock=some g\/g=w.heap.size+1):=by
 obtain⟨B,w',k,h,d,c⟩:=Lo (P:=Tryz.prog) (w.alloc (.cells #[x] e)) base T j e i z 1 f t o q l n r v a.length a (y.alloc _) ⟨w.heap.size,0,none⟩ 1 1 [x] (by omega) rfl (cell_one_new _ _ _) (by simpa using s) (by unfold maxLen;omega)
  (by have:(a.length+1)*f<=1048576*64:=Nat.mul_le_mul (by omega) m
      omega) (by simp;omega)
 obtain⟨g,cap,rfl⟩:=YV h;refine⟨g,cap,w',k,h,d.os,d.tape,d.output,by have:=d.size;simpa using this,λb u p=>(d.block b (by simp;omega) (λe=>p e.symm)).trans (Xq w _ b u),?_⟩
 rcases c with c|c
 ·exact .inl c.symm
 ·right;have c:some g=some (w.alloc (.cells #[x] e)).heap.size:=c;rw[Yj] at c;exact Option.some.inj c
theorem CB.push {w:Xg} {c:Nat->RT} {base e:Nat} {k:Int} {v:Xj} {a:List Xj} {T:YD} {i:TypeInfo} {z:Xj} {n:Nat} (h:CB w c base e k v a) (N:Tryz.prog.underlying T=some (.slice e)) (G:Tryz.prog.info? e=some i) (H:i.zero=some z) (A:i.size=1) (D:i.bytes=n) (K:z.cells.size=1) (C:n<=64)
 (x:Xj) (M:x.oneCell'=true) (r:YD) (u:a.length<1048576) (J:base<=w.heap.size) (m:∀b,c b≠.o->b<w.heap.size) :
 ∃g cap w' l,(XM #[T,T] r #[v,.slice (some ⟨w.heap.size,0,none⟩) 1 1]).run Tryz.prog (w.alloc (.cells #[x] e)) = .ok (.slice (some ⟨g,0,none⟩) (a.length+1) cap) w'/\
  CB w' l base e k (.slice (some ⟨g,0,none⟩) (a.length+1) cap) (a++[x])/\w'.os=w.os/\w'.tape=w.tape/\w'.output=w.output/\w.heap.size+1<=w'.heap.size/\
  (∀b,b<w.heap.size->c b≠.row k->w'.heap[b]?=w.heap[b]?)/\(∀b,b<=w.heap.size->l b=c b)/\(∀b,w.heap.size<=b->l b≠.o->b<w'.heap.size):=by
 obtain⟨g,cap,w',y,p,I,F,t,s,rb,B⟩:=LG h.row N G H A D K C x M r u J;have O:=p.lt g rfl;refine⟨g,cap,w',Ga c (w.heap.size+1) (.row k) (.slice (some ⟨g,0,none⟩) (a.length+1) cap),y,⟨by rw[List.length_append];exact p,λE e=>?_⟩,I,F,t,s,λb j d=>rb b j (λe=>d (h.tg b e)),λb j=>FZ (by omega),λb j d=>?_⟩
 ·have e:some g=some E:=e
  cases e
  rcases B with e|e
  ·have:=m g (by rw[h.tg g e];simp);rw[FZ (by omega)];exact h.tg g e
  ·subst e;exact Lb rfl
 ·by_cases e:b=w.heap.size+1
  ·subst e
   by_cases q:g=w.heap.size+1
   ·rw[<-q];exact O.2
   ·exfalso;apply d
    unfold Ga;rw[ER,if_neg];intro f;have f:some g=some (w.heap.size+1):=f;exact q (Option.some.inj f)
  ·rw[FZ e] at d;have:=m b d;omega
theorem Eq {P:Y4} {w:Xg} {d:Array Oper} {rest:List Oper} {o:Oper} {a:Act} {Q:Exit->Act->Xg->Prop}
 (j:o.guard=none) (s x:Operand) (t:YD) (f:o.op=Op.call {callee:=Callee.builtin Builtin.append,args := #[s,x],argTypes := #[t,t]}) {v u b:Xj} {w':Xg} {c:YD} (g:o.type=c)
 (e:a.eval s=v) (h:a.eval x=u) (i:(XM #[t,t] c #[v,u]).run P w = .ok b w') (k:wpList P d Q rest (a.put o.dst b) w'):wpList P d Q (o::rest) a w:=by
 refine wpList_plain j λK l=>?_;unfold Oper.wp;simp[execOp,f,resolve,invoke,builtin,e,h,g,i,Result.andThen];exact l _ _ k
theorem Tryz.infoTx:(Tryz.prog.info? 9).map (λi=>(i.zero,i.size,i.bytes))=some (some (.string ByteArray.empty),1,16):=by kernel_rfl
theorem Tryz.infoBd:(Tryz.prog.info? 240).map (λi=>(i.zero,i.size,i.bytes))=some (some (.pointer none),1,8):=by kernel_rfl
theorem Tryz.infoIn:(Tryz.prog.info? 244).map (λi=>(i.zero,i.size,i.bytes))=some (some (.pointer none),1,8):=by kernel_rfl
theorem Tryz.infoFn:(Tryz.prog.info? 1).map (λi=>(i.zero,i.size,i.bytes))=some (some .nilFunc,1,8):=by kernel_rfl
end Go.Proofs.YtdcacoifehkioaaGreatDoor
namespace Go.Proofs.Cod
open Go.Lib
def Ap (c:UInt8):Tx->List Tx
 |[]=>[[]]
 |b::l=>if b == c then []::Ap c l else match Ap c l with
  |[]=>[[b]]
  |p::ps=>(b::p)::ps
theorem NT (c:UInt8) (t:Tx):Ap c t≠[]:=by
 cases t with
 |nil=>simp[Ap]
 |cons b l=>
  unfold Ap
  split
  ·simp
  ·split<;>simp
theorem Tz (c:UInt8) (t:Tx) (h:indexByte t c = -1):Ap c t=[t]:=by
 induction t with
 |nil=>rfl
 |cons b l e=>
  unfold indexByte at h
  split at h
  ·omega
  ·rename_i f
   split at h
   ·rename_i a;have d:indexByte l c = -1:=by simpa using a
    unfold Ap;rw[if_neg f,e d]
   ·have:=indexByte_ge l c;rename_i a;have d:indexByte l c≠-1:=by simpa using a
    omega
theorem NS (c:UInt8) (t:Tx) (i:Nat) (h:indexByte t c=i):i<t.length/\Ap c t=t.take i::Ap c (t.drop (i+1)):=by
 induction t generalizing i with
 |nil=>unfold indexByte at h;omega
 |cons b l e=>
  unfold indexByte at h
  split at h
  ·rename_i a
   obtain rfl:i=0:=by omega
   refine⟨by simp,?_⟩
   conv=>lhs;unfold Ap
   rw[if_pos a];rfl
  ·rename_i a
   split at h
   ·omega
   ·rename_i g;have m:indexByte l c≠-1:=by simpa using g
    have k:=indexByte_ge l c;obtain⟨j,f⟩:∃j:Nat,indexByte l c=j:=⟨(indexByte l c).toNat,by omega⟩
    obtain rfl:i=j+1:=by omega
    obtain⟨n,d⟩:=e j f;refine⟨by simp;omega,?_⟩
    conv=>lhs;unfold Ap
    rw[if_neg a,d]
    simp
end Go.Proofs.Cod
namespace Go.Proofs.YtdcacoifehkioaaGreatDoor
open Go
variable {F:Fence} {n:Nat} {P:Y4}
def Uc (P:Y4) (l:Nat) (R:Ending->Xg->Prop):Exit->Act->Xg->Prop
 |.normal,_,w=>∃v w',(Instr.endRound l none).run P w = .ok v w'/\R (.returned v) w'
 |.panic chain,a,w=>a.defers=[]/\R (.panicked chain) w
 |_,_,_=>False
theorem Ud {l:Nat} {f:FuncId} {fn:Func} {tmps:Array Xj} {m body:Code} {w:Xg} {R:Ending->Xg->Prop} (u:F.fn f) (K:P.funcs[f]?=some fn)
 (h:m.wpIn (F.inRound l) n P (Exit.then (λg x=>∃k,(Instr.beginRound l).run P x = .ok () k/\body.wpIn (F.inRound l) n P (Uc P l R) g k) (λ_ _ _=>False))
   {tmps:=tmps,defers:=[]} w) :
 RoundIn F n P l f tmps m body w R:=by
 refine⟨u,λc cs y=>?_⟩
 let b:Frame:={(default:Frame) with fn:=f,kind:=.normal,roundOf:=some l}
 have J:Frame.round l f tmps m body .normal=b.atR {tmps:=tmps,defers:=[]} [.code m,.beginRound,.code body]:=by
  simp[Frame.round,Frame.atR,b]
 have j:(F.inRound l).room ((c::cs).length+1+n):=y;have o:(F.inRound l).fn b.fn:=u;obtain⟨e,g,x,a,q⟩:=h b [.beginRound,.code body] (c::cs) rfl o j;rw[<-J] at q
 cases e with
 |normal=>
  obtain⟨k,N,I⟩:=a;have z:StepsIn (Machine.fenced P (F.inRound l)) P (lone (b.atR g [.beginRound,.code body]) (c::cs) x) (lone (b.atR g [.code body]) (c::cs) k):=
   .one (adm (fr:=b.atR g [.beginRound,.code body]) o j rfl) (stepR_beginRound rfl N)
  obtain⟨H,r,p,d,C⟩:=I b [] (c::cs) rfl o j
  cases H with
  |normal=>
   obtain⟨v,E,O,s⟩:=d
   exact⟨.returned v,E,s,(ZN q z).trans (ZN C (.one (adm (fr:=b.atR r []) o j rfl) (stepR_round_end rfl rfl O)))⟩
  |panic i=>
   obtain⟨M,s⟩:=d;obtain⟨A,G⟩:=C;have B:((b.atR r A).raise i).leaving P p (.panicked i):=⟨rfl,M,fn,K⟩;have D:(lone ((b.atR r A).raise i) (c::cs) p).fenced P F:=fenced_leaving (n:=n) u y B
   exact⟨.panicked i,p,s,(ZN q z).trans (ZN G (.one D (step_leave_panicked B)))⟩
  |ret=>exact d.elim
  |exit id=>exact d.elim
  |goto t=>exact d.elim
  |outgrown=>exact d.elim
 |exit id=>exact a.elim
 |goto t=>exact a.elim
 |ret=>exact a.elim
 |panic i=>exact a.elim
 |outgrown=>exact a.elim
end Go.Proofs.YtdcacoifehkioaaGreatDoor
namespace Go.Proofs
open Go.Shelf
shelf_lay Lays.n143 Nm 143 at Tryz as Tryz.lays143
end Go.Proofs
namespace Go.Proofs.YtdcacoifehkioaaGreatDoor
open Go.RowKit Go.Shelf Go.Proofs.Cod Go.Lib
attribute [local go_sem] Oper.semAt_some
theorem aat (t:Tx) (c:UInt8) (w:Xg):X3 Tryz.prog 151 #[.string (bs t),.string (bs [c])] w λe w'=>e = .returned (.int .i64 (indexByte t c))/\w'=w:=by
 have h:=Any.strings_Index_one Tryz.lays143 (bs t) c w;have e:(bs t).data.toList=t:=by simp[bs]
 rw[e] at h;exact h
def Mb (b:Nat) (w:Xg):Nat:=match w.cell? ⟨b,0,none⟩ with
 |some (.string s)=>s.size
 |_=>0
theorem PZ {b:Nat} {w:Xg} {t:Tx} (h:w.cell? ⟨b,0,none⟩=some (.string (bs t))):Mb b w=t.length:=by
 unfold Mb;rw[h];exact AY t
theorem Tw (l k b h:Nat) (c:UInt8) (t:Tx) (J:Nat->Xg->Prop) (X:List PanicEntry->Xg->Prop) (hz:t.length<4294967281)
 (H:∀i W v,J i W->J i (W.setCell ⟨b,0,none⟩ v))
 (E:∀i W p,J i W->(Ap c t)[i]?=some p->YieldAt Ye 0 Tryz.prog l #[.string (bs p)] W λe g=>
   (e = .returned (.bool true)/\J (i+1) g/\g.heap[k]?=W.heap[k]?/\g.heap[b]?=W.heap[b]?/\g.heap[h]?=W.heap[h]?)\/∃f,e = .panicked f/\X f g)
 (W:Xg) (q:W.cell? ⟨k,0,none⟩=some (.string (bs [c]))) (n:W.cell? ⟨b,0,none⟩=some (.string (bs t))) (o:W.cell? ⟨h,0,none⟩=some (.int .i64 0)) (r:W.frozen? ⟨b,0,none⟩=false)
 (G:k≠b) (U:h≠b) (C:J 0 W) :
 CallsIn Ye 1 Tryz.prog 176 #[.func (.yield l) #[] #[],.pointer (some ⟨k,0,none⟩),.pointer (some ⟨b,0,none⟩),.pointer (some ⟨h,0,none⟩)] W λe g=>
  (e = .returned (.tuple #[])/\J (Ap c t).length g)\/∃f,e = .panicked f/\X f g:=by
 have aa:(bs [c]).size=1:=AY [c];refine callsIn_of_wp Tryz.func176 rfl trivial ?_ rfl;simp only[Tryz.ntmps176,List.size_toArray,List.length_cons,List.length_nil,Nat.reduceAdd,Nat.reduceSub,Array.replicate_succ,Array.replicate_zero,List.push_toArray,List.append_toArray,List.nil_append,List.cons_append]
 gi_wp2
 gi_loopw [7,8] (λ_ _ wr=>∃(i:Nat) (rest:Tx),wr.cell? ⟨k,0,none⟩=some (.string (bs [c]))/\wr.cell? ⟨b,0,none⟩=some (.string (bs rest))/\wr.cell? ⟨h,0,none⟩=some (.int .i64 0)/\wr.frozen? ⟨b,0,none⟩=false/\rest.length<=t.length/\(Ap c t).drop i=Ap c rest/\J i wr) (λ_ _ wr=>Mb b wr)
 case atStart=>exact⟨0,t,q,n,o,r,Nat.le_refl _,rfl,C⟩
 case round=>
  clear q n o r C;obtain⟨i,rest,q,n,o,r,ag,m,F⟩:=hrel;have ad:=indexByte_ge rest c;have s:=aat rest c
  by_cases D:indexByte rest c = -1
  ·have R:=Tz c rest D;rw[R] at m;have N:(Ap c t).length=i+1:=by
    have d:((Ap c t).drop i).length=1:=by rw[m];rfl
    rw[ZP] at d;omega
   have x:(Ap c t)[i]?=some rest:=by
    have d:((Ap c t).drop i)[0]?=some rest:=by rw[m];rfl
    rw[ZS] at d;simpa using d
   obtain⟨fn,tmps,T,body,O,w⟩:=E i wr rest F x;rw[D] at s
   gi_wp2_with (refine⟨trivial,?_⟩;gi_at_call 151;refine(XT.2 (s _)).mono ?_;rintro e w' ⟨rfl,rfl⟩)
   refine w.mono ?_;rintro e K (⟨rfl,u,_⟩|⟨f,rfl,y⟩)
   ·gi_wp2
    go_end0
    exact .inl ⟨rfl,by rw[N];exact u⟩
   ·exact⟨rfl,.inr ⟨f,rfl,y⟩⟩
  ·obtain⟨j,B⟩:∃j:Nat,indexByte rest c=j:=⟨(indexByte rest c).toNat,by omega⟩;obtain⟨ab,S⟩:=NS c rest j B;rw[S] at m;have x:(Ap c t)[i]?=some (rest.take j):=by
    have d:((Ap c t).drop i)[0]?=some (rest.take j):=by rw[m];rfl
    rw[ZS] at d;simpa using d
   have Q:(Ap c t).drop (i+1)=Ap c (rest.drop (j+1)):=by
    have d:((Ap c t).drop i).drop 1=Ap c (rest.drop (j+1)):=by rw[m];rfl
    rw[List.drop_drop] at d;exact d
   obtain⟨fn,tmps,T,body,O,w⟩:=E i wr (rest.take j) F x;have ae:=AY rest;have af:(bs rest).extract 0 j=bs (rest.take j):=by rw[FG];simp
   rw[B] at s;have ac:¬((j:Int)<0):=by omega
   have ah:(j:Int)<=(rest.length:Int):=by omega
   gi_wp2_with (refine⟨trivial,?_⟩;gi_at_call 151;refine(XT.2 (s _)).mono ?_;rintro e w' ⟨rfl,rfl⟩)
   refine w.mono ?_;rintro e K (⟨rfl,u,I,z,M⟩|⟨f,rfl,y⟩)
   ·have P:=(Xr (a:=⟨k,0,none⟩) I).trans q;have A:=(Xr (a:=⟨b,0,none⟩) z).trans n;have Y:=(Xr (a:=⟨h,0,none⟩) M).trans o;have V:=(World.frozen?_of_block (a:=⟨b,0,none⟩) z).trans r;have Z:(bs rest).extract (j+1) rest.length=bs (rest.drop (j+1)):=by rw[FG,Yi]
    have ak:(j:Int)+1<=(rest.length:Int):=by omega
    have aj:0<=(j:Int)+1:=by omega
    gi_wp2
    go_roundw
    case rel=>exact⟨i+1,rest.drop (j+1),by rw[acr _ _ _ _ (by intro e;cases e;exact G rfl)];exact P,ac7 _ _ _ A,by rw[acr _ _ _ _ (by intro e;cases e;exact U rfl)];exact Y,by rw[World.frozen?_setCell];exact V,by rw[ZP];omega,Q,H _ _ _ u⟩
    case measure=>rw[PZ (ac7 _ _ _ A),PZ n,ZP];omega
   ·exact⟨rfl,.inr ⟨f,rfl,y⟩⟩
end Go.Proofs.YtdcacoifehkioaaGreatDoor
namespace Go.Proofs.YtdcacoifehkioaaGreatDoor
open Go
variable {F:Fence} {n:Nat} {P:Y4} {Q:Exit->Act->Xg->Prop} {a:Act} {w:Xg} {b:Frame}
def FV (b:Frame) (F:Fence) (n:Nat) (P:Y4) (c:Code) (Q:Exit->Act->Xg->Prop) (a:Act) (w:Xg):Prop:=
 ∀(k:List Item) (cs:List Frame),b.roundOf=F.round->F.fn b.fn->F.room (cs.length+1+n)->
  ∃e a' w',Q e a' w'/\ArrivesIn (Machine.fenced P F) P (lone (b.atR a (.code c::k)) cs w) b k cs e a' w'
theorem FU {c:Code} (h:c.wpIn F n P Q a w):FV b F n P c Q a w:=λk cs e f d=>h b k cs e f d
theorem FT {x y:Code} (h:FV b F n P x (Exit.then (FV b F n P y Q) Q) a w):FV b F n P (Code.seq x y) Q a w:=by
 intro k cs o m j;have f:(lone (b.atR a (.code (.seq x y)::k)) cs w).fenced P F:=adm m j rfl;obtain⟨e,i,g,c,d⟩:=h (.code y::k) cs o m j
 cases e with
 |normal=>
  obtain⟨p,s,t,r,q⟩:=c k cs o m j
  exact⟨p,s,t,r,.of_steps (.head f stepR_seq d) q⟩
 |exit id=>exact⟨_,i,g,c,.of_steps (.one f stepR_seq) (.pass (x:=.code y) rfl (λ_ _=>.inl (by simp)) d)⟩
 |goto l=>exact⟨_,i,g,c,.of_steps (.one f stepR_seq) (.pass (x:=.code y) rfl (λ_ _=>.inl (by simp)) d)⟩
 |ret=>exact⟨_,i,g,c,.of_steps (.one f stepR_seq) (.pass (x:=.code y) rfl (λ_ _=>.inl (by simp)) d)⟩
 |panic u=>exact⟨_,i,g,c,.of_steps (.one f stepR_seq) (.pass (x:=.code y) rfl (λ_ _=>.inl (by simp)) d)⟩
 |outgrown=>exact⟨_,i,g,c,.of_steps (.one f stepR_seq) (.pass (x:=.code y) rfl (λ_ _=>.inl (by simp)) d)⟩
theorem Nk {id:Nat} {c:Code} (h:FV b F n P c (Exit.inBlock id Q) a w):FV b F n P (Code.block id c) Q a w:=by
 intro k cs y v r;have g:(lone (b.atR a (.code (.block id c)::k)) cs w).fenced P F:=adm v r rfl;obtain⟨e,m,i,d,f⟩:=h (.inBlock id::k) cs y v r
 cases e with
 |normal=>exact⟨.normal,m,i,d,.head g ZY (ZN f (.one (adm v r rfl) stepR_inBlock))⟩
 |exit o=>
  by_cases q:o=id
  ·simp only[Exit.inBlock,q,if_true] at d
   exact⟨.normal,m,i,d,.head g ZY (f.1 k (by simp[exitTo,q]))⟩
  ·simp only[Exit.inBlock,q,if_false] at d;have this:(id == o)=false:=by simp;exact λh=>q h.symm
   have p:exitTo o (.inBlock id::k)=exitTo o k:=by simp[exitTo,this]
   exact⟨.exit o,m,i,d,λk' j=>.head g ZY (f.1 k' (by rw[p];exact j)),
    λs j=>let ⟨t,u,x⟩:=f.2 s (by rw[p];exact j);⟨t,u,.head g ZY x⟩⟩
 |goto l=>
  have p:gotoIn l (.inBlock id::k)=gotoIn l k:=by simp[gotoIn]
  exact⟨_,m,i,d,λk' j=>.head g ZY (f.1 k' (by rw[p];exact j)),
   λs j=>let ⟨t,u,x⟩:=f.2 s (by rw[p];exact j);⟨t,u,.head g ZY x⟩⟩
 |ret=>exact⟨_,m,i,d,.of_steps (.one g ZY) f⟩
 |panic z=>exact⟨_,m,i,d,.of_steps (.one g ZY) f⟩
 |outgrown=>exact⟨_,m,i,d,.of_steps (.one g ZY) f⟩
def Gi (f:FuncId):Frame:={(default:Frame) with fn:=f,kind:=.normal,roundOf:=none}
theorem RC {f:FuncId} {fn:Func} {c:Code} {args:Array Xj} {R:Ending->Xg->Prop}
 (s:P.funcs[f]?=some fn) (z:fn.body=some c) (d:F.fn f)
 (h:FV (Gi f) F n P c (bodyPostM F n P fn R) {tmps:=args++Array.replicate (fn.ntmps - args.size) undef,defers:=[]} w) (y:F.round=none:=by rfl):CallsIn F n P f args w R:=by
 refine⟨d,λcs k=>?_⟩;have x:Frame.enter P f args .normal =
  (Gi f).atR {tmps:=args++Array.replicate (fn.ntmps - args.size) undef,defers:=[]} [.code c]:=by
  simp[Frame.enter,Frame.atR,s,z,Gi]
 obtain⟨e,a,w',b,i⟩:=h [] cs y.symm d k;rw[<-x] at i
 cases e with
 |normal=>
  obtain⟨j,g,q,o,m,r,p⟩:=leaves_stepsInM a.defers .returning w' {(Gi f).atR a [] with mode:=.returning} cs rfl rfl rfl s rfl d k b
  exact⟨j,g,q,o,ComesIn.of_steps (ZN i (.one (adm (fr:=(Gi f).atR a []) d k rfl) (stepR_end rfl))) m,r,p⟩
 |ret=>
  obtain⟨t,u⟩:=i.1 rfl;obtain⟨j,g,q,o,m,r,p⟩:=leaves_stepsInM a.defers .returning w' {(Gi f).atR a t with mode:=.returning} cs rfl rfl rfl s rfl d k b
  exact⟨j,g,q,o,ComesIn.of_steps u m,r,p⟩
 |panic v=>
  obtain⟨t,u⟩:=i;obtain⟨j,g,q,o,m,r,p⟩:=leaves_stepsInM a.defers (.panicking v) w' {(Gi f).atR a t with mode:=.panicking v} cs rfl rfl rfl s rfl d k b
  exact⟨j,g,q,o,ComesIn.of_steps u m,r,p⟩
 |exit id=>exact b.elim
 |goto l=>exact b.elim
 |outgrown=>exact⟨.outgrown,w',Gi f,b,i.resolve_left (by simp[Gi]),rfl,trivial⟩
theorem SC {g:Operand} {ps:Array Tmp} {j body:Code}
 (h:∃(l:Nat) (mark:List Deferred) (z:Xg) (d:Deferred) (m:Xg) (f:FuncId) (args:Array Xj) (t:Xg),
   (Instr.enterLoop b.fn a.tmps ps j body F.round).run P w = .ok (l,mark) z/\
   (resolve a.eval (rangeCall g l) 0).run P z = .ok d m/\
   (∀p,Target.leads P m d.target d.args=some p->F.fn p)/\
   (invoke d.target d.args).run P m = .ok (.enter f args) t/\
   (F.depth.isSome=true->1<=n)/\
   CallsIn F (n - 1) P f args t fun
    |.returned _,c=>∃i,(Instr.endLoop l).run P c = .ok none i/\Q .normal {a with defers:=mark++a.defers} i
    |.panicked x,c=>Q (.panic x) {a with defers:=mark++a.defers} c
    |.outgrown,_=>False) :
 FV b F n P (Code.rangeFunc g ps j body) Q a w:=by
 intro k cs T J q;obtain⟨l,mark,z,d,m,f,args,t,r,E,U,K,N,D,O⟩:=h;rw[<-T] at r;have H:(lone (b.atR a (.code (.rangeFunc g ps j body)::k)) cs w).fenced P F:=by
  refine fenced_lone (.inl J) (λp C=>U p ?_) (Fence.room_le q (by omega));have B:=Frame.eval_atR b a (.code (.rangeFunc g ps j body)::k);simp only[Frame.atR] at B;simp only[Frame.about,Frame.atR,r,B,E] at C;exact C
 have I:=stepR_rangeFunc (P:=P) (b:=b) (a:=a) (k:=k) (cs:=cs) (w:=w) r E K;have s:F.room ((b.atR {a with defers:=mark++a.defers} (.inRangeFunc l::k)::cs).length+1+(n - 1)):=Fence.room_enter q N;obtain⟨e,c,fr,u,A,G,o⟩:=O (b.atR {a with defers:=mark++a.defers} (.inRangeFunc l::k)::cs) s
 cases e with
 |outgrown=>exact u.elim
 |returned v=>
  have y:(lone fr (b.atR {a with defers:=mark++a.defers} (.inRangeFunc l::k)::cs) c).fenced P F:=fenced_leaving (G ▸ D) s o;obtain⟨i,S,M⟩:=u;have R:StepsIn (Machine.fenced P F) P (lone (b.atR a (.code (.rangeFunc g ps j body)::k)) cs w) (lone (b.atR {a with defers:=mark++a.defers} k) cs i):=by
   refine .head H I (ZN A (.head y ?_ (.one (adm (fr:=b.atR {a with defers:=mark++a.defers} (.endRangeFunc l::k)) J q rfl) (stepR_endRangeFunc S))));rw[<-finish_atR_inRangeFunc l v];exact step_leave_returned o
  exact⟨.normal,_,i,M,R⟩
 |panicked x=>
  have y:(lone fr (b.atR {a with defers:=mark++a.defers} (.inRangeFunc l::k)::cs) c).fenced P F:=fenced_leaving (G ▸ D) s o;refine⟨.panic x,_,c,u,.inRangeFunc l::k,.head H I (ZN A (.one y ?_))⟩;rw[<-Frame.raise_atR];exact step_leave_panicked o
end Go.Proofs.YtdcacoifehkioaaGreatDoor
namespace Go.Proofs.YtdcacoifehkioaaGreatDoor
open Go.RowKit Go.Shelf Go.Proofs.Cod Go.Lib
def Na (bl:List Nat) (W W':Xg):Prop:=∀b,b∈bl->W'.heap[b]?=W.heap[b]?
def TB (I:Nat->Xg->Prop) (X:List PanicEntry->Xg->Prop) (bl:List Nat) (i:Nat) (W:Xg):Exit->Act->Xg->Prop
 |.normal,_,W'=>Na bl W W'/\I (i+1) W'
 |.panic chain,a,W'=>a.defers=[]/\Na bl W W'/\X chain W'
 |_,_,_=>False
def KM (bl:List Nat) (p:Xg->Prop):Prop:=∀W W',p W->(∀b,b<W.heap.size->b∉bl->W'.heap[b]?=W.heap[b]?)->W.heap.size<=W'.heap.size->W'.os=W.os->W'.tape=W.tape->W'.output=W.output->p W'
theorem Ms {a:List Nat} {p:Xg->Prop} (h:KM a p) {W:Xg} (c:p W) {l:Nat} (f:l∈a) (o:Obj):p (W.putObj l o):=
 h W _ c (λb _ d=>X9 (λe=>d (e ▸ f))) (by simp) rfl rfl rfl
theorem aa2 {a:List Nat} {p:Xg->Prop} (h:KM a p) {W:Xg} (c:p W) {l:Nat} (f:l∈a) (v:Xj):p (W.setCell ⟨l,0,none⟩ v):=
 h W _ c (λb _ d=>Xl W ⟨l,0,none⟩ v b (λe=>d (e ▸ f))) (by simp) rfl rfl rfl
theorem QL {c:List Nat} {p:Xg->Prop} (h:KM c p) {W:Xg} (a:p W) (o:Obj):p (W.alloc o):=
 h W _ a (λb d _=>Xq W o b d) (by simp) rfl rfl rfl
theorem Nj {b:Frame} {fnd:Func} (ad:Tryz.prog.funcs[b.fn]?=some fnd) {n:Nat} {g:Operand} {H:Tmp} {assign body:Code} {Q:Exit->Act->Xg->Prop} {a:Act} {w:Xg} (j d f:Nat) (c:UInt8) (t:Tx)
 (hg:a.eval g = .func (.func 176) #[] #[.pointer (some ⟨j,0,none⟩),.pointer (some ⟨d,0,none⟩),.pointer (some ⟨f,0,none⟩)]) (hz:t.length<4294967281)
 (O:w.cell? ⟨j,0,none⟩=some (.string (bs [c]))) (U:w.cell? ⟨d,0,none⟩=some (.string (bs t))) (M:w.cell? ⟨f,0,none⟩=some (.int .i64 0)) (hf:w.frozen? ⟨d,0,none⟩=false)
 (Y:j≠d) (aw:f≠d)
 (I:Nat->Xg->Prop) (X:List PanicEntry->Xg->Prop) (A:∀i,KM [w.heap.size,w.heap.size+1,d] (I i)) (h0:I 0 w) (T:Tx->Act)
 (ah:∀(l:Nat) (p:Tx) (W:Xg) (K:Act->Xg->Prop),K (T p) W->
   assign.wpIn (Ye.inRound l) 0 Tryz.prog (Exit.then K (λ_ _ _=>False)) {tmps:=(#[H].zip #[Value.string (bs p)]).foldl (λt (p,v)=>t.setIfInBounds p v) a.tmps,defers:=[]} W)
 (ai:∀(l i:Nat) (p:Tx) (W:Xg),I i W->(Ap c t)[i]?=some p->w.heap.size+1<W.heap.size->body.wpIn (Ye.inRound l) 0 Tryz.prog (TB I X [w.heap.size,w.heap.size+1,j,d,f] i W) (T p) W)
 (ak:∀W,I (Ap c t).length W->W.heap[w.heap.size]?=some (.deferred (some []))->Q .normal {a with defers:={target:=.collected w.heap.size,args := #[]}::a.defers} W)
 (ap:∀r W,X r W->W.heap[w.heap.size]?=some (.deferred (some []))->Q (.panic r) {a with defers:={target:=.collected w.heap.size,args := #[]}::a.defers} W) :
 FV b Ye n Tryz.prog (Code.rangeFunc g #[H] assign body) Q a w:=by
 have l1:j<w.heap.size:=Yx w ⟨j,0,none⟩ O;have R:d<w.heap.size:=Yx w ⟨d,0,none⟩ U;have l3:f<w.heap.size:=Yx w ⟨f,0,none⟩ M;obtain⟨o,u⟩:∃o:LoopState->Option Code->Loop,o=λst pe=>{state:=st,pending:=pe,fn:=b.fn,tmps:=a.tmps,params := #[H],assign,body,defers:=w.heap.size}:=⟨_,rfl⟩;obtain⟨m,D⟩:∃m,(w.alloc (.deferred (some []))).alloc (.loop (o .ready none))=m:=⟨_,rfl⟩;have az:m.heap[w.heap.size+1]?=some (.loop (o .ready none)):=by
  rw[<-D];have:=Xi (w.alloc (.deferred (some []))) (.loop (o .ready none));rwa [Yj] at this
 have ac:m.heap[w.heap.size]?=some (.deferred (some [])):=by
  rw[<-D];exact(Xq _ _ _ (by simp)).trans (Xi w _)
 have ar:I 0 m:=by rw[<-D];exact QL (A 0) (QL (A 0) h0 _) _
 have F:Below w.heap.size w m:=by rw[<-D];exact((Xo _ w).alloc (Nat.le_refl _) _).alloc (by simp) _
 have G:w.heap.size+1∈[w.heap.size,w.heap.size+1,d]:=by simp
 have mB:d∈[w.heap.size,w.heap.size+1,d]:=by simp
 refine SC ⟨w.heap.size+1,[{target:=.collected w.heap.size,args := #[]}],m,{target:=.fn (.func 176) #[.pointer (some ⟨j,0,none⟩),.pointer (some ⟨d,0,none⟩),.pointer (some ⟨f,0,none⟩)],args := #[.func (.yield (w.heap.size+1)) #[] #[]]},m,176,
  #[.func (.yield (w.heap.size+1)) #[] #[],.pointer (some ⟨j,0,none⟩),.pointer (some ⟨d,0,none⟩),.pointer (some ⟨f,0,none⟩)],m,?_,?_,λ_ _=>trivial,?_,(λh=>by simp[Ye] at h),?_⟩
 ·rw[<-D,u];exact run_enterLoop_outer _ _ _ _ _
 ·simp only[resolve,hg];simp[go_sem]
 ·simp[invoke,go_sem]
 ·refine(XT.2 (XT.1 (Tw (w.heap.size+1) j d f c t
   (λi W=>I i W/\W.heap[w.heap.size+1]?=some (.loop (o .ready none))/\W.heap[w.heap.size]?=some (.deferred (some [])))
   (λr W=>X r W/\W.heap[w.heap.size]?=some (.deferred (some []))) hz ?_ ?_ m ((F.cell (p:=⟨j,0,none⟩) l1).trans O) ((F.cell (p:=⟨d,0,none⟩) R).trans U) ((F.cell (p:=⟨f,0,none⟩) l3).trans M) ((F.frozen (p:=⟨d,0,none⟩) R).trans hf) Y aw ⟨ar,az,ac⟩))).mono ?_
  ·rintro i W v ⟨E,x,s⟩
   exact⟨aa2 (A i) E mB v,(Xl W ⟨d,0,none⟩ v _ (by show w.heap.size+1≠d;omega)).trans x,(Xl W ⟨d,0,none⟩ v _ (by show w.heap.size≠d;omega)).trans s⟩
  ·rintro i W p ⟨E,x,s⟩ hp;have V:w.heap.size+1<W.heap.size:=(Xa.1 x).1;have S:=run_yield (P:=Tryz.prog) (args := #[.string (bs p)]) x (by rw[u];rfl);rw[u] at S;refine⟨b.fn,_,assign,body,S,Ud trivial ad ?_⟩;refine ah _ p W _ ?_;refine⟨_,run_beginRound x (by rw[u]),?_⟩;obtain⟨k,B⟩:∃k,W.putObj (w.heap.size+1) (.loop {o .ready none with state:=.busy})=k:=⟨_,rfl⟩;rw[B];have ao:k.heap[w.heap.size+1]?=some (.loop {o .ready none with state:=.busy}):=by rw[<-B];exact ZR V
   have C:∀q,q≠w.heap.size+1->k.heap[q]?=W.heap[q]?:=λq hq=>by rw[<-B];exact X9 hq
   have aA:I i k:=by rw[<-B];exact Ms (A i) E G _
   refine wpIn_mono (ai _ i p k aA hp (by rw[<-B];simpa using V)) ?_;rintro e a3 W3 z
   cases e with
   |normal=>
    obtain⟨y,aC⟩:=z;have N:=(y (w.heap.size+1) (by simp)).trans ao;have hr:=run_endRound (P:=Tryz.prog) none N;have Z:w.heap.size+1<W3.heap.size:=(Xa.1 N).1;refine⟨_,_,hr,.inl ⟨rfl,⟨Ms (A (i+1)) aC G _,?_,?_⟩,?_,?_,?_⟩⟩
    ·rw[ZR Z,u];rfl
    ·rw[X9 (by omega)];exact(y w.heap.size (by simp)).trans ((C _ (by omega)).trans s)
    ·rw[X9 (by omega)];exact(y j (by simp)).trans (C _ (by omega))
    ·rw[X9 (by omega)];exact(y d (by simp)).trans (C _ (by omega))
    ·rw[X9 (by omega)];exact(y f (by simp)).trans (C _ (by omega))
   |panic r=>
    obtain⟨hd,y,J⟩:=z
    exact⟨hd,.inr ⟨r,rfl,J,(y w.heap.size (by simp)).trans ((C _ (by omega)).trans s)⟩⟩
   |ret=>exact z.elim
   |exit id=>exact z.elim
   |goto t=>exact z.elim
   |outgrown=>exact z.elim
  ·rintro e k (⟨rfl,E,x,s⟩|⟨r,rfl,J,s⟩)
   ·have aD:=run_endLoop (P:=Tryz.prog) x (by rw[u];simp);have ae:(Instr.endLoop (w.heap.size+1)).run Tryz.prog k = .ok none (k.putObj (w.heap.size+1) (.loop {o .ready none with state:=.exhausted})):=by rw[aD,u]
    exact⟨_,ae,ak _ (Ms (A _) E G _) ((X9 (by omega)).trans s)⟩
   ·exact ap r k J s
end Go.Proofs.YtdcacoifehkioaaGreatDoor
namespace Go.Proofs
open Go.Shelf
shelf_lay Lays.n219 Nm 219 at Tryz as Tryz.lays219
end Go.Proofs
namespace Go.Proofs.YtdcacoifehkioaaGreatDoor
open Go.RowKit Go.Shelf Go.Proofs.Cod Go.Lib
theorem aas (t:Tx) (c:UInt8) (w:Xg):X3 Tryz.prog 189 #[.string (bs t),.string (bs [c])] w λe w'=>e = .returned (.int .i64 (indexByte t c))/\w'=w:=by
 have h:=Any.stringslite_Index_one Tryz.lays219 (bs t) c w;have e:(bs t).data.toList=t:=by simp[bs]
 rw[e] at h;exact h
def Bu (c:UInt8) (t:Tx):Tx:=if indexByte t c = -1 then t else t.take (indexByte t c).toNat
theorem abW (t:Tx) (c:UInt8) (w:Xg) (i:t.length<4294967281):X3 Tryz.prog 178 #[.string (bs t),.string (bs [c])] w λe w'=>(∃h f,e = .returned (.tuple #[.string (bs (Bu c t)),.string (bs h),.bool f]))/\Below w.heap.size w w':=by
 have p:=indexByte_ge t c;have v:=AY t;have r:(bs [c]).size=1:=AY [c];have a:=aas t c
 by_cases g:indexByte t c = -1
 ·have d:Hid (Bu c t=t):=by unfold Hid Bu;rw[if_pos g]
  rw[g] at a
  go_enter Tryz.func178,Tryz.ntmps178
  go_wp2_with fail
  refine(a _).mono ?_;rintro e w1 ⟨rfl,rfl⟩
  go_wp2_with fail
  go_ret3
  exact⟨⟨[],false,by rw[d.out];rfl⟩,Xo _ _⟩
 ·obtain⟨j,b⟩:∃j:Nat,indexByte t c=j:=⟨(indexByte t c).toNat,by omega⟩;obtain⟨m,_⟩:=NS c t j b;have d:Hid (Bu c t=t.take j):=by unfold Hid Bu;rw[if_neg g,b];rfl
  have q:(bs t).extract 0 j=bs (t.take j):=by rw[FG];simp
  have k:(bs t).extract (j+1) t.length=bs (t.drop (j+1)):=by rw[FG,Yi]
  rw[b] at a;have o:0<=(j:Int):=by omega
  have s:(j:Int)<=(t.length:Int):=by omega
  have y:(j:Int)+1<=(t.length:Int):=by omega
  have x:0<=(j:Int)+1:=by omega
  have u:IntKind.i64.wrap ((j:Int)+1)=(j:Int)+1:=(IntWalk.i64_left _).trans (IntWalk.wrap64_in _ (by omega));have l:wrap64 ((j:Int)+1)=(j:Int)+1:=IntWalk.wrap64_in _ (by omega);have n:((j:Int)+1).toNat=j+1:=by omega
  go_enter Tryz.func178,Tryz.ntmps178
  go_wp2_with fail
  refine(a _).mono ?_;rintro e w1 ⟨rfl,rfl⟩
  go_wp2_with fail
  go_region
  all_goals
   go_wp2_with fail
   go_ret3
   exact⟨⟨t.drop (j+1),true,by rw[d.out];rfl⟩,(Xo _ _).drew⟩
theorem abU (t:Tx) (c:UInt8) (w:Xg) (d:t.length<4294967281):X3 Tryz.prog 138 #[.string (bs t),.string (bs [c])] w λe w'=>(∃a f,e = .returned (.tuple #[.string (bs (Bu c t)),.string (bs a),.bool f]))/\Below w.heap.size w w':=by
 go_enter Tryz.func138,Tryz.ntmps138
 go_wp2_with fail
 refine(abW t c _ d).mono ?_;rintro e w1 ⟨⟨a,f,rfl⟩,b⟩
 go_wp2_with fail
 go_ret3
 exact⟨⟨a,f,rfl⟩,b⟩
end Go.Proofs.YtdcacoifehkioaaGreatDoor
