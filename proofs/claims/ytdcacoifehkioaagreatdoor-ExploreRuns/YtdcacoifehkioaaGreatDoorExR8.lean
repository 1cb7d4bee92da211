import Derived.Test.YtdcacoifehkioaaGreatDoorExR3
import Derived.Test.YtdcacoifehkioaaGreatDoorExR4
import Derived.Test.YtdcacoifehkioaaGreatDoorExR2
import Derived.Tactics
import Derived.Tactics2
import Derived.Defers
import Derived.Recover
import Derived.Laws.Pointers
import Derived.TacticsInMore
import Derived.RegionIn
import Derived.LoopNIn
import Derived.RecoverIn
open Go renaming World->Xg,Calls->X3,wp_region_held_drew->XV,results_none->ZJ,heap_setCell_same->Xk
open Go.World renaming cell?->Xh,frozen?->XE,ownsRow_nil->Xy,size_alloc->Yj
open Go.RowKit.Below renaming heap_setCell->Xl,heap_alloc->Xq
open List renaming size_toArray->Ym,length_cons->Xw,length_nil->XU,push_toArray->YU,append_toArray->YK,nil_append->Yw,cons_append->Yp,range_succ->ZI,getElem?_eq_some_iff->Xe,drop_eq_getElem_cons->X4,take_of_length_le->XY,eq_nil_or_concat->YW,concat_eq_append->YX,length_pos_iff->Za
open Array renaming replicate_succ->YF,replicate_zero->YG,getElem?_eq_none->YJ
open Go.Instr renaming mapUpdate->Ys
set_option maxRecDepth 100000
set_option maxHeartbeats 2000000
set_option linter.unusedVariables false
set_option linter.unusedSimpArgs false
namespace Go.Proofs.YtdcacoifehkioaaGreatDoor
open Go.RowKit Go.Proofs.Cod
theorem ab3 {w:Xg} {g:Nat->RT} {base rb O lb:Nat} {G:RG} (h:Ai w g base rb O lb G) {c:BA} (E:c∈G.las) {i:Ac} (F:G.I c.ia=some i) {N:Tx->Option (Int×Nat)} (q:DD w g c.tb N) :
 X3 Tryz.prog 228 #[Ab c.c0,Ab c.c1,Ab c.c2,Ab c.c3,Ab c.c4] w λl w'=>
  (∃n:Nat,N c.nm=some (c.kd,n)/\l = .returned (.tuple #[])/\Ai w' g base rb O lb (G.Dv c.ia {i with x:=(n:Int)})/\Ag w g w' g)\/((∀n,N c.nm≠some (c.kd,n))/\l = .panicked (El 5 c.ln)/\Ag w g w' g):=by
 have C:=(h.ins c.ia i F).1;have f:=h.clos c E;have z:w.cell? ⟨c.c0,0,none⟩=some (.map (some c.tb)):=by simp[Xh,f.d0]
 have u:w.cell? ⟨c.c1,0,none⟩=some (.int .u8 c.kd):=by simp[Xh,f.d1]
 have s:w.cell? ⟨c.c2,0,none⟩=some (.string (bs c.nm)):=by simp[Xh,f.d2]
 have B:w.cell? ⟨c.c3,0,none⟩=some (.int .i64 c.ln):=by simp[Xh,f.d3]
 have A:w.cell? ⟨c.c4,0,none⟩=some (.pointer (some ⟨c.ia,0,none⟩)):=by simp[Xh,f.d4,Ab]
 have U:w.frozen? ⟨c.ia,6,none⟩=false:=by simp[XE,C]
 have T:w.cell? ⟨c.ia,6,none⟩=some (.int .i64 i.x):=by simp[Xh,C,Bd]
 have q:DD w.drew g c.tb N:=q;have y:=QT q c.kd c.nm c.ln;have D:=Aa (⟨rfl,rfl,rfl,Nat.le_refl _,λ_ _=>rfl,λ_ _ _=>rfl⟩:Ag w g w.drew g);unfold Ab
 by_cases j:∃n,N c.nm=some (c.kd,n)
 ·obtain⟨n,j⟩:=j;have M:=y.mono (R':=λl w'=>l = .returned (.int .i64 n)/\w'=w.drew) (λl w' J=>by
   rcases J with⟨⟨m,o,t⟩|⟨o,_⟩,H⟩
   ·rw[j] at o;cases o;exact⟨t,H⟩
   ·exact absurd j (o n))
  have P:=Aa (Ai.Lm (w:=w.drew) (h.keep (λ_ _=>rfl) D.out) F (i':={i with x:=(n:Int)}) 6 (.int .i64 n) rfl);replace j:=Aa j;have Q:Hid ((λw':Xg=>w'.cell? ⟨c.c0,0,none⟩=some (.map (some c.tb))/\w'.cell? ⟨c.c1,0,none⟩=some (.int .u8 c.kd)/\w'.cell? ⟨c.c2,0,none⟩=some (.string (bs c.nm))/\w'.cell? ⟨c.c3,0,none⟩=some (.int .i64 c.ln)/\w'.cell? ⟨c.c4,0,none⟩=some (.pointer (some ⟨c.ia,0,none⟩))) (w.drew.setCell ⟨c.ia,6,none⟩ (.int .i64 n))):=by
   have r:∀{b:Nat},g b = .clo->∀k v,(w.drew.setCell ⟨c.ia,6,none⟩ v).cell? ⟨b,k,none⟩=w.cell? ⟨b,k,none⟩:=λ{b} R k v=>by
    refine World.cell?_of_block (w:=w) (a:=⟨b,k,none⟩) ?_;exact Xl w.drew ⟨c.ia,6,none⟩ v b (BI R (h.ins c.ia i F).2 (by simp))
   exact⟨(r f.t0 _ _).trans z,(r f.t1 _ _).trans u,(r f.t2 _ _).trans s,(r f.t3 _ _).trans B,(r f.t4 _ _).trans A⟩
  clear h C q y f E
  go_enter Tryz.func228,Tryz.ntmps228
  go_wp2_with fail
  refine XV (S:=(λw'=>w'.cell? ⟨c.c0,0,none⟩=some (.map (some c.tb))/\w'.cell? ⟨c.c1,0,none⟩=some (.int .u8 c.kd)/\w'.cell? ⟨c.c2,0,none⟩=some (.string (bs c.nm))/\w'.cell? ⟨c.c3,0,none⟩=some (.int .i64 c.ln)/\w'.cell? ⟨c.c4,0,none⟩=some (.pointer (some ⟨c.ia,0,none⟩)))) (by kernel_rfl) ⟨z,u,s,B,A⟩ (λd=>?_);refine tk 0 d ?_;refine tk 1 d ?_;refine tk 2 d ?_;refine tk 3 d ?_;refine tk 4 d ?_;refine rd 5 (λK p=>?_)
  go_simp
  go_at_call 215
  refine M.mono ?_;rintro e w1 ⟨rfl,rfl⟩
  go_wp2_with fail
  refine p.out _ _ ⟨z,u,s,B,A⟩ (λd=>?_);clear p K
  try simp only[Act.put,sq]
  refine tk 6 d ?_;refine tk 7 d ?_;refine rd 8 (λK p=>?_)
  go_simp
  refine p.out _ _ Q.out (λ_=>?_);clear p K;refine wpAnyH_done (by kernel_rfl) ?_ _;clear d
  go_wp2_with fail
  go_end0
  exact .inl ⟨n,j.out,rfl,P.out.1,D.out.trans P.out.2⟩
 ·have M:=y.mono (R':=λl w'=>l = .panicked (El 5 c.ln)/\w'=w.drew) (λl w' J=>by
   rcases J with⟨⟨m,o,t⟩|⟨o,t⟩,H⟩
   ·exact absurd ⟨m,o⟩ j
   ·exact⟨t,H⟩)
  replace j:=Aa j;clear h C q y f E
  go_enter Tryz.func228,Tryz.ntmps228
  go_wp2_with fail
  refine XV (S:=(λw'=>w'.cell? ⟨c.c0,0,none⟩=some (.map (some c.tb))/\w'.cell? ⟨c.c1,0,none⟩=some (.int .u8 c.kd)/\w'.cell? ⟨c.c2,0,none⟩=some (.string (bs c.nm))/\w'.cell? ⟨c.c3,0,none⟩=some (.int .i64 c.ln)/\w'.cell? ⟨c.c4,0,none⟩=some (.pointer (some ⟨c.ia,0,none⟩)))) (by kernel_rfl) ⟨z,u,s,B,A⟩ (λd=>?_);refine tk 0 d ?_;refine tk 1 d ?_;refine tk 2 d ?_;refine tk 3 d ?_;refine tk 4 d ?_;refine rd 5 (λK p=>?_)
  go_simp
  go_at_call 215
  refine M.mono ?_;rintro e w1 ⟨rfl,rfl⟩
  exact⟨rfl,.inr ⟨λn e=>j.out ⟨n,e⟩,rfl,D.out⟩⟩
theorem ab8 (p:Addr) (n:Nat) (w:Xg) :
 CallsDIn Fence.wide n Tryz.prog 104 #[.pointer (some p)] .returning w λe c w'=>e = .returned (.tuple #[])/\c = .returning/\w'=w:=by
 refine callsDIn_of_wpSIn Tryz.func104 rfl trivial λd cs b=>?_
 apply wpSIn_seq
 apply wpSIn_region
 simp only[Tryz.ntmps104,Ym,Xw,XU,Nat.reduceAdd,Nat.reduceSub,YF,YG,YU,YK,Yw,Yp];generalize a:Exit.thenS _ _=Q;simp[wpOpsSIn,go_sem,recoverD,b,ZI];rw[<-a];simp only[Exit.thenS];clear a Q;refine wpSIn_of_wpIn rfl ?_
 gi_wp2
 refine⟨rfl,.returning,?_,_,ZJ rfl _ _ _,rfl,rfl,rfl⟩
 cases d
 simp_all
theorem acz (e l:Int) (u:Xg):(Instr.typeAssert (.iface 138 (.agg #[.int .i64 e,.int .i64 l])) 20 138 true).run Tryz.prog u = .ok (.tuple #[.agg #[.int .i64 e,.int .i64 l],.bool true]) u:=by kernel_rfl
theorem ab9 (a n:Nat) (e l x y:Int) (w:Xg) (c:w.heap[a]?=some (.cells #[.int .i64 x,.int .i64 y] 138)) :
 CallsDIn Fence.wide n Tryz.prog 104 #[.pointer (some ⟨a,0,none⟩)] (.panicking (El e l)) w λj i w'=>j = .returned (.tuple #[])/\(∃v,i = .panicking [{v:=v,recovered:=true}])/\w'.heap[a]?=some (.cells #[.int .i64 e,.int .i64 l] 138)/\(∀b,b<w.heap.size->b≠a->w'.heap[b]?=w.heap[b]?)/\w.heap.size<=w'.heap.size/\w'.os=w.os/\w'.tape=w.tape/\w'.output=w.output:=by
 have o:w.cell? ⟨a,0,none⟩=some (.int .i64 x):=by simp[Xh,c]
 have p:w.cell? ⟨a,1,none⟩=some (.int .i64 y):=by simp[Xh,c]
 have r:w.frozen? ⟨a,0,none⟩=false:=by simp[XE,c]
 have q:w.frozen? ⟨a,1,none⟩=false:=by simp[XE,c]
 have k:a<w.heap.size:=(Array.getElem?_eq_some_iff.1 c).1;replace c:=VG c;have m:=acz e l;refine callsDIn_of_wpSIn Tryz.func104 rfl trivial λs cs d=>?_
 apply wpSIn_seq
 apply wpSIn_region
 simp only[Tryz.ntmps104,Ym,Xw,XU,Nat.reduceAdd,Nat.reduceSub,YF,YG,YU,YK,Yw,Yp];generalize f:Exit.thenS _ _=Q;unfold El at d;simp[wpOpsSIn,go_sem,recoverD,d,ZI];rw[<-f];simp only[Exit.thenS];clear f Q;refine wpSIn_of_wpIn rfl ?_
 gi_wp2
 refine⟨rfl,_,rfl,_,ZJ rfl _ _ _,rfl,⟨_,rfl⟩,?_,λb h g=>?_,by simp,rfl,rfl,rfl⟩
 ·rw[Xq _ _ a (by simpa using k),Xk _ _ 1 _ _ _ (Xk _ _ 0 _ _ _ c.out)]
  rfl
 ·rw[Xq _ _ b (by simpa using h),Xl _ ⟨a,1,none⟩ _ b g,Xl _ ⟨a,0,none⟩ _ b g]
theorem UX {α:Type} (f:Nat->Option α) (a:Nat) (x y:α):Bw (Bw f a x) a y=Bw f a y:=by
 funext z;unfold Bw;split<;>rfl
theorem Ho {α:Type} (f:Nat->Option α) (a:Nat) (x:α):Bw f a x a=some x:=by simp[Bw]
theorem Pb {b ps:Tx} (h:Ct b=some ps):ps.length<=3:=by
 unfold Ct at h;obtain⟨p,a,rfl⟩:=Option.map_eq_some_iff.1 h;have c:=List.mem_of_find?_eq_some a;have:∀q,q∈AQ->q.2.length<=3:=by decide
 exact this p c
structure Gy (w:Xg) (tag:Nat->RT) (base rb nb lb:Nat) (G:RG) (lm ia:Nat) (i0:Ac) (l:List (Int×Tx)) (j:Nat) (wr:Xg) (tr:Nat->RT) (Gr:RG):Prop where
 rd:Ai wr tr base rb nb lb Gr
 ext:Ag w tag wr tr
 line:Gr.line=G.line
 same:Gr.nms=G.nms/\Gr.V=G.V/\Gr.bods=G.bods/\Gr.bV=G.bV/\Gr.B=G.B/\Gr.N=G.N
 ins:∃i,Gr.I=Bw G.I ia i/\BF G.N i0 l=BF G.N i (l.drop j)
 las:∃cs,Gr.las=G.las++cs/\cs.map BA.key=(l.take j).flatMap (Dz nb lm ia G.line)
 len:Gr.las.length<=G.las.length+j
theorem Gy.next {w:Xg} {s:Nat->RT} {base rb b lb:Nat} {G:RG} {lm a:Nat} {t:Ac} {l:List (Int×Tx)} {j:Nat} {wr:Xg} {M:Nat->RT} {d:RG} (h:Gy w s base rb b lb G lm a t l j wr M d) {p:Int×Tx} (hp:l[j]?=some p) {i:Ac} (P:d.I a=some i)
 {w':Xg} {o:Nat->RT} {f:RG} (E:Ai w' o base rb b lb f) (R:Ag wr M w' o) (Z:Sk b lm a i p.1 p.2 d f):Gy w s base rb b lb G lm a t l (j+1) w' o f:=by
 obtain⟨H,rfl⟩:=Xe.1 hp;obtain⟨r,z,u⟩:=h.ins;obtain⟨cs,O,F⟩:=h.las;obtain⟨D,C,T,A,B,y⟩:=h.same;have Y:r=i:=by rw[z,Ho] at P;exact Option.some.inj P
 subst Y;have J:(l.take (j+1)).flatMap (Dz b lm a G.line)=(l.take j).flatMap (Dz b lm a G.line)++Dz b lm a G.line l[j]:=by
  rw[List.take_succ_eq_append_getElem H,List.flatMap_append];simp
 have X:l.drop j=l[j]::l.drop (j+1):=X4 H;rw[X] at u;have set:∀i',CA G.N r l[j]=some i'->Dz b lm a G.line l[j]=[]->f=d.Dv a i'->Gy w s base rb b lb G lm a t l (j+1) w' o f:=λi' k m g=>by
  subst g;refine⟨E,h.ext.trans R,h.line,⟨D,C,T,A,B,y⟩,⟨i',?_,?_⟩,⟨cs,O,by rw[J,m,List.append_nil];exact F⟩,by show d.las.length<=_;have:=h.len;omega⟩
  ·show Bw d.I a i'=_;rw[z,UX]
  ·rw[u];conv=>lhs;unfold BF
   rw[k]
 have K:∀x,Jw a x l[j].1 l[j].2 d f->CA G.N r l[j]=some r->Dz b lm a G.line l[j]=[(a,x,l[j].1,l[j].2,G.line)]->Gy w s base rb b lb G lm a t l (j+1) w' o f:=λx k m g=>by
  obtain⟨c,v,c1,c2,W,V,c5,rfl⟩:=k;refine⟨E,h.ext.trans R,h.line,⟨D,C,T,A,B,y⟩,⟨r,z,?_⟩,⟨cs++[c],?_,?_⟩,?_⟩
  ·rw[u];conv=>lhs;unfold BF
   rw[m]
  ·show d.las++[c]=_;rw[O,List.append_assoc]
  ·rw[J,g,List.map_append,F];simp[BA.key,c1,c2,W,V,c5,h.line]
  ·show (d.las++[c]).length<=_;rw[List.length_append];have:=h.len;simp;omega
 rcases Z with⟨q,e⟩|⟨q,e⟩|⟨q,e⟩|⟨q,e⟩|⟨q,e⟩|⟨k,m,g,U,S,n,Q,e⟩
 ·exact set _ (by simp[CA,q]) (by simp[Dz,q]) e
 ·exact set _ (by simp[CA,q]) (by simp[Dz,q]) e
 ·exact set _ (by simp[CA,q]) (by simp[Dz,q]) e
 ·exact K b (by rw[q];exact e) (by simp[CA,q]) (by simp[Dz,q])
 ·exact K lm (by rw[q];exact e) (by simp[CA,q]) (by simp[Dz,q])
 ·rw[y] at Q;exact set _ (by simp[CA,k,m,g,U,S,Q]) (by simp[Dz,U,S]) e
theorem Gy.abm {w:Xg} {d:Nat->RT} {base rb q lb:Nat} {G:RG} {lm m:Nat} {b:Ac} {l:List (Int×Tx)} {j:Nat} {wr:Xg} {v:Nat->RT} {a:RG} (h:Gy w d base rb q lb G lm m b l j wr v a) {p:Int×Tx} (z:l[j]?=some p) {e:Int} (x:Sl p.1 p.2 a e):BF G.N b l=none/\e=5:=by
 obtain⟨u,rfl⟩:=Xe.1 z;obtain⟨B,J,f⟩:=h.ins;obtain⟨H,F,I,D,E,o⟩:=h.same;obtain⟨r,y,i,C,A,c,t⟩:=x;rw[o] at c;refine⟨?_,t⟩;rw[f,X4 u];unfold BF;have:CA G.N B l[j]=none:=by
  unfold CA;rw[if_neg r,if_neg y,if_neg i,if_neg C,if_neg A]
  cases g:G.N l[j].2 with
  |none=>rfl
  |some p=>
   obtain⟨k,n⟩:=p;show (if k=l[j].1 then _ else _)=_;rw[if_neg];intro s;subst s;exact c n g
 rw[this]
theorem abd {ts:List Tx} {ps:Tx} (h:AV ts ps=true):ts.length=ps.length/\∀i (a:i<ps.length),BR (ts.getD i []) ((ps[i]'a).toNat:Int)=true:=by
 induction ts generalizing ps with
 |nil=>cases ps with
  |nil=>exact⟨rfl,λi a=>by simp at a⟩
  |cons c ps=>simp[AV] at h
 |cons t ts b=>cases ps with
  |nil=>simp[AV] at h
  |cons c ps=>
   simp only[AV,Bool.and_eq_true] at h;obtain⟨d,e⟩:=b h.2;refine⟨by simp[d],λi a=>?_⟩
   cases i with
   |zero=>simpa using h.1
   |succ i=>simpa using e i (by simpa using a)
theorem Sr {ts:List Tx} {ps:Tx} {i:Nat} (h:i<ts.length) (a:i<ps.length):(AG ps ts)[i]?=some ((ps[i].toNat:Int),ts.getD i []):=by
 unfold AG;rw[List.getElem?_zip_eq_some];simp[h,a]
theorem Nh {ts:List Tx} {ps:Tx} (h:ts.length=ps.length):(AG ps ts).length=ts.length:=by simp[AG,h]
def Nc (n0 nb a:Nat) (bc:DM) (op:Tx) (ts:List Tx) (G G':RG):Prop:=∃ps,Ct op=some ps/\AV ts ps=true/\bc.ins.length<24/\∃ia i cs lV v,n0<=ia/\BF G.N (BX op) (AG ps ts)=some i/\cs.map BA.key=(AG ps ts).flatMap (Dz nb bc.lm ia G.line)/\
 G'={G with I:=Bw G.I ia i,las:=G.las++cs,lV:=lV,B:=Bw G.B a {bc with ins:=bc.ins++[ia],cv:=v}}
def Sj (bc:DM) (op:Tx) (ts:List Tx) (G:RG) (e:Int):Prop:=
 ((∀ps,Ct op=some ps->AV ts ps=false)/\e=2)\/∃ps,Ct op=some ps/\AV ts ps=true/\((24<=bc.ins.length/\e=4)\/(bc.ins.length<24/\BF G.N (BX op) (AG ps ts)=none/\e=5))
theorem aai {w:Xg} {f:Nat->RT} {base rb z lb:Nat} {G:RG} (h:Ai w f base rb z lb G) {a:Nat} {k:DM} (ha:G.bods.getLast?=some a) (hb:G.bods.length<1048576) (ar:G.B a=some k) (m:Tx) (C:Option Addr) (n cap:Nat) (ts:List Tx) (y:ts.length=n) (O:Cm w f C ts) (a1:G.las.length+n<1048576) (bf:k.ins.length<=24) :
 X3 Tryz.prog 144 #[Ab rb,.string (bs m),.slice C n cap] w (Out w f base rb z lb G.line (Nc w.heap.size z a k m ts G) (Sj k m ts G)):=by
 have T:=Vo m w h.shapes
 cases o:Ct m with
 |none=>
  rw[o] at T;have J:Hid (∀w1,Below w.heap.size w w1->w1.cell? ⟨rb,0,none⟩=some (.int .i64 G.line)/\Ag w f w1 f):=λw1 l=>⟨(h.below l).FC,Ag.Ch l⟩
  replace o:=Aa o;unfold Ab;clear h O
  go_enter Tryz.func144,Tryz.ntmps144
  go_wp2_with fail
  refine T.mono ?_;rintro e w1 ⟨rfl,l⟩;obtain⟨v,hX⟩:=J.out w1 l
  go_wp2_with fail
  refine(Fd 2 v).mono ?_;rintro e q ⟨rfl,rfl⟩
  exact⟨rfl,.inr ⟨f,2,rfl,hX,.inl ⟨(λps e=>by rw[o.out] at e;cases e),rfl⟩⟩⟩
 |some ps=>
  rw[o] at T;have aX:ps.length<4294967281:=by
   have hm:=Pb o
   omega
  have HF:Hid (∀w1,Below w.heap.size w w1->Ai w1 f base rb z lb G/\Cm w1 f C ts/\Ag w f w1 f/\X3 Tryz.prog 185 #[.slice C n cap,.string (bs ps)] w1 λe w'=>e = .returned (.bool (AV ts ps))/\w'=w1):=λw1 l=>⟨h.below l,O.ext (.Ch l),.Ch l,aba C n cap ts ps w1 y (O.ext (.Ch (t:=f) l)).ws (by omega) aX⟩
  replace o:=Aa o;have aK:=Aa O;unfold Ab;clear h O
  go_enter Tryz.func144,Tryz.ntmps144
  go_wp2_with fail
  refine T.mono ?_;rintro e w1 ⟨rfl,l⟩;obtain⟨S,ab,X,U⟩:=HF.out w1 l;clear HF;have v:=S.FC;replace S:=Aa S;replace ab:=Aa ab;replace X:=Aa X
  cases p:AV ts ps with
  |false=>
   rw[p] at U
   go_wp2_with fail
   refine U.mono ?_;rintro e q ⟨rfl,rfl⟩
   go_wp2_with fail
   refine(Fd 2 v).mono ?_;rintro e w3 ⟨rfl,rfl⟩
   exact⟨rfl,.inr ⟨f,2,rfl,X.out,.inl ⟨(λa6 e=>by rw[o.out] at e;cases e;exact p),rfl⟩⟩⟩
  |true=>
   rw[p] at U;have hC:=MH S.out ha (by omega);have HC:Hid (∀q,Below w1.heap.size w1 q->Ai q f base rb z lb G/\Cm q f C ts/\Ag w f q f/\w1.heap.size<=q.heap.size):=λq Y=>⟨S.out.below Y,ab.out.ext (.Ch Y),X.out.trans (.Ch Y),Y.size⟩
   have aR:Hid (w.heap.size<=w1.heap.size):=l.size;unfold Ab at hC;replace p:=Aa p;clear l
   go_wp2_with fail
   refine U.mono ?_;rintro e q ⟨rfl,rfl⟩
   go_wp2_with fail
   refine(GS rb 2 _).mono ?_;rintro e w3 ⟨rfl,rfl⟩
   go_wp2_with fail
   refine hC.mono ?_;rintro e E ⟨rfl,aC⟩;obtain⟨R,ag,M,ae⟩:=HC.out E aC;clear HC hC v aC;have v:=R.FC;have r:=R.bodies a k ar;have V:E.cell? ⟨a,0,none⟩=some k.cv:=by simp[Xh,r.cell]
   obtain⟨ca,bh,W⟩:=Lr r.code;rw[W] at V;replace W:=Aa W;replace ae:=Aa ae
   by_cases aF:k.ins.length<24
   ·have aZ:(k.ins.length:Int)<24:=by omega
    obtain⟨H,af⟩:=abd p.out;have bb:(bs ps).size=n:=by rw[AY,<-H,y]
    obtain⟨aG,aH⟩:=R.VO (BX m);have aw:Hid (Gy w f base rb z lb G k.lm E.heap.size (BX m) (AG ps ts) 0 (E.alloc (.cells (Bd (BX m)) 108)) (Cd f E.heap.size .ins) (G.Dv E.heap.size (BX m))):=⟨aG,M.trans aH,rfl,⟨rfl,rfl,rfl,rfl,rfl,rfl⟩,⟨BX m,rfl,by simp⟩,⟨[],by show G.las=_;simp,by simp⟩,by show G.las.length<=_;omega⟩;have bg:=Aa ag;replace H:=Aa H;replace af:=Aa af;replace y:=Aa y;have be:=Aa M;clear aG aH r R ag M
    go_wp2_with fail
    refine(GS rb 4 _).mono ?_;rintro e Q ⟨rfl,rfl⟩
    go_wp2_with fail
    go_loopw [40] (λiv wr=>∃(j:Nat) (tr:Nat->RT) (s:RG),j<=n/\iv = .int .i64 j/\Gy w f base rb z lb G k.lm Q.heap.size (BX m) (AG ps ts) j wr tr s) (λiv _=>n - (intOf iv).toNat)
    case atStart=>exact⟨0,_,_,Nat.zero_le _,rfl,aw.out⟩
    case round=>
     clear v V aw U T;obtain⟨j,tr,s,hj,rfl,d⟩:=hrel;obtain⟨i,A,Z⟩:=d.ins;have x:s.I Q.heap.size=some i:=by rw[A,Ho]
     have K:=d.rd;have aj:s.bods.getLast?=some a:=by rw[d.same.2.2.1];exact ha
     have ad:s.bods.length<1048576:=by rw[d.same.2.2.1];exact hb
     have P:s.B a=some k:=by rw[d.same.2.2.2.2.1];exact ar
     by_cases h5:j<n
     ·have ak:j<ts.length:=by have:=y.out;omega
      have az:j<ps.length:=by have:=H.out;omega
      obtain⟨b,a9,rfl,_,cw,_⟩:=(aK.out.ext d.ext) j ak;have a5:(j:Int)<(n:Int):=by omega
      have hg:=CO ps j (by omega);have D:=Sr ak az;have ai:=abi K aj ad P x (by have:=d.len;omega) (ps[j].toNat:Int) (ts.getD j []) (af.out j az);rw[d.line] at ai;have J:=Aa (⟨d,D,x⟩:_/\_/\_);clear K A Z x d aj ad P D;generalize ts.getD j []=t at *;generalize aD:ps[j]=c at *;replace aD:=Aa aD;unfold Ab at ai;clear ak
      go_wp2_with fail
      refine ai.mono ?_;rintro e w6 (⟨t6,G6,rfl,F,u,aN⟩|⟨t6,e6,rfl,u,aO⟩)
      ·go_wp2_with fail
       go_roundw
       case rel=>
        obtain⟨d,D,x⟩:=J.out
        exact⟨j+1,t6,G6,by omega,by go_num,d.next D x F u aN⟩
       case measure=>simp[intOf];omega
      ·obtain⟨d,D,x⟩:=J.out;obtain⟨q1,q2⟩:=d.abm D aO;subst q2
       exact⟨rfl,.inr ⟨t6,5,rfl,d.ext.trans u,.inr ⟨ps,o.out,p.out,.inr ⟨aF,q1,rfl⟩⟩⟩⟩
     ·have aJ:Hid (BF G.N (BX m) (AG ps ts)=some i):=by
       rw[List.drop_of_length_le (by rw[Nh H.out];have:=y.out;omega)] at Z;exact Z
      obtain⟨g,aY,w6,am,c6,f6,aS,F,u⟩:=K.code P (by omega) Q.heap.size;have r:=K.bodies a k P;have V:wr.cell? ⟨a,0,none⟩=some k.cv:=by simp[Xh,r.cell]
      rw[W.out] at V am c6;unfold Ab at am;have J:=Aa (⟨d,F,u,A⟩:_/\_/\_/\_);have ba:=K.lt r.ta (by simp);have aV:j=n:=by omega
      subst aV;clear K F u A Z x d aj ad P r
      go_wp2_with (at_builtin;refine Eq rfl _ _ _ rfl rfl rfl rfl am ?_)
      go_end0
      obtain⟨d,F,u,A⟩:=J.out;obtain⟨cs,aq,a0⟩:=d.las;obtain⟨s1,s2,s3,s4,s5,s6⟩:=d.same;refine .inl ⟨aS,_,rfl,F,d.ext.trans u,ps,o.out,p.out,aF,Q.heap.size,i,cs,s.lV,.slice (some ⟨g,0,none⟩) (k.ins.length+1) aY,by have:=aR.out;have:=ae.out;omega,aJ.out,?_,?_⟩
      ·rw[a0,XY (by rw[Nh H.out];have:=y.out;omega)]
      ·have hl:=d.line
       cases s
       simp only at A aq s1 s2 s3 s4 s5 s6 hl;subst A aq s1 s2 s3 s4 s5 s6 hl
       rfl
   ·have aZ:decide ((k.ins.length:Int)<24)=false:=decide_eq_false (by omega);replace M:=Aa M;clear r R ag
    go_wp2_with fail
    refine(Fd 4 v).mono ?_;rintro e Q ⟨rfl,rfl⟩
    exact⟨rfl,.inr ⟨f,4,rfl,M.out,.inr ⟨ps,o.out,p.out,.inl ⟨by omega,rfl⟩⟩⟩⟩
def Bn (t:Tx):Bool:=decide (t.getLast?=some 58)
theorem ab1 {t:Tx} (h:1<=t.length):((bs (t.drop (t.length - 1))).toList == (bs [58]).toList)=Bn t:=by
 rcases YW t with e|⟨l,x,e⟩
 ·subst e;simp at h
 ·rw[YX] at e;subst e;rw[AR,AR,Bn];have b:(l++[x]).drop ((l++[x]).length - 1)=[x]:=by simp
  rw[b,List.getLast?_append]
  by_cases a:x=58<;>simp[a]
theorem aaK (t:Tx) (w:Xg) (h:t.length<4294967281):X3 Tryz.prog 207 #[.string (bs t),.string (bs [58])] w λe w'=>e = .returned (.bool (Bn t))/\w'=w:=by
 have g:(bs [58]).size=1:=AY [58]
 by_cases a:1<=t.length
 ·obtain⟨n,f⟩:∃n,t.length=n+1:=⟨t.length - 1,by omega⟩;have b:=ab1 a;have i:(bs t).size=n+1:=by rw[AY,f]
  have d:(bs t).extract n (n+1)=bs (t.drop (t.length - 1)):=by
   rw[FG,XY (by omega)];congr 2;omega
  generalize bs (t.drop (t.length - 1))=u at d b;generalize Bn t=q at b |-;generalize bs t=bt at i d |-;generalize bs [58]=b58 at g b |-;have o:wrap64 (n:Int)=n:=IntWalk.wrap64_in _ (by omega);clear a h;have s:(1:Int)<=(n:Int)+1:=by omega
  have j:(n:Int)+1 - 1=n:=by omega
  have p:(n:Int)<=(n:Int)+1:=by omega
  clear f j
  go_enter Tryz.func207,Tryz.ntmps207
  go_wp2
  go_ret
  exact⟨rfl,rfl⟩
 ·have m:t=[]:=by cases t with
   |nil=>rfl
   |cons c r=>simp at a
  subst m;have l:bs []=ByteArray.empty:=rfl;have k:Bn []=false:=rfl;rw[l,k];generalize bs [58]=b58 at g |-;clear a h
  go_enter Tryz.func207,Tryz.ntmps207
  go_wp2
  go_ret
  exact⟨rfl,rfl⟩
theorem abV (t:Tx) (w:Xg) (g:t.length<4294967281):X3 Tryz.prog 179 #[.string (bs t),.string (bs [58])] w λe w'=>e = .returned (.tuple #[.string (bs (if Bn t then t.dropLast else t)),.bool (Bn t)])/\w'=w:=by
 have a:=aaK t w g;have j:(bs [58]).size=1:=AY [58]
 cases b:Bn t with
 |false=>
  rw[b] at a
  go_enter Tryz.func179,Tryz.ntmps179
  go_wp2_with fail
  refine a.mono ?_;rintro e w1 ⟨rfl,rfl⟩
  go_wp2_with fail
  go_ret2
  exact⟨rfl,rfl⟩
 |true=>
  rw[b] at a;have f:t≠[]:=by(intro e;subst e;simp[Bn] at b)
  obtain⟨n,c⟩:∃n,t.length=n+1:=⟨t.length - 1,by have:=Za.2 f;omega⟩;have h:(bs t).size=n+1:=by rw[AY,c]
  have d:(bs t).extract 0 n=bs t.dropLast:=by
   rw[FG,List.dropLast_eq_take];congr 2;simp[c]
  simp only[if_true];generalize bs t.dropLast=u at d |-;generalize bs t=bt at h d a |-;generalize bs [58]=b58 at j a |-;have i:(n:Int)+1 - 1=n:=by omega
  have k:wrap64 (n:Int)=n:=IntWalk.wrap64_in _ (by omega);have l:(n:Int)<=(n:Int)+1:=by omega
  clear c f g b i
  go_enter Tryz.func179,Tryz.ntmps179
  go_wp2_with fail
  refine a.mono ?_;rintro e w1 ⟨rfl,rfl⟩
  go_wp2_with fail
  go_ret2
  exact⟨rfl,rfl⟩
theorem abX (t:Tx) (w:Xg) (b:t.length<4294967281):X3 Tryz.prog 139 #[.string (bs t),.string (bs [58])] w λe w'=>e = .returned (.tuple #[.string (bs (if Bn t then t.dropLast else t)),.bool (Bn t)])/\w'=w:=by
 have a:=abV t w b;generalize bs (if Bn t then t.dropLast else t)=u at a |-;generalize Bn t=q at a |-
 go_enter Tryz.func139,Tryz.ntmps139
 go_wp2_with fail
 refine a.mono ?_;rintro e w1 ⟨rfl,rfl⟩
 go_wp2_with fail
 go_ret2
 exact⟨rfl,rfl⟩
def ES:Tx:=[116,104,114,101,97,100]
def RZ (n0 nb:Nat) (f:Tx) (ts:List Tx) (G G':RG):Prop:=
 (f=ES/\Ng n0 ts G G')\/(f≠ES/\G.bods=[]/\Jz (Cu f) ts G G')\/
 (f≠ES/\∃a bc,G.bods.getLast?=some a/\G.B a=some bc/\((Bn f=true/\ts=[]/\Ar f.dropLast=true/\bc.labs f.dropLast=none/\G'=G.mark a bc f.dropLast)\/(¬(Bn f=true/\ts=[])/\Nc n0 nb a bc f ts G G')))
def Sa (f:Tx) (ts:List Tx) (G:RG) (e:Int):Prop:=
 (f=ES/\So ts G e)\/(f≠ES/\G.bods=[]/\JA (Cu f) ts G e)\/
 (f≠ES/\∃a bc,G.bods.getLast?=some a/\G.B a=some bc/\((Bn f=true/\ts=[]/\((Ar f.dropLast=false/\e=2)\/(Ar f.dropLast=true/\(∃n,bc.labs f.dropLast=some n)/\e=3)))\/(¬(Bn f=true/\ts=[])/\Sj bc f ts G e)))
theorem aaJ (t:Tx):Cu t=0\/AH (Cu t):=by
 unfold Cu AH
 by_cases a:Hd=t
 ·simp[a]
 ·by_cases b:He=t
  ·simp[a,b]
  ·by_cases c:IN=t
   ·simp[a,b,c]
   ·simp[a,b,c]
theorem Tc {w:Xg} {I:Nat->RT} {base rb K lb:Nat} {G:RG} (h:Ai w I base rb K lb G) (R:G.bods=[]\/∃a s,G.bods.getLast?=some a/\G.B a=some s/\s.ins.length<=24) (f:Tx) (A:Option Addr) (n cap:Nat) (ts:List Tx) (t:ts.length=n) (u:Cm w I A ts)
 (X:f.length<4294967281) (x:∀k,(G.nms k).length+n<1048576) (r:G.bods.length<1048576) (z:G.las.length+n<1048576) :
 X3 Tryz.prog 107 #[Ab rb,.string (bs f),.slice A n cap] w (Out w I base rb K lb G.line (RZ w.heap.size K f ts G) (Sa f ts G)):=by
 have g:=abX f w X;have S:((bs f).toList == [116,104,114,101,97,100])=decide (f=ES):=by
  rw[AR]
  by_cases e:f=ES
  ·subst e;rfl
  ·rw[decide_eq_false e];exact beq_eq_false_iff_ne.2 e
 by_cases d:f=ES
 ·have Q:=aco h A n cap ts t u (x 116) r;rw[decide_eq_true d] at S;replace d:=Aa d;generalize bs (if Bn f then f.dropLast else f)=nm at g;generalize Bn f=col at g;unfold Ab at Q |-;clear h u x r z t R
  go_enter Tryz.func107,Tryz.ntmps107
  go_wp2_with fail
  refine g.mono ?_;rintro e w1 ⟨rfl,rfl⟩
  go_wp2_with fail
  refine Q.mono ?_;rintro e F (⟨b,l,rfl,m,c,p⟩|⟨b,o,rfl,c,q⟩)
  ·go_wp2_with fail
   go_end0
   exact .inl ⟨b,l,rfl,m,c,.inl ⟨d.out,p⟩⟩
  ·exact⟨rfl,.inr ⟨b,o,rfl,c,.inl ⟨d.out,q⟩⟩⟩
 ·rw[decide_eq_false d] at S;replace d:=Aa d;have J:=h.Jj;obtain⟨W,U,y⟩:=IS h.brow;rw[List.length_map] at y;rw[y] at J
  rcases R with E|⟨a,s,i,j,Y⟩
  ·have Z:=aaF f w h.heads;have N:Hid (∀w1,Below w.heap.size w w1->X3 Tryz.prog 141 #[Ab rb,.int .u8 (Cu f),.slice A n cap] w1 (Out w I base rb K lb G.line (Jz (Cu f) ts G) (JA (Cu f) ts G))):=λw1 M=>by
    refine(Rm (h.below M) (Cu f) (aaJ f) A n cap ts t (u.ext (.Ch M)) (x _)).mono ?_;rintro e F (⟨b,l,rfl,m,c,p⟩|⟨b,o,rfl,c,q⟩)
    ·exact .inl ⟨b,l,rfl,m,(Ag.Ch M).trans c,p⟩
    ·exact .inr ⟨b,o,rfl,(Ag.Ch M).trans c,q⟩
   rw[E] at J;have J:w.cell? ⟨rb,6,none⟩=some (.slice W 0 U):=J;generalize bs (if Bn f then f.dropLast else f)=nm at g;generalize Bn f=col at g;unfold Ab at N |-;replace E:=Aa E;replace y:=Aa y;clear h u x r z t
   go_enter Tryz.func107,Tryz.ntmps107
   go_wp2_with fail
   refine g.mono ?_;rintro e w1 ⟨rfl,rfl⟩
   go_wp2_with fail
   refine Z.mono ?_;rintro e V ⟨rfl,r⟩;have hD:=N.out V r;clear N
   go_wp2_with fail
   refine hD.mono ?_;rintro e F (⟨b,l,rfl,m,c,p⟩|⟨b,o,rfl,c,q⟩)
   ·go_wp2_with fail
    go_end0
    exact .inl ⟨b,l,rfl,m,c,.inr (.inl ⟨d.out,E.out,p⟩)⟩
   ·exact⟨rfl,.inr ⟨b,o,rfl,c,.inr (.inl ⟨d.out,E.out,q⟩)⟩⟩
  ·have ac:((G.bods.length:Int) == 0)=false:=by
    have:G.bods≠[]:=λe=>by rw[e] at i;cases i
    have:=Za.2 this
    simp;intro e;rw[e] at this;simp at this
   replace y:=Aa y
   by_cases D:Bn f=true/\n=0
   ·obtain⟨C,m2⟩:=D;have P:=Wk h i (by omega) j f.dropLast;rw[C] at g;simp only[if_true] at g;have T:Hid (ts=[]):=List.eq_nil_of_length_eq_zero (by omega);subst m2;replace C:=Aa C;replace i:=Aa i;replace j:=Aa j;unfold Ab at P |-;clear h u x r z t
    go_enter Tryz.func107,Tryz.ntmps107
    go_wp2_with fail
    refine g.mono ?_;rintro e w1 ⟨rfl,rfl⟩
    go_wp2_with fail
    refine P.mono ?_;rintro e F (⟨b,l,rfl,m,c,p⟩|⟨b,o,rfl,c,q⟩)
    ·go_wp2_with fail
     go_end0
     exact .inl ⟨b,l,rfl,m,c,.inr (.inr ⟨d.out,a,s,i.out,j.out,.inl ⟨C.out,T.out,p⟩⟩)⟩
    ·exact⟨rfl,.inr ⟨b,o,rfl,c,.inr (.inr ⟨d.out,a,s,i.out,j.out,.inl ⟨C.out,T.out,q⟩⟩)⟩⟩
   ·have O:=aai h i r j f A n cap ts t u z Y;have H:Hid (¬(Bn f=true/\ts=[])):=λe=>D ⟨e.1,by rw[<-t,e.2];rfl⟩;replace i:=Aa i;replace j:=Aa j;unfold Ab at O |-;generalize bs (if Bn f then f.dropLast else f)=nm at g
    cases v:Bn f with
    |false=>
     rw[v] at g;replace v:=Aa v;clear h u x r z t D
     go_enter Tryz.func107,Tryz.ntmps107
     go_wp2_with fail
     refine g.mono ?_;rintro e w1 ⟨rfl,rfl⟩
     go_wp2_with fail
     refine O.mono ?_;rintro e F (⟨b,l,rfl,m,c,p⟩|⟨b,o,rfl,c,q⟩)
     ·go_wp2_with fail
      go_end0
      exact .inl ⟨b,l,rfl,m,c,.inr (.inr ⟨d.out,a,s,i.out,j.out,.inr ⟨H.out,p⟩⟩)⟩
     ·exact⟨rfl,.inr ⟨b,o,rfl,c,.inr (.inr ⟨d.out,a,s,i.out,j.out,.inr ⟨H.out,q⟩⟩)⟩⟩
    |true=>
     rw[v] at g;have ad:((n:Int) == 0)=false:=by
      have:¬(n=0):=λe=>D ⟨v,e⟩
      simp;omega
     replace v:=Aa v;clear h u x r z t D
     go_enter Tryz.func107,Tryz.ntmps107
     go_wp2_with fail
     refine g.mono ?_;rintro e w1 ⟨rfl,rfl⟩
     go_wp2_with fail
     refine O.mono ?_;rintro e F (⟨b,l,rfl,m,c,p⟩|⟨b,o,rfl,c,q⟩)
     ·go_wp2_with fail
      go_end0
      exact .inl ⟨b,l,rfl,m,c,.inr (.inr ⟨d.out,a,s,i.out,j.out,.inr ⟨H.out,p⟩⟩)⟩
     ·exact⟨rfl,.inr ⟨b,o,rfl,c,.inr (.inr ⟨d.out,a,s,i.out,j.out,.inr ⟨H.out,q⟩⟩)⟩⟩
def Pk (r:Result Unit) (W:Xg):Xg:=match r with
 |.ok _ w'=>w'
 |_=>W
noncomputable def Le (b rb:Nat) (p:Int×Nat) (W:Xg):Xg:=Pk ((Ys 142 (.map (some b)) (.int .u8 p.1) (.pointer (some ⟨rb,p.2,none⟩))).run Tryz.prog W) W
noncomputable def updM (b rb:Nat) (W0:Xg) (L:List (Int×Nat)):Xg:=L.foldr (Le b rb) W0
theorem Nu (b rb:Nat) (a:Xg) (p:Int×Nat) (L:List (Int×Nat)) {w':Xg} (h:(Ys 142 (.map (some b)) (.int .u8 p.1) (.pointer (some ⟨rb,p.2,none⟩))).run Tryz.prog (updM b rb a L) = .ok () w'):updM b rb a (p::L)=w':=by
 have e:updM b rb a (p::L)=Le b rb p (updM b rb a L):=List.foldr_cons ..;rw[e,Le,h,Pk]
theorem Nt (b rb:Nat) (a:Xg):updM b rb a []=a:=List.foldr_nil
attribute [irreducible] updM
def IL (rb:Nat):List (Int×Nat)->Int->Option Value
 |[]=>λ_=>none
 |p::L=>Be (IL rb L) p.1 (.pointer (some ⟨rb,p.2,none⟩))
theorem Ns {b rb:Nat} {a:Xg} (h:Av uk a b (λ_=>none) 0) (L:List (Int×Nat)):(∃n,Av uk (updM b rb a L) b (IL rb L) n)/\(updM b rb a L).heap.size=a.heap.size/\(updM b rb a L).os=a.os/\(updM b rb a L).tape=a.tape/\(updM b rb a L).output=a.output/\(∀x,x≠b->(updM b rb a L).heap[x]?=a.heap[x]?):=by
 induction L with
 |nil=>rw[Nt];exact⟨⟨0,h⟩,rfl,rfl,rfl,rfl,λ_ _=>rfl⟩
 |cons p L l=>
  obtain⟨⟨n,k⟩,r,o,m,g,f⟩:=l;obtain⟨w',j,i,c,s⟩:=k.put Tryz.u8Key Tryz.underlying142 p.1 (.pointer (some ⟨rb,p.2,none⟩));have e:updM b rb a (p::L)=w':=Nu b rb a p L j;rw[e];refine⟨⟨_,i⟩,by omega,c.os.trans o,c.tape.trans m,c.output.trans g,λx d=>?_⟩
  by_cases q:x<(updM b rb a L).heap.size
  ·exact(c.block x q (by simpa using d)).trans (f x d)
  ·rw[<-f x d,YJ (by omega),YJ (by omega)]
theorem SJ {b rb:Nat} {a:Xg} (h:Av uk a b (λ_=>none) 0) (L:List (Int×Nat)) (k:Int) (o:Nat):(Ys 142 (.map (some b)) (.int .u8 k) (.pointer (some ⟨rb,o,none⟩))).run Tryz.prog (updM b rb a L) = .ok () (updM b rb a ((k,o)::L)):=by
 obtain⟨⟨n,d⟩,_⟩:=Ns (rb:=rb) h L;obtain⟨w',f,i,j,g⟩:=d.put Tryz.u8Key Tryz.underlying142 k (.pointer (some ⟨rb,o,none⟩));have c:(Ys 142 (.map (some b)) (.int .u8 k) (.pointer (some ⟨rb,o,none⟩))).run Tryz.prog (updM b rb a L) = .ok () w':=f;have e:updM b rb a ((k,o)::L)=w':=Nu b rb a (k,o) L c;rw[e];exact c
def RG.new:RG:=⟨0,λ_=>[],λ_=>.slice none 0 0,[],.slice none 0 0,λ_=>none,λ_=>none,λ_=>none,[],.slice none 0 0⟩
theorem VK {w w':Xg} (s:FQ w) (q:FL w) (m:2<w.heap.size) (l:3<w.heap.size) (y:w'.os=w.os) (x:w'.tape=w.tape) (r:w'.output=w.output) (A:w'.heap.size=w.heap.size+3) (f:∀b,b<w.heap.size->w'.heap[b]?=w.heap[b]?)
 (v:Av sk w' w.heap.size (λ_=>none) 0) (p:w'.heap[w.heap.size+1]?=some (.cells #[.int .i64 0,.slice none 0 0,.slice none 0 0,.slice none 0 0,.slice none 0 0,.slice none 0 0,.slice none 0 0,.map (some w.heap.size),.map (some (w.heap.size+1+1)),.slice none 0 0] 145))
 (z:∃n,Av uk w' (w.heap.size+1+1) (FB (w.heap.size+1)) n):∃j,Ai w' j w.heap.size (w.heap.size+1) w.heap.size (w.heap.size+1+1) RG.new/\Ag w (λ_=>.o) w' j:=by
 refine⟨Cd (Cd (Cd (λ_=>.o) w.heap.size .nm) (w.heap.size+1) .rd) (w.heap.size+1+1) .li,⟨p,λk f=>⟨Xy _ _ _ _,λg e=>by cases e⟩,⟨Xy _ _ _ _,λg e=>by cases e⟩,⟨Xy _ _ _ _,λg e=>by cases e⟩,⟨_,_,v,λt=>rfl⟩,z,(λa c h=>by cases h),(λa i u=>by cases u),(λc h=>by cases h),?_,?_,?_,λb d=>?_,s.kept (f _ m),q.kept (f _ l),m,l,by omega⟩,⟨y,x,r,by omega,λb d=>?_,λb d _=>f b d⟩⟩
 ·rw[Co _ (by omega),ER]
 ·rw[Co _ (by omega),Co _ (by omega),ER]
 ·rw[ER]
 ·unfold Cd at d
  split at d
  ·omega
  ·split at d
   ·omega
   ·split at d
    ·omega
    ·exact absurd rfl d
 ·rw[Co _ (by omega),Co _ (by omega),Co _ (by omega)]
theorem IK {rb:Nat} {k:Int} {o:Nat}:∀{L:List (Int×Nat)},(L.map Prod.fst).Nodup->(k,o)∈L->IL rb L k=some (.pointer (some ⟨rb,o,none⟩))
 |[],_,hm=>by cases hm
 |p::L,hn,hm=>by
  simp only[List.map_cons,List.nodup_cons] at hn
  rcases List.mem_cons.1 hm with e|e
  ·subst e;exact JQ _ _ _
  ·have a:k≠p.1:=λb=>hn.1 (List.mem_map.2 ⟨(k,o),e,b⟩)
   exact(Cg _ a).trans (IK hn.2 e)
theorem Nv {rb:Nat} {k:Int}:∀{L:List (Int×Nat)},(∀p,p∈L->p.1≠k)->IL rb L k=none
 |[],_=>rfl
 |p::L,h=>(Cg _ (λe=>h p (by simp) e.symm)).trans (Nv λq a=>h q (by simp[a]))
theorem Ww {rb:Nat} {L:List (Int×Nat)} (h:L.Perm [(118,1),(102,2),(109,3),(116,5)]):IL rb L=FB rb:=by
 have b:(L.map Prod.fst).Nodup:=(h.map Prod.fst).nodup_iff.2 (by decide);have a:∀p,p∈L↔p∈[((118:Int),1),(102,2),(109,3),(116,5)]:=λp=>h.mem_iff
 funext k
 by_cases d:k=118
 ·subst d;rw[IK b ((a (118,1)).2 (by simp))];simp[FB,BN]
 ·by_cases g:k=102
  ·subst g;rw[IK b ((a (102,2)).2 (by simp))];simp[FB,BN]
  ·by_cases c:k=109
   ·subst c;rw[IK b ((a (109,3)).2 (by simp))];simp[FB,BN]
   ·by_cases f:k=116
    ·subst f;rw[IK b ((a (116,5)).2 (by simp))];simp[FB,BN]
    ·rw[Nv]
     ·simp[FB,d,g,c,f]
     ·intro p i;have:=(a p).1 i
      simp at this
      rcases this with rfl|rfl|rfl|rfl
      ·exact λe=>d e.symm
      ·exact λe=>g e.symm
      ·exact λe=>c e.symm
      ·exact λe=>f e.symm
theorem VN (w:Xg) (r:FQ w) (j:FL w) (i:2<w.heap.size) (p:3<w.heap.size) :
 X3 Tryz.prog 47 #[] w λu w'=>u = .returned (Ab (w.heap.size+1))/\∃d,Ai w' d w.heap.size (w.heap.size+1) w.heap.size (w.heap.size+1+1) RG.new/\Ag w (λ_=>.o) w' d:=by
 have H:=@run_makeMap Tryz.prog;obtain⟨a,c⟩:∃a,(((w.alloc (.map #[] 0)).alloc (.cells #[.int .i64 0,.slice none 0 0,.slice none 0 0,.slice none 0 0,.slice none 0 0,.slice none 0 0,.slice none 0 0,.map (some w.heap.size),.map none,.slice none 0 0] 145)).alloc (.map #[] 0)).drew=a:=⟨_,rfl⟩;have y:a.heap.size=w.heap.size+3:=by rw[<-c];simp
 have h:Av uk a (w.heap.size+1+1) (λ_=>none) 0:=by
  have:=Av.made (enc:=uk) ((w.alloc (.map #[] 0)).alloc (.cells #[.int .i64 0,.slice none 0 0,.slice none 0 0,.slice none 0 0,.slice none 0 0,.slice none 0 0,.slice none 0 0,.map (some w.heap.size),.map none,.slice none 0 0] 145));rw[Yj,Yj] at this;rw[<-c];exact this
 have f:=λL=>Ns (rb:=w.heap.size+1) h L;have g:a.heap[w.heap.size+1]?=some (.cells #[.int .i64 0,.slice none 0 0,.slice none 0 0,.slice none 0 0,.slice none 0 0,.slice none 0 0,.slice none 0 0,.map (some w.heap.size),.map none,.slice none 0 0] 145):=by
  have:=World.alloc_heap_new (w.alloc (.map #[] 0)) (.cells #[.int .i64 0,.slice none 0 0,.slice none 0 0,.slice none 0 0,.slice none 0 0,.slice none 0 0,.slice none 0 0,.map (some w.heap.size),.map none,.slice none 0 0] 145);rw[Yj] at this;rw[<-c]
  exact(Xq _ _ _ (by simp)).trans this
 have D:∀L k o,(Ys 142 (.map (some (w.heap.size+1+1))) (.int .u8 k) (.pointer (some ⟨w.heap.size+1,o,none⟩))).run Tryz.prog (updM (w.heap.size+1+1) (w.heap.size+1) a L) = .ok () (updM (w.heap.size+1+1) (w.heap.size+1) a ((k,o)::L)):=λL k o=>SJ h L k o;have I:∀k o,(Ys 142 (.map (some (w.heap.size+1+1))) (.int .u8 k) (.pointer (some ⟨w.heap.size+1,o,none⟩))).run Tryz.prog ((((w.alloc (.map #[] 0)).alloc (.cells #[.int .i64 0,.slice none 0 0,.slice none 0 0,.slice none 0 0,.slice none 0 0,.slice none 0 0,.slice none 0 0,.map (some w.heap.size),.map none,.slice none 0 0] 145)).alloc (.map #[] 0)).drew) = .ok () (updM (w.heap.size+1+1) (w.heap.size+1) a [(k,o)]):=λk o=>by have e:=D [] k o;rw[Nt] at e;rw[c];exact e
 have J:∀L,(updM (w.heap.size+1+1) (w.heap.size+1) a L).cell? ⟨w.heap.size+1,8,none⟩=some (.map none):=λL=>by
  have:=(f L).2.2.2.2.2 (w.heap.size+1) (by omega);simp[Xh,this,g]
 have G:∀L,(updM (w.heap.size+1+1) (w.heap.size+1) a L).frozen? ⟨w.heap.size+1,8,none⟩=false:=λL=>by
  have:=(f L).2.2.2.2.2 (w.heap.size+1) (by omega);simp[XE,this,g]
 have v:Hid (∀L:List (Int×Nat),L.Perm [(118,1),(102,2),(109,3),(116,5)]->∃d,Ai ((updM (w.heap.size+1+1) (w.heap.size+1) a L).setCell ⟨w.heap.size+1,8,none⟩ (.map (some (w.heap.size+1+1)))) d w.heap.size (w.heap.size+1) w.heap.size (w.heap.size+1+1) RG.new/\Ag w (λ_=>.o) ((updM (w.heap.size+1+1) (w.heap.size+1) a L).setCell ⟨w.heap.size+1,8,none⟩ (.map (some (w.heap.size+1+1)))) d):=λL s=>by
  obtain⟨⟨n,z⟩,K,F,C,A,l⟩:=f L;have q:∀x,x≠w.heap.size+1->x≠w.heap.size+1+1->((updM (w.heap.size+1+1) (w.heap.size+1) a L).setCell ⟨w.heap.size+1,8,none⟩ (.map (some (w.heap.size+1+1)))).heap[x]?=a.heap[x]?:=λx B t=>(Xl _ ⟨w.heap.size+1,8,none⟩ _ x B).trans (l x t);have m:∀x,x<w.heap.size+1->a.heap[x]?=(w.alloc (.map #[] 0)).heap[x]?:=λx M=>by
   rw[<-c]
   exact(Xq _ _ _ (by simp;omega)).trans (Xq _ _ _ (by simp;omega))
  refine VK r j i p (F.trans (by rw[<-c];rfl)) (C.trans (by rw[<-c];rfl)) (A.trans (by rw[<-c];rfl)) (by simp;omega) (λb E=>?_) ?_ ?_ ⟨n,?_⟩
  ·rw[q b (by omega) (by omega),m b (by omega)];exact Xq w _ b E
  ·exact(Av.made (enc:=sk) w).same (by rw[q _ (by omega) (by omega),m _ (by omega)])
  ·rw[Xk _ _ 8 _ _ _ ((l _ (by omega)).trans g)];rfl
  ·rw[<-Ww s];exact z.same (Xl _ ⟨w.heap.size+1,8,none⟩ _ _ (by show w.heap.size+1+1≠w.heap.size+1;omega))
 replace c:=Aa c;unfold Ab;clear h f g y r j i p
 go_enter Tryz.func47,Tryz.ntmps47
 go_wp2_with fail
 go_region
 all_goals
  go_wp2_with fail
  go_ret
  exact⟨rfl,v.out _ (by decide)⟩
structure PI where
 i:Ac
 line:Int
 off:List (Int×Tx)
structure PB where
 code:List PI
 labs:Tx->Option Nat
structure PS where
 N:Tx->Option (Int×Nat)
 nms:Int->List Tx
 bod:List PB
def PS.new:PS:=⟨λ_=>none,λ_=>[],[]⟩
def Bq (kd:Int) (ts:List Tx) (s:PS):Except Int PS:=
 if kd=0\/ts=[]\/ts.all Ar=false then .error 2 else match AZ kd s.N (s.nms kd) ts with
  |none=>.error 3
  |some p=>if 4<p.2.length then .error 4 else .ok {s with N:=p.1,nms:=AM s.nms kd p.2}
def GC (s:PS) (b:PB):PS:={s with bod:=s.bod.dropLast++[b]}
def DH (l:List (Int×Tx)):List (Int×Tx):=l.filter λp=>p.1 == 116||p.1 == 108
def Dn (line:Int) (f:Tx) (ts:List Tx) (s:PS) (b:PB):Except Int PS:=match Ct f with
 |none=>.error 2
 |some ps=>if AV ts ps=false then .error 2 else if 24<=b.code.length then .error 4 else match BF s.N (BX f) (AG ps ts) with
  |none=>.error 5
  |some i=>.ok (GC s {b with code:=b.code++[⟨i,line,DH (AG ps ts)⟩]})
def EF (f:Tx) (s:PS) (b:PB):Except Int PS:=if Ar f.dropLast=false then .error 2 else match b.labs f.dropLast with
 |some _=>.error 3
 |none=>.ok (GC s {b with labs:=AN b.labs f.dropLast b.code.length})
def IA (s:PS):PS:={s with bod:=s.bod++[⟨[],λ_=>none⟩]}
def stepT (line:Int) (f:Tx) (ts:List Tx) (s:PS):Except Int PS:=
 if f=ES then(if ts.length=1 then(Bq 116 ts s).map IA else .error 2)
 else match s.bod.getLast? with
  |none=>Bq (Cu f) ts s
  |some b=>if Bn f=true/\ts=[] then EF f s b else Dn line f ts s b
structure LB where
 a:Nat
 c:DM
 pb:PB
def CS (nb:Nat) (x:LB):List (Nat×Nat×Int×Tx×Int):=(x.c.ins.zip x.pb.code).flatMap λp=>p.2.off.map λq=>(p.1,(if q.1=116 then nb else x.c.lm),q.1,q.2,p.2.line)
structure KR (G:RG) (x:LB):Prop where
 b:G.B x.a=some x.c
 labs:x.c.labs=x.pb.labs
 len:x.c.ins.length=x.pb.code.length
 ins:∀(k ia:Nat) (p:PI),x.c.ins[k]?=some ia->x.pb.code[k]?=some p->G.I ia=some p.i
 small:x.pb.code.length<=24
structure Cb (G:RG) (nb:Nat) (s:PS) (X:List LB):Prop where
 N:G.N=s.N
 nms:G.nms=s.nms
 bods:G.bods=X.map LB.a
 bod:s.bod=X.map LB.pb
 each:∀x,x∈X->KR G x
 keys:G.las.map BA.key=X.flatMap (CS nb)
 nda:(X.map LB.a).Nodup
 ndi:(X.flatMap λx=>x.c.ins).Nodup
structure KJ (s:PS):Prop where
 thr:(s.nms 116).length=s.bod.length
 few:∀k,(s.nms k).length<=4
def KL (G:RG) (n0:Nat):Prop:=(∀a c,G.B a=some c->a<n0)/\(∀ia i,G.I ia=some i->ia<n0)
theorem Cb.new (b:Nat):Cb RG.new b PS.new []:=⟨rfl,rfl,rfl,rfl,(λx a=>by cases a),rfl,by simp,by simp⟩
section
variable {G G':RG} {nb n0:Nat} {s:PS} {X:List LB}
theorem Rr {kd:Int} {ts:List Tx} (j:Jz kd ts G G') (h:Cb G nb s X):∃s',Bq kd ts s = .ok s'/\Cb G' nb s' X/\s'.bod=s.bod/\(∀k,(s.nms k).length<=4->(s'.nms k).length<=4)/\s'.nms kd=s.nms kd++ts/\(∀k,k≠kd->s'.nms k=s.nms k)/\G'.las=G.las/\G'.line=G.line:=by
 obtain⟨g,t,d,b,v,n,r,m,A,p,o,c,z⟩:=j;rw[h.N,h.nms] at b;have i:=Kt b;refine⟨{s with N:=G'.N,nms:=AM s.nms kd (G'.nms kd)},?_,⟨rfl,?_,by rw[m];exact h.bods,h.bod,λx w=>?_,by rw[c];exact h.keys,h.nda,h.ndi⟩,rfl,λk a=>?_,?_,λk a=>BM _ a,c,r⟩
 ·unfold Bq;rw[if_neg (by simp[g,t,d]),b];show (if 4<(G'.nms kd).length then _ else _)=_;rw[if_neg (by omega)]
 ·funext k
  by_cases e:k=kd
  ·subst e;exact(BC _ _ _).symm
  ·show G'.nms k=AM s.nms kd (G'.nms kd) k;rw[BM _ e,n k e,h.nms]
 ·obtain⟨f,y,l,q,u⟩:=h.each x w
  exact⟨by rw[p];exact f,y,l,by rw[o];exact q,u⟩
 ·show (AM s.nms kd (G'.nms kd) k).length<=4
  by_cases e:k=kd
  ·subst e;rw[BC];exact v
  ·rw[BM _ e];exact a
 ·show AM s.nms kd (G'.nms kd) kd=_;rw[BC];exact i
theorem Rs {kd:Int} {ts:List Tx} {e:Int} (f:JA kd ts G e) (h:Cb G nb s X):Bq kd ts s = .error e:=by
 unfold Bq
 rcases f with⟨b,rfl⟩|⟨⟨b,g,d⟩,a⟩
 ·rw[if_pos b]
 ·rw[if_neg (by simp[b,g,d])];rw[h.N,h.nms] at a
  rcases a with⟨a,rfl⟩|⟨⟨p,a,c⟩,rfl⟩
  ·rw[a]
  ·rw[a];show (if 4<p.2.length then _ else _)=_;rw[if_pos c]
theorem LZ (h:Cb G nb s X) {a:Nat} (c:G.bods.getLast?=some a):∃b x,X=b++[x]/\x.a=a/\s.bod.getLast?=some x.pb/\s.bod.dropLast=b.map LB.pb:=by
 rw[h.bods] at c
 rcases YW X with e|⟨b,x,e⟩
 ·rw[e] at c;cases c
 ·rw[YX] at e;subst e;refine⟨b,x,rfl,?_,?_,?_⟩
  ·simpa using c
  ·rw[h.bod];simp
  ·rw[h.bod];simp
theorem Ik {α:Type} {f:Nat->Option α} {a b:Nat} (v:α) (h:b≠a):Bw f a v b=f b:=by simp[Bw,h]
end
end Go.Proofs.YtdcacoifehkioaaGreatDoor
