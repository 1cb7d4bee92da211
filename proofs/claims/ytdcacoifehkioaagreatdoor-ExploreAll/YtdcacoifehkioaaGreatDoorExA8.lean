import Derived.Test.YtdcacoifehkioaaGreatDoorExA3
import Derived.Test.YtdcacoifehkioaaGreatDoorExA4
import Derived.Test.YtdcacoifehkioaaGreatDoorExA2
import Derived.Tactics
import Derived.Tactics2
import Derived.Defers
import Derived.Recover
import Derived.Laws.Pointers
import Derived.TacticsInMore
import Derived.RegionIn
import Derived.LoopNIn
import Derived.RecoverIn
open Go renaming World->Xh,Calls->XY,wp_region_held_drew->Xy,results_none->ZZ,heap_setCell_same->Xj
open Go.World renaming cell?->Xg,frozen?->XM,ownsRow_nil->XE,size_alloc->Yq
open Go.RowKit.Below renaming heap_setCell->Xn,heap_alloc->Xv
open List renaming size_toArray->Yt,length_cons->XJ,length_nil->X2,push_toArray->Zc,append_toArray->YX,nil_append->YW,cons_append->YG,range_succ->ZL,getElem?_eq_some_iff->Xf,drop_eq_getElem_cons->X4,take_of_length_le->XQ,eq_nil_or_concat->YY,concat_eq_append->YZ,length_pos_iff->Zb
open Array renaming replicate_succ->YP,replicate_zero->YQ,getElem?_eq_none->YT
open Go.Instr renaming mapUpdate->Yz
set_option maxRecDepth 100000
set_option maxHeartbeats 2000000
set_option linter.unusedVariables false
set_option linter.unusedSimpArgs false
namespace Go.Proofs.YtdcacoifehkioaaGreatDoor
open Go.RowKit Go.Proofs.Cod
theorem aem {w:Xh} {j:Nat->RT} {base rb O lb:Nat} {G:RG} (h:Al w j base rb O lb G) {c:Ca} (J:c∈G.las) {i:Ad} (D:G.I c.ia=some i) {N:Tx->Option (Int×Nat)} (r:EK w j c.tb N) :
 XY Tryz.prog 228 #[Ab c.c0,Ab c.c1,Ab c.c2,Ab c.c3,Ab c.c4] w λl w'=>
  (∃n:Nat,N c.nm=some (c.kd,n)/\l = .returned (.tuple #[])/\Al w' j base rb O lb (G.Ey c.ia {i with x:=(n:Int)})/\Ah w j w' j)\/((∀n,N c.nm≠some (c.kd,n))/\l = .panicked (FC 5 c.ln)/\Ah w j w' j):=by
 have s:=(h.ins c.ia i D).1;have f:=h.clos c J;have z:w.cell? ⟨c.c0,0,none⟩=some (.map (some c.tb)):=by simp[Xg,f.d0]
 have A:w.cell? ⟨c.c1,0,none⟩=some (.int .u8 c.kd):=by simp[Xg,f.d1]
 have y:w.cell? ⟨c.c2,0,none⟩=some (.string (bs c.nm)):=by simp[Xg,f.d2]
 have u:w.cell? ⟨c.c3,0,none⟩=some (.int .i64 c.ln):=by simp[Xg,f.d3]
 have B:w.cell? ⟨c.c4,0,none⟩=some (.pointer (some ⟨c.ia,0,none⟩)):=by simp[Xg,f.d4,Ab]
 have U:w.frozen? ⟨c.ia,6,none⟩=false:=by simp[XM,s]
 have T:w.cell? ⟨c.ia,6,none⟩=some (.int .i64 i.x):=by simp[Xg,s,Br]
 have r:EK w.drew j c.tb N:=r;have C:=SQ r c.kd c.nm c.ln;have M:=Aa (⟨rfl,rfl,rfl,Nat.le_refl _,λ_ _=>rfl,λ_ _ _=>rfl⟩:Ah w j w.drew j);unfold Ab
 by_cases g:∃n,N c.nm=some (c.kd,n)
 ·obtain⟨n,g⟩:=g;have F:=C.mono (R':=λl w'=>l = .returned (.int .i64 n)/\w'=w.drew) (λl w' E=>by
   rcases E with⟨⟨m,o,t⟩|⟨o,_⟩,H⟩
   ·rw[g] at o;cases o;exact⟨t,H⟩
   ·exact absurd g (o n))
  have P:=Aa (Al.MD (w:=w.drew) (h.keep (λ_ _=>rfl) M.out) D (i':={i with x:=(n:Int)}) 6 (.int .i64 n) rfl);replace g:=Aa g;have Q:Hid ((λw':Xh=>w'.cell? ⟨c.c0,0,none⟩=some (.map (some c.tb))/\w'.cell? ⟨c.c1,0,none⟩=some (.int .u8 c.kd)/\w'.cell? ⟨c.c2,0,none⟩=some (.string (bs c.nm))/\w'.cell? ⟨c.c3,0,none⟩=some (.int .i64 c.ln)/\w'.cell? ⟨c.c4,0,none⟩=some (.pointer (some ⟨c.ia,0,none⟩))) (w.drew.setCell ⟨c.ia,6,none⟩ (.int .i64 n))):=by
   have q:∀{b:Nat},j b = .clo->∀k v,(w.drew.setCell ⟨c.ia,6,none⟩ v).cell? ⟨b,k,none⟩=w.cell? ⟨b,k,none⟩:=λ{b} R k v=>by
    refine World.cell?_of_block (w:=w) (a:=⟨b,k,none⟩) ?_;exact Xn w.drew ⟨c.ia,6,none⟩ v b (Co R (h.ins c.ia i D).2 (by simp))
   exact⟨(q f.t0 _ _).trans z,(q f.t1 _ _).trans A,(q f.t2 _ _).trans y,(q f.t3 _ _).trans u,(q f.t4 _ _).trans B⟩
  clear h s r C f J
  go_enter Tryz.func228,Tryz.ntmps228
  go_wp2_with fail
  refine Xy (S:=(λw'=>w'.cell? ⟨c.c0,0,none⟩=some (.map (some c.tb))/\w'.cell? ⟨c.c1,0,none⟩=some (.int .u8 c.kd)/\w'.cell? ⟨c.c2,0,none⟩=some (.string (bs c.nm))/\w'.cell? ⟨c.c3,0,none⟩=some (.int .i64 c.ln)/\w'.cell? ⟨c.c4,0,none⟩=some (.pointer (some ⟨c.ia,0,none⟩)))) (by kernel_rfl) ⟨z,A,y,u,B⟩ (λd=>?_);refine tk 0 d ?_;refine tk 1 d ?_;refine tk 2 d ?_;refine tk 3 d ?_;refine tk 4 d ?_;refine rd 5 (λK p=>?_)
  go_simp
  go_at_call 215
  refine F.mono ?_;rintro e w1 ⟨rfl,rfl⟩
  go_wp2_with fail
  refine p.out _ _ ⟨z,A,y,u,B⟩ (λd=>?_);clear p K
  try simp only[Act.put,sq]
  refine tk 6 d ?_;refine tk 7 d ?_;refine rd 8 (λK p=>?_)
  go_simp
  refine p.out _ _ Q.out (λ_=>?_);clear p K;refine wpAnyH_done (by kernel_rfl) ?_ _;clear d
  go_wp2_with fail
  go_end0
  exact .inl ⟨n,g.out,rfl,P.out.1,M.out.trans P.out.2⟩
 ·have F:=C.mono (R':=λl w'=>l = .panicked (FC 5 c.ln)/\w'=w.drew) (λl w' E=>by
   rcases E with⟨⟨m,o,t⟩|⟨o,t⟩,H⟩
   ·exact absurd ⟨m,o⟩ g
   ·exact⟨t,H⟩)
  replace g:=Aa g;clear h s r C f J
  go_enter Tryz.func228,Tryz.ntmps228
  go_wp2_with fail
  refine Xy (S:=(λw'=>w'.cell? ⟨c.c0,0,none⟩=some (.map (some c.tb))/\w'.cell? ⟨c.c1,0,none⟩=some (.int .u8 c.kd)/\w'.cell? ⟨c.c2,0,none⟩=some (.string (bs c.nm))/\w'.cell? ⟨c.c3,0,none⟩=some (.int .i64 c.ln)/\w'.cell? ⟨c.c4,0,none⟩=some (.pointer (some ⟨c.ia,0,none⟩)))) (by kernel_rfl) ⟨z,A,y,u,B⟩ (λd=>?_);refine tk 0 d ?_;refine tk 1 d ?_;refine tk 2 d ?_;refine tk 3 d ?_;refine tk 4 d ?_;refine rd 5 (λK p=>?_)
  go_simp
  go_at_call 215
  refine F.mono ?_;rintro e w1 ⟨rfl,rfl⟩
  exact⟨rfl,.inr ⟨λn e=>g.out ⟨n,e⟩,rfl,M.out⟩⟩
theorem aer (p:Addr) (n:Nat) (w:Xh) :
 CallsDIn Fence.wide n Tryz.prog 104 #[.pointer (some p)] .returning w λe d w'=>e = .returned (.tuple #[])/\d = .returning/\w'=w:=by
 refine callsDIn_of_wpSIn Tryz.func104 rfl trivial λc cs b=>?_
 apply wpSIn_seq
 apply wpSIn_region
 simp only[Tryz.ntmps104,Yt,XJ,X2,Nat.reduceAdd,Nat.reduceSub,YP,YQ,Zc,YX,YW,YG];generalize a:Exit.thenS _ _=Q;simp[wpOpsSIn,go_sem,recoverD,b,ZL];rw[<-a];simp only[Exit.thenS];clear a Q;refine wpSIn_of_wpIn rfl ?_
 gi_wp2
 refine⟨rfl,.returning,?_,_,ZZ rfl _ _ _,rfl,rfl,rfl⟩
 cases c
 simp_all
theorem aeM (e l:Int) (u:Xh):(Instr.typeAssert (.iface 138 (.agg #[.int .i64 e,.int .i64 l])) 20 138 true).run Tryz.prog u = .ok (.tuple #[.agg #[.int .i64 e,.int .i64 l],.bool true]) u:=by kernel_rfl
theorem aes (a n:Nat) (e l x y:Int) (w:Xh) (c:w.heap[a]?=some (.cells #[.int .i64 x,.int .i64 y] 138)) :
 CallsDIn Fence.wide n Tryz.prog 104 #[.pointer (some ⟨a,0,none⟩)] (.panicking (FC e l)) w λj k w'=>j = .returned (.tuple #[])/\(∃v,k = .panicking [{v:=v,recovered:=true}])/\w'.heap[a]?=some (.cells #[.int .i64 e,.int .i64 l] 138)/\(∀b,b<w.heap.size->b≠a->w'.heap[b]?=w.heap[b]?)/\w.heap.size<=w'.heap.size/\w'.os=w.os/\w'.tape=w.tape/\w'.output=w.output:=by
 have c0:w.cell? ⟨a,0,none⟩=some (.int .i64 x):=by simp[Xg,c]
 have c1:w.cell? ⟨a,1,none⟩=some (.int .i64 y):=by simp[Xg,c]
 have q:w.frozen? ⟨a,0,none⟩=false:=by simp[XM,c]
 have p:w.frozen? ⟨a,1,none⟩=false:=by simp[XM,c]
 have i:a<w.heap.size:=(Array.getElem?_eq_some_iff.1 c).1;replace c:=aa3 c;have m:=aeM e l;refine callsDIn_of_wpSIn Tryz.func104 rfl trivial λo cs g=>?_
 apply wpSIn_seq
 apply wpSIn_region
 simp only[Tryz.ntmps104,Yt,XJ,X2,Nat.reduceAdd,Nat.reduceSub,YP,YQ,Zc,YX,YW,YG];generalize f:Exit.thenS _ _=Q;unfold FC at g;simp[wpOpsSIn,go_sem,recoverD,g,ZL];rw[<-f];simp only[Exit.thenS];clear f Q;refine wpSIn_of_wpIn rfl ?_
 gi_wp2
 refine⟨rfl,_,rfl,_,ZZ rfl _ _ _,rfl,⟨_,rfl⟩,?_,λb h d=>?_,by simp,rfl,rfl,rfl⟩
 ·rw[Xv _ _ a (by simpa using i),Xj _ _ 1 _ _ _ (Xj _ _ 0 _ _ _ c.out)]
  rfl
 ·rw[Xv _ _ b (by simpa using h),Xn _ ⟨a,1,none⟩ _ b d,Xn _ ⟨a,0,none⟩ _ b d]
theorem aau {α:Type} (f:Nat->Option α) (a:Nat) (x y:α):BU (BU f a x) a y=BU f a y:=by
 funext z;unfold BU;split<;>rfl
theorem IJ {α:Type} (f:Nat->Option α) (a:Nat) (x:α):BU f a x a=some x:=by simp[BU]
theorem QX {c ps:Tx} (h:Df c=some ps):ps.length<=3:=by
 unfold Df at h;obtain⟨p,a,rfl⟩:=Option.map_eq_some_iff.1 h;have b:=List.mem_of_find?_eq_some a;have:∀q,q∈Bb->q.2.length<=3:=by decide
 exact this p b
structure Hw (w:Xh) (tag:Nat->RT) (base rb nb lb:Nat) (G:RG) (lm ia:Nat) (i0:Ad) (l:List (Int×Tx)) (j:Nat) (wr:Xh) (tr:Nat->RT) (Gr:RG):Prop where
 rd:Al wr tr base rb nb lb Gr
 ext:Ah w tag wr tr
 line:Gr.line=G.line
 same:Gr.nms=G.nms/\Gr.V=G.V/\Gr.bods=G.bods/\Gr.bV=G.bV/\Gr.B=G.B/\Gr.N=G.N
 ins:∃i,Gr.I=BU G.I ia i/\Cf G.N i0 l=Cf G.N i (l.drop j)
 las:∃cs,Gr.las=G.las++cs/\cs.map Ca.key=(l.take j).flatMap (EB nb lm ia G.line)
 len:Gr.las.length<=G.las.length+j
theorem Hw.next {w:Xh} {s:Nat->RT} {base rb b lb:Nat} {G:RG} {lm a:Nat} {t:Ad} {l:List (Int×Tx)} {j:Nat} {wr:Xh} {Q:Nat->RT} {d:RG} (h:Hw w s base rb b lb G lm a t l j wr Q d) {p:Int×Tx} (X:l[j]?=some p) {i:Ad} (J:d.I a=some i)
 {w':Xh} {k:Nat->RT} {f:RG} (O:Al w' k base rb b lb f) (F:Ah wr Q w' k) (Y:Uh b lm a i p.1 p.2 d f):Hw w s base rb b lb G lm a t l (j+1) w' k f:=by
 obtain⟨A,rfl⟩:=Xf.1 X;obtain⟨m,u,y⟩:=h.ins;obtain⟨cs,S,P⟩:=h.las;obtain⟨R,C,B,D,U,z⟩:=h.same;have W:m=i:=by rw[u,IJ] at J;exact Option.some.inj J
 subst W;have T:(l.take (j+1)).flatMap (EB b lm a G.line)=(l.take j).flatMap (EB b lm a G.line)++EB b lm a G.line l[j]:=by
  rw[List.take_succ_eq_append_getElem A,List.flatMap_append];simp
 have V:l.drop j=l[j]::l.drop (j+1):=X4 A;rw[V] at y;have set:∀i',Dp G.N m l[j]=some i'->EB b lm a G.line l[j]=[]->f=d.Ey a i'->Hw w s base rb b lb G lm a t l (j+1) w' k f:=λi' o g r=>by
  subst r;refine⟨O,h.ext.trans F,h.line,⟨R,C,B,D,U,z⟩,⟨i',?_,?_⟩,⟨cs,S,by rw[T,g,List.append_nil];exact P⟩,by show d.las.length<=_;have:=h.len;omega⟩
  ·show BU d.I a i'=_;rw[u,aau]
  ·rw[y];conv=>lhs;unfold Cf
   rw[o]
 have K:∀x,KA a x l[j].1 l[j].2 d f->Dp G.N m l[j]=some m->EB b lm a G.line l[j]=[(a,x,l[j].1,l[j].2,G.line)]->Hw w s base rb b lb G lm a t l (j+1) w' k f:=λx o g r=>by
  obtain⟨c,v,c1,c2,c3,c4,c5,rfl⟩:=o;refine⟨O,h.ext.trans F,h.line,⟨R,C,B,D,U,z⟩,⟨m,u,?_⟩,⟨cs++[c],?_,?_⟩,?_⟩
  ·rw[y];conv=>lhs;unfold Cf
   rw[g]
  ·show d.las++[c]=_;rw[S,List.append_assoc]
  ·rw[T,r,List.map_append,P];simp[Ca.key,c1,c2,c3,c4,c5,h.line]
  ·show (d.las++[c]).length<=_;rw[List.length_append];have:=h.len;simp;omega
 rcases Y with⟨q,e⟩|⟨q,e⟩|⟨q,e⟩|⟨q,e⟩|⟨q,e⟩|⟨o,g,r,H,E,n,M,e⟩
 ·exact set _ (by simp[Dp,q]) (by simp[EB,q]) e
 ·exact set _ (by simp[Dp,q]) (by simp[EB,q]) e
 ·exact set _ (by simp[Dp,q]) (by simp[EB,q]) e
 ·exact K b (by rw[q];exact e) (by simp[Dp,q]) (by simp[EB,q])
 ·exact K lm (by rw[q];exact e) (by simp[Dp,q]) (by simp[EB,q])
 ·rw[z] at M;exact set _ (by simp[Dp,o,g,r,H,E,M]) (by simp[EB,H,E]) e
theorem Hw.adA {w:Xh} {u:Nat->RT} {base rb i lb:Nat} {G:RG} {lm r:Nat} {c:Ad} {l:List (Int×Tx)} {j:Nat} {wr:Xh} {v:Nat->RT} {a:RG} (h:Hw w u base rb i lb G lm r c l j wr v a) {p:Int×Tx} (A:l[j]?=some p) {e:Int} (g:Ui p.1 p.2 a e):Cf G.N c l=none/\e=5:=by
 obtain⟨d,rfl⟩:=Xf.1 A;obtain⟨t,H,y⟩:=h.ins;obtain⟨I,E,D,F,J,C⟩:=h.same;obtain⟨x,s,z,q,m,b,o⟩:=g;rw[C] at b;refine⟨?_,o⟩;rw[y,X4 d];unfold Cf;have:Dp G.N t l[j]=none:=by
  unfold Dp;rw[if_neg x,if_neg s,if_neg z,if_neg q,if_neg m]
  cases B:G.N l[j].2 with
  |none=>rfl
  |some p=>
   obtain⟨k,n⟩:=p;show (if k=l[j].1 then _ else _)=_;rw[if_neg];intro f;subst f;exact b n B
 rw[this]
theorem adp {ts:List Tx} {ps:Tx} (h:Bi ts ps=true):ts.length=ps.length/\∀i (a:i<ps.length),Cu (ts.getD i []) ((ps[i]'a).toNat:Int)=true:=by
 induction ts generalizing ps with
 |nil=>cases ps with
  |nil=>exact⟨rfl,λi a=>by simp at a⟩
  |cons c ps=>simp[Bi] at h
 |cons t ts d=>cases ps with
  |nil=>simp[Bi] at h
  |cons c ps=>
   simp only[Bi,Bool.and_eq_true] at h;obtain⟨e,b⟩:=d h.2;refine⟨by simp[e],λi a=>?_⟩
   cases i with
   |zero=>simpa using h.1
   |succ i=>simpa using b i (by simpa using a)
theorem Un {ts:List Tx} {ps:Tx} {i:Nat} (h:i<ts.length) (a:i<ps.length):(AQ ps ts)[i]?=some ((ps[i].toNat:Int),ts.getD i []):=by
 unfold AQ;rw[List.getElem?_zip_eq_some];simp[h,a]
theorem OA {ts:List Tx} {ps:Tx} (h:ts.length=ps.length):(AQ ps ts).length=ts.length:=by simp[AQ,h]
def Ox (n0 nb a:Nat) (bc:EV) (op:Tx) (ts:List Tx) (G G':RG):Prop:=∃ps,Df op=some ps/\Bi ts ps=true/\bc.ins.length<24/\∃ia i cs lV v,n0<=ia/\Cf G.N (CB op) (AQ ps ts)=some i/\cs.map Ca.key=(AQ ps ts).flatMap (EB nb bc.lm ia G.line)/\
 G'={G with I:=BU G.I ia i,las:=G.las++cs,lV:=lV,B:=BU G.B a {bc with ins:=bc.ins++[ia],cv:=v}}
def Ug (bc:EV) (op:Tx) (ts:List Tx) (G:RG) (e:Int):Prop:=
 ((∀ps,Df op=some ps->Bi ts ps=false)/\e=2)\/∃ps,Df op=some ps/\Bi ts ps=true/\((24<=bc.ins.length/\e=4)\/(bc.ins.length<24/\Cf G.N (CB op) (AQ ps ts)=none/\e=5))
theorem acs {w:Xh} {f:Nat->RT} {base rb y lb:Nat} {G:RG} (h:Al w f base rb y lb G) {a:Nat} {k:EV} (ha:G.bods.getLast?=some a) (hb:G.bods.length<1048576) (av:G.B a=some k) (m:Tx) (K:Option Addr) (n cap:Nat) (ts:List Tx) (v:ts.length=n) (R:CX w f K ts) (a7:G.las.length+n<1048576) (bh:k.ins.length<=24) :
 XY Tryz.prog 144 #[Ab rb,.string (bs m),.slice K n cap] w (Out w f base rb y lb G.line (Ox w.heap.size y a k m ts G) (Ug k m ts G)):=by
 have Q:=aaK m w h.shapes
 cases o:Df m with
 |none=>
  rw[o] at Q;have E:Hid (∀w1,Below w.heap.size w w1->w1.cell? ⟨rb,0,none⟩=some (.int .i64 G.line)/\Ah w f w1 f):=λw1 l=>⟨(h.below l).GE,Ah.CF l⟩
  replace o:=Aa o;unfold Ab;clear h R
  go_enter Tryz.func144,Tryz.ntmps144
  go_wp2_with fail
  refine Q.mono ?_;rintro e w1 ⟨rfl,l⟩;obtain⟨A,hX⟩:=E.out w1 l
  go_wp2_with fail
  refine(Gj 2 A).mono ?_;rintro e q ⟨rfl,rfl⟩
  exact⟨rfl,.inr ⟨f,2,rfl,hX,.inl ⟨(λps e=>by rw[o.out] at e;cases e),rfl⟩⟩⟩
 |some ps=>
  rw[o] at Q;have aS:ps.length<4294967281:=by
   have hm:=QX o
   omega
  have HF:Hid (∀w1,Below w.heap.size w w1->Al w1 f base rb y lb G/\CX w1 f K ts/\Ah w f w1 f/\XY Tryz.prog 185 #[.slice K n cap,.string (bs ps)] w1 λe w'=>e = .returned (.bool (Bi ts ps))/\w'=w1):=λw1 l=>⟨h.below l,R.ext (.CF l),.CF l,adm K n cap ts ps w1 v (R.ext (.CF (t:=f) l)).ws (by omega) aS⟩
  replace o:=Aa o;have a0:=Aa R;unfold Ab;clear h R
  go_enter Tryz.func144,Tryz.ntmps144
  go_wp2_with fail
  refine Q.mono ?_;rintro e w1 ⟨rfl,l⟩;obtain⟨P,af,V,U⟩:=HF.out w1 l;clear HF;have A:=P.GE;replace P:=Aa P;replace af:=Aa af;replace V:=Aa V
  cases p:Bi ts ps with
  |false=>
   rw[p] at U
   go_wp2_with fail
   refine U.mono ?_;rintro e q ⟨rfl,rfl⟩
   go_wp2_with fail
   refine(Gj 2 A).mono ?_;rintro e w3 ⟨rfl,rfl⟩
   exact⟨rfl,.inr ⟨f,2,rfl,V.out,.inl ⟨(λa9 e=>by rw[o.out] at e;cases e;exact p),rfl⟩⟩⟩
  |true=>
   rw[p] at U;have hC:=NY P.out ha (by omega);have HC:Hid (∀q,Below w1.heap.size w1 q->Al q f base rb y lb G/\CX q f K ts/\Ah w f q f/\w1.heap.size<=q.heap.size):=λq Y=>⟨P.out.below Y,af.out.ext (.CF Y),V.out.trans (.CF Y),Y.size⟩
   have aU:Hid (w.heap.size<=w1.heap.size):=l.size;unfold Ab at hC;replace p:=Aa p;clear l
   go_wp2_with fail
   refine U.mono ?_;rintro e q ⟨rfl,rfl⟩
   go_wp2_with fail
   refine(In rb 2 _).mono ?_;rintro e w3 ⟨rfl,rfl⟩
   go_wp2_with fail
   refine hC.mono ?_;rintro e F ⟨rfl,aH⟩;obtain⟨S,ah,D,am⟩:=HC.out F aH;clear HC hC A aH;have A:=S.GE;have r:=S.bodies a k av;have c0:F.cell? ⟨a,0,none⟩=some k.cv:=by simp[Xg,r.cell]
   obtain⟨ca,be,X⟩:=MH r.code;rw[X] at c0;replace X:=Aa X;replace am:=Aa am
   by_cases an:k.ins.length<24
   ·have aZ:(k.ins.length:Int)<24:=by omega
    obtain⟨M,ag⟩:=adp p.out;have a1:(bs ps).size=n:=by rw[Bg,<-M,v]
    obtain⟨aw,ap⟩:=S.abe (CB m);have aB:Hid (Hw w f base rb y lb G k.lm F.heap.size (CB m) (AQ ps ts) 0 (F.alloc (.cells (Br (CB m)) 108)) (CM f F.heap.size .ins) (G.Ey F.heap.size (CB m))):=⟨aw,D.trans ap,rfl,⟨rfl,rfl,rfl,rfl,rfl,rfl⟩,⟨CB m,rfl,by simp⟩,⟨[],by show G.las=_;simp,by simp⟩,by show G.las.length<=_;omega⟩;have a3:=Aa ah;replace M:=Aa M;replace ag:=Aa ag;replace v:=Aa v;have bc:=Aa D;clear aw ap r S ah D
    go_wp2_with fail
    refine(In rb 4 _).mono ?_;rintro e O ⟨rfl,rfl⟩
    go_wp2_with fail
    go_loopw [40] (λZ wr=>∃(j:Nat) (tr:Nat->RT) (u:RG),j<=n/\Z = .int .i64 j/\Hw w f base rb y lb G k.lm O.heap.size (CB m) (AQ ps ts) j wr tr u) (λZ _=>n - (intOf Z).toNat)
    case atStart=>exact⟨0,_,_,Nat.zero_le _,rfl,aB.out⟩
    case round=>
     clear A c0 aB U Q;obtain⟨j,tr,u,hj,rfl,d⟩:=hrel;obtain⟨i,x,W⟩:=d.ins;have z:u.I O.heap.size=some i:=by rw[x,IJ]
     have C:=d.rd;have aj:u.bods.getLast?=some a:=by rw[d.same.2.2.1];exact ha
     have ad:u.bods.length<1048576:=by rw[d.same.2.2.1];exact hb
     have T:u.B a=some k:=by rw[d.same.2.2.2.2.1];exact av
     by_cases h5:j<n
     ·have ac:j<ts.length:=by have:=v.out;omega
      have aI:j<ps.length:=by have:=M.out;omega
      obtain⟨b,ba,rfl,_,cw,_⟩:=(a0.out.ext d.ext) j ac;have a6:(j:Int)<(n:Int):=by omega
      have hg:=Dx ps j (by omega);have H:=Un ac aI;have aa:=adv C aj ad T z (by have:=d.len;omega) (ps[j].toNat:Int) (ts.getD j []) (ag.out j aI);rw[d.line] at aa;have E:=Aa (⟨d,H,z⟩:_/\_/\_);clear C x W z d aj ad T H;generalize ts.getD j []=t at *;generalize aG:ps[j]=c at *;replace aG:=Aa aG;unfold Ab at aa;clear ac
      go_wp2_with fail
      refine aa.mono ?_;rintro e w6 (⟨t6,G6,rfl,J,s,aY⟩|⟨t6,e6,rfl,s,aX⟩)
      ·go_wp2_with fail
       go_roundw
       case rel=>
        obtain⟨d,H,z⟩:=E.out
        exact⟨j+1,t6,G6,by omega,by go_num,d.next H z J s aY⟩
       case measure=>simp[intOf];omega
      ·obtain⟨d,H,z⟩:=E.out;obtain⟨q1,q2⟩:=d.adA H aX;subst q2
       exact⟨rfl,.inr ⟨t6,5,rfl,d.ext.trans s,.inr ⟨ps,o.out,p.out,.inr ⟨an,q1,rfl⟩⟩⟩⟩
     ·have aK:Hid (Cf G.N (CB m) (AQ ps ts)=some i):=by
       rw[List.drop_of_length_le (by rw[OA M.out];have:=v.out;omega)] at W;exact W
      obtain⟨g,aM,w6,ab,c6,f6,aN,J,s⟩:=C.code T (by omega) O.heap.size;have r:=C.bodies a k T;have c0:wr.cell? ⟨a,0,none⟩=some k.cv:=by simp[Xg,r.cell]
      rw[X.out] at c0 ab c6;unfold Ab at ab;have E:=Aa (⟨d,J,s,x⟩:_/\_/\_/\_);have a8:=C.lt r.ta (by simp);have aP:j=n:=by omega
      subst aP;clear C J s x W z d aj ad T r
      go_wp2_with (at_builtin;refine Dl rfl _ _ _ rfl rfl rfl rfl ab ?_)
      go_end0
      obtain⟨d,J,s,x⟩:=E.out;obtain⟨cs,ay,aQ⟩:=d.las;obtain⟨s1,s2,s3,s4,s5,s6⟩:=d.same;refine .inl ⟨aN,_,rfl,J,d.ext.trans s,ps,o.out,p.out,an,O.heap.size,i,cs,u.lV,.slice (some ⟨g,0,none⟩) (k.ins.length+1) aM,by have:=aU.out;have:=am.out;omega,aK.out,?_,?_⟩
      ·rw[aQ,XQ (by rw[OA M.out];have:=v.out;omega)]
      ·have hl:=d.line
       cases u
       simp only at x ay s1 s2 s3 s4 s5 s6 hl;subst x ay s1 s2 s3 s4 s5 s6 hl
       rfl
   ·have aZ:decide ((k.ins.length:Int)<24)=false:=decide_eq_false (by omega);replace D:=Aa D;clear r S ah
    go_wp2_with fail
    refine(Gj 4 A).mono ?_;rintro e O ⟨rfl,rfl⟩
    exact⟨rfl,.inr ⟨f,4,rfl,D.out,.inr ⟨ps,o.out,p.out,.inl ⟨by omega,rfl⟩⟩⟩⟩
def BG (t:Tx):Bool:=decide (t.getLast?=some 58)
theorem aej {t:Tx} (h:1<=t.length):((bs (t.drop (t.length - 1))).toList == (bs [58]).toList)=BG t:=by
 rcases YY t with e|⟨l,x,e⟩
 ·subst e;simp at h
 ·rw[YZ] at e;subst e;rw[AL,AL,BG];have a:(l++[x]).drop ((l++[x]).length - 1)=[x]:=by simp
  rw[a,List.getLast?_append]
  by_cases b:x=58<;>simp[b]
theorem acT (t:Tx) (w:Xh) (d:t.length<4294967281):XY Tryz.prog 207 #[.string (bs t),.string (bs [58])] w λe w'=>e = .returned (.bool (BG t))/\w'=w:=by
 have f:(bs [58]).size=1:=Bg [58]
 by_cases a:1<=t.length
 ·obtain⟨n,g⟩:∃n,t.length=n+1:=⟨t.length - 1,by omega⟩;have b:=aej a;have k:(bs t).size=n+1:=by rw[Bg,g]
  have h:(bs t).extract n (n+1)=bs (t.drop (t.length - 1)):=by
   rw[Hp,XQ (by omega)];congr 2;omega
  generalize bs (t.drop (t.length - 1))=u at h b;generalize BG t=q at b |-;generalize bs t=bt at k h |-;generalize bs [58]=b58 at f b |-;have o:wrap64 (n:Int)=n:=IntWalk.wrap64_in _ (by omega);clear a d;have p:(1:Int)<=(n:Int)+1:=by omega
  have m:(n:Int)+1 - 1=n:=by omega
  have s:(n:Int)<=(n:Int)+1:=by omega
  clear g m
  go_enter Tryz.func207,Tryz.ntmps207
  go_wp2
  go_ret
  exact⟨rfl,rfl⟩
 ·have l:t=[]:=by cases t with
   |nil=>rfl
   |cons c r=>simp at a
  subst l;have i:bs []=ByteArray.empty:=rfl;have j:BG []=false:=rfl;rw[i,j];generalize bs [58]=b58 at f |-;clear a d
  go_enter Tryz.func207,Tryz.ntmps207
  go_wp2
  go_ret
  exact⟨rfl,rfl⟩
theorem aed (t:Tx) (w:Xh) (d:t.length<4294967281):XY Tryz.prog 179 #[.string (bs t),.string (bs [58])] w λe w'=>e = .returned (.tuple #[.string (bs (if BG t then t.dropLast else t)),.bool (BG t)])/\w'=w:=by
 have a:=acT t w d;have h:(bs [58]).size=1:=Bg [58]
 cases b:BG t with
 |false=>
  rw[b] at a
  go_enter Tryz.func179,Tryz.ntmps179
  go_wp2_with fail
  refine a.mono ?_;rintro e w1 ⟨rfl,rfl⟩
  go_wp2_with fail
  go_ret2
  exact⟨rfl,rfl⟩
 |true=>
  rw[b] at a;have f:t≠[]:=by(intro e;subst e;simp[BG] at b)
  obtain⟨n,c⟩:∃n,t.length=n+1:=⟨t.length - 1,by have:=Zb.2 f;omega⟩;have i:(bs t).size=n+1:=by rw[Bg,c]
  have g:(bs t).extract 0 n=bs t.dropLast:=by
   rw[Hp,List.dropLast_eq_take];congr 2;simp[c]
  simp only[if_true];generalize bs t.dropLast=u at g |-;generalize bs t=bt at i g a |-;generalize bs [58]=b58 at h a |-;have j:(n:Int)+1 - 1=n:=by omega
  have k:wrap64 (n:Int)=n:=IntWalk.wrap64_in _ (by omega);have l:(n:Int)<=(n:Int)+1:=by omega
  clear c f d b j
  go_enter Tryz.func179,Tryz.ntmps179
  go_wp2_with fail
  refine a.mono ?_;rintro e w1 ⟨rfl,rfl⟩
  go_wp2_with fail
  go_ret2
  exact⟨rfl,rfl⟩
theorem aef (t:Tx) (w:Xh) (b:t.length<4294967281):XY Tryz.prog 139 #[.string (bs t),.string (bs [58])] w λe w'=>e = .returned (.tuple #[.string (bs (if BG t then t.dropLast else t)),.bool (BG t)])/\w'=w:=by
 have a:=aed t w b;generalize bs (if BG t then t.dropLast else t)=u at a |-;generalize BG t=q at a |-
 go_enter Tryz.func139,Tryz.ntmps139
 go_wp2_with fail
 refine a.mono ?_;rintro e w1 ⟨rfl,rfl⟩
 go_wp2_with fail
 go_ret2
 exact⟨rfl,rfl⟩
def FU:Tx:=[116,104,114,101,97,100]
def TU (n0 nb:Nat) (f:Tx) (ts:List Tx) (G G':RG):Prop:=
 (f=FU/\Oz n0 ts G G')\/(f≠FU/\G.bods=[]/\KB (Di f) ts G G')\/
 (f≠FU/\∃a bc,G.bods.getLast?=some a/\G.B a=some bc/\((BG f=true/\ts=[]/\Av f.dropLast=true/\bc.labs f.dropLast=none/\G'=G.mark a bc f.dropLast)\/(¬(BG f=true/\ts=[])/\Ox n0 nb a bc f ts G G')))
def TW (f:Tx) (ts:List Tx) (G:RG) (e:Int):Prop:=
 (f=FU/\Ul ts G e)\/(f≠FU/\G.bods=[]/\KC (Di f) ts G e)\/
 (f≠FU/\∃a bc,G.bods.getLast?=some a/\G.B a=some bc/\((BG f=true/\ts=[]/\((Av f.dropLast=false/\e=2)\/(Av f.dropLast=true/\(∃n,bc.labs f.dropLast=some n)/\e=3)))\/(¬(BG f=true/\ts=[])/\Ug bc f ts G e)))
theorem acS (t:Tx):Di t=0\/AR (Di t):=by
 unfold Di AR
 by_cases a:Iz=t
 ·simp[a]
 ·by_cases b:IA=t
  ·simp[a,b]
  ·by_cases c:JI=t
   ·simp[a,b,c]
   ·simp[a,b,c]
theorem Va {w:Xh} {J:Nat->RT} {base rb F lb:Nat} {G:RG} (h:Al w J base rb F lb G) (O:G.bods=[]\/∃a r,G.bods.getLast?=some a/\G.B a=some r/\r.ins.length<=24) (f:Tx) (y:Option Addr) (n cap:Nat) (ts:List Tx) (s:ts.length=n) (u:CX w J y ts)
 (T:f.length<4294967281) (v:∀k,(G.nms k).length+n<1048576) (t:G.bods.length<1048576) (z:G.las.length+n<1048576) :
 XY Tryz.prog 107 #[Ab rb,.string (bs f),.slice y n cap] w (Out w J base rb F lb G.line (TU w.heap.size F f ts G) (TW f ts G)):=by
 have g:=aef f w T;have Q:((bs f).toList == [116,104,114,101,97,100])=decide (f=FU):=by
  rw[AL]
  by_cases e:f=FU
  ·subst e;rfl
  ·rw[decide_eq_false e];exact beq_eq_false_iff_ne.2 e
 by_cases d:f=FU
 ·have R:=aeE h y n cap ts s u (v 116) t;rw[decide_eq_true d] at Q;replace d:=Aa d;generalize bs (if BG f then f.dropLast else f)=nm at g;generalize BG f=col at g;unfold Ab at R |-;clear h u v t z s O
  go_enter Tryz.func107,Tryz.ntmps107
  go_wp2_with fail
  refine g.mono ?_;rintro e w1 ⟨rfl,rfl⟩
  go_wp2_with fail
  refine R.mono ?_;rintro e D (⟨b,l,rfl,o,c,q⟩|⟨b,m,rfl,c,p⟩)
  ·go_wp2_with fail
   go_end0
   exact .inl ⟨b,l,rfl,o,c,.inl ⟨d.out,q⟩⟩
  ·exact⟨rfl,.inr ⟨b,m,rfl,c,.inl ⟨d.out,p⟩⟩⟩
 ·rw[decide_eq_false d] at Q;replace d:=Aa d;have H:=h.Ko;obtain⟨ba,V,A⟩:=JQ h.brow;rw[List.length_map] at A;rw[A] at H
  rcases O with C|⟨a,r,i,j,U⟩
  ·have Y:=acO f w h.heads;have N:Hid (∀w1,Below w.heap.size w w1->XY Tryz.prog 141 #[Ab rb,.int .u8 (Di f),.slice y n cap] w1 (Out w J base rb F lb G.line (KB (Di f) ts G) (KC (Di f) ts G))):=λw1 I=>by
    refine(Tl (h.below I) (Di f) (acS f) y n cap ts s (u.ext (.CF I)) (v _)).mono ?_;rintro e D (⟨b,l,rfl,o,c,q⟩|⟨b,m,rfl,c,p⟩)
    ·exact .inl ⟨b,l,rfl,o,(Ah.CF I).trans c,q⟩
    ·exact .inr ⟨b,m,rfl,(Ah.CF I).trans c,p⟩
   rw[C] at H;have H:w.cell? ⟨rb,6,none⟩=some (.slice ba 0 V):=H;generalize bs (if BG f then f.dropLast else f)=nm at g;generalize BG f=col at g;unfold Ab at N |-;replace C:=Aa C;replace A:=Aa A;clear h u v t z s
   go_enter Tryz.func107,Tryz.ntmps107
   go_wp2_with fail
   refine g.mono ?_;rintro e w1 ⟨rfl,rfl⟩
   go_wp2_with fail
   refine Y.mono ?_;rintro e Z ⟨rfl,t⟩;have W:=N.out Z t;clear N
   go_wp2_with fail
   refine W.mono ?_;rintro e D (⟨b,l,rfl,o,c,q⟩|⟨b,m,rfl,c,p⟩)
   ·go_wp2_with fail
    go_end0
    exact .inl ⟨b,l,rfl,o,c,.inr (.inl ⟨d.out,C.out,q⟩)⟩
   ·exact⟨rfl,.inr ⟨b,m,rfl,c,.inr (.inl ⟨d.out,C.out,p⟩)⟩⟩
  ·have ab:((G.bods.length:Int) == 0)=false:=by
    have:G.bods≠[]:=λe=>by rw[e] at i;cases i
    have:=Zb.2 this
    simp;intro e;rw[e] at this;simp at this
   replace A:=Aa A
   by_cases E:BG f=true/\n=0
   ·obtain⟨m1,X⟩:=E;have S:=abx h i (by omega) j f.dropLast;rw[m1] at g;simp only[if_true] at g;have P:Hid (ts=[]):=List.eq_nil_of_length_eq_zero (by omega);subst X;replace m1:=Aa m1;replace i:=Aa i;replace j:=Aa j;unfold Ab at S |-;clear h u v t z s
    go_enter Tryz.func107,Tryz.ntmps107
    go_wp2_with fail
    refine g.mono ?_;rintro e w1 ⟨rfl,rfl⟩
    go_wp2_with fail
    refine S.mono ?_;rintro e D (⟨b,l,rfl,o,c,q⟩|⟨b,m,rfl,c,p⟩)
    ·go_wp2_with fail
     go_end0
     exact .inl ⟨b,l,rfl,o,c,.inr (.inr ⟨d.out,a,r,i.out,j.out,.inl ⟨m1.out,P.out,q⟩⟩)⟩
    ·exact⟨rfl,.inr ⟨b,m,rfl,c,.inr (.inr ⟨d.out,a,r,i.out,j.out,.inl ⟨m1.out,P.out,p⟩⟩)⟩⟩
   ·have M:=acs h i t j f y n cap ts s u z U;have K:Hid (¬(BG f=true/\ts=[])):=λe=>E ⟨e.1,by rw[<-s,e.2];rfl⟩;replace i:=Aa i;replace j:=Aa j;unfold Ab at M |-;generalize bs (if BG f then f.dropLast else f)=nm at g
    cases x:BG f with
    |false=>
     rw[x] at g;replace x:=Aa x;clear h u v t z s E
     go_enter Tryz.func107,Tryz.ntmps107
     go_wp2_with fail
     refine g.mono ?_;rintro e w1 ⟨rfl,rfl⟩
     go_wp2_with fail
     refine M.mono ?_;rintro e D (⟨b,l,rfl,o,c,q⟩|⟨b,m,rfl,c,p⟩)
     ·go_wp2_with fail
      go_end0
      exact .inl ⟨b,l,rfl,o,c,.inr (.inr ⟨d.out,a,r,i.out,j.out,.inr ⟨K.out,q⟩⟩)⟩
     ·exact⟨rfl,.inr ⟨b,m,rfl,c,.inr (.inr ⟨d.out,a,r,i.out,j.out,.inr ⟨K.out,p⟩⟩)⟩⟩
    |true=>
     rw[x] at g;have ac:((n:Int) == 0)=false:=by
      have:¬(n=0):=λe=>E ⟨x,e⟩
      simp;omega
     replace x:=Aa x;clear h u v t z s E
     go_enter Tryz.func107,Tryz.ntmps107
     go_wp2_with fail
     refine g.mono ?_;rintro e w1 ⟨rfl,rfl⟩
     go_wp2_with fail
     refine M.mono ?_;rintro e D (⟨b,l,rfl,o,c,q⟩|⟨b,m,rfl,c,p⟩)
     ·go_wp2_with fail
      go_end0
      exact .inl ⟨b,l,rfl,o,c,.inr (.inr ⟨d.out,a,r,i.out,j.out,.inr ⟨K.out,q⟩⟩)⟩
     ·exact⟨rfl,.inr ⟨b,m,rfl,c,.inr (.inr ⟨d.out,a,r,i.out,j.out,.inr ⟨K.out,p⟩⟩)⟩⟩
def Ri (r:Result Unit) (W:Xh):Xh:=match r with
 |.ok _ w'=>w'
 |_=>W
noncomputable def Mv (b rb:Nat) (p:Int×Nat) (W:Xh):Xh:=Ri ((Yz 142 (.map (some b)) (.int .u8 p.1) (.pointer (some ⟨rb,p.2,none⟩))).run Tryz.prog W) W
noncomputable def updM (b rb:Nat) (W0:Xh) (L:List (Int×Nat)):Xh:=L.foldr (Mv b rb) W0
theorem OO (b rb:Nat) (a:Xh) (p:Int×Nat) (L:List (Int×Nat)) {w':Xh} (h:(Yz 142 (.map (some b)) (.int .u8 p.1) (.pointer (some ⟨rb,p.2,none⟩))).run Tryz.prog (updM b rb a L) = .ok () w'):updM b rb a (p::L)=w':=by
 have e:updM b rb a (p::L)=Mv b rb p (updM b rb a L):=List.foldr_cons ..;rw[e,Mv,h,Ri]
theorem ON (b rb:Nat) (a:Xh):updM b rb a []=a:=List.foldr_nil
attribute [irreducible] updM
def JF (rb:Nat):List (Int×Nat)->Int->Option Value
 |[]=>λ_=>none
 |p::L=>Bv (JF rb L) p.1 (.pointer (some ⟨rb,p.2,none⟩))
theorem OM {b rb:Nat} {a:Xh} (h:AA uk a b (λ_=>none) 0) (L:List (Int×Nat)):(∃n,AA uk (updM b rb a L) b (JF rb L) n)/\(updM b rb a L).heap.size=a.heap.size/\(updM b rb a L).os=a.os/\(updM b rb a L).tape=a.tape/\(updM b rb a L).output=a.output/\(∀x,x≠b->(updM b rb a L).heap[x]?=a.heap[x]?):=by
 induction L with
 |nil=>rw[ON];exact⟨⟨0,h⟩,rfl,rfl,rfl,rfl,λ_ _=>rfl⟩
 |cons p L q=>
  obtain⟨⟨n,l⟩,r,m,k,j,f⟩:=q;obtain⟨w',i,o,c,s⟩:=l.put Tryz.u8Key Tryz.underlying142 p.1 (.pointer (some ⟨rb,p.2,none⟩));have e:updM b rb a (p::L)=w':=OO b rb a p L i;rw[e];refine⟨⟨_,o⟩,by omega,c.os.trans m,c.tape.trans k,c.output.trans j,λx d=>?_⟩
  by_cases g:x<(updM b rb a L).heap.size
  ·exact(c.block x g (by simpa using d)).trans (f x d)
  ·rw[<-f x d,YT (by omega),YT (by omega)]
theorem UD {b rb:Nat} {a:Xh} (h:AA uk a b (λ_=>none) 0) (L:List (Int×Nat)) (k:Int) (o:Nat):(Yz 142 (.map (some b)) (.int .u8 k) (.pointer (some ⟨rb,o,none⟩))).run Tryz.prog (updM b rb a L) = .ok () (updM b rb a ((k,o)::L)):=by
 obtain⟨⟨n,f⟩,_⟩:=OM (rb:=rb) h L;obtain⟨w',d,g,j,i⟩:=f.put Tryz.u8Key Tryz.underlying142 k (.pointer (some ⟨rb,o,none⟩));have c:(Yz 142 (.map (some b)) (.int .u8 k) (.pointer (some ⟨rb,o,none⟩))).run Tryz.prog (updM b rb a L) = .ok () w':=d;have e:updM b rb a ((k,o)::L)=w':=OO b rb a (k,o) L c;rw[e];exact c
def RG.new:RG:=⟨0,λ_=>[],λ_=>.slice none 0 0,[],.slice none 0 0,λ_=>none,λ_=>none,λ_=>none,[],.slice none 0 0⟩
theorem aa8 {w w':Xh} (s:GV w) (p:GT w) (m:2<w.heap.size) (j:3<w.heap.size) (y:w'.os=w.os) (u:w'.tape=w.tape) (x:w'.output=w.output) (A:w'.heap.size=w.heap.size+3) (f:∀b,b<w.heap.size->w'.heap[b]?=w.heap[b]?)
 (v:AA sk w' w.heap.size (λ_=>none) 0) (z:w'.heap[w.heap.size+1]?=some (.cells #[.int .i64 0,.slice none 0 0,.slice none 0 0,.slice none 0 0,.slice none 0 0,.slice none 0 0,.slice none 0 0,.map (some w.heap.size),.map (some (w.heap.size+1+1)),.slice none 0 0] 145))
 (q:∃n,AA uk w' (w.heap.size+1+1) (GC (w.heap.size+1)) n):∃l,Al w' l w.heap.size (w.heap.size+1) w.heap.size (w.heap.size+1+1) RG.new/\Ah w (λ_=>.o) w' l:=by
 refine⟨CM (CM (CM (λ_=>.o) w.heap.size .nm) (w.heap.size+1) .rd) (w.heap.size+1+1) .li,⟨z,λk f=>⟨XE _ _ _ _,λg e=>by cases e⟩,⟨XE _ _ _ _,λg e=>by cases e⟩,⟨XE _ _ _ _,λg e=>by cases e⟩,⟨_,_,v,λt=>rfl⟩,q,(λa c h=>by cases h),(λa i r=>by cases r),(λc h=>by cases h),?_,?_,?_,λb d=>?_,s.kept (f _ m),p.kept (f _ j),m,j,by omega⟩,⟨y,u,x,by omega,λb d=>?_,λb d _=>f b d⟩⟩
 ·rw[Da _ (by omega),FT]
 ·rw[Da _ (by omega),Da _ (by omega),FT]
 ·rw[FT]
 ·unfold CM at d
  split at d
  ·omega
  ·split at d
   ·omega
   ·split at d
    ·omega
    ·exact absurd rfl d
 ·rw[Da _ (by omega),Da _ (by omega),Da _ (by omega)]
theorem JE {rb:Nat} {k:Int} {o:Nat}:∀{L:List (Int×Nat)},(L.map Prod.fst).Nodup->(k,o)∈L->JF rb L k=some (.pointer (some ⟨rb,o,none⟩))
 |[],_,hm=>by cases hm
 |p::L,hn,hm=>by
  simp only[List.map_cons,List.nodup_cons] at hn
  rcases List.mem_cons.1 hm with e|e
  ·subst e;exact Lg _ _ _
  ·have a:k≠p.1:=λb=>hn.1 (List.mem_map.2 ⟨(k,o),e,b⟩)
   exact(CT _ a).trans (JE hn.2 e)
theorem OP {rb:Nat} {k:Int}:∀{L:List (Int×Nat)},(∀p,p∈L->p.1≠k)->JF rb L k=none
 |[],_=>rfl
 |p::L,h=>(CT _ (λe=>h p (by simp) e.symm)).trans (OP λq a=>h q (by simp[a]))
theorem abP {rb:Nat} {L:List (Int×Nat)} (h:L.Perm [(118,1),(102,2),(109,3),(116,5)]):JF rb L=GC rb:=by
 have b:(L.map Prod.fst).Nodup:=(h.map Prod.fst).nodup_iff.2 (by decide);have a:∀p,p∈L↔p∈[((118:Int),1),(102,2),(109,3),(116,5)]:=λp=>h.mem_iff
 funext k
 by_cases g:k=118
 ·subst g;rw[JE b ((a (118,1)).2 (by simp))];simp[GC,Cs]
 ·by_cases f:k=102
  ·subst f;rw[JE b ((a (102,2)).2 (by simp))];simp[GC,Cs]
  ·by_cases c:k=109
   ·subst c;rw[JE b ((a (109,3)).2 (by simp))];simp[GC,Cs]
   ·by_cases d:k=116
    ·subst d;rw[JE b ((a (116,5)).2 (by simp))];simp[GC,Cs]
    ·rw[OP]
     ·simp[GC,g,f,c,d]
     ·intro p i;have:=(a p).1 i
      simp at this
      rcases this with rfl|rfl|rfl|rfl
      ·exact λe=>g e.symm
      ·exact λe=>f e.symm
      ·exact λe=>c e.symm
      ·exact λe=>d e.symm
theorem abd (w:Xh) (j:GV w) (q:GT w) (p:2<w.heap.size) (l:3<w.heap.size) :
 XY Tryz.prog 47 #[] w λA w'=>A = .returned (Ab (w.heap.size+1))/\∃d,Al w' d w.heap.size (w.heap.size+1) w.heap.size (w.heap.size+1+1) RG.new/\Ah w (λ_=>.o) w' d:=by
 have J:=@run_makeMap Tryz.prog;obtain⟨a,c⟩:∃a,(((w.alloc (.map #[] 0)).alloc (.cells #[.int .i64 0,.slice none 0 0,.slice none 0 0,.slice none 0 0,.slice none 0 0,.slice none 0 0,.slice none 0 0,.map (some w.heap.size),.map none,.slice none 0 0] 145)).alloc (.map #[] 0)).drew=a:=⟨_,rfl⟩;have C:a.heap.size=w.heap.size+3:=by rw[<-c];simp
 have h:AA uk a (w.heap.size+1+1) (λ_=>none) 0:=by
  have:=AA.made (enc:=uk) ((w.alloc (.map #[] 0)).alloc (.cells #[.int .i64 0,.slice none 0 0,.slice none 0 0,.slice none 0 0,.slice none 0 0,.slice none 0 0,.slice none 0 0,.map (some w.heap.size),.map none,.slice none 0 0] 145));rw[Yq,Yq] at this;rw[<-c];exact this
 have g:=λL=>OM (rb:=w.heap.size+1) h L;have f:a.heap[w.heap.size+1]?=some (.cells #[.int .i64 0,.slice none 0 0,.slice none 0 0,.slice none 0 0,.slice none 0 0,.slice none 0 0,.slice none 0 0,.map (some w.heap.size),.map none,.slice none 0 0] 145):=by
  have:=World.alloc_heap_new (w.alloc (.map #[] 0)) (.cells #[.int .i64 0,.slice none 0 0,.slice none 0 0,.slice none 0 0,.slice none 0 0,.slice none 0 0,.slice none 0 0,.map (some w.heap.size),.map none,.slice none 0 0] 145);rw[Yq] at this;rw[<-c]
  exact(Xv _ _ _ (by simp)).trans this
 have u:∀L k o,(Yz 142 (.map (some (w.heap.size+1+1))) (.int .u8 k) (.pointer (some ⟨w.heap.size+1,o,none⟩))).run Tryz.prog (updM (w.heap.size+1+1) (w.heap.size+1) a L) = .ok () (updM (w.heap.size+1+1) (w.heap.size+1) a ((k,o)::L)):=λL k o=>UD h L k o;have K:∀k o,(Yz 142 (.map (some (w.heap.size+1+1))) (.int .u8 k) (.pointer (some ⟨w.heap.size+1,o,none⟩))).run Tryz.prog ((((w.alloc (.map #[] 0)).alloc (.cells #[.int .i64 0,.slice none 0 0,.slice none 0 0,.slice none 0 0,.slice none 0 0,.slice none 0 0,.slice none 0 0,.map (some w.heap.size),.map none,.slice none 0 0] 145)).alloc (.map #[] 0)).drew) = .ok () (updM (w.heap.size+1+1) (w.heap.size+1) a [(k,o)]):=λk o=>by have e:=u [] k o;rw[ON] at e;rw[c];exact e
 have I:∀L,(updM (w.heap.size+1+1) (w.heap.size+1) a L).cell? ⟨w.heap.size+1,8,none⟩=some (.map none):=λL=>by
  have:=(g L).2.2.2.2.2 (w.heap.size+1) (by omega);simp[Xg,this,f]
 have G:∀L,(updM (w.heap.size+1+1) (w.heap.size+1) a L).frozen? ⟨w.heap.size+1,8,none⟩=false:=λL=>by
  have:=(g L).2.2.2.2.2 (w.heap.size+1) (by omega);simp[XM,this,f]
 have B:Hid (∀L:List (Int×Nat),L.Perm [(118,1),(102,2),(109,3),(116,5)]->∃d,Al ((updM (w.heap.size+1+1) (w.heap.size+1) a L).setCell ⟨w.heap.size+1,8,none⟩ (.map (some (w.heap.size+1+1)))) d w.heap.size (w.heap.size+1) w.heap.size (w.heap.size+1+1) RG.new/\Ah w (λ_=>.o) ((updM (w.heap.size+1+1) (w.heap.size+1) a L).setCell ⟨w.heap.size+1,8,none⟩ (.map (some (w.heap.size+1+1)))) d):=λL F=>by
  obtain⟨⟨n,y⟩,H,E,v,D,r⟩:=g L;have m:∀x,x≠w.heap.size+1->x≠w.heap.size+1+1->((updM (w.heap.size+1+1) (w.heap.size+1) a L).setCell ⟨w.heap.size+1,8,none⟩ (.map (some (w.heap.size+1+1)))).heap[x]?=a.heap[x]?:=λx z s=>(Xn _ ⟨w.heap.size+1,8,none⟩ _ x z).trans (r x s);have i:∀x,x<w.heap.size+1->a.heap[x]?=(w.alloc (.map #[] 0)).heap[x]?:=λx M=>by
   rw[<-c]
   exact(Xv _ _ _ (by simp;omega)).trans (Xv _ _ _ (by simp;omega))
  refine aa8 j q p l (E.trans (by rw[<-c];rfl)) (v.trans (by rw[<-c];rfl)) (D.trans (by rw[<-c];rfl)) (by simp;omega) (λb t=>?_) ?_ ?_ ⟨n,?_⟩
  ·rw[m b (by omega) (by omega),i b (by omega)];exact Xv w _ b t
  ·exact(AA.made (enc:=sk) w).same (by rw[m _ (by omega) (by omega),i _ (by omega)])
  ·rw[Xj _ _ 8 _ _ _ ((r _ (by omega)).trans f)];rfl
  ·rw[<-abP F];exact y.same (Xn _ ⟨w.heap.size+1,8,none⟩ _ _ (by show w.heap.size+1+1≠w.heap.size+1;omega))
 replace c:=Aa c;unfold Ab;clear h g f C j q p l
 go_enter Tryz.func47,Tryz.ntmps47
 go_wp2_with fail
 go_region
 all_goals
  go_wp2_with fail
  go_ret
  exact⟨rfl,B.out _ (by decide)⟩
structure PI where
 i:Ad
 line:Int
 off:List (Int×Tx)
structure PB where
 code:List PI
 labs:Tx->Option Nat
structure PS where
 N:Tx->Option (Int×Nat)
 nms:Int->List Tx
 bod:List PB
def PS.new:PS:=⟨λ_=>none,λ_=>[],[]⟩
def Cg (kd:Int) (ts:List Tx) (s:PS):Except Int PS:=
 if kd=0\/ts=[]\/ts.all Av=false then .error 2 else match BD kd s.N (s.nms kd) ts with
  |none=>.error 3
  |some p=>if 4<p.2.length then .error 4 else .ok {s with N:=p.1,nms:=AT s.nms kd p.2}
def HU (s:PS) (b:PB):PS:={s with bod:=s.bod.dropLast++[b]}
def EQ (l:List (Int×Tx)):List (Int×Tx):=l.filter λp=>p.1 == 116||p.1 == 108
def ER (line:Int) (f:Tx) (ts:List Tx) (s:PS) (b:PB):Except Int PS:=match Df f with
 |none=>.error 2
 |some ps=>if Bi ts ps=false then .error 2 else if 24<=b.code.length then .error 4 else match Cf s.N (CB f) (AQ ps ts) with
  |none=>.error 5
  |some i=>.ok (HU s {b with code:=b.code++[⟨i,line,EQ (AQ ps ts)⟩]})
def Gc (f:Tx) (s:PS) (b:PB):Except Int PS:=if Av f.dropLast=false then .error 2 else match b.labs f.dropLast with
 |some _=>.error 3
 |none=>.ok (HU s {b with labs:=Bc b.labs f.dropLast b.code.length})
def Jw (s:PS):PS:={s with bod:=s.bod++[⟨[],λ_=>none⟩]}
def stepT (line:Int) (f:Tx) (ts:List Tx) (s:PS):Except Int PS:=
 if f=FU then(if ts.length=1 then(Cg 116 ts s).map Jw else .error 2)
 else match s.bod.getLast? with
  |none=>Cg (Di f) ts s
  |some b=>if BG f=true/\ts=[] then Gc f s b else ER line f ts s b
structure LB where
 a:Nat
 c:EV
 pb:PB
def DN (nb:Nat) (x:LB):List (Nat×Nat×Int×Tx×Int):=(x.c.ins.zip x.pb.code).flatMap λp=>p.2.off.map λq=>(p.1,(if q.1=116 then nb else x.c.lm),q.1,q.2,p.2.line)
structure Ml (G:RG) (x:LB):Prop where
 b:G.B x.a=some x.c
 labs:x.c.labs=x.pb.labs
 len:x.c.ins.length=x.pb.code.length
 ins:∀(k ia:Nat) (p:PI),x.c.ins[k]?=some ia->x.pb.code[k]?=some p->G.I ia=some p.i
 small:x.pb.code.length<=24
structure CL (G:RG) (nb:Nat) (s:PS) (X:List LB):Prop where
 N:G.N=s.N
 nms:G.nms=s.nms
 bods:G.bods=X.map LB.a
 bod:s.bod=X.map LB.pb
 each:∀x,x∈X->Ml G x
 keys:G.las.map Ca.key=X.flatMap (DN nb)
 nda:(X.map LB.a).Nodup
 ndi:(X.flatMap λx=>x.c.ins).Nodup
structure Mf (s:PS):Prop where
 thr:(s.nms 116).length=s.bod.length
 few:∀k,(s.nms k).length<=4
def Mg (G:RG) (n0:Nat):Prop:=(∀a c,G.B a=some c->a<n0)/\(∀ia i,G.I ia=some i->ia<n0)
theorem CL.new (a:Nat):CL RG.new a PS.new []:=⟨rfl,rfl,rfl,rfl,(λx b=>by cases b),rfl,by simp,by simp⟩
section
variable {G G':RG} {nb n0:Nat} {s:PS} {X:List LB}
theorem Tp {kd:Int} {ts:List Tx} (y:KB kd ts G G') (h:CL G nb s X):∃s',Cg kd ts s = .ok s'/\CL G' nb s' X/\s'.bod=s.bod/\(∀k,(s.nms k).length<=4->(s'.nms k).length<=4)/\s'.nms kd=s.nms kd++ts/\(∀k,k≠kd->s'.nms k=s.nms k)/\G'.las=G.las/\G'.line=G.line:=by
 obtain⟨q,n,t,a,f,r,g,j,z,m,u,c,A⟩:=y;rw[h.N,h.nms] at a;have l:=LQ a;refine⟨{s with N:=G'.N,nms:=AT s.nms kd (G'.nms kd)},?_,⟨rfl,?_,by rw[j];exact h.bods,h.bod,λx v=>?_,by rw[c];exact h.keys,h.nda,h.ndi⟩,rfl,λk b=>?_,?_,λk b=>Cy _ b,c,g⟩
 ·unfold Cg;rw[if_neg (by simp[q,n,t]),a];show (if 4<(G'.nms kd).length then _ else _)=_;rw[if_neg (by omega)]
 ·funext k
  by_cases e:k=kd
  ·subst e;exact(Cj _ _ _).symm
  ·show G'.nms k=AT s.nms kd (G'.nms kd) k;rw[Cy _ e,r k e,h.nms]
 ·obtain⟨w,o,p,i,d⟩:=h.each x v
  exact⟨by rw[m];exact w,o,p,by rw[u];exact i,d⟩
 ·show (AT s.nms kd (G'.nms kd) k).length<=4
  by_cases e:k=kd
  ·subst e;rw[Cj];exact f
  ·rw[Cy _ e];exact b
 ·show AT s.nms kd (G'.nms kd) kd=_;rw[Cj];exact l
theorem Tq {kd:Int} {ts:List Tx} {e:Int} (g:KC kd ts G e) (h:CL G nb s X):Cg kd ts s = .error e:=by
 unfold Cg
 rcases g with⟨b,rfl⟩|⟨⟨b,d,c⟩,a⟩
 ·rw[if_pos b]
 ·rw[if_neg (by simp[b,d,c])];rw[h.N,h.nms] at a
  rcases a with⟨a,rfl⟩|⟨⟨p,a,f⟩,rfl⟩
  ·rw[a]
  ·rw[a];show (if 4<p.2.length then _ else _)=_;rw[if_pos f]
theorem Np (h:CL G nb s X) {a:Nat} (b:G.bods.getLast?=some a):∃c x,X=c++[x]/\x.a=a/\s.bod.getLast?=some x.pb/\s.bod.dropLast=c.map LB.pb:=by
 rw[h.bods] at b
 rcases YY X with e|⟨c,x,e⟩
 ·rw[e] at b;cases b
 ·rw[YZ] at e;subst e;refine⟨c,x,rfl,?_,?_,?_⟩
  ·simpa using b
  ·rw[h.bod];simp
  ·rw[h.bod];simp
theorem Jg {α:Type} {f:Nat->Option α} {a b:Nat} (v:α) (h:b≠a):BU f a v b=f b:=by simp[BU,h]
end
end Go.Proofs.YtdcacoifehkioaaGreatDoor
