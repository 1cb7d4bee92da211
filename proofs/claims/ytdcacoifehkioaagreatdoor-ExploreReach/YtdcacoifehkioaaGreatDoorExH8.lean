import Derived.Test.YtdcacoifehkioaaGreatDoorExH3
import Derived.Test.YtdcacoifehkioaaGreatDoorExH4
import Derived.Test.YtdcacoifehkioaaGreatDoorExH2
import Derived.Tactics
import Derived.Tactics2
import Derived.Defers
import Derived.Recover
import Derived.Laws.Pointers
import Derived.TacticsInMore
import Derived.RegionIn
import Derived.LoopNIn
import Derived.RecoverIn
open Go renaming World->Xh,Calls->XX,wp_region_held_drew->Xx,results_none->Z8,heap_setCell_same->Xj
open Go.World renaming cell?->Xg,frozen?->XP,ownsRow_nil->XG,size_alloc->Yr
open Go.RowKit.Below renaming heap_setCell->Xo,heap_alloc->Xv
open List renaming size_toArray->Yt,length_cons->XH,length_nil->X3,push_toArray->Zc,append_toArray->YW,nil_append->YV,cons_append->YL,range_succ->ZN,getElem?_eq_some_iff->Xf,drop_eq_getElem_cons->X1,take_of_length_le->XM,eq_nil_or_concat->YX,concat_eq_append->YY,length_pos_iff->Zb
open Array renaming replicate_succ->YQ,replicate_zero->YR,getElem?_eq_none->YU
open Go.Instr renaming mapUpdate->YA
set_option maxRecDepth 100000
set_option maxHeartbeats 2000000
set_option linter.unusedVariables false
set_option linter.unusedSimpArgs false
namespace Go.Proofs.YtdcacoifehkioaaGreatDoor
open Go.RowKit Go.Proofs.Cod
theorem aew {w:Xh} {g:Nat->RT} {base rb P lb:Nat} {G:RG} (h:Al w g base rb P lb G) {c:Cc} (D:c∈G.las) {i:Ad} (E:G.I c.ia=some i) {N:Tx->Option (Int×Nat)} (r:EK w g c.tb N) :
 XX Tryz.prog 228 #[Ab c.c0,Ab c.c1,Ab c.c2,Ab c.c3,Ab c.c4] w λl w'=>
  (∃n:Nat,N c.nm=some (c.kd,n)/\l = .returned (.tuple #[])/\Al w' g base rb P lb (G.EA c.ia {i with x:=(n:Int)})/\Ah w g w' g)\/((∀n,N c.nm≠some (c.kd,n))/\l = .panicked (FD 5 c.ln)/\Ah w g w' g):=by
 have s:=(h.ins c.ia i E).1;have f:=h.clos c D;have C:w.cell? ⟨c.c0,0,none⟩=some (.map (some c.tb)):=by simp[Xg,f.d0]
 have u:w.cell? ⟨c.c1,0,none⟩=some (.int .u8 c.kd):=by simp[Xg,f.d1]
 have t:w.cell? ⟨c.c2,0,none⟩=some (.string (bs c.nm)):=by simp[Xg,f.d2]
 have B:w.cell? ⟨c.c3,0,none⟩=some (.int .i64 c.ln):=by simp[Xg,f.d3]
 have z:w.cell? ⟨c.c4,0,none⟩=some (.pointer (some ⟨c.ia,0,none⟩)):=by simp[Xg,f.d4,Ab]
 have U:w.frozen? ⟨c.ia,6,none⟩=false:=by simp[XP,s]
 have T:w.cell? ⟨c.ia,6,none⟩=some (.int .i64 i.x):=by simp[Xg,s,Bv]
 have r:EK w.drew g c.tb N:=r;have y:=Td r c.kd c.nm c.ln;have F:=Aa (⟨rfl,rfl,rfl,Nat.le_refl _,λ_ _=>rfl,λ_ _ _=>rfl⟩:Ah w g w.drew g);unfold Ab
 by_cases j:∃n,N c.nm=some (c.kd,n)
 ·obtain⟨n,j⟩:=j;have J:=y.mono (R':=λl w'=>l = .returned (.int .i64 n)/\w'=w.drew) (λl w' M=>by
   rcases M with⟨⟨m,o,A⟩|⟨o,_⟩,H⟩
   ·rw[j] at o;cases o;exact⟨A,H⟩
   ·exact absurd j (o n))
  have O:=Aa (Al.MF (w:=w.drew) (h.keep (λ_ _=>rfl) F.out) E (i':={i with x:=(n:Int)}) 6 (.int .i64 n) rfl);replace j:=Aa j;have R:Hid ((λw':Xh=>w'.cell? ⟨c.c0,0,none⟩=some (.map (some c.tb))/\w'.cell? ⟨c.c1,0,none⟩=some (.int .u8 c.kd)/\w'.cell? ⟨c.c2,0,none⟩=some (.string (bs c.nm))/\w'.cell? ⟨c.c3,0,none⟩=some (.int .i64 c.ln)/\w'.cell? ⟨c.c4,0,none⟩=some (.pointer (some ⟨c.ia,0,none⟩))) (w.drew.setCell ⟨c.ia,6,none⟩ (.int .i64 n))):=by
   have q:∀{b:Nat},g b = .clo->∀k v,(w.drew.setCell ⟨c.ia,6,none⟩ v).cell? ⟨b,k,none⟩=w.cell? ⟨b,k,none⟩:=λ{b} Q k v=>by
    refine World.cell?_of_block (w:=w) (a:=⟨b,k,none⟩) ?_;exact Xo w.drew ⟨c.ia,6,none⟩ v b (Co Q (h.ins c.ia i E).2 (by simp))
   exact⟨(q f.t0 _ _).trans C,(q f.t1 _ _).trans u,(q f.t2 _ _).trans t,(q f.t3 _ _).trans B,(q f.t4 _ _).trans z⟩
  clear h s r y f D
  go_enter Tryz.func228,Tryz.ntmps228
  go_wp2_with fail
  refine Xx (S:=(λw'=>w'.cell? ⟨c.c0,0,none⟩=some (.map (some c.tb))/\w'.cell? ⟨c.c1,0,none⟩=some (.int .u8 c.kd)/\w'.cell? ⟨c.c2,0,none⟩=some (.string (bs c.nm))/\w'.cell? ⟨c.c3,0,none⟩=some (.int .i64 c.ln)/\w'.cell? ⟨c.c4,0,none⟩=some (.pointer (some ⟨c.ia,0,none⟩)))) (by kernel_rfl) ⟨C,u,t,B,z⟩ (λd=>?_);refine tk 0 d ?_;refine tk 1 d ?_;refine tk 2 d ?_;refine tk 3 d ?_;refine tk 4 d ?_;refine rd 5 (λK p=>?_)
  go_simp
  go_at_call 215
  refine J.mono ?_;rintro e w1 ⟨rfl,rfl⟩
  go_wp2_with fail
  refine p.out _ _ ⟨C,u,t,B,z⟩ (λd=>?_);clear p K
  try simp only[Act.put,sq]
  refine tk 6 d ?_;refine tk 7 d ?_;refine rd 8 (λK p=>?_)
  go_simp
  refine p.out _ _ R.out (λ_=>?_);clear p K;refine wpAnyH_done (by kernel_rfl) ?_ _;clear d
  go_wp2_with fail
  go_end0
  exact .inl ⟨n,j.out,rfl,O.out.1,F.out.trans O.out.2⟩
 ·have J:=y.mono (R':=λl w'=>l = .panicked (FD 5 c.ln)/\w'=w.drew) (λl w' M=>by
   rcases M with⟨⟨m,o,A⟩|⟨o,A⟩,H⟩
   ·exact absurd ⟨m,o⟩ j
   ·exact⟨A,H⟩)
  replace j:=Aa j;clear h s r y f D
  go_enter Tryz.func228,Tryz.ntmps228
  go_wp2_with fail
  refine Xx (S:=(λw'=>w'.cell? ⟨c.c0,0,none⟩=some (.map (some c.tb))/\w'.cell? ⟨c.c1,0,none⟩=some (.int .u8 c.kd)/\w'.cell? ⟨c.c2,0,none⟩=some (.string (bs c.nm))/\w'.cell? ⟨c.c3,0,none⟩=some (.int .i64 c.ln)/\w'.cell? ⟨c.c4,0,none⟩=some (.pointer (some ⟨c.ia,0,none⟩)))) (by kernel_rfl) ⟨C,u,t,B,z⟩ (λd=>?_);refine tk 0 d ?_;refine tk 1 d ?_;refine tk 2 d ?_;refine tk 3 d ?_;refine tk 4 d ?_;refine rd 5 (λK p=>?_)
  go_simp
  go_at_call 215
  refine J.mono ?_;rintro e w1 ⟨rfl,rfl⟩
  exact⟨rfl,.inr ⟨λn e=>j.out ⟨n,e⟩,rfl,F.out⟩⟩
theorem aeB (p:Addr) (n:Nat) (w:Xh) :
 CallsDIn Fence.wide n Tryz.prog 104 #[.pointer (some p)] .returning w λe b w'=>e = .returned (.tuple #[])/\b = .returning/\w'=w:=by
 refine callsDIn_of_wpSIn Tryz.func104 rfl trivial λd cs c=>?_
 apply wpSIn_seq
 apply wpSIn_region
 simp only[Tryz.ntmps104,Yt,XH,X3,Nat.reduceAdd,Nat.reduceSub,YQ,YR,Zc,YW,YV,YL];generalize a:Exit.thenS _ _=Q;simp[wpOpsSIn,go_sem,recoverD,c,ZN];rw[<-a];simp only[Exit.thenS];clear a Q;refine wpSIn_of_wpIn rfl ?_
 gi_wp2
 refine⟨rfl,.returning,?_,_,Z8 rfl _ _ _,rfl,rfl,rfl⟩
 cases d
 simp_all
theorem aeW (e l:Int) (u:Xh):(Instr.typeAssert (.iface 138 (.agg #[.int .i64 e,.int .i64 l])) 20 138 true).run Tryz.prog u = .ok (.tuple #[.agg #[.int .i64 e,.int .i64 l],.bool true]) u:=by kernel_rfl
theorem aeC (a n:Nat) (e l x y:Int) (w:Xh) (c:w.heap[a]?=some (.cells #[.int .i64 x,.int .i64 y] 138)) :
 CallsDIn Fence.wide n Tryz.prog 104 #[.pointer (some ⟨a,0,none⟩)] (.panicking (FD e l)) w λj i w'=>j = .returned (.tuple #[])/\(∃v,i = .panicking [{v:=v,recovered:=true}])/\w'.heap[a]?=some (.cells #[.int .i64 e,.int .i64 l] 138)/\(∀b,b<w.heap.size->b≠a->w'.heap[b]?=w.heap[b]?)/\w.heap.size<=w'.heap.size/\w'.os=w.os/\w'.tape=w.tape/\w'.output=w.output:=by
 have c0:w.cell? ⟨a,0,none⟩=some (.int .i64 x):=by simp[Xg,c]
 have c1:w.cell? ⟨a,1,none⟩=some (.int .i64 y):=by simp[Xg,c]
 have p:w.frozen? ⟨a,0,none⟩=false:=by simp[XP,c]
 have q:w.frozen? ⟨a,1,none⟩=false:=by simp[XP,c]
 have k:a<w.heap.size:=(Array.getElem?_eq_some_iff.1 c).1;replace c:=abc c;have o:=aeW e l;refine callsDIn_of_wpSIn Tryz.func104 rfl trivial λm cs f=>?_
 apply wpSIn_seq
 apply wpSIn_region
 simp only[Tryz.ntmps104,Yt,XH,X3,Nat.reduceAdd,Nat.reduceSub,YQ,YR,Zc,YW,YV,YL];generalize g:Exit.thenS _ _=Q;unfold FD at f;simp[wpOpsSIn,go_sem,recoverD,f,ZN];rw[<-g];simp only[Exit.thenS];clear g Q;refine wpSIn_of_wpIn rfl ?_
 gi_wp2
 refine⟨rfl,_,rfl,_,Z8 rfl _ _ _,rfl,⟨_,rfl⟩,?_,λb h d=>?_,by simp,rfl,rfl,rfl⟩
 ·rw[Xv _ _ a (by simpa using k),Xj _ _ 1 _ _ _ (Xj _ _ 0 _ _ _ c.out)]
  rfl
 ·rw[Xv _ _ b (by simpa using h),Xo _ ⟨a,1,none⟩ _ b d,Xo _ ⟨a,0,none⟩ _ b d]
theorem aaD {α:Type} (f:Nat->Option α) (a:Nat) (x y:α):BY (BY f a x) a y=BY f a y:=by
 funext z;unfold BY;split<;>rfl
theorem IL {α:Type} (f:Nat->Option α) (a:Nat) (x:α):BY f a x a=some x:=by simp[BY]
theorem Re {a ps:Tx} (h:Df a=some ps):ps.length<=3:=by
 unfold Df at h;obtain⟨p,b,rfl⟩:=Option.map_eq_some_iff.1 h;have c:=List.mem_of_find?_eq_some b;have:∀q,q∈Bd->q.2.length<=3:=by decide
 exact this p c
structure Hy (w:Xh) (tag:Nat->RT) (base rb nb lb:Nat) (G:RG) (lm ia:Nat) (i0:Ad) (l:List (Int×Tx)) (j:Nat) (wr:Xh) (tr:Nat->RT) (Gr:RG):Prop where
 rd:Al wr tr base rb nb lb Gr
 ext:Ah w tag wr tr
 line:Gr.line=G.line
 same:Gr.nms=G.nms/\Gr.V=G.V/\Gr.bods=G.bods/\Gr.bV=G.bV/\Gr.B=G.B/\Gr.N=G.N
 ins:∃i,Gr.I=BY G.I ia i/\Ch G.N i0 l=Ch G.N i (l.drop j)
 las:∃cs,Gr.las=G.las++cs/\cs.map Cc.key=(l.take j).flatMap (ED nb lm ia G.line)
 len:Gr.las.length<=G.las.length+j
theorem Hy.next {w:Xh} {s:Nat->RT} {base rb b lb:Nat} {G:RG} {lm a:Nat} {t:Ad} {l:List (Int×Tx)} {j:Nat} {wr:Xh} {P:Nat->RT} {d:RG} (h:Hy w s base rb b lb G lm a t l j wr P d) {p:Int×Tx} (V:l[j]?=some p) {i:Ad} (K:d.I a=some i)
 {w':Xh} {g:Nat->RT} {f:RG} (D:Al w' g base rb b lb f) (C:Ah wr P w' g) (X:Uu b lm a i p.1 p.2 d f):Hy w s base rb b lb G lm a t l (j+1) w' g f:=by
 obtain⟨A,rfl⟩:=Xf.1 V;obtain⟨o,x,z⟩:=h.ins;obtain⟨cs,T,B⟩:=h.las;obtain⟨O,R,S,Q,M,u⟩:=h.same;have W:o=i:=by rw[x,IL] at K;exact Option.some.inj K
 subst W;have F:(l.take (j+1)).flatMap (ED b lm a G.line)=(l.take j).flatMap (ED b lm a G.line)++ED b lm a G.line l[j]:=by
  rw[List.take_succ_eq_append_getElem A,List.flatMap_append];simp
 have Y:l.drop j=l[j]::l.drop (j+1):=X1 A;rw[Y] at z;have set:∀i',Ds G.N o l[j]=some i'->ED b lm a G.line l[j]=[]->f=d.EA a i'->Hy w s base rb b lb G lm a t l (j+1) w' g f:=λi' k r m=>by
  subst m;refine⟨D,h.ext.trans C,h.line,⟨O,R,S,Q,M,u⟩,⟨i',?_,?_⟩,⟨cs,T,by rw[F,r,List.append_nil];exact B⟩,by show d.las.length<=_;have:=h.len;omega⟩
  ·show BY d.I a i'=_;rw[x,aaD]
  ·rw[z];conv=>lhs;unfold Ch
   rw[k]
 have H:∀y,KC a y l[j].1 l[j].2 d f->Ds G.N o l[j]=some o->ED b lm a G.line l[j]=[(a,y,l[j].1,l[j].2,G.line)]->Hy w s base rb b lb G lm a t l (j+1) w' g f:=λy k r m=>by
  obtain⟨c,v,c1,c2,c3,c4,c5,rfl⟩:=k;refine⟨D,h.ext.trans C,h.line,⟨O,R,S,Q,M,u⟩,⟨o,x,?_⟩,⟨cs++[c],?_,?_⟩,?_⟩
  ·rw[z];conv=>lhs;unfold Ch
   rw[r]
  ·show d.las++[c]=_;rw[T,List.append_assoc]
  ·rw[F,m,List.map_append,B];simp[Cc.key,c1,c2,c3,c4,c5,h.line]
  ·show (d.las++[c]).length<=_;rw[List.length_append];have:=h.len;simp;omega
 rcases X with⟨q,e⟩|⟨q,e⟩|⟨q,e⟩|⟨q,e⟩|⟨q,e⟩|⟨k,r,m,J,E,n,U,e⟩
 ·exact set _ (by simp[Ds,q]) (by simp[ED,q]) e
 ·exact set _ (by simp[Ds,q]) (by simp[ED,q]) e
 ·exact set _ (by simp[Ds,q]) (by simp[ED,q]) e
 ·exact H b (by rw[q];exact e) (by simp[Ds,q]) (by simp[ED,q])
 ·exact H lm (by rw[q];exact e) (by simp[Ds,q]) (by simp[ED,q])
 ·rw[u] at U;exact set _ (by simp[Ds,k,r,m,J,E,U]) (by simp[ED,J,E]) e
theorem Hy.adJ {w:Xh} {g:Nat->RT} {base rb s lb:Nat} {G:RG} {lm t:Nat} {a:Ad} {l:List (Int×Tx)} {j:Nat} {wr:Xh} {o:Nat->RT} {c:RG} (h:Hy w g base rb s lb G lm t a l j wr o c) {p:Int×Tx} (q:l[j]?=some p) {e:Int} (y:Uv p.1 p.2 c e):Ch G.N a l=none/\e=5:=by
 obtain⟨f,rfl⟩:=Xf.1 q;obtain⟨B,D,A⟩:=h.ins;obtain⟨F,I,J,H,E,d⟩:=h.same;obtain⟨r,C,v,m,i,b,x⟩:=y;rw[d] at b;refine⟨?_,x⟩;rw[A,X1 f];unfold Ch;have:Ds G.N B l[j]=none:=by
  unfold Ds;rw[if_neg r,if_neg C,if_neg v,if_neg m,if_neg i]
  cases u:G.N l[j].2 with
  |none=>rfl
  |some p=>
   obtain⟨k,n⟩:=p;show (if k=l[j].1 then _ else _)=_;rw[if_neg];intro z;subst z;exact b n u
 rw[this]
theorem ady {ts:List Tx} {ps:Tx} (h:Bk ts ps=true):ts.length=ps.length/\∀i (a:i<ps.length),Cy (ts.getD i []) ((ps[i]'a).toNat:Int)=true:=by
 induction ts generalizing ps with
 |nil=>cases ps with
  |nil=>exact⟨rfl,λi a=>by simp at a⟩
  |cons c ps=>simp[Bk] at h
 |cons t ts b=>cases ps with
  |nil=>simp[Bk] at h
  |cons c ps=>
   simp only[Bk,Bool.and_eq_true] at h;obtain⟨d,e⟩:=b h.2;refine⟨by simp[d],λi a=>?_⟩
   cases i with
   |zero=>simpa using h.1
   |succ i=>simpa using e i (by simpa using a)
theorem UA {ts:List Tx} {ps:Tx} {i:Nat} (h:i<ts.length) (a:i<ps.length):(AT ps ts)[i]?=some ((ps[i].toNat:Int),ts.getD i []):=by
 unfold AT;rw[List.getElem?_zip_eq_some];simp[h,a]
theorem OI {ts:List Tx} {ps:Tx} (h:ts.length=ps.length):(AT ps ts).length=ts.length:=by simp[AT,h]
def OE (n0 nb a:Nat) (bc:EW) (op:Tx) (ts:List Tx) (G G':RG):Prop:=∃ps,Df op=some ps/\Bk ts ps=true/\bc.ins.length<24/\∃ia i cs lV v,n0<=ia/\Ch G.N (CE op) (AT ps ts)=some i/\cs.map Cc.key=(AT ps ts).flatMap (ED nb bc.lm ia G.line)/\
 G'={G with I:=BY G.I ia i,las:=G.las++cs,lV:=lV,B:=BY G.B a {bc with ins:=bc.ins++[ia],cv:=v}}
def Ut (bc:EW) (op:Tx) (ts:List Tx) (G:RG) (e:Int):Prop:=
 ((∀ps,Df op=some ps->Bk ts ps=false)/\e=2)\/∃ps,Df op=some ps/\Bk ts ps=true/\((24<=bc.ins.length/\e=4)\/(bc.ins.length<24/\Ch G.N (CE op) (AT ps ts)=none/\e=5))
theorem acy {w:Xh} {f:Nat->RT} {base rb y lb:Nat} {G:RG} (h:Al w f base rb y lb G) {a:Nat} {k:EW} (ha:G.bods.getLast?=some a) (hb:G.bods.length<1048576) (ap:G.B a=some k) (m:Tx) (F:Option Addr) (n cap:Nat) (ts:List Tx) (x:ts.length=n) (U:CZ w f F ts) (a6:G.las.length+n<1048576) (a2:k.ins.length<=24) :
 XX Tryz.prog 144 #[Ab rb,.string (bs m),.slice F n cap] w (Out w f base rb y lb G.line (OE w.heap.size y a k m ts G) (Ut k m ts G)):=by
 have Q:=aaV m w h.shapes
 cases o:Df m with
 |none=>
  rw[o] at Q;have D:Hid (∀w1,Below w.heap.size w w1->w1.cell? ⟨rb,0,none⟩=some (.int .i64 G.line)/\Ah w f w1 f):=λw1 l=>⟨(h.below l).GH,Ah.CH l⟩
  replace o:=Aa o;unfold Ab;clear h U
  go_enter Tryz.func144,Tryz.ntmps144
  go_wp2_with fail
  refine Q.mono ?_;rintro e w1 ⟨rfl,l⟩;obtain⟨v,hX⟩:=D.out w1 l
  go_wp2_with fail
  refine(Gm 2 v).mono ?_;rintro e q ⟨rfl,rfl⟩
  exact⟨rfl,.inr ⟨f,2,rfl,hX,.inl ⟨(λps e=>by rw[o.out] at e;cases e),rfl⟩⟩⟩
 |some ps=>
  rw[o] at Q;have aQ:ps.length<4294967281:=by
   have hm:=Re o
   omega
  have HF:Hid (∀w1,Below w.heap.size w w1->Al w1 f base rb y lb G/\CZ w1 f F ts/\Ah w f w1 f/\XX Tryz.prog 185 #[.slice F n cap,.string (bs ps)] w1 λe w'=>e = .returned (.bool (Bk ts ps))/\w'=w1):=λw1 l=>⟨h.below l,U.ext (.CH l),.CH l,adv F n cap ts ps w1 x (U.ext (.CH (t:=f) l)).ws (by omega) aQ⟩
  replace o:=Aa o;have aS:=Aa U;unfold Ab;clear h U
  go_enter Tryz.func144,Tryz.ntmps144
  go_wp2_with fail
  refine Q.mono ?_;rintro e w1 ⟨rfl,l⟩;obtain⟨S,ai,V,O⟩:=HF.out w1 l;clear HF;have v:=S.GH;replace S:=Aa S;replace ai:=Aa ai;replace V:=Aa V
  cases p:Bk ts ps with
  |false=>
   rw[p] at O
   go_wp2_with fail
   refine O.mono ?_;rintro e q ⟨rfl,rfl⟩
   go_wp2_with fail
   refine(Gm 2 v).mono ?_;rintro e w3 ⟨rfl,rfl⟩
   exact⟨rfl,.inr ⟨f,2,rfl,V.out,.inl ⟨(λa9 e=>by rw[o.out] at e;cases e;exact p),rfl⟩⟩⟩
  |true=>
   rw[p] at O;have hC:=Of S.out ha (by omega);have HC:Hid (∀q,Below w1.heap.size w1 q->Al q f base rb y lb G/\CZ q f F ts/\Ah w f q f/\w1.heap.size<=q.heap.size):=λq X=>⟨S.out.below X,ai.out.ext (.CH X),V.out.trans (.CH X),X.size⟩
   have aO:Hid (w.heap.size<=w1.heap.size):=l.size;unfold Ab at hC;replace p:=Aa p;clear l
   go_wp2_with fail
   refine O.mono ?_;rintro e q ⟨rfl,rfl⟩
   go_wp2_with fail
   refine(Iq rb 2 _).mono ?_;rintro e w3 ⟨rfl,rfl⟩
   go_wp2_with fail
   refine hC.mono ?_;rintro e E ⟨rfl,ax⟩;obtain⟨R,af,M,ad⟩:=HC.out E ax;clear HC hC v ax;have v:=R.GH;have u:=R.bodies a k ap;have c0:E.cell? ⟨a,0,none⟩=some k.cv:=by simp[Xg,u.cell]
   obtain⟨ca,bc,Y⟩:=MJ u.code;rw[Y] at c0;replace Y:=Aa Y;replace ad:=Aa ad
   by_cases aG:k.ins.length<24
   ·have aR:(k.ins.length:Int)<24:=by omega
    obtain⟨J,am⟩:=ady p.out;have a4:(bs ps).size=n:=by rw[Ba,<-J,x]
    obtain⟨aC,aB⟩:=R.abn (CE m);have aD:Hid (Hy w f base rb y lb G k.lm E.heap.size (CE m) (AT ps ts) 0 (E.alloc (.cells (Bv (CE m)) 108)) (CO f E.heap.size .ins) (G.EA E.heap.size (CE m))):=⟨aC,M.trans aB,rfl,⟨rfl,rfl,rfl,rfl,rfl,rfl⟩,⟨CE m,rfl,by simp⟩,⟨[],by show G.las=_;simp,by simp⟩,by show G.las.length<=_;omega⟩;have bd:=Aa af;replace J:=Aa J;replace am:=Aa am;replace x:=Aa x;have a3:=Aa M;clear aC aB u R af M
    go_wp2_with fail
    refine(Iq rb 4 _).mono ?_;rintro e P ⟨rfl,rfl⟩
    go_wp2_with fail
    go_loopw [40] (λiv wr=>∃(j:Nat) (tr:Nat->RT) (r:RG),j<=n/\iv = .int .i64 j/\Hy w f base rb y lb G k.lm P.heap.size (CE m) (AT ps ts) j wr tr r) (λiv _=>n - (intOf iv).toNat)
    case atStart=>exact⟨0,_,_,Nat.zero_le _,rfl,aD.out⟩
    case round=>
     clear v c0 aD O Q;obtain⟨j,tr,r,hj,rfl,d⟩:=hrel;obtain⟨i,z,W⟩:=d.ins;have A:r.I P.heap.size=some i:=by rw[z,IL]
     have K:=d.rd;have Z:r.bods.getLast?=some a:=by rw[d.same.2.2.1];exact ha
     have ag:r.bods.length<1048576:=by rw[d.same.2.2.1];exact hb
     have T:r.B a=some k:=by rw[d.same.2.2.2.2.1];exact ap
     by_cases h5:j<n
     ·have ak:j<ts.length:=by have:=x.out;omega
      have aq:j<ps.length:=by have:=J.out;omega
      obtain⟨b,ba,rfl,_,cw,_⟩:=(aS.out.ext d.ext) j ak;have bh:(j:Int)<(n:Int):=by omega
      have hg:=Dj ps j (by omega);have H:=UA ak aq;have aj:=adE K Z ag T A (by have:=d.len;omega) (ps[j].toNat:Int) (ts.getD j []) (am.out j aq);rw[d.line] at aj;have D:=Aa (⟨d,H,A⟩:_/\_/\_);clear K z W A d Z ag T H;generalize ts.getD j []=t at *;generalize aE:ps[j]=c at *;replace aE:=Aa aE;unfold Ab at aj;clear ak
      go_wp2_with fail
      refine aj.mono ?_;rintro e w6 (⟨t6,G6,rfl,C,s,aN⟩|⟨t6,e6,rfl,s,aV⟩)
      ·go_wp2_with fail
       go_roundw
       case rel=>
        obtain⟨d,H,A⟩:=D.out
        exact⟨j+1,t6,G6,by omega,by go_num,d.next H A C s aN⟩
       case measure=>simp[intOf];omega
      ·obtain⟨d,H,A⟩:=D.out;obtain⟨q1,q2⟩:=d.adJ H aV;subst q2
       exact⟨rfl,.inr ⟨t6,5,rfl,d.ext.trans s,.inr ⟨ps,o.out,p.out,.inr ⟨aG,q1,rfl⟩⟩⟩⟩
     ·have aP:Hid (Ch G.N (CE m) (AT ps ts)=some i):=by
       rw[List.drop_of_length_le (by rw[OI J.out];have:=x.out;omega)] at W;exact W
      obtain⟨g,aT,w6,ab,c6,f6,aZ,C,s⟩:=K.code T (by omega) P.heap.size;have u:=K.bodies a k T;have c0:wr.cell? ⟨a,0,none⟩=some k.cv:=by simp[Xg,u.cell]
      rw[Y.out] at c0 ab c6;unfold Ab at ab;have D:=Aa (⟨d,C,s,z⟩:_/\_/\_/\_);have a8:=K.lt u.ta (by simp);have aW:j=n:=by omega
      subst aW;clear K C s z W A d Z ag T u
      go_wp2_with (at_builtin;refine Dm rfl _ _ _ rfl rfl rfl rfl ab ?_)
      go_end0
      obtain⟨d,C,s,z⟩:=D.out;obtain⟨cs,aA,aX⟩:=d.las;obtain⟨s1,s2,s3,s4,s5,s6⟩:=d.same;refine .inl ⟨aZ,_,rfl,C,d.ext.trans s,ps,o.out,p.out,aG,P.heap.size,i,cs,r.lV,.slice (some ⟨g,0,none⟩) (k.ins.length+1) aT,by have:=aO.out;have:=ad.out;omega,aP.out,?_,?_⟩
      ·rw[aX,XM (by rw[OI J.out];have:=x.out;omega)]
      ·have hl:=d.line
       cases r
       simp only at z aA s1 s2 s3 s4 s5 s6 hl;subst z aA s1 s2 s3 s4 s5 s6 hl
       rfl
   ·have aR:decide ((k.ins.length:Int)<24)=false:=decide_eq_false (by omega);replace M:=Aa M;clear u R af
    go_wp2_with fail
    refine(Gm 4 v).mono ?_;rintro e P ⟨rfl,rfl⟩
    exact⟨rfl,.inr ⟨f,4,rfl,M.out,.inr ⟨ps,o.out,p.out,.inl ⟨by omega,rfl⟩⟩⟩⟩
def BI (t:Tx):Bool:=decide (t.getLast?=some 58)
theorem aet {t:Tx} (h:1<=t.length):((bs (t.drop (t.length - 1))).toList == (bs [58]).toList)=BI t:=by
 rcases YX t with e|⟨l,x,e⟩
 ·subst e;simp at h
 ·rw[YY] at e;subst e;rw[AK,AK,BI];have a:(l++[x]).drop ((l++[x]).length - 1)=[x]:=by simp
  rw[a,List.getLast?_append]
  by_cases b:x=58<;>simp[b]
theorem acZ (t:Tx) (w:Xh) (g:t.length<4294967281):XX Tryz.prog 207 #[.string (bs t),.string (bs [58])] w λe w'=>e = .returned (.bool (BI t))/\w'=w:=by
 have d:(bs [58]).size=1:=Ba [58]
 by_cases a:1<=t.length
 ·obtain⟨n,f⟩:∃n,t.length=n+1:=⟨t.length - 1,by omega⟩;have b:=aet a;have k:(bs t).size=n+1:=by rw[Ba,f]
  have h:(bs t).extract n (n+1)=bs (t.drop (t.length - 1)):=by
   rw[GO,XM (by omega)];congr 2;omega
  generalize bs (t.drop (t.length - 1))=u at h b;generalize BI t=q at b |-;generalize bs t=bt at k h |-;generalize bs [58]=b58 at d b |-;have o:wrap64 (n:Int)=n:=IntWalk.wrap64_in _ (by omega);clear a g;have s:(1:Int)<=(n:Int)+1:=by omega
  have j:(n:Int)+1 - 1=n:=by omega
  have p:(n:Int)<=(n:Int)+1:=by omega
  clear f j
  go_enter Tryz.func207,Tryz.ntmps207
  go_wp2
  go_ret
  exact⟨rfl,rfl⟩
 ·have m:t=[]:=by cases t with
   |nil=>rfl
   |cons c r=>simp at a
  subst m;have i:bs []=ByteArray.empty:=rfl;have l:BI []=false:=rfl;rw[i,l];generalize bs [58]=b58 at d |-;clear a g
  go_enter Tryz.func207,Tryz.ntmps207
  go_wp2
  go_ret
  exact⟨rfl,rfl⟩
theorem aen (t:Tx) (w:Xh) (d:t.length<4294967281):XX Tryz.prog 179 #[.string (bs t),.string (bs [58])] w λe w'=>e = .returned (.tuple #[.string (bs (if BI t then t.dropLast else t)),.bool (BI t)])/\w'=w:=by
 have a:=acZ t w d;have j:(bs [58]).size=1:=Ba [58]
 cases b:BI t with
 |false=>
  rw[b] at a
  go_enter Tryz.func179,Tryz.ntmps179
  go_wp2_with fail
  refine a.mono ?_;rintro e w1 ⟨rfl,rfl⟩
  go_wp2_with fail
  go_ret2
  exact⟨rfl,rfl⟩
 |true=>
  rw[b] at a;have g:t≠[]:=by(intro e;subst e;simp[BI] at b)
  obtain⟨n,c⟩:∃n,t.length=n+1:=⟨t.length - 1,by have:=Zb.2 g;omega⟩;have i:(bs t).size=n+1:=by rw[Ba,c]
  have f:(bs t).extract 0 n=bs t.dropLast:=by
   rw[GO,List.dropLast_eq_take];congr 2;simp[c]
  simp only[if_true];generalize bs t.dropLast=u at f |-;generalize bs t=bt at i f a |-;generalize bs [58]=b58 at j a |-;have h:(n:Int)+1 - 1=n:=by omega
  have k:wrap64 (n:Int)=n:=IntWalk.wrap64_in _ (by omega);have l:(n:Int)<=(n:Int)+1:=by omega
  clear c g d b h
  go_enter Tryz.func179,Tryz.ntmps179
  go_wp2_with fail
  refine a.mono ?_;rintro e w1 ⟨rfl,rfl⟩
  go_wp2_with fail
  go_ret2
  exact⟨rfl,rfl⟩
theorem aep (t:Tx) (w:Xh) (b:t.length<4294967281):XX Tryz.prog 139 #[.string (bs t),.string (bs [58])] w λe w'=>e = .returned (.tuple #[.string (bs (if BI t then t.dropLast else t)),.bool (BI t)])/\w'=w:=by
 have a:=aen t w b;generalize bs (if BI t then t.dropLast else t)=u at a |-;generalize BI t=q at a |-
 go_enter Tryz.func139,Tryz.ntmps139
 go_wp2_with fail
 refine a.mono ?_;rintro e w1 ⟨rfl,rfl⟩
 go_wp2_with fail
 go_ret2
 exact⟨rfl,rfl⟩
def FX:Tx:=[116,104,114,101,97,100]
def Uh (n0 nb:Nat) (f:Tx) (ts:List Tx) (G G':RG):Prop:=
 (f=FX/\OG n0 ts G G')\/(f≠FX/\G.bods=[]/\KD (Di f) ts G G')\/
 (f≠FX/\∃a bc,G.bods.getLast?=some a/\G.B a=some bc/\((BI f=true/\ts=[]/\Aw f.dropLast=true/\bc.labs f.dropLast=none/\G'=G.mark a bc f.dropLast)\/(¬(BI f=true/\ts=[])/\OE n0 nb a bc f ts G G')))
def Ui (f:Tx) (ts:List Tx) (G:RG) (e:Int):Prop:=
 (f=FX/\Uy ts G e)\/(f≠FX/\G.bods=[]/\KE (Di f) ts G e)\/
 (f≠FX/\∃a bc,G.bods.getLast?=some a/\G.B a=some bc/\((BI f=true/\ts=[]/\((Aw f.dropLast=false/\e=2)\/(Aw f.dropLast=true/\(∃n,bc.labs f.dropLast=some n)/\e=3)))\/(¬(BI f=true/\ts=[])/\Ut bc f ts G e)))
theorem acY (t:Tx):Di t=0\/AU (Di t):=by
 unfold Di AU
 by_cases a:IB=t
 ·simp[a]
 ·by_cases b:IC=t
  ·simp[a,b]
  ·by_cases c:JL=t
   ·simp[a,b,c]
   ·simp[a,b,c]
theorem Vo {w:Xh} {F:Nat->RT} {base rb K lb:Nat} {G:RG} (h:Al w F base rb K lb G) (Q:G.bods=[]\/∃a s,G.bods.getLast?=some a/\G.B a=some s/\s.ins.length<=24) (f:Tx) (y:Option Addr) (n cap:Nat) (ts:List Tx) (t:ts.length=n) (u:CZ w F y ts)
 (V:f.length<4294967281) (x:∀k,(G.nms k).length+n<1048576) (r:G.bods.length<1048576) (z:G.las.length+n<1048576) :
 XX Tryz.prog 107 #[Ab rb,.string (bs f),.slice y n cap] w (Out w F base rb K lb G.line (Uh w.heap.size K f ts G) (Ui f ts G)):=by
 have i:=aep f w V;have S:((bs f).toList == [116,104,114,101,97,100])=decide (f=FX):=by
  rw[AK]
  by_cases e:f=FX
  ·subst e;rfl
  ·rw[decide_eq_false e];exact beq_eq_false_iff_ne.2 e
 by_cases d:f=FX
 ·have O:=aeO h y n cap ts t u (x 116) r;rw[decide_eq_true d] at S;replace d:=Aa d;generalize bs (if BI f then f.dropLast else f)=nm at i;generalize BI f=col at i;unfold Ab at O |-;clear h u x r z t Q
  go_enter Tryz.func107,Tryz.ntmps107
  go_wp2_with fail
  refine i.mono ?_;rintro e w1 ⟨rfl,rfl⟩
  go_wp2_with fail
  refine O.mono ?_;rintro e E (⟨c,p,rfl,o,b,q⟩|⟨c,l,rfl,b,m⟩)
  ·go_wp2_with fail
   go_end0
   exact .inl ⟨c,p,rfl,o,b,.inl ⟨d.out,q⟩⟩
  ·exact⟨rfl,.inr ⟨c,l,rfl,b,.inl ⟨d.out,m⟩⟩⟩
 ·rw[decide_eq_false d] at S;replace d:=Aa d;have H:=h.Kr;obtain⟨W,T,A⟩:=JU h.brow;rw[List.length_map] at A;rw[A] at H
  rcases Q with D|⟨a,s,g,j,Y⟩
  ·have U:=acU f w h.heads;have N:Hid (∀w1,Below w.heap.size w w1->XX Tryz.prog 141 #[Ab rb,.int .u8 (Di f),.slice y n cap] w1 (Out w F base rb K lb G.line (KD (Di f) ts G) (KE (Di f) ts G))):=λw1 I=>by
    refine(Tz (h.below I) (Di f) (acY f) y n cap ts t (u.ext (.CH I)) (x _)).mono ?_;rintro e E (⟨c,p,rfl,o,b,q⟩|⟨c,l,rfl,b,m⟩)
    ·exact .inl ⟨c,p,rfl,o,(Ah.CH I).trans b,q⟩
    ·exact .inr ⟨c,l,rfl,(Ah.CH I).trans b,m⟩
   rw[D] at H;have H:w.cell? ⟨rb,6,none⟩=some (.slice W 0 T):=H;generalize bs (if BI f then f.dropLast else f)=nm at i;generalize BI f=col at i;unfold Ab at N |-;replace D:=Aa D;replace A:=Aa A;clear h u x r z t
   go_enter Tryz.func107,Tryz.ntmps107
   go_wp2_with fail
   refine i.mono ?_;rintro e w1 ⟨rfl,rfl⟩
   go_wp2_with fail
   refine U.mono ?_;rintro e X ⟨rfl,r⟩;have hD:=N.out X r;clear N
   go_wp2_with fail
   refine hD.mono ?_;rintro e E (⟨c,p,rfl,o,b,q⟩|⟨c,l,rfl,b,m⟩)
   ·go_wp2_with fail
    go_end0
    exact .inl ⟨c,p,rfl,o,b,.inr (.inl ⟨d.out,D.out,q⟩)⟩
   ·exact⟨rfl,.inr ⟨c,l,rfl,b,.inr (.inl ⟨d.out,D.out,m⟩)⟩⟩
  ·have ab:((G.bods.length:Int) == 0)=false:=by
    have:G.bods≠[]:=λe=>by rw[e] at g;cases g
    have:=Zb.2 this
    simp;intro e;rw[e] at this;simp at this
   replace A:=Aa A
   by_cases C:BI f=true/\n=0
   ·obtain⟨m1,Z⟩:=C;have P:=abG h g (by omega) j f.dropLast;rw[m1] at i;simp only[if_true] at i;have R:Hid (ts=[]):=List.eq_nil_of_length_eq_zero (by omega);subst Z;replace m1:=Aa m1;replace g:=Aa g;replace j:=Aa j;unfold Ab at P |-;clear h u x r z t
    go_enter Tryz.func107,Tryz.ntmps107
    go_wp2_with fail
    refine i.mono ?_;rintro e w1 ⟨rfl,rfl⟩
    go_wp2_with fail
    refine P.mono ?_;rintro e E (⟨c,p,rfl,o,b,q⟩|⟨c,l,rfl,b,m⟩)
    ·go_wp2_with fail
     go_end0
     exact .inl ⟨c,p,rfl,o,b,.inr (.inr ⟨d.out,a,s,g.out,j.out,.inl ⟨m1.out,R.out,q⟩⟩)⟩
    ·exact⟨rfl,.inr ⟨c,l,rfl,b,.inr (.inr ⟨d.out,a,s,g.out,j.out,.inl ⟨m1.out,R.out,m⟩⟩)⟩⟩
   ·have M:=acy h g r j f y n cap ts t u z Y;have J:Hid (¬(BI f=true/\ts=[])):=λe=>C ⟨e.1,by rw[<-t,e.2];rfl⟩;replace g:=Aa g;replace j:=Aa j;unfold Ab at M |-;generalize bs (if BI f then f.dropLast else f)=nm at i
    cases v:BI f with
    |false=>
     rw[v] at i;replace v:=Aa v;clear h u x r z t C
     go_enter Tryz.func107,Tryz.ntmps107
     go_wp2_with fail
     refine i.mono ?_;rintro e w1 ⟨rfl,rfl⟩
     go_wp2_with fail
     refine M.mono ?_;rintro e E (⟨c,p,rfl,o,b,q⟩|⟨c,l,rfl,b,m⟩)
     ·go_wp2_with fail
      go_end0
      exact .inl ⟨c,p,rfl,o,b,.inr (.inr ⟨d.out,a,s,g.out,j.out,.inr ⟨J.out,q⟩⟩)⟩
     ·exact⟨rfl,.inr ⟨c,l,rfl,b,.inr (.inr ⟨d.out,a,s,g.out,j.out,.inr ⟨J.out,m⟩⟩)⟩⟩
    |true=>
     rw[v] at i;have ac:((n:Int) == 0)=false:=by
      have:¬(n=0):=λe=>C ⟨v,e⟩
      simp;omega
     replace v:=Aa v;clear h u x r z t C
     go_enter Tryz.func107,Tryz.ntmps107
     go_wp2_with fail
     refine i.mono ?_;rintro e w1 ⟨rfl,rfl⟩
     go_wp2_with fail
     refine M.mono ?_;rintro e E (⟨c,p,rfl,o,b,q⟩|⟨c,l,rfl,b,m⟩)
     ·go_wp2_with fail
      go_end0
      exact .inl ⟨c,p,rfl,o,b,.inr (.inr ⟨d.out,a,s,g.out,j.out,.inr ⟨J.out,q⟩⟩)⟩
     ·exact⟨rfl,.inr ⟨c,l,rfl,b,.inr (.inr ⟨d.out,a,s,g.out,j.out,.inr ⟨J.out,m⟩⟩)⟩⟩
def Rs (r:Result Unit) (W:Xh):Xh:=match r with
 |.ok _ w'=>w'
 |_=>W
noncomputable def Mv (b rb:Nat) (p:Int×Nat) (W:Xh):Xh:=Rs ((YA 142 (.map (some b)) (.int .u8 p.1) (.pointer (some ⟨rb,p.2,none⟩))).run Tryz.prog W) W
noncomputable def updM (b rb:Nat) (W0:Xh) (L:List (Int×Nat)):Xh:=L.foldr (Mv b rb) W0
theorem OW (b rb:Nat) (a:Xh) (p:Int×Nat) (L:List (Int×Nat)) {w':Xh} (h:(YA 142 (.map (some b)) (.int .u8 p.1) (.pointer (some ⟨rb,p.2,none⟩))).run Tryz.prog (updM b rb a L) = .ok () w'):updM b rb a (p::L)=w':=by
 have e:updM b rb a (p::L)=Mv b rb p (updM b rb a L):=List.foldr_cons ..;rw[e,Mv,h,Rs]
theorem OV (b rb:Nat) (a:Xh):updM b rb a []=a:=List.foldr_nil
attribute [irreducible] updM
def JJ (rb:Nat):List (Int×Nat)->Int->Option Value
 |[]=>λ_=>none
 |p::L=>Bz (JJ rb L) p.1 (.pointer (some ⟨rb,p.2,none⟩))
theorem OU {b rb:Nat} {a:Xh} (h:AB uk a b (λ_=>none) 0) (L:List (Int×Nat)):(∃n,AB uk (updM b rb a L) b (JJ rb L) n)/\(updM b rb a L).heap.size=a.heap.size/\(updM b rb a L).os=a.os/\(updM b rb a L).tape=a.tape/\(updM b rb a L).output=a.output/\(∀x,x≠b->(updM b rb a L).heap[x]?=a.heap[x]?):=by
 induction L with
 |nil=>rw[OV];exact⟨⟨0,h⟩,rfl,rfl,rfl,rfl,λ_ _=>rfl⟩
 |cons p L j=>
  obtain⟨⟨n,m⟩,s,q,l,o,f⟩:=j;obtain⟨w',k,i,c,r⟩:=m.put Tryz.u8Key Tryz.underlying142 p.1 (.pointer (some ⟨rb,p.2,none⟩));have e:updM b rb a (p::L)=w':=OW b rb a p L k;rw[e];refine⟨⟨_,i⟩,by omega,c.os.trans q,c.tape.trans l,c.output.trans o,λx d=>?_⟩
  by_cases g:x<(updM b rb a L).heap.size
  ·exact(c.block x g (by simpa using d)).trans (f x d)
  ·rw[<-f x d,YU (by omega),YU (by omega)]
theorem UQ {b rb:Nat} {a:Xh} (h:AB uk a b (λ_=>none) 0) (L:List (Int×Nat)) (k:Int) (o:Nat):(YA 142 (.map (some b)) (.int .u8 k) (.pointer (some ⟨rb,o,none⟩))).run Tryz.prog (updM b rb a L) = .ok () (updM b rb a ((k,o)::L)):=by
 obtain⟨⟨n,f⟩,_⟩:=OU (rb:=rb) h L;obtain⟨w',d,g,j,i⟩:=f.put Tryz.u8Key Tryz.underlying142 k (.pointer (some ⟨rb,o,none⟩));have c:(YA 142 (.map (some b)) (.int .u8 k) (.pointer (some ⟨rb,o,none⟩))).run Tryz.prog (updM b rb a L) = .ok () w':=d;have e:updM b rb a ((k,o)::L)=w':=OW b rb a (k,o) L c;rw[e];exact c
def RG.new:RG:=⟨0,λ_=>[],λ_=>.slice none 0 0,[],.slice none 0 0,λ_=>none,λ_=>none,λ_=>none,[],.slice none 0 0⟩
theorem abh {w w':Xh} (r:GX w) (u:GU w) (l:2<w.heap.size) (m:3<w.heap.size) (z:w'.os=w.os) (v:w'.tape=w.tape) (y:w'.output=w.output) (A:w'.heap.size=w.heap.size+3) (f:∀b,b<w.heap.size->w'.heap[b]?=w.heap[b]?)
 (s:AB sk w' w.heap.size (λ_=>none) 0) (p:w'.heap[w.heap.size+1]?=some (.cells #[.int .i64 0,.slice none 0 0,.slice none 0 0,.slice none 0 0,.slice none 0 0,.slice none 0 0,.slice none 0 0,.map (some w.heap.size),.map (some (w.heap.size+1+1)),.slice none 0 0] 145))
 (q:∃n,AB uk w' (w.heap.size+1+1) (GE (w.heap.size+1)) n):∃j,Al w' j w.heap.size (w.heap.size+1) w.heap.size (w.heap.size+1+1) RG.new/\Ah w (λ_=>.o) w' j:=by
 refine⟨CO (CO (CO (λ_=>.o) w.heap.size .nm) (w.heap.size+1) .rd) (w.heap.size+1+1) .li,⟨p,λk f=>⟨XG _ _ _ _,λg e=>by cases e⟩,⟨XG _ _ _ _,λg e=>by cases e⟩,⟨XG _ _ _ _,λg e=>by cases e⟩,⟨_,_,s,λt=>rfl⟩,q,(λa c h=>by cases h),(λa i x=>by cases x),(λc h=>by cases h),?_,?_,?_,λb d=>?_,r.kept (f _ l),u.kept (f _ m),l,m,by omega⟩,⟨z,v,y,by omega,λb d=>?_,λb d _=>f b d⟩⟩
 ·rw[Da _ (by omega),FV]
 ·rw[Da _ (by omega),Da _ (by omega),FV]
 ·rw[FV]
 ·unfold CO at d
  split at d
  ·omega
  ·split at d
   ·omega
   ·split at d
    ·omega
    ·exact absurd rfl d
 ·rw[Da _ (by omega),Da _ (by omega),Da _ (by omega)]
theorem JI {rb:Nat} {k:Int} {o:Nat}:∀{L:List (Int×Nat)},(L.map Prod.fst).Nodup->(k,o)∈L->JJ rb L k=some (.pointer (some ⟨rb,o,none⟩))
 |[],_,hm=>by cases hm
 |p::L,hn,hm=>by
  simp only[List.map_cons,List.nodup_cons] at hn
  rcases List.mem_cons.1 hm with e|e
  ·subst e;exact Lg _ _ _
  ·have b:k≠p.1:=λa=>hn.1 (List.mem_map.2 ⟨(k,o),e,a⟩)
   exact(CU _ b).trans (JI hn.2 e)
theorem OX {rb:Nat} {k:Int}:∀{L:List (Int×Nat)},(∀p,p∈L->p.1≠k)->JJ rb L k=none
 |[],_=>rfl
 |p::L,h=>(CU _ (λe=>h p (by simp) e.symm)).trans (OX λq a=>h q (by simp[a]))
theorem abY {rb:Nat} {L:List (Int×Nat)} (h:L.Perm [(118,1),(102,2),(109,3),(116,5)]):JJ rb L=GE rb:=by
 have b:(L.map Prod.fst).Nodup:=(h.map Prod.fst).nodup_iff.2 (by decide);have a:∀p,p∈L↔p∈[((118:Int),1),(102,2),(109,3),(116,5)]:=λp=>h.mem_iff
 funext k
 by_cases f:k=118
 ·subst f;rw[JI b ((a (118,1)).2 (by simp))];simp[GE,Cw]
 ·by_cases g:k=102
  ·subst g;rw[JI b ((a (102,2)).2 (by simp))];simp[GE,Cw]
  ·by_cases d:k=109
   ·subst d;rw[JI b ((a (109,3)).2 (by simp))];simp[GE,Cw]
   ·by_cases c:k=116
    ·subst c;rw[JI b ((a (116,5)).2 (by simp))];simp[GE,Cw]
    ·rw[OX]
     ·simp[GE,f,g,d,c]
     ·intro p i;have:=(a p).1 i
      simp at this
      rcases this with rfl|rfl|rfl|rfl
      ·exact λe=>f e.symm
      ·exact λe=>g e.symm
      ·exact λe=>d e.symm
      ·exact λe=>c e.symm
theorem abm (w:Xh) (l:GX w) (m:GU w) (i:2<w.heap.size) (r:3<w.heap.size) :
 XX Tryz.prog 47 #[] w λF w'=>F = .returned (Ab (w.heap.size+1))/\∃d,Al w' d w.heap.size (w.heap.size+1) w.heap.size (w.heap.size+1+1) RG.new/\Ah w (λ_=>.o) w' d:=by
 have J:=@run_makeMap Tryz.prog;obtain⟨a,c⟩:∃a,(((w.alloc (.map #[] 0)).alloc (.cells #[.int .i64 0,.slice none 0 0,.slice none 0 0,.slice none 0 0,.slice none 0 0,.slice none 0 0,.slice none 0 0,.map (some w.heap.size),.map none,.slice none 0 0] 145)).alloc (.map #[] 0)).drew=a:=⟨_,rfl⟩;have B:a.heap.size=w.heap.size+3:=by rw[<-c];simp
 have h:AB uk a (w.heap.size+1+1) (λ_=>none) 0:=by
  have:=AB.made (enc:=uk) ((w.alloc (.map #[] 0)).alloc (.cells #[.int .i64 0,.slice none 0 0,.slice none 0 0,.slice none 0 0,.slice none 0 0,.slice none 0 0,.slice none 0 0,.map (some w.heap.size),.map none,.slice none 0 0] 145));rw[Yr,Yr] at this;rw[<-c];exact this
 have f:=λL=>OU (rb:=w.heap.size+1) h L;have g:a.heap[w.heap.size+1]?=some (.cells #[.int .i64 0,.slice none 0 0,.slice none 0 0,.slice none 0 0,.slice none 0 0,.slice none 0 0,.slice none 0 0,.map (some w.heap.size),.map none,.slice none 0 0] 145):=by
  have:=World.alloc_heap_new (w.alloc (.map #[] 0)) (.cells #[.int .i64 0,.slice none 0 0,.slice none 0 0,.slice none 0 0,.slice none 0 0,.slice none 0 0,.slice none 0 0,.map (some w.heap.size),.map none,.slice none 0 0] 145);rw[Yr] at this;rw[<-c]
  exact(Xv _ _ _ (by simp)).trans this
 have v:∀L k o,(YA 142 (.map (some (w.heap.size+1+1))) (.int .u8 k) (.pointer (some ⟨w.heap.size+1,o,none⟩))).run Tryz.prog (updM (w.heap.size+1+1) (w.heap.size+1) a L) = .ok () (updM (w.heap.size+1+1) (w.heap.size+1) a ((k,o)::L)):=λL k o=>UQ h L k o;have K:∀k o,(YA 142 (.map (some (w.heap.size+1+1))) (.int .u8 k) (.pointer (some ⟨w.heap.size+1,o,none⟩))).run Tryz.prog ((((w.alloc (.map #[] 0)).alloc (.cells #[.int .i64 0,.slice none 0 0,.slice none 0 0,.slice none 0 0,.slice none 0 0,.slice none 0 0,.slice none 0 0,.map (some w.heap.size),.map none,.slice none 0 0] 145)).alloc (.map #[] 0)).drew) = .ok () (updM (w.heap.size+1+1) (w.heap.size+1) a [(k,o)]):=λk o=>by have e:=v [] k o;rw[OV] at e;rw[c];exact e
 have I:∀L,(updM (w.heap.size+1+1) (w.heap.size+1) a L).cell? ⟨w.heap.size+1,8,none⟩=some (.map none):=λL=>by
  have:=(f L).2.2.2.2.2 (w.heap.size+1) (by omega);simp[Xg,this,g]
 have H:∀L,(updM (w.heap.size+1+1) (w.heap.size+1) a L).frozen? ⟨w.heap.size+1,8,none⟩=false:=λL=>by
  have:=(f L).2.2.2.2.2 (w.heap.size+1) (by omega);simp[XP,this,g]
 have D:Hid (∀L:List (Int×Nat),L.Perm [(118,1),(102,2),(109,3),(116,5)]->∃d,Al ((updM (w.heap.size+1+1) (w.heap.size+1) a L).setCell ⟨w.heap.size+1,8,none⟩ (.map (some (w.heap.size+1+1)))) d w.heap.size (w.heap.size+1) w.heap.size (w.heap.size+1+1) RG.new/\Ah w (λ_=>.o) ((updM (w.heap.size+1+1) (w.heap.size+1) a L).setCell ⟨w.heap.size+1,8,none⟩ (.map (some (w.heap.size+1+1)))) d):=λL s=>by
  obtain⟨⟨n,z⟩,M,t,C,A,q⟩:=f L;have j:∀x,x≠w.heap.size+1->x≠w.heap.size+1+1->((updM (w.heap.size+1+1) (w.heap.size+1) a L).setCell ⟨w.heap.size+1,8,none⟩ (.map (some (w.heap.size+1+1)))).heap[x]?=a.heap[x]?:=λx E y=>(Xo _ ⟨w.heap.size+1,8,none⟩ _ x E).trans (q x y);have p:∀x,x<w.heap.size+1->a.heap[x]?=(w.alloc (.map #[] 0)).heap[x]?:=λx G=>by
   rw[<-c]
   exact(Xv _ _ _ (by simp;omega)).trans (Xv _ _ _ (by simp;omega))
  refine abh l m i r (t.trans (by rw[<-c];rfl)) (C.trans (by rw[<-c];rfl)) (A.trans (by rw[<-c];rfl)) (by simp;omega) (λb u=>?_) ?_ ?_ ⟨n,?_⟩
  ·rw[j b (by omega) (by omega),p b (by omega)];exact Xv w _ b u
  ·exact(AB.made (enc:=sk) w).same (by rw[j _ (by omega) (by omega),p _ (by omega)])
  ·rw[Xj _ _ 8 _ _ _ ((q _ (by omega)).trans g)];rfl
  ·rw[<-abY s];exact z.same (Xo _ ⟨w.heap.size+1,8,none⟩ _ _ (by show w.heap.size+1+1≠w.heap.size+1;omega))
 replace c:=Aa c;unfold Ab;clear h f g B l m i r
 go_enter Tryz.func47,Tryz.ntmps47
 go_wp2_with fail
 go_region
 all_goals
  go_wp2_with fail
  go_ret
  exact⟨rfl,D.out _ (by decide)⟩
structure PI where
 i:Ad
 line:Int
 off:List (Int×Tx)
structure PB where
 code:List PI
 labs:Tx->Option Nat
structure PS where
 N:Tx->Option (Int×Nat)
 nms:Int->List Tx
 bod:List PB
def PS.new:PS:=⟨λ_=>none,λ_=>[],[]⟩
def Ci (kd:Int) (ts:List Tx) (s:PS):Except Int PS:=
 if kd=0\/ts=[]\/ts.all Aw=false then .error 2 else match BF kd s.N (s.nms kd) ts with
  |none=>.error 3
  |some p=>if 4<p.2.length then .error 4 else .ok {s with N:=p.1,nms:=AY s.nms kd p.2}
def Id (s:PS) (b:PB):PS:={s with bod:=s.bod.dropLast++[b]}
def ER (l:List (Int×Tx)):List (Int×Tx):=l.filter λp=>p.1 == 116||p.1 == 108
def ES (line:Int) (f:Tx) (ts:List Tx) (s:PS) (b:PB):Except Int PS:=match Df f with
 |none=>.error 2
 |some ps=>if Bk ts ps=false then .error 2 else if 24<=b.code.length then .error 4 else match Ch s.N (CE f) (AT ps ts) with
  |none=>.error 5
  |some i=>.ok (Id s {b with code:=b.code++[⟨i,line,ER (AT ps ts)⟩]})
def Ge (f:Tx) (s:PS) (b:PB):Except Int PS:=if Aw f.dropLast=false then .error 2 else match b.labs f.dropLast with
 |some _=>.error 3
 |none=>.ok (Id s {b with labs:=Be b.labs f.dropLast b.code.length})
def JA (s:PS):PS:={s with bod:=s.bod++[⟨[],λ_=>none⟩]}
def stepT (line:Int) (f:Tx) (ts:List Tx) (s:PS):Except Int PS:=
 if f=FX then(if ts.length=1 then(Ci 116 ts s).map JA else .error 2)
 else match s.bod.getLast? with
  |none=>Ci (Di f) ts s
  |some b=>if BI f=true/\ts=[] then Ge f s b else ES line f ts s b
structure LB where
 a:Nat
 c:EW
 pb:PB
def DP (nb:Nat) (x:LB):List (Nat×Nat×Int×Tx×Int):=(x.c.ins.zip x.pb.code).flatMap λp=>p.2.off.map λq=>(p.1,(if q.1=116 then nb else x.c.lm),q.1,q.2,p.2.line)
structure Mk (G:RG) (x:LB):Prop where
 b:G.B x.a=some x.c
 labs:x.c.labs=x.pb.labs
 len:x.c.ins.length=x.pb.code.length
 ins:∀(k ia:Nat) (p:PI),x.c.ins[k]?=some ia->x.pb.code[k]?=some p->G.I ia=some p.i
 small:x.pb.code.length<=24
structure CN (G:RG) (nb:Nat) (s:PS) (X:List LB):Prop where
 N:G.N=s.N
 nms:G.nms=s.nms
 bods:G.bods=X.map LB.a
 bod:s.bod=X.map LB.pb
 each:∀x,x∈X->Mk G x
 keys:G.las.map Cc.key=X.flatMap (DP nb)
 nda:(X.map LB.a).Nodup
 ndi:(X.flatMap λx=>x.c.ins).Nodup
structure Me (s:PS):Prop where
 thr:(s.nms 116).length=s.bod.length
 few:∀k,(s.nms k).length<=4
def Mf (G:RG) (n0:Nat):Prop:=(∀a c,G.B a=some c->a<n0)/\(∀ia i,G.I ia=some i->ia<n0)
theorem CN.new (b:Nat):CN RG.new b PS.new []:=⟨rfl,rfl,rfl,rfl,(λx a=>by cases a),rfl,by simp,by simp⟩
section
variable {G G':RG} {nb n0:Nat} {s:PS} {X:List LB}
theorem TF {kd:Int} {ts:List Tx} (r:KD kd ts G G') (h:CN G nb s X):∃s',Ci kd ts s = .ok s'/\CN G' nb s' X/\s'.bod=s.bod/\(∀k,(s.nms k).length<=4->(s'.nms k).length<=4)/\s'.nms kd=s.nms kd++ts/\(∀k,k≠kd->s'.nms k=s.nms k)/\G'.las=G.las/\G'.line=G.line:=by
 obtain⟨o,y,p,a,i,u,f,g,A,v,q,c,z⟩:=r;rw[h.N,h.nms] at a;have m:=LO a;refine⟨{s with N:=G'.N,nms:=AY s.nms kd (G'.nms kd)},?_,⟨rfl,?_,by rw[g];exact h.bods,h.bod,λx l=>?_,by rw[c];exact h.keys,h.nda,h.ndi⟩,rfl,λk b=>?_,?_,λk b=>CB _ b,c,f⟩
 ·unfold Ci;rw[if_neg (by simp[o,y,p]),a];show (if 4<(G'.nms kd).length then _ else _)=_;rw[if_neg (by omega)]
 ·funext k
  by_cases e:k=kd
  ·subst e;exact(Cm _ _ _).symm
  ·show G'.nms k=AY s.nms kd (G'.nms kd) k;rw[CB _ e,u k e,h.nms]
 ·obtain⟨d,t,n,w,j⟩:=h.each x l
  exact⟨by rw[v];exact d,t,n,by rw[q];exact w,j⟩
 ·show (AY s.nms kd (G'.nms kd) k).length<=4
  by_cases e:k=kd
  ·subst e;rw[Cm];exact i
  ·rw[CB _ e];exact b
 ·show AY s.nms kd (G'.nms kd) kd=_;rw[Cm];exact m
theorem TG {kd:Int} {ts:List Tx} {e:Int} (c:KE kd ts G e) (h:CN G nb s X):Ci kd ts s = .error e:=by
 unfold Ci
 rcases c with⟨b,rfl⟩|⟨⟨b,g,f⟩,a⟩
 ·rw[if_pos b]
 ·rw[if_neg (by simp[b,g,f])];rw[h.N,h.nms] at a
  rcases a with⟨a,rfl⟩|⟨⟨p,a,d⟩,rfl⟩
  ·rw[a]
  ·rw[a];show (if 4<p.2.length then _ else _)=_;rw[if_pos d]
theorem Nu (h:CN G nb s X) {a:Nat} (c:G.bods.getLast?=some a):∃b x,X=b++[x]/\x.a=a/\s.bod.getLast?=some x.pb/\s.bod.dropLast=b.map LB.pb:=by
 rw[h.bods] at c
 rcases YX X with e|⟨b,x,e⟩
 ·rw[e] at c;cases c
 ·rw[YY] at e;subst e;refine⟨b,x,rfl,?_,?_,?_⟩
  ·simpa using c
  ·rw[h.bod];simp
  ·rw[h.bod];simp
theorem Jj {α:Type} {f:Nat->Option α} {a b:Nat} (v:α) (h:b≠a):BY f a v b=f b:=by simp[BY,h]
end
end Go.Proofs.YtdcacoifehkioaaGreatDoor
