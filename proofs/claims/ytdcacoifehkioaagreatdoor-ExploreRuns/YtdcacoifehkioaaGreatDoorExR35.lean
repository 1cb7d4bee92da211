import Derived.Test.YtdcacoifehkioaaGreatDoorExR20
import Derived.Test.YtdcacoifehkioaaGreatDoorExR19
import Derived.Test.YtdcacoifehkioaaGreatDoorExR32
import Derived.Test.YtdcacoifehkioaaGreatDoorExR34
import Derived.Test.YtdcacoifehkioaaGreatDoorExR31
import Derived.Test.YtdcacoifehkioaaGreatDoorExR17
import Derived.Deep.Cut
import Derived.Deep.DeepCutAuto
open List renaming nil_append->Yw,cons_append->Yp,mem_cons->XL,mem_cons_of_mem->Yk,append_assoc->Xx,append_cancel_left->ade,getD_eq_getElem?_getD->Xb,getElem?_eq_getElem->Xc,getElem?_eq_none->XO,append_nil->Yf,mem_map->Yg,getElem?_eq_some_iff->Xe,flatMap_append->XZ,flatMap_cons->XP,take_add_one->YY,length_append->Xd,any_eq_true->YE,getElem?_append_right->XI,getElem?_append_left->Xv,length_take->X2,take_of_length_le->XY
open Go.Lib renaming itoa->Yy,join->YP
open Nat renaming not_lt_zero->adc,le_refl->Xf,zero_le->XD,sub_lt_sub_left->Xs,lt_succ_self->Xt,sub_self->YO
open Int renaming toNat_natCast->Yu,toNat_of_nonneg->Y9
open Array renaming getElem?_eq_some_iff->Xa
open Option.some renaming inj->Yb
set_option maxRecDepth 100000
set_option maxHeartbeats 4000000
set_option linter.unusedVariables false
set_option linter.unusedSimpArgs false
namespace Go.Proofs.YtdcacoifehkioaaGreatDoor
open Go.RowKit Go.Shelf Go.Proofs.Cod
theorem Hx (c:UInt8):∀{a b r r':Tx},c∉a->c∉b->a++c::r=b++c::r'->a=b/\r=r'
 |[],[],_,_,_,_,h=>by
  rw[Yw,Yw] at h;injection h with _ h
  exact⟨rfl,h⟩
 |[],x::b,_,_,_,h',h=>by
  rw[Yw,Yp] at h;injection h with h _
  exact absurd (XL.2 (.inl h)) h'
 |x::a,[],_,_,h',_,h=>by
  rw[Yw,Yp] at h;injection h with h _
  exact absurd (XL.2 (.inl h.symm)) h'
 |x::a,y::b,r,r',h1,h2,h=>by
  rw[Yp,Yp] at h;injection h with e h
  obtain⟨f,d⟩:=Hx c (λq=>h1 (Yk _ q)) (λq=>h2 (Yk _ q)) h
  exact⟨by rw[e,f],d⟩
def Nr (s:Tx):Nat:=s.foldl (λn c=>n*10+(c.toNat - 48)) 0
theorem Nq:∀n:Int,0<=n->n<1000->(Nr (Yy n):Int)=n:=by
 intro n b a;have key:∀k:Fin 1000,Nr (Yy (k.val:Int))=k.val:=by decide +kernel
 obtain⟨k,rfl⟩:∃k:Nat,n=k:=⟨n.toNat,by omega⟩;rw[key ⟨k,by omega⟩]
theorem Hs {a b:Int} (d:0<=a/\a<1000) (c:0<=b/\b<1000) (h:Yy a=Yy b):a=b:=by
 rw[<-Nq a d.1 d.2,<-Nq b c.1 c.2,h]
theorem GJ:∀n:Int,0<=n->n<1000->(32:UInt8)∉Yy n:=by
 intro n b a;have key:∀k:Fin 1000,(32:UInt8)∉Yy (k.val:Int):=by decide +kernel
 obtain⟨k,rfl⟩:∃k:Nat,n=k:=⟨n.toNat,by omega⟩;exact key ⟨k,by omega⟩
theorem Kc {T:Int->Tx} {b:List Tx} {l c:List Int} (g:∀k,(10:UInt8)∉T (l.getD k 0)) (d:∀k,(10:UInt8)∉T (c.getD k 0)):∀(n:Nat) {r r':Tx},BY T b l n++r=BY T b c n++r'->(∀k,k<n->T (l.getD k 0)=T (c.getD k 0))/\r=r'
 |0,r,r',h=>⟨(λk f=>absurd f (adc k)),h⟩
 |n+1,r,r',h=>by
  rw[Jb,Jb,Xx,Xx] at h;obtain⟨j,a⟩:=Kc g d n h;unfold Hq at a;have a:b.getD n []++([61]++(T (l.getD n 0)++10::r))=b.getD n []++([61]++(T (c.getD n 0)++10::r')):=by simpa [Xx] using a
  have i:=ade (ade a);obtain⟨o,m⟩:=Hx 10 (g n) (d n) i;refine⟨λk f=>?_,m⟩
  by_cases e:k=n
  ·rw[e];exact o
  ·exact j k (by omega)
theorem Hm (l:List Int):Cw l 4=32::(Yy (l.getD 0 0)++32::(Yy (l.getD 1 0)++32::(Yy (l.getD 2 0)++32::Yy (l.getD 3 0)))):=by
 unfold Cw;show List.flatMap _ [0,1,2,3]=_
 simp
theorem Uv {l g:List Int} (t:l.length=4) (o:g.length=4) (e:∀k,0<=l.getD k 0/\l.getD k 0<1000) (f:∀k,0<=g.getD k 0/\g.getD k 0<1000) (h:Cw l 4=Cw g 4):l=g:=by
 rw[Hm,Hm] at h;injection h with _ h
 obtain⟨p,h⟩:=Hx 32 (GJ _ (e 0).1 (e 0).2) (GJ _ (f 0).1 (f 0).2) h;obtain⟨q,h⟩:=Hx 32 (GJ _ (e 1).1 (e 1).2) (GJ _ (f 1).1 (f 1).2) h;obtain⟨s,r⟩:=Hx 32 (GJ _ (e 2).1 (e 2).2) (GJ _ (f 2).1 (f 2).2) h;have m:=Hs (e 0) (f 0) p;have i:=Hs (e 1) (f 1) q;have j:=Hs (e 2) (f 2) s;have n:=Hs (e 3) (f 3) r
 match l,g,t,o with
 |[a,b,c,d],[a',b',c',d'],_,_=>
  have m:a=a':=m;have i:b=b':=i;have j:c=c':=j;have n:d=d':=n;rw[m,i,j,n]
theorem Uu {l:List Int} (a:∀k,0<=l.getD k 0/\l.getD k 0<1000):(10:UInt8)∉Cw l 4:=by
 rw[Hm];have q:=λk=>GK _ (a k).1 (a k).2;have b:=q 0;have e:=q 1;have d:=q 2;have c:=q 3;simp only[Xb] at b e d c;simp[b,e,d,c]
def DI (th:TS):Tx:=Et th++(if th.ph=0 then [] else Cw th.regs 4)
theorem NC (nm:Tx) (th:TS) (r:Tx):Du nm th++r=nm++(32::(DI th++10::r)):=by
 unfold Du DI;simp[Xx]
structure IC (th:TS):Prop where
 ph:0<=th.ph/\th.ph<=3
 pc:th.pc<1000
 rl:th.regs.length=4
 rv:∀k,0<=th.regs.getD k 0/\th.regs.getD k 0<1000
theorem Hz {th:TS} (h:th.ph=0):DI th=[110,101,119]:=by
 unfold DI Et;rw[h];rfl
theorem Gp {th:TS} (h:th.ph=1):DI th=97::116::32::(Yy th.pc++Cw th.regs 4):=by
 unfold DI Et;rw[h]
 simp
theorem Gn {th:TS} (h:th.ph=2):DI th=101::110::100::101::100::Cw th.regs 4:=by
 unfold DI Et;rw[h]
 simp
theorem Gm {th:TS} (h:th.ph=3):DI th=102::97::105::108::101::100::Cw th.regs 4:=by
 unfold DI Et;rw[h]
 simp
theorem RH {th:TS} (h:IC th):(10:UInt8)∉DI th:=by
 have a:=Uu h.rv;have b:=GK th.pc (by omega) (by have:=h.pc;omega);have:th.ph=0\/th.ph=1\/th.ph=2\/th.ph=3:=by have:=h.ph;omega
 rcases this with e|e|e|e
 ·rw[Hz e];decide
 ·rw[Gp e];simp[a,b]
 ·rw[Gn e];simp[a]
 ·rw[Gm e];simp[a]
theorem aci {a b:TS} (d:IC a) (f:IC b) (h:DI a=DI b):a.ph=b.ph/\(a.ph≠0->a.regs=b.regs)/\(a.ph=1->a.pc=b.pc):=by
 have j:a.ph=0\/a.ph=1\/a.ph=2\/a.ph=3:=by have:=d.ph;omega
 have k:b.ph=0\/b.ph=1\/b.ph=2\/b.ph=3:=by have:=f.ph;omega
 have g:Cw a.regs 4=Cw b.regs 4->a.regs=b.regs:=Uv d.rl f.rl d.rv f.rv
 rcases j with e|e|e|e<;>rcases k with c|c|c|c
 ·exact⟨by omega,(λq=>absurd e q),(λq=>by omega)⟩
 ·rw[Hz e,Gp c] at h;injection h with h _;exact absurd h (by decide)
 ·rw[Hz e,Gn c] at h;injection h with h _;exact absurd h (by decide)
 ·rw[Hz e,Gm c] at h;injection h with h _;exact absurd h (by decide)
 ·rw[Gp e,Hz c] at h;injection h with h _;exact absurd h (by decide)
 ·rw[Gp e,Gp c] at h;injection h with _ h
  injection h with _ h
  injection h with _ h
  rw[Hm,Hm] at h;obtain⟨i,l⟩:=Hx 32 (GJ _ (by omega) (by have:=d.pc;omega)) (GJ _ (by omega) (by have:=f.pc;omega)) h;have m:=Hs ⟨by omega,by have:=d.pc;omega⟩ ⟨by omega,by have:=f.pc;omega⟩ i
  exact⟨by omega,(λ_=>g (by rw[Hm,Hm,l])),λ_=>by omega⟩
 ·rw[Gp e,Gn c] at h;injection h with h _;exact absurd h (by decide)
 ·rw[Gp e,Gm c] at h;injection h with h _;exact absurd h (by decide)
 ·rw[Gn e,Hz c] at h;injection h with h _;exact absurd h (by decide)
 ·rw[Gn e,Gp c] at h;injection h with h _;exact absurd h (by decide)
 ·rw[Gn e,Gn c] at h;injection h with _ h
  injection h with _ h
  injection h with _ h
  injection h with _ h
  injection h with _ h
  exact⟨by omega,(λ_=>g h),(λq=>by omega)⟩
 ·rw[Gn e,Gm c] at h;injection h with h _;exact absurd h (by decide)
 ·rw[Gm e,Hz c] at h;injection h with h _;exact absurd h (by decide)
 ·rw[Gm e,Gp c] at h;injection h with h _;exact absurd h (by decide)
 ·rw[Gm e,Gn c] at h;injection h with h _;exact absurd h (by decide)
 ·rw[Gm e,Gm c] at h;injection h with _ h
  injection h with _ h
  injection h with _ h
  injection h with _ h
  injection h with _ h
  injection h with _ h
  exact⟨by omega,(λ_=>g h),(λq=>by omega)⟩
theorem NA {p:PD} {m b:MS} (d:∀t,IC (m.th t)) (c:∀t,IC (b.th t)):∀(n:Nat) {r r':Tx},Dk p m n++r=Dk p b n++r'->(∀t,t<n->DI (m.th t)=DI (b.th t))/\r=r'
 |0,r,r',h=>⟨(λk g=>absurd g (adc k)),h⟩
 |n+1,r,r',h=>by
  rw[JD,JD,Xx,Xx] at h;obtain⟨i,f⟩:=NA d c n h;rw[NC,NC] at f;have a:=ade f;injection a with _ a
  obtain⟨l,j⟩:=Hx 10 (RH (d n)) (RH (c n)) a;refine⟨λk g=>?_,j⟩
  by_cases e:k=n
  ·rw[e];exact l
  ·exact i k (by omega)
structure GW (p:PD):Prop where
 one:∀i j,i<p.ts.length->j<p.ts.length->p.ts.getD i []=p.ts.getD j []->i=j
 no:∀i,i<p.ts.length->p.ts.getD i []≠[45]
 nl:∀k,(10:UInt8)∉p.ts.getD k []
theorem aaB {p:PD} (d:GW p) {a b:Int} (f : -1<=a/\a<p.ts.length) (g : -1<=b/\b<p.ts.length) (h:Do p.ts a=Do p.ts b):a=b:=by
 unfold Do at h
 by_cases e:a = -1
 ·by_cases c:b = -1
  ·omega
  ·rw[if_pos e,if_neg c] at h;exact absurd h.symm (d.no _ (by omega))
 ·by_cases c:b = -1
  ·rw[if_neg e,if_pos c] at h;exact absurd h (d.no _ (by omega))
  ·rw[if_neg e,if_neg c] at h;have:=d.one _ _ (by omega) (by omega) h
   omega
theorem QC {p:PD} (b:GW p) (a:Int):(10:UInt8)∉Do p.ts a:=by
 unfold Do
 split
 ·decide
 ·exact b.nl _
theorem LY {l a:List Int} (d:l.length=a.length) (h:∀k,k<l.length->l.getD k 0=a.getD k 0):l=a:=by
 refine List.ext_getElem d λk b c=>?_;have:=h k b;rw[Xb,Xb,Xc b,Xc c] at this;exact this
theorem Ny {b f nl:Nat} {C:List (List Ac)} {m:MS} (g:IE b f nl C) (a:CG b f nl C m) (t:Nat):IC (m.th t):=by
 by_cases c:t<C.length
 ·have h:=a.th t c;have i:(C.getD t []).length<=24:=(g.code _ (CF (d:=[]) c)).1
  exact⟨h.ph,by have:=h.pc2;omega,h.rl,λk=>DY h.rv k⟩
 ·have e:m.th t=Aw:=by
   unfold MS.th;rw[Xb,XO (by rw[a.tl];omega)];rfl
  rw[e];refine⟨⟨by decide,by decide⟩,by decide,rfl,λk=>?_⟩;have:∀k,(Aw.regs.getD k 0)=0:=λk=>by
   match k with
   |0=>rfl
   |1=>rfl
   |2=>rfl
   |3=>rfl
   |k+4=>rfl
  rw[this]
  exact⟨by decide,by decide⟩
def CY (m:MS):Prop:=∀t,(m.th t).ph=0->m.th t=Aw
theorem JW {s:MS} {t:Nat} {th:TS} (h:CY s) (b:th.ph≠0):CY (s.Af t th):=λu a=>by
 by_cases c:t<s.thr.length
 ·rw[Fr s t u th c] at a |-
  by_cases e:u=t
  ·rw[if_pos e] at a;exact absurd a b
  ·rw[if_neg e] at a |-;exact h u a
 ·have e:s.Af t th=s:=by
   unfold MS.Af;rw[List.set_eq_of_length_le (by omega)]
  rw[e] at a |-;exact h u a
theorem Ti (k:Bool) {s:MS} {t:Nat} (x:Ac) (B:(s.th t).ph=1) (h:CY s):CY (AT k s t x).1:=by
 have l:(s.th t).ph≠0:=by omega
 have a:∀pc,CY (s.Af t {s.th t with pc:=pc}):=λpc=>JW h l;have b:∀pc r,CY (s.Af t {s.th t with pc:=pc,regs:=r}):=λpc r=>JW h l;have c:∀ph pc,ph≠0->CY (s.Af t {s.th t with ph:=ph,pc:=pc}):=λph pc q=>JW h q;unfold AT
 by_cases u:x.op=Ex
 ·rw[if_pos u];exact b _ _
 rw[if_neg u]
 by_cases w:x.op=ED
 ·rw[if_pos w];exact b _ _
 rw[if_neg w]
 by_cases j:x.op=Ew
 ·rw[if_pos j];exact b _ _
 rw[if_neg j]
 by_cases g:x.op=Ey
 ·rw[if_pos g];exact b _ _
 rw[if_neg g]
 by_cases A:x.op=BH
 ·rw[if_pos A];exact b _ _
 rw[if_neg A]
 by_cases e:x.op=Bl
 ·rw[if_pos e];exact a _
 rw[if_neg e]
 by_cases m:x.op=Eg
 ·rw[if_pos m];exact b _ _
 rw[if_neg m]
 by_cases p:x.op=Ef
 ·rw[if_pos p];exact a _
 rw[if_neg p]
 by_cases d:x.op=CD
 ·rw[if_pos d];exact a _
 rw[if_neg d]
 by_cases n:x.op=Ee
 ·rw[if_pos n]
  split
  ·exact c _ _ (by decide)
  ·exact a _
 rw[if_neg n]
 by_cases i:x.op=Cy
 ·rw[if_pos i];exact JW (a _) (by show (1:Int)≠0;decide)
 rw[if_neg i]
 by_cases o:x.op=CE
 ·rw[if_pos o];exact a _
 rw[if_neg o]
 by_cases f:x.op=Ez
 ·rw[if_pos f];exact a _
 rw[if_neg f]
 by_cases y:x.op=EB
 ·rw[if_pos y];exact a _
 rw[if_neg y]
 by_cases z:x.op=EA
 ·rw[if_pos z];exact a _
 rw[if_neg z]
 by_cases v:x.op=EC
 ·rw[if_pos v]
  split
  ·exact c _ _ (by decide)
  ·exact a _
 rw[if_neg v];exact c _ _ (by decide)
theorem Ps (c d nl b:Nat):CY (BO c d nl b):=λt a=>by
 unfold MS.th BO at a |-;rw[Xb] at a |-
 by_cases e:t<b
 ·rw[List.getElem?_map,List.getElem?_range e] at a |-;show (if t=0 then _ else Aw)=Aw
  by_cases z:t=0
  ·have a:(if t=0 then({Aw with ph:=1}:TS) else Aw).ph=0:=a;rw[if_pos z] at a;exact absurd a (by decide)
  ·rw[if_neg z]
 ·rw[XO (by rw[List.length_map,List.length_range];omega)];rfl
section
variable {p:PD} {m m':MS}
theorem QJ {k:Bool} {t:Int} (c:BL p) (b:Bt p m) (h:CY m) (a:AK p.C m t=0):CY (AO k p.C m t).1:=by
 obtain⟨u,rfl,f,d,e,g⟩:=Hy c.fit b a;unfold AO;rw[Yu];exact Ti k _ d h
theorem NW (d:BL p) (q:GW p) (a:Bt p m) (b:Bt p m') (F:CY m) (A:CY m') (h:Aj p m=Aj p m'):Bi m m':=by
 have o:=Ny d.fit a;have r:=Ny d.fit b;have j:=DY a.vv;have i:=DY b.vv;have g:=DY a.fv;have n:=DY b.fv;unfold Aj at h;rw[Xx,Xx,Xx,Xx] at h;obtain⟨G,h⟩:=Kc (λk=>GK _ (j k).1 (j k).2) (λk=>GK _ (i k).1 (i k).2) _ h;obtain⟨y,h⟩:=Kc (λk=>GK _ (g k).1 (g k).2) (λk=>GK _ (n k).1 (n k).2) _ h;obtain⟨I,h⟩:=Kc (λk=>QC q _) (λk=>QC q _) _ h;have h:Dk p m p.ts.length++[]=Dk p m' p.ts.length++[]:=by rw[Yf,Yf];exact h
 obtain⟨H,-⟩:=NA o r _ h;have w:m.vars=m'.vars:=LY (by rw[a.vl,b.vl]) λk c=>Hs (j k) (i k) (G k (by rw[<-a.vl];exact c));have D:m.flags=m'.flags:=LY (by rw[a.fl,b.fl]) λk c=>Hs (g k) (n k) (y k (by rw[<-a.fl];exact c));have u:∀{l:List Int},(∀v,v∈l->-1<=v/\v<p.C.length)->∀k,k<l.length->-1<=l.getD k 0/\l.getD k 0<p.ts.length:=λ{l} B k c=>by rw[d.tc];exact B _ (CF c)
 have x:m.locks=m'.locks:=LY (by rw[a.ll,b.ll]) λk c=>aaB q (u a.lv k c) (u b.lv k (by rw[b.ll,<-a.ll];exact c)) (I k (by rw[<-a.ll];exact c));have f:∀t,(m.th t).ph=(m'.th t).ph/\((m.th t).ph≠0->(m.th t).regs=(m'.th t).regs)/\((m.th t).ph=1->(m.th t).pc=(m'.th t).pc):=λt=>by
  by_cases e:t<p.ts.length
  ·exact aci (o t) (r t) (H t e)
  ·have z:m.th t=Aw:=by unfold MS.th;rw[Xb,XO (by rw[a.tl,<-d.tc];omega)];rfl
   have E:m'.th t=Aw:=by unfold MS.th;rw[Xb,XO (by rw[b.tl,<-d.tc];omega)];rfl
   rw[z,E]
   exact⟨rfl,λ_=>rfl,λ_=>rfl⟩
 have s:∀t,(m.th t).ph=0->m'.th t=m.th t:=λt e=>by
  rw[F t e,A t (by rw[<-(f t).1];exact e)]
 refine⟨w.symm,D.symm,x.symm,by rw[a.tl,b.tl],λt=>(f t).1.symm,λt=>?_,λt J=>?_⟩
 ·by_cases e:(m.th t).ph=0
  ·rw[s t e]
  ·exact((f t).2.1 e).symm
 ·by_cases e:(m.th t).ph=0
  ·rw[s t e]
  ·exact((f t).2.2 (by have:=(o t).ph;omega)).symm
end
theorem ML {C:List (List Ac)} {m:MS} {t:Int} (h:AK C m t=0):t∈Bj C m:=by
 unfold Bj Dx;have b:¬(t<0\/(m.thr.length:Int)<=t\/(m.th t.toNat).ph=0):=by
  intro e;unfold AK at h;rw[if_pos e] at h;exact absurd h (by decide)
 have a:0<=t:=by omega
 refine Yg.2 ⟨t.toNat,List.mem_filter.2 ⟨List.mem_range.2 (by omega),?_⟩,Y9 a⟩;rw[Y9 a];exact decide_eq_true h
section
variable {p:PD} {m s:MS} {most:Nat} {l:List MS}
theorem QN (d:BL p) (h:BS p most=some l):∀x,x∈l->Bt p x/\CY x:=by
 refine Ra (P:=λx=>Bt p x/\CY x) (λx a y c=>?_) most _ _ _ (λx a=>?_) h
 ·unfold Dl at c;obtain⟨t,i,rfl⟩:=Yg.1 c;have b:=Lw i;obtain⟨u,rfl,g,j,f,e⟩:=Hy d.fit a.1 b;refine⟨?_,QJ d a.1 a.2 b⟩;unfold AO;rw[Yu];exact Lc false a.1 g j f e
 ·rw[List.mem_singleton.1 a]
  exact⟨JV _ _ _ _,Ps _ _ _ _⟩
theorem Tk (j:BL p) (h:Bi s m) (c:Bt p s) (f:Bt p m) {t:Int} (d:AK p.C m t=0):Aj p (AO false p.C s t).1=Aj p (AO false p.C m t).1:=by
 obtain⟨u,rfl,g,r,k,w⟩:=Hy j.fit f d;have o:AK p.C s u=0:=by rw[<-h.can c];exact d
 obtain⟨n,e,v,q,l,x⟩:=Hy j.fit c o;have e:u=n:=by omega
 subst e;have i:=h.th (t:=u) (by omega);have a:=(h.step (by rw[c.tl];exact g) q _ l).2;have b:=((Bi.refl m).step (by rw[f.tl];exact g) r _ k).2;unfold AO;rw[Yu,<-i];rw[<-i] at a;rw[<-Bi.show a,<-Bi.show b]
theorem aa5 (a:BL p) (o:GW p) (h:BS p most=some l) (g:Bt p m) (r:CY m) (q:Aj p m∈l.map (Aj p)) {t:Int} (d:AK p.C m t=0):Aj p (AO false p.C m t).1∈l.map (Aj p):=by
 obtain⟨s,c,e⟩:=Yg.1 q;obtain⟨b,i⟩:=QN a h s c;have f:=NW a o b g i r e;have k:AK p.C s t=0:=by rw[<-f.can b];exact d
 have n:(AO false p.C s t).1∈Dl false p.C s:=Yg.2 ⟨t,ML k,rfl⟩;have:=(MF most _ _ 0 (λj x u=>absurd u (adc j)) h).2 s c _ n;rw[Tk a f b g d] at this;exact this
theorem aa6 (c:BL p) (j:GW p) (i:BS p most=some l) (h:Bt p m) (n:CY m) (k:Aj p m∈l.map (Aj p)) (g:Bj p.C m=[]):BD p m∈Hw p l:=by
 obtain⟨s,a,e⟩:=Yg.1 k;obtain⟨d,f⟩:=QN c i s a;have b:=NW c j d h f n e;refine(LR p l _).2 ⟨s,a,?_,b.outM.symm⟩;rw[Ml];unfold GR;rw[<-b.ready d,g]
 rfl
theorem aa7 (b:BS p most=some l):Aj p (CL p)∈l.map (Aj p):=by
 obtain⟨⟨r,a⟩,-⟩:=MF most _ _ 0 (λj x c=>absurd c (adc j)) b;rw[a];exact Yg.2 ⟨CL p,by simp,rfl⟩
theorem Mu (b:BL p) (d:GW p) (c:BS p most=some l):∀(a:List Int) (x:MS×List Ev),Bt p x.1->CY x.1->Aj p x.1∈l.map (Aj p)->Bt p (a.foldl (GD false p.C) x).1/\CY (a.foldl (GD false p.C) x).1/\Aj p (a.foldl (GD false p.C) x).1∈l.map (Aj p)
 |[],_,h1,h2,h3=>⟨h1,h2,h3⟩
 |t::a,x,h1,h2,h3=>by
  rw[List.foldl_cons];unfold GD
  by_cases e:AK p.C x.1 t=0
  ·rw[if_pos e];obtain⟨u,rfl,g,h,f,i⟩:=Hy b.fit h1 e;refine Mu b d c a _ ?_ (QJ b h1 h2 e) (aa5 b d c h1 h2 h3 e);show Bt p (AO false p.C x.1 u).1;unfold AO;rw[Yu];exact Lc false h1 g h f i
  ·rw[if_neg e];exact Mu b d c a x h1 h2 h3
end
theorem aa8 {ps:List Tx} {r:Tx} {i:Nat} {x:Tx} (h:ps[i]?=some x):∃rest,ps.flatMap (λy=>y++[10])++r=(ps.take i).flatMap (λy=>y++[10])++(x++10::rest)/\((ps.take (i+1)).flatMap (λy=>y++[10])).length=((ps.take i).flatMap (λy=>y++[10])).length+x.length+1:=by
 obtain⟨a,e⟩:=Xe.1 h;have b:ps=ps.take i++x::ps.drop (i+1):=by rw[<-e,<-List.drop_eq_getElem_cons a,List.take_append_drop]
 refine⟨(ps.drop (i+1)).flatMap (λy=>y++[10])++r,?_,?_⟩
 ·conv=>lhs;rw[b]
  rw[XZ,XP];simp[Xx]
 ·rw[YY,h,XZ,Xd];show _+(List.flatMap _ [x]).length=_;rw[XP,List.flatMap_nil,Yf,Xd];show _+(x.length+1)=_
  omega
theorem abx {p:PD} {m:MS} {h g nl:Nat} (c:CG h g nl p.C m) (f:Bj p.C m=[]) (t:Nat) (i:t<m.thr.length):(AK p.C m t == 7)=((m.th t).ph == 1):=by
 have b:AK p.C m t≠0:=λq=>by have:=ML q;rw[f] at this;cases this
 have l:=(c.th t (by rw[<-c.tl];exact i)).ph;unfold AK at b |-;rw[Yu] at b |-
 by_cases d:(t:Int)<0\/(m.thr.length:Int)<=t\/(m.th t).ph=0
 ·have a:(m.th t).ph=0:=by omega
  rw[if_pos d,a];rfl
 ·rw[if_neg d] at b |-
  by_cases a:Dd (m.th t)=true
  ·rw[if_pos a];have:(m.th t).ph≠1:=by
    intro q;unfold Dd at a;rw[q] at a;exact absurd a (by decide)
   have q:((m.th t).ph == 1)=false:=by simpa using this
   rw[q];rfl
  ·rw[if_neg a] at b |-
   by_cases e:Cc m (Ci p.C t (m.th t))=true
   ·rw[if_pos e];have:(m.th t).ph=1:=by
     have a:=Bool.eq_false_iff.2 a;unfold Dd at a;have:(m.th t).ph≠0:=by omega
     by_cases j:(m.th t).ph=2
     ·rw[j] at a;exact absurd a (by decide)
     ·by_cases k:(m.th t).ph=3
      ·rw[k] at a;exact absurd a (by decide)
      ·omega
    rw[this];rfl
   ·rw[if_neg e] at b;exact absurd rfl b
theorem aaT (m:MS):decide (0<AB m)=m.thr.any λth=>th.ph == 1:=by
 unfold AB
 cases h:m.thr.any λth=>th.ph == 1 with
 |true=>
  obtain⟨a,b,q⟩:=YE.1 h;exact decide_eq_true (List.countP_pos_iff.2 ⟨a,b,q⟩)
 |false=>
  refine decide_eq_false (Nat.not_lt.2 (Nat.le_of_eq (List.countP_eq_zero.2 λa b q=>?_)));rw[YE.2 ⟨a,b,q⟩] at h
  cases h
theorem Vi {m:MS} (t:Nat) (a:t<m.thr.length):(m.thr.take (t+1)).any (λth=>th.ph == 1)=((m.thr.take t).any (λth=>th.ph == 1)||((m.th t).ph == 1)):=by
 have e:m.thr[t]?=some (m.th t):=by unfold MS.th;rw[Xb,Xc a];rfl
 rw[YY,e,List.any_append];show (_||List.any [m.th t] _)=_;rw[List.any_cons,List.any_nil,Bool.or_false]
theorem Sz {n:Nat} (h:n+1<4294967000):wrap64 ((n:Int)+1)=(n:Int)+1:=by unfold wrap64;omega
section
variable {w:World} {b nv nf nl nt vc fc lc tc Z0:Nat} {p:PD} {m:MS} {va fa la ta:Option Addr}
theorem Vy (hm:AD w b p m) (ht:Cn w Z0) (bz:Z0<=w.heap.size) (R:BL p) (V:Bt p m) (hN:DK p) (bj:Gt p) (he:Bj p.C m=[]) (hv:p.vs.length=nv) (hF:p.fs.length=nf) (aU:p.ts.length=nt) (M:(Aj p m).length<4294967000) :
 Calls Tryz.prog 16 #[.agg #[.slice va nv vc,.slice fa nf fc,.slice la nl lc,.slice ta nt tc],Ab b] w λe w'=>e = .returned (.string (bs (BD p m)))/\AD w' b p m/\Ae (λk=>k=b) w w':=by
 obtain⟨W,hW⟩:∃W,w.alloc (.cells #[.slice va nv vc,.slice fa nf fc,.slice la nl lc,.slice ta nt tc] 25)=W:=⟨_,rfl⟩;have aD:Below w.heap.size w W:=by rw[<-hW];exact(Below.refl _ _).alloc (Xf _) _
 have k1:W.heap[w.heap.size]?=some (.cells #[.slice va nv vc,.slice fa nf fc,.slice la nl lc,.slice ta nt tc] 25):=by rw[<-hW];exact World.alloc_heap_new w _
 have br:=hm.lt;obtain⟨Z,hZ⟩:∃Z,w.heap.size=Z:=⟨_,rfl⟩;have bd:=hm.below aD;have be:=Lh bd R V hN (ht.keep (aD.mono bz)) (by have:=aD.size;omega);obtain⟨r,X⟩:=Lg p m;have am:(Bb p m).length=nv+nf:=by rw[IW,hv,hF]
 have bA:∀k,CZ (m.vars.getD k 0):=DY V.vv;have bk:∀k,CZ (m.flags.getD k 0):=DY V.fv;have O:=Vl (p:=p) hN bA bk;have ae:=Pa bj V;have aH:nv<=4:=by rw[<-hv];exact R.v
 have aw:nf<=4:=by rw[<-hF];exact R.f
 have J:nt<=4:=by rw[<-aU,R.tc];exact R.fit.four
 have K:m.thr.length=nt:=by rw[V.tl,<-R.tc];exact aU
 have I:=aaT m;have G:=λt (h:t<m.thr.length)=>abx V he t h;have H:∀t:Int,AK p.C m t≠0:=λt q=>by have:=ML q;rw[he] at this;cases this
 have g:=VA (p:=p) (m:=m);have a:=Vz (p:=p) (m:=m);have o:=VB (p:=p) (m:=m);have l:=WX (λx U=>(O x U).2);have bP:=Aa (fun(u:World) (hu:AD u b p m) (t:Int)=>Ld hu R V t);obtain⟨n,hn⟩:∃n,nv+nf=n:=⟨_,rfl⟩;obtain⟨ps,bC⟩:∃ps,Bb p m=ps:=⟨_,rfl⟩;obtain⟨S,hS⟩:∃S,Aj p m=S:=⟨_,rfl⟩;obtain⟨om,bw⟩:∃x,BD p m=x:=⟨_,rfl⟩;rw[bC] at am O ae X g a o l;rw[hS] at be X M;rw[bw] at g a o |-;rw[hZ] at k1;have HP:=Aa (⟨X,am,O,ae,hn,aH,aw,J,K,I,G,H,g,a,o,l,M⟩:_/\_/\_/\_/\_/\_/\_/\_/\_/\_/\_/\_/\_/\_/\_/\_/\_);have HB:=Aa (⟨aD,k1,br,bd,hZ⟩:_/\_/\_/\_/\_);have HW:Hid (wrap64 ((nv:Int)+(nf:Int))=(n:Int)):=by
  have:=KU (n:=nv+nf) (by omega);rw[<-hn]
  push_cast at this |-
  exact this
 have bU:(bs S).size=S.length:=AY S;clear hm ht bz R V hN bj he hv hF aU aD k1 br bd X am bA bk O ae aH aw J K I G H g a o l hn bC hS bw M;replace hW:=Aa hW;replace hZ:=Aa hZ;unfold Ab at *
 go_enter Tryz.func16,Tryz.ntmps16
 go_upto_region 1 with fail
 rw[hW.out,hZ.out];clear hW
 go_wp2_with fail
 refine be.mono ?_;rintro e w2 ⟨rfl,aR⟩;have H2:Hid (Below W.heap.size W w2/\w2.heap[Z]?=some (.cells #[.slice va nv vc,.slice fa nf fc,.slice la nl lc,.slice ta nt tc] 25)/\AD w2 b p m):=⟨aR,(aR.block _ (Xa.1 HB.out.2.1).1).trans HB.out.2.1,HB.out.2.2.2.1.below aR⟩;obtain⟨q0,q1,q2,q3⟩:=Iv H2.out.2.1;obtain⟨N,aS⟩:∃N,S.length=N:=⟨_,rfl⟩;rw[aS] at bU;replace aS:=Aa aS;clear be aR
 go_wp2_with fail
 go_loopw [6,7,8] (λov av iv wr=>∃i:Nat,i<=n/\iv = .int .i64 i/\ov = .string (bs (YP (ps.take i) [32]))/\av = .int .i64 ((((ps.take i).flatMap (λy=>y++[10])).length:Nat):Int)/\wr=w2) (λ_ _ iv _=>n - (intOf iv).toNat)
 case atStart=>exact⟨0,XD _,rfl,rfl,rfl,rfl⟩
 case round=>
  obtain⟨i,hi,rfl,rfl,rfl,rfl⟩:=hrel;obtain⟨X,am,O,ae,hn,aH,aw,J,K,I,G,H,g,a,o,l,M⟩:=HP.out;have aL:=WY (λx U=>(O x U).1) i
  by_cases h5:i<n
  ·have b8:(i:Int)<(n:Int):=by omega
   obtain⟨x,U⟩:∃x,ps[i]?=some x:=⟨_,Xc (by omega)⟩;have bc:=List.mem_of_getElem? U;have aB:=(O x bc).1;have aq:=ae x bc;obtain⟨rest,Q,ah⟩:=aa8 (r:=r) U;rw[<-X] at Q;obtain⟨A,hA⟩:∃A,(ps.take i).flatMap (λy=>y++[10])=A:=⟨_,rfl⟩;rw[hA] at Q ah |-;obtain⟨B,Y⟩:∃B,A.length=B:=⟨_,rfl⟩;rw[Y] at ah |-;have aA:S.length=B+x.length+1+rest.length:=by rw[Q,Xd,Xd,List.length_cons,Y];omega
   have aC:=aS.out;obtain⟨T,s⟩:∃T,YP (ps.take i) [32]=T:=⟨_,rfl⟩;obtain⟨E,aN⟩:∃x,(if 0<i then YP (ps.take i) [32]++[32] else [])=x:=⟨_,rfl⟩;have an:YP (ps.take (i+1)) [32]=E++x:=by rw[WW U,aN]
   rw[s] at aL |-;have ay:E.length<=300:=by
    rw[<-aN,s]
    by_cases e:0<i
    ·rw[if_pos e,Xd];show T.length+1<=300;omega
    ·rw[if_neg e];exact XD _
   have D:T.length<=300:=by omega
   have HX:Hid ((0<i->T++[32]=E)/\(¬0<i->T=E)):=⟨λe=>by rw[<-aN,if_pos e,s],λe=>by
    have:i=0:=by omega
    subst this;rw[<-aN,if_neg e,<-s];rfl⟩
   have bi:Hid (wrap64 ((i:Int)+1)=(i:Int)+1):=by
    have:=KU (n:=i+1) (by omega)
    push_cast at this
    exact this
   have HO:=Aa (⟨h5,an,ay,D,Q,ah,aA,aB,aq,Y,aC,M⟩:_/\_/\_/\_/\_/\_/\_/\_/\_/\_/\_/\_);clear hi h5 an ay D Q ah aA aB aq Y aC M aL s aN hA U bc X am O ae hn aH aw J K I G H g a o l;have hw:=HW.out
   go_upto_if 27 with fail
   clear hw
   go_cut [6] (λov wx=>ov = .string (bs E)/\wx=wr)
   case first=>
    by_cases e:0<i
    ·have P:(0:Int)<(i:Int):=by omega
     have z0:¬9223372036854775807<(bs T).size+1:=NJ (by have:=HO.out.2.2.2.1;omega);have z1:bs T++⟨#[32]⟩=bs E:=by rw[<-HX.out.1 e];exact Ji _ [32]
     clear e
     go_wp2_with fail
     go_meet
     exact⟨rfl,rfl⟩
    ·have e0:i=0:=by omega
     have e2:=HX.out.2 e;subst e0;subst e2;clear e
     go_wp2_with fail
     go_meet
     exact⟨rfl,rfl⟩
   case rest=>
    obtain⟨rfl,rfl⟩:=hcut
    go_wp2_with fail
    go_loopw [6,7] (λov av wr=>∃j:Nat,j<=x.length/\ov = .string (bs (E++x.take j))/\av = .int .i64 ((B+j:Nat):Int)/\wr=wc) (λ_ av _=>B+x.length - (intOf av).toNat)
    case atStart=>exact⟨0,XD _,by rw[List.take_zero,Yf],rfl,rfl⟩
    case round=>
     obtain⟨j,hj,rfl,rfl,rfl⟩:=hrel;obtain⟨h5,an,ay,D,Q,ah,aA,aB,aq,Y,aC,M⟩:=HO.out;obtain⟨q,hq⟩:∃q,B+j=q:=⟨_,rfl⟩;have aJ:q<S.length:=by omega
     have b6:(q:Int)<(N:Int):=by omega
     have bv:Hid (wrap64 ((q:Int)+1)=(q:Int)+1):=by
      have h:q+1<4294967000:=by omega
      exact Sz h
     have ak:S[q]?=(x++10::rest)[j]?:=by
      rw[Q,XI (by omega),Y]
      congr 1
      omega
     rw[hq]
     by_cases F:j<x.length
     ·have hc:S[q]=x[j]:=by
       rw[Xv F,Xc aJ,Xc F] at ak;exact Yb ak
      obtain⟨c,aW⟩:∃c,x[j]=c:=⟨_,rfl⟩;rw[aW] at hc;have gc:∀h,(bs S)[q]'h=c:=λh=>(CO S q h).trans hc;have l:((c.toNat:Int) != 10)=true:=by
       have hm:c∈x:=by rw[<-aW];exact List.getElem_mem F
       have:c≠10:=λz=>aq (by rw[<-z];exact hm);have:c.toNat≠10:=λz=>this (UInt8.toNat_inj.1 z);simp only[bne_iff_ne,ne_eq]
       omega
      have b7:(bs S).extract q (q+1)=bs [c]:=by
       rw[FG,List.take_succ_eq_append_getElem aJ,List.drop_append,List.drop_eq_nil_of_le (by rw[X2];omega),X2,hc];rw[show q - min q S.length=0 by omega];rfl
      have bh:E++x.take (j+1)=E++x.take j++[c]:=by rw[YY,Xc F,aW,Xx];rfl
      have bo:(E++x.take j).length<=400:=by rw[Xd,X2];omega
      obtain⟨u,hu⟩:∃u,E++x.take j=u:=⟨_,rfl⟩;rw[hu] at bh bo |-;have cd:bs u++bs [c]=bs (u++[c]):=Ji u [c];have b5:¬9223372036854775807<(bs u).size+(bs [c]).size:=by rw[AY,AY];show ¬9223372036854775807<u.length+1;omega
      have b0:(q:Int)+1<=(N:Int):=by omega
      have ca:(q:Int)<=(q:Int)+1:=by omega
      have d:Hid (j+1<=x.length/\u++[c]=E++x.take (j+1)/\B+(j+1)=q+1/\q<B+x.length):=⟨F,bh.symm,by omega,by omega⟩;have aP:=bv.out;clear h5 an ay D Q ah aA aB aq Y aC M hj hq aJ ak F hc aW bh bo hu
      go_wp2_with fail
      go_roundw
      case rel=>
       (try rw[aP])
       exact⟨j+1,d.out.1,by rw[d.out.2.1],by rw[d.out.2.2.1];rfl,by first|rfl|trivial⟩
      case measure=>
       (try rw[aP])
       exact Xs d.out.2.2.2 (Xt q)
     ·have bg:j=x.length:=by omega
      have hc:S[q]=10:=by
       rw[bg,XI (Xf _),YO,Xc aJ] at ak;exact Yb ak
      have gc:∀h,(bs S)[q]'h=10:=λh=>(CO S q h).trans hc;have d:Hid (i+1<=n/\E++x.take j=YP (ps.take (i+1)) [32]/\((ps.take (i+1)).flatMap (λy=>y++[10])).length=q+1):=⟨h5,by rw[an,bg,List.take_length],by omega⟩;have aP:=bv.out;clear h5 an ay D Q ah aA aB aq Y aC M hj hq aJ ak F hc bg
      go_wp2_with fail
      go_roundw
      case rel=>
       (try rw[bi.out])
       (try rw[aP])
       exact⟨i+1,d.out.1,rfl,by rw[d.out.2.1],by rw[d.out.2.2];rfl,by first|rfl|trivial⟩
      case measure=>
       (try rw[bi.out])
       exact Xs d.out.1 (Xt i)
  ·have bR:i=n:=by omega
   subst bR;have bq:ps.take i=ps:=XY (by omega);rw[bq] at aL |-;obtain⟨AL,bF⟩:∃x,(ps.flatMap (λy=>y++[10])).length=x:=⟨_,rfl⟩;rw[bF];clear bF;obtain⟨T,s⟩:∃T,YP ps [32]=T:=⟨_,rfl⟩;rw[s] at aL g a l |-;have D:T.length<=300:=by omega
   have HO:=Aa (⟨g,a,o,l,s,D,I,G,H,K,J⟩:_/\_/\_/\_/\_/\_/\_/\_/\_/\_/\_)
   rename World=>w3
   have HZ:Hid (∀u,Ae (λk=>k=b) w3 u->u.cell? ⟨Z,3,none⟩=some (.slice ta nt tc)):=λu hu=>by
    have b3:=HB.out.2.2.1;have cb:=HB.out.2.2.2.2
    exact(Iv ((hu.block Z (Xa.1 H2.out.2.1).1 (by omega)).trans H2.out.2.1)).2.2.2
   have hw:=HW.out;clear hi h5 aL s X am O ae hn aH aw J K I G H g a o l M bq D
   go_wp2_with fail
   clear hw q0 q1 q2 q3
   go_loopw [9,10] (λsv tv wx=>∃t:Nat,t<=nt/\tv = .int .i64 t/\sv = .bool ((m.thr.take t).any (λth=>th.ph == 1))/\AD wx b p m/\Ae (λk=>k=b) w3 wx) (λ_ tv _=>nt - (intOf tv).toNat)
   case atStart=>exact⟨0,XD _,rfl,rfl,H2.out.2.2,Ae.refl _⟩
   case round=>
    obtain⟨t,ht,rfl,rfl,ar,ab⟩:=hrel;obtain⟨g,a,o,l,s,D,I,G,H,K,J⟩:=HO.out;have z3:=HZ.out wr ab
    by_cases F:t<nt
    ·have aU:(t:Int)<(nt:Int):=by omega
     have aQ:Hid (wrap64 ((t:Int)+1)=(t:Int)+1):=by
      have:=KU (n:=t+1) (by omega)
      push_cast at this
      exact this
     have az:=bP.out wr ar t;have bp:DF p.C m (t:Int)=(m,⟨0,0,0,0⟩):=by unfold DF;rw[if_neg (H t)]
     unfold KG at az;rw[bp] at az;have a8:=Vi (m:=m) t (by omega);have a0:=G t (by omega);obtain⟨cf,bb⟩:∃x,((m.thr.take t).any (λth=>th.ph == 1))=x:=⟨_,rfl⟩;obtain⟨bQ,bu⟩:∃x,AK p.C m (t:Int)=x:=⟨_,rfl⟩;rw[bu] at az a0;rw[bb,<-a0] at a8;rw[bb];have d:=Aa (⟨F,a8,ab⟩:_/\_/\_);clear ht F g a o l s D I G H K J ar ab bp a8 a0 bb bu
     go_wp2_with fail
     refine az.mono ?_;rintro e w4 ⟨rfl,bl,bD⟩;unfold CM;dsimp only;obtain⟨W5,aK⟩:∃W5,w4.alloc (.cells #[.int .i64 0,.int .i64 0,.int .i64 0,.int .i64 0] 48)=W5:=⟨_,rfl⟩;have a2:Below w4.heap.size w4 W5:=by rw[<-aK];exact(Below.refl _ _).alloc (Xf _) _
     have HV:Hid (AD W5 b p m/\Ae (λk=>k=b) w3 W5):=⟨bl.below a2,(d.out.2.2.trans bD).NE a2⟩;replace aK:=Aa aK;clear az bl bD a2 z3
     cases cf with
     |true=>
      go_upto_region 18 with fail
      rw[aK.out]
      go_wp2_with fail
      go_roundw
      case rel=>
       (try rw[aQ.out])
       exact⟨t+1,d.out.1,rfl,by rw[d.out.2.1,Bool.true_or],HV.out.1,HV.out.2⟩
      case measure=>
       (try rw[aQ.out])
       exact Xs d.out.1 (Xt t)
     |false=>
      go_upto_region 18 with fail
      rw[aK.out]
      go_wp2_with fail
      refine(JU bQ _).mono ?_;rintro e w6 ⟨rfl,rfl⟩
      go_wp2_with fail
      go_roundw
      case rel=>
       (try rw[aQ.out])
       exact⟨t+1,d.out.1,rfl,by rw[d.out.2.1,Bool.false_or],HV.out.1,HV.out.2⟩
      case measure=>
       (try rw[aQ.out])
       exact Xs d.out.1 (Xt t)
    ·have bT:t=nt:=by omega
     subst bT;have aO:m.thr.take t=m.thr:=XY (by omega);rw[aO,<-I];have HF:Hid (AD wr b p m/\Ae (λk=>k=b) w wr):=by
      refine⟨ar,?_⟩;have h1:=HB.out.1;have h2:=H2.out.1
      exact((Ae.CK h1).NE h2).trans ab
     by_cases P:0<AB m
     ·have d1:decide (0<AB m)=true:=decide_eq_true P;rw[d1]
      by_cases e2:ps=[]
      ·have o:=Aa (o P e2);have aF:T=[]:=by rw[<-s,e2];rfl
       subst aF;rw[show bs ([]:Tx)=⟨#[]⟩ from rfl];clear g a l s D I G H K J ar ab aO P d1 e2 ht F HO
       go_wp2_with fail
       go_ret
       rw[o.out]
       exact⟨rfl,HF.out⟩
      ·have a:=Aa (a P e2);have aF:=l e2;have b1:((bs T).toList == [])=false:=by rw[AR];simpa using aF
       have b2:((bs T).toList != [])=true:=by rw[AR];simpa using aF
       have zz:¬9223372036854775807<(bs T).size+6:=NJ (by omega);have za:bs T++⟨#[32,115,116,117,99,107]⟩=bs om:=by rw[a.out];exact Ji _ [32,115,116,117,99,107]
       clear g a o l s D I G H K J ar ab aO P d1 e2 ht F HO aF
       go_wp2_with fail
       go_ret
       exact⟨rfl,HF.out⟩
     ·have d1:decide (0<AB m)=false:=decide_eq_false P;rw[d1];have g:=Aa (g P);clear a o l s D I G H K J ar ab aO P d1 ht F HO
      go_wp2_with fail
      go_ret
      rw[g.out]
      exact⟨rfl,HF.out⟩
end
def EM (s:PS):Prop:=∀(k:Int) (i:Nat) (x:Tx),(s.nms k)[i]?=some x->s.N x=some (k,i)
theorem EM.new:EM PS.new:=λk i x h=>by cases h
theorem Rw {kd:Int} {M:Int->List Tx}:∀(ts:List Tx) (N:Tx->Option (Int×Nat)) (l:List Tx) (p:(Tx->Option (Int×Nat))×List Tx),(∀(i:Nat) (x:Tx),l[i]?=some x->N x=some (kd,i))->(∀(k:Int) (i:Nat) (x:Tx),k≠kd->(M k)[i]?=some x->N x=some (k,i))->AZ kd N l ts=some p->
 (∀(i:Nat) (x:Tx),p.2[i]?=some x->p.1 x=some (kd,i))/\∀(k:Int) (i:Nat) (x:Tx),k≠kd->(M k)[i]?=some x->p.1 x=some (k,i)
 |[],N,l,p,h1,h2,e=>by
  have e:some (N,l)=some p:=e
  cases e
  exact⟨h1,h2⟩
 |t::ts,N,l,p,h1,h2,e=>by
  cases b:N t with
  |some q=>simp[AZ,b] at e
  |none=>
   have e:AZ kd (AN N t (kd,l.length)) (l++[t]) ts=some p:=by simpa [AZ,b] using e
   have f:∀{x:Tx} {v:Int×Nat},N x=some v->AN N t (kd,l.length) x=some v:=λ{x v} a=>by
    have h:x≠t:=λq=>by rw[q,b] at a;cases a
    unfold AN;rw[if_neg h];exact a
   refine Rw ts _ _ p (λi x a=>?_) (λk i x g a=>f (h2 k i x g a)) e
   by_cases c:i<l.length
   ·rw[Xv c] at a;exact f (h1 i x a)
   ·have d:=(Xe.1 a).1;rw[Xd] at d;have d:i<l.length+1:=d;have c:i=l.length:=by omega
    subst c;rw[XI (Xf _),YO] at a;have a:some t=some x:=a
    cases a
    unfold AN;rw[if_pos rfl]
section
variable {s s':PS}
theorem Rq {kd:Int} {ts:List Tx} (h:EM s) (e:Bq kd ts s = .ok s'):EM s':=by
 unfold Bq at e
 split at e
 ·cases e
 ·split at e
  ·cases e
  ·rename_i p c
   split at e
   ·cases e
   ·cases e
    obtain⟨f,d⟩:=Rw (M:=s.nms) ts s.N (s.nms kd) p (λi x a=>h kd i x a) (λk i x _ a=>h k i x a) c;intro k i x a;have a:(AM s.nms kd p.2 k)[i]?=some x:=a;show p.1 x=some (k,i)
    by_cases b:k=kd
    ·subst b;rw[BC] at a;exact f i x a
    ·rw[BM _ b] at a;exact d k i x b a
theorem aam {line:Int} {f:Tx} {ts:List Tx} {b:PB} (h:EM s) (e:Dn line f ts s b = .ok s'):EM s':=by
 unfold Dn at e
 split at e
 ·cases e
 ·split at e
  ·cases e
  ·split at e
   ·cases e
   ·split at e
    ·cases e
    ·cases e
     exact h
theorem To {line:Int} {f:Tx} {ts:List Tx} (h:EM s) (e:stepT line f ts s = .ok s'):EM s':=by
 unfold stepT at e
 split at e
 ·split at e
  ·cases a:Bq 116 ts s with
   |error x=>rw[a] at e;cases e
   |ok b=>
    rw[a] at e
    cases e
    have q:=Rq h a;exact q
  ·cases e
 ·split at e
  ·exact Rq h e
  ·split at e
   ·unfold EF at e
    split at e
    ·cases e
    ·split at e
     ·cases e
     ·cases e
      exact h
   ·exact aam h e
theorem PU:∀(ls:List Tx) (n:Int) (s s':PS),EM s->BP ls n s = .ok s'->EM s'
 |[],_,s,s',h,e=>by
  have e:Except.ok s=Except.ok s':=e
  cases e;exact h
 |l::ls,n,s,s',h,e=>by
  unfold BP at e
  cases a:BJ (n+1) l s with
  |error x=>rw[a] at e;cases e
  |ok b=>
   rw[a] at e;refine PU ls (n+1) b s' ?_ e;unfold BJ at a
   split at a
   ·cases a;exact h
   ·exact To h a
end
theorem Vq {t:Tx} {s:PS} {C:List (List Ac)} (h:Bk t = .ok (s,C)):EM s:=by
 unfold Bk at h
 split at h
 ·cases h
 ·unfold Dc at h
  split at h
  ·cases h
  ·rename_i d a
   split at h
   ·cases h
   ·rename_i b c
    cases h
    exact PU _ _ _ _ EM.new a
theorem VJ {t:Tx} {s:PS} {C:List (List Ac)} {L:List (Tx×Value)} (h:Bk t = .ok (s,C)) (m:L.map Prod.fst=s.nms 116):GW (Al (s.nms 118) (s.nms 102) (s.nms 109) L C):=by
 have f:=Vq h 116;have g:=LF h 116;have e:(Al (s.nms 118) (s.nms 102) (s.nms 109) L C).ts=s.nms 116:=m;refine⟨λi j a c q=>?_,λi a q=>?_,λk=>?_⟩
 ·rw[e] at a c q;have b:=f i _ (Xc a);have l:=f j _ (Xc c);have q:(s.nms 116)[i]=(s.nms 116)[j]:=by
   rw[Xb,Xb,Xc a,Xc c] at q;exact q
  rw[q,l] at b;have b:((116:Int),j)=(116,i):=Yb b;injection b with _ b
  exact b.symm
 ·rw[e] at a q;have:=g _ (CF (d:=[]) a);rw[q] at this
  revert this
  decide
 ·rw[e];exact Mr g k
end Go.Proofs.YtdcacoifehkioaaGreatDoor
