import Derived.Test.YtdcacoifehkioaaGreatDoorExA13
import Derived.BigQuiet
open Go renaming World->Xh,Calls->XY
open Go.RowKit renaming Below->Xm,wrap64->XN
open Go.RowKit.Below renaming refl->Xq
open Nat renaming le_refl->Xd,le_of_not_lt->afe,zero_le->Xx,sub_lt_sub_left->Xl,lt_succ_self->Xo
open Bool renaming eq_iff_iff->YJ
open List renaming getD_eq_getElem?_getD->Xc,getElem?_eq_none->XU,length_set->Yb,mem_cons->XP,not_mem_nil->X6,range->YB,range_succ->ZL,flatMap_append->Ya,length_append->Xb,append_nil->Yf,length_cons->XJ,length_nil->X2,append_assoc->X3
open Int renaming toNat_natCast->Yj
open Go.Lib renaming itoa->Yh
set_option maxRecDepth 100000
set_option maxHeartbeats 2000000
set_option linter.unusedVariables false
set_option linter.unusedSimpArgs false
namespace Go.Proofs.YtdcacoifehkioaaGreatDoor
open Go.RowKit Go.Proofs.Cod
section
variable {w w':Xh} {b:Nat} {p:PD} {s:MS}
abbrev Bn (w:Xh) (b:Nat) (p:PD) (s:MS):Prop:=Am w b 117 856 (Az p s)
theorem Jm (h:Bn w b p s) {t:Nat} (a:t<4):w.cell? ⟨b,27+t*207+1,none⟩=some (.int .i64 (s.th t).ph):=by
 rw[h.cell (by omega),Fy p s a (by omega)];rfl
theorem Lq (h:Bn w b p s) {t:Nat} (a:t<4):w.cell? ⟨b,27+t*207+2,none⟩=some (.int .i64 (s.th t).pc):=by
 rw[h.cell (by omega),Fy p s a (by omega)];rfl
theorem abC (h:Bn w b p s) {i:Nat} (a:i<4):w.cell? ⟨b,18+(i*2+1),none⟩=some (.int .i64 (s.locks.getD i 0)):=by
 rw[h.cell (by omega),Nk p s a]
theorem Re (h:Bn w b p s) {t:Nat} (a:t<4) :
 XY Tryz.prog 97 #[.pointer (some ⟨b,27+t*207,none⟩)] w λe w'=>e = .returned (.bool (Du (s.th t)))/\w'=w:=by
 have c1:=Jm h a;unfold Du;generalize (s.th t).ph=ph at *;clear h a
 cases c:ph == 2 with
 |true=>
  go_enter Tryz.func97,Tryz.ntmps97
  go_wp2_with fail
  go_ret
  exact⟨rfl,rfl⟩
 |false=>
  go_enter Tryz.func97,Tryz.ntmps97
  go_wp2_with fail
  go_ret
  exact⟨rfl,rfl⟩
theorem Rq (h:Bn w b p s) {t:Nat} (a:t<4) (c:(s.th t).pc<=24) :
 XY Tryz.prog 42 #[.pointer (some ⟨b,27+t*207,none⟩)] w λe w'=>e = .returned (.pointer (some ⟨b,27+t*207+7+(s.th t).pc*8,none⟩))/\w'=w.drew:=by
 have c2:=Lq h a;generalize (s.th t).pc=pc at *;have d:(pc:Int)<25:=by omega
 clear h a c
 go_enter Tryz.func42,Tryz.ntmps42
 go_wp2_with fail
 go_region
 all_goals
  go_wp2_with fail
  go_ret
  exact⟨rfl,rfl⟩
structure TT (p:PD) (x:Ad):Prop where
 x0:0<=x.x
 lock:x.op=BN->x.x<4
 join:x.op=BO->x.x<4
 spawn:x.op=BI->x.x<4
theorem aez (h:Bn w b p s) {x:Ad} (k:TT p x) :
 XY Tryz.prog 98 #[Ab b,.agg (Br x)] w λe w'=>e = .returned (.bool (BH s x))/\Xm w.heap.size w w':=by
 have i:Xm w.heap.size w (w.alloc (.cells (Br x) 108)):=(Xq _ _).alloc (Xd _) _;have t:=h.below i;obtain⟨n,f⟩:∃n:Nat,x.x=n:=⟨x.x.toNat,by have:=k.x0;omega⟩;have C:((bs x.op).toList == BN)=decide (x.op=BN):=by rw[AL];exact YJ.2 (by simp)
 have z:((bs x.op).toList == BO)=decide (x.op=BO):=by rw[AL];exact YJ.2 (by simp)
 have B:((bs x.op).toList == BI)=decide (x.op=BI):=by rw[AL];exact YJ.2 (by simp)
 have m:x.x.toNat=n:=by omega
 by_cases a:x.op=BN
 ·have l:n<4:=by have:=k.lock a;omega
  have d:BH s x=decide (s.locks.getD n 0≠-1):=by unfold BH;rw[if_pos a,m]
  have c:=abC t l;rw[show 18+(n*2+1)=18+n*2+1 by omega] at c;rw[d];generalize s.locks.getD n 0=v at *;have A:decide (v≠-1)=(v != -1):=by rw[YJ];simp
  rw[A];have D:(n:Int)<4:=by omega
  obtain⟨u,r,aR,aN,bR,bN,y⟩:=x;have f:y=n:=f;subst f;have a:u=BN:=a;subst a;unfold Br at *;dsimp only at *;have o:=Aa i;clear i k C z B t h m d A l;unfold Ab BN bs at *
  go_enter Tryz.func98,Tryz.ntmps98
  go_wp2_with fail
  go_quiet (fail)
  go_wp2_with fail
  go_ret
  exact⟨rfl,o.out.trans ⟨rfl,rfl,rfl,Xd _,λ_ _=>rfl⟩⟩
 ·by_cases g:x.op=BO
  ·have l:n<4:=by have:=k.join g;omega
   have d:BH s x = !Du (s.th n):=by unfold BH;rw[if_neg a,if_pos g,m]
   have O:=λq=>Re (Am.same (w':=(w.alloc (.cells (Br x) 108)).drewN q) t rfl) l;rw[d];generalize Du (s.th n)=v at *;have D:(n:Int)<4:=by omega
   obtain⟨u,r,aR,aN,bR,bN,y⟩:=x;have f:y=n:=f;subst f;have g:u=BO:=g;subst g;unfold Br at *;dsimp only at *;have o:=Aa i;clear i k C z B t h m d l a;unfold Ab BO bs at *
   go_enter Tryz.func98,Tryz.ntmps98
   go_wp2_with fail
   go_quiet ((go_at_call 97;refine Calls.quiet_of_same (O _)))
   go_wp2_with fail
   go_ret
   exact⟨rfl,o.out.trans ⟨rfl,rfl,rfl,Xd _,λ_ _=>rfl⟩⟩
  ·by_cases j:x.op=BI
   ·have l:n<4:=by have:=k.spawn j;omega
    have d:BH s x=decide ((s.th n).ph≠0):=by unfold BH;rw[if_neg a,if_neg g,if_pos j,m]
    have c:=Jm t l;rw[d];generalize (s.th n).ph=v at *;have A:decide (v≠0)=(v != 0):=by rw[YJ];simp
    rw[A];have D:(n:Int)<4:=by omega
    obtain⟨u,r,aR,aN,bR,bN,y⟩:=x;have f:y=n:=f;subst f;have j:u=BI:=j;subst j;unfold Br at *;dsimp only at *;have o:=Aa i;clear i k C z B t h m d A l a g;unfold Ab BI bs at *
    go_enter Tryz.func98,Tryz.ntmps98
    go_wp2_with fail
    go_quiet (fail)
    go_wp2_with fail
    go_ret
    exact⟨rfl,o.out.trans ⟨rfl,rfl,rfl,Xd _,λ_ _=>rfl⟩⟩
   ·have d:BH s x=false:=by unfold BH;rw[if_neg a,if_neg g,if_neg j]
    rw[d];rw[decide_eq_false a] at C;rw[decide_eq_false g] at z;rw[decide_eq_false j] at B;unfold BN at C;unfold BO at z;unfold BI at B;obtain⟨u,r,aR,aN,bR,bN,y⟩:=x;unfold Br at *;dsimp only at *;have o:=Aa i;clear i k t h m d a g j f;unfold Ab at *
    go_enter Tryz.func98,Tryz.ntmps98
    go_wp2_with fail
    go_ret
    exact⟨rfl,o.out⟩
end
def AB (k:Bool) (C:List (List Ad)) (s:MS) (t:Int):MS×Ev:=Ba k s t.toNat (BA C t.toNat (s.th t.toNat))
structure Ef (nv nf nl:Nat) (C:List (List Ad)):Prop where
 four:C.length<=4
 code:∀c,c∈C->c.length<=24/\∀i,i∈c->Gq nv nf nl C.length c.length i
theorem Ty {C:List (List Ad)} {s:MS} {t:Int} (h:AV C s t=0):∃u:Nat,t=u/\u<s.thr.length/\(s.th u).ph≠0/\Du (s.th u)=false/\BH s (BA C u (s.th u))=false:=by
 unfold AV at h
 by_cases a:t<0\/(s.thr.length:Int)<=t\/(s.th t.toNat).ph=0
 ·rw[if_pos a] at h;cases h
 ·rw[if_neg a] at h
  by_cases b:Du (s.th t.toNat)=true
  ·rw[if_pos b] at h;cases h
  ·rw[if_neg b] at h
   by_cases c:BH s (BA C t.toNat (s.th t.toNat))=true
   ·rw[if_pos c] at h;cases h
   ·have d:¬t<0:=λe=>a (.inl e);have f:¬(s.thr.length:Int)<=t:=λe=>a (.inr (.inl e));refine⟨t.toNat,by omega,by omega,λe=>a (.inr (.inr e)),by simpa using b,by simpa using c⟩
section
variable {nv nf nl:Nat} {C:List (List Ad)} {s s':MS}
theorem MV {n:Nat} {th:TS} (h:GQ n th) (b:th.ph≠0) (a:Du th=false):th.ph=1:=by
 unfold Du at a;simp only[Bool.or_eq_false_iff,beq_eq_false_iff_ne] at a;have:=h.ph
 omega
theorem Lm (a:Ef nv nf nl C) {t:Nat} (b:t<C.length) {th:TS} (c:th.pc<=(C.getD t []).length):BA C t th=Cm\/(Gq nv nf nl C.length (C.getD t []).length (BA C t th)/\th.pc<(C.getD t []).length):=by
 unfold BA
 by_cases e:th.pc<(C.getD t []).length
 ·exact .inr ⟨(a.code _ (CN b)).2 _ (CN e),e⟩
 ·exact .inl (by rw[Xc,XU (by omega)];rfl)
theorem GM (b:Ef nv nf nl C) (h:AW nv nf nl C s) {t:Int} (d:AV C s t=0):∃u:Nat,t=u/\u<C.length/\(s.th u).ph=1/\BH s (BA C u (s.th u))=false/\(BA C u (s.th u)=Cm\/(Gq nv nf nl C.length (C.getD u []).length (BA C u (s.th u))/\(s.th u).pc<(C.getD u []).length)):=by
 obtain⟨u,rfl,a,f,e,c⟩:=Ty d;rw[h.tl] at a;have g:=MV (h.th u a) f e
 exact⟨u,rfl,a,g,c,Lm b a ((h.th u a).pc (by omega))⟩
structure BL (s s':MS):Prop where
 v:s'.vars=s.vars
 f:s'.flags=s.flags
 l:s'.locks=s.locks
 n:s'.thr.length=s.thr.length
 ph:∀t,(s'.th t).ph=(s.th t).ph
 rg:∀t,(s'.th t).regs=(s.th t).regs
 pc:∀t,(s.th t).ph<=1->(s'.th t).pc=(s.th t).pc
theorem BL.refl (s:MS):BL s s:=⟨rfl,rfl,rfl,rfl,λ_=>rfl,λ_=>rfl,λ_ _=>rfl⟩
theorem BL.th (h:BL s s') {t:Nat} (d:(s.th t).ph<=1):s'.th t=s.th t:=by
 have a:=h.ph t;have b:=h.rg t;have c:=h.pc t d
 cases e:s'.th t
 cases f:s.th t
 rw[e,f] at a b c;have a:_=_:=a;have b:_=_:=b;have c:_=_:=c;simp only[TS.mk.injEq]
 exact⟨a,c,b⟩
theorem BL.Ae (h:BL s s') {t:Nat} (b:t<s.thr.length) {x x':TS} (g:x'.ph=x.ph) (d:x'.regs=x.regs) (c:x.ph<=1->x'.pc=x.pc):BL (s.Ae t x) (s'.Ae t x'):=by
 have e:∀u,(s.Ae t x).th u=if u=t then x else s.th u:=λu=>Fr s t u x b
 have a:∀u,(s'.Ae t x').th u=if u=t then x' else s'.th u:=λu=>Fr s' t u x' (by rw[h.n];exact b)
 refine⟨h.v,h.f,h.l,?_,λu=>?_,λu=>?_,λu=>?_⟩
 ·show (s'.thr.set t x').length=(s.thr.set t x).length;rw[Yb,Yb];exact h.n
 ·rw[e,a]
  by_cases q:u=t
  ·rw[if_pos q,if_pos q];exact g
  ·rw[if_neg q,if_neg q];exact h.ph u
 ·rw[e,a]
  by_cases q:u=t
  ·rw[if_pos q,if_pos q];exact d
  ·rw[if_neg q,if_neg q];exact h.rg u
 ·rw[e,a]
  by_cases q:u=t
  ·rw[if_pos q,if_pos q];exact c
  ·rw[if_neg q,if_neg q];exact h.pc u
theorem BL.over (h:BL s s') (t:Nat):Du (s'.th t)=Du (s.th t):=by unfold Du;rw[h.ph t]
theorem BL.waits (h:BL s s') (x:Ad):BH s' x=BH s x:=by
 unfold BH;rw[h.l,h.over,h.ph]
theorem BL.can (h:BL s s') (f:AW nv nf nl C s) (t:Int):AV C s' t=AV C s t:=by
 unfold AV;rw[h.n,h.ph,h.over]
 by_cases c:t<0\/(s.thr.length:Int)<=t\/(s.th t.toNat).ph=0
 ·rw[if_pos c,if_pos c]
 ·rw[if_neg c,if_neg c]
  by_cases d:Du (s.th t.toNat)=true
  ·rw[if_pos d,if_pos d]
  ·rw[if_neg d,if_neg d,h.waits];have g:t.toNat<C.length:=by
    have a:¬t<0:=λe=>c (.inl e);have b:¬(s.thr.length:Int)<=t:=λe=>c (.inr (.inl e));have:=f.tl
    omega
   have:=MV (f.th _ g) (λe=>c (.inr (.inr e))) (by simpa using d);rw[h.th (t:=t.toNat) (by omega)]
theorem BL.step (h:BL s s') {t:Nat} (H:t<s.thr.length) (S:(s.th t).ph=1) (x:Ad) (D:BH s x=false):(Ba true s' t x).2=(Ba false s t x).2/\BL (Ba false s t x).1 (Ba true s' t x).1:=by
 have e:=h.th (t:=t) (by omega);have P:Ba true s' t x=Ba true {s' with vars:=s.vars,flags:=s.flags,locks:=s.locks} t x:=by rw[<-h.v,<-h.f,<-h.l]
 have K:BL s {s' with vars:=s.vars,flags:=s.flags,locks:=s.locks}:=⟨rfl,rfl,rfl,h.n,h.ph,h.rg,h.pc⟩;rw[P];have N:MS.th {s' with vars:=s.vars,flags:=s.flags,locks:=s.locks} t=s.th t:=e;have I:∀(y g:TS),g.ph=y.ph->g.regs=y.regs->(y.ph<=1->g.pc=y.pc)->BL (s.Ae t y) (MS.Ae {s' with vars:=s.vars,flags:=s.flags,locks:=s.locks} t g):=λy g=>K.Ae H;generalize B:({s' with vars:=s.vars,flags:=s.flags,locks:=s.locks}:MS)=q at *;have J:q.vars=s.vars:=by rw[<-B]
 have M:q.flags=s.flags:=by rw[<-B]
 have O:q.locks=s.locks:=by rw[<-B]
 clear B;unfold Ba;rw[N,J,M,O];have a:=λy:TS=>I y y rfl rfl (λ_=>rfl);have F:∀p:Int,p=2\/p=3->BL (s.Ae t {s.th t with ph:=p,pc:=(s.th t).pc+1}) (q.Ae t {s.th t with ph:=p,pc:=(s.th t).pc}):=λp T=>I _ _ rfl rfl (λG=>by have G:p<=1:=G;omega)
 by_cases c1:x.op=El
 ·rw[if_pos c1,if_pos c1];exact⟨rfl,a _⟩
 rw[if_neg c1,if_neg c1]
 by_cases c2:x.op=Eo
 ·rw[if_pos c2,if_pos c2];exact⟨rfl,a _⟩
 rw[if_neg c2,if_neg c2]
 by_cases c3:x.op=Ek
 ·rw[if_pos c3,if_pos c3];exact⟨rfl,a _⟩
 rw[if_neg c3,if_neg c3]
 by_cases c4:x.op=Em
 ·rw[if_pos c4,if_pos c4];exact⟨rfl,a _⟩
 rw[if_neg c4,if_neg c4]
 by_cases c5:x.op=Bq
 ·rw[if_pos c5,if_pos c5];exact⟨rfl,a _⟩
 rw[if_neg c5,if_neg c5]
 by_cases o:x.op=AH
 ·rw[if_pos o,if_pos o];have r:=a {s.th t with pc:=(s.th t).pc+1}
  exact⟨rfl,⟨rfl,r.f,r.l,r.n,r.ph,r.rg,r.pc⟩⟩
 rw[if_neg o,if_neg o]
 by_cases u:x.op=DY
 ·rw[if_pos u,if_pos u];exact⟨rfl,a _⟩
 rw[if_neg u,if_neg u]
 by_cases A:x.op=DX
 ·rw[if_pos A,if_pos A];have r:=a {s.th t with pc:=(s.th t).pc+1}
  exact⟨rfl,⟨r.v,rfl,r.l,r.n,r.ph,r.rg,r.pc⟩⟩
 rw[if_neg A,if_neg A]
 by_cases c:x.op=BN
 ·rw[if_pos c,if_pos c];have r:=a {s.th t with pc:=(s.th t).pc+1}
  exact⟨rfl,⟨r.v,r.f,rfl,r.n,r.ph,r.rg,r.pc⟩⟩
 rw[if_neg c,if_neg c]
 by_cases C:x.op=CG
 ·rw[if_pos C,if_pos C]
  by_cases d:s.locks.getD x.x.toNat 0≠t
  ·rw[if_pos d,if_pos d];exact⟨rfl,F 3 (.inr rfl)⟩
  ·rw[if_neg d,if_neg d];have r:=a {s.th t with pc:=(s.th t).pc+1}
   exact⟨rfl,⟨r.v,r.f,rfl,r.n,r.ph,r.rg,r.pc⟩⟩
 rw[if_neg C,if_neg C]
 by_cases b:x.op=BI
 ·rw[if_pos b,if_pos b];have r:=a {s.th t with pc:=(s.th t).pc+1};refine⟨rfl,?_⟩
  by_cases E:x.x.toNat<(s.Ae t {s.th t with pc:=(s.th t).pc+1}).thr.length
  ·refine r.Ae E rfl (r.rg _) (λ_=>r.pc _ ?_);have R:(s.th x.x.toNat).ph=0:=by
    unfold BH at D;rw[if_neg c,if_neg (by rw[b];decide),if_pos b] at D
    simpa using D
   rw[Fr s t _ _ H]
   split
   ·show (s.th t).ph<=1;omega
   ·omega
  ·have n1:∀(m:MS) (y:TS),m.thr.length<=x.x.toNat->m.Ae x.x.toNat y=m:=λm y Q=>by
    unfold MS.Ae;rw[List.set_eq_of_length_le Q]
   rw[n1 _ _ (afe E),n1 _ _ (by rw[r.n];exact afe E)];exact r
 rw[if_neg b,if_neg b]
 by_cases z:x.op=BO
 ·rw[if_pos z,if_pos z];exact⟨rfl,a _⟩
 rw[if_neg z,if_neg z]
 by_cases j:x.op=Dg
 ·rw[if_pos j,if_pos j];exact⟨rfl,a _⟩
 rw[if_neg j,if_neg j]
 by_cases i:x.op=CV
 ·rw[if_pos i,if_pos i];exact⟨rfl,a _⟩
 rw[if_neg i,if_neg i]
 by_cases k:x.op=CU
 ·rw[if_pos k,if_pos k];exact⟨rfl,a _⟩
 rw[if_neg k,if_neg k]
 by_cases w:x.op=Dh
 ·rw[if_pos w,if_pos w]
  by_cases d:Af (s.th t) x.aR x.aN≠Af (s.th t) x.bR x.bN
  ·rw[if_pos d,if_pos d];exact⟨rfl,F 3 (.inr rfl)⟩
  ·rw[if_neg d,if_neg d];exact⟨rfl,a _⟩
 rw[if_neg w,if_neg w]
 exact⟨rfl,F 2 (.inl rfl)⟩
end
section
variable {w w':Xh} {b:Nat} {p:PD} {s:MS}
theorem Nn (h:Bn w b p s) {t:Nat} (f:t<4) (e:t<p.C.length) (d:(s.th t).pc<=(p.C.getD t []).length) (a:(p.C.getD t []).length<=24) {pc:Nat} (i:(s.th t).pc=pc) {x:Ad} (g:BA p.C t (s.th t)=x) :
 w.cell? ⟨b,27+t*207+7+pc*8,none⟩=some (.string (bs x.op))/\w.cell? ⟨b,27+t*207+7+pc*8+1,none⟩=some (.int .i64 x.r)/\w.cell? ⟨b,27+t*207+7+pc*8+2,none⟩=some (.bool x.aR)/\w.cell? ⟨b,27+t*207+7+pc*8+3,none⟩=some (.int .i64 x.aN)/\w.cell? ⟨b,27+t*207+7+pc*8+4,none⟩=some (.bool x.bR)/\w.cell? ⟨b,27+t*207+7+pc*8+5,none⟩=some (.int .i64 x.bN)/\w.cell? ⟨b,27+t*207+7+pc*8+6,none⟩=some (.int .i64 x.x)/\w.cell? ⟨b,27+t*207+7+pc*8+7,none⟩=some (Ed x.op):=by
 have key:∀j,j<8->w.cell? ⟨b,27+t*207+7+pc*8+j,none⟩=some (Gk x j):=λj c=>by
  rw[show 27+t*207+7+pc*8+j=27+t*207+(7+((s.th t).pc*8+j)) by omega,h.cell (by omega),abr f e d a c,g]
 exact⟨key 0 (by omega),key 1 (by omega),key 2 (by omega),key 3 (by omega),key 4 (by omega),key 5 (by omega),key 6 (by omega),key 7 (by omega)⟩
theorem Lr (h:Bn w b p s):w.cell? ⟨b,855,none⟩=some (.int .i64 p.ts.length):=by rw[h.cell (by omega),Ry]
structure CK (p:PD):Prop where
 fit:Ef p.vs.length p.fs.length p.ls.length p.C
 v:p.vs.length<=4
 f:p.fs.length<=4
 l:p.ls.length<=4
 tc:p.ts.length=p.C.length
abbrev CY (p:PD) (s:MS):Prop:=AW p.vs.length p.fs.length p.ls.length p.C s
theorem Uq (d:CK p) {n:Nat} {x:Ad} (b:x=Cm\/Gq p.vs.length p.fs.length p.ls.length p.C.length n x):TT p x:=by
 have g:=d.fit.four;have f:=d.l
 rcases b with rfl|b
 ·exact⟨by decide,λq=>(by cases q),λq=>(by cases q),λq=>(by cases q)⟩
 ·obtain⟨q,a,c,x1,x2,x3,x4,h⟩:=b.ex;refine⟨b.x0,λe=>?_,λe=>?_,λe=>?_⟩
  ·rw[c] at e;simp only[Bb,XP,X6,or_false] at a
   rcases a with rfl|rfl|rfl|rfl|rfl|rfl|rfl|rfl|rfl|rfl|rfl|rfl|rfl|rfl|rfl|rfl|rfl<;>first|(have:=x3 (by decide);omega)|exact absurd e (by decide)
  ·rw[c] at e;simp only[Bb,XP,X6,or_false] at a
   rcases a with rfl|rfl|rfl|rfl|rfl|rfl|rfl|rfl|rfl|rfl|rfl|rfl|rfl|rfl|rfl|rfl|rfl<;>first|(have:=x4 (by decide);omega)|exact absurd e (by decide)
  ·rw[c] at e;simp only[Bb,XP,X6,or_false] at a
   rcases a with rfl|rfl|rfl|rfl|rfl|rfl|rfl|rfl|rfl|rfl|rfl|rfl|rfl|rfl|rfl|rfl|rfl<;>first|(have:=x4 (by decide);omega)|exact absurd e (by decide)
theorem QG (h:Bn w b p s) (c:CK p) (m:CY p s) (t:Int) :
 XY Tryz.prog 41 #[Ab b,.int .i64 t] w λe w'=>e = .returned (.int .i64 (AV p.C s t))/\Xm w.heap.size w w':=by
 have N:=Lr h;have A:=m.tl;have D:=c.tc;have y:=c.fit.four
 by_cases i:t<0
 ·have a:AV p.C s t=5:=by unfold AV;rw[if_pos (.inl i)]
  rw[a];have M:decide (t<0)=true:=by simpa using i
  clear h c m a i A D y N;unfold Ab
  go_enter Tryz.func41,Tryz.ntmps41
  go_wp2_with fail
  go_ret
  exact⟨rfl,Xq _ _⟩
 ·by_cases z:(s.thr.length:Int)<=t
  ·have a:AV p.C s t=5:=by unfold AV;rw[if_pos (.inr (.inl z))]
   rw[a];have M:decide (t<0)=false:=by simpa using i
   have P:decide ((p.ts.length:Int)<=t)=true:=by simp only[decide_eq_true_eq];omega
   clear h c m a i z A D y;unfold Ab
   go_enter Tryz.func41,Tryz.ntmps41
   go_wp2_with fail
   go_ret
   exact⟨rfl,Xq _ _⟩
  ·obtain⟨u,rfl⟩:∃u:Nat,t=u:=⟨t.toNat,by omega⟩;have n:u<p.C.length:=by omega
   have j:u<4:=by omega
   have X:(u:Int)<4:=by omega
   have M:decide ((u:Int)<0)=false:=by simp
   have P:decide ((p.ts.length:Int)<=(u:Int))=false:=by simp only[decide_eq_false_iff_not];omega
   have W:decide (p.ts.length<=u)=false:=by simp only[decide_eq_false_iff_not];omega
   have O:=Jm h j;have v:=m.th u n
   by_cases k:(s.th u).ph=0
   ·have a:AV p.C s (u:Int)=5:=by unfold AV;rw[Yj,if_pos (.inr (.inr k))]
    rw[a];rw[k] at O;clear h c m a i z A D y v k n j;unfold Ab
    go_enter Tryz.func41,Tryz.ntmps41
    go_wp2_with fail
    go_ret
    exact⟨rfl,Xq _ _⟩
   ·have E:¬((u:Int)<0\/(s.thr.length:Int)<=(u:Int)\/(s.th (u:Int).toNat).ph=0):=by rw[Yj];omega
    have f:=Re h j;have U:((s.th u).ph == 0)=false:=by simpa using k
    cases l:Du (s.th u) with
    |true=>
     have a:AV p.C s (u:Int)=6:=by unfold AV;rw[if_neg E,Yj,if_pos l]
     rw[a];rw[l] at f;generalize (s.th u).ph=ph at *;clear h c m a i z A D y v k n j E l;unfold Ab
     go_enter Tryz.func41,Tryz.ntmps41
     go_wp2_with fail
     refine f.mono ?_;rintro e w1 ⟨rfl,rfl⟩;clear f
     go_wp2_with fail
     go_ret
     exact⟨rfl,Xq _ _⟩
    |false=>
     have Q:=MV v k l;have G:=v.pc (by omega);have K:=(c.fit.code _ (CN (d:=[]) n)).1;rw[l] at f;have o:=Rq h j (by omega);obtain⟨x,F⟩:∃x,BA p.C u (s.th u)=x:=⟨_,rfl⟩;obtain⟨pc,J⟩:∃pc,(s.th u).pc=pc:=⟨_,rfl⟩;rw[J] at o;have H:Bn w.drew b p s:=Am.same h rfl;obtain⟨Y,k1,S,V,k4,T,Z,-⟩:=Nn H j n G K J F;have r:=aez H (x:=x) (Uq c (by rw[<-F];rcases Lm c.fit n G with q|q;exact .inl q;exact .inr q.1));have a:AV p.C s (u:Int)=if BH s x=true then 7 else 0:=by unfold AV;rw[if_neg E,Yj,if_neg (by rw[l];simp),F]
     rw[a];generalize (s.th u).ph=ph at *;generalize BH s x=g at *;unfold Br at r;clear h c m a i z A D y v k n j E l Q G K F J H;unfold Ab at *
     cases g with
     |true=>
      go_enter Tryz.func41,Tryz.ntmps41
      go_wp2_with fail
      refine f.mono ?_;rintro e w1 ⟨rfl,rfl⟩;clear f
      go_wp2_with fail
      refine o.mono ?_;rintro e R ⟨rfl,rfl⟩;clear o
      go_wp2_with fail
      refine r.mono ?_;rintro e w3 ⟨rfl,B⟩;have I:=Aa B;clear r B
      go_wp2_with fail
      go_ret
      exact⟨rfl,(show Xm w1.heap.size w1 w1.drew from⟨rfl,rfl,rfl,Xd _,λ_ _=>rfl⟩).trans I.out⟩
     |false=>
      go_enter Tryz.func41,Tryz.ntmps41
      go_wp2_with fail
      refine f.mono ?_;rintro e w1 ⟨rfl,rfl⟩;clear f
      go_wp2_with fail
      refine o.mono ?_;rintro e R ⟨rfl,rfl⟩;clear o
      go_wp2_with fail
      refine r.mono ?_;rintro e w3 ⟨rfl,B⟩;have I:=Aa B;clear r B
      go_wp2_with fail
      go_ret
      exact⟨rfl,(show Xm w1.heap.size w1 w1.drew from⟨rfl,rfl,rfl,Xd _,λ_ _=>rfl⟩).trans I.out⟩
end
end Go.Proofs.YtdcacoifehkioaaGreatDoor
namespace Go.Proofs.YtdcacoifehkioaaGreatDoor
open Go.RowKit Go.Shelf Go.Proofs.Cod
def GD (nm v:Tx):Tx:=nm++[61]++v++[10]
def Bf (T:Int->Tx) (ns:List Tx) (l:List Int) (i:Nat):Tx:=(YB i).flatMap λk=>GD (ns.getD k []) (T (l.getD k 0))
theorem Ke (T:Int->Tx) (a:List Tx) (l:List Int) (i:Nat):Bf T a l (i+1)=Bf T a l i++GD (a.getD i []) (T (l.getD i 0)):=by
 unfold Bf;rw[ZL,Ya]
 simp
theorem FA (T:Int->Tx) (b:List Tx) (l:List Int) (i:Nat) (e:∀k,(b.getD k []).length<=8) (d:∀k,(T (l.getD k 0)).length<=21):(Bf T b l i).length<=i*31:=by
 induction i with
 |zero=>simp[Bf]
 |succ i f=>
  rw[Ke,Xb];have a:=e i;have c:=d i;have:(GD (b.getD i []) (T (l.getD i 0))).length=(b.getD i []).length+1+(T (l.getD i 0)).length+1:=by simp[GD];omega
  omega
def Ce (ts:List Tx) (n:Int):Tx:=if n = -1 then [45] else ts.getD n.toNat []
section
variable {w w':Xh} {b:Nat} {p:PD} {s:MS}
theorem acK (h:Bn w b p s) (n:Int) (f : -1<=n) (g:n<4) :
 XY Tryz.prog 100 #[Ab b,.int .i64 n] w λe w'=>e = .returned (.string (bs (Ce p.ts n)))/\w'=w:=by
 by_cases a:n = -1
 ·subst a;have e:Ce p.ts (-1)=[45]:=rfl;rw[e];clear h;unfold Ab
  go_enter Tryz.func100,Tryz.ntmps100
  go_wp2_with fail
  go_ret
  exact⟨rfl,rfl⟩
 ·obtain⟨m,rfl⟩:∃m:Nat,n=m:=⟨n.toNat,by omega⟩;have e:Ce p.ts (m:Int)=p.ts.getD m []:=by unfold Ce;rw[if_neg a,Yj]
  rw[e];have d:m<4:=by omega
  have c:w.cell? ⟨b,27+m*207,none⟩=some (.string (bs (p.ts.getD m []))):=by
   have q:=h.cell (k:=27+m*207+0) (by omega);rw[Fy p s d (by omega)] at q;exact q
  have i:((m:Int) == -1)=false:=by simp only[beq_eq_false_iff_ne];omega
  generalize p.ts.getD m []=nm at *;clear h a e d f;unfold Ab
  go_enter Tryz.func100,Tryz.ntmps100
  go_wp2_with fail
  go_ret
  exact⟨rfl,rfl⟩
def BY (p:PD) (s:MS) (o:Nat):List Tx×List Int:=if o=0 then(p.vs,s.vars) else if o=9 then(p.fs,s.flags) else(p.ls,s.locks)
theorem PT (h:Bn w b p s) {o:Nat} (a:o=0\/o=9\/o=18):w.cell? ⟨b,o+8,none⟩=some (.int .i64 (BY p s o).1.length)/\∀i,i<4->w.cell? ⟨b,o+i*2,none⟩=some (.string (bs ((BY p s o).1.getD i [])))/\w.cell? ⟨b,o+i*2+1,none⟩=some (.int .i64 ((BY p s o).2.getD i 0)):=by
 have key:∀k,k<9->w.cell? ⟨b,o+k,none⟩=some (BK (BY p s o).1 (BY p s o).2 k):=λk d=>by
  rw[h.cell (by omega)];unfold Az BY
  rcases a with rfl|rfl|rfl
  ·rw[if_pos (by omega),Nat.zero_add];rfl
  ·rw[if_neg (by omega),if_pos (by omega),show 9+k - 9=k by omega];rfl
  ·rw[if_neg (by omega),if_neg (by omega),if_pos (by omega),show 18+k - 18=k by omega];rfl
 refine⟨key 8 (by omega),λi c=>⟨?_,?_⟩⟩
 ·rw[key (i*2) (by omega)];unfold BK;rw[if_neg (by omega),if_pos (by omega),show i*2 / 2=i by omega]
 ·rw[Nat.add_assoc,key (i*2+1) (by omega)];unfold BK;rw[if_neg (by omega),if_neg (by omega),show (i*2+1) / 2=i by omega]
end
section
variable {w w':Xh} {b B bb:Nat} {p:PD} {s:MS} {out:Tx}
theorem Io (c:UInt8) (n:Int) (h:(c.toNat:Int)=n):Value.int .u8 c.toNat = .int .u8 n:=by rw[h]
theorem PO (h:Bn w b p s) (ay:b<B) (S:BW w B bb out) (aL:B<=w.heap.size) {o:Nat} (ho:o=0\/o=9\/o=18) (hn:(BY p s o).1.length<=4) (r:∀k,((BY p s o).1.getD k []).length<=8) (aF:out.length<=100000) {T:Int->Tx} (n:∀k,(T ((BY p s o).2.getD k 0)).length<=21)
 (g:∀w',Xm B w w'->∀i,i<(BY p s o).1.length->XY Tryz.prog 72 #[.int .i64 ((BY p s o).2.getD i 0)] w' λe ax=>e = .returned (.string (bs (T ((BY p s o).2.getD i 0))))/\Xm w'.heap.size w' ax) :
 XY Tryz.prog 99 #[Ab bb,.pointer (some ⟨b,o,none⟩),.func (.func 72) #[] #[]] w λe w'=>e = .returned (.tuple #[])/\BW w' B bb (out++Bf T (BY p s o).1 (BY p s o).2 (BY p s o).1.length)/\Xm B w w':=by
 have m:=λi=>FA T (BY p s o).1 (BY p s o).2 i r n;have d:=fun(w':Xh) (x:Xm B w w')=>PT (w:=w') (h.same (x.block b ay)) ho;obtain⟨a,ak⟩:∃a,(BY p s o).1=a:=⟨_,rfl⟩;obtain⟨l,hl⟩:∃l,(BY p s o).2=l:=⟨_,rfl⟩;simp only[ak,hl] at hn r n g m d |-;obtain⟨c8,-⟩:=d w (Xq _ _);replace d:=Aa d;replace g:=Aa g;replace m:=Aa m;have W:=Aa S;clear h S ak hl ho;unfold Ab at *
 go_enter Tryz.func99,Tryz.ntmps99
 go_wp2_with fail
 go_loopw [11] (λJ wr=>∃i:Nat,i<=a.length/\J = .int .i64 i/\BW wr B bb (out++Bf T a l i)/\Xm B w wr) (λJ _=>a.length - (intOf J).toNat)
 case atStart=>exact⟨0,Xx _,rfl,(by have:Bf T a l 0=[]:=rfl;rw[this,Yf];exact W.out),Xq _ _⟩
 case round=>
  clear W;obtain⟨i,hi,rfl,y,f⟩:=hrel
  by_cases H:i<a.length
  ·have ai:i<4:=by omega
   have aI:(i:Int)<4:=by omega
   have aE:(i:Int)<(a.length:Int):=by omega
   have ac:XN ((i:Int)+1)=(i:Int)+1:=by unfold XN;omega
   obtain⟨-,av⟩:=d.out wr f;obtain⟨c1,c2⟩:=av i ai;have aB:=m.out i;have t:=Ke T a l i;have a8:=r i;have ad:=n i;have G:Hid (∀w',Xm B w w'->_):=λw' x=>g.out w' x i H;obtain⟨nm,ah⟩:∃nm,a.getD i []=nm:=⟨_,rfl⟩;obtain⟨v,D⟩:∃v,l.getD i 0=v:=⟨_,rfl⟩;rw[ah] at c1 t a8;rw[D] at t ad;rw[D] at G;obtain⟨E,K⟩:∃E,T v=E:=⟨_,rfl⟩;rw[K] at t ad;rw[K] at G;obtain⟨A,C⟩:∃A,out++Bf T a l i=A:=⟨_,rfl⟩;have aH:A.length<=100000+124:=by rw[<-C,Xb];omega
   rw[C] at y;have O:out++Bf T a l (i+1)=(((A++nm)++[61])++E)++[10]:=by rw[t,<-C];simp[GD]
   have Q:=GP y nm (by omega) (by have:=f.size;omega);have HB:=Aa f;have ap:Hid (∀w',Xm B w w'->w'.cell? ⟨b,o+i*2+1,none⟩=some (.int .i64 v)):=λw' x=>by
    obtain⟨-,q⟩:=d.out w' x;have:=(q i ai).2;rw[D] at this;exact this
   replace O:=Aa O;clear c2 av aB t ah D K y C f r n hi d g m;unfold Ab at Q
   go_wp2_with fail
   refine Q.mono ?_;rintro e w1 ⟨rfl,am,Z⟩;have R:=HB.out.trans Z;have F:=Ip am 61 (by rw[Xb];omega) (by have:=R.size;omega);have X:=Aa R;clear Q am Z R c1;unfold Ab at F;rw[Io 61 61 rfl] at F
   go_wp2_with fail
   refine F.mono ?_;rintro e w2 ⟨rfl,u,aq⟩;have c:=X.out.trans aq;have c2:=ap.out w2 c;have U:=G.out w2 c;have ao:=Aa (⟨c,u⟩:_/\_);clear F u aq c X HB
   go_wp2_with fail
   refine U.mono ?_;rintro e w3 ⟨rfl,M⟩;obtain⟨c,u⟩:=ao.out;have ab:=u.below M;have P:Xm B w w3:=c.trans (M.mono (by have:=c.size;omega));have N:=GP ab E (by simp only[Xb,XJ,X2];omega) (by have:=P.size;omega);have aa:=Aa P;clear U M c u ab P ao c2 ap G;unfold Ab at N
   go_wp2_with fail
   refine N.mono ?_;rintro e w4 ⟨rfl,V,af⟩;have I:=aa.out.trans af;have z:=Ip V 10 (by simp only[Xb,XJ,X2];omega) (by have:=I.size;omega);have ag:=Aa I;clear N V af I aa;unfold Ab at z;rw[Io 10 10 rfl] at z
   go_wp2_with fail
   refine z.mono ?_;rintro e w5 ⟨rfl,aw,Y⟩;have j:=Aa (⟨aw,ag.out.trans Y,H⟩:_/\_/\_);clear z aw Y ag H
   go_wp2_with fail
   go_roundw
   case rel=>
    (try rw[ac])
    refine⟨i+1,j.out.2.2,rfl,?_,j.out.2.1⟩;rw[O.out];exact j.out.1
   case measure=>
    (try rw[ac])
    exact Xl j.out.2.2 (Xo i)
  ·have aD:i=a.length:=by omega
   subst aD;have j:=Aa (⟨y,f⟩:_/\_);clear y f d g m r n
   go_wp2_with fail
   go_end0
   exact⟨rfl,j.out⟩
theorem VM (h:Bn w b p s) (ay:b<B) (U:BW w B bb out) (aL:B<=w.heap.size) {o:Nat} (ho:o=0\/o=9\/o=18) (hn:(BY p s o).1.length<=4) (r:∀k,((BY p s o).1.getD k []).length<=8) (aF:out.length<=100000) {T:Int->Tx} (n:∀k,(T ((BY p s o).2.getD k 0)).length<=21)
 (g:∀w',Xm B w w'->∀i,i<(BY p s o).1.length->XY Tryz.prog 100 #[Ab b,.int .i64 ((BY p s o).2.getD i 0)] w' λe ax=>e = .returned (.string (bs (T ((BY p s o).2.getD i 0))))/\Xm w'.heap.size w' ax) :
 XY Tryz.prog 99 #[Ab bb,.pointer (some ⟨b,o,none⟩),.func (.func 100) #[Ab b] #[]] w λe w'=>e = .returned (.tuple #[])/\BW w' B bb (out++Bf T (BY p s o).1 (BY p s o).2 (BY p s o).1.length)/\Xm B w w':=by
 have m:=λi=>FA T (BY p s o).1 (BY p s o).2 i r n;have d:=fun(w':Xh) (x:Xm B w w')=>PT (w:=w') (h.same (x.block b ay)) ho;obtain⟨a,ak⟩:∃a,(BY p s o).1=a:=⟨_,rfl⟩;obtain⟨l,hl⟩:∃l,(BY p s o).2=l:=⟨_,rfl⟩;simp only[ak,hl] at hn r n g m d |-;obtain⟨c8,-⟩:=d w (Xq _ _);replace d:=Aa d;replace g:=Aa g;replace m:=Aa m;have W:=Aa U;clear h U ak hl ho;unfold Ab at *
 go_enter Tryz.func99,Tryz.ntmps99
 go_wp2_with fail
 go_loopw [11] (λK wr=>∃i:Nat,i<=a.length/\K = .int .i64 i/\BW wr B bb (out++Bf T a l i)/\Xm B w wr) (λK _=>a.length - (intOf K).toNat)
 case atStart=>exact⟨0,Xx _,rfl,(by have:Bf T a l 0=[]:=rfl;rw[this,Yf];exact W.out),Xq _ _⟩
 case round=>
  clear W;obtain⟨i,hi,rfl,y,f⟩:=hrel
  by_cases I:i<a.length
  ·have ai:i<4:=by omega
   have aI:(i:Int)<4:=by omega
   have aE:(i:Int)<(a.length:Int):=by omega
   have ac:XN ((i:Int)+1)=(i:Int)+1:=by unfold XN;omega
   obtain⟨-,av⟩:=d.out wr f;obtain⟨c1,c2⟩:=av i ai;have aB:=m.out i;have t:=Ke T a l i;have a8:=r i;have ad:=n i;have G:Hid (∀w',Xm B w w'->_):=λw' x=>g.out w' x i I;obtain⟨nm,ah⟩:∃nm,a.getD i []=nm:=⟨_,rfl⟩;obtain⟨v,D⟩:∃v,l.getD i 0=v:=⟨_,rfl⟩;rw[ah] at c1 t a8;rw[D] at t ad;rw[D] at G;obtain⟨E,M⟩:∃E,T v=E:=⟨_,rfl⟩;rw[M] at t ad;rw[M] at G;obtain⟨A,C⟩:∃A,out++Bf T a l i=A:=⟨_,rfl⟩;have aH:A.length<=100000+124:=by rw[<-C,Xb];omega
   rw[C] at y;have P:out++Bf T a l (i+1)=(((A++nm)++[61])++E)++[10]:=by rw[t,<-C];simp[GD]
   have R:=GP y nm (by omega) (by have:=f.size;omega);have HB:=Aa f;have ap:Hid (∀w',Xm B w w'->w'.cell? ⟨b,o+i*2+1,none⟩=some (.int .i64 v)):=λw' x=>by
    obtain⟨-,q⟩:=d.out w' x;have:=(q i ai).2;rw[D] at this;exact this
   replace P:=Aa P;clear c2 av aB t ah D M y C f r n hi d g m;unfold Ab at R
   go_wp2_with fail
   refine R.mono ?_;rintro e w1 ⟨rfl,am,Z⟩;have S:=HB.out.trans Z;have F:=Ip am 61 (by rw[Xb];omega) (by have:=S.size;omega);have X:=Aa S;clear R am Z S c1;unfold Ab at F;rw[Io 61 61 rfl] at F
   go_wp2_with fail
   refine F.mono ?_;rintro e w2 ⟨rfl,u,aq⟩;have c:=X.out.trans aq;have c2:=ap.out w2 c;have H:=G.out w2 c;have ao:=Aa (⟨c,u⟩:_/\_);clear F u aq c X HB;unfold Ab at H
   go_wp2_with fail
   refine H.mono ?_;rintro e w3 ⟨rfl,N⟩;obtain⟨c,u⟩:=ao.out;have ab:=u.below N;have Q:Xm B w w3:=c.trans (N.mono (by have:=c.size;omega));have O:=GP ab E (by simp only[Xb,XJ,X2];omega) (by have:=Q.size;omega);have aa:=Aa Q;clear H N c u ab Q ao c2 ap G;unfold Ab at O
   go_wp2_with fail
   refine O.mono ?_;rintro e w4 ⟨rfl,V,af⟩;have J:=aa.out.trans af;have z:=Ip V 10 (by simp only[Xb,XJ,X2];omega) (by have:=J.size;omega);have ag:=Aa J;clear O V af J aa;unfold Ab at z;rw[Io 10 10 rfl] at z
   go_wp2_with fail
   refine z.mono ?_;rintro e w5 ⟨rfl,aw,Y⟩;have j:=Aa (⟨aw,ag.out.trans Y,I⟩:_/\_/\_);clear z aw Y ag I
   go_wp2_with fail
   go_roundw
   case rel=>
    (try rw[ac])
    refine⟨i+1,j.out.2.2,rfl,?_,j.out.2.1⟩;rw[P.out];exact j.out.1
   case measure=>
    (try rw[ac])
    exact Xl j.out.2.2 (Xo i)
  ·have aD:i=a.length:=by omega
   subst aD;have j:=Aa (⟨y,f⟩:_/\_);clear y f d g m r n
   go_wp2_with fail
   go_end0
   exact⟨rfl,j.out⟩
end
def Gb (th:TS):Tx:=if th.ph=1 then [97,116,32]++Yh th.pc else if th.ph=2 then [101,110,100,101,100] else if th.ph=3 then [102,97,105,108,101,100] else [110,101,119]
def BT (l:List Int) (i:Nat):Tx:=(YB i).flatMap λk=>32::Yh (l.getD k 0)
theorem JS (l:List Int) (i:Nat):BT l (i+1)=(BT l i++[32])++Yh (l.getD i 0):=by
 unfold BT;rw[ZL,Ya]
 simp
def CQ (nm:Tx) (th:TS):Tx:=nm++[32]++Gb th++(if th.ph=0 then [] else BT th.regs 4)++[10]
theorem Dw {n:Int} (b:0<=n) (a:n<1000):(Yh n).length<=21:=Lib.itoa_length_le n (by omega) (by omega)
section
variable {w w':Xh} {b B bb B0:Nat} {p:PD} {s:MS} {out:Tx}
theorem abB (h:Bn w b p s) {t:Nat} (a:t<4):w.cell? ⟨b,27+t*207,none⟩=some (.string (bs (p.ts.getD t []))):=by
 have q:=h.cell (k:=27+t*207+0) (by omega);rw[Fy p s a (by omega)] at q;exact q
theorem aaD (h:Bn w b p s) {t:Nat} (c:t<4) (f:Cn w B0) (g:0<=(s.th t).ph/\(s.th t).ph<=3) (i:(s.th t).pc<=25) :
 XY Tryz.prog 136 #[.pointer (some ⟨b,27+t*207,none⟩)] w λe w'=>e = .returned (.string (bs (Gb (s.th t))))/\Xm w.heap.size w w':=by
 have c1:=Jm h c;have c2:=Lq h c;have a:=IM ((s.th t).pc:Int) (by omega) (by omega) w f;have m:=Dw (n:=(s.th t).pc) (by omega) (by omega);unfold Gb;have j:(s.th t).ph=0\/(s.th t).ph=1\/(s.th t).ph=2\/(s.th t).ph=3:=by omega
 generalize (s.th t).ph=ph at *;generalize (s.th t).pc=pc at *;generalize Yh (pc:Int)=it at *;clear h c g i f
 rcases j with rfl|rfl|rfl|rfl
 ·clear a
  go_enter Tryz.func136,Tryz.ntmps136
  go_wp2_with fail
  go_ret
  exact⟨rfl,Xq _ _⟩
 ·simp only[if_pos];have o:¬9223372036854775807<3+(bs it).size:=by rw[Bg];omega
  have l:(⟨#[97,116,32]⟩:ByteArray)++bs it=bs ([97,116,32]++it):=BE [97,116,32] it
  go_enter Tryz.func136,Tryz.ntmps136
  go_wp2_with fail
  refine a.mono ?_;rintro e w1 ⟨rfl,d⟩;have k:=Aa d;clear a d
  go_wp2_with fail
  go_ret
  exact⟨rfl,k.out⟩
 ·clear a
  go_enter Tryz.func136,Tryz.ntmps136
  go_wp2_with fail
  go_ret
  exact⟨rfl,Xq _ _⟩
 ·clear a
  go_enter Tryz.func136,Tryz.ntmps136
  go_wp2_with fail
  go_ret
  exact⟨rfl,Xq _ _⟩
end
section
variable {w w':Xh} {b B bb B0:Nat} {p:PD} {s:MS} {out:Tx}
theorem acH (a d c b:Int) (w:Xh):(Instr.index 104 (.agg #[.int .i64 a,.int .i64 d,.int .i64 c,.int .i64 b]) (.int .i64 0)).run Tryz.prog w = .ok (.int .i64 a) w:=by kernel_rfl
theorem acG (d a c b:Int) (w:Xh):(Instr.index 104 (.agg #[.int .i64 d,.int .i64 a,.int .i64 c,.int .i64 b]) (.int .i64 1)).run Tryz.prog w = .ok (.int .i64 a) w:=by kernel_rfl
theorem acF (c d a b:Int) (w:Xh):(Instr.index 104 (.agg #[.int .i64 c,.int .i64 d,.int .i64 a,.int .i64 b]) (.int .i64 2)).run Tryz.prog w = .ok (.int .i64 a) w:=by kernel_rfl
theorem acE (c d b a:Int) (w:Xh):(Instr.index 104 (.agg #[.int .i64 c,.int .i64 d,.int .i64 b,.int .i64 a]) (.int .i64 3)).run Tryz.prog w = .ok (.int .i64 a) w:=by kernel_rfl
theorem abz (h:Bn w b p s) {t m:Nat} (a:t<4) (c:m<4):w.cell? ⟨b,27+t*207+3+m,none⟩=some (.int .i64 ((s.th t).regs.getD m 0)):=by
 rw[show 27+t*207+3+m=27+t*207+(3+m) by omega,h.cell (by omega),Fy p s a (by omega)];unfold BR;rw[if_neg (by omega),if_neg (by omega),if_neg (by omega),if_pos (by omega),show 3+m - 3=m by omega]
theorem QT (th:TS) (h:th.pc<=25):(Gb th).length<=24:=by
 have:=Dw (n:=th.pc) (by omega) (by omega);unfold Gb
 split
 ·rw[Xb];simp only[XJ,X2];omega
 ·split
  ·decide
  ·split<;>decide
theorem JT (l:List Int) (a:∀k,0<=l.getD k 0/\l.getD k 0<1000) (i:Nat):(BT l i).length<=i*22:=by
 induction i with
 |zero=>simp[BT]
 |succ i b=>
  rw[JS,Xb,Xb];have:=Dw (a i).1 (a i).2;simp only[XJ,X2]
  omega
theorem Hg {n:Nat} {th:TS} (h:GQ n th) (k:Nat):0<=th.regs.getD k 0/\th.regs.getD k 0<1000:=by
 by_cases e:k<th.regs.length
 ·exact h.rv _ (CN e)
 ·rw[Xc,XU (by omega)]
  exact⟨by decide,by decide⟩
theorem VL (h:Bn w b p s) (aZ:b<B) (hW:BW w B bb out) (aX:B<=w.heap.size) {t n:Nat} (ht:t<4) (aK:Cn w B0) (aY:B0<=B) (E:GQ n (s.th t)) (hn:n<=24) (h8:(p.ts.getD t []).length<=8) (bd:out.length<=200000) :
 XY Tryz.prog 101 #[Ab bb,.pointer (some ⟨b,27+t*207,none⟩)] w λe w'=>e = .returned (.tuple #[])/\BW w' B bb (out++CQ (p.ts.getD t []) (s.th t))/\Xm B w w':=by
 have au:(s.th t).pc<=25:=by have:=E.pc2;omega
 have aW:=QT _ au;have hM:=fun(w':Xh) (d:Xm B w w')=>(h.same (d.block b aZ):Bn w' b p s)
 have aq:=fun(w':Xh) (d:Xm B w w')=>(aK.keep (d.mono aY))
 have hP:=Aa (fun(w':Xh) (d:Xm B w w')=>aaD (hM w' d) ht (aq w' d) E.ph au);have N:=Aa (fun(w':Xh) (d:Xm B w w') (k:Nat)=>IM ((s.th t).regs.getD k 0) (by have:=(Hg E k).1;omega) (by have:=(Hg E k).2;omega) w' (aq w' d));have U:=JT _ (Hg E);have O:=λk=>Dw (Hg E k).1 (Hg E k).2;have cP:=Aa (fun(w':Xh) (d:Xm B w w')=>Jm (hM w' d) ht);have Q:=Aa (fun(w':Xh) (d:Xm B w w') (k:Nat) (hk:k<4)=>abz (hM w' d) ht hk);have c0:=abB h ht;obtain⟨nm,aT⟩:∃nm,p.ts.getD t []=nm:=⟨_,rfl⟩;obtain⟨th,aV⟩:∃th,s.th t=th:=⟨_,rfl⟩;simp only[aT,aV] at *;obtain⟨H,aA⟩:∃H,Gb th=H:=⟨_,rfl⟩;have aG:=GP hW nm (by omega) aX;have aF:CQ nm th=nm++[32]++H++(if th.ph=0 then [] else BT th.regs 4)++[10]:=by unfold CQ;rw[aA]
 rw[aF];obtain⟨F,D⟩:∃F,out++(nm++[32]++H++(if th.ph=0 then [] else BT th.regs 4)++[10])=F:=⟨_,rfl⟩;rw[D];replace D:=Aa D;rw[aA] at aW hP;clear h hW hM aq aK E aT aV aA aF au;unfold Ab at *
 go_enter Tryz.func101,Tryz.ntmps101
 go_wp2_with fail
 refine aG.mono ?_;rintro e w1 ⟨rfl,aM,am⟩;have aa:=Ip aM 32 (by rw[Xb];omega) (by have:=am.size;omega);have aD:=Aa am;clear aG aM am c0;unfold Ab at aa;rw[Io 32 32 rfl] at aa
 go_wp2_with fail
 refine aa.mono ?_;rintro e w2 ⟨rfl,V,aO⟩;have J:=aD.out.trans aO;have aC:=hP.out w2 J;have aN:=Aa (⟨J,V⟩:_/\_);clear aa V aO J aD hP
 go_wp2_with fail
 refine aC.mono ?_;rintro e w3 ⟨rfl,av⟩;obtain⟨J,V⟩:=aN.out;have aR:=V.below av;have aw:Xm B w w3:=J.trans (av.mono (by have:=J.size;omega));have ah:=GP aR H (by simp only[Xb,XJ,X2];omega) (by have:=aw.size;omega);have ar:=Aa aw;clear aC av J V aR aw aN;unfold Ab at ah
 go_wp2_with fail
 refine ah.mono ?_;rintro e R ⟨rfl,T,az⟩;have A:=ar.out.trans az;have c1:=cP.out R A;obtain⟨K,aB⟩:∃K,out++nm++[32]++H=K:=⟨_,rfl⟩;have bj:K.length<=200100:=by rw[<-aB];simp only[Xb,XJ,X2];omega
 rw[aB] at T;have Z:∀r:Tx,out++(nm++[32]++H++r++[10])=(K++r)++[10]:=λr=>by rw[<-aB];simp
 by_cases P:th.ph=0
 ·replace D:Hid (F=K++[10]):=by unfold Hid;rw[<-D.out,if_pos P,Z,Yf]
  rw[P] at c1;have W:=Ip T 10 (by omega) (by have:=A.size;omega);have aL:=Aa A;clear ah T az A ar cP Q N U O Z P;unfold Ab at W;rw[Io 10 10 rfl] at W
  go_wp2_with fail
  refine W.mono ?_;rintro e w5 ⟨rfl,aI,aE⟩;have g:=Aa (⟨aI,aL.out.trans aE⟩:_/\_);clear W aI aE aL
  go_wp2_with fail
  go_end0
  rw[D.out]
  exact⟨rfl,g.out⟩
 ·replace D:Hid (F=K++BT th.regs 4++[10]):=by unfold Hid;rw[<-D.out,if_neg P,Z]
  have bm:(th.ph != 0)=true:=by simpa using P
  have r0:=Q.out R A 0 (by omega);have r1:=Q.out R A 1 (by omega);have r2:=Q.out R A 2 (by omega);have r3:=Q.out R A 3 (by omega);rw[Nat.add_zero] at r0;have S:=JS th.regs;have Y:BT th.regs 0=[]:=rfl;have a7:=Aa (λw' d=>N.out w' d 0);have a1:=Aa (λw' d=>N.out w' d 1);have a3:=Aa (λw' d=>N.out w' d 2);have a0:=Aa (λw' d=>N.out w' d 3);have aj:=S 0;have ad:=S 1;have X:=S 2;have af:=S 3;have be:=O 0;have bh:=O 1;have bk:=O 2;have bg:=O 3;generalize th.regs.getD 0 0=q0 at *;generalize th.regs.getD 1 0=q1 at *;generalize th.regs.getD 2 0=q2 at *;generalize th.regs.getD 3 0=q3 at *;obtain⟨RT,aQ⟩:∃RT,BT th.regs=RT:=⟨_,rfl⟩;rw[aQ] at aj ad X af U Y D;replace aj:=Aa aj;replace ad:=Aa ad;replace X:=Aa X;replace af:=Aa af;have H4:=Aa (⟨T,A⟩:_/\_);replace U:=Aa U;replace Y:=Aa Y;clear ah T az A ar cP Q N O Z P S aQ
  go_wp2_with fail
  go_loopw [27] (λiv wr=>∃i:Nat,i<=4/\iv = .int .i64 i/\BW wr B bb (K++RT i)/\Xm B w wr) (λiv _=>4 - (intOf iv).toNat)
  case atStart=>exact⟨0,Xx _,rfl,(by rw[Y.out,Yf];exact H4.out.1),H4.out.2⟩
  case round=>
   clear H4;obtain⟨i,hi,rfl,hS,M⟩:=hrel;have bn:=U.out i
   by_cases h5:i<4
   ·have:i=0\/i=1\/i=2\/i=3:=by omega
    have C:=Ip hS 32 (by rw[Xb];omega) (by have:=M.size;omega);have z:=Aa M;clear hS M hi h5;unfold Ab at C;rw[Io 32 32 rfl] at C
    rcases this with rfl|rfl|rfl|rfl
    ·have ay:=acH q0 q1 q2 q3
     go_wp2_with fail
     refine C.mono ?_;rintro e G ⟨rfl,c,u⟩;have a:=z.out.trans u;have v:=a7.out G a;have x:=Aa (⟨a,c⟩:_/\_);clear C c u a z
     go_wp2_with fail
     refine v.mono ?_;rintro e I ⟨rfl,l⟩;obtain⟨a,c⟩:=x.out;have m:=c.below l;have f:Xm B w I:=a.trans (l.mono (by have:=a.size;omega));have j:=GP m (Yh q0) (by simp only[Xb,XJ,X2];omega) (by have:=f.size;omega);have y:=Aa f;clear v l a c m f x;unfold Ab at j
     go_wp2_with fail
     refine j.mono ?_;rintro e w8 ⟨rfl,o,q⟩;have g:=Aa (⟨o,y.out.trans q⟩:_/\_);clear j o q y
     go_wp2_with fail
     go_roundw
     case rel=>
      refine⟨1,by omega,rfl,?_,g.out.2⟩;rw[aj.out,<-X3,<-X3];exact g.out.1
     case measure=>decide
    ·have ay:=acG q0 q1 q2 q3
     go_wp2_with fail
     refine C.mono ?_;rintro e G ⟨rfl,c,u⟩;have a:=z.out.trans u;have v:=a1.out G a;have x:=Aa (⟨a,c⟩:_/\_);clear C c u a z
     go_wp2_with fail
     refine v.mono ?_;rintro e I ⟨rfl,l⟩;obtain⟨a,c⟩:=x.out;have m:=c.below l;have f:Xm B w I:=a.trans (l.mono (by have:=a.size;omega));have j:=GP m (Yh q1) (by simp only[Xb,XJ,X2];omega) (by have:=f.size;omega);have y:=Aa f;clear v l a c m f x;unfold Ab at j
     go_wp2_with fail
     refine j.mono ?_;rintro e w8 ⟨rfl,o,q⟩;have g:=Aa (⟨o,y.out.trans q⟩:_/\_);clear j o q y
     go_wp2_with fail
     go_roundw
     case rel=>
      refine⟨2,by omega,rfl,?_,g.out.2⟩;rw[ad.out,<-X3,<-X3];exact g.out.1
     case measure=>decide
    ·have ay:=acF q0 q1 q2 q3
     go_wp2_with fail
     refine C.mono ?_;rintro e G ⟨rfl,c,u⟩;have a:=z.out.trans u;have v:=a3.out G a;have x:=Aa (⟨a,c⟩:_/\_);clear C c u a z
     go_wp2_with fail
     refine v.mono ?_;rintro e I ⟨rfl,l⟩;obtain⟨a,c⟩:=x.out;have m:=c.below l;have f:Xm B w I:=a.trans (l.mono (by have:=a.size;omega));have j:=GP m (Yh q2) (by simp only[Xb,XJ,X2];omega) (by have:=f.size;omega);have y:=Aa f;clear v l a c m f x;unfold Ab at j
     go_wp2_with fail
     refine j.mono ?_;rintro e w8 ⟨rfl,o,q⟩;have g:=Aa (⟨o,y.out.trans q⟩:_/\_);clear j o q y
     go_wp2_with fail
     go_roundw
     case rel=>
      refine⟨3,by omega,rfl,?_,g.out.2⟩;rw[X.out,<-X3,<-X3];exact g.out.1
     case measure=>decide
    ·have ay:=acE q0 q1 q2 q3
     go_wp2_with fail
     refine C.mono ?_;rintro e G ⟨rfl,c,u⟩;have a:=z.out.trans u;have v:=a0.out G a;have x:=Aa (⟨a,c⟩:_/\_);clear C c u a z
     go_wp2_with fail
     refine v.mono ?_;rintro e I ⟨rfl,l⟩;obtain⟨a,c⟩:=x.out;have m:=c.below l;have f:Xm B w I:=a.trans (l.mono (by have:=a.size;omega));have j:=GP m (Yh q3) (by simp only[Xb,XJ,X2];omega) (by have:=f.size;omega);have y:=Aa f;clear v l a c m f x;unfold Ab at j
     go_wp2_with fail
     refine j.mono ?_;rintro e w8 ⟨rfl,o,q⟩;have g:=Aa (⟨o,y.out.trans q⟩:_/\_);clear j o q y
     go_wp2_with fail
     go_roundw
     case rel=>
      refine⟨4,by omega,rfl,?_,g.out.2⟩;rw[af.out,<-X3,<-X3];exact g.out.1
     case measure=>decide
   ·have a4:i=4:=by omega
    subst a4;have ab:=Ip hS 10 (by rw[Xb];omega) (by have:=M.size;omega);have z:=Aa M;clear hS M hi h5;unfold Ab at ab;rw[Io 10 10 rfl] at ab
    go_wp2_with fail
    refine ab.mono ?_;rintro e w9 ⟨rfl,aU,aH⟩;have g:=Aa (⟨aU,z.out.trans aH⟩:_/\_);clear ab aU aH z
    go_wp2_with fail
    go_end0
    rw[D.out]
    exact⟨rfl,g.out⟩
end
end Go.Proofs.YtdcacoifehkioaaGreatDoor
