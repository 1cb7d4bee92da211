import Derived.Test.YtdcacoifehkioaaGreatDoorExH13
import Derived.BigQuiet
open Go renaming World->Xh,Calls->XX
open Go.RowKit renaming Below->Xm,wrap64->XO
open Go.RowKit.Below renaming refl->Xq
open Nat renaming le_refl->Xd,le_of_not_lt->afs,zero_le->Xw,sub_lt_sub_left->Xl,lt_succ_self->Xn
open Bool renaming eq_iff_iff->YH
open List renaming getD_eq_getElem?_getD->Xc,getElem?_eq_none->XU,length_set->Yc,mem_cons->XR,not_mem_nil->X8,range->YB,range_succ->ZN,flatMap_append->X6,length_append->Xb,append_nil->Ye,length_cons->XH,length_nil->X3,append_assoc->XZ
open Int renaming toNat_natCast->Yg
open Go.Lib renaming itoa->Yj
set_option maxRecDepth 100000
set_option maxHeartbeats 2000000
set_option linter.unusedVariables false
set_option linter.unusedSimpArgs false
namespace Go.Proofs.YtdcacoifehkioaaGreatDoor
open Go.RowKit Go.Proofs.Cod
section
variable {w w':Xh} {b:Nat} {p:PD} {s:MS}
abbrev AP (w:Xh) (b:Nat) (p:PD) (s:MS):Prop:=An w b 117 856 (AA p s)
theorem Jp (h:AP w b p s) {t:Nat} (a:t<4):w.cell? ⟨b,27+t*207+1,none⟩=some (.int .i64 (s.th t).ph):=by
 rw[h.cell (by omega),Fz p s a (by omega)];rfl
theorem Lp (h:AP w b p s) {t:Nat} (a:t<4):w.cell? ⟨b,27+t*207+2,none⟩=some (.int .i64 (s.th t).pc):=by
 rw[h.cell (by omega),Fz p s a (by omega)];rfl
theorem abL (h:AP w b p s) {i:Nat} (a:i<4):w.cell? ⟨b,18+(i*2+1),none⟩=some (.int .i64 (s.locks.getD i 0)):=by
 rw[h.cell (by omega),Nq p s a]
theorem Rl (h:AP w b p s) {t:Nat} (a:t<4) :
 XX Tryz.prog 97 #[.pointer (some ⟨b,27+t*207,none⟩)] w λe w'=>e = .returned (.bool (CV (s.th t)))/\w'=w:=by
 have c1:=Jp h a;unfold CV;generalize (s.th t).ph=ph at *;clear h a
 cases c:ph == 2 with
 |true=>
  go_enter Tryz.func97,Tryz.ntmps97
  go_wp2_with fail
  go_ret
  exact⟨rfl,rfl⟩
 |false=>
  go_enter Tryz.func97,Tryz.ntmps97
  go_wp2_with fail
  go_ret
  exact⟨rfl,rfl⟩
theorem Rz (h:AP w b p s) {t:Nat} (a:t<4) (c:(s.th t).pc<=24) :
 XX Tryz.prog 42 #[.pointer (some ⟨b,27+t*207,none⟩)] w λe w'=>e = .returned (.pointer (some ⟨b,27+t*207+7+(s.th t).pc*8,none⟩))/\w'=w.drew:=by
 have c2:=Lp h a;generalize (s.th t).pc=pc at *;have d:(pc:Int)<25:=by omega
 clear h a c
 go_enter Tryz.func42,Tryz.ntmps42
 go_wp2_with fail
 go_region
 all_goals
  go_wp2_with fail
  go_ret
  exact⟨rfl,rfl⟩
structure Ug (p:PD) (x:Ad):Prop where
 x0:0<=x.x
 lock:x.op=BP->x.x<4
 join:x.op=BQ->x.x<4
 spawn:x.op=BJ->x.x<4
theorem aeJ (h:AP w b p s) {x:Ad} (j:Ug p x) :
 XX Tryz.prog 98 #[Ab b,.agg (Bv x)] w λe w'=>e = .returned (.bool (BG s x))/\Xm w.heap.size w w':=by
 have i:Xm w.heap.size w (w.alloc (.cells (Bv x) 108)):=(Xq _ _).alloc (Xd _) _;have o:=h.below i;obtain⟨n,g⟩:∃n:Nat,x.x=n:=⟨x.x.toNat,by have:=j.x0;omega⟩;have B:((bs x.op).toList == BP)=decide (x.op=BP):=by rw[AK];exact YH.2 (by simp)
 have C:((bs x.op).toList == BQ)=decide (x.op=BQ):=by rw[AK];exact YH.2 (by simp)
 have A:((bs x.op).toList == BJ)=decide (x.op=BJ):=by rw[AK];exact YH.2 (by simp)
 have m:x.x.toNat=n:=by omega
 by_cases a:x.op=BP
 ·have k:n<4:=by have:=j.lock a;omega
  have d:BG s x=decide (s.locks.getD n 0≠-1):=by unfold BG;rw[if_pos a,m]
  have c:=abL o k;rw[show 18+(n*2+1)=18+n*2+1 by omega] at c;rw[d];generalize s.locks.getD n 0=v at *;have z:decide (v≠-1)=(v != -1):=by rw[YH];simp
  rw[z];have D:(n:Int)<4:=by omega
  obtain⟨u,r,aR,aN,bR,bN,y⟩:=x;have g:y=n:=g;subst g;have a:u=BP:=a;subst a;unfold Bv at *;dsimp only at *;have t:=Aa i;clear i j B C A o h m d z k;unfold Ab BP bs at *
  go_enter Tryz.func98,Tryz.ntmps98
  go_wp2_with fail
  go_quiet (fail)
  go_wp2_with fail
  go_ret
  exact⟨rfl,t.out.trans ⟨rfl,rfl,rfl,Xd _,λ_ _=>rfl⟩⟩
 ·by_cases f:x.op=BQ
  ·have k:n<4:=by have:=j.join f;omega
   have d:BG s x = !CV (s.th n):=by unfold BG;rw[if_neg a,if_pos f,m]
   have O:=λq=>Rl (An.same (w':=(w.alloc (.cells (Bv x) 108)).drewN q) o rfl) k;rw[d];generalize CV (s.th n)=v at *;have D:(n:Int)<4:=by omega
   obtain⟨u,r,aR,aN,bR,bN,y⟩:=x;have g:y=n:=g;subst g;have f:u=BQ:=f;subst f;unfold Bv at *;dsimp only at *;have t:=Aa i;clear i j B C A o h m d k a;unfold Ab BQ bs at *
   go_enter Tryz.func98,Tryz.ntmps98
   go_wp2_with fail
   go_quiet ((go_at_call 97;refine Calls.quiet_of_same (O _)))
   go_wp2_with fail
   go_ret
   exact⟨rfl,t.out.trans ⟨rfl,rfl,rfl,Xd _,λ_ _=>rfl⟩⟩
  ·by_cases l:x.op=BJ
   ·have k:n<4:=by have:=j.spawn l;omega
    have d:BG s x=decide ((s.th n).ph≠0):=by unfold BG;rw[if_neg a,if_neg f,if_pos l,m]
    have c:=Jp o k;rw[d];generalize (s.th n).ph=v at *;have z:decide (v≠0)=(v != 0):=by rw[YH];simp
    rw[z];have D:(n:Int)<4:=by omega
    obtain⟨u,r,aR,aN,bR,bN,y⟩:=x;have g:y=n:=g;subst g;have l:u=BJ:=l;subst l;unfold Bv at *;dsimp only at *;have t:=Aa i;clear i j B C A o h m d z k a f;unfold Ab BJ bs at *
    go_enter Tryz.func98,Tryz.ntmps98
    go_wp2_with fail
    go_quiet (fail)
    go_wp2_with fail
    go_ret
    exact⟨rfl,t.out.trans ⟨rfl,rfl,rfl,Xd _,λ_ _=>rfl⟩⟩
   ·have d:BG s x=false:=by unfold BG;rw[if_neg a,if_neg f,if_neg l]
    rw[d];rw[decide_eq_false a] at B;rw[decide_eq_false f] at C;rw[decide_eq_false l] at A;unfold BP at B;unfold BQ at C;unfold BJ at A;obtain⟨u,r,aR,aN,bR,bN,y⟩:=x;unfold Bv at *;dsimp only at *;have t:=Aa i;clear i j o h m d a f l g;unfold Ab at *
    go_enter Tryz.func98,Tryz.ntmps98
    go_wp2_with fail
    go_ret
    exact⟨rfl,t.out⟩
end
def Ay (k:Bool) (C:List (List Ad)) (s:MS) (t:Int):MS×Ev:=Bc k s t.toNat (BB C t.toNat (s.th t.toNat))
structure Ej (nv nf nl:Nat) (C:List (List Ad)):Prop where
 four:C.length<=4
 code:∀c,c∈C->c.length<=24/\∀i,i∈c->Gv nv nf nl C.length c.length i
theorem TN {C:List (List Ad)} {s:MS} {t:Int} (h:AO C s t=0):∃u:Nat,t=u/\u<s.thr.length/\(s.th u).ph≠0/\CV (s.th u)=false/\BG s (BB C u (s.th u))=false:=by
 unfold AO at h
 by_cases a:t<0\/(s.thr.length:Int)<=t\/(s.th t.toNat).ph=0
 ·rw[if_pos a] at h;cases h
 ·rw[if_neg a] at h
  by_cases b:CV (s.th t.toNat)=true
  ·rw[if_pos b] at h;cases h
  ·rw[if_neg b] at h
   by_cases c:BG s (BB C t.toNat (s.th t.toNat))=true
   ·rw[if_pos c] at h;cases h
   ·have d:¬t<0:=λe=>a (.inl e);have f:¬(s.thr.length:Int)<=t:=λe=>a (.inr (.inl e));refine⟨t.toNat,by omega,by omega,λe=>a (.inr (.inr e)),by simpa using b,by simpa using c⟩
section
variable {nv nf nl:Nat} {C:List (List Ad)} {s s':MS}
theorem MY {n:Nat} {th:TS} (h:GR n th) (b:th.ph≠0) (a:CV th=false):th.ph=1:=by
 unfold CV at a;simp only[Bool.or_eq_false_iff,beq_eq_false_iff_ne] at a;have:=h.ph
 omega
theorem Lm (b:Ej nv nf nl C) {t:Nat} (a:t<C.length) {th:TS} (c:th.pc<=(C.getD t []).length):BB C t th=Cn\/(Gv nv nf nl C.length (C.getD t []).length (BB C t th)/\th.pc<(C.getD t []).length):=by
 unfold BB
 by_cases e:th.pc<(C.getD t []).length
 ·exact .inr ⟨(b.code _ (CL a)).2 _ (CL e),e⟩
 ·exact .inl (by rw[Xc,XU (by omega)];rfl)
theorem Gq (b:Ej nv nf nl C) (h:AZ nv nf nl C s) {t:Int} (c:AO C s t=0):∃u:Nat,t=u/\u<C.length/\(s.th u).ph=1/\BG s (BB C u (s.th u))=false/\(BB C u (s.th u)=Cn\/(Gv nv nf nl C.length (C.getD u []).length (BB C u (s.th u))/\(s.th u).pc<(C.getD u []).length)):=by
 obtain⟨u,rfl,a,g,e,d⟩:=TN c;rw[h.tl] at a;have f:=MY (h.th u a) g e
 exact⟨u,rfl,a,f,d,Lm b a ((h.th u a).pc (by omega))⟩
structure BN (s s':MS):Prop where
 v:s'.vars=s.vars
 f:s'.flags=s.flags
 l:s'.locks=s.locks
 n:s'.thr.length=s.thr.length
 ph:∀t,(s'.th t).ph=(s.th t).ph
 rg:∀t,(s'.th t).regs=(s.th t).regs
 pc:∀t,(s.th t).ph<=1->(s'.th t).pc=(s.th t).pc
theorem BN.refl (s:MS):BN s s:=⟨rfl,rfl,rfl,rfl,λ_=>rfl,λ_=>rfl,λ_ _=>rfl⟩
theorem BN.th (h:BN s s') {t:Nat} (f:(s.th t).ph<=1):s'.th t=s.th t:=by
 have a:=h.ph t;have b:=h.rg t;have c:=h.pc t f
 cases e:s'.th t
 cases d:s.th t
 rw[e,d] at a b c;have a:_=_:=a;have b:_=_:=b;have c:_=_:=c;simp only[TS.mk.injEq]
 exact⟨a,c,b⟩
theorem BN.Ae (h:BN s s') {t:Nat} (b:t<s.thr.length) {x x':TS} (d:x'.ph=x.ph) (g:x'.regs=x.regs) (c:x.ph<=1->x'.pc=x.pc):BN (s.Ae t x) (s'.Ae t x'):=by
 have e:∀u,(s.Ae t x).th u=if u=t then x else s.th u:=λu=>Fr s t u x b
 have a:∀u,(s'.Ae t x').th u=if u=t then x' else s'.th u:=λu=>Fr s' t u x' (by rw[h.n];exact b)
 refine⟨h.v,h.f,h.l,?_,λu=>?_,λu=>?_,λu=>?_⟩
 ·show (s'.thr.set t x').length=(s.thr.set t x).length;rw[Yc,Yc];exact h.n
 ·rw[e,a]
  by_cases q:u=t
  ·rw[if_pos q,if_pos q];exact d
  ·rw[if_neg q,if_neg q];exact h.ph u
 ·rw[e,a]
  by_cases q:u=t
  ·rw[if_pos q,if_pos q];exact g
  ·rw[if_neg q,if_neg q];exact h.rg u
 ·rw[e,a]
  by_cases q:u=t
  ·rw[if_pos q,if_pos q];exact c
  ·rw[if_neg q,if_neg q];exact h.pc u
theorem BN.over (h:BN s s') (t:Nat):CV (s'.th t)=CV (s.th t):=by unfold CV;rw[h.ph t]
theorem BN.waits (h:BN s s') (x:Ad):BG s' x=BG s x:=by
 unfold BG;rw[h.l,h.over,h.ph]
theorem BN.can (h:BN s s') (f:AZ nv nf nl C s) (t:Int):AO C s' t=AO C s t:=by
 unfold AO;rw[h.n,h.ph,h.over]
 by_cases c:t<0\/(s.thr.length:Int)<=t\/(s.th t.toNat).ph=0
 ·rw[if_pos c,if_pos c]
 ·rw[if_neg c,if_neg c]
  by_cases d:CV (s.th t.toNat)=true
  ·rw[if_pos d,if_pos d]
  ·rw[if_neg d,if_neg d,h.waits];have g:t.toNat<C.length:=by
    have a:¬t<0:=λe=>c (.inl e);have b:¬(s.thr.length:Int)<=t:=λe=>c (.inr (.inl e));have:=f.tl
    omega
   have:=MY (f.th _ g) (λe=>c (.inr (.inr e))) (by simpa using d);rw[h.th (t:=t.toNat) (by omega)]
theorem BN.step (h:BN s s') {t:Nat} (H:t<s.thr.length) (S:(s.th t).ph=1) (x:Ad) (F:BG s x=false):(Bc true s' t x).2=(Bc false s t x).2/\BN (Bc false s t x).1 (Bc true s' t x).1:=by
 have e:=h.th (t:=t) (by omega);have P:Bc true s' t x=Bc true {s' with vars:=s.vars,flags:=s.flags,locks:=s.locks} t x:=by rw[<-h.v,<-h.f,<-h.l]
 have Q:BN s {s' with vars:=s.vars,flags:=s.flags,locks:=s.locks}:=⟨rfl,rfl,rfl,h.n,h.ph,h.rg,h.pc⟩;rw[P];have M:MS.th {s' with vars:=s.vars,flags:=s.flags,locks:=s.locks} t=s.th t:=e;have G:∀(y g:TS),g.ph=y.ph->g.regs=y.regs->(y.ph<=1->g.pc=y.pc)->BN (s.Ae t y) (MS.Ae {s' with vars:=s.vars,flags:=s.flags,locks:=s.locks} t g):=λy g=>Q.Ae H;generalize B:({s' with vars:=s.vars,flags:=s.flags,locks:=s.locks}:MS)=q at *;have N:q.vars=s.vars:=by rw[<-B]
 have J:q.flags=s.flags:=by rw[<-B]
 have O:q.locks=s.locks:=by rw[<-B]
 clear B;unfold Bc;rw[M,N,J,O];have a:=λy:TS=>G y y rfl rfl (λ_=>rfl);have D:∀p:Int,p=2\/p=3->BN (s.Ae t {s.th t with ph:=p,pc:=(s.th t).pc+1}) (q.Ae t {s.th t with ph:=p,pc:=(s.th t).pc}):=λp R=>G _ _ rfl rfl (λI=>by have I:p<=1:=I;omega)
 by_cases c1:x.op=Eo
 ·rw[if_pos c1,if_pos c1];exact⟨rfl,a _⟩
 rw[if_neg c1,if_neg c1]
 by_cases c2:x.op=Er
 ·rw[if_pos c2,if_pos c2];exact⟨rfl,a _⟩
 rw[if_neg c2,if_neg c2]
 by_cases c3:x.op=En
 ·rw[if_pos c3,if_pos c3];exact⟨rfl,a _⟩
 rw[if_neg c3,if_neg c3]
 by_cases c4:x.op=Ep
 ·rw[if_pos c4,if_pos c4];exact⟨rfl,a _⟩
 rw[if_neg c4,if_neg c4]
 by_cases c5:x.op=Bu
 ·rw[if_pos c5,if_pos c5];exact⟨rfl,a _⟩
 rw[if_neg c5,if_neg c5]
 by_cases k:x.op=AM
 ·rw[if_pos k,if_pos k];have r:=a {s.th t with pc:=(s.th t).pc+1}
  exact⟨rfl,⟨rfl,r.f,r.l,r.n,r.ph,r.rg,r.pc⟩⟩
 rw[if_neg k,if_neg k]
 by_cases w:x.op=Ec
 ·rw[if_pos w,if_pos w];exact⟨rfl,a _⟩
 rw[if_neg w,if_neg w]
 by_cases A:x.op=Eb
 ·rw[if_pos A,if_pos A];have r:=a {s.th t with pc:=(s.th t).pc+1}
  exact⟨rfl,⟨r.v,rfl,r.l,r.n,r.ph,r.rg,r.pc⟩⟩
 rw[if_neg A,if_neg A]
 by_cases c:x.op=BP
 ·rw[if_pos c,if_pos c];have r:=a {s.th t with pc:=(s.th t).pc+1}
  exact⟨rfl,⟨r.v,r.f,rfl,r.n,r.ph,r.rg,r.pc⟩⟩
 rw[if_neg c,if_neg c]
 by_cases z:x.op=CI
 ·rw[if_pos z,if_pos z]
  by_cases d:s.locks.getD x.x.toNat 0≠t
  ·rw[if_pos d,if_pos d];exact⟨rfl,D 3 (.inr rfl)⟩
  ·rw[if_neg d,if_neg d];have r:=a {s.th t with pc:=(s.th t).pc+1}
   exact⟨rfl,⟨r.v,r.f,rfl,r.n,r.ph,r.rg,r.pc⟩⟩
 rw[if_neg z,if_neg z]
 by_cases b:x.op=BJ
 ·rw[if_pos b,if_pos b];have r:=a {s.th t with pc:=(s.th t).pc+1};refine⟨rfl,?_⟩
  by_cases E:x.x.toNat<(s.Ae t {s.th t with pc:=(s.th t).pc+1}).thr.length
  ·refine r.Ae E rfl (r.rg _) (λ_=>r.pc _ ?_);have T:(s.th x.x.toNat).ph=0:=by
    unfold BG at F;rw[if_neg c,if_neg (by rw[b];decide),if_pos b] at F
    simpa using F
   rw[Fr s t _ _ H]
   split
   ·show (s.th t).ph<=1;omega
   ·omega
  ·have n1:∀(m:MS) (y:TS),m.thr.length<=x.x.toNat->m.Ae x.x.toNat y=m:=λm y K=>by
    unfold MS.Ae;rw[List.set_eq_of_length_le K]
   rw[n1 _ _ (afs E),n1 _ _ (by rw[r.n];exact afs E)];exact r
 rw[if_neg b,if_neg b]
 by_cases j:x.op=BQ
 ·rw[if_pos j,if_pos j];exact⟨rfl,a _⟩
 rw[if_neg j,if_neg j]
 by_cases C:x.op=Dg
 ·rw[if_pos C,if_pos C];exact⟨rfl,a _⟩
 rw[if_neg C,if_neg C]
 by_cases u:x.op=CX
 ·rw[if_pos u,if_pos u];exact⟨rfl,a _⟩
 rw[if_neg u,if_neg u]
 by_cases o:x.op=CW
 ·rw[if_pos o,if_pos o];exact⟨rfl,a _⟩
 rw[if_neg o,if_neg o]
 by_cases i:x.op=Dh
 ·rw[if_pos i,if_pos i]
  by_cases d:Af (s.th t) x.aR x.aN≠Af (s.th t) x.bR x.bN
  ·rw[if_pos d,if_pos d];exact⟨rfl,D 3 (.inr rfl)⟩
  ·rw[if_neg d,if_neg d];exact⟨rfl,a _⟩
 rw[if_neg i,if_neg i]
 exact⟨rfl,D 2 (.inl rfl)⟩
end
section
variable {w w':Xh} {b:Nat} {p:PD} {s:MS}
theorem Ns (h:AP w b p s) {t:Nat} (e:t<4) (d:t<p.C.length) (f:(s.th t).pc<=(p.C.getD t []).length) (c:(p.C.getD t []).length<=24) {pc:Nat} (i:(s.th t).pc=pc) {x:Ad} (g:BB p.C t (s.th t)=x) :
 w.cell? ⟨b,27+t*207+7+pc*8,none⟩=some (.string (bs x.op))/\w.cell? ⟨b,27+t*207+7+pc*8+1,none⟩=some (.int .i64 x.r)/\w.cell? ⟨b,27+t*207+7+pc*8+2,none⟩=some (.bool x.aR)/\w.cell? ⟨b,27+t*207+7+pc*8+3,none⟩=some (.int .i64 x.aN)/\w.cell? ⟨b,27+t*207+7+pc*8+4,none⟩=some (.bool x.bR)/\w.cell? ⟨b,27+t*207+7+pc*8+5,none⟩=some (.int .i64 x.bN)/\w.cell? ⟨b,27+t*207+7+pc*8+6,none⟩=some (.int .i64 x.x)/\w.cell? ⟨b,27+t*207+7+pc*8+7,none⟩=some (Eh x.op):=by
 have key:∀j,j<8->w.cell? ⟨b,27+t*207+7+pc*8+j,none⟩=some (Gn x j):=λj a=>by
  rw[show 27+t*207+7+pc*8+j=27+t*207+(7+((s.th t).pc*8+j)) by omega,h.cell (by omega),abA e d f c a,g]
 exact⟨key 0 (by omega),key 1 (by omega),key 2 (by omega),key 3 (by omega),key 4 (by omega),key 5 (by omega),key 6 (by omega),key 7 (by omega)⟩
theorem Lq (h:AP w b p s):w.cell? ⟨b,855,none⟩=some (.int .i64 p.ts.length):=by rw[h.cell (by omega),RK]
structure Cs (p:PD):Prop where
 fit:Ej p.vs.length p.fs.length p.ls.length p.C
 v:p.vs.length<=4
 f:p.fs.length<=4
 l:p.ls.length<=4
 tc:p.ts.length=p.C.length
abbrev BT (p:PD) (s:MS):Prop:=AZ p.vs.length p.fs.length p.ls.length p.C s
theorem UD (d:Cs p) {n:Nat} {x:Ad} (b:x=Cn\/Gv p.vs.length p.fs.length p.ls.length p.C.length n x):Ug p x:=by
 have g:=d.fit.four;have f:=d.l
 rcases b with rfl|b
 ·exact⟨by decide,λq=>(by cases q),λq=>(by cases q),λq=>(by cases q)⟩
 ·obtain⟨q,a,c,x1,x2,x3,x4,h⟩:=b.ex;refine⟨b.x0,λe=>?_,λe=>?_,λe=>?_⟩
  ·rw[c] at e;simp only[Bd,XR,X8,or_false] at a
   rcases a with rfl|rfl|rfl|rfl|rfl|rfl|rfl|rfl|rfl|rfl|rfl|rfl|rfl|rfl|rfl|rfl|rfl<;>first|(have:=x3 (by decide);omega)|exact absurd e (by decide)
  ·rw[c] at e;simp only[Bd,XR,X8,or_false] at a
   rcases a with rfl|rfl|rfl|rfl|rfl|rfl|rfl|rfl|rfl|rfl|rfl|rfl|rfl|rfl|rfl|rfl|rfl<;>first|(have:=x4 (by decide);omega)|exact absurd e (by decide)
  ·rw[c] at e;simp only[Bd,XR,X8,or_false] at a
   rcases a with rfl|rfl|rfl|rfl|rfl|rfl|rfl|rfl|rfl|rfl|rfl|rfl|rfl|rfl|rfl|rfl|rfl<;>first|(have:=x4 (by decide);omega)|exact absurd e (by decide)
theorem QK (h:AP w b p s) (c:Cs p) (l:BT p s) (t:Int) :
 XX Tryz.prog 41 #[Ab b,.int .i64 t] w λe w'=>e = .returned (.int .i64 (AO p.C s t))/\Xm w.heap.size w w':=by
 have R:=Lq h;have o:=l.tl;have z:=c.tc;have v:=c.fit.four
 by_cases f:t<0
 ·have a:AO p.C s t=5:=by unfold AO;rw[if_pos (.inl f)]
  rw[a];have M:decide (t<0)=true:=by simpa using f
  clear h c l a f o z v R;unfold Ab
  go_enter Tryz.func41,Tryz.ntmps41
  go_wp2_with fail
  go_ret
  exact⟨rfl,Xq _ _⟩
 ·by_cases D:(s.thr.length:Int)<=t
  ·have a:AO p.C s t=5:=by unfold AO;rw[if_pos (.inr (.inl D))]
   rw[a];have M:decide (t<0)=false:=by simpa using f
   have P:decide ((p.ts.length:Int)<=t)=true:=by simp only[decide_eq_true_eq];omega
   clear h c l a f D o z v;unfold Ab
   go_enter Tryz.func41,Tryz.ntmps41
   go_wp2_with fail
   go_ret
   exact⟨rfl,Xq _ _⟩
  ·obtain⟨u,rfl⟩:∃u:Nat,t=u:=⟨t.toNat,by omega⟩;have k:u<p.C.length:=by omega
   have n:u<4:=by omega
   have U:(u:Int)<4:=by omega
   have M:decide ((u:Int)<0)=false:=by simp
   have P:decide ((p.ts.length:Int)<=(u:Int))=false:=by simp only[decide_eq_false_iff_not];omega
   have Y:decide (p.ts.length<=u)=false:=by simp only[decide_eq_false_iff_not];omega
   have O:=Jp h n;have A:=l.th u k
   by_cases m:(s.th u).ph=0
   ·have a:AO p.C s (u:Int)=5:=by unfold AO;rw[Yg,if_pos (.inr (.inr m))]
    rw[a];rw[m] at O;clear h c l a f D o z v A m k n;unfold Ab
    go_enter Tryz.func41,Tryz.ntmps41
    go_wp2_with fail
    go_ret
    exact⟨rfl,Xq _ _⟩
   ·have F:¬((u:Int)<0\/(s.thr.length:Int)<=(u:Int)\/(s.th (u:Int).toNat).ph=0):=by rw[Yg];omega
    have i:=Rl h n;have Z:((s.th u).ph == 0)=false:=by simpa using m
    cases j:CV (s.th u) with
    |true=>
     have a:AO p.C s (u:Int)=6:=by unfold AO;rw[if_neg F,Yg,if_pos j]
     rw[a];rw[j] at i;generalize (s.th u).ph=ph at *;clear h c l a f D o z v A m k n F j;unfold Ab
     go_enter Tryz.func41,Tryz.ntmps41
     go_wp2_with fail
     refine i.mono ?_;rintro e w1 ⟨rfl,rfl⟩;clear i
     go_wp2_with fail
     go_ret
     exact⟨rfl,Xq _ _⟩
    |false=>
     have N:=MY A m j;have J:=A.pc (by omega);have K:=(c.fit.code _ (CL (d:=[]) k)).1;rw[j] at i;have B:=Rz h n (by omega);obtain⟨x,E⟩:∃x,BB p.C u (s.th u)=x:=⟨_,rfl⟩;obtain⟨pc,I⟩:∃pc,(s.th u).pc=pc:=⟨_,rfl⟩;rw[I] at B;have G:AP w.drew b p s:=An.same h rfl;obtain⟨k0,X,V,k3,S,T,W,-⟩:=Ns G n k J K I E;have r:=aeJ G (x:=x) (UD c (by rw[<-E];rcases Lm c.fit k J with q|q;exact .inl q;exact .inr q.1));have a:AO p.C s (u:Int)=if BG s x=true then 7 else 0:=by unfold AO;rw[if_neg F,Yg,if_neg (by rw[j];simp),E]
     rw[a];generalize (s.th u).ph=ph at *;generalize BG s x=g at *;unfold Bv at r;clear h c l a f D o z v A m k n F j N J K E I G;unfold Ab at *
     cases g with
     |true=>
      go_enter Tryz.func41,Tryz.ntmps41
      go_wp2_with fail
      refine i.mono ?_;rintro e w1 ⟨rfl,rfl⟩;clear i
      go_wp2_with fail
      refine B.mono ?_;rintro e Q ⟨rfl,rfl⟩;clear B
      go_wp2_with fail
      refine r.mono ?_;rintro e w3 ⟨rfl,y⟩;have H:=Aa y;clear r y
      go_wp2_with fail
      go_ret
      exact⟨rfl,(show Xm w1.heap.size w1 w1.drew from⟨rfl,rfl,rfl,Xd _,λ_ _=>rfl⟩).trans H.out⟩
     |false=>
      go_enter Tryz.func41,Tryz.ntmps41
      go_wp2_with fail
      refine i.mono ?_;rintro e w1 ⟨rfl,rfl⟩;clear i
      go_wp2_with fail
      refine B.mono ?_;rintro e Q ⟨rfl,rfl⟩;clear B
      go_wp2_with fail
      refine r.mono ?_;rintro e w3 ⟨rfl,y⟩;have H:=Aa y;clear r y
      go_wp2_with fail
      go_ret
      exact⟨rfl,(show Xm w1.heap.size w1 w1.drew from⟨rfl,rfl,rfl,Xd _,λ_ _=>rfl⟩).trans H.out⟩
end
end Go.Proofs.YtdcacoifehkioaaGreatDoor
namespace Go.Proofs.YtdcacoifehkioaaGreatDoor
open Go.RowKit Go.Shelf Go.Proofs.Cod
def GF (nm v:Tx):Tx:=nm++[61]++v++[10]
def Bi (T:Int->Tx) (ns:List Tx) (l:List Int) (i:Nat):Tx:=(YB i).flatMap λk=>GF (ns.getD k []) (T (l.getD k 0))
theorem Ki (T:Int->Tx) (a:List Tx) (l:List Int) (i:Nat):Bi T a l (i+1)=Bi T a l i++GF (a.getD i []) (T (l.getD i 0)):=by
 unfold Bi;rw[ZN,X6]
 simp
theorem FB (T:Int->Tx) (b:List Tx) (l:List Int) (i:Nat) (d:∀k,(b.getD k []).length<=8) (e:∀k,(T (l.getD k 0)).length<=21):(Bi T b l i).length<=i*31:=by
 induction i with
 |zero=>simp[Bi]
 |succ i f=>
  rw[Ki,Xb];have a:=d i;have c:=e i;have:(GF (b.getD i []) (T (l.getD i 0))).length=(b.getD i []).length+1+(T (l.getD i 0)).length+1:=by simp[GF];omega
  omega
def Cg (ts:List Tx) (n:Int):Tx:=if n = -1 then [45] else ts.getD n.toNat []
section
variable {w w':Xh} {b:Nat} {p:PD} {s:MS}
theorem acQ (h:AP w b p s) (n:Int) (f : -1<=n) (g:n<4) :
 XX Tryz.prog 100 #[Ab b,.int .i64 n] w λe w'=>e = .returned (.string (bs (Cg p.ts n)))/\w'=w:=by
 by_cases a:n = -1
 ·subst a;have e:Cg p.ts (-1)=[45]:=rfl;rw[e];clear h;unfold Ab
  go_enter Tryz.func100,Tryz.ntmps100
  go_wp2_with fail
  go_ret
  exact⟨rfl,rfl⟩
 ·obtain⟨m,rfl⟩:∃m:Nat,n=m:=⟨n.toNat,by omega⟩;have e:Cg p.ts (m:Int)=p.ts.getD m []:=by unfold Cg;rw[if_neg a,Yg]
  rw[e];have d:m<4:=by omega
  have c:w.cell? ⟨b,27+m*207,none⟩=some (.string (bs (p.ts.getD m []))):=by
   have q:=h.cell (k:=27+m*207+0) (by omega);rw[Fz p s d (by omega)] at q;exact q
  have i:((m:Int) == -1)=false:=by simp only[beq_eq_false_iff_ne];omega
  generalize p.ts.getD m []=nm at *;clear h a e d f;unfold Ab
  go_enter Tryz.func100,Tryz.ntmps100
  go_wp2_with fail
  go_ret
  exact⟨rfl,rfl⟩
def Cb (p:PD) (s:MS) (o:Nat):List Tx×List Int:=if o=0 then(p.vs,s.vars) else if o=9 then(p.fs,s.flags) else(p.ls,s.locks)
theorem PZ (h:AP w b p s) {o:Nat} (a:o=0\/o=9\/o=18):w.cell? ⟨b,o+8,none⟩=some (.int .i64 (Cb p s o).1.length)/\∀i,i<4->w.cell? ⟨b,o+i*2,none⟩=some (.string (bs ((Cb p s o).1.getD i [])))/\w.cell? ⟨b,o+i*2+1,none⟩=some (.int .i64 ((Cb p s o).2.getD i 0)):=by
 have key:∀k,k<9->w.cell? ⟨b,o+k,none⟩=some (BM (Cb p s o).1 (Cb p s o).2 k):=λk d=>by
  rw[h.cell (by omega)];unfold AA Cb
  rcases a with rfl|rfl|rfl
  ·rw[if_pos (by omega),Nat.zero_add];rfl
  ·rw[if_neg (by omega),if_pos (by omega),show 9+k - 9=k by omega];rfl
  ·rw[if_neg (by omega),if_neg (by omega),if_pos (by omega),show 18+k - 18=k by omega];rfl
 refine⟨key 8 (by omega),λi c=>⟨?_,?_⟩⟩
 ·rw[key (i*2) (by omega)];unfold BM;rw[if_neg (by omega),if_pos (by omega),show i*2 / 2=i by omega]
 ·rw[Nat.add_assoc,key (i*2+1) (by omega)];unfold BM;rw[if_neg (by omega),if_neg (by omega),show (i*2+1) / 2=i by omega]
end
section
variable {w w':Xh} {b B bb:Nat} {p:PD} {s:MS} {out:Tx}
theorem Ir (c:UInt8) (n:Int) (h:(c.toNat:Int)=n):Value.int .u8 c.toNat = .int .u8 n:=by rw[h]
theorem PU (h:AP w b p s) (aC:b<B) (hW:BW w B bb out) (aK:B<=w.heap.size) {o:Nat} (W:o=0\/o=9\/o=18) (hn:(Cb p s o).1.length<=4) (r:∀k,((Cb p s o).1.getD k []).length<=8) (aG:out.length<=100000) {T:Int->Tx} (u:∀k,(T ((Cb p s o).2.getD k 0)).length<=21)
 (m:∀w',Xm B w w'->∀i,i<(Cb p s o).1.length->XX Tryz.prog 72 #[.int .i64 ((Cb p s o).2.getD i 0)] w' λe ax=>e = .returned (.string (bs (T ((Cb p s o).2.getD i 0))))/\Xm w'.heap.size w' ax) :
 XX Tryz.prog 99 #[Ab bb,.pointer (some ⟨b,o,none⟩),.func (.func 72) #[] #[]] w λe w'=>e = .returned (.tuple #[])/\BW w' B bb (out++Bi T (Cb p s o).1 (Cb p s o).2 (Cb p s o).1.length)/\Xm B w w':=by
 have f:=λi=>FB T (Cb p s o).1 (Cb p s o).2 i r u;have d:=fun(w':Xh) (t:Xm B w w')=>PZ (w:=w') (h.same (t.block b aC)) W;obtain⟨a,an⟩:∃a,(Cb p s o).1=a:=⟨_,rfl⟩;obtain⟨l,X⟩:∃l,(Cb p s o).2=l:=⟨_,rfl⟩;simp only[an,X] at hn r u m f d |-;obtain⟨c8,-⟩:=d w (Xq _ _);replace d:=Aa d;replace m:=Aa m;replace f:=Aa f;have H0:=Aa hW;clear h hW an X W;unfold Ab at *
 go_enter Tryz.func99,Tryz.ntmps99
 go_wp2_with fail
 go_loopw [11] (λP wr=>∃i:Nat,i<=a.length/\P = .int .i64 i/\BW wr B bb (out++Bi T a l i)/\Xm B w wr) (λP _=>a.length - (intOf P).toNat)
 case atStart=>exact⟨0,Xw _,rfl,(by have:Bi T a l 0=[]:=rfl;rw[this,Ye];exact H0.out),Xq _ _⟩
 case round=>
  clear H0;obtain⟨i,hi,rfl,x,j⟩:=hrel
  by_cases H:i<a.length
  ·have V:i<4:=by omega
   have aE:(i:Int)<4:=by omega
   have aJ:(i:Int)<(a.length:Int):=by omega
   have aw:XO ((i:Int)+1)=(i:Int)+1:=by unfold XO;omega
   obtain⟨-,S⟩:=d.out wr j;obtain⟨c1,c2⟩:=S i V;have aB:=f.out i;have y:=Ki T a l i;have a8:=r i;have ad:=u i;have z:Hid (∀w',Xm B w w'->_):=λw' t=>m.out w' t i H;obtain⟨nm,ao⟩:∃nm,a.getD i []=nm:=⟨_,rfl⟩;obtain⟨v,A⟩:∃v,l.getD i 0=v:=⟨_,rfl⟩;rw[ao] at c1 y a8;rw[A] at y ad;rw[A] at z;obtain⟨G,O⟩:∃G,T v=G:=⟨_,rfl⟩;rw[O] at y ad;rw[O] at z;obtain⟨C,E⟩:∃C,out++Bi T a l i=C:=⟨_,rfl⟩;have aL:C.length<=100000+124:=by rw[<-E,Xb];omega
   rw[E] at x;have R:out++Bi T a l (i+1)=(((C++nm)++[61])++G)++[10]:=by rw[y,<-E];simp[GF]
   have M:=GQ x nm (by omega) (by have:=j.size;omega);have HB:=Aa j;have ai:Hid (∀w',Xm B w w'->w'.cell? ⟨b,o+i*2+1,none⟩=some (.int .i64 v)):=λw' t=>by
    obtain⟨-,q⟩:=d.out w' t;have:=(q i V).2;rw[A] at this;exact this
   replace R:=Aa R;clear c2 S aB y ao A O x E j r u hi d m f;unfold Ab at M
   go_wp2_with fail
   refine M.mono ?_;rintro e w1 ⟨rfl,av,ak⟩;have I:=HB.out.trans ak;have D:=It av 61 (by rw[Xb];omega) (by have:=I.size;omega);have Z:=Aa I;clear M av ak I c1;unfold Ab at D;rw[Ir 61 61 rfl] at D
   go_wp2_with fail
   refine D.mono ?_;rintro e Y ⟨rfl,n,ac⟩;have c:=Z.out.trans ac;have c2:=ai.out Y c;have ah:=z.out Y c;have ab:=Aa (⟨c,n⟩:_/\_);clear D n ac c Z HB
   go_wp2_with fail
   refine ah.mono ?_;rintro e w3 ⟨rfl,K⟩;obtain⟨c,n⟩:=ab.out;have aj:=n.below K;have Q:Xm B w w3:=c.trans (K.mono (by have:=c.size;omega));have N:=GQ aj G (by simp only[Xb,XH,X3];omega) (by have:=Q.size;omega);have U:=Aa Q;clear ah K c n aj Q ab c2 ai z;unfold Ab at N
   go_wp2_with fail
   refine N.mono ?_;rintro e w4 ⟨rfl,ap,am⟩;have J:=U.out.trans am;have F:=It ap 10 (by simp only[Xb,XH,X3];omega) (by have:=J.size;omega);have aq:=Aa J;clear N ap am J U;unfold Ab at F;rw[Ir 10 10 rfl] at F
   go_wp2_with fail
   refine F.mono ?_;rintro e w5 ⟨rfl,au,ar⟩;have g:=Aa (⟨au,aq.out.trans ar,H⟩:_/\_/\_);clear F au ar aq H
   go_wp2_with fail
   go_roundw
   case rel=>
    (try rw[aw])
    refine⟨i+1,g.out.2.2,rfl,?_,g.out.2.1⟩;rw[R.out];exact g.out.1
   case measure=>
    (try rw[aw])
    exact Xl g.out.2.2 (Xn i)
  ·have ay:i=a.length:=by omega
   subst ay;have g:=Aa (⟨x,j⟩:_/\_);clear x j d m f r u
   go_wp2_with fail
   go_end0
   exact⟨rfl,g.out⟩
theorem VZ (h:AP w b p s) (aC:b<B) (hW:BW w B bb out) (aK:B<=w.heap.size) {o:Nat} (X:o=0\/o=9\/o=18) (hn:(Cb p s o).1.length<=4) (r:∀k,((Cb p s o).1.getD k []).length<=8) (aG:out.length<=100000) {T:Int->Tx} (u:∀k,(T ((Cb p s o).2.getD k 0)).length<=21)
 (m:∀w',Xm B w w'->∀i,i<(Cb p s o).1.length->XX Tryz.prog 100 #[Ab b,.int .i64 ((Cb p s o).2.getD i 0)] w' λe ax=>e = .returned (.string (bs (T ((Cb p s o).2.getD i 0))))/\Xm w'.heap.size w' ax) :
 XX Tryz.prog 99 #[Ab bb,.pointer (some ⟨b,o,none⟩),.func (.func 100) #[Ab b] #[]] w λe w'=>e = .returned (.tuple #[])/\BW w' B bb (out++Bi T (Cb p s o).1 (Cb p s o).2 (Cb p s o).1.length)/\Xm B w w':=by
 have f:=λi=>FB T (Cb p s o).1 (Cb p s o).2 i r u;have d:=fun(w':Xh) (t:Xm B w w')=>PZ (w:=w') (h.same (t.block b aC)) X;obtain⟨a,an⟩:∃a,(Cb p s o).1=a:=⟨_,rfl⟩;obtain⟨l,Y⟩:∃l,(Cb p s o).2=l:=⟨_,rfl⟩;simp only[an,Y] at hn r u m f d |-;obtain⟨c8,-⟩:=d w (Xq _ _);replace d:=Aa d;replace m:=Aa m;replace f:=Aa f;have H0:=Aa hW;clear h hW an Y X;unfold Ab at *
 go_enter Tryz.func99,Tryz.ntmps99
 go_wp2_with fail
 go_loopw [11] (λQ wr=>∃i:Nat,i<=a.length/\Q = .int .i64 i/\BW wr B bb (out++Bi T a l i)/\Xm B w wr) (λQ _=>a.length - (intOf Q).toNat)
 case atStart=>exact⟨0,Xw _,rfl,(by have:Bi T a l 0=[]:=rfl;rw[this,Ye];exact H0.out),Xq _ _⟩
 case round=>
  clear H0;obtain⟨i,hi,rfl,x,j⟩:=hrel
  by_cases H:i<a.length
  ·have W:i<4:=by omega
   have aE:(i:Int)<4:=by omega
   have aJ:(i:Int)<(a.length:Int):=by omega
   have aw:XO ((i:Int)+1)=(i:Int)+1:=by unfold XO;omega
   obtain⟨-,U⟩:=d.out wr j;obtain⟨c1,c2⟩:=U i W;have aB:=f.out i;have y:=Ki T a l i;have a8:=r i;have af:=u i;have z:Hid (∀w',Xm B w w'->_):=λw' t=>m.out w' t i H;obtain⟨nm,ao⟩:∃nm,a.getD i []=nm:=⟨_,rfl⟩;obtain⟨v,A⟩:∃v,l.getD i 0=v:=⟨_,rfl⟩;rw[ao] at c1 y a8;rw[A] at y af;rw[A] at z;obtain⟨G,P⟩:∃G,T v=G:=⟨_,rfl⟩;rw[P] at y af;rw[P] at z;obtain⟨C,E⟩:∃C,out++Bi T a l i=C:=⟨_,rfl⟩;have aL:C.length<=100000+124:=by rw[<-E,Xb];omega
   rw[E] at x;have S:out++Bi T a l (i+1)=(((C++nm)++[61])++G)++[10]:=by rw[y,<-E];simp[GF]
   have M:=GQ x nm (by omega) (by have:=j.size;omega);have HB:=Aa j;have ai:Hid (∀w',Xm B w w'->w'.cell? ⟨b,o+i*2+1,none⟩=some (.int .i64 v)):=λw' t=>by
    obtain⟨-,q⟩:=d.out w' t;have:=(q i W).2;rw[A] at this;exact this
   replace S:=Aa S;clear c2 U aB y ao A P x E j r u hi d m f;unfold Ab at M
   go_wp2_with fail
   refine M.mono ?_;rintro e w1 ⟨rfl,av,ak⟩;have I:=HB.out.trans ak;have D:=It av 61 (by rw[Xb];omega) (by have:=I.size;omega);have aa:=Aa I;clear M av ak I c1;unfold Ab at D;rw[Ir 61 61 rfl] at D
   go_wp2_with fail
   refine D.mono ?_;rintro e Z ⟨rfl,n,ad⟩;have c:=aa.out.trans ad;have c2:=ai.out Z c;have O:=z.out Z c;have ac:=Aa (⟨c,n⟩:_/\_);clear D n ad c aa HB;unfold Ab at O
   go_wp2_with fail
   refine O.mono ?_;rintro e w3 ⟨rfl,K⟩;obtain⟨c,n⟩:=ac.out;have aj:=n.below K;have R:Xm B w w3:=c.trans (K.mono (by have:=c.size;omega));have N:=GQ aj G (by simp only[Xb,XH,X3];omega) (by have:=R.size;omega);have V:=Aa R;clear O K c n aj R ac c2 ai z;unfold Ab at N
   go_wp2_with fail
   refine N.mono ?_;rintro e w4 ⟨rfl,ap,am⟩;have J:=V.out.trans am;have F:=It ap 10 (by simp only[Xb,XH,X3];omega) (by have:=J.size;omega);have aq:=Aa J;clear N ap am J V;unfold Ab at F;rw[Ir 10 10 rfl] at F
   go_wp2_with fail
   refine F.mono ?_;rintro e w5 ⟨rfl,au,ar⟩;have g:=Aa (⟨au,aq.out.trans ar,H⟩:_/\_/\_);clear F au ar aq H
   go_wp2_with fail
   go_roundw
   case rel=>
    (try rw[aw])
    refine⟨i+1,g.out.2.2,rfl,?_,g.out.2.1⟩;rw[S.out];exact g.out.1
   case measure=>
    (try rw[aw])
    exact Xl g.out.2.2 (Xn i)
  ·have ay:i=a.length:=by omega
   subst ay;have g:=Aa (⟨x,j⟩:_/\_);clear x j d m f r u
   go_wp2_with fail
   go_end0
   exact⟨rfl,g.out⟩
end
def Gd (th:TS):Tx:=if th.ph=1 then [97,116,32]++Yj th.pc else if th.ph=2 then [101,110,100,101,100] else if th.ph=3 then [102,97,105,108,101,100] else [110,101,119]
def BX (l:List Int) (i:Nat):Tx:=(YB i).flatMap λk=>32::Yj (l.getD k 0)
theorem JW (l:List Int) (i:Nat):BX l (i+1)=(BX l i++[32])++Yj (l.getD i 0):=by
 unfold BX;rw[ZN,X6]
 simp
def CR (nm:Tx) (th:TS):Tx:=nm++[32]++Gd th++(if th.ph=0 then [] else BX th.regs 4)++[10]
theorem DB {n:Int} (b:0<=n) (a:n<1000):(Yj n).length<=21:=Lib.itoa_length_le n (by omega) (by omega)
section
variable {w w':Xh} {b B bb B0:Nat} {p:PD} {s:MS} {out:Tx}
theorem abK (h:AP w b p s) {t:Nat} (a:t<4):w.cell? ⟨b,27+t*207,none⟩=some (.string (bs (p.ts.getD t []))):=by
 have q:=h.cell (k:=27+t*207+0) (by omega);rw[Fz p s a (by omega)] at q;exact q
theorem aaO (h:AP w b p s) {t:Nat} (c:t<4) (f:Ck w B0) (k:0<=(s.th t).ph/\(s.th t).ph<=3) (j:(s.th t).pc<=25) :
 XX Tryz.prog 136 #[.pointer (some ⟨b,27+t*207,none⟩)] w λe w'=>e = .returned (.string (bs (Gd (s.th t))))/\Xm w.heap.size w w':=by
 have c1:=Jp h c;have c2:=Lp h c;have a:=IP ((s.th t).pc:Int) (by omega) (by omega) w f;have m:=DB (n:=(s.th t).pc) (by omega) (by omega);unfold Gd;have i:(s.th t).ph=0\/(s.th t).ph=1\/(s.th t).ph=2\/(s.th t).ph=3:=by omega
 generalize (s.th t).ph=ph at *;generalize (s.th t).pc=pc at *;generalize Yj (pc:Int)=it at *;clear h c k j f
 rcases i with rfl|rfl|rfl|rfl
 ·clear a
  go_enter Tryz.func136,Tryz.ntmps136
  go_wp2_with fail
  go_ret
  exact⟨rfl,Xq _ _⟩
 ·simp only[if_pos];have l:¬9223372036854775807<3+(bs it).size:=by rw[Ba];omega
  have o:(⟨#[97,116,32]⟩:ByteArray)++bs it=bs ([97,116,32]++it):=Bx [97,116,32] it
  go_enter Tryz.func136,Tryz.ntmps136
  go_wp2_with fail
  refine a.mono ?_;rintro e w1 ⟨rfl,d⟩;have g:=Aa d;clear a d
  go_wp2_with fail
  go_ret
  exact⟨rfl,g.out⟩
 ·clear a
  go_enter Tryz.func136,Tryz.ntmps136
  go_wp2_with fail
  go_ret
  exact⟨rfl,Xq _ _⟩
 ·clear a
  go_enter Tryz.func136,Tryz.ntmps136
  go_wp2_with fail
  go_ret
  exact⟨rfl,Xq _ _⟩
end
section
variable {w w':Xh} {b B bb B0:Nat} {p:PD} {s:MS} {out:Tx}
theorem acN (a d c b:Int) (w:Xh):(Instr.index 104 (.agg #[.int .i64 a,.int .i64 d,.int .i64 c,.int .i64 b]) (.int .i64 0)).run Tryz.prog w = .ok (.int .i64 a) w:=by kernel_rfl
theorem acM (d a c b:Int) (w:Xh):(Instr.index 104 (.agg #[.int .i64 d,.int .i64 a,.int .i64 c,.int .i64 b]) (.int .i64 1)).run Tryz.prog w = .ok (.int .i64 a) w:=by kernel_rfl
theorem acL (c d a b:Int) (w:Xh):(Instr.index 104 (.agg #[.int .i64 c,.int .i64 d,.int .i64 a,.int .i64 b]) (.int .i64 2)).run Tryz.prog w = .ok (.int .i64 a) w:=by kernel_rfl
theorem acK (c d b a:Int) (w:Xh):(Instr.index 104 (.agg #[.int .i64 c,.int .i64 d,.int .i64 b,.int .i64 a]) (.int .i64 3)).run Tryz.prog w = .ok (.int .i64 a) w:=by kernel_rfl
theorem abI (h:AP w b p s) {t m:Nat} (a:t<4) (c:m<4):w.cell? ⟨b,27+t*207+3+m,none⟩=some (.int .i64 ((s.th t).regs.getD m 0)):=by
 rw[show 27+t*207+3+m=27+t*207+(3+m) by omega,h.cell (by omega),Fz p s a (by omega)];unfold BU;rw[if_neg (by omega),if_neg (by omega),if_neg (by omega),if_pos (by omega),show 3+m - 3=m by omega]
theorem Ra (th:TS) (h:th.pc<=25):(Gd th).length<=24:=by
 have:=DB (n:=th.pc) (by omega) (by omega);unfold Gd
 split
 ·rw[Xb];simp only[XH,X3];omega
 ·split
  ·decide
  ·split<;>decide
theorem JX (l:List Int) (a:∀k,0<=l.getD k 0/\l.getD k 0<1000) (i:Nat):(BX l i).length<=i*22:=by
 induction i with
 |zero=>simp[BX]
 |succ i b=>
  rw[JW,Xb,Xb];have:=DB (a i).1 (a i).2;simp only[XH,X3]
  omega
theorem Hj {n:Nat} {th:TS} (h:GR n th) (k:Nat):0<=th.regs.getD k 0/\th.regs.getD k 0<1000:=by
 by_cases e:k<th.regs.length
 ·exact h.rv _ (CL e)
 ·rw[Xc,XU (by omega)]
  exact⟨by decide,by decide⟩
theorem VY (h:AP w b p s) (a0:b<B) (hW:BW w B bb out) (a7:B<=w.heap.size) {t n:Nat} (ht:t<4) (aG:Ck w B0) (aZ:B0<=B) (E:GR n (s.th t)) (hn:n<=24) (h8:(p.ts.getD t []).length<=8) (be:out.length<=200000) :
 XX Tryz.prog 101 #[Ab bb,.pointer (some ⟨b,27+t*207,none⟩)] w λe w'=>e = .returned (.tuple #[])/\BW w' B bb (out++CR (p.ts.getD t []) (s.th t))/\Xm B w w':=by
 have aB:(s.th t).pc<=25:=by have:=E.pc2;omega
 have a5:=Ra _ aB;have hM:=fun(w':Xh) (d:Xm B w w')=>(h.same (d.block b a0):AP w' b p s)
 have az:=fun(w':Xh) (d:Xm B w w')=>(aG.keep (d.mono aZ))
 have hP:=Aa (fun(w':Xh) (d:Xm B w w')=>aaO (hM w' d) ht (az w' d) E.ph aB);have N:=Aa (fun(w':Xh) (d:Xm B w w') (k:Nat)=>IP ((s.th t).regs.getD k 0) (by have:=(Hj E k).1;omega) (by have:=(Hj E k).2;omega) w' (az w' d));have V:=JX _ (Hj E);have Q:=λk=>DB (Hj E k).1 (Hj E k).2;have cP:=Aa (fun(w':Xh) (d:Xm B w w')=>Jp (hM w' d) ht);have M:=Aa (fun(w':Xh) (d:Xm B w w') (k:Nat) (hk:k<4)=>abI (hM w' d) ht hk);have c0:=abK h ht;obtain⟨nm,aO⟩:∃nm,p.ts.getD t []=nm:=⟨_,rfl⟩;obtain⟨th,aF⟩:∃th,s.th t=th:=⟨_,rfl⟩;simp only[aO,aF] at *;obtain⟨H,an⟩:∃H,Gd th=H:=⟨_,rfl⟩;have aN:=GQ hW nm (by omega) a7;have aK:CR nm th=nm++[32]++H++(if th.ph=0 then [] else BX th.regs 4)++[10]:=by unfold CR;rw[an]
 rw[aK];obtain⟨F,A⟩:∃F,out++(nm++[32]++H++(if th.ph=0 then [] else BX th.regs 4)++[10])=F:=⟨_,rfl⟩;rw[A];replace A:=Aa A;rw[an] at a5 hP;clear h hW hM az aG E aO aF an aK aB;unfold Ab at *
 go_enter Tryz.func101,Tryz.ntmps101
 go_wp2_with fail
 refine aN.mono ?_;rintro e w1 ⟨rfl,aU,aA⟩;have X:=It aU 32 (by rw[Xb];omega) (by have:=aA.size;omega);have aC:=Aa aA;clear aN aU aA c0;unfold Ab at X;rw[Ir 32 32 rfl] at X
 go_wp2_with fail
 refine X.mono ?_;rintro e w2 ⟨rfl,R,aS⟩;have G:=aC.out.trans aS;have aE:=hP.out w2 G;have aM:=Aa (⟨G,R⟩:_/\_);clear X R aS G aC hP
 go_wp2_with fail
 refine aE.mono ?_;rintro e w3 ⟨rfl,ar⟩;obtain⟨G,R⟩:=aM.out;have aT:=R.below ar;have am:Xm B w w3:=G.trans (ar.mono (by have:=G.size;omega));have ai:=GQ aT H (by simp only[Xb,XH,X3];omega) (by have:=am.size;omega);have ao:=Aa am;clear aE ar G R aT am aM;unfold Ab at ai
 go_wp2_with fail
 refine ai.mono ?_;rintro e T ⟨rfl,U,au⟩;have C:=ao.out.trans au;have c1:=cP.out T C;obtain⟨K,ax⟩:∃K,out++nm++[32]++H=K:=⟨_,rfl⟩;have bm:K.length<=200100:=by rw[<-ax];simp only[Xb,XH,X3];omega
 rw[ax] at U;have af:∀r:Tx,out++(nm++[32]++H++r++[10])=(K++r)++[10]:=λr=>by rw[<-ax];simp
 by_cases P:th.ph=0
 ·replace A:Hid (F=K++[10]):=by unfold Hid;rw[<-A.out,if_pos P,af,Ye]
  rw[P] at c1;have ad:=It U 10 (by omega) (by have:=C.size;omega);have aH:=Aa C;clear ai U au C ao cP M N V Q af P;unfold Ab at ad;rw[Ir 10 10 rfl] at ad
  go_wp2_with fail
  refine ad.mono ?_;rintro e w5 ⟨rfl,aD,aP⟩;have j:=Aa (⟨aD,aH.out.trans aP⟩:_/\_);clear ad aD aP aH
  go_wp2_with fail
  go_end0
  rw[A.out]
  exact⟨rfl,j.out⟩
 ·replace A:Hid (F=K++BX th.regs 4++[10]):=by unfold Hid;rw[<-A.out,if_neg P,af]
  have bj:(th.ph != 0)=true:=by simpa using P
  have r0:=M.out T C 0 (by omega);have r1:=M.out T C 1 (by omega);have r2:=M.out T C 2 (by omega);have r3:=M.out T C 3 (by omega);rw[Nat.add_zero] at r0;have S:=JW th.regs;have ab:BX th.regs 0=[]:=rfl;have aX:=Aa (λw' d=>N.out w' d 0);have aY:=Aa (λw' d=>N.out w' d 1);have a3:=Aa (λw' d=>N.out w' d 2);have a2:=Aa (λw' d=>N.out w' d 3);have aa:=S 0;have ah:=S 1;have W:=S 2;have Z:=S 3;have bd:=Q 0;have bk:=Q 1;have bn:=Q 2;have bg:=Q 3;generalize th.regs.getD 0 0=q0 at *;generalize th.regs.getD 1 0=q1 at *;generalize th.regs.getD 2 0=q2 at *;generalize th.regs.getD 3 0=q3 at *;obtain⟨RT,aV⟩:∃RT,BX th.regs=RT:=⟨_,rfl⟩;rw[aV] at aa ah W Z V ab A;replace aa:=Aa aa;replace ah:=Aa ah;replace W:=Aa W;replace Z:=Aa Z;have H4:=Aa (⟨U,C⟩:_/\_);replace V:=Aa V;replace ab:=Aa ab;clear ai U au C ao cP M N Q af P S aV
  go_wp2_with fail
  go_loopw [27] (λiv wr=>∃i:Nat,i<=4/\iv = .int .i64 i/\BW wr B bb (K++RT i)/\Xm B w wr) (λiv _=>4 - (intOf iv).toNat)
  case atStart=>exact⟨0,Xw _,rfl,(by rw[ab.out,Ye];exact H4.out.1),H4.out.2⟩
  case round=>
   clear H4;obtain⟨i,hi,rfl,hS,O⟩:=hrel;have a8:=V.out i
   by_cases h5:i<4
   ·have:i=0\/i=1\/i=2\/i=3:=by omega
    have D:=It hS 32 (by rw[Xb];omega) (by have:=O.size;omega);have v:=Aa O;clear hS O hi h5;unfold Ab at D;rw[Ir 32 32 rfl] at D
    rcases this with rfl|rfl|rfl|rfl
    ·have aw:=acN q0 q1 q2 q3
     go_wp2_with fail
     refine D.mono ?_;rintro e I ⟨rfl,c,x⟩;have a:=v.out.trans x;have y:=aX.out I a;have u:=Aa (⟨a,c⟩:_/\_);clear D c x a v
     go_wp2_with fail
     refine y.mono ?_;rintro e J ⟨rfl,f⟩;obtain⟨a,c⟩:=u.out;have z:=c.below f;have g:Xm B w J:=a.trans (f.mono (by have:=a.size;omega));have l:=GQ z (Yj q0) (by simp only[Xb,XH,X3];omega) (by have:=g.size;omega);have o:=Aa g;clear y f a c z g u;unfold Ab at l
     go_wp2_with fail
     refine l.mono ?_;rintro e w8 ⟨rfl,m,q⟩;have j:=Aa (⟨m,o.out.trans q⟩:_/\_);clear l m q o
     go_wp2_with fail
     go_roundw
     case rel=>
      refine⟨1,by omega,rfl,?_,j.out.2⟩;rw[aa.out,<-XZ,<-XZ];exact j.out.1
     case measure=>decide
    ·have aw:=acM q0 q1 q2 q3
     go_wp2_with fail
     refine D.mono ?_;rintro e I ⟨rfl,c,x⟩;have a:=v.out.trans x;have y:=aY.out I a;have u:=Aa (⟨a,c⟩:_/\_);clear D c x a v
     go_wp2_with fail
     refine y.mono ?_;rintro e J ⟨rfl,f⟩;obtain⟨a,c⟩:=u.out;have z:=c.below f;have g:Xm B w J:=a.trans (f.mono (by have:=a.size;omega));have l:=GQ z (Yj q1) (by simp only[Xb,XH,X3];omega) (by have:=g.size;omega);have o:=Aa g;clear y f a c z g u;unfold Ab at l
     go_wp2_with fail
     refine l.mono ?_;rintro e w8 ⟨rfl,m,q⟩;have j:=Aa (⟨m,o.out.trans q⟩:_/\_);clear l m q o
     go_wp2_with fail
     go_roundw
     case rel=>
      refine⟨2,by omega,rfl,?_,j.out.2⟩;rw[ah.out,<-XZ,<-XZ];exact j.out.1
     case measure=>decide
    ·have aw:=acL q0 q1 q2 q3
     go_wp2_with fail
     refine D.mono ?_;rintro e I ⟨rfl,c,x⟩;have a:=v.out.trans x;have y:=a3.out I a;have u:=Aa (⟨a,c⟩:_/\_);clear D c x a v
     go_wp2_with fail
     refine y.mono ?_;rintro e J ⟨rfl,f⟩;obtain⟨a,c⟩:=u.out;have z:=c.below f;have g:Xm B w J:=a.trans (f.mono (by have:=a.size;omega));have l:=GQ z (Yj q2) (by simp only[Xb,XH,X3];omega) (by have:=g.size;omega);have o:=Aa g;clear y f a c z g u;unfold Ab at l
     go_wp2_with fail
     refine l.mono ?_;rintro e w8 ⟨rfl,m,q⟩;have j:=Aa (⟨m,o.out.trans q⟩:_/\_);clear l m q o
     go_wp2_with fail
     go_roundw
     case rel=>
      refine⟨3,by omega,rfl,?_,j.out.2⟩;rw[W.out,<-XZ,<-XZ];exact j.out.1
     case measure=>decide
    ·have aw:=acK q0 q1 q2 q3
     go_wp2_with fail
     refine D.mono ?_;rintro e I ⟨rfl,c,x⟩;have a:=v.out.trans x;have y:=a2.out I a;have u:=Aa (⟨a,c⟩:_/\_);clear D c x a v
     go_wp2_with fail
     refine y.mono ?_;rintro e J ⟨rfl,f⟩;obtain⟨a,c⟩:=u.out;have z:=c.below f;have g:Xm B w J:=a.trans (f.mono (by have:=a.size;omega));have l:=GQ z (Yj q3) (by simp only[Xb,XH,X3];omega) (by have:=g.size;omega);have o:=Aa g;clear y f a c z g u;unfold Ab at l
     go_wp2_with fail
     refine l.mono ?_;rintro e w8 ⟨rfl,m,q⟩;have j:=Aa (⟨m,o.out.trans q⟩:_/\_);clear l m q o
     go_wp2_with fail
     go_roundw
     case rel=>
      refine⟨4,by omega,rfl,?_,j.out.2⟩;rw[Z.out,<-XZ,<-XZ];exact j.out.1
     case measure=>decide
   ·have aW:i=4:=by omega
    subst aW;have Y:=It hS 10 (by rw[Xb];omega) (by have:=O.size;omega);have v:=Aa O;clear hS O hi h5;unfold Ab at Y;rw[Ir 10 10 rfl] at Y
    go_wp2_with fail
    refine Y.mono ?_;rintro e w9 ⟨rfl,aI,aJ⟩;have j:=Aa (⟨aI,v.out.trans aJ⟩:_/\_);clear Y aI aJ v
    go_wp2_with fail
    go_end0
    rw[A.out]
    exact⟨rfl,j.out⟩
end
end Go.Proofs.YtdcacoifehkioaaGreatDoor
