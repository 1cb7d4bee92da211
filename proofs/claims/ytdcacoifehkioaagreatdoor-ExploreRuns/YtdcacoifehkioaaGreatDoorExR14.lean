import Derived.Test.YtdcacoifehkioaaGreatDoorExR13
import Derived.BigQuiet
open Go renaming World->Xg,Calls->X3
open Go.RowKit renaming Below->Xn,wrap64->Ya
open Go.RowKit.Below renaming refl->Xo
open Nat renaming le_refl->Xf,le_of_not_lt->adw,zero_le->XD,sub_lt_sub_left->Xs,lt_succ_self->Xt
open Bool renaming eq_iff_iff->ZH
open List renaming getD_eq_getElem?_getD->Xb,getElem?_eq_none->XO,length_set->Yq,mem_cons->XL,not_mem_nil->Yd,range->Yt,range_succ->ZI,flatMap_append->XZ,length_append->Xd,append_nil->Yf,length_cons->Xw,length_nil->XU,append_assoc->Xx
open Int renaming toNat_natCast->Yu
open Go.Lib renaming itoa->Yy
set_option maxRecDepth 100000
set_option maxHeartbeats 2000000
set_option linter.unusedVariables false
set_option linter.unusedSimpArgs false
namespace Go.Proofs.YtdcacoifehkioaaGreatDoor
open Go.RowKit Go.Proofs.Cod
section
variable {w w':Xg} {b:Nat} {p:PD} {s:MS}
abbrev AD (w:Xg) (b:Nat) (p:PD) (s:MS):Prop:=Ak w b 117 856 (Au p s)
theorem Io (h:AD w b p s) {t:Nat} (a:t<4):w.cell? ⟨b,27+t*207+1,none⟩=some (.int .i64 (s.th t).ph):=by
 rw[h.cell (by omega),Ei p s a (by omega)];rfl
theorem JY (h:AD w b p s) {t:Nat} (a:t<4):w.cell? ⟨b,27+t*207+2,none⟩=some (.int .i64 (s.th t).pc):=by
 rw[h.cell (by omega),Ei p s a (by omega)];rfl
theorem Wo (h:AD w b p s) {i:Nat} (a:i<4):w.cell? ⟨b,18+(i*2+1),none⟩=some (.int .i64 (s.locks.getD i 0)):=by
 rw[h.cell (by omega),LT p s a]
theorem Pi (h:AD w b p s) {t:Nat} (a:t<4) :
 X3 Tryz.prog 97 #[.pointer (some ⟨b,27+t*207,none⟩)] w λe w'=>e = .returned (.bool (Dd (s.th t)))/\w'=w:=by
 have c:=Io h a;unfold Dd;generalize (s.th t).ph=ph at *;clear h a
 cases d:ph == 2 with
 |true=>
  go_enter Tryz.func97,Tryz.ntmps97
  go_wp2_with fail
  go_ret
  exact⟨rfl,rfl⟩
 |false=>
  go_enter Tryz.func97,Tryz.ntmps97
  go_wp2_with fail
  go_ret
  exact⟨rfl,rfl⟩
theorem Pp (h:AD w b p s) {t:Nat} (a:t<4) (c:(s.th t).pc<=24) :
 X3 Tryz.prog 42 #[.pointer (some ⟨b,27+t*207,none⟩)] w λe w'=>e = .returned (.pointer (some ⟨b,27+t*207+7+(s.th t).pc*8,none⟩))/\w'=w.drew:=by
 have d:=JY h a;generalize (s.th t).pc=pc at *;have f:(pc:Int)<25:=by omega
 clear h a c
 go_enter Tryz.func42,Tryz.ntmps42
 go_wp2_with fail
 go_region
 all_goals
  go_wp2_with fail
  go_ret
  exact⟨rfl,rfl⟩
structure RY (p:PD) (x:Ac):Prop where
 x0:0<=x.x
 lock:x.op=CD->x.x<4
 join:x.op=CE->x.x<4
 spawn:x.op=Cy->x.x<4
theorem acj (h:AD w b p s) {x:Ac} (l:RY p x) :
 X3 Tryz.prog 98 #[Ab b,.agg (Bd x)] w λe w'=>e = .returned (.bool (Cc s x))/\Xn w.heap.size w w':=by
 have i:Xn w.heap.size w (w.alloc (.cells (Bd x) 108)):=(Xo _ _).alloc (Xf _) _;have o:=h.below i;obtain⟨n,g⟩:∃n:Nat,x.x=n:=⟨x.x.toNat,by have:=l.x0;omega⟩;have A:((bs x.op).toList == CD)=decide (x.op=CD):=by rw[AR];exact ZH.2 (by simp)
 have B:((bs x.op).toList == CE)=decide (x.op=CE):=by rw[AR];exact ZH.2 (by simp)
 have C:((bs x.op).toList == Cy)=decide (x.op=Cy):=by rw[AR];exact ZH.2 (by simp)
 have t:x.x.toNat=n:=by omega
 by_cases a:x.op=CD
 ·have j:n<4:=by have:=l.lock a;omega
  have d:Cc s x=decide (s.locks.getD n 0≠-1):=by unfold Cc;rw[if_pos a,t]
  have c:=Wo o j;rw[show 18+(n*2+1)=18+n*2+1 by omega] at c;rw[d];generalize s.locks.getD n 0=v at *;have z:decide (v≠-1)=(v != -1):=by rw[ZH];simp
  rw[z];have D:(n:Int)<4:=by omega
  obtain⟨u,r,aR,aN,bR,bN,y⟩:=x;have g:y=n:=g;subst g;have a:u=CD:=a;subst a;unfold Bd at *;dsimp only at *;have m:=Aa i;clear i l A B C o h t d z j;unfold Ab CD bs at *
  go_enter Tryz.func98,Tryz.ntmps98
  go_wp2_with fail
  go_quiet (fail)
  go_wp2_with fail
  go_ret
  exact⟨rfl,m.out.trans ⟨rfl,rfl,rfl,Xf _,λ_ _=>rfl⟩⟩
 ·by_cases f:x.op=CE
  ·have j:n<4:=by have:=l.join f;omega
   have d:Cc s x = !Dd (s.th n):=by unfold Cc;rw[if_neg a,if_pos f,t]
   have O:=λq=>Pi (Ak.same (w':=(w.alloc (.cells (Bd x) 108)).drewN q) o rfl) j;rw[d];generalize Dd (s.th n)=v at *;have D:(n:Int)<4:=by omega
   obtain⟨u,r,aR,aN,bR,bN,y⟩:=x;have g:y=n:=g;subst g;have f:u=CE:=f;subst f;unfold Bd at *;dsimp only at *;have m:=Aa i;clear i l A B C o h t d j a;unfold Ab CE bs at *
   go_enter Tryz.func98,Tryz.ntmps98
   go_wp2_with fail
   go_quiet ((go_at_call 97;refine Calls.quiet_of_same (O _)))
   go_wp2_with fail
   go_ret
   exact⟨rfl,m.out.trans ⟨rfl,rfl,rfl,Xf _,λ_ _=>rfl⟩⟩
  ·by_cases k:x.op=Cy
   ·have j:n<4:=by have:=l.spawn k;omega
    have d:Cc s x=decide ((s.th n).ph≠0):=by unfold Cc;rw[if_neg a,if_neg f,if_pos k,t]
    have c:=Io o j;rw[d];generalize (s.th n).ph=v at *;have z:decide (v≠0)=(v != 0):=by rw[ZH];simp
    rw[z];have D:(n:Int)<4:=by omega
    obtain⟨u,r,aR,aN,bR,bN,y⟩:=x;have g:y=n:=g;subst g;have k:u=Cy:=k;subst k;unfold Bd at *;dsimp only at *;have m:=Aa i;clear i l A B C o h t d z j a f;unfold Ab Cy bs at *
    go_enter Tryz.func98,Tryz.ntmps98
    go_wp2_with fail
    go_quiet (fail)
    go_wp2_with fail
    go_ret
    exact⟨rfl,m.out.trans ⟨rfl,rfl,rfl,Xf _,λ_ _=>rfl⟩⟩
   ·have d:Cc s x=false:=by unfold Cc;rw[if_neg a,if_neg f,if_neg k]
    rw[d];rw[decide_eq_false a] at A;rw[decide_eq_false f] at B;rw[decide_eq_false k] at C;unfold CD at A;unfold CE at B;unfold Cy at C;obtain⟨u,r,aR,aN,bR,bN,y⟩:=x;unfold Bd at *;dsimp only at *;have m:=Aa i;clear i l o h t d a f k g;unfold Ab at *
    go_enter Tryz.func98,Tryz.ntmps98
    go_wp2_with fail
    go_ret
    exact⟨rfl,m.out⟩
end
def AO (k:Bool) (C:List (List Ac)) (s:MS) (t:Int):MS×Ev:=AT k s t.toNat (Ci C t.toNat (s.th t.toNat))
def GD (k:Bool) (C:List (List Ac)) (x:MS×List Ev) (t:Int):MS×List Ev:=if AK C x.1 t=0 then((AO k C x.1 t).1,x.2++[(AO k C x.1 t).2]) else x
structure IE (nv nf nl:Nat) (C:List (List Ac)):Prop where
 four:C.length<=4
 code:∀c,c∈C->c.length<=24/\∀i,i∈c->FP nv nf nl C.length c.length i
theorem RA {C:List (List Ac)} {s:MS} {t:Int} (h:AK C s t=0):∃u:Nat,t=u/\u<s.thr.length/\(s.th u).ph≠0/\Dd (s.th u)=false/\Cc s (Ci C u (s.th u))=false:=by
 unfold AK at h
 by_cases a:t<0\/(s.thr.length:Int)<=t\/(s.th t.toNat).ph=0
 ·rw[if_pos a] at h;cases h
 ·rw[if_neg a] at h
  by_cases b:Dd (s.th t.toNat)=true
  ·rw[if_pos b] at h;cases h
  ·rw[if_neg b] at h
   by_cases c:Cc s (Ci C t.toNat (s.th t.toNat))=true
   ·rw[if_pos c] at h;cases h
   ·have f:¬t<0:=λe=>a (.inl e);have d:¬(s.thr.length:Int)<=t:=λe=>a (.inr (.inl e));refine⟨t.toNat,by omega,by omega,λe=>a (.inr (.inr e)),by simpa using b,by simpa using c⟩
section
variable {nv nf nl:Nat} {C:List (List Ac)} {s s':MS}
theorem LE {n:Nat} {th:TS} (h:FJ n th) (b:th.ph≠0) (a:Dd th=false):th.ph=1:=by
 unfold Dd at a;simp only[Bool.or_eq_false_iff,beq_eq_false_iff_ne] at a;have:=h.ph
 omega
theorem Pq (a:IE nv nf nl C) {t:Nat} (b:t<C.length) {th:TS} (c:th.pc<=(C.getD t []).length):Ci C t th=Cl\/(FP nv nf nl C.length (C.getD t []).length (Ci C t th)/\th.pc<(C.getD t []).length):=by
 unfold Ci
 by_cases e:th.pc<(C.getD t []).length
 ·exact .inr ⟨(a.code _ (CF b)).2 _ (CF e),e⟩
 ·exact .inl (by rw[Xb,XO (by omega)];rfl)
theorem Hy (d:IE nv nf nl C) (h:CG nv nf nl C s) {t:Int} (c:AK C s t=0):∃u:Nat,t=u/\u<C.length/\(s.th u).ph=1/\Cc s (Ci C u (s.th u))=false/\(Ci C u (s.th u)=Cl\/(FP nv nf nl C.length (C.getD u []).length (Ci C u (s.th u))/\(s.th u).pc<(C.getD u []).length)):=by
 obtain⟨u,rfl,a,f,g,b⟩:=RA c;rw[h.tl] at a;have e:=LE (h.th u a) f g
 exact⟨u,rfl,a,e,b,Pq d a ((h.th u a).pc (by omega))⟩
structure Bi (s s':MS):Prop where
 v:s'.vars=s.vars
 f:s'.flags=s.flags
 l:s'.locks=s.locks
 n:s'.thr.length=s.thr.length
 ph:∀t,(s'.th t).ph=(s.th t).ph
 rg:∀t,(s'.th t).regs=(s.th t).regs
 pc:∀t,(s.th t).ph<=1->(s'.th t).pc=(s.th t).pc
theorem Bi.refl (s:MS):Bi s s:=⟨rfl,rfl,rfl,rfl,λ_=>rfl,λ_=>rfl,λ_ _=>rfl⟩
theorem Bi.th (h:Bi s s') {t:Nat} (d:(s.th t).ph<=1):s'.th t=s.th t:=by
 have a:=h.ph t;have b:=h.rg t;have c:=h.pc t d
 cases e:s'.th t
 cases f:s.th t
 rw[e,f] at a b c;have a:_=_:=a;have b:_=_:=b;have c:_=_:=c;simp only[TS.mk.injEq]
 exact⟨a,c,b⟩
theorem Bi.Af (h:Bi s s') {t:Nat} (b:t<s.thr.length) {x x':TS} (d:x'.ph=x.ph) (g:x'.regs=x.regs) (c:x.ph<=1->x'.pc=x.pc):Bi (s.Af t x) (s'.Af t x'):=by
 have e:∀u,(s.Af t x).th u=if u=t then x else s.th u:=λu=>Fr s t u x b
 have a:∀u,(s'.Af t x').th u=if u=t then x' else s'.th u:=λu=>Fr s' t u x' (by rw[h.n];exact b)
 refine⟨h.v,h.f,h.l,?_,λu=>?_,λu=>?_,λu=>?_⟩
 ·show (s'.thr.set t x').length=(s.thr.set t x).length;rw[Yq,Yq];exact h.n
 ·rw[e,a]
  by_cases q:u=t
  ·rw[if_pos q,if_pos q];exact d
  ·rw[if_neg q,if_neg q];exact h.ph u
 ·rw[e,a]
  by_cases q:u=t
  ·rw[if_pos q,if_pos q];exact g
  ·rw[if_neg q,if_neg q];exact h.rg u
 ·rw[e,a]
  by_cases q:u=t
  ·rw[if_pos q,if_pos q];exact c
  ·rw[if_neg q,if_neg q];exact h.pc u
theorem Bi.over (h:Bi s s') (t:Nat):Dd (s'.th t)=Dd (s.th t):=by unfold Dd;rw[h.ph t]
theorem Bi.waits (h:Bi s s') (x:Ac):Cc s' x=Cc s x:=by
 unfold Cc;rw[h.l,h.over,h.ph]
theorem Bi.can (h:Bi s s') (f:CG nv nf nl C s) (t:Int):AK C s' t=AK C s t:=by
 unfold AK;rw[h.n,h.ph,h.over]
 by_cases c:t<0\/(s.thr.length:Int)<=t\/(s.th t.toNat).ph=0
 ·rw[if_pos c,if_pos c]
 ·rw[if_neg c,if_neg c]
  by_cases d:Dd (s.th t.toNat)=true
  ·rw[if_pos d,if_pos d]
  ·rw[if_neg d,if_neg d,h.waits];have g:t.toNat<C.length:=by
    have a:¬t<0:=λe=>c (.inl e);have b:¬(s.thr.length:Int)<=t:=λe=>c (.inr (.inl e));have:=f.tl
    omega
   have:=LE (f.th _ g) (λe=>c (.inr (.inr e))) (by simpa using d);rw[h.th (t:=t.toNat) (by omega)]
theorem Bi.step (h:Bi s s') {t:Nat} (P:t<s.thr.length) (X:(s.th t).ph=1) (x:Ac) (J:Cc s x=false):(AT true s' t x).2=(AT false s t x).2/\Bi (AT false s t x).1 (AT true s' t x).1:=by
 have e:=h.th (t:=t) (by omega);have Q:AT true s' t x=AT true {s' with vars:=s.vars,flags:=s.flags,locks:=s.locks} t x:=by rw[<-h.v,<-h.f,<-h.l]
 have W:Bi s {s' with vars:=s.vars,flags:=s.flags,locks:=s.locks}:=⟨rfl,rfl,rfl,h.n,h.ph,h.rg,h.pc⟩;rw[Q];have V:MS.th {s' with vars:=s.vars,flags:=s.flags,locks:=s.locks} t=s.th t:=e;have N:∀(y g:TS),g.ph=y.ph->g.regs=y.regs->(y.ph<=1->g.pc=y.pc)->Bi (s.Af t y) (MS.Af {s' with vars:=s.vars,flags:=s.flags,locks:=s.locks} t g):=λy g=>W.Af P;generalize j:({s' with vars:=s.vars,flags:=s.flags,locks:=s.locks}:MS)=q at *;have R:q.vars=s.vars:=by rw[<-j]
 have U:q.flags=s.flags:=by rw[<-j]
 have S:q.locks=s.locks:=by rw[<-j]
 clear j;unfold AT;rw[V,R,U,S];have a:=λy:TS=>N y y rfl rfl (λ_=>rfl);have I:∀p:Int,p=2\/p=3->Bi (s.Af t {s.th t with ph:=p,pc:=(s.th t).pc+1}) (q.Af t {s.th t with ph:=p,pc:=(s.th t).pc}):=λp Y=>N _ _ rfl rfl (λM=>by have M:p<=1:=M;omega)
 by_cases B:x.op=Ex
 ·rw[if_pos B,if_pos B];exact⟨rfl,a _⟩
 rw[if_neg B,if_neg B]
 by_cases E:x.op=ED
 ·rw[if_pos E,if_pos E];exact⟨rfl,a _⟩
 rw[if_neg E,if_neg E]
 by_cases o:x.op=Ew
 ·rw[if_pos o,if_pos o];exact⟨rfl,a _⟩
 rw[if_neg o,if_neg o]
 by_cases k:x.op=Ey
 ·rw[if_pos k,if_pos k];exact⟨rfl,a _⟩
 rw[if_neg k,if_neg k]
 by_cases C:x.op=BH
 ·rw[if_pos C,if_pos C];exact⟨rfl,a _⟩
 rw[if_neg C,if_neg C]
 by_cases i:x.op=Bl
 ·rw[if_pos i,if_pos i];have r:=a {s.th t with pc:=(s.th t).pc+1}
  exact⟨rfl,⟨rfl,r.f,r.l,r.n,r.ph,r.rg,r.pc⟩⟩
 rw[if_neg i,if_neg i]
 by_cases u:x.op=Eg
 ·rw[if_pos u,if_pos u];exact⟨rfl,a _⟩
 rw[if_neg u,if_neg u]
 by_cases A:x.op=Ef
 ·rw[if_pos A,if_pos A];have r:=a {s.th t with pc:=(s.th t).pc+1}
  exact⟨rfl,⟨r.v,rfl,r.l,r.n,r.ph,r.rg,r.pc⟩⟩
 rw[if_neg A,if_neg A]
 by_cases c:x.op=CD
 ·rw[if_pos c,if_pos c];have r:=a {s.th t with pc:=(s.th t).pc+1}
  exact⟨rfl,⟨r.v,r.f,rfl,r.n,r.ph,r.rg,r.pc⟩⟩
 rw[if_neg c,if_neg c]
 by_cases w:x.op=Ee
 ·rw[if_pos w,if_pos w]
  by_cases d:s.locks.getD x.x.toNat 0≠t
  ·rw[if_pos d,if_pos d];exact⟨rfl,I 3 (.inr rfl)⟩
  ·rw[if_neg d,if_neg d];have r:=a {s.th t with pc:=(s.th t).pc+1}
   exact⟨rfl,⟨r.v,r.f,rfl,r.n,r.ph,r.rg,r.pc⟩⟩
 rw[if_neg w,if_neg w]
 by_cases b:x.op=Cy
 ·rw[if_pos b,if_pos b];have r:=a {s.th t with pc:=(s.th t).pc+1};refine⟨rfl,?_⟩
  by_cases K:x.x.toNat<(s.Af t {s.th t with pc:=(s.th t).pc+1}).thr.length
  ·refine r.Af K rfl (r.rg _) (λ_=>r.pc _ ?_);have Z:(s.th x.x.toNat).ph=0:=by
    unfold Cc at J;rw[if_neg c,if_neg (by rw[b];decide),if_pos b] at J
    simpa using J
   rw[Fr s t _ _ P]
   split
   ·show (s.th t).ph<=1;omega
   ·omega
  ·have O:∀(m:MS) (y:TS),m.thr.length<=x.x.toNat->m.Af x.x.toNat y=m:=λm y T=>by
    unfold MS.Af;rw[List.set_eq_of_length_le T]
   rw[O _ _ (adw K),O _ _ (by rw[r.n];exact adw K)];exact r
 rw[if_neg b,if_neg b]
 by_cases z:x.op=CE
 ·rw[if_pos z,if_pos z];exact⟨rfl,a _⟩
 rw[if_neg z,if_neg z]
 by_cases H:x.op=Ez
 ·rw[if_pos H,if_pos H];exact⟨rfl,a _⟩
 rw[if_neg H,if_neg H]
 by_cases F:x.op=EB
 ·rw[if_pos F,if_pos F];exact⟨rfl,a _⟩
 rw[if_neg F,if_neg F]
 by_cases G:x.op=EA
 ·rw[if_pos G,if_pos G];exact⟨rfl,a _⟩
 rw[if_neg G,if_neg G]
 by_cases D:x.op=EC
 ·rw[if_pos D,if_pos D]
  by_cases d:Am (s.th t) x.aR x.aN≠Am (s.th t) x.bR x.bN
  ·rw[if_pos d,if_pos d];exact⟨rfl,I 3 (.inr rfl)⟩
  ·rw[if_neg d,if_neg d];exact⟨rfl,a _⟩
 rw[if_neg D,if_neg D]
 exact⟨rfl,I 2 (.inl rfl)⟩
end
section
variable {w w':Xg} {b:Nat} {p:PD} {s:MS}
theorem LV (h:AD w b p s) {t:Nat} (d:t<4) (a:t<p.C.length) (f:(s.th t).pc<=(p.C.getD t []).length) (g:(p.C.getD t []).length<=24) {pc:Nat} (i:(s.th t).pc=pc) {x:Ac} (c:Ci p.C t (s.th t)=x) :
 w.cell? ⟨b,27+t*207+7+pc*8,none⟩=some (.string (bs x.op))/\w.cell? ⟨b,27+t*207+7+pc*8+1,none⟩=some (.int .i64 x.r)/\w.cell? ⟨b,27+t*207+7+pc*8+2,none⟩=some (.bool x.aR)/\w.cell? ⟨b,27+t*207+7+pc*8+3,none⟩=some (.int .i64 x.aN)/\w.cell? ⟨b,27+t*207+7+pc*8+4,none⟩=some (.bool x.bR)/\w.cell? ⟨b,27+t*207+7+pc*8+5,none⟩=some (.int .i64 x.bN)/\w.cell? ⟨b,27+t*207+7+pc*8+6,none⟩=some (.int .i64 x.x)/\w.cell? ⟨b,27+t*207+7+pc*8+7,none⟩=some (Di x.op):=by
 have key:∀j,j<8->w.cell? ⟨b,27+t*207+7+pc*8+j,none⟩=some (Fe x j):=λj e=>by
  rw[show 27+t*207+7+pc*8+j=27+t*207+(7+((s.th t).pc*8+j)) by omega,h.cell (by omega),Wd d a f g e,c]
 exact⟨key 0 (by omega),key 1 (by omega),key 2 (by omega),key 3 (by omega),key 4 (by omega),key 5 (by omega),key 6 (by omega),key 7 (by omega)⟩
theorem JZ (h:AD w b p s):w.cell? ⟨b,855,none⟩=some (.int .i64 p.ts.length):=by rw[h.cell (by omega),PE]
structure BL (p:PD):Prop where
 fit:IE p.vs.length p.fs.length p.ls.length p.C
 v:p.vs.length<=4
 f:p.fs.length<=4
 l:p.ls.length<=4
 tc:p.ts.length=p.C.length
abbrev Bt (p:PD) (s:MS):Prop:=CG p.vs.length p.fs.length p.ls.length p.C s
theorem Su (d:BL p) {n:Nat} {x:Ac} (b:x=Cl\/FP p.vs.length p.fs.length p.ls.length p.C.length n x):RY p x:=by
 have k:=d.fit.four;have m:=d.l
 rcases b with rfl|b
 ·exact⟨by decide,λq=>(by cases q),λq=>(by cases q),λq=>(by cases q)⟩
 ·obtain⟨q,a,c,h,j,g,f,i⟩:=b.ex;refine⟨b.x0,λe=>?_,λe=>?_,λe=>?_⟩
  ·rw[c] at e;simp only[AQ,XL,Yd,or_false] at a
   rcases a with rfl|rfl|rfl|rfl|rfl|rfl|rfl|rfl|rfl|rfl|rfl|rfl|rfl|rfl|rfl|rfl|rfl<;>first|(have:=g (by decide);omega)|exact absurd e (by decide)
  ·rw[c] at e;simp only[AQ,XL,Yd,or_false] at a
   rcases a with rfl|rfl|rfl|rfl|rfl|rfl|rfl|rfl|rfl|rfl|rfl|rfl|rfl|rfl|rfl|rfl|rfl<;>first|(have:=f (by decide);omega)|exact absurd e (by decide)
  ·rw[c] at e;simp only[AQ,XL,Yd,or_false] at a
   rcases a with rfl|rfl|rfl|rfl|rfl|rfl|rfl|rfl|rfl|rfl|rfl|rfl|rfl|rfl|rfl|rfl|rfl<;>first|(have:=f (by decide);omega)|exact absurd e (by decide)
theorem OL (h:AD w b p s) (c:BL p) (k:Bt p s) (t:Int) :
 X3 Tryz.prog 41 #[Ab b,.int .i64 t] w λe w'=>e = .returned (.int .i64 (AK p.C s t))/\Xn w.heap.size w w':=by
 have N:=JZ h;have A:=k.tl;have y:=c.tc;have D:=c.fit.four
 by_cases f:t<0
 ·have a:AK p.C s t=5:=by unfold AK;rw[if_pos (.inl f)]
  rw[a];have K:decide (t<0)=true:=by simpa using f
  clear h c k a f A y D N;unfold Ab
  go_enter Tryz.func41,Tryz.ntmps41
  go_wp2_with fail
  go_ret
  exact⟨rfl,Xo _ _⟩
 ·by_cases z:(s.thr.length:Int)<=t
  ·have a:AK p.C s t=5:=by unfold AK;rw[if_pos (.inr (.inl z))]
   rw[a];have K:decide (t<0)=false:=by simpa using f
   have Q:decide ((p.ts.length:Int)<=t)=true:=by simp only[decide_eq_true_eq];omega
   clear h c k a f z A y D;unfold Ab
   go_enter Tryz.func41,Tryz.ntmps41
   go_wp2_with fail
   go_ret
   exact⟨rfl,Xo _ _⟩
  ·obtain⟨u,rfl⟩:∃u:Nat,t=u:=⟨t.toNat,by omega⟩;have l:u<p.C.length:=by omega
   have m:u<4:=by omega
   have X:(u:Int)<4:=by omega
   have K:decide ((u:Int)<0)=false:=by simp
   have Q:decide ((p.ts.length:Int)<=(u:Int))=false:=by simp only[decide_eq_false_iff_not];omega
   have W:decide (p.ts.length<=u)=false:=by simp only[decide_eq_false_iff_not];omega
   have O:=Io h m;have B:=k.th u l
   by_cases j:(s.th u).ph=0
   ·have a:AK p.C s (u:Int)=5:=by unfold AK;rw[Yu,if_pos (.inr (.inr j))]
    rw[a];rw[j] at O;clear h c k a f z A y D B j l m;unfold Ab
    go_enter Tryz.func41,Tryz.ntmps41
    go_wp2_with fail
    go_ret
    exact⟨rfl,Xo _ _⟩
   ·have E:¬((u:Int)<0\/(s.thr.length:Int)<=(u:Int)\/(s.th (u:Int).toNat).ph=0):=by rw[Yu];omega
    have i:=Pi h m;have d3:((s.th u).ph == 0)=false:=by simpa using j
    cases n:Dd (s.th u) with
    |true=>
     have a:AK p.C s (u:Int)=6:=by unfold AK;rw[if_neg E,Yu,if_pos n]
     rw[a];rw[n] at i;generalize (s.th u).ph=ph at *;clear h c k a f z A y D B j l m E n;unfold Ab
     go_enter Tryz.func41,Tryz.ntmps41
     go_wp2_with fail
     refine i.mono ?_;rintro e w1 ⟨rfl,rfl⟩;clear i
     go_wp2_with fail
     go_ret
     exact⟨rfl,Xo _ _⟩
    |false=>
     have R:=LE B j n;have J:=B.pc (by omega);have M:=(c.fit.code _ (CF (d:=[]) l)).1;rw[n] at i;have o:=Pp h m (by omega);obtain⟨x,F⟩:∃x,Ci p.C u (s.th u)=x:=⟨_,rfl⟩;obtain⟨pc,G⟩:∃pc,(s.th u).pc=pc:=⟨_,rfl⟩;rw[G] at o;have I:AD w.drew b p s:=Ak.same h rfl;obtain⟨Z,S,T,U,V,k5,Y,-⟩:=LV I m l J M G F;have r:=acj I (x:=x) (Su c (by rw[<-F];rcases Pq c.fit l J with q|q;exact .inl q;exact .inr q.1));have a:AK p.C s (u:Int)=if Cc s x=true then 7 else 0:=by unfold AK;rw[if_neg E,Yu,if_neg (by rw[n];simp),F]
     rw[a];generalize (s.th u).ph=ph at *;generalize Cc s x=g at *;unfold Bd at r;clear h c k a f z A y D B j l m E n R J M F G I;unfold Ab at *
     cases g with
     |true=>
      go_enter Tryz.func41,Tryz.ntmps41
      go_wp2_with fail
      refine i.mono ?_;rintro e w1 ⟨rfl,rfl⟩;clear i
      go_wp2_with fail
      refine o.mono ?_;rintro e P ⟨rfl,rfl⟩;clear o
      go_wp2_with fail
      refine r.mono ?_;rintro e w3 ⟨rfl,v⟩;have H:=Aa v;clear r v
      go_wp2_with fail
      go_ret
      exact⟨rfl,(show Xn w1.heap.size w1 w1.drew from⟨rfl,rfl,rfl,Xf _,λ_ _=>rfl⟩).trans H.out⟩
     |false=>
      go_enter Tryz.func41,Tryz.ntmps41
      go_wp2_with fail
      refine i.mono ?_;rintro e w1 ⟨rfl,rfl⟩;clear i
      go_wp2_with fail
      refine o.mono ?_;rintro e P ⟨rfl,rfl⟩;clear o
      go_wp2_with fail
      refine r.mono ?_;rintro e w3 ⟨rfl,v⟩;have H:=Aa v;clear r v
      go_wp2_with fail
      go_ret
      exact⟨rfl,(show Xn w1.heap.size w1 w1.drew from⟨rfl,rfl,rfl,Xf _,λ_ _=>rfl⟩).trans H.out⟩
end
end Go.Proofs.YtdcacoifehkioaaGreatDoor
namespace Go.Proofs.YtdcacoifehkioaaGreatDoor
open Go.RowKit Go.Shelf Go.Proofs.Cod
def Hq (nm v:Tx):Tx:=nm++[61]++v++[10]
def BY (T:Int->Tx) (ns:List Tx) (l:List Int) (i:Nat):Tx:=(Yt i).flatMap λk=>Hq (ns.getD k []) (T (l.getD k 0))
theorem Jb (T:Int->Tx) (a:List Tx) (l:List Int) (i:Nat):BY T a l (i+1)=BY T a l i++Hq (a.getD i []) (T (l.getD i 0)):=by
 unfold BY;rw[ZI,XZ]
 simp
theorem GH (T:Int->Tx) (b:List Tx) (l:List Int) (i:Nat) (d:∀k,(b.getD k []).length<=8) (e:∀k,(T (l.getD k 0)).length<=21):(BY T b l i).length<=i*31:=by
 induction i with
 |zero=>simp[BY]
 |succ i f=>
  rw[Jb,Xd];have a:=d i;have c:=e i;have:(Hq (b.getD i []) (T (l.getD i 0))).length=(b.getD i []).length+1+(T (l.getD i 0)).length+1:=by simp[Hq];omega
  omega
def Do (ts:List Tx) (n:Int):Tx:=if n = -1 then [45] else ts.getD n.toNat []
section
variable {w w':Xg} {b:Nat} {p:PD} {s:MS}
theorem aaA (h:AD w b p s) (n:Int) (f : -1<=n) (g:n<4) :
 X3 Tryz.prog 100 #[Ab b,.int .i64 n] w λe w'=>e = .returned (.string (bs (Do p.ts n)))/\w'=w:=by
 by_cases a:n = -1
 ·subst a;have e:Do p.ts (-1)=[45]:=rfl;rw[e];clear h;unfold Ab
  go_enter Tryz.func100,Tryz.ntmps100
  go_wp2_with fail
  go_ret
  exact⟨rfl,rfl⟩
 ·obtain⟨m,rfl⟩:∃m:Nat,n=m:=⟨n.toNat,by omega⟩;have e:Do p.ts (m:Int)=p.ts.getD m []:=by unfold Do;rw[if_neg a,Yu]
  rw[e];have d:m<4:=by omega
  have c:w.cell? ⟨b,27+m*207,none⟩=some (.string (bs (p.ts.getD m []))):=by
   have q:=h.cell (k:=27+m*207+0) (by omega);rw[Ei p s d (by omega)] at q;exact q
  have i:((m:Int) == -1)=false:=by simp only[beq_eq_false_iff_ne];omega
  generalize p.ts.getD m []=nm at *;clear h a e d f;unfold Ab
  go_enter Tryz.func100,Tryz.ntmps100
  go_wp2_with fail
  go_ret
  exact⟨rfl,rfl⟩
def By (p:PD) (s:MS) (o:Nat):List Tx×List Int:=if o=0 then(p.vs,s.vars) else if o=9 then(p.fs,s.flags) else(p.ls,s.locks)
theorem Ob (h:AD w b p s) {o:Nat} (a:o=0\/o=9\/o=18):w.cell? ⟨b,o+8,none⟩=some (.int .i64 (By p s o).1.length)/\∀i,i<4->w.cell? ⟨b,o+i*2,none⟩=some (.string (bs ((By p s o).1.getD i [])))/\w.cell? ⟨b,o+i*2+1,none⟩=some (.int .i64 ((By p s o).2.getD i 0)):=by
 have key:∀k,k<9->w.cell? ⟨b,o+k,none⟩=some (Br (By p s o).1 (By p s o).2 k):=λk c=>by
  rw[h.cell (by omega)];unfold Au By
  rcases a with rfl|rfl|rfl
  ·rw[if_pos (by omega),Nat.zero_add];rfl
  ·rw[if_neg (by omega),if_pos (by omega),show 9+k - 9=k by omega];rfl
  ·rw[if_neg (by omega),if_neg (by omega),if_pos (by omega),show 18+k - 18=k by omega];rfl
 refine⟨key 8 (by omega),λi d=>⟨?_,?_⟩⟩
 ·rw[key (i*2) (by omega)];unfold Br;rw[if_neg (by omega),if_pos (by omega),show i*2 / 2=i by omega]
 ·rw[Nat.add_assoc,key (i*2+1) (by omega)];unfold Br;rw[if_neg (by omega),if_neg (by omega),show (i*2+1) / 2=i by omega]
end
section
variable {w w':Xg} {b B bb:Nat} {p:PD} {s:MS} {out:Tx}
theorem GT (c:UInt8) (n:Int) (h:(c.toNat:Int)=n):Value.int .u8 c.toNat = .int .u8 n:=by rw[h]
theorem NY (h:AD w b p s) (aA:b<B) (hW:BW w B bb out) (aF:B<=w.heap.size) {o:Nat} (U:o=0\/o=9\/o=18) (hn:(By p s o).1.length<=4) (t:∀k,((By p s o).1.getD k []).length<=8) (aG:out.length<=100000) {T:Int->Tx} (u:∀k,(T ((By p s o).2.getD k 0)).length<=21)
 (m:∀w',Xn B w w'->∀i,i<(By p s o).1.length->X3 Tryz.prog 72 #[.int .i64 ((By p s o).2.getD i 0)] w' λe ay=>e = .returned (.string (bs (T ((By p s o).2.getD i 0))))/\Xn w'.heap.size w' ay) :
 X3 Tryz.prog 99 #[Ab bb,.pointer (some ⟨b,o,none⟩),.func (.func 72) #[] #[]] w λe w'=>e = .returned (.tuple #[])/\BW w' B bb (out++BY T (By p s o).1 (By p s o).2 (By p s o).1.length)/\Xn B w w':=by
 have g:=λi=>GH T (By p s o).1 (By p s o).2 i t u;have d:=fun(w':Xg) (y:Xn B w w')=>Ob (w:=w') (h.same (y.block b aA)) U;obtain⟨a,ao⟩:∃a,(By p s o).1=a:=⟨_,rfl⟩;obtain⟨l,hl⟩:∃l,(By p s o).2=l:=⟨_,rfl⟩;simp only[ao,hl] at hn t u m g d |-;obtain⟨c8,-⟩:=d w (Xo _ _);replace d:=Aa d;replace m:=Aa m;replace g:=Aa g;have V:=Aa hW;clear h hW ao hl U;unfold Ab at *
 go_enter Tryz.func99,Tryz.ntmps99
 go_wp2_with fail
 go_loopw [11] (λM wr=>∃i:Nat,i<=a.length/\M = .int .i64 i/\BW wr B bb (out++BY T a l i)/\Xn B w wr) (λM _=>a.length - (intOf M).toNat)
 case atStart=>exact⟨0,XD _,rfl,(by have:BY T a l 0=[]:=rfl;rw[this,Yf];exact V.out),Xo _ _⟩
 case round=>
  clear V;obtain⟨i,hi,rfl,x,j⟩:=hrel
  by_cases Q:i<a.length
  ·have X:i<4:=by omega
   have aI:(i:Int)<4:=by omega
   have aM:(i:Int)<(a.length:Int):=by omega
   have Z:Ya ((i:Int)+1)=(i:Int)+1:=by unfold Ya;omega
   obtain⟨-,ar⟩:=d.out wr j;obtain⟨c1,R⟩:=ar i X;have az:=g.out i;have n:=Jb T a l i;have a8:=t i;have aw:=u i;have G:Hid (∀w',Xn B w w'->_):=λw' y=>m.out w' y i Q;obtain⟨nm,ag⟩:∃nm,a.getD i []=nm:=⟨_,rfl⟩;obtain⟨v,A⟩:∃v,l.getD i 0=v:=⟨_,rfl⟩;rw[ag] at c1 n a8;rw[A] at n aw;rw[A] at G;obtain⟨F,P⟩:∃F,T v=F:=⟨_,rfl⟩;rw[P] at n aw;rw[P] at G;obtain⟨C,E⟩:∃C,out++BY T a l i=C:=⟨_,rfl⟩;have aK:C.length<=100000+124:=by rw[<-E,Xd];omega
   rw[E] at x;have O:out++BY T a l (i+1)=(((C++nm)++[61])++F)++[10]:=by rw[n,<-E];simp[Hq]
   have S:=FI x nm (by omega) (by have:=j.size;omega);have HB:=Aa j;have av:Hid (∀w',Xn B w w'->w'.cell? ⟨b,o+i*2+1,none⟩=some (.int .i64 v)):=λw' y=>by
    obtain⟨-,q⟩:=d.out w' y;have:=(q i X).2;rw[A] at this;exact this
   replace O:=Aa O;clear R ar az n ag A P x E j t u hi d m g;unfold Ab at S
   go_wp2_with fail
   refine S.mono ?_;rintro e w1 ⟨rfl,ak,au⟩;have H:=HB.out.trans au;have z:=GU ak 61 (by rw[Xd];omega) (by have:=H.size;omega);have am:=Aa H;clear S ak au H c1;unfold Ab at z;rw[GT 61 61 rfl] at z
   go_wp2_with fail
   refine z.mono ?_;rintro e Y ⟨rfl,r,W⟩;have c:=am.out.trans W;have R:=av.out Y c;have an:=G.out Y c;have ad:=Aa (⟨c,r⟩:_/\_);clear z r W c am HB
   go_wp2_with fail
   refine an.mono ?_;rintro e w3 ⟨rfl,N⟩;obtain⟨c,r⟩:=ad.out;have ap:=r.below N;have K:Xn B w w3:=c.trans (N.mono (by have:=c.size;omega));have I:=FI ap F (by simp only[Xd,Xw,XU];omega) (by have:=K.size;omega);have ae:=Aa K;clear an N c r ap K ad R av G;unfold Ab at I
   go_wp2_with fail
   refine I.mono ?_;rintro e w4 ⟨rfl,ai,ac⟩;have J:=ae.out.trans ac;have D:=GU ai 10 (by simp only[Xd,Xw,XU];omega) (by have:=J.size;omega);have aq:=Aa J;clear I ai ac J ae;unfold Ab at D;rw[GT 10 10 rfl] at D
   go_wp2_with fail
   refine D.mono ?_;rintro e w5 ⟨rfl,aa,ax⟩;have f:=Aa (⟨aa,aq.out.trans ax,Q⟩:_/\_/\_);clear D aa ax aq Q
   go_wp2_with fail
   go_roundw
   case rel=>
    (try rw[Z])
    refine⟨i+1,f.out.2.2,rfl,?_,f.out.2.1⟩;rw[O.out];exact f.out.1
   case measure=>
    (try rw[Z])
    exact Xs f.out.2.2 (Xt i)
  ·have aD:i=a.length:=by omega
   subst aD;have f:=Aa (⟨x,j⟩:_/\_);clear x j d m g t u
   go_wp2_with fail
   go_end0
   exact⟨rfl,f.out⟩
theorem TM (h:AD w b p s) (aA:b<B) (hW:BW w B bb out) (aF:B<=w.heap.size) {o:Nat} (V:o=0\/o=9\/o=18) (hn:(By p s o).1.length<=4) (t:∀k,((By p s o).1.getD k []).length<=8) (aG:out.length<=100000) {T:Int->Tx} (u:∀k,(T ((By p s o).2.getD k 0)).length<=21)
 (m:∀w',Xn B w w'->∀i,i<(By p s o).1.length->X3 Tryz.prog 100 #[Ab b,.int .i64 ((By p s o).2.getD i 0)] w' λe ay=>e = .returned (.string (bs (T ((By p s o).2.getD i 0))))/\Xn w'.heap.size w' ay) :
 X3 Tryz.prog 99 #[Ab bb,.pointer (some ⟨b,o,none⟩),.func (.func 100) #[Ab b] #[]] w λe w'=>e = .returned (.tuple #[])/\BW w' B bb (out++BY T (By p s o).1 (By p s o).2 (By p s o).1.length)/\Xn B w w':=by
 have g:=λi=>GH T (By p s o).1 (By p s o).2 i t u;have d:=fun(w':Xg) (y:Xn B w w')=>Ob (w:=w') (h.same (y.block b aA)) V;obtain⟨a,ao⟩:∃a,(By p s o).1=a:=⟨_,rfl⟩;obtain⟨l,hl⟩:∃l,(By p s o).2=l:=⟨_,rfl⟩;simp only[ao,hl] at hn t u m g d |-;obtain⟨c8,-⟩:=d w (Xo _ _);replace d:=Aa d;replace m:=Aa m;replace g:=Aa g;have W:=Aa hW;clear h hW ao hl V;unfold Ab at *
 go_enter Tryz.func99,Tryz.ntmps99
 go_wp2_with fail
 go_loopw [11] (λM wr=>∃i:Nat,i<=a.length/\M = .int .i64 i/\BW wr B bb (out++BY T a l i)/\Xn B w wr) (λM _=>a.length - (intOf M).toNat)
 case atStart=>exact⟨0,XD _,rfl,(by have:BY T a l 0=[]:=rfl;rw[this,Yf];exact W.out),Xo _ _⟩
 case round=>
  clear W;obtain⟨i,hi,rfl,x,j⟩:=hrel
  by_cases R:i<a.length
  ·have Y:i<4:=by omega
   have aI:(i:Int)<4:=by omega
   have aM:(i:Int)<(a.length:Int):=by omega
   have aa:Ya ((i:Int)+1)=(i:Int)+1:=by unfold Ya;omega
   obtain⟨-,ar⟩:=d.out wr j;obtain⟨c1,S⟩:=ar i Y;have az:=g.out i;have n:=Jb T a l i;have a8:=t i;have aw:=u i;have G:Hid (∀w',Xn B w w'->_):=λw' y=>m.out w' y i R;obtain⟨nm,ah⟩:∃nm,a.getD i []=nm:=⟨_,rfl⟩;obtain⟨v,A⟩:∃v,l.getD i 0=v:=⟨_,rfl⟩;rw[ah] at c1 n a8;rw[A] at n aw;rw[A] at G;obtain⟨F,Q⟩:∃F,T v=F:=⟨_,rfl⟩;rw[Q] at n aw;rw[Q] at G;obtain⟨C,E⟩:∃C,out++BY T a l i=C:=⟨_,rfl⟩;have aK:C.length<=100000+124:=by rw[<-E,Xd];omega
   rw[E] at x;have P:out++BY T a l (i+1)=(((C++nm)++[61])++F)++[10]:=by rw[n,<-E];simp[Hq]
   have U:=FI x nm (by omega) (by have:=j.size;omega);have HB:=Aa j;have av:Hid (∀w',Xn B w w'->w'.cell? ⟨b,o+i*2+1,none⟩=some (.int .i64 v)):=λw' y=>by
    obtain⟨-,q⟩:=d.out w' y;have:=(q i Y).2;rw[A] at this;exact this
   replace P:=Aa P;clear S ar az n ah A Q x E j t u hi d m g;unfold Ab at U
   go_wp2_with fail
   refine U.mono ?_;rintro e w1 ⟨rfl,am,au⟩;have H:=HB.out.trans au;have z:=GU am 61 (by rw[Xd];omega) (by have:=H.size;omega);have an:=Aa H;clear U am au H c1;unfold Ab at z;rw[GT 61 61 rfl] at z
   go_wp2_with fail
   refine z.mono ?_;rintro e Z ⟨rfl,r,X⟩;have c:=an.out.trans X;have S:=av.out Z c;have O:=G.out Z c;have ae:=Aa (⟨c,r⟩:_/\_);clear z r X c an HB;unfold Ab at O
   go_wp2_with fail
   refine O.mono ?_;rintro e w3 ⟨rfl,N⟩;obtain⟨c,r⟩:=ae.out;have ap:=r.below N;have K:Xn B w w3:=c.trans (N.mono (by have:=c.size;omega));have I:=FI ap F (by simp only[Xd,Xw,XU];omega) (by have:=K.size;omega);have af:=Aa K;clear O N c r ap K ae S av G;unfold Ab at I
   go_wp2_with fail
   refine I.mono ?_;rintro e w4 ⟨rfl,aj,ad⟩;have J:=af.out.trans ad;have D:=GU aj 10 (by simp only[Xd,Xw,XU];omega) (by have:=J.size;omega);have aq:=Aa J;clear I aj ad J af;unfold Ab at D;rw[GT 10 10 rfl] at D
   go_wp2_with fail
   refine D.mono ?_;rintro e w5 ⟨rfl,ab,ax⟩;have f:=Aa (⟨ab,aq.out.trans ax,R⟩:_/\_/\_);clear D ab ax aq R
   go_wp2_with fail
   go_roundw
   case rel=>
    (try rw[aa])
    refine⟨i+1,f.out.2.2,rfl,?_,f.out.2.1⟩;rw[P.out];exact f.out.1
   case measure=>
    (try rw[aa])
    exact Xs f.out.2.2 (Xt i)
  ·have aD:i=a.length:=by omega
   subst aD;have f:=Aa (⟨x,j⟩:_/\_);clear x j d m g t u
   go_wp2_with fail
   go_end0
   exact⟨rfl,f.out⟩
end
def Et (th:TS):Tx:=if th.ph=1 then [97,116,32]++Yy th.pc else if th.ph=2 then [101,110,100,101,100] else if th.ph=3 then [102,97,105,108,101,100] else [110,101,119]
def Cw (l:List Int) (i:Nat):Tx:=(Yt i).flatMap λk=>32::Yy (l.getD k 0)
theorem OG (l:List Int) (i:Nat):Cw l (i+1)=(Cw l i++[32])++Yy (l.getD i 0):=by
 unfold Cw;rw[ZI,XZ]
 simp
def Du (nm:Tx) (th:TS):Tx:=nm++[32]++Et th++(if th.ph=0 then [] else Cw th.regs 4)++[10]
theorem EH {n:Int} (b:0<=n) (a:n<1000):(Yy n).length<=21:=Lib.itoa_length_le n (by omega) (by omega)
section
variable {w w':Xg} {b B bb B0:Nat} {p:PD} {s:MS} {out:Tx}
theorem Wn (h:AD w b p s) {t:Nat} (a:t<4):w.cell? ⟨b,27+t*207,none⟩=some (.string (bs (p.ts.getD t []))):=by
 have q:=h.cell (k:=27+t*207+0) (by omega);rw[Ei p s a (by omega)] at q;exact q
theorem Vh (h:AD w b p s) {t:Nat} (c:t<4) (d:Cn w B0) (j:0<=(s.th t).ph/\(s.th t).ph<=3) (g:(s.th t).pc<=25) :
 X3 Tryz.prog 136 #[.pointer (some ⟨b,27+t*207,none⟩)] w λe w'=>e = .returned (.string (bs (Et (s.th t))))/\Xn w.heap.size w w':=by
 have m:=Io h c;have q:=JY h c;have a:=Ki ((s.th t).pc:Int) (by omega) (by omega) w d;have r:=EH (n:=(s.th t).pc) (by omega) (by omega);unfold Et;have k:(s.th t).ph=0\/(s.th t).ph=1\/(s.th t).ph=2\/(s.th t).ph=3:=by omega
 generalize (s.th t).ph=ph at *;generalize (s.th t).pc=pc at *;generalize Yy (pc:Int)=it at *;clear h c j g d
 rcases k with rfl|rfl|rfl|rfl
 ·clear a
  go_enter Tryz.func136,Tryz.ntmps136
  go_wp2_with fail
  go_ret
  exact⟨rfl,Xo _ _⟩
 ·simp only[if_pos];have l:¬9223372036854775807<3+(bs it).size:=by rw[AY];omega
  have o:(⟨#[97,116,32]⟩:ByteArray)++bs it=bs ([97,116,32]++it):=Ji [97,116,32] it
  go_enter Tryz.func136,Tryz.ntmps136
  go_wp2_with fail
  refine a.mono ?_;rintro e w1 ⟨rfl,f⟩;have i:=Aa f;clear a f
  go_wp2_with fail
  go_ret
  exact⟨rfl,i.out⟩
 ·clear a
  go_enter Tryz.func136,Tryz.ntmps136
  go_wp2_with fail
  go_ret
  exact⟨rfl,Xo _ _⟩
 ·clear a
  go_enter Tryz.func136,Tryz.ntmps136
  go_wp2_with fail
  go_ret
  exact⟨rfl,Xo _ _⟩
end
section
variable {w w':Xg} {b B bb B0:Nat} {p:PD} {s:MS} {out:Tx}
theorem aay (a d c b:Int) (w:Xg):(Instr.index 104 (.agg #[.int .i64 a,.int .i64 d,.int .i64 c,.int .i64 b]) (.int .i64 0)).run Tryz.prog w = .ok (.int .i64 a) w:=by kernel_rfl
theorem aax (b a d c:Int) (w:Xg):(Instr.index 104 (.agg #[.int .i64 b,.int .i64 a,.int .i64 d,.int .i64 c]) (.int .i64 1)).run Tryz.prog w = .ok (.int .i64 a) w:=by kernel_rfl
theorem aaw (b d a c:Int) (w:Xg):(Instr.index 104 (.agg #[.int .i64 b,.int .i64 d,.int .i64 a,.int .i64 c]) (.int .i64 2)).run Tryz.prog w = .ok (.int .i64 a) w:=by kernel_rfl
theorem aav (b d c a:Int) (w:Xg):(Instr.index 104 (.agg #[.int .i64 b,.int .i64 d,.int .i64 c,.int .i64 a]) (.int .i64 3)).run Tryz.prog w = .ok (.int .i64 a) w:=by kernel_rfl
theorem Wl (h:AD w b p s) {t m:Nat} (a:t<4) (c:m<4):w.cell? ⟨b,27+t*207+3+m,none⟩=some (.int .i64 ((s.th t).regs.getD m 0)):=by
 rw[show 27+t*207+3+m=27+t*207+(3+m) by omega,h.cell (by omega),Ei p s a (by omega)];unfold Bv;rw[if_neg (by omega),if_neg (by omega),if_neg (by omega),if_pos (by omega),show 3+m - 3=m by omega]
theorem OX (th:TS) (h:th.pc<=25):(Et th).length<=24:=by
 have:=EH (n:=th.pc) (by omega) (by omega);unfold Et
 split
 ·rw[Xd];simp only[Xw,XU];omega
 ·split
  ·decide
  ·split<;>decide
theorem OH (l:List Int) (a:∀k,0<=l.getD k 0/\l.getD k 0<1000) (i:Nat):(Cw l i).length<=i*22:=by
 induction i with
 |zero=>simp[Cw]
 |succ i b=>
  rw[OG,Xd,Xd];have:=EH (a i).1 (a i).2;simp only[Xw,XU]
  omega
theorem Ii {n:Nat} {th:TS} (h:FJ n th) (k:Nat):0<=th.regs.getD k 0/\th.regs.getD k 0<1000:=by
 by_cases e:k<th.regs.length
 ·exact h.rv _ (CF e)
 ·rw[Xb,XO (by omega)]
  exact⟨by decide,by decide⟩
theorem TL (h:AD w b p s) (a0:b<B) (hW:BW w B bb out) (aV:B<=w.heap.size) {t n:Nat} (ht:t<4) (aQ:Cn w B0) (aZ:B0<=B) (E:FJ n (s.th t)) (hn:n<=24) (h8:(p.ts.getD t []).length<=8) (ba:out.length<=200000) :
 X3 Tryz.prog 101 #[Ab bb,.pointer (some ⟨b,27+t*207,none⟩)] w λe w'=>e = .returned (.tuple #[])/\BW w' B bb (out++Du (p.ts.getD t []) (s.th t))/\Xn B w w':=by
 have aA:(s.th t).pc<=25:=by have:=E.pc2;omega
 have a1:=OX _ aA;have hM:=fun(w':Xg) (d:Xn B w w')=>(h.same (d.block b a0):AD w' b p s)
 have ay:=fun(w':Xg) (d:Xn B w w')=>(aQ.keep (d.mono aZ))
 have hP:=Aa (fun(w':Xg) (d:Xn B w w')=>Vh (hM w' d) ht (ay w' d) E.ph aA);have Q:=Aa (fun(w':Xg) (d:Xn B w w') (k:Nat)=>Ki ((s.th t).regs.getD k 0) (by have:=(Ii E k).1;omega) (by have:=(Ii E k).2;omega) w' (ay w' d));have U:=OH _ (Ii E);have P:=λk=>EH (Ii E k).1 (Ii E k).2;have cP:=Aa (fun(w':Xg) (d:Xn B w w')=>Io (hM w' d) ht);have M:=Aa (fun(w':Xg) (d:Xn B w w') (k:Nat) (hk:k<4)=>Wl (hM w' d) ht hk);have c0:=Wn h ht;obtain⟨nm,aE⟩:∃nm,p.ts.getD t []=nm:=⟨_,rfl⟩;obtain⟨th,aJ⟩:∃th,s.th t=th:=⟨_,rfl⟩;simp only[aE,aJ] at *;obtain⟨H,aw⟩:∃H,Et th=H:=⟨_,rfl⟩;have aR:=FI hW nm (by omega) aV;have aK:Du nm th=nm++[32]++H++(if th.ph=0 then [] else Cw th.regs 4)++[10]:=by unfold Du;rw[aw]
 rw[aK];obtain⟨F,D⟩:∃F,out++(nm++[32]++H++(if th.ph=0 then [] else Cw th.regs 4)++[10])=F:=⟨_,rfl⟩;rw[D];replace D:=Aa D;rw[aw] at a1 hP;clear h hW hM ay aQ E aE aJ aw aK aA;unfold Ab at *
 go_enter Tryz.func101,Tryz.ntmps101
 go_wp2_with fail
 refine aR.mono ?_;rintro e w1 ⟨rfl,aG,ap⟩;have ae:=GU aG 32 (by rw[Xd];omega) (by have:=ap.size;omega);have aN:=Aa ap;clear aR aG ap c0;unfold Ab at ae;rw[GT 32 32 rfl] at ae
 go_wp2_with fail
 refine ae.mono ?_;rintro e w2 ⟨rfl,R,aM⟩;have J:=aN.out.trans aM;have aF:=hP.out w2 J;have aD:=Aa (⟨J,R⟩:_/\_);clear ae R aM J aN hP
 go_wp2_with fail
 refine aF.mono ?_;rintro e w3 ⟨rfl,ak⟩;obtain⟨J,R⟩:=aD.out;have aU:=R.below ak;have ax:Xn B w w3:=J.trans (ak.mono (by have:=J.size;omega));have W:=FI aU H (by simp only[Xd,Xw,XU];omega) (by have:=ax.size;omega);have ao:=Aa ax;clear aF ak J R aU ax aD;unfold Ab at W
 go_wp2_with fail
 refine W.mono ?_;rintro e S ⟨rfl,V,av⟩;have C:=ao.out.trans av;have c1:=cP.out S C;obtain⟨G,aj⟩:∃G,out++nm++[32]++H=G:=⟨_,rfl⟩;have bh:G.length<=200100:=by rw[<-aj];simp only[Xd,Xw,XU];omega
 rw[aj] at V;have aa:∀r:Tx,out++(nm++[32]++H++r++[10])=(G++r)++[10]:=λr=>by rw[<-aj];simp
 by_cases N:th.ph=0
 ·replace D:Hid (F=G++[10]):=by unfold Hid;rw[<-D.out,if_pos N,aa,Yf]
  rw[N] at c1;have Y:=GU V 10 (by omega) (by have:=C.size;omega);have aH:=Aa C;clear W V av C ao cP M Q U P aa N;unfold Ab at Y;rw[GT 10 10 rfl] at Y
  go_wp2_with fail
  refine Y.mono ?_;rintro e w5 ⟨rfl,aT,aL⟩;have l:=Aa (⟨aT,aH.out.trans aL⟩:_/\_);clear Y aT aL aH
  go_wp2_with fail
  go_end0
  rw[D.out]
  exact⟨rfl,l.out⟩
 ·replace D:Hid (F=G++Cw th.regs 4++[10]):=by unfold Hid;rw[<-D.out,if_neg N,aa]
  have bo:(th.ph != 0)=true:=by simpa using N
  have r0:=M.out S C 0 (by omega);have r1:=M.out S C 1 (by omega);have r2:=M.out S C 2 (by omega);have r3:=M.out S C 3 (by omega);rw[Nat.add_zero] at r0;have T:=OG th.regs;have ah:Cw th.regs 0=[]:=rfl;have aX:=Aa (λw' d=>Q.out w' d 0);have a7:=Aa (λw' d=>Q.out w' d 1);have aY:=Aa (λw' d=>Q.out w' d 2);have a3:=Aa (λw' d=>Q.out w' d 3);have ad:=T 0;have ac:=T 1;have Z:=T 2;have X:=T 3;have bd:=P 0;have bk:=P 1;have bl:=P 2;have bi:=P 3;generalize th.regs.getD 0 0=q0 at *;generalize th.regs.getD 1 0=q1 at *;generalize th.regs.getD 2 0=q2 at *;generalize th.regs.getD 3 0=q3 at *;obtain⟨RT,aC⟩:∃RT,Cw th.regs=RT:=⟨_,rfl⟩;rw[aC] at ad ac Z X U ah D;replace ad:=Aa ad;replace ac:=Aa ac;replace Z:=Aa Z;replace X:=Aa X;have H4:=Aa (⟨V,C⟩:_/\_);replace U:=Aa U;replace ah:=Aa ah;clear W V av C ao cP M Q P aa N T aC
  go_wp2_with fail
  go_loopw [27] (λiv wr=>∃i:Nat,i<=4/\iv = .int .i64 i/\BW wr B bb (G++RT i)/\Xn B w wr) (λiv _=>4 - (intOf iv).toNat)
  case atStart=>exact⟨0,XD _,rfl,(by rw[ah.out,Yf];exact H4.out.1),H4.out.2⟩
  case round=>
   clear H4;obtain⟨i,hi,rfl,hS,O⟩:=hrel;have bn:=U.out i
   by_cases h5:i<4
   ·have:i=0\/i=1\/i=2\/i=3:=by omega
    have A:=GU hS 32 (by rw[Xd];omega) (by have:=O.size;omega);have o:=Aa O;clear hS O hi h5;unfold Ab at A;rw[GT 32 32 rfl] at A
    rcases this with rfl|rfl|rfl|rfl
    ·have au:=aay q0 q1 q2 q3
     go_wp2_with fail
     refine A.mono ?_;rintro e I ⟨rfl,c,y⟩;have a:=o.out.trans y;have u:=aX.out I a;have z:=Aa (⟨a,c⟩:_/\_);clear A c y a o
     go_wp2_with fail
     refine u.mono ?_;rintro e K ⟨rfl,g⟩;obtain⟨a,c⟩:=z.out;have m:=c.below g;have j:Xn B w K:=a.trans (g.mono (by have:=a.size;omega));have f:=FI m (Yy q0) (by simp only[Xd,Xw,XU];omega) (by have:=j.size;omega);have v:=Aa j;clear u g a c m j z;unfold Ab at f
     go_wp2_with fail
     refine f.mono ?_;rintro e w8 ⟨rfl,x,q⟩;have l:=Aa (⟨x,v.out.trans q⟩:_/\_);clear f x q v
     go_wp2_with fail
     go_roundw
     case rel=>
      refine⟨1,by omega,rfl,?_,l.out.2⟩;rw[ad.out,<-Xx,<-Xx];exact l.out.1
     case measure=>decide
    ·have au:=aax q0 q1 q2 q3
     go_wp2_with fail
     refine A.mono ?_;rintro e I ⟨rfl,c,y⟩;have a:=o.out.trans y;have u:=a7.out I a;have z:=Aa (⟨a,c⟩:_/\_);clear A c y a o
     go_wp2_with fail
     refine u.mono ?_;rintro e K ⟨rfl,g⟩;obtain⟨a,c⟩:=z.out;have m:=c.below g;have j:Xn B w K:=a.trans (g.mono (by have:=a.size;omega));have f:=FI m (Yy q1) (by simp only[Xd,Xw,XU];omega) (by have:=j.size;omega);have v:=Aa j;clear u g a c m j z;unfold Ab at f
     go_wp2_with fail
     refine f.mono ?_;rintro e w8 ⟨rfl,x,q⟩;have l:=Aa (⟨x,v.out.trans q⟩:_/\_);clear f x q v
     go_wp2_with fail
     go_roundw
     case rel=>
      refine⟨2,by omega,rfl,?_,l.out.2⟩;rw[ac.out,<-Xx,<-Xx];exact l.out.1
     case measure=>decide
    ·have au:=aaw q0 q1 q2 q3
     go_wp2_with fail
     refine A.mono ?_;rintro e I ⟨rfl,c,y⟩;have a:=o.out.trans y;have u:=aY.out I a;have z:=Aa (⟨a,c⟩:_/\_);clear A c y a o
     go_wp2_with fail
     refine u.mono ?_;rintro e K ⟨rfl,g⟩;obtain⟨a,c⟩:=z.out;have m:=c.below g;have j:Xn B w K:=a.trans (g.mono (by have:=a.size;omega));have f:=FI m (Yy q2) (by simp only[Xd,Xw,XU];omega) (by have:=j.size;omega);have v:=Aa j;clear u g a c m j z;unfold Ab at f
     go_wp2_with fail
     refine f.mono ?_;rintro e w8 ⟨rfl,x,q⟩;have l:=Aa (⟨x,v.out.trans q⟩:_/\_);clear f x q v
     go_wp2_with fail
     go_roundw
     case rel=>
      refine⟨3,by omega,rfl,?_,l.out.2⟩;rw[Z.out,<-Xx,<-Xx];exact l.out.1
     case measure=>decide
    ·have au:=aav q0 q1 q2 q3
     go_wp2_with fail
     refine A.mono ?_;rintro e I ⟨rfl,c,y⟩;have a:=o.out.trans y;have u:=a3.out I a;have z:=Aa (⟨a,c⟩:_/\_);clear A c y a o
     go_wp2_with fail
     refine u.mono ?_;rintro e K ⟨rfl,g⟩;obtain⟨a,c⟩:=z.out;have m:=c.below g;have j:Xn B w K:=a.trans (g.mono (by have:=a.size;omega));have f:=FI m (Yy q3) (by simp only[Xd,Xw,XU];omega) (by have:=j.size;omega);have v:=Aa j;clear u g a c m j z;unfold Ab at f
     go_wp2_with fail
     refine f.mono ?_;rintro e w8 ⟨rfl,x,q⟩;have l:=Aa (⟨x,v.out.trans q⟩:_/\_);clear f x q v
     go_wp2_with fail
     go_roundw
     case rel=>
      refine⟨4,by omega,rfl,?_,l.out.2⟩;rw[X.out,<-Xx,<-Xx];exact l.out.1
     case measure=>decide
   ·have a4:i=4:=by omega
    subst a4;have ag:=GU hS 10 (by rw[Xd];omega) (by have:=O.size;omega);have o:=Aa O;clear hS O hi h5;unfold Ab at ag;rw[GT 10 10 rfl] at ag
    go_wp2_with fail
    refine ag.mono ?_;rintro e w9 ⟨rfl,aS,aB⟩;have l:=Aa (⟨aS,o.out.trans aB⟩:_/\_);clear ag aS aB o
    go_wp2_with fail
    go_end0
    rw[D.out]
    exact⟨rfl,l.out⟩
end
end Go.Proofs.YtdcacoifehkioaaGreatDoor
