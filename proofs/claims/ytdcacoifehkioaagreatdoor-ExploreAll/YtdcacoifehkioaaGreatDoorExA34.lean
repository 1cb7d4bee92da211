import Derived.Test.YtdcacoifehkioaaGreatDoorExA22
import Derived.Shelf.Slices.Reverse
import Derived.Deep.LoopGhost
import Derived.Test.YtdcacoifehkioaaGreatDoorExA33
import Derived.Test.YtdcacoifehkioaaGreatDoorExA32
import Derived.Test.YtdcacoifehkioaaGreatDoorExA19
import Derived.Test.YtdcacoifehkioaaGreatDoorExA20
import Derived.Test.YtdcacoifehkioaaGreatDoorExA24
import Derived.BigQuiet
open Go renaming World->Xh,Value->Xk,Calls->XY,results->Ze,heap_setCell_same->Xj,heap_setCell_other->Xt,run_takeDeferred->ZO,grownBy_putObj'->ZM,Addr->YV,callsIn_wide->X1,undef->X7,bodyPost_ret->XI
open Go.RowKit renaming Below->Xm,wrap64->XN
open Array renaming getElem?_eq_some_iff->Xa
open Nat renaming le_refl->Xd,lt_of_lt_of_le->XF,le_trans->Xu,reduceAdd->Zp,zero_le->Xx,sub_lt_sub_left->Xl,lt_succ_self->Xo
open List renaming length_append->Xb,length->afl,length_reverse->agd,mem_map->YA,mem_range->agr,all_eq_true->Zx
open Go.Sort renaming putRow->afR,ahead->af4
open Go.RowKit.Below renaming refl->Xq
open Go.Value renaming slice->Yn,int->Yw
open Go.World renaming cell?->Xg,size_setCell->XA,alloc->Zy,alloc_heap_new->Xi
open Go.Instr renaming takeDeferred->agl
set_option maxRecDepth 100000
set_option maxHeartbeats 8000000
set_option linter.unusedVariables false
set_option linter.unusedSimpArgs false
namespace Go.Proofs
open Go.Shelf
shelf_lay Lays.n112 Nm 112 at Tryz as Tryz.lays112
end Go.Proofs
namespace Go.Proofs.YtdcacoifehkioaaGreatDoor
open Go.RowKit Go.Shelf Go.Proofs.Cod
inductive ES (w:Xh):Nat->List Int->Prop where
 |nil {b:Nat} {mv mo nx:Xk} {sh:Tx} {g y:Int} {f:Bool}:AY w b mv sh g f mo (.pointer none) y nx->ES w b []
 |snoc {b b':Nat} {mv mo nx:Xk} {sh:Tx} {g y:Int} {f:Bool} {l:List Int}:AY w b mv sh g f mo (Ab b') y nx->ES w b' l->ES w b (l++[y])
inductive Hr (p:PD):List Int->MS->Prop where
 |nil:Hr p [] (EC p)
 |snoc {l:List Int} {m:MS} {t:Int}:Hr p l m->AV p.C m t=0->Hr p (l++[t]) (AB false p.C m t).1
theorem ES.kept {w w':Xh} {b:Nat} {l:List Int} (h:ES w b l) (a:Xm w.heap.size w w'):ES w' b l:=by
 induction h with
 |nil h=>exact .nil ((a.block _ (Xa.1 h).1).trans h)
 |snoc h _ c=>exact .snoc ((a.block _ (Xa.1 h).1).trans h) c
theorem FW.Uz {w:Xh} {p:PD} {base f q i k:Nat} {R:List Ag} (h:FW w p base f q R i k):∀(j:Nat) (r:Ag),R[j]?=some r->∃l,ES w r.b l/\Hr p l r.m/\l.length<=j:=by
 intro j
 induction j using Nat.strongRecOn with
 |ind j u=>
  intro r e;have a:=h.st j r e
  rcases h.way j r e with⟨rfl,d,c⟩|⟨v,r',g,o,d,c,n⟩
  ·refine⟨[],?_,?_,Xd _⟩
   ·rw[d] at a;exact .nil a
   ·rw[c];exact .nil
  ·obtain⟨l,t,s,x⟩:=u v g r' o;refine⟨l++[r.y],?_,?_,by rw[Xb];show l.length+1<=j;omega⟩
   ·rw[d] at a;exact .snoc a t
   ·rw[n];exact .snoc s c
theorem acM {α:Type} [Inhabited α] (enc:α->Xk) (w:Xh) (n a b:Nat) (d:Array α) (x:Nat) (h:x≠a):(afR enc (af4 w n) a b d).heap[x]?=w.heap[x]?:=by
 unfold afR Sort.mapBlock af4;simp[Array.getElem?_modify];intro e;exact absurd e.symm h
theorem Wg {w:Xh} {b:Nat} {l:List Int} (h:ES w b l) (C:l.length<1000000) :
 XY Tryz.prog 46 #[Ab b] w λe w'=>∃a cap,e = .returned (.slice a l.length cap)/\Is w' a l/\Xm w.heap.size w w':=by
 have C:=Aa C;have I:=Aa h;unfold Ab;clear h
 go_enter Tryz.func46,Tryz.ntmps46
 go_wp2_with fail
 go_loopg [0,3] l.length (λk W tv wr=>∃(c:Nat) (rest d:List Int),rest.length=k/\W = .pointer (some ⟨c,0,none⟩)/\ES w c rest/\rest++d.reverse=l/\wr.ownsRow w.heap.size 3 1 tv d.length (d.map Ck)/\Xm w.heap.size w wr)
 case atStart=>exact⟨b,l,[],rfl,rfl,I.out,by simp,World.ownsRow_nil _ _ _ _,Xq _ _⟩
 case round=>
  obtain⟨c,rest,d,D,rfl,ad,o,p,m⟩:=hrel;have B:d.length<=l.length:=by
   have:=congrArg afl o;rw[Xb,agd] at this
   omega
  cases ad with
  |nil q=>
   obtain⟨-,-,-,-,-,c5,-⟩:=DO ((m.block _ (Xa.1 q).1).trans q);have o:d.reverse=l:=by simpa using o
   by_cases z:d.length=0
   ·obtain⟨v,A,t⟩:=As p;subst t;have u:=Any.slices_Reverse_int_empty Tryz.lays112 v A wr
    change XY Tryz.prog 103 _ _ _ at u
    have S:l.length=0:=by rw[<-o,agd];exact z
    have H:Hid (∃a cap,Ending.returned (Yn v 0 A) = .returned (.slice a l.length cap)/\Is wr a l/\Xm w.heap.size w wr):=⟨v,A,by rw[S],λi N=>by omega,m⟩;rw[z];clear q p m o D B z S I
    go_wp2_with fail
    refine u.mono ?_;rintro e w' ⟨rfl,rfl⟩
    go_wp2_with fail
    go_ret
    exact H.out
   ·rcases id p.2 with⟨-,e⟩|⟨g,cap,ak,t,ai,Q,V,-⟩
    ·omega
    ·subst t;have G:Sort.Holds (Yw .i64) wr g 0 d.toArray:=λj U=>by
      have T:j<d.length:=by simpa using U
      refine⟨?_,p.frozenAt _⟩;rw[Nat.zero_add,p.cellAt j (by omega),List.getElem?_map,List.getElem?_eq_getElem T];simp[Ck,T]
     have u:=Any.slices_Reverse_int Tryz.lays112 g 0 cap d wr G (by have:=C.out;omega)
     change XY Tryz.prog 103 _ _ _ at u
     have H:Hid (∀n,∃a X,Ending.returned (Yn (some ⟨g,0,none⟩) d.length cap) = .returned (.slice a l.length X)/\Is (afR (Yw .i64) (af4 wr n) g 0 d.reverse.toArray) a l/\Xm w.heap.size w (afR (Yw .i64) (af4 wr n) g 0 d.reverse.toArray)):=λn=>by
      have ag:d.length=l.length:=by rw[<-o,agd]
      have J:(afR (Yw .i64) (af4 wr n) g 0 d.reverse.toArray).heap.size=wr.heap.size:=by unfold afR Sort.mapBlock af4;simp
      have ab:Sort.Holds (Yw .i64) (afR (Yw .i64) (af4 wr n) g 0 d.reverse.toArray) g 0 d.reverse.toArray:=Sort.holds_putRow _ _ _ _ d.toArray _ (Sort.holds_ahead _ _ _ _ _ _ G) (by simp);refine⟨some ⟨g,0,none⟩,cap,by rw[ag],λi N=>⟨g,0,rfl,by rw[J];exact(Xa.1 Q).1,?_⟩,⟨m.os,m.tape,m.output,by rw[J];exact m.size,λx hx=>(acM _ _ _ _ _ _ _ (by omega)).trans (m.block x hx)⟩⟩;have Y:i<d.reverse.toArray.size:=by simp;omega
      rw[(ab i Y).1,o];simp[List.getD_eq_getElem?_getD,N]
     clear q p m o D B z I ai Q V G
     go_wp2_with fail
     refine u.mono ?_;rintro e w' ⟨rfl,n,rfl⟩
     go_wp2_with fail
     go_ret
     exact H.out n
  |snoc q O=>
   rename_i P mv mo nx sh g y f r;have E:=(Xa.1 q).1;obtain⟨-,-,-,-,-,c5,c6,-⟩:=DO ((m.block _ E).trans q);obtain⟨Z,cap,w3,aa,K,R⟩:=NC p y (by have:=C.out;omega) m.size;obtain⟨v,A,t⟩:=As p;subst t;have F:=m.trans (R _ (Xd _));have M:=(F.block _ E).trans q;obtain⟨-,-,-,-,-,e5,-⟩:=DO M;have s:Hid (r.length<gk/\ES w P r/\r++(d++[y]).reverse=l/\w3.ownsRow w.heap.size 3 1 (.slice (some ⟨Z,0,none⟩) (d.length+1) cap) (d++[y]).length ((d++[y]).map Ck)/\Xm w.heap.size w w3):=by
    refine⟨by rw[<-D,Xb];show r.length<r.length+1;omega,O,?_,K,F⟩;rw[<-o,List.reverse_append,List.append_assoc];rfl
   unfold Ab at c5 e5;replace B:=Aa B;clear q O p m o D E K R F M
   go_wp2_with (at_builtin;refine Dl rfl _ _ _ rfl rfl rfl rfl aa ?_)
   go_roundg r.length
   case measure=>exact s.out.1
   case rel=>exact⟨P,r,d++[y],rfl,rfl,s.out.2.1,s.out.2.2.1,s.out.2.2.2.1,s.out.2.2.2.2⟩
attribute [local go_sem] Oper.semAt_some
theorem ES.types {w w':Xh} {b:Nat} {l:List Int} (h:ES w b l) (a:∀(x:Nat) (c:Array Xk),w.heap[x]?=some (Obj.cells c 75)->w'.heap[x]?=w.heap[x]?):ES w' b l:=by
 induction h with
 |nil h=>exact .nil ((a _ _ h).trans h)
 |snoc h _ d=>exact .snoc ((a _ _ h).trans h) d
def FB (p:PD) (o:Tx) (R:List Ag):Option Ag:=R.find? λr=>DJ p o r.m
theorem adc (p:PD) (o:Tx) (R:List Ag) (r:Ag):FB p o (R++[r])=match FB p o R with
 |some x=>some x
 |none=>if DJ p o r.m=true then some r else none:=by
 unfold FB;rw[List.find?_append]
 cases h:R.find? λr=>DJ p o r.m with
 |some x=>rfl
 |none=>
  cases a:DJ p o r.m<;>simp[a]
structure SI (W0:Xh) (Z:Nat) (p:PD) (o:Tx) (pre:List XS) (O:AO) (W:Xh):Prop where
 all0:∀b,b<W0.heap.size->O b
 inside:∀b,O b->b<W.heap.size
 fixed:∀b,b<W0.heap.size->b≠Z+4->W.heap[b]?=W0.heap[b]?
 os:W.os=W0.os
 tape:W.tape=W0.tape
 output:W.output=W0.output
 size:W0.heap.size<=W.heap.size
 rep:∃R:List Ag,pre=R.map XS.st/\W.heap[Z+4]?=some (.cells #[DL ((FB p o R).map Ag.b)] 69)
theorem SI.IB {f:Xh} {Z:Nat} {p:PD} {o:Tx} (l:Z+4<f.heap.size):GR (SI f Z p o):=by
 intro m O W n h d k j i e;refine⟨h.all0,λb g=>XF (h.inside b g) d,λb a c=>(e b (h.all0 b a)).trans (h.fixed b a c),k.trans h.os,j.trans h.tape,i.trans h.output,Xu h.size d,?_⟩;obtain⟨R,a,c⟩:=h.rep
 exact⟨R,a,(e _ (h.all0 _ l)).trans c⟩
structure SX (W0:Xh) (Z:Nat) (p:PD) (most:Int) (O:AO) (W:Xh):Prop where
 all0:∀b,b<W0.heap.size->O b
 inside:∀b,O b->b<W.heap.size
 fixed:∀b,b<Z->W.heap[b]?=W0.heap[b]?
 os:W.os=W0.os
 tape:W.tape=W0.tape
 output:W.output=W0.output
 size:W0.heap.size<=W.heap.size
 rep:∃b:Bool,(if b then BV most/\CS p most.toNat=none else ¬BV most)/\W.heap[Z+2]?=some (.cells #[.pointer none] 69)/\W.heap[Z+3]?=some (.cells #[.int .i64 (EG b)] 35)
theorem SX.IB {e:Xh} {Z:Nat} {p:PD} {most:Int} (n:Z+4<e.heap.size):GR (fun(_:List XS)=>SX e Z p most):=by
 intro m O W o h d l k j a;refine⟨h.all0,λb f=>XF (h.inside b f) d,λb c=>(a b (h.all0 b (by omega))).trans (h.fixed b c),l.trans h.os,k.trans h.tape,j.trans h.output,Xu h.size d,?_⟩;obtain⟨b,c,i,g⟩:=h.rep
 exact⟨b,c,(a _ (h.all0 _ (by omega))).trans i,(a _ (h.all0 _ (by omega))).trans g⟩
theorem MM {w:Xh} {fn:Func} {tmps:Array Xk} {a b:Nat} {v e:Xk} (h:fn.results = #[.cell 6 69,.cell 7 35]) (d:tmps[6]?=some (.pointer (some ⟨a,0,none⟩))) (g:tmps[7]?=some (.pointer (some ⟨b,0,none⟩))) (f:w.heap[a]?=some (.cells #[v] 69)) (c:w.heap[b]?=some (.cells #[e] 35)):(Ze fn tmps).run Tryz.prog w = .ok (.tuple #[v,e]) w:=by
 have c0:w.cell? ⟨a,0,none⟩=some v:=by simp[Xg,f]
 have c5:w.cell? ⟨b,0,none⟩=some e:=by simp[Xg,c]
 simp[Ze,h,d,g,go_sem,c0,c5]
theorem WL {p:PD} {most:Int} {l:List MS} (c:BV most) (h:CS p most.toNat=some l):l.length<=20000:=by
 unfold CS at h;have f:=c.1;have d:=c.2;generalize e:most.toNat=k at h;have b:[EC p].length<=k:=by show 1<=k;omega
 generalize [EC p]=a at h b;have:=NW k (k+1) a 0 b h
 omega
def Md (w':Xh) (p:PD) (most:Int) (o:Tx) (e:Ending):Prop:=
 (∃b:Bool,(if b then BV most/\CS p most.toNat=none else ¬BV most)/\e = .returned (.tuple #[.pointer none,.int .i64 (EG b)]))\/
 (BV most/\∃l:List MS,CS p most.toNat=some l/\(((∀m,m∈l->DJ p o m=false)/\e = .returned (.tuple #[.pointer none,.int .i64 0]))\/
   ∃(c:Nat) (sl:List Int) (m:MS),e = .returned (.tuple #[Ab c,.int .i64 0])/\ES w' c sl/\Hr p sl m/\m∈l/\DJ p o m=true/\sl.length<=20000))
theorem Wc {w W:Xh} {Z:Nat} (m:W.heap[Z+2]?=some (.cells #[.pointer none] 69)) (o:W.heap[Z+3]?=some (.cells #[.int .i64 0] 35)) (j:W.heap[Z+7]?=some (.deferred (some []))) (B:w.heap.size=Z) (g:Xm w.heap.size w W) (v:Xk):∃f,(∃b,(W.setCell ⟨Z+2,0,none⟩ v).setCell ⟨Z+3,0,none⟩ (.int .i64 0)=b/\(agl (Z+7)).run Tryz.prog b = .ok [] f)/\f.heap[Z+2]?=some (.cells #[v] 69)/\f.heap[Z+3]?=some (.cells #[.int .i64 0] 35)/\Xm w.heap.size w f/\∀(x:Nat) (c:Array Xk),W.heap[x]?=some (Obj.cells c 75)->f.heap[x]?=W.heap[x]?:=by
 have A:Z+7<W.heap.size:=(Xa.1 j).1;have s:(W.setCell ⟨Z+2,0,none⟩ v).heap[Z+2]?=some (.cells #[v] 69):=(Xj W (Z+2) 0 _ _ _ m).trans rfl;have q:(W.setCell ⟨Z+2,0,none⟩ v).heap[Z+3]?=some (.cells #[.int .i64 0] 35):=(Xt W ⟨Z+2,0,none⟩ (Z+3) _ (by show Z+3≠Z+2;omega)).trans o;obtain⟨b,h⟩:∃x,(W.setCell ⟨Z+2,0,none⟩ v).setCell ⟨Z+3,0,none⟩ (.int .i64 0)=x:=⟨_,rfl⟩;have u:b.heap[Z+2]?=some (.cells #[v] 69):=by rw[<-h];exact(Xt _ ⟨Z+3,0,none⟩ (Z+2) _ (by show Z+2≠Z+3;omega)).trans s
 have z:b.heap[Z+3]?=some (.cells #[.int .i64 0] 35):=by rw[<-h];exact(Xj _ (Z+3) 0 _ _ _ q).trans rfl
 have k:∀x,x≠Z+2->x≠Z+3->b.heap[x]?=W.heap[x]?:=λx t p=>by rw[<-h];exact(Xt _ ⟨Z+3,0,none⟩ x _ p).trans (Xt W ⟨Z+2,0,none⟩ x _ t)
 have i:b.heap.size=W.heap.size/\b.os=W.os/\b.tape=W.tape/\b.output=W.output:=by rw[<-h];exact⟨by rw[XA,XA],rfl,rfl,rfl⟩
 have G:=i.1;have r:b.heap[Z+7]?=some (.deferred (some [])):=by
  exact(k _ (by omega) (by omega)).trans j
 have l:=ZO (P:=Tryz.prog) r;obtain⟨f,n⟩:∃x,b.putObj (Z+7) (.deferred none)=x:=⟨_,rfl⟩;rw[n] at l;have d:b.grownBy f (some (Z+7)):=by rw[<-n];exact ZM _ _ _
 have C:=d.size;have E:=g.size;refine⟨f,⟨b,h,l⟩,(d.block _ (by omega) (λe=>by injection e with e;omega)).trans u,(d.block _ (by omega) (λe=>by injection e with e;omega)).trans z,⟨d.os.trans (i.2.1.trans g.os),d.tape.trans (i.2.2.1.trans g.tape),d.output.trans (i.2.2.2.trans g.output),by omega,λx y=>(d.block x (by omega) (λe=>by injection e with e;omega)).trans ((k x (by omega) (by omega)).trans (g.block x y))⟩,λx c a=>?_⟩;have F:=(Xa.1 a).1;have n2:x≠Z+2:=λe=>by
  rw[e,m] at a;injection a with a
  injection a with _ a
  exact absurd a (by decide)
 have n3:x≠Z+3:=λe=>by
  rw[e,o] at a;injection a with a
  injection a with _ a
  exact absurd a (by decide)
 have D:x≠Z+7:=λe=>by rw[e,j] at a;cases a
 exact(d.block x (by omega) (λe=>by injection e with e;omega)).trans (k x n2 n3)
theorem ada {p:PD} {o:Tx} {R:List Ag} (h:FB p o R=none):∀m,m∈R.map Ag.m->DJ p o m=false:=λm a=>by
 unfold FB at h;obtain⟨r,b,rfl⟩:=YA.1 a;exact LH.1 h r b
theorem adb {α:Type} {q:α->Bool} {l:List α} {a:α} (h:l.find? q=some a):q a=true/\a∈l:=⟨List.find?_some h,List.mem_of_find?_eq_some h⟩
theorem ac9 {W:Xh} {p:PD} {o:Tx} {base g u i k:Nat} {R:List Ag} {q:Ag} (f:FW W p base g u R i k) (n:R.length<=20000) (h:FB p o R=some q):DJ p o q.m=true/\q.m∈R.map Ag.m/\∃a,ES W q.b a/\Hr p a q.m/\a.length<=20000:=by
 unfold FB at h;obtain⟨c,e⟩:=adb h;have c:DJ p o q.m=true:=c;obtain⟨j,d⟩:=List.mem_iff_getElem?.1 e;obtain⟨a,v,s,r⟩:=f.Uz j q d;have w:=(List.getElem?_eq_some_iff.1 d).1;have l:a.length<=20000:=Xu r (Xu (Nat.le_of_lt w) n);have t:q.m∈R.map Ag.m:=List.mem_map_of_mem e
 exact⟨c,t,a,v,s,l⟩
theorem We {w:Xh} {Z0 bR nv nf nl nt vc fc N Q Bp Bo:Nat} {va fa Y V:Option YV} {vs fs ls:List Tx} {L:List (Tx×Xk)} {C:List (List Ad)} {most:Int} {B F:YV} {o:Tx} (ax : -9223372036854775808<=most/\most<=9223372036854775807)
 (hx:XW w Z0 B F) (ar:Z0<=w.heap.size) (U:BZ w bR (.slice va nv vc) (.slice fa nf fc) (.slice Y nl N) (.slice V nt Q) vs fs ls L C) (hb:Hs vs fs ls L C) (hf:CK (Ap vs fs ls L C)) (hN:Eg (Ap vs fs ls L C)) (ao:Iq (Ap vs fs ls L C)) (ah:∀m,CY (Ap vs fs ls L C) m->(Aj (Ap vs fs ls L C) m).length<4294967000)
 (H:w.heap[Bp]?=some (.cells #[.slice va nv vc,.slice fa nf fc,.slice Y nl N,.slice V nt Q] 25)) (I:w.heap[Bo]?=some (.cells #[.string (bs o)] 9)) :
 XY Tryz.prog 44 #[.agg #[.slice va nv vc,.slice fa nf fc,.slice Y nl N,.slice V nt Q],.int .i64 most,.func (.func 45) #[] #[.pointer (some ⟨Bp,0,none⟩),.pointer (some ⟨Bo,0,none⟩)]] w λe w'=>Md w' (Ap vs fs ls L C) most o e/\Xm w.heap.size w w':=by
 obtain⟨p,u⟩:∃x,Ap vs fs ls L C=x:=⟨_,rfl⟩;refine(X1 (n:=8)).1 ?_;refine callsIn_of_wp_marks Tryz.func44 rfl trivial ?_ rfl;simp only[Tryz.ntmps44,List.size_toArray,List.length_cons,List.length_nil,Zp,Nat.reduceSub,Array.replicate_succ,Array.replicate_zero,List.push_toArray,List.append_toArray,List.nil_append,List.cons_append];have HP:=Aa (⟨ax,hx,ar,U,hb,hf,hN,ao,ah,H,I⟩:_/\_/\_/\_/\_/\_/\_/\_/\_/\_/\_);clear ax hx ar U hb hf hN ao ah H I
 gi_wp2_with (refine⟨trivial,?_⟩;gi_at_call 23;refine(Pt _ _ _ _ _ _ _).mono ?_;rintro e w' ⟨rfl,rfl⟩)
 obtain⟨ax,hx,ar,U,hb,hf,hN,ao,ah,H,I⟩:=HP.out;have a5:nv=vs.length/\nf=fs.length:=by
  obtain⟨x,y,e⟩:=As U.v;injection e with _ e _
  obtain⟨x2,y2,e2⟩:=As U.f;injection e2 with _ e2 _
  exact⟨e,e2⟩
 replace a5:=Aa a5;obtain⟨j,ad⟩:∃j,([.cells #[.slice va nv vc,.slice fa nf fc,.slice Y nl N,.slice V nt Q] 25,.cells #[.func (.func 45) #[] #[.pointer (some ⟨Bp,0,none⟩),.pointer (some ⟨Bo,0,none⟩)]] 134,.cells #[.pointer none] 69,.cells #[.int .i64 0] 35,.cells #[.pointer none] 69,.cells #[.slice va nv vc,.slice fa nf fc,.slice Y nl N,.slice V nt Q] 25,.cells #[.int .i64 most] 3]:List Obj).foldl Zy w=j:=⟨_,rfl⟩
 change Code.wpIn _ _ _ _ _ _ (([.cells #[.slice va nv vc,.slice fa nf fc,.slice Y nl N,.slice V nt Q] 25,.cells #[.func (.func 45) #[] #[.pointer (some ⟨Bp,0,none⟩),.pointer (some ⟨Bo,0,none⟩)]] 134,.cells #[.pointer none] 69,.cells #[.int .i64 0] 35,.cells #[.pointer none] 69,.cells #[.slice va nv vc,.slice fa nf fc,.slice Y nl N,.slice V nt Q] 25,.cells #[.int .i64 most] 3]:List Obj).foldl Zy w)
 rw[ad];obtain⟨Z,s⟩:∃Z,w.heap.size=Z:=⟨_,rfl⟩;have k0:j.heap[Z]?=some (.cells #[.slice va nv vc,.slice fa nf fc,.slice Y nl N,.slice V nt Q] 25):=DR ad s (i:=0) rfl;have k1:j.heap[Z+1]?=some (.cells #[.func (.func 45) #[] #[.pointer (some ⟨Bp,0,none⟩),.pointer (some ⟨Bo,0,none⟩)]] 134):=DR ad s (i:=1) rfl;have k2:j.heap[Z+2]?=some (.cells #[.pointer none] 69):=DR ad s (i:=2) rfl;have k3:j.heap[Z+3]?=some (.cells #[.int .i64 0] 35):=DR ad s (i:=3) rfl;have k4:j.heap[Z+4]?=some (.cells #[.pointer none] 69):=DR ad s (i:=4) rfl;have k5:j.heap[Z+5]?=some (.cells #[.slice va nv vc,.slice fa nf fc,.slice Y nl N,.slice V nt Q] 25):=DR ad s (i:=5) rfl;have k6:j.heap[Z+6]?=some (.cells #[.int .i64 most] 3):=DR ad s (i:=6) rfl;obtain⟨k,bE⟩:=Ol ad;have au:j.heap.size=Z+7:=by rw[bE,s];rfl
 clear bE;rw[s];simp only[Nat.add_assoc,Zp];clear ad;have af:XW j Z0 B F:=hx.same λx T=>k.block x (by omega);have aO:=Ps (w:=j) (Z:=Z0) (Bp:=Z+5) (Bm:=Z+6) (eV:=CO B F) ax af.t ⟨af.g.1,af.g.2.1⟩ (by omega) af.c (U.below k) hb hf hN k5 k6;refine OD rfl (by decide) (gf:=53) (lb := #[.pointer (some ⟨Z+6,0,none⟩),.pointer (some ⟨Z+5,0,none⟩)]) rfl trivial (enters_of Tryz.func53 (by kernel_rfl) rfl)
  (IS.any _ aO) (Xq _ _) (λx=>by cases x<;>rfl) Py Pz Pu Pv
  (SI j Z p o) (λc _ O W=>c = .ret/\SX j Z p most O W)
  (SI.IB (by omega)) (λc G O W W' h l D h3 h4 h5=>⟨h.1,SX.IB (by omega) G O W W' h.2 l D h3 h4 h5⟩)
  (λG O W h=>h.inside) (λc G O W h=>h.2.inside)
  (λG O W h b' X=>by
    rcases X with X|rfl|rfl
    ·exact⟨h.all0 b' (by omega),h.fixed b' (by omega) (by omega)⟩
    ·exact⟨h.all0 _ (by omega),h.fixed _ (by omega) (by omega)⟩
    ·exact⟨h.all0 _ (by omega),h.fixed _ (by omega) (by omega)⟩)
  (λb' X=>by rcases X with X|rfl|rfl<;>omega)
  ⟨λb' X=>X,λb' X=>X,λb' _ _=>rfl,rfl,rfl,rfl,Xd _,[],rfl,k4⟩
  (λ_ x a' O W=>a'={tmps := #[.agg #[.slice va nv vc,.slice fa nf fc,.slice Y nl N,.slice V nt Q],.int .i64 most,.func (.func 45) #[] #[.pointer (some ⟨Bp,0,none⟩),.pointer (some ⟨Bo,0,none⟩)],.pointer (some ⟨Z,0,none⟩),X7,.pointer (some ⟨Z+1,0,none⟩),.pointer (some ⟨Z+2,0,none⟩),.pointer (some ⟨Z+3,0,none⟩),.pointer (some ⟨Z+4,0,none⟩),(CJ (CO B F) x).getD 0 X7,(CJ (CO B F) x).getD 1 X7,.agg #[.slice va nv vc,.slice fa nf fc,.slice Y nl N,.slice V nt Q],.int .i64 most,.func (.func 53) #[] #[.pointer (some ⟨Z+6,0,none⟩),.pointer (some ⟨Z+5,0,none⟩)],(CJ (CO B F) x).getD 0 X7,(CJ (CO B F) x).getD 1 X7,X7,X7,X7,X7,X7,X7,X7,X7,X7,X7,X7,X7,X7],defers:=[]})
  (λ_ x a' _ O W W' h _ _ _ _ _=>h) ?assign ?body ?done ?stop
 case assign=>
  intro l' G x O W K d hE hK
  cases x with
  |st r=>
   unfold CJ;dsimp only
   gi_wp2
   exact hK _ O _ (Steps.refl O W) d rfl
  |er b=>
   unfold CJ;dsimp only
   gi_wp2
   exact hK _ O _ (Steps.refl O W) d rfl
 case body=>
  rintro l' G x a' O W ⟨rr,bo⟩ b2 d hE rfl;have aQ:XW W Z0 B F:=af.same λx T=>d.fixed x (by omega) (by omega);have bu:=d.size
  cases x with
  |er b=>
   have bl:=(d.fixed (Z+2) (by omega) (by omega)).trans k2;have bj:=(d.fixed (Z+3) (by omega) (by omega)).trans k3;have a6:=Rk aQ.e aQ.c b;obtain⟨c0,cz⟩:=Fc bl;obtain⟨d0,dz⟩:=Fc bj;obtain⟨W1,aD⟩:∃x,(W.setCell ⟨Z+2,0,none⟩ (.pointer none)).setCell ⟨Z+3,0,none⟩ (.int .i64 (EG b))=x:=⟨_,rfl⟩;have E:IP (SI j Z p o) (λc _ O W=>c = .ret/\SX j Z p most O W) (G++[.er b]) O W .ret {tmps := #[],defers:=[]} W1:=by
    have e2:(W.setCell ⟨Z+2,0,none⟩ (.pointer none)).heap[Z+2]?=some (.cells #[.pointer none] 69):=(Xj W (Z+2) 0 _ _ _ bl).trans rfl;have e3:(W.setCell ⟨Z+2,0,none⟩ (.pointer none)).heap[Z+3]?=some (.cells #[.int .i64 0] 35):=(Xt W ⟨Z+2,0,none⟩ (Z+3) _ (by show Z+3≠Z+2;omega)).trans bj;have f2:W1.heap[Z+2]?=some (.cells #[.pointer none] 69):=by rw[<-aD];exact(Xt _ ⟨Z+3,0,none⟩ (Z+2) _ (by show Z+2≠Z+3;omega)).trans e2
    have f3:W1.heap[Z+3]?=some (.cells #[.int .i64 (EG b)] 35):=by rw[<-aD];exact(Xj _ (Z+3) 0 _ _ _ e3).trans rfl
    have bJ:∀x,x≠Z+2->x≠Z+3->W1.heap[x]?=W.heap[x]?:=λx l D=>by rw[<-aD];exact(Xt _ ⟨Z+3,0,none⟩ x _ D).trans (Xt W ⟨Z+2,0,none⟩ x _ l)
    have hz:W1.heap.size=W.heap.size/\W1.os=W.os/\W1.tape=W.tape/\W1.output=W.output:=by rw[<-aD];exact⟨by rw[XA,XA],rfl,rfl,rfl⟩
    refine⟨O,⟨hz.2.1,hz.2.2.1,hz.2.2.2,by rw[hz.1];exact Xd _,λ_ h=>h,λ_ h=>.inl h,λx T hn=>bJ x (λe=>hn (by rw[e];exact d.all0 _ (by omega))) (λe=>hn (by rw[e];exact d.all0 _ (by omega)))⟩,rfl,d.all0,λx T=>by rw[hz.1];exact d.inside x T,λx T=>(bJ x (by omega) (by omega)).trans (d.fixed x (by omega) (by omega)),hz.2.1.trans d.os,hz.2.2.1.trans d.tape,hz.2.2.2.trans d.output,by rw[hz.1];exact d.size,b,?_,f2,f3⟩
    cases b with
    |false=>exact hE
    |true=>rw[if_pos rfl,<-u];exact hE
   replace a6:=Aa a6;replace E:=Aa E;replace aD:=Aa aD;obtain⟨ea,bd⟩:∃x,CO B F b = .iface 346 (.pointer (some x)):=⟨_,rfl⟩;rw[bd] at a6;rw[show (CJ (CO B F) (XS.er b)).getD 0 X7 = .pointer none from rfl,show (CJ (CO B F) (XS.er b)).getD 1 X7 = .iface 346 (.pointer (some ea)) from bd];clear hx af aQ d hE U hb hf hN ao ah ax k0 k1 k2 k3 k4 k5 k6 k aO au HP bl bj bd bu s ar H I bo
   gi_wp2_with (refine⟨trivial,?_⟩;gi_at_call 24;refine(CallsIn.inRound l' (X1.2 a6.out)).mono ?_;rintro e w' ⟨rfl,rfl⟩)
   rw[aD.out];exact E.out
  |st r=>
   obtain⟨bF,hS⟩:=hE;rw[u] at hS;obtain⟨R,aE,M⟩:=d.rep;obtain⟨nx,be⟩:=hS.st;obtain⟨b6,bh⟩:=hS.mo;obtain⟨mx,bf⟩:=aQ.m;have ba:W.heap[Bp]?=_:=(d.fixed Bp (by have:=(Xa.1 H).1;omega) (by have:=(Xa.1 H).1;omega)).trans ((k.block Bp (Xa.1 H).1).trans H);have bz:W.heap[Bo]?=_:=(d.fixed Bo (by have:=(Xa.1 I).1;omega) (by have:=(Xa.1 I).1;omega)).trans ((k.block Bo (Xa.1 I).1).trans I);have aJ:=UA (o:=o) be bh (by rw[<-u];exact ao) hS.ok (by rw[<-u];exact hf) (by rw[<-u];exact ah r.m (by rw[u];exact hS.ok)) bf (by rw[a5.out.1,<-u];rfl) (by rw[a5.out.2,<-u];rfl) ba bz ⟨_,_,_,rfl⟩ ⟨_,_,_,rfl⟩;have aT:Hid (∀wr:Xh,(∀x,x<W.heap.size->x≠Z+4->wr.heap[x]?=W.heap[x]?)->W.heap.size<=wr.heap.size->wr.os=W.os->wr.tape=W.tape->wr.output=W.output->wr.heap[Z+4]?=some (.cells #[DL ((FB p o (R++[r])).map Ag.b)] 69)->IP (SI j Z p o) (λc _ O W=>c = .ret/\SX j Z p most O W) (G++[.st r]) O W .normal {tmps := #[],defers:=[]} wr):=λwr l D h3 h4 h5 h6=>by
    refine⟨λb=>O b\/(W.heap.size<=b/\b<wr.heap.size),⟨h3,h4,h5,D,λ_ h=>.inl h,λ_ h=>h.imp id And.left,λx bx hn=>l x bx (λe=>hn (by rw[e];exact d.all0 _ (by omega)))⟩,λx T=>.inl (d.all0 x T),λx T=>T.elim (λz=>XF (d.inside x z) D) And.right,λx bx hn=>(l x (by omega) hn).trans (d.fixed x bx hn),h3.trans d.os,h4.trans d.tape,h5.trans d.output,by omega,R++[r],?_,h6⟩;rw[aE,List.map_append];rfl
   obtain⟨c4,cz⟩:=Fc M;obtain⟨c1,-⟩:=Fc ((d.fixed (Z+1) (by omega) (by omega)).trans k1);have ak:=adc p o R r;have a8:Z+4<W.heap.size:=by omega
   rw[show (CJ (CO B F) (XS.st r)).getD 0 X7 = .pointer (some ⟨r.b,0,none⟩) from rfl,show (CJ (CO B F) (XS.st r)).getD 1 X7 = .nilIface from rfl]
   cases S:FB p o R with
   |some q=>
    rw[S] at c4 ak M;have E:=Aa (aT.out W (λ_ _ _=>rfl) (Xd _) rfl rfl rfl (by rw[ak];exact M));replace c4:W.cell? ⟨Z+4,0,none⟩=some (.pointer (some ⟨q.b,0,none⟩)):=c4;clear hx af aQ d hS U hb hf hN ao ah ax k0 k1 k2 k3 k4 k5 k6 k aO au HP bu s ar H I bo aE M be bh bf ba bz aJ aT ak a8 S bF
    gi_wp2_with fail
    refine⟨(λf h=>by cases h),?_⟩
    gi_wp2_with fail
    exact E.out
   |none=>
    rw[S] at c4 ak M;replace c4:W.cell? ⟨Z+4,0,none⟩=some (.pointer none):=c4;dsimp only at ak;obtain⟨wt,bL⟩:∃x,DJ p o r.m=x:=⟨_,rfl⟩;rw[bL] at aJ ak;have E:Hid (∀J,Xm W.heap.size W J->(J.cell? ⟨Z+4,0,none⟩=some (.pointer none)/\J.frozen? ⟨Z+4,0,none⟩=false)/\(wt=false->IP (SI j Z p o) (λc _ O W=>c = .ret/\SX j Z p most O W) (G++[.st r]) O W .normal {tmps := #[],defers:=[]} J)/\(wt=true->IP (SI j Z p o) (λc _ O W=>c = .ret/\SX j Z p most O W) (G++[.st r]) O W .normal {tmps := #[],defers:=[]} (J.setCell ⟨Z+4,0,none⟩ (.pointer (some ⟨r.b,0,none⟩))))):=λJ A=>by
     have h4:J.heap[Z+4]?=_:=(A.block _ a8).trans M;refine⟨⟨(A.cell (p:=⟨Z+4,0,none⟩) a8).trans c4,by simp[World.frozen?,h4]⟩,λz=>?_,λz=>?_⟩
     ·refine aT.out J (λx l _=>A.block x l) A.size A.os A.tape A.output ?_;rw[ak,z];exact h4
     ·refine aT.out _ (λx l D=>(Xt J ⟨Z+4,0,none⟩ x _ D).trans (A.block x l)) (by rw[XA];exact A.size) A.os A.tape A.output ?_;rw[ak,z]
      exact(Xj J (Z+4) 0 _ _ _ h4).trans rfl
    replace aJ:=Aa aJ;unfold Ab at aJ;clear hx af aQ d hS U hb hf hN ao ah ax k0 k1 k2 k3 k4 k5 k6 k aO au HP bu s ar H I bo aE M be bh bf ba bz aT ak a8 S bF bL
    gi_wp2_with fail
    refine⟨trivial,(CallsIn.inRound l' (X1.2 aJ.out)).mono ?_⟩;rintro e J ⟨rfl,A⟩;obtain⟨⟨g4,gz⟩,f1,f2⟩:=E.out J A;clear aJ E A c4 cz
    cases wt with
    |false=>
     have HN:=Aa (f1 rfl);clear f1 f2
     gi_wp2_with fail
     exact HN.out
    |true=>
     have HN:=Aa (f2 rfl);clear f1 f2
     gi_wp2_with fail
     exact HN.out
 case done=>
  rintro xs O W bN d bp hK;have bk:j.heap.size<W.heap.size:=(Xa.1 hK).1
  rcases bN with⟨G,e,rfl⟩|⟨hr,base,fb,kb,R',bq,a4,bV,aS⟩
  ·obtain⟨R,h,-⟩:=d.rep;have:XS.er e∈R.map XS.st:=by rw[<-h];simp
   obtain⟨q,-,hq⟩:=YA.1 this
   cases hq
  ·obtain⟨R,aE,M⟩:=d.rep;have bX:R=R':=by
    have h:R.map XS.st=R'.map XS.st:=aE.symm.trans bq;have bQ:∀(a b:List Ag),a.map XS.st=b.map XS.st->a=b:=by
     intro a
     induction a with
     |nil=>intro b h;cases b with
      |nil=>rfl
      |cons y b=>cases h
     |cons x a ih=>intro b h;cases b with
      |nil=>cases h
      |cons y b=>
       injection h with l D
       injection l with l
       rw[l,ih b D]
    exact bQ R R' h
   subst bX;rw[u] at a4 aS;have br:R.length<=20000:=by
    have D:=WL hr aS;rw[List.length_map] at D;exact D
   clear ax bV;have i2:=(d.fixed (Z+2) (by omega) (by omega)).trans k2;have i3:=(d.fixed (Z+3) (by omega) (by omega)).trans k3;have bA:Xm w.heap.size w W:=⟨d.os.trans k.os,d.tape.trans k.tape,d.output.trans k.output,Xu k.size d.size,λb' X=>(d.fixed b' (by omega) (by omega)).trans (k.block b' X)⟩;obtain⟨c4,-⟩:=Fc M;obtain⟨c2,z2⟩:=Fc i2;obtain⟨c3,z3⟩:=Fc i3;have a2:=Wc i2 i3 (by rw[<-au];exact hK) s bA;have bv:=fun(h:FB p o R=none)=>ada h;have bc:=fun(q:Ag) (h:FB p o R=some q)=>ac9 a4 br h
   cases S:FB p o R with
   |none=>
    rw[S] at c4;replace c4:W.cell? ⟨Z+4,0,none⟩=some (.pointer none):=c4;obtain⟨W9,⟨W8,aj,hT⟩,g2,g3,aY,-⟩:=a2 (.pointer none);have E:Hid (Md W9 (Ap vs fs ls L C) most o (.returned (.tuple #[.pointer none,.int .i64 0]))/\Xm w.heap.size w W9):=⟨.inr ⟨hr,R.map Ag.m,by rw[u];exact aS,.inl ⟨by rw[u];exact bv S,rfl⟩⟩,aY⟩;replace aj:=Aa aj;replace hT:=Aa hT;replace g2:=Aa g2;replace g3:=Aa g3;clear hx af d U hb hf hN ao ah k0 k1 k2 k3 k4 k5 k6 k aO HP s ar H I aE M hK bk bq a4 aS br i2 i3 bA a2 bv bc S aY hr bp
    gi_upto_region 9 with fail
    gi_cut [] from 14 (λwc=>wc=W8)
    case first=>
     clear au
     gi_wp2_with fail
     gi_meet
     case rel=>exact aj.out
    case rest=>
     rw[hcut];clear hcut aj c2 c3 c4 z2 z3
     gi_wp2_with fail
     have bi:(agl j.heap.size).run Tryz.prog W8 = .ok [] W9:=by rw[au];exact hT.out
     refine⟨by simp,.inl ⟨_,W9,rfl,bi,?_⟩⟩
     exact⟨_,MM rfl rfl rfl g2.out g3.out,E.out⟩
   |some q=>
    rw[S] at c4;replace c4:W.cell? ⟨Z+4,0,none⟩=some (.pointer (some ⟨q.b,0,none⟩)):=c4;obtain⟨W9,⟨W8,aj,hT⟩,g2,g3,aY,bK⟩:=a2 (.pointer (some ⟨q.b,0,none⟩));obtain⟨y1,y2,sl,y3,y4,y5⟩:=bc q S;have E:Hid (Md W9 (Ap vs fs ls L C) most o (.returned (.tuple #[.pointer (some ⟨q.b,0,none⟩),.int .i64 0]))/\Xm w.heap.size w W9):=⟨.inr ⟨hr,R.map Ag.m,by rw[u];exact aS,.inr ⟨q.b,sl,q.m,rfl,y3.types bK,by rw[u];exact y4,y2,by rw[u];exact y1,y5⟩⟩,aY⟩;replace aj:=Aa aj;replace hT:=Aa hT;replace g2:=Aa g2;replace g3:=Aa g3;clear hx af d U hb hf hN ao ah k0 k1 k2 k3 k4 k5 k6 k aO HP s ar H I aE M hK bk bq a4 aS br i2 i3 bA a2 bv bc S aY hr bp bK y1 y2 y3 y4 y5
    gi_upto_region 9 with fail
    gi_cut [] from 14 (λwc=>wc=W8)
    case first=>
     clear au
     gi_wp2_with fail
     gi_meet
     case rel=>exact aj.out
    case rest=>
     rw[hcut];clear hcut aj c2 c3 c4 z2 z3
     gi_wp2_with fail
     have bi:(agl j.heap.size).run Tryz.prog W8 = .ok [] W9:=by rw[au];exact hT.out
     refine⟨by simp,.inl ⟨_,W9,rfl,bi,?_⟩⟩
     exact⟨_,MM rfl rfl rfl g2.out g3.out,E.out⟩
 case stop=>
  rintro c G O W _ ⟨rfl,hX⟩ bp hK;obtain⟨b,bP,l,D⟩:=hX.rep;have bk:j.heap.size<W.heap.size:=(Xa.1 hK).1;have hT:=ZO (P:=Tryz.prog) hK;obtain⟨W',bM⟩:∃x,W.putObj j.heap.size (.deferred none)=x:=⟨_,rfl⟩;rw[bM] at hT;have hg:W.grownBy W' (some j.heap.size):=by rw[<-bM];exact ZM _ _ _
  have b1:=hX.size;have e1:W'.heap[Z+2]?=_:=(hg.block _ (by omega) (λe=>by injection e with e;omega)).trans l;have e2:W'.heap[Z+3]?=_:=(hg.block _ (by omega) (λe=>by injection e with e;omega)).trans D;have E:Hid (Md W' (Ap vs fs ls L C) most o (.returned (.tuple #[.pointer none,.int .i64 (EG b)]))/\Xm w.heap.size w W'):=by
   refine⟨.inl ⟨b,by rw[u];exact bP,rfl⟩,⟨hg.os.trans (hX.os.trans k.os),hg.tape.trans (hX.tape.trans k.tape),hg.output.trans (hX.output.trans k.output),by have:=hg.size;omega,λx T=>(hg.block x (by omega) (λe=>by injection e with e;omega)).trans ((hX.fixed x (by omega)).trans (k.block x T))⟩⟩
  gi_wp2_with fail
  refine⟨by simp,.inl ⟨_,_,rfl,hT,?_⟩⟩
  exact⟨_,MM rfl rfl rfl e1 e2,E.out⟩
def Kt (w':Xh) (p:PD) (most:Int) (o:Tx) (e:Ending):Prop:=
 (∃b:Bool,(if b then BV most/\CS p most.toNat=none else ¬BV most)/\e = .returned (.tuple #[.slice none 0 0,.bool false,.int .i64 (EG b)]))\/
 (BV most/\∃l:List MS,CS p most.toNat=some l/\(((∀m,m∈l->DJ p o m=false)/\e = .returned (.tuple #[.slice none 0 0,.bool false,.int .i64 0]))\/
   ∃(a:Option YV) (cap:Nat) (sl:List Int) (m:MS),e = .returned (.tuple #[.slice a sl.length cap,.bool true,.int .i64 0])/\Is w' a sl/\Hr p sl m/\m∈l/\DJ p o m=true/\sl.length<=20000))
theorem results_tmp3 {fn:Func} {a b c:Tmp} (h:fn.results = #[.tmp a,.tmp b,.tmp c]) (tmps:Array Xk) (P:Program) (w:Xh):(Ze fn tmps).run P w = .ok (.tuple #[tmps.getD a X7,tmps.getD b X7,tmps.getD c X7]) w:=by
 simp[Ze,h,Sem.run_bind,Result.andThen]
theorem WW {w:Xh} {J aj nv nf nl nt vc fc t z:Nat} {va fa v B:Option YV} {vs fs ls:List Tx} {L:List (Tx×Xk)} {C:List (List Ad)} {most:Int} {er em:YV} (o:Tx) (S : -9223372036854775808<=most/\most<=9223372036854775807)
 (hx:XW w J er em) (I:J<=w.heap.size) (hp:BZ w aj (.slice va nv vc) (.slice fa nf fc) (.slice v nl t) (.slice B nt z) vs fs ls L C) (P:Hs vs fs ls L C) (G:CK (Ap vs fs ls L C)) (H:Eg (Ap vs fs ls L C)) (N:Iq (Ap vs fs ls L C)) (M:∀m,CY (Ap vs fs ls L C) m->(Aj (Ap vs fs ls L C) m).length<4294967000) :
 XY Tryz.prog 18 #[.agg #[.slice va nv vc,.slice fa nf fc,.slice v nl t,.slice B nt z],.string (bs o),.int .i64 most] w λe w'=>Kt w' (Ap vs fs ls L C) most o e/\Xm w.heap.size w w':=by
 obtain⟨W,g⟩:∃W,(w.alloc (.cells #[.slice va nv vc,.slice fa nf fc,.slice v nl t,.slice B nt z] 25)).alloc (.cells #[.string (bs o)] 9)=W:=⟨_,rfl⟩;have u:([.cells #[.slice va nv vc,.slice fa nf fc,.slice v nl t,.slice B nt z] 25,.cells #[.string (bs o)] 9]:List Obj).foldl Zy w=W:=g;obtain⟨j,hz⟩:=Ol u;obtain⟨Z,k⟩:∃x,w.heap.size=x:=⟨_,rfl⟩;have E:W.heap[Z]?=_:=DR u k (i:=0) rfl;have X:W.heap[Z+1]?=_:=DR u k (i:=1) rfl;have h:=We (o:=o) (Bp:=Z) (Bo:=Z+1) S (hx.same λx ao=>j.block x (by omega)) (Xu I j.size) (hp.below j) P G H N M E X;obtain⟨p0,p1,p2,p3⟩:=Ea E;generalize Ap vs fs ls L C=p at h |-;replace h:=Aa h;replace g:=Aa g;have T:=Aa j;replace k:=Aa k;clear S hx I hp P G H N M E X j hz u
 go_enter Tryz.func18,Tryz.ntmps18
 go_upto_region 1 with fail
 rw[g.out,k.out];clear g
 go_wp2_with fail
 refine h.out.mono ?_;rintro e w1 ⟨hR,D⟩;clear h p0 p1 p2 p3;have r:=Aa (T.out.trans (D.mono T.out.size));replace D:=Aa D
 rcases hR with⟨b,Y,rfl⟩|⟨d,l,f,⟨Q,rfl⟩|⟨c,sl,m,rfl,R,s,A,q,y⟩⟩
 ·have n:Hid (Kt w1 p most o (.returned (.tuple #[.slice none 0 0,.bool false,.int .i64 (EG b)]))/\Xm w.heap.size w w1):=⟨.inl ⟨b,Y,rfl⟩,r.out⟩;clear Y
  go_wp2_with fail
  refine XI (results_tmp3 rfl _ _ _) rfl ?_;exact n.out
 ·have n:Hid (Kt w1 p most o (.returned (.tuple #[.slice none 0 0,.bool false,.int .i64 0]))/\Xm w.heap.size w w1):=⟨.inr ⟨d,l,f,.inl ⟨Q,rfl⟩⟩,r.out⟩;clear d f Q
  go_wp2_with fail
  refine XI (results_tmp3 rfl _ _ _) rfl ?_;exact n.out
 ·have F:=Aa (Wg R (by omega));have K:=Aa (⟨d,f,s,A,q,y⟩:_/\_/\_/\_/\_/\_);unfold Ab at F |-;clear d f s A q y R
  go_wp2_with fail
  refine F.out.mono ?_;rintro e V ⟨a,cap,rfl,O,U⟩;have n:Hid (Kt V p most o (.returned (.tuple #[.slice a sl.length cap,.bool true,.int .i64 0]))/\Xm w.heap.size w V):=by
   obtain⟨d,f,s,A,q,y⟩:=K.out
   exact⟨.inr ⟨d,l,f,.inr ⟨a,cap,sl,m,rfl,O,s,A,q,y⟩⟩,r.out.trans (U.mono r.out.size)⟩
  clear F K O U
  go_wp2_with fail
  refine XI (results_tmp3 rfl _ _ _) rfl ?_;exact n.out
def Kq:Tx:=[118,97,114,32,120,10,116,104,114,101,97,100,32,97,10,115,112,97,119,110,32,98,10,115,116,111,114,101,32,120,32,49,10,116,104,114,101,97,100,32,98,10,115,116,111,114,101,32,120,32,50]
def Kr:PS:=match BM Kq with | .ok p=>p.1 | .error _=>PS.new
def Ks:List (List Ad):=match BM Kq with | .ok p=>p.2 | .error _=>[]
theorem Mc:BM Kq = .ok (Kr,Ks):=by kernel_rfl
theorem ae1:Kr.nms 118=[[120]]/\Kr.nms 102=[]/\Kr.nms 109=[]/\Kr.nms 116=[[97],[98]]:=⟨by kernel_rfl,by kernel_rfl,by kernel_rfl,by kernel_rfl⟩
def Dj:PD:=⟨[[120]],[],[],[[97],[98]],Ks⟩
def Fk:List MS:=match CS Dj 1000 with|some l=>l|none=>[]
def Kp:Tx:=[120,61,49]
theorem Mb:CS Dj 1000=some Fk:=by kernel_rfl
theorem ae0:Bx Dj Fk=[[120,61,49],[120,61,50]]:=by kernel_rfl
theorem aeZ:BJ Dj Fk 1=[0]:=by kernel_rfl
theorem TR:BC Dj.C Fk=false/\CE Fk=false:=⟨by kernel_rfl,by kernel_rfl⟩
theorem aeY:Fk.any (λm=>DJ Dj Kp m)=true:=by kernel_rfl
def Jo:Nat->List MS
 |0=>[EC Dj]
 |n+1=>(Jo n).flatMap (By false Dj.C)
theorem aet {C:List (List Ad)} {m:MS} {t:Int} (h:AV C m t=0):t∈AP C m:=by
 unfold AP DD;have c:¬(t<0\/(m.thr.length:Int)<=t\/(m.th t.toNat).ph=0):=by
  intro e;unfold AV at h;rw[if_pos e] at h;exact absurd h (by decide)
 have a:0<=t:=by omega
 have b:t<m.thr.length:=by omega
 refine YA.2 ⟨t.toNat,List.mem_filter.2 ⟨agr.2 (by omega),?_⟩,Int.toNat_of_nonneg a⟩;rw[Int.toNat_of_nonneg a];exact decide_eq_true h
theorem aay {l:List Int} {m:MS} (h:Hr Dj l m):m∈Jo l.length:=by
 induction h with
 |nil=>exact List.mem_singleton.2 rfl
 |snoc h b a=>
  rw[Xb];exact List.mem_flatMap.2 ⟨_,a,YA.2 ⟨_,aet b,rfl⟩⟩
theorem abT:Jo 6=[]:=by kernel_rfl
theorem RN:∀n,Jo (6+n)=[]
 |0=>abT
 |n+1=>by show (Jo (6+n)).flatMap _=[];rw[RN n];rfl
theorem abS:(List.range 5).all (λn=>(Jo n).all λm => !(DJ Dj Kp m))=true:=by kernel_rfl
theorem ae2 {l:List Int} {m:MS} (h:Hr Dj l m) (b:DJ Dj Kp m=true):l.length=5:=by
 have a:=aay h;have f:l.length<6:=by
  refine Nat.lt_of_not_le λe=>?_;obtain⟨k,c⟩:=Nat.exists_eq_add_of_le e;rw[c,RN] at a
  cases a
 have d:¬l.length<5:=λe=>by
  have q:=Zx.1 (Zx.1 abS _ (agr.2 e)) m a;rw[b] at q
  cases q
 omega
theorem Rl (n:Int) (w:Xh):XY Tryz.prog 12 #[.int .i64 n] w λe w'=>e = .returned (.int .i64 n)/\w'=w:=by
 go_enter Tryz.func12,Tryz.ntmps12
 go_wp2_with fail
 go_ret
 exact⟨rfl,rfl⟩
theorem aeS {w:Xh} {Z:Nat} {er em:YV} (o:XW w Z er em) (P:Z<=w.heap.size):XY Tryz.prog 7 #[] w λe w'=>e = .returned (.bool true)/\Xm w.heap.size w w':=by
 have aY:=o.t.lt;have T:=Ra Kq w o.t.heads o.t.shapes (by show 2<_;omega) (by show 3<_;omega);have T:XY Tryz.prog 20 #[.string ⟨#[118,97,114,32,120,10,116,104,114,101,97,100,32,97,10,115,112,97,119,110,32,98,10,115,116,111,114,101,32,120,32,49,10,116,104,114,101,97,100,32,98,10,115,116,111,114,101,32,120,32,50]⟩] w (Me w Kq):=T;have HT:=Aa (⟨o,P⟩:_/\_);clear o P aY
 go_enter Tryz.func7,Tryz.ntmps7
 go_wp2_with fail
 refine T.mono ?_;clear T;rintro e i ⟨ao,(⟨a7,ln,E,rfl⟩|⟨s,C,vV,fV,lV,a8,L,E,rfl,r,H⟩)⟩
 ·rw[Mc] at E;cases E
 ·rw[Mc] at E
  cases E
  obtain⟨V,K,N⟩:=SP Mc H;have W:=Rn (L:=L) Mc;obtain⟨n1,n2,n3,n4⟩:=ae1;rw[n1,n2,n3] at r V K N W;rw[n4] at H;have aA:Ap [[120]] [] [] L Ks=Dj:=by unfold Ap;rw[H];rfl
  have am:L.length=2:=by have:=congrArg afl H;simpa using this
  obtain⟨o,P⟩:=HT.out;obtain⟨S,R,ev⟩:=As r.v;obtain⟨X,cf,ef⟩:=As r.f;obtain⟨al,cl,el⟩:=As r.l;obtain⟨U,O,et⟩:=As r.t;subst ev ef el et;rw[am];obtain⟨a,B⟩:∃a,i.alloc (.cells #[.slice S 1 R,.slice X 0 cf,.slice al 0 cl,.slice U 2 O] 25)=a:=⟨_,rfl⟩;have ak:Xm i.heap.size i a:=by rw[<-B];exact(Xq _ _).alloc (Xd _) _
  have k3:a.heap[i.heap.size]?=some (.cells #[.slice S 1 R,.slice X 0 cf,.slice al 0 cl,.slice U 2 O] 25):=by rw[<-B];exact Xi i _
  have aa:=ao.trans (ak.mono ao.size);have HC:Hid (∀u,Xm a.heap.size a u->u.cell? ⟨i.heap.size,0,none⟩=some (.slice S 1 R)/\u.cell? ⟨i.heap.size,1,none⟩=some (.slice X 0 cf)/\u.cell? ⟨i.heap.size,2,none⟩=some (.slice al 0 cl)/\u.cell? ⟨i.heap.size,3,none⟩=some (.slice U 2 O)):=λu c=>Cl ((c.block _ (Xa.1 k3).1).trans k3);have an:=r.below ak;have M:∀u,Xm a.heap.size a u->XW u Z er em/\Z<=u.heap.size:=λu c=>by
   have q:=aa.trans (c.mono aa.size)
   exact⟨o.same λk hk=>q.block k (by omega),by have:=q.size;omega⟩
  have ag:∀m,CY (Ap [[120]] [] [] L Ks) m->(Aj (Ap [[120]] [] [] L Ks) m).length<4294967000:=λm hm=>PM K N hm;have ab:=λu (c:Xm a.heap.size a u)=>TM (most:=1000) ⟨by decide,by decide⟩ (M u c).1 (M u c).2 (an.below c) V K N W ag;have D:=λu (c:Xm a.heap.size a u)=>WW (most:=1000) Kp ⟨by decide,by decide⟩ (M u c).1 (M u c).2 (an.below c) V K N W ag;rw[aA] at ab D;rw[am] at ab D;have hA:=ab a (Xq _ _);have D:=Aa D;obtain⟨q0,q1,q2,q3⟩:=HC.out a (Xq _ _);have H3:=Aa aa;replace B:=Aa B;clear ab r an M ag V K N W n1 n2 n3 n4 H aA am o P ao ak k3 aa HT
  go_upto_region 2 with fail
  rw[B.out];clear B
  go_wp2_with fail
  refine hA.mono ?_;clear hA;rintro e z ⟨n,ap⟩
  rcases n with⟨b,F,-⟩|⟨-,l,ov,rv,os,rs,h,rfl,aD,aI,ax,aH,aX,aO⟩
  ·exfalso
   cases b with
   |true=>
    have I:CS Dj 1000=none:=F.2;rw[Mb] at I
    cases I
   |false=>exact F ⟨by decide,by decide⟩
  ·have h:CS Dj 1000=some l:=h;rw[Mb] at h;have hl:Fk=l:=Option.some.inj h;subst hl;have e1:os=Bx Dj Fk:=KU aI (Kl Dj Fk) λx=>by rw[ax,Ka]
   have e2:rs=BJ Dj Fk 1:=Lz aX (LN Dj Fk 1) λx=>by rw[aO];exact(Lo Dj Fk x).symm
   rw[ae0] at e1;rw[aeZ] at e2;subst e1 e2;obtain⟨oa,oc,rfl,aB⟩:=IX aD;obtain⟨ra,rc,rfl⟩:=As aH;obtain⟨g,G,e3,aG,Y⟩:=aB 0 (by decide);subst e3;rw[TR.1,TR.2];obtain⟨LL,aS⟩:∃x,Fk.length=x:=⟨_,rfl⟩;rw[aS];obtain⟨d,y⟩:∃d,z.alloc (.cells #[.int .i64 LL,.slice (some ⟨g,G,none⟩) 2 oc,.bool false,.bool false,.slice ra 1 rc] 34)=d:=⟨_,rfl⟩;have Q:Xm z.heap.size z d:=by rw[<-y];exact(Xq _ _).alloc (Xd _) _
   have A:d.heap[z.heap.size]?=some (.cells #[.int .i64 LL,.slice (some ⟨g,G,none⟩) 2 oc,.bool false,.bool false,.slice ra 1 rc] 34):=by rw[<-y];exact Xi z _
   have j:=ap.trans (Q.mono ap.size);have n:=D.out d j;have n:XY Tryz.prog 18 #[.agg #[.slice S 1 R,.slice X 0 cf,.slice al 0 cl,.slice U 2 O],.string ⟨#[120,61,49]⟩,.int .i64 1000] d λe w'=>Kt w' Dj 1000 Kp e/\Xm d.heap.size d w':=n;have Y:z.cell? ⟨g,G,none⟩=some (.string ⟨#[120,61,49]⟩):=Y;have J:=(Q.cell (p:=⟨g,G,none⟩) aG).trans Y;obtain⟨q0,q1,q2,q3⟩:=HC.out d j;have H5:=Aa (⟨j,A,J,(show g<d.heap.size by have:=Q.size;omega)⟩:_/\_/\_/\_);replace y:=Aa y;clear h aD aI ax aH aX aO aB aG Y Q A j ap aS J D;rw[show ([[120,61,49],[120,61,50]]:List Tx).length=2 from rfl,show ([0]:List Int).length=1 from rfl]
   go_upto_region 3 with fail
   rw[y.out];clear y
   go_wp2_with fail
   refine n.mono ?_;clear n;rintro e w6 ⟨n,ac⟩;obtain⟨j,A,J,ay⟩:=H5.out;have k6:=(ac.block _ (Xa.1 A).1).trans A;have bh:=(ac.cell (p:=⟨g,G,none⟩) ay).trans J;have HF:=Aa (H3.out.trans ((j.trans (ac.mono j.size)).mono H3.out.size));obtain⟨v0,v1,v2,v3,v4⟩:=BP k6;clear j A J ay k6 ac H5 q0 q1 q2 q3
   rcases n with⟨b,F,-⟩|⟨-,l,h,(⟨a5,-⟩|⟨sa,bc,sl,m,rfl,-,aw,-,aT,-⟩)⟩
   ·exfalso
    cases b with
    |true=>
     have I:CS Dj 1000=none:=F.2;rw[Mb] at I
     cases I
    |false=>exact F ⟨by decide,by decide⟩
   ·exfalso
    have h:CS Dj 1000=some l:=h;rw[Mb] at h;have hl:Fk=l:=Option.some.inj h;subst hl;obtain⟨m,hm,hw⟩:=List.any_eq_true.1 aeY;rw[a5 m hm] at hw
    cases hw
   ·rw[ae2 aw aT];clear aw aT
    go_wp2_with fail
    refine(Rl 0 _).mono ?_;rintro e w7 ⟨rfl,rfl⟩
    go_wp2_with fail
    go_ret
    exact⟨rfl,HF.out⟩
section
variable {w w':Xh}
theorem OY {a b:Option YV} {l:List Tx} {n ca cb:Nat} (g:Ts w a l) (d:Ts w b l) (j:l.length=n) (h:n<=9223372036854775806) :
 XY Tryz.prog 10 #[.slice a n ca,.slice b n cb] w λe w'=>e = .returned (.bool true)/\Xm w.heap.size w w':=by
 have H:=Aa (⟨g,d,j,h⟩:_/\_/\_/\_);clear g d j h
 go_enter Tryz.func10,Tryz.ntmps10
 go_wp2_with fail
 go_loopw [5] (λk wr=>∃i:Nat,i<=n/\k = .int .i64 i/\Xm w.heap.size w wr) (λk _=>n - (intOf k).toNat)
 case atStart=>exact⟨0,Xx _,rfl,Xq _ _⟩
 case round=>
  obtain⟨i,p,rfl,c⟩:=hrel
  by_cases m:i<n
  ·obtain⟨g,d,j,h⟩:=H.out;have u:(i:Int)<(n:Int):=by omega
   obtain⟨z,t,s,-,c1⟩:=(g.below c) i (by omega);subst s;obtain⟨x,y,q,-,c2⟩:=(d.below c) i (by omega);subst q;generalize l.getD i []=v at *;have o:XN ((i:Int)+1)=(i:Int)+1:=by unfold XN;omega
   have f:=Aa (⟨m,c⟩:_/\_);clear g d j h p m c
   go_wp2_with fail
   go_quiet (fail)
   go_wp2_with fail
   go_roundw
   case rel=>
    (try rw[o])
    exact⟨i+1,f.out.1,rfl,f.out.2.trans ⟨rfl,rfl,rfl,Xd _,λ_ _=>rfl⟩⟩
   case measure=>
    (try rw[o])
    exact Xl f.out.1 (Xo i)
  ·have r:i=n:=by omega
   subst r;have f:=Aa c;clear p m c H
   go_wp2_with fail
   go_ret
   exact⟨rfl,f.out⟩
end
section
variable {w w':Xh}
theorem Sw {a b:Option YV} {l:List Int} {n ca cb:Nat} (g:Is w a l) (d:Is w b l) (j:l.length=n) (h:n<=9223372036854775806) :
 XY Tryz.prog 11 #[.slice a n ca,.slice b n cb] w λe w'=>e = .returned (.bool true)/\Xm w.heap.size w w':=by
 have H:=Aa (⟨g,d,j,h⟩:_/\_/\_/\_);clear g d j h
 go_enter Tryz.func11,Tryz.ntmps11
 go_wp2_with fail
 go_loopw [5] (λk wr=>∃i:Nat,i<=n/\k = .int .i64 i/\Xm w.heap.size w wr) (λk _=>n - (intOf k).toNat)
 case atStart=>exact⟨0,Xx _,rfl,Xq _ _⟩
 case round=>
  obtain⟨i,p,rfl,c⟩:=hrel
  by_cases m:i<n
  ·obtain⟨g,d,j,h⟩:=H.out;have u:(i:Int)<(n:Int):=by omega
   obtain⟨z,t,s,-,c1⟩:=(g.below c) i (by omega);subst s;obtain⟨x,y,q,-,c2⟩:=(d.below c) i (by omega);subst q;generalize l.getD i 0=v at *;have o:XN ((i:Int)+1)=(i:Int)+1:=by unfold XN;omega
   have f:=Aa (⟨m,c⟩:_/\_);clear g d j h p m c
   go_wp2_with fail
   go_quiet (fail)
   go_wp2_with fail
   go_roundw
   case rel=>
    (try rw[o])
    exact⟨i+1,f.out.1,rfl,f.out.2.trans ⟨rfl,rfl,rfl,Xd _,λ_ _=>rfl⟩⟩
   case measure=>
    (try rw[o])
    exact Xl f.out.1 (Xo i)
  ·have r:i=n:=by omega
   subst r;have f:=Aa c;clear p m c H
   go_wp2_with fail
   go_ret
   exact⟨rfl,f.out⟩
end
end Go.Proofs.YtdcacoifehkioaaGreatDoor
