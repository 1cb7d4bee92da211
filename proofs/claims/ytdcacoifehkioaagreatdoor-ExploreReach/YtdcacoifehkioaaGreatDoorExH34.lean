import Derived.Test.YtdcacoifehkioaaGreatDoorExH22
import Derived.Shelf.Slices.Reverse
import Derived.Deep.LoopGhost
import Derived.Test.YtdcacoifehkioaaGreatDoorExH33
import Derived.Test.YtdcacoifehkioaaGreatDoorExH32
import Derived.Test.YtdcacoifehkioaaGreatDoorExH19
import Derived.Test.YtdcacoifehkioaaGreatDoorExH20
import Derived.Test.YtdcacoifehkioaaGreatDoorExH24
import Derived.BigQuiet
open Go renaming World->Xh,Value->Xk,Calls->XX,results->Ze,heap_setCell_same->Xj,heap_setCell_other->Xt,run_takeDeferred->ZP,grownBy_putObj'->ZO,Addr->YZ,callsIn_wide->X4,undef->Ya,bodyPost_ret->XJ
open Go.RowKit renaming Below->Xm
open Array renaming getElem?_eq_some_iff->Xa
open Nat renaming le_refl->Xd,lt_of_lt_of_le->XK,le_trans->Xu,reduceAdd->Zs
open List renaming length_append->Xb,length->afA,length_reverse->agw,getElem?_eq_getElem->Xe,getD_eq_getElem?_getD->Xc,mem_map->Yx,mem_range->af8,all_eq_true->ZA
open Go.Sort renaming putRow->af5,ahead->agl
open Go.RowKit.Below renaming refl->Xq
open Go.Value renaming slice->Yq,int->Yw
open Go.World renaming cell?->Xg,size_setCell->XC,alloc->ZC,alloc_heap_new->Xi
open Go.Instr renaming takeDeferred->agE
set_option maxRecDepth 100000
set_option maxHeartbeats 8000000
set_option linter.unusedVariables false
set_option linter.unusedSimpArgs false
namespace Go.Proofs
open Go.Shelf
shelf_lay Lays.n112 Nm 112 at Tryz as Tryz.lays112
end Go.Proofs
namespace Go.Proofs.YtdcacoifehkioaaGreatDoor
open Go.RowKit Go.Shelf Go.Proofs.Cod
inductive ET (w:Xh):Nat->List Int->Prop where
 |nil {b:Nat} {mv mo nx:Xk} {sh:Tx} {g y:Int} {f:Bool}:Bb w b mv sh g f mo (.pointer none) y nx->ET w b []
 |snoc {b b':Nat} {mv mo nx:Xk} {sh:Tx} {g y:Int} {f:Bool} {l:List Int}:Bb w b mv sh g f mo (Ab b') y nx->ET w b' l->ET w b (l++[y])
inductive FH (p:PD):List Int->MS->Prop where
 |nil:FH p [] (DH p)
 |snoc {l:List Int} {m:MS} {t:Int}:FH p l m->AO p.C m t=0->FH p (l++[t]) (Ay false p.C m t).1
theorem ET.kept {w w':Xh} {b:Nat} {l:List Int} (h:ET w b l) (a:Xm w.heap.size w w'):ET w' b l:=by
 induction h with
 |nil h=>exact .nil ((a.block _ (Xa.1 h).1).trans h)
 |snoc h _ c=>exact .snoc ((a.block _ (Xa.1 h).1).trans h) c
theorem FW.UM {w:Xh} {p:PD} {base o t i k:Nat} {R:List Ag} (h:FW w p base o t R i k):∀(j:Nat) (r:Ag),R[j]?=some r->∃l,ET w r.b l/\FH p l r.m/\l.length<=j:=by
 intro j
 induction j using Nat.strongRecOn with
 |ind j n=>
  intro r e;have a:=h.st j r e
  rcases h.way j r e with⟨rfl,d,c⟩|⟨q,r',g,f,d,c,u⟩
  ·refine⟨[],?_,?_,Xd _⟩
   ·rw[d] at a;exact .nil a
   ·rw[c];exact .nil
  ·obtain⟨l,v,s,x⟩:=n q g r' f;refine⟨l++[r.y],?_,?_,by rw[Xb];show l.length+1<=j;omega⟩
   ·rw[d] at a;exact .snoc a v
   ·rw[u];exact .snoc s c
theorem acS {α:Type} [Inhabited α] (enc:α->Xk) (w:Xh) (n a b:Nat) (d:Array α) (x:Nat) (h:x≠a):(af5 enc (agl w n) a b d).heap[x]?=w.heap[x]?:=by
 unfold af5 Sort.mapBlock agl;simp[Array.getElem?_modify];intro e;exact absurd e.symm h
theorem Wu {w:Xh} {b:Nat} {l:List Int} (h:ET w b l) (A:l.length<1000000) :
 XX Tryz.prog 46 #[Ab b] w λe w'=>∃a cap,e = .returned (.slice a l.length cap)/\Is w' a l/\Xm w.heap.size w w':=by
 have A:=Aa A;have E:=Aa h;unfold Ab;clear h
 go_enter Tryz.func46,Tryz.ntmps46
 go_wp2_with fail
 go_loopg [0,3] l.length (λk sv tv wr=>∃(c:Nat) (rest d:List Int),rest.length=k/\sv = .pointer (some ⟨c,0,none⟩)/\ET w c rest/\rest++d.reverse=l/\wr.ownsRow w.heap.size 3 1 tv d.length (d.map Cq)/\Xm w.heap.size w wr)
 case atStart=>exact⟨b,l,[],rfl,rfl,E.out,by simp,World.ownsRow_nil _ _ _ _,Xq _ _⟩
 case round=>
  obtain⟨c,rest,d,D,rfl,ab,o,q,m⟩:=hrel;have v:d.length<=l.length:=by
   have:=congrArg afA o;rw[Xb,agw] at this
   omega
  cases ab with
  |nil p=>
   obtain⟨-,-,-,-,-,c5,-⟩:=DR ((m.block _ (Xa.1 p).1).trans p);have o:d.reverse=l:=by simpa using o
   by_cases B:d.length=0
   ·obtain⟨C,z,s⟩:=At q;subst s;have t:=Any.slices_Reverse_int_empty Tryz.lays112 C z wr
    change XX Tryz.prog 103 _ _ _ at t
    have J:l.length=0:=by rw[<-o,agw];exact B
    have I:Hid (∃a cap,Ending.returned (Yq C 0 z) = .returned (.slice a l.length cap)/\Is wr a l/\Xm w.heap.size w wr):=⟨C,z,by rw[J],λi Q=>by omega,m⟩;rw[B];clear p q m o D v B J E
    go_wp2_with fail
    refine t.mono ?_;rintro e w' ⟨rfl,rfl⟩
    go_wp2_with fail
    go_ret
    exact I.out
   ·rcases id q.2 with⟨-,e⟩|⟨g,cap,ak,s,ai,O,Y,-⟩
    ·omega
    ·subst s;have F:Sort.Holds (Yw .i64) wr g 0 d.toArray:=λj V=>by
      have M:j<d.length:=by simpa using V
      refine⟨?_,q.frozenAt _⟩;rw[Nat.zero_add,q.cellAt j (by omega),List.getElem?_map,Xe M];simp[Cq,M]
     have t:=Any.slices_Reverse_int Tryz.lays112 g 0 cap d wr F (by have:=A.out;omega)
     change XX Tryz.prog 103 _ _ _ at t
     have I:Hid (∀n,∃a X,Ending.returned (Yq (some ⟨g,0,none⟩) d.length cap) = .returned (.slice a l.length X)/\Is (af5 (Yw .i64) (agl wr n) g 0 d.reverse.toArray) a l/\Xm w.heap.size w (af5 (Yw .i64) (agl wr n) g 0 d.reverse.toArray)):=λn=>by
      have Z:d.length=l.length:=by rw[<-o,agw]
      have R:(af5 (Yw .i64) (agl wr n) g 0 d.reverse.toArray).heap.size=wr.heap.size:=by unfold af5 Sort.mapBlock agl;simp
      have W:Sort.Holds (Yw .i64) (af5 (Yw .i64) (agl wr n) g 0 d.reverse.toArray) g 0 d.reverse.toArray:=Sort.holds_putRow _ _ _ _ d.toArray _ (Sort.holds_ahead _ _ _ _ _ _ F) (by simp);refine⟨some ⟨g,0,none⟩,cap,by rw[Z],λi Q=>⟨g,0,rfl,by rw[R];exact(Xa.1 O).1,?_⟩,⟨m.os,m.tape,m.output,by rw[R];exact m.size,λx hx=>(acS _ _ _ _ _ _ _ (by omega)).trans (m.block x hx)⟩⟩;have U:i<d.reverse.toArray.size:=by simp;omega
      rw[(W i U).1,o];simp[Xc,Q]
     clear p q m o D v B E ai O Y F
     go_wp2_with fail
     refine t.mono ?_;rintro e w' ⟨rfl,n,rfl⟩
     go_wp2_with fail
     go_ret
     exact I.out n
  |snoc p P=>
   rename_i N mv mo nx sh g y f r;have H:=(Xa.1 p).1;obtain⟨-,-,-,-,-,c5,c6,-⟩:=DR ((m.block _ H).trans p);obtain⟨gg,cap,w3,ac,S,T⟩:=NH q y (by have:=A.out;omega) m.size;obtain⟨C,z,s⟩:=At q;subst s;have G:=m.trans (T _ (Xd _));have K:=(G.block _ H).trans p;obtain⟨-,-,-,-,-,e5,-⟩:=DR K;have u:Hid (r.length<gk/\ET w N r/\r++(d++[y]).reverse=l/\w3.ownsRow w.heap.size 3 1 (.slice (some ⟨gg,0,none⟩) (d.length+1) cap) (d++[y]).length ((d++[y]).map Cq)/\Xm w.heap.size w w3):=by
    refine⟨by rw[<-D,Xb];show r.length<r.length+1;omega,P,?_,S,G⟩;rw[<-o,List.reverse_append,List.append_assoc];rfl
   unfold Ab at c5 e5;replace v:=Aa v;clear p P q m o D H S T G K
   go_wp2_with (at_builtin;refine Dm rfl _ _ _ rfl rfl rfl rfl ac ?_)
   go_roundg r.length
   case measure=>exact u.out.1
   case rel=>exact⟨N,r,d++[y],rfl,rfl,u.out.2.1,u.out.2.2.1,u.out.2.2.2.1,u.out.2.2.2.2⟩
attribute [local go_sem] Oper.semAt_some
theorem ET.types {w w':Xh} {b:Nat} {l:List Int} (h:ET w b l) (a:∀(x:Nat) (c:Array Xk),w.heap[x]?=some (Obj.cells c 75)->w'.heap[x]?=w.heap[x]?):ET w' b l:=by
 induction h with
 |nil h=>exact .nil ((a _ _ h).trans h)
 |snoc h _ d=>exact .snoc ((a _ _ h).trans h) d
def FC (p:PD) (o:Tx) (R:List Ag):Option Ag:=R.find? λr=>Dx p o r.m
theorem adl (p:PD) (o:Tx) (R:List Ag) (r:Ag):FC p o (R++[r])=match FC p o R with
 |some x=>some x
 |none=>if Dx p o r.m=true then some r else none:=by
 unfold FC;rw[List.find?_append]
 cases h:R.find? λr=>Dx p o r.m with
 |some x=>rfl
 |none=>
  cases a:Dx p o r.m<;>simp[a]
structure SI (W0:Xh) (Z:Nat) (p:PD) (o:Tx) (pre:List XS) (O:AS) (W:Xh):Prop where
 all0:∀b,b<W0.heap.size->O b
 inside:∀b,O b->b<W.heap.size
 fixed:∀b,b<W0.heap.size->b≠Z+4->W.heap[b]?=W0.heap[b]?
 os:W.os=W0.os
 tape:W.tape=W0.tape
 output:W.output=W0.output
 size:W0.heap.size<=W.heap.size
 rep:∃R:List Ag,pre=R.map XS.st/\W.heap[Z+4]?=some (.cells #[DO ((FC p o R).map Ag.b)] 69)
theorem SI.ID {d:Xh} {Z:Nat} {p:PD} {o:Tx} (k:Z+4<d.heap.size):GS (SI d Z p o):=by
 intro n O W m h e l i j f;refine⟨h.all0,λb g=>XK (h.inside b g) e,λb a c=>(f b (h.all0 b a)).trans (h.fixed b a c),l.trans h.os,i.trans h.tape,j.trans h.output,Xu h.size e,?_⟩;obtain⟨R,a,c⟩:=h.rep
 exact⟨R,a,(f _ (h.all0 _ k)).trans c⟩
structure SX (W0:Xh) (Z:Nat) (p:PD) (most:Int) (O:AS) (W:Xh):Prop where
 all0:∀b,b<W0.heap.size->O b
 inside:∀b,O b->b<W.heap.size
 fixed:∀b,b<Z->W.heap[b]?=W0.heap[b]?
 os:W.os=W0.os
 tape:W.tape=W0.tape
 output:W.output=W0.output
 size:W0.heap.size<=W.heap.size
 rep:∃b:Bool,(if b then BZ most/\CT p most.toNat=none else ¬BZ most)/\W.heap[Z+2]?=some (.cells #[.pointer none] 69)/\W.heap[Z+3]?=some (.cells #[.int .i64 (EH b)] 35)
theorem SX.ID {d:Xh} {Z:Nat} {p:PD} {most:Int} (o:Z+4<d.heap.size):GS (fun(_:List XS)=>SX d Z p most):=by
 intro n O W m h e k g i a;refine⟨h.all0,λb f=>XK (h.inside b f) e,λb c=>(a b (h.all0 b (by omega))).trans (h.fixed b c),k.trans h.os,g.trans h.tape,i.trans h.output,Xu h.size e,?_⟩;obtain⟨b,c,l,j⟩:=h.rep
 exact⟨b,c,(a _ (h.all0 _ (by omega))).trans l,(a _ (h.all0 _ (by omega))).trans j⟩
theorem MP {w:Xh} {fn:Func} {tmps:Array Xk} {a b:Nat} {v e:Xk} (c:fn.results = #[.cell 6 69,.cell 7 35]) (g:tmps[6]?=some (.pointer (some ⟨a,0,none⟩))) (h:tmps[7]?=some (.pointer (some ⟨b,0,none⟩))) (f:w.heap[a]?=some (.cells #[v] 69)) (d:w.heap[b]?=some (.cells #[e] 35)):(Ze fn tmps).run Tryz.prog w = .ok (.tuple #[v,e]) w:=by
 have c0:w.cell? ⟨a,0,none⟩=some v:=by simp[Xg,f]
 have c5:w.cell? ⟨b,0,none⟩=some e:=by simp[Xg,d]
 simp[Ze,c,g,h,go_sem,c0,c5]
theorem WW {p:PD} {most:Int} {l:List MS} (b:BZ most) (h:CT p most.toNat=some l):l.length<=20000:=by
 unfold CT at h;have e:=b.1;have f:=b.2;generalize d:most.toNat=k at h;have c:[DH p].length<=k:=by show 1<=k;omega
 generalize [DH p]=a at h c;have:=Ob k (k+1) a 0 c h
 omega
def Mc (w':Xh) (p:PD) (most:Int) (o:Tx) (e:Ending):Prop:=
 (∃b:Bool,(if b then BZ most/\CT p most.toNat=none else ¬BZ most)/\e = .returned (.tuple #[.pointer none,.int .i64 (EH b)]))\/
 (BZ most/\∃l:List MS,CT p most.toNat=some l/\(((∀m,m∈l->Dx p o m=false)/\e = .returned (.tuple #[.pointer none,.int .i64 0]))\/
   ∃(c:Nat) (sl:List Int) (m:MS),e = .returned (.tuple #[Ab c,.int .i64 0])/\ET w' c sl/\FH p sl m/\m∈l/\Dx p o m=true/\sl.length<=20000))
theorem Wq {w W:Xh} {Z:Nat} (o:W.heap[Z+2]?=some (.cells #[.pointer none] 69)) (m:W.heap[Z+3]?=some (.cells #[.int .i64 0] 35)) (j:W.heap[Z+7]?=some (.deferred (some []))) (E:w.heap.size=Z) (h:Xm w.heap.size w W) (v:Xk):∃f,(∃b,(W.setCell ⟨Z+2,0,none⟩ v).setCell ⟨Z+3,0,none⟩ (.int .i64 0)=b/\(agE (Z+7)).run Tryz.prog b = .ok [] f)/\f.heap[Z+2]?=some (.cells #[v] 69)/\f.heap[Z+3]?=some (.cells #[.int .i64 0] 35)/\Xm w.heap.size w f/\∀(x:Nat) (c:Array Xk),W.heap[x]?=some (Obj.cells c 75)->f.heap[x]?=W.heap[x]?:=by
 have B:Z+7<W.heap.size:=(Xa.1 j).1;have s:(W.setCell ⟨Z+2,0,none⟩ v).heap[Z+2]?=some (.cells #[v] 69):=(Xj W (Z+2) 0 _ _ _ o).trans rfl;have p:(W.setCell ⟨Z+2,0,none⟩ v).heap[Z+3]?=some (.cells #[.int .i64 0] 35):=(Xt W ⟨Z+2,0,none⟩ (Z+3) _ (by show Z+3≠Z+2;omega)).trans m;obtain⟨b,g⟩:∃x,(W.setCell ⟨Z+2,0,none⟩ v).setCell ⟨Z+3,0,none⟩ (.int .i64 0)=x:=⟨_,rfl⟩;have q:b.heap[Z+2]?=some (.cells #[v] 69):=by rw[<-g];exact(Xt _ ⟨Z+3,0,none⟩ (Z+2) _ (by show Z+2≠Z+3;omega)).trans s
 have y:b.heap[Z+3]?=some (.cells #[.int .i64 0] 35):=by rw[<-g];exact(Xj _ (Z+3) 0 _ _ _ p).trans rfl
 have k:∀x,x≠Z+2->x≠Z+3->b.heap[x]?=W.heap[x]?:=λx r z=>by rw[<-g];exact(Xt _ ⟨Z+3,0,none⟩ x _ z).trans (Xt W ⟨Z+2,0,none⟩ x _ r)
 have i:b.heap.size=W.heap.size/\b.os=W.os/\b.tape=W.tape/\b.output=W.output:=by rw[<-g];exact⟨by rw[XC,XC],rfl,rfl,rfl⟩
 have D:=i.1;have u:b.heap[Z+7]?=some (.deferred (some [])):=by
  exact(k _ (by omega) (by omega)).trans j
 have n:=ZP (P:=Tryz.prog) u;obtain⟨f,l⟩:∃x,b.putObj (Z+7) (.deferred none)=x:=⟨_,rfl⟩;rw[l] at n;have d:b.grownBy f (some (Z+7)):=by rw[<-l];exact ZO _ _ _
 have G:=d.size;have A:=h.size;refine⟨f,⟨b,g,n⟩,(d.block _ (by omega) (λe=>by injection e with e;omega)).trans q,(d.block _ (by omega) (λe=>by injection e with e;omega)).trans y,⟨d.os.trans (i.2.1.trans h.os),d.tape.trans (i.2.2.1.trans h.tape),d.output.trans (i.2.2.2.trans h.output),by omega,λx t=>(d.block x (by omega) (λe=>by injection e with e;omega)).trans ((k x (by omega) (by omega)).trans (h.block x t))⟩,λx c a=>?_⟩;have F:=(Xa.1 a).1;have n2:x≠Z+2:=λe=>by
  rw[e,o] at a;injection a with a
  injection a with _ a
  exact absurd a (by decide)
 have n3:x≠Z+3:=λe=>by
  rw[e,m] at a;injection a with a
  injection a with _ a
  exact absurd a (by decide)
 have C:x≠Z+7:=λe=>by rw[e,j] at a;cases a
 exact(d.block x (by omega) (λe=>by injection e with e;omega)).trans (k x n2 n3)
theorem adj {p:PD} {o:Tx} {R:List Ag} (h:FC p o R=none):∀m,m∈R.map Ag.m->Dx p o m=false:=λm b=>by
 unfold FC at h;obtain⟨r,a,rfl⟩:=Yx.1 b;exact LF.1 h r a
theorem adk {α:Type} {q:α->Bool} {l:List α} {a:α} (h:l.find? q=some a):q a=true/\a∈l:=⟨List.find?_some h,List.mem_of_find?_eq_some h⟩
theorem adi {W:Xh} {p:PD} {o:Tx} {base l r i k:Nat} {R:List Ag} {q:Ag} (v:FW W p base l r R i k) (f:R.length<=20000) (h:FC p o R=some q):Dx p o q.m=true/\q.m∈R.map Ag.m/\∃a,ET W q.b a/\FH p a q.m/\a.length<=20000:=by
 unfold FC at h;obtain⟨c,e⟩:=adk h;have c:Dx p o q.m=true:=c;obtain⟨j,d⟩:=List.mem_iff_getElem?.1 e;obtain⟨a,w,g,u⟩:=v.UM j q d;have t:=(List.getElem?_eq_some_iff.1 d).1;have n:a.length<=20000:=Xu u (Xu (Nat.le_of_lt t) f);have s:q.m∈R.map Ag.m:=List.mem_map_of_mem e
 exact⟨c,s,a,w,g,n⟩
theorem Wr {w:Xh} {Z0 bQ nv nf nl nt vc fc T Q Bp Bo:Nat} {va fa Y N:Option YZ} {vs fs ls:List Tx} {L:List (Tx×Xk)} {C:List (List Ad)} {most:Int} {u F:YZ} {o:Tx} (ar : -9223372036854775808<=most/\most<=9223372036854775807)
 (hx:XW w Z0 u F) (av:Z0<=w.heap.size) (U:BS w bQ (.slice va nv vc) (.slice fa nf fc) (.slice Y nl T) (.slice N nt Q) vs fs ls L C) (hb:GW vs fs ls L C) (hf:Cs (Am vs fs ls L C)) (hN:DX (Am vs fs ls L C)) (aq:Hu (Am vs fs ls L C)) (ak:∀m,BT (Am vs fs ls L C) m->(Aj (Am vs fs ls L C) m).length<4294967000)
 (H:w.heap[Bp]?=some (.cells #[.slice va nv vc,.slice fa nf fc,.slice Y nl T,.slice N nt Q] 25)) (G:w.heap[Bo]?=some (.cells #[.string (bs o)] 9)) :
 XX Tryz.prog 44 #[.agg #[.slice va nv vc,.slice fa nf fc,.slice Y nl T,.slice N nt Q],.int .i64 most,.func (.func 45) #[] #[.pointer (some ⟨Bp,0,none⟩),.pointer (some ⟨Bo,0,none⟩)]] w λe w'=>Mc w' (Am vs fs ls L C) most o e/\Xm w.heap.size w w':=by
 obtain⟨p,s⟩:∃x,Am vs fs ls L C=x:=⟨_,rfl⟩;refine(X4 (n:=8)).1 ?_;refine callsIn_of_wp_marks Tryz.func44 rfl trivial ?_ rfl;simp only[Tryz.ntmps44,List.size_toArray,List.length_cons,List.length_nil,Zs,Nat.reduceSub,Array.replicate_succ,Array.replicate_zero,List.push_toArray,List.append_toArray,List.nil_append,List.cons_append];have HP:=Aa (⟨ar,hx,av,U,hb,hf,hN,aq,ak,H,G⟩:_/\_/\_/\_/\_/\_/\_/\_/\_/\_/\_);clear ar hx av U hb hf hN aq ak H G
 gi_wp2_with (refine⟨trivial,?_⟩;gi_at_call 23;refine(Pz _ _ _ _ _ _ _).mono ?_;rintro e w' ⟨rfl,rfl⟩)
 obtain⟨ar,hx,av,U,hb,hf,hN,aq,ak,H,G⟩:=HP.out;have a1:nv=vs.length/\nf=fs.length:=by
  obtain⟨x,y,e⟩:=At U.v;injection e with _ e _
  obtain⟨x2,y2,e2⟩:=At U.f;injection e2 with _ e2 _
  exact⟨e,e2⟩
 replace a1:=Aa a1;obtain⟨j,ab⟩:∃j,([.cells #[.slice va nv vc,.slice fa nf fc,.slice Y nl T,.slice N nt Q] 25,.cells #[.func (.func 45) #[] #[.pointer (some ⟨Bp,0,none⟩),.pointer (some ⟨Bo,0,none⟩)]] 134,.cells #[.pointer none] 69,.cells #[.int .i64 0] 35,.cells #[.pointer none] 69,.cells #[.slice va nv vc,.slice fa nf fc,.slice Y nl T,.slice N nt Q] 25,.cells #[.int .i64 most] 3]:List Obj).foldl ZC w=j:=⟨_,rfl⟩
 change Code.wpIn _ _ _ _ _ _ (([.cells #[.slice va nv vc,.slice fa nf fc,.slice Y nl T,.slice N nt Q] 25,.cells #[.func (.func 45) #[] #[.pointer (some ⟨Bp,0,none⟩),.pointer (some ⟨Bo,0,none⟩)]] 134,.cells #[.pointer none] 69,.cells #[.int .i64 0] 35,.cells #[.pointer none] 69,.cells #[.slice va nv vc,.slice fa nf fc,.slice Y nl T,.slice N nt Q] 25,.cells #[.int .i64 most] 3]:List Obj).foldl ZC w)
 rw[ab];obtain⟨Z,B⟩:∃Z,w.heap.size=Z:=⟨_,rfl⟩;have k0:j.heap[Z]?=some (.cells #[.slice va nv vc,.slice fa nf fc,.slice Y nl T,.slice N nt Q] 25):=DU ab B (i:=0) rfl;have k1:j.heap[Z+1]?=some (.cells #[.func (.func 45) #[] #[.pointer (some ⟨Bp,0,none⟩),.pointer (some ⟨Bo,0,none⟩)]] 134):=DU ab B (i:=1) rfl;have k2:j.heap[Z+2]?=some (.cells #[.pointer none] 69):=DU ab B (i:=2) rfl;have k3:j.heap[Z+3]?=some (.cells #[.int .i64 0] 35):=DU ab B (i:=3) rfl;have k4:j.heap[Z+4]?=some (.cells #[.pointer none] 69):=DU ab B (i:=4) rfl;have k5:j.heap[Z+5]?=some (.cells #[.slice va nv vc,.slice fa nf fc,.slice Y nl T,.slice N nt Q] 25):=DU ab B (i:=5) rfl;have k6:j.heap[Z+6]?=some (.cells #[.int .i64 most] 3):=DU ab B (i:=6) rfl;obtain⟨k,bH⟩:=Ov ab;have ax:j.heap.size=Z+7:=by rw[bH,B];rfl
 clear bH;rw[B];simp only[Nat.add_assoc,Zs];clear ab;have af:XW j Z0 u F:=hx.same λx V=>k.block x (by omega);have aN:=Py (w:=j) (Z:=Z0) (Bp:=Z+5) (Bm:=Z+6) (eV:=CP u F) ar af.t ⟨af.g.1,af.g.2.1⟩ (by omega) af.c (U.below k) hb hf hN k5 k6;refine OL rfl (by decide) (gf:=53) (lb := #[.pointer (some ⟨Z+6,0,none⟩),.pointer (some ⟨Z+5,0,none⟩)]) rfl trivial (enters_of Tryz.func53 (by kernel_rfl) rfl)
  (IV.any _ aN) (Xq _ _) (λx=>by cases x<;>rfl) PG PH PA PC
  (SI j Z p o) (λc _ O W=>c = .ret/\SX j Z p most O W)
  (SI.ID (by omega)) (λc J O W W' h l D h3 h4 h5=>⟨h.1,SX.ID (by omega) J O W W' h.2 l D h3 h4 h5⟩)
  (λJ O W h=>h.inside) (λc J O W h=>h.2.inside)
  (λJ O W h b' S=>by
    rcases S with S|rfl|rfl
    ·exact⟨h.all0 b' (by omega),h.fixed b' (by omega) (by omega)⟩
    ·exact⟨h.all0 _ (by omega),h.fixed _ (by omega) (by omega)⟩
    ·exact⟨h.all0 _ (by omega),h.fixed _ (by omega) (by omega)⟩)
  (λb' S=>by rcases S with S|rfl|rfl<;>omega)
  ⟨λb' S=>S,λb' S=>S,λb' _ _=>rfl,rfl,rfl,rfl,Xd _,[],rfl,k4⟩
  (λ_ x a' O W=>a'={tmps := #[.agg #[.slice va nv vc,.slice fa nf fc,.slice Y nl T,.slice N nt Q],.int .i64 most,.func (.func 45) #[] #[.pointer (some ⟨Bp,0,none⟩),.pointer (some ⟨Bo,0,none⟩)],.pointer (some ⟨Z,0,none⟩),Ya,.pointer (some ⟨Z+1,0,none⟩),.pointer (some ⟨Z+2,0,none⟩),.pointer (some ⟨Z+3,0,none⟩),.pointer (some ⟨Z+4,0,none⟩),(CM (CP u F) x).getD 0 Ya,(CM (CP u F) x).getD 1 Ya,.agg #[.slice va nv vc,.slice fa nf fc,.slice Y nl T,.slice N nt Q],.int .i64 most,.func (.func 53) #[] #[.pointer (some ⟨Z+6,0,none⟩),.pointer (some ⟨Z+5,0,none⟩)],(CM (CP u F) x).getD 0 Ya,(CM (CP u F) x).getD 1 Ya,Ya,Ya,Ya,Ya,Ya,Ya,Ya,Ya,Ya,Ya,Ya,Ya,Ya],defers:=[]})
  (λ_ x a' _ O W W' h _ _ _ _ _=>h) ?assign ?body ?done ?stop
 case assign=>
  intro l' J x O W K d hE hK
  cases x with
  |st r=>
   unfold CM;dsimp only
   gi_wp2
   exact hK _ O _ (Steps.refl O W) d rfl
  |er b=>
   unfold CM;dsimp only
   gi_wp2
   exact hK _ O _ (Steps.refl O W) d rfl
 case body=>
  rintro l' J x a' O W ⟨rr,bz⟩ b2 d hE rfl;have aO:XW W Z0 u F:=af.same λx V=>d.fixed x (by omega) (by omega);have bq:=d.size
  cases x with
  |er b=>
   have bd:=(d.fixed (Z+2) (by omega) (by omega)).trans k2;have bk:=(d.fixed (Z+3) (by omega) (by omega)).trans k3;have a2:=Ru aO.e aO.c b;obtain⟨c0,cz⟩:=Fd bd;obtain⟨d0,dz⟩:=Fd bk;obtain⟨W1,aI⟩:∃x,(W.setCell ⟨Z+2,0,none⟩ (.pointer none)).setCell ⟨Z+3,0,none⟩ (.int .i64 (EH b))=x:=⟨_,rfl⟩;have E:IS (SI j Z p o) (λc _ O W=>c = .ret/\SX j Z p most O W) (J++[.er b]) O W .ret {tmps := #[],defers:=[]} W1:=by
    have e2:(W.setCell ⟨Z+2,0,none⟩ (.pointer none)).heap[Z+2]?=some (.cells #[.pointer none] 69):=(Xj W (Z+2) 0 _ _ _ bd).trans rfl;have e3:(W.setCell ⟨Z+2,0,none⟩ (.pointer none)).heap[Z+3]?=some (.cells #[.int .i64 0] 35):=(Xt W ⟨Z+2,0,none⟩ (Z+3) _ (by show Z+3≠Z+2;omega)).trans bk;have f2:W1.heap[Z+2]?=some (.cells #[.pointer none] 69):=by rw[<-aI];exact(Xt _ ⟨Z+3,0,none⟩ (Z+2) _ (by show Z+2≠Z+3;omega)).trans e2
    have f3:W1.heap[Z+3]?=some (.cells #[.int .i64 (EH b)] 35):=by rw[<-aI];exact(Xj _ (Z+3) 0 _ _ _ e3).trans rfl
    have bK:∀x,x≠Z+2->x≠Z+3->W1.heap[x]?=W.heap[x]?:=λx l D=>by rw[<-aI];exact(Xt _ ⟨Z+3,0,none⟩ x _ D).trans (Xt W ⟨Z+2,0,none⟩ x _ l)
    have hz:W1.heap.size=W.heap.size/\W1.os=W.os/\W1.tape=W.tape/\W1.output=W.output:=by rw[<-aI];exact⟨by rw[XC,XC],rfl,rfl,rfl⟩
    refine⟨O,⟨hz.2.1,hz.2.2.1,hz.2.2.2,by rw[hz.1];exact Xd _,λ_ h=>h,λ_ h=>.inl h,λx V hn=>bK x (λe=>hn (by rw[e];exact d.all0 _ (by omega))) (λe=>hn (by rw[e];exact d.all0 _ (by omega)))⟩,rfl,d.all0,λx V=>by rw[hz.1];exact d.inside x V,λx V=>(bK x (by omega) (by omega)).trans (d.fixed x (by omega) (by omega)),hz.2.1.trans d.os,hz.2.2.1.trans d.tape,hz.2.2.2.trans d.output,by rw[hz.1];exact d.size,b,?_,f2,f3⟩
    cases b with
    |false=>exact hE
    |true=>rw[if_pos rfl,<-s];exact hE
   replace a2:=Aa a2;replace E:=Aa E;replace aI:=Aa aI;obtain⟨ea,bB⟩:∃x,CP u F b = .iface 346 (.pointer (some x)):=⟨_,rfl⟩;rw[bB] at a2;rw[show (CM (CP u F) (XS.er b)).getD 0 Ya = .pointer none from rfl,show (CM (CP u F) (XS.er b)).getD 1 Ya = .iface 346 (.pointer (some ea)) from bB];clear hx af aO d hE U hb hf hN aq ak ar k0 k1 k2 k3 k4 k5 k6 k aN ax HP bd bk bB bq B av H G bz
   gi_wp2_with (refine⟨trivial,?_⟩;gi_at_call 24;refine(CallsIn.inRound l' (X4.2 a2.out)).mono ?_;rintro e w' ⟨rfl,rfl⟩)
   rw[aI.out];exact E.out
  |st r=>
   obtain⟨bJ,hS⟩:=hE;rw[s] at hS;obtain⟨R,aD,X⟩:=d.rep;obtain⟨nx,bo⟩:=hS.st;obtain⟨b4,bi⟩:=hS.mo;obtain⟨mx,bb⟩:=aO.m;have bj:W.heap[Bp]?=_:=(d.fixed Bp (by have:=(Xa.1 H).1;omega) (by have:=(Xa.1 H).1;omega)).trans ((k.block Bp (Xa.1 H).1).trans H);have bf:W.heap[Bo]?=_:=(d.fixed Bo (by have:=(Xa.1 G).1;omega) (by have:=(Xa.1 G).1;omega)).trans ((k.block Bo (Xa.1 G).1).trans G);have aJ:=UN (o:=o) bo bi (by rw[<-s];exact aq) hS.ok (by rw[<-s];exact hf) (by rw[<-s];exact ak r.m (by rw[s];exact hS.ok)) bb (by rw[a1.out.1,<-s];rfl) (by rw[a1.out.2,<-s];rfl) bj bf ⟨_,_,_,rfl⟩ ⟨_,_,_,rfl⟩;have aT:Hid (∀wr:Xh,(∀x,x<W.heap.size->x≠Z+4->wr.heap[x]?=W.heap[x]?)->W.heap.size<=wr.heap.size->wr.os=W.os->wr.tape=W.tape->wr.output=W.output->wr.heap[Z+4]?=some (.cells #[DO ((FC p o (R++[r])).map Ag.b)] 69)->IS (SI j Z p o) (λc _ O W=>c = .ret/\SX j Z p most O W) (J++[.st r]) O W .normal {tmps := #[],defers:=[]} wr):=λwr l D h3 h4 h5 h6=>by
    refine⟨λb=>O b\/(W.heap.size<=b/\b<wr.heap.size),⟨h3,h4,h5,D,λ_ h=>.inl h,λ_ h=>h.imp id And.left,λx bh hn=>l x bh (λe=>hn (by rw[e];exact d.all0 _ (by omega)))⟩,λx V=>.inl (d.all0 x V),λx V=>V.elim (λz=>XK (d.inside x z) D) And.right,λx bh hn=>(l x (by omega) hn).trans (d.fixed x bh hn),h3.trans d.os,h4.trans d.tape,h5.trans d.output,by omega,R++[r],?_,h6⟩;rw[aD,List.map_append];rfl
   obtain⟨c4,cz⟩:=Fd X;obtain⟨c1,-⟩:=Fd ((d.fixed (Z+1) (by omega) (by omega)).trans k1);have an:=adl p o R r;have a3:Z+4<W.heap.size:=by omega
   rw[show (CM (CP u F) (XS.st r)).getD 0 Ya = .pointer (some ⟨r.b,0,none⟩) from rfl,show (CM (CP u F) (XS.st r)).getD 1 Ya = .nilIface from rfl]
   cases M:FC p o R with
   |some q=>
    rw[M] at c4 an X;have E:=Aa (aT.out W (λ_ _ _=>rfl) (Xd _) rfl rfl rfl (by rw[an];exact X));replace c4:W.cell? ⟨Z+4,0,none⟩=some (.pointer (some ⟨q.b,0,none⟩)):=c4;clear hx af aO d hS U hb hf hN aq ak ar k0 k1 k2 k3 k4 k5 k6 k aN ax HP bq B av H G bz aD X bo bi bb bj bf aJ aT an a3 M bJ
    gi_wp2_with fail
    refine⟨(λf h=>by cases h),?_⟩
    gi_wp2_with fail
    exact E.out
   |none=>
    rw[M] at c4 an X;replace c4:W.cell? ⟨Z+4,0,none⟩=some (.pointer none):=c4;dsimp only at an;obtain⟨wt,bE⟩:∃x,Dx p o r.m=x:=⟨_,rfl⟩;rw[bE] at aJ an;have E:Hid (∀I,Xm W.heap.size W I->(I.cell? ⟨Z+4,0,none⟩=some (.pointer none)/\I.frozen? ⟨Z+4,0,none⟩=false)/\(wt=false->IS (SI j Z p o) (λc _ O W=>c = .ret/\SX j Z p most O W) (J++[.st r]) O W .normal {tmps := #[],defers:=[]} I)/\(wt=true->IS (SI j Z p o) (λc _ O W=>c = .ret/\SX j Z p most O W) (J++[.st r]) O W .normal {tmps := #[],defers:=[]} (I.setCell ⟨Z+4,0,none⟩ (.pointer (some ⟨r.b,0,none⟩))))):=λI A=>by
     have h4:I.heap[Z+4]?=_:=(A.block _ a3).trans X;refine⟨⟨(A.cell (p:=⟨Z+4,0,none⟩) a3).trans c4,by simp[World.frozen?,h4]⟩,λz=>?_,λz=>?_⟩
     ·refine aT.out I (λx l _=>A.block x l) A.size A.os A.tape A.output ?_;rw[an,z];exact h4
     ·refine aT.out _ (λx l D=>(Xt I ⟨Z+4,0,none⟩ x _ D).trans (A.block x l)) (by rw[XC];exact A.size) A.os A.tape A.output ?_;rw[an,z]
      exact(Xj I (Z+4) 0 _ _ _ h4).trans rfl
    replace aJ:=Aa aJ;unfold Ab at aJ;clear hx af aO d hS U hb hf hN aq ak ar k0 k1 k2 k3 k4 k5 k6 k aN ax HP bq B av H G bz aD X bo bi bb bj bf aT an a3 M bJ bE
    gi_wp2_with fail
    refine⟨trivial,(CallsIn.inRound l' (X4.2 aJ.out)).mono ?_⟩;rintro e I ⟨rfl,A⟩;obtain⟨⟨g4,gz⟩,f1,f2⟩:=E.out I A;clear aJ E A c4 cz
    cases wt with
    |false=>
     have HN:=Aa (f1 rfl);clear f1 f2
     gi_wp2_with fail
     exact HN.out
    |true=>
     have HN:=Aa (f2 rfl);clear f1 f2
     gi_wp2_with fail
     exact HN.out
 case done=>
  rintro xs O W bV d ba hK;have bp:j.heap.size<W.heap.size:=(Xa.1 hK).1
  rcases bV with⟨J,e,rfl⟩|⟨hr,base,fb,kb,R',bx,a4,bS,aS⟩
  ·obtain⟨R,h,-⟩:=d.rep;have:XS.er e∈R.map XS.st:=by rw[<-h];simp
   obtain⟨q,-,hq⟩:=Yx.1 this
   cases hq
  ·obtain⟨R,aD,X⟩:=d.rep;have bU:R=R':=by
    have h:R.map XS.st=R'.map XS.st:=aD.symm.trans bx;have bN:∀(a b:List Ag),a.map XS.st=b.map XS.st->a=b:=by
     intro a
     induction a with
     |nil=>intro b h;cases b with
      |nil=>rfl
      |cons y b=>cases h
     |cons x a ih=>intro b h;cases b with
      |nil=>cases h
      |cons y b=>
       injection h with l D
       injection l with l
       rw[l,ih b D]
    exact bN R R' h
   subst bU;rw[s] at a4 aS;have bt:R.length<=20000:=by
    have D:=WW hr aS;rw[List.length_map] at D;exact D
   clear ar bS;have i2:=(d.fixed (Z+2) (by omega) (by omega)).trans k2;have i3:=(d.fixed (Z+3) (by omega) (by omega)).trans k3;have bw:Xm w.heap.size w W:=⟨d.os.trans k.os,d.tape.trans k.tape,d.output.trans k.output,Xu k.size d.size,λb' S=>(d.fixed b' (by omega) (by omega)).trans (k.block b' S)⟩;obtain⟨c4,-⟩:=Fd X;obtain⟨c2,z2⟩:=Fd i2;obtain⟨c3,z3⟩:=Fd i3;have a9:=Wq i2 i3 (by rw[<-ax];exact hK) B bw;have bc:=fun(h:FC p o R=none)=>adj h;have bm:=fun(q:Ag) (h:FC p o R=some q)=>adi a4 bt h
   cases M:FC p o R with
   |none=>
    rw[M] at c4;replace c4:W.cell? ⟨Z+4,0,none⟩=some (.pointer none):=c4;obtain⟨W9,⟨W8,ag,hT⟩,g2,g3,aY,-⟩:=a9 (.pointer none);have E:Hid (Mc W9 (Am vs fs ls L C) most o (.returned (.tuple #[.pointer none,.int .i64 0]))/\Xm w.heap.size w W9):=⟨.inr ⟨hr,R.map Ag.m,by rw[s];exact aS,.inl ⟨by rw[s];exact bc M,rfl⟩⟩,aY⟩;replace ag:=Aa ag;replace hT:=Aa hT;replace g2:=Aa g2;replace g3:=Aa g3;clear hx af d U hb hf hN aq ak k0 k1 k2 k3 k4 k5 k6 k aN HP B av H G aD X hK bp bx a4 aS bt i2 i3 bw a9 bc bm M aY hr ba
    gi_upto_region 9 with fail
    gi_cut [] from 14 (λwc=>wc=W8)
    case first=>
     clear ax
     gi_wp2_with fail
     gi_meet
     case rel=>exact ag.out
    case rest=>
     rw[hcut];clear hcut ag c2 c3 c4 z2 z3
     gi_wp2_with fail
     have be:(agE j.heap.size).run Tryz.prog W8 = .ok [] W9:=by rw[ax];exact hT.out
     refine⟨by simp,.inl ⟨_,W9,rfl,be,?_⟩⟩
     exact⟨_,MP rfl rfl rfl g2.out g3.out,E.out⟩
   |some q=>
    rw[M] at c4;replace c4:W.cell? ⟨Z+4,0,none⟩=some (.pointer (some ⟨q.b,0,none⟩)):=c4;obtain⟨W9,⟨W8,ag,hT⟩,g2,g3,aY,bI⟩:=a9 (.pointer (some ⟨q.b,0,none⟩));obtain⟨y1,y2,sl,y3,y4,y5⟩:=bm q M;have E:Hid (Mc W9 (Am vs fs ls L C) most o (.returned (.tuple #[.pointer (some ⟨q.b,0,none⟩),.int .i64 0]))/\Xm w.heap.size w W9):=⟨.inr ⟨hr,R.map Ag.m,by rw[s];exact aS,.inr ⟨q.b,sl,q.m,rfl,y3.types bI,by rw[s];exact y4,y2,by rw[s];exact y1,y5⟩⟩,aY⟩;replace ag:=Aa ag;replace hT:=Aa hT;replace g2:=Aa g2;replace g3:=Aa g3;clear hx af d U hb hf hN aq ak k0 k1 k2 k3 k4 k5 k6 k aN HP B av H G aD X hK bp bx a4 aS bt i2 i3 bw a9 bc bm M aY hr ba bI y1 y2 y3 y4 y5
    gi_upto_region 9 with fail
    gi_cut [] from 14 (λwc=>wc=W8)
    case first=>
     clear ax
     gi_wp2_with fail
     gi_meet
     case rel=>exact ag.out
    case rest=>
     rw[hcut];clear hcut ag c2 c3 c4 z2 z3
     gi_wp2_with fail
     have be:(agE j.heap.size).run Tryz.prog W8 = .ok [] W9:=by rw[ax];exact hT.out
     refine⟨by simp,.inl ⟨_,W9,rfl,be,?_⟩⟩
     exact⟨_,MP rfl rfl rfl g2.out g3.out,E.out⟩
 case stop=>
  rintro c J O W _ ⟨rfl,hX⟩ ba hK;obtain⟨b,bX,l,D⟩:=hX.rep;have bp:j.heap.size<W.heap.size:=(Xa.1 hK).1;have hT:=ZP (P:=Tryz.prog) hK;obtain⟨W',bC⟩:∃x,W.putObj j.heap.size (.deferred none)=x:=⟨_,rfl⟩;rw[bC] at hT;have hg:W.grownBy W' (some j.heap.size):=by rw[<-bC];exact ZO _ _ _
  have cb:=hX.size;have e1:W'.heap[Z+2]?=_:=(hg.block _ (by omega) (λe=>by injection e with e;omega)).trans l;have e2:W'.heap[Z+3]?=_:=(hg.block _ (by omega) (λe=>by injection e with e;omega)).trans D;have E:Hid (Mc W' (Am vs fs ls L C) most o (.returned (.tuple #[.pointer none,.int .i64 (EH b)]))/\Xm w.heap.size w W'):=by
   refine⟨.inl ⟨b,by rw[s];exact bX,rfl⟩,⟨hg.os.trans (hX.os.trans k.os),hg.tape.trans (hX.tape.trans k.tape),hg.output.trans (hX.output.trans k.output),by have:=hg.size;omega,λx V=>(hg.block x (by omega) (λe=>by injection e with e;omega)).trans ((hX.fixed x (by omega)).trans (k.block x V))⟩⟩
  gi_wp2_with fail
  refine⟨by simp,.inl ⟨_,_,rfl,hT,?_⟩⟩
  exact⟨_,MP rfl rfl rfl e1 e2,E.out⟩
def IX (w':Xh) (p:PD) (most:Int) (o:Tx) (e:Ending):Prop:=
 (∃b:Bool,(if b then BZ most/\CT p most.toNat=none else ¬BZ most)/\e = .returned (.tuple #[.slice none 0 0,.bool false,.int .i64 (EH b)]))\/
 (BZ most/\∃l:List MS,CT p most.toNat=some l/\(((∀m,m∈l->Dx p o m=false)/\e = .returned (.tuple #[.slice none 0 0,.bool false,.int .i64 0]))\/
   ∃(a:Option YZ) (cap:Nat) (sl:List Int) (m:MS),e = .returned (.tuple #[.slice a sl.length cap,.bool true,.int .i64 0])/\Is w' a sl/\FH p sl m/\m∈l/\Dx p o m=true/\sl.length<=20000))
theorem results_tmp3 {fn:Func} {a b c:Tmp} (h:fn.results = #[.tmp a,.tmp b,.tmp c]) (tmps:Array Xk) (P:Program) (w:Xh):(Ze fn tmps).run P w = .ok (.tuple #[tmps.getD a Ya,tmps.getD b Ya,tmps.getD c Ya]) w:=by
 simp[Ze,h,Sem.run_bind,Result.andThen]
theorem QO {w:Xh} {Z0 ah nv nf nl nt vc fc u t:Nat} {va fa y r:Option YZ} {vs fs ls:List Tx} {L:List (Tx×Xk)} {C:List (List Ad)} {most:Int} {er em:YZ} (o:Tx) (Q : -9223372036854775808<=most/\most<=9223372036854775807)
 (H:XW w Z0 er em) (Y:Z0<=w.heap.size) (P:BS w ah (.slice va nv vc) (.slice fa nf fc) (.slice y nl u) (.slice r nt t) vs fs ls L C) (J:GW vs fs ls L C) (I:Cs (Am vs fs ls L C)) (X:DX (Am vs fs ls L C)) (ac:Hu (Am vs fs ls L C)) (S:∀m,BT (Am vs fs ls L C) m->(Aj (Am vs fs ls L C) m).length<4294967000) :
 XX Tryz.prog 18 #[.agg #[.slice va nv vc,.slice fa nf fc,.slice y nl u,.slice r nt t],.string (bs o),.int .i64 most] w λe w'=>IX w' (Am vs fs ls L C) most o e/\Xm w.heap.size w w':=by
 obtain⟨W,h⟩:∃W,(w.alloc (.cells #[.slice va nv vc,.slice fa nf fc,.slice y nl u,.slice r nt t] 25)).alloc (.cells #[.string (bs o)] 9)=W:=⟨_,rfl⟩;have z:([.cells #[.slice va nv vc,.slice fa nf fc,.slice y nl u,.slice r nt t] 25,.cells #[.string (bs o)] 9]:List Obj).foldl ZC w=W:=h;obtain⟨g,hz⟩:=Ov z;obtain⟨Z,k⟩:∃x,w.heap.size=x:=⟨_,rfl⟩;have F:W.heap[Z]?=_:=DU z k (i:=0) rfl;have V:W.heap[Z+1]?=_:=DU z k (i:=1) rfl;have j:=Wr (o:=o) (Bp:=Z) (Bo:=Z+1) Q (H.same λx ao=>g.block x (by omega)) (Xu Y g.size) (P.below g) J I X ac S F V;obtain⟨p0,p1,p2,p3⟩:=Ee F;generalize Am vs fs ls L C=p at j |-;replace j:=Aa j;replace h:=Aa h;have R:=Aa g;replace k:=Aa k;clear Q H Y P J I X ac S F V g hz z
 go_enter Tryz.func18,Tryz.ntmps18
 go_upto_region 1 with fail
 rw[h.out,k.out];clear h
 go_wp2_with fail
 refine j.out.mono ?_;rintro e w1 ⟨hR,E⟩;clear j p0 p1 p2 p3;have s:=Aa (R.out.trans (E.mono R.out.size));replace E:=Aa E
 rcases hR with⟨b,T,rfl⟩|⟨f,l,d,⟨aa,rfl⟩|⟨c,U,m,rfl,M,A,v,B,q⟩⟩
 ·have n:Hid (IX w1 p most o (.returned (.tuple #[.slice none 0 0,.bool false,.int .i64 (EH b)]))/\Xm w.heap.size w w1):=⟨.inl ⟨b,T,rfl⟩,s.out⟩;clear T
  go_wp2_with fail
  refine XJ (results_tmp3 rfl _ _ _) rfl ?_;exact n.out
 ·have n:Hid (IX w1 p most o (.returned (.tuple #[.slice none 0 0,.bool false,.int .i64 0]))/\Xm w.heap.size w w1):=⟨.inr ⟨f,l,d,.inl ⟨aa,rfl⟩⟩,s.out⟩;clear f d aa
  go_wp2_with fail
  refine XJ (results_tmp3 rfl _ _ _) rfl ?_;exact n.out
 ·have D:=Aa (Wu M (by omega));have N:=Aa (⟨f,d,A,v,B,q⟩:_/\_/\_/\_/\_/\_);unfold Ab at D |-;clear f d A v B q M
  go_wp2_with fail
  refine D.out.mono ?_;rintro e K ⟨a,cap,rfl,G,O⟩;have n:Hid (IX K p most o (.returned (.tuple #[.slice a U.length cap,.bool true,.int .i64 0]))/\Xm w.heap.size w K):=by
   obtain⟨f,d,A,v,B,q⟩:=N.out
   exact⟨.inr ⟨f,l,d,.inr ⟨a,cap,U,m,rfl,G,A,v,B,q⟩⟩,s.out.trans (O.mono s.out.size)⟩
  clear D N G O
  go_wp2_with fail
  refine XJ (results_tmp3 rfl _ _ _) rfl ?_;exact n.out
def Kt:Tx:=[118,97,114,32,120,10,116,104,114,101,97,100,32,97,10,115,112,97,119,110,32,98,10,115,116,111,114,101,32,120,32,49,10,116,104,114,101,97,100,32,98,10,115,116,111,114,101,32,120,32,50]
def Ku:PS:=match BO Kt with | .ok p=>p.1 | .error _=>PS.new
def Kv:List (List Ad):=match BO Kt with | .ok p=>p.2 | .error _=>[]
theorem Ma:BO Kt = .ok (Ku,Kv):=by kernel_rfl
theorem afc:Ku.nms 118=[[120]]/\Ku.nms 102=[]/\Ku.nms 109=[]/\Ku.nms 116=[[97],[98]]:=⟨by kernel_rfl,by kernel_rfl,by kernel_rfl,by kernel_rfl⟩
def Dk:PD:=⟨[[120]],[],[],[[97],[98]],Kv⟩
def Fl:List MS:=match CT Dk 1000 with|some l=>l|none=>[]
def Ks:Tx:=[120,61,49]
theorem LZ:CT Dk 1000=some Fl:=by kernel_rfl
theorem afb:Bq Dk Fl=[[120,61,49],[120,61,50]]:=by kernel_rfl
theorem afa:BL Dk Fl 1=[0]:=by kernel_rfl
theorem Uf:BE Dk.C Fl=false/\CG Fl=false:=⟨by kernel_rfl,by kernel_rfl⟩
theorem ae9:Fl.any (λm=>Dx Dk Ks m)=true:=by kernel_rfl
def Jr:Nat->List MS
 |0=>[DH Dk]
 |n+1=>(Jr n).flatMap (BC false Dk.C)
theorem aeD {C:List (List Ad)} {m:MS} {t:Int} (h:AO C m t=0):t∈AG C m:=by
 unfold AG Dz;have b:¬(t<0\/(m.thr.length:Int)<=t\/(m.th t.toNat).ph=0):=by
  intro e;unfold AO at h;rw[if_pos e] at h;exact absurd h (by decide)
 have a:0<=t:=by omega
 have c:t<m.thr.length:=by omega
 refine Yx.2 ⟨t.toNat,List.mem_filter.2 ⟨af8.2 (by omega),?_⟩,Int.toNat_of_nonneg a⟩;rw[Int.toNat_of_nonneg a];exact decide_eq_true h
theorem aaI {l:List Int} {m:MS} (h:FH Dk l m):m∈Jr l.length:=by
 induction h with
 |nil=>exact List.mem_singleton.2 rfl
 |snoc h b a=>
  rw[Xb];exact List.mem_flatMap.2 ⟨_,a,Yx.2 ⟨_,aeD b,rfl⟩⟩
theorem ab2:Jr 6=[]:=by kernel_rfl
theorem Sb:∀n,Jr (6+n)=[]
 |0=>ab2
 |n+1=>by show (Jr (6+n)).flatMap _=[];rw[Sb n];rfl
theorem ab1:(List.range 5).all (λn=>(Jr n).all λm => !(Dx Dk Ks m))=true:=by kernel_rfl
theorem afd {l:List Int} {m:MS} (h:FH Dk l m) (b:Dx Dk Ks m=true):l.length=5:=by
 have a:=aaI h;have f:l.length<6:=by
  refine Nat.lt_of_not_le λe=>?_;obtain⟨k,c⟩:=Nat.exists_eq_add_of_le e;rw[c,Sb] at a
  cases a
 have d:¬l.length<5:=λe=>by
  have q:=ZA.1 (ZA.1 ab1 _ (af8.2 e)) m a;rw[b] at q
  cases q
 omega
theorem Kd (n:Int) (w:Xh):XX Tryz.prog 12 #[.int .i64 n] w λe w'=>e = .returned (.int .i64 n)/\w'=w:=by
 go_enter Tryz.func12,Tryz.ntmps12
 go_wp2_with fail
 go_ret
 exact⟨rfl,rfl⟩
theorem ae3 {w:Xh} {Z:Nat} {er em:YZ} (o:XW w Z er em) (hZ:Z<=w.heap.size):XX Tryz.prog 7 #[] w λe w'=>e = .returned (.bool true)/\Xm w.heap.size w w':=by
 have a5:=o.t.lt;have S:=Rh Kt w o.t.heads o.t.shapes (by show 2<_;omega) (by show 3<_;omega);have S:XX Tryz.prog 20 #[.string ⟨#[118,97,114,32,120,10,116,104,114,101,97,100,32,97,10,115,112,97,119,110,32,98,10,115,116,111,114,101,32,120,32,49,10,116,104,114,101,97,100,32,98,10,115,116,111,114,101,32,120,32,50]⟩] w (Md w Kt):=S;have HT:=Aa (⟨o,hZ⟩:_/\_);clear o hZ a5
 go_enter Tryz.func7,Tryz.ntmps7
 go_wp2_with fail
 refine S.mono ?_;clear S;rintro e i ⟨ah,(⟨a7,ln,F,rfl⟩|⟨s,C,vV,fV,lV,bk,L,F,rfl,r,M⟩)⟩
 ·rw[Ma] at F;cases F
 ·rw[Ma] at F
  cases F
  obtain⟨Y,N,G⟩:=Tc Ma M;have ad:=Rw (L:=L) Ma;obtain⟨n1,n2,n3,n4⟩:=afc;rw[n1,n2,n3] at r Y N G ad;rw[n4] at M;have ar:Am [[120]] [] [] L Kv=Dk:=by unfold Am;rw[M];rfl
  have ap:L.length=2:=by have:=congrArg afA M;simpa using this
  obtain⟨o,hZ⟩:=HT.out;obtain⟨U,O,ev⟩:=At r.v;obtain⟨X,W,ef⟩:=At r.f;obtain⟨al,P,el⟩:=At r.l;obtain⟨ab,V,et⟩:=At r.t;subst ev ef el et;rw[ap];obtain⟨a,D⟩:∃a,i.alloc (.cells #[.slice U 1 O,.slice X 0 W,.slice al 0 P,.slice ab 2 V] 25)=a:=⟨_,rfl⟩;have am:Xm i.heap.size i a:=by rw[<-D];exact(Xq _ _).alloc (Xd _) _
  have k3:a.heap[i.heap.size]?=some (.cells #[.slice U 1 O,.slice X 0 W,.slice al 0 P,.slice ab 2 V] 25):=by rw[<-D];exact Xi i _
  have T:=ah.trans (am.mono ah.size);have HC:Hid (∀u,Xm a.heap.size a u->u.cell? ⟨i.heap.size,0,none⟩=some (.slice U 1 O)/\u.cell? ⟨i.heap.size,1,none⟩=some (.slice X 0 W)/\u.cell? ⟨i.heap.size,2,none⟩=some (.slice al 0 P)/\u.cell? ⟨i.heap.size,3,none⟩=some (.slice ab 2 V)):=λu c=>BK ((c.block _ (Xa.1 k3).1).trans k3);have ai:=r.below am;have I:∀u,Xm a.heap.size a u->XW u Z er em/\Z<=u.heap.size:=λu c=>by
   have q:=T.trans (c.mono T.size)
   exact⟨o.same λk hk=>q.block k (by omega),by have:=q.size;omega⟩
  have aj:∀m,BT (Am [[120]] [] [] L Kv) m->(Aj (Am [[120]] [] [] L Kv) m).length<4294967000:=λm hm=>PT N G hm;have Q:=λu (c:Xm a.heap.size a u)=>ae2 (most:=1000) ⟨by decide,by decide⟩ (I u c).1 (I u c).2 (ai.below c) Y N G ad aj;have B:=λu (c:Xm a.heap.size a u)=>QO (most:=1000) Ks ⟨by decide,by decide⟩ (I u c).1 (I u c).2 (ai.below c) Y N G ad aj;rw[ar] at Q B;rw[ap] at Q B;have hA:=Q a (Xq _ _);have B:=Aa B;obtain⟨q0,q1,q2,q3⟩:=HC.out a (Xq _ _);have H3:=Aa T;replace D:=Aa D;clear Q r ai I aj Y N G ad n1 n2 n3 n4 M ar ap o hZ ah am k3 T HT
  go_upto_region 2 with fail
  rw[D.out];clear D
  go_wp2_with fail
  refine hA.mono ?_;clear hA;rintro e A ⟨n,ao⟩
  rcases n with⟨b,E,-⟩|⟨-,l,ov,rv,os,rs,h,rfl,aI,aA,aF,au,aM,aq⟩
  ·exfalso
   cases b with
   |true=>
    have J:CT Dk 1000=none:=E.2;rw[LZ] at J
    cases J
   |false=>exact E ⟨by decide,by decide⟩
  ·have h:CT Dk 1000=some l:=h;rw[LZ] at h;have hl:Fl=l:=Option.some.inj h;subst hl;have e1:os=Bq Dk Fl:=MM aA (LK Dk Fl) λx=>by rw[aF,Ke]
   have e2:rs=BL Dk Fl 1:=NI aM (Oe Dk Fl 1) λx=>by rw[aq];exact(No Dk Fl x).symm
   rw[afb] at e1;rw[afa] at e2;subst e1 e2;obtain⟨oa,oc,rfl,ax⟩:=KI aI;obtain⟨ra,rc,rfl⟩:=At au;obtain⟨g,H,e3,aP,R⟩:=ax 0 (by decide);subst e3;rw[Uf.1,Uf.2];obtain⟨LL,aN⟩:∃x,Fl.length=x:=⟨_,rfl⟩;rw[aN];obtain⟨d,z⟩:∃d,A.alloc (.cells #[.int .i64 LL,.slice (some ⟨g,H,none⟩) 2 oc,.bool false,.bool false,.slice ra 1 rc] 34)=d:=⟨_,rfl⟩;have ac:Xm A.heap.size A d:=by rw[<-z];exact(Xq _ _).alloc (Xd _) _
   have y:d.heap[A.heap.size]?=some (.cells #[.int .i64 LL,.slice (some ⟨g,H,none⟩) 2 oc,.bool false,.bool false,.slice ra 1 rc] 34):=by rw[<-z];exact Xi A _
   have j:=ao.trans (ac.mono ao.size);have n:=B.out d j;have n:XX Tryz.prog 18 #[.agg #[.slice U 1 O,.slice X 0 W,.slice al 0 P,.slice ab 2 V],.string ⟨#[120,61,49]⟩,.int .i64 1000] d λe w'=>IX w' Dk 1000 Ks e/\Xm d.heap.size d w':=n;have R:A.cell? ⟨g,H,none⟩=some (.string ⟨#[120,61,49]⟩):=R;have K:=(ac.cell (p:=⟨g,H,none⟩) aP).trans R;obtain⟨q0,q1,q2,q3⟩:=HC.out d j;have H5:=Aa (⟨j,y,K,(show g<d.heap.size by have:=ac.size;omega)⟩:_/\_/\_/\_);replace z:=Aa z;clear h aI aA aF au aM aq ax aP R ac y j ao aN K B;rw[show ([[120,61,49],[120,61,50]]:List Tx).length=2 from rfl,show ([0]:List Int).length=1 from rfl]
   go_upto_region 3 with fail
   rw[z.out];clear z
   go_wp2_with fail
   refine n.mono ?_;clear n;rintro e w6 ⟨n,aa⟩;obtain⟨j,y,K,aV⟩:=H5.out;have k6:=(aa.block _ (Xa.1 y).1).trans y;have bl:=(aa.cell (p:=⟨g,H,none⟩) aV).trans K;have HF:=Aa (H3.out.trans ((j.trans (aa.mono j.size)).mono H3.out.size));obtain⟨v0,v1,v2,v3,v4⟩:=Dr k6;clear j y K aV k6 aa H5 q0 q1 q2 q3
   rcases n with⟨b,E,-⟩|⟨-,l,h,(⟨aZ,-⟩|⟨sa,bf,sl,m,rfl,-,aL,-,aG,-⟩)⟩
   ·exfalso
    cases b with
    |true=>
     have J:CT Dk 1000=none:=E.2;rw[LZ] at J
     cases J
    |false=>exact E ⟨by decide,by decide⟩
   ·exfalso
    have h:CT Dk 1000=some l:=h;rw[LZ] at h;have hl:Fl=l:=Option.some.inj h;subst hl;obtain⟨m,hm,hw⟩:=List.any_eq_true.1 ae9;rw[aZ m hm] at hw
    cases hw
   ·rw[afd aL aG];clear aL aG
    go_wp2_with fail
    refine(Kd 0 _).mono ?_;rintro e w7 ⟨rfl,rfl⟩
    go_wp2_with fail
    go_ret
    exact⟨rfl,HF.out⟩
theorem ac1 {w:Xh} {a:Option YZ} {l:List Tx} {s:Tx} {n ca:Nat} (d:Ts w a l) (m:l.length=n) (g:n<=9223372036854775806) :
 XX Tryz.prog 17 #[.slice a n ca,.string (bs s)] w λe w'=>e = .returned (.bool (decide (s∈l)))/\Xm w.heap.size w w':=by
 have H:=Aa (⟨d,m,g⟩:_/\_/\_);clear d m g
 go_enter Tryz.func17,Tryz.ntmps17
 go_wp2_with fail
 go_loopw [5] (λt wr=>∃i:Nat,i<=n/\t = .int .i64 i/\Xm w.heap.size w wr/\∀j,j<i->l.getD j []≠s) (λt _=>n - (intOf t).toNat)
 case atStart=>exact⟨0,Nat.zero_le _,rfl,Xq _ _,λj u=>absurd u (Nat.not_lt_zero j)⟩
 case round=>
  obtain⟨i,q,rfl,c,o⟩:=hrel
  by_cases p:i<n
  ·obtain⟨d,m,g⟩:=H.out;have I:(i:Int)<(n:Int):=by omega
   obtain⟨G,F,D,-,c1⟩:=(d.below c) i (by omega);subst D;obtain⟨v,f⟩:∃v,l.getD i []=v:=⟨_,rfl⟩;rw[f] at c1;have x:((bs v).toList == (bs s).toList)=decide (v=s):=by rw[AK,AK];exact Bool.eq_iff_iff.2 (by simp)
   have z:wrap64 ((i:Int)+1)=(i:Int)+1:=by unfold wrap64;omega
   by_cases e:v=s
   ·have r:decide (s∈l)=true:=decide_eq_true (by
     rw[<-e,<-f];exact CL (by omega))
    rw[decide_eq_true e] at x;have b:=Aa c;clear d m g q p c o f e
    go_wp2_with fail
    go_ret
    exact⟨by rw[r]<;>rfl,b.out⟩
   ·rw[decide_eq_false e] at x;have y:∀j,j<i+1->l.getD j []≠s:=λj u=>by
     rcases Nat.lt_or_ge j i with h|h
     ·exact o j h
     ·have:j=i:=by omega
      subst this;rw[f];exact e
    have b:=Aa (⟨p,c,y⟩:_/\_/\_);clear d m g q p c o f e y
    go_wp2_with fail
    go_roundw
    case rel=>
     (try rw[z])
     exact⟨i+1,b.out.1,rfl,b.out.2.1,b.out.2.2⟩
    case measure=>
     (try rw[z])
     exact Nat.sub_lt_sub_left b.out.1 (Nat.lt_succ_self i)
  ·have A:i=n:=by omega
   subst A;have r:decide (s∈l)=false:=decide_eq_false (λC=>by
    obtain⟨k,E,B⟩:=List.getElem_of_mem C;refine o k (by have:=H.out.2.1;omega) ?_;rw[Xc,Xe E];exact B)
   have b:=Aa c;clear q p c H o
   go_wp2_with fail
   go_ret
   exact⟨by rw[r]<;>rfl,b.out⟩
end Go.Proofs.YtdcacoifehkioaaGreatDoor
