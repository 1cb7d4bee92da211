import Derived.Test.YtdcacoifehkioaaGreatDoorExR22
import Derived.Shelf.Slices.Reverse
import Derived.Deep.LoopGhost
import Derived.Test.YtdcacoifehkioaaGreatDoorExR33
import Derived.Test.YtdcacoifehkioaaGreatDoorExR32
import Derived.Test.YtdcacoifehkioaaGreatDoorExR19
import Derived.Test.YtdcacoifehkioaaGreatDoorExR20
import Derived.Test.YtdcacoifehkioaaGreatDoorExR24
import Derived.BigQuiet
open Go renaming World->Xg,Value->Xj,Calls->X3,results->ZD,heap_setCell_same->Xk,heap_setCell_other->XC,run_takeDeferred->Zv,grownBy_putObj'->Zt,Addr->Y7,callsIn_wide->XT,undef->X1,bodyPost_ret->XN
open Go.RowKit renaming Below->Xn
open Array renaming getElem?_eq_some_iff->Xa
open Nat renaming le_refl->Xf,lt_of_lt_of_le->XF,le_trans->Xu,reduceAdd->Zb
open List renaming length_append->Xd,length->ZW,length_reverse->adO,getElem?_eq_getElem->Xc,getD_eq_getElem?_getD->Xb,mem_map->Yg,mem_range->adp,all_eq_true->Zi
open Go.Sort renaming putRow->adn,ahead->adE
open Go.RowKit.Below renaming refl->Xo
open Go.Value renaming slice->YN,int->YB
open Go.World renaming cell?->Xh,size_setCell->XG,alloc->Zj,alloc_heap_new->Xi
open Go.Instr renaming takeDeferred->adT
set_option maxRecDepth 100000
set_option maxHeartbeats 8000000
set_option linter.unusedVariables false
set_option linter.unusedSimpArgs false
namespace Go.Proofs
open Go.Shelf
shelf_lay Lays.n112 Nm 112 at Tryz as Tryz.lays112
end Go.Proofs
namespace Go.Proofs.YtdcacoifehkioaaGreatDoor
open Go.RowKit Go.Shelf Go.Proofs.Cod
inductive DJ (w:Xg):Nat->List Int->Prop where
 |nil {b:Nat} {mv mo nx:Xj} {sh:Tx} {g y:Int} {f:Bool}:AP w b mv sh g f mo (.pointer none) y nx->DJ w b []
 |snoc {b b':Nat} {mv mo nx:Xj} {sh:Tx} {g y:Int} {f:Bool} {l:List Int}:AP w b mv sh g f mo (Ab b') y nx->DJ w b' l->DJ w b (l++[y])
inductive Gs (p:PD):List Int->MS->Prop where
 |nil:Gs p [] (CL p)
 |snoc {l:List Int} {m:MS} {t:Int}:Gs p l m->AK p.C m t=0->Gs p (l++[t]) (AO false p.C m t).1
theorem DJ.kept {w w':Xg} {b:Nat} {l:List Int} (h:DJ w b l) (a:Xn w.heap.size w w'):DJ w' b l:=by
 induction h with
 |nil h=>exact .nil ((a.block _ (Xa.1 h).1).trans h)
 |snoc h _ c=>exact .snoc ((a.block _ (Xa.1 h).1).trans h) c
theorem FW.SE {w:Xg} {p:PD} {base f n i k:Nat} {R:List Ad} (h:FW w p base f n R i k):∀(j:Nat) (r:Ad),R[j]?=some r->∃l,DJ w r.b l/\Gs p l r.m/\l.length<=j:=by
 intro j
 induction j using Nat.strongRecOn with
 |ind j t=>
  intro r e;have a:=h.st j r e
  rcases h.way j r e with⟨rfl,c,d⟩|⟨q,r',u,g,c,d,o⟩
  ·refine⟨[],?_,?_,Xf _⟩
   ·rw[c] at a;exact .nil a
   ·rw[d];exact .nil
  ·obtain⟨l,s,v,x⟩:=t q u r' g;refine⟨l++[r.y],?_,?_,by rw[Xd];show l.length+1<=j;omega⟩
   ·rw[c] at a;exact .snoc a s
   ·rw[o];exact .snoc v d
theorem aaD {α:Type} [Inhabited α] (enc:α->Xj) (w:Xg) (n a b:Nat) (d:Array α) (x:Nat) (h:x≠a):(adn enc (adE w n) a b d).heap[x]?=w.heap[x]?:=by
 unfold adn Sort.mapBlock adE;simp[Array.getElem?_modify];intro e;exact absurd e.symm h
theorem TY {w:Xg} {b:Nat} {l:List Int} (h:DJ w b l) (v:l.length<1000000) :
 X3 Tryz.prog 46 #[Ab b] w λe w'=>∃a cap,e = .returned (.slice a l.length cap)/\Is w' a l/\Xn w.heap.size w w':=by
 have v:=Aa v;have I:=Aa h;unfold Ab;clear h
 go_enter Tryz.func46,Tryz.ntmps46
 go_wp2_with fail
 go_loopg [0,3] l.length (λk Y tv wr=>∃(c:Nat) (rest d:List Int),rest.length=k/\Y = .pointer (some ⟨c,0,none⟩)/\DJ w c rest/\rest++d.reverse=l/\wr.ownsRow w.heap.size 3 1 tv d.length (d.map EI)/\Xn w.heap.size w wr)
 case atStart=>exact⟨b,l,[],rfl,rfl,I.out,by simp,World.ownsRow_nil _ _ _ _,Xo _ _⟩
 case round=>
  obtain⟨c,rest,d,B,rfl,ae,o,p,m⟩:=hrel;have D:d.length<=l.length:=by
   have:=congrArg ZW o;rw[Xd,adO] at this
   omega
  cases ae with
  |nil q=>
   obtain⟨-,-,-,-,-,T,-⟩:=CT ((m.block _ (Xa.1 q).1).trans q);have o:d.reverse=l:=by simpa using o
   by_cases C:d.length=0
   ·obtain⟨z,A,s⟩:=At p;subst s;have t:=Any.slices_Reverse_int_empty Tryz.lays112 z A wr
    change X3 Tryz.prog 103 _ _ _ at t
    have Q:l.length=0:=by rw[<-o,adO];exact C
    have F:Hid (∃a cap,Ending.returned (YN z 0 A) = .returned (.slice a l.length cap)/\Is wr a l/\Xn w.heap.size w wr):=⟨z,A,by rw[Q],λi P=>by omega,m⟩;rw[C];clear q p m o B D C Q I
    go_wp2_with fail
    refine t.mono ?_;rintro e w' ⟨rfl,rfl⟩
    go_wp2_with fail
    go_ret
    exact F.out
   ·rcases id p.2 with⟨-,e⟩|⟨g,cap,ak,s,W,R,Z,-⟩
    ·omega
    ·subst s;have G:Sort.Holds (YB .i64) wr g 0 d.toArray:=λj hj=>by
      have U:j<d.length:=by simpa using hj
      refine⟨?_,p.frozenAt _⟩;rw[Nat.zero_add,p.cellAt j (by omega),List.getElem?_map,Xc U];simp[EI,U]
     have t:=Any.slices_Reverse_int Tryz.lays112 g 0 cap d wr G (by have:=v.out;omega)
     change X3 Tryz.prog 103 _ _ _ at t
     have F:Hid (∀n,∃a X,Ending.returned (YN (some ⟨g,0,none⟩) d.length cap) = .returned (.slice a l.length X)/\Is (adn (YB .i64) (adE wr n) g 0 d.reverse.toArray) a l/\Xn w.heap.size w (adn (YB .i64) (adE wr n) g 0 d.reverse.toArray)):=λn=>by
      have ad:d.length=l.length:=by rw[<-o,adO]
      have J:(adn (YB .i64) (adE wr n) g 0 d.reverse.toArray).heap.size=wr.heap.size:=by unfold adn Sort.mapBlock adE;simp
      have ab:Sort.Holds (YB .i64) (adn (YB .i64) (adE wr n) g 0 d.reverse.toArray) g 0 d.reverse.toArray:=Sort.holds_putRow _ _ _ _ d.toArray _ (Sort.holds_ahead _ _ _ _ _ _ G) (by simp);refine⟨some ⟨g,0,none⟩,cap,by rw[ad],λi P=>⟨g,0,rfl,by rw[J];exact(Xa.1 R).1,?_⟩,⟨m.os,m.tape,m.output,by rw[J];exact m.size,λx hx=>(aaD _ _ _ _ _ _ _ (by omega)).trans (m.block x hx)⟩⟩;have af:i<d.reverse.toArray.size:=by simp;omega
      rw[(ab i af).1,o];simp[Xb,P]
     clear q p m o B D C I W R Z G
     go_wp2_with fail
     refine t.mono ?_;rintro e w' ⟨rfl,n,rfl⟩
     go_wp2_with fail
     go_ret
     exact F.out n
  |snoc q K=>
   rename_i O mv mo nx sh g y f r;have H:=(Xa.1 q).1;obtain⟨-,-,-,-,-,T,c6,-⟩:=CT ((m.block _ H).trans q);obtain⟨gg,cap,w3,ai,N,M⟩:=QA p y (by have:=v.out;omega) m.size;obtain⟨z,A,s⟩:=At p;subst s;have E:=m.trans (M _ (Xf _));have S:=(E.block _ H).trans q;obtain⟨-,-,-,-,-,V,-⟩:=CT S;have u:Hid (r.length<gk/\DJ w O r/\r++(d++[y]).reverse=l/\w3.ownsRow w.heap.size 3 1 (.slice (some ⟨gg,0,none⟩) (d.length+1) cap) (d++[y]).length ((d++[y]).map EI)/\Xn w.heap.size w w3):=by
    refine⟨by rw[<-B,Xd];show r.length<r.length+1;omega,K,?_,N,E⟩;rw[<-o,List.reverse_append,List.append_assoc];rfl
   unfold Ab at T V;replace D:=Aa D;clear q K p m o B H N M E S
   go_wp2_with (at_builtin;refine Eq rfl _ _ _ rfl rfl rfl rfl ai ?_)
   go_roundg r.length
   case measure=>exact u.out.1
   case rel=>exact⟨O,r,d++[y],rfl,rfl,u.out.2.1,u.out.2.2.1,u.out.2.2.2.1,u.out.2.2.2.2⟩
attribute [local go_sem] Oper.semAt_some
theorem DJ.types {w w':Xg} {b:Nat} {l:List Int} (h:DJ w b l) (a:∀(x:Nat) (c:Array Xj),w.heap[x]?=some (Obj.cells c 75)->w'.heap[x]?=w.heap[x]?):DJ w' b l:=by
 induction h with
 |nil h=>exact .nil ((a _ _ h).trans h)
 |snoc h _ d=>exact .snoc ((a _ _ h).trans h) d
def Ek (p:PD) (o:Tx) (R:List Ad):Option Ad:=R.find? λr=>CQ p o r.m
theorem aa1 (p:PD) (o:Tx) (R:List Ad) (r:Ad):Ek p o (R++[r])=match Ek p o R with
 |some x=>some x
 |none=>if CQ p o r.m=true then some r else none:=by
 unfold Ek;rw[List.find?_append]
 cases h:R.find? λr=>CQ p o r.m with
 |some x=>rfl
 |none=>
  cases a:CQ p o r.m<;>simp[a]
structure SI (W0:Xg) (Z:Nat) (p:PD) (o:Tx) (pre:List XS) (O:AF) (W:Xg):Prop where
 all0:∀b,b<W0.heap.size->O b
 inside:∀b,O b->b<W.heap.size
 fixed:∀b,b<W0.heap.size->b≠Z+4->W.heap[b]?=W0.heap[b]?
 os:W.os=W0.os
 tape:W.tape=W0.tape
 output:W.output=W0.output
 size:W0.heap.size<=W.heap.size
 rep:∃R:List Ad,pre=R.map XS.st/\W.heap[Z+4]?=some (.cells #[CR ((Ek p o R).map Ad.b)] 69)
theorem SI.Hf {e:Xg} {Z:Nat} {p:PD} {o:Tx} (g:Z+4<e.heap.size):FK (SI e Z p o):=by
 intro m O W n h d l j i f;refine⟨h.all0,λb k=>XF (h.inside b k) d,λb a c=>(f b (h.all0 b a)).trans (h.fixed b a c),l.trans h.os,j.trans h.tape,i.trans h.output,Xu h.size d,?_⟩;obtain⟨R,a,c⟩:=h.rep
 exact⟨R,a,(f _ (h.all0 _ g)).trans c⟩
structure SX (W0:Xg) (Z:Nat) (p:PD) (most:Int) (O:AF) (W:Xg):Prop where
 all0:∀b,b<W0.heap.size->O b
 inside:∀b,O b->b<W.heap.size
 fixed:∀b,b<Z->W.heap[b]?=W0.heap[b]?
 os:W.os=W0.os
 tape:W.tape=W0.tape
 output:W.output=W0.output
 size:W0.heap.size<=W.heap.size
 rep:∃b:Bool,(if b then Ck most/\BS p most.toNat=none else ¬Ck most)/\W.heap[Z+2]?=some (.cells #[.pointer none] 69)/\W.heap[Z+3]?=some (.cells #[.int .i64 (DB b)] 35)
theorem SX.Hf {e:Xg} {Z:Nat} {p:PD} {most:Int} (m:Z+4<e.heap.size):FK (fun(_:List XS)=>SX e Z p most):=by
 intro n O W o h d k i f c;refine⟨h.all0,λb j=>XF (h.inside b j) d,λb a=>(c b (h.all0 b (by omega))).trans (h.fixed b a),k.trans h.os,i.trans h.tape,f.trans h.output,Xu h.size d,?_⟩;obtain⟨b,a,l,g⟩:=h.rep
 exact⟨b,a,(c _ (h.all0 _ (by omega))).trans l,(c _ (h.all0 _ (by omega))).trans g⟩
theorem Lu {w:Xg} {fn:Func} {tmps:Array Xj} {a b:Nat} {v e:Xj} (c:fn.results = #[.cell 6 69,.cell 7 35]) (j:tmps[6]?=some (.pointer (some ⟨a,0,none⟩))) (f:tmps[7]?=some (.pointer (some ⟨b,0,none⟩))) (h:w.heap[a]?=some (.cells #[v] 69)) (i:w.heap[b]?=some (.cells #[e] 35)):(ZD fn tmps).run Tryz.prog w = .ok (.tuple #[v,e]) w:=by
 have d:w.cell? ⟨a,0,none⟩=some v:=by simp[Xh,h]
 have g:w.cell? ⟨b,0,none⟩=some e:=by simp[Xh,i]
 simp[ZD,c,j,f,go_sem,d,g]
theorem Uo {p:PD} {most:Int} {l:List MS} (b:Ck most) (h:BS p most.toNat=some l):l.length<=20000:=by
 unfold BS at h;have e:=b.1;have f:=b.2;generalize d:most.toNat=k at h;have c:[CL p].length<=k:=by show 1<=k;omega
 generalize [CL p]=a at h c;have:=Kp k (k+1) a 0 c h
 omega
def KH (w':Xg) (p:PD) (most:Int) (o:Tx) (e:Ending):Prop:=
 (∃b:Bool,(if b then Ck most/\BS p most.toNat=none else ¬Ck most)/\e = .returned (.tuple #[.pointer none,.int .i64 (DB b)]))\/
 (Ck most/\∃l:List MS,BS p most.toNat=some l/\(((∀m,m∈l->CQ p o m=false)/\e = .returned (.tuple #[.pointer none,.int .i64 0]))\/
   ∃(c:Nat) (sl:List Int) (m:MS),e = .returned (.tuple #[Ab c,.int .i64 0])/\DJ w' c sl/\Gs p sl m/\m∈l/\CQ p o m=true/\sl.length<=20000))
theorem TW {w W:Xg} {Z:Nat} (o:W.heap[Z+2]?=some (.cells #[.pointer none] 69)) (l:W.heap[Z+3]?=some (.cells #[.int .i64 0] 35)) (k:W.heap[Z+7]?=some (.deferred (some []))) (E:w.heap.size=Z) (g:Xn w.heap.size w W) (v:Xj):∃f,(∃b,(W.setCell ⟨Z+2,0,none⟩ v).setCell ⟨Z+3,0,none⟩ (.int .i64 0)=b/\(adT (Z+7)).run Tryz.prog b = .ok [] f)/\f.heap[Z+2]?=some (.cells #[v] 69)/\f.heap[Z+3]?=some (.cells #[.int .i64 0] 35)/\Xn w.heap.size w f/\∀(x:Nat) (c:Array Xj),W.heap[x]?=some (Obj.cells c 75)->f.heap[x]?=W.heap[x]?:=by
 have H:Z+7<W.heap.size:=(Xa.1 k).1;have y:(W.setCell ⟨Z+2,0,none⟩ v).heap[Z+2]?=some (.cells #[v] 69):=(Xk W (Z+2) 0 _ _ _ o).trans rfl;have z:(W.setCell ⟨Z+2,0,none⟩ v).heap[Z+3]?=some (.cells #[.int .i64 0] 35):=(XC W ⟨Z+2,0,none⟩ (Z+3) _ (by show Z+3≠Z+2;omega)).trans l;obtain⟨b,h⟩:∃x,(W.setCell ⟨Z+2,0,none⟩ v).setCell ⟨Z+3,0,none⟩ (.int .i64 0)=x:=⟨_,rfl⟩;have B:b.heap[Z+2]?=some (.cells #[v] 69):=by rw[<-h];exact(XC _ ⟨Z+3,0,none⟩ (Z+2) _ (by show Z+2≠Z+3;omega)).trans y
 have r:b.heap[Z+3]?=some (.cells #[.int .i64 0] 35):=by rw[<-h];exact(Xk _ (Z+3) 0 _ _ _ z).trans rfl
 have j:∀x,x≠Z+2->x≠Z+3->b.heap[x]?=W.heap[x]?:=λx p A=>by rw[<-h];exact(XC _ ⟨Z+3,0,none⟩ x _ A).trans (XC W ⟨Z+2,0,none⟩ x _ p)
 have i:b.heap.size=W.heap.size/\b.os=W.os/\b.tape=W.tape/\b.output=W.output:=by rw[<-h];exact⟨by rw[XG,XG],rfl,rfl,rfl⟩
 have G:=i.1;have t:b.heap[Z+7]?=some (.deferred (some [])):=by
  exact(j _ (by omega) (by omega)).trans k
 have n:=Zv (P:=Tryz.prog) t;obtain⟨f,m⟩:∃x,b.putObj (Z+7) (.deferred none)=x:=⟨_,rfl⟩;rw[m] at n;have d:b.grownBy f (some (Z+7)):=by rw[<-m];exact Zt _ _ _
 have I:=d.size;have F:=g.size;refine⟨f,⟨b,h,n⟩,(d.block _ (by omega) (λe=>by injection e with e;omega)).trans B,(d.block _ (by omega) (λe=>by injection e with e;omega)).trans r,⟨d.os.trans (i.2.1.trans g.os),d.tape.trans (i.2.2.1.trans g.tape),d.output.trans (i.2.2.2.trans g.output),by omega,λx u=>(d.block x (by omega) (λe=>by injection e with e;omega)).trans ((j x (by omega) (by omega)).trans (g.block x u))⟩,λx c a=>?_⟩;have C:=(Xa.1 a).1;have s:x≠Z+2:=λe=>by
  rw[e,o] at a;injection a with a
  injection a with _ a
  exact absurd a (by decide)
 have q:x≠Z+3:=λe=>by
  rw[e,l] at a;injection a with a
  injection a with _ a
  exact absurd a (by decide)
 have D:x≠Z+7:=λe=>by rw[e,k] at a;cases a
 exact(d.block x (by omega) (λe=>by injection e with e;omega)).trans (j x s q)
theorem aaZ {p:PD} {o:Tx} {R:List Ad} (h:Ek p o R=none):∀m,m∈R.map Ad.m->CQ p o m=false:=λm a=>by
 unfold Ek at h;obtain⟨r,b,rfl⟩:=Yg.1 a;exact Ko.1 h r b
theorem aa0 {α:Type} {q:α->Bool} {l:List α} {a:α} (h:l.find? q=some a):q a=true/\a∈l:=⟨List.find?_some h,List.mem_of_find?_eq_some h⟩
theorem aaY {W:Xg} {p:PD} {o:Tx} {base g n i k:Nat} {R:List Ad} {q:Ad} (f:FW W p base g n R i k) (w:R.length<=20000) (h:Ek p o R=some q):CQ p o q.m=true/\q.m∈R.map Ad.m/\∃a,DJ W q.b a/\Gs p a q.m/\a.length<=20000:=by
 unfold Ek at h;obtain⟨c,d⟩:=aa0 h;have c:CQ p o q.m=true:=c;obtain⟨j,e⟩:=List.mem_iff_getElem?.1 d;obtain⟨a,v,l,s⟩:=f.SE j q e;have t:=(List.getElem?_eq_some_iff.1 e).1;have u:a.length<=20000:=Xu s (Xu (Nat.le_of_lt t) w);have r:q.m∈R.map Ad.m:=List.mem_map_of_mem d
 exact⟨c,r,a,v,l,u⟩
theorem TX {w:Xg} {Z0 bZ J Q nl Y vc fc lc tc Bp Bo:Nat} {va fa la ta:Option Y7} {vs fs ls:List Tx} {L:List (Tx×Xj)} {C:List (List Ac)} {most:Int} {B G:Y7} {o:Tx} (au : -9223372036854775808<=most/\most<=9223372036854775807)
 (hx:XW w Z0 B G) (ax:Z0<=w.heap.size) (V:Bz w bZ (.slice va J vc) (.slice fa Q fc) (.slice la nl lc) (.slice ta Y tc) vs fs ls L C) (hb:Gu vs fs ls L C) (hf:BL (Al vs fs ls L C)) (hN:DK (Al vs fs ls L C)) (af:Gt (Al vs fs ls L C)) (ag:∀m,Bt (Al vs fs ls L C) m->(Aj (Al vs fs ls L C) m).length<4294967000)
 (H:w.heap[Bp]?=some (.cells #[.slice va J vc,.slice fa Q fc,.slice la nl lc,.slice ta Y tc] 25)) (I:w.heap[Bo]?=some (.cells #[.string (bs o)] 9)) :
 X3 Tryz.prog 44 #[.agg #[.slice va J vc,.slice fa Q fc,.slice la nl lc,.slice ta Y tc],.int .i64 most,.func (.func 45) #[] #[.pointer (some ⟨Bp,0,none⟩),.pointer (some ⟨Bo,0,none⟩)]] w λe w'=>KH w' (Al vs fs ls L C) most o e/\Xn w.heap.size w w':=by
 obtain⟨p,E⟩:∃x,Al vs fs ls L C=x:=⟨_,rfl⟩;refine(XT (n:=8)).1 ?_;refine callsIn_of_wp_marks Tryz.func44 rfl trivial ?_ rfl;simp only[Tryz.ntmps44,List.size_toArray,List.length_cons,List.length_nil,Zb,Nat.reduceSub,Array.replicate_succ,Array.replicate_zero,List.push_toArray,List.append_toArray,List.nil_append,List.cons_append];have HP:=Aa (⟨au,hx,ax,V,hb,hf,hN,af,ag,H,I⟩:_/\_/\_/\_/\_/\_/\_/\_/\_/\_/\_);clear au hx ax V hb hf hN af ag H I
 gi_wp2_with (refine⟨trivial,?_⟩;gi_at_call 23;refine(NM _ _ _ _ _ _ _).mono ?_;rintro e w' ⟨rfl,rfl⟩)
 obtain⟨au,hx,ax,V,hb,hf,hN,af,ag,H,I⟩:=HP.out;have a5:J=vs.length/\Q=fs.length:=by
  obtain⟨x,y,e⟩:=At V.v;injection e with _ e _
  obtain⟨x2,y2,e2⟩:=At V.f;injection e2 with _ e2 _
  exact⟨e,e2⟩
 replace a5:=Aa a5;obtain⟨j,ad⟩:∃j,([.cells #[.slice va J vc,.slice fa Q fc,.slice la nl lc,.slice ta Y tc] 25,.cells #[.func (.func 45) #[] #[.pointer (some ⟨Bp,0,none⟩),.pointer (some ⟨Bo,0,none⟩)]] 134,.cells #[.pointer none] 69,.cells #[.int .i64 0] 35,.cells #[.pointer none] 69,.cells #[.slice va J vc,.slice fa Q fc,.slice la nl lc,.slice ta Y tc] 25,.cells #[.int .i64 most] 3]:List Obj).foldl Zj w=j:=⟨_,rfl⟩
 change Code.wpIn _ _ _ _ _ _ (([.cells #[.slice va J vc,.slice fa Q fc,.slice la nl lc,.slice ta Y tc] 25,.cells #[.func (.func 45) #[] #[.pointer (some ⟨Bp,0,none⟩),.pointer (some ⟨Bo,0,none⟩)]] 134,.cells #[.pointer none] 69,.cells #[.int .i64 0] 35,.cells #[.pointer none] 69,.cells #[.slice va J vc,.slice fa Q fc,.slice la nl lc,.slice ta Y tc] 25,.cells #[.int .i64 most] 3]:List Obj).foldl Zj w)
 rw[ad];obtain⟨Z,u⟩:∃Z,w.heap.size=Z:=⟨_,rfl⟩;have k0:j.heap[Z]?=some (.cells #[.slice va J vc,.slice fa Q fc,.slice la nl lc,.slice ta Y tc] 25):=CW ad u (i:=0) rfl;have k1:j.heap[Z+1]?=some (.cells #[.func (.func 45) #[] #[.pointer (some ⟨Bp,0,none⟩),.pointer (some ⟨Bo,0,none⟩)]] 134):=CW ad u (i:=1) rfl;have k2:j.heap[Z+2]?=some (.cells #[.pointer none] 69):=CW ad u (i:=2) rfl;have k3:j.heap[Z+3]?=some (.cells #[.int .i64 0] 35):=CW ad u (i:=3) rfl;have k4:j.heap[Z+4]?=some (.cells #[.pointer none] 69):=CW ad u (i:=4) rfl;have k5:j.heap[Z+5]?=some (.cells #[.slice va J vc,.slice fa Q fc,.slice la nl lc,.slice ta Y tc] 25):=CW ad u (i:=5) rfl;have k6:j.heap[Z+6]?=some (.cells #[.int .i64 most] 3):=CW ad u (i:=6) rfl;obtain⟨k,bN⟩:=MT ad;have aw:j.heap.size=Z+7:=by rw[bN,u];rfl
 clear bN;rw[u];simp only[Nat.add_assoc,Zb];clear ad;have ac:XW j Z0 B G:=hx.same λx S=>k.block x (by omega);have aJ:=NL (w:=j) (Z:=Z0) (Bp:=Z+5) (Bm:=Z+6) (eV:=Ce B G) au ac.t ⟨ac.g.1,ac.g.2.1⟩ (by omega) ac.c (V.below k) hb hf hN k5 k6;refine Ni rfl (by decide) (gf:=53) (lb := #[.pointer (some ⟨Z+6,0,none⟩),.pointer (some ⟨Z+5,0,none⟩)]) rfl trivial (enters_of Tryz.func53 (by kernel_rfl) rfl)
  (Ia.any _ aJ) (Xo _ _) (λx=>by cases x<;>rfl) NP NQ NN NO
  (SI j Z p o) (λc _ O W=>c = .ret/\SX j Z p most O W)
  (SI.Hf (by omega)) (λc M O W W' h s D h3 h4 h5=>⟨h.1,SX.Hf (by omega) M O W W' h.2 s D h3 h4 h5⟩)
  (λM O W h=>h.inside) (λc M O W h=>h.2.inside)
  (λM O W h b' T=>by
    rcases T with T|rfl|rfl
    ·exact⟨h.all0 b' (by omega),h.fixed b' (by omega) (by omega)⟩
    ·exact⟨h.all0 _ (by omega),h.fixed _ (by omega) (by omega)⟩
    ·exact⟨h.all0 _ (by omega),h.fixed _ (by omega) (by omega)⟩)
  (λb' T=>by rcases T with T|rfl|rfl<;>omega)
  ⟨λb' T=>T,λb' T=>T,λb' _ _=>rfl,rfl,rfl,rfl,Xf _,[],rfl,k4⟩
  (λ_ x a' O W=>a'={tmps := #[.agg #[.slice va J vc,.slice fa Q fc,.slice la nl lc,.slice ta Y tc],.int .i64 most,.func (.func 45) #[] #[.pointer (some ⟨Bp,0,none⟩),.pointer (some ⟨Bo,0,none⟩)],.pointer (some ⟨Z,0,none⟩),X1,.pointer (some ⟨Z+1,0,none⟩),.pointer (some ⟨Z+2,0,none⟩),.pointer (some ⟨Z+3,0,none⟩),.pointer (some ⟨Z+4,0,none⟩),(Ca (Ce B G) x).getD 0 X1,(Ca (Ce B G) x).getD 1 X1,.agg #[.slice va J vc,.slice fa Q fc,.slice la nl lc,.slice ta Y tc],.int .i64 most,.func (.func 53) #[] #[.pointer (some ⟨Z+6,0,none⟩),.pointer (some ⟨Z+5,0,none⟩)],(Ca (Ce B G) x).getD 0 X1,(Ca (Ce B G) x).getD 1 X1,X1,X1,X1,X1,X1,X1,X1,X1,X1,X1,X1,X1,X1],defers:=[]})
  (λ_ x a' _ O W W' h _ _ _ _ _=>h) ?assign ?body ?done ?stop
 case assign=>
  intro l' M x O W K d hE hK
  cases x with
  |st r=>
   unfold Ca;dsimp only
   gi_wp2
   exact hK _ O _ (Steps.refl O W) d rfl
  |er b=>
   unfold Ca;dsimp only
   gi_wp2
   exact hK _ O _ (Steps.refl O W) d rfl
 case body=>
  rintro l' M x a' O W ⟨rr,bb⟩ ca d hE rfl;have aQ:XW W Z0 B G:=ac.same λx S=>d.fixed x (by omega) (by omega);have a9:=d.size
  cases x with
  |er b=>
   have bf:=(d.fixed (Z+2) (by omega) (by omega)).trans k2;have bn:=(d.fixed (Z+3) (by omega) (by omega)).trans k3;have a6:=Pm aQ.e aQ.c b;obtain⟨c0,cz⟩:=DP bf;obtain⟨d0,dz⟩:=DP bn;obtain⟨W1,ay⟩:∃x,(W.setCell ⟨Z+2,0,none⟩ (.pointer none)).setCell ⟨Z+3,0,none⟩ (.int .i64 (DB b))=x:=⟨_,rfl⟩;have F:Hv (SI j Z p o) (λc _ O W=>c = .ret/\SX j Z p most O W) (M++[.er b]) O W .ret {tmps := #[],defers:=[]} W1:=by
    have e2:(W.setCell ⟨Z+2,0,none⟩ (.pointer none)).heap[Z+2]?=some (.cells #[.pointer none] 69):=(Xk W (Z+2) 0 _ _ _ bf).trans rfl;have e3:(W.setCell ⟨Z+2,0,none⟩ (.pointer none)).heap[Z+3]?=some (.cells #[.int .i64 0] 35):=(XC W ⟨Z+2,0,none⟩ (Z+3) _ (by show Z+3≠Z+2;omega)).trans bn;have f2:W1.heap[Z+2]?=some (.cells #[.pointer none] 69):=by rw[<-ay];exact(XC _ ⟨Z+3,0,none⟩ (Z+2) _ (by show Z+2≠Z+3;omega)).trans e2
    have f3:W1.heap[Z+3]?=some (.cells #[.int .i64 (DB b)] 35):=by rw[<-ay];exact(Xk _ (Z+3) 0 _ _ _ e3).trans rfl
    have bB:∀x,x≠Z+2->x≠Z+3->W1.heap[x]?=W.heap[x]?:=λx s D=>by rw[<-ay];exact(XC _ ⟨Z+3,0,none⟩ x _ D).trans (XC W ⟨Z+2,0,none⟩ x _ s)
    have hz:W1.heap.size=W.heap.size/\W1.os=W.os/\W1.tape=W.tape/\W1.output=W.output:=by rw[<-ay];exact⟨by rw[XG,XG],rfl,rfl,rfl⟩
    refine⟨O,⟨hz.2.1,hz.2.2.1,hz.2.2.2,by rw[hz.1];exact Xf _,λ_ h=>h,λ_ h=>.inl h,λx S hn=>bB x (λe=>hn (by rw[e];exact d.all0 _ (by omega))) (λe=>hn (by rw[e];exact d.all0 _ (by omega)))⟩,rfl,d.all0,λx S=>by rw[hz.1];exact d.inside x S,λx S=>(bB x (by omega) (by omega)).trans (d.fixed x (by omega) (by omega)),hz.2.1.trans d.os,hz.2.2.1.trans d.tape,hz.2.2.2.trans d.output,by rw[hz.1];exact d.size,b,?_,f2,f3⟩
    cases b with
    |false=>exact hE
    |true=>rw[if_pos rfl,<-E];exact hE
   replace a6:=Aa a6;replace F:=Aa F;replace ay:=Aa ay;obtain⟨ea,bz⟩:∃x,Ce B G b = .iface 346 (.pointer (some x)):=⟨_,rfl⟩;rw[bz] at a6;rw[show (Ca (Ce B G) (XS.er b)).getD 0 X1 = .pointer none from rfl,show (Ca (Ce B G) (XS.er b)).getD 1 X1 = .iface 346 (.pointer (some ea)) from bz];clear hx ac aQ d hE V hb hf hN af ag au k0 k1 k2 k3 k4 k5 k6 k aJ aw HP bf bn bz a9 u ax H I bb
   gi_wp2_with (refine⟨trivial,?_⟩;gi_at_call 24;refine(CallsIn.inRound l' (XT.2 a6.out)).mono ?_;rintro e w' ⟨rfl,rfl⟩)
   rw[ay.out];exact F.out
  |st r=>
   obtain⟨bG,hS⟩:=hE;rw[E] at hS;obtain⟨R,az,U⟩:=d.rep;obtain⟨nx,bq⟩:=hS.st;obtain⟨cb,bg⟩:=hS.mo;obtain⟨mx,bd⟩:=aQ.m;have bu:W.heap[Bp]?=_:=(d.fixed Bp (by have:=(Xa.1 H).1;omega) (by have:=(Xa.1 H).1;omega)).trans ((k.block Bp (Xa.1 H).1).trans H);have be:W.heap[Bo]?=_:=(d.fixed Bo (by have:=(Xa.1 I).1;omega) (by have:=(Xa.1 I).1;omega)).trans ((k.block Bo (Xa.1 I).1).trans I);have aC:=SF (o:=o) bq bg (by rw[<-E];exact af) hS.ok (by rw[<-E];exact hf) (by rw[<-E];exact ag r.m (by rw[E];exact hS.ok)) bd (by rw[a5.out.1,<-E];rfl) (by rw[a5.out.2,<-E];rfl) bu be ⟨_,_,_,rfl⟩ ⟨_,_,_,rfl⟩;have aT:Hid (∀wr:Xg,(∀x,x<W.heap.size->x≠Z+4->wr.heap[x]?=W.heap[x]?)->W.heap.size<=wr.heap.size->wr.os=W.os->wr.tape=W.tape->wr.output=W.output->wr.heap[Z+4]?=some (.cells #[CR ((Ek p o (R++[r])).map Ad.b)] 69)->Hv (SI j Z p o) (λc _ O W=>c = .ret/\SX j Z p most O W) (M++[.st r]) O W .normal {tmps := #[],defers:=[]} wr):=λwr s D h3 h4 h5 h6=>by
    refine⟨λb=>O b\/(W.heap.size<=b/\b<wr.heap.size),⟨h3,h4,h5,D,λ_ h=>.inl h,λ_ h=>h.imp id And.left,λx bi hn=>s x bi (λe=>hn (by rw[e];exact d.all0 _ (by omega)))⟩,λx S=>.inl (d.all0 x S),λx S=>S.elim (λz=>XF (d.inside x z) D) And.right,λx bi hn=>(s x (by omega) hn).trans (d.fixed x bi hn),h3.trans d.os,h4.trans d.tape,h5.trans d.output,by omega,R++[r],?_,h6⟩;rw[az,List.map_append];rfl
   obtain⟨l,cz⟩:=DP U;obtain⟨c1,-⟩:=DP ((d.fixed (Z+1) (by omega) (by omega)).trans k1);have ao:=aa1 p o R r;have a3:Z+4<W.heap.size:=by omega
   rw[show (Ca (Ce B G) (XS.st r)).getD 0 X1 = .pointer (some ⟨r.b,0,none⟩) from rfl,show (Ca (Ce B G) (XS.st r)).getD 1 X1 = .nilIface from rfl]
   cases X:Ek p o R with
   |some q=>
    rw[X] at l ao U;have F:=Aa (aT.out W (λ_ _ _=>rfl) (Xf _) rfl rfl rfl (by rw[ao];exact U));replace l:W.cell? ⟨Z+4,0,none⟩=some (.pointer (some ⟨q.b,0,none⟩)):=l;clear hx ac aQ d hS V hb hf hN af ag au k0 k1 k2 k3 k4 k5 k6 k aJ aw HP a9 u ax H I bb az U bq bg bd bu be aC aT ao a3 X bG
    gi_wp2_with fail
    refine⟨(λf h=>by cases h),?_⟩
    gi_wp2_with fail
    exact F.out
   |none=>
    rw[X] at l ao U;replace l:W.cell? ⟨Z+4,0,none⟩=some (.pointer none):=l;dsimp only at ao;obtain⟨wt,bD⟩:∃x,CQ p o r.m=x:=⟨_,rfl⟩;rw[bD] at aC ao;have F:Hid (∀N,Xn W.heap.size W N->(N.cell? ⟨Z+4,0,none⟩=some (.pointer none)/\N.frozen? ⟨Z+4,0,none⟩=false)/\(wt=false->Hv (SI j Z p o) (λc _ O W=>c = .ret/\SX j Z p most O W) (M++[.st r]) O W .normal {tmps := #[],defers:=[]} N)/\(wt=true->Hv (SI j Z p o) (λc _ O W=>c = .ret/\SX j Z p most O W) (M++[.st r]) O W .normal {tmps := #[],defers:=[]} (N.setCell ⟨Z+4,0,none⟩ (.pointer (some ⟨r.b,0,none⟩))))):=λN A=>by
     have h4:N.heap[Z+4]?=_:=(A.block _ a3).trans U;refine⟨⟨(A.cell (p:=⟨Z+4,0,none⟩) a3).trans l,by simp[World.frozen?,h4]⟩,λz=>?_,λz=>?_⟩
     ·refine aT.out N (λx s _=>A.block x s) A.size A.os A.tape A.output ?_;rw[ao,z];exact h4
     ·refine aT.out _ (λx s D=>(XC N ⟨Z+4,0,none⟩ x _ D).trans (A.block x s)) (by rw[XG];exact A.size) A.os A.tape A.output ?_;rw[ao,z]
      exact(Xk N (Z+4) 0 _ _ _ h4).trans rfl
    replace aC:=Aa aC;unfold Ab at aC;clear hx ac aQ d hS V hb hf hN af ag au k0 k1 k2 k3 k4 k5 k6 k aJ aw HP a9 u ax H I bb az U bq bg bd bu be aT ao a3 X bG bD
    gi_wp2_with fail
    refine⟨trivial,(CallsIn.inRound l' (XT.2 aC.out)).mono ?_⟩;rintro e N ⟨rfl,A⟩;obtain⟨⟨g4,gz⟩,f1,f2⟩:=F.out N A;clear aC F A l cz
    cases wt with
    |false=>
     have HN:=Aa (f1 rfl);clear f1 f2
     gi_wp2_with fail
     exact HN.out
    |true=>
     have HN:=Aa (f2 rfl);clear f1 f2
     gi_wp2_with fail
     exact HN.out
 case done=>
  rintro xs O W b1 d bk hK;have bw:j.heap.size<W.heap.size:=(Xa.1 hK).1
  rcases b1 with⟨M,e,rfl⟩|⟨hr,base,fb,kb,R',bA,a0,bT,aP⟩
  ·obtain⟨R,h,-⟩:=d.rep;have:XS.er e∈R.map XS.st:=by rw[<-h];simp
   obtain⟨q,-,hq⟩:=Yg.1 this
   cases hq
  ·obtain⟨R,az,U⟩:=d.rep;have bR:R=R':=by
    have h:R.map XS.st=R'.map XS.st:=az.symm.trans bA;have bY:∀(a b:List Ad),a.map XS.st=b.map XS.st->a=b:=by
     intro a
     induction a with
     |nil=>intro b h;cases b with
      |nil=>rfl
      |cons y b=>cases h
     |cons x a ih=>intro b h;cases b with
      |nil=>cases h
      |cons y b=>
       injection h with s D
       injection s with s
       rw[s,ih b D]
    exact bY R R' h
   subst bR;rw[E] at a0 aP;have bl:R.length<=20000:=by
    have D:=Uo hr aP;rw[List.length_map] at D;exact D
   clear au bT;have i2:=(d.fixed (Z+2) (by omega) (by omega)).trans k2;have i3:=(d.fixed (Z+3) (by omega) (by omega)).trans k3;have bt:Xn w.heap.size w W:=⟨d.os.trans k.os,d.tape.trans k.tape,d.output.trans k.output,Xu k.size d.size,λb' T=>(d.fixed b' (by omega) (by omega)).trans (k.block b' T)⟩;obtain⟨l,-⟩:=DP U;obtain⟨c2,z2⟩:=DP i2;obtain⟨c3,z3⟩:=DP i3;have a8:=TW i2 i3 (by rw[<-aw];exact hK) u bt;have bv:=fun(h:Ek p o R=none)=>aaZ h;have bc:=fun(q:Ad) (h:Ek p o R=some q)=>aaY a0 bl h
   cases X:Ek p o R with
   |none=>
    rw[X] at l;replace l:W.cell? ⟨Z+4,0,none⟩=some (.pointer none):=l;obtain⟨W9,⟨W8,am,hT⟩,g2,g3,aS,-⟩:=a8 (.pointer none);have F:Hid (KH W9 (Al vs fs ls L C) most o (.returned (.tuple #[.pointer none,.int .i64 0]))/\Xn w.heap.size w W9):=⟨.inr ⟨hr,R.map Ad.m,by rw[E];exact aP,.inl ⟨by rw[E];exact bv X,rfl⟩⟩,aS⟩;replace am:=Aa am;replace hT:=Aa hT;replace g2:=Aa g2;replace g3:=Aa g3;clear hx ac d V hb hf hN af ag k0 k1 k2 k3 k4 k5 k6 k aJ HP u ax H I az U hK bw bA a0 aP bl i2 i3 bt a8 bv bc X aS hr bk
    gi_upto_region 9 with fail
    gi_cut [] from 14 (λwc=>wc=W8)
    case first=>
     clear aw
     gi_wp2_with fail
     gi_meet
     case rel=>exact am.out
    case rest=>
     rw[hcut];clear hcut am c2 c3 l z2 z3
     gi_wp2_with fail
     have bm:(adT j.heap.size).run Tryz.prog W8 = .ok [] W9:=by rw[aw];exact hT.out
     refine⟨by simp,.inl ⟨_,W9,rfl,bm,?_⟩⟩
     exact⟨_,Lu rfl rfl rfl g2.out g3.out,F.out⟩
   |some q=>
    rw[X] at l;replace l:W.cell? ⟨Z+4,0,none⟩=some (.pointer (some ⟨q.b,0,none⟩)):=l;obtain⟨W9,⟨W8,am,hT⟩,g2,g3,aS,bH⟩:=a8 (.pointer (some ⟨q.b,0,none⟩));obtain⟨y1,y2,sl,y3,y4,y5⟩:=bc q X;have F:Hid (KH W9 (Al vs fs ls L C) most o (.returned (.tuple #[.pointer (some ⟨q.b,0,none⟩),.int .i64 0]))/\Xn w.heap.size w W9):=⟨.inr ⟨hr,R.map Ad.m,by rw[E];exact aP,.inr ⟨q.b,sl,q.m,rfl,y3.types bH,by rw[E];exact y4,y2,by rw[E];exact y1,y5⟩⟩,aS⟩;replace am:=Aa am;replace hT:=Aa hT;replace g2:=Aa g2;replace g3:=Aa g3;clear hx ac d V hb hf hN af ag k0 k1 k2 k3 k4 k5 k6 k aJ HP u ax H I az U hK bw bA a0 aP bl i2 i3 bt a8 bv bc X aS hr bk bH y1 y2 y3 y4 y5
    gi_upto_region 9 with fail
    gi_cut [] from 14 (λwc=>wc=W8)
    case first=>
     clear aw
     gi_wp2_with fail
     gi_meet
     case rel=>exact am.out
    case rest=>
     rw[hcut];clear hcut am c2 c3 l z2 z3
     gi_wp2_with fail
     have bm:(adT j.heap.size).run Tryz.prog W8 = .ok [] W9:=by rw[aw];exact hT.out
     refine⟨by simp,.inl ⟨_,W9,rfl,bm,?_⟩⟩
     exact⟨_,Lu rfl rfl rfl g2.out g3.out,F.out⟩
 case stop=>
  rintro c M O W _ ⟨rfl,hX⟩ bk hK;obtain⟨b,bV,s,D⟩:=hX.rep;have bw:j.heap.size<W.heap.size:=(Xa.1 hK).1;have hT:=Zv (P:=Tryz.prog) hK;obtain⟨W',bI⟩:∃x,W.putObj j.heap.size (.deferred none)=x:=⟨_,rfl⟩;rw[bI] at hT;have hg:W.grownBy W' (some j.heap.size):=by rw[<-bI];exact Zt _ _ _
  have ce:=hX.size;have e1:W'.heap[Z+2]?=_:=(hg.block _ (by omega) (λe=>by injection e with e;omega)).trans s;have e2:W'.heap[Z+3]?=_:=(hg.block _ (by omega) (λe=>by injection e with e;omega)).trans D;have F:Hid (KH W' (Al vs fs ls L C) most o (.returned (.tuple #[.pointer none,.int .i64 (DB b)]))/\Xn w.heap.size w W'):=by
   refine⟨.inl ⟨b,by rw[E];exact bV,rfl⟩,⟨hg.os.trans (hX.os.trans k.os),hg.tape.trans (hX.tape.trans k.tape),hg.output.trans (hX.output.trans k.output),by have:=hg.size;omega,λx S=>(hg.block x (by omega) (λe=>by injection e with e;omega)).trans ((hX.fixed x (by omega)).trans (k.block x S))⟩⟩
  gi_wp2_with fail
  refine⟨by simp,.inl ⟨_,_,rfl,hT,?_⟩⟩
  exact⟨_,Lu rfl rfl rfl e1 e2,F.out⟩
def Jp (w':Xg) (p:PD) (most:Int) (o:Tx) (e:Ending):Prop:=
 (∃b:Bool,(if b then Ck most/\BS p most.toNat=none else ¬Ck most)/\e = .returned (.tuple #[.slice none 0 0,.bool false,.int .i64 (DB b)]))\/
 (Ck most/\∃l:List MS,BS p most.toNat=some l/\(((∀m,m∈l->CQ p o m=false)/\e = .returned (.tuple #[.slice none 0 0,.bool false,.int .i64 0]))\/
   ∃(a:Option Y7) (cap:Nat) (sl:List Int) (m:MS),e = .returned (.tuple #[.slice a sl.length cap,.bool true,.int .i64 0])/\Is w' a sl/\Gs p sl m/\m∈l/\CQ p o m=true/\sl.length<=20000))
theorem results_tmp3 {fn:Func} {a b c:Tmp} (h:fn.results = #[.tmp a,.tmp b,.tmp c]) (tmps:Array Xj) (P:Program) (w:Xg):(ZD fn tmps).run P w = .ok (.tuple #[tmps.getD a X1,tmps.getD b X1,tmps.getD c X1]) w:=by
 simp[ZD,h,Sem.run_bind,Result.andThen]
theorem UA {w:Xg} {Z0 ad A v nl s vc fc lc tc:Nat} {va fa la ta:Option Y7} {vs fs ls:List Tx} {L:List (Tx×Xj)} {C:List (List Ac)} {most:Int} {er em:Y7} (o:Tx) (J : -9223372036854775808<=most/\most<=9223372036854775807)
 (V:XW w Z0 er em) (M:Z0<=w.heap.size) (T:Bz w ad (.slice va A vc) (.slice fa v fc) (.slice la nl lc) (.slice ta s tc) vs fs ls L C) (Y:Gu vs fs ls L C) (Q:BL (Al vs fs ls L C)) (F:DK (Al vs fs ls L C)) (N:Gt (Al vs fs ls L C)) (R:∀m,Bt (Al vs fs ls L C) m->(Aj (Al vs fs ls L C) m).length<4294967000) :
 X3 Tryz.prog 18 #[.agg #[.slice va A vc,.slice fa v fc,.slice la nl lc,.slice ta s tc],.string (bs o),.int .i64 most] w λe w'=>Jp w' (Al vs fs ls L C) most o e/\Xn w.heap.size w w':=by
 obtain⟨W,k⟩:∃W,(w.alloc (.cells #[.slice va A vc,.slice fa v fc,.slice la nl lc,.slice ta s tc] 25)).alloc (.cells #[.string (bs o)] 9)=W:=⟨_,rfl⟩;have r:([.cells #[.slice va A vc,.slice fa v fc,.slice la nl lc,.slice ta s tc] 25,.cells #[.string (bs o)] 9]:List Obj).foldl Zj w=W:=k;obtain⟨g,hz⟩:=MT r;obtain⟨Z,h⟩:∃x,w.heap.size=x:=⟨_,rfl⟩;have D:W.heap[Z]?=_:=CW r h (i:=0) rfl;have G:W.heap[Z+1]?=_:=CW r h (i:=1) rfl;have j:=TX (o:=o) (Bp:=Z) (Bo:=Z+1) J (V.same λx am=>g.block x (by omega)) (Xu M g.size) (T.below g) Y Q F N R D G;obtain⟨p0,p1,p2,p3⟩:=Df D;generalize Al vs fs ls L C=p at j |-;replace j:=Aa j;replace k:=Aa k;have P:=Aa g;replace h:=Aa h;clear J V M T Y Q F N R D G g hz r
 go_enter Tryz.func18,Tryz.ntmps18
 go_upto_region 1 with fail
 rw[k.out,h.out];clear k
 go_wp2_with fail
 refine j.out.mono ?_;rintro e w1 ⟨hR,E⟩;clear j p0 p1 p2 p3;have y:=Aa (P.out.trans (E.mono P.out.size));replace E:=Aa E
 rcases hR with⟨b,H,rfl⟩|⟨d,l,f,⟨S,rfl⟩|⟨c,sl,m,rfl,U,z,u,q,t⟩⟩
 ·have n:Hid (Jp w1 p most o (.returned (.tuple #[.slice none 0 0,.bool false,.int .i64 (DB b)]))/\Xn w.heap.size w w1):=⟨.inl ⟨b,H,rfl⟩,y.out⟩;clear H
  go_wp2_with fail
  refine XN (results_tmp3 rfl _ _ _) rfl ?_;exact n.out
 ·have n:Hid (Jp w1 p most o (.returned (.tuple #[.slice none 0 0,.bool false,.int .i64 0]))/\Xn w.heap.size w w1):=⟨.inr ⟨d,l,f,.inl ⟨S,rfl⟩⟩,y.out⟩;clear d f S
  go_wp2_with fail
  refine XN (results_tmp3 rfl _ _ _) rfl ?_;exact n.out
 ·have B:=Aa (TY U (by omega));have O:=Aa (⟨d,f,z,u,q,t⟩:_/\_/\_/\_/\_/\_);unfold Ab at B |-;clear d f z u q t U
  go_wp2_with fail
  refine B.out.mono ?_;rintro e K ⟨a,cap,rfl,X,I⟩;have n:Hid (Jp K p most o (.returned (.tuple #[.slice a sl.length cap,.bool true,.int .i64 0]))/\Xn w.heap.size w K):=by
   obtain⟨d,f,z,u,q,t⟩:=O.out
   exact⟨.inr ⟨d,l,f,.inr ⟨a,cap,sl,m,rfl,X,z,u,q,t⟩⟩,y.out.trans (I.mono y.out.size)⟩
  clear B O X I
  go_wp2_with fail
  refine XN (results_tmp3 rfl _ _ _) rfl ?_;exact n.out
def Jm:Tx:=[118,97,114,32,120,10,116,104,114,101,97,100,32,97,10,115,112,97,119,110,32,98,10,115,116,111,114,101,32,120,32,49,10,116,104,114,101,97,100,32,98,10,115,116,111,114,101,32,120,32,50]
def Jn:PS:=match Bk Jm with | .ok p=>p.1 | .error _=>PS.new
def Jo:List (List Ac):=match Bk Jm with | .ok p=>p.2 | .error _=>[]
theorem KF:Bk Jm = .ok (Jn,Jo):=by kernel_rfl
theorem acL:Jn.nms 118=[[120]]/\Jn.nms 102=[]/\Jn.nms 109=[]/\Jn.nms 116=[[97],[98]]:=⟨by kernel_rfl,by kernel_rfl,by kernel_rfl,by kernel_rfl⟩
def Cv:PD:=⟨[[120]],[],[],[[97],[98]],Jo⟩
def DV:List MS:=match BS Cv 1000 with|some l=>l|none=>[]
def Jl:Tx:=[120,61,49]
theorem KE:BS Cv 1000=some DV:=by kernel_rfl
theorem acK:Hw Cv DV=[[120,61,49],[120,61,50]]:=by kernel_rfl
theorem acJ:Gj Cv DV 1=[0]:=by kernel_rfl
theorem RX:EU Cv.C DV=false/\Gd DV=false:=⟨by kernel_rfl,by kernel_rfl⟩
theorem acI:DV.any (λm=>CQ Cv Jl m)=true:=by kernel_rfl
def Ip:Nat->List MS
 |0=>[CL Cv]
 |n+1=>(Ip n).flatMap (Dl false Cv.C)
theorem aca {C:List (List Ac)} {m:MS} {t:Int} (h:AK C m t=0):t∈Bj C m:=by
 unfold Bj Dx;have c:¬(t<0\/(m.thr.length:Int)<=t\/(m.th t.toNat).ph=0):=by
  intro e;unfold AK at h;rw[if_pos e] at h;exact absurd h (by decide)
 have a:0<=t:=by omega
 have b:t<m.thr.length:=by omega
 refine Yg.2 ⟨t.toNat,List.mem_filter.2 ⟨adp.2 (by omega),?_⟩,Int.toNat_of_nonneg a⟩;rw[Int.toNat_of_nonneg a];exact decide_eq_true h
theorem Vb {l:List Int} {m:MS} (h:Gs Cv l m):m∈Ip l.length:=by
 induction h with
 |nil=>exact List.mem_singleton.2 rfl
 |snoc h a b=>
  rw[Xd];exact List.mem_flatMap.2 ⟨_,b,Yg.2 ⟨_,aca a,rfl⟩⟩
theorem WA:Ip 6=[]:=by kernel_rfl
theorem PX:∀n,Ip (6+n)=[]
 |0=>WA
 |n+1=>by show (Ip (6+n)).flatMap _=[];rw[PX n];rfl
theorem Wz:(List.range 5).all (λn=>(Ip n).all λm => !(CQ Cv Jl m))=true:=by kernel_rfl
theorem acM {l:List Int} {m:MS} (h:Gs Cv l m) (b:CQ Cv Jl m=true):l.length=5:=by
 have a:=Vb h;have d:l.length<6:=by
  refine Nat.lt_of_not_le λe=>?_;obtain⟨k,c⟩:=Nat.exists_eq_add_of_le e;rw[c,PX] at a
  cases a
 have f:¬l.length<5:=λe=>by
  have q:=Zi.1 (Zi.1 Wz _ (adp.2 e)) m a;rw[b] at q
  cases q
 omega
theorem JU (n:Int) (w:Xg):X3 Tryz.prog 12 #[.int .i64 n] w λe w'=>e = .returned (.int .i64 n)/\w'=w:=by
 go_enter Tryz.func12,Tryz.ntmps12
 go_wp2_with fail
 go_ret
 exact⟨rfl,rfl⟩
theorem acD {w:Xg} {Z:Nat} {er em:Y7} (n:XW w Z er em) (Q:Z<=w.heap.size):X3 Tryz.prog 7 #[] w λe w'=>e = .returned (.bool true)/\Xn w.heap.size w w':=by
 have a6:=n.t.lt;have W:=Pd Jm w n.t.heads n.t.shapes (by show 2<_;omega) (by show 3<_;omega);have W:X3 Tryz.prog 20 #[.string ⟨#[118,97,114,32,120,10,116,104,114,101,97,100,32,97,10,115,112,97,119,110,32,98,10,115,116,111,114,101,32,120,32,49,10,116,104,114,101,97,100,32,98,10,115,116,111,114,101,32,120,32,50]⟩] w (KI w Jm):=W;have HT:=Aa (⟨n,Q⟩:_/\_);clear n Q a6
 go_enter Tryz.func7,Tryz.ntmps7
 go_wp2_with fail
 refine W.mono ?_;clear W;rintro e i ⟨an,(⟨ba,ln,N,rfl⟩|⟨s,C,vV,fV,lV,br,L,N,rfl,r,J⟩)⟩
 ·rw[KF] at N;cases N
 ·rw[KF] at N
  cases N
  obtain⟨Y,M,H⟩:=QS KF J;have S:=Po (L:=L) KF;obtain⟨n1,n2,n3,n4⟩:=acL;rw[n1,n2,n3] at r Y M H S;rw[n4] at J;have aW:Al [[120]] [] [] L Jo=Cv:=by unfold Al;rw[J];rfl
  have ao:L.length=2:=by have:=congrArg ZW J;simpa using this
  obtain⟨n,Q⟩:=HT.out;obtain⟨V,ad,ev⟩:=At r.v;obtain⟨U,cf,ef⟩:=At r.f;obtain⟨al,R,el⟩:=At r.l;obtain⟨ab,ct,et⟩:=At r.t;subst ev ef el et;rw[ao];obtain⟨a,B⟩:∃a,i.alloc (.cells #[.slice V 1 ad,.slice U 0 cf,.slice al 0 R,.slice ab 2 ct] 25)=a:=⟨_,rfl⟩;have af:Xn i.heap.size i a:=by rw[<-B];exact(Xo _ _).alloc (Xf _) _
  have k3:a.heap[i.heap.size]?=some (.cells #[.slice V 1 ad,.slice U 0 cf,.slice al 0 R,.slice ab 2 ct] 25):=by rw[<-B];exact Xi i _
  have ac:=an.trans (af.mono an.size);have HC:Hid (∀u,Xn a.heap.size a u->u.cell? ⟨i.heap.size,0,none⟩=some (.slice V 1 ad)/\u.cell? ⟨i.heap.size,1,none⟩=some (.slice U 0 cf)/\u.cell? ⟨i.heap.size,2,none⟩=some (.slice al 0 R)/\u.cell? ⟨i.heap.size,3,none⟩=some (.slice ab 2 ct)):=λu c=>Iv ((c.block _ (Xa.1 k3).1).trans k3);have ah:=r.below af;have G:∀u,Xn a.heap.size a u->XW u Z er em/\Z<=u.heap.size:=λu c=>by
   have q:=ac.trans (c.mono ac.size)
   exact⟨n.same λk hk=>q.block k (by omega),by have:=q.size;omega⟩
  have ag:∀m,Bt (Al [[120]] [] [] L Jo) m->(Aj (Al [[120]] [] [] L Jo) m).length<4294967000:=λm hm=>NX M H hm;have O:=λu (c:Xn a.heap.size a u)=>RQ (most:=1000) ⟨by decide,by decide⟩ (G u c).1 (G u c).2 (ah.below c) Y M H S ag;have z:=λu (c:Xn a.heap.size a u)=>UA (most:=1000) Jl ⟨by decide,by decide⟩ (G u c).1 (G u c).2 (ah.below c) Y M H S ag;rw[aW] at O z;rw[ao] at O z;have hA:=O a (Xo _ _);have z:=Aa z;obtain⟨q0,q1,q2,q3⟩:=HC.out a (Xo _ _);have H3:=Aa ac;replace B:=Aa B;clear O r ah G ag Y M H S n1 n2 n3 n4 J aW ao n Q an af k3 ac HT
  go_upto_region 2 with fail
  rw[B.out];clear B
  go_wp2_with fail
  refine hA.mono ?_;clear hA;rintro e y ⟨o,ak⟩
  rcases o with⟨b,F,-⟩|⟨-,l,ov,rv,os,rs,d,rfl,ar,aw,ax,aJ,aU,aN⟩
  ·exfalso
   cases b with
   |true=>
    have K:BS Cv 1000=none:=F.2;rw[KE] at K
    cases K
   |false=>exact F ⟨by decide,by decide⟩
  ·have d:BS Cv 1000=some l:=d;rw[KE] at d;have hl:DV=l:=Option.some.inj d;subst hl;have e1:os=Hw Cv DV:=Lt aw (Ri Cv DV) λx=>by rw[ax,LR]
   have e2:rs=Gj Cv DV 1:=Mm aU (Rh Cv DV 1) λx=>by rw[aN];exact(Pw Cv DV x).symm
   rw[acK] at e1;rw[acJ] at e2;subst e1 e2;obtain⟨oa,oc,rfl,aT⟩:=Nz ar;obtain⟨ra,rc,rfl⟩:=At aJ;obtain⟨g,I,e3,az,P⟩:=aT 0 (by decide);subst e3;rw[RX.1,RX.2];obtain⟨LL,aF⟩:∃x,DV.length=x:=⟨_,rfl⟩;rw[aF];obtain⟨h,A⟩:∃h,y.alloc (.cells #[.int .i64 LL,.slice (some ⟨g,I,none⟩) 2 oc,.bool false,.bool false,.slice ra 1 rc] 34)=h:=⟨_,rfl⟩;have T:Xn y.heap.size y h:=by rw[<-A];exact(Xo _ _).alloc (Xf _) _
   have D:h.heap[y.heap.size]?=some (.cells #[.int .i64 LL,.slice (some ⟨g,I,none⟩) 2 oc,.bool false,.bool false,.slice ra 1 rc] 34):=by rw[<-A];exact Xi y _
   have j:=ak.trans (T.mono ak.size);have o:=z.out h j;have o:X3 Tryz.prog 18 #[.agg #[.slice V 1 ad,.slice U 0 cf,.slice al 0 R,.slice ab 2 ct],.string ⟨#[120,61,49]⟩,.int .i64 1000] h λe w'=>Jp w' Cv 1000 Jl e/\Xn h.heap.size h w':=o;have P:y.cell? ⟨g,I,none⟩=some (.string ⟨#[120,61,49]⟩):=P;have E:=(T.cell (p:=⟨g,I,none⟩) az).trans P;obtain⟨q0,q1,q2,q3⟩:=HC.out h j;have H5:=Aa (⟨j,D,E,(show g<h.heap.size by have:=T.size;omega)⟩:_/\_/\_/\_);replace A:=Aa A;clear d ar aw ax aJ aU aN aT az P T D j ak aF E z;rw[show ([[120,61,49],[120,61,50]]:List Tx).length=2 from rfl,show ([0]:List Int).length=1 from rfl]
   go_upto_region 3 with fail
   rw[A.out];clear A
   go_wp2_with fail
   refine o.mono ?_;clear o;rintro e w6 ⟨o,X⟩;obtain⟨j,D,E,ay⟩:=H5.out;have k6:=(X.block _ (Xa.1 D).1).trans D;have bo:=(X.cell (p:=⟨g,I,none⟩) ay).trans E;have HF:=Aa (H3.out.trans ((j.trans (X.mono j.size)).mono H3.out.size));obtain⟨v0,v1,v2,v3,v4⟩:=Mx k6;clear j D E ay k6 X H5 q0 q1 q2 q3
   rcases o with⟨b,F,-⟩|⟨-,l,d,(⟨a7,-⟩|⟨sa,bd,sl,m,rfl,-,aM,-,au,-⟩)⟩
   ·exfalso
    cases b with
    |true=>
     have K:BS Cv 1000=none:=F.2;rw[KE] at K
     cases K
    |false=>exact F ⟨by decide,by decide⟩
   ·exfalso
    have d:BS Cv 1000=some l:=d;rw[KE] at d;have hl:DV=l:=Option.some.inj d;subst hl;obtain⟨m,hm,hw⟩:=List.any_eq_true.1 acI;rw[a7 m hm] at hw
    cases hw
   ·rw[acM aM au];clear aM au
    go_wp2_with fail
    refine(JU 0 _).mono ?_;rintro e w7 ⟨rfl,rfl⟩
    go_wp2_with fail
    go_ret
    exact⟨rfl,HF.out⟩
theorem aaM {w:Xg} {a:Option Y7} {l:List Tx} {s:Tx} {n ca:Nat} (d:Ts w a l) (g:l.length=n) (m:n<=9223372036854775806) :
 X3 Tryz.prog 17 #[.slice a n ca,.string (bs s)] w λe w'=>e = .returned (.bool (decide (s∈l)))/\Xn w.heap.size w w':=by
 have H:=Aa (⟨d,g,m⟩:_/\_/\_);clear d g m
 go_enter Tryz.func17,Tryz.ntmps17
 go_wp2_with fail
 go_loopw [5] (λr wr=>∃i:Nat,i<=n/\r = .int .i64 i/\Xn w.heap.size w wr/\∀j,j<i->l.getD j []≠s) (λr _=>n - (intOf r).toNat)
 case atStart=>exact⟨0,Nat.zero_le _,rfl,Xo _ _,λj y=>absurd y (Nat.not_lt_zero j)⟩
 case round=>
  obtain⟨i,t,rfl,c,o⟩:=hrel
  by_cases p:i<n
  ·obtain⟨d,g,m⟩:=H.out;have J:(i:Int)<(n:Int):=by omega
   obtain⟨I,G,B,-,C⟩:=(d.below c) i (by omega);subst B;obtain⟨v,f⟩:∃v,l.getD i []=v:=⟨_,rfl⟩;rw[f] at C;have u:((bs v).toList == (bs s).toList)=decide (v=s):=by rw[AR,AR];exact Bool.eq_iff_iff.2 (by simp)
   have x:wrap64 ((i:Int)+1)=(i:Int)+1:=by unfold wrap64;omega
   by_cases e:v=s
   ·have q:decide (s∈l)=true:=decide_eq_true (by
     rw[<-e,<-f];exact CF (by omega))
    rw[decide_eq_true e] at u;have b:=Aa c;clear d g m t p c o f e
    go_wp2_with fail
    go_ret
    exact⟨by rw[q]<;>rfl,b.out⟩
   ·rw[decide_eq_false e] at u;have z:∀j,j<i+1->l.getD j []≠s:=λj y=>by
     rcases Nat.lt_or_ge j i with h|h
     ·exact o j h
     ·have:j=i:=by omega
      subst this;rw[f];exact e
    have b:=Aa (⟨p,c,z⟩:_/\_/\_);clear d g m t p c o f e z
    go_wp2_with fail
    go_roundw
    case rel=>
     (try rw[x])
     exact⟨i+1,b.out.1,rfl,b.out.2.1,b.out.2.2⟩
    case measure=>
     (try rw[x])
     exact Nat.sub_lt_sub_left b.out.1 (Nat.lt_succ_self i)
  ·have F:i=n:=by omega
   subst F;have q:decide (s∈l)=false:=decide_eq_false (λD=>by
    obtain⟨k,E,A⟩:=List.getElem_of_mem D;refine o k (by have:=H.out.2.1;omega) ?_;rw[Xb,Xc E];exact A)
   have b:=Aa c;clear t p c H o
   go_wp2_with fail
   go_ret
   exact⟨by rw[q]<;>rfl,b.out⟩
end Go.Proofs.YtdcacoifehkioaaGreatDoor
