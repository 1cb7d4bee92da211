import Derived.Test.YtdcacoifehkioaaGreatDoorExH18
import Derived.Test.YtdcacoifehkioaaGreatDoorExH23
import Derived.Test.YtdcacoifehkioaaGreatDoorExH38
open Go.ChangeMaps renaming open_string->agJ,shut_string->agK
open Go.OpenSpec renaming ofChange->agN
set_option maxRecDepth 100000
set_option linter.unusedVariables false
set_option linter.unusedSimpArgs false
namespace Go.Proofs.YtdcacoifehkioaaGreatDoor
open Go.ChangeShapes Go.WideShapes Go.ChangeAt Go.RowKit Go.Proofs.Cod
set_option linter.unusedVariables false
theorem adR (H:Type) (enc:TypeId×Value->H) (W:World) (base:Nat) (args:Array Value) (k B:List (DataW H)) (I:List MemPlace)
 (a:∀(j:Nat) t v,Tryz.f5.params[j]?=some t->args[j]?=some v->Value.okWide Tryz.prog W .any base t v)
 (g:DataW.Whole enc Tryz.prog Tryz.f5.params.toList Rows.exploreReachSpec.vars false W args.toList k B I) {E s:Addr} (x:XW W W.heap.size E s) :
 Calls Tryz.prog 5 args W λe n=>∃v,e = .returned v/\Rows.exploreReachSpec.post enc Tryz.prog Tryz.f5 false true false false W args v n:=by
 have r:=g;obtain⟨p,q,f,M,rfl,aj,ac⟩:=g;have b:DataW.TrodAll enc Tryz.prog W 0 (λ_=>true) true Tryz.f5.params.toList args.toList k p:=f;rw[Tryz.params5] at b a;obtain⟨o,Z,d0,T,p0,q0,P,rfl,rfl,G,y⟩:=trodAll_cons b;obtain⟨c,Q,Y,aa,p1,U,R,rfl,rfl,F,A⟩:=trodAll_cons y;obtain⟨i,X,V,ah,S,q2,af,rfl,rfl,O,u⟩:=trodAll_cons A;obtain⟨rfl,rfl,rfl⟩:=trodAll_nil u
 obtain rfl:args = #[o,c,i]:=by cases args;simp_all
 obtain⟨rfl,rfl⟩:=trodVars_none M;obtain⟨w,rfl,rfl,rfl,z⟩:=agJ Tryz.underlying9 (a 0 9 o rfl rfl) G;obtain⟨D,rfl,rfl,rfl,J⟩:=agJ Tryz.underlying9 (a 1 9 c rfl rfl) F;obtain⟨m,rfl,rfl,rfl,d⟩:=open_int Tryz.underlying3 (a 2 3 i rfl rfl) O;have C : -9223372036854775808<=m/\m<=9223372036854775807:=acv d;clear f;have l:=adS x (Nat.le_refl _) w.data.toList D.data.toList C;rw[Ol,Ol] at l;refine l.mono λe n ⟨K,N⟩=>?_;subst K
 exact⟨_,rfl,_,_,_,[],_,[],r,trodAll_mk1 (shut_bool Tryz.underlying4 _),(trodAll_cons_mk (agK Tryz.underlying9 z) (trodAll_cons_mk (agK Tryz.underlying9 J) (trodAll_cons_mk (shut_int Tryz.underlying3 d) trodAll_mk0))),rfl,N.frame _,λh=>by cases h⟩
theorem adP (a:Os):laidMet Tryz.prog Rows.exploreReachRow.laid ((Nz a).forCall (λ_ _=>0) ⟨#[],#[.string .empty,.string .empty,.int .i64 0],[]⟩).memory:=
 laidMet_of_run' 8 (by kernel_rfl) (by kernel_rfl)
theorem adN (b:Os) {H:Type} (enc:TypeId×Value->H):∃a,DataW.whole enc Tryz.prog ((Nz b).forCall (λ_ _=>0) ⟨#[],#[.string .empty,.string .empty,.int .i64 0],[]⟩).memory Tryz.f5.params.toList Rows.exploreReachSpec.vars false ((#[.string .empty,.string .empty,.int .i64 0]:Array Value)).toList 8=some ([.lit (.string []),.lit (.string []),.lit (.int .i64 0)],[],a):=
 ⟨[],by kernel_rfl⟩
theorem adQ (a:Os) (f:a.Started) (H:Type) (enc:TypeId×Value->H) (F:Stop.Interp) :
 ReturnsInHanded {} Tryz.checked a 5 .any ((agN Rows.exploreReachSpec).preRow enc Tryz.prog Tryz.f5 Rows.exploreReachRow.domain false Rows.exploreReachRow.laid) (((agN Rows.exploreReachSpec).at F).post enc Tryz.prog Tryz.f5 false true false false):=by
 obtain⟨q,l⟩:=adN a enc;refine returnsInHanded_of_row (C:=Tryz.checked) (s:=(agN Rows.exploreReachSpec)) Tryz.own f (by kernel_rfl) Tryz.func5
  (witness_row_at (enc:=enc) (C:=Tryz.checked) false (Nz a) #[.string .empty,.string .empty,.int .i64 0] rfl (by kernel_rfl) (by kernel_rfl) (by kernel_rfl)
    (OpenSpec.preRow_of_cond 8 l (by kernel_rfl) (λk d=>by cases d) (by kernel_rfl) (adP a))) ?_
 intro W base args m h c i j _ p o b e _;obtain⟨r,n,g⟩:=UC b e;exact adR H enc W base args m h c i j g
theorem adM:Rows.ExploreReachSaid:=
 OpenClaim.holds_of_cond 5 Tryz.f5 rfl rfl rfl rfl rfl rfl rfl ⟨rfl,rfl,rfl,rfl,rfl⟩ rfl rfl rfl rfl rfl (by kernel_rfl) Tryz.func5 (by kernel_rfl)
  (of_decide_eq_true (by kernel_rfl)) (by unfold Func.isWrapper;first|(rw[if_pos (by decide +kernel)];kernel_rfl)|(rw[if_neg (by decide +kernel)];exact⟨rfl,rfl⟩))
  (λb a H enc _ F=>by rw[OpenClaim.pre_eq_preRow];exact adQ b a H enc F)
theorem adO (f:FuncId) (fn:Func) (c:Tryz.pinned.checked.prog.funcNamed "weave/weavelaw07.ExploreReach" = some f) (d:Tryz.pinned.checked.prog.funcs[f]?=some fn) :
 true=Tryz.pinned.checked.prog.looks []/\∀(j:Nat) t,fn.params[j]?=some t->Tryz.pinned.checked.prog.wantsStandIn t=false:=by
 obtain rfl:f=5:=Option.some.inj ((show Tryz.prog.funcNamed "weave/weavelaw07.ExploreReach" = some 5 by kernel_rfl).symm.trans c) |>.symm
 obtain rfl:fn=Tryz.f5:=(Option.some.inj (Tryz.func5.symm.trans d)).symm
 refine⟨by kernel_rfl,λj t b=>?_⟩;rw[Tryz.params5] at b;have a:Tryz.prog.wantsStandIn 9=false:=by kernel_rfl
 have i:Tryz.prog.wantsStandIn 32=false:=by kernel_rfl
 have e:Tryz.prog.wantsStandIn 3=false:=by kernel_rfl
 have h:=Array.mem_of_getElem? b;have g:t=9\/t=9\/t=3:=by simpa using h
 rcases g with rfl|rfl|rfl
 ·exact a
 ·exact a
 ·exact e
theorem exploreReach_card:Rows.ExploreReachCardSaid:=
 Claim7.holds_tied_plain_at .later [] _ _ _ _ adM (λ_ h=>by cases h) (by kernel_rfl) (λ_ h=>by cases h) exploreReach_row_tie rfl ⟨rfl,rfl⟩ (by kernel_rfl) rfl adO (by kernel_rfl)
end Go.Proofs.YtdcacoifehkioaaGreatDoor
