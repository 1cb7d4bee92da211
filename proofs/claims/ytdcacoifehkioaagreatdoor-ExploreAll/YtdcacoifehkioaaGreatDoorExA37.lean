import Derived.Test.YtdcacoifehkioaaGreatDoorExA18
import Derived.Test.YtdcacoifehkioaaGreatDoorExA23
import Derived.Test.YtdcacoifehkioaaGreatDoorExA36
open Go.OpenSpec renaming ofChange->agu
set_option maxRecDepth 100000
set_option linter.unusedVariables false
set_option linter.unusedSimpArgs false
namespace Go.Proofs.YtdcacoifehkioaaGreatDoor
open Go.ChangeShapes Go.WideShapes Go.ChangeAt Go.RowKit Go.Proofs.Cod
set_option linter.unusedVariables false
theorem adI (H:Type) (enc:TypeId×Value->H) (W:World) (base:Nat) (args:Array Value) (g G:List (DataW H)) (z:List MemPlace)
 (a:∀(j:Nat) t v,Tryz.f3.params[j]?=some t->args[j]?=some v->Value.okWide Tryz.prog W .any base t v)
 (b:DataW.Whole enc Tryz.prog Tryz.f3.params.toList Rows.exploreAllSpec.vars false W args.toList g G z) {F x:Addr} (w:XW W W.heap.size F x) :
 Calls Tryz.prog 3 args W λe m=>∃v,e = .returned v/\Rows.exploreAllSpec.post enc Tryz.prog Tryz.f3 false true false false W args v m:=by
 have B:=b;obtain⟨p,q,c,A,rfl,O,N⟩:=b;have f:DataW.TrodAll enc Tryz.prog W 0 (λ_=>true) true Tryz.f3.params.toList args.toList g p:=c;rw[Tryz.params3] at f a;obtain⟨k,P,R,I,X,K,J,rfl,rfl,r,D⟩:=trodAll_cons f;obtain⟨i,Q,U,V,T,M,S,rfl,rfl,y,o⟩:=trodAll_cons D;obtain⟨rfl,rfl,rfl⟩:=trodAll_nil o
 obtain rfl:args = #[k,i]:=by cases args;simp_all
 obtain⟨rfl,rfl⟩:=trodVars_none A;obtain⟨s,rfl,rfl,rfl,C⟩:=Go.ChangeMaps.open_string Tryz.underlying9 (a 0 9 k rfl rfl) r;obtain⟨m1,rfl,rfl,rfl,d⟩:=open_int Tryz.underlying3 (a 1 3 i rfl rfl) y;have n : -9223372036854775808<=m1/\m1<=9223372036854775807:=acp d;clear c;have l:=adJ w (Nat.le_refl _) s.data.toList n;rw[TD] at l;refine l.mono λe m ⟨u,E⟩=>?_;subst u
 exact⟨_,rfl,_,_,_,[],_,[],B,trodAll_mk1 (shut_bool Tryz.underlying4 _),(trodAll_cons_mk (Go.ChangeMaps.shut_string Tryz.underlying9 C) (trodAll_cons_mk (shut_int Tryz.underlying3 d) trodAll_mk0)),rfl,E.frame _,λh=>by cases h⟩
theorem adG (a:Os):laidMet Tryz.prog Rows.exploreAllRow.laid ((Nu a).forCall (λ_ _=>0) ⟨#[],#[.string .empty,.int .i64 0],[]⟩).memory:=
 laidMet_of_run' 8 (by kernel_rfl) (by kernel_rfl)
theorem adE (a:Os) {H:Type} (enc:TypeId×Value->H):∃b,DataW.whole enc Tryz.prog ((Nu a).forCall (λ_ _=>0) ⟨#[],#[.string .empty,.int .i64 0],[]⟩).memory Tryz.f3.params.toList Rows.exploreAllSpec.vars false ((#[.string .empty,.int .i64 0]:Array Value)).toList 8=some ([.lit (.string []),.lit (.int .i64 0)],[],b):=
 ⟨[],by kernel_rfl⟩
theorem adH (a:Os) (c:a.Started) (H:Type) (enc:TypeId×Value->H) (F:Stop.Interp) :
 ReturnsInHanded {} Tryz.checked a 3 .any ((agu Rows.exploreAllSpec).preRow enc Tryz.prog Tryz.f3 Rows.exploreAllRow.domain false Rows.exploreAllRow.laid) (((agu Rows.exploreAllSpec).at F).post enc Tryz.prog Tryz.f3 false true false false):=by
 obtain⟨q,j⟩:=adE a enc;refine returnsInHanded_of_row (C:=Tryz.checked) (s:=(agu Rows.exploreAllSpec)) Tryz.own c (by kernel_rfl) Tryz.func3
  (witness_row_at (enc:=enc) (C:=Tryz.checked) false (Nu a) #[.string .empty,.int .i64 0] rfl (by kernel_rfl) (by kernel_rfl) (by kernel_rfl)
    (OpenSpec.preRow_of_cond 8 j (by kernel_rfl) (λk g=>by cases g) (by kernel_rfl) (adG a))) ?_
 intro W base args f i d h b _ o p l m _;obtain⟨r,n,e⟩:=Up l m;exact adI H enc W base args f i d h b e
theorem adD:Rows.ExploreAllSaid:=
 OpenClaim.holds_of_cond 3 Tryz.f3 rfl rfl rfl rfl rfl rfl rfl ⟨rfl,rfl,rfl,rfl,rfl⟩ rfl rfl rfl rfl rfl (by kernel_rfl) Tryz.func3 (by kernel_rfl)
  (of_decide_eq_true (by kernel_rfl)) (by unfold Func.isWrapper;first|(rw[if_pos (by decide +kernel)];kernel_rfl)|(rw[if_neg (by decide +kernel)];exact⟨rfl,rfl⟩))
  (λa b H enc _ F=>by rw[OpenClaim.pre_eq_preRow];exact adH a b H enc F)
theorem adF (f:FuncId) (fn:Func) (b:Tryz.pinned.checked.prog.funcNamed "weave/weavelaw07.ExploreAll" = some f) (g:Tryz.pinned.checked.prog.funcs[f]?=some fn) :
 true=Tryz.pinned.checked.prog.looks []/\∀(j:Nat) t,fn.params[j]?=some t->Tryz.pinned.checked.prog.wantsStandIn t=false:=by
 obtain rfl:f=3:=Option.some.inj ((show Tryz.prog.funcNamed "weave/weavelaw07.ExploreAll" = some 3 by kernel_rfl).symm.trans b) |>.symm
 obtain rfl:fn=Tryz.f3:=(Option.some.inj (Tryz.func3.symm.trans g)).symm
 refine⟨by kernel_rfl,λj t a=>?_⟩;rw[Tryz.params3] at a;have c:Tryz.prog.wantsStandIn 9=false:=by kernel_rfl
 have i:Tryz.prog.wantsStandIn 32=false:=by kernel_rfl
 have d:Tryz.prog.wantsStandIn 3=false:=by kernel_rfl
 have e:=Array.mem_of_getElem? a;have h:t=9\/t=3:=by simpa using e
 rcases h with rfl|rfl
 ·exact c
 ·exact d
theorem exploreAll_card:Rows.ExploreAllCardSaid:=
 Claim7.holds_tied_plain_at .later [] _ _ _ _ adD (λ_ h=>by cases h) (by kernel_rfl) (λ_ h=>by cases h) exploreAll_row_tie rfl ⟨rfl,rfl⟩ (by kernel_rfl) rfl adF (by kernel_rfl)
end Go.Proofs.YtdcacoifehkioaaGreatDoor
