import Derived.Test.YtdcacoifehkioaaGreatDoorExR18
import Derived.Test.YtdcacoifehkioaaGreatDoorExR23
import Derived.Test.YtdcacoifehkioaaGreatDoorExR36
open Go.OpenSpec renaming ofChange->ad2
set_option maxRecDepth 100000
set_option linter.unusedVariables false
set_option linter.unusedSimpArgs false
namespace Go.Proofs.YtdcacoifehkioaaGreatDoor
open Go.ChangeShapes Go.WideShapes Go.ChangeAt Go.RowKit Go.Proofs.Cod
set_option linter.unusedVariables false
theorem abs (H:Type) (enc:TypeId×Value->H) (W:World) (base:Nat) (args:Array Value) (i u:List (DataW H)) (P:List MemPlace)
 (a:∀(j:Nat) t v,Tryz.f4.params[j]?=some t->args[j]?=some v->Value.okWide Tryz.prog W .any base t v)
 (o:DataW.Whole enc Tryz.prog Tryz.f4.params.toList Rows.exploreRunsSpec.vars false W args.toList i u P) {M y:Addr} (K:XW W W.heap.size M y) :
 Calls Tryz.prog 4 args W λe d=>∃v,e = .returned v/\Rows.exploreRunsSpec.post enc Tryz.prog Tryz.f4 false true false false W args v d:=by
 have s:=o;obtain⟨p,q,l,B,rfl,S,aj⟩:=o;have f:DataW.TrodAll enc Tryz.prog W 0 (λ_=>true) true Tryz.f4.params.toList args.toList i p:=l;rw[Tryz.params4] at f a;obtain⟨n,R,d0,ai,p0,U,V,rfl,rfl,J,z⟩:=trodAll_cons f;obtain⟨r,ad,X,ab,G,q1,Z,rfl,rfl,g,A⟩:=trodAll_cons z;obtain⟨rfl,rfl,rfl⟩:=trodAll_nil A
 obtain rfl:args = #[n,r]:=by cases args;simp_all
 obtain⟨rfl,rfl⟩:=trodVars_none B;obtain⟨O,rfl,rfl,rfl,F⟩:=Go.ChangeMaps.open_string Tryz.underlying9 (a 0 9 n rfl rfl) J;obtain⟨Y,n1,C,rfl⟩:=okWide_slice Tryz.underlying32 (a 1 32 r rfl rfl);have c:=g;have I:∀x∈G,x.block<W.heap.size:=by obtain⟨m,D⟩:=c;exact DataW.trod_lt m _ _ _ D
 obtain⟨T,E⟩:=g;obtain⟨l1,Q,N,ah⟩:=aaf (by simpa [Value.cells] using E);clear l;have k:=abt K (Nat.le_refl _) O.data.toList (cap:=C) Q N (VE (a 1 32 _ rfl rfl));rw[RE] at k;refine k.mono λe d ⟨w,b⟩=>?_;subst w
 exact⟨_,rfl,_,_,_,[],_,[],s,trodAll_mk1 (shut_bool Tryz.underlying4 _),(trodAll_cons_mk (Go.ChangeMaps.shut_string Tryz.underlying9 F) (trodAll_cons_mk (Below.trod Tryz.laidOut (by kernel_rfl) (of_decide_eq_true (by kernel_rfl)) c b I) trodAll_mk0)),rfl,b.frame _,λh=>by cases h⟩
theorem abq (a:Os):laidMet Tryz.prog Rows.exploreRunsRow.laid ((Md a).forCall (λ_ _=>0) ⟨#[],#[.string .empty,.slice none 0 0],[]⟩).memory:=
 laidMet_of_run' 8 (by kernel_rfl) (by kernel_rfl)
theorem abo (a:Os) {H:Type} (enc:TypeId×Value->H):∃b,DataW.whole enc Tryz.prog ((Md a).forCall (λ_ _=>0) ⟨#[],#[.string .empty,.slice none 0 0],[]⟩).memory Tryz.f4.params.toList Rows.exploreRunsSpec.vars false ((#[.string .empty,.slice none 0 0]:Array Value)).toList 8=some ([.lit (.string []),.nil],[],b):=
 ⟨[],by kernel_rfl⟩
theorem abr (a:Os) (i:a.Started) (H:Type) (enc:TypeId×Value->H) (F:Stop.Interp) :
 ReturnsInHanded {} Tryz.checked a 4 .any ((ad2 Rows.exploreRunsSpec).preRow enc Tryz.prog Tryz.f4 Rows.exploreRunsRow.domain false Rows.exploreRunsRow.laid) (((ad2 Rows.exploreRunsSpec).at F).post enc Tryz.prog Tryz.f4 false true false false):=by
 obtain⟨q,j⟩:=abo a enc;refine returnsInHanded_of_row (C:=Tryz.checked) (s:=(ad2 Rows.exploreRunsSpec)) Tryz.own i (by kernel_rfl) Tryz.func4
  (witness_row_at (enc:=enc) (C:=Tryz.checked) false (Md a) #[.string .empty,.slice none 0 0] rfl (by kernel_rfl) (by kernel_rfl) (by kernel_rfl)
    (OpenSpec.preRow_of_cond 8 j (by kernel_rfl) (λk g=>by cases g) (by kernel_rfl) (abq a))) ?_
 intro W base args e b l d f _ o n c m _;obtain⟨r,p,h⟩:=St c m;exact abs H enc W base args e b l d f h
theorem abn:Rows.ExploreRunsSaid:=
 OpenClaim.holds_of_cond 4 Tryz.f4 rfl rfl rfl rfl rfl rfl rfl ⟨rfl,rfl,rfl,rfl,rfl⟩ rfl rfl rfl rfl rfl (by kernel_rfl) Tryz.func4 (by kernel_rfl)
  (of_decide_eq_true (by kernel_rfl)) (by unfold Func.isWrapper;first|(rw[if_pos (by decide +kernel)];kernel_rfl)|(rw[if_neg (by decide +kernel)];exact⟨rfl,rfl⟩))
  (λa b H enc _ F=>by rw[OpenClaim.pre_eq_preRow];exact abr a b H enc F)
theorem abp (f:FuncId) (fn:Func) (d:Tryz.pinned.checked.prog.funcNamed "weave/weavelaw07.ExploreRuns" = some f) (e:Tryz.pinned.checked.prog.funcs[f]?=some fn) :
 true=Tryz.pinned.checked.prog.looks []/\∀(j:Nat) t,fn.params[j]?=some t->Tryz.pinned.checked.prog.wantsStandIn t=false:=by
 obtain rfl:f=4:=Option.some.inj ((show Tryz.prog.funcNamed "weave/weavelaw07.ExploreRuns" = some 4 by kernel_rfl).symm.trans d) |>.symm
 obtain rfl:fn=Tryz.f4:=(Option.some.inj (Tryz.func4.symm.trans e)).symm
 refine⟨by kernel_rfl,λj t a=>?_⟩;rw[Tryz.params4] at a;have b:Tryz.prog.wantsStandIn 9=false:=by kernel_rfl
 have h:Tryz.prog.wantsStandIn 32=false:=by kernel_rfl
 have i:Tryz.prog.wantsStandIn 3=false:=by kernel_rfl
 have c:=Array.mem_of_getElem? a;have g:t=9\/t=32:=by simpa using c
 rcases g with rfl|rfl
 ·exact b
 ·exact h
theorem exploreRuns_card:Rows.ExploreRunsCardSaid:=
 Claim7.holds_tied_plain_at .later [] _ _ _ _ abn (λ_ h=>by cases h) (by kernel_rfl) (λ_ h=>by cases h) exploreRuns_row_tie rfl ⟨rfl,rfl⟩ (by kernel_rfl) rfl abp (by kernel_rfl)
end Go.Proofs.YtdcacoifehkioaaGreatDoor
