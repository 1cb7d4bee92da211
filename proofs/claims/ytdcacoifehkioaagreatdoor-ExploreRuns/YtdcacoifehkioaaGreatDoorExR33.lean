import Derived.Test.YtdcacoifehkioaaGreatDoorExR3
import Derived.Test.YtdcacoifehkioaaGreatDoorExR23
open Go renaming World->Xg,Value->Xj,heap_setCell_same->Xk,callsIn_wide->XT,undef->X1,heap_setCell_other->XC,run_takeDeferred->Zv,grownBy_putObj'->Zt,wp_region_held_drew->XV,wpAnyH_done->YH
open Go.World renaming size_setCell->XG,cell?->Xh,frozen?->XE,alloc->Zj,cell?_of_block->Xr
open Go.Obj renaming cells->Zz
open Array renaming getElem?_toList->Yv,length_toList->Zr,getElem?_eq_some_iff->Xa
open List renaming length_append->Xd,length_map->Xm,map_append->XH,mem_map->Yg
open Nat renaming reduceAdd->Zb,le_refl->Xf,lt_of_lt_of_le->XF,le_trans->Xu,sub_lt_sub_left->Xs,lt_succ_self->Xt
open Go.CallsIn renaming inRound->Zd
open Go.Act renaming put->X7
set_option maxRecDepth 100000
set_option maxHeartbeats 8000000
set_option linter.unusedVariables false
set_option linter.unusedSimpArgs false
namespace Go.Proofs.YtdcacoifehkioaaGreatDoor
open Go.RowKit Go.Shelf Go.Proofs.Cod
attribute [local go_sem] Oper.semAt_some
theorem OD {w:Xg} {n T:Nat} {H A r q l:Xj} (F:w.heap[n]?=some (.cells #[H,A,r,q,l] T)) (a c d e m:Xj):∃W,((((w.setCell ⟨n,0,none⟩ a).setCell ⟨n,1,none⟩ c).setCell ⟨n,2,none⟩ d).setCell ⟨n,3,none⟩ e).setCell ⟨n,4,none⟩ m=W/\W.heap[n]?=some (.cells #[a,c,d,e,m] T)/\(∀b,b≠n->W.heap[b]?=w.heap[b]?)/\W.heap.size=w.heap.size/\W.os=w.os/\W.tape=w.tape/\W.output=w.output:=by
 have o:∀(w:Xg) (k:Nat) (v:Xj),(∀b,b≠n->(w.setCell ⟨n,k,none⟩ v).heap[b]?=w.heap[b]?)/\(w.setCell ⟨n,k,none⟩ v).heap.size=w.heap.size/\(w.setCell ⟨n,k,none⟩ v).os=w.os/\(w.setCell ⟨n,k,none⟩ v).tape=w.tape/\(w.setCell ⟨n,k,none⟩ v).output=w.output:=λw k v=>⟨λb f=>Below.heap_setCell _ ⟨n,k,none⟩ _ b f,XG ..,rfl,rfl,rfl⟩
 have B:=(Xk _ n 0 _ _ a F).trans (show _=some (Zz #[a,A,r,q,l] T) from rfl);obtain⟨w1,y⟩:∃x,w.setCell ⟨n,0,none⟩ a=x:=⟨_,rfl⟩;have g:=o w 0 a;rw[y] at B g;have t:=(Xk _ n 1 _ _ c B).trans (show _=some (Zz #[a,c,r,q,l] T) from rfl);obtain⟨u,D⟩:∃x,w1.setCell ⟨n,1,none⟩ c=x:=⟨_,rfl⟩;have i:=o w1 1 c;rw[D] at t i;have E:=(Xk _ n 2 _ _ d t).trans (show _=some (Zz #[a,c,d,q,l] T) from rfl);obtain⟨w3,C⟩:∃x,u.setCell ⟨n,2,none⟩ d=x:=⟨_,rfl⟩;have j:=o u 2 d;rw[C] at E j;have s:=(Xk _ n 3 _ _ e E).trans (show _=some (Zz #[a,c,d,e,l] T) from rfl);obtain⟨G,z⟩:∃x,w3.setCell ⟨n,3,none⟩ e=x:=⟨_,rfl⟩;have h:=o w3 3 e;rw[z] at s h;have I:=(Xk _ n 4 _ _ m s).trans (show _=some (Zz #[a,c,d,e,m] T) from rfl);have p:=o G 4 m;rw[y,D,C,z]
 exact⟨_,rfl,I,λb f=>(p.1 b f).trans ((h.1 b f).trans ((j.1 b f).trans ((i.1 b f).trans (g.1 b f)))),p.2.1.trans (h.2.1.trans (j.2.1.trans (i.2.1.trans g.2.1))),p.2.2.1.trans (h.2.2.1.trans (j.2.2.1.trans (i.2.2.1.trans g.2.2.1))),p.2.2.2.1.trans (h.2.2.2.1.trans (j.2.2.2.1.trans (i.2.2.2.1.trans g.2.2.2.1))),p.2.2.2.2.trans (h.2.2.2.2.trans (j.2.2.2.2.trans (i.2.2.2.2.trans g.2.2.2.2)))⟩
theorem GO {w:Xg} {b T:Nat} {e f a d c:Xj} (h:w.heap[b]?=some (.cells #[e,f,a,d,c] T)):w.cell? ⟨b,0,none⟩=some e/\w.cell? ⟨b,1,none⟩=some f/\w.cell? ⟨b,2,none⟩=some a/\w.cell? ⟨b,3,none⟩=some d/\w.cell? ⟨b,4,none⟩=some c/\∀k,w.frozen? ⟨b,k,none⟩=false:=by
 refine⟨?_,?_,?_,?_,?_,λk=>?_⟩<;>simp[Xh,XE,h]
theorem DP {w:Xg} {b T:Nat} {a:Xj} (h:w.heap[b]?=some (.cells #[a] T)):w.cell? ⟨b,0,none⟩=some a/\w.frozen? ⟨b,0,none⟩=false:=by
 refine⟨?_,?_⟩<;>simp[Xh,XE,h]
theorem RO (a:List Obj):∀w:Xg,(a.foldl Zj w).heap.toList=w.heap.toList++a/\(a.foldl Zj w).os=w.os/\(a.foldl Zj w).tape=w.tape/\(a.foldl Zj w).output=w.output:=by
 induction a with
 |nil=>intro w;exact⟨by simp,rfl,rfl,rfl⟩
 |cons o a c=>
  intro w;obtain⟨d,f,b,e⟩:=c (w.alloc o);refine⟨?_,f,b,e⟩;rw[List.foldl_cons,d];show (w.heap.push o).toList++a=_;rw[Array.toList_push,List.append_assoc];rfl
theorem CW {a:List Obj} {w b:Xg} {Z:Nat} (h:a.foldl Zj w=b) (d:w.heap.size=Z) {i:Nat} {o:Obj} (c:a[i]?=some o):b.heap[Z+i]?=some o:=by
 rw[<-h,<-Yv,(RO a w).1,List.getElem?_append_right (by rw[Zr];omega),Zr,d,Nat.add_sub_cancel_left];exact c
theorem MT {a:List Obj} {w b:Xg} (h:a.foldl Zj w=b):Below w.heap.size w b/\b.heap.size=w.heap.size+a.length:=by
 obtain⟨c,f,d,e⟩:=RO a w;rw[h] at c f d e;have i:b.heap.size=w.heap.size+a.length:=by rw[<-Zr,c,Xd,Zr]
 refine⟨⟨f,d,e,by omega,λx g=>?_⟩,i⟩;rw[<-Yv,c,List.getElem?_append_left (by rw[Zr];exact g),Yv]
theorem RQ {w:Xg} {Z0 fe H nf nl nt vc fc lc tc:Nat} {va fa la ta:Option Addr} {vs fs ls:List Tx} {L:List (Tx×Xj)} {C:List (List Ac)} {most:Int} {er em:Addr} (aX : -9223372036854775808<=most/\most<=9223372036854775807)
 (hx:XW w Z0 er em) (hZ0:Z0<=w.heap.size) (hp:Bz w fe (.slice va H vc) (.slice fa nf fc) (.slice la nl lc) (.slice ta nt tc) vs fs ls L C) (hb:Gu vs fs ls L C) (hf:BL (Al vs fs ls L C)) (hN:DK (Al vs fs ls L C)) (aR:Gt (Al vs fs ls L C)) (aN:∀m,Bt (Al vs fs ls L C) m->(Aj (Al vs fs ls L C) m).length<4294967000) :
 Calls Tryz.prog 8 #[.agg #[.slice va H vc,.slice fa nf fc,.slice la nl lc,.slice ta nt tc],.int .i64 most] w λe w'=>KS w w' (Al vs fs ls L C) most e/\Below w.heap.size w w':=by
 have dG:=@run_makeMap Tryz.prog;obtain⟨p,aa⟩:∃x,Al vs fs ls L C=x:=⟨_,rfl⟩;refine(XT (n:=8)).1 ?_;refine callsIn_of_wp_marks Tryz.func8 rfl trivial ?_ rfl;simp only[Tryz.ntmps8,List.size_toArray,List.length_cons,List.length_nil,Zb,Nat.reduceSub,Array.replicate_succ,Array.replicate_zero,List.push_toArray,List.append_toArray,List.nil_append,List.cons_append];have HP:=Aa (⟨aX,hx,hZ0,hp,hb,hf,hN,aR,aN⟩:_/\_/\_/\_/\_/\_/\_/\_/\_);clear aX hx hZ0 hp hb hf hN aR aN
 gi_wp2_with (refine⟨trivial,?_⟩;gi_at_call 23;refine(NM _ _ _ _ _ _ _).mono ?_;rintro e w' ⟨rfl,rfl⟩)
 obtain⟨aX,hx,hZ0,hp,hb,hf,hN,aR,aN⟩:=HP.out;have b7:H=vs.length/\nf=fs.length:=by
  obtain⟨x,y,e⟩:=At hp.v;injection e with _ e _
  obtain⟨x2,y2,e2⟩:=At hp.f;injection e2 with _ e2 _
  exact⟨e,e2⟩
 replace b7:=Aa b7;obtain⟨F,aF⟩:∃F,([.cells #[.slice va H vc,.slice fa nf fc,.slice la nl lc,.slice ta nt tc] 25,.cells #[.int .i64 0,.slice none 0 0,.bool false,.bool false,.slice none 0 0] 34,.cells #[.int .i64 0] 35,.cells #[.int .i64 0,.slice none 0 0,.bool false,.bool false,.slice none 0 0] 34,.map #[] 0,.map #[] 0,.cells #[.map (some (w.heap.size+1+1+1+1))] 64,.cells #[.map (some (w.heap.size+1+1+1+1+1))] 65,.cells #[.slice va H vc,.slice fa nf fc,.slice la nl lc,.slice ta nt tc] 25,.cells #[.int .i64 most] 3]:List Obj).foldl Zj w=F:=⟨_,rfl⟩
 change Code.wpIn _ _ _ _ _ _ (([.cells #[.slice va H vc,.slice fa nf fc,.slice la nl lc,.slice ta nt tc] 25,.cells #[.int .i64 0,.slice none 0 0,.bool false,.bool false,.slice none 0 0] 34,.cells #[.int .i64 0] 35,.cells #[.int .i64 0,.slice none 0 0,.bool false,.bool false,.slice none 0 0] 34,.map #[] 0,.map #[] 0,.cells #[.map (some (w.heap.size+1+1+1+1))] 64,.cells #[.map (some (w.heap.size+1+1+1+1+1))] 65,.cells #[.slice va H vc,.slice fa nf fc,.slice la nl lc,.slice ta nt tc] 25,.cells #[.int .i64 most] 3]:List Obj).foldl Zj w)
 rw[aF];obtain⟨Z,V⟩:∃Z,w.heap.size=Z:=⟨_,rfl⟩;have k0:F.heap[Z]?=some (.cells #[.slice va H vc,.slice fa nf fc,.slice la nl lc,.slice ta nt tc] 25):=CW aF V (i:=0) rfl;have k1:F.heap[Z+1]?=some (.cells #[.int .i64 0,.slice none 0 0,.bool false,.bool false,.slice none 0 0] 34):=CW aF V (i:=1) rfl;have k2:F.heap[Z+2]?=some (.cells #[.int .i64 0] 35):=CW aF V (i:=2) rfl;have k3:F.heap[Z+3]?=some (.cells #[.int .i64 0,.slice none 0 0,.bool false,.bool false,.slice none 0 0] 34):=CW aF V (i:=3) rfl;have k4:F.heap[Z+4]?=some (.map #[] 0):=CW aF V (i:=4) rfl;have k5:F.heap[Z+5]?=some (.map #[] 0):=CW aF V (i:=5) rfl;have k6:F.heap[Z+6]?=some (.cells #[.map (some (Z+4))] 64):=CW aF V (i:=6) (by rw[V];rfl);have k7:F.heap[Z+7]?=some (.cells #[.map (some (Z+5))] 65):=CW aF V (i:=7) (by rw[V];rfl);have k8:F.heap[Z+8]?=some (.cells #[.slice va H vc,.slice fa nf fc,.slice la nl lc,.slice ta nt tc] 25):=CW aF V (i:=8) rfl;have k9:F.heap[Z+9]?=some (.cells #[.int .i64 most] 3):=CW aF V (i:=9) rfl;obtain⟨aC,ah⟩:=MT aF;have ah:F.heap.size=Z+10:=by rw[ah,V];rfl
 rw[V];simp only[Nat.add_assoc,Zb];clear aF;have HK:=Aa (⟨ah,k0,k6,k7⟩:_/\_/\_/\_);have br:XW F Z0 er em:=hx.same λx D=>aC.block x (by omega);have cU:=NL (w:=F) (Z:=Z0) (Bp:=Z+8) (Bm:=Z+9) (eV:=Ce er em) aX br.t ⟨br.g.1,br.g.2.1⟩ (by omega) br.c (hp.below aC) hb hf hN k8 k9;refine Ni rfl (by decide) (gf:=53) (lb := #[.pointer (some ⟨Z+9,0,none⟩),.pointer (some ⟨Z+8,0,none⟩)]) rfl trivial (enters_of Tryz.func53 (by kernel_rfl) rfl)
  (Ia.any _ cU) (Below.refl _ _) (λx=>by cases x<;>rfl) NP NQ NN NO
  (AI F Z p) (λc _ O W=>c = .ret/\AX F Z p most O W)
  (AI.Hf (by omega)) (λc a5 O W W' h A s Y h4 h5=>⟨h.1,AX.Hf (by omega) a5 O W W' h.2 A s Y h4 h5⟩)
  (λa5 O W h=>h.inside) (λc a5 O W h=>h.2.inside)
  (λa5 O W h b' aW=>by
    rcases aW with aW|rfl|rfl
    ·exact⟨h.all0 b' (by omega),h.fixed b' (by omega) (by omega) (by omega) (by omega)⟩
    ·exact⟨h.all0 _ (by omega),h.fixed _ (by omega) (by omega) (by omega) (by omega)⟩
    ·exact⟨h.all0 _ (by omega),h.fixed _ (by omega) (by omega) (by omega) (by omega)⟩)
  (λb' aW=>by rcases aW with aW|rfl|rfl<;>omega)
  ⟨λb' aW=>aW,λb' aW=>aW,λb' _ _ _ _=>rfl,rfl,rfl,rfl,Xf _,[],rfl,by decide,k3,⟨λ_=>none,0,⟨#[],0,k4,⟨MapKept.stamped_empty 0,(λe he=>by simp at he),(λd v h=>by cases h)⟩,rfl⟩,Xf _,λx=>by simp[FA]⟩,⟨λ_=>none,0,⟨#[],0,k5,⟨MapKept.stamped_empty 0,(λe he=>by simp at he),(λd v h=>by cases h)⟩,rfl⟩,Xf _,λx=>by simp[Eb]⟩⟩
  (λ_ x a' O W=>a'={tmps := #[.agg #[.slice va H vc,.slice fa nf fc,.slice la nl lc,.slice ta nt tc],.int .i64 most,.pointer (some ⟨Z,0,none⟩),X1,.pointer (some ⟨Z+1,0,none⟩),.pointer (some ⟨Z+2,0,none⟩),.pointer (some ⟨Z+3,0,none⟩),.pointer (some ⟨Z+6,0,none⟩),.pointer (some ⟨Z+7,0,none⟩),(Ca (Ce er em) x).getD 0 X1,(Ca (Ce er em) x).getD 1 X1,X1,.map (some (Z+4)),.map (some (Z+5)),.agg #[.slice va H vc,.slice fa nf fc,.slice la nl lc,.slice ta nt tc],.int .i64 most,.func (.func 53) #[] #[.pointer (some ⟨Z+9,0,none⟩),.pointer (some ⟨Z+8,0,none⟩)],(Ca (Ce er em) x).getD 0 X1,(Ca (Ce er em) x).getD 1 X1,X1,X1,X1,X1,X1,X1,X1,X1,X1,X1,X1,X1,X1,X1,X1,X1,X1,X1,X1,X1,X1,X1,X1,X1,X1,X1,X1,X1,X1,X1,X1,X1,X1,X1,X1,X1,X1,X1,X1,X1,X1,X1,X1,X1,X1,X1,X1,X1,X1,X1,X1,X1,X1,X1,X1,X1,X1,X1],defers:=[]})
  (λ_ x a' _ O W W' h _ _ _ _ _=>h) ?assign ?body ?done ?stop
 case assign=>
  intro l' a5 x O W K B hE S
  cases x with
  |st r=>
   unfold Ca;dsimp only
   gi_wp2
   exact S _ O _ (Steps.refl O W) B rfl
  |er b=>
   unfold Ca;dsimp only
   gi_wp2
   exact S _ O _ (Steps.refl O W) B rfl
 case body=>
  rintro l' a5 x a' O W ⟨rr,eI⟩ fU B hE rfl;have a7:XW W Z0 er em:=br.same λx D=>B.fixed x (by omega) (by omega) (by omega) (by omega)
  cases x with
  |er b=>
   have da:=(B.fixed (Z+1) (by omega) (by omega) (by omega) (by omega)).trans k1;have cD:=(B.fixed (Z+2) (by omega) (by omega) (by omega) (by omega)).trans k2;have cz:=Pm a7.e a7.c b;obtain⟨c0,c1,c2,c3,c4,fz⟩:=GO da;obtain⟨d0,gz⟩:=DP cD;have f0:=fz 0;have f1:=fz 1;have f2:=fz 2;have f3:=fz 3;have f4:=fz 4;obtain⟨U,aU,q1,q2,q3,q4,q5,q6⟩:=OD da (.int .i64 0) (.slice none 0 0) (.bool false) (.bool false) (.slice none 0 0);have ao:Hv (AI F Z p) (λc _ O W=>c = .ret/\AX F Z p most O W) (a5++[.er b]) O W .ret {tmps := #[],defers:=[]} (U.setCell ⟨Z+2,0,none⟩ (.int .i64 (DB b))):=by
    have e2:U.heap[Z+2]?=_:=(q2 (Z+2) (by omega)).trans cD;have en:∀x,x≠Z+1->x≠Z+2->(U.setCell ⟨Z+2,0,none⟩ (.int .i64 (DB b))).heap[x]?=W.heap[x]?:=λx A s=>(XC U ⟨Z+2,0,none⟩ x _ s).trans (q2 x A);have hz:(U.setCell ⟨Z+2,0,none⟩ (.int .i64 (DB b))).heap.size=W.heap.size:=by rw[XG,q3]
    have cR:=B.size;refine⟨O,⟨q4,q5,q6,by rw[hz];exact Xf _,λ_ h=>h,λ_ h=>.inl h,λx D hn=>en x (λe=>hn (by rw[e];exact B.all0 _ (by omega))) (λe=>hn (by rw[e];exact B.all0 _ (by omega)))⟩,rfl,B.all0,λx D=>by rw[hz];exact B.inside x D,λx D=>(en x (by omega) (by omega)).trans (B.fixed x (by omega) (by omega) (by omega) (by omega)),q4.trans B.os,q5.trans B.tape,q6.trans B.output,by rw[hz];exact B.size,b,?_,?_,?_⟩
    ·cases b with
     |false=>exact hE
     |true=>rw[if_pos rfl,<-aa];exact hE
    ·exact(XC U ⟨Z+2,0,none⟩ (Z+1) _ (by show Z+1≠Z+2;omega)).trans q1
    ·exact(Xk U (Z+2) 0 _ _ _ e2).trans rfl
   have e0:U.cell? ⟨Z+2,0,none⟩=some (.int .i64 0):=(Xr (w:=W) (a:=⟨Z+2,0,none⟩) (q2 (Z+2) (by omega))).trans d0;have ez:U.frozen? ⟨Z+2,0,none⟩=false:=by
    have:=(q2 (Z+2) (by omega)).trans cD;simp[XE,this]
   replace cz:=Aa cz;replace ao:=Aa ao;replace aU:=Aa aU;obtain⟨ea,dr⟩:∃x,Ce er em b = .iface 346 (.pointer (some x)):=⟨_,rfl⟩;rw[dr] at cz;rw[show (Ca (Ce er em) (XS.er b)).getD 0 X1 = .pointer none from rfl,show (Ca (Ce er em) (XS.er b)).getD 1 X1 = .iface 346 (.pointer (some ea)) from dr];clear hx br a7 B hE hp hb hf hN aR aN aX k0 k1 k2 k3 k4 k5 k6 k7 k8 k9 aC cU ah HP dG da cD fz q1 q2 q3 q4 q5 q6 dr
   gi_wp2_with (refine⟨trivial,?_⟩;gi_at_call 24;refine(Zd l' (XT.2 cz.out)).mono ?_;rintro e w' ⟨rfl,rfl⟩)
   rw[aU.out];exact ao.out
  |st r=>
   obtain⟨dD,hS⟩:=hE;rw[aa] at hS;obtain⟨R,aV,aJ,ac,aw⟩:=B.rep;unfold Hl at ac;obtain⟨nx,ar⟩:=hS.st;obtain⟨e8,hmo⟩:=hS.mo;have aD:∀k,k<Z+10->r.b≠k:=λk I e=>hS.nb (by rw[e];exact B.all0 k (by omega));have bH:R.length<20000:=by rw[aV,Xm] at dD;exact dD
   obtain⟨l,hl⟩:∃x,R.map Ad.m=x:=⟨_,rfl⟩;have aq:l.length=R.length:=by rw[<-hl,Xm]
   rw[hl] at ac aw;obtain⟨n,hn⟩:∃x,R.length=x:=⟨_,rfl⟩;rw[hn] at ac aw bH aq;obtain⟨st,aS⟩:∃x,EU p.C l=x:=⟨_,rfl⟩;obtain⟨fq,bj⟩:∃x,Gd l=x:=⟨_,rfl⟩;rw[aS,bj] at ac;obtain⟨c0,c1,c2,c3,c4,fz⟩:=GO ac;have f0:=fz 0;have fE:wrap64 ((n:Int)+1)=(n:Int)+1:=by unfold wrap64;omega
   obtain⟨U,aU⟩:∃x,W.setCell ⟨Z+3,0,none⟩ (.int .i64 ((n:Int)+1))=x:=⟨_,rfl⟩;have r1:U.heap[Z+3]?=some (.cells #[.int .i64 ((n:Int)+1),.slice none 0 0,.bool st,.bool fq,.slice none 0 0] 34):=by rw[<-aU];exact(Xk W (Z+3) 0 _ _ _ ac).trans rfl
   have o1:∀x,x≠Z+3->U.heap[x]?=W.heap[x]?:=λx D=>by rw[<-aU];exact XC W ⟨Z+3,0,none⟩ x _ D
   have z1:U.heap.size=W.heap.size/\U.os=W.os/\U.tape=W.tape/\U.output=W.output:=by rw[<-aU];exact⟨XG ..,rfl,rfl,rfl⟩
   have ed:AP U r.b (.pointer none) (Aj p r.m) (AB r.m) (Bf r.m) r.mo (CR r.fr) r.y nx:=(o1 r.b (aD _ (by omega))).trans ar;obtain⟨-,-,s2,s3,-⟩:=CT ed;obtain⟨-,-,-,d3,-,gz⟩:=GO r1;have g3:=gz 3;obtain⟨ff,bu⟩:∃x,Bf r.m=x:=⟨_,rfl⟩;rw[bu] at s3;obtain⟨W2,bm⟩:∃x,U.setCell ⟨Z+3,3,none⟩ (.bool (fq||ff))=x:=⟨_,rfl⟩;have r2:W2.heap[Z+3]?=some (.cells #[.int .i64 ((n:Int)+1),.slice none 0 0,.bool st,.bool (fq||ff),.slice none 0 0] 34):=by rw[<-bm];exact(Xk U (Z+3) 3 _ _ _ r1).trans rfl
   have o2:∀x,x≠Z+3->W2.heap[x]?=W.heap[x]?:=λx D=>by rw[<-bm];exact(XC U ⟨Z+3,3,none⟩ x _ D).trans (o1 x D)
   have N:W2.heap.size=W.heap.size/\W2.os=W.os/\W2.tape=W.tape/\W2.output=W.output:=by rw[<-bm];exact⟨(XG ..).trans z1.1,z1.2.1,z1.2.2.1,z1.2.2.2⟩
   have bE:AP W2 r.b (.pointer none) (Aj p r.m) (AB r.m) (Bf r.m) r.mo (CR r.fr) r.y nx:=(o2 r.b (aD _ (by omega))).trans ar;have HQ:=Aa (⟨B,hS,aV,aJ,aw,hmo,aD,bH,hl,aq,hn,aS,bj,bu,a7⟩:_/\_/\_/\_/\_/\_/\_/\_/\_/\_/\_/\_/\_/\_/\_);have H2:=Aa (⟨r2,o2,N,bE⟩:_/\_/\_/\_);replace aU:=Aa aU;replace bm:=Aa bm;rw[show (Ca (Ce er em) (XS.st r)).getD 0 X1 = .pointer (some ⟨r.b,0,none⟩) from rfl,show (Ca (Ce er em) (XS.st r)).getD 1 X1 = .nilIface from rfl];clear hx br a7 B hS hp hb hf hN aR aN aX k0 k1 k2 k3 k4 k5 k6 k7 k8 k9 aC cU ah dG dD ac aw ar hmo aD bH hl aq hn aS bj bu fz r1 o1 z1 ed gz r2 o2 N bE aV aJ eI
   gi_upto_region 9 with fail
   try rw[fE]
   rw[aU.out];clear aU c0 c1 c2 c3 c4 f0
   gi_cut [] from 19 (λwc=>wc=W2)
   case first=>
    cases fq
    ·gi_wp2_with fail
     gi_meet
     case rel=>exact bm.out
    ·gi_wp2_with fail
     gi_meet
     case rel=>exact bm.out
   case rest=>
    rw[hcut];clear hcut bm d3 s2 s3 g3;obtain⟨r2,o2,N,bE⟩:=H2.out;obtain⟨B,hS,aV,aJ,aw,hmo,aD,bH,hl,aq,hn,aS,bj,bu,a7⟩:=HQ.out;obtain⟨ma,mc,hmq⟩:=At hmo;have dk:=bE;rw[hmq] at dk;have cJ:=Qx dk;obtain⟨ie,cQ⟩:∃x,decide ((AU p.C r.m).length=0)=x:=⟨_,rfl⟩;rw[cQ] at cJ;obtain⟨-,-,e2,-,-,ez⟩:=GO r2;have fp:=ez 2;obtain⟨-,-,s2,-⟩:=CT bE;obtain⟨G,hG⟩:∃x,AB r.m=x:=⟨_,rfl⟩;rw[hG] at s2;obtain⟨E,av⟩:∃x,W2.setCell ⟨Z+3,2,none⟩ (.bool (st||decide (0<G)))=x:=⟨_,rfl⟩;have r3:E.heap[Z+3]?=some (.cells #[.int .i64 ((n:Int)+1),.slice none 0 0,.bool (st||decide (0<G)),.bool (fq||ff),.slice none 0 0] 34):=by rw[<-av];exact(Xk W2 (Z+3) 2 _ _ _ r2).trans rfl
    have o3:∀x,x≠Z+3->E.heap[x]?=W.heap[x]?:=λx D=>by rw[<-av];exact(XC W2 ⟨Z+3,2,none⟩ x _ D).trans (o2 x D)
    have z3:E.heap.size=W.heap.size/\E.os=W.os/\E.tape=W.tape/\E.output=W.output:=by rw[<-av];exact⟨(XG ..).trans N.1,N.2.1,N.2.2.1,N.2.2.2⟩
    obtain⟨aX,hx,hZ0,hp,hb,hf,hN,aR,aN⟩:=HP.out;obtain⟨ah,k0,k6,k7⟩:=HK.out;have cR:=B.size;have dl:∀x,x<Z+10->x≠Z+3->x≠Z+4->x≠Z+5->E.heap[x]?=F.heap[x]?:=λx A s Y h4=>(o3 x s).trans (B.fixed x (by omega) s Y h4);have et:AP E r.b (.pointer none) (Aj p r.m) (AB r.m) (Bf r.m) r.mo (CR r.fr) r.y nx:=(o3 r.b (aD _ (by omega))).trans ((o2 r.b (aD _ (by omega))).symm.trans bE);have ey:XW E Z0 er em:=a7.same λx D=>o3 x (by omega);obtain⟨mx,d6⟩:=ey.m;have bT:Below E.heap.size E E.drew:=⟨rfl,rfl,rfl,Xf _,λ_ _=>rfl⟩;have cm:=Pj (w:=E.drew) (p:=p) (m:=r.m) (va:=va) (vc:=vc) (fa:=fa) (fc:=fc) (lV:=.slice la nl lc) (tV:=.slice ta nt tc) (vn:=H) (fn_:=nf) et (by rw[<-aa];exact aR) hS.ok (by rw[<-aa];exact hf) (by rw[<-aa];exact aN r.m (by rw[aa];exact hS.ok)) d6 (by rw[b7.out.1,<-aa];rfl) (by rw[b7.out.2,<-aa];rfl);have fI:Tryz.prog.follows Departure.mixedOrders=true:=by kernel_rfl
    obtain⟨q0,q1,q2,q3⟩:=Df ((dl Z (by omega) (by omega) (by omega) (by omega)).trans k0);obtain⟨q6,-⟩:=DP ((dl (Z+6) (by omega) (by omega) (by omega) (by omega)).trans k6);have bS:Hid (E.drew.cell? ⟨Z+6,0,none⟩=some (.map (some (Z+4)))/\E.drew.cell? ⟨Z,0,none⟩=some (.slice va H vc)/\E.drew.cell? ⟨Z,1,none⟩=some (.slice fa nf fc)/\E.drew.cell? ⟨Z,2,none⟩=some (.slice la nl lc)/\E.drew.cell? ⟨Z,3,none⟩=some (.slice ta nt tc)):=⟨q6,q0,q1,q2,q3⟩;obtain⟨fo,no,bX,dH,dx⟩:=aw.o;have cp:Av sk E (Z+4) fo no:=bX.same (o3 _ (by omega));have bF:Av sk W2 (Z+4) fo no:=bX.same (o2 _ (by omega));obtain⟨T,hT⟩:∃T:Xg->Prop,T=λwc=>(∃f J,Av sk wc (Z+4) f J/\J<=n+1/\∀x,f x≠none↔FA p (l++[r.m]) x)/\wc.heap[Z+3]?=some (.cells #[.int .i64 ((n:Int)+1),.slice none 0 0,.bool (EU p.C (l++[r.m])),.bool (Gd (l++[r.m])),.slice none 0 0] 34)/\Ae (λb=>b=Z+3\/b=Z+4) W wc:=⟨_,rfl⟩;have dh:Gd (l++[r.m])=(fq||ff):=by unfold Gd at bj |-;rw[MQ,bj,bu]
    have cW:Hid (ie=false->T W2):=λz=>by
     rw[hT];have he:Fa p.C r.m=false:=by unfold Fa;rw[cQ,z]
     refine⟨⟨fo,no,bF,by omega,λx=>by rw[dx,OF,he];simp⟩,?_,⟨N.2.1,N.2.2.1,N.2.2.2,by rw[N.1];exact Xf _,λx _ h=>o2 x (λe=>h (.inl e))⟩⟩;rw[dh];have:EU p.C (l++[r.m])=st:=by unfold EU at aS |-;rw[MQ,aS,he];simp
     rw[this];exact r2
    have ao:Hid (ie=true->∀X,Below E.heap.size E X->(X.cell? ⟨Z+6,0,none⟩=some (.map (some (Z+4)))/\X.cell? ⟨Z,0,none⟩=some (.slice va H vc)/\X.cell? ⟨Z,1,none⟩=some (.slice fa nf fc)/\X.cell? ⟨Z,2,none⟩=some (.slice la nl lc)/\X.cell? ⟨Z,3,none⟩=some (.slice ta nt tc))/\∃M,(Instr.mapUpdate 64 (.map (some (Z+4))) (.string (bs (BD p r.m))) (.agg #[])).run Tryz.prog X = .ok () M/\(M.cell? ⟨Z+6,0,none⟩=some (.map (some (Z+4)))/\M.cell? ⟨Z,0,none⟩=some (.slice va H vc)/\M.cell? ⟨Z,1,none⟩=some (.slice fa nf fc)/\M.cell? ⟨Z,2,none⟩=some (.slice la nl lc)/\M.cell? ⟨Z,3,none⟩=some (.slice ta nt tc))/\T M):=λz X aj=>by
     have dP:E.heap.size=W.heap.size:=z3.1;have k4:∀x k,x<Z+10->X.cell? ⟨x,k,none⟩=E.cell? ⟨x,k,none⟩:=λx k A=>Xr (w:=E) (a:=⟨x,k,none⟩) (aj.block x (by omega));refine⟨⟨(k4 _ _ (by omega)).trans q6,(k4 _ _ (by omega)).trans q0,(k4 _ _ (by omega)).trans q1,(k4 _ _ (by omega)).trans q2,(k4 _ _ (by omega)).trans q3⟩,?_⟩;have eW:Av sk X (Z+4) fo no:=cp.same (aj.block _ (by omega));obtain⟨M,cI,fj,cV,f6⟩:=eW.put Tryz.strKey Tryz.underlying64 (BD p r.m) (.agg #[]);have k5:∀x,x<X.heap.size->x≠Z+4->M.heap[x]?=X.heap[x]?:=λx A s=>cV.block x A (λe=>s (by injection e with e));have ch:∀x k,x<Z+10->x≠Z+4->M.cell? ⟨x,k,none⟩=X.cell? ⟨x,k,none⟩:=λx k A s=>Xr (w:=X) (a:=⟨x,k,none⟩) (k5 x (by have:=aj.size;omega) s);refine⟨M,cI,⟨(ch _ _ (by omega) (by omega)).trans ((k4 _ _ (by omega)).trans q6),(ch _ _ (by omega) (by omega)).trans ((k4 _ _ (by omega)).trans q0),(ch _ _ (by omega) (by omega)).trans ((k4 _ _ (by omega)).trans q1),(ch _ _ (by omega) (by omega)).trans ((k4 _ _ (by omega)).trans q2),(ch _ _ (by omega) (by omega)).trans ((k4 _ _ (by omega)).trans q3)⟩,?_⟩;rw[hT];have he:Fa p.C r.m=true:=by unfold Fa;rw[cQ,z]
     refine⟨⟨_,_,fj,?_,λx=>?_⟩,?_,?_⟩
     ·split<;>omega
     ·rw[OF,he];unfold Be
      by_cases e:x=BD p r.m
      ·rw[if_pos e];simp[e]
      ·rw[if_neg e,dx];constructor
       ·exact λz=>.inl z
       ·rintro(z|z)
        ·exact z
        ·exact absurd z.2.symm e
     ·rw[dh];have:EU p.C (l++[r.m])=(st||decide (0<G)):=by unfold EU at aS |-;rw[MQ,aS,he,hG];simp
      rw[this]
      exact(k5 _ (by have:=aj.size;omega) (by omega)).trans ((aj.block _ (by omega)).trans r3)
     ·exact⟨cV.os.trans (aj.os.trans z3.2.1),cV.tape.trans (aj.tape.trans z3.2.2.1),cV.output.trans (aj.output.trans z3.2.2.2),by have:=aj.size;omega,λx A s=>(k5 x (by have:=aj.size;omega) (λe=>s (.inr e))).trans ((aj.block x (by omega)).trans (o3 x (λe=>s (.inl e))))⟩
    have HT:=Aa hT;replace av:=Aa av;replace cm:=Aa cm;replace bT:=Aa bT;unfold Ab at cJ;clear r2 o2 N bE B hS aV aJ aw hmo aD bH hl aq hn aS bj bu a7 hmq dk cQ ez hG r3 o3 z3 aX hx hZ0 hp hb hf hN aR aN ah k0 k6 k7 cR dl et ey d6 q0 q1 q2 q3 q6 bX dH dx cp bF hT dh H2
    gi_upto_if 38 with (refine⟨trivial,?_⟩;gi_at_call 25;refine(Zd l' (XT.2 cJ)).mono ?_;rintro e w' ⟨rfl,rfl⟩)
    clear cJ
    gi_cut [] from 19 (λwc=>T wc)
    case first=>
     cases ie
     ·gi_wp2_with fail
      gi_meet
      case rel=>first|exact cW.out rfl|exact cW.out trivial
     ·cases st<;>
      ·gi_upto_region 12 with fail
       have cH:=av.out
       (first|rw[Bool.false_or] at cH|rw[Bool.true_or] at cH)
       rw[cH];clear cH;refine OJ (λu=>u.cell? ⟨Z+6,0,none⟩=some (.map (some (Z+4)))/\u.cell? ⟨Z,0,none⟩=some (.slice va H vc)/\u.cell? ⟨Z,1,none⟩=some (.slice fa nf fc)/\u.cell? ⟨Z,2,none⟩=some (.slice la nl lc)/\u.cell? ⟨Z,3,none⟩=some (.slice ta nt tc)) fI ?_;refine FD (i:=0) (v:=.map (some (Z+4))) rfl (by kernel_rfl) (λ_ _ _ h=>h) (by kernel_rfl) (by kernel_rfl) ⟨by rfl,?_,λ_=>rfl⟩ bS.out ?_
       ·intro w9 bG;obtain⟨x0,x1,x2,x3,x4⟩:=bG;go_simp
       simp only[X7,sq];refine FD (i:=1) (v:=.pointer (some ⟨r.b,0,none⟩)) rfl (by kernel_rfl) (λ_ _ _ h=>h) (by kernel_rfl) (by kernel_rfl) ⟨by rfl,?_,λ_=>rfl⟩ bS.out ?_
       ·intro w9 bG;obtain⟨x0,x1,x2,x3,x4⟩:=bG;go_simp
       simp only[X7,sq];refine FD (i:=2) (v:=.agg #[.slice va H vc,.slice fa nf fc,.slice la nl lc,.slice ta nt tc]) rfl (by kernel_rfl) (λ_ _ _ h=>h) (by kernel_rfl) (by kernel_rfl) ⟨by rfl,?_,λ_=>rfl⟩ bS.out ?_
       ·intro w9 bG;obtain⟨x0,x1,x2,x3,x4⟩:=bG;go_simp
       simp only[X7,sq];refine FD (i:=4) (v:=.agg #[]) rfl (by kernel_rfl) (λ_ _ _ h=>h) (by kernel_rfl) (by kernel_rfl) ⟨by rfl,?_,λ_=>rfl⟩ bS.out ?_
       ·intro w9 bG;obtain⟨x0,x1,x2,x3,x4⟩:=bG;go_simp
       simp only[X7,sq];refine Mo (i:=3) (by kernel_rfl) rfl (λK S=>?_)
       go_simp
       gi_wp2_with (refine⟨trivial,?_⟩;gi_at_call 26;refine(Zd l' (XT.2 cm.out)).mono ?_;rintro e X ⟨rfl,aj⟩)
       obtain⟨hS4,M,e9,hS5,dt⟩:_/\∃M,_/\_/\T M:=by first|exact ao.out rfl X (bT.out.trans aj)|exact ao.out trivial X (bT.out.trans aj)|exact ao.out X (bT.out.trans aj)
       refine S _ _ hS4 ?_;clear S K;refine Mo (i:=5) (by kernel_rfl) rfl (λK S=>?_)
       go_simp
       refine S _ _ hS5 ?_;clear S K;refine QD (by kernel_rfl) ?_;replace dt:=Aa dt;clear e9 hS5 hS4 aj ao cW cm bS
       gi_wp2_with fail
       gi_meet
       case rel=>exact dt.out
    case rest=>
     rw[HT.out] at hcut;obtain⟨dR,eu,aK⟩:=hcut;obtain⟨B,hS,aV,aJ,aw,hmo,aD,bH,hl,aq,hn,aS,bj,bu,a7⟩:=HQ.out;obtain⟨aX,hx,hZ0,hp,hb,hf,hN,aR,aN⟩:=HP.out;obtain⟨ah,k0,k6,k7⟩:=HK.out;have cR:=B.size;rw[aa] at hf;have eH:(AU p.C r.m).length<=4:=by
      rw[LO];have A:=Lx p.C r.m r.m.thr.length;have s:=hS.ok.tl;have Y:=hf.fit.four;unfold Bj
      omega
     obtain⟨fg,ar⟩:=hS.st;have d7:=hS.lt;have keepW:∀(wr:Xg),Ae (λb=>b=Z+5) wc wr->(∀x,x<W.heap.size->x≠Z+3->x≠Z+4->x≠Z+5->wr.heap[x]?=W.heap[x]?):=λwr I x A s Y h4=>(I.block x (XF A aK.size) h4).trans (aK.block x A (λe=>by rcases e with e|e;exact s e;exact Y e));have ej:∀(wr:Xg),Ae (λb=>b=Z+5) wc wr->AP wr r.b (.pointer none) (Aj p r.m) (AB r.m) (Bf r.m) r.mo (CR r.fr) r.y fg:=λwr I=>(keepW wr I r.b d7 (aD _ (by omega)) (aD _ (by omega)) (aD _ (by omega))).trans ar;have dY:∀(wr:Xg),Ae (λb=>b=Z+5) wc wr->wr.ownsRow e8 48 4 r.mo (AU p.C r.m).length ((AU p.C r.m).flatMap Dg):=λwr I=>Eu hmo λx D=>by
      have A:=(hmo.lt x D).2;have s:∀k,k<Z+10->x≠k:=λk I e=>hS.nm x D (by rw[e];exact B.all0 k (by omega));exact keepW wr I x A (s _ (by omega)) (s _ (by omega)) (s _ (by omega))
     have aH:∀(wr:Xg),Ae (λb=>b=Z+5) wc wr->∀x,x<Z+10->x≠Z+3->x≠Z+4->x≠Z+5->wr.heap[x]?=F.heap[x]?:=λwr I x A s Y h4=>(keepW wr I x (by omega) s Y h4).trans (B.fixed x (by omega) s Y h4);have cn:=fun(wr:Xg) (I:Ae (λb=>b=Z+5) wc wr) (x:Int)=>Ue (x:=x) (ej wr I) (dY wr I) eH;have cd:H=p.vs.length:=by rw[b7.out.1,<-aa];rfl
     have hv4:=hf.v;obtain⟨q0,-,-,-⟩:=Df ((aH wc (Ae.refl _) Z (by omega) (by omega) (by omega) (by omega)).trans k0);have b6:∃f J,Av ik wc (Z+5) f J/\J<=n*4+0/\∀x:Int,f x≠none↔Eb p l x\/((0<=x/\x<((0:Nat):Int))/\(Cr x (AU p.C r.m)).isSome=true):=by
      obtain⟨f,J,A,s,Y⟩:=aw.y;refine⟨f,J,A.same (aK.block _ (by omega) (λe=>by rcases e with e|e<;>omega)),by omega,λx=>?_⟩;rw[Y];constructor
      ·exact .inl
      ·rintro(z|z)
       ·exact z
       ·have:=z.1;omega
     have cv:∀wr:Xg,(∃f J,Av ik wr (Z+5) f J/\J<=n*4+H/\∀x:Int,f x≠none↔Eb p l x\/((0<=x/\x<((H:Nat):Int))/\(Cr x (AU p.C r.m)).isSome=true))->Ae (λb=>b=Z+5) wc wr->Hv (AI F Z p) (λc _ O W=>c = .ret/\AX F Z p most O W) (a5++[.st r]) O W .normal {tmps := #[],defers:=[]} wr:=λwr hY I=>by
      have el:W.heap.size<=wr.heap.size:=Xu aK.size I.size;refine⟨λb=>O b\/(W.heap.size<=b/\b<wr.heap.size),⟨I.os.trans aK.os,I.tape.trans aK.tape,I.output.trans aK.output,el,λ_ h=>.inl h,λ_ h=>h.imp id And.left,λx A s=>keepW wr I x A (λe=>s (by rw[e];exact B.all0 _ (by omega))) (λe=>s (by rw[e];exact B.all0 _ (by omega))) (λe=>s (by rw[e];exact B.all0 _ (by omega)))⟩,λx D=>.inl (B.all0 x D),λx D=>D.elim (λz=>XF (B.inside x z) el) And.right,λx A s Y h4=>(keepW wr I x (by omega) s Y h4).trans (B.fixed x A s Y h4),I.os.trans (aK.os.trans B.os),I.tape.trans (aK.tape.trans B.tape),I.output.trans (aK.output.trans B.output),by omega,R++[r],?_,?_,?_,?_,?_⟩
      ·rw[aV,XH];rfl
      ·rw[Xd,hn];show n+1<=20000;omega
      ·rw[Xd,hn,XH,hl]
       exact(I.block _ (XF (by omega) aK.size) (by omega)).trans eu
      ·obtain⟨f,J,A,s,Y⟩:=dR;rw[Xd,hn,XH,hl]
       exact⟨f,J,A.same (I.block _ (XF (by omega) aK.size) (by omega)),s,Y⟩
      ·obtain⟨f,J,A,s,Y⟩:=hY;rw[Xd,hn,XH,hl];refine⟨f,J,A,by show J<=(n+1)*4;omega,λx=>?_⟩;rw[Y,show (l++[r].map Ad.m)=l++[r.m] from rfl,Us,cd]
     replace cv:=Aa cv;replace cn:=Aa cn;replace b6:=Aa b6;have HR:=Aa (⟨aH,hv4,cd,k7⟩:_/\_/\_/\_);have fN:∀u:Xg,(binOp .neq 32 (.slice none 0 0) (.slice none 0 0)).run Tryz.prog u = .ok (.bool false) u:=λu=>by kernel_rfl
     have fZ:∀(g:Nat) (u:Xg),(binOp .neq 32 (.slice (some ⟨g,0,none⟩) 2 2) (.slice none 0 0)).run Tryz.prog u = .ok (.bool true) u:=λg u=>by kernel_rfl
     clear dR eu aK B hS aV aJ aw hmo aD bH hl aq hn aS bj bu a7 aX hx hZ0 hp hb hf hN aR aN ah k0 k6 k7 cR eH ar d7 keepW ej dY aH hv4 cd HQ HT cW ao bS cm bT av e2 fp s2
     gi_wp2_with fail
     gi_loopw [57] (λkv wr=>∃k:Nat,k<=H/\kv = .int .i64 k/\(∃f J,Av ik wr (Z+5) f J/\J<=n*4+k/\∀x:Int,f x≠none↔Eb p l x\/((0<=x/\x<(k:Int))/\(Cr x (AU p.C r.m)).isSome=true))/\Ae (λb=>b=Z+5) wc wr) (λkv _=>H - (intOf kv).toNat)
     case atStart=>exact⟨0,Nat.zero_le _,rfl,b6.out,Ae.refl _⟩
     case round=>
      obtain⟨k,I,rfl,hY,hkw⟩:=hrel
      by_cases h5:k<H
      ·have fQ:(k:Int)<(H:Int):=by omega
       obtain⟨aH,hv4,cd,k7⟩:=HR.out;have hR:=cn.out wr hkw (k:Int);obtain⟨q7,-⟩:=DP ((aH wr hkw (Z+7) (by omega) (by omega) (by omega) (by omega)).trans k7);have bY:Z+7<wr.heap.size:=World.block_lt_of_cell? _ _ q7;have hwk:wrap64 ((k:Int)+1)=(k:Int)+1:=by unfold wrap64;omega
       have HY:=Aa (⟨hY,hkw,h5,bY⟩:_/\_/\_/\_);replace hR:=Aa hR;unfold Ab at hR;have h7:=Aa q7;clear hY hkw h5 bY aH hv4 cd k7 cn HR b6 I q7
       gi_wp2_with fail
       refine⟨trivial,(Zd l' (XT.2 hR.out)).mono ?_⟩;rintro e w2 ⟨v,rfl,hv,ak⟩;clear hR;obtain⟨⟨f,J,cw,eD,cZ⟩,hkw,h5,bY⟩:=HY.out;have bf:Ae (λb=>b=Z+5) wc w2:=hkw.trans (Ae.CK ak);have bF:=cw.same (w':=w2) (ak.block _ cw.lt);have fY:w2.cell? ⟨Z+7,0,none⟩=some (.map (some (Z+5))):=(ak.cell (p:=⟨Z+7,0,none⟩) bY).trans h7.out;unfold Id at hv
       cases hq:Cr (k:Int) (AU p.C r.m) with
       |none=>
        rw[hq] at hv;dsimp only at hv;have bc:Hid (k+1<=H/\(∃f J,Av ik w2 (Z+5) f J/\J<=n*4+(k+1)/\∀x:Int,f x≠none↔Eb p l x\/((0<=x/\x<((k+1:Nat):Int))/\(Cr x (AU p.C r.m)).isSome=true))/\Ae (λb=>b=Z+5) wc w2):=by
         refine⟨h5,⟨f,J,bF,by omega,λx=>?_⟩,bf⟩;rw[cZ];constructor
         ·rintro(z|⟨z1,N⟩)
          ·exact .inl z
          ·exact .inr ⟨by omega,N⟩
         ·rintro(z|⟨z1,N⟩)
          ·exact .inl z
          ·by_cases e:x=k
           ·rw[e,hq] at N;cases N
           ·exact .inr ⟨by omega,N⟩
        subst hv;clear cw eD cZ hkw h5 bY bf bF HY ak hq
        gi_wp2_with fail
        go_roundw
        case rel=>
         (try rw[hwk])
         exact⟨k+1,bc.out.1,rfl,bc.out.2.1,bc.out.2.2⟩
        case measure=>
         (try rw[hwk])
         exact Xs bc.out.1 (Xt k)
       |some ab=>
        rw[hq] at hv;obtain⟨a,b⟩:=ab;obtain⟨g,rfl,eQ,fC⟩:=hv;obtain⟨w3,cI,cp,cg,dP⟩:=bF.put (aah Tryz.underlying3) Tryz.underlying65 (k:Int) (.agg #[]);have cI:(Instr.mapUpdate 65 (.map (some (Z+5))) (.int .i64 k) (.agg #[])).run Tryz.prog w2 = .ok () w3:=cI;have bc:Hid (k+1<=H/\(∃f J,Av ik w3 (Z+5) f J/\J<=n*4+(k+1)/\∀x:Int,f x≠none↔Eb p l x\/((0<=x/\x<((k+1:Nat):Int))/\(Cr x (AU p.C r.m)).isSome=true))/\Ae (λb=>b=Z+5) wc w3):=by
         refine⟨h5,⟨_,_,cp,by split<;>omega,λx=>?_⟩,⟨cg.os.trans bf.os,cg.tape.trans bf.tape,cg.output.trans bf.output,by have:=bf.size;omega,λx A s=>(cg.block x (by have:=bf.size;omega) (λe=>s (by injection e with e))).trans (bf.block x A s)⟩⟩;unfold Be
         by_cases e:x=(k:Int)
         ·rw[if_pos e];constructor
          ·intro _;refine .inr ⟨by omega,?_⟩;rw[e,hq];rfl
          ·intro _ z;cases z
         ·rw[if_neg e,cZ];constructor
          ·rintro(z|⟨z1,N⟩)
           ·exact .inl z
           ·exact .inr ⟨by omega,N⟩
          ·rintro(z|⟨z1,N⟩)
           ·exact .inl z
           ·exact .inr ⟨by omega,N⟩
        clear cw eD cZ hkw h5 bY bf bF HY ak hq cp cg dP eQ fC
        gi_wp2_with fail
        go_roundw
        case rel=>
         (try rw[hwk])
         exact⟨k+1,bc.out.1,rfl,bc.out.2.1,bc.out.2.2⟩
        case measure=>
         (try rw[hwk])
         exact Xs bc.out.1 (Xt k)
      ·have e3:k=H:=by omega
       subst e3;have HN:=Aa (cv.out wr hY hkw);clear hY hkw cv cn HR b6 h5 I
       gi_wp2_with fail
       exact HN.out
 case done=>
  rintro xs O W fx B dQ S;have bD:F.heap.size<W.heap.size:=(Xa.1 S).1
  rcases fx with⟨a5,e,rfl⟩|⟨hr,base,fb,kb,R',ew,dc,fl,ba⟩
  ·obtain⟨R,h,-⟩:=B.rep;have:XS.er e∈R.map XS.st:=by rw[<-h];simp
   obtain⟨q,-,hq⟩:=Yg.1 this
   cases hq
  ·obtain⟨R,aV,aJ,ac,aw⟩:=B.rep;have eZ:R=R':=by
    have h:R.map XS.st=R'.map XS.st:=aV.symm.trans ew;have fu:∀(a b:List Ad),a.map XS.st=b.map XS.st->a=b:=by
     intro a
     induction a with
     |nil=>intro b h;cases b with
      |nil=>rfl
      |cons y b=>cases h
     |cons x a ih=>intro b h;cases b with
      |nil=>cases h
      |cons y b=>
       injection h with A s
       injection A with A
       rw[A,ih b s]
    exact fu R R' h
   subst eZ;rw[aa] at dc ba;obtain⟨l,hl⟩:∃x,R.map Ad.m=x:=⟨_,rfl⟩;have aq:l.length=R.length:=by rw[<-hl,Xm]
   have ex:∀m,m∈l->Bt p m:=λm hm=>by
    rw[<-hl,Yg] at hm;obtain⟨r,fF,rfl⟩:=hm;obtain⟨j,hj⟩:=List.mem_iff_getElem?.1 fF;exact dc.ok j r hj
   rw[hl] at ac aw ba;obtain⟨st,ar⟩:∃x,EU p.C l=x:=⟨_,rfl⟩;obtain⟨fq,bv⟩:∃x,Gd l=x:=⟨_,rfl⟩;unfold Hl at ac;rw[ar,bv,<-aq] at ac;obtain⟨fo,no,bX,dH,hmo⟩:=aw.o;obtain⟨fy,ny,bO,bZ,bl⟩:=aw.y;have dN:∀x,fo x≠none->x.length<=maxLen:=λx D=>by
    obtain⟨m,hm,-,rfl⟩:=(hmo x).1 D;have A:=Qr (aN m (by rw[aa];exact ex m hm));rw[aa] at A;have s:(BD p m).length<=140737488355328:=by
     unfold BD
     by_cases e:0<AB m
     ·rw[if_pos e];exact A.2
     ·rw[if_neg e,List.append_nil];exact A.1
    exact Xu s (by unfold maxLen;decide)
   have bx:∀x,fy x≠none->0<=x/\x<1000:=λx D=>by
    have A:=((bl x).1 D).1;have s:p.vs.length<=4:=by rw[<-aa];exact hf.v
    omega
   have cS:=TE 7 bX dN (by omega);have aH:∀x,x<Z+10->x≠Z+3->x≠Z+4->x≠Z+5->W.heap[x]?=F.heap[x]?:=λx A=>B.fixed x (by omega);obtain⟨q6,-⟩:=DP ((aH (Z+6) (by omega) (by omega) (by omega) (by omega)).trans k6);have i1:=(aH (Z+1) (by omega) (by omega) (by omega) (by omega)).trans k1;have i2:=(aH (Z+2) (by omega) (by omega) (by omega) (by omega)).trans k2;have i7:=(aH (Z+7) (by omega) (by omega) (by omega) (by omega)).trans k7;have hBWw:Below w.heap.size w W:=⟨B.os.trans aC.os,B.tape.trans aC.tape,B.output.trans aC.output,Xu aC.size B.size,λb' aW=>(aH b' (by omega) (by omega) (by omega) (by omega)).trans (aC.block b' aW)⟩;have HD:=Aa (⟨ac,bO,bx,bZ,ba,aq,ar,bv,hmo,bl,hr,S,bD,ah,aJ,hBWw,i1,i2,i7,V⟩:_/\_/\_/\_/\_/\_/\_/\_/\_/\_/\_/\_/\_/\_/\_/\_/\_/\_/\_/\_);clear hx br aX hp hb hf hN aR aN k0 k1 k2 k3 k4 k5 k6 k7 k8 k9 aC cU ah dG B dQ S bD ew dc fl ba aV aJ ac aw hl aq ex ar bv dH hmo bO bZ bl bx aH i1 i2 i7 hBWw hr
   gi_wp2_with fail
   refine⟨trivial,(WO _ _ _).mono ?_⟩;rintro e w1 ⟨rfl,he⟩;rw[he];clear he
   gi_wp2_with fail
   refine⟨trivial,cS.mono ?_⟩;rintro e w2 ⟨ov,os,rfl,cO,cf,ct,ak⟩;clear cS bX dN q6;obtain⟨oa,oc,dV⟩:=At cO;obtain⟨on,dL⟩:∃x,os.length=x:=⟨_,rfl⟩;rw[dL] at dV;subst dV;obtain⟨ac,bO,bx,bZ,ba,aq,ar,bv,hmo,bl,hr,S,bD,ah,aJ,hBWw,i1,i2,i7,V⟩:=HD.out;have r2:=(ak.block (Z+3) (by omega)).trans ac;obtain⟨-,c1,-,-,-,fz⟩:=GO r2;have f1:=fz 1;obtain⟨E,av⟩:∃x,w2.setCell ⟨Z+3,1,none⟩ (.slice oa on oc)=x:=⟨_,rfl⟩;have r3:E.heap[Z+3]?=some (.cells #[.int .i64 (l.length:Int),(.slice oa on oc),.bool st,.bool fq,.slice none 0 0] 34):=by rw[<-av];exact(Xk w2 (Z+3) 1 _ _ _ r2).trans rfl
   have o3:∀x,x≠Z+3->E.heap[x]?=w2.heap[x]?:=λx D=>by rw[<-av];exact XC w2 ⟨Z+3,1,none⟩ x _ D
   have z3:E.heap.size=w2.heap.size/\E.os=w2.os/\E.tape=w2.tape/\E.output=w2.output:=by rw[<-av];exact⟨XG ..,rfl,rfl,rfl⟩
   have cE:=ak.size;have bM:∀x,x<W.heap.size->x≠Z+3->E.heap[x]?=W.heap[x]?:=λx A s=>(o3 x s).trans (ak.block x A);have hrow3:E.ownsRow W.heap.size 9 1 (.slice oa on oc) os.length (os.map λx=>Value.string (bs x)):=Eu cO λx D=>o3 x (by have:=(cO.lt x D).1;omega);have cY:=TF 7 (bO.same (bM _ (by omega) (by omega))) bx (by omega);obtain⟨q7,-⟩:=DP ((bM (Z+7) (by omega) (by omega)).trans i7);have HE:=Aa (⟨r3,bM,z3,cE,hrow3,cf,ct,ak⟩:_/\_/\_/\_/\_/\_/\_/\_);replace dL:=Aa dL;replace av:=Aa av;replace cY:=Aa cY;have h7:=Aa q7;clear ac bO bx bZ ba aq ar bv hmo bl hr S bD ah aJ hBWw i1 i2 i7 V r2 fz r3 o3 z3 cE bM hrow3 cO cf ct ak q7
   gi_upto_region 20 with fail
   rw[av.out];have q7:=h7.out;clear av c1 f1 h7
   gi_wp2_with fail
   refine⟨trivial,(WQ _ _ _).mono ?_⟩;rintro e X ⟨rfl,he⟩;rw[he];clear he
   gi_wp2_with fail
   refine⟨trivial,cY.out.mono ?_⟩;rintro e M ⟨rv,rs,rfl,cC,dW,dO,bq⟩;clear cY q7;obtain⟨ra,rc,eE⟩:=At cC;obtain⟨rn,dp⟩:∃x,rs.length=x:=⟨_,rfl⟩;rw[dp] at eE;subst eE;obtain⟨ac,bO,bx,bZ,ba,aq,ar,bv,hmo,bl,hr,S,bD,ah,aJ,hBWw,i1,i2,i7,V⟩:=HD.out;obtain⟨r3,bM,z3,cE,hrow3,cf,ct,ak⟩:=HE.out;have eL:=bq.size;have eS:=z3.1;have r5:=(bq.block (Z+3) (by omega)).trans r3;obtain⟨a0,a1,a2,a3,a4,az⟩:=GO r5;have f4:=az 4;obtain⟨W6,bP⟩:∃x,M.setCell ⟨Z+3,4,none⟩ (.slice ra rn rc)=x:=⟨_,rfl⟩;have r6:W6.heap[Z+3]?=some (.cells #[.int .i64 (l.length:Int),(.slice oa on oc),.bool st,.bool fq,(.slice ra rn rc)] 34):=by rw[<-bP];exact(Xk M (Z+3) 4 _ _ _ r5).trans rfl
   have o6:∀x,x≠Z+3->W6.heap[x]?=M.heap[x]?:=λx D=>by rw[<-bP];exact XC M ⟨Z+3,4,none⟩ x _ D
   have z6:W6.heap.size=M.heap.size/\W6.os=M.os/\W6.tape=M.tape/\W6.output=M.output:=by rw[<-bP];exact⟨XG ..,rfl,rfl,rfl⟩
   have eY:=z6.1;have cc:∀x,x<W.heap.size->x≠Z+3->W6.heap[x]?=W.heap[x]?:=λx A s=>(o6 x s).trans ((bq.block x (by omega)).trans (bM x A s));have j1:=(cc (Z+1) (by omega) (by omega)).trans i1;have j2:=(cc (Z+2) (by omega) (by omega)).trans i2;obtain⟨b0,b1,b2,b3,b4,bz⟩:=GO j1;have y0:=bz 0;have y1:=bz 1;have y2:=bz 2;have y3:=bz 3;have y4:=bz 4;obtain⟨d0,d1,d2,d3,d4,-⟩:=GO r6;obtain⟨x0,xz⟩:=DP j2;obtain⟨W7,cT,p1,p2,p3,p4,p5,p6⟩:=OD j1 (.int .i64 (l.length:Int)) (.slice oa on oc) (.bool st) (.bool fq) (.slice ra rn rc);have e7:W7.heap[Z+2]?=_:=(p2 (Z+2) (by omega)).trans j2;obtain⟨e0,ez⟩:=DP e7;obtain⟨W8,bN⟩:∃x,W7.setCell ⟨Z+2,0,none⟩ (.int .i64 0)=x:=⟨_,rfl⟩;have o8:∀x,x≠Z+2->W8.heap[x]?=W7.heap[x]?:=λx D=>by rw[<-bN];exact XC W7 ⟨Z+2,0,none⟩ x _ D
   have z8:W8.heap.size=W7.heap.size/\W8.os=W7.os/\W8.tape=W7.tape/\W8.output=W7.output:=by rw[<-bN];exact⟨XG ..,rfl,rfl,rfl⟩
   have fi:=z8.1;have m1:W8.heap[Z+1]?=_:=(o8 (Z+1) (by omega)).trans p1;have m2:W8.heap[Z+2]?=some (.cells #[.int .i64 0] 35):=by rw[<-bN];exact(Xk W7 (Z+2) 0 _ _ _ e7).trans rfl
   have oW:∀x,x≠Z+1->x≠Z+2->W8.heap[x]?=W6.heap[x]?:=λx A s=>(o8 x s).trans (p2 x A);have ef:W8.heap[Z+10]?=some (.deferred (some [])):=by
    rw[<-ah]
    exact(oW _ (by omega) (by omega)).trans ((cc _ (by omega) (by omega)).trans S)
   have hT:=Zv (P:=Tryz.prog) ef;obtain⟨W9,dI⟩:∃x,W8.putObj (Z+10) (.deferred none)=x:=⟨_,rfl⟩;rw[dI] at hT;have hg:W8.grownBy W9 (some (Z+10)):=by rw[<-dI];exact Zt _ _ _
   have n1:W9.heap[Z+1]?=_:=(hg.block _ (by omega) (λe=>by injection e with e;omega)).trans m1;have n2:W9.heap[Z+2]?=_:=(hg.block _ (by omega) (λe=>by injection e with e;omega)).trans m2;have o9:∀x,x<W8.heap.size->x≠Z+1->x≠Z+2->x≠Z+10->W9.heap[x]?=W6.heap[x]?:=λx h0 A s Y=>(hg.block x h0 (λe=>by injection e with e;omega)).trans (oW x A s);have eG:=hBWw.size;have ao:Hid (KS w W9 (Al vs fs ls L C) most (.returned (.tuple #[.agg #[.int .i64 (l.length:Int),(.slice oa on oc),.bool st,.bool fq,(.slice ra rn rc)],.int .i64 0]))/\Below w.heap.size w W9):=by
    refine⟨.inr ⟨hr,l,(.slice oa on oc),(.slice ra rn rc),os,rs,by rw[aa];exact ba,by rw[aa,ar,bv],?_,cf,λx=>by rw[ct,hmo,aa],?_,dW,λx=>by rw[dO,bl,aa]⟩,?_⟩
    ·refine CN (Eu hrow3 λx D=>?_) eG;obtain⟨A,s⟩:=hrow3.lt x D
     exact(o9 x (by omega) (by omega) (by omega) (by omega)).trans ((o6 x (by omega)).trans (bq.block x s))
    ·refine CN (Eu cC λx D=>?_) (by omega);obtain⟨A,s⟩:=cC.lt x D
     exact(o9 x (by omega) (by omega) (by omega) (by omega)).trans (o6 x (by omega))
    ·refine⟨hg.os.trans (z8.2.1.trans (p4.trans (z6.2.1.trans (bq.os.trans (z3.2.1.trans (ak.os.trans hBWw.os)))))),hg.tape.trans (z8.2.2.1.trans (p5.trans (z6.2.2.1.trans (bq.tape.trans (z3.2.2.1.trans (ak.tape.trans hBWw.tape)))))),hg.output.trans (z8.2.2.2.trans (p6.trans (z6.2.2.2.trans (bq.output.trans (z3.2.2.2.trans (ak.output.trans hBWw.output)))))),by have:=hg.size;omega,λx D=>?_⟩
     exact(o9 x (by omega) (by omega) (by omega) (by omega)).trans ((cc x (by omega) (by omega)).trans (hBWw.block x D))
   replace dp:=Aa dp;replace bP:=Aa bP;replace cT:=Aa cT;replace bN:=Aa bN;replace hT:=Aa hT;replace n1:=Aa n1;replace n2:=Aa n2;clear ac bO bx bZ ba aq ar bv hmo bl hr S bD ah aJ hBWw i1 i2 i7 V r3 bM z3 cE hrow3 cf ct ak eL eS r5 az r6 o6 z6 eY cc j1 j2 bz p1 p2 p3 p4 p5 p6 e7 o8 z8 fi m1 m2 oW ef dI hg o9 eG cC dW dO bq HD HE HP HK
   gi_upto_region 21 with fail
   rw[bP.out];clear bP a0 a1 a2 a3 a4 f4
   gi_cut [] from 19 (λwc=>wc=W8)
   case first=>
    clear ao hT n1 n2 e0 ez
    gi_wp2_with fail
    gi_meet
    case rel=>rw[cT.out,bN.out]
   case rest=>
    rw[hcut];clear hcut cT bN x0 xz d0 d1 d2 d3 d4 b0 b1 b2 b3 b4 y0 y1 y2 y3 y4 e0 ez
    gi_wp2_with fail
    refine⟨by simp,.inl ⟨_,_,rfl,hT.out,?_⟩⟩
    exact⟨_,Ox rfl rfl rfl n1.out n2.out,ao.out⟩
 case stop=>
  rintro c a5 O W _ ⟨rfl,hX⟩ dQ S;obtain⟨b,fG,A,s⟩:=hX.rep;have bD:F.heap.size<W.heap.size:=(Xa.1 S).1;have hT:=Zv (P:=Tryz.prog) S;obtain⟨W',dS⟩:∃x,W.putObj F.heap.size (.deferred none)=x:=⟨_,rfl⟩;rw[dS] at hT;have hg:W.grownBy W' (some F.heap.size):=by rw[<-dS];exact Zt _ _ _
  have fX:=hX.size;have e1:W'.heap[Z+1]?=_:=(hg.block _ (by omega) (λe=>by injection e with e;omega)).trans A;have e2:W'.heap[Z+2]?=_:=(hg.block _ (by omega) (λe=>by injection e with e;omega)).trans s;have ao:Hid (KS w W' (Al vs fs ls L C) most (.returned (.tuple #[.agg (Hl 0 false false),.int .i64 (DB b)]))/\Below w.heap.size w W'):=by
   refine⟨.inl ⟨b,by rw[aa];exact fG,rfl⟩,⟨hg.os.trans (hX.os.trans aC.os),hg.tape.trans (hX.tape.trans aC.tape),hg.output.trans (hX.output.trans aC.output),by have:=hg.size;omega,λx D=>(hg.block x (by omega) (λe=>by injection e with e;omega)).trans ((hX.fixed x (by omega)).trans (aC.block x D))⟩⟩
  unfold Hl at e1 ao
  gi_wp2_with fail
  refine⟨by simp,.inl ⟨_,_,rfl,hT,?_⟩⟩
  exact⟨_,Ox rfl rfl rfl e1 e2,ao.out⟩
def CQ (p:PD) (o:Tx) (m:MS):Bool:=Fa p.C m&&decide (BD p m=o)
theorem SF {w:Xg} {b Bp Bo vn fn_ vc fc base:Nat} {va fa:Option Addr} {mv mo fr nx lV tV:Xj} {y mx:Int} {f:Bool} {p:PD} {m:MS} {o:Tx} (h:AP w b mv (Aj p m) (AB m) f mo fr y nx) (aa:w.ownsRow base 48 4 mo (AU p.C m).length ((AU p.C m).flatMap Dg)) (X:Gt p) (P:Bt p m) (U:BL p) (N:(Aj p m).length<4294967000) (W:w.cell? ⟨4,0,none⟩=some (.int .i64 mx)) (V:vn=p.vs.length) (Y:fn_=p.fs.length)
 (H:w.heap[Bp]?=some (.cells #[.slice va vn vc,.slice fa fn_ fc,lV,tV] 25)) (J:w.heap[Bo]?=some (.cells #[.string (bs o)] 9)) (ab:∃a n c,lV = .slice a n c) (ag:∃a n c,tV = .slice a n c) :
 Calls Tryz.prog 45 #[Ab b,Ab Bp,Ab Bo] w λe w'=>e = .returned (.bool (CQ p o m))/\Below w.heap.size w w':=by
 obtain⟨la,r,lc,rfl⟩:=ab;obtain⟨ta,s,tc,rfl⟩:=ag;obtain⟨ma,mc,Q⟩:=At aa;have E:=h;rw[Q] at E;have Z:Below w.heap.size w w.drew:=⟨rfl,rfl,rfl,Xf _,λ_ _=>rfl⟩;have j:=Qx (w:=w.drew) E;have q:=Pj (w:=w.drew) (va:=va) (vc:=vc) (fa:=fa) (fc:=fc) (lV:=.slice la r lc) (tV:=.slice ta s tc) (vn:=vn) (fn_:=fn_) h X P U N W V Y;obtain⟨G,F,D,B⟩:=Df H;obtain⟨A,-⟩:w.cell? ⟨Bo,0,none⟩=some (.string (bs o))/\True:=⟨by simp[Xh,J],trivial⟩;have i:w.drew.cell? ⟨Bo,0,none⟩=some (.string (bs o))/\w.drew.cell? ⟨Bp,0,none⟩=some (.slice va vn vc)/\w.drew.cell? ⟨Bp,1,none⟩=some (.slice fa fn_ fc)/\w.drew.cell? ⟨Bp,2,none⟩=some (.slice la r lc)/\w.drew.cell? ⟨Bp,3,none⟩=some (.slice ta s tc):=⟨A,G,F,D,B⟩;have ad:Hid (∀u,Below w.drew.heap.size w.drew u->u.cell? ⟨Bo,0,none⟩=some (.string (bs o))/\u.cell? ⟨Bp,0,none⟩=some (.slice va vn vc)/\u.cell? ⟨Bp,1,none⟩=some (.slice fa fn_ fc)/\u.cell? ⟨Bp,2,none⟩=some (.slice la r lc)/\u.cell? ⟨Bp,3,none⟩=some (.slice ta s tc)):=λu l=>by
  have v:=(Xa.1 H).1;have ah:=(Xa.1 J).1
  exact⟨(l.cell (p:=⟨Bo,0,none⟩) ah).trans A,(l.cell (p:=⟨Bp,0,none⟩) v).trans G,(l.cell (p:=⟨Bp,1,none⟩) v).trans F,(l.cell (p:=⟨Bp,2,none⟩) v).trans D,(l.cell (p:=⟨Bp,3,none⟩) v).trans B⟩
 have M:Hid (∀k,decide ((AU p.C m).length=0)=k->CQ p o m=(k&&decide (BD p m=o))):=λk t=>by unfold CQ Fa;rw[t]
 obtain⟨k,t⟩:∃x,decide ((AU p.C m).length=0)=x:=⟨_,rfl⟩;rw[t] at j;have I:=Aa (M.out k t);obtain⟨O,T⟩:∃x,BD p m=x:=⟨_,rfl⟩;rw[T] at q I;have ai:((bs O).toList == (bs o).toList)=decide (O=o):=by rw[AR,AR];exact Bool.eq_iff_iff.2 (by simp)
 replace i:=Aa i;replace j:=Aa j;replace q:=Aa q;unfold Ab at j q;clear h aa X P U N W V Y H J E Q t M G F D B A T;unfold Ab
 cases k
 ·go_enter Tryz.func45,Tryz.ntmps45
  go_wp2_with fail
  refine XV (S:=λu=>u.cell? ⟨Bo,0,none⟩=some (.string (bs o))/\u.cell? ⟨Bp,0,none⟩=some (.slice va vn vc)/\u.cell? ⟨Bp,1,none⟩=some (.slice fa fn_ fc)/\u.cell? ⟨Bp,2,none⟩=some (.slice la r lc)/\u.cell? ⟨Bp,3,none⟩=some (.slice ta s tc)) (by kernel_rfl) i.out (λd=>?_);refine tk 0 d ?_;refine rd 1 (λK g=>?_)
  go_simp
  go_at_call 25
  refine j.out.mono ?_;rintro e w1 ⟨rfl,rfl⟩
  go_wp2_with fail
  refine g.out _ _ i.out (λd=>?_);clear g K
  try simp only[X7,sq]
  refine tk 2 d ?_;refine tn 3 d ?_;refine tn 4 d ?_;refine tn 5 d ?_;refine tn 6 d ?_;refine tn 7 d ?_;refine tk 8 d ?_;refine tk 9 d ?_;refine YH (by kernel_rfl) ?_ _
  go_wp2_with fail
  go_ret
  exact⟨congrArg (λz=>Ending.returned (.bool z)) I.out.symm,Z⟩
 ·go_enter Tryz.func45,Tryz.ntmps45
  go_wp2_with fail
  refine XV (S:=λu=>u.cell? ⟨Bo,0,none⟩=some (.string (bs o))/\u.cell? ⟨Bp,0,none⟩=some (.slice va vn vc)/\u.cell? ⟨Bp,1,none⟩=some (.slice fa fn_ fc)/\u.cell? ⟨Bp,2,none⟩=some (.slice la r lc)/\u.cell? ⟨Bp,3,none⟩=some (.slice ta s tc)) (by kernel_rfl) i.out (λd=>?_);refine tk 0 d ?_;refine rd 1 (λK g=>?_)
  go_simp
  go_at_call 25
  refine j.out.mono ?_;rintro e w1 ⟨rfl,rfl⟩
  go_wp2_with fail
  refine g.out _ _ i.out (λd=>?_);clear g K
  try simp only[X7,sq]
  refine tk 2 d ?_;refine tk 3 d ?_;refine tk 4 d ?_;refine tk 6 d ?_;refine rd 5 (λK g=>?_)
  go_simp
  go_at_call 26
  refine q.out.mono ?_;rintro e w2 ⟨rfl,R⟩
  go_wp2_with fail
  refine g.out _ _ (ad.out w2 R) (λd=>?_);clear g K
  try simp only[X7,sq]
  refine tk 7 d ?_;refine tk 8 d ?_;refine tk 9 d ?_;refine YH (by kernel_rfl) ?_ _
  go_wp2_with fail
  go_ret
  have ae:decide (O=o)=CQ p o m:=by rw[I.out,Bool.true_and]
  exact⟨congrArg (λz=>Ending.returned (.bool z)) ae,Z.trans R⟩
end Go.Proofs.YtdcacoifehkioaaGreatDoor
