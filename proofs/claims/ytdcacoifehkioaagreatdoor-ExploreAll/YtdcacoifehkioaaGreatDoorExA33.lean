import Derived.Test.YtdcacoifehkioaaGreatDoorExA3
import Derived.Test.YtdcacoifehkioaaGreatDoorExA23
open Go renaming World->Xh,Value->Xk,heap_setCell_same->Xj,callsIn_wide->X1,undef->X7,heap_setCell_other->Xt,run_takeDeferred->ZO,grownBy_putObj'->ZM,wp_region_held_drew->Xy,wpAnyH_done->Yd
open Go.World renaming size_setCell->XA,cell?->Xg,frozen?->XM,alloc->Zy,cell?_of_block->Xw
open Go.Obj renaming cells->ZS
open Array renaming getElem?_toList->Yr,length_toList->ZK,getElem?_eq_some_iff->Xa
open List renaming length_append->Xb,length_map->Xp,map_append->XH,mem_map->YA
open Nat renaming reduceAdd->Zp,le_refl->Xd,lt_of_lt_of_le->XF,le_trans->Xu,sub_lt_sub_left->Xl,lt_succ_self->Xo
open Go.CallsIn renaming inRound->Zu
open Go.Act renaming put->XG
set_option maxRecDepth 100000
set_option maxHeartbeats 8000000
set_option linter.unusedVariables false
set_option linter.unusedSimpArgs false
namespace Go.Proofs.YtdcacoifehkioaaGreatDoor
open Go.RowKit Go.Shelf Go.Proofs.Cod
attribute [local go_sem] Oper.semAt_some
theorem Qy {w:Xh} {n T:Nat} {G E r q p:Xk} (I:w.heap[n]?=some (.cells #[G,E,r,q,p] T)) (a c d e m:Xk):∃W,((((w.setCell ⟨n,0,none⟩ a).setCell ⟨n,1,none⟩ c).setCell ⟨n,2,none⟩ d).setCell ⟨n,3,none⟩ e).setCell ⟨n,4,none⟩ m=W/\W.heap[n]?=some (.cells #[a,c,d,e,m] T)/\(∀b,b≠n->W.heap[b]?=w.heap[b]?)/\W.heap.size=w.heap.size/\W.os=w.os/\W.tape=w.tape/\W.output=w.output:=by
 have o:∀(w:Xh) (k:Nat) (v:Xk),(∀b,b≠n->(w.setCell ⟨n,k,none⟩ v).heap[b]?=w.heap[b]?)/\(w.setCell ⟨n,k,none⟩ v).heap.size=w.heap.size/\(w.setCell ⟨n,k,none⟩ v).os=w.os/\(w.setCell ⟨n,k,none⟩ v).tape=w.tape/\(w.setCell ⟨n,k,none⟩ v).output=w.output:=λw k v=>⟨λb f=>Below.heap_setCell _ ⟨n,k,none⟩ _ b f,XA ..,rfl,rfl,rfl⟩
 have s:=(Xj _ n 0 _ _ a I).trans (show _=some (ZS #[a,E,r,q,p] T) from rfl);obtain⟨w1,u⟩:∃x,w.setCell ⟨n,0,none⟩ a=x:=⟨_,rfl⟩;have g:=o w 0 a;rw[u] at s g;have B:=(Xj _ n 1 _ _ c s).trans (show _=some (ZS #[a,c,r,q,p] T) from rfl);obtain⟨C,z⟩:∃x,w1.setCell ⟨n,1,none⟩ c=x:=⟨_,rfl⟩;have h:=o w1 1 c;rw[z] at B h;have t:=(Xj _ n 2 _ _ d B).trans (show _=some (ZS #[a,c,d,q,p] T) from rfl);obtain⟨w3,y⟩:∃x,C.setCell ⟨n,2,none⟩ d=x:=⟨_,rfl⟩;have i:=o C 2 d;rw[y] at t i;have D:=(Xj _ n 3 _ _ e t).trans (show _=some (ZS #[a,c,d,e,p] T) from rfl);obtain⟨H,A⟩:∃x,w3.setCell ⟨n,3,none⟩ e=x:=⟨_,rfl⟩;have j:=o w3 3 e;rw[A] at D j;have F:=(Xj _ n 4 _ _ m D).trans (show _=some (ZS #[a,c,d,e,m] T) from rfl);have l:=o H 4 m;rw[u,z,y,A]
 exact⟨_,rfl,F,λb f=>(l.1 b f).trans ((j.1 b f).trans ((i.1 b f).trans ((h.1 b f).trans (g.1 b f)))),l.2.1.trans (j.2.1.trans (i.2.1.trans (h.2.1.trans g.2.1))),l.2.2.1.trans (j.2.2.1.trans (i.2.2.1.trans (h.2.2.1.trans g.2.2.1))),l.2.2.2.1.trans (j.2.2.2.1.trans (i.2.2.2.1.trans (h.2.2.2.1.trans g.2.2.2.1))),l.2.2.2.2.trans (j.2.2.2.2.trans (i.2.2.2.2.trans (h.2.2.2.2.trans g.2.2.2.2)))⟩
theorem Ij {w:Xh} {b T:Nat} {f d a e c:Xk} (h:w.heap[b]?=some (.cells #[f,d,a,e,c] T)):w.cell? ⟨b,0,none⟩=some f/\w.cell? ⟨b,1,none⟩=some d/\w.cell? ⟨b,2,none⟩=some a/\w.cell? ⟨b,3,none⟩=some e/\w.cell? ⟨b,4,none⟩=some c/\∀k,w.frozen? ⟨b,k,none⟩=false:=by
 refine⟨?_,?_,?_,?_,?_,λk=>?_⟩<;>simp[Xg,XM,h]
theorem Fc {w:Xh} {b T:Nat} {a:Xk} (h:w.heap[b]?=some (.cells #[a] T)):w.cell? ⟨b,0,none⟩=some a/\w.frozen? ⟨b,0,none⟩=false:=by
 refine⟨?_,?_⟩<;>simp[Xg,XM,h]
theorem TL (a:List Obj):∀w:Xh,(a.foldl Zy w).heap.toList=w.heap.toList++a/\(a.foldl Zy w).os=w.os/\(a.foldl Zy w).tape=w.tape/\(a.foldl Zy w).output=w.output:=by
 induction a with
 |nil=>intro w;exact⟨by simp,rfl,rfl,rfl⟩
 |cons o a e=>
  intro w;obtain⟨f,d,b,c⟩:=e (w.alloc o);refine⟨?_,d,b,c⟩;rw[List.foldl_cons,f];show (w.heap.push o).toList++a=_;rw[Array.toList_push,List.append_assoc];rfl
theorem DR {a:List Obj} {w b:Xh} {Z:Nat} (h:a.foldl Zy w=b) (d:w.heap.size=Z) {i:Nat} {o:Obj} (c:a[i]?=some o):b.heap[Z+i]?=some o:=by
 rw[<-h,<-Yr,(TL a w).1,List.getElem?_append_right (by rw[ZK];omega),ZK,d,Nat.add_sub_cancel_left];exact c
theorem Ol {a:List Obj} {w b:Xh} (h:a.foldl Zy w=b):Below w.heap.size w b/\b.heap.size=w.heap.size+a.length:=by
 obtain⟨c,f,d,e⟩:=TL a w;rw[h] at c f d e;have g:b.heap.size=w.heap.size+a.length:=by rw[<-ZK,c,Xb,ZK]
 refine⟨⟨f,d,e,by omega,λx i=>?_⟩,g⟩;rw[<-Yr,c,List.getElem?_append_left (by rw[ZK];exact i),Yr]
theorem TM {w:Xh} {Z0 eP nv nf nl nt vc fc lc tc:Nat} {va fa la ta:Option Addr} {vs fs ls:List Tx} {L:List (Tx×Xk)} {C:List (List Ad)} {most:Int} {er em:Addr} (aY : -9223372036854775808<=most/\most<=9223372036854775807)
 (hx:XW w Z0 er em) (bv:Z0<=w.heap.size) (hp:BZ w eP (.slice va nv vc) (.slice fa nf fc) (.slice la nl lc) (.slice ta nt tc) vs fs ls L C) (hb:Hs vs fs ls L C) (hf:CK (Ap vs fs ls L C)) (hN:Eg (Ap vs fs ls L C)) (aZ:Iq (Ap vs fs ls L C)) (aN:∀m,CY (Ap vs fs ls L C) m->(Aj (Ap vs fs ls L C) m).length<4294967000) :
 Calls Tryz.prog 8 #[.agg #[.slice va nv vc,.slice fa nf fc,.slice la nl lc,.slice ta nt tc],.int .i64 most] w λe w'=>KF w w' (Ap vs fs ls L C) most e/\Below w.heap.size w w':=by
 have dy:=@run_makeMap Tryz.prog;obtain⟨p,V⟩:∃x,Ap vs fs ls L C=x:=⟨_,rfl⟩;refine(X1 (n:=8)).1 ?_;refine callsIn_of_wp_marks Tryz.func8 rfl trivial ?_ rfl;simp only[Tryz.ntmps8,List.size_toArray,List.length_cons,List.length_nil,Zp,Nat.reduceSub,Array.replicate_succ,Array.replicate_zero,List.push_toArray,List.append_toArray,List.nil_append,List.cons_append];have HP:=Aa (⟨aY,hx,bv,hp,hb,hf,hN,aZ,aN⟩:_/\_/\_/\_/\_/\_/\_/\_/\_);clear aY hx bv hp hb hf hN aZ aN
 gi_wp2_with (refine⟨trivial,?_⟩;gi_at_call 23;refine(Pt _ _ _ _ _ _ _).mono ?_;rintro e w' ⟨rfl,rfl⟩)
 obtain⟨aY,hx,bv,hp,hb,hf,hN,aZ,aN⟩:=HP.out;have cp:nv=vs.length/\nf=fs.length:=by
  obtain⟨x,y,e⟩:=As hp.v;injection e with _ e _
  obtain⟨x2,y2,e2⟩:=As hp.f;injection e2 with _ e2 _
  exact⟨e,e2⟩
 replace cp:=Aa cp;obtain⟨F,aI⟩:∃F,([.cells #[.slice va nv vc,.slice fa nf fc,.slice la nl lc,.slice ta nt tc] 25,.cells #[.int .i64 0,.slice none 0 0,.bool false,.bool false,.slice none 0 0] 34,.cells #[.int .i64 0] 35,.cells #[.int .i64 0,.slice none 0 0,.bool false,.bool false,.slice none 0 0] 34,.map #[] 0,.map #[] 0,.cells #[.map (some (w.heap.size+1+1+1+1))] 64,.cells #[.map (some (w.heap.size+1+1+1+1+1))] 65,.cells #[.slice va nv vc,.slice fa nf fc,.slice la nl lc,.slice ta nt tc] 25,.cells #[.int .i64 most] 3]:List Obj).foldl Zy w=F:=⟨_,rfl⟩
 change Code.wpIn _ _ _ _ _ _ (([.cells #[.slice va nv vc,.slice fa nf fc,.slice la nl lc,.slice ta nt tc] 25,.cells #[.int .i64 0,.slice none 0 0,.bool false,.bool false,.slice none 0 0] 34,.cells #[.int .i64 0] 35,.cells #[.int .i64 0,.slice none 0 0,.bool false,.bool false,.slice none 0 0] 34,.map #[] 0,.map #[] 0,.cells #[.map (some (w.heap.size+1+1+1+1))] 64,.cells #[.map (some (w.heap.size+1+1+1+1+1))] 65,.cells #[.slice va nv vc,.slice fa nf fc,.slice la nl lc,.slice ta nt tc] 25,.cells #[.int .i64 most] 3]:List Obj).foldl Zy w)
 rw[aI];obtain⟨Z,X⟩:∃Z,w.heap.size=Z:=⟨_,rfl⟩;have k0:F.heap[Z]?=some (.cells #[.slice va nv vc,.slice fa nf fc,.slice la nl lc,.slice ta nt tc] 25):=DR aI X (i:=0) rfl;have k1:F.heap[Z+1]?=some (.cells #[.int .i64 0,.slice none 0 0,.bool false,.bool false,.slice none 0 0] 34):=DR aI X (i:=1) rfl;have k2:F.heap[Z+2]?=some (.cells #[.int .i64 0] 35):=DR aI X (i:=2) rfl;have k3:F.heap[Z+3]?=some (.cells #[.int .i64 0,.slice none 0 0,.bool false,.bool false,.slice none 0 0] 34):=DR aI X (i:=3) rfl;have k4:F.heap[Z+4]?=some (.map #[] 0):=DR aI X (i:=4) rfl;have k5:F.heap[Z+5]?=some (.map #[] 0):=DR aI X (i:=5) rfl;have k6:F.heap[Z+6]?=some (.cells #[.map (some (Z+4))] 64):=DR aI X (i:=6) (by rw[X];rfl);have k7:F.heap[Z+7]?=some (.cells #[.map (some (Z+5))] 65):=DR aI X (i:=7) (by rw[X];rfl);have k8:F.heap[Z+8]?=some (.cells #[.slice va nv vc,.slice fa nf fc,.slice la nl lc,.slice ta nt tc] 25):=DR aI X (i:=8) rfl;have k9:F.heap[Z+9]?=some (.cells #[.int .i64 most] 3):=DR aI X (i:=9) rfl;obtain⟨aB,ao⟩:=Ol aI;have ao:F.heap.size=Z+10:=by rw[ao,X];rfl
 rw[X];simp only[Nat.add_assoc,Zp];clear aI;have HK:=Aa (⟨ao,k0,k6,k7⟩:_/\_/\_/\_);have bu:XW F Z0 er em:=hx.same λx D=>aB.block x (by omega);have cR:=Ps (w:=F) (Z:=Z0) (Bp:=Z+8) (Bm:=Z+9) (eV:=CO er em) aY bu.t ⟨bu.g.1,bu.g.2.1⟩ (by omega) bu.c (hp.below aB) hb hf hN k8 k9;refine OD rfl (by decide) (gf:=53) (lb := #[.pointer (some ⟨Z+9,0,none⟩),.pointer (some ⟨Z+8,0,none⟩)]) rfl trivial (enters_of Tryz.func53 (by kernel_rfl) rfl)
  (IS.any _ cR) (Below.refl _ _) (λx=>by cases x<;>rfl) Py Pz Pu Pv
  (AI F Z p) (λc _ O W=>c = .ret/\AX F Z p most O W)
  (AI.IB (by omega)) (λc pre O W W' h A s U h4 h5=>⟨h.1,AX.IB (by omega) pre O W W' h.2 A s U h4 h5⟩)
  (λpre O W h=>h.inside) (λc pre O W h=>h.2.inside)
  (λpre O W h b' aR=>by
    rcases aR with aR|rfl|rfl
    ·exact⟨h.all0 b' (by omega),h.fixed b' (by omega) (by omega) (by omega) (by omega)⟩
    ·exact⟨h.all0 _ (by omega),h.fixed _ (by omega) (by omega) (by omega) (by omega)⟩
    ·exact⟨h.all0 _ (by omega),h.fixed _ (by omega) (by omega) (by omega) (by omega)⟩)
  (λb' aR=>by rcases aR with aR|rfl|rfl<;>omega)
  ⟨λb' aR=>aR,λb' aR=>aR,λb' _ _ _ _=>rfl,rfl,rfl,rfl,Xd _,[],rfl,by decide,k3,⟨λ_=>none,0,⟨#[],0,k4,⟨MapKept.stamped_empty 0,(λe he=>by simp at he),(λd v h=>by cases h)⟩,rfl⟩,Xd _,λx=>by simp[FK]⟩,⟨λ_=>none,0,⟨#[],0,k5,⟨MapKept.stamped_empty 0,(λe he=>by simp at he),(λd v h=>by cases h)⟩,rfl⟩,Xd _,λx=>by simp[EP]⟩⟩
  (λ_ x a' O W=>a'={tmps := #[.agg #[.slice va nv vc,.slice fa nf fc,.slice la nl lc,.slice ta nt tc],.int .i64 most,.pointer (some ⟨Z,0,none⟩),X7,.pointer (some ⟨Z+1,0,none⟩),.pointer (some ⟨Z+2,0,none⟩),.pointer (some ⟨Z+3,0,none⟩),.pointer (some ⟨Z+6,0,none⟩),.pointer (some ⟨Z+7,0,none⟩),(CJ (CO er em) x).getD 0 X7,(CJ (CO er em) x).getD 1 X7,X7,.map (some (Z+4)),.map (some (Z+5)),.agg #[.slice va nv vc,.slice fa nf fc,.slice la nl lc,.slice ta nt tc],.int .i64 most,.func (.func 53) #[] #[.pointer (some ⟨Z+9,0,none⟩),.pointer (some ⟨Z+8,0,none⟩)],(CJ (CO er em) x).getD 0 X7,(CJ (CO er em) x).getD 1 X7,X7,X7,X7,X7,X7,X7,X7,X7,X7,X7,X7,X7,X7,X7,X7,X7,X7,X7,X7,X7,X7,X7,X7,X7,X7,X7,X7,X7,X7,X7,X7,X7,X7,X7,X7,X7,X7,X7,X7,X7,X7,X7,X7,X7,X7,X7,X7,X7,X7,X7,X7,X7,X7,X7,X7,X7,X7,X7],defers:=[]})
  (λ_ x a' _ O W W' h _ _ _ _ _=>h) ?assign ?body ?done ?stop
 case assign=>
  intro l' pre x O W K B hE N
  cases x with
  |st r=>
   unfold CJ;dsimp only
   gi_wp2
   exact N _ O _ (Steps.refl O W) B rfl
  |er b=>
   unfold CJ;dsimp only
   gi_wp2
   exact N _ O _ (Steps.refl O W) B rfl
 case body=>
  rintro l' pre x a' O W ⟨rr,eR⟩ fK B hE rfl;have hxW:XW W Z0 er em:=bu.same λx D=>B.fixed x (by omega) (by omega) (by omega) (by omega)
  cases x with
  |er b=>
   have c5:=(B.fixed (Z+1) (by omega) (by omega) (by omega) (by omega)).trans k1;have cL:=(B.fixed (Z+2) (by omega) (by omega) (by omega) (by omega)).trans k2;have cB:=Rk hxW.e hxW.c b;obtain⟨c0,c1,c2,c3,c4,fz⟩:=Ij c5;obtain⟨d0,gz⟩:=Fc cL;have f0:=fz 0;have f1:=fz 1;have f2:=fz 2;have f3:=fz 3;have f4:=fz 4;obtain⟨Q,aO,q1,q2,q3,q4,q5,q6⟩:=Qy c5 (.int .i64 0) (.slice none 0 0) (.bool false) (.bool false) (.slice none 0 0);have aq:IP (AI F Z p) (λc _ O W=>c = .ret/\AX F Z p most O W) (pre++[.er b]) O W .ret {tmps := #[],defers:=[]} (Q.setCell ⟨Z+2,0,none⟩ (.int .i64 (EG b))):=by
    have e2:Q.heap[Z+2]?=_:=(q2 (Z+2) (by omega)).trans cL;have dZ:∀x,x≠Z+1->x≠Z+2->(Q.setCell ⟨Z+2,0,none⟩ (.int .i64 (EG b))).heap[x]?=W.heap[x]?:=λx A s=>(Xt Q ⟨Z+2,0,none⟩ x _ s).trans (q2 x A);have hz:(Q.setCell ⟨Z+2,0,none⟩ (.int .i64 (EG b))).heap.size=W.heap.size:=by rw[XA,q3]
    have cV:=B.size;refine⟨O,⟨q4,q5,q6,by rw[hz];exact Xd _,λ_ h=>h,λ_ h=>.inl h,λx D hn=>dZ x (λe=>hn (by rw[e];exact B.all0 _ (by omega))) (λe=>hn (by rw[e];exact B.all0 _ (by omega)))⟩,rfl,B.all0,λx D=>by rw[hz];exact B.inside x D,λx D=>(dZ x (by omega) (by omega)).trans (B.fixed x (by omega) (by omega) (by omega) (by omega)),q4.trans B.os,q5.trans B.tape,q6.trans B.output,by rw[hz];exact B.size,b,?_,?_,?_⟩
    ·cases b with
     |false=>exact hE
     |true=>rw[if_pos rfl,<-V];exact hE
    ·exact(Xt Q ⟨Z+2,0,none⟩ (Z+1) _ (by show Z+1≠Z+2;omega)).trans q1
    ·exact(Xj Q (Z+2) 0 _ _ _ e2).trans rfl
   have e0:Q.cell? ⟨Z+2,0,none⟩=some (.int .i64 0):=(Xw (w:=W) (a:=⟨Z+2,0,none⟩) (q2 (Z+2) (by omega))).trans d0;have ez:Q.frozen? ⟨Z+2,0,none⟩=false:=by
    have:=(q2 (Z+2) (by omega)).trans cL;simp[XM,this]
   replace cB:=Aa cB;replace aq:=Aa aq;replace aO:=Aa aO;obtain⟨ea,dk⟩:∃x,CO er em b = .iface 346 (.pointer (some x)):=⟨_,rfl⟩;rw[dk] at cB;rw[show (CJ (CO er em) (XS.er b)).getD 0 X7 = .pointer none from rfl,show (CJ (CO er em) (XS.er b)).getD 1 X7 = .iface 346 (.pointer (some ea)) from dk];clear hx bu hxW B hE hp hb hf hN aZ aN aY k0 k1 k2 k3 k4 k5 k6 k7 k8 k9 aB cR ao HP dy c5 cL fz q1 q2 q3 q4 q5 q6 dk
   gi_wp2_with (refine⟨trivial,?_⟩;gi_at_call 24;refine(Zu l' (X1.2 cB.out)).mono ?_;rintro e w' ⟨rfl,rfl⟩)
   rw[aO.out];exact aq.out
  |st r=>
   obtain⟨c7,hS⟩:=hE;rw[V] at hS;obtain⟨R,aU,aG,Y,av⟩:=B.rep;unfold FZ at Y;obtain⟨nx,ar⟩:=hS.st;obtain⟨e5,aa⟩:=hS.mo;have aE:∀k,k<Z+10->r.b≠k:=λk H e=>hS.nb (by rw[e];exact B.all0 k (by omega));have bN:R.length<20000:=by rw[aU,Xp] at c7;exact c7
   obtain⟨l,hl⟩:∃x,R.map Ag.m=x:=⟨_,rfl⟩;have ay:l.length=R.length:=by rw[<-hl,Xp]
   rw[hl] at Y av;obtain⟨n,hn⟩:∃x,R.length=x:=⟨_,rfl⟩;rw[hn] at Y av bN ay;obtain⟨st,aW⟩:∃x,BC p.C l=x:=⟨_,rfl⟩;obtain⟨fq,bd⟩:∃x,CE l=x:=⟨_,rfl⟩;rw[aW,bd] at Y;obtain⟨c0,c1,c2,c3,c4,fz⟩:=Ij Y;have f0:=fz 0;have ft:wrap64 ((n:Int)+1)=(n:Int)+1:=by unfold wrap64;omega
   obtain⟨Q,aO⟩:∃x,W.setCell ⟨Z+3,0,none⟩ (.int .i64 ((n:Int)+1))=x:=⟨_,rfl⟩;have r1:Q.heap[Z+3]?=some (.cells #[.int .i64 ((n:Int)+1),.slice none 0 0,.bool st,.bool fq,.slice none 0 0] 34):=by rw[<-aO];exact(Xj W (Z+3) 0 _ _ _ Y).trans rfl
   have o1:∀x,x≠Z+3->Q.heap[x]?=W.heap[x]?:=λx D=>by rw[<-aO];exact Xt W ⟨Z+3,0,none⟩ x _ D
   have z1:Q.heap.size=W.heap.size/\Q.os=W.os/\Q.tape=W.tape/\Q.output=W.output:=by rw[<-aO];exact⟨XA ..,rfl,rfl,rfl⟩
   have et:AY Q r.b (.pointer none) (Aj p r.m) (Ay r.m) (Bt r.m) r.mo (DL r.fr) r.y nx:=(o1 r.b (aE _ (by omega))).trans ar;obtain⟨-,-,s2,s3,-⟩:=DO et;obtain⟨-,-,-,d3,-,gz⟩:=Ij r1;have g3:=gz 3;obtain⟨ff,bq⟩:∃x,Bt r.m=x:=⟨_,rfl⟩;rw[bq] at s3;obtain⟨W2,bo⟩:∃x,Q.setCell ⟨Z+3,3,none⟩ (.bool (fq||ff))=x:=⟨_,rfl⟩;have r2:W2.heap[Z+3]?=some (.cells #[.int .i64 ((n:Int)+1),.slice none 0 0,.bool st,.bool (fq||ff),.slice none 0 0] 34):=by rw[<-bo];exact(Xj Q (Z+3) 3 _ _ _ r1).trans rfl
   have o2:∀x,x≠Z+3->W2.heap[x]?=W.heap[x]?:=λx D=>by rw[<-bo];exact(Xt Q ⟨Z+3,3,none⟩ x _ D).trans (o1 x D)
   have z2:W2.heap.size=W.heap.size/\W2.os=W.os/\W2.tape=W.tape/\W2.output=W.output:=by rw[<-bo];exact⟨(XA ..).trans z1.1,z1.2.1,z1.2.2.1,z1.2.2.2⟩
   have bE:AY W2 r.b (.pointer none) (Aj p r.m) (Ay r.m) (Bt r.m) r.mo (DL r.fr) r.y nx:=(o2 r.b (aE _ (by omega))).trans ar;have HQ:=Aa (⟨B,hS,aU,aG,av,aa,aE,bN,hl,ay,hn,aW,bd,bq,hxW⟩:_/\_/\_/\_/\_/\_/\_/\_/\_/\_/\_/\_/\_/\_/\_);have H2:=Aa (⟨r2,o2,z2,bE⟩:_/\_/\_/\_);replace aO:=Aa aO;replace bo:=Aa bo;rw[show (CJ (CO er em) (XS.st r)).getD 0 X7 = .pointer (some ⟨r.b,0,none⟩) from rfl,show (CJ (CO er em) (XS.st r)).getD 1 X7 = .nilIface from rfl];clear hx bu hxW B hS hp hb hf hN aZ aN aY k0 k1 k2 k3 k4 k5 k6 k7 k8 k9 aB cR ao dy c7 Y av ar aa aE bN hl ay hn aW bd bq fz r1 o1 z1 et gz r2 o2 z2 bE aU aG eR
   gi_upto_region 9 with fail
   try rw[ft]
   rw[aO.out];clear aO c0 c1 c2 c3 c4 f0
   gi_cut [] from 19 (λwc=>wc=W2)
   case first=>
    cases fq
    ·gi_wp2_with fail
     gi_meet
     case rel=>exact bo.out
    ·gi_wp2_with fail
     gi_meet
     case rel=>exact bo.out
   case rest=>
    rw[hcut];clear hcut bo d3 s2 s3 g3;obtain⟨r2,o2,z2,bE⟩:=H2.out;obtain⟨B,hS,aU,aG,av,aa,aE,bN,hl,ay,hn,aW,bd,bq,hxW⟩:=HQ.out;obtain⟨ma,mc,ec⟩:=As aa;have dp:=bE;rw[ec] at dp;have cX:=St dp;obtain⟨ie,cu⟩:∃x,decide ((Bh p.C r.m).length=0)=x:=⟨_,rfl⟩;rw[cu] at cX;obtain⟨-,-,e2,-,-,ez⟩:=Ij r2;have eD:=ez 2;obtain⟨-,-,s2,-⟩:=DO bE;obtain⟨G,hG⟩:∃x,Ay r.m=x:=⟨_,rfl⟩;rw[hG] at s2;obtain⟨E,ap⟩:∃x,W2.setCell ⟨Z+3,2,none⟩ (.bool (st||decide (0<G)))=x:=⟨_,rfl⟩;have r3:E.heap[Z+3]?=some (.cells #[.int .i64 ((n:Int)+1),.slice none 0 0,.bool (st||decide (0<G)),.bool (fq||ff),.slice none 0 0] 34):=by rw[<-ap];exact(Xj W2 (Z+3) 2 _ _ _ r2).trans rfl
    have o3:∀x,x≠Z+3->E.heap[x]?=W.heap[x]?:=λx D=>by rw[<-ap];exact(Xt W2 ⟨Z+3,2,none⟩ x _ D).trans (o2 x D)
    have z3:E.heap.size=W.heap.size/\E.os=W.os/\E.tape=W.tape/\E.output=W.output:=by rw[<-ap];exact⟨(XA ..).trans z2.1,z2.2.1,z2.2.2.1,z2.2.2.2⟩
    obtain⟨aY,hx,bv,hp,hb,hf,hN,aZ,aN⟩:=HP.out;obtain⟨ao,k0,k6,k7⟩:=HK.out;have cV:=B.size;have dc:∀x,x<Z+10->x≠Z+3->x≠Z+4->x≠Z+5->E.heap[x]?=F.heap[x]?:=λx A s U h4=>(o3 x s).trans (B.fixed x (by omega) s U h4);have d9:AY E r.b (.pointer none) (Aj p r.m) (Ay r.m) (Bt r.m) r.mo (DL r.fr) r.y nx:=(o3 r.b (aE _ (by omega))).trans ((o2 r.b (aE _ (by omega))).symm.trans bE);have eo:XW E Z0 er em:=hxW.same λx D=>o3 x (by omega);obtain⟨mx,dK⟩:=eo.m;have bZ:Below E.heap.size E E.drew:=⟨rfl,rfl,rfl,Xd _,λ_ _=>rfl⟩;have ca:=Rf (w:=E.drew) (p:=p) (m:=r.m) (va:=va) (vc:=vc) (fa:=fa) (fc:=fc) (lV:=.slice la nl lc) (tV:=.slice ta nt tc) (vn:=nv) (fn_:=nf) d9 (by rw[<-V];exact aZ) hS.ok (by rw[<-V];exact hf) (by rw[<-V];exact aN r.m (by rw[V];exact hS.ok)) dK (by rw[cp.out.1,<-V];rfl) (by rw[cp.out.2,<-V];rfl);have fv:Tryz.prog.follows Departure.mixedOrders=true:=by kernel_rfl
    obtain⟨q0,q1,q2,q3⟩:=Ea ((dc Z (by omega) (by omega) (by omega) (by omega)).trans k0);obtain⟨q6,-⟩:=Fc ((dc (Z+6) (by omega) (by omega) (by omega) (by omega)).trans k6);have bV:Hid (E.drew.cell? ⟨Z+6,0,none⟩=some (.map (some (Z+4)))/\E.drew.cell? ⟨Z,0,none⟩=some (.slice va nv vc)/\E.drew.cell? ⟨Z,1,none⟩=some (.slice fa nf fc)/\E.drew.cell? ⟨Z,2,none⟩=some (.slice la nl lc)/\E.drew.cell? ⟨Z,3,none⟩=some (.slice ta nt tc)):=⟨q6,q0,q1,q2,q3⟩;obtain⟨fo,no,hKo,df,du⟩:=av.o;have cr:AA sk E (Z+4) fo no:=hKo.same (o3 _ (by omega));have bK:AA sk W2 (Z+4) fo no:=hKo.same (o2 _ (by omega));obtain⟨T,hT⟩:∃T:Xh->Prop,T=λwc=>(∃f I,AA sk wc (Z+4) f I/\I<=n+1/\∀x,f x≠none↔FK p (l++[r.m]) x)/\wc.heap[Z+3]?=some (.cells #[.int .i64 ((n:Int)+1),.slice none 0 0,.bool (BC p.C (l++[r.m])),.bool (CE (l++[r.m])),.slice none 0 0] 34)/\Ac (λb=>b=Z+3\/b=Z+4) W wc:=⟨_,rfl⟩;have dn:CE (l++[r.m])=(fq||ff):=by unfold CE at bd |-;rw[Oj,bd,bq]
    have cy:Hid (ie=false->T W2):=λz=>by
     rw[hT];have he:Gg p.C r.m=false:=by unfold Gg;rw[cu,z]
     refine⟨⟨fo,no,bK,by omega,λx=>by rw[du,QA,he];simp⟩,?_,⟨z2.2.1,z2.2.2.1,z2.2.2.2,by rw[z2.1];exact Xd _,λx _ h=>o2 x (λe=>h (.inl e))⟩⟩;rw[dn];have:BC p.C (l++[r.m])=st:=by unfold BC at aW |-;rw[Oj,aW,he];simp
     rw[this];exact r2
    have aq:Hid (ie=true->∀S,Below E.heap.size E S->(S.cell? ⟨Z+6,0,none⟩=some (.map (some (Z+4)))/\S.cell? ⟨Z,0,none⟩=some (.slice va nv vc)/\S.cell? ⟨Z,1,none⟩=some (.slice fa nf fc)/\S.cell? ⟨Z,2,none⟩=some (.slice la nl lc)/\S.cell? ⟨Z,3,none⟩=some (.slice ta nt tc))/\∃J,(Instr.mapUpdate 64 (.map (some (Z+4))) (.string (bs (Bz p r.m))) (.agg #[])).run Tryz.prog S = .ok () J/\(J.cell? ⟨Z+6,0,none⟩=some (.map (some (Z+4)))/\J.cell? ⟨Z,0,none⟩=some (.slice va nv vc)/\J.cell? ⟨Z,1,none⟩=some (.slice fa nf fc)/\J.cell? ⟨Z,2,none⟩=some (.slice la nl lc)/\J.cell? ⟨Z,3,none⟩=some (.slice ta nt tc))/\T J):=λz S aj=>by
     have dJ:E.heap.size=W.heap.size:=z3.1;have k4:∀x k,x<Z+10->S.cell? ⟨x,k,none⟩=E.cell? ⟨x,k,none⟩:=λx k A=>Xw (w:=E) (a:=⟨x,k,none⟩) (aj.block x (by omega));refine⟨⟨(k4 _ _ (by omega)).trans q6,(k4 _ _ (by omega)).trans q0,(k4 _ _ (by omega)).trans q1,(k4 _ _ (by omega)).trans q2,(k4 _ _ (by omega)).trans q3⟩,?_⟩;have fw:AA sk S (Z+4) fo no:=cr.same (aj.block _ (by omega));obtain⟨J,cw,fx,cx,fL⟩:=fw.put Tryz.strKey Tryz.underlying64 (Bz p r.m) (.agg #[]);have k5:∀x,x<S.heap.size->x≠Z+4->J.heap[x]?=S.heap[x]?:=λx A s=>cx.block x A (λe=>s (by injection e with e));have b5:∀x k,x<Z+10->x≠Z+4->J.cell? ⟨x,k,none⟩=S.cell? ⟨x,k,none⟩:=λx k A s=>Xw (w:=S) (a:=⟨x,k,none⟩) (k5 x (by have:=aj.size;omega) s);refine⟨J,cw,⟨(b5 _ _ (by omega) (by omega)).trans ((k4 _ _ (by omega)).trans q6),(b5 _ _ (by omega) (by omega)).trans ((k4 _ _ (by omega)).trans q0),(b5 _ _ (by omega) (by omega)).trans ((k4 _ _ (by omega)).trans q1),(b5 _ _ (by omega) (by omega)).trans ((k4 _ _ (by omega)).trans q2),(b5 _ _ (by omega) (by omega)).trans ((k4 _ _ (by omega)).trans q3)⟩,?_⟩;rw[hT];have he:Gg p.C r.m=true:=by unfold Gg;rw[cu,z]
     refine⟨⟨_,_,fx,?_,λx=>?_⟩,?_,?_⟩
     ·split<;>omega
     ·rw[QA,he];unfold Bv
      by_cases e:x=Bz p r.m
      ·rw[if_pos e];simp[e]
      ·rw[if_neg e,du];constructor
       ·exact λz=>.inl z
       ·rintro(z|z)
        ·exact z
        ·exact absurd z.2.symm e
     ·rw[dn];have:BC p.C (l++[r.m])=(st||decide (0<G)):=by unfold BC at aW |-;rw[Oj,aW,he,hG];simp
      rw[this]
      exact(k5 _ (by have:=aj.size;omega) (by omega)).trans ((aj.block _ (by omega)).trans r3)
     ·exact⟨cx.os.trans (aj.os.trans z3.2.1),cx.tape.trans (aj.tape.trans z3.2.2.1),cx.output.trans (aj.output.trans z3.2.2.2),by have:=aj.size;omega,λx A s=>(k5 x (by have:=aj.size;omega) (λe=>s (.inr e))).trans ((aj.block x (by omega)).trans (o3 x (λe=>s (.inl e))))⟩
    have HT:=Aa hT;replace ap:=Aa ap;replace ca:=Aa ca;replace bZ:=Aa bZ;unfold Ab at cX;clear r2 o2 z2 bE B hS aU aG av aa aE bN hl ay hn aW bd bq hxW ec dp cu ez hG r3 o3 z3 aY hx bv hp hb hf hN aZ aN ao k0 k6 k7 cV dc d9 eo dK q0 q1 q2 q3 q6 hKo df du cr bK hT dn H2
    gi_upto_if 38 with (refine⟨trivial,?_⟩;gi_at_call 25;refine(Zu l' (X1.2 cX)).mono ?_;rintro e w' ⟨rfl,rfl⟩)
    clear cX
    gi_cut [] from 19 (λwc=>T wc)
    case first=>
     cases ie
     ·gi_wp2_with fail
      gi_meet
      case rel=>first|exact cy.out rfl|exact cy.out trivial
     ·cases st<;>
      ·gi_upto_region 12 with fail
       have cz:=ap.out
       (first|rw[Bool.false_or] at cz|rw[Bool.true_or] at cz)
       rw[cz];clear cz;refine QD (λu=>u.cell? ⟨Z+6,0,none⟩=some (.map (some (Z+4)))/\u.cell? ⟨Z,0,none⟩=some (.slice va nv vc)/\u.cell? ⟨Z,1,none⟩=some (.slice fa nf fc)/\u.cell? ⟨Z,2,none⟩=some (.slice la nl lc)/\u.cell? ⟨Z,3,none⟩=some (.slice ta nt tc)) fv ?_;refine GH (i:=0) (v:=.map (some (Z+4))) rfl (by kernel_rfl) (λ_ _ _ h=>h) (by kernel_rfl) (by kernel_rfl) ⟨by rfl,?_,λ_=>rfl⟩ bV.out ?_
       ·intro w9 bB;obtain⟨x0,x1,x2,x3,x4⟩:=bB;go_simp
       simp only[XG,sq];refine GH (i:=1) (v:=.pointer (some ⟨r.b,0,none⟩)) rfl (by kernel_rfl) (λ_ _ _ h=>h) (by kernel_rfl) (by kernel_rfl) ⟨by rfl,?_,λ_=>rfl⟩ bV.out ?_
       ·intro w9 bB;obtain⟨x0,x1,x2,x3,x4⟩:=bB;go_simp
       simp only[XG,sq];refine GH (i:=2) (v:=.agg #[.slice va nv vc,.slice fa nf fc,.slice la nl lc,.slice ta nt tc]) rfl (by kernel_rfl) (λ_ _ _ h=>h) (by kernel_rfl) (by kernel_rfl) ⟨by rfl,?_,λ_=>rfl⟩ bV.out ?_
       ·intro w9 bB;obtain⟨x0,x1,x2,x3,x4⟩:=bB;go_simp
       simp only[XG,sq];refine GH (i:=4) (v:=.agg #[]) rfl (by kernel_rfl) (λ_ _ _ h=>h) (by kernel_rfl) (by kernel_rfl) ⟨by rfl,?_,λ_=>rfl⟩ bV.out ?_
       ·intro w9 bB;obtain⟨x0,x1,x2,x3,x4⟩:=bB;go_simp
       simp only[XG,sq];refine NE (i:=3) (by kernel_rfl) rfl (λK N=>?_)
       go_simp
       gi_wp2_with (refine⟨trivial,?_⟩;gi_at_call 26;refine(Zu l' (X1.2 ca.out)).mono ?_;rintro e S ⟨rfl,aj⟩)
       obtain⟨ed,J,eI,d6,dz⟩:_/\∃J,_/\_/\T J:=by first|exact aq.out rfl S (bZ.out.trans aj)|exact aq.out trivial S (bZ.out.trans aj)|exact aq.out S (bZ.out.trans aj)
       refine N _ _ ed ?_;clear N K;refine NE (i:=5) (by kernel_rfl) rfl (λK N=>?_)
       go_simp
       refine N _ _ d6 ?_;clear N K;refine Sy (by kernel_rfl) ?_;replace dz:=Aa dz;clear eI d6 ed aj aq cy ca bV
       gi_wp2_with fail
       gi_meet
       case rel=>exact dz.out
    case rest=>
     rw[HT.out] at hcut;obtain⟨dY,dX,aJ⟩:=hcut;obtain⟨B,hS,aU,aG,av,aa,aE,bN,hl,ay,hn,aW,bd,bq,hxW⟩:=HQ.out;obtain⟨aY,hx,bv,hp,hb,hf,hN,aZ,aN⟩:=HP.out;obtain⟨ao,k0,k6,k7⟩:=HK.out;have cV:=B.size;rw[V] at hf;have dL:(Bh p.C r.m).length<=4:=by
      rw[Ng];have A:=Je p.C r.m r.m.thr.length;have s:=hS.ok.tl;have U:=hf.fit.four;unfold AP
      omega
     obtain⟨fj,ar⟩:=hS.st;have ek:=hS.lt;have keepW:∀(wr:Xh),Ac (λb=>b=Z+5) wc wr->(∀x,x<W.heap.size->x≠Z+3->x≠Z+4->x≠Z+5->wr.heap[x]?=W.heap[x]?):=λwr H x A s U h4=>(H.block x (XF A aJ.size) h4).trans (aJ.block x A (λe=>by rcases e with e|e;exact s e;exact U e));have eb:∀(wr:Xh),Ac (λb=>b=Z+5) wc wr->AY wr r.b (.pointer none) (Aj p r.m) (Ay r.m) (Bt r.m) r.mo (DL r.fr) r.y fj:=λwr H=>(keepW wr H r.b ek (aE _ (by omega)) (aE _ (by omega)) (aE _ (by omega))).trans ar;have dR:∀(wr:Xh),Ac (λb=>b=Z+5) wc wr->wr.ownsRow e5 48 4 r.mo (Bh p.C r.m).length ((Bh p.C r.m).flatMap Eb):=λwr H=>DW aa λx D=>by
      have A:=(aa.lt x D).2;have s:∀k,k<Z+10->x≠k:=λk H e=>hS.nm x D (by rw[e];exact B.all0 k (by omega));exact keepW wr H x A (s _ (by omega)) (s _ (by omega)) (s _ (by omega))
     have aL:∀(wr:Xh),Ac (λb=>b=Z+5) wc wr->∀x,x<Z+10->x≠Z+3->x≠Z+4->x≠Z+5->wr.heap[x]?=F.heap[x]?:=λwr H x A s U h4=>(keepW wr H x (by omega) s U h4).trans (B.fixed x (by omega) s U h4);have cg:=fun(wr:Xh) (H:Ac (λb=>b=Z+5) wc wr) (x:Int)=>Wu (x:=x) (eb wr H) (dR wr H) dL;have cc:nv=p.vs.length:=by rw[cp.out.1,<-V];rfl
     have cD:=hf.v;obtain⟨q0,-,-,-⟩:=Ea ((aL wc (Ac.refl _) Z (by omega) (by omega) (by omega) (by omega)).trans k0);have b9:∃f I,AA ik wc (Z+5) f I/\I<=n*4+0/\∀x:Int,f x≠none↔EP p l x\/((0<=x/\x<((0:Nat):Int))/\(Dd x (Bh p.C r.m)).isSome=true):=by
      obtain⟨f,I,A,s,U⟩:=av.y;refine⟨f,I,A.same (aJ.block _ (by omega) (λe=>by rcases e with e|e<;>omega)),by omega,λx=>?_⟩;rw[U];constructor
      ·exact .inl
      ·rintro(z|z)
       ·exact z
       ·have:=z.1;omega
     have cC:∀wr:Xh,(∃f I,AA ik wr (Z+5) f I/\I<=n*4+nv/\∀x:Int,f x≠none↔EP p l x\/((0<=x/\x<((nv:Nat):Int))/\(Dd x (Bh p.C r.m)).isSome=true))->Ac (λb=>b=Z+5) wc wr->IP (AI F Z p) (λc _ O W=>c = .ret/\AX F Z p most O W) (pre++[.st r]) O W .normal {tmps := #[],defers:=[]} wr:=λwr hY H=>by
      have ef:W.heap.size<=wr.heap.size:=Xu aJ.size H.size;refine⟨λb=>O b\/(W.heap.size<=b/\b<wr.heap.size),⟨H.os.trans aJ.os,H.tape.trans aJ.tape,H.output.trans aJ.output,ef,λ_ h=>.inl h,λ_ h=>h.imp id And.left,λx A s=>keepW wr H x A (λe=>s (by rw[e];exact B.all0 _ (by omega))) (λe=>s (by rw[e];exact B.all0 _ (by omega))) (λe=>s (by rw[e];exact B.all0 _ (by omega)))⟩,λx D=>.inl (B.all0 x D),λx D=>D.elim (λz=>XF (B.inside x z) ef) And.right,λx A s U h4=>(keepW wr H x (by omega) s U h4).trans (B.fixed x A s U h4),H.os.trans (aJ.os.trans B.os),H.tape.trans (aJ.tape.trans B.tape),H.output.trans (aJ.output.trans B.output),by omega,R++[r],?_,?_,?_,?_,?_⟩
      ·rw[aU,XH];rfl
      ·rw[Xb,hn];show n+1<=20000;omega
      ·rw[Xb,hn,XH,hl]
       exact(H.block _ (XF (by omega) aJ.size) (by omega)).trans dX
      ·obtain⟨f,I,A,s,U⟩:=dY;rw[Xb,hn,XH,hl]
       exact⟨f,I,A.same (H.block _ (XF (by omega) aJ.size) (by omega)),s,U⟩
      ·obtain⟨f,I,A,s,U⟩:=hY;rw[Xb,hn,XH,hl];refine⟨f,I,A,by show I<=(n+1)*4;omega,λx=>?_⟩;rw[U,show (l++[r].map Ag.m)=l++[r.m] from rfl,WP,cc]
     replace cC:=Aa cC;replace cg:=Aa cg;replace b9:=Aa b9;have HR:=Aa (⟨aL,cD,cc,k7⟩:_/\_/\_/\_);have fM:∀u:Xh,(binOp .neq 32 (.slice none 0 0) (.slice none 0 0)).run Tryz.prog u = .ok (.bool false) u:=λu=>by kernel_rfl
     have fR:∀(g:Nat) (u:Xh),(binOp .neq 32 (.slice (some ⟨g,0,none⟩) 2 2) (.slice none 0 0)).run Tryz.prog u = .ok (.bool true) u:=λg u=>by kernel_rfl
     clear dY dX aJ B hS aU aG av aa aE bN hl ay hn aW bd bq hxW aY hx bv hp hb hf hN aZ aN ao k0 k6 k7 cV dL ar ek keepW eb dR aL cD cc HQ HT cy aq bV ca bZ ap e2 eD s2
     gi_wp2_with fail
     gi_loopw [57] (λkv wr=>∃k:Nat,k<=nv/\kv = .int .i64 k/\(∃f I,AA ik wr (Z+5) f I/\I<=n*4+k/\∀x:Int,f x≠none↔EP p l x\/((0<=x/\x<(k:Int))/\(Dd x (Bh p.C r.m)).isSome=true))/\Ac (λb=>b=Z+5) wc wr) (λkv _=>nv - (intOf kv).toNat)
     case atStart=>exact⟨0,Nat.zero_le _,rfl,b9.out,Ac.refl _⟩
     case round=>
      obtain⟨k,H,rfl,hY,a6⟩:=hrel
      by_cases h5:k<nv
      ·have fI:(k:Int)<(nv:Int):=by omega
       obtain⟨aL,cD,cc,k7⟩:=HR.out;have hR:=cg.out wr a6 (k:Int);obtain⟨q7,-⟩:=Fc ((aL wr a6 (Z+7) (by omega) (by omega) (by omega) (by omega)).trans k7);have hz7:Z+7<wr.heap.size:=World.block_lt_of_cell? _ _ q7;have cP:wrap64 ((k:Int)+1)=(k:Int)+1:=by unfold wrap64;omega
       have HY:=Aa (⟨hY,a6,h5,hz7⟩:_/\_/\_/\_);replace hR:=Aa hR;unfold Ab at hR;have h7:=Aa q7;clear hY a6 h5 hz7 aL cD cc k7 cg HR b9 H q7
       gi_wp2_with fail
       refine⟨trivial,(Zu l' (X1.2 hR.out)).mono ?_⟩;rintro e w2 ⟨v,rfl,hv,ah⟩;clear hR;obtain⟨⟨f,I,cO,d8,cK⟩,a6,h5,hz7⟩:=HY.out;have bi:Ac (λb=>b=Z+5) wc w2:=a6.trans (Ac.DM ah);have bK:=cO.same (w':=w2) (ah.block _ cO.lt);have fD:w2.cell? ⟨Z+7,0,none⟩=some (.map (some (Z+5))):=(ah.cell (p:=⟨Z+7,0,none⟩) hz7).trans h7.out;unfold IT at hv
       cases hq:Dd (k:Int) (Bh p.C r.m) with
       |none=>
        rw[hq] at hv;dsimp only at hv;have bc:Hid (k+1<=nv/\(∃f I,AA ik w2 (Z+5) f I/\I<=n*4+(k+1)/\∀x:Int,f x≠none↔EP p l x\/((0<=x/\x<((k+1:Nat):Int))/\(Dd x (Bh p.C r.m)).isSome=true))/\Ac (λb=>b=Z+5) wc w2):=by
         refine⟨h5,⟨f,I,bK,by omega,λx=>?_⟩,bi⟩;rw[cK];constructor
         ·rintro(z|⟨z1,z2⟩)
          ·exact .inl z
          ·exact .inr ⟨by omega,z2⟩
         ·rintro(z|⟨z1,z2⟩)
          ·exact .inl z
          ·by_cases e:x=k
           ·rw[e,hq] at z2;cases z2
           ·exact .inr ⟨by omega,z2⟩
        subst hv;clear cO d8 cK a6 h5 hz7 bi bK HY ah hq
        gi_wp2_with fail
        go_roundw
        case rel=>
         (try rw[cP])
         exact⟨k+1,bc.out.1,rfl,bc.out.2.1,bc.out.2.2⟩
        case measure=>
         (try rw[cP])
         exact Xl bc.out.1 (Xo k)
       |some ab=>
        rw[hq] at hv;obtain⟨a,b⟩:=ab;obtain⟨g,rfl,eF,fm⟩:=hv;obtain⟨w3,cw,cr,cn,dJ⟩:=bK.put (acr Tryz.underlying3) Tryz.underlying65 (k:Int) (.agg #[]);have cw:(Instr.mapUpdate 65 (.map (some (Z+5))) (.int .i64 k) (.agg #[])).run Tryz.prog w2 = .ok () w3:=cw;have bc:Hid (k+1<=nv/\(∃f I,AA ik w3 (Z+5) f I/\I<=n*4+(k+1)/\∀x:Int,f x≠none↔EP p l x\/((0<=x/\x<((k+1:Nat):Int))/\(Dd x (Bh p.C r.m)).isSome=true))/\Ac (λb=>b=Z+5) wc w3):=by
         refine⟨h5,⟨_,_,cr,by split<;>omega,λx=>?_⟩,⟨cn.os.trans bi.os,cn.tape.trans bi.tape,cn.output.trans bi.output,by have:=bi.size;omega,λx A s=>(cn.block x (by have:=bi.size;omega) (λe=>s (by injection e with e))).trans (bi.block x A s)⟩⟩;unfold Bv
         by_cases e:x=(k:Int)
         ·rw[if_pos e];constructor
          ·intro _;refine .inr ⟨by omega,?_⟩;rw[e,hq];rfl
          ·intro _ z;cases z
         ·rw[if_neg e,cK];constructor
          ·rintro(z|⟨z1,z2⟩)
           ·exact .inl z
           ·exact .inr ⟨by omega,z2⟩
          ·rintro(z|⟨z1,z2⟩)
           ·exact .inl z
           ·exact .inr ⟨by omega,z2⟩
        clear cO d8 cK a6 h5 hz7 bi bK HY ah hq cr cn dJ eF fm
        gi_wp2_with fail
        go_roundw
        case rel=>
         (try rw[cP])
         exact⟨k+1,bc.out.1,rfl,bc.out.2.1,bc.out.2.2⟩
        case measure=>
         (try rw[cP])
         exact Xl bc.out.1 (Xo k)
      ·have fd:k=nv:=by omega
       subst fd;have HN:=Aa (cC.out wr hY a6);clear hY a6 cC cg HR b9 h5 H
       gi_wp2_with fail
       exact HN.out
 case done=>
  rintro xs O W eL B dP N;have hDl:F.heap.size<W.heap.size:=(Xa.1 N).1
  rcases eL with⟨pre,e,rfl⟩|⟨hr,base,fb,kb,R',dQ,dl,eH,be⟩
  ·obtain⟨R,h,-⟩:=B.rep;have:XS.er e∈R.map XS.st:=by rw[<-h];simp
   obtain⟨q,-,hq⟩:=YA.1 this
   cases hq
  ·obtain⟨R,aU,aG,Y,av⟩:=B.rep;have fg:R=R':=by
    have h:R.map XS.st=R'.map XS.st:=aU.symm.trans dQ;have fk:∀(a b:List Ag),a.map XS.st=b.map XS.st->a=b:=by
     intro a
     induction a with
     |nil=>intro b h;cases b with
      |nil=>rfl
      |cons y b=>cases h
     |cons x a ih=>intro b h;cases b with
      |nil=>cases h
      |cons y b=>
       injection h with A s
       injection A with A
       rw[A,ih b s]
    exact fk R R' h
   subst fg;rw[V] at dl be;obtain⟨l,hl⟩:∃x,R.map Ag.m=x:=⟨_,rfl⟩;have ay:l.length=R.length:=by rw[<-hl,Xp]
   have dV:∀m,m∈l->CY p m:=λm hm=>by
    rw[<-hl,YA] at hm;obtain⟨r,eJ,rfl⟩:=hm;obtain⟨j,hj⟩:=List.mem_iff_getElem?.1 eJ;exact dl.ok j r hj
   rw[hl] at Y av be;obtain⟨st,ar⟩:∃x,BC p.C l=x:=⟨_,rfl⟩;obtain⟨fq,bp⟩:∃x,CE l=x:=⟨_,rfl⟩;unfold FZ at Y;rw[ar,bp,<-ay] at Y;obtain⟨fo,no,hKo,df,aa⟩:=av.o;obtain⟨fy,ny,bG,bT,br⟩:=av.y;have ej:∀x,fo x≠none->x.length<=maxLen:=λx D=>by
    obtain⟨m,hm,-,rfl⟩:=(aa x).1 D;have A:=Sk (aN m (by rw[V];exact dV m hm));rw[V] at A;have s:(Bz p m).length<=140737488355328:=by
     unfold Bz
     by_cases e:0<Ay m
     ·rw[if_pos e];exact A.2
     ·rw[if_neg e,List.append_nil];exact A.1
    exact Xu s (by unfold maxLen;decide)
   have bI:∀x,fy x≠none->0<=x/\x<1000:=λx D=>by
    have A:=((br x).1 D).1;have s:p.vs.length<=4:=by rw[<-V];exact hf.v
    omega
   have cS:=VF 7 hKo ej (by omega);have aL:∀x,x<Z+10->x≠Z+3->x≠Z+4->x≠Z+5->W.heap[x]?=F.heap[x]?:=λx A=>B.fixed x (by omega);obtain⟨q6,-⟩:=Fc ((aL (Z+6) (by omega) (by omega) (by omega) (by omega)).trans k6);have i1:=(aL (Z+1) (by omega) (by omega) (by omega) (by omega)).trans k1;have i2:=(aL (Z+2) (by omega) (by omega) (by omega) (by omega)).trans k2;have i7:=(aL (Z+7) (by omega) (by omega) (by omega) (by omega)).trans k7;have hBWw:Below w.heap.size w W:=⟨B.os.trans aB.os,B.tape.trans aB.tape,B.output.trans aB.output,Xu aB.size B.size,λb' aR=>(aL b' (by omega) (by omega) (by omega) (by omega)).trans (aB.block b' aR)⟩;have HD:=Aa (⟨Y,bG,bI,bT,be,ay,ar,bp,aa,br,hr,N,hDl,ao,aG,hBWw,i1,i2,i7,X⟩:_/\_/\_/\_/\_/\_/\_/\_/\_/\_/\_/\_/\_/\_/\_/\_/\_/\_/\_/\_);clear hx bu aY hp hb hf hN aZ aN k0 k1 k2 k3 k4 k5 k6 k7 k8 k9 aB cR ao dy B dP N hDl dQ dl eH be aU aG Y av hl ay dV ar bp df aa bG bT br bI aL i1 i2 i7 hBWw hr
   gi_wp2_with fail
   refine⟨trivial,(ab7 _ _ _).mono ?_⟩;rintro e w1 ⟨rfl,he⟩;rw[he];clear he
   gi_wp2_with fail
   refine⟨trivial,cS.mono ?_⟩;rintro e w2 ⟨ov,os,rfl,cT,co,ci,ah⟩;clear cS hKo ej q6;obtain⟨oa,oc,d7⟩:=As cT;obtain⟨on,dC⟩:∃x,os.length=x:=⟨_,rfl⟩;rw[dC] at d7;subst d7;obtain⟨Y,bG,bI,bT,be,ay,ar,bp,aa,br,hr,N,hDl,ao,aG,hBWw,i1,i2,i7,X⟩:=HD.out;have r2:=(ah.block (Z+3) (by omega)).trans Y;obtain⟨-,c1,-,-,-,fz⟩:=Ij r2;have f1:=fz 1;obtain⟨E,ap⟩:∃x,w2.setCell ⟨Z+3,1,none⟩ (.slice oa on oc)=x:=⟨_,rfl⟩;have r3:E.heap[Z+3]?=some (.cells #[.int .i64 (l.length:Int),(.slice oa on oc),.bool st,.bool fq,.slice none 0 0] 34):=by rw[<-ap];exact(Xj w2 (Z+3) 1 _ _ _ r2).trans rfl
   have o3:∀x,x≠Z+3->E.heap[x]?=w2.heap[x]?:=λx D=>by rw[<-ap];exact Xt w2 ⟨Z+3,1,none⟩ x _ D
   have z3:E.heap.size=w2.heap.size/\E.os=w2.os/\E.tape=w2.tape/\E.output=w2.output:=by rw[<-ap];exact⟨XA ..,rfl,rfl,rfl⟩
   have cA:=ah.size;have bD:∀x,x<W.heap.size->x≠Z+3->E.heap[x]?=W.heap[x]?:=λx A s=>(o3 x s).trans (ah.block x A);have hrow3:E.ownsRow W.heap.size 9 1 (.slice oa on oc) os.length (os.map λx=>Value.string (bs x)):=DW cT λx D=>o3 x (by have:=(cT.lt x D).1;omega);have cY:=VG 7 (bG.same (bD _ (by omega) (by omega))) bI (by omega);obtain⟨q7,-⟩:=Fc ((bD (Z+7) (by omega) (by omega)).trans i7);have HE:=Aa (⟨r3,bD,z3,cA,hrow3,co,ci,ah⟩:_/\_/\_/\_/\_/\_/\_/\_);replace dC:=Aa dC;replace ap:=Aa ap;replace cY:=Aa cY;have h7:=Aa q7;clear Y bG bI bT be ay ar bp aa br hr N hDl ao aG hBWw i1 i2 i7 X r2 fz r3 o3 z3 cA bD hrow3 cT co ci ah q7
   gi_upto_region 20 with fail
   rw[ap.out];have q7:=h7.out;clear ap c1 f1 h7
   gi_wp2_with fail
   refine⟨trivial,(ab9 _ _ _).mono ?_⟩;rintro e S ⟨rfl,he⟩;rw[he];clear he
   gi_wp2_with fail
   refine⟨trivial,cY.out.mono ?_⟩;rintro e J ⟨rv,rs,rfl,cE,d5,dM,bm⟩;clear cY q7;obtain⟨ra,rc,eu⟩:=As cE;obtain⟨rn,dt⟩:∃x,rs.length=x:=⟨_,rfl⟩;rw[dt] at eu;subst eu;obtain⟨Y,bG,bI,bT,be,ay,ar,bp,aa,br,hr,N,hDl,ao,aG,hBWw,i1,i2,i7,X⟩:=HD.out;obtain⟨r3,bD,z3,cA,hrow3,co,ci,ah⟩:=HE.out;have fl:=bm.size;have fp:=z3.1;have r5:=(bm.block (Z+3) (by omega)).trans r3;obtain⟨a0,a1,a2,a3,a4,az⟩:=Ij r5;have f4:=az 4;obtain⟨W6,bM⟩:∃x,J.setCell ⟨Z+3,4,none⟩ (.slice ra rn rc)=x:=⟨_,rfl⟩;have r6:W6.heap[Z+3]?=some (.cells #[.int .i64 (l.length:Int),(.slice oa on oc),.bool st,.bool fq,(.slice ra rn rc)] 34):=by rw[<-bM];exact(Xj J (Z+3) 4 _ _ _ r5).trans rfl
   have o6:∀x,x≠Z+3->W6.heap[x]?=J.heap[x]?:=λx D=>by rw[<-bM];exact Xt J ⟨Z+3,4,none⟩ x _ D
   have z6:W6.heap.size=J.heap.size/\W6.os=J.os/\W6.tape=J.tape/\W6.output=J.output:=by rw[<-bM];exact⟨XA ..,rfl,rfl,rfl⟩
   have eC:=z6.1;have ck:∀x,x<W.heap.size->x≠Z+3->W6.heap[x]?=W.heap[x]?:=λx A s=>(o6 x s).trans ((bm.block x (by omega)).trans (bD x A s));have j1:=(ck (Z+1) (by omega) (by omega)).trans i1;have j2:=(ck (Z+2) (by omega) (by omega)).trans i2;obtain⟨b0,b1,b2,b3,b4,bz⟩:=Ij j1;have y0:=bz 0;have y1:=bz 1;have y2:=bz 2;have y3:=bz 3;have y4:=bz 4;obtain⟨d0,d1,d2,d3,d4,-⟩:=Ij r6;obtain⟨x0,xz⟩:=Fc j2;obtain⟨W7,cI,p1,p2,p3,p4,p5,p6⟩:=Qy j1 (.int .i64 (l.length:Int)) (.slice oa on oc) (.bool st) (.bool fq) (.slice ra rn rc);have e7:W7.heap[Z+2]?=_:=(p2 (Z+2) (by omega)).trans j2;obtain⟨e0,ez⟩:=Fc e7;obtain⟨W8,bA⟩:∃x,W7.setCell ⟨Z+2,0,none⟩ (.int .i64 0)=x:=⟨_,rfl⟩;have o8:∀x,x≠Z+2->W8.heap[x]?=W7.heap[x]?:=λx D=>by rw[<-bA];exact Xt W7 ⟨Z+2,0,none⟩ x _ D
   have z8:W8.heap.size=W7.heap.size/\W8.os=W7.os/\W8.tape=W7.tape/\W8.output=W7.output:=by rw[<-bA];exact⟨XA ..,rfl,rfl,rfl⟩
   have eG:=z8.1;have m1:W8.heap[Z+1]?=_:=(o8 (Z+1) (by omega)).trans p1;have m2:W8.heap[Z+2]?=some (.cells #[.int .i64 0] 35):=by rw[<-bA];exact(Xj W7 (Z+2) 0 _ _ _ e7).trans rfl
   have oW:∀x,x≠Z+1->x≠Z+2->W8.heap[x]?=W6.heap[x]?:=λx A s=>(o8 x s).trans (p2 x A);have dN:W8.heap[Z+10]?=some (.deferred (some [])):=by
    rw[<-ao]
    exact(oW _ (by omega) (by omega)).trans ((ck _ (by omega) (by omega)).trans N)
   have hT:=ZO (P:=Tryz.prog) dN;obtain⟨W9,dh⟩:∃x,W8.putObj (Z+10) (.deferred none)=x:=⟨_,rfl⟩;rw[dh] at hT;have hg:W8.grownBy W9 (some (Z+10)):=by rw[<-dh];exact ZM _ _ _
   have n1:W9.heap[Z+1]?=_:=(hg.block _ (by omega) (λe=>by injection e with e;omega)).trans m1;have n2:W9.heap[Z+2]?=_:=(hg.block _ (by omega) (λe=>by injection e with e;omega)).trans m2;have o9:∀x,x<W8.heap.size->x≠Z+1->x≠Z+2->x≠Z+10->W9.heap[x]?=W6.heap[x]?:=λx h0 A s U=>(hg.block x h0 (λe=>by injection e with e;omega)).trans (oW x A s);have ee:=hBWw.size;have aq:Hid (KF w W9 (Ap vs fs ls L C) most (.returned (.tuple #[.agg #[.int .i64 (l.length:Int),(.slice oa on oc),.bool st,.bool fq,(.slice ra rn rc)],.int .i64 0]))/\Below w.heap.size w W9):=by
    refine⟨.inr ⟨hr,l,(.slice oa on oc),(.slice ra rn rc),os,rs,by rw[V];exact be,by rw[V,ar,bp],?_,co,λx=>by rw[ci,aa,V],?_,d5,λx=>by rw[dM,br,V]⟩,?_⟩
    ·refine Dq (DW hrow3 λx D=>?_) ee;obtain⟨A,s⟩:=hrow3.lt x D
     exact(o9 x (by omega) (by omega) (by omega) (by omega)).trans ((o6 x (by omega)).trans (bm.block x s))
    ·refine Dq (DW cE λx D=>?_) (by omega);obtain⟨A,s⟩:=cE.lt x D
     exact(o9 x (by omega) (by omega) (by omega) (by omega)).trans (o6 x (by omega))
    ·refine⟨hg.os.trans (z8.2.1.trans (p4.trans (z6.2.1.trans (bm.os.trans (z3.2.1.trans (ah.os.trans hBWw.os)))))),hg.tape.trans (z8.2.2.1.trans (p5.trans (z6.2.2.1.trans (bm.tape.trans (z3.2.2.1.trans (ah.tape.trans hBWw.tape)))))),hg.output.trans (z8.2.2.2.trans (p6.trans (z6.2.2.2.trans (bm.output.trans (z3.2.2.2.trans (ah.output.trans hBWw.output)))))),by have:=hg.size;omega,λx D=>?_⟩
     exact(o9 x (by omega) (by omega) (by omega) (by omega)).trans ((ck x (by omega) (by omega)).trans (hBWw.block x D))
   replace dt:=Aa dt;replace bM:=Aa bM;replace cI:=Aa cI;replace bA:=Aa bA;replace hT:=Aa hT;replace n1:=Aa n1;replace n2:=Aa n2;clear Y bG bI bT be ay ar bp aa br hr N hDl ao aG hBWw i1 i2 i7 X r3 bD z3 cA hrow3 co ci ah fl fp r5 az r6 o6 z6 eC ck j1 j2 bz p1 p2 p3 p4 p5 p6 e7 o8 z8 eG m1 m2 oW dN dh hg o9 ee cE d5 dM bm HD HE HP HK
   gi_upto_region 21 with fail
   rw[bM.out];clear bM a0 a1 a2 a3 a4 f4
   gi_cut [] from 19 (λwc=>wc=W8)
   case first=>
    clear aq hT n1 n2 e0 ez
    gi_wp2_with fail
    gi_meet
    case rel=>rw[cI.out,bA.out]
   case rest=>
    rw[hcut];clear hcut cI bA x0 xz d0 d1 d2 d3 d4 b0 b1 b2 b3 b4 y0 y1 y2 y3 y4 e0 ez
    gi_wp2_with fail
    refine⟨by simp,.inl ⟨_,_,rfl,hT.out,?_⟩⟩
    exact⟨_,Qs rfl rfl rfl n1.out n2.out,aq.out⟩
 case stop=>
  rintro c pre O W _ ⟨rfl,hX⟩ dP N;obtain⟨b,eY,A,s⟩:=hX.rep;have hDl:F.heap.size<W.heap.size:=(Xa.1 N).1;have hT:=ZO (P:=Tryz.prog) N;obtain⟨W',dS⟩:∃x,W.putObj F.heap.size (.deferred none)=x:=⟨_,rfl⟩;rw[dS] at hT;have hg:W.grownBy W' (some F.heap.size):=by rw[<-dS];exact ZM _ _ _
  have fJ:=hX.size;have e1:W'.heap[Z+1]?=_:=(hg.block _ (by omega) (λe=>by injection e with e;omega)).trans A;have e2:W'.heap[Z+2]?=_:=(hg.block _ (by omega) (λe=>by injection e with e;omega)).trans s;have aq:Hid (KF w W' (Ap vs fs ls L C) most (.returned (.tuple #[.agg (FZ 0 false false),.int .i64 (EG b)]))/\Below w.heap.size w W'):=by
   refine⟨.inl ⟨b,by rw[V];exact eY,rfl⟩,⟨hg.os.trans (hX.os.trans aB.os),hg.tape.trans (hX.tape.trans aB.tape),hg.output.trans (hX.output.trans aB.output),by have:=hg.size;omega,λx D=>(hg.block x (by omega) (λe=>by injection e with e;omega)).trans ((hX.fixed x (by omega)).trans (aB.block x D))⟩⟩
  unfold FZ at e1 aq
  gi_wp2_with fail
  refine⟨by simp,.inl ⟨_,_,rfl,hT,?_⟩⟩
  exact⟨_,Qs rfl rfl rfl e1 e2,aq.out⟩
def DJ (p:PD) (o:Tx) (m:MS):Bool:=Gg p.C m&&decide (Bz p m=o)
theorem UA {w:Xh} {b Bp Bo vn fn_ vc fc base:Nat} {va fa:Option Addr} {mv mo fr nx lV tV:Xk} {y mx:Int} {f:Bool} {p:PD} {m:MS} {o:Tx} (h:AY w b mv (Aj p m) (Ay m) f mo fr y nx) (ac:w.ownsRow base 48 4 mo (Bh p.C m).length ((Bh p.C m).flatMap Eb)) (hn:Iq p) (hM:CY p m) (R:CK p) (U:(Aj p m).length<4294967000) (Y:w.cell? ⟨4,0,none⟩=some (.int .i64 mx)) (V:vn=p.vs.length) (W:fn_=p.fs.length)
 (J:w.heap[Bp]?=some (.cells #[.slice va vn vc,.slice fa fn_ fc,lV,tV] 25)) (N:w.heap[Bo]?=some (.cells #[.string (bs o)] 9)) (ak:∃a n c,lV = .slice a n c) (aj:∃a n c,tV = .slice a n c) :
 Calls Tryz.prog 45 #[Ab b,Ab Bp,Ab Bo] w λe w'=>e = .returned (.bool (DJ p o m))/\Below w.heap.size w w':=by
 obtain⟨t,v,s,rfl⟩:=ak;obtain⟨D,l,A,rfl⟩:=aj;obtain⟨ma,mc,aa⟩:=As ac;have Q:=h;rw[aa] at Q;have X:Below w.heap.size w w.drew:=⟨rfl,rfl,rfl,Xd _,λ_ _=>rfl⟩;have k:=St (w:=w.drew) Q;have q:=Rf (w:=w.drew) (va:=va) (vc:=vc) (fa:=fa) (fc:=fc) (lV:=.slice t v s) (tV:=.slice D l A) (vn:=vn) (fn_:=fn_) h hn hM R U Y V W;obtain⟨M,H,F,P⟩:=Ea J;obtain⟨G,-⟩:w.cell? ⟨Bo,0,none⟩=some (.string (bs o))/\True:=⟨by simp[Xg,N],trivial⟩;have j:w.drew.cell? ⟨Bo,0,none⟩=some (.string (bs o))/\w.drew.cell? ⟨Bp,0,none⟩=some (.slice va vn vc)/\w.drew.cell? ⟨Bp,1,none⟩=some (.slice fa fn_ fc)/\w.drew.cell? ⟨Bp,2,none⟩=some (.slice t v s)/\w.drew.cell? ⟨Bp,3,none⟩=some (.slice D l A):=⟨G,M,H,F,P⟩;have ag:Hid (∀u,Below w.drew.heap.size w.drew u->u.cell? ⟨Bo,0,none⟩=some (.string (bs o))/\u.cell? ⟨Bp,0,none⟩=some (.slice va vn vc)/\u.cell? ⟨Bp,1,none⟩=some (.slice fa fn_ fc)/\u.cell? ⟨Bp,2,none⟩=some (.slice t v s)/\u.cell? ⟨Bp,3,none⟩=some (.slice D l A)):=λu B=>by
  have E:=(Xa.1 J).1;have ai:=(Xa.1 N).1
  exact⟨(B.cell (p:=⟨Bo,0,none⟩) ai).trans G,(B.cell (p:=⟨Bp,0,none⟩) E).trans M,(B.cell (p:=⟨Bp,1,none⟩) E).trans H,(B.cell (p:=⟨Bp,2,none⟩) E).trans F,(B.cell (p:=⟨Bp,3,none⟩) E).trans P⟩
 have T:Hid (∀i,decide ((Bh p.C m).length=0)=i->DJ p o m=(i&&decide (Bz p m=o))):=λi r=>by unfold DJ Gg;rw[r]
 obtain⟨i,r⟩:∃x,decide ((Bh p.C m).length=0)=x:=⟨_,rfl⟩;rw[r] at k;have I:=Aa (T.out i r);obtain⟨O,Z⟩:∃x,Bz p m=x:=⟨_,rfl⟩;rw[Z] at q I;have ao:((bs O).toList == (bs o).toList)=decide (O=o):=by rw[AL,AL];exact Bool.eq_iff_iff.2 (by simp)
 replace j:=Aa j;replace k:=Aa k;replace q:=Aa q;unfold Ab at k q;clear h ac hn hM R U Y V W J N Q aa r T M H F P G Z;unfold Ab
 cases i
 ·go_enter Tryz.func45,Tryz.ntmps45
  go_wp2_with fail
  refine Xy (S:=λu=>u.cell? ⟨Bo,0,none⟩=some (.string (bs o))/\u.cell? ⟨Bp,0,none⟩=some (.slice va vn vc)/\u.cell? ⟨Bp,1,none⟩=some (.slice fa fn_ fc)/\u.cell? ⟨Bp,2,none⟩=some (.slice t v s)/\u.cell? ⟨Bp,3,none⟩=some (.slice D l A)) (by kernel_rfl) j.out (λd=>?_);refine tk 0 d ?_;refine rd 1 (λK g=>?_)
  go_simp
  go_at_call 25
  refine k.out.mono ?_;rintro e w1 ⟨rfl,rfl⟩
  go_wp2_with fail
  refine g.out _ _ j.out (λd=>?_);clear g K
  try simp only[XG,sq]
  refine tk 2 d ?_;refine tn 3 d ?_;refine tn 4 d ?_;refine tn 5 d ?_;refine tn 6 d ?_;refine tn 7 d ?_;refine tk 8 d ?_;refine tk 9 d ?_;refine Yd (by kernel_rfl) ?_ _
  go_wp2_with fail
  go_ret
  exact⟨congrArg (λz=>Ending.returned (.bool z)) I.out.symm,X⟩
 ·go_enter Tryz.func45,Tryz.ntmps45
  go_wp2_with fail
  refine Xy (S:=λu=>u.cell? ⟨Bo,0,none⟩=some (.string (bs o))/\u.cell? ⟨Bp,0,none⟩=some (.slice va vn vc)/\u.cell? ⟨Bp,1,none⟩=some (.slice fa fn_ fc)/\u.cell? ⟨Bp,2,none⟩=some (.slice t v s)/\u.cell? ⟨Bp,3,none⟩=some (.slice D l A)) (by kernel_rfl) j.out (λd=>?_);refine tk 0 d ?_;refine rd 1 (λK g=>?_)
  go_simp
  go_at_call 25
  refine k.out.mono ?_;rintro e w1 ⟨rfl,rfl⟩
  go_wp2_with fail
  refine g.out _ _ j.out (λd=>?_);clear g K
  try simp only[XG,sq]
  refine tk 2 d ?_;refine tk 3 d ?_;refine tk 4 d ?_;refine tk 6 d ?_;refine rd 5 (λK g=>?_)
  go_simp
  go_at_call 26
  refine q.out.mono ?_;rintro e w2 ⟨rfl,ad⟩
  go_wp2_with fail
  refine g.out _ _ (ag.out w2 ad) (λd=>?_);clear g K
  try simp only[XG,sq]
  refine tk 7 d ?_;refine tk 8 d ?_;refine tk 9 d ?_;refine Yd (by kernel_rfl) ?_ _
  go_wp2_with fail
  go_ret
  have an:decide (O=o)=DJ p o m:=by rw[I.out,Bool.true_and]
  exact⟨congrArg (λz=>Ending.returned (.bool z)) an,X.trans ad⟩
end Go.Proofs.YtdcacoifehkioaaGreatDoor
