import Derived.Test.YtdcacoifehkioaaGreatDoorExH3
import Derived.Test.YtdcacoifehkioaaGreatDoorExH23
open Go renaming World->Xh,Value->Xk,heap_setCell_same->Xj,callsIn_wide->X4,undef->Ya,heap_setCell_other->Xt,run_takeDeferred->ZP,grownBy_putObj'->ZO,wp_region_held_drew->Xx,wpAnyH_done->Yd
open Go.World renaming size_setCell->XC,cell?->Xg,frozen?->XP,alloc->ZC,cell?_of_block->Xy
open Go.Obj renaming cells->ZU
open Array renaming getElem?_toList->Ys,length_toList->ZM,getElem?_eq_some_iff->Xa
open List renaming length_append->Xb,length_map->Xp,map_append->XI,mem_map->Yx
open Nat renaming reduceAdd->Zs,le_refl->Xd,lt_of_lt_of_le->XK,le_trans->Xu,sub_lt_sub_left->Xl,lt_succ_self->Xn
open Go.CallsIn renaming inRound->Zx
open Go.Act renaming put->XF
set_option maxRecDepth 100000
set_option maxHeartbeats 8000000
set_option linter.unusedVariables false
set_option linter.unusedSimpArgs false
namespace Go.Proofs.YtdcacoifehkioaaGreatDoor
open Go.RowKit Go.Shelf Go.Proofs.Cod
attribute [local go_sem] Oper.semAt_some
theorem QC {w:Xh} {n T:Nat} {H t r q l:Xk} (I:w.heap[n]?=some (.cells #[H,t,r,q,l] T)) (a c d f o:Xk):∃W,((((w.setCell ⟨n,0,none⟩ a).setCell ⟨n,1,none⟩ c).setCell ⟨n,2,none⟩ d).setCell ⟨n,3,none⟩ f).setCell ⟨n,4,none⟩ o=W/\W.heap[n]?=some (.cells #[a,c,d,f,o] T)/\(∀b,b≠n->W.heap[b]?=w.heap[b]?)/\W.heap.size=w.heap.size/\W.os=w.os/\W.tape=w.tape/\W.output=w.output:=by
 have p:∀(w:Xh) (k:Nat) (v:Xk),(∀b,b≠n->(w.setCell ⟨n,k,none⟩ v).heap[b]?=w.heap[b]?)/\(w.setCell ⟨n,k,none⟩ v).heap.size=w.heap.size/\(w.setCell ⟨n,k,none⟩ v).os=w.os/\(w.setCell ⟨n,k,none⟩ v).tape=w.tape/\(w.setCell ⟨n,k,none⟩ v).output=w.output:=λw k v=>⟨λb e=>Below.heap_setCell _ ⟨n,k,none⟩ _ b e,XC ..,rfl,rfl,rfl⟩
 have z:=(Xj _ n 0 _ _ a I).trans (show _=some (ZU #[a,t,r,q,l] T) from rfl);obtain⟨w1,C⟩:∃x,w.setCell ⟨n,0,none⟩ a=x:=⟨_,rfl⟩;have h:=p w 0 a;rw[C] at z h;have y:=(Xj _ n 1 _ _ c z).trans (show _=some (ZU #[a,c,r,q,l] T) from rfl);obtain⟨u,A⟩:∃x,w1.setCell ⟨n,1,none⟩ c=x:=⟨_,rfl⟩;have j:=p w1 1 c;rw[A] at y j;have E:=(Xj _ n 2 _ _ d y).trans (show _=some (ZU #[a,c,d,q,l] T) from rfl);obtain⟨w3,s⟩:∃x,u.setCell ⟨n,2,none⟩ d=x:=⟨_,rfl⟩;have g:=p u 2 d;rw[s] at E g;have D:=(Xj _ n 3 _ _ f E).trans (show _=some (ZU #[a,c,d,f,l] T) from rfl);obtain⟨F,B⟩:∃x,w3.setCell ⟨n,3,none⟩ f=x:=⟨_,rfl⟩;have i:=p w3 3 f;rw[B] at D i;have G:=(Xj _ n 4 _ _ o D).trans (show _=some (ZU #[a,c,d,f,o] T) from rfl);have m:=p F 4 o;rw[C,A,s,B]
 exact⟨_,rfl,G,λb e=>(m.1 b e).trans ((i.1 b e).trans ((g.1 b e).trans ((j.1 b e).trans (h.1 b e)))),m.2.1.trans (i.2.1.trans (g.2.1.trans (j.2.1.trans h.2.1))),m.2.2.1.trans (i.2.2.1.trans (g.2.2.1.trans (j.2.2.1.trans h.2.2.1))),m.2.2.2.1.trans (i.2.2.2.1.trans (g.2.2.2.1.trans (j.2.2.2.1.trans h.2.2.2.1))),m.2.2.2.2.trans (i.2.2.2.2.trans (g.2.2.2.2.trans (j.2.2.2.2.trans h.2.2.2.2)))⟩
theorem Im {w:Xh} {b T:Nat} {d c f e a:Xk} (h:w.heap[b]?=some (.cells #[d,c,f,e,a] T)):w.cell? ⟨b,0,none⟩=some d/\w.cell? ⟨b,1,none⟩=some c/\w.cell? ⟨b,2,none⟩=some f/\w.cell? ⟨b,3,none⟩=some e/\w.cell? ⟨b,4,none⟩=some a/\∀k,w.frozen? ⟨b,k,none⟩=false:=by
 refine⟨?_,?_,?_,?_,?_,λk=>?_⟩<;>simp[Xg,XP,h]
theorem Fd {w:Xh} {b T:Nat} {a:Xk} (h:w.heap[b]?=some (.cells #[a] T)):w.cell? ⟨b,0,none⟩=some a/\w.frozen? ⟨b,0,none⟩=false:=by
 refine⟨?_,?_⟩<;>simp[Xg,XP,h]
theorem Ua (a:List Obj):∀w:Xh,(a.foldl ZC w).heap.toList=w.heap.toList++a/\(a.foldl ZC w).os=w.os/\(a.foldl ZC w).tape=w.tape/\(a.foldl ZC w).output=w.output:=by
 induction a with
 |nil=>intro w;exact⟨by simp,rfl,rfl,rfl⟩
 |cons o a b=>
  intro w;obtain⟨e,f,d,c⟩:=b (w.alloc o);refine⟨?_,f,d,c⟩;rw[List.foldl_cons,e];show (w.heap.push o).toList++a=_;rw[Array.toList_push,List.append_assoc];rfl
theorem DU {a:List Obj} {w b:Xh} {Z:Nat} (h:a.foldl ZC w=b) (c:w.heap.size=Z) {i:Nat} {o:Obj} (d:a[i]?=some o):b.heap[Z+i]?=some o:=by
 rw[<-h,<-Ys,(Ua a w).1,List.getElem?_append_right (by rw[ZM];omega),ZM,c,Nat.add_sub_cancel_left];exact d
theorem Ov {b:List Obj} {w a:Xh} (h:b.foldl ZC w=a):Below w.heap.size w a/\a.heap.size=w.heap.size+b.length:=by
 obtain⟨c,f,e,d⟩:=Ua b w;rw[h] at c f e d;have g:a.heap.size=w.heap.size+b.length:=by rw[<-ZM,c,Xb,ZM]
 refine⟨⟨f,e,d,by omega,λx i=>?_⟩,g⟩;rw[<-Ys,c,List.getElem?_append_left (by rw[ZM];exact i),Ys]
theorem ae2 {w:Xh} {Z0 eN nv nf nl nt vc fc lc tc:Nat} {va fa la ta:Option Addr} {vs fs ls:List Tx} {L:List (Tx×Xk)} {C:List (List Ad)} {most:Int} {er em:Addr} (aO : -9223372036854775808<=most/\most<=9223372036854775807)
 (hx:XW w Z0 er em) (bw:Z0<=w.heap.size) (hp:BS w eN (.slice va nv vc) (.slice fa nf fc) (.slice la nl lc) (.slice ta nt tc) vs fs ls L C) (hb:GW vs fs ls L C) (hf:Cs (Am vs fs ls L C)) (hN:DX (Am vs fs ls L C)) (aS:Hu (Am vs fs ls L C)) (aN:∀m,BT (Am vs fs ls L C) m->(Aj (Am vs fs ls L C) m).length<4294967000) :
 Calls Tryz.prog 8 #[.agg #[.slice va nv vc,.slice fa nf fc,.slice la nl lc,.slice ta nt tc],.int .i64 most] w λe w'=>OH w w' (Am vs fs ls L C) most e/\Below w.heap.size w w':=by
 have dC:=@run_makeMap Tryz.prog;obtain⟨p,S⟩:∃x,Am vs fs ls L C=x:=⟨_,rfl⟩;refine(X4 (n:=8)).1 ?_;refine callsIn_of_wp_marks Tryz.func8 rfl trivial ?_ rfl;simp only[Tryz.ntmps8,List.size_toArray,List.length_cons,List.length_nil,Zs,Nat.reduceSub,Array.replicate_succ,Array.replicate_zero,List.push_toArray,List.append_toArray,List.nil_append,List.cons_append];have HP:=Aa (⟨aO,hx,bw,hp,hb,hf,hN,aS,aN⟩:_/\_/\_/\_/\_/\_/\_/\_/\_);clear aO hx bw hp hb hf hN aS aN
 gi_wp2_with (refine⟨trivial,?_⟩;gi_at_call 23;refine(Pz _ _ _ _ _ _ _).mono ?_;rintro e w' ⟨rfl,rfl⟩)
 obtain⟨aO,hx,bw,hp,hb,hf,hN,aS,aN⟩:=HP.out;have b6:nv=vs.length/\nf=fs.length:=by
  obtain⟨x,y,e⟩:=At hp.v;injection e with _ e _
  obtain⟨x2,y2,e2⟩:=At hp.f;injection e2 with _ e2 _
  exact⟨e,e2⟩
 replace b6:=Aa b6;obtain⟨F,aJ⟩:∃F,([.cells #[.slice va nv vc,.slice fa nf fc,.slice la nl lc,.slice ta nt tc] 25,.cells #[.int .i64 0,.slice none 0 0,.bool false,.bool false,.slice none 0 0] 34,.cells #[.int .i64 0] 35,.cells #[.int .i64 0,.slice none 0 0,.bool false,.bool false,.slice none 0 0] 34,.map #[] 0,.map #[] 0,.cells #[.map (some (w.heap.size+1+1+1+1))] 64,.cells #[.map (some (w.heap.size+1+1+1+1+1))] 65,.cells #[.slice va nv vc,.slice fa nf fc,.slice la nl lc,.slice ta nt tc] 25,.cells #[.int .i64 most] 3]:List Obj).foldl ZC w=F:=⟨_,rfl⟩
 change Code.wpIn _ _ _ _ _ _ (([.cells #[.slice va nv vc,.slice fa nf fc,.slice la nl lc,.slice ta nt tc] 25,.cells #[.int .i64 0,.slice none 0 0,.bool false,.bool false,.slice none 0 0] 34,.cells #[.int .i64 0] 35,.cells #[.int .i64 0,.slice none 0 0,.bool false,.bool false,.slice none 0 0] 34,.map #[] 0,.map #[] 0,.cells #[.map (some (w.heap.size+1+1+1+1))] 64,.cells #[.map (some (w.heap.size+1+1+1+1+1))] 65,.cells #[.slice va nv vc,.slice fa nf fc,.slice la nl lc,.slice ta nt tc] 25,.cells #[.int .i64 most] 3]:List Obj).foldl ZC w)
 rw[aJ];obtain⟨Z,X⟩:∃Z,w.heap.size=Z:=⟨_,rfl⟩;have k0:F.heap[Z]?=some (.cells #[.slice va nv vc,.slice fa nf fc,.slice la nl lc,.slice ta nt tc] 25):=DU aJ X (i:=0) rfl;have k1:F.heap[Z+1]?=some (.cells #[.int .i64 0,.slice none 0 0,.bool false,.bool false,.slice none 0 0] 34):=DU aJ X (i:=1) rfl;have k2:F.heap[Z+2]?=some (.cells #[.int .i64 0] 35):=DU aJ X (i:=2) rfl;have k3:F.heap[Z+3]?=some (.cells #[.int .i64 0,.slice none 0 0,.bool false,.bool false,.slice none 0 0] 34):=DU aJ X (i:=3) rfl;have k4:F.heap[Z+4]?=some (.map #[] 0):=DU aJ X (i:=4) rfl;have k5:F.heap[Z+5]?=some (.map #[] 0):=DU aJ X (i:=5) rfl;have k6:F.heap[Z+6]?=some (.cells #[.map (some (Z+4))] 64):=DU aJ X (i:=6) (by rw[X];rfl);have k7:F.heap[Z+7]?=some (.cells #[.map (some (Z+5))] 65):=DU aJ X (i:=7) (by rw[X];rfl);have k8:F.heap[Z+8]?=some (.cells #[.slice va nv vc,.slice fa nf fc,.slice la nl lc,.slice ta nt tc] 25):=DU aJ X (i:=8) rfl;have k9:F.heap[Z+9]?=some (.cells #[.int .i64 most] 3):=DU aJ X (i:=9) rfl;obtain⟨aA,aj⟩:=Ov aJ;have aj:F.heap.size=Z+10:=by rw[aj,X];rfl
 rw[X];simp only[Nat.add_assoc,Zs];clear aJ;have HK:=Aa (⟨aj,k0,k6,k7⟩:_/\_/\_/\_);have bo:XW F Z0 er em:=hx.same λx D=>aA.block x (by omega);have cu:=Py (w:=F) (Z:=Z0) (Bp:=Z+8) (Bm:=Z+9) (eV:=CP er em) aO bo.t ⟨bo.g.1,bo.g.2.1⟩ (by omega) bo.c (hp.below aA) hb hf hN k8 k9;refine OL rfl (by decide) (gf:=53) (lb := #[.pointer (some ⟨Z+9,0,none⟩),.pointer (some ⟨Z+8,0,none⟩)]) rfl trivial (enters_of Tryz.func53 (by kernel_rfl) rfl)
  (IV.any _ cu) (Below.refl _ _) (λx=>by cases x<;>rfl) PG PH PA PC
  (AI F Z p) (λc _ O W=>c = .ret/\AX F Z p most O W)
  (AI.ID (by omega)) (λc a7 O W W' h A s U h4 h5=>⟨h.1,AX.ID (by omega) a7 O W W' h.2 A s U h4 h5⟩)
  (λa7 O W h=>h.inside) (λc a7 O W h=>h.2.inside)
  (λa7 O W h b' aR=>by
    rcases aR with aR|rfl|rfl
    ·exact⟨h.all0 b' (by omega),h.fixed b' (by omega) (by omega) (by omega) (by omega)⟩
    ·exact⟨h.all0 _ (by omega),h.fixed _ (by omega) (by omega) (by omega) (by omega)⟩
    ·exact⟨h.all0 _ (by omega),h.fixed _ (by omega) (by omega) (by omega) (by omega)⟩)
  (λb' aR=>by rcases aR with aR|rfl|rfl<;>omega)
  ⟨λb' aR=>aR,λb' aR=>aR,λb' _ _ _ _=>rfl,rfl,rfl,rfl,Xd _,[],rfl,by decide,k3,⟨λ_=>none,0,⟨#[],0,k4,⟨MapKept.stamped_empty 0,(λe he=>by simp at he),(λd v h=>by cases h)⟩,rfl⟩,Xd _,λx=>by simp[Fv]⟩,⟨λ_=>none,0,⟨#[],0,k5,⟨MapKept.stamped_empty 0,(λe he=>by simp at he),(λd v h=>by cases h)⟩,rfl⟩,Xd _,λx=>by simp[EQ]⟩⟩
  (λ_ x a' O W=>a'={tmps := #[.agg #[.slice va nv vc,.slice fa nf fc,.slice la nl lc,.slice ta nt tc],.int .i64 most,.pointer (some ⟨Z,0,none⟩),Ya,.pointer (some ⟨Z+1,0,none⟩),.pointer (some ⟨Z+2,0,none⟩),.pointer (some ⟨Z+3,0,none⟩),.pointer (some ⟨Z+6,0,none⟩),.pointer (some ⟨Z+7,0,none⟩),(CM (CP er em) x).getD 0 Ya,(CM (CP er em) x).getD 1 Ya,Ya,.map (some (Z+4)),.map (some (Z+5)),.agg #[.slice va nv vc,.slice fa nf fc,.slice la nl lc,.slice ta nt tc],.int .i64 most,.func (.func 53) #[] #[.pointer (some ⟨Z+9,0,none⟩),.pointer (some ⟨Z+8,0,none⟩)],(CM (CP er em) x).getD 0 Ya,(CM (CP er em) x).getD 1 Ya,Ya,Ya,Ya,Ya,Ya,Ya,Ya,Ya,Ya,Ya,Ya,Ya,Ya,Ya,Ya,Ya,Ya,Ya,Ya,Ya,Ya,Ya,Ya,Ya,Ya,Ya,Ya,Ya,Ya,Ya,Ya,Ya,Ya,Ya,Ya,Ya,Ya,Ya,Ya,Ya,Ya,Ya,Ya,Ya,Ya,Ya,Ya,Ya,Ya,Ya,Ya,Ya,Ya,Ya,Ya,Ya,Ya,Ya],defers:=[]})
  (λ_ x a' _ O W W' h _ _ _ _ _=>h) ?assign ?body ?done ?stop
 case assign=>
  intro l' a7 x O W K B hE N
  cases x with
  |st r=>
   unfold CM;dsimp only
   gi_wp2
   exact N _ O _ (Steps.refl O W) B rfl
  |er b=>
   unfold CM;dsimp only
   gi_wp2
   exact N _ O _ (Steps.refl O W) B rfl
 case body=>
  rintro l' a7 x a' O W ⟨rr,fA⟩ fI B hE rfl;have hxW:XW W Z0 er em:=bo.same λx D=>B.fixed x (by omega) (by omega) (by omega) (by omega)
  cases x with
  |er b=>
   have dq:=(B.fixed (Z+1) (by omega) (by omega) (by omega) (by omega)).trans k1;have cv:=(B.fixed (Z+2) (by omega) (by omega) (by omega) (by omega)).trans k2;have cD:=Ru hxW.e hxW.c b;obtain⟨c0,c1,c2,c3,c4,fz⟩:=Im dq;obtain⟨d0,gz⟩:=Fd cv;have f0:=fz 0;have f1:=fz 1;have f2:=fz 2;have f3:=fz 3;have f4:=fz 4;obtain⟨Q,hW1,q1,q2,q3,q4,q5,q6⟩:=QC dq (.int .i64 0) (.slice none 0 0) (.bool false) (.bool false) (.slice none 0 0);have au:IS (AI F Z p) (λc _ O W=>c = .ret/\AX F Z p most O W) (a7++[.er b]) O W .ret {tmps := #[],defers:=[]} (Q.setCell ⟨Z+2,0,none⟩ (.int .i64 (EH b))):=by
    have e2:Q.heap[Z+2]?=_:=(q2 (Z+2) (by omega)).trans cv;have ex:∀x,x≠Z+1->x≠Z+2->(Q.setCell ⟨Z+2,0,none⟩ (.int .i64 (EH b))).heap[x]?=W.heap[x]?:=λx A s=>(Xt Q ⟨Z+2,0,none⟩ x _ s).trans (q2 x A);have hz:(Q.setCell ⟨Z+2,0,none⟩ (.int .i64 (EH b))).heap.size=W.heap.size:=by rw[XC,q3]
    have cI:=B.size;refine⟨O,⟨q4,q5,q6,by rw[hz];exact Xd _,λ_ h=>h,λ_ h=>.inl h,λx D hn=>ex x (λe=>hn (by rw[e];exact B.all0 _ (by omega))) (λe=>hn (by rw[e];exact B.all0 _ (by omega)))⟩,rfl,B.all0,λx D=>by rw[hz];exact B.inside x D,λx D=>(ex x (by omega) (by omega)).trans (B.fixed x (by omega) (by omega) (by omega) (by omega)),q4.trans B.os,q5.trans B.tape,q6.trans B.output,by rw[hz];exact B.size,b,?_,?_,?_⟩
    ·cases b with
     |false=>exact hE
     |true=>rw[if_pos rfl,<-S];exact hE
    ·exact(Xt Q ⟨Z+2,0,none⟩ (Z+1) _ (by show Z+1≠Z+2;omega)).trans q1
    ·exact(Xj Q (Z+2) 0 _ _ _ e2).trans rfl
   have e0:Q.cell? ⟨Z+2,0,none⟩=some (.int .i64 0):=(Xy (w:=W) (a:=⟨Z+2,0,none⟩) (q2 (Z+2) (by omega))).trans d0;have ez:Q.frozen? ⟨Z+2,0,none⟩=false:=by
    have:=(q2 (Z+2) (by omega)).trans cv;simp[XP,this]
   replace cD:=Aa cD;replace au:=Aa au;replace hW1:=Aa hW1;obtain⟨ea,dI⟩:∃x,CP er em b = .iface 346 (.pointer (some x)):=⟨_,rfl⟩;rw[dI] at cD;rw[show (CM (CP er em) (XS.er b)).getD 0 Ya = .pointer none from rfl,show (CM (CP er em) (XS.er b)).getD 1 Ya = .iface 346 (.pointer (some ea)) from dI];clear hx bo hxW B hE hp hb hf hN aS aN aO k0 k1 k2 k3 k4 k5 k6 k7 k8 k9 aA cu aj HP dC dq cv fz q1 q2 q3 q4 q5 q6 dI
   gi_wp2_with (refine⟨trivial,?_⟩;gi_at_call 24;refine(Zx l' (X4.2 cD.out)).mono ?_;rintro e w' ⟨rfl,rfl⟩)
   rw[hW1.out];exact au.out
  |st r=>
   obtain⟨c9,hS⟩:=hE;rw[S] at hS;obtain⟨R,aV,aD,aa,ax⟩:=B.rep;unfold Gb at aa;obtain⟨nx,aw⟩:=hS.st;obtain⟨e8,Y⟩:=hS.mo;have aL:∀k,k<Z+10->r.b≠k:=λk H e=>hS.nb (by rw[e];exact B.all0 k (by omega));have bO:R.length<20000:=by rw[aV,Xp] at c9;exact c9
   obtain⟨l,hl⟩:∃x,R.map Ag.m=x:=⟨_,rfl⟩;have av:l.length=R.length:=by rw[<-hl,Xp]
   rw[hl] at aa ax;obtain⟨n,hn⟩:∃x,R.length=x:=⟨_,rfl⟩;rw[hn] at aa ax bO av;obtain⟨st,aU⟩:∃x,BE p.C l=x:=⟨_,rfl⟩;obtain⟨fq,be⟩:∃x,CG l=x:=⟨_,rfl⟩;rw[aU,be] at aa;obtain⟨c0,c1,c2,c3,c4,fz⟩:=Im aa;have f0:=fz 0;have eI:wrap64 ((n:Int)+1)=(n:Int)+1:=by unfold wrap64;omega
   obtain⟨Q,hW1⟩:∃x,W.setCell ⟨Z+3,0,none⟩ (.int .i64 ((n:Int)+1))=x:=⟨_,rfl⟩;have r1:Q.heap[Z+3]?=some (.cells #[.int .i64 ((n:Int)+1),.slice none 0 0,.bool st,.bool fq,.slice none 0 0] 34):=by rw[<-hW1];exact(Xj W (Z+3) 0 _ _ _ aa).trans rfl
   have o1:∀x,x≠Z+3->Q.heap[x]?=W.heap[x]?:=λx D=>by rw[<-hW1];exact Xt W ⟨Z+3,0,none⟩ x _ D
   have z1:Q.heap.size=W.heap.size/\Q.os=W.os/\Q.tape=W.tape/\Q.output=W.output:=by rw[<-hW1];exact⟨XC ..,rfl,rfl,rfl⟩
   have dT:Bb Q r.b (.pointer none) (Aj p r.m) (Au r.m) (Bw r.m) r.mo (DO r.fr) r.y nx:=(o1 r.b (aL _ (by omega))).trans aw;obtain⟨-,-,s2,s3,-⟩:=DR dT;obtain⟨-,-,-,d3,-,gz⟩:=Im r1;have g3:=gz 3;obtain⟨ff,bm⟩:∃x,Bw r.m=x:=⟨_,rfl⟩;rw[bm] at s3;obtain⟨W2,bp⟩:∃x,Q.setCell ⟨Z+3,3,none⟩ (.bool (fq||ff))=x:=⟨_,rfl⟩;have r2:W2.heap[Z+3]?=some (.cells #[.int .i64 ((n:Int)+1),.slice none 0 0,.bool st,.bool (fq||ff),.slice none 0 0] 34):=by rw[<-bp];exact(Xj Q (Z+3) 3 _ _ _ r1).trans rfl
   have o2:∀x,x≠Z+3->W2.heap[x]?=W.heap[x]?:=λx D=>by rw[<-bp];exact(Xt Q ⟨Z+3,3,none⟩ x _ D).trans (o1 x D)
   have z2:W2.heap.size=W.heap.size/\W2.os=W.os/\W2.tape=W.tape/\W2.output=W.output:=by rw[<-bp];exact⟨(XC ..).trans z1.1,z1.2.1,z1.2.2.1,z1.2.2.2⟩
   have bJ:Bb W2 r.b (.pointer none) (Aj p r.m) (Au r.m) (Bw r.m) r.mo (DO r.fr) r.y nx:=(o2 r.b (aL _ (by omega))).trans aw;have HQ:=Aa (⟨B,hS,aV,aD,ax,Y,aL,bO,hl,av,hn,aU,be,bm,hxW⟩:_/\_/\_/\_/\_/\_/\_/\_/\_/\_/\_/\_/\_/\_/\_);have H2:=Aa (⟨r2,o2,z2,bJ⟩:_/\_/\_/\_);replace hW1:=Aa hW1;replace bp:=Aa bp;rw[show (CM (CP er em) (XS.st r)).getD 0 Ya = .pointer (some ⟨r.b,0,none⟩) from rfl,show (CM (CP er em) (XS.st r)).getD 1 Ya = .nilIface from rfl];clear hx bo hxW B hS hp hb hf hN aS aN aO k0 k1 k2 k3 k4 k5 k6 k7 k8 k9 aA cu aj dC c9 aa ax aw Y aL bO hl av hn aU be bm fz r1 o1 z1 dT gz r2 o2 z2 bJ aV aD fA
   gi_upto_region 9 with fail
   try rw[eI]
   rw[hW1.out];clear hW1 c0 c1 c2 c3 c4 f0
   gi_cut [] from 19 (λwc=>wc=W2)
   case first=>
    cases fq
    ·gi_wp2_with fail
     gi_meet
     case rel=>exact bp.out
    ·gi_wp2_with fail
     gi_meet
     case rel=>exact bp.out
   case rest=>
    rw[hcut];clear hcut bp d3 s2 s3 g3;obtain⟨r2,o2,z2,bJ⟩:=H2.out;obtain⟨B,hS,aV,aD,ax,Y,aL,bO,hl,av,hn,aU,be,bm,hxW⟩:=HQ.out;obtain⟨ma,mc,d9⟩:=At Y;have da:=bJ;rw[d9] at da;have cP:=SG da;obtain⟨ie,cU⟩:∃x,decide ((Bj p.C r.m).length=0)=x:=⟨_,rfl⟩;rw[cU] at cP;obtain⟨-,-,e2,-,-,ez⟩:=Im r2;have fi:=ez 2;obtain⟨-,-,s2,-⟩:=DR bJ;obtain⟨G,hG⟩:∃x,Au r.m=x:=⟨_,rfl⟩;rw[hG] at s2;obtain⟨E,ap⟩:∃x,W2.setCell ⟨Z+3,2,none⟩ (.bool (st||decide (0<G)))=x:=⟨_,rfl⟩;have r3:E.heap[Z+3]?=some (.cells #[.int .i64 ((n:Int)+1),.slice none 0 0,.bool (st||decide (0<G)),.bool (fq||ff),.slice none 0 0] 34):=by rw[<-ap];exact(Xj W2 (Z+3) 2 _ _ _ r2).trans rfl
    have o3:∀x,x≠Z+3->E.heap[x]?=W.heap[x]?:=λx D=>by rw[<-ap];exact(Xt W2 ⟨Z+3,2,none⟩ x _ D).trans (o2 x D)
    have z3:E.heap.size=W.heap.size/\E.os=W.os/\E.tape=W.tape/\E.output=W.output:=by rw[<-ap];exact⟨(XC ..).trans z2.1,z2.2.1,z2.2.2.1,z2.2.2.2⟩
    obtain⟨aO,hx,bw,hp,hb,hf,hN,aS,aN⟩:=HP.out;obtain⟨aj,k0,k6,k7⟩:=HK.out;have cI:=B.size;have df:∀x,x<Z+10->x≠Z+3->x≠Z+4->x≠Z+5->E.heap[x]?=F.heap[x]?:=λx A s U h4=>(o3 x s).trans (B.fixed x (by omega) s U h4);have ei:Bb E r.b (.pointer none) (Aj p r.m) (Au r.m) (Bw r.m) r.mo (DO r.fr) r.y nx:=(o3 r.b (aL _ (by omega))).trans ((o2 r.b (aL _ (by omega))).symm.trans bJ);have eu:XW E Z0 er em:=hxW.same λx D=>o3 x (by omega);obtain⟨mx,ek⟩:=eu.m;have hd3:Below E.heap.size E E.drew:=⟨rfl,rfl,rfl,Xd _,λ_ _=>rfl⟩;have cb:=Rm (w:=E.drew) (p:=p) (m:=r.m) (va:=va) (vc:=vc) (fa:=fa) (fc:=fc) (lV:=.slice la nl lc) (tV:=.slice ta nt tc) (vn:=nv) (fn_:=nf) ei (by rw[<-S];exact aS) hS.ok (by rw[<-S];exact hf) (by rw[<-S];exact aN r.m (by rw[S];exact hS.ok)) ek (by rw[b6.out.1,<-S];rfl) (by rw[b6.out.2,<-S];rfl);have eY:Tryz.prog.follows Departure.mixedOrders=true:=by kernel_rfl
    obtain⟨q0,q1,q2,q3⟩:=Ee ((df Z (by omega) (by omega) (by omega) (by omega)).trans k0);obtain⟨q6,-⟩:=Fd ((df (Z+6) (by omega) (by omega) (by omega) (by omega)).trans k6);have bY:Hid (E.drew.cell? ⟨Z+6,0,none⟩=some (.map (some (Z+4)))/\E.drew.cell? ⟨Z,0,none⟩=some (.slice va nv vc)/\E.drew.cell? ⟨Z,1,none⟩=some (.slice fa nf fc)/\E.drew.cell? ⟨Z,2,none⟩=some (.slice la nl lc)/\E.drew.cell? ⟨Z,3,none⟩=some (.slice ta nt tc)):=⟨q6,q0,q1,q2,q3⟩;obtain⟨fo,no,hKo,de,dg⟩:=ax.o;have co:AB sk E (Z+4) fo no:=hKo.same (o3 _ (by omega));have bE:AB sk W2 (Z+4) fo no:=hKo.same (o2 _ (by omega));obtain⟨T,hT⟩:∃T:Xh->Prop,T=λwc=>(∃f I,AB sk wc (Z+4) f I/\I<=n+1/\∀x,f x≠none↔Fv p (l++[r.m]) x)/\wc.heap[Z+3]?=some (.cells #[.int .i64 ((n:Int)+1),.slice none 0 0,.bool (BE p.C (l++[r.m])),.bool (CG (l++[r.m])),.slice none 0 0] 34)/\Ac (λb=>b=Z+3\/b=Z+4) W wc:=⟨_,rfl⟩;have dm:CG (l++[r.m])=(fq||ff):=by unfold CG at be |-;rw[Ot,be,bm]
    have cw:Hid (ie=false->T W2):=λz=>by
     rw[hT];have he:Gi p.C r.m=false:=by unfold Gi;rw[cU,z]
     refine⟨⟨fo,no,bE,by omega,λx=>by rw[dg,QF,he];simp⟩,?_,⟨z2.2.1,z2.2.2.1,z2.2.2.2,by rw[z2.1];exact Xd _,λx _ h=>o2 x (λe=>h (.inl e))⟩⟩;rw[dm];have:BE p.C (l++[r.m])=st:=by unfold BE at aU |-;rw[Ot,aU,he];simp
     rw[this];exact r2
    have au:Hid (ie=true->∀V,Below E.heap.size E V->(V.cell? ⟨Z+6,0,none⟩=some (.map (some (Z+4)))/\V.cell? ⟨Z,0,none⟩=some (.slice va nv vc)/\V.cell? ⟨Z,1,none⟩=some (.slice fa nf fc)/\V.cell? ⟨Z,2,none⟩=some (.slice la nl lc)/\V.cell? ⟨Z,3,none⟩=some (.slice ta nt tc))/\∃J,(Instr.mapUpdate 64 (.map (some (Z+4))) (.string (bs (Bl p r.m))) (.agg #[])).run Tryz.prog V = .ok () J/\(J.cell? ⟨Z+6,0,none⟩=some (.map (some (Z+4)))/\J.cell? ⟨Z,0,none⟩=some (.slice va nv vc)/\J.cell? ⟨Z,1,none⟩=some (.slice fa nf fc)/\J.cell? ⟨Z,2,none⟩=some (.slice la nl lc)/\J.cell? ⟨Z,3,none⟩=some (.slice ta nt tc))/\T J):=λz V am=>by
     have hz3:E.heap.size=W.heap.size:=z3.1;have k4:∀x k,x<Z+10->V.cell? ⟨x,k,none⟩=E.cell? ⟨x,k,none⟩:=λx k A=>Xy (w:=E) (a:=⟨x,k,none⟩) (am.block x (by omega));refine⟨⟨(k4 _ _ (by omega)).trans q6,(k4 _ _ (by omega)).trans q0,(k4 _ _ (by omega)).trans q1,(k4 _ _ (by omega)).trans q2,(k4 _ _ (by omega)).trans q3⟩,?_⟩;have eX:AB sk V (Z+4) fo no:=co.same (am.block _ (by omega));obtain⟨J,cE,eT,cX,fH⟩:=eX.put Tryz.strKey Tryz.underlying64 (Bl p r.m) (.agg #[]);have k5:∀x,x<V.heap.size->x≠Z+4->J.heap[x]?=V.heap[x]?:=λx A s=>cX.block x A (λe=>s (by injection e with e));have cg:∀x k,x<Z+10->x≠Z+4->J.cell? ⟨x,k,none⟩=V.cell? ⟨x,k,none⟩:=λx k A s=>Xy (w:=V) (a:=⟨x,k,none⟩) (k5 x (by have:=am.size;omega) s);refine⟨J,cE,⟨(cg _ _ (by omega) (by omega)).trans ((k4 _ _ (by omega)).trans q6),(cg _ _ (by omega) (by omega)).trans ((k4 _ _ (by omega)).trans q0),(cg _ _ (by omega) (by omega)).trans ((k4 _ _ (by omega)).trans q1),(cg _ _ (by omega) (by omega)).trans ((k4 _ _ (by omega)).trans q2),(cg _ _ (by omega) (by omega)).trans ((k4 _ _ (by omega)).trans q3)⟩,?_⟩;rw[hT];have he:Gi p.C r.m=true:=by unfold Gi;rw[cU,z]
     refine⟨⟨_,_,eT,?_,λx=>?_⟩,?_,?_⟩
     ·split<;>omega
     ·rw[QF,he];unfold Bz
      by_cases e:x=Bl p r.m
      ·rw[if_pos e];simp[e]
      ·rw[if_neg e,dg];constructor
       ·exact λz=>.inl z
       ·rintro(z|z)
        ·exact z
        ·exact absurd z.2.symm e
     ·rw[dm];have:BE p.C (l++[r.m])=(st||decide (0<G)):=by unfold BE at aU |-;rw[Ot,aU,he,hG];simp
      rw[this]
      exact(k5 _ (by have:=am.size;omega) (by omega)).trans ((am.block _ (by omega)).trans r3)
     ·exact⟨cX.os.trans (am.os.trans z3.2.1),cX.tape.trans (am.tape.trans z3.2.2.1),cX.output.trans (am.output.trans z3.2.2.2),by have:=am.size;omega,λx A s=>(k5 x (by have:=am.size;omega) (λe=>s (.inr e))).trans ((am.block x (by omega)).trans (o3 x (λe=>s (.inl e))))⟩
    have HT:=Aa hT;replace ap:=Aa ap;replace cb:=Aa cb;replace hd3:=Aa hd3;unfold Ab at cP;clear r2 o2 z2 bJ B hS aV aD ax Y aL bO hl av hn aU be bm hxW d9 da cU ez hG r3 o3 z3 aO hx bw hp hb hf hN aS aN aj k0 k6 k7 cI df ei eu ek q0 q1 q2 q3 q6 hKo de dg co bE hT dm H2
    gi_upto_if 38 with (refine⟨trivial,?_⟩;gi_at_call 25;refine(Zx l' (X4.2 cP)).mono ?_;rintro e w' ⟨rfl,rfl⟩)
    clear cP
    gi_cut [] from 19 (λwc=>T wc)
    case first=>
     cases ie
     ·gi_wp2_with fail
      gi_meet
      case rel=>first|exact cw.out rfl|exact cw.out trivial
     ·cases st<;>
      ·gi_upto_region 12 with fail
       have cL:=ap.out
       (first|rw[Bool.false_or] at cL|rw[Bool.true_or] at cL)
       rw[cL];clear cL;refine QI (λu=>u.cell? ⟨Z+6,0,none⟩=some (.map (some (Z+4)))/\u.cell? ⟨Z,0,none⟩=some (.slice va nv vc)/\u.cell? ⟨Z,1,none⟩=some (.slice fa nf fc)/\u.cell? ⟨Z,2,none⟩=some (.slice la nl lc)/\u.cell? ⟨Z,3,none⟩=some (.slice ta nt tc)) eY ?_;refine GJ (i:=0) (v:=.map (some (Z+4))) rfl (by kernel_rfl) (λ_ _ _ h=>h) (by kernel_rfl) (by kernel_rfl) ⟨by rfl,?_,λ_=>rfl⟩ bY.out ?_
       ·intro w9 bN;obtain⟨x0,x1,x2,x3,x4⟩:=bN;go_simp
       simp only[XF,sq];refine GJ (i:=1) (v:=.pointer (some ⟨r.b,0,none⟩)) rfl (by kernel_rfl) (λ_ _ _ h=>h) (by kernel_rfl) (by kernel_rfl) ⟨by rfl,?_,λ_=>rfl⟩ bY.out ?_
       ·intro w9 bN;obtain⟨x0,x1,x2,x3,x4⟩:=bN;go_simp
       simp only[XF,sq];refine GJ (i:=2) (v:=.agg #[.slice va nv vc,.slice fa nf fc,.slice la nl lc,.slice ta nt tc]) rfl (by kernel_rfl) (λ_ _ _ h=>h) (by kernel_rfl) (by kernel_rfl) ⟨by rfl,?_,λ_=>rfl⟩ bY.out ?_
       ·intro w9 bN;obtain⟨x0,x1,x2,x3,x4⟩:=bN;go_simp
       simp only[XF,sq];refine GJ (i:=4) (v:=.agg #[]) rfl (by kernel_rfl) (λ_ _ _ h=>h) (by kernel_rfl) (by kernel_rfl) ⟨by rfl,?_,λ_=>rfl⟩ bY.out ?_
       ·intro w9 bN;obtain⟨x0,x1,x2,x3,x4⟩:=bN;go_simp
       simp only[XF,sq];refine NK (i:=3) (by kernel_rfl) rfl (λK N=>?_)
       go_simp
       gi_wp2_with (refine⟨trivial,?_⟩;gi_at_call 26;refine(Zx l' (X4.2 cb.out)).mono ?_;rintro e V ⟨rfl,am⟩)
       obtain⟨dY,J,eD,d7,c6⟩:_/\∃J,_/\_/\T J:=by first|exact au.out rfl V (hd3.out.trans am)|exact au.out trivial V (hd3.out.trans am)|exact au.out V (hd3.out.trans am)
       refine N _ _ dY ?_;clear N K;refine NK (i:=5) (by kernel_rfl) rfl (λK N=>?_)
       go_simp
       refine N _ _ d7 ?_;clear N K;refine SL (by kernel_rfl) ?_;replace c6:=Aa c6;clear eD d7 dY am au cw cb bY
       gi_wp2_with fail
       gi_meet
       case rel=>exact c6.out
    case rest=>
     rw[HT.out] at hcut;obtain⟨dL,dW,aI⟩:=hcut;obtain⟨B,hS,aV,aD,ax,Y,aL,bO,hl,av,hn,aU,be,bm,hxW⟩:=HQ.out;obtain⟨aO,hx,bw,hp,hb,hf,hN,aS,aN⟩:=HP.out;obtain⟨aj,k0,k6,k7⟩:=HK.out;have cI:=B.size;rw[S] at hf;have dX:(Bj p.C r.m).length<=4:=by
      rw[Nk];have A:=Jh p.C r.m r.m.thr.length;have s:=hS.ok.tl;have U:=hf.fit.four;unfold AG
      omega
     obtain⟨eC,aw⟩:=hS.st;have hbl:=hS.lt;have keepW:∀(wr:Xh),Ac (λb=>b=Z+5) wc wr->(∀x,x<W.heap.size->x≠Z+3->x≠Z+4->x≠Z+5->wr.heap[x]?=W.heap[x]?):=λwr H x A s U h4=>(H.block x (XK A aI.size) h4).trans (aI.block x A (λe=>by rcases e with e|e;exact s e;exact U e));have ee:∀(wr:Xh),Ac (λb=>b=Z+5) wc wr->Bb wr r.b (.pointer none) (Aj p r.m) (Au r.m) (Bw r.m) r.mo (DO r.fr) r.y eC:=λwr H=>(keepW wr H r.b hbl (aL _ (by omega)) (aL _ (by omega)) (aL _ (by omega))).trans aw;have ed:∀(wr:Xh),Ac (λb=>b=Z+5) wc wr->wr.ownsRow e8 48 4 r.mo (Bj p.C r.m).length ((Bj p.C r.m).flatMap Ef):=λwr H=>Ea Y λx D=>by
      have A:=(Y.lt x D).2;have s:∀k,k<Z+10->x≠k:=λk H e=>hS.nm x D (by rw[e];exact B.all0 k (by omega));exact keepW wr H x A (s _ (by omega)) (s _ (by omega)) (s _ (by omega))
     have aM:∀(wr:Xh),Ac (λb=>b=Z+5) wc wr->∀x,x<Z+10->x≠Z+3->x≠Z+4->x≠Z+5->wr.heap[x]?=F.heap[x]?:=λwr H x A s U h4=>(keepW wr H x (by omega) s U h4).trans (B.fixed x (by omega) s U h4);have cs:=fun(wr:Xh) (H:Ac (λb=>b=Z+5) wc wr) (x:Int)=>WJ (x:=x) (ee wr H) (ed wr H) dX;have cq:nv=p.vs.length:=by rw[b6.out.1,<-S];rfl
     have cA:=hf.v;obtain⟨q0,-,-,-⟩:=Ee ((aM wc (Ac.refl _) Z (by omega) (by omega) (by omega) (by omega)).trans k0);have ca:∃f I,AB ik wc (Z+5) f I/\I<=n*4+0/\∀x:Int,f x≠none↔EQ p l x\/((0<=x/\x<((0:Nat):Int))/\(Dd x (Bj p.C r.m)).isSome=true):=by
      obtain⟨f,I,A,s,U⟩:=ax.y;refine⟨f,I,A.same (aI.block _ (by omega) (λe=>by rcases e with e|e<;>omega)),by omega,λx=>?_⟩;rw[U];constructor
      ·exact .inl
      ·rintro(z|z)
       ·exact z
       ·have:=z.1;omega
     have cC:∀wr:Xh,(∃f I,AB ik wr (Z+5) f I/\I<=n*4+nv/\∀x:Int,f x≠none↔EQ p l x\/((0<=x/\x<((nv:Nat):Int))/\(Dd x (Bj p.C r.m)).isSome=true))->Ac (λb=>b=Z+5) wc wr->IS (AI F Z p) (λc _ O W=>c = .ret/\AX F Z p most O W) (a7++[.st r]) O W .normal {tmps := #[],defers:=[]} wr:=λwr hY H=>by
      have hzz:W.heap.size<=wr.heap.size:=Xu aI.size H.size;refine⟨λb=>O b\/(W.heap.size<=b/\b<wr.heap.size),⟨H.os.trans aI.os,H.tape.trans aI.tape,H.output.trans aI.output,hzz,λ_ h=>.inl h,λ_ h=>h.imp id And.left,λx A s=>keepW wr H x A (λe=>s (by rw[e];exact B.all0 _ (by omega))) (λe=>s (by rw[e];exact B.all0 _ (by omega))) (λe=>s (by rw[e];exact B.all0 _ (by omega)))⟩,λx D=>.inl (B.all0 x D),λx D=>D.elim (λz=>XK (B.inside x z) hzz) And.right,λx A s U h4=>(keepW wr H x (by omega) s U h4).trans (B.fixed x A s U h4),H.os.trans (aI.os.trans B.os),H.tape.trans (aI.tape.trans B.tape),H.output.trans (aI.output.trans B.output),by omega,R++[r],?_,?_,?_,?_,?_⟩
      ·rw[aV,XI];rfl
      ·rw[Xb,hn];show n+1<=20000;omega
      ·rw[Xb,hn,XI,hl]
       exact(H.block _ (XK (by omega) aI.size) (by omega)).trans dW
      ·obtain⟨f,I,A,s,U⟩:=dL;rw[Xb,hn,XI,hl]
       exact⟨f,I,A.same (H.block _ (XK (by omega) aI.size) (by omega)),s,U⟩
      ·obtain⟨f,I,A,s,U⟩:=hY;rw[Xb,hn,XI,hl];refine⟨f,I,A,by show I<=(n+1)*4;omega,λx=>?_⟩;rw[U,show (l++[r].map Ag.m)=l++[r.m] from rfl,aaa,cq]
     replace cC:=Aa cC;replace cs:=Aa cs;replace ca:=Aa ca;have HR:=Aa (⟨aM,cA,cq,k7⟩:_/\_/\_/\_);have fF:∀u:Xh,(binOp .neq 32 (.slice none 0 0) (.slice none 0 0)).run Tryz.prog u = .ok (.bool false) u:=λu=>by kernel_rfl
     have fQ:∀(g:Nat) (u:Xh),(binOp .neq 32 (.slice (some ⟨g,0,none⟩) 2 2) (.slice none 0 0)).run Tryz.prog u = .ok (.bool true) u:=λg u=>by kernel_rfl
     clear dL dW aI B hS aV aD ax Y aL bO hl av hn aU be bm hxW aO hx bw hp hb hf hN aS aN aj k0 k6 k7 cI dX aw hbl keepW ee ed aM cA cq HQ HT cw au bY cb hd3 ap e2 fi s2
     gi_wp2_with fail
     gi_loopw [57] (λkv wr=>∃k:Nat,k<=nv/\kv = .int .i64 k/\(∃f I,AB ik wr (Z+5) f I/\I<=n*4+k/\∀x:Int,f x≠none↔EQ p l x\/((0<=x/\x<(k:Int))/\(Dd x (Bj p.C r.m)).isSome=true))/\Ac (λb=>b=Z+5) wc wr) (λkv _=>nv - (intOf kv).toNat)
     case atStart=>exact⟨0,Nat.zero_le _,rfl,ca.out,Ac.refl _⟩
     case round=>
      obtain⟨k,H,rfl,hY,a5⟩:=hrel
      by_cases h5:k<nv
      ·have fM:(k:Int)<(nv:Int):=by omega
       obtain⟨aM,cA,cq,k7⟩:=HR.out;have hR:=cs.out wr a5 (k:Int);obtain⟨q7,-⟩:=Fd ((aM wr a5 (Z+7) (by omega) (by omega) (by omega) (by omega)).trans k7);have bU:Z+7<wr.heap.size:=World.block_lt_of_cell? _ _ q7;have cR:wrap64 ((k:Int)+1)=(k:Int)+1:=by unfold wrap64;omega
       have HY:=Aa (⟨hY,a5,h5,bU⟩:_/\_/\_/\_);replace hR:=Aa hR;unfold Ab at hR;have h7:=Aa q7;clear hY a5 h5 bU aM cA cq k7 cs HR ca H q7
       gi_wp2_with fail
       refine⟨trivial,(Zx l' (X4.2 hR.out)).mono ?_⟩;rintro e w2 ⟨v,rfl,hv,ad⟩;clear hR;obtain⟨⟨f,I,cH,ep,cW⟩,a5,h5,bU⟩:=HY.out;have bi:Ac (λb=>b=Z+5) wc w2:=a5.trans (Ac.DG ad);have bE:=cH.same (w':=w2) (ad.block _ cH.lt);have fN:w2.cell? ⟨Z+7,0,none⟩=some (.map (some (Z+5))):=(ad.cell (p:=⟨Z+7,0,none⟩) bU).trans h7.out;unfold IW at hv
       cases hq:Dd (k:Int) (Bj p.C r.m) with
       |none=>
        rw[hq] at hv;dsimp only at hv;have bd:Hid (k+1<=nv/\(∃f I,AB ik w2 (Z+5) f I/\I<=n*4+(k+1)/\∀x:Int,f x≠none↔EQ p l x\/((0<=x/\x<((k+1:Nat):Int))/\(Dd x (Bj p.C r.m)).isSome=true))/\Ac (λb=>b=Z+5) wc w2):=by
         refine⟨h5,⟨f,I,bE,by omega,λx=>?_⟩,bi⟩;rw[cW];constructor
         ·rintro(z|⟨z1,z2⟩)
          ·exact .inl z
          ·exact .inr ⟨by omega,z2⟩
         ·rintro(z|⟨z1,z2⟩)
          ·exact .inl z
          ·by_cases e:x=k
           ·rw[e,hq] at z2;cases z2
           ·exact .inr ⟨by omega,z2⟩
        subst hv;clear cH ep cW a5 h5 bU bi bE HY ad hq
        gi_wp2_with fail
        go_roundw
        case rel=>
         (try rw[cR])
         exact⟨k+1,bd.out.1,rfl,bd.out.2.1,bd.out.2.2⟩
        case measure=>
         (try rw[cR])
         exact Xl bd.out.1 (Xn k)
       |some ab=>
        rw[hq] at hv;obtain⟨a,b⟩:=ab;obtain⟨g,rfl,fp,fx⟩:=hv;obtain⟨w3,cE,co,b9,hz3⟩:=bE.put (acx Tryz.underlying3) Tryz.underlying65 (k:Int) (.agg #[]);have cE:(Instr.mapUpdate 65 (.map (some (Z+5))) (.int .i64 k) (.agg #[])).run Tryz.prog w2 = .ok () w3:=cE;have bd:Hid (k+1<=nv/\(∃f I,AB ik w3 (Z+5) f I/\I<=n*4+(k+1)/\∀x:Int,f x≠none↔EQ p l x\/((0<=x/\x<((k+1:Nat):Int))/\(Dd x (Bj p.C r.m)).isSome=true))/\Ac (λb=>b=Z+5) wc w3):=by
         refine⟨h5,⟨_,_,co,by split<;>omega,λx=>?_⟩,⟨b9.os.trans bi.os,b9.tape.trans bi.tape,b9.output.trans bi.output,by have:=bi.size;omega,λx A s=>(b9.block x (by have:=bi.size;omega) (λe=>s (by injection e with e))).trans (bi.block x A s)⟩⟩;unfold Bz
         by_cases e:x=(k:Int)
         ·rw[if_pos e];constructor
          ·intro _;refine .inr ⟨by omega,?_⟩;rw[e,hq];rfl
          ·intro _ z;cases z
         ·rw[if_neg e,cW];constructor
          ·rintro(z|⟨z1,z2⟩)
           ·exact .inl z
           ·exact .inr ⟨by omega,z2⟩
          ·rintro(z|⟨z1,z2⟩)
           ·exact .inl z
           ·exact .inr ⟨by omega,z2⟩
        clear cH ep cW a5 h5 bU bi bE HY ad hq co b9 hz3 fp fx
        gi_wp2_with fail
        go_roundw
        case rel=>
         (try rw[cR])
         exact⟨k+1,bd.out.1,rfl,bd.out.2.1,bd.out.2.2⟩
        case measure=>
         (try rw[cR])
         exact Xl bd.out.1 (Xn k)
      ·have eR:k=nv:=by omega
       subst eR;have HN:=Aa (cC.out wr hY a5);clear hY a5 cC cs HR ca h5 H
       gi_wp2_with fail
       exact HN.out
 case done=>
  rintro xs O W eG B dJ N;have hDl:F.heap.size<W.heap.size:=(Xa.1 N).1
  rcases eG with⟨a7,e,rfl⟩|⟨hr,base,fb,kb,R',eg,du,fn,bh⟩
  ·obtain⟨R,h,-⟩:=B.rep;have:XS.er e∈R.map XS.st:=by rw[<-h];simp
   obtain⟨q,-,hq⟩:=Yx.1 this
   cases hq
  ·obtain⟨R,aV,aD,aa,ax⟩:=B.rep;have ft:R=R':=by
    have h:R.map XS.st=R'.map XS.st:=aV.symm.trans eg;have e3:∀(a b:List Ag),a.map XS.st=b.map XS.st->a=b:=by
     intro a
     induction a with
     |nil=>intro b h;cases b with
      |nil=>rfl
      |cons y b=>cases h
     |cons x a ih=>intro b h;cases b with
      |nil=>cases h
      |cons y b=>
       injection h with A s
       injection A with A
       rw[A,ih b s]
    exact e3 R R' h
   subst ft;rw[S] at du bh;obtain⟨l,hl⟩:∃x,R.map Ag.m=x:=⟨_,rfl⟩;have av:l.length=R.length:=by rw[<-hl,Xp]
   have dK:∀m,m∈l->BT p m:=λm hm=>by
    rw[<-hl,Yx] at hm;obtain⟨r,eQ,rfl⟩:=hm;obtain⟨j,hj⟩:=List.mem_iff_getElem?.1 eQ;exact du.ok j r hj
   rw[hl] at aa ax bh;obtain⟨st,aw⟩:∃x,BE p.C l=x:=⟨_,rfl⟩;obtain⟨fq,bn⟩:∃x,CG l=x:=⟨_,rfl⟩;unfold Gb at aa;rw[aw,bn,<-av] at aa;obtain⟨fo,no,hKo,de,Y⟩:=ax.o;obtain⟨fy,ny,bM,bV,bu⟩:=ax.y;have ef:∀x,fo x≠none->x.length<=maxLen:=λx D=>by
    obtain⟨m,hm,-,rfl⟩:=(Y x).1 D;have A:=Sw (aN m (by rw[S];exact dK m hm));rw[S] at A;have s:(Bl p m).length<=140737488355328:=by
     unfold Bl
     by_cases e:0<Au m
     ·rw[if_pos e];exact A.2
     ·rw[if_neg e,List.append_nil];exact A.1
    exact Xu s (by unfold maxLen;decide)
   have bP:∀x,fy x≠none->0<=x/\x<1000:=λx D=>by
    have A:=((bu x).1 D).1;have s:p.vs.length<=4:=by rw[<-S];exact hf.v
    omega
   have cS:=VR 7 hKo ef (by omega);have aM:∀x,x<Z+10->x≠Z+3->x≠Z+4->x≠Z+5->W.heap[x]?=F.heap[x]?:=λx A=>B.fixed x (by omega);obtain⟨q6,-⟩:=Fd ((aM (Z+6) (by omega) (by omega) (by omega) (by omega)).trans k6);have i1:=(aM (Z+1) (by omega) (by omega) (by omega) (by omega)).trans k1;have i2:=(aM (Z+2) (by omega) (by omega) (by omega) (by omega)).trans k2;have i7:=(aM (Z+7) (by omega) (by omega) (by omega) (by omega)).trans k7;have aY:Below w.heap.size w W:=⟨B.os.trans aA.os,B.tape.trans aA.tape,B.output.trans aA.output,Xu aA.size B.size,λb' aR=>(aM b' (by omega) (by omega) (by omega) (by omega)).trans (aA.block b' aR)⟩;have HD:=Aa (⟨aa,bM,bP,bV,bh,av,aw,bn,Y,bu,hr,N,hDl,aj,aD,aY,i1,i2,i7,X⟩:_/\_/\_/\_/\_/\_/\_/\_/\_/\_/\_/\_/\_/\_/\_/\_/\_/\_/\_/\_);clear hx bo aO hp hb hf hN aS aN k0 k1 k2 k3 k4 k5 k6 k7 k8 k9 aA cu aj dC B dJ N hDl eg du fn bh aV aD aa ax hl av dK aw bn de Y bM bV bu bP aM i1 i2 i7 aY hr
   gi_wp2_with fail
   refine⟨trivial,(ach _ _ _).mono ?_⟩;rintro e w1 ⟨rfl,he⟩;rw[he];clear he
   gi_wp2_with fail
   refine⟨trivial,cS.mono ?_⟩;rintro e w2 ⟨ov,os,rfl,cy,cc,ce,ad⟩;clear cS hKo ef q6;obtain⟨oa,oc,eh⟩:=At cy;obtain⟨on,c7⟩:∃x,os.length=x:=⟨_,rfl⟩;rw[c7] at eh;subst eh;obtain⟨aa,bM,bP,bV,bh,av,aw,bn,Y,bu,hr,N,hDl,aj,aD,aY,i1,i2,i7,X⟩:=HD.out;have r2:=(ad.block (Z+3) (by omega)).trans aa;obtain⟨-,c1,-,-,-,fz⟩:=Im r2;have f1:=fz 1;obtain⟨E,ap⟩:∃x,w2.setCell ⟨Z+3,1,none⟩ (.slice oa on oc)=x:=⟨_,rfl⟩;have r3:E.heap[Z+3]?=some (.cells #[.int .i64 (l.length:Int),(.slice oa on oc),.bool st,.bool fq,.slice none 0 0] 34):=by rw[<-ap];exact(Xj w2 (Z+3) 1 _ _ _ r2).trans rfl
   have o3:∀x,x≠Z+3->E.heap[x]?=w2.heap[x]?:=λx D=>by rw[<-ap];exact Xt w2 ⟨Z+3,1,none⟩ x _ D
   have z3:E.heap.size=w2.heap.size/\E.os=w2.os/\E.tape=w2.tape/\E.output=w2.output:=by rw[<-ap];exact⟨XC ..,rfl,rfl,rfl⟩
   have cJ:=ad.size;have bD:∀x,x<W.heap.size->x≠Z+3->E.heap[x]?=W.heap[x]?:=λx A s=>(o3 x s).trans (ad.block x A);have bW:E.ownsRow W.heap.size 9 1 (.slice oa on oc) os.length (os.map λx=>Value.string (bs x)):=Ea cy λx D=>o3 x (by have:=(cy.lt x D).1;omega);have cY:=VS 7 (bM.same (bD _ (by omega) (by omega))) bP (by omega);obtain⟨q7,-⟩:=Fd ((bD (Z+7) (by omega) (by omega)).trans i7);have HE:=Aa (⟨r3,bD,z3,cJ,bW,cc,ce,ad⟩:_/\_/\_/\_/\_/\_/\_/\_);replace c7:=Aa c7;replace ap:=Aa ap;replace cY:=Aa cY;have h7:=Aa q7;clear aa bM bP bV bh av aw bn Y bu hr N hDl aj aD aY i1 i2 i7 X r2 fz r3 o3 z3 cJ bD bW cy cc ce ad q7
   gi_upto_region 20 with fail
   rw[ap.out];have q7:=h7.out;clear ap c1 f1 h7
   gi_wp2_with fail
   refine⟨trivial,(acj _ _ _).mono ?_⟩;rintro e V ⟨rfl,he⟩;rw[he];clear he
   gi_wp2_with fail
   refine⟨trivial,cY.out.mono ?_⟩;rintro e J ⟨rv,rs,rfl,cN,ec,dS,br⟩;clear cY q7;obtain⟨ra,rc,hrv⟩:=At cN;obtain⟨rn,db⟩:∃x,rs.length=x:=⟨_,rfl⟩;rw[db] at hrv;subst hrv;obtain⟨aa,bM,bP,bV,bh,av,aw,bn,Y,bu,hr,N,hDl,aj,aD,aY,i1,i2,i7,X⟩:=HD.out;obtain⟨r3,bD,z3,cJ,bW,cc,ce,ad⟩:=HE.out;have fk:=br.size;have fw:=z3.1;have r5:=(br.block (Z+3) (by omega)).trans r3;obtain⟨a0,a1,a2,a3,a4,az⟩:=Im r5;have f4:=az 4;obtain⟨W6,bA⟩:∃x,J.setCell ⟨Z+3,4,none⟩ (.slice ra rn rc)=x:=⟨_,rfl⟩;have r6:W6.heap[Z+3]?=some (.cells #[.int .i64 (l.length:Int),(.slice oa on oc),.bool st,.bool fq,(.slice ra rn rc)] 34):=by rw[<-bA];exact(Xj J (Z+3) 4 _ _ _ r5).trans rfl
   have o6:∀x,x≠Z+3->W6.heap[x]?=J.heap[x]?:=λx D=>by rw[<-bA];exact Xt J ⟨Z+3,4,none⟩ x _ D
   have z6:W6.heap.size=J.heap.size/\W6.os=J.os/\W6.tape=J.tape/\W6.output=J.output:=by rw[<-bA];exact⟨XC ..,rfl,rfl,rfl⟩
   have eF:=z6.1;have cn:∀x,x<W.heap.size->x≠Z+3->W6.heap[x]?=W.heap[x]?:=λx A s=>(o6 x s).trans ((br.block x (by omega)).trans (bD x A s));have j1:=(cn (Z+1) (by omega) (by omega)).trans i1;have j2:=(cn (Z+2) (by omega) (by omega)).trans i2;obtain⟨b0,b1,b2,b3,b4,bz⟩:=Im j1;have y0:=bz 0;have y1:=bz 1;have y2:=bz 2;have y3:=bz 3;have y4:=bz 4;obtain⟨d0,d1,d2,d3,d4,-⟩:=Im r6;obtain⟨x0,xz⟩:=Fd j2;obtain⟨W7,cK,p1,p2,p3,p4,p5,p6⟩:=QC j1 (.int .i64 (l.length:Int)) (.slice oa on oc) (.bool st) (.bool fq) (.slice ra rn rc);have e7:W7.heap[Z+2]?=_:=(p2 (Z+2) (by omega)).trans j2;obtain⟨e0,ez⟩:=Fd e7;obtain⟨W8,bv⟩:∃x,W7.setCell ⟨Z+2,0,none⟩ (.int .i64 0)=x:=⟨_,rfl⟩;have o8:∀x,x≠Z+2->W8.heap[x]?=W7.heap[x]?:=λx D=>by rw[<-bv];exact Xt W7 ⟨Z+2,0,none⟩ x _ D
   have z8:W8.heap.size=W7.heap.size/\W8.os=W7.os/\W8.tape=W7.tape/\W8.output=W7.output:=by rw[<-bv];exact⟨XC ..,rfl,rfl,rfl⟩
   have eM:=z8.1;have m1:W8.heap[Z+1]?=_:=(o8 (Z+1) (by omega)).trans p1;have m2:W8.heap[Z+2]?=some (.cells #[.int .i64 0] 35):=by rw[<-bv];exact(Xj W7 (Z+2) 0 _ _ _ e7).trans rfl
   have oW:∀x,x≠Z+1->x≠Z+2->W8.heap[x]?=W6.heap[x]?:=λx A s=>(o8 x s).trans (p2 x A);have dZ:W8.heap[Z+10]?=some (.deferred (some [])):=by
    rw[<-aj]
    exact(oW _ (by omega) (by omega)).trans ((cn _ (by omega) (by omega)).trans N)
   have hT:=ZP (P:=Tryz.prog) dZ;obtain⟨W9,ds⟩:∃x,W8.putObj (Z+10) (.deferred none)=x:=⟨_,rfl⟩;rw[ds] at hT;have hg:W8.grownBy W9 (some (Z+10)):=by rw[<-ds];exact ZO _ _ _
   have n1:W9.heap[Z+1]?=_:=(hg.block _ (by omega) (λe=>by injection e with e;omega)).trans m1;have n2:W9.heap[Z+2]?=_:=(hg.block _ (by omega) (λe=>by injection e with e;omega)).trans m2;have o9:∀x,x<W8.heap.size->x≠Z+1->x≠Z+2->x≠Z+10->W9.heap[x]?=W6.heap[x]?:=λx h0 A s U=>(hg.block x h0 (λe=>by injection e with e;omega)).trans (oW x A s);have dN:=aY.size;have au:Hid (OH w W9 (Am vs fs ls L C) most (.returned (.tuple #[.agg #[.int .i64 (l.length:Int),(.slice oa on oc),.bool st,.bool fq,(.slice ra rn rc)],.int .i64 0]))/\Below w.heap.size w W9):=by
    refine⟨.inr ⟨hr,l,(.slice oa on oc),(.slice ra rn rc),os,rs,by rw[S];exact bh,by rw[S,aw,bn],?_,cc,λx=>by rw[ce,Y,S],?_,ec,λx=>by rw[dS,bu,S]⟩,?_⟩
    ·refine Dt (Ea bW λx D=>?_) dN;obtain⟨A,s⟩:=bW.lt x D
     exact(o9 x (by omega) (by omega) (by omega) (by omega)).trans ((o6 x (by omega)).trans (br.block x s))
    ·refine Dt (Ea cN λx D=>?_) (by omega);obtain⟨A,s⟩:=cN.lt x D
     exact(o9 x (by omega) (by omega) (by omega) (by omega)).trans (o6 x (by omega))
    ·refine⟨hg.os.trans (z8.2.1.trans (p4.trans (z6.2.1.trans (br.os.trans (z3.2.1.trans (ad.os.trans aY.os)))))),hg.tape.trans (z8.2.2.1.trans (p5.trans (z6.2.2.1.trans (br.tape.trans (z3.2.2.1.trans (ad.tape.trans aY.tape)))))),hg.output.trans (z8.2.2.2.trans (p6.trans (z6.2.2.2.trans (br.output.trans (z3.2.2.2.trans (ad.output.trans aY.output)))))),by have:=hg.size;omega,λx D=>?_⟩
     exact(o9 x (by omega) (by omega) (by omega) (by omega)).trans ((cn x (by omega) (by omega)).trans (aY.block x D))
   replace db:=Aa db;replace bA:=Aa bA;replace cK:=Aa cK;replace bv:=Aa bv;replace hT:=Aa hT;replace n1:=Aa n1;replace n2:=Aa n2;clear aa bM bP bV bh av aw bn Y bu hr N hDl aj aD aY i1 i2 i7 X r3 bD z3 cJ bW cc ce ad fk fw r5 az r6 o6 z6 eF cn j1 j2 bz p1 p2 p3 p4 p5 p6 e7 o8 z8 eM m1 m2 oW dZ ds hg o9 dN cN ec dS br HD HE HP HK
   gi_upto_region 21 with fail
   rw[bA.out];clear bA a0 a1 a2 a3 a4 f4
   gi_cut [] from 19 (λwc=>wc=W8)
   case first=>
    clear au hT n1 n2 e0 ez
    gi_wp2_with fail
    gi_meet
    case rel=>rw[cK.out,bv.out]
   case rest=>
    rw[hcut];clear hcut cK bv x0 xz d0 d1 d2 d3 d4 b0 b1 b2 b3 b4 y0 y1 y2 y3 y4 e0 ez
    gi_wp2_with fail
    refine⟨by simp,.inl ⟨_,_,rfl,hT.out,?_⟩⟩
    exact⟨_,Qw rfl rfl rfl n1.out n2.out,au.out⟩
 case stop=>
  rintro c a7 O W _ ⟨rfl,hX⟩ dJ N;obtain⟨b,eK,A,s⟩:=hX.rep;have hDl:F.heap.size<W.heap.size:=(Xa.1 N).1;have hT:=ZP (P:=Tryz.prog) N;obtain⟨W',dU⟩:∃x,W.putObj F.heap.size (.deferred none)=x:=⟨_,rfl⟩;rw[dU] at hT;have hg:W.grownBy W' (some F.heap.size):=by rw[<-dU];exact ZO _ _ _
  have fS:=hX.size;have e1:W'.heap[Z+1]?=_:=(hg.block _ (by omega) (λe=>by injection e with e;omega)).trans A;have e2:W'.heap[Z+2]?=_:=(hg.block _ (by omega) (λe=>by injection e with e;omega)).trans s;have au:Hid (OH w W' (Am vs fs ls L C) most (.returned (.tuple #[.agg (Gb 0 false false),.int .i64 (EH b)]))/\Below w.heap.size w W'):=by
   refine⟨.inl ⟨b,by rw[S];exact eK,rfl⟩,⟨hg.os.trans (hX.os.trans aA.os),hg.tape.trans (hX.tape.trans aA.tape),hg.output.trans (hX.output.trans aA.output),by have:=hg.size;omega,λx D=>(hg.block x (by omega) (λe=>by injection e with e;omega)).trans ((hX.fixed x (by omega)).trans (aA.block x D))⟩⟩
  unfold Gb at e1 au
  gi_wp2_with fail
  refine⟨by simp,.inl ⟨_,_,rfl,hT,?_⟩⟩
  exact⟨_,Qw rfl rfl rfl e1 e2,au.out⟩
def Dx (p:PD) (o:Tx) (m:MS):Bool:=Gi p.C m&&decide (Bl p m=o)
theorem UN {w:Xh} {b Bp Bo vn fn_ vc fc base:Nat} {va fa:Option Addr} {mv mo fr nx lV tV:Xk} {y mx:Int} {f:Bool} {p:PD} {m:MS} {o:Tx} (h:Bb w b mv (Aj p m) (Au m) f mo fr y nx) (ab:w.ownsRow base 48 4 mo (Bj p.C m).length ((Bj p.C m).flatMap Ef)) (hn:Hu p) (hM:BT p m) (W:Cs p) (Y:(Aj p m).length<4294967000) (Z:w.cell? ⟨4,0,none⟩=some (.int .i64 mx)) (T:vn=p.vs.length) (af:fn_=p.fs.length)
 (M:w.heap[Bp]?=some (.cells #[.slice va vn vc,.slice fa fn_ fc,lV,tV] 25)) (J:w.heap[Bo]?=some (.cells #[.string (bs o)] 9)) (aj:∃a n c,lV = .slice a n c) (ai:∃a n c,tV = .slice a n c) :
 Calls Tryz.prog 45 #[Ab b,Ab Bp,Ab Bo] w λe w'=>e = .returned (.bool (Dx p o m))/\Below w.heap.size w w':=by
 obtain⟨t,A,r,rfl⟩:=aj;obtain⟨l,B,q,rfl⟩:=ai;obtain⟨ma,mc,U⟩:=At ab;have P:=h;rw[U] at P;have R:Below w.heap.size w w.drew:=⟨rfl,rfl,rfl,Xd _,λ_ _=>rfl⟩;have j:=SG (w:=w.drew) P;have D:=Rm (w:=w.drew) (va:=va) (vc:=vc) (fa:=fa) (fc:=fc) (lV:=.slice t A r) (tV:=.slice l B q) (vn:=vn) (fn_:=fn_) h hn hM W Y Z T af;obtain⟨N,Q,H,I⟩:=Ee M;obtain⟨F,-⟩:w.cell? ⟨Bo,0,none⟩=some (.string (bs o))/\True:=⟨by simp[Xg,J],trivial⟩;have i:w.drew.cell? ⟨Bo,0,none⟩=some (.string (bs o))/\w.drew.cell? ⟨Bp,0,none⟩=some (.slice va vn vc)/\w.drew.cell? ⟨Bp,1,none⟩=some (.slice fa fn_ fc)/\w.drew.cell? ⟨Bp,2,none⟩=some (.slice t A r)/\w.drew.cell? ⟨Bp,3,none⟩=some (.slice l B q):=⟨F,N,Q,H,I⟩;have ak:Hid (∀u,Below w.drew.heap.size w.drew u->u.cell? ⟨Bo,0,none⟩=some (.string (bs o))/\u.cell? ⟨Bp,0,none⟩=some (.slice va vn vc)/\u.cell? ⟨Bp,1,none⟩=some (.slice fa fn_ fc)/\u.cell? ⟨Bp,2,none⟩=some (.slice t A r)/\u.cell? ⟨Bp,3,none⟩=some (.slice l B q)):=λu s=>by
  have E:=(Xa.1 M).1;have am:=(Xa.1 J).1
  exact⟨(s.cell (p:=⟨Bo,0,none⟩) am).trans F,(s.cell (p:=⟨Bp,0,none⟩) E).trans N,(s.cell (p:=⟨Bp,1,none⟩) E).trans Q,(s.cell (p:=⟨Bp,2,none⟩) E).trans H,(s.cell (p:=⟨Bp,3,none⟩) E).trans I⟩
 have V:Hid (∀k,decide ((Bj p.C m).length=0)=k->Dx p o m=(k&&decide (Bl p m=o))):=λk v=>by unfold Dx Gi;rw[v]
 obtain⟨k,v⟩:∃x,decide ((Bj p.C m).length=0)=x:=⟨_,rfl⟩;rw[v] at j;have G:=Aa (V.out k v);obtain⟨O,ac⟩:∃x,Bl p m=x:=⟨_,rfl⟩;rw[ac] at D G;have ao:((bs O).toList == (bs o).toList)=decide (O=o):=by rw[AK,AK];exact Bool.eq_iff_iff.2 (by simp)
 replace i:=Aa i;replace j:=Aa j;replace D:=Aa D;unfold Ab at j D;clear h ab hn hM W Y Z T af M J P U v V N Q H I F ac;unfold Ab
 cases k
 ·go_enter Tryz.func45,Tryz.ntmps45
  go_wp2_with fail
  refine Xx (S:=λu=>u.cell? ⟨Bo,0,none⟩=some (.string (bs o))/\u.cell? ⟨Bp,0,none⟩=some (.slice va vn vc)/\u.cell? ⟨Bp,1,none⟩=some (.slice fa fn_ fc)/\u.cell? ⟨Bp,2,none⟩=some (.slice t A r)/\u.cell? ⟨Bp,3,none⟩=some (.slice l B q)) (by kernel_rfl) i.out (λd=>?_);refine tk 0 d ?_;refine rd 1 (λK g=>?_)
  go_simp
  go_at_call 25
  refine j.out.mono ?_;rintro e w1 ⟨rfl,rfl⟩
  go_wp2_with fail
  refine g.out _ _ i.out (λd=>?_);clear g K
  try simp only[XF,sq]
  refine tk 2 d ?_;refine tn 3 d ?_;refine tn 4 d ?_;refine tn 5 d ?_;refine tn 6 d ?_;refine tn 7 d ?_;refine tk 8 d ?_;refine tk 9 d ?_;refine Yd (by kernel_rfl) ?_ _
  go_wp2_with fail
  go_ret
  exact⟨congrArg (λz=>Ending.returned (.bool z)) G.out.symm,R⟩
 ·go_enter Tryz.func45,Tryz.ntmps45
  go_wp2_with fail
  refine Xx (S:=λu=>u.cell? ⟨Bo,0,none⟩=some (.string (bs o))/\u.cell? ⟨Bp,0,none⟩=some (.slice va vn vc)/\u.cell? ⟨Bp,1,none⟩=some (.slice fa fn_ fc)/\u.cell? ⟨Bp,2,none⟩=some (.slice t A r)/\u.cell? ⟨Bp,3,none⟩=some (.slice l B q)) (by kernel_rfl) i.out (λd=>?_);refine tk 0 d ?_;refine rd 1 (λK g=>?_)
  go_simp
  go_at_call 25
  refine j.out.mono ?_;rintro e w1 ⟨rfl,rfl⟩
  go_wp2_with fail
  refine g.out _ _ i.out (λd=>?_);clear g K
  try simp only[XF,sq]
  refine tk 2 d ?_;refine tk 3 d ?_;refine tk 4 d ?_;refine tk 6 d ?_;refine rd 5 (λK g=>?_)
  go_simp
  go_at_call 26
  refine D.out.mono ?_;rintro e w2 ⟨rfl,X⟩
  go_wp2_with fail
  refine g.out _ _ (ak.out w2 X) (λd=>?_);clear g K
  try simp only[XF,sq]
  refine tk 7 d ?_;refine tk 8 d ?_;refine tk 9 d ?_;refine Yd (by kernel_rfl) ?_ _
  go_wp2_with fail
  go_ret
  have ag:decide (O=o)=Dx p o m:=by rw[G.out,Bool.true_and]
  exact⟨congrArg (λz=>Ending.returned (.bool z)) ag,R.trans X⟩
end Go.Proofs.YtdcacoifehkioaaGreatDoor
