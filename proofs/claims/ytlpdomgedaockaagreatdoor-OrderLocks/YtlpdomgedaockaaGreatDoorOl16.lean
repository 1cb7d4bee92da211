import Derived.Test.YtlpdomgedaockaaGreatDoorOl15
import Derived.Test.YtlpdomgedaockaaGreatDoorOl8
import Derived.BigQuiet
set_option linter.unusedVariables false
set_option linter.unusedSimpArgs false
namespace Go.Proofs.YtlpdomgedaockaaGreatDoor
open Go.RowKit Go.Proofs.Cod
def LabsB (P : RP) (m : Nat) : Prop := ∀ th, th ∈ P.thr → th.labs.length ≤ m
def BothL (o : Except Int PS) (m : Nat) (e : Int) (P' : RP) : Prop := (e ≠ 0 ∧ o = .error e) ∨ (e = 0 ∧ (∃ s', o = .ok s' ∧ PL P' s') ∧ LabsB P' (m + 1))
theorem Both.labs {o : Except Int PS} {m : Nat} {e : Int} {P' : RP} (h : Both o e P') (hl : e = 0 → LabsB P' (m + 1)) : BothL o m e P' := by
  rcases h with h | ⟨h1, h2⟩
  · exact .inl h
  · exact .inr ⟨h1, h2, hl h1⟩
theorem ROut.mono {w : World} {tag : Nat → RT} {base pb : Nat} {R R' : Int → RP → Prop} {en : Ending} {w' : World} (h : ROut w tag base pb R en w') (hR : ∀ e P', R e P' → R' e P') : ROut w tag base pb R' en w' := by
  obtain ⟨e, tag', P', U', h1, h2, h3, h4⟩ := h
  exact ⟨e, tag', P', U', h1, h2, h3, hR _ _ h4⟩
section
variable {P P' : RP} {f : Tx} {ts : List Tx} {e : Int} {m : Nat}
theorem labs_up (h : LabsB P m) : LabsB P (m + 1) := fun th hth => Nat.le_succ_of_le (h th hth)
theorem labs_set (h : LabsB P m) {k : Nat} {th' : RTh} (hl : th'.labs.length ≤ m + 1) : LabsB { P with thr := P.thr.set k th' } (m + 1) := fun th hth => by
  rcases List.mem_or_eq_of_mem_set hth with q | q
  · exact labs_up h th q
  · subst q; exact hl
theorem decl_labs (h : LabsB P m) (hR : RDecl P f ts e P') (he : e = 0) : LabsB P' (m + 1) := by
  rcases hR with ⟨_, q⟩ | ⟨_, ⟨_, q⟩ | ⟨_, q, _⟩⟩
  · omega
  · omega
  · intro th hth
    rw [q, puts_thr] at hth
    exact labs_up h th hth
theorem thread_labs (h : LabsB P m) (hR : RThread P ts e P') (he : e = 0) : LabsB P' (m + 1) := by
  rcases hR with ⟨_, q⟩ | ⟨_, ⟨_, q⟩ | ⟨_, ⟨_, q⟩ | ⟨_, _, q⟩⟩⟩
  · omega
  · omega
  · omega
  · subst q
    intro th hth
    rcases List.mem_append.1 hth with q | q
    · exact labs_up h th q
    · obtain rfl := List.mem_singleton.1 q
      simp
theorem label_labs (h : LabsB P m) {k : Nat} {th : RTh} {x : Tx} (hth : P.thr[k]? = some th) (hR : RLabel P k th x e P') (he : e = 0) : LabsB P' (m + 1) := by
  have := h th (List.mem_of_getElem? hth)
  rcases hR with ⟨_, q⟩ | ⟨_, ⟨_, q⟩ | ⟨_, _, q⟩⟩
  · omega
  · omega
  · subst q
    exact labs_set h (by simp; omega)
theorem ins_labs (h : LabsB P m) {k : Nat} {th : RTh} {line : Int} (hth : P.thr[k]? = some th) (hR : RIns P k th line f ts e P') (he : e = 0) : LabsB P' (m + 1) := by
  have := h th (List.mem_of_getElem? hth)
  unfold RIns at hR
  split at hR
  · omega
  · rcases hR with ⟨_, q⟩ | ⟨_, ⟨_, q⟩ | ⟨_, _, q⟩⟩
    · omega
    · omega
    · subst q
      exact labs_set h (by simp; omega)
end
theorem rLine_any {w : World} {tag : Nat → RT} {base pb : Nat} {P : RP} {U : RV} (h : RfW w tag base pb P U) {s : PS} (hL : PL P s) {m : Nat} (hm : LabsB P m) (hm4 : m < 3500) (b off n cap : Nat) (f : Tx) (ts : List Tx) (hn : ts.length + 1 = n) (hs : WsT w tag (some ⟨b, off, none⟩) (f :: ts)) (hcap : n ≤ cap) (hnb : n < 4000) (line : Int) (hline : 0 < line) (hf0 : f ≠ []) (hfl : f.length < 4000) :
    Calls Tryz.prog 25 #[ptrV pb, .slice (some ⟨b, off, none⟩) n cap, .int .i64 line] w (ROut w tag base pb (BothL (stepT line f ts s) m)) := by
  have g4 : getK P 116 = P.names := by simp [getK]
  have hfew : P.thr.length ≤ 4 := by
    have := hL.few 116 (by simp [isK])
    rw [g4] at this
    simpa [RP.names] using this
  have hget : ∀ k, (P.get k).length ≤ 4 := fun k => by
    unfold RP.get
    have g1 : getK P 118 = P.vs := by simp [getK, RP.get]
    have g2 : getK P 102 = P.fs := by simp [getK, RP.get]
    have g3 : getK P 109 = P.ls := by simp [getK, RP.get]
    have h1 := hL.few 118 (by simp [isK])
    have h2 := hL.few 102 (by simp [isK])
    have h3 := hL.few 109 (by simp [isK])
    rw [g1] at h1; rw [g2] at h2; rw [g3] at h3
    split
    · exact h1
    · split
      · exact h2
      · exact h3
  by_cases hT : f = tThread
  · refine (rLine_thread h b off n cap f ts hn hs (by omega) hget hnb line hT).mono ?_
    intro en w' hO
    refine hO.mono fun e P' hR => ?_
    have hst : stepT line f ts s = if ts.length = 1 then (declT 116 ts s).map addBody else .error 2 := by unfold stepT; rw [if_pos hT]
    rw [hst]
    exact (pl_thread hL hR).labs (thread_labs hm hR)
  · have hst : stepT line f ts s = match s.bod.getLast? with | none => declT (headK f) ts s | some b => if colonT f = true ∧ ts = [] then markT f s b else instrT line f ts s b := by unfold stepT; rw [if_neg hT]; cases s.bod.getLast? <;> rfl
    by_cases h0 : P.thr.length = 0
    · have hb0 : s.bod = [] := by rw [hL.bod, List.eq_nil_of_length_eq_zero h0]; rfl
      rw [hb0] at hst
      have hst : stepT line f ts s = declT (headK f) ts s := hst
      rw [hst]
      cases hD : isDeclW f with
      | true =>
        refine (rLine_decl h b off n cap f ts hn hs hcap h0 hget hnb line hD).mono ?_
        intro en w' hO
        exact hO.mono fun e P' hR => (pl_decl hL hD hR).labs (decl_labs hm hR)
      | false =>
        refine (rLine_none h b off n cap f ts hn hs h0 line hD hT).mono ?_
        intro en w' hO
        refine hO.mono fun e P' hR => .inl ⟨by rw [hR]; decide, ?_⟩
        rw [head_none hD, hR]
        unfold declT
        rw [if_pos (.inl rfl)]
    · obtain ⟨k, hk⟩ : ∃ k, P.thr.length = k + 1 := ⟨P.thr.length - 1, by omega⟩
      obtain ⟨th, hth⟩ : ∃ th, P.thr[k]? = some th := ⟨_, List.getElem?_eq_getElem (by omega)⟩
      have hmem := List.mem_of_getElem? hth
      have hlast : s.bod.getLast? = some (pbOf th) := by rw [hL.bod]; exact last_is pbOf hk hth
      rw [hlast] at hst
      have hst : stepT line f ts s = if colonT f = true ∧ ts = [] then markT f s (pbOf th) else instrT line f ts s (pbOf th) := hst
      rw [hst]
      have hlb := hm th hmem
      have hcd := hL.code th hmem
      by_cases hc : colonT f = true ∧ ts = []
      · rw [if_pos hc]
        obtain ⟨hc, rfl⟩ := hc
        have hx : f = f.dropLast ++ [58] := by
          have hg : f.getLast? = some 58 := by simpa [colonT] using hc
          rcases List.eq_nil_or_concat f with q | ⟨f0, c, q⟩
          · exact absurd q hf0
          · rw [List.concat_eq_append] at q
            subst q
            simp at hg
            simp [hg]
        have hn1 : n = 1 := by simp at hn; omega
        subst hn1
        refine (rLine_label h b off cap f hs k th hk hth (by omega) (by omega) (by omega) hfl line f.dropLast hx hT).mono ?_
        intro en w' hO
        exact hO.mono fun e P' hR => (pl_label hL hk hth hx hR).labs (label_labs hm hth hR)
      · rw [if_neg hc]
        have hlab : ts ≠ [] ∨ f.getLast? ≠ some 58 := by
          by_cases q : ts = []
          · right
            intro q2
            exact hc ⟨by simp [colonT, q2], q⟩
          · exact .inl q
        refine (rLine_ins h b off n cap f ts hn hs hnb (fun k => by have := hget k; omega) k th hk hth (by omega) (by omega) line hT hf0 hfl hlab).mono ?_
        intro en w' hO
        exact hO.mono fun e P' hR => (pl_ins hL hline hk hth hR).labs (ins_labs hm hth hR)
theorem badT_pos {P : RP} {l : List RTh} {n : Int} (hp : ∀ th, th ∈ l → ∀ r, r ∈ th.code → 0 < r.line) (h : badT P l = some n) : 0 < n := by
  unfold badT at h
  obtain ⟨th, hth, h2⟩ := List.exists_of_findSome?_eq_some h
  unfold badC at h2
  cases hf : th.code.find? (fun r => decide (rX P th r < 0)) with
  | none => rw [hf] at h2; cases h2
  | some r =>
    rw [hf] at h2
    cases h2
    exact hp th hth r (List.mem_of_find?_eq_some hf)
theorem RfW.keepO {w w' : World} {tag : Nat → RT} {base pb : Nat} {P : RP} {U : RV} (h : RfW w tag base pb P U) (hb : ∀ b, tag b ≠ .o → w'.heap[b]? = w.heap[b]?) (hs : w.heap.size ≤ w'.heap.size) : RfW w' tag base pb P U := by
  have key : ∀ {b : Nat} {g : RT}, tag b = g → g ≠ .o → w'.heap[b]? = w.heap[b]? := fun {b g} e hg => hb b (by rw [e]; exact hg)
  refine ⟨(key h.tp (by simp)).trans h.cell, fun k hk => (h.rows k hk).kept fun b e => ⟨key e (by simp), e⟩, owns_same h.trow fun g e => key (h.tt g e) (by simp), h.tt, h.len, fun j th p h1 h2 => (h.ths j th p h1 h2).kept fun b e => ?_, h.tp, fun b e => ⟨(h.tlt b e).1, Nat.lt_of_lt_of_le (h.tlt b e).2 hs⟩, Nat.le_trans h.g3 hs⟩
  rcases e with e | e
  · exact ⟨key e (by simp), rfl⟩
  · exact ⟨key e (by simp), rfl⟩
theorem words_ne {l f : Tx} (h : f ∈ wordsT l) : f ≠ [] := by
  unfold wordsT at h
  have := (List.mem_filter.1 h).2
  intro e
  rw [e] at this
  simp at this
end Go.Proofs.YtlpdomgedaockaaGreatDoor
namespace Go.Proofs.YtlpdomgedaockaaGreatDoor
open Go.RowKit Go.Proofs.Cod
def RP.resAt (P : RP) (i k : Nat) (th : RTh) : RP := { P with thr := (preMap (rsT P) P.thr i).set i { th with code := preMap (rsI P th) th.code k } }
def RP.resV (P : RP) (i k : Nat) (th : RTh) (r : RI) (v : Int) : RP := { P with thr := (preMap (rsT P) P.thr i).set i { th with code := (preMap (rsI P th) th.code k).set k (r.at v) } }
theorem set_same {α : Type} {l : List α} {i : Nat} {x : α} (h : l[i]? = some x) : l.set i x = l := by
  apply List.ext_getElem?
  intro m
  by_cases e : m = i
  · subst e; rw [List.getElem?_set_self (List.getElem?_eq_some_iff.1 h).1, h]
  · rw [List.getElem?_set_ne (fun e' => e e'.symm)]
section
variable {w w' : World} {tag : Nat → RT} {base pb : Nat} {P : RP} {U : RV} {i k : Nat} {th : RTh} {r : RI} {v : Int} {p : Value × Value}
theorem res_zero (P : RP) : P.res 0 = P := rfl
theorem res_all_is (P : RP) : P.res P.thr.length = { P with thr := P.thr.map (rsT P) } := by unfold RP.res; rw [preMap_all _ _ (Nat.le_refl _)]
theorem resAt_zero (hth : P.thr[i]? = some th) : P.resAt i 0 th = P.res i := by
  unfold RP.resAt RP.res
  rw [preMap_zero, set_same (preMap_at _ hth)]
theorem resAt_all (hth : P.thr[i]? = some th) : P.resAt i th.code.length th = P.res (i + 1) := by
  unfold RP.resAt RP.res
  rw [preMap_all _ _ (Nat.le_refl _), ← preMap_set _ hth]; rfl
theorem resV_start (hk : th.code[k]? = some r) : P.resAt i k th = P.resV i k th r r.i.x := by
  unfold RP.resAt RP.resV
  have e : r.at r.i.x = r := rfl
  rw [e, set_same (preMap_at _ hk)]
theorem resV_end (hk : th.code[k]? = some r) : P.resV i k th r (rX P th r) = P.resAt i (k + 1) th := by
  unfold RP.resAt RP.resV
  rw [← preMap_set _ hk]; rfl
theorem resV_th (hth : P.thr[i]? = some th) : (P.resV i k th r v).thr[i]? = some { th with code := (preMap (rsI P th) th.code k).set k (r.at v) } := by
  have hl := (List.getElem?_eq_some_iff.1 hth).1
  exact List.getElem?_set_self (by rw [preMap_len]; exact hl)
theorem resV_code (hk : th.code[k]? = some r) : ((preMap (rsI P th) th.code k).set k (r.at v))[k]? = some (r.at v) := by
  have hl := (List.getElem?_eq_some_iff.1 hk).1
  exact List.getElem?_set_self (by rw [preMap_len]; exact hl)
theorem pre_names (P : RP) (i : Nat) : (preMap (rsT P) P.thr i).map RTh.name = P.names := by
  unfold preMap RP.names
  rw [List.map_append, List.map_map]
  conv => rhs; rw [← List.take_append_drop i P.thr, List.map_append]
  rfl
theorem resV_names (hth : P.thr[i]? = some th) : (P.resV i k th r v).names = P.names := by
  rw [← pre_names P i]
  unfold RP.names RP.resV
  show ((preMap (rsT P) P.thr i).set i _).map RTh.name = _
  rw [List.map_set]
  apply set_same
  rw [List.getElem?_map, preMap_at _ hth]; rfl
theorem resV_len : (P.resV i k th r v).thr.length = P.thr.length := by
  show ((preMap (rsT P) P.thr i).set i _).length = _
  rw [List.length_set, preMap_len]
theorem resAt_len : (P.resAt i k th).thr.length = P.thr.length := by
  show ((preMap (rsT P) P.thr i).set i _).length = _
  rw [List.length_set, preMap_len]
theorem res_len : (P.res i).thr.length = P.thr.length := preMap_len _ _ _
theorem res_at (hth : P.thr[i]? = some th) : (P.res i).thr[i]? = some th := preMap_at _ hth
theorem resV_form (h : RfW w tag base pb (P.resV i k th r v) U) (hth : P.thr[i]? = some th) (hp : U.TV[i]? = some p) (hk : th.code[k]? = some r) : ∃ gc ccap, p.1 = .slice (some ⟨gc, 0, none⟩) th.code.length ccap := by
  obtain ⟨gc, ccap, e⟩ := h.codeForm (resV_th hth) hp (resV_code hk)
  refine ⟨gc, ccap, e.trans ?_⟩
  show Value.slice _ ((preMap (rsI P th) th.code k).set k (r.at v)).length _ = _
  rw [List.length_set, preMap_len]
theorem resV_cells (h : RfW w tag base pb (P.resV i k th r v) U) (hth : P.thr[i]? = some th) (hp : U.TV[i]? = some p) (hk : th.code[k]? = some r) {gc ccap : Nat} (hV : p.1 = .slice (some ⟨gc, 0, none⟩) th.code.length ccap) :
    w.cell? ⟨gc, k * 9, none⟩ = some (.string (bs r.i.op)) ∧ w.cell? ⟨gc, k * 9 + 6, none⟩ = some (.int .i64 v) ∧ w.cell? ⟨gc, k * 9 + 7, none⟩ = some (.int .i64 r.line) ∧ w.cell? ⟨gc, k * 9 + 8, none⟩ = some (.string (bs r.word)) ∧ w.frozen? ⟨gc, k * 9 + 6, none⟩ = false := by
  have hV' : p.1 = .slice (some ⟨gc, 0, none⟩) ({ th with code := (preMap (rsI P th) th.code k).set k (r.at v) } : RTh).code.length ccap := by
    show p.1 = .slice _ ((preMap (rsI P th) th.code k).set k (r.at v)).length _
    rw [List.length_set, preMap_len]; exact hV
  exact ⟨(h.codeCell (resV_th hth) hp (resV_code hk) (q := 0) (by omega) hV').1, (h.codeCell (resV_th hth) hp (resV_code hk) (q := 6) (by omega) hV').1, (h.codeCell (resV_th hth) hp (resV_code hk) (q := 7) (by omega) hV').1, (h.codeCell (resV_th hth) hp (resV_code hk) (q := 8) (by omega) hV').1, (h.codeCell (resV_th hth) hp (resV_code hk) (q := 6) (by omega) hV').2⟩
theorem resV_step (h : RfW w tag base pb (P.resV i k th r v) U) (hth : P.thr[i]? = some th) (hp : U.TV[i]? = some p) (hk : th.code[k]? = some r) {gc n ccap : Nat} (hV : p.1 = .slice (some ⟨gc, 0, none⟩) n ccap) (v' : Int) :
    RfW (w.setCell ⟨gc, k * 9 + 6, none⟩ (.int .i64 v')) tag base pb (P.resV i k th r v') U ∧ Ext w tag (w.setCell ⟨gc, k * 9 + 6, none⟩ (.int .i64 v')) tag := by
  have := h.setX (resV_th hth) hp (resV_code hk) hV v'
  refine ⟨?_, this.2⟩
  have e : P.resV i k th r v' = { P.resV i k th r v with thr := (P.resV i k th r v).thr.set i { ({ th with code := (preMap (rsI P th) th.code k).set k (r.at v) } : RTh) with code := ((preMap (rsI P th) th.code k).set k (r.at v)).set k ((r.at v).at v') } } := by
    unfold RP.resV
    show RP.mk _ _ _ _ = RP.mk _ _ _ (((preMap (rsT P) P.thr i).set i _).set i _)
    rw [List.set_set, List.set_set]; rfl
  rw [e]; exact this.1
theorem resV_lab (h : RfW w tag base pb (P.resV i k th r v) U) (hth : P.thr[i]? = some th) (hp : U.TV[i]? = some p) {j : Nat} {l : Tx × Nat} (hj : th.labs[j]? = some l) : ∃ gl lcap, p.2 = .slice (some ⟨gl, 0, none⟩) th.labs.length lcap ∧ w.cell? ⟨gl, j * 2, none⟩ = some (.string (bs l.1)) ∧ w.cell? ⟨gl, j * 2 + 1, none⟩ = some (.int .i64 l.2) := by
  obtain ⟨gl, lcap, e⟩ := h.labForm (resV_th hth) hp (l := l) hj
  exact ⟨gl, lcap, e, h.labCell (resV_th hth) hp (l := l) hj (q := 0) (by omega) e, h.labCell (resV_th hth) hp (l := l) hj (q := 1) (by omega) e⟩
end
theorem three_set {w : World} {b : Nat} {c0 c1 c2 : Value} {T : TypeId} (h : w.heap[b]? = some (.cells #[c0, c1, c2] T)) (a0 a1 a2 : Value) :
    ∃ W, ((w.setCell ⟨b, 0, none⟩ a0).setCell ⟨b, 1, none⟩ a1).setCell ⟨b, 2, none⟩ a2 = W ∧ W.heap[b]? = some (.cells #[a0, a1, a2] T) ∧ (∀ b', b' ≠ b → W.heap[b']? = w.heap[b']?) ∧ W.heap.size = w.heap.size ∧ W.os = w.os ∧ W.tape = w.tape ∧ W.output = w.output := by
  refine ⟨_, rfl, ?_, fun b' hb => ?_, by simp, rfl, rfl, rfl⟩
  · have h0 := (heap_setCell_same _ b 0 _ _ a0 h).trans (show _ = some (Obj.cells #[a0, c1, c2] T) from rfl)
    have h1 := (heap_setCell_same _ b 1 _ _ a1 h0).trans (show _ = some (Obj.cells #[a0, a1, c2] T) from rfl)
    exact (heap_setCell_same _ b 2 _ _ a2 h1).trans (show _ = some (Obj.cells #[a0, a1, a2] T) from rfl)
  · rw [Below.heap_setCell _ ⟨b, 2, none⟩ _ b' hb, Below.heap_setCell _ ⟨b, 1, none⟩ _ b' hb, Below.heap_setCell _ ⟨b, 0, none⟩ _ b' hb]
end Go.Proofs.YtlpdomgedaockaaGreatDoor
namespace Go.Proofs.YtlpdomgedaockaaGreatDoor
open Go.RowKit Go.Proofs.Cod
theorem bs_lit (s t : Tx) : ((bs s).toList == t) = (s == t) := by rw [bs_toList]
set_option maxRecDepth 100000 in
set_option maxHeartbeats 2000000 in
theorem rRes_any {w : World} {tag : Nat → RT} {base pb : Nat} {P : RP} {U : RV} (h : RfW w tag base pb P U) (hb : P.thr.length < 1000) (hcd : ∀ th, th ∈ P.thr → th.code.length < 4000 ∧ th.labs.length < 4000) :
    Calls Tryz.prog 26 #[ptrV pb] w fun e w' => Ext w tag w' tag ∧ ((∃ n, badT P P.thr = some n ∧ e = .returned (.int .i64 n)) ∨ (badT P P.thr = none ∧ e = .returned (.int .i64 0) ∧ RfW w' tag base pb { P with thr := P.thr.map (rsT P) } U)) := by
  have HX := hide (Ext.refl w tag)
  have H := hide h
  replace hcd := hide hcd
  replace hb := hide hb
  unfold ptrV
  clear h
  go_enter Tryz.func26, Tryz.ntmps26
  go_wp2_with fail
  go_loopw [3] (fun iv wr => ∃ i : Nat, i ≤ P.thr.length ∧ iv = .int .i64 i ∧ badT P (P.thr.take i) = none ∧ RfW wr tag base pb (P.res i) U ∧ Ext w tag wr tag) (fun iv _ => P.thr.length - (intOf iv).toNat)
  case atStart => exact ⟨0, Nat.zero_le _, rfl, rfl, by rw [res_zero]; exact H.out, HX.out⟩
  case round =>
    obtain ⟨i, hi, rfl, hbad, hR, hX⟩ := hrel
    clear HX H
    have c3 := hR.thrV
    by_cases h5 : i < P.thr.length
    · obtain ⟨th, hth⟩ : ∃ th, P.thr[i]? = some th := ⟨_, List.getElem?_eq_getElem h5⟩
      obtain ⟨p, hp⟩ : ∃ p, U.TV[i]? = some p := ⟨_, List.getElem?_eq_getElem (by rw [hR.len, res_len]; exact h5)⟩
      have hth' := res_at hth
      obtain ⟨gt, tcap, hV⟩ := hR.thrForm hth'
      rw [hV, res_len] at c3
      have hlt : (i : Int) < (P.thr.length : Int) := by omega
      have t0 : wr.cell? ⟨gt, i * 3, none⟩ = some (.string (bs th.name)) := hR.thrCell hth' hp (r := 0) (by omega) hV
      have t1 : wr.cell? ⟨gt, i * 3 + 1, none⟩ = some p.1 := hR.thrCell hth' hp (r := 1) (by omega) hV
      have t2 : wr.cell? ⟨gt, i * 3 + 2, none⟩ = some p.2 := hR.thrCell hth' hp (r := 2) (by omega) hV
      obtain ⟨ca, cc, hp1⟩ := owns_len (hR.ths i th p hth' hp).code
      obtain ⟨la, lc, hp2⟩ := owns_len (hR.ths i th p hth' hp).labs
      rw [hp1] at t1
      rw [hp2] at t2
      have hsm := hcd.out th (List.mem_of_getElem? hth)
      have HR := hide (⟨hR, hX, hbad, hsm⟩ : _ ∧ _ ∧ _ ∧ _)
      have hgl : gt < wr.heap.size := World.block_lt_of_cell? wr ⟨gt, i * 3, none⟩ t0
      replace hgl := hide hgl
      replace hth := hide hth
      replace hp := hide hp
      replace hp1 := hide hp1
      replace hp2 := hide hp2
      replace hi := hide hi
      replace h5 := hide h5
      clear hR hX hbad hsm hth' hV
      rename World => wo
      go_wp2_with fail
      have hbl := World.alloc_heap_new wo (.cells #[.string (bs th.name), .slice ca th.code.length cc, .slice la th.labs.length lc] 146)
      have hBi : Below wo.heap.size wo (wo.alloc (.cells #[.string (bs th.name), .slice ca th.code.length cc, .slice la th.labs.length lc] 146)) := (Below.refl _ _).alloc (Nat.le_refl _) _
      have hszi : wo.heap.size < (wo.alloc (.cells #[.string (bs th.name), .slice ca th.code.length cc, .slice la th.labs.length lc] 146)).heap.size := by simp
      have hto : tag wo.heap.size = .o := by
        cases ht : tag wo.heap.size with
        | o => rfl
        | _ => exact absurd (HR.out.1.tlt wo.heap.size (by rw [ht]; simp)).2 (by omega)
      have hRi : RfW (wo.alloc (.cells #[.string (bs th.name), .slice ca th.code.length cc, .slice la th.labs.length lc] 146)) tag base pb (P.resAt i 0 th) U := by rw [resAt_zero hth.out]; exact HR.out.1.below hBi
      have hXi : Ext w tag (wo.alloc (.cells #[.string (bs th.name), .slice ca th.code.length cc, .slice la th.labs.length lc] 146)) tag := HR.out.2.1.trans (.of_below hBi)
      have hbad := hide HR.out.2.2.1
      have hsm := hide HR.out.2.2.2
      clear HR hBi t0 t1 t2 c3 hlt
      generalize wo.alloc (.cells #[.string (bs th.name), .slice ca th.code.length cc, .slice la th.labs.length lc] 146) = wi at *
      generalize wo.heap.size = tb at *
      replace hbl := hide hbl
      replace hszi := hide hszi
      replace hto := hide hto
      have HRi := hide hRi
      replace hXi := hide hXi
      clear hRi hgl
      go_loopw [5] (fun iv wr => ∃ k : Nat, k ≤ th.code.length ∧ iv = .int .i64 k ∧ badC P th (th.code.take k) = none ∧ RfW wr tag base pb (P.resAt i k th) U ∧ Ext wi tag wr tag) (fun iv _ => th.code.length - (intOf iv).toNat)
      case atStart => exact ⟨0, Nat.zero_le _, rfl, rfl, HRi.out, Ext.refl _ _⟩
      case round =>
        obtain ⟨k, hk, rfl, hbc, hR2, hX2⟩ := hrel
        clear HRi
        have hb2 : wr.heap[tb]? = some (.cells #[.string (bs th.name), .slice ca th.code.length cc, .slice la th.labs.length lc] 146) := (hX2.block tb hszi.out hto.out).trans hbl.out
        have d1 : wr.cell? ⟨tb, 1, none⟩ = some (.slice ca th.code.length cc) := by simp [World.cell?, hb2]
        by_cases h6 : k < th.code.length
        · have hltk : (k : Int) < (th.code.length : Int) := by omega
          obtain ⟨r, hr⟩ : ∃ r, th.code[k]? = some r := ⟨_, List.getElem?_eq_getElem h6⟩
          rw [resV_start hr] at hR2
          obtain ⟨gc, ccap, e⟩ := resV_form hR2 hth.out hp.out hr
          have e2 := hp1.out
          rw [e] at e2
          cases e2
          obtain ⟨k0, k6, k7, k8, kf⟩ := resV_cells hR2 hth.out hp.out hr e
          have hwk : wrap64 ((k : Int) + 1) = (k : Int) + 1 := IntWalk.wrap64_in _ (by have := hsm.out.1; omega)
          have HI := hide (⟨hbc, hX2, e, hr, h6, hk⟩ : _ ∧ _ ∧ _ ∧ _ ∧ _ ∧ _)
          have HR2 := hide hR2
          replace hb2 := hide hb2
          clear hbc hX2 e hr h6 hk hR2
          have hF1 := bs_lit (formT r.i.op) [116]
          have hF2 := bs_lit (formT r.i.op) [108]
          have hF3 := bs_lit (formT r.i.op) [97, 98, 108]
          by_cases q1 : formT r.i.op = [116]
          · have hrx : Hid (rX P th r = findZ P.names r.word) := by unfold Hid rX; rw [if_pos q1]
            rw [q1] at hF1 hF2 hF3
            have hF1 : ((bs (formT r.i.op)).toList == [116]) = true := by rw [q1]; exact hF1.trans (by decide)
            have hF2 : ((bs (formT r.i.op)).toList == [108]) = false := by rw [q1]; exact hF2.trans (by decide)
            have hF3 : ((bs (formT r.i.op)).toList == [97, 98, 108]) = false := by rw [q1]; exact hF3.trans (by decide)
            clear q1
            have hForm := rForm_any r.i.op wr
            have hT := rThread_any HR2.out r.word (by rw [resV_len]; have := hb.out; omega)
            rw [resV_names hth.out] at hT
            unfold ptrV at hT
            generalize formT r.i.op = F at *
            generalize findZ P.names r.word = v at *
            obtain ⟨hR3, hX3⟩ := resV_step HR2.out hth.out hp.out HI.out.2.2.2.1 HI.out.2.2.1 v
            obtain ⟨-, m6, m7, -, -⟩ := resV_cells hR3 hth.out hp.out HI.out.2.2.2.1 HI.out.2.2.1
            have HR3 := hide (⟨hR3, hX3⟩ : _ ∧ _)
            clear hR3 hX3
            by_cases hv : v < 0
            · go_wp2_with fail
              refine hForm.mono ?_
              rintro e w2 ⟨rfl, rfl⟩
              go_wp2_with fail
              refine hT.mono ?_
              rintro e w2 ⟨rfl, rfl⟩
              go_wp2_with fail
              go_ret
              obtain ⟨hbc, hX2, e, hr, h6, hk⟩ := HI.out
              exact ⟨(hXi.out.trans hX2).trans HR3.out.2, .inl ⟨r.line, badT_no hth.out hbad.out (badC_no hr hbc (by rw [hrx.out]; exact hv)), rfl⟩⟩
            · go_wp2_with fail
              refine hForm.mono ?_
              rintro e w2 ⟨rfl, rfl⟩
              go_wp2_with fail
              refine hT.mono ?_
              rintro e w2 ⟨rfl, rfl⟩
              go_wp2_with fail
              go_roundw
              case rel =>
                rw [hwk]
                obtain ⟨hbc, hX2, e, hr, h6, hk⟩ := HI.out
                exact ⟨k + 1, h6, rfl, badC_ok hr hbc (by rw [hrx.out]; omega), by rw [← resV_end hr, hrx.out]; exact HR3.out.1, hX2.trans HR3.out.2⟩
              case measure =>
                rw [hwk]
                exact Nat.sub_lt_sub_left HI.out.2.2.2.2.1 (Nat.lt_succ_self k)
          · by_cases q2 : isL (formT r.i.op) = true
            · have hrx : Hid (rX P th r = labGo r.word th.labs (-1)) := by unfold Hid rX; rw [if_neg q1, if_pos q2]
              have g1 : (formT r.i.op == [116]) = false := by simpa using q1
              rw [g1] at hF1
              have hForm := rForm_any r.i.op wr
              have d2 : wr.cell? ⟨tb, 2, none⟩ = some (.slice la th.labs.length lc) := by simp [World.cell?, hb2.out]
              obtain ⟨hR3, hX3⟩ := resV_step HR2.out hth.out hp.out HI.out.2.2.2.1 HI.out.2.2.1 (-1)
              have HR3 := hide (⟨hR3, hX3⟩ : _ ∧ _)
              have hX4 := hide (HI.out.2.1.trans hX3)
              have hL : (formT r.i.op == [108]) = true ∨ ((formT r.i.op == [108]) = false ∧ (formT r.i.op == [97, 98, 108]) = true) := by
                cases g2 : (formT r.i.op == [108]) with
                | true => exact .inl rfl
                | false => simp [isL, g2] at q2; exact .inr ⟨rfl, by simp [q2]⟩
              clear hR3 hX3 q1 q2 g1
              generalize formT r.i.op = F at *
              rcases hL with hL | ⟨hL, hL3⟩
              · rw [hL] at hF2
                clear hF3 hL
                go_wp2_with fail
                refine hForm.mono ?_
                rintro e w2 ⟨rfl, rfl⟩
                go_wp2_with fail
                generalize hw4 : World.setCell _ _ _ = w4
                have HR4 : Hid (RfW w4 tag base pb (P.resV i k th r (-1)) U) := by rw [← hw4]; exact HR3.out.1
                have hX4 : Hid (Ext wi tag w4 tag) := by rw [← hw4]; exact hX4.out
                clear hw4 HR3 d1 d2 k0 k6 k7 k8 kf hForm HR2 hb2 hF1 hF2 hwk hltk
                go_loopw [8] (fun iv wr => ∃ j : Nat, j ≤ th.labs.length ∧ iv = .int .i64 j ∧ RfW wr tag base pb (P.resV i k th r (labGo r.word (th.labs.take j) (-1))) U ∧ Ext w4 tag wr tag) (fun iv _ => th.labs.length - (intOf iv).toNat)
                case atStart => exact ⟨0, Nat.zero_le _, rfl, HR4.out, Ext.refl _ _⟩
                case round =>
                  obtain ⟨j, hj, rfl, hR5, hX5⟩ := hrel
                  clear HR4
                  have hb5 : wr.heap[tb]? = some (.cells #[.string (bs th.name), .slice (some ⟨gc, 0, none⟩) th.code.length cc, .slice la th.labs.length lc] 146) := ((hX4.out.trans hX5).block tb hszi.out hto.out).trans hbl.out
                  have d2 : wr.cell? ⟨tb, 2, none⟩ = some (.slice la th.labs.length lc) := by simp [World.cell?, hb5]
                  obtain ⟨-, m6, m7, m8, mf⟩ := resV_cells hR5 hth.out hp.out HI.out.2.2.2.1 HI.out.2.2.1
                  replace hb5 := hide hb5
                  by_cases h7 : j < th.labs.length
                  · have hltj : (j : Int) < (th.labs.length : Int) := by omega
                    obtain ⟨l, hl⟩ : ∃ l, th.labs[j]? = some l := ⟨_, List.getElem?_eq_getElem h7⟩
                    obtain ⟨gl, lcap, e, l0, l1⟩ := resV_lab hR5 hth.out hp.out hl
                    have e2 := hp2.out
                    rw [e] at e2
                    cases e2
                    have hwj : wrap64 ((j : Int) + 1) = (j : Int) + 1 := IntWalk.wrap64_in _ (by have := hsm.out.2; omega)
                    have hF : ((bs l.1).toList == (bs r.word).toList) = decide (l.1 = r.word) := by
                      rw [bs_toList, bs_toList]
                      by_cases e : l.1 = r.word <;> simp [e]
                    have hd : Ext wr tag wr.drew tag := ⟨rfl, rfl, rfl, Nat.le_refl _, fun _ _ => rfl, fun _ _ _ => rfl⟩
                    have hRd := RfW.keep (w' := wr.drew) hR5 (fun _ _ => rfl) hd
                    obtain ⟨hR6, hX6⟩ := resV_step hRd hth.out hp.out HI.out.2.2.2.1 HI.out.2.2.1 (l.2 : Int)
                    have hg := labGo_succ (x := r.word) hl (-1)
                    have HJ := hide (⟨hRd, hR6, hX5.trans hd, (hX5.trans hd).trans hX6, hg, h7⟩ : _ ∧ _ ∧ _ ∧ _ ∧ _ ∧ _)
                    clear hRd hR6 hX6 hd hg hR5 hX5 h7 hj hl e
                    by_cases e : l.1 = r.word
                    · rw [decide_eq_true e] at hF
                      replace e := hide e
                      go_wp2_with fail
                      go_region
                      all_goals
                        go_wp2_with fail
                        go_roundw
                        case rel =>
                          rw [hwj]
                          obtain ⟨hRd, hR6, hXd, hX6, hg, h7⟩ := HJ.out
                          exact ⟨j + 1, h7, rfl, by rw [hg, if_pos e.out]; exact hR6, hX6⟩
                        case measure =>
                          rw [hwj]
                          exact Nat.sub_lt_sub_left HJ.out.2.2.2.2.2 (Nat.lt_succ_self j)
                    · rw [decide_eq_false e] at hF
                      replace e := hide e
                      go_wp2_with fail
                      go_region
                      all_goals
                        go_wp2_with fail
                        go_roundw
                        case rel =>
                          rw [hwj]
                          obtain ⟨hRd, hR6, hXd, hX6, hg, h7⟩ := HJ.out
                          exact ⟨j + 1, h7, rfl, by rw [hg, if_neg e.out]; exact hRd, hXd⟩
                        case measure =>
                          rw [hwj]
                          exact Nat.sub_lt_sub_left HJ.out.2.2.2.2.2 (Nat.lt_succ_self j)
                  · have hjl : j = th.labs.length := by omega
                    subst hjl
                    rw [List.take_length] at hR5 m6
                    have HJ := hide (⟨hR5, hX5⟩ : _ ∧ _)
                    have hwk : wrap64 ((k : Int) + 1) = (k : Int) + 1 := IntWalk.wrap64_in _ (by have := hsm.out.1; have := HI.out.2.2.2.2.1; omega)
                    generalize labGo r.word th.labs (-1) = v at *
                    clear hR5 hX5 h7 hj
                    by_cases hv : v < 0
                    · go_wp2_with fail
                      go_ret
                      obtain ⟨hbc, hX2, e, hr, h6, hk⟩ := HI.out
                      exact ⟨(hXi.out.trans hX4.out).trans HJ.out.2, .inl ⟨r.line, badT_no hth.out hbad.out (badC_no hr hbc (by rw [hrx.out]; exact hv)), rfl⟩⟩
                    · go_wp2_with fail
                      go_roundw
                      case rel =>
                        rw [hwk]
                        obtain ⟨hbc, hX2, e, hr, h6, hk⟩ := HI.out
                        exact ⟨k + 1, h6, rfl, badC_ok hr hbc (by rw [hrx.out]; omega), by rw [← resV_end hr, hrx.out]; exact HJ.out.1, hX4.out.trans HJ.out.2⟩
                      case measure =>
                        rw [hwk]
                        exact Nat.sub_lt_sub_left HI.out.2.2.2.2.1 (Nat.lt_succ_self k)
              · rw [hL] at hF2
                rw [hL3] at hF3
                clear hL hL3
                go_wp2_with fail
                refine hForm.mono ?_
                rintro e w2 ⟨rfl, rfl⟩
                go_wp2_with fail
                generalize hw4 : World.setCell _ _ _ = w4
                have HR4 : Hid (RfW w4 tag base pb (P.resV i k th r (-1)) U) := by rw [← hw4]; exact HR3.out.1
                have hX4 : Hid (Ext wi tag w4 tag) := by rw [← hw4]; exact hX4.out
                clear hw4 HR3 d1 d2 k0 k6 k7 k8 kf hForm HR2 hb2 hF1 hF2 hF3 hwk hltk
                go_loopw [8] (fun iv wr => ∃ j : Nat, j ≤ th.labs.length ∧ iv = .int .i64 j ∧ RfW wr tag base pb (P.resV i k th r (labGo r.word (th.labs.take j) (-1))) U ∧ Ext w4 tag wr tag) (fun iv _ => th.labs.length - (intOf iv).toNat)
                case atStart => exact ⟨0, Nat.zero_le _, rfl, HR4.out, Ext.refl _ _⟩
                case round =>
                  obtain ⟨j, hj, rfl, hR5, hX5⟩ := hrel
                  clear HR4
                  have hb5 : wr.heap[tb]? = some (.cells #[.string (bs th.name), .slice (some ⟨gc, 0, none⟩) th.code.length cc, .slice la th.labs.length lc] 146) := ((hX4.out.trans hX5).block tb hszi.out hto.out).trans hbl.out
                  have d2 : wr.cell? ⟨tb, 2, none⟩ = some (.slice la th.labs.length lc) := by simp [World.cell?, hb5]
                  obtain ⟨-, m6, m7, m8, mf⟩ := resV_cells hR5 hth.out hp.out HI.out.2.2.2.1 HI.out.2.2.1
                  replace hb5 := hide hb5
                  by_cases h7 : j < th.labs.length
                  · have hltj : (j : Int) < (th.labs.length : Int) := by omega
                    obtain ⟨l, hl⟩ : ∃ l, th.labs[j]? = some l := ⟨_, List.getElem?_eq_getElem h7⟩
                    obtain ⟨gl, lcap, e, l0, l1⟩ := resV_lab hR5 hth.out hp.out hl
                    have e2 := hp2.out
                    rw [e] at e2
                    cases e2
                    have hwj : wrap64 ((j : Int) + 1) = (j : Int) + 1 := IntWalk.wrap64_in _ (by have := hsm.out.2; omega)
                    have hF : ((bs l.1).toList == (bs r.word).toList) = decide (l.1 = r.word) := by
                      rw [bs_toList, bs_toList]
                      by_cases e : l.1 = r.word <;> simp [e]
                    have hd : Ext wr tag wr.drew tag := ⟨rfl, rfl, rfl, Nat.le_refl _, fun _ _ => rfl, fun _ _ _ => rfl⟩
                    have hRd := RfW.keep (w' := wr.drew) hR5 (fun _ _ => rfl) hd
                    obtain ⟨hR6, hX6⟩ := resV_step hRd hth.out hp.out HI.out.2.2.2.1 HI.out.2.2.1 (l.2 : Int)
                    have hg := labGo_succ (x := r.word) hl (-1)
                    have HJ := hide (⟨hRd, hR6, hX5.trans hd, (hX5.trans hd).trans hX6, hg, h7⟩ : _ ∧ _ ∧ _ ∧ _ ∧ _ ∧ _)
                    clear hRd hR6 hX6 hd hg hR5 hX5 h7 hj hl e
                    by_cases e : l.1 = r.word
                    · rw [decide_eq_true e] at hF
                      replace e := hide e
                      go_wp2_with fail
                      go_region
                      all_goals
                        go_wp2_with fail
                        go_roundw
                        case rel =>
                          rw [hwj]
                          obtain ⟨hRd, hR6, hXd, hX6, hg, h7⟩ := HJ.out
                          exact ⟨j + 1, h7, rfl, by rw [hg, if_pos e.out]; exact hR6, hX6⟩
                        case measure =>
                          rw [hwj]
                          exact Nat.sub_lt_sub_left HJ.out.2.2.2.2.2 (Nat.lt_succ_self j)
                    · rw [decide_eq_false e] at hF
                      replace e := hide e
                      go_wp2_with fail
                      go_region
                      all_goals
                        go_wp2_with fail
                        go_roundw
                        case rel =>
                          rw [hwj]
                          obtain ⟨hRd, hR6, hXd, hX6, hg, h7⟩ := HJ.out
                          exact ⟨j + 1, h7, rfl, by rw [hg, if_neg e.out]; exact hRd, hXd⟩
                        case measure =>
                          rw [hwj]
                          exact Nat.sub_lt_sub_left HJ.out.2.2.2.2.2 (Nat.lt_succ_self j)
                  · have hjl : j = th.labs.length := by omega
                    subst hjl
                    rw [List.take_length] at hR5 m6
                    have HJ := hide (⟨hR5, hX5⟩ : _ ∧ _)
                    have hwk : wrap64 ((k : Int) + 1) = (k : Int) + 1 := IntWalk.wrap64_in _ (by have := hsm.out.1; have := HI.out.2.2.2.2.1; omega)
                    generalize labGo r.word th.labs (-1) = v at *
                    clear hR5 hX5 h7 hj
                    by_cases hv : v < 0
                    · go_wp2_with fail
                      go_ret
                      obtain ⟨hbc, hX2, e, hr, h6, hk⟩ := HI.out
                      exact ⟨(hXi.out.trans hX4.out).trans HJ.out.2, .inl ⟨r.line, badT_no hth.out hbad.out (badC_no hr hbc (by rw [hrx.out]; exact hv)), rfl⟩⟩
                    · go_wp2_with fail
                      go_roundw
                      case rel =>
                        rw [hwk]
                        obtain ⟨hbc, hX2, e, hr, h6, hk⟩ := HI.out
                        exact ⟨k + 1, h6, rfl, badC_ok hr hbc (by rw [hrx.out]; omega), by rw [← resV_end hr, hrx.out]; exact HJ.out.1, hX4.out.trans HJ.out.2⟩
                      case measure =>
                        rw [hwk]
                        exact Nat.sub_lt_sub_left HI.out.2.2.2.2.1 (Nat.lt_succ_self k)
            · have hrx : Hid (rX P th r = r.i.x) := by unfold Hid rX; rw [if_neg q1, if_neg q2]
              have g1 : (formT r.i.op == [116]) = false := by simpa using q1
              have g2 : (formT r.i.op == [108]) = false := by simp [isL] at q2; simpa using q2.1
              have g3 : (formT r.i.op == [97, 98, 108]) = false := by simp [isL] at q2; simpa using q2.2
              rw [g1] at hF1
              rw [g2] at hF2
              rw [g3] at hF3
              clear q1 q2 g1 g2 g3
              have hForm := rForm_any r.i.op wr
              generalize formT r.i.op = F at *
              by_cases hv : r.i.x < 0
              · go_wp2_with fail
                refine hForm.mono ?_
                rintro e w2 ⟨rfl, rfl⟩
                go_wp2_with fail
                go_ret
                obtain ⟨hbc, hX2, e, hr, h6, hk⟩ := HI.out
                exact ⟨hXi.out.trans hX2, .inl ⟨r.line, badT_no hth.out hbad.out (badC_no hr hbc (by rw [hrx.out]; exact hv)), rfl⟩⟩
              · go_wp2_with fail
                refine hForm.mono ?_
                rintro e w2 ⟨rfl, rfl⟩
                go_wp2_with fail
                go_roundw
                case rel =>
                  rw [hwk]
                  obtain ⟨hbc, hX2, e, hr, h6, hk⟩ := HI.out
                  exact ⟨k + 1, h6, rfl, badC_ok hr hbc (by rw [hrx.out]; omega), by rw [← resV_end hr, hrx.out]; exact HR2.out, hX2⟩
                case measure =>
                  rw [hwk]
                  exact Nat.sub_lt_sub_left HI.out.2.2.2.2.1 (Nat.lt_succ_self k)
        · have hkl : k = th.code.length := by omega
          subst hkl
          have HI := hide (⟨hbc, hX2, hR2⟩ : _ ∧ _ ∧ _)
          have hwi : wrap64 ((i : Int) + 1) = (i : Int) + 1 := IntWalk.wrap64_in _ (by have := hb.out; have := h5.out; omega)
          clear hbc hX2 hR2 h6 hk hb2
          go_wp2_with fail
          go_roundw
          case rel =>
            rw [hwi]
            obtain ⟨hbc, hX2, hR2⟩ := HI.out
            rw [List.take_length] at hbc
            exact ⟨i + 1, h5.out, rfl, badT_ok hth.out hbad.out hbc, by rw [← resAt_all hth.out]; exact hR2, hXi.out.trans hX2⟩
          case measure =>
            rw [hwi]
            exact Nat.sub_lt_sub_left h5.out (Nat.lt_succ_self i)
    · have hil : i = P.thr.length := by omega
      subst hil
      have HR := hide (⟨hX, hbad, hR⟩ : _ ∧ _ ∧ _)
      obtain ⟨ta, tcap, hV⟩ := owns_len hR.trow
      rw [hV, res_len] at c3
      clear hR hX hbad hV hi h5
      go_wp2_with fail
      go_ret
      refine ⟨HR.out.1, .inr ⟨?_, rfl, ?_⟩⟩
      · have := HR.out.2.1; rw [List.take_length] at this; exact this
      · rw [← res_all_is]; exact HR.out.2.2
end Go.Proofs.YtlpdomgedaockaaGreatDoor
