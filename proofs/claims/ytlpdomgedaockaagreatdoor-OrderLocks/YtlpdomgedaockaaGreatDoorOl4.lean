import Derived.Test.YtlpdomgedaockaaGreatDoorOl2
set_option linter.unusedVariables false
set_option linter.unusedSimpArgs false
namespace Go.Proofs.YtlpdomgedaockaaGreatDoor
open Go.RowKit Go.Proofs.Cod
def putZ {α : Type} (f : Int → α) (k : Int) (v : α) : Int → α := fun x => if x = k then v else f x
theorem putZ_same {α : Type} (f : Int → α) (k : Int) (v : α) : putZ f k v k = v := by simp [putZ]
theorem putZ_other {α : Type} {f : Int → α} {k x : Int} (v : α) (h : x ≠ k) : putZ f k v x = f x := by simp [putZ, h]
def RG.decl (G : RG) (kd : Int) (t : Tx) (v : Value) : RG := { G with N := putT G.N t (kd, (G.nms kd).length), nms := putZ G.nms kd (G.nms kd ++ [t]), V := putZ G.V kd v }
section
variable {w w' : World} {tag tag' : Nat → RT} {base rb nb lb : Nat} {G : RG}
theorem rowV_len {e : TypeId} {k : Int} {v : Value} {l : List Tx} (h : RowOk w tag base e k v (l.map strW)) : ∃ a cap, v = .slice a l.length cap := by
  have h := h.row
  rw [List.length_map] at h
  rcases h.2 with ⟨h1, h2⟩ | ⟨g, cap, cur, h1, _⟩
  · exact ⟨none, 0, by rw [h1, h2]⟩
  · exact ⟨_, _, h1⟩
theorem set_row {G : RG} {kd : Int} (hk : isK kd) (v : Value) (nb lb : Nat) : #[Value.int .i64 G.line, G.V 118, G.V 102, G.V 109, .slice none 0 0, G.V 116, G.bV, .map (some nb), .map (some lb), G.lV].setIfInBounds (offK kd) v = #[Value.int .i64 G.line, putZ G.V kd v 118, putZ G.V kd v 102, putZ G.V kd v 109, .slice none 0 0, putZ G.V kd v 116, G.bV, .map (some nb), .map (some lb), G.lV] := by
  rcases hk with rfl | rfl | rfl | rfl <;> simp [offK, putZ]
theorem RdW.decl (h : RdW w tag base rb nb lb G) {kd : Int} (hk : isK kd) (t : Tx) (hlen : (G.nms kd).length < 1048576) :
    ∃ w', (Instr.mapUpdate 66 (.map (some nb)) (.string (bs t)) (.pointer (some ⟨w.heap.size, 0, none⟩))).run Tryz.prog ((w.alloc (.cells #[.int .u8 kd, .int .i64 (G.nms kd).length] 221)).drew) = .ok () w' ∧
      w'.cell? ⟨rb, offK kd, none⟩ = some (G.V kd) ∧ ∃ g cap w3, (Builtin.append_ #[23, 23] 23 #[G.V kd, .slice (some ⟨w'.heap.size, 0, none⟩) 1 1]).run Tryz.prog (w'.alloc (.cells #[.string (bs t)] 9)) = .ok (.slice (some ⟨g, 0, none⟩) ((G.nms kd).length + 1) cap) w3 ∧
      w3.cell? ⟨rb, offK kd, none⟩ = some (G.V kd) ∧ w3.frozen? ⟨rb, offK kd, none⟩ = false ∧
      ∃ tag', RdW (w3.setCell ⟨rb, offK kd, none⟩ (.slice (some ⟨g, 0, none⟩) ((G.nms kd).length + 1) cap)) tag' base rb nb lb (G.decl kd t (.slice (some ⟨g, 0, none⟩) ((G.nms kd).length + 1) cap)) ∧ Ext w tag (w3.setCell ⟨rb, offK kd, none⟩ (.slice (some ⟨g, 0, none⟩) ((G.nms kd).length + 1) cap)) tag' := by
  have hk0 : kd ≠ 0 ∧ kd ≠ 1 := by rcases hk with rfl | rfl | rfl | rfl <;> decide
  have hnl := h.lt h.tnm (by simp)
  have hrl := h.lt h.trd (by simp)
  have hg3 := h.g3
  obtain ⟨w', hrun, hM, hz, ho, ht, hp, hkp⟩ := h.names.put t kd (G.nms kd).length (fun b hb => h.lt hb (by simp)) (by rw [h.tnm]; simp) hnl
  have hrn : rb ≠ nb := fun e => by have := h.trd; rw [e, h.tnm] at this; cases this
  have hrb' : w'.heap[rb]? = w.heap[rb]? := hkp rb hrl hrn
  have hto : ∀ b, tagAt tag w.heap.size .en b ≠ .o → b < w'.heap.size := fun b hb => by
    unfold tagAt at hb
    split at hb
    · omega
    · have := (h.tlt b hb).2; omega
  have hrow : RowOk w' (tagAt tag w.heap.size .en) base 9 kd (G.V kd) ((G.nms kd).map strW) := (h.rows kd hk).kept fun b hb => by
    have hl := h.lt hb (by simp)
    exact ⟨hkp b hl (fun e => by rw [e, h.tnm] at hb; cases hb), (tagAt_old _ (by omega)).trans hb⟩
  obtain ⟨i0, hi, hy0, hy1, hy2⟩ := info_parts Tryz.infoTx
  obtain ⟨g, cap, w3, tag3, hr3, hrow3, o3, t3, p3, z3, b3, old3, new3⟩ := hrow.push Tryz.underlying23 hi hy0 hy1 hy2 rfl (by omega) (strW t) (by simp [Value.oneCell', strW]) 23 (by simpa using hlen) (by omega) hto
  rw [List.length_map] at hr3 hrow3
  have e3 : ∀ b, b < w.heap.size → b ≠ nb → tag b ≠ .row kd → w3.heap[b]? = w.heap[b]? := fun b hb h1 h2 => (b3 b (by omega) (by rw [tagAt_old _ (by omega)]; exact h2)).trans (hkp b hb h1)
  have hrb3 : w3.heap[rb]? = w.heap[rb]? := e3 rb hrl hrn (by rw [h.trd]; simp)
  have hc3 : w3.cell? ⟨rb, offK kd, none⟩ = some (G.V kd) := (World.cell?_of_block (w := w) (a := ⟨rb, offK kd, none⟩) hrb3).trans (h.rowC hk)
  have hx : Ext w tag (w3.setCell ⟨rb, offK kd, none⟩ (.slice (some ⟨g, 0, none⟩) ((G.nms kd).length + 1) cap)) tag3 := by
    refine ⟨o3.trans ho, t3.trans ht, p3.trans hp, by simp; omega, fun b hb => (old3 b (by omega)).trans (tagAt_old _ (by omega)), fun b hb hbo => ?_⟩
    rw [Below.heap_setCell w3 ⟨rb, offK kd, none⟩ _ b (ne_tag hbo h.trd (by simp))]
    exact e3 b hb (fun e => by have := h.tnm; rw [← e, hbo] at this; cases this) (by rw [hbo]; simp)
  refine ⟨w', hrun, (World.cell?_of_block (w := w) (a := ⟨rb, offK kd, none⟩) hrb').trans (h.rowC hk), g, cap, w3, hr3, hc3, (World.frozen?_of_block (w := w) (a := ⟨rb, offK kd, none⟩) hrb3).trans (h.frz _), tag3, ?_, hx⟩
  refine h.step (fun x => x = .nm ∨ x = .row kd ∨ x = .rd) hx (fun b hb h1 h2 => ?_) (fun b hb hn => ?_) ?_ (fun k hkk => ?_) (.inl ⟨rfl, rfl, by simp; exact fun e => hk0.1 e.symm⟩) (.inl ⟨rfl, rfl, by simp; exact fun e => hk0.2 e.symm⟩) (.inr ?_) (by simp) (by simp) (by simp) (fun a c hc => .inl ⟨hc, by simp, by simp, by simp⟩) (fun a i hi => .inl ⟨hi, ?_⟩) (fun c hc => .inl hc)
  · rw [Below.heap_setCell w3 ⟨rb, offK kd, none⟩ _ b (fun e => h2 (by rw [e]; exact .inr (.inr h.trd)))]
    exact e3 b hb (fun e => h2 (by rw [e]; exact .inl h.tnm)) (fun e => h2 (.inr (.inl e)))
  · simp only [World.size_setCell]
    by_cases e : b = w.heap.size
    · subst e; omega
    · exact new3 b (by omega) hn
  · rw [heap_setCell_same w3 rb (offK kd) _ _ _ (hrb3.trans h.cell), set_row hk]
    rfl
  · by_cases e : k = kd
    · subst e
      right
      have e1 : (G.decl k t (.slice (some ⟨g, 0, none⟩) ((G.nms k).length + 1) cap)).V k = .slice (some ⟨g, 0, none⟩) ((G.nms k).length + 1) cap := putZ_same _ _ _
      have e2 : (G.decl k t (.slice (some ⟨g, 0, none⟩) ((G.nms k).length + 1) cap)).nms k = G.nms k ++ [t] := putZ_same _ _ _
      rw [e1, e2, List.map_append]
      refine ⟨owns_same hrow3.row fun x hx => ?_, hrow3.tg⟩
      refine Below.heap_setCell w3 ⟨rb, offK k, none⟩ _ x (fun e => ?_)
      have e : x = rb := e
      have h1 := hrow3.tg x hx
      rw [e, old3 rb (by omega), tagAt_old _ (by omega), h.trd] at h1
      cases h1
    · exact .inl ⟨putZ_other _ e, putZ_other _ e, by simp; exact e⟩
  · refine hM.kept ?_ fun b hb => ?_
    · rw [Below.heap_setCell w3 ⟨rb, offK kd, none⟩ _ nb (fun e => hrn e.symm)]
      exact b3 nb (by omega) (by rw [tagAt_old _ (by omega), h.tnm]; simp)
    · have hbl := hto b (by rw [hb]; simp)
      refine ⟨?_, (old3 b (by omega)).trans hb⟩
      rw [Below.heap_setCell w3 ⟨rb, offK kd, none⟩ _ b (fun e => ?_)]
      · exact b3 b (by omega) (by rw [hb]; simp)
      · have e : b = rb := e
        rw [e, tagAt_old _ (by omega), h.trd] at hb; cases hb
  · have := h.ins a i hi
    have hl := h.lt this.2 (by simp)
    rw [Below.heap_setCell w3 ⟨rb, offK kd, none⟩ _ a (ne_tag this.2 h.trd (by simp))]
    exact e3 a hl (fun e => by rw [e, h.tnm] at this; cases this.2) (by rw [this.2]; simp)
end
end Go.Proofs.YtlpdomgedaockaaGreatDoor
namespace Go.Proofs.YtlpdomgedaockaaGreatDoor
open Go.RowKit Go.Proofs.Cod
def WsT (w : World) (tag : Nat → RT) (a : Option Addr) (ts : List Tx) : Prop :=
  ∀ i, i < ts.length → ∃ b off, a = some ⟨b, off, none⟩ ∧ b < w.heap.size ∧ w.cell? ⟨b, off + i, none⟩ = some (.string (bs (ts.getD i []))) ∧ tag b = .o
theorem WsT.ws {w : World} {tag : Nat → RT} {a : Option Addr} {ts : List Tx} (h : WsT w tag a ts) : Ws w a ts := fun i hi => by
  obtain ⟨b, off, h1, h2, h3, _⟩ := h i hi; exact ⟨b, off, h1, h2, h3⟩
theorem WsT.ext {w w' : World} {tag tag' : Nat → RT} {a : Option Addr} {ts : List Tx} (h : WsT w tag a ts) (hx : Ext w tag w' tag') : WsT w' tag' a ts := fun i hi => by
  obtain ⟨b, off, h1, h2, h3, h4⟩ := h i hi
  exact ⟨b, off, h1, Nat.lt_of_lt_of_le h2 hx.size, (World.cell?_of_block (w := w) (a := ⟨b, off + i, none⟩) (hx.block b h2 h4)).trans h3, (hx.tags b h2).trans h4⟩
def declAll (kd : Int) : (Tx → Option (Int × Nat)) → List Tx → List Tx → Option ((Tx → Option (Int × Nat)) × List Tx)
  | N, l, [] => some (N, l)
  | N, l, t :: ts => match N t with
    | some _ => none
    | none => declAll kd (putT N t (kd, l.length)) (l ++ [t]) ts
theorem declAll_len {kd : Int} {N : Tx → Option (Int × Nat)} {l ts : List Tx} {p : (Tx → Option (Int × Nat)) × List Tx} (h : declAll kd N l ts = some p) : p.2 = l ++ ts := by
  induction ts generalizing N l with
  | nil => simp only [declAll, Option.some.injEq] at h; rw [← h]; simp
  | cons t ts ih =>
    unfold declAll at h
    split at h
    · cases h
    · rw [ih h]; simp
def DeclP (kd : Int) (ts : List Tx) (G G' : RG) : Prop := kd ≠ 0 ∧ ts ≠ [] ∧ ts.all isNam = true ∧ declAll kd G.N (G.nms kd) ts = some (G'.N, G'.nms kd) ∧ (G'.nms kd).length ≤ 4 ∧ (∀ k, k ≠ kd → G'.nms k = G.nms k) ∧ G'.line = G.line ∧ G'.bods = G.bods ∧ G'.bV = G.bV ∧ G'.B = G.B ∧ G'.I = G.I ∧ G'.las = G.las ∧ G'.lV = G.lV
def DeclE (kd : Int) (ts : List Tx) (G : RG) (e : Int) : Prop := ((kd = 0 ∨ ts = [] ∨ ts.all isNam = false) ∧ e = 2) ∨ ((kd ≠ 0 ∧ ts ≠ [] ∧ ts.all isNam = true) ∧ ((declAll kd G.N (G.nms kd) ts = none ∧ e = 3) ∨ ((∃ p, declAll kd G.N (G.nms kd) ts = some p ∧ 4 < p.2.length) ∧ e = 4)))
structure DeclJ (w : World) (tag : Nat → RT) (base rb nb lb : Nat) (kd : Int) (ts : List Tx) (G : RG) (i : Nat) (wr : World) (tr : Nat → RT) (Gr : RG) : Prop where
  rd : RdW wr tr base rb nb lb Gr
  ext : Ext w tag wr tr
  all : declAll kd G.N (G.nms kd) ts = declAll kd Gr.N (Gr.nms kd) (ts.drop i)
  len : (Gr.nms kd).length = (G.nms kd).length + i
  oth : ∀ k, k ≠ kd → Gr.nms k = G.nms k
  line : Gr.line = G.line
  rest : Gr.bods = G.bods ∧ Gr.bV = G.bV ∧ Gr.B = G.B ∧ Gr.I = G.I ∧ Gr.las = G.las ∧ Gr.lV = G.lV
set_option maxRecDepth 100000 in
set_option maxHeartbeats 1000000 in
theorem declare_any {w : World} {tag : Nat → RT} {base rb nb lb : Nat} {G : RG} (h : RdW w tag base rb nb lb G) (kd : Int) (hk : kd = 0 ∨ isK kd) (a : Option Addr) (n cap : Nat) (ts : List Tx) (hn : ts.length = n) (hs : WsT w tag a ts) (hb : (G.nms kd).length + n < 1048576) :
    Calls Tryz.prog 106 #[ptrV rb, .int .u8 kd, .slice a n cap] w (Out w tag base rb nb lb G.line (DeclP kd ts G) (DeclE kd ts G)) := by
  unfold ptrV
  have cl := h.lineC
  have hnb : n < 4294967281 := by omega
  by_cases h0 : kd = 0
  · subst h0
    have HX := hide (Ext.refl w tag)
    go_enter Tryz.func106, Tryz.ntmps106
    go_wp2_with fail
    refine (demand_no 2 cl).mono ?_
    rintro e w3 ⟨rfl, rfl⟩
    exact ⟨rfl, .inr ⟨tag, 2, rfl, HX.out, .inl ⟨.inl rfl, rfl⟩⟩⟩
  · have hk : isK kd := hk.resolve_left h0
    have hkd : (kd != 0) = true := by simpa using h0
    by_cases hn0 : n = 0
    · subst hn0
      have ht : ts = [] := List.eq_nil_of_length_eq_zero hn
      replace ht := hide ht
      have HX := hide (Ext.refl w tag)
      clear hn
      go_enter Tryz.func106, Tryz.ntmps106
      go_wp2_with fail
      refine (demand_no 2 cl).mono ?_
      rintro e w3 ⟨rfl, rfl⟩
      exact ⟨rfl, .inr ⟨tag, 2, rfl, HX.out, .inl ⟨.inr (.inl ht.out), rfl⟩⟩⟩
    · have hpos : (0 : Int) < n := by omega
      have hne : Hid (ts ≠ []) := by (unfold Hid; intro e; rw [e] at hn; simp at hn; omega)
      have hA := areNames_any a n cap ts w hn hs.ws hnb
      cases ha : ts.all isNam with
      | false =>
        rw [ha] at hA
        have HX := hide (Ext.refl w tag)
        replace ha := hide ha
        go_enter Tryz.func106, Tryz.ntmps106
        go_wp2_with fail
        refine hA.mono ?_
        rintro e w2 ⟨rfl, rfl⟩
        go_wp2_with fail
        refine (demand_no 2 cl).mono ?_
        rintro e w3 ⟨rfl, rfl⟩
        exact ⟨rfl, .inr ⟨tag, 2, rfl, HX.out, .inl ⟨.inr (.inr ha.out), rfl⟩⟩⟩
      | true =>
        rw [ha] at hA
        have c8 := h.lisC
        have hlk : (Instr.lookup 67 (.map (some lb)) (.int .u8 kd) false).run Tryz.prog w = .ok (.pointer (some ⟨rb, offK kd, none⟩)) w := by
          obtain ⟨m, hM⟩ := h.lists
          have := hM.look Tryz.u8Key Tryz.underlying67 (z := .pointer none) (by kernel_rfl) kd
          have e : listF rb kd = some (.pointer (some ⟨rb, offK kd, none⟩)) := by unfold listF; rw [if_pos (show kd = 118 ∨ kd = 102 ∨ kd = 109 ∨ kd = 116 from hk)]
          rw [e] at this
          exact this
        have hJ0 : Hid (DeclJ w tag base rb nb lb kd ts G 0 w tag G) := ⟨h, Ext.refl w tag, by simp, rfl, fun _ _ => rfl, rfl, rfl, rfl, rfl, rfl, rfl, rfl⟩
        replace ha := hide ha
        replace hs := hide hs
        replace hn := hide hn
        replace hb := hide hb
        have h1 := hide (⟨hk, h0⟩ : _ ∧ _)
        clear hk
        clear h
        go_enter Tryz.func106, Tryz.ntmps106
        go_wp2_with fail
        refine hA.mono ?_
        rintro e w2 ⟨rfl, rfl⟩
        go_wp2_with fail
        refine (demand_yes rb 2 _).mono ?_
        rintro e w3 ⟨rfl, rfl⟩
        go_wp2_with fail
        go_loopw [30] (fun iv wr => ∃ (i : Nat) (tr : Nat → RT) (Gr : RG), i ≤ n ∧ iv = .int .i64 i ∧ DeclJ w3 tag base rb nb lb kd ts G i wr tr Gr) (fun iv _ => n - (intOf iv).toNat)
        case atStart => exact ⟨0, tag, G, Nat.zero_le _, rfl, hJ0.out⟩
        case round =>
          clear cl c8 hlk hJ0 hA
          obtain ⟨i, tr, Gr, hi, rfl, hJ⟩ := hrel
          obtain ⟨hk, h0⟩ := h1.out
          have hr := hJ.rd
          have cR := hr.rowC hk
          have hrl := hr.lt hr.trd (by simp)
          obtain ⟨ra, rcap, hV⟩ := rowV_len (hr.rows kd hk)
          have cL := hr.lineC
          rw [hJ.line] at cL
          by_cases h5 : i < n
          · obtain ⟨b, off, rfl, _, cw, _⟩ := (hs.out.ext hJ.ext) i (by have := hn.out; omega)
            have hlt : (i : Int) < (n : Int) := by omega
            have cN := hr.namC
            have hlook := hr.names.look (ts.getD i [])
            obtain ⟨w', hrun, cR', g, cap', w3', hrun3, cR3, fR3, tag3, hR3, hX3⟩ := hr.decl hk (ts.getD i []) (by have := hJ.len; have := hb.out; omega)
            have hdrop : ts.drop i = ts.getD i [] :: ts.drop (i + 1) := by
              have hi' : i < ts.length := by have := hn.out; omega
              rw [List.drop_eq_getElem_cons hi', List.getD_eq_getElem?_getD, List.getElem?_eq_getElem hi']; rfl
            have hall := hJ.all
            rw [hdrop] at hall
            have HE := hide (⟨hJ, hall, hR3, hX3⟩ : _ ∧ _ ∧ _ ∧ _)
            clear hJ hall hR3 hX3 hdrop
            generalize ts.getD i [] = t at *
            rw [hV] at cR cR' cR3 hrun3
            replace hV := hide hV
            rcases hlook with ⟨h6, h7⟩ | ⟨k6, n6, e6, h6, h7, _⟩
            · have hpe := ptr_nil_eq
              replace h6 := hide h6
              clear hr hk
              go_wp2_with fail
              refine (demand_yes rb 3 _).mono ?_
              rintro e w4 ⟨rfl, rfl⟩
              go_wp2_with fail
              go_region
              all_goals
                go_wp2_with (at_builtin; refine wpList_append_run rfl _ _ _ rfl rfl rfl rfl hrun3 ?_)
                go_roundw
                case rel =>
                  obtain ⟨hJ, hall, hR3, hX3⟩ := HE.out
                  refine ⟨i + 1, tag3, _, by omega, by go_num, hR3, hJ.ext.trans hX3, ?_, ?_, fun k hk => ?_, hJ.line, hJ.rest⟩
                  · rw [hall]
                    have e1 : (Gr.decl kd t (.slice (some ⟨g, 0, none⟩) ((Gr.nms kd).length + 1) cap')).nms kd = Gr.nms kd ++ [t] := putZ_same _ _ _
                    rw [e1]
                    conv => lhs; unfold declAll
                    rw [h6.out]
                    rfl
                  · have e1 : (Gr.decl kd t (.slice (some ⟨g, 0, none⟩) ((Gr.nms kd).length + 1) cap')).nms kd = Gr.nms kd ++ [t] := putZ_same _ _ _
                    rw [e1, List.length_append, hJ.len]; simp; omega
                  · have e1 : (Gr.decl kd t (.slice (some ⟨g, 0, none⟩) ((Gr.nms kd).length + 1) cap')).nms k = Gr.nms k := putZ_other _ hk
                    rw [e1]; exact hJ.oth k hk
                case measure => simp [intOf]; omega
            · replace h6 := hide h6
              unfold ptrV at h7
              clear hr hk
              go_wp2_with fail
              refine (demand_no 3 cL).mono ?_
              rintro e w4 ⟨rfl, rfl⟩
              obtain ⟨hJ, hall, _⟩ := HE.out
              refine ⟨rfl, .inr ⟨tr, 3, rfl, hJ.ext, .inr ⟨⟨h0, hne.out, ha.out⟩, .inl ⟨?_, rfl⟩⟩⟩⟩
              rw [hall]
              unfold declAll
              rw [h6.out]
          · replace hJ := hide hJ
            rw [hV] at cR
            replace hV := hide hV
            have hall : Hid (declAll kd G.N (G.nms kd) ts = some (Gr.N, Gr.nms kd)) := by
              have := hJ.out.all
              rw [List.drop_of_length_le (by have := hn.out; omega)] at this
              exact this
            clear hr hk
            by_cases h7 : (Gr.nms kd).length ≤ 4
            · have h7' : ((Gr.nms kd).length : Int) ≤ 4 := by omega
              go_wp2_with fail
              refine (demand_yes rb 4 _).mono ?_
              rintro e w4 ⟨rfl, rfl⟩
              go_wp2_with fail
              go_end0
              have hJ := hJ.out
              exact .inl ⟨tr, Gr, rfl, hJ.rd, hJ.ext, h0, hne.out, ha.out, hall.out, h7, hJ.oth, hJ.line, hJ.rest⟩
            · have h7' : ¬ ((Gr.nms kd).length : Int) ≤ 4 := by omega
              go_wp2_with fail
              refine (demand_no 4 cL).mono ?_
              rintro e w4 ⟨rfl, rfl⟩
              exact ⟨rfl, .inr ⟨tr, 4, rfl, hJ.out.ext, .inr ⟨⟨h0, hne.out, ha.out⟩, .inr ⟨⟨_, hall.out, by show 4 < (Gr.nms kd).length; omega⟩, rfl⟩⟩⟩⟩
end Go.Proofs.YtlpdomgedaockaaGreatDoor
namespace Go.Proofs.YtlpdomgedaockaaGreatDoor
open Go.RowKit Go.Proofs.Cod
def RG.body (G : RG) (a lm : Nat) (v : Value) : RG := { G with bods := G.bods ++ [a], bV := v, B := putN G.B a { lm := lm, cv := .slice none 0 0, ins := [], labs := fun _ => none } }
section
variable {w w' : World} {tag tag' : Nat → RT} {base rb nb lb : Nat} {G : RG}
theorem row_ptr {e : TypeId} {k : Int} {v : Value} {xs : List Value} (h : RowOk w tag base e k v xs) : ∃ a cap, v = .slice a xs.length cap := by
  rcases h.row.2 with ⟨h1, h2⟩ | ⟨g, cap, cur, h1, _⟩
  · exact ⟨none, 0, by rw [h1, h2]⟩
  · exact ⟨_, _, h1⟩
theorem RdW.body (h : RdW w tag base rb nb lb G) (hlen : G.bods.length < 1048576) :
    ∃ w1, (w.alloc (.map #[] 0)).alloc (.cells #[.slice none 0 0, .map (some w.heap.size)] 201) = w1 ∧ ∃ g cap w3, (Builtin.append_ #[65, 65] 65 #[G.bV, .slice (some ⟨w1.heap.size, 0, none⟩) 1 1]).run Tryz.prog (w1.alloc (.cells #[ptrV (w.heap.size + 1)] 198)) = .ok (.slice (some ⟨g, 0, none⟩) (G.bods.length + 1) cap) w3 ∧
      w3.cell? ⟨rb, 6, none⟩ = some G.bV ∧ w3.frozen? ⟨rb, 6, none⟩ = false ∧
      ∃ tag', RdW (w3.setCell ⟨rb, 6, none⟩ (.slice (some ⟨g, 0, none⟩) (G.bods.length + 1) cap)) tag' base rb nb lb (G.body (w.heap.size + 1) w.heap.size (.slice (some ⟨g, 0, none⟩) (G.bods.length + 1) cap)) ∧ Ext w tag (w3.setCell ⟨rb, 6, none⟩ (.slice (some ⟨g, 0, none⟩) (G.bods.length + 1) cap)) tag' := by
  have hrl := h.lt h.trd (by simp)
  have hg3 := h.g3
  obtain ⟨w1, hw1⟩ : ∃ w1, (w.alloc (.map #[] 0)).alloc (.cells #[.slice none 0 0, .map (some w.heap.size)] 201) = w1 := ⟨_, rfl⟩
  have hz1 : w1.heap.size = w.heap.size + 2 := by rw [← hw1]; simp
  have hk1 : ∀ b, b < w.heap.size → w1.heap[b]? = w.heap[b]? := fun b hb => by
    rw [← hw1, Below.heap_alloc _ _ b (by simp; omega), Below.heap_alloc _ _ b hb]
  have hm1 : KMap sk w1 w.heap.size (fun _ => none) 0 := by
    have := (KMap.made (enc := sk) w).same (w' := w1) (by rw [← hw1, Below.heap_alloc _ _ _ (by simp)])
    exact this
  have hb1 : w1.heap[w.heap.size + 1]? = some (.cells #[.slice none 0 0, .map (some w.heap.size)] 201) := by
    have := World.alloc_heap_new (w.alloc (.map #[] 0)) (.cells #[.slice none 0 0, .map (some w.heap.size)] 201)
    rw [World.size_alloc] at this
    rw [← hw1]; exact this
  obtain ⟨t1, ht1⟩ : ∃ t1, tagAt (tagAt tag w.heap.size (.lb (w.heap.size + 1))) (w.heap.size + 1) (.bd (w.heap.size + 1)) = t1 := ⟨_, rfl⟩
  have to1 : ∀ b, b < w.heap.size → t1 b = tag b := fun b hb => by rw [← ht1, tagAt_old _ (by omega), tagAt_old _ (by omega)]
  have tn1 : t1 w.heap.size = .lb (w.heap.size + 1) := by rw [← ht1, tagAt_old _ (by omega), tagAt_new]
  have tn2 : t1 (w.heap.size + 1) = .bd (w.heap.size + 1) := by rw [← ht1, tagAt_new]
  have tn3 : ∀ b, w.heap.size + 2 ≤ b → t1 b = .o := fun b hb => by
    rw [← ht1, tagAt_old _ (by omega), tagAt_old _ (by omega)]
    cases hq : tag b with
    | o => rfl
    | _ => exact absurd (h.tlt b (by rw [hq]; simp)).2 (by omega)
  have hto : ∀ b, t1 b ≠ .o → b < w1.heap.size := fun b hb => by
    by_cases e : w.heap.size + 2 ≤ b
    · exact absurd (tn3 b e) hb
    · omega
  have hrow : RowOk w1 t1 base 198 0 G.bV (G.bods.map ptrV) := h.brow.kept fun b hb => by
    have hl := h.lt hb (by simp)
    exact ⟨hk1 b hl, (to1 b hl).trans hb⟩
  obtain ⟨i0, hi, hy0, hy1, hy2⟩ := info_parts Tryz.infoBd
  obtain ⟨g, cap, w3, tag3, hr3, hrow3, o3, t3, p3, z3, b3, old3, new3⟩ := hrow.push Tryz.underlying65 hi hy0 hy1 hy2 rfl (by omega) (ptrV (w.heap.size + 1)) (by simp [Value.oneCell', ptrV]) 65 (by simpa using hlen) (by omega) hto
  rw [List.length_map] at hr3 hrow3
  have e3 : ∀ b, b < w.heap.size → tag b ≠ .row 0 → w3.heap[b]? = w.heap[b]? := fun b hb h2 => (b3 b (by omega) (by rw [to1 b hb]; exact h2)).trans (hk1 b hb)
  have hrb3 : w3.heap[rb]? = w.heap[rb]? := e3 rb hrl (by rw [h.trd]; simp)
  have hx : Ext w tag (w3.setCell ⟨rb, 6, none⟩ (.slice (some ⟨g, 0, none⟩) (G.bods.length + 1) cap)) tag3 := by
    refine ⟨o3.trans (by rw [← hw1]; rfl), t3.trans (by rw [← hw1]; rfl), p3.trans (by rw [← hw1]; rfl), by simp; omega, fun b hb => (old3 b (by omega)).trans (to1 b hb), fun b hb hbo => ?_⟩
    rw [Below.heap_setCell w3 ⟨rb, 6, none⟩ _ b (ne_tag hbo h.trd (by simp))]
    exact e3 b hb (by rw [hbo]; simp)
  have hc3 : w3.cell? ⟨rb, 6, none⟩ = some G.bV := (World.cell?_of_block (w := w) (a := ⟨rb, 6, none⟩) hrb3).trans h.bodC
  refine ⟨w1, hw1, g, cap, w3, hr3, hc3, (World.frozen?_of_block (w := w) (a := ⟨rb, 6, none⟩) hrb3).trans (h.frz _), tag3, ?_, hx⟩
  refine h.step (fun x => x = .row 0 ∨ x = .rd) hx (fun b hb h1 h2 => ?_) (fun b hb hn => ?_) ?_ (fun k hkk => .inl ⟨rfl, rfl, ?_⟩) (.inr ?_) (.inl ⟨rfl, rfl, by simp⟩) (.inl ⟨rfl, by simp⟩) (by simp) (by simp) (by simp) (fun a c hc => ?_) (fun a i hi => .inl ⟨hi, ?_⟩) (fun c hc => .inl hc)
  · rw [Below.heap_setCell w3 ⟨rb, 6, none⟩ _ b (fun e => h2 (by rw [e]; exact .inr h.trd))]
    exact e3 b hb (fun e => h2 (.inl e))
  · simp only [World.size_setCell]
    by_cases e : b < w1.heap.size
    · omega
    · exact new3 b (by omega) hn
  · rw [heap_setCell_same w3 rb 6 _ _ _ (hrb3.trans h.cell)]
    rfl
  · rcases hkk with rfl | rfl | rfl | rfl <;> simp
  · have e1 : (G.body (w.heap.size + 1) w.heap.size (.slice (some ⟨g, 0, none⟩) (G.bods.length + 1) cap)).bods.map ptrV = G.bods.map ptrV ++ [ptrV (w.heap.size + 1)] := by simp [RG.body]
    rw [e1]
    refine ⟨owns_same hrow3.row fun x hx => ?_, hrow3.tg⟩
    exact Below.heap_setCell w3 ⟨rb, 6, none⟩ _ x (ne_tag (hrow3.tg x hx) ((old3 rb (by omega)).trans ((to1 rb hrl).trans h.trd)) (by simp))
  · have hc' : putN G.B (w.heap.size + 1) { lm := w.heap.size, cv := .slice none 0 0, ins := [], labs := fun _ => none } a = some c := hc
    unfold putN at hc'
    split at hc'
    · rename_i e
      subst e
      cases hc'
      right
      have hnr : ∀ x, t1 x ≠ .rd → x < w1.heap.size → t1 x ≠ .row 0 → (w3.setCell ⟨rb, 6, none⟩ (.slice (some ⟨g, 0, none⟩) (G.bods.length + 1) cap)).heap[x]? = w1.heap[x]? := fun x hx hl hr => by
        rw [Below.heap_setCell w3 ⟨rb, 6, none⟩ _ x (fun e => hx (by have e : x = rb := e; rw [e, to1 rb hrl]; exact h.trd))]
        exact b3 x hl hr
      refine ⟨(hnr _ (by rw [tn2]; simp) (by omega) (by rw [tn2]; simp)).trans hb1, World.ownsRow_nil _ _ _ _, (fun x hx => by cases hx), ⟨fun _ => none, 0, hm1.same (hnr _ (by rw [tn1]; simp) (by omega) (by rw [tn1]; simp)), fun t => rfl⟩, (old3 _ (by omega)).trans tn2, (old3 _ (by show w.heap.size ≤ _; omega)).trans tn1⟩
    · exact .inl ⟨hc', by simp, by simp, by simp⟩
  · have := h.ins a i hi
    rw [Below.heap_setCell w3 ⟨rb, 6, none⟩ _ a (ne_tag this.2 h.trd (by simp))]
    exact e3 a (h.lt this.2 (by simp)) (by rw [this.2]; simp)
end
def BeginP (n0 : Nat) (ts : List Tx) (G G' : RG) : Prop := ts.length = 1 ∧ ∃ G1 a lm v, DeclP 116 ts G G1 ∧ n0 ≤ a ∧ G' = G1.body a lm v
def BeginE (ts : List Tx) (G : RG) (e : Int) : Prop := (ts.length ≠ 1 ∧ e = 2) ∨ (ts.length = 1 ∧ DeclE 116 ts G e)
set_option maxRecDepth 100000 in
set_option maxHeartbeats 1000000 in
theorem begin_any {w : World} {tag : Nat → RT} {base rb nb lb : Nat} {G : RG} (h : RdW w tag base rb nb lb G) (a : Option Addr) (n cap : Nat) (ts : List Tx) (hn : ts.length = n) (hs : WsT w tag a ts) (hb : (G.nms 116).length + n < 1048576) (hbb : G.bods.length < 1048576) :
    Calls Tryz.prog 105 #[ptrV rb, .slice a n cap] w (Out w tag base rb nb lb G.line (BeginP w.heap.size ts G) (BeginE ts G)) := by
  have cl := h.lineC
  have hD := declare_any h 116 (.inr (.inr (.inr (.inr rfl)))) a n cap ts hn hs hb
  have HX := hide (Ext.refl w tag)
  unfold ptrV at hD ⊢
  replace hn := hide hn
  by_cases h1 : n = 1
  · subst h1
    clear h hs hb
    go_enter Tryz.func105, Tryz.ntmps105
    go_wp2_with fail
    refine (demand_yes rb 2 _).mono ?_
    rintro e w1 ⟨rfl, rfl⟩
    go_wp2_with fail
    refine hD.mono ?_
    rintro e w2 (⟨t2, G2, rfl, hR, hX, hP⟩ | ⟨t2, e2, rfl, hX, hE⟩)
    · obtain ⟨w3, hw3, g, c3, w4, hrun, c4, f4, t4, hR4, hX4⟩ := hR.body (by rw [hP.2.2.2.2.2.2.2.1]; exact hbb)
      have HE := hide (⟨hP, hR4, hX4, hX⟩ : _ ∧ _ ∧ _ ∧ _)
      have c6 := hR.bodC
      obtain ⟨ra, rcap, hV⟩ := row_ptr hR.brow
      rw [List.length_map] at hV
      have hrl := hR.lt hR.trd (by simp)
      rw [hV] at c6 hrun c4
      have hmm := @run_makeMap Tryz.prog
      replace hw3 := hide hw3
      replace hV := hide hV
      have hz3 : Hid (w3.heap.size = w2.heap.size + 2) := by unfold Hid; rw [← hw3.out]; simp
      rw [← hw3.out] at hrun
      unfold ptrV at hrun
      have hz : ((w2.alloc (.map #[] 0)).alloc (.cells #[.slice none 0 0, .map (some w2.heap.size)] 201)).heap.size = w2.heap.size + 1 + 1 := by simp
      rw [hz] at hrun
      replace hz := hide hz
      clear hR hP hX hR4 hX4
      go_wp2_with (at_builtin; refine wpList_append_run rfl _ _ _ rfl rfl rfl rfl hrun ?_)
      go_end0
      obtain ⟨hP, hR4, hX4, hX⟩ := HE.out
      exact .inl ⟨t4, _, rfl, hR4, hX.trans hX4, hn.out, G2, _, _, _, hP, by have := hX.size; omega, rfl⟩
    · exact ⟨rfl, .inr ⟨t2, e2, rfl, hX, .inr ⟨hn.out, hE⟩⟩⟩
  · have h1' : ((n : Int) == 1) = false := by simp; omega
    clear h hs hb hD
    go_enter Tryz.func105, Tryz.ntmps105
    go_wp2_with fail
    refine (demand_no 2 cl).mono ?_
    rintro e w1 ⟨rfl, rfl⟩
    exact ⟨rfl, .inr ⟨tag, 2, rfl, HX.out, .inl ⟨by have := hn.out; omega, rfl⟩⟩⟩
end Go.Proofs.YtlpdomgedaockaaGreatDoor
namespace Go.Proofs.YtlpdomgedaockaaGreatDoor
open Go.RowKit Go.Proofs.Cod
def RG.later (G : RG) (c : CloC) (v : Value) : RG := { G with las := G.las ++ [c], lV := v }
section
variable {w w' : World} {tag tag' : Nat → RT} {base rb nb lb : Nat} {G : RG}
theorem five_made (w : World) (A B C D E : Obj) : ∃ w5, ((((w.alloc A).alloc B).alloc C).alloc D).alloc E = w5 ∧ w5.heap.size = w.heap.size + 5 ∧ (∀ b, b < w.heap.size → w5.heap[b]? = w.heap[b]?) ∧
    w5.heap[w.heap.size]? = some A ∧ w5.heap[w.heap.size + 1]? = some B ∧ w5.heap[w.heap.size + 1 + 1]? = some C ∧ w5.heap[w.heap.size + 1 + 1 + 1]? = some D ∧ w5.heap[w.heap.size + 1 + 1 + 1 + 1]? = some E ∧ w5.os = w.os ∧ w5.tape = w.tape ∧ w5.output = w.output := by
  obtain ⟨w1, h1⟩ : ∃ x, w.alloc A = x := ⟨_, rfl⟩
  obtain ⟨w2, h2⟩ : ∃ x, w1.alloc B = x := ⟨_, rfl⟩
  obtain ⟨w3, h3⟩ : ∃ x, w2.alloc C = x := ⟨_, rfl⟩
  obtain ⟨w4, h4⟩ : ∃ x, w3.alloc D = x := ⟨_, rfl⟩
  obtain ⟨w6, h6⟩ : ∃ x, w4.alloc E = x := ⟨_, rfl⟩
  rw [h1, h2, h3, h4, h6]
  have z1 : w1.heap.size = w.heap.size + 1 := by rw [← h1]; simp
  have z2 : w2.heap.size = w.heap.size + 1 + 1 := by rw [← h2, World.size_alloc, z1]
  have z3 : w3.heap.size = w.heap.size + 1 + 1 + 1 := by rw [← h3, World.size_alloc, z2]
  have z4 : w4.heap.size = w.heap.size + 1 + 1 + 1 + 1 := by rw [← h4, World.size_alloc, z3]
  have z6 : w6.heap.size = w.heap.size + 5 := by rw [← h6, World.size_alloc, z4]
  have a1 : w1.heap[w.heap.size]? = some A := by rw [← h1]; exact World.alloc_heap_new w A
  have a2 : w2.heap[w.heap.size + 1]? = some B := by rw [← h2, ← z1]; exact World.alloc_heap_new w1 B
  have a3 : w3.heap[w.heap.size + 1 + 1]? = some C := by rw [← h3, ← z2]; exact World.alloc_heap_new w2 C
  have a4 : w4.heap[w.heap.size + 1 + 1 + 1]? = some D := by rw [← h4, ← z3]; exact World.alloc_heap_new w3 D
  have a6 : w6.heap[w.heap.size + 1 + 1 + 1 + 1]? = some E := by rw [← h6, ← z4]; exact World.alloc_heap_new w4 _
  have b1 : ∀ k, k < w.heap.size → w1.heap[k]? = w.heap[k]? := fun k hk => by rw [← h1]; exact Below.heap_alloc w A k hk
  have b2 : ∀ k, k < w1.heap.size → w2.heap[k]? = w1.heap[k]? := fun k hk => by rw [← h2]; exact Below.heap_alloc w1 B k hk
  have b3 : ∀ k, k < w2.heap.size → w3.heap[k]? = w2.heap[k]? := fun k hk => by rw [← h3]; exact Below.heap_alloc w2 C k hk
  have b4 : ∀ k, k < w3.heap.size → w4.heap[k]? = w3.heap[k]? := fun k hk => by rw [← h4]; exact Below.heap_alloc w3 D k hk
  have b6 : ∀ k, k < w4.heap.size → w6.heap[k]? = w4.heap[k]? := fun k hk => by rw [← h6]; exact Below.heap_alloc w4 _ k hk
  refine ⟨_, rfl, by simp [z6], fun b hb => ?_, ?_, ?_, ?_, ?_, ?_, ?_, ?_, ?_⟩
  · rw [b6 b (by omega), b4 b (by omega), b3 b (by omega), b2 b (by omega), b1 b hb]
  · rw [b6 _ (by omega), b4 _ (by omega), b3 _ (by omega), b2 _ (by omega)]; exact a1
  · rw [b6 _ (by omega), b4 _ (by omega), b3 _ (by omega)]; exact a2
  · rw [b6 _ (by omega), b4 _ (by omega)]; exact a3
  · rw [b6 _ (by omega)]; exact a4
  · exact a6
  · rw [← h6, ← h4, ← h3, ← h2, ← h1]; rfl
  · rw [← h6, ← h4, ← h3, ← h2, ← h1]; rfl
  · rw [← h6, ← h4, ← h3, ← h2, ← h1]; rfl
theorem RdW.later (h : RdW w tag base rb nb lb G) (hlen : G.las.length < 1048576) (ia tb : Nat) (kd : Int) (t : Tx) :
    ∃ w5, ((((w.alloc (.cells #[ptrV ia] 202)).alloc (.cells #[.map (some tb)] 66)).alloc (.cells #[.int .u8 kd] 5)).alloc (.cells #[.string (bs t)] 9)).alloc (.cells #[.int .i64 G.line] 3) = w5 ∧ w5.heap.size = w.heap.size + 1 + 1 + 1 + 1 + 1 ∧ w5.cell? ⟨rb, 9, none⟩ = some G.lV ∧
      ∃ g cap w3, (Builtin.append_ #[68, 68] 68 #[G.lV, .slice (some ⟨w5.heap.size, 0, none⟩) 1 1]).run Tryz.prog (w5.alloc (.cells #[.func (.func 160) #[] #[ptrV (w.heap.size + 1), ptrV (w.heap.size + 1 + 1), ptrV (w.heap.size + 1 + 1 + 1), ptrV (w.heap.size + 1 + 1 + 1 + 1), ptrV w.heap.size]] 1)) = .ok (.slice (some ⟨g, 0, none⟩) (G.las.length + 1) cap) w3 ∧
      w3.cell? ⟨rb, 9, none⟩ = some G.lV ∧ w3.frozen? ⟨rb, 9, none⟩ = false ∧
      ∃ tag', RdW (w3.setCell ⟨rb, 9, none⟩ (.slice (some ⟨g, 0, none⟩) (G.las.length + 1) cap)) tag' base rb nb lb (G.later ⟨ia, tb, kd, t, G.line, w.heap.size + 1, w.heap.size + 1 + 1, w.heap.size + 1 + 1 + 1, w.heap.size + 1 + 1 + 1 + 1, w.heap.size⟩ (.slice (some ⟨g, 0, none⟩) (G.las.length + 1) cap)) ∧ Ext w tag (w3.setCell ⟨rb, 9, none⟩ (.slice (some ⟨g, 0, none⟩) (G.las.length + 1) cap)) tag' := by
  have hrl := h.lt h.trd (by simp)
  have hg3 := h.g3
  obtain ⟨w5, hw5, hz5, hk5, d4, d0, d1, d2, d3, o5, t5, p5⟩ := five_made w (.cells #[ptrV ia] 202) (.cells #[.map (some tb)] 66) (.cells #[.int .u8 kd] 5) (.cells #[.string (bs t)] 9) (.cells #[.int .i64 G.line] 3)
  obtain ⟨t1, ht1⟩ : ∃ t1 : Nat → RT, (fun b => if w.heap.size ≤ b ∧ b < w.heap.size + 5 then RT.clo else tag b) = t1 := ⟨_, rfl⟩
  have to1 : ∀ b, b < w.heap.size → t1 b = tag b := fun b hb => by rw [← ht1]; exact if_neg (by omega)
  have tn1 : ∀ b, w.heap.size ≤ b → b < w.heap.size + 5 → t1 b = .clo := fun b hb hb' => by rw [← ht1]; exact if_pos ⟨hb, hb'⟩
  have tn3 : ∀ b, w.heap.size + 5 ≤ b → t1 b = .o := fun b hb => by
    rw [← ht1]
    have e : (if w.heap.size ≤ b ∧ b < w.heap.size + 5 then RT.clo else tag b) = tag b := if_neg (by omega)
    show (if w.heap.size ≤ b ∧ b < w.heap.size + 5 then RT.clo else tag b) = .o
    rw [e]
    cases hq : tag b with
    | o => rfl
    | _ => exact absurd (h.tlt b (by rw [hq]; simp)).2 (by omega)
  have hto : ∀ b, t1 b ≠ .o → b < w5.heap.size := fun b hb => by
    by_cases e : w.heap.size + 5 ≤ b
    · exact absurd (tn3 b e) hb
    · omega
  have hrow : RowOk w5 t1 base 1 1 G.lV (G.las.map CloC.val) := h.lrow.kept fun b hb => by
    have hl := h.lt hb (by simp)
    exact ⟨hk5 b hl, (to1 b hl).trans hb⟩
  obtain ⟨c, hc⟩ : ∃ c : CloC, (⟨ia, tb, kd, t, G.line, w.heap.size + 1, w.heap.size + 1 + 1, w.heap.size + 1 + 1 + 1, w.heap.size + 1 + 1 + 1 + 1, w.heap.size⟩ : CloC) = c := ⟨_, rfl⟩
  have hcv : c.val = .func (.func 160) #[] #[ptrV (w.heap.size + 1), ptrV (w.heap.size + 1 + 1), ptrV (w.heap.size + 1 + 1 + 1), ptrV (w.heap.size + 1 + 1 + 1 + 1), ptrV w.heap.size] := by rw [← hc]; rfl
  rw [hc, ← hcv]
  obtain ⟨i0, hi, hy0, hy1, hy2⟩ := info_parts Tryz.infoFn
  obtain ⟨g, cap, w3, tag3, hr3, hrow3, o3, t3, p3, z3, b3, old3, new3⟩ := hrow.push Tryz.underlying68 hi hy0 hy1 hy2 rfl (by omega) c.val (by rw [hcv]; rfl) 68 (by simpa using hlen) (by omega) hto
  rw [List.length_map] at hr3 hrow3
  have e3 : ∀ b, b < w.heap.size → tag b ≠ .row 1 → w3.heap[b]? = w.heap[b]? := fun b hb h2 => (b3 b (by omega) (by rw [to1 b hb]; exact h2)).trans (hk5 b hb)
  have hrb3 : w3.heap[rb]? = w.heap[rb]? := e3 rb hrl (by rw [h.trd]; simp)
  have hx : Ext w tag (w3.setCell ⟨rb, 9, none⟩ (.slice (some ⟨g, 0, none⟩) (G.las.length + 1) cap)) tag3 := by
    refine ⟨o3.trans o5, t3.trans t5, p3.trans p5, by simp; omega, fun b hb => (old3 b (by omega)).trans (to1 b hb), fun b hb hbo => ?_⟩
    rw [Below.heap_setCell w3 ⟨rb, 9, none⟩ _ b (ne_tag hbo h.trd (by simp))]
    exact e3 b hb (by rw [hbo]; simp)
  have hc5 : w5.cell? ⟨rb, 9, none⟩ = some G.lV := (World.cell?_of_block (w := w) (a := ⟨rb, 9, none⟩) (hk5 rb hrl)).trans h.latC
  have hc3 : w3.cell? ⟨rb, 9, none⟩ = some G.lV := (World.cell?_of_block (w := w) (a := ⟨rb, 9, none⟩) hrb3).trans h.latC
  refine ⟨w5, hw5, by omega, hc5, g, cap, w3, hr3, hc3, (World.frozen?_of_block (w := w) (a := ⟨rb, 9, none⟩) hrb3).trans (h.frz _), tag3, ?_, hx⟩
  refine h.step (fun x => x = .row 1 ∨ x = .rd) hx (fun b hb h1 h2 => ?_) (fun b hb hn => ?_) ?_ (fun k hkk => .inl ⟨rfl, rfl, ?_⟩) (.inl ⟨rfl, rfl, by simp⟩) (.inr ?_) (.inl ⟨rfl, by simp⟩) (by simp) (by simp) (by simp) (fun a d hd => .inl ⟨hd, by simp, by simp, by simp⟩) (fun a i hi => .inl ⟨hi, ?_⟩) (fun d hd => ?_)
  · rw [Below.heap_setCell w3 ⟨rb, 9, none⟩ _ b (fun e => h2 (by rw [e]; exact .inr h.trd))]
    exact e3 b hb (fun e => h2 (.inl e))
  · simp only [World.size_setCell]
    by_cases e : b < w5.heap.size
    · omega
    · exact new3 b (by omega) hn
  · rw [heap_setCell_same w3 rb 9 _ _ _ (hrb3.trans h.cell)]
    rfl
  · rcases hkk with rfl | rfl | rfl | rfl <;> simp
  · have e1 : (G.later c (.slice (some ⟨g, 0, none⟩) (G.las.length + 1) cap)).las.map CloC.val = G.las.map CloC.val ++ [c.val] := by simp [RG.later]
    rw [e1]
    refine ⟨owns_same hrow3.row fun x hx => ?_, hrow3.tg⟩
    exact Below.heap_setCell w3 ⟨rb, 9, none⟩ _ x (ne_tag (hrow3.tg x hx) ((old3 rb (by omega)).trans ((to1 rb hrl).trans h.trd)) (by simp))
  · have := h.ins a i hi
    rw [Below.heap_setCell w3 ⟨rb, 9, none⟩ _ a (ne_tag this.2 h.trd (by simp))]
    exact e3 a (h.lt this.2 (by simp)) (by rw [this.2]; simp)
  · have hd : d ∈ G.las ++ [c] := hd
    rcases List.mem_append.1 hd with e | e
    · exact .inl e
    · right
      obtain rfl := List.mem_singleton.1 e
      have hnr : ∀ x, w.heap.size ≤ x → x < w.heap.size + 5 → (w3.setCell ⟨rb, 9, none⟩ (.slice (some ⟨g, 0, none⟩) (G.las.length + 1) cap)).heap[x]? = w5.heap[x]? ∧ tag3 x = .clo := fun x hx hx' => by
        rw [Below.heap_setCell w3 ⟨rb, 9, none⟩ _ x (by show x ≠ rb; omega)]
        exact ⟨b3 x (by omega) (by rw [tn1 x hx hx']; simp), (old3 x (by omega)).trans (tn1 x hx hx')⟩
      rw [← hc]
      have q0 := hnr (w.heap.size + 1) (by omega) (by omega)
      have q1 := hnr (w.heap.size + 1 + 1) (by omega) (by omega)
      have q2 := hnr (w.heap.size + 1 + 1 + 1) (by omega) (by omega)
      have q3 := hnr (w.heap.size + 1 + 1 + 1 + 1) (by omega) (by omega)
      have q4 := hnr w.heap.size (by omega) (by omega)
      exact ⟨q0.1.trans d0, q1.1.trans d1, q2.1.trans d2, q3.1.trans d3, q4.1.trans d4, q0.2, q1.2, q2.2, q3.2, q4.2⟩
end
theorem cell_four (w : World) (A B C D : Obj) {b : Nat} (i : Nat) (h : b < w.heap.size) : ((((w.alloc A).alloc B).alloc C).alloc D).cell? ⟨b, i, none⟩ = w.cell? ⟨b, i, none⟩ := by
  refine World.cell?_of_block (w := w) (a := ⟨b, i, none⟩) ?_
  show ((((w.alloc A).alloc B).alloc C).alloc D).heap[b]? = w.heap[b]?
  rw [Below.heap_alloc _ _ b (by simp; omega), Below.heap_alloc _ _ b (by simp; omega), Below.heap_alloc _ _ b (by simp; omega), Below.heap_alloc _ _ b h]
def LaterP (ia tb : Nat) (kd : Int) (t : Tx) (G G' : RG) : Prop := ∃ c v, c.ia = ia ∧ c.tb = tb ∧ c.kd = kd ∧ c.nm = t ∧ c.ln = G.line ∧ G' = G.later c v
set_option maxRecDepth 100000 in
set_option maxHeartbeats 1000000 in
theorem fillLater_any {w : World} {tag : Nat → RT} {base rb nb lb : Nat} {G : RG} (h : RdW w tag base rb nb lb G) (hlen : G.las.length < 1048576) (ia tb : Nat) (kd : Int) (t : Tx) :
    Calls Tryz.prog 148 #[ptrV rb, ptrV ia, .map (some tb), .int .u8 kd, .string (bs t)] w fun en w' => en = .returned (.tuple #[]) ∧ ∃ tag' G', RdW w' tag' base rb nb lb G' ∧ Ext w tag w' tag' ∧ LaterP ia tb kd t G G' := by
  have cl := h.lineC
  have hrl := h.lt h.trd (by simp)
  have cl4 := (cell_four w (.cells #[ptrV ia] 202) (.cells #[.map (some tb)] 66) (.cells #[.int .u8 kd] 5) (.cells #[.string (bs t)] 9) 0 hrl).trans cl
  have hmf : ∀ (fn : Fn) (first cap : Array Value) (w : World), (Instr.makeFunc fn first cap).run Tryz.prog w = .ok (.func fn first cap) w := fun _ _ _ _ => rfl
  obtain ⟨w5, hw5, hz5, c5, g, cap, w3, hrun, c3, f3, tag', hR, hX⟩ := h.later hlen ia tb kd t
  obtain ⟨ra, rcap, hV⟩ := row_ptr h.lrow
  rw [List.length_map] at hV
  rw [hV] at c5 hrun c3
  have HE := hide (⟨hR, hX⟩ : _ ∧ _)
  replace hV := hide hV
  unfold ptrV at *
  rw [hz5, ← hw5] at hrun
  rw [← hw5] at c5
  clear h hR hX hz5 hw5
  go_enter Tryz.func148, Tryz.ntmps148
  go_wp2_with (at_builtin; refine wpList_append_run rfl _ _ _ rfl rfl rfl rfl hrun ?_)
  go_end0
  exact ⟨rfl, tag', _, HE.out.1, HE.out.2, _, _, rfl, rfl, rfl, rfl, rfl, rfl⟩
end Go.Proofs.YtlpdomgedaockaaGreatDoor
