import Derived.Test.YtlpdomgedaockaaGreatDoorOl13
import Derived.Test.YtlpdomgedaockaaGreatDoorOo5
set_option linter.unusedVariables false
set_option linter.unusedSimpArgs false
namespace Go.Proofs.YtlpdomgedaockaaGreatDoor
open Go.RowKit Go.Shelf Go.Proofs.Cod
attribute [local go_sem] Oper.semAt_some
structure LineJ (w : World) (base rb nb lb n : Nat) (t : Tx) (i : Nat) (W : World) (tag : Nat → RT) (G : RG) (s : PS) (X : List LB) : Prop where
  rd : RdW W tag base rb nb lb G
  link : Link G nb s X
  ok : PSok s
  lines : linesT ((splitT 10 t).take i) 0 PS.new = .ok s
  line : G.line = i
  las : G.las.length ≤ 3 * i
  own : ∀ b, n ≤ b → b < n + 7 → tag b = .o
  cr : W.heap[n]? = some (.cells #[ptrV rb] 60)
  cf : W.heap[n + 1]? = some (.cells #[.int .i64 0, .int .i64 0] 63)
  low : Below base w W
structure LineX (w : World) (base n : Nat) (t : Tx) (chain : List PanicEntry) (W : World) : Prop where
  ex : ∃ e l, chain = faultC e l ∧ linesT (splitT 10 t) 0 PS.new = .error (e, l)
  cf : W.heap[n + 1]? = some (.cells #[.int .i64 0, .int .i64 0] 63)
  low : Below base w W
theorem LineJ.free {w : World} {base rb nb lb n : Nat} {t : Tx} {i : Nat} {W W' : World} {tag : Nat → RT} {G : RG} {s : PS} {X : List LB} (h : LineJ w base rb nb lb n t i W tag G s X) (hbase : base ≤ n) (hsame : ∀ b, b < W.heap.size → b ∉ [n + 5, n + 6, n + 2] → W'.heap[b]? = W.heap[b]?) (hs : W.heap.size ≤ W'.heap.size) (h1 : W'.os = W.os) (h2 : W'.tape = W.tape) (h3 : W'.output = W.output) : LineJ w base rb nb lb n t i W' tag G s X := by
  have hnl : n < W.heap.size := (Array.getElem?_eq_some_iff.1 h.cr).1
  have hnl1 : n + 1 < W.heap.size := (Array.getElem?_eq_some_iff.1 h.cf).1
  refine ⟨h.rd.keepO (fun b hb hor => hsame b hb (fun hm => ?_)) hs, h.link, h.ok, h.lines, h.line, h.las, h.own, (hsame n hnl (by simp)).trans h.cr, (hsame (n + 1) hnl1 (by simp)).trans h.cf, ⟨h1.trans h.low.os, h2.trans h.low.tape, h3.trans h.low.output, Nat.le_trans h.low.size hs, fun b hb => (hsame b (by omega) (fun hm => ?_)).trans (h.low.block b hb)⟩⟩
  · simp only [List.mem_cons, List.not_mem_nil, or_false] at hm
    rcases hor with e | e
    · exact e (h.own b (by omega) (by omega))
    · omega
  · simp only [List.mem_cons, List.not_mem_nil, or_false] at hm
    omega
theorem piece_len {c : UInt8} : ∀ {t : Tx} {i : Nat} {p : Tx}, (splitT c t)[i]? = some p → p.length ≤ t.length
  | [], i, p, h => by
    have := List.mem_of_getElem? h
    simp [splitT] at this
    subst this; simp
  | b :: l, i, p, h => by
    unfold splitT at h
    split at h
    · cases i with
      | zero => cases h; simp
      | succ i => have := piece_len (t := l) (i := i) (p := p) (by simpa using h); simp; omega
    · cases hq : splitT c l with
      | nil => exact absurd hq (splitT_ne c l)
      | cons q qs =>
        rw [hq] at h
        cases i with
        | zero =>
          cases h
          have := piece_len (t := l) (i := 0) (p := q) (by rw [hq]; rfl)
          simp; omega
        | succ i =>
          have := piece_len (t := l) (i := i + 1) (p := p) (by rw [hq]; simpa using h)
          simp; omega
theorem words_le (t : Tx) : (wordsT t).length ≤ t.length + 1 := by
  unfold wordsT
  have h1 := List.length_filter_le (fun p : Tx => !p.isEmpty) (splitT 32 (cutB 35 t))
  have h2 := splitT_len 32 (cutB 35 t)
  have h3 := cutB_len 35 t
  omega
theorem word_len {t p : Tx} (h : p ∈ wordsT t) : p.length ≤ t.length := by
  unfold wordsT at h
  obtain ⟨i, hi⟩ := List.getElem?_of_mem (List.mem_filter.1 h).1
  have := piece_len hi
  have := cutB_len 35 t
  omega
theorem keepB_of {W W' : World} {tag tag' : Nat → RT} {n : Nat} (hx : Ext W tag W' tag') (hlt : n + 6 < W.heap.size) (hown : ∀ b, n ≤ b → b < n + 7 → tag b = .o) : KeepB [n + 5, n + 6, n + 1 + 1 + 1, n + 1 + 1, n + 1 + 1 + 2] W W' := fun b hb => by
  simp only [List.mem_cons, List.not_mem_nil, or_false] at hb
  exact hx.block b (by omega) (hown b (by omega) (by omega))
theorem LineJ.count {w : World} {base rb nb lb n : Nat} {t : Tx} {i : Nat} {W w5 : World} {tag : Nat → RT} {G : RG} {s : PS} {X : List LB} (h : LineJ w base rb nb lb n t i W tag G s X) (hb : Below (W.setCell ⟨rb, 0, none⟩ (.int .i64 ((i : Int) + 1))).heap.size (W.setCell ⟨rb, 0, none⟩ (.int .i64 ((i : Int) + 1))) w5) :
    RdW w5 tag base rb nb lb { G with line := (i : Int) + 1 } ∧ Ext W tag w5 tag ∧ Link { G with line := (i : Int) + 1 } nb s X := by
  obtain ⟨h1, h2⟩ := h.rd.setLine ((i : Int) + 1)
  exact ⟨h1.below hb, h2.trans (.of_below hb), h.link.line _⟩
theorem LineJ.ext {w : World} {base rb nb lb n : Nat} {t : Tx} {i j : Nat} {W W' : World} {tag tag' : Nat → RT} {G G' : RG} {s s' : PS} {X X' : List LB} (h : LineJ w base rb nb lb n t i W tag G s X) (hbase : base ≤ n) (hlt : n + 6 < W.heap.size) (hx : Ext W tag W' tag') (hR : RdW W' tag' base rb nb lb G') (hL : Link G' nb s' X') (hs : PSok s') (hl : linesT ((splitT 10 t).take j) 0 PS.new = .ok s') (hn : G'.line = j) (hla : G'.las.length ≤ 3 * j) : LineJ w base rb nb lb n t j W' tag' G' s' X' := by
  have hlow : ∀ b, b < base → W'.heap[b]? = W.heap[b]? := fun b hb => hx.block b (by omega) (h.rd.low hb)
  exact ⟨hR, hL, hs, hl, hn, hla, fun b hb hb' => (hx.tags b (by omega)).trans (h.own b hb hb'), (hx.block n (by omega) (h.own n (by omega) (by omega))).trans h.cr, (hx.block (n + 1) (by omega) (h.own (n + 1) (by omega) (by omega))).trans h.cf, ⟨hx.os.trans h.low.os, hx.tape.trans h.low.tape, hx.output.trans h.low.output, Nat.le_trans h.low.size hx.size, fun b hb => (hlow b hb).trans (h.low.block b hb)⟩⟩
theorem LineJ.fault {w : World} {base rb nb lb n : Nat} {t : Tx} {i : Nat} {W W' : World} {tag tag' : Nat → RT} {G : RG} {s : PS} {X : List LB} (h : LineJ w base rb nb lb n t i W tag G s X) (hbase : base ≤ n) (hlt : n + 6 < W.heap.size) (hx : Ext W tag W' tag') {e l : Int} (he : linesT (splitT 10 t) 0 PS.new = .error (e, l)) : LineX w base n t (faultC e l) W' := by
  have hlow : ∀ b, b < base → W'.heap[b]? = W.heap[b]? := fun b hb => hx.block b (by omega) (h.rd.low hb)
  exact ⟨⟨e, l, rfl, he⟩, (hx.block (n + 1) (by omega) (h.own (n + 1) (by omega) (by omega))).trans h.cf, ⟨hx.os.trans h.low.os, hx.tape.trans h.low.tape, hx.output.trans h.low.output, Nat.le_trans h.low.size hx.size, fun b hb => (hlow b hb).trans (h.low.block b hb)⟩⟩
set_option maxRecDepth 100000 in
set_option maxHeartbeats 2000000 in
theorem read_any {w : World} {tag0 : Nat → RT} {base rb nb lb : Nat} (h : RdW w tag0 base rb nb lb RG.new) (t : Tx) (ht : t.length ≤ 3000) :
    Calls Tryz.prog 22 #[ptrV rb, .string (bs t)] w (ReadR w base rb t) := by
  have hmf : ∀ (fn : Fn) (first cap : Array Value) (w : World), (Instr.makeFunc fn first cap).run Tryz.prog w = .ok (.func fn first cap) w := fun _ _ _ _ => rfl
  unfold ptrV
  refine (callsIn_wide (n := 9)).1 ?_
  refine callsIn_of_wpAt Tryz.func22 rfl trivial ?_ rfl
  simp only [Tryz.ntmps22, List.size_toArray, List.length_cons, List.length_nil, Nat.reduceAdd, Nat.reduceSub, Array.replicate_succ, Array.replicate_zero, List.push_toArray, List.append_toArray, List.nil_append, List.cons_append]
  refine wpAt_seq (wpAt_of ?_)
  gi_wp2
  refine wpAt_seq (wpAt_of ?_)
  gi_wp2
  refine wpAt_seq (wpAt_seq (wpAt_of ?_))
  gi_wp2_with (refine ⟨trivial, ?_⟩; gi_at_call 46; refine (callsIn_wide.2 (splitSeqT_any t 10 _)).mono ?_; rintro e w2 ⟨rfl, rfl⟩)
  refine wpAt_block ?_
  obtain ⟨W0, hW0, hz0, hk0, k0, k1, k2, k3, k4, o0, t0, p0⟩ := five_made w (.cells #[.pointer (some ⟨rb, 0, none⟩)] 60) (.cells #[.int .i64 0, .int .i64 0] 63) (.cells #[.string (bs t)] 9) (.cells #[.string (bs [10])] 9) (.cells #[.int .i64 0] 3)
  rw [hW0]
  clear hW0
  have hg3 := h.g3
  have hJ0 : LineJ w base rb nb lb w.heap.size t 0 W0 tag0 RG.new PS.new [] := by
    refine ⟨h.keepO (fun b hb _ => hk0 b hb) (by omega), Link.new nb, ⟨rfl, fun k => by simp [PS.new]⟩, rfl, rfl, by simp [RG.new], fun b hb _ => ?_, k0, k1, ⟨o0, t0, p0, by omega, fun b hb => hk0 b (by omega)⟩⟩
    cases hq : tag0 b with
    | o => rfl
    | _ => exact absurd (h.tlt b (by rw [hq]; simp)).2 (by omega)
  refine wpAt_split (fnd := Tryz.f22) Tryz.func22 (w.heap.size + 1 + 1 + 1) (w.heap.size + 1 + 1) (w.heap.size + 1 + 1 + 2) 10 t rfl (by omega) (by simp [World.cell?, k3]) (by simp [World.cell?, k2]) (by simp [World.cell?, k4]) (by simp [World.frozen?, k2]) (by omega) (by omega)
    (fun i W => ∃ tag G s X, LineJ w base rb nb lb w.heap.size t i W tag G s X)
    (LineX w base w.heap.size t) ?free ?start (fun p => { tmps := #[.pointer (some ⟨rb, 0, none⟩), .string (bs t), .pointer (some ⟨w.heap.size, 0, none⟩), undef, .pointer (some ⟨w.heap.size + 1, 0, none⟩), .string (bs p), undef, undef, undef, .func (.func 45) #[] #[.pointer (some ⟨w.heap.size + 1, 0, none⟩)], .string (bs t), .func (.func 121) #[] #[.pointer (some ⟨w.heap.size + 1 + 1 + 1, 0, none⟩), .pointer (some ⟨w.heap.size + 1 + 1, 0, none⟩), .pointer (some ⟨w.heap.size + 1 + 1 + 2, 0, none⟩)], .string (bs p), undef, undef, undef, undef, undef, undef, undef, undef, undef, undef, undef, undef, undef, undef, undef, undef, undef, undef, undef, undef, undef, undef, undef, undef, undef, undef, undef, undef, undef, undef, undef, undef, undef, undef], defers := [] }) ?assign ?body ?done ?panic
  case assign =>
    intro l p W K hK
    gi_wp2
    exact hK
  case start => exact ⟨_, _, _, _, hJ0⟩
  case free =>
    rintro i W W' ⟨tag, G, s, X, hJ⟩ hsame hsz h1 h2 h3
    rw [hz0] at hsame
    exact ⟨tag, G, s, X, hJ.free hg3 hsame hsz h1 h2 h3⟩
  case body =>
    rintro l i p W ⟨tag, G, s, X, hJ⟩ hp hlt
    have hzW : w.heap.size + 6 < W.heap.size := by omega
    have hil : i < (splitT 10 t).length := (List.getElem?_eq_some_iff.1 hp).1
    have hil2 := splitT_len 10 t
    have hpl := piece_len hp
    have cr : W.cell? ⟨w.heap.size, 0, none⟩ = some (.pointer (some ⟨rb, 0, none⟩)) := by simp [World.cell?, hJ.cr, ptrV]
    have cl := hJ.rd.lineC
    rw [hJ.line] at cl
    have fl := hJ.rd.frz 0
    have hwr : wrap64 ((i : Int) + 1) = (i : Int) + 1 := IntWalk.wrap64_in _ (by omega)
    have HS : Hid (∀ u : World, Calls Tryz.prog 47 #[.string (bs p)] u fun e w' => ∃ v, e = .returned v ∧ w'.ownsRow u.heap.size 9 1 v (wordsT p).length ((wordsT p).map strV) ∧ Below u.heap.size u w') := fun u => split_any p u (by omega)
    have HL := hide (linesT_take hp hJ.lines)
    have hrn : Hid (rb ≠ w.heap.size) := fun e => by have := hJ.own rb (by omega) (by omega); rw [hJ.rd.trd] at this; cases this
    have hzz := hide hz0
    have H := hide hJ
    rw [hz0]
    cases hw : wordsT p with
    | nil =>
      rw [hw] at HS
      have hwd := hide hw
      clear hw hJ h hJ0 k0 k1 k2 k3 k4 hk0 hz0 hp hil2 hlt
      gi_wp2_with (refine ⟨trivial, rfl, ?_⟩; gi_at_call 47; refine (CallsIn.inRound l (callsIn_wide.2 (HS.out _))).mono ?_; rintro e w5 ⟨v, rfl, hrow, hb5⟩; obtain ⟨va, vcap, rfl⟩ := owns_len hrow)
      have hJ := H.out
      obtain ⟨g1, g2, g3⟩ := hJ.count hb5
      refine ⟨keepB_of g2 hzW hJ.own, tag, _, s, X, hJ.ext hg3 hzW g2 g1 g3 hJ.ok (HL.out.1 s ?_) (by simp) (by show G.las.length ≤ _; have := hJ.las; omega)⟩
      unfold lineT; rw [hwd.out]
    | cons f ts =>
      rw [hw] at HS
      have hwd := hide hw
      have hwl := words_le p
      have hfl := word_len (t := p) (p := f) (by rw [hw]; simp)
      rw [hw] at hwl
      simp only [List.length_cons] at hwl
      have hbd : Hid (∀ u tag' G' s' X', LineJ w base rb nb lb w.heap.size t i u tag' G' s' X' → True) := fun _ _ _ _ _ _ => trivial
      clear hw hJ h hJ0 k0 k1 k2 k3 k4 hk0 hz0 hp hlt hbd
      gi_wp2_with (refine ⟨trivial, rfl, ?_⟩; gi_at_call 47; refine (CallsIn.inRound l (callsIn_wide.2 (HS.out _))).mono ?_; rintro e w5 ⟨v, rfl, hrow, hb5⟩; obtain ⟨gw, vcap, rfl⟩ := ownsRow_succ (k := ts.length) hrow)
      have hJ := H.out
      obtain ⟨g1, g2, g3⟩ := hJ.count hb5
      have hgl := hrow.lt gw rfl
      simp only [World.size_setCell] at hgl
      have hgo : tag gw = .o := by
        cases hq : tag gw with
        | o => rfl
        | _ => exact absurd (hJ.rd.tlt gw (by rw [hq]; simp)).2 (by omega)
      have hd : Ext w5 tag w5.drew tag := ⟨rfl, rfl, rfl, Nat.le_refl _, fun _ _ => rfl, fun _ _ _ => rfl⟩
      have hcell : ∀ j, w5.cell? ⟨gw, j, none⟩ = if j < ts.length + 1 then ((f :: ts).map strV)[j]? else w5.cell? ⟨gw, j, none⟩ := fun j => by
        split
        · rename_i hj; exact hrow.cellAt j (by simpa using hj)
        · rfl
      have c0 : w5.cell? ⟨gw, 0, none⟩ = some (.string (bs f)) := by rw [hcell 0, if_pos (by omega)]; rfl
      have hvc : ts.length + 1 ≤ vcap := by
        rcases hrow.2 with ⟨e, _⟩ | ⟨g, c', cur, e, _, _, h4, _⟩
        · cases e
        · cases e; exact h4
      have hws : WsT w5 tag (if vcap = 1 then some ⟨gw, 0, none⟩ else some ⟨gw, 1, none⟩) ts := fun j hj => ⟨gw, 1, if_neg (by omega), hgl.2, by
        rw [hcell (1 + j), if_pos (by omega), List.getElem?_map, Nat.add_comm 1 j, List.getElem?_cons_succ, List.getElem?_eq_getElem hj, List.getD_eq_getElem?_getD, List.getElem?_eq_getElem hj]; rfl, hgo⟩
      have hla : G.bods = [] ∨ ∃ a bc, G.bods.getLast? = some a ∧ G.B a = some bc ∧ bc.ins.length ≤ 24 := by
        rcases List.eq_nil_or_concat X with e | ⟨X0, x, e⟩
        · exact .inl (by rw [hJ.link.bods, e]; rfl)
        · rw [List.concat_eq_append] at e
          have hx := hJ.link.each x (by rw [e]; simp)
          exact .inr ⟨x.a, x.c, by rw [hJ.link.bods, e]; simp, hx.b, by rw [hx.len]; exact hx.small⟩
      have hbods : G.bods.length ≤ 4 := by
        have e1 : G.bods.length = X.length := by rw [hJ.link.bods, List.length_map]
        have e2 : s.bod.length = X.length := by rw [hJ.link.bod, List.length_map]
        have := hJ.ok.thr
        have := hJ.ok.few 116
        omega
      have hT := take_any (w := w5.drew) (RdW.keep (w' := w5.drew) g1 (fun _ _ => rfl) hd) hla f (if vcap = 1 then some ⟨gw, 0, none⟩ else some ⟨gw, 1, none⟩) ts.length (vcap - 1) ts rfl (WsT.ext (w' := w5.drew) hws hd) (by omega) (fun k => by show (G.nms k).length + ts.length < _; rw [hJ.link.nms]; have := hJ.ok.few k; omega) (by show G.bods.length < _; omega) (by show G.las.length + ts.length < _; have := hJ.las; omega)
      have cr5 : w5.cell? ⟨w.heap.size, 0, none⟩ = some (.pointer (some ⟨rb, 0, none⟩)) := (World.cell?_of_block (w := W) (a := ⟨w.heap.size, 0, none⟩) (g2.block w.heap.size (by omega) (hJ.own w.heap.size (by omega) (by omega)))).trans cr
      have hmix : Tryz.prog.follows .mixedOrders = true := by kernel_rfl
      have HE := hide (⟨g1, g2, g3, hd⟩ : _ ∧ _ ∧ _ ∧ _)
      unfold ptrV at hT
      replace hT := hide hT
      have hHeld : w5.drew.cell? ⟨w.heap.size, 0, none⟩ = some (.pointer (some ⟨rb, 0, none⟩)) ∧ w5.drew.cell? ⟨gw, 0, none⟩ = some (.string (bs f)) := ⟨cr5, c0⟩
      have hsl : (1 : Int) ≤ (ts.length : Int) + 1 := by omega
      have hcap2 : (ts.length : Int) + 1 ≤ vcap := by omega
      have hH2 := hide (⟨hgo, hgl.2⟩ : _ ∧ _)
      clear hcell hws hla hbods g1 g2 g3 hd hJ hrow hb5 hgl hgo
      refine region_heldIn (fun w' => w'.cell? ⟨w.heap.size, 0, none⟩ = some (.pointer (some ⟨rb, 0, none⟩)) ∧ w'.cell? ⟨gw, 0, none⟩ = some (.string (bs f))) hmix ?_
      refine heldIn_take (i := 0) (v := ?_) rfl (by kernel_rfl) (fun _ _ _ h => h) (by kernel_rfl) (by kernel_rfl) ⟨by rfl, ?_, fun _ => rfl⟩ hHeld ?_
      rotate_left
      · intro w9 hSw; (try dsimp only at hSw); obtain ⟨hq0, hq1⟩ := hSw; go_simp; try with_reducible rfl
      simp only [Act.put, List.getElem_toArray, List.getElem_cons_zero, List.getElem_cons_succ, List.setIfInBounds_toArray, List.set_cons_succ, List.set_cons_zero]
      refine heldIn_take (i := 1) (v := ?_) rfl (by kernel_rfl) (fun _ _ _ h => h) (by kernel_rfl) (by kernel_rfl) ⟨by rfl, ?_, fun _ => rfl⟩ hHeld ?_
      rotate_left
      · intro w9 hSw; (try dsimp only at hSw); obtain ⟨hq0, hq1⟩ := hSw; go_simp; try with_reducible rfl
      simp only [Act.put, List.getElem_toArray, List.getElem_cons_zero, List.getElem_cons_succ, List.setIfInBounds_toArray, List.set_cons_succ, List.set_cons_zero]
      refine heldIn_take (i := 2) (v := ?_) rfl (by kernel_rfl) (fun _ _ _ h => h) (by kernel_rfl) (by kernel_rfl) ⟨by rfl, ?_, fun _ => rfl⟩ hHeld ?_
      rotate_left
      · intro w9 hSw; (try dsimp only at hSw); obtain ⟨hq0, hq1⟩ := hSw; go_simp; try with_reducible rfl
      simp only [Act.put, List.getElem_toArray, List.getElem_cons_zero, List.getElem_cons_succ, List.setIfInBounds_toArray, List.set_cons_succ, List.set_cons_zero]
      refine heldIn_take (i := 3) (v := ?_) rfl (by kernel_rfl) (fun _ _ _ h => h) (by kernel_rfl) (by kernel_rfl) ⟨by rfl, ?_, fun _ => rfl⟩ hHeld ?_
      rotate_left
      · intro w9 hSw; (try dsimp only at hSw); obtain ⟨hq0, hq1⟩ := hSw; go_simp; try with_reducible rfl
      simp only [Act.put, List.getElem_toArray, List.getElem_cons_zero, List.getElem_cons_succ, List.setIfInBounds_toArray, List.set_cons_succ, List.set_cons_zero]
      refine heldIn_take (i := 4) (v := ?_) rfl (by kernel_rfl) (fun _ _ _ h => h) (by kernel_rfl) (by kernel_rfl) ⟨by rfl, ?_, fun _ => rfl⟩ hHeld ?_
      rotate_left
      · intro w9 hSw; (try dsimp only at hSw); obtain ⟨hq0, hq1⟩ := hSw; go_simp; try with_reducible rfl
      simp only [Act.put, List.getElem_toArray, List.getElem_cons_zero, List.getElem_cons_succ, List.setIfInBounds_toArray, List.set_cons_succ, List.set_cons_zero]
      refine heldIn_take (i := 5) (v := ?_) rfl (by kernel_rfl) (fun _ _ _ h => h) (by kernel_rfl) (by kernel_rfl) ⟨by rfl, ?_, fun _ => rfl⟩ hHeld ?_
      rotate_left
      · intro w9 hSw; (try dsimp only at hSw); obtain ⟨hq0, hq1⟩ := hSw; go_simp; try with_reducible rfl
      simp only [Act.put, List.getElem_toArray, List.getElem_cons_zero, List.getElem_cons_succ, List.setIfInBounds_toArray, List.set_cons_succ, List.set_cons_zero]
      refine heldIn_one (i := 6) (by kernel_rfl) rfl (fun K hK => ?_)
      go_simp
      refine ⟨trivial, rfl, ?_⟩
      gi_at_call 48
      refine (CallsIn.inRound l (callsIn_wide.2 hT.out)).mono ?_
      rintro e w6 (⟨t6, G6, rfl, hR6, hX6, hP6⟩ | ⟨t6, e6, rfl, hX6, hE6⟩)
      · obtain ⟨g1, g2, g3, hd⟩ := HE.out
        have hx := g2.trans (hd.trans hX6)
        have hJ := H.out
        have c1 : w6.cell? ⟨w.heap.size, 0, none⟩ = some (.pointer (some ⟨rb, 0, none⟩)) := (World.cell?_of_block (w := W) (a := ⟨w.heap.size, 0, none⟩) (hx.block w.heap.size (by omega) (hJ.own w.heap.size (by omega) (by omega)))).trans cr
        have c2 : w6.cell? ⟨gw, 0, none⟩ = some (.string (bs f)) := (World.cell?_of_block (w := w5) (a := ⟨gw, 0, none⟩) ((hd.trans hX6).block gw hH2.out.2 hH2.out.1)).trans c0
        refine hK _ _ ⟨c1, c2⟩ ?_
        clear hK K
        refine heldIn_done (by kernel_rfl) ?_
        obtain ⟨s', X', q1, q2, q3, q4, q5⟩ := take_ok hP6 g3 hJ.ok (RdW.fresh (w := w5.drew) (RdW.keep (w' := w5.drew) g1 (fun _ _ => rfl) hd))
        have hln : lineT (0 + (i : Int) + 1) p s = .ok s' := by unfold lineT; rw [hwd.out, Int.zero_add]; exact q1
        have hJ6 := hJ.ext (j := i + 1) hg3 hzW hx hR6 q2 q3 (HL.out.1 s' hln) (by rw [q5]; simp) (by have := hJ.las; have q4 : G6.las.length ≤ G.las.length + 3 := q4; omega)
        exact ⟨keepB_of hx hzW hJ.own, t6, G6, s', X', hJ6⟩
      · obtain ⟨g1, g2, g3, hd⟩ := HE.out
        have hx := g2.trans (hd.trans hX6)
        have hJ := H.out
        have q1 := take_err hE6 g3
        have hln : lineT (0 + (i : Int) + 1) p s = .error e6 := by unfold lineT; rw [hwd.out, Int.zero_add]; exact q1
        have hle := HL.out.2 e6 hln
        rw [Int.zero_add] at hle
        exact ⟨rfl, keepB_of hx hzW hJ.own, hJ.fault hg3 hzW hx hle⟩
  case panic =>
    intro chain W hX hD
    rw [hz0] at hD ⊢
    obtain ⟨e, l, rfl, hl⟩ := hX.ex
    refine leave_fault (x := 0) (y := 0) rfl hD hX.cf (fun W' h1 h2 h3 h4 h5 => ⟨⟨h3.trans hX.low.os, h4.trans hX.low.tape, h5.trans hX.low.output, Nat.le_trans hX.low.size h2, fun b hb => (h1 b (by have := hX.low.size; omega) (by omega) (by omega)).trans (hX.low.block b hb)⟩, .inl ⟨e, l, parse_err1 hl, rfl⟩⟩)
  case done =>
    rintro W ⟨tag, G, s, X, hJ⟩ hD
    rw [hz0] at hD ⊢
    have hlines := hJ.lines
    rw [List.take_length] at hlines
    have hzW : w.heap.size + 5 < W.heap.size := (Array.getElem?_eq_some_iff.1 hD).1
    have cr : W.cell? ⟨w.heap.size, 0, none⟩ = some (.pointer (some ⟨rb, 0, none⟩)) := by simp [World.cell?, hJ.cr, ptrV]
    have cla := hJ.rd.latC
    obtain ⟨la, lcap, hV⟩ := row_ptr hJ.rd.lrow
    rw [List.length_map] at hV
    rw [hV] at cla
    have hil2 := splitT_len 10 t
    have hlab : G.las.length < 1048576 := by have := hJ.las; omega
    have hJ0' : Hid (LookJ W tag base rb nb lb G s X 0 W G.I) := ⟨hJ.rd, Ext.refl W tag, by simp, fun _ h => h⟩
    replace hV := hide hV
    replace hlines := hide hlines
    have H := hide hJ
    replace hD := hide hD
    have hz00 := hide hz0
    replace hzW := hide hzW
    clear hJ h hJ0 k0 k1 k2 k3 k4 hk0 hz0 o0 t0 p0
    refine wpAt_of ?_
    gi_wp2
    gi_loopw [37] (fun iv wr => ∃ (j : Nat) (I : Nat → Option In7), j ≤ G.las.length ∧ iv = .int .i64 j ∧ LookJ W tag base rb nb lb G s X j wr I) (fun iv _ => G.las.length - (intOf iv).toNat)
    case atStart => exact ⟨0, G.I, Nat.zero_le _, rfl, hJ0'.out⟩
    case round =>
      clear hJ0' cla cr
      obtain ⟨j, I, hj, rfl, hK⟩ := hrel
      have hJ := H.out
      by_cases h5 : j < G.las.length
      · obtain ⟨c, hc⟩ : ∃ c, G.las[j]? = some c := ⟨_, List.getElem?_eq_getElem h5⟩
        obtain ⟨x, p, q, e1, e2, e3, e4, e5, e6, e7, e8⟩ := hJ.link.las_at hc
        have hx := hJ.link.each x e2
        obtain ⟨i, hi⟩ : ∃ i, I c.ia = some i := by
          obtain ⟨i0, hi0⟩ := hx.addr e8
          rw [← e3] at hi0
          exact Option.isSome_iff_exists.1 (hK.some c.ia (by rw [hi0]; rfl))
        have hM : MapOk wr tag c.tb (tabOf s.N x.pb.labs c.kd) := by
          unfold tabOf
          rw [e4, e5]
          by_cases h6 : q.1 = 116
          · rw [if_pos h6, if_pos h6, ← hJ.link.N]; exact hK.rd.names
          · rw [if_neg h6, if_neg h6, ← hx.labs]; exact (hK.rd.bodies x.a x.c hx.b).labs
        have hC := clo_any hK.rd (c := c) (List.mem_of_getElem? hc) hi hM
        have hrow := hK.rd.lrow.row
        have hrow : wr.ownsRow base 1 1 G.lV (G.las.map CloC.val).length (G.las.map CloC.val) := hrow
        rw [List.length_map] at hrow
        obtain ⟨gl, rfl⟩ : ∃ g, la = some ⟨g, 0, none⟩ := by
          rcases hrow.2 with ⟨_, e⟩ | ⟨g, cap, cur, e, _⟩
          · omega
          · rw [hV.out] at e; cases e; exact ⟨_, rfl⟩
        rw [hV.out] at hrow
        have cc : wr.cell? ⟨gl, j, none⟩ = some c.val := by rw [hrow.cellAt j (by omega), List.getElem?_map, hc]; rfl
        have hlt : (j : Int) < (G.las.length : Int) := by omega
        have hQ : ((X.flatMap eOf).map (qOf s.N)).drop j = ⟨c.ia, c.kd, c.nm, c.ln, tabOf s.N x.pb.labs c.kd⟩ :: ((X.flatMap eOf).map (qOf s.N)).drop (j + 1) := by
          have hg : ((X.flatMap eOf).map (qOf s.N))[j]? = some ⟨c.ia, c.kd, c.nm, c.ln, tabOf s.N x.pb.labs c.kd⟩ := by
            rw [List.getElem?_map, e1, e3, e5, e6, e7]; rfl
          obtain ⟨hj', e⟩ := List.getElem?_eq_some_iff.1 hg
          rw [List.drop_eq_getElem_cons hj', e]
        unfold CloC.val at cc
        have HE := hide (⟨hK, hi, hQ⟩ : _ ∧ _ ∧ _)
        unfold ptrV at hC cc
        clear hK hM hi hQ hx e1 e2 e3 e4 e5 e6 e7 e8 hJ hrow
        clear hrow
        gi_wp2_with fail
        refine ⟨trivial, ?_⟩
        gi_at_call 160
        refine (callsIn_wide.2 hC).mono ?_
        rintro e w6 (⟨n, q1, rfl, q3, q4⟩ | ⟨q1, rfl, q3⟩)
        · gi_wp2
          go_roundw
          case rel =>
            obtain ⟨hK, hi, hQ⟩ := HE.out
            refine ⟨j + 1, putN I c.ia { i with x := (n : Int) }, by omega, by go_num, q3, hK.ext.trans q4, ?_, fun ia h => ?_⟩
            · rw [hK.run, hQ]
              conv => lhs; unfold runQ
              show (match tabOf s.N x.pb.labs c.kd c.nm with | some p => _ | none => _) = _
              rw [q1]
              show (if c.kd = c.kd then _ else _) = _
              rw [if_pos rfl]
              show (match I c.ia with | some i => _ | none => _) = _
              rw [hi]
            · unfold putN
              split
              · rfl
              · exact hK.some ia h
          case measure => simp [intOf]; omega
        · obtain ⟨hK, hi, hQ⟩ := HE.out
          have hJ := H.out
          have hrun : runQ ((X.flatMap eOf).map (qOf s.N)) G.I = .error c.ln := by
            rw [hK.run, hQ]
            unfold runQ
            show (match tabOf s.N x.pb.labs c.kd c.nm with | some p => _ | none => _) = _
            cases hq : tabOf s.N x.pb.labs c.kd c.nm with
            | none => rfl
            | some p' =>
              show (if p'.1 = c.kd then _ else _) = _
              rw [if_neg]
              intro e
              exact q1 p'.2 (by rw [hq, ← e])
          have hres : resAll s.N s.bod = .error c.ln := by
            rw [hJ.link.bod]
            rcases run_all s.N X G.I hJ.link.ndi (fun x hx => ⟨(hJ.link.each x hx).len, (hJ.link.each x hx).ins⟩) with ⟨C, I', _, _, _, _, g5⟩ | ⟨e, g1, g2⟩
            · rw [hrun] at g5; cases g5
            · rw [hrun] at g2; cases g2; exact g1
          have hx := hK.ext.trans q3
          have hzw := hzW.out
          refine leave_fault (n := w.heap.size) (x := 0) (y := 0) rfl ((hx.block _ hzw (hJ.own (w.heap.size + 5) (by omega) (by omega))).trans hD.out) ((hx.block (w.heap.size + 1) (by omega) (hJ.own (w.heap.size + 1) (by omega) (by omega))).trans hJ.cf) (fun W' h1 h2 h3 h4 h5 => ⟨⟨h3.trans (hx.os.trans hJ.low.os), h4.trans (hx.tape.trans hJ.low.tape), h5.trans (hx.output.trans hJ.low.output), Nat.le_trans hJ.low.size (Nat.le_trans hx.size h2), fun b hb => (h1 b (by have := hx.size; omega) (by omega) (by omega)).trans ((hx.block b (by omega) (hJ.rd.low hb)).trans (hJ.low.block b hb))⟩, .inl ⟨5, c.ln, parse_err2 hlines.out hres, rfl⟩⟩)
      · have hjl : j = G.las.length := by omega
        subst hjl
        have hel : ((X.flatMap eOf).map (qOf s.N)).length = G.las.length := by
          have := congrArg List.length hJ.link.keys
          rw [List.length_map, keys_e, List.length_map] at this
          rw [List.length_map, this]
        have hrun : runQ ((X.flatMap eOf).map (qOf s.N)) G.I = .ok I := by
          rw [hK.run, List.drop_of_length_le (by omega)]; rfl
        rcases run_all s.N X G.I hJ.link.ndi (fun x hx => ⟨(hJ.link.each x hx).len, (hJ.link.each x hx).ins⟩) with ⟨C, I', g1, g2, g3, g4, g5⟩ | ⟨e, g1, g2⟩
        case inr => rw [hrun] at g2; cases g2
        rw [hrun] at g5
        have eI : I = I' := Except.ok.inj g5
        subst eI
        have hbl : G.bods.length = X.length := by rw [hJ.link.bods, List.length_map]
        have hsl : s.bod.length = X.length := by rw [hJ.link.bod, List.length_map]
        have hthr := hJ.ok.thr
        have hfew := hJ.ok.few 116
        have hCo := complete_any hK.rd C (by show C.length = G.bods.length; omega) (by show (G.nms 116).length = G.bods.length; rw [hJ.link.nms]; omega) (fun k a is ha his => by
          have ha : G.bods[k]? = some a := ha
          rw [hJ.link.bods, List.getElem?_map] at ha
          obtain ⟨x, hx, rfl⟩ := Option.map_eq_some_iff.1 ha
          have hb := hJ.link.each x (List.mem_of_getElem? hx)
          obtain ⟨m1, m2⟩ := g4 k x is hx his
          have := hb.small
          have := hb.len
          refine ⟨x.c, hb.b, m1.symm, by omega, fun j ia hj => ?_⟩
          have hjl := (List.getElem?_eq_some_iff.1 hj).1
          exact ⟨_, List.getElem?_eq_getElem (by omega), m2 j ia _ hj (List.getElem?_eq_getElem (by omega))⟩) (by show G.bods.length < _; omega)
        have hzw := hzW.out
        have cr : wr.cell? ⟨w.heap.size, 0, none⟩ = some (.pointer (some ⟨rb, 0, none⟩)) := (World.cell?_of_block (w := W) (a := ⟨w.heap.size, 0, none⟩) (hK.ext.block w.heap.size (by omega) (hJ.own w.heap.size (by omega) (by omega)))).trans (by simp [World.cell?, hJ.cr, ptrV])
        have hrn : rb ≠ w.heap.size + 1 := fun e => by have := hJ.own (w.heap.size + 1) (by omega) (by omega); rw [← e, hJ.rd.trd] at this; cases this
        have hcf : ∀ w7 : World, (∀ b, b < wr.heap.size → b ≠ rb → w7.heap[b]? = wr.heap[b]?) → w7.heap[w.heap.size + 1]? = some (.cells #[.int .i64 0, .int .i64 0] 63) := fun w7 h7 => (h7 (w.heap.size + 1) (by have := hK.ext.size; omega) (fun e => hrn e.symm)).trans ((hK.ext.block (w.heap.size + 1) (by omega) (hJ.own (w.heap.size + 1) (by omega) (by omega))).trans hJ.cf)
        have HE := hide (⟨hK, g1, hcf, hrn⟩ : _ ∧ _ ∧ _ ∧ _)
        unfold ptrV at hCo
        clear hK hJ g1 g2 g3 g4 g5 hrun hel hbl hsl hthr hfew hcf
        gi_wp2_with (refine ⟨trivial, ?_⟩; gi_at_call 49; refine (callsIn_wide.2 hCo).mono ?_; rintro e w7 ⟨rfl, thV, L, hO, hLn⟩; have hc7 := HE.out.2.2.1 w7 hO.old; have d0 : w7.cell? ⟨w.heap.size + 1, 0, none⟩ = some (.int .i64 0) := (by simp [World.cell?, hc7]); have d1 : w7.cell? ⟨w.heap.size + 1, 1, none⟩ = some (.int .i64 0) := (by simp [World.cell?, hc7]); have f0 : w7.frozen? ⟨w.heap.size + 1, 0, none⟩ = false := (by simp [World.frozen?, hc7]); have f1 : w7.frozen? ⟨w.heap.size + 1, 1, none⟩ = false := (by simp [World.frozen?, hc7]); replace hc7 := hide hc7; replace hO := hide hO)
        obtain ⟨hK, g1, _, _⟩ := HE.out
        have hJ := H.out
        have hO := hO.out
        have hzo := hO.size
        have hzx := hK.ext.size
        have hr5 : rb ≠ w.heap.size + 5 := fun e => by have := hJ.own (w.heap.size + 5) (by omega) (by omega); rw [← e, hJ.rd.trd] at this; cases this
        have hrl := hK.rd.lt hK.rd.trd (by simp)
        have hrb := (hK.rd.tlt rb (by rw [hK.rd.trd]; simp)).1
        have h8 : ∀ b, b ≠ w.heap.size + 1 → ((w7.setCell ⟨w.heap.size + 1, 0, none⟩ (.int .i64 0)).setCell ⟨w.heap.size + 1, 1, none⟩ (.int .i64 0)).heap[b]? = w7.heap[b]? := fun b hb => (Below.heap_setCell _ ⟨w.heap.size + 1, 1, none⟩ _ b hb).trans (Below.heap_setCell _ ⟨w.heap.size + 1, 0, none⟩ _ b hb)
        have hsz8 : ((w7.setCell ⟨w.heap.size + 1, 0, none⟩ (.int .i64 0)).setCell ⟨w.heap.size + 1, 1, none⟩ (.int .i64 0)).heap.size = w7.heap.size := by simp
        have hD7 : w7.heap[w.heap.size + 5]? = some (.deferred (some [])) := (hO.old _ (by omega) (fun e => hr5 e.symm)).trans ((hK.ext.block _ hzw (hJ.own (w.heap.size + 5) (by omega) (by omega))).trans hD.out)
        refine leave_calm (n := w.heap.size) (e := 0) (l := 0) rfl ((h8 _ (by omega)).trans hD7) (by rw [heap_setCell_same _ _ 1 _ _ _ (heap_setCell_same _ _ 0 _ _ _ hc7.out)]; rfl) (fun W' h1 h2 h3 h4 h5 => ?_)
        rw [hsz8] at h1 h2
        have h7 : ∀ b, b < w7.heap.size → b ≠ w.heap.size + 1 → b ≠ w.heap.size + 5 → W'.heap[b]? = w7.heap[b]? := fun b hb e1 e2 => (h1 b hb e2).trans (h8 b e1)
        have hrow : ∀ {v : Value} {l : List Tx} {k : Int}, RowOk wr tag base 9 k v (l.map strW) → w7.ownsRow base 9 1 v l.length (l.map strW) := fun {v l k} hr => by
          have := hr.row
          rw [List.length_map] at this
          exact owns_same this fun g e => hO.old g (this.lt g e).2 (ne_tag (hr.tg g e) hK.rd.trd (by simp))
        have hP7 : ProgW w7 base (G.V 118) (G.V 102) (G.V 109) thV (G.nms 118) (G.nms 102) (G.nms 109) L C := ⟨hrow (hK.rd.rows 118 (.inl rfl)), hrow (hK.rd.rows 102 (.inr (.inl rfl))), hrow (hK.rd.rows 109 (.inr (.inr (.inl rfl)))), c_base hO.row (by have := hK.rd.g3; omega), fun i p is hp his => c_base (hO.codes i p is hp his) (by have := hK.rd.g3; omega), hO.len⟩
        have hcr : W'.heap[rb]? = w7.heap[rb]? := h7 rb (by omega) hrn hr5
        refine ⟨⟨h3.trans (hO.os.trans (hK.ext.os.trans hJ.low.os)), h4.trans (hO.tape.trans (hK.ext.tape.trans hJ.low.tape)), h5.trans (hO.output.trans (hK.ext.output.trans hJ.low.output)), by have := hJ.low.size; omega, fun b hb => ?_⟩, .inr ⟨s, C, parse_ok hlines.out (by rw [hJ.link.bod]; exact g1), rfl, ⟨G.V 118, G.V 102, G.V 109, thV, L, ?_, ?_, ?_, ?_, ?_, by rw [← hJ.link.nms]; exact hLn⟩⟩⟩
        · rw [h7 b (by omega) (by omega) (by omega), hO.old b (by omega) (by omega), hK.ext.block b (by omega) (hJ.rd.low hb)]
          exact hJ.low.block b hb
        · simp [World.cell?, hcr, hO.cell]
        · simp [World.cell?, hcr, hO.cell]
        · simp [World.cell?, hcr, hO.cell]
        · simp [World.cell?, hcr, hO.cell]
        · rw [← hJ.link.nms]
          refine hP7.kept fun b hb hbl hno => h7 b hbl (fun e => hno ?_) (fun e => hno ?_)
          · intro cs e' hq
            rw [e, hc7.out] at hq
            simp only [Option.some.injEq, Obj.cells.injEq] at hq
            rw [← hq.2.1]; decide
          · intro cs e' hq
            rw [e, hD7] at hq; cases hq
end Go.Proofs.YtlpdomgedaockaaGreatDoor
namespace Go.Proofs.YtlpdomgedaockaaGreatDoor
open Go.RowKit Go.Shelf Go.Proofs.Cod
theorem declT_err {kd : Int} {ts : List Tx} {s : PS} {e : Int} (h : declT kd ts s = .error e) : e ≠ 0 := by
  unfold declT at h
  split at h
  · cases h; decide
  · split at h
    · cases h; decide
    · split at h
      · cases h; decide
      · cases h
theorem stepT_err {n : Int} {f : Tx} {ts : List Tx} {s : PS} {e : Int} (h : stepT n f ts s = .error e) : e ≠ 0 := by
  unfold stepT at h
  split at h
  · split at h
    · cases hd : declT 116 ts s with
      | error e' => rw [hd] at h; cases h; exact declT_err hd
      | ok s' => rw [hd] at h; cases h
    · cases h; decide
  · split at h
    · exact declT_err h
    · split at h
      · unfold markT at h
        split at h
        · cases h; decide
        · split at h
          · cases h; decide
          · cases h
      · unfold instrT at h
        split at h
        · cases h; decide
        · split at h
          · cases h; decide
          · split at h
            · cases h; decide
            · split at h
              · cases h; decide
              · cases h
theorem linesT_err {ls : List Tx} {n : Int} {s : PS} {p : Int × Int} (h : linesT ls n s = .error p) : p.1 ≠ 0 := by
  induction ls generalizing n s with
  | nil => cases h
  | cons l ls ih =>
    unfold linesT at h
    split at h
    · exact ih h
    · rename_i e he
      cases h
      unfold lineT at he
      split at he
      · cases he
      · exact stepT_err he
theorem parseL_err {t : Tx} {e l : Int} (h : parseL t = .error (e, l)) : e ≠ 0 := by
  unfold parseL at h
  split at h
  · rename_i p hp
    cases h
    exact linesT_err hp
  · split at h
    · cases h; decide
    · cases h
def parseT (t : Tx) : Except (Int × Int) (PS × List (List In7)) := if 3000 < t.length then .error (1, 0) else parseL t
def ParseR (w : World) (t : Tx) (e : Ending) (w' : World) : Prop := Below w.heap.size w w' ∧ ((∃ er ln, parseT t = .error (er, ln) ∧ e = .returned (.tuple #[.agg #[.slice none 0 0, .slice none 0 0, .slice none 0 0, .slice none 0 0], .int .i64 er, .int .i64 ln])) ∨
  (∃ s C vV fV lV thV L, parseT t = .ok (s, C) ∧ e = .returned (.tuple #[.agg #[vV, fV, lV, thV], .int .i64 0, .int .i64 0]) ∧ ProgW w' w.heap.size vV fV lV thV (s.nms 118) (s.nms 102) (s.nms 109) L C ∧ L.map Prod.fst = s.nms 116))
theorem prog_val {w : World} {fn : Func} {tmps : Array Value} {b : Nat} {x y a0 a1 a2 a3 : Value} (hr : fn.results = #[.cell 2 26, .tmp 3, .tmp 4]) (ht : tmps[2]? = some (.pointer (some ⟨b, 0, none⟩))) (h3 : tmps[3]? = some x) (h4 : tmps[4]? = some y) (hc : w.heap[b]? = some (.cells #[a0, a1, a2, a3] 26)) : (results fn tmps).run Tryz.prog w = .ok (.tuple #[.agg #[a0, a1, a2, a3], x, y]) w := by
  have c0 : w.cell? ⟨b, 0, none⟩ = some a0 := by simp [World.cell?, hc]
  have c1 : w.cell? ⟨b, 1, none⟩ = some a1 := by simp [World.cell?, hc]
  have c2 : w.cell? ⟨b, 2, none⟩ = some a2 := by simp [World.cell?, hc]
  have c3 : w.cell? ⟨b, 3, none⟩ = some a3 := by simp [World.cell?, hc]
  simp [results, hr, ht, h3, h4, go_sem, c0, c1, c2, c3]
theorem four_set {w : World} {n T : Nat} {a0 a1 a2 a3 : Value} (hk : w.heap[n]? = some (.cells #[a0, a1, a2, a3] T)) (v0 v1 v2 v3 : Value) (o : Obj) : ∃ W, (((((w.setCell ⟨n, 0, none⟩ v0).setCell ⟨n, 1, none⟩ v1).setCell ⟨n, 2, none⟩ v2).setCell ⟨n, 3, none⟩ v3).alloc o) = W ∧ W.heap[n]? = some (.cells #[v0, v1, v2, v3] T) ∧ (∀ b, b < w.heap.size → b ≠ n → W.heap[b]? = w.heap[b]?) ∧ w.heap.size ≤ W.heap.size ∧ W.os = w.os ∧ W.tape = w.tape ∧ W.output = w.output := by
  have hl : n < w.heap.size := (Array.getElem?_eq_some_iff.1 hk).1
  refine ⟨_, rfl, ?_, fun b hb hn => ?_, by simp, rfl, rfl, rfl⟩
  · rw [Below.heap_alloc _ _ n (by simpa using hl), heap_setCell_same _ _ 3 _ _ _ (heap_setCell_same _ _ 2 _ _ _ (heap_setCell_same _ _ 1 _ _ _ (heap_setCell_same _ _ 0 _ _ _ hk)))]
    rfl
  · rw [Below.heap_alloc _ _ b (by simpa using hb), Below.heap_setCell _ ⟨n, 3, none⟩ _ b hn, Below.heap_setCell _ ⟨n, 2, none⟩ _ b hn, Below.heap_setCell _ ⟨n, 1, none⟩ _ b hn, Below.heap_setCell _ ⟨n, 0, none⟩ _ b hn]
theorem ProgW.base {w : World} {base base' : Nat} {vV fV lV thV : Value} {vs fs ls : List Tx} {L : List (Tx × Value)} {C : List (List In7)} (h : ProgW w base vV fV lV thV vs fs ls L C) (hb : base' ≤ base) : ProgW w base' vV fV lV thV vs fs ls L C :=
  ⟨c_base h.v hb, c_base h.f hb, c_base h.l hb, c_base h.t hb, fun i p is h1 h2 => c_base (h.c i p is h1 h2) hb, h.len⟩
set_option maxRecDepth 100000 in
set_option maxHeartbeats 1000000 in
theorem parse_any (t : Tx) (w : World) (hh : Heads w) (hs : Shapes w) (h1 : 1 < w.heap.size) (h2 : 2 < w.heap.size) (hlen : t.length < 140737488355328) :
    Calls Tryz.prog 9 #[.string (bs t)] w (ParseR w t) := by
  have hz := bs_size t
  by_cases hl : 3000 < t.length
  · have hl' : (3000 : Int) < (t.length : Int) := by omega
    have hP : Hid (parseT t = .error (1, 0)) := by unfold Hid parseT; rw [if_pos hl]
    have HB : Hid (∀ x, Below w.heap.size w (w.alloc x)) := fun x => (Below.refl _ _).alloc (Nat.le_refl _) _
    go_enter Tryz.func9, Tryz.ntmps9
    go_wp2_with fail
    exact bodyPost_ret (prog_val rfl rfl rfl rfl (World.alloc_heap_new w _)) rfl ⟨HB.out _, .inl ⟨1, 0, hP.out, rfl⟩⟩
  · have hl' : ¬ (3000 : Int) < (t.length : Int) := by omega
    have hP : Hid (parseT t = parseL t) := by unfold Hid parseT; rw [if_neg hl]
    obtain ⟨w1, hw1⟩ : ∃ w1, w.alloc (.cells #[.slice none 0 0, .slice none 0 0, .slice none 0 0, .slice none 0 0] 26) = w1 := ⟨_, rfl⟩
    have hz1 : w1.heap.size = w.heap.size + 1 := by rw [← hw1]; simp
    have hb1 : Below w.heap.size w w1 := by rw [← hw1]; exact (Below.refl _ _).alloc (Nat.le_refl _) _
    have hk1 : w1.heap[w.heap.size]? = some (.cells #[.slice none 0 0, .slice none 0 0, .slice none 0 0, .slice none 0 0] 26) := by rw [← hw1]; exact World.alloc_heap_new w _
    have hN := newReader_any w1 (hh.kept (hb1.block _ h1)) (hs.kept (hb1.block _ h2)) (by omega) (by omega)
    have HR : Hid (∀ (u : World) (tag : Nat → RT), RdW u tag w1.heap.size (w1.heap.size + 1) w1.heap.size (w1.heap.size + 1 + 1) RG.new → Ext w1 (fun _ => .o) u tag → Calls Tryz.prog 22 #[.pointer (some ⟨w1.heap.size + 1, 0, none⟩), .string (bs t)] u fun e u' => Below w.heap.size w u' ∧ u'.heap[w.heap.size]? = some (.cells #[.slice none 0 0, .slice none 0 0, .slice none 0 0, .slice none 0 0] 26) ∧ ((∃ er ln, parseL t = .error (er, ln) ∧ e = .returned (.agg #[.int .i64 er, .int .i64 ln])) ∨ (∃ s C, parseL t = .ok (s, C) ∧ e = .returned (.agg #[.int .i64 0, .int .i64 0]) ∧ ReadOk u' w1.heap.size (w1.heap.size + 1) s C))) := fun u tag hR hX => by
      refine (read_any hR t (by omega)).mono ?_
      rintro e u' ⟨hB, hcase⟩
      have hbu : ∀ b, b < w1.heap.size → u'.heap[b]? = w1.heap[b]? := fun b hb => (hB.block b hb).trans (hX.block b hb rfl)
      have := hX.size
      exact ⟨⟨hB.os.trans (hX.os.trans hb1.os), hB.tape.trans (hX.tape.trans hb1.tape), hB.output.trans (hX.output.trans hb1.output), by have := hB.size; omega, fun b hb => (hbu b (by omega)).trans (hb1.block b hb)⟩, (hbu _ (by omega)).trans hk1, hcase⟩
    replace hw1 := hide hw1
    replace hz1 := hide hz1
    unfold ptrV at hN
    clear hh hs h1 h2
    go_enter Tryz.func9, Tryz.ntmps9
    go_wp2_with fail
    rw [hw1.out]
    refine hN.mono ?_
    rintro e w2 ⟨rfl, tag, hR, hX⟩
    have hRd := HR.out w2 tag hR hX
    clear HR hN hR hX
    go_wp2_with fail
    refine hRd.mono ?_
    rintro e w3 ⟨hB, hk3, (⟨er, ln, he, rfl⟩ | ⟨s, C, hok, rfl, hO⟩)⟩
    · have her := parseL_err he
      have her' : (er != 0) = true := by simpa using her
      have hnl : w.heap.size < w3.heap.size := (Array.getElem?_eq_some_iff.1 hk3).1
      have c0 : w3.cell? ⟨w.heap.size, 0, none⟩ = some (.slice none 0 0) := by simp [World.cell?, hk3]
      have c1 : w3.cell? ⟨w.heap.size, 1, none⟩ = some (.slice none 0 0) := by simp [World.cell?, hk3]
      have c2 : w3.cell? ⟨w.heap.size, 2, none⟩ = some (.slice none 0 0) := by simp [World.cell?, hk3]
      have c3 : w3.cell? ⟨w.heap.size, 3, none⟩ = some (.slice none 0 0) := by simp [World.cell?, hk3]
      have f0 : ∀ i, w3.frozen? ⟨w.heap.size, i, none⟩ = false := fun i => by simp [World.frozen?, hk3]
      have HB := hide hB
      replace hk3 := hide hk3
      replace he := hide he
      clear hB
      go_wp2_with fail
      go_region
      all_goals
        go_wp2_with fail
        obtain ⟨W, hW, k1, k2, k3, k4, k5, k6⟩ := four_set hk3.out (.slice none 0 0) (.slice none 0 0) (.slice none 0 0) (.slice none 0 0) (.cells #[.int .i64 er, .int .i64 ln] 63)
        rw [hW]
        have hB := HB.out
        exact bodyPost_ret (prog_val rfl rfl rfl rfl k1) rfl ⟨⟨k4.trans hB.os, k5.trans hB.tape, k6.trans hB.output, by have := hB.size; show _ ≤ W.heap.size; omega, fun b hb => (k2 b (by have := hB.size; omega) (by omega)).trans (hB.block b hb)⟩, .inl ⟨er, ln, by rw [hP.out]; exact he.out, rfl⟩⟩
    · obtain ⟨vV, fV, lV, thV, L, r1, r2, r3, r4, hPW, hLn⟩ := hO.ex
      have hrl : w1.heap.size + 1 < w3.heap.size := World.block_lt_of_cell? w3 ⟨w1.heap.size + 1, 1, none⟩ r1
      have hnl : w.heap.size < w3.heap.size := (Array.getElem?_eq_some_iff.1 hk3).1
      have c0 : w3.cell? ⟨w.heap.size, 0, none⟩ = some (.slice none 0 0) := by simp [World.cell?, hk3]
      have c1 : w3.cell? ⟨w.heap.size, 1, none⟩ = some (.slice none 0 0) := by simp [World.cell?, hk3]
      have c2 : w3.cell? ⟨w.heap.size, 2, none⟩ = some (.slice none 0 0) := by simp [World.cell?, hk3]
      have c3 : w3.cell? ⟨w.heap.size, 3, none⟩ = some (.slice none 0 0) := by simp [World.cell?, hk3]
      have f0 : ∀ i, w3.frozen? ⟨w.heap.size, i, none⟩ = false := fun i => by simp [World.frozen?, hk3]
      have hsv : (∃ a n c, vV = .slice a n c) ∧ (∃ a n c, fV = .slice a n c) ∧ (∃ a n c, lV = .slice a n c) ∧ (∃ a n c, thV = .slice a n c) := by
        obtain ⟨a1, b1, e1⟩ := owns_len hPW.v
        obtain ⟨a2, b2, e2⟩ := owns_len hPW.f
        obtain ⟨a3, b3, e3⟩ := owns_len hPW.l
        obtain ⟨a4, b4, e4⟩ := owns_len hPW.t
        exact ⟨⟨_, _, _, e1⟩, ⟨_, _, _, e2⟩, ⟨_, _, _, e3⟩, ⟨_, _, _, e4⟩⟩
      have HB := hide (⟨hB, hPW, hLn, hok⟩ : _ ∧ _ ∧ _ ∧ _)
      replace hk3 := hide hk3
      obtain ⟨⟨x1, y1, z1, rfl⟩, ⟨x2, y2, z2, rfl⟩, ⟨x3, y3, z3, rfl⟩, ⟨x4, y4, z4, rfl⟩⟩ := hsv
      clear hB hPW hLn hok hO
      go_wp2_with fail
      obtain ⟨W, hW, k1, k2, k3, k4, k5, k6⟩ := four_set hk3.out (.slice x1 y1 z1) (.slice x2 y2 z2) (.slice x3 y3 z3) (.slice x4 y4 z4) (.cells #[.int .i64 0, .int .i64 0] 63)
      rw [hW]
      obtain ⟨hB, hPW, hLn, hok⟩ := HB.out
      refine bodyPost_ret (prog_val rfl rfl rfl rfl k1) rfl ⟨⟨k4.trans hB.os, k5.trans hB.tape, k6.trans hB.output, by have := hB.size; omega, fun b hb => (k2 b (by have := hB.size; omega) (by omega)).trans (hB.block b hb)⟩, .inr ⟨s, C, _, _, _, _, L, by rw [hP.out]; exact hok, rfl, ?_, hLn⟩⟩
      exact (hPW.kept fun b hb hbl hno => k2 b hbl (by have := hz1.out; omega)).base (by have := hz1.out; omega)
end Go.Proofs.YtlpdomgedaockaaGreatDoor
