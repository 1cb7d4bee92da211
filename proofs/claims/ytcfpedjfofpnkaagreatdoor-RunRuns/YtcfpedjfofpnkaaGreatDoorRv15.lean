import Derived.OrdersIn
import Derived.TacticsIn
import Derived.Test.YtcfpedjfofpnkaaGreatDoorRv5
import Derived.Test.YtcfpedjfofpnkaaGreatDoorRv14
set_option linter.unusedVariables false
set_option linter.unusedSimpArgs false
namespace Go.Proofs.YtcfpedjfofpnkaaGreatDoor
open Go
section
variable {F : Fence} {n : Nat} {P : Program} {ops : Array Oper} {Q : Exit → Act → World → Prop} {md : Region.Mode} {S : World → Prop}
def calm (ops : Array Oper) : Bool := ops.all fun o => match o.op with | .defer _ => false | .select .. => false | _ => true
theorem calm_spec (h : calm ops = true) {j : Nat} {o : Oper} (ho : ops[j]? = some o) : (∀ c, o.op ≠ .defer c) ∧ ∀ cs b, o.op ≠ .select cs b := by
 have := Array.all_eq_true_iff_forall_mem.1 h o (Array.mem_of_getElem? ho)
 exact ⟨fun c e => by simp [e] at this, fun cs b e => by simp [e] at this⟩
theorem op_over {j : Nat} {oj : Oper} {d : Option Tmp} {v : Value} {K : Act → World → Prop} {a : Act} {w : World} (hj : ops[j]? = some oj)
 (hd : (∀ c, oj.op ≠ .defer c) ∧ ∀ cs b, oj.op ≠ .select cs b) (h1 : ∀ x, d = some x → x ∉ oj.looksAt ops) (h2 : ∀ x, d = some x → oj.dst ≠ some x)
 (hQ : ∀ c a w, Q (.panic c) (a.put d v) w → Q (.panic c) a w) (h : wpOpIn F n P ops Q j K (a.put d v) w) :
 wpOpIn F n P ops Q j (fun a' w' => (∃ u ds, a' = ({ a with defers := ds } : Act).put oj.dst u) ∧ K (a'.put d v) w') a w := by
 have ex : oj.semAt F.round (a.put d v).eval = oj.semAt F.round a.eval := by
  rw [Oper.semAt_eq _ _ _ hd.1, Oper.semAt_eq _ _ _ hd.1]; exact execOp_put oj hd.2 a d v h1
 have cm : ∀ (b : Act) u, (b.put d v).put oj.dst u = (b.put oj.dst u).put d v := fun b u => Act.put_comm b v u h2
 unfold wpOpIn Oper.wpIn at h ⊢
 simp only [hj, wanted_put oj a d v h1, about_put oj w a d v h1, ex] at h ⊢
 by_cases hw : Region.wanted oj (yielded ops a.tmps) = true
 ·rw [if_pos hw] at h ⊢
  refine ⟨h.1, ?_⟩
  have h := h.2
  revert h
  generalize (oj.semAt F.round a.eval).run P w = r
  intro h
  rcases r with ⟨x, w'⟩ | ⟨x, w'⟩
  ·cases x with
   | value u => simp only [Oper.uponIn] at h ⊢; exact ⟨⟨u, a.defers, rfl⟩, cm a u ▸ h⟩
   | skip => simp only [Oper.uponIn] at h ⊢; exact ⟨⟨_, a.defers, rfl⟩, cm a _ ▸ h⟩
   | defer e =>
    simp only [Oper.uponIn] at h ⊢
    rw [Act.put_defers, cm] at h
    exact ⟨⟨_, e :: a.defers, rfl⟩, h⟩
   | enter f args =>
    simp only [Oper.uponIn] at h ⊢
    refine ⟨h.1, h.2.mono fun e w'' he => ?_⟩
    cases e with
    | returned u => exact ⟨⟨u, a.defers, rfl⟩, cm a u ▸ he⟩
    | panicked c => exact hQ _ _ _ he
    | outgrown => exact he
   | row r args =>
    simp only [Oper.uponIn] at h ⊢
    exact ⟨h.1, h.2.mono fun u w'' he => ⟨⟨u, a.defers, rfl⟩, cm a u ▸ he⟩⟩
   | round l f tmps assign body =>
    simp only [Oper.uponIn] at h ⊢
    refine ⟨h.1, h.2.mono fun e w'' he => ?_⟩
    cases e with
    | returned u => exact ⟨⟨u, a.defers, rfl⟩, cm a u ▸ he⟩
    | panicked c => exact hQ _ _ _ he
    | outgrown => exact he
   | _ => simp only [Oper.uponIn] at h
  ·cases x <;> simp only [Oper.uponIn] at h ⊢
   exact hQ _ _ _ h
 ·rw [if_neg hw] at h ⊢
  exact ⟨h.1, ⟨_, a.defers, rfl⟩, cm a _ ▸ h.2⟩
def heldIn (F : Fence) (n : Nat) (P : Program) (md : Region.Mode) (ops : Array Oper) (Q : Exit → Act → World → Prop) (S : World → Prop) : Nat → Array Bool → Act → World → Prop
 | 0, listed, a, w => Region.ready md ops listed = [] ∧ Q .normal a w
 | k + 1, listed, a, w => (Region.ready md ops listed = [] → Q .normal a w) ∧
  ∀ i ∈ Region.ready md ops listed, wpOpIn F n P ops Q i (fun a' w' => S w' ∧ heldIn F n P md ops Q S k (listed.setIfInBounds i true) a' w') a w
theorem heldIn_any {k : Nat} {listed : Array Bool} {a : Act} {w : World} (h : heldIn F n P md ops Q S k listed a w) : wpAnyIn F n P md ops Q k listed a w := by
 induction k generalizing listed a w with
 | zero => exact h
 | succ k ih => exact ⟨h.1, fun i hi => wpOpIn_mono (fun _ _ h' => ih h'.2) (h.2 i hi)⟩
def Gives (P : Program) (ops : Array Oper) (S : World → Prop) (o : Oper) (v : Value) (a : Act) : Prop :=
 Region.wanted o (yielded ops a.tmps) = true ∧ (∀ w, S w → (execOp a.eval o).run P w = .ok (.value v) w) ∧ ∀ w, o.about P w a.eval = none
theorem heldIn_take {i : Nat} {oi : Oper} {v : Value} (hi : ops[i]? = some oi) (hc : calm ops = true) (hQ : ∀ c a w, Q (.panic c) (a.put oi.dst v) w → Q (.panic c) a w) :
 ∀ {k : Nat} {listed : Array Bool} {a : Act} {w : World}, Region.free md ops listed i = true → (Region.ready md ops listed).contains i = true → Gives P ops S oi v a → S w →
  heldIn F n P md ops Q S k (listed.setIfInBounds i true) (a.put oi.dst v) w → heldIn F n P md ops Q S (k + 1) listed a w := by
 intro k
 induction k with
 | zero =>
  intro listed a w _ hr hy hS H
  have hr' : i ∈ Region.ready md ops listed := by simpa using hr
  refine ⟨fun h => absurd (h ▸ hr') (by simp), fun j hj => ?_⟩
  by_cases hji : j = i
  ·subst hji
   unfold wpOpIn Oper.wpIn
   simp only [hi, if_pos hy.1, Oper.semAt_eq _ _ _ (calm_spec hc hi).1, hy.2.1 w hS, Oper.uponIn]
   exact ⟨fun f hf => absurd (hy.2.2 w ▸ hf) (by simp), hS, H⟩
  ·have h0 := ready_mono hj hji
   rw [H.1] at h0; cases h0
 | succ k ih =>
  intro listed a w hfr hr hy hS H
  have hr' : i ∈ Region.ready md ops listed := by simpa using hr
  refine ⟨fun h => absurd (h ▸ hr') (by simp), fun j hj => ?_⟩
  by_cases hji : j = i
  ·subst hji
   unfold wpOpIn Oper.wpIn
   simp only [hi, if_pos hy.1, Oper.semAt_eq _ _ _ (calm_spec hc hi).1, hy.2.1 w hS, Oper.uponIn]
   exact ⟨fun f hf => absurd (hy.2.2 w ▸ hf) (by simp), hS, H⟩
  ·obtain ⟨hjun, oj, hoj, hall⟩ := mem_ready.1 hj
   have hun := (mem_ready.1 hr').1
   have hno : ∀ e ∈ oj.after, Region.binds md e = true → e.on ≠ i := fun e he hb heq => by
    have h1 := hall e he hb
    rw [heq] at h1
    rcases Nat.lt_or_ge i listed.size with h' | h'
    ·simp [h'] at hun h1; rw [hun] at h1; cases h1
    ·simp [Array.getElem?_eq_none h'] at h1
   obtain ⟨g1, g2, g3⟩ := Oper.apart_spec (Region.free_spec hi hfr j oj hoj hji hjun hno)
   refine wpOpIn_mono (fun a' w' h3 => ?_) (op_over hoj (calm_spec hc hoj) g1 g2 hQ (H.2 j (ready_mono hj hji)))
   obtain ⟨⟨u, ds, rfl⟩, hS', h4⟩ := h3
   refine ⟨hS', ih ?_ (by simpa using ready_mono hr' (Ne.symm hji)) ⟨?_, fun w hw => ?_, fun w => ?_⟩ hS' ?_⟩
   ·simp only [Region.free, hi, List.all_eq_true] at hfr ⊢
    intro m hm
    have h5 := hfr m hm
    by_cases hjm : j = m
    ·subst hjm
     have : (listed.setIfInBounds j true).getD j true = true := by
      rcases Nat.lt_or_ge j listed.size with h' | h' <;> simp [h']
     rw [this]; simp
    ·rw [getD_set_ne true hjm]; exact h5
   ·rw [wanted_put oi _ oj.dst u g3]; exact hy.1
   ·rw [execOp_put oi (calm_spec hc hi).2 _ oj.dst u g3]; exact hy.2.1 w hw
   ·rw [about_put oi w _ oj.dst u g3]; exact hy.2.2 w
   ·rw [Array.setIfInBounds_comm _ _ hji]; exact h4
theorem heldIn_one {i : Nat} {o : Oper} {k : Nat} {listed : Array Bool} {a : Act} {w : World} (hr : Region.ready md ops listed = [i]) (ho : ops[i]? = some o)
 (h : ∀ K' : Act → World → Prop, (∀ a w, S w → heldIn F n P md ops Q S k (listed.setIfInBounds i true) a w → K' a w) →
   if Region.wanted o (yielded ops a.tmps) = true then Oper.wpIn F n P o a w K' Q else (∀ f, o.about P w a.eval = some f → F.fn f) ∧ K' (a.put o.dst undef) w) :
 heldIn F n P md ops Q S (k + 1) listed a w := by
 refine ⟨fun h0 => absurd (hr ▸ h0) (by simp), fun j hj => ?_⟩
 rw [hr] at hj
 obtain rfl : j = i := by simpa using hj
 exact wpOpIn_step ho fun K' hK => h K' fun a w h1 h2 => hK a w ⟨h1, h2⟩
theorem heldIn_done {k : Nat} {listed : Array Bool} {a : Act} {w : World} (hr : Region.ready md ops listed = []) (h : Q .normal a w) : heldIn F n P md ops Q S k listed a w := by
 cases k with
 | zero => exact ⟨hr, h⟩
 | succ k => exact ⟨fun _ => h, by rw [hr]; simp⟩
theorem region_heldIn {id : Nat} {a : Act} {w : World} (S : World → Prop) (hm : P.follows .mixedOrders = true)
 (h : heldIn F n P .any ops Q S ops.size (Array.replicate ops.size false) a w.drew) : (Code.region id ops true).wpIn F n P Q a w :=
 wpIn_region_any hm (heldIn_any h)
end
end Go.Proofs.YtcfpedjfofpnkaaGreatDoor
namespace Go.Proofs.YtcfpedjfofpnkaaGreatDoor
open Go.RowKit Go.Shelf Go.Proofs.Cod
attribute [local go_sem] Oper.semAt_some
structure LineJ (w : World) (base rb nb lb n : Nat) (t : Tx) (i : Nat) (W : World) (tag : Nat → RT) (G : RG) (s : PS) (X : List LB) : Prop where
 rd : RdW W tag base rb nb lb G
 link : Link G nb s X
 ok : PSok s
 lines : linesT ((splitT 10 t).take i) 0 PS.new = .ok s
 line : G.line = i
 las : G.las.length ≤ 3 * i
 own : ∀ b, n ≤ b → b < n + 7 → tag b = .o
 cr : W.heap[n]? = some (.cells #[ptrV rb] 124)
 cf : W.heap[n + 1]? = some (.cells #[.int .i64 0, .int .i64 0] 127)
 low : Below base w W
structure LineX (w : World) (base n : Nat) (t : Tx) (chain : List PanicEntry) (W : World) : Prop where
 ex : ∃ e l, chain = faultC e l ∧ linesT (splitT 10 t) 0 PS.new = .error (e, l)
 cf : W.heap[n + 1]? = some (.cells #[.int .i64 0, .int .i64 0] 127)
 low : Below base w W
theorem LineJ.free {w : World} {base rb nb lb n : Nat} {t : Tx} {i : Nat} {W W' : World} {tag : Nat → RT} {G : RG} {s : PS} {X : List LB} (h : LineJ w base rb nb lb n t i W tag G s X) (hbase : base ≤ n) (hsame : ∀ b, b < W.heap.size → b ∉ [n + 5, n + 6, n + 2] → W'.heap[b]? = W.heap[b]?) (hs : W.heap.size ≤ W'.heap.size) (h1 : W'.os = W.os) (h2 : W'.tape = W.tape) (h3 : W'.output = W.output) : LineJ w base rb nb lb n t i W' tag G s X := by
 have hnl : n < W.heap.size := (Array.getElem?_eq_some_iff.1 h.cr).1
 have hnl1 : n + 1 < W.heap.size := (Array.getElem?_eq_some_iff.1 h.cf).1
 refine ⟨h.rd.keepO (fun b hb hor => hsame b hb (fun hm => ?_)) hs, h.link, h.ok, h.lines, h.line, h.las, h.own, (hsame n hnl (by simp)).trans h.cr, (hsame (n + 1) hnl1 (by simp)).trans h.cf, ⟨h1.trans h.low.os, h2.trans h.low.tape, h3.trans h.low.output, Nat.le_trans h.low.size hs, fun b hb => (hsame b (by omega) (fun hm => ?_)).trans (h.low.block b hb)⟩⟩
 ·simp only [List.mem_cons, List.not_mem_nil, or_false] at hm
  rcases hor with e | e
  ·exact e (h.own b (by omega) (by omega))
  ·omega
 ·simp only [List.mem_cons, List.not_mem_nil, or_false] at hm
  omega
theorem piece_len {c : UInt8} : ∀ {t : Tx} {i : Nat} {p : Tx}, (splitT c t)[i]? = some p → p.length ≤ t.length
 | [], i, p, h => by
  have := List.mem_of_getElem? h
  simp [splitT] at this
  subst this; simp
 | b :: l, i, p, h => by
  unfold splitT at h
  split at h
  ·cases i with
   | zero => cases h; simp
   | succ i => have := piece_len (t := l) (i := i) (p := p) (by simpa using h); simp; omega
  ·cases hq : splitT c l with
   | nil => exact absurd hq (splitT_ne c l)
   | cons q qs =>
    rw [hq] at h
    cases i with
    | zero =>
     cases h
     have := piece_len (t := l) (i := 0) (p := q) (by rw [hq]; rfl)
     simp; omega
    | succ i =>
     have := piece_len (t := l) (i := i + 1) (p := p) (by rw [hq]; simpa using h)
     simp; omega
theorem words_le (t : Tx) : (wordsT t).length ≤ t.length + 1 := by
 unfold wordsT
 have h1 := List.length_filter_le (fun p : Tx => !p.isEmpty) (splitT 32 (cutB 35 t))
 have h2 := splitT_len 32 (cutB 35 t)
 have h3 := cutB_len 35 t
 omega
theorem word_len {t p : Tx} (h : p ∈ wordsT t) : p.length ≤ t.length := by
 unfold wordsT at h
 obtain ⟨i, hi⟩ := List.getElem?_of_mem (List.mem_filter.1 h).1
 have := piece_len hi
 have := cutB_len 35 t
 omega
theorem keepB_of {W W' : World} {tag tag' : Nat → RT} {n : Nat} (hx : Ext W tag W' tag') (hlt : n + 6 < W.heap.size) (hown : ∀ b, n ≤ b → b < n + 7 → tag b = .o) : KeepB [n + 5, n + 6, n + 1 + 1 + 1, n + 1 + 1, n + 1 + 1 + 2] W W' := fun b hb => by
 simp only [List.mem_cons, List.not_mem_nil, or_false] at hb
 exact hx.block b (by omega) (hown b (by omega) (by omega))
theorem LineJ.count {w : World} {base rb nb lb n : Nat} {t : Tx} {i : Nat} {W w5 : World} {tag : Nat → RT} {G : RG} {s : PS} {X : List LB} (h : LineJ w base rb nb lb n t i W tag G s X) (hb : Below (W.setCell ⟨rb, 0, none⟩ (.int .i64 ((i : Int) + 1))).heap.size (W.setCell ⟨rb, 0, none⟩ (.int .i64 ((i : Int) + 1))) w5) :
 RdW w5 tag base rb nb lb { G with line := (i : Int) + 1 } ∧ Ext W tag w5 tag ∧ Link { G with line := (i : Int) + 1 } nb s X := by
 obtain ⟨h1, h2⟩ := h.rd.setLine ((i : Int) + 1)
 exact ⟨h1.below hb, h2.trans (.of_below hb), h.link.line _⟩
theorem LineJ.ext {w : World} {base rb nb lb n : Nat} {t : Tx} {i j : Nat} {W W' : World} {tag tag' : Nat → RT} {G G' : RG} {s s' : PS} {X X' : List LB} (h : LineJ w base rb nb lb n t i W tag G s X) (hbase : base ≤ n) (hlt : n + 6 < W.heap.size) (hx : Ext W tag W' tag') (hR : RdW W' tag' base rb nb lb G') (hL : Link G' nb s' X') (hs : PSok s') (hl : linesT ((splitT 10 t).take j) 0 PS.new = .ok s') (hn : G'.line = j) (hla : G'.las.length ≤ 3 * j) : LineJ w base rb nb lb n t j W' tag' G' s' X' := by
 have hlow : ∀ b, b < base → W'.heap[b]? = W.heap[b]? := fun b hb => hx.block b (by omega) (h.rd.low hb)
 exact ⟨hR, hL, hs, hl, hn, hla, fun b hb hb' => (hx.tags b (by omega)).trans (h.own b hb hb'), (hx.block n (by omega) (h.own n (by omega) (by omega))).trans h.cr, (hx.block (n + 1) (by omega) (h.own (n + 1) (by omega) (by omega))).trans h.cf, ⟨hx.os.trans h.low.os, hx.tape.trans h.low.tape, hx.output.trans h.low.output, Nat.le_trans h.low.size hx.size, fun b hb => (hlow b hb).trans (h.low.block b hb)⟩⟩
theorem LineJ.fault {w : World} {base rb nb lb n : Nat} {t : Tx} {i : Nat} {W W' : World} {tag tag' : Nat → RT} {G : RG} {s : PS} {X : List LB} (h : LineJ w base rb nb lb n t i W tag G s X) (hbase : base ≤ n) (hlt : n + 6 < W.heap.size) (hx : Ext W tag W' tag') {e l : Int} (he : linesT (splitT 10 t) 0 PS.new = .error (e, l)) : LineX w base n t (faultC e l) W' := by
 have hlow : ∀ b, b < base → W'.heap[b]? = W.heap[b]? := fun b hb => hx.block b (by omega) (h.rd.low hb)
 exact ⟨⟨e, l, rfl, he⟩, (hx.block (n + 1) (by omega) (h.own (n + 1) (by omega) (by omega))).trans h.cf, ⟨hx.os.trans h.low.os, hx.tape.trans h.low.tape, hx.output.trans h.low.output, Nat.le_trans h.low.size hx.size, fun b hb => (hlow b hb).trans (h.low.block b hb)⟩⟩
set_option maxRecDepth 100000 in
set_option maxHeartbeats 2000000 in
theorem read_any {w : World} {tag0 : Nat → RT} {base rb nb lb : Nat} (h : RdW w tag0 base rb nb lb RG.new) (t : Tx) (ht : t.length ≤ 3000) :
 Calls Tryz.prog 44 #[ptrV rb, .string (bs t)] w (ReadR w base rb t) := by
 have hmf : ∀ (fn : Fn) (first cap : Array Value) (w : World), (Instr.makeFunc fn first cap).run Tryz.prog w = .ok (.func fn first cap) w := fun _ _ _ _ => rfl
 unfold ptrV
 refine (callsIn_wide (n := 9)).1 ?_
 refine callsIn_of_wpAt Tryz.func44 rfl trivial ?_ rfl
 simp only [Tryz.ntmps44, List.size_toArray, List.length_cons, List.length_nil, Nat.reduceAdd, Nat.reduceSub, Array.replicate_succ, Array.replicate_zero, List.push_toArray, List.append_toArray, List.nil_append, List.cons_append]
 refine wpAt_seq (wpAt_of ?_)
 gi_wp2
 refine wpAt_seq (wpAt_of ?_)
 gi_wp2
 refine wpAt_seq (wpAt_seq (wpAt_of ?_))
 gi_wp2_with (refine ⟨trivial, ?_⟩; gi_at_call 80; refine (callsIn_wide.2 (splitSeqT_any t 10 _)).mono ?_; rintro e w2 ⟨rfl, rfl⟩)
 refine wpAt_block ?_
 obtain ⟨W0, hW0, hz0, hk0, k0, k1, k2, k3, k4, o0, t0, p0⟩ := five_made w (.cells #[.pointer (some ⟨rb, 0, none⟩)] 124) (.cells #[.int .i64 0, .int .i64 0] 127) (.cells #[.string (bs t)] 9) (.cells #[.string (bs [10])] 9) (.cells #[.int .i64 0] 3)
 rw [hW0]
 clear hW0
 have hg3 := h.g3
 have hJ0 : LineJ w base rb nb lb w.heap.size t 0 W0 tag0 RG.new PS.new [] := by
  refine ⟨h.keepO (fun b hb _ => hk0 b hb) (by omega), Link.new nb, ⟨rfl, fun k => by simp [PS.new]⟩, rfl, rfl, by simp [RG.new], fun b hb _ => ?_, k0, k1, ⟨o0, t0, p0, by omega, fun b hb => hk0 b (by omega)⟩⟩
  cases hq : tag0 b with
  | o => rfl
  | _ => exact absurd (h.tlt b (by rw [hq]; simp)).2 (by omega)
 refine wpAt_split (fnd := Tryz.f44) Tryz.func44 (w.heap.size + 1 + 1 + 1) (w.heap.size + 1 + 1) (w.heap.size + 1 + 1 + 2) 10 t rfl (by omega) (by simp [World.cell?, k3]) (by simp [World.cell?, k2]) (by simp [World.cell?, k4]) (by simp [World.frozen?, k2]) (by omega) (by omega)
  (fun i W => ∃ tag G s X, LineJ w base rb nb lb w.heap.size t i W tag G s X)
  (LineX w base w.heap.size t) ?free ?start (fun p => { tmps := #[.pointer (some ⟨rb, 0, none⟩), .string (bs t), .pointer (some ⟨w.heap.size, 0, none⟩), undef, .pointer (some ⟨w.heap.size + 1, 0, none⟩), .string (bs p), undef, undef, undef, .func (.func 79) #[] #[.pointer (some ⟨w.heap.size + 1, 0, none⟩)], .string (bs t), .func (.func 109) #[] #[.pointer (some ⟨w.heap.size + 1 + 1 + 1, 0, none⟩), .pointer (some ⟨w.heap.size + 1 + 1, 0, none⟩), .pointer (some ⟨w.heap.size + 1 + 1 + 2, 0, none⟩)], .string (bs p), undef, undef, undef, undef, undef, undef, undef, undef, undef, undef, undef, undef, undef, undef, undef, undef, undef, undef, undef, undef, undef, undef, undef, undef, undef, undef, undef, undef, undef, undef, undef, undef, undef, undef], defers := [] }) ?assign ?body ?done ?panic
 case assign =>
  intro l p W K hK
  gi_wp2
  exact hK
 case start => exact ⟨_, _, _, _, hJ0⟩
 case free =>
  rintro i W W' ⟨tag, G, s, X, hJ⟩ hsame hsz h1 h2 h3
  rw [hz0] at hsame
  exact ⟨tag, G, s, X, hJ.free hg3 hsame hsz h1 h2 h3⟩
 case body =>
  rintro l i p W ⟨tag, G, s, X, hJ⟩ hp hlt
  have hzW : w.heap.size + 6 < W.heap.size := by omega
  have hil : i < (splitT 10 t).length := (List.getElem?_eq_some_iff.1 hp).1
  have hil2 := splitT_len 10 t
  have hpl := piece_len hp
  have cr : W.cell? ⟨w.heap.size, 0, none⟩ = some (.pointer (some ⟨rb, 0, none⟩)) := by simp [World.cell?, hJ.cr, ptrV]
  have cl := hJ.rd.lineC
  rw [hJ.line] at cl
  have fl := hJ.rd.frz 0
  have hwr : wrap64 ((i : Int) + 1) = (i : Int) + 1 := IntWalk.wrap64_in _ (by omega)
  have HS : Hid (∀ u : World, Calls Tryz.prog 81 #[.string (bs p)] u fun e w' => ∃ v, e = .returned v ∧ w'.ownsRow u.heap.size 9 1 v (wordsT p).length ((wordsT p).map strV) ∧ Below u.heap.size u w') := fun u => split_any p u (by omega)
  have HL := hide (linesT_take hp hJ.lines)
  have hrn : Hid (rb ≠ w.heap.size) := fun e => by have := hJ.own rb (by omega) (by omega); rw [hJ.rd.trd] at this; cases this
  have hzz := hide hz0
  have H := hide hJ
  rw [hz0]
  cases hw : wordsT p with
  | nil =>
   rw [hw] at HS
   have hwd := hide hw
   clear hw hJ h hJ0 k0 k1 k2 k3 k4 hk0 hz0 hp hil2 hlt
   gi_wp2_with (refine ⟨trivial, rfl, ?_⟩; gi_at_call 81; refine (CallsIn.inRound l (callsIn_wide.2 (HS.out _))).mono ?_; rintro e w5 ⟨v, rfl, hrow, hb5⟩; obtain ⟨va, vcap, rfl⟩ := owns_len hrow)
   have hJ := H.out
   obtain ⟨g1, g2, g3⟩ := hJ.count hb5
   refine ⟨keepB_of g2 hzW hJ.own, tag, _, s, X, hJ.ext hg3 hzW g2 g1 g3 hJ.ok (HL.out.1 s ?_) (by simp) (by show G.las.length ≤ _; have := hJ.las; omega)⟩
   unfold lineT; rw [hwd.out]
  | cons f ts =>
   rw [hw] at HS
   have hwd := hide hw
   have hwl := words_le p
   have hfl := word_len (t := p) (p := f) (by rw [hw]; simp)
   rw [hw] at hwl
   simp only [List.length_cons] at hwl
   have hbd : Hid (∀ u tag' G' s' X', LineJ w base rb nb lb w.heap.size t i u tag' G' s' X' → True) := fun _ _ _ _ _ _ => trivial
   clear hw hJ h hJ0 k0 k1 k2 k3 k4 hk0 hz0 hp hlt hbd
   gi_wp2_with (refine ⟨trivial, rfl, ?_⟩; gi_at_call 81; refine (CallsIn.inRound l (callsIn_wide.2 (HS.out _))).mono ?_; rintro e w5 ⟨v, rfl, hrow, hb5⟩; obtain ⟨gw, vcap, rfl⟩ := ownsRow_succ (k := ts.length) hrow)
   have hJ := H.out
   obtain ⟨g1, g2, g3⟩ := hJ.count hb5
   have hgl := hrow.lt gw rfl
   simp only [World.size_setCell] at hgl
   have hgo : tag gw = .o := by
    cases hq : tag gw with
    | o => rfl
    | _ => exact absurd (hJ.rd.tlt gw (by rw [hq]; simp)).2 (by omega)
   have hd : Ext w5 tag w5.drew tag := ⟨rfl, rfl, rfl, Nat.le_refl _, fun _ _ => rfl, fun _ _ _ => rfl⟩
   have hcell : ∀ j, w5.cell? ⟨gw, j, none⟩ = if j < ts.length + 1 then ((f :: ts).map strV)[j]? else w5.cell? ⟨gw, j, none⟩ := fun j => by
    split
    ·rename_i hj; exact hrow.cellAt j (by simpa using hj)
    ·rfl
   have c0 : w5.cell? ⟨gw, 0, none⟩ = some (.string (bs f)) := by rw [hcell 0, if_pos (by omega)]; rfl
   have hvc : ts.length + 1 ≤ vcap := by
    rcases hrow.2 with ⟨e, _⟩ | ⟨g, c', cur, e, _, _, h4, _⟩
    ·cases e
    ·cases e; exact h4
   have hws : WsT w5 tag (if vcap = 1 then some ⟨gw, 0, none⟩ else some ⟨gw, 1, none⟩) ts := fun j hj => ⟨gw, 1, if_neg (by omega), hgl.2, by
    rw [hcell (1 + j), if_pos (by omega), List.getElem?_map, Nat.add_comm 1 j, List.getElem?_cons_succ, List.getElem?_eq_getElem hj, List.getD_eq_getElem?_getD, List.getElem?_eq_getElem hj]; rfl, hgo⟩
   have hla : G.bods = [] ∨ ∃ a bc, G.bods.getLast? = some a ∧ G.B a = some bc ∧ bc.ins.length ≤ 24 := by
    rcases List.eq_nil_or_concat X with e | ⟨X0, x, e⟩
    ·exact .inl (by rw [hJ.link.bods, e]; rfl)
    ·rw [List.concat_eq_append] at e
     have hx := hJ.link.each x (by rw [e]; simp)
     exact .inr ⟨x.a, x.c, by rw [hJ.link.bods, e]; simp, hx.b, by rw [hx.len]; exact hx.small⟩
   have hbods : G.bods.length ≤ 4 := by
    have e1 : G.bods.length = X.length := by rw [hJ.link.bods, List.length_map]
    have e2 : s.bod.length = X.length := by rw [hJ.link.bod, List.length_map]
    have := hJ.ok.thr
    have := hJ.ok.few 116
    omega
   have hT := take_any (w := w5.drew) (RdW.keep (w' := w5.drew) g1 (fun _ _ => rfl) hd) hla f (if vcap = 1 then some ⟨gw, 0, none⟩ else some ⟨gw, 1, none⟩) ts.length (vcap - 1) ts rfl (WsT.ext (w' := w5.drew) hws hd) (by omega) (fun k => by show (G.nms k).length + ts.length < _; rw [hJ.link.nms]; have := hJ.ok.few k; omega) (by show G.bods.length < _; omega) (by show G.las.length + ts.length < _; have := hJ.las; omega)
   have cr5 : w5.cell? ⟨w.heap.size, 0, none⟩ = some (.pointer (some ⟨rb, 0, none⟩)) := (World.cell?_of_block (w := W) (a := ⟨w.heap.size, 0, none⟩) (g2.block w.heap.size (by omega) (hJ.own w.heap.size (by omega) (by omega)))).trans cr
   have hmix : Tryz.prog.follows .mixedOrders = true := by kernel_rfl
   have HE := hide (⟨g1, g2, g3, hd⟩ : _ ∧ _ ∧ _ ∧ _)
   unfold ptrV at hT
   replace hT := hide hT
   have hHeld : w5.drew.cell? ⟨w.heap.size, 0, none⟩ = some (.pointer (some ⟨rb, 0, none⟩)) ∧ w5.drew.cell? ⟨gw, 0, none⟩ = some (.string (bs f)) := ⟨cr5, c0⟩
   have hsl : (1 : Int) ≤ (ts.length : Int) + 1 := by omega
   have hcap2 : (ts.length : Int) + 1 ≤ vcap := by omega
   have hH2 := hide (⟨hgo, hgl.2⟩ : _ ∧ _)
   clear hcell hws hla hbods g1 g2 g3 hd hJ hrow hb5 hgl hgo
   refine region_heldIn (fun w' => w'.cell? ⟨w.heap.size, 0, none⟩ = some (.pointer (some ⟨rb, 0, none⟩)) ∧ w'.cell? ⟨gw, 0, none⟩ = some (.string (bs f))) hmix ?_
   refine heldIn_take (i := 0) (v := ?_) rfl (by kernel_rfl) (fun _ _ _ h => h) (by kernel_rfl) (by kernel_rfl) ⟨by rfl, ?_, fun _ => rfl⟩ hHeld ?_
   rotate_left
   ·intro w9 hSw; (try dsimp only at hSw); obtain ⟨hq0, hq1⟩ := hSw; go_simp; try with_reducible rfl
   simp only [Act.put, List.getElem_toArray, List.getElem_cons_zero, List.getElem_cons_succ, List.setIfInBounds_toArray, List.set_cons_succ, List.set_cons_zero]
   refine heldIn_take (i := 1) (v := ?_) rfl (by kernel_rfl) (fun _ _ _ h => h) (by kernel_rfl) (by kernel_rfl) ⟨by rfl, ?_, fun _ => rfl⟩ hHeld ?_
   rotate_left
   ·intro w9 hSw; (try dsimp only at hSw); obtain ⟨hq0, hq1⟩ := hSw; go_simp; try with_reducible rfl
   simp only [Act.put, List.getElem_toArray, List.getElem_cons_zero, List.getElem_cons_succ, List.setIfInBounds_toArray, List.set_cons_succ, List.set_cons_zero]
   refine heldIn_take (i := 2) (v := ?_) rfl (by kernel_rfl) (fun _ _ _ h => h) (by kernel_rfl) (by kernel_rfl) ⟨by rfl, ?_, fun _ => rfl⟩ hHeld ?_
   rotate_left
   ·intro w9 hSw; (try dsimp only at hSw); obtain ⟨hq0, hq1⟩ := hSw; go_simp; try with_reducible rfl
   simp only [Act.put, List.getElem_toArray, List.getElem_cons_zero, List.getElem_cons_succ, List.setIfInBounds_toArray, List.set_cons_succ, List.set_cons_zero]
   refine heldIn_take (i := 3) (v := ?_) rfl (by kernel_rfl) (fun _ _ _ h => h) (by kernel_rfl) (by kernel_rfl) ⟨by rfl, ?_, fun _ => rfl⟩ hHeld ?_
   rotate_left
   ·intro w9 hSw; (try dsimp only at hSw); obtain ⟨hq0, hq1⟩ := hSw; go_simp; try with_reducible rfl
   simp only [Act.put, List.getElem_toArray, List.getElem_cons_zero, List.getElem_cons_succ, List.setIfInBounds_toArray, List.set_cons_succ, List.set_cons_zero]
   refine heldIn_take (i := 4) (v := ?_) rfl (by kernel_rfl) (fun _ _ _ h => h) (by kernel_rfl) (by kernel_rfl) ⟨by rfl, ?_, fun _ => rfl⟩ hHeld ?_
   rotate_left
   ·intro w9 hSw; (try dsimp only at hSw); obtain ⟨hq0, hq1⟩ := hSw; go_simp; try with_reducible rfl
   simp only [Act.put, List.getElem_toArray, List.getElem_cons_zero, List.getElem_cons_succ, List.setIfInBounds_toArray, List.set_cons_succ, List.set_cons_zero]
   refine heldIn_take (i := 5) (v := ?_) rfl (by kernel_rfl) (fun _ _ _ h => h) (by kernel_rfl) (by kernel_rfl) ⟨by rfl, ?_, fun _ => rfl⟩ hHeld ?_
   rotate_left
   ·intro w9 hSw; (try dsimp only at hSw); obtain ⟨hq0, hq1⟩ := hSw; go_simp; try with_reducible rfl
   simp only [Act.put, List.getElem_toArray, List.getElem_cons_zero, List.getElem_cons_succ, List.setIfInBounds_toArray, List.set_cons_succ, List.set_cons_zero]
   refine heldIn_one (i := 6) (by kernel_rfl) rfl (fun K hK => ?_)
   go_simp
   refine ⟨trivial, rfl, ?_⟩
   gi_at_call 82
   refine (CallsIn.inRound l (callsIn_wide.2 hT.out)).mono ?_
   rintro e w6 (⟨t6, G6, rfl, hR6, hX6, hP6⟩ | ⟨t6, e6, rfl, hX6, hE6⟩)
   ·obtain ⟨g1, g2, g3, hd⟩ := HE.out
    have hx := g2.trans (hd.trans hX6)
    have hJ := H.out
    have c1 : w6.cell? ⟨w.heap.size, 0, none⟩ = some (.pointer (some ⟨rb, 0, none⟩)) := (World.cell?_of_block (w := W) (a := ⟨w.heap.size, 0, none⟩) (hx.block w.heap.size (by omega) (hJ.own w.heap.size (by omega) (by omega)))).trans cr
    have c2 : w6.cell? ⟨gw, 0, none⟩ = some (.string (bs f)) := (World.cell?_of_block (w := w5) (a := ⟨gw, 0, none⟩) ((hd.trans hX6).block gw hH2.out.2 hH2.out.1)).trans c0
    refine hK _ _ ⟨c1, c2⟩ ?_
    clear hK K
    refine heldIn_done (by kernel_rfl) ?_
    obtain ⟨s', X', q1, q2, q3, q4, q5⟩ := take_ok hP6 g3 hJ.ok (RdW.fresh (w := w5.drew) (RdW.keep (w' := w5.drew) g1 (fun _ _ => rfl) hd))
    have hln : lineT (0 + (i : Int) + 1) p s = .ok s' := by unfold lineT; rw [hwd.out, Int.zero_add]; exact q1
    have hJ6 := hJ.ext (j := i + 1) hg3 hzW hx hR6 q2 q3 (HL.out.1 s' hln) (by rw [q5]; simp) (by have := hJ.las; have q4 : G6.las.length ≤ G.las.length + 3 := q4; omega)
    exact ⟨keepB_of hx hzW hJ.own, t6, G6, s', X', hJ6⟩
   ·obtain ⟨g1, g2, g3, hd⟩ := HE.out
    have hx := g2.trans (hd.trans hX6)
    have hJ := H.out
    have q1 := take_err hE6 g3
    have hln : lineT (0 + (i : Int) + 1) p s = .error e6 := by unfold lineT; rw [hwd.out, Int.zero_add]; exact q1
    have hle := HL.out.2 e6 hln
    rw [Int.zero_add] at hle
    exact ⟨rfl, keepB_of hx hzW hJ.own, hJ.fault hg3 hzW hx hle⟩
 case panic =>
  intro chain W hX hD
  rw [hz0] at hD ⊢
  obtain ⟨e, l, rfl, hl⟩ := hX.ex
  refine leave_fault (x := 0) (y := 0) rfl hD hX.cf (fun W' h1 h2 h3 h4 h5 => ⟨⟨h3.trans hX.low.os, h4.trans hX.low.tape, h5.trans hX.low.output, Nat.le_trans hX.low.size h2, fun b hb => (h1 b (by have := hX.low.size; omega) (by omega) (by omega)).trans (hX.low.block b hb)⟩, .inl ⟨e, l, parse_err1 hl, rfl⟩⟩)
 case done =>
  rintro W ⟨tag, G, s, X, hJ⟩ hD
  rw [hz0] at hD ⊢
  have hlines := hJ.lines
  rw [List.take_length] at hlines
  have hzW : w.heap.size + 5 < W.heap.size := (Array.getElem?_eq_some_iff.1 hD).1
  have cr : W.cell? ⟨w.heap.size, 0, none⟩ = some (.pointer (some ⟨rb, 0, none⟩)) := by simp [World.cell?, hJ.cr, ptrV]
  have cla := hJ.rd.latC
  obtain ⟨la, lcap, hV⟩ := row_ptr hJ.rd.lrow
  rw [List.length_map] at hV
  rw [hV] at cla
  have hil2 := splitT_len 10 t
  have hlab : G.las.length < 1048576 := by have := hJ.las; omega
  have hJ0' : Hid (LookJ W tag base rb nb lb G s X 0 W G.I) := ⟨hJ.rd, Ext.refl W tag, by simp, fun _ h => h⟩
  replace hV := hide hV
  replace hlines := hide hlines
  have H := hide hJ
  replace hD := hide hD
  have hz00 := hide hz0
  replace hzW := hide hzW
  clear hJ h hJ0 k0 k1 k2 k3 k4 hk0 hz0 o0 t0 p0
  refine wpAt_of ?_
  gi_wp2
  gi_loopw [37] (fun iv wr => ∃ (j : Nat) (I : Nat → Option In7), j ≤ G.las.length ∧ iv = .int .i64 j ∧ LookJ W tag base rb nb lb G s X j wr I) (fun iv _ => G.las.length - (intOf iv).toNat)
  case atStart => exact ⟨0, G.I, Nat.zero_le _, rfl, hJ0'.out⟩
  case round =>
   clear hJ0' cla cr
   obtain ⟨j, I, hj, rfl, hK⟩ := hrel
   have hJ := H.out
   by_cases h5 : j < G.las.length
   ·obtain ⟨c, hc⟩ : ∃ c, G.las[j]? = some c := ⟨_, List.getElem?_eq_getElem h5⟩
    obtain ⟨x, p, q, e1, e2, e3, e4, e5, e6, e7, e8⟩ := hJ.link.las_at hc
    have hx := hJ.link.each x e2
    obtain ⟨i, hi⟩ : ∃ i, I c.ia = some i := by
     obtain ⟨i0, hi0⟩ := hx.addr e8
     rw [← e3] at hi0
     exact Option.isSome_iff_exists.1 (hK.some c.ia (by rw [hi0]; rfl))
    have hM : MapOk wr tag c.tb (tabOf s.N x.pb.labs c.kd) := by
     unfold tabOf
     rw [e4, e5]
     by_cases h6 : q.1 = 116
     ·rw [if_pos h6, if_pos h6, ← hJ.link.N]; exact hK.rd.names
     ·rw [if_neg h6, if_neg h6, ← hx.labs]; exact (hK.rd.bodies x.a x.c hx.b).labs
    have hC := clo_any hK.rd (c := c) (List.mem_of_getElem? hc) hi hM
    have hrow := hK.rd.lrow.row
    have hrow : wr.ownsRow base 1 1 G.lV (G.las.map CloC.val).length (G.las.map CloC.val) := hrow
    rw [List.length_map] at hrow
    obtain ⟨gl, rfl⟩ : ∃ g, la = some ⟨g, 0, none⟩ := by
     rcases hrow.2 with ⟨_, e⟩ | ⟨g, cap, cur, e, _⟩
     ·omega
     ·rw [hV.out] at e; cases e; exact ⟨_, rfl⟩
    rw [hV.out] at hrow
    have cc : wr.cell? ⟨gl, j, none⟩ = some c.val := by rw [hrow.cellAt j (by omega), List.getElem?_map, hc]; rfl
    have hlt : (j : Int) < (G.las.length : Int) := by omega
    have hQ : ((X.flatMap eOf).map (qOf s.N)).drop j = ⟨c.ia, c.kd, c.nm, c.ln, tabOf s.N x.pb.labs c.kd⟩ :: ((X.flatMap eOf).map (qOf s.N)).drop (j + 1) := by
     have hg : ((X.flatMap eOf).map (qOf s.N))[j]? = some ⟨c.ia, c.kd, c.nm, c.ln, tabOf s.N x.pb.labs c.kd⟩ := by
      rw [List.getElem?_map, e1, e3, e5, e6, e7]; rfl
     obtain ⟨hj', e⟩ := List.getElem?_eq_some_iff.1 hg
     rw [List.drop_eq_getElem_cons hj', e]
    unfold CloC.val at cc
    have HE := hide (⟨hK, hi, hQ⟩ : _ ∧ _ ∧ _)
    unfold ptrV at hC cc
    clear hK hM hi hQ hx e1 e2 e3 e4 e5 e6 e7 e8 hJ hrow
    clear hrow
    gi_wp2_with fail
    refine ⟨trivial, ?_⟩
    gi_at_call 145
    refine (callsIn_wide.2 hC).mono ?_
    rintro e w6 (⟨n, q1, rfl, q3, q4⟩ | ⟨q1, rfl, q3⟩)
    ·gi_wp2
     go_roundw
     case rel =>
      obtain ⟨hK, hi, hQ⟩ := HE.out
      refine ⟨j + 1, putN I c.ia { i with x := (n : Int) }, by omega, by go_num, q3, hK.ext.trans q4, ?_, fun ia h => ?_⟩
      ·rw [hK.run, hQ]
       conv => lhs; unfold runQ
       show (match tabOf s.N x.pb.labs c.kd c.nm with | some p => _ | none => _) = _
       rw [q1]
       show (if c.kd = c.kd then _ else _) = _
       rw [if_pos rfl]
       show (match I c.ia with | some i => _ | none => _) = _
       rw [hi]
      ·unfold putN
       split
       ·rfl
       ·exact hK.some ia h
     case measure => simp [intOf]; omega
    ·obtain ⟨hK, hi, hQ⟩ := HE.out
     have hJ := H.out
     have hrun : runQ ((X.flatMap eOf).map (qOf s.N)) G.I = .error c.ln := by
      rw [hK.run, hQ]
      unfold runQ
      show (match tabOf s.N x.pb.labs c.kd c.nm with | some p => _ | none => _) = _
      cases hq : tabOf s.N x.pb.labs c.kd c.nm with
      | none => rfl
      | some p' =>
       show (if p'.1 = c.kd then _ else _) = _
       rw [if_neg]
       intro e
       exact q1 p'.2 (by rw [hq, ← e])
     have hres : resAll s.N s.bod = .error c.ln := by
      rw [hJ.link.bod]
      rcases run_all s.N X G.I hJ.link.ndi (fun x hx => ⟨(hJ.link.each x hx).len, (hJ.link.each x hx).ins⟩) with ⟨C, I', _, _, _, _, g5⟩ | ⟨e, g1, g2⟩
      ·rw [hrun] at g5; cases g5
      ·rw [hrun] at g2; cases g2; exact g1
     have hx := hK.ext.trans q3
     have hzw := hzW.out
     refine leave_fault (n := w.heap.size) (x := 0) (y := 0) rfl ((hx.block _ hzw (hJ.own (w.heap.size + 5) (by omega) (by omega))).trans hD.out) ((hx.block (w.heap.size + 1) (by omega) (hJ.own (w.heap.size + 1) (by omega) (by omega))).trans hJ.cf) (fun W' h1 h2 h3 h4 h5 => ⟨⟨h3.trans (hx.os.trans hJ.low.os), h4.trans (hx.tape.trans hJ.low.tape), h5.trans (hx.output.trans hJ.low.output), Nat.le_trans hJ.low.size (Nat.le_trans hx.size h2), fun b hb => (h1 b (by have := hx.size; omega) (by omega) (by omega)).trans ((hx.block b (by omega) (hJ.rd.low hb)).trans (hJ.low.block b hb))⟩, .inl ⟨5, c.ln, parse_err2 hlines.out hres, rfl⟩⟩)
   ·have hjl : j = G.las.length := by omega
    subst hjl
    have hel : ((X.flatMap eOf).map (qOf s.N)).length = G.las.length := by
     have := congrArg List.length hJ.link.keys
     rw [List.length_map, keys_e, List.length_map] at this
     rw [List.length_map, this]
    have hrun : runQ ((X.flatMap eOf).map (qOf s.N)) G.I = .ok I := by
     rw [hK.run, List.drop_of_length_le (by omega)]; rfl
    rcases run_all s.N X G.I hJ.link.ndi (fun x hx => ⟨(hJ.link.each x hx).len, (hJ.link.each x hx).ins⟩) with ⟨C, I', g1, g2, g3, g4, g5⟩ | ⟨e, g1, g2⟩
    case inr => rw [hrun] at g2; cases g2
    rw [hrun] at g5
    have eI : I = I' := Except.ok.inj g5
    subst eI
    have hbl : G.bods.length = X.length := by rw [hJ.link.bods, List.length_map]
    have hsl : s.bod.length = X.length := by rw [hJ.link.bod, List.length_map]
    have hthr := hJ.ok.thr
    have hfew := hJ.ok.few 116
    have hCo := complete_any hK.rd C (by show C.length = G.bods.length; omega) (by show (G.nms 116).length = G.bods.length; rw [hJ.link.nms]; omega) (fun k a is ha his => by
     have ha : G.bods[k]? = some a := ha
     rw [hJ.link.bods, List.getElem?_map] at ha
     obtain ⟨x, hx, rfl⟩ := Option.map_eq_some_iff.1 ha
     have hb := hJ.link.each x (List.mem_of_getElem? hx)
     obtain ⟨m1, m2⟩ := g4 k x is hx his
     have := hb.small
     have := hb.len
     refine ⟨x.c, hb.b, m1.symm, by omega, fun j ia hj => ?_⟩
     have hjl := (List.getElem?_eq_some_iff.1 hj).1
     exact ⟨_, List.getElem?_eq_getElem (by omega), m2 j ia _ hj (List.getElem?_eq_getElem (by omega))⟩) (by show G.bods.length < _; omega)
    have hzw := hzW.out
    have cr : wr.cell? ⟨w.heap.size, 0, none⟩ = some (.pointer (some ⟨rb, 0, none⟩)) := (World.cell?_of_block (w := W) (a := ⟨w.heap.size, 0, none⟩) (hK.ext.block w.heap.size (by omega) (hJ.own w.heap.size (by omega) (by omega)))).trans (by simp [World.cell?, hJ.cr, ptrV])
    have hrn : rb ≠ w.heap.size + 1 := fun e => by have := hJ.own (w.heap.size + 1) (by omega) (by omega); rw [← e, hJ.rd.trd] at this; cases this
    have hcf : ∀ w7 : World, (∀ b, b < wr.heap.size → b ≠ rb → w7.heap[b]? = wr.heap[b]?) → w7.heap[w.heap.size + 1]? = some (.cells #[.int .i64 0, .int .i64 0] 127) := fun w7 h7 => (h7 (w.heap.size + 1) (by have := hK.ext.size; omega) (fun e => hrn e.symm)).trans ((hK.ext.block (w.heap.size + 1) (by omega) (hJ.own (w.heap.size + 1) (by omega) (by omega))).trans hJ.cf)
    have HE := hide (⟨hK, g1, hcf, hrn⟩ : _ ∧ _ ∧ _ ∧ _)
    unfold ptrV at hCo
    clear hK hJ g1 g2 g3 g4 g5 hrun hel hbl hsl hthr hfew hcf
    gi_wp2_with (refine ⟨trivial, ?_⟩; gi_at_call 83; refine (callsIn_wide.2 hCo).mono ?_; rintro e w7 ⟨rfl, thV, L, hO, hLn⟩; have hc7 := HE.out.2.2.1 w7 hO.old; have d0 : w7.cell? ⟨w.heap.size + 1, 0, none⟩ = some (.int .i64 0) := (by simp [World.cell?, hc7]); have d1 : w7.cell? ⟨w.heap.size + 1, 1, none⟩ = some (.int .i64 0) := (by simp [World.cell?, hc7]); have f0 : w7.frozen? ⟨w.heap.size + 1, 0, none⟩ = false := (by simp [World.frozen?, hc7]); have f1 : w7.frozen? ⟨w.heap.size + 1, 1, none⟩ = false := (by simp [World.frozen?, hc7]); replace hc7 := hide hc7; replace hO := hide hO)
    obtain ⟨hK, g1, _, _⟩ := HE.out
    have hJ := H.out
    have hO := hO.out
    have hzo := hO.size
    have hzx := hK.ext.size
    have hr5 : rb ≠ w.heap.size + 5 := fun e => by have := hJ.own (w.heap.size + 5) (by omega) (by omega); rw [← e, hJ.rd.trd] at this; cases this
    have hrl := hK.rd.lt hK.rd.trd (by simp)
    have hrb := (hK.rd.tlt rb (by rw [hK.rd.trd]; simp)).1
    have h8 : ∀ b, b ≠ w.heap.size + 1 → ((w7.setCell ⟨w.heap.size + 1, 0, none⟩ (.int .i64 0)).setCell ⟨w.heap.size + 1, 1, none⟩ (.int .i64 0)).heap[b]? = w7.heap[b]? := fun b hb => (Below.heap_setCell _ ⟨w.heap.size + 1, 1, none⟩ _ b hb).trans (Below.heap_setCell _ ⟨w.heap.size + 1, 0, none⟩ _ b hb)
    have hsz8 : ((w7.setCell ⟨w.heap.size + 1, 0, none⟩ (.int .i64 0)).setCell ⟨w.heap.size + 1, 1, none⟩ (.int .i64 0)).heap.size = w7.heap.size := by simp
    have hD7 : w7.heap[w.heap.size + 5]? = some (.deferred (some [])) := (hO.old _ (by omega) (fun e => hr5 e.symm)).trans ((hK.ext.block _ hzw (hJ.own (w.heap.size + 5) (by omega) (by omega))).trans hD.out)
    refine leave_calm (n := w.heap.size) (e := 0) (l := 0) rfl ((h8 _ (by omega)).trans hD7) (by rw [heap_setCell_same _ _ 1 _ _ _ (heap_setCell_same _ _ 0 _ _ _ hc7.out)]; rfl) (fun W' h1 h2 h3 h4 h5 => ?_)
    rw [hsz8] at h1 h2
    have h7 : ∀ b, b < w7.heap.size → b ≠ w.heap.size + 1 → b ≠ w.heap.size + 5 → W'.heap[b]? = w7.heap[b]? := fun b hb e1 e2 => (h1 b hb e2).trans (h8 b e1)
    have hrow : ∀ {v : Value} {l : List Tx} {k : Int}, RowOk wr tag base 9 k v (l.map strW) → w7.ownsRow base 9 1 v l.length (l.map strW) := fun {v l k} hr => by
     have := hr.row
     rw [List.length_map] at this
     exact owns_same this fun g e => hO.old g (this.lt g e).2 (ne_tag (hr.tg g e) hK.rd.trd (by simp))
    have hP7 : ProgW w7 base (G.V 118) (G.V 102) (G.V 109) thV (G.nms 118) (G.nms 102) (G.nms 109) L C := ⟨hrow (hK.rd.rows 118 (.inl rfl)), hrow (hK.rd.rows 102 (.inr (.inl rfl))), hrow (hK.rd.rows 109 (.inr (.inr (.inl rfl)))), c_base hO.row (by have := hK.rd.g3; omega), fun i p is hp his => c_base (hO.codes i p is hp his) (by have := hK.rd.g3; omega), hO.len⟩
    have hcr : W'.heap[rb]? = w7.heap[rb]? := h7 rb (by omega) hrn hr5
    refine ⟨⟨h3.trans (hO.os.trans (hK.ext.os.trans hJ.low.os)), h4.trans (hO.tape.trans (hK.ext.tape.trans hJ.low.tape)), h5.trans (hO.output.trans (hK.ext.output.trans hJ.low.output)), by have := hJ.low.size; omega, fun b hb => ?_⟩, .inr ⟨s, C, parse_ok hlines.out (by rw [hJ.link.bod]; exact g1), rfl, ⟨G.V 118, G.V 102, G.V 109, thV, L, ?_, ?_, ?_, ?_, ?_, by rw [← hJ.link.nms]; exact hLn⟩⟩⟩
    ·rw [h7 b (by omega) (by omega) (by omega), hO.old b (by omega) (by omega), hK.ext.block b (by omega) (hJ.rd.low hb)]
     exact hJ.low.block b hb
    ·simp [World.cell?, hcr, hO.cell]
    ·simp [World.cell?, hcr, hO.cell]
    ·simp [World.cell?, hcr, hO.cell]
    ·simp [World.cell?, hcr, hO.cell]
    ·rw [← hJ.link.nms]
     refine hP7.kept fun b hb hbl hno => h7 b hbl (fun e => hno ?_) (fun e => hno ?_)
     ·intro cs e' hq
      rw [e, hc7.out] at hq
      simp only [Option.some.injEq, Obj.cells.injEq] at hq
      rw [← hq.2.1]; decide
     ·intro cs e' hq
      rw [e, hD7] at hq; cases hq
end Go.Proofs.YtcfpedjfofpnkaaGreatDoor
