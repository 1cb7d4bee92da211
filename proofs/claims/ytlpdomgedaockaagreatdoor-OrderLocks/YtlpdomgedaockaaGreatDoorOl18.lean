import Derived.Test.YtlpdomgedaockaaGreatDoorOl17
import Derived.Test.YtlpdomgedaockaaGreatDoorOl0
import Derived.Test.YtlpdomgedaockaaGreatDoorOl2
import Derived.Shelf.Strings.Builder1
import Derived.Lib.Builder
import Derived.Lib.AppendStr
import Derived.Lib.UnsafeStr
import Derived.Below
import Derived.Test.YtlpdomgedaockaaGreatDoorOl5
import Derived.Laws.IdiomCopy
import Derived.Laws.Rows
import Derived.Laws.Tables
set_option linter.unusedVariables false
set_option linter.unusedSimpArgs false
namespace Go.Proofs.YtlpdomgedaockaaGreatDoor
open Go.ChangeShapes Go.WideShapes Go.ChangeAt Go.RowKit Go.Proofs.Cod
set_option linter.unusedVariables false
def laidAll : List (String × DataW Unit) := [("math/bits.deBruijn32tab", Rows.laid_math_bits_deBruijn32tab), ("math/bits.deBruijn64tab", Rows.laid_math_bits_deBruijn64tab), ("internal/strconv.uint64pow10", Rows.laid_internal_strconv_uint64pow10), ("unicode/utf8.acceptRanges", Rows.laid_unicode_utf8_acceptRanges), ("strconv.ErrRange", Rows.laid_strconv_ErrRange), ("strconv.ErrSyntax", Rows.laid_strconv_ErrSyntax), ("weave/code.headings", Rows.laid_weave_code_headings), ("weave/code.shapes", Rows.laid_weave_code_shapes), ("unicode/utf8.first", Rows.laid_unicode_utf8_first)]
def headD : List (List UInt8 × Lit) := [(tVar, .int .u8 118), (tFlag, .int .u8 102), (tLock, .int .u8 109)]
def shapeD : List (List UInt8 × Lit) := shapeT.map fun p => (p.1, .string p.2)
set_option maxRecDepth 100000 in
theorem tabs_of {W : World} (h : laidMetH Tryz.prog laidAll W) (hsh : W.ShapedOpen Tryz.prog) : Tabs W 4 := by
  have hM : laidMet Tryz.prog laidAll W := h
  have h1 : laidMet Tryz.prog [("internal/strconv.uint64pow10", Lib.tabData .u64 Lib.pow10Tab)] W := hM.filter (fun x => x.1 == "internal/strconv.uint64pow10")
  have h2 : laidMet Tryz.prog [("weave/code.headings", .agg (headD.map fun q => .agg [.lit (.string q.1), .lit q.2]))] W := hM.filter (fun x => x.1 == "weave/code.headings")
  have h3 : laidMet Tryz.prog [("weave/code.shapes", .agg (shapeD.map fun q => .agg [.lit (.string q.1), .lit q.2]))] W := hM.filter (fun x => x.1 == "weave/code.shapes")
  refine ⟨?_, ?_, Lib.tabIs_of_head (rest := []) Tryz.powG (by kernel_rfl) Tryz.underlying247 Tryz.underlying165 (by kernel_rfl) (by kernel_rfl) h1, Nat.le_refl _⟩
  · have := var_pairs (g := 1) (by kernel_rfl) (by kernel_rfl) Tryz.underlying223 Tryz.underlying222 rfl rfl Tryz.underlying9 (.inr Tryz.underlying5) (by kernel_rfl) (by kernel_rfl) (by kernel_rfl) (by kernel_rfl) (by kernel_rfl) (of_decide_eq_true (by kernel_rfl)) hsh h2
    obtain ⟨fr, e⟩ := this
    rw [show (headD.flatMap fun q => [Value.string ⟨q.1.toArray⟩, litV q.2]).toArray = tabC headL by kernel_rfl] at e
    exact ⟨fr, e⟩
  · have := var_pairs (g := 2) (by kernel_rfl) (by kernel_rfl) Tryz.underlying240 Tryz.underlying239 rfl rfl Tryz.underlying9 (.inl Tryz.underlying9) (by kernel_rfl) (by kernel_rfl) (by kernel_rfl) (by kernel_rfl) (by kernel_rfl) (of_decide_eq_true (by kernel_rfl)) hsh h3
    obtain ⟨fr, e⟩ := this
    rw [show (shapeD.flatMap fun q => [Value.string ⟨q.1.toArray⟩, litV q.2]).toArray = tabC shapeL by kernel_rfl] at e
    exact ⟨fr, e⟩
def litC : DataW Unit → Value
  | .lit x => litV x
  | _ => .int .i64 0
def cells1 : DataW Unit → Array Value
  | .agg l => (l.map litC).toArray
  | _ => #[]
def cells2 : DataW Unit → Array Value
  | .agg l => (l.flatMap fun d => (cells1 d).toList).toArray
  | _ => #[]
def errText : DataW Unit → ByteArray
  | .iface _ (.ptr (.agg [.lit (.string b)])) => ⟨b.toArray⟩
  | _ => .empty
noncomputable def low : Nat := (World.holding Tryz.prog default ⟨#[], #[], []⟩).heap.size
def put (cs : Array Value) : Obj → Obj
  | .cells _ t frozen => .cells cs t frozen
  | o => o
noncomputable def laidWorld (os : Os) : World :=
  let w0 := World.holding Tryz.prog os ⟨#[.cells #[.string (errText Rows.laid_strconv_ErrRange)] 272, .cells #[.string (errText Rows.laid_strconv_ErrSyntax)] 272], #[], []⟩
  { w0 with heap := ((((((((w0.heap.modify 7 (put (cells1 Rows.laid_math_bits_deBruijn32tab))).modify 0 (put (cells1 Rows.laid_math_bits_deBruijn64tab))).modify 3 (put (cells1 Rows.laid_internal_strconv_uint64pow10))).modify 5 (put (cells2 Rows.laid_unicode_utf8_acceptRanges))).modify 9 (put #[.iface 270 (.pointer (some ⟨low, 0, none⟩))])).modify 8 (put #[.iface 270 (.pointer (some ⟨low + 1, 0, none⟩))])).modify 1 (put (cells2 Rows.laid_weave_code_headings))).modify 2 (put (cells2 Rows.laid_weave_code_shapes))).modify 4 (put (cells1 Rows.laid_unicode_utf8_first)) }
theorem laid_met (os : Os) : laidMet Tryz.prog laidAll ((laidWorld os).forCall (fun _ _ => 0) ⟨#[], #[.string .empty], []⟩).memory :=
  laidMet_of_run' 8 (by kernel_rfl) (by kernel_rfl)
end Go.Proofs.YtlpdomgedaockaaGreatDoor
namespace Go.Proofs
open Go.Shelf
shelf_lay Lays.n169 Nm 169 at Tryz as Tryz.lays169
set_option maxRecDepth 100000 in
theorem Tryz.extra169 : Builder.Extra Tryz.prog Tryz.lays169_ren := { sizeBuilder := by kernel_rfl, liesBuilder := by kernel_rfl, t5 := Tryz.underlying5, a5 := Tryz.isAgg5, z5 := Tryz.sizeOf5, v5 := Tryz.zeroValue5, infoByte := by kernel_rfl, cellsByte := by kernel_rfl, sizeByte := by kernel_rfl, neB5 := by decide }
end Go.Proofs
namespace Go.Proofs.YtlpdomgedaockaaGreatDoor
open Go.RowKit Go.Shelf Go.Proofs.Cod
theorem Tryz.infoU8b : (Tryz.prog.info? 5).map (fun i => (i.zero, i.size, i.bytes)) = some (some (.int .u8 0), 1, 1) := by kernel_rfl
theorem Tryz.sizeBdb : (Tryz.prog.info? 118).map (·.size) = some 2 := by kernel_rfl
theorem Tryz.liesBdb : liesAt Tryz.prog Tryz.prog.depth 118 (2 / Tryz.prog.cellsOf 118) 0 118 1 = true := by kernel_rfl
structure BWv (w : World) (B b : Nat) (buf : Value) (out : Tx) : Prop where
  cell : ∃ p, (p = .pointer none ∨ p = .pointer (some ⟨b, 0, none⟩)) ∧ w.heap[b]? = some (.cells #[p, buf] 118)
  row : w.ownsRow B 5 1 buf out.length (Lib.byteCells out)
  ne : buf.ownBlock ≠ some b
  hb : B ≤ b
def BW (w : World) (B b : Nat) (out : Tx) : Prop := ∃ buf, BWv w B b buf out
section
variable {w w' : World} {B b : Nat} {buf : Value} {out : Tx}
theorem BWv.lt (h : BWv w B b buf out) : b < w.heap.size := by
  obtain ⟨p, _, hp⟩ := h.cell
  exact (Array.getElem?_eq_some_iff.1 hp).1
theorem BW.below (h : BW w B b out) (hb : Below w.heap.size w w') : BW w' B b out := by
  obtain ⟨buf, h⟩ := h
  have hl := h.lt
  obtain ⟨p, q1, q2⟩ := h.cell
  exact ⟨buf, ⟨p, q1, (hb.block b hl).trans q2⟩, owns_same h.row (fun g e => hb.block g (h.row.lt g e).2), h.ne, h.hb⟩
theorem BW.fresh (w : World) : BW (w.alloc (.cells #[.pointer none, .slice none 0 0] 118)) w.heap.size w.heap.size [] :=
  ⟨.slice none 0 0, ⟨_, .inl rfl, by show (w.heap.push _)[w.heap.size]? = _; simp⟩, World.ownsRow_nil _ _ _ _, by simp [Value.ownBlock], Nat.le_refl _⟩
set_option maxHeartbeats 1000000 in
set_option maxRecDepth 100000 in
theorem bCheck_any (h : BWv w B b buf out) : Calls Tryz.prog 114 #[.pointer (some ⟨b, 0, none⟩)] w fun e w' => e = .returned (.tuple #[]) ∧ w'.heap[b]? = some (.cells #[.pointer (some ⟨b, 0, none⟩), buf] 118) ∧ w'.heap.size = w.heap.size ∧ (∀ k, k ≠ b → w'.heap[k]? = w.heap[k]?) ∧ w'.os = w.os ∧ w'.tape = w.tape ∧ w'.output = w.output := by
  obtain ⟨j, hj, hjs⟩ := Option.map_eq_some_iff.1 Tryz.sizeBdb
  obtain ⟨p, h1, hp⟩ := h.cell
  have c4 : w.cell? ⟨b, 0, none⟩ = some p := by simp [World.cell?, hp]
  have hsh : w.shape? b = some (118, 2) := by simp [World.shape?, hp]
  have f4 : w.frozen? ⟨b, 0, none⟩ = false := by simp [World.frozen?, hp]
  have HP := hide hp
  clear h hp
  rcases h1 with rfl | rfl
  · go_enter Tryz.func114, Tryz.ntmps114
    go_wp2
    rw [Lib.run_to_unsafe w ⟨b, 0, none⟩ Tryz.underlying115 Tryz.underlying228 hj (by rw [hjs]; decide) hsh (by show 0 < 2; omega)]
    simp only [Result.andThen]
    rw [Oper.upon_value]
    go_wp2
    rw [run_callFunc_extern Tryz.func133 (by kernel_rfl) (by kernel_rfl) (by kernel_rfl) (e := Extern.AbiNoEscape.same) (by kernel_rfl)]
    rw [Lib.run_noEscape]
    simp only [Result.andThen]
    rw [Oper.upon_value]
    go_wp2
    rw [Lib.run_from_unsafe w ⟨b, 0, none⟩ Tryz.underlying228 Tryz.underlying115 hj hsh Tryz.liesBdb]
    simp only [Result.andThen]
    rw [Oper.upon_value]
    go_wp2
    go_end0
    exact ⟨rfl, (heap_setCell_same _ b 0 _ _ _ HP.out).trans rfl, by simp, fun k hk => Below.heap_setCell _ ⟨b, 0, none⟩ _ k hk, rfl, rfl, rfl⟩
  · go_enter Tryz.func114, Tryz.ntmps114
    go_wp2
    rw [Lib.run_neq_ptr_same w _ Tryz.underlying115 hj]
    go_wp2
    go_end0
    exact ⟨rfl, HP.out, rfl, fun _ _ => rfl, rfl, rfl, rfl⟩
set_option maxHeartbeats 1000000 in
set_option maxRecDepth 100000 in
theorem bString_any (h : BW w B b out) (s : Tx) (hlen : out.length + s.length ≤ 140737488355328) (hbw : B ≤ w.heap.size) :
    Calls Tryz.prog 85 #[ptrV b, .string (bs s)] w fun e w' => e = .returned (.tuple #[.int .i64 s.length, .nilIface]) ∧ BW w' B b (out ++ s) ∧ Below B w w' := by
  obtain ⟨buf, h⟩ := h
  obtain ⟨i0, hi, hz0, hz1, hz2⟩ := info_parts Tryz.infoU8b
  have hzs := bs_size s
  have hC := hide (bCheck_any h)
  have H := hide h
  clear h
  unfold ptrV
  go_enter Tryz.func85, Tryz.ntmps85
  go_wp2_with fail
  refine hC.out.mono ?_
  rintro e w1 ⟨rfl, hbk, hsz1, hk1, ho1, ht1, hp1⟩
  have hown : w1.ownsRow B 5 1 buf out.length (Lib.byteCells out) := owns_same H.out.row fun g e => hk1 g (fun e' => H.out.ne (by rw [e, e']))
  have c5 : w1.cell? ⟨b, 1, none⟩ = some buf := by simp [World.cell?, hbk]
  have HB := hide (⟨hbk, hsz1, hk1, ho1, ht1, hp1⟩ : _ ∧ _ ∧ _ ∧ _ ∧ _ ∧ _)
  clear hbk hsz1 hk1 ho1 ht1 hp1
  go_wp2_with (at_builtin; refine Lib.wpList_append_own_string _ rfl _ _ 116 9 rfl B 5 i0 Tryz.underlying116 Tryz.underlying9 hi hz0 hz1 hz2 _ _ _ rfl hown (bs s) rfl ?c3 ?c4 ?c5 ?_)
  case c3 => rw [hzs]; unfold maxLen; omega
  case c4 => rw [hzs]; exact hlen
  case c5 => have := HB.out.2.1; omega
  intro v' w2 hown' hgrow hnil
  obtain ⟨hbk, hsz1, hk1, ho1, ht1, hp1⟩ := HB.out
  have hb2 : w2.heap[b]? = some (.cells #[.pointer (some ⟨b, 0, none⟩), buf] 118) := (hgrow.block b (by rw [hsz1]; exact H.out.lt) (fun e => H.out.ne e.symm)).trans hbk
  have d5 : w2.cell? ⟨b, 1, none⟩ = some buf := by simp [World.cell?, hb2]
  have f5 : w2.frozen? ⟨b, 1, none⟩ = false := by simp [World.frozen?, hb2]
  obtain ⟨ao, n', cap, rfl⟩ : ∃ ao n' cap, v' = .slice ao n' cap := by
    rcases hown'.2 with ⟨hv, _⟩ | ⟨g, cap, cur, hv, _⟩
    · exact ⟨_, _, _, hv⟩
    · exact ⟨_, _, _, hv⟩
  have HB2 := hide (⟨hb2, hown', hgrow⟩ : _ ∧ _ ∧ _)
  clear hb2 hown' hgrow hnil hbk hsz1 hk1 ho1 ht1 hp1 hown
  go_wp2
  go_ret2
  obtain ⟨hbk, hsz1, hk1, ho1, ht1, hp1⟩ := HB.out
  obtain ⟨hb2, hown', hgrow⟩ := HB2.out
  have hne : (Value.slice ao n' cap).ownBlock ≠ some b := Lib.ownBlock_ne hown' hb2 (by decide)
  have hbs : Lib.byteCells out ++ Lib.strCells (bs s) = Lib.byteCells (out ++ s) := by rw [Lib.strCells_eq, Lib.byteCells_append]; rfl
  refine ⟨rfl, ⟨.slice ao n' cap, ⟨_, .inr rfl, (heap_setCell_same _ b 1 _ _ _ hb2).trans rfl⟩, ?_, hne, H.out.hb⟩, ⟨hgrow.os.trans ho1, hgrow.tape.trans ht1, hgrow.output.trans hp1, by simp only [World.size_setCell]; have := hgrow.size; omega, fun k hk => ?_⟩⟩
  · rw [List.length_append, ← hbs]
    exact owns_same hown' fun g e => Below.heap_setCell _ ⟨b, 1, none⟩ _ g (fun e' => hne (by rw [e, e']))
  · have hkb : k ≠ b := by have := H.out.hb; omega
    rw [Below.heap_setCell _ ⟨b, 1, none⟩ _ k hkb, hgrow.block k (by omega) (fun e => by have := (H.out.row.lt k e.symm).1; omega), hk1 k hkb]
set_option maxHeartbeats 1000000 in
set_option maxRecDepth 100000 in
theorem bByte_any (h : BW w B b out) (c : UInt8) (hlen : out.length + 1 ≤ 140737488355328) (hbw : B ≤ w.heap.size) :
    Calls Tryz.prog 86 #[ptrV b, .int .u8 c.toNat] w fun e w' => e = .returned .nilIface ∧ BW w' B b (out ++ [c]) ∧ Below B w w' := by
  obtain ⟨buf, h⟩ := h
  obtain ⟨i0, hi, hz0, hz1, hz2⟩ := info_parts Tryz.infoU8b
  have hC := hide (bCheck_any h)
  have H := hide h
  clear h
  unfold ptrV
  go_enter Tryz.func86, Tryz.ntmps86
  go_wp2_with fail
  refine hC.out.mono ?_
  rintro e w1 ⟨rfl, hbk, hsz1, hk1, ho1, ht1, hp1⟩
  have hown : w1.ownsRow B 5 1 buf out.length (Lib.byteCells out) := owns_same H.out.row fun g e => hk1 g (fun e' => H.out.ne (by rw [e, e']))
  have c5 : w1.cell? ⟨b, 1, none⟩ = some buf := by simp [World.cell?, hbk]
  have HB := hide (⟨hbk, hsz1, hk1, ho1, ht1, hp1⟩ : _ ∧ _ ∧ _ ∧ _ ∧ _ ∧ _)
  clear hbk hsz1 hk1 ho1 ht1 hp1
  go_wp2_with (at_builtin; refine wpList_append_own _ rfl _ _ 116 rfl B 5 i0 (.int .u8 0) 1 1 Tryz.underlying116 hi hz0 hz1 hz2 rfl (by decide) _ _ _ rfl (hown.alloc _) ⟨w1.heap.size, 0, none⟩ 1 1 [.int .u8 c.toNat] rfl rfl ?c1 ?c2 ?c3 ?c4 ?c5 ?_)
  case c1 =>
    intro j u hj
    match j, hj with
    | 0, hj => simp at hj; subst hj; simp [Addr.add]
  case c2 => intro u hu; simp at hu; subst hu; rfl
  case c3 => unfold maxLen; omega
  case c4 => omega
  case c5 => have := HB.out.2.1; simp; omega
  intro v' w2 hown' hgrow hnil
  obtain ⟨hbk, hsz1, hk1, ho1, ht1, hp1⟩ := HB.out
  have hb2 : w2.heap[b]? = some (.cells #[.pointer (some ⟨b, 0, none⟩), buf] 118) := by
    rw [hgrow.block b (by simp; have := H.out.lt; omega) (fun e => H.out.ne e.symm), Lib.alloc_old w1 _ b (by rw [hsz1]; exact H.out.lt)]
    exact hbk
  have d5 : w2.cell? ⟨b, 1, none⟩ = some buf := by simp [World.cell?, hb2]
  have f5 : w2.frozen? ⟨b, 1, none⟩ = false := by simp [World.frozen?, hb2]
  obtain ⟨g, cap, rfl⟩ : ∃ g cap, v' = .slice (some ⟨g, 0, none⟩) (out.length + 1) cap := by
    rcases hown'.2 with ⟨_, h0⟩ | ⟨g, cap, cur, hv, _⟩
    · omega
    · exact ⟨g, cap, hv⟩
  have HB2 := hide (⟨hb2, hown', hgrow⟩ : _ ∧ _ ∧ _)
  clear hb2 hown' hgrow hnil hbk hsz1 hk1 ho1 ht1 hp1 hown
  go_wp2
  go_ret
  obtain ⟨hbk, hsz1, hk1, ho1, ht1, hp1⟩ := HB.out
  obtain ⟨hb2, hown', hgrow⟩ := HB2.out
  have hne : (Value.slice (some ⟨g, 0, none⟩) (out.length + 1) cap).ownBlock ≠ some b := Lib.ownBlock_ne hown' hb2 (by decide)
  have hbs : Lib.byteCells out ++ [.int .u8 c.toNat] = Lib.byteCells (out ++ [c]) := by rw [Lib.byteCells_append]; rfl
  have hgs := hgrow.size
  simp at hgs
  refine ⟨rfl, ⟨.slice (some ⟨g, 0, none⟩) (out.length + 1) cap, ⟨_, .inr rfl, (heap_setCell_same _ b 1 _ _ _ hb2).trans rfl⟩, ?_, hne, H.out.hb⟩, ⟨hgrow.os.trans ho1, hgrow.tape.trans ht1, hgrow.output.trans hp1, by simp only [World.size_setCell]; omega, fun k hk => ?_⟩⟩
  · rw [List.length_append, ← hbs]
    exact owns_same hown' fun g e => Below.heap_setCell _ ⟨b, 1, none⟩ _ g (fun e' => hne (by rw [e, e']))
  · have hkb : k ≠ b := by have := H.out.hb; omega
    rw [Below.heap_setCell _ ⟨b, 1, none⟩ _ k hkb, hgrow.block k (by simp; omega) (fun e => by have := (H.out.row.lt k e.symm).1; omega), Lib.alloc_old w1 _ k (by omega), hk1 k hkb]
theorem bDone_any (h : BW w B b out) (hB : B ≤ w.heap.size) :
    Calls Tryz.prog 38 #[ptrV b] w fun e w' => e = .returned (.string (bs out)) ∧ Below B w w' := by
  obtain ⟨buf, h⟩ := h
  have hI : Lib.IsBuilder 118 5 B b (Lib.byteCells out) w := by
    obtain ⟨p, h1, hp⟩ := h.cell
    have hr := h.row
    have e : (Lib.byteCells out).length = out.length := by simp [Lib.byteCells]
    rw [← e] at hr
    rcases h1 with rfl | rfl
    · exact .inl ⟨h.hb, buf, hp, hr, h.ne⟩
    · exact .inr ⟨h.hb, buf, hp, hr, h.ne⟩
  refine (Any.Builder_String_any Tryz.lays169 Tryz.extra169 B b out w hI hB).mono ?_
  rintro e w' ⟨rfl, h2⟩
  exact ⟨rfl, h2⟩
end
end Go.Proofs.YtlpdomgedaockaaGreatDoor
namespace Go.Proofs.YtlpdomgedaockaaGreatDoor
open Go.RowKit Go.Proofs.Cod
def argB4 (r : Bool) (n : Int) : Prop := 0 ≤ n ∧ n < 1000 ∧ (r = true → n < 4)
def sm2 (i : In7) : Prop := (0 ≤ i.r ∧ i.r < 4) ∧ argB4 i.aR i.aN ∧ argB4 i.bR i.bN
structure InsX (nv nf nl nt n : Nat) (i : In7) : Prop where
  sm : sm2 i
  x0 : 0 ≤ i.x
  ex : ∃ q, q ∈ shapeT ∧ i.op = q.1 ∧ ((118 : UInt8) ∈ q.2 → i.x < nv) ∧ ((102 : UInt8) ∈ q.2 → i.x < nf) ∧ ((109 : UInt8) ∈ q.2 → i.x < nl) ∧ ((116 : UInt8) ∈ q.2 → i.x < nt) ∧ ((108 : UInt8) ∈ q.2 → i.x ≤ n)
structure ProgB (vs fs ls ts : List Tx) (C : List (List In7)) : Prop where
  v : vs.length ≤ 4
  f : fs.length ≤ 4
  l : ls.length ≤ 4
  t : ts.length ≤ 4
  v8 : ∀ x, x ∈ vs → x.length ≤ 8
  f8 : ∀ x, x ∈ fs → x.length ≤ 8
  l8 : ∀ x, x ∈ ls → x.length ≤ 8
  t8 : ∀ x, x ∈ ts → x.length ≤ 8
  len : C.length = ts.length
  code : ∀ c, c ∈ C → c.length ≤ 24 ∧ ∀ i, i ∈ c → InsX vs.length fs.length ls.length ts.length c.length i
end Go.Proofs.YtlpdomgedaockaaGreatDoor
namespace Go.Proofs.YtlpdomgedaockaaGreatDoor
open Go.RowKit Go.Proofs.Cod
def oSet : Tx := [115, 101, 116]
def oAdd : Tx := [97, 100, 100]
def oSub : Tx := [115, 117, 98]
def oMul : Tx := [109, 117, 108]
def oLoad : Tx := [108, 111, 97, 100]
def oStore : Tx := [115, 116, 111, 114, 101]
def oGet : Tx := [103, 101, 116]
def oPut : Tx := [112, 117, 116]
def oLock : Tx := [108, 111, 99, 107]
def oUnlock : Tx := [117, 110, 108, 111, 99, 107]
def oSpawn : Tx := [115, 112, 97, 119, 110]
def oJoin : Tx := [106, 111, 105, 110]
def oJump : Tx := [106, 117, 109, 112]
def oJeq : Tx := [106, 101, 113]
def oJlt : Tx := [106, 108, 116]
def oCheck : Tx := [99, 104, 101, 99, 107]
def oEnd : Tx := [101, 110, 100]
structure TS where
  ph : Int
  pc : Nat
  regs : List Int
structure MS where
  vars : List Int
  flags : List Int
  locks : List Int
  thr : List TS
structure Ev where
  t : Int
  k : Int
  o : Int
  v : Int
def ts0 : TS := ⟨0, 0, [0, 0, 0, 0]⟩
def endI : In7 := newIns oEnd
def nextI (C : List (List In7)) (t : Nat) (th : TS) : In7 := (C.getD t []).getD th.pc endI
def vlM (th : TS) (r : Bool) (n : Int) : Int := if r then th.regs.getD n.toNat 0 else n
def MS.th (s : MS) (t : Nat) : TS := s.thr.getD t ts0
def MS.setT (s : MS) (t : Nat) (th : TS) : MS := { s with thr := s.thr.set t th }
def overM (th : TS) : Bool := th.ph == 2 || th.ph == 3
def waitsM (s : MS) (x : In7) : Bool :=
  if x.op = oLock then decide (s.locks.getD x.x.toNat 0 ≠ -1) else if x.op = oJoin then !overM (s.th x.x.toNat) else if x.op = oSpawn then decide ((s.th x.x.toNat).ph ≠ 0) else false
def canM (C : List (List In7)) (s : MS) (t : Int) : Int :=
  if t < 0 ∨ (s.thr.length : Int) ≤ t ∨ (s.th t.toNat).ph = 0 then 5 else if overM (s.th t.toNat) = true then 6 else if waitsM s (nextI C t.toNat (s.th t.toNat)) = true then 7 else 0
def stpM (k : Bool) (s : MS) (t : Nat) (x : In7) : MS × Ev :=
  let th := s.th t
  let a := vlM th x.aR x.aN
  let b := vlM th x.bR x.bN
  let to := th.pc + 1
  let ov := if k then th.pc else th.pc + 1
  let n := x.x.toNat
  let reg := fun v => s.setT t { th with pc := to, regs := th.regs.set x.r.toNat v }
  if x.op = oSet then (reg a, ⟨t, 0, 0, 0⟩)
  else if x.op = oAdd then (reg ((a + b) % 1000), ⟨t, 0, 0, 0⟩)
  else if x.op = oSub then (reg ((a - b + 1000) % 1000), ⟨t, 0, 0, 0⟩)
  else if x.op = oMul then (reg (a * b % 1000), ⟨t, 0, 0, 0⟩)
  else if x.op = oLoad then (reg (s.vars.getD n 0), ⟨t, 1, x.x, s.vars.getD n 0⟩)
  else if x.op = oStore then ({ s.setT t { th with pc := to } with vars := s.vars.set n a }, ⟨t, 2, x.x, a⟩)
  else if x.op = oGet then (reg (s.flags.getD n 0), ⟨t, 3, x.x, s.flags.getD n 0⟩)
  else if x.op = oPut then ({ s.setT t { th with pc := to } with flags := s.flags.set n a }, ⟨t, 4, x.x, a⟩)
  else if x.op = oLock then ({ s.setT t { th with pc := to } with locks := s.locks.set n t }, ⟨t, 5, x.x, 0⟩)
  else if x.op = oUnlock then (if s.locks.getD n 0 ≠ t then (s.setT t { th with ph := 3, pc := ov }, ⟨t, 9, 0, 0⟩) else ({ s.setT t { th with pc := to } with locks := s.locks.set n (-1) }, ⟨t, 6, x.x, 0⟩))
  else if x.op = oSpawn then ((s.setT t { th with pc := to }).setT n { (s.setT t { th with pc := to }).th n with ph := 1 }, ⟨t, 7, x.x, 0⟩)
  else if x.op = oJoin then (s.setT t { th with pc := to }, ⟨t, 8, x.x, 0⟩)
  else if x.op = oJump then (s.setT t { th with pc := n }, ⟨t, 0, 0, 0⟩)
  else if x.op = oJeq then (s.setT t { th with pc := if a = b then n else to }, ⟨t, 0, 0, 0⟩)
  else if x.op = oJlt then (s.setT t { th with pc := if a < b then n else to }, ⟨t, 0, 0, 0⟩)
  else if x.op = oCheck then (if a ≠ b then (s.setT t { th with ph := 3, pc := ov }, ⟨t, 9, 0, 0⟩) else (s.setT t { th with pc := to }, ⟨t, 0, 0, 0⟩))
  else (s.setT t { th with ph := 2, pc := ov }, ⟨t, 10, 0, 0⟩)
def newM (nv nf nl nt : Nat) : MS := ⟨List.replicate nv 0, List.replicate nf 0, List.replicate nl (-1), (List.range nt).map fun t => if t = 0 then { ts0 with ph := 1 } else ts0⟩
def val3 (n : Int) : Prop := 0 ≤ n ∧ n < 1000
structure TOk (n : Nat) (th : TS) : Prop where
  ph : 0 ≤ th.ph ∧ th.ph ≤ 3
  pc : th.ph ≤ 1 → th.pc ≤ n
  pc2 : th.pc ≤ n + 1
  rl : th.regs.length = 4
  rv : ∀ v, v ∈ th.regs → val3 v
structure MOk (nv nf nl : Nat) (C : List (List In7)) (s : MS) : Prop where
  vl : s.vars.length = nv
  fl : s.flags.length = nf
  ll : s.locks.length = nl
  tl : s.thr.length = C.length
  vv : ∀ v, v ∈ s.vars → val3 v
  fv : ∀ v, v ∈ s.flags → val3 v
  lv : ∀ v, v ∈ s.locks → -1 ≤ v ∧ v < C.length
  th : ∀ t, t < C.length → TOk (C.getD t []).length (s.th t)
theorem newM_ok (nv nf nl : Nat) (C : List (List In7)) : MOk nv nf nl C (newM nv nf nl C.length) := by
  refine ⟨by simp [newM], by simp [newM], by simp [newM], by simp [newM], fun v hv => ?_, fun v hv => ?_, fun v hv => ?_, fun t ht => ?_⟩
  · obtain ⟨-, rfl⟩ := List.mem_replicate.1 hv
    exact ⟨by omega, by omega⟩
  · obtain ⟨-, rfl⟩ := List.mem_replicate.1 hv
    exact ⟨by omega, by omega⟩
  · obtain ⟨-, rfl⟩ := List.mem_replicate.1 hv
    exact ⟨by omega, by omega⟩
  · have e : (newM nv nf nl C.length).th t = if t = 0 then { ts0 with ph := 1 } else ts0 := by
      unfold MS.th newM
      rw [List.getD_eq_getElem?_getD, List.getElem?_map, List.getElem?_range ht]; rfl
    rw [e]
    have hr : ∀ v, v ∈ ts0.regs → val3 v := by
      intro v hv
      simp [ts0] at hv
      subst hv
      exact ⟨by omega, by omega⟩
    split
    · exact ⟨⟨by decide, by decide⟩, fun _ => Nat.zero_le _, Nat.zero_le _, rfl, hr⟩
    · exact ⟨⟨by decide, by decide⟩, fun _ => Nat.zero_le _, Nat.zero_le _, rfl, hr⟩
theorem getD_mem {α : Type} {l : List α} {k : Nat} {d : α} (h : k < l.length) : l.getD k d ∈ l := by
  rw [List.getD_eq_getElem?_getD, List.getElem?_eq_getElem h]
  exact List.getElem_mem h
theorem set_all {α : Type} {l : List α} {p : α → Prop} (h : ∀ v, v ∈ l → p v) {k : Nat} {x : α} (hx : p x) : ∀ v, v ∈ l.set k x → p v := fun v hv => by
  rcases List.mem_or_eq_of_mem_set hv with hv | rfl
  · exact h v hv
  · exact hx
theorem th_set (s : MS) (t u : Nat) (th : TS) (ht : t < s.thr.length) : (s.setT t th).th u = if u = t then th else s.th u := by
  unfold MS.th MS.setT
  rw [List.getD_eq_getElem?_getD, List.getElem?_set, List.getD_eq_getElem?_getD]
  by_cases e : u = t
  · subst e
    rw [if_pos rfl, if_pos ht, if_pos rfl]; rfl
  · rw [if_neg (fun e' => e e'.symm), if_neg e]
section
variable {nv nf nl : Nat} {C : List (List In7)} {s : MS}
theorem MOk.setT (h : MOk nv nf nl C s) {t : Nat} (ht : t < C.length) {th : TS} (hth : TOk (C.getD t []).length th) : MOk nv nf nl C (s.setT t th) := by
  refine ⟨h.vl, h.fl, h.ll, by show (s.thr.set t th).length = _; rw [List.length_set]; exact h.tl, h.vv, h.fv, h.lv, fun u hu => ?_⟩
  rw [th_set s t u th (by rw [h.tl]; exact ht)]
  split
  · rename_i e; subst e; exact hth
  · exact h.th u hu
theorem vlM_ok {n : Nat} {th : TS} (h : TOk n th) {r : Bool} {m : Int} (ha : argB4 r m) : val3 (vlM th r m) := by
  unfold vlM
  split
  · rename_i e
    have := ha.2.2 e
    have h0 := ha.1
    exact h.rv _ (getD_mem (by rw [h.rl]; omega))
  · exact ⟨ha.1, ha.2.1⟩
theorem mod_ok (a : Int) : val3 (a % 1000) := ⟨by omega, by omega⟩
theorem step_ok (k : Bool) (h : MOk nv nf nl C s) {t : Nat} (ht : t < C.length) (hph : (s.th t).ph = 1) {x : In7} (hw : waitsM s x = false) (hx : x = endI ∨ (InsX nv nf nl C.length (C.getD t []).length x ∧ (s.th t).pc < (C.getD t []).length)) : MOk nv nf nl C (stpM k s t x).1 := by
  have hT := h.th t ht
  have hpc := hT.pc (by omega)
  have hov : (if k then (s.th t).pc else (s.th t).pc + 1) ≤ (C.getD t []).length + 1 := by split <;> omega
  have fin : ∀ p : Int, p = 2 ∨ p = 3 → TOk (C.getD t []).length { s.th t with ph := p, pc := if k then (s.th t).pc else (s.th t).pc + 1 } := fun p hp =>
    ⟨by show 0 ≤ p ∧ p ≤ 3; omega, fun e => by have e : p ≤ 1 := e; omega, hov, hT.rl, hT.rv⟩
  rcases hx with rfl | ⟨hx, hlt⟩
  · exact h.setT ht (fin 2 (.inl rfl))
  · have stay : ∀ n, n ≤ (C.getD t []).length → TOk (C.getD t []).length { s.th t with pc := n } := fun n hn => ⟨hT.ph, fun _ => hn, by show n ≤ _; omega, hT.rl, hT.rv⟩
    have reg : ∀ v, val3 v → TOk (C.getD t []).length { s.th t with pc := (s.th t).pc + 1, regs := (s.th t).regs.set x.r.toNat v } := fun v hv =>
      ⟨hT.ph, fun _ => by show _ + 1 ≤ _; omega, by show _ + 1 ≤ _; omega, by show (List.set _ _ _).length = 4; rw [List.length_set]; exact hT.rl, set_all hT.rv hv⟩
    have go := h.setT ht (stay ((s.th t).pc + 1) (by omega))
    have ha := vlM_ok hT hx.sm.2.1
    have hb := vlM_ok hT hx.sm.2.2
    obtain ⟨q, hq, hop, x1, x2, x3, x4, x5⟩ := hx.ex
    have hx0 := hx.x0
    simp only [shapeT, List.mem_cons, List.not_mem_nil, or_false] at hq
    rcases hq with rfl | rfl | rfl | rfl | rfl | rfl | rfl | rfl | rfl | rfl | rfl | rfl | rfl | rfl | rfl | rfl | rfl <;> unfold stpM <;> rw [hop]
    · exact h.setT ht (reg _ ha)
    · exact h.setT ht (reg _ (mod_ok _))
    · exact h.setT ht (reg _ (mod_ok _))
    · exact h.setT ht (reg _ (mod_ok _))
    · exact h.setT ht (reg _ (h.vv _ (getD_mem (by rw [h.vl]; have := x1 (by decide); omega))))
    · exact ⟨by show (List.set _ _ _).length = _; rw [List.length_set]; exact h.vl, go.fl, go.ll, go.tl, set_all h.vv ha, go.fv, go.lv, go.th⟩
    · exact h.setT ht (reg _ (h.fv _ (getD_mem (by rw [h.fl]; have := x2 (by decide); omega))))
    · exact ⟨go.vl, by show (List.set _ _ _).length = _; rw [List.length_set]; exact h.fl, go.ll, go.tl, go.vv, set_all h.fv ha, go.lv, go.th⟩
    · exact ⟨go.vl, go.fl, by show (List.set _ _ _).length = _; rw [List.length_set]; exact h.ll, go.tl, go.vv, go.fv, set_all h.lv ⟨by omega, by omega⟩, go.th⟩
    · show MOk nv nf nl C (Prod.fst (if s.locks.getD x.x.toNat 0 ≠ t then _ else _ : MS × Ev))
      split
      · exact h.setT ht (fin 3 (.inr rfl))
      · exact ⟨go.vl, go.fl, by show (List.set _ _ _).length = _; rw [List.length_set]; exact h.ll, go.tl, go.vv, go.fv, set_all h.lv ⟨by omega, by omega⟩, go.th⟩
    · have hn : x.x.toNat < C.length := by have := x4 (by decide); omega
      have hU := go.th _ hn
      refine go.setT hn ⟨⟨by show (0 : Int) ≤ 1; decide, by show (1 : Int) ≤ 3; decide⟩, fun _ => hU.pc ?_, hU.pc2, hU.rl, hU.rv⟩
      have hz : (s.th x.x.toNat).ph = 0 := by
        unfold waitsM at hw
        rw [hop] at hw
        have hw : decide ((s.th x.x.toNat).ph ≠ 0) = false := hw
        simpa using hw
      rw [th_set s t _ _ (by rw [h.tl]; exact ht)]
      split
      · show (s.th t).ph ≤ 1; omega
      · omega
    · exact go
    · exact h.setT ht (stay _ (by have := x5 (by decide); omega))
    · exact h.setT ht (stay _ (by split; · have := x5 (by decide); omega
                                  · omega))
    · exact h.setT ht (stay _ (by split; · have := x5 (by decide); omega
                                  · omega))
    · show MOk nv nf nl C (Prod.fst (if vlM _ _ _ ≠ vlM _ _ _ then _ else _ : MS × Ev))
      split
      · exact h.setT ht (fin 3 (.inr rfl))
      · exact go
    · exact h.setT ht (fin 2 (.inl rfl))
end
end Go.Proofs.YtlpdomgedaockaaGreatDoor
namespace Go.Proofs.YtlpdomgedaockaaGreatDoor
open Go.RowKit Go.Proofs.Cod
def RowF (w : World) (b T n : Nat) (f : Nat → Value) : Prop := ∃ cs : Array Value, w.heap[b]? = some (.cells cs T) ∧ cs.size = n ∧ ∀ k, k < n → cs[k]? = some (f k)
structure KeepS (S : Nat → Prop) (w w' : World) : Prop where
  os : w'.os = w.os
  tape : w'.tape = w.tape
  output : w'.output = w.output
  size : w.heap.size ≤ w'.heap.size
  block : ∀ k, k < w.heap.size → ¬ S k → w'.heap[k]? = w.heap[k]?
section
variable {w w' w'' : World} {b T n : Nat} {f g : Nat → Value} {S S' : Nat → Prop}
theorem RowF.lt (h : RowF w b T n f) : b < w.heap.size := by
  obtain ⟨cs, h1, -, -⟩ := h
  exact (Array.getElem?_eq_some_iff.1 h1).1
theorem RowF.cell (h : RowF w b T n f) {k : Nat} (hk : k < n) : w.cell? ⟨b, k, none⟩ = some (f k) := by
  obtain ⟨cs, h1, h2, h3⟩ := h
  rw [cell_of_row w b k cs T (0, 0) h1, h3 k hk]
theorem RowF.frozen (h : RowF w b T n f) (k : Nat) : w.frozen? ⟨b, k, none⟩ = false := by
  obtain ⟨cs, h1, h2, h3⟩ := h
  simp [World.frozen?, h1]
theorem RowF.same (h : RowF w b T n f) (e : w'.heap[b]? = w.heap[b]?) : RowF w' b T n f := by
  obtain ⟨cs, h1, h2⟩ := h
  exact ⟨cs, e.trans h1, h2⟩
theorem RowF.congr (h : RowF w b T n f) (e : ∀ k, k < n → f k = g k) : RowF w b T n g := by
  obtain ⟨cs, h1, h2, h3⟩ := h
  exact ⟨cs, h1, h2, fun k hk => by rw [h3 k hk, e k hk]⟩
theorem RowF.set (h : RowF w b T n f) (k : Nat) (v : Value) : RowF (w.setCell ⟨b, k, none⟩ v) b T n (fun j => if j = k then v else f j) := by
  obtain ⟨cs, h1, h2, h3⟩ := h
  refine ⟨cs.setIfInBounds k v, heap_setCell_same w b k cs T v h1, by simp [h2], fun j hj => ?_⟩
  rw [Array.getElem?_setIfInBounds]
  by_cases e : k = j
  · subst e
    rw [if_pos rfl, if_pos (by omega)]
    show some v = some (if k = k then v else f k)
    rw [if_pos rfl]
  · rw [if_neg e, h3 j hj]
    show some (f j) = some (if j = k then v else f j)
    rw [if_neg (fun e' : j = k => e e'.symm)]
theorem RowF.other (h : RowF w b T n f) {a : Addr} (ha : b ≠ a.block) (v : Value) : RowF (w.setCell a v) b T n f := h.same (heap_setCell_other w a b v ha)
theorem RowF.below (h : RowF w b T n f) (hb : Below w.heap.size w w') : RowF w' b T n f := h.same (hb.block b h.lt)
theorem RowF.keep (h : RowF w b T n f) (hk : KeepS S w w') (hb : ¬ S b) : RowF w' b T n f := h.same (hk.block b h.lt hb)
theorem RowF.new (w : World) (cs : Array Value) (T : Nat) (hf : ∀ k, k < cs.size → cs[k]? = some (f k)) : RowF (w.alloc (.cells cs T)) w.heap.size T cs.size f := ⟨cs, by show (w.heap.push _)[w.heap.size]? = _; simp, rfl, hf⟩
theorem KeepS.refl (w : World) : KeepS S w w := ⟨rfl, rfl, rfl, Nat.le_refl _, fun _ _ _ => rfl⟩
theorem KeepS.trans (h : KeepS S w w') (h' : KeepS S w' w'') : KeepS S w w'' := ⟨h'.os.trans h.os, h'.tape.trans h.tape, h'.output.trans h.output, Nat.le_trans h.size h'.size, fun k hk hs => (h'.block k (Nat.lt_of_lt_of_le hk h.size) hs).trans (h.block k hk hs)⟩
theorem KeepS.mono (h : KeepS S w w') (hS : ∀ k, k < w.heap.size → S k → S' k) : KeepS S' w w' := ⟨h.os, h.tape, h.output, h.size, fun k hk hs => h.block k hk (fun e => hs (hS k hk e))⟩
theorem KeepS.set (h : KeepS S w w') {a : Addr} (ha : S a.block ∨ w.heap.size ≤ a.block) (v : Value) : KeepS S w (w'.setCell a v) :=
  ⟨h.os, h.tape, h.output, by rw [World.size_setCell]; exact h.size, fun k hk hs => (heap_setCell_other w' a k v (fun e => by subst e; rcases ha with ha | ha; exact hs ha; omega)).trans (h.block k hk hs)⟩
theorem KeepS.ofBelow (h : Below w.heap.size w w') : KeepS S w w' := ⟨h.os, h.tape, h.output, h.size, fun k hk _ => h.block k hk⟩
theorem KeepS.alloc (h : KeepS S w w') (o : Obj) : KeepS S w (w'.alloc o) := h.trans (KeepS.ofBelow ((Below.refl _ _).alloc (Nat.le_refl _) o))
theorem KeepS.drew (h : KeepS S w w') : KeepS S w w'.drew := ⟨h.os, h.tape, h.output, h.size, h.block⟩
theorem setCells_row (vs : List Value) (o : Nat) : ∀ {w : World} {f : Nat → Value}, RowF w b T n f → o + vs.length ≤ n → RowF (w.setCells b o vs) b T n (fun j => if o ≤ j ∧ j < o + vs.length then vs.getD (j - o) undef else f j) := by
  induction vs generalizing o with
  | nil =>
    intro w f h _
    exact h.congr fun k _ => by
      rw [if_neg]
      simp only [List.length_nil]; omega
  | cons v r ih =>
    intro w f h hl
    simp only [List.length_cons] at hl
    have := ih (o + 1) (h.set o v) (by omega)
    show RowF ((w.setCell ⟨b, o, none⟩ v).setCells b (o + 1) r) b T n _
    refine this.congr fun k hk => ?_
    simp only [List.length_cons]
    by_cases e : k = o
    · subst e
      rw [if_neg (by omega), if_pos rfl, if_pos ⟨Nat.le_refl _, by omega⟩, Nat.sub_self]; rfl
    · by_cases e2 : o + 1 ≤ k ∧ k < o + 1 + r.length
      · rw [if_pos e2, if_pos (by omega), show k - o = (k - (o + 1)) + 1 by omega]; rfl
      · rw [if_neg e2, if_neg e, if_neg (by omega)]
theorem setCells_keep (vs : List Value) (o : Nat) : ∀ {w' : World}, KeepS S w w' → S b ∨ w.heap.size ≤ b → KeepS S w (w'.setCells b o vs) := by
  induction vs generalizing o with
  | nil => exact fun h _ => h
  | cons v r ih => exact fun h hb => ih (o + 1) (h.set hb v) hb
theorem setCells_other (vs : List Value) (o : Nat) {k : Nat} (hk : k ≠ b) : ∀ {w : World}, (w.setCells b o vs).heap[k]? = w.heap[k]? := by
  induction vs generalizing o with
  | nil => exact rfl
  | cons v r ih => exact (ih (o + 1)).trans (heap_setCell_other _ _ k v hk)
theorem setCells_size (vs : List Value) (o : Nat) : ∀ {w : World}, (w.setCells b o vs).heap.size = w.heap.size := by
  induction vs generalizing o with
  | nil => exact rfl
  | cons v r ih => exact (ih (o + 1)).trans (by simp)
end
section
variable {P : Program}
theorem add_off (b o j : Nat) : (⟨b, o, none⟩ : Addr).add j = ⟨b, o + j, none⟩ := by unfold Addr.add; split <;> simp_all
theorem run_loadVar_sub (w : World) (b o n ty : Nat) (f : Nat → Value) (d : TypeDesc) (hc : ∀ j, j < n → w.cell? ⟨b, o + j, none⟩ = some (f j)) (hu : P.underlying ty = some d) (hd : (match d with | .struct _ | .array _ _ => true | _ => false) = true) (hi : (P.info? ty).map (·.size) = some n) :
    (loadVar ty ⟨b, o, none⟩).run P w = .ok (.agg ((List.range n).map f).toArray) w := by
  have hl := run_loadCells (P := P) w ⟨b, o, none⟩ n f (fun j hj => by rw [add_off]; exact hc j hj)
  cases hq : P.info? ty with
  | none => simp [hq] at hi
  | some i =>
    have hs : i.size = n := by simpa [hq] using hi
    have hagg : (isAgg ty).run P w = .ok true w := by
      unfold isAgg
      rw [Sem.run_bind, run_underlying hu w]
      cases d <;> simp_all
    simp [loadVar, Sem.run_bind, hagg, sizeOf, typeInfo, hq, hs, hl]
theorem run_storeVar_sub (w : World) (b o ty : Nat) (vs : Array Value) (hc : ∀ j, j < vs.size → (w.cell? ⟨b, o + j, none⟩).isSome = true) (hf : ∀ j, j < vs.size → w.frozen? ⟨b, o + j, none⟩ = false) (hi : (P.info? ty).map (·.size) = some vs.size) (h1 : ∀ v ∈ vs.toList, v.oneCell' = true) :
    (storeVar ty ⟨b, o, none⟩ (.agg vs)).run P w = .ok () (w.setCells b o vs.toList) := by
  have := run_storeCells_cells (P := P) b o vs.toList 0 w (fun j hj => by rw [Nat.add_zero]; exact hc j (by simpa using hj)) (fun j hj => by rw [Nat.add_zero]; exact hf j (by simpa using hj)) h1
  rw [Nat.add_zero] at this
  cases hq : P.info? ty with
  | none => simp [hq] at hi
  | some i =>
    have hs : vs.size = i.size := by simp [hq] at hi; omega
    simp [storeVar, sizeOf, typeInfo, hq, Value.cells, hs, this]
theorem wpList_load_sub {ops : Array Oper} {rest : List Oper} {o : Oper} {a : Act} {w : World} {Q : Exit → Act → World → Prop} (hgd : o.guard = none) (ty : TypeId) (x : Operand) (ho : o.op = .load ty x)
    (b off n : Nat) (hx : a.eval x = .pointer (some ⟨b, off, none⟩)) (f : Nat → Value) (d : TypeDesc) (hc : ∀ j, j < n → w.cell? ⟨b, off + j, none⟩ = some (f j)) (hu : P.underlying ty = some d) (hd : (match d with | .struct _ | .array _ _ => true | _ => false) = true) (hi : (P.info? ty).map (·.size) = some n)
    (h : wpList P ops Q rest (a.put o.dst (.agg ((List.range n).map f).toArray)) w) : wpList P ops Q (o :: rest) a w :=
  wpList_plain hgd fun _ hK => by
    unfold Oper.wp execOp
    simp only [ho, hx, Instr.loadAt, Instr.sureAddr, Sem.run_bind, Sem.run_pure, Result.andThen_ok, run_loadVar_sub w b off n ty f d hc hu hd hi]
    exact hK _ _ h
theorem wpList_store_sub {ops : Array Oper} {rest : List Oper} {o : Oper} {a : Act} {w : World} {Q : Exit → Act → World → Prop} (hgd : o.guard = none) (ty : TypeId) (x y : Operand) (ho : o.op = .store ty x y)
    (b off : Nat) (vs : Array Value) (hx : a.eval x = .pointer (some ⟨b, off, none⟩)) (hy : a.eval y = .agg vs) (hc : ∀ j, j < vs.size → (w.cell? ⟨b, off + j, none⟩).isSome = true) (hf : ∀ j, j < vs.size → w.frozen? ⟨b, off + j, none⟩ = false) (hi : (P.info? ty).map (·.size) = some vs.size) (h1 : ∀ v ∈ vs.toList, v.oneCell' = true)
    (h : wpList P ops Q rest (a.put o.dst undef) (w.setCells b off vs.toList)) : wpList P ops Q (o :: rest) a w :=
  wpList_plain hgd fun _ hK => by
    unfold Oper.wp execOp
    simp only [ho, hx, hy, Instr.storeAt, Instr.sureAddr, Sem.run_bind, Sem.run_pure, Result.andThen_ok, run_storeVar_sub w b off ty vs hc hf hi h1]
    exact hK _ _ h
end
end Go.Proofs.YtlpdomgedaockaaGreatDoor
