import Derived.Test.YtlefemndikednaaGreatDoorPa24
import Derived.Test.YtlefemndikednaaGreatDoorPa25
set_option linter.unusedVariables false
set_option linter.unusedSimpArgs false
/-
  CodePrints.
-/
namespace Go.Proofs.YtlefemndikednaaGreatDoor
open Go.RowKit Go.Shelf Go.Proofs.Cod

theorem rparse_told2 {w : World} {t : Tx} {e : Ending} {w' : World} (h : RParseR w t e w') : Below w.heap.size w w' ∧ ∃ er ln vV fV lV tV P TV, e = .returned (.tuple #[.agg #[vV, fV, lV, tV], .int .i64 er, .int .i64 ln]) ∧ QView w' w.heap.size vV fV lV tV P TV ∧ PV t er ln P.vs P.fs P.ls P.names (P.thr.map fun th => th.code.map RI.i) ∧ ∀ (j : Nat) (p : Value × Value), TV[j]? = some p → ∃ a n c, p.2 = .slice a n c := by
  obtain ⟨hB, (⟨er, ln, he, rfl⟩ | ⟨s, C, tag, pb, P, U, he, rfl, hW, hK, hC⟩)⟩ := h
  · exact ⟨hB, er, ln, _, _, _, _, RP.new, [], rfl, QView.nil _ _, by unfold PV; rw [he]; exact ⟨rfl, rfl, rfl, rfl, rfl, rfl, rfl⟩, fun j p hp => by cases hp⟩
  · refine ⟨hB, 0, 0, _, _, _, _, P, U.TV, rfl, hW.qview, ?_, fun j p hp => ?_⟩
    · unfold PV
      rw [he]
      have k1 := hK 118 (by simp [isK])
      have k2 := hK 102 (by simp [isK])
      have k3 := hK 109 (by simp [isK])
      have k4 := hK 116 (by simp [isK])
      exact ⟨rfl, rfl, k1.symm, k2.symm, k3.symm, k4.symm, hC.symm⟩
    · have hl : j < P.thr.length := by rw [← hW.len]; exact (List.getElem?_eq_some_iff.1 hp).1
      obtain ⟨th, hth⟩ : ∃ th, P.thr[j]? = some th := ⟨_, List.getElem?_eq_getElem hl⟩
      obtain ⟨a, c, e⟩ := owns_len (hW.ths j th p hth hp).labs
      exact ⟨a, _, c, e⟩
theorem parse_er {t : Tx} {p : Int × Int} (h : parseT t = .error p) : p.1 ≠ 0 := by
  unfold parseT at h
  split at h
  · cases h; decide
  · exact parseL_err (e := p.1) (l := p.2) h
theorem PV.cases {t : Tx} {er ln : Int} {vs fs ls ts : List Tx} {C : List (List In7)} (h : PV t er ln vs fs ls ts C) : er ≠ 0 ∨ (er = 0 ∧ PrOk vs fs ls ts C) := by
  unfold PV at h
  split at h
  · rename_i p hp
    left
    rw [h.1]; exact parse_er hp
  · rename_i p hp
    obtain ⟨a1, a2, a3, a4, a5, a6, a7⟩ := h
    subst a3 a4 a5 a6 a7
    exact .inr ⟨a1, (parse_pr (s := p.1) (C := p.2) hp).1⟩
set_option maxRecDepth 100000 in
set_option maxHeartbeats 2000000 in
theorem codePrints_any (t : Tx) (w : World) {B : Nat} (ht : Tabs w B) (hB : B ≤ w.heap.size) :
    Calls Tryz.prog 4 #[.string (bs t)] w fun e w' => e = .returned (.bool true) ∧ Below w.heap.size w w' := by
  have hl3 := ht.lt
  have hpa := parse_full t w ht.heads ht.shapes (by show 0 < _; omega) (by show 1 < _; omega)
  have hrp := hide (fun wr => rParse_full t wr)
  have hal : Hid (∀ wr, Below B w wr → Calls Tryz.prog 10 #[] wr fun e w' => e = .returned (.bool true) ∧ Below wr.heap.size wr w') := fun wr hb => alive_any (ht.keep hb) (Nat.le_trans hB hb.size)
  have HT := hide (⟨ht, hB⟩ : _ ∧ _)
  clear ht hl3 hB
  go_enter Tryz.func4, Tryz.ntmps4
  go_wp2_with fail
  refine hpa.mono ?_
  clear hpa
  intro e w1 hr
  obtain ⟨hB1, er, ln, va, fa, la, ta, vs, fs, ls, L, C, rfl, hPW, hPV⟩ := parse_told hr
  clear hr
  obtain ⟨av, cv, ev⟩ := owns_len hPW.v
  obtain ⟨af, cf, ef⟩ := owns_len hPW.f
  obtain ⟨al, cl, el⟩ := owns_len hPW.l
  obtain ⟨at', ct, et⟩ := owns_len hPW.t
  subst ev ef el et
  have H1 := hide (⟨hB1, hPW, hPV⟩ : _ ∧ _ ∧ _)
  have h2 := hrp.out (w1.alloc (.cells #[.slice av vs.length cv, .slice af fs.length cf, .slice al ls.length cl, .slice at' L.length ct] 25))
  clear hB1 hPW hPV
  go_wp2_with fail
  refine h2.mono ?_
  clear h2
  intro e w2 hr
  obtain ⟨hB2, er', ln', vd, fd, ld, td, P, TV, rfl, hQ, hPV', hsl⟩ := rparse_told2 hr
  clear hr hrp
  obtain ⟨hB1, hPW, hPV⟩ := H1.out
  obtain ⟨rfl, rfl, q1, q2, q3, q4, q5⟩ := hPV.eq hPV'
  obtain ⟨dv, ev', edv⟩ := owns_len hQ.v
  obtain ⟨df, ef', edf⟩ := owns_len hQ.f
  obtain ⟨dl, el', edl⟩ := owns_len hQ.l
  obtain ⟨dt, et', edt⟩ := owns_len hQ.t
  subst edv edf edl edt
  have hba : Below w1.heap.size w1 (w1.alloc (.cells #[.slice av vs.length cv, .slice af fs.length cf, .slice al ls.length cl, .slice at' L.length ct] 25)) := (Below.refl _ _).alloc (Nat.le_refl _) _
  have hkA : (w1.alloc (.cells #[.slice av vs.length cv, .slice af fs.length cf, .slice al ls.length cl, .slice at' L.length ct] 25)).heap[w1.heap.size]? = some (.cells #[.slice av vs.length cv, .slice af fs.length cf, .slice al ls.length cl, .slice at' L.length ct] 25) := World.alloc_heap_new w1 _
  generalize w1.alloc (.cells #[.slice av vs.length cv, .slice af fs.length cf, .slice al ls.length cl, .slice at' L.length ct] 25) = wa at *
  have hbb : Below w2.heap.size w2 (w2.alloc (.cells #[.slice dv P.vs.length ev', .slice df P.fs.length ef', .slice dl P.ls.length el', .slice dt P.thr.length et'] 31)) := (Below.refl _ _).alloc (Nat.le_refl _) _
  have hkB : (w2.alloc (.cells #[.slice dv P.vs.length ev', .slice df P.fs.length ef', .slice dl P.ls.length el', .slice dt P.thr.length et'] 31)).heap[w2.heap.size]? = some (.cells #[.slice dv P.vs.length ev', .slice df P.fs.length ef', .slice dl P.ls.length el', .slice dt P.thr.length et'] 31) := World.alloc_heap_new w2 _
  generalize hwb : w2.alloc (.cells #[.slice dv P.vs.length ev', .slice df P.fs.length ef', .slice dl P.ls.length el', .slice dt P.thr.length et'] 31) = wb at *
  have hB2' : Below w1.heap.size w1 w2 := hba.trans (hB2.mono hba.size)
  have hBb : Below w1.heap.size w1 wb := hB2'.trans (hbb.mono hB2'.size)
  have hn1a : w1.heap.size < wa.heap.size := (Array.getElem?_eq_some_iff.1 hkA).1
  have hkA2 := (hB2.block _ hn1a).trans hkA
  have hkAb := (hbb.block _ (Array.getElem?_eq_some_iff.1 hkA2).1).trans hkA2
  have hPb := hPW.below hBb
  have hDb := hQ.view.below hbb
  have hB0 := hB1.trans (hBb.mono hB1.size)
  obtain ⟨ht, hB⟩ := HT.out
  replace hwb := hide hwb
  rcases hPV.cases with hne | ⟨rfl, hok⟩
  · have hneb : (er != 0) = true := by simpa using hne
    have hA := hal.out wb (hB0.mono hB)
    have HB0 := hide hB0
    clear hB1 hPW hPV hPV' q1 q2 q3 q4 q5 hba hkA hbb hkB hB2' hBb hn1a hkA2 hkAb hPb hDb hB0 hQ hB2 H1 hsl ht hB hne
    go_wp2_with fail
    rw [hwb.out]
    clear hwb
    refine (lwNum_any er _).mono ?_
    rintro e w4 ⟨rfl, rfl⟩
    go_wp2_with fail
    refine (lwNum_any er _).mono ?_
    rintro e w4 ⟨rfl, rfl⟩
    go_wp2_with fail
    refine hA.mono ?_
    clear hA
    rintro e w8 ⟨rfl, hB8⟩
    have HF := hide (HB0.out.trans (hB8.mono HB0.out.size))
    clear hB8
    go_wp2_with fail
    go_ret
    exact ⟨rfl, HF.out⟩
  · have htb := ht.keep (hB0.mono hB)
    have hBb' := Nat.le_trans hB hB0.size
    have hPr := print_any hPb htb hBb' hok
    have hokR : PrOk P.vs P.fs P.ls P.names (P.thr.map fun th => th.code.map RI.i) := by rw [← q1, ← q2, ← q3, ← q4, ← q5]; exact hok
    have heq : printW vs fs ls (L.map Prod.fst) C = printW P.vs P.fs P.ls P.names (P.thr.map fun th => th.code.map RI.i) := by rw [q1, q2, q3, q4, q5]
    rw [heq] at hPr
    obtain ⟨a0, a1, a2, a3⟩ := box_cells hkAb
    obtain ⟨d0, d1, d2, d3⟩ := box_cells hkB
    have H2 := hide (⟨hPb, hDb, htb, hBb', hokR, hkAb, hkB, hB0, hsl, q1, q2, q3, q4, q5⟩ : _ ∧ _ ∧ _ ∧ _ ∧ _ ∧ _ ∧ _ ∧ _ ∧ _ ∧ _ ∧ _ ∧ _ ∧ _ ∧ _)
    clear hB1 hPW hPV hPV' q1 q2 q3 q4 q5 hba hkA hbb hkB hB2' hBb hn1a hkA2 hkAb hPb hDb hB0 hQ hB2 H1 hsl ht hB htb hBb' hok hokR heq
    generalize htx : printW P.vs P.fs P.ls P.names (P.thr.map fun th => th.code.map RI.i) = tx at hPr
    replace htx := hide htx
    go_wp2_with fail
    rw [hwb.out]
    clear hwb
    refine (lwNum_any 0 _).mono ?_
    rintro e w4 ⟨rfl, rfl⟩
    go_wp2_with fail
    refine hPr.mono ?_
    clear hPr a0 a1 a2 a3 d0 d1 d2 d3
    rintro e w3 ⟨rfl, hB3⟩
    obtain ⟨hPb, hDb, htb, hBb', hokR, hkAb, hkB, hB0, hsl, q1, q2, q3, q4, q5⟩ := H2.out
    have hkA3 := (hB3.block _ (Array.getElem?_eq_some_iff.1 hkAb).1).trans hkAb
    have hkB3 := (hB3.block _ (Array.getElem?_eq_some_iff.1 hkB).1).trans hkB
    have hD3 := hDb.below hB3
    have hSm := lwSame_any (hPb.below hB3) hD3 q1 q2 q3 q4 q5
    have ht3 := htb.keep (hB3.mono hBb')
    have hB03 := hB0.trans (hB3.mono hB0.size)
    obtain ⟨a0, a1, a2, a3⟩ := box_cells hkA3
    obtain ⟨d0, d1, d2, d3⟩ := box_cells hkB3
    have H3 := hide (⟨hD3, ht3, hokR, hkB3, hB03, hsl, Nat.le_trans hBb' hB3.size⟩ : _ ∧ _ ∧ _ ∧ _ ∧ _ ∧ _ ∧ _)
    clear hPb hDb htb hBb' hokR hkAb hkB hB0 hsl q1 q2 q3 q4 q5 hkA3 hkB3 hD3 ht3 hB03 hB3 H2
    go_wp2_with fail
    refine hSm.mono ?_
    clear hSm a0 a1 a2 a3 d0 d1 d2 d3
    rintro e w5 ⟨rfl, hB5⟩
    obtain ⟨hD3, ht3, hokR, hkB3, hB03, hsl, hBB⟩ := H3.out
    have hkB5 := (hB5.block _ (Array.getElem?_eq_some_iff.1 hkB3).1).trans hkB3
    obtain ⟨d0, d1, d2, d3⟩ := box_cells hkB5
    have hR := rPrint_any (hD3.below hB5) (ht3.keep (hB5.mono hBB)) (Nat.le_trans hBB hB5.size) hsl hokR
    rw [htx.out] at hR
    have hB05 := hB03.trans (hB5.mono hB03.size)
    have HB5 := hide hB05
    clear hD3 ht3 hokR hkB3 hB03 hsl hBB hkB5 hB5 hB05 H3
    have hteq : ((bs tx).toList == (bs tx).toList) = true := by simp
    go_wp2_with fail
    refine hR.mono ?_
    clear hR d0 d1 d2 d3
    rintro e w6 ⟨rfl, hB6⟩
    have hB06 := HB5.out.trans (hB6.mono HB5.out.size)
    have hA := hal.out w6 (hB06.mono HT.out.2)
    have HB6 := hide hB06
    clear hB6 hB06
    go_wp2_with fail
    refine hA.mono ?_
    clear hA
    rintro e w8 ⟨rfl, hB8⟩
    have HF := hide (HB6.out.trans (hB8.mono HB6.out.size))
    clear hB8
    go_wp2_with fail
    go_ret
    exact ⟨rfl, HF.out⟩
end Go.Proofs.YtlefemndikednaaGreatDoor
/-
  Words of texts, one byte after another; remarks, blanks and empty lines.
-/
namespace Go.Proofs.YtlefemndikednaaGreatDoor
open Go.RowKit Go.Shelf Go.Proofs.Cod

def ne1 {α : Type} (l : List α) : Bool := !l.isEmpty
def flushW (a : Tx) : List Tx := if a.isEmpty then [] else [a]
def scanW : Tx → Tx → List Tx
  | a, [] => flushW a
  | a, c :: l => if c = 35 then flushW a else if c = 32 then flushW a ++ scanW [] l else scanW (a ++ [c]) l
theorem cutP_cons (c b : UInt8) (l : Tx) : cutB c (b :: l) = if b = c then [] else b :: cutB c l := by
  unfold cutB
  have hge := Lib.indexByte_ge l c
  by_cases hb : b = c
  · subst hb
    have h0 : Lib.indexByte (b :: l) b = 0 := by unfold Lib.indexByte; simp
    rw [h0, if_pos rfl, if_neg (by decide)]; rfl
  · rw [if_neg hb]
    have hb' : ¬ ((b == c) = true) := by simpa using hb
    by_cases h : Lib.indexByte l c = -1
    · have h0 : Lib.indexByte (b :: l) c = -1 := by unfold Lib.indexByte; rw [if_neg hb', h]; rfl
      rw [h0, h, if_pos rfl, if_pos rfl]
    · have h0 : Lib.indexByte (b :: l) c = Lib.indexByte l c + 1 := by
        have h' : ¬ ((Lib.indexByte l c == -1) = true) := by simpa using h
        conv => lhs; unfold Lib.indexByte
        rw [if_neg hb', if_neg h']
      rw [h0, if_neg (by omega), if_neg h]
      have : (Lib.indexByte l c + 1).toNat = (Lib.indexByte l c).toNat + 1 := by omega
      rw [this]; rfl
theorem split_cons (c b : UInt8) (l : Tx) : splitT c (b :: l) = if b = c then [] :: splitT c l else ((b :: (splitT c l).headD []) :: (splitT c l).tail) := by
  conv => lhs; unfold splitT
  by_cases hb : b = c
  · rw [if_pos hb, if_pos (by simpa using hb)]
  · rw [if_neg hb, if_neg (by simpa using hb)]
    cases h : splitT c l with
    | nil => exact absurd h (splitT_ne c l)
    | cons p ps => rfl
theorem flush_filter (a : Tx) (l : List Tx) : (a :: l).filter (fun p => !p.isEmpty) = flushW a ++ l.filter (fun p => !p.isEmpty) := by
  unfold flushW
  cases a with
  | nil => rfl
  | cons b a => rfl
theorem scan_split : ∀ (t acc : Tx), scanW acc t = ((acc ++ (splitT 32 (cutB 35 t)).headD []) :: (splitT 32 (cutB 35 t)).tail).filter (fun p => !p.isEmpty)
  | [], acc => by
    rw [flush_filter]
    show flushW acc = flushW (acc ++ []) ++ []
    simp
  | c :: l, acc => by
    unfold scanW
    rw [cutP_cons]
    by_cases h1 : c = 35
    · rw [if_pos h1, if_pos h1, flush_filter]
      show flushW acc = flushW (acc ++ []) ++ []
      simp
    · rw [if_neg h1, if_neg h1, split_cons]
      by_cases h2 : c = 32
      · rw [if_pos h2, if_pos h2, flush_filter, scan_split l []]
        show _ = flushW (acc ++ []) ++ (splitT 32 (cutB 35 l)).filter (fun p => !p.isEmpty)
        rw [List.append_nil]
        cases h : splitT 32 (cutB 35 l) with
        | nil => exact absurd h (splitT_ne _ _)
        | cons p ps => rfl
      · rw [if_neg h2, if_neg h2, scan_split l (acc ++ [c])]
        simp
theorem words_scan (t : Tx) : wordsT t = scanW [] t := by
  rw [scan_split]
  unfold wordsT
  cases h : splitT 32 (cutB 35 t) with
  | nil => exact absurd h (splitT_ne _ _)
  | cons p ps => rfl
/-- A word's bytes. -/
def cleanB (c : UInt8) : Prop := c ≠ 35 ∧ c ≠ 32 ∧ c ≠ 10
def CleanW (x : Tx) : Prop := x ≠ [] ∧ ∀ c, c ∈ x → cleanB c
theorem scan_word {x : Tx} (hx : ∀ c, c ∈ x → cleanB c) (a l : Tx) : scanW a (x ++ l) = scanW (a ++ x) l := by
  induction x generalizing a with
  | nil => simp
  | cons c x ih =>
    have hc := hx c (by simp)
    show scanW a (c :: (x ++ l)) = _
    conv => lhs; unfold scanW
    rw [if_neg hc.1, if_neg hc.2.1, ih (fun d hd => hx d (by simp [hd]))]
    simp
theorem flush_word {x : Tx} (h : x ≠ []) : flushW x = [x] := by
  unfold flushW
  cases x with
  | nil => exact absurd rfl h
  | cons => rfl
theorem scan_words : ∀ (ws : List Tx) (a : Tx), (∀ x, x ∈ ws → CleanW x) → scanW a (ws.flatMap fun x => 32 :: x) = flushW a ++ ws
  | [], a, _ => by simp [scanW]
  | x :: ws, a, h => by
    rw [List.flatMap_cons]
    show scanW a (32 :: (x ++ ws.flatMap fun x => 32 :: x)) = _
    conv => lhs; unfold scanW
    rw [if_neg (by decide), if_pos rfl, scan_word (h x (by simp)).2, scan_words ws _ (fun y hy => h y (by simp [hy]))]
    simp [flush_word (h x (by simp)).1]
theorem join_is (op : Tx) (ws : List Tx) : joinT (op :: ws) = op ++ ws.flatMap fun x => 32 :: x := by
  unfold joinT
  rw [Lib.join_cons]
  unfold Lib.joinTail
  simp [List.flatMap, Function.comp_def]
theorem words_join {ws : List Tx} (h : ∀ x, x ∈ ws → CleanW x) : wordsT (joinT ws) = ws := by
  cases ws with
  | nil => decide
  | cons op ws =>
    have ho := h op (by simp)
    rw [words_scan, join_is, scan_word ho.2, List.nil_append, scan_words ws op (fun x hx => h x (by simp [hx])), flush_word ho.1]; rfl
theorem split_line {l : Tx} (h : ∀ c, c ∈ l → c ≠ 10) (r : Tx) : splitT 10 (l ++ 10 :: r) = l :: splitT 10 r := by
  induction l with
  | nil => show splitT 10 (10 :: r) = _; rw [split_cons, if_pos rfl]
  | cons c l ih =>
    show splitT 10 (c :: (l ++ 10 :: r)) = _
    rw [split_cons, if_neg (h c (by simp)), ih (fun d hd => h d (by simp [hd]))]; rfl
theorem join_no10 {ws : List Tx} (h : ∀ x, x ∈ ws → CleanW x) : ∀ c, c ∈ joinT ws → c ≠ 10 := by
  cases ws with
  | nil => intro c hc; simp [joinT, Lib.join] at hc
  | cons op ws =>
    intro c hc
    rw [join_is, List.mem_append, List.mem_flatMap] at hc
    rcases hc with hc | ⟨x, hx, hc⟩
    · exact ((h op (by simp)).2 c hc).2.2
    · rcases List.mem_cons.1 hc with rfl | hc
      · decide
      · exact ((h x (by simp [hx])).2 c hc).2.2
/-- A text of such lines. -/
theorem words_text : ∀ (L : List (List Tx)), (∀ ws, ws ∈ L → ∀ x, x ∈ ws → CleanW x) → (splitT 10 (L.flatMap lineW)).map wordsT = L ++ [[]]
  | [], _ => by decide
  | ws :: L, h => by
    rw [List.flatMap_cons]
    have e : lineW ws ++ L.flatMap lineW = joinT ws ++ 10 :: L.flatMap lineW := by unfold lineW; simp
    rw [e, split_line (join_no10 (h ws (by simp))), List.map_cons, words_join (h ws (by simp)), words_text L (fun v hv => h v (by simp [hv]))]; rfl

/-! ### Remarks, blanks, empty lines -/
def dbl (c : UInt8) : Tx := if c = 32 then [32, 32] else [c]
def soT : Tx := [32, 35, 32, 115, 111]
def moB (c : UInt8) : Tx := if c = 32 then [32, 32] else if c = 10 then [32, 35, 32, 115, 111, 10, 32, 10] else [c]
def more0 : Tx := [35, 32, 97, 32, 114, 101, 109, 97, 114, 107, 10, 10]
def moreT (t : Tx) : Tx := more0 ++ t.flatMap moB
theorem scan32 (a l : Tx) : scanW a (32 :: l) = flushW a ++ scanW [] l := by
  conv => lhs; unfold scanW
  rw [if_neg (by decide), if_pos rfl]
theorem scan_dbl {tail : Tx} (ht : ∀ b, scanW b tail = flushW b) : ∀ (p a : Tx), scanW a (p.flatMap dbl ++ tail) = scanW a p
  | [], a => by rw [List.flatMap_nil, List.nil_append, ht]; rfl
  | c :: p, a => by
    rw [List.flatMap_cons, List.append_assoc]
    by_cases h2 : c = 32
    · subst h2
      show scanW a (32 :: 32 :: (p.flatMap dbl ++ tail)) = scanW a (32 :: p)
      rw [scan32, scan32, scan32, scan_dbl ht p []]; rfl
    · have hd : dbl c = [c] := by unfold dbl; rw [if_neg h2]
      rw [hd]
      show scanW a (c :: (p.flatMap dbl ++ tail)) = _
      unfold scanW
      rw [scan_dbl ht p (a ++ [c]), if_neg h2, if_neg h2]
theorem words_dbl (p : Tx) : wordsT (p.flatMap dbl) = wordsT p := by
  have := scan_dbl (tail := []) (fun b => rfl) p []
  rw [List.append_nil] at this
  rw [words_scan, words_scan, this]
theorem words_so (p : Tx) : wordsT (p.flatMap dbl ++ soT) = wordsT p := by
  rw [words_scan, words_scan]
  refine scan_dbl (fun b => ?_) p []
  unfold soT scanW
  rw [if_neg (by decide), if_pos rfl]
  unfold scanW
  rw [if_pos rfl]
  simp [flushW]
theorem more_lines : ∀ (t : Tx), (splitT 10 (t.flatMap moB)).headD [] = ((splitT 10 t).headD []).flatMap dbl ++ (if (splitT 10 t).tail.isEmpty then [] else soT) ∧ (((splitT 10 (t.flatMap moB)).tail).map wordsT).filter ne1 = (((splitT 10 t).tail).map wordsT).filter ne1
  | [] => by exact ⟨rfl, rfl⟩
  | c :: t => by
    obtain ⟨h1, h2⟩ := more_lines t
    rw [List.flatMap_cons, split_cons 10 c t]
    by_cases h10 : c = 10
    · subst h10
      rw [if_pos rfl]
      have hm : moB 10 ++ t.flatMap moB = soT ++ 10 :: ([32] ++ 10 :: t.flatMap moB) := rfl
      rw [hm, split_line (by decide), split_line (by decide)]
      have hne : ((([] : Tx) :: splitT 10 t).tail).isEmpty = false := by
        cases h : splitT 10 t with
        | nil => exact absurd h (splitT_ne _ _)
        | cons => rfl
      rw [hne]
      refine ⟨rfl, ?_⟩
      show (([32] :: splitT 10 (t.flatMap moB)).map wordsT).filter ne1 = ((splitT 10 t).map wordsT).filter ne1
      have hw : wordsT [32] = [] := by decide
      rw [List.map_cons, hw]
      show ((splitT 10 (t.flatMap moB)).map wordsT).filter ne1 = _
      cases ha : splitT 10 (t.flatMap moB) with
      | nil => exact absurd ha (splitT_ne _ _)
      | cons p' ps' =>
        cases hb : splitT 10 t with
        | nil => exact absurd hb (splitT_ne _ _)
        | cons p ps =>
          rw [ha, hb] at h1 h2
          have h1 : p' = p.flatMap dbl ++ (if ps.isEmpty then [] else soT) := h1
          have h2 : (ps'.map wordsT).filter ne1 = (ps.map wordsT).filter ne1 := h2
          have hw : wordsT p' = wordsT p := by
            rw [h1]
            split
            · rw [List.append_nil]; exact words_dbl p
            · exact words_so p
          rw [List.map_cons, List.map_cons, List.filter_cons, List.filter_cons, hw, h2]
    · rw [if_neg h10]
      by_cases h32 : c = 32
      · subst h32
        show (splitT 10 (32 :: 32 :: t.flatMap moB)).headD [] = _ ∧ (((splitT 10 (32 :: 32 :: t.flatMap moB)).tail).map wordsT).filter ne1 = _
        rw [split_cons, if_neg (by decide), split_cons, if_neg (by decide)]
        refine ⟨?_, h2⟩
        show 32 :: 32 :: (splitT 10 (t.flatMap moB)).headD [] = _
        rw [h1]; rfl
      · have hm : moB c = [c] := by unfold moB; rw [if_neg h32, if_neg h10]
        rw [hm]
        show (splitT 10 (c :: t.flatMap moB)).headD [] = _ ∧ (((splitT 10 (c :: t.flatMap moB)).tail).map wordsT).filter ne1 = _
        rw [split_cons, if_neg h10]
        refine ⟨?_, h2⟩
        show c :: (splitT 10 (t.flatMap moB)).headD [] = ((c :: (splitT 10 t).headD []).flatMap dbl) ++ _
        rw [h1, List.flatMap_cons]
        have hd : dbl c = [c] := by unfold dbl; rw [if_neg h32]
        rw [hd]; rfl
theorem more_words (t : Tx) : ((splitT 10 (moreT t)).map wordsT).filter ne1 = ((splitT 10 t).map wordsT).filter ne1 := by
  have h0 := (more_lines (10 :: t)).2
  have e1 : (10 :: t).flatMap moB = soT ++ 10 :: ([32] ++ 10 :: t.flatMap moB) := rfl
  rw [e1, split_line (by decide), split_line (by decide), split_cons, if_pos rfl] at h0
  have hw : wordsT [32] = [] := by decide
  have h0 : (([32] :: splitT 10 (t.flatMap moB)).map wordsT).filter ne1 = ((splitT 10 t).map wordsT).filter ne1 := h0
  rw [List.map_cons, hw] at h0
  rw [← h0]
  have e2 : moreT t = [35, 32, 97, 32, 114, 101, 109, 97, 114, 107] ++ 10 :: ([] ++ 10 :: t.flatMap moB) := rfl
  rw [e2, split_line (by decide), split_line (by decide), List.map_cons, List.map_cons]
  have hw1 : wordsT [35, 32, 97, 32, 114, 101, 109, 97, 114, 107] = [] := by decide
  have hw2 : wordsT [] = [] := by decide
  rw [hw1, hw2]; rfl
end Go.Proofs.YtlefemndikednaaGreatDoor
/-
  What a text's program is like: its names, and where its instructions come from.
-/
namespace Go.Proofs.YtlefemndikednaaGreatDoor
open Go.RowKit Go.Shelf Go.Proofs.Cod

/-- An instruction as it was read. -/
def PIr (N : Tx → Option (Int × Nat)) (p : PI) : Prop := ∃ q ts, q ∈ shapeT ∧ fitsT ts q.2 = true ∧ fillAll N (newIns q.1) (zipP q.2 ts) = some p.i ∧ p.off = offP (zipP q.2 ts)
def NLe (N N' : Tx → Option (Int × Nat)) : Prop := ∀ t z, N t = some z → N' t = some z
theorem fillOne_mono {N N' : Tx → Option (Int × Nat)} (h : NLe N N') {i i' : In7} {p : Int × Tx} (e : fillOne N i p = some i') : fillOne N' i p = some i' := by
  unfold fillOne at e ⊢
  split
  · rename_i h1; rw [if_pos h1] at e; exact e
  · rename_i h1; rw [if_neg h1] at e
    split
    · rename_i h1; rw [if_pos h1] at e; exact e
    · rename_i h1; rw [if_neg h1] at e
      split
      · rename_i h1; rw [if_pos h1] at e; exact e
      · rename_i h1; rw [if_neg h1] at e
        split
        · rename_i h1; rw [if_pos h1] at e; exact e
        · rename_i h1; rw [if_neg h1] at e
          split
          · rename_i h1; rw [if_pos h1] at e; exact e
          · rename_i h1; rw [if_neg h1] at e
            cases hN : N p.2 with
            | none => rw [hN] at e; cases e
            | some z => rw [hN] at e; rw [h _ _ hN]; exact e
theorem fillAll_mono {N N' : Tx → Option (Int × Nat)} (h : NLe N N') : ∀ (l : List (Int × Tx)) (i i' : In7), fillAll N i l = some i' → fillAll N' i l = some i'
  | [], i, i', e => e
  | p :: l, i, i', e => by
    unfold fillAll at e ⊢
    cases h1 : fillOne N i p with
    | none => rw [h1] at e; cases e
    | some i1 =>
      rw [h1] at e
      rw [fillOne_mono h h1]
      exact fillAll_mono h l i1 i' e
theorem PIr.mono {N N' : Tx → Option (Int × Nat)} {p : PI} (h : PIr N p) (hN : NLe N N') : PIr N' p := by
  obtain ⟨q, ts, h1, h2, h3, h4⟩ := h
  exact ⟨q, ts, h1, h2, fillAll_mono hN _ _ _ h3, h4⟩
structure PR (s : PS) : Prop where
  nam : ∀ k x, x ∈ s.nms k → isNam x = true
  nt : ∀ t k n, s.N t = some (k, n) → (s.nms k)[n]? = some t
  nf : ∀ t k n, (s.nms k)[n]? = some t → s.N t = some (k, n)
  bod : ∀ b, b ∈ s.bod → ∀ p, p ∈ b.code → PIr s.N p
theorem PR.new : PR PS.new := ⟨(fun k x h => by cases h), (fun t k n h => by cases h), (fun t k n h => by cases h), (fun b h => by cases h)⟩
def lsK (kd : Int) (l : List Tx) (M : Int → List Tx) (k : Int) : List Tx := if k = kd then l else M k
theorem declAll_pr {kd : Int} {M : Int → List Tx} : ∀ (ts : List Tx) (N : Tx → Option (Int × Nat)) (l : List Tx) (p : (Tx → Option (Int × Nat)) × List Tx), (∀ t k n, N t = some (k, n) → (lsK kd l M k)[n]? = some t) → (∀ t k n, (lsK kd l M k)[n]? = some t → N t = some (k, n)) → declAll kd N l ts = some p → (∀ t k n, p.1 t = some (k, n) → (lsK kd p.2 M k)[n]? = some t) ∧ (∀ t k n, (lsK kd p.2 M k)[n]? = some t → p.1 t = some (k, n)) ∧ NLe N p.1
  | [], N, l, p, h1, h2, e => by
    have e : some (N, l) = some p := e
    cases e
    exact ⟨h1, h2, fun _ _ h => h⟩
  | t :: ts, N, l, p, h1, h2, e => by
    cases hN : N t with
    | some q => simp [declAll, hN] at e
    | none =>
      have e : declAll kd (putT N t (kd, l.length)) (l ++ [t]) ts = some p := by
        simp only [declAll, hN] at e; exact e
      have hput : ∀ x, x ≠ t → putT N t (kd, l.length) x = N x := fun x hx => by unfold putT; rw [if_neg hx]
      have hputt : putT N t (kd, l.length) t = some (kd, l.length) := by unfold putT; rw [if_pos rfl]
      have q1 : ∀ x k n, putT N t (kd, l.length) x = some (k, n) → (lsK kd (l ++ [t]) M k)[n]? = some x := fun x k n hx => by
        by_cases hxt : x = t
        · subst hxt
          rw [hputt] at hx
          cases hx
          unfold lsK
          rw [if_pos rfl]; simp
        · rw [hput x hxt] at hx
          have := h1 x k n hx
          unfold lsK at this ⊢
          split
          · rename_i hk
            rw [if_pos hk] at this
            rw [List.getElem?_append_left (List.getElem?_eq_some_iff.1 this).1]; exact this
          · rename_i hk
            rw [if_neg hk] at this; exact this
      have q2 : ∀ x k n, (lsK kd (l ++ [t]) M k)[n]? = some x → putT N t (kd, l.length) x = some (k, n) := fun x k n hx => by
        have hold : (lsK kd l M k)[n]? = some x → putT N t (kd, l.length) x = some (k, n) := fun h => by
          have h' := h2 x k n h
          rw [hput x (fun e => by rw [e, hN] at h'; cases h')]; exact h'
        by_cases hk : k = kd
        · subst hk
          unfold lsK at hx hold
          rw [if_pos rfl] at hx hold
          by_cases hn : n < l.length
          · rw [List.getElem?_append_left hn] at hx
            exact hold hx
          · rw [List.getElem?_append_right (by omega)] at hx
            have hn0 : n - l.length = 0 := by
              have := (List.getElem?_eq_some_iff.1 hx).1
              simp at this; omega
            rw [hn0] at hx
            have hx : some t = some x := hx
            cases hx
            rw [hputt, show n = l.length by omega]
        · refine hold ?_
          unfold lsK at hx ⊢
          rw [if_neg hk] at hx ⊢; exact hx
      obtain ⟨g1, g2, g3⟩ := declAll_pr (M := M) ts _ _ p q1 q2 e
      refine ⟨g1, g2, fun x z hx => g3 x z ?_⟩
      rw [hput x (fun e => by rw [e, hN] at hx; cases hx)]; exact hx
section
variable {s s' : PS}
theorem lsK_self (s : PS) (kd : Int) : lsK kd (s.nms kd) s.nms = s.nms := by
  funext k
  unfold lsK
  split
  · rename_i h; rw [h]
  · rfl
theorem decl_pr {kd : Int} {ts : List Tx} (h : PR s) (e : declT kd ts s = .ok s') : PR s' ∧ s'.bod = s.bod ∧ NLe s.N s'.N := by
  unfold declT at e
  split at e
  · cases e
  · rename_i hc
    split at e
    · cases e
    · rename_i p hp
      split at e
      · cases e
      · cases e
        have hlen := declAll_len hp
        obtain ⟨g1, g2, g3⟩ := declAll_pr (M := s.nms) ts s.N (s.nms kd) p (by rw [lsK_self]; exact h.nt) (by rw [lsK_self]; exact h.nf) hp
        refine ⟨⟨fun k x hx => ?_, g1, g2, fun b hb p' hp' => (h.bod b hb p' hp').mono g3⟩, rfl, g3⟩
        have hx : x ∈ putZ s.nms kd p.2 k := hx
        by_cases hk : k = kd
        · subst hk
          rw [putZ_same, hlen] at hx
          rcases List.mem_append.1 hx with hx | hx
          · exact h.nam k x hx
          · have hall : ts.all isNam = true := by
              cases hb : ts.all isNam with
              | true => rfl
              | false => exact absurd (.inr (.inr hb)) hc
            exact List.all_eq_true.1 hall x hx
        · rw [putZ_other _ hk] at hx
          exact h.nam k x hx
theorem set_pr (h : PR s) {b' : PB} (hb' : ∀ p, p ∈ b'.code → PIr s.N p) : PR (setLast s b') := by
  refine ⟨h.nam, h.nt, h.nf, fun x hx => ?_⟩
  have hx : x ∈ s.bod.dropLast ++ [b'] := hx
  rcases List.mem_append.1 hx with hx | hx
  · exact h.bod x (List.dropLast_subset _ hx)
  · obtain rfl := List.mem_singleton.1 hx
    exact hb'
theorem instr_pr {line : Int} {f : Tx} {ts : List Tx} {b : PB} (h : PR s) (hb : s.bod.getLast? = some b) (e : instrT line f ts s b = .ok s') : PR s' := by
  unfold instrT at e
  split at e
  · cases e
  · rename_i ps hps
    split at e
    · cases e
    · rename_i hf
      split at e
      · cases e
      · split at e
        · cases e
        · rename_i i hi
          cases e
          have hft : fitsT ts ps = true := by
            cases hb2 : fitsT ts ps with
            | true => rfl
            | false => exact absurd hb2 hf
          rcases parts_cases f with ⟨q, hq, hq1, hq2⟩ | ⟨hn, -⟩
          · rw [hps] at hq2
            cases hq2
            refine set_pr h fun p hp => ?_
            have hp : p ∈ b.code ++ [⟨i, line, offP (zipP q.2 ts)⟩] := hp
            rcases List.mem_append.1 hp with hp | hp
            · exact h.bod b (List.mem_of_getLast? hb) p hp
            · obtain rfl := List.mem_singleton.1 hp
              rw [hq1] at hi
              exact ⟨q, ts, hq, hft, hi, rfl⟩
          · rw [hps] at hn; cases hn
theorem step_pr {line : Int} {f : Tx} {ts : List Tx} (h : PR s) (e : stepT line f ts s = .ok s') : PR s' := by
  unfold stepT at e
  split at e
  · split at e
    · cases hd : declT 116 ts s with
      | error x => rw [hd] at e; cases e
      | ok s1 =>
        rw [hd] at e
        cases e
        obtain ⟨d1, -, -⟩ := decl_pr h hd
        refine ⟨d1.nam, d1.nt, d1.nf, fun b hb => ?_⟩
        have hb : b ∈ s1.bod ++ [⟨[], fun _ => none⟩] := hb
        rcases List.mem_append.1 hb with hb | hb
        · exact d1.bod b hb
        · obtain rfl := List.mem_singleton.1 hb
          exact fun p hp => by cases hp
    · cases e
  · split at e
    · exact (decl_pr h e).1
    · rename_i b hb
      split at e
      · unfold markT at e
        split at e
        · cases e
        · split at e
          · cases e
          · cases e
            exact set_pr h (h.bod b (List.mem_of_getLast? hb))
      · exact instr_pr h hb e
theorem lines_pr : ∀ (ls : List Tx) (n : Int) (s s' : PS), PR s → linesT ls n s = .ok s' → PR s'
  | [], _, s, s', h, e => by
    have e : Except.ok s = Except.ok s' := e
    cases e; exact h
  | l :: ls, n, s, s', h, e => by
    unfold linesT at e
    cases hl : lineT (n + 1) l s with
    | error x => rw [hl] at e; cases e
    | ok s1 =>
      rw [hl] at e
      refine lines_pr ls (n + 1) s1 s' ?_ e
      unfold lineT at hl
      split at hl
      · cases hl; exact h
      · exact step_pr h hl
end
end Go.Proofs.YtlefemndikednaaGreatDoor
