import Derived.Test.YtlefemndikednaaGreatDoorPa18
import Derived.Shelf.Small.Strs
set_option linter.unusedVariables false
set_option linter.unusedSimpArgs false
/-
  The words of the plain text: of an instruction.
-/
namespace Go.Proofs.YtlefemndikednaaGreatDoor
open Go.RowKit Go.Shelf Go.Proofs.Cod

def wordW (N : Int → List Tx) (i : In7) (c : Int) : Tx := if c = 114 then regW i.r else if c = 97 then argW i.aR i.aN else if c = 98 then argW i.bR i.bN else if c = 108 then labW i.x else getW (N c) i.x
structure InFit (i : In7) : Prop where
  r : fitI i.r
  a : fitI i.aN
  b : fitI i.bN
  x : fitI i.x
def XOk (N : Int → List Tx) (i : In7) (c : Int) : Prop := isK c → 0 ≤ i.x ∧ i.x < (N c).length
/-- The program's lists, by their kind. -/
def nmP (vs fs ls ts : List Tx) (k : Int) : List Tx := if k = 118 then vs else if k = 102 then fs else if k = 109 then ls else ts
section
variable {w : World} {base b B : Nat} {v f l t buf : Value} {out : Tx} {vs fs ls : List Tx} {L : List (Tx × Value)} {C : List (List In7)}
set_option maxRecDepth 100000 in
set_option maxHeartbeats 1000000 in
theorem wrWord_any (h : WrW w base b v f l t buf out) (hp : ProgW w 0 v f l t vs fs ls L C) (ht : Tabs w B) (hB : B ≤ w.heap.size) (i : In7) (hi : InFit i) (c : UInt8) (hc : c ∈ letters) (hx : XOk (nmP vs fs ls (L.map Prod.fst)) i (c.toNat : Int)) :
    Calls Tryz.prog 63 #[ptrV b, .agg (insC i), .int .u8 c.toNat] w fun e w' => e = .returned (.string (bs (wordW (nmP vs fs ls (L.map Prod.fst)) i (c.toNat : Int)))) ∧ Below w.heap.size w w' := by
  have hb1 : ∀ o, Below w.heap.size w (w.alloc o) := fun o => (Below.refl _ _).alloc (Nat.le_refl _) o
  have hT := fun o => ht.keep ((hb1 o).mono hB)
  have hbt : ∀ o, Hid (∀ w', Below (w.alloc o).heap.size (w.alloc o) w' → Below w.heap.size w w') := fun o w' h' => (hb1 o).trans (h'.mono (hb1 o).size)
  have hR := fun o => registerName_any i.r hi.r (hT o)
  have hA := fun o => argText_any i.aR i.aN hi.a (by have := (hb1 o).size; omega) (hT o)
  have hAb := fun o => argText_any i.bR i.bN hi.b (by have := (hb1 o).size; omega) (hT o)
  have hLb := fun o => labelName_any i.x hi.x (hT o)
  have hNm := fun o => wrNames_any (h.below (hb1 o))
  have hTh := fun o => wrThread_any (h.below (hb1 o)) (hp.below (hb1 o)) i.x
  have hV := row_ws0 hp.v rfl
  have hF := row_ws0 hp.f rfl
  have hLk := row_ws0 hp.l rfl
  have hbl : ∀ o {a : Option Addr} {ts : List Tx}, Ws w a ts → Ws (w.alloc o) a ts := fun o a ts hw => hw.below (hb1 o)
  replace hR := hide hR
  replace hA := hide hA
  replace hAb := hide hAb
  replace hLb := hide hLb
  replace hNm := hide hNm
  replace hTh := hide hTh
  replace hbl := hide hbl
  replace hb1 := hide hb1
  unfold ptrV at hNm hTh ⊢
  obtain ⟨op, r0, aR, aN, bR, bN, x⟩ := i
  unfold insC
  dsimp only at hR hA hAb hLb hTh ⊢
  clear h hp hT ht
  rcases letters_or hc with rfl | rfl | rfl | rfl | rfl | rfl | rfl | rfl
  · clear hV hF hLk hA hAb hLb hNm hTh hx hi hc
    go_enter Tryz.func63, Tryz.ntmps63
    go_wp2_with fail
    refine (hR.out _).mono ?_
    rintro e w2 ⟨rfl, hB2⟩
    replace hB2 := hide hB2
    go_wp2_with fail
    go_ret
    exact ⟨rfl, (hbt _).out _ hB2.out⟩
  · clear hV hF hLk hR hAb hLb hNm hTh hx hi hc
    go_enter Tryz.func63, Tryz.ntmps63
    go_wp2_with fail
    refine (hA.out _).mono ?_
    rintro e w2 ⟨rfl, hB2⟩
    replace hB2 := hide hB2
    go_wp2_with fail
    go_ret
    exact ⟨rfl, (hbt _).out _ hB2.out⟩
  · clear hV hF hLk hR hA hLb hNm hTh hx hi hc
    go_enter Tryz.func63, Tryz.ntmps63
    go_wp2_with fail
    refine (hAb.out _).mono ?_
    rintro e w2 ⟨rfl, hB2⟩
    replace hB2 := hide hB2
    go_wp2_with fail
    go_ret
    exact ⟨rfl, (hbt _).out _ hB2.out⟩
  · obtain ⟨x1, x2⟩ := hx (by simp [isK])
    have x2 : x < (vs.length : Int) := x2
    obtain ⟨a, cap, e, hw⟩ := hV
    obtain ⟨n, rfl⟩ : ∃ n : Nat, x = n := ⟨x.toNat, by have : (0 : Int) ≤ x := x1; omega⟩
    have hnl : n < vs.length := by omega
    obtain ⟨g, o, e2, _, hcl⟩ := hbl.out (.cells #[.string (bs op), .int .i64 r0, .bool aR, .int .i64 aN, .bool bR, .int .i64 bN, .int .i64 n] 42) hw n hnl
    have hg : wordW (nmP vs fs ls (L.map Prod.fst)) ⟨op, r0, aR, aN, bR, bN, (n : Int)⟩ ((118 : UInt8).toNat : Int) = vs.getD n [] := by
      show getW vs (n : Int) = _
      unfold getW
      rw [if_pos ⟨by omega, by omega⟩]; simp
    generalize vs.getD n [] = y at hcl hg
    have hNm' := fun o => hNm.out o 118 (by simp)
    replace hg := hide hg
    clear hNm hF hLk hR hA hAb hLb hTh hx hi hc hbl hw
    subst e2
    subst e
    go_enter Tryz.func63, Tryz.ntmps63
    go_wp2_with fail
    refine (hNm' _).mono ?_
    rintro e w2 ⟨rfl, rfl⟩
    clear hNm'
    go_wp2_with fail
    go_ret
    exact ⟨by show Ending.returned (.string (bs y)) = _; rw [hg.out], hb1.out _⟩
  · obtain ⟨x1, x2⟩ := hx (by simp [isK])
    have x2 : x < (fs.length : Int) := x2
    obtain ⟨a, cap, e, hw⟩ := hF
    obtain ⟨n, rfl⟩ : ∃ n : Nat, x = n := ⟨x.toNat, by have : (0 : Int) ≤ x := x1; omega⟩
    have hnl : n < fs.length := by omega
    obtain ⟨g, o, e2, _, hcl⟩ := hbl.out (.cells #[.string (bs op), .int .i64 r0, .bool aR, .int .i64 aN, .bool bR, .int .i64 bN, .int .i64 n] 42) hw n hnl
    have hg : wordW (nmP vs fs ls (L.map Prod.fst)) ⟨op, r0, aR, aN, bR, bN, (n : Int)⟩ ((102 : UInt8).toNat : Int) = fs.getD n [] := by
      show getW fs (n : Int) = _
      unfold getW
      rw [if_pos ⟨by omega, by omega⟩]; simp
    generalize fs.getD n [] = y at hcl hg
    have hNm' := fun o => hNm.out o 102 (by simp)
    replace hg := hide hg
    clear hNm hV hLk hR hA hAb hLb hTh hx hi hc hbl hw
    subst e2
    subst e
    go_enter Tryz.func63, Tryz.ntmps63
    go_wp2_with fail
    refine (hNm' _).mono ?_
    rintro e w2 ⟨rfl, rfl⟩
    clear hNm'
    go_wp2_with fail
    go_ret
    exact ⟨by show Ending.returned (.string (bs y)) = _; rw [hg.out], hb1.out _⟩
  · obtain ⟨x1, x2⟩ := hx (by simp [isK])
    have x2 : x < (ls.length : Int) := x2
    obtain ⟨a, cap, e, hw⟩ := hLk
    obtain ⟨n, rfl⟩ : ∃ n : Nat, x = n := ⟨x.toNat, by have : (0 : Int) ≤ x := x1; omega⟩
    have hnl : n < ls.length := by omega
    obtain ⟨g, o, e2, _, hcl⟩ := hbl.out (.cells #[.string (bs op), .int .i64 r0, .bool aR, .int .i64 aN, .bool bR, .int .i64 bN, .int .i64 n] 42) hw n hnl
    have hg : wordW (nmP vs fs ls (L.map Prod.fst)) ⟨op, r0, aR, aN, bR, bN, (n : Int)⟩ ((109 : UInt8).toNat : Int) = ls.getD n [] := by
      show getW ls (n : Int) = _
      unfold getW
      rw [if_pos ⟨by omega, by omega⟩]; simp
    generalize ls.getD n [] = y at hcl hg
    have hNm' := fun o => hNm.out o 109 (by simp)
    replace hg := hide hg
    clear hNm hV hF hR hA hAb hLb hTh hx hi hc hbl hw
    subst e2
    subst e
    go_enter Tryz.func63, Tryz.ntmps63
    go_wp2_with fail
    refine (hNm' _).mono ?_
    rintro e w2 ⟨rfl, rfl⟩
    clear hNm'
    go_wp2_with fail
    go_ret
    exact ⟨by show Ending.returned (.string (bs y)) = _; rw [hg.out], hb1.out _⟩
  · obtain ⟨x1, x2⟩ := hx (by simp [isK])
    have x2 : x < ((L.map Prod.fst).length : Int) := x2
    have hTh' := fun o => hTh.out o x1 (by simpa using x2)
    have hg : wordW (nmP vs fs ls (L.map Prod.fst)) ⟨op, r0, aR, aN, bR, bN, x⟩ 116 = getW (L.map Prod.fst) x := rfl
    clear hV hF hLk hR hA hAb hLb hNm hTh hx hi hc hbl
    go_enter Tryz.func63, Tryz.ntmps63
    go_wp2_with fail
    refine (hTh' _).mono ?_
    rintro e w2 ⟨rfl, rfl⟩
    go_wp2_with fail
    go_ret
    exact ⟨by rw [← hg]; rfl, hb1.out _⟩
  · clear hV hF hLk hR hA hAb hNm hTh hx hi hc hbl
    go_enter Tryz.func63, Tryz.ntmps63
    go_wp2_with fail
    refine (hLb.out _).mono ?_
    rintro e w2 ⟨rfl, hB2⟩
    replace hB2 := hide hB2
    go_wp2_with fail
    go_ret
    exact ⟨rfl, (hbt _).out _ hB2.out⟩
end
end Go.Proofs.YtlefemndikednaaGreatDoor
/-
  An instruction of the plain text.
-/
namespace Go.Proofs.YtlefemndikednaaGreatDoor
open Go.RowKit Go.Shelf Go.Proofs.Cod

def insW (N : Int → List Tx) (i : In7) (ps : Tx) : List Tx := i.op :: ps.map fun c => wordW N i (c.toNat : Int)
theorem box7 {w : World} {b : Nat} {i : In7} (h : w.heap[b]? = some (.cells (insC i) 42)) : w.cell? ⟨b, 0, none⟩ = some (.string (bs i.op)) ∧ w.cell? ⟨b, 1, none⟩ = some (.int .i64 i.r) ∧ w.cell? ⟨b, 2, none⟩ = some (.bool i.aR) ∧ w.cell? ⟨b, 3, none⟩ = some (.int .i64 i.aN) ∧ w.cell? ⟨b, 4, none⟩ = some (.bool i.bR) ∧ w.cell? ⟨b, 5, none⟩ = some (.int .i64 i.bN) ∧ w.cell? ⟨b, 6, none⟩ = some (.int .i64 i.x) := by
  simp [World.cell?, h, insC]
theorem StrL.one (w : World) (x : Tx) : StrL w w.heap.size (w.alloc (.cells #[.string (bs x)] 9)) (.slice (some ⟨w.heap.size, 0, none⟩) 1 1) [x] := by
  refine ⟨⟨rfl, .inr ⟨w.heap.size, 1, #[.string (bs x)], rfl, Nat.le_refl _, World.alloc_heap_new w _, Nat.le_refl _, by unfold maxLen; omega, rfl, rfl⟩⟩, (Below.refl _ _).alloc (Nat.le_refl _) _⟩
theorem StrL.below {w wr w' : World} {base : Nat} {v : Value} {L : List Tx} (h : StrL w base wr v L) (hb : Below wr.heap.size wr w') (hbase : base ≤ wr.heap.size) : StrL w base w' v L := ⟨c_belowS h.row hb, h.low.trans (hb.mono hbase)⟩
section
variable {w : World} {base b B : Nat} {v f l t buf : Value} {out : Tx} {vs fs ls : List Tx} {L : List (Tx × Value)} {C : List (List In7)}
set_option maxRecDepth 100000 in
set_option maxHeartbeats 1000000 in
theorem wrInstr_any (h : WrW w base b v f l t buf out) (hp : ProgW w 0 v f l t vs fs ls L C) (ht : Tabs w B) (hB : B ≤ base) (hbw : base ≤ w.heap.size) (i : In7) (hi : InFit i) (ps : Tx) (hps : partsT i.op = some ps) (hl8 : ∀ c, c ∈ ps → c ∈ letters) (hx : ∀ c, c ∈ ps → XOk (nmP vs fs ls (L.map Prod.fst)) i (c.toNat : Int)) (hlen : out.length + (lineW (insW (nmP vs fs ls (L.map Prod.fst)) i ps)).length ≤ 140737488355328) :
    Calls Tryz.prog 44 #[ptrV b, .agg (insC i)] w fun e w' => e = .returned (.tuple #[]) ∧ ∃ buf', WrW w' base b v f l t buf' (out ++ lineW (insW (nmP vs fs ls (L.map Prod.fst)) i ps)) ∧ WKeep base b w w' := by
  have hpl := partsT_mem hps
  obtain ⟨kA, kB, hB1, hz1⟩ := two_made w (.cells (insC i) 42) (.cells #[.string (bs i.op)] 9)
  have hS1 := StrL.one (w.alloc (.cells (insC i) 42)) i.op
  have hb0 : Below w.heap.size w (w.alloc (.cells (insC i) 42)) := (Below.refl _ _).alloc (Nat.le_refl _) _
  rw [World.size_alloc] at hS1
  have hkA : (w.alloc (.cells (insC i) 42)).heap[w.heap.size]? = some (.cells (insC i) 42) := World.alloc_heap_new w _
  have hP := partsOf_any i.op ((w.alloc (.cells (insC i) 42)).alloc (.cells #[.string (bs i.op)] 9)) (ht.keep (hB1.mono (by omega))).shapes
  rw [hps] at hP
  have HW := hide (⟨h, hp, ht, hb0, hS1, hkA⟩ : _ ∧ _ ∧ _ ∧ _ ∧ _ ∧ _)
  clear h hp ht hb0 hS1 hkA kA kB hB1 hz1
  unfold ptrV
  go_enter Tryz.func44, Tryz.ntmps44
  obtain ⟨op, r0, aR, aN, bR, bN, x⟩ := i
  unfold insC at hP ⊢
  dsimp only at hP ⊢
  go_wp2_with fail
  refine hP.mono ?_
  rintro e w2 ⟨rfl, hB2⟩
  clear hP
  generalize hw1 : w.alloc (.cells #[.string (bs op), .int .i64 r0, .bool aR, .int .i64 aN, .bool bR, .int .i64 bN, .int .i64 x] 42) = w1 at *
  have hw1' : w.alloc (.cells (insC ⟨op, r0, aR, aN, bR, bN, x⟩) 42) = w1 := hw1
  rw [hw1'] at HW
  obtain ⟨h, hp, ht, hb0, hS1, hkA⟩ := HW.out
  have hz1 : w1.heap.size = w.heap.size + 1 := by rw [← hw1]; simp
  have hS2 := hS1.below hB2 (by simp; omega)
  have HS2 := hide hS2
  have hpsO := hide hps
  have HW1 := hide (⟨h.below hb0, hp.below hb0, ht.keep (hb0.mono (by omega)), hb0, hkA, hz1⟩ : _ ∧ _ ∧ _ ∧ _ ∧ _ ∧ _)
  replace hi := hide hi
  replace hx := hide hx
  replace hl8 := hide hl8
  replace hlen := hide hlen
  replace hz1 := hide hz1
  have hzp := bs_size ps
  clear HW h hp ht hb0 hS1 hkA hS2 hB2 hw1 hw1' hps
  have hgd : ((some ps).getD [] : Tx) = ps := rfl
  rw [hgd]
  generalize hbx : w.heap.size + 1 = bx at *
  go_wp2_with fail
  go_loopw [4, 19] (fun wv iv wr => ∃ k : Nat, k ≤ ps.length ∧ iv = .int .i64 k ∧ StrL w1 bx wr wv (op :: (ps.take k).map fun c => wordW (nmP vs fs ls (L.map Prod.fst)) ⟨op, r0, aR, aN, bR, bN, x⟩ (c.toNat : Int))) (fun _ iv _ => ps.length - (intOf iv).toNat)
  case atStart => exact ⟨0, Nat.zero_le _, rfl, HS2.out⟩
  case round =>
    obtain ⟨k, hk, rfl, hS⟩ := hrel
    clear HS2
    obtain ⟨h, hp, ht, hb0, hkA, hz1'⟩ := HW1.out
    have hlow : Below w1.heap.size w1 wr := by rw [hz1']; exact hS.low
    have hbox := (hlow.block w.heap.size (by omega)).trans hkA
    obtain ⟨x0, x1, x2, x3, x4, x5, x6⟩ := box7 hbox
    dsimp only at x0 x1 x2 x3 x4 x5 x6
    obtain ⟨wa, wc, hwv⟩ := owns_len hS.row
    have hLl : (op :: (ps.take k).map fun c => wordW (nmP vs fs ls (L.map Prod.fst)) ⟨op, r0, aR, aN, bR, bN, x⟩ (c.toNat : Int)).length = k + 1 := by simp; omega
    rw [hLl] at hwv
    replace hLl := hide hLl
    by_cases h5 : k < ps.length
    · have hlt : (k : Int) < (ps.length : Int) := by omega
      have hget : ∀ hh : k < (bs ps).size, (bs ps)[k]'hh = ps[k] := fun hh => bs_get ps k hh
      have hkz : k < (bs ps).size := by rw [hzp]; exact h5
      have hgk := hget hkz
      have hcm : ps[k] ∈ ps := List.getElem_mem h5
      have hd : Below wr.heap.size wr wr.drew := ⟨rfl, rfl, rfl, Nat.le_refl _, fun _ _ => rfl⟩
      have hlowd : Below w1.heap.size w1 wr.drew := hlow.drew
      have hWd := wrWord_any (h.below hlowd) (hp.below hlowd) (ht.keep (hlowd.mono (by omega))) (B := B) (by have := hlow.size; show B ≤ wr.heap.size; omega) ⟨op, r0, aR, aN, bR, bN, x⟩ hi.out ps[k] (hl8.out _ hcm) (hx.out _ hcm)
      unfold ptrV insC at hWd
      dsimp only at hWd
      obtain ⟨y, hy⟩ : ∃ y, wordW (nmP vs fs ls (L.map Prod.fst)) ⟨op, r0, aR, aN, bR, bN, x⟩ (ps[k].toNat : Int) = y := ⟨_, rfl⟩
      rw [hy] at hWd
      replace hy := hide hy
      have hwk : wrap64 ((k : Int) + 1) = (k : Int) + 1 := IntWalk.wrap64_in _ (by omega)
      have HH := hide (⟨hS, hlow, hbox, h5, hk⟩ : _ ∧ _ ∧ _ ∧ _ ∧ _)
      subst hwv
      clear h hp ht hb0 hkA hz1' hS hlow hbox hcm hd hlowd hget h5 hk hx hi hl8 hlen
      go_wp2_with fail
      refine wp_region_held_drew (S := (fun w' => w'.cell? ⟨w.heap.size, 0, none⟩ = some (.string (bs op)) ∧ w'.cell? ⟨w.heap.size, 1, none⟩ = some (.int .i64 r0) ∧ w'.cell? ⟨w.heap.size, 2, none⟩ = some (.bool aR) ∧ w'.cell? ⟨w.heap.size, 3, none⟩ = some (.int .i64 aN) ∧ w'.cell? ⟨w.heap.size, 4, none⟩ = some (.bool bR) ∧ w'.cell? ⟨w.heap.size, 5, none⟩ = some (.int .i64 bN) ∧ w'.cell? ⟨w.heap.size, 6, none⟩ = some (.int .i64 x))) (by kernel_rfl) ⟨x0, x1, x2, x3, x4, x5, x6⟩ (fun hHeld => ?_)
      refine wpAnyH_take (i := 0) (v := ?_) rfl (by kernel_rfl) (by kernel_rfl) (by kernel_rfl) (fun _ _ _ h => h) (Or.inl ⟨by rfl, ?_⟩) hHeld ?_
      rotate_left
      · intro w9 hSw; (try dsimp only at hSw); go_simp; try with_reducible rfl
      simp only [Act.put, List.getElem_toArray, List.getElem_cons_zero, List.getElem_cons_succ, List.setIfInBounds_toArray, List.set_cons_succ, List.set_cons_zero]
      refine wpAnyH_take (i := 1) (v := ?_) rfl (by kernel_rfl) (by kernel_rfl) (by kernel_rfl) (fun _ _ _ h => h) (Or.inl ⟨by rfl, ?_⟩) hHeld ?_
      rotate_left
      · intro w9 hSw; (try dsimp only at hSw); go_simp; try with_reducible rfl
      simp only [Act.put, List.getElem_toArray, List.getElem_cons_zero, List.getElem_cons_succ, List.setIfInBounds_toArray, List.set_cons_succ, List.set_cons_zero]
      refine wpAnyH_take (i := 2) (v := ?_) rfl (by kernel_rfl) (by kernel_rfl) (by kernel_rfl) (fun _ _ _ h => h) (Or.inl ⟨by rfl, ?_⟩) hHeld ?_
      rotate_left
      · intro w9 hSw; (try dsimp only at hSw); go_simp; try with_reducible rfl
      simp only [Act.put, List.getElem_toArray, List.getElem_cons_zero, List.getElem_cons_succ, List.setIfInBounds_toArray, List.set_cons_succ, List.set_cons_zero]
      refine wpAnyH_take (i := 3) (v := ?_) rfl (by kernel_rfl) (by kernel_rfl) (by kernel_rfl) (fun _ _ _ h => h) (Or.inl ⟨by rfl, ?_⟩) hHeld ?_
      rotate_left
      · intro w9 hSw; (try dsimp only at hSw); go_simp; try with_reducible rfl
      simp only [Act.put, List.getElem_toArray, List.getElem_cons_zero, List.getElem_cons_succ, List.setIfInBounds_toArray, List.set_cons_succ, List.set_cons_zero]
      refine wpAnyH_take (i := 4) (v := ?_) rfl (by kernel_rfl) (by kernel_rfl) (by kernel_rfl) (fun _ _ _ h => h) (Or.inl ⟨by rfl, ?_⟩) hHeld ?_
      rotate_left
      · intro w9 hSw; (try dsimp only at hSw); go_simp; try with_reducible rfl
      simp only [Act.put, List.getElem_toArray, List.getElem_cons_zero, List.getElem_cons_succ, List.setIfInBounds_toArray, List.set_cons_succ, List.set_cons_zero]
      refine wpAnyH_take (i := 5) (v := ?_) rfl (by kernel_rfl) (by kernel_rfl) (by kernel_rfl) (fun _ _ _ h => h) (Or.inl ⟨by rfl, ?_⟩) hHeld ?_
      rotate_left
      · intro w9 hSw; (try dsimp only at hSw); go_simp; try with_reducible rfl
      simp only [Act.put, List.getElem_toArray, List.getElem_cons_zero, List.getElem_cons_succ, List.setIfInBounds_toArray, List.set_cons_succ, List.set_cons_zero]
      refine wpAnyH_ready (rs := [6]) (by kernel_rfl) (by simp) ?_
      refine AllReadyH.cons rfl (fun K hK => ?_) AllReadyH.nil
      go_simp
      go_at_call 63
      refine hWd.mono ?_
      rintro e w5 ⟨rfl, hB5⟩
      have hB5' : Below wr.heap.size wr w5 := (show Below wr.heap.size wr wr.drew from ⟨rfl, rfl, rfl, Nat.le_refl _, fun _ _ => rfl⟩).trans hB5
      obtain ⟨hS, hlow, hbox, h5, hk⟩ := HH.out
      have hbox5 := (hB5'.block w.heap.size (Array.getElem?_eq_some_iff.1 hbox).1).trans hbox
      obtain ⟨y0, y1, y2, y3, y4, y5, y6⟩ := box7 hbox5
      dsimp only at y0 y1 y2 y3 y4 y5 y6
      have hlow5 := hlow.trans (hB5'.mono hlow.size)
      have hS5 := hS.below hB5' (by have := hS.low.size; have := hz1.out; omega)
      obtain ⟨g, cap, w6, hrun, hS6⟩ := hS5.push (by have := hz1.out; omega) y (by simp; omega)
      have hlow6 : Below w1.heap.size w1 w6 := by rw [hz1.out]; exact hS6.low
      obtain ⟨h, hp, ht, hb0, hkA, hz1'⟩ := HW1.out
      have hbox6 := (hlow6.block w.heap.size (by omega)).trans hkA
      obtain ⟨z0, z1, z2, z3, z4, z5, z6⟩ := box7 hbox6
      dsimp only at z0 z1 z2 z3 z4 z5 z6
      have hboxA : (w5.alloc (.cells #[.string (bs y)] 9)).heap[w.heap.size]? = some (.cells (insC ⟨op, r0, aR, aN, bR, bN, x⟩) 42) := (Below.heap_alloc w5 _ _ (Array.getElem?_eq_some_iff.1 hbox5).1).trans hbox5
      obtain ⟨v0, v1, v2, v3, v4, v5, v6⟩ := box7 hboxA
      dsimp only at v0 v1 v2 v3 v4 v5 v6
      rw [hLl.out] at hrun hS6
      have HN := hide (⟨hS6, h5⟩ : _ ∧ _)
      clear h hp ht hb0 hkA hz1' hbox6 hboxA hbox5 hbox hlow hlow5 hlow6 hS hS5 hS6 hB5 hB5' h5 hk hWd HH
      go_wp2_with fail
      refine hK.out _ _ ⟨y0, y1, y2, y3, y4, y5, y6⟩ (fun hHeld => ?_)
      clear hK K
      try simp only [Act.put, List.getElem_toArray, List.getElem_cons_zero, List.getElem_cons_succ, List.setIfInBounds_toArray, List.set_cons_succ, List.set_cons_zero]
      refine wpAnyH_ready (rs := [7]) (by kernel_rfl) (by simp) ?_
      refine AllReadyH.cons rfl (fun K hK => ?_) AllReadyH.nil
      go_simp
      refine hK.out _ _ ⟨v0, v1, v2, v3, v4, v5, v6⟩ (fun hHeld => ?_)
      clear hK K
      try simp only [Act.put, List.getElem_toArray, List.getElem_cons_zero, List.getElem_cons_succ, List.setIfInBounds_toArray, List.set_cons_succ, List.set_cons_zero]
      refine wpAnyH_ready (rs := [8]) (by kernel_rfl) (by simp) ?_
      refine AllReadyH.cons rfl (fun K hK => ?_) AllReadyH.nil
      refine step_append_run rfl _ _ _ rfl rfl rfl rfl hrun ?_
      refine hK.out _ _ ⟨z0, z1, z2, z3, z4, z5, z6⟩ (fun hHeld => ?_)
      clear hK K
      try simp only [Act.put, List.getElem_toArray, List.getElem_cons_zero, List.getElem_cons_succ, List.setIfInBounds_toArray, List.set_cons_succ, List.set_cons_zero]
      refine wpAnyH_take (i := 9) (v := ?_) rfl (by kernel_rfl) (by kernel_rfl) (by kernel_rfl) (fun _ _ _ h => h) (Or.inl ⟨by rfl, ?_⟩) hHeld ?_
      rotate_left
      · intro w9 hSw; (try dsimp only at hSw); go_simp; try with_reducible rfl
      simp only [Act.put, List.getElem_toArray, List.getElem_cons_zero, List.getElem_cons_succ, List.setIfInBounds_toArray, List.set_cons_succ, List.set_cons_zero]
      refine wpAnyH_done (by kernel_rfl) ?_ _
      clear hHeld hrun x0 x1 x2 x3 x4 x5 x6 y0 y1 y2 y3 y4 y5 y6 v0 v1 v2 v3 v4 v5 v6 z0 z1 z2 z3 z4 z5 z6
      go_wp2_with fail
      go_roundw
      case rel =>
        (try rw [hwk])
        refine ⟨k + 1, HN.out.2, rfl, ?_⟩
        have e : (ps.take (k + 1)).map (fun c => wordW (nmP vs fs ls (L.map Prod.fst)) ⟨op, r0, aR, aN, bR, bN, x⟩ (c.toNat : Int)) = (ps.take k).map (fun c => wordW (nmP vs fs ls (L.map Prod.fst)) ⟨op, r0, aR, aN, bR, bN, x⟩ (c.toNat : Int)) ++ [y] := by
          rw [List.take_succ_eq_append_getElem HN.out.2, List.map_append]; exact congrArg (_ ++ [·]) hy.out
        rw [e]
        exact HN.out.1
      case measure =>
        (try rw [hwk])
        exact Nat.sub_lt_sub_left HN.out.2 (Nat.lt_succ_self k)
    · have hkl : k = ps.length := by omega
      subst hkl
      have hbase : base ≤ wr.heap.size := by have := hlow.size; omega
      have hW := h.below hlow
      obtain ⟨a', c', e', hws⟩ := row_ws0 hS.row rfl
      have hkeep : WKeep base b w wr := WKeep.of_below (hb0.trans (hlow.mono hb0.size)) hbw
      have hcap : ps.length + 1 ≤ wc := by
        have hr := hS.row
        rw [hwv, hLl.out] at hr
        rcases hr.2 with ⟨q, _⟩ | ⟨q1, q2, q3, q4, q5, q6, q7, _⟩
        · cases q
        · cases q4; exact q7
      rw [hwv, hLl.out] at e'
      cases e'
      rw [List.take_length] at hws hLl
      have hLine := wrLine_any hW hLl.out hws hcap hlen.out (by omega) hbase
      unfold ptrV at hLine
      subst hwv
      replace hkeep := hide hkeep
      clear h hp ht hb0 hkA hz1' hS hlow hbox hW hws hcap hk h5 hx hi hl8 hlen x0 x1 x2 x3 x4 x5 x6
      go_wp2_with fail
      refine hLine.mono ?_
      rintro e w7 ⟨rfl, buf', hW7, hK7⟩
      have HF := hide (⟨hW7, hK7⟩ : _ ∧ _)
      clear hW7 hK7 hLine
      go_wp2_with fail
      go_end0
      exact ⟨rfl, buf', HF.out.1, hkeep.out.trans HF.out.2⟩
end
end Go.Proofs.YtlefemndikednaaGreatDoor
/-
  Where jumps go.
-/
namespace Go.Proofs
open Go.Shelf
shelf_lay Lays.n137 Nm 137 at Tryz as Tryz.lays137
end Go.Proofs
namespace Go.Proofs.YtlefemndikednaaGreatDoor
open Go.RowKit Go.Shelf Go.Proofs.Cod

def isJ (i : In7) : Bool := decide (0 ≤ Lib.indexByte ((partsT i.op).getD []) 108)
def targL (is : List In7) (n : Nat) : List Bool := (List.range n).map fun (k : Nat) => is.any fun i => isJ i && decide (i.x = (k : Int))
theorem targL_len (is : List In7) (n : Nat) : (targL is n).length = n := by simp [targL]
theorem made_one (z : Value) (n : Nat) : (madeCells #[z] n).toList = List.replicate n z := by
  apply List.ext_getElem
  · simp [madeCells]
  · intro i h1 h2
    simp [madeCells, Nat.mod_one]
theorem targL_nil (n : Nat) : (targL [] n).map Value.bool = List.replicate n (.bool false) := by
  apply List.ext_getElem
  · simp [targL]
  · intro i h1 h2
    simp [targL]
theorem targL_no {is : List In7} {k n : Nat} {i : In7} (hi : is[k]? = some i) (hj : isJ i = false) : targL (is.take (k + 1)) n = targL (is.take k) n := by
  have hl := (List.getElem?_eq_some_iff.1 hi).1
  have he := (List.getElem?_eq_some_iff.1 hi).2
  unfold targL
  rw [List.take_succ_eq_append_getElem hl, he]
  simp [hj]
theorem targL_at (is : List In7) (n q : Nat) : (targL is n)[q]? = if q < n then some (is.any fun i => isJ i && decide (i.x = (q : Int))) else none := by
  unfold targL
  rw [List.getElem?_map]
  by_cases h : q < n
  · rw [if_pos h, List.getElem?_range h]; rfl
  · rw [if_neg h, List.getElem?_eq_none (by simpa using h)]; rfl
theorem targL_set {is : List In7} {k n m : Nat} {i : In7} (hi : is[k]? = some i) (hj : isJ i = true) (hx : i.x = (m : Int)) : targL (is.take (k + 1)) n = (targL (is.take k) n).set m true := by
  have hl := (List.getElem?_eq_some_iff.1 hi).1
  have he := (List.getElem?_eq_some_iff.1 hi).2
  apply List.ext_getElem?
  intro q
  rw [targL_at, List.take_succ_eq_append_getElem hl, he]
  by_cases e : q = m
  · subst e
    by_cases hq : q < n
    · rw [List.getElem?_set_self (by rw [targL_len]; exact hq), if_pos hq]
      simp [hj, hx]
    · rw [if_neg hq, List.getElem?_eq_none (by rw [List.length_set, targL_len]; omega)]
  · rw [List.getElem?_set_ne (fun e' => e e'.symm), targL_at]
    have : ¬ ((m : Int) = (q : Int)) := by omega
    simp [hj, hx, this]
section
variable {w : World} {B : Nat}
set_option maxRecDepth 100000 in
set_option maxHeartbeats 1000000 in
theorem jumps_any {cv : Value} {is : List In7} (hrow : w.ownsRow 0 42 7 cv is.length (codeC is)) (ht : Tabs w B) (hB : B ≤ w.heap.size) (hl : is.length < 1000) (hx : ∀ i, i ∈ is → isJ i = true → 0 ≤ i.x ∧ i.x ≤ is.length) :
    Calls Tryz.prog 42 #[cv] w fun e w' => ∃ g, e = .returned (.slice (some ⟨g, 0, none⟩) (is.length + 1) (is.length + 1)) ∧ w'.ownsRow w.heap.size 4 1 (.slice (some ⟨g, 0, none⟩) (is.length + 1) (is.length + 1)) (is.length + 1) ((targL is (is.length + 1)).map Value.bool) ∧ Below w.heap.size w w' := by
  obtain ⟨ca, cc, hcv⟩ := owns_len hrow
  subst hcv
  obtain ⟨i0, hi0, hz0, hz1, hz2⟩ := info_parts (show (Tryz.prog.info? 4).map (fun i => (i.zero, i.size, i.bytes)) = some (some (.bool false), 1, 1) by kernel_rfl)
  obtain ⟨w1, hmk, hr1, hg1⟩ := run_makeSlice_full (P := Tryz.prog) w w.heap.size 104 4 i0 (.bool false) 1 Tryz.underlying104 hi0 hz0 hz1 .i64 .i64 (is.length + 1) (by omega) (by rw [hz2]; omega) (by unfold maxLen; omega) (Nat.le_refl _)
  have hr1 : w1.ownsRow w.heap.size 4 1 (.slice (some ⟨w.heap.size, 0, none⟩) (is.length + 1) (is.length + 1)) (is.length + 1) ((targL (is.take 0) (is.length + 1)).map Value.bool) := by
    rw [List.take_zero, targL_nil, ← made_one (.bool false) (is.length + 1)]
    rw [Nat.mul_one] at hr1
    exact hr1
  have hB1 : Below w.heap.size w w1 := ⟨hg1.os, hg1.tape, hg1.output, hg1.size, fun k hk => hg1.block k hk (by simp)⟩
  have hmk : (Instr.makeSlice 104 (.int .i64 ((is.length : Int) + 1)) (.int .i64 ((is.length : Int) + 1))).run Tryz.prog w = .ok (.slice (some ⟨w.heap.size, 0, none⟩) (is.length + 1) (is.length + 1)) w1 := by
    simpa using hmk
  have H := hide (⟨hrow, ht⟩ : _ ∧ _)
  have H1 := hide (⟨hr1, hB1⟩ : _ ∧ _)
  replace hx := hide hx
  clear hrow ht hr1 hB1 hg1 hi0 hz0 hz1 hz2
  have hwn : wrap64 ((is.length : Int) + 1) = (is.length : Int) + 1 := IntWalk.wrap64_in _ (by omega)
  go_enter Tryz.func42, Tryz.ntmps42
  go_wp2_with fail
  clear hmk hwn
  go_loopw [14] (fun iv wr => ∃ k : Nat, k ≤ is.length ∧ iv = .int .i64 k ∧ wr.ownsRow w.heap.size 4 1 (.slice (some ⟨w.heap.size, 0, none⟩) (is.length + 1) (is.length + 1)) (is.length + 1) ((targL (is.take k) (is.length + 1)).map Value.bool) ∧ Below w.heap.size w wr) (fun iv _ => is.length - (intOf iv).toNat)
  case atStart => exact ⟨0, Nat.zero_le _, rfl, H1.out.1, H1.out.2⟩
  case round =>
    obtain ⟨k, hk, rfl, hr, hbw⟩ := hrel
    clear H1
    by_cases h5 : k < is.length
    · have hlt : (k : Int) < (is.length : Int) := by omega
      obtain ⟨i, hi⟩ : ∃ i, is[k]? = some i := ⟨_, List.getElem?_eq_getElem h5⟩
      obtain ⟨cg, ccap, e, hcg, I7⟩ := i7_at (c_belowS H.out.1 hbw) hi
      cases e
      obtain ⟨x0, x1, x2, x3, x4, x5, x6⟩ := I7
      have hwk : wrap64 ((k : Int) + 1) = (k : Int) + 1 := IntWalk.wrap64_in _ (by omega)
      have hba : Below w.heap.size w (wr.alloc (.cells (insC i) 42)) := hbw.alloc hbw.size _
      have hP := partsOf_any i.op (wr.alloc (.cells (insC i) 42)) (H.out.2.keep (hba.mono hB)).shapes
      have HH := hide (⟨hr, hbw, hi, h5, hba⟩ : _ ∧ _ ∧ _ ∧ _ ∧ _)
      have hxi := hide (hx.out i (List.mem_of_getElem? hi))
      have hIB := Any.strings_IndexByte Tryz.lays137 (bs ((partsT i.op).getD [])) 108
      have hisJ : isJ i = decide (0 ≤ Lib.indexByte ((partsT i.op).getD []) 108) := rfl
      replace hisJ := hide hisJ
      obtain ⟨op, r0, aR, aN, bR, bN, x⟩ := i
      unfold insC at hP HH
      dsimp only at hP x0 x1 x2 x3 x4 x5 x6 hIB hisJ
      replace hcg := hide hcg
      clear hr hbw hi h5 hk hba hx H
      have hbd : (bs ((partsT op).getD [])).data.toList = (partsT op).getD [] := by simp [bs]
      rw [hbd] at hIB
      generalize (partsT op).getD [] = ps at *
      have hIB := fun w => hIB w
      have hc8 : (Int.toNat 108).toUInt8 = 108 := by decide
      rw [hc8] at hIB
      generalize Lib.indexByte ps 108 = z at *
      go_wp2_with fail
      refine hP.mono ?_
      rintro e w3 ⟨rfl, hB3⟩
      obtain ⟨hr, hbw, hi, h5, hba⟩ := HH.out
      have hba' : Below wr.heap.size wr (wr.alloc (.cells #[.string (bs op), .int .i64 r0, .bool aR, .int .i64 aN, .bool bR, .int .i64 bN, .int .i64 x] 42)) := (Below.refl _ _).alloc (Nat.le_refl _) _
      have hB3' : Below wr.heap.size wr w3 := hba'.trans (hB3.mono hba'.size)
      have hr3 := c_belowS hr hB3'
      have hbw3 := hbw.trans (hB3'.mono hbw.size)
      have hbx : w3.heap[wr.heap.size]? = some (.cells #[.string (bs op), .int .i64 r0, .bool aR, .int .i64 aN, .bool bR, .int .i64 bN, .int .i64 x] 42) := (hB3.block _ (by simp)).trans (World.alloc_heap_new wr _)
      have y6 : w3.cell? ⟨wr.heap.size, 6, none⟩ = some (.int .i64 x) := by simp [World.cell?, hbx]
      have HH3 := hide (⟨hr3, hbw3, hi, h5⟩ : _ ∧ _ ∧ _ ∧ _)
      clear hr hbw hi h5 hba hba' hB3 hB3' hr3 hbw3 hbx x0 x1 x2 x3 x4 x5 x6 hP HH
      have hIB3 := hIB w3
      clear hIB
      by_cases hz : 0 ≤ z
      · have hJ : isJ ⟨op, r0, aR, aN, bR, bN, x⟩ = true := by rw [hisJ.out]; simpa using hz
        obtain ⟨q1, q2⟩ := hxi.out hJ
        have q1 : 0 ≤ x := q1
        have q2 : x ≤ (is.length : Int) := q2
        obtain ⟨m, rfl⟩ : ∃ m : Nat, x = m := ⟨x.toNat, by omega⟩
        have hm : (m : Int) < (is.length : Int) + 1 := by omega
        obtain ⟨hr3, hbw3, hi, h5⟩ := HH3.out
        have hst := hr3.stored m (.bool true)
        have hf := hr3.frozenAt m
        have hc : w3.cell? ⟨w.heap.size, m, none⟩ = ((targL (is.take k) (is.length + 1)).map Value.bool)[m]? := hr3.cellAt m (by omega)
        rw [List.getElem?_map, targL_at, if_pos (by omega)] at hc
        have hc : w3.cell? ⟨w.heap.size, m, none⟩ = some (.bool ((is.take k).any fun i => isJ i && decide (i.x = (m : Int)))) := hc
        generalize ((is.take k).any fun i => isJ i && decide (i.x = (m : Int))) = bb at hc
        have hset : ((targL (is.take k) (is.length + 1)).map Value.bool).set m (.bool true) = (targL (is.take (k + 1)) (is.length + 1)).map Value.bool := by
          rw [targL_set hi hJ rfl, List.map_set]
        rw [hset] at hst
        have HN := hide (⟨hst.1, hbw3.setCell (p := ⟨w.heap.size, m, none⟩) (Nat.le_refl _) (.bool true), h5⟩ : _ ∧ _ ∧ _)
        clear hr3 hbw3 hi h5 hst hset HH3 hJ hxi q1 hisJ
        go_wp2_with fail
        refine hIB3.mono ?_
        rintro e w4 ⟨rfl, rfl⟩
        go_wp2_with fail
        go_roundw
        case rel =>
          (try rw [hwk])
          exact ⟨k + 1, HN.out.2.2, rfl, HN.out.1, HN.out.2.1⟩
        case measure =>
          (try rw [hwk])
          exact Nat.sub_lt_sub_left HN.out.2.2 (Nat.lt_succ_self k)
      · have hJ : isJ ⟨op, r0, aR, aN, bR, bN, x⟩ = false := by rw [hisJ.out]; simpa using hz
        obtain ⟨hr3, hbw3, hi, h5⟩ := HH3.out
        have hset := targL_no (n := is.length + 1) hi hJ
        rw [← hset] at hr3
        have HN := hide (⟨hr3, hbw3, h5⟩ : _ ∧ _ ∧ _)
        have hz' : z < 0 := by omega
        have hz2 : decide (0 ≤ z) = false := by simpa using hz
        clear hr3 hbw3 hi h5 hset HH3 hJ hxi hisJ hz
        go_wp2_with fail
        refine hIB3.mono ?_
        rintro e w4 ⟨rfl, rfl⟩
        go_wp2_with fail
        go_roundw
        case rel =>
          (try rw [hwk])
          exact ⟨k + 1, HN.out.2.2, rfl, HN.out.1, HN.out.2.1⟩
        case measure =>
          (try rw [hwk])
          exact Nat.sub_lt_sub_left HN.out.2.2 (Nat.lt_succ_self k)
    · have hkl : k = is.length := by omega
      subst hkl
      rw [List.take_length] at hr
      have HN := hide (⟨hr, hbw⟩ : _ ∧ _)
      clear hr hbw hx H hk h5
      go_wp2_with fail
      go_ret
      exact ⟨w.heap.size, rfl, HN.out.1, HN.out.2⟩
end
end Go.Proofs.YtlefemndikednaaGreatDoor
