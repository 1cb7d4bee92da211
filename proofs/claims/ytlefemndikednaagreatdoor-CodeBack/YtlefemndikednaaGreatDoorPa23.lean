import Derived.Test.YtlefemndikednaaGreatDoorPa22
set_option linter.unusedVariables false
set_option linter.unusedSimpArgs false
/-
  The document's Print: its words.
-/
namespace Go.Proofs.YtlefemndikednaaGreatDoor
open Go.RowKit Go.Shelf Go.Proofs.Cod

section
variable {w : World} {B : Nat}
theorem cat_sz {x y : Tx} (h : x.length + y.length ≤ maxT) : ¬ 9223372036854775807 < (bs x).size + (bs y).size := by
  rw [bs_size, bs_size]
  have : maxT = 140737488355328 := rfl
  omega
set_option maxRecDepth 100000 in
theorem showArg_any (r : Bool) (n : Int) (h : fitI n) (hB : B ≤ w.heap.size) (ht : Tabs w B) : Calls Tryz.prog 46 #[.agg #[.bool r, .int .i64 n]] w fun e w' => e = .returned (.string (bs (argW r n))) ∧ Below w.heap.size w w' := by
  have hb1 : ∀ o, Below w.heap.size w (w.alloc o) := fun o => (Below.refl _ _).alloc (Nat.le_refl _) o
  have hI := fun o => itoa_any n h.1 h.2 (w.alloc o) (ht.keep ((hb1 o).mono hB))
  have hil := Lib.itoa_length_le n h.1 h.2
  replace hb1 := hide hb1
  have e1 : argW true n = 114 :: Lib.itoa n := rfl
  have e2 : argW false n = Lib.itoa n := rfl
  generalize Lib.itoa n = x at *
  have hsz : ¬ 9223372036854775807 < 1 + (bs x).size := by rw [bs_size]; omega
  replace hI := hide hI
  clear h ht hil
  cases r with
  | true =>
    rw [e1]
    go_enter Tryz.func46, Tryz.ntmps46
    go_wp2_with fail
    refine (hI.out _).mono ?_
    rintro e w2 ⟨rfl, hB2⟩
    replace hB2 := hide hB2
    go_wp2_with fail
    go_ret
    exact ⟨by first | rfl | exact congrArg _ (congrArg _ (bs_append [114] _)), (hb1.out _).trans (hB2.out.mono (hb1.out _).size)⟩
  | false =>
    rw [e2]
    go_enter Tryz.func46, Tryz.ntmps46
    go_wp2_with fail
    refine (hI.out _).mono ?_
    rintro e w2 ⟨rfl, hB2⟩
    replace hB2 := hide hB2
    go_wp2_with fail
    go_ret
    exact ⟨rfl, (hb1.out _).trans (hB2.out.mono (hb1.out _).size)⟩
end
/-- A line of names, in the document's way. -/
def catN (k : Tx) (ns : List Tx) (i : Nat) : Tx := k ++ (ns.take i).flatMap fun x => 32 :: x
theorem catN_succ {k : Tx} {ns : List Tx} {i : Nat} (h : i < ns.length) : catN k ns (i + 1) = catN k ns i ++ [32] ++ ns.getD i [] := by
  unfold catN
  rw [List.take_succ_eq_append_getElem h, List.flatMap_append, List.getD_eq_getElem?_getD, List.getElem?_eq_getElem h]
  simp
theorem catN_le {k : Tx} {ns : List Tx} {i : Nat} (h : i ≤ ns.length) : (catN k ns i).length ≤ (catN k ns ns.length).length := by
  unfold catN
  rw [List.take_length]
  have e : ns.flatMap (fun x => 32 :: x) = (ns.take i).flatMap (fun x => 32 :: x) ++ (ns.drop i).flatMap (fun x => 32 :: x) := by rw [← List.flatMap_append, List.take_append_drop]
  rw [e]
  simp only [List.length_append]; omega
theorem catN_all {k : Tx} {ns : List Tx} (h : ns.length ≠ 0) : catN k ns ns.length ++ [10] = hdL k ns := by
  rw [(hdL_join h).1]
  unfold catN lineW joinT
  rw [List.take_length, Lib.join_cons]
  match ns, h with
  | x :: r, _ =>
    show k ++ List.flatMap (fun x => 32 :: x) (x :: r) ++ [10] = k ++ Lib.joinTail [32] [Lib.join (x :: r) [32]] ++ [10]
    congr 2
    rw [Lib.join_cons]
    unfold Lib.joinTail
    simp [List.flatMap, Function.comp_def]
section
variable {w : World}
set_option maxRecDepth 100000 in
theorem rNames_any {a : Option Addr} {n c : Nat} (k : Tx) {ns : List Tx} (hn : ns.length = n) (hs : Ws w a ns) (hl : n ≤ 1000) (hlen : (hdL k ns).length ≤ maxT) :
    Calls Tryz.prog 25 #[.string (bs k), .slice a n c] w fun e w' => e = .returned (.string (bs (hdL k ns))) ∧ w' = w := by
  by_cases h0 : n = 0
  · have hh : hdL k ns = [] := by unfold hdL; rw [if_pos (hn.trans h0)]
    rw [hh]
    subst h0
    clear hs hlen hh hl hn
    go_enter Tryz.func25, Tryz.ntmps25
    go_wp2_with fail
    go_ret
    exact ⟨rfl, rfl⟩
  · have hne : ns.length ≠ 0 := by rw [hn]; exact h0
    have hall := catN_all (k := k) hne
    have hcl : (catN k ns ns.length).length + 1 ≤ maxT := by rw [← hall, List.length_append] at hlen; exact hlen
    have hn0 : ((n : Int) == 0) = false := by simp; omega
    have hHs := hide hs
    have HH := hide (⟨hn, hall, hcl, hl⟩ : _ ∧ _ ∧ _ ∧ _)
    clear hs hlen hall hcl hl hne hn
    go_enter Tryz.func25, Tryz.ntmps25
    go_wp2_with fail
    go_loopw [5, 6] (fun sv iv wr => ∃ i : Nat, i ≤ n ∧ iv = .int .i64 i ∧ sv = .string (bs (catN k ns i)) ∧ wr = w) (fun _ iv _ => n - (intOf iv).toNat)
    case atStart => exact ⟨0, Nat.zero_le _, rfl, by rw [show catN k ns 0 = k by simp [catN]], rfl⟩
    case round =>
      obtain ⟨i, hi, rfl, rfl, rfl⟩ := hrel
      obtain ⟨hn, hall, hcl, hl⟩ := HH.out
      have hle := catN_le (k := k) (ns := ns) (i := i) (by rw [hn]; exact hi)
      by_cases h5 : i < n
      · have hlt : (i : Int) < (n : Int) := by omega
        have hin : i < ns.length := by rw [hn]; exact h5
        obtain ⟨b, off, e, _, hc⟩ := hHs.out i hin
        subst e
        have hsu := catN_succ (k := k) hin
        have hle2 := catN_le (k := k) (ns := ns) (i := i + 1) hin
        rw [hsu, List.length_append, List.length_append] at hle2
        have hwi : wrap64 ((i : Int) + 1) = (i : Int) + 1 := IntWalk.wrap64_in _ (by omega)
        have z1 : ¬ 9223372036854775807 < (bs (catN k ns i)).size + 1 := cat_sz (y := [32]) (by show _ + 1 ≤ _; omega)
        have a1 : bs (catN k ns i) ++ ⟨#[32]⟩ = bs (catN k ns i ++ [32]) := bs_append _ [32]
        have z2 : ¬ 9223372036854775807 < (bs (catN k ns i ++ [32])).size + (bs (ns.getD i [])).size := cat_sz (by rw [List.length_append]; omega)
        have a2 : bs (catN k ns i ++ [32]) ++ bs (ns.getD i []) = bs (catN k ns (i + 1)) := by rw [bs_append, hsu]
        obtain ⟨y, hy⟩ : ∃ y, catN k ns (i + 1) = y := ⟨_, rfl⟩
        rw [hy] at a2
        replace hy := hide hy
        have h5' := hide h5
        clear hn hall hcl hl hle hle2 hsu hin hi h5
        generalize ns.getD i [] = x at *
        generalize catN k ns i = y0 at *
        go_wp2_with fail
        go_roundw
        case rel =>
          (try rw [hwi])
          exact ⟨i + 1, h5'.out, rfl, by rw [hy.out], by trivial⟩
        case measure =>
          (try rw [hwi])
          exact Nat.sub_lt_sub_left h5'.out (Nat.lt_succ_self i)
      · have hin : i = n := Nat.le_antisymm hi (Nat.le_of_not_lt h5)
        subst hin
        have hge : ¬ (i : Int) < (i : Int) := by omega
        have z1 : ¬ 9223372036854775807 < (bs (catN k ns i)).size + 1 := cat_sz (y := [10]) (by show _ + 1 ≤ _; omega)
        have a1 : bs (catN k ns i) ++ ⟨#[10]⟩ = bs (hdL k ns) := by rw [← hall, hn]; exact bs_append _ [10]
        clear hn hall hcl hl hle hi h5 hHs HH
        generalize catN k ns i = y0 at *
        obtain ⟨y1, hy1⟩ : ∃ y, hdL k ns = y := ⟨_, rfl⟩
        rw [hy1] at a1
        replace hy1 := hide hy1
        go_wp2_with fail
        go_ret
        exact ⟨by rw [hy1.out]; rfl, by trivial⟩
end
section
variable {w : World} {B pb : Nat} {vd fd ld td : Value} {P : RP} {TV : List (Value × Value)}
set_option maxRecDepth 100000 in
set_option maxHeartbeats 1000000 in
theorem rWordD_any (hbx : w.heap[pb]? = some (.cells #[vd, fd, ld, td] 31)) (hd : DView w vd fd ld td P TV) (ht : Tabs w B) (hB : B ≤ w.heap.size) (r : RI) (hi : InFit r.i) (c : UInt8) (hc : c ∈ letters) (hx : XOk (nmP P.vs P.fs P.ls P.names) r.i (c.toNat : Int)) :
    Calls Tryz.prog 28 #[ptrV pb, .agg (riC r).toArray, .int .u8 (letX c).toNat] w fun e w' => e = .returned (.string (bs (wordW (nmP P.vs P.fs P.ls P.names) r.i (c.toNat : Int)))) ∧ Below w.heap.size w w' := by
  have hb1 : ∀ o, Below w.heap.size w (w.alloc o) := fun o => (Below.refl _ _).alloc (Nat.le_refl _) o
  have hT := fun o => ht.keep ((hb1 o).mono hB)
  have hbt : ∀ o, Hid (∀ w', Below (w.alloc o).heap.size (w.alloc o) w' → Below w.heap.size w w') := fun o w' h' => (hb1 o).trans (h'.mono (hb1 o).size)
  have hpl : pb < w.heap.size := (Array.getElem?_eq_some_iff.1 hbx).1
  have hI := fun (n : Int) (hf : fitI n) o => itoa_any n hf.1 hf.2 (w.alloc o) (hT o)
  have hR := fun o => hI r.i.r hi.r o
  have hLb := fun o => hI r.i.x hi.x o
  have hRl := Lib.itoa_length_le r.i.r hi.r.1 hi.r.2
  have hXl := Lib.itoa_length_le r.i.x hi.x.1 hi.x.2
  have z1 : ¬ 9223372036854775807 < 1 + (bs (Lib.itoa r.i.r)).size := by rw [bs_size]; omega
  have z2 : ¬ 9223372036854775807 < 1 + (bs (Lib.itoa r.i.x)).size := by rw [bs_size]; omega
  have hA := fun o => showArg_any r.i.aR r.i.aN hi.a (by have := (hb1 o).size; omega) (hT o)
  have hAb := fun o => showArg_any r.i.bR r.i.bN hi.b (by have := (hb1 o).size; omega) (hT o)
  have hTh := fun (o : Obj) (n : Nat) (th : RTh) (h1 : P.thr[n]? = some th) => show ∃ g cap, td = .slice (some ⟨g, 0, none⟩) P.thr.length cap ∧ (w.alloc o).cell? ⟨g, n * 3, none⟩ = some (.string (bs th.name)) by
    obtain ⟨p, hp⟩ : ∃ p, TV[n]? = some p := ⟨_, List.getElem?_eq_getElem (by rw [hd.len]; exact (List.getElem?_eq_some_iff.1 h1).1)⟩
    obtain ⟨g, cap, e, _, h0, _⟩ := (hd.below (hb1 o)).thrAt h1 hp
    exact ⟨g, cap, e, h0⟩
  have hV := row_ws0 hd.v rfl
  have hF := row_ws0 hd.f rfl
  have hLk := row_ws0 hd.l rfl
  have hbc := fun o => box_cells ((Below.heap_alloc w o pb hpl).trans hbx)
  replace hR := hide hR
  replace hA := hide hA
  replace hAb := hide hAb
  replace hLb := hide hLb
  replace hTh := hide hTh
  replace hb1 := hide hb1
  replace hXl := hide hXl
  replace hpl := hide hpl
  unfold ptrV
  obtain ⟨⟨op, r0, aR, aN, bR, bN, x⟩, line, word⟩ := r
  unfold riC
  dsimp only at hR hA hAb hLb hTh hRl hXl z1 z2 hx ⊢
  obtain ⟨p0, p1, p2, p3⟩ := hbc (.cells #[.string (bs op), .int .i64 r0, .bool aR, .int .i64 aN, .bool bR, .int .i64 bN, .int .i64 x, .int .i64 line, .string (bs word)] 71)
  clear hd hT ht hI hbc hbx
  rcases letters_or hc with rfl | rfl | rfl | rfl | rfl | rfl | rfl | rfl
  · clear hV hF hLk hA hAb hLb hTh hx hi hc
    go_enter Tryz.func28, Tryz.ntmps28
    go_wp2_with fail
    refine (hR.out _).mono ?_
    rintro e w2 ⟨rfl, hB2⟩
    replace hB2 := hide hB2
    go_wp2_with fail
    go_ret
    exact ⟨by first | rfl | exact congrArg _ (congrArg _ (bs_append [114] _)), (hbt _).out _ hB2.out⟩
  · clear hV hF hLk hR hAb hLb hTh hx hi hc
    go_enter Tryz.func28, Tryz.ntmps28
    go_wp2_with fail
    refine (hA.out _).mono ?_
    rintro e w2 ⟨rfl, hB2⟩
    replace hB2 := hide hB2
    go_wp2_with fail
    go_ret
    exact ⟨by first | rfl | exact congrArg _ (congrArg _ (bs_append [114] _)), (hbt _).out _ hB2.out⟩
  · clear hV hF hLk hR hA hLb hTh hx hi hc
    go_enter Tryz.func28, Tryz.ntmps28
    go_wp2_with fail
    refine (hAb.out _).mono ?_
    rintro e w2 ⟨rfl, hB2⟩
    replace hB2 := hide hB2
    go_wp2_with fail
    go_ret
    exact ⟨by first | rfl | exact congrArg _ (congrArg _ (bs_append [114] _)), (hbt _).out _ hB2.out⟩
  · obtain ⟨x1, x2⟩ := hx (by simp [isK])
    have x2 : x < (P.vs.length : Int) := x2
    obtain ⟨a, cap, e, hw⟩ := hV
    obtain ⟨n, rfl⟩ : ∃ n : Nat, x = n := ⟨x.toNat, by have : (0 : Int) ≤ x := x1; omega⟩
    have hnl : n < P.vs.length := by omega
    obtain ⟨g, o, e2, _, hcl⟩ := hw.below (hb1.out (.cells #[.string (bs op), .int .i64 r0, .bool aR, .int .i64 aN, .bool bR, .int .i64 bN, .int .i64 n, .int .i64 line, .string (bs word)] 71)) n hnl
    have hg : wordW (nmP P.vs P.fs P.ls P.names) ⟨op, r0, aR, aN, bR, bN, (n : Int)⟩ ((118 : UInt8).toNat : Int) = P.vs.getD n [] := by
      show getW P.vs (n : Int) = _
      unfold getW
      rw [if_pos ⟨by omega, by omega⟩]; simp
    generalize P.vs.getD n [] = y at hcl hg
    replace hg := hide hg
    clear hF hLk hR hA hAb hLb hTh hx hi hc hw hRl
    subst e2
    subst e
    go_enter Tryz.func28, Tryz.ntmps28
    go_wp2_with fail
    go_region
    all_goals
      go_wp2_with fail
      go_ret
      exact ⟨by show Ending.returned (.string (bs y)) = _; rw [hg.out], (hb1.out _).drew⟩
  · obtain ⟨x1, x2⟩ := hx (by simp [isK])
    have x2 : x < (P.fs.length : Int) := x2
    obtain ⟨a, cap, e, hw⟩ := hF
    obtain ⟨n, rfl⟩ : ∃ n : Nat, x = n := ⟨x.toNat, by have : (0 : Int) ≤ x := x1; omega⟩
    have hnl : n < P.fs.length := by omega
    obtain ⟨g, o, e2, _, hcl⟩ := hw.below (hb1.out (.cells #[.string (bs op), .int .i64 r0, .bool aR, .int .i64 aN, .bool bR, .int .i64 bN, .int .i64 n, .int .i64 line, .string (bs word)] 71)) n hnl
    have hg : wordW (nmP P.vs P.fs P.ls P.names) ⟨op, r0, aR, aN, bR, bN, (n : Int)⟩ ((102 : UInt8).toNat : Int) = P.fs.getD n [] := by
      show getW P.fs (n : Int) = _
      unfold getW
      rw [if_pos ⟨by omega, by omega⟩]; simp
    generalize P.fs.getD n [] = y at hcl hg
    replace hg := hide hg
    clear hV hLk hR hA hAb hLb hTh hx hi hc hw hRl
    subst e2
    subst e
    go_enter Tryz.func28, Tryz.ntmps28
    go_wp2_with fail
    go_region
    all_goals
      go_wp2_with fail
      go_ret
      exact ⟨by show Ending.returned (.string (bs y)) = _; rw [hg.out], (hb1.out _).drew⟩
  · obtain ⟨x1, x2⟩ := hx (by simp [isK])
    have x2 : x < (P.ls.length : Int) := x2
    obtain ⟨a, cap, e, hw⟩ := hLk
    obtain ⟨n, rfl⟩ : ∃ n : Nat, x = n := ⟨x.toNat, by have : (0 : Int) ≤ x := x1; omega⟩
    have hnl : n < P.ls.length := by omega
    obtain ⟨g, o, e2, _, hcl⟩ := hw.below (hb1.out (.cells #[.string (bs op), .int .i64 r0, .bool aR, .int .i64 aN, .bool bR, .int .i64 bN, .int .i64 n, .int .i64 line, .string (bs word)] 71)) n hnl
    have hg : wordW (nmP P.vs P.fs P.ls P.names) ⟨op, r0, aR, aN, bR, bN, (n : Int)⟩ ((109 : UInt8).toNat : Int) = P.ls.getD n [] := by
      show getW P.ls (n : Int) = _
      unfold getW
      rw [if_pos ⟨by omega, by omega⟩]; simp
    generalize P.ls.getD n [] = y at hcl hg
    replace hg := hide hg
    clear hV hF hR hA hAb hLb hTh hx hi hc hw hRl
    subst e2
    subst e
    go_enter Tryz.func28, Tryz.ntmps28
    go_wp2_with fail
    go_region
    all_goals
      go_wp2_with fail
      go_ret
      exact ⟨by show Ending.returned (.string (bs y)) = _; rw [hg.out], (hb1.out _).drew⟩
  · obtain ⟨x1, x2⟩ := hx (by simp [isK])
    have x2 : x < (P.names.length : Int) := x2
    obtain ⟨n, rfl⟩ : ∃ n : Nat, x = n := ⟨x.toNat, by have : (0 : Int) ≤ x := x1; omega⟩
    have hpn : P.names.length = P.thr.length := by simp [RP.names]
    have hnl : n < P.thr.length := by omega
    obtain ⟨th, hth⟩ : ∃ th, P.thr[n]? = some th := ⟨_, List.getElem?_eq_getElem hnl⟩
    obtain ⟨g, cap, e, hcl⟩ := hTh.out (.cells #[.string (bs op), .int .i64 r0, .bool aR, .int .i64 aN, .bool bR, .int .i64 bN, .int .i64 n, .int .i64 line, .string (bs word)] 71) n th hth
    have hlt : (n : Int) < (P.thr.length : Int) := by omega
    have hg : wordW (nmP P.vs P.fs P.ls P.names) ⟨op, r0, aR, aN, bR, bN, (n : Int)⟩ ((116 : UInt8).toNat : Int) = th.name := by
      show getW P.names (n : Int) = _
      unfold getW
      rw [if_pos ⟨by omega, by omega⟩, List.getD_eq_getElem?_getD, Int.toNat_natCast, RP.names, List.getElem?_map, hth]; rfl
    replace hg := hide hg
    clear hV hF hLk hR hA hAb hLb hTh hx hi hc hRl hnl hpn hth
    subst e
    go_enter Tryz.func28, Tryz.ntmps28
    go_wp2_with fail
    go_region
    all_goals
      go_wp2_with fail
      go_ret
      exact ⟨by show Ending.returned (.string (bs th.name)) = _; rw [hg.out], (hb1.out _).drew⟩
  · clear hV hF hLk hR hA hAb hTh hx hi hc
    go_enter Tryz.func28, Tryz.ntmps28
    go_wp2_with fail
    refine (hLb.out _).mono ?_
    rintro e w2 ⟨rfl, hB2⟩
    replace hB2 := hide hB2
    go_wp2_with fail
    go_ret
    exact ⟨by first | rfl | exact congrArg _ (congrArg _ (bs_append [108] _)), (hbt _).out _ hB2.out⟩
end
end Go.Proofs.YtlefemndikednaaGreatDoor
/-
  What a text's program is like: it can be printed.
-/
namespace Go.Proofs.YtlefemndikednaaGreatDoor
open Go.RowKit Go.Shelf Go.Proofs.Cod

def sm (i : In7) : Prop := (0 ≤ i.r ∧ i.r ≤ 1000) ∧ (0 ≤ i.aN ∧ i.aN ≤ 1000) ∧ (0 ≤ i.bN ∧ i.bN ≤ 1000) ∧ (0 ≤ i.x ∧ i.x ≤ 1000)
theorem sm_new (f : Tx) : sm (newIns f) := by unfold sm newIns; simp
theorem reg_small {t : Tx} (h : isReg t = true) : regN t ≤ 3 := by
  obtain ⟨a, b, rfl, h1, h2⟩ := isReg_is h
  show b.toNat - 48 ≤ 3
  omega
theorem arg_small {t : Tx} (h : (isReg t || isNum t) = true) : argN t ≤ 1000 := by
  unfold argN
  by_cases hr : isReg t = true
  · rw [if_pos hr]
    have := reg_small hr
    omega
  · rw [if_neg hr]
    have hn : isNum t = true := by simpa [hr] using h
    unfold isNum at hn
    simp only [Bool.and_eq_true, decide_eq_true_eq] at hn
    have := num_small hn.2
    have h3 : 10 ^ t.length ≤ 10 ^ 3 := Nat.pow_le_pow_right (by omega) hn.1.2
    omega
section
variable {N : Tx → Option (Int × Nat)} {len : Int → Nat}
def isNb (c : Int) : Bool := c == 118 || c == 102 || c == 109
def lastN : List (Int × Tx) → Option Int
  | [] => none
  | p :: l => match lastN l with
    | some c => some c
    | none => if isNb p.1 then some p.1 else none
theorem fill_nm (hN : ∀ t k n, N t = some (k, n) → n < len k) (hl : ∀ k, len k ≤ 4) {i i' : In7} {t : Tx} {c : Int} (hi : sm i) (h : (match N t with | some (k, n) => if k = c then some { i with x := (n : Int) } else none | none => none) = some i') : sm i' ∧ i'.op = i.op ∧ 0 ≤ i'.x ∧ i'.x < len c := by
  cases hNt : N t with
  | none => rw [hNt] at h; cases h
  | some q =>
    obtain ⟨k, n⟩ := q
    rw [hNt] at h
    have h : (if k = c then some { i with x := (n : Int) } else none) = some i' := h
    by_cases hk : k = c
    · subst hk
      rw [if_pos rfl] at h
      cases h
      have h6 := hN t k n hNt
      have h7 := hl k
      exact ⟨⟨hi.1, hi.2.1, hi.2.2.1, ⟨by show (0 : Int) ≤ (n : Int); omega, by show (n : Int) ≤ 1000; omega⟩⟩, rfl, by show (0 : Int) ≤ (n : Int); omega, by show (n : Int) < (len k : Int); omega⟩
    · rw [if_neg hk] at h; cases h
/-- What one part leaves. -/
theorem fillOne_sm (hN : ∀ t k n, N t = some (k, n) → n < len k) (hl : ∀ k, len k ≤ 4) {i i' : In7} {c : UInt8} {t : Tx} (hc : c ∈ letters) (hi : sm i) (hp : fitsP t (c.toNat : Int) = true) (h : fillOne N i ((c.toNat : Int), t) = some i') : sm i' ∧ i'.op = i.op ∧ (isNb (c.toNat : Int) = false → i'.x = i.x) ∧ (isNb (c.toNat : Int) = true → 0 ≤ i'.x ∧ i'.x < len (c.toNat : Int)) := by
  rcases letters_or hc with rfl | rfl | rfl | rfl | rfl | rfl | rfl | rfl
  · have h : some { i with r := (regN t : Int) } = some i' := h
    cases h
    have hr : isReg t = true := hp
    have := reg_small hr
    exact ⟨⟨⟨by show (0 : Int) ≤ (regN t : Int); omega, by show (regN t : Int) ≤ 1000; omega⟩, hi.2.1, hi.2.2.1, hi.2.2.2⟩, rfl, fun _ => rfl, fun e => absurd e (by decide)⟩
  · have h : some { i with aR := isReg t, aN := (argN t : Int) } = some i' := h
    cases h
    have ha : (isReg t || isNum t) = true := hp
    have := arg_small ha
    exact ⟨⟨hi.1, ⟨by show (0 : Int) ≤ (argN t : Int); omega, by show (argN t : Int) ≤ 1000; omega⟩, hi.2.2.1, hi.2.2.2⟩, rfl, fun _ => rfl, fun e => absurd e (by decide)⟩
  · have h : some { i with bR := isReg t, bN := (argN t : Int) } = some i' := h
    cases h
    have ha : (isReg t || isNum t) = true := hp
    have := arg_small ha
    exact ⟨⟨hi.1, hi.2.1, ⟨by show (0 : Int) ≤ (argN t : Int); omega, by show (argN t : Int) ≤ 1000; omega⟩, hi.2.2.2⟩, rfl, fun _ => rfl, fun e => absurd e (by decide)⟩
  · obtain ⟨q1, q2, q3⟩ := fill_nm hN hl (c := 118) hi h
    exact ⟨q1, q2, fun e => absurd e (by decide), fun _ => q3⟩
  · obtain ⟨q1, q2, q3⟩ := fill_nm hN hl (c := 102) hi h
    exact ⟨q1, q2, fun e => absurd e (by decide), fun _ => q3⟩
  · obtain ⟨q1, q2, q3⟩ := fill_nm hN hl (c := 109) hi h
    exact ⟨q1, q2, fun e => absurd e (by decide), fun _ => q3⟩
  · have h : some i = some i' := h
    cases h
    exact ⟨hi, rfl, fun _ => rfl, fun e => absurd e (by decide)⟩
  · have h : some i = some i' := h
    cases h
    exact ⟨hi, rfl, fun _ => rfl, fun e => absurd e (by decide)⟩
theorem fillAll_sm (hN : ∀ t k n, N t = some (k, n) → n < len k) (hl : ∀ k, len k ≤ 4) : ∀ (ps : Tx) (ts : List Tx) (i i' : In7), (∀ c, c ∈ ps → c ∈ letters) → fitsT ts ps = true → sm i → fillAll N i (zipP ps ts) = some i' → sm i' ∧ i'.op = i.op ∧ (lastN (zipP ps ts) = none → i'.x = i.x) ∧ (∀ c, lastN (zipP ps ts) = some c → 0 ≤ i'.x ∧ i'.x < len c)
  | [], [], i, i', _, _, hi, h => by
    have h : some i = some i' := h
    cases h
    exact ⟨hi, rfl, fun _ => rfl, fun c e => by cases e⟩
  | [], _ :: _, _, _, _, h, _, _ => by cases h
  | _ :: _, [], _, _, _, h, _, _ => by cases h
  | c :: ps, t :: ts, i, i', hc, hf, hi, h => by
    have hf : (fitsP t (c.toNat : Int) && fitsT ts ps) = true := hf
    rw [Bool.and_eq_true] at hf
    have hz : zipP (c :: ps) (t :: ts) = ((c.toNat : Int), t) :: zipP ps ts := rfl
    rw [hz] at h ⊢
    cases h1 : fillOne N i ((c.toNat : Int), t) with
    | none =>
      unfold fillAll at h
      rw [h1] at h; cases h
    | some i1 =>
      have h : fillAll N i1 (zipP ps ts) = some i' := by
        unfold fillAll at h
        rw [h1] at h; exact h
      obtain ⟨a1, a2, a3, a4⟩ := fillOne_sm hN hl (hc c (by simp)) hi hf.1 h1
      obtain ⟨b1, b2, b3, b4⟩ := fillAll_sm hN hl ps ts i1 i' (fun c' h' => hc c' (by simp [h'])) hf.2 a1 h
      refine ⟨b1, b2.trans a2, fun e => ?_, fun d e => ?_⟩
      · unfold lastN at e
        cases hl2 : lastN (zipP ps ts) with
        | some d => rw [hl2] at e; cases e
        | none =>
          rw [hl2] at e
          have e : (if isNb (c.toNat : Int) then some (c.toNat : Int) else none) = none := e
          have hb : isNb (c.toNat : Int) = false := by
            cases hb : isNb (c.toNat : Int) with
            | false => rfl
            | true => rw [hb] at e; cases e
          rw [b3 hl2, a3 hb]
      · unfold lastN at e
        cases hl2 : lastN (zipP ps ts) with
        | some d' =>
          rw [hl2] at e
          have e : some d' = some d := e
          cases e
          exact b4 _ hl2
        | none =>
          rw [hl2] at e
          have e : (if isNb (c.toNat : Int) then some (c.toNat : Int) else none) = some d := e
          cases hb : isNb (c.toNat : Int) with
          | false => rw [hb] at e; cases e
          | true =>
            rw [hb] at e
            have e : some (c.toNat : Int) = some d := e
            cases e
            rw [b3 hl2]; exact a4 hb
end
/-- The parts of a shape. -/
structure ShP (q : Tx × Tx) (ts : List Tx) : Prop where
  n : ∀ c, c ∈ q.2 → isNb (c.toNat : Int) = true → lastN (zipP q.2 ts) = some (c.toNat : Int) ∧ (116 : UInt8) ∉ q.2 ∧ (108 : UInt8) ∉ q.2
  t : (116 : UInt8) ∈ q.2 → ∃ x, offP (zipP q.2 ts) = [(116, x)]
  l : (108 : UInt8) ∈ q.2 → ∃ x, offP (zipP q.2 ts) = [(108, x)]
  o : (116 : UInt8) ∉ q.2 → (108 : UInt8) ∉ q.2 → offP (zipP q.2 ts) = []
theorem shape_parts {q : Tx × Tx} (hq : q ∈ shapeT) {ts : List Tx} (hl : ts.length = q.2.length) : ShP q ts := by
  simp only [shapeT, List.mem_cons, List.not_mem_nil, or_false] at hq
  rcases hq with rfl | rfl | rfl | rfl | rfl | rfl | rfl | rfl | rfl | rfl | rfl | rfl | rfl | rfl | rfl | rfl | rfl <;>
    (first
      | (obtain rfl := List.length_eq_zero_iff.1 hl)
      | (obtain ⟨a, rfl⟩ := List.length_eq_one_iff.1 hl)
      | (obtain ⟨a, b, rfl⟩ := len2 hl)
      | (obtain ⟨a, b, c, rfl⟩ := len3 hl)) <;>
    (refine ⟨fun d hd hb => ?_, fun h => ?_, fun h => ?_, fun h1 h2 => ?_⟩
     · first
         | (exact absurd hd List.not_mem_nil)
         | (simp at hd; rcases hd with rfl | rfl | rfl <;> first | (exact ⟨rfl, by decide, by decide⟩) | (exact absurd hb (by decide)))
         | (simp at hd; rcases hd with rfl | rfl <;> first | (exact ⟨rfl, by decide, by decide⟩) | (exact absurd hb (by decide)))
         | (simp at hd; subst hd; first | (exact ⟨rfl, by decide, by decide⟩) | (exact absurd hb (by decide)))
     · first
         | (exact ⟨_, rfl⟩)
         | (exact absurd h (by decide))
     · first
         | (exact ⟨_, rfl⟩)
         | (exact absurd h (by decide))
     · first
         | rfl
         | (exact absurd (by decide) h1)
         | (exact absurd (by decide) h2))
end Go.Proofs.YtlefemndikednaaGreatDoor
/-
  What a text's program is like: all its lines.
-/
namespace Go.Proofs.YtlefemndikednaaGreatDoor
open Go.RowKit Go.Shelf Go.Proofs.Cod

structure PIok (len : Int → Nat) (p : PI) : Prop where
  ex : ∃ q ts, q ∈ shapeT ∧ p.i.op = q.1 ∧ ts.length = q.2.length ∧ p.off = offP (zipP q.2 ts) ∧ sm p.i ∧ ∀ c, c ∈ q.2 → isNb (c.toNat : Int) = true → 0 ≤ p.i.x ∧ p.i.x < len (c.toNat : Int)
theorem PIok.mono {len len' : Int → Nat} {p : PI} (h : PIok len p) (hl : ∀ k, len k ≤ len' k) : PIok len' p := by
  obtain ⟨q, ts, h1, h2, h3, h4, h5, h6⟩ := h.ex
  refine ⟨q, ts, h1, h2, h3, h4, h5, fun c hc hb => ?_⟩
  have := h6 c hc hb
  have := hl (c.toNat : Int)
  omega
structure PW (s : PS) : Prop where
  nlt : ∀ t k n, s.N t = some (k, n) → n < (s.nms k).length
  few : ∀ k, (s.nms k).length ≤ 4
  nm8 : ∀ k x, x ∈ s.nms k → x.length ≤ 8
  thr : (s.nms 116).length = s.bod.length
  bod : ∀ b, b ∈ s.bod → b.code.length ≤ 24 ∧ (∀ t n, b.labs t = some n → n ≤ b.code.length) ∧ ∀ p, p ∈ b.code → PIok (fun k => (s.nms k).length) p
theorem PW.new : PW PS.new := ⟨(fun t k n h => by cases h), (fun k => by simp [PS.new]), (fun k x h => by cases h), rfl, (fun b h => by cases h)⟩
theorem declAll_nlt {kd : Int} {len : Int → Nat} : ∀ (ts : List Tx) (N : Tx → Option (Int × Nat)) (l : List Tx) (p : (Tx → Option (Int × Nat)) × List Tx), (∀ t k n, N t = some (k, n) → n < (if k = kd then l.length else len k)) → declAll kd N l ts = some p → ∀ t k n, p.1 t = some (k, n) → n < (if k = kd then p.2.length else len k)
  | [], N, l, p, h, e => by
    have e : some (N, l) = some p := e
    cases e
    exact h
  | t :: ts, N, l, p, h, e => by
    cases hN : N t with
    | some q => simp [declAll, hN] at e
    | none =>
      have e : declAll kd (putT N t (kd, l.length)) (l ++ [t]) ts = some p := by
        simp only [declAll, hN] at e; exact e
      refine declAll_nlt ts _ _ p (fun x k n hx => ?_) e
      unfold putT at hx
      split at hx
      · have hx : some (kd, l.length) = some (k, n) := hx
        cases hx
        rw [if_pos rfl, List.length_append]; simp
      · have := h x k n hx
        split
        · rename_i hk
          rw [if_pos hk] at this
          rw [List.length_append]; omega
        · rename_i hk
          rw [if_neg hk] at this
          exact this
theorem nam8 {t : Tx} (h : isNam t = true) : t.length ≤ 8 := by
  unfold isNam at h
  simp only [Bool.and_eq_true, decide_eq_true_eq] at h
  omega
section
variable {s s' : PS}
theorem decl_pw {kd : Int} {ts : List Tx} (h : PW s) (e : declT kd ts s = .ok s') : (∀ t k n, s'.N t = some (k, n) → n < (s'.nms k).length) ∧ (∀ k, (s'.nms k).length ≤ 4) ∧ (∀ k x, x ∈ s'.nms k → x.length ≤ 8) ∧ s'.bod = s.bod ∧ (∀ k, (s.nms k).length ≤ (s'.nms k).length) ∧ (∀ k, k ≠ kd → s'.nms k = s.nms k) ∧ s'.nms kd = s.nms kd ++ ts := by
  unfold declT at e
  split at e
  · cases e
  · rename_i hc
    split at e
    · cases e
    · rename_i p hp
      split at e
      · cases e
      · rename_i hl
        cases e
        have hlen := declAll_len hp
        have hnl := declAll_nlt (len := fun k => (s.nms k).length) ts s.N (s.nms kd) p (fun t k n hN => by
          have := h.nlt t k n hN
          split
          · rename_i hk; subst hk; exact this
          · exact this) hp
        refine ⟨fun t k n hN => ?_, fun k => ?_, fun k x hx => ?_, rfl, fun k => ?_, fun k hk => putZ_other _ hk, ?_⟩
        · have := hnl t k n hN
          show n < (putZ s.nms kd p.2 k).length
          by_cases hk : k = kd
          · subst hk; rw [putZ_same]; rw [if_pos rfl] at this; exact this
          · rw [putZ_other _ hk]; rw [if_neg hk] at this; exact this
        · show (putZ s.nms kd p.2 k).length ≤ 4
          by_cases hk : k = kd
          · subst hk; rw [putZ_same]; omega
          · rw [putZ_other _ hk]; exact h.few k
        · have hx : x ∈ putZ s.nms kd p.2 k := hx
          by_cases hk : k = kd
          · subst hk
            rw [putZ_same, hlen] at hx
            rcases List.mem_append.1 hx with hx | hx
            · exact h.nm8 k x hx
            · have hall : ts.all isNam = true := by
                cases hb : ts.all isNam with
                | true => rfl
                | false => exact absurd (.inr (.inr hb)) hc
              exact nam8 (List.all_eq_true.1 hall x hx)
          · rw [putZ_other _ hk] at hx
            exact h.nm8 k x hx
        · show (s.nms k).length ≤ (putZ s.nms kd p.2 k).length
          by_cases hk : k = kd
          · subst hk; rw [putZ_same, hlen, List.length_append]; omega
          · rw [putZ_other _ hk]; exact Nat.le_refl _
        · show putZ s.nms kd p.2 kd = _
          rw [putZ_same, hlen]
theorem set_pw (h : PW s) {b b' : PB} (hb : s.bod.getLast? = some b) (hb' : b'.code.length ≤ 24 ∧ (∀ t n, b'.labs t = some n → n ≤ b'.code.length) ∧ ∀ p, p ∈ b'.code → PIok (fun k => (s.nms k).length) p) : PW (setLast s b') := by
  refine ⟨h.nlt, h.few, h.nm8, ?_, fun x hx => ?_⟩
  · show (s.nms 116).length = (s.bod.dropLast ++ [b']).length
    have hne : s.bod ≠ [] := fun e => by rw [e] at hb; cases hb
    have := List.length_pos_iff.2 hne
    rw [List.length_append, List.length_dropLast, h.thr]; simp; omega
  · have hx : x ∈ s.bod.dropLast ++ [b'] := hx
    rcases List.mem_append.1 hx with hx | hx
    · exact h.bod x (List.dropLast_subset _ hx)
    · obtain rfl := List.mem_singleton.1 hx
      exact hb'
theorem instr_pw {line : Int} {f : Tx} {ts : List Tx} {b : PB} (h : PW s) (hb : s.bod.getLast? = some b) (e : instrT line f ts s b = .ok s') : PW s' := by
  unfold instrT at e
  split at e
  · cases e
  · rename_i ps hps
    split at e
    · cases e
    · rename_i hf
      split at e
      · cases e
      · rename_i hl
        split at e
        · cases e
        · rename_i i hi
          cases e
          have hbm := h.bod b (List.mem_of_getLast? hb)
          have hft : fitsT ts ps = true := by
            cases hb2 : fitsT ts ps with
            | true => rfl
            | false => exact absurd hb2 hf
          rcases parts_cases f with ⟨q, hq, hq1, hq2⟩ | ⟨hn, -⟩
          · rw [hps] at hq2
            cases hq2
            have htl : ts.length = q.2.length := by
              by_cases hh : ts.length = q.2.length
              · exact hh
              · rw [fitsT_len hh] at hft; cases hft
            obtain ⟨g1, g2, g3, g4⟩ := fillAll_sm (len := fun k => (s.nms k).length) h.nlt h.few q.2 ts (newIns f) i (shape_letters hq) hft (sm_new f) hi
            refine set_pw h hb ⟨by show (b.code ++ [_]).length ≤ 24; rw [List.length_append]; simp; omega, fun t n hn => ?_, fun p hp => ?_⟩
            · have := hbm.2.1 t n hn
              show n ≤ (b.code ++ [_]).length
              rw [List.length_append]; omega
            · have hp : p ∈ b.code ++ [⟨i, line, offP (zipP q.2 ts)⟩] := hp
              rcases List.mem_append.1 hp with hp | hp
              · exact hbm.2.2 p hp
              · obtain rfl := List.mem_singleton.1 hp
                exact ⟨q, ts, hq, g2.trans hq1, htl, rfl, g1, fun c hc hb3 => g4 _ ((shape_parts hq htl).n c hc hb3).1⟩
          · rw [hps] at hn; cases hn
theorem step_pw {line : Int} {f : Tx} {ts : List Tx} (h : PW s) (e : stepT line f ts s = .ok s') : PW s' := by
  unfold stepT at e
  split at e
  · split at e
    · rename_i hl
      cases hd : declT 116 ts s with
      | error x => rw [hd] at e; cases e
      | ok s1 =>
        rw [hd] at e
        cases e
        obtain ⟨d1, d2, d3, d4, d5, d6, d7⟩ := decl_pw h hd
        refine ⟨d1, d2, d3, ?_, fun b hb => ?_⟩
        · show (s1.nms 116).length = (s1.bod ++ [_]).length
          rw [d7, List.length_append, List.length_append, h.thr, d4, hl]; rfl
        · have hb : b ∈ s1.bod ++ [⟨[], fun _ => none⟩] := hb
          rcases List.mem_append.1 hb with hb | hb
          · rw [d4] at hb
            obtain ⟨b1, b2, b3⟩ := h.bod b hb
            exact ⟨b1, b2, fun p hp => (b3 p hp).mono d5⟩
          · obtain rfl := List.mem_singleton.1 hb
            exact ⟨by simp, (fun t n hn => by cases hn), (fun p hp => by cases hp)⟩
    · cases e
  · rename_i hT
    split at e
    · rename_i hnone
      have hb0 : s.bod = [] := by
        cases hb : s.bod with
        | nil => rfl
        | cons a l => rw [hb] at hnone; simp at hnone
      obtain ⟨d1, d2, d3, d4, d5, d6, d7⟩ := decl_pw h e
      have hne : (116 : Int) ≠ headK f := by
        unfold headK
        split
        · decide
        · split
          · decide
          · split <;> decide
      refine ⟨d1, d2, d3, ?_, fun b hb => ?_⟩
      · rw [d6 116 hne, d4]; exact h.thr
      · rw [d4, hb0] at hb; cases hb
    · rename_i b hb
      split at e
      · unfold markT at e
        split at e
        · cases e
        · split at e
          · cases e
          · cases e
            obtain ⟨b1, b2, b3⟩ := h.bod b (List.mem_of_getLast? hb)
            refine set_pw h hb ⟨b1, fun t n hn => ?_, b3⟩
            have hn : putT b.labs f.dropLast b.code.length t = some n := hn
            unfold putT at hn
            split at hn
            · cases hn; exact Nat.le_refl _
            · exact b2 t n hn
      · exact instr_pw h hb e
theorem lines_pw : ∀ (ls : List Tx) (n : Int) (s s' : PS), PW s → linesT ls n s = .ok s' → PW s'
  | [], _, s, s', h, e => by
    have e : Except.ok s = Except.ok s' := e
    cases e; exact h
  | l :: ls, n, s, s', h, e => by
    unfold linesT at e
    cases hl : lineT (n + 1) l s with
    | error x => rw [hl] at e; cases e
    | ok s1 =>
      rw [hl] at e
      refine lines_pw ls (n + 1) s1 s' ?_ e
      unfold lineT at hl
      split at hl
      · cases hl; exact h
      · exact step_pw h hl
end
end Go.Proofs.YtlefemndikednaaGreatDoor
/-
  The document's Print: the texts.
-/
namespace Go.Proofs.YtlefemndikednaaGreatDoor
open Go.RowKit Go.Shelf Go.Proofs.Cod

theorem line_cat (op : Tx) (ws : List Tx) : lineW (op :: ws) = catN op ws ws.length ++ [10] := by
  unfold lineW joinT catN
  rw [Lib.join_cons, List.take_length]
  unfold Lib.joinTail
  simp [List.flatMap, Function.comp_def]
theorem line_thr (nm : Tx) : lineW [tThread, nm] = tThread ++ [32] ++ nm ++ [10] := by
  rw [line_cat]; simp [catN]
theorem line_lab (k : Int) : lineW [labW k ++ [58]] = [108] ++ Lib.itoa k ++ [58, 10] := by
  rw [line_cat]; simp [catN, labW]
theorem isJ_form (i : In7) : isJ i = isL (formT i.op) := by
  unfold isJ
  rcases parts_cases i.op with ⟨p, hp, ht, hs⟩ | ⟨hn, _⟩
  · have hf : formT i.op = p.2.map letX := by unfold formT; rw [hs]
    rw [hf, hs]
    have : ∀ p, p ∈ shapeT → decide (0 ≤ Lib.indexByte ((some p.2).getD []) 108) = isL (p.2.map letX) := by decide
    exact this p hp
  · have hf : formT i.op = [63] := by unfold formT; rw [hn]
    rw [hf, hn]; decide
/-- What stands behind a thread's first line, up to its k-th place. -/
def kW (N : Int → List Tx) (is : List In7) (k : Nat) : Tx := if k ≤ is.length then preW N (targL is (is.length + 1)) is k else preW N (targL is (is.length + 1)) is is.length ++ labLn (targL is (is.length + 1)) is.length
theorem kW_succ {N : Int → List Tx} {is : List In7} {k : Nat} {i : In7} (hi : is[k]? = some i) : kW N is (k + 1) = kW N is k ++ labLn (targL is (is.length + 1)) k ++ insLn N i := by
  have hl := (List.getElem?_eq_some_iff.1 hi).1
  unfold kW
  rw [if_pos (by omega), if_pos (by omega), preW_succ, List.getD_eq_getElem?_getD, hi]
  simp
theorem kW_end {N : Int → List Tx} {is : List In7} : kW N is (is.length + 1) = kW N is is.length ++ labLn (targL is (is.length + 1)) is.length := by
  unfold kW
  rw [if_neg (by omega), if_pos (Nat.le_refl _)]
theorem kW_thr {N : Int → List Tx} {is : List In7} {nm : Tx} : lineW [tThread, nm] ++ kW N is (is.length + 1) = thrW N nm is := by
  rw [kW_end]
  unfold kW thrW
  rw [if_pos (Nat.le_refl _), List.append_assoc]
theorem kW_le {N : Int → List Tx} {is : List In7} {k : Nat} (h : k ≤ is.length + 1) : (kW N is k).length ≤ (kW N is (is.length + 1)).length := by
  rw [kW_end]
  by_cases e : k = is.length + 1
  · subst e; rw [kW_end]; exact Nat.le_refl _
  · unfold kW
    rw [if_pos (by omega), if_pos (Nat.le_refl _), List.length_append]
    have := preW_le N (targL is (is.length + 1)) is (show k ≤ is.length by omega)
    omega
theorem targ_at (is : List In7) {k : Nat} (hk : k ≤ is.length) : (targL is (is.length + 1)).getD k false = is.any fun i => isJ i && decide (i.x = (k : Int)) := by
  rw [List.getD_eq_getElem?_getD, targL_at, if_pos (by omega)]; rfl
theorem any_take {is : List In7} {j : Nat} {i : In7} (h : is[j]? = some i) (f : In7 → Bool) : (is.take (j + 1)).any f = ((is.take j).any f || f i) := by
  have hl := (List.getElem?_eq_some_iff.1 h).1
  have he := (List.getElem?_eq_some_iff.1 h).2
  rw [List.take_succ_eq_append_getElem hl, he]; simp
theorem zn {x : Tx} {n : Nat} (h : x.length + n ≤ maxT) : ¬ 9223372036854775807 < (bs x).size + n := by
  rw [bs_size]
  have : maxT = 140737488355328 := rfl
  omega
theorem DView.thrAt3 {w : World} {vV fV lV tV : Value} {P : RP} {TV : List (Value × Value)} (h : DView w vV fV lV tV P TV) {j : Nat} {th : RTh} {p : Value × Value} (hj : P.thr[j]? = some th) (hp : TV[j]? = some p) : ∃ g cap, tV = .slice (some ⟨g, 0, none⟩) P.thr.length cap ∧ w.cell? ⟨g, j * 3, none⟩ = some (.string (bs th.name)) ∧ w.cell? ⟨g, j * 3 + 1, none⟩ = some p.1 ∧ w.cell? ⟨g, j * 3 + 2, none⟩ = some p.2 := by
  have hl := (List.getElem?_eq_some_iff.1 hj).1
  obtain ⟨g, cap, e, hg, hc⟩ := row_form h.t hl
  have hz : (P.thr.zip TV)[j]? = some (th, p) := by rw [List.getElem?_zip_eq_some]; exact ⟨hj, hp⟩
  have key : ∀ q, q < 3 → w.cell? ⟨g, j * 3 + q, none⟩ = (thC (th, p))[q]? := fun q hq => by
    rw [hc (j * 3 + q) (by omega)]; exact flat_at thC_len hz hq
  exact ⟨g, cap, e, key 0 (by omega), key 1 (by omega), key 2 (by omega)⟩
theorem zx {x : Tx} {a : UInt8} {rest : Tx} (h : x.length + (a :: rest).length ≤ maxT) : ¬ 9223372036854775807 < (bs x).size + (a :: rest).length := by
  rw [bs_size]
  have : maxT = 140737488355328 := rfl
  omega
end Go.Proofs.YtlefemndikednaaGreatDoor
