import Derived.Test.YtlefemndikednaaGreatDoorPa19
set_option linter.unusedVariables false
set_option linter.unusedSimpArgs false
/-
  A thread of the plain text.
-/
namespace Go.Proofs.YtlefemndikednaaGreatDoor
open Go.RowKit Go.Shelf Go.Proofs.Cod

def maxT : Nat := 140737488355328
def zero7 : In7 := ⟨[], 0, false, 0, false, 0, 0⟩
def labLn (tg : List Bool) (k : Nat) : Tx := if tg.getD k false then lineW [labW (k : Int) ++ [58]] else []
def insLn (N : Int → List Tx) (i : In7) : Tx := lineW (insW N i ((partsT i.op).getD []))
def preW (N : Int → List Tx) (tg : List Bool) (is : List In7) (k : Nat) : Tx := (List.range k).flatMap fun j => labLn tg j ++ insLn N (is.getD j zero7)
theorem preW_succ (N : Int → List Tx) (tg : List Bool) (is : List In7) (k : Nat) : preW N tg is (k + 1) = preW N tg is k ++ (labLn tg k ++ insLn N (is.getD k zero7)) := by
  unfold preW
  rw [List.range_succ, List.flatMap_append]; simp
theorem preW_le (N : Int → List Tx) (tg : List Bool) (is : List In7) {k n : Nat} (h : k ≤ n) : (preW N tg is k).length ≤ (preW N tg is n).length := by
  induction n with
  | zero => have : k = 0 := by omega
            subst this; exact Nat.le_refl _
  | succ n ih =>
    by_cases e : k = n + 1
    · subst e; exact Nat.le_refl _
    · have := ih (by omega)
      rw [preW_succ, List.length_append]; omega
def thrW (N : Int → List Tx) (nm : Tx) (is : List In7) : Tx := lineW [tThread, nm] ++ preW N (targL is (is.length + 1)) is is.length ++ labLn (targL is (is.length + 1)) is.length
theorem ar1 {o a p q l x y M : Nat} (h : o + (a + p + l) ≤ M) (h2 : q + (x + y) ≤ p) : o + a + q + y ≤ M := by omega
theorem ar2 {o a p q l x y M : Nat} (h : o + (a + p + l) ≤ M) (h2 : q + (x + y) ≤ p) : o + a + q + x ≤ M := by omega
theorem ar3 {o a p q l x y M : Nat} (h : o + (a + p + l) ≤ M) (h2 : q + (x + y) ≤ p) : o + a + q + x + y ≤ M := by omega
theorem ar4 {o a p x M : Nat} (h : o + (a + p + x) ≤ M) : o + a + p + x ≤ M := by omega
theorem fit_k {k : Nat} (h : k < 1000) : fitI (k : Int) := ⟨by omega, by omega⟩
theorem lab_len {k : Nat} (h : k < 1000) : (labW (k : Int)).length ≤ 22 := by
  have := Lib.itoa_length_le (k : Int) (by omega) (by omega)
  unfold labW
  rw [List.length_cons]; omega
theorem lab_sz {k : Nat} (h : k < 1000) : ¬ 9223372036854775807 < (bs (labW (k : Int))).size + 1 := by
  rw [bs_size]; have := lab_len h; omega
/-- An instruction that can be printed. -/
structure InsOk (N : Int → List Tx) (n : Nat) (i : In7) : Prop where
  fit : InFit i
  parts : ∃ ps, partsT i.op = some ps ∧ (∀ c, c ∈ ps → c ∈ letters) ∧ ∀ c, c ∈ ps → XOk N i (c.toNat : Int)
  jump : isJ i = true → 0 ≤ i.x ∧ i.x ≤ n
section
variable {w w' : World} {base b B : Nat} {v f l t buf : Value} {out : Tx} {vs fs ls : List Tx} {L : List (Tx × Value)} {C : List (List In7)}
theorem c_wkeep {base0 e size n : Nat} {u : Value} {xs : List Value} (hr : w.ownsRow base0 e size u n xs) (h : WrW w base b v f l t buf out) (hk : WKeep base b w w') (he : e ≠ 5) (he2 : e ≠ 77) : w'.ownsRow base0 e size u n xs := by
  refine owns_same hr fun g hg => hk.kept g (hr.lt g hg).2 ?_ ?_
  · rintro rfl
    obtain ⟨p, _, hp⟩ := h.cell
    rcases hr.2 with ⟨q, _⟩ | ⟨g', cap, cur, q, _, q2, _⟩
    · rw [q] at hg; cases hg
    · rw [q] at hg
      have hg : some g' = some g := hg
      cases hg
      rw [hp] at q2
      cases q2
      exact he2 rfl
  · intro cs fr q
    rcases hr.2 with ⟨q1, _⟩ | ⟨g', cap, cur, q1, _, q2, _⟩
    · rw [q1] at hg; cases hg
    · rw [q1] at hg
      have hg : some g' = some g := hg
      cases hg
      rw [q] at q2
      cases q2
      exact he rfl
theorem ProgW.wkeep (hp : ProgW w 0 v f l t vs fs ls L C) {v' f' l' t' : Value} (h : WrW w base b v' f' l' t' buf out) (hk : WKeep base b w w') : ProgW w' 0 v f l t vs fs ls L C :=
  ⟨c_wkeep hp.v h hk (by decide) (by decide), c_wkeep hp.f h hk (by decide) (by decide), c_wkeep hp.l h hk (by decide) (by decide), c_wkeep hp.t h hk (by decide) (by decide), fun i p is h1 h2 => c_wkeep (hp.c i p is h1 h2) h hk (by decide) (by decide), hp.len⟩
theorem Tabs.wkeep (ht : Tabs w B) (hk : WKeep base b w w') (hB : B ≤ base) : Tabs w' B := ht.keep (hk.below.mono hB)
theorem box_wkeep {k : Nat} {cs : Array Value} {T : TypeId} (hb : w.heap[k]? = some (.cells cs T)) (hk : WKeep base b w w') (hne : k ≠ b) (hT : T ≠ 5) : w'.heap[k]? = some (.cells cs T) :=
  (hk.kept k (Array.getElem?_eq_some_iff.1 hb).1 hne (fun cs' fr e => by rw [hb] at e; cases e; exact hT rfl)).trans hb
/-- One or two words that have just been built. -/
theorem Ws.one (w : World) (x : Tx) : Ws (w.alloc (.cells #[.string (bs x)] 9)) (some ⟨w.heap.size, 0, none⟩) [x] := fun i hi => by
  have : i = 0 := by simpa using hi
  subst this
  have hh := World.alloc_heap_new w (.cells #[.string (bs x)] 9)
  exact ⟨w.heap.size, 0, rfl, by simp, by rw [Lib.cell_of_heap hh]; rfl⟩
theorem Ws.two (w : World) (x y : Tx) : Ws (w.alloc (.cells #[.string (bs x), .string (bs y)] 9)) (some ⟨w.heap.size, 0, none⟩) [x, y] := fun i hi => by
  have : i = 0 ∨ i = 1 := by simp at hi; omega
  have hh := World.alloc_heap_new w (.cells #[.string (bs x), .string (bs y)] 9)
  rcases this with rfl | rfl
  · exact ⟨w.heap.size, 0, rfl, by simp, by rw [Lib.cell_of_heap hh]; rfl⟩
  · exact ⟨w.heap.size, 0, rfl, by simp, by rw [Lib.cell_of_heap hh]; rfl⟩
/-- A line of words that have just been built. -/
theorem wrLine_new (h : WrW w base b v f l t buf out) {ws : List Tx} {o : Obj} {n : Nat} (hws : Ws (w.alloc o) (some ⟨w.heap.size, 0, none⟩) ws) (hn : ws.length = n) (hlen : out.length + (lineW ws).length ≤ 140737488355328) (hl : n ≤ 140737488355328) (hbw : base ≤ w.heap.size) :
    Calls Tryz.prog 40 #[ptrV b, .slice (some ⟨w.heap.size, 0, none⟩) n n] (w.alloc o) fun e w' => e = .returned (.tuple #[]) ∧ ∃ buf', WrW w' base b v f l t buf' (out ++ lineW ws) ∧ WKeep base b w w' := by
  have hb1 : Below w.heap.size w (w.alloc o) := (Below.refl _ _).alloc (Nat.le_refl _) _
  refine (wrLine_any (h.below hb1) hn hws (Nat.le_refl _) hlen hl (by have := hb1.size; omega)).mono ?_
  rintro e w' ⟨rfl, buf', h1, h2⟩
  exact ⟨rfl, buf', h1, (WKeep.of_below hb1 hbw).trans h2⟩
set_option maxRecDepth 100000 in
set_option maxHeartbeats 1000000 in
theorem wrThr_any (h : WrW w base b v f l t buf out) (hp : ProgW w 0 v f l t vs fs ls L C) (ht : Tabs w B) (hB : B ≤ base) (hbw : base ≤ w.heap.size) (nm : Tx) {cv : Value} {is : List In7} (hc : w.ownsRow 0 42 7 cv is.length (codeC is)) (hl : is.length < 1000) (hok : ∀ i, i ∈ is → InsOk (nmP vs fs ls (L.map Prod.fst)) is.length i) (hlen : out.length + (thrW (nmP vs fs ls (L.map Prod.fst)) nm is).length ≤ 140737488355328) :
    Calls Tryz.prog 23 #[ptrV b, .agg #[.string (bs nm), cv]] w fun e w' => e = .returned (.tuple #[]) ∧ ∃ buf', WrW w' base b v f l t buf' (out ++ thrW (nmP vs fs ls (L.map Prod.fst)) nm is) ∧ WKeep base b w w' := by
  obtain ⟨ca, cc, hcv⟩ := owns_len hc
  subst hcv
  have hb0 : Below w.heap.size w (w.alloc (.cells #[.string (bs nm), .slice ca is.length cc] 38)) := (Below.refl _ _).alloc (Nat.le_refl _) _
  have hbt : b < w.heap.size := h.lt
  have hk0 : WKeep base b w (w.alloc (.cells #[.string (bs nm), .slice ca is.length cc] 38)) := WKeep.of_below hb0 hbw
  have hbx := World.alloc_heap_new w (.cells #[.string (bs nm), .slice ca is.length cc] 38)
  have hz1 : w.heap.size < (w.alloc (.cells #[.string (bs nm), .slice ca is.length cc] 38)).heap.size := by simp
  have HW := hide (⟨h.below hb0, hp.below hb0, ht.keep (hb0.mono (by omega)), hk0, hbx, hz1, c_belowS hc hb0, hbt⟩ : _ ∧ _ ∧ _ ∧ _ ∧ _ ∧ _ ∧ _ ∧ _)
  replace hlen : Hid (out.length + (thrW (nmP vs fs ls (L.map Prod.fst)) nm is).length ≤ maxT) := hlen
  replace hok := hide hok
  clear h hp ht hb0 hk0 hbx hz1 hc hbt
  unfold ptrV
  go_enter Tryz.func23, Tryz.ntmps23
  go_wp2_with fail
  generalize hw1 : w.alloc (.cells #[.string (bs nm), .slice ca is.length cc] 38) = w1 at *
  have hz1 : w1.heap.size = w.heap.size + 1 := by rw [← hw1]; simp
  have hLnT : (lineW [tThread, nm]).length ≤ (thrW (nmP vs fs ls (L.map Prod.fst)) nm is).length := by unfold thrW; rw [List.length_append, List.length_append]; omega
  have hLine := wrLine_new HW.out.1 (Ws.two w1 tThread nm) (n := 2) rfl (show _ ≤ maxT by have := hlen.out; omega) (by omega) (by rw [hz1]; omega)
  rw [hz1] at hLine
  unfold ptrV at hLine
  replace hLine : Calls Tryz.prog 40 #[.pointer (some ⟨b, 0, none⟩), .slice (some ⟨w.heap.size + 1, 0, none⟩) 2 2] (w1.alloc (.cells #[.string ⟨#[116, 104, 114, 101, 97, 100]⟩, .string (bs nm)] 9)) fun e w' => e = .returned (.tuple #[]) ∧ ∃ buf', WrW w' base b v f l t buf' (out ++ lineW [tThread, nm]) ∧ WKeep base b w1 w' := hLine
  refine hLine.mono ?_
  clear hLine
  rintro e w2 ⟨rfl, buf2, hW2, hK2⟩
  obtain ⟨h, hp, ht, hk0, hbx, hz0, hc, hbt⟩ := HW.out
  have hp2 := hp.wkeep h hK2
  have hc2 := c_wkeep hc h hK2 (by decide) (by decide)
  have ht2 := ht.wkeep hK2 hB
  have hbx2 := box_wkeep hbx hK2 (by omega) (by decide)
  have hs2 := hK2.size
  have hJ := jumps_any hc2 ht2 (by omega) hl (fun i hi hj => (hok.out i hi).jump hj)
  have d0 : w2.cell? ⟨w.heap.size, 1, none⟩ = some (.slice ca is.length cc) := by simp [World.cell?, hbx2]
  have H2 := hide (⟨hW2, hK2, hp2, hc2, ht2, hbx2⟩ : _ ∧ _ ∧ _ ∧ _ ∧ _ ∧ _)
  have HW0 := hide (⟨hk0, hbt⟩ : _ ∧ _)
  clear HW h hp ht hk0 hbx hz0 hc hW2 hK2 hp2 hc2 ht2 hbx2 hw1 hbt
  go_wp2_with fail
  refine hJ.mono ?_
  clear hJ
  rintro e w3 ⟨tg, rfl, hrowT, hB3⟩
  obtain ⟨hW2, hK2, hp2, hc2, ht2, hbx2⟩ := H2.out
  have hW3 := hW2.below hB3
  have hK3 := hK2.trans (WKeep.of_below hB3 (by omega))
  have hp3 := hp2.below hB3
  have hc3 := c_belowS hc2 hB3
  have ht3 := ht2.keep (hB3.mono (by omega))
  have hbx3 : w3.heap[w.heap.size]? = some (.cells #[.string (bs nm), .slice ca is.length cc] 38) := (hB3.block _ (by omega)).trans hbx2
  have e0 : w3.cell? ⟨w.heap.size, 1, none⟩ = some (.slice ca is.length cc) := by simp [World.cell?, hbx3]
  have hs3 := hB3.size
  have H3 := hide (⟨hW3, hK3, hp3, hc3, ht3, hbx3, hrowT⟩ : _ ∧ _ ∧ _ ∧ _ ∧ _ ∧ _ ∧ _)
  have hbase3 : Hid (base ≤ w3.heap.size) := by unfold Hid; omega
  have hbne : Hid (w.heap.size < w3.heap.size) := by unfold Hid; omega
  clear hW2 hK2 hp2 hc2 ht2 hbx2 hW3 hK3 hp3 hc3 ht3 hbx3 hB3 hrowT d0 H2 hs2 hs3
  go_wp2_with fail
  clear e0
  go_loopw [19] (fun iv wr => ∃ (k : Nat) (bufk : Value), k ≤ is.length ∧ iv = .int .i64 k ∧ WrW wr base b v f l t bufk (out ++ lineW [tThread, nm] ++ preW (nmP vs fs ls (L.map Prod.fst)) (targL is (is.length + 1)) is k) ∧ WKeep base b w3 wr) (fun iv _ => is.length - (intOf iv).toNat)
  case atStart => exact ⟨0, buf2, Nat.zero_le _, rfl, by rw [show preW (nmP vs fs ls (L.map Prod.fst)) (targL is (is.length + 1)) is 0 = [] from rfl, List.append_nil]; exact H3.out.1, WKeep.refl _ _ _⟩
  case round =>
    obtain ⟨k, bufk, hk, rfl, hWk, hKk⟩ := hrel
    obtain ⟨hW3, hK3, hp3, hc3, ht3, hbx3, hrowT⟩ := H3.out
    have hpk := hp3.wkeep hW3 hKk
    have hck := c_wkeep hc3 hW3 hKk (by decide) (by decide)
    have htk := ht3.wkeep hKk hB
    have hbk := box_wkeep hbx3 hKk (by have := HW0.out.2; omega) (by decide)
    have hrk := c_wkeep hrowT hW3 hKk (by decide) (by decide)
    have hsk := hKk.size
    have hbasek : base ≤ wr.heap.size := by have := hbase3.out; omega
    by_cases h5 : k < is.length
    · have hLtot := hlen.out
      unfold thrW at hLtot
      rw [List.length_append, List.length_append] at hLtot
      have hkn : k < is.length + 1 := Nat.lt_succ_of_lt h5
      have hk1 : k < (is.length + 1) * 1 := by rw [Nat.mul_one]; exact hkn
      have hBwr : B ≤ wr.heap.size := Nat.le_trans hB hbasek
      replace hLtot := hide hLtot
      have hlt : (k : Int) < (is.length : Int) := by omega
      obtain ⟨i, hi⟩ : ∃ i, is[k]? = some i := ⟨_, List.getElem?_eq_getElem h5⟩
      have hgi : is.getD k zero7 = i := by rw [List.getD_eq_getElem?_getD, hi]; rfl
      obtain ⟨cg, ccap, e, hcg, I7⟩ := i7_at hck hi
      cases e
      obtain ⟨x0, x1, x2, x3, x4, x5, x6⟩ := I7
      have hwk : wrap64 ((k : Int) + 1) = (k : Int) + 1 := IntWalk.wrap64_in _ (by omega)
      have hba : Below wr.heap.size wr (wr.alloc (.cells (insC i) 42)) := (Below.refl _ _).alloc (Nat.le_refl _) _
      have hkA : (wr.alloc (.cells (insC i) 42)).heap[wr.heap.size]? = some (.cells (insC i) 42) := World.alloc_heap_new wr _
      have hWa := hWk.below hba
      have hpa := hpk.below hba
      have hta := htk.keep (hba.mono hBwr)
      have hra := c_belowS hrk hba
      have tcell : (wr.alloc (.cells (insC i) 42)).cell? ⟨tg, k, none⟩ = ((targL is (is.length + 1)).map Value.bool)[k]? := hra.cellAt k hk1
      obtain ⟨tb, htb⟩ : ∃ tb, (targL is (is.length + 1))[k]? = some tb := ⟨_, List.getElem?_eq_getElem (by rw [targL_len]; exact hkn)⟩
      rw [List.getElem?_map, htb] at tcell
      have tcell : (wr.alloc (.cells (insC i) 42)).cell? ⟨tg, k, none⟩ = some (.bool tb) := tcell
      have hgtb : (targL is (is.length + 1)).getD k false = tb := by rw [List.getD_eq_getElem?_getD, htb]; rfl
      have hpre := preW_succ (nmP vs fs ls (L.map Prod.fst)) (targL is (is.length + 1)) is k
      rw [hgi] at hpre
      have hple := preW_le (nmP vs fs ls (L.map Prod.fst)) (targL is (is.length + 1)) is (show k + 1 ≤ is.length from h5)
      rw [hpre, List.length_append, List.length_append] at hple
      obtain ⟨hfit, ⟨ps, hps, hl8, hxok⟩, hjmp⟩ := hok.out i (List.mem_of_getElem? hi)
      have hIns : insLn (nmP vs fs ls (L.map Prod.fst)) i = lineW (insW (nmP vs fs ls (L.map Prod.fst)) i ps) := by unfold insLn; rw [hps]; rfl
      have hInsC := fun (wq : World) (bufq : Value) (outq : Tx) (hq : WrW wq base b v f l t bufq outq) (hpq : ProgW wq 0 v f l t vs fs ls L C) (htq : Tabs wq B) (hbq : base ≤ wq.heap.size) (hlq : outq.length + (lineW (insW (nmP vs fs ls (L.map Prod.fst)) i ps)).length ≤ 140737488355328) => wrInstr_any hq hpq htq hB hbq i hfit ps hps hl8 hxok hlq
      rw [← hIns] at hInsC
      have hLab : labLn (targL is (is.length + 1)) k = if tb then lineW [labW (k : Int) ++ [58]] else [] := by unfold labLn; rw [hgtb]
      rw [hLab] at hpre hple
      cases htv : tb with
      | false =>
        rw [htv] at hpre hple tcell
        have hC := hInsC _ _ _ hWa hpa hta (Nat.le_trans hbasek hba.size) (show _ ≤ maxT from by
          have h1 := hLtot.out
          rw [List.length_append, List.length_append]
          clear hLtot
          have h2 : (preW (nmP vs fs ls (L.map Prod.fst)) (targL is (is.length + 1)) is k).length + (0 + (insLn (nmP vs fs ls (L.map Prod.fst)) i).length) ≤ (preW (nmP vs fs ls (L.map Prod.fst)) (targL is (is.length + 1)) is is.length).length := hple
          exact ar1 h1 h2)
        unfold ptrV at hC
        have HN := hide (⟨hpre, hKk, h5, WKeep.of_below (b := b) hba hbasek⟩ : _ ∧ _ ∧ _ ∧ _)
        obtain ⟨y0, y1, y2, y3, y4, y5, y6⟩ := box7 hkA
        obtain ⟨op, r0, aR, aN, bR, bN, x⟩ := i
        unfold insC at hC tcell y0 y1 y2 y3 y4 y5 y6
        dsimp only at x0 x1 x2 x3 x4 x5 x6 hC tcell y0 y1 y2 y3 y4 y5 y6
        replace hcg := hide hcg
        clear hWk hpk hck htk hbk hrk hsk hLtot hi hgi hba hkA hWa hpa hta hra hpre hple hIns hInsC hLab hgtb htb hfit hps hl8 hxok hjmp hW3 hK3 hp3 hc3 ht3 hbx3 hrowT hk h5 hKk H3 hlen hok
        clear hLnT hz1 hkn hk1 hBwr hbasek hl hbw hB
        go_wp2_with fail
        refine hC.mono ?_
        clear hC
        rintro e w5 ⟨rfl, buf5, hW5, hK5⟩
        have HF := hide (⟨hW5, hK5⟩ : _ ∧ _)
        clear hW5 hK5 x0 x1 x2 x3 x4 x5 x6 y0 y1 y2 y3 y4 y5 y6 tcell
        go_wp2_with fail
        go_roundw
        case rel =>
          (try rw [hwk])
          obtain ⟨hpre, hKk, h5, hKa⟩ := HN.out
          refine ⟨k + 1, buf5, h5, rfl, ?_, hKk.trans (hKa.trans HF.out.2)⟩
          rw [hpre, ← List.append_assoc]
          exact HF.out.1
        case measure =>
          (try rw [hwk])
          exact Nat.sub_lt_sub_left HN.out.2.2.1 (Nat.lt_succ_self k)
      | true =>
        rw [htv] at hpre hple tcell
        have hk1000 : k < 1000 := Nat.lt_trans h5 hl
        have hLN := labelName_any (k : Int) (fit_k hk1000) hta
        have happ : bs (labW (k : Int)) ++ ⟨#[58]⟩ = bs (labW (k : Int) ++ [58]) := bs_append _ [58]
        have hsz := lab_sz hk1000
        have hLabel : Hid (∀ w5, Below (wr.alloc (.cells (insC i) 42)).heap.size (wr.alloc (.cells (insC i) 42)) w5 → Calls Tryz.prog 40 #[ptrV b, .slice (some ⟨w5.heap.size, 0, none⟩) 1 1] (w5.alloc (.cells #[.string (bs (labW (k : Int) ++ [58]))] 9)) fun e w' => e = .returned (.tuple #[]) ∧ ∃ buf', WrW w' base b v f l t buf' (out ++ lineW [tThread, nm] ++ preW (nmP vs fs ls (L.map Prod.fst)) (targL is (is.length + 1)) is k ++ lineW [labW (k : Int) ++ [58]]) ∧ WKeep base b wr w' ∧ ProgW w' 0 v f l t vs fs ls L C ∧ Tabs w' B ∧ w'.heap[wr.heap.size]? = some (.cells (insC i) 42) ∧ base ≤ w'.heap.size) := by
          intro w5 hB5
          have hW5 := hWa.below hB5
          refine (wrLine_new hW5 (Ws.one w5 (labW (k : Int) ++ [58])) (n := 1) rfl (show _ ≤ maxT from by
            have h1 := hLtot.out
            rw [List.length_append, List.length_append]
            exact ar2 h1 hple) (by decide) (Nat.le_trans hbasek (Nat.le_trans hba.size hB5.size))).mono ?_
          rintro e w6 ⟨rfl, buf6, hW6, hK6⟩
          have hk5 : WKeep base b wr w5 := (WKeep.of_below hba hbasek).trans (WKeep.of_below hB5 (Nat.le_trans hbasek hba.size))
          have hb5 : w5.heap[wr.heap.size]? = some (.cells (insC i) 42) := (hB5.block _ (Array.getElem?_eq_some_iff.1 hkA).1).trans hkA
          exact ⟨rfl, buf6, hW6, hk5.trans hK6, (hpa.below hB5).wkeep hW5 hK6, (hta.keep (hB5.mono (Nat.le_trans hBwr hba.size))).wkeep hK6 hB, box_wkeep hb5 hK6 (fun e => Nat.lt_irrefl _ (e ▸ hWk.lt)) (by decide), Nat.le_trans hbasek (hk5.trans hK6).size⟩
        have hInsC' : Hid (∀ (wq : World) (bufq : Value), WrW wq base b v f l t bufq (out ++ lineW [tThread, nm] ++ preW (nmP vs fs ls (L.map Prod.fst)) (targL is (is.length + 1)) is k ++ lineW [labW (k : Int) ++ [58]]) → ProgW wq 0 v f l t vs fs ls L C → Tabs wq B → base ≤ wq.heap.size → _) := fun wq bufq h1 h2 h3 h4 => hInsC wq bufq _ h1 h2 h3 h4 (show _ ≤ maxT from by
            have h1 := hLtot.out
            rw [List.length_append, List.length_append, List.length_append]
            exact ar3 h1 hple)
        have HN := hide (⟨hpre, hKk, h5⟩ : _ ∧ _ ∧ _)
        obtain ⟨op, r0, aR, aN, bR, bN, x⟩ := i
        unfold insC ptrV at hLabel hInsC'
        unfold insC at hLN tcell
        dsimp only at x0 x1 x2 x3 x4 x5 x6 hLN hLabel hInsC' tcell
        replace hcg := hide hcg
        clear hWk hpk hck htk hbk hrk hsk hLtot hi hgi hba hkA hWa hpa hta hra hpre hple hIns hInsC hLab hgtb htb hfit hps hl8 hxok hjmp hW3 hK3 hp3 hc3 ht3 hbx3 hrowT hk h5 hKk H3 hlen hok
        clear hLnT hz1 hkn hk1 hBwr hbasek hl hbw hB hk1000
        generalize labW (k : Int) = y at *
        go_wp2_with fail
        refine hLN.mono ?_
        clear hLN
        rintro e w5 ⟨rfl, hB5⟩
        have hLC := hLabel.out w5 hB5
        clear hB5 x0 x1 x2 x3 x4 x5 x6 tcell
        go_wp2_with fail
        refine hLC.mono ?_
        clear hLC hLabel
        rintro e w6 ⟨rfl, buf6, hW6, hK6, hp6, ht6, hb6, hbs6⟩
        have hC := hInsC'.out w6 buf6 hW6 hp6 ht6 hbs6
        obtain ⟨y0, y1, y2, y3, y4, y5, y6⟩ := box7 (i := ⟨op, r0, aR, aN, bR, bN, x⟩) hb6
        dsimp only at y0 y1 y2 y3 y4 y5 y6
        have HK6 := hide hK6
        clear hW6 hK6 hp6 ht6 hb6 hbs6 hInsC' hsz happ
        go_wp2_with fail
        refine hC.mono ?_
        clear hC
        rintro e w7 ⟨rfl, buf7, hW7, hK7⟩
        have HF := hide (⟨hW7, hK7⟩ : _ ∧ _)
        clear hW7 hK7 y0 y1 y2 y3 y4 y5 y6
        go_wp2_with fail
        go_roundw
        case rel =>
          (try rw [hwk])
          obtain ⟨hpre, hKk, h5⟩ := HN.out
          refine ⟨k + 1, buf7, h5, rfl, ?_, hKk.trans (HK6.out.trans HF.out.2)⟩
          rw [hpre, ← List.append_assoc, ← List.append_assoc]
          exact HF.out.1
        case measure =>
          (try rw [hwk])
          exact Nat.sub_lt_sub_left HN.out.2.2 (Nat.lt_succ_self k)
    · have hkl : k = is.length := Nat.le_antisymm hk (Nat.le_of_not_lt h5)
      subst hkl
      have hd1 : wr.cell? ⟨w.heap.size, 1, none⟩ = some (.slice ca is.length cc) := by simp [World.cell?, hbk]
      have hn1 : is.length < (is.length + 1) * 1 := by rw [Nat.mul_one]; exact Nat.lt_succ_self _
      have tcell : wr.cell? ⟨tg, is.length, none⟩ = ((targL is (is.length + 1)).map Value.bool)[is.length]? := hrk.cellAt is.length hn1
      obtain ⟨tb, htb⟩ : ∃ tb, (targL is (is.length + 1))[is.length]? = some tb := ⟨_, List.getElem?_eq_getElem (by rw [targL_len]; exact Nat.lt_succ_self _)⟩
      rw [List.getElem?_map, htb] at tcell
      have tcell : wr.cell? ⟨tg, is.length, none⟩ = some (.bool tb) := tcell
      have hgtb : (targL is (is.length + 1)).getD is.length false = tb := by rw [List.getD_eq_getElem?_getD, htb]; rfl
      have hLab : labLn (targL is (is.length + 1)) is.length = if tb then lineW [labW (is.length : Int) ++ [58]] else [] := by unfold labLn; rw [hgtb]
      have hthr : thrW (nmP vs fs ls (L.map Prod.fst)) nm is = lineW [tThread, nm] ++ preW (nmP vs fs ls (L.map Prod.fst)) (targL is (is.length + 1)) is is.length ++ (if tb then lineW [labW (is.length : Int) ++ [58]] else []) := by unfold thrW; rw [hLab]
      have hLtot := hlen.out
      rw [hthr] at hLtot
      have hKall := hide (HW0.out.1.trans (hK3.trans hKk))
      cases htv : tb with
      | false =>
        rw [htv] at hthr tcell
        have HN := hide (⟨hthr, hWk⟩ : _ ∧ _)
        clear hWk hpk hck htk hbk hrk hsk hthr hLtot hLab hgtb htb hW3 hK3 hp3 hc3 ht3 hbx3 hrowT hk h5 hKk H3 hlen hok hn1
        clear hLnT hz1 hbasek hl hbw hB
        go_wp2_with fail
        go_end0
        refine ⟨rfl, bufk, ?_, hKall.out⟩
        obtain ⟨hthr, hWk⟩ := HN.out
        have e : out ++ thrW (nmP vs fs ls (L.map Prod.fst)) nm is = out ++ lineW [tThread, nm] ++ preW (nmP vs fs ls (L.map Prod.fst)) (targL is (is.length + 1)) is is.length := by
          rw [hthr]; simp
        rw [e]; exact hWk
      | true =>
        rw [htv] at hthr tcell hLtot
        have hLN := labelName_any (is.length : Int) (fit_k hl) htk
        have happ : bs (labW (is.length : Int)) ++ ⟨#[58]⟩ = bs (labW (is.length : Int) ++ [58]) := bs_append _ [58]
        have hsz := lab_sz hl
        have hLabel : Hid (∀ w5, Below wr.heap.size wr w5 → Calls Tryz.prog 40 #[ptrV b, .slice (some ⟨w5.heap.size, 0, none⟩) 1 1] (w5.alloc (.cells #[.string (bs (labW (is.length : Int) ++ [58]))] 9)) fun e w' => e = .returned (.tuple #[]) ∧ ∃ buf', WrW w' base b v f l t buf' (out ++ lineW [tThread, nm] ++ preW (nmP vs fs ls (L.map Prod.fst)) (targL is (is.length + 1)) is is.length ++ lineW [labW (is.length : Int) ++ [58]]) ∧ WKeep base b wr w') := by
          intro w5 hB5
          have hW5 := hWk.below hB5
          refine (wrLine_new hW5 (Ws.one w5 (labW (is.length : Int) ++ [58])) (n := 1) rfl (show _ ≤ maxT from by
            have h1 := hLtot
            rw [List.length_append, List.length_append] at h1
            rw [List.length_append, List.length_append]
            exact ar4 h1) (by decide) (Nat.le_trans hbasek hB5.size)).mono ?_
          rintro e w6 ⟨rfl, buf6, hW6, hK6⟩
          exact ⟨rfl, buf6, hW6, (WKeep.of_below hB5 hbasek).trans hK6⟩
        replace hthr := hide hthr
        unfold ptrV at hLabel
        clear hWk hpk hck htk hbk hrk hsk hLtot hLab hgtb htb hW3 hK3 hp3 hc3 ht3 hbx3 hrowT hk h5 hKk H3 hlen hok hn1
        clear hLnT hz1 hbasek hl hbw hB
        generalize labW (is.length : Int) = y at *
        go_wp2_with fail
        refine hLN.mono ?_
        clear hLN
        rintro e w5 ⟨rfl, hB5⟩
        have hLC := hLabel.out w5 hB5
        clear hB5 tcell
        go_wp2_with fail
        refine hLC.mono ?_
        clear hLC hLabel
        rintro e w6 ⟨rfl, buf6, hW6, hK6⟩
        have HF := hide (⟨hW6, hK6⟩ : _ ∧ _)
        clear hW6 hK6 hsz happ
        go_wp2_with fail
        go_end0
        refine ⟨rfl, buf6, ?_, hKall.out.trans HF.out.2⟩
        have e : out ++ thrW (nmP vs fs ls (L.map Prod.fst)) nm is = out ++ lineW [tThread, nm] ++ preW (nmP vs fs ls (L.map Prod.fst)) (targL is (is.length + 1)) is is.length ++ lineW [y ++ [58]] := by
          rw [hthr.out]; simp
        rw [e]; exact HF.out.1
end
end Go.Proofs.YtlefemndikednaaGreatDoor
/-
  The headings of the plain text.
-/
namespace Go.Proofs.YtlefemndikednaaGreatDoor
open Go.RowKit Go.Shelf Go.Proofs.Cod

def hdL (wd : Tx) (ns : List Tx) : Tx := if ns.length = 0 then [] else lineW [wd, joinT ns]
def headsW (vs fs ls : List Tx) (k : Nat) : Tx := ([hdL tVar vs, hdL tFlag fs, hdL tLock ls].take k).flatten
theorem heads_le (vs fs ls : List Tx) {k : Nat} (h : k ≤ 3) : (headsW vs fs ls k).length ≤ (headsW vs fs ls 3).length := by
  have : k = 0 ∨ k = 1 ∨ k = 2 ∨ k = 3 := by omega
  rcases this with rfl | rfl | rfl | rfl <;> simp [headsW]
section
variable {w w' : World} {base b B : Nat} {v f l t buf : Value} {out : Tx} {vs fs ls : List Tx} {L : List (Tx × Value)} {C : List (List In7)}
theorem head_at3 (hp : ProgW w 0 v f l t vs fs ls L C) (hsm : vs.length ≤ 1000 ∧ fs.length ≤ 1000 ∧ ls.length ≤ 1000) {k : Nat} (hk : k < 3) : ∃ (wd : Tx) (kd : Int) (ns : List Tx) (a : Option Addr) (cap : Nat), headL[k]? = some (wd, .int .u8 kd) ∧ (kd = 118 ∨ kd = 102 ∨ kd = 109) ∧ (if kd = 118 then v else if kd = 102 then f else l) = .slice a ns.length cap ∧ Ws w a ns ∧ ns.length ≤ cap ∧ ns.length ≤ 1000 ∧ headsW vs fs ls (k + 1) = headsW vs fs ls k ++ hdL wd ns := by
  have key : ∀ {u : Value} {ns : List Tx}, w.ownsRow 0 9 1 u ns.length (ns.map strW) → ∃ a cap, u = .slice a ns.length cap ∧ Ws w a ns ∧ ns.length ≤ cap := fun {u ns} hr => by
    obtain ⟨a, cap, e, hw⟩ := row_ws0 hr rfl
    refine ⟨a, cap, e, hw, ?_⟩
    rcases hr.2 with ⟨q1, q2⟩ | ⟨g, cap', cur, q, _, _, q2, _⟩
    · omega
    · rw [e] at q; cases q; exact q2
  have : k = 0 ∨ k = 1 ∨ k = 2 := by omega
  rcases this with rfl | rfl | rfl
  · obtain ⟨a, cap, e, h1, h2⟩ := key hp.v
    have h3 := hsm.1
    exact ⟨tVar, 118, vs, a, cap, rfl, .inl rfl, e, h1, h2, h3, by simp [headsW]⟩
  · obtain ⟨a, cap, e, h1, h2⟩ := key hp.f
    have h3 := hsm.2.1
    exact ⟨tFlag, 102, fs, a, cap, rfl, .inr (.inl rfl), e, h1, h2, h3, by simp [headsW]⟩
  · obtain ⟨a, cap, e, h1, h2⟩ := key hp.l
    have h3 := hsm.2.2
    exact ⟨tLock, 109, ls, a, cap, rfl, .inr (.inr rfl), e, h1, h2, h3, by simp [headsW]⟩
theorem hdL_join {wd : Tx} {ns : List Tx} (h : ns.length ≠ 0) : hdL wd ns = lineW [wd, joinT ns] ∧ (joinT ns).length ≤ (hdL wd ns).length := by
  have e : hdL wd ns = lineW [wd, joinT ns] := by unfold hdL; rw [if_neg h]
  refine ⟨e, ?_⟩
  rw [e]
  show _ ≤ (Lib.join [wd, joinT ns] [32] ++ [10]).length
  rw [Lib.join_cons]
  simp [Lib.joinTail]; omega
theorem ar5 {o a c x M : Nat} (h : o + c ≤ M) (h2 : a + x ≤ c) : o + a + x ≤ M := by omega
theorem ar6 {o a c x y M : Nat} (h : o + c ≤ M) (h2 : a + x ≤ c) (h3 : y ≤ x) : y ≤ M := by omega
set_option maxRecDepth 100000 in
set_option maxHeartbeats 1000000 in
theorem wrHeads_any (h : WrW w base b v f l t buf out) (hp : ProgW w 0 v f l t vs fs ls L C) (ht : Tabs w B) (hB : B ≤ base) (hbw : base ≤ w.heap.size) (hsm : vs.length ≤ 1000 ∧ fs.length ≤ 1000 ∧ ls.length ≤ 1000) (hlen : out.length + (headsW vs fs ls 3).length ≤ 140737488355328) :
    Calls Tryz.prog 22 #[ptrV b] w fun e w' => e = .returned (.tuple #[]) ∧ ∃ buf', WrW w' base b v f l t buf' (out ++ headsW vs fs ls 3) ∧ WKeep base b w w' := by
  obtain ⟨fr, hh⟩ := ht.heads
  have t0 : w.cell? ⟨0, 0, none⟩ = some (.string (bs tVar)) := by simp [World.cell?, hh, tabC, headL]
  have t1 : w.cell? ⟨0, 1, none⟩ = some (.int .u8 118) := by simp [World.cell?, hh, tabC, headL]
  have t2 : w.cell? ⟨0, 2, none⟩ = some (.string (bs tFlag)) := by simp [World.cell?, hh, tabC, headL]
  have t3 : w.cell? ⟨0, 3, none⟩ = some (.int .u8 102) := by simp [World.cell?, hh, tabC, headL]
  have t4 : w.cell? ⟨0, 4, none⟩ = some (.string (bs tLock)) := by simp [World.cell?, hh, tabC, headL]
  have t5 : w.cell? ⟨0, 5, none⟩ = some (.int .u8 109) := by simp [World.cell?, hh, tabC, headL]
  have HW := hide (⟨h, hp, ht⟩ : _ ∧ _ ∧ _)
  replace hlen : Hid (out.length + (headsW vs fs ls 3).length ≤ maxT) := hlen
  replace hB := hide hB
  replace hbw := hide hbw
  replace hsm := hide hsm
  clear h hp ht hh
  unfold ptrV
  go_enter Tryz.func22, Tryz.ntmps22
  go_wp2_with fail
  clear t0 t1 t2 t3 t4 t5
  go_loopw [6] (fun iv wr => ∃ (k : Nat) (bufk : Value), k ≤ 3 ∧ iv = .int .i64 k ∧ WrW wr base b v f l t bufk (out ++ headsW vs fs ls k) ∧ WKeep base b w wr) (fun iv _ => 3 - (intOf iv).toNat)
  case atStart => exact ⟨0, buf, by omega, rfl, by rw [show headsW vs fs ls 0 = [] from rfl, List.append_nil]; exact HW.out.1, WKeep.refl _ _ _⟩
  case round =>
    obtain ⟨k, bufk, hk, rfl, hWk, hKk⟩ := hrel
    obtain ⟨h, hp, ht⟩ := HW.out
    have hpk := hp.wkeep h hKk
    have htk := ht.wkeep hKk hB.out
    have hbk : base ≤ wr.heap.size := Nat.le_trans hbw.out hKk.size
    by_cases h5 : k < 3
    · have hlt : (k : Int) < 3 := by omega
      obtain ⟨wd, kd, ns, a, cap, hk1, hk2, hk3, hws, hcap, hns, hk4⟩ := head_at3 hpk hsm.out h5
      have hle := heads_le vs fs ls (show k + 1 ≤ 3 from h5)
      rw [hk4, List.length_append] at hle
      have hx := run_index_two hk1 (w := wr) Tryz.underlying100 rfl (by kernel_rfl) (by kernel_rfl)
      rw [show tabC headL = #[.string (bs tVar), .int .u8 118, .string (bs tFlag), .int .u8 102, .string (bs tLock), .int .u8 109] by simp [tabC, headL]] at hx
      have hx : (Instr.index 100 (.agg #[.string (bs tVar), .int .u8 118, .string (bs tFlag), .int .u8 102, .string (bs tLock), .int .u8 109]) (.int .i64 k)).run Tryz.prog wr = .ok (.agg #[.string (bs wd), .int .u8 kd]) wr := hx
      have hba : Below wr.heap.size wr (wr.alloc (.cells #[.string (bs wd), .int .u8 kd] 99)) := (Below.refl _ _).alloc (Nat.le_refl _) _
      have hkA : (wr.alloc (.cells #[.string (bs wd), .int .u8 kd] 99)).heap[wr.heap.size]? = some (.cells #[.string (bs wd), .int .u8 kd] 99) := World.alloc_heap_new wr _
      have hWa := hWk.below hba
      have hNm := wrNames_any hWa kd hk2
      rw [hk3] at hNm
      unfold ptrV at hNm
      have hwk : wrap64 ((k : Int) + 1) = (k : Int) + 1 := IntWalk.wrap64_in _ (by omega)
      by_cases hn0 : ns.length = 0
      · have hhd : hdL wd ns = [] := by unfold hdL; rw [if_pos hn0]
        rw [hhd, List.append_nil] at hk4
        have HN := hide (⟨hk4, hWa, hKk.trans (WKeep.of_below hba hbk), h5⟩ : _ ∧ _ ∧ _ ∧ _)
        rw [hn0] at hNm
        clear hWk hKk h hp ht hpk htk hbk hk1 hk2 hk3 hws hcap hns hk4 hle hba hkA hWa h5 hk hhd hn0
        go_wp2_with fail
        refine hNm.mono ?_
        clear hNm
        rintro e w4 ⟨rfl, rfl⟩
        go_wp2_with fail
        go_roundw
        case rel =>
          (try rw [hwk])
          obtain ⟨q1, q2, q3, q4⟩ := HN.out
          exact ⟨k + 1, bufk, q4, rfl, by rw [q1]; exact q2, q3⟩
        case measure =>
          (try rw [hwk])
          exact Nat.sub_lt_sub_left HN.out.2.2.2 (Nat.lt_succ_self k)
      · obtain ⟨hhd, hjl⟩ := hdL_join (wd := wd) hn0
        have hn1 : (0 : Int) < (ns.length : Int) := by omega
        have hLt := hlen.out
        have hd : Below (wr.alloc (.cells #[.string (bs wd), .int .u8 kd] 99)).heap.size (wr.alloc (.cells #[.string (bs wd), .int .u8 kd] 99)) (wr.alloc (.cells #[.string (bs wd), .int .u8 kd] 99)).drew := ⟨rfl, rfl, rfl, Nat.le_refl _, fun _ _ => rfl⟩
        have hJ := join_any (w := (wr.alloc (.cells #[.string (bs wd), .int .u8 kd] 99)).drew) (a := a) (c := cap) (n := ns.length) (ws := ns) rfl ((hws.below hba).below hd) hcap (show _ ≤ maxT from ar6 hLt hle hjl) (Nat.le_trans hns (by decide))
        have c0 : (wr.alloc (.cells #[.string (bs wd), .int .u8 kd] 99)).cell? ⟨wr.heap.size, 0, none⟩ = some (.string (bs wd)) := by rw [Lib.cell_of_heap hkA]; rfl
        have hLine : Hid (∀ w5, Below (wr.alloc (.cells #[.string (bs wd), .int .u8 kd] 99)).heap.size (wr.alloc (.cells #[.string (bs wd), .int .u8 kd] 99)) w5 → Calls Tryz.prog 40 #[ptrV b, .slice (some ⟨w5.heap.size, 0, none⟩) 2 2] (w5.alloc (.cells #[.string (bs wd), .string (bs (joinT ns))] 9)) fun e w' => e = .returned (.tuple #[]) ∧ ∃ buf', WrW w' base b v f l t buf' (out ++ headsW vs fs ls k ++ hdL wd ns) ∧ WKeep base b wr w' ∧ w'.cell? ⟨wr.heap.size, 0, none⟩ = some (.string (bs wd))) := by
          intro w5 hB5
          have hW5 := hWa.below hB5
          have hkb5 : WKeep base b wr w5 := (WKeep.of_below hba hbk).trans (WKeep.of_below hB5 (Nat.le_trans hbk hba.size))
          rw [hhd]
          refine (wrLine_new hW5 (Ws.two w5 wd (joinT ns)) (n := 2) rfl (show _ ≤ maxT from by rw [List.length_append, ← hhd]; exact ar5 hLt hle) (by decide) (Nat.le_trans hbk hkb5.size)).mono ?_
          rintro e w6 ⟨rfl, buf6, hW6, hK6⟩
          have hb5 : w5.heap[wr.heap.size]? = some (.cells #[.string (bs wd), .int .u8 kd] 99) := (hB5.block _ (Array.getElem?_eq_some_iff.1 hkA).1).trans hkA
          have hb6 := box_wkeep hb5 hK6 (fun e => Nat.lt_irrefl _ (e ▸ hWk.lt)) (by decide)
          exact ⟨rfl, buf6, hW6, hkb5.trans hK6, by rw [Lib.cell_of_heap hb6]; rfl⟩
        have hcB : Hid (∀ w5, Below (wr.alloc (.cells #[.string (bs wd), .int .u8 kd] 99)).heap.size (wr.alloc (.cells #[.string (bs wd), .int .u8 kd] 99)) w5 → w5.cell? ⟨wr.heap.size, 0, none⟩ = some (.string (bs wd)) ∧ ∀ o, (w5.alloc o).cell? ⟨wr.heap.size, 0, none⟩ = some (.string (bs wd))) := by
          intro w5 hB5
          have hlt5 : wr.heap.size < w5.heap.size := Nat.lt_of_lt_of_le (Array.getElem?_eq_some_iff.1 hkA).1 hB5.size
          have hb5 : w5.heap[wr.heap.size]? = some (.cells #[.string (bs wd), .int .u8 kd] 99) := (hB5.block _ (Array.getElem?_eq_some_iff.1 hkA).1).trans hkA
          refine ⟨by rw [Lib.cell_of_heap hb5]; rfl, fun o => ?_⟩
          rw [Lib.cell_of_heap ((Below.heap_alloc w5 o _ hlt5).trans hb5)]; rfl
        replace hd := hide hd
        have HN := hide (⟨hk4, hKk, h5⟩ : _ ∧ _ ∧ _)
        unfold ptrV at hLine
        clear hWk hKk h hp ht hpk htk hbk hk1 hk2 hk3 hws hcap hns hk4 hle hba hkA hWa h5 hk hhd hjl hLt hn0
        generalize joinT ns = y at *
        generalize ns.length = m at *
        go_wp2_with fail
        refine hNm.mono ?_
        clear hNm
        rintro e w4 ⟨rfl, rfl⟩
        go_wp2_with fail
        refine wp_region_held_drew (S := (fun w' => w'.cell? ⟨wr.heap.size, 0, none⟩ = some (.string (bs wd)))) (by kernel_rfl) c0 (fun hHeld => ?_)
        refine wpAnyH_take (i := 0) (v := ?_) rfl (by kernel_rfl) (by kernel_rfl) (by kernel_rfl) (fun _ _ _ h => h) (Or.inl ⟨by rfl, ?_⟩) hHeld ?_
        rotate_left
        · intro w9 hSw; (try dsimp only at hSw); go_simp; try with_reducible rfl
        simp only [Act.put, List.getElem_toArray, List.getElem_cons_zero, List.getElem_cons_succ, List.setIfInBounds_toArray, List.set_cons_succ, List.set_cons_zero]
        refine wpAnyH_take (i := 1) (v := ?_) rfl (by kernel_rfl) (by kernel_rfl) (by kernel_rfl) (fun _ _ _ h => h) (Or.inl ⟨by rfl, ?_⟩) hHeld ?_
        rotate_left
        · intro w9 hSw; (try dsimp only at hSw); go_simp; try with_reducible rfl
        simp only [Act.put, List.getElem_toArray, List.getElem_cons_zero, List.getElem_cons_succ, List.setIfInBounds_toArray, List.set_cons_succ, List.set_cons_zero]
        refine wpAnyH_take (i := 2) (v := ?_) rfl (by kernel_rfl) (by kernel_rfl) (by kernel_rfl) (fun _ _ _ h => h) (Or.inl ⟨by rfl, ?_⟩) hHeld ?_
        rotate_left
        · intro w9 hSw; (try dsimp only at hSw); go_simp; try with_reducible rfl
        simp only [Act.put, List.getElem_toArray, List.getElem_cons_zero, List.getElem_cons_succ, List.setIfInBounds_toArray, List.set_cons_succ, List.set_cons_zero]
        refine wpAnyH_take (i := 3) (v := ?_) rfl (by kernel_rfl) (by kernel_rfl) (by kernel_rfl) (fun _ _ _ h => h) (Or.inl ⟨by rfl, ?_⟩) hHeld ?_
        rotate_left
        · intro w9 hSw; (try dsimp only at hSw); go_simp; try with_reducible rfl
        simp only [Act.put, List.getElem_toArray, List.getElem_cons_zero, List.getElem_cons_succ, List.setIfInBounds_toArray, List.set_cons_succ, List.set_cons_zero]
        refine wpAnyH_ready (rs := [4]) (by kernel_rfl) (by simp) ?_
        refine AllReadyH.cons rfl (fun K hK => ?_) AllReadyH.nil
        go_simp
        go_at_call 41
        refine hJ.mono ?_
        clear hJ
        rintro e w5 ⟨rfl, hB5⟩
        have hB5' := hd.out.trans hB5
        have hLC := hLine.out w5 hB5'
        obtain ⟨c5, c6⟩ := hcB.out w5 hB5'
        clear hB5 hB5' hLine hcB
        go_wp2_with fail
        refine hK.out _ _ c5 (fun hHeld => ?_)
        clear hK K
        try simp only [Act.put, List.getElem_toArray, List.getElem_cons_zero, List.getElem_cons_succ, List.setIfInBounds_toArray, List.set_cons_succ, List.set_cons_zero]
        refine wpAnyH_ready (rs := [5]) (by kernel_rfl) (by simp) ?_
        refine AllReadyH.cons rfl (fun K hK => ?_) AllReadyH.nil
        go_simp
        refine hK.out _ _ (c6 _) (fun hHeld => ?_)
        clear hK K
        try simp only [Act.put, List.getElem_toArray, List.getElem_cons_zero, List.getElem_cons_succ, List.setIfInBounds_toArray, List.set_cons_succ, List.set_cons_zero]
        refine wpAnyH_ready (rs := [6]) (by kernel_rfl) (by simp) ?_
        refine AllReadyH.cons rfl (fun K hK => ?_) AllReadyH.nil
        go_simp
        go_at_call 40
        refine hLC.mono ?_
        clear hLC
        rintro e w6 ⟨rfl, buf6, hW6, hK6, c7⟩
        have HF := hide (⟨hW6, hK6⟩ : _ ∧ _)
        clear hW6 hK6
        go_wp2_with fail
        refine hK.out _ _ c7 (fun hHeld => ?_)
        clear hK K
        try simp only [Act.put, List.getElem_toArray, List.getElem_cons_zero, List.getElem_cons_succ, List.setIfInBounds_toArray, List.set_cons_succ, List.set_cons_zero]
        refine wpAnyH_done (by kernel_rfl) ?_ _
        clear hHeld c0 c5 c6 c7
        go_wp2_with fail
        go_roundw
        case rel =>
          (try rw [hwk])
          obtain ⟨q1, q2, q3⟩ := HN.out
          exact ⟨k + 1, buf6, q3, rfl, by rw [q1, ← List.append_assoc]; exact HF.out.1, q2.trans HF.out.2⟩
        case measure =>
          (try rw [hwk])
          exact Nat.sub_lt_sub_left HN.out.2.2 (Nat.lt_succ_self k)
    · have hk3 : k = 3 := by omega
      subst hk3
      have HN := hide (⟨hWk, hKk⟩ : _ ∧ _)
      clear hWk hKk h hp ht hpk htk hbk h5 hk
      go_wp2_with fail
      go_end0
      exact ⟨rfl, bufk, HN.out.1, HN.out.2⟩
end
end Go.Proofs.YtlefemndikednaaGreatDoor
