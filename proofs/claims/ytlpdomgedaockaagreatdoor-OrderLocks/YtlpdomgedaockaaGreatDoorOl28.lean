import Derived.Test.YtlpdomgedaockaaGreatDoorOl27
import Derived.Test.YtlpdomgedaockaaGreatDoorChecked
import Derived.Test.YtlpdomgedaockaaGreatDoorOl2
import Derived.WalkKit
import Derived.ProofKit
import Derived.Laws.StructEq
import Derived.MapKept
import Derived.RangeFuncOwn
set_option linter.unusedVariables false
set_option linter.unusedSimpArgs false
namespace Go.Proofs.YtlpdomgedaockaaGreatDoor
open Go.RowKit Go.Proofs.Ord

def l5 : List Ev := [⟨0, 2, 0, 0⟩, ⟨0, 6, 0, 0⟩, ⟨1, 5, 0, 0⟩, ⟨1, 2, 0, 0⟩, ⟨2, 1, 0, 0⟩]
theorem races5 : racesTo (ev l5) 5 = [(0, 4), (3, 4)] := by decide +kernel
theorem bef5a : befI l5 0 3 = true := by decide +kernel
theorem bef5b : befI l5 3 0 = false := by decide +kernel

set_option maxRecDepth 100000 in
set_option maxHeartbeats 1000000 in
theorem alive3_true (hB : BeforeSaid) (hR : RacesSaid) (w : World) (hTab : Hid (Tab w)) : Calls Tryz.prog 5 #[] w fun e w' => e = .returned (.bool true) ∧ Below w.heap.size w w' := by
  have hs : EvS (w.alloc (.cells #[.int .i64 0, .int .i64 2, .int .i64 0, .int .i64 0, .int .i64 0, .int .i64 6, .int .i64 0, .int .i64 0, .int .i64 1, .int .i64 5, .int .i64 0, .int .i64 0, .int .i64 1, .int .i64 2, .int .i64 0, .int .i64 0, .int .i64 2, .int .i64 1, .int .i64 0, .int .i64 0] 49)) (some ⟨w.heap.size, 0, none⟩) l5 := evS_lit w _ l5 (by decide)
  have hb0 : Hid (Below w.heap.size w (w.alloc (.cells #[.int .i64 0, .int .i64 2, .int .i64 0, .int .i64 0, .int .i64 0, .int .i64 6, .int .i64 0, .int .i64 0, .int .i64 1, .int .i64 5, .int .i64 0, .int .i64 0, .int .i64 1, .int .i64 2, .int .i64 0, .int .i64 0, .int .i64 2, .int .i64 1, .int .i64 0, .int .i64 0] 49))) := (Below.refl _ _).alloc (Nat.le_refl _) _
  go_enter Tryz.func5, Tryz.ntmps5
  go_wp2_with fail
  refine (hR _ 5 5 l5 _ rfl hs (by omega) (by unfold maxLen; omega) (by omega) (tab_below hTab.out hb0.out)).mono ?_
  rintro e w1 ⟨v, rfl, hp, hb1⟩
  rw [races5] at hp
  obtain ⟨a, cap, rfl, _, _, h3⟩ := hp
  obtain ⟨b, off, rfl, _, hlt, c0, c1, _, _⟩ := h3 0 (by simp)
  simp only [List.getD_cons_zero, Nat.zero_mul, Nat.add_zero] at c0 c1
  clear h3
  have hs1 := hs.below hb1
  go_wp2_with fail
  refine (hB _ 5 5 l5 0 3 _ rfl hs1 (by omega) (by unfold maxLen; omega) (by omega)).mono ?_
  rintro e w2 ⟨rfl, hb2⟩
  rw [bef5a]
  have hs2 := hs1.below hb2
  have c0' := (hb2.cell (p := ⟨b, off, none⟩) hlt).trans c0
  have c1' := (hb2.cell (p := ⟨b, off + 1, none⟩) hlt).trans c1
  have hlt2 : b < w2.heap.size := by have := hb2.size; omega
  clear c0 c1
  go_wp2_with fail
  refine (hB _ 5 5 l5 3 0 _ rfl hs2 (by omega) (by unfold maxLen; omega) (by omega)).mono ?_
  rintro e w3 ⟨rfl, hb3⟩
  rw [bef5b]
  have c0 := (hb3.cell (p := ⟨b, off, none⟩) hlt2).trans c0'
  have c1 := (hb3.cell (p := ⟨b, off + 1, none⟩) hlt2).trans c1'
  have hbf : Hid (Below w.heap.size w w3) := hb0.out.trans ((hb1.mono (by simp)).trans ((hb2.mono (by have := hb1.size; simp at this; omega)).trans (hb3.mono (by have := hb1.size; have := hb2.size; simp at *; omega))))
  clear c0' c1' hs hs1 hs2 hb1 hb2 hb3 hb0
  go_wp2
  go_ret
  exact ⟨rfl, hbf.out⟩
end Go.Proofs.YtlpdomgedaockaaGreatDoor
namespace Go.Proofs.YtlpdomgedaockaaGreatDoor
open Go.RowKit

/-- A word of a set, as a value. -/
def encU (x : Nat) : Value := .int .u64 (x : Int)

/-- The words that a slice leads to. -/
def SetR (w : World) (a : Option Addr) (ws : List Nat) : Prop :=
  ∀ i, i < ws.length → ∃ b off, a = some ⟨b, off, none⟩ ∧ b < w.heap.size ∧ w.cell? ⟨b, off + i, none⟩ = some (encU (ws.getD i 0))

/-- The bit n of a set. -/
def bitOf (ws : List Nat) (n : Nat) : Bool := (ws.getD (n / 64) 0).testBit (n % 64)


theorem wrap_u64_small {x : Nat} (h : x < 18446744073709551616) : IntKind.u64.wrap (x : Int) = (x : Int) := by rw [IntKind.wrap_u64]; omega
theorem ofInt_nat (x : Nat) : BitVec.ofInt IntKind.u64.bits (x : Int) = BitVec.ofNat 64 x := by
  show BitVec.ofInt 64 (x : Int) = BitVec.ofNat 64 x
  exact BitVec.ofInt_natCast 64 x
theorem bits_and {x y : Nat} (hx : x < 18446744073709551616) (hy : y < 18446744073709551616) : bits .and .u64 (x : Int) (y : Int) = ((x &&& y : Nat) : Int) := by
  have h : (BitVec.ofNat 64 x &&& BitVec.ofNat 64 y).toNat = x &&& y := by
    rw [BitVec.toNat_and, BitVec.toNat_ofNat, BitVec.toNat_ofNat, Nat.mod_eq_of_lt hx, Nat.mod_eq_of_lt hy]
  have hl : x &&& y < 18446744073709551616 := Nat.lt_of_le_of_lt Nat.and_le_left hx
  simp only [bits, ofInt_nat]
  exact (congrArg (fun n : Nat => IntKind.u64.wrap (n : Int)) h).trans (wrap_u64_small hl)
theorem bits_or {x y : Nat} (hx : x < 18446744073709551616) (hy : y < 18446744073709551616) : bits .or .u64 (x : Int) (y : Int) = ((x ||| y : Nat) : Int) := by
  have h : (BitVec.ofNat 64 x ||| BitVec.ofNat 64 y).toNat = x ||| y := by
    rw [BitVec.toNat_or, BitVec.toNat_ofNat, BitVec.toNat_ofNat, Nat.mod_eq_of_lt hx, Nat.mod_eq_of_lt hy]
  have hl : x ||| y < 18446744073709551616 := Nat.or_lt_two_pow (n := 64) hx hy
  simp only [bits, ofInt_nat]
  exact (congrArg (fun n : Nat => IntKind.u64.wrap (n : Int)) h).trans (wrap_u64_small hl)

theorem hide' {p : Prop} (h : p) : Hid p := h
theorem retb {a b : Bool} (h : a = b) : Ending.returned (.bool a) = .returned (.bool b) := by rw [h]
theorem and_one (x : Nat) : x &&& 1 = x % 2 := Nat.and_one_is_mod x

/-- A set that is longer by zeros. -/
def wordsL (ws : List Nat) (n : Nat) : List Nat := ws ++ List.replicate (n - ws.length) 0
theorem wordsL_len (ws : List Nat) (n : Nat) : (wordsL ws n).length = max ws.length n := by simp [wordsL]; omega
theorem wordsL_getD (ws : List Nat) (n i : Nat) : (wordsL ws n).getD i 0 = ws.getD i 0 := by
  unfold wordsL
  by_cases hi : i < ws.length
  · simp [List.getElem?_append_left hi]
  · rw [List.getD_eq_getElem?_getD, List.getD_eq_getElem?_getD, List.getElem?_append_right (by omega), List.getElem?_replicate, List.getElem?_eq_none (by omega : ws.length ≤ i)]
    split <;> rfl
theorem wordsL_mem {ws : List Nat} {n x : Nat} (h : x ∈ wordsL ws n) : x ∈ ws ∨ x = 0 := by
  rcases List.mem_append.1 h with h | h
  · exact .inl h
  · exact .inr (List.eq_of_mem_replicate h)

theorem Tryz.infoU : (Tryz.prog.info? 165).map (fun i => (i.zero, i.size, i.bytes)) = some (some (.int .u64 0), 1, 8) := by kernel_rfl

theorem map_encU {ws : List Nat} {i : Nat} (h : i < ws.length) : (ws.map encU)[i]? = some (encU (ws.getD i 0)) := by simp [h]

/-- A set that is owned. -/
def SetO (B : Nat) (w : World) (v : Value) (ws : List Nat) : Prop := w.ownsRow B 165 1 v ws.length (ws.map encU) ∧ ∀ x, x ∈ ws → x < 18446744073709551616

theorem SetO.parts {B : Nat} {w : World} {v : Value} {ws : List Nat} (h : SetO B w v ws) : ∃ a cap, v = .slice a ws.length cap ∧ ws.length ≤ cap ∧ cap ≤ 9223372036854775807 ∧ SetR w a ws := by
  rcases h.1.2 with ⟨rfl, h0⟩ | ⟨g, cap, cur, rfl, hB, hg, hc, hm, _, _⟩
  · exact ⟨none, 0, by rw [h0], by omega, by omega, fun i hi => absurd hi (by omega)⟩
  · refine ⟨_, cap, rfl, hc, hm, fun i hi => ⟨g, 0, rfl, (Array.getElem?_eq_some_iff.1 hg).1, ?_⟩⟩
    rw [Nat.zero_add, h.1.cellAt i (by omega)]
    simp [hi]

theorem setO_pos {B : Nat} {w : World} {v : Value} {ws : List Nat} (h : SetO B w v ws) (h0 : 0 < ws.length) : ∃ g c, v = .slice (some ⟨g, 0, none⟩) ws.length c ∧ B ≤ g ∧ ws.length ≤ c ∧ c ≤ 9223372036854775807 := by
  rcases h.1.2 with ⟨_, h1⟩ | ⟨g, cap, cur, rfl, hb, _, hc, hm, _, _⟩
  · omega
  · exact ⟨g, cap, rfl, hb, hc, hm⟩

set_option maxRecDepth 100000 in
set_option maxHeartbeats 400000 in
theorem words_any (B : Nat) (v : Value) (ws : List Nat) (n : Nat) (w : World) (hB : B ≤ w.heap.size) (h : SetO B w v ws) (hn : n ≤ 1048576) :
    Calls Tryz.prog 91 #[v, .int .i64 n] w fun e w' => ∃ v', e = .returned v' ∧ SetO B w' v' (wordsL ws n) ∧ w.grownBy w' v.ownBlock ∧ (v'.ownBlock = v.ownBlock ∨ (v'.ownBlock = some w.heap.size ∧ w.grownBy w' none)) ∧ (n ≤ ws.length → w' = w ∧ v' = v) := by
  obtain ⟨i0, hi, hz0, hz1, hz2⟩ := info_parts Tryz.infoU
  obtain ⟨k, hk⟩ : ∃ k, ws.length = k := ⟨_, rfl⟩
  obtain ⟨a, cap, rfl, hc, hm, hr⟩ := h.parts
  have hown := h.1
  rw [hk] at hown hc h ⊢
  clear hr
  by_cases hle : n ≤ k
  · have e : wordsL ws n = ws := by unfold wordsL; rw [Nat.sub_eq_zero_of_le (by omega)]; simp
    rw [e]
    go_enter Tryz.func91, Tryz.ntmps91
    go_wp2
    go_ret
    exact ⟨_, rfl, h, ⟨rfl, rfl, rfl, Nat.le_refl _, fun _ _ _ => rfl⟩, .inl rfl, fun _ => ⟨rfl, rfl⟩⟩
  · obtain ⟨m, hm⟩ : ∃ m, n = k + m := ⟨n - k, by omega⟩
    have hm0 : 0 < m := by omega
    have hnum : ((n : Int) - (k : Int)) = (m : Int) := by omega
    have hbb : (k + m) * 8 ≤ 140737488355328 := by omega
    have hml : k + m ≤ maxLen := by unfold maxLen; omega
    have hfin : Hid (∀ (v' : Value) (w' : World), w'.ownsRow B 165 1 v' (k + m) (ws.map encU ++ List.replicate m (.int .u64 0)) → SetO B w' v' (wordsL ws n)) := by
      intro v' w' ho
      refine ⟨?_, fun x hx => (wordsL_mem hx).elim (h.2 x) (fun e => by omega)⟩
      rw [wordsL_len, show max ws.length n = k + m by omega, wordsL, List.map_append, List.map_replicate, show n - ws.length = m by omega]
      exact ho
    clear hm h
    go_enter Tryz.func91, Tryz.ntmps91
    go_wp2_with (at_builtin; refine wpList_append_zeros_own _ rfl _ _ 79 3 rfl B 165 i0 (.int .u64 0) 8 Tryz.underlying79 Tryz.underlying3 hi hz0 hz1 hz2 rfl rfl _ k _ rfl hown m rfl hm0 hml hbb hB ?_; intro v' w1 hown' hgrow hblk)
    go_ret
    exact ⟨v', rfl, hfin.out _ _ hown', hgrow, hblk, fun h => absurd h hle⟩

/-- A set with n in it. -/
def withL (ws : List Nat) (n : Nat) : List Nat := (wordsL ws (n / 64 + 1)).set (n / 64) (ws.getD (n / 64) 0 ||| 2 ^ (n % 64))
theorem withL_len (ws : List Nat) (n : Nat) : (withL ws n).length = max ws.length (n / 64 + 1) := by rw [withL, List.length_set, wordsL_len]

theorem grownBy_trans {w w1 w2 : World} {r r' : Option Nat} (h : w.grownBy w1 r) (h' : w1.grownBy w2 r') (hr : ∀ g, r' = some g → r = some g ∨ w.heap.size ≤ g) : w.grownBy w2 r :=
  ⟨h'.os.trans h.os, h'.tape.trans h.tape, h'.output.trans h.output, Nat.le_trans h.size h'.size, fun k hk hne => by
    have := h.size
    refine (h'.block k (by omega) (fun e => ?_)).trans (h.block k hk hne)
    rcases hr k e.symm with h1 | h1
    · exact hne h1.symm
    · omega⟩

set_option maxRecDepth 100000 in
set_option maxHeartbeats 400000 in
theorem with_any (B : Nat) (v : Value) (ws : List Nat) (n : Nat) (w : World) (hB : B ≤ w.heap.size) (h : SetO B w v ws) (hn : n ≤ 1048576) (hlen : ws.length ≤ 1048576) :
    Calls Tryz.prog 41 #[v, .int .i64 n] w fun e w' => ∃ v', e = .returned v' ∧ SetO B w' v' (withL ws n) ∧ w.grownBy w' v.ownBlock ∧ (v'.ownBlock = v.ownBlock ∨ (v'.ownBlock = some w.heap.size ∧ w.grownBy w' none)) := by
  obtain ⟨q, r, hr, rfl⟩ : ∃ q r, r < 64 ∧ n = 64 * q + r := ⟨n / 64, n % 64, Nat.mod_lt _ (by decide), (Nat.div_add_mod n 64).symm⟩
  have e1 : (64 * q + r) / 64 = q := by omega
  have e2 : (64 * q + r) % 64 = r := by omega
  have hW := words_any B v ws (q + 1) w hB h (by omega)
  have hcast : (((q + 1 : Nat)) : Int) = (q : Int) + 1 := by simp
  rw [hcast] at hW
  have hwl : withL ws (64 * q + r) = (wordsL ws (q + 1)).set q (ws.getD q 0 ||| 2 ^ r) := by unfold withL; rw [e1, e2]
  rw [hwl]
  obtain ⟨us, hus⟩ : ∃ us, wordsL ws (q + 1) = us := ⟨_, rfl⟩
  have hul : Hid (us.length = max ws.length (q + 1)) := by rw [← hus]; exact wordsL_len _ _
  have hlt : q < us.length := by have := hul.out; omega
  have hul8 : us.length ≤ 1048577 := by have := hul.out; omega
  have hgd : ws.getD q 0 = us.getD q 0 := by rw [← hus, wordsL_getD]
  rw [hgd]
  rw [hus] at hW ⊢
  obtain ⟨x, hx⟩ : ∃ x, Hid (us.getD q 0 = x) := ⟨_, rfl⟩
  rw [hx.out]
  clear hwl hgd hcast h hus
  have i1 : (64 * (q : Int) + (r : Int)) / 64 = (q : Int) := by omega
  have i2 : (64 * (q : Int) + (r : Int)) % 64 = (r : Int) := by omega
  go_enter Tryz.func41, Tryz.ntmps41
  go_wp2_with (go_at_call 91; refine hW.mono ?_; clear hW; rintro e w1 ⟨v1, rfl, hS1, hg1, hb1, -⟩; obtain ⟨g, c1, rfl, -, hc2, hc3⟩ := setO_pos hS1 (by omega); have hcell := (hS1.1.cellAt q (by omega)).trans (map_encU hlt); have hfr := hS1.1.frozenAt q)
  rw [hx.out] at hcell
  unfold encU at hcell
  have hmix : Tryz.prog.follows Departure.mixedOrders = true := by kernel_rfl
  have hxl : x < 18446744073709551616 := by
    rw [← hx.out]; exact hS1.2 _ (by rw [List.getD_eq_getElem?_getD, List.getElem?_eq_getElem hlt]; exact List.getElem_mem _)
  have hpl : 2 ^ r < 18446744073709551616 := Nat.pow_lt_pow_right (by decide) hr
  have hol : x ||| 2 ^ r < 18446744073709551616 := Nat.or_lt_two_pow (n := 64) hxl hpl
  have hval : bits BinOp.or IntKind.u64 (x : Int) (IntKind.u64.wrap (2 ^ r)) = ((x ||| 2 ^ r : Nat) : Int) := by
    have e3 : ((2 : Int) ^ r) = ((2 ^ r : Nat) : Int) := by simp
    rw [e3, wrap_u64_small hpl, bits_or hxl hpl]
  have hst := hS1.1.stored q (encU (x ||| 2 ^ r))
  have hfin : Hid (SetO B (w1.setCell ⟨g, q, none⟩ (encU (x ||| 2 ^ r))).drew (.slice (some ⟨g, 0, none⟩) us.length c1) (us.set q (x ||| 2 ^ r)) ∧ w.grownBy (w1.setCell ⟨g, q, none⟩ (encU (x ||| 2 ^ r))).drew v.ownBlock ∧
      (Value.ownBlock (.slice (some ⟨g, 0, none⟩) us.length c1) = v.ownBlock ∨ (Value.ownBlock (.slice (some ⟨g, 0, none⟩) us.length c1) = some w.heap.size ∧ w.grownBy (w1.setCell ⟨g, q, none⟩ (encU (x ||| 2 ^ r))).drew none))) := by
    refine ⟨⟨?_, fun y hy => ?_⟩, ?_, ?_⟩
    · rw [List.length_set, List.map_set]; exact hst.1
    · rcases List.mem_or_eq_of_mem_set hy with h1 | h1
      · exact hS1.2 y h1
      · omega
    · have hgs := grownBy_trans hg1 hst.2 (fun g' e => by
        cases e
        rcases hb1 with h1 | ⟨h1, _⟩
        · exact .inl (h1.symm.trans rfl)
        · cases h1; exact .inr (Nat.le_refl _))
      exact ⟨hgs.os, hgs.tape, hgs.output, hgs.size, hgs.block⟩
    · rcases hb1 with h1 | ⟨h1, h2⟩
      · exact .inl h1
      · refine .inr ⟨h1, ?_⟩
        have hgs := grownBy_trans h2 hst.2 (fun g' e => by cases e; cases h1; exact .inr (Nat.le_refl _))
        exact ⟨hgs.os, hgs.tape, hgs.output, hgs.size, hgs.block⟩
  have Hv := hide' hval
  clear hst hval
  go_big_region
  rw [Hv.out]
  go_wp2
  go_ret
  exact ⟨_, rfl, hfin.out.1, hfin.out.2.1, hfin.out.2.2⟩
end Go.Proofs.YtlpdomgedaockaaGreatDoor
namespace Go.Proofs.YtlpdomgedaockaaGreatDoor
open Go.RowKit

/-- Two sets as one. -/
def joinUpto (s o : List Nat) (k : Nat) : List Nat := (List.range (max s.length o.length)).map fun i => if i < k then s.getD i 0 ||| o.getD i 0 else s.getD i 0
def joinL (s o : List Nat) : List Nat := joinUpto s o o.length
theorem joinUpto_len (s o : List Nat) (k : Nat) : (joinUpto s o k).length = max s.length o.length := by simp [joinUpto]
theorem joinL_len (s o : List Nat) : (joinL s o).length = max s.length o.length := joinUpto_len _ _ _
theorem getDN_eq {l : List Nat} {i : Nat} (h : i < l.length) : l.getD i 0 = l[i] := by simp [h]
theorem getDN_past {l : List Nat} {i : Nat} (h : l.length ≤ i) : l.getD i 0 = 0 := by simp [h]
theorem joinUpto_getD (s o : List Nat) (k i : Nat) (h : i < max s.length o.length) : (joinUpto s o k).getD i 0 = if i < k then s.getD i 0 ||| o.getD i 0 else s.getD i 0 := by
  rw [getDN_eq (by rw [joinUpto_len]; exact h)]
  simp [joinUpto]
theorem joinL_getD (s o : List Nat) (i : Nat) : (joinL s o).getD i 0 = s.getD i 0 ||| o.getD i 0 := by
  by_cases h : i < max s.length o.length
  · rw [joinL, joinUpto_getD _ _ _ _ h]
    split
    · rfl
    · rw [getDN_past (l := o) (by omega)]; simp
  · rw [getDN_past (by rw [joinL_len]; omega), getDN_past (by omega), getDN_past (by omega)]; rfl
theorem extN {l l' : List Nat} (hl : l.length = l'.length) (h : ∀ i, i < l.length → l.getD i 0 = l'.getD i 0) : l = l' := by
  apply List.ext_getElem hl
  intro i h1 h2
  have := h i h1
  rwa [getDN_eq h1, getDN_eq h2] at this
theorem joinUpto_zero (s o : List Nat) : joinUpto s o 0 = wordsL s o.length := by
  refine extN (by rw [joinUpto_len, wordsL_len]) fun i hi => ?_
  rw [joinUpto_len] at hi
  rw [joinUpto_getD _ _ _ _ hi, wordsL_getD, if_neg (by omega)]
theorem joinUpto_succ (s o : List Nat) (k : Nat) (hk : k < o.length) : joinUpto s o (k + 1) = (joinUpto s o k).set k (s.getD k 0 ||| o.getD k 0) := by
  refine extN (by rw [joinUpto_len, List.length_set, joinUpto_len]) fun i hi => ?_
  rw [joinUpto_len] at hi
  rw [joinUpto_getD _ _ _ _ hi]
  by_cases e : i = k
  · subst e
    have hl : i < ((joinUpto s o i).set i (s.getD i 0 ||| o.getD i 0)).length := by rw [List.length_set, joinUpto_len]; exact hi
    rw [if_pos (by omega), getDN_eq hl, List.getElem_set_self]
  · have h1 : ((joinUpto s o k).set k (s.getD k 0 ||| o.getD k 0)).getD i 0 = (joinUpto s o k).getD i 0 := by
      rw [List.getD_eq_getElem?_getD, List.getElem?_set_ne (fun h => e h.symm), ← List.getD_eq_getElem?_getD]
    rw [h1, joinUpto_getD _ _ _ _ hi]
    by_cases h2 : i < k
    · rw [if_pos (by omega), if_pos h2]
    · rw [if_neg (by omega), if_neg h2]

theorem bit_join (s o : List Nat) (n : Nat) : bitOf (joinL s o) n = (bitOf s n || bitOf o n) := by
  unfold bitOf; rw [joinL_getD, Nat.testBit_or]
theorem bit_with (ws : List Nat) (n m : Nat) : bitOf (withL ws n) m = (bitOf ws m || decide (m = n)) := by
  have hl := withL_len ws n
  unfold bitOf
  by_cases e : m / 64 = n / 64
  · have h1 : (withL ws n).getD (m / 64) 0 = ws.getD (n / 64) 0 ||| 2 ^ (n % 64) := by
      rw [e, getDN_eq (by rw [hl]; omega)]; unfold withL; rw [List.getElem_set_self]
    rw [h1, Nat.testBit_or, e, Nat.testBit_two_pow]
    have : decide (n % 64 = m % 64) = decide (m = n) := decide_eq_decide.2 (by omega)
    rw [this]
  · have h1 : (withL ws n).getD (m / 64) 0 = ws.getD (m / 64) 0 := by
      unfold withL
      rw [List.getD_eq_getElem?_getD, List.getElem?_set_ne (fun h => e h.symm), ← List.getD_eq_getElem?_getD, wordsL_getD]
    have h2 : decide (m = n) = false := decide_eq_false (fun h => e (by rw [h]))
    rw [h1, h2, Bool.or_false]
theorem bit_nil (n : Nat) : bitOf [] n = false := by simp [bitOf]

theorem joinUpto_lt {s o : List Nat} (hs : ∀ x, x ∈ s → x < 18446744073709551616) (ho : ∀ x, x ∈ o → x < 18446744073709551616) (k : Nat) : ∀ x, x ∈ joinUpto s o k → x < 18446744073709551616 := by
  intro x hx
  have hd : ∀ (l : List Nat), (∀ x, x ∈ l → x < 18446744073709551616) → ∀ i, l.getD i 0 < 18446744073709551616 := fun l hl i => by
    by_cases h : i < l.length
    · rw [getDN_eq h]; exact hl _ (List.getElem_mem _)
    · rw [getDN_past (by omega)]; decide
  obtain ⟨i, _, rfl⟩ := List.mem_map.1 hx
  show (if i < k then _ else _) < _
  split
  · exact Nat.or_lt_two_pow (n := 64) (hd s hs i) (hd o ho i)
  · exact hd s hs i

/-- The words of the other set lie in another block than the set's, or they are a beginning of the set's own. -/
def Beside (v : Value) (s : List Nat) (ao : Option Addr) (o : List Nat) : Prop :=
  (∀ b, ao = some b → v.ownBlock ≠ some b.block) ∨ (∃ g c, v = .slice (some ⟨g, 0, none⟩) s.length c ∧ ao = some ⟨g, 0, none⟩ ∧ o.length ≤ s.length ∧ ∀ i, i < o.length → o.getD i 0 = s.getD i 0)

set_option maxRecDepth 100000 in
set_option maxHeartbeats 400000 in
theorem join_any (B : Nat) (v : Value) (s : List Nat) (ao : Option Addr) (co : Nat) (o : List Nat) (w : World) (hB : B ≤ w.heap.size) (h : SetO B w v s) (hlen : s.length ≤ 1048576) (hlo : o.length ≤ 1048576)
    (hco : o.length ≤ co) (ho : SetR w ao o) (hob : ∀ x, x ∈ o → x < 18446744073709551616) (hne : Beside v s ao o) :
    Calls Tryz.prog 58 #[v, .slice ao o.length co] w fun e w' => ∃ v', e = .returned v' ∧ SetO B w' v' (joinL s o) ∧ w.grownBy w' v.ownBlock ∧ (v'.ownBlock = v.ownBlock ∨ (v'.ownBlock = some w.heap.size ∧ w.grownBy w' none)) := by
  have hW := words_any B v s o.length w hB h hlo
  rw [← joinUpto_zero] at hW
  obtain ⟨m, hm⟩ : ∃ m, o.length = m := ⟨_, rfl⟩
  obtain ⟨M, hM⟩ : ∃ M, max s.length o.length = M := ⟨_, rfl⟩
  have hread : Hid (∀ (v1 : Value) (k : Nat) (wr : World), (m ≤ s.length → v1 = v) → k < m → SetO B wr v1 (joinUpto s o k) → w.grownBy wr v.ownBlock → ∃ b off, ao = some ⟨b, off, none⟩ ∧ wr.cell? ⟨b, off + k, none⟩ = some (encU (o.getD k 0))) := by
    intro v1 k wr hv1 hk hS hg
    rcases hne with hne | ⟨g, c, rfl, rfl, hle, heq⟩
    · obtain ⟨b, off, rfl, hb, hc⟩ := ho k (by omega)
      exact ⟨b, off, rfl, hg.cell hc (fun e => hne _ rfl e.symm)⟩
    · obtain rfl := hv1 (by omega)
      refine ⟨g, 0, rfl, ?_⟩
      have h1 : max s.length o.length = s.length := by omega
      have h2 := hS.1
      rw [joinUpto_len, h1] at h2
      rw [Nat.zero_add, h2.cellAt k (by omega), map_encU (by rw [joinUpto_len]; omega), joinUpto_getD _ _ _ _ (by omega), if_neg (by omega), heq k (by omega)]
  have hjl : joinL s o = joinUpto s o m := by rw [← hm]; rfl
  rw [hjl]
  have HM := hide' hM
  rw [hm] at hW hco hlo ⊢
  have Hm := hide' hm
  have hM8 : M ≤ 1048576 := by omega
  have hmM : m ≤ M := by omega
  have hbl : ∀ k x, x ∈ joinUpto s o k → x < 18446744073709551616 := joinUpto_lt h.2 hob
  have Hbl := hide' hbl
  clear hm hM hjl hne hbl ho
  go_enter Tryz.func58, Tryz.ntmps58
  go_wp2_with (go_at_call 91; refine hW.mono ?_; clear hW; rintro e w1 ⟨v1, rfl, hS1, hg1, hb1, hsm⟩)
  have Hsm : Hid (m ≤ s.length → v1 = v) := fun h => (hsm h).2
  clear hsm
  go_loopw [13] (fun i wr => ∃ k : Nat, k ≤ m ∧ i = .int .i64 k ∧ SetO B wr v1 (joinUpto s o k) ∧ w.grownBy wr v.ownBlock ∧ (v1.ownBlock = v.ownBlock ∨ (v1.ownBlock = some w.heap.size ∧ w.grownBy wr none))) (fun i _ => m - (intOf i).toNat)
  case atStart => exact ⟨0, Nat.zero_le _, rfl, hS1, hg1, hb1⟩
  case round =>
    obtain ⟨k, hk, rfl, hS, hg, hbk⟩ := hrel
    clear hb1
    by_cases hlt : k < m
    · have hjl : (joinUpto s o k).length = M := (joinUpto_len _ _ _).trans HM.out
      obtain ⟨b, off, rfl, hco1⟩ := hread.out v1 k wr Hsm.out hlt hS hg
      obtain ⟨g, c1, hv1, -, hc2, hc3⟩ := setO_pos hS (by omega)
      rw [hjl] at hv1 hc2
      subst hv1
      have hown := hS.1
      rw [hjl] at hown
      have hcell := (hown.cellAt k (by omega)).trans (map_encU (by omega))
      have hfr := hown.frozenAt k
      rw [joinUpto_getD _ _ _ _ (by have := HM.out; omega), if_neg (by omega)] at hcell
      obtain ⟨x, hx⟩ : ∃ x, Hid (s.getD k 0 = x) := ⟨_, rfl⟩
      obtain ⟨y, hy⟩ : ∃ y, Hid (o.getD k 0 = y) := ⟨_, rfl⟩
      rw [hx.out] at hcell
      rw [hy.out] at hco1
      have hxl : x < 18446744073709551616 := by
        have h1 := Hbl.out k ((joinUpto s o k).getD k 0) (by rw [getDN_eq (by omega)]; exact List.getElem_mem _)
        rwa [joinUpto_getD _ _ _ _ (by have := HM.out; omega), if_neg (by omega), hx.out] at h1
      have hyl : y < 18446744073709551616 := by
        rw [← hy.out, getDN_eq (by have := Hm.out; omega)]; exact hob _ (List.getElem_mem _)
      have hval : Hid (bits BinOp.or IntKind.u64 (x : Int) (y : Int) = ((x ||| y : Nat) : Int)) := bits_or hxl hyl
      have hst := hown.stored k (encU (x ||| y))
      have hfin : Hid (SetO B (wr.setCell ⟨g, k, none⟩ (encU (x ||| y))) (.slice (some ⟨g, 0, none⟩) M c1) (joinUpto s o (k + 1)) ∧ w.grownBy (wr.setCell ⟨g, k, none⟩ (encU (x ||| y))) v.ownBlock ∧
          (Value.ownBlock (.slice (some ⟨g, 0, none⟩) M c1) = v.ownBlock ∨ (Value.ownBlock (.slice (some ⟨g, 0, none⟩) M c1) = some w.heap.size ∧ w.grownBy (wr.setCell ⟨g, k, none⟩ (encU (x ||| y))) none))) := by
        refine ⟨⟨?_, Hbl.out (k + 1)⟩, ?_, ?_⟩
        · rw [joinUpto_len, HM.out, joinUpto_succ _ _ _ (by have := Hm.out; omega), List.map_set, hx.out, hy.out]; exact hst.1
        · refine grownBy_trans hg hst.2 (fun g' e => ?_)
          cases e
          rcases hbk with h1 | ⟨h1, _⟩
          · exact .inl (h1.symm.trans rfl)
          · cases h1; exact .inr (Nat.le_refl _)
        · rcases hbk with h1 | ⟨h1, h2⟩
          · exact .inl h1
          · exact .inr ⟨h1, grownBy_trans h2 hst.2 (fun g' e => by cases e; cases h1; exact .inr (Nat.le_refl _))⟩
      unfold encU at hcell hco1
      clear hst hown hS hg hjl hbk
      go_wp2
      rw [hval.out]
      go_roundw
      case rel => exact ⟨k + 1, by omega, by go_num, hfin.out.1, hfin.out.2.1, hfin.out.2.2⟩
      case measure => simp [intOf]; omega
    · obtain rfl : k = m := by omega
      go_wp2
      go_ret
      exact ⟨_, rfl, hS, hg, hbk⟩
end Go.Proofs.YtlpdomgedaockaaGreatDoor
namespace Go.Proofs.YtlpdomgedaockaaGreatDoor
open Go.RowKit

/-- Two numbers as a struct. -/
def dk (d : Int × Int) : Value := .agg #[.int .i64 d.1, .int .i64 d.2]
theorem dk_inj {d d' : Int × Int} (h : dk d = dk d') : d = d' := by
  simp [dk] at h
  exact Prod.ext h.1 h.2

/-- A type of such keys. -/
structure KeyT (K : TypeId) : Prop where
  check : ∀ (e : Bool) (d : Int × Int) (w : World), (Instr.checkKey e 10000 K (dk d)).run Tryz.prog w = .ok () w
  equal : ∀ (d d' : Int × Int) (w : World), (Op.equal K (dk d) (dk d')).run Tryz.prog w = .ok (d.1 == d'.1 && d.2 == d'.2) w
  under : ∃ fs, Tryz.prog.underlying K = some (.struct fs)

theorem door_key : KeyT 161 := by
  refine ⟨fun e d w => ?_, fun d d' w => ?_, ⟨_, Tryz.underlying161⟩⟩
  · cases e <;> kernel_rfl
  · have u3 := Tryz.underlying3
    have a3 := Tryz.isAgg3
    have z3 := Tryz.sizeOf3
    unfold Op.equal Op.maxDepth dk
    rw [show (10000 : Nat) = 9999 + 1 from rfl, run_equalIn_struct (P := Tryz.prog) w 9999 161 _ _ (by kernel_rfl) (by kernel_rfl)]
    simp only [Program.fieldsOf, Tryz.underlying161]
    go_simp
    by_cases h1 : d.fst = d'.fst <;> by_cases h2 : d.snd = d'.snd <;> simp [h1, h2]
theorem pair_beq (d d' : Int × Int) : (d.1 == d'.1 && d.2 == d'.2) = decide (d = d') := by
  by_cases h : d = d'
  · subst h; simp
  · rw [decide_eq_false h]
    rw [Bool.and_eq_false_iff]
    by_cases h1 : d.1 = d'.1
    · right; exact beq_eq_false_iff_ne.2 (fun h2 => h (Prod.ext h1 h2))
    · left; exact beq_eq_false_iff_ne.2 h1

theorem find_run {K : TypeId} (hK : KeyT K) (d : Int × Int) (w : World) : ∀ (es : List MapEntry) (i : Nat), (∀ e, e ∈ es → ∃ d', e.key = dk d') →
    (∃ j e, es[j]? = some e ∧ e.key = dk d ∧ (Instr.findAsking K (dk d) es i).run Tryz.prog w = .ok (some (i + j, e.val)) w) ∨ ((∀ e, e ∈ es → e.key ≠ dk d) ∧ (Instr.findAsking K (dk d) es i).run Tryz.prog w = .ok none w) := by
  intro es
  induction es with
  | nil => intro i _; exact .inr ⟨(fun e he => by cases he), (by simp [Instr.findAsking])⟩
  | cons e es ih =>
    intro i hk
    obtain ⟨d', hd'⟩ := hk e (by simp)
    have heq := hK.equal d d' w
    rw [pair_beq] at heq
    by_cases h : d = d'
    · subst h
      rw [decide_eq_true rfl] at heq
      exact .inl ⟨0, e, rfl, hd', by simp [Instr.findAsking, hd', heq]⟩
    · rw [decide_eq_false h] at heq
      rcases ih (i + 1) (fun e he => hk e (by simp [he])) with ⟨j, e', h1, h2, h3⟩ | ⟨h1, h2⟩
      · refine .inl ⟨j + 1, e', by simpa using h1, h2, ?_⟩
        simp [Instr.findAsking, hd', heq, h3]; omega
      · refine .inr ⟨fun e' he' => ?_, by simp [Instr.findAsking, hd', heq, h2]⟩
        rcases List.mem_cons.1 he' with rfl | he'
        · rw [hd']; exact fun e => h (dk_inj e).symm
        · exact h1 e' he'

theorem findKey_run {K : TypeId} (hK : KeyT K) (d : Int × Int) (w : World) (es : List MapEntry) (hk : ∀ e, e ∈ es → ∃ d', e.key = dk d') :
    (∃ j e, es[j]? = some e ∧ e.key = dk d ∧ (Instr.findKey K (dk d) es).run Tryz.prog w = .ok (some (j, e.val)) w) ∨ ((∀ e, e ∈ es → e.key ≠ dk d) ∧ (Instr.findKey K (dk d) es).run Tryz.prog w = .ok none w) := by
  obtain ⟨fs, hu⟩ := hK.under
  cases es with
  | nil => exact .inr ⟨(fun e he => by cases he), (by simp [Instr.findKey, run_underlying hu, Instr.findNow])⟩
  | cons e es =>
    obtain ⟨d', hd'⟩ := hk e (by simp)
    have hn : Instr.findNow (.struct fs) (dk d) (e :: es) 0 = none := by simp [Instr.findNow, Instr.sameNow]
    rcases find_run hK d w (e :: es) 0 hk with ⟨j, e', h1, h2, h3⟩ | ⟨h1, h2⟩
    · exact .inl ⟨j, e', h1, h2, by simp [Instr.findKey, run_underlying hu, hn, h3]⟩
    · exact .inr ⟨h1, by simp [Instr.findKey, run_underlying hu, hn, h2]⟩

/-- Block b is a map that holds just these. -/
def DMap (w : World) (b : Nat) (f : Int × Int → Option Value) : Prop :=
  ∃ es clock, w.heap[b]? = some (.map es clock) ∧ (∀ (i : Nat) (e : MapEntry), es[i]? = some e → ∃ d, e.key = dk d ∧ f d = some e.val) ∧ (∀ d v, f d = some v → ∃ (i : Nat) (e : MapEntry), es[i]? = some e ∧ e.key = dk d) ∧
    (∀ (i j : Nat) (e e' : MapEntry), es[i]? = some e → es[j]? = some e' → e.key = e'.key → i = j)

theorem DMap.lt {w : World} {b : Nat} {f : Int × Int → Option Value} (h : DMap w b f) : b < w.heap.size := by
  obtain ⟨es, clock, hb, _⟩ := h; exact (Array.getElem?_eq_some_iff.1 hb).1
theorem DMap.same {w w' : World} {b : Nat} {f : Int × Int → Option Value} (h : DMap w b f) (hb : w'.heap[b]? = w.heap[b]?) : DMap w' b f := by
  obtain ⟨es, clock, h1, h2⟩ := h; exact ⟨es, clock, hb.trans h1, h2⟩
theorem DMap.made (w : World) : DMap (w.alloc (.map #[] 0)) w.heap.size (fun _ => none) :=
  ⟨#[], 0, heap_new_z w _, (fun i e he => by simp at he), (fun d v h => by cases h), (fun i j e e' h => by simp at h)⟩

theorem mem_at {es : Array MapEntry} {e : MapEntry} (h : e ∈ es.toList) : ∃ i : Nat, es[i]? = some e := by
  obtain ⟨i, hi⟩ := List.getElem?_of_mem h
  exact ⟨i, by simpa using hi⟩

theorem DMap.look {w : World} {b : Nat} {f : Int × Int → Option Value} (h : DMap w b f) {T K E : TypeId} (hK : KeyT K) (ht : Tryz.prog.underlying T = some (.map K E)) {z : Value} (hz : (zeroValue E).run Tryz.prog w = .ok z w) (d : Int × Int) :
    (Instr.lookup T (.map (some b)) (dk d) false).run Tryz.prog w = .ok ((f d).getD z) w := by
  obtain ⟨es, clock, hb, h1, h2, _⟩ := h
  rcases findKey_run hK d w es.toList (fun e he => by obtain ⟨i, hi⟩ := mem_at he; obtain ⟨d', hd', _⟩ := h1 i e hi; exact ⟨d', hd'⟩) with ⟨j, e, e1, e2, e3⟩ | ⟨e1, e3⟩
  · obtain ⟨d', hd', hv⟩ := h1 j e (by simpa using e1)
    obtain rfl := dk_inj (hd'.symm.trans e2)
    simp [Instr.lookup, run_underlying ht, MapKept.run_getObj_map hb, hK.check, e3, hv]
  · have hn : f d = none := by
      cases hf : f d with
      | none => rfl
      | some v => obtain ⟨i, e, he, hke⟩ := h2 d v hf; exact absurd hke (e1 e (List.mem_of_getElem? (i := i) (by simpa using he)))
    simp [Instr.lookup, run_underlying ht, MapKept.run_getObj_map hb, hK.check, e3, hn, hz]

theorem stays_dk (d : Int × Int) (w : World) : (Instr.keyThatStays (dk d) (dk d)).run Tryz.prog w = .ok (dk d) w := by
  have h : Instr.sameBits 10000 (dk d) (dk d) = true := by simp [dk, Instr.sameBits]
  simp [Instr.keyThatStays, h]

/-- The map with one more. -/
def putD (f : Int × Int → Option Value) (d : Int × Int) (v : Value) : Int × Int → Option Value := fun x => if x = d then some v else f x
theorem putD_same (f : Int × Int → Option Value) (d : Int × Int) (v : Value) : putD f d v d = some v := by simp [putD]
theorem putD_other {f : Int × Int → Option Value} {d x : Int × Int} (v : Value) (h : x ≠ d) : putD f d v x = f x := by simp [putD, h]

theorem DMap.put {w : World} {b : Nat} {f : Int × Int → Option Value} (h : DMap w b f) {T K E : TypeId} (hK : KeyT K) (ht : Tryz.prog.underlying T = some (.map K E)) (d : Int × Int) (v : Value) :
    ∃ w', (Instr.mapUpdate T (.map (some b)) (dk d) v).run Tryz.prog w = .ok () w' ∧ DMap w' b (putD f d v) ∧ w.grownBy w' (some b) ∧ w'.heap.size = w.heap.size := by
  obtain ⟨es, clock, hb, h1, h2, h3⟩ := h
  have hlt := (Array.getElem?_eq_some_iff.1 hb).1
  have hgrow : ∀ o : Obj, w.grownBy { w with heap := w.heap.setIfInBounds b o } (some b) := fun o =>
    ⟨rfl, rfl, rfl, by simp, fun k hk hne => by simp only [Array.getElem?_setIfInBounds]; rw [if_neg (fun e => hne (by rw [e]))]⟩
  have hset : ∀ o : Obj, ({ w with heap := w.heap.setIfInBounds b o } : World).heap[b]? = some o := fun o => by simp [hlt]
  rcases findKey_run hK d w es.toList (fun e he => by obtain ⟨i, hi⟩ := mem_at he; obtain ⟨d', hd', _⟩ := h1 i e hi; exact ⟨d', hd'⟩) with ⟨j, e, e1, e2, e3⟩ | ⟨e1, e3⟩
  · have hj : es[j]? = some e := by simpa using e1
    have hm : ∀ i x, (es.modify j fun e' => { e' with key := dk d, val := v })[i]? = some x → (i = j ∧ x.key = dk d ∧ x.val = v) ∨ (i ≠ j ∧ es[i]? = some x) := fun i x hx => by
      rw [Array.getElem?_modify] at hx
      by_cases hij : j = i
      · subst hij; rw [if_pos rfl, hj] at hx; cases hx; exact .inl ⟨rfl, rfl, rfl⟩
      · rw [if_neg hij] at hx; exact .inr ⟨fun e => hij e.symm, hx⟩
    have hne : ∀ i x, i ≠ j → es[i]? = some x → x.key ≠ dk d := fun i x hi hx hk => hi (h3 i j x e hx hj (hk.trans e2.symm))
    refine ⟨{ w with heap := w.heap.setIfInBounds b (.map (es.modify j fun e' => { e' with key := dk d, val := v }) clock) }, ?_, ⟨_, _, hset _, fun i x hx => ?_, fun d' v' hf => ?_, fun i i' x x' hx hx' hk => ?_⟩, hgrow _, by simp⟩
    · simp [Instr.mapUpdate, run_underlying ht, MapKept.run_getObj_map hb, hK.check, e3, hj, e2, stays_dk, MapKept.run_setObj_map _ hb, Result.andThen]
    · rcases hm i x hx with ⟨_, hk, hv⟩ | ⟨hi, hx⟩
      · exact ⟨d, hk, by rw [putD_same, hv]⟩
      · obtain ⟨d', hd', hv⟩ := h1 i x hx
        exact ⟨d', hd', by rw [putD_other v (fun e => hne i x hi hx (by rw [hd', e]))]; exact hv⟩
    · by_cases hd : d' = d
      · subst hd
        exact ⟨j, { e with key := dk d', val := v }, by rw [Array.getElem?_modify, if_pos rfl, hj]; rfl, rfl⟩
      · rw [putD_other v hd] at hf
        obtain ⟨i, x, hx, hk⟩ := h2 d' v' hf
        have hi : i ≠ j := fun e' => by subst e'; rw [hj] at hx; cases hx; exact hd (dk_inj (hk.symm.trans e2))
        exact ⟨i, x, by rw [Array.getElem?_modify, if_neg (fun e => hi e.symm)]; exact hx, hk⟩
    · rcases hm i x hx with ⟨hi, hk1, _⟩ | ⟨hi, hx1⟩ <;> rcases hm i' x' hx' with ⟨hi', hk2, _⟩ | ⟨hi', hx2⟩
      · rw [hi, hi']
      · exact absurd (hk.symm.trans hk1) (hne i' x' hi' hx2)
      · exact absurd (hk.trans hk2) (hne i x hi hx1)
      · exact h3 i i' x x' hx1 hx2 hk
  · have hm : ∀ i x, (es.push { key := dk d, val := v, born := clock })[i]? = some x → (i = es.size ∧ x.key = dk d ∧ x.val = v) ∨ (i < es.size ∧ es[i]? = some x) := fun i x hx => by
      rw [Array.getElem?_push] at hx
      by_cases hij : i = es.size
      · rw [if_pos hij] at hx; cases hx; exact .inl ⟨hij, rfl, rfl⟩
      · rw [if_neg hij] at hx; exact .inr ⟨(Array.getElem?_eq_some_iff.1 hx).1, hx⟩
    have hne : ∀ (i : Nat) x, es[i]? = some x → x.key ≠ dk d := fun i x hx => e1 x (List.mem_of_getElem? (i := i) (by simpa using hx))
    refine ⟨{ w with heap := w.heap.setIfInBounds b (.map (es.push { key := dk d, val := v, born := clock }) (clock + 1)) }, ?_, ⟨_, _, hset _, fun i x hx => ?_, fun d' v' hf => ?_, fun i i' x x' hx hx' hk => ?_⟩, hgrow _, by simp⟩
    · simp [Instr.mapUpdate, run_underlying ht, MapKept.run_getObj_map hb, hK.check, e3, MapKept.run_setObj_map _ hb, Result.andThen]
    · rcases hm i x hx with ⟨_, hk, hv⟩ | ⟨_, hx⟩
      · exact ⟨d, hk, by rw [putD_same, hv]⟩
      · obtain ⟨d', hd', hv⟩ := h1 i x hx
        exact ⟨d', hd', by rw [putD_other v (fun e => hne i x hx (by rw [hd', e]))]; exact hv⟩
    · by_cases hd : d' = d
      · subst hd
        exact ⟨es.size, { key := dk d', val := v, born := clock }, by simp, rfl⟩
      · rw [putD_other v hd] at hf
        obtain ⟨i, x, hx, hk⟩ := h2 d' v' hf
        have hi := (Array.getElem?_eq_some_iff.1 hx).1
        exact ⟨i, x, by rw [Array.getElem?_push, if_neg (by omega)]; exact hx, hk⟩
    · rcases hm i x hx with ⟨hi, hk1, _⟩ | ⟨hi, hx1⟩ <;> rcases hm i' x' hx' with ⟨hi', hk2, _⟩ | ⟨hi', hx2⟩
      · rw [hi, hi']
      · exact absurd (hk.symm.trans hk1) (hne i' x' hx2)
      · exact absurd (hk.trans hk2) (hne i x hx1)
      · exact h3 i i' x x' hx1 hx2 hk
end Go.Proofs.YtlpdomgedaockaaGreatDoor
