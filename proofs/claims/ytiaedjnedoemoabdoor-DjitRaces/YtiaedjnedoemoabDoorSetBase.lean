import Derived.Test.YtiaedjnedoemoabDoorChecked
import Derived.Test.YtiaedjnedoemoabDoorZeros
import Derived.WalkKit
import Derived.ProofKit
namespace Go.Proofs.YtiaedjnedoemoabDoor
open Go.RowKit

/-- A word of a set, as a value. -/
def encU (x : Nat) : Value := .int .u64 (x : Int)

/-- The words that a slice leads to. -/
def SetR (w : World) (a : Option Addr) (ws : List Nat) : Prop :=
  ∀ i, i < ws.length → ∃ b off, a = some ⟨b, off, none⟩ ∧ b < w.heap.size ∧ w.cell? ⟨b, off + i, none⟩ = some (encU (ws.getD i 0))

/-- The bit n of a set. -/
def bitOf (ws : List Nat) (n : Nat) : Bool := (ws.getD (n / 64) 0).testBit (n % 64)


theorem wrap_u64_small {x : Nat} (h : x < 18446744073709551616) : IntKind.u64.wrap (x : Int) = (x : Int) := by rw [IntKind.wrap_u64]; omega
theorem ofInt_nat (x : Nat) : BitVec.ofInt IntKind.u64.bits (x : Int) = BitVec.ofNat 64 x := by
  show BitVec.ofInt 64 (x : Int) = BitVec.ofNat 64 x
  exact BitVec.ofInt_natCast 64 x
theorem bits_and {x y : Nat} (hx : x < 18446744073709551616) (hy : y < 18446744073709551616) : bits .and .u64 (x : Int) (y : Int) = ((x &&& y : Nat) : Int) := by
  have h : (BitVec.ofNat 64 x &&& BitVec.ofNat 64 y).toNat = x &&& y := by
    rw [BitVec.toNat_and, BitVec.toNat_ofNat, BitVec.toNat_ofNat, Nat.mod_eq_of_lt hx, Nat.mod_eq_of_lt hy]
  have hl : x &&& y < 18446744073709551616 := Nat.lt_of_le_of_lt Nat.and_le_left hx
  simp only [bits, ofInt_nat]
  exact (congrArg (fun n : Nat => IntKind.u64.wrap (n : Int)) h).trans (wrap_u64_small hl)
theorem bits_or {x y : Nat} (hx : x < 18446744073709551616) (hy : y < 18446744073709551616) : bits .or .u64 (x : Int) (y : Int) = ((x ||| y : Nat) : Int) := by
  have h : (BitVec.ofNat 64 x ||| BitVec.ofNat 64 y).toNat = x ||| y := by
    rw [BitVec.toNat_or, BitVec.toNat_ofNat, BitVec.toNat_ofNat, Nat.mod_eq_of_lt hx, Nat.mod_eq_of_lt hy]
  have hl : x ||| y < 18446744073709551616 := Nat.or_lt_two_pow (n := 64) hx hy
  simp only [bits, ofInt_nat]
  exact (congrArg (fun n : Nat => IntKind.u64.wrap (n : Int)) h).trans (wrap_u64_small hl)

theorem hide' {p : Prop} (h : p) : Hid p := h
theorem retb {a b : Bool} (h : a = b) : Ending.returned (.bool a) = .returned (.bool b) := by rw [h]
theorem and_one (x : Nat) : x &&& 1 = x % 2 := Nat.and_one_is_mod x

/-- A set that is longer by zeros. -/
def wordsL (ws : List Nat) (n : Nat) : List Nat := ws ++ List.replicate (n - ws.length) 0
theorem wordsL_len (ws : List Nat) (n : Nat) : (wordsL ws n).length = max ws.length n := by simp [wordsL]; omega
theorem wordsL_getD (ws : List Nat) (n i : Nat) : (wordsL ws n).getD i 0 = ws.getD i 0 := by
  unfold wordsL
  by_cases hi : i < ws.length
  · simp [List.getElem?_append_left hi]
  · rw [List.getD_eq_getElem?_getD, List.getD_eq_getElem?_getD, List.getElem?_append_right (by omega), List.getElem?_replicate, List.getElem?_eq_none (by omega : ws.length ≤ i)]
    split <;> rfl
theorem wordsL_mem {ws : List Nat} {n x : Nat} (h : x ∈ wordsL ws n) : x ∈ ws ∨ x = 0 := by
  rcases List.mem_append.1 h with h | h
  · exact .inl h
  · exact .inr (List.eq_of_mem_replicate h)

theorem Tryd.infoU : (Tryd.prog.info? 99).map (fun i => (i.zero, i.size, i.bytes)) = some (some (.int .u64 0), 1, 8) := by kernel_rfl

theorem map_encU {ws : List Nat} {i : Nat} (h : i < ws.length) : (ws.map encU)[i]? = some (encU (ws.getD i 0)) := by simp [h]

/-- A set that is owned. -/
def SetO (B : Nat) (w : World) (v : Value) (ws : List Nat) : Prop := w.ownsRow B 99 1 v ws.length (ws.map encU) ∧ ∀ x, x ∈ ws → x < 18446744073709551616

theorem SetO.parts {B : Nat} {w : World} {v : Value} {ws : List Nat} (h : SetO B w v ws) : ∃ a cap, v = .slice a ws.length cap ∧ ws.length ≤ cap ∧ cap ≤ 9223372036854775807 ∧ SetR w a ws := by
  rcases h.1.2 with ⟨rfl, h0⟩ | ⟨g, cap, cur, rfl, hB, hg, hc, hm, _, _⟩
  · exact ⟨none, 0, by rw [h0], by omega, by omega, fun i hi => absurd hi (by omega)⟩
  · refine ⟨_, cap, rfl, hc, hm, fun i hi => ⟨g, 0, rfl, (Array.getElem?_eq_some_iff.1 hg).1, ?_⟩⟩
    rw [Nat.zero_add, h.1.cellAt i (by omega)]
    simp [hi]

theorem setO_pos {B : Nat} {w : World} {v : Value} {ws : List Nat} (h : SetO B w v ws) (h0 : 0 < ws.length) : ∃ g c, v = .slice (some ⟨g, 0, none⟩) ws.length c ∧ B ≤ g ∧ ws.length ≤ c ∧ c ≤ 9223372036854775807 := by
  rcases h.1.2 with ⟨_, h1⟩ | ⟨g, cap, cur, rfl, hb, _, hc, hm, _, _⟩
  · omega
  · exact ⟨g, cap, rfl, hb, hc, hm⟩

set_option maxRecDepth 100000 in
set_option maxHeartbeats 400000 in
theorem words_any (B : Nat) (v : Value) (ws : List Nat) (n : Nat) (w : World) (hB : B ≤ w.heap.size) (h : SetO B w v ws) (hn : n ≤ 1048576) :
    Calls Tryd.prog 45 #[v, .int .i64 n] w fun e w' => ∃ v', e = .returned v' ∧ SetO B w' v' (wordsL ws n) ∧ w.grownBy w' v.ownBlock ∧ (v'.ownBlock = v.ownBlock ∨ (v'.ownBlock = some w.heap.size ∧ w.grownBy w' none)) ∧ (n ≤ ws.length → w' = w ∧ v' = v) := by
  obtain ⟨i0, hi, hz0, hz1, hz2⟩ := info_parts Tryd.infoU
  obtain ⟨k, hk⟩ : ∃ k, ws.length = k := ⟨_, rfl⟩
  obtain ⟨a, cap, rfl, hc, hm, hr⟩ := h.parts
  have hown := h.1
  rw [hk] at hown hc h ⊢
  clear hr
  by_cases hle : n ≤ k
  · have e : wordsL ws n = ws := by unfold wordsL; rw [Nat.sub_eq_zero_of_le (by omega)]; simp
    rw [e]
    go_enter Tryd.func45, Tryd.ntmps45
    go_wp2
    go_ret
    exact ⟨_, rfl, h, ⟨rfl, rfl, rfl, Nat.le_refl _, fun _ _ _ => rfl⟩, .inl rfl, fun _ => ⟨rfl, rfl⟩⟩
  · obtain ⟨m, hm⟩ : ∃ m, n = k + m := ⟨n - k, by omega⟩
    have hm0 : 0 < m := by omega
    have hnum : ((n : Int) - (k : Int)) = (m : Int) := by omega
    have hbb : (k + m) * 8 ≤ 140737488355328 := by omega
    have hml : k + m ≤ maxLen := by unfold maxLen; omega
    have hfin : Hid (∀ (v' : Value) (w' : World), w'.ownsRow B 99 1 v' (k + m) (ws.map encU ++ List.replicate m (.int .u64 0)) → SetO B w' v' (wordsL ws n)) := by
      intro v' w' ho
      refine ⟨?_, fun x hx => (wordsL_mem hx).elim (h.2 x) (fun e => by omega)⟩
      rw [wordsL_len, show max ws.length n = k + m by omega, wordsL, List.map_append, List.map_replicate, show n - ws.length = m by omega]
      exact ho
    clear hm h
    go_enter Tryd.func45, Tryd.ntmps45
    go_wp2_with (at_builtin; refine wpList_append_zeros_own _ rfl _ _ 67 3 rfl B 99 i0 (.int .u64 0) 8 Tryd.underlying67 Tryd.underlying3 hi hz0 hz1 hz2 rfl rfl _ k _ rfl hown m rfl hm0 hml hbb hB ?_; intro v' w1 hown' hgrow hblk)
    go_ret
    exact ⟨v', rfl, hfin.out _ _ hown', hgrow, hblk, fun h => absurd h hle⟩

/-- A set with n in it. -/
def withL (ws : List Nat) (n : Nat) : List Nat := (wordsL ws (n / 64 + 1)).set (n / 64) (ws.getD (n / 64) 0 ||| 2 ^ (n % 64))
theorem withL_len (ws : List Nat) (n : Nat) : (withL ws n).length = max ws.length (n / 64 + 1) := by rw [withL, List.length_set, wordsL_len]

theorem grownBy_trans {w w1 w2 : World} {r r' : Option Nat} (h : w.grownBy w1 r) (h' : w1.grownBy w2 r') (hr : ∀ g, r' = some g → r = some g ∨ w.heap.size ≤ g) : w.grownBy w2 r :=
  ⟨h'.os.trans h.os, h'.tape.trans h.tape, h'.output.trans h.output, Nat.le_trans h.size h'.size, fun k hk hne => by
    have := h.size
    refine (h'.block k (by omega) (fun e => ?_)).trans (h.block k hk hne)
    rcases hr k e.symm with h1 | h1
    · exact hne h1.symm
    · omega⟩

set_option maxRecDepth 100000 in
set_option maxHeartbeats 400000 in
theorem with_any (B : Nat) (v : Value) (ws : List Nat) (n : Nat) (w : World) (hB : B ≤ w.heap.size) (h : SetO B w v ws) (hn : n ≤ 1048576) (hlen : ws.length ≤ 1048576) :
    Calls Tryd.prog 26 #[v, .int .i64 n] w fun e w' => ∃ v', e = .returned v' ∧ SetO B w' v' (withL ws n) ∧ w.grownBy w' v.ownBlock ∧ (v'.ownBlock = v.ownBlock ∨ (v'.ownBlock = some w.heap.size ∧ w.grownBy w' none)) := by
  obtain ⟨q, r, hr, rfl⟩ : ∃ q r, r < 64 ∧ n = 64 * q + r := ⟨n / 64, n % 64, Nat.mod_lt _ (by decide), (Nat.div_add_mod n 64).symm⟩
  have e1 : (64 * q + r) / 64 = q := by omega
  have e2 : (64 * q + r) % 64 = r := by omega
  have hW := words_any B v ws (q + 1) w hB h (by omega)
  have hcast : (((q + 1 : Nat)) : Int) = (q : Int) + 1 := by simp
  rw [hcast] at hW
  have hwl : withL ws (64 * q + r) = (wordsL ws (q + 1)).set q (ws.getD q 0 ||| 2 ^ r) := by unfold withL; rw [e1, e2]
  rw [hwl]
  obtain ⟨us, hus⟩ : ∃ us, wordsL ws (q + 1) = us := ⟨_, rfl⟩
  have hul : Hid (us.length = max ws.length (q + 1)) := by rw [← hus]; exact wordsL_len _ _
  have hlt : q < us.length := by have := hul.out; omega
  have hul8 : us.length ≤ 1048577 := by have := hul.out; omega
  have hgd : ws.getD q 0 = us.getD q 0 := by rw [← hus, wordsL_getD]
  rw [hgd]
  rw [hus] at hW ⊢
  obtain ⟨x, hx⟩ : ∃ x, Hid (us.getD q 0 = x) := ⟨_, rfl⟩
  rw [hx.out]
  clear hwl hgd hcast h hus
  have i1 : (64 * (q : Int) + (r : Int)) / 64 = (q : Int) := by omega
  have i2 : (64 * (q : Int) + (r : Int)) % 64 = (r : Int) := by omega
  go_enter Tryd.func26, Tryd.ntmps26
  go_wp2_with (go_at_call 45; refine hW.mono ?_; clear hW; rintro e w1 ⟨v1, rfl, hS1, hg1, hb1, -⟩; obtain ⟨g, c1, rfl, -, hc2, hc3⟩ := setO_pos hS1 (by omega); have hcell := (hS1.1.cellAt q (by omega)).trans (map_encU hlt); have hfr := hS1.1.frozenAt q)
  rw [hx.out] at hcell
  unfold encU at hcell
  have hmix : Tryd.prog.follows Departure.mixedOrders = true := by kernel_rfl
  have hxl : x < 18446744073709551616 := by
    rw [← hx.out]; exact hS1.2 _ (by rw [List.getD_eq_getElem?_getD, List.getElem?_eq_getElem hlt]; exact List.getElem_mem _)
  have hpl : 2 ^ r < 18446744073709551616 := Nat.pow_lt_pow_right (by decide) hr
  have hol : x ||| 2 ^ r < 18446744073709551616 := Nat.or_lt_two_pow (n := 64) hxl hpl
  have hval : bits BinOp.or IntKind.u64 (x : Int) (IntKind.u64.wrap (2 ^ r)) = ((x ||| 2 ^ r : Nat) : Int) := by
    have e3 : ((2 : Int) ^ r) = ((2 ^ r : Nat) : Int) := by simp
    rw [e3, wrap_u64_small hpl, bits_or hxl hpl]
  have hst := hS1.1.stored q (encU (x ||| 2 ^ r))
  have hfin : Hid (SetO B (w1.setCell ⟨g, q, none⟩ (encU (x ||| 2 ^ r))).drew (.slice (some ⟨g, 0, none⟩) us.length c1) (us.set q (x ||| 2 ^ r)) ∧ w.grownBy (w1.setCell ⟨g, q, none⟩ (encU (x ||| 2 ^ r))).drew v.ownBlock ∧
      (Value.ownBlock (.slice (some ⟨g, 0, none⟩) us.length c1) = v.ownBlock ∨ (Value.ownBlock (.slice (some ⟨g, 0, none⟩) us.length c1) = some w.heap.size ∧ w.grownBy (w1.setCell ⟨g, q, none⟩ (encU (x ||| 2 ^ r))).drew none))) := by
    refine ⟨⟨?_, fun y hy => ?_⟩, ?_, ?_⟩
    · rw [List.length_set, List.map_set]; exact hst.1
    · rcases List.mem_or_eq_of_mem_set hy with h1 | h1
      · exact hS1.2 y h1
      · omega
    · have hgs := grownBy_trans hg1 hst.2 (fun g' e => by
        cases e
        rcases hb1 with h1 | ⟨h1, _⟩
        · exact .inl (h1.symm.trans rfl)
        · cases h1; exact .inr (Nat.le_refl _))
      exact ⟨hgs.os, hgs.tape, hgs.output, hgs.size, hgs.block⟩
    · rcases hb1 with h1 | ⟨h1, h2⟩
      · exact .inl h1
      · refine .inr ⟨h1, ?_⟩
        have hgs := grownBy_trans h2 hst.2 (fun g' e => by cases e; cases h1; exact .inr (Nat.le_refl _))
        exact ⟨hgs.os, hgs.tape, hgs.output, hgs.size, hgs.block⟩
  have Hv := hide' hval
  clear hst hval
  go_big_region
  rw [Hv.out]
  go_wp2
  go_ret
  exact ⟨_, rfl, hfin.out.1, hfin.out.2.1, hfin.out.2.2⟩
end Go.Proofs.YtiaedjnedoemoabDoor
