import Derived.Test.YtiaedjnedoemoabDoorWithout
import Derived.Test.YtiaedjnedoemoabDoorPastOwn
namespace Go.Proofs.YtiaedjnedoemoabDoor
open Go.RowKit Go.Shelf

attribute [local go_sem] Oper.semAt_some

/-- Blocks that are kept. -/
def KeptOn (Kb : Side) (W W' : World) : Prop := ∀ b, Kb b → W'.heap[b]? = W.heap[b]?
theorem KeptOn.refl (Kb : Side) (W : World) : KeptOn Kb W W := fun _ _ => rfl
theorem KeptOn.trans {Kb : Side} {A B C : World} (h : KeptOn Kb A B) (k : KeptOn Kb B C) : KeptOn Kb A C := fun b hb => (k b hb).trans (h b hb)

set_option maxRecDepth 100000 in
set_option maxHeartbeats 2000000 in
theorem without1_in (l Bs Bo : Nat) (a1 : Option Addr) (cs : Nat) (s : List Nat) (ao : Option Addr) (co : Nat) (o : List Nat) (Kb : Side) (J Jx : List Nat → World → Prop) (W : World)
    (hY : ∀ pre x W1, J pre W1 → pre.length < (allW s o s.length).length → YieldAt Fence.wide (3 - 1) Tryd.prog l #[.int .i64 (x : Nat)] W1 fun e W' => (e = .returned (.bool true) ∧ J (pre ++ [x]) W' ∧ KeptOn Kb W1 W') ∨ (e = .returned (.bool false) ∧ Jx (pre ++ [x]) W'))
    (hBs : W.cell? ⟨Bs, 0, none⟩ = some (.slice a1 s.length cs)) (hBo : W.cell? ⟨Bo, 0, none⟩ = some (.slice ao o.length co)) (hk2 : Kb Bo) (hk3 : ∀ b, a1 = some b → Kb b.block) (hk4 : ∀ b, ao = some b → Kb b.block) (hk5 : Kb 0)
    (hs : SetR W a1 s) (ho : SetR W ao o) (hsb : ∀ x, x ∈ s → x < 18446744073709551616) (hsl : s.length ≤ 1048576) (_hol : o.length ≤ 1048576) (hT : Tab W) (h0 : J [] W) :
    CallsIn Fence.wide 3 Tryd.prog 43 #[.func (.yield l) #[] #[], .pointer (some ⟨Bs, 0, none⟩), .pointer (some ⟨Bo, 0, none⟩)] W fun e W' => (∃ v, e = .returned v) ∧
      ((∃ ys, ys = allW s o s.length ∧ J ys W') ∨ (∃ pre, (∃ R, allW s o s.length = pre ++ R) ∧ Jx pre W')) := by
  refine callsIn_of_wp Tryd.func43 rfl trivial ?_ rfl
  simp only [Tryd.ntmps43, List.size_toArray, List.length_cons, List.length_nil, Nat.reduceAdd, Nat.reduceSub, Array.replicate_succ, Array.replicate_zero, List.push_toArray, List.append_toArray, List.nil_append, List.cons_append]
  obtain ⟨n, hn⟩ : ∃ n, s.length = n := ⟨_, rfl⟩
  obtain ⟨m, hm⟩ : ∃ m, o.length = m := ⟨_, rfl⟩
  have Hn := hide' hn
  have Hm := hide' hm
  rw [hn] at hBs hsl hY ⊢
  rw [hm] at hBo _hol
  clear hn hm
  have hcell : Hid (∀ (wr : World), KeptOn Kb W wr → ∀ b x, Kb b → wr.cell? ⟨b, x, none⟩ = W.cell? ⟨b, x, none⟩) := fun wr hk b x hb => World.cell?_of_block (w := W) (a := ⟨b, x, none⟩) (hk b hb)
  gi_wp2
  gi_loopw [8] (fun i wr => ∃ k : Nat, k ≤ n ∧ i = .int .i64 k ∧ J (allW s o k) wr ∧ KeptOn Kb W wr) (fun i _ => n - (intOf i).toNat)
  case atStart => exact ⟨0, Nat.zero_le _, rfl, h0, KeptOn.refl _ _⟩
  case round =>
    obtain ⟨k, hk, rfl, hJs, hkp⟩ := hrel
    by_cases hlt : k < n
    · obtain ⟨b, off, rfl, hbl, hc⟩ := hs k (by have := Hn.out; omega)
      have hc' := (hcell.out wr hkp b (off + k) (hk3 _ rfl)).trans hc
      have hbo := (hcell.out wr hkp Bo 0 hk2).trans hBo
      obtain ⟨x, hx⟩ : ∃ x, Hid (s.getD k 0 = x) := ⟨_, rfl⟩
      rw [hx.out] at hc'
      unfold encU at hc'
      have hxl : x < 18446744073709551616 := by rw [← hx.out, getDN_eq (by have := Hn.out; omega)]; exact hsb _ (List.getElem_mem _)
      obtain ⟨y, hy⟩ : ∃ y, Hid (diffN (s.getD k 0) (o.getD k 0) = y) := ⟨_, rfl⟩
      have hyl : y < 18446744073709551616 := by rw [← hy.out]; exact diffN_lt _ _
      obtain ⟨wo, hwo⟩ : ∃ z, z = wr := ⟨wr, rfl⟩
      subst hwo
      have hinner : Hid (∃ R, allW s o n = allW s o k ++ (bl y).map (fun b => 64 * k + b) ++ R) := by
        obtain ⟨R, hR⟩ := allW_split s o (k + 1) n (by omega)
        exact ⟨R, by rw [hR, allW_succ, hy.out]⟩
      by_cases hko : k < m
      · obtain ⟨b2, off2, rfl, hbl2, hc2⟩ := ho k (by have := Hm.out; omega)
        have hc2' := (hcell.out wo hkp b2 (off2 + k) (hk4 _ rfl)).trans hc2
        obtain ⟨z, hz⟩ : ∃ z, Hid (o.getD k 0 = z) := ⟨_, rfl⟩
        rw [hz.out] at hc2'
        unfold encU at hc2'
        have hval : bits BinOp.andNot IntKind.u64 (x : Int) (z : Int) = (y : Int) := by rw [bits_andNot, ← hy.out, hx.out, hz.out]
        gi_wp2
        gi_loopw [5] (fun u w1 => ∃ (x' : Nat) (dn : List Nat), u = .int .u64 x' ∧ x' < 18446744073709551616 ∧ Hid (bl y = dn ++ bl x') ∧ J (allW s o k ++ dn.map (fun b => 64 * k + b)) w1 ∧ KeptOn Kb W w1) (fun u _ => (intOf u).toNat)
        case atStart => exact ⟨y, [], rfl, hyl, rfl, by simpa using hJs, hkp⟩
        case round =>
          obtain ⟨x', dn, rfl, hxl', hbl', hJi, hki⟩ := hrel
          by_cases hz0 : x' = 0
          · subst hz0
            have hfin : Hid (J (allW s o (k + 1)) wr) := by
              unfold Hid
              rw [allW_succ, hy.out, hbl'.out, bl_zero, List.append_nil]; exact hJi
            clear hJi
            gi_wp2
            go_roundw
            case rel => exact ⟨k + 1, by omega, by go_num, hfin.out, hki⟩
            case measure => simp [intOf]; omega
          · have hx0 : 0 < x' := by omega
            have hT' : Tab wr := fun j hj => (hcell.out wr hki 0 j hk5).trans (hT j hj)
            have htz := tz_any x' hx0 hxl' wr hT'
            have hnext := bl_next hx0 hxl'
            have hc64 := (low_bits hx0 hxl').1
            obtain ⟨c, hcq⟩ : ∃ c, Lib.ctz 64 x' = c := ⟨_, rfl⟩
            rw [hcq] at htz hnext hc64
            have Htz := hide' htz
            have Hnext := hide' hnext
            have hplen : (allW s o k ++ dn.map (fun b => 64 * k + b)).length < (allW s o n).length := by
              obtain ⟨R, hR⟩ := hinner.out
              rw [hR, hbl'.out, hnext]; simp only [List.length_append, List.length_map, List.length_cons]; omega
            have hY2 : YieldAt Fence.wide (3 - 1) Tryd.prog l #[.int .i64 ((k : Int) * 64 + (c : Int))] wr fun e W' => ∃ bb, e = .returned (.bool bb) ∧ ((bb = true ∧ J (allW s o k ++ dn.map (fun b => 64 * k + b) ++ [64 * k + c]) W' ∧ KeptOn Kb wr W') ∨ (bb = false ∧ Jx (allW s o k ++ dn.map (fun b => 64 * k + b) ++ [64 * k + c]) W')) := by
              have h := hY _ (64 * k + c) wr hJi hplen
              rw [show ((64 * k + c : Nat) : Int) = (k : Int) * 64 + (c : Int) by omega] at h
              exact h.mono fun e W' h => h.elim (fun h => ⟨true, h.1, .inl ⟨rfl, h.2⟩⟩) (fun h => ⟨false, h.1, .inr ⟨rfl, h.2⟩⟩)
            obtain ⟨fn, tmps, assign, body, hyr, hR⟩ := hY2
            have hne : ((x' : Int) != 0) = true := by rw [bne_iff_ne]; omega
            have hw1 : IntKind.u64.wrap ((x' : Int) - 1) = ((x' - 1 : Nat) : Int) := by rw [IntKind.wrap_u64]; omega
            have hv2 : bits BinOp.and IntKind.u64 (x' : Int) ((x' - 1 : Nat) : Int) = ((x' &&& (x' - 1) : Nat) : Int) := bits_and hxl' (by omega)
            have hpre : Hid (∃ R, allW s o n = allW s o k ++ dn.map (fun b => 64 * k + b) ++ [64 * k + c] ++ R) := by
              obtain ⟨R, hR⟩ := hinner.out
              refine ⟨(bl (x' &&& (x' - 1))).map (fun b => 64 * k + b) ++ R, ?_⟩
              rw [hR, hbl'.out, Hnext.out]; simp
            clear htz hnext hcq hJi hplen
            gi_wp2_with (refine ⟨trivial, ?_⟩; gi_at_call 44; refine (callsIn_wide.2 Htz.out).mono ?_; rintro e w' ⟨rfl, rfl⟩)
            refine hR.mono ?_
            clear hR hyr
            rintro e W3 ⟨bb, rfl, ⟨rfl, hJ3, hk3⟩ | ⟨rfl, hJx3⟩⟩
            · gi_wp2
              go_roundw
              case rel => exact ⟨x' &&& (x' - 1), dn ++ [c], rfl, Nat.lt_of_le_of_lt Nat.and_le_left hxl', by unfold Hid; rw [hbl'.out, Hnext.out]; simp, by rw [List.map_append, ← List.append_assoc]; exact hJ3, hki.trans hk3⟩
              case measure => have := Nat.and_le_right (n := x') (m := x' - 1); simp [intOf]; omega
            · gi_wp2
              refine bodyPost_ret (results_none rfl _ _ _) rfl ?_
              exact ⟨⟨_, rfl⟩, .inr ⟨_, hpre.out, hJx3⟩⟩
      · have hxy : Hid (x = y) := by
          have : o.getD k 0 = 0 := getDN_past (by have := Hm.out; omega)
          unfold Hid; rw [← hy.out, this, hx.out, diffN_zero hxl]
        have hyx : y = x := hxy.out.symm
        clear hxy
        subst hyx
        gi_wp2
        gi_loopw [5] (fun u w1 => ∃ (x' : Nat) (dn : List Nat), u = .int .u64 x' ∧ x' < 18446744073709551616 ∧ Hid (bl y = dn ++ bl x') ∧ J (allW s o k ++ dn.map (fun b => 64 * k + b)) w1 ∧ KeptOn Kb W w1) (fun u _ => (intOf u).toNat)
        case atStart => exact ⟨y, [], rfl, hyl, rfl, by simpa using hJs, hkp⟩
        case round =>
          obtain ⟨x', dn, rfl, hxl', hbl', hJi, hki⟩ := hrel
          by_cases hz0 : x' = 0
          · subst hz0
            have hfin : Hid (J (allW s o (k + 1)) wr) := by
              unfold Hid
              rw [allW_succ, hy.out, hbl'.out, bl_zero, List.append_nil]; exact hJi
            clear hJi
            gi_wp2
            go_roundw
            case rel => exact ⟨k + 1, by omega, by go_num, hfin.out, hki⟩
            case measure => simp [intOf]; omega
          · have hx0 : 0 < x' := by omega
            have hT' : Tab wr := fun j hj => (hcell.out wr hki 0 j hk5).trans (hT j hj)
            have htz := tz_any x' hx0 hxl' wr hT'
            have hnext := bl_next hx0 hxl'
            have hc64 := (low_bits hx0 hxl').1
            obtain ⟨c, hcq⟩ : ∃ c, Lib.ctz 64 x' = c := ⟨_, rfl⟩
            rw [hcq] at htz hnext hc64
            have Htz := hide' htz
            have Hnext := hide' hnext
            have hplen : (allW s o k ++ dn.map (fun b => 64 * k + b)).length < (allW s o n).length := by
              obtain ⟨R, hR⟩ := hinner.out
              rw [hR, hbl'.out, hnext]; simp only [List.length_append, List.length_map, List.length_cons]; omega
            have hY2 : YieldAt Fence.wide (3 - 1) Tryd.prog l #[.int .i64 ((k : Int) * 64 + (c : Int))] wr fun e W' => ∃ bb, e = .returned (.bool bb) ∧ ((bb = true ∧ J (allW s o k ++ dn.map (fun b => 64 * k + b) ++ [64 * k + c]) W' ∧ KeptOn Kb wr W') ∨ (bb = false ∧ Jx (allW s o k ++ dn.map (fun b => 64 * k + b) ++ [64 * k + c]) W')) := by
              have h := hY _ (64 * k + c) wr hJi hplen
              rw [show ((64 * k + c : Nat) : Int) = (k : Int) * 64 + (c : Int) by omega] at h
              exact h.mono fun e W' h => h.elim (fun h => ⟨true, h.1, .inl ⟨rfl, h.2⟩⟩) (fun h => ⟨false, h.1, .inr ⟨rfl, h.2⟩⟩)
            obtain ⟨fn, tmps, assign, body, hyr, hR⟩ := hY2
            have hne : ((x' : Int) != 0) = true := by rw [bne_iff_ne]; omega
            have hw1 : IntKind.u64.wrap ((x' : Int) - 1) = ((x' - 1 : Nat) : Int) := by rw [IntKind.wrap_u64]; omega
            have hv2 : bits BinOp.and IntKind.u64 (x' : Int) ((x' - 1 : Nat) : Int) = ((x' &&& (x' - 1) : Nat) : Int) := bits_and hxl' (by omega)
            have hpre : Hid (∃ R, allW s o n = allW s o k ++ dn.map (fun b => 64 * k + b) ++ [64 * k + c] ++ R) := by
              obtain ⟨R, hR⟩ := hinner.out
              refine ⟨(bl (x' &&& (x' - 1))).map (fun b => 64 * k + b) ++ R, ?_⟩
              rw [hR, hbl'.out, Hnext.out]; simp
            clear htz hnext hcq hJi hplen
            gi_wp2_with (refine ⟨trivial, ?_⟩; gi_at_call 44; refine (callsIn_wide.2 Htz.out).mono ?_; rintro e w' ⟨rfl, rfl⟩)
            refine hR.mono ?_
            clear hR hyr
            rintro e W3 ⟨bb, rfl, ⟨rfl, hJ3, hk3⟩ | ⟨rfl, hJx3⟩⟩
            · gi_wp2
              go_roundw
              case rel => exact ⟨x' &&& (x' - 1), dn ++ [c], rfl, Nat.lt_of_le_of_lt Nat.and_le_left hxl', by unfold Hid; rw [hbl'.out, Hnext.out]; simp, by rw [List.map_append, ← List.append_assoc]; exact hJ3, hki.trans hk3⟩
              case measure => have := Nat.and_le_right (n := x') (m := x' - 1); simp [intOf]; omega
            · gi_wp2
              refine bodyPost_ret (results_none rfl _ _ _) rfl ?_
              exact ⟨⟨_, rfl⟩, .inr ⟨_, hpre.out, hJx3⟩⟩
    · obtain rfl : k = n := by omega
      gi_wp2
      go_end0
      exact ⟨⟨_, rfl⟩, .inl ⟨_, rfl, hJs⟩⟩

set_option maxHeartbeats 1000000 in
/-- without: both sets are boxed; the function value captures the boxes. -/
theorem without_in (m : Nat) (a : Option Addr) (n cap : Nat) (a' : Option Addr) (n' cap' : Nat) (w : World) :
    CallsIn Fence.wide m Tryd.prog 24 #[.slice a n cap, .slice a' n' cap'] w fun e w' =>
      e = .returned (.func (.func 43) #[] #[.pointer (some ⟨w.heap.size, 0, none⟩), .pointer (some ⟨w.heap.size + 1, 0, none⟩)]) ∧ w' = (w.alloc (.cells #[.slice a n cap] 67)).alloc (.cells #[.slice a' n' cap'] 67) := by
  refine callsIn_of_wp Tryd.func24 rfl trivial ?_ rfl
  simp only [Tryd.ntmps24, List.size_toArray, List.length_cons, List.length_nil, Nat.reduceAdd, Nat.reduceSub, Array.replicate_succ, Array.replicate_zero, List.push_toArray, List.append_toArray, List.nil_append, List.cons_append]
  gi_wp2
  go_ret
  exact ⟨by simp, rfl⟩

/-- What without ranges over. -/
theorem without_stops (Bs Bo : Nat) (a1 : Option Addr) (cs : Nat) (s : List Nat) (ao : Option Addr) (co : Nat) (o : List Nat) (Kb : Side) (w : World) (hKb : ∀ b, Kb b → b < w.heap.size)
    (hBs : w.cell? ⟨Bs, 0, none⟩ = some (.slice a1 s.length cs)) (hBo : w.cell? ⟨Bo, 0, none⟩ = some (.slice ao o.length co)) (hk1 : Kb Bs) (hk2 : Kb Bo) (hk3 : ∀ b, a1 = some b → Kb b.block) (hk4 : ∀ b, ao = some b → Kb b.block) (hk5 : Kb 0)
    (hs : SetR w a1 s) (ho : SetR w ao o) (hsb : ∀ x, x ∈ s → x < 18446744073709551616) (hsl : s.length ≤ 1048576) (hol : o.length ≤ 1048576) (hT : Tab w) :
    SeqStopsK Fence.wide 3 Tryd.prog 43 #[.pointer (some ⟨Bs, 0, none⟩), .pointer (some ⟨Bo, 0, none⟩)] (fun x : Nat => #[Value.int .i64 (x : Int)]) (KeptOn Kb) (fun ys => ys = allW s o s.length) (fun pre => ∃ R, allW s o s.length = pre ++ R) (allW s o s.length).length w :=
  fun l J Jx W hW _ _ hY h0 => without1_in l Bs Bo a1 cs s ao co o Kb J Jx W hY ((hW.cell (p := ⟨Bs, 0, none⟩) (hKb _ hk1)).trans hBs) ((hW.cell (p := ⟨Bo, 0, none⟩) (hKb _ hk2)).trans hBo) hk2 hk3 hk4 hk5
    (hs.kept hW.size fun b hb => hW.block _ (hKb _ (hk3 b hb))) (ho.kept hW.size fun b hb => hW.block _ (hKb _ (hk4 b hb))) hsb hsl hol (fun j hj => (hW.cell (p := ⟨0, j, none⟩) (hKb _ hk5)).trans (hT j hj)) h0
end Go.Proofs.YtiaedjnedoemoabDoor
