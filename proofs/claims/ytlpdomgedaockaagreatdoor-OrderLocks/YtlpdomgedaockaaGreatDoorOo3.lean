import Derived.Test.YtlpdomgedaockaaGreatDoorOo2
import Derived.RangeFuncNested
import Derived.RangeFuncBound
import Derived.RangeFuncCalls
import Derived.RangeFuncLeaves
import Derived.Shelf.Abstract
import Derived.Shelf.RegionOpen
import Derived.WalkKit
import Derived.OwnWalkIn
import Derived.TacticsInMore
import Derived.LoopNIn
import Derived.LoopIn
import Derived.Maps.OwnIn
set_option linter.unusedVariables false
set_option linter.unusedSimpArgs false
namespace Go.Proofs.YtlpdomgedaockaaGreatDoor
open Go.RowKit Go.Shelf Go.Proofs.Ord
attribute [local go_sem] Oper.semAt_some
theorem Mid.iff {K B : Nat} {v0 : Value} {Wb w2 : World} {p : Value} {ws : List Nat} {P P' : Nat → Prop} (h : Mid K B v0 Wb w2 p ws P) (hp : ∀ i, i < K → (P i ↔ P' i)) : Mid K B v0 Wb w2 p ws P' := ⟨h.grew, h.past, h.holds.iff hp, h.blk, h.under⟩
theorem inDoors_len (e : Ev) : (inDoors e).length ≤ 2 := by
  unfold inDoors
  split
  · simp
  · split
    · simp
    · split <;> simp
theorem take_succ_mem {ds : List (Int × Int)} {j : Nat} (hj : j < ds.length) (p : Int × Int → Prop) : (∃ d, d ∈ ds.take (j + 1) ∧ p d) ↔ (∃ d, d ∈ ds.take j ∧ p d) ∨ p (ds.getD j (0, 0)) := by
  have e : ds.take (j + 1) = ds.take j ++ [ds.getD j (0, 0)] := by rw [List.take_add_one]; simp [hj]
  rw [e]
  constructor
  · rintro ⟨d, hd, hp⟩
    rcases List.mem_append.1 hd with h | h
    · exact .inl ⟨d, h, hp⟩
    · exact .inr (by rw [List.mem_singleton.1 h] at hp; exact hp)
  · rintro (⟨d, hd, hp⟩ | h)
    · exact ⟨d, List.mem_append_left _ hd, hp⟩
    · exact ⟨_, List.mem_append_right _ (List.mem_singleton.2 rfl), h⟩
theorem zero_set (w : World) : (zeroValue 79).run Tryz.prog w = .ok (.slice none 0 0) w := by kernel_rfl
set_option maxRecDepth 100000 in
set_option maxHeartbeats 2000000 in
theorem pasts1_in (l Bl Bk n K : Nat) (a : Option Addr) (cap : Nat) (es : List Ev) (J Jx : List (Nat × Value) → Side → World → Prop) (W : World) (hJ : Stable J) (hin : ∀ pre O W1, J pre O W1 → ∀ b, O b → b < W1.heap.size)
    (hK : K ≤ 1048576) (hn : n * 32 ≤ 140737488351232) (hlen : es.length = n) (hcl : Boxed W Bl 33 (.slice a n cap)) (hck : Boxed W Bk 3 (.int .i64 K)) (hes : EvS W a es)
    (hbase : ∀ pre O W1, J pre O W1 → O Bl ∧ W1.heap[Bl]? = W.heap[Bl]? ∧ O Bk ∧ W1.heap[Bk]? = W.heap[Bk]? ∧ ∀ b, a = some b → 0 < n → O b.block ∧ W1.heap[b.block]? = W.heap[b.block]?)
    (hY : ∀ pre x O W1, J pre O W1 → (x.1 = pre.length ∧ pre.length < n ∧ (∃ B ws, SetO B W1 x.2 ws ∧ Holds ws K (fun i => bef (ev es) i x.1 = true)) ∧ ∀ b, x.2.ownBlock = some b → ¬ O b) → YieldAt Fence.wide (3 - 1) Tryz.prog l #[.int .i64 x.1, x.2] W1 fun e W' => ∃ O', Steps O W1 O' W' ∧
      ((e = .returned (.bool true) ∧ J (pre ++ [x]) O' W') ∨ (e = .returned (.bool false) ∧ Jx (pre ++ [x]) O' W')))
    (h0 : J [] (fun b => b < W.heap.size) W) :
    CallsIn Fence.wide 3 Tryz.prog 56 #[.func (.yield l) #[] #[], .pointer (some ⟨Bl, 0, none⟩), .pointer (some ⟨Bk, 0, none⟩)] W fun e W' => (∃ v, e = .returned v) ∧ ∃ O', ((∃ xs, xs.length = n ∧ J xs O' W') ∨ (∃ pre, pre.length ≤ n ∧ Jx pre O' W')) := by
  refine callsIn_of_wp Tryz.func56 rfl trivial ?_ rfl
  simp only [Tryz.ntmps56, List.size_toArray, List.length_cons, List.length_nil, Nat.reduceAdd, Nat.reduceSub, Array.replicate_succ, Array.replicate_zero, List.push_toArray, List.append_toArray, List.nil_append, List.cons_append]
  have hmm := @run_makeMap Tryz.prog
  have hmix : Tryz.prog.follows Departure.mixedOrders = true := by kernel_rfl
  have hc1 := (hcl.alloc (.map #[] 0)).cell
  have hown0 : Own2 K W.heap.size W.heap.size (gone (ev es) 0) (fun _ => none) (fun b => b < W.heap.size) (W.alloc (.map #[] 0)) :=
    ⟨DMap.made W, by simp, (fun d v h => by cases h), (fun d _ i _ => gone_zero _ _ _), (fun d d' v v' b h => by cases h), by simp, (fun d v b h => by cases h)⟩
  have hJ0 : J [] (fun b => b < W.heap.size) (W.alloc (.map #[] 0)) := hJ _ _ _ _ h0 (by simp) rfl rfl rfl (fun b hb => Below.heap_alloc _ _ _ hb)
  gi_wp2
  gi_loopw [16] (fun i wr => ∃ (k : Nat) (pre : List (Nat × Value)) (f : Int × Int → Option Value) (O : Side), k ≤ n ∧ pre.length = k ∧ i = .int .i64 k ∧ Own2 K W.heap.size W.heap.size (gone (ev es) k) f O wr ∧ J pre O wr) (fun i _ => n - (intOf i).toNat)
  case atStart => exact ⟨0, [], _, _, Nat.zero_le _, rfl, rfl, hown0, hJ0⟩
  case round =>
    obtain ⟨k, pre, f, O, hk, hpre, rfl, hO, hJs⟩ := hrel
    clear hown0 hJ0 hc1
    by_cases hlt : k < n
    · obtain ⟨b, off, rfl, hbl, hev⟩ := hes k (by omega)
      obtain ⟨hb1, hb2, hb3, hb4, hb5⟩ := hbase pre O wr hJs
      obtain ⟨hb6, hb7⟩ := hb5 _ rfl (by omega)
      obtain ⟨t, kd, o, v, hevk, he1, he2, he3, he4⟩ : ∃ t kd o v, Hid (ev es k = ⟨t, kd, o, v⟩) ∧ wr.cell? ⟨b, off + k * 4, none⟩ = some (.int .i64 t) ∧ wr.cell? ⟨b, off + k * 4 + 1, none⟩ = some (.int .i64 kd) ∧ wr.cell? ⟨b, off + k * 4 + 2, none⟩ = some (.int .i64 o) ∧ wr.cell? ⟨b, off + k * 4 + 3, none⟩ = some (.int .i64 v) := by
        have hcc : ∀ j, wr.cell? ⟨b, j, none⟩ = W.cell? ⟨b, j, none⟩ := fun j => World.cell?_of_block (w := W) (a := ⟨b, j, none⟩) hb7
        exact ⟨_, _, _, _, rfl, (hcc _).trans hev.1, (hcc _).trans hev.2.1, (hcc _).trans hev.2.2.1, (hcc _).trans hev.2.2.2⟩
      obtain ⟨ds, hdq⟩ : ∃ ds, Hid (inDoors ⟨t, kd, o, v⟩ = ds) := ⟨_, rfl⟩
      have hdl2 : ds.length ≤ 2 := by rw [← hdq.out]; exact inDoors_len _
      have hIn : ∀ w, Calls Tryz.prog 57 #[evV ⟨t, kd, o, v⟩] w fun e w' => ∃ u, e = .returned u ∧ w'.ownsRow w.heap.size 161 2 u ds.length (dcells ds) ∧ Below w.heap.size w w' := fun w => by rw [← hdq.out]; exact in_any t kd o v w
      have HIn := hide' hIn
      clear hIn
      obtain ⟨Wa, hWa⟩ : ∃ Wa, (wr.alloc (.cells #[.int .i64 t, .int .i64 kd, .int .i64 o, .int .i64 v] 49)).alloc (.cells #[.int .i64 0, .int .i64 t] 161) = Wa := ⟨_, rfl⟩
      have hba : Hid (Below wr.heap.size wr Wa) := by rw [← hWa]; exact ((Below.refl _ _).alloc (Nat.le_refl _) _).alloc (by simp) _
      have hsa : Hid (Wa.heap.size = wr.heap.size + 2) := by rw [← hWa]; unfold Hid; simp
      have hOa : Own2 K W.heap.size W.heap.size (gone (ev es) k) f O Wa := hO.kept hba.out.size (hba.out.block _ hO.map.lt) (fun d v b hf hb => by obtain ⟨ws, h1, _⟩ := hO.some_ d v hf; exact hba.out.block b (h1.lt b hb).2) (fun _ _ h => h)
      obtain ⟨v0, hv0⟩ : ∃ v0, Hid ((f (0, t)).getD (.slice none 0 0) = v0) := ⟨_, rfl⟩
      have hlook : Sem.run Tryz.prog (Instr.lookup 159 (.map (some W.heap.size)) (.agg #[.int .i64 0, .int .i64 t]) false) ((wr.alloc (.cells #[.int .i64 t, .int .i64 kd, .int .i64 o, .int .i64 v] 49)).alloc (.cells #[.int .i64 0, .int .i64 t] 161)) = .ok v0 ((wr.alloc (.cells #[.int .i64 t, .int .i64 kd, .int .i64 o, .int .i64 v] 49)).alloc (.cells #[.int .i64 0, .int .i64 t] 161)) := by
        rw [hWa, ← hv0.out]; exact hOa.map.look door_key Tryz.underlying159 (zero_set _) (0, t)
      have HWa := hide' hWa
      clear hWa
      gi_wp2_with (refine ⟨trivial, ?_⟩; gi_at_call 57; refine (callsIn_wide.2 (HIn.out _)).mono ?_; rintro e Wb ⟨u, rfl, hdo, hbb⟩; obtain ⟨ad, cd, rfl, -, hdc, hdm, hds⟩ := DoorS.of_owns hdo)
      rw [HWa.out] at hbb hdo
      have hdb : Hid (∀ b', ad = some b' → 0 < ds.length → Wa.heap.size ≤ b'.block ∧ b'.block < Wb.heap.size) := fun b' hb' _ => hdo.lt b'.block (by rw [hb']; rfl)
      have hOb : Own2 K W.heap.size W.heap.size (gone (ev es) k) f O Wb := hOa.kept hbb.size (hbb.block _ hOa.map.lt) (fun d v b hf hb => by obtain ⟨ws, h1, _⟩ := hOa.some_ d v hf; exact hbb.block b (h1.lt b hb).2) (fun _ _ h => h)
      have hJb : Hid (J pre O Wb ∧ ∀ b, O b → b < wr.heap.size) := ⟨hJ pre O wr Wb hJs (Nat.le_trans hba.out.size hbb.size) (hbb.os.trans hba.out.os) (hbb.tape.trans hba.out.tape) (hbb.output.trans hba.out.output) (fun b hb => (hbb.block b (Nat.lt_of_lt_of_le (hin pre O wr hJs b hb) hba.out.size)).trans (hba.out.block b (hin pre O wr hJs b hb))), hin pre O wr hJs⟩
      have hboxE : Hid (∀ j, Wb.cell? ⟨wr.heap.size, j, none⟩ = Wa.cell? ⟨wr.heap.size, j, none⟩) := fun j => hbb.cell (p := ⟨wr.heap.size, j, none⟩) (by have := hsa.out; show wr.heap.size < _; omega)
      obtain ⟨ws0, hs0, hh0⟩ := hOb.own (0, t)
      rw [hv0.out] at hs0
      have hv0b : Hid (∀ b', v0.ownBlock = some b' → b' < wr.heap.size ∧ ¬ O b' ∧ b' ≠ W.heap.size) := fun b' hb' => by
        cases hf : f (0, t) with
        | none => have := hv0.out; rw [hf] at this; rw [← this] at hb'; cases hb'
        | some vv =>
          have := hv0.out; rw [hf] at this; obtain rfl : vv = v0 := this
          obtain ⟨ws, h1, _⟩ := hO.some_ _ _ hf
          exact ⟨(h1.lt b' hb').2, hO.mine _ _ b' hf hb', hO.notMap hf hb'⟩
      have hwM : Hid (W.heap.size < wr.heap.size) := hO.map.lt
      have hmid0 := Mid.start hs0 hh0
      clear hs0 hh0 hdo hlook hb1 hb3 hb6 hb2 hb7 hb5 he1 he2 he3 he4 hbl hev hJs hO hOa
      obtain ⟨wo, hwo⟩ : ∃ z, z = wr := ⟨wr, rfl⟩
      subst hwo
      gi_loopw [8, 30] (fun p i wr => ∃ (j : Nat) (ws : List Nat), j ≤ ds.length ∧ i = .int .i64 j ∧ Mid K W.heap.size v0 Wb wr p ws (fun i => gone (ev es) k (0, t) i ∨ ∃ d, d ∈ ds.take j ∧ gone (ev es) k d i)) (fun _ i _ => ds.length - (intOf i).toNat)
      case atStart => exact ⟨0, ws0, Nat.zero_le _, rfl, hmid0.iff fun i _ => by simp⟩
      case round =>
        obtain ⟨j, ws, hj, rfl, hmid⟩ := hrel
        clear hmid0
        by_cases hjl : j < ds.length
        · obtain ⟨bd, rfl, hbd, hd1, hd2⟩ := hds j hjl
          obtain ⟨d, hdd⟩ : ∃ d, Hid (ds.getD j (0, 0) = d) := ⟨_, rfl⟩
          rw [hdd.out] at hd1 hd2
          have hbd2 := hdb.out _ rfl (by omega)
          have hne : ∀ b', v0.ownBlock = some b' → b' ≠ bd := fun b' hb' e => by have h1 := (hv0b.out b' hb').1; have h2 := hbd2.1; have h3 := hsa.out; simp at h2; omega
          have hkb : ∀ x, wr.cell? ⟨bd, x, none⟩ = Wb.cell? ⟨bd, x, none⟩ := fun x => World.cell?_of_block (w := Wb) (a := ⟨bd, x, none⟩) (hmid.grew.block bd hbd (fun e => hne bd e.symm rfl))
          have hd1' := (hkb _).trans hd1
          have hd2' := (hkb _).trans hd2
          rw [Nat.mul_comm] at hd1' hd2'
          have hMr : Hid (DMap wr W.heap.size f) := hOb.map.same (hmid.grew.block _ hOb.map.lt (fun e => (hv0b.out _ e.symm).2.2 rfl))
          have hmid1 := hmid.more ((Below.refl _ wr).alloc (Nat.le_refl _) (.cells #[.int .i64 d.1, .int .i64 d.2] 161))
          rw [← hv0.out] at hmid1
          obtain ⟨ad', c', o', hval, hoc, hok, hoR, hob, hbes, hhold⟩ := Mid.door hOb hmid1 (fun i h => .inl h) d
          have hlookd : Sem.run Tryz.prog (Instr.lookup 159 (.map (some W.heap.size)) (.agg #[.int .i64 d.1, .int .i64 d.2]) false) (wr.alloc (.cells #[.int .i64 d.1, .int .i64 d.2] 161)) = .ok (.slice ad' o'.length c') (wr.alloc (.cells #[.int .i64 d.1, .int .i64 d.2] 161)) := by
            rw [← hval]; exact (hMr.out.same (Below.heap_alloc _ _ _ hMr.out.lt)).look door_key Tryz.underlying159 (zero_set _) d
          have hws := hmid.holds.2
          have hjoin := join_any W.heap.size u8 ws ad' c' o' (wr.alloc (.cells #[.int .i64 d.1, .int .i64 d.2] 161)) (by have := hOb.base; have := hmid.grew.size; simp; omega) hmid1.past (by omega) (by omega) hoc hoR hob hbes
          have HJ := hide' hjoin
          rw [hv0.out] at hmid1
          clear hjoin hval hoR hob hbes hne hkb hd1 hd2
          gi_wp2_with (refine ⟨trivial, ?_⟩; gi_at_call 58; refine (callsIn_wide.2 HJ.out).mono ?_; rintro e w3 ⟨p', rfl, hS', hg', hb'⟩)
          go_roundw
          case rel => exact ⟨j + 1, _, by omega, by go_num, (hmid1.join hS' hg' hb' hhold).iff fun i _ => by rw [take_succ_mem hjl, hdd.out, or_assoc]⟩
          case measure => simp [intOf]; omega
        · obtain rfl : j = ds.length := by omega
          have hholds : Holds ws K (fun i => bef (ev es) i k = true) := hmid.holds.iff fun i _ => by
            rw [bef_gone, hevk.out, List.take_length]
            constructor
            · rintro (h | ⟨d, hd, h⟩)
              · exact ⟨(0, t), List.mem_cons_self, h⟩
              · exact ⟨d, List.mem_cons_of_mem _ (by rw [hdq.out]; exact hd), h⟩
            · rintro ⟨d, hd, h⟩
              rcases List.mem_cons.1 hd with rfl | hd
              · exact .inl h
              · exact .inr ⟨d, by rw [hdq.out] at hd; exact hd, h⟩
          have hu8 : Hid (∀ b', u8.ownBlock = some b' → ¬ O b' ∧ b' < wr.heap.size ∧ b' ≠ W.heap.size ∧ (v0.ownBlock = some b' ∨ Wb.heap.size ≤ b')) := fun b' hb' => by
            have hlt := (hmid.past.lt b' hb').2
            rcases hmid.blk with h1 | ⟨b2, h1, h2⟩
            · rw [h1] at hb'; obtain ⟨_, h3, h4⟩ := hv0b.out b' hb'; exact ⟨h3, hlt, h4, .inl hb'⟩
            · rw [h1] at hb'; cases hb'
              have := hOb.map.lt; have := hJb.out.2; have h5 := hba.out.size; have h6 := hbb.size
              exact ⟨fun h => by have := hJb.out.2 _ h; omega, hlt, by omega, .inr h2⟩
          have hJw : J pre O wr := hJ pre O Wb wr hJb.out.1 hmid.grew.size hmid.grew.os hmid.grew.tape hmid.grew.output (fun b' hb' => hmid.grew.block b' (by have := hJb.out.2 b' hb'; have h5 := hba.out.size; have h6 := hbb.size; omega) (fun e => (hv0b.out b' e.symm).2.1 hb'))
          have hY2 : YieldAt Fence.wide (3 - 1) Tryz.prog l #[.int .i64 k, u8] wr fun e W' => ∃ bb, e = .returned (.bool bb) ∧ ∃ O', Steps O wr O' W' ∧ ((bb = true ∧ J (pre ++ [(k, u8)]) O' W') ∨ (bb = false ∧ Jx (pre ++ [(k, u8)]) O' W')) :=
            (hY pre (k, u8) O wr hJw ⟨hpre.symm, by omega, ⟨_, ws, hmid.past, hholds⟩, fun b' hb' => (hu8.out b' hb').1⟩).mono fun e W' h => by
              obtain ⟨O', h1, ⟨rfl, h2⟩ | ⟨rfl, h2⟩⟩ := h
              · exact ⟨true, rfl, O', h1, .inl ⟨rfl, h2⟩⟩
              · exact ⟨false, rfl, O', h1, .inr ⟨rfl, h2⟩⟩
          obtain ⟨fn, tmps, assign, body, hy, hR⟩ := hY2
          gi_wp2
          refine hR.mono ?_
          clear hR hy
          rintro e W3 ⟨bb, rfl, O', hst, ⟨rfl, hJ3⟩ | ⟨rfl, hJx3⟩⟩
          ·
            obtain ⟨-, -, -, hk4, -⟩ := hbase _ O' W3 hJ3
            have hck3 : W3.cell? ⟨Bk, 0, none⟩ = some (.int .i64 K) := (World.cell?_of_block (w := W) (a := ⟨Bk, 0, none⟩) hk4).trans hck.cell
            have hbox : ∀ b' x, b' < Wa.heap.size → wo.heap.size ≤ b' → W3.cell? ⟨b', x, none⟩ = Wa.cell? ⟨b', x, none⟩ := fun b' x h1 h2 => by
              have h3 := hbb.size
              have h4 : ¬ O b' := fun h => by have := hJb.out.2 _ h; omega
              have e1 := hst.rest b' (by have := hmid.grew.size; omega) h4
              have e2 := hmid.grew.block b' (by omega) (fun e => by have := (hv0b.out b' e.symm).1; omega)
              exact World.cell?_of_block (w := Wa) (a := ⟨b', x, none⟩) (e1.trans (e2.trans (hbb.block b' h1)))
            have hs2 := hsa.out
            have hE0 : W3.cell? ⟨wo.heap.size, 0, none⟩ = some (.int .i64 t) := by rw [hbox _ _ (by omega) (by omega), ← HWa.out]; simp
            have hE1 : W3.cell? ⟨wo.heap.size, 1, none⟩ = some (.int .i64 kd) := by rw [hbox _ _ (by omega) (by omega), ← HWa.out]; simp
            have hE2 : W3.cell? ⟨wo.heap.size, 2, none⟩ = some (.int .i64 o) := by rw [hbox _ _ (by omega) (by omega), ← HWa.out]; simp
            have hE3 : W3.cell? ⟨wo.heap.size, 3, none⟩ = some (.int .i64 v) := by rw [hbox _ _ (by omega) (by omega), ← HWa.out]; simp
            have hG0 : W3.cell? ⟨wo.heap.size + 1, 0, none⟩ = some (.int .i64 0) := by rw [hbox _ _ (by omega) (by omega), ← HWa.out]; simp
            have hG1 : W3.cell? ⟨wo.heap.size + 1, 1, none⟩ = some (.int .i64 t) := by rw [hbox _ _ (by omega) (by omega), ← HWa.out]; simp
            clear hbox
            have hs3 : Hid (SetO W.heap.size W3 u8 ws) := hmid.past.kept fun b' hb' => hst.rest b' (hu8.out b' hb').2.1 (hu8.out b' hb').1
            have hOO : Hid (∀ b', b' < Wb.heap.size → ¬ O b' → ¬ O' b') := fun b' h1 h2 h3 => by
              rcases hst.fresh b' h3 with h | h
              · exact h2 h
              · have := hmid.grew.size; omega
            have hMw : Hid (W3.heap[W.heap.size]? = Wb.heap[W.heap.size]?) := (hst.rest _ (Nat.lt_of_lt_of_le hOb.map.lt hmid.grew.size) hOb.mapMine).trans (hmid.grew.block _ hOb.map.lt (fun e => (hv0b.out _ e.symm).2.2 rfl))
            obtain ⟨us, hus⟩ : ∃ us, Hid (outDoors ⟨t, kd, o, v⟩ = us) := ⟨_, rfl⟩
            have HOut : Hid (∀ w, Calls Tryz.prog 59 #[evV ⟨t, kd, o, v⟩] w fun e w' => ∃ u, e = .returned u ∧ w'.ownsRow w.heap.size 161 2 u us.length (dcells us) ∧ Below w.heap.size w w') := fun w => by rw [← hus.out]; exact out_any t kd o v w
            have hbsz : Hid (W.heap.size ≤ W3.heap.size) := by have h1 := hOb.base; have h2 := hmid.grew.size; have h3 := hst.size; unfold Hid; omega
            have hafter : Hid (∀ (W4 : World) (p4 : Value) (ws4 : List Nat), SetO W.heap.size W4 p4 ws4 → Holds ws4 K (fun i => i = k ∨ bef (ev es) i k = true) → W3.grownBy W4 u8.ownBlock → (p4.ownBlock = u8.ownBlock ∨ p4.ownBlock = some W3.heap.size) →
                (∀ x, W4.cell? ⟨wo.heap.size, x, none⟩ = W3.cell? ⟨wo.heap.size, x, none⟩) ∧ (∀ x, W4.cell? ⟨wo.heap.size + 1, x, none⟩ = W3.cell? ⟨wo.heap.size + 1, x, none⟩) ∧
                ∃ W5, Sem.run Tryz.prog (Instr.mapUpdate 159 (.map (some W.heap.size)) (.agg #[.int .i64 0, .int .i64 t]) p4) W4 = .ok () W5 ∧ (∀ x, W5.cell? ⟨wo.heap.size, x, none⟩ = W3.cell? ⟨wo.heap.size, x, none⟩) ∧ J (pre ++ [(k, u8)]) O' W5 ∧
                  Own2 K W.heap.size W.heap.size (fun d i => if d = (0, t) then (i = k ∨ bef (ev es) i k = true) else gone (ev es) k d i) (putD f (0, t) p4) O' W5) := by
              intro W4 p4 ws4 hs4 hh4 hg4 hb4
              have h3 := hmid.grew.size
              have h3' := hst.size
              have h5 := hbb.size
              have hM4 : DMap W4 W.heap.size f := hOb.map.same ((hg4.block _ (by have := hOb.map.lt; omega) (fun e => (hu8.out _ e.symm).2.2.1 rfl)).trans hMw.out)
              obtain ⟨W5, hput, hM5, hg5, hz5⟩ := hM4.put door_key Tryz.underlying159 (0, t) p4
              have hp4 : ∀ b', p4.ownBlock = some b' → ¬ O' b' ∧ b' ≠ W.heap.size ∧ (∀ b2, b2 < Wb.heap.size → v0.ownBlock ≠ some b2 → b' ≠ b2) := fun b' hb' => by
                rcases hb4 with h | h
                · rw [h] at hb'
                  obtain ⟨h6, h7, h8, h9⟩ := hu8.out b' hb'
                  refine ⟨fun h => (hst.fresh b' h).elim h6 (fun h => by omega), h8, fun b2 h10 h11 => ?_⟩
                  rintro rfl
                  rcases h9 with h9 | h9
                  · exact h11 h9
                  · omega
                · rw [h] at hb'; cases hb'
                  have := hOb.map.lt
                  exact ⟨fun h => by have := hin _ _ _ hJ3 _ h; omega, by omega, fun b2 h10 _ => by omega⟩
              have hbx : ∀ b', wo.heap.size ≤ b' → b' < Wb.heap.size → some b' ≠ u8.ownBlock := fun b' h1 h2 e => by
                obtain ⟨_, _, _, h9 | h9⟩ := hu8.out b' e.symm
                · have := (hv0b.out b' h9).1; omega
                · omega
              have hcell : ∀ b' x, wo.heap.size ≤ b' → b' < Wa.heap.size → W4.cell? ⟨b', x, none⟩ = W3.cell? ⟨b', x, none⟩ := fun b' x h1 h2 => World.cell?_of_block (w := W3) (a := ⟨b', x, none⟩) (hg4.block b' (by omega) (hbx b' h1 (by omega)))
              have hMlt := hOb.map.lt
              have hMw0 : W.heap.size < wo.heap.size ∨ W.heap.size = W.heap.size := .inr rfl
              refine ⟨fun x => hcell _ x (by omega) (by omega), fun x => hcell _ x (by omega) (by omega), W5, hput, fun x => ?_, ?_, ?_⟩
              · refine (World.cell?_of_block (w := W4) (a := ⟨wo.heap.size, x, none⟩) (hg5.block _ (by have := hg4.size; show wo.heap.size < _; omega) (fun e => ?_))).trans (hcell _ x (by omega) (by omega))
                have e' : wo.heap.size = W.heap.size := by simpa using e
                have := hwM.out; omega
              · refine hJ _ O' W3 W5 hJ3 (by have := hg4.size; omega) (hg5.os.trans hg4.os) (hg5.tape.trans hg4.tape) (hg5.output.trans hg4.output) (fun b' hb' => ?_)
                have hb3 := hin _ _ _ hJ3 b' hb'
                refine (hg5.block b' (by have := hg4.size; omega) (fun e => ?_)).trans (hg4.block b' hb3 (fun e => ?_))
                · have e' : b' = W.heap.size := by simpa using e
                  rw [e'] at hb'; exact hOO.out _ hMlt hOb.mapMine hb'
                · obtain ⟨h6, h7, _, _⟩ := hu8.out b' e.symm
                  rcases hst.fresh b' hb' with h | h
                  · exact h6 h
                  · omega
              · refine hOb.replace (0, t) (by have := hg4.size; omega) hM5 (fun d vv b' hd hf hb' => ?_) (hs4.kept fun b' hb' => hg5.block b' (hs4.lt b' hb').2 (fun e => ?_)) hh4 (fun d vv b' hd hf hb' e => ?_) hOO.out (fun b' hb' => (hp4 b' hb').1)
                · obtain ⟨wsd, h1, _⟩ := hOb.some_ d vv hf
                  have hlt := (h1.lt b' hb').2
                  have hnv0 : v0.ownBlock ≠ some b' := fun e => by
                    cases hfo : f (0, t) with
                    | none => have := hv0.out; rw [hfo] at this; rw [← this] at e; cases e
                    | some vo => have := hv0.out; rw [hfo] at this; obtain rfl : vo = v0 := this; exact hOb.apart _ _ _ _ b' hfo hf (fun e => hd e.symm) e hb'
                  have e1 := hmid.grew.block b' hlt (fun e => hnv0 e.symm)
                  have e2 := hst.rest b' (by omega) (hOb.mine d vv b' hf hb')
                  have e3 := hg4.block b' (by omega) (fun e => by
                    obtain ⟨_, _, _, h9 | h9⟩ := hu8.out b' e.symm
                    · exact hnv0 h9
                    · omega)
                  have e4 := hg5.block b' (by have := hg4.size; omega) (fun e => hOb.notMap hf hb' (by simpa using e))
                  exact e4.trans (e3.trans (e2.trans e1))
                · exact (hp4 b' hb').2.1 (by simpa using e)
                · obtain ⟨wsd, h1, _⟩ := hOb.some_ d vv hf
                  have hnv0 : v0.ownBlock ≠ some b' := fun e => by
                    cases hfo : f (0, t) with
                    | none => have := hv0.out; rw [hfo] at this; rw [← this] at e; cases e
                    | some vo => have := hv0.out; rw [hfo] at this; obtain rfl : vo = v0 := this; exact hOb.apart _ _ _ _ b' hfo hf (fun e => hd e.symm) e hb'
                  exact (hp4 b' e).2.2 b' (h1.lt b' hb').2 hnv0 rfl
            by_cases hkK : k < K
            · have HW := hide' (with_any W.heap.size u8 ws k W3 hbsz.out hs3.out (by omega) (by have := hholds.2; omega))
              gi_wp2_with (refine ⟨trivial, ?_⟩; gi_at_call 41; refine (callsIn_wide.2 HW.out).mono ?_; rintro e W4 ⟨p4, rfl, hs4, hg4, hb4⟩; obtain ⟨hx1, hx2, W5, hput, hx5, hJ5, hO5⟩ := hafter.out W4 p4 _ hs4 ((hholds.with hkK).iff fun i _ => or_comm) hg4 (hb4.imp id And.left); have hg0 := (hx2 0).trans hG0; have hg1 := (hx2 1).trans hG1)
              refine ⟨trivial, ?_⟩
              refine (callsIn_wide.2 (HOut.out _)).mono ?_
              rintro e W6 ⟨u, rfl, hdo2, hb6⟩
              obtain ⟨ad2, cd2, rfl, -, hdc2, hdm2, hds2⟩ := DoorS.of_owns hdo2
              have hO6 : Own2 K W.heap.size W.heap.size (fun d i => if d = (0, t) then (i = k ∨ bef (ev es) i k = true) else gone (ev es) k d i) (putD f (0, t) p4) O' W6 := hO5.kept hb6.size (hb6.block _ hO5.map.lt) (fun d v b hf hb => by obtain ⟨ws, h1, _⟩ := hO5.some_ d v hf; exact hb6.block b (h1.lt b hb).2) (fun _ _ h => h)
              have hJ6 : Hid (J (pre ++ [(k, u8)]) O' W6) := hJ _ O' W5 W6 hJ5 hb6.size hb6.os hb6.tape hb6.output (fun b hb => hb6.block b (hin _ _ _ hJ5 b hb))
              have hul : us.length ≤ 1 := by rw [← hus.out]; exact outDoors_len _
              have hupr : Hid (∀ d, d ∈ us → d ≠ (0, t)) := fun d hd => by rw [← hus.out] at hd; exact outDoors_own hd t
              have hpl : (pre ++ [(k, u8)]).length = k + 1 := by simp [hpre]
              have Hpl := hide' hpl
              clear hpl hdo2 hb6 hJ5 hO5 hput hx5 hx1 hx2 hE0 hE1 hE2 hE3 hG0 hG1 hck3 hafter HOut hJ3 hmid
              gi_wp2
              obtain ⟨wq, hwq⟩ : ∃ z, z = wr := ⟨wr, rfl⟩
              subst hwq
              gi_loopw [57] (fun i w7 => (i = .int .i64 0 ∧ w7 = W6) ∨ (us.length = 1 ∧ i = .int .i64 1 ∧ ∃ f', Own2 K W.heap.size W.heap.size (gone (ev es) (k + 1)) f' O' w7 ∧ J (pre ++ [(k, u8)]) O' w7)) (fun i _ => us.length - (intOf i).toNat)
              case atStart => exact .inl ⟨rfl, rfl⟩
              case round =>
                rcases hrel with ⟨rfl, hw6⟩ | ⟨hl1, rfl, f', hO7, hJ7⟩
                · subst hw6
                  by_cases hu0 : us.length = 0
                  · have hO7 : Own2 K W.heap.size W.heap.size (gone (ev es) (k + 1)) (putD f (0, t) p4) O' wr := hO6.iff fun x i _ => by
                      rw [gone_after _ _ _ _ t kd o v hevk.out us hus.out, List.eq_nil_of_length_eq_zero hu0]
                      by_cases hx : x = (0, t)
                      · rw [if_pos hx, if_pos hx]
                      · rw [if_neg hx, if_neg hx]; simp
                    have HO7 := hide' hO7
                    clear hO7 hO6
                    gi_wp2
                    go_roundw
                    case rel => exact ⟨k + 1, _, _, O', by omega, Hpl.out, by go_num, HO7.out, hJ6.out⟩
                    case measure => simp [intOf]; omega
                  · have hu1 : us.length = 1 := by omega
                    obtain ⟨bd, rfl, hbd, hd1, hd2⟩ := hds2 0 (by omega)
                    obtain ⟨d, hdd⟩ : ∃ d, Hid (us.getD 0 (0, 0) = d) := ⟨_, rfl⟩
                    rw [hdd.out] at hd1 hd2
                    simp only [Nat.mul_zero, Nat.zero_add] at hd1 hd2
                    have husd : us = [d] := by
                      match us, hu1, hdd with
                      | [x], _, h => have := h.out; simp at this; rw [this]
                    have hdo : d ≠ (0, t) := hupr.out d (by rw [husd]; exact List.mem_singleton.2 rfl)
                    obtain ⟨W7, hW7⟩ : ∃ W7, (wr.alloc (.cells #[.int .i64 d.1, .int .i64 d.2] 161)).drew = W7 := ⟨_, rfl⟩
                    have hb7 : Below wr.heap.size wr W7 := by rw [← hW7]; exact ((Below.refl _ _).alloc (Nat.le_refl _) _).drew
                    obtain ⟨ws4, hs4, hh4⟩ := hO6.some_ (0, t) _ (putD_same _ _ _)
                    replace hh4 : Holds ws4 K (fun i => i = k ∨ bef (ev es) i k = true) := hh4.iff fun i _ => by rw [if_pos rfl]
                    obtain ⟨wsd, hsd, hhd⟩ := hO6.own d
                    replace hhd : Holds wsd K (gone (ev es) k d) := hhd.iff fun i _ => by rw [if_neg hdo]
                    have hap : Hid (∀ b', Value.ownBlock p4 = some b' → ((putD f (0, t) p4 d).getD (.slice none 0 0)).ownBlock ≠ some b') := fun b' hb' => by
                      cases hfd : putD f (0, t) p4 d with
                      | none => intro e; cases e
                      | some vd => exact hO6.apart (0, t) d _ vd b' (putD_same _ _ _) hfd (fun e => hdo e.symm) hb'
                    have hdb : Hid (∀ b', ((putD f (0, t) p4 d).getD (.slice none 0 0)).ownBlock = some b' → ¬ O' b' ∧ b' ≠ W.heap.size ∧ ∀ x vx, x ≠ d → putD f (0, t) p4 x = some vx → vx.ownBlock ≠ some b') := fun b' hb' => by
                      cases hfd : putD f (0, t) p4 d with
                      | none => rw [hfd] at hb'; cases hb'
                      | some vd =>
                        rw [hfd] at hb'
                        exact ⟨hO6.mine d vd b' hfd hb', hO6.notMap hfd hb', fun x vx hx hfx hbx => hO6.apart x d vx vd b' hfx hfd hx hbx hb'⟩
                    obtain ⟨dv, hdv⟩ : ∃ dv, (putD f (0, t) p4 d).getD (.slice none 0 0) = dv := ⟨_, rfl⟩
                    rw [hdv] at hap hdb hsd
                    have hlk : Hid (Sem.run Tryz.prog (Instr.lookup 159 (.map (some W.heap.size)) (.agg #[.int .i64 d.1, .int .i64 d.2]) false) W7 = .ok dv W7) := by
                      rw [← hdv]; exact (hO6.map.same (hb7.block _ hO6.map.lt)).look door_key Tryz.underlying159 (zero_set _) d
                    have hs47 := hs4.kept (W' := W7) fun b' hb' => hb7.block b' (hs4.lt b' hb').2
                    have hsd7 := hsd.kept (W' := W7) fun b' hb' => hb7.block b' (hsd.lt b' hb').2
                    obtain ⟨ad4, c4, hp4e, hc4, -, hr4⟩ := hs47.parts
                    have hjoin := join_any W.heap.size dv wsd ad4 c4 ws4 W7 (Nat.le_trans hO6.base hb7.size) hsd7 (by have := hhd.2; omega) (by have := hh4.2; omega) hc4 hr4 hs47.2 (.inl fun b' hb' => hap.out b'.block (by rw [hp4e, hb']; rfl))
                    rw [← hp4e] at hjoin
                    have hfin : Hid (∀ (w8 : World) (v' : Value), SetO W.heap.size w8 v' (joinL wsd ws4) → W7.grownBy w8 dv.ownBlock → (v'.ownBlock = dv.ownBlock ∨ (v'.ownBlock = some W7.heap.size ∧ W7.grownBy w8 none)) →
                        w8.cell? ⟨wr.heap.size, 0, none⟩ = some (.int .i64 d.1) ∧ w8.cell? ⟨wr.heap.size, 1, none⟩ = some (.int .i64 d.2) ∧ ∃ W9, Sem.run Tryz.prog (Instr.mapUpdate 159 (.map (some W.heap.size)) (.agg #[.int .i64 d.1, .int .i64 d.2]) v') w8 = .ok () W9 ∧ ∃ f', Own2 K W.heap.size W.heap.size (gone (ev es) (k + 1)) f' O' W9 ∧ J (pre ++ [(k, u8)]) O' W9) := by
                      intro w8 v' hS8 hg8 hb8
                      have hz7 := hb7.size
                      have hM8 : DMap w8 W.heap.size (putD f (0, t) p4) := hO6.map.same ((hg8.block _ (by have := hO6.map.lt; omega) (fun e => (hdb.out _ e.symm).2.1 rfl)).trans (hb7.block _ hO6.map.lt))
                      obtain ⟨W9, hput, hM9, hg9, hz9⟩ := hM8.put door_key Tryz.underlying159 d v'
                      have hz8 := hg8.size
                      have hOlt : ∀ b', O' b' → b' < wr.heap.size := hin _ _ _ hJ6.out
                      have hv' : ∀ b', v'.ownBlock = some b' → ¬ O' b' ∧ b' ≠ W.heap.size ∧ ∀ x vx, x ≠ d → putD f (0, t) p4 x = some vx → vx.ownBlock ≠ some b' := fun b' hb' => by
                        rcases hb8 with h | ⟨h, _⟩
                        · exact hdb.out b' (h ▸ hb')
                        · rw [h] at hb'; cases hb'
                          have := hO6.map.lt
                          exact ⟨fun h => by have := hOlt _ h; omega, by omega, fun x vx _ hfx hbx => by obtain ⟨wx, h1, _⟩ := hO6.some_ x vx hfx; have := (h1.lt _ hbx).2; omega⟩
                      have hbx : ∀ x, w8.cell? ⟨wr.heap.size, x, none⟩ = W7.cell? ⟨wr.heap.size, x, none⟩ := fun x => World.cell?_of_block (w := W7) (a := ⟨wr.heap.size, x, none⟩) (hg8.block _ (by rw [← hW7]; show wr.heap.size < ((wr.alloc _).drew).heap.size; simp) (fun e => by have := (hsd.lt wr.heap.size e.symm).2; omega))
                      refine ⟨by rw [hbx, ← hW7]; simp, by rw [hbx, ← hW7]; simp, W9, hput, putD (putD f (0, t) p4) d v', ?_, ?_⟩
                      · refine (hO6.replace d (by omega) hM9 (fun x vx b' hx hfx hb' => ?_) (hS8.kept fun b' hb' => hg9.block b' (hS8.lt b' hb').2 (fun e => (hv' b' hb').2.1 (by simpa using e))) (hhd.join hh4) (fun x vx b' hx hfx hb' e => (hv' b' e).2.2 x vx hx hfx hb') (fun _ _ h => h) (fun b' hb' => (hv' b' hb').1)).iff fun x i _ => ?_
                        · obtain ⟨wx, h1, _⟩ := hO6.some_ x vx hfx
                          have hlt := (h1.lt b' hb').2
                          exact (hg9.block b' (by omega) (fun e => hO6.notMap hfx hb' (by simpa using e))).trans ((hg8.block b' (by omega) (fun e => (hdb.out b' e.symm).2.2 x vx hx hfx hb')).trans (hb7.block b' hlt))
                        · rw [gone_after _ _ _ _ t kd o v hevk.out us hus.out, husd, List.mem_singleton]
                          by_cases hx : x = (0, t)
                          · have hxd : x ≠ d := fun e => hdo (e.symm.trans hx)
                            rw [if_neg hxd, if_pos hx, if_pos hx]
                          · by_cases hxd : x = d
                            · rw [if_pos hxd, if_neg hx, hxd]; simp
                            · rw [if_neg hxd, if_neg hx, if_neg hx]; simp [hxd]
                      · refine hJ _ O' wr W9 hJ6.out (by omega) (hg9.os.trans (hg8.os.trans hb7.os)) (hg9.tape.trans (hg8.tape.trans hb7.tape)) (hg9.output.trans (hg8.output.trans hb7.output)) (fun b' hb' => ?_)
                        have hlt := hOlt b' hb'
                        refine (hg9.block b' (by omega) (fun e => ?_)).trans ((hg8.block b' (by omega) (fun e => (hdb.out b' e.symm).1 hb')).trans (hb7.block b' hlt))
                        have e' : b' = W.heap.size := by simpa using e
                        rw [e'] at hb'; exact hO6.mapMine hb'
                    have HJ2 := hide' hjoin
                    have HW7 := hide' hW7
                    have hlk' := hlk.out
                    rw [← hW7] at hlk'
                    have hu1' : 0 < us.length := by omega
                    have Hu1 := hide' hu1
                    clear hjoin hW7 hs4 hs47 hsd hsd7 hr4 hO6 hds2 hp4e hdv hu1 husd hu0
                    gi_wp2_with fail
                    gi_region_with_o (refine ⟨trivial, ?_⟩; gi_at_call 58; rw [HW7.out]; refine (callsIn_wide.2 HJ2.out).mono ?_; rintro e w8 ⟨v', rfl, hS8, hg8, hb8⟩; obtain ⟨hq0, hq1, W9, hput2, hW9⟩ := hfin.out w8 v' hS8 hg8 hb8)
                    all_goals
                      gi_wp2
                      go_roundw
                      case rel => exact .inr ⟨Hu1.out, by go_num, hW9⟩
                      case measure => simp [intOf]; omega
                · have hnl : ¬ (1 < us.length) := by omega
                  gi_wp2
                  go_roundw
                  case rel => exact ⟨k + 1, _, f', O', by omega, Hpl.out, by go_num, hO7, hJ7⟩
                  case measure => simp [intOf]; omega
            · obtain ⟨hx1, hx2, W5, hput, hx5, hJ5, hO5⟩ := hafter.out W3 u8 ws hs3.out (hholds.iff fun i hi => ⟨.inr, fun h => h.elim (fun e => by omega) id⟩) ⟨rfl, rfl, rfl, Nat.le_refl _, fun _ _ _ => rfl⟩ (.inl rfl)
              gi_wp2_with fail
              refine ⟨trivial, ?_⟩
              refine (callsIn_wide.2 (HOut.out _)).mono ?_
              rintro e W6 ⟨u, rfl, hdo2, hb6⟩
              obtain ⟨ad2, cd2, rfl, -, hdc2, hdm2, hds2⟩ := DoorS.of_owns hdo2
              have hO6 : Own2 K W.heap.size W.heap.size (fun d i => if d = (0, t) then (i = k ∨ bef (ev es) i k = true) else gone (ev es) k d i) (putD f (0, t) u8) O' W6 := hO5.kept hb6.size (hb6.block _ hO5.map.lt) (fun d v b hf hb => by obtain ⟨ws, h1, _⟩ := hO5.some_ d v hf; exact hb6.block b (h1.lt b hb).2) (fun _ _ h => h)
              have hJ6 : Hid (J (pre ++ [(k, u8)]) O' W6) := hJ _ O' W5 W6 hJ5 hb6.size hb6.os hb6.tape hb6.output (fun b hb => hb6.block b (hin _ _ _ hJ5 b hb))
              have hul : us.length ≤ 1 := by rw [← hus.out]; exact outDoors_len _
              have hupr : Hid (∀ d, d ∈ us → d ≠ (0, t)) := fun d hd => by rw [← hus.out] at hd; exact outDoors_own hd t
              have hpl : (pre ++ [(k, u8)]).length = k + 1 := by simp [hpre]
              have Hpl := hide' hpl
              clear hpl hdo2 hb6 hJ5 hO5 hput hx5 hx1 hx2 hE0 hE1 hE2 hE3 hG0 hG1 hck3 hafter HOut hJ3 hmid
              gi_wp2
              obtain ⟨wq, hwq⟩ : ∃ z, z = wr := ⟨wr, rfl⟩
              subst hwq
              gi_loopw [57] (fun i w7 => (i = .int .i64 0 ∧ w7 = W6) ∨ (us.length = 1 ∧ i = .int .i64 1 ∧ ∃ f', Own2 K W.heap.size W.heap.size (gone (ev es) (k + 1)) f' O' w7 ∧ J (pre ++ [(k, u8)]) O' w7)) (fun i _ => us.length - (intOf i).toNat)
              case atStart => exact .inl ⟨rfl, rfl⟩
              case round =>
                rcases hrel with ⟨rfl, hw6⟩ | ⟨hl1, rfl, f', hO7, hJ7⟩
                · subst hw6
                  by_cases hu0 : us.length = 0
                  · have hO7 : Own2 K W.heap.size W.heap.size (gone (ev es) (k + 1)) (putD f (0, t) u8) O' wr := hO6.iff fun x i _ => by
                      rw [gone_after _ _ _ _ t kd o v hevk.out us hus.out, List.eq_nil_of_length_eq_zero hu0]
                      by_cases hx : x = (0, t)
                      · rw [if_pos hx, if_pos hx]
                      · rw [if_neg hx, if_neg hx]; simp
                    have HO7 := hide' hO7
                    clear hO7 hO6
                    gi_wp2
                    go_roundw
                    case rel => exact ⟨k + 1, _, _, O', by omega, Hpl.out, by go_num, HO7.out, hJ6.out⟩
                    case measure => simp [intOf]; omega
                  · have hu1 : us.length = 1 := by omega
                    obtain ⟨bd, rfl, hbd, hd1, hd2⟩ := hds2 0 (by omega)
                    obtain ⟨d, hdd⟩ : ∃ d, Hid (us.getD 0 (0, 0) = d) := ⟨_, rfl⟩
                    rw [hdd.out] at hd1 hd2
                    simp only [Nat.mul_zero, Nat.zero_add] at hd1 hd2
                    have husd : us = [d] := by
                      match us, hu1, hdd with
                      | [x], _, h => have := h.out; simp at this; rw [this]
                    have hdo : d ≠ (0, t) := hupr.out d (by rw [husd]; exact List.mem_singleton.2 rfl)
                    obtain ⟨W7, hW7⟩ : ∃ W7, (wr.alloc (.cells #[.int .i64 d.1, .int .i64 d.2] 161)).drew = W7 := ⟨_, rfl⟩
                    have hb7 : Below wr.heap.size wr W7 := by rw [← hW7]; exact ((Below.refl _ _).alloc (Nat.le_refl _) _).drew
                    obtain ⟨ws4, hs4, hh4⟩ := hO6.some_ (0, t) _ (putD_same _ _ _)
                    replace hh4 : Holds ws4 K (fun i => i = k ∨ bef (ev es) i k = true) := hh4.iff fun i _ => by rw [if_pos rfl]
                    obtain ⟨wsd, hsd, hhd⟩ := hO6.own d
                    replace hhd : Holds wsd K (gone (ev es) k d) := hhd.iff fun i _ => by rw [if_neg hdo]
                    have hap : Hid (∀ b', Value.ownBlock u8 = some b' → ((putD f (0, t) u8 d).getD (.slice none 0 0)).ownBlock ≠ some b') := fun b' hb' => by
                      cases hfd : putD f (0, t) u8 d with
                      | none => intro e; cases e
                      | some vd => exact hO6.apart (0, t) d _ vd b' (putD_same _ _ _) hfd (fun e => hdo e.symm) hb'
                    have hdb : Hid (∀ b', ((putD f (0, t) u8 d).getD (.slice none 0 0)).ownBlock = some b' → ¬ O' b' ∧ b' ≠ W.heap.size ∧ ∀ x vx, x ≠ d → putD f (0, t) u8 x = some vx → vx.ownBlock ≠ some b') := fun b' hb' => by
                      cases hfd : putD f (0, t) u8 d with
                      | none => rw [hfd] at hb'; cases hb'
                      | some vd =>
                        rw [hfd] at hb'
                        exact ⟨hO6.mine d vd b' hfd hb', hO6.notMap hfd hb', fun x vx hx hfx hbx => hO6.apart x d vx vd b' hfx hfd hx hbx hb'⟩
                    obtain ⟨dv, hdv⟩ : ∃ dv, (putD f (0, t) u8 d).getD (.slice none 0 0) = dv := ⟨_, rfl⟩
                    rw [hdv] at hap hdb hsd
                    have hlk : Hid (Sem.run Tryz.prog (Instr.lookup 159 (.map (some W.heap.size)) (.agg #[.int .i64 d.1, .int .i64 d.2]) false) W7 = .ok dv W7) := by
                      rw [← hdv]; exact (hO6.map.same (hb7.block _ hO6.map.lt)).look door_key Tryz.underlying159 (zero_set _) d
                    have hs47 := hs4.kept (W' := W7) fun b' hb' => hb7.block b' (hs4.lt b' hb').2
                    have hsd7 := hsd.kept (W' := W7) fun b' hb' => hb7.block b' (hsd.lt b' hb').2
                    obtain ⟨ad4, c4, hp4e, hc4, -, hr4⟩ := hs47.parts
                    have hjoin := join_any W.heap.size dv wsd ad4 c4 ws4 W7 (Nat.le_trans hO6.base hb7.size) hsd7 (by have := hhd.2; omega) (by have := hh4.2; omega) hc4 hr4 hs47.2 (.inl fun b' hb' => hap.out b'.block (by rw [hp4e, hb']; rfl))
                    rw [← hp4e] at hjoin
                    have hfin : Hid (∀ (w8 : World) (v' : Value), SetO W.heap.size w8 v' (joinL wsd ws4) → W7.grownBy w8 dv.ownBlock → (v'.ownBlock = dv.ownBlock ∨ (v'.ownBlock = some W7.heap.size ∧ W7.grownBy w8 none)) →
                        w8.cell? ⟨wr.heap.size, 0, none⟩ = some (.int .i64 d.1) ∧ w8.cell? ⟨wr.heap.size, 1, none⟩ = some (.int .i64 d.2) ∧ ∃ W9, Sem.run Tryz.prog (Instr.mapUpdate 159 (.map (some W.heap.size)) (.agg #[.int .i64 d.1, .int .i64 d.2]) v') w8 = .ok () W9 ∧ ∃ f', Own2 K W.heap.size W.heap.size (gone (ev es) (k + 1)) f' O' W9 ∧ J (pre ++ [(k, u8)]) O' W9) := by
                      intro w8 v' hS8 hg8 hb8
                      have hz7 := hb7.size
                      have hM8 : DMap w8 W.heap.size (putD f (0, t) u8) := hO6.map.same ((hg8.block _ (by have := hO6.map.lt; omega) (fun e => (hdb.out _ e.symm).2.1 rfl)).trans (hb7.block _ hO6.map.lt))
                      obtain ⟨W9, hput, hM9, hg9, hz9⟩ := hM8.put door_key Tryz.underlying159 d v'
                      have hz8 := hg8.size
                      have hOlt : ∀ b', O' b' → b' < wr.heap.size := hin _ _ _ hJ6.out
                      have hv' : ∀ b', v'.ownBlock = some b' → ¬ O' b' ∧ b' ≠ W.heap.size ∧ ∀ x vx, x ≠ d → putD f (0, t) u8 x = some vx → vx.ownBlock ≠ some b' := fun b' hb' => by
                        rcases hb8 with h | ⟨h, _⟩
                        · exact hdb.out b' (h ▸ hb')
                        · rw [h] at hb'; cases hb'
                          have := hO6.map.lt
                          exact ⟨fun h => by have := hOlt _ h; omega, by omega, fun x vx _ hfx hbx => by obtain ⟨wx, h1, _⟩ := hO6.some_ x vx hfx; have := (h1.lt _ hbx).2; omega⟩
                      have hbx : ∀ x, w8.cell? ⟨wr.heap.size, x, none⟩ = W7.cell? ⟨wr.heap.size, x, none⟩ := fun x => World.cell?_of_block (w := W7) (a := ⟨wr.heap.size, x, none⟩) (hg8.block _ (by rw [← hW7]; show wr.heap.size < ((wr.alloc _).drew).heap.size; simp) (fun e => by have := (hsd.lt wr.heap.size e.symm).2; omega))
                      refine ⟨by rw [hbx, ← hW7]; simp, by rw [hbx, ← hW7]; simp, W9, hput, putD (putD f (0, t) u8) d v', ?_, ?_⟩
                      · refine (hO6.replace d (by omega) hM9 (fun x vx b' hx hfx hb' => ?_) (hS8.kept fun b' hb' => hg9.block b' (hS8.lt b' hb').2 (fun e => (hv' b' hb').2.1 (by simpa using e))) (hhd.join hh4) (fun x vx b' hx hfx hb' e => (hv' b' e).2.2 x vx hx hfx hb') (fun _ _ h => h) (fun b' hb' => (hv' b' hb').1)).iff fun x i _ => ?_
                        · obtain ⟨wx, h1, _⟩ := hO6.some_ x vx hfx
                          have hlt := (h1.lt b' hb').2
                          exact (hg9.block b' (by omega) (fun e => hO6.notMap hfx hb' (by simpa using e))).trans ((hg8.block b' (by omega) (fun e => (hdb.out b' e.symm).2.2 x vx hx hfx hb')).trans (hb7.block b' hlt))
                        · rw [gone_after _ _ _ _ t kd o v hevk.out us hus.out, husd, List.mem_singleton]
                          by_cases hx : x = (0, t)
                          · have hxd : x ≠ d := fun e => hdo (e.symm.trans hx)
                            rw [if_neg hxd, if_pos hx, if_pos hx]
                          · by_cases hxd : x = d
                            · rw [if_pos hxd, if_neg hx, hxd]; simp
                            · rw [if_neg hxd, if_neg hx, if_neg hx]; simp [hxd]
                      · refine hJ _ O' wr W9 hJ6.out (by omega) (hg9.os.trans (hg8.os.trans hb7.os)) (hg9.tape.trans (hg8.tape.trans hb7.tape)) (hg9.output.trans (hg8.output.trans hb7.output)) (fun b' hb' => ?_)
                        have hlt := hOlt b' hb'
                        refine (hg9.block b' (by omega) (fun e => ?_)).trans ((hg8.block b' (by omega) (fun e => (hdb.out b' e.symm).1 hb')).trans (hb7.block b' hlt))
                        have e' : b' = W.heap.size := by simpa using e
                        rw [e'] at hb'; exact hO6.mapMine hb'
                    have HJ2 := hide' hjoin
                    have HW7 := hide' hW7
                    have hlk' := hlk.out
                    rw [← hW7] at hlk'
                    have hu1' : 0 < us.length := by omega
                    have Hu1 := hide' hu1
                    clear hjoin hW7 hs4 hs47 hsd hsd7 hr4 hO6 hds2 hp4e hdv hu1 husd hu0
                    gi_wp2_with fail
                    gi_region_with_o (refine ⟨trivial, ?_⟩; gi_at_call 58; rw [HW7.out]; refine (callsIn_wide.2 HJ2.out).mono ?_; rintro e w8 ⟨v', rfl, hS8, hg8, hb8⟩; obtain ⟨hq0, hq1, W9, hput2, hW9⟩ := hfin.out w8 v' hS8 hg8 hb8)
                    all_goals
                      gi_wp2
                      go_roundw
                      case rel => exact .inr ⟨Hu1.out, by go_num, hW9⟩
                      case measure => simp [intOf]; omega
                · have hnl : ¬ (1 < us.length) := by omega
                  gi_wp2
                  go_roundw
                  case rel => exact ⟨k + 1, _, f', O', by omega, Hpl.out, by go_num, hO7, hJ7⟩
                  case measure => simp [intOf]; omega
          · gi_wp2
            refine bodyPost_ret (results_none rfl _ _ _) rfl ?_
            exact ⟨⟨_, rfl⟩, O', .inr ⟨_, by simp; omega, hJx3⟩⟩
    · obtain rfl : k = n := by omega
      gi_wp2
      go_end0
      exact ⟨⟨_, rfl⟩, O, .inl ⟨pre, hpre, hJs⟩⟩
end Go.Proofs.YtlpdomgedaockaaGreatDoor
