import Derived.Test.YtomhdopbbnmcnabFa6
import Derived.Laws.Rows
import Derived.Laws.ResultCell
namespace Go.Proofs.Ytomhdopbbnmcnab
open Go.RowKit Go.Proofs.Ord

theorem pages_pos {pg : Int → List Int} {g : Int → Int} (hg : ∀ u, g u = pageAt pg u) (h64 : ∀ p, (pg p).length ≤ 64) (hn : ∀ u, 0 ≤ g u) : ∀ p i, 0 ≤ (pg p).getD i 0 := fun p i => by
  by_cases hi : i < 64
  · have := hn (64 * p + i); rw [hg, pageAt_at _ _ _ hi] at this; exact this
  · rw [Vec.getD_past _ _ (by have := h64 p; omega)]; exact Int.le_refl _

set_option maxRecDepth 100000 in
set_option maxHeartbeats 1000000 in
/-- Join: the higher one of each. -/
theorem join_st {S : Nat → Prop} {v v' : Value} {g g' : Int → Int} (w : World) (h : StampV S w v g) (h' : StampV S w v' g') (hlt : ∀ x, S x → x < w.heap.size) (hn : ∀ u, 0 ≤ g u) (hn' : ∀ u, 0 ≤ g' u) :
    Calls Try.prog 64 #[v, v'] w fun e w' => ∃ r, e = .returned r ∧ StampV (fun x => S x ∨ (w.heap.size ≤ x ∧ x < w'.heap.size)) w' r (maxF g g') ∧ Below w.heap.size w w' := by
  have Hn := hide hn
  have Hn' := hide hn'
  clear hn hn'
  go_enter Try.func64, Try.ntmps64
  go_wp2_with fail
  refine (leq_any w h' h Hn.out).mono ?_
  rintro e w1 ⟨c1, rfl, hc1, hb1⟩
  have h1 := h.any hb1
  have h1' := h'.any hb1
  cases c1 with
  | true =>
    have HC := hide (hc1.1 rfl)
    go_wp2_with fail
    go_ret
    exact ⟨_, rfl, (h1.mono fun x _ h => .inl h).congr fun u => by have := HC.out u; unfold maxF; omega, hb1⟩
  | false =>
    have HC := hide (fun h => by simpa using hc1.2 h : ¬ ∀ u, g' u ≤ g u)
    clear hc1
    go_wp2_with fail
    refine (leq_any w1 h1 h1' Hn'.out).mono ?_
    rintro e w2 ⟨c2, rfl, hc2, hb2⟩
    have hb12 : Below w.heap.size w w2 := hb1.trans (hb2.mono hb1.size)
    have h2 := h1.any hb2
    have h2' := h1'.any hb2
    cases c2 with
    | true =>
      have HD := hide (hc2.1 rfl)
      go_wp2_with fail
      go_ret
      exact ⟨_, rfl, (h2'.mono fun x _ h => .inl h).congr fun u => by have := HD.out u; unfold maxF; omega, hb12⟩
    | false =>
      have HD := hide (fun h => by simpa using hc2.2 h : ¬ ∀ u, g u ≤ g' u)
      obtain ⟨pg, hg, hp⟩ := h2
      obtain ⟨pg', hg', hp'⟩ := h2'
      have HP := hide (pages_pos hg hp.len64 Hn.out)
      have HG := hide hg
      have HG' := hide hg'
      clear hc2 h h' h1 h1' hg hg'
      rcases hp with ⟨rfl, h0⟩ | ⟨b, f, n, rfl, hS, hM, hPg⟩
      · exact absurd (fun u => by rw [HG.out u]; unfold pageAt; rw [h0]; simpa using Hn'.out u) HD.out
      rcases hp' with ⟨rfl, h0⟩ | ⟨b', f', n', rfl, hS', hM', hPg'⟩
      · exact absurd (fun u => by rw [HG'.out u]; unfold pageAt; rw [h0]; simpa using Hn.out u) HC.out
      go_wp2_with fail
      refine (sclone_any _ hM).mono ?_
      rintro e w3 ⟨rfl, hM3, hb3⟩
      have hz2 := hb12.size
      have HA := hide (add_any (S := S) w3 hM3 (hPg.any hb3) hS' (hM'.same (hb3.block _ hM'.lt)) (hPg'.any hb3) (fun h => by have := hlt _ h; omega) (fun x h => by have := hlt _ h; have := hb3.size; omega) HP.out)
      have hb13 : Below w.heap.size w w3 := hb12.trans (hb3.mono hz2)
      have hz3 := hM3.lt
      clear hM hM' hPg hPg' hM3 hb3
      go_wp2_with fail
      refine (HA.out).mono ?_
      rintro e w4 ⟨f2, n2, qs, rfl, hM4, hP4, hq4, hg4⟩
      have hz4 := hg4.size
      have hb14 : Below w.heap.size w w4 := hb13.grown hg4 hb13.size (fun q e => by cases e; exact hz2)
      have HR := hide (⟨qs, fun u => by unfold maxF; rw [HG.out u, HG'.out u]; unfold pageAt; rw [hq4], .inr ⟨_, f2, n2, rfl, .inr ⟨hz2, by omega⟩, hM4, hP4.mono fun x _ h => h.imp id fun h => ⟨by omega, h.2⟩⟩⟩ : StampV (fun x => S x ∨ (w.heap.size ≤ x ∧ x < w4.heap.size)) w4 (.map (some w2.heap.size)) (maxF g g'))
      clear hM4 hP4 hq4 hg4
      go_wp2_with fail
      go_ret
      exact ⟨_, rfl, HR.out, hb14⟩

set_option maxRecDepth 100000 in
set_option maxHeartbeats 1000000 in
/-- maps.Copy into a map that holds nothing yet. -/
theorem copy_any {S : Nat → Prop} {b : Nat} {v : Value} {pg : Int → List Int} (w : World) (hM : KMap ik w b (fun _ => none) 0) (hp : StampP S w v pg) (hb : ¬ S b) (hlt : ∀ x, S x → x < w.heap.size) :
    Calls Try.prog 89 #[.map (some b), v] w fun e w' => ∃ f2 n2, e = .returned (.tuple #[]) ∧ KMap ik w' b f2 n2 ∧ Pages S w' f2 pg ∧ w.grownBy w' (some b) := by
  rcases hp with ⟨rfl, h0⟩ | ⟨b', f', n', rfl, hS', hM', hP'⟩
  · have hr := run_range_nilMap (P := Try.prog) w 62 _ _ Try.underlying62
    have HM := hide hM
    have H0 := hide h0
    clear hM h0
    go_enter Try.func89, Try.ntmps89
    go_wp2_with fail
    have hx := run_next_nilMap (P := Try.prog) w 0 0 0 #[]
    refine wp_loop_rounds 1 ?_
    rw [rounds_succ]
    go_wp2
    go_end0
    have hbel : Below w.heap.size w (w.alloc (.mapIter none 0 #[] 0)) := (Below.refl _ _).alloc (Nat.le_refl _) _
    exact ⟨fun _ => none, 0, rfl, HM.out.same (hbel.block _ HM.out.lt), ⟨(fun p v h => by cases h), fun p _ => H0.out p⟩, below_grown hbel⟩
  · obtain ⟨W0, hr, hit, hb0, hz0⟩ := hM'.range stamp_key Try.underlying62
    have hne : b' ≠ b := fun e => hb (e ▸ hS')
    have hbl := hM.lt
    have hbl' := hM'.lt
    have HX := hide (hM.same (hb0.block _ hbl))
    have hg0 : w.grownBy W0 (some b) := below_grown hb0
    have HP := hide hP'
    clear hM hM' hP'
    go_enter Try.func89, Try.ntmps89
    go_wp2_with fail
    go_loopw [4, 5, 8, 9, 10, 11, 12, 13, 14, 15] (fun _ _ _ _ _ _ _ _ _ _ wr => ∃ (left : Int → Prop) (f1 : Int → Option Value) (n1 : Nat), KIter ik wr w.heap.size b' f' left ∧ KMap ik wr b f1 n1 ∧ (∀ p, (¬ left p → f1 p = f' p)) ∧ w.grownBy wr (some b)) (fun _ _ _ _ _ _ _ _ _ _ wr => leftN wr w.heap.size b')
    case atStart =>
      refine ⟨_, _, 0, hit, HX.out, fun p h => ?_, hg0⟩
      cases hf : f' p with
      | none => rfl
      | some v => exact absurd (by rw [hf]; rfl) h
    case round =>
      clear hit hb0 hr hg0 HX
      obtain ⟨left, f1, n1, hit, hM, hcp, hg⟩ := hrel
      rcases hit.next stamp_key 0 with ⟨hnone, hnx⟩ | ⟨p, u, w1, hl, hf, hnx, hit1, hlt1, hg1, hz1, hen⟩
      · have HM := hide hM
        have HQ := hide (⟨fun p v h => by
            rw [hcp p (hnone p)] at h
            refine (HP.out.some_ p v h).kept hg.size fun x hx => hg.block x (hlt x hx) (fun e => ?_)
            have e' : x = b := by simpa using e
            exact hb (e' ▸ hx), fun p h => HP.out.none_ p (by rw [← hcp p (hnone p)]; exact h)⟩ : Pages S wr f1 pg)
        have HG := hide hg
        clear hM hcp hnone hit hg
        go_wp2
        go_end0
        exact ⟨f1, n1, rfl, HM.out, HQ.out, HG.out⟩
      · have hrb : b ≠ w.heap.size := by omega
        have hM1 : KMap ik w1 b f1 n1 := hM.same (hg1.block _ hM.lt (by simpa using hrb))
        have hgw1 : w.grownBy w1 (some b) := grown_new hg hg1 (Nat.le_refl _)
        obtain ⟨w3, hrun, hM3, hg3, hz3⟩ := hM1.put stamp_key Try.underlying62 p u
        have hr3 : w3.heap[w.heap.size]? = w1.heap[w.heap.size]? := hg3.block _ hit1.lt (by simp; omega)
        have hb3 : w3.heap[b']? = w1.heap[b']? := hg3.block _ (by have := hg.size; omega) (by simpa using hne)
        have hfin : Hid ((∃ (left : Int → Prop) (f1 : Int → Option Value) (n1 : Nat), KIter ik w3 w.heap.size b' f' left ∧ KMap ik w3 b f1 n1 ∧ (∀ p, (¬ left p → f1 p = f' p)) ∧ w.grownBy w3 (some b)) ∧ leftN w3 w.heap.size b' < leftN wr w.heap.size b') := by
          refine ⟨⟨_, _, _, hit1.same hr3 hb3, hM3, fun q h => ?_, grown_then hgw1 hg3⟩, by rw [leftN_same hr3 hb3]; exact hlt1⟩
          by_cases e : q = p
          · subst e; rw [putK_same, hf]
          · rw [putK_other u e]; exact hcp q fun h' => h ⟨h', e⟩
        have hpk : ik p = .int .i64 p := rfl
        rw [hpk] at hnx hen hrun
        clear hM hcp hit hit1 hlt1 hM1 hg hg1 hgw1 hf hl hM3 hg3 hz3 hr3 hb3
        go_wp2_with fail
        go_roundw
        case rel => exact hfin.out.1
        case measure => exact hfin.out.2

/-- The numbers with one thread's one higher. -/
def tickF (g : Int → Int) (t u : Int) : Int := if u = t then g u + 1 else g u

theorem tick_pages (pg : Int → List Int) (t : Int) (hw : wrap64 (pageAt pg t + 1) = pageAt pg t + 1) (u : Int) :
    pageAt (fun q => if q = t / 64 then Vec.tickV wrap64 (pg (t / 64)) (t % 64) else pg q) u = tickF (pageAt pg) t u := by
  unfold tickF
  by_cases e : u = t
  · subst e
    rw [if_pos rfl, ← hw]
    unfold pageAt
    show (if u / 64 = u / 64 then Vec.tickV wrap64 (pg (u / 64)) (u % 64) else pg (u / 64)).getD (u % 64).toNat 0 = _
    rw [if_pos rfl, Vec.tickV_getD, if_pos (by omega)]
  · rw [if_neg e]
    unfold pageAt
    show (if u / 64 = t / 64 then Vec.tickV wrap64 (pg (t / 64)) (t % 64) else pg (u / 64)).getD (u % 64).toNat 0 = _
    by_cases e2 : u / 64 = t / 64
    · rw [if_pos e2, Vec.tickV_getD, if_neg (by omega), e2]
    · rw [if_neg e2]

set_option maxRecDepth 100000 in
set_option maxHeartbeats 1000000 in
/-- Tick: one thread's number one higher. -/
theorem tick_st {S : Nat → Prop} {v : Value} {g : Int → Int} (t : Int) (w : World) (ht : In64 t) (h : StampV S w v g) (hlt : ∀ x, S x → x < w.heap.size) (h0 : 0 ≤ g t) (h1 : g t < 9223372036854775807) :
    Calls Try.prog 66 #[v, .int .i64 t] w fun e w' => ∃ r, e = .returned r ∧ StampV (fun x => S x ∨ (w.heap.size ≤ x ∧ x < w'.heap.size)) w' r (tickF g t) ∧ Below w.heap.size w w' := by
  obtain ⟨pg, hg, hp⟩ := h
  have HG := hide hg
  have hw : Hid (wrap64 (pageAt pg t + 1) = pageAt pg t + 1) := by
    rw [hg t] at h0 h1
    exact (show wrap64 (pageAt pg t + 1) = pageAt pg t + 1 by unfold wrap64; omega)
  have h64 := hide hp.len64
  obtain ⟨k, hk⟩ : ∃ k : Nat, t % 64 = (k : Int) := Int.eq_ofNat_of_zero_le (by omega)
  have hk64 : k < 64 := by omega
  have HK := hide hk
  clear hk
  have hmm := @run_makeMap Try.prog
  have hbA : Below w.heap.size w (w.alloc (.map #[] 0)) := (Below.refl _ _).alloc (Nat.le_refl _) _
  have hM0 := KMap.made (enc := ik) w
  have HC := hide (copy_any (S := S) (w.alloc (.map #[] 0)) hM0 (hp.any hbA) (fun h => by have := hlt _ h; omega) (fun x h => by have := hlt _ h; simp; omega))
  have HPs := hide hp
  clear hp hM0 h0 h1 hg
  go_enter Try.func66, Try.ntmps66
  go_wp2_with fail
  refine (place_any _ _ ht).mono ?_
  rintro e w' ⟨rfl, rfl⟩
  go_wp2_with fail
  refine HC.out.mono ?_
  rintro e w2 ⟨f2, n2, rfl, hM2, hP2, hg2⟩
  have hz2 := hg2.size
  rw [World.size_alloc] at hz2
  have hb2 : Below w'.heap.size w' w2 := hbA.grown hg2 hbA.size (fun q e => by cases e; exact Nat.le_refl _)
  obtain ⟨u, hlk, a, cap, rfl, hsl, _, _⟩ := (HPs.out.any hb2).look (t / 64)
  have hfin : Hid (∀ (w3 : World) (ru : Value), New w2.heap.size w3 ru (Vec.tickV wrap64 (pg (t / 64)) (t % 64)) → Below w2.heap.size w2 w3 →
      ∃ w4, Sem.run Try.prog (Instr.mapUpdate 62 (.map (some w'.heap.size)) (.int .i64 (t / 64)) ru) w3 = .ok () w4 ∧ StampV (fun x => S x ∨ (w'.heap.size ≤ x ∧ x < w4.heap.size)) w4 (.map (some w'.heap.size)) (tickF g t) ∧ Below w'.heap.size w' w4) := by
    intro w3 ru hn hb3
    have hz3 := hb3.size
    obtain ⟨w4, hrun, hM4, hg4, hz4⟩ := (hM2.same (hb3.block _ hM2.lt)).put stamp_key Try.underlying62 (t / 64) ru
    have hl64 : (Vec.tickV wrap64 (pg (t / 64)) (t % 64)).length ≤ 64 := by rw [HK.out]; exact tickV_len64 _ _ _ (h64.out _) hk64
    have hP3 := ((hP2.any hb3).mono (S' := fun x => S x ∨ (w'.heap.size < x ∧ x < w3.heap.size)) fun x _ h => .inl h).put (t / 64) (hn.page hl64 fun x h1 h2 => .inr ⟨by have := hM2.lt; omega, h2⟩)
    have hP4 := hP3.kept (w' := w4) (by omega) fun x hx => hg4.block x (hx.elim (fun h => by have := hlt x h; omega) (fun h => h.2)) (fun e => by
      have e' : x = w'.heap.size := by simpa using e
      rcases hx with h | h
      · have := hlt x h; omega
      · omega)
    refine ⟨w4, hrun, ⟨_, fun u => ?_, .inr ⟨_, _, _, rfl, .inr ⟨Nat.le_refl _, hM4.lt⟩, hM4, hP4.mono fun x _ h => h.imp id fun h => ⟨by omega, by omega⟩⟩⟩, (hb2.trans (hb3.mono hb2.size)).grown hg4 (by omega) (fun q e => by cases e; exact Nat.le_refl _)⟩
    rw [tick_pages pg t hw.out]
    unfold tickF
    rw [HG.out u]
  clear hM2 hP2 hg2 HC HPs hw
  go_wp2_with (go_at_call 12; refine (tick_said _ _ _ _ _ _ hsl).mono ?_; rintro e w3 ⟨ru, rfl, hn3, hb3⟩; obtain ⟨w4, hrun4, hst4, hbl4⟩ := hfin.out w3 ru hn3 hb3; clear hn3 hb3)
  go_ret
  exact ⟨_, rfl, hst4, hbl4⟩
end Go.Proofs.Ytomhdopbbnmcnab
namespace Go.Proofs.Ytomhdopbbnmcnab
open Go.RowKit Go.Proofs.Ord

theorem flow_key : KeyL pk 91 := by
  refine pair_key Try.underlying91 (fun e d w => ?_) (fun d d' w => ?_)
  · cases e <;> kernel_rfl
  · have u3 := Try.underlying3
    have a3 := Try.isAgg3
    have z3 := Try.sizeOf3
    unfold Op.equal Op.maxDepth pk
    rw [show (10000 : Nat) = 9999 + 1 from rfl, run_equalIn_struct (P := Try.prog) w 9999 91 _ _ (by kernel_rfl) (by kernel_rfl)]
    simp only [Program.fieldsOf, Try.underlying91]
    go_simp
    by_cases h1 : d.fst = d'.fst <;> by_cases h2 : d.snd = d'.snd <;> simp [h1, h2]
theorem zero_stamp (w : World) : (zeroValue 62).run Try.prog w = .ok (.map none) w := by kernel_rfl

theorem door_result {fn : Func} (hf : fn.results = #[.cell 2 91, .tmp 3]) (tmps : Array Value) (w : World) (g : Nat) (d : Int × Int) (t : TypeId) (fr : Nat × Nat) (hp : tmps.getD 2 undef = .pointer (some ⟨g, 0, none⟩)) (hg : w.heap[g]? = some (.cells #[.int .i64 d.1, .int .i64 d.2] t fr)) :
    (results fn tmps).run Try.prog w = .ok (.tuple #[pk d, tmps.getD 3 undef]) w := by
  rw [results_cell_tmp hf, hp]
  have hl := run_loadVar_row (P := Try.prog) w g t 91 #[.int .i64 d.1, .int .i64 d.2] fr _ hg Try.underlying91 rfl (by kernel_rfl)
  simp [asAddr, hl, Result.andThen, pk]
theorem heap_two (w : World) (x y : Obj) : ((w.alloc x).alloc y).heap[w.heap.size + 1]? = some y := by
  have := heap_alloc_new (w.alloc x) y
  rwa [World.size_alloc] at this

set_option maxRecDepth 100000 in
set_option maxHeartbeats 1000000 in
theorem sIn_any (t k o v : Int) (w : World) :
    Calls Try.prog 65 #[evV ⟨t, k, o, v⟩] w fun e w' => e = .returned (.tuple #[pk ((inDoor ⟨t, k, o, v⟩).getD (0, 0)), .bool (inDoor ⟨t, k, o, v⟩).isSome]) ∧ Below w.heap.size w w' := by
  have hb2 : Hid (∀ x y, Below w.heap.size w ((w.alloc x).alloc y)) := fun x y => ((Below.refl _ _).alloc (Nat.le_refl _) _).alloc (by simp) _
  unfold evV inDoor
  by_cases h5 : k = 5
  · subst h5
    go_enter Try.func65, Try.ntmps65
    go_wp2
    exact bodyPost_ret (door_result rfl _ _ (w.heap.size + 1) (1, o) 91 (0, 0) rfl (heap_two w _ _)) rfl ⟨rfl, hb2.out _ _⟩
  by_cases h3 : k = 3
  · subst h3
    go_enter Try.func65, Try.ntmps65
    go_wp2
    exact bodyPost_ret (door_result rfl _ _ (w.heap.size + 1) (2, o) 91 (0, 0) rfl (heap_two w _ _)) rfl ⟨rfl, hb2.out _ _⟩
  by_cases h8 : k = 8
  · subst h8
    go_enter Try.func65, Try.ntmps65
    go_wp2
    exact bodyPost_ret (door_result rfl _ _ (w.heap.size + 1) (0, o) 91 (0, 0) rfl (heap_two w _ _)) rfl ⟨rfl, hb2.out _ _⟩
  rw [if_neg h5, if_neg h3, if_neg h8]
  have k5 : (k == 5) = false := beq_eq_false_iff_ne.2 h5
  have k3 : (k == 3) = false := beq_eq_false_iff_ne.2 h3
  have k8 : (k == 8) = false := beq_eq_false_iff_ne.2 h8
  clear h5 h3 h8
  go_enter Try.func65, Try.ntmps65
  go_wp2
  exact bodyPost_ret (door_result rfl _ _ (w.heap.size + 1) (0, 0) 91 (0, 0) rfl (heap_two w _ _)) rfl ⟨rfl, hb2.out _ _⟩

set_option maxRecDepth 100000 in
set_option maxHeartbeats 1000000 in
theorem sOut_any (t k o v : Int) (w : World) :
    Calls Try.prog 68 #[evV ⟨t, k, o, v⟩] w fun e w' => e = .returned (.tuple #[pk ((outDoor ⟨t, k, o, v⟩).getD (0, 0)), .bool (outDoor ⟨t, k, o, v⟩).isSome]) ∧ Below w.heap.size w w' := by
  have hb2 : Hid (∀ x y, Below w.heap.size w ((w.alloc x).alloc y)) := fun x y => ((Below.refl _ _).alloc (Nat.le_refl _) _).alloc (by simp) _
  unfold evV outDoor
  by_cases h6 : k = 6
  · subst h6
    go_enter Try.func68, Try.ntmps68
    go_wp2
    exact bodyPost_ret (door_result rfl _ _ (w.heap.size + 1) (1, o) 91 (0, 0) rfl (heap_two w _ _)) rfl ⟨rfl, hb2.out _ _⟩
  by_cases h4 : k = 4
  · subst h4
    go_enter Try.func68, Try.ntmps68
    go_wp2
    exact bodyPost_ret (door_result rfl _ _ (w.heap.size + 1) (2, o) 91 (0, 0) rfl (heap_two w _ _)) rfl ⟨rfl, hb2.out _ _⟩
  by_cases h7 : k = 7
  · subst h7
    go_enter Try.func68, Try.ntmps68
    go_wp2
    exact bodyPost_ret (door_result rfl _ _ (w.heap.size + 1) (3, o) 91 (0, 0) rfl (heap_two w _ _)) rfl ⟨rfl, hb2.out _ _⟩
  rw [if_neg h6, if_neg h4, if_neg h7]
  have k6 : (k == 6) = false := beq_eq_false_iff_ne.2 h6
  have k4 : (k == 4) = false := beq_eq_false_iff_ne.2 h4
  have k7 : (k == 7) = false := beq_eq_false_iff_ne.2 h7
  clear h6 h4 h7
  go_enter Try.func68, Try.ntmps68
  go_wp2
  exact bodyPost_ret (door_result rfl _ _ (w.heap.size + 1) (0, 0) 91 (0, 0) rfl (heap_two w _ _)) rfl ⟨rfl, hb2.out _ _⟩

theorem map_len_nil (w : World) : Sem.run Try.prog (Builtin.len_ #[62] 3 #[.map none]) w = .ok (.int .i64 0) w := by kernel_rfl

set_option maxRecDepth 100000 in
set_option maxHeartbeats 1000000 in
/-- put: what tells nothing is left away. -/
theorem put_flow {S : Nat → Prop} {F n : Nat} {f : Int × Int → Option Value} {v : Value} {g : Int → Int} (d : Int × Int) (w : World) (hM : KMap pk w F f n) (h : StampV S w v g) :
    Calls Try.prog 67 #[.map (some F), pk d, v] w fun e w' => ∃ f' n', e = .returned (.tuple #[]) ∧ KMap pk w' F f' n' ∧ (f' = putK f d v ∨ (f' = f ∧ ∀ u, g u = 0)) ∧ w.grownBy w' (some F) := by
  obtain ⟨pg, hg, hp⟩ := h
  obtain ⟨W, hW⟩ : ∃ W, w.alloc (.cells #[.int .i64 d.1, .int .i64 d.2] 91) = W := ⟨_, rfl⟩
  have hbW : Below w.heap.size w W := by rw [← hW]; exact (Below.refl _ _).alloc (Nat.le_refl _) _
  have HM := hide (hM.same (hbW.block _ hM.lt))
  clear hM
  rcases hp with ⟨rfl, h0⟩ | ⟨b, f', n', rfl, hS, hM', hP⟩
  · have hl := map_len_nil
    have H0 : Hid (∀ u, g u = 0) := fun u => by rw [hg u]; unfold pageAt; rw [h0]; rfl
    have hpd : pk d = .agg #[.int .i64 d.1, .int .i64 d.2] := rfl
    clear h0 hg
    rw [hpd]
    go_enter Try.func67, Try.ntmps67
    go_wp2
    go_end0
    exact ⟨f, n, rfl, HM.out, .inr ⟨rfl, H0.out⟩, below_grown hbW⟩
  · have hM1 : KMap ik W b f' n' := hM'.same (hbW.block _ hM'.lt)
    have hl := hM1.len Try.underlying62 3
    have hpd : pk d = .agg #[.int .i64 d.1, .int .i64 d.2] := rfl
    by_cases hn : n' = 0
    · have H0 : Hid (∀ u, g u = 0) := fun u => by rw [hg u]; unfold pageAt; rw [hP.none_ _ (hM1.empty.1 hn _)]; rfl
      subst hn
      clear hg hM' hM1
      rw [hpd]
      go_enter Try.func67, Try.ntmps67
      go_wp2
      go_end0
      exact ⟨f, n, rfl, HM.out, .inr ⟨rfl, H0.out⟩, below_grown hbW⟩
    · obtain ⟨W2, hput, hM2, hg2, hz2⟩ := HM.out.put flow_key Try.underlying60 d (.map (some b))
      have hfin : Hid (KMap pk W2 F (putK f d (.map (some b))) _ ∧ w.grownBy W2 (some F)) := ⟨hM2, grown_then (below_grown hbW) hg2⟩
      have hn' : (0 : Int) < (n' : Int) := by omega
      have hc0 : W.cell? ⟨w.heap.size, 0, none⟩ = some (.int .i64 d.1) := by rw [← hW]; simp
      have hc1 : W.cell? ⟨w.heap.size, 1, none⟩ = some (.int .i64 d.2) := by rw [← hW]; simp
      have hl' : Sem.run Try.prog (Builtin.len_ #[62] 3 #[.map (some b)]) W = .ok (.int .i64 n') W := hl
      clear hg hM' hM1 hM2 hg2 hz2 hn hl
      rw [hpd] at hput ⊢
      go_enter Try.func67, Try.ntmps67
      go_wp2
      go_end0
      exact ⟨_, _, rfl, hfin.out.1, .inl rfl, hfin.out.2⟩
end Go.Proofs.Ytomhdopbbnmcnab
