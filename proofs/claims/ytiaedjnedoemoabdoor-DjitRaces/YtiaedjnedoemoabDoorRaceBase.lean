import Derived.Test.YtiaedjnedoemoabDoorRaceMath
namespace Go.Proofs.YtiaedjnedoemoabDoor
open Go.RowKit Go.Proofs.Ord

theorem yield_any {m : Nat} (m' : Nat) {P : Program} {l : Nat} {args : Array Value} {W : World} {R : Ending → World → Prop} (h : YieldAt Fence.wide m P l args W R) : YieldAt Fence.wide m' P l args W R := by
  obtain ⟨fn, tmps, assign, body, hy, hR⟩ := h
  exact ⟨fn, tmps, assign, body, hy, hR.1, fun c cs _ => hR.2 c cs (room_wide _)⟩
theorem SeqF.any {α : Type} {n : Nat} (m : Nat) {P : Program} {g : Nat} {lb : Array Value} {encs : α → Array Value} {Base : Side} {E : List α → α → Side → World → Prop} {S Sp : List α → Prop} {w : World} (h : SeqF Fence.wide n P g lb encs Base E S Sp w) : SeqF Fence.wide m P g lb encs Base E S Sp w :=
  fun l J Jx W hW hJ hJx hin hbase hY h0 => callsIn_wide.2 (callsIn_wide.1 (h l J Jx W hW hJ hJx hin hbase (fun pre x O W1 hj he => yield_any _ (hY pre x O W1 hj he)) h0))
theorem stops_any {α : Type} {n : Nat} (m : Nat) {P : Program} {g : Nat} {lb : Array Value} {encs : α → Array Value} {Kp : World → World → Prop} {S Sp : List α → Prop} {N : Nat} {w : World} (h : SeqStopsK Fence.wide n P g lb encs Kp S Sp N w) : SeqStopsK Fence.wide m P g lb encs Kp S Sp N w :=
  fun l J Jx W hW hJ hJx hY h0 => callsIn_wide.2 (callsIn_wide.1 (h l J Jx W hW hJ hJx (fun pre x W1 hj hl => yield_any _ (hY pre x W1 hj hl)) h0))

/-- The races of one event, the first ones of them among the K events from one on. -/
def rfOne (l : Nat → Ev) (from_ K j : Nat) : List (Nat × Nat) := ((List.range (min j K)).filter fun i => race l (from_ + i) (from_ + j)).map fun i => (from_ + i, from_ + j)
/-- .. and of the first n of them. -/
def rf (l : Nat → Ev) (from_ K n : Nat) : List (Nat × Nat) := (List.range n).flatMap (rfOne l from_ K)
theorem rf_succ (l : Nat → Ev) (from_ K n : Nat) : rf l from_ K (n + 1) = rf l from_ K n ++ rfOne l from_ K n := by simp [rf, List.range_succ]
theorem rfOne_len (l : Nat → Ev) (from_ K j : Nat) : (rfOne l from_ K j).length ≤ j := by
  unfold rfOne
  rw [List.length_map]
  have := List.length_filter_le (fun i => race l (from_ + i) (from_ + j)) (List.range (min j K))
  rw [List.length_range] at this
  omega
theorem rf_len (l : Nat → Ev) (from_ K n : Nat) : (rf l from_ K n).length ≤ n * n := by
  induction n with
  | zero => simp [rf]
  | succ n ih =>
    rw [rf_succ, List.length_append]
    have := rfOne_len l from_ K n
    have e : (n + 1) * (n + 1) = n * n + n + (n + 1) := by rw [Nat.add_mul, Nat.mul_add]; omega
    omega

/-- Pairs in cells. -/
def prs (ps : List (Nat × Nat)) : List Value := ps.flatMap fun p => [.int .i64 (p.1 : Int), .int .i64 (p.2 : Int)]
theorem prs_len (ps : List (Nat × Nat)) : (prs ps).length = ps.length * 2 := by
  induction ps with
  | nil => rfl
  | cons d ds ih => simp only [prs, List.flatMap_cons, List.length_append, List.length_cons, List.length_nil] at ih ⊢; omega
theorem prs_append (ps qs : List (Nat × Nat)) : prs (ps ++ qs) = prs ps ++ prs qs := by simp [prs]

theorem Tryd.infoP : (Tryd.prog.info? 30).map (fun i => (i.zero, i.size, i.bytes)) = some (some (.agg #[.int .i64 0, .int .i64 0]), 2, 16) := by kernel_rfl

/-- What without tells of an event's rivals: its races. -/
theorem rivals_without {s o : List Nat} {K k from_ : Nat} {l : List Ev} 
    (hs : Holds s K (fun i => i < k ∧ ((ev l (from_ + k)).kind, (ev l (from_ + k)).obj) ∈ rivals (ev l (from_ + i)))) (ho : Holds o K (fun i => bef (ev l) (from_ + i) (from_ + k) = true)) :
    (allW s o s.length).map (fun i => (from_ + i, from_ + k)) = rfOne (ev l) from_ K k := by
  unfold rfOne
  congr 1
  rw [allW_filter]
  have hP : ∀ i, (bitOf s i && !bitOf o i) = true ↔ i < min k K ∧ race (ev l) (from_ + i) (from_ + k) = true := fun i => by
    rw [Bool.and_eq_true, Bool.not_eq_true']
    constructor
    · rintro ⟨h1, h2⟩
      obtain ⟨h3, h4, h5⟩ := (hs.1 i).1 h1
      refine ⟨by omega, (race_iff _ (by omega)).2 ⟨h5, ?_⟩⟩
      cases hb : bef (ev l) (from_ + i) (from_ + k) with
      | false => rfl
      | true => rw [(ho.1 i).2 ⟨h3, hb⟩] at h2; cases h2
    · rintro ⟨h1, h2⟩
      obtain ⟨h3, h4⟩ := (race_iff _ (by omega)).1 h2
      refine ⟨(hs.1 i).2 ⟨by omega, by omega, h3⟩, ?_⟩
      cases hb : bitOf o i with
      | false => rfl
      | true => have h5 : bef (ev l) (from_ + i) (from_ + k) = true := ((ho.1 i).1 hb).2
                rw [h4] at h5; cases h5
  have hlen : ∀ i, (bitOf s i && !bitOf o i) = true → i < 64 * s.length := fun i h => by
    rw [Bool.and_eq_true] at h
    by_cases hi : i / 64 < s.length
    · omega
    · have := h.1; unfold bitOf at this; rw [getDN_past (by omega)] at this; simp at this
  rw [filter_range_ext hlen (m := min k K) (fun i h => ((hP i).1 h).1)]
  apply List.filter_congr
  intro i hi
  apply Bool.eq_iff_iff.2
  rw [hP i]
  exact ⟨fun h => h.2, fun h => ⟨List.mem_range.1 hi, h⟩⟩
theorem access_key : KeyT 71 := by
  refine ⟨fun e d w => ?_, fun d d' w => ?_, ⟨_, Tryd.underlying71⟩⟩
  · cases e <;> kernel_rfl
  · have u3 := Tryd.underlying3
    have a3 := Tryd.isAgg3
    have z3 := Tryd.sizeOf3
    unfold Op.equal Op.maxDepth dk
    rw [show (10000 : Nat) = 9999 + 1 from rfl, run_equalIn_struct (P := Tryd.prog) w 9999 71 _ _ (by kernel_rfl) (by kernel_rfl)]
    simp only [Program.fieldsOf, Tryd.underlying71]
    go_simp
    by_cases h1 : d.fst = d'.fst <;> by_cases h2 : d.snd = d'.snd <;> simp [h1, h2]

end Go.Proofs.YtiaedjnedoemoabDoor
