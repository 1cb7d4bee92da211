import Derived.Test.YtohnhfopigjpmaaDoorRacesAll
import Derived.Shelf.SlSortCmp.NoneTotal
import Derived.Shelf.Lay
import Derived.Ground.SlsfProg
namespace Go.Proofs
open Go.Shelf Go.RowKit Go.Lib Go.Sort
shelf_lay_g SlLaysF0.n6 Slsf 6 at Tryd 17 as Tryd.sortP
end Go.Proofs
namespace Go.Proofs.YtohnhfopigjpmaaDoor
open Go.RowKit Go.Shelf Go.Proofs.Ord Go.Sort

theorem prs_get (ps : List (Nat × Nat)) (j c : Nat) (hj : j < ps.length) (hc : c < 2) : (prs ps)[j * 2 + c]? = some ((encP (ps.getD j (0, 0)))[c]!) := by
  induction ps generalizing j with
  | nil => simp at hj
  | cons p ps ih =>
    cases j with
    | zero => rcases c with _ | _ | c <;> first | rfl | omega
    | succ j =>
      have h := ih j (by simpa using hj)
      have e : (j + 1) * 2 + c = j * 2 + c + 1 + 1 := by omega
      rw [e]
      simpa [prs] using h

theorem arr_getD (ps : List (Nat × Nat)) (j : Nat) : ps.toArray[j]! = ps.getD j (0, 0) := by
  simp [List.getD_eq_getElem?_getD, getElem!_def]
  cases ps[j]? <;> rfl

set_option maxHeartbeats 1000000 in
theorem sort_said : SortSaid := by
  intro w B v ps hB hv hlen
  rcases hv.2 with ⟨rfl, h0⟩ | ⟨g, cap, cur, rfl, hBg, hg, hnc, hcm, hcs, htake⟩
  · have hnil : ps = [] := List.eq_nil_of_length_eq_zero h0
    subst hnil
    refine (AnyF.slices_SortFunc_none { Tryd.sortP with } none 0 _ w).mono ?_
    rintro e w' ⟨rfl, rfl⟩
    exact ⟨rfl, ⟨none, 0, by simp, by simp, by unfold maxLen; omega, fun i hi => by simp at hi⟩, Below.refl _ _⟩
  · have hgl : g < w.heap.size := (hv.lt g rfl).2
    have hH : HoldsK encP 2 w g 0 ps.toArray := by
      intro t ht
      rw [size_flatK] at ht
      have ht' : t < ps.length * 2 := by simpa using ht
      have hcell := hv.cells (g := g) rfl t ((encP (ps.getD (t / 2) (0, 0)))[t % 2]!) (by
        have := prs_get ps (t / 2) (t % 2) (by omega) (by omega)
        rwa [show t / 2 * 2 + t % 2 = t by omega] at this)
      refine ⟨?_, ?_⟩
      · rw [get_flatK encP 2 _ t ht, arr_getD]; rw [Nat.zero_add]; by_cases h : t = 0
        · subst h; simpa [Addr.add] using hcell
        · simpa [Addr.add, h] using hcell
      · simp [World.frozen?, hg]
    have eg : ∀ args w, (callFunc 18 args).run Tryd.prog w = .ok (.enter 18 args) w := enters_of Tryd.func18 (by kernel_rfl) rfl
    have hcon := AnyQ.slices_SortFunc_total Tryd.sortP 2 Tryd.isAgg32 Tryd.sizeOf32 encP (fun _ => rfl) (fun x v hv => by simp [encP] at hv; rcases hv with rfl | rfl <;> rfl) cmpP swoP 18 #[] g 0 cap ps.toArray w eg (fun _ _ _ _ x y => closure_any x y _) hH hgl (by simpa using hlen) totP
    have hml : (ps.mergeSort fun x y => !(ltOf cmpP) y x).length = ps.length := (List.mergeSort_perm _ _).length_eq
    refine hcon.mono ?_
    rintro e w' ⟨rfl, n', os, rfl⟩
    have hH2 := holdsK_sortWorldK encP 2 w g 0 n' ps.toArray (ps.mergeSort fun x y => !(ltOf cmpP) y x).toArray os hgl hH (by simp [hml])
    generalize (ps.mergeSort fun x y => !(ltOf cmpP) y x) = qs at hml hH2 ⊢
    refine ⟨rfl, ⟨some ⟨g, 0, none⟩, cap, by rw [hml], by omega, hcm, fun i hi => ⟨g, 0, rfl, hBg, lt_sortWorldK encP 2 w g 0 n' _ os hgl, ?_⟩⟩, ?_⟩
    · have e0 := hH2 (i * 2) (by rw [size_flatK]; simp; omega)
      have e1 := hH2 (i * 2 + 1) (by rw [size_flatK]; simp; omega)
      rw [get_flatK encP 2 _ _ (by simp; omega), arr_getD, show i * 2 / 2 = i by omega, show i * 2 % 2 = 0 by omega] at e0
      rw [get_flatK encP 2 _ _ (by simp; omega), arr_getD, show (i * 2 + 1) / 2 = i by omega, show (i * 2 + 1) % 2 = 1 by omega] at e1
      exact ⟨e0.1, e1.1, e0.2, e1.2⟩
    · refine ⟨rfl, rfl, rfl, size_sortWorldK_c encP 2 w g 0 n' _ os, fun b hb => ?_⟩
      have hb1 : b < w.heap.size := by omega
      have hb2 : b ≠ g := by omega
      show ((w.heap.modify g _) ++ os)[b]? = w.heap[b]?
      rw [Array.getElem?_append_left (by rw [Array.size_modify]; exact hb1), Array.getElem?_modify, if_neg (Ne.symm hb2)]

/-- What Races answers, where the table of the lowest bits lies in its variable. -/
theorem races_said : RacesSaid := fun a n cap l w hlen hs hc hm hn hT => races_any sort_said a n cap l w hlen hs hc hm hn hT
end Go.Proofs.YtohnhfopigjpmaaDoor
