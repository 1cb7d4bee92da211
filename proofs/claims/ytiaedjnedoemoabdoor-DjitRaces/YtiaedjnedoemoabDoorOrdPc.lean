import Derived.Test.YtiaedjnedoemoabDoorOrdEv
import Derived.Maps.AppendAt
import Derived.Deep.AppendLies
namespace Go.Proofs.YtiaedjnedoemoabDoor
open Go.RowKit Go.Proofs.Ord

theorem ownsRow_base {w : World} {base base' e size n : Nat} {v : Value} {xs : List Value} (h : w.ownsRow base e size v n xs) (hb : base' ≤ base) : w.ownsRow base' e size v n xs := by
  refine ⟨h.1, ?_⟩
  rcases h.2 with hn | ⟨g, cap, cur, hv, h1, rest⟩
  · exact .inl hn
  · exact .inr ⟨g, cap, cur, hv, by omega, rest⟩
/-- Pairs as cells. -/
def pairCells (ps : List (Nat × Nat)) : List Value := ps.flatMap fun p => [.int .i64 (p.1 : Int), .int .i64 (p.2 : Int)]
theorem pairCells_snoc (ps : List (Nat × Nat)) (i j : Nat) : pairCells (ps ++ [(i, j)]) = pairCells ps ++ [.int .i64 (i : Int), .int .i64 (j : Int)] := by
  simp [pairCells]
theorem pairCells_length (ps : List (Nat × Nat)) : (pairCells ps).length = 2 * ps.length := by
  induction ps with
  | nil => rfl
  | cons p r ih => simp [pairCells] at *; omega
theorem two_new (w : World) (x y : Value) (t : Nat) : ∀ j u, [x, y][j]? = some u → (w.alloc (.cells #[x, y] t)).cell? (Addr.add ⟨w.heap.size, 0, none⟩ j) = some u := by
  intro j u hj
  match j, hj with
  | 0, hj => simp at hj; subst hj; simp [Addr.add]
  | 1, hj => simp at hj; subst hj; simp [Addr.add]
end Go.Proofs.YtiaedjnedoemoabDoor
