import Derived.Test.YtiaedjnedoemoabOrdGen
namespace Go.Proofs.Ytiaedjnedoemoab
open Go.RowKit Go.Proofs.Ord

/-- What the program's Before answers. -/
def BeforeSaid : Prop := ∀ (a : Option Addr) (n cap : Nat) (l : List Ev) (i j : Int) (w : World), l.length = n → EvS w a l → n ≤ cap → cap ≤ maxLen → n * 32 ≤ 140737488351232 →
  Calls Try.prog 33 #[.slice a n cap, .int .i64 i, .int .i64 j] w fun e w' => e = .returned (.bool (befI l i j)) ∧ Below w.heap.size w w'
theorem befI_nat (l : List Ev) (p q : Nat) (hp : p < l.length) (hq : q < l.length) : befI l p q = bef (ev l) p q := by
  unfold befI
  rw [decide_eq_true (by omega), Bool.true_and]; rfl
theorem BeforeSaid.as (hB : BeforeSaid) {a : Option Addr} {n cap : Nat} {l : List Ev} {p q : Nat} {c : Bool} (hc : bef (ev l) p q = c) (w : World) (hn : l.length = n) (hs : EvS w a l) (h1 : n ≤ cap) (h2 : cap ≤ maxLen) (h3 : n * 32 ≤ 140737488351232) (hp : p < n) (hq : q < n) :
    Calls Try.prog 33 #[.slice a n cap, .int .i64 (p : Int), .int .i64 (q : Int)] w fun e w' => e = .returned (.bool c) ∧ Below w.heap.size w w' := by
  rw [← hc, ← befI_nat l p q (by omega) (by omega)]
  exact hB a n cap l p q w hn hs h1 h2 h3
end Go.Proofs.Ytiaedjnedoemoab
