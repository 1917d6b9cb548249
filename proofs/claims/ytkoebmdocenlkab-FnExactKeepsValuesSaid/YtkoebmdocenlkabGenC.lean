/- Walks: generators. -/
import Derived.Test.YtkoebmdocenlkabIsPair
import Derived.Test.YtkoebmdocenlkabPrT
import Derived.Test.YtkoebmdocenlkabGraft
import Derived.Test.YtkoebmdocenlkabComb
namespace Go.Proofs.Ytkoebmdocenlkab
open Go.RowKit

/-- x(i) -/
def genP (i : Nat) : Pr := ((rcomb i).graft i (lcomb 2), rcomb (i + 2))
def genO (n : Int) : Option Pr := if 0 ≤ n ∧ n ≤ 6 then some (genP n.toNat) else none
theorem lcomb2_str : (lcomb 2).str = ⟨#[40, 40, 46, 46, 41, 46, 41]⟩ := by apply ba_ext; rfl

theorem graftO_tr (t u : Tr) (n : Int) (ht : t.carets ≤ 8) (hu : u.carets ≤ 8) : graftO t.str n u.str = if 0 ≤ n ∧ n ≤ t.carets ∧ t.carets + u.carets ≤ 8 then some (t.graft n u).str else none := by
  unfold graftO
  rw [treeOf_str t ht, treeOf_str u hu]
  by_cases h : 0 ≤ n ∧ n ≤ t.carets ∧ t.carets + u.carets ≤ 8
  · have := graft_str t u n h.1 (by unfold Tr.leaves; omega)
    simp [h, this]
  · simp [h]

end Go.Proofs.Ytkoebmdocenlkab
