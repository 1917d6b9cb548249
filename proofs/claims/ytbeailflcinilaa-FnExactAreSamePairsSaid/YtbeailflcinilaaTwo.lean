/- Walks: JoinTrees, CommonTree, IsPartOf of both sides. -/
import Derived.Test.YtbeailflcinilaaAns
import Derived.Test.YtbeailflcinilaaJoin
namespace Go.Proofs.Ytbeailflcinilaa
open Go.RowKit

/-- An answer of two bools. -/
def ansB (o : Option Bool) : Value := .tuple #[.bool (o == some true), .bool o.isSome]
theorem com_str (t u : Tr) : ((t.com u).str.toList == t.str.toList) = t.part u := by
  rw [Bool.eq_iff_iff, ← com_eq_part]
  simp only [Lib.toList_data, Tr.str_list, beq_iff_eq]
  constructor
  · intro h
    exact (Tr.text_inj (r := []) (q := []) (by rw [h])).1
  · intro h; rw [h]

end Go.Proofs.Ytbeailflcinilaa
