/- Walks: GraftAt of both sides. -/
import Derived.Test.YtkoebmdocenlkabIn
import Derived.Test.YtkoebmdocenlkabLeaf
namespace Go.Proofs.Ytkoebmdocenlkab
open Go.RowKit

def graftO (a : ByteArray) (n : Int) (b : ByteArray) : Option ByteArray :=
  match treeOf a, treeOf b with
  | some t, some u => if 0 ≤ n ∧ n ≤ t.carets ∧ t.carets + u.carets ≤ 8 then some (graftS a n b) else none
  | _, _ => none

end Go.Proofs.Ytkoebmdocenlkab
