/- Walks: (*node).isLeaf, (*node).text. -/
import Derived.Test.YtlcepokenaiggabNode
import Derived.Test.YtlcepokenaiggabSpecTr
import Derived.Test.YtlcepokenaiggabQuiet
namespace Go.Proofs.Ytlcepokenaiggab
open Go.RowKit

end Go.Proofs.Ytlcepokenaiggab
