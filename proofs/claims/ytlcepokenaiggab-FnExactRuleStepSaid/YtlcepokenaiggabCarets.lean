/- Walks: spec.trCarets, spec.trIs, spec.IsTree, spec.CaretsOf. -/
import Derived.Test.YtlcepokenaiggabEnd
namespace Go.Proofs.Ytlcepokenaiggab
open Go.RowKit

end Go.Proofs.Ytlcepokenaiggab
