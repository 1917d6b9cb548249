/- Walks: spec.trEnd. -/
import Derived.Test.YtlcepokenaiggabRows
import Derived.Test.YtlcepokenaiggabCut
import Derived.WalkKit
import Derived.Deep.Light
namespace Go.Proofs.Ytlcepokenaiggab
open Go.RowKit


end Go.Proofs.Ytlcepokenaiggab
