/- Walks: spec.l1In. -/
import Derived.Test.YtlcepokenaiggaaDoorBase
namespace Go.Proofs.YtlcepokenaiggaaDoor
open Go.RowKit

end Go.Proofs.YtlcepokenaiggaaDoor
