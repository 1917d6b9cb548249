/- Walks: spec.l1In. -/
import Derived.Test.YtdhjchibhlcchaaDoorBase
namespace Go.Proofs.YtdhjchibhlcchaaDoor
open Go.RowKit

end Go.Proofs.YtdhjchibhlcchaaDoor
