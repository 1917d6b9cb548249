/- Walks: spec.l1In. -/
import Derived.Test.YtplmbdljhgicfaaBase
namespace Go.Proofs.Ytplmbdljhgicfaa
open Go.RowKit

end Go.Proofs.Ytplmbdljhgicfaa
