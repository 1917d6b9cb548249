/- The walk of laws.FnExactHalfOf. -/
import Derived.Test.YtbmegkphmifokaaFr4
import Derived.Test.YtbmegkphmifokaaFr2
import Derived.Test.YtbmegkphmifokaaRegF
namespace Go.Proofs.Ytbmegkphmifokaa
open Go.RowKit

end Go.Proofs.Ytbmegkphmifokaa
