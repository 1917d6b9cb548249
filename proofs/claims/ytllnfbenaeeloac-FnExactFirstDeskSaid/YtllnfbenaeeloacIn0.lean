/- Walks: spec.l1In. -/
import Derived.Test.YtllnfbenaeeloacBase
namespace Go.Proofs.Ytllnfbenaeeloac
open Go.RowKit

end Go.Proofs.Ytllnfbenaeeloac
