/- Walks: spec.trEnd. -/
import Derived.Test.YtllnfbenaeeloacRows
import Derived.Test.YtllnfbenaeeloacCut
import Derived.WalkKit
import Derived.Deep.Light
namespace Go.Proofs.Ytllnfbenaeeloac
open Go.RowKit


end Go.Proofs.Ytllnfbenaeeloac
