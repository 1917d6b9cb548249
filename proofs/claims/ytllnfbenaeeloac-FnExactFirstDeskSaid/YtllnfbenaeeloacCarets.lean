/- Walks: spec.trCarets, spec.trIs, spec.IsTree, spec.CaretsOf. -/
import Derived.Test.YtllnfbenaeeloacEnd
namespace Go.Proofs.Ytllnfbenaeeloac
open Go.RowKit

end Go.Proofs.Ytllnfbenaeeloac
