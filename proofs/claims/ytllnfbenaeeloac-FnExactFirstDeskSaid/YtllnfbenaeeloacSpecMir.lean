/- Walks: spec.trMirror, trJoin, trCommon. -/
import Derived.Test.YtllnfbenaeeloacSpecTr
namespace Go.Proofs.Ytllnfbenaeeloac
open Go.RowKit

end Go.Proofs.Ytllnfbenaeeloac
