/- Walks: impl.countCarets (strings.Count at one byte). -/
import Derived.Test.YtllnfbenaeeloacTrOf
import Derived.Test.YtllnfbenaeeloacBase
import Derived.Lib.Bytealg
namespace Go.Proofs.Ytllnfbenaeeloac
open Go.RowKit

end Go.Proofs.Ytllnfbenaeeloac
