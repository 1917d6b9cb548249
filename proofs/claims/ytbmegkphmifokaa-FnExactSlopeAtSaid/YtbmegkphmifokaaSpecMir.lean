/- Walks: spec.trMirror, trJoin, trCommon. -/
import Derived.Test.YtbmegkphmifokaaSpecTr
namespace Go.Proofs.Ytbmegkphmifokaa
open Go.RowKit

end Go.Proofs.Ytbmegkphmifokaa
