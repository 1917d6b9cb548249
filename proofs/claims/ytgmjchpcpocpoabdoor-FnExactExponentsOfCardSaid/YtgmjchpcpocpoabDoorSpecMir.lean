/- Walks: spec.trMirror, trJoin, trCommon. -/
import Derived.Test.YtgmjchpcpocpoabDoorSpecTr
namespace Go.Proofs.YtgmjchpcpocpoabDoor
open Go.RowKit

end Go.Proofs.YtgmjchpcpocpoabDoor
