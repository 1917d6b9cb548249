/- Walks: spec.trMirror, trJoin, trCommon. -/
import Derived.Test.YtkoebmdocenlkabDoorSpecTr
namespace Go.Proofs.YtkoebmdocenlkabDoor
open Go.RowKit

end Go.Proofs.YtkoebmdocenlkabDoor
