/- Walks: spec.trMirror, trJoin, trCommon. -/
import Derived.Test.YtlcepokenaiggabDoorSpecTr
namespace Go.Proofs.YtlcepokenaiggabDoor
open Go.RowKit

end Go.Proofs.YtlcepokenaiggabDoor
