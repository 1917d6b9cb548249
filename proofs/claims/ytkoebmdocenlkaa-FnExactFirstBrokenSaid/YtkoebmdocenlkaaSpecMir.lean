/- Walks: spec.trMirror, trJoin, trCommon. -/
import Derived.Test.YtkoebmdocenlkaaSpecTr
namespace Go.Proofs.Ytkoebmdocenlkaa
open Go.RowKit

end Go.Proofs.Ytkoebmdocenlkaa
