/- Walks: spec.trMirror, trJoin, trCommon. -/
import Derived.Test.YtkoebmdocenlkabSpecTr
namespace Go.Proofs.Ytkoebmdocenlkab
open Go.RowKit

end Go.Proofs.Ytkoebmdocenlkab
