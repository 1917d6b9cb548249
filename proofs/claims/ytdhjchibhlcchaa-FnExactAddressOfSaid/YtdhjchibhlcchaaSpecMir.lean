/- Walks: spec.trMirror, trJoin, trCommon. -/
import Derived.Test.YtdhjchibhlcchaaSpecTr
namespace Go.Proofs.Ytdhjchibhlcchaa
open Go.RowKit

end Go.Proofs.Ytdhjchibhlcchaa
