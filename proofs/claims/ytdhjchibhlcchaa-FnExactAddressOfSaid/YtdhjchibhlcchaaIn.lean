/- Answers of a text and a bool. -/
import Derived.Test.YtdhjchibhlcchaaAns
import Derived.Test.YtdhjchibhlcchaaIn0
namespace Go.Proofs.Ytdhjchibhlcchaa
open Go.RowKit

/-- An answer of a text and a bool. -/
def ans2 (o : Option ByteArray) : Value := .tuple #[.string (o.getD ⟨#[]⟩), .bool o.isSome]

end Go.Proofs.Ytdhjchibhlcchaa
