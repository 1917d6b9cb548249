/- Answers of a text and a bool. -/
import Derived.Test.YtlcepokenaiggaaDoorAns
import Derived.Test.YtlcepokenaiggaaDoorIn0
namespace Go.Proofs.YtlcepokenaiggaaDoor
open Go.RowKit

/-- An answer of a text and a bool. -/
def ans2 (o : Option ByteArray) : Value := .tuple #[.string (o.getD ⟨#[]⟩), .bool o.isSome]

end Go.Proofs.YtlcepokenaiggaaDoor
