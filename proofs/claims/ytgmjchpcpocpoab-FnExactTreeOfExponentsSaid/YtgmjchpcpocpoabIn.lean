/- Answers of a text and a bool. -/
import Derived.Test.YtgmjchpcpocpoabAns
import Derived.Test.YtgmjchpcpocpoabIn0
namespace Go.Proofs.Ytgmjchpcpocpoab
open Go.RowKit

/-- An answer of a text and a bool. -/
def ans2 (o : Option ByteArray) : Value := .tuple #[.string (o.getD ⟨#[]⟩), .bool o.isSome]

end Go.Proofs.Ytgmjchpcpocpoab
