/- Answers of a text and a bool. -/
import Derived.Test.YtkoebmdocenlkaaAns
import Derived.Test.YtkoebmdocenlkaaIn0
namespace Go.Proofs.Ytkoebmdocenlkaa
open Go.RowKit

/-- An answer of a text and a bool. -/
def ans2 (o : Option ByteArray) : Value := .tuple #[.string (o.getD ⟨#[]⟩), .bool o.isSome]

end Go.Proofs.Ytkoebmdocenlkaa
