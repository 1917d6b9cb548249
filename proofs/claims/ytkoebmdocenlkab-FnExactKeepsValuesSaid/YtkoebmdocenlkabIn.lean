/- Answers of a text and a bool. -/
import Derived.Test.YtkoebmdocenlkabAns
import Derived.Test.YtkoebmdocenlkabIn0
namespace Go.Proofs.Ytkoebmdocenlkab
open Go.RowKit

/-- An answer of a text and a bool. -/
def ans2 (o : Option ByteArray) : Value := .tuple #[.string (o.getD ⟨#[]⟩), .bool o.isSome]

end Go.Proofs.Ytkoebmdocenlkab
