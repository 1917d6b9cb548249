/- Answers of a text and a bool. -/
import Derived.Test.YtllnfbenaeeloacAns
import Derived.Test.YtllnfbenaeeloacIn0
namespace Go.Proofs.Ytllnfbenaeeloac
open Go.RowKit

/-- An answer of a text and a bool. -/
def ans2 (o : Option ByteArray) : Value := .tuple #[.string (o.getD ⟨#[]⟩), .bool o.isSome]

end Go.Proofs.Ytllnfbenaeeloac
