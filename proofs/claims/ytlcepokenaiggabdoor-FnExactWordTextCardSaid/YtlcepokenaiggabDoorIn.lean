/- Answers of a text and a bool. -/
import Derived.Test.YtlcepokenaiggabDoorAns
import Derived.Test.YtlcepokenaiggabDoorIn0
namespace Go.Proofs.YtlcepokenaiggabDoor
open Go.RowKit

/-- An answer of a text and a bool. -/
def ans2 (o : Option ByteArray) : Value := .tuple #[.string (o.getD ⟨#[]⟩), .bool o.isSome]

end Go.Proofs.YtlcepokenaiggabDoor
