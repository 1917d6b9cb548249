/- Walk: math/bits.Mul of one and a small number. -/
import Derived.Test.YtlcepokenaiggabBase
namespace Go.Proofs.Ytlcepokenaiggab
open Go.RowKit

end Go.Proofs.Ytlcepokenaiggab
