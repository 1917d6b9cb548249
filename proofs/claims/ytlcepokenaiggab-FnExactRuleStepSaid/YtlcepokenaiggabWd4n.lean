/- Walk: impl.numberOf. -/
import Derived.Test.YtlcepokenaiggabBase
import Derived.Test.YtlcepokenaiggabWdP
namespace Go.Proofs.Ytlcepokenaiggab
open Go.RowKit
end Go.Proofs.Ytlcepokenaiggab
