/- Walks: strings.CutPrefix with a prefix of one byte. -/
import Derived.Test.YtlcepokenaiggabBase
import Derived.Test.YtlcepokenaiggabTr
namespace Go.Proofs.Ytlcepokenaiggab
open Go.RowKit


def CutOk (s : ByteArray) (r : List UInt8) (w : World) (e : Ending) (w' : World) : Prop :=
  ∃ s' : ByteArray, s'.data.toList = r ∧ s'.size < s.size ∧ e = .returned (.tuple #[.string s', .bool true]) ∧ w = w'

end Go.Proofs.Ytlcepokenaiggab
