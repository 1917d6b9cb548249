/- Walks: impl.readTree, impl.IsTree. -/
import Derived.Test.YtlcepokenaiggabPlace
import Derived.Test.YtlcepokenaiggabTrOf
namespace Go.Proofs.Ytlcepokenaiggab
open Go.RowKit

def ReadNo (w : World) (e : Ending) (w' : World) : Prop :=
  Below w.heap.size w w' ∧ e = .returned (.tuple #[.pointer none, .bool false])

theorem treeOf_of_parse {s : ByteArray} {t : Tr} (h : parseN (s.size + 1) s.data.toList = some (t, [])) (hz : s.size ≤ 25) : treeOf s = some t := by
  have e := str_of_list (show s.data.toList = t.text by simpa using parseN_sound _ _ _ _ h)
  subst e
  exact treeOf_str t (by rw [Tr.str_size] at hz; omega)

end Go.Proofs.Ytlcepokenaiggab
