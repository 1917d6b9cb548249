/- Walk: impl.IsPair. -/
import Derived.Test.YtllnfbenaeeloacPair
import Derived.Test.YtllnfbenaeeloacRegT
import Derived.Test.YtllnfbenaeeloacPairK
namespace Go.Proofs.Ytllnfbenaeeloac
open Go.RowKit

theorem isTree_yes' (t : Tr) (w : World) (h : t.carets ≤ 8) : Calls Try.prog 18 #[.string t.str] w (Gives (.bool true) w) := (implIsTree_yes t w h).mono fun _ _ ⟨h1, h2⟩ => ⟨h2, h1⟩
theorem isTree_no' (s : ByteArray) (w : World) (hs : s.size ≤ 9223372036854775806) (h : treeOf s = none) : Calls Try.prog 18 #[.string s] w (Gives (.bool false) w) := (implIsTree_no s w hs h).mono fun _ _ ⟨h1, h2⟩ => ⟨h2, h1⟩

end Go.Proofs.Ytllnfbenaeeloac
