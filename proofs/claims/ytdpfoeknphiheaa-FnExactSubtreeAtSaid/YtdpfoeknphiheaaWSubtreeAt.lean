/- The walk of laws.FnExactSubtreeAt. -/
import Derived.Test.YtdpfoeknphiheaaSpecAt
namespace Go.Proofs.Ytdpfoeknphiheaa
open Go.RowKit

theorem fnExactSubtreeAt_walk (a : ByteArray) (ha : a.size ≤ maxLen) (b : ByteArray) (hb : b.size ≤ maxLen) (w : World) :
    Calls Try.prog 11 #[.string a, .string b] w fun e w' => e = .returned (.bool true) ∧ Below w.heap.size w w' := by
  unfold maxLen at ha hb
  by_cases hbiga : (1048576 : Int) < a.size
  · go_enter Try.func11, Try.ntmps11
    go_wp2_with fail
    go_ret
    exact ⟨rfl, Below.refl _ _⟩
  by_cases hbigb : (1048576 : Int) < b.size
  · go_enter Try.func11, Try.ntmps11
    go_wp2_with fail
    go_ret
    exact ⟨rfl, Below.refl _ _⟩
  go_enter Try.func11, Try.ntmps11
  go_wp2_with fail
  refine (specSubtreeAt_any a b _ (by omega) (by omega)).mono ?_; rintro e w1 ⟨rfl, hb1⟩
  unfold ansV
  go_wp2_with fail
  refine (implSubtreeAt_any a b _ (by omega) (by omega)).mono ?_; rintro e w2 ⟨rfl, hb2⟩
  unfold ansV
  go_wp2_with fail
  go_ret
  exact ⟨rfl, nx hb1 hb2⟩

end Go.Proofs.Ytdpfoeknphiheaa
