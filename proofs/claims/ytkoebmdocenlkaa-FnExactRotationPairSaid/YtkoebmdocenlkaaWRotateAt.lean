/- The walk of laws.FnExactRotateAt. -/
import Derived.Test.YtkoebmdocenlkaaBr3
namespace Go.Proofs.Ytkoebmdocenlkaa
open Go.RowKit

theorem specRotateAt_any (a b : ByteArray) (w : World) (ha : a.size ≤ 9223372036854775806) (hb : b.size ≤ 1048576) :
    Calls Try.prog 14 #[.string a, .string b] w (Gives (ansV (turnO false a b)) w) := by
  have hG := fun w => brGiven_any false a b w ha (by omega)
  unfold ansV at hG ⊢
  generalize trS (turnO false a b) = A at *
  generalize trB (turnO false a b) = B at *
  go_enter Try.func14, Try.ntmps14
  go_wp2_with fail
  refine (hG _).mono ?_; rintro e w1 ⟨rfl, hb1⟩
  go_wp2_with fail
  go_ret2
  exact ⟨rfl, hb1⟩

theorem implRotateAt_any (a b : ByteArray) (w : World) (ha : a.size ≤ 9223372036854775806) (hb : b.size ≤ 1048576) :
    Calls Try.prog 15 #[.string a, .string b] w (Gives (ansV (turnO false a b)) w) := by
  have hG : ∀ w, Calls Try.prog 49 #[.string a, .string b, .func (Fn.func 50) #[] #[]] w (Gives (ansV (turnO false a b)) w) := fun w => turnedTree_any false a b w ha hb
  unfold ansV at hG ⊢
  generalize trS (turnO false a b) = A at *
  generalize trB (turnO false a b) = B at *
  go_enter Try.func15, Try.ntmps15
  go_wp2_with fail
  refine (hG _).mono ?_; rintro e w1 ⟨rfl, hb1⟩
  go_wp2_with fail
  go_ret2
  exact ⟨rfl, hb1⟩

theorem fnExactRotateAt_walk (a : ByteArray) (ha : a.size ≤ maxLen) (b : ByteArray) (hb : b.size ≤ maxLen) (w : World) :
    Calls Try.prog 3 #[.string a, .string b] w fun e w' => e = .returned (.bool true) ∧ Below w.heap.size w w' := by
  unfold maxLen at ha hb
  by_cases hbiga : (1048576 : Int) < a.size
  · go_enter Try.func3, Try.ntmps3
    go_wp2_with fail
    go_ret
    exact ⟨rfl, Below.refl _ _⟩
  by_cases hbigb : (1048576 : Int) < b.size
  · go_enter Try.func3, Try.ntmps3
    go_wp2_with fail
    go_ret
    exact ⟨rfl, Below.refl _ _⟩
  go_enter Try.func3, Try.ntmps3
  go_wp2_with fail
  refine (specRotateAt_any a b _ (by omega) (by omega)).mono ?_; rintro e w1 ⟨rfl, hb1⟩
  unfold ansV
  go_wp2_with fail
  refine (implRotateAt_any a b _ (by omega) (by omega)).mono ?_; rintro e w2 ⟨rfl, hb2⟩
  unfold ansV
  go_wp2_with fail
  go_ret
  exact ⟨rfl, nx hb1 hb2⟩

end Go.Proofs.Ytkoebmdocenlkaa
