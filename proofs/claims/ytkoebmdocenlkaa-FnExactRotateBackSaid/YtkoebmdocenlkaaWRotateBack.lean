/- The walk of laws.FnExactRotateBack. -/
import Derived.Test.YtkoebmdocenlkaaBr3
namespace Go.Proofs.Ytkoebmdocenlkaa
open Go.RowKit

theorem specRotateBack_any (a b : ByteArray) (w : World) (ha : a.size ≤ 9223372036854775806) (hb : b.size ≤ 1048576) :
    Calls Try.prog 16 #[.string a, .string b] w (Gives (ansV (turnO true a b)) w) := by
  have hG := fun w => brGiven_any true a b w ha (by omega)
  unfold ansV at hG ⊢
  generalize trS (turnO true a b) = A at *
  generalize trB (turnO true a b) = B at *
  go_enter Try.func16, Try.ntmps16
  go_wp2_with fail
  refine (hG _).mono ?_; rintro e w1 ⟨rfl, hb1⟩
  go_wp2_with fail
  go_ret2
  exact ⟨rfl, hb1⟩

theorem implRotateBack_any (a b : ByteArray) (w : World) (ha : a.size ≤ 9223372036854775806) (hb : b.size ≤ 1048576) :
    Calls Try.prog 17 #[.string a, .string b] w (Gives (ansV (turnO true a b)) w) := by
  have hG : ∀ w, Calls Try.prog 49 #[.string a, .string b, .func (Fn.func 51) #[] #[]] w (Gives (ansV (turnO true a b)) w) := fun w => turnedTree_any true a b w ha hb
  unfold ansV at hG ⊢
  generalize trS (turnO true a b) = A at *
  generalize trB (turnO true a b) = B at *
  go_enter Try.func17, Try.ntmps17
  go_wp2_with fail
  refine (hG _).mono ?_; rintro e w1 ⟨rfl, hb1⟩
  go_wp2_with fail
  go_ret2
  exact ⟨rfl, hb1⟩

theorem fnExactRotateBack_walk (a : ByteArray) (ha : a.size ≤ maxLen) (b : ByteArray) (hb : b.size ≤ maxLen) (w : World) :
    Calls Try.prog 4 #[.string a, .string b] w fun e w' => e = .returned (.bool true) ∧ Below w.heap.size w w' := by
  unfold maxLen at ha hb
  by_cases hbiga : (1048576 : Int) < a.size
  · go_enter Try.func4, Try.ntmps4
    go_wp2_with fail
    go_ret
    exact ⟨rfl, Below.refl _ _⟩
  by_cases hbigb : (1048576 : Int) < b.size
  · go_enter Try.func4, Try.ntmps4
    go_wp2_with fail
    go_ret
    exact ⟨rfl, Below.refl _ _⟩
  go_enter Try.func4, Try.ntmps4
  go_wp2_with fail
  refine (specRotateBack_any a b _ (by omega) (by omega)).mono ?_; rintro e w1 ⟨rfl, hb1⟩
  unfold ansV
  go_wp2_with fail
  refine (implRotateBack_any a b _ (by omega) (by omega)).mono ?_; rintro e w2 ⟨rfl, hb2⟩
  unfold ansV
  go_wp2_with fail
  go_ret
  exact ⟨rfl, nx hb1 hb2⟩

end Go.Proofs.Ytkoebmdocenlkaa
