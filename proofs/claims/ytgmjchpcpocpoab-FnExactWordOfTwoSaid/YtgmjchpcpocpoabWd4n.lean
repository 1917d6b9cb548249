/- Walk: impl.numberOf. -/
import Derived.Test.YtgmjchpcpocpoabBase
import Derived.Test.YtgmjchpcpocpoabWdP
namespace Go.Proofs.Ytgmjchpcpocpoab
open Go.RowKit
theorem numberOf_any (x : Int) (w : World) (h1 : -1000 ≤ x) (h2 : x ≤ 1000) :
    Calls Try.prog 71 #[.int .i64 x] w fun e w' => e = .returned (.int .i64 (num x)) ∧ w = w' := by
  unfold num
  by_cases h : x < 0
  · rw [if_pos h]
    have h' : x < -x := by omega
    go_enter Try.func71, Try.ntmps71
    go_wp2_with fail
    go_ret
    exact ⟨ret_int (by try omega), rfl⟩
  · rw [if_neg h]
    go_enter Try.func71, Try.ntmps71
    go_wp2_with fail
    go_ret
    exact ⟨ret_int (by try omega), rfl⟩
end Go.Proofs.Ytgmjchpcpocpoab
