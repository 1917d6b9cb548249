/- Walk: impl.numberOf. -/
import Derived.Test.YtlcepokenaiggabDoorBase
import Derived.Test.YtlcepokenaiggabDoorWdP
namespace Go.Proofs.YtlcepokenaiggabDoor
open Go.RowKit
theorem numberOf_any (x : Int) (w : World) (h1 : -1000 ≤ x) (h2 : x ≤ 1000) :
    Calls Tryd.prog 49 #[.int .i64 x] w fun e w' => e = .returned (.int .i64 (num x)) ∧ w = w' := by
  unfold num
  by_cases h : x < 0
  · rw [if_pos h]
    have h' : x < -x := by omega
    go_enter Tryd.func49, Tryd.ntmps49
    go_wp2_with fail
    go_ret
    exact ⟨ret_int (by try omega), rfl⟩
  · rw [if_neg h]
    go_enter Tryd.func49, Tryd.ntmps49
    go_wp2_with fail
    go_ret
    exact ⟨ret_int (by try omega), rfl⟩
end Go.Proofs.YtlcepokenaiggabDoor
