/- Walks: numbers and signs of letters. -/
import Derived.Test.YtlcepokenaiggabDoorWd3
namespace Go.Proofs.YtlcepokenaiggabDoor
open Go.RowKit

/-- Without its sign. -/
def absI (x : Int) : Int := if x < 0 then -x else x
theorem l1Abs_any (x : Int) (w : World) (h1 : -1000 ≤ x) (h2 : x ≤ 1000) :
    Calls Tryd.prog 47 #[.int .i64 x] w fun e w' => e = .returned (.int .i64 (absI x)) ∧ w = w' := by
  have hM : ∀ w, Calls Tryd.prog 74 #[.int .i64 x, .int .i64 (-x)] w fun e w' => e = .returned (.int .i64 (absI x)) ∧ w = w' := by
    intro w
    unfold absI
    by_cases h : -x < x
    · rw [if_neg (by omega)]
      go_enter Tryd.func74, Tryd.ntmps74
      go_wp2_with fail
      go_ret
      exact ⟨rfl, rfl⟩
    · by_cases h0 : x < 0
      · rw [if_pos h0]
        clear h0
        go_enter Tryd.func74, Tryd.ntmps74
        go_wp2_with fail
        go_ret
        exact ⟨rfl, rfl⟩
      · obtain rfl : x = 0 := by omega
        clear h h0
        go_enter Tryd.func74, Tryd.ntmps74
        go_wp2_with fail
        go_ret
        exact ⟨rfl, rfl⟩
  generalize absI x = y at hM
  go_enter Tryd.func47, Tryd.ntmps47
  go_wp2_with fail
  refine (hM _).mono ?_; rintro e w1 ⟨rfl, rfl⟩
  go_wp2_with fail
  go_ret
  exact ⟨rfl, rfl⟩
theorem numberOf_any (x : Int) (w : World) (h1 : -1000 ≤ x) (h2 : x ≤ 1000) :
    Calls Tryd.prog 49 #[.int .i64 x] w fun e w' => e = .returned (.int .i64 (num x)) ∧ w = w' := by
  unfold num
  by_cases h : x < 0
  · rw [if_pos h]
    have h' : x < -x := by omega
    go_enter Tryd.func49, Tryd.ntmps49
    go_wp2_with fail
    go_ret
    exact ⟨ret_int (by try omega), rfl⟩
  · rw [if_neg h]
    go_enter Tryd.func49, Tryd.ntmps49
    go_wp2_with fail
    go_ret
    exact ⟨ret_int (by try omega), rfl⟩
end Go.Proofs.YtlcepokenaiggabDoor
