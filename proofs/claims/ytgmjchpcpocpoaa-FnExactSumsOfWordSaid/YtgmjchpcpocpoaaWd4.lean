/- Walks: numbers and signs of letters. -/
import Derived.Test.YtgmjchpcpocpoaaWd3
namespace Go.Proofs.Ytgmjchpcpocpoaa
open Go.RowKit

/-- Without its sign. -/
def absI (x : Int) : Int := if x < 0 then -x else x
theorem l1Abs_any (x : Int) (w : World) (h1 : -1000 ≤ x) (h2 : x ≤ 1000) :
    Calls Try.prog 45 #[.int .i64 x] w fun e w' => e = .returned (.int .i64 (absI x)) ∧ w = w' := by
  have hM : ∀ w, Calls Try.prog 64 #[.int .i64 x, .int .i64 (-x)] w fun e w' => e = .returned (.int .i64 (absI x)) ∧ w = w' := by
    intro w
    unfold absI
    by_cases h : -x < x
    · rw [if_neg (by omega)]
      go_enter Try.func64, Try.ntmps64
      go_wp2_with fail
      go_ret
      exact ⟨rfl, rfl⟩
    · by_cases h0 : x < 0
      · rw [if_pos h0]
        clear h0
        go_enter Try.func64, Try.ntmps64
        go_wp2_with fail
        go_ret
        exact ⟨rfl, rfl⟩
      · obtain rfl : x = 0 := by omega
        clear h h0
        go_enter Try.func64, Try.ntmps64
        go_wp2_with fail
        go_ret
        exact ⟨rfl, rfl⟩
  generalize absI x = y at hM
  go_enter Try.func45, Try.ntmps45
  go_wp2_with fail
  refine (hM _).mono ?_; rintro e w1 ⟨rfl, rfl⟩
  go_wp2_with fail
  go_ret
  exact ⟨rfl, rfl⟩
theorem numberOf_any (x : Int) (w : World) (h1 : -1000 ≤ x) (h2 : x ≤ 1000) :
    Calls Try.prog 47 #[.int .i64 x] w fun e w' => e = .returned (.int .i64 (num x)) ∧ w = w' := by
  unfold num
  by_cases h : x < 0
  · rw [if_pos h]
    have h' : x < -x := by omega
    go_enter Try.func47, Try.ntmps47
    go_wp2_with fail
    go_ret
    exact ⟨ret_int (by try omega), rfl⟩
  · rw [if_neg h]
    go_enter Try.func47, Try.ntmps47
    go_wp2_with fail
    go_ret
    exact ⟨ret_int (by try omega), rfl⟩
theorem isNaN_any (x : Int) (w : World) : Calls Try.prog 65 #[.int .i64 x] w fun e w' => e = .returned (.bool false) ∧ w = w' := by
  have hx : (x != x) = false := by simp
  go_enter Try.func65, Try.ntmps65
  go_wp2_with fail
  go_ret
  exact ⟨rfl, rfl⟩
theorem compare_any (x : Int) (w : World) (h : x ≠ 0) : Calls Try.prog 46 #[.int .i64 x, .int .i64 0] w fun e w' => e = .returned (.int .i64 (sgn x)) ∧ w = w' := by
  unfold sgn
  by_cases hx : x < 0
  · rw [if_pos hx]
    clear h
    go_enter Try.func46, Try.ntmps46
    go_wp2_with fail
    refine (isNaN_any x _).mono ?_; rintro e w1 ⟨rfl, rfl⟩
    go_wp2_with fail
    refine (isNaN_any 0 _).mono ?_; rintro e w1 ⟨rfl, rfl⟩
    go_wp2_with fail
    go_ret
    exact ⟨rfl, rfl⟩
  · rw [if_neg hx]
    have h2 : 0 < x := by omega
    clear h
    go_enter Try.func46, Try.ntmps46
    go_wp2_with fail
    refine (isNaN_any x _).mono ?_; rintro e w1 ⟨rfl, rfl⟩
    go_wp2_with fail
    refine (isNaN_any 0 _).mono ?_; rintro e w1 ⟨rfl, rfl⟩
    go_wp2_with fail
    go_ret
    exact ⟨rfl, rfl⟩
end Go.Proofs.Ytgmjchpcpocpoaa
