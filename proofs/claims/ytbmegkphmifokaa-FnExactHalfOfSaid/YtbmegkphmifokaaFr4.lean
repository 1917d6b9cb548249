/- Walks: impl.fractionAt, (Fraction).steps. -/
import Derived.Test.YtbmegkphmifokaaFr3
namespace Go.Proofs.Ytbmegkphmifokaa
open Go.RowKit

theorem pow_even {j : Nat} (h : 1 < 2 ^ j) : ∃ i, 2 ^ j = 2 * 2 ^ i ∧ i < j := by
  cases j with
  | zero => simp at h
  | succ i => exact ⟨i, by rw [Nat.pow_succ]; omega, by omega⟩
theorem half_step {W n s p : Nat} (h : n * W = s * (2 * p)) (hev : n % 2 = 0) : n / 2 * W = s * p := by
  obtain ⟨m, rfl⟩ : ∃ m, n = 2 * m := ⟨n / 2, by omega⟩
  have e : 2 * m / 2 = m := by omega
  rw [e]
  refine Nat.eq_of_mul_eq_mul_left (show 0 < 2 by omega) ?_
  rw [← Nat.mul_assoc, h]
  ac_rfl
theorem frA_end {s n d j : Nat} (h : n * 1048576 = s * d) (hd : d = 2 ^ j) (ho : ¬ 1 < d ∨ n % 2 = 1) : frA s = if isFr n d = true then some (n, d) else none := by
  have hp : 0 < d := by rw [hd]; exact Nat.pow_pos (by omega)
  have e : frOf s = (n, d) := by
    rw [frOf_even h hp]
    apply short_self
    rcases ho with ho | ho
    · obtain rfl : d = 1 := by omega
      exact Nat.gcd_one_right _
    · rw [hd]; exact gcd_odd_pow ho j
  unfold frA
  rw [e]
set_option maxHeartbeats 2000000 in
theorem steps_any (n d : Nat) (w : World) (h : isFr n d = true) :
    Calls Try.prog 47 #[.agg #[.int .i64 n, .int .i64 d]] w (Gives (.int .i64 (stepsOf n d)) w) := by
  obtain ⟨h1, h2, h3, h4⟩ := isFr_iff.1 h
  obtain ⟨k1, k2, k3⟩ := steps_le h
  generalize stepsOf n d = s at *
  have HK := Lib.hid k3
  clear h4 k1 k2 k3 h
  rcases isP2_mem.1 h1 with e | e | e | e | e | e | e | e | e | e | e <;>
    (have e' := congrArg Int.toNat e
     simp at e'
     subst e'
     clear e h1
     go_enter Try.func47, Try.ntmps47
     go_wp2_with fail
     go_quiet (fail)
     go_wp2_with fail
     go_ret
     have := HK.out
     simp at this
     exact ⟨ret_int (by omega), drewB (nxAlloc (Below.refl _ _) _) _⟩)

end Go.Proofs.Ytbmegkphmifokaa
