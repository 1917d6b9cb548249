/- Walks: impl.countLists, spec.trCount, CountTrees of both sides. -/
import Derived.Test.YtgmjchpcpocpoabComb
import Derived.Test.YtgmjchpcpocpoabCountP
namespace Go.Proofs.Ytgmjchpcpocpoab
open Go.RowKit

set_option maxHeartbeats 1000000 in
theorem countLists_any (t c : Nat) (w : World) (ht : 1 ≤ t) (ht' : t ≤ 20) (hc : c ≤ 8) :
    Calls Try.prog 56 #[.int .i64 t, .int .i64 c] w fun e w' => e = .returned (.int .i64 (listsN t c)) ∧ w = w' := by
  go_enter Try.func56, Try.ntmps56
  go_wp2_with fail
  go_loop [6, 13] (fun v i => ∃ k : Nat, k ≤ c ∧ i = .int .i64 k ∧ v = .int .i64 (chM (2 * c + t) k)) (fun _ i => c - (intOf i).toNat)
  case atStart => exact ⟨0, Nat.zero_le _, rfl, rfl⟩
  case round =>
    obtain ⟨k, hk, rfl, rfl⟩ := hrel
    have hb := chM_bd (2 * c + t) k (by omega) (by omega)
    by_cases hlt : (k : Int) < c
    · have hb1 : (0 : Int) ≤ (chM (2 * c + t) k : Int) * (2 * (c : Int) + t - k) ∧ (chM (2 * c + t) k : Int) * (2 * (c : Int) + t - k) ≤ 6553600000000 * 40 := by
        have e : (2 * (c : Int) + t - k) = ((2 * c + t - k : Nat) : Int) := by omega
        rw [e, ← Int.natCast_mul]
        have := Nat.mul_le_mul hb (show 2 * c + t - k ≤ 40 by omega)
        omega
      have hs : Hid (((chM (2 * c + t) k : Nat) : Int) * (2 * (c : Int) + t - k) / ((k : Int) + 1) = (chM (2 * c + t) (k + 1) : Nat)) := by
        show _ = _
        have e : (2 * (c : Int) + t - k) = ((2 * c + t - k : Nat) : Int) := by omega
        rw [e, ← Int.natCast_mul, chM]
        rfl
      go_wp2_with fail
      go_round
      case rel => exact ⟨k + 1, by omega, by go_num, by rw [hs.out]⟩
      case measure => simp [intOf]; omega
    · obtain rfl : k = c := by omega
      have hb1 : (0 : Int) ≤ (chM (2 * k + t) k : Int) * (t : Int) ∧ (chM (2 * k + t) k : Int) * (t : Int) ≤ 6553600000000 * 40 := by
        rw [← Int.natCast_mul]
        have := Nat.mul_le_mul hb (show t ≤ 40 by omega)
        omega
      have hs : Hid (((chM (2 * k + t) k : Nat) : Int) * (t : Int) / (2 * (k : Int) + t) = (listsN t k : Nat)) := by
        show _ = _
        unfold listsN
        rw [← Int.natCast_mul]
        have e : (2 * (k : Int) + t) = ((2 * k + t : Nat) : Int) := by omega
        rw [e]
        rfl
      go_wp2_with fail
      go_ret
      exact ⟨ret_int hs.out, rfl⟩

set_option maxHeartbeats 1000000 in
theorem trCount_any (n : Nat) (w : World) (hn : n ≤ 8) :
    Calls Try.prog 66 #[.int .i64 n] w fun e w' => e = .returned (.int .i64 (catN n)) ∧ w = w' := by
  go_enter Try.func66, Try.ntmps66
  go_wp2_with fail
  go_loop [3, 4] (fun v i => ∃ k : Nat, k ≤ n ∧ i = .int .i64 k ∧ v = .int .i64 (catN k)) (fun _ i => n - (intOf i).toNat)
  case atStart => exact ⟨0, Nat.zero_le _, rfl, rfl⟩
  case round =>
    obtain ⟨k, hk, rfl, rfl⟩ := hrel
    have hb := catN_bd k (by omega)
    by_cases hlt : (k : Int) < n
    · have hb1 : (0 : Int) ≤ (catN k : Int) * 2 * (2 * (k : Int) + 1) ∧ (catN k : Int) * 2 * (2 * (k : Int) + 1) ≤ 1000000 := by
        have e : (catN k : Int) * 2 * (2 * (k : Int) + 1) = ((catN k * 2 * (2 * k + 1) : Nat) : Int) := by simp
        rw [e]
        have := Nat.mul_le_mul (Nat.mul_le_mul_right 2 hb) (show 2 * k + 1 ≤ 17 by omega)
        omega
      have hs : Hid ((catN k : Int) * 2 * (2 * (k : Int) + 1) / ((k : Int) + 2) = (catN (k + 1) : Nat)) := by
        show _ = _
        rw [catN]
        simp
      go_wp2_with fail
      go_round
      case rel => exact ⟨k + 1, by omega, by go_num, by rw [hs.out]⟩
      case measure => simp [intOf]; omega
    · obtain rfl : k = n := by omega
      go_wp2_with fail
      go_ret
      exact ⟨rfl, rfl⟩

/-- An answer of a number and a bool. -/
def ansN (o : Option Nat) : Value := .tuple #[.int .i64 (o.getD 0), .bool o.isSome]
def countO (n : Int) : Option Nat := if 0 ≤ n ∧ n ≤ 8 then some (catN n.toNat) else none

theorem implCountTrees_any (n : Int) (w : World) (_lo : -9223372036854775808 ≤ n) (_hi : n ≤ 9223372036854775807) :
    Calls Try.prog 67 #[.int .i64 n] w (Gives (ansN (countO n)) w) := by
  unfold countO
  by_cases h1 : n < 0
  · rw [if_neg (by omega)]
    go_enter Try.func67, Try.ntmps67
    go_wp2_with fail
    go_ret2
    exact ⟨rfl, Below.refl _ _⟩
  · by_cases h2 : 8 < n
    · rw [if_neg (by omega)]
      go_enter Try.func67, Try.ntmps67
      go_wp2_with fail
      go_ret2
      exact ⟨rfl, Below.refl _ _⟩
    · rw [if_pos (by omega)]
      obtain ⟨k, rfl⟩ : ∃ k : Nat, n = k := ⟨n.toNat, by omega⟩
      have h8 : k ≤ 8 := by omega
      have hk := fun w => countLists_any 1 k w (by omega) (by omega) h8
      rw [lists_cat k h8] at hk
      clear h1 h2
      go_enter Try.func67, Try.ntmps67
      go_wp2_with fail
      refine (hk _).mono ?_; rintro e w1 ⟨rfl, rfl⟩
      go_wp2_with fail
      go_ret2
      exact ⟨rfl, Below.refl _ _⟩
end Go.Proofs.Ytgmjchpcpocpoab
