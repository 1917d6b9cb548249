/- Walks: fractions: toFraction, eqFraction; spec.mpGood, mpIf, mpGcd, mpShort, IsFraction. -/
import Derived.Test.YtdhjchibhlcchaaDoorFrP
import Derived.Test.YtdhjchibhlcchaaDoorIn0
import Derived.Test.YtdhjchibhlcchaaDoorPairK
import Derived.Test.YtdhjchibhlcchaaDoorQuiet
namespace Go.Proofs.YtdhjchibhlcchaaDoor
open Go.RowKit

/-- A fraction as a value. -/
abbrev fv (n d : Int) : Value := .agg #[.int .i64 n, .int .i64 d]

theorem eqFraction_same (n d : Int) (w : World) :
    Calls Tryd.prog 8 #[.agg #[.int .i64 n, .int .i64 d], .agg #[.int .i64 n, .int .i64 d]] w (Gives (.bool true) w) := by
  go_enter Tryd.func8, Tryd.ntmps8
  go_wp2
  go_ret
  exact ⟨rfl, ((Below.refl _ _).alloc (Nat.le_refl _) _).alloc (by simp) _⟩

/-- A fraction as an answer, zeros for none. -/
def fS1 (o : Option (Nat × Nat)) : Int := match o with
  | some x => x.1
  | none => 0
def fS2 (o : Option (Nat × Nat)) : Int := match o with
  | some x => x.2
  | none => 0
def ansF (o : Option (Nat × Nat)) : Value := .tuple #[.agg #[.int .i64 (fS1 o), .int .i64 (fS2 o)], .bool o.isSome]

set_option maxHeartbeats 1000000 in
theorem mpGcd_any (a b : Nat) (w : World) (ha : (a : Int) ≤ 9223372036854775807) (hb : (b : Int) ≤ 9223372036854775807) :
    Calls Tryd.prog 57 #[.int .i64 a, .int .i64 b] w (Gives (.int .i64 (Nat.gcd a b : Nat)) w) := by
  go_enter Tryd.func57, Tryd.ntmps57
  go_wp2_with fail
  go_loopw [0, 1] (fun i j wr => ∃ x y : Nat, i = .int .i64 x ∧ j = .int .i64 y ∧ (x : Int) ≤ 9223372036854775807 ∧ (y : Int) ≤ 9223372036854775807 ∧ Below w.heap.size w wr ∧ Hid (Nat.gcd a b = Nat.gcd x y)) (fun _ j _ => (intOf j).toNat)
  case atStart => exact ⟨a, b, rfl, rfl, ha, hb, Below.refl _ _, rfl⟩
  case round =>
    obtain ⟨x, y, rfl, rfl, hx, hy, hbw, he⟩ := hrel
    by_cases hlt : (0 : Int) < y
    · have he' := he.out
      rw [Nat.gcd_comm x y, Nat.gcd_rec y x, Nat.gcd_comm (x % y) y] at he'
      have hy0 : ((y : Int) == 0) = false := by rw [beq_eq_false_iff_ne]; omega
      have hmod : x % y < y := Nat.mod_lt _ (by omega)
      have HE := Lib.hid he'
      clear he he'
      go_wp2_with fail
      go_quiet (fail)
      go_wp2_with fail
      go_roundw
      case rel => exact ⟨y, x % y, rfl, by go_num, hy, by omega, drewB hbw _, HE⟩
      case measure => simp [intOf]; omega
    · obtain rfl : y = 0 := by omega
      have he' := he.out
      rw [Nat.gcd_zero_right] at he'
      have HE := Lib.hid he'
      clear he he'
      go_wp2_with fail
      go_ret
      exact ⟨ret_int (by rw [HE.out]), hbw⟩
end Go.Proofs.YtdhjchibhlcchaaDoor
