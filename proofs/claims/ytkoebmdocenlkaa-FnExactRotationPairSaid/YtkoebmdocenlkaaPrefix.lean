/- Walk: strings.HasPrefix. -/
import Derived.Test.YtkoebmdocenlkaaBase
namespace Go.Proofs.Ytkoebmdocenlkaa
open Go.RowKit

theorem take_eq_of_short {l p : List UInt8} (h : l.length < p.length) : (l.take p.length == p) = false := by
  rw [beq_eq_false_iff_ne]
  intro e
  have := congrArg List.length e
  simp at this
  omega

set_option linter.unusedVariables false in
theorem hasPrefixL_any (s p : ByteArray) (w : World) (hs : s.size ≤ 9223372036854775806) (hp : p.size ≤ 9223372036854775806) :
    Calls Try.prog 141 #[.string s, .string p] w fun e w' => e = .returned (.bool (s.data.toList.take p.size == p.data.toList)) ∧ w = w' := by
  by_cases h : (p.size : Int) ≤ s.size
  · go_enter Try.func141, Try.ntmps141
    go_wp2
    go_ret
    refine ⟨ret_bool ?_, rfl⟩
    rw [Lib.extract_toList, Lib.toList_data]; simp
  · have hf : (s.data.toList.take p.size == p.data.toList) = false := by
      rw [Lib.size_eq p]; exact take_eq_of_short (by rw [← Lib.size_eq, ← Lib.size_eq]; omega)
    rw [hf]
    clear hf
    go_enter Try.func141, Try.ntmps141
    go_wp2
    go_ret
    exact ⟨rfl, rfl⟩

theorem hasPrefixS_any (s p : ByteArray) (w : World) (hs : s.size ≤ 9223372036854775806) (hp : p.size ≤ 9223372036854775806) :
    Calls Try.prog 140 #[.string s, .string p] w fun e w' => e = .returned (.bool (s.data.toList.take p.size == p.data.toList)) ∧ w = w' := by
  go_enter Try.func140, Try.ntmps140
  go_wp2_with fail
  refine (hasPrefixL_any s p _ hs hp).mono ?_; rintro e w1 ⟨rfl, rfl⟩
  go_wp2_with fail
  go_ret
  exact ⟨rfl, rfl⟩

end Go.Proofs.Ytkoebmdocenlkaa
