/- The walk of laws.FnExactRotationPair. -/
import Derived.Test.YtkoebmdocenlkaaBr4
namespace Go.Proofs.Ytkoebmdocenlkaa
open Go.RowKit

set_option maxRecDepth 100000 in
set_option maxHeartbeats 1000000 in
theorem fnExactRotationPair_walk (s0 : ByteArray) (hs0 : s0.size ≤ maxLen) (s1 : ByteArray) (hs1 : s1.size ≤ maxLen) (w : World) :
    Calls Try.prog 8 #[.string s0, .string s1] w fun e w' => e = .returned (.bool true) ∧ Below w.heap.size w w' := by
  unfold maxLen at hs0 hs1
  by_cases hbigs0 : (1048576 : Int) < s0.size
  · go_enter Try.func8, Try.ntmps8
    go_wp2_with fail
    go_ret
    exact ⟨rfl, Below.refl _ _⟩
  by_cases hbigs1 : (1048576 : Int) < s1.size
  · go_enter Try.func8, Try.ntmps8
    go_wp2_with fail
    go_ret
    exact ⟨rfl, Below.refl _ _⟩
  have hS := fun w => specRotationPair_any s0 s1 w (by omega) (by omega)
  have hI := fun w => implRotationPair_any s0 s1 w (by omega) (by omega)
  have hS' : ∀ w, Calls Try.prog 27 #[.string s0, .string s1] w (Gives (ansPr (rotPO s0 s1)) w) := hS
  have hI' : ∀ w, Calls Try.prog 28 #[.string s0, .string s1] w (Gives (ansPr (rotPO s0 s1)) w) := hI
  clear hS hI
  generalize (rotPO s0 s1) = o at hS' hI'
  unfold ansPr at hS' hI'
  generalize pS1 o = A at hS' hI'
  generalize pS2 o = B at hS' hI'
  generalize o.isSome = ok at hS' hI'
  clear o
  go_enter Try.func8, Try.ntmps8
  go_wp2_with fail
  refine (hS' _).mono ?_; rintro e w1 ⟨rfl, hb1⟩
  have hbw1 := nx (Below.refl _ _) hb1
  clear hb1
  go_wp2_with fail
  have hbw2 := nxAlloc hbw1 (.cells #[.string A, .string B] 34 (0, 0))
  have hy0 := heap_alloc_at w1 (.cells #[.string A, .string B] 34 (0, 0))
  generalize w1.alloc (.cells #[.string A, .string B] 34 (0, 0)) = w2 at *
  obtain ⟨ya, yb, yc⟩ := two_facts hy0
  go_wp2_with fail
  refine (hI' _).mono ?_; rintro e w3 ⟨rfl, hb3⟩
  have hbw3 := nx hbw2 hb3
  replace hy0 := heap_keep hb3 hy0
  clear ya yb yc
  obtain ⟨ya, yb, yc⟩ := two_facts hy0
  clear hb3 hbw2
  go_wp2_with fail
  have hbw4 := nxAlloc hbw3 (.cells #[.string A, .string B] 34 (0, 0))
  replace hy0 := heap_keep (nxAlloc (Below.refl _ _) (.cells #[.string A, .string B] 34 (0, 0))) hy0
  have hy1 := heap_alloc_at w3 (.cells #[.string A, .string B] 34 (0, 0))
  generalize w3.alloc (.cells #[.string A, .string B] 34 (0, 0)) = w4 at *
  clear ya yb yc
  obtain ⟨ya, yb, yc⟩ := two_facts hy0
  obtain ⟨za, zb, zc⟩ := two_facts hy1
  go_wp2_with fail
  refine (eqPair_same A B _).mono ?_; rintro e wz ⟨rfl, hbz⟩
  go_wp2_with fail
  go_ret
  exact ⟨rfl, nx hbw4 hbz⟩
end Go.Proofs.Ytkoebmdocenlkaa
