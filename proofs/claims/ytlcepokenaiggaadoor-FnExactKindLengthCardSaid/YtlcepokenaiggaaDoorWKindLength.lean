/- The walk of laws.FnExactKindLength. -/
import Derived.Test.YtlcepokenaiggaaDoorLn7
import Derived.Test.YtlcepokenaiggaaDoorPair
namespace Go.Proofs.YtlcepokenaiggaaDoor
open Go.RowKit

set_option maxRecDepth 100000 in
set_option maxHeartbeats 1000000 in
theorem fnExactKindLength_walk (s0 : ByteArray) (hs0 : s0.size ≤ maxLen) (s1 : ByteArray) (hs1 : s1.size ≤ maxLen) (w : World) (hT : TabL w) :
    Calls Tryd.prog 3 #[.string s0, .string s1] w fun e w' => e = .returned (.bool true) ∧ Below w.heap.size w w' := by
  unfold maxLen at hs0 hs1
  by_cases hbigs0 : (1048576 : Int) < s0.size
  · go_enter Tryd.func3, Tryd.ntmps3
    go_wp2_with fail
    go_ret
    exact ⟨rfl, Below.refl _ _⟩
  by_cases hbigs1 : (1048576 : Int) < s1.size
  · go_enter Tryd.func3, Tryd.ntmps3
    go_wp2_with fail
    go_ret
    exact ⟨rfl, Below.refl _ _⟩
  have hS := fun w => specKindLength_any s0 s1 w (by omega) (by omega)
  have hI := fun w hT => implKindLength_any s0 s1 w hT (by omega) (by omega)
  have hS' : ∀ w, Calls Tryd.prog 6 #[.string s0, .string s1] w (Gives (ansJ (lenO s0 s1)) w) := hS
  have hI' : ∀ w, TabL w → Calls Tryd.prog 7 #[.string s0, .string s1] w (Gives (ansJ (lenO s0 s1)) w) := hI
  clear hS hI
  generalize (lenO s0 s1) = o at hS' hI'
  unfold ansJ at hS' hI'
  go_enter Tryd.func3, Tryd.ntmps3
  go_wp2_with fail
  refine (hS' _).mono ?_; rintro e w1 ⟨rfl, hb1⟩
  have hbw1 := nx (Below.refl _ _) hb1
  clear hb1
  go_wp2_with fail
  refine (hI' _ (hT.keep hbw1)).mono ?_; rintro e w2 ⟨rfl, hb2⟩
  have hbw2 := nx hbw1 hb2
  clear hb2 hbw1
  go_wp2_with fail
  go_ret
  exact ⟨rfl, hbw2⟩
end Go.Proofs.YtlcepokenaiggaaDoor
