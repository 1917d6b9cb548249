/- The walk of laws.FnExactDropExposed. -/
import Derived.Test.YtbeailflcinilaaDrop
namespace Go.Proofs.Ytbeailflcinilaa
open Go.RowKit

theorem fnExactDropExposed_walk (a : ByteArray) (ha : a.size ≤ maxLen) (b : Int) (hb : (Lit.int .i64 b).wf = true) (w : World) :
    Calls Try.prog 3 #[.string a, .int .i64 b] w fun e w' => e = .returned (.bool true) ∧ Below w.heap.size w w' := by
  unfold maxLen at ha
  obtain ⟨lob, hib⟩ := i64_bounds hb
  by_cases hbiga : (1048576 : Int) < a.size
  · go_enter Try.func3, Try.ntmps3
    go_wp2_with fail
    go_ret
    exact ⟨rfl, Below.refl _ _⟩
  go_enter Try.func3, Try.ntmps3
  go_wp2_with fail
  refine (specDropExposed_any a b _ (by omega) lob hib).mono ?_; rintro e w1 ⟨rfl, hb1⟩
  unfold ans2
  go_wp2_with fail
  refine (implDropExposed_any a b _ (by omega) lob hib).mono ?_; rintro e w2 ⟨rfl, hb2⟩
  unfold ans2
  go_wp2_with fail
  go_ret
  exact ⟨rfl, nx hb1 hb2⟩

end Go.Proofs.Ytbeailflcinilaa
