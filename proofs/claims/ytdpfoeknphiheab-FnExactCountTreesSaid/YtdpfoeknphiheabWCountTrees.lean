/- The walk of laws.FnExactCountTrees. -/
import Derived.Test.YtdpfoeknphiheabCountT
namespace Go.Proofs.Ytdpfoeknphiheab
open Go.RowKit

theorem fnExactCountTrees_walk (a : Int) (ha : (Lit.int .i64 a).wf = true) (w : World) :
    Calls Try.prog 10 #[.int .i64 a] w fun e w' => e = .returned (.bool true) ∧ Below w.heap.size w w' := by
  obtain ⟨loa, hia⟩ := i64_bounds ha
  go_enter Try.func10, Try.ntmps10
  go_wp2_with fail
  refine (specCountTrees_any a _  loa hia).mono ?_; rintro e w1 ⟨rfl, hb1⟩
  unfold ansN
  go_wp2_with fail
  refine (implCountTrees_any a _  loa hia).mono ?_; rintro e w2 ⟨rfl, hb2⟩
  unfold ansN
  go_wp2_with fail
  go_ret
  exact ⟨rfl, nx hb1 hb2⟩

end Go.Proofs.Ytdpfoeknphiheab
