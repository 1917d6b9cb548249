/- The walk of laws.FnExactLeftComb. -/
import Derived.Test.YtdpfoeknphiheabComb
namespace Go.Proofs.Ytdpfoeknphiheab
open Go.RowKit

theorem fnExactLeftComb_walk (a : Int) (ha : (Lit.int .i64 a).wf = true) (w : World) :
    Calls Try.prog 7 #[.int .i64 a] w fun e w' => e = .returned (.bool true) ∧ Below w.heap.size w w' := by
  obtain ⟨loa, hia⟩ := i64_bounds ha
  go_enter Try.func7, Try.ntmps7
  go_wp2_with fail
  refine (specLeftComb_any a _  loa hia).mono ?_; rintro e w1 ⟨rfl, hb1⟩
  unfold ansV
  go_wp2_with fail
  refine (implLeftComb_any a _  loa hia).mono ?_; rintro e w2 ⟨rfl, hb2⟩
  unfold ansV
  go_wp2_with fail
  go_ret
  exact ⟨rfl, nx hb1 hb2⟩

end Go.Proofs.Ytdpfoeknphiheab
