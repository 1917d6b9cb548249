/- The walk of laws.FnExactGraftAt. -/
import Derived.Test.YtdpfoeknphiheaaGraft
namespace Go.Proofs.Ytdpfoeknphiheaa
open Go.RowKit

theorem fnExactGraftAt_walk (a : ByteArray) (ha : a.size ≤ maxLen) (b : Int) (hb : (Lit.int .i64 b).wf = true) (c : ByteArray) (hc : c.size ≤ maxLen) (w : World) :
    Calls Try.prog 12 #[.string a, .int .i64 b, .string c] w fun e w' => e = .returned (.bool true) ∧ Below w.heap.size w w' := by
  unfold maxLen at ha hc
  obtain ⟨lob, hib⟩ := i64_bounds hb
  by_cases hbiga : (1048576 : Int) < a.size
  · go_enter Try.func12, Try.ntmps12
    go_wp2_with fail
    go_ret
    exact ⟨rfl, Below.refl _ _⟩
  by_cases hbigc : (1048576 : Int) < c.size
  · go_enter Try.func12, Try.ntmps12
    go_wp2_with fail
    go_ret
    exact ⟨rfl, Below.refl _ _⟩
  go_enter Try.func12, Try.ntmps12
  go_wp2_with fail
  refine (specGraftAt_any a b c _ (by omega) (by omega) lob hib).mono ?_; rintro e w1 ⟨rfl, hb1⟩
  unfold ans2
  go_wp2_with fail
  refine (implGraftAt_any a b c _ (by omega) (by omega) lob hib).mono ?_; rintro e w2 ⟨rfl, hb2⟩
  unfold ans2
  go_wp2_with fail
  go_ret
  exact ⟨rfl, nx hb1 hb2⟩

end Go.Proofs.Ytdpfoeknphiheaa
