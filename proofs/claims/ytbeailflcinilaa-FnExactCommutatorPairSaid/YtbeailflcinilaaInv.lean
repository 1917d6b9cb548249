/- Walks: inverses. -/
import Derived.Test.YtbeailflcinilaaIsPair
namespace Go.Proofs.Ytbeailflcinilaa
open Go.RowKit

theorem prInverse_any (a b : ByteArray) (w : World) : Calls Try.prog 65 #[.agg #[.string a, .string b]] w (Gives (.agg #[.string b, .string a]) w) := by
  go_enter Try.func65, Try.ntmps65
  go_wp2
  refine bodyPost_ret (v := .agg #[.string b, .string a]) (by simp [results, Try.results65, go_sem]) rfl ⟨rfl, ?_⟩
  exact nxAlloc (nxAlloc (Below.refl _ _) _) _

theorem inverse_any (a b : ByteArray) (w : World) : Calls Try.prog 66 #[.agg #[.string a, .string b]] w (Gives (.agg #[.string b, .string a]) w) := by
  go_enter Try.func66, Try.ntmps66
  go_wp2
  refine bodyPost_ret (v := .agg #[.string b, .string a]) (by simp [results, Try.results66, go_sem]) rfl ⟨rfl, ?_⟩
  exact nxAlloc (nxAlloc (Below.refl _ _) _) _
end Go.Proofs.Ytbeailflcinilaa
