/- The walk of laws.FnExactIdentityPair. -/
import Derived.Test.YtbeailflcinilabPairK
import Derived.Test.YtbeailflcinilabPair
namespace Go.Proofs.Ytbeailflcinilab
open Go.RowKit

theorem prUnit_any (w : World) : Calls Try.prog 70 #[] w (Gives (.agg #[.string Tr.lf.str, .string Tr.lf.str]) w) := by
  go_enter Try.func70, Try.ntmps70
  go_wp2
  refine bodyPost_ret (v := .agg #[.string Tr.lf.str, .string Tr.lf.str]) (by simp [results, Try.results70, go_sem]; rfl) rfl ⟨rfl, ?_⟩
  exact nxAlloc (Below.refl _ _) _

theorem identity_any (w : World) : Calls Try.prog 16 #[] w (Gives (.agg #[.string Tr.lf.str, .string Tr.lf.str]) w) := by
  go_enter Try.func16, Try.ntmps16
  go_wp2
  refine bodyPost_ret (v := .agg #[.string Tr.lf.str, .string Tr.lf.str]) (by simp [results, Try.results16, go_sem]; rfl) rfl ⟨rfl, ?_⟩
  exact nxAlloc (Below.refl _ _) _

theorem specIdentity_any (w : World) : Calls Try.prog 15 #[] w (Gives (.agg #[.string Tr.lf.str, .string Tr.lf.str]) w) := by
  have U := prUnit_any
  generalize Tr.lf.str = X at *
  go_enter Try.func15, Try.ntmps15
  go_wp2_with fail
  have hb0 : Below w.heap.size w (w.alloc (.cells #[.string ⟨#[]⟩, .string ⟨#[]⟩] 23 (0, 0))) := nxAlloc (Below.refl _ _) _
  have hx := heap_alloc_at w (.cells #[.string ⟨#[]⟩, .string ⟨#[]⟩] 23 (0, 0))
  generalize w.alloc (.cells #[.string ⟨#[]⟩, .string ⟨#[]⟩] 23 (0, 0)) = w0 at *
  refine (U _).mono ?_; rintro e w1 ⟨rfl, hb1⟩
  have hbw1 := nx hb0 hb1
  replace hx := heap_keep hb1 hx
  clear hb1 hb0
  obtain ⟨n1, n2⟩ := two_cells hx
  obtain ⟨f1, f2⟩ := two_frozen hx
  go_wp2_with fail
  obtain ⟨q1, q2⟩ := two_cells (set_two (.string X) (.string X) hx)
  refine bodyPost_ret (v := .agg #[.string X, .string X]) (by simp [q1, q2, results, Try.results15, go_sem]) rfl ⟨rfl, ?_⟩
  exact (hbw1.setCell (Nat.le_refl _) _).setCell (Nat.le_refl _) _

set_option maxHeartbeats 1000000 in
theorem fnExactIdentityPair_walk (w : World) : Calls Try.prog 3 #[] w fun e w' => e = .returned (.bool true) ∧ Below w.heap.size w w' := by
  have S := specIdentity_any
  have I := identity_any
  generalize Tr.lf.str = X at *
  go_enter Try.func3, Try.ntmps3
  go_wp2_with fail
  refine (S _).mono ?_; rintro e w1 ⟨rfl, hb1⟩
  go_wp2_with fail
  have hb2 := nxAlloc hb1 (.cells #[.string X, .string X] 23 (0, 0))
  have hy := heap_alloc_at w1 (.cells #[.string X, .string X] 23 (0, 0))
  generalize w1.alloc (.cells #[.string X, .string X] 23 (0, 0)) = w2 at *
  refine (I _).mono ?_; rintro e w3 ⟨rfl, hb3⟩
  have hbw3 := nx hb2 hb3
  replace hy := heap_keep hb3 hy
  clear hb1 hb2 hb3
  obtain ⟨ya, yb, yc⟩ := two_facts hy
  go_wp2_with fail
  first
    | (refine (eqPair_same X X _).mono ?_; rintro e wz ⟨rfl, hbz⟩
       go_wp2_with fail
       go_ret
       exact ⟨rfl, nx (nxAlloc hbw3 _) hbz⟩)
end Go.Proofs.Ytbeailflcinilab
