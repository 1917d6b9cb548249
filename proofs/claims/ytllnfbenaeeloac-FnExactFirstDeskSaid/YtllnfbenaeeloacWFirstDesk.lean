/- The walk of laws.FnExactFirstDesk. -/
import Derived.Test.YtllnfbenaeeloacPairK
import Derived.Test.YtllnfbenaeeloacPair
import Derived.Test.YtllnfbenaeeloacGenC
namespace Go.Proofs.Ytllnfbenaeeloac
open Go.RowKit

theorem specFirstDesk_any (w : World) : Calls Try.prog 4 #[] w (Gives (.agg #[.string (genP 0).1.str, .string (genP 0).2.str]) w) := by
  have U : ∀ w, Calls Try.prog 7 #[.int .i64 0] w (Gives (.agg #[.string (genP 0).1.str, .string (genP 0).2.str]) w) := fun w => prGenerator_any 0 w (by omega)
  generalize (genP 0).1.str = X at *
  generalize (genP 0).2.str = Y at *
  go_enter Try.func4, Try.ntmps4
  go_wp2_with fail
  have hb0 : Below w.heap.size w (w.alloc (.cells #[.string ⟨#[]⟩, .string ⟨#[]⟩] 23 (0, 0))) := nxAlloc (Below.refl _ _) _
  have hx := heap_alloc_at w (.cells #[.string ⟨#[]⟩, .string ⟨#[]⟩] 23 (0, 0))
  generalize w.alloc (.cells #[.string ⟨#[]⟩, .string ⟨#[]⟩] 23 (0, 0)) = w0 at *
  refine (U _).mono ?_; rintro e w1 ⟨rfl, hb1⟩
  have hbw1 := nx hb0 hb1
  replace hx := heap_keep hb1 hx
  clear hb1 hb0
  obtain ⟨n1, n2⟩ := two_cells hx
  obtain ⟨f1, f2⟩ := two_frozen hx
  go_wp2_with fail
  obtain ⟨q1, q2⟩ := two_cells (set_two (.string X) (.string Y) hx)
  refine bodyPost_ret (v := .agg #[.string X, .string Y]) (by simp [q1, q2, results, Try.results4, go_sem]) rfl ⟨rfl, ?_⟩
  exact (hbw1.setCell (Nat.le_refl _) _).setCell (Nat.le_refl _) _

theorem implFirstDesk_any (w : World) : Calls Try.prog 5 #[] w (Gives (.agg #[.string (genP 0).1.str, .string (genP 0).2.str]) w) := by
  have U : ∀ w, Calls Try.prog 8 #[.int .i64 0] w (Gives (.tuple #[.agg #[.string (genP 0).1.str, .string (genP 0).2.str], .bool true]) w) := fun w => implGeneratorPair_any 0 w (by omega) (by omega)
  generalize (genP 0).1.str = X at *
  generalize (genP 0).2.str = Y at *
  go_enter Try.func5, Try.ntmps5
  go_wp2_with fail
  have hb0 : Below w.heap.size w (w.alloc (.cells #[.string ⟨#[]⟩, .string ⟨#[]⟩] 23 (0, 0))) := nxAlloc (Below.refl _ _) _
  have hx := heap_alloc_at w (.cells #[.string ⟨#[]⟩, .string ⟨#[]⟩] 23 (0, 0))
  generalize w.alloc (.cells #[.string ⟨#[]⟩, .string ⟨#[]⟩] 23 (0, 0)) = w0 at *
  refine (U _).mono ?_; rintro e w1 ⟨rfl, hb1⟩
  have hbw1 := nx hb0 hb1
  replace hx := heap_keep (nxAlloc (Below.refl _ _) (.cells #[.string X, .string Y] 23 (0, 0))) (heap_keep hb1 hx)
  have hbw2 := nxAlloc hbw1 (.cells #[.string X, .string Y] 23 (0, 0))
  clear hb1 hb0 hbw1
  obtain ⟨n1, n2⟩ := two_cells hx
  obtain ⟨f1, f2⟩ := two_frozen hx
  go_wp2_with fail
  obtain ⟨q1, q2⟩ := two_cells (set_two (.string X) (.string Y) hx)
  refine bodyPost_ret (v := .agg #[.string X, .string Y]) (by simp [q1, q2, results, Try.results5, go_sem]) rfl ⟨rfl, ?_⟩
  exact (hbw2.setCell (Nat.le_refl _) _).setCell (Nat.le_refl _) _

set_option maxHeartbeats 1000000 in
theorem fnExactFirstDesk_walk (w : World) : Calls Try.prog 3 #[] w fun e w' => e = .returned (.bool true) ∧ Below w.heap.size w w' := by
  have S := specFirstDesk_any
  have I := implFirstDesk_any
  generalize (genP 0).1.str = X at *
  generalize (genP 0).2.str = Y at *
  go_enter Try.func3, Try.ntmps3
  go_wp2_with fail
  refine (S _).mono ?_; rintro e w1 ⟨rfl, hb1⟩
  go_wp2_with fail
  have hb2 := nxAlloc hb1 (.cells #[.string X, .string Y] 23 (0, 0))
  have hy := heap_alloc_at w1 (.cells #[.string X, .string Y] 23 (0, 0))
  generalize w1.alloc (.cells #[.string X, .string Y] 23 (0, 0)) = w2 at *
  refine (I _).mono ?_; rintro e w3 ⟨rfl, hb3⟩
  have hbw3 := nx hb2 hb3
  replace hy := heap_keep hb3 hy
  clear hb1 hb2 hb3
  obtain ⟨ya, yb, yc⟩ := two_facts hy
  go_wp2_with fail
  first
    | (refine (eqPair_same X Y _).mono ?_; rintro e wz ⟨rfl, hbz⟩
       go_wp2_with fail
       go_ret
       exact ⟨rfl, nx (nxAlloc hbw3 _) hbz⟩)
end Go.Proofs.Ytllnfbenaeeloac
