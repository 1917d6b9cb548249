/- The walk of laws.FnExactIsFraction. -/
import Derived.Test.YtbmegkphmifokaaFr3
namespace Go.Proofs.Ytbmegkphmifokaa
open Go.RowKit

theorem specIsFraction_any (n d : Int) (w : World) (_l1 : -9223372036854775808 ≤ n) (_u1 : n ≤ 9223372036854775807) (_l2 : -9223372036854775808 ≤ d) (_u2 : d ≤ 9223372036854775807) :
    Calls Try.prog 13 #[.agg #[.int .i64 n, .int .i64 d]] w (Gives (.bool (isFr n d)) w) := specIsFr_any n d w
theorem implIsFraction_any (n d : Int) (w : World) (_l1 : -9223372036854775808 ≤ n) (_u1 : n ≤ 9223372036854775807) (_l2 : -9223372036854775808 ≤ d) (_u2 : d ≤ 9223372036854775807) :
    Calls Try.prog 15 #[.agg #[.int .i64 n, .int .i64 d]] w (Gives (.bool (isFr n d)) w) := isFraction_any n d w

set_option maxRecDepth 100000 in
set_option maxHeartbeats 1000000 in
theorem fnExactIsFraction_walk (n0 : Int) (hn0 : (Lit.int .i64 n0).wf = true) (d0 : Int) (hd0 : (Lit.int .i64 d0).wf = true) (w : World) :
    Calls Try.prog 3 #[.agg #[.int .i64 n0, .int .i64 d0]] w fun e w' => e = .returned (.bool true) ∧ Below w.heap.size w w' := by
  obtain ⟨lon0, hin0⟩ := i64_bounds hn0
  obtain ⟨lod0, hid0⟩ := i64_bounds hd0
  have hS := fun w => specIsFraction_any n0 d0 w lon0 hin0 lod0 hid0
  have hI := fun w => implIsFraction_any n0 d0 w lon0 hin0 lod0 hid0
  have hS' : ∀ w, Calls Try.prog 13 #[.agg #[.int .i64 n0, .int .i64 d0]] w (Gives (.bool (isFr n0 d0)) w) := hS
  have hI' : ∀ w, Calls Try.prog 15 #[.agg #[.int .i64 n0, .int .i64 d0]] w (Gives (.bool (isFr n0 d0)) w) := hI
  clear hS hI
  generalize (isFr n0 d0) = X at hS' hI'
  go_enter Try.func3, Try.ntmps3
  go_wp2_with fail
  have hb0 : Below w.heap.size w (w.alloc (.cells #[.int .i64 n0, .int .i64 d0] 23 (0, 0))) := nxAlloc (Below.refl _ _) _
  have hx0 := heap_alloc_at w (.cells #[.int .i64 n0, .int .i64 d0] 23 (0, 0))
  generalize (w.alloc (.cells #[.int .i64 n0, .int .i64 d0] 23 (0, 0))) = w0 at *
  obtain ⟨ka0, kb0, kc0⟩ := two_facts hx0
  refine (toFraction_any n0 d0 _).mono ?_; rintro e w1 ⟨rfl, hb1⟩
  have hbw1 := nx hb0 hb1
  replace hx0 := heap_keep hb1 hx0
  clear ka0 kb0 kc0
  obtain ⟨ka0, kb0, kc0⟩ := two_facts hx0
  clear hb1 hb0
  go_wp2_with fail
  refine (hS' _).mono ?_; rintro e w2 ⟨rfl, hb2⟩
  have hbw2 := nx hbw1 hb2
  replace hx0 := heap_keep hb2 hx0
  clear ka0 kb0 kc0
  obtain ⟨ka0, kb0, kc0⟩ := two_facts hx0
  clear hb2 hbw1
  go_wp2_with fail
  refine (toFraction_any n0 d0 _).mono ?_; rintro e w3 ⟨rfl, hb3⟩
  have hbw3 := nx hbw2 hb3
  replace hx0 := heap_keep hb3 hx0
  clear ka0 kb0 kc0
  obtain ⟨ka0, kb0, kc0⟩ := two_facts hx0
  clear hb3 hbw2
  go_wp2_with fail
  refine (hI' _).mono ?_; rintro e w4 ⟨rfl, hb4⟩
  have hbw4 := nx hbw3 hb4
  replace hx0 := heap_keep hb4 hx0
  clear ka0 kb0 kc0
  obtain ⟨ka0, kb0, kc0⟩ := two_facts hx0
  clear hb4 hbw3
  go_wp2_with fail
  go_ret
  exact ⟨rfl, hbw4⟩
end Go.Proofs.Ytbmegkphmifokaa
