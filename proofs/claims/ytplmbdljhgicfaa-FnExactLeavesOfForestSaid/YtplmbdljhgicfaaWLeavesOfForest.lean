/- The walk of laws.FnExactLeavesOfForest. -/
import Derived.Test.YtplmbdljhgicfaaFf4
namespace Go.Proofs.Ytplmbdljhgicfaa
open Go.RowKit

set_option maxRecDepth 100000 in
set_option maxHeartbeats 4000000 in
theorem fnExactLeavesOfForest_law (W : World) (a0 : Option Addr) (len0 cap0 : Nat) (L : List ByteArray) (hl0 : L.length = len0) (hm0 : (len0 : Int) ≤ 9223372036854775807) (hz0 : ∀ s ∈ L, (s.size : Int) ≤ 9223372036854775807) (hin0 : InS W a0 L) :
    Calls Try.prog 4 #[.slice a0 len0 cap0] W fun e w' => e = .returned (.bool true) ∧ Below W.heap.size W w' := by
  have hsz0 := fun left h0 h1 => szStringS_at a0 cap0 len0 L left W h0 h1 hl0 hm0 hz0 hin0
  have HI0 := Lib.hid hin0
  have HL0 := Lib.hid hl0
  clear hin0 hz0 hl0
  go_enter Try.func4, Try.ntmps4
  go_wp2_with fail
  refine (hsz0 1048576 (by omega) (by omega)).mono ?_; rintro e w1 ⟨r0, rfl, rfl, hM0, hR0⟩
  by_cases hneg0 : r0 < 0
  · clear hM0 hR0
    go_wp2_with fail
    go_ret
    exact ⟨rfl, Below.refl _ _⟩
  have hM0' := hM0.out
  obtain ⟨hn0, hs0⟩ := hR0.out (by omega)
  have HS0 := Lib.hid hs0
  have HN0 := Lib.hid hn0
  clear hM0 hR0 hs0 hn0 hsz0
  have hS : ∀ (v0 : Value) (b0 : Nat) (w : World), CellsS b0 w v0 L → Calls Try.prog 18 #[v0] w (Gives (natO (forOf L) leavesL) w) := fun v0 b0 w h0 => specLeavesOfForest_any v0 b0 L w h0 HS0.out HN0.out
  have hI : ∀ (v0 : Value) (b0 : Nat) (w : World), CellsS b0 w v0 L → Calls Try.prog 19 #[v0] w (Gives (natO (forOf L) leavesL) w) := fun v0 b0 w h0 => implLeavesOfForest_any v0 b0 L w h0 HS0.out HN0.out
  obtain ⟨n, r, hnr⟩ : ∃ n r, natO (forOf L) leavesL = .tuple #[.int .i64 n, .bool r] := ⟨_, _, rfl⟩
  rw [hnr] at hS hI
  clear hnr
  have hT0 := fun w h => toStringS_any a0 cap0 len0 L w HL0.out (by have := HN0.out; have := HL0.out; omega) h
  have hN0 : len0 ≤ 1048576 := by have := HN0.out; have := HL0.out; omega
  clear HS0 HN0
  have hc0 := Below.refl W.heap.size W
  go_wp2_with fail
  refine (hT0 _ (HI0.out.keep hc0)).mono ?_; rintro e u1 ⟨pg0, po0, hb, rfl⟩
  have hc1 := nx hc0 hb
  clear hb hc0
  go_wp2_with fail
  refine (hS _ _ _ po0.cells).mono ?_; rintro e u2 ⟨rfl, hb⟩
  clear po0
  have hc2 := nx hc1 hb
  clear hb hc1
  go_wp2_with fail
  refine (hT0 _ (HI0.out.keep hc2)).mono ?_; rintro e u3 ⟨qg0, qo0, hb, rfl⟩
  have hc3 := nx hc2 hb
  clear hb hc2
  go_wp2_with fail
  refine (hI _ _ _ qo0.cells).mono ?_; rintro e u4 ⟨rfl, hb⟩
  have hc4 := nx hc3 hb
  replace qo0 := qo0.keep hb
  clear hb hc3
  go_wp2_with fail
  refine (hT0 _ (HI0.out.keep hc4)).mono ?_; rintro e u5 ⟨rg0, ro0, hb, rfl⟩
  have hc5 := nx hc4 hb
  replace qo0 := qo0.keep hb
  clear hb hc4
  go_wp2_with fail
  refine (eqStringS_any _ _ _ _ L _ qo0.cells ro0.cells).mono ?_; rintro e u6 ⟨rfl, dd, hw⟩
  have hb : Below u5.heap.size u5 u6 := by rw [hw]; exact drewB (Below.refl _ _) dd
  clear hw ro0
  have hc6 := nx hc5 hb
  replace qo0 := qo0.keep hb
  clear hb hc5
  go_wp2_with fail
  go_ret
  exact ⟨rfl, hc6⟩

theorem fnExactLeavesOfForest_walk (W : World) (a0 : Option Addr) (len0 cap0 : Nat) (z0 : List ByteArray) (h0 : IsStrs W a0 len0 cap0 z0) :
    Calls Try.prog 4 #[.slice a0 len0 cap0] W fun e w' => e = .returned (.bool true) ∧ Below W.heap.size W w' := by
  obtain ⟨x0, y0, s0, t0⟩ := h0.inS
  exact fnExactLeavesOfForest_law W a0 len0 cap0 (z0.take len0) y0 s0 t0 x0

end Go.Proofs.Ytplmbdljhgicfaa
