/- The walk of laws.FnExactWordText. -/
import Derived.Test.YtlcepokenaiggabDoorWt2
import Derived.Test.YtlcepokenaiggabDoorArgI
import Derived.Test.YtlcepokenaiggabDoorTail
namespace Go.Proofs.YtlcepokenaiggabDoor
open Go.RowKit

set_option maxRecDepth 100000 in
set_option maxHeartbeats 2000000 in
theorem fnExactWordText_law (w : World) (oa : Option Addr) (n cap : Nat) (L : List Int) (hl : L.length = n) (hl2 : (n : Int) ≤ 9223372036854775807) (_hz : ∀ s ∈ L, -9223372036854775808 ≤ s ∧ s ≤ 9223372036854775807) (hin : InI w oa L) (hTb : Tab w) :
    Calls Tryd.prog 4 #[.slice oa n cap] w fun e w' => e = .returned (.bool true) ∧ Below w.heap.size w w' := by
  have HI := Lib.hid hin
  have HL := Lib.hid hl
  clear hin hl
  by_cases hbig : (1048576 : Int) < n
  · clear _hz
    go_enter Tryd.func4, Tryd.ntmps4
    go_wp2_with fail
    go_ret
    exact ⟨rfl, Below.refl _ _⟩
  have hS : ∀ v b w, CellsI b w v L → Calls Tryd.prog 13 #[v] w (Gives (ans2 (WordText_o L)) w) := fun v b w h => specWordText_any v b L w h _hz
  have hI : ∀ v b w, Tab w → CellsI b w v L → Calls Tryd.prog 15 #[v] w (Gives (ans2 (WordText_o L)) w) := fun v b w ht h => implWordText_any v b L w ht h _hz
  unfold ans2 at hS hI
  generalize (WordText_o L).getD ⟨#[]⟩ = A at hS hI
  generalize (WordText_o L).isSome = B at hS hI
  have hT := fun w h => toIntS_any oa cap n L w HL.out (by omega) h
  clear _hz
  go_enter Tryd.func4, Tryd.ntmps4
  go_wp2_with fail
  refine (hT _ HI.out).mono ?_; rintro e w1 ⟨pg, po, hb1, rfl⟩
  go_wp2_with fail
  refine (hS _ _ _ po.cells).mono ?_; rintro e w2 ⟨rfl, hb2⟩
  have hbw2 := nx hb1 hb2
  clear po hb1 hb2
  go_wp2_with fail
  refine (hT _ (HI.out.keep hbw2)).mono ?_; rintro e w3 ⟨qg, qo, hb3, rfl⟩
  have hbw3 := nx hbw2 hb3
  clear hb3 hbw2
  go_wp2_with fail
  refine (hI _ _ _ (hTb.keep hbw3) qo.cells).mono ?_; rintro e w4 ⟨rfl, hb4⟩
  have hbw4 := nx hbw3 hb4
  replace qo := qo.keep hb4
  clear hb4 hbw3
  go_wp2_with fail
  refine (hT _ (HI.out.keep hbw4)).mono ?_; rintro e w5 ⟨rg, ro, hb5, rfl⟩
  have hbw5 := nx hbw4 hb5
  replace qo := qo.keep hb5
  clear hb5 hbw4
  go_wp2_with fail
  refine (eqIntS_any _ _ _ _ L _ qo.cells ro.cells).mono ?_; rintro e wz ⟨rfl, dz, rfl⟩
  go_wp2_with fail
  go_ret
  exact ⟨rfl, drewB hbw5 _⟩

theorem fnExactWordText_walk (W : World) (a : Option Addr) (len cap : Nat) (z : List Int) (h : IsInts W a len cap z) (hTb : Tab W) :
    Calls Tryd.prog 4 #[.slice a len cap] W fun e w' => e = .returned (.bool true) ∧ Below W.heap.size W w' := by
  obtain ⟨h1, h2, h3, h4⟩ := h.inI
  exact fnExactWordText_law W a len cap (z.take len) h2 h3 h4 h1 hTb
end Go.Proofs.YtlcepokenaiggabDoor
