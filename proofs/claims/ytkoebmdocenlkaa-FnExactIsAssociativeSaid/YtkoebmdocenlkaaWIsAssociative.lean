/- The walk of laws.FnExactIsAssociative. -/
import Derived.Test.YtkoebmdocenlkaaTc4
namespace Go.Proofs.Ytkoebmdocenlkaa
open Go.RowKit

set_option maxRecDepth 100000 in
set_option maxHeartbeats 4000000 in
theorem fnExactIsAssociative_law (W : World) (oT : Option Addr) (nT cT : Nat) (T : List (List Int)) (hlT : T.length = nT) (hmT : (nT : Int) ≤ 9223372036854775807) (hinT : InII W oT T) :
    Calls Try.prog 13 #[.slice oT nT cT] W fun e w' => e = .returned (.bool true) ∧ Below W.heap.size W w' := by
  have hsz := szIntSS_at oT cT nT T 1048576 W (by omega) (by omega) hlT hmT hinT
  have HT := Lib.hid hinT
  have HLT := Lib.hid hlT
  clear hinT hlT
  go_enter Try.func13, Try.ntmps13
  go_wp2_with fail
  refine hsz.mono ?_; rintro e w1 ⟨r, rfl, rfl, hM, hR⟩
  by_cases hneg : r < 0
  · clear hM hR
    go_wp2_with fail
    go_ret
    exact ⟨rfl, Below.refl _ _⟩
  obtain ⟨hn1, hx1⟩ := hR.out (by omega)
  have HX := Lib.hid hx1
  have hnT9 : nT ≤ 1048576 := by have := HLT.out; omega
  have hS : ∀ g gs w, TabAt w g gs T → Calls Try.prog 46 #[.slice (some ⟨g, 0, none⟩) nT nT] w (Gives (ansBo (asO T)) w) := fun g gs w h1 => specIsAssociative_any g gs T nT w HLT.out hnT9 HX.out h1
  have hI : ∀ g gs w, TabAt w g gs T → Calls Try.prog 47 #[.slice (some ⟨g, 0, none⟩) nT nT] w (Gives (ansBo (asO T)) w) := fun g gs w h1 => implIsAssociative_any g gs T nT w HLT.out hnT9 HX.out h1
  generalize asO T = ores at hS hI
  unfold ansBo at hS hI
  have hT := fun w h => toIntSS_any oT cT nT T w HLT.out hnT9 HX.out h
  have hE := fun b1 b2 g1 g2 gs1 gs2 w h1 h2 => eqIntSS_any b1 b2 g1 g2 nT gs1 gs2 T w HLT.out hnT9 h1 h2
  clear hM hR hn1 hx1
  go_wp2_with fail
  refine (hT _ HT.out).mono ?_; rintro e w1 ⟨g1, gs1, o1, hb1, rfl⟩
  go_wp2_with fail
  refine (hS _ _ _ o1.tab).mono ?_; rintro e w3 ⟨rfl, hb3⟩
  have hc3 := nx hb1 hb3
  clear o1 hb1 hb3
  go_wp2_with fail
  refine (hT _ (HT.out.keep hc3)).mono ?_; rintro e w4 ⟨g4, gs4, o4, hb4, rfl⟩
  have hc4 := nx hc3 hb4
  have t4 := o4.tab
  go_wp2_with fail
  refine (hI _ _ _ t4).mono ?_; rintro e w6 ⟨rfl, hb6⟩
  have hc6 := nx hc4 hb6
  replace o4 := o4.keep hb6
  clear t4 hb6 hc4 hb4 hc3
  go_wp2_with fail
  refine (hT _ (HT.out.keep hc6)).mono ?_; rintro e w7 ⟨g7, gs7, o7, hb7, rfl⟩
  have hc7 := nx hc6 hb7
  replace o4 := o4.keep hb7
  clear hb7 hc6
  go_wp2_with fail
  refine (hE _ _ _ _ _ _ _ o4 o7).mono ?_; rintro e w8 ⟨rfl, hb8⟩
  have hc8 := nx hc7 hb8
  clear o4 o7 hb8 hc7
  go_wp2_with fail
  go_ret
  exact ⟨rfl, hc8⟩

theorem fnExactIsAssociative_walk (W : World) (oT : Option Addr) (nT cT : Nat) (T : List (List Int)) (hT : IsTab W oT nT cT T) :
    Calls Try.prog 13 #[.slice oT nT cT] W fun e w' => e = .returned (.bool true) ∧ Below W.heap.size W w' := by
  obtain ⟨k1, k2, k3⟩ := hT.inII
  exact fnExactIsAssociative_law W oT nT cT T k2 k3 k1
end Go.Proofs.Ytkoebmdocenlkaa
