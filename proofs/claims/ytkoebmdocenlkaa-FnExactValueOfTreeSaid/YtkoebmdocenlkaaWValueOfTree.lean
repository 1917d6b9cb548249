/- The walk of laws.FnExactValueOfTree. -/
import Derived.Test.YtkoebmdocenlkaaTb4
namespace Go.Proofs.Ytkoebmdocenlkaa
open Go.RowKit

set_option maxRecDepth 100000 in
set_option maxHeartbeats 4000000 in
theorem fnExactValueOfTree_law (W : World) (a : ByteArray) (ha : a.size ≤ maxLen) (oT : Option Addr) (nT cT : Nat) (T : List (List Int)) (hlT : T.length = nT) (hmT : (nT : Int) ≤ 9223372036854775807) (hinT : InII W oT T)
    (ov : Option Addr) (n cap : Nat) (vs : List Int) (hl : vs.length = n) (hl2 : (n : Int) ≤ 9223372036854775807) (hin : InI W ov vs) :
    Calls Try.prog 11 #[.string a, .slice oT nT cT, .slice ov n cap] W fun e w' => e = .returned (.bool true) ∧ Below W.heap.size W w' := by
  unfold maxLen at ha
  have hsz := szIntSS_at oT cT nT T 1048576 W (by omega) (by omega) hlT hmT hinT
  have HI := Lib.hid hin
  have HL := Lib.hid hl
  have HT := Lib.hid hinT
  have HLT := Lib.hid hlT
  clear hin hl hinT hlT
  by_cases hbiga : (1048576 : Int) < a.size
  · clear hsz
    go_enter Try.func11, Try.ntmps11
    go_wp2_with fail
    go_ret
    exact ⟨rfl, Below.refl _ _⟩
  by_cases hbig : (1048576 : Int) < n
  · clear hsz
    go_enter Try.func11, Try.ntmps11
    go_wp2_with fail
    go_ret
    exact ⟨rfl, Below.refl _ _⟩
  go_enter Try.func11, Try.ntmps11
  go_wp2_with fail
  refine hsz.mono ?_; rintro e w1 ⟨r, rfl, rfl, hM, hR⟩
  by_cases hneg : r < 0
  · clear hM hR
    go_wp2_with fail
    go_ret
    exact ⟨rfl, Below.refl _ _⟩
  obtain ⟨hn1, hx1⟩ := hR.out (by omega)
  have HX := Lib.hid hx1
  have hnT9 : nT ≤ 1048576 := by have := HLT.out; omega
  have hn9 : n ≤ 1048576 := by omega
  have hS : ∀ g gs gv w, TabAt w g gs T → ReadI w gv 0 vs → Calls Try.prog 35 #[.string a, .slice (some ⟨g, 0, none⟩) nT nT, .slice (some ⟨gv, 0, none⟩) n n] w (Gives (ansZ (valO a T vs)) w) := fun g gs gv w h1 h2 => specValueOfTree_any a g nT gs T gv n vs w (by omega) HLT.out hnT9 HX.out h1 HL.out hn9 h2
  have hI : ∀ g gs gv w, TabAt w g gs T → ReadI w gv 0 vs → Calls Try.prog 38 #[.string a, .slice (some ⟨g, 0, none⟩) nT nT, .slice (some ⟨gv, 0, none⟩) n n] w (Gives (ansZ (valO a T vs)) w) := fun g gs gv w h1 h2 => implValueOfTree_any a g nT gs T gv n vs w (by omega) HLT.out hnT9 HX.out h1 HL.out hn9 h2
  generalize valO a T vs = ores at hS hI
  unfold ansZ at hS hI
  have hT := fun w h => toIntSS_any oT cT nT T w HLT.out hnT9 HX.out h
  have hV := fun w h => toIntS_any ov cap n vs w HL.out hn9 h
  have hE := fun b1 b2 g1 g2 gs1 gs2 w h1 h2 => eqIntSS_any b1 b2 g1 g2 nT gs1 gs2 T w HLT.out hnT9 h1 h2
  clear hM hR hn1 hx1
  go_wp2_with fail
  refine (hT _ HT.out).mono ?_; rintro e w1 ⟨g1, gs1, o1, hb1, rfl⟩
  go_wp2_with fail
  refine (hV _ (HI.out.keep hb1)).mono ?_; rintro e w2 ⟨v2, o2, hb2, rfl⟩
  have hc2 := nx hb1 hb2
  have r2 : ReadI w2 v2 0 vs := OwnI.read (by rw [HL.out]; exact o2)
  have t2 := (o1.keep hb2).tab
  go_wp2_with fail
  refine (hS _ _ _ _ t2 r2).mono ?_; rintro e w3 ⟨rfl, hb3⟩
  have hc3 := nx hc2 hb3
  clear o1 o2 r2 t2 hb1 hb2 hb3 hc2
  go_wp2_with fail
  refine (hT _ (HT.out.keep hc3)).mono ?_; rintro e w4 ⟨g4, gs4, o4, hb4, rfl⟩
  have hc4 := nx hc3 hb4
  go_wp2_with fail
  refine (hV _ (HI.out.keep hc4)).mono ?_; rintro e w5 ⟨v5, o5, hb5, rfl⟩
  have hc5 := nx hc4 hb5
  replace o4 := o4.keep hb5
  have r5 : ReadI w5 v5 0 vs := OwnI.read (by rw [HL.out]; exact o5)
  have t5 := o4.tab
  clear hb4 hb5 hc3 hc4
  go_wp2_with fail
  refine (hI _ _ _ _ t5 r5).mono ?_; rintro e w6 ⟨rfl, hb6⟩
  have hc6 := nx hc5 hb6
  replace o4 := o4.keep hb6
  replace o5 := o5.keep hb6
  clear r5 t5 hb6 hc5
  go_wp2_with fail
  refine (hT _ (HT.out.keep hc6)).mono ?_; rintro e w7 ⟨g7, gs7, o7, hb7, rfl⟩
  have hc7 := nx hc6 hb7
  replace o4 := o4.keep hb7
  replace o5 := o5.keep hb7
  clear hb7 hc6
  go_wp2_with fail
  refine (hE _ _ _ _ _ _ _ o4 o7).mono ?_; rintro e w8 ⟨rfl, hb8⟩
  have hc8 := nx hc7 hb8
  replace o5 := o5.keep hb8
  clear o4 o7 hb8 hc7
  go_wp2_with fail
  refine (hV _ (HI.out.keep hc8)).mono ?_; rintro e w9 ⟨v9, o9, hb9, rfl⟩
  have hc9 := nx hc8 hb9
  replace o5 := o5.keep hb9
  clear hb9 hc8
  go_wp2_with fail
  refine (eqIntS_any _ _ _ _ vs _ o5.cells o9.cells).mono ?_; rintro e wz ⟨rfl, dz, rfl⟩
  go_wp2_with fail
  go_ret
  exact ⟨rfl, drewB hc9 _⟩

theorem fnExactValueOfTree_walk (W : World) (a : ByteArray) (ha : a.size ≤ maxLen) (oT : Option Addr) (nT cT : Nat) (T : List (List Int)) (hT : IsTab W oT nT cT T) (ov : Option Addr) (n cap : Nat) (z : List Int) (h : IsInts W ov n cap z) :
    Calls Try.prog 11 #[.string a, .slice oT nT cT, .slice ov n cap] W fun e w' => e = .returned (.bool true) ∧ Below W.heap.size W w' := by
  obtain ⟨h1, h2, h3, _⟩ := h.inI
  obtain ⟨k1, k2, k3⟩ := hT.inII
  exact fnExactValueOfTree_law W a ha oT nT cT T k2 k3 k1 ov n cap (z.take n) h2 h3 h1
end Go.Proofs.Ytkoebmdocenlkaa
