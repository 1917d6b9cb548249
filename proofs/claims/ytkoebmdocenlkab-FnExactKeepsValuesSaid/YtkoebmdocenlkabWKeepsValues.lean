/- The walk of laws.FnExactKeepsValues. -/
import Derived.Test.YtkoebmdocenlkabKp2
namespace Go.Proofs.Ytkoebmdocenlkab
open Go.RowKit

set_option maxRecDepth 100000 in
set_option maxHeartbeats 4000000 in
theorem fnExactKeepsValues_law (W : World) (a0 : ByteArray) (ha0 : a0.size ≤ maxLen) (b0 : ByteArray) (hb0 : b0.size ≤ maxLen) (oT : Option Addr) (nT cT : Nat) (T : List (List Int)) (hlT : T.length = nT) (hmT : (nT : Int) ≤ 9223372036854775807) (hinT : InII W oT T) :
    Calls Try.prog 4 #[.agg #[.string a0, .string b0], .slice oT nT cT] W fun e w' => e = .returned (.bool true) ∧ Below W.heap.size W w' := by
  unfold maxLen at ha0 hb0
  have hsz0 := fun w => szPair_any a0 b0 w (by omega) (by omega) 1048576 (by omega) (by omega)
  by_cases hz0 : (a0.size : Int) + b0.size ≤ 1048576
  rotate_left
  · simp only [if_neg hz0] at hsz0
    clear hinT hlT
    go_enter Try.func4, Try.ntmps4
    go_wp2_with fail
    have hb0 : Below W.heap.size W (W.alloc (.cells #[.string a0, .string b0] 26 (0, 0))) := nxAlloc (Below.refl _ _) _
    have hx0 := heap_alloc_at W (.cells #[.string a0, .string b0] 26 (0, 0))
    generalize (W.alloc (.cells #[.string a0, .string b0] 26 (0, 0))) = w0 at *
    obtain ⟨ka0, kb0, kc0⟩ := two_facts hx0
    refine (hsz0 _).mono ?_; rintro e w1 ⟨rfl, hb1⟩
    have hbw1 := nx hb0 hb1
    clear ka0 kb0 kc0 hx0
    go_wp2_with fail
    go_ret
    exact ⟨rfl, hbw1⟩
  simp only [if_pos hz0] at hsz0
  obtain ⟨lf, hlf⟩ : ∃ lf : Int, lf = 1048576 - a0.size - b0.size := ⟨_, rfl⟩
  rw [← hlf] at hsz0
  have hlf0 : 0 ≤ lf := by omega
  have hlf1 : lf ≤ 1048576 := by omega
  have hszT := Lib.hid (fun w h => szIntSS_at oT cT nT T lf w hlf0 hlf1 hlT hmT h)
  have HT := Lib.hid hinT
  have HLT := Lib.hid hlT
  have HS0 : Hid (∀ g gs w, nT ≤ 1048576 → (∀ x ∈ T, x.length ≤ 1048576) → TabAt w g gs T → Calls Try.prog 14 #[.agg #[.string a0, .string b0], .slice (some ⟨g, 0, none⟩) nT nT] w (Gives (ansKp (keepO a0 b0 T)) w)) := fun g gs w h1 h2 h3 => specKeepsValues_any a0 b0 g gs T nT w (by omega) (by omega) hlT h1 h2 h3
  have HI0 : Hid (∀ g gs w, nT ≤ 1048576 → (∀ x ∈ T, x.length ≤ 1048576) → TabAt w g gs T → Calls Try.prog 17 #[.agg #[.string a0, .string b0], .slice (some ⟨g, 0, none⟩) nT nT] w (Gives (ansKp (keepO a0 b0 T)) w)) := fun g gs w h1 h2 h3 => implKeepsValues_any a0 b0 g gs T nT w (by omega) (by omega) hlT h1 h2 h3
  clear hinT hlT hlf hz0 ha0 hb0
  go_enter Try.func4, Try.ntmps4
  go_wp2_with fail
  have hb0 : Below W.heap.size W (W.alloc (.cells #[.string a0, .string b0] 26 (0, 0))) := nxAlloc (Below.refl _ _) _
  have hx0 := heap_alloc_at W (.cells #[.string a0, .string b0] 26 (0, 0))
  generalize (W.alloc (.cells #[.string a0, .string b0] 26 (0, 0))) = w0 at *
  have hbw0 := hb0
  clear hb0
  obtain ⟨ka0, kb0, kc0⟩ := two_facts hx0
  refine (hsz0 _).mono ?_; rintro e w1 ⟨rfl, hb1⟩
  have hbw1 := nx hbw0 hb1
  replace hx0 := heap_keep hb1 hx0
  clear ka0 kb0 kc0
  obtain ⟨ka0, kb0, kc0⟩ := two_facts hx0
  clear hb1
  go_wp2_with fail
  refine (hszT.out _ (HT.out.keep hbw1)).mono ?_; rintro e w2 ⟨r, rfl, rfl, hM, hR⟩
  by_cases hneg : r < 0
  · clear hM hR
    go_wp2_with fail
    go_ret
    exact ⟨rfl, hbw1⟩
  obtain ⟨hn1, hx1⟩ := hR.out (by omega)
  have HX := Lib.hid hx1
  have hnT9 : nT ≤ 1048576 := by have := HLT.out; omega
  have hS := fun g gs w h => HS0.out g gs w hnT9 HX.out h
  have hI := fun g gs w h => HI0.out g gs w hnT9 HX.out h
  generalize keepO a0 b0 T = ores at hS hI
  unfold ansKp at hS hI
  have hT := fun w h => toIntSS_any oT cT nT T w HLT.out hnT9 HX.out h
  have hE := fun b1 b2 g1 g2 gs1 gs2 w h1 h2 => eqIntSS_any b1 b2 g1 g2 nT gs1 gs2 T w HLT.out hnT9 h1 h2
  clear hM hR hn1 hx1 HS0 HI0 hszT hsz0
  go_wp2_with fail
  refine (toPair_any a0 b0 _).mono ?_; rintro e w2 ⟨rfl, hb2⟩
  have hbw2 := nx hbw1 hb2
  replace hx0 := heap_keep hb2 hx0
  clear ka0 kb0 kc0
  obtain ⟨ka0, kb0, kc0⟩ := two_facts hx0
  clear hb2
  go_wp2_with fail
  refine (hT _ (HT.out.keep hbw2)).mono ?_; rintro e w3 ⟨g3, gs3, o3, hb3, rfl⟩
  have hbw3 := nx hbw2 hb3
  replace hx0 := heap_keep hb3 hx0
  clear ka0 kb0 kc0
  obtain ⟨ka0, kb0, kc0⟩ := two_facts hx0
  clear hb3
  go_wp2_with fail
  refine (hS _ _ _ o3.tab).mono ?_; rintro e w4 ⟨rfl, hb4⟩
  clear o3
  have hbw4 := nx hbw3 hb4
  replace hx0 := heap_keep hb4 hx0
  clear ka0 kb0 kc0
  obtain ⟨ka0, kb0, kc0⟩ := two_facts hx0
  clear hb4
  go_wp2_with fail
  refine (hT _ (HT.out.keep hbw4)).mono ?_; rintro e w5 ⟨g5, gs5, o5, hb5, rfl⟩
  have hbw5 := nx hbw4 hb5
  replace hx0 := heap_keep hb5 hx0
  clear ka0 kb0 kc0
  obtain ⟨ka0, kb0, kc0⟩ := two_facts hx0
  clear hb5
  go_wp2_with fail
  refine (toPair_any a0 b0 _).mono ?_; rintro e w6 ⟨rfl, hb6⟩
  replace o5 := o5.keep hb6
  have hbw6 := nx hbw5 hb6
  replace hx0 := heap_keep hb6 hx0
  clear ka0 kb0 kc0
  obtain ⟨ka0, kb0, kc0⟩ := two_facts hx0
  clear hb6
  have t6 := o5.tab
  go_wp2_with fail
  refine (hI _ _ _ t6).mono ?_; rintro e w7 ⟨rfl, hb7⟩
  replace o5 := o5.keep hb7
  clear t6
  have hbw7 := nx hbw6 hb7
  replace hx0 := heap_keep hb7 hx0
  clear ka0 kb0 kc0
  obtain ⟨ka0, kb0, kc0⟩ := two_facts hx0
  clear hb7
  go_wp2_with fail
  refine (hT _ (HT.out.keep hbw7)).mono ?_; rintro e w8 ⟨g8, gs8, o8, hb8, rfl⟩
  replace o5 := o5.keep hb8
  have hbw8 := nx hbw7 hb8
  replace hx0 := heap_keep hb8 hx0
  clear ka0 kb0 kc0
  obtain ⟨ka0, kb0, kc0⟩ := two_facts hx0
  clear hb8
  go_wp2_with fail
  refine (hE _ _ _ _ _ _ _ o5 o8).mono ?_; rintro e w9 ⟨rfl, hb9⟩
  have hc9 := nx hbw8 hb9
  clear o5 o8 hb9 ka0 kb0 kc0 hx0
  go_wp2_with fail
  go_ret
  exact ⟨rfl, hc9⟩

theorem fnExactKeepsValues_walk (W : World) (a0 : ByteArray) (ha0 : a0.size ≤ maxLen) (b0 : ByteArray) (hb0 : b0.size ≤ maxLen) (oT : Option Addr) (nT cT : Nat) (T : List (List Int)) (hT : IsTab W oT nT cT T) :
    Calls Try.prog 4 #[.agg #[.string a0, .string b0], .slice oT nT cT] W fun e w' => e = .returned (.bool true) ∧ Below W.heap.size W w' := by
  obtain ⟨k1, k2, k3⟩ := hT.inII
  exact fnExactKeepsValues_law W a0 ha0 b0 hb0 oT nT cT T k2 k3 k1
end Go.Proofs.Ytkoebmdocenlkab
