/- The walk of laws.FnExactFirstBroken. -/
import Derived.Test.YtkoebmdocenlkaaTc6
namespace Go.Proofs.Ytkoebmdocenlkaa
open Go.RowKit

theorem BrkF.u {o : Option (List Int)} {w : World} {e : Ending} {w' : World} (h : BrkF o w e w') : ∃ v : Value, OwnI w.heap.size w' v (o.getD []) ∧ Below w.heap.size w w' ∧ e = .returned (.tuple #[v, .bool o.isSome]) := by
  cases o with
  | none => obtain ⟨rfl, hb⟩ := h; exact ⟨_, OwnI.nil _ _, hb, rfl⟩
  | some xs => obtain ⟨g, own, hb, rfl⟩ := h; exact ⟨_, own, hb, rfl⟩
theorem brkO_len (T : List (List Int)) : ((brkO T).getD []).length ≤ 1000000000 := by
  unfold brkO
  split
  · cases firstC T (lcomb 2) (rcomb 2) with
    | none => exact Nat.zero_le _
    | some c => show (digN T.length 3 c).length ≤ _; rw [digN_len]; omega
  · exact Nat.zero_le _

set_option maxRecDepth 100000 in
set_option maxHeartbeats 4000000 in
theorem fnExactFirstBroken_law (W : World) (oT : Option Addr) (nT cT : Nat) (T : List (List Int)) (hlT : T.length = nT) (hmT : (nT : Int) ≤ 9223372036854775807) (hinT : InII W oT T) :
    Calls Try.prog 12 #[.slice oT nT cT] W fun e w' => e = .returned (.bool true) ∧ Below W.heap.size W w' := by
  have hsz := szIntSS_sum oT cT nT T 1048576 W (by omega) (by omega) hlT hmT hinT
  have HT := Lib.hid hinT
  have HLT := Lib.hid hlT
  clear hinT hlT
  go_enter Try.func12, Try.ntmps12
  go_wp2_with fail
  refine hsz.mono ?_; rintro e w1 ⟨r, rfl, rfl, hM, hR⟩
  by_cases hneg : r < 0
  · clear hM hR
    go_wp2_with fail
    go_ret
    exact ⟨rfl, Below.refl _ _⟩
  obtain ⟨hn1, hs1⟩ := hR.out (by omega)
  have HX : Hid (∀ x ∈ T, x.length ≤ 1048576) := fun x hx => Nat.le_trans (totL_mem hx) hs1
  have HSM := Lib.hid hs1
  have hnT9 : nT ≤ 1048576 := by have := HLT.out; omega
  have hS : ∀ g gs w, TabAt w g gs T → Calls Try.prog 41 #[.slice (some ⟨g, 0, none⟩) nT nT] w (fun e w' => ∃ v : Value, OwnI w.heap.size w' v ((brkO T).getD []) ∧ Below w.heap.size w w' ∧ e = .returned (.tuple #[v, .bool (brkO T).isSome])) := fun g gs w h1 => (specFirstBroken_any g gs T nT w HLT.out hnT9 HX.out h1).mono fun _ _ h => h.u
  have hI : ∀ g gs w, TabAt w g gs T → Calls Try.prog 42 #[.slice (some ⟨g, 0, none⟩) nT nT] w (fun e w' => ∃ v : Value, OwnI w.heap.size w' v ((brkO T).getD []) ∧ Below w.heap.size w w' ∧ e = .returned (.tuple #[v, .bool (brkO T).isSome])) := fun g gs w h1 => (implFirstBroken_any g gs T nT w HLT.out hnT9 HX.out h1).mono fun _ _ h => h.u
  have hn9 := brkO_len T
  generalize (brkO T).isSome = bb at hS hI
  generalize (brkO T).getD [] = xs at hS hI hn9
  have hT := fun w h => toIntSS_any oT cT nT T w HLT.out hnT9 HX.out h
  have hE := fun b1 b2 g1 g2 gs1 gs2 w h1 h2 => eqIntSS_any b1 b2 g1 g2 nT gs1 gs2 T w HLT.out hnT9 h1 h2
  have hMM := fun base g top gs w h1 h2 => markIntSS_any base g top nT gs T w HLT.out hnT9 HSM.out h1 h2
  clear hM hR hn1 hs1
  go_wp2_with fail
  refine (hT _ HT.out).mono ?_; rintro e w1 ⟨g1, gs1, o1, hb1, rfl⟩
  go_wp2_with fail
  refine (hS _ _ _ o1.tab).mono ?_; rintro e w2 ⟨v0, own0, hb2, rfl⟩
  have hbw2 := nx hb1 hb2
  clear o1 hb1 hb2
  go_wp2_with fail
  refine (hT _ (HT.out.keep hbw2)).mono ?_; rintro e w3 ⟨g3, gs3, o3, hb3, rfl⟩
  have htop : Hid (∀ r, r < nT → gs3.getD r 0 < w3.heap.size) := fun r hr => (o3.2.2.2 r (by rw [HLT.out]; exact hr)).lt.2
  have hg3 := o3.1
  go_wp2_with fail
  refine (hI _ _ _ o3.tab).mono ?_; rintro e w4 ⟨v1, own1, hb4, rfl⟩
  have hB4 := nx hb3 hb4
  replace o3 := o3.keep hb4
  clear hb4
  go_wp2_with fail
  refine (eqIntS_any _ _ v1 v0 xs _ own1.cells (own0.keep hB4).cells).mono ?_; rintro e w5 ⟨rfl, d5, hw5⟩
  have hb5 : Below w4.heap.size w4 w5 := by rw [hw5]; exact drewB (Below.refl _ _) d5
  clear hw5
  have hB5 := nx hB4 hb5
  replace o3 := o3.keep hb5
  replace own1 := own1.keep hb5
  clear hb5 hB4
  go_wp2_with fail
  refine (hT _ (HT.out.keep (nx hbw2 hB5))).mono ?_; rintro e w6 ⟨g6, gs6, o6, hb6, rfl⟩
  have hB6 := nx hB5 hb6
  replace o3 := o3.keep hb6
  replace own1 := own1.keep hb6
  clear hb6 hB5
  go_wp2_with fail
  refine (hE _ _ _ _ _ _ _ o3 o6).mono ?_; rintro e w7 ⟨rfl, hb7⟩
  have hB7 := nx hB6 hb7
  replace o3 := o3.keep hb7
  replace own1 := own1.keep hb7
  clear o6 hb7 hB6
  go_wp2_with fail
  refine (hMM _ _ _ _ _ o3 htop.out).mono ?_; rintro e w8 ⟨rm, rfl, hrm, hb8, hkp⟩
  have hB8 := hB7.trans (hb8.mono (Nat.le_succ_of_le hg3))
  replace own1 := hkp.out _ _ _ (Nat.le_refl _) own1
  clear o3 hb8 hkp hB7
  go_wp2_with fail
  refine (eqIntS_any _ _ v1 v0 xs _ own1.cells (own0.keep hB8).cells).mono ?_; rintro e w9 ⟨rfl, d9, hw9⟩
  have hb9 : Below w8.heap.size w8 w9 := by rw [hw9]; exact drewB (Below.refl _ _) d9
  clear hw9
  have hB9 := nx hB8 hb9
  replace own1 := own1.keep hb9
  clear hb9 hB8
  go_wp2_with fail
  refine (markIntS_any w3.heap.size v1 xs xs.length rfl 1 _ (by omega) (by omega) hn9 own1).mono ?_; rintro e w10 ⟨rfl, own10, hb10⟩
  have hB10 := hB9.trans (hb10.mono hb3.size)
  clear hB9 hb10 own1
  go_wp2_with fail
  refine (heldIntS_any w3.heap.size v1 xs.length 1 _ (by omega) (by omega) hn9 own10.cells).mono ?_; rintro e w11 ⟨rfl, d11, hw11⟩
  have hb11 : Below w10.heap.size w10 w11 := by rw [hw11]; exact drewB (Below.refl _ _) d11
  clear hw11
  have hB11 := nx hB10 hb11
  replace own10 := own10.keep hb11
  clear hb11 hB10
  go_wp2_with fail
  refine (hT _ (HT.out.keep (nx hbw2 hB11))).mono ?_; rintro e w12 ⟨g12, gs12, o12, hb12, rfl⟩
  have hB12 := nx hB11 hb12
  replace own10 := own10.keep hb12
  clear hb12 hB11
  go_wp2_with fail
  refine (hI _ _ _ o12.tab).mono ?_; rintro e w13 ⟨v2, own2, hb13, rfl⟩
  have hB13 := nx hB12 hb13
  replace own10 := own10.keep hb13
  clear hb13 hB12 o12
  go_wp2_with fail
  refine (eqIntS_any _ _ v2 v0 xs _ own2.cells (own0.keep hB13).cells).mono ?_; rintro e w14 ⟨rfl, d14, hw14⟩
  have hb14 : Below w13.heap.size w13 w14 := by rw [hw14]; exact drewB (Below.refl _ _) d14
  clear hw14
  have hB14 := nx hB13 hb14
  replace own10 := own10.keep hb14
  clear hb14 hB13
  go_wp2_with fail
  refine (heldIntS_any w3.heap.size v1 xs.length 1 _ (by omega) (by omega) hn9 own10.cells).mono ?_; rintro e w15 ⟨rfl, d15, hw15⟩
  have hb15 : Below w14.heap.size w14 w15 := by rw [hw15]; exact drewB (Below.refl _ _) d15
  clear hw15
  go_wp2_with fail
  go_ret
  exact ⟨rfl, nx (nx hbw2 hB14) hb15⟩

theorem fnExactFirstBroken_walk (W : World) (oT : Option Addr) (nT cT : Nat) (T : List (List Int)) (hT : IsTab W oT nT cT T) :
    Calls Try.prog 12 #[.slice oT nT cT] W fun e w' => e = .returned (.bool true) ∧ Below W.heap.size W w' := by
  obtain ⟨k1, k2, k3⟩ := hT.inII
  exact fnExactFirstBroken_law W oT nT cT T k2 k3 k1
end Go.Proofs.Ytkoebmdocenlkaa
