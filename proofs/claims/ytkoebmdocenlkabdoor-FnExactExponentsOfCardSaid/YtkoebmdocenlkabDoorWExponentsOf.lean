/- The walk of laws.FnExactExponentsOf. -/
import Derived.Test.YtkoebmdocenlkabDoorTail
import Derived.Test.YtkoebmdocenlkabDoorExpJ
namespace Go.Proofs.YtkoebmdocenlkabDoor
open Go.RowKit

set_option maxRecDepth 100000 in
set_option maxHeartbeats 1000000 in
theorem fnExactExponentsOf_walk (a : ByteArray) (ha : a.size ≤ maxLen) (w : World) :
    Calls Tryd.prog 4 #[.string a] w fun e w' => e = .returned (.bool true) ∧ Below w.heap.size w w' := by
  unfold maxLen at ha
  by_cases hbiga : (1048576 : Int) < a.size
  · go_enter Tryd.func4, Tryd.ntmps4
    go_wp2_with fail
    go_ret
    exact ⟨rfl, Below.refl _ _⟩
  have hS := fun w => specExponentsOf_any a w (by omega)
  have hI := fun w => implExponentsOf_any a w (by omega)
  have hn9 := ExponentsOf_len a
  obtain ⟨o, ho⟩ : ∃ o, o = ExponentsOf_o a := ⟨_, rfl⟩
  rw [← ho] at hn9
  simp only [← ho] at hS hI
  clear ho
  obtain ⟨xs, ok, hx, hk⟩ : ∃ xs ok, xs = o.getD [] ∧ ok = o.isSome := ⟨_, _, rfl, rfl⟩
  have hS' : ∀ w, Calls Tryd.prog 13 #[.string a] w (AnsI2 xs ok w) := by rw [hx, hk]; exact hS
  have hI' : ∀ w, Calls Tryd.prog 14 #[.string a] w (AnsI2 xs ok w) := by rw [hx, hk]; exact hI
  rw [← hx] at hn9
  clear hS hI hx hk
  go_enter Tryd.func4, Tryd.ntmps4
  go_wp2_with fail
  refine (hS' _).mono ?_; rintro e w1 ⟨v0, own0, hb1, rfl⟩
  go_wp2_with fail
  refine (hI' _).mono ?_; rintro e w2 ⟨v1, own1, hb2, rfl⟩
  go_wp2_with fail
  refine (eqIntS_any _ _ v1 v0 xs _ own1.cells (own0.keep hb2).cells).mono ?_; rintro e w3 ⟨rfl, n3, hw3⟩
  have hb3 : Below w2.heap.size w2 w3 := by rw [hw3]; exact drewB (Below.refl _ _) n3
  clear hw3
  go_wp2_with fail
  refine (markIntS_any w1.heap.size v1 xs xs.length rfl 1 _ (by omega) (by omega) hn9 (own1.keep hb3)).mono ?_; rintro e w4 ⟨rfl, own4, hb4⟩
  have hb14 : Below w1.heap.size w1 w4 := (hb2.trans (hb3.mono hb2.size)).trans hb4
  have own04 := own0.keep hb14
  go_wp2_with fail
  refine (heldIntS_any w1.heap.size v1 xs.length 1 _ (by omega) (by omega) hn9 own4.cells).mono ?_; rintro e w5 ⟨rfl, n5, hw5⟩
  have hb5 : Below w4.heap.size w4 w5 := by rw [hw5]; exact drewB (Below.refl _ _) n5
  clear hw5
  go_wp2_with fail
  refine (hI' _).mono ?_; rintro e w6 ⟨v2, own6, hb6, rfl⟩
  have hb46 : Below w4.heap.size w4 w6 := nx hb5 hb6
  go_wp2_with fail
  refine (eqIntS_any _ _ v2 v0 xs _ own6.cells (own04.keep hb46).cells).mono ?_; rintro e w7 ⟨rfl, n7, hw7⟩
  have hb7 : Below w6.heap.size w6 w7 := by rw [hw7]; exact drewB (Below.refl _ _) n7
  clear hw7
  go_wp2_with fail
  refine (heldIntS_any w1.heap.size v1 xs.length 1 _ (by omega) (by omega) hn9 (own4.keep (nx hb46 hb7)).cells).mono ?_; rintro e w8 ⟨rfl, n8, hw8⟩
  have hb8 : Below w7.heap.size w7 w8 := by rw [hw8]; exact drewB (Below.refl _ _) n8
  clear hw8
  go_wp2_with fail
  go_ret
  exact ⟨rfl, nx (nx (nx (nx hb1 hb14) hb46) hb7) hb8⟩

end Go.Proofs.YtkoebmdocenlkabDoor
